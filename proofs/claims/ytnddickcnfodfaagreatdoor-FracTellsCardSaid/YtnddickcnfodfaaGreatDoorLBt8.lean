/- kitbagref04: the contracts on natural numbers; Mul. -/
import Derived.Test.YtnddickcnfodfaaGreatDoorM10
import Derived.Test.YtnddickcnfodfaaGreatDoorLBt7
set_option maxRecDepth 100000
namespace Go.Proofs.YtnddickcnfodfaaGreatDoor.Bi
open Go.RowKit

theorem risb_any {v : Value} {z : Int} {w : World} (h : IsB w v z) : Calls Tryz.prog 57 #[v] w fun e w' => e = .returned (.bool true) ∧ RowKit.Below w.heap.size w w' := by
  have := rright_any v _ _ w h.arg
  rwa [right_is] at this
section
variable {vx vy : Value} {x y : Nat} {w : World}
theorem rplus_n (vx vy : Value) (x y : Nat) (w : World) (hx : Ints w vx (digs x)) (hy : Ints w vy (digs y)) (hlx : (digs x).length ≤ 1000000) (hly : (digs y).length ≤ 1000000) :
    Calls Tryz.prog 73 #[vx, vy] w (Copy (digs (x + y)) w) := by
  have := rplus_any vx vy _ _ (digs_dig x) (digs_dig y) w hx hy hlx hly
  rwa [digs_val, digs_val, show ((x : Int) + (y : Int)).toNat = x + y by omega] at this
theorem rminus_n (vx vy : Value) (x y : Nat) (hle : y ≤ x) (w : World) (hx : Ints w vx (digs x)) (hy : Ints w vy (digs y)) (hlx : (digs x).length ≤ 1000000) :
    Calls Tryz.prog 75 #[vx, vy] w (Copy (digs (x - y)) w) := by
  have := rminus_any vx vy _ _ (digs_dig x) (digs_dig y) (by rw [digs_val, digs_val]; omega) w hx hy hlx
  rwa [digs_val, digs_val, show ((x : Int) - (y : Int)).toNat = x - y by omega] at this
theorem rtimes_n (vx vy : Value) (x y : Nat) (w : World) (hx : Ints w vx (digs x)) (hy : Ints w vy (digs y)) (hlx : (digs x).length ≤ 1000000) (hly : (digs y).length ≤ 1000000) :
    Calls Tryz.prog 72 #[vx, vy] w (Copy (digs (x * y)) w) := by
  have := rtimes_any vx vy _ _ (digs_dig x) (digs_dig y) w hx hy hlx hly
  rwa [digs_val, digs_val, show ((x : Int) * (y : Int)).toNat = x * y by rw [← Int.natCast_mul]; exact Int.toNat_natCast _] at this
theorem rless_n (vx vy : Value) (x y : Nat) (w : World) (hx : Ints w vx (digs x)) (hy : Ints w vy (digs y)) :
    Calls Tryz.prog 74 #[vx, vy] w fun e w' => e = .returned (.bool (decide (x < y))) ∧ w = w' := by
  have := rless_any vx vy _ _ (digs_dig x) (digs_dig y) w hx hy
  rwa [digs_val, digs_val, decide_eq_decide.2 (show (x : Int) < (y : Int) ↔ x < y by omega)] at this
/-- A call that returns quotient and remainder, in blocks of their own. -/
def OverN (x y : Nat) (w : World) (e : Ending) (w' : World) : Prop := ∃ vq vr, e = .returned (.tuple #[vq, vr]) ∧ OwnI w' vq (digs (x / y)) ∧ OwnI w' vr (digs (x % y)) ∧ RowKit.Below w.heap.size w w' ∧ (∀ b, blk vq = some b → w.heap.size ≤ b) ∧ ∀ b, blk vr = some b → w.heap.size ≤ b
theorem rover_n (vx vy : Value) (x y : Nat) (w : World) (hx : Ints w vx (digs x)) (hy : Ints w vy (digs y)) (hlx : (digs x).length ≤ 1000000) (hly : (digs y).length ≤ 900000) (h0 : 0 < y) :
    Calls Tryz.prog 90 #[vx, vy] w (OverN x y w) := by
  have := rover_any vx vy _ _ (digs_dig x) (digs_dig y) w hx hy hlx hly (by rw [digs_val]; omega)
  unfold Over at this
  rw [digs_val, digs_val, show ((x : Int) / (y : Int)).toNat = x / y by rw [← Int.natCast_ediv]; exact Int.toNat_natCast _, show ((x : Int) % (y : Int)).toNat = x % y by rw [← Int.natCast_emod]; exact Int.toNat_natCast _] at this
  exact this
theorem rmade_n (sg : Int) (a : Option Addr) (cap m : Nat) (n : Int) (hv : n.natAbs = m) (hs : n ≠ 0 → sg = n.sign) (w : World) (h : Ints w (.slice a (digs m).length cap) (digs m)) (hl : (digs m).length ≤ 100000000) :
    Calls Tryz.prog 71 #[.int .i64 sg, .slice a (digs m).length cap] w (AnsB n w) :=
  rmade_any sg a cap _ (digs_dig m) n (by rw [digs_val, hv]) hs w h hl
end

set_option maxHeartbeats 4000000 in
theorem rmul_ok (va vb : Value) (a b : Int) (w : World) (ha : IsB w va a) (hb : IsB w vb b) (hla : (digs a.natAbs).length ≤ 1000000) (hlb : (digs b.natAbs).length ≤ 1000000) :
    Calls Tryz.prog 46 #[va, vb] w (Ans (a * b) 0 w) := by
  obtain ⟨sa, rfl, hia⟩ := id ha
  obtain ⟨sb, rfl, hib⟩ := id hb
  have HA := Lib.hid ha
  have HB := Lib.hid hb
  have HIA := Lib.hid hia
  have HIB := Lib.hid hib
  obtain ⟨aa, na, ca, rfl⟩ : ∃ aa na ca, sa = .slice aa na ca := by obtain ⟨x, y, z, _⟩ := hia; exact ⟨_, _, _, z⟩
  obtain ⟨ab, nb, cb, rfl⟩ : ∃ aa na ca, sb = .slice aa na ca := by obtain ⟨x, y, z, _⟩ := hib; exact ⟨_, _, _, z⟩
  have hw : IntKind.i64.wrap (a.sign * b.sign) = (a * b).sign := by
    rw [IntWalk.i64_in _ (by have := sign_bd a b; omega), Int.sign_mul]
  have hlp : (digs (a.natAbs * b.natAbs)).length ≤ 100000000 := by
    have := Sz.mul (Sz.of hla) (Sz.of hlb)
    unfold Sz at this
    rw [Int.natAbs_mul] at this
    exact Nat.le_trans (digs_le this) (by omega)
  have hpn : (a * b).natAbs = a.natAbs * b.natAbs := Int.natAbs_mul a b
  obtain ⟨p, ep⟩ : ∃ p, a * b = p := ⟨_, rfl⟩
  rw [ep] at hw hpn ⊢
  have HPN := Lib.hid hpn
  have HLP := Lib.hid hlp
  clear ep hpn hlp
  have hx := Bx.start w a.sign (.slice aa na ca) b.sign (.slice ab nb cb)
  have HX0 := Lib.hid hx
  clear ha hb hia hib hx
  go_enter Tryz.func46, Tryz.ntmps46
  go_wp2_with fail
  refine (risb_any (HA.out.later HX0.out.below)).mono ?_
  rintro e w1 ⟨rfl, hb1⟩
  have HX1 := Lib.hid (HX0.out.later hb1)
  obtain ⟨c00, c01, c10, c11⟩ := HX1.out.cells
  clear hb1
  go_wp2_with fail
  refine (risb_any (HB.out.later HX1.out.below)).mono ?_
  rintro e w2 ⟨rfl, hb2⟩
  have HX2 := Lib.hid (HX1.out.later hb2)
  obtain ⟨d00, d01, d10, d11⟩ := HX2.out.cells
  clear hb2 c00 c01 c10 c11
  go_wp2_with fail
  have HXD := Lib.hid (HX2.out.heap (W' := w2.drew) rfl rfl rfl rfl)
  have e2 := HXD.out.cells
  clear d00 d01 d10 d11
  go_region_held3 (fun W => W.cell? ⟨w.heap.size, 0, none⟩ = some (.int .i64 a.sign) ∧ W.cell? ⟨w.heap.size, 1, none⟩ = some (.slice aa na ca) ∧ W.cell? ⟨w.heap.size + 1, 0, none⟩ = some (.int .i64 b.sign) ∧ W.cell? ⟨w.heap.size + 1, 1, none⟩ = some (.slice ab nb cb))
    (first | exact e2 | exact x3 | exact x4 | exact HX4.out.stays _ _)
    (first
      | (go_at_call 72; (with_reducible refine (rtimes_n _ _ a.natAbs b.natAbs _ ?_ ?_ hla hlb).mono ?_); (focus exact HIA.out.later HXD.out.below); (focus exact HIB.out.later HXD.out.below); rintro e w3 ⟨v3, rfl, ho3, hb3, hf3⟩; obtain ⟨ax, cx, rfl⟩ := ho3.fit; have HX3 := Lib.hid (HXD.out.later hb3); have x3 := HX3.out.cells; have HI3 := Lib.hid (ho3.ints (Nat.le_trans HLP.out (by decide))); clear ho3 hb3 hf3)
      | (go_at_call 71; (with_reducible refine (rmade_n _ ax cx _ p HPN.out (fun _ => rfl) _ HI3.out HLP.out).mono ?_); rintro e w4 ⟨s4, rfl, hi4, hb4, ho4⟩; obtain ⟨a5, c5, rfl, hi5⟩ := hi4.open; have HO4 := Lib.hid (ho4.mono HX3.out.below.size); have HZ4 := Lib.hid (ho4.mono HX3.out.size); have HX4 := Lib.hid (HX3.out.later hb4); have x4 := HX4.out.cells; have HI5 := Lib.hid hi5; clear hi4 hi5 hb4 ho4; obtain ⟨r0, r1, f0, f1⟩ := HX4.out.rcells))
  go_wp2_with fail
  have hoff := HZ4.out (w.heap.size + 1 + 1) (by simp)
  exact bodyPost_ret (v := .tuple #[.agg #[.int .i64 p.sign, .slice a5 (digs p.natAbs).length c5], .int .i64 0]) (by simp [results, Tryz.results46, go_sem, r0, r1]) rfl
    ⟨_, rfl, (HI5.out.set hoff 0 _).set hoff 1 _, HX4.out.put _ _, HO4.out⟩
end Go.Proofs.YtnddickcnfodfaaGreatDoor.Bi
