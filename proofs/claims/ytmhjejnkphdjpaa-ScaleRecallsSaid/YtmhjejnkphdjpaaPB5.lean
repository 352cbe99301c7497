/- The contracts of Mul, sum, Add, Sub, Neg, Compare, Same. The contracts of Add, Sub, Mul, Gcd where an argument is not valid. The contracts of cmp.Or and sum. The contract of sum. The contracts of Add and Sub. The contract of Div. -/
import Derived.Test.YtmhjejnkphdjpaaPB4
import Derived.Deep.RegionHeld3
set_option maxRecDepth 100000
namespace Go.Proofs.Ytmhjejnkphdjpaa.Bi
open Go.RowKit

theorem bad_of (d : Int) : badD d = false ↔ 0 ≤ d ∧ d < 1048576 := by unfold badD; simp; omega
/-- What is valid is the sign and the digits of a number. -/
theorem right_of {s : Int} {l : List Int} (h : rightB s l = true) : ∃ z : Int, s = z.sign ∧ l = digs z.natAbs := by
  unfold rightB at h
  simp only [Bool.not_eq_true', Bool.or_eq_false_iff, decide_eq_false_iff_not, bne_eq_false_iff_eq, Bool.and_eq_false_iff] at h
  obtain ⟨⟨⟨⟨h1, h2⟩, h3⟩, h4⟩, h5⟩ := h
  have hd : Dig l := by
    intro d hd
    rw [List.any_eq_false] at h5
    have := h5 d hd
    rw [← bad_of]; simpa using this
  have hv := (val_bd hd).1
  have htop : l = [] ∨ l.getD (l.length - 1) 0 ≠ 0 := by
    rcases h4 with h | h
    · left; exact List.eq_nil_of_length_eq_zero (by omega)
    · right; simpa using h
  have hl := dig_eq hd htop
  by_cases h0 : l.length = 0
  · obtain rfl : l = [] := List.eq_nil_of_length_eq_zero h0
    refine ⟨0, ?_, digs_zero.symm⟩
    simp at h3; simpa using h3
  · have hs : s ≠ 0 := by
      intro e
      rw [e] at h3
      have : (l.length == 0) = true := by rw [← h3]; rfl
      simp at this; simp [this] at h0
    have hv0 : (val l).toNat ≠ 0 := fun e => by rw [e, digs_zero] at hl; simp [hl] at h0
    rcases Int.lt_or_gt_of_ne hs with h | h
    · refine ⟨-(val l), ?_, ?_⟩
      · rw [Int.sign_eq_neg_one_of_neg (by omega)]; omega
      · rw [show (-(val l)).natAbs = (val l).toNat by omega]; exact hl
    · refine ⟨val l, ?_, ?_⟩
      · rw [Int.sign_eq_one_of_pos (by omega)]; omega
      · rw [show (val l).natAbs = (val l).toNat by omega]; exact hl
theorem right_is (z : Int) : rightB z.sign (digs z.natAbs) = true := by
  have hd := digs_dig z.natAbs
  have hany : (digs z.natAbs).any badD = false := by
    rw [List.any_eq_false]
    intro d hdm
    have := (bad_of d).2 (hd d hdm)
    simp [this]
  unfold rightB
  rw [hany]
  rcases Int.lt_trichotomy z 0 with h | h | h
  · have hp : 0 < z.natAbs := by omega
    have h1 := digs_top hp
    have h2 := digs_pos_len hp
    rw [Int.sign_eq_neg_one_of_neg h]
    generalize (digs z.natAbs).getD ((digs z.natAbs).length - 1) 0 = t at h1
    have h3 : (t == 0) = false := by simpa using h1
    have h4 : ((digs z.natAbs).length == 0) = false := by simp; intro e; rw [e] at h2; simp at h2
    rw [h3, h4]; simp
  · subst h; simp [digs_zero]
  · have hp : 0 < z.natAbs := by omega
    have h1 := digs_top hp
    have h2 := digs_pos_len hp
    rw [Int.sign_eq_one_of_pos h]
    generalize (digs z.natAbs).getD ((digs z.natAbs).length - 1) 0 = t at h1
    have h3 : (t == 0) = false := by simpa using h1
    have h4 : ((digs z.natAbs).length == 0) = false := by simp; intro e; rw [e] at h2; simp at h2
    rw [h3, h4]; simp
theorem IsB.arg {w : World} {v : Value} {z : Int} (h : IsB w v z) : Arg w v z.sign (digs z.natAbs) := h
theorem IsB.later {w w' : World} {v : Value} {z : Int} (h : IsB w v z) (hb : RowKit.Below w.heap.size w w') : IsB w' v z := by
  obtain ⟨s, e, hi⟩ := h
  exact ⟨s, e, hi.later hb⟩
theorem isb_any {v : Value} {z : Int} {w : World} (h : IsB w v z) : Calls Try.prog 72 #[v] w fun e w' => e = .returned (.bool true) ∧ RowKit.Below w.heap.size w w' := by
  have := right_any v _ _ w h.arg
  rwa [right_is] at this
theorem Ints.open {w : World} {v : Value} {l : List Int} (hi : Ints w v l) : ∃ a c, v = .slice a l.length c ∧ Ints w (.slice a l.length c) l := by
  obtain ⟨a, c, rfl, _⟩ := id hi
  exact ⟨a, c, rfl, hi⟩
/-- Two boxes and a cell for the result lie behind w. -/
structure Bx (w : World) (sa : Int) (va : Value) (sb : Int) (vb : Value) (W : World) : Prop where
  c00 : W.cell? ⟨w.heap.size, 0, none⟩ = some (.int .i64 sa)
  c01 : W.cell? ⟨w.heap.size, 1, none⟩ = some va
  c10 : W.cell? ⟨w.heap.size + 1, 0, none⟩ = some (.int .i64 sb)
  c11 : W.cell? ⟨w.heap.size + 1, 1, none⟩ = some vb
  res : W.heap[w.heap.size + 1 + 1]? = some (.cells #[.int .i64 0, .slice none 0 0] 32 (0, 0))
  below : RowKit.Below w.heap.size w W
  size : w.heap.size + 1 + 1 < W.heap.size
theorem Bx.later {w W W' : World} {sa sb : Int} {va vb : Value} (h : Bx w sa va sb vb W) (hb : RowKit.Below W.heap.size W W') : Bx w sa va sb vb W' := by
  have hz := h.size
  have hc : ∀ b o, b < W.heap.size → W'.cell? ⟨b, o, none⟩ = W.cell? ⟨b, o, none⟩ := fun b o hb' => hb.cell (p := ⟨b, o, none⟩) hb'
  refine ⟨(hc _ _ (by omega)).trans h.c00, (hc _ _ (by omega)).trans h.c01, (hc _ _ (by omega)).trans h.c10, (hc _ _ (by omega)).trans h.c11, (hb.block _ hz).trans h.res, h.below.trans (hb.mono ?_), Nat.lt_of_lt_of_le hz hb.size⟩
  have := h.below.size; omega
theorem Bx.heap {w W W' : World} {sa sb : Int} {va vb : Value} (h : Bx w sa va sb vb W) (hb : W'.heap = W.heap) (h1 : W'.os = W.os) (h2 : W'.tape = W.tape) (h3 : W'.output = W.output) : Bx w sa va sb vb W' :=
  h.later ⟨h1, h2, h3, by rw [hb]; exact Nat.le_refl _, fun k _ => by rw [hb]⟩
theorem Bx.start (w : World) (sa : Int) (va : Value) (sb : Int) (vb : Value) :
    Bx w sa va sb vb (((w.alloc (.cells #[.int .i64 sa, va] 32)).alloc (.cells #[.int .i64 sb, vb] 32)).alloc (.cells #[.int .i64 0, .slice none 0 0] 32)) := by
  have e : (((w.alloc (.cells #[.int .i64 sa, va] 32)).alloc (.cells #[.int .i64 sb, vb] 32)).alloc (.cells #[.int .i64 0, .slice none 0 0] 32)).heap = ((w.heap.push (.cells #[.int .i64 sa, va] 32)).push (.cells #[.int .i64 sb, vb] 32)).push (.cells #[.int .i64 0, .slice none 0 0] 32) := rfl
  have e0 : (((w.alloc (.cells #[.int .i64 sa, va] 32)).alloc (.cells #[.int .i64 sb, vb] 32)).alloc (.cells #[.int .i64 0, .slice none 0 0] 32)).heap[w.heap.size]? = some (.cells #[.int .i64 sa, va] 32 (0, 0)) := by
    rw [e, Array.getElem?_push, if_neg (by simp; omega), Array.getElem?_push, if_neg (by simp), Array.getElem?_push, if_pos rfl]
  have e1 : (((w.alloc (.cells #[.int .i64 sa, va] 32)).alloc (.cells #[.int .i64 sb, vb] 32)).alloc (.cells #[.int .i64 0, .slice none 0 0] 32)).heap[w.heap.size + 1]? = some (.cells #[.int .i64 sb, vb] 32 (0, 0)) := by
    rw [e, Array.getElem?_push, if_neg (by simp), Array.getElem?_push, if_pos (by simp)]
  have e2 : (((w.alloc (.cells #[.int .i64 sa, va] 32)).alloc (.cells #[.int .i64 sb, vb] 32)).alloc (.cells #[.int .i64 0, .slice none 0 0] 32)).heap[w.heap.size + 1 + 1]? = some (.cells #[.int .i64 0, .slice none 0 0] 32 (0, 0)) := by
    rw [e, Array.getElem?_push, if_pos (by simp)]
  refine ⟨by rw [cell_of_row _ _ _ _ _ _ e0]; rfl, by rw [cell_of_row _ _ _ _ _ _ e0]; rfl, by rw [cell_of_row _ _ _ _ _ _ e1]; rfl, by rw [cell_of_row _ _ _ _ _ _ e1]; rfl, e2, ?_, by rw [e]; simp⟩
  exact (below_alloc w _).trans (((below_alloc _ _).trans ((below_alloc _ _).mono (by simp))).mono (by simp))
theorem Bx.cells {w W : World} {sa sb : Int} {va vb : Value} (h : Bx w sa va sb vb W) : W.cell? ⟨w.heap.size, 0, none⟩ = some (.int .i64 sa) ∧ W.cell? ⟨w.heap.size, 1, none⟩ = some va ∧ W.cell? ⟨w.heap.size + 1, 0, none⟩ = some (.int .i64 sb) ∧ W.cell? ⟨w.heap.size + 1, 1, none⟩ = some vb :=
  ⟨h.c00, h.c01, h.c10, h.c11⟩
theorem Bx.rcells {w W : World} {sa sb : Int} {va vb : Value} (h : Bx w sa va sb vb W) : W.cell? ⟨w.heap.size + 1 + 1, 0, none⟩ = some (.int .i64 0) ∧ W.cell? ⟨w.heap.size + 1 + 1, 1, none⟩ = some (.slice none 0 0) ∧ W.frozen? ⟨w.heap.size + 1 + 1, 0, none⟩ = false ∧ W.frozen? ⟨w.heap.size + 1 + 1, 1, none⟩ = false :=
  ⟨by rw [cell_of_row _ _ _ _ _ _ h.res]; rfl, by rw [cell_of_row _ _ _ _ _ _ h.res]; rfl, by simp [World.frozen?, h.res], by simp [World.frozen?, h.res]⟩
theorem Bx.stays {w W : World} {sa sb : Int} {va vb : Value} (h : Bx w sa va sb vb W) (u v : Value) :
    let W' := (W.setCell ⟨w.heap.size + 1 + 1, 0, none⟩ u).setCell ⟨w.heap.size + 1 + 1, 1, none⟩ v
    W'.cell? ⟨w.heap.size, 0, none⟩ = some (.int .i64 sa) ∧ W'.cell? ⟨w.heap.size, 1, none⟩ = some va ∧ W'.cell? ⟨w.heap.size + 1, 0, none⟩ = some (.int .i64 sb) ∧ W'.cell? ⟨w.heap.size + 1, 1, none⟩ = some vb := by
  intro W'
  have hc : ∀ b o, b ≠ w.heap.size + 1 + 1 → W'.cell? ⟨b, o, none⟩ = W.cell? ⟨b, o, none⟩ := fun b o hb =>
    World.cell?_of_block (w := W) ((Below.heap_setCell _ _ _ _ hb).trans (Below.heap_setCell _ _ _ _ hb))
  exact ⟨(hc _ _ (by omega)).trans h.c00, (hc _ _ (by omega)).trans h.c01, (hc _ _ (by omega)).trans h.c10, (hc _ _ (by omega)).trans h.c11⟩
/-- The result is stored. -/
theorem Bx.put {w W : World} {sa sb : Int} {va vb : Value} (h : Bx w sa va sb vb W) (u v : Value) : RowKit.Below w.heap.size w ((W.setCell ⟨w.heap.size + 1 + 1, 0, none⟩ u).setCell ⟨w.heap.size + 1 + 1, 1, none⟩ v) :=
  (h.below.setCell (by simp; omega) _).setCell (by simp; omega) _

theorem sign_bd (a b : Int) : -1 ≤ a.sign * b.sign ∧ a.sign * b.sign ≤ 1 := by
  rw [← Int.sign_mul]
  rcases Int.lt_trichotomy (a * b) 0 with h | h | h
  · rw [Int.sign_eq_neg_one_of_neg h]; omega
  · rw [h]; simp
  · rw [Int.sign_eq_one_of_pos h]; omega
/-- A call that returns a number and an error's code. -/
def Ans (n er : Int) (w : World) (e : Ending) (w' : World) : Prop := ∃ s, e = .returned (.tuple #[.agg #[.int .i64 n.sign, s], .int .i64 er]) ∧ Ints w' s (digs n.natAbs) ∧ RowKit.Below w.heap.size w w' ∧ Fresh w.heap.size s

set_option maxHeartbeats 4000000 in
theorem mul_ok (va vb : Value) (a b : Int) (w : World) (ha : IsB w va a) (hb : IsB w vb b) (hla : (digs a.natAbs).length ≤ 1000000) (hlb : (digs b.natAbs).length ≤ 1000000) :
    Calls Try.prog 57 #[va, vb] w (Ans (a * b) 0 w) := by
  obtain ⟨sa, rfl, hia⟩ := id ha
  obtain ⟨sb, rfl, hib⟩ := id hb
  have HA := Lib.hid ha
  have HB := Lib.hid hb
  have HIA := Lib.hid hia
  have HIB := Lib.hid hib
  obtain ⟨aa, na, ca, rfl⟩ : ∃ aa na ca, sa = .slice aa na ca := by obtain ⟨x, y, z, _⟩ := hia; exact ⟨_, _, _, z⟩
  obtain ⟨ab, nb, cb, rfl⟩ : ∃ aa na ca, sb = .slice aa na ca := by obtain ⟨x, y, z, _⟩ := hib; exact ⟨_, _, _, z⟩
  have hw : IntKind.i64.wrap (a.sign * b.sign) = (a * b).sign := by
    rw [IntWalk.i64_in _ (by have := sign_bd a b; omega), Int.sign_mul]
  have hval : ∀ L, val L = val (digs a.natAbs) * val (digs b.natAbs) → ((a * b).natAbs : Int) = val L := fun L h => by rw [h, digs_val, digs_val, Int.natAbs_mul]; omega
  obtain ⟨p, ep⟩ : ∃ p, a * b = p := ⟨_, rfl⟩
  rw [ep] at hw hval ⊢
  clear ep
  have HVL := Lib.hid hval
  clear hval
  have hx := Bx.start w a.sign (.slice aa na ca) b.sign (.slice ab nb cb)
  have HX0 := Lib.hid hx
  clear ha hb hia hib hx
  go_enter Try.func57, Try.ntmps57
  go_wp2_with fail
  refine (isb_any (HA.out.later HX0.out.below)).mono ?_
  rintro e w1 ⟨rfl, hb1⟩
  have HX1 := Lib.hid (HX0.out.later hb1)
  obtain ⟨c00, c01, c10, c11⟩ := HX1.out.cells
  clear hb1
  go_wp2_with fail
  refine (isb_any (HB.out.later HX1.out.below)).mono ?_
  rintro e w2 ⟨rfl, hb2⟩
  have HX2 := Lib.hid (HX1.out.later hb2)
  obtain ⟨d00, d01, d10, d11⟩ := HX2.out.cells
  clear hb2 c00 c01 c10 c11
  go_wp2_with fail
  have HXD := Lib.hid (HX2.out.heap (W' := w2.drew) rfl rfl rfl rfl)
  have e2 := HXD.out.cells
  clear d00 d01 d10 d11
  go_region_held3 (fun W => W.cell? ⟨w.heap.size, 0, none⟩ = some (.int .i64 a.sign) ∧ W.cell? ⟨w.heap.size, 1, none⟩ = some (.slice aa na ca) ∧ W.cell? ⟨w.heap.size + 1, 0, none⟩ = some (.int .i64 b.sign) ∧ W.cell? ⟨w.heap.size + 1, 1, none⟩ = some (.slice ab nb cb))
    (first | exact e2 | exact x3 | exact x4 | exact HX4.out.stays _ _)
    (first
      | (go_at_call 81; (with_reducible refine (times_any _ _ _ _ _ ?_ ?_ (digs_dig a.natAbs) (digs_dig b.natAbs) hla hlb).mono ?_); (focus exact HIA.out.later HXD.out.below); (focus exact HIB.out.later HXD.out.below); rintro e w3 ⟨ax, cx, L, rfl, hdL, hvL, hiL, hb3, hlL, hfL⟩; have HF3 := Lib.hid hfL; have HX3 := Lib.hid (HXD.out.later hb3); have x3 := HX3.out.cells; have HDL := Lib.hid hdL; have HV3 := Lib.hid (HVL.out L hvL); have HI3 := Lib.hid hiL; clear hdL hvL hiL hb3 hfL)
      | (go_at_call 75; (with_reducible refine (signed_any _ ax cx L HDL.out p HV3.out (fun _ => rfl) _ HI3.out).mono ?_); rintro e w4 ⟨s4, rfl, hi4, hb4, ho4⟩; obtain ⟨a5, c5, rfl, hi5⟩ := hi4.open; have HO4 := Lib.hid ho4; have HX4 := Lib.hid (HX3.out.later hb4); have x4 := HX4.out.cells; have HI5 := Lib.hid hi5; clear hi4 hi5 hb4 ho4; obtain ⟨r0, r1, f0, f1⟩ := HX4.out.rcells))
  go_wp2_with fail
  have hoff := HO4.out (w.heap.size + 1 + 1) (HF3.out _ HX2.out.size)
  exact bodyPost_ret (v := .tuple #[.agg #[.int .i64 p.sign, .slice a5 (digs p.natAbs).length c5], .int .i64 0]) (by simp [results, Try.results57, go_sem, r0, r1]) rfl
    ⟨_, rfl, (HI5.out.set hoff 0 _).set hoff 1 _, HX4.out.put _ _, fun g hg => HO4.out g (HF3.out g (by have := HX2.out.size; simp; omega))⟩
end Go.Proofs.Ytmhjejnkphdjpaa.Bi

namespace Go.Proofs.Ytmhjejnkphdjpaa.Bi
open Go.RowKit

set_option maxHeartbeats 2000000 in
theorem gcd_bad (va vb : Value) (sa sb : Int) (la lb : List Int) (w : World) (ha : Arg w va sa la) (hb : Arg w vb sb lb) (hr : (rightB sa la && rightB sb lb) = false) :
    Calls Try.prog 52 #[va, vb] w (Ans 0 1 w) := by
  obtain ⟨va', rfl, hia⟩ := id ha
  obtain ⟨vb', rfl, hib⟩ := id hb
  obtain ⟨aa, ca, rfl, _⟩ := hia.open
  obtain ⟨ab, cb, rfl, _⟩ := hib.open
  obtain ⟨na, ena⟩ : ∃ n, la.length = n := ⟨_, rfl⟩
  obtain ⟨nb, enb⟩ : ∃ n, lb.length = n := ⟨_, rfl⟩
  rw [ena] at ha ⊢
  rw [enb] at hb ⊢
  have HA := Lib.hid ha
  have HB := Lib.hid hb
  have hx := Bx.start w sa (.slice aa na ca) sb (.slice ab nb cb)
  have HX0 := Lib.hid hx
  cases hra : rightB sa la
  · have HR := Lib.hid hra
    clear ha hb hia hib hx hr hra ena enb
    go_enter Try.func52, Try.ntmps52
    go_wp2_with fail
    refine (right_any _ sa la _ (HA.out.later HX0.out.below)).mono ?_
    rintro e w1 ⟨rfl, hb1⟩
    rw [HR.out]
    have HX1 := Lib.hid (HX0.out.later hb1)
    obtain ⟨r0, r1, f0, f1⟩ := HX1.out.rcells
    clear hb1
    go_wp2_with fail
    exact bodyPost_ret (v := .tuple #[.agg #[.int .i64 0, .slice none 0 0], .int .i64 1]) (by simp [results, Try.results52, go_sem, r0, r1]) rfl
      ⟨_, rfl, by rw [show (0 : Int).natAbs = 0 from rfl, digs_zero]; exact Ints.nil _, HX1.out.put _ _, fun g _ => off_nil g 0 0⟩
  · rw [hra, Bool.true_and] at hr
    have HR := Lib.hid hra
    have HR2 := Lib.hid hr
    clear ha hb hia hib hx hr hra ena enb
    go_enter Try.func52, Try.ntmps52
    go_wp2_with fail
    refine (right_any _ sa la _ (HA.out.later HX0.out.below)).mono ?_
    rintro e w1 ⟨rfl, hb1⟩
    rw [HR.out]
    have HX1 := Lib.hid (HX0.out.later hb1)
    obtain ⟨c00, c01, c10, c11⟩ := HX1.out.cells
    clear hb1
    go_wp2_with fail
    refine (right_any _ sb lb _ (HB.out.later HX1.out.below)).mono ?_
    rintro e w2 ⟨rfl, hb2⟩
    rw [HR2.out]
    have HX2 := Lib.hid (HX1.out.later hb2)
    obtain ⟨r0, r1, f0, f1⟩ := HX2.out.rcells
    clear hb2 c00 c01 c10 c11
    go_wp2_with fail
    exact bodyPost_ret (v := .tuple #[.agg #[.int .i64 0, .slice none 0 0], .int .i64 1]) (by simp [results, Try.results52, go_sem, r0, r1]) rfl
      ⟨_, rfl, by rw [show (0 : Int).natAbs = 0 from rfl, digs_zero]; exact Ints.nil _, HX2.out.put _ _, fun g _ => off_nil g 0 0⟩
end Go.Proofs.Ytmhjejnkphdjpaa.Bi

namespace Go.Proofs.Ytmhjejnkphdjpaa.Bi
open Go.RowKit

def orI (x y : Int) : Int := if x = 0 then y else x
theorem or_any (g cap : Nat) (_hcap : 2 ≤ cap) (x y : Int) (w : World) (c0 : w.cell? ⟨g, 0, none⟩ = some (.int .i64 x)) (c1 : w.cell? ⟨g, 1, none⟩ = some (.int .i64 y)) :
    Calls Try.prog 94 #[.slice (some ⟨g, 0, none⟩) 2 cap] w fun e w' => e = .returned (.int .i64 (orI x y)) ∧ w = w' := by
  obtain ⟨r, hr⟩ : ∃ r, orI x y = r := ⟨_, rfl⟩
  rw [hr]
  have HR := Lib.hid hr
  clear hr
  go_enter Try.func94, Try.ntmps94
  go_wp2_with fail
  go_loop [8] (fun t => ∃ k : Nat, k ≤ 2 ∧ t = .int .i64 k ∧ (0 < k → x = 0) ∧ (1 < k → y = 0)) (fun t => 2 - (intOf t).toNat)
  case atStart => exact ⟨0, by omega, rfl, fun h => by omega, fun h => by omega⟩
  case round =>
    obtain ⟨k, hk, rfl, hx, hy⟩ := hrel
    have HX := Lib.hid hx
    have HY := Lib.hid hy
    clear hx hy
    match k, hk with
    | 0, _ =>
      by_cases h0 : x = 0
      · subst h0
        go_wp2_with fail
        go_round
        case rel => exact ⟨1, by omega, by go_num, by simp, fun h => by omega⟩
        case measure => simp [intOf]
      · have h1 : (x != 0) = true := by simpa using h0
        have hr := HR.out
        unfold orI at hr
        rw [if_neg h0] at hr
        subst hr
        go_wp2_with fail
        go_ret
        exact ⟨rfl, rfl⟩
    | 1, _ =>
      obtain rfl := HX.out (by omega)
      have hr := HR.out
      unfold orI at hr
      rw [if_pos rfl] at hr
      subst hr
      by_cases h0 : y = 0
      · subst h0
        go_wp2_with fail
        go_round
        case rel => exact ⟨2, by omega, by go_num, by simp, by simp⟩
        case measure => simp [intOf]
      · have h1 : (y != 0) = true := by simpa using h0
        go_wp2_with fail
        go_ret
        exact ⟨rfl, rfl⟩
    | 2, _ =>
      obtain rfl := HX.out (by omega)
      obtain rfl := HY.out (by omega)
      have hr := HR.out
      unfold orI at hr
      rw [if_pos rfl] at hr
      subst hr
      go_wp2_with fail
      go_ret
      exact ⟨rfl, rfl⟩
end Go.Proofs.Ytmhjejnkphdjpaa.Bi

namespace Go.Proofs.Ytmhjejnkphdjpaa.Bi
open Go.RowKit

/-- A call that returns a number alone. -/
def AnsB (n : Int) (w : World) (e : Ending) (w' : World) : Prop := ∃ s, e = .returned (.agg #[.int .i64 n.sign, s]) ∧ Ints w' s (digs n.natAbs) ∧ RowKit.Below w.heap.size w w' ∧ Fresh w.heap.size s
theorem alloc_c0 (W : World) (g : Nat) (x y : Int) (h : W.heap.size = g) : ((W.alloc (.cells #[.int .i64 x, .int .i64 y] 3)).drew).cell? ⟨g, 0, none⟩ = some (.int .i64 x) := by
  subst h
  have : (W.alloc (.cells #[.int .i64 x, .int .i64 y] 3)).drew.heap[W.heap.size]? = some (.cells #[.int .i64 x, .int .i64 y] 3 (0, 0)) := alloc_at W _
  rw [cell_of_row _ _ _ _ _ _ this]; rfl
theorem alloc_c1 (W : World) (g : Nat) (x y : Int) (h : W.heap.size = g) : ((W.alloc (.cells #[.int .i64 x, .int .i64 y] 3)).drew).cell? ⟨g, 1, none⟩ = some (.int .i64 y) := by
  subst h
  have : (W.alloc (.cells #[.int .i64 x, .int .i64 y] 3)).drew.heap[W.heap.size]? = some (.cells #[.int .i64 x, .int .i64 y] 3 (0, 0)) := alloc_at W _
  rw [cell_of_row _ _ _ _ _ _ this]; rfl
theorem P_lt_succ {a b : Int} {i j : Nat} (_h0 : 0 ≤ a) (h1 : a < P i) (_h2 : 0 ≤ b) (h3 : b < P j) : a + b < P (max i j + 1) := by
  have e1 := P_le (i := i) (j := max i j) (by omega)
  have e2 := P_le (i := j) (j := max i j) (by omega)
  have := P_pos (max i j)
  rw [P_succ]; omega

theorem sgn_bd (a : Int) : -1 ≤ a.sign ∧ a.sign ≤ 1 := by
  rcases Int.lt_trichotomy a 0 with h | h | h
  · rw [Int.sign_eq_neg_one_of_neg h]; omega
  · rw [h]; simp
  · rw [Int.sign_eq_one_of_pos h]; omega
theorem hpr (x y : Int) (hx : -1 ≤ x ∧ x ≤ 1) (hy : -1 ≤ y ∧ y ≤ 1) : -1 ≤ x * y ∧ x * y ≤ 1 := by
  have h1 : x = -1 ∨ x = 0 ∨ x = 1 := by omega
  rcases h1 with rfl | rfl | rfl <;> omega
/-- The signs: equal, or one of both 0; or different. -/
theorem sgn_cases (a b : Int) : (0 ≤ a.sign * b.sign ∧ ((0 ≤ a ∧ 0 ≤ b) ∨ (a ≤ 0 ∧ b ≤ 0))) ∨ (a.sign * b.sign < 0 ∧ ((0 < a ∧ b < 0) ∨ (a < 0 ∧ 0 < b))) := by
  rcases sgn_is a with ⟨h, h'⟩ | ⟨h, h'⟩ | ⟨h, h'⟩ <;> rcases sgn_is b with ⟨k, k'⟩ | ⟨k, k'⟩ | ⟨k, k'⟩ <;> rw [h', k'] <;> omega
theorem or_sgn {a b : Int} (h : (0 ≤ a ∧ 0 ≤ b) ∨ (a ≤ 0 ∧ b ≤ 0)) (hne : a + b ≠ 0) : orI a.sign b.sign = (a + b).sign := by
  unfold orI
  by_cases h0 : a = 0
  · subst h0; simp
  · rw [if_neg (by simpa using h0)]
    rcases h with h | h
    · rw [Int.sign_eq_one_of_pos (by omega), Int.sign_eq_one_of_pos (by omega)]
    · rw [Int.sign_eq_neg_one_of_neg (by omega), Int.sign_eq_neg_one_of_neg (by omega)]

set_option maxHeartbeats 4000000 in
theorem sum_pp (va vb : Value) (a b : Int) (w : World) (ha : IsB w va a) (hb : IsB w vb b) (hla : (digs a.natAbs).length ≤ 1000000) (hlb : (digs b.natAbs).length ≤ 1000000) (hcase : 0 ≤ a.sign * b.sign ∧ ((0 ≤ a ∧ 0 ≤ b) ∨ (a ≤ 0 ∧ b ≤ 0))) :
    Calls Try.prog 80 #[va, vb] w (AnsB (a + b) w) := by
  obtain ⟨sa, rfl, hia⟩ := id ha
  obtain ⟨sb, rfl, hib⟩ := id hb
  have HIA := Lib.hid hia
  have HIB := Lib.hid hib
  obtain ⟨aa, ca, rfl, _⟩ := hia.open
  obtain ⟨ab, cb, rfl, _⟩ := hib.open
  obtain ⟨na, ena⟩ : ∃ n, (digs a.natAbs).length = n := ⟨_, rfl⟩
  obtain ⟨nb, enb⟩ : ∃ n, (digs b.natAbs).length = n := ⟨_, rfl⟩
  rw [ena] at HIA ⊢
  rw [enb] at HIB ⊢
  have hab := digs_lt a.natAbs
  have hbb := digs_lt b.natAbs
  have hsg : 0 ≤ a.sign * b.sign := hcase.1
  have hsn : a + b ≠ 0 → orI a.sign b.sign = (a + b).sign := or_sgn hcase.2
  have hn : (1 * val (digs a.natAbs) + 1 * val (digs b.natAbs)).toNat = (a + b).natAbs := by rw [digs_val, digs_val]; have := hcase.2; omega
  have hn1 : 0 ≤ 1 * val (digs a.natAbs) + 1 * val (digs b.natAbs) := by rw [digs_val, digs_val]; omega
  have hn2 : 1 * val (digs a.natAbs) + 1 * val (digs b.natAbs) < P (max (digs a.natAbs).length (digs b.natAbs).length + 1) := by
    rw [digs_val, digs_val, Int.one_mul, Int.one_mul]; exact P_lt_succ (by omega) hab (by omega) hbb
  obtain ⟨p, ep⟩ : ∃ p, a + b = p := ⟨_, rfl⟩
  obtain ⟨x, ex⟩ : ∃ x, a.sign = x := ⟨_, rfl⟩
  obtain ⟨y, ey⟩ : ∃ y, b.sign = y := ⟨_, rfl⟩
  have hxb : -1 ≤ x ∧ x ≤ 1 := by rw [← ex]; exact sgn_bd a
  have hyb : -1 ≤ y ∧ y ≤ 1 := by rw [← ey]; exact sgn_bd b
  rw [ex, ey] at hsg
  try rw [ex] at hsn
  try rw [ey] at hsn
  rw [ep] at hsn hn
  rw [ex, ey, ep]
  have HSN := Lib.hid hsn
  have HN := Lib.hid hn
  have HN1 := Lib.hid hn1
  have HN2 := Lib.hid hn2
  have HLA := Lib.hid hla
  have HLB := Lib.hid hlb

  have hx := Bx.start w x (.slice aa na ca) y (.slice ab nb cb)
  have HX0 := Lib.hid hx
  have hprod : -1 ≤ x * y ∧ x * y ≤ 1 := hpr x y hxb hyb
  clear ha hb hia hib hx hla hlb ena enb hab hbb hcase ep ex ey hsn hn hn1 hn2
  go_enter Try.func80, Try.ntmps80
  go_wp2_with fail
  have HXD := Lib.hid (HX0.out.heap (W' := (((w.alloc (.cells #[.int .i64 x, .slice aa na ca] 32)).alloc (.cells #[.int .i64 y, .slice ab nb cb] 32)).alloc (.cells #[.int .i64 0, .slice none 0 0] 32)).drew) rfl rfl rfl rfl)
  have e2 := HXD.out.cells
  go_region_held3 (fun W => W.cell? ⟨w.heap.size, 0, none⟩ = some (.int .i64 x) ∧ W.cell? ⟨w.heap.size, 1, none⟩ = some (.slice aa na ca) ∧ W.cell? ⟨w.heap.size + 1, 0, none⟩ = some (.int .i64 y) ∧ W.cell? ⟨w.heap.size + 1, 1, none⟩ = some (.slice ab nb cb))
    (first | exact e2 | exact x3 | exact x4 | exact HX4.out.stays _ _ | exact ((HX0.out.later (below_alloc _ (.cells #[.int .i64 x, .int .i64 y] 3))).heap (W' := (World.alloc _ (.cells #[.int .i64 x, .int .i64 y] 3)).drew) rfl rfl rfl rfl).cells)
    (first
      | (go_at_call 94; (with_reducible refine (or_any _ 2 (by omega) x y _ ?_ ?_).mono ?_); (focus exact alloc_c0 _ _ _ _ (by simp)); (focus exact alloc_c1 _ _ _ _ (by simp)); rintro e w' ⟨rfl, rfl⟩; have HXA := Lib.hid (((HX0.out.later (below_alloc _ (.cells #[.int .i64 x, .int .i64 y] 3)))).heap (W' := (World.alloc _ (.cells #[.int .i64 x, .int .i64 y] 3)).drew) rfl rfl rfl rfl))
      | (go_at_call 91; (with_reducible refine (combine_any _ _ (digs a.natAbs) (digs b.natAbs) 1 1 _ ?_ ?_ (digs_dig _) (digs_dig _) (by omega) (by omega) (Nat.le_trans HLA.out (by omega)) (Nat.le_trans HLB.out (by omega)) HN1.out HN2.out).mono ?_); (focus exact HIA.out.later HXA.out.below); (focus exact HIB.out.later HXA.out.below); rintro e w3 ⟨v3, rfl, hi3, hb3, hf3⟩; rw [HN.out] at hi3; obtain ⟨a3, c3, rfl, hi4⟩ := hi3.open; have HX3 := Lib.hid (HXA.out.later hb3); have x3 := HX3.out.cells; have HI3 := Lib.hid hi4; have HF3 := Lib.hid hf3; clear hi3 hi4 hb3 hf3)
      | (go_at_call 75; (with_reducible refine (signed_any _ a3 c3 _ (digs_dig p.natAbs) p (digs_val _).symm HSN.out _ HI3.out).mono ?_); rintro e w4 ⟨s4, rfl, hi4, hb4, ho4⟩; obtain ⟨a5, c5, rfl, hi5⟩ := hi4.open; have HO4 := Lib.hid ho4; have HX4 := Lib.hid (HX3.out.later hb4); have x4 := HX4.out.cells; have HI5 := Lib.hid hi5; clear hi4 hi5 hb4 ho4; obtain ⟨r0, r1, f0, f1⟩ := HX4.out.rcells))
  go_wp2_with fail
  have hoff := HO4.out (w.heap.size + 1 + 1) (HF3.out _ HXA.out.size)
  exact bodyPost_ret (v := .agg #[.int .i64 p.sign, .slice a5 (digs p.natAbs).length c5]) (by simp [results, Try.results80, go_sem, r0, r1]) rfl
    ⟨_, rfl, (HI5.out.set hoff 0 _).set hoff 1 _, HX4.out.put _ _, fun g hg => HO4.out g (HF3.out g (by have := HXA.out.size; omega))⟩

set_option maxHeartbeats 4000000 in
theorem sum_ge (va vb : Value) (a b : Int) (w : World) (ha : IsB w va a) (hb : IsB w vb b) (hla : (digs a.natAbs).length ≤ 1000000) (hlb : (digs b.natAbs).length ≤ 1000000) (hcase : a.sign * b.sign < 0 ∧ ((0 < a ∧ b < 0) ∨ (a < 0 ∧ 0 < b)) ∧ b.natAbs ≤ a.natAbs) :
    Calls Try.prog 80 #[va, vb] w (AnsB (a + b) w) := by
  obtain ⟨sa, rfl, hia⟩ := id ha
  obtain ⟨sb, rfl, hib⟩ := id hb
  have HIA := Lib.hid hia
  have HIB := Lib.hid hib
  obtain ⟨aa, ca, rfl, _⟩ := hia.open
  obtain ⟨ab, cb, rfl, _⟩ := hib.open
  obtain ⟨na, ena⟩ : ∃ n, (digs a.natAbs).length = n := ⟨_, rfl⟩
  obtain ⟨nb, enb⟩ : ∃ n, (digs b.natAbs).length = n := ⟨_, rfl⟩
  rw [ena] at HIA ⊢
  rw [enb] at HIB ⊢
  have hab := digs_lt a.natAbs
  have hbb := digs_lt b.natAbs
  have hsg : a.sign * b.sign < 0 := hcase.1
  have hsn : a + b ≠ 0 → a.sign = (a + b).sign := by
    intro hne
    have h1 := hcase.2.1
    have h2 := hcase.2.2
    rcases h1 with h | h
    · first | rw [Int.sign_eq_one_of_pos (by omega), Int.sign_eq_one_of_pos (by omega)] | rw [Int.sign_eq_neg_one_of_neg (by omega), Int.sign_eq_neg_one_of_neg (by omega)]
    · first | rw [Int.sign_eq_one_of_pos (by omega), Int.sign_eq_one_of_pos (by omega)] | rw [Int.sign_eq_neg_one_of_neg (by omega), Int.sign_eq_neg_one_of_neg (by omega)]
  have hn : (1 * val (digs a.natAbs) + -1 * val (digs b.natAbs)).toNat = (a + b).natAbs := by rw [digs_val, digs_val]; have := hcase.2; omega
  have hn1 : 0 ≤ 1 * val (digs a.natAbs) + -1 * val (digs b.natAbs) := by rw [digs_val, digs_val]; have := hcase.2.2; omega
  have hn2 : 1 * val (digs a.natAbs) + -1 * val (digs b.natAbs) < P (max (digs a.natAbs).length (digs b.natAbs).length + 1) := by
    rw [digs_val, digs_val]; have := P_lt_succ (a := (a.natAbs : Int)) (b := (b.natAbs : Int)) (by omega) hab (by omega) hbb; omega
  have hcm : cmpI a.natAbs b.natAbs ≥ 0 := by
    have := hcase.2.2
    unfold cmpI
    split <;> first | omega | (split <;> omega)
  obtain ⟨c, ec⟩ : ∃ c, cmpI a.natAbs b.natAbs = c := ⟨_, rfl⟩
  rw [ec] at hcm
  have HC := Lib.hid ec
  obtain ⟨p, ep⟩ : ∃ p, a + b = p := ⟨_, rfl⟩
  obtain ⟨x, ex⟩ : ∃ x, a.sign = x := ⟨_, rfl⟩
  obtain ⟨y, ey⟩ : ∃ y, b.sign = y := ⟨_, rfl⟩
  have hxb : -1 ≤ x ∧ x ≤ 1 := by rw [← ex]; exact sgn_bd a
  have hyb : -1 ≤ y ∧ y ≤ 1 := by rw [← ey]; exact sgn_bd b
  rw [ex, ey] at hsg
  try rw [ex] at hsn
  try rw [ey] at hsn
  rw [ep] at hsn hn
  rw [ex, ey, ep]
  have HSN := Lib.hid hsn
  have HN := Lib.hid hn
  have HN1 := Lib.hid hn1
  have HN2 := Lib.hid hn2
  have HLA := Lib.hid hla
  have HLB := Lib.hid hlb

  have hx := Bx.start w x (.slice aa na ca) y (.slice ab nb cb)
  have HX0 := Lib.hid hx
  have hprod : -1 ≤ x * y ∧ x * y ≤ 1 := hpr x y hxb hyb
  clear ha hb hia hib hx hla hlb ena enb hab hbb hcase ep ex ey hsn hn hn1 hn2 ec
  go_enter Try.func80, Try.ntmps80
  go_wp2_with fail
  refine (compare_any _ _ a.natAbs b.natAbs _ (HIA.out.later HX0.out.below) (HIB.out.later HX0.out.below)).mono ?_
  rintro e w1 ⟨rfl, q, hw1⟩
  rw [HC.out]
  have HX1 : Hid (Bx w x (.slice aa na ca) y (.slice ab nb cb) w1) := by rw [hw1]; exact HX0.out.heap rfl rfl rfl rfl
  clear hw1
  have c1 := HX1.out.cells
  go_wp2_with fail
  have HXD := Lib.hid (HX1.out.heap (W' := w1.drew) rfl rfl rfl rfl)
  have e2 := HXD.out.cells
  go_region_held3 (fun W => W.cell? ⟨w.heap.size, 0, none⟩ = some (.int .i64 x) ∧ W.cell? ⟨w.heap.size, 1, none⟩ = some (.slice aa na ca) ∧ W.cell? ⟨w.heap.size + 1, 0, none⟩ = some (.int .i64 y) ∧ W.cell? ⟨w.heap.size + 1, 1, none⟩ = some (.slice ab nb cb))
    (first | exact e2 | exact x3 | exact x4 | exact HX4.out.stays _ _)
    (first
      | (go_at_call 91; (with_reducible refine (combine_any _ _ (digs a.natAbs) (digs b.natAbs) 1 (-1) _ ?_ ?_ (digs_dig _) (digs_dig _) (by omega) (by omega) (Nat.le_trans HLA.out (by omega)) (Nat.le_trans HLB.out (by omega)) HN1.out HN2.out).mono ?_); (focus exact HIA.out.later HXD.out.below); (focus exact HIB.out.later HXD.out.below); rintro e w3 ⟨v3, rfl, hi3, hb3, hf3⟩; rw [HN.out] at hi3; obtain ⟨a3, c3, rfl, hi4⟩ := hi3.open; have HX3 := Lib.hid (HXD.out.later hb3); have x3 := HX3.out.cells; have HI3 := Lib.hid hi4; have HF3 := Lib.hid hf3; clear hi3 hi4 hb3 hf3)
      | (go_at_call 75; (with_reducible refine (signed_any _ a3 c3 _ (digs_dig p.natAbs) p (digs_val _).symm HSN.out _ HI3.out).mono ?_); rintro e w4 ⟨s4, rfl, hi4, hb4, ho4⟩; obtain ⟨a5, c5, rfl, hi5⟩ := hi4.open; have HO4 := Lib.hid ho4; have HX4 := Lib.hid (HX3.out.later hb4); have x4 := HX4.out.cells; have HI5 := Lib.hid hi5; clear hi4 hi5 hb4 ho4; obtain ⟨r0, r1, f0, f1⟩ := HX4.out.rcells))
  go_wp2_with fail
  have hoff := HO4.out (w.heap.size + 1 + 1) (HF3.out _ HXD.out.size)
  exact bodyPost_ret (v := .agg #[.int .i64 p.sign, .slice a5 (digs p.natAbs).length c5]) (by simp [results, Try.results80, go_sem, r0, r1]) rfl
    ⟨_, rfl, (HI5.out.set hoff 0 _).set hoff 1 _, HX4.out.put _ _, fun g hg => HO4.out g (HF3.out g (by have := HXD.out.size; omega))⟩

set_option maxHeartbeats 4000000 in
theorem sum_lt (va vb : Value) (a b : Int) (w : World) (ha : IsB w va a) (hb : IsB w vb b) (hla : (digs a.natAbs).length ≤ 1000000) (hlb : (digs b.natAbs).length ≤ 1000000) (hcase : a.sign * b.sign < 0 ∧ ((0 < a ∧ b < 0) ∨ (a < 0 ∧ 0 < b)) ∧ a.natAbs < b.natAbs) :
    Calls Try.prog 80 #[va, vb] w (AnsB (a + b) w) := by
  obtain ⟨sa, rfl, hia⟩ := id ha
  obtain ⟨sb, rfl, hib⟩ := id hb
  have HIA := Lib.hid hia
  have HIB := Lib.hid hib
  obtain ⟨aa, ca, rfl, _⟩ := hia.open
  obtain ⟨ab, cb, rfl, _⟩ := hib.open
  obtain ⟨na, ena⟩ : ∃ n, (digs a.natAbs).length = n := ⟨_, rfl⟩
  obtain ⟨nb, enb⟩ : ∃ n, (digs b.natAbs).length = n := ⟨_, rfl⟩
  rw [ena] at HIA ⊢
  rw [enb] at HIB ⊢
  have hab := digs_lt a.natAbs
  have hbb := digs_lt b.natAbs
  have hsg : a.sign * b.sign < 0 := hcase.1
  have hsn : a + b ≠ 0 → b.sign = (a + b).sign := by
    intro hne
    have h1 := hcase.2.1
    have h2 := hcase.2.2
    rcases h1 with h | h
    · first | rw [Int.sign_eq_one_of_pos (by omega), Int.sign_eq_one_of_pos (by omega)] | rw [Int.sign_eq_neg_one_of_neg (by omega), Int.sign_eq_neg_one_of_neg (by omega)]
    · first | rw [Int.sign_eq_one_of_pos (by omega), Int.sign_eq_one_of_pos (by omega)] | rw [Int.sign_eq_neg_one_of_neg (by omega), Int.sign_eq_neg_one_of_neg (by omega)]
  have hn : (1 * val (digs b.natAbs) + -1 * val (digs a.natAbs)).toNat = (a + b).natAbs := by rw [digs_val, digs_val]; have := hcase.2; omega
  have hn1 : 0 ≤ 1 * val (digs b.natAbs) + -1 * val (digs a.natAbs) := by rw [digs_val, digs_val]; have := hcase.2.2; omega
  have hn2 : 1 * val (digs b.natAbs) + -1 * val (digs a.natAbs) < P (max (digs b.natAbs).length (digs a.natAbs).length + 1) := by
    rw [digs_val, digs_val]; have := P_lt_succ (a := (b.natAbs : Int)) (b := (a.natAbs : Int)) (by omega) hbb (by omega) hab; omega
  have hcm : cmpI a.natAbs b.natAbs < 0 := by
    have := hcase.2.2
    unfold cmpI
    rw [if_pos (by omega)]; omega
  obtain ⟨c, ec⟩ : ∃ c, cmpI a.natAbs b.natAbs = c := ⟨_, rfl⟩
  rw [ec] at hcm
  have HC := Lib.hid ec
  obtain ⟨p, ep⟩ : ∃ p, a + b = p := ⟨_, rfl⟩
  obtain ⟨x, ex⟩ : ∃ x, a.sign = x := ⟨_, rfl⟩
  obtain ⟨y, ey⟩ : ∃ y, b.sign = y := ⟨_, rfl⟩
  have hxb : -1 ≤ x ∧ x ≤ 1 := by rw [← ex]; exact sgn_bd a
  have hyb : -1 ≤ y ∧ y ≤ 1 := by rw [← ey]; exact sgn_bd b
  rw [ex, ey] at hsg
  try rw [ex] at hsn
  try rw [ey] at hsn
  rw [ep] at hsn hn
  rw [ex, ey, ep]
  have HSN := Lib.hid hsn
  have HN := Lib.hid hn
  have HN1 := Lib.hid hn1
  have HN2 := Lib.hid hn2
  have HLA := Lib.hid hla
  have HLB := Lib.hid hlb

  have hx := Bx.start w x (.slice aa na ca) y (.slice ab nb cb)
  have HX0 := Lib.hid hx
  have hprod : -1 ≤ x * y ∧ x * y ≤ 1 := hpr x y hxb hyb
  clear ha hb hia hib hx hla hlb ena enb hab hbb hcase ep ex ey hsn hn hn1 hn2 ec
  go_enter Try.func80, Try.ntmps80
  go_wp2_with fail
  refine (compare_any _ _ a.natAbs b.natAbs _ (HIA.out.later HX0.out.below) (HIB.out.later HX0.out.below)).mono ?_
  rintro e w1 ⟨rfl, q, hw1⟩
  rw [HC.out]
  have HX1 : Hid (Bx w x (.slice aa na ca) y (.slice ab nb cb) w1) := by rw [hw1]; exact HX0.out.heap rfl rfl rfl rfl
  clear hw1
  have c1 := HX1.out.cells
  have hcm2 : ¬ 0 ≤ c := by omega
  go_wp2_with fail
  have HXD := Lib.hid (HX1.out.heap (W' := w1.drew) rfl rfl rfl rfl)
  have e2 := HXD.out.cells
  go_region_held3 (fun W => W.cell? ⟨w.heap.size, 0, none⟩ = some (.int .i64 x) ∧ W.cell? ⟨w.heap.size, 1, none⟩ = some (.slice aa na ca) ∧ W.cell? ⟨w.heap.size + 1, 0, none⟩ = some (.int .i64 y) ∧ W.cell? ⟨w.heap.size + 1, 1, none⟩ = some (.slice ab nb cb))
    (first | exact e2 | exact x3 | exact x4 | exact HX4.out.stays _ _)
    (first
      | (go_at_call 91; (with_reducible refine (combine_any _ _ (digs b.natAbs) (digs a.natAbs) 1 (-1) _ ?_ ?_ (digs_dig _) (digs_dig _) (by omega) (by omega) (Nat.le_trans HLB.out (by omega)) (Nat.le_trans HLA.out (by omega)) HN1.out HN2.out).mono ?_); (focus exact HIB.out.later HXD.out.below); (focus exact HIA.out.later HXD.out.below); rintro e w3 ⟨v3, rfl, hi3, hb3, hf3⟩; rw [HN.out] at hi3; obtain ⟨a3, c3, rfl, hi4⟩ := hi3.open; have HX3 := Lib.hid (HXD.out.later hb3); have x3 := HX3.out.cells; have HI3 := Lib.hid hi4; have HF3 := Lib.hid hf3; clear hi3 hi4 hb3 hf3)
      | (go_at_call 75; (with_reducible refine (signed_any _ a3 c3 _ (digs_dig p.natAbs) p (digs_val _).symm HSN.out _ HI3.out).mono ?_); rintro e w4 ⟨s4, rfl, hi4, hb4, ho4⟩; obtain ⟨a5, c5, rfl, hi5⟩ := hi4.open; have HO4 := Lib.hid ho4; have HX4 := Lib.hid (HX3.out.later hb4); have x4 := HX4.out.cells; have HI5 := Lib.hid hi5; clear hi4 hi5 hb4 ho4; obtain ⟨r0, r1, f0, f1⟩ := HX4.out.rcells))
  go_wp2_with fail
  have hoff := HO4.out (w.heap.size + 1 + 1) (HF3.out _ HXD.out.size)
  exact bodyPost_ret (v := .agg #[.int .i64 p.sign, .slice a5 (digs p.natAbs).length c5]) (by simp [results, Try.results80, go_sem, r0, r1]) rfl
    ⟨_, rfl, (HI5.out.set hoff 0 _).set hoff 1 _, HX4.out.put _ _, fun g hg => HO4.out g (HF3.out g (by have := HXD.out.size; omega))⟩

theorem sum_any (va vb : Value) (a b : Int) (w : World) (ha : IsB w va a) (hb : IsB w vb b) (hla : (digs a.natAbs).length ≤ 1000000) (hlb : (digs b.natAbs).length ≤ 1000000) :
    Calls Try.prog 80 #[va, vb] w (AnsB (a + b) w) := by
  rcases sgn_cases a b with h | h
  · exact sum_pp va vb a b w ha hb hla hlb h
  · rcases Nat.lt_or_ge a.natAbs b.natAbs with k | k
    · exact sum_lt va vb a b w ha hb hla hlb ⟨h.1, h.2, k⟩
    · exact sum_ge va vb a b w ha hb hla hlb ⟨h.1, h.2, k⟩
end Go.Proofs.Ytmhjejnkphdjpaa.Bi

namespace Go.Proofs.Ytmhjejnkphdjpaa.Bi
open Go.RowKit
theorem IsB.neg {w : World} {b : Int} {s : Value} (h : Ints w s (digs b.natAbs)) : IsB w (.agg #[.int .i64 (-b.sign), s]) (-b) := ⟨s, by rw [Int.sign_neg], by rw [Int.natAbs_neg]; exact h⟩

set_option maxHeartbeats 4000000 in
theorem add_ok (va vb : Value) (a b : Int) (w : World) (ha : IsB w va a) (hb : IsB w vb b) (hla : (digs a.natAbs).length ≤ 1000000) (hlb : (digs b.natAbs).length ≤ 1000000) :
    Calls Try.prog 71 #[va, vb] w (Ans (a + b) 0 w) := by
  obtain ⟨sa, rfl, hia⟩ := id ha
  obtain ⟨sb, rfl, hib⟩ := id hb
  have HA := Lib.hid ha
  have HB := Lib.hid hb

  obtain ⟨aa, ca, rfl, _⟩ := hia.open
  obtain ⟨ab, cb, rfl, _⟩ := hib.open
  obtain ⟨na, ena⟩ : ∃ n, (digs a.natAbs).length = n := ⟨_, rfl⟩
  obtain ⟨nb, enb⟩ : ∃ n, (digs b.natAbs).length = n := ⟨_, rfl⟩
  rw [ena] at HA ⊢
  rw [enb] at HB ⊢
  have hx := Bx.start w a.sign (.slice aa na ca) b.sign (.slice ab nb cb)
  have HX0 := Lib.hid hx
  have hyb := sgn_bd b
  clear ha hb hia hib hx ena enb
  go_enter Try.func71, Try.ntmps71
  go_wp2_with fail
  refine (isb_any (HA.out.later HX0.out.below)).mono ?_
  rintro e w1 ⟨rfl, hb1⟩
  have HX1 := Lib.hid (HX0.out.later hb1)
  obtain ⟨c00, c01, c10, c11⟩ := HX1.out.cells
  clear hb1
  go_wp2_with fail
  refine (isb_any (HB.out.later HX1.out.below)).mono ?_
  rintro e w2 ⟨rfl, hb2⟩
  have HX2 := Lib.hid (HX1.out.later hb2)
  obtain ⟨d00, d01, d10, d11⟩ := HX2.out.cells
  clear hb2 c00 c01 c10 c11
  go_wp2_with fail
  refine (sum_any _ _ a b _ (HA.out.later HX2.out.below) (HB.out.later HX2.out.below) hla hlb).mono ?_
  rintro e w3 ⟨s3, rfl, hi3, hb3, hf3⟩
  obtain ⟨a3, c3, rfl, hi4⟩ := hi3.open
  have HX3 := Lib.hid (HX2.out.later hb3)
  have HI3 := Lib.hid hi4
  have HF3 := Lib.hid hf3
  obtain ⟨r0, r1, f0, f1⟩ := HX3.out.rcells
  clear hi3 hi4 hb3 hf3 d00 d01 d10 d11
  obtain ⟨p, ep⟩ : ∃ p, a + b = p := ⟨_, rfl⟩
  rw [ep] at HI3 HF3 ⊢
  go_wp2_with fail
  have hoff := HF3.out (w.heap.size + 1 + 1) HX2.out.size
  rw [ep]
  exact bodyPost_ret (v := .tuple #[.agg #[.int .i64 p.sign, .slice a3 (digs p.natAbs).length c3], .int .i64 0]) (by simp [results, Try.results71, go_sem, r0, r1]) rfl
    ⟨_, rfl, (HI3.out.set hoff 0 _).set hoff 1 _, HX3.out.put _ _, fun g hg => HF3.out g (by have := HX2.out.size; omega)⟩

set_option maxHeartbeats 4000000 in
theorem sub_ok (va vb : Value) (a b : Int) (w : World) (ha : IsB w va a) (hb : IsB w vb b) (hla : (digs a.natAbs).length ≤ 1000000) (hlb : (digs b.natAbs).length ≤ 1000000) :
    Calls Try.prog 56 #[va, vb] w (Ans (a - b) 0 w) := by
  obtain ⟨sa, rfl, hia⟩ := id ha
  obtain ⟨sb, rfl, hib⟩ := id hb
  have HA := Lib.hid ha
  have HB := Lib.hid hb
  have HNB := Lib.hid (IsB.neg hib)
  obtain ⟨aa, ca, rfl, _⟩ := hia.open
  obtain ⟨ab, cb, rfl, _⟩ := hib.open
  obtain ⟨na, ena⟩ : ∃ n, (digs a.natAbs).length = n := ⟨_, rfl⟩
  obtain ⟨nb, enb⟩ : ∃ n, (digs b.natAbs).length = n := ⟨_, rfl⟩
  rw [ena] at HA ⊢
  rw [enb] at HB HNB ⊢
  have hx := Bx.start w a.sign (.slice aa na ca) b.sign (.slice ab nb cb)
  have HX0 := Lib.hid hx
  have hyb := sgn_bd b
  clear ha hb hia hib hx ena enb
  go_enter Try.func56, Try.ntmps56
  go_wp2_with fail
  refine (isb_any (HA.out.later HX0.out.below)).mono ?_
  rintro e w1 ⟨rfl, hb1⟩
  have HX1 := Lib.hid (HX0.out.later hb1)
  obtain ⟨c00, c01, c10, c11⟩ := HX1.out.cells
  clear hb1
  go_wp2_with fail
  refine (isb_any (HB.out.later HX1.out.below)).mono ?_
  rintro e w2 ⟨rfl, hb2⟩
  have HX2 := Lib.hid (HX1.out.later hb2)
  obtain ⟨d00, d01, d10, d11⟩ := HX2.out.cells
  clear hb2 c00 c01 c10 c11
  go_wp2_with fail
  refine (sum_any _ _ a (-b) _ (HA.out.later HX2.out.below) (HNB.out.later HX2.out.below) hla (by rw [Int.natAbs_neg]; exact hlb)).mono ?_
  rintro e w3 ⟨s3, rfl, hi3, hb3, hf3⟩
  rw [← Int.sub_eq_add_neg] at hi3 ⊢
  obtain ⟨a3, c3, rfl, hi4⟩ := hi3.open
  have HX3 := Lib.hid (HX2.out.later hb3)
  have HI3 := Lib.hid hi4
  have HF3 := Lib.hid hf3
  obtain ⟨r0, r1, f0, f1⟩ := HX3.out.rcells
  clear hi3 hi4 hb3 hf3 d00 d01 d10 d11
  obtain ⟨p, ep⟩ : ∃ p, a - b = p := ⟨_, rfl⟩
  rw [ep] at HI3 HF3 ⊢
  go_wp2_with fail
  have hoff := HF3.out (w.heap.size + 1 + 1) HX2.out.size
  rw [ep]
  exact bodyPost_ret (v := .tuple #[.agg #[.int .i64 p.sign, .slice a3 (digs p.natAbs).length c3], .int .i64 0]) (by simp [results, Try.results56, go_sem, r0, r1]) rfl
    ⟨_, rfl, (HI3.out.set hoff 0 _).set hoff 1 _, HX3.out.put _ _, fun g hg => HF3.out g (by have := HX2.out.size; omega)⟩
end Go.Proofs.Ytmhjejnkphdjpaa.Bi

namespace Go.Proofs.Ytmhjejnkphdjpaa.Bi
open Go.RowKit

/-- Two boxes and two cells for results lie behind w. -/
structure Bx2 (w : World) (sa : Int) (va : Value) (sb : Int) (vb : Value) (W : World) : Prop where
  one : Bx w sa va sb vb W
  res : W.heap[w.heap.size + 1 + 1 + 1]? = some (.cells #[.int .i64 0, .slice none 0 0] 32 (0, 0))
theorem Bx2.size {w W : World} {sa sb : Int} {va vb : Value} (h : Bx2 w sa va sb vb W) : w.heap.size + 1 + 1 + 1 < W.heap.size := (Array.getElem?_eq_some_iff.1 h.res).1
theorem Bx2.below {w W : World} {sa sb : Int} {va vb : Value} (h : Bx2 w sa va sb vb W) : RowKit.Below w.heap.size w W := h.one.below
theorem Bx2.later {w W W' : World} {sa sb : Int} {va vb : Value} (h : Bx2 w sa va sb vb W) (hb : RowKit.Below W.heap.size W W') : Bx2 w sa va sb vb W' := ⟨h.one.later hb, (hb.block _ h.size).trans h.res⟩
theorem Bx2.heap {w W W' : World} {sa sb : Int} {va vb : Value} (h : Bx2 w sa va sb vb W) (hb : W'.heap = W.heap) (h1 : W'.os = W.os) (h2 : W'.tape = W.tape) (h3 : W'.output = W.output) : Bx2 w sa va sb vb W' :=
  ⟨h.one.heap hb h1 h2 h3, by rw [hb]; exact h.res⟩
theorem Bx2.start (w : World) (sa : Int) (va : Value) (sb : Int) (vb : Value) :
    Bx2 w sa va sb vb ((((w.alloc (.cells #[.int .i64 sa, va] 32)).alloc (.cells #[.int .i64 sb, vb] 32)).alloc (.cells #[.int .i64 0, .slice none 0 0] 32)).alloc (.cells #[.int .i64 0, .slice none 0 0] 32)) := by
  refine ⟨(Bx.start w sa va sb vb).later (below_alloc _ _), ?_⟩
  have := alloc_at (((w.alloc (.cells #[.int .i64 sa, va] 32)).alloc (.cells #[.int .i64 sb, vb] 32)).alloc (.cells #[.int .i64 0, .slice none 0 0] 32)) (.cells #[.int .i64 0, .slice none 0 0] 32)
  simpa using this
theorem Bx2.cells {w W : World} {sa sb : Int} {va vb : Value} (h : Bx2 w sa va sb vb W) : W.cell? ⟨w.heap.size, 0, none⟩ = some (.int .i64 sa) ∧ W.cell? ⟨w.heap.size, 1, none⟩ = some va ∧ W.cell? ⟨w.heap.size + 1, 0, none⟩ = some (.int .i64 sb) ∧ W.cell? ⟨w.heap.size + 1, 1, none⟩ = some vb := h.one.cells
theorem Bx2.rcells {w W : World} {sa sb : Int} {va vb : Value} (h : Bx2 w sa va sb vb W) : (W.cell? ⟨w.heap.size + 1 + 1, 0, none⟩ = some (.int .i64 0) ∧ W.cell? ⟨w.heap.size + 1 + 1, 1, none⟩ = some (.slice none 0 0) ∧ W.frozen? ⟨w.heap.size + 1 + 1, 0, none⟩ = false ∧ W.frozen? ⟨w.heap.size + 1 + 1, 1, none⟩ = false) ∧
    W.cell? ⟨w.heap.size + 1 + 1 + 1, 0, none⟩ = some (.int .i64 0) ∧ W.cell? ⟨w.heap.size + 1 + 1 + 1, 1, none⟩ = some (.slice none 0 0) ∧ W.frozen? ⟨w.heap.size + 1 + 1 + 1, 0, none⟩ = false ∧ W.frozen? ⟨w.heap.size + 1 + 1 + 1, 1, none⟩ = false :=
  ⟨h.one.rcells, by rw [cell_of_row _ _ _ _ _ _ h.res]; rfl, by rw [cell_of_row _ _ _ _ _ _ h.res]; rfl, by simp [World.frozen?, h.res], by simp [World.frozen?, h.res]⟩
/-- Stores into the results' cells. -/
theorem Bx2.stay {w W : World} {sa sb : Int} {va vb : Value} (h : ∃ W0, Bx2 w sa va sb vb W0 ∧ (∀ b, b ≠ w.heap.size + 1 + 1 → b ≠ w.heap.size + 1 + 1 + 1 → W.heap[b]? = W0.heap[b]?)) :
    W.cell? ⟨w.heap.size, 0, none⟩ = some (.int .i64 sa) ∧ W.cell? ⟨w.heap.size, 1, none⟩ = some va ∧ W.cell? ⟨w.heap.size + 1, 0, none⟩ = some (.int .i64 sb) ∧ W.cell? ⟨w.heap.size + 1, 1, none⟩ = some vb := by
  obtain ⟨W0, h0, hk⟩ := h
  obtain ⟨c0, c1, c2, c3⟩ := h0.cells
  have hc : ∀ b o, b ≠ w.heap.size + 1 + 1 → b ≠ w.heap.size + 1 + 1 + 1 → W.cell? ⟨b, o, none⟩ = W0.cell? ⟨b, o, none⟩ := fun b o h1 h2 => World.cell?_of_block (w := W0) (hk b h1 h2)
  exact ⟨(hc _ _ (by omega) (by omega)).trans c0, (hc _ _ (by omega) (by omega)).trans c1, (hc _ _ (by omega) (by omega)).trans c2, (hc _ _ (by omega) (by omega)).trans c3⟩
theorem set2 (W : World) (g : Nat) (u v : Value) (b : Nat) (h : b ≠ g) : ((W.setCell ⟨g, 0, none⟩ u).setCell ⟨g, 1, none⟩ v).heap[b]? = W.heap[b]? := (Below.heap_setCell _ _ _ _ h).trans (Below.heap_setCell _ _ _ _ h)

theorem Bx2.stay1 {w W : World} {sa sb : Int} {va vb : Value} (h : Bx2 w sa va sb vb W) (u v : Value) :
    ((W.setCell ⟨w.heap.size + 1 + 1, 0, none⟩ u).setCell ⟨w.heap.size + 1 + 1, 1, none⟩ v).cell? ⟨w.heap.size, 0, none⟩ = some (.int .i64 sa) ∧ ((W.setCell ⟨w.heap.size + 1 + 1, 0, none⟩ u).setCell ⟨w.heap.size + 1 + 1, 1, none⟩ v).cell? ⟨w.heap.size, 1, none⟩ = some va ∧
      ((W.setCell ⟨w.heap.size + 1 + 1, 0, none⟩ u).setCell ⟨w.heap.size + 1 + 1, 1, none⟩ v).cell? ⟨w.heap.size + 1, 0, none⟩ = some (.int .i64 sb) ∧ ((W.setCell ⟨w.heap.size + 1 + 1, 0, none⟩ u).setCell ⟨w.heap.size + 1 + 1, 1, none⟩ v).cell? ⟨w.heap.size + 1, 1, none⟩ = some vb :=
  Bx2.stay ⟨W, h, fun b h1 _ => set2 _ _ _ _ b h1⟩
theorem Bx2.stay2 {w W : World} {sa sb : Int} {va vb : Value} (h : Bx2 w sa va sb vb W) (u v u' v' : Value) :
    ((((W.setCell ⟨w.heap.size + 1 + 1, 0, none⟩ u).setCell ⟨w.heap.size + 1 + 1, 1, none⟩ v).setCell ⟨w.heap.size + 1 + 1 + 1, 0, none⟩ u').setCell ⟨w.heap.size + 1 + 1 + 1, 1, none⟩ v').cell? ⟨w.heap.size, 0, none⟩ = some (.int .i64 sa) ∧
      ((((W.setCell ⟨w.heap.size + 1 + 1, 0, none⟩ u).setCell ⟨w.heap.size + 1 + 1, 1, none⟩ v).setCell ⟨w.heap.size + 1 + 1 + 1, 0, none⟩ u').setCell ⟨w.heap.size + 1 + 1 + 1, 1, none⟩ v').cell? ⟨w.heap.size, 1, none⟩ = some va ∧
      ((((W.setCell ⟨w.heap.size + 1 + 1, 0, none⟩ u).setCell ⟨w.heap.size + 1 + 1, 1, none⟩ v).setCell ⟨w.heap.size + 1 + 1 + 1, 0, none⟩ u').setCell ⟨w.heap.size + 1 + 1 + 1, 1, none⟩ v').cell? ⟨w.heap.size + 1, 0, none⟩ = some (.int .i64 sb) ∧
      ((((W.setCell ⟨w.heap.size + 1 + 1, 0, none⟩ u).setCell ⟨w.heap.size + 1 + 1, 1, none⟩ v).setCell ⟨w.heap.size + 1 + 1 + 1, 0, none⟩ u').setCell ⟨w.heap.size + 1 + 1 + 1, 1, none⟩ v').cell? ⟨w.heap.size + 1, 1, none⟩ = some vb :=
  Bx2.stay ⟨W, h, fun b h1 h2 => (set2 _ _ _ _ b h2).trans (set2 _ _ _ _ b h1)⟩

theorem ints_one (W : World) (x : Int) : Ints ((W.alloc (.cells #[.int .i64 x] 3)).drew) (.slice (some ⟨W.heap.size, 0, none⟩) 1 1) [x] := by
  refine ⟨_, 1, rfl, by simp, by simp, .inr ⟨W.heap.size, 0, rfl, by simp, fun i hi => ?_⟩⟩
  have h : (W.alloc (.cells #[.int .i64 x] 3)).drew.heap[W.heap.size]? = some (.cells #[.int .i64 x] 3 (0, 0)) := alloc_at W _
  simp at hi
  subst hi
  rw [cell_of_row _ _ _ _ _ _ h]; rfl

/-- A call that returns two numbers and an error's code. -/
def AnsD (q r er : Int) (w : World) (e : Ending) (w' : World) : Prop := ∃ s t, e = .returned (.tuple #[.agg #[.int .i64 q.sign, s], .agg #[.int .i64 r.sign, t], .int .i64 er]) ∧ Ints w' s (digs q.natAbs) ∧ Ints w' t (digs r.natAbs) ∧ RowKit.Below w.heap.size w w' ∧ Fresh w.heap.size s ∧ Fresh w.heap.size t
theorem AnsD.zero {er : Int} {w w' : World} (hb : RowKit.Below w.heap.size w w') : AnsD 0 0 er w (.returned (.tuple #[.agg #[.int .i64 0, .slice none 0 0], .agg #[.int .i64 0, .slice none 0 0], .int .i64 er])) w' :=
  ⟨_, _, rfl, by rw [show (0 : Int).natAbs = 0 from rfl, digs_zero]; exact Ints.nil _, by rw [show (0 : Int).natAbs = 0 from rfl, digs_zero]; exact Ints.nil _, hb, fun g _ => off_nil g 0 0, fun g _ => off_nil g 0 0⟩

set_option maxHeartbeats 1000000 in
theorem div_same (va vb : Value) (a b : Int) (w : World) (ha : IsB w va a) (hb : IsB w vb b) (hla : (digs a.natAbs).length ≤ 1000000) (hlb : (digs b.natAbs).length ≤ 1000000) (h0 : b ≠ 0) (hc : a.sign = b.sign) :
    Calls Try.prog 79 #[va, vb] w (AnsD (a.fdiv b) (a.fmod b) 0 w) := by
  obtain ⟨sa, rfl, hia⟩ := id ha
  obtain ⟨sb, rfl, hib⟩ := id hb
  have HA := Lib.hid ha
  have HB := Lib.hid hb
  have HIA := Lib.hid hia
  have HIB := Lib.hid hib
  obtain ⟨aa, ca, rfl, _⟩ := hia.open
  obtain ⟨ab, cb, rfl, _⟩ := hib.open
  obtain ⟨na, ena⟩ : ∃ n, (digs a.natAbs).length = n := ⟨_, rfl⟩
  obtain ⟨nb, enb⟩ : ∃ n, (digs b.natAbs).length = n := ⟨_, rfl⟩
  rw [ena] at HA HIA ⊢
  rw [enb] at HB HIB ⊢
  have hm : (a.natAbs : Int) = (b.natAbs : Int) * ((a.natAbs : Int) / (b.natAbs : Int)) + (a.natAbs : Int) % (b.natAbs : Int) := (Int.mul_ediv_add_emod _ _).symm
  have hm0 : 0 ≤ (a.natAbs : Int) % (b.natAbs : Int) := Int.emod_nonneg _ (by omega)
  have hm1 : (a.natAbs : Int) % (b.natAbs : Int) < b.natAbs := Int.emod_lt_of_pos _ (by omega)
  have hm2 : 0 ≤ (a.natAbs : Int) / (b.natAbs : Int) := Int.ediv_nonneg (by omega) (by omega)
  have hF := fl_plain h0 hm hm0 hm1 hm2 (.inl hc)
  have HT : Hid ((a.sign != b.sign) = false) := by unfold Hid; simpa using hc
  have HY : Hid (P ((digs b.natAbs).length - 1) ≤ val (digs b.natAbs)) := by unfold Hid; rw [digs_val]; exact digs_ge' (by omega)
  have HL0 : Hid (0 < (digs b.natAbs).length) := digs_pos_len (by omega)
  have HLA := Lib.hid hla
  have HLB := Lib.hid hlb
  have HZ : Hid ((b.sign == 0) = false) := by unfold Hid; simpa using h0
  have hsx := sgn_bd a
  have hsy := sgn_bd b
  have hsp := sign_bd a b
  have HSP := Lib.hid hsp
  have HM0 := Lib.hid hm0
  have HDV : Hid (∀ W, Ints W (.slice aa na ca) (digs a.natAbs) → Ints W (.slice ab nb cb) (digs b.natAbs) → Calls Try.prog 90 #[.slice aa na ca, .slice ab nb cb] W (Divs (a.natAbs : Int) (b.natAbs : Int) W)) := by
    intro W h1 h2
    have := divide_any _ _ _ _ W h1 h2 (digs_dig _) (digs_dig _) hla hlb HL0.out HY.out
    rwa [digs_val, digs_val] at this
  obtain ⟨q, eq⟩ : ∃ q, a.fdiv b = q := ⟨_, rfl⟩
  obtain ⟨r, er⟩ : ∃ r, a.fmod b = r := ⟨_, rfl⟩
  obtain ⟨q0, eq0⟩ : ∃ q0, (a.natAbs : Int) / (b.natAbs : Int) = q0 := ⟨_, rfl⟩
  obtain ⟨r0, er0⟩ : ∃ r0, (a.natAbs : Int) % (b.natAbs : Int) = r0 := ⟨_, rfl⟩
  rw [eq, er] at hF ⊢
  rw [eq0, er0] at hF
  rw [eq0] at hm2
  rw [er0] at hm0 hm1
  obtain ⟨hF1, hF2, hF3, hF4⟩ := hF
  have HF1 := Lib.hid hF1
  have HF2 := Lib.hid hF2
  have HF3 := Lib.hid hF3
  have HF4 := Lib.hid hF4
  have HQ0 := Lib.hid eq0
  have HR0 := Lib.hid er0
  have HH0 := Lib.hid hm0
  have HH1 := Lib.hid hm1
  have HH2 := Lib.hid hm2
  clear hm
  have hx := Bx2.start w a.sign (.slice aa na ca) b.sign (.slice ab nb cb)
  have HX0 := Lib.hid hx
  clear ha hb hia hib hx ena enb hla hlb h0 hc hsp eq er eq0 er0 hF1 hF2 hF3 hF4 hm0 hm1 hm2
  go_enter Try.func79, Try.ntmps79
  go_wp2_with fail
  refine (isb_any (HA.out.later HX0.out.below)).mono ?_
  rintro e w1 ⟨rfl, hb1⟩
  have HX1 := Lib.hid (HX0.out.later hb1)
  obtain ⟨c00, c01, c10, c11⟩ := HX1.out.cells
  clear hb1
  go_wp2_with fail
  refine (isb_any (HB.out.later HX1.out.below)).mono ?_
  rintro e w2 ⟨rfl, hb2⟩
  have HX2 := Lib.hid (HX1.out.later hb2)
  obtain ⟨d00, d01, d10, d11⟩ := HX2.out.cells
  clear hb2 c00 c01 c10 c11
  have hz := HZ.out
  go_wp2_with fail
  refine (HDV.out _ (HIA.out.later HX2.out.below) (HIB.out.later HX2.out.below)).mono ?_
  rintro e w3 ⟨aq, capq, LQ, vr, rfl, hdq, hvq, hiq, hir, hb3, hlq, hfq, hfr⟩
  rw [HQ0.out] at hvq
  rw [HR0.out] at hir
  obtain ⟨ar, cr, rfl, hir2⟩ := hir.open
  have HX3 := Lib.hid (HX2.out.later hb3)
  have HDQ := Lib.hid hdq
  have HVQ := Lib.hid hvq
  have HIQ := Lib.hid hiq
  have HIR := Lib.hid hir2
  have HFQ := Lib.hid hfq
  have HFR := Lib.hid hfr
  have HLQ := Lib.hid hlq
  obtain ⟨lr, elr⟩ : ∃ n, (digs r0.toNat).length = n := ⟨_, rfl⟩
  have HLR := Lib.hid elr
  rw [elr] at HIR HFR
  have HSR : Hid (∀ W, Ints W (.slice ar lr cr) (digs r0.toNat) → Calls Try.prog 75 #[.int .i64 b.sign, .slice ar lr cr] W (GivesB r (.slice ar lr cr) W)) := by
    intro W hW
    rw [← elr] at hW ⊢
    exact signed_any _ ar cr _ (digs_dig r0.toNat) r (by rw [digs_val, HF3.out]; have := HH0.out; omega) HF4.out W hW
  rw [elr]
  obtain ⟨c0, c1, c2, c3⟩ := HX3.out.cells
  have HSQ : Hid (∀ W, Ints W (.slice aq LQ.length capq) LQ → Calls Try.prog 75 #[.int .i64 (a.sign * b.sign), .slice aq LQ.length capq] W (GivesB q (.slice aq LQ.length capq) W)) := fun W hW => signed_any _ aq capq LQ HDQ.out q (by rw [HVQ.out]; exact HF1.out) HF2.out W hW
  have HB3 := Lib.hid hb3
  clear hdq hvq hiq hir hir2 hb3 hlq hfq hfr elr d00 d01 d10 d11 hz
  have ht := HT.out
  go_wp2_with fail
  clear c0 c1 c2 c3 ht
  have hw : IntKind.i64.wrap (a.sign * b.sign) = a.sign * b.sign := IntWalk.i64_in _ (by have := HSP.out; omega)
  have HXD := Lib.hid (HX3.out.heap (W' := w3.drew) rfl rfl rfl rfl)
  have e2 := HXD.out.cells
  go_region_held3 (fun W => W.cell? ⟨w.heap.size, 0, none⟩ = some (.int .i64 a.sign) ∧ W.cell? ⟨w.heap.size, 1, none⟩ = some (.slice aa na ca) ∧ W.cell? ⟨w.heap.size + 1, 0, none⟩ = some (.int .i64 b.sign) ∧ W.cell? ⟨w.heap.size + 1, 1, none⟩ = some (.slice ab nb cb))
    (first | (with_reducible exact e2) | (with_reducible exact x4) | (with_reducible exact x5) | (with_reducible exact HX5.out.stay1 _ _) | (with_reducible exact HX5.out.stay2 _ _ _ _))
    (first
      | (go_at_call 75; (with_reducible refine (HSQ.out _ ?_).mono ?_); (focus exact Ints.drew HIQ.out); rintro e w4 ⟨s4, rfl, hi4, hb4, ho4⟩; obtain ⟨a4, c4, rfl, hj4⟩ := hi4.open; have HO4 := Lib.hid ho4; have HX4 := Lib.hid (HXD.out.later hb4); have HB4 := Lib.hid hb4; have x4 := HX4.out.cells; have HI4 := Lib.hid hj4; clear hi4 hj4 hb4 ho4)
      | (go_at_call 75; (with_reducible refine (HSR.out _ ?_).mono ?_); (focus exact (Ints.drew HIR.out).later HB4.out); rintro e w5 ⟨s5, rfl, hi5, hb5, ho5⟩; obtain ⟨a5, c5, rfl, hj5⟩ := hi5.open; have HO5 := Lib.hid ho5; have HX5 := Lib.hid (HX4.out.later hb5); have x5 := HX5.out.cells; have HI5 := Lib.hid hj5; have HI6 := Lib.hid (HI4.out.later hb5); clear hi5 hj5 hb5 ho5; obtain ⟨⟨r0', r1, f0, f1⟩, t0, t1, g0, g1⟩ := HX5.out.rcells))
  go_wp2_with fail
  have hsz := HX2.out.size
  have o41 := HO4.out (w.heap.size + 1 + 1) (HFQ.out _ (by have := HX2.out.size; omega))
  have o42 := HO4.out (w.heap.size + 1 + 1 + 1) (HFQ.out _ (by have := HX2.out.size; omega))
  have o51 := HO5.out (w.heap.size + 1 + 1) (HFR.out _ (by have := HX2.out.size; omega))
  have o52 := HO5.out (w.heap.size + 1 + 1 + 1) (HFR.out _ (by have := HX2.out.size; omega))
  exact bodyPost_ret (v := .tuple #[.agg #[.int .i64 q.sign, .slice a4 (digs q.natAbs).length c4], .agg #[.int .i64 r.sign, .slice a5 (digs r.natAbs).length c5], .int .i64 0]) (by simp [results, Try.results79, go_sem, r0', r1, t0, t1]) rfl
    ⟨_, _, rfl, (((HI6.out.set o41 0 _).set o41 1 _).set o42 0 _).set o42 1 _, (((HI5.out.set o51 0 _).set o51 1 _).set o52 0 _).set o52 1 _,
      (((HX5.out.below.setCell (by simp; omega) _).setCell (by simp; omega) _).setCell (by simp; omega) _).setCell (by simp; omega) _,
      fun g hg => HO4.out g (HFQ.out g (by have := HX2.out.size; omega)), fun g hg => HO5.out g (HFR.out g (by have := HX2.out.size; omega))⟩

set_option maxHeartbeats 1000000 in
theorem div_even (va vb : Value) (a b : Int) (w : World) (ha : IsB w va a) (hb : IsB w vb b) (hla : (digs a.natAbs).length ≤ 1000000) (hlb : (digs b.natAbs).length ≤ 1000000) (h0 : b ≠ 0) (hc : a.sign ≠ b.sign ∧ (a.natAbs : Int) % (b.natAbs : Int) = 0) :
    Calls Try.prog 79 #[va, vb] w (AnsD (a.fdiv b) (a.fmod b) 0 w) := by
  obtain ⟨sa, rfl, hia⟩ := id ha
  obtain ⟨sb, rfl, hib⟩ := id hb
  have HA := Lib.hid ha
  have HB := Lib.hid hb
  have HIA := Lib.hid hia
  have HIB := Lib.hid hib
  obtain ⟨aa, ca, rfl, _⟩ := hia.open
  obtain ⟨ab, cb, rfl, _⟩ := hib.open
  obtain ⟨na, ena⟩ : ∃ n, (digs a.natAbs).length = n := ⟨_, rfl⟩
  obtain ⟨nb, enb⟩ : ∃ n, (digs b.natAbs).length = n := ⟨_, rfl⟩
  rw [ena] at HA HIA ⊢
  rw [enb] at HB HIB ⊢
  have hm : (a.natAbs : Int) = (b.natAbs : Int) * ((a.natAbs : Int) / (b.natAbs : Int)) + (a.natAbs : Int) % (b.natAbs : Int) := (Int.mul_ediv_add_emod _ _).symm
  have hm0 : 0 ≤ (a.natAbs : Int) % (b.natAbs : Int) := Int.emod_nonneg _ (by omega)
  have hm1 : (a.natAbs : Int) % (b.natAbs : Int) < b.natAbs := Int.emod_lt_of_pos _ (by omega)
  have hm2 : 0 ≤ (a.natAbs : Int) / (b.natAbs : Int) := Int.ediv_nonneg (by omega) (by omega)
  have hF := fl_plain h0 hm hm0 hm1 hm2 (.inr hc.2)
  have HT : Hid ((a.sign != b.sign) = true) := by unfold Hid; simpa using hc.1
  have hr00 := hc.2
  have HY : Hid (P ((digs b.natAbs).length - 1) ≤ val (digs b.natAbs)) := by unfold Hid; rw [digs_val]; exact digs_ge' (by omega)
  have HL0 : Hid (0 < (digs b.natAbs).length) := digs_pos_len (by omega)
  have HLA := Lib.hid hla
  have HLB := Lib.hid hlb
  have HZ : Hid ((b.sign == 0) = false) := by unfold Hid; simpa using h0
  have hsx := sgn_bd a
  have hsy := sgn_bd b
  have hsp := sign_bd a b
  have HSP := Lib.hid hsp
  have HM0 := Lib.hid hm0
  have HDV : Hid (∀ W, Ints W (.slice aa na ca) (digs a.natAbs) → Ints W (.slice ab nb cb) (digs b.natAbs) → Calls Try.prog 90 #[.slice aa na ca, .slice ab nb cb] W (Divs (a.natAbs : Int) (b.natAbs : Int) W)) := by
    intro W h1 h2
    have := divide_any _ _ _ _ W h1 h2 (digs_dig _) (digs_dig _) hla hlb HL0.out HY.out
    rwa [digs_val, digs_val] at this
  obtain ⟨q, eq⟩ : ∃ q, a.fdiv b = q := ⟨_, rfl⟩
  obtain ⟨r, er⟩ : ∃ r, a.fmod b = r := ⟨_, rfl⟩
  obtain ⟨q0, eq0⟩ : ∃ q0, (a.natAbs : Int) / (b.natAbs : Int) = q0 := ⟨_, rfl⟩
  obtain ⟨r0, er0⟩ : ∃ r0, (a.natAbs : Int) % (b.natAbs : Int) = r0 := ⟨_, rfl⟩
  rw [eq, er] at hF ⊢
  rw [eq0, er0] at hF
  rw [eq0] at hm2
  rw [er0] at hm0 hm1 hr00
  have HR00 := Lib.hid hr00
  obtain ⟨hF1, hF2, hF3, hF4⟩ := hF
  have HF1 := Lib.hid hF1
  have HF2 := Lib.hid hF2
  have HF3 := Lib.hid hF3
  have HF4 := Lib.hid hF4
  have HQ0 := Lib.hid eq0
  have HR0 := Lib.hid er0
  have HH0 := Lib.hid hm0
  have HH1 := Lib.hid hm1
  have HH2 := Lib.hid hm2
  clear hm
  have hx := Bx2.start w a.sign (.slice aa na ca) b.sign (.slice ab nb cb)
  have HX0 := Lib.hid hx
  clear ha hb hia hib hx ena enb hla hlb h0 hc hsp eq er eq0 er0 hF1 hF2 hF3 hF4 hm0 hm1 hm2 hr00
  go_enter Try.func79, Try.ntmps79
  go_wp2_with fail
  refine (isb_any (HA.out.later HX0.out.below)).mono ?_
  rintro e w1 ⟨rfl, hb1⟩
  have HX1 := Lib.hid (HX0.out.later hb1)
  obtain ⟨c00, c01, c10, c11⟩ := HX1.out.cells
  clear hb1
  go_wp2_with fail
  refine (isb_any (HB.out.later HX1.out.below)).mono ?_
  rintro e w2 ⟨rfl, hb2⟩
  have HX2 := Lib.hid (HX1.out.later hb2)
  obtain ⟨d00, d01, d10, d11⟩ := HX2.out.cells
  clear hb2 c00 c01 c10 c11
  have hz := HZ.out
  go_wp2_with fail
  refine (HDV.out _ (HIA.out.later HX2.out.below) (HIB.out.later HX2.out.below)).mono ?_
  rintro e w3 ⟨aq, capq, LQ, vr, rfl, hdq, hvq, hiq, hir, hb3, hlq, hfq, hfr⟩
  rw [HQ0.out] at hvq
  rw [HR0.out] at hir
  obtain ⟨ar, cr, rfl, hir2⟩ := hir.open
  have HX3 := Lib.hid (HX2.out.later hb3)
  have HDQ := Lib.hid hdq
  have HVQ := Lib.hid hvq
  have HIQ := Lib.hid hiq
  have HIR := Lib.hid hir2
  have HFQ := Lib.hid hfq
  have HFR := Lib.hid hfr
  have HLQ := Lib.hid hlq
  obtain ⟨lr, elr⟩ : ∃ n, (digs r0.toNat).length = n := ⟨_, rfl⟩
  have HLR := Lib.hid elr
  rw [elr] at HIR HFR
  have HSR : Hid (∀ W, Ints W (.slice ar lr cr) (digs r0.toNat) → Calls Try.prog 75 #[.int .i64 b.sign, .slice ar lr cr] W (GivesB r (.slice ar lr cr) W)) := by
    intro W hW
    rw [← elr] at hW ⊢
    exact signed_any _ ar cr _ (digs_dig r0.toNat) r (by rw [digs_val, HF3.out]; have := HH0.out; omega) HF4.out W hW
  rw [elr]
  obtain ⟨c0, c1, c2, c3⟩ := HX3.out.cells
  have HSQ : Hid (∀ W, Ints W (.slice aq LQ.length capq) LQ → Calls Try.prog 75 #[.int .i64 (a.sign * b.sign), .slice aq LQ.length capq] W (GivesB q (.slice aq LQ.length capq) W)) := fun W hW => signed_any _ aq capq LQ HDQ.out q (by rw [HVQ.out]; exact HF1.out) HF2.out W hW
  have HB3 := Lib.hid hb3
  clear hdq hvq hiq hir hir2 hb3 hlq hfq hfr elr d00 d01 d10 d11 hz
  have ht := HT.out
  have hlr0 : lr = 0 := by rw [← HLR.out, HR00.out]; simp [digs_zero]
  subst hlr0
  go_wp2_with fail
  clear c0 c1 c2 c3 ht
  have hw : IntKind.i64.wrap (a.sign * b.sign) = a.sign * b.sign := IntWalk.i64_in _ (by have := HSP.out; omega)
  have HXD := Lib.hid (HX3.out.heap (W' := w3.drew) rfl rfl rfl rfl)
  have e2 := HXD.out.cells
  go_region_held3 (fun W => W.cell? ⟨w.heap.size, 0, none⟩ = some (.int .i64 a.sign) ∧ W.cell? ⟨w.heap.size, 1, none⟩ = some (.slice aa na ca) ∧ W.cell? ⟨w.heap.size + 1, 0, none⟩ = some (.int .i64 b.sign) ∧ W.cell? ⟨w.heap.size + 1, 1, none⟩ = some (.slice ab nb cb))
    (first | (with_reducible exact e2) | (with_reducible exact x4) | (with_reducible exact x5) | (with_reducible exact HX5.out.stay1 _ _) | (with_reducible exact HX5.out.stay2 _ _ _ _))
    (first
      | (go_at_call 75; (with_reducible refine (HSQ.out _ ?_).mono ?_); (focus exact Ints.drew HIQ.out); rintro e w4 ⟨s4, rfl, hi4, hb4, ho4⟩; obtain ⟨a4, c4, rfl, hj4⟩ := hi4.open; have HO4 := Lib.hid ho4; have HX4 := Lib.hid (HXD.out.later hb4); have HB4 := Lib.hid hb4; have x4 := HX4.out.cells; have HI4 := Lib.hid hj4; clear hi4 hj4 hb4 ho4)
      | (go_at_call 75; (with_reducible refine (HSR.out _ ?_).mono ?_); (focus exact (Ints.drew HIR.out).later HB4.out); rintro e w5 ⟨s5, rfl, hi5, hb5, ho5⟩; obtain ⟨a5, c5, rfl, hj5⟩ := hi5.open; have HO5 := Lib.hid ho5; have HX5 := Lib.hid (HX4.out.later hb5); have x5 := HX5.out.cells; have HI5 := Lib.hid hj5; have HI6 := Lib.hid (HI4.out.later hb5); clear hi5 hj5 hb5 ho5; obtain ⟨⟨r0', r1, f0, f1⟩, t0, t1, g0, g1⟩ := HX5.out.rcells))
  go_wp2_with fail
  have hsz := HX2.out.size
  have o41 := HO4.out (w.heap.size + 1 + 1) (HFQ.out _ (by have := HX2.out.size; omega))
  have o42 := HO4.out (w.heap.size + 1 + 1 + 1) (HFQ.out _ (by have := HX2.out.size; omega))
  have o51 := HO5.out (w.heap.size + 1 + 1) (HFR.out _ (by have := HX2.out.size; omega))
  have o52 := HO5.out (w.heap.size + 1 + 1 + 1) (HFR.out _ (by have := HX2.out.size; omega))
  exact bodyPost_ret (v := .tuple #[.agg #[.int .i64 q.sign, .slice a4 (digs q.natAbs).length c4], .agg #[.int .i64 r.sign, .slice a5 (digs r.natAbs).length c5], .int .i64 0]) (by simp [results, Try.results79, go_sem, r0', r1, t0, t1]) rfl
    ⟨_, _, rfl, (((HI6.out.set o41 0 _).set o41 1 _).set o42 0 _).set o42 1 _, (((HI5.out.set o51 0 _).set o51 1 _).set o52 0 _).set o52 1 _,
      (((HX5.out.below.setCell (by simp; omega) _).setCell (by simp; omega) _).setCell (by simp; omega) _).setCell (by simp; omega) _,
      fun g hg => HO4.out g (HFQ.out g (by have := HX2.out.size; omega)), fun g hg => HO5.out g (HFR.out g (by have := HX2.out.size; omega))⟩

set_option maxHeartbeats 1000000 in
theorem div_turn (va vb : Value) (a b : Int) (w : World) (ha : IsB w va a) (hb : IsB w vb b) (hla : (digs a.natAbs).length ≤ 1000000) (hlb : (digs b.natAbs).length ≤ 1000000) (h0 : b ≠ 0) (hc : a.sign ≠ b.sign ∧ 0 < (a.natAbs : Int) % (b.natAbs : Int)) :
    Calls Try.prog 79 #[va, vb] w (AnsD (a.fdiv b) (a.fmod b) 0 w) := by
  obtain ⟨sa, rfl, hia⟩ := id ha
  obtain ⟨sb, rfl, hib⟩ := id hb
  have HA := Lib.hid ha
  have HB := Lib.hid hb
  have HIA := Lib.hid hia
  have HIB := Lib.hid hib
  obtain ⟨aa, ca, rfl, _⟩ := hia.open
  obtain ⟨ab, cb, rfl, _⟩ := hib.open
  obtain ⟨na, ena⟩ : ∃ n, (digs a.natAbs).length = n := ⟨_, rfl⟩
  obtain ⟨nb, enb⟩ : ∃ n, (digs b.natAbs).length = n := ⟨_, rfl⟩
  rw [ena] at HA HIA ⊢
  rw [enb] at HB HIB ⊢
  have hm : (a.natAbs : Int) = (b.natAbs : Int) * ((a.natAbs : Int) / (b.natAbs : Int)) + (a.natAbs : Int) % (b.natAbs : Int) := (Int.mul_ediv_add_emod _ _).symm
  have hm0 : 0 ≤ (a.natAbs : Int) % (b.natAbs : Int) := Int.emod_nonneg _ (by omega)
  have hm1 : (a.natAbs : Int) % (b.natAbs : Int) < b.natAbs := Int.emod_lt_of_pos _ (by omega)
  have hm2 : 0 ≤ (a.natAbs : Int) / (b.natAbs : Int) := Int.ediv_nonneg (by omega) (by omega)
  have hF := fl_adj h0 hm hc.2 hm1 hm2 hc.1
  have HT : Hid ((a.sign != b.sign) = true) := by unfold Hid; simpa using hc.1
  have hr00 := hc.2
  have HY : Hid (P ((digs b.natAbs).length - 1) ≤ val (digs b.natAbs)) := by unfold Hid; rw [digs_val]; exact digs_ge' (by omega)
  have HL0 : Hid (0 < (digs b.natAbs).length) := digs_pos_len (by omega)
  have HLA := Lib.hid hla
  have HLB := Lib.hid hlb
  have HZ : Hid ((b.sign == 0) = false) := by unfold Hid; simpa using h0
  have hsx := sgn_bd a
  have hsy := sgn_bd b
  have hsp := sign_bd a b
  have HSP := Lib.hid hsp
  have HM0 := Lib.hid hm0
  have HDV : Hid (∀ W, Ints W (.slice aa na ca) (digs a.natAbs) → Ints W (.slice ab nb cb) (digs b.natAbs) → Calls Try.prog 90 #[.slice aa na ca, .slice ab nb cb] W (Divs (a.natAbs : Int) (b.natAbs : Int) W)) := by
    intro W h1 h2
    have := divide_any _ _ _ _ W h1 h2 (digs_dig _) (digs_dig _) hla hlb HL0.out HY.out
    rwa [digs_val, digs_val] at this
  obtain ⟨q, eq⟩ : ∃ q, a.fdiv b = q := ⟨_, rfl⟩
  obtain ⟨r, er⟩ : ∃ r, a.fmod b = r := ⟨_, rfl⟩
  obtain ⟨q0, eq0⟩ : ∃ q0, (a.natAbs : Int) / (b.natAbs : Int) = q0 := ⟨_, rfl⟩
  obtain ⟨r0, er0⟩ : ∃ r0, (a.natAbs : Int) % (b.natAbs : Int) = r0 := ⟨_, rfl⟩
  rw [eq, er] at hF ⊢
  rw [eq0, er0] at hF
  rw [eq0] at hm2
  rw [er0] at hm0 hm1 hr00
  have HR00 := Lib.hid hr00
  obtain ⟨hF1, hF2, hF3, hF4⟩ := hF
  have HF1 := Lib.hid hF1
  have HF2 := Lib.hid hF2
  have HF3 := Lib.hid hF3
  have HF4 := Lib.hid hF4
  have HQ0 := Lib.hid eq0
  have HR0 := Lib.hid er0
  have HH0 := Lib.hid hm0
  have HH1 := Lib.hid hm1
  have HH2 := Lib.hid hm2
  clear hm
  have hx := Bx2.start w a.sign (.slice aa na ca) b.sign (.slice ab nb cb)
  have HX0 := Lib.hid hx
  clear ha hb hia hib hx ena enb hla hlb h0 hc hsp eq er eq0 er0 hF1 hF2 hF3 hF4 hm0 hm1 hm2 hr00
  go_enter Try.func79, Try.ntmps79
  go_wp2_with fail
  refine (isb_any (HA.out.later HX0.out.below)).mono ?_
  rintro e w1 ⟨rfl, hb1⟩
  have HX1 := Lib.hid (HX0.out.later hb1)
  obtain ⟨c00, c01, c10, c11⟩ := HX1.out.cells
  clear hb1
  go_wp2_with fail
  refine (isb_any (HB.out.later HX1.out.below)).mono ?_
  rintro e w2 ⟨rfl, hb2⟩
  have HX2 := Lib.hid (HX1.out.later hb2)
  obtain ⟨d00, d01, d10, d11⟩ := HX2.out.cells
  clear hb2 c00 c01 c10 c11
  have hz := HZ.out
  go_wp2_with fail
  refine (HDV.out _ (HIA.out.later HX2.out.below) (HIB.out.later HX2.out.below)).mono ?_
  rintro e w3 ⟨aq, capq, LQ, vr, rfl, hdq, hvq, hiq, hir, hb3, hlq, hfq, hfr⟩
  rw [HQ0.out] at hvq
  rw [HR0.out] at hir
  obtain ⟨ar, cr, rfl, hir2⟩ := hir.open
  have HX3 := Lib.hid (HX2.out.later hb3)
  have HDQ := Lib.hid hdq
  have HVQ := Lib.hid hvq
  have HIQ := Lib.hid hiq
  have HIR := Lib.hid hir2
  have HFQ := Lib.hid hfq
  have HFR := Lib.hid hfr
  have HLQ := Lib.hid hlq
  obtain ⟨lr, elr⟩ : ∃ n, (digs r0.toNat).length = n := ⟨_, rfl⟩
  have HLR := Lib.hid elr
  rw [elr] at HIR HFR
  rw [elr]
  obtain ⟨c0, c1, c2, c3⟩ := HX3.out.cells
  have HB3 := Lib.hid hb3
  clear hdq hvq hiq hir hir2 hb3 hlq hfq hfr elr d00 d01 d10 d11 hz
  have ht := HT.out
  have hlr0 : 0 < lr := by rw [← HLR.out]; exact digs_pos_len (by have := HR00.out; omega)
  go_wp2_with fail
  have HXB := Lib.hid (HX3.out.heap (W' := w3.drew) rfl rfl rfl rfl)
  have e3 := HXB.out.cells
  have HXA := Lib.hid ((HX3.out.later (below_alloc w3 (.cells #[.int .i64 1] 3))).heap (W' := (w3.alloc (.cells #[.int .i64 1] 3)).drew) rfl rfl rfl rfl)
  have e4 := HXA.out.cells
  have HAL : Hid (RowKit.Below w3.heap.size w3 (w3.alloc (.cells #[.int .i64 1] 3)).drew) := (below_alloc w3 _).drew
  have HC1 : Hid (∀ W v, Ints W (.slice aq LQ.length capq) LQ → Ints W v [1] → Calls Try.prog 91 #[.slice aq LQ.length capq, v, .int .i64 1, .int .i64 1] W (Gives (q0 + 1).toNat W)) := by
    intro W v h1 h2
    have hv := val_bd HDQ.out
    have := combine_any _ _ LQ [1] 1 1 W h1 h2 HDQ.out (Dig.cons (by omega) (by omega) Dig.nil) (by omega) (by omega) HLQ.out (by simp) (by simp [val]; omega) (by
      have hp := P_le (i := LQ.length) (j := max LQ.length ([1] : List Int).length) (by omega)
      have hq := P_pos (max LQ.length ([1] : List Int).length)
      rw [P_succ]; simp only [val]; omega)
    rw [show 1 * val LQ + 1 * val [1] = q0 + 1 by rw [HVQ.out]; simp [val]] at this
    exact this
  have HC2 : Hid (∀ W, Ints W (.slice ab nb cb) (digs b.natAbs) → Ints W (.slice ar lr cr) (digs r0.toNat) → Calls Try.prog 91 #[.slice ab nb cb, .slice ar lr cr, .int .i64 1, .int .i64 (-1)] W (Gives ((b.natAbs : Int) - r0).toNat W)) := by
    intro W h1 h2
    have h3 := HH0.out
    have h4 := HH1.out
    have h5 := digs_lt b.natAbs
    have h6 := digs_mono (m := r0.toNat) (n := b.natAbs) (by omega)
    have := combine_any _ _ _ _ 1 (-1) W h1 h2 (digs_dig _) (digs_dig _) (by omega) (by omega) (by have := HLB.out; omega) (by have := HLB.out; omega) (by rw [digs_val, digs_val]; omega) (by
      have hp := P_le (i := (digs b.natAbs).length) (j := max (digs b.natAbs).length (digs r0.toNat).length + 1) (by omega)
      rw [digs_val, digs_val]; omega)
    rw [digs_val, digs_val, show 1 * (b.natAbs : Int) + -1 * (r0.toNat : Int) = (b.natAbs : Int) - r0 by omega] at this
    exact this
  clear c0 c1 c2 c3
  go_region_held3 (fun W => W.cell? ⟨w.heap.size, 0, none⟩ = some (.int .i64 a.sign) ∧ W.cell? ⟨w.heap.size, 1, none⟩ = some (.slice aa na ca) ∧ W.cell? ⟨w.heap.size + 1, 0, none⟩ = some (.int .i64 b.sign) ∧ W.cell? ⟨w.heap.size + 1, 1, none⟩ = some (.slice ab nb cb))
    (first | (with_reducible exact e3) | (with_reducible exact e4) | (with_reducible exact x6) | (with_reducible exact x7))
    (first
      | (go_at_call 91; (with_reducible refine (HC1.out _ _ ?_ ?_).mono ?_); (focus exact HIQ.out.later HAL.out); (focus exact ints_one _ _); rintro e w6 ⟨v6, rfl, hi6, hb6, hf6⟩; obtain ⟨a6, c6, rfl, hj6⟩ := hi6.open; have HX6 := Lib.hid (HXA.out.later hb6); have HB6 := Lib.hid (HAL.out.trans (hb6.mono (by simp))); have x6 := HX6.out.cells; have HI6 := Lib.hid hj6; have HF6 := Lib.hid hf6; clear hi6 hj6 hb6 hf6)
      | (go_at_call 91; (with_reducible refine (HC2.out _ ?_ ?_).mono ?_); (focus exact HIB.out.later HX6.out.below); (focus exact HIR.out.later HB6.out); rintro e w7 ⟨v7, rfl, hi7, hb7, hf7⟩; obtain ⟨a7, c7, rfl, hj7⟩ := hi7.open; have HX7 := Lib.hid (HX6.out.later hb7); have x7 := HX7.out.cells; have HI7 := Lib.hid hj7; have HF7 := Lib.hid hf7; have HI67 := Lib.hid (HI6.out.later hb7); have HB7 := Lib.hid hb7; clear hi7 hj7 hb7 hf7))
  obtain ⟨l6, el6⟩ : ∃ l, (digs (q0 + 1).toNat).length = l := ⟨_, rfl⟩
  obtain ⟨l7, el7⟩ : ∃ l, (digs ((b.natAbs : Int) - r0).toNat).length = l := ⟨_, rfl⟩
  have HS6 : Hid (∀ W, Ints W (.slice a6 l6 c6) (digs (q0 + 1).toNat) → Calls Try.prog 75 #[.int .i64 (a.sign * b.sign), .slice a6 l6 c6] W (GivesB q (.slice a6 l6 c6) W)) := by
    intro W hW
    rw [← el6] at hW ⊢
    exact signed_any _ a6 c6 _ (digs_dig _) q (by rw [digs_val, HF1.out]; have := HH2.out; omega) (fun _ => HF2.out) W hW
  have HS7 : Hid (∀ W, Ints W (.slice a7 l7 c7) (digs ((b.natAbs : Int) - r0).toNat) → Calls Try.prog 75 #[.int .i64 b.sign, .slice a7 l7 c7] W (GivesB r (.slice a7 l7 c7) W)) := by
    intro W hW
    rw [← el7] at hW ⊢
    exact signed_any _ a7 c7 _ (digs_dig _) r (by rw [digs_val, HF3.out]; have := HH1.out; omega) (fun _ => HF4.out) W hW
  have HG6 : Hid (Fresh w2.heap.size (.slice a6 l6 c6)) := by unfold Hid; rw [← el6]; exact HF6.out.mono (by have := HB3.out.size; have := HAL.out.size; omega)
  have HG7 : Hid (Fresh w2.heap.size (.slice a7 l7 c7)) := by unfold Hid; rw [← el7]; exact HF7.out.mono (by have := HB3.out.size; have := HB6.out.size; omega)
  rw [el6] at HI67
  rw [el7] at HI7
  rw [el6, el7]
  clear el6 el7 e3 e4 x6
  go_wp2_with fail
  clear  x7 ht hlr0
  have hw : IntKind.i64.wrap (a.sign * b.sign) = a.sign * b.sign := IntWalk.i64_in _ (by have := HSP.out; omega)
  have HXD := Lib.hid (HX7.out.heap (W' := w7.drew) rfl rfl rfl rfl)
  have e2 := HXD.out.cells
  go_region_held3 (fun W => W.cell? ⟨w.heap.size, 0, none⟩ = some (.int .i64 a.sign) ∧ W.cell? ⟨w.heap.size, 1, none⟩ = some (.slice aa na ca) ∧ W.cell? ⟨w.heap.size + 1, 0, none⟩ = some (.int .i64 b.sign) ∧ W.cell? ⟨w.heap.size + 1, 1, none⟩ = some (.slice ab nb cb))
    (first | (with_reducible exact e2) | (with_reducible exact x4) | (with_reducible exact x5) | (with_reducible exact HX5.out.stay1 _ _) | (with_reducible exact HX5.out.stay2 _ _ _ _))
    (first
      | (go_at_call 75; (with_reducible refine (HS6.out _ ?_).mono ?_); (focus exact Ints.drew HI67.out); rintro e w4 ⟨s4, rfl, hi4, hb4, ho4⟩; obtain ⟨a4, c4, rfl, hj4⟩ := hi4.open; have HO4 := Lib.hid ho4; have HX4 := Lib.hid (HXD.out.later hb4); have HB4 := Lib.hid hb4; have x4 := HX4.out.cells; have HI4 := Lib.hid hj4; clear hi4 hj4 hb4 ho4)
      | (go_at_call 75; (with_reducible refine (HS7.out _ ?_).mono ?_); (focus exact (Ints.drew HI7.out).later HB4.out); rintro e w5 ⟨s5, rfl, hi5, hb5, ho5⟩; obtain ⟨a5, c5, rfl, hj5⟩ := hi5.open; have HO5 := Lib.hid ho5; have HX5 := Lib.hid (HX4.out.later hb5); have x5 := HX5.out.cells; have HI5 := Lib.hid hj5; have HI6 := Lib.hid (HI4.out.later hb5); clear hi5 hj5 hb5 ho5; obtain ⟨⟨r0', r1, f0, f1⟩, t0, t1, g0, g1⟩ := HX5.out.rcells))
  go_wp2_with fail
  have hsz := HX2.out.size
  have o41 := HO4.out (w.heap.size + 1 + 1) (HG6.out _ (by have := HX2.out.size; omega))
  have o42 := HO4.out (w.heap.size + 1 + 1 + 1) (HG6.out _ (by have := HX2.out.size; omega))
  have o51 := HO5.out (w.heap.size + 1 + 1) (HG7.out _ (by have := HX2.out.size; omega))
  have o52 := HO5.out (w.heap.size + 1 + 1 + 1) (HG7.out _ (by have := HX2.out.size; omega))
  exact bodyPost_ret (v := .tuple #[.agg #[.int .i64 q.sign, .slice a4 (digs q.natAbs).length c4], .agg #[.int .i64 r.sign, .slice a5 (digs r.natAbs).length c5], .int .i64 0]) (by simp [results, Try.results79, go_sem, r0', r1, t0, t1]) rfl
    ⟨_, _, rfl, (((HI6.out.set o41 0 _).set o41 1 _).set o42 0 _).set o42 1 _, (((HI5.out.set o51 0 _).set o51 1 _).set o52 0 _).set o52 1 _,
      (((HX5.out.below.setCell (by simp; omega) _).setCell (by simp; omega) _).setCell (by simp; omega) _).setCell (by simp; omega) _,
      fun g hg => HO4.out g (HG6.out g (by have := HX2.out.size; omega)), fun g hg => HO5.out g (HG7.out g (by have := HX2.out.size; omega))⟩

theorem div_ok (va vb : Value) (a b : Int) (w : World) (ha : IsB w va a) (hb : IsB w vb b) (hla : (digs a.natAbs).length ≤ 1000000) (hlb : (digs b.natAbs).length ≤ 1000000) (h0 : b ≠ 0) :
    Calls Try.prog 79 #[va, vb] w (AnsD (a.fdiv b) (a.fmod b) 0 w) := by
  by_cases h : a.sign = b.sign
  · exact div_same va vb a b w ha hb hla hlb h0 h
  · have hm0 : 0 ≤ (a.natAbs : Int) % (b.natAbs : Int) := Int.emod_nonneg _ (by omega)
    by_cases k : (a.natAbs : Int) % (b.natAbs : Int) = 0
    · exact div_even va vb a b w ha hb hla hlb h0 ⟨h, k⟩
    · exact div_turn va vb a b w ha hb hla hlb h0 ⟨h, by omega⟩
end Go.Proofs.Ytmhjejnkphdjpaa.Bi
