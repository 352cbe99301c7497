/- kitbagref04: Neg, Sub. -/
import Derived.Test.YtnddickcnfodfaaGreatDoorLBt9
set_option maxRecDepth 100000
namespace Go.Proofs.YtnddickcnfodfaaGreatDoor.Bi
open Go.RowKit

set_option maxHeartbeats 2000000 in
theorem rneg_ok (va : Value) (a : Int) (w : World) (ha : IsB w va a) (hl : (digs a.natAbs).length ≤ 1000000) :
    Calls Tryz.prog 58 #[va] w (AnsB (-a) w) := by
  obtain ⟨va', rfl, hia⟩ := id ha
  obtain ⟨aa, na, ca, rfl⟩ : ∃ aa na ca, va' = .slice aa na ca := by obtain ⟨x, y, z, _⟩ := hia; exact ⟨_, _, _, z⟩
  have hna : na = (digs a.natAbs).length := by obtain ⟨x, y, z, _⟩ := hia; injection z
  obtain ⟨x, ex⟩ : ∃ x, a.sign = x := ⟨_, rfl⟩
  have hxb : -1 ≤ x ∧ x ≤ 1 := by rw [← ex]; exact sgn_bd a
  have hsg : -a ≠ 0 → -x = (-a).sign := fun _ => by rw [Int.sign_neg, ex]
  rw [ex] at ha ⊢
  have HA := Lib.hid ha
  have HIA := Lib.hid hia
  have HSG := Lib.hid hsg
  have HLN : Hid ((digs a.natAbs).length ≤ 1000000) := hl
  have HNA := Lib.hid hna
  have HPN : Hid ((-a).natAbs = a.natAbs) := Int.natAbs_neg a
  have hx := B1.start w x (.slice aa na ca)
  have HX0 := Lib.hid hx
  have hw : IntKind.i64.wrap (-x) = -x := IntWalk.i64_in _ (by omega)
  clear ha hia hx ex hsg hl hna
  go_enter Tryz.func58, Tryz.ntmps58
  go_wp2_with fail
  refine (risb_any (HA.out.later HX0.out.below)).mono ?_
  rintro e w1 ⟨rfl, hb1⟩
  have HX1 := Lib.hid (HX0.out.later hb1)
  clear hb1
  obtain ⟨q0, q1⟩ := HX1.out.cells
  go_wp2_with fail
  have hm := fun W h => rmade_n (-x) aa ca a.natAbs (-a) HPN.out HSG.out W h (Nat.le_trans HLN.out (by decide))
  rw [← HNA.out] at hm
  have HM := Lib.hid hm
  clear hm
  refine (HM.out _ (HIA.out.later HX1.out.below)).mono ?_
  rintro e w3 ⟨s3, rfl, hi3, hb3, hf3⟩
  obtain ⟨a3, c3, rfl, hi4⟩ := hi3.open
  have HX3 := Lib.hid (HX1.out.later hb3)
  have HI3 := Lib.hid hi4
  have HF3 := Lib.hid hf3
  obtain ⟨r0, r1, f0, f1⟩ := HX3.out.rcells
  clear hi3 hi4 hb3 hf3 q0 q1
  obtain ⟨p, ep⟩ : ∃ p, -a = p := ⟨_, rfl⟩
  rw [ep] at HI3 HF3 ⊢
  go_wp2_with fail
  have hoff := HF3.out (w.heap.size + 1) HX1.out.size
  rw [ep]
  exact bodyPost_ret (v := .agg #[.int .i64 p.sign, .slice a3 (digs p.natAbs).length c3]) (by simp [results, Tryz.results58, go_sem, r0, r1]) rfl
    ⟨_, rfl, (HI3.out.set hoff 0 _).set hoff 1 _, (HX3.out.below.setCell (by simp) _).setCell (by simp) _, HF3.out.mono HX1.out.below.size⟩

set_option maxHeartbeats 4000000 in
theorem rsub_bad (va vb : Value) (sa sb : Int) (la lb : List Int) (w : World) (ha : Arg w va sa la) (hb : Arg w vb sb lb) (hr : rightB sb lb = false) :
    Calls Tryz.prog 49 #[va, vb] w (Ans 0 1 w) := by
  obtain ⟨va', rfl, hia⟩ := id ha
  obtain ⟨vb', rfl, hib⟩ := id hb
  obtain ⟨aa, ca, rfl, _⟩ := hia.open
  obtain ⟨ab, cb, rfl, _⟩ := hib.open
  obtain ⟨na, ena⟩ : ∃ n, la.length = n := ⟨_, rfl⟩
  obtain ⟨nb, enb⟩ : ∃ n, lb.length = n := ⟨_, rfl⟩
  rw [ena] at ha ⊢
  rw [enb] at hb ⊢
  have HB := Lib.hid hb
  have hx := Bx.start w sa (.slice aa na ca) sb (.slice ab nb cb)
  have HX0 := Lib.hid hx
  have HR := Lib.hid hr
  clear ha hb hia hib hx hr ena enb
  go_enter Tryz.func49, Tryz.ntmps49
  go_wp2_with fail
  refine (rright_any _ sb lb _ (HB.out.later HX0.out.below)).mono ?_
  rintro e w1 ⟨rfl, hb1⟩
  rw [HR.out]
  have HX1 := Lib.hid (HX0.out.later hb1)
  obtain ⟨r0, r1, f0, f1⟩ := HX1.out.rcells
  clear hb1
  go_wp2_with fail
  exact bodyPost_ret (v := .tuple #[.agg #[.int .i64 0, .slice none 0 0], .int .i64 1]) (by simp [results, Tryz.results49, go_sem, r0, r1]) rfl
    ⟨_, rfl, by rw [show (0 : Int).natAbs = 0 from rfl, digs_zero]; exact Ints.nil _, HX1.out.put _ _, fun g _ => off_nil g 0 0⟩

theorem four_alloc {W : World} {a b c d : Addr} {x y z u : Value} (h : W.cell? a = some x ∧ W.cell? b = some y ∧ W.cell? c = some z ∧ W.cell? d = some u) (O : Obj) : (W.alloc O).cell? a = some x ∧ (W.alloc O).cell? b = some y ∧ (W.alloc O).cell? c = some z ∧ (W.alloc O).cell? d = some u :=
  ⟨keepB h.1 O, keepB h.2.1 O, keepB h.2.2.1 O, keepB h.2.2.2 O⟩
theorem four_set {w W : World} {g : Nat} {x y z u p q : Value} (h : W.cell? ⟨w.heap.size, 0, none⟩ = some x ∧ W.cell? ⟨w.heap.size, 1, none⟩ = some y ∧ W.cell? ⟨w.heap.size + 1, 0, none⟩ = some z ∧ W.cell? ⟨w.heap.size + 1, 1, none⟩ = some u) (hg : w.heap.size + 1 + 1 < g) :
    let W' := (W.setCell ⟨g, 0, none⟩ p).setCell ⟨g, 1, none⟩ q
    W'.cell? ⟨w.heap.size, 0, none⟩ = some x ∧ W'.cell? ⟨w.heap.size, 1, none⟩ = some y ∧ W'.cell? ⟨w.heap.size + 1, 0, none⟩ = some z ∧ W'.cell? ⟨w.heap.size + 1, 1, none⟩ = some u := by
  intro W'
  have hc : ∀ b o, b ≠ g → W'.cell? ⟨b, o, none⟩ = W.cell? ⟨b, o, none⟩ := fun b o hb =>
    World.cell?_of_block (w := W) ((Below.heap_setCell _ _ _ _ hb).trans (Below.heap_setCell _ _ _ _ hb))
  exact ⟨(hc _ _ (by omega)).trans h.1, (hc _ _ (by omega)).trans h.2.1, (hc _ _ (by omega)).trans h.2.2.1, (hc _ _ (by omega)).trans h.2.2.2⟩
theorem IsB.alloc {w : World} {v : Value} {z : Int} (h : IsB w v z) (O : Obj) : IsB (w.alloc O) v z := h.later (below_alloc w O)
theorem Bx.alloc {w W : World} {sa sb : Int} {va vb : Value} (h : Bx w sa va sb vb W) (O : Obj) : Bx w sa va sb vb (W.alloc O) := h.later (below_alloc W O)
theorem Bx.alloc_drew {w W : World} {sa sb : Int} {va vb : Value} (h : Bx w sa va sb vb W) (O : Obj) : Bx w sa va sb vb (W.alloc O).drew := (h.alloc O).heap rfl rfl rfl rfl
/-- Block g is a variable's box, as it was made. -/
def IsBox (g : Nat) (W : World) : Prop := W.heap[g]? = some (.cells #[.int .i64 0, .slice none 0 0] 24 (0, 0))
theorem IsBox.new (W : World) : IsBox W.heap.size (W.alloc (.cells #[.int .i64 0, .slice none 0 0] 24)) := alloc_at W _
theorem IsBox.lt {g : Nat} {W : World} (h : IsBox g W) : g < W.heap.size := (Array.getElem?_eq_some_iff.1 h).1
theorem IsBox.later {g : Nat} {W W' : World} (h : IsBox g W) (hb : RowKit.Below W.heap.size W W') : IsBox g W' := (hb.block _ h.lt).trans h
theorem IsBox.facts {g : Nat} {W : World} (h : IsBox g W) : W.cell? ⟨g, 0, none⟩ = some (.int .i64 0) ∧ W.cell? ⟨g, 1, none⟩ = some (.slice none 0 0) ∧ W.frozen? ⟨g, 0, none⟩ = false ∧ W.frozen? ⟨g, 1, none⟩ = false :=
  ⟨by rw [cell_of_row _ _ _ _ _ _ h]; rfl, by rw [cell_of_row _ _ _ _ _ _ h]; rfl, by simp [World.frozen?, show W.heap[g]? = _ from h], by simp [World.frozen?, show W.heap[g]? = _ from h]⟩
theorem box_facts {w W : World} {g : Nat} {sa sb : Int} {va vb : Value} (hy : IsBox g W) (hx : Bx w sa va sb vb W) (hg : w.heap.size + 1 + 1 < g) :
    (∀ p q, ((W.setCell ⟨g, 0, none⟩ p).setCell ⟨g, 1, none⟩ q).cell? ⟨g, 0, none⟩ = some p) ∧ (∀ p q, ((W.setCell ⟨g, 0, none⟩ p).setCell ⟨g, 1, none⟩ q).cell? ⟨g, 1, none⟩ = some q) ∧
    (∀ p q, ((W.setCell ⟨g, 0, none⟩ p).setCell ⟨g, 1, none⟩ q).cell? ⟨w.heap.size + 1 + 1, 0, none⟩ = some (.int .i64 0)) ∧ (∀ p q, ((W.setCell ⟨g, 0, none⟩ p).setCell ⟨g, 1, none⟩ q).cell? ⟨w.heap.size + 1 + 1, 1, none⟩ = some (.slice none 0 0)) ∧
    (∀ p q, ((W.setCell ⟨g, 0, none⟩ p).setCell ⟨g, 1, none⟩ q).frozen? ⟨w.heap.size + 1 + 1, 0, none⟩ = false) ∧ (∀ p q, ((W.setCell ⟨g, 0, none⟩ p).setCell ⟨g, 1, none⟩ q).frozen? ⟨w.heap.size + 1 + 1, 1, none⟩ = false) := by
  obtain ⟨y0, y1, y2, y3⟩ := hy.facts
  obtain ⟨r0, r1, f0, f1⟩ := hx.rcells
  have hh : ∀ p q, ((W.setCell ⟨g, 0, none⟩ p).setCell ⟨g, 1, none⟩ q).heap[w.heap.size + 1 + 1]? = W.heap[w.heap.size + 1 + 1]? := fun p q =>
    (Below.heap_setCell _ _ _ _ (by simp; omega)).trans (Below.heap_setCell _ _ _ _ (by simp; omega))
  have h1 : ∀ p, (W.setCell ⟨g, 0, none⟩ p).cell? ⟨g, 1, none⟩ = some (.slice none 0 0) := fun p => by rw [World.cell?_setCell_other _ _ _ _ (by simp)]; exact y1
  refine ⟨fun p q => ?_, fun p q => World.cell?_setCell_same _ _ _ (h1 p), fun p q => (World.cell?_of_block (hh p q)).trans r0, fun p q => (World.cell?_of_block (hh p q)).trans r1, fun p q => (World.frozen?_of_block (hh p q)).trans f0, fun p q => (World.frozen?_of_block (hh p q)).trans f1⟩
  rw [World.cell?_setCell_other _ _ _ _ (by simp)]
  exact World.cell?_setCell_same _ _ _ y0
theorem frozen_alloc {w : World} {a : Addr} (h : w.frozen? a = false) : ∀ c t, (w.alloc (.cells c t)).frozen? a = false := fun c t => (frozen?_alloc_cells w c t a).trans h
set_option maxHeartbeats 8000000 in
theorem rsub_any (va vb : Value) (sa : Int) (la : List Int) (b p er : Int) (w : World) (ha : Arg w va sa la) (hb : IsB w vb b) (hlb : (digs b.natAbs).length ≤ 100000)
    (hadd : ∀ (W : World) (v : Value), Arg W va sa la → IsB W v (-b) → Calls Tryz.prog 47 #[va, v] W (Ans p er W)) :
    Calls Tryz.prog 49 #[va, vb] w (Ans p er w) := by
  obtain ⟨va', rfl, hia⟩ := id ha
  obtain ⟨vb', rfl, hib⟩ := id hb
  obtain ⟨aa, na, ca, rfl⟩ : ∃ aa na ca, va' = .slice aa na ca := by obtain ⟨x, y, z, _⟩ := hia; exact ⟨_, _, _, z⟩
  obtain ⟨ab, nb, cb, rfl⟩ : ∃ aa na ca, vb' = .slice aa na ca := by obtain ⟨x, y, z, _⟩ := hib; exact ⟨_, _, _, z⟩
  have HA := Lib.hid ha
  have HB := Lib.hid hb
  have hneg := fun W h => rneg_ok (.agg #[.int .i64 b.sign, .slice ab nb cb]) b W h (Nat.le_trans hlb (by omega))
  obtain ⟨m, em⟩ : ∃ m, -b = m := ⟨_, rfl⟩
  rw [em] at hadd hneg
  have HADD := Lib.hid hadd
  have HNEG := Lib.hid hneg
  have hx := Bx.start w sa (.slice aa na ca) b.sign (.slice ab nb cb)
  have HX0 := Lib.hid hx
  clear ha hb hia hib hx hadd hneg em hlb
  go_enter Tryz.func49, Tryz.ntmps49
  go_wp2_with fail
  refine (risb_any (HB.out.later HX0.out.below)).mono ?_
  rintro e w1 ⟨rfl, hb1⟩
  have HX1 := Lib.hid (HX0.out.later hb1)
  obtain ⟨c00, c01, c10, c11⟩ := HX1.out.cells
  clear hb1
  go_wp2_with fail
  have HXD := Lib.hid (HX1.out.heap (W' := w1.drew) rfl rfl rfl rfl)
  have e2 := HXD.out.cells
  clear c00 c01 c10 c11
  have HISB := Lib.hid (HB.out.later HXD.out.below)
  have HARG := Lib.hid (HA.out.later HXD.out.below)
  go_region_held3 (fun W => W.cell? ⟨w.heap.size, 0, none⟩ = some (.int .i64 sa) ∧ W.cell? ⟨w.heap.size, 1, none⟩ = some (.slice aa na ca) ∧ W.cell? ⟨w.heap.size + 1, 0, none⟩ = some (.int .i64 b.sign) ∧ W.cell? ⟨w.heap.size + 1, 1, none⟩ = some (.slice ab nb cb))
    (first | (with_reducible exact e2) | (with_reducible exact x3) | (with_reducible exact x5) | exact four_alloc e2 _ | exact four_alloc x3 _ | exact four_alloc x5 _ | exact four_set x5 HX1.out.size | exact four_set x5 HX3.out.size | exact four_set (four_alloc x5 _) HX5.out.size)
    (first
      | (go_at_call 58; (with_reducible refine (HNEG.out _ ?_).mono ?_); (focus exact HISB.out); rintro e w3 ⟨s3, rfl, hi3, hb3, hf3⟩; obtain ⟨a3, c3, rfl, hi4⟩ := hi3.open; have HX3 := Lib.hid (HXD.out.later hb3); have x3 := HX3.out.cells; have HI3 : Hid (IsB w3 (.agg #[.int .i64 m.sign, .slice a3 (digs m.natAbs).length c3]) m) := ⟨_, rfl, hi4⟩; clear hi3 hi4 hb3 hf3)
      | (go_at_call 58; (with_reducible refine (HNEG.out _ ?_).mono ?_); (focus exact HB.out.later (HX1.out.alloc_drew _).below); rintro e w3 ⟨s3, rfl, hi3, hb3, hf3⟩; obtain ⟨a3, c3, rfl, hi4⟩ := hi3.open; have HX3 := Lib.hid ((HX1.out.alloc_drew _).later hb3); have x3 := HX3.out.cells; have HI3 : Hid (IsB w3 (.agg #[.int .i64 m.sign, .slice a3 (digs m.natAbs).length c3]) m) := ⟨_, rfl, hi4⟩; have Y3 : Hid (IsBox w1.heap.size w3) := (IsBox.later (W := (w1.alloc (.cells #[.int .i64 0, .slice none 0 0] 24)).drew) (IsBox.new w1) hb3); obtain ⟨y0, y1, y2, y3⟩ := Y3.out.facts; clear hi3 hi4 hb3 hf3)
      | (go_at_call 47; (with_reducible refine (HADD.out _ _ ?_ ?_).mono ?_); (focus exact HA.out.later HX3.out.below); (focus exact HI3.out); rintro e w5 ⟨s5, rfl, hi5, hb5, hf5⟩; obtain ⟨a5, c5, rfl, hi6⟩ := hi5.open; have HX5 := Lib.hid (HX3.out.later hb5); have HF5 := Lib.hid hf5; have HH : Hid (w3.heap.size ≤ w5.heap.size) := hb5.size; have hk0 := keepB (HX5.out.rcells).1; have hk1 := keepB (HX5.out.rcells).2.1; have hk2 := frozen_alloc (HX5.out.rcells).2.2.1; have hk3 := frozen_alloc (HX5.out.rcells).2.2.2; have x5 := HX5.out.cells; have HI6 := Lib.hid hi6; obtain ⟨r0, r1, f0, f1⟩ := HX5.out.rcells; (first | (have Y5 := Lib.hid (Y3.out.later hb5); clear y0 y1 y2 y3; obtain ⟨y0, y1, y2, y3⟩ := Y5.out.facts; have HBF := box_facts Y5.out HX5.out HX1.out.size; obtain ⟨bf0, bf1, bf2, bf3, bf4, bf5⟩ := HBF; have HG5 := Lib.hid (HF5.out _ Y3.out.lt); have HG7 := Lib.hid HX1.out.size) | skip); clear hi5 hi6 hb5 hf5)
      | (go_at_call 47; (with_reducible refine (HADD.out _ _ ?_ ?_).mono ?_); (focus exact HA.out.later (HX3.out.alloc _).below); (focus exact HI3.out.alloc _); rintro e w5 ⟨s5, rfl, hi5, hb5, hf5⟩; obtain ⟨a5, c5, rfl, hi6⟩ := hi5.open; have HX5 := Lib.hid ((HX3.out.alloc _).later hb5); have HF5 := Lib.hid (hf5.mono (B' := w3.heap.size) (by simp)); have HG5 := Lib.hid (hf5 w3.heap.size (by simp)); have HG7 := Lib.hid HX3.out.size; have x5 := HX5.out.cells; have HI6 := Lib.hid hi6; obtain ⟨r0, r1, f0, f1⟩ := HX5.out.rcells; have Y5 := Lib.hid ((IsBox.new _).later hb5); obtain ⟨y0, y1, y2, y3⟩ := Y5.out.facts; obtain ⟨bf0, bf1, bf2, bf3, bf4, bf5⟩ := box_facts Y5.out HX5.out HX3.out.size; clear hi5 hi6 hb5 hf5))
  all_goals
    go_wp2_with fail
    have hoff := HF5.out (w.heap.size + 1 + 1) HX3.out.size
    have hge := HX1.out.size
    have hge3 := HX3.out.size
    first
      | (have HI7 := ((HI6.out.set HG5.out 0 (.int .i64 p.sign)).set HG5.out 1 (.slice a5 (digs p.natAbs).length c5)); have HB7 := ((HX5.out.below.setCell (p := ⟨_, 0, none⟩) (Nat.le_of_lt (Nat.lt_of_le_of_lt (Nat.le_add_right _ 2) HG7.out)) (.int .i64 p.sign)).setCell (p := ⟨_, 1, none⟩) (Nat.le_of_lt (Nat.lt_of_le_of_lt (Nat.le_add_right _ 2) HG7.out)) (.slice a5 (digs p.natAbs).length c5))
         refine bodyPost_ret (v := .tuple #[.agg #[.int .i64 p.sign, .slice a5 (digs p.natAbs).length c5], .int .i64 er]) ?_ rfl ?_
         · simp [results, Tryz.results49, go_sem, bf2, bf3]
         · exact ⟨_, rfl, (HI7.set hoff 0 _).set hoff 1 _, (HB7.setCell (by simp; omega) _).setCell (by simp; omega) _, HF5.out.mono HX3.out.below.size⟩)
      | (have HI7 := HI6.out.later (below_alloc w5 (.cells #[.int .i64 p.sign, .slice a5 (digs p.natAbs).length c5] 24))
         refine bodyPost_ret (v := .tuple #[.agg #[.int .i64 p.sign, .slice a5 (digs p.natAbs).length c5], .int .i64 er]) ?_ rfl ?_
         · simp [results, Tryz.results49, go_sem, hk0, hk1]
         · exact ⟨_, rfl, (HI7.set hoff 0 _).set hoff 1 _, (HX5.out.alloc _).put _ _, HF5.out.mono HX3.out.below.size⟩)
end Go.Proofs.YtnddickcnfodfaaGreatDoor.Bi
