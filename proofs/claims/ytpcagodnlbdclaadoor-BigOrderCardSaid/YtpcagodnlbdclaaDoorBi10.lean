/- The contracts of Mul, sum, Add, Sub, Neg, Compare, Same. -/
import Derived.Test.YtpcagodnlbdclaaDoorBi9
import Derived.Deep.RegionHeld3
set_option maxRecDepth 100000
namespace Go.Proofs.YtpcagodnlbdclaaDoor.Bi
open Go.RowKit

theorem bad_of (d : Int) : badD d = false ↔ 0 ≤ d ∧ d < 1048576 := by unfold badD; simp; omega
/-- What is valid is the sign and the digits of a number. -/
theorem right_of {s : Int} {l : List Int} (h : rightB s l = true) : ∃ z : Int, s = z.sign ∧ l = digs z.natAbs := by
  unfold rightB at h
  simp only [Bool.not_eq_true', Bool.or_eq_false_iff, decide_eq_false_iff_not, bne_eq_false_iff_eq, Bool.and_eq_false_iff] at h
  obtain ⟨⟨⟨⟨h1, h2⟩, h3⟩, h4⟩, h5⟩ := h
  have hd : Dig l := by
    intro d hd
    rw [List.any_eq_false] at h5
    have := h5 d hd
    rw [← bad_of]; simpa using this
  have hv := (val_bd hd).1
  have htop : l = [] ∨ l.getD (l.length - 1) 0 ≠ 0 := by
    rcases h4 with h | h
    · left; exact List.eq_nil_of_length_eq_zero (by omega)
    · right; simpa using h
  have hl := dig_eq hd htop
  by_cases h0 : l.length = 0
  · obtain rfl : l = [] := List.eq_nil_of_length_eq_zero h0
    refine ⟨0, ?_, digs_zero.symm⟩
    simp at h3; simpa using h3
  · have hs : s ≠ 0 := by
      intro e
      rw [e] at h3
      have : (l.length == 0) = true := by rw [← h3]; rfl
      simp at this; simp [this] at h0
    have hv0 : (val l).toNat ≠ 0 := fun e => by rw [e, digs_zero] at hl; simp [hl] at h0
    rcases Int.lt_or_gt_of_ne hs with h | h
    · refine ⟨-(val l), ?_, ?_⟩
      · rw [Int.sign_eq_neg_one_of_neg (by omega)]; omega
      · rw [show (-(val l)).natAbs = (val l).toNat by omega]; exact hl
    · refine ⟨val l, ?_, ?_⟩
      · rw [Int.sign_eq_one_of_pos (by omega)]; omega
      · rw [show (val l).natAbs = (val l).toNat by omega]; exact hl
theorem right_is (z : Int) : rightB z.sign (digs z.natAbs) = true := by
  have hd := digs_dig z.natAbs
  have hany : (digs z.natAbs).any badD = false := by
    rw [List.any_eq_false]
    intro d hdm
    have := (bad_of d).2 (hd d hdm)
    simp [this]
  unfold rightB
  rw [hany]
  rcases Int.lt_trichotomy z 0 with h | h | h
  · have hp : 0 < z.natAbs := by omega
    have h1 := digs_top hp
    have h2 := digs_pos_len hp
    rw [Int.sign_eq_neg_one_of_neg h]
    generalize (digs z.natAbs).getD ((digs z.natAbs).length - 1) 0 = t at h1
    have h3 : (t == 0) = false := by simpa using h1
    have h4 : ((digs z.natAbs).length == 0) = false := by simp; intro e; rw [e] at h2; simp at h2
    rw [h3, h4]; simp
  · subst h; simp [digs_zero]
  · have hp : 0 < z.natAbs := by omega
    have h1 := digs_top hp
    have h2 := digs_pos_len hp
    rw [Int.sign_eq_one_of_pos h]
    generalize (digs z.natAbs).getD ((digs z.natAbs).length - 1) 0 = t at h1
    have h3 : (t == 0) = false := by simpa using h1
    have h4 : ((digs z.natAbs).length == 0) = false := by simp; intro e; rw [e] at h2; simp at h2
    rw [h3, h4]; simp
theorem IsB.arg {w : World} {v : Value} {z : Int} (h : IsB w v z) : Arg w v z.sign (digs z.natAbs) := h
theorem IsB.later {w w' : World} {v : Value} {z : Int} (h : IsB w v z) (hb : RowKit.Below w.heap.size w w') : IsB w' v z := by
  obtain ⟨s, e, hi⟩ := h
  exact ⟨s, e, hi.later hb⟩
theorem isb_any {v : Value} {z : Int} {w : World} (h : IsB w v z) : Calls Tryd.prog 27 #[v] w fun e w' => e = .returned (.bool true) ∧ RowKit.Below w.heap.size w w' := by
  have := right_any v _ _ w h.arg
  rwa [right_is] at this
theorem Ints.open {w : World} {v : Value} {l : List Int} (hi : Ints w v l) : ∃ a c, v = .slice a l.length c ∧ Ints w (.slice a l.length c) l := by
  obtain ⟨a, c, rfl, _⟩ := id hi
  exact ⟨a, c, rfl, hi⟩
/-- Two boxes and a cell for the result lie behind w. -/
structure Bx (w : World) (sa : Int) (va : Value) (sb : Int) (vb : Value) (W : World) : Prop where
  c00 : W.cell? ⟨w.heap.size, 0, none⟩ = some (.int .i64 sa)
  c01 : W.cell? ⟨w.heap.size, 1, none⟩ = some va
  c10 : W.cell? ⟨w.heap.size + 1, 0, none⟩ = some (.int .i64 sb)
  c11 : W.cell? ⟨w.heap.size + 1, 1, none⟩ = some vb
  res : W.heap[w.heap.size + 1 + 1]? = some (.cells #[.int .i64 0, .slice none 0 0] 24 (0, 0))
  below : RowKit.Below w.heap.size w W
  size : w.heap.size + 1 + 1 < W.heap.size
theorem Bx.later {w W W' : World} {sa sb : Int} {va vb : Value} (h : Bx w sa va sb vb W) (hb : RowKit.Below W.heap.size W W') : Bx w sa va sb vb W' := by
  have hz := h.size
  have hc : ∀ b o, b < W.heap.size → W'.cell? ⟨b, o, none⟩ = W.cell? ⟨b, o, none⟩ := fun b o hb' => hb.cell (p := ⟨b, o, none⟩) hb'
  refine ⟨(hc _ _ (by omega)).trans h.c00, (hc _ _ (by omega)).trans h.c01, (hc _ _ (by omega)).trans h.c10, (hc _ _ (by omega)).trans h.c11, (hb.block _ hz).trans h.res, h.below.trans (hb.mono ?_), Nat.lt_of_lt_of_le hz hb.size⟩
  have := h.below.size; omega
theorem Bx.heap {w W W' : World} {sa sb : Int} {va vb : Value} (h : Bx w sa va sb vb W) (hb : W'.heap = W.heap) (h1 : W'.os = W.os) (h2 : W'.tape = W.tape) (h3 : W'.output = W.output) : Bx w sa va sb vb W' :=
  h.later ⟨h1, h2, h3, by rw [hb]; exact Nat.le_refl _, fun k _ => by rw [hb]⟩
theorem Bx.start (w : World) (sa : Int) (va : Value) (sb : Int) (vb : Value) :
    Bx w sa va sb vb (((w.alloc (.cells #[.int .i64 sa, va] 24)).alloc (.cells #[.int .i64 sb, vb] 24)).alloc (.cells #[.int .i64 0, .slice none 0 0] 24)) := by
  have e : (((w.alloc (.cells #[.int .i64 sa, va] 24)).alloc (.cells #[.int .i64 sb, vb] 24)).alloc (.cells #[.int .i64 0, .slice none 0 0] 24)).heap = ((w.heap.push (.cells #[.int .i64 sa, va] 24)).push (.cells #[.int .i64 sb, vb] 24)).push (.cells #[.int .i64 0, .slice none 0 0] 24) := rfl
  have e0 : (((w.alloc (.cells #[.int .i64 sa, va] 24)).alloc (.cells #[.int .i64 sb, vb] 24)).alloc (.cells #[.int .i64 0, .slice none 0 0] 24)).heap[w.heap.size]? = some (.cells #[.int .i64 sa, va] 24 (0, 0)) := by
    rw [e, Array.getElem?_push, if_neg (by simp; omega), Array.getElem?_push, if_neg (by simp), Array.getElem?_push, if_pos rfl]
  have e1 : (((w.alloc (.cells #[.int .i64 sa, va] 24)).alloc (.cells #[.int .i64 sb, vb] 24)).alloc (.cells #[.int .i64 0, .slice none 0 0] 24)).heap[w.heap.size + 1]? = some (.cells #[.int .i64 sb, vb] 24 (0, 0)) := by
    rw [e, Array.getElem?_push, if_neg (by simp), Array.getElem?_push, if_pos (by simp)]
  have e2 : (((w.alloc (.cells #[.int .i64 sa, va] 24)).alloc (.cells #[.int .i64 sb, vb] 24)).alloc (.cells #[.int .i64 0, .slice none 0 0] 24)).heap[w.heap.size + 1 + 1]? = some (.cells #[.int .i64 0, .slice none 0 0] 24 (0, 0)) := by
    rw [e, Array.getElem?_push, if_pos (by simp)]
  refine ⟨by rw [cell_of_row _ _ _ _ _ _ e0]; rfl, by rw [cell_of_row _ _ _ _ _ _ e0]; rfl, by rw [cell_of_row _ _ _ _ _ _ e1]; rfl, by rw [cell_of_row _ _ _ _ _ _ e1]; rfl, e2, ?_, by rw [e]; simp⟩
  exact (below_alloc w _).trans (((below_alloc _ _).trans ((below_alloc _ _).mono (by simp))).mono (by simp))
theorem Bx.cells {w W : World} {sa sb : Int} {va vb : Value} (h : Bx w sa va sb vb W) : W.cell? ⟨w.heap.size, 0, none⟩ = some (.int .i64 sa) ∧ W.cell? ⟨w.heap.size, 1, none⟩ = some va ∧ W.cell? ⟨w.heap.size + 1, 0, none⟩ = some (.int .i64 sb) ∧ W.cell? ⟨w.heap.size + 1, 1, none⟩ = some vb :=
  ⟨h.c00, h.c01, h.c10, h.c11⟩
theorem Bx.rcells {w W : World} {sa sb : Int} {va vb : Value} (h : Bx w sa va sb vb W) : W.cell? ⟨w.heap.size + 1 + 1, 0, none⟩ = some (.int .i64 0) ∧ W.cell? ⟨w.heap.size + 1 + 1, 1, none⟩ = some (.slice none 0 0) ∧ W.frozen? ⟨w.heap.size + 1 + 1, 0, none⟩ = false ∧ W.frozen? ⟨w.heap.size + 1 + 1, 1, none⟩ = false :=
  ⟨by rw [cell_of_row _ _ _ _ _ _ h.res]; rfl, by rw [cell_of_row _ _ _ _ _ _ h.res]; rfl, by simp [World.frozen?, h.res], by simp [World.frozen?, h.res]⟩
theorem Bx.stays {w W : World} {sa sb : Int} {va vb : Value} (h : Bx w sa va sb vb W) (u v : Value) :
    let W' := (W.setCell ⟨w.heap.size + 1 + 1, 0, none⟩ u).setCell ⟨w.heap.size + 1 + 1, 1, none⟩ v
    W'.cell? ⟨w.heap.size, 0, none⟩ = some (.int .i64 sa) ∧ W'.cell? ⟨w.heap.size, 1, none⟩ = some va ∧ W'.cell? ⟨w.heap.size + 1, 0, none⟩ = some (.int .i64 sb) ∧ W'.cell? ⟨w.heap.size + 1, 1, none⟩ = some vb := by
  intro W'
  have hc : ∀ b o, b ≠ w.heap.size + 1 + 1 → W'.cell? ⟨b, o, none⟩ = W.cell? ⟨b, o, none⟩ := fun b o hb =>
    World.cell?_of_block (w := W) ((Below.heap_setCell _ _ _ _ hb).trans (Below.heap_setCell _ _ _ _ hb))
  exact ⟨(hc _ _ (by omega)).trans h.c00, (hc _ _ (by omega)).trans h.c01, (hc _ _ (by omega)).trans h.c10, (hc _ _ (by omega)).trans h.c11⟩
/-- The result is stored. -/
theorem Bx.put {w W : World} {sa sb : Int} {va vb : Value} (h : Bx w sa va sb vb W) (u v : Value) : RowKit.Below w.heap.size w ((W.setCell ⟨w.heap.size + 1 + 1, 0, none⟩ u).setCell ⟨w.heap.size + 1 + 1, 1, none⟩ v) :=
  (h.below.setCell (by simp; omega) _).setCell (by simp; omega) _

theorem sign_bd (a b : Int) : -1 ≤ a.sign * b.sign ∧ a.sign * b.sign ≤ 1 := by
  rw [← Int.sign_mul]
  rcases Int.lt_trichotomy (a * b) 0 with h | h | h
  · rw [Int.sign_eq_neg_one_of_neg h]; omega
  · rw [h]; simp
  · rw [Int.sign_eq_one_of_pos h]; omega
/-- A call that returns a number and an error's code. -/
def Ans (n er : Int) (w : World) (e : Ending) (w' : World) : Prop := ∃ s, e = .returned (.tuple #[.agg #[.int .i64 n.sign, s], .int .i64 er]) ∧ Ints w' s (digs n.natAbs) ∧ RowKit.Below w.heap.size w w' ∧ Fresh w.heap.size s

set_option maxHeartbeats 4000000 in
theorem mul_ok (va vb : Value) (a b : Int) (w : World) (ha : IsB w va a) (hb : IsB w vb b) (hla : (digs a.natAbs).length ≤ 1000000) (hlb : (digs b.natAbs).length ≤ 1000000) :
    Calls Tryd.prog 16 #[va, vb] w (Ans (a * b) 0 w) := by
  obtain ⟨sa, rfl, hia⟩ := id ha
  obtain ⟨sb, rfl, hib⟩ := id hb
  have HA := Lib.hid ha
  have HB := Lib.hid hb
  have HIA := Lib.hid hia
  have HIB := Lib.hid hib
  obtain ⟨aa, na, ca, rfl⟩ : ∃ aa na ca, sa = .slice aa na ca := by obtain ⟨x, y, z, _⟩ := hia; exact ⟨_, _, _, z⟩
  obtain ⟨ab, nb, cb, rfl⟩ : ∃ aa na ca, sb = .slice aa na ca := by obtain ⟨x, y, z, _⟩ := hib; exact ⟨_, _, _, z⟩
  have hw : IntKind.i64.wrap (a.sign * b.sign) = (a * b).sign := by
    rw [IntWalk.i64_in _ (by have := sign_bd a b; omega), Int.sign_mul]
  have hval : ∀ L, val L = val (digs a.natAbs) * val (digs b.natAbs) → ((a * b).natAbs : Int) = val L := fun L h => by rw [h, digs_val, digs_val, Int.natAbs_mul]; omega
  obtain ⟨p, ep⟩ : ∃ p, a * b = p := ⟨_, rfl⟩
  rw [ep] at hw hval ⊢
  clear ep
  have HVL := Lib.hid hval
  clear hval
  have hx := Bx.start w a.sign (.slice aa na ca) b.sign (.slice ab nb cb)
  have HX0 := Lib.hid hx
  clear ha hb hia hib hx
  go_enter Tryd.func16, Tryd.ntmps16
  go_wp2_with fail
  refine (isb_any (HA.out.later HX0.out.below)).mono ?_
  rintro e w1 ⟨rfl, hb1⟩
  have HX1 := Lib.hid (HX0.out.later hb1)
  obtain ⟨c00, c01, c10, c11⟩ := HX1.out.cells
  clear hb1
  go_wp2_with fail
  refine (isb_any (HB.out.later HX1.out.below)).mono ?_
  rintro e w2 ⟨rfl, hb2⟩
  have HX2 := Lib.hid (HX1.out.later hb2)
  obtain ⟨d00, d01, d10, d11⟩ := HX2.out.cells
  clear hb2 c00 c01 c10 c11
  go_wp2_with fail
  have HXD := Lib.hid (HX2.out.heap (W' := w2.drew) rfl rfl rfl rfl)
  have e2 := HXD.out.cells
  clear d00 d01 d10 d11
  go_region_held3 (fun W => W.cell? ⟨w.heap.size, 0, none⟩ = some (.int .i64 a.sign) ∧ W.cell? ⟨w.heap.size, 1, none⟩ = some (.slice aa na ca) ∧ W.cell? ⟨w.heap.size + 1, 0, none⟩ = some (.int .i64 b.sign) ∧ W.cell? ⟨w.heap.size + 1, 1, none⟩ = some (.slice ab nb cb))
    (first | exact e2 | exact x3 | exact x4 | exact HX4.out.stays _ _)
    (first
      | (go_at_call 45; (with_reducible refine (times_any _ _ _ _ _ ?_ ?_ (digs_dig a.natAbs) (digs_dig b.natAbs) hla hlb).mono ?_); (focus exact HIA.out.later HXD.out.below); (focus exact HIB.out.later HXD.out.below); rintro e w3 ⟨ax, cx, L, rfl, hdL, hvL, hiL, hb3, hlL, hfL⟩; have HF3 := Lib.hid hfL; have HX3 := Lib.hid (HXD.out.later hb3); have x3 := HX3.out.cells; have HDL := Lib.hid hdL; have HV3 := Lib.hid (HVL.out L hvL); have HI3 := Lib.hid hiL; clear hdL hvL hiL hb3 hfL)
      | (go_at_call 44; (with_reducible refine (signed_any _ ax cx L HDL.out p HV3.out (fun _ => rfl) _ HI3.out).mono ?_); rintro e w4 ⟨s4, rfl, hi4, hb4, ho4⟩; obtain ⟨a5, c5, rfl, hi5⟩ := hi4.open; have HO4 := Lib.hid ho4; have HX4 := Lib.hid (HX3.out.later hb4); have x4 := HX4.out.cells; have HI5 := Lib.hid hi5; clear hi4 hi5 hb4 ho4; obtain ⟨r0, r1, f0, f1⟩ := HX4.out.rcells))
  go_wp2_with fail
  have hoff := HO4.out (w.heap.size + 1 + 1) (HF3.out _ HX2.out.size)
  exact bodyPost_ret (v := .tuple #[.agg #[.int .i64 p.sign, .slice a5 (digs p.natAbs).length c5], .int .i64 0]) (by simp [results, Tryd.results16, go_sem, r0, r1]) rfl
    ⟨_, rfl, (HI5.out.set hoff 0 _).set hoff 1 _, HX4.out.put _ _, fun g hg => HO4.out g (HF3.out g (by have := HX2.out.size; simp; omega))⟩
end Go.Proofs.YtpcagodnlbdclaaDoor.Bi
