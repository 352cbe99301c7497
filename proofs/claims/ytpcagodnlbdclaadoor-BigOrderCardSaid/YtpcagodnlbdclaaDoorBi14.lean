/- The contracts of Add and Sub. -/
import Derived.Test.YtpcagodnlbdclaaDoorBi13
set_option maxRecDepth 100000
namespace Go.Proofs.YtpcagodnlbdclaaDoor.Bi
open Go.RowKit
theorem IsB.neg {w : World} {b : Int} {s : Value} (h : Ints w s (digs b.natAbs)) : IsB w (.agg #[.int .i64 (-b.sign), s]) (-b) := ⟨s, by rw [Int.sign_neg], by rw [Int.natAbs_neg]; exact h⟩

set_option maxHeartbeats 4000000 in
theorem add_ok (va vb : Value) (a b : Int) (w : World) (ha : IsB w va a) (hb : IsB w vb b) (hla : (digs a.natAbs).length ≤ 1000000) (hlb : (digs b.natAbs).length ≤ 1000000) :
    Calls Tryd.prog 12 #[va, vb] w (Ans (a + b) 0 w) := by
  obtain ⟨sa, rfl, hia⟩ := id ha
  obtain ⟨sb, rfl, hib⟩ := id hb
  have HA := Lib.hid ha
  have HB := Lib.hid hb

  obtain ⟨aa, ca, rfl, _⟩ := hia.open
  obtain ⟨ab, cb, rfl, _⟩ := hib.open
  obtain ⟨na, ena⟩ : ∃ n, (digs a.natAbs).length = n := ⟨_, rfl⟩
  obtain ⟨nb, enb⟩ : ∃ n, (digs b.natAbs).length = n := ⟨_, rfl⟩
  rw [ena] at HA ⊢
  rw [enb] at HB ⊢
  have hx := Bx.start w a.sign (.slice aa na ca) b.sign (.slice ab nb cb)
  have HX0 := Lib.hid hx
  have hyb := sgn_bd b
  clear ha hb hia hib hx ena enb
  go_enter Tryd.func12, Tryd.ntmps12
  go_wp2_with fail
  refine (isb_any (HA.out.later HX0.out.below)).mono ?_
  rintro e w1 ⟨rfl, hb1⟩
  have HX1 := Lib.hid (HX0.out.later hb1)
  obtain ⟨c00, c01, c10, c11⟩ := HX1.out.cells
  clear hb1
  go_wp2_with fail
  refine (isb_any (HB.out.later HX1.out.below)).mono ?_
  rintro e w2 ⟨rfl, hb2⟩
  have HX2 := Lib.hid (HX1.out.later hb2)
  obtain ⟨d00, d01, d10, d11⟩ := HX2.out.cells
  clear hb2 c00 c01 c10 c11
  go_wp2_with fail
  refine (sum_any _ _ a b _ (HA.out.later HX2.out.below) (HB.out.later HX2.out.below) hla hlb).mono ?_
  rintro e w3 ⟨s3, rfl, hi3, hb3, hf3⟩
  obtain ⟨a3, c3, rfl, hi4⟩ := hi3.open
  have HX3 := Lib.hid (HX2.out.later hb3)
  have HI3 := Lib.hid hi4
  have HF3 := Lib.hid hf3
  obtain ⟨r0, r1, f0, f1⟩ := HX3.out.rcells
  clear hi3 hi4 hb3 hf3 d00 d01 d10 d11
  obtain ⟨p, ep⟩ : ∃ p, a + b = p := ⟨_, rfl⟩
  rw [ep] at HI3 HF3 ⊢
  go_wp2_with fail
  have hoff := HF3.out (w.heap.size + 1 + 1) HX2.out.size
  rw [ep]
  exact bodyPost_ret (v := .tuple #[.agg #[.int .i64 p.sign, .slice a3 (digs p.natAbs).length c3], .int .i64 0]) (by simp [results, Tryd.results12, go_sem, r0, r1]) rfl
    ⟨_, rfl, (HI3.out.set hoff 0 _).set hoff 1 _, HX3.out.put _ _, fun g hg => HF3.out g (by have := HX2.out.size; omega)⟩

set_option maxHeartbeats 4000000 in
theorem sub_ok (va vb : Value) (a b : Int) (w : World) (ha : IsB w va a) (hb : IsB w vb b) (hla : (digs a.natAbs).length ≤ 1000000) (hlb : (digs b.natAbs).length ≤ 1000000) :
    Calls Tryd.prog 14 #[va, vb] w (Ans (a - b) 0 w) := by
  obtain ⟨sa, rfl, hia⟩ := id ha
  obtain ⟨sb, rfl, hib⟩ := id hb
  have HA := Lib.hid ha
  have HB := Lib.hid hb
  have HNB := Lib.hid (IsB.neg hib)
  obtain ⟨aa, ca, rfl, _⟩ := hia.open
  obtain ⟨ab, cb, rfl, _⟩ := hib.open
  obtain ⟨na, ena⟩ : ∃ n, (digs a.natAbs).length = n := ⟨_, rfl⟩
  obtain ⟨nb, enb⟩ : ∃ n, (digs b.natAbs).length = n := ⟨_, rfl⟩
  rw [ena] at HA ⊢
  rw [enb] at HB HNB ⊢
  have hx := Bx.start w a.sign (.slice aa na ca) b.sign (.slice ab nb cb)
  have HX0 := Lib.hid hx
  have hyb := sgn_bd b
  clear ha hb hia hib hx ena enb
  go_enter Tryd.func14, Tryd.ntmps14
  go_wp2_with fail
  refine (isb_any (HA.out.later HX0.out.below)).mono ?_
  rintro e w1 ⟨rfl, hb1⟩
  have HX1 := Lib.hid (HX0.out.later hb1)
  obtain ⟨c00, c01, c10, c11⟩ := HX1.out.cells
  clear hb1
  go_wp2_with fail
  refine (isb_any (HB.out.later HX1.out.below)).mono ?_
  rintro e w2 ⟨rfl, hb2⟩
  have HX2 := Lib.hid (HX1.out.later hb2)
  obtain ⟨d00, d01, d10, d11⟩ := HX2.out.cells
  clear hb2 c00 c01 c10 c11
  go_wp2_with fail
  refine (sum_any _ _ a (-b) _ (HA.out.later HX2.out.below) (HNB.out.later HX2.out.below) hla (by rw [Int.natAbs_neg]; exact hlb)).mono ?_
  rintro e w3 ⟨s3, rfl, hi3, hb3, hf3⟩
  rw [← Int.sub_eq_add_neg] at hi3 ⊢
  obtain ⟨a3, c3, rfl, hi4⟩ := hi3.open
  have HX3 := Lib.hid (HX2.out.later hb3)
  have HI3 := Lib.hid hi4
  have HF3 := Lib.hid hf3
  obtain ⟨r0, r1, f0, f1⟩ := HX3.out.rcells
  clear hi3 hi4 hb3 hf3 d00 d01 d10 d11
  obtain ⟨p, ep⟩ : ∃ p, a - b = p := ⟨_, rfl⟩
  rw [ep] at HI3 HF3 ⊢
  go_wp2_with fail
  have hoff := HF3.out (w.heap.size + 1 + 1) HX2.out.size
  rw [ep]
  exact bodyPost_ret (v := .tuple #[.agg #[.int .i64 p.sign, .slice a3 (digs p.natAbs).length c3], .int .i64 0]) (by simp [results, Tryd.results14, go_sem, r0, r1]) rfl
    ⟨_, rfl, (HI3.out.set hoff 0 _).set hoff 1 _, HX3.out.put _ _, fun g hg => HF3.out g (by have := HX2.out.size; omega)⟩
end Go.Proofs.YtpcagodnlbdclaaDoor.Bi
