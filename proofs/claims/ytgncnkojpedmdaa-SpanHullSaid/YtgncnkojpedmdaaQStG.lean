/- The law SpanHull: where the meet is empty. -/
import Derived.Test.YtgncnkojpedmdaaPA27
import Derived.Test.YtgncnkojpedmdaaPA28
import Derived.Test.YtgncnkojpedmdaaPA29
import Derived.Test.YtgncnkojpedmdaaPA30
import Derived.Test.YtgncnkojpedmdaaLaw
import Derived.Test.YtgncnkojpedmdaaRows
import Derived.ProofKit
set_option maxRecDepth 100000
namespace Go.Proofs.Ytgncnkojpedmdaa.Sp
open Go.RowKit Bi
theorem inB_lv {x y : Rat} {s1 s2 : Int} {s5 t5 s6 t6 : Int} {l5 k5 l6 k6 : List Int} (e1 : s1 = x.num.sign) (e2 : s2 = y.num.sign) (hxy : x ≤ y) {r : Bool} (hr : (sR s5 l5 t5 k5 s6 l6 t6 k6 && (decide ((ratOf s5 l5 k5) ≤ x) && decide (y ≤ (ratOf s6 l6 k6)))) = r) : inB s1 (digs x.num.natAbs) 1 (digs ((x.den : Int)).natAbs) s2 (digs y.num.natAbs) 1 (digs ((y.den : Int)).natAbs) s5 l5 t5 k5 s6 l6 t6 k6 = r := by
  subst e1 e2
  rw [← hr]
  unfold inB
  rw [sR_is, decide_eq_true hxy, ratOf_is, ratOf_is, Bool.true_and]
theorem inB_rv {x y : Rat} {s1 s2 : Int} {s5 t5 s6 t6 : Int} {l5 k5 l6 k6 : List Int} (e1 : s1 = x.num.sign) (e2 : s2 = y.num.sign) (hxy : x ≤ y) {r : Bool} (hr : (sR s5 l5 t5 k5 s6 l6 t6 k6 && (decide (x ≤ (ratOf s5 l5 k5)) && decide ((ratOf s6 l6 k6) ≤ y))) = r) : inB s5 l5 t5 k5 s6 l6 t6 k6 s1 (digs x.num.natAbs) 1 (digs ((x.den : Int)).natAbs) s2 (digs y.num.natAbs) 1 (digs ((y.den : Int)).natAbs) = r := by
  subst e1 e2
  rw [← hr]
  unfold inB
  rw [sR_is, decide_eq_true hxy, ratOf_is, ratOf_is, Bool.and_true]
theorem hasB_lv {x y : Rat} {s1 s2 : Int} {s7 t7 : Int} {l7 k7 : List Int} (e1 : s1 = x.num.sign) (e2 : s2 = y.num.sign) (hxy : x ≤ y) {r : Bool} (hr : (fRightB s7 l7 t7 k7 && (decide (x ≤ (ratOf s7 l7 k7)) && decide ((ratOf s7 l7 k7) ≤ y))) = r) : hasB s1 (digs x.num.natAbs) 1 (digs ((x.den : Int)).natAbs) s2 (digs y.num.natAbs) 1 (digs ((y.den : Int)).natAbs) s7 l7 t7 k7 = r := by
  subst e1 e2
  rw [← hr]
  unfold hasB
  rw [sR_is, decide_eq_true hxy, ratOf_is, ratOf_is, Bool.true_and]
theorem sR_le {s5 t5 s6 t6 : Int} {l5 k5 l6 k6 : List Int} (h : sR s5 l5 t5 k5 s6 l6 t6 k6 = true) : (ratOf s5 l5 k5) ≤ (ratOf s6 l6 k6) := by
  unfold sR at h
  simp only [Bool.and_eq_true, decide_eq_true_eq] at h
  exact h.2
theorem hull_c {x y p q u v : Rat} {g : Bool} (h1 : (g && (decide (u ≤ x) && decide (y ≤ v))) = true) (h2 : (g && (decide (u ≤ p) && decide (q ≤ v))) = true) : (g && (decide (u ≤ rmin x p) && decide (rmax y q ≤ v))) = true := by
  simp only [Bool.and_eq_true, decide_eq_true_eq] at h1 h2 ⊢
  exact ⟨h1.1, le_rmin h1.2.1 h2.2.1, rmax_le' h1.2.2 h2.2.2⟩
theorem meet_c {x y p q u v : Rat} {g : Bool} : ((g && (decide (x ≤ u) && decide (v ≤ y))) && (g && (decide (p ≤ u) && decide (v ≤ q)))) = (g && (decide (rmax x p ≤ u) && decide (v ≤ rmin y q))) := by
  rw [Bool.eq_iff_iff]
  simp only [Bool.and_eq_true, decide_eq_true_eq]
  constructor
  · rintro ⟨⟨h, h1, h2⟩, _, h3, h4⟩
    exact ⟨h, rmax_le' h1 h3, le_rmin h2 h4⟩
  · rintro ⟨h, h1, h2⟩
    exact ⟨⟨h, Rat.le_trans rmax_le.1 h1, Rat.le_trans h2 rmin_le.1⟩, h, Rat.le_trans rmax_le.2 h1, Rat.le_trans h2 rmin_le.2⟩
theorem meet_n {x y p q u v : Rat} {g : Bool} (hg : g = true → u ≤ v) (h : ¬ (meetS (x, y) (p, q)).1 ≤ (meetS (x, y) (p, q)).2) : ((g && (decide (x ≤ u) && decide (v ≤ y))) && (g && (decide (p ≤ u) && decide (v ≤ q)))) = false := by
  rw [meet_c]
  cases e : (g && (decide (rmax x p ≤ u) && decide (v ≤ rmin y q)))
  · rfl
  · simp only [Bool.and_eq_true, decide_eq_true_eq] at e
    exact absurd (Rat.le_trans e.2.1 (Rat.le_trans (hg e.1) e.2.2)) h
theorem hull_same {x y p q : Rat} (hxy : x ≤ y) (hpq : p ≤ q) : (decide (rmin x p = p) && decide (rmax y q = q)) = (decide (p ≤ x) && decide (y ≤ q)) := by
  have h := sub_hull (a := (x, y)) (b := (p, q)) hxy hpq
  rw [Bool.eq_iff_iff]
  simp only [Bool.and_eq_true, decide_eq_true_eq]
  constructor
  · rintro ⟨h1, h2⟩
    have := h.2 (Prod.ext h1 h2)
    exact ⟨this.1.1, this.2.2⟩
  · rintro ⟨h1, h2⟩
    have := h.1 ⟨⟨h1, Rat.le_trans hxy h2⟩, ⟨Rat.le_trans h1 hxy, h2⟩⟩
    exact ⟨congrArg Prod.fst this, congrArg Prod.snd this⟩
theorem hull_in {x y p q : Rat} (hxy : x ≤ y) (_hpq : p ≤ q) : (decide (rmin x p ≤ x) && decide (y ≤ rmax y q)) = true ∧ (decide (rmin x p ≤ p) && decide (q ≤ rmax y q)) = true ∧ rmin x p ≤ rmax y q := by
  refine ⟨?_, ?_, Rat.le_trans rmin_le.1 (Rat.le_trans hxy rmax_le.1)⟩
  · rw [Bool.and_eq_true, decide_eq_true_eq, decide_eq_true_eq]; exact ⟨rmin_le.1, rmax_le.1⟩
  · rw [Bool.and_eq_true, decide_eq_true_eq, decide_eq_true_eq]; exact ⟨rmin_le.2, rmax_le.2⟩

set_option maxHeartbeats 8000000 in
theorem hull_no {w : World} {s1 t1 : Int} {a1 b1 : Option Addr} {n1 c1 m1 d1 : Nat} {s2 t2 : Int} {a2 b2 : Option Addr} {n2 c2 m2 d2 : Nat} {s3 t3 : Int} {a3 b3 : Option Addr} {n3 c3 m3 d3 : Nat} {s4 t4 : Int} {a4 b4 : Option Addr} {n4 c4 m4 d4 : Nat} {s5 t5 : Int} {a5 b5 : Option Addr} {n5 c5 m5 d5 : Nat} {s6 t6 : Int} {a6 b6 : Option Addr} {n6 c6 m6 d6 : Nat} {s7 t7 : Int} {a7 b7 : Option Addr} {n7 c7 m7 d7 : Nat} (hn1 : n1 ≤ 9223372036854775807) (hm1 : m1 ≤ 9223372036854775807) (hn2 : n2 ≤ 9223372036854775807) (hm2 : m2 ≤ 9223372036854775807) (hn3 : n3 ≤ 9223372036854775807) (hm3 : m3 ≤ 9223372036854775807) (hn4 : n4 ≤ 9223372036854775807) (hm4 : m4 ≤ 9223372036854775807) (hn5 : n5 ≤ 9223372036854775807) (hm5 : m5 ≤ 9223372036854775807) (hn6 : n6 ≤ 9223372036854775807) (hm6 : m6 ≤ 9223372036854775807) (hn7 : n7 ≤ 9223372036854775807) (hm7 : m7 ≤ 9223372036854775807) (hno : ((((decide ((n1 : Int) ≤ 4) && decide ((m1 : Int) ≤ 4)) && (decide ((n2 : Int) ≤ 4) && decide ((m2 : Int) ≤ 4))) && ((decide ((n3 : Int) ≤ 4) && decide ((m3 : Int) ≤ 4)) && (decide ((n4 : Int) ≤ 4) && decide ((m4 : Int) ≤ 4)))) && (((decide ((n5 : Int) ≤ 4) && decide ((m5 : Int) ≤ 4)) && (decide ((n6 : Int) ≤ 4) && decide ((m6 : Int) ≤ 4))) && (decide ((n7 : Int) ≤ 4) && decide ((m7 : Int) ≤ 4)))) = false) :
    Calls Try.prog 7 #[.agg #[.int .i64 s1, .slice a1 n1 c1, .int .i64 t1, .slice b1 m1 d1, .int .i64 s2, .slice a2 n2 c2, .int .i64 t2, .slice b2 m2 d2], .agg #[.int .i64 s3, .slice a3 n3 c3, .int .i64 t3, .slice b3 m3 d3, .int .i64 s4, .slice a4 n4 c4, .int .i64 t4, .slice b4 m4 d4], .agg #[.int .i64 s5, .slice a5 n5 c5, .int .i64 t5, .slice b5 m5 d5, .int .i64 s6, .slice a6 n6 c6, .int .i64 t6, .slice b6 m6 d6], .agg #[.int .i64 s7, .slice a7 n7 c7, .int .i64 t7, .slice b7 m7 d7]] w fun e w' => e = .returned (.bool true) ∧ RowKit.Below w.heap.size w w' := by
  have MN1 := Lib.hid hn1
  have MM1 := Lib.hid hm1
  have MN2 := Lib.hid hn2
  have MM2 := Lib.hid hm2
  have MN3 := Lib.hid hn3
  have MM3 := Lib.hid hm3
  have MN4 := Lib.hid hn4
  have MM4 := Lib.hid hm4
  have MN5 := Lib.hid hn5
  have MM5 := Lib.hid hm5
  have MN6 := Lib.hid hn6
  have MM6 := Lib.hid hm6
  have MN7 := Lib.hid hn7
  have MM7 := Lib.hid hm7
  obtain ⟨r0, hr0⟩ : ∃ r, (((decide ((n1 : Int) ≤ 4) && decide ((m1 : Int) ≤ 4)) && (decide ((n2 : Int) ≤ 4) && decide ((m2 : Int) ≤ 4))) && ((decide ((n3 : Int) ≤ 4) && decide ((m3 : Int) ≤ 4)) && (decide ((n4 : Int) ≤ 4) && decide ((m4 : Int) ≤ 4)))) = r := ⟨_, rfl⟩
  have HT0 := Lib.hid hr0
  obtain ⟨r1, hr1⟩ : ∃ r, ((decide ((n5 : Int) ≤ 4) && decide ((m5 : Int) ≤ 4)) && (decide ((n6 : Int) ≤ 4) && decide ((m6 : Int) ≤ 4))) = r := ⟨_, rfl⟩
  have HT1 := Lib.hid hr1
  obtain ⟨r2, hr2⟩ : ∃ r, (decide ((n7 : Int) ≤ 4) && decide ((m7 : Int) ≤ 4)) = r := ⟨_, rfl⟩
  have HT2 := Lib.hid hr2
  rw [hr0, hr1, hr2] at hno
  have HNO := Lib.hid hno
  clear hno hn1 hm1 hn2 hm2 hn3 hm3 hn4 hm4 hn5 hm5 hn6 hm6 hn7 hm7 hr0 hr1 hr2
  have s0 := (((((Sf.start w).put [.int .i64 s1, .slice a1 n1 c1, .int .i64 t1, .slice b1 m1 d1, .int .i64 s2, .slice a2 n2 c2, .int .i64 t2, .slice b2 m2 d2] 28).put [.int .i64 s3, .slice a3 n3 c3, .int .i64 t3, .slice b3 m3 d3, .int .i64 s4, .slice a4 n4 c4, .int .i64 t4, .slice b4 m4 d4] 28).put [.int .i64 s5, .slice a5 n5 c5, .int .i64 t5, .slice b5 m5 d5, .int .i64 s6, .slice a6 n6 c6, .int .i64 t6, .slice b6 m6 d6] 28).put [.int .i64 s7, .slice a7 n7 c7, .int .i64 t7, .slice b7 m7 d7] 26)
  try simp only [World.size_alloc] at s0
  have S0 := Lib.hid s0
  clear s0
  go_enter Try.func7, Try.ntmps7
  go_wp2_with fail
  refine (r10small).mono ?_
  rintro e w11 ⟨rfl, hb⟩
  have R11 := Lib.hid (S0.out.later hb)
  clear hb
  obtain ⟨q1, q2, q3, q4, q5, q6, q7, q8⟩ := Fb.cells8 (R11.out.box (w.heap.size + 1, 28, [.int .i64 s3, .slice a3 n3 c3, .int .i64 t3, .slice b3 m3 d3, .int .i64 s4, .slice a4 n4 c4, .int .i64 t4, .slice b4 m4 d4]) mq2)
  obtain ⟨q9, q10, q11, q12, q13, q14, q15, q16⟩ := Fb.cells8 (R11.out.box (w.heap.size, 28, [.int .i64 s1, .slice a1 n1 c1, .int .i64 t1, .slice b1 m1 d1, .int .i64 s2, .slice a2 n2 c2, .int .i64 t2, .slice b2 m2 d2]) mq3)
  go_wp2_with fail
  clear q1 q2 q3 q4 q5 q6 q7 q8 q9 q10 q11 q12 q13 q14 q15 q16
  refine (l10few (s1 := s1) (t1 := t1) (a1 := a1) (b1 := b1) (c1 := c1) (d1 := d1) (s2 := s2) (t2 := t2) (a2 := a2) (b2 := b2) (c2 := c2) (d2 := d2) (s3 := s3) (t3 := t3) (a3 := a3) (b3 := b3) (c3 := c3) (d3 := d3) (s4 := s4) (t4 := t4) (a4 := a4) (b4 := b4) (c4 := c4) (d4 := d4) MN1.out MM1.out MN2.out MM2.out MN3.out MM3.out MN4.out MM4.out HT0.out).mono ?_
  rintro e w12 ⟨rfl, hb⟩
  have R12 := Lib.hid (R11.out.later hb)
  clear hb
  cases r0
  case false =>
    go_wp2_with fail
    go_ret
    exact ⟨rfl, R12.out.below⟩
  obtain ⟨q17, q18, q19, q20, q21, q22, q23, q24⟩ := Fb.cells8 (R12.out.box (w.heap.size + 1 + 1, 28, [.int .i64 s5, .slice a5 n5 c5, .int .i64 t5, .slice b5 m5 d5, .int .i64 s6, .slice a6 n6 c6, .int .i64 t6, .slice b6 m6 d6]) mq1)
  go_wp2_with fail
  clear q17 q18 q19 q20 q21 q22 q23 q24
  refine (r10few_len (s1 := s5) (t1 := t5) (a1 := a5) (b1 := b5) (c1 := c5) (d1 := d5) (s2 := s6) (t2 := t6) (a2 := a6) (b2 := b6) (c2 := c6) (d2 := d6) (k := 4) MN5.out MM5.out MN6.out MM6.out HT1.out).mono ?_
  rintro e w13 ⟨rfl, hb⟩
  have R13 := Lib.hid (R12.out.later hb)
  clear hb
  cases r1
  case false =>
    go_wp2_with fail
    go_ret
    exact ⟨rfl, R13.out.below⟩
  obtain ⟨q25, q26, q27, q28⟩ := Fb.cells4 (R13.out.box (w.heap.size + 1 + 1 + 1, 26, [.int .i64 s7, .slice a7 n7 c7, .int .i64 t7, .slice b7 m7 d7]) mq0)
  go_wp2_with fail
  clear q25 q26 q27 q28
  refine (ffew_len s7 a7 n7 c7 t7 b7 m7 d7 4 _ MN7.out MM7.out _ HT2.out).mono ?_
  rintro e w14 ⟨rfl, hb⟩
  have R14 := Lib.hid (R13.out.later hb)
  clear hb
  cases r2
  case false =>
    go_wp2_with fail
    go_ret
    exact ⟨rfl, R14.out.below⟩
  exact absurd HNO.out (by decide)

set_option maxHeartbeats 8000000 in
theorem hull_bad {w : World} {s1 t1 : Int} {a1 b1 : Option Addr} {n1 c1 m1 d1 : Nat} {l1 k1 : List Int} {s2 t2 : Int} {a2 b2 : Option Addr} {n2 c2 m2 d2 : Nat} {l2 k2 : List Int} {s3 t3 : Int} {a3 b3 : Option Addr} {n3 c3 m3 d3 : Nat} {l3 k3 : List Int} {s4 t4 : Int} {a4 b4 : Option Addr} {n4 c4 m4 d4 : Nat} {l4 k4 : List Int} {s5 t5 : Int} {a5 b5 : Option Addr} {n5 c5 m5 d5 : Nat} {l5 k5 : List Int} {s6 t6 : Int} {a6 b6 : Option Addr} {n6 c6 m6 d6 : Nat} {l6 k6 : List Int} {s7 t7 : Int} {a7 b7 : Option Addr} {n7 c7 m7 d7 : Nat} {l7 k7 : List Int} (hl1 : Ints w (.slice a1 n1 c1) l1) (hk1 : Ints w (.slice b1 m1 d1) k1) (hn1 : n1 ≤ 4) (hm1 : m1 ≤ 4) (el1 : l1.length = n1) (ek1 : k1.length = m1) (hl2 : Ints w (.slice a2 n2 c2) l2) (hk2 : Ints w (.slice b2 m2 d2) k2) (hn2 : n2 ≤ 4) (hm2 : m2 ≤ 4) (el2 : l2.length = n2) (ek2 : k2.length = m2) (hl3 : Ints w (.slice a3 n3 c3) l3) (hk3 : Ints w (.slice b3 m3 d3) k3) (hn3 : n3 ≤ 4) (hm3 : m3 ≤ 4) (el3 : l3.length = n3) (ek3 : k3.length = m3) (hl4 : Ints w (.slice a4 n4 c4) l4) (hk4 : Ints w (.slice b4 m4 d4) k4) (hn4 : n4 ≤ 4) (hm4 : m4 ≤ 4) (el4 : l4.length = n4) (ek4 : k4.length = m4) (hl5 : Ints w (.slice a5 n5 c5) l5) (hk5 : Ints w (.slice b5 m5 d5) k5) (hn5 : n5 ≤ 4) (hm5 : m5 ≤ 4) (el5 : l5.length = n5) (ek5 : k5.length = m5) (hl6 : Ints w (.slice a6 n6 c6) l6) (hk6 : Ints w (.slice b6 m6 d6) k6) (hn6 : n6 ≤ 4) (hm6 : m6 ≤ 4) (el6 : l6.length = n6) (ek6 : k6.length = m6) (hl7 : Ints w (.slice a7 n7 c7) l7) (hk7 : Ints w (.slice b7 m7 d7) k7) (hn7 : n7 ≤ 4) (hm7 : m7 ≤ 4) (el7 : l7.length = n7) (ek7 : k7.length = m7) (hno : (sR s1 l1 t1 k1 s2 l2 t2 k2 && sR s3 l3 t3 k3 s4 l4 t4 k4) = false) :
    Calls Try.prog 7 #[.agg #[.int .i64 s1, .slice a1 n1 c1, .int .i64 t1, .slice b1 m1 d1, .int .i64 s2, .slice a2 n2 c2, .int .i64 t2, .slice b2 m2 d2], .agg #[.int .i64 s3, .slice a3 n3 c3, .int .i64 t3, .slice b3 m3 d3, .int .i64 s4, .slice a4 n4 c4, .int .i64 t4, .slice b4 m4 d4], .agg #[.int .i64 s5, .slice a5 n5 c5, .int .i64 t5, .slice b5 m5 d5, .int .i64 s6, .slice a6 n6 c6, .int .i64 t6, .slice b6 m6 d6], .agg #[.int .i64 s7, .slice a7 n7 c7, .int .i64 t7, .slice b7 m7 d7]] w fun e w' => e = .returned (.bool true) ∧ RowKit.Below w.heap.size w w' := by
  have MN1 : Hid (n1 ≤ 9223372036854775807) := Lib.hid (by omega)
  have MM1 : Hid (m1 ≤ 9223372036854775807) := Lib.hid (by omega)
  have LL1 : Hid (l1.length ≤ 1000) := Lib.hid (by omega)
  have LK1 : Hid (k1.length ≤ 1000) := Lib.hid (by omega)
  have MN2 : Hid (n2 ≤ 9223372036854775807) := Lib.hid (by omega)
  have MM2 : Hid (m2 ≤ 9223372036854775807) := Lib.hid (by omega)
  have LL2 : Hid (l2.length ≤ 1000) := Lib.hid (by omega)
  have LK2 : Hid (k2.length ≤ 1000) := Lib.hid (by omega)
  have MN3 : Hid (n3 ≤ 9223372036854775807) := Lib.hid (by omega)
  have MM3 : Hid (m3 ≤ 9223372036854775807) := Lib.hid (by omega)
  have LL3 : Hid (l3.length ≤ 1000) := Lib.hid (by omega)
  have LK3 : Hid (k3.length ≤ 1000) := Lib.hid (by omega)
  have MN4 : Hid (n4 ≤ 9223372036854775807) := Lib.hid (by omega)
  have MM4 : Hid (m4 ≤ 9223372036854775807) := Lib.hid (by omega)
  have LL4 : Hid (l4.length ≤ 1000) := Lib.hid (by omega)
  have LK4 : Hid (k4.length ≤ 1000) := Lib.hid (by omega)
  have MN5 : Hid (n5 ≤ 9223372036854775807) := Lib.hid (by omega)
  have MM5 : Hid (m5 ≤ 9223372036854775807) := Lib.hid (by omega)
  have LL5 : Hid (l5.length ≤ 1000) := Lib.hid (by omega)
  have LK5 : Hid (k5.length ≤ 1000) := Lib.hid (by omega)
  have MN6 : Hid (n6 ≤ 9223372036854775807) := Lib.hid (by omega)
  have MM6 : Hid (m6 ≤ 9223372036854775807) := Lib.hid (by omega)
  have LL6 : Hid (l6.length ≤ 1000) := Lib.hid (by omega)
  have LK6 : Hid (k6.length ≤ 1000) := Lib.hid (by omega)
  have MN7 : Hid (n7 ≤ 9223372036854775807) := Lib.hid (by omega)
  have MM7 : Hid (m7 ≤ 9223372036854775807) := Lib.hid (by omega)
  have LL7 : Hid (l7.length ≤ 1000) := Lib.hid (by omega)
  have LK7 : Hid (k7.length ≤ 1000) := Lib.hid (by omega)
  have HF0 : Hid ((((decide ((n1 : Int) ≤ 4) && decide ((m1 : Int) ≤ 4)) && (decide ((n2 : Int) ≤ 4) && decide ((m2 : Int) ≤ 4))) && ((decide ((n3 : Int) ≤ 4) && decide ((m3 : Int) ≤ 4)) && (decide ((n4 : Int) ≤ 4) && decide ((m4 : Int) ≤ 4)))) = true) := Lib.hid (by simp; omega)
  have HF1 : Hid (((decide ((n5 : Int) ≤ 4) && decide ((m5 : Int) ≤ 4)) && (decide ((n6 : Int) ≤ 4) && decide ((m6 : Int) ≤ 4))) = true) := Lib.hid (by simp; omega)
  have HF2 : Hid ((decide ((n7 : Int) ≤ 4) && decide ((m7 : Int) ≤ 4)) = true) := Lib.hid (by simp; omega)
  obtain ⟨r0, hr0⟩ : ∃ r, sR s1 l1 t1 k1 s2 l2 t2 k2 = r := ⟨_, rfl⟩
  have HT0 := Lib.hid hr0
  obtain ⟨r1, hr1⟩ : ∃ r, sR s3 l3 t3 k3 s4 l4 t4 k4 = r := ⟨_, rfl⟩
  have HT1 := Lib.hid hr1
  rw [hr0, hr1] at hno
  have HNO := Lib.hid hno
  have s0 := (((((((((((((((((((Sf.start w).arg hk1).arg hl1).arg hk2).arg hl2).arg hk3).arg hl3).arg hk4).arg hl4).arg hk5).arg hl5).arg hk6).arg hl6).arg hk7).arg hl7).put [.int .i64 s1, .slice a1 n1 c1, .int .i64 t1, .slice b1 m1 d1, .int .i64 s2, .slice a2 n2 c2, .int .i64 t2, .slice b2 m2 d2] 28).put [.int .i64 s3, .slice a3 n3 c3, .int .i64 t3, .slice b3 m3 d3, .int .i64 s4, .slice a4 n4 c4, .int .i64 t4, .slice b4 m4 d4] 28).put [.int .i64 s5, .slice a5 n5 c5, .int .i64 t5, .slice b5 m5 d5, .int .i64 s6, .slice a6 n6 c6, .int .i64 t6, .slice b6 m6 d6] 28).put [.int .i64 s7, .slice a7 n7 c7, .int .i64 t7, .slice b7 m7 d7] 26)
  try simp only [World.size_alloc] at s0
  have S0 := Lib.hid s0
  clear s0
  clear hno hl1 hk1 el1 ek1 hn1 hm1 hl2 hk2 el2 ek2 hn2 hm2 hl3 hk3 el3 ek3 hn3 hm3 hl4 hk4 el4 ek4 hn4 hm4 hl5 hk5 el5 ek5 hn5 hm5 hl6 hk6 el6 ek6 hn6 hm6 hl7 hk7 el7 ek7 hn7 hm7 hr0 hr1
  go_enter Try.func7, Try.ntmps7
  go_wp2_with fail
  refine (r10small).mono ?_
  rintro e w11 ⟨rfl, hb⟩
  have R11 := Lib.hid (S0.out.later hb)
  clear hb
  obtain ⟨q1, q2, q3, q4, q5, q6, q7, q8⟩ := Fb.cells8 (R11.out.box (w.heap.size + 1, 28, [.int .i64 s3, .slice a3 n3 c3, .int .i64 t3, .slice b3 m3 d3, .int .i64 s4, .slice a4 n4 c4, .int .i64 t4, .slice b4 m4 d4]) mq2)
  obtain ⟨q9, q10, q11, q12, q13, q14, q15, q16⟩ := Fb.cells8 (R11.out.box (w.heap.size, 28, [.int .i64 s1, .slice a1 n1 c1, .int .i64 t1, .slice b1 m1 d1, .int .i64 s2, .slice a2 n2 c2, .int .i64 t2, .slice b2 m2 d2]) mq3)
  go_wp2_with fail
  clear q1 q2 q3 q4 q5 q6 q7 q8 q9 q10 q11 q12 q13 q14 q15 q16
  refine (l10few (s1 := s1) (t1 := t1) (a1 := a1) (b1 := b1) (c1 := c1) (d1 := d1) (s2 := s2) (t2 := t2) (a2 := a2) (b2 := b2) (c2 := c2) (d2 := d2) (s3 := s3) (t3 := t3) (a3 := a3) (b3 := b3) (c3 := c3) (d3 := d3) (s4 := s4) (t4 := t4) (a4 := a4) (b4 := b4) (c4 := c4) (d4 := d4) MN1.out MM1.out MN2.out MM2.out MN3.out MM3.out MN4.out MM4.out HF0.out).mono ?_
  rintro e w12 ⟨rfl, hb⟩
  have R12 := Lib.hid (R11.out.later hb)
  clear hb
  obtain ⟨q17, q18, q19, q20, q21, q22, q23, q24⟩ := Fb.cells8 (R12.out.box (w.heap.size + 1 + 1, 28, [.int .i64 s5, .slice a5 n5 c5, .int .i64 t5, .slice b5 m5 d5, .int .i64 s6, .slice a6 n6 c6, .int .i64 t6, .slice b6 m6 d6]) mq1)
  go_wp2_with fail
  clear q17 q18 q19 q20 q21 q22 q23 q24
  refine (r10few_len (s1 := s5) (t1 := t5) (a1 := a5) (b1 := b5) (c1 := c5) (d1 := d5) (s2 := s6) (t2 := t6) (a2 := a6) (b2 := b6) (c2 := c6) (d2 := d6) (k := 4) MN5.out MM5.out MN6.out MM6.out HF1.out).mono ?_
  rintro e w13 ⟨rfl, hb⟩
  have R13 := Lib.hid (R12.out.later hb)
  clear hb
  obtain ⟨q25, q26, q27, q28⟩ := Fb.cells4 (R13.out.box (w.heap.size + 1 + 1 + 1, 26, [.int .i64 s7, .slice a7 n7 c7, .int .i64 t7, .slice b7 m7 d7]) mq0)
  go_wp2_with fail
  clear q25 q26 q27 q28
  refine (ffew_len s7 a7 n7 c7 t7 b7 m7 d7 4 _ MN7.out MM7.out _ HF2.out).mono ?_
  rintro e w14 ⟨rfl, hb⟩
  have R14 := Lib.hid (R13.out.later hb)
  clear hb
  obtain ⟨q29, q30, q31, q32, q33, q34, q35, q36⟩ := Fb.cells8 (R14.out.box (w.heap.size, 28, [.int .i64 s1, .slice a1 n1 c1, .int .i64 t1, .slice b1 m1 d1, .int .i64 s2, .slice a2 n2 c2, .int .i64 t2, .slice b2 m2 d2]) mq3)
  go_wp2_with fail
  clear q29 q30 q31 q32 q33 q34 q35 q36
  refine (p10right_raw (R14.out.ints (.slice a1 n1 c1, l1) mq12) (R14.out.ints (.slice b1 m1 d1, k1) mq13) LL1.out LK1.out (R14.out.ints (.slice a2 n2 c2, l2) mq10) (R14.out.ints (.slice b2 m2 d2, k2) mq11) LL2.out LK2.out HT0.out).mono ?_
  rintro e w15 ⟨rfl, hb⟩
  have R15 := Lib.hid (R14.out.later hb)
  clear hb
  cases r0
  case false =>
    go_wp2_with fail
    go_ret
    exact ⟨rfl, R15.out.below⟩
  obtain ⟨q37, q38, q39, q40, q41, q42, q43, q44⟩ := Fb.cells8 (R15.out.box (w.heap.size + 1, 28, [.int .i64 s3, .slice a3 n3 c3, .int .i64 t3, .slice b3 m3 d3, .int .i64 s4, .slice a4 n4 c4, .int .i64 t4, .slice b4 m4 d4]) mq2)
  go_wp2_with fail
  clear q37 q38 q39 q40 q41 q42 q43 q44
  refine (p10right_raw (R15.out.ints (.slice a3 n3 c3, l3) mq8) (R15.out.ints (.slice b3 m3 d3, k3) mq9) LL3.out LK3.out (R15.out.ints (.slice a4 n4 c4, l4) mq6) (R15.out.ints (.slice b4 m4 d4, k4) mq7) LL4.out LK4.out HT1.out).mono ?_
  rintro e w16 ⟨rfl, hb⟩
  have R16 := Lib.hid (R15.out.later hb)
  clear hb
  cases r1
  case false =>
    go_wp2_with fail
    go_ret
    exact ⟨rfl, R16.out.below⟩
  exact absurd HNO.out (by decide)

set_option maxHeartbeats 64000000 in
theorem hulln_good {w : World} {s1 : Int} {a1 b1 : Option Addr} {n1 c1 m1 d1 : Nat} {x : Rat} {s2 : Int} {a2 b2 : Option Addr} {n2 c2 m2 d2 : Nat} {y : Rat} {s3 : Int} {a3 b3 : Option Addr} {n3 c3 m3 d3 : Nat} {p : Rat} {s4 : Int} {a4 b4 : Option Addr} {n4 c4 m4 d4 : Nat} {q : Rat} {s5 t5 : Int} {a5 b5 : Option Addr} {n5 c5 m5 d5 : Nat} {l5 k5 : List Int} {s6 t6 : Int} {a6 b6 : Option Addr} {n6 c6 m6 d6 : Nat} {l6 k6 : List Int} {s7 t7 : Int} {a7 b7 : Option Addr} {n7 c7 m7 d7 : Nat} {l7 k7 : List Int} (h1 : Fr w s1 (.slice a1 n1 c1) (.slice b1 m1 d1) x) (z1 : FSz 4 x) (hn1 : n1 ≤ 4) (hm1 : m1 ≤ 4) (h2 : Fr w s2 (.slice a2 n2 c2) (.slice b2 m2 d2) y) (z2 : FSz 4 y) (hn2 : n2 ≤ 4) (hm2 : m2 ≤ 4) (h3 : Fr w s3 (.slice a3 n3 c3) (.slice b3 m3 d3) p) (z3 : FSz 4 p) (hn3 : n3 ≤ 4) (hm3 : m3 ≤ 4) (h4 : Fr w s4 (.slice a4 n4 c4) (.slice b4 m4 d4) q) (z4 : FSz 4 q) (hn4 : n4 ≤ 4) (hm4 : m4 ≤ 4) (hl5 : Ints w (.slice a5 n5 c5) l5) (hk5 : Ints w (.slice b5 m5 d5) k5) (hn5 : n5 ≤ 4) (hm5 : m5 ≤ 4) (el5 : l5.length = n5) (ek5 : k5.length = m5) (hl6 : Ints w (.slice a6 n6 c6) l6) (hk6 : Ints w (.slice b6 m6 d6) k6) (hn6 : n6 ≤ 4) (hm6 : m6 ≤ 4) (el6 : l6.length = n6) (ek6 : k6.length = m6) (hl7 : Ints w (.slice a7 n7 c7) l7) (hk7 : Ints w (.slice b7 m7 d7) k7) (hn7 : n7 ≤ 4) (hm7 : m7 ≤ 4) (el7 : l7.length = n7) (ek7 : k7.length = m7) (hxy : x ≤ y) (hpq : p ≤ q) (hm : ¬ (meetS (x, y) (p, q)).1 ≤ (meetS (x, y) (p, q)).2) :
    Calls Try.prog 7 #[.agg #[.int .i64 s1, .slice a1 n1 c1, .int .i64 1, .slice b1 m1 d1, .int .i64 s2, .slice a2 n2 c2, .int .i64 1, .slice b2 m2 d2], .agg #[.int .i64 s3, .slice a3 n3 c3, .int .i64 1, .slice b3 m3 d3, .int .i64 s4, .slice a4 n4 c4, .int .i64 1, .slice b4 m4 d4], .agg #[.int .i64 s5, .slice a5 n5 c5, .int .i64 t5, .slice b5 m5 d5, .int .i64 s6, .slice a6 n6 c6, .int .i64 t6, .slice b6 m6 d6], .agg #[.int .i64 s7, .slice a7 n7 c7, .int .i64 t7, .slice b7 m7 d7]] w fun e w' => e = .returned (.bool true) ∧ RowKit.Below w.heap.size w w' := by
  have MN1 : Hid (n1 ≤ 9223372036854775807) := Lib.hid (by omega)
  have MM1 : Hid (m1 ≤ 9223372036854775807) := Lib.hid (by omega)
  have MN2 : Hid (n2 ≤ 9223372036854775807) := Lib.hid (by omega)
  have MM2 : Hid (m2 ≤ 9223372036854775807) := Lib.hid (by omega)
  have MN3 : Hid (n3 ≤ 9223372036854775807) := Lib.hid (by omega)
  have MM3 : Hid (m3 ≤ 9223372036854775807) := Lib.hid (by omega)
  have MN4 : Hid (n4 ≤ 9223372036854775807) := Lib.hid (by omega)
  have MM4 : Hid (m4 ≤ 9223372036854775807) := Lib.hid (by omega)
  have MN5 : Hid (n5 ≤ 9223372036854775807) := Lib.hid (by omega)
  have MM5 : Hid (m5 ≤ 9223372036854775807) := Lib.hid (by omega)
  have MN6 : Hid (n6 ≤ 9223372036854775807) := Lib.hid (by omega)
  have MM6 : Hid (m6 ≤ 9223372036854775807) := Lib.hid (by omega)
  have MN7 : Hid (n7 ≤ 9223372036854775807) := Lib.hid (by omega)
  have MM7 : Hid (m7 ≤ 9223372036854775807) := Lib.hid (by omega)
  have E1 := Lib.hid h1.1.1
  have Z1 := Lib.hid z1
  have Y1 := Lib.hid (FSz.mono z1 (j := 400))
  have L1 := Lib.hid (FSz.mono z1 (j := 1000))
  have E2 := Lib.hid h2.1.1
  have Z2 := Lib.hid z2
  have Y2 := Lib.hid (FSz.mono z2 (j := 400))
  have L2 := Lib.hid (FSz.mono z2 (j := 1000))
  have E3 := Lib.hid h3.1.1
  have Z3 := Lib.hid z3
  have Y3 := Lib.hid (FSz.mono z3 (j := 400))
  have L3 := Lib.hid (FSz.mono z3 (j := 1000))
  have E4 := Lib.hid h4.1.1
  have Z4 := Lib.hid z4
  have Y4 := Lib.hid (FSz.mono z4 (j := 400))
  have L4 := Lib.hid (FSz.mono z4 (j := 1000))
  have LL5 : Hid (l5.length ≤ 1000) := Lib.hid (by omega)
  have LK5 : Hid (k5.length ≤ 1000) := Lib.hid (by omega)
  have LL6 : Hid (l6.length ≤ 1000) := Lib.hid (by omega)
  have LK6 : Hid (k6.length ≤ 1000) := Lib.hid (by omega)
  have LL7 : Hid (l7.length ≤ 1000) := Lib.hid (by omega)
  have LK7 : Hid (k7.length ≤ 1000) := Lib.hid (by omega)
  have HF0 : Hid ((((decide ((n1 : Int) ≤ 4) && decide ((m1 : Int) ≤ 4)) && (decide ((n2 : Int) ≤ 4) && decide ((m2 : Int) ≤ 4))) && ((decide ((n3 : Int) ≤ 4) && decide ((m3 : Int) ≤ 4)) && (decide ((n4 : Int) ≤ 4) && decide ((m4 : Int) ≤ 4)))) = true) := Lib.hid (by simp; omega)
  have HF1 : Hid (((decide ((n5 : Int) ≤ 4) && decide ((m5 : Int) ≤ 4)) && (decide ((n6 : Int) ≤ 4) && decide ((m6 : Int) ≤ 4))) = true) := Lib.hid (by simp; omega)
  have HF2 : Hid ((decide ((n7 : Int) ≤ 4) && decide ((m7 : Int) ≤ 4)) = true) := Lib.hid (by simp; omega)
  have HXY := Lib.hid hxy
  have HPQ := Lib.hid hpq
  have HIN := Lib.hid (hull_in hxy hpq)
  have ZH := Lib.hid (⟨rmin_sz (FSz.mono z1 (j := 1000)) (FSz.mono z3 (j := 1000)), rmax_sz (FSz.mono z2 (j := 1000)) (FSz.mono z4 (j := 1000))⟩ : FSz 1000 (rmin x p) ∧ FSz 1000 (rmax y q))
  have ZN := Lib.hid (⟨rmax_sz (FSz.mono z1 (j := 1000)) (FSz.mono z3 (j := 1000)), rmin_sz (FSz.mono z2 (j := 1000)) (FSz.mono z4 (j := 1000))⟩ : FSz 1000 (rmax x p) ∧ FSz 1000 (rmin y q))
  obtain ⟨ab, hab⟩ : ∃ r, (decide (p ≤ x) && decide (y ≤ q)) = r := ⟨_, rfl⟩
  have HAB := Lib.hid hab
  have HSB : Hid ((decide (rmin x p = p) && decide (rmax y q = q)) = ab) := Lib.hid (by rw [hull_same hxy hpq]; exact hab)
  obtain ⟨ac, hac⟩ : ∃ r, (sR s5 l5 t5 k5 s6 l6 t6 k6 && (decide ((ratOf s5 l5 k5) ≤ x) && decide (y ≤ (ratOf s6 l6 k6)))) = r := ⟨_, rfl⟩
  obtain ⟨bc, hbc⟩ : ∃ r, (sR s5 l5 t5 k5 s6 l6 t6 k6 && (decide ((ratOf s5 l5 k5) ≤ p) && decide (q ≤ (ratOf s6 l6 k6)))) = r := ⟨_, rfl⟩
  obtain ⟨hc, hhc⟩ : ∃ r, (sR s5 l5 t5 k5 s6 l6 t6 k6 && (decide ((ratOf s5 l5 k5) ≤ rmin x p) && decide (rmax y q ≤ (ratOf s6 l6 k6)))) = r := ⟨_, rfl⟩
  have HABC : Hid (ac = true → bc = true → hc = true) := Lib.hid (fun e1 e2 => by rw [← hhc]; exact hull_c (hac.trans e1) (hbc.trans e2))
  obtain ⟨fa, hfa⟩ : ∃ r, (fRightB s7 l7 t7 k7 && (decide (x ≤ (ratOf s7 l7 k7)) && decide ((ratOf s7 l7 k7) ≤ y))) = r := ⟨_, rfl⟩
  obtain ⟨fb, hfb⟩ : ∃ r, (fRightB s7 l7 t7 k7 && (decide (p ≤ (ratOf s7 l7 k7)) && decide ((ratOf s7 l7 k7) ≤ q))) = r := ⟨_, rfl⟩
  obtain ⟨ca, hca⟩ : ∃ r, (sR s5 l5 t5 k5 s6 l6 t6 k6 && (decide (x ≤ (ratOf s5 l5 k5)) && decide ((ratOf s6 l6 k6) ≤ y))) = r := ⟨_, rfl⟩
  obtain ⟨cb, hcb⟩ : ∃ r, (sR s5 l5 t5 k5 s6 l6 t6 k6 && (decide (p ≤ (ratOf s5 l5 k5)) && decide ((ratOf s6 l6 k6) ≤ q))) = r := ⟨_, rfl⟩
  have HAC := Lib.hid hac
  have HBC := Lib.hid hbc
  have HHC := Lib.hid hhc
  have HFA := Lib.hid hfa
  have HFB := Lib.hid hfb
  have HCA := Lib.hid hca
  have HCB := Lib.hid hcb
  have HM := Lib.hid hm
  have GF2 : Hid ((fa && fb) = false) := Lib.hid (by rw [← hfa, ← hfb]; exact meet_n (fun _ => Rat.le_refl) hm)
  have GC2 : Hid ((ca && cb) = false) := Lib.hid (by rw [← hca, ← hcb]; exact meet_n sR_le hm)
  have s0 := (((((((((((((((((((Sf.start w).arg h1.2.2).arg h1.1.2).arg h2.2.2).arg h2.1.2).arg h3.2.2).arg h3.1.2).arg h4.2.2).arg h4.1.2).arg hk5).arg hl5).arg hk6).arg hl6).arg hk7).arg hl7).put [.int .i64 s1, .slice a1 n1 c1, .int .i64 1, .slice b1 m1 d1, .int .i64 s2, .slice a2 n2 c2, .int .i64 1, .slice b2 m2 d2] 28).put [.int .i64 s3, .slice a3 n3 c3, .int .i64 1, .slice b3 m3 d3, .int .i64 s4, .slice a4 n4 c4, .int .i64 1, .slice b4 m4 d4] 28).put [.int .i64 s5, .slice a5 n5 c5, .int .i64 t5, .slice b5 m5 d5, .int .i64 s6, .slice a6 n6 c6, .int .i64 t6, .slice b6 m6 d6] 28).put [.int .i64 s7, .slice a7 n7 c7, .int .i64 t7, .slice b7 m7 d7] 26)
  try simp only [World.size_alloc] at s0
  have S0 := Lib.hid s0
  clear s0
  clear h1 z1 hn1 hm1 h2 z2 hn2 hm2 h3 z3 hn3 hm3 h4 z4 hn4 hm4 hl5 hk5 hn5 hm5 el5 ek5 hl6 hk6 hn6 hm6 el6 ek6 hl7 hk7 hn7 hm7 el7 ek7 hxy hpq hm hab hac hbc hhc hfa hfb hca hcb
  go_enter Try.func7, Try.ntmps7
  go_wp2_with fail
  refine (r10small).mono ?_
  rintro e w11 ⟨rfl, hb⟩
  have R11 := Lib.hid (S0.out.later hb)
  clear hb
  obtain ⟨q1, q2, q3, q4, q5, q6, q7, q8⟩ := Fb.cells8 (R11.out.box (w.heap.size + 1, 28, [.int .i64 s3, .slice a3 n3 c3, .int .i64 1, .slice b3 m3 d3, .int .i64 s4, .slice a4 n4 c4, .int .i64 1, .slice b4 m4 d4]) mq2)
  obtain ⟨q9, q10, q11, q12, q13, q14, q15, q16⟩ := Fb.cells8 (R11.out.box (w.heap.size, 28, [.int .i64 s1, .slice a1 n1 c1, .int .i64 1, .slice b1 m1 d1, .int .i64 s2, .slice a2 n2 c2, .int .i64 1, .slice b2 m2 d2]) mq3)
  go_wp2_with fail
  clear q1 q2 q3 q4 q5 q6 q7 q8 q9 q10 q11 q12 q13 q14 q15 q16
  refine (l10few (s1 := s1) (t1 := 1) (a1 := a1) (b1 := b1) (c1 := c1) (d1 := d1) (s2 := s2) (t2 := 1) (a2 := a2) (b2 := b2) (c2 := c2) (d2 := d2) (s3 := s3) (t3 := 1) (a3 := a3) (b3 := b3) (c3 := c3) (d3 := d3) (s4 := s4) (t4 := 1) (a4 := a4) (b4 := b4) (c4 := c4) (d4 := d4) MN1.out MM1.out MN2.out MM2.out MN3.out MM3.out MN4.out MM4.out HF0.out).mono ?_
  rintro e w12 ⟨rfl, hb⟩
  have R12 := Lib.hid (R11.out.later hb)
  clear hb
  obtain ⟨q17, q18, q19, q20, q21, q22, q23, q24⟩ := Fb.cells8 (R12.out.box (w.heap.size + 1 + 1, 28, [.int .i64 s5, .slice a5 n5 c5, .int .i64 t5, .slice b5 m5 d5, .int .i64 s6, .slice a6 n6 c6, .int .i64 t6, .slice b6 m6 d6]) mq1)
  go_wp2_with fail
  clear q17 q18 q19 q20 q21 q22 q23 q24
  refine (r10few_len (s1 := s5) (t1 := t5) (a1 := a5) (b1 := b5) (c1 := c5) (d1 := d5) (s2 := s6) (t2 := t6) (a2 := a6) (b2 := b6) (c2 := c6) (d2 := d6) (k := 4) MN5.out MM5.out MN6.out MM6.out HF1.out).mono ?_
  rintro e w13 ⟨rfl, hb⟩
  have R13 := Lib.hid (R12.out.later hb)
  clear hb
  obtain ⟨q25, q26, q27, q28⟩ := Fb.cells4 (R13.out.box (w.heap.size + 1 + 1 + 1, 26, [.int .i64 s7, .slice a7 n7 c7, .int .i64 t7, .slice b7 m7 d7]) mq0)
  go_wp2_with fail
  clear q25 q26 q27 q28
  refine (ffew_len s7 a7 n7 c7 t7 b7 m7 d7 4 _ MN7.out MM7.out _ HF2.out).mono ?_
  rintro e w14 ⟨rfl, hb⟩
  have R14 := Lib.hid (R13.out.later hb)
  clear hb
  obtain ⟨q29, q30, q31, q32, q33, q34, q35, q36⟩ := Fb.cells8 (R14.out.box (w.heap.size, 28, [.int .i64 s1, .slice a1 n1 c1, .int .i64 1, .slice b1 m1 d1, .int .i64 s2, .slice a2 n2 c2, .int .i64 1, .slice b2 m2 d2]) mq3)
  go_wp2_with fail
  clear q29 q30 q31 q32 q33 q34 q35 q36
  refine (p10right_v (r := true) (R14.out.fr (v := .slice a1 n1 c1) (u := .slice b1 m1 d1) (r := x) mq12 mq13 E1.out) L1.out (R14.out.fr (v := .slice a2 n2 c2) (u := .slice b2 m2 d2) (r := y) mq10 mq11 E2.out) L2.out (decide_eq_true HXY.out)).mono ?_
  rintro e w15 ⟨rfl, hb⟩
  have R15 := Lib.hid (R14.out.later hb)
  clear hb
  obtain ⟨q37, q38, q39, q40, q41, q42, q43, q44⟩ := Fb.cells8 (R15.out.box (w.heap.size + 1, 28, [.int .i64 s3, .slice a3 n3 c3, .int .i64 1, .slice b3 m3 d3, .int .i64 s4, .slice a4 n4 c4, .int .i64 1, .slice b4 m4 d4]) mq2)
  go_wp2_with fail
  clear q37 q38 q39 q40 q41 q42 q43 q44
  refine (p10right_v (r := true) (R15.out.fr (v := .slice a3 n3 c3) (u := .slice b3 m3 d3) (r := p) mq8 mq9 E3.out) L3.out (R15.out.fr (v := .slice a4 n4 c4) (u := .slice b4 m4 d4) (r := q) mq6 mq7 E4.out) L4.out (decide_eq_true HPQ.out)).mono ?_
  rintro e w16 ⟨rfl, hb⟩
  have R16 := Lib.hid (R15.out.later hb)
  clear hb
  obtain ⟨q45, q46, q47, q48, q49, q50, q51, q52⟩ := Fb.cells8 (R16.out.box (w.heap.size + 1, 28, [.int .i64 s3, .slice a3 n3 c3, .int .i64 1, .slice b3 m3 d3, .int .i64 s4, .slice a4 n4 c4, .int .i64 1, .slice b4 m4 d4]) mq2)
  obtain ⟨q53, q54, q55, q56, q57, q58, q59, q60⟩ := Fb.cells8 (R16.out.box (w.heap.size, 28, [.int .i64 s1, .slice a1 n1 c1, .int .i64 1, .slice b1 m1 d1, .int .i64 s2, .slice a2 n2 c2, .int .i64 1, .slice b2 m2 d2]) mq3)
  go_wp2_with fail
  clear q45 q46 q47 q48 q49 q50 q51 q52 q53 q54 q55 q56 q57 q58 q59 q60
  refine (p10hull (R16.out.fr (v := .slice a1 n1 c1) (u := .slice b1 m1 d1) (r := x) mq12 mq13 E1.out) Y1.out (R16.out.fr (v := .slice a2 n2 c2) (u := .slice b2 m2 d2) (r := y) mq10 mq11 E2.out) Y2.out (R16.out.fr (v := .slice a3 n3 c3) (u := .slice b3 m3 d3) (r := p) mq8 mq9 E3.out) Y3.out (R16.out.fr (v := .slice a4 n4 c4) (u := .slice b4 m4 d4) (r := q) mq6 mq7 E4.out) Y4.out HXY.out HPQ.out (r := (rmin x p, rmax y q)) rfl).mono ?_
  rintro e w17 ⟨c17, d17, rfl, h1, h2, hb, ho⟩
  have EC17 := Lib.hid h1.1.1
  have ED17 := Lib.hid h2.1.1
  have R17 := Lib.hid (Sf.span R16.out hb h1 h2 (fun x hx => ho x.1 (R16.out.lt x hx)))
  clear h1 h2 hb ho
  have P61 := Lib.hid (R17.out.put [.int .i64 0, .slice none 0 0, .int .i64 0, .slice none 0 0, .int .i64 0, .slice none 0 0, .int .i64 0, .slice none 0 0] 28)
  have Q61 := Lib.hid (Sf.row (pre := []) P61.out [.int .i64 c17.s, .slice c17.a c17.n c17.c, .int .i64 1, .slice c17.b c17.m c17.d, .int .i64 d17.s, .slice d17.a d17.n d17.c, .int .i64 1, .slice d17.b d17.m d17.d])
  obtain ⟨V61, hV61⟩ : ∃ V, ((w17.alloc (.cells #[.int .i64 0, .slice none 0 0, .int .i64 0, .slice none 0 0, .int .i64 0, .slice none 0 0, .int .i64 0, .slice none 0 0] 28)).setRow w17.heap.size #[.int .i64 c17.s, .slice c17.a c17.n c17.c, .int .i64 1, .slice c17.b c17.m c17.d, .int .i64 d17.s, .slice d17.a d17.n d17.c, .int .i64 1, .slice d17.b d17.m d17.d]) = V := ⟨_, rfl⟩
  rw [hV61] at Q61
  have HV61 := Lib.hid hV61
  clear hV61 R17
  obtain ⟨q62, q63, q64, q65, q66, q67, q68, q69⟩ := Fb.cells8 (Q61.out.box (w.heap.size + 1, 28, [.int .i64 s3, .slice a3 n3 c3, .int .i64 1, .slice b3 m3 d3, .int .i64 s4, .slice a4 n4 c4, .int .i64 1, .slice b4 m4 d4]) mq3)
  obtain ⟨q70, q71, q72, q73, q74, q75, q76, q77⟩ := Fb.cells8 (Q61.out.box (w.heap.size, 28, [.int .i64 s1, .slice a1 n1 c1, .int .i64 1, .slice b1 m1 d1, .int .i64 s2, .slice a2 n2 c2, .int .i64 1, .slice b2 m2 d2]) mq4)
  go_wp2_with (first | (refine wpList_store_row rfl _ _ _ rfl _ #[.int .i64 c17.s, .slice c17.a c17.n c17.c, .int .i64 1, .slice c17.b c17.m c17.d, .int .i64 d17.s, .slice d17.a d17.n d17.c, .int .i64 1, .slice d17.b d17.m d17.d] rfl rfl _ _ (P61.out.box _ List.mem_cons_self) (by kernel_rfl) rfl (by simp [Value.oneCell']) ?_; rw [HV61.out]))
  clear q62 q63 q64 q65 q66 q67 q68 q69 q70 q71 q72 q73 q74 q75 q76 q77
  refine (p10meet_none (Q61.out.fr (v := .slice a1 n1 c1) (u := .slice b1 m1 d1) (r := x) mq16 mq17 E1.out) Y1.out (Q61.out.fr (v := .slice a2 n2 c2) (u := .slice b2 m2 d2) (r := y) mq14 mq15 E2.out) Y2.out (Q61.out.fr (v := .slice a3 n3 c3) (u := .slice b3 m3 d3) (r := p) mq12 mq13 E3.out) Y3.out (Q61.out.fr (v := .slice a4 n4 c4) (u := .slice b4 m4 d4) (r := q) mq10 mq11 E4.out) Y4.out HXY.out HPQ.out HM.out).mono ?_
  rintro e w18 ⟨rfl, hb⟩
  have R18 := Lib.hid (Q61.out.later hb)
  clear hb
  have P78 := Lib.hid (R18.out.put [.int .i64 0, .slice none 0 0, .int .i64 0, .slice none 0 0, .int .i64 0, .slice none 0 0, .int .i64 0, .slice none 0 0] 28)
  have Q78 := Lib.hid (Sf.row (pre := []) P78.out [.int .i64 0, .slice none 0 0, .int .i64 0, .slice none 0 0, .int .i64 0, .slice none 0 0, .int .i64 0, .slice none 0 0])
  obtain ⟨V78, hV78⟩ : ∃ V, ((w18.alloc (.cells #[.int .i64 0, .slice none 0 0, .int .i64 0, .slice none 0 0, .int .i64 0, .slice none 0 0, .int .i64 0, .slice none 0 0] 28)).setRow w18.heap.size #[.int .i64 0, .slice none 0 0, .int .i64 0, .slice none 0 0, .int .i64 0, .slice none 0 0, .int .i64 0, .slice none 0 0]) = V := ⟨_, rfl⟩
  rw [hV78] at Q78
  have HV78 := Lib.hid hV78
  clear hV78 R18
  go_upto_region 6 with (first | (refine wpList_store_row rfl _ _ _ rfl _ #[.int .i64 0, .slice none 0 0, .int .i64 0, .slice none 0 0, .int .i64 0, .slice none 0 0, .int .i64 0, .slice none 0 0] rfl rfl _ _ (P78.out.box _ List.mem_cons_self) (by kernel_rfl) rfl (by simp [Value.oneCell']) ?_; rw [HV78.out]))
  go_cut [75] from 53 to 75 (fun u wx => u = .bool false ∧ Hid (Sf w [(w18.heap.size, 28, [.int .i64 0, .slice none 0 0, .int .i64 0, .slice none 0 0, .int .i64 0, .slice none 0 0, .int .i64 0, .slice none 0 0]), (w17.heap.size, 28, [.int .i64 c17.s, .slice c17.a c17.n c17.c, .int .i64 1, .slice c17.b c17.m c17.d, .int .i64 d17.s, .slice d17.a d17.n d17.c, .int .i64 1, .slice d17.b d17.m d17.d]), (w.heap.size + 1 + 1 + 1, 26, [.int .i64 s7, .slice a7 n7 c7, .int .i64 t7, .slice b7 m7 d7]), (w.heap.size + 1 + 1, 28, [.int .i64 s5, .slice a5 n5 c5, .int .i64 t5, .slice b5 m5 d5, .int .i64 s6, .slice a6 n6 c6, .int .i64 t6, .slice b6 m6 d6]), (w.heap.size + 1, 28, [.int .i64 s3, .slice a3 n3 c3, .int .i64 1, .slice b3 m3 d3, .int .i64 s4, .slice a4 n4 c4, .int .i64 1, .slice b4 m4 d4]), (w.heap.size, 28, [.int .i64 s1, .slice a1 n1 c1, .int .i64 1, .slice b1 m1 d1, .int .i64 s2, .slice a2 n2 c2, .int .i64 1, .slice b2 m2 d2])] [(.slice c17.a c17.n c17.c, digs ((rmin x p)).num.natAbs), (.slice c17.b c17.m c17.d, digs ((((rmin x p)).den : Int)).natAbs), (.slice d17.a d17.n d17.c, digs ((rmax y q)).num.natAbs), (.slice d17.b d17.m d17.d, digs ((((rmax y q)).den : Int)).natAbs), (.slice a7 n7 c7, l7), (.slice b7 m7 d7, k7), (.slice a6 n6 c6, l6), (.slice b6 m6 d6, k6), (.slice a5 n5 c5, l5), (.slice b5 m5 d5, k5), (.slice a4 n4 c4, digs (q).num.natAbs), (.slice b4 m4 d4, digs (((q).den : Int)).natAbs), (.slice a3 n3 c3, digs (p).num.natAbs), (.slice b3 m3 d3, digs (((p).den : Int)).natAbs), (.slice a2 n2 c2, digs (y).num.natAbs), (.slice b2 m2 d2, digs (((y).den : Int)).natAbs), (.slice a1 n1 c1, digs (x).num.natAbs), (.slice b1 m1 d1, digs (((x).den : Int)).natAbs)] wx))
  case first =>
    cases ab
    case false =>
      have K0 : ∀ W F, Sf w [(w18.heap.size, 28, [.int .i64 0, .slice none 0 0, .int .i64 0, .slice none 0 0, .int .i64 0, .slice none 0 0, .int .i64 0, .slice none 0 0]), (w17.heap.size, 28, [.int .i64 c17.s, .slice c17.a c17.n c17.c, .int .i64 1, .slice c17.b c17.m c17.d, .int .i64 d17.s, .slice d17.a d17.n d17.c, .int .i64 1, .slice d17.b d17.m d17.d]), (w.heap.size + 1 + 1 + 1, 26, [.int .i64 s7, .slice a7 n7 c7, .int .i64 t7, .slice b7 m7 d7]), (w.heap.size + 1 + 1, 28, [.int .i64 s5, .slice a5 n5 c5, .int .i64 t5, .slice b5 m5 d5, .int .i64 s6, .slice a6 n6 c6, .int .i64 t6, .slice b6 m6 d6]), (w.heap.size + 1, 28, [.int .i64 s3, .slice a3 n3 c3, .int .i64 1, .slice b3 m3 d3, .int .i64 s4, .slice a4 n4 c4, .int .i64 1, .slice b4 m4 d4]), (w.heap.size, 28, [.int .i64 s1, .slice a1 n1 c1, .int .i64 1, .slice b1 m1 d1, .int .i64 s2, .slice a2 n2 c2, .int .i64 1, .slice b2 m2 d2])] F W → W.cell? ⟨w17.heap.size, 0, none⟩ = some (.int .i64 c17.s) ∧ W.cell? ⟨w17.heap.size, 1, none⟩ = some (.slice c17.a c17.n c17.c) ∧ W.cell? ⟨w17.heap.size, 2, none⟩ = some (.int .i64 1) ∧ W.cell? ⟨w17.heap.size, 3, none⟩ = some (.slice c17.b c17.m c17.d) ∧ W.cell? ⟨w17.heap.size, 4, none⟩ = some (.int .i64 d17.s) ∧ W.cell? ⟨w17.heap.size, 5, none⟩ = some (.slice d17.a d17.n d17.c) ∧ W.cell? ⟨w17.heap.size, 6, none⟩ = some (.int .i64 1) ∧ W.cell? ⟨w17.heap.size, 7, none⟩ = some (.slice d17.b d17.m d17.d) ∧ W.cell? ⟨w.heap.size + 1, 0, none⟩ = some (.int .i64 s3) ∧ W.cell? ⟨w.heap.size + 1, 1, none⟩ = some (.slice a3 n3 c3) ∧ W.cell? ⟨w.heap.size + 1, 2, none⟩ = some (.int .i64 1) ∧ W.cell? ⟨w.heap.size + 1, 3, none⟩ = some (.slice b3 m3 d3) ∧ W.cell? ⟨w.heap.size + 1, 4, none⟩ = some (.int .i64 s4) ∧ W.cell? ⟨w.heap.size + 1, 5, none⟩ = some (.slice a4 n4 c4) ∧ W.cell? ⟨w.heap.size + 1, 6, none⟩ = some (.int .i64 1) ∧ W.cell? ⟨w.heap.size + 1, 7, none⟩ = some (.slice b4 m4 d4) ∧ W.cell? ⟨w.heap.size, 0, none⟩ = some (.int .i64 s1) ∧ W.cell? ⟨w.heap.size, 1, none⟩ = some (.slice a1 n1 c1) ∧ W.cell? ⟨w.heap.size, 2, none⟩ = some (.int .i64 1) ∧ W.cell? ⟨w.heap.size, 3, none⟩ = some (.slice b1 m1 d1) ∧ W.cell? ⟨w.heap.size, 4, none⟩ = some (.int .i64 s2) ∧ W.cell? ⟨w.heap.size, 5, none⟩ = some (.slice a2 n2 c2) ∧ W.cell? ⟨w.heap.size, 6, none⟩ = some (.int .i64 1) ∧ W.cell? ⟨w.heap.size, 7, none⟩ = some (.slice b2 m2 d2) := fun W F h => ⟨(h.box (w17.heap.size, 28, [.int .i64 c17.s, .slice c17.a c17.n c17.c, .int .i64 1, .slice c17.b c17.m c17.d, .int .i64 d17.s, .slice d17.a d17.n d17.c, .int .i64 1, .slice d17.b d17.m d17.d]) mq1).cell 0, (h.box (w17.heap.size, 28, [.int .i64 c17.s, .slice c17.a c17.n c17.c, .int .i64 1, .slice c17.b c17.m c17.d, .int .i64 d17.s, .slice d17.a d17.n d17.c, .int .i64 1, .slice d17.b d17.m d17.d]) mq1).cell 1, (h.box (w17.heap.size, 28, [.int .i64 c17.s, .slice c17.a c17.n c17.c, .int .i64 1, .slice c17.b c17.m c17.d, .int .i64 d17.s, .slice d17.a d17.n d17.c, .int .i64 1, .slice d17.b d17.m d17.d]) mq1).cell 2, (h.box (w17.heap.size, 28, [.int .i64 c17.s, .slice c17.a c17.n c17.c, .int .i64 1, .slice c17.b c17.m c17.d, .int .i64 d17.s, .slice d17.a d17.n d17.c, .int .i64 1, .slice d17.b d17.m d17.d]) mq1).cell 3, (h.box (w17.heap.size, 28, [.int .i64 c17.s, .slice c17.a c17.n c17.c, .int .i64 1, .slice c17.b c17.m c17.d, .int .i64 d17.s, .slice d17.a d17.n d17.c, .int .i64 1, .slice d17.b d17.m d17.d]) mq1).cell 4, (h.box (w17.heap.size, 28, [.int .i64 c17.s, .slice c17.a c17.n c17.c, .int .i64 1, .slice c17.b c17.m c17.d, .int .i64 d17.s, .slice d17.a d17.n d17.c, .int .i64 1, .slice d17.b d17.m d17.d]) mq1).cell 5, (h.box (w17.heap.size, 28, [.int .i64 c17.s, .slice c17.a c17.n c17.c, .int .i64 1, .slice c17.b c17.m c17.d, .int .i64 d17.s, .slice d17.a d17.n d17.c, .int .i64 1, .slice d17.b d17.m d17.d]) mq1).cell 6, (h.box (w17.heap.size, 28, [.int .i64 c17.s, .slice c17.a c17.n c17.c, .int .i64 1, .slice c17.b c17.m c17.d, .int .i64 d17.s, .slice d17.a d17.n d17.c, .int .i64 1, .slice d17.b d17.m d17.d]) mq1).cell 7, (h.box (w.heap.size + 1, 28, [.int .i64 s3, .slice a3 n3 c3, .int .i64 1, .slice b3 m3 d3, .int .i64 s4, .slice a4 n4 c4, .int .i64 1, .slice b4 m4 d4]) mq4).cell 0, (h.box (w.heap.size + 1, 28, [.int .i64 s3, .slice a3 n3 c3, .int .i64 1, .slice b3 m3 d3, .int .i64 s4, .slice a4 n4 c4, .int .i64 1, .slice b4 m4 d4]) mq4).cell 1, (h.box (w.heap.size + 1, 28, [.int .i64 s3, .slice a3 n3 c3, .int .i64 1, .slice b3 m3 d3, .int .i64 s4, .slice a4 n4 c4, .int .i64 1, .slice b4 m4 d4]) mq4).cell 2, (h.box (w.heap.size + 1, 28, [.int .i64 s3, .slice a3 n3 c3, .int .i64 1, .slice b3 m3 d3, .int .i64 s4, .slice a4 n4 c4, .int .i64 1, .slice b4 m4 d4]) mq4).cell 3, (h.box (w.heap.size + 1, 28, [.int .i64 s3, .slice a3 n3 c3, .int .i64 1, .slice b3 m3 d3, .int .i64 s4, .slice a4 n4 c4, .int .i64 1, .slice b4 m4 d4]) mq4).cell 4, (h.box (w.heap.size + 1, 28, [.int .i64 s3, .slice a3 n3 c3, .int .i64 1, .slice b3 m3 d3, .int .i64 s4, .slice a4 n4 c4, .int .i64 1, .slice b4 m4 d4]) mq4).cell 5, (h.box (w.heap.size + 1, 28, [.int .i64 s3, .slice a3 n3 c3, .int .i64 1, .slice b3 m3 d3, .int .i64 s4, .slice a4 n4 c4, .int .i64 1, .slice b4 m4 d4]) mq4).cell 6, (h.box (w.heap.size + 1, 28, [.int .i64 s3, .slice a3 n3 c3, .int .i64 1, .slice b3 m3 d3, .int .i64 s4, .slice a4 n4 c4, .int .i64 1, .slice b4 m4 d4]) mq4).cell 7, (h.box (w.heap.size, 28, [.int .i64 s1, .slice a1 n1 c1, .int .i64 1, .slice b1 m1 d1, .int .i64 s2, .slice a2 n2 c2, .int .i64 1, .slice b2 m2 d2]) mq5).cell 0, (h.box (w.heap.size, 28, [.int .i64 s1, .slice a1 n1 c1, .int .i64 1, .slice b1 m1 d1, .int .i64 s2, .slice a2 n2 c2, .int .i64 1, .slice b2 m2 d2]) mq5).cell 1, (h.box (w.heap.size, 28, [.int .i64 s1, .slice a1 n1 c1, .int .i64 1, .slice b1 m1 d1, .int .i64 s2, .slice a2 n2 c2, .int .i64 1, .slice b2 m2 d2]) mq5).cell 2, (h.box (w.heap.size, 28, [.int .i64 s1, .slice a1 n1 c1, .int .i64 1, .slice b1 m1 d1, .int .i64 s2, .slice a2 n2 c2, .int .i64 1, .slice b2 m2 d2]) mq5).cell 3, (h.box (w.heap.size, 28, [.int .i64 s1, .slice a1 n1 c1, .int .i64 1, .slice b1 m1 d1, .int .i64 s2, .slice a2 n2 c2, .int .i64 1, .slice b2 m2 d2]) mq5).cell 4, (h.box (w.heap.size, 28, [.int .i64 s1, .slice a1 n1 c1, .int .i64 1, .slice b1 m1 d1, .int .i64 s2, .slice a2 n2 c2, .int .i64 1, .slice b2 m2 d2]) mq5).cell 5, (h.box (w.heap.size, 28, [.int .i64 s1, .slice a1 n1 c1, .int .i64 1, .slice b1 m1 d1, .int .i64 s2, .slice a2 n2 c2, .int .i64 1, .slice b2 m2 d2]) mq5).cell 6, (h.box (w.heap.size, 28, [.int .i64 s1, .slice a1 n1 c1, .int .i64 1, .slice b1 m1 d1, .int .i64 s2, .slice a2 n2 c2, .int .i64 1, .slice b2 m2 d2]) mq5).cell 7⟩
      have KK := Lib.hid K0
      clear K0
      have N0 := Lib.hid Q78.out.drew
      clear Q78
      have e0 := KK.out _ _ N0.out
      have PN0_1 := Lib.hid (N0.out.fr (v := .slice a1 n1 c1) (u := .slice b1 m1 d1) (r := x) mq16 mq17 E1.out)
      have PN0_2 := Lib.hid (N0.out.fr (v := .slice a2 n2 c2) (u := .slice b2 m2 d2) (r := y) mq14 mq15 E2.out)
      have PN0_3 := Lib.hid (N0.out.fr (v := .slice c17.a c17.n c17.c) (u := .slice c17.b c17.m c17.d) (r := (rmin x p)) mq0 mq1 EC17.out)
      have PN0_4 := Lib.hid (N0.out.fr (v := .slice d17.a d17.n d17.c) (u := .slice d17.b d17.m d17.d) (r := (rmax y q)) mq2 mq3 ED17.out)
      go_region_held3 (fun W => W.cell? ⟨w17.heap.size, 0, none⟩ = some (.int .i64 c17.s) ∧ W.cell? ⟨w17.heap.size, 1, none⟩ = some (.slice c17.a c17.n c17.c) ∧ W.cell? ⟨w17.heap.size, 2, none⟩ = some (.int .i64 1) ∧ W.cell? ⟨w17.heap.size, 3, none⟩ = some (.slice c17.b c17.m c17.d) ∧ W.cell? ⟨w17.heap.size, 4, none⟩ = some (.int .i64 d17.s) ∧ W.cell? ⟨w17.heap.size, 5, none⟩ = some (.slice d17.a d17.n d17.c) ∧ W.cell? ⟨w17.heap.size, 6, none⟩ = some (.int .i64 1) ∧ W.cell? ⟨w17.heap.size, 7, none⟩ = some (.slice d17.b d17.m d17.d) ∧ W.cell? ⟨w.heap.size + 1, 0, none⟩ = some (.int .i64 s3) ∧ W.cell? ⟨w.heap.size + 1, 1, none⟩ = some (.slice a3 n3 c3) ∧ W.cell? ⟨w.heap.size + 1, 2, none⟩ = some (.int .i64 1) ∧ W.cell? ⟨w.heap.size + 1, 3, none⟩ = some (.slice b3 m3 d3) ∧ W.cell? ⟨w.heap.size + 1, 4, none⟩ = some (.int .i64 s4) ∧ W.cell? ⟨w.heap.size + 1, 5, none⟩ = some (.slice a4 n4 c4) ∧ W.cell? ⟨w.heap.size + 1, 6, none⟩ = some (.int .i64 1) ∧ W.cell? ⟨w.heap.size + 1, 7, none⟩ = some (.slice b4 m4 d4) ∧ W.cell? ⟨w.heap.size, 0, none⟩ = some (.int .i64 s1) ∧ W.cell? ⟨w.heap.size, 1, none⟩ = some (.slice a1 n1 c1) ∧ W.cell? ⟨w.heap.size, 2, none⟩ = some (.int .i64 1) ∧ W.cell? ⟨w.heap.size, 3, none⟩ = some (.slice b1 m1 d1) ∧ W.cell? ⟨w.heap.size, 4, none⟩ = some (.int .i64 s2) ∧ W.cell? ⟨w.heap.size, 5, none⟩ = some (.slice a2 n2 c2) ∧ W.cell? ⟨w.heap.size, 6, none⟩ = some (.int .i64 1) ∧ W.cell? ⟨w.heap.size, 7, none⟩ = some (.slice b2 m2 d2))
        (first | (with_reducible exact e0) | (with_reducible exact e1) | (with_reducible exact e2) | (with_reducible exact e3) | (with_reducible exact e4))
        (((first | go_at_call 25 | go_at_call 16 | (rw [if_pos (by rfl)]; go_simp) | skip); (first
            | (have hG := N3; clear hG; go_at_call 25; (with_reducible refine (same_fo (r := false) PN3_1.out PN3_2.out PN3_3.out PN3_4.out HSB.out).mono ?_); rintro e y19_3 ⟨rfl, hb⟩; have N4 := Lib.hid (N3.out.later hb); clear hb; have e4 := KK.out _ _ N4.out)
            | (have hG := N2; clear hG; go_at_call 16; (with_reducible refine (p10inside_k (r := false) PN2_1.out L1.out PN2_2.out L2.out PN2_3.out L3.out PN2_4.out L4.out HXY.out HPQ.out HAB.out).mono ?_); rintro e y19_2 ⟨rfl, hb⟩; have N3 := Lib.hid (N2.out.later hb); clear hb; have e3 := KK.out _ _ N3.out; have PN3_1 := Lib.hid (N3.out.fr (v := .slice c17.a c17.n c17.c) (u := .slice c17.b c17.m c17.d) (r := (rmin x p)) mq0 mq1 EC17.out); have PN3_2 := Lib.hid (N3.out.fr (v := .slice d17.a d17.n d17.c) (u := .slice d17.b d17.m d17.d) (r := (rmax y q)) mq2 mq3 ED17.out); have PN3_3 := Lib.hid (N3.out.fr (v := .slice a3 n3 c3) (u := .slice b3 m3 d3) (r := p) mq12 mq13 E3.out); have PN3_4 := Lib.hid (N3.out.fr (v := .slice a4 n4 c4) (u := .slice b4 m4 d4) (r := q) mq10 mq11 E4.out))
            | (have hG := N1; clear hG; go_at_call 16; (with_reducible refine (p10inside_k (r := true) PN1_1.out L3.out PN1_2.out L4.out PN1_3.out ZH.out.1 PN1_4.out ZH.out.2 HPQ.out HIN.out.2.2 HIN.out.2.1).mono ?_); rintro e y19_1 ⟨rfl, hb⟩; have N2 := Lib.hid (N1.out.later hb); clear hb; have e2 := KK.out _ _ N2.out; have PN2_1 := Lib.hid (N2.out.fr (v := .slice a1 n1 c1) (u := .slice b1 m1 d1) (r := x) mq16 mq17 E1.out); have PN2_2 := Lib.hid (N2.out.fr (v := .slice a2 n2 c2) (u := .slice b2 m2 d2) (r := y) mq14 mq15 E2.out); have PN2_3 := Lib.hid (N2.out.fr (v := .slice a3 n3 c3) (u := .slice b3 m3 d3) (r := p) mq12 mq13 E3.out); have PN2_4 := Lib.hid (N2.out.fr (v := .slice a4 n4 c4) (u := .slice b4 m4 d4) (r := q) mq10 mq11 E4.out))
            | (have hG := N0; clear hG; go_at_call 16; (with_reducible refine (p10inside_k (r := true) PN0_1.out L1.out PN0_2.out L2.out PN0_3.out ZH.out.1 PN0_4.out ZH.out.2 HXY.out HIN.out.2.2 HIN.out.1).mono ?_); rintro e y19_0 ⟨rfl, hb⟩; have N1 := Lib.hid (N0.out.later hb); clear hb; have e1 := KK.out _ _ N1.out; have PN1_1 := Lib.hid (N1.out.fr (v := .slice a3 n3 c3) (u := .slice b3 m3 d3) (r := p) mq12 mq13 E3.out); have PN1_2 := Lib.hid (N1.out.fr (v := .slice a4 n4 c4) (u := .slice b4 m4 d4) (r := q) mq10 mq11 E4.out); have PN1_3 := Lib.hid (N1.out.fr (v := .slice c17.a c17.n c17.c) (u := .slice c17.b c17.m c17.d) (r := (rmin x p)) mq0 mq1 EC17.out); have PN1_4 := Lib.hid (N1.out.fr (v := .slice d17.a d17.n d17.c) (u := .slice d17.b d17.m d17.d) (r := (rmax y q)) mq2 mq3 ED17.out))); (try dsimp only)))
      all_goals (go_wp2_with fail; go_meet; exact ⟨rfl, Lib.hid (Sf.facts N4.out (by simp))⟩)
    case true =>
      have K0 : ∀ W F, Sf w [(w18.heap.size, 28, [.int .i64 0, .slice none 0 0, .int .i64 0, .slice none 0 0, .int .i64 0, .slice none 0 0, .int .i64 0, .slice none 0 0]), (w17.heap.size, 28, [.int .i64 c17.s, .slice c17.a c17.n c17.c, .int .i64 1, .slice c17.b c17.m c17.d, .int .i64 d17.s, .slice d17.a d17.n d17.c, .int .i64 1, .slice d17.b d17.m d17.d]), (w.heap.size + 1 + 1 + 1, 26, [.int .i64 s7, .slice a7 n7 c7, .int .i64 t7, .slice b7 m7 d7]), (w.heap.size + 1 + 1, 28, [.int .i64 s5, .slice a5 n5 c5, .int .i64 t5, .slice b5 m5 d5, .int .i64 s6, .slice a6 n6 c6, .int .i64 t6, .slice b6 m6 d6]), (w.heap.size + 1, 28, [.int .i64 s3, .slice a3 n3 c3, .int .i64 1, .slice b3 m3 d3, .int .i64 s4, .slice a4 n4 c4, .int .i64 1, .slice b4 m4 d4]), (w.heap.size, 28, [.int .i64 s1, .slice a1 n1 c1, .int .i64 1, .slice b1 m1 d1, .int .i64 s2, .slice a2 n2 c2, .int .i64 1, .slice b2 m2 d2])] F W → W.cell? ⟨w17.heap.size, 0, none⟩ = some (.int .i64 c17.s) ∧ W.cell? ⟨w17.heap.size, 1, none⟩ = some (.slice c17.a c17.n c17.c) ∧ W.cell? ⟨w17.heap.size, 2, none⟩ = some (.int .i64 1) ∧ W.cell? ⟨w17.heap.size, 3, none⟩ = some (.slice c17.b c17.m c17.d) ∧ W.cell? ⟨w17.heap.size, 4, none⟩ = some (.int .i64 d17.s) ∧ W.cell? ⟨w17.heap.size, 5, none⟩ = some (.slice d17.a d17.n d17.c) ∧ W.cell? ⟨w17.heap.size, 6, none⟩ = some (.int .i64 1) ∧ W.cell? ⟨w17.heap.size, 7, none⟩ = some (.slice d17.b d17.m d17.d) ∧ W.cell? ⟨w.heap.size + 1, 0, none⟩ = some (.int .i64 s3) ∧ W.cell? ⟨w.heap.size + 1, 1, none⟩ = some (.slice a3 n3 c3) ∧ W.cell? ⟨w.heap.size + 1, 2, none⟩ = some (.int .i64 1) ∧ W.cell? ⟨w.heap.size + 1, 3, none⟩ = some (.slice b3 m3 d3) ∧ W.cell? ⟨w.heap.size + 1, 4, none⟩ = some (.int .i64 s4) ∧ W.cell? ⟨w.heap.size + 1, 5, none⟩ = some (.slice a4 n4 c4) ∧ W.cell? ⟨w.heap.size + 1, 6, none⟩ = some (.int .i64 1) ∧ W.cell? ⟨w.heap.size + 1, 7, none⟩ = some (.slice b4 m4 d4) ∧ W.cell? ⟨w.heap.size, 0, none⟩ = some (.int .i64 s1) ∧ W.cell? ⟨w.heap.size, 1, none⟩ = some (.slice a1 n1 c1) ∧ W.cell? ⟨w.heap.size, 2, none⟩ = some (.int .i64 1) ∧ W.cell? ⟨w.heap.size, 3, none⟩ = some (.slice b1 m1 d1) ∧ W.cell? ⟨w.heap.size, 4, none⟩ = some (.int .i64 s2) ∧ W.cell? ⟨w.heap.size, 5, none⟩ = some (.slice a2 n2 c2) ∧ W.cell? ⟨w.heap.size, 6, none⟩ = some (.int .i64 1) ∧ W.cell? ⟨w.heap.size, 7, none⟩ = some (.slice b2 m2 d2) := fun W F h => ⟨(h.box (w17.heap.size, 28, [.int .i64 c17.s, .slice c17.a c17.n c17.c, .int .i64 1, .slice c17.b c17.m c17.d, .int .i64 d17.s, .slice d17.a d17.n d17.c, .int .i64 1, .slice d17.b d17.m d17.d]) mq1).cell 0, (h.box (w17.heap.size, 28, [.int .i64 c17.s, .slice c17.a c17.n c17.c, .int .i64 1, .slice c17.b c17.m c17.d, .int .i64 d17.s, .slice d17.a d17.n d17.c, .int .i64 1, .slice d17.b d17.m d17.d]) mq1).cell 1, (h.box (w17.heap.size, 28, [.int .i64 c17.s, .slice c17.a c17.n c17.c, .int .i64 1, .slice c17.b c17.m c17.d, .int .i64 d17.s, .slice d17.a d17.n d17.c, .int .i64 1, .slice d17.b d17.m d17.d]) mq1).cell 2, (h.box (w17.heap.size, 28, [.int .i64 c17.s, .slice c17.a c17.n c17.c, .int .i64 1, .slice c17.b c17.m c17.d, .int .i64 d17.s, .slice d17.a d17.n d17.c, .int .i64 1, .slice d17.b d17.m d17.d]) mq1).cell 3, (h.box (w17.heap.size, 28, [.int .i64 c17.s, .slice c17.a c17.n c17.c, .int .i64 1, .slice c17.b c17.m c17.d, .int .i64 d17.s, .slice d17.a d17.n d17.c, .int .i64 1, .slice d17.b d17.m d17.d]) mq1).cell 4, (h.box (w17.heap.size, 28, [.int .i64 c17.s, .slice c17.a c17.n c17.c, .int .i64 1, .slice c17.b c17.m c17.d, .int .i64 d17.s, .slice d17.a d17.n d17.c, .int .i64 1, .slice d17.b d17.m d17.d]) mq1).cell 5, (h.box (w17.heap.size, 28, [.int .i64 c17.s, .slice c17.a c17.n c17.c, .int .i64 1, .slice c17.b c17.m c17.d, .int .i64 d17.s, .slice d17.a d17.n d17.c, .int .i64 1, .slice d17.b d17.m d17.d]) mq1).cell 6, (h.box (w17.heap.size, 28, [.int .i64 c17.s, .slice c17.a c17.n c17.c, .int .i64 1, .slice c17.b c17.m c17.d, .int .i64 d17.s, .slice d17.a d17.n d17.c, .int .i64 1, .slice d17.b d17.m d17.d]) mq1).cell 7, (h.box (w.heap.size + 1, 28, [.int .i64 s3, .slice a3 n3 c3, .int .i64 1, .slice b3 m3 d3, .int .i64 s4, .slice a4 n4 c4, .int .i64 1, .slice b4 m4 d4]) mq4).cell 0, (h.box (w.heap.size + 1, 28, [.int .i64 s3, .slice a3 n3 c3, .int .i64 1, .slice b3 m3 d3, .int .i64 s4, .slice a4 n4 c4, .int .i64 1, .slice b4 m4 d4]) mq4).cell 1, (h.box (w.heap.size + 1, 28, [.int .i64 s3, .slice a3 n3 c3, .int .i64 1, .slice b3 m3 d3, .int .i64 s4, .slice a4 n4 c4, .int .i64 1, .slice b4 m4 d4]) mq4).cell 2, (h.box (w.heap.size + 1, 28, [.int .i64 s3, .slice a3 n3 c3, .int .i64 1, .slice b3 m3 d3, .int .i64 s4, .slice a4 n4 c4, .int .i64 1, .slice b4 m4 d4]) mq4).cell 3, (h.box (w.heap.size + 1, 28, [.int .i64 s3, .slice a3 n3 c3, .int .i64 1, .slice b3 m3 d3, .int .i64 s4, .slice a4 n4 c4, .int .i64 1, .slice b4 m4 d4]) mq4).cell 4, (h.box (w.heap.size + 1, 28, [.int .i64 s3, .slice a3 n3 c3, .int .i64 1, .slice b3 m3 d3, .int .i64 s4, .slice a4 n4 c4, .int .i64 1, .slice b4 m4 d4]) mq4).cell 5, (h.box (w.heap.size + 1, 28, [.int .i64 s3, .slice a3 n3 c3, .int .i64 1, .slice b3 m3 d3, .int .i64 s4, .slice a4 n4 c4, .int .i64 1, .slice b4 m4 d4]) mq4).cell 6, (h.box (w.heap.size + 1, 28, [.int .i64 s3, .slice a3 n3 c3, .int .i64 1, .slice b3 m3 d3, .int .i64 s4, .slice a4 n4 c4, .int .i64 1, .slice b4 m4 d4]) mq4).cell 7, (h.box (w.heap.size, 28, [.int .i64 s1, .slice a1 n1 c1, .int .i64 1, .slice b1 m1 d1, .int .i64 s2, .slice a2 n2 c2, .int .i64 1, .slice b2 m2 d2]) mq5).cell 0, (h.box (w.heap.size, 28, [.int .i64 s1, .slice a1 n1 c1, .int .i64 1, .slice b1 m1 d1, .int .i64 s2, .slice a2 n2 c2, .int .i64 1, .slice b2 m2 d2]) mq5).cell 1, (h.box (w.heap.size, 28, [.int .i64 s1, .slice a1 n1 c1, .int .i64 1, .slice b1 m1 d1, .int .i64 s2, .slice a2 n2 c2, .int .i64 1, .slice b2 m2 d2]) mq5).cell 2, (h.box (w.heap.size, 28, [.int .i64 s1, .slice a1 n1 c1, .int .i64 1, .slice b1 m1 d1, .int .i64 s2, .slice a2 n2 c2, .int .i64 1, .slice b2 m2 d2]) mq5).cell 3, (h.box (w.heap.size, 28, [.int .i64 s1, .slice a1 n1 c1, .int .i64 1, .slice b1 m1 d1, .int .i64 s2, .slice a2 n2 c2, .int .i64 1, .slice b2 m2 d2]) mq5).cell 4, (h.box (w.heap.size, 28, [.int .i64 s1, .slice a1 n1 c1, .int .i64 1, .slice b1 m1 d1, .int .i64 s2, .slice a2 n2 c2, .int .i64 1, .slice b2 m2 d2]) mq5).cell 5, (h.box (w.heap.size, 28, [.int .i64 s1, .slice a1 n1 c1, .int .i64 1, .slice b1 m1 d1, .int .i64 s2, .slice a2 n2 c2, .int .i64 1, .slice b2 m2 d2]) mq5).cell 6, (h.box (w.heap.size, 28, [.int .i64 s1, .slice a1 n1 c1, .int .i64 1, .slice b1 m1 d1, .int .i64 s2, .slice a2 n2 c2, .int .i64 1, .slice b2 m2 d2]) mq5).cell 7⟩
      have KK := Lib.hid K0
      clear K0
      have N0 := Lib.hid Q78.out.drew
      clear Q78
      have e0 := KK.out _ _ N0.out
      have PN0_1 := Lib.hid (N0.out.fr (v := .slice a1 n1 c1) (u := .slice b1 m1 d1) (r := x) mq16 mq17 E1.out)
      have PN0_2 := Lib.hid (N0.out.fr (v := .slice a2 n2 c2) (u := .slice b2 m2 d2) (r := y) mq14 mq15 E2.out)
      have PN0_3 := Lib.hid (N0.out.fr (v := .slice c17.a c17.n c17.c) (u := .slice c17.b c17.m c17.d) (r := (rmin x p)) mq0 mq1 EC17.out)
      have PN0_4 := Lib.hid (N0.out.fr (v := .slice d17.a d17.n d17.c) (u := .slice d17.b d17.m d17.d) (r := (rmax y q)) mq2 mq3 ED17.out)
      go_region_held3 (fun W => W.cell? ⟨w17.heap.size, 0, none⟩ = some (.int .i64 c17.s) ∧ W.cell? ⟨w17.heap.size, 1, none⟩ = some (.slice c17.a c17.n c17.c) ∧ W.cell? ⟨w17.heap.size, 2, none⟩ = some (.int .i64 1) ∧ W.cell? ⟨w17.heap.size, 3, none⟩ = some (.slice c17.b c17.m c17.d) ∧ W.cell? ⟨w17.heap.size, 4, none⟩ = some (.int .i64 d17.s) ∧ W.cell? ⟨w17.heap.size, 5, none⟩ = some (.slice d17.a d17.n d17.c) ∧ W.cell? ⟨w17.heap.size, 6, none⟩ = some (.int .i64 1) ∧ W.cell? ⟨w17.heap.size, 7, none⟩ = some (.slice d17.b d17.m d17.d) ∧ W.cell? ⟨w.heap.size + 1, 0, none⟩ = some (.int .i64 s3) ∧ W.cell? ⟨w.heap.size + 1, 1, none⟩ = some (.slice a3 n3 c3) ∧ W.cell? ⟨w.heap.size + 1, 2, none⟩ = some (.int .i64 1) ∧ W.cell? ⟨w.heap.size + 1, 3, none⟩ = some (.slice b3 m3 d3) ∧ W.cell? ⟨w.heap.size + 1, 4, none⟩ = some (.int .i64 s4) ∧ W.cell? ⟨w.heap.size + 1, 5, none⟩ = some (.slice a4 n4 c4) ∧ W.cell? ⟨w.heap.size + 1, 6, none⟩ = some (.int .i64 1) ∧ W.cell? ⟨w.heap.size + 1, 7, none⟩ = some (.slice b4 m4 d4) ∧ W.cell? ⟨w.heap.size, 0, none⟩ = some (.int .i64 s1) ∧ W.cell? ⟨w.heap.size, 1, none⟩ = some (.slice a1 n1 c1) ∧ W.cell? ⟨w.heap.size, 2, none⟩ = some (.int .i64 1) ∧ W.cell? ⟨w.heap.size, 3, none⟩ = some (.slice b1 m1 d1) ∧ W.cell? ⟨w.heap.size, 4, none⟩ = some (.int .i64 s2) ∧ W.cell? ⟨w.heap.size, 5, none⟩ = some (.slice a2 n2 c2) ∧ W.cell? ⟨w.heap.size, 6, none⟩ = some (.int .i64 1) ∧ W.cell? ⟨w.heap.size, 7, none⟩ = some (.slice b2 m2 d2))
        (first | (with_reducible exact e0) | (with_reducible exact e1) | (with_reducible exact e2) | (with_reducible exact e3) | (with_reducible exact e4))
        (((first | go_at_call 25 | go_at_call 16 | (rw [if_pos (by rfl)]; go_simp) | skip); (first
            | (have hG := N3; clear hG; go_at_call 25; (with_reducible refine (same_fo (r := true) PN3_1.out PN3_2.out PN3_3.out PN3_4.out HSB.out).mono ?_); rintro e y20_3 ⟨rfl, hb⟩; have N4 := Lib.hid (N3.out.later hb); clear hb; have e4 := KK.out _ _ N4.out)
            | (have hG := N2; clear hG; go_at_call 16; (with_reducible refine (p10inside_k (r := true) PN2_1.out L1.out PN2_2.out L2.out PN2_3.out L3.out PN2_4.out L4.out HXY.out HPQ.out HAB.out).mono ?_); rintro e y20_2 ⟨rfl, hb⟩; have N3 := Lib.hid (N2.out.later hb); clear hb; have e3 := KK.out _ _ N3.out; have PN3_1 := Lib.hid (N3.out.fr (v := .slice c17.a c17.n c17.c) (u := .slice c17.b c17.m c17.d) (r := (rmin x p)) mq0 mq1 EC17.out); have PN3_2 := Lib.hid (N3.out.fr (v := .slice d17.a d17.n d17.c) (u := .slice d17.b d17.m d17.d) (r := (rmax y q)) mq2 mq3 ED17.out); have PN3_3 := Lib.hid (N3.out.fr (v := .slice a3 n3 c3) (u := .slice b3 m3 d3) (r := p) mq12 mq13 E3.out); have PN3_4 := Lib.hid (N3.out.fr (v := .slice a4 n4 c4) (u := .slice b4 m4 d4) (r := q) mq10 mq11 E4.out))
            | (have hG := N1; clear hG; go_at_call 16; (with_reducible refine (p10inside_k (r := true) PN1_1.out L3.out PN1_2.out L4.out PN1_3.out ZH.out.1 PN1_4.out ZH.out.2 HPQ.out HIN.out.2.2 HIN.out.2.1).mono ?_); rintro e y20_1 ⟨rfl, hb⟩; have N2 := Lib.hid (N1.out.later hb); clear hb; have e2 := KK.out _ _ N2.out; have PN2_1 := Lib.hid (N2.out.fr (v := .slice a1 n1 c1) (u := .slice b1 m1 d1) (r := x) mq16 mq17 E1.out); have PN2_2 := Lib.hid (N2.out.fr (v := .slice a2 n2 c2) (u := .slice b2 m2 d2) (r := y) mq14 mq15 E2.out); have PN2_3 := Lib.hid (N2.out.fr (v := .slice a3 n3 c3) (u := .slice b3 m3 d3) (r := p) mq12 mq13 E3.out); have PN2_4 := Lib.hid (N2.out.fr (v := .slice a4 n4 c4) (u := .slice b4 m4 d4) (r := q) mq10 mq11 E4.out))
            | (have hG := N0; clear hG; go_at_call 16; (with_reducible refine (p10inside_k (r := true) PN0_1.out L1.out PN0_2.out L2.out PN0_3.out ZH.out.1 PN0_4.out ZH.out.2 HXY.out HIN.out.2.2 HIN.out.1).mono ?_); rintro e y20_0 ⟨rfl, hb⟩; have N1 := Lib.hid (N0.out.later hb); clear hb; have e1 := KK.out _ _ N1.out; have PN1_1 := Lib.hid (N1.out.fr (v := .slice a3 n3 c3) (u := .slice b3 m3 d3) (r := p) mq12 mq13 E3.out); have PN1_2 := Lib.hid (N1.out.fr (v := .slice a4 n4 c4) (u := .slice b4 m4 d4) (r := q) mq10 mq11 E4.out); have PN1_3 := Lib.hid (N1.out.fr (v := .slice c17.a c17.n c17.c) (u := .slice c17.b c17.m c17.d) (r := (rmin x p)) mq0 mq1 EC17.out); have PN1_4 := Lib.hid (N1.out.fr (v := .slice d17.a d17.n d17.c) (u := .slice d17.b d17.m d17.d) (r := (rmax y q)) mq2 mq3 ED17.out))); (try dsimp only)))
      all_goals (go_wp2_with fail; go_meet; exact ⟨rfl, Lib.hid (Sf.facts N4.out (by simp))⟩)
  case rest =>
  obtain ⟨rfl, hq⟩ := hcut
  obtain ⟨w21, rfl⟩ : ∃ W, W = wc := ⟨_, rfl⟩
  have R21 := Lib.hid hq.out
  clear hq Q78
  go_upto_region 8 with fail
  go_cut [89] from 76 to 89 (fun u wx => u = .bool false ∧ Hid (Sf w [(w18.heap.size, 28, [.int .i64 0, .slice none 0 0, .int .i64 0, .slice none 0 0, .int .i64 0, .slice none 0 0, .int .i64 0, .slice none 0 0]), (w17.heap.size, 28, [.int .i64 c17.s, .slice c17.a c17.n c17.c, .int .i64 1, .slice c17.b c17.m c17.d, .int .i64 d17.s, .slice d17.a d17.n d17.c, .int .i64 1, .slice d17.b d17.m d17.d]), (w.heap.size + 1 + 1 + 1, 26, [.int .i64 s7, .slice a7 n7 c7, .int .i64 t7, .slice b7 m7 d7]), (w.heap.size + 1 + 1, 28, [.int .i64 s5, .slice a5 n5 c5, .int .i64 t5, .slice b5 m5 d5, .int .i64 s6, .slice a6 n6 c6, .int .i64 t6, .slice b6 m6 d6]), (w.heap.size + 1, 28, [.int .i64 s3, .slice a3 n3 c3, .int .i64 1, .slice b3 m3 d3, .int .i64 s4, .slice a4 n4 c4, .int .i64 1, .slice b4 m4 d4]), (w.heap.size, 28, [.int .i64 s1, .slice a1 n1 c1, .int .i64 1, .slice b1 m1 d1, .int .i64 s2, .slice a2 n2 c2, .int .i64 1, .slice b2 m2 d2])] [(.slice c17.a c17.n c17.c, digs ((rmin x p)).num.natAbs), (.slice c17.b c17.m c17.d, digs ((((rmin x p)).den : Int)).natAbs), (.slice d17.a d17.n d17.c, digs ((rmax y q)).num.natAbs), (.slice d17.b d17.m d17.d, digs ((((rmax y q)).den : Int)).natAbs), (.slice a7 n7 c7, l7), (.slice b7 m7 d7, k7), (.slice a6 n6 c6, l6), (.slice b6 m6 d6, k6), (.slice a5 n5 c5, l5), (.slice b5 m5 d5, k5), (.slice a4 n4 c4, digs (q).num.natAbs), (.slice b4 m4 d4, digs (((q).den : Int)).natAbs), (.slice a3 n3 c3, digs (p).num.natAbs), (.slice b3 m3 d3, digs (((p).den : Int)).natAbs), (.slice a2 n2 c2, digs (y).num.natAbs), (.slice b2 m2 d2, digs (((y).den : Int)).natAbs), (.slice a1 n1 c1, digs (x).num.natAbs), (.slice b1 m1 d1, digs (((x).den : Int)).natAbs)] wx))
  case first =>
    cases ac
    case false =>
      obtain ⟨q79, q80, q81, q82, q83, q84, q85, q86⟩ := Fb.cells8 (R21.out.box (w.heap.size + 1 + 1, 28, [.int .i64 s5, .slice a5 n5 c5, .int .i64 t5, .slice b5 m5 d5, .int .i64 s6, .slice a6 n6 c6, .int .i64 t6, .slice b6 m6 d6]) mq3)
      obtain ⟨q87, q88, q89, q90, q91, q92, q93, q94⟩ := Fb.cells8 (R21.out.box (w.heap.size, 28, [.int .i64 s1, .slice a1 n1 c1, .int .i64 1, .slice b1 m1 d1, .int .i64 s2, .slice a2 n2 c2, .int .i64 1, .slice b2 m2 d2]) mq5)
      go_wp2_with fail
      clear q79 q80 q81 q82 q83 q84 q85 q86 q87 q88 q89 q90 q91 q92 q93 q94
      refine (p10inside_any (R21.out.ints (.slice a1 n1 c1, digs (x).num.natAbs) mq16) (R21.out.ints (.slice b1 m1 d1, digs (((x).den : Int)).natAbs) mq17) (digs_le L1.out.1) (digs_le L1.out.2) (R21.out.ints (.slice a2 n2 c2, digs (y).num.natAbs) mq14) (R21.out.ints (.slice b2 m2 d2, digs (((y).den : Int)).natAbs) mq15) (digs_le L2.out.1) (digs_le L2.out.2) (R21.out.ints (.slice a5 n5 c5, l5) mq8) (R21.out.ints (.slice b5 m5 d5, k5) mq9) LL5.out LK5.out (R21.out.ints (.slice a6 n6 c6, l6) mq6) (R21.out.ints (.slice b6 m6 d6, k6) mq7) LL6.out LK6.out (r := false) (inB_lv E1.out E2.out HXY.out HAC.out)).mono ?_
      rintro e w22 ⟨rfl, hb⟩
      have R22 := Lib.hid (R21.out.later hb)
      clear hb
      go_wp2_with fail
      go_meet
      exact ⟨rfl, Lib.hid (Sf.facts R22.out (by simp))⟩
    case true =>
      obtain ⟨q95, q96, q97, q98, q99, q100, q101, q102⟩ := Fb.cells8 (R21.out.box (w.heap.size + 1 + 1, 28, [.int .i64 s5, .slice a5 n5 c5, .int .i64 t5, .slice b5 m5 d5, .int .i64 s6, .slice a6 n6 c6, .int .i64 t6, .slice b6 m6 d6]) mq3)
      obtain ⟨q103, q104, q105, q106, q107, q108, q109, q110⟩ := Fb.cells8 (R21.out.box (w.heap.size, 28, [.int .i64 s1, .slice a1 n1 c1, .int .i64 1, .slice b1 m1 d1, .int .i64 s2, .slice a2 n2 c2, .int .i64 1, .slice b2 m2 d2]) mq5)
      go_wp2_with fail
      clear q95 q96 q97 q98 q99 q100 q101 q102 q103 q104 q105 q106 q107 q108 q109 q110
      refine (p10inside_any (R21.out.ints (.slice a1 n1 c1, digs (x).num.natAbs) mq16) (R21.out.ints (.slice b1 m1 d1, digs (((x).den : Int)).natAbs) mq17) (digs_le L1.out.1) (digs_le L1.out.2) (R21.out.ints (.slice a2 n2 c2, digs (y).num.natAbs) mq14) (R21.out.ints (.slice b2 m2 d2, digs (((y).den : Int)).natAbs) mq15) (digs_le L2.out.1) (digs_le L2.out.2) (R21.out.ints (.slice a5 n5 c5, l5) mq8) (R21.out.ints (.slice b5 m5 d5, k5) mq9) LL5.out LK5.out (R21.out.ints (.slice a6 n6 c6, l6) mq6) (R21.out.ints (.slice b6 m6 d6, k6) mq7) LL6.out LK6.out (r := true) (inB_lv E1.out E2.out HXY.out HAC.out)).mono ?_
      rintro e w23 ⟨rfl, hb⟩
      have R23 := Lib.hid (R21.out.later hb)
      clear hb
      obtain ⟨q111, q112, q113, q114, q115, q116, q117, q118⟩ := Fb.cells8 (R23.out.box (w.heap.size + 1 + 1, 28, [.int .i64 s5, .slice a5 n5 c5, .int .i64 t5, .slice b5 m5 d5, .int .i64 s6, .slice a6 n6 c6, .int .i64 t6, .slice b6 m6 d6]) mq3)
      obtain ⟨q119, q120, q121, q122, q123, q124, q125, q126⟩ := Fb.cells8 (R23.out.box (w.heap.size + 1, 28, [.int .i64 s3, .slice a3 n3 c3, .int .i64 1, .slice b3 m3 d3, .int .i64 s4, .slice a4 n4 c4, .int .i64 1, .slice b4 m4 d4]) mq4)
      go_wp2_with fail
      cases bc
      case false =>
        clear q111 q112 q113 q114 q115 q116 q117 q118 q119 q120 q121 q122 q123 q124 q125 q126
        refine (p10inside_any (R23.out.ints (.slice a3 n3 c3, digs (p).num.natAbs) mq12) (R23.out.ints (.slice b3 m3 d3, digs (((p).den : Int)).natAbs) mq13) (digs_le L3.out.1) (digs_le L3.out.2) (R23.out.ints (.slice a4 n4 c4, digs (q).num.natAbs) mq10) (R23.out.ints (.slice b4 m4 d4, digs (((q).den : Int)).natAbs) mq11) (digs_le L4.out.1) (digs_le L4.out.2) (R23.out.ints (.slice a5 n5 c5, l5) mq8) (R23.out.ints (.slice b5 m5 d5, k5) mq9) LL5.out LK5.out (R23.out.ints (.slice a6 n6 c6, l6) mq6) (R23.out.ints (.slice b6 m6 d6, k6) mq7) LL6.out LK6.out (r := false) (inB_lv E3.out E4.out HPQ.out HBC.out)).mono ?_
        rintro e w24 ⟨rfl, hb⟩
        have R24 := Lib.hid (R23.out.later hb)
        clear hb
        go_wp2_with fail
        go_meet
        exact ⟨rfl, Lib.hid (Sf.facts R24.out (by simp))⟩
      case true =>
        refine (p10inside_any (R23.out.ints (.slice a3 n3 c3, digs (p).num.natAbs) mq12) (R23.out.ints (.slice b3 m3 d3, digs (((p).den : Int)).natAbs) mq13) (digs_le L3.out.1) (digs_le L3.out.2) (R23.out.ints (.slice a4 n4 c4, digs (q).num.natAbs) mq10) (R23.out.ints (.slice b4 m4 d4, digs (((q).den : Int)).natAbs) mq11) (digs_le L4.out.1) (digs_le L4.out.2) (R23.out.ints (.slice a5 n5 c5, l5) mq8) (R23.out.ints (.slice b5 m5 d5, k5) mq9) LL5.out LK5.out (R23.out.ints (.slice a6 n6 c6, l6) mq6) (R23.out.ints (.slice b6 m6 d6, k6) mq7) LL6.out LK6.out (r := true) (inB_lv E3.out E4.out HPQ.out HBC.out)).mono ?_
        rintro e w25 ⟨rfl, hb⟩
        have R25 := Lib.hid (R23.out.later hb)
        clear hb
        obtain rfl : hc = true := by have := HABC.out; simpa using this
        obtain ⟨q127, q128, q129, q130, q131, q132, q133, q134⟩ := Fb.cells8 (R25.out.box (w17.heap.size, 28, [.int .i64 c17.s, .slice c17.a c17.n c17.c, .int .i64 1, .slice c17.b c17.m c17.d, .int .i64 d17.s, .slice d17.a d17.n d17.c, .int .i64 1, .slice d17.b d17.m d17.d]) mq1)
        obtain ⟨q135, q136, q137, q138, q139, q140, q141, q142⟩ := Fb.cells8 (R25.out.box (w.heap.size + 1 + 1, 28, [.int .i64 s5, .slice a5 n5 c5, .int .i64 t5, .slice b5 m5 d5, .int .i64 s6, .slice a6 n6 c6, .int .i64 t6, .slice b6 m6 d6]) mq3)
        go_wp2_with fail
        clear q127 q128 q129 q130 q131 q132 q133 q134 q135 q136 q137 q138 q139 q140 q141 q142
        refine (p10inside_any (R25.out.ints (.slice c17.a c17.n c17.c, digs ((rmin x p)).num.natAbs) mq0) (R25.out.ints (.slice c17.b c17.m c17.d, digs ((((rmin x p)).den : Int)).natAbs) mq1) (digs_le ZH.out.1.1) (digs_le ZH.out.1.2) (R25.out.ints (.slice d17.a d17.n d17.c, digs ((rmax y q)).num.natAbs) mq2) (R25.out.ints (.slice d17.b d17.m d17.d, digs ((((rmax y q)).den : Int)).natAbs) mq3) (digs_le ZH.out.2.1) (digs_le ZH.out.2.2) (R25.out.ints (.slice a5 n5 c5, l5) mq8) (R25.out.ints (.slice b5 m5 d5, k5) mq9) LL5.out LK5.out (R25.out.ints (.slice a6 n6 c6, l6) mq6) (R25.out.ints (.slice b6 m6 d6, k6) mq7) LL6.out LK6.out (r := true) (inB_lv EC17.out ED17.out HIN.out.2.2 HHC.out)).mono ?_
        rintro e w26 ⟨rfl, hb⟩
        have R26 := Lib.hid (R25.out.later hb)
        clear hb
        go_wp2_with fail
        go_meet
        exact ⟨rfl, Lib.hid (Sf.facts R26.out (by simp))⟩
  case rest =>
  obtain ⟨rfl, hq⟩ := hcut
  obtain ⟨w27, rfl⟩ : ∃ W, W = wc := ⟨_, rfl⟩
  have R27 := Lib.hid hq.out
  clear hq R21
  go_upto_region 10 with fail
  go_cut [14] from 90 to 97 (fun u wx => u = .bool (fa && fb) ∧ Hid (Sf w [(w18.heap.size, 28, [.int .i64 0, .slice none 0 0, .int .i64 0, .slice none 0 0, .int .i64 0, .slice none 0 0, .int .i64 0, .slice none 0 0]), (w17.heap.size, 28, [.int .i64 c17.s, .slice c17.a c17.n c17.c, .int .i64 1, .slice c17.b c17.m c17.d, .int .i64 d17.s, .slice d17.a d17.n d17.c, .int .i64 1, .slice d17.b d17.m d17.d]), (w.heap.size + 1 + 1 + 1, 26, [.int .i64 s7, .slice a7 n7 c7, .int .i64 t7, .slice b7 m7 d7]), (w.heap.size + 1 + 1, 28, [.int .i64 s5, .slice a5 n5 c5, .int .i64 t5, .slice b5 m5 d5, .int .i64 s6, .slice a6 n6 c6, .int .i64 t6, .slice b6 m6 d6]), (w.heap.size + 1, 28, [.int .i64 s3, .slice a3 n3 c3, .int .i64 1, .slice b3 m3 d3, .int .i64 s4, .slice a4 n4 c4, .int .i64 1, .slice b4 m4 d4]), (w.heap.size, 28, [.int .i64 s1, .slice a1 n1 c1, .int .i64 1, .slice b1 m1 d1, .int .i64 s2, .slice a2 n2 c2, .int .i64 1, .slice b2 m2 d2])] [(.slice c17.a c17.n c17.c, digs ((rmin x p)).num.natAbs), (.slice c17.b c17.m c17.d, digs ((((rmin x p)).den : Int)).natAbs), (.slice d17.a d17.n d17.c, digs ((rmax y q)).num.natAbs), (.slice d17.b d17.m d17.d, digs ((((rmax y q)).den : Int)).natAbs), (.slice a7 n7 c7, l7), (.slice b7 m7 d7, k7), (.slice a6 n6 c6, l6), (.slice b6 m6 d6, k6), (.slice a5 n5 c5, l5), (.slice b5 m5 d5, k5), (.slice a4 n4 c4, digs (q).num.natAbs), (.slice b4 m4 d4, digs (((q).den : Int)).natAbs), (.slice a3 n3 c3, digs (p).num.natAbs), (.slice b3 m3 d3, digs (((p).den : Int)).natAbs), (.slice a2 n2 c2, digs (y).num.natAbs), (.slice b2 m2 d2, digs (((y).den : Int)).natAbs), (.slice a1 n1 c1, digs (x).num.natAbs), (.slice b1 m1 d1, digs (((x).den : Int)).natAbs)] wx))
  case first =>
    cases fa
    case false =>
      obtain ⟨q143, q144, q145, q146⟩ := Fb.cells4 (R27.out.box (w.heap.size + 1 + 1 + 1, 26, [.int .i64 s7, .slice a7 n7 c7, .int .i64 t7, .slice b7 m7 d7]) mq2)
      obtain ⟨q147, q148, q149, q150, q151, q152, q153, q154⟩ := Fb.cells8 (R27.out.box (w.heap.size, 28, [.int .i64 s1, .slice a1 n1 c1, .int .i64 1, .slice b1 m1 d1, .int .i64 s2, .slice a2 n2 c2, .int .i64 1, .slice b2 m2 d2]) mq5)
      go_wp2_with fail
      clear q143 q144 q145 q146 q147 q148 q149 q150 q151 q152 q153 q154
      refine (p10has_any (R27.out.ints (.slice a1 n1 c1, digs (x).num.natAbs) mq16) (R27.out.ints (.slice b1 m1 d1, digs (((x).den : Int)).natAbs) mq17) (digs_le L1.out.1) (digs_le L1.out.2) (R27.out.ints (.slice a2 n2 c2, digs (y).num.natAbs) mq14) (R27.out.ints (.slice b2 m2 d2, digs (((y).den : Int)).natAbs) mq15) (digs_le L2.out.1) (digs_le L2.out.2) (R27.out.ints (.slice a7 n7 c7, l7) mq4) (R27.out.ints (.slice b7 m7 d7, k7) mq5) LL7.out LK7.out (r := false) (hasB_lv E1.out E2.out HXY.out HFA.out)).mono ?_
      rintro e w28 ⟨rfl, hb⟩
      have R28 := Lib.hid (R27.out.later hb)
      clear hb
      go_wp2_with fail
      go_meet
      exact ⟨rfl, Lib.hid (Sf.facts R28.out (by simp))⟩
    case true =>
      obtain ⟨q155, q156, q157, q158⟩ := Fb.cells4 (R27.out.box (w.heap.size + 1 + 1 + 1, 26, [.int .i64 s7, .slice a7 n7 c7, .int .i64 t7, .slice b7 m7 d7]) mq2)
      obtain ⟨q159, q160, q161, q162, q163, q164, q165, q166⟩ := Fb.cells8 (R27.out.box (w.heap.size, 28, [.int .i64 s1, .slice a1 n1 c1, .int .i64 1, .slice b1 m1 d1, .int .i64 s2, .slice a2 n2 c2, .int .i64 1, .slice b2 m2 d2]) mq5)
      go_wp2_with fail
      clear q155 q156 q157 q158 q159 q160 q161 q162 q163 q164 q165 q166
      refine (p10has_any (R27.out.ints (.slice a1 n1 c1, digs (x).num.natAbs) mq16) (R27.out.ints (.slice b1 m1 d1, digs (((x).den : Int)).natAbs) mq17) (digs_le L1.out.1) (digs_le L1.out.2) (R27.out.ints (.slice a2 n2 c2, digs (y).num.natAbs) mq14) (R27.out.ints (.slice b2 m2 d2, digs (((y).den : Int)).natAbs) mq15) (digs_le L2.out.1) (digs_le L2.out.2) (R27.out.ints (.slice a7 n7 c7, l7) mq4) (R27.out.ints (.slice b7 m7 d7, k7) mq5) LL7.out LK7.out (r := true) (hasB_lv E1.out E2.out HXY.out HFA.out)).mono ?_
      rintro e w29 ⟨rfl, hb⟩
      have R29 := Lib.hid (R27.out.later hb)
      clear hb
      obtain ⟨q167, q168, q169, q170⟩ := Fb.cells4 (R29.out.box (w.heap.size + 1 + 1 + 1, 26, [.int .i64 s7, .slice a7 n7 c7, .int .i64 t7, .slice b7 m7 d7]) mq2)
      obtain ⟨q171, q172, q173, q174, q175, q176, q177, q178⟩ := Fb.cells8 (R29.out.box (w.heap.size + 1, 28, [.int .i64 s3, .slice a3 n3 c3, .int .i64 1, .slice b3 m3 d3, .int .i64 s4, .slice a4 n4 c4, .int .i64 1, .slice b4 m4 d4]) mq4)
      go_wp2_with fail
      clear q167 q168 q169 q170 q171 q172 q173 q174 q175 q176 q177 q178
      refine (p10has_any (R29.out.ints (.slice a3 n3 c3, digs (p).num.natAbs) mq12) (R29.out.ints (.slice b3 m3 d3, digs (((p).den : Int)).natAbs) mq13) (digs_le L3.out.1) (digs_le L3.out.2) (R29.out.ints (.slice a4 n4 c4, digs (q).num.natAbs) mq10) (R29.out.ints (.slice b4 m4 d4, digs (((q).den : Int)).natAbs) mq11) (digs_le L4.out.1) (digs_le L4.out.2) (R29.out.ints (.slice a7 n7 c7, l7) mq4) (R29.out.ints (.slice b7 m7 d7, k7) mq5) LL7.out LK7.out (r := fb) (hasB_lv E3.out E4.out HPQ.out HFB.out)).mono ?_
      rintro e w30 ⟨rfl, hb⟩
      have R30 := Lib.hid (R29.out.later hb)
      clear hb
      go_wp2_with fail
      go_meet
      exact ⟨rfl, Lib.hid (Sf.facts R30.out (by simp))⟩
  case rest =>
  obtain ⟨rfl, hq⟩ := hcut
  obtain ⟨w31, rfl⟩ : ∃ W, W = wc := ⟨_, rfl⟩
  have R31 := Lib.hid hq.out
  clear hq R27
  rw [GF2.out]
  go_upto_region 12 with fail
  cases ca
  case false =>
    obtain ⟨q179, q180, q181, q182, q183, q184, q185, q186⟩ := Fb.cells8 (R31.out.box (w.heap.size + 1 + 1, 28, [.int .i64 s5, .slice a5 n5 c5, .int .i64 t5, .slice b5 m5 d5, .int .i64 s6, .slice a6 n6 c6, .int .i64 t6, .slice b6 m6 d6]) mq3)
    obtain ⟨q187, q188, q189, q190, q191, q192, q193, q194⟩ := Fb.cells8 (R31.out.box (w.heap.size, 28, [.int .i64 s1, .slice a1 n1 c1, .int .i64 1, .slice b1 m1 d1, .int .i64 s2, .slice a2 n2 c2, .int .i64 1, .slice b2 m2 d2]) mq5)
    go_wp2_with fail
    clear q179 q180 q181 q182 q183 q184 q185 q186 q187 q188 q189 q190 q191 q192 q193 q194
    refine (p10inside_any (R31.out.ints (.slice a5 n5 c5, l5) mq8) (R31.out.ints (.slice b5 m5 d5, k5) mq9) LL5.out LK5.out (R31.out.ints (.slice a6 n6 c6, l6) mq6) (R31.out.ints (.slice b6 m6 d6, k6) mq7) LL6.out LK6.out (R31.out.ints (.slice a1 n1 c1, digs (x).num.natAbs) mq16) (R31.out.ints (.slice b1 m1 d1, digs (((x).den : Int)).natAbs) mq17) (digs_le L1.out.1) (digs_le L1.out.2) (R31.out.ints (.slice a2 n2 c2, digs (y).num.natAbs) mq14) (R31.out.ints (.slice b2 m2 d2, digs (((y).den : Int)).natAbs) mq15) (digs_le L2.out.1) (digs_le L2.out.2) (r := false) (inB_rv E1.out E2.out HXY.out HCA.out)).mono ?_
    rintro e w32 ⟨rfl, hb⟩
    have R32 := Lib.hid (R31.out.later hb)
    clear hb
    go_wp2_with fail
    go_ret
    exact ⟨rfl, R32.out.below⟩
  case true =>
    obtain rfl : cb = false := by have := GC2.out; simpa using this
    obtain ⟨q195, q196, q197, q198, q199, q200, q201, q202⟩ := Fb.cells8 (R31.out.box (w.heap.size + 1 + 1, 28, [.int .i64 s5, .slice a5 n5 c5, .int .i64 t5, .slice b5 m5 d5, .int .i64 s6, .slice a6 n6 c6, .int .i64 t6, .slice b6 m6 d6]) mq3)
    obtain ⟨q203, q204, q205, q206, q207, q208, q209, q210⟩ := Fb.cells8 (R31.out.box (w.heap.size, 28, [.int .i64 s1, .slice a1 n1 c1, .int .i64 1, .slice b1 m1 d1, .int .i64 s2, .slice a2 n2 c2, .int .i64 1, .slice b2 m2 d2]) mq5)
    go_wp2_with fail
    clear q195 q196 q197 q198 q199 q200 q201 q202 q203 q204 q205 q206 q207 q208 q209 q210
    refine (p10inside_any (R31.out.ints (.slice a5 n5 c5, l5) mq8) (R31.out.ints (.slice b5 m5 d5, k5) mq9) LL5.out LK5.out (R31.out.ints (.slice a6 n6 c6, l6) mq6) (R31.out.ints (.slice b6 m6 d6, k6) mq7) LL6.out LK6.out (R31.out.ints (.slice a1 n1 c1, digs (x).num.natAbs) mq16) (R31.out.ints (.slice b1 m1 d1, digs (((x).den : Int)).natAbs) mq17) (digs_le L1.out.1) (digs_le L1.out.2) (R31.out.ints (.slice a2 n2 c2, digs (y).num.natAbs) mq14) (R31.out.ints (.slice b2 m2 d2, digs (((y).den : Int)).natAbs) mq15) (digs_le L2.out.1) (digs_le L2.out.2) (r := true) (inB_rv E1.out E2.out HXY.out HCA.out)).mono ?_
    rintro e w33 ⟨rfl, hb⟩
    have R33 := Lib.hid (R31.out.later hb)
    clear hb
    obtain ⟨q211, q212, q213, q214, q215, q216, q217, q218⟩ := Fb.cells8 (R33.out.box (w.heap.size + 1 + 1, 28, [.int .i64 s5, .slice a5 n5 c5, .int .i64 t5, .slice b5 m5 d5, .int .i64 s6, .slice a6 n6 c6, .int .i64 t6, .slice b6 m6 d6]) mq3)
    obtain ⟨q219, q220, q221, q222, q223, q224, q225, q226⟩ := Fb.cells8 (R33.out.box (w.heap.size + 1, 28, [.int .i64 s3, .slice a3 n3 c3, .int .i64 1, .slice b3 m3 d3, .int .i64 s4, .slice a4 n4 c4, .int .i64 1, .slice b4 m4 d4]) mq4)
    go_wp2_with fail
    clear q211 q212 q213 q214 q215 q216 q217 q218 q219 q220 q221 q222 q223 q224 q225 q226
    refine (p10inside_any (R33.out.ints (.slice a5 n5 c5, l5) mq8) (R33.out.ints (.slice b5 m5 d5, k5) mq9) LL5.out LK5.out (R33.out.ints (.slice a6 n6 c6, l6) mq6) (R33.out.ints (.slice b6 m6 d6, k6) mq7) LL6.out LK6.out (R33.out.ints (.slice a3 n3 c3, digs (p).num.natAbs) mq12) (R33.out.ints (.slice b3 m3 d3, digs (((p).den : Int)).natAbs) mq13) (digs_le L3.out.1) (digs_le L3.out.2) (R33.out.ints (.slice a4 n4 c4, digs (q).num.natAbs) mq10) (R33.out.ints (.slice b4 m4 d4, digs (((q).den : Int)).natAbs) mq11) (digs_le L4.out.1) (digs_le L4.out.2) (r := false) (inB_rv E3.out E4.out HPQ.out HCB.out)).mono ?_
    rintro e w34 ⟨rfl, hb⟩
    have R34 := Lib.hid (R33.out.later hb)
    clear hb
    go_wp2_with fail
    go_ret
    exact ⟨rfl, R34.out.below⟩
end Go.Proofs.Ytgncnkojpedmdaa.Sp
