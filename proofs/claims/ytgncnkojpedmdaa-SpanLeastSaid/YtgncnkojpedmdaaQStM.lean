/- The law SpanLeast. -/
import Derived.Test.YtgncnkojpedmdaaPA27
import Derived.Test.YtgncnkojpedmdaaPA28
import Derived.Test.YtgncnkojpedmdaaPA29
import Derived.Test.YtgncnkojpedmdaaPA30
import Derived.Test.YtgncnkojpedmdaaLaw
import Derived.Test.YtgncnkojpedmdaaRows
import Derived.ProofKit
set_option maxRecDepth 100000
namespace Go.Proofs.Ytgncnkojpedmdaa.Sp
open Go.RowKit Bi

set_option maxHeartbeats 8000000 in
theorem least_no {w : World} {s1 t1 : Int} {a1 b1 : Option Addr} {n1 c1 m1 d1 : Nat} {s2 t2 : Int} {a2 b2 : Option Addr} {n2 c2 m2 d2 : Nat} {s3 t3 : Int} {a3 b3 : Option Addr} {n3 c3 m3 d3 : Nat} {s4 t4 : Int} {a4 b4 : Option Addr} {n4 c4 m4 d4 : Nat} {s5 t5 : Int} {a5 b5 : Option Addr} {n5 c5 m5 d5 : Nat} {s6 t6 : Int} {a6 b6 : Option Addr} {n6 c6 m6 d6 : Nat} (hn1 : n1 ≤ 9223372036854775807) (hm1 : m1 ≤ 9223372036854775807) (hn2 : n2 ≤ 9223372036854775807) (hm2 : m2 ≤ 9223372036854775807) (hn3 : n3 ≤ 9223372036854775807) (hm3 : m3 ≤ 9223372036854775807) (hn4 : n4 ≤ 9223372036854775807) (hm4 : m4 ≤ 9223372036854775807) (hn5 : n5 ≤ 9223372036854775807) (hm5 : m5 ≤ 9223372036854775807) (hn6 : n6 ≤ 9223372036854775807) (hm6 : m6 ≤ 9223372036854775807) (hno : ((((decide ((n1 : Int) ≤ 4) && decide ((m1 : Int) ≤ 4)) && (decide ((n2 : Int) ≤ 4) && decide ((m2 : Int) ≤ 4))) && ((decide ((n3 : Int) ≤ 4) && decide ((m3 : Int) ≤ 4)) && (decide ((n4 : Int) ≤ 4) && decide ((m4 : Int) ≤ 4)))) && ((decide ((n5 : Int) ≤ 4) && decide ((m5 : Int) ≤ 4)) && (decide ((n6 : Int) ≤ 4) && decide ((m6 : Int) ≤ 4)))) = false) :
    Calls Try.prog 3 #[.agg #[.int .i64 s1, .slice a1 n1 c1, .int .i64 t1, .slice b1 m1 d1, .int .i64 s2, .slice a2 n2 c2, .int .i64 t2, .slice b2 m2 d2], .agg #[.int .i64 s3, .slice a3 n3 c3, .int .i64 t3, .slice b3 m3 d3, .int .i64 s4, .slice a4 n4 c4, .int .i64 t4, .slice b4 m4 d4], .agg #[.int .i64 s5, .slice a5 n5 c5, .int .i64 t5, .slice b5 m5 d5], .agg #[.int .i64 s6, .slice a6 n6 c6, .int .i64 t6, .slice b6 m6 d6]] w fun e w' => e = .returned (.bool true) ∧ RowKit.Below w.heap.size w w' := by
  have MN1 := Lib.hid hn1
  have MM1 := Lib.hid hm1
  have MN2 := Lib.hid hn2
  have MM2 := Lib.hid hm2
  have MN3 := Lib.hid hn3
  have MM3 := Lib.hid hm3
  have MN4 := Lib.hid hn4
  have MM4 := Lib.hid hm4
  have MN5 := Lib.hid hn5
  have MM5 := Lib.hid hm5
  have MN6 := Lib.hid hn6
  have MM6 := Lib.hid hm6
  obtain ⟨r0, hr0⟩ : ∃ r, (((decide ((n1 : Int) ≤ 4) && decide ((m1 : Int) ≤ 4)) && (decide ((n2 : Int) ≤ 4) && decide ((m2 : Int) ≤ 4))) && ((decide ((n3 : Int) ≤ 4) && decide ((m3 : Int) ≤ 4)) && (decide ((n4 : Int) ≤ 4) && decide ((m4 : Int) ≤ 4)))) = r := ⟨_, rfl⟩
  have HT0 := Lib.hid hr0
  obtain ⟨r1, hr1⟩ : ∃ r, (decide ((n5 : Int) ≤ 4) && decide ((m5 : Int) ≤ 4)) = r := ⟨_, rfl⟩
  have HT1 := Lib.hid hr1
  obtain ⟨r2, hr2⟩ : ∃ r, (decide ((n6 : Int) ≤ 4) && decide ((m6 : Int) ≤ 4)) = r := ⟨_, rfl⟩
  have HT2 := Lib.hid hr2
  rw [hr0, hr1, hr2] at hno
  have HNO := Lib.hid hno
  clear hno hn1 hm1 hn2 hm2 hn3 hm3 hn4 hm4 hn5 hm5 hn6 hm6 hr0 hr1 hr2
  have s0 := (((((Sf.start w).put [.int .i64 s1, .slice a1 n1 c1, .int .i64 t1, .slice b1 m1 d1, .int .i64 s2, .slice a2 n2 c2, .int .i64 t2, .slice b2 m2 d2] 28).put [.int .i64 s3, .slice a3 n3 c3, .int .i64 t3, .slice b3 m3 d3, .int .i64 s4, .slice a4 n4 c4, .int .i64 t4, .slice b4 m4 d4] 28).put [.int .i64 s5, .slice a5 n5 c5, .int .i64 t5, .slice b5 m5 d5] 26).put [.int .i64 s6, .slice a6 n6 c6, .int .i64 t6, .slice b6 m6 d6] 26)
  try simp only [World.size_alloc] at s0
  have S0 := Lib.hid s0
  clear s0
  go_enter Try.func3, Try.ntmps3
  go_wp2_with fail
  refine (r10small).mono ?_
  rintro e w11 ⟨rfl, hb⟩
  have R11 := Lib.hid (S0.out.later hb)
  clear hb
  obtain ⟨q1, q2, q3, q4, q5, q6, q7, q8⟩ := Fb.cells8 (R11.out.box (w.heap.size + 1, 28, [.int .i64 s3, .slice a3 n3 c3, .int .i64 t3, .slice b3 m3 d3, .int .i64 s4, .slice a4 n4 c4, .int .i64 t4, .slice b4 m4 d4]) mq2)
  obtain ⟨q9, q10, q11, q12, q13, q14, q15, q16⟩ := Fb.cells8 (R11.out.box (w.heap.size, 28, [.int .i64 s1, .slice a1 n1 c1, .int .i64 t1, .slice b1 m1 d1, .int .i64 s2, .slice a2 n2 c2, .int .i64 t2, .slice b2 m2 d2]) mq3)
  go_wp2_with fail
  clear q1 q2 q3 q4 q5 q6 q7 q8 q9 q10 q11 q12 q13 q14 q15 q16
  refine (l10few (s1 := s1) (t1 := t1) (a1 := a1) (b1 := b1) (c1 := c1) (d1 := d1) (s2 := s2) (t2 := t2) (a2 := a2) (b2 := b2) (c2 := c2) (d2 := d2) (s3 := s3) (t3 := t3) (a3 := a3) (b3 := b3) (c3 := c3) (d3 := d3) (s4 := s4) (t4 := t4) (a4 := a4) (b4 := b4) (c4 := c4) (d4 := d4) MN1.out MM1.out MN2.out MM2.out MN3.out MM3.out MN4.out MM4.out HT0.out).mono ?_
  rintro e w12 ⟨rfl, hb⟩
  have R12 := Lib.hid (R11.out.later hb)
  clear hb
  cases r0
  case false =>
    go_wp2_with fail
    go_ret
    exact ⟨rfl, R12.out.below⟩
  obtain ⟨q17, q18, q19, q20⟩ := Fb.cells4 (R12.out.box (w.heap.size + 1 + 1, 26, [.int .i64 s5, .slice a5 n5 c5, .int .i64 t5, .slice b5 m5 d5]) mq1)
  go_wp2_with fail
  clear q17 q18 q19 q20
  refine (ffew_len s5 a5 n5 c5 t5 b5 m5 d5 4 _ MN5.out MM5.out _ HT1.out).mono ?_
  rintro e w13 ⟨rfl, hb⟩
  have R13 := Lib.hid (R12.out.later hb)
  clear hb
  cases r1
  case false =>
    go_wp2_with fail
    go_ret
    exact ⟨rfl, R13.out.below⟩
  obtain ⟨q21, q22, q23, q24⟩ := Fb.cells4 (R13.out.box (w.heap.size + 1 + 1 + 1, 26, [.int .i64 s6, .slice a6 n6 c6, .int .i64 t6, .slice b6 m6 d6]) mq0)
  go_wp2_with fail
  clear q21 q22 q23 q24
  refine (ffew_len s6 a6 n6 c6 t6 b6 m6 d6 4 _ MN6.out MM6.out _ HT2.out).mono ?_
  rintro e w14 ⟨rfl, hb⟩
  have R14 := Lib.hid (R13.out.later hb)
  clear hb
  cases r2
  case false =>
    go_wp2_with fail
    go_ret
    exact ⟨rfl, R14.out.below⟩
  exact absurd HNO.out (by decide)

set_option maxHeartbeats 8000000 in
theorem least_bad {w : World} {s1 t1 : Int} {a1 b1 : Option Addr} {n1 c1 m1 d1 : Nat} {l1 k1 : List Int} {s2 t2 : Int} {a2 b2 : Option Addr} {n2 c2 m2 d2 : Nat} {l2 k2 : List Int} {s3 t3 : Int} {a3 b3 : Option Addr} {n3 c3 m3 d3 : Nat} {l3 k3 : List Int} {s4 t4 : Int} {a4 b4 : Option Addr} {n4 c4 m4 d4 : Nat} {l4 k4 : List Int} {s5 t5 : Int} {a5 b5 : Option Addr} {n5 c5 m5 d5 : Nat} {l5 k5 : List Int} {s6 t6 : Int} {a6 b6 : Option Addr} {n6 c6 m6 d6 : Nat} {l6 k6 : List Int} (hl1 : Ints w (.slice a1 n1 c1) l1) (hk1 : Ints w (.slice b1 m1 d1) k1) (hn1 : n1 ≤ 4) (hm1 : m1 ≤ 4) (el1 : l1.length = n1) (ek1 : k1.length = m1) (hl2 : Ints w (.slice a2 n2 c2) l2) (hk2 : Ints w (.slice b2 m2 d2) k2) (hn2 : n2 ≤ 4) (hm2 : m2 ≤ 4) (el2 : l2.length = n2) (ek2 : k2.length = m2) (hl3 : Ints w (.slice a3 n3 c3) l3) (hk3 : Ints w (.slice b3 m3 d3) k3) (hn3 : n3 ≤ 4) (hm3 : m3 ≤ 4) (el3 : l3.length = n3) (ek3 : k3.length = m3) (hl4 : Ints w (.slice a4 n4 c4) l4) (hk4 : Ints w (.slice b4 m4 d4) k4) (hn4 : n4 ≤ 4) (hm4 : m4 ≤ 4) (el4 : l4.length = n4) (ek4 : k4.length = m4) (hl5 : Ints w (.slice a5 n5 c5) l5) (hk5 : Ints w (.slice b5 m5 d5) k5) (hn5 : n5 ≤ 4) (hm5 : m5 ≤ 4) (el5 : l5.length = n5) (ek5 : k5.length = m5) (hl6 : Ints w (.slice a6 n6 c6) l6) (hk6 : Ints w (.slice b6 m6 d6) k6) (hn6 : n6 ≤ 4) (hm6 : m6 ≤ 4) (el6 : l6.length = n6) (ek6 : k6.length = m6) (hno : (hasB s1 l1 t1 k1 s2 l2 t2 k2 s5 l5 t5 k5 && hasB s3 l3 t3 k3 s4 l4 t4 k4 s6 l6 t6 k6) = false) :
    Calls Try.prog 3 #[.agg #[.int .i64 s1, .slice a1 n1 c1, .int .i64 t1, .slice b1 m1 d1, .int .i64 s2, .slice a2 n2 c2, .int .i64 t2, .slice b2 m2 d2], .agg #[.int .i64 s3, .slice a3 n3 c3, .int .i64 t3, .slice b3 m3 d3, .int .i64 s4, .slice a4 n4 c4, .int .i64 t4, .slice b4 m4 d4], .agg #[.int .i64 s5, .slice a5 n5 c5, .int .i64 t5, .slice b5 m5 d5], .agg #[.int .i64 s6, .slice a6 n6 c6, .int .i64 t6, .slice b6 m6 d6]] w fun e w' => e = .returned (.bool true) ∧ RowKit.Below w.heap.size w w' := by
  have MN1 : Hid (n1 ≤ 9223372036854775807) := Lib.hid (by omega)
  have MM1 : Hid (m1 ≤ 9223372036854775807) := Lib.hid (by omega)
  have LL1 : Hid (l1.length ≤ 1000) := Lib.hid (by omega)
  have LK1 : Hid (k1.length ≤ 1000) := Lib.hid (by omega)
  have MN2 : Hid (n2 ≤ 9223372036854775807) := Lib.hid (by omega)
  have MM2 : Hid (m2 ≤ 9223372036854775807) := Lib.hid (by omega)
  have LL2 : Hid (l2.length ≤ 1000) := Lib.hid (by omega)
  have LK2 : Hid (k2.length ≤ 1000) := Lib.hid (by omega)
  have MN3 : Hid (n3 ≤ 9223372036854775807) := Lib.hid (by omega)
  have MM3 : Hid (m3 ≤ 9223372036854775807) := Lib.hid (by omega)
  have LL3 : Hid (l3.length ≤ 1000) := Lib.hid (by omega)
  have LK3 : Hid (k3.length ≤ 1000) := Lib.hid (by omega)
  have MN4 : Hid (n4 ≤ 9223372036854775807) := Lib.hid (by omega)
  have MM4 : Hid (m4 ≤ 9223372036854775807) := Lib.hid (by omega)
  have LL4 : Hid (l4.length ≤ 1000) := Lib.hid (by omega)
  have LK4 : Hid (k4.length ≤ 1000) := Lib.hid (by omega)
  have MN5 : Hid (n5 ≤ 9223372036854775807) := Lib.hid (by omega)
  have MM5 : Hid (m5 ≤ 9223372036854775807) := Lib.hid (by omega)
  have LL5 : Hid (l5.length ≤ 1000) := Lib.hid (by omega)
  have LK5 : Hid (k5.length ≤ 1000) := Lib.hid (by omega)
  have MN6 : Hid (n6 ≤ 9223372036854775807) := Lib.hid (by omega)
  have MM6 : Hid (m6 ≤ 9223372036854775807) := Lib.hid (by omega)
  have LL6 : Hid (l6.length ≤ 1000) := Lib.hid (by omega)
  have LK6 : Hid (k6.length ≤ 1000) := Lib.hid (by omega)
  have HF0 : Hid ((((decide ((n1 : Int) ≤ 4) && decide ((m1 : Int) ≤ 4)) && (decide ((n2 : Int) ≤ 4) && decide ((m2 : Int) ≤ 4))) && ((decide ((n3 : Int) ≤ 4) && decide ((m3 : Int) ≤ 4)) && (decide ((n4 : Int) ≤ 4) && decide ((m4 : Int) ≤ 4)))) = true) := Lib.hid (by simp; omega)
  have HF1 : Hid ((decide ((n5 : Int) ≤ 4) && decide ((m5 : Int) ≤ 4)) = true) := Lib.hid (by simp; omega)
  have HF2 : Hid ((decide ((n6 : Int) ≤ 4) && decide ((m6 : Int) ≤ 4)) = true) := Lib.hid (by simp; omega)
  obtain ⟨r0, hr0⟩ : ∃ r, hasB s1 l1 t1 k1 s2 l2 t2 k2 s5 l5 t5 k5 = r := ⟨_, rfl⟩
  have HT0 := Lib.hid hr0
  obtain ⟨r1, hr1⟩ : ∃ r, hasB s3 l3 t3 k3 s4 l4 t4 k4 s6 l6 t6 k6 = r := ⟨_, rfl⟩
  have HT1 := Lib.hid hr1
  rw [hr0, hr1] at hno
  have HNO := Lib.hid hno
  have s0 := (((((((((((((((((Sf.start w).arg hk1).arg hl1).arg hk2).arg hl2).arg hk3).arg hl3).arg hk4).arg hl4).arg hk5).arg hl5).arg hk6).arg hl6).put [.int .i64 s1, .slice a1 n1 c1, .int .i64 t1, .slice b1 m1 d1, .int .i64 s2, .slice a2 n2 c2, .int .i64 t2, .slice b2 m2 d2] 28).put [.int .i64 s3, .slice a3 n3 c3, .int .i64 t3, .slice b3 m3 d3, .int .i64 s4, .slice a4 n4 c4, .int .i64 t4, .slice b4 m4 d4] 28).put [.int .i64 s5, .slice a5 n5 c5, .int .i64 t5, .slice b5 m5 d5] 26).put [.int .i64 s6, .slice a6 n6 c6, .int .i64 t6, .slice b6 m6 d6] 26)
  try simp only [World.size_alloc] at s0
  have S0 := Lib.hid s0
  clear s0
  clear hno hl1 hk1 el1 ek1 hn1 hm1 hl2 hk2 el2 ek2 hn2 hm2 hl3 hk3 el3 ek3 hn3 hm3 hl4 hk4 el4 ek4 hn4 hm4 hl5 hk5 el5 ek5 hn5 hm5 hl6 hk6 el6 ek6 hn6 hm6 hr0 hr1
  go_enter Try.func3, Try.ntmps3
  go_wp2_with fail
  refine (r10small).mono ?_
  rintro e w11 ⟨rfl, hb⟩
  have R11 := Lib.hid (S0.out.later hb)
  clear hb
  obtain ⟨q1, q2, q3, q4, q5, q6, q7, q8⟩ := Fb.cells8 (R11.out.box (w.heap.size + 1, 28, [.int .i64 s3, .slice a3 n3 c3, .int .i64 t3, .slice b3 m3 d3, .int .i64 s4, .slice a4 n4 c4, .int .i64 t4, .slice b4 m4 d4]) mq2)
  obtain ⟨q9, q10, q11, q12, q13, q14, q15, q16⟩ := Fb.cells8 (R11.out.box (w.heap.size, 28, [.int .i64 s1, .slice a1 n1 c1, .int .i64 t1, .slice b1 m1 d1, .int .i64 s2, .slice a2 n2 c2, .int .i64 t2, .slice b2 m2 d2]) mq3)
  go_wp2_with fail
  clear q1 q2 q3 q4 q5 q6 q7 q8 q9 q10 q11 q12 q13 q14 q15 q16
  refine (l10few (s1 := s1) (t1 := t1) (a1 := a1) (b1 := b1) (c1 := c1) (d1 := d1) (s2 := s2) (t2 := t2) (a2 := a2) (b2 := b2) (c2 := c2) (d2 := d2) (s3 := s3) (t3 := t3) (a3 := a3) (b3 := b3) (c3 := c3) (d3 := d3) (s4 := s4) (t4 := t4) (a4 := a4) (b4 := b4) (c4 := c4) (d4 := d4) MN1.out MM1.out MN2.out MM2.out MN3.out MM3.out MN4.out MM4.out HF0.out).mono ?_
  rintro e w12 ⟨rfl, hb⟩
  have R12 := Lib.hid (R11.out.later hb)
  clear hb
  obtain ⟨q17, q18, q19, q20⟩ := Fb.cells4 (R12.out.box (w.heap.size + 1 + 1, 26, [.int .i64 s5, .slice a5 n5 c5, .int .i64 t5, .slice b5 m5 d5]) mq1)
  go_wp2_with fail
  clear q17 q18 q19 q20
  refine (ffew_len s5 a5 n5 c5 t5 b5 m5 d5 4 _ MN5.out MM5.out _ HF1.out).mono ?_
  rintro e w13 ⟨rfl, hb⟩
  have R13 := Lib.hid (R12.out.later hb)
  clear hb
  obtain ⟨q21, q22, q23, q24⟩ := Fb.cells4 (R13.out.box (w.heap.size + 1 + 1 + 1, 26, [.int .i64 s6, .slice a6 n6 c6, .int .i64 t6, .slice b6 m6 d6]) mq0)
  go_wp2_with fail
  clear q21 q22 q23 q24
  refine (ffew_len s6 a6 n6 c6 t6 b6 m6 d6 4 _ MN6.out MM6.out _ HF2.out).mono ?_
  rintro e w14 ⟨rfl, hb⟩
  have R14 := Lib.hid (R13.out.later hb)
  clear hb
  obtain ⟨q25, q26, q27, q28⟩ := Fb.cells4 (R14.out.box (w.heap.size + 1 + 1, 26, [.int .i64 s5, .slice a5 n5 c5, .int .i64 t5, .slice b5 m5 d5]) mq1)
  obtain ⟨q29, q30, q31, q32, q33, q34, q35, q36⟩ := Fb.cells8 (R14.out.box (w.heap.size, 28, [.int .i64 s1, .slice a1 n1 c1, .int .i64 t1, .slice b1 m1 d1, .int .i64 s2, .slice a2 n2 c2, .int .i64 t2, .slice b2 m2 d2]) mq3)
  go_wp2_with fail
  clear q25 q26 q27 q28 q29 q30 q31 q32 q33 q34 q35 q36
  refine (p10has_any (R14.out.ints (.slice a1 n1 c1, l1) mq10) (R14.out.ints (.slice b1 m1 d1, k1) mq11) LL1.out LK1.out (R14.out.ints (.slice a2 n2 c2, l2) mq8) (R14.out.ints (.slice b2 m2 d2, k2) mq9) LL2.out LK2.out (R14.out.ints (.slice a5 n5 c5, l5) mq2) (R14.out.ints (.slice b5 m5 d5, k5) mq3) LL5.out LK5.out HT0.out).mono ?_
  rintro e w15 ⟨rfl, hb⟩
  have R15 := Lib.hid (R14.out.later hb)
  clear hb
  cases r0
  case false =>
    go_wp2_with fail
    go_ret
    exact ⟨rfl, R15.out.below⟩
  obtain ⟨q37, q38, q39, q40⟩ := Fb.cells4 (R15.out.box (w.heap.size + 1 + 1 + 1, 26, [.int .i64 s6, .slice a6 n6 c6, .int .i64 t6, .slice b6 m6 d6]) mq0)
  obtain ⟨q41, q42, q43, q44, q45, q46, q47, q48⟩ := Fb.cells8 (R15.out.box (w.heap.size + 1, 28, [.int .i64 s3, .slice a3 n3 c3, .int .i64 t3, .slice b3 m3 d3, .int .i64 s4, .slice a4 n4 c4, .int .i64 t4, .slice b4 m4 d4]) mq2)
  go_wp2_with fail
  clear q37 q38 q39 q40 q41 q42 q43 q44 q45 q46 q47 q48
  refine (p10has_any (R15.out.ints (.slice a3 n3 c3, l3) mq6) (R15.out.ints (.slice b3 m3 d3, k3) mq7) LL3.out LK3.out (R15.out.ints (.slice a4 n4 c4, l4) mq4) (R15.out.ints (.slice b4 m4 d4, k4) mq5) LL4.out LK4.out (R15.out.ints (.slice a6 n6 c6, l6) mq0) (R15.out.ints (.slice b6 m6 d6, k6) mq1) LL6.out LK6.out HT1.out).mono ?_
  rintro e w16 ⟨rfl, hb⟩
  have R16 := Lib.hid (R15.out.later hb)
  clear hb
  cases r1
  case false =>
    go_wp2_with fail
    go_ret
    exact ⟨rfl, R16.out.below⟩
  exact absurd HNO.out (by decide)

set_option maxHeartbeats 64000000 in
theorem least_good {w : World} {s1 : Int} {a1 b1 : Option Addr} {n1 c1 m1 d1 : Nat} {x : Rat} {s2 : Int} {a2 b2 : Option Addr} {n2 c2 m2 d2 : Nat} {y : Rat} {s3 : Int} {a3 b3 : Option Addr} {n3 c3 m3 d3 : Nat} {p : Rat} {s4 : Int} {a4 b4 : Option Addr} {n4 c4 m4 d4 : Nat} {q : Rat} {s5 : Int} {a5 b5 : Option Addr} {n5 c5 m5 d5 : Nat} {xx : Rat} {s6 : Int} {a6 b6 : Option Addr} {n6 c6 m6 d6 : Nat} {yy : Rat}  (h1 : Fr w s1 (.slice a1 n1 c1) (.slice b1 m1 d1) x) (z1 : FSz 4 x) (hn1 : n1 ≤ 4) (hm1 : m1 ≤ 4) (h2 : Fr w s2 (.slice a2 n2 c2) (.slice b2 m2 d2) y) (z2 : FSz 4 y) (hn2 : n2 ≤ 4) (hm2 : m2 ≤ 4) (h3 : Fr w s3 (.slice a3 n3 c3) (.slice b3 m3 d3) p) (z3 : FSz 4 p) (hn3 : n3 ≤ 4) (hm3 : m3 ≤ 4) (h4 : Fr w s4 (.slice a4 n4 c4) (.slice b4 m4 d4) q) (z4 : FSz 4 q) (hn4 : n4 ≤ 4) (hm4 : m4 ≤ 4) (h5 : Fr w s5 (.slice a5 n5 c5) (.slice b5 m5 d5) xx) (z5 : FSz 4 xx) (hn5 : n5 ≤ 4) (hm5 : m5 ≤ 4) (h6 : Fr w s6 (.slice a6 n6 c6) (.slice b6 m6 d6) yy) (z6 : FSz 4 yy) (hn6 : n6 ≤ 4) (hm6 : m6 ≤ 4)  (hxy : x ≤ y) (hpq : p ≤ q) (h15 : x ≤ xx) (h52 : xx ≤ y) (h36 : p ≤ yy) (h64 : yy ≤ q) :
    Calls Try.prog 3 #[.agg #[.int .i64 s1, .slice a1 n1 c1, .int .i64 1, .slice b1 m1 d1, .int .i64 s2, .slice a2 n2 c2, .int .i64 1, .slice b2 m2 d2], .agg #[.int .i64 s3, .slice a3 n3 c3, .int .i64 1, .slice b3 m3 d3, .int .i64 s4, .slice a4 n4 c4, .int .i64 1, .slice b4 m4 d4], .agg #[.int .i64 s5, .slice a5 n5 c5, .int .i64 1, .slice b5 m5 d5], .agg #[.int .i64 s6, .slice a6 n6 c6, .int .i64 1, .slice b6 m6 d6]] w fun e w' => e = .returned (.bool true) ∧ RowKit.Below w.heap.size w w' := by
  have MN1 : Hid (n1 ≤ 9223372036854775807) := Lib.hid (by omega)
  have MM1 : Hid (m1 ≤ 9223372036854775807) := Lib.hid (by omega)
  have MN2 : Hid (n2 ≤ 9223372036854775807) := Lib.hid (by omega)
  have MM2 : Hid (m2 ≤ 9223372036854775807) := Lib.hid (by omega)
  have MN3 : Hid (n3 ≤ 9223372036854775807) := Lib.hid (by omega)
  have MM3 : Hid (m3 ≤ 9223372036854775807) := Lib.hid (by omega)
  have MN4 : Hid (n4 ≤ 9223372036854775807) := Lib.hid (by omega)
  have MM4 : Hid (m4 ≤ 9223372036854775807) := Lib.hid (by omega)
  have MN5 : Hid (n5 ≤ 9223372036854775807) := Lib.hid (by omega)
  have MM5 : Hid (m5 ≤ 9223372036854775807) := Lib.hid (by omega)
  have MN6 : Hid (n6 ≤ 9223372036854775807) := Lib.hid (by omega)
  have MM6 : Hid (m6 ≤ 9223372036854775807) := Lib.hid (by omega)
  have E1 := Lib.hid h1.1.1
  have Z1 := Lib.hid z1
  have Y1 := Lib.hid (FSz.mono z1 (j := 400))
  have L1 := Lib.hid (FSz.mono z1 (j := 1000))
  have E2 := Lib.hid h2.1.1
  have Z2 := Lib.hid z2
  have Y2 := Lib.hid (FSz.mono z2 (j := 400))
  have L2 := Lib.hid (FSz.mono z2 (j := 1000))
  have E3 := Lib.hid h3.1.1
  have Z3 := Lib.hid z3
  have Y3 := Lib.hid (FSz.mono z3 (j := 400))
  have L3 := Lib.hid (FSz.mono z3 (j := 1000))
  have E4 := Lib.hid h4.1.1
  have Z4 := Lib.hid z4
  have Y4 := Lib.hid (FSz.mono z4 (j := 400))
  have L4 := Lib.hid (FSz.mono z4 (j := 1000))
  have E5 := Lib.hid h5.1.1
  have Z5 := Lib.hid z5
  have Y5 := Lib.hid (FSz.mono z5 (j := 400))
  have L5 := Lib.hid (FSz.mono z5 (j := 1000))
  have E6 := Lib.hid h6.1.1
  have Z6 := Lib.hid z6
  have Y6 := Lib.hid (FSz.mono z6 (j := 400))
  have L6 := Lib.hid (FSz.mono z6 (j := 1000))
  have HF0 : Hid ((((decide ((n1 : Int) ≤ 4) && decide ((m1 : Int) ≤ 4)) && (decide ((n2 : Int) ≤ 4) && decide ((m2 : Int) ≤ 4))) && ((decide ((n3 : Int) ≤ 4) && decide ((m3 : Int) ≤ 4)) && (decide ((n4 : Int) ≤ 4) && decide ((m4 : Int) ≤ 4)))) = true) := Lib.hid (by simp; omega)
  have HF1 : Hid ((decide ((n5 : Int) ≤ 4) && decide ((m5 : Int) ≤ 4)) = true) := Lib.hid (by simp; omega)
  have HF2 : Hid ((decide ((n6 : Int) ≤ 4) && decide ((m6 : Int) ≤ 4)) = true) := Lib.hid (by simp; omega)
  have HXY := Lib.hid hxy
  have HPQ := Lib.hid hpq
  have HC : Hid ((decide (x ≤ xx) && decide (xx ≤ y)) = true) := Lib.hid (by rw [Bool.and_eq_true, decide_eq_true_eq, decide_eq_true_eq]; exact ⟨h15, h52⟩)
  have HD : Hid ((decide (p ≤ yy) && decide (yy ≤ q)) = true) := Lib.hid (by rw [Bool.and_eq_true, decide_eq_true_eq, decide_eq_true_eq]; exact ⟨h36, h64⟩)
  have IC : Hid (In (x, y) xx) := Lib.hid ⟨h15, h52⟩
  have ID : Hid (In (p, q) yy) := Lib.hid ⟨h36, h64⟩
  have ZZ := Lib.hid (FSz.mono z400 (j := 1000))
  have s0 := (((((((((((((((((Sf.start w).arg h1.2.2).arg h1.1.2).arg h2.2.2).arg h2.1.2).arg h3.2.2).arg h3.1.2).arg h4.2.2).arg h4.1.2).arg h5.2.2).arg h5.1.2).arg h6.2.2).arg h6.1.2).put [.int .i64 s1, .slice a1 n1 c1, .int .i64 1, .slice b1 m1 d1, .int .i64 s2, .slice a2 n2 c2, .int .i64 1, .slice b2 m2 d2] 28).put [.int .i64 s3, .slice a3 n3 c3, .int .i64 1, .slice b3 m3 d3, .int .i64 s4, .slice a4 n4 c4, .int .i64 1, .slice b4 m4 d4] 28).put [.int .i64 s5, .slice a5 n5 c5, .int .i64 1, .slice b5 m5 d5] 26).put [.int .i64 s6, .slice a6 n6 c6, .int .i64 1, .slice b6 m6 d6] 26)
  try simp only [World.size_alloc] at s0
  have S0 := Lib.hid s0
  clear s0
  clear h1 z1 hn1 hm1 h2 z2 hn2 hm2 h3 z3 hn3 hm3 h4 z4 hn4 hm4 h5 z5 hn5 hm5 h6 z6 hn6 hm6  hxy hpq h15 h52 h36 h64
  go_enter Try.func3, Try.ntmps3
  go_wp2_with fail
  refine (r10small).mono ?_
  rintro e w11 ⟨rfl, hb⟩
  have R11 := Lib.hid (S0.out.later hb)
  clear hb
  obtain ⟨q1, q2, q3, q4, q5, q6, q7, q8⟩ := Fb.cells8 (R11.out.box (w.heap.size + 1, 28, [.int .i64 s3, .slice a3 n3 c3, .int .i64 1, .slice b3 m3 d3, .int .i64 s4, .slice a4 n4 c4, .int .i64 1, .slice b4 m4 d4]) mq2)
  obtain ⟨q9, q10, q11, q12, q13, q14, q15, q16⟩ := Fb.cells8 (R11.out.box (w.heap.size, 28, [.int .i64 s1, .slice a1 n1 c1, .int .i64 1, .slice b1 m1 d1, .int .i64 s2, .slice a2 n2 c2, .int .i64 1, .slice b2 m2 d2]) mq3)
  go_wp2_with fail
  clear q1 q2 q3 q4 q5 q6 q7 q8 q9 q10 q11 q12 q13 q14 q15 q16
  refine (l10few (s1 := s1) (t1 := 1) (a1 := a1) (b1 := b1) (c1 := c1) (d1 := d1) (s2 := s2) (t2 := 1) (a2 := a2) (b2 := b2) (c2 := c2) (d2 := d2) (s3 := s3) (t3 := 1) (a3 := a3) (b3 := b3) (c3 := c3) (d3 := d3) (s4 := s4) (t4 := 1) (a4 := a4) (b4 := b4) (c4 := c4) (d4 := d4) MN1.out MM1.out MN2.out MM2.out MN3.out MM3.out MN4.out MM4.out HF0.out).mono ?_
  rintro e w12 ⟨rfl, hb⟩
  have R12 := Lib.hid (R11.out.later hb)
  clear hb
  obtain ⟨q17, q18, q19, q20⟩ := Fb.cells4 (R12.out.box (w.heap.size + 1 + 1, 26, [.int .i64 s5, .slice a5 n5 c5, .int .i64 1, .slice b5 m5 d5]) mq1)
  go_wp2_with fail
  clear q17 q18 q19 q20
  refine (ffew_len s5 a5 n5 c5 1 b5 m5 d5 4 _ MN5.out MM5.out _ HF1.out).mono ?_
  rintro e w13 ⟨rfl, hb⟩
  have R13 := Lib.hid (R12.out.later hb)
  clear hb
  obtain ⟨q21, q22, q23, q24⟩ := Fb.cells4 (R13.out.box (w.heap.size + 1 + 1 + 1, 26, [.int .i64 s6, .slice a6 n6 c6, .int .i64 1, .slice b6 m6 d6]) mq0)
  go_wp2_with fail
  clear q21 q22 q23 q24
  refine (ffew_len s6 a6 n6 c6 1 b6 m6 d6 4 _ MN6.out MM6.out _ HF2.out).mono ?_
  rintro e w14 ⟨rfl, hb⟩
  have R14 := Lib.hid (R13.out.later hb)
  clear hb
  obtain ⟨q25, q26, q27, q28⟩ := Fb.cells4 (R14.out.box (w.heap.size + 1 + 1, 26, [.int .i64 s5, .slice a5 n5 c5, .int .i64 1, .slice b5 m5 d5]) mq1)
  obtain ⟨q29, q30, q31, q32, q33, q34, q35, q36⟩ := Fb.cells8 (R14.out.box (w.heap.size, 28, [.int .i64 s1, .slice a1 n1 c1, .int .i64 1, .slice b1 m1 d1, .int .i64 s2, .slice a2 n2 c2, .int .i64 1, .slice b2 m2 d2]) mq3)
  go_wp2_with fail
  clear q25 q26 q27 q28 q29 q30 q31 q32 q33 q34 q35 q36
  refine (p10has_k (r := true) (R14.out.fr (v := .slice a1 n1 c1) (u := .slice b1 m1 d1) (r := x) mq10 mq11 E1.out) L1.out (R14.out.fr (v := .slice a2 n2 c2) (u := .slice b2 m2 d2) (r := y) mq8 mq9 E2.out) L2.out (R14.out.fr (v := .slice a5 n5 c5) (u := .slice b5 m5 d5) (r := xx) mq2 mq3 E5.out) L5.out HXY.out HC.out).mono ?_
  rintro e w15 ⟨rfl, hb⟩
  have R15 := Lib.hid (R14.out.later hb)
  clear hb
  obtain ⟨q37, q38, q39, q40⟩ := Fb.cells4 (R15.out.box (w.heap.size + 1 + 1 + 1, 26, [.int .i64 s6, .slice a6 n6 c6, .int .i64 1, .slice b6 m6 d6]) mq0)
  obtain ⟨q41, q42, q43, q44, q45, q46, q47, q48⟩ := Fb.cells8 (R15.out.box (w.heap.size + 1, 28, [.int .i64 s3, .slice a3 n3 c3, .int .i64 1, .slice b3 m3 d3, .int .i64 s4, .slice a4 n4 c4, .int .i64 1, .slice b4 m4 d4]) mq2)
  go_wp2_with fail
  clear q37 q38 q39 q40 q41 q42 q43 q44 q45 q46 q47 q48
  refine (p10has_k (r := true) (R15.out.fr (v := .slice a3 n3 c3) (u := .slice b3 m3 d3) (r := p) mq6 mq7 E3.out) L3.out (R15.out.fr (v := .slice a4 n4 c4) (u := .slice b4 m4 d4) (r := q) mq4 mq5 E4.out) L4.out (R15.out.fr (v := .slice a6 n6 c6) (u := .slice b6 m6 d6) (r := yy) mq0 mq1 E6.out) L6.out HPQ.out HD.out).mono ?_
  rintro e w16 ⟨rfl, hb⟩
  have R16 := Lib.hid (R15.out.later hb)
  clear hb
  go_wp2_with fail
  go_loopw [10] (fun t wr => ∃ k : Nat, k ≤ 6 ∧ t = .int .i64 (k : Int) ∧ Sf w [(w.heap.size + 1 + 1 + 1, 26, [.int .i64 s6, .slice a6 n6 c6, .int .i64 1, .slice b6 m6 d6]), (w.heap.size + 1 + 1, 26, [.int .i64 s5, .slice a5 n5 c5, .int .i64 1, .slice b5 m5 d5]), (w.heap.size + 1, 28, [.int .i64 s3, .slice a3 n3 c3, .int .i64 1, .slice b3 m3 d3, .int .i64 s4, .slice a4 n4 c4, .int .i64 1, .slice b4 m4 d4]), (w.heap.size, 28, [.int .i64 s1, .slice a1 n1 c1, .int .i64 1, .slice b1 m1 d1, .int .i64 s2, .slice a2 n2 c2, .int .i64 1, .slice b2 m2 d2])] [(.slice a6 n6 c6, digs (yy).num.natAbs), (.slice b6 m6 d6, digs (((yy).den : Int)).natAbs), (.slice a5 n5 c5, digs (xx).num.natAbs), (.slice b5 m5 d5, digs (((xx).den : Int)).natAbs), (.slice a4 n4 c4, digs (q).num.natAbs), (.slice b4 m4 d4, digs (((q).den : Int)).natAbs), (.slice a3 n3 c3, digs (p).num.natAbs), (.slice b3 m3 d3, digs (((p).den : Int)).natAbs), (.slice a2 n2 c2, digs (y).num.natAbs), (.slice b2 m2 d2, digs (((y).den : Int)).natAbs), (.slice a1 n1 c1, digs (x).num.natAbs), (.slice b1 m1 d1, digs (((x).den : Int)).natAbs)] wr) (fun t _ => 7 - (RowKit.intOf t).toNat)
  case atStart => exact ⟨0, Nat.zero_le _, rfl, R16.out⟩
  case round =>
    clear R16
    obtain ⟨k, hk6, ht, hS⟩ := hrel
    have HS := Lib.hid hS
    clear hS
    by_cases hlt : k < 6
    · have hk5 : k ≤ 5 := by omega
      by_cases hz : k = 3 ∧ In (p, q) 0
      · obtain ⟨rfl, hz0⟩ := hz
        have HZ0 := Lib.hid hz0
        have HZB : Hid ((decide (p ≤ ((0 : Int) : Rat)) && decide (((0 : Int) : Rat) ≤ q)) = true) := Lib.hid (by rw [Bool.and_eq_true, decide_eq_true_eq, decide_eq_true_eq]; exact hz0)
        have ht2 : _ = Value.int IntKind.i64 3 := ht
        subst ht2
        clear ht hk6 hlt hk5 hz0
        obtain ⟨q49, q50, q51, q52, q53, q54, q55, q56⟩ := Fb.cells8 (HS.out.box (w.heap.size + 1, 28, [.int .i64 s3, .slice a3 n3 c3, .int .i64 1, .slice b3 m3 d3, .int .i64 s4, .slice a4 n4 c4, .int .i64 1, .slice b4 m4 d4]) mq2)
        obtain ⟨q57, q58, q59, q60, q61, q62, q63, q64⟩ := Fb.cells8 (HS.out.box (w.heap.size, 28, [.int .i64 s1, .slice a1 n1 c1, .int .i64 1, .slice b1 m1 d1, .int .i64 s2, .slice a2 n2 c2, .int .i64 1, .slice b2 m2 d2]) mq3)
        go_wp2_with fail
        clear q49 q50 q51 q52 q53 q54 q55 q56 q57 q58 q59 q60 q61 q62 q63 q64
        refine (play_zero (HS.out.fr (v := .slice a1 n1 c1) (u := .slice b1 m1 d1) (r := x) mq10 mq11 E1.out) Y1.out (HS.out.fr (v := .slice a2 n2 c2) (u := .slice b2 m2 d2) (r := y) mq8 mq9 E2.out) Y2.out (HS.out.fr (v := .slice a3 n3 c3) (u := .slice b3 m3 d3) (r := p) mq6 mq7 E3.out) Y3.out (HS.out.fr (v := .slice a4 n4 c4) (u := .slice b4 m4 d4) (r := q) mq4 mq5 E4.out) Y4.out HXY.out HPQ.out HZ0.out).mono ?_
        rintro e w17 ⟨rfl, hb⟩
        have R17 := Lib.hid (HS.out.later hb)
        clear hb
        have P65 := Lib.hid (R17.out.put [.int .i64 0, .slice none 0 0, .int .i64 0, .slice none 0 0, .int .i64 0, .slice none 0 0, .int .i64 0, .slice none 0 0] 28)
        have Q65 := Lib.hid (Sf.row (pre := []) P65.out [.int .i64 0, .slice none 0 0, .int .i64 0, .slice none 0 0, .int .i64 0, .slice none 0 0, .int .i64 0, .slice none 0 0])
        obtain ⟨V65, hV65⟩ : ∃ V, ((w17.alloc (.cells #[.int .i64 0, .slice none 0 0, .int .i64 0, .slice none 0 0, .int .i64 0, .slice none 0 0, .int .i64 0, .slice none 0 0] 28)).setRow w17.heap.size #[.int .i64 0, .slice none 0 0, .int .i64 0, .slice none 0 0, .int .i64 0, .slice none 0 0, .int .i64 0, .slice none 0 0]) = V := ⟨_, rfl⟩
        rw [hV65] at Q65
        have HV65 := Lib.hid hV65
        clear hV65 R17
        go_upto_region 9 with (first | (refine wpList_store_row rfl _ _ _ rfl _ #[.int .i64 0, .slice none 0 0, .int .i64 0, .slice none 0 0, .int .i64 0, .slice none 0 0, .int .i64 0, .slice none 0 0] rfl rfl _ _ (P65.out.box _ List.mem_cons_self) (by kernel_rfl) rfl (by simp [Value.oneCell']) ?_; rw [HV65.out]))
        go_cut [67] from 56 to 67 (fun u wx => u = .bool false ∧ Hid (Sf w [(w17.heap.size, 28, [.int .i64 0, .slice none 0 0, .int .i64 0, .slice none 0 0, .int .i64 0, .slice none 0 0, .int .i64 0, .slice none 0 0]), (w.heap.size + 1 + 1 + 1, 26, [.int .i64 s6, .slice a6 n6 c6, .int .i64 1, .slice b6 m6 d6]), (w.heap.size + 1 + 1, 26, [.int .i64 s5, .slice a5 n5 c5, .int .i64 1, .slice b5 m5 d5]), (w.heap.size + 1, 28, [.int .i64 s3, .slice a3 n3 c3, .int .i64 1, .slice b3 m3 d3, .int .i64 s4, .slice a4 n4 c4, .int .i64 1, .slice b4 m4 d4]), (w.heap.size, 28, [.int .i64 s1, .slice a1 n1 c1, .int .i64 1, .slice b1 m1 d1, .int .i64 s2, .slice a2 n2 c2, .int .i64 1, .slice b2 m2 d2])] [(.slice a6 n6 c6, digs (yy).num.natAbs), (.slice b6 m6 d6, digs (((yy).den : Int)).natAbs), (.slice a5 n5 c5, digs (xx).num.natAbs), (.slice b5 m5 d5, digs (((xx).den : Int)).natAbs), (.slice a4 n4 c4, digs (q).num.natAbs), (.slice b4 m4 d4, digs (((q).den : Int)).natAbs), (.slice a3 n3 c3, digs (p).num.natAbs), (.slice b3 m3 d3, digs (((p).den : Int)).natAbs), (.slice a2 n2 c2, digs (y).num.natAbs), (.slice b2 m2 d2, digs (((y).den : Int)).natAbs), (.slice a1 n1 c1, digs (x).num.natAbs), (.slice b1 m1 d1, digs (((x).den : Int)).natAbs)] wx))
        case first =>
          have K0 : ∀ W F, Sf w [(w17.heap.size, 28, [.int .i64 0, .slice none 0 0, .int .i64 0, .slice none 0 0, .int .i64 0, .slice none 0 0, .int .i64 0, .slice none 0 0]), (w.heap.size + 1 + 1 + 1, 26, [.int .i64 s6, .slice a6 n6 c6, .int .i64 1, .slice b6 m6 d6]), (w.heap.size + 1 + 1, 26, [.int .i64 s5, .slice a5 n5 c5, .int .i64 1, .slice b5 m5 d5]), (w.heap.size + 1, 28, [.int .i64 s3, .slice a3 n3 c3, .int .i64 1, .slice b3 m3 d3, .int .i64 s4, .slice a4 n4 c4, .int .i64 1, .slice b4 m4 d4]), (w.heap.size, 28, [.int .i64 s1, .slice a1 n1 c1, .int .i64 1, .slice b1 m1 d1, .int .i64 s2, .slice a2 n2 c2, .int .i64 1, .slice b2 m2 d2])] F W → W.cell? ⟨w.heap.size + 1, 0, none⟩ = some (.int .i64 s3) ∧ W.cell? ⟨w.heap.size + 1, 1, none⟩ = some (.slice a3 n3 c3) ∧ W.cell? ⟨w.heap.size + 1, 2, none⟩ = some (.int .i64 1) ∧ W.cell? ⟨w.heap.size + 1, 3, none⟩ = some (.slice b3 m3 d3) ∧ W.cell? ⟨w.heap.size + 1, 4, none⟩ = some (.int .i64 s4) ∧ W.cell? ⟨w.heap.size + 1, 5, none⟩ = some (.slice a4 n4 c4) ∧ W.cell? ⟨w.heap.size + 1, 6, none⟩ = some (.int .i64 1) ∧ W.cell? ⟨w.heap.size + 1, 7, none⟩ = some (.slice b4 m4 d4) := fun W F h => ⟨(h.box (w.heap.size + 1, 28, [.int .i64 s3, .slice a3 n3 c3, .int .i64 1, .slice b3 m3 d3, .int .i64 s4, .slice a4 n4 c4, .int .i64 1, .slice b4 m4 d4]) mq3).cell 0, (h.box (w.heap.size + 1, 28, [.int .i64 s3, .slice a3 n3 c3, .int .i64 1, .slice b3 m3 d3, .int .i64 s4, .slice a4 n4 c4, .int .i64 1, .slice b4 m4 d4]) mq3).cell 1, (h.box (w.heap.size + 1, 28, [.int .i64 s3, .slice a3 n3 c3, .int .i64 1, .slice b3 m3 d3, .int .i64 s4, .slice a4 n4 c4, .int .i64 1, .slice b4 m4 d4]) mq3).cell 2, (h.box (w.heap.size + 1, 28, [.int .i64 s3, .slice a3 n3 c3, .int .i64 1, .slice b3 m3 d3, .int .i64 s4, .slice a4 n4 c4, .int .i64 1, .slice b4 m4 d4]) mq3).cell 3, (h.box (w.heap.size + 1, 28, [.int .i64 s3, .slice a3 n3 c3, .int .i64 1, .slice b3 m3 d3, .int .i64 s4, .slice a4 n4 c4, .int .i64 1, .slice b4 m4 d4]) mq3).cell 4, (h.box (w.heap.size + 1, 28, [.int .i64 s3, .slice a3 n3 c3, .int .i64 1, .slice b3 m3 d3, .int .i64 s4, .slice a4 n4 c4, .int .i64 1, .slice b4 m4 d4]) mq3).cell 5, (h.box (w.heap.size + 1, 28, [.int .i64 s3, .slice a3 n3 c3, .int .i64 1, .slice b3 m3 d3, .int .i64 s4, .slice a4 n4 c4, .int .i64 1, .slice b4 m4 d4]) mq3).cell 6, (h.box (w.heap.size + 1, 28, [.int .i64 s3, .slice a3 n3 c3, .int .i64 1, .slice b3 m3 d3, .int .i64 s4, .slice a4 n4 c4, .int .i64 1, .slice b4 m4 d4]) mq3).cell 7⟩
          have KK := Lib.hid K0
          clear K0
          have N0 := Lib.hid Q65.out.drew
          clear Q65
          have e0 := KK.out _ _ N0.out
          go_region_held3 (fun W => W.cell? ⟨w.heap.size + 1, 0, none⟩ = some (.int .i64 s3) ∧ W.cell? ⟨w.heap.size + 1, 1, none⟩ = some (.slice a3 n3 c3) ∧ W.cell? ⟨w.heap.size + 1, 2, none⟩ = some (.int .i64 1) ∧ W.cell? ⟨w.heap.size + 1, 3, none⟩ = some (.slice b3 m3 d3) ∧ W.cell? ⟨w.heap.size + 1, 4, none⟩ = some (.int .i64 s4) ∧ W.cell? ⟨w.heap.size + 1, 5, none⟩ = some (.slice a4 n4 c4) ∧ W.cell? ⟨w.heap.size + 1, 6, none⟩ = some (.int .i64 1) ∧ W.cell? ⟨w.heap.size + 1, 7, none⟩ = some (.slice b4 m4 d4))
            (first | (with_reducible exact e0) | (with_reducible exact e1) | (with_reducible exact e2))
            (((first | go_at_call 13 | go_at_call 11 | (rw [if_pos (by rfl)]; go_simp) | skip); (first
                | (have hG := N1; clear hG; go_at_call 11; (with_reducible refine (p10has_k PN1_1.out L3.out PN1_2.out L4.out PN1_3.out ZZ.out HPQ.out HZB.out).mono ?_); rintro e y18_1 ⟨rfl, hb⟩; have N2 := Lib.hid (N1.out.later hb); clear hb; have e2 := KK.out _ _ N2.out)
                | (have hG := N0; clear hG; go_at_call 13; (with_reducible refine (rfint_k 0 (by decide) _).mono ?_); rintro e y18_0 ⟨sx18_0, ax18_0, nx18_0, cx18_0, bx18_0, mx18_0, dx18_0, rfl, hr, hb, hf, hg⟩; have E18_0 := Lib.hid hr.1.1; have N1 := Lib.hid (N0.out.ret2 hb hr.1.2 hf hr.2.2 hg); clear hr hb hf hg; have e1 := KK.out _ _ N1.out; have PN1_1 := Lib.hid (N1.out.fr (v := .slice a3 n3 c3) (u := .slice b3 m3 d3) (r := p) mq8 mq9 E3.out); have PN1_2 := Lib.hid (N1.out.fr (v := .slice a4 n4 c4) (u := .slice b4 m4 d4) (r := q) mq6 mq7 E4.out); have PN1_3 := Lib.hid (N1.out.fr (v := .slice ax18_0 nx18_0 cx18_0) (u := .slice bx18_0 mx18_0 dx18_0) (r := ((0 : Int) : Rat)) mq0 mq1 E18_0.out))); (try dsimp only)))
          all_goals (go_wp2_with fail; go_meet; exact ⟨rfl, Lib.hid (Sf.facts N2.out (by simp))⟩)
        case rest =>
        obtain ⟨rfl, hq⟩ := hcut
        obtain ⟨w18, rfl⟩ : ∃ W, W = wc := ⟨_, rfl⟩
        have R18 := Lib.hid hq.out
        clear hq Q65
        go_wp2_with fail
        go_roundw
        case rel => exact ⟨4, by decide, by go_num, Sf.facts (Sf.tail R18.out) (by simp)⟩
        case measure => simp [RowKit.intOf]
      · have hz1 : k = 3 → ¬ In (p, q) 0 := fun e f => hz ⟨e, f⟩
        have HK5 := Lib.hid hk5
        have HZ1 := Lib.hid hz1
        have HN0 : Hid (k = 3 → p ≠ 0 ∧ q ≠ 0) := Lib.hid fun e => ⟨fun f => hz1 e ⟨f ▸ Rat.le_refl, f ▸ HPQ.out⟩, fun f => hz1 e ⟨f ▸ HPQ.out, f ▸ Rat.le_refl⟩⟩
        have HY0 : Hid (k = 3 → yy ≠ 0) := Lib.hid fun e f => hz1 e (f ▸ ID.out)
        obtain ⟨s, hs⟩ : ∃ r, opS k (x, y) (p, q) = r := ⟨_, rfl⟩
        obtain ⟨r, hr⟩ : ∃ r, opF k xx yy = r := ⟨_, rfl⟩
        have HSR : Hid (conS (opF k) (x, y) (p, q) = s) := Lib.hid hs
        have HR := Lib.hid hr
        have SS := Lib.hid (opS_sz hk5 Z1.out Z2.out Z3.out Z4.out HPQ.out hz1 hs)
        have SR := Lib.hid (szij (m := 9) hk5 Z5.out Z6.out HY0.out)
        rw [hr] at SR
        have IS := opS_is hk5 (a := (x, y)) (b := (p, q)) HXY.out HPQ.out hz1
        rw [hs] at IS
        have LS := Lib.hid IS.le
        have QR : Hid ((decide (s.1 ≤ r) && decide (r ≤ s.2)) = true) := Lib.hid (by
          have h := IS.has _ _ IC.out ID.out
          rw [hr] at h
          rw [Bool.and_eq_true, decide_eq_true_eq, decide_eq_true_eq]; exact h)
        have CO := opS_corner hk5 (a := (x, y)) (b := (p, q)) HPQ.out hz1
        have C1 := Lib.hid (CO.low HXY.out HPQ.out IS)
        have C2 := Lib.hid (CO.high HXY.out HPQ.out IS)
        have hlt2 : decide ((k : Int) < 6) = true := by simp; omega
        have hw1 : IntKind.i64.wrap ((k : Int) + 1) = (k : Int) + 1 := IntWalk.i64_in _ (by omega)
        subst ht
        clear hs hr IS hz hz1 CO
        obtain ⟨q66, q67, q68, q69, q70, q71, q72, q73⟩ := Fb.cells8 (HS.out.box (w.heap.size + 1, 28, [.int .i64 s3, .slice a3 n3 c3, .int .i64 1, .slice b3 m3 d3, .int .i64 s4, .slice a4 n4 c4, .int .i64 1, .slice b4 m4 d4]) mq2)
        obtain ⟨q74, q75, q76, q77, q78, q79, q80, q81⟩ := Fb.cells8 (HS.out.box (w.heap.size, 28, [.int .i64 s1, .slice a1 n1 c1, .int .i64 1, .slice b1 m1 d1, .int .i64 s2, .slice a2 n2 c2, .int .i64 1, .slice b2 m2 d2]) mq3)
        go_wp2_with fail
        clear q66 q67 q68 q69 q70 q71 q72 q73 q74 q75 q76 q77 q78 q79 q80 q81
        refine (p10play (k := k) HK5.out (HS.out.fr (v := .slice a1 n1 c1) (u := .slice b1 m1 d1) (r := x) mq10 mq11 E1.out) Y1.out (HS.out.fr (v := .slice a2 n2 c2) (u := .slice b2 m2 d2) (r := y) mq8 mq9 E2.out) Y2.out (HS.out.fr (v := .slice a3 n3 c3) (u := .slice b3 m3 d3) (r := p) mq6 mq7 E3.out) Y3.out (HS.out.fr (v := .slice a4 n4 c4) (u := .slice b4 m4 d4) (r := q) mq4 mq5 E4.out) Y4.out HXY.out HPQ.out HZ1.out HSR.out).mono ?_
        rintro e w19 ⟨c19, d19, rfl, h1, h2, hb, ho⟩
        have EC19 := Lib.hid h1.1.1
        have ED19 := Lib.hid h2.1.1
        have R19 := Lib.hid (Sf.span HS.out hb h1 h2 (fun x hx => ho x.1 (HS.out.lt x hx)))
        clear h1 h2 hb ho
        have P82 := Lib.hid (R19.out.put [.int .i64 0, .slice none 0 0, .int .i64 0, .slice none 0 0, .int .i64 0, .slice none 0 0, .int .i64 0, .slice none 0 0] 28)
        have Q82 := Lib.hid (Sf.row (pre := []) P82.out [.int .i64 c19.s, .slice c19.a c19.n c19.c, .int .i64 1, .slice c19.b c19.m c19.d, .int .i64 d19.s, .slice d19.a d19.n d19.c, .int .i64 1, .slice d19.b d19.m d19.d])
        obtain ⟨V82, hV82⟩ : ∃ V, ((w19.alloc (.cells #[.int .i64 0, .slice none 0 0, .int .i64 0, .slice none 0 0, .int .i64 0, .slice none 0 0, .int .i64 0, .slice none 0 0] 28)).setRow w19.heap.size #[.int .i64 c19.s, .slice c19.a c19.n c19.c, .int .i64 1, .slice c19.b c19.m c19.d, .int .i64 d19.s, .slice d19.a d19.n d19.c, .int .i64 1, .slice d19.b d19.m d19.d]) = V := ⟨_, rfl⟩
        rw [hV82] at Q82
        have HV82 := Lib.hid hV82
        clear hV82 R19
        obtain ⟨q83, q84, q85, q86⟩ := Fb.cells4 (Q82.out.box (w.heap.size + 1 + 1 + 1, 26, [.int .i64 s6, .slice a6 n6 c6, .int .i64 1, .slice b6 m6 d6]) mq1)
        obtain ⟨q87, q88, q89, q90⟩ := Fb.cells4 (Q82.out.box (w.heap.size + 1 + 1, 26, [.int .i64 s5, .slice a5 n5 c5, .int .i64 1, .slice b5 m5 d5]) mq2)
        go_wp2_with (first | (refine wpList_store_row rfl _ _ _ rfl _ #[.int .i64 c19.s, .slice c19.a c19.n c19.c, .int .i64 1, .slice c19.b c19.m c19.d, .int .i64 d19.s, .slice d19.a d19.n d19.c, .int .i64 1, .slice d19.b d19.m d19.d] rfl rfl _ _ (P82.out.box _ List.mem_cons_self) (by kernel_rfl) rfl (by simp [Value.oneCell']) ?_; rw [HV82.out]))
        clear q83 q84 q85 q86 q87 q88 q89 q90
        refine (p10calc (k := k) HK5.out (Q82.out.fr (v := .slice a5 n5 c5) (u := .slice b5 m5 d5) (r := xx) mq6 mq7 E5.out) L5.out (Q82.out.fr (v := .slice a6 n6 c6) (u := .slice b6 m6 d6) (r := yy) mq4 mq5 E6.out) L6.out HY0.out HR.out).mono ?_
        rintro e w20 ⟨sx20, ax20, nx20, cx20, bx20, mx20, dx20, rfl, hr, hb, hf, hg⟩
        have E20 := Lib.hid hr.1.1
        have R20 := Lib.hid (Q82.out.ret2 hb hr.1.2 hf hr.2.2 hg)
        have FF20 := Lib.hid (hf.mono Q82.out.below.size)
        have FG20 := Lib.hid (hg.mono Q82.out.below.size)
        clear hr hb hf hg
        have P91 := Lib.hid (R20.out.put [.int .i64 0, .slice none 0 0, .int .i64 0, .slice none 0 0] 26)
        have Q91 := Lib.hid (Sf.row (pre := []) P91.out [.int .i64 sx20, .slice ax20 nx20 cx20, .int .i64 1, .slice bx20 mx20 dx20])
        obtain ⟨q92, q93, q94, q95⟩ := Fb.cells4 (Q91.out.box (w20.heap.size, 26, [.int .i64 sx20, .slice ax20 nx20 cx20, .int .i64 1, .slice bx20 mx20 dx20]) mq0)
        obtain ⟨q96, q97, q98, q99, q100, q101, q102, q103⟩ := Fb.cells8 (Q91.out.box (w19.heap.size, 28, [.int .i64 c19.s, .slice c19.a c19.n c19.c, .int .i64 1, .slice c19.b c19.m c19.d, .int .i64 d19.s, .slice d19.a d19.n d19.c, .int .i64 1, .slice d19.b d19.m d19.d]) mq1)
        go_wp2_with (first | refine wpList_store_row rfl _ _ _ rfl _ #[.int .i64 sx20, .slice ax20 nx20 cx20, .int .i64 1, .slice bx20 mx20 dx20] rfl rfl _ _ (P91.out.box _ List.mem_cons_self) (by kernel_rfl) rfl (by simp [Value.oneCell']) ?_)
        clear q92 q93 q94 q95 q96 q97 q98 q99 q100 q101 q102 q103
        refine (p10has_k (r := true) (Q91.out.fr (v := .slice c19.a c19.n c19.c) (u := .slice c19.b c19.m c19.d) (r := s.1) mq2 mq3 EC19.out) SS.out.1.mono (Q91.out.fr (v := .slice d19.a d19.n d19.c) (u := .slice d19.b d19.m d19.d) (r := s.2) mq4 mq5 ED19.out) SS.out.2.mono (Q91.out.fr (v := .slice ax20 nx20 cx20) (u := .slice bx20 mx20 dx20) (r := r) mq0 mq1 E20.out) SR.out.mono LS.out QR.out).mono ?_
        rintro e w21 ⟨rfl, hb⟩
        have R21 := Lib.hid (Q91.out.later hb)
        clear hb
        obtain ⟨q104, q105, q106, q107, q108, q109, q110, q111⟩ := Fb.cells8 (R21.out.box (w19.heap.size, 28, [.int .i64 c19.s, .slice c19.a c19.n c19.c, .int .i64 1, .slice c19.b c19.m c19.d, .int .i64 d19.s, .slice d19.a d19.n d19.c, .int .i64 1, .slice d19.b d19.m d19.d]) mq1)
        obtain ⟨q112, q113, q114, q115, q116, q117, q118, q119⟩ := Fb.cells8 (R21.out.box (w.heap.size + 1, 28, [.int .i64 s3, .slice a3 n3 c3, .int .i64 1, .slice b3 m3 d3, .int .i64 s4, .slice a4 n4 c4, .int .i64 1, .slice b4 m4 d4]) mq4)
        obtain ⟨q120, q121, q122, q123, q124, q125, q126, q127⟩ := Fb.cells8 (R21.out.box (w.heap.size, 28, [.int .i64 s1, .slice a1 n1 c1, .int .i64 1, .slice b1 m1 d1, .int .i64 s2, .slice a2 n2 c2, .int .i64 1, .slice b2 m2 d2]) mq5)
        go_wp2_with fail
        clear q104 q105 q106 q107 q108 q109 q110 q111 q112 q113 q114 q115 q116 q117 q118 q119 q120 q121 q122 q123 q124 q125 q126 q127
        refine (p10met (k := k) HK5.out (R21.out.fr (v := .slice a1 n1 c1) (u := .slice b1 m1 d1) (r := x) mq16 mq17 E1.out) Z1.out (R21.out.fr (v := .slice a2 n2 c2) (u := .slice b2 m2 d2) (r := y) mq14 mq15 E2.out) Z2.out (R21.out.fr (v := .slice a3 n3 c3) (u := .slice b3 m3 d3) (r := p) mq12 mq13 E3.out) Z3.out (R21.out.fr (v := .slice a4 n4 c4) (u := .slice b4 m4 d4) (r := q) mq10 mq11 E4.out) Z4.out (R21.out.fr (v := .slice c19.a c19.n c19.c) (u := .slice c19.b c19.m c19.d) (r := s.1) mq2 mq3 EC19.out) HN0.out C1.out).mono ?_
        rintro e w22 ⟨rfl, hb⟩
        have R22 := Lib.hid (R21.out.later hb)
        clear hb
        obtain ⟨q128, q129, q130, q131, q132, q133, q134, q135⟩ := Fb.cells8 (R22.out.box (w19.heap.size, 28, [.int .i64 c19.s, .slice c19.a c19.n c19.c, .int .i64 1, .slice c19.b c19.m c19.d, .int .i64 d19.s, .slice d19.a d19.n d19.c, .int .i64 1, .slice d19.b d19.m d19.d]) mq1)
        obtain ⟨q136, q137, q138, q139, q140, q141, q142, q143⟩ := Fb.cells8 (R22.out.box (w.heap.size + 1, 28, [.int .i64 s3, .slice a3 n3 c3, .int .i64 1, .slice b3 m3 d3, .int .i64 s4, .slice a4 n4 c4, .int .i64 1, .slice b4 m4 d4]) mq4)
        obtain ⟨q144, q145, q146, q147, q148, q149, q150, q151⟩ := Fb.cells8 (R22.out.box (w.heap.size, 28, [.int .i64 s1, .slice a1 n1 c1, .int .i64 1, .slice b1 m1 d1, .int .i64 s2, .slice a2 n2 c2, .int .i64 1, .slice b2 m2 d2]) mq5)
        go_wp2_with fail
        clear q128 q129 q130 q131 q132 q133 q134 q135 q136 q137 q138 q139 q140 q141 q142 q143 q144 q145 q146 q147 q148 q149 q150 q151
        refine (p10met (k := k) HK5.out (R22.out.fr (v := .slice a1 n1 c1) (u := .slice b1 m1 d1) (r := x) mq16 mq17 E1.out) Z1.out (R22.out.fr (v := .slice a2 n2 c2) (u := .slice b2 m2 d2) (r := y) mq14 mq15 E2.out) Z2.out (R22.out.fr (v := .slice a3 n3 c3) (u := .slice b3 m3 d3) (r := p) mq12 mq13 E3.out) Z3.out (R22.out.fr (v := .slice a4 n4 c4) (u := .slice b4 m4 d4) (r := q) mq10 mq11 E4.out) Z4.out (R22.out.fr (v := .slice d19.a d19.n d19.c) (u := .slice d19.b d19.m d19.d) (r := s.2) mq4 mq5 ED19.out) HN0.out C2.out).mono ?_
        rintro e w23 ⟨rfl, hb⟩
        have R23 := Lib.hid (R22.out.later hb)
        clear hb
        go_wp2_with fail
        go_roundw
        case rel => exact ⟨k + 1, by omega, by go_num, Sf.facts (Sf.tail (Sf.tail R23.out)) (by simp)⟩
        case measure => simp [RowKit.intOf]; omega
    · obtain rfl : k = 6 := by omega
      have ht2 : _ = Value.int IntKind.i64 6 := ht
      subst ht2
      clear ht hk6 hlt
      go_wp2_with fail
      go_ret
      exact ⟨rfl, HS.out.below⟩

theorem least_all {w : World} {s1 t1 : Int} {a1 b1 : Option Addr} {c1 d1 : Nat} {l1 k1 : List Int} {s2 t2 : Int} {a2 b2 : Option Addr} {c2 d2 : Nat} {l2 k2 : List Int} {s3 t3 : Int} {a3 b3 : Option Addr} {c3 d3 : Nat} {l3 k3 : List Int} {s4 t4 : Int} {a4 b4 : Option Addr} {c4 d4 : Nat} {l4 k4 : List Int} {s5 t5 : Int} {a5 b5 : Option Addr} {c5 d5 : Nat} {l5 k5 : List Int} {s6 t6 : Int} {a6 b6 : Option Addr} {c6 d6 : Nat} {l6 k6 : List Int} (y1 : l1.length ≤ 9223372036854775807) (z1 : k1.length ≤ 9223372036854775807) (i1 : l1.length ≤ 1000000000 → Ints w (.slice a1 l1.length c1) l1) (j1 : k1.length ≤ 1000000000 → Ints w (.slice b1 k1.length d1) k1) (y2 : l2.length ≤ 9223372036854775807) (z2 : k2.length ≤ 9223372036854775807) (i2 : l2.length ≤ 1000000000 → Ints w (.slice a2 l2.length c2) l2) (j2 : k2.length ≤ 1000000000 → Ints w (.slice b2 k2.length d2) k2) (y3 : l3.length ≤ 9223372036854775807) (z3 : k3.length ≤ 9223372036854775807) (i3 : l3.length ≤ 1000000000 → Ints w (.slice a3 l3.length c3) l3) (j3 : k3.length ≤ 1000000000 → Ints w (.slice b3 k3.length d3) k3) (y4 : l4.length ≤ 9223372036854775807) (z4 : k4.length ≤ 9223372036854775807) (i4 : l4.length ≤ 1000000000 → Ints w (.slice a4 l4.length c4) l4) (j4 : k4.length ≤ 1000000000 → Ints w (.slice b4 k4.length d4) k4) (y5 : l5.length ≤ 9223372036854775807) (z5 : k5.length ≤ 9223372036854775807) (i5 : l5.length ≤ 1000000000 → Ints w (.slice a5 l5.length c5) l5) (j5 : k5.length ≤ 1000000000 → Ints w (.slice b5 k5.length d5) k5) (y6 : l6.length ≤ 9223372036854775807) (z6 : k6.length ≤ 9223372036854775807) (i6 : l6.length ≤ 1000000000 → Ints w (.slice a6 l6.length c6) l6) (j6 : k6.length ≤ 1000000000 → Ints w (.slice b6 k6.length d6) k6) :
    Calls Try.prog 3 #[.agg #[.int .i64 s1, .slice a1 l1.length c1, .int .i64 t1, .slice b1 k1.length d1, .int .i64 s2, .slice a2 l2.length c2, .int .i64 t2, .slice b2 k2.length d2], .agg #[.int .i64 s3, .slice a3 l3.length c3, .int .i64 t3, .slice b3 k3.length d3, .int .i64 s4, .slice a4 l4.length c4, .int .i64 t4, .slice b4 k4.length d4], .agg #[.int .i64 s5, .slice a5 l5.length c5, .int .i64 t5, .slice b5 k5.length d5], .agg #[.int .i64 s6, .slice a6 l6.length c6, .int .i64 t6, .slice b6 k6.length d6]] w fun e w' => e = .returned (.bool true) ∧ RowKit.Below w.heap.size w w' := by
  rcases hq : ((((decide ((l1.length : Int) ≤ 4) && decide ((k1.length : Int) ≤ 4)) && (decide ((l2.length : Int) ≤ 4) && decide ((k2.length : Int) ≤ 4))) && ((decide ((l3.length : Int) ≤ 4) && decide ((k3.length : Int) ≤ 4)) && (decide ((l4.length : Int) ≤ 4) && decide ((k4.length : Int) ≤ 4)))) && ((decide ((l5.length : Int) ≤ 4) && decide ((k5.length : Int) ≤ 4)) && (decide ((l6.length : Int) ≤ 4) && decide ((k6.length : Int) ≤ 4)))) with _ | _
  · exact least_no y1 z1 y2 z2 y3 z3 y4 z4 y5 z5 y6 z6 hq
  · simp only [Bool.and_eq_true, decide_eq_true_eq] at hq
    have q1 : l1.length ≤ 4 := by omega
    have p1 : k1.length ≤ 4 := by omega
    have I1 := i1 (by omega)
    have J1 := j1 (by omega)
    have q2 : l2.length ≤ 4 := by omega
    have p2 : k2.length ≤ 4 := by omega
    have I2 := i2 (by omega)
    have J2 := j2 (by omega)
    have q3 : l3.length ≤ 4 := by omega
    have p3 : k3.length ≤ 4 := by omega
    have I3 := i3 (by omega)
    have J3 := j3 (by omega)
    have q4 : l4.length ≤ 4 := by omega
    have p4 : k4.length ≤ 4 := by omega
    have I4 := i4 (by omega)
    have J4 := j4 (by omega)
    have q5 : l5.length ≤ 4 := by omega
    have p5 : k5.length ≤ 4 := by omega
    have I5 := i5 (by omega)
    have J5 := j5 (by omega)
    have q6 : l6.length ≤ 4 := by omega
    have p6 : k6.length ≤ 4 := by omega
    have I6 := i6 (by omega)
    have J6 := j6 (by omega)
    clear hq y1 z1 i1 j1 y2 z2 i2 j2 y3 z3 i3 j3 y4 z4 i4 j4 y5 z5 i5 j5 y6 z6 i6 j6
    rcases hv : (hasB s1 l1 t1 k1 s2 l2 t2 k2 s5 l5 t5 k5 && hasB s3 l3 t3 k3 s4 l4 t4 k4 s6 l6 t6 k6) with _ | _
    · exact least_bad I1 J1 q1 p1 rfl rfl I2 J2 q2 p2 rfl rfl I3 J3 q3 p3 rfl rfl I4 J4 q4 p4 rfl rfl I5 J5 q5 p5 rfl rfl I6 J6 q6 p6 rfl rfl hv
    · simp only [Bool.and_eq_true] at hv
      obtain ⟨v1, v2⟩ := hv
      obtain ⟨va, vc, e1, e2⟩ := hasB_good v1
      obtain ⟨vb, vd, e3, e4⟩ := hasB_good v2
      obtain ⟨x, y, ⟨rfl, rfl, rfl, rfl⟩, ⟨rfl, rfl, rfl, rfl⟩, v12⟩ := sR_good va
      have F1 : Fr w _ _ _ x := ⟨⟨rfl, I1⟩, ⟨(den_sign x).symm, J1⟩⟩
      have S1 : FSz 4 x := ⟨Sz.of q1, Sz.of p1⟩
      have F2 : Fr w _ _ _ y := ⟨⟨rfl, I2⟩, ⟨(den_sign y).symm, J2⟩⟩
      have S2 : FSz 4 y := ⟨Sz.of q2, Sz.of p2⟩
      obtain ⟨p, q, ⟨rfl, rfl, rfl, rfl⟩, ⟨rfl, rfl, rfl, rfl⟩, v34⟩ := sR_good vb
      have F3 : Fr w _ _ _ p := ⟨⟨rfl, I3⟩, ⟨(den_sign p).symm, J3⟩⟩
      have S3 : FSz 4 p := ⟨Sz.of q3, Sz.of p3⟩
      have F4 : Fr w _ _ _ q := ⟨⟨rfl, I4⟩, ⟨(den_sign q).symm, J4⟩⟩
      have S4 : FSz 4 q := ⟨Sz.of q4, Sz.of p4⟩
      obtain ⟨xx, rfl, rfl, rfl, rfl⟩ := fright_of vc
      have F5 : Fr w _ _ _ xx := ⟨⟨rfl, I5⟩, ⟨(den_sign xx).symm, J5⟩⟩
      have S5 : FSz 4 xx := ⟨Sz.of q5, Sz.of p5⟩
      obtain ⟨yy, rfl, rfl, rfl, rfl⟩ := fright_of vd
      have F6 : Fr w _ _ _ yy := ⟨⟨rfl, I6⟩, ⟨(den_sign yy).symm, J6⟩⟩
      have S6 : FSz 4 yy := ⟨Sz.of q6, Sz.of p6⟩
      rw [ratOf_is, ratOf_is] at e1 e2 e3 e4
      exact least_good F1 S1 q1 p1 F2 S2 q2 p2 F3 S3 q3 p3 F4 S4 q4 p4 F5 S5 q5 p5 F6 S6 q6 p6  v12 v34 e1 e2 e3 e4
end Go.Proofs.Ytgncnkojpedmdaa.Sp
