/- The law SpanLaws. -/
import Derived.Test.YtgncnkojpedmdaaPA27
import Derived.Test.YtgncnkojpedmdaaPA28
import Derived.Test.YtgncnkojpedmdaaPA29
import Derived.Test.YtgncnkojpedmdaaPA30
import Derived.Test.YtgncnkojpedmdaaLaw
import Derived.Test.YtgncnkojpedmdaaRows
import Derived.ProofKit
set_option maxRecDepth 100000
namespace Go.Proofs.Ytgncnkojpedmdaa.Sp
open Go.RowKit Bi

set_option maxHeartbeats 8000000 in
theorem laws_no {w : World} {s1 t1 : Int} {a1 b1 : Option Addr} {n1 c1 m1 d1 : Nat} {s2 t2 : Int} {a2 b2 : Option Addr} {n2 c2 m2 d2 : Nat} {s3 t3 : Int} {a3 b3 : Option Addr} {n3 c3 m3 d3 : Nat} {s4 t4 : Int} {a4 b4 : Option Addr} {n4 c4 m4 d4 : Nat} {s5 t5 : Int} {a5 b5 : Option Addr} {n5 c5 m5 d5 : Nat} {s6 t6 : Int} {a6 b6 : Option Addr} {n6 c6 m6 d6 : Nat} (hn1 : n1 ≤ 9223372036854775807) (hm1 : m1 ≤ 9223372036854775807) (hn2 : n2 ≤ 9223372036854775807) (hm2 : m2 ≤ 9223372036854775807) (hn3 : n3 ≤ 9223372036854775807) (hm3 : m3 ≤ 9223372036854775807) (hn4 : n4 ≤ 9223372036854775807) (hm4 : m4 ≤ 9223372036854775807) (hn5 : n5 ≤ 9223372036854775807) (hm5 : m5 ≤ 9223372036854775807) (hn6 : n6 ≤ 9223372036854775807) (hm6 : m6 ≤ 9223372036854775807) (hno : ((((decide ((n1 : Int) ≤ 4) && decide ((m1 : Int) ≤ 4)) && (decide ((n2 : Int) ≤ 4) && decide ((m2 : Int) ≤ 4))) && ((decide ((n3 : Int) ≤ 4) && decide ((m3 : Int) ≤ 4)) && (decide ((n4 : Int) ≤ 4) && decide ((m4 : Int) ≤ 4)))) && ((decide ((n5 : Int) ≤ 4) && decide ((m5 : Int) ≤ 4)) && (decide ((n6 : Int) ≤ 4) && decide ((m6 : Int) ≤ 4)))) = false) :
    Calls Try.prog 5 #[.agg #[.int .i64 s1, .slice a1 n1 c1, .int .i64 t1, .slice b1 m1 d1, .int .i64 s2, .slice a2 n2 c2, .int .i64 t2, .slice b2 m2 d2], .agg #[.int .i64 s3, .slice a3 n3 c3, .int .i64 t3, .slice b3 m3 d3, .int .i64 s4, .slice a4 n4 c4, .int .i64 t4, .slice b4 m4 d4], .agg #[.int .i64 s5, .slice a5 n5 c5, .int .i64 t5, .slice b5 m5 d5, .int .i64 s6, .slice a6 n6 c6, .int .i64 t6, .slice b6 m6 d6]] w fun e w' => e = .returned (.bool true) ∧ RowKit.Below w.heap.size w w' := by
  have MN1 := Lib.hid hn1
  have MM1 := Lib.hid hm1
  have MN2 := Lib.hid hn2
  have MM2 := Lib.hid hm2
  have MN3 := Lib.hid hn3
  have MM3 := Lib.hid hm3
  have MN4 := Lib.hid hn4
  have MM4 := Lib.hid hm4
  have MN5 := Lib.hid hn5
  have MM5 := Lib.hid hm5
  have MN6 := Lib.hid hn6
  have MM6 := Lib.hid hm6
  obtain ⟨r0, hr0⟩ : ∃ r, (((decide ((n1 : Int) ≤ 4) && decide ((m1 : Int) ≤ 4)) && (decide ((n2 : Int) ≤ 4) && decide ((m2 : Int) ≤ 4))) && ((decide ((n3 : Int) ≤ 4) && decide ((m3 : Int) ≤ 4)) && (decide ((n4 : Int) ≤ 4) && decide ((m4 : Int) ≤ 4)))) = r := ⟨_, rfl⟩
  have HT0 := Lib.hid hr0
  obtain ⟨r1, hr1⟩ : ∃ r, ((decide ((n5 : Int) ≤ 4) && decide ((m5 : Int) ≤ 4)) && (decide ((n6 : Int) ≤ 4) && decide ((m6 : Int) ≤ 4))) = r := ⟨_, rfl⟩
  have HT1 := Lib.hid hr1
  rw [hr0, hr1] at hno
  have HNO := Lib.hid hno
  clear hno hn1 hm1 hn2 hm2 hn3 hm3 hn4 hm4 hn5 hm5 hn6 hm6 hr0 hr1
  have s0 := ((((Sf.start w).put [.int .i64 s1, .slice a1 n1 c1, .int .i64 t1, .slice b1 m1 d1, .int .i64 s2, .slice a2 n2 c2, .int .i64 t2, .slice b2 m2 d2] 28).put [.int .i64 s3, .slice a3 n3 c3, .int .i64 t3, .slice b3 m3 d3, .int .i64 s4, .slice a4 n4 c4, .int .i64 t4, .slice b4 m4 d4] 28).put [.int .i64 s5, .slice a5 n5 c5, .int .i64 t5, .slice b5 m5 d5, .int .i64 s6, .slice a6 n6 c6, .int .i64 t6, .slice b6 m6 d6] 28)
  try simp only [World.size_alloc] at s0
  have S0 := Lib.hid s0
  clear s0
  go_enter Try.func5, Try.ntmps5
  go_wp2_with fail
  refine (r10small).mono ?_
  rintro e w11 ⟨rfl, hb⟩
  have R11 := Lib.hid (S0.out.later hb)
  clear hb
  obtain ⟨q1, q2, q3, q4, q5, q6, q7, q8⟩ := Fb.cells8 (R11.out.box (w.heap.size + 1, 28, [.int .i64 s3, .slice a3 n3 c3, .int .i64 t3, .slice b3 m3 d3, .int .i64 s4, .slice a4 n4 c4, .int .i64 t4, .slice b4 m4 d4]) mq1)
  obtain ⟨q9, q10, q11, q12, q13, q14, q15, q16⟩ := Fb.cells8 (R11.out.box (w.heap.size, 28, [.int .i64 s1, .slice a1 n1 c1, .int .i64 t1, .slice b1 m1 d1, .int .i64 s2, .slice a2 n2 c2, .int .i64 t2, .slice b2 m2 d2]) mq2)
  go_wp2_with fail
  clear q1 q2 q3 q4 q5 q6 q7 q8 q9 q10 q11 q12 q13 q14 q15 q16
  refine (l10few (s1 := s1) (t1 := t1) (a1 := a1) (b1 := b1) (c1 := c1) (d1 := d1) (s2 := s2) (t2 := t2) (a2 := a2) (b2 := b2) (c2 := c2) (d2 := d2) (s3 := s3) (t3 := t3) (a3 := a3) (b3 := b3) (c3 := c3) (d3 := d3) (s4 := s4) (t4 := t4) (a4 := a4) (b4 := b4) (c4 := c4) (d4 := d4) MN1.out MM1.out MN2.out MM2.out MN3.out MM3.out MN4.out MM4.out HT0.out).mono ?_
  rintro e w12 ⟨rfl, hb⟩
  have R12 := Lib.hid (R11.out.later hb)
  clear hb
  cases r0
  case false =>
    go_wp2_with fail
    go_ret
    exact ⟨rfl, R12.out.below⟩
  obtain ⟨q17, q18, q19, q20, q21, q22, q23, q24⟩ := Fb.cells8 (R12.out.box (w.heap.size + 1 + 1, 28, [.int .i64 s5, .slice a5 n5 c5, .int .i64 t5, .slice b5 m5 d5, .int .i64 s6, .slice a6 n6 c6, .int .i64 t6, .slice b6 m6 d6]) mq0)
  go_wp2_with fail
  clear q17 q18 q19 q20 q21 q22 q23 q24
  refine (r10few_len (s1 := s5) (t1 := t5) (a1 := a5) (b1 := b5) (c1 := c5) (d1 := d5) (s2 := s6) (t2 := t6) (a2 := a6) (b2 := b6) (c2 := c6) (d2 := d6) (k := 4) MN5.out MM5.out MN6.out MM6.out HT1.out).mono ?_
  rintro e w13 ⟨rfl, hb⟩
  have R13 := Lib.hid (R12.out.later hb)
  clear hb
  cases r1
  case false =>
    go_wp2_with fail
    go_ret
    exact ⟨rfl, R13.out.below⟩
  exact absurd HNO.out (by decide)

set_option maxHeartbeats 8000000 in
theorem laws_bad {w : World} {s1 t1 : Int} {a1 b1 : Option Addr} {n1 c1 m1 d1 : Nat} {l1 k1 : List Int} {s2 t2 : Int} {a2 b2 : Option Addr} {n2 c2 m2 d2 : Nat} {l2 k2 : List Int} {s3 t3 : Int} {a3 b3 : Option Addr} {n3 c3 m3 d3 : Nat} {l3 k3 : List Int} {s4 t4 : Int} {a4 b4 : Option Addr} {n4 c4 m4 d4 : Nat} {l4 k4 : List Int} {s5 t5 : Int} {a5 b5 : Option Addr} {n5 c5 m5 d5 : Nat} {l5 k5 : List Int} {s6 t6 : Int} {a6 b6 : Option Addr} {n6 c6 m6 d6 : Nat} {l6 k6 : List Int} (hl1 : Ints w (.slice a1 n1 c1) l1) (hk1 : Ints w (.slice b1 m1 d1) k1) (hn1 : n1 ≤ 4) (hm1 : m1 ≤ 4) (el1 : l1.length = n1) (ek1 : k1.length = m1) (hl2 : Ints w (.slice a2 n2 c2) l2) (hk2 : Ints w (.slice b2 m2 d2) k2) (hn2 : n2 ≤ 4) (hm2 : m2 ≤ 4) (el2 : l2.length = n2) (ek2 : k2.length = m2) (hl3 : Ints w (.slice a3 n3 c3) l3) (hk3 : Ints w (.slice b3 m3 d3) k3) (hn3 : n3 ≤ 4) (hm3 : m3 ≤ 4) (el3 : l3.length = n3) (ek3 : k3.length = m3) (hl4 : Ints w (.slice a4 n4 c4) l4) (hk4 : Ints w (.slice b4 m4 d4) k4) (hn4 : n4 ≤ 4) (hm4 : m4 ≤ 4) (el4 : l4.length = n4) (ek4 : k4.length = m4) (hl5 : Ints w (.slice a5 n5 c5) l5) (hk5 : Ints w (.slice b5 m5 d5) k5) (hn5 : n5 ≤ 4) (hm5 : m5 ≤ 4) (el5 : l5.length = n5) (ek5 : k5.length = m5) (hl6 : Ints w (.slice a6 n6 c6) l6) (hk6 : Ints w (.slice b6 m6 d6) k6) (hn6 : n6 ≤ 4) (hm6 : m6 ≤ 4) (el6 : l6.length = n6) (ek6 : k6.length = m6) (hno : (sR s1 l1 t1 k1 s2 l2 t2 k2 && (sR s3 l3 t3 k3 s4 l4 t4 k4 && sR s5 l5 t5 k5 s6 l6 t6 k6)) = false) :
    Calls Try.prog 5 #[.agg #[.int .i64 s1, .slice a1 n1 c1, .int .i64 t1, .slice b1 m1 d1, .int .i64 s2, .slice a2 n2 c2, .int .i64 t2, .slice b2 m2 d2], .agg #[.int .i64 s3, .slice a3 n3 c3, .int .i64 t3, .slice b3 m3 d3, .int .i64 s4, .slice a4 n4 c4, .int .i64 t4, .slice b4 m4 d4], .agg #[.int .i64 s5, .slice a5 n5 c5, .int .i64 t5, .slice b5 m5 d5, .int .i64 s6, .slice a6 n6 c6, .int .i64 t6, .slice b6 m6 d6]] w fun e w' => e = .returned (.bool true) ∧ RowKit.Below w.heap.size w w' := by
  have MN1 : Hid (n1 ≤ 9223372036854775807) := Lib.hid (by omega)
  have MM1 : Hid (m1 ≤ 9223372036854775807) := Lib.hid (by omega)
  have LL1 : Hid (l1.length ≤ 1000) := Lib.hid (by omega)
  have LK1 : Hid (k1.length ≤ 1000) := Lib.hid (by omega)
  have MN2 : Hid (n2 ≤ 9223372036854775807) := Lib.hid (by omega)
  have MM2 : Hid (m2 ≤ 9223372036854775807) := Lib.hid (by omega)
  have LL2 : Hid (l2.length ≤ 1000) := Lib.hid (by omega)
  have LK2 : Hid (k2.length ≤ 1000) := Lib.hid (by omega)
  have MN3 : Hid (n3 ≤ 9223372036854775807) := Lib.hid (by omega)
  have MM3 : Hid (m3 ≤ 9223372036854775807) := Lib.hid (by omega)
  have LL3 : Hid (l3.length ≤ 1000) := Lib.hid (by omega)
  have LK3 : Hid (k3.length ≤ 1000) := Lib.hid (by omega)
  have MN4 : Hid (n4 ≤ 9223372036854775807) := Lib.hid (by omega)
  have MM4 : Hid (m4 ≤ 9223372036854775807) := Lib.hid (by omega)
  have LL4 : Hid (l4.length ≤ 1000) := Lib.hid (by omega)
  have LK4 : Hid (k4.length ≤ 1000) := Lib.hid (by omega)
  have MN5 : Hid (n5 ≤ 9223372036854775807) := Lib.hid (by omega)
  have MM5 : Hid (m5 ≤ 9223372036854775807) := Lib.hid (by omega)
  have LL5 : Hid (l5.length ≤ 1000) := Lib.hid (by omega)
  have LK5 : Hid (k5.length ≤ 1000) := Lib.hid (by omega)
  have MN6 : Hid (n6 ≤ 9223372036854775807) := Lib.hid (by omega)
  have MM6 : Hid (m6 ≤ 9223372036854775807) := Lib.hid (by omega)
  have LL6 : Hid (l6.length ≤ 1000) := Lib.hid (by omega)
  have LK6 : Hid (k6.length ≤ 1000) := Lib.hid (by omega)
  have HF0 : Hid ((((decide ((n1 : Int) ≤ 4) && decide ((m1 : Int) ≤ 4)) && (decide ((n2 : Int) ≤ 4) && decide ((m2 : Int) ≤ 4))) && ((decide ((n3 : Int) ≤ 4) && decide ((m3 : Int) ≤ 4)) && (decide ((n4 : Int) ≤ 4) && decide ((m4 : Int) ≤ 4)))) = true) := Lib.hid (by simp; omega)
  have HF1 : Hid (((decide ((n5 : Int) ≤ 4) && decide ((m5 : Int) ≤ 4)) && (decide ((n6 : Int) ≤ 4) && decide ((m6 : Int) ≤ 4))) = true) := Lib.hid (by simp; omega)
  obtain ⟨r0, hr0⟩ : ∃ r, sR s1 l1 t1 k1 s2 l2 t2 k2 = r := ⟨_, rfl⟩
  have HT0 := Lib.hid hr0
  obtain ⟨r1, hr1⟩ : ∃ r, sR s3 l3 t3 k3 s4 l4 t4 k4 = r := ⟨_, rfl⟩
  have HT1 := Lib.hid hr1
  obtain ⟨r2, hr2⟩ : ∃ r, sR s5 l5 t5 k5 s6 l6 t6 k6 = r := ⟨_, rfl⟩
  have HT2 := Lib.hid hr2
  rw [hr0, hr1, hr2] at hno
  have HNO := Lib.hid hno
  have s0 := ((((((((((((((((Sf.start w).arg hk1).arg hl1).arg hk2).arg hl2).arg hk3).arg hl3).arg hk4).arg hl4).arg hk5).arg hl5).arg hk6).arg hl6).put [.int .i64 s1, .slice a1 n1 c1, .int .i64 t1, .slice b1 m1 d1, .int .i64 s2, .slice a2 n2 c2, .int .i64 t2, .slice b2 m2 d2] 28).put [.int .i64 s3, .slice a3 n3 c3, .int .i64 t3, .slice b3 m3 d3, .int .i64 s4, .slice a4 n4 c4, .int .i64 t4, .slice b4 m4 d4] 28).put [.int .i64 s5, .slice a5 n5 c5, .int .i64 t5, .slice b5 m5 d5, .int .i64 s6, .slice a6 n6 c6, .int .i64 t6, .slice b6 m6 d6] 28)
  try simp only [World.size_alloc] at s0
  have S0 := Lib.hid s0
  clear s0
  clear hno hl1 hk1 el1 ek1 hn1 hm1 hl2 hk2 el2 ek2 hn2 hm2 hl3 hk3 el3 ek3 hn3 hm3 hl4 hk4 el4 ek4 hn4 hm4 hl5 hk5 el5 ek5 hn5 hm5 hl6 hk6 el6 ek6 hn6 hm6 hr0 hr1 hr2
  go_enter Try.func5, Try.ntmps5
  go_wp2_with fail
  refine (r10small).mono ?_
  rintro e w11 ⟨rfl, hb⟩
  have R11 := Lib.hid (S0.out.later hb)
  clear hb
  obtain ⟨q1, q2, q3, q4, q5, q6, q7, q8⟩ := Fb.cells8 (R11.out.box (w.heap.size + 1, 28, [.int .i64 s3, .slice a3 n3 c3, .int .i64 t3, .slice b3 m3 d3, .int .i64 s4, .slice a4 n4 c4, .int .i64 t4, .slice b4 m4 d4]) mq1)
  obtain ⟨q9, q10, q11, q12, q13, q14, q15, q16⟩ := Fb.cells8 (R11.out.box (w.heap.size, 28, [.int .i64 s1, .slice a1 n1 c1, .int .i64 t1, .slice b1 m1 d1, .int .i64 s2, .slice a2 n2 c2, .int .i64 t2, .slice b2 m2 d2]) mq2)
  go_wp2_with fail
  clear q1 q2 q3 q4 q5 q6 q7 q8 q9 q10 q11 q12 q13 q14 q15 q16
  refine (l10few (s1 := s1) (t1 := t1) (a1 := a1) (b1 := b1) (c1 := c1) (d1 := d1) (s2 := s2) (t2 := t2) (a2 := a2) (b2 := b2) (c2 := c2) (d2 := d2) (s3 := s3) (t3 := t3) (a3 := a3) (b3 := b3) (c3 := c3) (d3 := d3) (s4 := s4) (t4 := t4) (a4 := a4) (b4 := b4) (c4 := c4) (d4 := d4) MN1.out MM1.out MN2.out MM2.out MN3.out MM3.out MN4.out MM4.out HF0.out).mono ?_
  rintro e w12 ⟨rfl, hb⟩
  have R12 := Lib.hid (R11.out.later hb)
  clear hb
  obtain ⟨q17, q18, q19, q20, q21, q22, q23, q24⟩ := Fb.cells8 (R12.out.box (w.heap.size + 1 + 1, 28, [.int .i64 s5, .slice a5 n5 c5, .int .i64 t5, .slice b5 m5 d5, .int .i64 s6, .slice a6 n6 c6, .int .i64 t6, .slice b6 m6 d6]) mq0)
  go_wp2_with fail
  clear q17 q18 q19 q20 q21 q22 q23 q24
  refine (r10few_len (s1 := s5) (t1 := t5) (a1 := a5) (b1 := b5) (c1 := c5) (d1 := d5) (s2 := s6) (t2 := t6) (a2 := a6) (b2 := b6) (c2 := c6) (d2 := d6) (k := 4) MN5.out MM5.out MN6.out MM6.out HF1.out).mono ?_
  rintro e w13 ⟨rfl, hb⟩
  have R13 := Lib.hid (R12.out.later hb)
  clear hb
  obtain ⟨q25, q26, q27, q28, q29, q30, q31, q32⟩ := Fb.cells8 (R13.out.box (w.heap.size, 28, [.int .i64 s1, .slice a1 n1 c1, .int .i64 t1, .slice b1 m1 d1, .int .i64 s2, .slice a2 n2 c2, .int .i64 t2, .slice b2 m2 d2]) mq2)
  go_wp2_with fail
  clear q25 q26 q27 q28 q29 q30 q31 q32
  refine (p10right_raw (R13.out.ints (.slice a1 n1 c1, l1) mq10) (R13.out.ints (.slice b1 m1 d1, k1) mq11) LL1.out LK1.out (R13.out.ints (.slice a2 n2 c2, l2) mq8) (R13.out.ints (.slice b2 m2 d2, k2) mq9) LL2.out LK2.out HT0.out).mono ?_
  rintro e w14 ⟨rfl, hb⟩
  have R14 := Lib.hid (R13.out.later hb)
  clear hb
  cases r0
  case false =>
    go_wp2_with fail
    go_ret
    exact ⟨rfl, R14.out.below⟩
  obtain ⟨q33, q34, q35, q36, q37, q38, q39, q40⟩ := Fb.cells8 (R14.out.box (w.heap.size + 1, 28, [.int .i64 s3, .slice a3 n3 c3, .int .i64 t3, .slice b3 m3 d3, .int .i64 s4, .slice a4 n4 c4, .int .i64 t4, .slice b4 m4 d4]) mq1)
  go_wp2_with fail
  clear q33 q34 q35 q36 q37 q38 q39 q40
  refine (p10right_raw (R14.out.ints (.slice a3 n3 c3, l3) mq6) (R14.out.ints (.slice b3 m3 d3, k3) mq7) LL3.out LK3.out (R14.out.ints (.slice a4 n4 c4, l4) mq4) (R14.out.ints (.slice b4 m4 d4, k4) mq5) LL4.out LK4.out HT1.out).mono ?_
  rintro e w15 ⟨rfl, hb⟩
  have R15 := Lib.hid (R14.out.later hb)
  clear hb
  cases r1
  case false =>
    go_wp2_with fail
    go_ret
    exact ⟨rfl, R15.out.below⟩
  obtain ⟨q41, q42, q43, q44, q45, q46, q47, q48⟩ := Fb.cells8 (R15.out.box (w.heap.size + 1 + 1, 28, [.int .i64 s5, .slice a5 n5 c5, .int .i64 t5, .slice b5 m5 d5, .int .i64 s6, .slice a6 n6 c6, .int .i64 t6, .slice b6 m6 d6]) mq0)
  go_wp2_with fail
  clear q41 q42 q43 q44 q45 q46 q47 q48
  refine (p10right_raw (R15.out.ints (.slice a5 n5 c5, l5) mq2) (R15.out.ints (.slice b5 m5 d5, k5) mq3) LL5.out LK5.out (R15.out.ints (.slice a6 n6 c6, l6) mq0) (R15.out.ints (.slice b6 m6 d6, k6) mq1) LL6.out LK6.out HT2.out).mono ?_
  rintro e w16 ⟨rfl, hb⟩
  have R16 := Lib.hid (R15.out.later hb)
  clear hb
  cases r2
  case false =>
    go_wp2_with fail
    go_ret
    exact ⟨rfl, R16.out.below⟩
  exact absurd HNO.out (by decide)

set_option maxHeartbeats 64000000 in
theorem laws_good {w : World} {s1 : Int} {a1 b1 : Option Addr} {n1 c1 m1 d1 : Nat} {x : Rat} {s2 : Int} {a2 b2 : Option Addr} {n2 c2 m2 d2 : Nat} {y : Rat} {s3 : Int} {a3 b3 : Option Addr} {n3 c3 m3 d3 : Nat} {p : Rat} {s4 : Int} {a4 b4 : Option Addr} {n4 c4 m4 d4 : Nat} {q : Rat} {s5 : Int} {a5 b5 : Option Addr} {n5 c5 m5 d5 : Nat} {xx : Rat} {s6 : Int} {a6 b6 : Option Addr} {n6 c6 m6 d6 : Nat} {yy : Rat}  (h1 : Fr w s1 (.slice a1 n1 c1) (.slice b1 m1 d1) x) (z1 : FSz 4 x) (hn1 : n1 ≤ 4) (hm1 : m1 ≤ 4) (h2 : Fr w s2 (.slice a2 n2 c2) (.slice b2 m2 d2) y) (z2 : FSz 4 y) (hn2 : n2 ≤ 4) (hm2 : m2 ≤ 4) (h3 : Fr w s3 (.slice a3 n3 c3) (.slice b3 m3 d3) p) (z3 : FSz 4 p) (hn3 : n3 ≤ 4) (hm3 : m3 ≤ 4) (h4 : Fr w s4 (.slice a4 n4 c4) (.slice b4 m4 d4) q) (z4 : FSz 4 q) (hn4 : n4 ≤ 4) (hm4 : m4 ≤ 4) (h5 : Fr w s5 (.slice a5 n5 c5) (.slice b5 m5 d5) xx) (z5 : FSz 4 xx) (hn5 : n5 ≤ 4) (hm5 : m5 ≤ 4) (h6 : Fr w s6 (.slice a6 n6 c6) (.slice b6 m6 d6) yy) (z6 : FSz 4 yy) (hn6 : n6 ≤ 4) (hm6 : m6 ≤ 4)  (hxy : x ≤ y) (hpq : p ≤ q) (huv : xx ≤ yy) :
    Calls Try.prog 5 #[.agg #[.int .i64 s1, .slice a1 n1 c1, .int .i64 1, .slice b1 m1 d1, .int .i64 s2, .slice a2 n2 c2, .int .i64 1, .slice b2 m2 d2], .agg #[.int .i64 s3, .slice a3 n3 c3, .int .i64 1, .slice b3 m3 d3, .int .i64 s4, .slice a4 n4 c4, .int .i64 1, .slice b4 m4 d4], .agg #[.int .i64 s5, .slice a5 n5 c5, .int .i64 1, .slice b5 m5 d5, .int .i64 s6, .slice a6 n6 c6, .int .i64 1, .slice b6 m6 d6]] w fun e w' => e = .returned (.bool true) ∧ RowKit.Below w.heap.size w w' := by
  have MN1 : Hid (n1 ≤ 9223372036854775807) := Lib.hid (by omega)
  have MM1 : Hid (m1 ≤ 9223372036854775807) := Lib.hid (by omega)
  have MN2 : Hid (n2 ≤ 9223372036854775807) := Lib.hid (by omega)
  have MM2 : Hid (m2 ≤ 9223372036854775807) := Lib.hid (by omega)
  have MN3 : Hid (n3 ≤ 9223372036854775807) := Lib.hid (by omega)
  have MM3 : Hid (m3 ≤ 9223372036854775807) := Lib.hid (by omega)
  have MN4 : Hid (n4 ≤ 9223372036854775807) := Lib.hid (by omega)
  have MM4 : Hid (m4 ≤ 9223372036854775807) := Lib.hid (by omega)
  have MN5 : Hid (n5 ≤ 9223372036854775807) := Lib.hid (by omega)
  have MM5 : Hid (m5 ≤ 9223372036854775807) := Lib.hid (by omega)
  have MN6 : Hid (n6 ≤ 9223372036854775807) := Lib.hid (by omega)
  have MM6 : Hid (m6 ≤ 9223372036854775807) := Lib.hid (by omega)
  have E1 := Lib.hid h1.1.1
  have Z1 := Lib.hid z1
  have Y1 := Lib.hid (FSz.mono z1 (j := 400))
  have L1 := Lib.hid (FSz.mono z1 (j := 1000))
  have E2 := Lib.hid h2.1.1
  have Z2 := Lib.hid z2
  have Y2 := Lib.hid (FSz.mono z2 (j := 400))
  have L2 := Lib.hid (FSz.mono z2 (j := 1000))
  have E3 := Lib.hid h3.1.1
  have Z3 := Lib.hid z3
  have Y3 := Lib.hid (FSz.mono z3 (j := 400))
  have L3 := Lib.hid (FSz.mono z3 (j := 1000))
  have E4 := Lib.hid h4.1.1
  have Z4 := Lib.hid z4
  have Y4 := Lib.hid (FSz.mono z4 (j := 400))
  have L4 := Lib.hid (FSz.mono z4 (j := 1000))
  have E5 := Lib.hid h5.1.1
  have Z5 := Lib.hid z5
  have Y5 := Lib.hid (FSz.mono z5 (j := 400))
  have L5 := Lib.hid (FSz.mono z5 (j := 1000))
  have E6 := Lib.hid h6.1.1
  have Z6 := Lib.hid z6
  have Y6 := Lib.hid (FSz.mono z6 (j := 400))
  have L6 := Lib.hid (FSz.mono z6 (j := 1000))
  have HF0 : Hid ((((decide ((n1 : Int) ≤ 4) && decide ((m1 : Int) ≤ 4)) && (decide ((n2 : Int) ≤ 4) && decide ((m2 : Int) ≤ 4))) && ((decide ((n3 : Int) ≤ 4) && decide ((m3 : Int) ≤ 4)) && (decide ((n4 : Int) ≤ 4) && decide ((m4 : Int) ≤ 4)))) = true) := Lib.hid (by simp; omega)
  have HF1 : Hid (((decide ((n5 : Int) ≤ 4) && decide ((m5 : Int) ≤ 4)) && (decide ((n6 : Int) ≤ 4) && decide ((m6 : Int) ≤ 4))) = true) := Lib.hid (by simp; omega)
  have HXY := Lib.hid hxy
  have HPQ := Lib.hid hpq
  have HUV := Lib.hid huv
  have NPQ := Lib.hid (Rat.neg_le_neg hpq)
  have NXY := Lib.hid (Rat.neg_le_neg hxy)
  have QD : Hid ((decide (x - q = x + -q) && decide (y - p = y + -p)) = true) := Lib.hid (pairs_eq (sub_add_neg (x, y) (p, q)))
  have QN : Hid ((decide (- -x = x) && decide (- -y = y)) = true) := Lib.hid (pairs_eq (neg_neg' (x, y)))
  have QH : Hid ((decide (rmin x p = rmin p x) && decide (rmax y q = rmax q y)) = true) := Lib.hid (pairs_eq (hull_comm (x, y) (p, q)))
  have QA : Hid ((decide (rmin (rmin x p) xx = rmin x (rmin p xx)) && decide (rmax (rmax y q) yy = rmax y (rmax q yy))) = true) := Lib.hid (pairs_eq (hull_assoc (x, y) (p, q) (xx, yy)))
  have HHL : Hid (rmin x p ≤ rmax y q) := Lib.hid (hull_le (a := (x, y)) (b := (p, q)) hxy)
  have HKL : Hid (rmin p xx ≤ rmax q yy) := Lib.hid (hull_le (a := (p, q)) (b := (xx, yy)) hpq)
  have ZH1 := Lib.hid (FSz.mono (rmin_sz z1 z3) (j := 400))
  have ZH2 := Lib.hid (FSz.mono (rmax_sz z2 z4) (j := 400))
  have ZK1 := Lib.hid (FSz.mono (rmin_sz z3 z5) (j := 400))
  have ZK2 := Lib.hid (FSz.mono (rmax_sz z4 z6) (j := 400))
  have ZN3 := Lib.hid (FSz.neg z3)
  have ZN4 := Lib.hid (FSz.neg z4)
  have ZX1 := Lib.hid (FSz.mono (FSz.neg z1) (j := 1000))
  have ZX2 := Lib.hid (FSz.mono (FSz.neg z2) (j := 1000))
  have ZS1 : Hid (FSz 9 (p + xx)) := Lib.hid (FSz.add z3 z5)
  have ZS2 : Hid (FSz 9 (q + yy)) := Lib.hid (FSz.add z4 z6)
  have LSU : Hid (p + xx ≤ q + yy) := Lib.hid (is_add (a := (p, q)) (b := (xx, yy)) hpq huv).le
  obtain ⟨m, hm⟩ : ∃ r, mulS (x, y) (p + xx, q + yy) = r := ⟨_, rfl⟩
  obtain ⟨mv, hmv⟩ : ∃ r, mulS (x, y) (p, q) = r := ⟨_, rfl⟩
  obtain ⟨mw, hmw⟩ : ∃ r, mulS (x, y) (xx, yy) = r := ⟨_, rfl⟩
  have HM := Lib.hid hm
  have HM1 := Lib.hid hmv
  have HM2 := Lib.hid hmw
  have SM0 := Lib.hid (conS_sz (k := 13) (FSz.mul z1 ZS1.out) (FSz.mul z2 ZS1.out) (FSz.mul z1 ZS2.out) (FSz.mul z2 ZS2.out) hm)
  have SM1 := Lib.hid (conS_sz (k := 8) (FSz.mul z1 z3) (FSz.mul z2 z3) (FSz.mul z1 z4) (FSz.mul z2 z4) hmv)
  have SM2 := Lib.hid (conS_sz (k := 8) (FSz.mul z1 z5) (FSz.mul z2 z5) (FSz.mul z1 z6) (FSz.mul z2 z6) hmw)
  have LM : Hid (m.1 ≤ m.2) := Lib.hid (by rw [← hm]; exact (is_mul (a := (x, y)) (b := (p + xx, q + yy)) hxy LSU.out).le)
  have LM1 : Hid (mv.1 ≤ mv.2) := Lib.hid (by rw [← hmv]; exact (is_mul (a := (x, y)) (b := (p, q)) hxy hpq).le)
  have LM2 : Hid (mw.1 ≤ mw.2) := Lib.hid (by rw [← hmw]; exact (is_mul (a := (x, y)) (b := (xx, yy)) hxy huv).le)
  have LP1 : Hid (mv.1 + mw.1 ≤ mv.2 + mw.2) := Lib.hid (is_add (a := (mv.1, mv.2)) (b := (mw.1, mw.2)) LM1.out LM2.out).le
  have ZP1 : Hid (FSz 17 (mv.1 + mw.1)) := Lib.hid (FSz.add SM1.out.1 SM2.out.1)
  have ZP2 : Hid (FSz 17 (mv.2 + mw.2)) := Lib.hid (FSz.add SM1.out.2 SM2.out.2)
  have QS : Hid ((decide (mv.1 + mw.1 ≤ m.1) && decide (m.2 ≤ mv.2 + mw.2)) = true) := Lib.hid (by
    have := sub_b (subdist (a := (x, y)) (b := (p, q)) (c := (xx, yy)) hxy hpq huv)
    rw [show addS (p, q) (xx, yy) = (p + xx, q + yy) from rfl, hm, hmv, hmw] at this
    exact this)
  have s0 := ((((((((((((((((Sf.start w).arg h1.2.2).arg h1.1.2).arg h2.2.2).arg h2.1.2).arg h3.2.2).arg h3.1.2).arg h4.2.2).arg h4.1.2).arg h5.2.2).arg h5.1.2).arg h6.2.2).arg h6.1.2).put [.int .i64 s1, .slice a1 n1 c1, .int .i64 1, .slice b1 m1 d1, .int .i64 s2, .slice a2 n2 c2, .int .i64 1, .slice b2 m2 d2] 28).put [.int .i64 s3, .slice a3 n3 c3, .int .i64 1, .slice b3 m3 d3, .int .i64 s4, .slice a4 n4 c4, .int .i64 1, .slice b4 m4 d4] 28).put [.int .i64 s5, .slice a5 n5 c5, .int .i64 1, .slice b5 m5 d5, .int .i64 s6, .slice a6 n6 c6, .int .i64 1, .slice b6 m6 d6] 28)
  try simp only [World.size_alloc] at s0
  have S0 := Lib.hid s0
  clear s0
  clear h1 z1 hn1 hm1 h2 z2 hn2 hm2 h3 z3 hn3 hm3 h4 z4 hn4 hm4 h5 z5 hn5 hm5 h6 z6 hn6 hm6  hxy hpq huv hm hmv hmw
  go_enter Try.func5, Try.ntmps5
  go_wp2_with fail
  refine (r10small).mono ?_
  rintro e w11 ⟨rfl, hb⟩
  have R11 := Lib.hid (S0.out.later hb)
  clear hb
  obtain ⟨q1, q2, q3, q4, q5, q6, q7, q8⟩ := Fb.cells8 (R11.out.box (w.heap.size + 1, 28, [.int .i64 s3, .slice a3 n3 c3, .int .i64 1, .slice b3 m3 d3, .int .i64 s4, .slice a4 n4 c4, .int .i64 1, .slice b4 m4 d4]) mq1)
  obtain ⟨q9, q10, q11, q12, q13, q14, q15, q16⟩ := Fb.cells8 (R11.out.box (w.heap.size, 28, [.int .i64 s1, .slice a1 n1 c1, .int .i64 1, .slice b1 m1 d1, .int .i64 s2, .slice a2 n2 c2, .int .i64 1, .slice b2 m2 d2]) mq2)
  go_wp2_with fail
  clear q1 q2 q3 q4 q5 q6 q7 q8 q9 q10 q11 q12 q13 q14 q15 q16
  refine (l10few (s1 := s1) (t1 := 1) (a1 := a1) (b1 := b1) (c1 := c1) (d1 := d1) (s2 := s2) (t2 := 1) (a2 := a2) (b2 := b2) (c2 := c2) (d2 := d2) (s3 := s3) (t3 := 1) (a3 := a3) (b3 := b3) (c3 := c3) (d3 := d3) (s4 := s4) (t4 := 1) (a4 := a4) (b4 := b4) (c4 := c4) (d4 := d4) MN1.out MM1.out MN2.out MM2.out MN3.out MM3.out MN4.out MM4.out HF0.out).mono ?_
  rintro e w12 ⟨rfl, hb⟩
  have R12 := Lib.hid (R11.out.later hb)
  clear hb
  obtain ⟨q17, q18, q19, q20, q21, q22, q23, q24⟩ := Fb.cells8 (R12.out.box (w.heap.size + 1 + 1, 28, [.int .i64 s5, .slice a5 n5 c5, .int .i64 1, .slice b5 m5 d5, .int .i64 s6, .slice a6 n6 c6, .int .i64 1, .slice b6 m6 d6]) mq0)
  go_wp2_with fail
  clear q17 q18 q19 q20 q21 q22 q23 q24
  refine (r10few_len (s1 := s5) (t1 := 1) (a1 := a5) (b1 := b5) (c1 := c5) (d1 := d5) (s2 := s6) (t2 := 1) (a2 := a6) (b2 := b6) (c2 := c6) (d2 := d6) (k := 4) MN5.out MM5.out MN6.out MM6.out HF1.out).mono ?_
  rintro e w13 ⟨rfl, hb⟩
  have R13 := Lib.hid (R12.out.later hb)
  clear hb
  obtain ⟨q25, q26, q27, q28, q29, q30, q31, q32⟩ := Fb.cells8 (R13.out.box (w.heap.size, 28, [.int .i64 s1, .slice a1 n1 c1, .int .i64 1, .slice b1 m1 d1, .int .i64 s2, .slice a2 n2 c2, .int .i64 1, .slice b2 m2 d2]) mq2)
  go_wp2_with fail
  clear q25 q26 q27 q28 q29 q30 q31 q32
  refine (p10right_v (r := true) (R13.out.fr (v := .slice a1 n1 c1) (u := .slice b1 m1 d1) (r := x) mq10 mq11 E1.out) L1.out (R13.out.fr (v := .slice a2 n2 c2) (u := .slice b2 m2 d2) (r := y) mq8 mq9 E2.out) L2.out (decide_eq_true HXY.out)).mono ?_
  rintro e w14 ⟨rfl, hb⟩
  have R14 := Lib.hid (R13.out.later hb)
  clear hb
  obtain ⟨q33, q34, q35, q36, q37, q38, q39, q40⟩ := Fb.cells8 (R14.out.box (w.heap.size + 1, 28, [.int .i64 s3, .slice a3 n3 c3, .int .i64 1, .slice b3 m3 d3, .int .i64 s4, .slice a4 n4 c4, .int .i64 1, .slice b4 m4 d4]) mq1)
  go_wp2_with fail
  clear q33 q34 q35 q36 q37 q38 q39 q40
  refine (p10right_v (r := true) (R14.out.fr (v := .slice a3 n3 c3) (u := .slice b3 m3 d3) (r := p) mq6 mq7 E3.out) L3.out (R14.out.fr (v := .slice a4 n4 c4) (u := .slice b4 m4 d4) (r := q) mq4 mq5 E4.out) L4.out (decide_eq_true HPQ.out)).mono ?_
  rintro e w15 ⟨rfl, hb⟩
  have R15 := Lib.hid (R14.out.later hb)
  clear hb
  obtain ⟨q41, q42, q43, q44, q45, q46, q47, q48⟩ := Fb.cells8 (R15.out.box (w.heap.size + 1 + 1, 28, [.int .i64 s5, .slice a5 n5 c5, .int .i64 1, .slice b5 m5 d5, .int .i64 s6, .slice a6 n6 c6, .int .i64 1, .slice b6 m6 d6]) mq0)
  go_wp2_with fail
  clear q41 q42 q43 q44 q45 q46 q47 q48
  refine (p10right_v (r := true) (R15.out.fr (v := .slice a5 n5 c5) (u := .slice b5 m5 d5) (r := xx) mq2 mq3 E5.out) L5.out (R15.out.fr (v := .slice a6 n6 c6) (u := .slice b6 m6 d6) (r := yy) mq0 mq1 E6.out) L6.out (decide_eq_true HUV.out)).mono ?_
  rintro e w16 ⟨rfl, hb⟩
  have R16 := Lib.hid (R15.out.later hb)
  clear hb
  obtain ⟨q49, q50, q51, q52, q53, q54, q55, q56⟩ := Fb.cells8 (R16.out.box (w.heap.size + 1 + 1, 28, [.int .i64 s5, .slice a5 n5 c5, .int .i64 1, .slice b5 m5 d5, .int .i64 s6, .slice a6 n6 c6, .int .i64 1, .slice b6 m6 d6]) mq0)
  obtain ⟨q57, q58, q59, q60, q61, q62, q63, q64⟩ := Fb.cells8 (R16.out.box (w.heap.size + 1, 28, [.int .i64 s3, .slice a3 n3 c3, .int .i64 1, .slice b3 m3 d3, .int .i64 s4, .slice a4 n4 c4, .int .i64 1, .slice b4 m4 d4]) mq1)
  obtain ⟨q65, q66, q67, q68, q69, q70, q71, q72⟩ := Fb.cells8 (R16.out.box (w.heap.size, 28, [.int .i64 s1, .slice a1 n1 c1, .int .i64 1, .slice b1 m1 d1, .int .i64 s2, .slice a2 n2 c2, .int .i64 1, .slice b2 m2 d2]) mq2)
  go_wp2_with fail
  clear q49 q50 q51 q52 q53 q54 q55 q56 q57 q58 q59 q60 q61 q62 q63 q64 q65 q66 q67 q68 q69 q70 q71 q72
  refine (p10turns (k := 0) (.inl rfl) (R16.out.fr (v := .slice a1 n1 c1) (u := .slice b1 m1 d1) (r := x) mq10 mq11 E1.out) Z1.out (R16.out.fr (v := .slice a2 n2 c2) (u := .slice b2 m2 d2) (r := y) mq8 mq9 E2.out) Z2.out (R16.out.fr (v := .slice a3 n3 c3) (u := .slice b3 m3 d3) (r := p) mq6 mq7 E3.out) Z3.out (R16.out.fr (v := .slice a4 n4 c4) (u := .slice b4 m4 d4) (r := q) mq4 mq5 E4.out) Z4.out (R16.out.fr (v := .slice a5 n5 c5) (u := .slice b5 m5 d5) (r := xx) mq2 mq3 E5.out) Z5.out (R16.out.fr (v := .slice a6 n6 c6) (u := .slice b6 m6 d6) (r := yy) mq0 mq1 E6.out) Z6.out HXY.out HPQ.out HUV.out).mono ?_
  rintro e w17 ⟨rfl, hb⟩
  have R17 := Lib.hid (R16.out.later hb)
  clear hb
  obtain ⟨q73, q74, q75, q76, q77, q78, q79, q80⟩ := Fb.cells8 (R17.out.box (w.heap.size + 1 + 1, 28, [.int .i64 s5, .slice a5 n5 c5, .int .i64 1, .slice b5 m5 d5, .int .i64 s6, .slice a6 n6 c6, .int .i64 1, .slice b6 m6 d6]) mq0)
  obtain ⟨q81, q82, q83, q84, q85, q86, q87, q88⟩ := Fb.cells8 (R17.out.box (w.heap.size + 1, 28, [.int .i64 s3, .slice a3 n3 c3, .int .i64 1, .slice b3 m3 d3, .int .i64 s4, .slice a4 n4 c4, .int .i64 1, .slice b4 m4 d4]) mq1)
  obtain ⟨q89, q90, q91, q92, q93, q94, q95, q96⟩ := Fb.cells8 (R17.out.box (w.heap.size, 28, [.int .i64 s1, .slice a1 n1 c1, .int .i64 1, .slice b1 m1 d1, .int .i64 s2, .slice a2 n2 c2, .int .i64 1, .slice b2 m2 d2]) mq2)
  go_wp2_with fail
  clear q73 q74 q75 q76 q77 q78 q79 q80 q81 q82 q83 q84 q85 q86 q87 q88 q89 q90 q91 q92 q93 q94 q95 q96
  refine (p10turns (k := 2) (.inr (.inl rfl)) (R17.out.fr (v := .slice a1 n1 c1) (u := .slice b1 m1 d1) (r := x) mq10 mq11 E1.out) Z1.out (R17.out.fr (v := .slice a2 n2 c2) (u := .slice b2 m2 d2) (r := y) mq8 mq9 E2.out) Z2.out (R17.out.fr (v := .slice a3 n3 c3) (u := .slice b3 m3 d3) (r := p) mq6 mq7 E3.out) Z3.out (R17.out.fr (v := .slice a4 n4 c4) (u := .slice b4 m4 d4) (r := q) mq4 mq5 E4.out) Z4.out (R17.out.fr (v := .slice a5 n5 c5) (u := .slice b5 m5 d5) (r := xx) mq2 mq3 E5.out) Z5.out (R17.out.fr (v := .slice a6 n6 c6) (u := .slice b6 m6 d6) (r := yy) mq0 mq1 E6.out) Z6.out HXY.out HPQ.out HUV.out).mono ?_
  rintro e w18 ⟨rfl, hb⟩
  have R18 := Lib.hid (R17.out.later hb)
  clear hb
  obtain ⟨q97, q98, q99, q100, q101, q102, q103, q104⟩ := Fb.cells8 (R18.out.box (w.heap.size + 1 + 1, 28, [.int .i64 s5, .slice a5 n5 c5, .int .i64 1, .slice b5 m5 d5, .int .i64 s6, .slice a6 n6 c6, .int .i64 1, .slice b6 m6 d6]) mq0)
  obtain ⟨q105, q106, q107, q108, q109, q110, q111, q112⟩ := Fb.cells8 (R18.out.box (w.heap.size + 1, 28, [.int .i64 s3, .slice a3 n3 c3, .int .i64 1, .slice b3 m3 d3, .int .i64 s4, .slice a4 n4 c4, .int .i64 1, .slice b4 m4 d4]) mq1)
  obtain ⟨q113, q114, q115, q116, q117, q118, q119, q120⟩ := Fb.cells8 (R18.out.box (w.heap.size, 28, [.int .i64 s1, .slice a1 n1 c1, .int .i64 1, .slice b1 m1 d1, .int .i64 s2, .slice a2 n2 c2, .int .i64 1, .slice b2 m2 d2]) mq2)
  go_wp2_with fail
  clear q97 q98 q99 q100 q101 q102 q103 q104 q105 q106 q107 q108 q109 q110 q111 q112 q113 q114 q115 q116 q117 q118 q119 q120
  refine (p10turns (k := 4) (.inr (.inr (.inl rfl))) (R18.out.fr (v := .slice a1 n1 c1) (u := .slice b1 m1 d1) (r := x) mq10 mq11 E1.out) Z1.out (R18.out.fr (v := .slice a2 n2 c2) (u := .slice b2 m2 d2) (r := y) mq8 mq9 E2.out) Z2.out (R18.out.fr (v := .slice a3 n3 c3) (u := .slice b3 m3 d3) (r := p) mq6 mq7 E3.out) Z3.out (R18.out.fr (v := .slice a4 n4 c4) (u := .slice b4 m4 d4) (r := q) mq4 mq5 E4.out) Z4.out (R18.out.fr (v := .slice a5 n5 c5) (u := .slice b5 m5 d5) (r := xx) mq2 mq3 E5.out) Z5.out (R18.out.fr (v := .slice a6 n6 c6) (u := .slice b6 m6 d6) (r := yy) mq0 mq1 E6.out) Z6.out HXY.out HPQ.out HUV.out).mono ?_
  rintro e w19 ⟨rfl, hb⟩
  have R19 := Lib.hid (R18.out.later hb)
  clear hb
  obtain ⟨q121, q122, q123, q124, q125, q126, q127, q128⟩ := Fb.cells8 (R19.out.box (w.heap.size + 1 + 1, 28, [.int .i64 s5, .slice a5 n5 c5, .int .i64 1, .slice b5 m5 d5, .int .i64 s6, .slice a6 n6 c6, .int .i64 1, .slice b6 m6 d6]) mq0)
  obtain ⟨q129, q130, q131, q132, q133, q134, q135, q136⟩ := Fb.cells8 (R19.out.box (w.heap.size + 1, 28, [.int .i64 s3, .slice a3 n3 c3, .int .i64 1, .slice b3 m3 d3, .int .i64 s4, .slice a4 n4 c4, .int .i64 1, .slice b4 m4 d4]) mq1)
  obtain ⟨q137, q138, q139, q140, q141, q142, q143, q144⟩ := Fb.cells8 (R19.out.box (w.heap.size, 28, [.int .i64 s1, .slice a1 n1 c1, .int .i64 1, .slice b1 m1 d1, .int .i64 s2, .slice a2 n2 c2, .int .i64 1, .slice b2 m2 d2]) mq2)
  go_wp2_with fail
  clear q121 q122 q123 q124 q125 q126 q127 q128 q129 q130 q131 q132 q133 q134 q135 q136 q137 q138 q139 q140 q141 q142 q143 q144
  refine (p10turns (k := 5) (.inr (.inr (.inr rfl))) (R19.out.fr (v := .slice a1 n1 c1) (u := .slice b1 m1 d1) (r := x) mq10 mq11 E1.out) Z1.out (R19.out.fr (v := .slice a2 n2 c2) (u := .slice b2 m2 d2) (r := y) mq8 mq9 E2.out) Z2.out (R19.out.fr (v := .slice a3 n3 c3) (u := .slice b3 m3 d3) (r := p) mq6 mq7 E3.out) Z3.out (R19.out.fr (v := .slice a4 n4 c4) (u := .slice b4 m4 d4) (r := q) mq4 mq5 E4.out) Z4.out (R19.out.fr (v := .slice a5 n5 c5) (u := .slice b5 m5 d5) (r := xx) mq2 mq3 E5.out) Z5.out (R19.out.fr (v := .slice a6 n6 c6) (u := .slice b6 m6 d6) (r := yy) mq0 mq1 E6.out) Z6.out HXY.out HPQ.out HUV.out).mono ?_
  rintro e w20 ⟨rfl, hb⟩
  have R20 := Lib.hid (R19.out.later hb)
  clear hb
  obtain ⟨q145, q146, q147, q148, q149, q150, q151, q152⟩ := Fb.cells8 (R20.out.box (w.heap.size + 1, 28, [.int .i64 s3, .slice a3 n3 c3, .int .i64 1, .slice b3 m3 d3, .int .i64 s4, .slice a4 n4 c4, .int .i64 1, .slice b4 m4 d4]) mq1)
  obtain ⟨q153, q154, q155, q156, q157, q158, q159, q160⟩ := Fb.cells8 (R20.out.box (w.heap.size, 28, [.int .i64 s1, .slice a1 n1 c1, .int .i64 1, .slice b1 m1 d1, .int .i64 s2, .slice a2 n2 c2, .int .i64 1, .slice b2 m2 d2]) mq2)
  go_wp2_with fail
  clear q145 q146 q147 q148 q149 q150 q151 q152 q153 q154 q155 q156 q157 q158 q159 q160
  refine (p10sub (R20.out.fr (v := .slice a1 n1 c1) (u := .slice b1 m1 d1) (r := x) mq10 mq11 E1.out) Y1.out (R20.out.fr (v := .slice a2 n2 c2) (u := .slice b2 m2 d2) (r := y) mq8 mq9 E2.out) Y2.out (R20.out.fr (v := .slice a3 n3 c3) (u := .slice b3 m3 d3) (r := p) mq6 mq7 E3.out) Y3.out (R20.out.fr (v := .slice a4 n4 c4) (u := .slice b4 m4 d4) (r := q) mq4 mq5 E4.out) Y4.out HXY.out HPQ.out (r := (x - q, y - p)) rfl).mono ?_
  rintro e w21 ⟨c21, d21, rfl, h1, h2, hb, ho⟩
  have EC21 := Lib.hid h1.1.1
  have ED21 := Lib.hid h2.1.1
  have R21 := Lib.hid (Sf.span R20.out hb h1 h2 (fun x hx => ho x.1 (R20.out.lt x hx)))
  clear h1 h2 hb ho
  have P161 := Lib.hid (R21.out.put [.int .i64 0, .slice none 0 0, .int .i64 0, .slice none 0 0, .int .i64 0, .slice none 0 0, .int .i64 0, .slice none 0 0] 28)
  have Q161 := Lib.hid (Sf.row (pre := []) P161.out [.int .i64 c21.s, .slice c21.a c21.n c21.c, .int .i64 1, .slice c21.b c21.m c21.d, .int .i64 d21.s, .slice d21.a d21.n d21.c, .int .i64 1, .slice d21.b d21.m d21.d])
  obtain ⟨V161, hV161⟩ : ∃ V, ((w21.alloc (.cells #[.int .i64 0, .slice none 0 0, .int .i64 0, .slice none 0 0, .int .i64 0, .slice none 0 0, .int .i64 0, .slice none 0 0] 28)).setRow w21.heap.size #[.int .i64 c21.s, .slice c21.a c21.n c21.c, .int .i64 1, .slice c21.b c21.m c21.d, .int .i64 d21.s, .slice d21.a d21.n d21.c, .int .i64 1, .slice d21.b d21.m d21.d]) = V := ⟨_, rfl⟩
  rw [hV161] at Q161
  have HV161 := Lib.hid hV161
  clear hV161 R21
  go_upto_region 7 with (first | (refine wpList_store_row rfl _ _ _ rfl _ #[.int .i64 c21.s, .slice c21.a c21.n c21.c, .int .i64 1, .slice c21.b c21.m c21.d, .int .i64 d21.s, .slice d21.a d21.n d21.c, .int .i64 1, .slice d21.b d21.m d21.d] rfl rfl _ _ (P161.out.box _ List.mem_cons_self) (by kernel_rfl) rfl (by simp [Value.oneCell']) ?_; rw [HV161.out]))
  go_cut [10, 11] from 90 to 96 (fun u v wx => v = .int .i64 0 ∧ Hid (∃ (gq : Nat) (cq dq : FCell), u = .pointer (some ⟨gq, 0, none⟩) ∧ cq.s = ((x + -q)).num.sign ∧ dq.s = ((y + -p)).num.sign ∧ Sf w ((gq, 28, [.int .i64 cq.s, .slice cq.a cq.n cq.c, .int .i64 1, .slice cq.b cq.m cq.d, .int .i64 dq.s, .slice dq.a dq.n dq.c, .int .i64 1, .slice dq.b dq.m dq.d]) :: [(w21.heap.size, 28, [.int .i64 c21.s, .slice c21.a c21.n c21.c, .int .i64 1, .slice c21.b c21.m c21.d, .int .i64 d21.s, .slice d21.a d21.n d21.c, .int .i64 1, .slice d21.b d21.m d21.d]), (w.heap.size + 1 + 1, 28, [.int .i64 s5, .slice a5 n5 c5, .int .i64 1, .slice b5 m5 d5, .int .i64 s6, .slice a6 n6 c6, .int .i64 1, .slice b6 m6 d6]), (w.heap.size + 1, 28, [.int .i64 s3, .slice a3 n3 c3, .int .i64 1, .slice b3 m3 d3, .int .i64 s4, .slice a4 n4 c4, .int .i64 1, .slice b4 m4 d4]), (w.heap.size, 28, [.int .i64 s1, .slice a1 n1 c1, .int .i64 1, .slice b1 m1 d1, .int .i64 s2, .slice a2 n2 c2, .int .i64 1, .slice b2 m2 d2])]) [(.slice cq.a cq.n cq.c, digs ((x + -q)).num.natAbs), (.slice cq.b cq.m cq.d, digs ((((x + -q)).den : Int)).natAbs), (.slice dq.a dq.n dq.c, digs ((y + -p)).num.natAbs), (.slice dq.b dq.m dq.d, digs ((((y + -p)).den : Int)).natAbs), (.slice c21.a c21.n c21.c, digs ((x - q)).num.natAbs), (.slice c21.b c21.m c21.d, digs ((((x - q)).den : Int)).natAbs), (.slice d21.a d21.n d21.c, digs ((y - p)).num.natAbs), (.slice d21.b d21.m d21.d, digs ((((y - p)).den : Int)).natAbs), (.slice a6 n6 c6, digs (yy).num.natAbs), (.slice b6 m6 d6, digs (((yy).den : Int)).natAbs), (.slice a5 n5 c5, digs (xx).num.natAbs), (.slice b5 m5 d5, digs (((xx).den : Int)).natAbs), (.slice a4 n4 c4, digs (q).num.natAbs), (.slice b4 m4 d4, digs (((q).den : Int)).natAbs), (.slice a3 n3 c3, digs (p).num.natAbs), (.slice b3 m3 d3, digs (((p).den : Int)).natAbs), (.slice a2 n2 c2, digs (y).num.natAbs), (.slice b2 m2 d2, digs (((y).den : Int)).natAbs), (.slice a1 n1 c1, digs (x).num.natAbs), (.slice b1 m1 d1, digs (((x).den : Int)).natAbs)] wx))
  case first =>
    have K0 : ∀ W F, Sf w [(w21.heap.size, 28, [.int .i64 c21.s, .slice c21.a c21.n c21.c, .int .i64 1, .slice c21.b c21.m c21.d, .int .i64 d21.s, .slice d21.a d21.n d21.c, .int .i64 1, .slice d21.b d21.m d21.d]), (w.heap.size + 1 + 1, 28, [.int .i64 s5, .slice a5 n5 c5, .int .i64 1, .slice b5 m5 d5, .int .i64 s6, .slice a6 n6 c6, .int .i64 1, .slice b6 m6 d6]), (w.heap.size + 1, 28, [.int .i64 s3, .slice a3 n3 c3, .int .i64 1, .slice b3 m3 d3, .int .i64 s4, .slice a4 n4 c4, .int .i64 1, .slice b4 m4 d4]), (w.heap.size, 28, [.int .i64 s1, .slice a1 n1 c1, .int .i64 1, .slice b1 m1 d1, .int .i64 s2, .slice a2 n2 c2, .int .i64 1, .slice b2 m2 d2])] F W → W.cell? ⟨w.heap.size, 0, none⟩ = some (.int .i64 s1) ∧ W.cell? ⟨w.heap.size, 1, none⟩ = some (.slice a1 n1 c1) ∧ W.cell? ⟨w.heap.size, 2, none⟩ = some (.int .i64 1) ∧ W.cell? ⟨w.heap.size, 3, none⟩ = some (.slice b1 m1 d1) ∧ W.cell? ⟨w.heap.size, 4, none⟩ = some (.int .i64 s2) ∧ W.cell? ⟨w.heap.size, 5, none⟩ = some (.slice a2 n2 c2) ∧ W.cell? ⟨w.heap.size, 6, none⟩ = some (.int .i64 1) ∧ W.cell? ⟨w.heap.size, 7, none⟩ = some (.slice b2 m2 d2) ∧ W.cell? ⟨w.heap.size + 1, 0, none⟩ = some (.int .i64 s3) ∧ W.cell? ⟨w.heap.size + 1, 1, none⟩ = some (.slice a3 n3 c3) ∧ W.cell? ⟨w.heap.size + 1, 2, none⟩ = some (.int .i64 1) ∧ W.cell? ⟨w.heap.size + 1, 3, none⟩ = some (.slice b3 m3 d3) ∧ W.cell? ⟨w.heap.size + 1, 4, none⟩ = some (.int .i64 s4) ∧ W.cell? ⟨w.heap.size + 1, 5, none⟩ = some (.slice a4 n4 c4) ∧ W.cell? ⟨w.heap.size + 1, 6, none⟩ = some (.int .i64 1) ∧ W.cell? ⟨w.heap.size + 1, 7, none⟩ = some (.slice b4 m4 d4) := fun W F h => ⟨(h.box (w.heap.size, 28, [.int .i64 s1, .slice a1 n1 c1, .int .i64 1, .slice b1 m1 d1, .int .i64 s2, .slice a2 n2 c2, .int .i64 1, .slice b2 m2 d2]) mq3).cell 0, (h.box (w.heap.size, 28, [.int .i64 s1, .slice a1 n1 c1, .int .i64 1, .slice b1 m1 d1, .int .i64 s2, .slice a2 n2 c2, .int .i64 1, .slice b2 m2 d2]) mq3).cell 1, (h.box (w.heap.size, 28, [.int .i64 s1, .slice a1 n1 c1, .int .i64 1, .slice b1 m1 d1, .int .i64 s2, .slice a2 n2 c2, .int .i64 1, .slice b2 m2 d2]) mq3).cell 2, (h.box (w.heap.size, 28, [.int .i64 s1, .slice a1 n1 c1, .int .i64 1, .slice b1 m1 d1, .int .i64 s2, .slice a2 n2 c2, .int .i64 1, .slice b2 m2 d2]) mq3).cell 3, (h.box (w.heap.size, 28, [.int .i64 s1, .slice a1 n1 c1, .int .i64 1, .slice b1 m1 d1, .int .i64 s2, .slice a2 n2 c2, .int .i64 1, .slice b2 m2 d2]) mq3).cell 4, (h.box (w.heap.size, 28, [.int .i64 s1, .slice a1 n1 c1, .int .i64 1, .slice b1 m1 d1, .int .i64 s2, .slice a2 n2 c2, .int .i64 1, .slice b2 m2 d2]) mq3).cell 5, (h.box (w.heap.size, 28, [.int .i64 s1, .slice a1 n1 c1, .int .i64 1, .slice b1 m1 d1, .int .i64 s2, .slice a2 n2 c2, .int .i64 1, .slice b2 m2 d2]) mq3).cell 6, (h.box (w.heap.size, 28, [.int .i64 s1, .slice a1 n1 c1, .int .i64 1, .slice b1 m1 d1, .int .i64 s2, .slice a2 n2 c2, .int .i64 1, .slice b2 m2 d2]) mq3).cell 7, (h.box (w.heap.size + 1, 28, [.int .i64 s3, .slice a3 n3 c3, .int .i64 1, .slice b3 m3 d3, .int .i64 s4, .slice a4 n4 c4, .int .i64 1, .slice b4 m4 d4]) mq2).cell 0, (h.box (w.heap.size + 1, 28, [.int .i64 s3, .slice a3 n3 c3, .int .i64 1, .slice b3 m3 d3, .int .i64 s4, .slice a4 n4 c4, .int .i64 1, .slice b4 m4 d4]) mq2).cell 1, (h.box (w.heap.size + 1, 28, [.int .i64 s3, .slice a3 n3 c3, .int .i64 1, .slice b3 m3 d3, .int .i64 s4, .slice a4 n4 c4, .int .i64 1, .slice b4 m4 d4]) mq2).cell 2, (h.box (w.heap.size + 1, 28, [.int .i64 s3, .slice a3 n3 c3, .int .i64 1, .slice b3 m3 d3, .int .i64 s4, .slice a4 n4 c4, .int .i64 1, .slice b4 m4 d4]) mq2).cell 3, (h.box (w.heap.size + 1, 28, [.int .i64 s3, .slice a3 n3 c3, .int .i64 1, .slice b3 m3 d3, .int .i64 s4, .slice a4 n4 c4, .int .i64 1, .slice b4 m4 d4]) mq2).cell 4, (h.box (w.heap.size + 1, 28, [.int .i64 s3, .slice a3 n3 c3, .int .i64 1, .slice b3 m3 d3, .int .i64 s4, .slice a4 n4 c4, .int .i64 1, .slice b4 m4 d4]) mq2).cell 5, (h.box (w.heap.size + 1, 28, [.int .i64 s3, .slice a3 n3 c3, .int .i64 1, .slice b3 m3 d3, .int .i64 s4, .slice a4 n4 c4, .int .i64 1, .slice b4 m4 d4]) mq2).cell 6, (h.box (w.heap.size + 1, 28, [.int .i64 s3, .slice a3 n3 c3, .int .i64 1, .slice b3 m3 d3, .int .i64 s4, .slice a4 n4 c4, .int .i64 1, .slice b4 m4 d4]) mq2).cell 7⟩
    have KK := Lib.hid K0
    clear K0
    have K0 : ∀ W F x, Sf w (x :: [(w21.heap.size, 28, [.int .i64 c21.s, .slice c21.a c21.n c21.c, .int .i64 1, .slice c21.b c21.m c21.d, .int .i64 d21.s, .slice d21.a d21.n d21.c, .int .i64 1, .slice d21.b d21.m d21.d]), (w.heap.size + 1 + 1, 28, [.int .i64 s5, .slice a5 n5 c5, .int .i64 1, .slice b5 m5 d5, .int .i64 s6, .slice a6 n6 c6, .int .i64 1, .slice b6 m6 d6]), (w.heap.size + 1, 28, [.int .i64 s3, .slice a3 n3 c3, .int .i64 1, .slice b3 m3 d3, .int .i64 s4, .slice a4 n4 c4, .int .i64 1, .slice b4 m4 d4]), (w.heap.size, 28, [.int .i64 s1, .slice a1 n1 c1, .int .i64 1, .slice b1 m1 d1, .int .i64 s2, .slice a2 n2 c2, .int .i64 1, .slice b2 m2 d2])]) F W → W.cell? ⟨w.heap.size, 0, none⟩ = some (.int .i64 s1) ∧ W.cell? ⟨w.heap.size, 1, none⟩ = some (.slice a1 n1 c1) ∧ W.cell? ⟨w.heap.size, 2, none⟩ = some (.int .i64 1) ∧ W.cell? ⟨w.heap.size, 3, none⟩ = some (.slice b1 m1 d1) ∧ W.cell? ⟨w.heap.size, 4, none⟩ = some (.int .i64 s2) ∧ W.cell? ⟨w.heap.size, 5, none⟩ = some (.slice a2 n2 c2) ∧ W.cell? ⟨w.heap.size, 6, none⟩ = some (.int .i64 1) ∧ W.cell? ⟨w.heap.size, 7, none⟩ = some (.slice b2 m2 d2) ∧ W.cell? ⟨w.heap.size + 1, 0, none⟩ = some (.int .i64 s3) ∧ W.cell? ⟨w.heap.size + 1, 1, none⟩ = some (.slice a3 n3 c3) ∧ W.cell? ⟨w.heap.size + 1, 2, none⟩ = some (.int .i64 1) ∧ W.cell? ⟨w.heap.size + 1, 3, none⟩ = some (.slice b3 m3 d3) ∧ W.cell? ⟨w.heap.size + 1, 4, none⟩ = some (.int .i64 s4) ∧ W.cell? ⟨w.heap.size + 1, 5, none⟩ = some (.slice a4 n4 c4) ∧ W.cell? ⟨w.heap.size + 1, 6, none⟩ = some (.int .i64 1) ∧ W.cell? ⟨w.heap.size + 1, 7, none⟩ = some (.slice b4 m4 d4) := fun W F x h => ⟨(h.box (w.heap.size, 28, [.int .i64 s1, .slice a1 n1 c1, .int .i64 1, .slice b1 m1 d1, .int .i64 s2, .slice a2 n2 c2, .int .i64 1, .slice b2 m2 d2]) mq4).cell 0, (h.box (w.heap.size, 28, [.int .i64 s1, .slice a1 n1 c1, .int .i64 1, .slice b1 m1 d1, .int .i64 s2, .slice a2 n2 c2, .int .i64 1, .slice b2 m2 d2]) mq4).cell 1, (h.box (w.heap.size, 28, [.int .i64 s1, .slice a1 n1 c1, .int .i64 1, .slice b1 m1 d1, .int .i64 s2, .slice a2 n2 c2, .int .i64 1, .slice b2 m2 d2]) mq4).cell 2, (h.box (w.heap.size, 28, [.int .i64 s1, .slice a1 n1 c1, .int .i64 1, .slice b1 m1 d1, .int .i64 s2, .slice a2 n2 c2, .int .i64 1, .slice b2 m2 d2]) mq4).cell 3, (h.box (w.heap.size, 28, [.int .i64 s1, .slice a1 n1 c1, .int .i64 1, .slice b1 m1 d1, .int .i64 s2, .slice a2 n2 c2, .int .i64 1, .slice b2 m2 d2]) mq4).cell 4, (h.box (w.heap.size, 28, [.int .i64 s1, .slice a1 n1 c1, .int .i64 1, .slice b1 m1 d1, .int .i64 s2, .slice a2 n2 c2, .int .i64 1, .slice b2 m2 d2]) mq4).cell 5, (h.box (w.heap.size, 28, [.int .i64 s1, .slice a1 n1 c1, .int .i64 1, .slice b1 m1 d1, .int .i64 s2, .slice a2 n2 c2, .int .i64 1, .slice b2 m2 d2]) mq4).cell 6, (h.box (w.heap.size, 28, [.int .i64 s1, .slice a1 n1 c1, .int .i64 1, .slice b1 m1 d1, .int .i64 s2, .slice a2 n2 c2, .int .i64 1, .slice b2 m2 d2]) mq4).cell 7, (h.box (w.heap.size + 1, 28, [.int .i64 s3, .slice a3 n3 c3, .int .i64 1, .slice b3 m3 d3, .int .i64 s4, .slice a4 n4 c4, .int .i64 1, .slice b4 m4 d4]) mq3).cell 0, (h.box (w.heap.size + 1, 28, [.int .i64 s3, .slice a3 n3 c3, .int .i64 1, .slice b3 m3 d3, .int .i64 s4, .slice a4 n4 c4, .int .i64 1, .slice b4 m4 d4]) mq3).cell 1, (h.box (w.heap.size + 1, 28, [.int .i64 s3, .slice a3 n3 c3, .int .i64 1, .slice b3 m3 d3, .int .i64 s4, .slice a4 n4 c4, .int .i64 1, .slice b4 m4 d4]) mq3).cell 2, (h.box (w.heap.size + 1, 28, [.int .i64 s3, .slice a3 n3 c3, .int .i64 1, .slice b3 m3 d3, .int .i64 s4, .slice a4 n4 c4, .int .i64 1, .slice b4 m4 d4]) mq3).cell 3, (h.box (w.heap.size + 1, 28, [.int .i64 s3, .slice a3 n3 c3, .int .i64 1, .slice b3 m3 d3, .int .i64 s4, .slice a4 n4 c4, .int .i64 1, .slice b4 m4 d4]) mq3).cell 4, (h.box (w.heap.size + 1, 28, [.int .i64 s3, .slice a3 n3 c3, .int .i64 1, .slice b3 m3 d3, .int .i64 s4, .slice a4 n4 c4, .int .i64 1, .slice b4 m4 d4]) mq3).cell 5, (h.box (w.heap.size + 1, 28, [.int .i64 s3, .slice a3 n3 c3, .int .i64 1, .slice b3 m3 d3, .int .i64 s4, .slice a4 n4 c4, .int .i64 1, .slice b4 m4 d4]) mq3).cell 6, (h.box (w.heap.size + 1, 28, [.int .i64 s3, .slice a3 n3 c3, .int .i64 1, .slice b3 m3 d3, .int .i64 s4, .slice a4 n4 c4, .int .i64 1, .slice b4 m4 d4]) mq3).cell 7⟩
    have KU := Lib.hid K0
    clear K0
    have N0 := Lib.hid Q161.out.drew
    have Z0 := Lib.hid (Q161.out.put [.int .i64 0, .slice none 0 0, .int .i64 0, .slice none 0 0, .int .i64 0, .slice none 0 0, .int .i64 0, .slice none 0 0] 28).drew
    clear Q161
    have eN0 := KK.out _ _ N0.out
    have eZ0 := KU.out _ _ _ Z0.out
    have CN0 := Lib.hid (p10neg (N0.out.fr (v := .slice a3 n3 c3) (u := .slice b3 m3 d3) (r := p) mq10 mq11 E3.out) L3.out (N0.out.fr (v := .slice a4 n4 c4) (u := .slice b4 m4 d4) (r := q) mq8 mq9 E4.out) L4.out HPQ.out (r := (-q, -p)) rfl)
    have CZ0 := Lib.hid (p10neg (Z0.out.fr (v := .slice a3 n3 c3) (u := .slice b3 m3 d3) (r := p) mq10 mq11 E3.out) L3.out (Z0.out.fr (v := .slice a4 n4 c4) (u := .slice b4 m4 d4) (r := q) mq8 mq9 E4.out) L4.out HPQ.out (r := (-q, -p)) rfl)
    go_region_held3 (fun W => W.cell? ⟨w.heap.size, 0, none⟩ = some (.int .i64 s1) ∧ W.cell? ⟨w.heap.size, 1, none⟩ = some (.slice a1 n1 c1) ∧ W.cell? ⟨w.heap.size, 2, none⟩ = some (.int .i64 1) ∧ W.cell? ⟨w.heap.size, 3, none⟩ = some (.slice b1 m1 d1) ∧ W.cell? ⟨w.heap.size, 4, none⟩ = some (.int .i64 s2) ∧ W.cell? ⟨w.heap.size, 5, none⟩ = some (.slice a2 n2 c2) ∧ W.cell? ⟨w.heap.size, 6, none⟩ = some (.int .i64 1) ∧ W.cell? ⟨w.heap.size, 7, none⟩ = some (.slice b2 m2 d2) ∧ W.cell? ⟨w.heap.size + 1, 0, none⟩ = some (.int .i64 s3) ∧ W.cell? ⟨w.heap.size + 1, 1, none⟩ = some (.slice a3 n3 c3) ∧ W.cell? ⟨w.heap.size + 1, 2, none⟩ = some (.int .i64 1) ∧ W.cell? ⟨w.heap.size + 1, 3, none⟩ = some (.slice b3 m3 d3) ∧ W.cell? ⟨w.heap.size + 1, 4, none⟩ = some (.int .i64 s4) ∧ W.cell? ⟨w.heap.size + 1, 5, none⟩ = some (.slice a4 n4 c4) ∧ W.cell? ⟨w.heap.size + 1, 6, none⟩ = some (.int .i64 1) ∧ W.cell? ⟨w.heap.size + 1, 7, none⟩ = some (.slice b4 m4 d4))
      (first | (with_reducible exact eN0) | (with_reducible exact eZ0) | (with_reducible exact eN1) | (with_reducible exact eZ1) | (with_reducible exact eB0_1) | (with_reducible exact eN2) | (with_reducible exact eZ2) | (with_reducible exact eRN) | (with_reducible exact eB1_2) | (with_reducible exact eRB) | (with_reducible exact eB0_2) | go_keep)
      (((first | go_at_call 24 | go_at_call 19 | (rw [if_pos (by rfl)]; go_simp) | skip); (first
          | (have hG := B0_1; clear hG; go_at_call 24; (with_reducible refine (CB0_1.out).mono ?_); rintro e yx22_1 ⟨cx22_1, dx22_1, rfl, h1, h2, hb, ho⟩; have EC22_1 := Lib.hid h1.1.1; have ED22_1 := Lib.hid h2.1.1; have B0_2 := Lib.hid (Sf.span B0_1.out hb h1 h2 (fun x hx => ho x.1 (B0_1.out.lt x hx))); clear h1 h2 hb ho; have eB0_2 := KU.out _ _ _ B0_2.out; obtain ⟨z0, z1, z2, z3, z4, z5, z6, z7⟩ := Fb.cells8 (B0_2.out.box (V161.heap.size, 28, [.int .i64 0, .slice none 0 0, .int .i64 0, .slice none 0 0, .int .i64 0, .slice none 0 0, .int .i64 0, .slice none 0 0]) mq0); have u0 := (B0_2.out.box (V161.heap.size, 28, [.int .i64 0, .slice none 0 0, .int .i64 0, .slice none 0 0, .int .i64 0, .slice none 0 0, .int .i64 0, .slice none 0 0]) mq0).free 0; have u1 := (B0_2.out.box (V161.heap.size, 28, [.int .i64 0, .slice none 0 0, .int .i64 0, .slice none 0 0, .int .i64 0, .slice none 0 0, .int .i64 0, .slice none 0 0]) mq0).free 1; have u2 := (B0_2.out.box (V161.heap.size, 28, [.int .i64 0, .slice none 0 0, .int .i64 0, .slice none 0 0, .int .i64 0, .slice none 0 0, .int .i64 0, .slice none 0 0]) mq0).free 2; have u3 := (B0_2.out.box (V161.heap.size, 28, [.int .i64 0, .slice none 0 0, .int .i64 0, .slice none 0 0, .int .i64 0, .slice none 0 0, .int .i64 0, .slice none 0 0]) mq0).free 3; have u4 := (B0_2.out.box (V161.heap.size, 28, [.int .i64 0, .slice none 0 0, .int .i64 0, .slice none 0 0, .int .i64 0, .slice none 0 0, .int .i64 0, .slice none 0 0]) mq0).free 4; have u5 := (B0_2.out.box (V161.heap.size, 28, [.int .i64 0, .slice none 0 0, .int .i64 0, .slice none 0 0, .int .i64 0, .slice none 0 0, .int .i64 0, .slice none 0 0]) mq0).free 5; have u6 := (B0_2.out.box (V161.heap.size, 28, [.int .i64 0, .slice none 0 0, .int .i64 0, .slice none 0 0, .int .i64 0, .slice none 0 0, .int .i64 0, .slice none 0 0]) mq0).free 6; have u7 := (B0_2.out.box (V161.heap.size, 28, [.int .i64 0, .slice none 0 0, .int .i64 0, .slice none 0 0, .int .i64 0, .slice none 0 0, .int .i64 0, .slice none 0 0]) mq0).free 7; have RB := Lib.hid (Sf.set8 (pre := []) B0_2.out (.int .i64 cx22_1.s) (.slice cx22_1.a cx22_1.n cx22_1.c) (.int .i64 1) (.slice cx22_1.b cx22_1.m cx22_1.d) (.int .i64 dx22_1.s) (.slice dx22_1.a dx22_1.n dx22_1.c) (.int .i64 1) (.slice dx22_1.b dx22_1.m dx22_1.d)); have eRB := KU.out _ _ _ RB.out)
          | (have hG := Z1; clear hG; go_at_call 24; (with_reducible refine (CZ1.out).mono ?_); rintro e yx22_1 ⟨cx22_1, dx22_1, rfl, h1, h2, hb, ho⟩; have EC22_1 := Lib.hid h1.1.1; have ED22_1 := Lib.hid h2.1.1; have B1_2 := Lib.hid (Sf.span Z1.out hb h1 h2 (fun x hx => ho x.1 (Z1.out.lt x hx))); clear h1 h2 hb ho; have eB1_2 := KU.out _ _ _ B1_2.out; obtain ⟨z0, z1, z2, z3, z4, z5, z6, z7⟩ := Fb.cells8 (B1_2.out.box (yx22_0.heap.size, 28, [.int .i64 0, .slice none 0 0, .int .i64 0, .slice none 0 0, .int .i64 0, .slice none 0 0, .int .i64 0, .slice none 0 0]) mq0); have u0 := (B1_2.out.box (yx22_0.heap.size, 28, [.int .i64 0, .slice none 0 0, .int .i64 0, .slice none 0 0, .int .i64 0, .slice none 0 0, .int .i64 0, .slice none 0 0]) mq0).free 0; have u1 := (B1_2.out.box (yx22_0.heap.size, 28, [.int .i64 0, .slice none 0 0, .int .i64 0, .slice none 0 0, .int .i64 0, .slice none 0 0, .int .i64 0, .slice none 0 0]) mq0).free 1; have u2 := (B1_2.out.box (yx22_0.heap.size, 28, [.int .i64 0, .slice none 0 0, .int .i64 0, .slice none 0 0, .int .i64 0, .slice none 0 0, .int .i64 0, .slice none 0 0]) mq0).free 2; have u3 := (B1_2.out.box (yx22_0.heap.size, 28, [.int .i64 0, .slice none 0 0, .int .i64 0, .slice none 0 0, .int .i64 0, .slice none 0 0, .int .i64 0, .slice none 0 0]) mq0).free 3; have u4 := (B1_2.out.box (yx22_0.heap.size, 28, [.int .i64 0, .slice none 0 0, .int .i64 0, .slice none 0 0, .int .i64 0, .slice none 0 0, .int .i64 0, .slice none 0 0]) mq0).free 4; have u5 := (B1_2.out.box (yx22_0.heap.size, 28, [.int .i64 0, .slice none 0 0, .int .i64 0, .slice none 0 0, .int .i64 0, .slice none 0 0, .int .i64 0, .slice none 0 0]) mq0).free 5; have u6 := (B1_2.out.box (yx22_0.heap.size, 28, [.int .i64 0, .slice none 0 0, .int .i64 0, .slice none 0 0, .int .i64 0, .slice none 0 0, .int .i64 0, .slice none 0 0]) mq0).free 6; have u7 := (B1_2.out.box (yx22_0.heap.size, 28, [.int .i64 0, .slice none 0 0, .int .i64 0, .slice none 0 0, .int .i64 0, .slice none 0 0, .int .i64 0, .slice none 0 0]) mq0).free 7; have RB := Lib.hid (Sf.set8 (pre := []) B1_2.out (.int .i64 cx22_1.s) (.slice cx22_1.a cx22_1.n cx22_1.c) (.int .i64 1) (.slice cx22_1.b cx22_1.m cx22_1.d) (.int .i64 dx22_1.s) (.slice dx22_1.a dx22_1.n dx22_1.c) (.int .i64 1) (.slice dx22_1.b dx22_1.m dx22_1.d)); have eRB := KU.out _ _ _ RB.out)
          | (have hG := N1; clear hG; go_at_call 24; (with_reducible refine (CN1.out).mono ?_); rintro e yx22_1 ⟨cx22_1, dx22_1, rfl, h1, h2, hb, ho⟩; have EC22_1 := Lib.hid h1.1.1; have ED22_1 := Lib.hid h2.1.1; have N2 := Lib.hid (Sf.span N1.out hb h1 h2 (fun x hx => ho x.1 (N1.out.lt x hx))); clear h1 h2 hb ho; have eN2 := KK.out _ _ N2.out; have Z2 := Lib.hid (N2.out.put [.int .i64 0, .slice none 0 0, .int .i64 0, .slice none 0 0, .int .i64 0, .slice none 0 0, .int .i64 0, .slice none 0 0] 28); have eZ2 := KU.out _ _ _ Z2.out; have RN := Lib.hid (N2.out.put [.int .i64 cx22_1.s, .slice cx22_1.a cx22_1.n cx22_1.c, .int .i64 1, .slice cx22_1.b cx22_1.m cx22_1.d, .int .i64 dx22_1.s, .slice dx22_1.a dx22_1.n dx22_1.c, .int .i64 1, .slice dx22_1.b dx22_1.m dx22_1.d] 28); have eRN := KU.out _ _ _ RN.out)
          | (have hG := Z0; clear hG; go_at_call 19; (with_reducible refine (CZ0.out).mono ?_); rintro e yx22_0 ⟨cx22_0, dx22_0, rfl, h1, h2, hb, ho⟩; have EC22_0 := Lib.hid h1.1.1; have ED22_0 := Lib.hid h2.1.1; have B0_1 := Lib.hid (Sf.span Z0.out hb h1 h2 (fun x hx => ho x.1 (Z0.out.lt x hx))); clear h1 h2 hb ho; have eB0_1 := KU.out _ _ _ B0_1.out; have CB0_1 := Lib.hid (p10add (B0_1.out.fr (v := .slice a1 n1 c1) (u := .slice b1 m1 d1) (r := x) mq18 mq19 E1.out) Y1.out (B0_1.out.fr (v := .slice a2 n2 c2) (u := .slice b2 m2 d2) (r := y) mq16 mq17 E2.out) Y2.out (B0_1.out.fr (v := .slice cx22_0.a cx22_0.n cx22_0.c) (u := .slice cx22_0.b cx22_0.m cx22_0.d) (r := (-q)) mq0 mq1 EC22_0.out) ZN4.out.mono (B0_1.out.fr (v := .slice dx22_0.a dx22_0.n dx22_0.c) (u := .slice dx22_0.b dx22_0.m dx22_0.d) (r := (-p)) mq2 mq3 ED22_0.out) ZN3.out.mono HXY.out NPQ.out (r := (x + -q, y + -p)) rfl))
          | (have hG := N0; clear hG; go_at_call 19; (with_reducible refine (CN0.out).mono ?_); rintro e yx22_0 ⟨cx22_0, dx22_0, rfl, h1, h2, hb, ho⟩; have EC22_0 := Lib.hid h1.1.1; have ED22_0 := Lib.hid h2.1.1; have N1 := Lib.hid (Sf.span N0.out hb h1 h2 (fun x hx => ho x.1 (N0.out.lt x hx))); clear h1 h2 hb ho; have eN1 := KK.out _ _ N1.out; have Z1 := Lib.hid (N1.out.put [.int .i64 0, .slice none 0 0, .int .i64 0, .slice none 0 0, .int .i64 0, .slice none 0 0, .int .i64 0, .slice none 0 0] 28); have eZ1 := KU.out _ _ _ Z1.out; have CN1 := Lib.hid (p10add (N1.out.fr (v := .slice a1 n1 c1) (u := .slice b1 m1 d1) (r := x) mq18 mq19 E1.out) Y1.out (N1.out.fr (v := .slice a2 n2 c2) (u := .slice b2 m2 d2) (r := y) mq16 mq17 E2.out) Y2.out (N1.out.fr (v := .slice cx22_0.a cx22_0.n cx22_0.c) (u := .slice cx22_0.b cx22_0.m cx22_0.d) (r := (-q)) mq0 mq1 EC22_0.out) ZN4.out.mono (N1.out.fr (v := .slice dx22_0.a dx22_0.n dx22_0.c) (u := .slice dx22_0.b dx22_0.m dx22_0.d) (r := (-p)) mq2 mq3 ED22_0.out) ZN3.out.mono HXY.out NPQ.out (r := (x + -q, y + -p)) rfl); have CZ1 := Lib.hid (p10add (Z1.out.fr (v := .slice a1 n1 c1) (u := .slice b1 m1 d1) (r := x) mq18 mq19 E1.out) Y1.out (Z1.out.fr (v := .slice a2 n2 c2) (u := .slice b2 m2 d2) (r := y) mq16 mq17 E2.out) Y2.out (Z1.out.fr (v := .slice cx22_0.a cx22_0.n cx22_0.c) (u := .slice cx22_0.b cx22_0.m cx22_0.d) (r := (-q)) mq0 mq1 EC22_0.out) ZN4.out.mono (Z1.out.fr (v := .slice dx22_0.a dx22_0.n dx22_0.c) (u := .slice dx22_0.b dx22_0.m dx22_0.d) (r := (-p)) mq2 mq3 ED22_0.out) ZN3.out.mono HXY.out NPQ.out (r := (x + -q, y + -p)) rfl))); (try dsimp only)))
    all_goals (go_wp2_with fail; go_meet; refine ⟨rfl, ?_⟩; first | exact Lib.hid ⟨_, _, _, rfl, EC22_1.out, ED22_1.out, Sf.facts RN.out (by simp)⟩ | exact Lib.hid ⟨_, _, _, rfl, EC22_1.out, ED22_1.out, Sf.facts RB.out (by simp)⟩)
  case rest =>
  obtain ⟨rfl, hq⟩ := hcut
  obtain ⟨gx22, c22, d22, rfl, ecx22, edx22, hsx22⟩ := hq.out
  obtain ⟨w22, rfl⟩ : ∃ W, W = wc := ⟨_, rfl⟩
  have R22 := Lib.hid hsx22
  have EC22 := Lib.hid ecx22
  have ED22 := Lib.hid edx22
  clear hq ecx22 edx22 hsx22 Q161
  go_upto_region 8 with fail
  go_cut [108] from 97 to 108 (fun u wx => u = .bool false ∧ Hid (Sf w [(gx22, 28, [.int .i64 c22.s, .slice c22.a c22.n c22.c, .int .i64 1, .slice c22.b c22.m c22.d, .int .i64 d22.s, .slice d22.a d22.n d22.c, .int .i64 1, .slice d22.b d22.m d22.d]), (w21.heap.size, 28, [.int .i64 c21.s, .slice c21.a c21.n c21.c, .int .i64 1, .slice c21.b c21.m c21.d, .int .i64 d21.s, .slice d21.a d21.n d21.c, .int .i64 1, .slice d21.b d21.m d21.d]), (w.heap.size + 1 + 1, 28, [.int .i64 s5, .slice a5 n5 c5, .int .i64 1, .slice b5 m5 d5, .int .i64 s6, .slice a6 n6 c6, .int .i64 1, .slice b6 m6 d6]), (w.heap.size + 1, 28, [.int .i64 s3, .slice a3 n3 c3, .int .i64 1, .slice b3 m3 d3, .int .i64 s4, .slice a4 n4 c4, .int .i64 1, .slice b4 m4 d4]), (w.heap.size, 28, [.int .i64 s1, .slice a1 n1 c1, .int .i64 1, .slice b1 m1 d1, .int .i64 s2, .slice a2 n2 c2, .int .i64 1, .slice b2 m2 d2])] [(.slice c22.a c22.n c22.c, digs ((x + -q)).num.natAbs), (.slice c22.b c22.m c22.d, digs ((((x + -q)).den : Int)).natAbs), (.slice d22.a d22.n d22.c, digs ((y + -p)).num.natAbs), (.slice d22.b d22.m d22.d, digs ((((y + -p)).den : Int)).natAbs), (.slice c21.a c21.n c21.c, digs ((x - q)).num.natAbs), (.slice c21.b c21.m c21.d, digs ((((x - q)).den : Int)).natAbs), (.slice d21.a d21.n d21.c, digs ((y - p)).num.natAbs), (.slice d21.b d21.m d21.d, digs ((((y - p)).den : Int)).natAbs), (.slice a6 n6 c6, digs (yy).num.natAbs), (.slice b6 m6 d6, digs (((yy).den : Int)).natAbs), (.slice a5 n5 c5, digs (xx).num.natAbs), (.slice b5 m5 d5, digs (((xx).den : Int)).natAbs), (.slice a4 n4 c4, digs (q).num.natAbs), (.slice b4 m4 d4, digs (((q).den : Int)).natAbs), (.slice a3 n3 c3, digs (p).num.natAbs), (.slice b3 m3 d3, digs (((p).den : Int)).natAbs), (.slice a2 n2 c2, digs (y).num.natAbs), (.slice b2 m2 d2, digs (((y).den : Int)).natAbs), (.slice a1 n1 c1, digs (x).num.natAbs), (.slice b1 m1 d1, digs (((x).den : Int)).natAbs)] wx))
  case first =>
    have K0 : ∀ W F, Sf w [(gx22, 28, [.int .i64 c22.s, .slice c22.a c22.n c22.c, .int .i64 1, .slice c22.b c22.m c22.d, .int .i64 d22.s, .slice d22.a d22.n d22.c, .int .i64 1, .slice d22.b d22.m d22.d]), (w21.heap.size, 28, [.int .i64 c21.s, .slice c21.a c21.n c21.c, .int .i64 1, .slice c21.b c21.m c21.d, .int .i64 d21.s, .slice d21.a d21.n d21.c, .int .i64 1, .slice d21.b d21.m d21.d]), (w.heap.size + 1 + 1, 28, [.int .i64 s5, .slice a5 n5 c5, .int .i64 1, .slice b5 m5 d5, .int .i64 s6, .slice a6 n6 c6, .int .i64 1, .slice b6 m6 d6]), (w.heap.size + 1, 28, [.int .i64 s3, .slice a3 n3 c3, .int .i64 1, .slice b3 m3 d3, .int .i64 s4, .slice a4 n4 c4, .int .i64 1, .slice b4 m4 d4]), (w.heap.size, 28, [.int .i64 s1, .slice a1 n1 c1, .int .i64 1, .slice b1 m1 d1, .int .i64 s2, .slice a2 n2 c2, .int .i64 1, .slice b2 m2 d2])] F W → W.cell? ⟨gx22, 0, none⟩ = some (.int .i64 c22.s) ∧ W.cell? ⟨gx22, 1, none⟩ = some (.slice c22.a c22.n c22.c) ∧ W.cell? ⟨gx22, 2, none⟩ = some (.int .i64 1) ∧ W.cell? ⟨gx22, 3, none⟩ = some (.slice c22.b c22.m c22.d) ∧ W.cell? ⟨gx22, 4, none⟩ = some (.int .i64 d22.s) ∧ W.cell? ⟨gx22, 5, none⟩ = some (.slice d22.a d22.n d22.c) ∧ W.cell? ⟨gx22, 6, none⟩ = some (.int .i64 1) ∧ W.cell? ⟨gx22, 7, none⟩ = some (.slice d22.b d22.m d22.d) ∧ W.cell? ⟨w21.heap.size, 0, none⟩ = some (.int .i64 c21.s) ∧ W.cell? ⟨w21.heap.size, 1, none⟩ = some (.slice c21.a c21.n c21.c) ∧ W.cell? ⟨w21.heap.size, 2, none⟩ = some (.int .i64 1) ∧ W.cell? ⟨w21.heap.size, 3, none⟩ = some (.slice c21.b c21.m c21.d) ∧ W.cell? ⟨w21.heap.size, 4, none⟩ = some (.int .i64 d21.s) ∧ W.cell? ⟨w21.heap.size, 5, none⟩ = some (.slice d21.a d21.n d21.c) ∧ W.cell? ⟨w21.heap.size, 6, none⟩ = some (.int .i64 1) ∧ W.cell? ⟨w21.heap.size, 7, none⟩ = some (.slice d21.b d21.m d21.d) ∧ W.cell? ⟨w.heap.size, 0, none⟩ = some (.int .i64 s1) ∧ W.cell? ⟨w.heap.size, 1, none⟩ = some (.slice a1 n1 c1) ∧ W.cell? ⟨w.heap.size, 2, none⟩ = some (.int .i64 1) ∧ W.cell? ⟨w.heap.size, 3, none⟩ = some (.slice b1 m1 d1) ∧ W.cell? ⟨w.heap.size, 4, none⟩ = some (.int .i64 s2) ∧ W.cell? ⟨w.heap.size, 5, none⟩ = some (.slice a2 n2 c2) ∧ W.cell? ⟨w.heap.size, 6, none⟩ = some (.int .i64 1) ∧ W.cell? ⟨w.heap.size, 7, none⟩ = some (.slice b2 m2 d2) := fun W F h => ⟨(h.box (gx22, 28, [.int .i64 c22.s, .slice c22.a c22.n c22.c, .int .i64 1, .slice c22.b c22.m c22.d, .int .i64 d22.s, .slice d22.a d22.n d22.c, .int .i64 1, .slice d22.b d22.m d22.d]) mq0).cell 0, (h.box (gx22, 28, [.int .i64 c22.s, .slice c22.a c22.n c22.c, .int .i64 1, .slice c22.b c22.m c22.d, .int .i64 d22.s, .slice d22.a d22.n d22.c, .int .i64 1, .slice d22.b d22.m d22.d]) mq0).cell 1, (h.box (gx22, 28, [.int .i64 c22.s, .slice c22.a c22.n c22.c, .int .i64 1, .slice c22.b c22.m c22.d, .int .i64 d22.s, .slice d22.a d22.n d22.c, .int .i64 1, .slice d22.b d22.m d22.d]) mq0).cell 2, (h.box (gx22, 28, [.int .i64 c22.s, .slice c22.a c22.n c22.c, .int .i64 1, .slice c22.b c22.m c22.d, .int .i64 d22.s, .slice d22.a d22.n d22.c, .int .i64 1, .slice d22.b d22.m d22.d]) mq0).cell 3, (h.box (gx22, 28, [.int .i64 c22.s, .slice c22.a c22.n c22.c, .int .i64 1, .slice c22.b c22.m c22.d, .int .i64 d22.s, .slice d22.a d22.n d22.c, .int .i64 1, .slice d22.b d22.m d22.d]) mq0).cell 4, (h.box (gx22, 28, [.int .i64 c22.s, .slice c22.a c22.n c22.c, .int .i64 1, .slice c22.b c22.m c22.d, .int .i64 d22.s, .slice d22.a d22.n d22.c, .int .i64 1, .slice d22.b d22.m d22.d]) mq0).cell 5, (h.box (gx22, 28, [.int .i64 c22.s, .slice c22.a c22.n c22.c, .int .i64 1, .slice c22.b c22.m c22.d, .int .i64 d22.s, .slice d22.a d22.n d22.c, .int .i64 1, .slice d22.b d22.m d22.d]) mq0).cell 6, (h.box (gx22, 28, [.int .i64 c22.s, .slice c22.a c22.n c22.c, .int .i64 1, .slice c22.b c22.m c22.d, .int .i64 d22.s, .slice d22.a d22.n d22.c, .int .i64 1, .slice d22.b d22.m d22.d]) mq0).cell 7, (h.box (w21.heap.size, 28, [.int .i64 c21.s, .slice c21.a c21.n c21.c, .int .i64 1, .slice c21.b c21.m c21.d, .int .i64 d21.s, .slice d21.a d21.n d21.c, .int .i64 1, .slice d21.b d21.m d21.d]) mq1).cell 0, (h.box (w21.heap.size, 28, [.int .i64 c21.s, .slice c21.a c21.n c21.c, .int .i64 1, .slice c21.b c21.m c21.d, .int .i64 d21.s, .slice d21.a d21.n d21.c, .int .i64 1, .slice d21.b d21.m d21.d]) mq1).cell 1, (h.box (w21.heap.size, 28, [.int .i64 c21.s, .slice c21.a c21.n c21.c, .int .i64 1, .slice c21.b c21.m c21.d, .int .i64 d21.s, .slice d21.a d21.n d21.c, .int .i64 1, .slice d21.b d21.m d21.d]) mq1).cell 2, (h.box (w21.heap.size, 28, [.int .i64 c21.s, .slice c21.a c21.n c21.c, .int .i64 1, .slice c21.b c21.m c21.d, .int .i64 d21.s, .slice d21.a d21.n d21.c, .int .i64 1, .slice d21.b d21.m d21.d]) mq1).cell 3, (h.box (w21.heap.size, 28, [.int .i64 c21.s, .slice c21.a c21.n c21.c, .int .i64 1, .slice c21.b c21.m c21.d, .int .i64 d21.s, .slice d21.a d21.n d21.c, .int .i64 1, .slice d21.b d21.m d21.d]) mq1).cell 4, (h.box (w21.heap.size, 28, [.int .i64 c21.s, .slice c21.a c21.n c21.c, .int .i64 1, .slice c21.b c21.m c21.d, .int .i64 d21.s, .slice d21.a d21.n d21.c, .int .i64 1, .slice d21.b d21.m d21.d]) mq1).cell 5, (h.box (w21.heap.size, 28, [.int .i64 c21.s, .slice c21.a c21.n c21.c, .int .i64 1, .slice c21.b c21.m c21.d, .int .i64 d21.s, .slice d21.a d21.n d21.c, .int .i64 1, .slice d21.b d21.m d21.d]) mq1).cell 6, (h.box (w21.heap.size, 28, [.int .i64 c21.s, .slice c21.a c21.n c21.c, .int .i64 1, .slice c21.b c21.m c21.d, .int .i64 d21.s, .slice d21.a d21.n d21.c, .int .i64 1, .slice d21.b d21.m d21.d]) mq1).cell 7, (h.box (w.heap.size, 28, [.int .i64 s1, .slice a1 n1 c1, .int .i64 1, .slice b1 m1 d1, .int .i64 s2, .slice a2 n2 c2, .int .i64 1, .slice b2 m2 d2]) mq4).cell 0, (h.box (w.heap.size, 28, [.int .i64 s1, .slice a1 n1 c1, .int .i64 1, .slice b1 m1 d1, .int .i64 s2, .slice a2 n2 c2, .int .i64 1, .slice b2 m2 d2]) mq4).cell 1, (h.box (w.heap.size, 28, [.int .i64 s1, .slice a1 n1 c1, .int .i64 1, .slice b1 m1 d1, .int .i64 s2, .slice a2 n2 c2, .int .i64 1, .slice b2 m2 d2]) mq4).cell 2, (h.box (w.heap.size, 28, [.int .i64 s1, .slice a1 n1 c1, .int .i64 1, .slice b1 m1 d1, .int .i64 s2, .slice a2 n2 c2, .int .i64 1, .slice b2 m2 d2]) mq4).cell 3, (h.box (w.heap.size, 28, [.int .i64 s1, .slice a1 n1 c1, .int .i64 1, .slice b1 m1 d1, .int .i64 s2, .slice a2 n2 c2, .int .i64 1, .slice b2 m2 d2]) mq4).cell 4, (h.box (w.heap.size, 28, [.int .i64 s1, .slice a1 n1 c1, .int .i64 1, .slice b1 m1 d1, .int .i64 s2, .slice a2 n2 c2, .int .i64 1, .slice b2 m2 d2]) mq4).cell 5, (h.box (w.heap.size, 28, [.int .i64 s1, .slice a1 n1 c1, .int .i64 1, .slice b1 m1 d1, .int .i64 s2, .slice a2 n2 c2, .int .i64 1, .slice b2 m2 d2]) mq4).cell 6, (h.box (w.heap.size, 28, [.int .i64 s1, .slice a1 n1 c1, .int .i64 1, .slice b1 m1 d1, .int .i64 s2, .slice a2 n2 c2, .int .i64 1, .slice b2 m2 d2]) mq4).cell 7⟩
    have KK := Lib.hid K0
    clear K0
    have N0 := Lib.hid R22.out.drew
    clear R22
    have e0 := KK.out _ _ N0.out
    have PN0_1 := Lib.hid (N0.out.fr (v := .slice c21.a c21.n c21.c) (u := .slice c21.b c21.m c21.d) (r := (x - q)) mq4 mq5 EC21.out)
    have PN0_2 := Lib.hid (N0.out.fr (v := .slice d21.a d21.n d21.c) (u := .slice d21.b d21.m d21.d) (r := (y - p)) mq6 mq7 ED21.out)
    have PN0_3 := Lib.hid (N0.out.fr (v := .slice c22.a c22.n c22.c) (u := .slice c22.b c22.m c22.d) (r := (x + -q)) mq0 mq1 EC22.out)
    have PN0_4 := Lib.hid (N0.out.fr (v := .slice d22.a d22.n d22.c) (u := .slice d22.b d22.m d22.d) (r := (y + -p)) mq2 mq3 ED22.out)
    go_region_held3 (fun W => W.cell? ⟨gx22, 0, none⟩ = some (.int .i64 c22.s) ∧ W.cell? ⟨gx22, 1, none⟩ = some (.slice c22.a c22.n c22.c) ∧ W.cell? ⟨gx22, 2, none⟩ = some (.int .i64 1) ∧ W.cell? ⟨gx22, 3, none⟩ = some (.slice c22.b c22.m c22.d) ∧ W.cell? ⟨gx22, 4, none⟩ = some (.int .i64 d22.s) ∧ W.cell? ⟨gx22, 5, none⟩ = some (.slice d22.a d22.n d22.c) ∧ W.cell? ⟨gx22, 6, none⟩ = some (.int .i64 1) ∧ W.cell? ⟨gx22, 7, none⟩ = some (.slice d22.b d22.m d22.d) ∧ W.cell? ⟨w21.heap.size, 0, none⟩ = some (.int .i64 c21.s) ∧ W.cell? ⟨w21.heap.size, 1, none⟩ = some (.slice c21.a c21.n c21.c) ∧ W.cell? ⟨w21.heap.size, 2, none⟩ = some (.int .i64 1) ∧ W.cell? ⟨w21.heap.size, 3, none⟩ = some (.slice c21.b c21.m c21.d) ∧ W.cell? ⟨w21.heap.size, 4, none⟩ = some (.int .i64 d21.s) ∧ W.cell? ⟨w21.heap.size, 5, none⟩ = some (.slice d21.a d21.n d21.c) ∧ W.cell? ⟨w21.heap.size, 6, none⟩ = some (.int .i64 1) ∧ W.cell? ⟨w21.heap.size, 7, none⟩ = some (.slice d21.b d21.m d21.d) ∧ W.cell? ⟨w.heap.size, 0, none⟩ = some (.int .i64 s1) ∧ W.cell? ⟨w.heap.size, 1, none⟩ = some (.slice a1 n1 c1) ∧ W.cell? ⟨w.heap.size, 2, none⟩ = some (.int .i64 1) ∧ W.cell? ⟨w.heap.size, 3, none⟩ = some (.slice b1 m1 d1) ∧ W.cell? ⟨w.heap.size, 4, none⟩ = some (.int .i64 s2) ∧ W.cell? ⟨w.heap.size, 5, none⟩ = some (.slice a2 n2 c2) ∧ W.cell? ⟨w.heap.size, 6, none⟩ = some (.int .i64 1) ∧ W.cell? ⟨w.heap.size, 7, none⟩ = some (.slice b2 m2 d2))
      (first | (with_reducible exact e0) | (with_reducible exact e1) | (with_reducible exact e2) | (with_reducible exact e3) | (with_reducible exact e4))
      (((first | go_at_call 25 | go_at_call 19 | (rw [if_pos (by rfl)]; go_simp) | skip); (first
          | (have hG := N3; clear hG; go_at_call 25; (with_reducible refine (same_fo (r := true) PN3_1.out PN3_2.out PN3_3.out PN3_4.out QN.out).mono ?_); rintro e y23_3 ⟨rfl, hb⟩; have N4 := Lib.hid (N3.out.later hb); clear hb; have e4 := KK.out _ _ N4.out)
          | (have hG := N2; clear hG; go_at_call 19; (with_reducible refine (p10neg PN2_1.out ZX2.out PN2_2.out ZX1.out NXY.out (r := (- -x, - -y)) rfl).mono ?_); rintro e y23_2 ⟨c23_2, d23_2, rfl, h1, h2, hb, ho⟩; have EC23_2 := Lib.hid h1.1.1; have ED23_2 := Lib.hid h2.1.1; have N3 := Lib.hid (Sf.span N2.out hb h1 h2 (fun x hx => ho x.1 (N2.out.lt x hx))); clear h1 h2 hb ho; have e3 := KK.out _ _ N3.out; have PN3_1 := Lib.hid (N3.out.fr (v := .slice c23_2.a c23_2.n c23_2.c) (u := .slice c23_2.b c23_2.m c23_2.d) (r := (- -x)) mq0 mq1 EC23_2.out); have PN3_2 := Lib.hid (N3.out.fr (v := .slice d23_2.a d23_2.n d23_2.c) (u := .slice d23_2.b d23_2.m d23_2.d) (r := (- -y)) mq2 mq3 ED23_2.out); have PN3_3 := Lib.hid (N3.out.fr (v := .slice a1 n1 c1) (u := .slice b1 m1 d1) (r := x) mq26 mq27 E1.out); have PN3_4 := Lib.hid (N3.out.fr (v := .slice a2 n2 c2) (u := .slice b2 m2 d2) (r := y) mq24 mq25 E2.out))
          | (have hG := N1; clear hG; go_at_call 19; (with_reducible refine (p10neg PN1_1.out L1.out PN1_2.out L2.out HXY.out (r := (-y, -x)) rfl).mono ?_); rintro e y23_1 ⟨c23_1, d23_1, rfl, h1, h2, hb, ho⟩; have EC23_1 := Lib.hid h1.1.1; have ED23_1 := Lib.hid h2.1.1; have N2 := Lib.hid (Sf.span N1.out hb h1 h2 (fun x hx => ho x.1 (N1.out.lt x hx))); clear h1 h2 hb ho; have e2 := KK.out _ _ N2.out; have PN2_1 := Lib.hid (N2.out.fr (v := .slice c23_1.a c23_1.n c23_1.c) (u := .slice c23_1.b c23_1.m c23_1.d) (r := (-y)) mq0 mq1 EC23_1.out); have PN2_2 := Lib.hid (N2.out.fr (v := .slice d23_1.a d23_1.n d23_1.c) (u := .slice d23_1.b d23_1.m d23_1.d) (r := (-x)) mq2 mq3 ED23_1.out))
          | (have hG := N0; clear hG; go_at_call 25; (with_reducible refine (same_fo (r := true) PN0_1.out PN0_2.out PN0_3.out PN0_4.out QD.out).mono ?_); rintro e y23_0 ⟨rfl, hb⟩; have N1 := Lib.hid (N0.out.later hb); clear hb; have e1 := KK.out _ _ N1.out; have PN1_1 := Lib.hid (N1.out.fr (v := .slice a1 n1 c1) (u := .slice b1 m1 d1) (r := x) mq18 mq19 E1.out); have PN1_2 := Lib.hid (N1.out.fr (v := .slice a2 n2 c2) (u := .slice b2 m2 d2) (r := y) mq16 mq17 E2.out))); (try dsimp only)))
    all_goals (go_wp2_with fail; go_meet; exact ⟨rfl, Lib.hid (Sf.facts N4.out (by simp))⟩)
  case rest =>
  obtain ⟨rfl, hq⟩ := hcut
  obtain ⟨w23, rfl⟩ : ∃ W, W = wc := ⟨_, rfl⟩
  have R23 := Lib.hid hq.out
  clear hq R22
  obtain ⟨q162, q163, q164, q165, q166, q167, q168, q169⟩ := Fb.cells8 (R23.out.box (w.heap.size + 1, 28, [.int .i64 s3, .slice a3 n3 c3, .int .i64 1, .slice b3 m3 d3, .int .i64 s4, .slice a4 n4 c4, .int .i64 1, .slice b4 m4 d4]) mq3)
  obtain ⟨q170, q171, q172, q173, q174, q175, q176, q177⟩ := Fb.cells8 (R23.out.box (w.heap.size, 28, [.int .i64 s1, .slice a1 n1 c1, .int .i64 1, .slice b1 m1 d1, .int .i64 s2, .slice a2 n2 c2, .int .i64 1, .slice b2 m2 d2]) mq4)
  go_wp2_with fail
  clear q162 q163 q164 q165 q166 q167 q168 q169 q170 q171 q172 q173 q174 q175 q176 q177
  refine (p10hull (R23.out.fr (v := .slice a1 n1 c1) (u := .slice b1 m1 d1) (r := x) mq18 mq19 E1.out) Y1.out (R23.out.fr (v := .slice a2 n2 c2) (u := .slice b2 m2 d2) (r := y) mq16 mq17 E2.out) Y2.out (R23.out.fr (v := .slice a3 n3 c3) (u := .slice b3 m3 d3) (r := p) mq14 mq15 E3.out) Y3.out (R23.out.fr (v := .slice a4 n4 c4) (u := .slice b4 m4 d4) (r := q) mq12 mq13 E4.out) Y4.out HXY.out HPQ.out (r := (rmin x p, rmax y q)) rfl).mono ?_
  rintro e w24 ⟨c24, d24, rfl, h1, h2, hb, ho⟩
  have EC24 := Lib.hid h1.1.1
  have ED24 := Lib.hid h2.1.1
  have R24 := Lib.hid (Sf.span R23.out hb h1 h2 (fun x hx => ho x.1 (R23.out.lt x hx)))
  clear h1 h2 hb ho
  have P178 := Lib.hid (R24.out.put [.int .i64 0, .slice none 0 0, .int .i64 0, .slice none 0 0, .int .i64 0, .slice none 0 0, .int .i64 0, .slice none 0 0] 28)
  have Q178 := Lib.hid (Sf.row (pre := []) P178.out [.int .i64 c24.s, .slice c24.a c24.n c24.c, .int .i64 1, .slice c24.b c24.m c24.d, .int .i64 d24.s, .slice d24.a d24.n d24.c, .int .i64 1, .slice d24.b d24.m d24.d])
  obtain ⟨V178, hV178⟩ : ∃ V, ((w24.alloc (.cells #[.int .i64 0, .slice none 0 0, .int .i64 0, .slice none 0 0, .int .i64 0, .slice none 0 0, .int .i64 0, .slice none 0 0] 28)).setRow w24.heap.size #[.int .i64 c24.s, .slice c24.a c24.n c24.c, .int .i64 1, .slice c24.b c24.m c24.d, .int .i64 d24.s, .slice d24.a d24.n d24.c, .int .i64 1, .slice d24.b d24.m d24.d]) = V := ⟨_, rfl⟩
  rw [hV178] at Q178
  have HV178 := Lib.hid hV178
  clear hV178 R24
  obtain ⟨q179, q180, q181, q182, q183, q184, q185, q186⟩ := Fb.cells8 (Q178.out.box (w.heap.size + 1, 28, [.int .i64 s3, .slice a3 n3 c3, .int .i64 1, .slice b3 m3 d3, .int .i64 s4, .slice a4 n4 c4, .int .i64 1, .slice b4 m4 d4]) mq4)
  obtain ⟨q187, q188, q189, q190, q191, q192, q193, q194⟩ := Fb.cells8 (Q178.out.box (w.heap.size, 28, [.int .i64 s1, .slice a1 n1 c1, .int .i64 1, .slice b1 m1 d1, .int .i64 s2, .slice a2 n2 c2, .int .i64 1, .slice b2 m2 d2]) mq5)
  go_wp2_with (first | (refine wpList_store_row rfl _ _ _ rfl _ #[.int .i64 c24.s, .slice c24.a c24.n c24.c, .int .i64 1, .slice c24.b c24.m c24.d, .int .i64 d24.s, .slice d24.a d24.n d24.c, .int .i64 1, .slice d24.b d24.m d24.d] rfl rfl _ _ (P178.out.box _ List.mem_cons_self) (by kernel_rfl) rfl (by simp [Value.oneCell']) ?_; rw [HV178.out]))
  clear q179 q180 q181 q182 q183 q184 q185 q186 q187 q188 q189 q190 q191 q192 q193 q194
  refine (p10hull (Q178.out.fr (v := .slice a3 n3 c3) (u := .slice b3 m3 d3) (r := p) mq18 mq19 E3.out) Y3.out (Q178.out.fr (v := .slice a4 n4 c4) (u := .slice b4 m4 d4) (r := q) mq16 mq17 E4.out) Y4.out (Q178.out.fr (v := .slice a1 n1 c1) (u := .slice b1 m1 d1) (r := x) mq22 mq23 E1.out) Y1.out (Q178.out.fr (v := .slice a2 n2 c2) (u := .slice b2 m2 d2) (r := y) mq20 mq21 E2.out) Y2.out HPQ.out HXY.out (r := (rmin p x, rmax q y)) rfl).mono ?_
  rintro e w25 ⟨c25, d25, rfl, h1, h2, hb, ho⟩
  have EC25 := Lib.hid h1.1.1
  have ED25 := Lib.hid h2.1.1
  have R25 := Lib.hid (Sf.span Q178.out hb h1 h2 (fun x hx => ho x.1 (Q178.out.lt x hx)))
  clear h1 h2 hb ho
  have P195 := Lib.hid (R25.out.put [.int .i64 0, .slice none 0 0, .int .i64 0, .slice none 0 0, .int .i64 0, .slice none 0 0, .int .i64 0, .slice none 0 0] 28)
  have Q195 := Lib.hid (Sf.row (pre := []) P195.out [.int .i64 c25.s, .slice c25.a c25.n c25.c, .int .i64 1, .slice c25.b c25.m c25.d, .int .i64 d25.s, .slice d25.a d25.n d25.c, .int .i64 1, .slice d25.b d25.m d25.d])
  obtain ⟨V195, hV195⟩ : ∃ V, ((w25.alloc (.cells #[.int .i64 0, .slice none 0 0, .int .i64 0, .slice none 0 0, .int .i64 0, .slice none 0 0, .int .i64 0, .slice none 0 0] 28)).setRow w25.heap.size #[.int .i64 c25.s, .slice c25.a c25.n c25.c, .int .i64 1, .slice c25.b c25.m c25.d, .int .i64 d25.s, .slice d25.a d25.n d25.c, .int .i64 1, .slice d25.b d25.m d25.d]) = V := ⟨_, rfl⟩
  rw [hV195] at Q195
  have HV195 := Lib.hid hV195
  clear hV195 R25
  obtain ⟨q196, q197, q198, q199, q200, q201, q202, q203⟩ := Fb.cells8 (Q195.out.box (w24.heap.size, 28, [.int .i64 c24.s, .slice c24.a c24.n c24.c, .int .i64 1, .slice c24.b c24.m c24.d, .int .i64 d24.s, .slice d24.a d24.n d24.c, .int .i64 1, .slice d24.b d24.m d24.d]) mq1)
  obtain ⟨q204, q205, q206, q207, q208, q209, q210, q211⟩ := Fb.cells8 (Q195.out.box (w.heap.size + 1 + 1, 28, [.int .i64 s5, .slice a5 n5 c5, .int .i64 1, .slice b5 m5 d5, .int .i64 s6, .slice a6 n6 c6, .int .i64 1, .slice b6 m6 d6]) mq4)
  go_wp2_with (first | (refine wpList_store_row rfl _ _ _ rfl _ #[.int .i64 c25.s, .slice c25.a c25.n c25.c, .int .i64 1, .slice c25.b c25.m c25.d, .int .i64 d25.s, .slice d25.a d25.n d25.c, .int .i64 1, .slice d25.b d25.m d25.d] rfl rfl _ _ (P195.out.box _ List.mem_cons_self) (by kernel_rfl) rfl (by simp [Value.oneCell']) ?_; rw [HV195.out]))
  clear q196 q197 q198 q199 q200 q201 q202 q203 q204 q205 q206 q207 q208 q209 q210 q211
  refine (p10hull (Q195.out.fr (v := .slice c24.a c24.n c24.c) (u := .slice c24.b c24.m c24.d) (r := (rmin x p)) mq4 mq5 EC24.out) ZH1.out (Q195.out.fr (v := .slice d24.a d24.n d24.c) (u := .slice d24.b d24.m d24.d) (r := (rmax y q)) mq6 mq7 ED24.out) ZH2.out (Q195.out.fr (v := .slice a5 n5 c5) (u := .slice b5 m5 d5) (r := xx) mq18 mq19 E5.out) Y5.out (Q195.out.fr (v := .slice a6 n6 c6) (u := .slice b6 m6 d6) (r := yy) mq16 mq17 E6.out) Y6.out HHL.out HUV.out (r := (rmin (rmin x p) xx, rmax (rmax y q) yy)) rfl).mono ?_
  rintro e w26 ⟨c26, d26, rfl, h1, h2, hb, ho⟩
  have EC26 := Lib.hid h1.1.1
  have ED26 := Lib.hid h2.1.1
  have R26 := Lib.hid (Sf.span Q195.out hb h1 h2 (fun x hx => ho x.1 (Q195.out.lt x hx)))
  clear h1 h2 hb ho
  have P212 := Lib.hid (R26.out.put [.int .i64 0, .slice none 0 0, .int .i64 0, .slice none 0 0, .int .i64 0, .slice none 0 0, .int .i64 0, .slice none 0 0] 28)
  have Q212 := Lib.hid (Sf.row (pre := []) P212.out [.int .i64 c26.s, .slice c26.a c26.n c26.c, .int .i64 1, .slice c26.b c26.m c26.d, .int .i64 d26.s, .slice d26.a d26.n d26.c, .int .i64 1, .slice d26.b d26.m d26.d])
  obtain ⟨V212, hV212⟩ : ∃ V, ((w26.alloc (.cells #[.int .i64 0, .slice none 0 0, .int .i64 0, .slice none 0 0, .int .i64 0, .slice none 0 0, .int .i64 0, .slice none 0 0] 28)).setRow w26.heap.size #[.int .i64 c26.s, .slice c26.a c26.n c26.c, .int .i64 1, .slice c26.b c26.m c26.d, .int .i64 d26.s, .slice d26.a d26.n d26.c, .int .i64 1, .slice d26.b d26.m d26.d]) = V := ⟨_, rfl⟩
  rw [hV212] at Q212
  have HV212 := Lib.hid hV212
  clear hV212 R26
  obtain ⟨q213, q214, q215, q216, q217, q218, q219, q220⟩ := Fb.cells8 (Q212.out.box (w.heap.size + 1 + 1, 28, [.int .i64 s5, .slice a5 n5 c5, .int .i64 1, .slice b5 m5 d5, .int .i64 s6, .slice a6 n6 c6, .int .i64 1, .slice b6 m6 d6]) mq5)
  obtain ⟨q221, q222, q223, q224, q225, q226, q227, q228⟩ := Fb.cells8 (Q212.out.box (w.heap.size + 1, 28, [.int .i64 s3, .slice a3 n3 c3, .int .i64 1, .slice b3 m3 d3, .int .i64 s4, .slice a4 n4 c4, .int .i64 1, .slice b4 m4 d4]) mq6)
  go_wp2_with (first | (refine wpList_store_row rfl _ _ _ rfl _ #[.int .i64 c26.s, .slice c26.a c26.n c26.c, .int .i64 1, .slice c26.b c26.m c26.d, .int .i64 d26.s, .slice d26.a d26.n d26.c, .int .i64 1, .slice d26.b d26.m d26.d] rfl rfl _ _ (P212.out.box _ List.mem_cons_self) (by kernel_rfl) rfl (by simp [Value.oneCell']) ?_; rw [HV212.out]))
  clear q213 q214 q215 q216 q217 q218 q219 q220 q221 q222 q223 q224 q225 q226 q227 q228
  refine (p10hull (Q212.out.fr (v := .slice a3 n3 c3) (u := .slice b3 m3 d3) (r := p) mq26 mq27 E3.out) Y3.out (Q212.out.fr (v := .slice a4 n4 c4) (u := .slice b4 m4 d4) (r := q) mq24 mq25 E4.out) Y4.out (Q212.out.fr (v := .slice a5 n5 c5) (u := .slice b5 m5 d5) (r := xx) mq22 mq23 E5.out) Y5.out (Q212.out.fr (v := .slice a6 n6 c6) (u := .slice b6 m6 d6) (r := yy) mq20 mq21 E6.out) Y6.out HPQ.out HUV.out (r := (rmin p xx, rmax q yy)) rfl).mono ?_
  rintro e w27 ⟨c27, d27, rfl, h1, h2, hb, ho⟩
  have EC27 := Lib.hid h1.1.1
  have ED27 := Lib.hid h2.1.1
  have R27 := Lib.hid (Sf.span Q212.out hb h1 h2 (fun x hx => ho x.1 (Q212.out.lt x hx)))
  clear h1 h2 hb ho
  have P229 := Lib.hid (R27.out.put [.int .i64 0, .slice none 0 0, .int .i64 0, .slice none 0 0, .int .i64 0, .slice none 0 0, .int .i64 0, .slice none 0 0] 28)
  have Q229 := Lib.hid (Sf.row (pre := []) P229.out [.int .i64 c27.s, .slice c27.a c27.n c27.c, .int .i64 1, .slice c27.b c27.m c27.d, .int .i64 d27.s, .slice d27.a d27.n d27.c, .int .i64 1, .slice d27.b d27.m d27.d])
  obtain ⟨V229, hV229⟩ : ∃ V, ((w27.alloc (.cells #[.int .i64 0, .slice none 0 0, .int .i64 0, .slice none 0 0, .int .i64 0, .slice none 0 0, .int .i64 0, .slice none 0 0] 28)).setRow w27.heap.size #[.int .i64 c27.s, .slice c27.a c27.n c27.c, .int .i64 1, .slice c27.b c27.m c27.d, .int .i64 d27.s, .slice d27.a d27.n d27.c, .int .i64 1, .slice d27.b d27.m d27.d]) = V := ⟨_, rfl⟩
  rw [hV229] at Q229
  have HV229 := Lib.hid hV229
  clear hV229 R27
  obtain ⟨q230, q231, q232, q233, q234, q235, q236, q237⟩ := Fb.cells8 (Q229.out.box (w27.heap.size, 28, [.int .i64 c27.s, .slice c27.a c27.n c27.c, .int .i64 1, .slice c27.b c27.m c27.d, .int .i64 d27.s, .slice d27.a d27.n d27.c, .int .i64 1, .slice d27.b d27.m d27.d]) mq0)
  obtain ⟨q238, q239, q240, q241, q242, q243, q244, q245⟩ := Fb.cells8 (Q229.out.box (w.heap.size, 28, [.int .i64 s1, .slice a1 n1 c1, .int .i64 1, .slice b1 m1 d1, .int .i64 s2, .slice a2 n2 c2, .int .i64 1, .slice b2 m2 d2]) mq8)
  go_wp2_with (first | (refine wpList_store_row rfl _ _ _ rfl _ #[.int .i64 c27.s, .slice c27.a c27.n c27.c, .int .i64 1, .slice c27.b c27.m c27.d, .int .i64 d27.s, .slice d27.a d27.n d27.c, .int .i64 1, .slice d27.b d27.m d27.d] rfl rfl _ _ (P229.out.box _ List.mem_cons_self) (by kernel_rfl) rfl (by simp [Value.oneCell']) ?_; rw [HV229.out]))
  clear q230 q231 q232 q233 q234 q235 q236 q237 q238 q239 q240 q241 q242 q243 q244 q245
  refine (p10hull (Q229.out.fr (v := .slice a1 n1 c1) (u := .slice b1 m1 d1) (r := x) mq34 mq35 E1.out) Y1.out (Q229.out.fr (v := .slice a2 n2 c2) (u := .slice b2 m2 d2) (r := y) mq32 mq33 E2.out) Y2.out (Q229.out.fr (v := .slice c27.a c27.n c27.c) (u := .slice c27.b c27.m c27.d) (r := (rmin p xx)) mq0 mq1 EC27.out) ZK1.out (Q229.out.fr (v := .slice d27.a d27.n d27.c) (u := .slice d27.b d27.m d27.d) (r := (rmax q yy)) mq2 mq3 ED27.out) ZK2.out HXY.out HKL.out (r := (rmin x (rmin p xx), rmax y (rmax q yy))) rfl).mono ?_
  rintro e w28 ⟨c28, d28, rfl, h1, h2, hb, ho⟩
  have EC28 := Lib.hid h1.1.1
  have ED28 := Lib.hid h2.1.1
  have R28 := Lib.hid (Sf.span Q229.out hb h1 h2 (fun x hx => ho x.1 (Q229.out.lt x hx)))
  clear h1 h2 hb ho
  have P246 := Lib.hid (R28.out.put [.int .i64 0, .slice none 0 0, .int .i64 0, .slice none 0 0, .int .i64 0, .slice none 0 0, .int .i64 0, .slice none 0 0] 28)
  have Q246 := Lib.hid (Sf.row (pre := []) P246.out [.int .i64 c28.s, .slice c28.a c28.n c28.c, .int .i64 1, .slice c28.b c28.m c28.d, .int .i64 d28.s, .slice d28.a d28.n d28.c, .int .i64 1, .slice d28.b d28.m d28.d])
  obtain ⟨V246, hV246⟩ : ∃ V, ((w28.alloc (.cells #[.int .i64 0, .slice none 0 0, .int .i64 0, .slice none 0 0, .int .i64 0, .slice none 0 0, .int .i64 0, .slice none 0 0] 28)).setRow w28.heap.size #[.int .i64 c28.s, .slice c28.a c28.n c28.c, .int .i64 1, .slice c28.b c28.m c28.d, .int .i64 d28.s, .slice d28.a d28.n d28.c, .int .i64 1, .slice d28.b d28.m d28.d]) = V := ⟨_, rfl⟩
  rw [hV246] at Q246
  have HV246 := Lib.hid hV246
  clear hV246 R28
  obtain ⟨q247, q248, q249, q250, q251, q252, q253, q254⟩ := Fb.cells8 (Q246.out.box (w25.heap.size, 28, [.int .i64 c25.s, .slice c25.a c25.n c25.c, .int .i64 1, .slice c25.b c25.m c25.d, .int .i64 d25.s, .slice d25.a d25.n d25.c, .int .i64 1, .slice d25.b d25.m d25.d]) mq3)
  obtain ⟨q255, q256, q257, q258, q259, q260, q261, q262⟩ := Fb.cells8 (Q246.out.box (w24.heap.size, 28, [.int .i64 c24.s, .slice c24.a c24.n c24.c, .int .i64 1, .slice c24.b c24.m c24.d, .int .i64 d24.s, .slice d24.a d24.n d24.c, .int .i64 1, .slice d24.b d24.m d24.d]) mq4)
  go_wp2_with (first | (refine wpList_store_row rfl _ _ _ rfl _ #[.int .i64 c28.s, .slice c28.a c28.n c28.c, .int .i64 1, .slice c28.b c28.m c28.d, .int .i64 d28.s, .slice d28.a d28.n d28.c, .int .i64 1, .slice d28.b d28.m d28.d] rfl rfl _ _ (P246.out.box _ List.mem_cons_self) (by kernel_rfl) rfl (by simp [Value.oneCell']) ?_; rw [HV246.out]))
  clear q247 q248 q249 q250 q251 q252 q253 q254 q255 q256 q257 q258 q259 q260 q261 q262
  refine (same_fo (r := true) (Q246.out.fr (v := .slice c24.a c24.n c24.c) (u := .slice c24.b c24.m c24.d) (r := (rmin x p)) mq16 mq17 EC24.out) (Q246.out.fr (v := .slice d24.a d24.n d24.c) (u := .slice d24.b d24.m d24.d) (r := (rmax y q)) mq18 mq19 ED24.out) (Q246.out.fr (v := .slice c25.a c25.n c25.c) (u := .slice c25.b c25.m c25.d) (r := (rmin p x)) mq12 mq13 EC25.out) (Q246.out.fr (v := .slice d25.a d25.n d25.c) (u := .slice d25.b d25.m d25.d) (r := (rmax q y)) mq14 mq15 ED25.out) QH.out).mono ?_
  rintro e w29 ⟨rfl, hb⟩
  have R29 := Lib.hid (Q246.out.later hb)
  clear hb
  obtain ⟨q263, q264, q265, q266, q267, q268, q269, q270⟩ := Fb.cells8 (R29.out.box (w28.heap.size, 28, [.int .i64 c28.s, .slice c28.a c28.n c28.c, .int .i64 1, .slice c28.b c28.m c28.d, .int .i64 d28.s, .slice d28.a d28.n d28.c, .int .i64 1, .slice d28.b d28.m d28.d]) mq0)
  obtain ⟨q271, q272, q273, q274, q275, q276, q277, q278⟩ := Fb.cells8 (R29.out.box (w26.heap.size, 28, [.int .i64 c26.s, .slice c26.a c26.n c26.c, .int .i64 1, .slice c26.b c26.m c26.d, .int .i64 d26.s, .slice d26.a d26.n d26.c, .int .i64 1, .slice d26.b d26.m d26.d]) mq2)
  go_wp2_with fail
  clear q263 q264 q265 q266 q267 q268 q269 q270 q271 q272 q273 q274 q275 q276 q277 q278
  refine (same_fo (r := true) (R29.out.fr (v := .slice c26.a c26.n c26.c) (u := .slice c26.b c26.m c26.d) (r := (rmin (rmin x p) xx)) mq8 mq9 EC26.out) (R29.out.fr (v := .slice d26.a d26.n d26.c) (u := .slice d26.b d26.m d26.d) (r := (rmax (rmax y q) yy)) mq10 mq11 ED26.out) (R29.out.fr (v := .slice c28.a c28.n c28.c) (u := .slice c28.b c28.m c28.d) (r := (rmin x (rmin p xx))) mq0 mq1 EC28.out) (R29.out.fr (v := .slice d28.a d28.n d28.c) (u := .slice d28.b d28.m d28.d) (r := (rmax y (rmax q yy))) mq2 mq3 ED28.out) QA.out).mono ?_
  rintro e w30 ⟨rfl, hb⟩
  have R30 := Lib.hid (R29.out.later hb)
  clear hb
  obtain ⟨q279, q280, q281, q282, q283, q284, q285, q286⟩ := Fb.cells8 (R30.out.box (w.heap.size + 1 + 1, 28, [.int .i64 s5, .slice a5 n5 c5, .int .i64 1, .slice b5 m5 d5, .int .i64 s6, .slice a6 n6 c6, .int .i64 1, .slice b6 m6 d6]) mq7)
  obtain ⟨q287, q288, q289, q290, q291, q292, q293, q294⟩ := Fb.cells8 (R30.out.box (w.heap.size + 1, 28, [.int .i64 s3, .slice a3 n3 c3, .int .i64 1, .slice b3 m3 d3, .int .i64 s4, .slice a4 n4 c4, .int .i64 1, .slice b4 m4 d4]) mq8)
  go_wp2_with fail
  clear q279 q280 q281 q282 q283 q284 q285 q286 q287 q288 q289 q290 q291 q292 q293 q294
  refine (p10add (R30.out.fr (v := .slice a3 n3 c3) (u := .slice b3 m3 d3) (r := p) mq34 mq35 E3.out) Y3.out (R30.out.fr (v := .slice a4 n4 c4) (u := .slice b4 m4 d4) (r := q) mq32 mq33 E4.out) Y4.out (R30.out.fr (v := .slice a5 n5 c5) (u := .slice b5 m5 d5) (r := xx) mq30 mq31 E5.out) Y5.out (R30.out.fr (v := .slice a6 n6 c6) (u := .slice b6 m6 d6) (r := yy) mq28 mq29 E6.out) Y6.out HPQ.out HUV.out (r := (p + xx, q + yy)) rfl).mono ?_
  rintro e w31 ⟨c31, d31, rfl, h1, h2, hb, ho⟩
  have EC31 := Lib.hid h1.1.1
  have ED31 := Lib.hid h2.1.1
  have R31 := Lib.hid (Sf.span R30.out hb h1 h2 (fun x hx => ho x.1 (R30.out.lt x hx)))
  clear h1 h2 hb ho
  have P295 := Lib.hid (R31.out.put [.int .i64 0, .slice none 0 0, .int .i64 0, .slice none 0 0, .int .i64 0, .slice none 0 0, .int .i64 0, .slice none 0 0] 28)
  have Q295 := Lib.hid (Sf.row (pre := []) P295.out [.int .i64 c31.s, .slice c31.a c31.n c31.c, .int .i64 1, .slice c31.b c31.m c31.d, .int .i64 d31.s, .slice d31.a d31.n d31.c, .int .i64 1, .slice d31.b d31.m d31.d])
  obtain ⟨V295, hV295⟩ : ∃ V, ((w31.alloc (.cells #[.int .i64 0, .slice none 0 0, .int .i64 0, .slice none 0 0, .int .i64 0, .slice none 0 0, .int .i64 0, .slice none 0 0] 28)).setRow w31.heap.size #[.int .i64 c31.s, .slice c31.a c31.n c31.c, .int .i64 1, .slice c31.b c31.m c31.d, .int .i64 d31.s, .slice d31.a d31.n d31.c, .int .i64 1, .slice d31.b d31.m d31.d]) = V := ⟨_, rfl⟩
  rw [hV295] at Q295
  have HV295 := Lib.hid hV295
  clear hV295 R31
  obtain ⟨q296, q297, q298, q299, q300, q301, q302, q303⟩ := Fb.cells8 (Q295.out.box (w31.heap.size, 28, [.int .i64 c31.s, .slice c31.a c31.n c31.c, .int .i64 1, .slice c31.b c31.m c31.d, .int .i64 d31.s, .slice d31.a d31.n d31.c, .int .i64 1, .slice d31.b d31.m d31.d]) mq0)
  obtain ⟨q304, q305, q306, q307, q308, q309, q310, q311⟩ := Fb.cells8 (Q295.out.box (w.heap.size, 28, [.int .i64 s1, .slice a1 n1 c1, .int .i64 1, .slice b1 m1 d1, .int .i64 s2, .slice a2 n2 c2, .int .i64 1, .slice b2 m2 d2]) mq10)
  go_wp2_with (first | (refine wpList_store_row rfl _ _ _ rfl _ #[.int .i64 c31.s, .slice c31.a c31.n c31.c, .int .i64 1, .slice c31.b c31.m c31.d, .int .i64 d31.s, .slice d31.a d31.n d31.c, .int .i64 1, .slice d31.b d31.m d31.d] rfl rfl _ _ (P295.out.box _ List.mem_cons_self) (by kernel_rfl) rfl (by simp [Value.oneCell']) ?_; rw [HV295.out]))
  clear q296 q297 q298 q299 q300 q301 q302 q303 q304 q305 q306 q307 q308 q309 q310 q311
  refine (p10mul (Q295.out.fr (v := .slice a1 n1 c1) (u := .slice b1 m1 d1) (r := x) (List.mem_cons_of_mem _ (List.mem_cons_of_mem _ (List.mem_cons_of_mem _ mq39))) (List.mem_cons_of_mem _ (List.mem_cons_of_mem _ (List.mem_cons_of_mem _ (List.mem_cons_of_mem _ mq39)))) E1.out) Y1.out (Q295.out.fr (v := .slice a2 n2 c2) (u := .slice b2 m2 d2) (r := y) (List.mem_cons_of_mem _ mq39) (List.mem_cons_of_mem _ (List.mem_cons_of_mem _ mq39)) E2.out) Y2.out (Q295.out.fr (v := .slice c31.a c31.n c31.c) (u := .slice c31.b c31.m c31.d) (r := (p + xx)) mq0 mq1 EC31.out) ZS1.out.mono (Q295.out.fr (v := .slice d31.a d31.n d31.c) (u := .slice d31.b d31.m d31.d) (r := (q + yy)) mq2 mq3 ED31.out) ZS2.out.mono HXY.out LSU.out HM.out).mono ?_
  rintro e w32 ⟨c32, d32, rfl, h1, h2, hb, ho⟩
  have EC32 := Lib.hid h1.1.1
  have ED32 := Lib.hid h2.1.1
  have R32 := Lib.hid (Sf.span Q295.out hb h1 h2 (fun x hx => ho x.1 (Q295.out.lt x hx)))
  clear h1 h2 hb ho
  have P312 := Lib.hid (R32.out.put [.int .i64 0, .slice none 0 0, .int .i64 0, .slice none 0 0, .int .i64 0, .slice none 0 0, .int .i64 0, .slice none 0 0] 28)
  have Q312 := Lib.hid (Sf.row (pre := []) P312.out [.int .i64 c32.s, .slice c32.a c32.n c32.c, .int .i64 1, .slice c32.b c32.m c32.d, .int .i64 d32.s, .slice d32.a d32.n d32.c, .int .i64 1, .slice d32.b d32.m d32.d])
  obtain ⟨V312, hV312⟩ : ∃ V, ((w32.alloc (.cells #[.int .i64 0, .slice none 0 0, .int .i64 0, .slice none 0 0, .int .i64 0, .slice none 0 0, .int .i64 0, .slice none 0 0] 28)).setRow w32.heap.size #[.int .i64 c32.s, .slice c32.a c32.n c32.c, .int .i64 1, .slice c32.b c32.m c32.d, .int .i64 d32.s, .slice d32.a d32.n d32.c, .int .i64 1, .slice d32.b d32.m d32.d]) = V := ⟨_, rfl⟩
  rw [hV312] at Q312
  have HV312 := Lib.hid hV312
  clear hV312 R32
  obtain ⟨q313, q314, q315, q316, q317, q318, q319, q320⟩ := Fb.cells8 (Q312.out.box (w.heap.size + 1, 28, [.int .i64 s3, .slice a3 n3 c3, .int .i64 1, .slice b3 m3 d3, .int .i64 s4, .slice a4 n4 c4, .int .i64 1, .slice b4 m4 d4]) mq10)
  obtain ⟨q321, q322, q323, q324, q325, q326, q327, q328⟩ := Fb.cells8 (Q312.out.box (w.heap.size, 28, [.int .i64 s1, .slice a1 n1 c1, .int .i64 1, .slice b1 m1 d1, .int .i64 s2, .slice a2 n2 c2, .int .i64 1, .slice b2 m2 d2]) mq11)
  go_wp2_with (first | (refine wpList_store_row rfl _ _ _ rfl _ #[.int .i64 c32.s, .slice c32.a c32.n c32.c, .int .i64 1, .slice c32.b c32.m c32.d, .int .i64 d32.s, .slice d32.a d32.n d32.c, .int .i64 1, .slice d32.b d32.m d32.d] rfl rfl _ _ (P312.out.box _ List.mem_cons_self) (by kernel_rfl) rfl (by simp [Value.oneCell']) ?_; rw [HV312.out]))
  clear q313 q314 q315 q316 q317 q318 q319 q320 q321 q322 q323 q324 q325 q326 q327 q328
  refine (p10mul (Q312.out.fr (v := .slice a1 n1 c1) (u := .slice b1 m1 d1) (r := x) (List.mem_cons_of_mem _ (List.mem_cons_of_mem _ (List.mem_cons_of_mem _ (List.mem_cons_of_mem _ (List.mem_cons_of_mem _ (List.mem_cons_of_mem _ (List.mem_cons_of_mem _ mq39))))))) (List.mem_cons_of_mem _ (List.mem_cons_of_mem _ (List.mem_cons_of_mem _ (List.mem_cons_of_mem _ (List.mem_cons_of_mem _ (List.mem_cons_of_mem _ (List.mem_cons_of_mem _ (List.mem_cons_of_mem _ mq39)))))))) E1.out) Y1.out (Q312.out.fr (v := .slice a2 n2 c2) (u := .slice b2 m2 d2) (r := y) (List.mem_cons_of_mem _ (List.mem_cons_of_mem _ (List.mem_cons_of_mem _ (List.mem_cons_of_mem _ (List.mem_cons_of_mem _ mq39))))) (List.mem_cons_of_mem _ (List.mem_cons_of_mem _ (List.mem_cons_of_mem _ (List.mem_cons_of_mem _ (List.mem_cons_of_mem _ (List.mem_cons_of_mem _ mq39)))))) E2.out) Y2.out (Q312.out.fr (v := .slice a3 n3 c3) (u := .slice b3 m3 d3) (r := p) (List.mem_cons_of_mem _ (List.mem_cons_of_mem _ (List.mem_cons_of_mem _ mq39))) (List.mem_cons_of_mem _ (List.mem_cons_of_mem _ (List.mem_cons_of_mem _ (List.mem_cons_of_mem _ mq39)))) E3.out) Y3.out (Q312.out.fr (v := .slice a4 n4 c4) (u := .slice b4 m4 d4) (r := q) (List.mem_cons_of_mem _ mq39) (List.mem_cons_of_mem _ (List.mem_cons_of_mem _ mq39)) E4.out) Y4.out HXY.out HPQ.out HM1.out).mono ?_
  rintro e w33 ⟨c33, d33, rfl, h1, h2, hb, ho⟩
  have EC33 := Lib.hid h1.1.1
  have ED33 := Lib.hid h2.1.1
  have R33 := Lib.hid (Sf.span Q312.out hb h1 h2 (fun x hx => ho x.1 (Q312.out.lt x hx)))
  clear h1 h2 hb ho
  have P329 := Lib.hid (R33.out.put [.int .i64 0, .slice none 0 0, .int .i64 0, .slice none 0 0, .int .i64 0, .slice none 0 0, .int .i64 0, .slice none 0 0] 28)
  have Q329 := Lib.hid (Sf.row (pre := []) P329.out [.int .i64 c33.s, .slice c33.a c33.n c33.c, .int .i64 1, .slice c33.b c33.m c33.d, .int .i64 d33.s, .slice d33.a d33.n d33.c, .int .i64 1, .slice d33.b d33.m d33.d])
  obtain ⟨V329, hV329⟩ : ∃ V, ((w33.alloc (.cells #[.int .i64 0, .slice none 0 0, .int .i64 0, .slice none 0 0, .int .i64 0, .slice none 0 0, .int .i64 0, .slice none 0 0] 28)).setRow w33.heap.size #[.int .i64 c33.s, .slice c33.a c33.n c33.c, .int .i64 1, .slice c33.b c33.m c33.d, .int .i64 d33.s, .slice d33.a d33.n d33.c, .int .i64 1, .slice d33.b d33.m d33.d]) = V := ⟨_, rfl⟩
  rw [hV329] at Q329
  have HV329 := Lib.hid hV329
  clear hV329 R33
  obtain ⟨q330, q331, q332, q333, q334, q335, q336, q337⟩ := Fb.cells8 (Q329.out.box (w.heap.size + 1 + 1, 28, [.int .i64 s5, .slice a5 n5 c5, .int .i64 1, .slice b5 m5 d5, .int .i64 s6, .slice a6 n6 c6, .int .i64 1, .slice b6 m6 d6]) mq10)
  obtain ⟨q338, q339, q340, q341, q342, q343, q344, q345⟩ := Fb.cells8 (Q329.out.box (w.heap.size, 28, [.int .i64 s1, .slice a1 n1 c1, .int .i64 1, .slice b1 m1 d1, .int .i64 s2, .slice a2 n2 c2, .int .i64 1, .slice b2 m2 d2]) mq12)
  go_wp2_with (first | (refine wpList_store_row rfl _ _ _ rfl _ #[.int .i64 c33.s, .slice c33.a c33.n c33.c, .int .i64 1, .slice c33.b c33.m c33.d, .int .i64 d33.s, .slice d33.a d33.n d33.c, .int .i64 1, .slice d33.b d33.m d33.d] rfl rfl _ _ (P329.out.box _ List.mem_cons_self) (by kernel_rfl) rfl (by simp [Value.oneCell']) ?_; rw [HV329.out]))
  clear q330 q331 q332 q333 q334 q335 q336 q337 q338 q339 q340 q341 q342 q343 q344 q345
  refine (p10mul (Q329.out.fr (v := .slice a1 n1 c1) (u := .slice b1 m1 d1) (r := x) (List.mem_cons_of_mem _ (List.mem_cons_of_mem _ (List.mem_cons_of_mem _ (List.mem_cons_of_mem _ (List.mem_cons_of_mem _ (List.mem_cons_of_mem _ (List.mem_cons_of_mem _ (List.mem_cons_of_mem _ (List.mem_cons_of_mem _ (List.mem_cons_of_mem _ (List.mem_cons_of_mem _ mq39))))))))))) (List.mem_cons_of_mem _ (List.mem_cons_of_mem _ (List.mem_cons_of_mem _ (List.mem_cons_of_mem _ (List.mem_cons_of_mem _ (List.mem_cons_of_mem _ (List.mem_cons_of_mem _ (List.mem_cons_of_mem _ (List.mem_cons_of_mem _ (List.mem_cons_of_mem _ (List.mem_cons_of_mem _ (List.mem_cons_of_mem _ mq39)))))))))))) E1.out) Y1.out (Q329.out.fr (v := .slice a2 n2 c2) (u := .slice b2 m2 d2) (r := y) (List.mem_cons_of_mem _ (List.mem_cons_of_mem _ (List.mem_cons_of_mem _ (List.mem_cons_of_mem _ (List.mem_cons_of_mem _ (List.mem_cons_of_mem _ (List.mem_cons_of_mem _ (List.mem_cons_of_mem _ (List.mem_cons_of_mem _ mq39))))))))) (List.mem_cons_of_mem _ (List.mem_cons_of_mem _ (List.mem_cons_of_mem _ (List.mem_cons_of_mem _ (List.mem_cons_of_mem _ (List.mem_cons_of_mem _ (List.mem_cons_of_mem _ (List.mem_cons_of_mem _ (List.mem_cons_of_mem _ (List.mem_cons_of_mem _ mq39)))))))))) E2.out) Y2.out (Q329.out.fr (v := .slice a5 n5 c5) (u := .slice b5 m5 d5) (r := xx) (List.mem_cons_of_mem _ (List.mem_cons_of_mem _ (List.mem_cons_of_mem _ mq39))) (List.mem_cons_of_mem _ (List.mem_cons_of_mem _ (List.mem_cons_of_mem _ (List.mem_cons_of_mem _ mq39)))) E5.out) Y5.out (Q329.out.fr (v := .slice a6 n6 c6) (u := .slice b6 m6 d6) (r := yy) (List.mem_cons_of_mem _ mq39) (List.mem_cons_of_mem _ (List.mem_cons_of_mem _ mq39)) E6.out) Y6.out HXY.out HUV.out HM2.out).mono ?_
  rintro e w34 ⟨c34, d34, rfl, h1, h2, hb, ho⟩
  have EC34 := Lib.hid h1.1.1
  have ED34 := Lib.hid h2.1.1
  have R34 := Lib.hid (Sf.span Q329.out hb h1 h2 (fun x hx => ho x.1 (Q329.out.lt x hx)))
  clear h1 h2 hb ho
  have P346 := Lib.hid (R34.out.put [.int .i64 0, .slice none 0 0, .int .i64 0, .slice none 0 0, .int .i64 0, .slice none 0 0, .int .i64 0, .slice none 0 0] 28)
  have Q346 := Lib.hid (Sf.row (pre := []) P346.out [.int .i64 c34.s, .slice c34.a c34.n c34.c, .int .i64 1, .slice c34.b c34.m c34.d, .int .i64 d34.s, .slice d34.a d34.n d34.c, .int .i64 1, .slice d34.b d34.m d34.d])
  obtain ⟨V346, hV346⟩ : ∃ V, ((w34.alloc (.cells #[.int .i64 0, .slice none 0 0, .int .i64 0, .slice none 0 0, .int .i64 0, .slice none 0 0, .int .i64 0, .slice none 0 0] 28)).setRow w34.heap.size #[.int .i64 c34.s, .slice c34.a c34.n c34.c, .int .i64 1, .slice c34.b c34.m c34.d, .int .i64 d34.s, .slice d34.a d34.n d34.c, .int .i64 1, .slice d34.b d34.m d34.d]) = V := ⟨_, rfl⟩
  rw [hV346] at Q346
  have HV346 := Lib.hid hV346
  clear hV346 R34
  obtain ⟨q347, q348, q349, q350, q351, q352, q353, q354⟩ := Fb.cells8 (Q346.out.box (w34.heap.size, 28, [.int .i64 c34.s, .slice c34.a c34.n c34.c, .int .i64 1, .slice c34.b c34.m c34.d, .int .i64 d34.s, .slice d34.a d34.n d34.c, .int .i64 1, .slice d34.b d34.m d34.d]) mq0)
  obtain ⟨q355, q356, q357, q358, q359, q360, q361, q362⟩ := Fb.cells8 (Q346.out.box (w33.heap.size, 28, [.int .i64 c33.s, .slice c33.a c33.n c33.c, .int .i64 1, .slice c33.b c33.m c33.d, .int .i64 d33.s, .slice d33.a d33.n d33.c, .int .i64 1, .slice d33.b d33.m d33.d]) mq1)
  go_wp2_with (first | (refine wpList_store_row rfl _ _ _ rfl _ #[.int .i64 c34.s, .slice c34.a c34.n c34.c, .int .i64 1, .slice c34.b c34.m c34.d, .int .i64 d34.s, .slice d34.a d34.n d34.c, .int .i64 1, .slice d34.b d34.m d34.d] rfl rfl _ _ (P346.out.box _ List.mem_cons_self) (by kernel_rfl) rfl (by simp [Value.oneCell']) ?_; rw [HV346.out]))
  clear q347 q348 q349 q350 q351 q352 q353 q354 q355 q356 q357 q358 q359 q360 q361 q362
  refine (p10add (Q346.out.fr (v := .slice c33.a c33.n c33.c) (u := .slice c33.b c33.m c33.d) (r := mv.1) mq4 mq5 EC33.out) SM1.out.1.mono (Q346.out.fr (v := .slice d33.a d33.n d33.c) (u := .slice d33.b d33.m d33.d) (r := mv.2) mq6 mq7 ED33.out) SM1.out.2.mono (Q346.out.fr (v := .slice c34.a c34.n c34.c) (u := .slice c34.b c34.m c34.d) (r := mw.1) mq0 mq1 EC34.out) SM2.out.1.mono (Q346.out.fr (v := .slice d34.a d34.n d34.c) (u := .slice d34.b d34.m d34.d) (r := mw.2) mq2 mq3 ED34.out) SM2.out.2.mono LM1.out LM2.out (r := (mv.1 + mw.1, mv.2 + mw.2)) rfl).mono ?_
  rintro e w35 ⟨c35, d35, rfl, h1, h2, hb, ho⟩
  have EC35 := Lib.hid h1.1.1
  have ED35 := Lib.hid h2.1.1
  have R35 := Lib.hid (Sf.span Q346.out hb h1 h2 (fun x hx => ho x.1 (Q346.out.lt x hx)))
  clear h1 h2 hb ho
  have P363 := Lib.hid (R35.out.put [.int .i64 0, .slice none 0 0, .int .i64 0, .slice none 0 0, .int .i64 0, .slice none 0 0, .int .i64 0, .slice none 0 0] 28)
  have Q363 := Lib.hid (Sf.row (pre := []) P363.out [.int .i64 c35.s, .slice c35.a c35.n c35.c, .int .i64 1, .slice c35.b c35.m c35.d, .int .i64 d35.s, .slice d35.a d35.n d35.c, .int .i64 1, .slice d35.b d35.m d35.d])
  obtain ⟨V363, hV363⟩ : ∃ V, ((w35.alloc (.cells #[.int .i64 0, .slice none 0 0, .int .i64 0, .slice none 0 0, .int .i64 0, .slice none 0 0, .int .i64 0, .slice none 0 0] 28)).setRow w35.heap.size #[.int .i64 c35.s, .slice c35.a c35.n c35.c, .int .i64 1, .slice c35.b c35.m c35.d, .int .i64 d35.s, .slice d35.a d35.n d35.c, .int .i64 1, .slice d35.b d35.m d35.d]) = V := ⟨_, rfl⟩
  rw [hV363] at Q363
  have HV363 := Lib.hid hV363
  clear hV363 R35
  obtain ⟨q364, q365, q366, q367, q368, q369, q370, q371⟩ := Fb.cells8 (Q363.out.box (w32.heap.size, 28, [.int .i64 c32.s, .slice c32.a c32.n c32.c, .int .i64 1, .slice c32.b c32.m c32.d, .int .i64 d32.s, .slice d32.a d32.n d32.c, .int .i64 1, .slice d32.b d32.m d32.d]) mq3)
  obtain ⟨q372, q373, q374, q375, q376, q377, q378, q379⟩ := Fb.cells8 (Q363.out.box (w35.heap.size, 28, [.int .i64 c35.s, .slice c35.a c35.n c35.c, .int .i64 1, .slice c35.b c35.m c35.d, .int .i64 d35.s, .slice d35.a d35.n d35.c, .int .i64 1, .slice d35.b d35.m d35.d]) mq0)
  go_wp2_with (first | (refine wpList_store_row rfl _ _ _ rfl _ #[.int .i64 c35.s, .slice c35.a c35.n c35.c, .int .i64 1, .slice c35.b c35.m c35.d, .int .i64 d35.s, .slice d35.a d35.n d35.c, .int .i64 1, .slice d35.b d35.m d35.d] rfl rfl _ _ (P363.out.box _ List.mem_cons_self) (by kernel_rfl) rfl (by simp [Value.oneCell']) ?_; rw [HV363.out]))
  clear q364 q365 q366 q367 q368 q369 q370 q371 q372 q373 q374 q375 q376 q377 q378 q379
  refine (p10inside_k (r := true) (Q363.out.fr (v := .slice c32.a c32.n c32.c) (u := .slice c32.b c32.m c32.d) (r := m.1) mq12 mq13 EC32.out) SM0.out.1.mono (Q363.out.fr (v := .slice d32.a d32.n d32.c) (u := .slice d32.b d32.m d32.d) (r := m.2) mq14 mq15 ED32.out) SM0.out.2.mono (Q363.out.fr (v := .slice c35.a c35.n c35.c) (u := .slice c35.b c35.m c35.d) (r := (mv.1 + mw.1)) mq0 mq1 EC35.out) ZP1.out.mono (Q363.out.fr (v := .slice d35.a d35.n d35.c) (u := .slice d35.b d35.m d35.d) (r := (mv.2 + mw.2)) mq2 mq3 ED35.out) ZP2.out.mono LM.out LP1.out QS.out).mono ?_
  rintro e w36 ⟨rfl, hb⟩
  have R36 := Lib.hid (Q363.out.later hb)
  clear hb
  go_wp2_with fail
  go_ret
  exact ⟨rfl, R36.out.below⟩

theorem laws_all {w : World} {s1 t1 : Int} {a1 b1 : Option Addr} {c1 d1 : Nat} {l1 k1 : List Int} {s2 t2 : Int} {a2 b2 : Option Addr} {c2 d2 : Nat} {l2 k2 : List Int} {s3 t3 : Int} {a3 b3 : Option Addr} {c3 d3 : Nat} {l3 k3 : List Int} {s4 t4 : Int} {a4 b4 : Option Addr} {c4 d4 : Nat} {l4 k4 : List Int} {s5 t5 : Int} {a5 b5 : Option Addr} {c5 d5 : Nat} {l5 k5 : List Int} {s6 t6 : Int} {a6 b6 : Option Addr} {c6 d6 : Nat} {l6 k6 : List Int} (y1 : l1.length ≤ 9223372036854775807) (z1 : k1.length ≤ 9223372036854775807) (i1 : l1.length ≤ 1000000000 → Ints w (.slice a1 l1.length c1) l1) (j1 : k1.length ≤ 1000000000 → Ints w (.slice b1 k1.length d1) k1) (y2 : l2.length ≤ 9223372036854775807) (z2 : k2.length ≤ 9223372036854775807) (i2 : l2.length ≤ 1000000000 → Ints w (.slice a2 l2.length c2) l2) (j2 : k2.length ≤ 1000000000 → Ints w (.slice b2 k2.length d2) k2) (y3 : l3.length ≤ 9223372036854775807) (z3 : k3.length ≤ 9223372036854775807) (i3 : l3.length ≤ 1000000000 → Ints w (.slice a3 l3.length c3) l3) (j3 : k3.length ≤ 1000000000 → Ints w (.slice b3 k3.length d3) k3) (y4 : l4.length ≤ 9223372036854775807) (z4 : k4.length ≤ 9223372036854775807) (i4 : l4.length ≤ 1000000000 → Ints w (.slice a4 l4.length c4) l4) (j4 : k4.length ≤ 1000000000 → Ints w (.slice b4 k4.length d4) k4) (y5 : l5.length ≤ 9223372036854775807) (z5 : k5.length ≤ 9223372036854775807) (i5 : l5.length ≤ 1000000000 → Ints w (.slice a5 l5.length c5) l5) (j5 : k5.length ≤ 1000000000 → Ints w (.slice b5 k5.length d5) k5) (y6 : l6.length ≤ 9223372036854775807) (z6 : k6.length ≤ 9223372036854775807) (i6 : l6.length ≤ 1000000000 → Ints w (.slice a6 l6.length c6) l6) (j6 : k6.length ≤ 1000000000 → Ints w (.slice b6 k6.length d6) k6) :
    Calls Try.prog 5 #[.agg #[.int .i64 s1, .slice a1 l1.length c1, .int .i64 t1, .slice b1 k1.length d1, .int .i64 s2, .slice a2 l2.length c2, .int .i64 t2, .slice b2 k2.length d2], .agg #[.int .i64 s3, .slice a3 l3.length c3, .int .i64 t3, .slice b3 k3.length d3, .int .i64 s4, .slice a4 l4.length c4, .int .i64 t4, .slice b4 k4.length d4], .agg #[.int .i64 s5, .slice a5 l5.length c5, .int .i64 t5, .slice b5 k5.length d5, .int .i64 s6, .slice a6 l6.length c6, .int .i64 t6, .slice b6 k6.length d6]] w fun e w' => e = .returned (.bool true) ∧ RowKit.Below w.heap.size w w' := by
  rcases hq : ((((decide ((l1.length : Int) ≤ 4) && decide ((k1.length : Int) ≤ 4)) && (decide ((l2.length : Int) ≤ 4) && decide ((k2.length : Int) ≤ 4))) && ((decide ((l3.length : Int) ≤ 4) && decide ((k3.length : Int) ≤ 4)) && (decide ((l4.length : Int) ≤ 4) && decide ((k4.length : Int) ≤ 4)))) && ((decide ((l5.length : Int) ≤ 4) && decide ((k5.length : Int) ≤ 4)) && (decide ((l6.length : Int) ≤ 4) && decide ((k6.length : Int) ≤ 4)))) with _ | _
  · exact laws_no y1 z1 y2 z2 y3 z3 y4 z4 y5 z5 y6 z6 hq
  · simp only [Bool.and_eq_true, decide_eq_true_eq] at hq
    have q1 : l1.length ≤ 4 := by omega
    have p1 : k1.length ≤ 4 := by omega
    have I1 := i1 (by omega)
    have J1 := j1 (by omega)
    have q2 : l2.length ≤ 4 := by omega
    have p2 : k2.length ≤ 4 := by omega
    have I2 := i2 (by omega)
    have J2 := j2 (by omega)
    have q3 : l3.length ≤ 4 := by omega
    have p3 : k3.length ≤ 4 := by omega
    have I3 := i3 (by omega)
    have J3 := j3 (by omega)
    have q4 : l4.length ≤ 4 := by omega
    have p4 : k4.length ≤ 4 := by omega
    have I4 := i4 (by omega)
    have J4 := j4 (by omega)
    have q5 : l5.length ≤ 4 := by omega
    have p5 : k5.length ≤ 4 := by omega
    have I5 := i5 (by omega)
    have J5 := j5 (by omega)
    have q6 : l6.length ≤ 4 := by omega
    have p6 : k6.length ≤ 4 := by omega
    have I6 := i6 (by omega)
    have J6 := j6 (by omega)
    clear hq y1 z1 i1 j1 y2 z2 i2 j2 y3 z3 i3 j3 y4 z4 i4 j4 y5 z5 i5 j5 y6 z6 i6 j6
    rcases hv : (sR s1 l1 t1 k1 s2 l2 t2 k2 && (sR s3 l3 t3 k3 s4 l4 t4 k4 && sR s5 l5 t5 k5 s6 l6 t6 k6)) with _ | _
    · exact laws_bad I1 J1 q1 p1 rfl rfl I2 J2 q2 p2 rfl rfl I3 J3 q3 p3 rfl rfl I4 J4 q4 p4 rfl rfl I5 J5 q5 p5 rfl rfl I6 J6 q6 p6 rfl rfl hv
    · simp only [Bool.and_eq_true] at hv
      obtain ⟨v1, v2, v3⟩ := hv
      obtain ⟨x, y, ⟨rfl, rfl, rfl, rfl⟩, ⟨rfl, rfl, rfl, rfl⟩, v12⟩ := sR_good v1
      have F1 : Fr w _ _ _ x := ⟨⟨rfl, I1⟩, ⟨(den_sign x).symm, J1⟩⟩
      have S1 : FSz 4 x := ⟨Sz.of q1, Sz.of p1⟩
      have F2 : Fr w _ _ _ y := ⟨⟨rfl, I2⟩, ⟨(den_sign y).symm, J2⟩⟩
      have S2 : FSz 4 y := ⟨Sz.of q2, Sz.of p2⟩
      obtain ⟨p, q, ⟨rfl, rfl, rfl, rfl⟩, ⟨rfl, rfl, rfl, rfl⟩, v34⟩ := sR_good v2
      have F3 : Fr w _ _ _ p := ⟨⟨rfl, I3⟩, ⟨(den_sign p).symm, J3⟩⟩
      have S3 : FSz 4 p := ⟨Sz.of q3, Sz.of p3⟩
      have F4 : Fr w _ _ _ q := ⟨⟨rfl, I4⟩, ⟨(den_sign q).symm, J4⟩⟩
      have S4 : FSz 4 q := ⟨Sz.of q4, Sz.of p4⟩
      obtain ⟨xx, yy, ⟨rfl, rfl, rfl, rfl⟩, ⟨rfl, rfl, rfl, rfl⟩, v56⟩ := sR_good v3
      have F5 : Fr w _ _ _ xx := ⟨⟨rfl, I5⟩, ⟨(den_sign xx).symm, J5⟩⟩
      have S5 : FSz 4 xx := ⟨Sz.of q5, Sz.of p5⟩
      have F6 : Fr w _ _ _ yy := ⟨⟨rfl, I6⟩, ⟨(den_sign yy).symm, J6⟩⟩
      have S6 : FSz 4 yy := ⟨Sz.of q6, Sz.of p6⟩
      exact laws_good F1 S1 q1 p1 F2 S2 q2 p2 F3 S3 q3 p3 F4 S4 q4 p4 F5 S5 q5 p5 F6 S6 q6 p6  v12 v34 v56
end Go.Proofs.Ytgncnkojpedmdaa.Sp
