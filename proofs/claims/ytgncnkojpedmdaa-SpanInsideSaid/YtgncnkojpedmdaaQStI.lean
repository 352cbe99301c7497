/- The law SpanInside. -/
import Derived.Test.YtgncnkojpedmdaaPA27
import Derived.Test.YtgncnkojpedmdaaPA28
import Derived.Test.YtgncnkojpedmdaaPA29
import Derived.Test.YtgncnkojpedmdaaPA30
import Derived.Test.YtgncnkojpedmdaaLaw
import Derived.Test.YtgncnkojpedmdaaRows
import Derived.ProofKit
set_option maxRecDepth 100000
namespace Go.Proofs.Ytgncnkojpedmdaa.Sp
open Go.RowKit Bi

set_option maxHeartbeats 8000000 in
theorem ins_no {w : World} {s1 t1 : Int} {a1 b1 : Option Addr} {n1 c1 m1 d1 : Nat} {s2 t2 : Int} {a2 b2 : Option Addr} {n2 c2 m2 d2 : Nat} {s3 t3 : Int} {a3 b3 : Option Addr} {n3 c3 m3 d3 : Nat} {s4 t4 : Int} {a4 b4 : Option Addr} {n4 c4 m4 d4 : Nat} {s5 t5 : Int} {a5 b5 : Option Addr} {n5 c5 m5 d5 : Nat} {s6 t6 : Int} {a6 b6 : Option Addr} {n6 c6 m6 d6 : Nat} {s7 t7 : Int} {a7 b7 : Option Addr} {n7 c7 m7 d7 : Nat} {s8 t8 : Int} {a8 b8 : Option Addr} {n8 c8 m8 d8 : Nat} (hn1 : n1 ≤ 9223372036854775807) (hm1 : m1 ≤ 9223372036854775807) (hn2 : n2 ≤ 9223372036854775807) (hm2 : m2 ≤ 9223372036854775807) (hn3 : n3 ≤ 9223372036854775807) (hm3 : m3 ≤ 9223372036854775807) (hn4 : n4 ≤ 9223372036854775807) (hm4 : m4 ≤ 9223372036854775807) (hn5 : n5 ≤ 9223372036854775807) (hm5 : m5 ≤ 9223372036854775807) (hn6 : n6 ≤ 9223372036854775807) (hm6 : m6 ≤ 9223372036854775807) (hn7 : n7 ≤ 9223372036854775807) (hm7 : m7 ≤ 9223372036854775807) (hn8 : n8 ≤ 9223372036854775807) (hm8 : m8 ≤ 9223372036854775807) (hno : ((((decide ((n1 : Int) ≤ 4) && decide ((m1 : Int) ≤ 4)) && (decide ((n2 : Int) ≤ 4) && decide ((m2 : Int) ≤ 4))) && ((decide ((n3 : Int) ≤ 4) && decide ((m3 : Int) ≤ 4)) && (decide ((n4 : Int) ≤ 4) && decide ((m4 : Int) ≤ 4)))) && (((decide ((n5 : Int) ≤ 4) && decide ((m5 : Int) ≤ 4)) && (decide ((n6 : Int) ≤ 4) && decide ((m6 : Int) ≤ 4))) && ((decide ((n7 : Int) ≤ 4) && decide ((m7 : Int) ≤ 4)) && (decide ((n8 : Int) ≤ 4) && decide ((m8 : Int) ≤ 4))))) = false) :
    Calls Try.prog 4 #[.agg #[.int .i64 s1, .slice a1 n1 c1, .int .i64 t1, .slice b1 m1 d1, .int .i64 s2, .slice a2 n2 c2, .int .i64 t2, .slice b2 m2 d2], .agg #[.int .i64 s3, .slice a3 n3 c3, .int .i64 t3, .slice b3 m3 d3, .int .i64 s4, .slice a4 n4 c4, .int .i64 t4, .slice b4 m4 d4], .agg #[.int .i64 s5, .slice a5 n5 c5, .int .i64 t5, .slice b5 m5 d5, .int .i64 s6, .slice a6 n6 c6, .int .i64 t6, .slice b6 m6 d6], .agg #[.int .i64 s7, .slice a7 n7 c7, .int .i64 t7, .slice b7 m7 d7, .int .i64 s8, .slice a8 n8 c8, .int .i64 t8, .slice b8 m8 d8]] w fun e w' => e = .returned (.bool true) ∧ RowKit.Below w.heap.size w w' := by
  have MN1 := Lib.hid hn1
  have MM1 := Lib.hid hm1
  have MN2 := Lib.hid hn2
  have MM2 := Lib.hid hm2
  have MN3 := Lib.hid hn3
  have MM3 := Lib.hid hm3
  have MN4 := Lib.hid hn4
  have MM4 := Lib.hid hm4
  have MN5 := Lib.hid hn5
  have MM5 := Lib.hid hm5
  have MN6 := Lib.hid hn6
  have MM6 := Lib.hid hm6
  have MN7 := Lib.hid hn7
  have MM7 := Lib.hid hm7
  have MN8 := Lib.hid hn8
  have MM8 := Lib.hid hm8
  obtain ⟨r0, hr0⟩ : ∃ r, (((decide ((n1 : Int) ≤ 4) && decide ((m1 : Int) ≤ 4)) && (decide ((n2 : Int) ≤ 4) && decide ((m2 : Int) ≤ 4))) && ((decide ((n3 : Int) ≤ 4) && decide ((m3 : Int) ≤ 4)) && (decide ((n4 : Int) ≤ 4) && decide ((m4 : Int) ≤ 4)))) = r := ⟨_, rfl⟩
  have HT0 := Lib.hid hr0
  obtain ⟨r1, hr1⟩ : ∃ r, (((decide ((n5 : Int) ≤ 4) && decide ((m5 : Int) ≤ 4)) && (decide ((n6 : Int) ≤ 4) && decide ((m6 : Int) ≤ 4))) && ((decide ((n7 : Int) ≤ 4) && decide ((m7 : Int) ≤ 4)) && (decide ((n8 : Int) ≤ 4) && decide ((m8 : Int) ≤ 4)))) = r := ⟨_, rfl⟩
  have HT1 := Lib.hid hr1
  rw [hr0, hr1] at hno
  have HNO := Lib.hid hno
  clear hno hn1 hm1 hn2 hm2 hn3 hm3 hn4 hm4 hn5 hm5 hn6 hm6 hn7 hm7 hn8 hm8 hr0 hr1
  have s0 := (((((Sf.start w).put [.int .i64 s1, .slice a1 n1 c1, .int .i64 t1, .slice b1 m1 d1, .int .i64 s2, .slice a2 n2 c2, .int .i64 t2, .slice b2 m2 d2] 28).put [.int .i64 s3, .slice a3 n3 c3, .int .i64 t3, .slice b3 m3 d3, .int .i64 s4, .slice a4 n4 c4, .int .i64 t4, .slice b4 m4 d4] 28).put [.int .i64 s5, .slice a5 n5 c5, .int .i64 t5, .slice b5 m5 d5, .int .i64 s6, .slice a6 n6 c6, .int .i64 t6, .slice b6 m6 d6] 28).put [.int .i64 s7, .slice a7 n7 c7, .int .i64 t7, .slice b7 m7 d7, .int .i64 s8, .slice a8 n8 c8, .int .i64 t8, .slice b8 m8 d8] 28)
  try simp only [World.size_alloc] at s0
  have S0 := Lib.hid s0
  clear s0
  go_enter Try.func4, Try.ntmps4
  go_wp2_with fail
  refine (r10small).mono ?_
  rintro e w11 ⟨rfl, hb⟩
  have R11 := Lib.hid (S0.out.later hb)
  clear hb
  obtain ⟨q1, q2, q3, q4, q5, q6, q7, q8⟩ := Fb.cells8 (R11.out.box (w.heap.size + 1, 28, [.int .i64 s3, .slice a3 n3 c3, .int .i64 t3, .slice b3 m3 d3, .int .i64 s4, .slice a4 n4 c4, .int .i64 t4, .slice b4 m4 d4]) mq2)
  obtain ⟨q9, q10, q11, q12, q13, q14, q15, q16⟩ := Fb.cells8 (R11.out.box (w.heap.size, 28, [.int .i64 s1, .slice a1 n1 c1, .int .i64 t1, .slice b1 m1 d1, .int .i64 s2, .slice a2 n2 c2, .int .i64 t2, .slice b2 m2 d2]) mq3)
  go_wp2_with fail
  clear q1 q2 q3 q4 q5 q6 q7 q8 q9 q10 q11 q12 q13 q14 q15 q16
  refine (l10few (s1 := s1) (t1 := t1) (a1 := a1) (b1 := b1) (c1 := c1) (d1 := d1) (s2 := s2) (t2 := t2) (a2 := a2) (b2 := b2) (c2 := c2) (d2 := d2) (s3 := s3) (t3 := t3) (a3 := a3) (b3 := b3) (c3 := c3) (d3 := d3) (s4 := s4) (t4 := t4) (a4 := a4) (b4 := b4) (c4 := c4) (d4 := d4) MN1.out MM1.out MN2.out MM2.out MN3.out MM3.out MN4.out MM4.out HT0.out).mono ?_
  rintro e w12 ⟨rfl, hb⟩
  have R12 := Lib.hid (R11.out.later hb)
  clear hb
  cases r0
  case false =>
    go_wp2_with fail
    go_ret
    exact ⟨rfl, R12.out.below⟩
  obtain ⟨q17, q18, q19, q20, q21, q22, q23, q24⟩ := Fb.cells8 (R12.out.box (w.heap.size + 1 + 1 + 1, 28, [.int .i64 s7, .slice a7 n7 c7, .int .i64 t7, .slice b7 m7 d7, .int .i64 s8, .slice a8 n8 c8, .int .i64 t8, .slice b8 m8 d8]) mq0)
  obtain ⟨q25, q26, q27, q28, q29, q30, q31, q32⟩ := Fb.cells8 (R12.out.box (w.heap.size + 1 + 1, 28, [.int .i64 s5, .slice a5 n5 c5, .int .i64 t5, .slice b5 m5 d5, .int .i64 s6, .slice a6 n6 c6, .int .i64 t6, .slice b6 m6 d6]) mq1)
  go_wp2_with fail
  clear q17 q18 q19 q20 q21 q22 q23 q24 q25 q26 q27 q28 q29 q30 q31 q32
  refine (l10few (s1 := s5) (t1 := t5) (a1 := a5) (b1 := b5) (c1 := c5) (d1 := d5) (s2 := s6) (t2 := t6) (a2 := a6) (b2 := b6) (c2 := c6) (d2 := d6) (s3 := s7) (t3 := t7) (a3 := a7) (b3 := b7) (c3 := c7) (d3 := d7) (s4 := s8) (t4 := t8) (a4 := a8) (b4 := b8) (c4 := c8) (d4 := d8) MN5.out MM5.out MN6.out MM6.out MN7.out MM7.out MN8.out MM8.out HT1.out).mono ?_
  rintro e w13 ⟨rfl, hb⟩
  have R13 := Lib.hid (R12.out.later hb)
  clear hb
  cases r1
  case false =>
    go_wp2_with fail
    go_ret
    exact ⟨rfl, R13.out.below⟩
  exact absurd HNO.out (by decide)

set_option maxHeartbeats 8000000 in
theorem ins_bad {w : World} {s1 t1 : Int} {a1 b1 : Option Addr} {n1 c1 m1 d1 : Nat} {l1 k1 : List Int} {s2 t2 : Int} {a2 b2 : Option Addr} {n2 c2 m2 d2 : Nat} {l2 k2 : List Int} {s3 t3 : Int} {a3 b3 : Option Addr} {n3 c3 m3 d3 : Nat} {l3 k3 : List Int} {s4 t4 : Int} {a4 b4 : Option Addr} {n4 c4 m4 d4 : Nat} {l4 k4 : List Int} {s5 t5 : Int} {a5 b5 : Option Addr} {n5 c5 m5 d5 : Nat} {l5 k5 : List Int} {s6 t6 : Int} {a6 b6 : Option Addr} {n6 c6 m6 d6 : Nat} {l6 k6 : List Int} {s7 t7 : Int} {a7 b7 : Option Addr} {n7 c7 m7 d7 : Nat} {l7 k7 : List Int} {s8 t8 : Int} {a8 b8 : Option Addr} {n8 c8 m8 d8 : Nat} {l8 k8 : List Int} (hl1 : Ints w (.slice a1 n1 c1) l1) (hk1 : Ints w (.slice b1 m1 d1) k1) (hn1 : n1 ≤ 4) (hm1 : m1 ≤ 4) (el1 : l1.length = n1) (ek1 : k1.length = m1) (hl2 : Ints w (.slice a2 n2 c2) l2) (hk2 : Ints w (.slice b2 m2 d2) k2) (hn2 : n2 ≤ 4) (hm2 : m2 ≤ 4) (el2 : l2.length = n2) (ek2 : k2.length = m2) (hl3 : Ints w (.slice a3 n3 c3) l3) (hk3 : Ints w (.slice b3 m3 d3) k3) (hn3 : n3 ≤ 4) (hm3 : m3 ≤ 4) (el3 : l3.length = n3) (ek3 : k3.length = m3) (hl4 : Ints w (.slice a4 n4 c4) l4) (hk4 : Ints w (.slice b4 m4 d4) k4) (hn4 : n4 ≤ 4) (hm4 : m4 ≤ 4) (el4 : l4.length = n4) (ek4 : k4.length = m4) (hl5 : Ints w (.slice a5 n5 c5) l5) (hk5 : Ints w (.slice b5 m5 d5) k5) (hn5 : n5 ≤ 4) (hm5 : m5 ≤ 4) (el5 : l5.length = n5) (ek5 : k5.length = m5) (hl6 : Ints w (.slice a6 n6 c6) l6) (hk6 : Ints w (.slice b6 m6 d6) k6) (hn6 : n6 ≤ 4) (hm6 : m6 ≤ 4) (el6 : l6.length = n6) (ek6 : k6.length = m6) (hl7 : Ints w (.slice a7 n7 c7) l7) (hk7 : Ints w (.slice b7 m7 d7) k7) (hn7 : n7 ≤ 4) (hm7 : m7 ≤ 4) (el7 : l7.length = n7) (ek7 : k7.length = m7) (hl8 : Ints w (.slice a8 n8 c8) l8) (hk8 : Ints w (.slice b8 m8 d8) k8) (hn8 : n8 ≤ 4) (hm8 : m8 ≤ 4) (el8 : l8.length = n8) (ek8 : k8.length = m8) (hno : (inB s1 l1 t1 k1 s2 l2 t2 k2 s5 l5 t5 k5 s6 l6 t6 k6 && inB s3 l3 t3 k3 s4 l4 t4 k4 s7 l7 t7 k7 s8 l8 t8 k8) = false) :
    Calls Try.prog 4 #[.agg #[.int .i64 s1, .slice a1 n1 c1, .int .i64 t1, .slice b1 m1 d1, .int .i64 s2, .slice a2 n2 c2, .int .i64 t2, .slice b2 m2 d2], .agg #[.int .i64 s3, .slice a3 n3 c3, .int .i64 t3, .slice b3 m3 d3, .int .i64 s4, .slice a4 n4 c4, .int .i64 t4, .slice b4 m4 d4], .agg #[.int .i64 s5, .slice a5 n5 c5, .int .i64 t5, .slice b5 m5 d5, .int .i64 s6, .slice a6 n6 c6, .int .i64 t6, .slice b6 m6 d6], .agg #[.int .i64 s7, .slice a7 n7 c7, .int .i64 t7, .slice b7 m7 d7, .int .i64 s8, .slice a8 n8 c8, .int .i64 t8, .slice b8 m8 d8]] w fun e w' => e = .returned (.bool true) ∧ RowKit.Below w.heap.size w w' := by
  have MN1 : Hid (n1 ≤ 9223372036854775807) := Lib.hid (by omega)
  have MM1 : Hid (m1 ≤ 9223372036854775807) := Lib.hid (by omega)
  have LL1 : Hid (l1.length ≤ 1000) := Lib.hid (by omega)
  have LK1 : Hid (k1.length ≤ 1000) := Lib.hid (by omega)
  have MN2 : Hid (n2 ≤ 9223372036854775807) := Lib.hid (by omega)
  have MM2 : Hid (m2 ≤ 9223372036854775807) := Lib.hid (by omega)
  have LL2 : Hid (l2.length ≤ 1000) := Lib.hid (by omega)
  have LK2 : Hid (k2.length ≤ 1000) := Lib.hid (by omega)
  have MN3 : Hid (n3 ≤ 9223372036854775807) := Lib.hid (by omega)
  have MM3 : Hid (m3 ≤ 9223372036854775807) := Lib.hid (by omega)
  have LL3 : Hid (l3.length ≤ 1000) := Lib.hid (by omega)
  have LK3 : Hid (k3.length ≤ 1000) := Lib.hid (by omega)
  have MN4 : Hid (n4 ≤ 9223372036854775807) := Lib.hid (by omega)
  have MM4 : Hid (m4 ≤ 9223372036854775807) := Lib.hid (by omega)
  have LL4 : Hid (l4.length ≤ 1000) := Lib.hid (by omega)
  have LK4 : Hid (k4.length ≤ 1000) := Lib.hid (by omega)
  have MN5 : Hid (n5 ≤ 9223372036854775807) := Lib.hid (by omega)
  have MM5 : Hid (m5 ≤ 9223372036854775807) := Lib.hid (by omega)
  have LL5 : Hid (l5.length ≤ 1000) := Lib.hid (by omega)
  have LK5 : Hid (k5.length ≤ 1000) := Lib.hid (by omega)
  have MN6 : Hid (n6 ≤ 9223372036854775807) := Lib.hid (by omega)
  have MM6 : Hid (m6 ≤ 9223372036854775807) := Lib.hid (by omega)
  have LL6 : Hid (l6.length ≤ 1000) := Lib.hid (by omega)
  have LK6 : Hid (k6.length ≤ 1000) := Lib.hid (by omega)
  have MN7 : Hid (n7 ≤ 9223372036854775807) := Lib.hid (by omega)
  have MM7 : Hid (m7 ≤ 9223372036854775807) := Lib.hid (by omega)
  have LL7 : Hid (l7.length ≤ 1000) := Lib.hid (by omega)
  have LK7 : Hid (k7.length ≤ 1000) := Lib.hid (by omega)
  have MN8 : Hid (n8 ≤ 9223372036854775807) := Lib.hid (by omega)
  have MM8 : Hid (m8 ≤ 9223372036854775807) := Lib.hid (by omega)
  have LL8 : Hid (l8.length ≤ 1000) := Lib.hid (by omega)
  have LK8 : Hid (k8.length ≤ 1000) := Lib.hid (by omega)
  have HF0 : Hid ((((decide ((n1 : Int) ≤ 4) && decide ((m1 : Int) ≤ 4)) && (decide ((n2 : Int) ≤ 4) && decide ((m2 : Int) ≤ 4))) && ((decide ((n3 : Int) ≤ 4) && decide ((m3 : Int) ≤ 4)) && (decide ((n4 : Int) ≤ 4) && decide ((m4 : Int) ≤ 4)))) = true) := Lib.hid (by simp; omega)
  have HF1 : Hid ((((decide ((n5 : Int) ≤ 4) && decide ((m5 : Int) ≤ 4)) && (decide ((n6 : Int) ≤ 4) && decide ((m6 : Int) ≤ 4))) && ((decide ((n7 : Int) ≤ 4) && decide ((m7 : Int) ≤ 4)) && (decide ((n8 : Int) ≤ 4) && decide ((m8 : Int) ≤ 4)))) = true) := Lib.hid (by simp; omega)
  obtain ⟨r0, hr0⟩ : ∃ r, inB s1 l1 t1 k1 s2 l2 t2 k2 s5 l5 t5 k5 s6 l6 t6 k6 = r := ⟨_, rfl⟩
  have HT0 := Lib.hid hr0
  obtain ⟨r1, hr1⟩ : ∃ r, inB s3 l3 t3 k3 s4 l4 t4 k4 s7 l7 t7 k7 s8 l8 t8 k8 = r := ⟨_, rfl⟩
  have HT1 := Lib.hid hr1
  rw [hr0, hr1] at hno
  have HNO := Lib.hid hno
  have s0 := (((((((((((((((((((((Sf.start w).arg hk1).arg hl1).arg hk2).arg hl2).arg hk3).arg hl3).arg hk4).arg hl4).arg hk5).arg hl5).arg hk6).arg hl6).arg hk7).arg hl7).arg hk8).arg hl8).put [.int .i64 s1, .slice a1 n1 c1, .int .i64 t1, .slice b1 m1 d1, .int .i64 s2, .slice a2 n2 c2, .int .i64 t2, .slice b2 m2 d2] 28).put [.int .i64 s3, .slice a3 n3 c3, .int .i64 t3, .slice b3 m3 d3, .int .i64 s4, .slice a4 n4 c4, .int .i64 t4, .slice b4 m4 d4] 28).put [.int .i64 s5, .slice a5 n5 c5, .int .i64 t5, .slice b5 m5 d5, .int .i64 s6, .slice a6 n6 c6, .int .i64 t6, .slice b6 m6 d6] 28).put [.int .i64 s7, .slice a7 n7 c7, .int .i64 t7, .slice b7 m7 d7, .int .i64 s8, .slice a8 n8 c8, .int .i64 t8, .slice b8 m8 d8] 28)
  try simp only [World.size_alloc] at s0
  have S0 := Lib.hid s0
  clear s0
  clear hno hl1 hk1 el1 ek1 hn1 hm1 hl2 hk2 el2 ek2 hn2 hm2 hl3 hk3 el3 ek3 hn3 hm3 hl4 hk4 el4 ek4 hn4 hm4 hl5 hk5 el5 ek5 hn5 hm5 hl6 hk6 el6 ek6 hn6 hm6 hl7 hk7 el7 ek7 hn7 hm7 hl8 hk8 el8 ek8 hn8 hm8 hr0 hr1
  go_enter Try.func4, Try.ntmps4
  go_wp2_with fail
  refine (r10small).mono ?_
  rintro e w11 ⟨rfl, hb⟩
  have R11 := Lib.hid (S0.out.later hb)
  clear hb
  obtain ⟨q1, q2, q3, q4, q5, q6, q7, q8⟩ := Fb.cells8 (R11.out.box (w.heap.size + 1, 28, [.int .i64 s3, .slice a3 n3 c3, .int .i64 t3, .slice b3 m3 d3, .int .i64 s4, .slice a4 n4 c4, .int .i64 t4, .slice b4 m4 d4]) mq2)
  obtain ⟨q9, q10, q11, q12, q13, q14, q15, q16⟩ := Fb.cells8 (R11.out.box (w.heap.size, 28, [.int .i64 s1, .slice a1 n1 c1, .int .i64 t1, .slice b1 m1 d1, .int .i64 s2, .slice a2 n2 c2, .int .i64 t2, .slice b2 m2 d2]) mq3)
  go_wp2_with fail
  clear q1 q2 q3 q4 q5 q6 q7 q8 q9 q10 q11 q12 q13 q14 q15 q16
  refine (l10few (s1 := s1) (t1 := t1) (a1 := a1) (b1 := b1) (c1 := c1) (d1 := d1) (s2 := s2) (t2 := t2) (a2 := a2) (b2 := b2) (c2 := c2) (d2 := d2) (s3 := s3) (t3 := t3) (a3 := a3) (b3 := b3) (c3 := c3) (d3 := d3) (s4 := s4) (t4 := t4) (a4 := a4) (b4 := b4) (c4 := c4) (d4 := d4) MN1.out MM1.out MN2.out MM2.out MN3.out MM3.out MN4.out MM4.out HF0.out).mono ?_
  rintro e w12 ⟨rfl, hb⟩
  have R12 := Lib.hid (R11.out.later hb)
  clear hb
  obtain ⟨q17, q18, q19, q20, q21, q22, q23, q24⟩ := Fb.cells8 (R12.out.box (w.heap.size + 1 + 1 + 1, 28, [.int .i64 s7, .slice a7 n7 c7, .int .i64 t7, .slice b7 m7 d7, .int .i64 s8, .slice a8 n8 c8, .int .i64 t8, .slice b8 m8 d8]) mq0)
  obtain ⟨q25, q26, q27, q28, q29, q30, q31, q32⟩ := Fb.cells8 (R12.out.box (w.heap.size + 1 + 1, 28, [.int .i64 s5, .slice a5 n5 c5, .int .i64 t5, .slice b5 m5 d5, .int .i64 s6, .slice a6 n6 c6, .int .i64 t6, .slice b6 m6 d6]) mq1)
  go_wp2_with fail
  clear q17 q18 q19 q20 q21 q22 q23 q24 q25 q26 q27 q28 q29 q30 q31 q32
  refine (l10few (s1 := s5) (t1 := t5) (a1 := a5) (b1 := b5) (c1 := c5) (d1 := d5) (s2 := s6) (t2 := t6) (a2 := a6) (b2 := b6) (c2 := c6) (d2 := d6) (s3 := s7) (t3 := t7) (a3 := a7) (b3 := b7) (c3 := c7) (d3 := d7) (s4 := s8) (t4 := t8) (a4 := a8) (b4 := b8) (c4 := c8) (d4 := d8) MN5.out MM5.out MN6.out MM6.out MN7.out MM7.out MN8.out MM8.out HF1.out).mono ?_
  rintro e w13 ⟨rfl, hb⟩
  have R13 := Lib.hid (R12.out.later hb)
  clear hb
  obtain ⟨q33, q34, q35, q36, q37, q38, q39, q40⟩ := Fb.cells8 (R13.out.box (w.heap.size + 1 + 1, 28, [.int .i64 s5, .slice a5 n5 c5, .int .i64 t5, .slice b5 m5 d5, .int .i64 s6, .slice a6 n6 c6, .int .i64 t6, .slice b6 m6 d6]) mq1)
  obtain ⟨q41, q42, q43, q44, q45, q46, q47, q48⟩ := Fb.cells8 (R13.out.box (w.heap.size, 28, [.int .i64 s1, .slice a1 n1 c1, .int .i64 t1, .slice b1 m1 d1, .int .i64 s2, .slice a2 n2 c2, .int .i64 t2, .slice b2 m2 d2]) mq3)
  go_wp2_with fail
  clear q33 q34 q35 q36 q37 q38 q39 q40 q41 q42 q43 q44 q45 q46 q47 q48
  refine (p10inside_any (R13.out.ints (.slice a1 n1 c1, l1) mq14) (R13.out.ints (.slice b1 m1 d1, k1) mq15) LL1.out LK1.out (R13.out.ints (.slice a2 n2 c2, l2) mq12) (R13.out.ints (.slice b2 m2 d2, k2) mq13) LL2.out LK2.out (R13.out.ints (.slice a5 n5 c5, l5) mq6) (R13.out.ints (.slice b5 m5 d5, k5) mq7) LL5.out LK5.out (R13.out.ints (.slice a6 n6 c6, l6) mq4) (R13.out.ints (.slice b6 m6 d6, k6) mq5) LL6.out LK6.out HT0.out).mono ?_
  rintro e w14 ⟨rfl, hb⟩
  have R14 := Lib.hid (R13.out.later hb)
  clear hb
  cases r0
  case false =>
    go_wp2_with fail
    go_ret
    exact ⟨rfl, R14.out.below⟩
  obtain ⟨q49, q50, q51, q52, q53, q54, q55, q56⟩ := Fb.cells8 (R14.out.box (w.heap.size + 1 + 1 + 1, 28, [.int .i64 s7, .slice a7 n7 c7, .int .i64 t7, .slice b7 m7 d7, .int .i64 s8, .slice a8 n8 c8, .int .i64 t8, .slice b8 m8 d8]) mq0)
  obtain ⟨q57, q58, q59, q60, q61, q62, q63, q64⟩ := Fb.cells8 (R14.out.box (w.heap.size + 1, 28, [.int .i64 s3, .slice a3 n3 c3, .int .i64 t3, .slice b3 m3 d3, .int .i64 s4, .slice a4 n4 c4, .int .i64 t4, .slice b4 m4 d4]) mq2)
  go_wp2_with fail
  clear q49 q50 q51 q52 q53 q54 q55 q56 q57 q58 q59 q60 q61 q62 q63 q64
  refine (p10inside_any (R14.out.ints (.slice a3 n3 c3, l3) mq10) (R14.out.ints (.slice b3 m3 d3, k3) mq11) LL3.out LK3.out (R14.out.ints (.slice a4 n4 c4, l4) mq8) (R14.out.ints (.slice b4 m4 d4, k4) mq9) LL4.out LK4.out (R14.out.ints (.slice a7 n7 c7, l7) mq2) (R14.out.ints (.slice b7 m7 d7, k7) mq3) LL7.out LK7.out (R14.out.ints (.slice a8 n8 c8, l8) mq0) (R14.out.ints (.slice b8 m8 d8, k8) mq1) LL8.out LK8.out HT1.out).mono ?_
  rintro e w15 ⟨rfl, hb⟩
  have R15 := Lib.hid (R14.out.later hb)
  clear hb
  cases r1
  case false =>
    go_wp2_with fail
    go_ret
    exact ⟨rfl, R15.out.below⟩
  exact absurd HNO.out (by decide)

set_option maxHeartbeats 64000000 in
theorem ins_good {w : World} {s1 : Int} {a1 b1 : Option Addr} {n1 c1 m1 d1 : Nat} {x : Rat} {s2 : Int} {a2 b2 : Option Addr} {n2 c2 m2 d2 : Nat} {y : Rat} {s3 : Int} {a3 b3 : Option Addr} {n3 c3 m3 d3 : Nat} {p : Rat} {s4 : Int} {a4 b4 : Option Addr} {n4 c4 m4 d4 : Nat} {q : Rat} {s5 : Int} {a5 b5 : Option Addr} {n5 c5 m5 d5 : Nat} {xx : Rat} {s6 : Int} {a6 b6 : Option Addr} {n6 c6 m6 d6 : Nat} {yy : Rat} {s7 : Int} {a7 b7 : Option Addr} {n7 c7 m7 d7 : Nat} {pp : Rat} {s8 : Int} {a8 b8 : Option Addr} {n8 c8 m8 d8 : Nat} {qq : Rat}  (h1 : Fr w s1 (.slice a1 n1 c1) (.slice b1 m1 d1) x) (z1 : FSz 4 x) (hn1 : n1 ≤ 4) (hm1 : m1 ≤ 4) (h2 : Fr w s2 (.slice a2 n2 c2) (.slice b2 m2 d2) y) (z2 : FSz 4 y) (hn2 : n2 ≤ 4) (hm2 : m2 ≤ 4) (h3 : Fr w s3 (.slice a3 n3 c3) (.slice b3 m3 d3) p) (z3 : FSz 4 p) (hn3 : n3 ≤ 4) (hm3 : m3 ≤ 4) (h4 : Fr w s4 (.slice a4 n4 c4) (.slice b4 m4 d4) q) (z4 : FSz 4 q) (hn4 : n4 ≤ 4) (hm4 : m4 ≤ 4) (h5 : Fr w s5 (.slice a5 n5 c5) (.slice b5 m5 d5) xx) (z5 : FSz 4 xx) (hn5 : n5 ≤ 4) (hm5 : m5 ≤ 4) (h6 : Fr w s6 (.slice a6 n6 c6) (.slice b6 m6 d6) yy) (z6 : FSz 4 yy) (hn6 : n6 ≤ 4) (hm6 : m6 ≤ 4) (h7 : Fr w s7 (.slice a7 n7 c7) (.slice b7 m7 d7) pp) (z7 : FSz 4 pp) (hn7 : n7 ≤ 4) (hm7 : m7 ≤ 4) (h8 : Fr w s8 (.slice a8 n8 c8) (.slice b8 m8 d8) qq) (z8 : FSz 4 qq) (hn8 : n8 ≤ 4) (hm8 : m8 ≤ 4)  (hxy : x ≤ y) (hpq : p ≤ q) (hcd : xx ≤ yy) (hgh : pp ≤ qq) (h51 : xx ≤ x) (h26 : y ≤ yy) (h73 : pp ≤ p) (h48 : q ≤ qq) :
    Calls Try.prog 4 #[.agg #[.int .i64 s1, .slice a1 n1 c1, .int .i64 1, .slice b1 m1 d1, .int .i64 s2, .slice a2 n2 c2, .int .i64 1, .slice b2 m2 d2], .agg #[.int .i64 s3, .slice a3 n3 c3, .int .i64 1, .slice b3 m3 d3, .int .i64 s4, .slice a4 n4 c4, .int .i64 1, .slice b4 m4 d4], .agg #[.int .i64 s5, .slice a5 n5 c5, .int .i64 1, .slice b5 m5 d5, .int .i64 s6, .slice a6 n6 c6, .int .i64 1, .slice b6 m6 d6], .agg #[.int .i64 s7, .slice a7 n7 c7, .int .i64 1, .slice b7 m7 d7, .int .i64 s8, .slice a8 n8 c8, .int .i64 1, .slice b8 m8 d8]] w fun e w' => e = .returned (.bool true) ∧ RowKit.Below w.heap.size w w' := by
  have MN1 : Hid (n1 ≤ 9223372036854775807) := Lib.hid (by omega)
  have MM1 : Hid (m1 ≤ 9223372036854775807) := Lib.hid (by omega)
  have MN2 : Hid (n2 ≤ 9223372036854775807) := Lib.hid (by omega)
  have MM2 : Hid (m2 ≤ 9223372036854775807) := Lib.hid (by omega)
  have MN3 : Hid (n3 ≤ 9223372036854775807) := Lib.hid (by omega)
  have MM3 : Hid (m3 ≤ 9223372036854775807) := Lib.hid (by omega)
  have MN4 : Hid (n4 ≤ 9223372036854775807) := Lib.hid (by omega)
  have MM4 : Hid (m4 ≤ 9223372036854775807) := Lib.hid (by omega)
  have MN5 : Hid (n5 ≤ 9223372036854775807) := Lib.hid (by omega)
  have MM5 : Hid (m5 ≤ 9223372036854775807) := Lib.hid (by omega)
  have MN6 : Hid (n6 ≤ 9223372036854775807) := Lib.hid (by omega)
  have MM6 : Hid (m6 ≤ 9223372036854775807) := Lib.hid (by omega)
  have MN7 : Hid (n7 ≤ 9223372036854775807) := Lib.hid (by omega)
  have MM7 : Hid (m7 ≤ 9223372036854775807) := Lib.hid (by omega)
  have MN8 : Hid (n8 ≤ 9223372036854775807) := Lib.hid (by omega)
  have MM8 : Hid (m8 ≤ 9223372036854775807) := Lib.hid (by omega)
  have E1 := Lib.hid h1.1.1
  have Z1 := Lib.hid z1
  have Y1 := Lib.hid (FSz.mono z1 (j := 400))
  have L1 := Lib.hid (FSz.mono z1 (j := 1000))
  have E2 := Lib.hid h2.1.1
  have Z2 := Lib.hid z2
  have Y2 := Lib.hid (FSz.mono z2 (j := 400))
  have L2 := Lib.hid (FSz.mono z2 (j := 1000))
  have E3 := Lib.hid h3.1.1
  have Z3 := Lib.hid z3
  have Y3 := Lib.hid (FSz.mono z3 (j := 400))
  have L3 := Lib.hid (FSz.mono z3 (j := 1000))
  have E4 := Lib.hid h4.1.1
  have Z4 := Lib.hid z4
  have Y4 := Lib.hid (FSz.mono z4 (j := 400))
  have L4 := Lib.hid (FSz.mono z4 (j := 1000))
  have E5 := Lib.hid h5.1.1
  have Z5 := Lib.hid z5
  have Y5 := Lib.hid (FSz.mono z5 (j := 400))
  have L5 := Lib.hid (FSz.mono z5 (j := 1000))
  have E6 := Lib.hid h6.1.1
  have Z6 := Lib.hid z6
  have Y6 := Lib.hid (FSz.mono z6 (j := 400))
  have L6 := Lib.hid (FSz.mono z6 (j := 1000))
  have E7 := Lib.hid h7.1.1
  have Z7 := Lib.hid z7
  have Y7 := Lib.hid (FSz.mono z7 (j := 400))
  have L7 := Lib.hid (FSz.mono z7 (j := 1000))
  have E8 := Lib.hid h8.1.1
  have Z8 := Lib.hid z8
  have Y8 := Lib.hid (FSz.mono z8 (j := 400))
  have L8 := Lib.hid (FSz.mono z8 (j := 1000))
  have HF0 : Hid ((((decide ((n1 : Int) ≤ 4) && decide ((m1 : Int) ≤ 4)) && (decide ((n2 : Int) ≤ 4) && decide ((m2 : Int) ≤ 4))) && ((decide ((n3 : Int) ≤ 4) && decide ((m3 : Int) ≤ 4)) && (decide ((n4 : Int) ≤ 4) && decide ((m4 : Int) ≤ 4)))) = true) := Lib.hid (by simp; omega)
  have HF1 : Hid ((((decide ((n5 : Int) ≤ 4) && decide ((m5 : Int) ≤ 4)) && (decide ((n6 : Int) ≤ 4) && decide ((m6 : Int) ≤ 4))) && ((decide ((n7 : Int) ≤ 4) && decide ((m7 : Int) ≤ 4)) && (decide ((n8 : Int) ≤ 4) && decide ((m8 : Int) ≤ 4)))) = true) := Lib.hid (by simp; omega)
  have HXY := Lib.hid hxy
  have HPQ := Lib.hid hpq
  have HCD := Lib.hid hcd
  have HGH := Lib.hid hgh
  have SAC : Hid (Sub (x, y) (xx, yy)) := Lib.hid ⟨⟨h51, Rat.le_trans hxy h26⟩, ⟨Rat.le_trans h51 hxy, h26⟩⟩
  have SBD : Hid (Sub (p, q) (pp, qq)) := Lib.hid ⟨⟨h73, Rat.le_trans hpq h48⟩, ⟨Rat.le_trans h73 hpq, h48⟩⟩
  have QAC : Hid ((decide (xx ≤ x) && decide (y ≤ yy)) = true) := Lib.hid (sub_b SAC.out)
  have QBD : Hid ((decide (pp ≤ p) && decide (q ≤ qq)) = true) := Lib.hid (sub_b SBD.out)
  have s0 := (((((((((((((((((((((Sf.start w).arg h1.2.2).arg h1.1.2).arg h2.2.2).arg h2.1.2).arg h3.2.2).arg h3.1.2).arg h4.2.2).arg h4.1.2).arg h5.2.2).arg h5.1.2).arg h6.2.2).arg h6.1.2).arg h7.2.2).arg h7.1.2).arg h8.2.2).arg h8.1.2).put [.int .i64 s1, .slice a1 n1 c1, .int .i64 1, .slice b1 m1 d1, .int .i64 s2, .slice a2 n2 c2, .int .i64 1, .slice b2 m2 d2] 28).put [.int .i64 s3, .slice a3 n3 c3, .int .i64 1, .slice b3 m3 d3, .int .i64 s4, .slice a4 n4 c4, .int .i64 1, .slice b4 m4 d4] 28).put [.int .i64 s5, .slice a5 n5 c5, .int .i64 1, .slice b5 m5 d5, .int .i64 s6, .slice a6 n6 c6, .int .i64 1, .slice b6 m6 d6] 28).put [.int .i64 s7, .slice a7 n7 c7, .int .i64 1, .slice b7 m7 d7, .int .i64 s8, .slice a8 n8 c8, .int .i64 1, .slice b8 m8 d8] 28)
  try simp only [World.size_alloc] at s0
  have S0 := Lib.hid s0
  clear s0
  clear h1 z1 hn1 hm1 h2 z2 hn2 hm2 h3 z3 hn3 hm3 h4 z4 hn4 hm4 h5 z5 hn5 hm5 h6 z6 hn6 hm6 h7 z7 hn7 hm7 h8 z8 hn8 hm8  hxy hpq hcd hgh h51 h26 h73 h48
  go_enter Try.func4, Try.ntmps4
  go_wp2_with fail
  refine (r10small).mono ?_
  rintro e w11 ⟨rfl, hb⟩
  have R11 := Lib.hid (S0.out.later hb)
  clear hb
  obtain ⟨q1, q2, q3, q4, q5, q6, q7, q8⟩ := Fb.cells8 (R11.out.box (w.heap.size + 1, 28, [.int .i64 s3, .slice a3 n3 c3, .int .i64 1, .slice b3 m3 d3, .int .i64 s4, .slice a4 n4 c4, .int .i64 1, .slice b4 m4 d4]) mq2)
  obtain ⟨q9, q10, q11, q12, q13, q14, q15, q16⟩ := Fb.cells8 (R11.out.box (w.heap.size, 28, [.int .i64 s1, .slice a1 n1 c1, .int .i64 1, .slice b1 m1 d1, .int .i64 s2, .slice a2 n2 c2, .int .i64 1, .slice b2 m2 d2]) mq3)
  go_wp2_with fail
  clear q1 q2 q3 q4 q5 q6 q7 q8 q9 q10 q11 q12 q13 q14 q15 q16
  refine (l10few (s1 := s1) (t1 := 1) (a1 := a1) (b1 := b1) (c1 := c1) (d1 := d1) (s2 := s2) (t2 := 1) (a2 := a2) (b2 := b2) (c2 := c2) (d2 := d2) (s3 := s3) (t3 := 1) (a3 := a3) (b3 := b3) (c3 := c3) (d3 := d3) (s4 := s4) (t4 := 1) (a4 := a4) (b4 := b4) (c4 := c4) (d4 := d4) MN1.out MM1.out MN2.out MM2.out MN3.out MM3.out MN4.out MM4.out HF0.out).mono ?_
  rintro e w12 ⟨rfl, hb⟩
  have R12 := Lib.hid (R11.out.later hb)
  clear hb
  obtain ⟨q17, q18, q19, q20, q21, q22, q23, q24⟩ := Fb.cells8 (R12.out.box (w.heap.size + 1 + 1 + 1, 28, [.int .i64 s7, .slice a7 n7 c7, .int .i64 1, .slice b7 m7 d7, .int .i64 s8, .slice a8 n8 c8, .int .i64 1, .slice b8 m8 d8]) mq0)
  obtain ⟨q25, q26, q27, q28, q29, q30, q31, q32⟩ := Fb.cells8 (R12.out.box (w.heap.size + 1 + 1, 28, [.int .i64 s5, .slice a5 n5 c5, .int .i64 1, .slice b5 m5 d5, .int .i64 s6, .slice a6 n6 c6, .int .i64 1, .slice b6 m6 d6]) mq1)
  go_wp2_with fail
  clear q17 q18 q19 q20 q21 q22 q23 q24 q25 q26 q27 q28 q29 q30 q31 q32
  refine (l10few (s1 := s5) (t1 := 1) (a1 := a5) (b1 := b5) (c1 := c5) (d1 := d5) (s2 := s6) (t2 := 1) (a2 := a6) (b2 := b6) (c2 := c6) (d2 := d6) (s3 := s7) (t3 := 1) (a3 := a7) (b3 := b7) (c3 := c7) (d3 := d7) (s4 := s8) (t4 := 1) (a4 := a8) (b4 := b8) (c4 := c8) (d4 := d8) MN5.out MM5.out MN6.out MM6.out MN7.out MM7.out MN8.out MM8.out HF1.out).mono ?_
  rintro e w13 ⟨rfl, hb⟩
  have R13 := Lib.hid (R12.out.later hb)
  clear hb
  obtain ⟨q33, q34, q35, q36, q37, q38, q39, q40⟩ := Fb.cells8 (R13.out.box (w.heap.size + 1 + 1, 28, [.int .i64 s5, .slice a5 n5 c5, .int .i64 1, .slice b5 m5 d5, .int .i64 s6, .slice a6 n6 c6, .int .i64 1, .slice b6 m6 d6]) mq1)
  obtain ⟨q41, q42, q43, q44, q45, q46, q47, q48⟩ := Fb.cells8 (R13.out.box (w.heap.size, 28, [.int .i64 s1, .slice a1 n1 c1, .int .i64 1, .slice b1 m1 d1, .int .i64 s2, .slice a2 n2 c2, .int .i64 1, .slice b2 m2 d2]) mq3)
  go_wp2_with fail
  clear q33 q34 q35 q36 q37 q38 q39 q40 q41 q42 q43 q44 q45 q46 q47 q48
  refine (p10inside_k (r := true) (R13.out.fr (v := .slice a1 n1 c1) (u := .slice b1 m1 d1) (r := x) mq14 mq15 E1.out) L1.out (R13.out.fr (v := .slice a2 n2 c2) (u := .slice b2 m2 d2) (r := y) mq12 mq13 E2.out) L2.out (R13.out.fr (v := .slice a5 n5 c5) (u := .slice b5 m5 d5) (r := xx) mq6 mq7 E5.out) L5.out (R13.out.fr (v := .slice a6 n6 c6) (u := .slice b6 m6 d6) (r := yy) mq4 mq5 E6.out) L6.out HXY.out HCD.out QAC.out).mono ?_
  rintro e w14 ⟨rfl, hb⟩
  have R14 := Lib.hid (R13.out.later hb)
  clear hb
  obtain ⟨q49, q50, q51, q52, q53, q54, q55, q56⟩ := Fb.cells8 (R14.out.box (w.heap.size + 1 + 1 + 1, 28, [.int .i64 s7, .slice a7 n7 c7, .int .i64 1, .slice b7 m7 d7, .int .i64 s8, .slice a8 n8 c8, .int .i64 1, .slice b8 m8 d8]) mq0)
  obtain ⟨q57, q58, q59, q60, q61, q62, q63, q64⟩ := Fb.cells8 (R14.out.box (w.heap.size + 1, 28, [.int .i64 s3, .slice a3 n3 c3, .int .i64 1, .slice b3 m3 d3, .int .i64 s4, .slice a4 n4 c4, .int .i64 1, .slice b4 m4 d4]) mq2)
  go_wp2_with fail
  clear q49 q50 q51 q52 q53 q54 q55 q56 q57 q58 q59 q60 q61 q62 q63 q64
  refine (p10inside_k (r := true) (R14.out.fr (v := .slice a3 n3 c3) (u := .slice b3 m3 d3) (r := p) mq10 mq11 E3.out) L3.out (R14.out.fr (v := .slice a4 n4 c4) (u := .slice b4 m4 d4) (r := q) mq8 mq9 E4.out) L4.out (R14.out.fr (v := .slice a7 n7 c7) (u := .slice b7 m7 d7) (r := pp) mq2 mq3 E7.out) L7.out (R14.out.fr (v := .slice a8 n8 c8) (u := .slice b8 m8 d8) (r := qq) mq0 mq1 E8.out) L8.out HPQ.out HGH.out QBD.out).mono ?_
  rintro e w15 ⟨rfl, hb⟩
  have R15 := Lib.hid (R14.out.later hb)
  clear hb
  go_wp2_with fail
  go_loopw [10] (fun t wr => ∃ k : Nat, k ≤ 6 ∧ t = .int .i64 (k : Int) ∧ Sf w [(w.heap.size + 1 + 1 + 1, 28, [.int .i64 s7, .slice a7 n7 c7, .int .i64 1, .slice b7 m7 d7, .int .i64 s8, .slice a8 n8 c8, .int .i64 1, .slice b8 m8 d8]), (w.heap.size + 1 + 1, 28, [.int .i64 s5, .slice a5 n5 c5, .int .i64 1, .slice b5 m5 d5, .int .i64 s6, .slice a6 n6 c6, .int .i64 1, .slice b6 m6 d6]), (w.heap.size + 1, 28, [.int .i64 s3, .slice a3 n3 c3, .int .i64 1, .slice b3 m3 d3, .int .i64 s4, .slice a4 n4 c4, .int .i64 1, .slice b4 m4 d4]), (w.heap.size, 28, [.int .i64 s1, .slice a1 n1 c1, .int .i64 1, .slice b1 m1 d1, .int .i64 s2, .slice a2 n2 c2, .int .i64 1, .slice b2 m2 d2])] [(.slice a8 n8 c8, digs (qq).num.natAbs), (.slice b8 m8 d8, digs (((qq).den : Int)).natAbs), (.slice a7 n7 c7, digs (pp).num.natAbs), (.slice b7 m7 d7, digs (((pp).den : Int)).natAbs), (.slice a6 n6 c6, digs (yy).num.natAbs), (.slice b6 m6 d6, digs (((yy).den : Int)).natAbs), (.slice a5 n5 c5, digs (xx).num.natAbs), (.slice b5 m5 d5, digs (((xx).den : Int)).natAbs), (.slice a4 n4 c4, digs (q).num.natAbs), (.slice b4 m4 d4, digs (((q).den : Int)).natAbs), (.slice a3 n3 c3, digs (p).num.natAbs), (.slice b3 m3 d3, digs (((p).den : Int)).natAbs), (.slice a2 n2 c2, digs (y).num.natAbs), (.slice b2 m2 d2, digs (((y).den : Int)).natAbs), (.slice a1 n1 c1, digs (x).num.natAbs), (.slice b1 m1 d1, digs (((x).den : Int)).natAbs)] wr) (fun t _ => 7 - (RowKit.intOf t).toNat)
  case atStart => exact ⟨0, Nat.zero_le _, rfl, R15.out⟩
  case round =>
    clear R15
    obtain ⟨k, hk6, ht, hS⟩ := hrel
    have HS := Lib.hid hS
    clear hS
    by_cases hlt : k < 6
    · have hk5 : k ≤ 5 := by omega
      by_cases hz : k = 3 ∧ In (pp, qq) 0
      · obtain ⟨rfl, hz0⟩ := hz
        have HZ0 := Lib.hid hz0
        have ht2 : _ = Value.int IntKind.i64 3 := ht
        subst ht2
        clear ht hk6 hlt hk5 hz0
        by_cases hz1 : In (p, q) 0
        · have HZ1 := Lib.hid hz1
          clear hz1
          obtain ⟨q65, q66, q67, q68, q69, q70, q71, q72⟩ := Fb.cells8 (HS.out.box (w.heap.size + 1, 28, [.int .i64 s3, .slice a3 n3 c3, .int .i64 1, .slice b3 m3 d3, .int .i64 s4, .slice a4 n4 c4, .int .i64 1, .slice b4 m4 d4]) mq2)
          obtain ⟨q73, q74, q75, q76, q77, q78, q79, q80⟩ := Fb.cells8 (HS.out.box (w.heap.size, 28, [.int .i64 s1, .slice a1 n1 c1, .int .i64 1, .slice b1 m1 d1, .int .i64 s2, .slice a2 n2 c2, .int .i64 1, .slice b2 m2 d2]) mq3)
          go_wp2_with fail
          clear q65 q66 q67 q68 q69 q70 q71 q72 q73 q74 q75 q76 q77 q78 q79 q80
          refine (play_zero (HS.out.fr (v := .slice a1 n1 c1) (u := .slice b1 m1 d1) (r := x) mq14 mq15 E1.out) Y1.out (HS.out.fr (v := .slice a2 n2 c2) (u := .slice b2 m2 d2) (r := y) mq12 mq13 E2.out) Y2.out (HS.out.fr (v := .slice a3 n3 c3) (u := .slice b3 m3 d3) (r := p) mq10 mq11 E3.out) Y3.out (HS.out.fr (v := .slice a4 n4 c4) (u := .slice b4 m4 d4) (r := q) mq8 mq9 E4.out) Y4.out HXY.out HPQ.out HZ1.out).mono ?_
          rintro e w16 ⟨rfl, hb⟩
          have R16 := Lib.hid (HS.out.later hb)
          clear hb
          have P81 := Lib.hid (R16.out.put [.int .i64 0, .slice none 0 0, .int .i64 0, .slice none 0 0, .int .i64 0, .slice none 0 0, .int .i64 0, .slice none 0 0] 28)
          have Q81 := Lib.hid (Sf.row (pre := []) P81.out [.int .i64 0, .slice none 0 0, .int .i64 0, .slice none 0 0, .int .i64 0, .slice none 0 0, .int .i64 0, .slice none 0 0])
          obtain ⟨V81, hV81⟩ : ∃ V, ((w16.alloc (.cells #[.int .i64 0, .slice none 0 0, .int .i64 0, .slice none 0 0, .int .i64 0, .slice none 0 0, .int .i64 0, .slice none 0 0] 28)).setRow w16.heap.size #[.int .i64 0, .slice none 0 0, .int .i64 0, .slice none 0 0, .int .i64 0, .slice none 0 0, .int .i64 0, .slice none 0 0]) = V := ⟨_, rfl⟩
          rw [hV81] at Q81
          have HV81 := Lib.hid hV81
          clear hV81 R16
          obtain ⟨q82, q83, q84, q85, q86, q87, q88, q89⟩ := Fb.cells8 (Q81.out.box (w.heap.size + 1 + 1 + 1, 28, [.int .i64 s7, .slice a7 n7 c7, .int .i64 1, .slice b7 m7 d7, .int .i64 s8, .slice a8 n8 c8, .int .i64 1, .slice b8 m8 d8]) mq1)
          obtain ⟨q90, q91, q92, q93, q94, q95, q96, q97⟩ := Fb.cells8 (Q81.out.box (w.heap.size + 1 + 1, 28, [.int .i64 s5, .slice a5 n5 c5, .int .i64 1, .slice b5 m5 d5, .int .i64 s6, .slice a6 n6 c6, .int .i64 1, .slice b6 m6 d6]) mq2)
          go_wp2_with (first | (refine wpList_store_row rfl _ _ _ rfl _ #[.int .i64 0, .slice none 0 0, .int .i64 0, .slice none 0 0, .int .i64 0, .slice none 0 0, .int .i64 0, .slice none 0 0] rfl rfl _ _ (P81.out.box _ List.mem_cons_self) (by kernel_rfl) rfl (by simp [Value.oneCell']) ?_; rw [HV81.out]))
          clear q82 q83 q84 q85 q86 q87 q88 q89 q90 q91 q92 q93 q94 q95 q96 q97
          refine (play_zero (Q81.out.fr (v := .slice a5 n5 c5) (u := .slice b5 m5 d5) (r := xx) mq6 mq7 E5.out) Y5.out (Q81.out.fr (v := .slice a6 n6 c6) (u := .slice b6 m6 d6) (r := yy) mq4 mq5 E6.out) Y6.out (Q81.out.fr (v := .slice a7 n7 c7) (u := .slice b7 m7 d7) (r := pp) mq2 mq3 E7.out) Y7.out (Q81.out.fr (v := .slice a8 n8 c8) (u := .slice b8 m8 d8) (r := qq) mq0 mq1 E8.out) Y8.out HCD.out HGH.out HZ0.out).mono ?_
          rintro e w17 ⟨rfl, hb⟩
          have R17 := Lib.hid (Q81.out.later hb)
          clear hb
          have P98 := Lib.hid (R17.out.put [.int .i64 0, .slice none 0 0, .int .i64 0, .slice none 0 0, .int .i64 0, .slice none 0 0, .int .i64 0, .slice none 0 0] 28)
          have Q98 := Lib.hid (Sf.row (pre := []) P98.out [.int .i64 0, .slice none 0 0, .int .i64 0, .slice none 0 0, .int .i64 0, .slice none 0 0, .int .i64 0, .slice none 0 0])
          obtain ⟨V98, hV98⟩ : ∃ V, ((w17.alloc (.cells #[.int .i64 0, .slice none 0 0, .int .i64 0, .slice none 0 0, .int .i64 0, .slice none 0 0, .int .i64 0, .slice none 0 0] 28)).setRow w17.heap.size #[.int .i64 0, .slice none 0 0, .int .i64 0, .slice none 0 0, .int .i64 0, .slice none 0 0, .int .i64 0, .slice none 0 0]) = V := ⟨_, rfl⟩
          rw [hV98] at Q98
          have HV98 := Lib.hid hV98
          clear hV98 R17
          go_wp2_with (first | (refine wpList_store_row rfl _ _ _ rfl _ #[.int .i64 0, .slice none 0 0, .int .i64 0, .slice none 0 0, .int .i64 0, .slice none 0 0, .int .i64 0, .slice none 0 0] rfl rfl _ _ (P98.out.box _ List.mem_cons_self) (by kernel_rfl) rfl (by simp [Value.oneCell']) ?_; rw [HV98.out]))
          go_roundw
          case rel => exact ⟨4, by decide, by go_num, Sf.facts (Sf.tail (Sf.tail Q98.out)) (by simp)⟩
          case measure => simp [RowKit.intOf]
        · have HN1 := Lib.hid hz1
          clear hz1
          obtain ⟨s, hs⟩ : ∃ r, conS (opF 3) (x, y) (p, q) = r := ⟨_, rfl⟩
          have HSR := Lib.hid hs
          clear hs
          obtain ⟨q99, q100, q101, q102, q103, q104, q105, q106⟩ := Fb.cells8 (HS.out.box (w.heap.size + 1, 28, [.int .i64 s3, .slice a3 n3 c3, .int .i64 1, .slice b3 m3 d3, .int .i64 s4, .slice a4 n4 c4, .int .i64 1, .slice b4 m4 d4]) mq2)
          obtain ⟨q107, q108, q109, q110, q111, q112, q113, q114⟩ := Fb.cells8 (HS.out.box (w.heap.size, 28, [.int .i64 s1, .slice a1 n1 c1, .int .i64 1, .slice b1 m1 d1, .int .i64 s2, .slice a2 n2 c2, .int .i64 1, .slice b2 m2 d2]) mq3)
          go_wp2_with fail
          clear q99 q100 q101 q102 q103 q104 q105 q106 q107 q108 q109 q110 q111 q112 q113 q114
          refine (play_div (HS.out.fr (v := .slice a1 n1 c1) (u := .slice b1 m1 d1) (r := x) mq14 mq15 E1.out) Y1.out (HS.out.fr (v := .slice a2 n2 c2) (u := .slice b2 m2 d2) (r := y) mq12 mq13 E2.out) Y2.out (HS.out.fr (v := .slice a3 n3 c3) (u := .slice b3 m3 d3) (r := p) mq10 mq11 E3.out) Y3.out (HS.out.fr (v := .slice a4 n4 c4) (u := .slice b4 m4 d4) (r := q) mq8 mq9 E4.out) Y4.out HXY.out HPQ.out HN1.out HSR.out).mono ?_
          rintro e w18 ⟨c18, d18, rfl, h1, h2, hb, ho⟩
          have EC18 := Lib.hid h1.1.1
          have ED18 := Lib.hid h2.1.1
          have R18 := Lib.hid (Sf.span HS.out hb h1 h2 (fun x hx => ho x.1 (HS.out.lt x hx)))
          clear h1 h2 hb ho
          have P115 := Lib.hid (R18.out.put [.int .i64 0, .slice none 0 0, .int .i64 0, .slice none 0 0, .int .i64 0, .slice none 0 0, .int .i64 0, .slice none 0 0] 28)
          have Q115 := Lib.hid (Sf.row (pre := []) P115.out [.int .i64 c18.s, .slice c18.a c18.n c18.c, .int .i64 1, .slice c18.b c18.m c18.d, .int .i64 d18.s, .slice d18.a d18.n d18.c, .int .i64 1, .slice d18.b d18.m d18.d])
          obtain ⟨V115, hV115⟩ : ∃ V, ((w18.alloc (.cells #[.int .i64 0, .slice none 0 0, .int .i64 0, .slice none 0 0, .int .i64 0, .slice none 0 0, .int .i64 0, .slice none 0 0] 28)).setRow w18.heap.size #[.int .i64 c18.s, .slice c18.a c18.n c18.c, .int .i64 1, .slice c18.b c18.m c18.d, .int .i64 d18.s, .slice d18.a d18.n d18.c, .int .i64 1, .slice d18.b d18.m d18.d]) = V := ⟨_, rfl⟩
          rw [hV115] at Q115
          have HV115 := Lib.hid hV115
          clear hV115 R18
          obtain ⟨q116, q117, q118, q119, q120, q121, q122, q123⟩ := Fb.cells8 (Q115.out.box (w.heap.size + 1 + 1 + 1, 28, [.int .i64 s7, .slice a7 n7 c7, .int .i64 1, .slice b7 m7 d7, .int .i64 s8, .slice a8 n8 c8, .int .i64 1, .slice b8 m8 d8]) mq1)
          obtain ⟨q124, q125, q126, q127, q128, q129, q130, q131⟩ := Fb.cells8 (Q115.out.box (w.heap.size + 1 + 1, 28, [.int .i64 s5, .slice a5 n5 c5, .int .i64 1, .slice b5 m5 d5, .int .i64 s6, .slice a6 n6 c6, .int .i64 1, .slice b6 m6 d6]) mq2)
          go_wp2_with (first | (refine wpList_store_row rfl _ _ _ rfl _ #[.int .i64 c18.s, .slice c18.a c18.n c18.c, .int .i64 1, .slice c18.b c18.m c18.d, .int .i64 d18.s, .slice d18.a d18.n d18.c, .int .i64 1, .slice d18.b d18.m d18.d] rfl rfl _ _ (P115.out.box _ List.mem_cons_self) (by kernel_rfl) rfl (by simp [Value.oneCell']) ?_; rw [HV115.out]))
          clear q116 q117 q118 q119 q120 q121 q122 q123 q124 q125 q126 q127 q128 q129 q130 q131
          refine (play_zero (Q115.out.fr (v := .slice a5 n5 c5) (u := .slice b5 m5 d5) (r := xx) mq10 mq11 E5.out) Y5.out (Q115.out.fr (v := .slice a6 n6 c6) (u := .slice b6 m6 d6) (r := yy) mq8 mq9 E6.out) Y6.out (Q115.out.fr (v := .slice a7 n7 c7) (u := .slice b7 m7 d7) (r := pp) mq6 mq7 E7.out) Y7.out (Q115.out.fr (v := .slice a8 n8 c8) (u := .slice b8 m8 d8) (r := qq) mq4 mq5 E8.out) Y8.out HCD.out HGH.out HZ0.out).mono ?_
          rintro e w19 ⟨rfl, hb⟩
          have R19 := Lib.hid (Q115.out.later hb)
          clear hb
          have P132 := Lib.hid (R19.out.put [.int .i64 0, .slice none 0 0, .int .i64 0, .slice none 0 0, .int .i64 0, .slice none 0 0, .int .i64 0, .slice none 0 0] 28)
          have Q132 := Lib.hid (Sf.row (pre := []) P132.out [.int .i64 0, .slice none 0 0, .int .i64 0, .slice none 0 0, .int .i64 0, .slice none 0 0, .int .i64 0, .slice none 0 0])
          obtain ⟨V132, hV132⟩ : ∃ V, ((w19.alloc (.cells #[.int .i64 0, .slice none 0 0, .int .i64 0, .slice none 0 0, .int .i64 0, .slice none 0 0, .int .i64 0, .slice none 0 0] 28)).setRow w19.heap.size #[.int .i64 0, .slice none 0 0, .int .i64 0, .slice none 0 0, .int .i64 0, .slice none 0 0, .int .i64 0, .slice none 0 0]) = V := ⟨_, rfl⟩
          rw [hV132] at Q132
          have HV132 := Lib.hid hV132
          clear hV132 R19
          go_wp2_with (first | (refine wpList_store_row rfl _ _ _ rfl _ #[.int .i64 0, .slice none 0 0, .int .i64 0, .slice none 0 0, .int .i64 0, .slice none 0 0, .int .i64 0, .slice none 0 0] rfl rfl _ _ (P132.out.box _ List.mem_cons_self) (by kernel_rfl) rfl (by simp [Value.oneCell']) ?_; rw [HV132.out]))
          go_roundw
          case rel => exact ⟨4, by decide, by go_num, Sf.facts (Sf.tail (Sf.tail Q132.out)) (by simp)⟩
          case measure => simp [RowKit.intOf]
      · have hz2 : k = 3 → ¬ In (pp, qq) 0 := fun e f => hz ⟨e, f⟩
        have hz1 : k = 3 → ¬ In (p, q) 0 := fun e f => hz2 e (sub_in SBD.out 0 f)
        have HK5 := Lib.hid hk5
        have HZ1 := Lib.hid hz1
        have HZ2 := Lib.hid hz2
        obtain ⟨s, hs⟩ : ∃ r, opS k (x, y) (p, q) = r := ⟨_, rfl⟩
        obtain ⟨tt, hT⟩ : ∃ r, opS k (xx, yy) (pp, qq) = r := ⟨_, rfl⟩
        have HSR : Hid (conS (opF k) (x, y) (p, q) = s) := Lib.hid hs
        have HTR : Hid (conS (opF k) (xx, yy) (pp, qq) = tt) := Lib.hid hT
        have SS := Lib.hid (opS_sz hk5 Z1.out Z2.out Z3.out Z4.out HPQ.out hz1 hs)
        have ST := Lib.hid (opS_sz hk5 Z5.out Z6.out Z7.out Z8.out HGH.out hz2 hT)
        have IS := opS_is hk5 (a := (x, y)) (b := (p, q)) HXY.out HPQ.out hz1
        have IT := opS_is hk5 (a := (xx, yy)) (b := (pp, qq)) HCD.out HGH.out hz2
        have LS : Hid (s.1 ≤ s.2) := Lib.hid (by rw [← hs]; exact IS.le)
        have LT : Hid (tt.1 ≤ tt.2) := Lib.hid (by rw [← hT]; exact IT.le)
        have QST : Hid ((decide (tt.1 ≤ s.1) && decide (s.2 ≤ tt.2)) = true) := Lib.hid (by
          have := sub_b (op_mono IS IT SAC.out SBD.out)
          rw [hs, hT] at this; exact this)
        have hlt2 : decide ((k : Int) < 6) = true := by simp; omega
        have hw1 : IntKind.i64.wrap ((k : Int) + 1) = (k : Int) + 1 := IntWalk.i64_in _ (by omega)
        subst ht
        clear hs hT IS IT hz hz1 hz2
        obtain ⟨q133, q134, q135, q136, q137, q138, q139, q140⟩ := Fb.cells8 (HS.out.box (w.heap.size + 1, 28, [.int .i64 s3, .slice a3 n3 c3, .int .i64 1, .slice b3 m3 d3, .int .i64 s4, .slice a4 n4 c4, .int .i64 1, .slice b4 m4 d4]) mq2)
        obtain ⟨q141, q142, q143, q144, q145, q146, q147, q148⟩ := Fb.cells8 (HS.out.box (w.heap.size, 28, [.int .i64 s1, .slice a1 n1 c1, .int .i64 1, .slice b1 m1 d1, .int .i64 s2, .slice a2 n2 c2, .int .i64 1, .slice b2 m2 d2]) mq3)
        go_wp2_with fail
        clear q133 q134 q135 q136 q137 q138 q139 q140 q141 q142 q143 q144 q145 q146 q147 q148
        refine (p10play (k := k) HK5.out (HS.out.fr (v := .slice a1 n1 c1) (u := .slice b1 m1 d1) (r := x) mq14 mq15 E1.out) Y1.out (HS.out.fr (v := .slice a2 n2 c2) (u := .slice b2 m2 d2) (r := y) mq12 mq13 E2.out) Y2.out (HS.out.fr (v := .slice a3 n3 c3) (u := .slice b3 m3 d3) (r := p) mq10 mq11 E3.out) Y3.out (HS.out.fr (v := .slice a4 n4 c4) (u := .slice b4 m4 d4) (r := q) mq8 mq9 E4.out) Y4.out HXY.out HPQ.out HZ1.out HSR.out).mono ?_
        rintro e w20 ⟨c20, d20, rfl, h1, h2, hb, ho⟩
        have EC20 := Lib.hid h1.1.1
        have ED20 := Lib.hid h2.1.1
        have R20 := Lib.hid (Sf.span HS.out hb h1 h2 (fun x hx => ho x.1 (HS.out.lt x hx)))
        clear h1 h2 hb ho
        have P149 := Lib.hid (R20.out.put [.int .i64 0, .slice none 0 0, .int .i64 0, .slice none 0 0, .int .i64 0, .slice none 0 0, .int .i64 0, .slice none 0 0] 28)
        have Q149 := Lib.hid (Sf.row (pre := []) P149.out [.int .i64 c20.s, .slice c20.a c20.n c20.c, .int .i64 1, .slice c20.b c20.m c20.d, .int .i64 d20.s, .slice d20.a d20.n d20.c, .int .i64 1, .slice d20.b d20.m d20.d])
        obtain ⟨V149, hV149⟩ : ∃ V, ((w20.alloc (.cells #[.int .i64 0, .slice none 0 0, .int .i64 0, .slice none 0 0, .int .i64 0, .slice none 0 0, .int .i64 0, .slice none 0 0] 28)).setRow w20.heap.size #[.int .i64 c20.s, .slice c20.a c20.n c20.c, .int .i64 1, .slice c20.b c20.m c20.d, .int .i64 d20.s, .slice d20.a d20.n d20.c, .int .i64 1, .slice d20.b d20.m d20.d]) = V := ⟨_, rfl⟩
        rw [hV149] at Q149
        have HV149 := Lib.hid hV149
        clear hV149 R20
        obtain ⟨q150, q151, q152, q153, q154, q155, q156, q157⟩ := Fb.cells8 (Q149.out.box (w.heap.size + 1 + 1 + 1, 28, [.int .i64 s7, .slice a7 n7 c7, .int .i64 1, .slice b7 m7 d7, .int .i64 s8, .slice a8 n8 c8, .int .i64 1, .slice b8 m8 d8]) mq1)
        obtain ⟨q158, q159, q160, q161, q162, q163, q164, q165⟩ := Fb.cells8 (Q149.out.box (w.heap.size + 1 + 1, 28, [.int .i64 s5, .slice a5 n5 c5, .int .i64 1, .slice b5 m5 d5, .int .i64 s6, .slice a6 n6 c6, .int .i64 1, .slice b6 m6 d6]) mq2)
        go_wp2_with (first | (refine wpList_store_row rfl _ _ _ rfl _ #[.int .i64 c20.s, .slice c20.a c20.n c20.c, .int .i64 1, .slice c20.b c20.m c20.d, .int .i64 d20.s, .slice d20.a d20.n d20.c, .int .i64 1, .slice d20.b d20.m d20.d] rfl rfl _ _ (P149.out.box _ List.mem_cons_self) (by kernel_rfl) rfl (by simp [Value.oneCell']) ?_; rw [HV149.out]))
        clear q150 q151 q152 q153 q154 q155 q156 q157 q158 q159 q160 q161 q162 q163 q164 q165
        refine (p10play (k := k) HK5.out (Q149.out.fr (v := .slice a5 n5 c5) (u := .slice b5 m5 d5) (r := xx) mq10 mq11 E5.out) Y5.out (Q149.out.fr (v := .slice a6 n6 c6) (u := .slice b6 m6 d6) (r := yy) mq8 mq9 E6.out) Y6.out (Q149.out.fr (v := .slice a7 n7 c7) (u := .slice b7 m7 d7) (r := pp) mq6 mq7 E7.out) Y7.out (Q149.out.fr (v := .slice a8 n8 c8) (u := .slice b8 m8 d8) (r := qq) mq4 mq5 E8.out) Y8.out HCD.out HGH.out HZ2.out HTR.out).mono ?_
        rintro e w21 ⟨c21, d21, rfl, h1, h2, hb, ho⟩
        have EC21 := Lib.hid h1.1.1
        have ED21 := Lib.hid h2.1.1
        have R21 := Lib.hid (Sf.span Q149.out hb h1 h2 (fun x hx => ho x.1 (Q149.out.lt x hx)))
        clear h1 h2 hb ho
        have P166 := Lib.hid (R21.out.put [.int .i64 0, .slice none 0 0, .int .i64 0, .slice none 0 0, .int .i64 0, .slice none 0 0, .int .i64 0, .slice none 0 0] 28)
        have Q166 := Lib.hid (Sf.row (pre := []) P166.out [.int .i64 c21.s, .slice c21.a c21.n c21.c, .int .i64 1, .slice c21.b c21.m c21.d, .int .i64 d21.s, .slice d21.a d21.n d21.c, .int .i64 1, .slice d21.b d21.m d21.d])
        obtain ⟨V166, hV166⟩ : ∃ V, ((w21.alloc (.cells #[.int .i64 0, .slice none 0 0, .int .i64 0, .slice none 0 0, .int .i64 0, .slice none 0 0, .int .i64 0, .slice none 0 0] 28)).setRow w21.heap.size #[.int .i64 c21.s, .slice c21.a c21.n c21.c, .int .i64 1, .slice c21.b c21.m c21.d, .int .i64 d21.s, .slice d21.a d21.n d21.c, .int .i64 1, .slice d21.b d21.m d21.d]) = V := ⟨_, rfl⟩
        rw [hV166] at Q166
        have HV166 := Lib.hid hV166
        clear hV166 R21
        obtain ⟨q167, q168, q169, q170, q171, q172, q173, q174⟩ := Fb.cells8 (Q166.out.box (w21.heap.size, 28, [.int .i64 c21.s, .slice c21.a c21.n c21.c, .int .i64 1, .slice c21.b c21.m c21.d, .int .i64 d21.s, .slice d21.a d21.n d21.c, .int .i64 1, .slice d21.b d21.m d21.d]) mq0)
        obtain ⟨q175, q176, q177, q178, q179, q180, q181, q182⟩ := Fb.cells8 (Q166.out.box (w20.heap.size, 28, [.int .i64 c20.s, .slice c20.a c20.n c20.c, .int .i64 1, .slice c20.b c20.m c20.d, .int .i64 d20.s, .slice d20.a d20.n d20.c, .int .i64 1, .slice d20.b d20.m d20.d]) mq1)
        go_wp2_with (first | (refine wpList_store_row rfl _ _ _ rfl _ #[.int .i64 c21.s, .slice c21.a c21.n c21.c, .int .i64 1, .slice c21.b c21.m c21.d, .int .i64 d21.s, .slice d21.a d21.n d21.c, .int .i64 1, .slice d21.b d21.m d21.d] rfl rfl _ _ (P166.out.box _ List.mem_cons_self) (by kernel_rfl) rfl (by simp [Value.oneCell']) ?_; rw [HV166.out]))
        clear q167 q168 q169 q170 q171 q172 q173 q174 q175 q176 q177 q178 q179 q180 q181 q182
        refine (p10inside_k (r := true) (Q166.out.fr (v := .slice c20.a c20.n c20.c) (u := .slice c20.b c20.m c20.d) (r := s.1) mq4 mq5 EC20.out) SS.out.1.mono (Q166.out.fr (v := .slice d20.a d20.n d20.c) (u := .slice d20.b d20.m d20.d) (r := s.2) mq6 mq7 ED20.out) SS.out.2.mono (Q166.out.fr (v := .slice c21.a c21.n c21.c) (u := .slice c21.b c21.m c21.d) (r := tt.1) mq0 mq1 EC21.out) ST.out.1.mono (Q166.out.fr (v := .slice d21.a d21.n d21.c) (u := .slice d21.b d21.m d21.d) (r := tt.2) mq2 mq3 ED21.out) ST.out.2.mono LS.out LT.out QST.out).mono ?_
        rintro e w22 ⟨rfl, hb⟩
        have R22 := Lib.hid (Q166.out.later hb)
        clear hb
        go_wp2_with fail
        go_roundw
        case rel => exact ⟨k + 1, by omega, by go_num, Sf.facts (Sf.tail (Sf.tail R22.out)) (by simp)⟩
        case measure => simp [RowKit.intOf]; omega
    · obtain rfl : k = 6 := by omega
      have ht2 : _ = Value.int IntKind.i64 6 := ht
      subst ht2
      clear ht hk6 hlt
      have ZH := Lib.hid (⟨rmin_sz L1.out L3.out, rmax_sz L2.out L4.out⟩ : FSz 1000 (rmin x p) ∧ FSz 1000 (rmax y q))
      have ZJ := Lib.hid (⟨rmin_sz L5.out L7.out, rmax_sz L6.out L8.out⟩ : FSz 1000 (rmin xx pp) ∧ FSz 1000 (rmax yy qq))
      have ZM := Lib.hid (⟨rmax_sz L1.out L3.out, rmin_sz L2.out L4.out⟩ : FSz 1000 (rmax x p) ∧ FSz 1000 (rmin y q))
      have ZN := Lib.hid (⟨rmax_sz L5.out L7.out, rmin_sz L6.out L8.out⟩ : FSz 1000 (rmax xx pp) ∧ FSz 1000 (rmin yy qq))
      have ZX1 := Lib.hid (FSz.neg L1.out)
      have ZX2 := Lib.hid (FSz.neg L2.out)
      have ZX5 := Lib.hid (FSz.neg L5.out)
      have ZX6 := Lib.hid (FSz.neg L6.out)
      have LH : Hid (rmin x p ≤ rmax y q) := Lib.hid (hull_le (a := (x, y)) (b := (p, q)) HXY.out)
      have LJ : Hid (rmin xx pp ≤ rmax yy qq) := Lib.hid (hull_le (a := (xx, yy)) (b := (pp, qq)) HCD.out)
      have LN1 : Hid (-y ≤ -x) := Lib.hid (Rat.neg_le_neg HXY.out)
      have LN2 : Hid (-yy ≤ -xx) := Lib.hid (Rat.neg_le_neg HCD.out)
      have QH : Hid ((decide (rmin xx pp ≤ rmin x p) && decide (rmax y q ≤ rmax yy qq)) = true) := Lib.hid (sub_b (hull_mono SAC.out SBD.out HXY.out HPQ.out))
      have QN : Hid ((decide (-yy ≤ -y) && decide (-x ≤ -xx)) = true) := Lib.hid (sub_b (neg_mono SAC.out))
      obtain ⟨q183, q184, q185, q186, q187, q188, q189, q190⟩ := Fb.cells8 (HS.out.box (w.heap.size + 1, 28, [.int .i64 s3, .slice a3 n3 c3, .int .i64 1, .slice b3 m3 d3, .int .i64 s4, .slice a4 n4 c4, .int .i64 1, .slice b4 m4 d4]) mq2)
      obtain ⟨q191, q192, q193, q194, q195, q196, q197, q198⟩ := Fb.cells8 (HS.out.box (w.heap.size, 28, [.int .i64 s1, .slice a1 n1 c1, .int .i64 1, .slice b1 m1 d1, .int .i64 s2, .slice a2 n2 c2, .int .i64 1, .slice b2 m2 d2]) mq3)
      go_wp2_with fail
      clear q183 q184 q185 q186 q187 q188 q189 q190 q191 q192 q193 q194 q195 q196 q197 q198
      refine (p10hull (HS.out.fr (v := .slice a1 n1 c1) (u := .slice b1 m1 d1) (r := x) mq14 mq15 E1.out) Y1.out (HS.out.fr (v := .slice a2 n2 c2) (u := .slice b2 m2 d2) (r := y) mq12 mq13 E2.out) Y2.out (HS.out.fr (v := .slice a3 n3 c3) (u := .slice b3 m3 d3) (r := p) mq10 mq11 E3.out) Y3.out (HS.out.fr (v := .slice a4 n4 c4) (u := .slice b4 m4 d4) (r := q) mq8 mq9 E4.out) Y4.out HXY.out HPQ.out (r := (rmin x p, rmax y q)) rfl).mono ?_
      rintro e w23 ⟨c23, d23, rfl, h1, h2, hb, ho⟩
      have EC23 := Lib.hid h1.1.1
      have ED23 := Lib.hid h2.1.1
      have R23 := Lib.hid (Sf.span HS.out hb h1 h2 (fun x hx => ho x.1 (HS.out.lt x hx)))
      clear h1 h2 hb ho
      have P199 := Lib.hid (R23.out.put [.int .i64 0, .slice none 0 0, .int .i64 0, .slice none 0 0, .int .i64 0, .slice none 0 0, .int .i64 0, .slice none 0 0] 28)
      have Q199 := Lib.hid (Sf.row (pre := []) P199.out [.int .i64 c23.s, .slice c23.a c23.n c23.c, .int .i64 1, .slice c23.b c23.m c23.d, .int .i64 d23.s, .slice d23.a d23.n d23.c, .int .i64 1, .slice d23.b d23.m d23.d])
      obtain ⟨V199, hV199⟩ : ∃ V, ((w23.alloc (.cells #[.int .i64 0, .slice none 0 0, .int .i64 0, .slice none 0 0, .int .i64 0, .slice none 0 0, .int .i64 0, .slice none 0 0] 28)).setRow w23.heap.size #[.int .i64 c23.s, .slice c23.a c23.n c23.c, .int .i64 1, .slice c23.b c23.m c23.d, .int .i64 d23.s, .slice d23.a d23.n d23.c, .int .i64 1, .slice d23.b d23.m d23.d]) = V := ⟨_, rfl⟩
      rw [hV199] at Q199
      have HV199 := Lib.hid hV199
      clear hV199 R23
      obtain ⟨q200, q201, q202, q203, q204, q205, q206, q207⟩ := Fb.cells8 (Q199.out.box (w.heap.size + 1 + 1 + 1, 28, [.int .i64 s7, .slice a7 n7 c7, .int .i64 1, .slice b7 m7 d7, .int .i64 s8, .slice a8 n8 c8, .int .i64 1, .slice b8 m8 d8]) mq1)
      obtain ⟨q208, q209, q210, q211, q212, q213, q214, q215⟩ := Fb.cells8 (Q199.out.box (w.heap.size + 1 + 1, 28, [.int .i64 s5, .slice a5 n5 c5, .int .i64 1, .slice b5 m5 d5, .int .i64 s6, .slice a6 n6 c6, .int .i64 1, .slice b6 m6 d6]) mq2)
      go_wp2_with (first | (refine wpList_store_row rfl _ _ _ rfl _ #[.int .i64 c23.s, .slice c23.a c23.n c23.c, .int .i64 1, .slice c23.b c23.m c23.d, .int .i64 d23.s, .slice d23.a d23.n d23.c, .int .i64 1, .slice d23.b d23.m d23.d] rfl rfl _ _ (P199.out.box _ List.mem_cons_self) (by kernel_rfl) rfl (by simp [Value.oneCell']) ?_; rw [HV199.out]))
      clear q200 q201 q202 q203 q204 q205 q206 q207 q208 q209 q210 q211 q212 q213 q214 q215
      refine (p10hull (Q199.out.fr (v := .slice a5 n5 c5) (u := .slice b5 m5 d5) (r := xx) mq10 mq11 E5.out) Y5.out (Q199.out.fr (v := .slice a6 n6 c6) (u := .slice b6 m6 d6) (r := yy) mq8 mq9 E6.out) Y6.out (Q199.out.fr (v := .slice a7 n7 c7) (u := .slice b7 m7 d7) (r := pp) mq6 mq7 E7.out) Y7.out (Q199.out.fr (v := .slice a8 n8 c8) (u := .slice b8 m8 d8) (r := qq) mq4 mq5 E8.out) Y8.out HCD.out HGH.out (r := (rmin xx pp, rmax yy qq)) rfl).mono ?_
      rintro e w24 ⟨c24, d24, rfl, h1, h2, hb, ho⟩
      have EC24 := Lib.hid h1.1.1
      have ED24 := Lib.hid h2.1.1
      have R24 := Lib.hid (Sf.span Q199.out hb h1 h2 (fun x hx => ho x.1 (Q199.out.lt x hx)))
      clear h1 h2 hb ho
      have P216 := Lib.hid (R24.out.put [.int .i64 0, .slice none 0 0, .int .i64 0, .slice none 0 0, .int .i64 0, .slice none 0 0, .int .i64 0, .slice none 0 0] 28)
      have Q216 := Lib.hid (Sf.row (pre := []) P216.out [.int .i64 c24.s, .slice c24.a c24.n c24.c, .int .i64 1, .slice c24.b c24.m c24.d, .int .i64 d24.s, .slice d24.a d24.n d24.c, .int .i64 1, .slice d24.b d24.m d24.d])
      obtain ⟨V216, hV216⟩ : ∃ V, ((w24.alloc (.cells #[.int .i64 0, .slice none 0 0, .int .i64 0, .slice none 0 0, .int .i64 0, .slice none 0 0, .int .i64 0, .slice none 0 0] 28)).setRow w24.heap.size #[.int .i64 c24.s, .slice c24.a c24.n c24.c, .int .i64 1, .slice c24.b c24.m c24.d, .int .i64 d24.s, .slice d24.a d24.n d24.c, .int .i64 1, .slice d24.b d24.m d24.d]) = V := ⟨_, rfl⟩
      rw [hV216] at Q216
      have HV216 := Lib.hid hV216
      clear hV216 R24
      go_upto_region 13 with (first | (refine wpList_store_row rfl _ _ _ rfl _ #[.int .i64 c24.s, .slice c24.a c24.n c24.c, .int .i64 1, .slice c24.b c24.m c24.d, .int .i64 d24.s, .slice d24.a d24.n d24.c, .int .i64 1, .slice d24.b d24.m d24.d] rfl rfl _ _ (P216.out.box _ List.mem_cons_self) (by kernel_rfl) rfl (by simp [Value.oneCell']) ?_; rw [HV216.out]))
      by_cases hm : (meetS (x, y) (p, q)).1 ≤ (meetS (x, y) (p, q)).2
      · have hn := meet_mono SAC.out SBD.out hm
        have HM : Hid (rmax x p ≤ rmin y q) := Lib.hid hm
        have HN : Hid (rmax xx pp ≤ rmin yy qq) := Lib.hid hn.1
        have QM : Hid ((decide (rmax xx pp ≤ rmax x p) && decide (rmin y q ≤ rmin yy qq)) = true) := Lib.hid (sub_b hn.2)
        clear hm hn
        obtain ⟨q217, q218, q219, q220, q221, q222, q223, q224⟩ := Fb.cells8 (Q216.out.box (w.heap.size + 1, 28, [.int .i64 s3, .slice a3 n3 c3, .int .i64 1, .slice b3 m3 d3, .int .i64 s4, .slice a4 n4 c4, .int .i64 1, .slice b4 m4 d4]) mq4)
        obtain ⟨q225, q226, q227, q228, q229, q230, q231, q232⟩ := Fb.cells8 (Q216.out.box (w.heap.size, 28, [.int .i64 s1, .slice a1 n1 c1, .int .i64 1, .slice b1 m1 d1, .int .i64 s2, .slice a2 n2 c2, .int .i64 1, .slice b2 m2 d2]) mq5)
        go_wp2_with fail
        clear q217 q218 q219 q220 q221 q222 q223 q224 q225 q226 q227 q228 q229 q230 q231 q232
        refine (p10meet (Q216.out.fr (v := .slice a1 n1 c1) (u := .slice b1 m1 d1) (r := x) mq22 mq23 E1.out) Y1.out (Q216.out.fr (v := .slice a2 n2 c2) (u := .slice b2 m2 d2) (r := y) mq20 mq21 E2.out) Y2.out (Q216.out.fr (v := .slice a3 n3 c3) (u := .slice b3 m3 d3) (r := p) mq18 mq19 E3.out) Y3.out (Q216.out.fr (v := .slice a4 n4 c4) (u := .slice b4 m4 d4) (r := q) mq16 mq17 E4.out) Y4.out HXY.out HPQ.out (r := (rmax x p, rmin y q)) rfl HM.out).mono ?_
        rintro e w25 ⟨c25, d25, rfl, h1, h2, hb, ho⟩
        have EC25 := Lib.hid h1.1.1
        have ED25 := Lib.hid h2.1.1
        have R25 := Lib.hid (Sf.span Q216.out hb h1 h2 (fun x hx => ho x.1 (Q216.out.lt x hx)))
        clear h1 h2 hb ho
        have P233 := Lib.hid (R25.out.put [.int .i64 0, .slice none 0 0, .int .i64 0, .slice none 0 0, .int .i64 0, .slice none 0 0, .int .i64 0, .slice none 0 0] 28)
        have Q233 := Lib.hid (Sf.row (pre := []) P233.out [.int .i64 c25.s, .slice c25.a c25.n c25.c, .int .i64 1, .slice c25.b c25.m c25.d, .int .i64 d25.s, .slice d25.a d25.n d25.c, .int .i64 1, .slice d25.b d25.m d25.d])
        obtain ⟨V233, hV233⟩ : ∃ V, ((w25.alloc (.cells #[.int .i64 0, .slice none 0 0, .int .i64 0, .slice none 0 0, .int .i64 0, .slice none 0 0, .int .i64 0, .slice none 0 0] 28)).setRow w25.heap.size #[.int .i64 c25.s, .slice c25.a c25.n c25.c, .int .i64 1, .slice c25.b c25.m c25.d, .int .i64 d25.s, .slice d25.a d25.n d25.c, .int .i64 1, .slice d25.b d25.m d25.d]) = V := ⟨_, rfl⟩
        rw [hV233] at Q233
        have HV233 := Lib.hid hV233
        clear hV233 R25
        obtain ⟨q234, q235, q236, q237, q238, q239, q240, q241⟩ := Fb.cells8 (Q233.out.box (w.heap.size + 1 + 1 + 1, 28, [.int .i64 s7, .slice a7 n7 c7, .int .i64 1, .slice b7 m7 d7, .int .i64 s8, .slice a8 n8 c8, .int .i64 1, .slice b8 m8 d8]) mq3)
        obtain ⟨q242, q243, q244, q245, q246, q247, q248, q249⟩ := Fb.cells8 (Q233.out.box (w.heap.size + 1 + 1, 28, [.int .i64 s5, .slice a5 n5 c5, .int .i64 1, .slice b5 m5 d5, .int .i64 s6, .slice a6 n6 c6, .int .i64 1, .slice b6 m6 d6]) mq4)
        go_wp2_with (first | (refine wpList_store_row rfl _ _ _ rfl _ #[.int .i64 c25.s, .slice c25.a c25.n c25.c, .int .i64 1, .slice c25.b c25.m c25.d, .int .i64 d25.s, .slice d25.a d25.n d25.c, .int .i64 1, .slice d25.b d25.m d25.d] rfl rfl _ _ (P233.out.box _ List.mem_cons_self) (by kernel_rfl) rfl (by simp [Value.oneCell']) ?_; rw [HV233.out]))
        clear q234 q235 q236 q237 q238 q239 q240 q241 q242 q243 q244 q245 q246 q247 q248 q249
        refine (p10meet (Q233.out.fr (v := .slice a5 n5 c5) (u := .slice b5 m5 d5) (r := xx) mq18 mq19 E5.out) Y5.out (Q233.out.fr (v := .slice a6 n6 c6) (u := .slice b6 m6 d6) (r := yy) mq16 mq17 E6.out) Y6.out (Q233.out.fr (v := .slice a7 n7 c7) (u := .slice b7 m7 d7) (r := pp) mq14 mq15 E7.out) Y7.out (Q233.out.fr (v := .slice a8 n8 c8) (u := .slice b8 m8 d8) (r := qq) mq12 mq13 E8.out) Y8.out HCD.out HGH.out (r := (rmax xx pp, rmin yy qq)) rfl HN.out).mono ?_
        rintro e w26 ⟨c26, d26, rfl, h1, h2, hb, ho⟩
        have EC26 := Lib.hid h1.1.1
        have ED26 := Lib.hid h2.1.1
        have R26 := Lib.hid (Sf.span Q233.out hb h1 h2 (fun x hx => ho x.1 (Q233.out.lt x hx)))
        clear h1 h2 hb ho
        have P250 := Lib.hid (R26.out.put [.int .i64 0, .slice none 0 0, .int .i64 0, .slice none 0 0, .int .i64 0, .slice none 0 0, .int .i64 0, .slice none 0 0] 28)
        have Q250 := Lib.hid (Sf.row (pre := []) P250.out [.int .i64 c26.s, .slice c26.a c26.n c26.c, .int .i64 1, .slice c26.b c26.m c26.d, .int .i64 d26.s, .slice d26.a d26.n d26.c, .int .i64 1, .slice d26.b d26.m d26.d])
        obtain ⟨V250, hV250⟩ : ∃ V, ((w26.alloc (.cells #[.int .i64 0, .slice none 0 0, .int .i64 0, .slice none 0 0, .int .i64 0, .slice none 0 0, .int .i64 0, .slice none 0 0] 28)).setRow w26.heap.size #[.int .i64 c26.s, .slice c26.a c26.n c26.c, .int .i64 1, .slice c26.b c26.m c26.d, .int .i64 d26.s, .slice d26.a d26.n d26.c, .int .i64 1, .slice d26.b d26.m d26.d]) = V := ⟨_, rfl⟩
        rw [hV250] at Q250
        have HV250 := Lib.hid hV250
        clear hV250 R26
        obtain ⟨q251, q252, q253, q254, q255, q256, q257, q258⟩ := Fb.cells8 (Q250.out.box (w26.heap.size, 28, [.int .i64 c26.s, .slice c26.a c26.n c26.c, .int .i64 1, .slice c26.b c26.m c26.d, .int .i64 d26.s, .slice d26.a d26.n d26.c, .int .i64 1, .slice d26.b d26.m d26.d]) mq0)
        obtain ⟨q259, q260, q261, q262, q263, q264, q265, q266⟩ := Fb.cells8 (Q250.out.box (w25.heap.size, 28, [.int .i64 c25.s, .slice c25.a c25.n c25.c, .int .i64 1, .slice c25.b c25.m c25.d, .int .i64 d25.s, .slice d25.a d25.n d25.c, .int .i64 1, .slice d25.b d25.m d25.d]) mq1)
        go_wp2_with (first | (refine wpList_store_row rfl _ _ _ rfl _ #[.int .i64 c26.s, .slice c26.a c26.n c26.c, .int .i64 1, .slice c26.b c26.m c26.d, .int .i64 d26.s, .slice d26.a d26.n d26.c, .int .i64 1, .slice d26.b d26.m d26.d] rfl rfl _ _ (P250.out.box _ List.mem_cons_self) (by kernel_rfl) rfl (by simp [Value.oneCell']) ?_; rw [HV250.out]))
        clear q251 q252 q253 q254 q255 q256 q257 q258 q259 q260 q261 q262 q263 q264 q265 q266
        refine (p10inside_k (r := true) (Q250.out.fr (v := .slice c25.a c25.n c25.c) (u := .slice c25.b c25.m c25.d) (r := (rmax x p)) mq4 mq5 EC25.out) ZM.out.1 (Q250.out.fr (v := .slice d25.a d25.n d25.c) (u := .slice d25.b d25.m d25.d) (r := (rmin y q)) mq6 mq7 ED25.out) ZM.out.2 (Q250.out.fr (v := .slice c26.a c26.n c26.c) (u := .slice c26.b c26.m c26.d) (r := (rmax xx pp)) mq0 mq1 EC26.out) ZN.out.1 (Q250.out.fr (v := .slice d26.a d26.n d26.c) (u := .slice d26.b d26.m d26.d) (r := (rmin yy qq)) mq2 mq3 ED26.out) ZN.out.2 HM.out HN.out QM.out).mono ?_
        rintro e w27 ⟨rfl, hb⟩
        have R27 := Lib.hid (Q250.out.later hb)
        clear hb
        go_wp2_with fail
        go_cut [8] from 112 to 132 (fun u wx => u = .bool true ∧ Hid (Sf w [(w26.heap.size, 28, [.int .i64 c26.s, .slice c26.a c26.n c26.c, .int .i64 1, .slice c26.b c26.m c26.d, .int .i64 d26.s, .slice d26.a d26.n d26.c, .int .i64 1, .slice d26.b d26.m d26.d]), (w25.heap.size, 28, [.int .i64 c25.s, .slice c25.a c25.n c25.c, .int .i64 1, .slice c25.b c25.m c25.d, .int .i64 d25.s, .slice d25.a d25.n d25.c, .int .i64 1, .slice d25.b d25.m d25.d]), (w24.heap.size, 28, [.int .i64 c24.s, .slice c24.a c24.n c24.c, .int .i64 1, .slice c24.b c24.m c24.d, .int .i64 d24.s, .slice d24.a d24.n d24.c, .int .i64 1, .slice d24.b d24.m d24.d]), (w23.heap.size, 28, [.int .i64 c23.s, .slice c23.a c23.n c23.c, .int .i64 1, .slice c23.b c23.m c23.d, .int .i64 d23.s, .slice d23.a d23.n d23.c, .int .i64 1, .slice d23.b d23.m d23.d]), (w.heap.size + 1 + 1 + 1, 28, [.int .i64 s7, .slice a7 n7 c7, .int .i64 1, .slice b7 m7 d7, .int .i64 s8, .slice a8 n8 c8, .int .i64 1, .slice b8 m8 d8]), (w.heap.size + 1 + 1, 28, [.int .i64 s5, .slice a5 n5 c5, .int .i64 1, .slice b5 m5 d5, .int .i64 s6, .slice a6 n6 c6, .int .i64 1, .slice b6 m6 d6]), (w.heap.size + 1, 28, [.int .i64 s3, .slice a3 n3 c3, .int .i64 1, .slice b3 m3 d3, .int .i64 s4, .slice a4 n4 c4, .int .i64 1, .slice b4 m4 d4]), (w.heap.size, 28, [.int .i64 s1, .slice a1 n1 c1, .int .i64 1, .slice b1 m1 d1, .int .i64 s2, .slice a2 n2 c2, .int .i64 1, .slice b2 m2 d2])] [(.slice c26.a c26.n c26.c, digs ((rmax xx pp)).num.natAbs), (.slice c26.b c26.m c26.d, digs ((((rmax xx pp)).den : Int)).natAbs), (.slice d26.a d26.n d26.c, digs ((rmin yy qq)).num.natAbs), (.slice d26.b d26.m d26.d, digs ((((rmin yy qq)).den : Int)).natAbs), (.slice c25.a c25.n c25.c, digs ((rmax x p)).num.natAbs), (.slice c25.b c25.m c25.d, digs ((((rmax x p)).den : Int)).natAbs), (.slice d25.a d25.n d25.c, digs ((rmin y q)).num.natAbs), (.slice d25.b d25.m d25.d, digs ((((rmin y q)).den : Int)).natAbs), (.slice c24.a c24.n c24.c, digs ((rmin xx pp)).num.natAbs), (.slice c24.b c24.m c24.d, digs ((((rmin xx pp)).den : Int)).natAbs), (.slice d24.a d24.n d24.c, digs ((rmax yy qq)).num.natAbs), (.slice d24.b d24.m d24.d, digs ((((rmax yy qq)).den : Int)).natAbs), (.slice c23.a c23.n c23.c, digs ((rmin x p)).num.natAbs), (.slice c23.b c23.m c23.d, digs ((((rmin x p)).den : Int)).natAbs), (.slice d23.a d23.n d23.c, digs ((rmax y q)).num.natAbs), (.slice d23.b d23.m d23.d, digs ((((rmax y q)).den : Int)).natAbs), (.slice a8 n8 c8, digs (qq).num.natAbs), (.slice b8 m8 d8, digs (((qq).den : Int)).natAbs), (.slice a7 n7 c7, digs (pp).num.natAbs), (.slice b7 m7 d7, digs (((pp).den : Int)).natAbs), (.slice a6 n6 c6, digs (yy).num.natAbs), (.slice b6 m6 d6, digs (((yy).den : Int)).natAbs), (.slice a5 n5 c5, digs (xx).num.natAbs), (.slice b5 m5 d5, digs (((xx).den : Int)).natAbs), (.slice a4 n4 c4, digs (q).num.natAbs), (.slice b4 m4 d4, digs (((q).den : Int)).natAbs), (.slice a3 n3 c3, digs (p).num.natAbs), (.slice b3 m3 d3, digs (((p).den : Int)).natAbs), (.slice a2 n2 c2, digs (y).num.natAbs), (.slice b2 m2 d2, digs (((y).den : Int)).natAbs), (.slice a1 n1 c1, digs (x).num.natAbs), (.slice b1 m1 d1, digs (((x).den : Int)).natAbs)] wx))
        case first =>
          have K0 : ∀ W F, Sf w [(w26.heap.size, 28, [.int .i64 c26.s, .slice c26.a c26.n c26.c, .int .i64 1, .slice c26.b c26.m c26.d, .int .i64 d26.s, .slice d26.a d26.n d26.c, .int .i64 1, .slice d26.b d26.m d26.d]), (w25.heap.size, 28, [.int .i64 c25.s, .slice c25.a c25.n c25.c, .int .i64 1, .slice c25.b c25.m c25.d, .int .i64 d25.s, .slice d25.a d25.n d25.c, .int .i64 1, .slice d25.b d25.m d25.d]), (w24.heap.size, 28, [.int .i64 c24.s, .slice c24.a c24.n c24.c, .int .i64 1, .slice c24.b c24.m c24.d, .int .i64 d24.s, .slice d24.a d24.n d24.c, .int .i64 1, .slice d24.b d24.m d24.d]), (w23.heap.size, 28, [.int .i64 c23.s, .slice c23.a c23.n c23.c, .int .i64 1, .slice c23.b c23.m c23.d, .int .i64 d23.s, .slice d23.a d23.n d23.c, .int .i64 1, .slice d23.b d23.m d23.d]), (w.heap.size + 1 + 1 + 1, 28, [.int .i64 s7, .slice a7 n7 c7, .int .i64 1, .slice b7 m7 d7, .int .i64 s8, .slice a8 n8 c8, .int .i64 1, .slice b8 m8 d8]), (w.heap.size + 1 + 1, 28, [.int .i64 s5, .slice a5 n5 c5, .int .i64 1, .slice b5 m5 d5, .int .i64 s6, .slice a6 n6 c6, .int .i64 1, .slice b6 m6 d6]), (w.heap.size + 1, 28, [.int .i64 s3, .slice a3 n3 c3, .int .i64 1, .slice b3 m3 d3, .int .i64 s4, .slice a4 n4 c4, .int .i64 1, .slice b4 m4 d4]), (w.heap.size, 28, [.int .i64 s1, .slice a1 n1 c1, .int .i64 1, .slice b1 m1 d1, .int .i64 s2, .slice a2 n2 c2, .int .i64 1, .slice b2 m2 d2])] F W → W.cell? ⟨w24.heap.size, 0, none⟩ = some (.int .i64 c24.s) ∧ W.cell? ⟨w24.heap.size, 1, none⟩ = some (.slice c24.a c24.n c24.c) ∧ W.cell? ⟨w24.heap.size, 2, none⟩ = some (.int .i64 1) ∧ W.cell? ⟨w24.heap.size, 3, none⟩ = some (.slice c24.b c24.m c24.d) ∧ W.cell? ⟨w24.heap.size, 4, none⟩ = some (.int .i64 d24.s) ∧ W.cell? ⟨w24.heap.size, 5, none⟩ = some (.slice d24.a d24.n d24.c) ∧ W.cell? ⟨w24.heap.size, 6, none⟩ = some (.int .i64 1) ∧ W.cell? ⟨w24.heap.size, 7, none⟩ = some (.slice d24.b d24.m d24.d) ∧ W.cell? ⟨w23.heap.size, 0, none⟩ = some (.int .i64 c23.s) ∧ W.cell? ⟨w23.heap.size, 1, none⟩ = some (.slice c23.a c23.n c23.c) ∧ W.cell? ⟨w23.heap.size, 2, none⟩ = some (.int .i64 1) ∧ W.cell? ⟨w23.heap.size, 3, none⟩ = some (.slice c23.b c23.m c23.d) ∧ W.cell? ⟨w23.heap.size, 4, none⟩ = some (.int .i64 d23.s) ∧ W.cell? ⟨w23.heap.size, 5, none⟩ = some (.slice d23.a d23.n d23.c) ∧ W.cell? ⟨w23.heap.size, 6, none⟩ = some (.int .i64 1) ∧ W.cell? ⟨w23.heap.size, 7, none⟩ = some (.slice d23.b d23.m d23.d) ∧ W.cell? ⟨w.heap.size + 1 + 1, 0, none⟩ = some (.int .i64 s5) ∧ W.cell? ⟨w.heap.size + 1 + 1, 1, none⟩ = some (.slice a5 n5 c5) ∧ W.cell? ⟨w.heap.size + 1 + 1, 2, none⟩ = some (.int .i64 1) ∧ W.cell? ⟨w.heap.size + 1 + 1, 3, none⟩ = some (.slice b5 m5 d5) ∧ W.cell? ⟨w.heap.size + 1 + 1, 4, none⟩ = some (.int .i64 s6) ∧ W.cell? ⟨w.heap.size + 1 + 1, 5, none⟩ = some (.slice a6 n6 c6) ∧ W.cell? ⟨w.heap.size + 1 + 1, 6, none⟩ = some (.int .i64 1) ∧ W.cell? ⟨w.heap.size + 1 + 1, 7, none⟩ = some (.slice b6 m6 d6) ∧ W.cell? ⟨w.heap.size, 0, none⟩ = some (.int .i64 s1) ∧ W.cell? ⟨w.heap.size, 1, none⟩ = some (.slice a1 n1 c1) ∧ W.cell? ⟨w.heap.size, 2, none⟩ = some (.int .i64 1) ∧ W.cell? ⟨w.heap.size, 3, none⟩ = some (.slice b1 m1 d1) ∧ W.cell? ⟨w.heap.size, 4, none⟩ = some (.int .i64 s2) ∧ W.cell? ⟨w.heap.size, 5, none⟩ = some (.slice a2 n2 c2) ∧ W.cell? ⟨w.heap.size, 6, none⟩ = some (.int .i64 1) ∧ W.cell? ⟨w.heap.size, 7, none⟩ = some (.slice b2 m2 d2) := fun W F h => ⟨(h.box (w24.heap.size, 28, [.int .i64 c24.s, .slice c24.a c24.n c24.c, .int .i64 1, .slice c24.b c24.m c24.d, .int .i64 d24.s, .slice d24.a d24.n d24.c, .int .i64 1, .slice d24.b d24.m d24.d]) mq2).cell 0, (h.box (w24.heap.size, 28, [.int .i64 c24.s, .slice c24.a c24.n c24.c, .int .i64 1, .slice c24.b c24.m c24.d, .int .i64 d24.s, .slice d24.a d24.n d24.c, .int .i64 1, .slice d24.b d24.m d24.d]) mq2).cell 1, (h.box (w24.heap.size, 28, [.int .i64 c24.s, .slice c24.a c24.n c24.c, .int .i64 1, .slice c24.b c24.m c24.d, .int .i64 d24.s, .slice d24.a d24.n d24.c, .int .i64 1, .slice d24.b d24.m d24.d]) mq2).cell 2, (h.box (w24.heap.size, 28, [.int .i64 c24.s, .slice c24.a c24.n c24.c, .int .i64 1, .slice c24.b c24.m c24.d, .int .i64 d24.s, .slice d24.a d24.n d24.c, .int .i64 1, .slice d24.b d24.m d24.d]) mq2).cell 3, (h.box (w24.heap.size, 28, [.int .i64 c24.s, .slice c24.a c24.n c24.c, .int .i64 1, .slice c24.b c24.m c24.d, .int .i64 d24.s, .slice d24.a d24.n d24.c, .int .i64 1, .slice d24.b d24.m d24.d]) mq2).cell 4, (h.box (w24.heap.size, 28, [.int .i64 c24.s, .slice c24.a c24.n c24.c, .int .i64 1, .slice c24.b c24.m c24.d, .int .i64 d24.s, .slice d24.a d24.n d24.c, .int .i64 1, .slice d24.b d24.m d24.d]) mq2).cell 5, (h.box (w24.heap.size, 28, [.int .i64 c24.s, .slice c24.a c24.n c24.c, .int .i64 1, .slice c24.b c24.m c24.d, .int .i64 d24.s, .slice d24.a d24.n d24.c, .int .i64 1, .slice d24.b d24.m d24.d]) mq2).cell 6, (h.box (w24.heap.size, 28, [.int .i64 c24.s, .slice c24.a c24.n c24.c, .int .i64 1, .slice c24.b c24.m c24.d, .int .i64 d24.s, .slice d24.a d24.n d24.c, .int .i64 1, .slice d24.b d24.m d24.d]) mq2).cell 7, (h.box (w23.heap.size, 28, [.int .i64 c23.s, .slice c23.a c23.n c23.c, .int .i64 1, .slice c23.b c23.m c23.d, .int .i64 d23.s, .slice d23.a d23.n d23.c, .int .i64 1, .slice d23.b d23.m d23.d]) mq3).cell 0, (h.box (w23.heap.size, 28, [.int .i64 c23.s, .slice c23.a c23.n c23.c, .int .i64 1, .slice c23.b c23.m c23.d, .int .i64 d23.s, .slice d23.a d23.n d23.c, .int .i64 1, .slice d23.b d23.m d23.d]) mq3).cell 1, (h.box (w23.heap.size, 28, [.int .i64 c23.s, .slice c23.a c23.n c23.c, .int .i64 1, .slice c23.b c23.m c23.d, .int .i64 d23.s, .slice d23.a d23.n d23.c, .int .i64 1, .slice d23.b d23.m d23.d]) mq3).cell 2, (h.box (w23.heap.size, 28, [.int .i64 c23.s, .slice c23.a c23.n c23.c, .int .i64 1, .slice c23.b c23.m c23.d, .int .i64 d23.s, .slice d23.a d23.n d23.c, .int .i64 1, .slice d23.b d23.m d23.d]) mq3).cell 3, (h.box (w23.heap.size, 28, [.int .i64 c23.s, .slice c23.a c23.n c23.c, .int .i64 1, .slice c23.b c23.m c23.d, .int .i64 d23.s, .slice d23.a d23.n d23.c, .int .i64 1, .slice d23.b d23.m d23.d]) mq3).cell 4, (h.box (w23.heap.size, 28, [.int .i64 c23.s, .slice c23.a c23.n c23.c, .int .i64 1, .slice c23.b c23.m c23.d, .int .i64 d23.s, .slice d23.a d23.n d23.c, .int .i64 1, .slice d23.b d23.m d23.d]) mq3).cell 5, (h.box (w23.heap.size, 28, [.int .i64 c23.s, .slice c23.a c23.n c23.c, .int .i64 1, .slice c23.b c23.m c23.d, .int .i64 d23.s, .slice d23.a d23.n d23.c, .int .i64 1, .slice d23.b d23.m d23.d]) mq3).cell 6, (h.box (w23.heap.size, 28, [.int .i64 c23.s, .slice c23.a c23.n c23.c, .int .i64 1, .slice c23.b c23.m c23.d, .int .i64 d23.s, .slice d23.a d23.n d23.c, .int .i64 1, .slice d23.b d23.m d23.d]) mq3).cell 7, (h.box (w.heap.size + 1 + 1, 28, [.int .i64 s5, .slice a5 n5 c5, .int .i64 1, .slice b5 m5 d5, .int .i64 s6, .slice a6 n6 c6, .int .i64 1, .slice b6 m6 d6]) mq5).cell 0, (h.box (w.heap.size + 1 + 1, 28, [.int .i64 s5, .slice a5 n5 c5, .int .i64 1, .slice b5 m5 d5, .int .i64 s6, .slice a6 n6 c6, .int .i64 1, .slice b6 m6 d6]) mq5).cell 1, (h.box (w.heap.size + 1 + 1, 28, [.int .i64 s5, .slice a5 n5 c5, .int .i64 1, .slice b5 m5 d5, .int .i64 s6, .slice a6 n6 c6, .int .i64 1, .slice b6 m6 d6]) mq5).cell 2, (h.box (w.heap.size + 1 + 1, 28, [.int .i64 s5, .slice a5 n5 c5, .int .i64 1, .slice b5 m5 d5, .int .i64 s6, .slice a6 n6 c6, .int .i64 1, .slice b6 m6 d6]) mq5).cell 3, (h.box (w.heap.size + 1 + 1, 28, [.int .i64 s5, .slice a5 n5 c5, .int .i64 1, .slice b5 m5 d5, .int .i64 s6, .slice a6 n6 c6, .int .i64 1, .slice b6 m6 d6]) mq5).cell 4, (h.box (w.heap.size + 1 + 1, 28, [.int .i64 s5, .slice a5 n5 c5, .int .i64 1, .slice b5 m5 d5, .int .i64 s6, .slice a6 n6 c6, .int .i64 1, .slice b6 m6 d6]) mq5).cell 5, (h.box (w.heap.size + 1 + 1, 28, [.int .i64 s5, .slice a5 n5 c5, .int .i64 1, .slice b5 m5 d5, .int .i64 s6, .slice a6 n6 c6, .int .i64 1, .slice b6 m6 d6]) mq5).cell 6, (h.box (w.heap.size + 1 + 1, 28, [.int .i64 s5, .slice a5 n5 c5, .int .i64 1, .slice b5 m5 d5, .int .i64 s6, .slice a6 n6 c6, .int .i64 1, .slice b6 m6 d6]) mq5).cell 7, (h.box (w.heap.size, 28, [.int .i64 s1, .slice a1 n1 c1, .int .i64 1, .slice b1 m1 d1, .int .i64 s2, .slice a2 n2 c2, .int .i64 1, .slice b2 m2 d2]) mq7).cell 0, (h.box (w.heap.size, 28, [.int .i64 s1, .slice a1 n1 c1, .int .i64 1, .slice b1 m1 d1, .int .i64 s2, .slice a2 n2 c2, .int .i64 1, .slice b2 m2 d2]) mq7).cell 1, (h.box (w.heap.size, 28, [.int .i64 s1, .slice a1 n1 c1, .int .i64 1, .slice b1 m1 d1, .int .i64 s2, .slice a2 n2 c2, .int .i64 1, .slice b2 m2 d2]) mq7).cell 2, (h.box (w.heap.size, 28, [.int .i64 s1, .slice a1 n1 c1, .int .i64 1, .slice b1 m1 d1, .int .i64 s2, .slice a2 n2 c2, .int .i64 1, .slice b2 m2 d2]) mq7).cell 3, (h.box (w.heap.size, 28, [.int .i64 s1, .slice a1 n1 c1, .int .i64 1, .slice b1 m1 d1, .int .i64 s2, .slice a2 n2 c2, .int .i64 1, .slice b2 m2 d2]) mq7).cell 4, (h.box (w.heap.size, 28, [.int .i64 s1, .slice a1 n1 c1, .int .i64 1, .slice b1 m1 d1, .int .i64 s2, .slice a2 n2 c2, .int .i64 1, .slice b2 m2 d2]) mq7).cell 5, (h.box (w.heap.size, 28, [.int .i64 s1, .slice a1 n1 c1, .int .i64 1, .slice b1 m1 d1, .int .i64 s2, .slice a2 n2 c2, .int .i64 1, .slice b2 m2 d2]) mq7).cell 6, (h.box (w.heap.size, 28, [.int .i64 s1, .slice a1 n1 c1, .int .i64 1, .slice b1 m1 d1, .int .i64 s2, .slice a2 n2 c2, .int .i64 1, .slice b2 m2 d2]) mq7).cell 7⟩
          have KK := Lib.hid K0
          clear K0
          have N0 := Lib.hid R27.out.drew
          clear R27
          have e0 := KK.out _ _ N0.out
          refine wp_region_held_drew (S := fun W => W.cell? ⟨w24.heap.size, 0, none⟩ = some (.int .i64 c24.s) ∧ W.cell? ⟨w24.heap.size, 1, none⟩ = some (.slice c24.a c24.n c24.c) ∧ W.cell? ⟨w24.heap.size, 2, none⟩ = some (.int .i64 1) ∧ W.cell? ⟨w24.heap.size, 3, none⟩ = some (.slice c24.b c24.m c24.d) ∧ W.cell? ⟨w24.heap.size, 4, none⟩ = some (.int .i64 d24.s) ∧ W.cell? ⟨w24.heap.size, 5, none⟩ = some (.slice d24.a d24.n d24.c) ∧ W.cell? ⟨w24.heap.size, 6, none⟩ = some (.int .i64 1) ∧ W.cell? ⟨w24.heap.size, 7, none⟩ = some (.slice d24.b d24.m d24.d) ∧ W.cell? ⟨w23.heap.size, 0, none⟩ = some (.int .i64 c23.s) ∧ W.cell? ⟨w23.heap.size, 1, none⟩ = some (.slice c23.a c23.n c23.c) ∧ W.cell? ⟨w23.heap.size, 2, none⟩ = some (.int .i64 1) ∧ W.cell? ⟨w23.heap.size, 3, none⟩ = some (.slice c23.b c23.m c23.d) ∧ W.cell? ⟨w23.heap.size, 4, none⟩ = some (.int .i64 d23.s) ∧ W.cell? ⟨w23.heap.size, 5, none⟩ = some (.slice d23.a d23.n d23.c) ∧ W.cell? ⟨w23.heap.size, 6, none⟩ = some (.int .i64 1) ∧ W.cell? ⟨w23.heap.size, 7, none⟩ = some (.slice d23.b d23.m d23.d) ∧ W.cell? ⟨w.heap.size + 1 + 1, 0, none⟩ = some (.int .i64 s5) ∧ W.cell? ⟨w.heap.size + 1 + 1, 1, none⟩ = some (.slice a5 n5 c5) ∧ W.cell? ⟨w.heap.size + 1 + 1, 2, none⟩ = some (.int .i64 1) ∧ W.cell? ⟨w.heap.size + 1 + 1, 3, none⟩ = some (.slice b5 m5 d5) ∧ W.cell? ⟨w.heap.size + 1 + 1, 4, none⟩ = some (.int .i64 s6) ∧ W.cell? ⟨w.heap.size + 1 + 1, 5, none⟩ = some (.slice a6 n6 c6) ∧ W.cell? ⟨w.heap.size + 1 + 1, 6, none⟩ = some (.int .i64 1) ∧ W.cell? ⟨w.heap.size + 1 + 1, 7, none⟩ = some (.slice b6 m6 d6) ∧ W.cell? ⟨w.heap.size, 0, none⟩ = some (.int .i64 s1) ∧ W.cell? ⟨w.heap.size, 1, none⟩ = some (.slice a1 n1 c1) ∧ W.cell? ⟨w.heap.size, 2, none⟩ = some (.int .i64 1) ∧ W.cell? ⟨w.heap.size, 3, none⟩ = some (.slice b1 m1 d1) ∧ W.cell? ⟨w.heap.size, 4, none⟩ = some (.int .i64 s2) ∧ W.cell? ⟨w.heap.size, 5, none⟩ = some (.slice a2 n2 c2) ∧ W.cell? ⟨w.heap.size, 6, none⟩ = some (.int .i64 1) ∧ W.cell? ⟨w.heap.size, 7, none⟩ = some (.slice b2 m2 d2)) (by kernel_rfl) e0 (fun hHeld => ?_)
          refine wpAnyH_take (i := 0) (oi := { dst := some 112, op := Go.Op.move (Go.Operand.tmp 9), type := 4, pos := "law.go:173", after := #[], guard := none }) (v := ?_) rfl (by kernel_rfl) (by kernel_rfl) (by kernel_rfl) (fun _ _ _ h => h) (Or.inl ⟨by rfl, ?_⟩) (by assumption) ?_
          rotate_left
          focus (intro w hSw; (try dsimp only at hSw); go_simp; (try with_reducible rfl))
          try simp only [Act.put, List.setIfInBounds_toArray, List.set_cons_zero, List.set_cons_succ]
          refine wpAnyH_take (i := 1) (oi := { dst := some 113, op := Go.Op.move (Go.Operand.tmp 112), type := 4, pos := "law.go:173", after := #[{ on := 0, ground := Go.Ground.data }], guard := none }) (v := ?_) rfl (by kernel_rfl) (by kernel_rfl) (by kernel_rfl) (fun _ _ _ h => h) (Or.inl ⟨by rfl, ?_⟩) (by assumption) ?_
          rotate_left
          focus (intro w hSw; (try dsimp only at hSw); go_simp; (try with_reducible rfl))
          try simp only [Act.put, List.setIfInBounds_toArray, List.set_cons_zero, List.set_cons_succ]
          refine wpAnyH_take (i := 2) (oi := { dst := some 114, op := Go.Op.move (Go.Operand.tmp 16), type := 33, pos := "law.go:173", after := #[{ on := 1, ground := Go.Ground.guard }], guard := some (1, true) }) (v := ?_) rfl (by kernel_rfl) (by kernel_rfl) (by kernel_rfl) (fun _ _ _ h => h) (Or.inl ⟨by rfl, ?_⟩) (by assumption) ?_
          rotate_left
          focus (intro w hSw; (try dsimp only at hSw); go_simp; (try with_reducible rfl))
          try simp only [Act.put, List.setIfInBounds_toArray, List.set_cons_zero, List.set_cons_succ]
          refine wpAnyH_take (i := 3) (oi := { dst := some 115, op := Go.Op.binOp Go.BinOp.eql 33 (Go.Operand.tmp 114) (Go.Operand.const (Go.Value.int Go.IntKind.i64 0)) 33, type := 4, pos := "law.go:173", after := #[{ on := 2, ground := Go.Ground.data }, { on := 1, ground := Go.Ground.guard }], guard := some (1, true) }) (v := ?_) rfl (by kernel_rfl) (by kernel_rfl) (by kernel_rfl) (fun _ _ _ h => h) (Or.inl ⟨by rfl, ?_⟩) (by assumption) ?_
          rotate_left
          focus (intro w hSw; (try dsimp only at hSw); go_simp; (try with_reducible rfl))
          try simp only [Act.put, List.setIfInBounds_toArray, List.set_cons_zero, List.set_cons_succ]
          refine wpAnyH_take (i := 4) (oi := { dst := some 116, op := Go.Op.pick (Go.Operand.tmp 113) (Go.Operand.tmp 115) (Go.Operand.const (Go.Value.bool false)), type := 4, pos := "law.go:173", after := #[{ on := 1, ground := Go.Ground.data }, { on := 3, ground := Go.Ground.data }], guard := none }) (v := ?_) rfl (by kernel_rfl) (by kernel_rfl) (by kernel_rfl) (fun _ _ _ h => h) (Or.inl ⟨by rfl, ?_⟩) (by assumption) ?_
          rotate_left
          focus (intro w hSw; (try dsimp only at hSw); go_simp; (try with_reducible rfl))
          try simp only [Act.put, List.setIfInBounds_toArray, List.set_cons_zero, List.set_cons_succ]
          refine wpAnyH_take (i := 5) (oi := { dst := some 117, op := Go.Op.move (Go.Operand.tmp 116), type := 4, pos := "law.go:173", after := #[{ on := 4, ground := Go.Ground.data }, { on := 1, ground := Go.Ground.chain }], guard := none }) (v := ?_) rfl (by kernel_rfl) (by kernel_rfl) (by kernel_rfl) (fun _ _ _ h => h) (Or.inl ⟨by rfl, ?_⟩) (by assumption) ?_
          rotate_left
          focus (intro w hSw; (try dsimp only at hSw); go_simp; (try with_reducible rfl))
          try simp only [Act.put, List.setIfInBounds_toArray, List.set_cons_zero, List.set_cons_succ]
          refine wpAnyH_take (i := 6) (oi := { dst := some 118, op := Go.Op.move (Go.Operand.tmp 18), type := 33, pos := "law.go:173", after := #[{ on := 5, ground := Go.Ground.guard }], guard := some (5, true) }) (v := ?_) rfl (by kernel_rfl) (by kernel_rfl) (by kernel_rfl) (fun _ _ _ h => h) (Or.inl ⟨by rfl, ?_⟩) (by assumption) ?_
          rotate_left
          focus (intro w hSw; (try dsimp only at hSw); go_simp; (try with_reducible rfl))
          try simp only [Act.put, List.setIfInBounds_toArray, List.set_cons_zero, List.set_cons_succ]
          refine wpAnyH_take (i := 7) (oi := { dst := some 119, op := Go.Op.binOp Go.BinOp.eql 33 (Go.Operand.tmp 118) (Go.Operand.const (Go.Value.int Go.IntKind.i64 0)) 33, type := 4, pos := "law.go:173", after := #[{ on := 6, ground := Go.Ground.data }, { on := 5, ground := Go.Ground.guard }], guard := some (5, true) }) (v := ?_) rfl (by kernel_rfl) (by kernel_rfl) (by kernel_rfl) (fun _ _ _ h => h) (Or.inl ⟨by rfl, ?_⟩) (by assumption) ?_
          rotate_left
          focus (intro w hSw; (try dsimp only at hSw); go_simp; (try with_reducible rfl))
          try simp only [Act.put, List.setIfInBounds_toArray, List.set_cons_zero, List.set_cons_succ]
          refine wpAnyH_take (i := 8) (oi := { dst := some 120, op := Go.Op.pick (Go.Operand.tmp 117) (Go.Operand.tmp 119) (Go.Operand.const (Go.Value.bool false)), type := 4, pos := "law.go:173", after := #[{ on := 5, ground := Go.Ground.data }, { on := 7, ground := Go.Ground.data }], guard := none }) (v := ?_) rfl (by kernel_rfl) (by kernel_rfl) (by kernel_rfl) (fun _ _ _ h => h) (Or.inl ⟨by rfl, ?_⟩) (by assumption) ?_
          rotate_left
          focus (intro w hSw; (try dsimp only at hSw); go_simp; (try with_reducible rfl))
          try simp only [Act.put, List.setIfInBounds_toArray, List.set_cons_zero, List.set_cons_succ]
          refine wpAnyH_take (i := 9) (oi := { dst := some 121, op := Go.Op.move (Go.Operand.tmp 120), type := 4, pos := "law.go:173", after := #[{ on := 8, ground := Go.Ground.data }, { on := 5, ground := Go.Ground.chain }], guard := none }) (v := ?_) rfl (by kernel_rfl) (by kernel_rfl) (by kernel_rfl) (fun _ _ _ h => h) (Or.inl ⟨by rfl, ?_⟩) (by assumption) ?_
          rotate_left
          focus (intro w hSw; (try dsimp only at hSw); go_simp; (try with_reducible rfl))
          try simp only [Act.put, List.setIfInBounds_toArray, List.set_cons_zero, List.set_cons_succ]
          refine wpAnyH_take (i := 10) (oi := { dst := some 122, op := Go.Op.load 28 (Go.Operand.tmp 15), type := 28, pos := "law.go:173", after := #[{ on := 9, ground := Go.Ground.guard }], guard := some (9, true) }) (v := ?_) rfl (by kernel_rfl) (by kernel_rfl) (by kernel_rfl) (fun _ _ _ h => h) (Or.inl ⟨by rfl, ?_⟩) (by assumption) ?_
          rotate_left
          focus (intro w hSw; (try dsimp only at hSw); go_simp; (try with_reducible rfl))
          try simp only [Act.put, List.setIfInBounds_toArray, List.set_cons_zero, List.set_cons_succ]
          refine wpAnyH_take (i := 11) (oi := { dst := some 123, op := Go.Op.load 28 (Go.Operand.tmp 17), type := 28, pos := "law.go:173", after := #[{ on := 9, ground := Go.Ground.guard }], guard := some (9, true) }) (v := ?_) rfl (by kernel_rfl) (by kernel_rfl) (by kernel_rfl) (fun _ _ _ h => h) (Or.inl ⟨by rfl, ?_⟩) (by assumption) ?_
          rotate_left
          focus (intro w hSw; (try dsimp only at hSw); go_simp; (try with_reducible rfl))
          try simp only [Act.put, List.setIfInBounds_toArray, List.set_cons_zero, List.set_cons_succ]
          refine wpAnyH_ready (rs := [12]) (by kernel_rfl) (by simp) ?_
          refine AllReadyH.cons (o := { dst := some 124, op := Go.Op.call { callee := Go.Callee.value (Go.Operand.func 16), args := #[Go.Operand.tmp 122, Go.Operand.tmp 123], argTypes := #[28, 28] }, type := 4, pos := "law.go:173", after := #[{ on := 10, ground := Go.Ground.data }, { on := 11, ground := Go.Ground.data }, { on := 9, ground := Go.Ground.chain }, { on := 9, ground := Go.Ground.guard }], guard := some (9, true) }) rfl (fun K hK => ?_) AllReadyH.nil
          first | go_at_call 16 | go_at_call 19 | (rw [if_pos ?_]; rotate_left; (focus rfl); go_simp) | skip
          try go_at_call 16
          refine (p10inside_k (r := true) (N0.out.fr (v := .slice c23.a c23.n c23.c) (u := .slice c23.b c23.m c23.d) (r := (rmin x p)) mq12 mq13 EC23.out) ZH.out.1 (N0.out.fr (v := .slice d23.a d23.n d23.c) (u := .slice d23.b d23.m d23.d) (r := (rmax y q)) mq14 mq15 ED23.out) ZH.out.2 (N0.out.fr (v := .slice c24.a c24.n c24.c) (u := .slice c24.b c24.m c24.d) (r := (rmin xx pp)) mq8 mq9 EC24.out) ZJ.out.1 (N0.out.fr (v := .slice d24.a d24.n d24.c) (u := .slice d24.b d24.m d24.d) (r := (rmax yy qq)) mq10 mq11 ED24.out) ZJ.out.2 LH.out LJ.out QH.out).mono ?_
          rintro e y28_0 ⟨rfl, hb⟩
          have N1 := Lib.hid (N0.out.later hb)
          clear hb
          have e1 := KK.out _ _ N1.out
          try dsimp only
          refine hK.out _ _ (by (try dsimp only); exact e1) (fun hHeld2 => ?_)
          clear hK K hHeld
          have hHeld := hHeld2
          clear hHeld2
          try simp only [Act.put, List.setIfInBounds_toArray, List.set_cons_zero, List.set_cons_succ]
          refine wpAnyH_take (i := 13) (oi := { dst := some 125, op := Go.Op.pick (Go.Operand.tmp 121) (Go.Operand.tmp 124) (Go.Operand.const (Go.Value.bool false)), type := 4, pos := "law.go:173", after := #[{ on := 9, ground := Go.Ground.data }, { on := 12, ground := Go.Ground.data }], guard := none }) (v := ?_) rfl (by kernel_rfl) (by kernel_rfl) (by kernel_rfl) (fun _ _ _ h => h) (Or.inl ⟨by rfl, ?_⟩) (by assumption) ?_
          rotate_left
          focus (intro w hSw; (try dsimp only at hSw); go_simp; (try with_reducible rfl))
          try simp only [Act.put, List.setIfInBounds_toArray, List.set_cons_zero, List.set_cons_succ]
          refine wpAnyH_take (i := 14) (oi := { dst := some 126, op := Go.Op.move (Go.Operand.tmp 125), type := 4, pos := "law.go:173", after := #[{ on := 13, ground := Go.Ground.data }, { on := 12, ground := Go.Ground.chain }], guard := none }) (v := ?_) rfl (by kernel_rfl) (by kernel_rfl) (by kernel_rfl) (fun _ _ _ h => h) (Or.inl ⟨by rfl, ?_⟩) (by assumption) ?_
          rotate_left
          focus (intro w hSw; (try dsimp only at hSw); go_simp; (try with_reducible rfl))
          try simp only [Act.put, List.setIfInBounds_toArray, List.set_cons_zero, List.set_cons_succ]
          refine wpAnyH_take (i := 15) (oi := { dst := some 127, op := Go.Op.load 28 (Go.Operand.tmp 4), type := 28, pos := "law.go:173", after := #[{ on := 14, ground := Go.Ground.guard }], guard := some (14, true) }) (v := ?_) rfl (by kernel_rfl) (by kernel_rfl) (by kernel_rfl) (fun _ _ _ h => h) (Or.inl ⟨by rfl, ?_⟩) (by assumption) ?_
          rotate_left
          focus (intro w hSw; (try dsimp only at hSw); go_simp; (try with_reducible rfl))
          try simp only [Act.put, List.setIfInBounds_toArray, List.set_cons_zero, List.set_cons_succ]
          refine wpAnyH_take (i := 17) (oi := { dst := some 129, op := Go.Op.load 28 (Go.Operand.tmp 6), type := 28, pos := "law.go:173", after := #[{ on := 14, ground := Go.Ground.guard }], guard := some (14, true) }) (v := ?_) rfl (by kernel_rfl) (by kernel_rfl) (by kernel_rfl) (fun _ _ _ h => h) (Or.inl ⟨by rfl, ?_⟩) (by assumption) ?_
          rotate_left
          focus (intro w hSw; (try dsimp only at hSw); go_simp; (try with_reducible rfl))
          try simp only [Act.put, List.setIfInBounds_toArray, List.set_cons_zero, List.set_cons_succ]
          refine wpAnyH_ready (rs := [16]) (by kernel_rfl) (by simp) ?_
          refine AllReadyH.cons (o := { dst := some 128, op := Go.Op.call { callee := Go.Callee.value (Go.Operand.func 19), args := #[Go.Operand.tmp 127], argTypes := #[28] }, type := 28, pos := "law.go:173", after := #[{ on := 15, ground := Go.Ground.data }, { on := 14, ground := Go.Ground.chain }, { on := 14, ground := Go.Ground.guard }], guard := some (14, true) }) rfl (fun K hK => ?_) AllReadyH.nil
          first | go_at_call 16 | go_at_call 19 | (rw [if_pos ?_]; rotate_left; (focus rfl); go_simp) | skip
          try go_at_call 19
          refine (p10neg (N1.out.fr (v := .slice a1 n1 c1) (u := .slice b1 m1 d1) (r := x) mq30 mq31 E1.out) L1.out (N1.out.fr (v := .slice a2 n2 c2) (u := .slice b2 m2 d2) (r := y) mq28 mq29 E2.out) L2.out HXY.out (r := (-y, -x)) rfl).mono ?_
          rintro e y28_1 ⟨c28_1, d28_1, rfl, h1, h2, hb, ho⟩
          have EC28_1 := Lib.hid h1.1.1
          have ED28_1 := Lib.hid h2.1.1
          have N2 := Lib.hid (Sf.span N1.out hb h1 h2 (fun x hx => ho x.1 (N1.out.lt x hx)))
          clear h1 h2 hb ho
          have e2 := KK.out _ _ N2.out
          try dsimp only
          refine hK.out _ _ (by (try dsimp only); exact e2) (fun hHeld2 => ?_)
          clear hK K hHeld
          have hHeld := hHeld2
          clear hHeld2
          try simp only [Act.put, List.setIfInBounds_toArray, List.set_cons_zero, List.set_cons_succ]
          refine wpAnyH_ready (rs := [18]) (by kernel_rfl) (by simp) ?_
          refine AllReadyH.cons (o := { dst := some 130, op := Go.Op.call { callee := Go.Callee.value (Go.Operand.func 19), args := #[Go.Operand.tmp 129], argTypes := #[28] }, type := 28, pos := "law.go:173", after := #[{ on := 17, ground := Go.Ground.data }, { on := 16, ground := Go.Ground.chain }, { on := 14, ground := Go.Ground.guard }], guard := some (14, true) }) rfl (fun K hK => ?_) AllReadyH.nil
          first | go_at_call 16 | go_at_call 19 | (rw [if_pos ?_]; rotate_left; (focus rfl); go_simp) | skip
          try go_at_call 19
          refine (p10neg (N2.out.fr (v := .slice a5 n5 c5) (u := .slice b5 m5 d5) (r := xx) mq26 mq27 E5.out) L5.out (N2.out.fr (v := .slice a6 n6 c6) (u := .slice b6 m6 d6) (r := yy) mq24 mq25 E6.out) L6.out HCD.out (r := (-yy, -xx)) rfl).mono ?_
          rintro e y28_2 ⟨c28_2, d28_2, rfl, h1, h2, hb, ho⟩
          have EC28_2 := Lib.hid h1.1.1
          have ED28_2 := Lib.hid h2.1.1
          have N3 := Lib.hid (Sf.span N2.out hb h1 h2 (fun x hx => ho x.1 (N2.out.lt x hx)))
          clear h1 h2 hb ho
          have e3 := KK.out _ _ N3.out
          try dsimp only
          refine hK.out _ _ (by (try dsimp only); exact e3) (fun hHeld2 => ?_)
          clear hK K hHeld
          have hHeld := hHeld2
          clear hHeld2
          try simp only [Act.put, List.setIfInBounds_toArray, List.set_cons_zero, List.set_cons_succ]
          refine wpAnyH_ready (rs := [19]) (by kernel_rfl) (by simp) ?_
          refine AllReadyH.cons (o := { dst := some 131, op := Go.Op.call { callee := Go.Callee.value (Go.Operand.func 16), args := #[Go.Operand.tmp 128, Go.Operand.tmp 130], argTypes := #[28, 28] }, type := 4, pos := "law.go:173", after := #[{ on := 16, ground := Go.Ground.data }, { on := 18, ground := Go.Ground.data }, { on := 18, ground := Go.Ground.chain }, { on := 14, ground := Go.Ground.guard }], guard := some (14, true) }) rfl (fun K hK => ?_) AllReadyH.nil
          first | go_at_call 16 | go_at_call 19 | (rw [if_pos ?_]; rotate_left; (focus rfl); go_simp) | skip
          try go_at_call 16
          refine (p10inside_k (r := true) (N3.out.fr (v := .slice c28_1.a c28_1.n c28_1.c) (u := .slice c28_1.b c28_1.m c28_1.d) (r := (-y)) mq4 mq5 EC28_1.out) ZX2.out (N3.out.fr (v := .slice d28_1.a d28_1.n d28_1.c) (u := .slice d28_1.b d28_1.m d28_1.d) (r := (-x)) mq6 mq7 ED28_1.out) ZX1.out (N3.out.fr (v := .slice c28_2.a c28_2.n c28_2.c) (u := .slice c28_2.b c28_2.m c28_2.d) (r := (-yy)) mq0 mq1 EC28_2.out) ZX6.out (N3.out.fr (v := .slice d28_2.a d28_2.n d28_2.c) (u := .slice d28_2.b d28_2.m d28_2.d) (r := (-xx)) mq2 mq3 ED28_2.out) ZX5.out LN1.out LN2.out QN.out).mono ?_
          rintro e y28_3 ⟨rfl, hb⟩
          have N4 := Lib.hid (N3.out.later hb)
          clear hb
          have e4 := KK.out _ _ N4.out
          try dsimp only
          refine hK.out _ _ (by (try dsimp only); exact e4) (fun hHeld2 => ?_)
          clear hK K hHeld
          have hHeld := hHeld2
          clear hHeld2
          try simp only [Act.put, List.setIfInBounds_toArray, List.set_cons_zero, List.set_cons_succ]
          refine wpAnyH_take (i := 20) (oi := { dst := some 132, op := Go.Op.pick (Go.Operand.tmp 126) (Go.Operand.tmp 131) (Go.Operand.const (Go.Value.bool false)), type := 4, pos := "law.go:173", after := #[{ on := 14, ground := Go.Ground.data }, { on := 19, ground := Go.Ground.data }], guard := none }) (v := ?_) rfl (by kernel_rfl) (by kernel_rfl) (by kernel_rfl) (fun _ _ _ h => h) (Or.inl ⟨by rfl, ?_⟩) (by assumption) ?_
          rotate_left
          focus (intro w hSw; (try dsimp only at hSw); go_simp; (try with_reducible rfl))
          try simp only [Act.put, List.setIfInBounds_toArray, List.set_cons_zero, List.set_cons_succ]
          refine wpAnyH_take (i := 21) (oi := { dst := some 8, op := Go.Op.assign (Go.Operand.tmp 132), type := 4, pos := "law.go:173", after := #[{ on := 20, ground := Go.Ground.data }, { on := 19, ground := Go.Ground.chain }, { on := 0, ground := Go.Ground.phase }, { on := 1, ground := Go.Ground.phase }, { on := 2, ground := Go.Ground.phase }, { on := 3, ground := Go.Ground.phase }, { on := 4, ground := Go.Ground.phase }, { on := 5, ground := Go.Ground.phase }, { on := 6, ground := Go.Ground.phase }, { on := 7, ground := Go.Ground.phase }, { on := 8, ground := Go.Ground.phase }, { on := 9, ground := Go.Ground.phase }, { on := 10, ground := Go.Ground.phase }, { on := 11, ground := Go.Ground.phase }, { on := 12, ground := Go.Ground.phase }, { on := 13, ground := Go.Ground.phase }, { on := 14, ground := Go.Ground.phase }, { on := 15, ground := Go.Ground.phase }, { on := 16, ground := Go.Ground.phase }, { on := 17, ground := Go.Ground.phase }, { on := 18, ground := Go.Ground.phase }, { on := 19, ground := Go.Ground.phase }, { on := 20, ground := Go.Ground.phase }], guard := none }) (v := ?_) rfl (by kernel_rfl) (by kernel_rfl) (by kernel_rfl) (fun _ _ _ h => h) (Or.inl ⟨by rfl, ?_⟩) (by assumption) ?_
          rotate_left
          focus (intro w hSw; (try dsimp only at hSw); go_simp; (try with_reducible rfl))
          try simp only [Act.put, List.setIfInBounds_toArray, List.set_cons_zero, List.set_cons_succ]
          refine wpAnyH_done (by kernel_rfl) ?_ _
          go_wp2_with fail
          go_meet
          exact ⟨rfl, Lib.hid (Sf.facts N4.out (by simp))⟩
        case rest =>
        obtain ⟨rfl, hq⟩ := hcut
        obtain ⟨w28, rfl⟩ : ∃ W, W = wc := ⟨_, rfl⟩
        have R28 := Lib.hid hq.out
        clear hq R27
        go_wp2_with fail
        go_ret
        exact ⟨rfl, R28.out.below⟩
      · have HM := Lib.hid hm
        clear hm
        obtain ⟨q267, q268, q269, q270, q271, q272, q273, q274⟩ := Fb.cells8 (Q216.out.box (w.heap.size + 1, 28, [.int .i64 s3, .slice a3 n3 c3, .int .i64 1, .slice b3 m3 d3, .int .i64 s4, .slice a4 n4 c4, .int .i64 1, .slice b4 m4 d4]) mq4)
        obtain ⟨q275, q276, q277, q278, q279, q280, q281, q282⟩ := Fb.cells8 (Q216.out.box (w.heap.size, 28, [.int .i64 s1, .slice a1 n1 c1, .int .i64 1, .slice b1 m1 d1, .int .i64 s2, .slice a2 n2 c2, .int .i64 1, .slice b2 m2 d2]) mq5)
        go_wp2_with fail
        clear q267 q268 q269 q270 q271 q272 q273 q274 q275 q276 q277 q278 q279 q280 q281 q282
        refine (p10meet_none (Q216.out.fr (v := .slice a1 n1 c1) (u := .slice b1 m1 d1) (r := x) mq22 mq23 E1.out) Y1.out (Q216.out.fr (v := .slice a2 n2 c2) (u := .slice b2 m2 d2) (r := y) mq20 mq21 E2.out) Y2.out (Q216.out.fr (v := .slice a3 n3 c3) (u := .slice b3 m3 d3) (r := p) mq18 mq19 E3.out) Y3.out (Q216.out.fr (v := .slice a4 n4 c4) (u := .slice b4 m4 d4) (r := q) mq16 mq17 E4.out) Y4.out HXY.out HPQ.out HM.out).mono ?_
        rintro e w29 ⟨rfl, hb⟩
        have R29 := Lib.hid (Q216.out.later hb)
        clear hb
        have P283 := Lib.hid (R29.out.put [.int .i64 0, .slice none 0 0, .int .i64 0, .slice none 0 0, .int .i64 0, .slice none 0 0, .int .i64 0, .slice none 0 0] 28)
        have Q283 := Lib.hid (Sf.row (pre := []) P283.out [.int .i64 0, .slice none 0 0, .int .i64 0, .slice none 0 0, .int .i64 0, .slice none 0 0, .int .i64 0, .slice none 0 0])
        obtain ⟨V283, hV283⟩ : ∃ V, ((w29.alloc (.cells #[.int .i64 0, .slice none 0 0, .int .i64 0, .slice none 0 0, .int .i64 0, .slice none 0 0, .int .i64 0, .slice none 0 0] 28)).setRow w29.heap.size #[.int .i64 0, .slice none 0 0, .int .i64 0, .slice none 0 0, .int .i64 0, .slice none 0 0, .int .i64 0, .slice none 0 0]) = V := ⟨_, rfl⟩
        rw [hV283] at Q283
        have HV283 := Lib.hid hV283
        clear hV283 R29
        go_upto_region 14 with (first | (refine wpList_store_row rfl _ _ _ rfl _ #[.int .i64 0, .slice none 0 0, .int .i64 0, .slice none 0 0, .int .i64 0, .slice none 0 0, .int .i64 0, .slice none 0 0] rfl rfl _ _ (P283.out.box _ List.mem_cons_self) (by kernel_rfl) rfl (by simp [Value.oneCell']) ?_; rw [HV283.out]))
        by_cases hn : (meetS (xx, yy) (pp, qq)).1 ≤ (meetS (xx, yy) (pp, qq)).2
        · have HN : Hid (rmax xx pp ≤ rmin yy qq) := Lib.hid hn
          clear hn
          obtain ⟨q284, q285, q286, q287, q288, q289, q290, q291⟩ := Fb.cells8 (Q283.out.box (w.heap.size + 1 + 1 + 1, 28, [.int .i64 s7, .slice a7 n7 c7, .int .i64 1, .slice b7 m7 d7, .int .i64 s8, .slice a8 n8 c8, .int .i64 1, .slice b8 m8 d8]) mq3)
          obtain ⟨q292, q293, q294, q295, q296, q297, q298, q299⟩ := Fb.cells8 (Q283.out.box (w.heap.size + 1 + 1, 28, [.int .i64 s5, .slice a5 n5 c5, .int .i64 1, .slice b5 m5 d5, .int .i64 s6, .slice a6 n6 c6, .int .i64 1, .slice b6 m6 d6]) mq4)
          go_wp2_with fail
          clear q284 q285 q286 q287 q288 q289 q290 q291 q292 q293 q294 q295 q296 q297 q298 q299
          refine (p10meet (Q283.out.fr (v := .slice a5 n5 c5) (u := .slice b5 m5 d5) (r := xx) mq14 mq15 E5.out) Y5.out (Q283.out.fr (v := .slice a6 n6 c6) (u := .slice b6 m6 d6) (r := yy) mq12 mq13 E6.out) Y6.out (Q283.out.fr (v := .slice a7 n7 c7) (u := .slice b7 m7 d7) (r := pp) mq10 mq11 E7.out) Y7.out (Q283.out.fr (v := .slice a8 n8 c8) (u := .slice b8 m8 d8) (r := qq) mq8 mq9 E8.out) Y8.out HCD.out HGH.out (r := (rmax xx pp, rmin yy qq)) rfl HN.out).mono ?_
          rintro e w30 ⟨c30, d30, rfl, h1, h2, hb, ho⟩
          have EC30 := Lib.hid h1.1.1
          have ED30 := Lib.hid h2.1.1
          have R30 := Lib.hid (Sf.span Q283.out hb h1 h2 (fun x hx => ho x.1 (Q283.out.lt x hx)))
          clear h1 h2 hb ho
          have P300 := Lib.hid (R30.out.put [.int .i64 0, .slice none 0 0, .int .i64 0, .slice none 0 0, .int .i64 0, .slice none 0 0, .int .i64 0, .slice none 0 0] 28)
          have Q300 := Lib.hid (Sf.row (pre := []) P300.out [.int .i64 c30.s, .slice c30.a c30.n c30.c, .int .i64 1, .slice c30.b c30.m c30.d, .int .i64 d30.s, .slice d30.a d30.n d30.c, .int .i64 1, .slice d30.b d30.m d30.d])
          obtain ⟨V300, hV300⟩ : ∃ V, ((w30.alloc (.cells #[.int .i64 0, .slice none 0 0, .int .i64 0, .slice none 0 0, .int .i64 0, .slice none 0 0, .int .i64 0, .slice none 0 0] 28)).setRow w30.heap.size #[.int .i64 c30.s, .slice c30.a c30.n c30.c, .int .i64 1, .slice c30.b c30.m c30.d, .int .i64 d30.s, .slice d30.a d30.n d30.c, .int .i64 1, .slice d30.b d30.m d30.d]) = V := ⟨_, rfl⟩
          rw [hV300] at Q300
          have HV300 := Lib.hid hV300
          clear hV300 R30
          go_upto_region 15 with (first | (refine wpList_store_row rfl _ _ _ rfl _ #[.int .i64 c30.s, .slice c30.a c30.n c30.c, .int .i64 1, .slice c30.b c30.m c30.d, .int .i64 d30.s, .slice d30.a d30.n d30.c, .int .i64 1, .slice d30.b d30.m d30.d] rfl rfl _ _ (P300.out.box _ List.mem_cons_self) (by kernel_rfl) rfl (by simp [Value.oneCell']) ?_; rw [HV300.out]))
          go_wp2_with fail
          go_cut [8] from 112 to 132 (fun u wx => u = .bool true ∧ Hid (Sf w [(w30.heap.size, 28, [.int .i64 c30.s, .slice c30.a c30.n c30.c, .int .i64 1, .slice c30.b c30.m c30.d, .int .i64 d30.s, .slice d30.a d30.n d30.c, .int .i64 1, .slice d30.b d30.m d30.d]), (w29.heap.size, 28, [.int .i64 0, .slice none 0 0, .int .i64 0, .slice none 0 0, .int .i64 0, .slice none 0 0, .int .i64 0, .slice none 0 0]), (w24.heap.size, 28, [.int .i64 c24.s, .slice c24.a c24.n c24.c, .int .i64 1, .slice c24.b c24.m c24.d, .int .i64 d24.s, .slice d24.a d24.n d24.c, .int .i64 1, .slice d24.b d24.m d24.d]), (w23.heap.size, 28, [.int .i64 c23.s, .slice c23.a c23.n c23.c, .int .i64 1, .slice c23.b c23.m c23.d, .int .i64 d23.s, .slice d23.a d23.n d23.c, .int .i64 1, .slice d23.b d23.m d23.d]), (w.heap.size + 1 + 1 + 1, 28, [.int .i64 s7, .slice a7 n7 c7, .int .i64 1, .slice b7 m7 d7, .int .i64 s8, .slice a8 n8 c8, .int .i64 1, .slice b8 m8 d8]), (w.heap.size + 1 + 1, 28, [.int .i64 s5, .slice a5 n5 c5, .int .i64 1, .slice b5 m5 d5, .int .i64 s6, .slice a6 n6 c6, .int .i64 1, .slice b6 m6 d6]), (w.heap.size + 1, 28, [.int .i64 s3, .slice a3 n3 c3, .int .i64 1, .slice b3 m3 d3, .int .i64 s4, .slice a4 n4 c4, .int .i64 1, .slice b4 m4 d4]), (w.heap.size, 28, [.int .i64 s1, .slice a1 n1 c1, .int .i64 1, .slice b1 m1 d1, .int .i64 s2, .slice a2 n2 c2, .int .i64 1, .slice b2 m2 d2])] [(.slice c30.a c30.n c30.c, digs ((rmax xx pp)).num.natAbs), (.slice c30.b c30.m c30.d, digs ((((rmax xx pp)).den : Int)).natAbs), (.slice d30.a d30.n d30.c, digs ((rmin yy qq)).num.natAbs), (.slice d30.b d30.m d30.d, digs ((((rmin yy qq)).den : Int)).natAbs), (.slice c24.a c24.n c24.c, digs ((rmin xx pp)).num.natAbs), (.slice c24.b c24.m c24.d, digs ((((rmin xx pp)).den : Int)).natAbs), (.slice d24.a d24.n d24.c, digs ((rmax yy qq)).num.natAbs), (.slice d24.b d24.m d24.d, digs ((((rmax yy qq)).den : Int)).natAbs), (.slice c23.a c23.n c23.c, digs ((rmin x p)).num.natAbs), (.slice c23.b c23.m c23.d, digs ((((rmin x p)).den : Int)).natAbs), (.slice d23.a d23.n d23.c, digs ((rmax y q)).num.natAbs), (.slice d23.b d23.m d23.d, digs ((((rmax y q)).den : Int)).natAbs), (.slice a8 n8 c8, digs (qq).num.natAbs), (.slice b8 m8 d8, digs (((qq).den : Int)).natAbs), (.slice a7 n7 c7, digs (pp).num.natAbs), (.slice b7 m7 d7, digs (((pp).den : Int)).natAbs), (.slice a6 n6 c6, digs (yy).num.natAbs), (.slice b6 m6 d6, digs (((yy).den : Int)).natAbs), (.slice a5 n5 c5, digs (xx).num.natAbs), (.slice b5 m5 d5, digs (((xx).den : Int)).natAbs), (.slice a4 n4 c4, digs (q).num.natAbs), (.slice b4 m4 d4, digs (((q).den : Int)).natAbs), (.slice a3 n3 c3, digs (p).num.natAbs), (.slice b3 m3 d3, digs (((p).den : Int)).natAbs), (.slice a2 n2 c2, digs (y).num.natAbs), (.slice b2 m2 d2, digs (((y).den : Int)).natAbs), (.slice a1 n1 c1, digs (x).num.natAbs), (.slice b1 m1 d1, digs (((x).den : Int)).natAbs)] wx))
          case first =>
            have K0 : ∀ W F, Sf w [(w30.heap.size, 28, [.int .i64 c30.s, .slice c30.a c30.n c30.c, .int .i64 1, .slice c30.b c30.m c30.d, .int .i64 d30.s, .slice d30.a d30.n d30.c, .int .i64 1, .slice d30.b d30.m d30.d]), (w29.heap.size, 28, [.int .i64 0, .slice none 0 0, .int .i64 0, .slice none 0 0, .int .i64 0, .slice none 0 0, .int .i64 0, .slice none 0 0]), (w24.heap.size, 28, [.int .i64 c24.s, .slice c24.a c24.n c24.c, .int .i64 1, .slice c24.b c24.m c24.d, .int .i64 d24.s, .slice d24.a d24.n d24.c, .int .i64 1, .slice d24.b d24.m d24.d]), (w23.heap.size, 28, [.int .i64 c23.s, .slice c23.a c23.n c23.c, .int .i64 1, .slice c23.b c23.m c23.d, .int .i64 d23.s, .slice d23.a d23.n d23.c, .int .i64 1, .slice d23.b d23.m d23.d]), (w.heap.size + 1 + 1 + 1, 28, [.int .i64 s7, .slice a7 n7 c7, .int .i64 1, .slice b7 m7 d7, .int .i64 s8, .slice a8 n8 c8, .int .i64 1, .slice b8 m8 d8]), (w.heap.size + 1 + 1, 28, [.int .i64 s5, .slice a5 n5 c5, .int .i64 1, .slice b5 m5 d5, .int .i64 s6, .slice a6 n6 c6, .int .i64 1, .slice b6 m6 d6]), (w.heap.size + 1, 28, [.int .i64 s3, .slice a3 n3 c3, .int .i64 1, .slice b3 m3 d3, .int .i64 s4, .slice a4 n4 c4, .int .i64 1, .slice b4 m4 d4]), (w.heap.size, 28, [.int .i64 s1, .slice a1 n1 c1, .int .i64 1, .slice b1 m1 d1, .int .i64 s2, .slice a2 n2 c2, .int .i64 1, .slice b2 m2 d2])] F W → W.cell? ⟨w24.heap.size, 0, none⟩ = some (.int .i64 c24.s) ∧ W.cell? ⟨w24.heap.size, 1, none⟩ = some (.slice c24.a c24.n c24.c) ∧ W.cell? ⟨w24.heap.size, 2, none⟩ = some (.int .i64 1) ∧ W.cell? ⟨w24.heap.size, 3, none⟩ = some (.slice c24.b c24.m c24.d) ∧ W.cell? ⟨w24.heap.size, 4, none⟩ = some (.int .i64 d24.s) ∧ W.cell? ⟨w24.heap.size, 5, none⟩ = some (.slice d24.a d24.n d24.c) ∧ W.cell? ⟨w24.heap.size, 6, none⟩ = some (.int .i64 1) ∧ W.cell? ⟨w24.heap.size, 7, none⟩ = some (.slice d24.b d24.m d24.d) ∧ W.cell? ⟨w23.heap.size, 0, none⟩ = some (.int .i64 c23.s) ∧ W.cell? ⟨w23.heap.size, 1, none⟩ = some (.slice c23.a c23.n c23.c) ∧ W.cell? ⟨w23.heap.size, 2, none⟩ = some (.int .i64 1) ∧ W.cell? ⟨w23.heap.size, 3, none⟩ = some (.slice c23.b c23.m c23.d) ∧ W.cell? ⟨w23.heap.size, 4, none⟩ = some (.int .i64 d23.s) ∧ W.cell? ⟨w23.heap.size, 5, none⟩ = some (.slice d23.a d23.n d23.c) ∧ W.cell? ⟨w23.heap.size, 6, none⟩ = some (.int .i64 1) ∧ W.cell? ⟨w23.heap.size, 7, none⟩ = some (.slice d23.b d23.m d23.d) ∧ W.cell? ⟨w.heap.size + 1 + 1, 0, none⟩ = some (.int .i64 s5) ∧ W.cell? ⟨w.heap.size + 1 + 1, 1, none⟩ = some (.slice a5 n5 c5) ∧ W.cell? ⟨w.heap.size + 1 + 1, 2, none⟩ = some (.int .i64 1) ∧ W.cell? ⟨w.heap.size + 1 + 1, 3, none⟩ = some (.slice b5 m5 d5) ∧ W.cell? ⟨w.heap.size + 1 + 1, 4, none⟩ = some (.int .i64 s6) ∧ W.cell? ⟨w.heap.size + 1 + 1, 5, none⟩ = some (.slice a6 n6 c6) ∧ W.cell? ⟨w.heap.size + 1 + 1, 6, none⟩ = some (.int .i64 1) ∧ W.cell? ⟨w.heap.size + 1 + 1, 7, none⟩ = some (.slice b6 m6 d6) ∧ W.cell? ⟨w.heap.size, 0, none⟩ = some (.int .i64 s1) ∧ W.cell? ⟨w.heap.size, 1, none⟩ = some (.slice a1 n1 c1) ∧ W.cell? ⟨w.heap.size, 2, none⟩ = some (.int .i64 1) ∧ W.cell? ⟨w.heap.size, 3, none⟩ = some (.slice b1 m1 d1) ∧ W.cell? ⟨w.heap.size, 4, none⟩ = some (.int .i64 s2) ∧ W.cell? ⟨w.heap.size, 5, none⟩ = some (.slice a2 n2 c2) ∧ W.cell? ⟨w.heap.size, 6, none⟩ = some (.int .i64 1) ∧ W.cell? ⟨w.heap.size, 7, none⟩ = some (.slice b2 m2 d2) := fun W F h => ⟨(h.box (w24.heap.size, 28, [.int .i64 c24.s, .slice c24.a c24.n c24.c, .int .i64 1, .slice c24.b c24.m c24.d, .int .i64 d24.s, .slice d24.a d24.n d24.c, .int .i64 1, .slice d24.b d24.m d24.d]) mq2).cell 0, (h.box (w24.heap.size, 28, [.int .i64 c24.s, .slice c24.a c24.n c24.c, .int .i64 1, .slice c24.b c24.m c24.d, .int .i64 d24.s, .slice d24.a d24.n d24.c, .int .i64 1, .slice d24.b d24.m d24.d]) mq2).cell 1, (h.box (w24.heap.size, 28, [.int .i64 c24.s, .slice c24.a c24.n c24.c, .int .i64 1, .slice c24.b c24.m c24.d, .int .i64 d24.s, .slice d24.a d24.n d24.c, .int .i64 1, .slice d24.b d24.m d24.d]) mq2).cell 2, (h.box (w24.heap.size, 28, [.int .i64 c24.s, .slice c24.a c24.n c24.c, .int .i64 1, .slice c24.b c24.m c24.d, .int .i64 d24.s, .slice d24.a d24.n d24.c, .int .i64 1, .slice d24.b d24.m d24.d]) mq2).cell 3, (h.box (w24.heap.size, 28, [.int .i64 c24.s, .slice c24.a c24.n c24.c, .int .i64 1, .slice c24.b c24.m c24.d, .int .i64 d24.s, .slice d24.a d24.n d24.c, .int .i64 1, .slice d24.b d24.m d24.d]) mq2).cell 4, (h.box (w24.heap.size, 28, [.int .i64 c24.s, .slice c24.a c24.n c24.c, .int .i64 1, .slice c24.b c24.m c24.d, .int .i64 d24.s, .slice d24.a d24.n d24.c, .int .i64 1, .slice d24.b d24.m d24.d]) mq2).cell 5, (h.box (w24.heap.size, 28, [.int .i64 c24.s, .slice c24.a c24.n c24.c, .int .i64 1, .slice c24.b c24.m c24.d, .int .i64 d24.s, .slice d24.a d24.n d24.c, .int .i64 1, .slice d24.b d24.m d24.d]) mq2).cell 6, (h.box (w24.heap.size, 28, [.int .i64 c24.s, .slice c24.a c24.n c24.c, .int .i64 1, .slice c24.b c24.m c24.d, .int .i64 d24.s, .slice d24.a d24.n d24.c, .int .i64 1, .slice d24.b d24.m d24.d]) mq2).cell 7, (h.box (w23.heap.size, 28, [.int .i64 c23.s, .slice c23.a c23.n c23.c, .int .i64 1, .slice c23.b c23.m c23.d, .int .i64 d23.s, .slice d23.a d23.n d23.c, .int .i64 1, .slice d23.b d23.m d23.d]) mq3).cell 0, (h.box (w23.heap.size, 28, [.int .i64 c23.s, .slice c23.a c23.n c23.c, .int .i64 1, .slice c23.b c23.m c23.d, .int .i64 d23.s, .slice d23.a d23.n d23.c, .int .i64 1, .slice d23.b d23.m d23.d]) mq3).cell 1, (h.box (w23.heap.size, 28, [.int .i64 c23.s, .slice c23.a c23.n c23.c, .int .i64 1, .slice c23.b c23.m c23.d, .int .i64 d23.s, .slice d23.a d23.n d23.c, .int .i64 1, .slice d23.b d23.m d23.d]) mq3).cell 2, (h.box (w23.heap.size, 28, [.int .i64 c23.s, .slice c23.a c23.n c23.c, .int .i64 1, .slice c23.b c23.m c23.d, .int .i64 d23.s, .slice d23.a d23.n d23.c, .int .i64 1, .slice d23.b d23.m d23.d]) mq3).cell 3, (h.box (w23.heap.size, 28, [.int .i64 c23.s, .slice c23.a c23.n c23.c, .int .i64 1, .slice c23.b c23.m c23.d, .int .i64 d23.s, .slice d23.a d23.n d23.c, .int .i64 1, .slice d23.b d23.m d23.d]) mq3).cell 4, (h.box (w23.heap.size, 28, [.int .i64 c23.s, .slice c23.a c23.n c23.c, .int .i64 1, .slice c23.b c23.m c23.d, .int .i64 d23.s, .slice d23.a d23.n d23.c, .int .i64 1, .slice d23.b d23.m d23.d]) mq3).cell 5, (h.box (w23.heap.size, 28, [.int .i64 c23.s, .slice c23.a c23.n c23.c, .int .i64 1, .slice c23.b c23.m c23.d, .int .i64 d23.s, .slice d23.a d23.n d23.c, .int .i64 1, .slice d23.b d23.m d23.d]) mq3).cell 6, (h.box (w23.heap.size, 28, [.int .i64 c23.s, .slice c23.a c23.n c23.c, .int .i64 1, .slice c23.b c23.m c23.d, .int .i64 d23.s, .slice d23.a d23.n d23.c, .int .i64 1, .slice d23.b d23.m d23.d]) mq3).cell 7, (h.box (w.heap.size + 1 + 1, 28, [.int .i64 s5, .slice a5 n5 c5, .int .i64 1, .slice b5 m5 d5, .int .i64 s6, .slice a6 n6 c6, .int .i64 1, .slice b6 m6 d6]) mq5).cell 0, (h.box (w.heap.size + 1 + 1, 28, [.int .i64 s5, .slice a5 n5 c5, .int .i64 1, .slice b5 m5 d5, .int .i64 s6, .slice a6 n6 c6, .int .i64 1, .slice b6 m6 d6]) mq5).cell 1, (h.box (w.heap.size + 1 + 1, 28, [.int .i64 s5, .slice a5 n5 c5, .int .i64 1, .slice b5 m5 d5, .int .i64 s6, .slice a6 n6 c6, .int .i64 1, .slice b6 m6 d6]) mq5).cell 2, (h.box (w.heap.size + 1 + 1, 28, [.int .i64 s5, .slice a5 n5 c5, .int .i64 1, .slice b5 m5 d5, .int .i64 s6, .slice a6 n6 c6, .int .i64 1, .slice b6 m6 d6]) mq5).cell 3, (h.box (w.heap.size + 1 + 1, 28, [.int .i64 s5, .slice a5 n5 c5, .int .i64 1, .slice b5 m5 d5, .int .i64 s6, .slice a6 n6 c6, .int .i64 1, .slice b6 m6 d6]) mq5).cell 4, (h.box (w.heap.size + 1 + 1, 28, [.int .i64 s5, .slice a5 n5 c5, .int .i64 1, .slice b5 m5 d5, .int .i64 s6, .slice a6 n6 c6, .int .i64 1, .slice b6 m6 d6]) mq5).cell 5, (h.box (w.heap.size + 1 + 1, 28, [.int .i64 s5, .slice a5 n5 c5, .int .i64 1, .slice b5 m5 d5, .int .i64 s6, .slice a6 n6 c6, .int .i64 1, .slice b6 m6 d6]) mq5).cell 6, (h.box (w.heap.size + 1 + 1, 28, [.int .i64 s5, .slice a5 n5 c5, .int .i64 1, .slice b5 m5 d5, .int .i64 s6, .slice a6 n6 c6, .int .i64 1, .slice b6 m6 d6]) mq5).cell 7, (h.box (w.heap.size, 28, [.int .i64 s1, .slice a1 n1 c1, .int .i64 1, .slice b1 m1 d1, .int .i64 s2, .slice a2 n2 c2, .int .i64 1, .slice b2 m2 d2]) mq7).cell 0, (h.box (w.heap.size, 28, [.int .i64 s1, .slice a1 n1 c1, .int .i64 1, .slice b1 m1 d1, .int .i64 s2, .slice a2 n2 c2, .int .i64 1, .slice b2 m2 d2]) mq7).cell 1, (h.box (w.heap.size, 28, [.int .i64 s1, .slice a1 n1 c1, .int .i64 1, .slice b1 m1 d1, .int .i64 s2, .slice a2 n2 c2, .int .i64 1, .slice b2 m2 d2]) mq7).cell 2, (h.box (w.heap.size, 28, [.int .i64 s1, .slice a1 n1 c1, .int .i64 1, .slice b1 m1 d1, .int .i64 s2, .slice a2 n2 c2, .int .i64 1, .slice b2 m2 d2]) mq7).cell 3, (h.box (w.heap.size, 28, [.int .i64 s1, .slice a1 n1 c1, .int .i64 1, .slice b1 m1 d1, .int .i64 s2, .slice a2 n2 c2, .int .i64 1, .slice b2 m2 d2]) mq7).cell 4, (h.box (w.heap.size, 28, [.int .i64 s1, .slice a1 n1 c1, .int .i64 1, .slice b1 m1 d1, .int .i64 s2, .slice a2 n2 c2, .int .i64 1, .slice b2 m2 d2]) mq7).cell 5, (h.box (w.heap.size, 28, [.int .i64 s1, .slice a1 n1 c1, .int .i64 1, .slice b1 m1 d1, .int .i64 s2, .slice a2 n2 c2, .int .i64 1, .slice b2 m2 d2]) mq7).cell 6, (h.box (w.heap.size, 28, [.int .i64 s1, .slice a1 n1 c1, .int .i64 1, .slice b1 m1 d1, .int .i64 s2, .slice a2 n2 c2, .int .i64 1, .slice b2 m2 d2]) mq7).cell 7⟩
            have KK := Lib.hid K0
            clear K0
            have N0 := Lib.hid Q300.out.drew
            clear Q300
            have e0 := KK.out _ _ N0.out
            refine wp_region_held_drew (S := fun W => W.cell? ⟨w24.heap.size, 0, none⟩ = some (.int .i64 c24.s) ∧ W.cell? ⟨w24.heap.size, 1, none⟩ = some (.slice c24.a c24.n c24.c) ∧ W.cell? ⟨w24.heap.size, 2, none⟩ = some (.int .i64 1) ∧ W.cell? ⟨w24.heap.size, 3, none⟩ = some (.slice c24.b c24.m c24.d) ∧ W.cell? ⟨w24.heap.size, 4, none⟩ = some (.int .i64 d24.s) ∧ W.cell? ⟨w24.heap.size, 5, none⟩ = some (.slice d24.a d24.n d24.c) ∧ W.cell? ⟨w24.heap.size, 6, none⟩ = some (.int .i64 1) ∧ W.cell? ⟨w24.heap.size, 7, none⟩ = some (.slice d24.b d24.m d24.d) ∧ W.cell? ⟨w23.heap.size, 0, none⟩ = some (.int .i64 c23.s) ∧ W.cell? ⟨w23.heap.size, 1, none⟩ = some (.slice c23.a c23.n c23.c) ∧ W.cell? ⟨w23.heap.size, 2, none⟩ = some (.int .i64 1) ∧ W.cell? ⟨w23.heap.size, 3, none⟩ = some (.slice c23.b c23.m c23.d) ∧ W.cell? ⟨w23.heap.size, 4, none⟩ = some (.int .i64 d23.s) ∧ W.cell? ⟨w23.heap.size, 5, none⟩ = some (.slice d23.a d23.n d23.c) ∧ W.cell? ⟨w23.heap.size, 6, none⟩ = some (.int .i64 1) ∧ W.cell? ⟨w23.heap.size, 7, none⟩ = some (.slice d23.b d23.m d23.d) ∧ W.cell? ⟨w.heap.size + 1 + 1, 0, none⟩ = some (.int .i64 s5) ∧ W.cell? ⟨w.heap.size + 1 + 1, 1, none⟩ = some (.slice a5 n5 c5) ∧ W.cell? ⟨w.heap.size + 1 + 1, 2, none⟩ = some (.int .i64 1) ∧ W.cell? ⟨w.heap.size + 1 + 1, 3, none⟩ = some (.slice b5 m5 d5) ∧ W.cell? ⟨w.heap.size + 1 + 1, 4, none⟩ = some (.int .i64 s6) ∧ W.cell? ⟨w.heap.size + 1 + 1, 5, none⟩ = some (.slice a6 n6 c6) ∧ W.cell? ⟨w.heap.size + 1 + 1, 6, none⟩ = some (.int .i64 1) ∧ W.cell? ⟨w.heap.size + 1 + 1, 7, none⟩ = some (.slice b6 m6 d6) ∧ W.cell? ⟨w.heap.size, 0, none⟩ = some (.int .i64 s1) ∧ W.cell? ⟨w.heap.size, 1, none⟩ = some (.slice a1 n1 c1) ∧ W.cell? ⟨w.heap.size, 2, none⟩ = some (.int .i64 1) ∧ W.cell? ⟨w.heap.size, 3, none⟩ = some (.slice b1 m1 d1) ∧ W.cell? ⟨w.heap.size, 4, none⟩ = some (.int .i64 s2) ∧ W.cell? ⟨w.heap.size, 5, none⟩ = some (.slice a2 n2 c2) ∧ W.cell? ⟨w.heap.size, 6, none⟩ = some (.int .i64 1) ∧ W.cell? ⟨w.heap.size, 7, none⟩ = some (.slice b2 m2 d2)) (by kernel_rfl) e0 (fun hHeld => ?_)
            refine wpAnyH_take (i := 0) (oi := { dst := some 112, op := Go.Op.move (Go.Operand.tmp 9), type := 4, pos := "law.go:173", after := #[], guard := none }) (v := ?_) rfl (by kernel_rfl) (by kernel_rfl) (by kernel_rfl) (fun _ _ _ h => h) (Or.inl ⟨by rfl, ?_⟩) (by assumption) ?_
            rotate_left
            focus (intro w hSw; (try dsimp only at hSw); go_simp; (try with_reducible rfl))
            try simp only [Act.put, List.setIfInBounds_toArray, List.set_cons_zero, List.set_cons_succ]
            refine wpAnyH_take (i := 1) (oi := { dst := some 113, op := Go.Op.move (Go.Operand.tmp 112), type := 4, pos := "law.go:173", after := #[{ on := 0, ground := Go.Ground.data }], guard := none }) (v := ?_) rfl (by kernel_rfl) (by kernel_rfl) (by kernel_rfl) (fun _ _ _ h => h) (Or.inl ⟨by rfl, ?_⟩) (by assumption) ?_
            rotate_left
            focus (intro w hSw; (try dsimp only at hSw); go_simp; (try with_reducible rfl))
            try simp only [Act.put, List.setIfInBounds_toArray, List.set_cons_zero, List.set_cons_succ]
            refine wpAnyH_take (i := 2) (oi := { dst := some 114, op := Go.Op.move (Go.Operand.tmp 16), type := 33, pos := "law.go:173", after := #[{ on := 1, ground := Go.Ground.guard }], guard := some (1, true) }) (v := ?_) rfl (by kernel_rfl) (by kernel_rfl) (by kernel_rfl) (fun _ _ _ h => h) (Or.inl ⟨by rfl, ?_⟩) (by assumption) ?_
            rotate_left
            focus (intro w hSw; (try dsimp only at hSw); go_simp; (try with_reducible rfl))
            try simp only [Act.put, List.setIfInBounds_toArray, List.set_cons_zero, List.set_cons_succ]
            refine wpAnyH_take (i := 3) (oi := { dst := some 115, op := Go.Op.binOp Go.BinOp.eql 33 (Go.Operand.tmp 114) (Go.Operand.const (Go.Value.int Go.IntKind.i64 0)) 33, type := 4, pos := "law.go:173", after := #[{ on := 2, ground := Go.Ground.data }, { on := 1, ground := Go.Ground.guard }], guard := some (1, true) }) (v := ?_) rfl (by kernel_rfl) (by kernel_rfl) (by kernel_rfl) (fun _ _ _ h => h) (Or.inl ⟨by rfl, ?_⟩) (by assumption) ?_
            rotate_left
            focus (intro w hSw; (try dsimp only at hSw); go_simp; (try with_reducible rfl))
            try simp only [Act.put, List.setIfInBounds_toArray, List.set_cons_zero, List.set_cons_succ]
            refine wpAnyH_take (i := 4) (oi := { dst := some 116, op := Go.Op.pick (Go.Operand.tmp 113) (Go.Operand.tmp 115) (Go.Operand.const (Go.Value.bool false)), type := 4, pos := "law.go:173", after := #[{ on := 1, ground := Go.Ground.data }, { on := 3, ground := Go.Ground.data }], guard := none }) (v := ?_) rfl (by kernel_rfl) (by kernel_rfl) (by kernel_rfl) (fun _ _ _ h => h) (Or.inl ⟨by rfl, ?_⟩) (by assumption) ?_
            rotate_left
            focus (intro w hSw; (try dsimp only at hSw); go_simp; (try with_reducible rfl))
            try simp only [Act.put, List.setIfInBounds_toArray, List.set_cons_zero, List.set_cons_succ]
            refine wpAnyH_take (i := 5) (oi := { dst := some 117, op := Go.Op.move (Go.Operand.tmp 116), type := 4, pos := "law.go:173", after := #[{ on := 4, ground := Go.Ground.data }, { on := 1, ground := Go.Ground.chain }], guard := none }) (v := ?_) rfl (by kernel_rfl) (by kernel_rfl) (by kernel_rfl) (fun _ _ _ h => h) (Or.inl ⟨by rfl, ?_⟩) (by assumption) ?_
            rotate_left
            focus (intro w hSw; (try dsimp only at hSw); go_simp; (try with_reducible rfl))
            try simp only [Act.put, List.setIfInBounds_toArray, List.set_cons_zero, List.set_cons_succ]
            refine wpAnyH_take (i := 6) (oi := { dst := some 118, op := Go.Op.move (Go.Operand.tmp 18), type := 33, pos := "law.go:173", after := #[{ on := 5, ground := Go.Ground.guard }], guard := some (5, true) }) (v := ?_) rfl (by kernel_rfl) (by kernel_rfl) (by kernel_rfl) (fun _ _ _ h => h) (Or.inl ⟨by rfl, ?_⟩) (by assumption) ?_
            rotate_left
            focus (intro w hSw; (try dsimp only at hSw); go_simp; (try with_reducible rfl))
            try simp only [Act.put, List.setIfInBounds_toArray, List.set_cons_zero, List.set_cons_succ]
            refine wpAnyH_take (i := 7) (oi := { dst := some 119, op := Go.Op.binOp Go.BinOp.eql 33 (Go.Operand.tmp 118) (Go.Operand.const (Go.Value.int Go.IntKind.i64 0)) 33, type := 4, pos := "law.go:173", after := #[{ on := 6, ground := Go.Ground.data }, { on := 5, ground := Go.Ground.guard }], guard := some (5, true) }) (v := ?_) rfl (by kernel_rfl) (by kernel_rfl) (by kernel_rfl) (fun _ _ _ h => h) (Or.inl ⟨by rfl, ?_⟩) (by assumption) ?_
            rotate_left
            focus (intro w hSw; (try dsimp only at hSw); go_simp; (try with_reducible rfl))
            try simp only [Act.put, List.setIfInBounds_toArray, List.set_cons_zero, List.set_cons_succ]
            refine wpAnyH_take (i := 8) (oi := { dst := some 120, op := Go.Op.pick (Go.Operand.tmp 117) (Go.Operand.tmp 119) (Go.Operand.const (Go.Value.bool false)), type := 4, pos := "law.go:173", after := #[{ on := 5, ground := Go.Ground.data }, { on := 7, ground := Go.Ground.data }], guard := none }) (v := ?_) rfl (by kernel_rfl) (by kernel_rfl) (by kernel_rfl) (fun _ _ _ h => h) (Or.inl ⟨by rfl, ?_⟩) (by assumption) ?_
            rotate_left
            focus (intro w hSw; (try dsimp only at hSw); go_simp; (try with_reducible rfl))
            try simp only [Act.put, List.setIfInBounds_toArray, List.set_cons_zero, List.set_cons_succ]
            refine wpAnyH_take (i := 9) (oi := { dst := some 121, op := Go.Op.move (Go.Operand.tmp 120), type := 4, pos := "law.go:173", after := #[{ on := 8, ground := Go.Ground.data }, { on := 5, ground := Go.Ground.chain }], guard := none }) (v := ?_) rfl (by kernel_rfl) (by kernel_rfl) (by kernel_rfl) (fun _ _ _ h => h) (Or.inl ⟨by rfl, ?_⟩) (by assumption) ?_
            rotate_left
            focus (intro w hSw; (try dsimp only at hSw); go_simp; (try with_reducible rfl))
            try simp only [Act.put, List.setIfInBounds_toArray, List.set_cons_zero, List.set_cons_succ]
            refine wpAnyH_take (i := 10) (oi := { dst := some 122, op := Go.Op.load 28 (Go.Operand.tmp 15), type := 28, pos := "law.go:173", after := #[{ on := 9, ground := Go.Ground.guard }], guard := some (9, true) }) (v := ?_) rfl (by kernel_rfl) (by kernel_rfl) (by kernel_rfl) (fun _ _ _ h => h) (Or.inl ⟨by rfl, ?_⟩) (by assumption) ?_
            rotate_left
            focus (intro w hSw; (try dsimp only at hSw); go_simp; (try with_reducible rfl))
            try simp only [Act.put, List.setIfInBounds_toArray, List.set_cons_zero, List.set_cons_succ]
            refine wpAnyH_take (i := 11) (oi := { dst := some 123, op := Go.Op.load 28 (Go.Operand.tmp 17), type := 28, pos := "law.go:173", after := #[{ on := 9, ground := Go.Ground.guard }], guard := some (9, true) }) (v := ?_) rfl (by kernel_rfl) (by kernel_rfl) (by kernel_rfl) (fun _ _ _ h => h) (Or.inl ⟨by rfl, ?_⟩) (by assumption) ?_
            rotate_left
            focus (intro w hSw; (try dsimp only at hSw); go_simp; (try with_reducible rfl))
            try simp only [Act.put, List.setIfInBounds_toArray, List.set_cons_zero, List.set_cons_succ]
            refine wpAnyH_ready (rs := [12]) (by kernel_rfl) (by simp) ?_
            refine AllReadyH.cons (o := { dst := some 124, op := Go.Op.call { callee := Go.Callee.value (Go.Operand.func 16), args := #[Go.Operand.tmp 122, Go.Operand.tmp 123], argTypes := #[28, 28] }, type := 4, pos := "law.go:173", after := #[{ on := 10, ground := Go.Ground.data }, { on := 11, ground := Go.Ground.data }, { on := 9, ground := Go.Ground.chain }, { on := 9, ground := Go.Ground.guard }], guard := some (9, true) }) rfl (fun K hK => ?_) AllReadyH.nil
            first | go_at_call 16 | go_at_call 19 | (rw [if_pos ?_]; rotate_left; (focus rfl); go_simp) | skip
            try go_at_call 16
            refine (p10inside_k (r := true) (N0.out.fr (v := .slice c23.a c23.n c23.c) (u := .slice c23.b c23.m c23.d) (r := (rmin x p)) mq8 mq9 EC23.out) ZH.out.1 (N0.out.fr (v := .slice d23.a d23.n d23.c) (u := .slice d23.b d23.m d23.d) (r := (rmax y q)) mq10 mq11 ED23.out) ZH.out.2 (N0.out.fr (v := .slice c24.a c24.n c24.c) (u := .slice c24.b c24.m c24.d) (r := (rmin xx pp)) mq4 mq5 EC24.out) ZJ.out.1 (N0.out.fr (v := .slice d24.a d24.n d24.c) (u := .slice d24.b d24.m d24.d) (r := (rmax yy qq)) mq6 mq7 ED24.out) ZJ.out.2 LH.out LJ.out QH.out).mono ?_
            rintro e y31_0 ⟨rfl, hb⟩
            have N1 := Lib.hid (N0.out.later hb)
            clear hb
            have e1 := KK.out _ _ N1.out
            try dsimp only
            refine hK.out _ _ (by (try dsimp only); exact e1) (fun hHeld2 => ?_)
            clear hK K hHeld
            have hHeld := hHeld2
            clear hHeld2
            try simp only [Act.put, List.setIfInBounds_toArray, List.set_cons_zero, List.set_cons_succ]
            refine wpAnyH_take (i := 13) (oi := { dst := some 125, op := Go.Op.pick (Go.Operand.tmp 121) (Go.Operand.tmp 124) (Go.Operand.const (Go.Value.bool false)), type := 4, pos := "law.go:173", after := #[{ on := 9, ground := Go.Ground.data }, { on := 12, ground := Go.Ground.data }], guard := none }) (v := ?_) rfl (by kernel_rfl) (by kernel_rfl) (by kernel_rfl) (fun _ _ _ h => h) (Or.inl ⟨by rfl, ?_⟩) (by assumption) ?_
            rotate_left
            focus (intro w hSw; (try dsimp only at hSw); go_simp; (try with_reducible rfl))
            try simp only [Act.put, List.setIfInBounds_toArray, List.set_cons_zero, List.set_cons_succ]
            refine wpAnyH_take (i := 14) (oi := { dst := some 126, op := Go.Op.move (Go.Operand.tmp 125), type := 4, pos := "law.go:173", after := #[{ on := 13, ground := Go.Ground.data }, { on := 12, ground := Go.Ground.chain }], guard := none }) (v := ?_) rfl (by kernel_rfl) (by kernel_rfl) (by kernel_rfl) (fun _ _ _ h => h) (Or.inl ⟨by rfl, ?_⟩) (by assumption) ?_
            rotate_left
            focus (intro w hSw; (try dsimp only at hSw); go_simp; (try with_reducible rfl))
            try simp only [Act.put, List.setIfInBounds_toArray, List.set_cons_zero, List.set_cons_succ]
            refine wpAnyH_take (i := 15) (oi := { dst := some 127, op := Go.Op.load 28 (Go.Operand.tmp 4), type := 28, pos := "law.go:173", after := #[{ on := 14, ground := Go.Ground.guard }], guard := some (14, true) }) (v := ?_) rfl (by kernel_rfl) (by kernel_rfl) (by kernel_rfl) (fun _ _ _ h => h) (Or.inl ⟨by rfl, ?_⟩) (by assumption) ?_
            rotate_left
            focus (intro w hSw; (try dsimp only at hSw); go_simp; (try with_reducible rfl))
            try simp only [Act.put, List.setIfInBounds_toArray, List.set_cons_zero, List.set_cons_succ]
            refine wpAnyH_take (i := 17) (oi := { dst := some 129, op := Go.Op.load 28 (Go.Operand.tmp 6), type := 28, pos := "law.go:173", after := #[{ on := 14, ground := Go.Ground.guard }], guard := some (14, true) }) (v := ?_) rfl (by kernel_rfl) (by kernel_rfl) (by kernel_rfl) (fun _ _ _ h => h) (Or.inl ⟨by rfl, ?_⟩) (by assumption) ?_
            rotate_left
            focus (intro w hSw; (try dsimp only at hSw); go_simp; (try with_reducible rfl))
            try simp only [Act.put, List.setIfInBounds_toArray, List.set_cons_zero, List.set_cons_succ]
            refine wpAnyH_ready (rs := [16]) (by kernel_rfl) (by simp) ?_
            refine AllReadyH.cons (o := { dst := some 128, op := Go.Op.call { callee := Go.Callee.value (Go.Operand.func 19), args := #[Go.Operand.tmp 127], argTypes := #[28] }, type := 28, pos := "law.go:173", after := #[{ on := 15, ground := Go.Ground.data }, { on := 14, ground := Go.Ground.chain }, { on := 14, ground := Go.Ground.guard }], guard := some (14, true) }) rfl (fun K hK => ?_) AllReadyH.nil
            first | go_at_call 16 | go_at_call 19 | (rw [if_pos ?_]; rotate_left; (focus rfl); go_simp) | skip
            try go_at_call 19
            refine (p10neg (N1.out.fr (v := .slice a1 n1 c1) (u := .slice b1 m1 d1) (r := x) mq26 mq27 E1.out) L1.out (N1.out.fr (v := .slice a2 n2 c2) (u := .slice b2 m2 d2) (r := y) mq24 mq25 E2.out) L2.out HXY.out (r := (-y, -x)) rfl).mono ?_
            rintro e y31_1 ⟨c31_1, d31_1, rfl, h1, h2, hb, ho⟩
            have EC31_1 := Lib.hid h1.1.1
            have ED31_1 := Lib.hid h2.1.1
            have N2 := Lib.hid (Sf.span N1.out hb h1 h2 (fun x hx => ho x.1 (N1.out.lt x hx)))
            clear h1 h2 hb ho
            have e2 := KK.out _ _ N2.out
            try dsimp only
            refine hK.out _ _ (by (try dsimp only); exact e2) (fun hHeld2 => ?_)
            clear hK K hHeld
            have hHeld := hHeld2
            clear hHeld2
            try simp only [Act.put, List.setIfInBounds_toArray, List.set_cons_zero, List.set_cons_succ]
            refine wpAnyH_ready (rs := [18]) (by kernel_rfl) (by simp) ?_
            refine AllReadyH.cons (o := { dst := some 130, op := Go.Op.call { callee := Go.Callee.value (Go.Operand.func 19), args := #[Go.Operand.tmp 129], argTypes := #[28] }, type := 28, pos := "law.go:173", after := #[{ on := 17, ground := Go.Ground.data }, { on := 16, ground := Go.Ground.chain }, { on := 14, ground := Go.Ground.guard }], guard := some (14, true) }) rfl (fun K hK => ?_) AllReadyH.nil
            first | go_at_call 16 | go_at_call 19 | (rw [if_pos ?_]; rotate_left; (focus rfl); go_simp) | skip
            try go_at_call 19
            refine (p10neg (N2.out.fr (v := .slice a5 n5 c5) (u := .slice b5 m5 d5) (r := xx) mq22 mq23 E5.out) L5.out (N2.out.fr (v := .slice a6 n6 c6) (u := .slice b6 m6 d6) (r := yy) mq20 mq21 E6.out) L6.out HCD.out (r := (-yy, -xx)) rfl).mono ?_
            rintro e y31_2 ⟨c31_2, d31_2, rfl, h1, h2, hb, ho⟩
            have EC31_2 := Lib.hid h1.1.1
            have ED31_2 := Lib.hid h2.1.1
            have N3 := Lib.hid (Sf.span N2.out hb h1 h2 (fun x hx => ho x.1 (N2.out.lt x hx)))
            clear h1 h2 hb ho
            have e3 := KK.out _ _ N3.out
            try dsimp only
            refine hK.out _ _ (by (try dsimp only); exact e3) (fun hHeld2 => ?_)
            clear hK K hHeld
            have hHeld := hHeld2
            clear hHeld2
            try simp only [Act.put, List.setIfInBounds_toArray, List.set_cons_zero, List.set_cons_succ]
            refine wpAnyH_ready (rs := [19]) (by kernel_rfl) (by simp) ?_
            refine AllReadyH.cons (o := { dst := some 131, op := Go.Op.call { callee := Go.Callee.value (Go.Operand.func 16), args := #[Go.Operand.tmp 128, Go.Operand.tmp 130], argTypes := #[28, 28] }, type := 4, pos := "law.go:173", after := #[{ on := 16, ground := Go.Ground.data }, { on := 18, ground := Go.Ground.data }, { on := 18, ground := Go.Ground.chain }, { on := 14, ground := Go.Ground.guard }], guard := some (14, true) }) rfl (fun K hK => ?_) AllReadyH.nil
            first | go_at_call 16 | go_at_call 19 | (rw [if_pos ?_]; rotate_left; (focus rfl); go_simp) | skip
            try go_at_call 16
            refine (p10inside_k (r := true) (N3.out.fr (v := .slice c31_1.a c31_1.n c31_1.c) (u := .slice c31_1.b c31_1.m c31_1.d) (r := (-y)) mq4 mq5 EC31_1.out) ZX2.out (N3.out.fr (v := .slice d31_1.a d31_1.n d31_1.c) (u := .slice d31_1.b d31_1.m d31_1.d) (r := (-x)) mq6 mq7 ED31_1.out) ZX1.out (N3.out.fr (v := .slice c31_2.a c31_2.n c31_2.c) (u := .slice c31_2.b c31_2.m c31_2.d) (r := (-yy)) mq0 mq1 EC31_2.out) ZX6.out (N3.out.fr (v := .slice d31_2.a d31_2.n d31_2.c) (u := .slice d31_2.b d31_2.m d31_2.d) (r := (-xx)) mq2 mq3 ED31_2.out) ZX5.out LN1.out LN2.out QN.out).mono ?_
            rintro e y31_3 ⟨rfl, hb⟩
            have N4 := Lib.hid (N3.out.later hb)
            clear hb
            have e4 := KK.out _ _ N4.out
            try dsimp only
            refine hK.out _ _ (by (try dsimp only); exact e4) (fun hHeld2 => ?_)
            clear hK K hHeld
            have hHeld := hHeld2
            clear hHeld2
            try simp only [Act.put, List.setIfInBounds_toArray, List.set_cons_zero, List.set_cons_succ]
            refine wpAnyH_take (i := 20) (oi := { dst := some 132, op := Go.Op.pick (Go.Operand.tmp 126) (Go.Operand.tmp 131) (Go.Operand.const (Go.Value.bool false)), type := 4, pos := "law.go:173", after := #[{ on := 14, ground := Go.Ground.data }, { on := 19, ground := Go.Ground.data }], guard := none }) (v := ?_) rfl (by kernel_rfl) (by kernel_rfl) (by kernel_rfl) (fun _ _ _ h => h) (Or.inl ⟨by rfl, ?_⟩) (by assumption) ?_
            rotate_left
            focus (intro w hSw; (try dsimp only at hSw); go_simp; (try with_reducible rfl))
            try simp only [Act.put, List.setIfInBounds_toArray, List.set_cons_zero, List.set_cons_succ]
            refine wpAnyH_take (i := 21) (oi := { dst := some 8, op := Go.Op.assign (Go.Operand.tmp 132), type := 4, pos := "law.go:173", after := #[{ on := 20, ground := Go.Ground.data }, { on := 19, ground := Go.Ground.chain }, { on := 0, ground := Go.Ground.phase }, { on := 1, ground := Go.Ground.phase }, { on := 2, ground := Go.Ground.phase }, { on := 3, ground := Go.Ground.phase }, { on := 4, ground := Go.Ground.phase }, { on := 5, ground := Go.Ground.phase }, { on := 6, ground := Go.Ground.phase }, { on := 7, ground := Go.Ground.phase }, { on := 8, ground := Go.Ground.phase }, { on := 9, ground := Go.Ground.phase }, { on := 10, ground := Go.Ground.phase }, { on := 11, ground := Go.Ground.phase }, { on := 12, ground := Go.Ground.phase }, { on := 13, ground := Go.Ground.phase }, { on := 14, ground := Go.Ground.phase }, { on := 15, ground := Go.Ground.phase }, { on := 16, ground := Go.Ground.phase }, { on := 17, ground := Go.Ground.phase }, { on := 18, ground := Go.Ground.phase }, { on := 19, ground := Go.Ground.phase }, { on := 20, ground := Go.Ground.phase }], guard := none }) (v := ?_) rfl (by kernel_rfl) (by kernel_rfl) (by kernel_rfl) (fun _ _ _ h => h) (Or.inl ⟨by rfl, ?_⟩) (by assumption) ?_
            rotate_left
            focus (intro w hSw; (try dsimp only at hSw); go_simp; (try with_reducible rfl))
            try simp only [Act.put, List.setIfInBounds_toArray, List.set_cons_zero, List.set_cons_succ]
            refine wpAnyH_done (by kernel_rfl) ?_ _
            go_wp2_with fail
            go_meet
            exact ⟨rfl, Lib.hid (Sf.facts N4.out (by simp))⟩
          case rest =>
          obtain ⟨rfl, hq⟩ := hcut
          obtain ⟨w31, rfl⟩ : ∃ W, W = wc := ⟨_, rfl⟩
          have R31 := Lib.hid hq.out
          clear hq Q300
          go_wp2_with fail
          go_ret
          exact ⟨rfl, R31.out.below⟩
        · have HN := Lib.hid hn
          clear hn
          obtain ⟨q301, q302, q303, q304, q305, q306, q307, q308⟩ := Fb.cells8 (Q283.out.box (w.heap.size + 1 + 1 + 1, 28, [.int .i64 s7, .slice a7 n7 c7, .int .i64 1, .slice b7 m7 d7, .int .i64 s8, .slice a8 n8 c8, .int .i64 1, .slice b8 m8 d8]) mq3)
          obtain ⟨q309, q310, q311, q312, q313, q314, q315, q316⟩ := Fb.cells8 (Q283.out.box (w.heap.size + 1 + 1, 28, [.int .i64 s5, .slice a5 n5 c5, .int .i64 1, .slice b5 m5 d5, .int .i64 s6, .slice a6 n6 c6, .int .i64 1, .slice b6 m6 d6]) mq4)
          go_wp2_with fail
          clear q301 q302 q303 q304 q305 q306 q307 q308 q309 q310 q311 q312 q313 q314 q315 q316
          refine (p10meet_none (Q283.out.fr (v := .slice a5 n5 c5) (u := .slice b5 m5 d5) (r := xx) mq14 mq15 E5.out) Y5.out (Q283.out.fr (v := .slice a6 n6 c6) (u := .slice b6 m6 d6) (r := yy) mq12 mq13 E6.out) Y6.out (Q283.out.fr (v := .slice a7 n7 c7) (u := .slice b7 m7 d7) (r := pp) mq10 mq11 E7.out) Y7.out (Q283.out.fr (v := .slice a8 n8 c8) (u := .slice b8 m8 d8) (r := qq) mq8 mq9 E8.out) Y8.out HCD.out HGH.out HN.out).mono ?_
          rintro e w32 ⟨rfl, hb⟩
          have R32 := Lib.hid (Q283.out.later hb)
          clear hb
          have P317 := Lib.hid (R32.out.put [.int .i64 0, .slice none 0 0, .int .i64 0, .slice none 0 0, .int .i64 0, .slice none 0 0, .int .i64 0, .slice none 0 0] 28)
          have Q317 := Lib.hid (Sf.row (pre := []) P317.out [.int .i64 0, .slice none 0 0, .int .i64 0, .slice none 0 0, .int .i64 0, .slice none 0 0, .int .i64 0, .slice none 0 0])
          obtain ⟨V317, hV317⟩ : ∃ V, ((w32.alloc (.cells #[.int .i64 0, .slice none 0 0, .int .i64 0, .slice none 0 0, .int .i64 0, .slice none 0 0, .int .i64 0, .slice none 0 0] 28)).setRow w32.heap.size #[.int .i64 0, .slice none 0 0, .int .i64 0, .slice none 0 0, .int .i64 0, .slice none 0 0, .int .i64 0, .slice none 0 0]) = V := ⟨_, rfl⟩
          rw [hV317] at Q317
          have HV317 := Lib.hid hV317
          clear hV317 R32
          go_upto_region 15 with (first | (refine wpList_store_row rfl _ _ _ rfl _ #[.int .i64 0, .slice none 0 0, .int .i64 0, .slice none 0 0, .int .i64 0, .slice none 0 0, .int .i64 0, .slice none 0 0] rfl rfl _ _ (P317.out.box _ List.mem_cons_self) (by kernel_rfl) rfl (by simp [Value.oneCell']) ?_; rw [HV317.out]))
          go_wp2_with fail
          go_cut [8] from 112 to 132 (fun u wx => u = .bool true ∧ Hid (Sf w [(w32.heap.size, 28, [.int .i64 0, .slice none 0 0, .int .i64 0, .slice none 0 0, .int .i64 0, .slice none 0 0, .int .i64 0, .slice none 0 0]), (w29.heap.size, 28, [.int .i64 0, .slice none 0 0, .int .i64 0, .slice none 0 0, .int .i64 0, .slice none 0 0, .int .i64 0, .slice none 0 0]), (w24.heap.size, 28, [.int .i64 c24.s, .slice c24.a c24.n c24.c, .int .i64 1, .slice c24.b c24.m c24.d, .int .i64 d24.s, .slice d24.a d24.n d24.c, .int .i64 1, .slice d24.b d24.m d24.d]), (w23.heap.size, 28, [.int .i64 c23.s, .slice c23.a c23.n c23.c, .int .i64 1, .slice c23.b c23.m c23.d, .int .i64 d23.s, .slice d23.a d23.n d23.c, .int .i64 1, .slice d23.b d23.m d23.d]), (w.heap.size + 1 + 1 + 1, 28, [.int .i64 s7, .slice a7 n7 c7, .int .i64 1, .slice b7 m7 d7, .int .i64 s8, .slice a8 n8 c8, .int .i64 1, .slice b8 m8 d8]), (w.heap.size + 1 + 1, 28, [.int .i64 s5, .slice a5 n5 c5, .int .i64 1, .slice b5 m5 d5, .int .i64 s6, .slice a6 n6 c6, .int .i64 1, .slice b6 m6 d6]), (w.heap.size + 1, 28, [.int .i64 s3, .slice a3 n3 c3, .int .i64 1, .slice b3 m3 d3, .int .i64 s4, .slice a4 n4 c4, .int .i64 1, .slice b4 m4 d4]), (w.heap.size, 28, [.int .i64 s1, .slice a1 n1 c1, .int .i64 1, .slice b1 m1 d1, .int .i64 s2, .slice a2 n2 c2, .int .i64 1, .slice b2 m2 d2])] [(.slice c24.a c24.n c24.c, digs ((rmin xx pp)).num.natAbs), (.slice c24.b c24.m c24.d, digs ((((rmin xx pp)).den : Int)).natAbs), (.slice d24.a d24.n d24.c, digs ((rmax yy qq)).num.natAbs), (.slice d24.b d24.m d24.d, digs ((((rmax yy qq)).den : Int)).natAbs), (.slice c23.a c23.n c23.c, digs ((rmin x p)).num.natAbs), (.slice c23.b c23.m c23.d, digs ((((rmin x p)).den : Int)).natAbs), (.slice d23.a d23.n d23.c, digs ((rmax y q)).num.natAbs), (.slice d23.b d23.m d23.d, digs ((((rmax y q)).den : Int)).natAbs), (.slice a8 n8 c8, digs (qq).num.natAbs), (.slice b8 m8 d8, digs (((qq).den : Int)).natAbs), (.slice a7 n7 c7, digs (pp).num.natAbs), (.slice b7 m7 d7, digs (((pp).den : Int)).natAbs), (.slice a6 n6 c6, digs (yy).num.natAbs), (.slice b6 m6 d6, digs (((yy).den : Int)).natAbs), (.slice a5 n5 c5, digs (xx).num.natAbs), (.slice b5 m5 d5, digs (((xx).den : Int)).natAbs), (.slice a4 n4 c4, digs (q).num.natAbs), (.slice b4 m4 d4, digs (((q).den : Int)).natAbs), (.slice a3 n3 c3, digs (p).num.natAbs), (.slice b3 m3 d3, digs (((p).den : Int)).natAbs), (.slice a2 n2 c2, digs (y).num.natAbs), (.slice b2 m2 d2, digs (((y).den : Int)).natAbs), (.slice a1 n1 c1, digs (x).num.natAbs), (.slice b1 m1 d1, digs (((x).den : Int)).natAbs)] wx))
          case first =>
            have K0 : ∀ W F, Sf w [(w32.heap.size, 28, [.int .i64 0, .slice none 0 0, .int .i64 0, .slice none 0 0, .int .i64 0, .slice none 0 0, .int .i64 0, .slice none 0 0]), (w29.heap.size, 28, [.int .i64 0, .slice none 0 0, .int .i64 0, .slice none 0 0, .int .i64 0, .slice none 0 0, .int .i64 0, .slice none 0 0]), (w24.heap.size, 28, [.int .i64 c24.s, .slice c24.a c24.n c24.c, .int .i64 1, .slice c24.b c24.m c24.d, .int .i64 d24.s, .slice d24.a d24.n d24.c, .int .i64 1, .slice d24.b d24.m d24.d]), (w23.heap.size, 28, [.int .i64 c23.s, .slice c23.a c23.n c23.c, .int .i64 1, .slice c23.b c23.m c23.d, .int .i64 d23.s, .slice d23.a d23.n d23.c, .int .i64 1, .slice d23.b d23.m d23.d]), (w.heap.size + 1 + 1 + 1, 28, [.int .i64 s7, .slice a7 n7 c7, .int .i64 1, .slice b7 m7 d7, .int .i64 s8, .slice a8 n8 c8, .int .i64 1, .slice b8 m8 d8]), (w.heap.size + 1 + 1, 28, [.int .i64 s5, .slice a5 n5 c5, .int .i64 1, .slice b5 m5 d5, .int .i64 s6, .slice a6 n6 c6, .int .i64 1, .slice b6 m6 d6]), (w.heap.size + 1, 28, [.int .i64 s3, .slice a3 n3 c3, .int .i64 1, .slice b3 m3 d3, .int .i64 s4, .slice a4 n4 c4, .int .i64 1, .slice b4 m4 d4]), (w.heap.size, 28, [.int .i64 s1, .slice a1 n1 c1, .int .i64 1, .slice b1 m1 d1, .int .i64 s2, .slice a2 n2 c2, .int .i64 1, .slice b2 m2 d2])] F W → W.cell? ⟨w24.heap.size, 0, none⟩ = some (.int .i64 c24.s) ∧ W.cell? ⟨w24.heap.size, 1, none⟩ = some (.slice c24.a c24.n c24.c) ∧ W.cell? ⟨w24.heap.size, 2, none⟩ = some (.int .i64 1) ∧ W.cell? ⟨w24.heap.size, 3, none⟩ = some (.slice c24.b c24.m c24.d) ∧ W.cell? ⟨w24.heap.size, 4, none⟩ = some (.int .i64 d24.s) ∧ W.cell? ⟨w24.heap.size, 5, none⟩ = some (.slice d24.a d24.n d24.c) ∧ W.cell? ⟨w24.heap.size, 6, none⟩ = some (.int .i64 1) ∧ W.cell? ⟨w24.heap.size, 7, none⟩ = some (.slice d24.b d24.m d24.d) ∧ W.cell? ⟨w23.heap.size, 0, none⟩ = some (.int .i64 c23.s) ∧ W.cell? ⟨w23.heap.size, 1, none⟩ = some (.slice c23.a c23.n c23.c) ∧ W.cell? ⟨w23.heap.size, 2, none⟩ = some (.int .i64 1) ∧ W.cell? ⟨w23.heap.size, 3, none⟩ = some (.slice c23.b c23.m c23.d) ∧ W.cell? ⟨w23.heap.size, 4, none⟩ = some (.int .i64 d23.s) ∧ W.cell? ⟨w23.heap.size, 5, none⟩ = some (.slice d23.a d23.n d23.c) ∧ W.cell? ⟨w23.heap.size, 6, none⟩ = some (.int .i64 1) ∧ W.cell? ⟨w23.heap.size, 7, none⟩ = some (.slice d23.b d23.m d23.d) ∧ W.cell? ⟨w.heap.size + 1 + 1, 0, none⟩ = some (.int .i64 s5) ∧ W.cell? ⟨w.heap.size + 1 + 1, 1, none⟩ = some (.slice a5 n5 c5) ∧ W.cell? ⟨w.heap.size + 1 + 1, 2, none⟩ = some (.int .i64 1) ∧ W.cell? ⟨w.heap.size + 1 + 1, 3, none⟩ = some (.slice b5 m5 d5) ∧ W.cell? ⟨w.heap.size + 1 + 1, 4, none⟩ = some (.int .i64 s6) ∧ W.cell? ⟨w.heap.size + 1 + 1, 5, none⟩ = some (.slice a6 n6 c6) ∧ W.cell? ⟨w.heap.size + 1 + 1, 6, none⟩ = some (.int .i64 1) ∧ W.cell? ⟨w.heap.size + 1 + 1, 7, none⟩ = some (.slice b6 m6 d6) ∧ W.cell? ⟨w.heap.size, 0, none⟩ = some (.int .i64 s1) ∧ W.cell? ⟨w.heap.size, 1, none⟩ = some (.slice a1 n1 c1) ∧ W.cell? ⟨w.heap.size, 2, none⟩ = some (.int .i64 1) ∧ W.cell? ⟨w.heap.size, 3, none⟩ = some (.slice b1 m1 d1) ∧ W.cell? ⟨w.heap.size, 4, none⟩ = some (.int .i64 s2) ∧ W.cell? ⟨w.heap.size, 5, none⟩ = some (.slice a2 n2 c2) ∧ W.cell? ⟨w.heap.size, 6, none⟩ = some (.int .i64 1) ∧ W.cell? ⟨w.heap.size, 7, none⟩ = some (.slice b2 m2 d2) := fun W F h => ⟨(h.box (w24.heap.size, 28, [.int .i64 c24.s, .slice c24.a c24.n c24.c, .int .i64 1, .slice c24.b c24.m c24.d, .int .i64 d24.s, .slice d24.a d24.n d24.c, .int .i64 1, .slice d24.b d24.m d24.d]) mq2).cell 0, (h.box (w24.heap.size, 28, [.int .i64 c24.s, .slice c24.a c24.n c24.c, .int .i64 1, .slice c24.b c24.m c24.d, .int .i64 d24.s, .slice d24.a d24.n d24.c, .int .i64 1, .slice d24.b d24.m d24.d]) mq2).cell 1, (h.box (w24.heap.size, 28, [.int .i64 c24.s, .slice c24.a c24.n c24.c, .int .i64 1, .slice c24.b c24.m c24.d, .int .i64 d24.s, .slice d24.a d24.n d24.c, .int .i64 1, .slice d24.b d24.m d24.d]) mq2).cell 2, (h.box (w24.heap.size, 28, [.int .i64 c24.s, .slice c24.a c24.n c24.c, .int .i64 1, .slice c24.b c24.m c24.d, .int .i64 d24.s, .slice d24.a d24.n d24.c, .int .i64 1, .slice d24.b d24.m d24.d]) mq2).cell 3, (h.box (w24.heap.size, 28, [.int .i64 c24.s, .slice c24.a c24.n c24.c, .int .i64 1, .slice c24.b c24.m c24.d, .int .i64 d24.s, .slice d24.a d24.n d24.c, .int .i64 1, .slice d24.b d24.m d24.d]) mq2).cell 4, (h.box (w24.heap.size, 28, [.int .i64 c24.s, .slice c24.a c24.n c24.c, .int .i64 1, .slice c24.b c24.m c24.d, .int .i64 d24.s, .slice d24.a d24.n d24.c, .int .i64 1, .slice d24.b d24.m d24.d]) mq2).cell 5, (h.box (w24.heap.size, 28, [.int .i64 c24.s, .slice c24.a c24.n c24.c, .int .i64 1, .slice c24.b c24.m c24.d, .int .i64 d24.s, .slice d24.a d24.n d24.c, .int .i64 1, .slice d24.b d24.m d24.d]) mq2).cell 6, (h.box (w24.heap.size, 28, [.int .i64 c24.s, .slice c24.a c24.n c24.c, .int .i64 1, .slice c24.b c24.m c24.d, .int .i64 d24.s, .slice d24.a d24.n d24.c, .int .i64 1, .slice d24.b d24.m d24.d]) mq2).cell 7, (h.box (w23.heap.size, 28, [.int .i64 c23.s, .slice c23.a c23.n c23.c, .int .i64 1, .slice c23.b c23.m c23.d, .int .i64 d23.s, .slice d23.a d23.n d23.c, .int .i64 1, .slice d23.b d23.m d23.d]) mq3).cell 0, (h.box (w23.heap.size, 28, [.int .i64 c23.s, .slice c23.a c23.n c23.c, .int .i64 1, .slice c23.b c23.m c23.d, .int .i64 d23.s, .slice d23.a d23.n d23.c, .int .i64 1, .slice d23.b d23.m d23.d]) mq3).cell 1, (h.box (w23.heap.size, 28, [.int .i64 c23.s, .slice c23.a c23.n c23.c, .int .i64 1, .slice c23.b c23.m c23.d, .int .i64 d23.s, .slice d23.a d23.n d23.c, .int .i64 1, .slice d23.b d23.m d23.d]) mq3).cell 2, (h.box (w23.heap.size, 28, [.int .i64 c23.s, .slice c23.a c23.n c23.c, .int .i64 1, .slice c23.b c23.m c23.d, .int .i64 d23.s, .slice d23.a d23.n d23.c, .int .i64 1, .slice d23.b d23.m d23.d]) mq3).cell 3, (h.box (w23.heap.size, 28, [.int .i64 c23.s, .slice c23.a c23.n c23.c, .int .i64 1, .slice c23.b c23.m c23.d, .int .i64 d23.s, .slice d23.a d23.n d23.c, .int .i64 1, .slice d23.b d23.m d23.d]) mq3).cell 4, (h.box (w23.heap.size, 28, [.int .i64 c23.s, .slice c23.a c23.n c23.c, .int .i64 1, .slice c23.b c23.m c23.d, .int .i64 d23.s, .slice d23.a d23.n d23.c, .int .i64 1, .slice d23.b d23.m d23.d]) mq3).cell 5, (h.box (w23.heap.size, 28, [.int .i64 c23.s, .slice c23.a c23.n c23.c, .int .i64 1, .slice c23.b c23.m c23.d, .int .i64 d23.s, .slice d23.a d23.n d23.c, .int .i64 1, .slice d23.b d23.m d23.d]) mq3).cell 6, (h.box (w23.heap.size, 28, [.int .i64 c23.s, .slice c23.a c23.n c23.c, .int .i64 1, .slice c23.b c23.m c23.d, .int .i64 d23.s, .slice d23.a d23.n d23.c, .int .i64 1, .slice d23.b d23.m d23.d]) mq3).cell 7, (h.box (w.heap.size + 1 + 1, 28, [.int .i64 s5, .slice a5 n5 c5, .int .i64 1, .slice b5 m5 d5, .int .i64 s6, .slice a6 n6 c6, .int .i64 1, .slice b6 m6 d6]) mq5).cell 0, (h.box (w.heap.size + 1 + 1, 28, [.int .i64 s5, .slice a5 n5 c5, .int .i64 1, .slice b5 m5 d5, .int .i64 s6, .slice a6 n6 c6, .int .i64 1, .slice b6 m6 d6]) mq5).cell 1, (h.box (w.heap.size + 1 + 1, 28, [.int .i64 s5, .slice a5 n5 c5, .int .i64 1, .slice b5 m5 d5, .int .i64 s6, .slice a6 n6 c6, .int .i64 1, .slice b6 m6 d6]) mq5).cell 2, (h.box (w.heap.size + 1 + 1, 28, [.int .i64 s5, .slice a5 n5 c5, .int .i64 1, .slice b5 m5 d5, .int .i64 s6, .slice a6 n6 c6, .int .i64 1, .slice b6 m6 d6]) mq5).cell 3, (h.box (w.heap.size + 1 + 1, 28, [.int .i64 s5, .slice a5 n5 c5, .int .i64 1, .slice b5 m5 d5, .int .i64 s6, .slice a6 n6 c6, .int .i64 1, .slice b6 m6 d6]) mq5).cell 4, (h.box (w.heap.size + 1 + 1, 28, [.int .i64 s5, .slice a5 n5 c5, .int .i64 1, .slice b5 m5 d5, .int .i64 s6, .slice a6 n6 c6, .int .i64 1, .slice b6 m6 d6]) mq5).cell 5, (h.box (w.heap.size + 1 + 1, 28, [.int .i64 s5, .slice a5 n5 c5, .int .i64 1, .slice b5 m5 d5, .int .i64 s6, .slice a6 n6 c6, .int .i64 1, .slice b6 m6 d6]) mq5).cell 6, (h.box (w.heap.size + 1 + 1, 28, [.int .i64 s5, .slice a5 n5 c5, .int .i64 1, .slice b5 m5 d5, .int .i64 s6, .slice a6 n6 c6, .int .i64 1, .slice b6 m6 d6]) mq5).cell 7, (h.box (w.heap.size, 28, [.int .i64 s1, .slice a1 n1 c1, .int .i64 1, .slice b1 m1 d1, .int .i64 s2, .slice a2 n2 c2, .int .i64 1, .slice b2 m2 d2]) mq7).cell 0, (h.box (w.heap.size, 28, [.int .i64 s1, .slice a1 n1 c1, .int .i64 1, .slice b1 m1 d1, .int .i64 s2, .slice a2 n2 c2, .int .i64 1, .slice b2 m2 d2]) mq7).cell 1, (h.box (w.heap.size, 28, [.int .i64 s1, .slice a1 n1 c1, .int .i64 1, .slice b1 m1 d1, .int .i64 s2, .slice a2 n2 c2, .int .i64 1, .slice b2 m2 d2]) mq7).cell 2, (h.box (w.heap.size, 28, [.int .i64 s1, .slice a1 n1 c1, .int .i64 1, .slice b1 m1 d1, .int .i64 s2, .slice a2 n2 c2, .int .i64 1, .slice b2 m2 d2]) mq7).cell 3, (h.box (w.heap.size, 28, [.int .i64 s1, .slice a1 n1 c1, .int .i64 1, .slice b1 m1 d1, .int .i64 s2, .slice a2 n2 c2, .int .i64 1, .slice b2 m2 d2]) mq7).cell 4, (h.box (w.heap.size, 28, [.int .i64 s1, .slice a1 n1 c1, .int .i64 1, .slice b1 m1 d1, .int .i64 s2, .slice a2 n2 c2, .int .i64 1, .slice b2 m2 d2]) mq7).cell 5, (h.box (w.heap.size, 28, [.int .i64 s1, .slice a1 n1 c1, .int .i64 1, .slice b1 m1 d1, .int .i64 s2, .slice a2 n2 c2, .int .i64 1, .slice b2 m2 d2]) mq7).cell 6, (h.box (w.heap.size, 28, [.int .i64 s1, .slice a1 n1 c1, .int .i64 1, .slice b1 m1 d1, .int .i64 s2, .slice a2 n2 c2, .int .i64 1, .slice b2 m2 d2]) mq7).cell 7⟩
            have KK := Lib.hid K0
            clear K0
            have N0 := Lib.hid Q317.out.drew
            clear Q317
            have e0 := KK.out _ _ N0.out
            refine wp_region_held_drew (S := fun W => W.cell? ⟨w24.heap.size, 0, none⟩ = some (.int .i64 c24.s) ∧ W.cell? ⟨w24.heap.size, 1, none⟩ = some (.slice c24.a c24.n c24.c) ∧ W.cell? ⟨w24.heap.size, 2, none⟩ = some (.int .i64 1) ∧ W.cell? ⟨w24.heap.size, 3, none⟩ = some (.slice c24.b c24.m c24.d) ∧ W.cell? ⟨w24.heap.size, 4, none⟩ = some (.int .i64 d24.s) ∧ W.cell? ⟨w24.heap.size, 5, none⟩ = some (.slice d24.a d24.n d24.c) ∧ W.cell? ⟨w24.heap.size, 6, none⟩ = some (.int .i64 1) ∧ W.cell? ⟨w24.heap.size, 7, none⟩ = some (.slice d24.b d24.m d24.d) ∧ W.cell? ⟨w23.heap.size, 0, none⟩ = some (.int .i64 c23.s) ∧ W.cell? ⟨w23.heap.size, 1, none⟩ = some (.slice c23.a c23.n c23.c) ∧ W.cell? ⟨w23.heap.size, 2, none⟩ = some (.int .i64 1) ∧ W.cell? ⟨w23.heap.size, 3, none⟩ = some (.slice c23.b c23.m c23.d) ∧ W.cell? ⟨w23.heap.size, 4, none⟩ = some (.int .i64 d23.s) ∧ W.cell? ⟨w23.heap.size, 5, none⟩ = some (.slice d23.a d23.n d23.c) ∧ W.cell? ⟨w23.heap.size, 6, none⟩ = some (.int .i64 1) ∧ W.cell? ⟨w23.heap.size, 7, none⟩ = some (.slice d23.b d23.m d23.d) ∧ W.cell? ⟨w.heap.size + 1 + 1, 0, none⟩ = some (.int .i64 s5) ∧ W.cell? ⟨w.heap.size + 1 + 1, 1, none⟩ = some (.slice a5 n5 c5) ∧ W.cell? ⟨w.heap.size + 1 + 1, 2, none⟩ = some (.int .i64 1) ∧ W.cell? ⟨w.heap.size + 1 + 1, 3, none⟩ = some (.slice b5 m5 d5) ∧ W.cell? ⟨w.heap.size + 1 + 1, 4, none⟩ = some (.int .i64 s6) ∧ W.cell? ⟨w.heap.size + 1 + 1, 5, none⟩ = some (.slice a6 n6 c6) ∧ W.cell? ⟨w.heap.size + 1 + 1, 6, none⟩ = some (.int .i64 1) ∧ W.cell? ⟨w.heap.size + 1 + 1, 7, none⟩ = some (.slice b6 m6 d6) ∧ W.cell? ⟨w.heap.size, 0, none⟩ = some (.int .i64 s1) ∧ W.cell? ⟨w.heap.size, 1, none⟩ = some (.slice a1 n1 c1) ∧ W.cell? ⟨w.heap.size, 2, none⟩ = some (.int .i64 1) ∧ W.cell? ⟨w.heap.size, 3, none⟩ = some (.slice b1 m1 d1) ∧ W.cell? ⟨w.heap.size, 4, none⟩ = some (.int .i64 s2) ∧ W.cell? ⟨w.heap.size, 5, none⟩ = some (.slice a2 n2 c2) ∧ W.cell? ⟨w.heap.size, 6, none⟩ = some (.int .i64 1) ∧ W.cell? ⟨w.heap.size, 7, none⟩ = some (.slice b2 m2 d2)) (by kernel_rfl) e0 (fun hHeld => ?_)
            refine wpAnyH_take (i := 0) (oi := { dst := some 112, op := Go.Op.move (Go.Operand.tmp 9), type := 4, pos := "law.go:173", after := #[], guard := none }) (v := ?_) rfl (by kernel_rfl) (by kernel_rfl) (by kernel_rfl) (fun _ _ _ h => h) (Or.inl ⟨by rfl, ?_⟩) (by assumption) ?_
            rotate_left
            focus (intro w hSw; (try dsimp only at hSw); go_simp; (try with_reducible rfl))
            try simp only [Act.put, List.setIfInBounds_toArray, List.set_cons_zero, List.set_cons_succ]
            refine wpAnyH_take (i := 1) (oi := { dst := some 113, op := Go.Op.move (Go.Operand.tmp 112), type := 4, pos := "law.go:173", after := #[{ on := 0, ground := Go.Ground.data }], guard := none }) (v := ?_) rfl (by kernel_rfl) (by kernel_rfl) (by kernel_rfl) (fun _ _ _ h => h) (Or.inl ⟨by rfl, ?_⟩) (by assumption) ?_
            rotate_left
            focus (intro w hSw; (try dsimp only at hSw); go_simp; (try with_reducible rfl))
            try simp only [Act.put, List.setIfInBounds_toArray, List.set_cons_zero, List.set_cons_succ]
            refine wpAnyH_take (i := 2) (oi := { dst := some 114, op := Go.Op.move (Go.Operand.tmp 16), type := 33, pos := "law.go:173", after := #[{ on := 1, ground := Go.Ground.guard }], guard := some (1, true) }) (v := ?_) rfl (by kernel_rfl) (by kernel_rfl) (by kernel_rfl) (fun _ _ _ h => h) (Or.inl ⟨by rfl, ?_⟩) (by assumption) ?_
            rotate_left
            focus (intro w hSw; (try dsimp only at hSw); go_simp; (try with_reducible rfl))
            try simp only [Act.put, List.setIfInBounds_toArray, List.set_cons_zero, List.set_cons_succ]
            refine wpAnyH_take (i := 3) (oi := { dst := some 115, op := Go.Op.binOp Go.BinOp.eql 33 (Go.Operand.tmp 114) (Go.Operand.const (Go.Value.int Go.IntKind.i64 0)) 33, type := 4, pos := "law.go:173", after := #[{ on := 2, ground := Go.Ground.data }, { on := 1, ground := Go.Ground.guard }], guard := some (1, true) }) (v := ?_) rfl (by kernel_rfl) (by kernel_rfl) (by kernel_rfl) (fun _ _ _ h => h) (Or.inl ⟨by rfl, ?_⟩) (by assumption) ?_
            rotate_left
            focus (intro w hSw; (try dsimp only at hSw); go_simp; (try with_reducible rfl))
            try simp only [Act.put, List.setIfInBounds_toArray, List.set_cons_zero, List.set_cons_succ]
            refine wpAnyH_take (i := 4) (oi := { dst := some 116, op := Go.Op.pick (Go.Operand.tmp 113) (Go.Operand.tmp 115) (Go.Operand.const (Go.Value.bool false)), type := 4, pos := "law.go:173", after := #[{ on := 1, ground := Go.Ground.data }, { on := 3, ground := Go.Ground.data }], guard := none }) (v := ?_) rfl (by kernel_rfl) (by kernel_rfl) (by kernel_rfl) (fun _ _ _ h => h) (Or.inl ⟨by rfl, ?_⟩) (by assumption) ?_
            rotate_left
            focus (intro w hSw; (try dsimp only at hSw); go_simp; (try with_reducible rfl))
            try simp only [Act.put, List.setIfInBounds_toArray, List.set_cons_zero, List.set_cons_succ]
            refine wpAnyH_take (i := 5) (oi := { dst := some 117, op := Go.Op.move (Go.Operand.tmp 116), type := 4, pos := "law.go:173", after := #[{ on := 4, ground := Go.Ground.data }, { on := 1, ground := Go.Ground.chain }], guard := none }) (v := ?_) rfl (by kernel_rfl) (by kernel_rfl) (by kernel_rfl) (fun _ _ _ h => h) (Or.inl ⟨by rfl, ?_⟩) (by assumption) ?_
            rotate_left
            focus (intro w hSw; (try dsimp only at hSw); go_simp; (try with_reducible rfl))
            try simp only [Act.put, List.setIfInBounds_toArray, List.set_cons_zero, List.set_cons_succ]
            refine wpAnyH_take (i := 6) (oi := { dst := some 118, op := Go.Op.move (Go.Operand.tmp 18), type := 33, pos := "law.go:173", after := #[{ on := 5, ground := Go.Ground.guard }], guard := some (5, true) }) (v := ?_) rfl (by kernel_rfl) (by kernel_rfl) (by kernel_rfl) (fun _ _ _ h => h) (Or.inl ⟨by rfl, ?_⟩) (by assumption) ?_
            rotate_left
            focus (intro w hSw; (try dsimp only at hSw); go_simp; (try with_reducible rfl))
            try simp only [Act.put, List.setIfInBounds_toArray, List.set_cons_zero, List.set_cons_succ]
            refine wpAnyH_take (i := 7) (oi := { dst := some 119, op := Go.Op.binOp Go.BinOp.eql 33 (Go.Operand.tmp 118) (Go.Operand.const (Go.Value.int Go.IntKind.i64 0)) 33, type := 4, pos := "law.go:173", after := #[{ on := 6, ground := Go.Ground.data }, { on := 5, ground := Go.Ground.guard }], guard := some (5, true) }) (v := ?_) rfl (by kernel_rfl) (by kernel_rfl) (by kernel_rfl) (fun _ _ _ h => h) (Or.inl ⟨by rfl, ?_⟩) (by assumption) ?_
            rotate_left
            focus (intro w hSw; (try dsimp only at hSw); go_simp; (try with_reducible rfl))
            try simp only [Act.put, List.setIfInBounds_toArray, List.set_cons_zero, List.set_cons_succ]
            refine wpAnyH_take (i := 8) (oi := { dst := some 120, op := Go.Op.pick (Go.Operand.tmp 117) (Go.Operand.tmp 119) (Go.Operand.const (Go.Value.bool false)), type := 4, pos := "law.go:173", after := #[{ on := 5, ground := Go.Ground.data }, { on := 7, ground := Go.Ground.data }], guard := none }) (v := ?_) rfl (by kernel_rfl) (by kernel_rfl) (by kernel_rfl) (fun _ _ _ h => h) (Or.inl ⟨by rfl, ?_⟩) (by assumption) ?_
            rotate_left
            focus (intro w hSw; (try dsimp only at hSw); go_simp; (try with_reducible rfl))
            try simp only [Act.put, List.setIfInBounds_toArray, List.set_cons_zero, List.set_cons_succ]
            refine wpAnyH_take (i := 9) (oi := { dst := some 121, op := Go.Op.move (Go.Operand.tmp 120), type := 4, pos := "law.go:173", after := #[{ on := 8, ground := Go.Ground.data }, { on := 5, ground := Go.Ground.chain }], guard := none }) (v := ?_) rfl (by kernel_rfl) (by kernel_rfl) (by kernel_rfl) (fun _ _ _ h => h) (Or.inl ⟨by rfl, ?_⟩) (by assumption) ?_
            rotate_left
            focus (intro w hSw; (try dsimp only at hSw); go_simp; (try with_reducible rfl))
            try simp only [Act.put, List.setIfInBounds_toArray, List.set_cons_zero, List.set_cons_succ]
            refine wpAnyH_take (i := 10) (oi := { dst := some 122, op := Go.Op.load 28 (Go.Operand.tmp 15), type := 28, pos := "law.go:173", after := #[{ on := 9, ground := Go.Ground.guard }], guard := some (9, true) }) (v := ?_) rfl (by kernel_rfl) (by kernel_rfl) (by kernel_rfl) (fun _ _ _ h => h) (Or.inl ⟨by rfl, ?_⟩) (by assumption) ?_
            rotate_left
            focus (intro w hSw; (try dsimp only at hSw); go_simp; (try with_reducible rfl))
            try simp only [Act.put, List.setIfInBounds_toArray, List.set_cons_zero, List.set_cons_succ]
            refine wpAnyH_take (i := 11) (oi := { dst := some 123, op := Go.Op.load 28 (Go.Operand.tmp 17), type := 28, pos := "law.go:173", after := #[{ on := 9, ground := Go.Ground.guard }], guard := some (9, true) }) (v := ?_) rfl (by kernel_rfl) (by kernel_rfl) (by kernel_rfl) (fun _ _ _ h => h) (Or.inl ⟨by rfl, ?_⟩) (by assumption) ?_
            rotate_left
            focus (intro w hSw; (try dsimp only at hSw); go_simp; (try with_reducible rfl))
            try simp only [Act.put, List.setIfInBounds_toArray, List.set_cons_zero, List.set_cons_succ]
            refine wpAnyH_ready (rs := [12]) (by kernel_rfl) (by simp) ?_
            refine AllReadyH.cons (o := { dst := some 124, op := Go.Op.call { callee := Go.Callee.value (Go.Operand.func 16), args := #[Go.Operand.tmp 122, Go.Operand.tmp 123], argTypes := #[28, 28] }, type := 4, pos := "law.go:173", after := #[{ on := 10, ground := Go.Ground.data }, { on := 11, ground := Go.Ground.data }, { on := 9, ground := Go.Ground.chain }, { on := 9, ground := Go.Ground.guard }], guard := some (9, true) }) rfl (fun K hK => ?_) AllReadyH.nil
            first | go_at_call 16 | go_at_call 19 | (rw [if_pos ?_]; rotate_left; (focus rfl); go_simp) | skip
            try go_at_call 16
            refine (p10inside_k (r := true) (N0.out.fr (v := .slice c23.a c23.n c23.c) (u := .slice c23.b c23.m c23.d) (r := (rmin x p)) mq4 mq5 EC23.out) ZH.out.1 (N0.out.fr (v := .slice d23.a d23.n d23.c) (u := .slice d23.b d23.m d23.d) (r := (rmax y q)) mq6 mq7 ED23.out) ZH.out.2 (N0.out.fr (v := .slice c24.a c24.n c24.c) (u := .slice c24.b c24.m c24.d) (r := (rmin xx pp)) mq0 mq1 EC24.out) ZJ.out.1 (N0.out.fr (v := .slice d24.a d24.n d24.c) (u := .slice d24.b d24.m d24.d) (r := (rmax yy qq)) mq2 mq3 ED24.out) ZJ.out.2 LH.out LJ.out QH.out).mono ?_
            rintro e y33_0 ⟨rfl, hb⟩
            have N1 := Lib.hid (N0.out.later hb)
            clear hb
            have e1 := KK.out _ _ N1.out
            try dsimp only
            refine hK.out _ _ (by (try dsimp only); exact e1) (fun hHeld2 => ?_)
            clear hK K hHeld
            have hHeld := hHeld2
            clear hHeld2
            try simp only [Act.put, List.setIfInBounds_toArray, List.set_cons_zero, List.set_cons_succ]
            refine wpAnyH_take (i := 13) (oi := { dst := some 125, op := Go.Op.pick (Go.Operand.tmp 121) (Go.Operand.tmp 124) (Go.Operand.const (Go.Value.bool false)), type := 4, pos := "law.go:173", after := #[{ on := 9, ground := Go.Ground.data }, { on := 12, ground := Go.Ground.data }], guard := none }) (v := ?_) rfl (by kernel_rfl) (by kernel_rfl) (by kernel_rfl) (fun _ _ _ h => h) (Or.inl ⟨by rfl, ?_⟩) (by assumption) ?_
            rotate_left
            focus (intro w hSw; (try dsimp only at hSw); go_simp; (try with_reducible rfl))
            try simp only [Act.put, List.setIfInBounds_toArray, List.set_cons_zero, List.set_cons_succ]
            refine wpAnyH_take (i := 14) (oi := { dst := some 126, op := Go.Op.move (Go.Operand.tmp 125), type := 4, pos := "law.go:173", after := #[{ on := 13, ground := Go.Ground.data }, { on := 12, ground := Go.Ground.chain }], guard := none }) (v := ?_) rfl (by kernel_rfl) (by kernel_rfl) (by kernel_rfl) (fun _ _ _ h => h) (Or.inl ⟨by rfl, ?_⟩) (by assumption) ?_
            rotate_left
            focus (intro w hSw; (try dsimp only at hSw); go_simp; (try with_reducible rfl))
            try simp only [Act.put, List.setIfInBounds_toArray, List.set_cons_zero, List.set_cons_succ]
            refine wpAnyH_take (i := 15) (oi := { dst := some 127, op := Go.Op.load 28 (Go.Operand.tmp 4), type := 28, pos := "law.go:173", after := #[{ on := 14, ground := Go.Ground.guard }], guard := some (14, true) }) (v := ?_) rfl (by kernel_rfl) (by kernel_rfl) (by kernel_rfl) (fun _ _ _ h => h) (Or.inl ⟨by rfl, ?_⟩) (by assumption) ?_
            rotate_left
            focus (intro w hSw; (try dsimp only at hSw); go_simp; (try with_reducible rfl))
            try simp only [Act.put, List.setIfInBounds_toArray, List.set_cons_zero, List.set_cons_succ]
            refine wpAnyH_take (i := 17) (oi := { dst := some 129, op := Go.Op.load 28 (Go.Operand.tmp 6), type := 28, pos := "law.go:173", after := #[{ on := 14, ground := Go.Ground.guard }], guard := some (14, true) }) (v := ?_) rfl (by kernel_rfl) (by kernel_rfl) (by kernel_rfl) (fun _ _ _ h => h) (Or.inl ⟨by rfl, ?_⟩) (by assumption) ?_
            rotate_left
            focus (intro w hSw; (try dsimp only at hSw); go_simp; (try with_reducible rfl))
            try simp only [Act.put, List.setIfInBounds_toArray, List.set_cons_zero, List.set_cons_succ]
            refine wpAnyH_ready (rs := [16]) (by kernel_rfl) (by simp) ?_
            refine AllReadyH.cons (o := { dst := some 128, op := Go.Op.call { callee := Go.Callee.value (Go.Operand.func 19), args := #[Go.Operand.tmp 127], argTypes := #[28] }, type := 28, pos := "law.go:173", after := #[{ on := 15, ground := Go.Ground.data }, { on := 14, ground := Go.Ground.chain }, { on := 14, ground := Go.Ground.guard }], guard := some (14, true) }) rfl (fun K hK => ?_) AllReadyH.nil
            first | go_at_call 16 | go_at_call 19 | (rw [if_pos ?_]; rotate_left; (focus rfl); go_simp) | skip
            try go_at_call 19
            refine (p10neg (N1.out.fr (v := .slice a1 n1 c1) (u := .slice b1 m1 d1) (r := x) mq22 mq23 E1.out) L1.out (N1.out.fr (v := .slice a2 n2 c2) (u := .slice b2 m2 d2) (r := y) mq20 mq21 E2.out) L2.out HXY.out (r := (-y, -x)) rfl).mono ?_
            rintro e y33_1 ⟨c33_1, d33_1, rfl, h1, h2, hb, ho⟩
            have EC33_1 := Lib.hid h1.1.1
            have ED33_1 := Lib.hid h2.1.1
            have N2 := Lib.hid (Sf.span N1.out hb h1 h2 (fun x hx => ho x.1 (N1.out.lt x hx)))
            clear h1 h2 hb ho
            have e2 := KK.out _ _ N2.out
            try dsimp only
            refine hK.out _ _ (by (try dsimp only); exact e2) (fun hHeld2 => ?_)
            clear hK K hHeld
            have hHeld := hHeld2
            clear hHeld2
            try simp only [Act.put, List.setIfInBounds_toArray, List.set_cons_zero, List.set_cons_succ]
            refine wpAnyH_ready (rs := [18]) (by kernel_rfl) (by simp) ?_
            refine AllReadyH.cons (o := { dst := some 130, op := Go.Op.call { callee := Go.Callee.value (Go.Operand.func 19), args := #[Go.Operand.tmp 129], argTypes := #[28] }, type := 28, pos := "law.go:173", after := #[{ on := 17, ground := Go.Ground.data }, { on := 16, ground := Go.Ground.chain }, { on := 14, ground := Go.Ground.guard }], guard := some (14, true) }) rfl (fun K hK => ?_) AllReadyH.nil
            first | go_at_call 16 | go_at_call 19 | (rw [if_pos ?_]; rotate_left; (focus rfl); go_simp) | skip
            try go_at_call 19
            refine (p10neg (N2.out.fr (v := .slice a5 n5 c5) (u := .slice b5 m5 d5) (r := xx) mq18 mq19 E5.out) L5.out (N2.out.fr (v := .slice a6 n6 c6) (u := .slice b6 m6 d6) (r := yy) mq16 mq17 E6.out) L6.out HCD.out (r := (-yy, -xx)) rfl).mono ?_
            rintro e y33_2 ⟨c33_2, d33_2, rfl, h1, h2, hb, ho⟩
            have EC33_2 := Lib.hid h1.1.1
            have ED33_2 := Lib.hid h2.1.1
            have N3 := Lib.hid (Sf.span N2.out hb h1 h2 (fun x hx => ho x.1 (N2.out.lt x hx)))
            clear h1 h2 hb ho
            have e3 := KK.out _ _ N3.out
            try dsimp only
            refine hK.out _ _ (by (try dsimp only); exact e3) (fun hHeld2 => ?_)
            clear hK K hHeld
            have hHeld := hHeld2
            clear hHeld2
            try simp only [Act.put, List.setIfInBounds_toArray, List.set_cons_zero, List.set_cons_succ]
            refine wpAnyH_ready (rs := [19]) (by kernel_rfl) (by simp) ?_
            refine AllReadyH.cons (o := { dst := some 131, op := Go.Op.call { callee := Go.Callee.value (Go.Operand.func 16), args := #[Go.Operand.tmp 128, Go.Operand.tmp 130], argTypes := #[28, 28] }, type := 4, pos := "law.go:173", after := #[{ on := 16, ground := Go.Ground.data }, { on := 18, ground := Go.Ground.data }, { on := 18, ground := Go.Ground.chain }, { on := 14, ground := Go.Ground.guard }], guard := some (14, true) }) rfl (fun K hK => ?_) AllReadyH.nil
            first | go_at_call 16 | go_at_call 19 | (rw [if_pos ?_]; rotate_left; (focus rfl); go_simp) | skip
            try go_at_call 16
            refine (p10inside_k (r := true) (N3.out.fr (v := .slice c33_1.a c33_1.n c33_1.c) (u := .slice c33_1.b c33_1.m c33_1.d) (r := (-y)) mq4 mq5 EC33_1.out) ZX2.out (N3.out.fr (v := .slice d33_1.a d33_1.n d33_1.c) (u := .slice d33_1.b d33_1.m d33_1.d) (r := (-x)) mq6 mq7 ED33_1.out) ZX1.out (N3.out.fr (v := .slice c33_2.a c33_2.n c33_2.c) (u := .slice c33_2.b c33_2.m c33_2.d) (r := (-yy)) mq0 mq1 EC33_2.out) ZX6.out (N3.out.fr (v := .slice d33_2.a d33_2.n d33_2.c) (u := .slice d33_2.b d33_2.m d33_2.d) (r := (-xx)) mq2 mq3 ED33_2.out) ZX5.out LN1.out LN2.out QN.out).mono ?_
            rintro e y33_3 ⟨rfl, hb⟩
            have N4 := Lib.hid (N3.out.later hb)
            clear hb
            have e4 := KK.out _ _ N4.out
            try dsimp only
            refine hK.out _ _ (by (try dsimp only); exact e4) (fun hHeld2 => ?_)
            clear hK K hHeld
            have hHeld := hHeld2
            clear hHeld2
            try simp only [Act.put, List.setIfInBounds_toArray, List.set_cons_zero, List.set_cons_succ]
            refine wpAnyH_take (i := 20) (oi := { dst := some 132, op := Go.Op.pick (Go.Operand.tmp 126) (Go.Operand.tmp 131) (Go.Operand.const (Go.Value.bool false)), type := 4, pos := "law.go:173", after := #[{ on := 14, ground := Go.Ground.data }, { on := 19, ground := Go.Ground.data }], guard := none }) (v := ?_) rfl (by kernel_rfl) (by kernel_rfl) (by kernel_rfl) (fun _ _ _ h => h) (Or.inl ⟨by rfl, ?_⟩) (by assumption) ?_
            rotate_left
            focus (intro w hSw; (try dsimp only at hSw); go_simp; (try with_reducible rfl))
            try simp only [Act.put, List.setIfInBounds_toArray, List.set_cons_zero, List.set_cons_succ]
            refine wpAnyH_take (i := 21) (oi := { dst := some 8, op := Go.Op.assign (Go.Operand.tmp 132), type := 4, pos := "law.go:173", after := #[{ on := 20, ground := Go.Ground.data }, { on := 19, ground := Go.Ground.chain }, { on := 0, ground := Go.Ground.phase }, { on := 1, ground := Go.Ground.phase }, { on := 2, ground := Go.Ground.phase }, { on := 3, ground := Go.Ground.phase }, { on := 4, ground := Go.Ground.phase }, { on := 5, ground := Go.Ground.phase }, { on := 6, ground := Go.Ground.phase }, { on := 7, ground := Go.Ground.phase }, { on := 8, ground := Go.Ground.phase }, { on := 9, ground := Go.Ground.phase }, { on := 10, ground := Go.Ground.phase }, { on := 11, ground := Go.Ground.phase }, { on := 12, ground := Go.Ground.phase }, { on := 13, ground := Go.Ground.phase }, { on := 14, ground := Go.Ground.phase }, { on := 15, ground := Go.Ground.phase }, { on := 16, ground := Go.Ground.phase }, { on := 17, ground := Go.Ground.phase }, { on := 18, ground := Go.Ground.phase }, { on := 19, ground := Go.Ground.phase }, { on := 20, ground := Go.Ground.phase }], guard := none }) (v := ?_) rfl (by kernel_rfl) (by kernel_rfl) (by kernel_rfl) (fun _ _ _ h => h) (Or.inl ⟨by rfl, ?_⟩) (by assumption) ?_
            rotate_left
            focus (intro w hSw; (try dsimp only at hSw); go_simp; (try with_reducible rfl))
            try simp only [Act.put, List.setIfInBounds_toArray, List.set_cons_zero, List.set_cons_succ]
            refine wpAnyH_done (by kernel_rfl) ?_ _
            go_wp2_with fail
            go_meet
            exact ⟨rfl, Lib.hid (Sf.facts N4.out (by simp))⟩
          case rest =>
          obtain ⟨rfl, hq⟩ := hcut
          obtain ⟨w33, rfl⟩ : ∃ W, W = wc := ⟨_, rfl⟩
          have R33 := Lib.hid hq.out
          clear hq Q317
          go_wp2_with fail
          go_ret
          exact ⟨rfl, R33.out.below⟩

theorem ins_all {w : World} {s1 t1 : Int} {a1 b1 : Option Addr} {c1 d1 : Nat} {l1 k1 : List Int} {s2 t2 : Int} {a2 b2 : Option Addr} {c2 d2 : Nat} {l2 k2 : List Int} {s3 t3 : Int} {a3 b3 : Option Addr} {c3 d3 : Nat} {l3 k3 : List Int} {s4 t4 : Int} {a4 b4 : Option Addr} {c4 d4 : Nat} {l4 k4 : List Int} {s5 t5 : Int} {a5 b5 : Option Addr} {c5 d5 : Nat} {l5 k5 : List Int} {s6 t6 : Int} {a6 b6 : Option Addr} {c6 d6 : Nat} {l6 k6 : List Int} {s7 t7 : Int} {a7 b7 : Option Addr} {c7 d7 : Nat} {l7 k7 : List Int} {s8 t8 : Int} {a8 b8 : Option Addr} {c8 d8 : Nat} {l8 k8 : List Int} (y1 : l1.length ≤ 9223372036854775807) (z1 : k1.length ≤ 9223372036854775807) (i1 : l1.length ≤ 1000000000 → Ints w (.slice a1 l1.length c1) l1) (j1 : k1.length ≤ 1000000000 → Ints w (.slice b1 k1.length d1) k1) (y2 : l2.length ≤ 9223372036854775807) (z2 : k2.length ≤ 9223372036854775807) (i2 : l2.length ≤ 1000000000 → Ints w (.slice a2 l2.length c2) l2) (j2 : k2.length ≤ 1000000000 → Ints w (.slice b2 k2.length d2) k2) (y3 : l3.length ≤ 9223372036854775807) (z3 : k3.length ≤ 9223372036854775807) (i3 : l3.length ≤ 1000000000 → Ints w (.slice a3 l3.length c3) l3) (j3 : k3.length ≤ 1000000000 → Ints w (.slice b3 k3.length d3) k3) (y4 : l4.length ≤ 9223372036854775807) (z4 : k4.length ≤ 9223372036854775807) (i4 : l4.length ≤ 1000000000 → Ints w (.slice a4 l4.length c4) l4) (j4 : k4.length ≤ 1000000000 → Ints w (.slice b4 k4.length d4) k4) (y5 : l5.length ≤ 9223372036854775807) (z5 : k5.length ≤ 9223372036854775807) (i5 : l5.length ≤ 1000000000 → Ints w (.slice a5 l5.length c5) l5) (j5 : k5.length ≤ 1000000000 → Ints w (.slice b5 k5.length d5) k5) (y6 : l6.length ≤ 9223372036854775807) (z6 : k6.length ≤ 9223372036854775807) (i6 : l6.length ≤ 1000000000 → Ints w (.slice a6 l6.length c6) l6) (j6 : k6.length ≤ 1000000000 → Ints w (.slice b6 k6.length d6) k6) (y7 : l7.length ≤ 9223372036854775807) (z7 : k7.length ≤ 9223372036854775807) (i7 : l7.length ≤ 1000000000 → Ints w (.slice a7 l7.length c7) l7) (j7 : k7.length ≤ 1000000000 → Ints w (.slice b7 k7.length d7) k7) (y8 : l8.length ≤ 9223372036854775807) (z8 : k8.length ≤ 9223372036854775807) (i8 : l8.length ≤ 1000000000 → Ints w (.slice a8 l8.length c8) l8) (j8 : k8.length ≤ 1000000000 → Ints w (.slice b8 k8.length d8) k8) :
    Calls Try.prog 4 #[.agg #[.int .i64 s1, .slice a1 l1.length c1, .int .i64 t1, .slice b1 k1.length d1, .int .i64 s2, .slice a2 l2.length c2, .int .i64 t2, .slice b2 k2.length d2], .agg #[.int .i64 s3, .slice a3 l3.length c3, .int .i64 t3, .slice b3 k3.length d3, .int .i64 s4, .slice a4 l4.length c4, .int .i64 t4, .slice b4 k4.length d4], .agg #[.int .i64 s5, .slice a5 l5.length c5, .int .i64 t5, .slice b5 k5.length d5, .int .i64 s6, .slice a6 l6.length c6, .int .i64 t6, .slice b6 k6.length d6], .agg #[.int .i64 s7, .slice a7 l7.length c7, .int .i64 t7, .slice b7 k7.length d7, .int .i64 s8, .slice a8 l8.length c8, .int .i64 t8, .slice b8 k8.length d8]] w fun e w' => e = .returned (.bool true) ∧ RowKit.Below w.heap.size w w' := by
  rcases hq : ((((decide ((l1.length : Int) ≤ 4) && decide ((k1.length : Int) ≤ 4)) && (decide ((l2.length : Int) ≤ 4) && decide ((k2.length : Int) ≤ 4))) && ((decide ((l3.length : Int) ≤ 4) && decide ((k3.length : Int) ≤ 4)) && (decide ((l4.length : Int) ≤ 4) && decide ((k4.length : Int) ≤ 4)))) && (((decide ((l5.length : Int) ≤ 4) && decide ((k5.length : Int) ≤ 4)) && (decide ((l6.length : Int) ≤ 4) && decide ((k6.length : Int) ≤ 4))) && ((decide ((l7.length : Int) ≤ 4) && decide ((k7.length : Int) ≤ 4)) && (decide ((l8.length : Int) ≤ 4) && decide ((k8.length : Int) ≤ 4))))) with _ | _
  · exact ins_no y1 z1 y2 z2 y3 z3 y4 z4 y5 z5 y6 z6 y7 z7 y8 z8 hq
  · simp only [Bool.and_eq_true, decide_eq_true_eq] at hq
    have q1 : l1.length ≤ 4 := by omega
    have p1 : k1.length ≤ 4 := by omega
    have I1 := i1 (by omega)
    have J1 := j1 (by omega)
    have q2 : l2.length ≤ 4 := by omega
    have p2 : k2.length ≤ 4 := by omega
    have I2 := i2 (by omega)
    have J2 := j2 (by omega)
    have q3 : l3.length ≤ 4 := by omega
    have p3 : k3.length ≤ 4 := by omega
    have I3 := i3 (by omega)
    have J3 := j3 (by omega)
    have q4 : l4.length ≤ 4 := by omega
    have p4 : k4.length ≤ 4 := by omega
    have I4 := i4 (by omega)
    have J4 := j4 (by omega)
    have q5 : l5.length ≤ 4 := by omega
    have p5 : k5.length ≤ 4 := by omega
    have I5 := i5 (by omega)
    have J5 := j5 (by omega)
    have q6 : l6.length ≤ 4 := by omega
    have p6 : k6.length ≤ 4 := by omega
    have I6 := i6 (by omega)
    have J6 := j6 (by omega)
    have q7 : l7.length ≤ 4 := by omega
    have p7 : k7.length ≤ 4 := by omega
    have I7 := i7 (by omega)
    have J7 := j7 (by omega)
    have q8 : l8.length ≤ 4 := by omega
    have p8 : k8.length ≤ 4 := by omega
    have I8 := i8 (by omega)
    have J8 := j8 (by omega)
    clear hq y1 z1 i1 j1 y2 z2 i2 j2 y3 z3 i3 j3 y4 z4 i4 j4 y5 z5 i5 j5 y6 z6 i6 j6 y7 z7 i7 j7 y8 z8 i8 j8
    rcases hv : (inB s1 l1 t1 k1 s2 l2 t2 k2 s5 l5 t5 k5 s6 l6 t6 k6 && inB s3 l3 t3 k3 s4 l4 t4 k4 s7 l7 t7 k7 s8 l8 t8 k8) with _ | _
    · exact ins_bad I1 J1 q1 p1 rfl rfl I2 J2 q2 p2 rfl rfl I3 J3 q3 p3 rfl rfl I4 J4 q4 p4 rfl rfl I5 J5 q5 p5 rfl rfl I6 J6 q6 p6 rfl rfl I7 J7 q7 p7 rfl rfl I8 J8 q8 p8 rfl rfl hv
    · simp only [Bool.and_eq_true] at hv
      obtain ⟨v1, v2⟩ := hv
      obtain ⟨va, vc, e1, e2⟩ := inB_good v1
      obtain ⟨vb, vd, e3, e4⟩ := inB_good v2
      obtain ⟨x, y, ⟨rfl, rfl, rfl, rfl⟩, ⟨rfl, rfl, rfl, rfl⟩, v12⟩ := sR_good va
      have F1 : Fr w _ _ _ x := ⟨⟨rfl, I1⟩, ⟨(den_sign x).symm, J1⟩⟩
      have S1 : FSz 4 x := ⟨Sz.of q1, Sz.of p1⟩
      have F2 : Fr w _ _ _ y := ⟨⟨rfl, I2⟩, ⟨(den_sign y).symm, J2⟩⟩
      have S2 : FSz 4 y := ⟨Sz.of q2, Sz.of p2⟩
      obtain ⟨p, q, ⟨rfl, rfl, rfl, rfl⟩, ⟨rfl, rfl, rfl, rfl⟩, v34⟩ := sR_good vb
      have F3 : Fr w _ _ _ p := ⟨⟨rfl, I3⟩, ⟨(den_sign p).symm, J3⟩⟩
      have S3 : FSz 4 p := ⟨Sz.of q3, Sz.of p3⟩
      have F4 : Fr w _ _ _ q := ⟨⟨rfl, I4⟩, ⟨(den_sign q).symm, J4⟩⟩
      have S4 : FSz 4 q := ⟨Sz.of q4, Sz.of p4⟩
      obtain ⟨xx, yy, ⟨rfl, rfl, rfl, rfl⟩, ⟨rfl, rfl, rfl, rfl⟩, v56⟩ := sR_good vc
      have F5 : Fr w _ _ _ xx := ⟨⟨rfl, I5⟩, ⟨(den_sign xx).symm, J5⟩⟩
      have S5 : FSz 4 xx := ⟨Sz.of q5, Sz.of p5⟩
      have F6 : Fr w _ _ _ yy := ⟨⟨rfl, I6⟩, ⟨(den_sign yy).symm, J6⟩⟩
      have S6 : FSz 4 yy := ⟨Sz.of q6, Sz.of p6⟩
      obtain ⟨pp, qq, ⟨rfl, rfl, rfl, rfl⟩, ⟨rfl, rfl, rfl, rfl⟩, v78⟩ := sR_good vd
      have F7 : Fr w _ _ _ pp := ⟨⟨rfl, I7⟩, ⟨(den_sign pp).symm, J7⟩⟩
      have S7 : FSz 4 pp := ⟨Sz.of q7, Sz.of p7⟩
      have F8 : Fr w _ _ _ qq := ⟨⟨rfl, I8⟩, ⟨(den_sign qq).symm, J8⟩⟩
      have S8 : FSz 4 qq := ⟨Sz.of q8, Sz.of p8⟩
      rw [ratOf_is, ratOf_is] at e1 e2 e3 e4
      exact ins_good F1 S1 q1 p1 F2 S2 q2 p2 F3 S3 q3 p3 F4 S4 q4 p4 F5 S5 q5 p5 F6 S6 q6 p6 F7 S7 q7 p7 F8 S8 q8 p8  v12 v34 v56 v78 e1 e2 e3 e4
end Go.Proofs.Ytgncnkojpedmdaa.Sp
