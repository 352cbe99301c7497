/- The law UnitGroup. -/
import Derived.Test.YtmhdhabgdlefjaaGreatDoorPGroup30
set_option maxRecDepth 100000
namespace Go.Proofs.YtmhdhabgdlefjaaGreatDoor.Un
open Go.RowKit Bi Dm

set_option maxHeartbeats 8000000 in
theorem group_no {w : World} {f g : Nat → Int} {s1 t1 : Int} {a1 b1 : Option Addr} {n1 c1 m1 d1 : Nat} {s2 t2 : Int} {a2 b2 : Option Addr} {n2 c2 m2 d2 : Nat} {s3 t3 : Int} {a3 b3 : Option Addr} {n3 c3 m3 d3 : Nat} {s4 t4 : Int} {a4 b4 : Option Addr} {n4 c4 m4 d4 : Nat}  (he : EnvU w) (hn1 : n1 ≤ 9223372036854775807) (hm1 : m1 ≤ 9223372036854775807) (hn2 : n2 ≤ 9223372036854775807) (hm2 : m2 ≤ 9223372036854775807) (hn3 : n3 ≤ 9223372036854775807) (hm3 : m3 ≤ 9223372036854775807) (hn4 : n4 ≤ 9223372036854775807) (hm4 : m4 ≤ 9223372036854775807) (hno : ((decide ((n1 : Int) ≤ 12) && decide ((m1 : Int) ≤ 12)) && ((decide ((n2 : Int) ≤ 12) && decide ((m2 : Int) ≤ 12)) && ((decide ((n3 : Int) ≤ 4) && decide ((m3 : Int) ≤ 4)) && (decide ((n4 : Int) ≤ 4) && decide ((m4 : Int) ≤ 4))))) = false) :
    Calls Tryz.prog 5 #[.agg #[.int .i64 (f 0), .int .i64 (f 1), .int .i64 (f 2), .int .i64 (f 3), .int .i64 (f 4), .int .i64 (f 5), .int .i64 s1, .slice a1 n1 c1, .int .i64 t1, .slice b1 m1 d1], .agg #[.int .i64 (g 0), .int .i64 (g 1), .int .i64 (g 2), .int .i64 (g 3), .int .i64 (g 4), .int .i64 (g 5), .int .i64 s2, .slice a2 n2 c2, .int .i64 t2, .slice b2 m2 d2], .agg #[.int .i64 s3, .slice a3 n3 c3, .int .i64 t3, .slice b3 m3 d3], .agg #[.int .i64 s4, .slice a4 n4 c4, .int .i64 t4, .slice b4 m4 d4]] w fun e w' => e = .returned (.bool true) ∧ RowKit.Below w.heap.size w w' := by
  have HE := Lib.hid he
  have MN1 := Lib.hid hn1
  have MM1 := Lib.hid hm1
  obtain ⟨q1, hq1⟩ : ∃ q, (decide ((n1 : Int) ≤ 12) && decide ((m1 : Int) ≤ 12)) = q := ⟨_, rfl⟩
  have KW1 := Lib.hid hq1
  have MN2 := Lib.hid hn2
  have MM2 := Lib.hid hm2
  obtain ⟨q2, hq2⟩ : ∃ q, (decide ((n2 : Int) ≤ 12) && decide ((m2 : Int) ≤ 12)) = q := ⟨_, rfl⟩
  have KW2 := Lib.hid hq2
  have MN3 := Lib.hid hn3
  have MM3 := Lib.hid hm3
  obtain ⟨q3, hq3⟩ : ∃ q, (decide ((n3 : Int) ≤ 4) && decide ((m3 : Int) ≤ 4)) = q := ⟨_, rfl⟩
  have KW3 := Lib.hid hq3
  have MN4 := Lib.hid hn4
  have MM4 := Lib.hid hm4
  obtain ⟨q4, hq4⟩ : ∃ q, (decide ((n4 : Int) ≤ 4) && decide ((m4 : Int) ≤ 4)) = q := ⟨_, rfl⟩
  have KW4 := Lib.hid hq4
  rw [hq1, hq2, hq3, hq4] at hno
  have HNO := Lib.hid hno
  clear he hno hn1 hm1 hq1 hn2 hm2 hq2 hn3 hm3 hq3 hn4 hm4 hq4
  have s0 := (((((Sf.start w).put [.int .i64 (f 0), .int .i64 (f 1), .int .i64 (f 2), .int .i64 (f 3), .int .i64 (f 4), .int .i64 (f 5), .int .i64 s1, .slice a1 n1 c1, .int .i64 t1, .slice b1 m1 d1] 30).put [.int .i64 (g 0), .int .i64 (g 1), .int .i64 (g 2), .int .i64 (g 3), .int .i64 (g 4), .int .i64 (g 5), .int .i64 s2, .slice a2 n2 c2, .int .i64 t2, .slice b2 m2 d2] 30).put [.int .i64 s3, .slice a3 n3 c3, .int .i64 t3, .slice b3 m3 d3] 28).put [.int .i64 s4, .slice a4 n4 c4, .int .i64 t4, .slice b4 m4 d4] 28)
  try simp only [World.size_alloc] at s0
  have S0 := Lib.hid s0
  clear s0
  go_enter Tryz.func5, Tryz.ntmps5
  go_wp2_with fail
  refine (sane_t _ (HE.out.below S0.out.below)).mono ?_
  rintro e w1 ⟨rfl, hb⟩
  have R1 := Lib.hid (S0.out.later hb)
  clear hb
  obtain ⟨q1, q2, q3, q4, q5, q6, q7, q8, q9, q10⟩ := Fb.cells10 (R1.out.box (w.heap.size, 30, [.int .i64 (f 0), .int .i64 (f 1), .int .i64 (f 2), .int .i64 (f 3), .int .i64 (f 4), .int .i64 (f 5), .int .i64 s1, .slice a1 n1 c1, .int .i64 t1, .slice b1 m1 d1]) mq3)
  go_wp2_with fail
  clear q1 q2 q3 q4 q5 q6 q7 q8 q9 q10
  refine (u9few_len (f := f) (s := s1) (t := t1) (a := a1) (b := b1) (c := c1) (d := d1) MN1.out MM1.out (k := q1) KW1.out).mono ?_
  rintro e w2 ⟨rfl, hb⟩
  have R2 := Lib.hid (R1.out.later hb)
  clear hb
  cases q1
  case false =>
    go_wp2_with fail
    go_ret
    exact ⟨rfl, R2.out.below⟩
  obtain ⟨q11, q12, q13, q14, q15, q16, q17, q18, q19, q20⟩ := Fb.cells10 (R2.out.box (w.heap.size + 1, 30, [.int .i64 (g 0), .int .i64 (g 1), .int .i64 (g 2), .int .i64 (g 3), .int .i64 (g 4), .int .i64 (g 5), .int .i64 s2, .slice a2 n2 c2, .int .i64 t2, .slice b2 m2 d2]) mq2)
  go_wp2_with fail
  clear q11 q12 q13 q14 q15 q16 q17 q18 q19 q20
  refine (u9few_len (f := g) (s := s2) (t := t2) (a := a2) (b := b2) (c := c2) (d := d2) MN2.out MM2.out (k := q2) KW2.out).mono ?_
  rintro e w3 ⟨rfl, hb⟩
  have R3 := Lib.hid (R2.out.later hb)
  clear hb
  cases q2
  case false =>
    go_wp2_with fail
    go_ret
    exact ⟨rfl, R3.out.below⟩
  obtain ⟨q21, q22, q23, q24⟩ := Fb.cells4 (R3.out.box (w.heap.size + 1 + 1, 28, [.int .i64 s3, .slice a3 n3 c3, .int .i64 t3, .slice b3 m3 d3]) mq1)
  go_wp2_with fail
  clear q21 q22 q23 q24
  refine (ffew_len s3 a3 n3 c3 t3 b3 m3 d3 4 _ MN3.out MM3.out q3 KW3.out).mono ?_
  rintro e w4 ⟨rfl, hb⟩
  have R4 := Lib.hid (R3.out.later hb)
  clear hb
  cases q3
  case false =>
    go_wp2_with fail
    go_ret
    exact ⟨rfl, R4.out.below⟩
  obtain ⟨q25, q26, q27, q28⟩ := Fb.cells4 (R4.out.box (w.heap.size + 1 + 1 + 1, 28, [.int .i64 s4, .slice a4 n4 c4, .int .i64 t4, .slice b4 m4 d4]) mq0)
  go_wp2_with fail
  clear q25 q26 q27 q28
  refine (ffew_len s4 a4 n4 c4 t4 b4 m4 d4 4 _ MN4.out MM4.out q4 KW4.out).mono ?_
  rintro e w5 ⟨rfl, hb⟩
  have R5 := Lib.hid (R4.out.later hb)
  clear hb
  cases q4
  case false =>
    go_wp2_with fail
    go_ret
    exact ⟨rfl, R5.out.below⟩
  exact absurd HNO.out (by decide)

set_option maxHeartbeats 8000000 in
theorem group_bad {w : World} {f g : Nat → Int} {s1 t1 : Int} {a1 b1 : Option Addr} {n1 c1 m1 d1 : Nat} {l1 k1 : List Int} {s2 t2 : Int} {a2 b2 : Option Addr} {n2 c2 m2 d2 : Nat} {l2 k2 : List Int} {s3 t3 : Int} {a3 b3 : Option Addr} {n3 c3 m3 d3 : Nat} {l3 k3 : List Int} {s4 t4 : Int} {a4 b4 : Option Addr} {n4 c4 m4 d4 : Nat} {l4 k4 : List Int}  (he : EnvU w) (hl1 : Ints w (.slice a1 n1 c1) l1) (hk1 : Ints w (.slice b1 m1 d1) k1) (hn1 : n1 ≤ 12) (hm1 : m1 ≤ 12) (el1 : l1.length = n1) (ek1 : k1.length = m1) (hl2 : Ints w (.slice a2 n2 c2) l2) (hk2 : Ints w (.slice b2 m2 d2) k2) (hn2 : n2 ≤ 12) (hm2 : m2 ≤ 12) (el2 : l2.length = n2) (ek2 : k2.length = m2) (hl3 : Ints w (.slice a3 n3 c3) l3) (hk3 : Ints w (.slice b3 m3 d3) k3) (hn3 : n3 ≤ 4) (hm3 : m3 ≤ 4) (el3 : l3.length = n3) (ek3 : k3.length = m3) (hl4 : Ints w (.slice a4 n4 c4) l4) (hk4 : Ints w (.slice b4 m4 d4) k4) (hn4 : n4 ≤ 4) (hm4 : m4 ≤ 4) (el4 : l4.length = n4) (ek4 : k4.length = m4) (hno : (uR f s1 l1 t1 k1 && (uR g s2 l2 t2 k2 && (fRightB s3 l3 t3 k3 && fRightB s4 l4 t4 k4))) = false) :
    Calls Tryz.prog 5 #[.agg #[.int .i64 (f 0), .int .i64 (f 1), .int .i64 (f 2), .int .i64 (f 3), .int .i64 (f 4), .int .i64 (f 5), .int .i64 s1, .slice a1 n1 c1, .int .i64 t1, .slice b1 m1 d1], .agg #[.int .i64 (g 0), .int .i64 (g 1), .int .i64 (g 2), .int .i64 (g 3), .int .i64 (g 4), .int .i64 (g 5), .int .i64 s2, .slice a2 n2 c2, .int .i64 t2, .slice b2 m2 d2], .agg #[.int .i64 s3, .slice a3 n3 c3, .int .i64 t3, .slice b3 m3 d3], .agg #[.int .i64 s4, .slice a4 n4 c4, .int .i64 t4, .slice b4 m4 d4]] w fun e w' => e = .returned (.bool true) ∧ RowKit.Below w.heap.size w w' := by
  have HE := Lib.hid he
  have MN1 : Hid (n1 ≤ 9223372036854775807) := Lib.hid (by omega)
  have MM1 : Hid (m1 ≤ 9223372036854775807) := Lib.hid (by omega)
  have KW1 : Hid ((decide ((n1 : Int) ≤ 12) && decide ((m1 : Int) ≤ 12)) = true) := Lib.hid (by simp; omega)
  have LL1 : Hid (l1.length ≤ 1000) := Lib.hid (by omega)
  have LK1 : Hid (k1.length ≤ 1000) := Lib.hid (by omega)
  obtain ⟨q1, hq1⟩ : ∃ q, uR f s1 l1 t1 k1 = q := ⟨_, rfl⟩
  have RW1 := Lib.hid hq1
  have MN2 : Hid (n2 ≤ 9223372036854775807) := Lib.hid (by omega)
  have MM2 : Hid (m2 ≤ 9223372036854775807) := Lib.hid (by omega)
  have KW2 : Hid ((decide ((n2 : Int) ≤ 12) && decide ((m2 : Int) ≤ 12)) = true) := Lib.hid (by simp; omega)
  have LL2 : Hid (l2.length ≤ 1000) := Lib.hid (by omega)
  have LK2 : Hid (k2.length ≤ 1000) := Lib.hid (by omega)
  obtain ⟨q2, hq2⟩ : ∃ q, uR g s2 l2 t2 k2 = q := ⟨_, rfl⟩
  have RW2 := Lib.hid hq2
  have MN3 : Hid (n3 ≤ 9223372036854775807) := Lib.hid (by omega)
  have MM3 : Hid (m3 ≤ 9223372036854775807) := Lib.hid (by omega)
  have KW3 : Hid ((decide ((n3 : Int) ≤ 4) && decide ((m3 : Int) ≤ 4)) = true) := Lib.hid (by simp; omega)
  have LL3 : Hid (l3.length ≤ 1000) := Lib.hid (by omega)
  have LK3 : Hid (k3.length ≤ 1000) := Lib.hid (by omega)
  obtain ⟨q3, hq3⟩ : ∃ q, fRightB s3 l3 t3 k3 = q := ⟨_, rfl⟩
  have RW3 := Lib.hid hq3
  have MN4 : Hid (n4 ≤ 9223372036854775807) := Lib.hid (by omega)
  have MM4 : Hid (m4 ≤ 9223372036854775807) := Lib.hid (by omega)
  have KW4 : Hid ((decide ((n4 : Int) ≤ 4) && decide ((m4 : Int) ≤ 4)) = true) := Lib.hid (by simp; omega)
  have LL4 : Hid (l4.length ≤ 1000) := Lib.hid (by omega)
  have LK4 : Hid (k4.length ≤ 1000) := Lib.hid (by omega)
  obtain ⟨q4, hq4⟩ : ∃ q, fRightB s4 l4 t4 k4 = q := ⟨_, rfl⟩
  have RW4 := Lib.hid hq4
  rw [hq1, hq2, hq3, hq4] at hno
  have HNO := Lib.hid hno
  have s0 := (((((((((((((Sf.start w).arg hk1).arg hl1).arg hk2).arg hl2).arg hk3).arg hl3).arg hk4).arg hl4).put [.int .i64 (f 0), .int .i64 (f 1), .int .i64 (f 2), .int .i64 (f 3), .int .i64 (f 4), .int .i64 (f 5), .int .i64 s1, .slice a1 n1 c1, .int .i64 t1, .slice b1 m1 d1] 30).put [.int .i64 (g 0), .int .i64 (g 1), .int .i64 (g 2), .int .i64 (g 3), .int .i64 (g 4), .int .i64 (g 5), .int .i64 s2, .slice a2 n2 c2, .int .i64 t2, .slice b2 m2 d2] 30).put [.int .i64 s3, .slice a3 n3 c3, .int .i64 t3, .slice b3 m3 d3] 28).put [.int .i64 s4, .slice a4 n4 c4, .int .i64 t4, .slice b4 m4 d4] 28)
  try simp only [World.size_alloc] at s0
  have S0 := Lib.hid s0
  clear s0
  clear he hno hl1 hk1 el1 ek1 hn1 hm1 hq1 hl2 hk2 el2 ek2 hn2 hm2 hq2 hl3 hk3 el3 ek3 hn3 hm3 hq3 hl4 hk4 el4 ek4 hn4 hm4 hq4
  go_enter Tryz.func5, Tryz.ntmps5
  go_wp2_with fail
  refine (sane_t _ (HE.out.below S0.out.below)).mono ?_
  rintro e w1 ⟨rfl, hb⟩
  have R1 := Lib.hid (S0.out.later hb)
  clear hb
  obtain ⟨q1, q2, q3, q4, q5, q6, q7, q8, q9, q10⟩ := Fb.cells10 (R1.out.box (w.heap.size, 30, [.int .i64 (f 0), .int .i64 (f 1), .int .i64 (f 2), .int .i64 (f 3), .int .i64 (f 4), .int .i64 (f 5), .int .i64 s1, .slice a1 n1 c1, .int .i64 t1, .slice b1 m1 d1]) mq3)
  go_wp2_with fail
  clear q1 q2 q3 q4 q5 q6 q7 q8 q9 q10
  refine (u9few_len (f := f) (s := s1) (t := t1) (a := a1) (b := b1) (c := c1) (d := d1) MN1.out MM1.out (k := true) KW1.out).mono ?_
  rintro e w2 ⟨rfl, hb⟩
  have R2 := Lib.hid (R1.out.later hb)
  clear hb
  obtain ⟨q11, q12, q13, q14, q15, q16, q17, q18, q19, q20⟩ := Fb.cells10 (R2.out.box (w.heap.size + 1, 30, [.int .i64 (g 0), .int .i64 (g 1), .int .i64 (g 2), .int .i64 (g 3), .int .i64 (g 4), .int .i64 (g 5), .int .i64 s2, .slice a2 n2 c2, .int .i64 t2, .slice b2 m2 d2]) mq2)
  go_wp2_with fail
  clear q11 q12 q13 q14 q15 q16 q17 q18 q19 q20
  refine (u9few_len (f := g) (s := s2) (t := t2) (a := a2) (b := b2) (c := c2) (d := d2) MN2.out MM2.out (k := true) KW2.out).mono ?_
  rintro e w3 ⟨rfl, hb⟩
  have R3 := Lib.hid (R2.out.later hb)
  clear hb
  obtain ⟨q21, q22, q23, q24⟩ := Fb.cells4 (R3.out.box (w.heap.size + 1 + 1, 28, [.int .i64 s3, .slice a3 n3 c3, .int .i64 t3, .slice b3 m3 d3]) mq1)
  go_wp2_with fail
  clear q21 q22 q23 q24
  refine (ffew_len s3 a3 n3 c3 t3 b3 m3 d3 4 _ MN3.out MM3.out true KW3.out).mono ?_
  rintro e w4 ⟨rfl, hb⟩
  have R4 := Lib.hid (R3.out.later hb)
  clear hb
  obtain ⟨q25, q26, q27, q28⟩ := Fb.cells4 (R4.out.box (w.heap.size + 1 + 1 + 1, 28, [.int .i64 s4, .slice a4 n4 c4, .int .i64 t4, .slice b4 m4 d4]) mq0)
  go_wp2_with fail
  clear q25 q26 q27 q28
  refine (ffew_len s4 a4 n4 c4 t4 b4 m4 d4 4 _ MN4.out MM4.out true KW4.out).mono ?_
  rintro e w5 ⟨rfl, hb⟩
  have R5 := Lib.hid (R4.out.later hb)
  clear hb
  obtain ⟨q29, q30, q31, q32, q33, q34, q35, q36, q37, q38⟩ := Fb.cells10 (R5.out.box (w.heap.size, 30, [.int .i64 (f 0), .int .i64 (f 1), .int .i64 (f 2), .int .i64 (f 3), .int .i64 (f 4), .int .i64 (f 5), .int .i64 s1, .slice a1 n1 c1, .int .i64 t1, .slice b1 m1 d1]) mq3)
  go_wp2_with fail
  clear q29 q30 q31 q32 q33 q34 q35 q36 q37 q38
  refine (uright_raw (R5.out.ints (.slice a1 n1 c1, l1) mq6) (R5.out.ints (.slice b1 m1 d1, k1) mq7) LL1.out LK1.out RW1.out).mono ?_
  rintro e w6 ⟨rfl, hb⟩
  have R6 := Lib.hid (R5.out.later hb)
  clear hb
  cases q1
  case false =>
    go_wp2_with fail
    go_ret
    exact ⟨rfl, R6.out.below⟩
  obtain ⟨q39, q40, q41, q42, q43, q44, q45, q46, q47, q48⟩ := Fb.cells10 (R6.out.box (w.heap.size + 1, 30, [.int .i64 (g 0), .int .i64 (g 1), .int .i64 (g 2), .int .i64 (g 3), .int .i64 (g 4), .int .i64 (g 5), .int .i64 s2, .slice a2 n2 c2, .int .i64 t2, .slice b2 m2 d2]) mq2)
  go_wp2_with fail
  clear q39 q40 q41 q42 q43 q44 q45 q46 q47 q48
  refine (uright_raw (R6.out.ints (.slice a2 n2 c2, l2) mq4) (R6.out.ints (.slice b2 m2 d2, k2) mq5) LL2.out LK2.out RW2.out).mono ?_
  rintro e w7 ⟨rfl, hb⟩
  have R7 := Lib.hid (R6.out.later hb)
  clear hb
  cases q2
  case false =>
    go_wp2_with fail
    go_ret
    exact ⟨rfl, R7.out.below⟩
  obtain ⟨q49, q50, q51, q52⟩ := Fb.cells4 (R7.out.box (w.heap.size + 1 + 1, 28, [.int .i64 s3, .slice a3 n3 c3, .int .i64 t3, .slice b3 m3 d3]) mq1)
  go_wp2_with fail
  clear q49 q50 q51 q52
  refine (fright_any s3 a3 n3 c3 l3 t3 b3 m3 d3 k3 _ (R7.out.ints (.slice a3 n3 c3, l3) mq2) (R7.out.ints (.slice b3 m3 d3, k3) mq3) (Nat.le_trans LL3.out (by decide)) (Nat.le_trans LK3.out (by decide)) _ RW3.out).mono ?_
  rintro e w8 ⟨rfl, hb⟩
  have R8 := Lib.hid (R7.out.later hb)
  clear hb
  cases q3
  case false =>
    go_wp2_with fail
    go_ret
    exact ⟨rfl, R8.out.below⟩
  obtain ⟨q53, q54, q55, q56⟩ := Fb.cells4 (R8.out.box (w.heap.size + 1 + 1 + 1, 28, [.int .i64 s4, .slice a4 n4 c4, .int .i64 t4, .slice b4 m4 d4]) mq0)
  go_wp2_with fail
  clear q53 q54 q55 q56
  refine (fright_any s4 a4 n4 c4 l4 t4 b4 m4 d4 k4 _ (R8.out.ints (.slice a4 n4 c4, l4) mq0) (R8.out.ints (.slice b4 m4 d4, k4) mq1) (Nat.le_trans LL4.out (by decide)) (Nat.le_trans LK4.out (by decide)) _ RW4.out).mono ?_
  rintro e w9 ⟨rfl, hb⟩
  have R9 := Lib.hid (R8.out.later hb)
  clear hb
  cases q4
  case false =>
    go_wp2_with fail
    go_ret
    exact ⟨rfl, R9.out.below⟩
  exact absurd HNO.out (by decide)

set_option maxHeartbeats 16000000 in
theorem groupG_good {w : World} {f g : Nat → Int} {s1 : Int} {a1 b1 : Option Addr} {n1 c1 m1 d1 : Nat} {x : Rat} {s2 : Int} {a2 b2 : Option Addr} {n2 c2 m2 d2 : Nat} {y : Rat} {s3 : Int} {a3 b3 : Option Addr} {n3 c3 m3 d3 : Nat} {v : Rat} {s4 : Int} {a4 b4 : Option Addr} {n4 c4 m4 d4 : Nat} {z : Rat}  (he : EnvU w) (h1 : Fr w s1 (.slice a1 n1 c1) (.slice b1 m1 d1) x) (hz1 : FSz 12 x) (hn1 : n1 ≤ 12) (hm1 : m1 ≤ 12) (hf1 : ok f = true) (hp1 : decide (0 < x.num.sign) = true) (h2 : Fr w s2 (.slice a2 n2 c2) (.slice b2 m2 d2) y) (hz2 : FSz 12 y) (hn2 : n2 ≤ 12) (hm2 : m2 ≤ 12) (hf2 : ok g = true) (hp2 : decide (0 < y.num.sign) = true) (h3 : Fr w s3 (.slice a3 n3 c3) (.slice b3 m3 d3) v) (hz3 : FSz 4 v) (hn3 : n3 ≤ 4) (hm3 : m3 ≤ 4) (h4 : Fr w s4 (.slice a4 n4 c4) (.slice b4 m4 d4) z) (hz4 : FSz 4 z) (hn4 : n4 ≤ 4) (hm4 : m4 ≤ 4) (hs : ok (sumF f g) = true) :
    Calls Tryz.prog 5 #[.agg #[.int .i64 (f 0), .int .i64 (f 1), .int .i64 (f 2), .int .i64 (f 3), .int .i64 (f 4), .int .i64 (f 5), .int .i64 s1, .slice a1 n1 c1, .int .i64 1, .slice b1 m1 d1], .agg #[.int .i64 (g 0), .int .i64 (g 1), .int .i64 (g 2), .int .i64 (g 3), .int .i64 (g 4), .int .i64 (g 5), .int .i64 s2, .slice a2 n2 c2, .int .i64 1, .slice b2 m2 d2], .agg #[.int .i64 s3, .slice a3 n3 c3, .int .i64 1, .slice b3 m3 d3], .agg #[.int .i64 s4, .slice a4 n4 c4, .int .i64 1, .slice b4 m4 d4]] w fun e w' => e = .returned (.bool true) ∧ RowKit.Below w.heap.size w w' := by
  have HE := Lib.hid he
  have E1 := Lib.hid h1.1.1
  have Z1 := Lib.hid hz1
  have L1 := Lib.hid (hz1.mono (j := 1000))
  have MN1 : Hid (n1 ≤ 9223372036854775807) := Lib.hid (by omega)
  have MM1 : Hid (m1 ≤ 9223372036854775807) := Lib.hid (by omega)
  have KW1 : Hid ((decide ((n1 : Int) ≤ 12) && decide ((m1 : Int) ≤ 12)) = true) := Lib.hid (by simp; omega)
  have O1 := Lib.hid hf1
  have P1_ := Lib.hid hp1
  have NZ1 := Lib.hid (sign_ne hp1)
  have E2 := Lib.hid h2.1.1
  have Z2 := Lib.hid hz2
  have L2 := Lib.hid (hz2.mono (j := 1000))
  have MN2 : Hid (n2 ≤ 9223372036854775807) := Lib.hid (by omega)
  have MM2 : Hid (m2 ≤ 9223372036854775807) := Lib.hid (by omega)
  have KW2 : Hid ((decide ((n2 : Int) ≤ 12) && decide ((m2 : Int) ≤ 12)) = true) := Lib.hid (by simp; omega)
  have O2 := Lib.hid hf2
  have P2_ := Lib.hid hp2
  have NZ2 := Lib.hid (sign_ne hp2)
  have E3 := Lib.hid h3.1.1
  have Z3 := Lib.hid hz3
  have L3 := Lib.hid (hz3.mono (j := 1000))
  have MN3 : Hid (n3 ≤ 9223372036854775807) := Lib.hid (by omega)
  have MM3 : Hid (m3 ≤ 9223372036854775807) := Lib.hid (by omega)
  have KW3 : Hid ((decide ((n3 : Int) ≤ 4) && decide ((m3 : Int) ≤ 4)) = true) := Lib.hid (by simp; omega)
  have E4 := Lib.hid h4.1.1
  have Z4 := Lib.hid hz4
  have L4 := Lib.hid (hz4.mono (j := 1000))
  have MN4 : Hid (n4 ≤ 9223372036854775807) := Lib.hid (by omega)
  have MM4 : Hid (m4 ≤ 9223372036854775807) := Lib.hid (by omega)
  have KW4 : Hid ((decide ((n4 : Int) ≤ 4) && decide ((m4 : Int) ≤ 4)) = true) := Lib.hid (by simp; omega)
  obtain ⟨C, hC⟩ : ∃ C, x * y = C := ⟨_, rfl⟩
  have HC := Lib.hid hC
  have HC2 : Hid (y * x = C) := Lib.hid (by rw [Rat.mul_comm]; exact hC)
  have HD1 := Lib.hid (mulR_is hf1 hf2 hs)
  have HD2 : Hid (mulR g f = DE (sumF f g) 0) := Lib.hid (by rw [sumF_comm]; exact mulR_is hf2 hf1 (by rw [sumF_comm]; exact hs))
  have HD3 := Lib.hid (divR_sum hf1 hf2 hs)
  have OS := Lib.hid hs
  have PC : Hid (decide (0 < C.num.sign) = true) := Lib.hid (by rw [← hC]; exact pos_mul hp1 hp2)
  obtain ⟨G, hG⟩ : ∃ G, sumF f g = G := ⟨_, rfl⟩
  rw [hG] at HD1 HD2 HD3 OS
  obtain ⟨V, hV⟩ : ∃ V, v * x = V := ⟨_, rfl⟩
  obtain ⟨W, hW⟩ : ∃ W, z * y = W := ⟨_, rfl⟩
  obtain ⟨NM, hNM⟩ : ∃ NM, v * z = NM := ⟨_, rfl⟩
  obtain ⟨VW, hVW⟩ : ∃ VW, V * W = VW := ⟨_, rfl⟩
  have HX : Hid (NM * C = VW) := Lib.hid (by rw [← hVW, ← hV, ← hW, ← hNM, ← hC]; grind)
  have HB : Hid (C / y = x) := Lib.hid (by rw [← hC]; exact mul_div_back x NZ2.out)
  have ZC : FSz 24 C := by rw [← hC]; exact hz1.mul hz2 rfl
  have ZV : FSz 16 V := by rw [← hV]; exact hz3.mul hz1 rfl
  have ZW : FSz 16 W := by rw [← hW]; exact hz4.mul hz2 rfl
  have ZN : FSz 8 NM := by rw [← hNM]; exact hz3.mul hz4 rfl
  have HV := Lib.hid hV
  have HW := Lib.hid hW
  have HNM := Lib.hid hNM
  have HVW := Lib.hid hVW
  have LC := Lib.hid (ZC.mono (j := 1000))
  have LV := Lib.hid (ZV.mono (j := 1000))
  have LW := Lib.hid (ZW.mono (j := 1000))
  have LN := Lib.hid (ZN.mono (j := 1000))
  have heq := eq_dim G G
  rw [eqB_refl] at heq
  unfold cl at heq
  clear hC hs hG hV hW hNM hVW ZC ZV ZW ZN
  have s0 := (((((((((((((Sf.start w).arg h1.2.2).arg h1.1.2).arg h2.2.2).arg h2.1.2).arg h3.2.2).arg h3.1.2).arg h4.2.2).arg h4.1.2).put [.int .i64 (f 0), .int .i64 (f 1), .int .i64 (f 2), .int .i64 (f 3), .int .i64 (f 4), .int .i64 (f 5), .int .i64 s1, .slice a1 n1 c1, .int .i64 1, .slice b1 m1 d1] 30).put [.int .i64 (g 0), .int .i64 (g 1), .int .i64 (g 2), .int .i64 (g 3), .int .i64 (g 4), .int .i64 (g 5), .int .i64 s2, .slice a2 n2 c2, .int .i64 1, .slice b2 m2 d2] 30).put [.int .i64 s3, .slice a3 n3 c3, .int .i64 1, .slice b3 m3 d3] 28).put [.int .i64 s4, .slice a4 n4 c4, .int .i64 1, .slice b4 m4 d4] 28)
  try simp only [World.size_alloc] at s0
  have S0 := Lib.hid s0
  clear s0
  clear he h1 hz1 hn1 hm1 hf1 hp1 h2 hz2 hn2 hm2 hf2 hp2 h3 hz3 hn3 hm3 h4 hz4 hn4 hm4
  go_enter Tryz.func5, Tryz.ntmps5
  go_wp2_with fail
  refine (sane_t _ (HE.out.below S0.out.below)).mono ?_
  rintro e w1 ⟨rfl, hb⟩
  have R1 := Lib.hid (S0.out.later hb)
  clear hb
  obtain ⟨q1, q2, q3, q4, q5, q6, q7, q8, q9, q10⟩ := Fb.cells10 (R1.out.box (w.heap.size, 30, [.int .i64 (f 0), .int .i64 (f 1), .int .i64 (f 2), .int .i64 (f 3), .int .i64 (f 4), .int .i64 (f 5), .int .i64 s1, .slice a1 n1 c1, .int .i64 1, .slice b1 m1 d1]) mq3)
  go_wp2_with fail
  clear q1 q2 q3 q4 q5 q6 q7 q8 q9 q10
  refine (u9few_len (f := f) (s := s1) (t := 1) (a := a1) (b := b1) (c := c1) (d := d1) MN1.out MM1.out (k := true) KW1.out).mono ?_
  rintro e w2 ⟨rfl, hb⟩
  have R2 := Lib.hid (R1.out.later hb)
  clear hb
  obtain ⟨q11, q12, q13, q14, q15, q16, q17, q18, q19, q20⟩ := Fb.cells10 (R2.out.box (w.heap.size + 1, 30, [.int .i64 (g 0), .int .i64 (g 1), .int .i64 (g 2), .int .i64 (g 3), .int .i64 (g 4), .int .i64 (g 5), .int .i64 s2, .slice a2 n2 c2, .int .i64 1, .slice b2 m2 d2]) mq2)
  go_wp2_with fail
  clear q11 q12 q13 q14 q15 q16 q17 q18 q19 q20
  refine (u9few_len (f := g) (s := s2) (t := 1) (a := a2) (b := b2) (c := c2) (d := d2) MN2.out MM2.out (k := true) KW2.out).mono ?_
  rintro e w3 ⟨rfl, hb⟩
  have R3 := Lib.hid (R2.out.later hb)
  clear hb
  obtain ⟨q21, q22, q23, q24⟩ := Fb.cells4 (R3.out.box (w.heap.size + 1 + 1, 28, [.int .i64 s3, .slice a3 n3 c3, .int .i64 1, .slice b3 m3 d3]) mq1)
  go_wp2_with fail
  clear q21 q22 q23 q24
  refine (ffew_len s3 a3 n3 c3 1 b3 m3 d3 4 _ MN3.out MM3.out true KW3.out).mono ?_
  rintro e w4 ⟨rfl, hb⟩
  have R4 := Lib.hid (R3.out.later hb)
  clear hb
  obtain ⟨q25, q26, q27, q28⟩ := Fb.cells4 (R4.out.box (w.heap.size + 1 + 1 + 1, 28, [.int .i64 s4, .slice a4 n4 c4, .int .i64 1, .slice b4 m4 d4]) mq0)
  go_wp2_with fail
  clear q25 q26 q27 q28
  refine (ffew_len s4 a4 n4 c4 1 b4 m4 d4 4 _ MN4.out MM4.out true KW4.out).mono ?_
  rintro e w5 ⟨rfl, hb⟩
  have R5 := Lib.hid (R4.out.later hb)
  clear hb
  obtain ⟨q29, q30, q31, q32, q33, q34, q35, q36, q37, q38⟩ := Fb.cells10 (R5.out.box (w.heap.size, 30, [.int .i64 (f 0), .int .i64 (f 1), .int .i64 (f 2), .int .i64 (f 3), .int .i64 (f 4), .int .i64 (f 5), .int .i64 s1, .slice a1 n1 c1, .int .i64 1, .slice b1 m1 d1]) mq3)
  go_wp2_with fail
  clear q29 q30 q31 q32 q33 q34 q35 q36 q37 q38
  refine (uright_v O1.out (R5.out.fr (v := .slice a1 n1 c1) (u := .slice b1 m1 d1) (r := x) mq6 mq7 E1.out) L1.out P1_.out).mono ?_
  rintro e w6 ⟨rfl, hb⟩
  have R6 := Lib.hid (R5.out.later hb)
  clear hb
  obtain ⟨q39, q40, q41, q42, q43, q44, q45, q46, q47, q48⟩ := Fb.cells10 (R6.out.box (w.heap.size + 1, 30, [.int .i64 (g 0), .int .i64 (g 1), .int .i64 (g 2), .int .i64 (g 3), .int .i64 (g 4), .int .i64 (g 5), .int .i64 s2, .slice a2 n2 c2, .int .i64 1, .slice b2 m2 d2]) mq2)
  go_wp2_with fail
  clear q39 q40 q41 q42 q43 q44 q45 q46 q47 q48
  refine (uright_v O2.out (R6.out.fr (v := .slice a2 n2 c2) (u := .slice b2 m2 d2) (r := y) mq4 mq5 E2.out) L2.out P2_.out).mono ?_
  rintro e w7 ⟨rfl, hb⟩
  have R7 := Lib.hid (R6.out.later hb)
  clear hb
  obtain ⟨q49, q50, q51, q52⟩ := Fb.cells4 (R7.out.box (w.heap.size + 1 + 1, 28, [.int .i64 s3, .slice a3 n3 c3, .int .i64 1, .slice b3 m3 d3]) mq1)
  go_wp2_with fail
  clear q49 q50 q51 q52
  refine (fright_k (R7.out.fr (v := .slice a3 n3 c3) (u := .slice b3 m3 d3) (r := v) mq2 mq3 E3.out) L3.out).mono ?_
  rintro e w8 ⟨rfl, hb⟩
  have R8 := Lib.hid (R7.out.later hb)
  clear hb
  obtain ⟨q53, q54, q55, q56⟩ := Fb.cells4 (R8.out.box (w.heap.size + 1 + 1 + 1, 28, [.int .i64 s4, .slice a4 n4 c4, .int .i64 1, .slice b4 m4 d4]) mq0)
  go_wp2_with fail
  clear q53 q54 q55 q56
  refine (fright_k (R8.out.fr (v := .slice a4 n4 c4) (u := .slice b4 m4 d4) (r := z) mq0 mq1 E4.out) L4.out).mono ?_
  rintro e w9 ⟨rfl, hb⟩
  have R9 := Lib.hid (R8.out.later hb)
  clear hb
  obtain ⟨q57, q58, q59, q60, q61, q62, q63, q64, q65, q66⟩ := Fb.cells10 (R9.out.box (w.heap.size, 30, [.int .i64 (f 0), .int .i64 (f 1), .int .i64 (f 2), .int .i64 (f 3), .int .i64 (f 4), .int .i64 (f 5), .int .i64 s1, .slice a1 n1 c1, .int .i64 1, .slice b1 m1 d1]) mq3)
  obtain ⟨q67, q68, q69, q70, q71, q72, q73, q74, q75, q76⟩ := Fb.cells10 (R9.out.box (w.heap.size + 1, 30, [.int .i64 (g 0), .int .i64 (g 1), .int .i64 (g 2), .int .i64 (g 3), .int .i64 (g 4), .int .i64 (g 5), .int .i64 s2, .slice a2 n2 c2, .int .i64 1, .slice b2 m2 d2]) mq2)
  go_wp2_with fail
  clear q57 q58 q59 q60 q61 q62 q63 q64 q65 q66 q67 q68 q69 q70 q71 q72 q73 q74 q75 q76
  refine (umul_k (V := G) (R9.out.fr (v := .slice a1 n1 c1) (u := .slice b1 m1 d1) (r := x) mq6 mq7 E1.out) (R9.out.fr (v := .slice a2 n2 c2) (u := .slice b2 m2 d2) (r := y) mq4 mq5 E2.out) L1.out L2.out O1.out O2.out P1_.out P2_.out HC.out HD1.out).mono ?_
  rintro e w10 ⟨sx10, ax10, nx10, cx10, bx10, mx10, dx10, rfl, hr, hb, hf, hg⟩
  have E10 := Lib.hid hr.1.1
  have R10 := Lib.hid (R9.out.ret2 hb hr.1.2 hf hr.2.2 hg)
  have FF10 := Lib.hid (hf.mono R9.out.below.size)
  have FG10 := Lib.hid (hg.mono R9.out.below.size)
  clear hr hb hf hg
  have P77 := Lib.hid (R10.out.put [.int .i64 0, .int .i64 0, .int .i64 0, .int .i64 0, .int .i64 0, .int .i64 0, .int .i64 0, .slice none 0 0, .int .i64 0, .slice none 0 0] 30)
  have Q77 := Lib.hid (Sf.row (pre := []) P77.out [.int .i64 (G 0), .int .i64 (G 1), .int .i64 (G 2), .int .i64 (G 3), .int .i64 (G 4), .int .i64 (G 5), .int .i64 sx10, .slice ax10 nx10 cx10, .int .i64 1, .slice bx10 mx10 dx10])
  obtain ⟨q78, q79, q80, q81, q82, q83, q84, q85, q86, q87⟩ := Fb.cells10 (Q77.out.box (w.heap.size, 30, [.int .i64 (f 0), .int .i64 (f 1), .int .i64 (f 2), .int .i64 (f 3), .int .i64 (f 4), .int .i64 (f 5), .int .i64 s1, .slice a1 n1 c1, .int .i64 1, .slice b1 m1 d1]) mq4)
  obtain ⟨q88, q89, q90, q91, q92, q93, q94, q95, q96, q97⟩ := Fb.cells10 (Q77.out.box (w.heap.size + 1, 30, [.int .i64 (g 0), .int .i64 (g 1), .int .i64 (g 2), .int .i64 (g 3), .int .i64 (g 4), .int .i64 (g 5), .int .i64 s2, .slice a2 n2 c2, .int .i64 1, .slice b2 m2 d2]) mq3)
  go_wp2_with (first | refine wpList_store_row rfl _ _ _ rfl _ #[.int .i64 (G 0), .int .i64 (G 1), .int .i64 (G 2), .int .i64 (G 3), .int .i64 (G 4), .int .i64 (G 5), .int .i64 sx10, .slice ax10 nx10 cx10, .int .i64 1, .slice bx10 mx10 dx10] rfl rfl _ _ (P77.out.box _ List.mem_cons_self) (by kernel_rfl) rfl (by simp [Value.oneCell']) ?_)
  clear q78 q79 q80 q81 q82 q83 q84 q85 q86 q87 q88 q89 q90 q91 q92 q93 q94 q95 q96 q97
  refine (umul_k (V := G) (Q77.out.fr (v := .slice a2 n2 c2) (u := .slice b2 m2 d2) (r := y) mq6 mq7 E2.out) (Q77.out.fr (v := .slice a1 n1 c1) (u := .slice b1 m1 d1) (r := x) mq8 mq9 E1.out) L2.out L1.out O2.out O1.out P2_.out P1_.out HC2.out HD2.out).mono ?_
  rintro e w11 ⟨sx11, ax11, nx11, cx11, bx11, mx11, dx11, rfl, hr, hb, hf, hg⟩
  have E11 := Lib.hid hr.1.1
  have R11 := Lib.hid (Q77.out.ret2 hb hr.1.2 hf hr.2.2 hg)
  have FF11 := Lib.hid (hf.mono Q77.out.below.size)
  have FG11 := Lib.hid (hg.mono Q77.out.below.size)
  clear hr hb hf hg
  have P98 := Lib.hid (R11.out.put [.int .i64 0, .int .i64 0, .int .i64 0, .int .i64 0, .int .i64 0, .int .i64 0, .int .i64 0, .slice none 0 0, .int .i64 0, .slice none 0 0] 30)
  have Q98 := Lib.hid (Sf.row (pre := []) P98.out [.int .i64 (G 0), .int .i64 (G 1), .int .i64 (G 2), .int .i64 (G 3), .int .i64 (G 4), .int .i64 (G 5), .int .i64 sx11, .slice ax11 nx11 cx11, .int .i64 1, .slice bx11 mx11 dx11])
  obtain ⟨q99, q100, q101, q102, q103, q104, q105, q106, q107, q108⟩ := Fb.cells10 (Q98.out.box (w.heap.size, 30, [.int .i64 (f 0), .int .i64 (f 1), .int .i64 (f 2), .int .i64 (f 3), .int .i64 (f 4), .int .i64 (f 5), .int .i64 s1, .slice a1 n1 c1, .int .i64 1, .slice b1 m1 d1]) mq5)
  obtain ⟨q109, q110, q111, q112, q113, q114, q115, q116, q117, q118⟩ := Fb.cells10 (Q98.out.box (w.heap.size + 1, 30, [.int .i64 (g 0), .int .i64 (g 1), .int .i64 (g 2), .int .i64 (g 3), .int .i64 (g 4), .int .i64 (g 5), .int .i64 s2, .slice a2 n2 c2, .int .i64 1, .slice b2 m2 d2]) mq4)
  go_wp2_with (first | refine wpList_store_row rfl _ _ _ rfl _ #[.int .i64 (G 0), .int .i64 (G 1), .int .i64 (G 2), .int .i64 (G 3), .int .i64 (G 4), .int .i64 (G 5), .int .i64 sx11, .slice ax11 nx11 cx11, .int .i64 1, .slice bx11 mx11 dx11] rfl rfl _ _ (P98.out.box _ List.mem_cons_self) (by kernel_rfl) rfl (by simp [Value.oneCell']) ?_)
  have HDM : Hid (∀ W, Calls Tryz.prog 26 #[.agg (cl f), .agg (cl g)] W (Dm.Gives (DE G 0) W)) := Lib.hid (fun W => by have := mul_any f g W; rwa [HD1.out] at this)
  unfold DE cl at HDM
  clear q99 q100 q101 q102 q103 q104 q105 q106 q107 q108 q109 q110 q111 q112 q113 q114 q115 q116 q117 q118
  refine (HDM.out _).mono ?_
  rintro e w12 ⟨rfl, hb⟩
  have R12 := Lib.hid (Q98.out.later hb)
  clear hb
  have P119 := Lib.hid (R12.out.put [.int .i64 0, .int .i64 0, .int .i64 0, .int .i64 0, .int .i64 0, .int .i64 0] 23)
  have Q119 := Lib.hid (Sf.row (pre := []) P119.out [.int .i64 (G 0), .int .i64 (G 1), .int .i64 (G 2), .int .i64 (G 3), .int .i64 (G 4), .int .i64 (G 5)])
  obtain ⟨q120, q121, q122, q123, q124, q125, q126, q127, q128, q129⟩ := Fb.cells10 (Q119.out.box (w10.heap.size, 30, [.int .i64 (G 0), .int .i64 (G 1), .int .i64 (G 2), .int .i64 (G 3), .int .i64 (G 4), .int .i64 (G 5), .int .i64 sx10, .slice ax10 nx10 cx10, .int .i64 1, .slice bx10 mx10 dx10]) mq2)
  obtain ⟨q130, q131, q132, q133, q134, q135, q136, q137, q138, q139⟩ := Fb.cells10 (Q119.out.box (w11.heap.size, 30, [.int .i64 (G 0), .int .i64 (G 1), .int .i64 (G 2), .int .i64 (G 3), .int .i64 (G 4), .int .i64 (G 5), .int .i64 sx11, .slice ax11 nx11 cx11, .int .i64 1, .slice bx11 mx11 dx11]) mq1)
  go_wp2_with (first | refine wpList_store_row rfl _ _ _ rfl _ #[.int .i64 (G 0), .int .i64 (G 1), .int .i64 (G 2), .int .i64 (G 3), .int .i64 (G 4), .int .i64 (G 5)] rfl rfl _ _ (P119.out.box _ List.mem_cons_self) (by kernel_rfl) rfl (by simp [Value.oneCell']) ?_)
  clear q120 q121 q122 q123 q124 q125 q126 q127 q128 q129 q130 q131 q132 q133 q134 q135 q136 q137 q138 q139
  refine (u9same_k (Q119.out.fr (v := .slice ax10 nx10 cx10) (u := .slice bx10 mx10 dx10) (r := C) mq2 mq3 E10.out) (Q119.out.fr (v := .slice ax11 nx11 cx11) (u := .slice bx11 mx11 dx11) (r := C) mq0 mq1 E11.out) (eqB_refl G) (k := true) (by simp)).mono ?_
  rintro e w13 ⟨rfl, hb⟩
  have R13 := Lib.hid (Q119.out.later hb)
  clear hb
  obtain ⟨q140, q141, q142, q143, q144, q145, q146, q147, q148, q149⟩ := Fb.cells10 (R13.out.box (w10.heap.size, 30, [.int .i64 (G 0), .int .i64 (G 1), .int .i64 (G 2), .int .i64 (G 3), .int .i64 (G 4), .int .i64 (G 5), .int .i64 sx10, .slice ax10 nx10 cx10, .int .i64 1, .slice bx10 mx10 dx10]) mq2)
  obtain ⟨q150, q151, q152, q153, q154, q155, q156, q157, q158, q159⟩ := Fb.cells10 (R13.out.box (w.heap.size + 1, 30, [.int .i64 (g 0), .int .i64 (g 1), .int .i64 (g 2), .int .i64 (g 3), .int .i64 (g 4), .int .i64 (g 5), .int .i64 s2, .slice a2 n2 c2, .int .i64 1, .slice b2 m2 d2]) mq5)
  go_wp2_with fail
  clear q140 q141 q142 q143 q144 q145 q146 q147 q148 q149 q150 q151 q152 q153 q154 q155 q156 q157 q158 q159
  refine (udiv_k (V := f) (R13.out.fr (v := .slice ax10 nx10 cx10) (u := .slice bx10 mx10 dx10) (r := C) mq2 mq3 E10.out) (R13.out.fr (v := .slice a2 n2 c2) (u := .slice b2 m2 d2) (r := y) mq8 mq9 E2.out) LC.out L2.out OS.out O2.out PC.out P2_.out NZ2.out HB.out HD3.out).mono ?_
  rintro e w14 ⟨sx14, ax14, nx14, cx14, bx14, mx14, dx14, rfl, hr, hb, hf, hg⟩
  have E14 := Lib.hid hr.1.1
  have R14 := Lib.hid (R13.out.ret2 hb hr.1.2 hf hr.2.2 hg)
  have FF14 := Lib.hid (hf.mono R13.out.below.size)
  have FG14 := Lib.hid (hg.mono R13.out.below.size)
  clear hr hb hf hg
  have P160 := Lib.hid (R14.out.put [.int .i64 0, .int .i64 0, .int .i64 0, .int .i64 0, .int .i64 0, .int .i64 0, .int .i64 0, .slice none 0 0, .int .i64 0, .slice none 0 0] 30)
  have Q160 := Lib.hid (Sf.row (pre := []) P160.out [.int .i64 (f 0), .int .i64 (f 1), .int .i64 (f 2), .int .i64 (f 3), .int .i64 (f 4), .int .i64 (f 5), .int .i64 sx14, .slice ax14 nx14 cx14, .int .i64 1, .slice bx14 mx14 dx14])
  obtain ⟨q161, q162, q163, q164, q165, q166, q167, q168, q169, q170⟩ := Fb.cells10 (Q160.out.box (w14.heap.size, 30, [.int .i64 (f 0), .int .i64 (f 1), .int .i64 (f 2), .int .i64 (f 3), .int .i64 (f 4), .int .i64 (f 5), .int .i64 sx14, .slice ax14 nx14 cx14, .int .i64 1, .slice bx14 mx14 dx14]) mq0)
  obtain ⟨q171, q172, q173, q174, q175, q176, q177, q178, q179, q180⟩ := Fb.cells10 (Q160.out.box (w.heap.size, 30, [.int .i64 (f 0), .int .i64 (f 1), .int .i64 (f 2), .int .i64 (f 3), .int .i64 (f 4), .int .i64 (f 5), .int .i64 s1, .slice a1 n1 c1, .int .i64 1, .slice b1 m1 d1]) mq7)
  go_wp2_with (first | refine wpList_store_row rfl _ _ _ rfl _ #[.int .i64 (f 0), .int .i64 (f 1), .int .i64 (f 2), .int .i64 (f 3), .int .i64 (f 4), .int .i64 (f 5), .int .i64 sx14, .slice ax14 nx14 cx14, .int .i64 1, .slice bx14 mx14 dx14] rfl rfl _ _ (P160.out.box _ List.mem_cons_self) (by kernel_rfl) rfl (by simp [Value.oneCell']) ?_)
  clear q161 q162 q163 q164 q165 q166 q167 q168 q169 q170 q171 q172 q173 q174 q175 q176 q177 q178 q179 q180
  refine (u9same_k (Q160.out.fr (v := .slice ax14 nx14 cx14) (u := .slice bx14 mx14 dx14) (r := x) mq0 mq1 E14.out) (Q160.out.fr (v := .slice a1 n1 c1) (u := .slice b1 m1 d1) (r := x) mq12 mq13 E1.out) (eqB_refl f) (k := true) (by simp)).mono ?_
  rintro e w15 ⟨rfl, hb⟩
  have R15 := Lib.hid (Q160.out.later hb)
  clear hb
  obtain ⟨q181, q182, q183, q184, q185, q186, q187, q188, q189, q190⟩ := Fb.cells10 (R15.out.box (w10.heap.size, 30, [.int .i64 (G 0), .int .i64 (G 1), .int .i64 (G 2), .int .i64 (G 3), .int .i64 (G 4), .int .i64 (G 5), .int .i64 sx10, .slice ax10 nx10 cx10, .int .i64 1, .slice bx10 mx10 dx10]) mq3)
  go_wp2_with fail
  clear q181 q182 q183 q184 q185 q186 q187 q188 q189 q190
  refine (uright_v OS.out (R15.out.fr (v := .slice ax10 nx10 cx10) (u := .slice bx10 mx10 dx10) (r := C) mq4 mq5 E10.out) LC.out PC.out).mono ?_
  rintro e w16 ⟨rfl, hb⟩
  have R16 := Lib.hid (R15.out.later hb)
  clear hb
  obtain ⟨q191, q192, q193, q194, q195, q196, q197, q198, q199, q200⟩ := Fb.cells10 (R16.out.box (w10.heap.size, 30, [.int .i64 (G 0), .int .i64 (G 1), .int .i64 (G 2), .int .i64 (G 3), .int .i64 (G 4), .int .i64 (G 5), .int .i64 sx10, .slice ax10 nx10 cx10, .int .i64 1, .slice bx10 mx10 dx10]) mq3)
  obtain ⟨q201, q202, q203, q204, q205, q206⟩ := Fb.cells6 (R16.out.box (w12.heap.size, 23, [.int .i64 (G 0), .int .i64 (G 1), .int .i64 (G 2), .int .i64 (G 3), .int .i64 (G 4), .int .i64 (G 5)]) mq1)
  obtain ⟨q207, q208, q209, q210⟩ := Fb.cells4 (R16.out.box (w.heap.size + 1 + 1, 28, [.int .i64 s3, .slice a3 n3 c3, .int .i64 1, .slice b3 m3 d3]) mq5)
  obtain ⟨q211, q212, q213, q214, q215, q216, q217, q218, q219, q220⟩ := Fb.cells10 (R16.out.box (w.heap.size, 30, [.int .i64 (f 0), .int .i64 (f 1), .int .i64 (f 2), .int .i64 (f 3), .int .i64 (f 4), .int .i64 (f 5), .int .i64 s1, .slice a1 n1 c1, .int .i64 1, .slice b1 m1 d1]) mq7)
  go_wp2_with fail
  clear q191 q192 q193 q194 q195 q196 q197 q198 q199 q200 q201 q202 q203 q204 q205 q206 q207 q208 q209 q210 q211 q212 q213 q214 q215 q216 q217 q218 q219 q220
  refine (ufrom_k (R16.out.fr (v := .slice a3 n3 c3) (u := .slice b3 m3 d3) (r := v) mq8 mq9 E3.out) (R16.out.fr (v := .slice a1 n1 c1) (u := .slice b1 m1 d1) (r := x) mq12 mq13 E1.out) L3.out L1.out O1.out P1_.out HV.out).mono ?_
  rintro e w17 ⟨sx17, ax17, nx17, cx17, bx17, mx17, dx17, rfl, hr, hb, hf, hg⟩
  have E17 := Lib.hid hr.1.1
  have R17 := Lib.hid (R16.out.ret2 hb hr.1.2 hf hr.2.2 hg)
  have FF17 := Lib.hid (hf.mono R16.out.below.size)
  have FG17 := Lib.hid (hg.mono R16.out.below.size)
  clear hr hb hf hg
  have P221 := Lib.hid (R17.out.put [.int .i64 0, .slice none 0 0, .int .i64 0, .slice none 0 0] 28)
  have Q221 := Lib.hid (Sf.row (pre := []) P221.out [.int .i64 sx17, .slice ax17 nx17 cx17, .int .i64 1, .slice bx17 mx17 dx17])
  obtain ⟨q222, q223, q224, q225⟩ := Fb.cells4 (Q221.out.box (w.heap.size + 1 + 1 + 1, 28, [.int .i64 s4, .slice a4 n4 c4, .int .i64 1, .slice b4 m4 d4]) mq5)
  obtain ⟨q226, q227, q228, q229, q230, q231, q232, q233, q234, q235⟩ := Fb.cells10 (Q221.out.box (w.heap.size + 1, 30, [.int .i64 (g 0), .int .i64 (g 1), .int .i64 (g 2), .int .i64 (g 3), .int .i64 (g 4), .int .i64 (g 5), .int .i64 s2, .slice a2 n2 c2, .int .i64 1, .slice b2 m2 d2]) mq7)
  go_wp2_with (first | refine wpList_store_row rfl _ _ _ rfl _ #[.int .i64 sx17, .slice ax17 nx17 cx17, .int .i64 1, .slice bx17 mx17 dx17] rfl rfl _ _ (P221.out.box _ List.mem_cons_self) (by kernel_rfl) rfl (by simp [Value.oneCell']) ?_)
  clear q222 q223 q224 q225 q226 q227 q228 q229 q230 q231 q232 q233 q234 q235
  refine (ufrom_k (Q221.out.fr (v := .slice a4 n4 c4) (u := .slice b4 m4 d4) (r := z) mq8 mq9 E4.out) (Q221.out.fr (v := .slice a2 n2 c2) (u := .slice b2 m2 d2) (r := y) mq12 mq13 E2.out) L4.out L2.out O2.out P2_.out HW.out).mono ?_
  rintro e w18 ⟨sx18, ax18, nx18, cx18, bx18, mx18, dx18, rfl, hr, hb, hf, hg⟩
  have E18 := Lib.hid hr.1.1
  have R18 := Lib.hid (Q221.out.ret2 hb hr.1.2 hf hr.2.2 hg)
  have FF18 := Lib.hid (hf.mono Q221.out.below.size)
  have FG18 := Lib.hid (hg.mono Q221.out.below.size)
  clear hr hb hf hg
  have P236 := Lib.hid (R18.out.put [.int .i64 0, .slice none 0 0, .int .i64 0, .slice none 0 0] 28)
  have Q236 := Lib.hid (Sf.row (pre := []) P236.out [.int .i64 sx18, .slice ax18 nx18 cx18, .int .i64 1, .slice bx18 mx18 dx18])
  obtain ⟨q237, q238, q239, q240⟩ := Fb.cells4 (Q236.out.box (w.heap.size + 1 + 1 + 1, 28, [.int .i64 s4, .slice a4 n4 c4, .int .i64 1, .slice b4 m4 d4]) mq6)
  obtain ⟨q241, q242, q243, q244⟩ := Fb.cells4 (Q236.out.box (w.heap.size + 1 + 1, 28, [.int .i64 s3, .slice a3 n3 c3, .int .i64 1, .slice b3 m3 d3]) mq7)
  go_wp2_with (first | refine wpList_store_row rfl _ _ _ rfl _ #[.int .i64 sx18, .slice ax18 nx18 cx18, .int .i64 1, .slice bx18 mx18 dx18] rfl rfl _ _ (P236.out.box _ List.mem_cons_self) (by kernel_rfl) rfl (by simp [Value.oneCell']) ?_)
  clear q237 q238 q239 q240 q241 q242 q243 q244
  refine (fmul_r (Q236.out.fr (v := .slice a3 n3 c3) (u := .slice b3 m3 d3) (r := v) mq12 mq13 E3.out) (Q236.out.fr (v := .slice a4 n4 c4) (u := .slice b4 m4 d4) (r := z) mq10 mq11 E4.out) L3.out L4.out HNM.out).mono ?_
  rintro e w19 ⟨sx19, ax19, nx19, cx19, bx19, mx19, dx19, rfl, hr, hb, hf, hg⟩
  have E19 := Lib.hid hr.1.1
  have R19 := Lib.hid (Q236.out.ret2 hb hr.1.2 hf hr.2.2 hg)
  have FF19 := Lib.hid (hf.mono Q236.out.below.size)
  have FG19 := Lib.hid (hg.mono Q236.out.below.size)
  clear hr hb hf hg
  have P245 := Lib.hid (R19.out.put [.int .i64 0, .slice none 0 0, .int .i64 0, .slice none 0 0] 28)
  have Q245 := Lib.hid (Sf.row (pre := []) P245.out [.int .i64 sx19, .slice ax19 nx19 cx19, .int .i64 1, .slice bx19 mx19 dx19])
  obtain ⟨q246, q247, q248, q249⟩ := Fb.cells4 (Q245.out.box (w17.heap.size, 28, [.int .i64 sx17, .slice ax17 nx17 cx17, .int .i64 1, .slice bx17 mx17 dx17]) mq2)
  obtain ⟨q250, q251, q252, q253⟩ := Fb.cells4 (Q245.out.box (w18.heap.size, 28, [.int .i64 sx18, .slice ax18 nx18 cx18, .int .i64 1, .slice bx18 mx18 dx18]) mq1)
  go_wp2_with (first | refine wpList_store_row rfl _ _ _ rfl _ #[.int .i64 sx19, .slice ax19 nx19 cx19, .int .i64 1, .slice bx19 mx19 dx19] rfl rfl _ _ (P245.out.box _ List.mem_cons_self) (by kernel_rfl) rfl (by simp [Value.oneCell']) ?_)
  clear q246 q247 q248 q249 q250 q251 q252 q253
  refine (fmul_r (Q245.out.fr (v := .slice ax17 nx17 cx17) (u := .slice bx17 mx17 dx17) (r := V) mq4 mq5 E17.out) (Q245.out.fr (v := .slice ax18 nx18 cx18) (u := .slice bx18 mx18 dx18) (r := W) mq2 mq3 E18.out) LV.out LW.out HVW.out).mono ?_
  rintro e w20 ⟨sx20, ax20, nx20, cx20, bx20, mx20, dx20, rfl, hr, hb, hf, hg⟩
  have E20 := Lib.hid hr.1.1
  have R20 := Lib.hid (Q245.out.ret2 hb hr.1.2 hf hr.2.2 hg)
  have FF20 := Lib.hid (hf.mono Q245.out.below.size)
  have FG20 := Lib.hid (hg.mono Q245.out.below.size)
  clear hr hb hf hg
  have P254 := Lib.hid (R20.out.put [.int .i64 0, .slice none 0 0, .int .i64 0, .slice none 0 0] 28)
  have Q254 := Lib.hid (Sf.row (pre := []) P254.out [.int .i64 sx20, .slice ax20 nx20 cx20, .int .i64 1, .slice bx20 mx20 dx20])
  obtain ⟨q255, q256, q257, q258⟩ := Fb.cells4 (Q254.out.box (w19.heap.size, 28, [.int .i64 sx19, .slice ax19 nx19 cx19, .int .i64 1, .slice bx19 mx19 dx19]) mq1)
  obtain ⟨q259, q260, q261, q262, q263, q264, q265, q266, q267, q268⟩ := Fb.cells10 (Q254.out.box (w10.heap.size, 30, [.int .i64 (G 0), .int .i64 (G 1), .int .i64 (G 2), .int .i64 (G 3), .int .i64 (G 4), .int .i64 (G 5), .int .i64 sx10, .slice ax10 nx10 cx10, .int .i64 1, .slice bx10 mx10 dx10]) mq7)
  go_wp2_with (first | refine wpList_store_row rfl _ _ _ rfl _ #[.int .i64 sx20, .slice ax20 nx20 cx20, .int .i64 1, .slice bx20 mx20 dx20] rfl rfl _ _ (P254.out.box _ List.mem_cons_self) (by kernel_rfl) rfl (by simp [Value.oneCell']) ?_)
  clear q255 q256 q257 q258 q259 q260 q261 q262 q263 q264 q265 q266 q267 q268
  refine (ufrom_k (Q254.out.fr (v := .slice ax19 nx19 cx19) (u := .slice bx19 mx19 dx19) (r := NM) mq2 mq3 E19.out) (Q254.out.fr (v := .slice ax10 nx10 cx10) (u := .slice bx10 mx10 dx10) (r := C) mq12 mq13 E10.out) LN.out LC.out OS.out PC.out HX.out).mono ?_
  rintro e w21 ⟨sx21, ax21, nx21, cx21, bx21, mx21, dx21, rfl, hr, hb, hf, hg⟩
  have E21 := Lib.hid hr.1.1
  have R21 := Lib.hid (Q254.out.ret2 hb hr.1.2 hf hr.2.2 hg)
  have FF21 := Lib.hid (hf.mono Q254.out.below.size)
  have FG21 := Lib.hid (hg.mono Q254.out.below.size)
  clear hr hb hf hg
  have P269 := Lib.hid (R21.out.put [.int .i64 0, .slice none 0 0, .int .i64 0, .slice none 0 0] 28)
  have Q269 := Lib.hid (Sf.row (pre := []) P269.out [.int .i64 sx21, .slice ax21 nx21 cx21, .int .i64 1, .slice bx21 mx21 dx21])
  obtain ⟨q270, q271, q272, q273⟩ := Fb.cells4 (Q269.out.box (w21.heap.size, 28, [.int .i64 sx21, .slice ax21 nx21 cx21, .int .i64 1, .slice bx21 mx21 dx21]) mq0)
  obtain ⟨q274, q275, q276, q277⟩ := Fb.cells4 (Q269.out.box (w20.heap.size, 28, [.int .i64 sx20, .slice ax20 nx20 cx20, .int .i64 1, .slice bx20 mx20 dx20]) mq1)
  go_wp2_with (first | refine wpList_store_row rfl _ _ _ rfl _ #[.int .i64 sx21, .slice ax21 nx21 cx21, .int .i64 1, .slice bx21 mx21 dx21] rfl rfl _ _ (P269.out.box _ List.mem_cons_self) (by kernel_rfl) rfl (by simp [Value.oneCell']) ?_)
  clear q270 q271 q272 q273 q274 q275 q276 q277
  refine (rfsame_t (Q269.out.fr (v := .slice ax21 nx21 cx21) (u := .slice bx21 mx21 dx21) (r := VW) mq0 mq1 E21.out) (Q269.out.fr (v := .slice ax20 nx20 cx20) (u := .slice bx20 mx20 dx20) (r := VW) mq2 mq3 E20.out) rfl).mono ?_
  rintro e w22 ⟨rfl, hb⟩
  have R22 := Lib.hid (Q269.out.later hb)
  clear hb
  go_wp2_with fail
  go_ret
  exact ⟨rfl, R22.out.below⟩

set_option maxHeartbeats 16000000 in
theorem groupF_good {w : World} {f g : Nat → Int} {s1 : Int} {a1 b1 : Option Addr} {n1 c1 m1 d1 : Nat} {x : Rat} {s2 : Int} {a2 b2 : Option Addr} {n2 c2 m2 d2 : Nat} {y : Rat} {s3 : Int} {a3 b3 : Option Addr} {n3 c3 m3 d3 : Nat} {v : Rat} {s4 : Int} {a4 b4 : Option Addr} {n4 c4 m4 d4 : Nat} {z : Rat}  (he : EnvU w) (h1 : Fr w s1 (.slice a1 n1 c1) (.slice b1 m1 d1) x) (hz1 : FSz 12 x) (hn1 : n1 ≤ 12) (hm1 : m1 ≤ 12) (hf1 : ok f = true) (hp1 : decide (0 < x.num.sign) = true) (h2 : Fr w s2 (.slice a2 n2 c2) (.slice b2 m2 d2) y) (hz2 : FSz 12 y) (hn2 : n2 ≤ 12) (hm2 : m2 ≤ 12) (hf2 : ok g = true) (hp2 : decide (0 < y.num.sign) = true) (h3 : Fr w s3 (.slice a3 n3 c3) (.slice b3 m3 d3) v) (hz3 : FSz 4 v) (hn3 : n3 ≤ 4) (hm3 : m3 ≤ 4) (h4 : Fr w s4 (.slice a4 n4 c4) (.slice b4 m4 d4) z) (hz4 : FSz 4 z) (hn4 : n4 ≤ 4) (hm4 : m4 ≤ 4) (hs : ok (sumF f g) = false) :
    Calls Tryz.prog 5 #[.agg #[.int .i64 (f 0), .int .i64 (f 1), .int .i64 (f 2), .int .i64 (f 3), .int .i64 (f 4), .int .i64 (f 5), .int .i64 s1, .slice a1 n1 c1, .int .i64 1, .slice b1 m1 d1], .agg #[.int .i64 (g 0), .int .i64 (g 1), .int .i64 (g 2), .int .i64 (g 3), .int .i64 (g 4), .int .i64 (g 5), .int .i64 s2, .slice a2 n2 c2, .int .i64 1, .slice b2 m2 d2], .agg #[.int .i64 s3, .slice a3 n3 c3, .int .i64 1, .slice b3 m3 d3], .agg #[.int .i64 s4, .slice a4 n4 c4, .int .i64 1, .slice b4 m4 d4]] w fun e w' => e = .returned (.bool true) ∧ RowKit.Below w.heap.size w w' := by
  have HE := Lib.hid he
  have E1 := Lib.hid h1.1.1
  have Z1 := Lib.hid hz1
  have L1 := Lib.hid (hz1.mono (j := 1000))
  have MN1 : Hid (n1 ≤ 9223372036854775807) := Lib.hid (by omega)
  have MM1 : Hid (m1 ≤ 9223372036854775807) := Lib.hid (by omega)
  have KW1 : Hid ((decide ((n1 : Int) ≤ 12) && decide ((m1 : Int) ≤ 12)) = true) := Lib.hid (by simp; omega)
  have O1 := Lib.hid hf1
  have P1_ := Lib.hid hp1
  have NZ1 := Lib.hid (sign_ne hp1)
  have E2 := Lib.hid h2.1.1
  have Z2 := Lib.hid hz2
  have L2 := Lib.hid (hz2.mono (j := 1000))
  have MN2 : Hid (n2 ≤ 9223372036854775807) := Lib.hid (by omega)
  have MM2 : Hid (m2 ≤ 9223372036854775807) := Lib.hid (by omega)
  have KW2 : Hid ((decide ((n2 : Int) ≤ 12) && decide ((m2 : Int) ≤ 12)) = true) := Lib.hid (by simp; omega)
  have O2 := Lib.hid hf2
  have P2_ := Lib.hid hp2
  have NZ2 := Lib.hid (sign_ne hp2)
  have E3 := Lib.hid h3.1.1
  have Z3 := Lib.hid hz3
  have L3 := Lib.hid (hz3.mono (j := 1000))
  have MN3 : Hid (n3 ≤ 9223372036854775807) := Lib.hid (by omega)
  have MM3 : Hid (m3 ≤ 9223372036854775807) := Lib.hid (by omega)
  have KW3 : Hid ((decide ((n3 : Int) ≤ 4) && decide ((m3 : Int) ≤ 4)) = true) := Lib.hid (by simp; omega)
  have E4 := Lib.hid h4.1.1
  have Z4 := Lib.hid hz4
  have L4 := Lib.hid (hz4.mono (j := 1000))
  have MN4 : Hid (n4 ≤ 9223372036854775807) := Lib.hid (by omega)
  have MM4 : Hid (m4 ≤ 9223372036854775807) := Lib.hid (by omega)
  have KW4 : Hid ((decide ((n4 : Int) ≤ 4) && decide ((m4 : Int) ≤ 4)) = true) := Lib.hid (by simp; omega)
  obtain ⟨C, hC⟩ : ∃ C, x * y = C := ⟨_, rfl⟩
  have HC := Lib.hid hC
  have HC2 : Hid (y * x = C) := Lib.hid (by rw [Rat.mul_comm]; exact hC)
  have HD1 := Lib.hid (mulR_far hf1 hf2 hs)
  have HD2 := Lib.hid (mulR_far hf2 hf1 (by rw [sumF_comm]; exact hs))
  clear hC hs
  have s0 := (((((((((((((Sf.start w).arg h1.2.2).arg h1.1.2).arg h2.2.2).arg h2.1.2).arg h3.2.2).arg h3.1.2).arg h4.2.2).arg h4.1.2).put [.int .i64 (f 0), .int .i64 (f 1), .int .i64 (f 2), .int .i64 (f 3), .int .i64 (f 4), .int .i64 (f 5), .int .i64 s1, .slice a1 n1 c1, .int .i64 1, .slice b1 m1 d1] 30).put [.int .i64 (g 0), .int .i64 (g 1), .int .i64 (g 2), .int .i64 (g 3), .int .i64 (g 4), .int .i64 (g 5), .int .i64 s2, .slice a2 n2 c2, .int .i64 1, .slice b2 m2 d2] 30).put [.int .i64 s3, .slice a3 n3 c3, .int .i64 1, .slice b3 m3 d3] 28).put [.int .i64 s4, .slice a4 n4 c4, .int .i64 1, .slice b4 m4 d4] 28)
  try simp only [World.size_alloc] at s0
  have S0 := Lib.hid s0
  clear s0
  clear he h1 hz1 hn1 hm1 hf1 hp1 h2 hz2 hn2 hm2 hf2 hp2 h3 hz3 hn3 hm3 h4 hz4 hn4 hm4
  go_enter Tryz.func5, Tryz.ntmps5
  go_wp2_with fail
  refine (sane_t _ (HE.out.below S0.out.below)).mono ?_
  rintro e w1 ⟨rfl, hb⟩
  have R1 := Lib.hid (S0.out.later hb)
  clear hb
  obtain ⟨q1, q2, q3, q4, q5, q6, q7, q8, q9, q10⟩ := Fb.cells10 (R1.out.box (w.heap.size, 30, [.int .i64 (f 0), .int .i64 (f 1), .int .i64 (f 2), .int .i64 (f 3), .int .i64 (f 4), .int .i64 (f 5), .int .i64 s1, .slice a1 n1 c1, .int .i64 1, .slice b1 m1 d1]) mq3)
  go_wp2_with fail
  clear q1 q2 q3 q4 q5 q6 q7 q8 q9 q10
  refine (u9few_len (f := f) (s := s1) (t := 1) (a := a1) (b := b1) (c := c1) (d := d1) MN1.out MM1.out (k := true) KW1.out).mono ?_
  rintro e w2 ⟨rfl, hb⟩
  have R2 := Lib.hid (R1.out.later hb)
  clear hb
  obtain ⟨q11, q12, q13, q14, q15, q16, q17, q18, q19, q20⟩ := Fb.cells10 (R2.out.box (w.heap.size + 1, 30, [.int .i64 (g 0), .int .i64 (g 1), .int .i64 (g 2), .int .i64 (g 3), .int .i64 (g 4), .int .i64 (g 5), .int .i64 s2, .slice a2 n2 c2, .int .i64 1, .slice b2 m2 d2]) mq2)
  go_wp2_with fail
  clear q11 q12 q13 q14 q15 q16 q17 q18 q19 q20
  refine (u9few_len (f := g) (s := s2) (t := 1) (a := a2) (b := b2) (c := c2) (d := d2) MN2.out MM2.out (k := true) KW2.out).mono ?_
  rintro e w3 ⟨rfl, hb⟩
  have R3 := Lib.hid (R2.out.later hb)
  clear hb
  obtain ⟨q21, q22, q23, q24⟩ := Fb.cells4 (R3.out.box (w.heap.size + 1 + 1, 28, [.int .i64 s3, .slice a3 n3 c3, .int .i64 1, .slice b3 m3 d3]) mq1)
  go_wp2_with fail
  clear q21 q22 q23 q24
  refine (ffew_len s3 a3 n3 c3 1 b3 m3 d3 4 _ MN3.out MM3.out true KW3.out).mono ?_
  rintro e w4 ⟨rfl, hb⟩
  have R4 := Lib.hid (R3.out.later hb)
  clear hb
  obtain ⟨q25, q26, q27, q28⟩ := Fb.cells4 (R4.out.box (w.heap.size + 1 + 1 + 1, 28, [.int .i64 s4, .slice a4 n4 c4, .int .i64 1, .slice b4 m4 d4]) mq0)
  go_wp2_with fail
  clear q25 q26 q27 q28
  refine (ffew_len s4 a4 n4 c4 1 b4 m4 d4 4 _ MN4.out MM4.out true KW4.out).mono ?_
  rintro e w5 ⟨rfl, hb⟩
  have R5 := Lib.hid (R4.out.later hb)
  clear hb
  obtain ⟨q29, q30, q31, q32, q33, q34, q35, q36, q37, q38⟩ := Fb.cells10 (R5.out.box (w.heap.size, 30, [.int .i64 (f 0), .int .i64 (f 1), .int .i64 (f 2), .int .i64 (f 3), .int .i64 (f 4), .int .i64 (f 5), .int .i64 s1, .slice a1 n1 c1, .int .i64 1, .slice b1 m1 d1]) mq3)
  go_wp2_with fail
  clear q29 q30 q31 q32 q33 q34 q35 q36 q37 q38
  refine (uright_v O1.out (R5.out.fr (v := .slice a1 n1 c1) (u := .slice b1 m1 d1) (r := x) mq6 mq7 E1.out) L1.out P1_.out).mono ?_
  rintro e w6 ⟨rfl, hb⟩
  have R6 := Lib.hid (R5.out.later hb)
  clear hb
  obtain ⟨q39, q40, q41, q42, q43, q44, q45, q46, q47, q48⟩ := Fb.cells10 (R6.out.box (w.heap.size + 1, 30, [.int .i64 (g 0), .int .i64 (g 1), .int .i64 (g 2), .int .i64 (g 3), .int .i64 (g 4), .int .i64 (g 5), .int .i64 s2, .slice a2 n2 c2, .int .i64 1, .slice b2 m2 d2]) mq2)
  go_wp2_with fail
  clear q39 q40 q41 q42 q43 q44 q45 q46 q47 q48
  refine (uright_v O2.out (R6.out.fr (v := .slice a2 n2 c2) (u := .slice b2 m2 d2) (r := y) mq4 mq5 E2.out) L2.out P2_.out).mono ?_
  rintro e w7 ⟨rfl, hb⟩
  have R7 := Lib.hid (R6.out.later hb)
  clear hb
  obtain ⟨q49, q50, q51, q52⟩ := Fb.cells4 (R7.out.box (w.heap.size + 1 + 1, 28, [.int .i64 s3, .slice a3 n3 c3, .int .i64 1, .slice b3 m3 d3]) mq1)
  go_wp2_with fail
  clear q49 q50 q51 q52
  refine (fright_k (R7.out.fr (v := .slice a3 n3 c3) (u := .slice b3 m3 d3) (r := v) mq2 mq3 E3.out) L3.out).mono ?_
  rintro e w8 ⟨rfl, hb⟩
  have R8 := Lib.hid (R7.out.later hb)
  clear hb
  obtain ⟨q53, q54, q55, q56⟩ := Fb.cells4 (R8.out.box (w.heap.size + 1 + 1 + 1, 28, [.int .i64 s4, .slice a4 n4 c4, .int .i64 1, .slice b4 m4 d4]) mq0)
  go_wp2_with fail
  clear q53 q54 q55 q56
  refine (fright_k (R8.out.fr (v := .slice a4 n4 c4) (u := .slice b4 m4 d4) (r := z) mq0 mq1 E4.out) L4.out).mono ?_
  rintro e w9 ⟨rfl, hb⟩
  have R9 := Lib.hid (R8.out.later hb)
  clear hb
  obtain ⟨q57, q58, q59, q60, q61, q62, q63, q64, q65, q66⟩ := Fb.cells10 (R9.out.box (w.heap.size, 30, [.int .i64 (f 0), .int .i64 (f 1), .int .i64 (f 2), .int .i64 (f 3), .int .i64 (f 4), .int .i64 (f 5), .int .i64 s1, .slice a1 n1 c1, .int .i64 1, .slice b1 m1 d1]) mq3)
  obtain ⟨q67, q68, q69, q70, q71, q72, q73, q74, q75, q76⟩ := Fb.cells10 (R9.out.box (w.heap.size + 1, 30, [.int .i64 (g 0), .int .i64 (g 1), .int .i64 (g 2), .int .i64 (g 3), .int .i64 (g 4), .int .i64 (g 5), .int .i64 s2, .slice a2 n2 c2, .int .i64 1, .slice b2 m2 d2]) mq2)
  go_wp2_with fail
  skip
  clear q57 q58 q59 q60 q61 q62 q63 q64 q65 q66 q67 q68 q69 q70 q71 q72 q73 q74 q75 q76
  refine (umul_far (R9.out.fr (v := .slice a1 n1 c1) (u := .slice b1 m1 d1) (r := x) mq6 mq7 E1.out) (R9.out.fr (v := .slice a2 n2 c2) (u := .slice b2 m2 d2) (r := y) mq4 mq5 E2.out) L1.out L2.out O1.out O2.out P1_.out P2_.out HC.out HD1.out).mono ?_
  rintro e w10 ⟨rfl, hb⟩
  have R10 := Lib.hid (R9.out.later hb)
  clear hb
  have P77 := Lib.hid (R10.out.put [.int .i64 0, .int .i64 0, .int .i64 0, .int .i64 0, .int .i64 0, .int .i64 0, .int .i64 0, .slice none 0 0, .int .i64 0, .slice none 0 0] 30)
  have Q77 := Lib.hid (Sf.row (pre := []) P77.out [.int .i64 (zf 0), .int .i64 (zf 1), .int .i64 (zf 2), .int .i64 (zf 3), .int .i64 (zf 4), .int .i64 (zf 5), .int .i64 0, .slice none 0 0, .int .i64 0, .slice none 0 0])
  obtain ⟨q78, q79, q80, q81, q82, q83, q84, q85, q86, q87⟩ := Fb.cells10 (Q77.out.box (w.heap.size, 30, [.int .i64 (f 0), .int .i64 (f 1), .int .i64 (f 2), .int .i64 (f 3), .int .i64 (f 4), .int .i64 (f 5), .int .i64 s1, .slice a1 n1 c1, .int .i64 1, .slice b1 m1 d1]) mq4)
  obtain ⟨q88, q89, q90, q91, q92, q93, q94, q95, q96, q97⟩ := Fb.cells10 (Q77.out.box (w.heap.size + 1, 30, [.int .i64 (g 0), .int .i64 (g 1), .int .i64 (g 2), .int .i64 (g 3), .int .i64 (g 4), .int .i64 (g 5), .int .i64 s2, .slice a2 n2 c2, .int .i64 1, .slice b2 m2 d2]) mq3)
  go_wp2_with (first | refine wpList_store_row rfl _ _ _ rfl _ #[.int .i64 (zf 0), .int .i64 (zf 1), .int .i64 (zf 2), .int .i64 (zf 3), .int .i64 (zf 4), .int .i64 (zf 5), .int .i64 0, .slice none 0 0, .int .i64 0, .slice none 0 0] rfl rfl _ _ (P77.out.box _ List.mem_cons_self) (by kernel_rfl) rfl (by simp [Value.oneCell']) ?_)
  skip
  clear q78 q79 q80 q81 q82 q83 q84 q85 q86 q87 q88 q89 q90 q91 q92 q93 q94 q95 q96 q97
  refine (umul_far (Q77.out.fr (v := .slice a2 n2 c2) (u := .slice b2 m2 d2) (r := y) mq4 mq5 E2.out) (Q77.out.fr (v := .slice a1 n1 c1) (u := .slice b1 m1 d1) (r := x) mq6 mq7 E1.out) L2.out L1.out O2.out O1.out P2_.out P1_.out HC2.out HD2.out).mono ?_
  rintro e w11 ⟨rfl, hb⟩
  have R11 := Lib.hid (Q77.out.later hb)
  clear hb
  have P98 := Lib.hid (R11.out.put [.int .i64 0, .int .i64 0, .int .i64 0, .int .i64 0, .int .i64 0, .int .i64 0, .int .i64 0, .slice none 0 0, .int .i64 0, .slice none 0 0] 30)
  have Q98 := Lib.hid (Sf.row (pre := []) P98.out [.int .i64 (zf 0), .int .i64 (zf 1), .int .i64 (zf 2), .int .i64 (zf 3), .int .i64 (zf 4), .int .i64 (zf 5), .int .i64 0, .slice none 0 0, .int .i64 0, .slice none 0 0])
  obtain ⟨q99, q100, q101, q102, q103, q104, q105, q106, q107, q108⟩ := Fb.cells10 (Q98.out.box (w.heap.size, 30, [.int .i64 (f 0), .int .i64 (f 1), .int .i64 (f 2), .int .i64 (f 3), .int .i64 (f 4), .int .i64 (f 5), .int .i64 s1, .slice a1 n1 c1, .int .i64 1, .slice b1 m1 d1]) mq5)
  obtain ⟨q109, q110, q111, q112, q113, q114, q115, q116, q117, q118⟩ := Fb.cells10 (Q98.out.box (w.heap.size + 1, 30, [.int .i64 (g 0), .int .i64 (g 1), .int .i64 (g 2), .int .i64 (g 3), .int .i64 (g 4), .int .i64 (g 5), .int .i64 s2, .slice a2 n2 c2, .int .i64 1, .slice b2 m2 d2]) mq4)
  go_wp2_with (first | refine wpList_store_row rfl _ _ _ rfl _ #[.int .i64 (zf 0), .int .i64 (zf 1), .int .i64 (zf 2), .int .i64 (zf 3), .int .i64 (zf 4), .int .i64 (zf 5), .int .i64 0, .slice none 0 0, .int .i64 0, .slice none 0 0] rfl rfl _ _ (P98.out.box _ List.mem_cons_self) (by kernel_rfl) rfl (by simp [Value.oneCell']) ?_)
  have HDM : Hid (∀ W, Calls Tryz.prog 26 #[.agg (cl f), .agg (cl g)] W (Dm.Gives (DE zf 3) W)) := Lib.hid (fun W => by have := mul_any f g W; rwa [HD1.out] at this)
  unfold DE cl at HDM
  clear q99 q100 q101 q102 q103 q104 q105 q106 q107 q108 q109 q110 q111 q112 q113 q114 q115 q116 q117 q118
  refine (HDM.out _).mono ?_
  rintro e w12 ⟨rfl, hb⟩
  have R12 := Lib.hid (Q98.out.later hb)
  clear hb
  have P119 := Lib.hid (R12.out.put [.int .i64 0, .int .i64 0, .int .i64 0, .int .i64 0, .int .i64 0, .int .i64 0] 23)
  have Q119 := Lib.hid (Sf.row (pre := []) P119.out [.int .i64 (zf 0), .int .i64 (zf 1), .int .i64 (zf 2), .int .i64 (zf 3), .int .i64 (zf 4), .int .i64 (zf 5)])
  obtain ⟨q120, q121, q122, q123, q124, q125, q126, q127, q128, q129⟩ := Fb.cells10 (Q119.out.box (w11.heap.size, 30, [.int .i64 (zf 0), .int .i64 (zf 1), .int .i64 (zf 2), .int .i64 (zf 3), .int .i64 (zf 4), .int .i64 (zf 5), .int .i64 0, .slice none 0 0, .int .i64 0, .slice none 0 0]) mq1)
  obtain ⟨q130, q131, q132, q133, q134, q135, q136, q137, q138, q139⟩ := Fb.cells10 (Q119.out.box (w10.heap.size, 30, [.int .i64 (zf 0), .int .i64 (zf 1), .int .i64 (zf 2), .int .i64 (zf 3), .int .i64 (zf 4), .int .i64 (zf 5), .int .i64 0, .slice none 0 0, .int .i64 0, .slice none 0 0]) mq2)
  go_wp2_with (first | refine wpList_store_row rfl _ _ _ rfl _ #[.int .i64 (zf 0), .int .i64 (zf 1), .int .i64 (zf 2), .int .i64 (zf 3), .int .i64 (zf 4), .int .i64 (zf 5)] rfl rfl _ _ (P119.out.box _ List.mem_cons_self) (by kernel_rfl) rfl (by simp [Value.oneCell']) ?_)
  clear q120 q121 q122 q123 q124 q125 q126 q127 q128 q129 q130 q131 q132 q133 q134 q135 q136 q137 q138 q139
  refine (u9same_zz zf _).mono ?_
  rintro e w13 ⟨rfl, hb⟩
  have R13 := Lib.hid (Q119.out.later hb)
  clear hb
  go_wp2_with fail
  go_ret
  exact ⟨rfl, R13.out.below⟩

theorem group_all {w : World} {f g : Nat → Int} {s1 t1 : Int} {a1 b1 : Option Addr} {c1 d1 : Nat} {l1 k1 : List Int} {s2 t2 : Int} {a2 b2 : Option Addr} {c2 d2 : Nat} {l2 k2 : List Int} {s3 t3 : Int} {a3 b3 : Option Addr} {c3 d3 : Nat} {l3 k3 : List Int} {s4 t4 : Int} {a4 b4 : Option Addr} {c4 d4 : Nat} {l4 k4 : List Int} (he : EnvU w) (y1 : l1.length ≤ 9223372036854775807) (z1 : k1.length ≤ 9223372036854775807) (i1 : l1.length ≤ 1000000000 → Ints w (.slice a1 l1.length c1) l1) (j1 : k1.length ≤ 1000000000 → Ints w (.slice b1 k1.length d1) k1) (y2 : l2.length ≤ 9223372036854775807) (z2 : k2.length ≤ 9223372036854775807) (i2 : l2.length ≤ 1000000000 → Ints w (.slice a2 l2.length c2) l2) (j2 : k2.length ≤ 1000000000 → Ints w (.slice b2 k2.length d2) k2) (y3 : l3.length ≤ 9223372036854775807) (z3 : k3.length ≤ 9223372036854775807) (i3 : l3.length ≤ 1000000000 → Ints w (.slice a3 l3.length c3) l3) (j3 : k3.length ≤ 1000000000 → Ints w (.slice b3 k3.length d3) k3) (y4 : l4.length ≤ 9223372036854775807) (z4 : k4.length ≤ 9223372036854775807) (i4 : l4.length ≤ 1000000000 → Ints w (.slice a4 l4.length c4) l4) (j4 : k4.length ≤ 1000000000 → Ints w (.slice b4 k4.length d4) k4) :
    Calls Tryz.prog 5 #[.agg #[.int .i64 (f 0), .int .i64 (f 1), .int .i64 (f 2), .int .i64 (f 3), .int .i64 (f 4), .int .i64 (f 5), .int .i64 s1, .slice a1 l1.length c1, .int .i64 t1, .slice b1 k1.length d1], .agg #[.int .i64 (g 0), .int .i64 (g 1), .int .i64 (g 2), .int .i64 (g 3), .int .i64 (g 4), .int .i64 (g 5), .int .i64 s2, .slice a2 l2.length c2, .int .i64 t2, .slice b2 k2.length d2], .agg #[.int .i64 s3, .slice a3 l3.length c3, .int .i64 t3, .slice b3 k3.length d3], .agg #[.int .i64 s4, .slice a4 l4.length c4, .int .i64 t4, .slice b4 k4.length d4]] w fun e w' => e = .returned (.bool true) ∧ RowKit.Below w.heap.size w w' := by
  rcases hq : ((decide ((l1.length : Int) ≤ 12) && decide ((k1.length : Int) ≤ 12)) && ((decide ((l2.length : Int) ≤ 12) && decide ((k2.length : Int) ≤ 12)) && ((decide ((l3.length : Int) ≤ 4) && decide ((k3.length : Int) ≤ 4)) && (decide ((l4.length : Int) ≤ 4) && decide ((k4.length : Int) ≤ 4))))) with _ | _
  · exact group_no he y1 z1 y2 z2 y3 z3 y4 z4 hq
  · simp only [Bool.and_eq_true, decide_eq_true_eq] at hq
    have q1 : l1.length ≤ 12 := by omega
    have p1 : k1.length ≤ 12 := by omega
    have I1 := i1 (by omega)
    have J1 := j1 (by omega)
    have q2 : l2.length ≤ 12 := by omega
    have p2 : k2.length ≤ 12 := by omega
    have I2 := i2 (by omega)
    have J2 := j2 (by omega)
    have q3 : l3.length ≤ 4 := by omega
    have p3 : k3.length ≤ 4 := by omega
    have I3 := i3 (by omega)
    have J3 := j3 (by omega)
    have q4 : l4.length ≤ 4 := by omega
    have p4 : k4.length ≤ 4 := by omega
    have I4 := i4 (by omega)
    have J4 := j4 (by omega)
    rcases hv : (uR f s1 l1 t1 k1 && (uR g s2 l2 t2 k2 && (fRightB s3 l3 t3 k3 && fRightB s4 l4 t4 k4))) with _ | _
    · exact group_bad he I1 J1 q1 p1 rfl rfl I2 J2 q2 p2 rfl rfl I3 J3 q3 p3 rfl rfl I4 J4 q4 p4 rfl rfl hv
    · simp only [Bool.and_eq_true] at hv
      obtain ⟨v1, v2, v3, v4⟩ := hv
      clear hq y1 z1 i1 j1 y2 z2 i2 j2 y3 z3 i3 j3 y4 z4 i4 j4
      obtain ⟨o1, x, rfl, rfl, rfl, rfl, g1⟩ := uR_good v1
      have F1 : Fr w _ _ _ x := ⟨⟨rfl, I1⟩, ⟨(den_sign x).symm, J1⟩⟩
      have Z1 : FSz 12 x := ⟨Sz.of q1, Sz.of p1⟩
      obtain ⟨o2, y, rfl, rfl, rfl, rfl, g2⟩ := uR_good v2
      have F2 : Fr w _ _ _ y := ⟨⟨rfl, I2⟩, ⟨(den_sign y).symm, J2⟩⟩
      have Z2 : FSz 12 y := ⟨Sz.of q2, Sz.of p2⟩
      obtain ⟨v, rfl, rfl, rfl, rfl⟩ := fright_of v3
      have F3 : Fr w _ _ _ v := ⟨⟨rfl, I3⟩, ⟨(den_sign v).symm, J3⟩⟩
      have Z3 : FSz 4 v := ⟨Sz.of q3, Sz.of p3⟩
      obtain ⟨z, rfl, rfl, rfl, rfl⟩ := fright_of v4
      have F4 : Fr w _ _ _ z := ⟨⟨rfl, I4⟩, ⟨(den_sign z).symm, J4⟩⟩
      have Z4 : FSz 4 z := ⟨Sz.of q4, Sz.of p4⟩
      rcases hs : ok (sumF f g) with _ | _
      · exact groupF_good he F1 Z1 q1 p1 o1 g1 F2 Z2 q2 p2 o2 g2 F3 Z3 q3 p3 F4 Z4 q4 p4 hs
      · exact groupG_good he F1 Z1 q1 p1 o1 g1 F2 Z2 q2 p2 o2 g2 F3 Z3 q3 p3 F4 Z4 q4 p4 hs
end Go.Proofs.YtmhdhabgdlefjaaGreatDoor.Un
