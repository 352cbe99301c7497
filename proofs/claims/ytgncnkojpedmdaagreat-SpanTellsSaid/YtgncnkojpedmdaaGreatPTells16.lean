/- The contracts of the reference of span: Inside, Meet. The contracts of the reference of span: Neg, Same. -/
import Derived.Test.YtgncnkojpedmdaaGreatPTells15
set_option maxRecDepth 100000
namespace Go.Proofs.YtgncnkojpedmdaaGreat.Sp
open Go.RowKit Bi

set_option maxHeartbeats 8000000 in
theorem r10inside_k {w : World} {s1 : Int} {a1 b1 : Option Addr} {n1 c1 m1 d1 : Nat} {x : Rat} {s2 : Int} {a2 b2 : Option Addr} {n2 c2 m2 d2 : Nat} {y : Rat} {s3 : Int} {a3 b3 : Option Addr} {n3 c3 m3 d3 : Nat} {p : Rat} {s4 : Int} {a4 b4 : Option Addr} {n4 c4 m4 d4 : Nat} {q : Rat} (h1 : Fr w s1 (.slice a1 n1 c1) (.slice b1 m1 d1) x) (z1 : FSz 1000 x) (h2 : Fr w s2 (.slice a2 n2 c2) (.slice b2 m2 d2) y) (z2 : FSz 1000 y) (h3 : Fr w s3 (.slice a3 n3 c3) (.slice b3 m3 d3) p) (z3 : FSz 1000 p) (h4 : Fr w s4 (.slice a4 n4 c4) (.slice b4 m4 d4) q) (z4 : FSz 1000 q) (hxy : x ≤ y) (hpq : p ≤ q) {r : Bool} (hr : ((decide (p ≤ x) && decide (x ≤ q)) && (decide (p ≤ y) && decide (y ≤ q))) = r) :
  Calls Tryz.prog 22 #[.agg #[.int .i64 s1, .slice a1 n1 c1, .int .i64 1, .slice b1 m1 d1, .int .i64 s2, .slice a2 n2 c2, .int .i64 1, .slice b2 m2 d2], .agg #[.int .i64 s3, .slice a3 n3 c3, .int .i64 1, .slice b3 m3 d3, .int .i64 s4, .slice a4 n4 c4, .int .i64 1, .slice b4 m4 d4]] w fun e w' => e = .returned (.bool r) ∧ RowKit.Below w.heap.size w w' := by
 have HXY := Lib.hid (decide_eq_true hxy)
 have HPQ := Lib.hid hpq
 obtain ⟨k, hk⟩ : ∃ k, (decide (p ≤ x) && decide (x ≤ q)) = k := ⟨_, rfl⟩
 obtain ⟨j, hj⟩ : ∃ j, (decide (p ≤ y) && decide (y ≤ q)) = j := ⟨_, rfl⟩
 rw [hk, hj] at hr
 have HK := Lib.hid hk
 have HJ := Lib.hid hj
 cases k
 ·obtain rfl : false = r := by rw [← hr]; rfl
  have E1 := Lib.hid h1.1.1
  have Z1 := Lib.hid z1
  have E2 := Lib.hid h2.1.1
  have Z2 := Lib.hid z2
  have E3 := Lib.hid h3.1.1
  have Z3 := Lib.hid z3
  have E4 := Lib.hid h4.1.1
  have Z4 := Lib.hid z4
  have s0 := (((((((((((Sf.start w).arg h1.2.2).arg h1.1.2).arg h2.2.2).arg h2.1.2).arg h3.2.2).arg h3.1.2).arg h4.2.2).arg h4.1.2).put [.int .i64 s1, .slice a1 n1 c1, .int .i64 1, .slice b1 m1 d1, .int .i64 s2, .slice a2 n2 c2, .int .i64 1, .slice b2 m2 d2] 28).put [.int .i64 s3, .slice a3 n3 c3, .int .i64 1, .slice b3 m3 d3, .int .i64 s4, .slice a4 n4 c4, .int .i64 1, .slice b4 m4 d4] 28)
  try simp only [World.size_alloc] at s0
  have S0 := Lib.hid s0
  clear s0
  clear hr hk hj hxy hpq h1 h2 h3 h4 z1 z2 z3 z4
  go_enter Tryz.func22, Tryz.ntmps22
  obtain ⟨q1, q2, q3, q4, q5, q6, q7, q8⟩ := Fb.cells8 (S0.out.box _ mq1)
  go_wp2_with fail
  clear q1 q2 q3 q4 q5 q6 q7 q8
  refine (r10right_v (S0.out.fr mq6 mq7 E1.out) Z1.out (S0.out.fr mq4 mq5 E2.out) Z2.out HXY.out).mono ?_
  rintro e w1 ⟨rfl, hb⟩
  have R1 := Lib.hid (S0.out.later hb)
  clear hb
  obtain ⟨q9, q10, q11, q12, q13, q14, q15, q16⟩ := Fb.cells8 (R1.out.box _ mq0)
  obtain ⟨q17, q18, q19, q20, q21, q22, q23, q24⟩ := Fb.cells8 (R1.out.box _ mq1)
  go_wp2_with fail
  clear q9 q10 q11 q12 q13 q14 q15 q16 q17 q18 q19 q20 q21 q22 q23 q24
  refine (r10has_k (R1.out.fr mq2 mq3 E3.out) Z3.out (R1.out.fr mq0 mq1 E4.out) Z4.out (R1.out.fr mq6 mq7 E1.out) Z1.out HPQ.out HK.out).mono ?_
  rintro e w2 ⟨rfl, hb⟩
  have R2 := Lib.hid (R1.out.later hb)
  clear hb
  go_wp2_with fail
  go_ret
  exact ⟨rfl, R2.out.below⟩
 ·obtain rfl : j = r := by rw [← hr]; rfl
  have E1 := Lib.hid h1.1.1
  have Z1 := Lib.hid z1
  have E2 := Lib.hid h2.1.1
  have Z2 := Lib.hid z2
  have E3 := Lib.hid h3.1.1
  have Z3 := Lib.hid z3
  have E4 := Lib.hid h4.1.1
  have Z4 := Lib.hid z4
  have s0 := (((((((((((Sf.start w).arg h1.2.2).arg h1.1.2).arg h2.2.2).arg h2.1.2).arg h3.2.2).arg h3.1.2).arg h4.2.2).arg h4.1.2).put [.int .i64 s1, .slice a1 n1 c1, .int .i64 1, .slice b1 m1 d1, .int .i64 s2, .slice a2 n2 c2, .int .i64 1, .slice b2 m2 d2] 28).put [.int .i64 s3, .slice a3 n3 c3, .int .i64 1, .slice b3 m3 d3, .int .i64 s4, .slice a4 n4 c4, .int .i64 1, .slice b4 m4 d4] 28)
  try simp only [World.size_alloc] at s0
  have S0 := Lib.hid s0
  clear s0
  clear hr hk hj hxy hpq h1 h2 h3 h4 z1 z2 z3 z4
  go_enter Tryz.func22, Tryz.ntmps22
  obtain ⟨q1, q2, q3, q4, q5, q6, q7, q8⟩ := Fb.cells8 (S0.out.box _ mq1)
  go_wp2_with fail
  clear q1 q2 q3 q4 q5 q6 q7 q8
  refine (r10right_v (S0.out.fr mq6 mq7 E1.out) Z1.out (S0.out.fr mq4 mq5 E2.out) Z2.out HXY.out).mono ?_
  rintro e w1 ⟨rfl, hb⟩
  have R1 := Lib.hid (S0.out.later hb)
  clear hb
  obtain ⟨q9, q10, q11, q12, q13, q14, q15, q16⟩ := Fb.cells8 (R1.out.box _ mq0)
  obtain ⟨q17, q18, q19, q20, q21, q22, q23, q24⟩ := Fb.cells8 (R1.out.box _ mq1)
  go_wp2_with fail
  clear q9 q10 q11 q12 q13 q14 q15 q16 q17 q18 q19 q20 q21 q22 q23 q24
  refine (r10has_k (R1.out.fr mq2 mq3 E3.out) Z3.out (R1.out.fr mq0 mq1 E4.out) Z4.out (R1.out.fr mq6 mq7 E1.out) Z1.out HPQ.out HK.out).mono ?_
  rintro e w2 ⟨rfl, hb⟩
  have R2 := Lib.hid (R1.out.later hb)
  clear hb
  obtain ⟨q25, q26, q27, q28, q29, q30, q31, q32⟩ := Fb.cells8 (R2.out.box _ mq0)
  obtain ⟨q33, q34, q35, q36, q37, q38, q39, q40⟩ := Fb.cells8 (R2.out.box _ mq1)
  go_wp2_with fail
  clear q25 q26 q27 q28 q29 q30 q31 q32 q33 q34 q35 q36 q37 q38 q39 q40
  refine (r10has_k (R2.out.fr mq2 mq3 E3.out) Z3.out (R2.out.fr mq0 mq1 E4.out) Z4.out (R2.out.fr mq4 mq5 E2.out) Z2.out HPQ.out HJ.out).mono ?_
  rintro e w3 ⟨rfl, hb⟩
  have R3 := Lib.hid (R2.out.later hb)
  clear hb
  go_wp2_with fail
  go_ret
  exact ⟨rfl, R3.out.below⟩

set_option maxHeartbeats 8000000 in
theorem r10inside_bad {w : World} {s1 t1 : Int} {a1 b1 : Option Addr} {n1 c1 m1 d1 : Nat} {l1 k1 : List Int} {s2 t2 : Int} {a2 b2 : Option Addr} {n2 c2 m2 d2 : Nat} {l2 k2 : List Int} {s3 t3 : Int} {a3 b3 : Option Addr} {n3 c3 m3 d3 : Nat} {l3 k3 : List Int} {s4 t4 : Int} {a4 b4 : Option Addr} {n4 c4 m4 d4 : Nat} {l4 k4 : List Int} (hl1 : Ints w (.slice a1 n1 c1) l1) (hk1 : Ints w (.slice b1 m1 d1) k1) (ll1 : l1.length ≤ 1000) (lk1 : k1.length ≤ 1000) (hl2 : Ints w (.slice a2 n2 c2) l2) (hk2 : Ints w (.slice b2 m2 d2) k2) (ll2 : l2.length ≤ 1000) (lk2 : k2.length ≤ 1000) (hl3 : Ints w (.slice a3 n3 c3) l3) (hk3 : Ints w (.slice b3 m3 d3) k3) (ll3 : l3.length ≤ 1000) (lk3 : k3.length ≤ 1000) (hl4 : Ints w (.slice a4 n4 c4) l4) (hk4 : Ints w (.slice b4 m4 d4) k4) (ll4 : l4.length ≤ 1000) (lk4 : k4.length ≤ 1000) (hr : (sR s1 l1 t1 k1 s2 l2 t2 k2 && sR s3 l3 t3 k3 s4 l4 t4 k4) = false) :
  Calls Tryz.prog 22 #[.agg #[.int .i64 s1, .slice a1 n1 c1, .int .i64 t1, .slice b1 m1 d1, .int .i64 s2, .slice a2 n2 c2, .int .i64 t2, .slice b2 m2 d2], .agg #[.int .i64 s3, .slice a3 n3 c3, .int .i64 t3, .slice b3 m3 d3, .int .i64 s4, .slice a4 n4 c4, .int .i64 t4, .slice b4 m4 d4]] w fun e w' => e = .returned (.bool false) ∧ RowKit.Below w.heap.size w w' := by
 rcases ea : sR s1 l1 t1 k1 s2 l2 t2 k2 with _ | _
 ·skip
  have LL1 := Lib.hid ll1
  have LK1 := Lib.hid lk1
  have LL2 := Lib.hid ll2
  have LK2 := Lib.hid lk2
  have LL3 := Lib.hid ll3
  have LK3 := Lib.hid lk3
  have LL4 := Lib.hid ll4
  have LK4 := Lib.hid lk4
  have EA := Lib.hid ea
  have s0 := (((((((((((Sf.start w).arg hk1).arg hl1).arg hk2).arg hl2).arg hk3).arg hl3).arg hk4).arg hl4).put [.int .i64 s1, .slice a1 n1 c1, .int .i64 t1, .slice b1 m1 d1, .int .i64 s2, .slice a2 n2 c2, .int .i64 t2, .slice b2 m2 d2] 28).put [.int .i64 s3, .slice a3 n3 c3, .int .i64 t3, .slice b3 m3 d3, .int .i64 s4, .slice a4 n4 c4, .int .i64 t4, .slice b4 m4 d4] 28)
  try simp only [World.size_alloc] at s0
  have S0 := Lib.hid s0
  clear s0
  clear hr ea hl1 hk1 ll1 lk1 hl2 hk2 ll2 lk2 hl3 hk3 ll3 lk3 hl4 hk4 ll4 lk4
  go_enter Tryz.func22, Tryz.ntmps22
  obtain ⟨q1, q2, q3, q4, q5, q6, q7, q8⟩ := Fb.cells8 (S0.out.box _ mq1)
  go_wp2_with fail
  clear q1 q2 q3 q4 q5 q6 q7 q8
  refine (r10right_raw (S0.out.ints (.slice a1 n1 c1, l1) mq6) (S0.out.ints (.slice b1 m1 d1, k1) mq7) LL1.out LK1.out (S0.out.ints (.slice a2 n2 c2, l2) mq4) (S0.out.ints (.slice b2 m2 d2, k2) mq5) LL2.out LK2.out EA.out).mono ?_
  rintro e w1 ⟨rfl, hb⟩
  have R1 := Lib.hid (S0.out.later hb)
  clear hb
  go_wp2_with fail
  go_ret
  exact ⟨rfl, R1.out.below⟩
 ·have eb : sR s3 l3 t3 k3 s4 l4 t4 k4 = false := by rw [ea] at hr; simpa using hr
  have ec : (sR s3 l3 t3 k3 s4 l4 t4 k4 && fRightB s1 l1 t1 k1) = false := by rw [eb]; rfl
  have LL1 := Lib.hid ll1
  have LK1 := Lib.hid lk1
  have LL2 := Lib.hid ll2
  have LK2 := Lib.hid lk2
  have LL3 := Lib.hid ll3
  have LK3 := Lib.hid lk3
  have LL4 := Lib.hid ll4
  have LK4 := Lib.hid lk4
  have EA := Lib.hid ea
  have EB := Lib.hid ec
  have s0 := (((((((((((Sf.start w).arg hk1).arg hl1).arg hk2).arg hl2).arg hk3).arg hl3).arg hk4).arg hl4).put [.int .i64 s1, .slice a1 n1 c1, .int .i64 t1, .slice b1 m1 d1, .int .i64 s2, .slice a2 n2 c2, .int .i64 t2, .slice b2 m2 d2] 28).put [.int .i64 s3, .slice a3 n3 c3, .int .i64 t3, .slice b3 m3 d3, .int .i64 s4, .slice a4 n4 c4, .int .i64 t4, .slice b4 m4 d4] 28)
  try simp only [World.size_alloc] at s0
  have S0 := Lib.hid s0
  clear s0
  clear hr ea hl1 hk1 ll1 lk1 hl2 hk2 ll2 lk2 hl3 hk3 ll3 lk3 hl4 hk4 ll4 lk4 eb ec
  go_enter Tryz.func22, Tryz.ntmps22
  obtain ⟨q1, q2, q3, q4, q5, q6, q7, q8⟩ := Fb.cells8 (S0.out.box _ mq1)
  go_wp2_with fail
  clear q1 q2 q3 q4 q5 q6 q7 q8
  refine (r10right_raw (S0.out.ints (.slice a1 n1 c1, l1) mq6) (S0.out.ints (.slice b1 m1 d1, k1) mq7) LL1.out LK1.out (S0.out.ints (.slice a2 n2 c2, l2) mq4) (S0.out.ints (.slice b2 m2 d2, k2) mq5) LL2.out LK2.out EA.out).mono ?_
  rintro e w1 ⟨rfl, hb⟩
  have R1 := Lib.hid (S0.out.later hb)
  clear hb
  obtain ⟨q9, q10, q11, q12, q13, q14, q15, q16⟩ := Fb.cells8 (R1.out.box _ mq0)
  obtain ⟨q17, q18, q19, q20, q21, q22, q23, q24⟩ := Fb.cells8 (R1.out.box _ mq1)
  go_wp2_with fail
  clear q9 q10 q11 q12 q13 q14 q15 q16 q17 q18 q19 q20 q21 q22 q23 q24
  refine (r10has_bad (R1.out.ints (.slice a3 n3 c3, l3) mq2) (R1.out.ints (.slice b3 m3 d3, k3) mq3) LL3.out LK3.out (R1.out.ints (.slice a4 n4 c4, l4) mq0) (R1.out.ints (.slice b4 m4 d4, k4) mq1) LL4.out LK4.out (R1.out.ints (.slice a1 n1 c1, l1) mq6) (R1.out.ints (.slice b1 m1 d1, k1) mq7) LL1.out LK1.out EB.out).mono ?_
  rintro e w2 ⟨rfl, hb⟩
  have R2 := Lib.hid (R1.out.later hb)
  clear hb
  go_wp2_with fail
  go_ret
  exact ⟨rfl, R2.out.below⟩

set_option maxHeartbeats 8000000 in
theorem r10meet_aa_some {w : World} {s1 : Int} {a1 b1 : Option Addr} {n1 c1 m1 d1 : Nat} {x : Rat} {s2 : Int} {a2 b2 : Option Addr} {n2 c2 m2 d2 : Nat} {y : Rat} {s3 : Int} {a3 b3 : Option Addr} {n3 c3 m3 d3 : Nat} {p : Rat} {s4 : Int} {a4 b4 : Option Addr} {n4 c4 m4 d4 : Nat} {q : Rat} (h1 : Fr w s1 (.slice a1 n1 c1) (.slice b1 m1 d1) x) (z1 : FSz 1000 x) (h2 : Fr w s2 (.slice a2 n2 c2) (.slice b2 m2 d2) y) (z2 : FSz 1000 y) (h3 : Fr w s3 (.slice a3 n3 c3) (.slice b3 m3 d3) p) (z3 : FSz 1000 p) (h4 : Fr w s4 (.slice a4 n4 c4) (.slice b4 m4 d4) q) (z4 : FSz 1000 q) (hxy : x ≤ y) (hpq : p ≤ q) (hl : 0 ≤ cmpR x p) (hh : cmpR y q ≤ 0) (hm : x ≤ y) :
  Calls Tryz.prog 13 #[.agg #[.int .i64 s1, .slice a1 n1 c1, .int .i64 1, .slice b1 m1 d1, .int .i64 s2, .slice a2 n2 c2, .int .i64 1, .slice b2 m2 d2], .agg #[.int .i64 s3, .slice a3 n3 c3, .int .i64 1, .slice b3 m3 d3, .int .i64 s4, .slice a4 n4 c4, .int .i64 1, .slice b4 m4 d4]] w fun e w' => e = .returned (.tuple #[.agg #[.int .i64 s1, .slice a1 n1 c1, .int .i64 1, .slice b1 m1 d1, .int .i64 s2, .slice a2 n2 c2, .int .i64 1, .slice b2 m2 d2], .bool true]) ∧ RowKit.Below w.heap.size w w' := by
 have HXY := Lib.hid (decide_eq_true hxy)
 have HPQ := Lib.hid (decide_eq_true hpq)
 have HL := Lib.hid hl
 have HH := Lib.hid hh
 obtain ⟨k, hk⟩ : ∃ k, cmpR x y = k := ⟨_, rfl⟩
 have HK := Lib.hid hk
 have gk : decide (k ≤ 0) = true := by rw [← hk, cmp_le]; exact decide_eq_true hm
 have gk2 : decide (0 < k) = false := by
  have := of_decide_eq_true gk
  simp; omega
 have E1 := Lib.hid h1.1.1
 have Z1 := Lib.hid z1
 have E2 := Lib.hid h2.1.1
 have Z2 := Lib.hid z2
 have E3 := Lib.hid h3.1.1
 have Z3 := Lib.hid z3
 have E4 := Lib.hid h4.1.1
 have Z4 := Lib.hid z4
 have s0 := ((((((((((((Sf.start w).arg h1.2.2).arg h1.1.2).arg h2.2.2).arg h2.1.2).arg h3.2.2).arg h3.1.2).arg h4.2.2).arg h4.1.2).put [.int .i64 s1, .slice a1 n1 c1, .int .i64 1, .slice b1 m1 d1, .int .i64 s2, .slice a2 n2 c2, .int .i64 1, .slice b2 m2 d2] 28).put [.int .i64 s3, .slice a3 n3 c3, .int .i64 1, .slice b3 m3 d3, .int .i64 s4, .slice a4 n4 c4, .int .i64 1, .slice b4 m4 d4] 28).put [.int .i64 0, .slice none 0 0, .int .i64 0, .slice none 0 0, .int .i64 0, .slice none 0 0, .int .i64 0, .slice none 0 0] 28)
 try simp only [World.size_alloc] at s0
 have S0 := Lib.hid s0
 clear s0
 clear hxy hpq hl hh hm hk h1 h2 h3 h4 z1 z2 z3 z4
 go_enter Tryz.func13, Tryz.ntmps13
 obtain ⟨q1, q2, q3, q4, q5, q6, q7, q8⟩ := Fb.cells8 (S0.out.box _ mq2)
 go_wp2_with fail
 clear q1 q2 q3 q4 q5 q6 q7 q8
 refine (r10right_v (S0.out.fr mq6 mq7 E1.out) Z1.out (S0.out.fr mq4 mq5 E2.out) Z2.out HXY.out).mono ?_
 rintro e w1 ⟨rfl, hb⟩
 have R1 := Lib.hid (S0.out.later hb)
 clear hb
 obtain ⟨q9, q10, q11, q12, q13, q14, q15, q16⟩ := Fb.cells8 (R1.out.box _ mq1)
 go_wp2_with fail
 clear q9 q10 q11 q12 q13 q14 q15 q16
 refine (r10right_v (R1.out.fr mq2 mq3 E3.out) Z3.out (R1.out.fr mq0 mq1 E4.out) Z4.out HPQ.out).mono ?_
 rintro e w2 ⟨rfl, hb⟩
 have R2 := Lib.hid (R1.out.later hb)
 clear hb
 obtain ⟨q17, q18, q19, q20, q21, q22, q23, q24⟩ := Fb.cells8 (R2.out.box _ mq1)
 obtain ⟨q25, q26, q27, q28, q29, q30, q31, q32⟩ := Fb.cells8 (R2.out.box _ mq2)
 go_wp2_with fail
 clear q17 q18 q19 q20 q21 q22 q23 q24 q25 q26 q27 q28 q29 q30 q31 q32
 refine (rfmax_a (R2.out.fr mq6 mq7 E1.out) (R2.out.fr mq2 mq3 E3.out) Z1.out Z3.out HL.out).mono ?_
 rintro e w3 ⟨rfl, hb⟩
 have R3 := Lib.hid (R2.out.later hb)
 clear hb
 have P33 := Lib.hid (R3.out.put [.int .i64 0, .slice none 0 0, .int .i64 0, .slice none 0 0] 26)
 have Q33 := Lib.hid (Sf.row (pre := []) P33.out [.int .i64 s1, .slice a1 n1 c1, .int .i64 1, .slice b1 m1 d1])
 obtain ⟨q34, q35, q36, q37, q38, q39, q40, q41⟩ := Fb.cells8 (Q33.out.box _ mq2)
 obtain ⟨q42, q43, q44, q45, q46, q47, q48, q49⟩ := Fb.cells8 (Q33.out.box _ mq3)
 go_wp2_with (first | refine wpList_store_row rfl _ _ _ rfl _ #[.int .i64 s1, .slice a1 n1 c1, .int .i64 1, .slice b1 m1 d1] rfl rfl _ _ (P33.out.box _ List.mem_cons_self) (by kernel_rfl) rfl (by simp [Value.oneCell']) ?_)
 clear q34 q35 q36 q37 q38 q39 q40 q41 q42 q43 q44 q45 q46 q47 q48 q49
 refine (rfmin_a (Q33.out.fr mq4 mq5 E2.out) (Q33.out.fr mq0 mq1 E4.out) Z2.out Z4.out HH.out).mono ?_
 rintro e w4 ⟨rfl, hb⟩
 have R4 := Lib.hid (Q33.out.later hb)
 clear hb
 have P50 := Lib.hid (R4.out.put [.int .i64 0, .slice none 0 0, .int .i64 0, .slice none 0 0] 26)
 have Q50 := Lib.hid (Sf.row (pre := []) P50.out [.int .i64 s2, .slice a2 n2 c2, .int .i64 1, .slice b2 m2 d2])
 obtain ⟨q51, q52, q53, q54⟩ := Fb.cells4 (Q50.out.box _ mq0)
 obtain ⟨q55, q56, q57, q58⟩ := Fb.cells4 (Q50.out.box _ mq1)
 go_wp2_with (first | refine wpList_store_row rfl _ _ _ rfl _ #[.int .i64 s2, .slice a2 n2 c2, .int .i64 1, .slice b2 m2 d2] rfl rfl _ _ (P50.out.box _ List.mem_cons_self) (by kernel_rfl) rfl (by simp [Value.oneCell']) ?_)
 clear q51 q52 q53 q54 q55 q56 q57 q58
 refine (rfcmp_r (Q50.out.fr mq6 mq7 E1.out) (Q50.out.fr mq4 mq5 E2.out) Z1.out Z2.out HK.out).mono ?_
 rintro e w5 ⟨rfl, hb⟩
 have R5 := Lib.hid (Q50.out.later hb)
 clear hb
 obtain ⟨q59, q60, q61, q62⟩ := Fb.cells4 (R5.out.box _ mq0)
 obtain ⟨q63, q64, q65, q66⟩ := Fb.cells4 (R5.out.box _ mq1)
 have Q67 := Lib.hid (Sf.row (pre := [(w4.heap.size, 26, [.int .i64 s2, .slice a2 n2 c2, .int .i64 1, .slice b2 m2 d2]), (w3.heap.size, 26, [.int .i64 s1, .slice a1 n1 c1, .int .i64 1, .slice b1 m1 d1])]) R5.out [.int .i64 s1, .slice a1 n1 c1, .int .i64 1, .slice b1 m1 d1, .int .i64 s2, .slice a2 n2 c2, .int .i64 1, .slice b2 m2 d2])
 go_wp2_with (first | refine wpList_store_row rfl _ _ _ rfl _ #[.int .i64 s1, .slice a1 n1 c1, .int .i64 1, .slice b1 m1 d1, .int .i64 s2, .slice a2 n2 c2, .int .i64 1, .slice b2 m2 d2] rfl rfl _ _ (R5.out.box _ mq2) (by kernel_rfl) rfl (by simp [Value.oneCell']) ?_)
 clear q59 q60 q61 q62 q63 q64 q65 q66
 refine bodyPost_ret (ret_row rfl _ _ _ _ rfl (run_loadVar_row _ _ _ _ _ (0, 0) _ (Q67.out.box _ mq2) Tryz.underlying28 rfl (by kernel_rfl))) rfl ⟨rfl, Q67.out.below⟩

set_option maxHeartbeats 8000000 in
theorem r10meet_aa_none {w : World} {s1 : Int} {a1 b1 : Option Addr} {n1 c1 m1 d1 : Nat} {x : Rat} {s2 : Int} {a2 b2 : Option Addr} {n2 c2 m2 d2 : Nat} {y : Rat} {s3 : Int} {a3 b3 : Option Addr} {n3 c3 m3 d3 : Nat} {p : Rat} {s4 : Int} {a4 b4 : Option Addr} {n4 c4 m4 d4 : Nat} {q : Rat} (h1 : Fr w s1 (.slice a1 n1 c1) (.slice b1 m1 d1) x) (z1 : FSz 1000 x) (h2 : Fr w s2 (.slice a2 n2 c2) (.slice b2 m2 d2) y) (z2 : FSz 1000 y) (h3 : Fr w s3 (.slice a3 n3 c3) (.slice b3 m3 d3) p) (z3 : FSz 1000 p) (h4 : Fr w s4 (.slice a4 n4 c4) (.slice b4 m4 d4) q) (z4 : FSz 1000 q) (hxy : x ≤ y) (hpq : p ≤ q) (hl : 0 ≤ cmpR x p) (hh : cmpR y q ≤ 0) (hm : ¬ x ≤ y) :
  Calls Tryz.prog 13 #[.agg #[.int .i64 s1, .slice a1 n1 c1, .int .i64 1, .slice b1 m1 d1, .int .i64 s2, .slice a2 n2 c2, .int .i64 1, .slice b2 m2 d2], .agg #[.int .i64 s3, .slice a3 n3 c3, .int .i64 1, .slice b3 m3 d3, .int .i64 s4, .slice a4 n4 c4, .int .i64 1, .slice b4 m4 d4]] w fun e w' => e = .returned (.tuple #[.agg #[.int .i64 0, .slice none 0 0, .int .i64 0, .slice none 0 0, .int .i64 0, .slice none 0 0, .int .i64 0, .slice none 0 0], .bool false]) ∧ RowKit.Below w.heap.size w w' := by
 have HXY := Lib.hid (decide_eq_true hxy)
 have HPQ := Lib.hid (decide_eq_true hpq)
 have HL := Lib.hid hl
 have HH := Lib.hid hh
 obtain ⟨k, hk⟩ : ∃ k, cmpR x y = k := ⟨_, rfl⟩
 have HK := Lib.hid hk
 have gk : decide (k ≤ 0) = false := by rw [← hk, cmp_le]; exact decide_eq_false hm
 have gk2 : decide (0 < k) = true := by
  have := of_decide_eq_false gk
  simp; omega
 have E1 := Lib.hid h1.1.1
 have Z1 := Lib.hid z1
 have E2 := Lib.hid h2.1.1
 have Z2 := Lib.hid z2
 have E3 := Lib.hid h3.1.1
 have Z3 := Lib.hid z3
 have E4 := Lib.hid h4.1.1
 have Z4 := Lib.hid z4
 have s0 := ((((((((((((Sf.start w).arg h1.2.2).arg h1.1.2).arg h2.2.2).arg h2.1.2).arg h3.2.2).arg h3.1.2).arg h4.2.2).arg h4.1.2).put [.int .i64 s1, .slice a1 n1 c1, .int .i64 1, .slice b1 m1 d1, .int .i64 s2, .slice a2 n2 c2, .int .i64 1, .slice b2 m2 d2] 28).put [.int .i64 s3, .slice a3 n3 c3, .int .i64 1, .slice b3 m3 d3, .int .i64 s4, .slice a4 n4 c4, .int .i64 1, .slice b4 m4 d4] 28).put [.int .i64 0, .slice none 0 0, .int .i64 0, .slice none 0 0, .int .i64 0, .slice none 0 0, .int .i64 0, .slice none 0 0] 28)
 try simp only [World.size_alloc] at s0
 have S0 := Lib.hid s0
 clear s0
 clear hxy hpq hl hh hm hk h1 h2 h3 h4 z1 z2 z3 z4
 go_enter Tryz.func13, Tryz.ntmps13
 obtain ⟨q1, q2, q3, q4, q5, q6, q7, q8⟩ := Fb.cells8 (S0.out.box _ mq2)
 go_wp2_with fail
 clear q1 q2 q3 q4 q5 q6 q7 q8
 refine (r10right_v (S0.out.fr mq6 mq7 E1.out) Z1.out (S0.out.fr mq4 mq5 E2.out) Z2.out HXY.out).mono ?_
 rintro e w1 ⟨rfl, hb⟩
 have R1 := Lib.hid (S0.out.later hb)
 clear hb
 obtain ⟨q9, q10, q11, q12, q13, q14, q15, q16⟩ := Fb.cells8 (R1.out.box _ mq1)
 go_wp2_with fail
 clear q9 q10 q11 q12 q13 q14 q15 q16
 refine (r10right_v (R1.out.fr mq2 mq3 E3.out) Z3.out (R1.out.fr mq0 mq1 E4.out) Z4.out HPQ.out).mono ?_
 rintro e w2 ⟨rfl, hb⟩
 have R2 := Lib.hid (R1.out.later hb)
 clear hb
 obtain ⟨q17, q18, q19, q20, q21, q22, q23, q24⟩ := Fb.cells8 (R2.out.box _ mq1)
 obtain ⟨q25, q26, q27, q28, q29, q30, q31, q32⟩ := Fb.cells8 (R2.out.box _ mq2)
 go_wp2_with fail
 clear q17 q18 q19 q20 q21 q22 q23 q24 q25 q26 q27 q28 q29 q30 q31 q32
 refine (rfmax_a (R2.out.fr mq6 mq7 E1.out) (R2.out.fr mq2 mq3 E3.out) Z1.out Z3.out HL.out).mono ?_
 rintro e w3 ⟨rfl, hb⟩
 have R3 := Lib.hid (R2.out.later hb)
 clear hb
 have P33 := Lib.hid (R3.out.put [.int .i64 0, .slice none 0 0, .int .i64 0, .slice none 0 0] 26)
 have Q33 := Lib.hid (Sf.row (pre := []) P33.out [.int .i64 s1, .slice a1 n1 c1, .int .i64 1, .slice b1 m1 d1])
 obtain ⟨q34, q35, q36, q37, q38, q39, q40, q41⟩ := Fb.cells8 (Q33.out.box _ mq2)
 obtain ⟨q42, q43, q44, q45, q46, q47, q48, q49⟩ := Fb.cells8 (Q33.out.box _ mq3)
 go_wp2_with (first | refine wpList_store_row rfl _ _ _ rfl _ #[.int .i64 s1, .slice a1 n1 c1, .int .i64 1, .slice b1 m1 d1] rfl rfl _ _ (P33.out.box _ List.mem_cons_self) (by kernel_rfl) rfl (by simp [Value.oneCell']) ?_)
 clear q34 q35 q36 q37 q38 q39 q40 q41 q42 q43 q44 q45 q46 q47 q48 q49
 refine (rfmin_a (Q33.out.fr mq4 mq5 E2.out) (Q33.out.fr mq0 mq1 E4.out) Z2.out Z4.out HH.out).mono ?_
 rintro e w4 ⟨rfl, hb⟩
 have R4 := Lib.hid (Q33.out.later hb)
 clear hb
 have P50 := Lib.hid (R4.out.put [.int .i64 0, .slice none 0 0, .int .i64 0, .slice none 0 0] 26)
 have Q50 := Lib.hid (Sf.row (pre := []) P50.out [.int .i64 s2, .slice a2 n2 c2, .int .i64 1, .slice b2 m2 d2])
 obtain ⟨q51, q52, q53, q54⟩ := Fb.cells4 (Q50.out.box _ mq0)
 obtain ⟨q55, q56, q57, q58⟩ := Fb.cells4 (Q50.out.box _ mq1)
 go_wp2_with (first | refine wpList_store_row rfl _ _ _ rfl _ #[.int .i64 s2, .slice a2 n2 c2, .int .i64 1, .slice b2 m2 d2] rfl rfl _ _ (P50.out.box _ List.mem_cons_self) (by kernel_rfl) rfl (by simp [Value.oneCell']) ?_)
 clear q51 q52 q53 q54 q55 q56 q57 q58
 refine (rfcmp_r (Q50.out.fr mq6 mq7 E1.out) (Q50.out.fr mq4 mq5 E2.out) Z1.out Z2.out HK.out).mono ?_
 rintro e w5 ⟨rfl, hb⟩
 have R5 := Lib.hid (Q50.out.later hb)
 clear hb
 have Q59 := Lib.hid (Sf.row (pre := [(w4.heap.size, 26, [.int .i64 s2, .slice a2 n2 c2, .int .i64 1, .slice b2 m2 d2]), (w3.heap.size, 26, [.int .i64 s1, .slice a1 n1 c1, .int .i64 1, .slice b1 m1 d1])]) R5.out [.int .i64 0, .slice none 0 0, .int .i64 0, .slice none 0 0, .int .i64 0, .slice none 0 0, .int .i64 0, .slice none 0 0])
 go_wp2_with (first | refine wpList_store_row rfl _ _ _ rfl _ #[.int .i64 0, .slice none 0 0, .int .i64 0, .slice none 0 0, .int .i64 0, .slice none 0 0, .int .i64 0, .slice none 0 0] rfl rfl _ _ (R5.out.box _ mq2) (by kernel_rfl) rfl (by simp [Value.oneCell']) ?_)
 refine bodyPost_ret (ret_row rfl _ _ _ _ rfl (run_loadVar_row _ _ _ _ _ (0, 0) _ (Q59.out.box _ mq2) Tryz.underlying28 rfl (by kernel_rfl))) rfl ⟨rfl, Q59.out.below⟩

set_option maxHeartbeats 8000000 in
theorem r10meet_ab_some {w : World} {s1 : Int} {a1 b1 : Option Addr} {n1 c1 m1 d1 : Nat} {x : Rat} {s2 : Int} {a2 b2 : Option Addr} {n2 c2 m2 d2 : Nat} {y : Rat} {s3 : Int} {a3 b3 : Option Addr} {n3 c3 m3 d3 : Nat} {p : Rat} {s4 : Int} {a4 b4 : Option Addr} {n4 c4 m4 d4 : Nat} {q : Rat} (h1 : Fr w s1 (.slice a1 n1 c1) (.slice b1 m1 d1) x) (z1 : FSz 1000 x) (h2 : Fr w s2 (.slice a2 n2 c2) (.slice b2 m2 d2) y) (z2 : FSz 1000 y) (h3 : Fr w s3 (.slice a3 n3 c3) (.slice b3 m3 d3) p) (z3 : FSz 1000 p) (h4 : Fr w s4 (.slice a4 n4 c4) (.slice b4 m4 d4) q) (z4 : FSz 1000 q) (hxy : x ≤ y) (hpq : p ≤ q) (hl : 0 ≤ cmpR x p) (hh : 0 < cmpR y q) (hm : x ≤ q) :
  Calls Tryz.prog 13 #[.agg #[.int .i64 s1, .slice a1 n1 c1, .int .i64 1, .slice b1 m1 d1, .int .i64 s2, .slice a2 n2 c2, .int .i64 1, .slice b2 m2 d2], .agg #[.int .i64 s3, .slice a3 n3 c3, .int .i64 1, .slice b3 m3 d3, .int .i64 s4, .slice a4 n4 c4, .int .i64 1, .slice b4 m4 d4]] w fun e w' => e = .returned (.tuple #[.agg #[.int .i64 s1, .slice a1 n1 c1, .int .i64 1, .slice b1 m1 d1, .int .i64 s4, .slice a4 n4 c4, .int .i64 1, .slice b4 m4 d4], .bool true]) ∧ RowKit.Below w.heap.size w w' := by
 have HXY := Lib.hid (decide_eq_true hxy)
 have HPQ := Lib.hid (decide_eq_true hpq)
 have HL := Lib.hid hl
 have HH := Lib.hid hh
 obtain ⟨k, hk⟩ : ∃ k, cmpR x q = k := ⟨_, rfl⟩
 have HK := Lib.hid hk
 have gk : decide (k ≤ 0) = true := by rw [← hk, cmp_le]; exact decide_eq_true hm
 have gk2 : decide (0 < k) = false := by
  have := of_decide_eq_true gk
  simp; omega
 have E1 := Lib.hid h1.1.1
 have Z1 := Lib.hid z1
 have E2 := Lib.hid h2.1.1
 have Z2 := Lib.hid z2
 have E3 := Lib.hid h3.1.1
 have Z3 := Lib.hid z3
 have E4 := Lib.hid h4.1.1
 have Z4 := Lib.hid z4
 have s0 := ((((((((((((Sf.start w).arg h1.2.2).arg h1.1.2).arg h2.2.2).arg h2.1.2).arg h3.2.2).arg h3.1.2).arg h4.2.2).arg h4.1.2).put [.int .i64 s1, .slice a1 n1 c1, .int .i64 1, .slice b1 m1 d1, .int .i64 s2, .slice a2 n2 c2, .int .i64 1, .slice b2 m2 d2] 28).put [.int .i64 s3, .slice a3 n3 c3, .int .i64 1, .slice b3 m3 d3, .int .i64 s4, .slice a4 n4 c4, .int .i64 1, .slice b4 m4 d4] 28).put [.int .i64 0, .slice none 0 0, .int .i64 0, .slice none 0 0, .int .i64 0, .slice none 0 0, .int .i64 0, .slice none 0 0] 28)
 try simp only [World.size_alloc] at s0
 have S0 := Lib.hid s0
 clear s0
 clear hxy hpq hl hh hm hk h1 h2 h3 h4 z1 z2 z3 z4
 go_enter Tryz.func13, Tryz.ntmps13
 obtain ⟨q1, q2, q3, q4, q5, q6, q7, q8⟩ := Fb.cells8 (S0.out.box _ mq2)
 go_wp2_with fail
 clear q1 q2 q3 q4 q5 q6 q7 q8
 refine (r10right_v (S0.out.fr mq6 mq7 E1.out) Z1.out (S0.out.fr mq4 mq5 E2.out) Z2.out HXY.out).mono ?_
 rintro e w1 ⟨rfl, hb⟩
 have R1 := Lib.hid (S0.out.later hb)
 clear hb
 obtain ⟨q9, q10, q11, q12, q13, q14, q15, q16⟩ := Fb.cells8 (R1.out.box _ mq1)
 go_wp2_with fail
 clear q9 q10 q11 q12 q13 q14 q15 q16
 refine (r10right_v (R1.out.fr mq2 mq3 E3.out) Z3.out (R1.out.fr mq0 mq1 E4.out) Z4.out HPQ.out).mono ?_
 rintro e w2 ⟨rfl, hb⟩
 have R2 := Lib.hid (R1.out.later hb)
 clear hb
 obtain ⟨q17, q18, q19, q20, q21, q22, q23, q24⟩ := Fb.cells8 (R2.out.box _ mq1)
 obtain ⟨q25, q26, q27, q28, q29, q30, q31, q32⟩ := Fb.cells8 (R2.out.box _ mq2)
 go_wp2_with fail
 clear q17 q18 q19 q20 q21 q22 q23 q24 q25 q26 q27 q28 q29 q30 q31 q32
 refine (rfmax_a (R2.out.fr mq6 mq7 E1.out) (R2.out.fr mq2 mq3 E3.out) Z1.out Z3.out HL.out).mono ?_
 rintro e w3 ⟨rfl, hb⟩
 have R3 := Lib.hid (R2.out.later hb)
 clear hb
 have P33 := Lib.hid (R3.out.put [.int .i64 0, .slice none 0 0, .int .i64 0, .slice none 0 0] 26)
 have Q33 := Lib.hid (Sf.row (pre := []) P33.out [.int .i64 s1, .slice a1 n1 c1, .int .i64 1, .slice b1 m1 d1])
 obtain ⟨q34, q35, q36, q37, q38, q39, q40, q41⟩ := Fb.cells8 (Q33.out.box _ mq2)
 obtain ⟨q42, q43, q44, q45, q46, q47, q48, q49⟩ := Fb.cells8 (Q33.out.box _ mq3)
 go_wp2_with (first | refine wpList_store_row rfl _ _ _ rfl _ #[.int .i64 s1, .slice a1 n1 c1, .int .i64 1, .slice b1 m1 d1] rfl rfl _ _ (P33.out.box _ List.mem_cons_self) (by kernel_rfl) rfl (by simp [Value.oneCell']) ?_)
 clear q34 q35 q36 q37 q38 q39 q40 q41 q42 q43 q44 q45 q46 q47 q48 q49
 refine (rfmin_b (Q33.out.fr mq4 mq5 E2.out) (Q33.out.fr mq0 mq1 E4.out) Z2.out Z4.out HH.out).mono ?_
 rintro e w4 ⟨rfl, hb⟩
 have R4 := Lib.hid (Q33.out.later hb)
 clear hb
 have P50 := Lib.hid (R4.out.put [.int .i64 0, .slice none 0 0, .int .i64 0, .slice none 0 0] 26)
 have Q50 := Lib.hid (Sf.row (pre := []) P50.out [.int .i64 s4, .slice a4 n4 c4, .int .i64 1, .slice b4 m4 d4])
 obtain ⟨q51, q52, q53, q54⟩ := Fb.cells4 (Q50.out.box _ mq0)
 obtain ⟨q55, q56, q57, q58⟩ := Fb.cells4 (Q50.out.box _ mq1)
 go_wp2_with (first | refine wpList_store_row rfl _ _ _ rfl _ #[.int .i64 s4, .slice a4 n4 c4, .int .i64 1, .slice b4 m4 d4] rfl rfl _ _ (P50.out.box _ List.mem_cons_self) (by kernel_rfl) rfl (by simp [Value.oneCell']) ?_)
 clear q51 q52 q53 q54 q55 q56 q57 q58
 refine (rfcmp_r (Q50.out.fr mq6 mq7 E1.out) (Q50.out.fr mq0 mq1 E4.out) Z1.out Z4.out HK.out).mono ?_
 rintro e w5 ⟨rfl, hb⟩
 have R5 := Lib.hid (Q50.out.later hb)
 clear hb
 obtain ⟨q59, q60, q61, q62⟩ := Fb.cells4 (R5.out.box _ mq0)
 obtain ⟨q63, q64, q65, q66⟩ := Fb.cells4 (R5.out.box _ mq1)
 have Q67 := Lib.hid (Sf.row (pre := [(w4.heap.size, 26, [.int .i64 s4, .slice a4 n4 c4, .int .i64 1, .slice b4 m4 d4]), (w3.heap.size, 26, [.int .i64 s1, .slice a1 n1 c1, .int .i64 1, .slice b1 m1 d1])]) R5.out [.int .i64 s1, .slice a1 n1 c1, .int .i64 1, .slice b1 m1 d1, .int .i64 s4, .slice a4 n4 c4, .int .i64 1, .slice b4 m4 d4])
 go_wp2_with (first | refine wpList_store_row rfl _ _ _ rfl _ #[.int .i64 s1, .slice a1 n1 c1, .int .i64 1, .slice b1 m1 d1, .int .i64 s4, .slice a4 n4 c4, .int .i64 1, .slice b4 m4 d4] rfl rfl _ _ (R5.out.box _ mq2) (by kernel_rfl) rfl (by simp [Value.oneCell']) ?_)
 clear q59 q60 q61 q62 q63 q64 q65 q66
 refine bodyPost_ret (ret_row rfl _ _ _ _ rfl (run_loadVar_row _ _ _ _ _ (0, 0) _ (Q67.out.box _ mq2) Tryz.underlying28 rfl (by kernel_rfl))) rfl ⟨rfl, Q67.out.below⟩

set_option maxHeartbeats 8000000 in
theorem r10meet_ab_none {w : World} {s1 : Int} {a1 b1 : Option Addr} {n1 c1 m1 d1 : Nat} {x : Rat} {s2 : Int} {a2 b2 : Option Addr} {n2 c2 m2 d2 : Nat} {y : Rat} {s3 : Int} {a3 b3 : Option Addr} {n3 c3 m3 d3 : Nat} {p : Rat} {s4 : Int} {a4 b4 : Option Addr} {n4 c4 m4 d4 : Nat} {q : Rat} (h1 : Fr w s1 (.slice a1 n1 c1) (.slice b1 m1 d1) x) (z1 : FSz 1000 x) (h2 : Fr w s2 (.slice a2 n2 c2) (.slice b2 m2 d2) y) (z2 : FSz 1000 y) (h3 : Fr w s3 (.slice a3 n3 c3) (.slice b3 m3 d3) p) (z3 : FSz 1000 p) (h4 : Fr w s4 (.slice a4 n4 c4) (.slice b4 m4 d4) q) (z4 : FSz 1000 q) (hxy : x ≤ y) (hpq : p ≤ q) (hl : 0 ≤ cmpR x p) (hh : 0 < cmpR y q) (hm : ¬ x ≤ q) :
  Calls Tryz.prog 13 #[.agg #[.int .i64 s1, .slice a1 n1 c1, .int .i64 1, .slice b1 m1 d1, .int .i64 s2, .slice a2 n2 c2, .int .i64 1, .slice b2 m2 d2], .agg #[.int .i64 s3, .slice a3 n3 c3, .int .i64 1, .slice b3 m3 d3, .int .i64 s4, .slice a4 n4 c4, .int .i64 1, .slice b4 m4 d4]] w fun e w' => e = .returned (.tuple #[.agg #[.int .i64 0, .slice none 0 0, .int .i64 0, .slice none 0 0, .int .i64 0, .slice none 0 0, .int .i64 0, .slice none 0 0], .bool false]) ∧ RowKit.Below w.heap.size w w' := by
 have HXY := Lib.hid (decide_eq_true hxy)
 have HPQ := Lib.hid (decide_eq_true hpq)
 have HL := Lib.hid hl
 have HH := Lib.hid hh
 obtain ⟨k, hk⟩ : ∃ k, cmpR x q = k := ⟨_, rfl⟩
 have HK := Lib.hid hk
 have gk : decide (k ≤ 0) = false := by rw [← hk, cmp_le]; exact decide_eq_false hm
 have gk2 : decide (0 < k) = true := by
  have := of_decide_eq_false gk
  simp; omega
 have E1 := Lib.hid h1.1.1
 have Z1 := Lib.hid z1
 have E2 := Lib.hid h2.1.1
 have Z2 := Lib.hid z2
 have E3 := Lib.hid h3.1.1
 have Z3 := Lib.hid z3
 have E4 := Lib.hid h4.1.1
 have Z4 := Lib.hid z4
 have s0 := ((((((((((((Sf.start w).arg h1.2.2).arg h1.1.2).arg h2.2.2).arg h2.1.2).arg h3.2.2).arg h3.1.2).arg h4.2.2).arg h4.1.2).put [.int .i64 s1, .slice a1 n1 c1, .int .i64 1, .slice b1 m1 d1, .int .i64 s2, .slice a2 n2 c2, .int .i64 1, .slice b2 m2 d2] 28).put [.int .i64 s3, .slice a3 n3 c3, .int .i64 1, .slice b3 m3 d3, .int .i64 s4, .slice a4 n4 c4, .int .i64 1, .slice b4 m4 d4] 28).put [.int .i64 0, .slice none 0 0, .int .i64 0, .slice none 0 0, .int .i64 0, .slice none 0 0, .int .i64 0, .slice none 0 0] 28)
 try simp only [World.size_alloc] at s0
 have S0 := Lib.hid s0
 clear s0
 clear hxy hpq hl hh hm hk h1 h2 h3 h4 z1 z2 z3 z4
 go_enter Tryz.func13, Tryz.ntmps13
 obtain ⟨q1, q2, q3, q4, q5, q6, q7, q8⟩ := Fb.cells8 (S0.out.box _ mq2)
 go_wp2_with fail
 clear q1 q2 q3 q4 q5 q6 q7 q8
 refine (r10right_v (S0.out.fr mq6 mq7 E1.out) Z1.out (S0.out.fr mq4 mq5 E2.out) Z2.out HXY.out).mono ?_
 rintro e w1 ⟨rfl, hb⟩
 have R1 := Lib.hid (S0.out.later hb)
 clear hb
 obtain ⟨q9, q10, q11, q12, q13, q14, q15, q16⟩ := Fb.cells8 (R1.out.box _ mq1)
 go_wp2_with fail
 clear q9 q10 q11 q12 q13 q14 q15 q16
 refine (r10right_v (R1.out.fr mq2 mq3 E3.out) Z3.out (R1.out.fr mq0 mq1 E4.out) Z4.out HPQ.out).mono ?_
 rintro e w2 ⟨rfl, hb⟩
 have R2 := Lib.hid (R1.out.later hb)
 clear hb
 obtain ⟨q17, q18, q19, q20, q21, q22, q23, q24⟩ := Fb.cells8 (R2.out.box _ mq1)
 obtain ⟨q25, q26, q27, q28, q29, q30, q31, q32⟩ := Fb.cells8 (R2.out.box _ mq2)
 go_wp2_with fail
 clear q17 q18 q19 q20 q21 q22 q23 q24 q25 q26 q27 q28 q29 q30 q31 q32
 refine (rfmax_a (R2.out.fr mq6 mq7 E1.out) (R2.out.fr mq2 mq3 E3.out) Z1.out Z3.out HL.out).mono ?_
 rintro e w3 ⟨rfl, hb⟩
 have R3 := Lib.hid (R2.out.later hb)
 clear hb
 have P33 := Lib.hid (R3.out.put [.int .i64 0, .slice none 0 0, .int .i64 0, .slice none 0 0] 26)
 have Q33 := Lib.hid (Sf.row (pre := []) P33.out [.int .i64 s1, .slice a1 n1 c1, .int .i64 1, .slice b1 m1 d1])
 obtain ⟨q34, q35, q36, q37, q38, q39, q40, q41⟩ := Fb.cells8 (Q33.out.box _ mq2)
 obtain ⟨q42, q43, q44, q45, q46, q47, q48, q49⟩ := Fb.cells8 (Q33.out.box _ mq3)
 go_wp2_with (first | refine wpList_store_row rfl _ _ _ rfl _ #[.int .i64 s1, .slice a1 n1 c1, .int .i64 1, .slice b1 m1 d1] rfl rfl _ _ (P33.out.box _ List.mem_cons_self) (by kernel_rfl) rfl (by simp [Value.oneCell']) ?_)
 clear q34 q35 q36 q37 q38 q39 q40 q41 q42 q43 q44 q45 q46 q47 q48 q49
 refine (rfmin_b (Q33.out.fr mq4 mq5 E2.out) (Q33.out.fr mq0 mq1 E4.out) Z2.out Z4.out HH.out).mono ?_
 rintro e w4 ⟨rfl, hb⟩
 have R4 := Lib.hid (Q33.out.later hb)
 clear hb
 have P50 := Lib.hid (R4.out.put [.int .i64 0, .slice none 0 0, .int .i64 0, .slice none 0 0] 26)
 have Q50 := Lib.hid (Sf.row (pre := []) P50.out [.int .i64 s4, .slice a4 n4 c4, .int .i64 1, .slice b4 m4 d4])
 obtain ⟨q51, q52, q53, q54⟩ := Fb.cells4 (Q50.out.box _ mq0)
 obtain ⟨q55, q56, q57, q58⟩ := Fb.cells4 (Q50.out.box _ mq1)
 go_wp2_with (first | refine wpList_store_row rfl _ _ _ rfl _ #[.int .i64 s4, .slice a4 n4 c4, .int .i64 1, .slice b4 m4 d4] rfl rfl _ _ (P50.out.box _ List.mem_cons_self) (by kernel_rfl) rfl (by simp [Value.oneCell']) ?_)
 clear q51 q52 q53 q54 q55 q56 q57 q58
 refine (rfcmp_r (Q50.out.fr mq6 mq7 E1.out) (Q50.out.fr mq0 mq1 E4.out) Z1.out Z4.out HK.out).mono ?_
 rintro e w5 ⟨rfl, hb⟩
 have R5 := Lib.hid (Q50.out.later hb)
 clear hb
 have Q59 := Lib.hid (Sf.row (pre := [(w4.heap.size, 26, [.int .i64 s4, .slice a4 n4 c4, .int .i64 1, .slice b4 m4 d4]), (w3.heap.size, 26, [.int .i64 s1, .slice a1 n1 c1, .int .i64 1, .slice b1 m1 d1])]) R5.out [.int .i64 0, .slice none 0 0, .int .i64 0, .slice none 0 0, .int .i64 0, .slice none 0 0, .int .i64 0, .slice none 0 0])
 go_wp2_with (first | refine wpList_store_row rfl _ _ _ rfl _ #[.int .i64 0, .slice none 0 0, .int .i64 0, .slice none 0 0, .int .i64 0, .slice none 0 0, .int .i64 0, .slice none 0 0] rfl rfl _ _ (R5.out.box _ mq2) (by kernel_rfl) rfl (by simp [Value.oneCell']) ?_)
 refine bodyPost_ret (ret_row rfl _ _ _ _ rfl (run_loadVar_row _ _ _ _ _ (0, 0) _ (Q59.out.box _ mq2) Tryz.underlying28 rfl (by kernel_rfl))) rfl ⟨rfl, Q59.out.below⟩

set_option maxHeartbeats 8000000 in
theorem r10meet_ba_some {w : World} {s1 : Int} {a1 b1 : Option Addr} {n1 c1 m1 d1 : Nat} {x : Rat} {s2 : Int} {a2 b2 : Option Addr} {n2 c2 m2 d2 : Nat} {y : Rat} {s3 : Int} {a3 b3 : Option Addr} {n3 c3 m3 d3 : Nat} {p : Rat} {s4 : Int} {a4 b4 : Option Addr} {n4 c4 m4 d4 : Nat} {q : Rat} (h1 : Fr w s1 (.slice a1 n1 c1) (.slice b1 m1 d1) x) (z1 : FSz 1000 x) (h2 : Fr w s2 (.slice a2 n2 c2) (.slice b2 m2 d2) y) (z2 : FSz 1000 y) (h3 : Fr w s3 (.slice a3 n3 c3) (.slice b3 m3 d3) p) (z3 : FSz 1000 p) (h4 : Fr w s4 (.slice a4 n4 c4) (.slice b4 m4 d4) q) (z4 : FSz 1000 q) (hxy : x ≤ y) (hpq : p ≤ q) (hl : cmpR x p < 0) (hh : cmpR y q ≤ 0) (hm : p ≤ y) :
  Calls Tryz.prog 13 #[.agg #[.int .i64 s1, .slice a1 n1 c1, .int .i64 1, .slice b1 m1 d1, .int .i64 s2, .slice a2 n2 c2, .int .i64 1, .slice b2 m2 d2], .agg #[.int .i64 s3, .slice a3 n3 c3, .int .i64 1, .slice b3 m3 d3, .int .i64 s4, .slice a4 n4 c4, .int .i64 1, .slice b4 m4 d4]] w fun e w' => e = .returned (.tuple #[.agg #[.int .i64 s3, .slice a3 n3 c3, .int .i64 1, .slice b3 m3 d3, .int .i64 s2, .slice a2 n2 c2, .int .i64 1, .slice b2 m2 d2], .bool true]) ∧ RowKit.Below w.heap.size w w' := by
 have HXY := Lib.hid (decide_eq_true hxy)
 have HPQ := Lib.hid (decide_eq_true hpq)
 have HL := Lib.hid hl
 have HH := Lib.hid hh
 obtain ⟨k, hk⟩ : ∃ k, cmpR p y = k := ⟨_, rfl⟩
 have HK := Lib.hid hk
 have gk : decide (k ≤ 0) = true := by rw [← hk, cmp_le]; exact decide_eq_true hm
 have gk2 : decide (0 < k) = false := by
  have := of_decide_eq_true gk
  simp; omega
 have E1 := Lib.hid h1.1.1
 have Z1 := Lib.hid z1
 have E2 := Lib.hid h2.1.1
 have Z2 := Lib.hid z2
 have E3 := Lib.hid h3.1.1
 have Z3 := Lib.hid z3
 have E4 := Lib.hid h4.1.1
 have Z4 := Lib.hid z4
 have s0 := ((((((((((((Sf.start w).arg h1.2.2).arg h1.1.2).arg h2.2.2).arg h2.1.2).arg h3.2.2).arg h3.1.2).arg h4.2.2).arg h4.1.2).put [.int .i64 s1, .slice a1 n1 c1, .int .i64 1, .slice b1 m1 d1, .int .i64 s2, .slice a2 n2 c2, .int .i64 1, .slice b2 m2 d2] 28).put [.int .i64 s3, .slice a3 n3 c3, .int .i64 1, .slice b3 m3 d3, .int .i64 s4, .slice a4 n4 c4, .int .i64 1, .slice b4 m4 d4] 28).put [.int .i64 0, .slice none 0 0, .int .i64 0, .slice none 0 0, .int .i64 0, .slice none 0 0, .int .i64 0, .slice none 0 0] 28)
 try simp only [World.size_alloc] at s0
 have S0 := Lib.hid s0
 clear s0
 clear hxy hpq hl hh hm hk h1 h2 h3 h4 z1 z2 z3 z4
 go_enter Tryz.func13, Tryz.ntmps13
 obtain ⟨q1, q2, q3, q4, q5, q6, q7, q8⟩ := Fb.cells8 (S0.out.box _ mq2)
 go_wp2_with fail
 clear q1 q2 q3 q4 q5 q6 q7 q8
 refine (r10right_v (S0.out.fr mq6 mq7 E1.out) Z1.out (S0.out.fr mq4 mq5 E2.out) Z2.out HXY.out).mono ?_
 rintro e w1 ⟨rfl, hb⟩
 have R1 := Lib.hid (S0.out.later hb)
 clear hb
 obtain ⟨q9, q10, q11, q12, q13, q14, q15, q16⟩ := Fb.cells8 (R1.out.box _ mq1)
 go_wp2_with fail
 clear q9 q10 q11 q12 q13 q14 q15 q16
 refine (r10right_v (R1.out.fr mq2 mq3 E3.out) Z3.out (R1.out.fr mq0 mq1 E4.out) Z4.out HPQ.out).mono ?_
 rintro e w2 ⟨rfl, hb⟩
 have R2 := Lib.hid (R1.out.later hb)
 clear hb
 obtain ⟨q17, q18, q19, q20, q21, q22, q23, q24⟩ := Fb.cells8 (R2.out.box _ mq1)
 obtain ⟨q25, q26, q27, q28, q29, q30, q31, q32⟩ := Fb.cells8 (R2.out.box _ mq2)
 go_wp2_with fail
 clear q17 q18 q19 q20 q21 q22 q23 q24 q25 q26 q27 q28 q29 q30 q31 q32
 refine (rfmax_b (R2.out.fr mq6 mq7 E1.out) (R2.out.fr mq2 mq3 E3.out) Z1.out Z3.out HL.out).mono ?_
 rintro e w3 ⟨rfl, hb⟩
 have R3 := Lib.hid (R2.out.later hb)
 clear hb
 have P33 := Lib.hid (R3.out.put [.int .i64 0, .slice none 0 0, .int .i64 0, .slice none 0 0] 26)
 have Q33 := Lib.hid (Sf.row (pre := []) P33.out [.int .i64 s3, .slice a3 n3 c3, .int .i64 1, .slice b3 m3 d3])
 obtain ⟨q34, q35, q36, q37, q38, q39, q40, q41⟩ := Fb.cells8 (Q33.out.box _ mq2)
 obtain ⟨q42, q43, q44, q45, q46, q47, q48, q49⟩ := Fb.cells8 (Q33.out.box _ mq3)
 go_wp2_with (first | refine wpList_store_row rfl _ _ _ rfl _ #[.int .i64 s3, .slice a3 n3 c3, .int .i64 1, .slice b3 m3 d3] rfl rfl _ _ (P33.out.box _ List.mem_cons_self) (by kernel_rfl) rfl (by simp [Value.oneCell']) ?_)
 clear q34 q35 q36 q37 q38 q39 q40 q41 q42 q43 q44 q45 q46 q47 q48 q49
 refine (rfmin_a (Q33.out.fr mq4 mq5 E2.out) (Q33.out.fr mq0 mq1 E4.out) Z2.out Z4.out HH.out).mono ?_
 rintro e w4 ⟨rfl, hb⟩
 have R4 := Lib.hid (Q33.out.later hb)
 clear hb
 have P50 := Lib.hid (R4.out.put [.int .i64 0, .slice none 0 0, .int .i64 0, .slice none 0 0] 26)
 have Q50 := Lib.hid (Sf.row (pre := []) P50.out [.int .i64 s2, .slice a2 n2 c2, .int .i64 1, .slice b2 m2 d2])
 obtain ⟨q51, q52, q53, q54⟩ := Fb.cells4 (Q50.out.box _ mq0)
 obtain ⟨q55, q56, q57, q58⟩ := Fb.cells4 (Q50.out.box _ mq1)
 go_wp2_with (first | refine wpList_store_row rfl _ _ _ rfl _ #[.int .i64 s2, .slice a2 n2 c2, .int .i64 1, .slice b2 m2 d2] rfl rfl _ _ (P50.out.box _ List.mem_cons_self) (by kernel_rfl) rfl (by simp [Value.oneCell']) ?_)
 clear q51 q52 q53 q54 q55 q56 q57 q58
 refine (rfcmp_r (Q50.out.fr mq2 mq3 E3.out) (Q50.out.fr mq4 mq5 E2.out) Z3.out Z2.out HK.out).mono ?_
 rintro e w5 ⟨rfl, hb⟩
 have R5 := Lib.hid (Q50.out.later hb)
 clear hb
 obtain ⟨q59, q60, q61, q62⟩ := Fb.cells4 (R5.out.box _ mq0)
 obtain ⟨q63, q64, q65, q66⟩ := Fb.cells4 (R5.out.box _ mq1)
 have Q67 := Lib.hid (Sf.row (pre := [(w4.heap.size, 26, [.int .i64 s2, .slice a2 n2 c2, .int .i64 1, .slice b2 m2 d2]), (w3.heap.size, 26, [.int .i64 s3, .slice a3 n3 c3, .int .i64 1, .slice b3 m3 d3])]) R5.out [.int .i64 s3, .slice a3 n3 c3, .int .i64 1, .slice b3 m3 d3, .int .i64 s2, .slice a2 n2 c2, .int .i64 1, .slice b2 m2 d2])
 go_wp2_with (first | refine wpList_store_row rfl _ _ _ rfl _ #[.int .i64 s3, .slice a3 n3 c3, .int .i64 1, .slice b3 m3 d3, .int .i64 s2, .slice a2 n2 c2, .int .i64 1, .slice b2 m2 d2] rfl rfl _ _ (R5.out.box _ mq2) (by kernel_rfl) rfl (by simp [Value.oneCell']) ?_)
 clear q59 q60 q61 q62 q63 q64 q65 q66
 refine bodyPost_ret (ret_row rfl _ _ _ _ rfl (run_loadVar_row _ _ _ _ _ (0, 0) _ (Q67.out.box _ mq2) Tryz.underlying28 rfl (by kernel_rfl))) rfl ⟨rfl, Q67.out.below⟩

set_option maxHeartbeats 8000000 in
theorem r10meet_ba_none {w : World} {s1 : Int} {a1 b1 : Option Addr} {n1 c1 m1 d1 : Nat} {x : Rat} {s2 : Int} {a2 b2 : Option Addr} {n2 c2 m2 d2 : Nat} {y : Rat} {s3 : Int} {a3 b3 : Option Addr} {n3 c3 m3 d3 : Nat} {p : Rat} {s4 : Int} {a4 b4 : Option Addr} {n4 c4 m4 d4 : Nat} {q : Rat} (h1 : Fr w s1 (.slice a1 n1 c1) (.slice b1 m1 d1) x) (z1 : FSz 1000 x) (h2 : Fr w s2 (.slice a2 n2 c2) (.slice b2 m2 d2) y) (z2 : FSz 1000 y) (h3 : Fr w s3 (.slice a3 n3 c3) (.slice b3 m3 d3) p) (z3 : FSz 1000 p) (h4 : Fr w s4 (.slice a4 n4 c4) (.slice b4 m4 d4) q) (z4 : FSz 1000 q) (hxy : x ≤ y) (hpq : p ≤ q) (hl : cmpR x p < 0) (hh : cmpR y q ≤ 0) (hm : ¬ p ≤ y) :
  Calls Tryz.prog 13 #[.agg #[.int .i64 s1, .slice a1 n1 c1, .int .i64 1, .slice b1 m1 d1, .int .i64 s2, .slice a2 n2 c2, .int .i64 1, .slice b2 m2 d2], .agg #[.int .i64 s3, .slice a3 n3 c3, .int .i64 1, .slice b3 m3 d3, .int .i64 s4, .slice a4 n4 c4, .int .i64 1, .slice b4 m4 d4]] w fun e w' => e = .returned (.tuple #[.agg #[.int .i64 0, .slice none 0 0, .int .i64 0, .slice none 0 0, .int .i64 0, .slice none 0 0, .int .i64 0, .slice none 0 0], .bool false]) ∧ RowKit.Below w.heap.size w w' := by
 have HXY := Lib.hid (decide_eq_true hxy)
 have HPQ := Lib.hid (decide_eq_true hpq)
 have HL := Lib.hid hl
 have HH := Lib.hid hh
 obtain ⟨k, hk⟩ : ∃ k, cmpR p y = k := ⟨_, rfl⟩
 have HK := Lib.hid hk
 have gk : decide (k ≤ 0) = false := by rw [← hk, cmp_le]; exact decide_eq_false hm
 have gk2 : decide (0 < k) = true := by
  have := of_decide_eq_false gk
  simp; omega
 have E1 := Lib.hid h1.1.1
 have Z1 := Lib.hid z1
 have E2 := Lib.hid h2.1.1
 have Z2 := Lib.hid z2
 have E3 := Lib.hid h3.1.1
 have Z3 := Lib.hid z3
 have E4 := Lib.hid h4.1.1
 have Z4 := Lib.hid z4
 have s0 := ((((((((((((Sf.start w).arg h1.2.2).arg h1.1.2).arg h2.2.2).arg h2.1.2).arg h3.2.2).arg h3.1.2).arg h4.2.2).arg h4.1.2).put [.int .i64 s1, .slice a1 n1 c1, .int .i64 1, .slice b1 m1 d1, .int .i64 s2, .slice a2 n2 c2, .int .i64 1, .slice b2 m2 d2] 28).put [.int .i64 s3, .slice a3 n3 c3, .int .i64 1, .slice b3 m3 d3, .int .i64 s4, .slice a4 n4 c4, .int .i64 1, .slice b4 m4 d4] 28).put [.int .i64 0, .slice none 0 0, .int .i64 0, .slice none 0 0, .int .i64 0, .slice none 0 0, .int .i64 0, .slice none 0 0] 28)
 try simp only [World.size_alloc] at s0
 have S0 := Lib.hid s0
 clear s0
 clear hxy hpq hl hh hm hk h1 h2 h3 h4 z1 z2 z3 z4
 go_enter Tryz.func13, Tryz.ntmps13
 obtain ⟨q1, q2, q3, q4, q5, q6, q7, q8⟩ := Fb.cells8 (S0.out.box _ mq2)
 go_wp2_with fail
 clear q1 q2 q3 q4 q5 q6 q7 q8
 refine (r10right_v (S0.out.fr mq6 mq7 E1.out) Z1.out (S0.out.fr mq4 mq5 E2.out) Z2.out HXY.out).mono ?_
 rintro e w1 ⟨rfl, hb⟩
 have R1 := Lib.hid (S0.out.later hb)
 clear hb
 obtain ⟨q9, q10, q11, q12, q13, q14, q15, q16⟩ := Fb.cells8 (R1.out.box _ mq1)
 go_wp2_with fail
 clear q9 q10 q11 q12 q13 q14 q15 q16
 refine (r10right_v (R1.out.fr mq2 mq3 E3.out) Z3.out (R1.out.fr mq0 mq1 E4.out) Z4.out HPQ.out).mono ?_
 rintro e w2 ⟨rfl, hb⟩
 have R2 := Lib.hid (R1.out.later hb)
 clear hb
 obtain ⟨q17, q18, q19, q20, q21, q22, q23, q24⟩ := Fb.cells8 (R2.out.box _ mq1)
 obtain ⟨q25, q26, q27, q28, q29, q30, q31, q32⟩ := Fb.cells8 (R2.out.box _ mq2)
 go_wp2_with fail
 clear q17 q18 q19 q20 q21 q22 q23 q24 q25 q26 q27 q28 q29 q30 q31 q32
 refine (rfmax_b (R2.out.fr mq6 mq7 E1.out) (R2.out.fr mq2 mq3 E3.out) Z1.out Z3.out HL.out).mono ?_
 rintro e w3 ⟨rfl, hb⟩
 have R3 := Lib.hid (R2.out.later hb)
 clear hb
 have P33 := Lib.hid (R3.out.put [.int .i64 0, .slice none 0 0, .int .i64 0, .slice none 0 0] 26)
 have Q33 := Lib.hid (Sf.row (pre := []) P33.out [.int .i64 s3, .slice a3 n3 c3, .int .i64 1, .slice b3 m3 d3])
 obtain ⟨q34, q35, q36, q37, q38, q39, q40, q41⟩ := Fb.cells8 (Q33.out.box _ mq2)
 obtain ⟨q42, q43, q44, q45, q46, q47, q48, q49⟩ := Fb.cells8 (Q33.out.box _ mq3)
 go_wp2_with (first | refine wpList_store_row rfl _ _ _ rfl _ #[.int .i64 s3, .slice a3 n3 c3, .int .i64 1, .slice b3 m3 d3] rfl rfl _ _ (P33.out.box _ List.mem_cons_self) (by kernel_rfl) rfl (by simp [Value.oneCell']) ?_)
 clear q34 q35 q36 q37 q38 q39 q40 q41 q42 q43 q44 q45 q46 q47 q48 q49
 refine (rfmin_a (Q33.out.fr mq4 mq5 E2.out) (Q33.out.fr mq0 mq1 E4.out) Z2.out Z4.out HH.out).mono ?_
 rintro e w4 ⟨rfl, hb⟩
 have R4 := Lib.hid (Q33.out.later hb)
 clear hb
 have P50 := Lib.hid (R4.out.put [.int .i64 0, .slice none 0 0, .int .i64 0, .slice none 0 0] 26)
 have Q50 := Lib.hid (Sf.row (pre := []) P50.out [.int .i64 s2, .slice a2 n2 c2, .int .i64 1, .slice b2 m2 d2])
 obtain ⟨q51, q52, q53, q54⟩ := Fb.cells4 (Q50.out.box _ mq0)
 obtain ⟨q55, q56, q57, q58⟩ := Fb.cells4 (Q50.out.box _ mq1)
 go_wp2_with (first | refine wpList_store_row rfl _ _ _ rfl _ #[.int .i64 s2, .slice a2 n2 c2, .int .i64 1, .slice b2 m2 d2] rfl rfl _ _ (P50.out.box _ List.mem_cons_self) (by kernel_rfl) rfl (by simp [Value.oneCell']) ?_)
 clear q51 q52 q53 q54 q55 q56 q57 q58
 refine (rfcmp_r (Q50.out.fr mq2 mq3 E3.out) (Q50.out.fr mq4 mq5 E2.out) Z3.out Z2.out HK.out).mono ?_
 rintro e w5 ⟨rfl, hb⟩
 have R5 := Lib.hid (Q50.out.later hb)
 clear hb
 have Q59 := Lib.hid (Sf.row (pre := [(w4.heap.size, 26, [.int .i64 s2, .slice a2 n2 c2, .int .i64 1, .slice b2 m2 d2]), (w3.heap.size, 26, [.int .i64 s3, .slice a3 n3 c3, .int .i64 1, .slice b3 m3 d3])]) R5.out [.int .i64 0, .slice none 0 0, .int .i64 0, .slice none 0 0, .int .i64 0, .slice none 0 0, .int .i64 0, .slice none 0 0])
 go_wp2_with (first | refine wpList_store_row rfl _ _ _ rfl _ #[.int .i64 0, .slice none 0 0, .int .i64 0, .slice none 0 0, .int .i64 0, .slice none 0 0, .int .i64 0, .slice none 0 0] rfl rfl _ _ (R5.out.box _ mq2) (by kernel_rfl) rfl (by simp [Value.oneCell']) ?_)
 refine bodyPost_ret (ret_row rfl _ _ _ _ rfl (run_loadVar_row _ _ _ _ _ (0, 0) _ (Q59.out.box _ mq2) Tryz.underlying28 rfl (by kernel_rfl))) rfl ⟨rfl, Q59.out.below⟩

set_option maxHeartbeats 8000000 in
theorem r10meet_bb_some {w : World} {s1 : Int} {a1 b1 : Option Addr} {n1 c1 m1 d1 : Nat} {x : Rat} {s2 : Int} {a2 b2 : Option Addr} {n2 c2 m2 d2 : Nat} {y : Rat} {s3 : Int} {a3 b3 : Option Addr} {n3 c3 m3 d3 : Nat} {p : Rat} {s4 : Int} {a4 b4 : Option Addr} {n4 c4 m4 d4 : Nat} {q : Rat} (h1 : Fr w s1 (.slice a1 n1 c1) (.slice b1 m1 d1) x) (z1 : FSz 1000 x) (h2 : Fr w s2 (.slice a2 n2 c2) (.slice b2 m2 d2) y) (z2 : FSz 1000 y) (h3 : Fr w s3 (.slice a3 n3 c3) (.slice b3 m3 d3) p) (z3 : FSz 1000 p) (h4 : Fr w s4 (.slice a4 n4 c4) (.slice b4 m4 d4) q) (z4 : FSz 1000 q) (hxy : x ≤ y) (hpq : p ≤ q) (hl : cmpR x p < 0) (hh : 0 < cmpR y q) (hm : p ≤ q) :
  Calls Tryz.prog 13 #[.agg #[.int .i64 s1, .slice a1 n1 c1, .int .i64 1, .slice b1 m1 d1, .int .i64 s2, .slice a2 n2 c2, .int .i64 1, .slice b2 m2 d2], .agg #[.int .i64 s3, .slice a3 n3 c3, .int .i64 1, .slice b3 m3 d3, .int .i64 s4, .slice a4 n4 c4, .int .i64 1, .slice b4 m4 d4]] w fun e w' => e = .returned (.tuple #[.agg #[.int .i64 s3, .slice a3 n3 c3, .int .i64 1, .slice b3 m3 d3, .int .i64 s4, .slice a4 n4 c4, .int .i64 1, .slice b4 m4 d4], .bool true]) ∧ RowKit.Below w.heap.size w w' := by
 have HXY := Lib.hid (decide_eq_true hxy)
 have HPQ := Lib.hid (decide_eq_true hpq)
 have HL := Lib.hid hl
 have HH := Lib.hid hh
 obtain ⟨k, hk⟩ : ∃ k, cmpR p q = k := ⟨_, rfl⟩
 have HK := Lib.hid hk
 have gk : decide (k ≤ 0) = true := by rw [← hk, cmp_le]; exact decide_eq_true hm
 have gk2 : decide (0 < k) = false := by
  have := of_decide_eq_true gk
  simp; omega
 have E1 := Lib.hid h1.1.1
 have Z1 := Lib.hid z1
 have E2 := Lib.hid h2.1.1
 have Z2 := Lib.hid z2
 have E3 := Lib.hid h3.1.1
 have Z3 := Lib.hid z3
 have E4 := Lib.hid h4.1.1
 have Z4 := Lib.hid z4
 have s0 := ((((((((((((Sf.start w).arg h1.2.2).arg h1.1.2).arg h2.2.2).arg h2.1.2).arg h3.2.2).arg h3.1.2).arg h4.2.2).arg h4.1.2).put [.int .i64 s1, .slice a1 n1 c1, .int .i64 1, .slice b1 m1 d1, .int .i64 s2, .slice a2 n2 c2, .int .i64 1, .slice b2 m2 d2] 28).put [.int .i64 s3, .slice a3 n3 c3, .int .i64 1, .slice b3 m3 d3, .int .i64 s4, .slice a4 n4 c4, .int .i64 1, .slice b4 m4 d4] 28).put [.int .i64 0, .slice none 0 0, .int .i64 0, .slice none 0 0, .int .i64 0, .slice none 0 0, .int .i64 0, .slice none 0 0] 28)
 try simp only [World.size_alloc] at s0
 have S0 := Lib.hid s0
 clear s0
 clear hxy hpq hl hh hm hk h1 h2 h3 h4 z1 z2 z3 z4
 go_enter Tryz.func13, Tryz.ntmps13
 obtain ⟨q1, q2, q3, q4, q5, q6, q7, q8⟩ := Fb.cells8 (S0.out.box _ mq2)
 go_wp2_with fail
 clear q1 q2 q3 q4 q5 q6 q7 q8
 refine (r10right_v (S0.out.fr mq6 mq7 E1.out) Z1.out (S0.out.fr mq4 mq5 E2.out) Z2.out HXY.out).mono ?_
 rintro e w1 ⟨rfl, hb⟩
 have R1 := Lib.hid (S0.out.later hb)
 clear hb
 obtain ⟨q9, q10, q11, q12, q13, q14, q15, q16⟩ := Fb.cells8 (R1.out.box _ mq1)
 go_wp2_with fail
 clear q9 q10 q11 q12 q13 q14 q15 q16
 refine (r10right_v (R1.out.fr mq2 mq3 E3.out) Z3.out (R1.out.fr mq0 mq1 E4.out) Z4.out HPQ.out).mono ?_
 rintro e w2 ⟨rfl, hb⟩
 have R2 := Lib.hid (R1.out.later hb)
 clear hb
 obtain ⟨q17, q18, q19, q20, q21, q22, q23, q24⟩ := Fb.cells8 (R2.out.box _ mq1)
 obtain ⟨q25, q26, q27, q28, q29, q30, q31, q32⟩ := Fb.cells8 (R2.out.box _ mq2)
 go_wp2_with fail
 clear q17 q18 q19 q20 q21 q22 q23 q24 q25 q26 q27 q28 q29 q30 q31 q32
 refine (rfmax_b (R2.out.fr mq6 mq7 E1.out) (R2.out.fr mq2 mq3 E3.out) Z1.out Z3.out HL.out).mono ?_
 rintro e w3 ⟨rfl, hb⟩
 have R3 := Lib.hid (R2.out.later hb)
 clear hb
 have P33 := Lib.hid (R3.out.put [.int .i64 0, .slice none 0 0, .int .i64 0, .slice none 0 0] 26)
 have Q33 := Lib.hid (Sf.row (pre := []) P33.out [.int .i64 s3, .slice a3 n3 c3, .int .i64 1, .slice b3 m3 d3])
 obtain ⟨q34, q35, q36, q37, q38, q39, q40, q41⟩ := Fb.cells8 (Q33.out.box _ mq2)
 obtain ⟨q42, q43, q44, q45, q46, q47, q48, q49⟩ := Fb.cells8 (Q33.out.box _ mq3)
 go_wp2_with (first | refine wpList_store_row rfl _ _ _ rfl _ #[.int .i64 s3, .slice a3 n3 c3, .int .i64 1, .slice b3 m3 d3] rfl rfl _ _ (P33.out.box _ List.mem_cons_self) (by kernel_rfl) rfl (by simp [Value.oneCell']) ?_)
 clear q34 q35 q36 q37 q38 q39 q40 q41 q42 q43 q44 q45 q46 q47 q48 q49
 refine (rfmin_b (Q33.out.fr mq4 mq5 E2.out) (Q33.out.fr mq0 mq1 E4.out) Z2.out Z4.out HH.out).mono ?_
 rintro e w4 ⟨rfl, hb⟩
 have R4 := Lib.hid (Q33.out.later hb)
 clear hb
 have P50 := Lib.hid (R4.out.put [.int .i64 0, .slice none 0 0, .int .i64 0, .slice none 0 0] 26)
 have Q50 := Lib.hid (Sf.row (pre := []) P50.out [.int .i64 s4, .slice a4 n4 c4, .int .i64 1, .slice b4 m4 d4])
 obtain ⟨q51, q52, q53, q54⟩ := Fb.cells4 (Q50.out.box _ mq0)
 obtain ⟨q55, q56, q57, q58⟩ := Fb.cells4 (Q50.out.box _ mq1)
 go_wp2_with (first | refine wpList_store_row rfl _ _ _ rfl _ #[.int .i64 s4, .slice a4 n4 c4, .int .i64 1, .slice b4 m4 d4] rfl rfl _ _ (P50.out.box _ List.mem_cons_self) (by kernel_rfl) rfl (by simp [Value.oneCell']) ?_)
 clear q51 q52 q53 q54 q55 q56 q57 q58
 refine (rfcmp_r (Q50.out.fr mq2 mq3 E3.out) (Q50.out.fr mq0 mq1 E4.out) Z3.out Z4.out HK.out).mono ?_
 rintro e w5 ⟨rfl, hb⟩
 have R5 := Lib.hid (Q50.out.later hb)
 clear hb
 obtain ⟨q59, q60, q61, q62⟩ := Fb.cells4 (R5.out.box _ mq0)
 obtain ⟨q63, q64, q65, q66⟩ := Fb.cells4 (R5.out.box _ mq1)
 have Q67 := Lib.hid (Sf.row (pre := [(w4.heap.size, 26, [.int .i64 s4, .slice a4 n4 c4, .int .i64 1, .slice b4 m4 d4]), (w3.heap.size, 26, [.int .i64 s3, .slice a3 n3 c3, .int .i64 1, .slice b3 m3 d3])]) R5.out [.int .i64 s3, .slice a3 n3 c3, .int .i64 1, .slice b3 m3 d3, .int .i64 s4, .slice a4 n4 c4, .int .i64 1, .slice b4 m4 d4])
 go_wp2_with (first | refine wpList_store_row rfl _ _ _ rfl _ #[.int .i64 s3, .slice a3 n3 c3, .int .i64 1, .slice b3 m3 d3, .int .i64 s4, .slice a4 n4 c4, .int .i64 1, .slice b4 m4 d4] rfl rfl _ _ (R5.out.box _ mq2) (by kernel_rfl) rfl (by simp [Value.oneCell']) ?_)
 clear q59 q60 q61 q62 q63 q64 q65 q66
 refine bodyPost_ret (ret_row rfl _ _ _ _ rfl (run_loadVar_row _ _ _ _ _ (0, 0) _ (Q67.out.box _ mq2) Tryz.underlying28 rfl (by kernel_rfl))) rfl ⟨rfl, Q67.out.below⟩

set_option maxHeartbeats 8000000 in
theorem r10meet_bb_none {w : World} {s1 : Int} {a1 b1 : Option Addr} {n1 c1 m1 d1 : Nat} {x : Rat} {s2 : Int} {a2 b2 : Option Addr} {n2 c2 m2 d2 : Nat} {y : Rat} {s3 : Int} {a3 b3 : Option Addr} {n3 c3 m3 d3 : Nat} {p : Rat} {s4 : Int} {a4 b4 : Option Addr} {n4 c4 m4 d4 : Nat} {q : Rat} (h1 : Fr w s1 (.slice a1 n1 c1) (.slice b1 m1 d1) x) (z1 : FSz 1000 x) (h2 : Fr w s2 (.slice a2 n2 c2) (.slice b2 m2 d2) y) (z2 : FSz 1000 y) (h3 : Fr w s3 (.slice a3 n3 c3) (.slice b3 m3 d3) p) (z3 : FSz 1000 p) (h4 : Fr w s4 (.slice a4 n4 c4) (.slice b4 m4 d4) q) (z4 : FSz 1000 q) (hxy : x ≤ y) (hpq : p ≤ q) (hl : cmpR x p < 0) (hh : 0 < cmpR y q) (hm : ¬ p ≤ q) :
  Calls Tryz.prog 13 #[.agg #[.int .i64 s1, .slice a1 n1 c1, .int .i64 1, .slice b1 m1 d1, .int .i64 s2, .slice a2 n2 c2, .int .i64 1, .slice b2 m2 d2], .agg #[.int .i64 s3, .slice a3 n3 c3, .int .i64 1, .slice b3 m3 d3, .int .i64 s4, .slice a4 n4 c4, .int .i64 1, .slice b4 m4 d4]] w fun e w' => e = .returned (.tuple #[.agg #[.int .i64 0, .slice none 0 0, .int .i64 0, .slice none 0 0, .int .i64 0, .slice none 0 0, .int .i64 0, .slice none 0 0], .bool false]) ∧ RowKit.Below w.heap.size w w' := by
 have HXY := Lib.hid (decide_eq_true hxy)
 have HPQ := Lib.hid (decide_eq_true hpq)
 have HL := Lib.hid hl
 have HH := Lib.hid hh
 obtain ⟨k, hk⟩ : ∃ k, cmpR p q = k := ⟨_, rfl⟩
 have HK := Lib.hid hk
 have gk : decide (k ≤ 0) = false := by rw [← hk, cmp_le]; exact decide_eq_false hm
 have gk2 : decide (0 < k) = true := by
  have := of_decide_eq_false gk
  simp; omega
 have E1 := Lib.hid h1.1.1
 have Z1 := Lib.hid z1
 have E2 := Lib.hid h2.1.1
 have Z2 := Lib.hid z2
 have E3 := Lib.hid h3.1.1
 have Z3 := Lib.hid z3
 have E4 := Lib.hid h4.1.1
 have Z4 := Lib.hid z4
 have s0 := ((((((((((((Sf.start w).arg h1.2.2).arg h1.1.2).arg h2.2.2).arg h2.1.2).arg h3.2.2).arg h3.1.2).arg h4.2.2).arg h4.1.2).put [.int .i64 s1, .slice a1 n1 c1, .int .i64 1, .slice b1 m1 d1, .int .i64 s2, .slice a2 n2 c2, .int .i64 1, .slice b2 m2 d2] 28).put [.int .i64 s3, .slice a3 n3 c3, .int .i64 1, .slice b3 m3 d3, .int .i64 s4, .slice a4 n4 c4, .int .i64 1, .slice b4 m4 d4] 28).put [.int .i64 0, .slice none 0 0, .int .i64 0, .slice none 0 0, .int .i64 0, .slice none 0 0, .int .i64 0, .slice none 0 0] 28)
 try simp only [World.size_alloc] at s0
 have S0 := Lib.hid s0
 clear s0
 clear hxy hpq hl hh hm hk h1 h2 h3 h4 z1 z2 z3 z4
 go_enter Tryz.func13, Tryz.ntmps13
 obtain ⟨q1, q2, q3, q4, q5, q6, q7, q8⟩ := Fb.cells8 (S0.out.box _ mq2)
 go_wp2_with fail
 clear q1 q2 q3 q4 q5 q6 q7 q8
 refine (r10right_v (S0.out.fr mq6 mq7 E1.out) Z1.out (S0.out.fr mq4 mq5 E2.out) Z2.out HXY.out).mono ?_
 rintro e w1 ⟨rfl, hb⟩
 have R1 := Lib.hid (S0.out.later hb)
 clear hb
 obtain ⟨q9, q10, q11, q12, q13, q14, q15, q16⟩ := Fb.cells8 (R1.out.box _ mq1)
 go_wp2_with fail
 clear q9 q10 q11 q12 q13 q14 q15 q16
 refine (r10right_v (R1.out.fr mq2 mq3 E3.out) Z3.out (R1.out.fr mq0 mq1 E4.out) Z4.out HPQ.out).mono ?_
 rintro e w2 ⟨rfl, hb⟩
 have R2 := Lib.hid (R1.out.later hb)
 clear hb
 obtain ⟨q17, q18, q19, q20, q21, q22, q23, q24⟩ := Fb.cells8 (R2.out.box _ mq1)
 obtain ⟨q25, q26, q27, q28, q29, q30, q31, q32⟩ := Fb.cells8 (R2.out.box _ mq2)
 go_wp2_with fail
 clear q17 q18 q19 q20 q21 q22 q23 q24 q25 q26 q27 q28 q29 q30 q31 q32
 refine (rfmax_b (R2.out.fr mq6 mq7 E1.out) (R2.out.fr mq2 mq3 E3.out) Z1.out Z3.out HL.out).mono ?_
 rintro e w3 ⟨rfl, hb⟩
 have R3 := Lib.hid (R2.out.later hb)
 clear hb
 have P33 := Lib.hid (R3.out.put [.int .i64 0, .slice none 0 0, .int .i64 0, .slice none 0 0] 26)
 have Q33 := Lib.hid (Sf.row (pre := []) P33.out [.int .i64 s3, .slice a3 n3 c3, .int .i64 1, .slice b3 m3 d3])
 obtain ⟨q34, q35, q36, q37, q38, q39, q40, q41⟩ := Fb.cells8 (Q33.out.box _ mq2)
 obtain ⟨q42, q43, q44, q45, q46, q47, q48, q49⟩ := Fb.cells8 (Q33.out.box _ mq3)
 go_wp2_with (first | refine wpList_store_row rfl _ _ _ rfl _ #[.int .i64 s3, .slice a3 n3 c3, .int .i64 1, .slice b3 m3 d3] rfl rfl _ _ (P33.out.box _ List.mem_cons_self) (by kernel_rfl) rfl (by simp [Value.oneCell']) ?_)
 clear q34 q35 q36 q37 q38 q39 q40 q41 q42 q43 q44 q45 q46 q47 q48 q49
 refine (rfmin_b (Q33.out.fr mq4 mq5 E2.out) (Q33.out.fr mq0 mq1 E4.out) Z2.out Z4.out HH.out).mono ?_
 rintro e w4 ⟨rfl, hb⟩
 have R4 := Lib.hid (Q33.out.later hb)
 clear hb
 have P50 := Lib.hid (R4.out.put [.int .i64 0, .slice none 0 0, .int .i64 0, .slice none 0 0] 26)
 have Q50 := Lib.hid (Sf.row (pre := []) P50.out [.int .i64 s4, .slice a4 n4 c4, .int .i64 1, .slice b4 m4 d4])
 obtain ⟨q51, q52, q53, q54⟩ := Fb.cells4 (Q50.out.box _ mq0)
 obtain ⟨q55, q56, q57, q58⟩ := Fb.cells4 (Q50.out.box _ mq1)
 go_wp2_with (first | refine wpList_store_row rfl _ _ _ rfl _ #[.int .i64 s4, .slice a4 n4 c4, .int .i64 1, .slice b4 m4 d4] rfl rfl _ _ (P50.out.box _ List.mem_cons_self) (by kernel_rfl) rfl (by simp [Value.oneCell']) ?_)
 clear q51 q52 q53 q54 q55 q56 q57 q58
 refine (rfcmp_r (Q50.out.fr mq2 mq3 E3.out) (Q50.out.fr mq0 mq1 E4.out) Z3.out Z4.out HK.out).mono ?_
 rintro e w5 ⟨rfl, hb⟩
 have R5 := Lib.hid (Q50.out.later hb)
 clear hb
 have Q59 := Lib.hid (Sf.row (pre := [(w4.heap.size, 26, [.int .i64 s4, .slice a4 n4 c4, .int .i64 1, .slice b4 m4 d4]), (w3.heap.size, 26, [.int .i64 s3, .slice a3 n3 c3, .int .i64 1, .slice b3 m3 d3])]) R5.out [.int .i64 0, .slice none 0 0, .int .i64 0, .slice none 0 0, .int .i64 0, .slice none 0 0, .int .i64 0, .slice none 0 0])
 go_wp2_with (first | refine wpList_store_row rfl _ _ _ rfl _ #[.int .i64 0, .slice none 0 0, .int .i64 0, .slice none 0 0, .int .i64 0, .slice none 0 0, .int .i64 0, .slice none 0 0] rfl rfl _ _ (R5.out.box _ mq2) (by kernel_rfl) rfl (by simp [Value.oneCell']) ?_)
 refine bodyPost_ret (ret_row rfl _ _ _ _ rfl (run_loadVar_row _ _ _ _ _ (0, 0) _ (Q59.out.box _ mq2) Tryz.underlying28 rfl (by kernel_rfl))) rfl ⟨rfl, Q59.out.below⟩

set_option maxHeartbeats 8000000 in
theorem r10meet_bad {w : World} {s1 t1 : Int} {a1 b1 : Option Addr} {n1 c1 m1 d1 : Nat} {l1 k1 : List Int} {s2 t2 : Int} {a2 b2 : Option Addr} {n2 c2 m2 d2 : Nat} {l2 k2 : List Int} {s3 t3 : Int} {a3 b3 : Option Addr} {n3 c3 m3 d3 : Nat} {l3 k3 : List Int} {s4 t4 : Int} {a4 b4 : Option Addr} {n4 c4 m4 d4 : Nat} {l4 k4 : List Int} (hl1 : Ints w (.slice a1 n1 c1) l1) (hk1 : Ints w (.slice b1 m1 d1) k1) (ll1 : l1.length ≤ 1000) (lk1 : k1.length ≤ 1000) (hl2 : Ints w (.slice a2 n2 c2) l2) (hk2 : Ints w (.slice b2 m2 d2) k2) (ll2 : l2.length ≤ 1000) (lk2 : k2.length ≤ 1000) (hl3 : Ints w (.slice a3 n3 c3) l3) (hk3 : Ints w (.slice b3 m3 d3) k3) (ll3 : l3.length ≤ 1000) (lk3 : k3.length ≤ 1000) (hl4 : Ints w (.slice a4 n4 c4) l4) (hk4 : Ints w (.slice b4 m4 d4) k4) (ll4 : l4.length ≤ 1000) (lk4 : k4.length ≤ 1000) (hr : (sR s1 l1 t1 k1 s2 l2 t2 k2 && sR s3 l3 t3 k3 s4 l4 t4 k4) = false) :
  Calls Tryz.prog 13 #[.agg #[.int .i64 s1, .slice a1 n1 c1, .int .i64 t1, .slice b1 m1 d1, .int .i64 s2, .slice a2 n2 c2, .int .i64 t2, .slice b2 m2 d2], .agg #[.int .i64 s3, .slice a3 n3 c3, .int .i64 t3, .slice b3 m3 d3, .int .i64 s4, .slice a4 n4 c4, .int .i64 t4, .slice b4 m4 d4]] w fun e w' => e = .returned (.tuple #[.agg #[.int .i64 0, .slice none 0 0, .int .i64 0, .slice none 0 0, .int .i64 0, .slice none 0 0, .int .i64 0, .slice none 0 0], .bool false]) ∧ RowKit.Below w.heap.size w w' := by
 rcases ea : sR s1 l1 t1 k1 s2 l2 t2 k2 with _ | _
 ·skip
  have LL1 := Lib.hid ll1
  have LK1 := Lib.hid lk1
  have LL2 := Lib.hid ll2
  have LK2 := Lib.hid lk2
  have LL3 := Lib.hid ll3
  have LK3 := Lib.hid lk3
  have LL4 := Lib.hid ll4
  have LK4 := Lib.hid lk4
  have EA := Lib.hid ea
  have s0 := ((((((((((((Sf.start w).arg hk1).arg hl1).arg hk2).arg hl2).arg hk3).arg hl3).arg hk4).arg hl4).put [.int .i64 s1, .slice a1 n1 c1, .int .i64 t1, .slice b1 m1 d1, .int .i64 s2, .slice a2 n2 c2, .int .i64 t2, .slice b2 m2 d2] 28).put [.int .i64 s3, .slice a3 n3 c3, .int .i64 t3, .slice b3 m3 d3, .int .i64 s4, .slice a4 n4 c4, .int .i64 t4, .slice b4 m4 d4] 28).put [.int .i64 0, .slice none 0 0, .int .i64 0, .slice none 0 0, .int .i64 0, .slice none 0 0, .int .i64 0, .slice none 0 0] 28)
  try simp only [World.size_alloc] at s0
  have S0 := Lib.hid s0
  clear s0
  clear hr ea hl1 hk1 ll1 lk1 hl2 hk2 ll2 lk2 hl3 hk3 ll3 lk3 hl4 hk4 ll4 lk4
  go_enter Tryz.func13, Tryz.ntmps13
  obtain ⟨q1, q2, q3, q4, q5, q6, q7, q8⟩ := Fb.cells8 (S0.out.box _ mq2)
  go_wp2_with fail
  clear q1 q2 q3 q4 q5 q6 q7 q8
  refine (r10right_raw (S0.out.ints (.slice a1 n1 c1, l1) mq6) (S0.out.ints (.slice b1 m1 d1, k1) mq7) LL1.out LK1.out (S0.out.ints (.slice a2 n2 c2, l2) mq4) (S0.out.ints (.slice b2 m2 d2, k2) mq5) LL2.out LK2.out EA.out).mono ?_
  rintro e w1 ⟨rfl, hb⟩
  have R1 := Lib.hid (S0.out.later hb)
  clear hb
  have Q9 := Lib.hid (Sf.row (pre := []) R1.out [.int .i64 0, .slice none 0 0, .int .i64 0, .slice none 0 0, .int .i64 0, .slice none 0 0, .int .i64 0, .slice none 0 0])
  go_wp2_with (first | refine wpList_store_row rfl _ _ _ rfl _ #[.int .i64 0, .slice none 0 0, .int .i64 0, .slice none 0 0, .int .i64 0, .slice none 0 0, .int .i64 0, .slice none 0 0] rfl rfl _ _ (R1.out.box _ mq0) (by kernel_rfl) rfl (by simp [Value.oneCell']) ?_)
  refine bodyPost_ret (ret_row rfl _ _ _ _ rfl (run_loadVar_row _ _ _ _ _ (0, 0) _ (Q9.out.box _ mq0) Tryz.underlying28 rfl (by kernel_rfl))) rfl ⟨rfl, Q9.out.below⟩
 ·have eb : sR s3 l3 t3 k3 s4 l4 t4 k4 = false := by rw [ea] at hr; simpa using hr
  have LL1 := Lib.hid ll1
  have LK1 := Lib.hid lk1
  have LL2 := Lib.hid ll2
  have LK2 := Lib.hid lk2
  have LL3 := Lib.hid ll3
  have LK3 := Lib.hid lk3
  have LL4 := Lib.hid ll4
  have LK4 := Lib.hid lk4
  have EA := Lib.hid ea
  have EB := Lib.hid eb
  have s0 := ((((((((((((Sf.start w).arg hk1).arg hl1).arg hk2).arg hl2).arg hk3).arg hl3).arg hk4).arg hl4).put [.int .i64 s1, .slice a1 n1 c1, .int .i64 t1, .slice b1 m1 d1, .int .i64 s2, .slice a2 n2 c2, .int .i64 t2, .slice b2 m2 d2] 28).put [.int .i64 s3, .slice a3 n3 c3, .int .i64 t3, .slice b3 m3 d3, .int .i64 s4, .slice a4 n4 c4, .int .i64 t4, .slice b4 m4 d4] 28).put [.int .i64 0, .slice none 0 0, .int .i64 0, .slice none 0 0, .int .i64 0, .slice none 0 0, .int .i64 0, .slice none 0 0] 28)
  try simp only [World.size_alloc] at s0
  have S0 := Lib.hid s0
  clear s0
  clear hr ea hl1 hk1 ll1 lk1 hl2 hk2 ll2 lk2 hl3 hk3 ll3 lk3 hl4 hk4 ll4 lk4 eb
  go_enter Tryz.func13, Tryz.ntmps13
  obtain ⟨q1, q2, q3, q4, q5, q6, q7, q8⟩ := Fb.cells8 (S0.out.box _ mq2)
  go_wp2_with fail
  clear q1 q2 q3 q4 q5 q6 q7 q8
  refine (r10right_raw (S0.out.ints (.slice a1 n1 c1, l1) mq6) (S0.out.ints (.slice b1 m1 d1, k1) mq7) LL1.out LK1.out (S0.out.ints (.slice a2 n2 c2, l2) mq4) (S0.out.ints (.slice b2 m2 d2, k2) mq5) LL2.out LK2.out EA.out).mono ?_
  rintro e w1 ⟨rfl, hb⟩
  have R1 := Lib.hid (S0.out.later hb)
  clear hb
  obtain ⟨q9, q10, q11, q12, q13, q14, q15, q16⟩ := Fb.cells8 (R1.out.box _ mq1)
  go_wp2_with fail
  clear q9 q10 q11 q12 q13 q14 q15 q16
  refine (r10right_raw (R1.out.ints (.slice a3 n3 c3, l3) mq2) (R1.out.ints (.slice b3 m3 d3, k3) mq3) LL3.out LK3.out (R1.out.ints (.slice a4 n4 c4, l4) mq0) (R1.out.ints (.slice b4 m4 d4, k4) mq1) LL4.out LK4.out EB.out).mono ?_
  rintro e w2 ⟨rfl, hb⟩
  have R2 := Lib.hid (R1.out.later hb)
  clear hb
  have Q17 := Lib.hid (Sf.row (pre := []) R2.out [.int .i64 0, .slice none 0 0, .int .i64 0, .slice none 0 0, .int .i64 0, .slice none 0 0, .int .i64 0, .slice none 0 0])
  go_wp2_with (first | refine wpList_store_row rfl _ _ _ rfl _ #[.int .i64 0, .slice none 0 0, .int .i64 0, .slice none 0 0, .int .i64 0, .slice none 0 0, .int .i64 0, .slice none 0 0] rfl rfl _ _ (R2.out.box _ mq0) (by kernel_rfl) rfl (by simp [Value.oneCell']) ?_)
  refine bodyPost_ret (ret_row rfl _ _ _ _ rfl (run_loadVar_row _ _ _ _ _ (0, 0) _ (Q17.out.box _ mq0) Tryz.underlying28 rfl (by kernel_rfl))) rfl ⟨rfl, Q17.out.below⟩
end Go.Proofs.YtgncnkojpedmdaaGreat.Sp

namespace Go.Proofs.YtgncnkojpedmdaaGreat.Sp
open Go.RowKit Bi
theorem Sf.set8 {w W : World} {pre post : List FBox} {F : List (Value × List Int)} {b : Nat} {ty : TypeId} {x0 x1 x2 x3 x4 x5 x6 x7 : Value} (h : Sf w (pre ++ (b, ty, [x0, x1, x2, x3, x4, x5, x6, x7]) :: post) F W) (y0 y1 y2 y3 y4 y5 y6 y7 : Value) :
  Sf w (pre ++ (b, ty, [y0, y1, y2, y3, y4, y5, y6, y7]) :: post) F ((((((((W.setCell ⟨b, 0, none⟩ y0).setCell ⟨b, 1, none⟩ y1).setCell ⟨b, 2, none⟩ y2).setCell ⟨b, 3, none⟩ y3).setCell ⟨b, 4, none⟩ y4).setCell ⟨b, 5, none⟩ y5).setCell ⟨b, 6, none⟩ y6).setCell ⟨b, 7, none⟩ y7) :=
 ((((((((h.set 0 y0).set 1 y1).set 2 y2).set 3 y3).set 4 y4).set 5 y5).set 6 y6).set 7 y7)

set_option maxHeartbeats 8000000 in
theorem r10neg_k {w : World} {s1 : Int} {a1 b1 : Option Addr} {n1 c1 m1 d1 : Nat} {x : Rat} {s2 : Int} {a2 b2 : Option Addr} {n2 c2 m2 d2 : Nat} {y : Rat} (h1 : Fr w s1 (.slice a1 n1 c1) (.slice b1 m1 d1) x) (z1 : FSz 1000 x) (h2 : Fr w s2 (.slice a2 n2 c2) (.slice b2 m2 d2) y) (z2 : FSz 1000 y) (hxy : x ≤ y) :
  Calls Tryz.prog 27 #[.agg #[.int .i64 s1, .slice a1 n1 c1, .int .i64 1, .slice b1 m1 d1, .int .i64 s2, .slice a2 n2 c2, .int .i64 1, .slice b2 m2 d2]] w fun e w' => ∃ (sa : Int) (pa : Option Addr) (ka ja : Nat) (sb : Int) (pb : Option Addr) (kb jb : Nat), e = .returned (.agg #[.int .i64 sa, .slice pa ka ja, .int .i64 1, .slice b2 m2 d2, .int .i64 sb, .slice pb kb jb, .int .i64 1, .slice b1 m1 d1]) ∧ Num w' sa (.slice pa ka ja) (-y.num) ∧ Num w' sb (.slice pb kb jb) (-x.num) ∧ RowKit.Below w.heap.size w w' ∧ Fresh w.heap.size (.slice pa ka ja) ∧ Fresh w.heap.size (.slice pb kb jb) := by
 have HXY := Lib.hid (decide_eq_true hxy)
 have E1 := Lib.hid h1.1.1
 have Z1 := Lib.hid z1
 have E2 := Lib.hid h2.1.1
 have Z2 := Lib.hid z2
 have s0 := (((((((Sf.start w).arg h1.2.2).arg h1.1.2).arg h2.2.2).arg h2.1.2).put [.int .i64 s1, .slice a1 n1 c1, .int .i64 1, .slice b1 m1 d1, .int .i64 s2, .slice a2 n2 c2, .int .i64 1, .slice b2 m2 d2] 28).put [.int .i64 0, .slice none 0 0, .int .i64 0, .slice none 0 0, .int .i64 0, .slice none 0 0, .int .i64 0, .slice none 0 0] 28)
 try simp only [World.size_alloc] at s0
 have S0 := Lib.hid s0
 clear s0
 clear hxy h1 h2 z1 z2
 go_enter Tryz.func27, Tryz.ntmps27
 obtain ⟨q1, q2, q3, q4, q5, q6, q7, q8⟩ := Fb.cells8 (S0.out.box _ mq1)
 go_wp2_with fail
 clear q1 q2 q3 q4 q5 q6 q7 q8
 refine (r10right_v (S0.out.fr mq2 mq3 E1.out) Z1.out (S0.out.fr mq0 mq1 E2.out) Z2.out HXY.out).mono ?_
 rintro e w1 ⟨rfl, hb⟩
 have R1 := Lib.hid (S0.out.later hb)
 clear hb
 go_wp2_with fail
 have K0 : ∀ W F cs, Sf w [(w.heap.size + 1, 28, cs), (w.heap.size, 28, [.int .i64 s1, .slice a1 n1 c1, .int .i64 1, .slice b1 m1 d1, .int .i64 s2, .slice a2 n2 c2, .int .i64 1, .slice b2 m2 d2])] F W → W.cell? ⟨w.heap.size, 0, none⟩ = some (.int .i64 s1) ∧ W.cell? ⟨w.heap.size, 1, none⟩ = some (.slice a1 n1 c1) ∧ W.cell? ⟨w.heap.size, 2, none⟩ = some (.int .i64 1) ∧ W.cell? ⟨w.heap.size, 3, none⟩ = some (.slice b1 m1 d1) ∧ W.cell? ⟨w.heap.size, 4, none⟩ = some (.int .i64 s2) ∧ W.cell? ⟨w.heap.size, 5, none⟩ = some (.slice a2 n2 c2) ∧ W.cell? ⟨w.heap.size, 6, none⟩ = some (.int .i64 1) ∧ W.cell? ⟨w.heap.size, 7, none⟩ = some (.slice b2 m2 d2) := fun W F cs h => ⟨(h.box _ mq1).cell 0, (h.box _ mq1).cell 1, (h.box _ mq1).cell 2, (h.box _ mq1).cell 3, (h.box _ mq1).cell 4, (h.box _ mq1).cell 5, (h.box _ mq1).cell 6, (h.box _ mq1).cell 7⟩
 have KK := Lib.hid K0
 clear K0
 have N0 := Lib.hid R1.out.drew
 clear R1
 have e0 := KK.out _ _ _ N0.out
 have C1 := Lib.hid (rfneg_k (N0.out.fr mq0 mq1 E2.out) Z2.out)
 go_region_held3 (fun W => W.cell? ⟨w.heap.size, 0, none⟩ = some (.int .i64 s1) ∧ W.cell? ⟨w.heap.size, 1, none⟩ = some (.slice a1 n1 c1) ∧ W.cell? ⟨w.heap.size, 2, none⟩ = some (.int .i64 1) ∧ W.cell? ⟨w.heap.size, 3, none⟩ = some (.slice b1 m1 d1) ∧ W.cell? ⟨w.heap.size, 4, none⟩ = some (.int .i64 s2) ∧ W.cell? ⟨w.heap.size, 5, none⟩ = some (.slice a2 n2 c2) ∧ W.cell? ⟨w.heap.size, 6, none⟩ = some (.int .i64 1) ∧ W.cell? ⟨w.heap.size, 7, none⟩ = some (.slice b2 m2 d2))
  (first | (with_reducible exact e0) | (with_reducible exact e1) | (with_reducible exact e2) | (with_reducible exact e3) | go_keep)
  (first
    | (have hG := N1; clear hG; go_at_call 55; (with_reducible refine (C2.out).mono ?_); rintro e y2 ⟨sb, pb, kb, jb, rfl, hn, hb, hf⟩; have NB := Lib.hid hn; have NA2 := Lib.hid (NA.out.later hb); have FB := Lib.hid (hf.mono N1.out.below.size); have N2 := Lib.hid (N1.out.ret hb hn.2 hf); clear hn hb hf; have e2 := KK.out _ _ _ N2.out; obtain ⟨t0, t1, t2, t3, t4, t5, t6, t7⟩ := Fb.cells8 (N2.out.box _ mq0); have u0 := (N2.out.box _ mq0).free 0; have u1 := (N2.out.box _ mq0).free 1; have u2 := (N2.out.box _ mq0).free 2; have u3 := (N2.out.box _ mq0).free 3; have u4 := (N2.out.box _ mq0).free 4; have u5 := (N2.out.box _ mq0).free 5; have u6 := (N2.out.box _ mq0).free 6; have u7 := (N2.out.box _ mq0).free 7; have N3 := Lib.hid (Sf.set8 (pre := []) N2.out (.int .i64 sa) (.slice pa ka ja) (.int .i64 1) (.slice b2 m2 d2) (.int .i64 sb) (.slice pb kb jb) (.int .i64 1) (.slice b1 m1 d1)); have e3 := KK.out _ _ _ N3.out)
    | (have hG := N0; clear hG; go_at_call 55; (with_reducible refine (C1.out).mono ?_); rintro e y1 ⟨sa, pa, ka, ja, rfl, hn, hb, hf⟩; have NA := Lib.hid hn; have HBA := Lib.hid hb; have FA := Lib.hid (hf.mono N0.out.below.size); have N1 := Lib.hid (N0.out.ret hb hn.2 hf); clear hn hb hf; have e1 := KK.out _ _ _ N1.out; have C2 := Lib.hid (rfneg_k (N1.out.fr mq3 mq4 E1.out) Z1.out)))
 all_goals (go_wp2_with fail; refine bodyPost_ret (results_cell_row rfl _ _ _ _ _ (0, 0) _ rfl (N3.out.box _ mq0) Tryz.underlying28 rfl (by kernel_rfl)) rfl ⟨_, _, _, _, _, _, _, _, rfl, (N3.out.num (v := .slice pa ka ja) (z := -y.num) mq1 NA.out.1), (N3.out.num (v := .slice pb kb jb) (z := -x.num) mq0 NB.out.1), N3.out.below, FA.out, FB.out⟩)

set_option maxHeartbeats 8000000 in
theorem r10neg_bad {w : World} {s1 t1 : Int} {a1 b1 : Option Addr} {n1 c1 m1 d1 : Nat} {l1 k1 : List Int} {s2 t2 : Int} {a2 b2 : Option Addr} {n2 c2 m2 d2 : Nat} {l2 k2 : List Int} (hl1 : Ints w (.slice a1 n1 c1) l1) (hk1 : Ints w (.slice b1 m1 d1) k1) (ll1 : l1.length ≤ 1000) (lk1 : k1.length ≤ 1000) (hl2 : Ints w (.slice a2 n2 c2) l2) (hk2 : Ints w (.slice b2 m2 d2) k2) (ll2 : l2.length ≤ 1000) (lk2 : k2.length ≤ 1000) (hr : sR s1 l1 t1 k1 s2 l2 t2 k2 = false) :
  Calls Tryz.prog 27 #[.agg #[.int .i64 s1, .slice a1 n1 c1, .int .i64 t1, .slice b1 m1 d1, .int .i64 s2, .slice a2 n2 c2, .int .i64 t2, .slice b2 m2 d2]] w fun e w' => e = .returned (.agg #[.int .i64 0, .slice none 0 0, .int .i64 0, .slice none 0 0, .int .i64 0, .slice none 0 0, .int .i64 0, .slice none 0 0]) ∧ RowKit.Below w.heap.size w w' := by
 have LL1 := Lib.hid ll1
 have LK1 := Lib.hid lk1
 have LL2 := Lib.hid ll2
 have LK2 := Lib.hid lk2
 have EA := Lib.hid hr
 have s0 := (((((((Sf.start w).arg hk1).arg hl1).arg hk2).arg hl2).put [.int .i64 s1, .slice a1 n1 c1, .int .i64 t1, .slice b1 m1 d1, .int .i64 s2, .slice a2 n2 c2, .int .i64 t2, .slice b2 m2 d2] 28).put [.int .i64 0, .slice none 0 0, .int .i64 0, .slice none 0 0, .int .i64 0, .slice none 0 0, .int .i64 0, .slice none 0 0] 28)
 try simp only [World.size_alloc] at s0
 have S0 := Lib.hid s0
 clear s0
 clear hr hl1 hk1 ll1 lk1 hl2 hk2 ll2 lk2
 go_enter Tryz.func27, Tryz.ntmps27
 obtain ⟨q1, q2, q3, q4, q5, q6, q7, q8⟩ := Fb.cells8 (S0.out.box _ mq1)
 go_wp2_with fail
 clear q1 q2 q3 q4 q5 q6 q7 q8
 refine (r10right_raw (S0.out.ints (.slice a1 n1 c1, l1) mq2) (S0.out.ints (.slice b1 m1 d1, k1) mq3) LL1.out LK1.out (S0.out.ints (.slice a2 n2 c2, l2) mq0) (S0.out.ints (.slice b2 m2 d2, k2) mq1) LL2.out LK2.out EA.out).mono ?_
 rintro e w1 ⟨rfl, hb⟩
 have R1 := Lib.hid (S0.out.later hb)
 clear hb
 have Q9 := Lib.hid (Sf.row (pre := []) R1.out [.int .i64 0, .slice none 0 0, .int .i64 0, .slice none 0 0, .int .i64 0, .slice none 0 0, .int .i64 0, .slice none 0 0])
 go_wp2_with (first | refine wpList_store_row rfl _ _ _ rfl _ #[.int .i64 0, .slice none 0 0, .int .i64 0, .slice none 0 0, .int .i64 0, .slice none 0 0, .int .i64 0, .slice none 0 0] rfl rfl _ _ (R1.out.box _ mq0) (by kernel_rfl) rfl (by simp [Value.oneCell']) ?_)
 refine bodyPost_ret (results_cell_row rfl _ _ _ _ _ (0, 0) _ rfl (Q9.out.box _ mq0) Tryz.underlying28 rfl (by kernel_rfl)) rfl ⟨rfl, Q9.out.below⟩
theorem rfsame_b {w : World} {s1 t1 : Int} {a1 b1 : Option Addr} {n1 c1 m1 d1 : Nat} {l1 k1 : List Int} {s2 t2 : Int} {a2 b2 : Option Addr} {n2 c2 m2 d2 : Nat} {l2 k2 : List Int} (h1 : Ints w (.slice a1 n1 c1) l1) (h2 : Ints w (.slice b1 m1 d1) k1) (h3 : Ints w (.slice a2 n2 c2) l2) (h4 : Ints w (.slice b2 m2 d2) k2) {r : Bool} (hr : (decide (s1 = s2 ∧ l1 = l2) && decide (t1 = t2 ∧ k1 = k2)) = r) :
  Calls Tryz.prog 23 #[.agg #[.int .i64 s1, .slice a1 n1 c1, .int .i64 t1, .slice b1 m1 d1], .agg #[.int .i64 s2, .slice a2 n2 c2, .int .i64 t2, .slice b2 m2 d2]] w fun e w' => e = .returned (.bool r) ∧ RowKit.Below w.heap.size w w' := by
 subst hr
 exact rfsame_raw s1 a1 n1 c1 l1 t1 b1 m1 d1 k1 s2 a2 n2 c2 l2 t2 b2 m2 d2 k2 w h1 h2 h3 h4

set_option maxHeartbeats 8000000 in
theorem r10same_raw {w : World} {s1 t1 : Int} {a1 b1 : Option Addr} {n1 c1 m1 d1 : Nat} {l1 k1 : List Int} {s2 t2 : Int} {a2 b2 : Option Addr} {n2 c2 m2 d2 : Nat} {l2 k2 : List Int} {s3 t3 : Int} {a3 b3 : Option Addr} {n3 c3 m3 d3 : Nat} {l3 k3 : List Int} {s4 t4 : Int} {a4 b4 : Option Addr} {n4 c4 m4 d4 : Nat} {l4 k4 : List Int} (hl1 : Ints w (.slice a1 n1 c1) l1) (hk1 : Ints w (.slice b1 m1 d1) k1) (hl2 : Ints w (.slice a2 n2 c2) l2) (hk2 : Ints w (.slice b2 m2 d2) k2) (hl3 : Ints w (.slice a3 n3 c3) l3) (hk3 : Ints w (.slice b3 m3 d3) k3) (hl4 : Ints w (.slice a4 n4 c4) l4) (hk4 : Ints w (.slice b4 m4 d4) k4) {r : Bool} (hr : ((decide (s1 = s3 ∧ l1 = l3) && decide (t1 = t3 ∧ k1 = k3)) && (decide (s2 = s4 ∧ l2 = l4) && decide (t2 = t4 ∧ k2 = k4))) = r) :
  Calls Tryz.prog 9 #[.agg #[.int .i64 s1, .slice a1 n1 c1, .int .i64 t1, .slice b1 m1 d1, .int .i64 s2, .slice a2 n2 c2, .int .i64 t2, .slice b2 m2 d2], .agg #[.int .i64 s3, .slice a3 n3 c3, .int .i64 t3, .slice b3 m3 d3, .int .i64 s4, .slice a4 n4 c4, .int .i64 t4, .slice b4 m4 d4]] w fun e w' => e = .returned (.bool r) ∧ RowKit.Below w.heap.size w w' := by
 obtain ⟨u, hu⟩ : ∃ u, (decide (s1 = s3 ∧ l1 = l3) && decide (t1 = t3 ∧ k1 = k3)) = u := ⟨_, rfl⟩
 obtain ⟨v, hv⟩ : ∃ v, (decide (s2 = s4 ∧ l2 = l4) && decide (t2 = t4 ∧ k2 = k4)) = v := ⟨_, rfl⟩
 rw [hu, hv] at hr
 have HU := Lib.hid hu
 have HV := Lib.hid hv
 cases u
 ·obtain rfl : false = r := by rw [← hr]; rfl
  have s0 := (((((((((((Sf.start w).arg hk1).arg hl1).arg hk2).arg hl2).arg hk3).arg hl3).arg hk4).arg hl4).put [.int .i64 s1, .slice a1 n1 c1, .int .i64 t1, .slice b1 m1 d1, .int .i64 s2, .slice a2 n2 c2, .int .i64 t2, .slice b2 m2 d2] 28).put [.int .i64 s3, .slice a3 n3 c3, .int .i64 t3, .slice b3 m3 d3, .int .i64 s4, .slice a4 n4 c4, .int .i64 t4, .slice b4 m4 d4] 28)
  try simp only [World.size_alloc] at s0
  have S0 := Lib.hid s0
  clear s0
  clear hr hu hv hl1 hk1 hl2 hk2 hl3 hk3 hl4 hk4
  go_enter Tryz.func9, Tryz.ntmps9
  obtain ⟨q1, q2, q3, q4, q5, q6, q7, q8⟩ := Fb.cells8 (S0.out.box _ mq0)
  obtain ⟨q9, q10, q11, q12, q13, q14, q15, q16⟩ := Fb.cells8 (S0.out.box _ mq1)
  go_wp2_with fail
  clear q1 q2 q3 q4 q5 q6 q7 q8 q9 q10 q11 q12 q13 q14 q15 q16
  refine (rfsame_b (S0.out.ints (.slice a1 n1 c1, l1) mq6) (S0.out.ints (.slice b1 m1 d1, k1) mq7) (S0.out.ints (.slice a3 n3 c3, l3) mq2) (S0.out.ints (.slice b3 m3 d3, k3) mq3) HU.out).mono ?_
  rintro e w1 ⟨rfl, hb⟩
  have R1 := Lib.hid (S0.out.later hb)
  clear hb
  go_wp2_with fail
  go_ret
  exact ⟨rfl, R1.out.below⟩
 ·obtain rfl : v = r := by rw [← hr]; rfl
  have s0 := (((((((((((Sf.start w).arg hk1).arg hl1).arg hk2).arg hl2).arg hk3).arg hl3).arg hk4).arg hl4).put [.int .i64 s1, .slice a1 n1 c1, .int .i64 t1, .slice b1 m1 d1, .int .i64 s2, .slice a2 n2 c2, .int .i64 t2, .slice b2 m2 d2] 28).put [.int .i64 s3, .slice a3 n3 c3, .int .i64 t3, .slice b3 m3 d3, .int .i64 s4, .slice a4 n4 c4, .int .i64 t4, .slice b4 m4 d4] 28)
  try simp only [World.size_alloc] at s0
  have S0 := Lib.hid s0
  clear s0
  clear hr hu hv hl1 hk1 hl2 hk2 hl3 hk3 hl4 hk4
  go_enter Tryz.func9, Tryz.ntmps9
  obtain ⟨q1, q2, q3, q4, q5, q6, q7, q8⟩ := Fb.cells8 (S0.out.box _ mq0)
  obtain ⟨q9, q10, q11, q12, q13, q14, q15, q16⟩ := Fb.cells8 (S0.out.box _ mq1)
  go_wp2_with fail
  clear q1 q2 q3 q4 q5 q6 q7 q8 q9 q10 q11 q12 q13 q14 q15 q16
  refine (rfsame_b (S0.out.ints (.slice a1 n1 c1, l1) mq6) (S0.out.ints (.slice b1 m1 d1, k1) mq7) (S0.out.ints (.slice a3 n3 c3, l3) mq2) (S0.out.ints (.slice b3 m3 d3, k3) mq3) HU.out).mono ?_
  rintro e w1 ⟨rfl, hb⟩
  have R1 := Lib.hid (S0.out.later hb)
  clear hb
  obtain ⟨q17, q18, q19, q20, q21, q22, q23, q24⟩ := Fb.cells8 (R1.out.box _ mq0)
  obtain ⟨q25, q26, q27, q28, q29, q30, q31, q32⟩ := Fb.cells8 (R1.out.box _ mq1)
  go_wp2_with fail
  clear q17 q18 q19 q20 q21 q22 q23 q24 q25 q26 q27 q28 q29 q30 q31 q32
  refine (rfsame_b (R1.out.ints (.slice a2 n2 c2, l2) mq4) (R1.out.ints (.slice b2 m2 d2, k2) mq5) (R1.out.ints (.slice a4 n4 c4, l4) mq0) (R1.out.ints (.slice b4 m4 d4, k4) mq1) HV.out).mono ?_
  rintro e w2 ⟨rfl, hb⟩
  have R2 := Lib.hid (R1.out.later hb)
  clear hb
  go_wp2_with fail
  go_ret
  exact ⟨rfl, R2.out.below⟩
end Go.Proofs.YtgncnkojpedmdaaGreat.Sp
