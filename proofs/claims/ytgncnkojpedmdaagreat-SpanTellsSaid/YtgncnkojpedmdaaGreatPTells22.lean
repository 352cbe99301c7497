/- The contracts of span: Hull, Meet. small of the laws. -/
import Derived.Test.YtgncnkojpedmdaaGreatPTells19
import Derived.Test.YtgncnkojpedmdaaGreatPTells20
import Derived.Test.YtgncnkojpedmdaaGreatPTells21
set_option maxRecDepth 100000
namespace Go.Proofs.YtgncnkojpedmdaaGreat.Sp
open Go.RowKit Bi

set_option maxHeartbeats 8000000 in
theorem p10hull {w : World} {s1 : Int} {a1 b1 : Option Addr} {n1 c1 m1 d1 : Nat} {x : Rat} {s2 : Int} {a2 b2 : Option Addr} {n2 c2 m2 d2 : Nat} {y : Rat} {s3 : Int} {a3 b3 : Option Addr} {n3 c3 m3 d3 : Nat} {p : Rat} {s4 : Int} {a4 b4 : Option Addr} {n4 c4 m4 d4 : Nat} {q : Rat} (h1 : Fr w s1 (.slice a1 n1 c1) (.slice b1 m1 d1) x) (z1 : FSz 400 x) (h2 : Fr w s2 (.slice a2 n2 c2) (.slice b2 m2 d2) y) (z2 : FSz 400 y) (h3 : Fr w s3 (.slice a3 n3 c3) (.slice b3 m3 d3) p) (z3 : FSz 400 p) (h4 : Fr w s4 (.slice a4 n4 c4) (.slice b4 m4 d4) q) (z4 : FSz 400 q) (hxy : x ≤ y) (hpq : p ≤ q) {r : Rat × Rat} (hr : hullS (x, y) (p, q) = r) :
  Calls Tryz.prog 10 #[.agg #[.int .i64 s1, .slice a1 n1 c1, .int .i64 1, .slice b1 m1 d1, .int .i64 s2, .slice a2 n2 c2, .int .i64 1, .slice b2 m2 d2], .agg #[.int .i64 s3, .slice a3 n3 c3, .int .i64 1, .slice b3 m3 d3, .int .i64 s4, .slice a4 n4 c4, .int .i64 1, .slice b4 m4 d4]] w (SpP (fun v => .tuple #[v, .int .i64 0]) r w) := by
 subst hr
 have E1 := Lib.hid h1.1.1
 have Z1 := Lib.hid z1
 have E2 := Lib.hid h2.1.1
 have Z2 := Lib.hid z2
 have E3 := Lib.hid h3.1.1
 have Z3 := Lib.hid z3
 have E4 := Lib.hid h4.1.1
 have Z4 := Lib.hid z4
 have HXY := Lib.hid (decide_eq_true hxy)
 have HPQ := Lib.hid (decide_eq_true hpq)
 have s0 := ((((((((((((Sf.start w).arg h1.2.2).arg h1.1.2).arg h2.2.2).arg h2.1.2).arg h3.2.2).arg h3.1.2).arg h4.2.2).arg h4.1.2).put [.int .i64 s1, .slice a1 n1 c1, .int .i64 1, .slice b1 m1 d1, .int .i64 s2, .slice a2 n2 c2, .int .i64 1, .slice b2 m2 d2] 28).put [.int .i64 s3, .slice a3 n3 c3, .int .i64 1, .slice b3 m3 d3, .int .i64 s4, .slice a4 n4 c4, .int .i64 1, .slice b4 m4 d4] 28).put [.int .i64 0, .slice none 0 0, .int .i64 0, .slice none 0 0, .int .i64 0, .slice none 0 0, .int .i64 0, .slice none 0 0] 28)
 try simp only [World.size_alloc] at s0
 have S0 := Lib.hid s0
 clear s0
 clear h1 h2 h3 h4 z1 z2 z3 z4 hxy hpq
 go_enter Tryz.func10, Tryz.ntmps10
 obtain ⟨q1, q2, q3, q4, q5, q6, q7, q8⟩ := Fb.cells8 (S0.out.box _ mq2)
 go_wp2_with fail
 clear q1 q2 q3 q4 q5 q6 q7 q8
 refine (p10right_v (S0.out.fr mq6 mq7 E1.out) Z1.out.mono (S0.out.fr mq4 mq5 E2.out) Z2.out.mono HXY.out).mono ?_
 rintro e w1 ⟨rfl, hb⟩
 have R1 := Lib.hid (S0.out.later hb)
 clear hb
 obtain ⟨q9, q10, q11, q12, q13, q14, q15, q16⟩ := Fb.cells8 (R1.out.box _ mq1)
 go_wp2_with fail
 clear q9 q10 q11 q12 q13 q14 q15 q16
 refine (p10right_v (R1.out.fr mq2 mq3 E3.out) Z3.out.mono (R1.out.fr mq0 mq1 E4.out) Z4.out.mono HPQ.out).mono ?_
 rintro e w2 ⟨rfl, hb⟩
 have R2 := Lib.hid (R1.out.later hb)
 clear hb
 obtain ⟨q17, q18, q19, q20, q21, q22, q23, q24⟩ := Fb.cells8 (R2.out.box _ mq1)
 obtain ⟨q25, q26, q27, q28, q29, q30, q31, q32⟩ := Fb.cells8 (R2.out.box _ mq2)
 go_wp2_with fail
 clear q17 q18 q19 q20 q21 q22 q23 q24 q25 q26 q27 q28 q29 q30 q31 q32
 refine (fmin_r (R2.out.fr mq6 mq7 E1.out) (R2.out.fr mq2 mq3 E3.out) Z1.out.mono Z3.out.mono rfl).mono ?_
 rintro e w3 ⟨sx3, ax3, nx3, cx3, bx3, mx3, dx3, rfl, hr, hb, hf, hg⟩
 have E3 := Lib.hid hr.1.1
 have R3 := Lib.hid (R2.out.ret2 hb hr.1.2 hf hr.2.2 hg)
 have FF3 := Lib.hid (hf.mono R2.out.below.size)
 have FG3 := Lib.hid (hg.mono R2.out.below.size)
 clear hr hb hf hg
 have P33 := Lib.hid (R3.out.put [.int .i64 0, .slice none 0 0, .int .i64 0, .slice none 0 0] 26)
 have Q33 := Lib.hid (Sf.row (pre := []) P33.out [.int .i64 sx3, .slice ax3 nx3 cx3, .int .i64 1, .slice bx3 mx3 dx3])
 obtain ⟨q34, q35, q36, q37, q38, q39, q40, q41⟩ := Fb.cells8 (Q33.out.box _ mq2)
 obtain ⟨q42, q43, q44, q45, q46, q47, q48, q49⟩ := Fb.cells8 (Q33.out.box _ mq3)
 go_wp2_with (first | refine wpList_store_row rfl _ _ _ rfl _ #[.int .i64 sx3, .slice ax3 nx3 cx3, .int .i64 1, .slice bx3 mx3 dx3] rfl rfl _ _ (P33.out.box _ List.mem_cons_self) (by kernel_rfl) rfl (by simp [Value.oneCell']) ?_)
 clear q34 q35 q36 q37 q38 q39 q40 q41 q42 q43 q44 q45 q46 q47 q48 q49
 refine (fmax_r (Q33.out.fr mq6 mq7 E2.out) (Q33.out.fr mq2 mq3 E4.out) Z2.out.mono Z4.out.mono rfl).mono ?_
 rintro e w4 ⟨sx4, ax4, nx4, cx4, bx4, mx4, dx4, rfl, hr, hb, hf, hg⟩
 have E4 := Lib.hid hr.1.1
 have R4 := Lib.hid (Q33.out.ret2 hb hr.1.2 hf hr.2.2 hg)
 have FF4 := Lib.hid (hf.mono Q33.out.below.size)
 have FG4 := Lib.hid (hg.mono Q33.out.below.size)
 clear hr hb hf hg
 have P50 := Lib.hid (R4.out.put [.int .i64 0, .slice none 0 0, .int .i64 0, .slice none 0 0] 26)
 have Q50 := Lib.hid (Sf.row (pre := []) P50.out [.int .i64 sx4, .slice ax4 nx4 cx4, .int .i64 1, .slice bx4 mx4 dx4])
 obtain ⟨q51, q52, q53, q54⟩ := Fb.cells4 (Q50.out.box _ mq0)
 obtain ⟨q55, q56, q57, q58⟩ := Fb.cells4 (Q50.out.box _ mq1)
 have Q59 := Lib.hid (Sf.row (pre := [(w4.heap.size, 26, [.int .i64 sx4, .slice ax4 nx4 cx4, .int .i64 1, .slice bx4 mx4 dx4]), (w3.heap.size, 26, [.int .i64 sx3, .slice ax3 nx3 cx3, .int .i64 1, .slice bx3 mx3 dx3])]) Q50.out [.int .i64 sx3, .slice ax3 nx3 cx3, .int .i64 1, .slice bx3 mx3 dx3, .int .i64 sx4, .slice ax4 nx4 cx4, .int .i64 1, .slice bx4 mx4 dx4])
 go_wp2_with (first | refine wpList_store_row rfl _ _ _ rfl _ #[.int .i64 sx4, .slice ax4 nx4 cx4, .int .i64 1, .slice bx4 mx4 dx4] rfl rfl _ _ (P50.out.box _ List.mem_cons_self) (by kernel_rfl) rfl (by simp [Value.oneCell']) ?_ | refine wpList_store_row rfl _ _ _ rfl _ #[.int .i64 sx3, .slice ax3 nx3 cx3, .int .i64 1, .slice bx3 mx3 dx3, .int .i64 sx4, .slice ax4 nx4 cx4, .int .i64 1, .slice bx4 mx4 dx4] rfl rfl _ _ (Q50.out.box _ mq2) (by kernel_rfl) rfl (by simp [Value.oneCell']) ?_)
 clear q51 q52 q53 q54 q55 q56 q57 q58
 refine bodyPost_ret (ret_row rfl _ _ _ _ rfl (run_loadVar_row _ _ _ _ _ (0, 0) _ (Q59.out.box _ mq2) Tryz.underlying28 rfl (by kernel_rfl))) rfl ⟨⟨sx3, ax3, nx3, cx3, bx3, mx3, dx3⟩, ⟨sx4, ax4, nx4, cx4, bx4, mx4, dx4⟩, rfl, (Q59.out.fr mq2 mq3 E3.out), (Q59.out.fr mq0 mq1 E4.out), Q59.out.below, fun g hg => ⟨⟨FF3.out g hg, FG3.out g hg⟩, ⟨FF4.out g hg, FG4.out g hg⟩⟩⟩

set_option maxHeartbeats 8000000 in
theorem p10hull_bad {w : World} {s1 t1 : Int} {a1 b1 : Option Addr} {n1 c1 m1 d1 : Nat} {l1 k1 : List Int} {s2 t2 : Int} {a2 b2 : Option Addr} {n2 c2 m2 d2 : Nat} {l2 k2 : List Int} {s3 t3 : Int} {a3 b3 : Option Addr} {n3 c3 m3 d3 : Nat} {l3 k3 : List Int} {s4 t4 : Int} {a4 b4 : Option Addr} {n4 c4 m4 d4 : Nat} {l4 k4 : List Int} (hl1 : Ints w (.slice a1 n1 c1) l1) (hk1 : Ints w (.slice b1 m1 d1) k1) (ll1 : l1.length ≤ 1000) (lk1 : k1.length ≤ 1000) (hl2 : Ints w (.slice a2 n2 c2) l2) (hk2 : Ints w (.slice b2 m2 d2) k2) (ll2 : l2.length ≤ 1000) (lk2 : k2.length ≤ 1000) (hl3 : Ints w (.slice a3 n3 c3) l3) (hk3 : Ints w (.slice b3 m3 d3) k3) (ll3 : l3.length ≤ 1000) (lk3 : k3.length ≤ 1000) (hl4 : Ints w (.slice a4 n4 c4) l4) (hk4 : Ints w (.slice b4 m4 d4) k4) (ll4 : l4.length ≤ 1000) (lk4 : k4.length ≤ 1000) (hr : (sR s1 l1 t1 k1 s2 l2 t2 k2 && sR s3 l3 t3 k3 s4 l4 t4 k4) = false) :
  Calls Tryz.prog 10 #[.agg #[.int .i64 s1, .slice a1 n1 c1, .int .i64 t1, .slice b1 m1 d1, .int .i64 s2, .slice a2 n2 c2, .int .i64 t2, .slice b2 m2 d2], .agg #[.int .i64 s3, .slice a3 n3 c3, .int .i64 t3, .slice b3 m3 d3, .int .i64 s4, .slice a4 n4 c4, .int .i64 t4, .slice b4 m4 d4]] w fun e w' => e = .returned (.tuple #[.agg #[.int .i64 0, .slice none 0 0, .int .i64 0, .slice none 0 0, .int .i64 0, .slice none 0 0, .int .i64 0, .slice none 0 0], .int .i64 1]) ∧ RowKit.Below w.heap.size w w' := by
 rcases ea : sR s1 l1 t1 k1 s2 l2 t2 k2 with _ | _
 ·skip
  have LL1 := Lib.hid ll1
  have LK1 := Lib.hid lk1
  have LL2 := Lib.hid ll2
  have LK2 := Lib.hid lk2
  have LL3 := Lib.hid ll3
  have LK3 := Lib.hid lk3
  have LL4 := Lib.hid ll4
  have LK4 := Lib.hid lk4
  have EA := Lib.hid ea
  have s0 := ((((((((((((Sf.start w).arg hk1).arg hl1).arg hk2).arg hl2).arg hk3).arg hl3).arg hk4).arg hl4).put [.int .i64 s1, .slice a1 n1 c1, .int .i64 t1, .slice b1 m1 d1, .int .i64 s2, .slice a2 n2 c2, .int .i64 t2, .slice b2 m2 d2] 28).put [.int .i64 s3, .slice a3 n3 c3, .int .i64 t3, .slice b3 m3 d3, .int .i64 s4, .slice a4 n4 c4, .int .i64 t4, .slice b4 m4 d4] 28).put [.int .i64 0, .slice none 0 0, .int .i64 0, .slice none 0 0, .int .i64 0, .slice none 0 0, .int .i64 0, .slice none 0 0] 28)
  try simp only [World.size_alloc] at s0
  have S0 := Lib.hid s0
  clear s0
  clear hr ea hl1 hk1 ll1 lk1 hl2 hk2 ll2 lk2 hl3 hk3 ll3 lk3 hl4 hk4 ll4 lk4
  go_enter Tryz.func10, Tryz.ntmps10
  obtain ⟨q1, q2, q3, q4, q5, q6, q7, q8⟩ := Fb.cells8 (S0.out.box _ mq2)
  go_wp2_with fail
  clear q1 q2 q3 q4 q5 q6 q7 q8
  refine (p10right_raw (S0.out.ints (.slice a1 n1 c1, l1) mq6) (S0.out.ints (.slice b1 m1 d1, k1) mq7) LL1.out LK1.out (S0.out.ints (.slice a2 n2 c2, l2) mq4) (S0.out.ints (.slice b2 m2 d2, k2) mq5) LL2.out LK2.out EA.out).mono ?_
  rintro e w1 ⟨rfl, hb⟩
  have R1 := Lib.hid (S0.out.later hb)
  clear hb
  have Q9 := Lib.hid (Sf.row (pre := []) R1.out [.int .i64 0, .slice none 0 0, .int .i64 0, .slice none 0 0, .int .i64 0, .slice none 0 0, .int .i64 0, .slice none 0 0])
  go_wp2_with (first | refine wpList_store_row rfl _ _ _ rfl _ #[.int .i64 0, .slice none 0 0, .int .i64 0, .slice none 0 0, .int .i64 0, .slice none 0 0, .int .i64 0, .slice none 0 0] rfl rfl _ _ (R1.out.box _ mq0) (by kernel_rfl) rfl (by simp [Value.oneCell']) ?_)
  refine bodyPost_ret (ret_row rfl _ _ _ _ rfl (run_loadVar_row _ _ _ _ _ (0, 0) _ (Q9.out.box _ mq0) Tryz.underlying28 rfl (by kernel_rfl))) rfl ⟨rfl, Q9.out.below⟩
 ·have eb : sR s3 l3 t3 k3 s4 l4 t4 k4 = false := by rw [ea] at hr; simpa using hr
  have LL1 := Lib.hid ll1
  have LK1 := Lib.hid lk1
  have LL2 := Lib.hid ll2
  have LK2 := Lib.hid lk2
  have LL3 := Lib.hid ll3
  have LK3 := Lib.hid lk3
  have LL4 := Lib.hid ll4
  have LK4 := Lib.hid lk4
  have EA := Lib.hid ea
  have EB := Lib.hid eb
  have s0 := ((((((((((((Sf.start w).arg hk1).arg hl1).arg hk2).arg hl2).arg hk3).arg hl3).arg hk4).arg hl4).put [.int .i64 s1, .slice a1 n1 c1, .int .i64 t1, .slice b1 m1 d1, .int .i64 s2, .slice a2 n2 c2, .int .i64 t2, .slice b2 m2 d2] 28).put [.int .i64 s3, .slice a3 n3 c3, .int .i64 t3, .slice b3 m3 d3, .int .i64 s4, .slice a4 n4 c4, .int .i64 t4, .slice b4 m4 d4] 28).put [.int .i64 0, .slice none 0 0, .int .i64 0, .slice none 0 0, .int .i64 0, .slice none 0 0, .int .i64 0, .slice none 0 0] 28)
  try simp only [World.size_alloc] at s0
  have S0 := Lib.hid s0
  clear s0
  clear hr ea hl1 hk1 ll1 lk1 hl2 hk2 ll2 lk2 hl3 hk3 ll3 lk3 hl4 hk4 ll4 lk4 eb
  go_enter Tryz.func10, Tryz.ntmps10
  obtain ⟨q1, q2, q3, q4, q5, q6, q7, q8⟩ := Fb.cells8 (S0.out.box _ mq2)
  go_wp2_with fail
  clear q1 q2 q3 q4 q5 q6 q7 q8
  refine (p10right_raw (S0.out.ints (.slice a1 n1 c1, l1) mq6) (S0.out.ints (.slice b1 m1 d1, k1) mq7) LL1.out LK1.out (S0.out.ints (.slice a2 n2 c2, l2) mq4) (S0.out.ints (.slice b2 m2 d2, k2) mq5) LL2.out LK2.out EA.out).mono ?_
  rintro e w1 ⟨rfl, hb⟩
  have R1 := Lib.hid (S0.out.later hb)
  clear hb
  obtain ⟨q9, q10, q11, q12, q13, q14, q15, q16⟩ := Fb.cells8 (R1.out.box _ mq1)
  go_wp2_with fail
  clear q9 q10 q11 q12 q13 q14 q15 q16
  refine (p10right_raw (R1.out.ints (.slice a3 n3 c3, l3) mq2) (R1.out.ints (.slice b3 m3 d3, k3) mq3) LL3.out LK3.out (R1.out.ints (.slice a4 n4 c4, l4) mq0) (R1.out.ints (.slice b4 m4 d4, k4) mq1) LL4.out LK4.out EB.out).mono ?_
  rintro e w2 ⟨rfl, hb⟩
  have R2 := Lib.hid (R1.out.later hb)
  clear hb
  have Q17 := Lib.hid (Sf.row (pre := []) R2.out [.int .i64 0, .slice none 0 0, .int .i64 0, .slice none 0 0, .int .i64 0, .slice none 0 0, .int .i64 0, .slice none 0 0])
  go_wp2_with (first | refine wpList_store_row rfl _ _ _ rfl _ #[.int .i64 0, .slice none 0 0, .int .i64 0, .slice none 0 0, .int .i64 0, .slice none 0 0, .int .i64 0, .slice none 0 0] rfl rfl _ _ (R2.out.box _ mq0) (by kernel_rfl) rfl (by simp [Value.oneCell']) ?_)
  refine bodyPost_ret (ret_row rfl _ _ _ _ rfl (run_loadVar_row _ _ _ _ _ (0, 0) _ (Q17.out.box _ mq0) Tryz.underlying28 rfl (by kernel_rfl))) rfl ⟨rfl, Q17.out.below⟩

theorem meet_sz {x y p q : Rat} (z1 : FSz 400 x) (z2 : FSz 400 y) (z3 : FSz 400 p) (z4 : FSz 400 q) : FSz 1000 (rmax x p) ∧ FSz 1000 (rmin y q) := by
 constructor
 ·rcases rmax_or x p with e | e <;> rw [e]
  ·exact z1.mono
  ·exact z3.mono
 ·rcases rmin_or y q with e | e <;> rw [e]
  ·exact z2.mono
  ·exact z4.mono

set_option maxHeartbeats 8000000 in
theorem p10meet {w : World} {s1 : Int} {a1 b1 : Option Addr} {n1 c1 m1 d1 : Nat} {x : Rat} {s2 : Int} {a2 b2 : Option Addr} {n2 c2 m2 d2 : Nat} {y : Rat} {s3 : Int} {a3 b3 : Option Addr} {n3 c3 m3 d3 : Nat} {p : Rat} {s4 : Int} {a4 b4 : Option Addr} {n4 c4 m4 d4 : Nat} {q : Rat} (h1 : Fr w s1 (.slice a1 n1 c1) (.slice b1 m1 d1) x) (z1 : FSz 400 x) (h2 : Fr w s2 (.slice a2 n2 c2) (.slice b2 m2 d2) y) (z2 : FSz 400 y) (h3 : Fr w s3 (.slice a3 n3 c3) (.slice b3 m3 d3) p) (z3 : FSz 400 p) (h4 : Fr w s4 (.slice a4 n4 c4) (.slice b4 m4 d4) q) (z4 : FSz 400 q) (hxy : x ≤ y) (hpq : p ≤ q) {r : Rat × Rat} (hr : meetS (x, y) (p, q) = r) (hm : r.1 ≤ r.2) :
  Calls Tryz.prog 12 #[.agg #[.int .i64 s1, .slice a1 n1 c1, .int .i64 1, .slice b1 m1 d1, .int .i64 s2, .slice a2 n2 c2, .int .i64 1, .slice b2 m2 d2], .agg #[.int .i64 s3, .slice a3 n3 c3, .int .i64 1, .slice b3 m3 d3, .int .i64 s4, .slice a4 n4 c4, .int .i64 1, .slice b4 m4 d4]] w (SpP (fun v => .tuple #[v, .bool true]) r w) := by
 subst hr
 have ZM := Lib.hid (meet_sz z1 z2 z3 z4)
 obtain ⟨k, hk⟩ : ∃ k, cmpR (rmax x p) (rmin y q) = k := ⟨_, rfl⟩
 have HK := Lib.hid hk
 have hc := cmp_le (rmax x p) (rmin y q)
 rw [hk] at hc
 have gk : decide (0 < k) = false := by
  have h1 : decide (k ≤ 0) = true := by rw [hc]; exact decide_eq_true hm
  simp at h1 ⊢; omega
 have E1 := Lib.hid h1.1.1
 have Z1 := Lib.hid z1
 have E2 := Lib.hid h2.1.1
 have Z2 := Lib.hid z2
 have E3 := Lib.hid h3.1.1
 have Z3 := Lib.hid z3
 have E4 := Lib.hid h4.1.1
 have Z4 := Lib.hid z4
 have HXY := Lib.hid (decide_eq_true hxy)
 have HPQ := Lib.hid (decide_eq_true hpq)
 have s0 := ((((((((((((Sf.start w).arg h1.2.2).arg h1.1.2).arg h2.2.2).arg h2.1.2).arg h3.2.2).arg h3.1.2).arg h4.2.2).arg h4.1.2).put [.int .i64 s1, .slice a1 n1 c1, .int .i64 1, .slice b1 m1 d1, .int .i64 s2, .slice a2 n2 c2, .int .i64 1, .slice b2 m2 d2] 28).put [.int .i64 s3, .slice a3 n3 c3, .int .i64 1, .slice b3 m3 d3, .int .i64 s4, .slice a4 n4 c4, .int .i64 1, .slice b4 m4 d4] 28).put [.int .i64 0, .slice none 0 0, .int .i64 0, .slice none 0 0, .int .i64 0, .slice none 0 0, .int .i64 0, .slice none 0 0] 28)
 try simp only [World.size_alloc] at s0
 have S0 := Lib.hid s0
 clear s0
 clear h1 h2 h3 h4 z1 z2 z3 z4 hxy hpq hm hk hc
 go_enter Tryz.func12, Tryz.ntmps12
 obtain ⟨q1, q2, q3, q4, q5, q6, q7, q8⟩ := Fb.cells8 (S0.out.box _ mq2)
 go_wp2_with fail
 clear q1 q2 q3 q4 q5 q6 q7 q8
 refine (p10right_v (S0.out.fr mq6 mq7 E1.out) Z1.out.mono (S0.out.fr mq4 mq5 E2.out) Z2.out.mono HXY.out).mono ?_
 rintro e w1 ⟨rfl, hb⟩
 have R1 := Lib.hid (S0.out.later hb)
 clear hb
 obtain ⟨q9, q10, q11, q12, q13, q14, q15, q16⟩ := Fb.cells8 (R1.out.box _ mq1)
 go_wp2_with fail
 clear q9 q10 q11 q12 q13 q14 q15 q16
 refine (p10right_v (R1.out.fr mq2 mq3 E3.out) Z3.out.mono (R1.out.fr mq0 mq1 E4.out) Z4.out.mono HPQ.out).mono ?_
 rintro e w2 ⟨rfl, hb⟩
 have R2 := Lib.hid (R1.out.later hb)
 clear hb
 obtain ⟨q17, q18, q19, q20, q21, q22, q23, q24⟩ := Fb.cells8 (R2.out.box _ mq1)
 obtain ⟨q25, q26, q27, q28, q29, q30, q31, q32⟩ := Fb.cells8 (R2.out.box _ mq2)
 go_wp2_with fail
 clear q17 q18 q19 q20 q21 q22 q23 q24 q25 q26 q27 q28 q29 q30 q31 q32
 refine (fmax_r (R2.out.fr mq6 mq7 E1.out) (R2.out.fr mq2 mq3 E3.out) Z1.out.mono Z3.out.mono rfl).mono ?_
 rintro e w3 ⟨sx3, ax3, nx3, cx3, bx3, mx3, dx3, rfl, hr, hb, hf, hg⟩
 have E3 := Lib.hid hr.1.1
 have R3 := Lib.hid (R2.out.ret2 hb hr.1.2 hf hr.2.2 hg)
 have FF3 := Lib.hid (hf.mono R2.out.below.size)
 have FG3 := Lib.hid (hg.mono R2.out.below.size)
 clear hr hb hf hg
 have P33 := Lib.hid (R3.out.put [.int .i64 0, .slice none 0 0, .int .i64 0, .slice none 0 0] 26)
 have Q33 := Lib.hid (Sf.row (pre := []) P33.out [.int .i64 sx3, .slice ax3 nx3 cx3, .int .i64 1, .slice bx3 mx3 dx3])
 obtain ⟨q34, q35, q36, q37, q38, q39, q40, q41⟩ := Fb.cells8 (Q33.out.box _ mq2)
 obtain ⟨q42, q43, q44, q45, q46, q47, q48, q49⟩ := Fb.cells8 (Q33.out.box _ mq3)
 go_wp2_with (first | refine wpList_store_row rfl _ _ _ rfl _ #[.int .i64 sx3, .slice ax3 nx3 cx3, .int .i64 1, .slice bx3 mx3 dx3] rfl rfl _ _ (P33.out.box _ List.mem_cons_self) (by kernel_rfl) rfl (by simp [Value.oneCell']) ?_)
 clear q34 q35 q36 q37 q38 q39 q40 q41 q42 q43 q44 q45 q46 q47 q48 q49
 refine (fmin_r (Q33.out.fr mq6 mq7 E2.out) (Q33.out.fr mq2 mq3 E4.out) Z2.out.mono Z4.out.mono rfl).mono ?_
 rintro e w4 ⟨sx4, ax4, nx4, cx4, bx4, mx4, dx4, rfl, hr, hb, hf, hg⟩
 have E4 := Lib.hid hr.1.1
 have R4 := Lib.hid (Q33.out.ret2 hb hr.1.2 hf hr.2.2 hg)
 have FF4 := Lib.hid (hf.mono Q33.out.below.size)
 have FG4 := Lib.hid (hg.mono Q33.out.below.size)
 clear hr hb hf hg
 have P50 := Lib.hid (R4.out.put [.int .i64 0, .slice none 0 0, .int .i64 0, .slice none 0 0] 26)
 have Q50 := Lib.hid (Sf.row (pre := []) P50.out [.int .i64 sx4, .slice ax4 nx4 cx4, .int .i64 1, .slice bx4 mx4 dx4])
 obtain ⟨q51, q52, q53, q54⟩ := Fb.cells4 (Q50.out.box _ mq0)
 obtain ⟨q55, q56, q57, q58⟩ := Fb.cells4 (Q50.out.box _ mq1)
 go_wp2_with (first | refine wpList_store_row rfl _ _ _ rfl _ #[.int .i64 sx4, .slice ax4 nx4 cx4, .int .i64 1, .slice bx4 mx4 dx4] rfl rfl _ _ (P50.out.box _ List.mem_cons_self) (by kernel_rfl) rfl (by simp [Value.oneCell']) ?_)
 clear q51 q52 q53 q54 q55 q56 q57 q58
 refine (fcmp_r (Q50.out.fr mq2 mq3 E3.out) (Q50.out.fr mq0 mq1 E4.out) ZM.out.1 ZM.out.2 HK.out).mono ?_
 rintro e w5 ⟨rfl, hb⟩
 have R5 := Lib.hid (Q50.out.later hb)
 clear hb
 obtain ⟨q59, q60, q61, q62⟩ := Fb.cells4 (R5.out.box _ mq0)
 obtain ⟨q63, q64, q65, q66⟩ := Fb.cells4 (R5.out.box _ mq1)
 have Q67 := Lib.hid (Sf.row (pre := [(w4.heap.size, 26, [.int .i64 sx4, .slice ax4 nx4 cx4, .int .i64 1, .slice bx4 mx4 dx4]), (w3.heap.size, 26, [.int .i64 sx3, .slice ax3 nx3 cx3, .int .i64 1, .slice bx3 mx3 dx3])]) R5.out [.int .i64 sx3, .slice ax3 nx3 cx3, .int .i64 1, .slice bx3 mx3 dx3, .int .i64 sx4, .slice ax4 nx4 cx4, .int .i64 1, .slice bx4 mx4 dx4])
 go_wp2_with (first | refine wpList_store_row rfl _ _ _ rfl _ #[.int .i64 sx3, .slice ax3 nx3 cx3, .int .i64 1, .slice bx3 mx3 dx3, .int .i64 sx4, .slice ax4 nx4 cx4, .int .i64 1, .slice bx4 mx4 dx4] rfl rfl _ _ (R5.out.box _ mq2) (by kernel_rfl) rfl (by simp [Value.oneCell']) ?_)
 clear q59 q60 q61 q62 q63 q64 q65 q66
 refine bodyPost_ret (ret_row rfl _ _ _ _ rfl (run_loadVar_row _ _ _ _ _ (0, 0) _ (Q67.out.box _ mq2) Tryz.underlying28 rfl (by kernel_rfl))) rfl ⟨⟨sx3, ax3, nx3, cx3, bx3, mx3, dx3⟩, ⟨sx4, ax4, nx4, cx4, bx4, mx4, dx4⟩, rfl, (Q67.out.fr mq2 mq3 E3.out), (Q67.out.fr mq0 mq1 E4.out), Q67.out.below, fun g hg => ⟨⟨FF3.out g hg, FG3.out g hg⟩, ⟨FF4.out g hg, FG4.out g hg⟩⟩⟩

set_option maxHeartbeats 8000000 in
theorem p10meet_none {w : World} {s1 : Int} {a1 b1 : Option Addr} {n1 c1 m1 d1 : Nat} {x : Rat} {s2 : Int} {a2 b2 : Option Addr} {n2 c2 m2 d2 : Nat} {y : Rat} {s3 : Int} {a3 b3 : Option Addr} {n3 c3 m3 d3 : Nat} {p : Rat} {s4 : Int} {a4 b4 : Option Addr} {n4 c4 m4 d4 : Nat} {q : Rat} (h1 : Fr w s1 (.slice a1 n1 c1) (.slice b1 m1 d1) x) (z1 : FSz 400 x) (h2 : Fr w s2 (.slice a2 n2 c2) (.slice b2 m2 d2) y) (z2 : FSz 400 y) (h3 : Fr w s3 (.slice a3 n3 c3) (.slice b3 m3 d3) p) (z3 : FSz 400 p) (h4 : Fr w s4 (.slice a4 n4 c4) (.slice b4 m4 d4) q) (z4 : FSz 400 q) (hxy : x ≤ y) (hpq : p ≤ q) (hm : ¬ (meetS (x, y) (p, q)).1 ≤ (meetS (x, y) (p, q)).2) :
  Calls Tryz.prog 12 #[.agg #[.int .i64 s1, .slice a1 n1 c1, .int .i64 1, .slice b1 m1 d1, .int .i64 s2, .slice a2 n2 c2, .int .i64 1, .slice b2 m2 d2], .agg #[.int .i64 s3, .slice a3 n3 c3, .int .i64 1, .slice b3 m3 d3, .int .i64 s4, .slice a4 n4 c4, .int .i64 1, .slice b4 m4 d4]] w fun e w' => e = .returned (.tuple #[.agg #[.int .i64 0, .slice none 0 0, .int .i64 0, .slice none 0 0, .int .i64 0, .slice none 0 0, .int .i64 0, .slice none 0 0], .bool false]) ∧ RowKit.Below w.heap.size w w' := by
 skip
 have ZM := Lib.hid (meet_sz z1 z2 z3 z4)
 obtain ⟨k, hk⟩ : ∃ k, cmpR (rmax x p) (rmin y q) = k := ⟨_, rfl⟩
 have HK := Lib.hid hk
 have hc := cmp_le (rmax x p) (rmin y q)
 rw [hk] at hc
 have gk : decide (0 < k) = true := by
  have h1 : decide (k ≤ 0) = false := by rw [hc]; exact decide_eq_false hm
  simp at h1 ⊢; omega
 have E1 := Lib.hid h1.1.1
 have Z1 := Lib.hid z1
 have E2 := Lib.hid h2.1.1
 have Z2 := Lib.hid z2
 have E3 := Lib.hid h3.1.1
 have Z3 := Lib.hid z3
 have E4 := Lib.hid h4.1.1
 have Z4 := Lib.hid z4
 have HXY := Lib.hid (decide_eq_true hxy)
 have HPQ := Lib.hid (decide_eq_true hpq)
 have s0 := ((((((((((((Sf.start w).arg h1.2.2).arg h1.1.2).arg h2.2.2).arg h2.1.2).arg h3.2.2).arg h3.1.2).arg h4.2.2).arg h4.1.2).put [.int .i64 s1, .slice a1 n1 c1, .int .i64 1, .slice b1 m1 d1, .int .i64 s2, .slice a2 n2 c2, .int .i64 1, .slice b2 m2 d2] 28).put [.int .i64 s3, .slice a3 n3 c3, .int .i64 1, .slice b3 m3 d3, .int .i64 s4, .slice a4 n4 c4, .int .i64 1, .slice b4 m4 d4] 28).put [.int .i64 0, .slice none 0 0, .int .i64 0, .slice none 0 0, .int .i64 0, .slice none 0 0, .int .i64 0, .slice none 0 0] 28)
 try simp only [World.size_alloc] at s0
 have S0 := Lib.hid s0
 clear s0
 clear h1 h2 h3 h4 z1 z2 z3 z4 hxy hpq hm hk hc
 go_enter Tryz.func12, Tryz.ntmps12
 obtain ⟨q1, q2, q3, q4, q5, q6, q7, q8⟩ := Fb.cells8 (S0.out.box _ mq2)
 go_wp2_with fail
 clear q1 q2 q3 q4 q5 q6 q7 q8
 refine (p10right_v (S0.out.fr mq6 mq7 E1.out) Z1.out.mono (S0.out.fr mq4 mq5 E2.out) Z2.out.mono HXY.out).mono ?_
 rintro e w1 ⟨rfl, hb⟩
 have R1 := Lib.hid (S0.out.later hb)
 clear hb
 obtain ⟨q9, q10, q11, q12, q13, q14, q15, q16⟩ := Fb.cells8 (R1.out.box _ mq1)
 go_wp2_with fail
 clear q9 q10 q11 q12 q13 q14 q15 q16
 refine (p10right_v (R1.out.fr mq2 mq3 E3.out) Z3.out.mono (R1.out.fr mq0 mq1 E4.out) Z4.out.mono HPQ.out).mono ?_
 rintro e w2 ⟨rfl, hb⟩
 have R2 := Lib.hid (R1.out.later hb)
 clear hb
 obtain ⟨q17, q18, q19, q20, q21, q22, q23, q24⟩ := Fb.cells8 (R2.out.box _ mq1)
 obtain ⟨q25, q26, q27, q28, q29, q30, q31, q32⟩ := Fb.cells8 (R2.out.box _ mq2)
 go_wp2_with fail
 clear q17 q18 q19 q20 q21 q22 q23 q24 q25 q26 q27 q28 q29 q30 q31 q32
 refine (fmax_r (R2.out.fr mq6 mq7 E1.out) (R2.out.fr mq2 mq3 E3.out) Z1.out.mono Z3.out.mono rfl).mono ?_
 rintro e w3 ⟨sx3, ax3, nx3, cx3, bx3, mx3, dx3, rfl, hr, hb, hf, hg⟩
 have E3 := Lib.hid hr.1.1
 have R3 := Lib.hid (R2.out.ret2 hb hr.1.2 hf hr.2.2 hg)
 have FF3 := Lib.hid (hf.mono R2.out.below.size)
 have FG3 := Lib.hid (hg.mono R2.out.below.size)
 clear hr hb hf hg
 have P33 := Lib.hid (R3.out.put [.int .i64 0, .slice none 0 0, .int .i64 0, .slice none 0 0] 26)
 have Q33 := Lib.hid (Sf.row (pre := []) P33.out [.int .i64 sx3, .slice ax3 nx3 cx3, .int .i64 1, .slice bx3 mx3 dx3])
 obtain ⟨q34, q35, q36, q37, q38, q39, q40, q41⟩ := Fb.cells8 (Q33.out.box _ mq2)
 obtain ⟨q42, q43, q44, q45, q46, q47, q48, q49⟩ := Fb.cells8 (Q33.out.box _ mq3)
 go_wp2_with (first | refine wpList_store_row rfl _ _ _ rfl _ #[.int .i64 sx3, .slice ax3 nx3 cx3, .int .i64 1, .slice bx3 mx3 dx3] rfl rfl _ _ (P33.out.box _ List.mem_cons_self) (by kernel_rfl) rfl (by simp [Value.oneCell']) ?_)
 clear q34 q35 q36 q37 q38 q39 q40 q41 q42 q43 q44 q45 q46 q47 q48 q49
 refine (fmin_r (Q33.out.fr mq6 mq7 E2.out) (Q33.out.fr mq2 mq3 E4.out) Z2.out.mono Z4.out.mono rfl).mono ?_
 rintro e w4 ⟨sx4, ax4, nx4, cx4, bx4, mx4, dx4, rfl, hr, hb, hf, hg⟩
 have E4 := Lib.hid hr.1.1
 have R4 := Lib.hid (Q33.out.ret2 hb hr.1.2 hf hr.2.2 hg)
 have FF4 := Lib.hid (hf.mono Q33.out.below.size)
 have FG4 := Lib.hid (hg.mono Q33.out.below.size)
 clear hr hb hf hg
 have P50 := Lib.hid (R4.out.put [.int .i64 0, .slice none 0 0, .int .i64 0, .slice none 0 0] 26)
 have Q50 := Lib.hid (Sf.row (pre := []) P50.out [.int .i64 sx4, .slice ax4 nx4 cx4, .int .i64 1, .slice bx4 mx4 dx4])
 obtain ⟨q51, q52, q53, q54⟩ := Fb.cells4 (Q50.out.box _ mq0)
 obtain ⟨q55, q56, q57, q58⟩ := Fb.cells4 (Q50.out.box _ mq1)
 go_wp2_with (first | refine wpList_store_row rfl _ _ _ rfl _ #[.int .i64 sx4, .slice ax4 nx4 cx4, .int .i64 1, .slice bx4 mx4 dx4] rfl rfl _ _ (P50.out.box _ List.mem_cons_self) (by kernel_rfl) rfl (by simp [Value.oneCell']) ?_)
 clear q51 q52 q53 q54 q55 q56 q57 q58
 refine (fcmp_r (Q50.out.fr mq2 mq3 E3.out) (Q50.out.fr mq0 mq1 E4.out) ZM.out.1 ZM.out.2 HK.out).mono ?_
 rintro e w5 ⟨rfl, hb⟩
 have R5 := Lib.hid (Q50.out.later hb)
 clear hb
 have Q59 := Lib.hid (Sf.row (pre := [(w4.heap.size, 26, [.int .i64 sx4, .slice ax4 nx4 cx4, .int .i64 1, .slice bx4 mx4 dx4]), (w3.heap.size, 26, [.int .i64 sx3, .slice ax3 nx3 cx3, .int .i64 1, .slice bx3 mx3 dx3])]) R5.out [.int .i64 0, .slice none 0 0, .int .i64 0, .slice none 0 0, .int .i64 0, .slice none 0 0, .int .i64 0, .slice none 0 0])
 go_wp2_with (first | refine wpList_store_row rfl _ _ _ rfl _ #[.int .i64 0, .slice none 0 0, .int .i64 0, .slice none 0 0, .int .i64 0, .slice none 0 0, .int .i64 0, .slice none 0 0] rfl rfl _ _ (R5.out.box _ mq2) (by kernel_rfl) rfl (by simp [Value.oneCell']) ?_)
 refine bodyPost_ret (ret_row rfl _ _ _ _ rfl (run_loadVar_row _ _ _ _ _ (0, 0) _ (Q59.out.box _ mq2) Tryz.underlying28 rfl (by kernel_rfl))) rfl ⟨rfl, Q59.out.below⟩

set_option maxHeartbeats 8000000 in
theorem p10meet_bad {w : World} {s1 t1 : Int} {a1 b1 : Option Addr} {n1 c1 m1 d1 : Nat} {l1 k1 : List Int} {s2 t2 : Int} {a2 b2 : Option Addr} {n2 c2 m2 d2 : Nat} {l2 k2 : List Int} {s3 t3 : Int} {a3 b3 : Option Addr} {n3 c3 m3 d3 : Nat} {l3 k3 : List Int} {s4 t4 : Int} {a4 b4 : Option Addr} {n4 c4 m4 d4 : Nat} {l4 k4 : List Int} (hl1 : Ints w (.slice a1 n1 c1) l1) (hk1 : Ints w (.slice b1 m1 d1) k1) (ll1 : l1.length ≤ 1000) (lk1 : k1.length ≤ 1000) (hl2 : Ints w (.slice a2 n2 c2) l2) (hk2 : Ints w (.slice b2 m2 d2) k2) (ll2 : l2.length ≤ 1000) (lk2 : k2.length ≤ 1000) (hl3 : Ints w (.slice a3 n3 c3) l3) (hk3 : Ints w (.slice b3 m3 d3) k3) (ll3 : l3.length ≤ 1000) (lk3 : k3.length ≤ 1000) (hl4 : Ints w (.slice a4 n4 c4) l4) (hk4 : Ints w (.slice b4 m4 d4) k4) (ll4 : l4.length ≤ 1000) (lk4 : k4.length ≤ 1000) (hr : (sR s1 l1 t1 k1 s2 l2 t2 k2 && sR s3 l3 t3 k3 s4 l4 t4 k4) = false) :
  Calls Tryz.prog 12 #[.agg #[.int .i64 s1, .slice a1 n1 c1, .int .i64 t1, .slice b1 m1 d1, .int .i64 s2, .slice a2 n2 c2, .int .i64 t2, .slice b2 m2 d2], .agg #[.int .i64 s3, .slice a3 n3 c3, .int .i64 t3, .slice b3 m3 d3, .int .i64 s4, .slice a4 n4 c4, .int .i64 t4, .slice b4 m4 d4]] w fun e w' => e = .returned (.tuple #[.agg #[.int .i64 0, .slice none 0 0, .int .i64 0, .slice none 0 0, .int .i64 0, .slice none 0 0, .int .i64 0, .slice none 0 0], .bool false]) ∧ RowKit.Below w.heap.size w w' := by
 rcases ea : sR s1 l1 t1 k1 s2 l2 t2 k2 with _ | _
 ·skip
  have LL1 := Lib.hid ll1
  have LK1 := Lib.hid lk1
  have LL2 := Lib.hid ll2
  have LK2 := Lib.hid lk2
  have LL3 := Lib.hid ll3
  have LK3 := Lib.hid lk3
  have LL4 := Lib.hid ll4
  have LK4 := Lib.hid lk4
  have EA := Lib.hid ea
  have s0 := ((((((((((((Sf.start w).arg hk1).arg hl1).arg hk2).arg hl2).arg hk3).arg hl3).arg hk4).arg hl4).put [.int .i64 s1, .slice a1 n1 c1, .int .i64 t1, .slice b1 m1 d1, .int .i64 s2, .slice a2 n2 c2, .int .i64 t2, .slice b2 m2 d2] 28).put [.int .i64 s3, .slice a3 n3 c3, .int .i64 t3, .slice b3 m3 d3, .int .i64 s4, .slice a4 n4 c4, .int .i64 t4, .slice b4 m4 d4] 28).put [.int .i64 0, .slice none 0 0, .int .i64 0, .slice none 0 0, .int .i64 0, .slice none 0 0, .int .i64 0, .slice none 0 0] 28)
  try simp only [World.size_alloc] at s0
  have S0 := Lib.hid s0
  clear s0
  clear hr ea hl1 hk1 ll1 lk1 hl2 hk2 ll2 lk2 hl3 hk3 ll3 lk3 hl4 hk4 ll4 lk4
  go_enter Tryz.func12, Tryz.ntmps12
  obtain ⟨q1, q2, q3, q4, q5, q6, q7, q8⟩ := Fb.cells8 (S0.out.box _ mq2)
  go_wp2_with fail
  clear q1 q2 q3 q4 q5 q6 q7 q8
  refine (p10right_raw (S0.out.ints (.slice a1 n1 c1, l1) mq6) (S0.out.ints (.slice b1 m1 d1, k1) mq7) LL1.out LK1.out (S0.out.ints (.slice a2 n2 c2, l2) mq4) (S0.out.ints (.slice b2 m2 d2, k2) mq5) LL2.out LK2.out EA.out).mono ?_
  rintro e w1 ⟨rfl, hb⟩
  have R1 := Lib.hid (S0.out.later hb)
  clear hb
  have Q9 := Lib.hid (Sf.row (pre := []) R1.out [.int .i64 0, .slice none 0 0, .int .i64 0, .slice none 0 0, .int .i64 0, .slice none 0 0, .int .i64 0, .slice none 0 0])
  go_wp2_with (first | refine wpList_store_row rfl _ _ _ rfl _ #[.int .i64 0, .slice none 0 0, .int .i64 0, .slice none 0 0, .int .i64 0, .slice none 0 0, .int .i64 0, .slice none 0 0] rfl rfl _ _ (R1.out.box _ mq0) (by kernel_rfl) rfl (by simp [Value.oneCell']) ?_)
  refine bodyPost_ret (ret_row rfl _ _ _ _ rfl (run_loadVar_row _ _ _ _ _ (0, 0) _ (Q9.out.box _ mq0) Tryz.underlying28 rfl (by kernel_rfl))) rfl ⟨rfl, Q9.out.below⟩
 ·have eb : sR s3 l3 t3 k3 s4 l4 t4 k4 = false := by rw [ea] at hr; simpa using hr
  have LL1 := Lib.hid ll1
  have LK1 := Lib.hid lk1
  have LL2 := Lib.hid ll2
  have LK2 := Lib.hid lk2
  have LL3 := Lib.hid ll3
  have LK3 := Lib.hid lk3
  have LL4 := Lib.hid ll4
  have LK4 := Lib.hid lk4
  have EA := Lib.hid ea
  have EB := Lib.hid eb
  have s0 := ((((((((((((Sf.start w).arg hk1).arg hl1).arg hk2).arg hl2).arg hk3).arg hl3).arg hk4).arg hl4).put [.int .i64 s1, .slice a1 n1 c1, .int .i64 t1, .slice b1 m1 d1, .int .i64 s2, .slice a2 n2 c2, .int .i64 t2, .slice b2 m2 d2] 28).put [.int .i64 s3, .slice a3 n3 c3, .int .i64 t3, .slice b3 m3 d3, .int .i64 s4, .slice a4 n4 c4, .int .i64 t4, .slice b4 m4 d4] 28).put [.int .i64 0, .slice none 0 0, .int .i64 0, .slice none 0 0, .int .i64 0, .slice none 0 0, .int .i64 0, .slice none 0 0] 28)
  try simp only [World.size_alloc] at s0
  have S0 := Lib.hid s0
  clear s0
  clear hr ea hl1 hk1 ll1 lk1 hl2 hk2 ll2 lk2 hl3 hk3 ll3 lk3 hl4 hk4 ll4 lk4 eb
  go_enter Tryz.func12, Tryz.ntmps12
  obtain ⟨q1, q2, q3, q4, q5, q6, q7, q8⟩ := Fb.cells8 (S0.out.box _ mq2)
  go_wp2_with fail
  clear q1 q2 q3 q4 q5 q6 q7 q8
  refine (p10right_raw (S0.out.ints (.slice a1 n1 c1, l1) mq6) (S0.out.ints (.slice b1 m1 d1, k1) mq7) LL1.out LK1.out (S0.out.ints (.slice a2 n2 c2, l2) mq4) (S0.out.ints (.slice b2 m2 d2, k2) mq5) LL2.out LK2.out EA.out).mono ?_
  rintro e w1 ⟨rfl, hb⟩
  have R1 := Lib.hid (S0.out.later hb)
  clear hb
  obtain ⟨q9, q10, q11, q12, q13, q14, q15, q16⟩ := Fb.cells8 (R1.out.box _ mq1)
  go_wp2_with fail
  clear q9 q10 q11 q12 q13 q14 q15 q16
  refine (p10right_raw (R1.out.ints (.slice a3 n3 c3, l3) mq2) (R1.out.ints (.slice b3 m3 d3, k3) mq3) LL3.out LK3.out (R1.out.ints (.slice a4 n4 c4, l4) mq0) (R1.out.ints (.slice b4 m4 d4, k4) mq1) LL4.out LK4.out EB.out).mono ?_
  rintro e w2 ⟨rfl, hb⟩
  have R2 := Lib.hid (R1.out.later hb)
  clear hb
  have Q17 := Lib.hid (Sf.row (pre := []) R2.out [.int .i64 0, .slice none 0 0, .int .i64 0, .slice none 0 0, .int .i64 0, .slice none 0 0, .int .i64 0, .slice none 0 0])
  go_wp2_with (first | refine wpList_store_row rfl _ _ _ rfl _ #[.int .i64 0, .slice none 0 0, .int .i64 0, .slice none 0 0, .int .i64 0, .slice none 0 0, .int .i64 0, .slice none 0 0] rfl rfl _ _ (R2.out.box _ mq0) (by kernel_rfl) rfl (by simp [Value.oneCell']) ?_)
  refine bodyPost_ret (ret_row rfl _ _ _ _ rfl (run_loadVar_row _ _ _ _ _ (0, 0) _ (Q17.out.box _ mq0) Tryz.underlying28 rfl (by kernel_rfl))) rfl ⟨rfl, Q17.out.below⟩
end Go.Proofs.YtgncnkojpedmdaaGreat.Sp

namespace Go.Proofs.YtgncnkojpedmdaaGreat.Sp
open Go.RowKit Bi
theorem Sf.keep4_8 {w W : World} {L : List FBox} {F : List (Value × List Int)} {a0 a1 a2 a3 b0 b1 b2 b3 b4 b5 b6 b7 : Value × List Int} (h : Sf w L (a0 :: a1 :: a2 :: a3 :: b0 :: b1 :: b2 :: b3 :: b4 :: b5 :: b6 :: b7 :: F) W) : Sf w L (a0 :: a1 :: a2 :: a3 :: F) W := Sf.facts h fun f hf => by
 rcases List.mem_cons.1 hf with rfl | hf
 ·exact List.mem_cons_self
 rcases List.mem_cons.1 hf with rfl | hf
 ·exact (List.mem_cons_of_mem _ List.mem_cons_self)
 rcases List.mem_cons.1 hf with rfl | hf
 ·exact (List.mem_cons_of_mem _ (List.mem_cons_of_mem _ List.mem_cons_self))
 rcases List.mem_cons.1 hf with rfl | hf
 ·exact (List.mem_cons_of_mem _ (List.mem_cons_of_mem _ (List.mem_cons_of_mem _ List.mem_cons_self)))
 exact (List.mem_cons_of_mem _ (List.mem_cons_of_mem _ (List.mem_cons_of_mem _ (List.mem_cons_of_mem _ (List.mem_cons_of_mem _ (List.mem_cons_of_mem _ (List.mem_cons_of_mem _ (List.mem_cons_of_mem _ (List.mem_cons_of_mem _ (List.mem_cons_of_mem _ (List.mem_cons_of_mem _ (List.mem_cons_of_mem _ hf))))))))))))
theorem Sf.keep0_8 {w W : World} {L : List FBox} {F : List (Value × List Int)} {b0 b1 b2 b3 b4 b5 b6 b7 : Value × List Int} (h : Sf w L (b0 :: b1 :: b2 :: b3 :: b4 :: b5 :: b6 :: b7 :: F) W) : Sf w L F W := Sf.facts h fun _ hf => (List.mem_cons_of_mem _ (List.mem_cons_of_mem _ (List.mem_cons_of_mem _ (List.mem_cons_of_mem _ (List.mem_cons_of_mem _ (List.mem_cons_of_mem _ (List.mem_cons_of_mem _ (List.mem_cons_of_mem _ hf))))))))
theorem fszi {z : Int} (h : z.natAbs < 1048576) : FSz 400 (z : Rat) := (FSz.one (by rw [Rat.num_intCast]; exact h) (by rw [Rat.den_intCast]; decide)).mono

set_option maxHeartbeats 32000000 in
theorem r10small {w : World} : Calls Tryz.prog 4 #[] w fun e w' => e = .returned (.bool true) ∧ RowKit.Below w.heap.size w w' := by
 have s0 := (Sf.start w)
 try simp only [World.size_alloc] at s0
 have S0 := Lib.hid s0
 clear s0
 go_enter Tryz.func4, Tryz.ntmps4
 go_wp2_with fail
 refine (r10of (1) (2) (by decide) (by decide)).mono ?_
 rintro e w1 ⟨c1, d1, rfl, h1, h2, hb, ho⟩
 have EC1 := Lib.hid h1.1.1
 have ED1 := Lib.hid h2.1.1
 have R1 := Lib.hid (Sf.span S0.out hb h1 h2 (fun x hx => ho x.1 (S0.out.lt x hx)))
 clear h1 h2 hb ho
 go_wp2_with fail
 refine (r10of (3) (5) (by decide) (by decide)).mono ?_
 rintro e w2 ⟨c2, d2, rfl, h1, h2, hb, ho⟩
 have EC2 := Lib.hid h1.1.1
 have ED2 := Lib.hid h2.1.1
 have R2 := Lib.hid (Sf.span R1.out hb h1 h2 (fun x hx => ho x.1 (R1.out.lt x hx)))
 clear h1 h2 hb ho
 go_wp2_with fail
 refine (p10add (R2.out.fr mq4 mq5 EC1.out) (fszi (by decide)) (R2.out.fr mq6 mq7 ED1.out) (fszi (by decide)) (R2.out.fr mq0 mq1 EC2.out) (fszi (by decide)) (R2.out.fr mq2 mq3 ED2.out) (fszi (by decide)) (by decide +kernel) (by decide +kernel) (r := (((4 : Int) : Rat), ((7 : Int) : Rat))) (by decide +kernel)).mono ?_
 rintro e w3 ⟨c3, d3, rfl, h1, h2, hb, ho⟩
 have EC3 := Lib.hid h1.1.1
 have ED3 := Lib.hid h2.1.1
 have R3 := Lib.hid (Sf.span R2.out hb h1 h2 (fun x hx => ho x.1 (R2.out.lt x hx)))
 clear h1 h2 hb ho
 have R4 := Lib.hid (Sf.keep4_8 R3.out)
 clear R3
 have P1 := Lib.hid (R4.out.put [.int .i64 0, .slice none 0 0, .int .i64 0, .slice none 0 0, .int .i64 0, .slice none 0 0, .int .i64 0, .slice none 0 0] 28)
 have Q1 := Lib.hid (Sf.row (pre := []) P1.out [.int .i64 c3.s, .slice c3.a c3.n c3.c, .int .i64 1, .slice c3.b c3.m c3.d, .int .i64 d3.s, .slice d3.a d3.n d3.c, .int .i64 1, .slice d3.b d3.m d3.d])
 obtain ⟨V1, hV1⟩ : ∃ V, ((w3.alloc (.cells #[.int .i64 0, .slice none 0 0, .int .i64 0, .slice none 0 0, .int .i64 0, .slice none 0 0, .int .i64 0, .slice none 0 0] 28)).setRow w3.heap.size #[.int .i64 c3.s, .slice c3.a c3.n c3.c, .int .i64 1, .slice c3.b c3.m c3.d, .int .i64 d3.s, .slice d3.a d3.n d3.c, .int .i64 1, .slice d3.b d3.m d3.d]) = V := ⟨_, rfl⟩
 rw [hV1] at Q1
 have HV1 := Lib.hid hV1
 clear hV1 R4
 go_wp2_with (first | (refine wpList_store_row rfl _ _ _ rfl _ #[.int .i64 c3.s, .slice c3.a c3.n c3.c, .int .i64 1, .slice c3.b c3.m c3.d, .int .i64 d3.s, .slice d3.a d3.n d3.c, .int .i64 1, .slice d3.b d3.m d3.d] rfl rfl _ _ (P1.out.box _ List.mem_cons_self) (by kernel_rfl) rfl (by simp [Value.oneCell']) ?_; rw [HV1.out]))
 refine (r10of (1) (2) (by decide) (by decide)).mono ?_
 rintro e w5 ⟨c5, d5, rfl, h1, h2, hb, ho⟩
 have EC5 := Lib.hid h1.1.1
 have ED5 := Lib.hid h2.1.1
 have R5 := Lib.hid (Sf.span Q1.out hb h1 h2 (fun x hx => ho x.1 (Q1.out.lt x hx)))
 clear h1 h2 hb ho
 go_wp2_with fail
 refine (r10of (3) (5) (by decide) (by decide)).mono ?_
 rintro e w6 ⟨c6, d6, rfl, h1, h2, hb, ho⟩
 have EC6 := Lib.hid h1.1.1
 have ED6 := Lib.hid h2.1.1
 have R6 := Lib.hid (Sf.span R5.out hb h1 h2 (fun x hx => ho x.1 (R5.out.lt x hx)))
 clear h1 h2 hb ho
 go_wp2_with fail
 refine (p10sub (R6.out.fr mq4 mq5 EC5.out) (fszi (by decide)) (R6.out.fr mq6 mq7 ED5.out) (fszi (by decide)) (R6.out.fr mq0 mq1 EC6.out) (fszi (by decide)) (R6.out.fr mq2 mq3 ED6.out) (fszi (by decide)) (by decide +kernel) (by decide +kernel) (r := (((-4 : Int) : Rat), ((-1 : Int) : Rat))) (by decide +kernel)).mono ?_
 rintro e w7 ⟨c7, d7, rfl, h1, h2, hb, ho⟩
 have EC7 := Lib.hid h1.1.1
 have ED7 := Lib.hid h2.1.1
 have R7 := Lib.hid (Sf.span R6.out hb h1 h2 (fun x hx => ho x.1 (R6.out.lt x hx)))
 clear h1 h2 hb ho
 have R8 := Lib.hid (Sf.keep4_8 R7.out)
 clear R7
 have P2 := Lib.hid (R8.out.put [.int .i64 0, .slice none 0 0, .int .i64 0, .slice none 0 0, .int .i64 0, .slice none 0 0, .int .i64 0, .slice none 0 0] 28)
 have Q2 := Lib.hid (Sf.row (pre := []) P2.out [.int .i64 c7.s, .slice c7.a c7.n c7.c, .int .i64 1, .slice c7.b c7.m c7.d, .int .i64 d7.s, .slice d7.a d7.n d7.c, .int .i64 1, .slice d7.b d7.m d7.d])
 obtain ⟨V2, hV2⟩ : ∃ V, ((w7.alloc (.cells #[.int .i64 0, .slice none 0 0, .int .i64 0, .slice none 0 0, .int .i64 0, .slice none 0 0, .int .i64 0, .slice none 0 0] 28)).setRow w7.heap.size #[.int .i64 c7.s, .slice c7.a c7.n c7.c, .int .i64 1, .slice c7.b c7.m c7.d, .int .i64 d7.s, .slice d7.a d7.n d7.c, .int .i64 1, .slice d7.b d7.m d7.d]) = V := ⟨_, rfl⟩
 rw [hV2] at Q2
 have HV2 := Lib.hid hV2
 clear hV2 R8
 go_wp2_with (first | (refine wpList_store_row rfl _ _ _ rfl _ #[.int .i64 c7.s, .slice c7.a c7.n c7.c, .int .i64 1, .slice c7.b c7.m c7.d, .int .i64 d7.s, .slice d7.a d7.n d7.c, .int .i64 1, .slice d7.b d7.m d7.d] rfl rfl _ _ (P2.out.box _ List.mem_cons_self) (by kernel_rfl) rfl (by simp [Value.oneCell']) ?_; rw [HV2.out]))
 refine (r10of (-1) (2) (by decide) (by decide)).mono ?_
 rintro e w9 ⟨c9, d9, rfl, h1, h2, hb, ho⟩
 have EC9 := Lib.hid h1.1.1
 have ED9 := Lib.hid h2.1.1
 have R9 := Lib.hid (Sf.span Q2.out hb h1 h2 (fun x hx => ho x.1 (Q2.out.lt x hx)))
 clear h1 h2 hb ho
 go_wp2_with fail
 refine (r10of (3) (5) (by decide) (by decide)).mono ?_
 rintro e w10 ⟨c10, d10, rfl, h1, h2, hb, ho⟩
 have EC10 := Lib.hid h1.1.1
 have ED10 := Lib.hid h2.1.1
 have R10 := Lib.hid (Sf.span R9.out hb h1 h2 (fun x hx => ho x.1 (R9.out.lt x hx)))
 clear h1 h2 hb ho
 go_wp2_with fail
 refine (p10mul (R10.out.fr mq4 mq5 EC9.out) (fszi (by decide)) (R10.out.fr mq6 mq7 ED9.out) (fszi (by decide)) (R10.out.fr mq0 mq1 EC10.out) (fszi (by decide)) (R10.out.fr mq2 mq3 ED10.out) (fszi (by decide)) (by decide +kernel) (by decide +kernel) (r := (((-5 : Int) : Rat), ((10 : Int) : Rat))) (by decide +kernel)).mono ?_
 rintro e w11 ⟨c11, d11, rfl, h1, h2, hb, ho⟩
 have EC11 := Lib.hid h1.1.1
 have ED11 := Lib.hid h2.1.1
 have R11 := Lib.hid (Sf.span R10.out hb h1 h2 (fun x hx => ho x.1 (R10.out.lt x hx)))
 clear h1 h2 hb ho
 have R12 := Lib.hid (Sf.keep4_8 R11.out)
 clear R11
 have P3 := Lib.hid (R12.out.put [.int .i64 0, .slice none 0 0, .int .i64 0, .slice none 0 0, .int .i64 0, .slice none 0 0, .int .i64 0, .slice none 0 0] 28)
 have Q3 := Lib.hid (Sf.row (pre := []) P3.out [.int .i64 c11.s, .slice c11.a c11.n c11.c, .int .i64 1, .slice c11.b c11.m c11.d, .int .i64 d11.s, .slice d11.a d11.n d11.c, .int .i64 1, .slice d11.b d11.m d11.d])
 obtain ⟨V3, hV3⟩ : ∃ V, ((w11.alloc (.cells #[.int .i64 0, .slice none 0 0, .int .i64 0, .slice none 0 0, .int .i64 0, .slice none 0 0, .int .i64 0, .slice none 0 0] 28)).setRow w11.heap.size #[.int .i64 c11.s, .slice c11.a c11.n c11.c, .int .i64 1, .slice c11.b c11.m c11.d, .int .i64 d11.s, .slice d11.a d11.n d11.c, .int .i64 1, .slice d11.b d11.m d11.d]) = V := ⟨_, rfl⟩
 rw [hV3] at Q3
 have HV3 := Lib.hid hV3
 clear hV3 R12
 go_wp2_with (first | (refine wpList_store_row rfl _ _ _ rfl _ #[.int .i64 c11.s, .slice c11.a c11.n c11.c, .int .i64 1, .slice c11.b c11.m c11.d, .int .i64 d11.s, .slice d11.a d11.n d11.c, .int .i64 1, .slice d11.b d11.m d11.d] rfl rfl _ _ (P3.out.box _ List.mem_cons_self) (by kernel_rfl) rfl (by simp [Value.oneCell']) ?_; rw [HV3.out]))
 refine (r10of (-1) (2) (by decide) (by decide)).mono ?_
 rintro e w13 ⟨c13, d13, rfl, h1, h2, hb, ho⟩
 have EC13 := Lib.hid h1.1.1
 have ED13 := Lib.hid h2.1.1
 have R13 := Lib.hid (Sf.span Q3.out hb h1 h2 (fun x hx => ho x.1 (Q3.out.lt x hx)))
 clear h1 h2 hb ho
 go_wp2_with fail
 refine (r10of (-3) (4) (by decide) (by decide)).mono ?_
 rintro e w14 ⟨c14, d14, rfl, h1, h2, hb, ho⟩
 have EC14 := Lib.hid h1.1.1
 have ED14 := Lib.hid h2.1.1
 have R14 := Lib.hid (Sf.span R13.out hb h1 h2 (fun x hx => ho x.1 (R13.out.lt x hx)))
 clear h1 h2 hb ho
 go_wp2_with fail
 refine (p10mul (R14.out.fr mq4 mq5 EC13.out) (fszi (by decide)) (R14.out.fr mq6 mq7 ED13.out) (fszi (by decide)) (R14.out.fr mq0 mq1 EC14.out) (fszi (by decide)) (R14.out.fr mq2 mq3 ED14.out) (fszi (by decide)) (by decide +kernel) (by decide +kernel) (r := (((-6 : Int) : Rat), ((8 : Int) : Rat))) (by decide +kernel)).mono ?_
 rintro e w15 ⟨c15, d15, rfl, h1, h2, hb, ho⟩
 have EC15 := Lib.hid h1.1.1
 have ED15 := Lib.hid h2.1.1
 have R15 := Lib.hid (Sf.span R14.out hb h1 h2 (fun x hx => ho x.1 (R14.out.lt x hx)))
 clear h1 h2 hb ho
 have R16 := Lib.hid (Sf.keep4_8 R15.out)
 clear R15
 have P4 := Lib.hid (R16.out.put [.int .i64 0, .slice none 0 0, .int .i64 0, .slice none 0 0, .int .i64 0, .slice none 0 0, .int .i64 0, .slice none 0 0] 28)
 have Q4 := Lib.hid (Sf.row (pre := []) P4.out [.int .i64 c15.s, .slice c15.a c15.n c15.c, .int .i64 1, .slice c15.b c15.m c15.d, .int .i64 d15.s, .slice d15.a d15.n d15.c, .int .i64 1, .slice d15.b d15.m d15.d])
 obtain ⟨V4, hV4⟩ : ∃ V, ((w15.alloc (.cells #[.int .i64 0, .slice none 0 0, .int .i64 0, .slice none 0 0, .int .i64 0, .slice none 0 0, .int .i64 0, .slice none 0 0] 28)).setRow w15.heap.size #[.int .i64 c15.s, .slice c15.a c15.n c15.c, .int .i64 1, .slice c15.b c15.m c15.d, .int .i64 d15.s, .slice d15.a d15.n d15.c, .int .i64 1, .slice d15.b d15.m d15.d]) = V := ⟨_, rfl⟩
 rw [hV4] at Q4
 have HV4 := Lib.hid hV4
 clear hV4 R16
 go_wp2_with (first | (refine wpList_store_row rfl _ _ _ rfl _ #[.int .i64 c15.s, .slice c15.a c15.n c15.c, .int .i64 1, .slice c15.b c15.m c15.d, .int .i64 d15.s, .slice d15.a d15.n d15.c, .int .i64 1, .slice d15.b d15.m d15.d] rfl rfl _ _ (P4.out.box _ List.mem_cons_self) (by kernel_rfl) rfl (by simp [Value.oneCell']) ?_; rw [HV4.out]))
 refine (r10of (1) (2) (by decide) (by decide)).mono ?_
 rintro e w17 ⟨c17, d17, rfl, h1, h2, hb, ho⟩
 have EC17 := Lib.hid h1.1.1
 have ED17 := Lib.hid h2.1.1
 have R17 := Lib.hid (Sf.span Q4.out hb h1 h2 (fun x hx => ho x.1 (Q4.out.lt x hx)))
 clear h1 h2 hb ho
 go_wp2_with fail
 refine (r10of (-4) (-2) (by decide) (by decide)).mono ?_
 rintro e w18 ⟨c18, d18, rfl, h1, h2, hb, ho⟩
 have EC18 := Lib.hid h1.1.1
 have ED18 := Lib.hid h2.1.1
 have R18 := Lib.hid (Sf.span R17.out hb h1 h2 (fun x hx => ho x.1 (R17.out.lt x hx)))
 clear h1 h2 hb ho
 go_wp2_with fail
 refine (p10div (R18.out.fr mq4 mq5 EC17.out) (fszi (by decide)) (R18.out.fr mq6 mq7 ED17.out) (fszi (by decide)) (R18.out.fr mq0 mq1 EC18.out) (fszi (by decide)) (R18.out.fr mq2 mq3 ED18.out) (fszi (by decide)) (by decide +kernel) (by decide +kernel) (r := (((-1 : Int) : Rat), (Rat.divInt (-1) 4))) (by unfold In; decide +kernel) (by decide +kernel)).mono ?_
 rintro e w19 ⟨c19, d19, rfl, h1, h2, hb, ho⟩
 have EC19 := Lib.hid h1.1.1
 have ED19 := Lib.hid h2.1.1
 have R19 := Lib.hid (Sf.span R18.out hb h1 h2 (fun x hx => ho x.1 (R18.out.lt x hx)))
 clear h1 h2 hb ho
 have R20 := Lib.hid (Sf.keep4_8 R19.out)
 clear R19
 have P5 := Lib.hid (R20.out.put [.int .i64 0, .slice none 0 0, .int .i64 0, .slice none 0 0, .int .i64 0, .slice none 0 0, .int .i64 0, .slice none 0 0] 28)
 have Q5 := Lib.hid (Sf.row (pre := []) P5.out [.int .i64 c19.s, .slice c19.a c19.n c19.c, .int .i64 1, .slice c19.b c19.m c19.d, .int .i64 d19.s, .slice d19.a d19.n d19.c, .int .i64 1, .slice d19.b d19.m d19.d])
 obtain ⟨V5, hV5⟩ : ∃ V, ((w19.alloc (.cells #[.int .i64 0, .slice none 0 0, .int .i64 0, .slice none 0 0, .int .i64 0, .slice none 0 0, .int .i64 0, .slice none 0 0] 28)).setRow w19.heap.size #[.int .i64 c19.s, .slice c19.a c19.n c19.c, .int .i64 1, .slice c19.b c19.m c19.d, .int .i64 d19.s, .slice d19.a d19.n d19.c, .int .i64 1, .slice d19.b d19.m d19.d]) = V := ⟨_, rfl⟩
 rw [hV5] at Q5
 have HV5 := Lib.hid hV5
 clear hV5 R20
 go_wp2_with (first | (refine wpList_store_row rfl _ _ _ rfl _ #[.int .i64 c19.s, .slice c19.a c19.n c19.c, .int .i64 1, .slice c19.b c19.m c19.d, .int .i64 d19.s, .slice d19.a d19.n d19.c, .int .i64 1, .slice d19.b d19.m d19.d] rfl rfl _ _ (P5.out.box _ List.mem_cons_self) (by kernel_rfl) rfl (by simp [Value.oneCell']) ?_; rw [HV5.out]))
 refine (r10of (1) (2) (by decide) (by decide)).mono ?_
 rintro e w21 ⟨c21, d21, rfl, h1, h2, hb, ho⟩
 have EC21 := Lib.hid h1.1.1
 have ED21 := Lib.hid h2.1.1
 have R21 := Lib.hid (Sf.span Q5.out hb h1 h2 (fun x hx => ho x.1 (Q5.out.lt x hx)))
 clear h1 h2 hb ho
 go_wp2_with fail
 refine (r10of (0) (1) (by decide) (by decide)).mono ?_
 rintro e w22 ⟨c22, d22, rfl, h1, h2, hb, ho⟩
 have EC22 := Lib.hid h1.1.1
 have ED22 := Lib.hid h2.1.1
 have R22 := Lib.hid (Sf.span R21.out hb h1 h2 (fun x hx => ho x.1 (R21.out.lt x hx)))
 clear h1 h2 hb ho
 go_wp2_with fail
 refine (p10div_zero (R22.out.fr mq4 mq5 EC21.out) (fszi (by decide)) (R22.out.fr mq6 mq7 ED21.out) (fszi (by decide)) (R22.out.fr mq0 mq1 EC22.out) (fszi (by decide)) (R22.out.fr mq2 mq3 ED22.out) (fszi (by decide)) (by decide +kernel) (by decide +kernel) (by unfold In; decide +kernel)).mono ?_
 rintro e w23 ⟨rfl, hb⟩
 have R23 := Lib.hid (R22.out.later hb)
 clear hb
 have R24 := Lib.hid (Sf.keep0_8 R23.out)
 clear R23
 have P6 := Lib.hid (R24.out.put [.int .i64 0, .slice none 0 0, .int .i64 0, .slice none 0 0, .int .i64 0, .slice none 0 0, .int .i64 0, .slice none 0 0] 28)
 have Q6 := Lib.hid (Sf.row (pre := []) P6.out [.int .i64 0, .slice none 0 0, .int .i64 0, .slice none 0 0, .int .i64 0, .slice none 0 0, .int .i64 0, .slice none 0 0])
 obtain ⟨V6, hV6⟩ : ∃ V, ((w23.alloc (.cells #[.int .i64 0, .slice none 0 0, .int .i64 0, .slice none 0 0, .int .i64 0, .slice none 0 0, .int .i64 0, .slice none 0 0] 28)).setRow w23.heap.size #[.int .i64 0, .slice none 0 0, .int .i64 0, .slice none 0 0, .int .i64 0, .slice none 0 0, .int .i64 0, .slice none 0 0]) = V := ⟨_, rfl⟩
 rw [hV6] at Q6
 have HV6 := Lib.hid hV6
 clear hV6 R24
 go_wp2_with (first | (refine wpList_store_row rfl _ _ _ rfl _ #[.int .i64 0, .slice none 0 0, .int .i64 0, .slice none 0 0, .int .i64 0, .slice none 0 0, .int .i64 0, .slice none 0 0] rfl rfl _ _ (P6.out.box _ List.mem_cons_self) (by kernel_rfl) rfl (by simp [Value.oneCell']) ?_; rw [HV6.out]))
 refine (r10of (1) (5) (by decide) (by decide)).mono ?_
 rintro e w25 ⟨c25, d25, rfl, h1, h2, hb, ho⟩
 have EC25 := Lib.hid h1.1.1
 have ED25 := Lib.hid h2.1.1
 have R25 := Lib.hid (Sf.span Q6.out hb h1 h2 (fun x hx => ho x.1 (Q6.out.lt x hx)))
 clear h1 h2 hb ho
 go_wp2_with fail
 refine (r10of (2) (3) (by decide) (by decide)).mono ?_
 rintro e w26 ⟨c26, d26, rfl, h1, h2, hb, ho⟩
 have EC26 := Lib.hid h1.1.1
 have ED26 := Lib.hid h2.1.1
 have R26 := Lib.hid (Sf.span R25.out hb h1 h2 (fun x hx => ho x.1 (R25.out.lt x hx)))
 clear h1 h2 hb ho
 go_wp2_with fail
 refine (p10min (R26.out.fr mq4 mq5 EC25.out) (fszi (by decide)) (R26.out.fr mq6 mq7 ED25.out) (fszi (by decide)) (R26.out.fr mq0 mq1 EC26.out) (fszi (by decide)) (R26.out.fr mq2 mq3 ED26.out) (fszi (by decide)) (by decide +kernel) (by decide +kernel) (r := (((1 : Int) : Rat), ((3 : Int) : Rat))) (by decide +kernel)).mono ?_
 rintro e w27 ⟨c27, d27, rfl, h1, h2, hb, ho⟩
 have EC27 := Lib.hid h1.1.1
 have ED27 := Lib.hid h2.1.1
 have R27 := Lib.hid (Sf.span R26.out hb h1 h2 (fun x hx => ho x.1 (R26.out.lt x hx)))
 clear h1 h2 hb ho
 have R28 := Lib.hid (Sf.keep4_8 R27.out)
 clear R27
 have P7 := Lib.hid (R28.out.put [.int .i64 0, .slice none 0 0, .int .i64 0, .slice none 0 0, .int .i64 0, .slice none 0 0, .int .i64 0, .slice none 0 0] 28)
 have Q7 := Lib.hid (Sf.row (pre := []) P7.out [.int .i64 c27.s, .slice c27.a c27.n c27.c, .int .i64 1, .slice c27.b c27.m c27.d, .int .i64 d27.s, .slice d27.a d27.n d27.c, .int .i64 1, .slice d27.b d27.m d27.d])
 obtain ⟨V7, hV7⟩ : ∃ V, ((w27.alloc (.cells #[.int .i64 0, .slice none 0 0, .int .i64 0, .slice none 0 0, .int .i64 0, .slice none 0 0, .int .i64 0, .slice none 0 0] 28)).setRow w27.heap.size #[.int .i64 c27.s, .slice c27.a c27.n c27.c, .int .i64 1, .slice c27.b c27.m c27.d, .int .i64 d27.s, .slice d27.a d27.n d27.c, .int .i64 1, .slice d27.b d27.m d27.d]) = V := ⟨_, rfl⟩
 rw [hV7] at Q7
 have HV7 := Lib.hid hV7
 clear hV7 R28
 go_wp2_with (first | (refine wpList_store_row rfl _ _ _ rfl _ #[.int .i64 c27.s, .slice c27.a c27.n c27.c, .int .i64 1, .slice c27.b c27.m c27.d, .int .i64 d27.s, .slice d27.a d27.n d27.c, .int .i64 1, .slice d27.b d27.m d27.d] rfl rfl _ _ (P7.out.box _ List.mem_cons_self) (by kernel_rfl) rfl (by simp [Value.oneCell']) ?_; rw [HV7.out]))
 refine (r10of (1) (5) (by decide) (by decide)).mono ?_
 rintro e w29 ⟨c29, d29, rfl, h1, h2, hb, ho⟩
 have EC29 := Lib.hid h1.1.1
 have ED29 := Lib.hid h2.1.1
 have R29 := Lib.hid (Sf.span Q7.out hb h1 h2 (fun x hx => ho x.1 (Q7.out.lt x hx)))
 clear h1 h2 hb ho
 go_wp2_with fail
 refine (r10of (2) (3) (by decide) (by decide)).mono ?_
 rintro e w30 ⟨c30, d30, rfl, h1, h2, hb, ho⟩
 have EC30 := Lib.hid h1.1.1
 have ED30 := Lib.hid h2.1.1
 have R30 := Lib.hid (Sf.span R29.out hb h1 h2 (fun x hx => ho x.1 (R29.out.lt x hx)))
 clear h1 h2 hb ho
 go_wp2_with fail
 refine (p10max (R30.out.fr mq4 mq5 EC29.out) (fszi (by decide)) (R30.out.fr mq6 mq7 ED29.out) (fszi (by decide)) (R30.out.fr mq0 mq1 EC30.out) (fszi (by decide)) (R30.out.fr mq2 mq3 ED30.out) (fszi (by decide)) (by decide +kernel) (by decide +kernel) (r := (((2 : Int) : Rat), ((5 : Int) : Rat))) (by decide +kernel)).mono ?_
 rintro e w31 ⟨c31, d31, rfl, h1, h2, hb, ho⟩
 have EC31 := Lib.hid h1.1.1
 have ED31 := Lib.hid h2.1.1
 have R31 := Lib.hid (Sf.span R30.out hb h1 h2 (fun x hx => ho x.1 (R30.out.lt x hx)))
 clear h1 h2 hb ho
 have R32 := Lib.hid (Sf.keep4_8 R31.out)
 clear R31
 have P8 := Lib.hid (R32.out.put [.int .i64 0, .slice none 0 0, .int .i64 0, .slice none 0 0, .int .i64 0, .slice none 0 0, .int .i64 0, .slice none 0 0] 28)
 have Q8 := Lib.hid (Sf.row (pre := []) P8.out [.int .i64 c31.s, .slice c31.a c31.n c31.c, .int .i64 1, .slice c31.b c31.m c31.d, .int .i64 d31.s, .slice d31.a d31.n d31.c, .int .i64 1, .slice d31.b d31.m d31.d])
 obtain ⟨V8, hV8⟩ : ∃ V, ((w31.alloc (.cells #[.int .i64 0, .slice none 0 0, .int .i64 0, .slice none 0 0, .int .i64 0, .slice none 0 0, .int .i64 0, .slice none 0 0] 28)).setRow w31.heap.size #[.int .i64 c31.s, .slice c31.a c31.n c31.c, .int .i64 1, .slice c31.b c31.m c31.d, .int .i64 d31.s, .slice d31.a d31.n d31.c, .int .i64 1, .slice d31.b d31.m d31.d]) = V := ⟨_, rfl⟩
 rw [hV8] at Q8
 have HV8 := Lib.hid hV8
 clear hV8 R32
 go_wp2_with (first | (refine wpList_store_row rfl _ _ _ rfl _ #[.int .i64 c31.s, .slice c31.a c31.n c31.c, .int .i64 1, .slice c31.b c31.m c31.d, .int .i64 d31.s, .slice d31.a d31.n d31.c, .int .i64 1, .slice d31.b d31.m d31.d] rfl rfl _ _ (P8.out.box _ List.mem_cons_self) (by kernel_rfl) rfl (by simp [Value.oneCell']) ?_; rw [HV8.out]))
 refine (r10of (1) (2) (by decide) (by decide)).mono ?_
 rintro e w33 ⟨c33, d33, rfl, h1, h2, hb, ho⟩
 have EC33 := Lib.hid h1.1.1
 have ED33 := Lib.hid h2.1.1
 have R33 := Lib.hid (Sf.span Q8.out hb h1 h2 (fun x hx => ho x.1 (Q8.out.lt x hx)))
 clear h1 h2 hb ho
 go_wp2_with fail
 refine (r10of (4) (5) (by decide) (by decide)).mono ?_
 rintro e w34 ⟨c34, d34, rfl, h1, h2, hb, ho⟩
 have EC34 := Lib.hid h1.1.1
 have ED34 := Lib.hid h2.1.1
 have R34 := Lib.hid (Sf.span R33.out hb h1 h2 (fun x hx => ho x.1 (R33.out.lt x hx)))
 clear h1 h2 hb ho
 go_wp2_with fail
 refine (p10hull (R34.out.fr mq4 mq5 EC33.out) (fszi (by decide)) (R34.out.fr mq6 mq7 ED33.out) (fszi (by decide)) (R34.out.fr mq0 mq1 EC34.out) (fszi (by decide)) (R34.out.fr mq2 mq3 ED34.out) (fszi (by decide)) (by decide +kernel) (by decide +kernel) (r := (((1 : Int) : Rat), ((5 : Int) : Rat))) (by decide +kernel)).mono ?_
 rintro e w35 ⟨c35, d35, rfl, h1, h2, hb, ho⟩
 have EC35 := Lib.hid h1.1.1
 have ED35 := Lib.hid h2.1.1
 have R35 := Lib.hid (Sf.span R34.out hb h1 h2 (fun x hx => ho x.1 (R34.out.lt x hx)))
 clear h1 h2 hb ho
 have R36 := Lib.hid (Sf.keep4_8 R35.out)
 clear R35
 have P9 := Lib.hid (R36.out.put [.int .i64 0, .slice none 0 0, .int .i64 0, .slice none 0 0, .int .i64 0, .slice none 0 0, .int .i64 0, .slice none 0 0] 28)
 have Q9 := Lib.hid (Sf.row (pre := []) P9.out [.int .i64 c35.s, .slice c35.a c35.n c35.c, .int .i64 1, .slice c35.b c35.m c35.d, .int .i64 d35.s, .slice d35.a d35.n d35.c, .int .i64 1, .slice d35.b d35.m d35.d])
 obtain ⟨V9, hV9⟩ : ∃ V, ((w35.alloc (.cells #[.int .i64 0, .slice none 0 0, .int .i64 0, .slice none 0 0, .int .i64 0, .slice none 0 0, .int .i64 0, .slice none 0 0] 28)).setRow w35.heap.size #[.int .i64 c35.s, .slice c35.a c35.n c35.c, .int .i64 1, .slice c35.b c35.m c35.d, .int .i64 d35.s, .slice d35.a d35.n d35.c, .int .i64 1, .slice d35.b d35.m d35.d]) = V := ⟨_, rfl⟩
 rw [hV9] at Q9
 have HV9 := Lib.hid hV9
 clear hV9 R36
 go_wp2_with (first | (refine wpList_store_row rfl _ _ _ rfl _ #[.int .i64 c35.s, .slice c35.a c35.n c35.c, .int .i64 1, .slice c35.b c35.m c35.d, .int .i64 d35.s, .slice d35.a d35.n d35.c, .int .i64 1, .slice d35.b d35.m d35.d] rfl rfl _ _ (P9.out.box _ List.mem_cons_self) (by kernel_rfl) rfl (by simp [Value.oneCell']) ?_; rw [HV9.out]))
 refine (r10of (1) (2) (by decide) (by decide)).mono ?_
 rintro e w37 ⟨c37, d37, rfl, h1, h2, hb, ho⟩
 have EC37 := Lib.hid h1.1.1
 have ED37 := Lib.hid h2.1.1
 have R37 := Lib.hid (Sf.span Q9.out hb h1 h2 (fun x hx => ho x.1 (Q9.out.lt x hx)))
 clear h1 h2 hb ho
 go_wp2_with fail
 refine (r10of (4) (5) (by decide) (by decide)).mono ?_
 rintro e w38 ⟨c38, d38, rfl, h1, h2, hb, ho⟩
 have EC38 := Lib.hid h1.1.1
 have ED38 := Lib.hid h2.1.1
 have R38 := Lib.hid (Sf.span R37.out hb h1 h2 (fun x hx => ho x.1 (R37.out.lt x hx)))
 clear h1 h2 hb ho
 go_wp2_with fail
 refine (p10meet_none (R38.out.fr mq4 mq5 EC37.out) (fszi (by decide)) (R38.out.fr mq6 mq7 ED37.out) (fszi (by decide)) (R38.out.fr mq0 mq1 EC38.out) (fszi (by decide)) (R38.out.fr mq2 mq3 ED38.out) (fszi (by decide)) (by decide +kernel) (by decide +kernel) (by decide +kernel)).mono ?_
 rintro e w39 ⟨rfl, hb⟩
 have R39 := Lib.hid (R38.out.later hb)
 clear hb
 have R40 := Lib.hid (Sf.keep0_8 R39.out)
 clear R39
 have P10 := Lib.hid (R40.out.put [.int .i64 0, .slice none 0 0, .int .i64 0, .slice none 0 0, .int .i64 0, .slice none 0 0, .int .i64 0, .slice none 0 0] 28)
 have Q10 := Lib.hid (Sf.row (pre := []) P10.out [.int .i64 0, .slice none 0 0, .int .i64 0, .slice none 0 0, .int .i64 0, .slice none 0 0, .int .i64 0, .slice none 0 0])
 obtain ⟨V10, hV10⟩ : ∃ V, ((w39.alloc (.cells #[.int .i64 0, .slice none 0 0, .int .i64 0, .slice none 0 0, .int .i64 0, .slice none 0 0, .int .i64 0, .slice none 0 0] 28)).setRow w39.heap.size #[.int .i64 0, .slice none 0 0, .int .i64 0, .slice none 0 0, .int .i64 0, .slice none 0 0, .int .i64 0, .slice none 0 0]) = V := ⟨_, rfl⟩
 rw [hV10] at Q10
 have HV10 := Lib.hid hV10
 clear hV10 R40
 go_wp2_with (first | (refine wpList_store_row rfl _ _ _ rfl _ #[.int .i64 0, .slice none 0 0, .int .i64 0, .slice none 0 0, .int .i64 0, .slice none 0 0, .int .i64 0, .slice none 0 0] rfl rfl _ _ (P10.out.box _ List.mem_cons_self) (by kernel_rfl) rfl (by simp [Value.oneCell']) ?_; rw [HV10.out]))
 refine (r10of (1) (4) (by decide) (by decide)).mono ?_
 rintro e w41 ⟨c41, d41, rfl, h1, h2, hb, ho⟩
 have EC41 := Lib.hid h1.1.1
 have ED41 := Lib.hid h2.1.1
 have R41 := Lib.hid (Sf.span Q10.out hb h1 h2 (fun x hx => ho x.1 (Q10.out.lt x hx)))
 clear h1 h2 hb ho
 go_wp2_with fail
 refine (r10of (4) (5) (by decide) (by decide)).mono ?_
 rintro e w42 ⟨c42, d42, rfl, h1, h2, hb, ho⟩
 have EC42 := Lib.hid h1.1.1
 have ED42 := Lib.hid h2.1.1
 have R42 := Lib.hid (Sf.span R41.out hb h1 h2 (fun x hx => ho x.1 (R41.out.lt x hx)))
 clear h1 h2 hb ho
 go_wp2_with fail
 refine (p10meet (R42.out.fr mq4 mq5 EC41.out) (fszi (by decide)) (R42.out.fr mq6 mq7 ED41.out) (fszi (by decide)) (R42.out.fr mq0 mq1 EC42.out) (fszi (by decide)) (R42.out.fr mq2 mq3 ED42.out) (fszi (by decide)) (by decide +kernel) (by decide +kernel) (r := (((4 : Int) : Rat), ((4 : Int) : Rat))) (by decide +kernel) (by decide +kernel)).mono ?_
 rintro e w43 ⟨c43, d43, rfl, h1, h2, hb, ho⟩
 have EC43 := Lib.hid h1.1.1
 have ED43 := Lib.hid h2.1.1
 have R43 := Lib.hid (Sf.span R42.out hb h1 h2 (fun x hx => ho x.1 (R42.out.lt x hx)))
 clear h1 h2 hb ho
 have R44 := Lib.hid (Sf.keep4_8 R43.out)
 clear R43
 have P11 := Lib.hid (R44.out.put [.int .i64 0, .slice none 0 0, .int .i64 0, .slice none 0 0, .int .i64 0, .slice none 0 0, .int .i64 0, .slice none 0 0] 28)
 have Q11 := Lib.hid (Sf.row (pre := []) P11.out [.int .i64 c43.s, .slice c43.a c43.n c43.c, .int .i64 1, .slice c43.b c43.m c43.d, .int .i64 d43.s, .slice d43.a d43.n d43.c, .int .i64 1, .slice d43.b d43.m d43.d])
 obtain ⟨V11, hV11⟩ : ∃ V, ((w43.alloc (.cells #[.int .i64 0, .slice none 0 0, .int .i64 0, .slice none 0 0, .int .i64 0, .slice none 0 0, .int .i64 0, .slice none 0 0] 28)).setRow w43.heap.size #[.int .i64 c43.s, .slice c43.a c43.n c43.c, .int .i64 1, .slice c43.b c43.m c43.d, .int .i64 d43.s, .slice d43.a d43.n d43.c, .int .i64 1, .slice d43.b d43.m d43.d]) = V := ⟨_, rfl⟩
 rw [hV11] at Q11
 have HV11 := Lib.hid hV11
 clear hV11 R44
 go_wp2_with (first | (refine wpList_store_row rfl _ _ _ rfl _ #[.int .i64 c43.s, .slice c43.a c43.n c43.c, .int .i64 1, .slice c43.b c43.m c43.d, .int .i64 d43.s, .slice d43.a d43.n d43.c, .int .i64 1, .slice d43.b d43.m d43.d] rfl rfl _ _ (P11.out.box _ List.mem_cons_self) (by kernel_rfl) rfl (by simp [Value.oneCell']) ?_; rw [HV11.out]))
 refine (rfof_k (-1) 4 (by decide) (by decide) (by decide) _).mono ?_
 rintro e w45 ⟨sx45, ax45, nx45, cx45, bx45, mx45, dx45, rfl, hr, hb, hf, hg⟩
 have E45 := Lib.hid hr.1.1
 have R45 := Lib.hid (Q11.out.ret2 hb hr.1.2 hf hr.2.2 hg)
 have FF45 := Lib.hid (hf.mono Q11.out.below.size)
 have FG45 := Lib.hid (hg.mono Q11.out.below.size)
 clear hr hb hf hg
 have P12 := Lib.hid (R45.out.put [.int .i64 0, .slice none 0 0, .int .i64 0, .slice none 0 0] 26)
 have Q12 := Lib.hid (Sf.row (pre := []) P12.out [.int .i64 sx45, .slice ax45 nx45 cx45, .int .i64 1, .slice bx45 mx45 dx45])
 go_upto_region 15 with (first | refine wpList_store_row rfl _ _ _ rfl _ #[.int .i64 sx45, .slice ax45 nx45 cx45, .int .i64 1, .slice bx45 mx45 dx45] rfl rfl _ _ (P12.out.box _ List.mem_cons_self) (by kernel_rfl) rfl (by simp [Value.oneCell']) ?_)
 have HL1 : Hid (-9223372036854775808 ≤ (-1 : Int) ∧ (-1 : Int) ≤ 9223372036854775807) := Lib.hid (by decide)
 have HL2 : Hid ((decide (((-1 : Int) : Rat) = ((-1 : Int) : Rat)) && decide ((Rat.divInt (-1) 4) = (Rat.divInt (-1) 4))) = true) := Lib.hid (by decide +kernel)
 have HL3 : Hid (-9223372036854775808 ≤ (4 : Int) ∧ (4 : Int) ≤ 9223372036854775807) := Lib.hid (by decide)
 have HL4 : Hid (-9223372036854775808 ≤ (7 : Int) ∧ (7 : Int) ≤ 9223372036854775807) := Lib.hid (by decide)
 have HL5 : Hid ((decide (((4 : Int) : Rat) = ((4 : Int) : Rat)) && decide (((7 : Int) : Rat) = ((7 : Int) : Rat))) = true) := Lib.hid (by decide +kernel)
 have HL6 : Hid (-9223372036854775808 ≤ (-4 : Int) ∧ (-4 : Int) ≤ 9223372036854775807) := Lib.hid (by decide)
 have HL7 : Hid (-9223372036854775808 ≤ (-1 : Int) ∧ (-1 : Int) ≤ 9223372036854775807) := Lib.hid (by decide)
 have HL8 : Hid ((decide (((-4 : Int) : Rat) = ((-4 : Int) : Rat)) && decide (((-1 : Int) : Rat) = ((-1 : Int) : Rat))) = true) := Lib.hid (by decide +kernel)
 have HL9 : Hid (-9223372036854775808 ≤ (-5 : Int) ∧ (-5 : Int) ≤ 9223372036854775807) := Lib.hid (by decide)
 have HL10 : Hid (-9223372036854775808 ≤ (10 : Int) ∧ (10 : Int) ≤ 9223372036854775807) := Lib.hid (by decide)
 have HL11 : Hid ((decide (((-5 : Int) : Rat) = ((-5 : Int) : Rat)) && decide (((10 : Int) : Rat) = ((10 : Int) : Rat))) = true) := Lib.hid (by decide +kernel)
 have HL12 : Hid (-9223372036854775808 ≤ (-6 : Int) ∧ (-6 : Int) ≤ 9223372036854775807) := Lib.hid (by decide)
 have HL13 : Hid (-9223372036854775808 ≤ (8 : Int) ∧ (8 : Int) ≤ 9223372036854775807) := Lib.hid (by decide)
 have HL14 : Hid ((decide (((-6 : Int) : Rat) = ((-6 : Int) : Rat)) && decide (((8 : Int) : Rat) = ((8 : Int) : Rat))) = true) := Lib.hid (by decide +kernel)
 go_cut [25] from 137 to 157 (fun u wx => u = .bool true ∧ Hid (Sf w [(w45.heap.size, 26, [.int .i64 sx45, .slice ax45 nx45 cx45, .int .i64 1, .slice bx45 mx45 dx45]), (w43.heap.size, 28, [.int .i64 c43.s, .slice c43.a c43.n c43.c, .int .i64 1, .slice c43.b c43.m c43.d, .int .i64 d43.s, .slice d43.a d43.n d43.c, .int .i64 1, .slice d43.b d43.m d43.d]), (w39.heap.size, 28, [.int .i64 0, .slice none 0 0, .int .i64 0, .slice none 0 0, .int .i64 0, .slice none 0 0, .int .i64 0, .slice none 0 0]), (w35.heap.size, 28, [.int .i64 c35.s, .slice c35.a c35.n c35.c, .int .i64 1, .slice c35.b c35.m c35.d, .int .i64 d35.s, .slice d35.a d35.n d35.c, .int .i64 1, .slice d35.b d35.m d35.d]), (w31.heap.size, 28, [.int .i64 c31.s, .slice c31.a c31.n c31.c, .int .i64 1, .slice c31.b c31.m c31.d, .int .i64 d31.s, .slice d31.a d31.n d31.c, .int .i64 1, .slice d31.b d31.m d31.d]), (w27.heap.size, 28, [.int .i64 c27.s, .slice c27.a c27.n c27.c, .int .i64 1, .slice c27.b c27.m c27.d, .int .i64 d27.s, .slice d27.a d27.n d27.c, .int .i64 1, .slice d27.b d27.m d27.d]), (w23.heap.size, 28, [.int .i64 0, .slice none 0 0, .int .i64 0, .slice none 0 0, .int .i64 0, .slice none 0 0, .int .i64 0, .slice none 0 0]), (w19.heap.size, 28, [.int .i64 c19.s, .slice c19.a c19.n c19.c, .int .i64 1, .slice c19.b c19.m c19.d, .int .i64 d19.s, .slice d19.a d19.n d19.c, .int .i64 1, .slice d19.b d19.m d19.d]), (w15.heap.size, 28, [.int .i64 c15.s, .slice c15.a c15.n c15.c, .int .i64 1, .slice c15.b c15.m c15.d, .int .i64 d15.s, .slice d15.a d15.n d15.c, .int .i64 1, .slice d15.b d15.m d15.d]), (w11.heap.size, 28, [.int .i64 c11.s, .slice c11.a c11.n c11.c, .int .i64 1, .slice c11.b c11.m c11.d, .int .i64 d11.s, .slice d11.a d11.n d11.c, .int .i64 1, .slice d11.b d11.m d11.d]), (w7.heap.size, 28, [.int .i64 c7.s, .slice c7.a c7.n c7.c, .int .i64 1, .slice c7.b c7.m c7.d, .int .i64 d7.s, .slice d7.a d7.n d7.c, .int .i64 1, .slice d7.b d7.m d7.d]), (w3.heap.size, 28, [.int .i64 c3.s, .slice c3.a c3.n c3.c, .int .i64 1, .slice c3.b c3.m c3.d, .int .i64 d3.s, .slice d3.a d3.n d3.c, .int .i64 1, .slice d3.b d3.m d3.d])] [(.slice ax45 nx45 cx45, digs ((Rat.divInt (-1) 4)).num.natAbs), (.slice bx45 mx45 dx45, digs ((((Rat.divInt (-1) 4)).den : Int)).natAbs), (.slice c43.a c43.n c43.c, digs (((4 : Int) : Rat)).num.natAbs), (.slice c43.b c43.m c43.d, digs (((((4 : Int) : Rat)).den : Int)).natAbs), (.slice d43.a d43.n d43.c, digs (((4 : Int) : Rat)).num.natAbs), (.slice d43.b d43.m d43.d, digs (((((4 : Int) : Rat)).den : Int)).natAbs), (.slice c35.a c35.n c35.c, digs (((1 : Int) : Rat)).num.natAbs), (.slice c35.b c35.m c35.d, digs (((((1 : Int) : Rat)).den : Int)).natAbs), (.slice d35.a d35.n d35.c, digs (((5 : Int) : Rat)).num.natAbs), (.slice d35.b d35.m d35.d, digs (((((5 : Int) : Rat)).den : Int)).natAbs), (.slice c31.a c31.n c31.c, digs (((2 : Int) : Rat)).num.natAbs), (.slice c31.b c31.m c31.d, digs (((((2 : Int) : Rat)).den : Int)).natAbs), (.slice d31.a d31.n d31.c, digs (((5 : Int) : Rat)).num.natAbs), (.slice d31.b d31.m d31.d, digs (((((5 : Int) : Rat)).den : Int)).natAbs), (.slice c27.a c27.n c27.c, digs (((1 : Int) : Rat)).num.natAbs), (.slice c27.b c27.m c27.d, digs (((((1 : Int) : Rat)).den : Int)).natAbs), (.slice d27.a d27.n d27.c, digs (((3 : Int) : Rat)).num.natAbs), (.slice d27.b d27.m d27.d, digs (((((3 : Int) : Rat)).den : Int)).natAbs), (.slice c19.a c19.n c19.c, digs (((-1 : Int) : Rat)).num.natAbs), (.slice c19.b c19.m c19.d, digs (((((-1 : Int) : Rat)).den : Int)).natAbs), (.slice d19.a d19.n d19.c, digs ((Rat.divInt (-1) 4)).num.natAbs), (.slice d19.b d19.m d19.d, digs ((((Rat.divInt (-1) 4)).den : Int)).natAbs), (.slice c15.a c15.n c15.c, digs (((-6 : Int) : Rat)).num.natAbs), (.slice c15.b c15.m c15.d, digs (((((-6 : Int) : Rat)).den : Int)).natAbs), (.slice d15.a d15.n d15.c, digs (((8 : Int) : Rat)).num.natAbs), (.slice d15.b d15.m d15.d, digs (((((8 : Int) : Rat)).den : Int)).natAbs), (.slice c11.a c11.n c11.c, digs (((-5 : Int) : Rat)).num.natAbs), (.slice c11.b c11.m c11.d, digs (((((-5 : Int) : Rat)).den : Int)).natAbs), (.slice d11.a d11.n d11.c, digs (((10 : Int) : Rat)).num.natAbs), (.slice d11.b d11.m d11.d, digs (((((10 : Int) : Rat)).den : Int)).natAbs), (.slice c7.a c7.n c7.c, digs (((-4 : Int) : Rat)).num.natAbs), (.slice c7.b c7.m c7.d, digs (((((-4 : Int) : Rat)).den : Int)).natAbs), (.slice d7.a d7.n d7.c, digs (((-1 : Int) : Rat)).num.natAbs), (.slice d7.b d7.m d7.d, digs (((((-1 : Int) : Rat)).den : Int)).natAbs), (.slice c3.a c3.n c3.c, digs (((4 : Int) : Rat)).num.natAbs), (.slice c3.b c3.m c3.d, digs (((((4 : Int) : Rat)).den : Int)).natAbs), (.slice d3.a d3.n d3.c, digs (((7 : Int) : Rat)).num.natAbs), (.slice d3.b d3.m d3.d, digs (((((7 : Int) : Rat)).den : Int)).natAbs)] wx))
 case first =>
  have K0 : ∀ W F, Sf w [(w45.heap.size, 26, [.int .i64 sx45, .slice ax45 nx45 cx45, .int .i64 1, .slice bx45 mx45 dx45]), (w43.heap.size, 28, [.int .i64 c43.s, .slice c43.a c43.n c43.c, .int .i64 1, .slice c43.b c43.m c43.d, .int .i64 d43.s, .slice d43.a d43.n d43.c, .int .i64 1, .slice d43.b d43.m d43.d]), (w39.heap.size, 28, [.int .i64 0, .slice none 0 0, .int .i64 0, .slice none 0 0, .int .i64 0, .slice none 0 0, .int .i64 0, .slice none 0 0]), (w35.heap.size, 28, [.int .i64 c35.s, .slice c35.a c35.n c35.c, .int .i64 1, .slice c35.b c35.m c35.d, .int .i64 d35.s, .slice d35.a d35.n d35.c, .int .i64 1, .slice d35.b d35.m d35.d]), (w31.heap.size, 28, [.int .i64 c31.s, .slice c31.a c31.n c31.c, .int .i64 1, .slice c31.b c31.m c31.d, .int .i64 d31.s, .slice d31.a d31.n d31.c, .int .i64 1, .slice d31.b d31.m d31.d]), (w27.heap.size, 28, [.int .i64 c27.s, .slice c27.a c27.n c27.c, .int .i64 1, .slice c27.b c27.m c27.d, .int .i64 d27.s, .slice d27.a d27.n d27.c, .int .i64 1, .slice d27.b d27.m d27.d]), (w23.heap.size, 28, [.int .i64 0, .slice none 0 0, .int .i64 0, .slice none 0 0, .int .i64 0, .slice none 0 0, .int .i64 0, .slice none 0 0]), (w19.heap.size, 28, [.int .i64 c19.s, .slice c19.a c19.n c19.c, .int .i64 1, .slice c19.b c19.m c19.d, .int .i64 d19.s, .slice d19.a d19.n d19.c, .int .i64 1, .slice d19.b d19.m d19.d]), (w15.heap.size, 28, [.int .i64 c15.s, .slice c15.a c15.n c15.c, .int .i64 1, .slice c15.b c15.m c15.d, .int .i64 d15.s, .slice d15.a d15.n d15.c, .int .i64 1, .slice d15.b d15.m d15.d]), (w11.heap.size, 28, [.int .i64 c11.s, .slice c11.a c11.n c11.c, .int .i64 1, .slice c11.b c11.m c11.d, .int .i64 d11.s, .slice d11.a d11.n d11.c, .int .i64 1, .slice d11.b d11.m d11.d]), (w7.heap.size, 28, [.int .i64 c7.s, .slice c7.a c7.n c7.c, .int .i64 1, .slice c7.b c7.m c7.d, .int .i64 d7.s, .slice d7.a d7.n d7.c, .int .i64 1, .slice d7.b d7.m d7.d]), (w3.heap.size, 28, [.int .i64 c3.s, .slice c3.a c3.n c3.c, .int .i64 1, .slice c3.b c3.m c3.d, .int .i64 d3.s, .slice d3.a d3.n d3.c, .int .i64 1, .slice d3.b d3.m d3.d])] F W → W.cell? ⟨w3.heap.size, 0, none⟩ = some (.int .i64 c3.s) ∧ W.cell? ⟨w3.heap.size, 1, none⟩ = some (.slice c3.a c3.n c3.c) ∧ W.cell? ⟨w3.heap.size, 2, none⟩ = some (.int .i64 1) ∧ W.cell? ⟨w3.heap.size, 3, none⟩ = some (.slice c3.b c3.m c3.d) ∧ W.cell? ⟨w3.heap.size, 4, none⟩ = some (.int .i64 d3.s) ∧ W.cell? ⟨w3.heap.size, 5, none⟩ = some (.slice d3.a d3.n d3.c) ∧ W.cell? ⟨w3.heap.size, 6, none⟩ = some (.int .i64 1) ∧ W.cell? ⟨w3.heap.size, 7, none⟩ = some (.slice d3.b d3.m d3.d) ∧ W.cell? ⟨w7.heap.size, 0, none⟩ = some (.int .i64 c7.s) ∧ W.cell? ⟨w7.heap.size, 1, none⟩ = some (.slice c7.a c7.n c7.c) ∧ W.cell? ⟨w7.heap.size, 2, none⟩ = some (.int .i64 1) ∧ W.cell? ⟨w7.heap.size, 3, none⟩ = some (.slice c7.b c7.m c7.d) ∧ W.cell? ⟨w7.heap.size, 4, none⟩ = some (.int .i64 d7.s) ∧ W.cell? ⟨w7.heap.size, 5, none⟩ = some (.slice d7.a d7.n d7.c) ∧ W.cell? ⟨w7.heap.size, 6, none⟩ = some (.int .i64 1) ∧ W.cell? ⟨w7.heap.size, 7, none⟩ = some (.slice d7.b d7.m d7.d) ∧ W.cell? ⟨w11.heap.size, 0, none⟩ = some (.int .i64 c11.s) ∧ W.cell? ⟨w11.heap.size, 1, none⟩ = some (.slice c11.a c11.n c11.c) ∧ W.cell? ⟨w11.heap.size, 2, none⟩ = some (.int .i64 1) ∧ W.cell? ⟨w11.heap.size, 3, none⟩ = some (.slice c11.b c11.m c11.d) ∧ W.cell? ⟨w11.heap.size, 4, none⟩ = some (.int .i64 d11.s) ∧ W.cell? ⟨w11.heap.size, 5, none⟩ = some (.slice d11.a d11.n d11.c) ∧ W.cell? ⟨w11.heap.size, 6, none⟩ = some (.int .i64 1) ∧ W.cell? ⟨w11.heap.size, 7, none⟩ = some (.slice d11.b d11.m d11.d) ∧ W.cell? ⟨w15.heap.size, 0, none⟩ = some (.int .i64 c15.s) ∧ W.cell? ⟨w15.heap.size, 1, none⟩ = some (.slice c15.a c15.n c15.c) ∧ W.cell? ⟨w15.heap.size, 2, none⟩ = some (.int .i64 1) ∧ W.cell? ⟨w15.heap.size, 3, none⟩ = some (.slice c15.b c15.m c15.d) ∧ W.cell? ⟨w15.heap.size, 4, none⟩ = some (.int .i64 d15.s) ∧ W.cell? ⟨w15.heap.size, 5, none⟩ = some (.slice d15.a d15.n d15.c) ∧ W.cell? ⟨w15.heap.size, 6, none⟩ = some (.int .i64 1) ∧ W.cell? ⟨w15.heap.size, 7, none⟩ = some (.slice d15.b d15.m d15.d) ∧ W.cell? ⟨w19.heap.size, 0, none⟩ = some (.int .i64 c19.s) ∧ W.cell? ⟨w19.heap.size, 1, none⟩ = some (.slice c19.a c19.n c19.c) ∧ W.cell? ⟨w19.heap.size, 2, none⟩ = some (.int .i64 1) ∧ W.cell? ⟨w19.heap.size, 3, none⟩ = some (.slice c19.b c19.m c19.d) ∧ W.cell? ⟨w19.heap.size, 4, none⟩ = some (.int .i64 d19.s) ∧ W.cell? ⟨w19.heap.size, 5, none⟩ = some (.slice d19.a d19.n d19.c) ∧ W.cell? ⟨w19.heap.size, 6, none⟩ = some (.int .i64 1) ∧ W.cell? ⟨w19.heap.size, 7, none⟩ = some (.slice d19.b d19.m d19.d) ∧ W.cell? ⟨w45.heap.size, 0, none⟩ = some (.int .i64 sx45) ∧ W.cell? ⟨w45.heap.size, 1, none⟩ = some (.slice ax45 nx45 cx45) ∧ W.cell? ⟨w45.heap.size, 2, none⟩ = some (.int .i64 1) ∧ W.cell? ⟨w45.heap.size, 3, none⟩ = some (.slice bx45 mx45 dx45) := fun W F h => ⟨(h.box _ mq11).cell 0, (h.box _ mq11).cell 1, (h.box _ mq11).cell 2, (h.box _ mq11).cell 3, (h.box _ mq11).cell 4, (h.box _ mq11).cell 5, (h.box _ mq11).cell 6, (h.box _ mq11).cell 7, (h.box _ mq10).cell 0, (h.box _ mq10).cell 1, (h.box _ mq10).cell 2, (h.box _ mq10).cell 3, (h.box _ mq10).cell 4, (h.box _ mq10).cell 5, (h.box _ mq10).cell 6, (h.box _ mq10).cell 7, (h.box _ mq9).cell 0, (h.box _ mq9).cell 1, (h.box _ mq9).cell 2, (h.box _ mq9).cell 3, (h.box _ mq9).cell 4, (h.box _ mq9).cell 5, (h.box _ mq9).cell 6, (h.box _ mq9).cell 7, (h.box _ mq8).cell 0, (h.box _ mq8).cell 1, (h.box _ mq8).cell 2, (h.box _ mq8).cell 3, (h.box _ mq8).cell 4, (h.box _ mq8).cell 5, (h.box _ mq8).cell 6, (h.box _ mq8).cell 7, (h.box _ mq7).cell 0, (h.box _ mq7).cell 1, (h.box _ mq7).cell 2, (h.box _ mq7).cell 3, (h.box _ mq7).cell 4, (h.box _ mq7).cell 5, (h.box _ mq7).cell 6, (h.box _ mq7).cell 7, (h.box _ mq0).cell 0, (h.box _ mq0).cell 1, (h.box _ mq0).cell 2, (h.box _ mq0).cell 3⟩
  have KK := Lib.hid K0
  clear K0
  have N0 := Lib.hid Q12.out.drew
  clear Q12
  have e0 := KK.out _ _ N0.out
  have PN0_1 := Lib.hid (N0.out.fr mq34 mq35 EC3.out)
  have PN0_2 := Lib.hid (N0.out.fr mq36 mq37 ED3.out)
  go_region_held3 (fun W => W.cell? ⟨w3.heap.size, 0, none⟩ = some (.int .i64 c3.s) ∧ W.cell? ⟨w3.heap.size, 1, none⟩ = some (.slice c3.a c3.n c3.c) ∧ W.cell? ⟨w3.heap.size, 2, none⟩ = some (.int .i64 1) ∧ W.cell? ⟨w3.heap.size, 3, none⟩ = some (.slice c3.b c3.m c3.d) ∧ W.cell? ⟨w3.heap.size, 4, none⟩ = some (.int .i64 d3.s) ∧ W.cell? ⟨w3.heap.size, 5, none⟩ = some (.slice d3.a d3.n d3.c) ∧ W.cell? ⟨w3.heap.size, 6, none⟩ = some (.int .i64 1) ∧ W.cell? ⟨w3.heap.size, 7, none⟩ = some (.slice d3.b d3.m d3.d) ∧ W.cell? ⟨w7.heap.size, 0, none⟩ = some (.int .i64 c7.s) ∧ W.cell? ⟨w7.heap.size, 1, none⟩ = some (.slice c7.a c7.n c7.c) ∧ W.cell? ⟨w7.heap.size, 2, none⟩ = some (.int .i64 1) ∧ W.cell? ⟨w7.heap.size, 3, none⟩ = some (.slice c7.b c7.m c7.d) ∧ W.cell? ⟨w7.heap.size, 4, none⟩ = some (.int .i64 d7.s) ∧ W.cell? ⟨w7.heap.size, 5, none⟩ = some (.slice d7.a d7.n d7.c) ∧ W.cell? ⟨w7.heap.size, 6, none⟩ = some (.int .i64 1) ∧ W.cell? ⟨w7.heap.size, 7, none⟩ = some (.slice d7.b d7.m d7.d) ∧ W.cell? ⟨w11.heap.size, 0, none⟩ = some (.int .i64 c11.s) ∧ W.cell? ⟨w11.heap.size, 1, none⟩ = some (.slice c11.a c11.n c11.c) ∧ W.cell? ⟨w11.heap.size, 2, none⟩ = some (.int .i64 1) ∧ W.cell? ⟨w11.heap.size, 3, none⟩ = some (.slice c11.b c11.m c11.d) ∧ W.cell? ⟨w11.heap.size, 4, none⟩ = some (.int .i64 d11.s) ∧ W.cell? ⟨w11.heap.size, 5, none⟩ = some (.slice d11.a d11.n d11.c) ∧ W.cell? ⟨w11.heap.size, 6, none⟩ = some (.int .i64 1) ∧ W.cell? ⟨w11.heap.size, 7, none⟩ = some (.slice d11.b d11.m d11.d) ∧ W.cell? ⟨w15.heap.size, 0, none⟩ = some (.int .i64 c15.s) ∧ W.cell? ⟨w15.heap.size, 1, none⟩ = some (.slice c15.a c15.n c15.c) ∧ W.cell? ⟨w15.heap.size, 2, none⟩ = some (.int .i64 1) ∧ W.cell? ⟨w15.heap.size, 3, none⟩ = some (.slice c15.b c15.m c15.d) ∧ W.cell? ⟨w15.heap.size, 4, none⟩ = some (.int .i64 d15.s) ∧ W.cell? ⟨w15.heap.size, 5, none⟩ = some (.slice d15.a d15.n d15.c) ∧ W.cell? ⟨w15.heap.size, 6, none⟩ = some (.int .i64 1) ∧ W.cell? ⟨w15.heap.size, 7, none⟩ = some (.slice d15.b d15.m d15.d) ∧ W.cell? ⟨w19.heap.size, 0, none⟩ = some (.int .i64 c19.s) ∧ W.cell? ⟨w19.heap.size, 1, none⟩ = some (.slice c19.a c19.n c19.c) ∧ W.cell? ⟨w19.heap.size, 2, none⟩ = some (.int .i64 1) ∧ W.cell? ⟨w19.heap.size, 3, none⟩ = some (.slice c19.b c19.m c19.d) ∧ W.cell? ⟨w19.heap.size, 4, none⟩ = some (.int .i64 d19.s) ∧ W.cell? ⟨w19.heap.size, 5, none⟩ = some (.slice d19.a d19.n d19.c) ∧ W.cell? ⟨w19.heap.size, 6, none⟩ = some (.int .i64 1) ∧ W.cell? ⟨w19.heap.size, 7, none⟩ = some (.slice d19.b d19.m d19.d) ∧ W.cell? ⟨w45.heap.size, 0, none⟩ = some (.int .i64 sx45) ∧ W.cell? ⟨w45.heap.size, 1, none⟩ = some (.slice ax45 nx45 cx45) ∧ W.cell? ⟨w45.heap.size, 2, none⟩ = some (.int .i64 1) ∧ W.cell? ⟨w45.heap.size, 3, none⟩ = some (.slice bx45 mx45 dx45))
   (first | (with_reducible exact e0) | (with_reducible exact e1) | (with_reducible exact e2) | (with_reducible exact e3) | (with_reducible exact e4) | (with_reducible exact e5) | (with_reducible exact e6))
   (((first | go_at_call 36 | go_at_call 37 | go_at_call 9 | (rw [if_pos (by rfl)]; go_simp) | skip); (first
     | (have hG := N5; clear hG; go_at_call 9; (with_reducible refine (same_fo (r := true) PN5_1.out PN5_2.out PN5_3.out PN5_4.out HL2.out).mono ?_); rintro e y46_5 ⟨rfl, hb⟩; have N6 := Lib.hid (N5.out.later hb); clear hb; have e6 := KK.out _ _ N6.out)
     | (have hG := N4; clear hG; go_at_call 37; (with_reducible refine (rfint_k (-1) HL1.out _).mono ?_); rintro e y46_4 ⟨sx46_4, ax46_4, nx46_4, cx46_4, bx46_4, mx46_4, dx46_4, rfl, hr, hb, hf, hg⟩; have E46_4 := Lib.hid hr.1.1; have N5 := Lib.hid (N4.out.ret2 hb hr.1.2 hf hr.2.2 hg); clear hr hb hf hg; have e5 := KK.out _ _ N5.out; have PN5_1 := Lib.hid (N5.out.fr mq20 mq21 EC19.out); have PN5_2 := Lib.hid (N5.out.fr mq22 mq23 ED19.out); have PN5_3 := Lib.hid (N5.out.fr mq0 mq1 E46_4.out); have PN5_4 := Lib.hid (N5.out.fr mq2 mq3 E45.out))
     | (have hG := N3; clear hG; go_at_call 36; (with_reducible refine (r10is (r := true) (-6) (8) PN3_1.out PN3_2.out HL12.out HL13.out HL14.out).mono ?_); rintro e y46_3 ⟨rfl, hb⟩; have N4 := Lib.hid (N3.out.later hb); clear hb; have e4 := KK.out _ _ N4.out)
     | (have hG := N2; clear hG; go_at_call 36; (with_reducible refine (r10is (r := true) (-5) (10) PN2_1.out PN2_2.out HL9.out HL10.out HL11.out).mono ?_); rintro e y46_2 ⟨rfl, hb⟩; have N3 := Lib.hid (N2.out.later hb); clear hb; have e3 := KK.out _ _ N3.out; have PN3_1 := Lib.hid (N3.out.fr mq22 mq23 EC15.out); have PN3_2 := Lib.hid (N3.out.fr mq24 mq25 ED15.out))
     | (have hG := N1; clear hG; go_at_call 36; (with_reducible refine (r10is (r := true) (-4) (-1) PN1_1.out PN1_2.out HL6.out HL7.out HL8.out).mono ?_); rintro e y46_1 ⟨rfl, hb⟩; have N2 := Lib.hid (N1.out.later hb); clear hb; have e2 := KK.out _ _ N2.out; have PN2_1 := Lib.hid (N2.out.fr mq26 mq27 EC11.out); have PN2_2 := Lib.hid (N2.out.fr mq28 mq29 ED11.out))
     | (have hG := N0; clear hG; go_at_call 36; (with_reducible refine (r10is (r := true) (4) (7) PN0_1.out PN0_2.out HL3.out HL4.out HL5.out).mono ?_); rintro e y46_0 ⟨rfl, hb⟩; have N1 := Lib.hid (N0.out.later hb); clear hb; have e1 := KK.out _ _ N1.out; have PN1_1 := Lib.hid (N1.out.fr mq30 mq31 EC7.out); have PN1_2 := Lib.hid (N1.out.fr mq32 mq33 ED7.out))); (try dsimp only)))
  all_goals (go_wp2_with fail; go_meet; exact ⟨rfl, Lib.hid (Sf.facts N6.out (by simp))⟩)
 case rest =>
 obtain ⟨rfl, hq⟩ := hcut
 obtain ⟨w46, rfl⟩ : ∃ W, W = wc := ⟨_, rfl⟩
 have R46 := Lib.hid hq.out
 clear hq Q12
 have HL15 : Hid (FSz 400 ((1 : Int) : Rat)) := Lib.hid (fszi (by decide))
 have HL16 : Hid (FSz 400 ((2 : Int) : Rat)) := Lib.hid (fszi (by decide))
 have HL17 : Hid (FSz 400 ((3 : Int) : Rat)) := Lib.hid (fszi (by decide))
 have HL18 : Hid (FSz 400 ((4 : Int) : Rat)) := Lib.hid (fszi (by decide))
 have HL19 : Hid (FSz 400 ((7 : Int) : Rat)) := Lib.hid (fszi (by decide))
 have HL20 : Hid (-9223372036854775808 ≤ (1 : Int) ∧ (1 : Int) ≤ 9223372036854775807) := Lib.hid (by decide)
 have HL21 : Hid (-9223372036854775808 ≤ (2 : Int) ∧ (2 : Int) ≤ 9223372036854775807) := Lib.hid (by decide)
 have HL22 : Hid (-9223372036854775808 ≤ (3 : Int) ∧ (3 : Int) ≤ 9223372036854775807) := Lib.hid (by decide)
 have HL23 : Hid (negS (((1 : Int) : Rat), ((2 : Int) : Rat)) = (((-2 : Int) : Rat), ((-1 : Int) : Rat))) := Lib.hid (by decide +kernel)
 have HL24 : Hid (((1 : Int) : Rat) ≤ ((2 : Int) : Rat)) := Lib.hid (by decide +kernel)
 have HL25 : Hid (decide (((4 : Int) : Rat) ≤ ((7 : Int) : Rat)) = true) := Lib.hid (by decide +kernel)
 obtain ⟨q13, q14, q15, q16, q17, q18, q19, q20⟩ := Fb.cells8 (R46.out.box _ mq5)
 go_wp2_with fail
 have HL26 : Hid (-9223372036854775808 ≤ (1 : Int) ∧ (1 : Int) ≤ 9223372036854775807) := Lib.hid (by decide)
 have HL27 : Hid (-9223372036854775808 ≤ (3 : Int) ∧ (3 : Int) ≤ 9223372036854775807) := Lib.hid (by decide)
 have HL28 : Hid ((decide (((1 : Int) : Rat) = ((1 : Int) : Rat)) && decide (((3 : Int) : Rat) = ((3 : Int) : Rat))) = true) := Lib.hid (by decide +kernel)
 clear q13 q14 q15 q16 q17 q18 q19 q20
 refine (r10is (r := true) (1) (3) (R46.out.fr mq14 mq15 EC27.out) (R46.out.fr mq16 mq17 ED27.out) HL26.out HL27.out HL28.out).mono ?_
 rintro e w47 ⟨rfl, hb⟩
 have R47 := Lib.hid (R46.out.later hb)
 clear hb
 obtain ⟨q21, q22, q23, q24, q25, q26, q27, q28⟩ := Fb.cells8 (R47.out.box _ mq4)
 go_wp2_with fail
 have HL29 : Hid (-9223372036854775808 ≤ (2 : Int) ∧ (2 : Int) ≤ 9223372036854775807) := Lib.hid (by decide)
 have HL30 : Hid (-9223372036854775808 ≤ (5 : Int) ∧ (5 : Int) ≤ 9223372036854775807) := Lib.hid (by decide)
 have HL31 : Hid ((decide (((2 : Int) : Rat) = ((2 : Int) : Rat)) && decide (((5 : Int) : Rat) = ((5 : Int) : Rat))) = true) := Lib.hid (by decide +kernel)
 clear q21 q22 q23 q24 q25 q26 q27 q28
 refine (r10is (r := true) (2) (5) (R47.out.fr mq10 mq11 EC31.out) (R47.out.fr mq12 mq13 ED31.out) HL29.out HL30.out HL31.out).mono ?_
 rintro e w48 ⟨rfl, hb⟩
 have R48 := Lib.hid (R47.out.later hb)
 clear hb
 obtain ⟨q29, q30, q31, q32, q33, q34, q35, q36⟩ := Fb.cells8 (R48.out.box _ mq3)
 go_wp2_with fail
 have HL32 : Hid (-9223372036854775808 ≤ (1 : Int) ∧ (1 : Int) ≤ 9223372036854775807) := Lib.hid (by decide)
 have HL33 : Hid (-9223372036854775808 ≤ (5 : Int) ∧ (5 : Int) ≤ 9223372036854775807) := Lib.hid (by decide)
 have HL34 : Hid ((decide (((1 : Int) : Rat) = ((1 : Int) : Rat)) && decide (((5 : Int) : Rat) = ((5 : Int) : Rat))) = true) := Lib.hid (by decide +kernel)
 clear q29 q30 q31 q32 q33 q34 q35 q36
 refine (r10is (r := true) (1) (5) (R48.out.fr mq6 mq7 EC35.out) (R48.out.fr mq8 mq9 ED35.out) HL32.out HL33.out HL34.out).mono ?_
 rintro e w49 ⟨rfl, hb⟩
 have R49 := Lib.hid (R48.out.later hb)
 clear hb
 obtain ⟨q37, q38, q39, q40, q41, q42, q43, q44⟩ := Fb.cells8 (R49.out.box _ mq1)
 go_wp2_with fail
 have HL35 : Hid (-9223372036854775808 ≤ (4 : Int) ∧ (4 : Int) ≤ 9223372036854775807) := Lib.hid (by decide)
 have HL36 : Hid (-9223372036854775808 ≤ (4 : Int) ∧ (4 : Int) ≤ 9223372036854775807) := Lib.hid (by decide)
 have HL37 : Hid ((decide (((4 : Int) : Rat) = ((4 : Int) : Rat)) && decide (((4 : Int) : Rat) = ((4 : Int) : Rat))) = true) := Lib.hid (by decide +kernel)
 clear q37 q38 q39 q40 q41 q42 q43 q44
 refine (r10is (r := true) (4) (4) (R49.out.fr mq2 mq3 EC43.out) (R49.out.fr mq4 mq5 ED43.out) HL35.out HL36.out HL37.out).mono ?_
 rintro e w50 ⟨rfl, hb⟩
 have R50 := Lib.hid (R49.out.later hb)
 clear hb
 go_wp2_with fail
 refine (r10of (1) (2) (by decide) (by decide)).mono ?_
 rintro e w51 ⟨c51, d51, rfl, h1, h2, hb, ho⟩
 have EC51 := Lib.hid h1.1.1
 have ED51 := Lib.hid h2.1.1
 have R51 := Lib.hid (Sf.span R50.out hb h1 h2 (fun x hx => ho x.1 (R50.out.lt x hx)))
 clear h1 h2 hb ho
 go_wp2_with fail
 refine (p10neg (R51.out.fr mq0 mq1 EC51.out) HL15.out.mono (R51.out.fr mq2 mq3 ED51.out) HL16.out.mono HL24.out (r := (((-2 : Int) : Rat), ((-1 : Int) : Rat))) HL23.out).mono ?_
 rintro e w52 ⟨c52, d52, rfl, h1, h2, hb, ho⟩
 have EC52 := Lib.hid h1.1.1
 have ED52 := Lib.hid h2.1.1
 have R52 := Lib.hid (Sf.span R51.out hb h1 h2 (fun x hx => ho x.1 (R51.out.lt x hx)))
 clear h1 h2 hb ho
 go_wp2_with fail
 have HL38 : Hid (-9223372036854775808 ≤ (-2 : Int) ∧ (-2 : Int) ≤ 9223372036854775807) := Lib.hid (by decide)
 have HL39 : Hid (-9223372036854775808 ≤ (-1 : Int) ∧ (-1 : Int) ≤ 9223372036854775807) := Lib.hid (by decide)
 have HL40 : Hid ((decide (((-2 : Int) : Rat) = ((-2 : Int) : Rat)) && decide (((-1 : Int) : Rat) = ((-1 : Int) : Rat))) = true) := Lib.hid (by decide +kernel)
 refine (r10is (r := true) (-2) (-1) (R52.out.fr mq0 mq1 EC52.out) (R52.out.fr mq2 mq3 ED52.out) HL38.out HL39.out HL40.out).mono ?_
 rintro e w53 ⟨rfl, hb⟩
 have R53 := Lib.hid (R52.out.later hb)
 clear hb
 go_wp2_with fail
 refine (rfint_k 3 HL22.out _).mono ?_
 rintro e w54 ⟨sx54, ax54, nx54, cx54, bx54, mx54, dx54, rfl, hr, hb, hf, hg⟩
 have E54 := Lib.hid hr.1.1
 have R54 := Lib.hid (R53.out.ret2 hb hr.1.2 hf hr.2.2 hg)
 have FF54 := Lib.hid (hf.mono R53.out.below.size)
 have FG54 := Lib.hid (hg.mono R53.out.below.size)
 clear hr hb hf hg
 go_wp2_with fail
 refine (p10point (R54.out.fr mq0 mq1 E54.out) HL17.out.mono rfl).mono ?_
 rintro e w55 ⟨c55, d55, rfl, h1, h2, hb, ho⟩
 have EC55 := Lib.hid h1.1.1
 have ED55 := Lib.hid h2.1.1
 have R55 := Lib.hid (Sf.span R54.out hb h1 h2 (fun x hx => ho x.1 (R54.out.lt x hx)))
 clear h1 h2 hb ho
 go_wp2_with fail
 have HL41 : Hid (-9223372036854775808 ≤ (3 : Int) ∧ (3 : Int) ≤ 9223372036854775807) := Lib.hid (by decide)
 have HL42 : Hid (-9223372036854775808 ≤ (3 : Int) ∧ (3 : Int) ≤ 9223372036854775807) := Lib.hid (by decide)
 have HL43 : Hid ((decide (((3 : Int) : Rat) = ((3 : Int) : Rat)) && decide (((3 : Int) : Rat) = ((3 : Int) : Rat))) = true) := Lib.hid (by decide +kernel)
 refine (r10is (r := true) (3) (3) (R55.out.fr mq0 mq1 EC55.out) (R55.out.fr mq2 mq3 ED55.out) HL41.out HL42.out HL43.out).mono ?_
 rintro e w56 ⟨rfl, hb⟩
 have R56 := Lib.hid (R55.out.later hb)
 clear hb
 obtain ⟨q45, q46, q47, q48, q49, q50, q51, q52⟩ := Fb.cells8 (R56.out.box _ mq11)
 go_wp2_with fail
 clear q45 q46 q47 q48 q49 q50 q51 q52
 refine (p10right_v (r := true) (R56.out.fr (v := .slice c3.a c3.n c3.c) (u := .slice c3.b c3.m c3.d) (r := ((4 : Int) : Rat)) (List.mem_cons_of_mem _ (List.mem_cons_of_mem _ (List.mem_cons_of_mem _ (List.mem_cons_of_mem _ (List.mem_cons_of_mem _ (List.mem_cons_of_mem _ (List.mem_cons_of_mem _ (List.mem_cons_of_mem _ (List.mem_cons_of_mem _ mq39))))))))) (List.mem_cons_of_mem _ (List.mem_cons_of_mem _ (List.mem_cons_of_mem _ (List.mem_cons_of_mem _ (List.mem_cons_of_mem _ (List.mem_cons_of_mem _ (List.mem_cons_of_mem _ (List.mem_cons_of_mem _ (List.mem_cons_of_mem _ (List.mem_cons_of_mem _ mq39)))))))))) EC3.out) HL18.out.mono (R56.out.fr (v := .slice d3.a d3.n d3.c) (u := .slice d3.b d3.m d3.d) (r := ((7 : Int) : Rat)) (List.mem_cons_of_mem _ (List.mem_cons_of_mem _ (List.mem_cons_of_mem _ (List.mem_cons_of_mem _ (List.mem_cons_of_mem _ (List.mem_cons_of_mem _ (List.mem_cons_of_mem _ (List.mem_cons_of_mem _ (List.mem_cons_of_mem _ (List.mem_cons_of_mem _ (List.mem_cons_of_mem _ mq39))))))))))) (List.mem_cons_of_mem _ (List.mem_cons_of_mem _ (List.mem_cons_of_mem _ (List.mem_cons_of_mem _ (List.mem_cons_of_mem _ (List.mem_cons_of_mem _ (List.mem_cons_of_mem _ (List.mem_cons_of_mem _ (List.mem_cons_of_mem _ (List.mem_cons_of_mem _ (List.mem_cons_of_mem _ (List.mem_cons_of_mem _ mq39)))))))))))) ED3.out) HL19.out.mono HL25.out).mono ?_
 rintro e w57 ⟨rfl, hb⟩
 have R57 := Lib.hid (R56.out.later hb)
 clear hb
 go_wp2_with fail
 go_ret
 exact ⟨rfl, R57.out.below⟩
end Go.Proofs.YtgncnkojpedmdaaGreat.Sp
