/- The contracts of span: Add, Min, Max, Sub. -/
import Derived.Test.YtgncnkojpedmdaaGreatPTells19
set_option maxRecDepth 100000
namespace Go.Proofs.YtgncnkojpedmdaaGreat.Sp
open Go.RowKit Bi
theorem left_bad {a b : Bool} (h : a = false) : (a && b) = false := by rw [h]; rfl
theorem zero_bad (a : Bool) : (a && sR 0 [] 0 [] 0 [] 0 []) = false := by
 rw [show sR 0 [] 0 [] 0 [] 0 [] = false by unfold sR fRightB; simp]; simp
theorem ints_none (w : World) : Ints w (.slice none 0 0) [] := Ints.nil w
theorem none_len : ([] : List Int).length ≤ 1000 := Nat.zero_le _

set_option maxHeartbeats 8000000 in
theorem p10rise_add {w : World} {s1 : Int} {a1 b1 : Option Addr} {n1 c1 m1 d1 : Nat} {x : Rat} {s2 : Int} {a2 b2 : Option Addr} {n2 c2 m2 d2 : Nat} {y : Rat} {s3 : Int} {a3 b3 : Option Addr} {n3 c3 m3 d3 : Nat} {p : Rat} {s4 : Int} {a4 b4 : Option Addr} {n4 c4 m4 d4 : Nat} {q : Rat} (h1 : Fr w s1 (.slice a1 n1 c1) (.slice b1 m1 d1) x) (z1 : FSz 400 x) (h2 : Fr w s2 (.slice a2 n2 c2) (.slice b2 m2 d2) y) (z2 : FSz 400 y) (h3 : Fr w s3 (.slice a3 n3 c3) (.slice b3 m3 d3) p) (z3 : FSz 400 p) (h4 : Fr w s4 (.slice a4 n4 c4) (.slice b4 m4 d4) q) (z4 : FSz 400 q) (hxy : x ≤ y) (hpq : p ≤ q) {r : Rat × Rat} (hr : addS (x, y) (p, q) = r) :
  Calls Tryz.prog 56 #[.agg #[.int .i64 s1, .slice a1 n1 c1, .int .i64 1, .slice b1 m1 d1, .int .i64 s2, .slice a2 n2 c2, .int .i64 1, .slice b2 m2 d2], .agg #[.int .i64 s3, .slice a3 n3 c3, .int .i64 1, .slice b3 m3 d3, .int .i64 s4, .slice a4 n4 c4, .int .i64 1, .slice b4 m4 d4], .func (.func 57) #[] #[]] w (SpP (fun v => .tuple #[v, .int .i64 0]) r w) := by
 subst hr
 have E1 := Lib.hid h1.1.1
 have Z1 := Lib.hid z1
 have E2 := Lib.hid h2.1.1
 have Z2 := Lib.hid z2
 have E3 := Lib.hid h3.1.1
 have Z3 := Lib.hid z3
 have E4 := Lib.hid h4.1.1
 have Z4 := Lib.hid z4
 have HXY := Lib.hid (decide_eq_true hxy)
 have HPQ := Lib.hid (decide_eq_true hpq)
 have s0 := ((((((((((((Sf.start w).arg h1.2.2).arg h1.1.2).arg h2.2.2).arg h2.1.2).arg h3.2.2).arg h3.1.2).arg h4.2.2).arg h4.1.2).put [.int .i64 s1, .slice a1 n1 c1, .int .i64 1, .slice b1 m1 d1, .int .i64 s2, .slice a2 n2 c2, .int .i64 1, .slice b2 m2 d2] 28).put [.int .i64 s3, .slice a3 n3 c3, .int .i64 1, .slice b3 m3 d3, .int .i64 s4, .slice a4 n4 c4, .int .i64 1, .slice b4 m4 d4] 28).put [.int .i64 0, .slice none 0 0, .int .i64 0, .slice none 0 0, .int .i64 0, .slice none 0 0, .int .i64 0, .slice none 0 0] 28)
 try simp only [World.size_alloc] at s0
 have S0 := Lib.hid s0
 clear s0
 clear h1 h2 h3 h4 z1 z2 z3 z4 hxy hpq
 go_enter Tryz.func56, Tryz.ntmps56
 obtain ⟨q1, q2, q3, q4, q5, q6, q7, q8⟩ := Fb.cells8 (S0.out.box _ mq2)
 go_wp2_with fail
 clear q1 q2 q3 q4 q5 q6 q7 q8
 refine (p10right_v (S0.out.fr mq6 mq7 E1.out) Z1.out.mono (S0.out.fr mq4 mq5 E2.out) Z2.out.mono HXY.out).mono ?_
 rintro e w1 ⟨rfl, hb⟩
 have R1 := Lib.hid (S0.out.later hb)
 clear hb
 obtain ⟨q9, q10, q11, q12, q13, q14, q15, q16⟩ := Fb.cells8 (R1.out.box _ mq1)
 go_wp2_with fail
 clear q9 q10 q11 q12 q13 q14 q15 q16
 refine (p10right_v (R1.out.fr mq2 mq3 E3.out) Z3.out.mono (R1.out.fr mq0 mq1 E4.out) Z4.out.mono HPQ.out).mono ?_
 rintro e w2 ⟨rfl, hb⟩
 have R2 := Lib.hid (R1.out.later hb)
 clear hb
 obtain ⟨q17, q18, q19, q20, q21, q22, q23, q24⟩ := Fb.cells8 (R2.out.box _ mq1)
 obtain ⟨q25, q26, q27, q28, q29, q30, q31, q32⟩ := Fb.cells8 (R2.out.box _ mq2)
 go_wp2_with fail
 clear q17 q18 q19 q20 q21 q22 q23 q24 q25 q26 q27 q28 q29 q30 q31 q32
 refine (fadd_r (R2.out.fr mq6 mq7 E1.out) (R2.out.fr mq2 mq3 E3.out) Z1.out.mono Z3.out.mono rfl).mono ?_
 rintro e w3 ⟨sx3, ax3, nx3, cx3, bx3, mx3, dx3, rfl, hr, hb, hf, hg⟩
 have E3 := Lib.hid hr.1.1
 have R3 := Lib.hid (R2.out.ret2 hb hr.1.2 hf hr.2.2 hg)
 have FF3 := Lib.hid (hf.mono R2.out.below.size)
 have FG3 := Lib.hid (hg.mono R2.out.below.size)
 clear hr hb hf hg
 have P33 := Lib.hid (R3.out.put [.int .i64 0, .slice none 0 0, .int .i64 0, .slice none 0 0] 26)
 have Q33 := Lib.hid (Sf.row (pre := []) P33.out [.int .i64 sx3, .slice ax3 nx3 cx3, .int .i64 1, .slice bx3 mx3 dx3])
 obtain ⟨q34, q35, q36, q37, q38, q39, q40, q41⟩ := Fb.cells8 (Q33.out.box _ mq2)
 obtain ⟨q42, q43, q44, q45, q46, q47, q48, q49⟩ := Fb.cells8 (Q33.out.box _ mq3)
 go_wp2_with (first | refine wpList_store_row rfl _ _ _ rfl _ #[.int .i64 sx3, .slice ax3 nx3 cx3, .int .i64 1, .slice bx3 mx3 dx3] rfl rfl _ _ (P33.out.box _ List.mem_cons_self) (by kernel_rfl) rfl (by simp [Value.oneCell']) ?_)
 clear q34 q35 q36 q37 q38 q39 q40 q41 q42 q43 q44 q45 q46 q47 q48 q49
 refine (fadd_r (Q33.out.fr mq6 mq7 E2.out) (Q33.out.fr mq2 mq3 E4.out) Z2.out.mono Z4.out.mono rfl).mono ?_
 rintro e w4 ⟨sx4, ax4, nx4, cx4, bx4, mx4, dx4, rfl, hr, hb, hf, hg⟩
 have E4 := Lib.hid hr.1.1
 have R4 := Lib.hid (Q33.out.ret2 hb hr.1.2 hf hr.2.2 hg)
 have FF4 := Lib.hid (hf.mono Q33.out.below.size)
 have FG4 := Lib.hid (hg.mono Q33.out.below.size)
 clear hr hb hf hg
 have P50 := Lib.hid (R4.out.put [.int .i64 0, .slice none 0 0, .int .i64 0, .slice none 0 0] 26)
 have Q50 := Lib.hid (Sf.row (pre := []) P50.out [.int .i64 sx4, .slice ax4 nx4 cx4, .int .i64 1, .slice bx4 mx4 dx4])
 obtain ⟨q51, q52, q53, q54⟩ := Fb.cells4 (Q50.out.box _ mq0)
 obtain ⟨q55, q56, q57, q58⟩ := Fb.cells4 (Q50.out.box _ mq1)
 have Q59 := Lib.hid (Sf.row (pre := [(w4.heap.size, 26, [.int .i64 sx4, .slice ax4 nx4 cx4, .int .i64 1, .slice bx4 mx4 dx4]), (w3.heap.size, 26, [.int .i64 sx3, .slice ax3 nx3 cx3, .int .i64 1, .slice bx3 mx3 dx3])]) Q50.out [.int .i64 sx3, .slice ax3 nx3 cx3, .int .i64 1, .slice bx3 mx3 dx3, .int .i64 sx4, .slice ax4 nx4 cx4, .int .i64 1, .slice bx4 mx4 dx4])
 go_wp2_with (first | refine wpList_store_row rfl _ _ _ rfl _ #[.int .i64 sx4, .slice ax4 nx4 cx4, .int .i64 1, .slice bx4 mx4 dx4] rfl rfl _ _ (P50.out.box _ List.mem_cons_self) (by kernel_rfl) rfl (by simp [Value.oneCell']) ?_ | refine wpList_store_row rfl _ _ _ rfl _ #[.int .i64 sx3, .slice ax3 nx3 cx3, .int .i64 1, .slice bx3 mx3 dx3, .int .i64 sx4, .slice ax4 nx4 cx4, .int .i64 1, .slice bx4 mx4 dx4] rfl rfl _ _ (Q50.out.box _ mq2) (by kernel_rfl) rfl (by simp [Value.oneCell']) ?_)
 clear q51 q52 q53 q54 q55 q56 q57 q58
 refine bodyPost_ret (ret_row rfl _ _ _ _ rfl (run_loadVar_row _ _ _ _ _ (0, 0) _ (Q59.out.box _ mq2) Tryz.underlying28 rfl (by kernel_rfl))) rfl ⟨⟨sx3, ax3, nx3, cx3, bx3, mx3, dx3⟩, ⟨sx4, ax4, nx4, cx4, bx4, mx4, dx4⟩, rfl, (Q59.out.fr mq2 mq3 E3.out), (Q59.out.fr mq0 mq1 E4.out), Q59.out.below, fun g hg => ⟨⟨FF3.out g hg, FG3.out g hg⟩, ⟨FF4.out g hg, FG4.out g hg⟩⟩⟩

set_option maxHeartbeats 8000000 in
theorem p10rise_min {w : World} {s1 : Int} {a1 b1 : Option Addr} {n1 c1 m1 d1 : Nat} {x : Rat} {s2 : Int} {a2 b2 : Option Addr} {n2 c2 m2 d2 : Nat} {y : Rat} {s3 : Int} {a3 b3 : Option Addr} {n3 c3 m3 d3 : Nat} {p : Rat} {s4 : Int} {a4 b4 : Option Addr} {n4 c4 m4 d4 : Nat} {q : Rat} (h1 : Fr w s1 (.slice a1 n1 c1) (.slice b1 m1 d1) x) (z1 : FSz 400 x) (h2 : Fr w s2 (.slice a2 n2 c2) (.slice b2 m2 d2) y) (z2 : FSz 400 y) (h3 : Fr w s3 (.slice a3 n3 c3) (.slice b3 m3 d3) p) (z3 : FSz 400 p) (h4 : Fr w s4 (.slice a4 n4 c4) (.slice b4 m4 d4) q) (z4 : FSz 400 q) (hxy : x ≤ y) (hpq : p ≤ q) {r : Rat × Rat} (hr : minS (x, y) (p, q) = r) :
  Calls Tryz.prog 56 #[.agg #[.int .i64 s1, .slice a1 n1 c1, .int .i64 1, .slice b1 m1 d1, .int .i64 s2, .slice a2 n2 c2, .int .i64 1, .slice b2 m2 d2], .agg #[.int .i64 s3, .slice a3 n3 c3, .int .i64 1, .slice b3 m3 d3, .int .i64 s4, .slice a4 n4 c4, .int .i64 1, .slice b4 m4 d4], .func (.func 41) #[] #[]] w (SpP (fun v => .tuple #[v, .int .i64 0]) r w) := by
 subst hr
 have E1 := Lib.hid h1.1.1
 have Z1 := Lib.hid z1
 have E2 := Lib.hid h2.1.1
 have Z2 := Lib.hid z2
 have E3 := Lib.hid h3.1.1
 have Z3 := Lib.hid z3
 have E4 := Lib.hid h4.1.1
 have Z4 := Lib.hid z4
 have HXY := Lib.hid (decide_eq_true hxy)
 have HPQ := Lib.hid (decide_eq_true hpq)
 have s0 := ((((((((((((Sf.start w).arg h1.2.2).arg h1.1.2).arg h2.2.2).arg h2.1.2).arg h3.2.2).arg h3.1.2).arg h4.2.2).arg h4.1.2).put [.int .i64 s1, .slice a1 n1 c1, .int .i64 1, .slice b1 m1 d1, .int .i64 s2, .slice a2 n2 c2, .int .i64 1, .slice b2 m2 d2] 28).put [.int .i64 s3, .slice a3 n3 c3, .int .i64 1, .slice b3 m3 d3, .int .i64 s4, .slice a4 n4 c4, .int .i64 1, .slice b4 m4 d4] 28).put [.int .i64 0, .slice none 0 0, .int .i64 0, .slice none 0 0, .int .i64 0, .slice none 0 0, .int .i64 0, .slice none 0 0] 28)
 try simp only [World.size_alloc] at s0
 have S0 := Lib.hid s0
 clear s0
 clear h1 h2 h3 h4 z1 z2 z3 z4 hxy hpq
 go_enter Tryz.func56, Tryz.ntmps56
 obtain ⟨q1, q2, q3, q4, q5, q6, q7, q8⟩ := Fb.cells8 (S0.out.box _ mq2)
 go_wp2_with fail
 clear q1 q2 q3 q4 q5 q6 q7 q8
 refine (p10right_v (S0.out.fr mq6 mq7 E1.out) Z1.out.mono (S0.out.fr mq4 mq5 E2.out) Z2.out.mono HXY.out).mono ?_
 rintro e w1 ⟨rfl, hb⟩
 have R1 := Lib.hid (S0.out.later hb)
 clear hb
 obtain ⟨q9, q10, q11, q12, q13, q14, q15, q16⟩ := Fb.cells8 (R1.out.box _ mq1)
 go_wp2_with fail
 clear q9 q10 q11 q12 q13 q14 q15 q16
 refine (p10right_v (R1.out.fr mq2 mq3 E3.out) Z3.out.mono (R1.out.fr mq0 mq1 E4.out) Z4.out.mono HPQ.out).mono ?_
 rintro e w2 ⟨rfl, hb⟩
 have R2 := Lib.hid (R1.out.later hb)
 clear hb
 obtain ⟨q17, q18, q19, q20, q21, q22, q23, q24⟩ := Fb.cells8 (R2.out.box _ mq1)
 obtain ⟨q25, q26, q27, q28, q29, q30, q31, q32⟩ := Fb.cells8 (R2.out.box _ mq2)
 go_wp2_with fail
 clear q17 q18 q19 q20 q21 q22 q23 q24 q25 q26 q27 q28 q29 q30 q31 q32
 refine (fmin_r (R2.out.fr mq6 mq7 E1.out) (R2.out.fr mq2 mq3 E3.out) Z1.out.mono Z3.out.mono rfl).mono ?_
 rintro e w3 ⟨sx3, ax3, nx3, cx3, bx3, mx3, dx3, rfl, hr, hb, hf, hg⟩
 have E3 := Lib.hid hr.1.1
 have R3 := Lib.hid (R2.out.ret2 hb hr.1.2 hf hr.2.2 hg)
 have FF3 := Lib.hid (hf.mono R2.out.below.size)
 have FG3 := Lib.hid (hg.mono R2.out.below.size)
 clear hr hb hf hg
 have P33 := Lib.hid (R3.out.put [.int .i64 0, .slice none 0 0, .int .i64 0, .slice none 0 0] 26)
 have Q33 := Lib.hid (Sf.row (pre := []) P33.out [.int .i64 sx3, .slice ax3 nx3 cx3, .int .i64 1, .slice bx3 mx3 dx3])
 obtain ⟨q34, q35, q36, q37, q38, q39, q40, q41⟩ := Fb.cells8 (Q33.out.box _ mq2)
 obtain ⟨q42, q43, q44, q45, q46, q47, q48, q49⟩ := Fb.cells8 (Q33.out.box _ mq3)
 go_wp2_with (first | refine wpList_store_row rfl _ _ _ rfl _ #[.int .i64 sx3, .slice ax3 nx3 cx3, .int .i64 1, .slice bx3 mx3 dx3] rfl rfl _ _ (P33.out.box _ List.mem_cons_self) (by kernel_rfl) rfl (by simp [Value.oneCell']) ?_)
 clear q34 q35 q36 q37 q38 q39 q40 q41 q42 q43 q44 q45 q46 q47 q48 q49
 refine (fmin_r (Q33.out.fr mq6 mq7 E2.out) (Q33.out.fr mq2 mq3 E4.out) Z2.out.mono Z4.out.mono rfl).mono ?_
 rintro e w4 ⟨sx4, ax4, nx4, cx4, bx4, mx4, dx4, rfl, hr, hb, hf, hg⟩
 have E4 := Lib.hid hr.1.1
 have R4 := Lib.hid (Q33.out.ret2 hb hr.1.2 hf hr.2.2 hg)
 have FF4 := Lib.hid (hf.mono Q33.out.below.size)
 have FG4 := Lib.hid (hg.mono Q33.out.below.size)
 clear hr hb hf hg
 have P50 := Lib.hid (R4.out.put [.int .i64 0, .slice none 0 0, .int .i64 0, .slice none 0 0] 26)
 have Q50 := Lib.hid (Sf.row (pre := []) P50.out [.int .i64 sx4, .slice ax4 nx4 cx4, .int .i64 1, .slice bx4 mx4 dx4])
 obtain ⟨q51, q52, q53, q54⟩ := Fb.cells4 (Q50.out.box _ mq0)
 obtain ⟨q55, q56, q57, q58⟩ := Fb.cells4 (Q50.out.box _ mq1)
 have Q59 := Lib.hid (Sf.row (pre := [(w4.heap.size, 26, [.int .i64 sx4, .slice ax4 nx4 cx4, .int .i64 1, .slice bx4 mx4 dx4]), (w3.heap.size, 26, [.int .i64 sx3, .slice ax3 nx3 cx3, .int .i64 1, .slice bx3 mx3 dx3])]) Q50.out [.int .i64 sx3, .slice ax3 nx3 cx3, .int .i64 1, .slice bx3 mx3 dx3, .int .i64 sx4, .slice ax4 nx4 cx4, .int .i64 1, .slice bx4 mx4 dx4])
 go_wp2_with (first | refine wpList_store_row rfl _ _ _ rfl _ #[.int .i64 sx4, .slice ax4 nx4 cx4, .int .i64 1, .slice bx4 mx4 dx4] rfl rfl _ _ (P50.out.box _ List.mem_cons_self) (by kernel_rfl) rfl (by simp [Value.oneCell']) ?_ | refine wpList_store_row rfl _ _ _ rfl _ #[.int .i64 sx3, .slice ax3 nx3 cx3, .int .i64 1, .slice bx3 mx3 dx3, .int .i64 sx4, .slice ax4 nx4 cx4, .int .i64 1, .slice bx4 mx4 dx4] rfl rfl _ _ (Q50.out.box _ mq2) (by kernel_rfl) rfl (by simp [Value.oneCell']) ?_)
 clear q51 q52 q53 q54 q55 q56 q57 q58
 refine bodyPost_ret (ret_row rfl _ _ _ _ rfl (run_loadVar_row _ _ _ _ _ (0, 0) _ (Q59.out.box _ mq2) Tryz.underlying28 rfl (by kernel_rfl))) rfl ⟨⟨sx3, ax3, nx3, cx3, bx3, mx3, dx3⟩, ⟨sx4, ax4, nx4, cx4, bx4, mx4, dx4⟩, rfl, (Q59.out.fr mq2 mq3 E3.out), (Q59.out.fr mq0 mq1 E4.out), Q59.out.below, fun g hg => ⟨⟨FF3.out g hg, FG3.out g hg⟩, ⟨FF4.out g hg, FG4.out g hg⟩⟩⟩

set_option maxHeartbeats 8000000 in
theorem p10rise_max {w : World} {s1 : Int} {a1 b1 : Option Addr} {n1 c1 m1 d1 : Nat} {x : Rat} {s2 : Int} {a2 b2 : Option Addr} {n2 c2 m2 d2 : Nat} {y : Rat} {s3 : Int} {a3 b3 : Option Addr} {n3 c3 m3 d3 : Nat} {p : Rat} {s4 : Int} {a4 b4 : Option Addr} {n4 c4 m4 d4 : Nat} {q : Rat} (h1 : Fr w s1 (.slice a1 n1 c1) (.slice b1 m1 d1) x) (z1 : FSz 400 x) (h2 : Fr w s2 (.slice a2 n2 c2) (.slice b2 m2 d2) y) (z2 : FSz 400 y) (h3 : Fr w s3 (.slice a3 n3 c3) (.slice b3 m3 d3) p) (z3 : FSz 400 p) (h4 : Fr w s4 (.slice a4 n4 c4) (.slice b4 m4 d4) q) (z4 : FSz 400 q) (hxy : x ≤ y) (hpq : p ≤ q) {r : Rat × Rat} (hr : maxS (x, y) (p, q) = r) :
  Calls Tryz.prog 56 #[.agg #[.int .i64 s1, .slice a1 n1 c1, .int .i64 1, .slice b1 m1 d1, .int .i64 s2, .slice a2 n2 c2, .int .i64 1, .slice b2 m2 d2], .agg #[.int .i64 s3, .slice a3 n3 c3, .int .i64 1, .slice b3 m3 d3, .int .i64 s4, .slice a4 n4 c4, .int .i64 1, .slice b4 m4 d4], .func (.func 42) #[] #[]] w (SpP (fun v => .tuple #[v, .int .i64 0]) r w) := by
 subst hr
 have E1 := Lib.hid h1.1.1
 have Z1 := Lib.hid z1
 have E2 := Lib.hid h2.1.1
 have Z2 := Lib.hid z2
 have E3 := Lib.hid h3.1.1
 have Z3 := Lib.hid z3
 have E4 := Lib.hid h4.1.1
 have Z4 := Lib.hid z4
 have HXY := Lib.hid (decide_eq_true hxy)
 have HPQ := Lib.hid (decide_eq_true hpq)
 have s0 := ((((((((((((Sf.start w).arg h1.2.2).arg h1.1.2).arg h2.2.2).arg h2.1.2).arg h3.2.2).arg h3.1.2).arg h4.2.2).arg h4.1.2).put [.int .i64 s1, .slice a1 n1 c1, .int .i64 1, .slice b1 m1 d1, .int .i64 s2, .slice a2 n2 c2, .int .i64 1, .slice b2 m2 d2] 28).put [.int .i64 s3, .slice a3 n3 c3, .int .i64 1, .slice b3 m3 d3, .int .i64 s4, .slice a4 n4 c4, .int .i64 1, .slice b4 m4 d4] 28).put [.int .i64 0, .slice none 0 0, .int .i64 0, .slice none 0 0, .int .i64 0, .slice none 0 0, .int .i64 0, .slice none 0 0] 28)
 try simp only [World.size_alloc] at s0
 have S0 := Lib.hid s0
 clear s0
 clear h1 h2 h3 h4 z1 z2 z3 z4 hxy hpq
 go_enter Tryz.func56, Tryz.ntmps56
 obtain ⟨q1, q2, q3, q4, q5, q6, q7, q8⟩ := Fb.cells8 (S0.out.box _ mq2)
 go_wp2_with fail
 clear q1 q2 q3 q4 q5 q6 q7 q8
 refine (p10right_v (S0.out.fr mq6 mq7 E1.out) Z1.out.mono (S0.out.fr mq4 mq5 E2.out) Z2.out.mono HXY.out).mono ?_
 rintro e w1 ⟨rfl, hb⟩
 have R1 := Lib.hid (S0.out.later hb)
 clear hb
 obtain ⟨q9, q10, q11, q12, q13, q14, q15, q16⟩ := Fb.cells8 (R1.out.box _ mq1)
 go_wp2_with fail
 clear q9 q10 q11 q12 q13 q14 q15 q16
 refine (p10right_v (R1.out.fr mq2 mq3 E3.out) Z3.out.mono (R1.out.fr mq0 mq1 E4.out) Z4.out.mono HPQ.out).mono ?_
 rintro e w2 ⟨rfl, hb⟩
 have R2 := Lib.hid (R1.out.later hb)
 clear hb
 obtain ⟨q17, q18, q19, q20, q21, q22, q23, q24⟩ := Fb.cells8 (R2.out.box _ mq1)
 obtain ⟨q25, q26, q27, q28, q29, q30, q31, q32⟩ := Fb.cells8 (R2.out.box _ mq2)
 go_wp2_with fail
 clear q17 q18 q19 q20 q21 q22 q23 q24 q25 q26 q27 q28 q29 q30 q31 q32
 refine (fmax_r (R2.out.fr mq6 mq7 E1.out) (R2.out.fr mq2 mq3 E3.out) Z1.out.mono Z3.out.mono rfl).mono ?_
 rintro e w3 ⟨sx3, ax3, nx3, cx3, bx3, mx3, dx3, rfl, hr, hb, hf, hg⟩
 have E3 := Lib.hid hr.1.1
 have R3 := Lib.hid (R2.out.ret2 hb hr.1.2 hf hr.2.2 hg)
 have FF3 := Lib.hid (hf.mono R2.out.below.size)
 have FG3 := Lib.hid (hg.mono R2.out.below.size)
 clear hr hb hf hg
 have P33 := Lib.hid (R3.out.put [.int .i64 0, .slice none 0 0, .int .i64 0, .slice none 0 0] 26)
 have Q33 := Lib.hid (Sf.row (pre := []) P33.out [.int .i64 sx3, .slice ax3 nx3 cx3, .int .i64 1, .slice bx3 mx3 dx3])
 obtain ⟨q34, q35, q36, q37, q38, q39, q40, q41⟩ := Fb.cells8 (Q33.out.box _ mq2)
 obtain ⟨q42, q43, q44, q45, q46, q47, q48, q49⟩ := Fb.cells8 (Q33.out.box _ mq3)
 go_wp2_with (first | refine wpList_store_row rfl _ _ _ rfl _ #[.int .i64 sx3, .slice ax3 nx3 cx3, .int .i64 1, .slice bx3 mx3 dx3] rfl rfl _ _ (P33.out.box _ List.mem_cons_self) (by kernel_rfl) rfl (by simp [Value.oneCell']) ?_)
 clear q34 q35 q36 q37 q38 q39 q40 q41 q42 q43 q44 q45 q46 q47 q48 q49
 refine (fmax_r (Q33.out.fr mq6 mq7 E2.out) (Q33.out.fr mq2 mq3 E4.out) Z2.out.mono Z4.out.mono rfl).mono ?_
 rintro e w4 ⟨sx4, ax4, nx4, cx4, bx4, mx4, dx4, rfl, hr, hb, hf, hg⟩
 have E4 := Lib.hid hr.1.1
 have R4 := Lib.hid (Q33.out.ret2 hb hr.1.2 hf hr.2.2 hg)
 have FF4 := Lib.hid (hf.mono Q33.out.below.size)
 have FG4 := Lib.hid (hg.mono Q33.out.below.size)
 clear hr hb hf hg
 have P50 := Lib.hid (R4.out.put [.int .i64 0, .slice none 0 0, .int .i64 0, .slice none 0 0] 26)
 have Q50 := Lib.hid (Sf.row (pre := []) P50.out [.int .i64 sx4, .slice ax4 nx4 cx4, .int .i64 1, .slice bx4 mx4 dx4])
 obtain ⟨q51, q52, q53, q54⟩ := Fb.cells4 (Q50.out.box _ mq0)
 obtain ⟨q55, q56, q57, q58⟩ := Fb.cells4 (Q50.out.box _ mq1)
 have Q59 := Lib.hid (Sf.row (pre := [(w4.heap.size, 26, [.int .i64 sx4, .slice ax4 nx4 cx4, .int .i64 1, .slice bx4 mx4 dx4]), (w3.heap.size, 26, [.int .i64 sx3, .slice ax3 nx3 cx3, .int .i64 1, .slice bx3 mx3 dx3])]) Q50.out [.int .i64 sx3, .slice ax3 nx3 cx3, .int .i64 1, .slice bx3 mx3 dx3, .int .i64 sx4, .slice ax4 nx4 cx4, .int .i64 1, .slice bx4 mx4 dx4])
 go_wp2_with (first | refine wpList_store_row rfl _ _ _ rfl _ #[.int .i64 sx4, .slice ax4 nx4 cx4, .int .i64 1, .slice bx4 mx4 dx4] rfl rfl _ _ (P50.out.box _ List.mem_cons_self) (by kernel_rfl) rfl (by simp [Value.oneCell']) ?_ | refine wpList_store_row rfl _ _ _ rfl _ #[.int .i64 sx3, .slice ax3 nx3 cx3, .int .i64 1, .slice bx3 mx3 dx3, .int .i64 sx4, .slice ax4 nx4 cx4, .int .i64 1, .slice bx4 mx4 dx4] rfl rfl _ _ (Q50.out.box _ mq2) (by kernel_rfl) rfl (by simp [Value.oneCell']) ?_)
 clear q51 q52 q53 q54 q55 q56 q57 q58
 refine bodyPost_ret (ret_row rfl _ _ _ _ rfl (run_loadVar_row _ _ _ _ _ (0, 0) _ (Q59.out.box _ mq2) Tryz.underlying28 rfl (by kernel_rfl))) rfl ⟨⟨sx3, ax3, nx3, cx3, bx3, mx3, dx3⟩, ⟨sx4, ax4, nx4, cx4, bx4, mx4, dx4⟩, rfl, (Q59.out.fr mq2 mq3 E3.out), (Q59.out.fr mq0 mq1 E4.out), Q59.out.below, fun g hg => ⟨⟨FF3.out g hg, FG3.out g hg⟩, ⟨FF4.out g hg, FG4.out g hg⟩⟩⟩

set_option maxHeartbeats 8000000 in
theorem p10rise_bad {w : World} {s1 t1 : Int} {a1 b1 : Option Addr} {n1 c1 m1 d1 : Nat} {l1 k1 : List Int} {s2 t2 : Int} {a2 b2 : Option Addr} {n2 c2 m2 d2 : Nat} {l2 k2 : List Int} {s3 t3 : Int} {a3 b3 : Option Addr} {n3 c3 m3 d3 : Nat} {l3 k3 : List Int} {s4 t4 : Int} {a4 b4 : Option Addr} {n4 c4 m4 d4 : Nat} {l4 k4 : List Int} (o : Value) (hl1 : Ints w (.slice a1 n1 c1) l1) (hk1 : Ints w (.slice b1 m1 d1) k1) (ll1 : l1.length ≤ 1000) (lk1 : k1.length ≤ 1000) (hl2 : Ints w (.slice a2 n2 c2) l2) (hk2 : Ints w (.slice b2 m2 d2) k2) (ll2 : l2.length ≤ 1000) (lk2 : k2.length ≤ 1000) (hl3 : Ints w (.slice a3 n3 c3) l3) (hk3 : Ints w (.slice b3 m3 d3) k3) (ll3 : l3.length ≤ 1000) (lk3 : k3.length ≤ 1000) (hl4 : Ints w (.slice a4 n4 c4) l4) (hk4 : Ints w (.slice b4 m4 d4) k4) (ll4 : l4.length ≤ 1000) (lk4 : k4.length ≤ 1000) (hr : (sR s1 l1 t1 k1 s2 l2 t2 k2 && sR s3 l3 t3 k3 s4 l4 t4 k4) = false) :
  Calls Tryz.prog 56 #[.agg #[.int .i64 s1, .slice a1 n1 c1, .int .i64 t1, .slice b1 m1 d1, .int .i64 s2, .slice a2 n2 c2, .int .i64 t2, .slice b2 m2 d2], .agg #[.int .i64 s3, .slice a3 n3 c3, .int .i64 t3, .slice b3 m3 d3, .int .i64 s4, .slice a4 n4 c4, .int .i64 t4, .slice b4 m4 d4], o] w fun e w' => e = .returned (.tuple #[.agg #[.int .i64 0, .slice none 0 0, .int .i64 0, .slice none 0 0, .int .i64 0, .slice none 0 0, .int .i64 0, .slice none 0 0], .int .i64 1]) ∧ RowKit.Below w.heap.size w w' := by
 rcases ea : sR s1 l1 t1 k1 s2 l2 t2 k2 with _ | _
 ·skip
  have LL1 := Lib.hid ll1
  have LK1 := Lib.hid lk1
  have LL2 := Lib.hid ll2
  have LK2 := Lib.hid lk2
  have LL3 := Lib.hid ll3
  have LK3 := Lib.hid lk3
  have LL4 := Lib.hid ll4
  have LK4 := Lib.hid lk4
  have EA := Lib.hid ea
  have s0 := ((((((((((((Sf.start w).arg hk1).arg hl1).arg hk2).arg hl2).arg hk3).arg hl3).arg hk4).arg hl4).put [.int .i64 s1, .slice a1 n1 c1, .int .i64 t1, .slice b1 m1 d1, .int .i64 s2, .slice a2 n2 c2, .int .i64 t2, .slice b2 m2 d2] 28).put [.int .i64 s3, .slice a3 n3 c3, .int .i64 t3, .slice b3 m3 d3, .int .i64 s4, .slice a4 n4 c4, .int .i64 t4, .slice b4 m4 d4] 28).put [.int .i64 0, .slice none 0 0, .int .i64 0, .slice none 0 0, .int .i64 0, .slice none 0 0, .int .i64 0, .slice none 0 0] 28)
  try simp only [World.size_alloc] at s0
  have S0 := Lib.hid s0
  clear s0
  clear hr ea hl1 hk1 ll1 lk1 hl2 hk2 ll2 lk2 hl3 hk3 ll3 lk3 hl4 hk4 ll4 lk4
  go_enter Tryz.func56, Tryz.ntmps56
  obtain ⟨q1, q2, q3, q4, q5, q6, q7, q8⟩ := Fb.cells8 (S0.out.box _ mq2)
  go_wp2_with fail
  clear q1 q2 q3 q4 q5 q6 q7 q8
  refine (p10right_raw (S0.out.ints (.slice a1 n1 c1, l1) mq6) (S0.out.ints (.slice b1 m1 d1, k1) mq7) LL1.out LK1.out (S0.out.ints (.slice a2 n2 c2, l2) mq4) (S0.out.ints (.slice b2 m2 d2, k2) mq5) LL2.out LK2.out EA.out).mono ?_
  rintro e w1 ⟨rfl, hb⟩
  have R1 := Lib.hid (S0.out.later hb)
  clear hb
  have Q9 := Lib.hid (Sf.row (pre := []) R1.out [.int .i64 0, .slice none 0 0, .int .i64 0, .slice none 0 0, .int .i64 0, .slice none 0 0, .int .i64 0, .slice none 0 0])
  go_wp2_with (first | refine wpList_store_row rfl _ _ _ rfl _ #[.int .i64 0, .slice none 0 0, .int .i64 0, .slice none 0 0, .int .i64 0, .slice none 0 0, .int .i64 0, .slice none 0 0] rfl rfl _ _ (R1.out.box _ mq0) (by kernel_rfl) rfl (by simp [Value.oneCell']) ?_)
  refine bodyPost_ret (ret_row rfl _ _ _ _ rfl (run_loadVar_row _ _ _ _ _ (0, 0) _ (Q9.out.box _ mq0) Tryz.underlying28 rfl (by kernel_rfl))) rfl ⟨rfl, Q9.out.below⟩
 ·have eb : sR s3 l3 t3 k3 s4 l4 t4 k4 = false := by rw [ea] at hr; simpa using hr
  have LL1 := Lib.hid ll1
  have LK1 := Lib.hid lk1
  have LL2 := Lib.hid ll2
  have LK2 := Lib.hid lk2
  have LL3 := Lib.hid ll3
  have LK3 := Lib.hid lk3
  have LL4 := Lib.hid ll4
  have LK4 := Lib.hid lk4
  have EA := Lib.hid ea
  have EB := Lib.hid eb
  have s0 := ((((((((((((Sf.start w).arg hk1).arg hl1).arg hk2).arg hl2).arg hk3).arg hl3).arg hk4).arg hl4).put [.int .i64 s1, .slice a1 n1 c1, .int .i64 t1, .slice b1 m1 d1, .int .i64 s2, .slice a2 n2 c2, .int .i64 t2, .slice b2 m2 d2] 28).put [.int .i64 s3, .slice a3 n3 c3, .int .i64 t3, .slice b3 m3 d3, .int .i64 s4, .slice a4 n4 c4, .int .i64 t4, .slice b4 m4 d4] 28).put [.int .i64 0, .slice none 0 0, .int .i64 0, .slice none 0 0, .int .i64 0, .slice none 0 0, .int .i64 0, .slice none 0 0] 28)
  try simp only [World.size_alloc] at s0
  have S0 := Lib.hid s0
  clear s0
  clear hr ea hl1 hk1 ll1 lk1 hl2 hk2 ll2 lk2 hl3 hk3 ll3 lk3 hl4 hk4 ll4 lk4 eb
  go_enter Tryz.func56, Tryz.ntmps56
  obtain ⟨q1, q2, q3, q4, q5, q6, q7, q8⟩ := Fb.cells8 (S0.out.box _ mq2)
  go_wp2_with fail
  clear q1 q2 q3 q4 q5 q6 q7 q8
  refine (p10right_raw (S0.out.ints (.slice a1 n1 c1, l1) mq6) (S0.out.ints (.slice b1 m1 d1, k1) mq7) LL1.out LK1.out (S0.out.ints (.slice a2 n2 c2, l2) mq4) (S0.out.ints (.slice b2 m2 d2, k2) mq5) LL2.out LK2.out EA.out).mono ?_
  rintro e w1 ⟨rfl, hb⟩
  have R1 := Lib.hid (S0.out.later hb)
  clear hb
  obtain ⟨q9, q10, q11, q12, q13, q14, q15, q16⟩ := Fb.cells8 (R1.out.box _ mq1)
  go_wp2_with fail
  clear q9 q10 q11 q12 q13 q14 q15 q16
  refine (p10right_raw (R1.out.ints (.slice a3 n3 c3, l3) mq2) (R1.out.ints (.slice b3 m3 d3, k3) mq3) LL3.out LK3.out (R1.out.ints (.slice a4 n4 c4, l4) mq0) (R1.out.ints (.slice b4 m4 d4, k4) mq1) LL4.out LK4.out EB.out).mono ?_
  rintro e w2 ⟨rfl, hb⟩
  have R2 := Lib.hid (R1.out.later hb)
  clear hb
  have Q17 := Lib.hid (Sf.row (pre := []) R2.out [.int .i64 0, .slice none 0 0, .int .i64 0, .slice none 0 0, .int .i64 0, .slice none 0 0, .int .i64 0, .slice none 0 0])
  go_wp2_with (first | refine wpList_store_row rfl _ _ _ rfl _ #[.int .i64 0, .slice none 0 0, .int .i64 0, .slice none 0 0, .int .i64 0, .slice none 0 0, .int .i64 0, .slice none 0 0] rfl rfl _ _ (R2.out.box _ mq0) (by kernel_rfl) rfl (by simp [Value.oneCell']) ?_)
  refine bodyPost_ret (ret_row rfl _ _ _ _ rfl (run_loadVar_row _ _ _ _ _ (0, 0) _ (Q17.out.box _ mq0) Tryz.underlying28 rfl (by kernel_rfl))) rfl ⟨rfl, Q17.out.below⟩

set_option maxHeartbeats 8000000 in
theorem p10add {w : World} {s1 : Int} {a1 b1 : Option Addr} {n1 c1 m1 d1 : Nat} {x : Rat} {s2 : Int} {a2 b2 : Option Addr} {n2 c2 m2 d2 : Nat} {y : Rat} {s3 : Int} {a3 b3 : Option Addr} {n3 c3 m3 d3 : Nat} {p : Rat} {s4 : Int} {a4 b4 : Option Addr} {n4 c4 m4 d4 : Nat} {q : Rat} (h1 : Fr w s1 (.slice a1 n1 c1) (.slice b1 m1 d1) x) (z1 : FSz 400 x) (h2 : Fr w s2 (.slice a2 n2 c2) (.slice b2 m2 d2) y) (z2 : FSz 400 y) (h3 : Fr w s3 (.slice a3 n3 c3) (.slice b3 m3 d3) p) (z3 : FSz 400 p) (h4 : Fr w s4 (.slice a4 n4 c4) (.slice b4 m4 d4) q) (z4 : FSz 400 q) (hxy : x ≤ y) (hpq : p ≤ q) {r : Rat × Rat} (hr : addS (x, y) (p, q) = r) :
  Calls Tryz.prog 28 #[.agg #[.int .i64 s1, .slice a1 n1 c1, .int .i64 1, .slice b1 m1 d1, .int .i64 s2, .slice a2 n2 c2, .int .i64 1, .slice b2 m2 d2], .agg #[.int .i64 s3, .slice a3 n3 c3, .int .i64 1, .slice b3 m3 d3, .int .i64 s4, .slice a4 n4 c4, .int .i64 1, .slice b4 m4 d4]] w (SpP (fun v => .tuple #[v, .int .i64 0]) r w) := by
 have HL := Lib.hid hxy
 have HH := Lib.hid hpq
 have HR := Lib.hid hr
 have E1 := Lib.hid h1.1.1
 have Z1 := Lib.hid z1
 have E2 := Lib.hid h2.1.1
 have Z2 := Lib.hid z2
 have E3 := Lib.hid h3.1.1
 have Z3 := Lib.hid z3
 have E4 := Lib.hid h4.1.1
 have Z4 := Lib.hid z4
 have s0 := ((((((((((((Sf.start w).arg h1.2.2).arg h1.1.2).arg h2.2.2).arg h2.1.2).arg h3.2.2).arg h3.1.2).arg h4.2.2).arg h4.1.2).put [.int .i64 s1, .slice a1 n1 c1, .int .i64 1, .slice b1 m1 d1, .int .i64 s2, .slice a2 n2 c2, .int .i64 1, .slice b2 m2 d2] 28).put [.int .i64 s3, .slice a3 n3 c3, .int .i64 1, .slice b3 m3 d3, .int .i64 s4, .slice a4 n4 c4, .int .i64 1, .slice b4 m4 d4] 28).put [.int .i64 0, .slice none 0 0, .int .i64 0, .slice none 0 0, .int .i64 0, .slice none 0 0, .int .i64 0, .slice none 0 0] 28)
 try simp only [World.size_alloc] at s0
 have S0 := Lib.hid s0
 clear s0
 clear h1 h2 h3 h4 z1 z2 z3 z4 hxy hpq hr
 go_enter Tryz.func28, Tryz.ntmps28
 obtain ⟨q1, q2, q3, q4, q5, q6, q7, q8⟩ := Fb.cells8 (S0.out.box _ mq1)
 obtain ⟨q9, q10, q11, q12, q13, q14, q15, q16⟩ := Fb.cells8 (S0.out.box _ mq2)
 go_wp2_with fail
 clear q1 q2 q3 q4 q5 q6 q7 q8 q9 q10 q11 q12 q13 q14 q15 q16
 refine (p10rise_add (S0.out.fr mq6 mq7 E1.out) Z1.out (S0.out.fr mq4 mq5 E2.out) Z2.out (S0.out.fr mq2 mq3 E3.out) Z3.out (S0.out.fr mq0 mq1 E4.out) Z4.out HL.out HH.out HR.out).mono ?_
 rintro e w11 ⟨c11, d11, rfl, h1, h2, hb, ho⟩
 have EC11 := Lib.hid h1.1.1
 have ED11 := Lib.hid h2.1.1
 have R11 := Lib.hid (Sf.span S0.out hb h1 h2 (fun x hx => ho x.1 (S0.out.lt x hx)))
 have HO11 := Lib.hid (fun g (hg : g < w.heap.size) => ho g (Nat.lt_of_lt_of_le hg S0.out.below.size))
 clear h1 h2 hb ho
 have Q17 := Lib.hid (Sf.row (pre := []) R11.out [.int .i64 c11.s, .slice c11.a c11.n c11.c, .int .i64 1, .slice c11.b c11.m c11.d, .int .i64 d11.s, .slice d11.a d11.n d11.c, .int .i64 1, .slice d11.b d11.m d11.d])
 go_wp2_with (first | refine wpList_store_row rfl _ _ _ rfl _ #[.int .i64 c11.s, .slice c11.a c11.n c11.c, .int .i64 1, .slice c11.b c11.m c11.d, .int .i64 d11.s, .slice d11.a d11.n d11.c, .int .i64 1, .slice d11.b d11.m d11.d] rfl rfl _ _ (R11.out.box _ mq0) (by kernel_rfl) rfl (by simp [Value.oneCell']) ?_)
 refine bodyPost_ret (ret_row rfl _ _ _ _ rfl (run_loadVar_row _ _ _ _ _ (0, 0) _ (Q17.out.box _ mq0) Tryz.underlying28 rfl (by kernel_rfl))) rfl ⟨c11, d11, rfl, (Q17.out.fr mq0 mq1 EC11.out), (Q17.out.fr mq2 mq3 ED11.out), Q17.out.below, HO11.out⟩

set_option maxHeartbeats 8000000 in
theorem p10add_bad {w : World} {s1 t1 : Int} {a1 b1 : Option Addr} {n1 c1 m1 d1 : Nat} {l1 k1 : List Int} {s2 t2 : Int} {a2 b2 : Option Addr} {n2 c2 m2 d2 : Nat} {l2 k2 : List Int} {s3 t3 : Int} {a3 b3 : Option Addr} {n3 c3 m3 d3 : Nat} {l3 k3 : List Int} {s4 t4 : Int} {a4 b4 : Option Addr} {n4 c4 m4 d4 : Nat} {l4 k4 : List Int} (hl1 : Ints w (.slice a1 n1 c1) l1) (hk1 : Ints w (.slice b1 m1 d1) k1) (ll1 : l1.length ≤ 1000) (lk1 : k1.length ≤ 1000) (hl2 : Ints w (.slice a2 n2 c2) l2) (hk2 : Ints w (.slice b2 m2 d2) k2) (ll2 : l2.length ≤ 1000) (lk2 : k2.length ≤ 1000) (hl3 : Ints w (.slice a3 n3 c3) l3) (hk3 : Ints w (.slice b3 m3 d3) k3) (ll3 : l3.length ≤ 1000) (lk3 : k3.length ≤ 1000) (hl4 : Ints w (.slice a4 n4 c4) l4) (hk4 : Ints w (.slice b4 m4 d4) k4) (ll4 : l4.length ≤ 1000) (lk4 : k4.length ≤ 1000) (hr : (sR s1 l1 t1 k1 s2 l2 t2 k2 && sR s3 l3 t3 k3 s4 l4 t4 k4) = false) :
  Calls Tryz.prog 28 #[.agg #[.int .i64 s1, .slice a1 n1 c1, .int .i64 t1, .slice b1 m1 d1, .int .i64 s2, .slice a2 n2 c2, .int .i64 t2, .slice b2 m2 d2], .agg #[.int .i64 s3, .slice a3 n3 c3, .int .i64 t3, .slice b3 m3 d3, .int .i64 s4, .slice a4 n4 c4, .int .i64 t4, .slice b4 m4 d4]] w fun e w' => e = .returned (.tuple #[.agg #[.int .i64 0, .slice none 0 0, .int .i64 0, .slice none 0 0, .int .i64 0, .slice none 0 0, .int .i64 0, .slice none 0 0], .int .i64 1]) ∧ RowKit.Below w.heap.size w w' := by
 have LL1 := Lib.hid ll1
 have LK1 := Lib.hid lk1
 have LL2 := Lib.hid ll2
 have LK2 := Lib.hid lk2
 have LL3 := Lib.hid ll3
 have LK3 := Lib.hid lk3
 have LL4 := Lib.hid ll4
 have LK4 := Lib.hid lk4
 have EA := Lib.hid hr
 have s0 := ((((((((((((Sf.start w).arg hk1).arg hl1).arg hk2).arg hl2).arg hk3).arg hl3).arg hk4).arg hl4).put [.int .i64 s1, .slice a1 n1 c1, .int .i64 t1, .slice b1 m1 d1, .int .i64 s2, .slice a2 n2 c2, .int .i64 t2, .slice b2 m2 d2] 28).put [.int .i64 s3, .slice a3 n3 c3, .int .i64 t3, .slice b3 m3 d3, .int .i64 s4, .slice a4 n4 c4, .int .i64 t4, .slice b4 m4 d4] 28).put [.int .i64 0, .slice none 0 0, .int .i64 0, .slice none 0 0, .int .i64 0, .slice none 0 0, .int .i64 0, .slice none 0 0] 28)
 try simp only [World.size_alloc] at s0
 have S0 := Lib.hid s0
 clear s0
 clear hr hl1 hk1 ll1 lk1 hl2 hk2 ll2 lk2 hl3 hk3 ll3 lk3 hl4 hk4 ll4 lk4
 go_enter Tryz.func28, Tryz.ntmps28
 obtain ⟨q1, q2, q3, q4, q5, q6, q7, q8⟩ := Fb.cells8 (S0.out.box _ mq1)
 obtain ⟨q9, q10, q11, q12, q13, q14, q15, q16⟩ := Fb.cells8 (S0.out.box _ mq2)
 go_wp2_with fail
 clear q1 q2 q3 q4 q5 q6 q7 q8 q9 q10 q11 q12 q13 q14 q15 q16
 refine (p10rise_bad _ (S0.out.ints (.slice a1 n1 c1, l1) mq6) (S0.out.ints (.slice b1 m1 d1, k1) mq7) LL1.out LK1.out (S0.out.ints (.slice a2 n2 c2, l2) mq4) (S0.out.ints (.slice b2 m2 d2, k2) mq5) LL2.out LK2.out (S0.out.ints (.slice a3 n3 c3, l3) mq2) (S0.out.ints (.slice b3 m3 d3, k3) mq3) LL3.out LK3.out (S0.out.ints (.slice a4 n4 c4, l4) mq0) (S0.out.ints (.slice b4 m4 d4, k4) mq1) LL4.out LK4.out EA.out).mono ?_
 rintro e w1 ⟨rfl, hb⟩
 have R1 := Lib.hid (S0.out.later hb)
 clear hb
 have Q17 := Lib.hid (Sf.row (pre := []) R1.out [.int .i64 0, .slice none 0 0, .int .i64 0, .slice none 0 0, .int .i64 0, .slice none 0 0, .int .i64 0, .slice none 0 0])
 go_wp2_with (first | refine wpList_store_row rfl _ _ _ rfl _ #[.int .i64 0, .slice none 0 0, .int .i64 0, .slice none 0 0, .int .i64 0, .slice none 0 0, .int .i64 0, .slice none 0 0] rfl rfl _ _ (R1.out.box _ mq0) (by kernel_rfl) rfl (by simp [Value.oneCell']) ?_)
 refine bodyPost_ret (ret_row rfl _ _ _ _ rfl (run_loadVar_row _ _ _ _ _ (0, 0) _ (Q17.out.box _ mq0) Tryz.underlying28 rfl (by kernel_rfl))) rfl ⟨rfl, Q17.out.below⟩

set_option maxHeartbeats 8000000 in
theorem p10min {w : World} {s1 : Int} {a1 b1 : Option Addr} {n1 c1 m1 d1 : Nat} {x : Rat} {s2 : Int} {a2 b2 : Option Addr} {n2 c2 m2 d2 : Nat} {y : Rat} {s3 : Int} {a3 b3 : Option Addr} {n3 c3 m3 d3 : Nat} {p : Rat} {s4 : Int} {a4 b4 : Option Addr} {n4 c4 m4 d4 : Nat} {q : Rat} (h1 : Fr w s1 (.slice a1 n1 c1) (.slice b1 m1 d1) x) (z1 : FSz 400 x) (h2 : Fr w s2 (.slice a2 n2 c2) (.slice b2 m2 d2) y) (z2 : FSz 400 y) (h3 : Fr w s3 (.slice a3 n3 c3) (.slice b3 m3 d3) p) (z3 : FSz 400 p) (h4 : Fr w s4 (.slice a4 n4 c4) (.slice b4 m4 d4) q) (z4 : FSz 400 q) (hxy : x ≤ y) (hpq : p ≤ q) {r : Rat × Rat} (hr : minS (x, y) (p, q) = r) :
  Calls Tryz.prog 33 #[.agg #[.int .i64 s1, .slice a1 n1 c1, .int .i64 1, .slice b1 m1 d1, .int .i64 s2, .slice a2 n2 c2, .int .i64 1, .slice b2 m2 d2], .agg #[.int .i64 s3, .slice a3 n3 c3, .int .i64 1, .slice b3 m3 d3, .int .i64 s4, .slice a4 n4 c4, .int .i64 1, .slice b4 m4 d4]] w (SpP (fun v => .tuple #[v, .int .i64 0]) r w) := by
 have HL := Lib.hid hxy
 have HH := Lib.hid hpq
 have HR := Lib.hid hr
 have E1 := Lib.hid h1.1.1
 have Z1 := Lib.hid z1
 have E2 := Lib.hid h2.1.1
 have Z2 := Lib.hid z2
 have E3 := Lib.hid h3.1.1
 have Z3 := Lib.hid z3
 have E4 := Lib.hid h4.1.1
 have Z4 := Lib.hid z4
 have s0 := ((((((((((((Sf.start w).arg h1.2.2).arg h1.1.2).arg h2.2.2).arg h2.1.2).arg h3.2.2).arg h3.1.2).arg h4.2.2).arg h4.1.2).put [.int .i64 s1, .slice a1 n1 c1, .int .i64 1, .slice b1 m1 d1, .int .i64 s2, .slice a2 n2 c2, .int .i64 1, .slice b2 m2 d2] 28).put [.int .i64 s3, .slice a3 n3 c3, .int .i64 1, .slice b3 m3 d3, .int .i64 s4, .slice a4 n4 c4, .int .i64 1, .slice b4 m4 d4] 28).put [.int .i64 0, .slice none 0 0, .int .i64 0, .slice none 0 0, .int .i64 0, .slice none 0 0, .int .i64 0, .slice none 0 0] 28)
 try simp only [World.size_alloc] at s0
 have S0 := Lib.hid s0
 clear s0
 clear h1 h2 h3 h4 z1 z2 z3 z4 hxy hpq hr
 go_enter Tryz.func33, Tryz.ntmps33
 obtain ⟨q1, q2, q3, q4, q5, q6, q7, q8⟩ := Fb.cells8 (S0.out.box _ mq1)
 obtain ⟨q9, q10, q11, q12, q13, q14, q15, q16⟩ := Fb.cells8 (S0.out.box _ mq2)
 go_wp2_with fail
 clear q1 q2 q3 q4 q5 q6 q7 q8 q9 q10 q11 q12 q13 q14 q15 q16
 refine (p10rise_min (S0.out.fr mq6 mq7 E1.out) Z1.out (S0.out.fr mq4 mq5 E2.out) Z2.out (S0.out.fr mq2 mq3 E3.out) Z3.out (S0.out.fr mq0 mq1 E4.out) Z4.out HL.out HH.out HR.out).mono ?_
 rintro e w11 ⟨c11, d11, rfl, h1, h2, hb, ho⟩
 have EC11 := Lib.hid h1.1.1
 have ED11 := Lib.hid h2.1.1
 have R11 := Lib.hid (Sf.span S0.out hb h1 h2 (fun x hx => ho x.1 (S0.out.lt x hx)))
 have HO11 := Lib.hid (fun g (hg : g < w.heap.size) => ho g (Nat.lt_of_lt_of_le hg S0.out.below.size))
 clear h1 h2 hb ho
 have Q17 := Lib.hid (Sf.row (pre := []) R11.out [.int .i64 c11.s, .slice c11.a c11.n c11.c, .int .i64 1, .slice c11.b c11.m c11.d, .int .i64 d11.s, .slice d11.a d11.n d11.c, .int .i64 1, .slice d11.b d11.m d11.d])
 go_wp2_with (first | refine wpList_store_row rfl _ _ _ rfl _ #[.int .i64 c11.s, .slice c11.a c11.n c11.c, .int .i64 1, .slice c11.b c11.m c11.d, .int .i64 d11.s, .slice d11.a d11.n d11.c, .int .i64 1, .slice d11.b d11.m d11.d] rfl rfl _ _ (R11.out.box _ mq0) (by kernel_rfl) rfl (by simp [Value.oneCell']) ?_)
 refine bodyPost_ret (ret_row rfl _ _ _ _ rfl (run_loadVar_row _ _ _ _ _ (0, 0) _ (Q17.out.box _ mq0) Tryz.underlying28 rfl (by kernel_rfl))) rfl ⟨c11, d11, rfl, (Q17.out.fr mq0 mq1 EC11.out), (Q17.out.fr mq2 mq3 ED11.out), Q17.out.below, HO11.out⟩

set_option maxHeartbeats 8000000 in
theorem p10min_bad {w : World} {s1 t1 : Int} {a1 b1 : Option Addr} {n1 c1 m1 d1 : Nat} {l1 k1 : List Int} {s2 t2 : Int} {a2 b2 : Option Addr} {n2 c2 m2 d2 : Nat} {l2 k2 : List Int} {s3 t3 : Int} {a3 b3 : Option Addr} {n3 c3 m3 d3 : Nat} {l3 k3 : List Int} {s4 t4 : Int} {a4 b4 : Option Addr} {n4 c4 m4 d4 : Nat} {l4 k4 : List Int} (hl1 : Ints w (.slice a1 n1 c1) l1) (hk1 : Ints w (.slice b1 m1 d1) k1) (ll1 : l1.length ≤ 1000) (lk1 : k1.length ≤ 1000) (hl2 : Ints w (.slice a2 n2 c2) l2) (hk2 : Ints w (.slice b2 m2 d2) k2) (ll2 : l2.length ≤ 1000) (lk2 : k2.length ≤ 1000) (hl3 : Ints w (.slice a3 n3 c3) l3) (hk3 : Ints w (.slice b3 m3 d3) k3) (ll3 : l3.length ≤ 1000) (lk3 : k3.length ≤ 1000) (hl4 : Ints w (.slice a4 n4 c4) l4) (hk4 : Ints w (.slice b4 m4 d4) k4) (ll4 : l4.length ≤ 1000) (lk4 : k4.length ≤ 1000) (hr : (sR s1 l1 t1 k1 s2 l2 t2 k2 && sR s3 l3 t3 k3 s4 l4 t4 k4) = false) :
  Calls Tryz.prog 33 #[.agg #[.int .i64 s1, .slice a1 n1 c1, .int .i64 t1, .slice b1 m1 d1, .int .i64 s2, .slice a2 n2 c2, .int .i64 t2, .slice b2 m2 d2], .agg #[.int .i64 s3, .slice a3 n3 c3, .int .i64 t3, .slice b3 m3 d3, .int .i64 s4, .slice a4 n4 c4, .int .i64 t4, .slice b4 m4 d4]] w fun e w' => e = .returned (.tuple #[.agg #[.int .i64 0, .slice none 0 0, .int .i64 0, .slice none 0 0, .int .i64 0, .slice none 0 0, .int .i64 0, .slice none 0 0], .int .i64 1]) ∧ RowKit.Below w.heap.size w w' := by
 have LL1 := Lib.hid ll1
 have LK1 := Lib.hid lk1
 have LL2 := Lib.hid ll2
 have LK2 := Lib.hid lk2
 have LL3 := Lib.hid ll3
 have LK3 := Lib.hid lk3
 have LL4 := Lib.hid ll4
 have LK4 := Lib.hid lk4
 have EA := Lib.hid hr
 have s0 := ((((((((((((Sf.start w).arg hk1).arg hl1).arg hk2).arg hl2).arg hk3).arg hl3).arg hk4).arg hl4).put [.int .i64 s1, .slice a1 n1 c1, .int .i64 t1, .slice b1 m1 d1, .int .i64 s2, .slice a2 n2 c2, .int .i64 t2, .slice b2 m2 d2] 28).put [.int .i64 s3, .slice a3 n3 c3, .int .i64 t3, .slice b3 m3 d3, .int .i64 s4, .slice a4 n4 c4, .int .i64 t4, .slice b4 m4 d4] 28).put [.int .i64 0, .slice none 0 0, .int .i64 0, .slice none 0 0, .int .i64 0, .slice none 0 0, .int .i64 0, .slice none 0 0] 28)
 try simp only [World.size_alloc] at s0
 have S0 := Lib.hid s0
 clear s0
 clear hr hl1 hk1 ll1 lk1 hl2 hk2 ll2 lk2 hl3 hk3 ll3 lk3 hl4 hk4 ll4 lk4
 go_enter Tryz.func33, Tryz.ntmps33
 obtain ⟨q1, q2, q3, q4, q5, q6, q7, q8⟩ := Fb.cells8 (S0.out.box _ mq1)
 obtain ⟨q9, q10, q11, q12, q13, q14, q15, q16⟩ := Fb.cells8 (S0.out.box _ mq2)
 go_wp2_with fail
 clear q1 q2 q3 q4 q5 q6 q7 q8 q9 q10 q11 q12 q13 q14 q15 q16
 refine (p10rise_bad _ (S0.out.ints (.slice a1 n1 c1, l1) mq6) (S0.out.ints (.slice b1 m1 d1, k1) mq7) LL1.out LK1.out (S0.out.ints (.slice a2 n2 c2, l2) mq4) (S0.out.ints (.slice b2 m2 d2, k2) mq5) LL2.out LK2.out (S0.out.ints (.slice a3 n3 c3, l3) mq2) (S0.out.ints (.slice b3 m3 d3, k3) mq3) LL3.out LK3.out (S0.out.ints (.slice a4 n4 c4, l4) mq0) (S0.out.ints (.slice b4 m4 d4, k4) mq1) LL4.out LK4.out EA.out).mono ?_
 rintro e w1 ⟨rfl, hb⟩
 have R1 := Lib.hid (S0.out.later hb)
 clear hb
 have Q17 := Lib.hid (Sf.row (pre := []) R1.out [.int .i64 0, .slice none 0 0, .int .i64 0, .slice none 0 0, .int .i64 0, .slice none 0 0, .int .i64 0, .slice none 0 0])
 go_wp2_with (first | refine wpList_store_row rfl _ _ _ rfl _ #[.int .i64 0, .slice none 0 0, .int .i64 0, .slice none 0 0, .int .i64 0, .slice none 0 0, .int .i64 0, .slice none 0 0] rfl rfl _ _ (R1.out.box _ mq0) (by kernel_rfl) rfl (by simp [Value.oneCell']) ?_)
 refine bodyPost_ret (ret_row rfl _ _ _ _ rfl (run_loadVar_row _ _ _ _ _ (0, 0) _ (Q17.out.box _ mq0) Tryz.underlying28 rfl (by kernel_rfl))) rfl ⟨rfl, Q17.out.below⟩

set_option maxHeartbeats 8000000 in
theorem p10max {w : World} {s1 : Int} {a1 b1 : Option Addr} {n1 c1 m1 d1 : Nat} {x : Rat} {s2 : Int} {a2 b2 : Option Addr} {n2 c2 m2 d2 : Nat} {y : Rat} {s3 : Int} {a3 b3 : Option Addr} {n3 c3 m3 d3 : Nat} {p : Rat} {s4 : Int} {a4 b4 : Option Addr} {n4 c4 m4 d4 : Nat} {q : Rat} (h1 : Fr w s1 (.slice a1 n1 c1) (.slice b1 m1 d1) x) (z1 : FSz 400 x) (h2 : Fr w s2 (.slice a2 n2 c2) (.slice b2 m2 d2) y) (z2 : FSz 400 y) (h3 : Fr w s3 (.slice a3 n3 c3) (.slice b3 m3 d3) p) (z3 : FSz 400 p) (h4 : Fr w s4 (.slice a4 n4 c4) (.slice b4 m4 d4) q) (z4 : FSz 400 q) (hxy : x ≤ y) (hpq : p ≤ q) {r : Rat × Rat} (hr : maxS (x, y) (p, q) = r) :
  Calls Tryz.prog 34 #[.agg #[.int .i64 s1, .slice a1 n1 c1, .int .i64 1, .slice b1 m1 d1, .int .i64 s2, .slice a2 n2 c2, .int .i64 1, .slice b2 m2 d2], .agg #[.int .i64 s3, .slice a3 n3 c3, .int .i64 1, .slice b3 m3 d3, .int .i64 s4, .slice a4 n4 c4, .int .i64 1, .slice b4 m4 d4]] w (SpP (fun v => .tuple #[v, .int .i64 0]) r w) := by
 have HL := Lib.hid hxy
 have HH := Lib.hid hpq
 have HR := Lib.hid hr
 have E1 := Lib.hid h1.1.1
 have Z1 := Lib.hid z1
 have E2 := Lib.hid h2.1.1
 have Z2 := Lib.hid z2
 have E3 := Lib.hid h3.1.1
 have Z3 := Lib.hid z3
 have E4 := Lib.hid h4.1.1
 have Z4 := Lib.hid z4
 have s0 := ((((((((((((Sf.start w).arg h1.2.2).arg h1.1.2).arg h2.2.2).arg h2.1.2).arg h3.2.2).arg h3.1.2).arg h4.2.2).arg h4.1.2).put [.int .i64 s1, .slice a1 n1 c1, .int .i64 1, .slice b1 m1 d1, .int .i64 s2, .slice a2 n2 c2, .int .i64 1, .slice b2 m2 d2] 28).put [.int .i64 s3, .slice a3 n3 c3, .int .i64 1, .slice b3 m3 d3, .int .i64 s4, .slice a4 n4 c4, .int .i64 1, .slice b4 m4 d4] 28).put [.int .i64 0, .slice none 0 0, .int .i64 0, .slice none 0 0, .int .i64 0, .slice none 0 0, .int .i64 0, .slice none 0 0] 28)
 try simp only [World.size_alloc] at s0
 have S0 := Lib.hid s0
 clear s0
 clear h1 h2 h3 h4 z1 z2 z3 z4 hxy hpq hr
 go_enter Tryz.func34, Tryz.ntmps34
 obtain ⟨q1, q2, q3, q4, q5, q6, q7, q8⟩ := Fb.cells8 (S0.out.box _ mq1)
 obtain ⟨q9, q10, q11, q12, q13, q14, q15, q16⟩ := Fb.cells8 (S0.out.box _ mq2)
 go_wp2_with fail
 clear q1 q2 q3 q4 q5 q6 q7 q8 q9 q10 q11 q12 q13 q14 q15 q16
 refine (p10rise_max (S0.out.fr mq6 mq7 E1.out) Z1.out (S0.out.fr mq4 mq5 E2.out) Z2.out (S0.out.fr mq2 mq3 E3.out) Z3.out (S0.out.fr mq0 mq1 E4.out) Z4.out HL.out HH.out HR.out).mono ?_
 rintro e w11 ⟨c11, d11, rfl, h1, h2, hb, ho⟩
 have EC11 := Lib.hid h1.1.1
 have ED11 := Lib.hid h2.1.1
 have R11 := Lib.hid (Sf.span S0.out hb h1 h2 (fun x hx => ho x.1 (S0.out.lt x hx)))
 have HO11 := Lib.hid (fun g (hg : g < w.heap.size) => ho g (Nat.lt_of_lt_of_le hg S0.out.below.size))
 clear h1 h2 hb ho
 have Q17 := Lib.hid (Sf.row (pre := []) R11.out [.int .i64 c11.s, .slice c11.a c11.n c11.c, .int .i64 1, .slice c11.b c11.m c11.d, .int .i64 d11.s, .slice d11.a d11.n d11.c, .int .i64 1, .slice d11.b d11.m d11.d])
 go_wp2_with (first | refine wpList_store_row rfl _ _ _ rfl _ #[.int .i64 c11.s, .slice c11.a c11.n c11.c, .int .i64 1, .slice c11.b c11.m c11.d, .int .i64 d11.s, .slice d11.a d11.n d11.c, .int .i64 1, .slice d11.b d11.m d11.d] rfl rfl _ _ (R11.out.box _ mq0) (by kernel_rfl) rfl (by simp [Value.oneCell']) ?_)
 refine bodyPost_ret (ret_row rfl _ _ _ _ rfl (run_loadVar_row _ _ _ _ _ (0, 0) _ (Q17.out.box _ mq0) Tryz.underlying28 rfl (by kernel_rfl))) rfl ⟨c11, d11, rfl, (Q17.out.fr mq0 mq1 EC11.out), (Q17.out.fr mq2 mq3 ED11.out), Q17.out.below, HO11.out⟩

set_option maxHeartbeats 8000000 in
theorem p10max_bad {w : World} {s1 t1 : Int} {a1 b1 : Option Addr} {n1 c1 m1 d1 : Nat} {l1 k1 : List Int} {s2 t2 : Int} {a2 b2 : Option Addr} {n2 c2 m2 d2 : Nat} {l2 k2 : List Int} {s3 t3 : Int} {a3 b3 : Option Addr} {n3 c3 m3 d3 : Nat} {l3 k3 : List Int} {s4 t4 : Int} {a4 b4 : Option Addr} {n4 c4 m4 d4 : Nat} {l4 k4 : List Int} (hl1 : Ints w (.slice a1 n1 c1) l1) (hk1 : Ints w (.slice b1 m1 d1) k1) (ll1 : l1.length ≤ 1000) (lk1 : k1.length ≤ 1000) (hl2 : Ints w (.slice a2 n2 c2) l2) (hk2 : Ints w (.slice b2 m2 d2) k2) (ll2 : l2.length ≤ 1000) (lk2 : k2.length ≤ 1000) (hl3 : Ints w (.slice a3 n3 c3) l3) (hk3 : Ints w (.slice b3 m3 d3) k3) (ll3 : l3.length ≤ 1000) (lk3 : k3.length ≤ 1000) (hl4 : Ints w (.slice a4 n4 c4) l4) (hk4 : Ints w (.slice b4 m4 d4) k4) (ll4 : l4.length ≤ 1000) (lk4 : k4.length ≤ 1000) (hr : (sR s1 l1 t1 k1 s2 l2 t2 k2 && sR s3 l3 t3 k3 s4 l4 t4 k4) = false) :
  Calls Tryz.prog 34 #[.agg #[.int .i64 s1, .slice a1 n1 c1, .int .i64 t1, .slice b1 m1 d1, .int .i64 s2, .slice a2 n2 c2, .int .i64 t2, .slice b2 m2 d2], .agg #[.int .i64 s3, .slice a3 n3 c3, .int .i64 t3, .slice b3 m3 d3, .int .i64 s4, .slice a4 n4 c4, .int .i64 t4, .slice b4 m4 d4]] w fun e w' => e = .returned (.tuple #[.agg #[.int .i64 0, .slice none 0 0, .int .i64 0, .slice none 0 0, .int .i64 0, .slice none 0 0, .int .i64 0, .slice none 0 0], .int .i64 1]) ∧ RowKit.Below w.heap.size w w' := by
 have LL1 := Lib.hid ll1
 have LK1 := Lib.hid lk1
 have LL2 := Lib.hid ll2
 have LK2 := Lib.hid lk2
 have LL3 := Lib.hid ll3
 have LK3 := Lib.hid lk3
 have LL4 := Lib.hid ll4
 have LK4 := Lib.hid lk4
 have EA := Lib.hid hr
 have s0 := ((((((((((((Sf.start w).arg hk1).arg hl1).arg hk2).arg hl2).arg hk3).arg hl3).arg hk4).arg hl4).put [.int .i64 s1, .slice a1 n1 c1, .int .i64 t1, .slice b1 m1 d1, .int .i64 s2, .slice a2 n2 c2, .int .i64 t2, .slice b2 m2 d2] 28).put [.int .i64 s3, .slice a3 n3 c3, .int .i64 t3, .slice b3 m3 d3, .int .i64 s4, .slice a4 n4 c4, .int .i64 t4, .slice b4 m4 d4] 28).put [.int .i64 0, .slice none 0 0, .int .i64 0, .slice none 0 0, .int .i64 0, .slice none 0 0, .int .i64 0, .slice none 0 0] 28)
 try simp only [World.size_alloc] at s0
 have S0 := Lib.hid s0
 clear s0
 clear hr hl1 hk1 ll1 lk1 hl2 hk2 ll2 lk2 hl3 hk3 ll3 lk3 hl4 hk4 ll4 lk4
 go_enter Tryz.func34, Tryz.ntmps34
 obtain ⟨q1, q2, q3, q4, q5, q6, q7, q8⟩ := Fb.cells8 (S0.out.box _ mq1)
 obtain ⟨q9, q10, q11, q12, q13, q14, q15, q16⟩ := Fb.cells8 (S0.out.box _ mq2)
 go_wp2_with fail
 clear q1 q2 q3 q4 q5 q6 q7 q8 q9 q10 q11 q12 q13 q14 q15 q16
 refine (p10rise_bad _ (S0.out.ints (.slice a1 n1 c1, l1) mq6) (S0.out.ints (.slice b1 m1 d1, k1) mq7) LL1.out LK1.out (S0.out.ints (.slice a2 n2 c2, l2) mq4) (S0.out.ints (.slice b2 m2 d2, k2) mq5) LL2.out LK2.out (S0.out.ints (.slice a3 n3 c3, l3) mq2) (S0.out.ints (.slice b3 m3 d3, k3) mq3) LL3.out LK3.out (S0.out.ints (.slice a4 n4 c4, l4) mq0) (S0.out.ints (.slice b4 m4 d4, k4) mq1) LL4.out LK4.out EA.out).mono ?_
 rintro e w1 ⟨rfl, hb⟩
 have R1 := Lib.hid (S0.out.later hb)
 clear hb
 have Q17 := Lib.hid (Sf.row (pre := []) R1.out [.int .i64 0, .slice none 0 0, .int .i64 0, .slice none 0 0, .int .i64 0, .slice none 0 0, .int .i64 0, .slice none 0 0])
 go_wp2_with (first | refine wpList_store_row rfl _ _ _ rfl _ #[.int .i64 0, .slice none 0 0, .int .i64 0, .slice none 0 0, .int .i64 0, .slice none 0 0, .int .i64 0, .slice none 0 0] rfl rfl _ _ (R1.out.box _ mq0) (by kernel_rfl) rfl (by simp [Value.oneCell']) ?_)
 refine bodyPost_ret (ret_row rfl _ _ _ _ rfl (run_loadVar_row _ _ _ _ _ (0, 0) _ (Q17.out.box _ mq0) Tryz.underlying28 rfl (by kernel_rfl))) rfl ⟨rfl, Q17.out.below⟩

set_option maxHeartbeats 8000000 in
theorem p10sub {w : World} {s1 : Int} {a1 b1 : Option Addr} {n1 c1 m1 d1 : Nat} {x : Rat} {s2 : Int} {a2 b2 : Option Addr} {n2 c2 m2 d2 : Nat} {y : Rat} {s3 : Int} {a3 b3 : Option Addr} {n3 c3 m3 d3 : Nat} {p : Rat} {s4 : Int} {a4 b4 : Option Addr} {n4 c4 m4 d4 : Nat} {q : Rat} (h1 : Fr w s1 (.slice a1 n1 c1) (.slice b1 m1 d1) x) (z1 : FSz 400 x) (h2 : Fr w s2 (.slice a2 n2 c2) (.slice b2 m2 d2) y) (z2 : FSz 400 y) (h3 : Fr w s3 (.slice a3 n3 c3) (.slice b3 m3 d3) p) (z3 : FSz 400 p) (h4 : Fr w s4 (.slice a4 n4 c4) (.slice b4 m4 d4) q) (z4 : FSz 400 q) (hxy : x ≤ y) (hpq : p ≤ q) {r : Rat × Rat} (hr : subS (x, y) (p, q) = r) :
  Calls Tryz.prog 30 #[.agg #[.int .i64 s1, .slice a1 n1 c1, .int .i64 1, .slice b1 m1 d1, .int .i64 s2, .slice a2 n2 c2, .int .i64 1, .slice b2 m2 d2], .agg #[.int .i64 s3, .slice a3 n3 c3, .int .i64 1, .slice b3 m3 d3, .int .i64 s4, .slice a4 n4 c4, .int .i64 1, .slice b4 m4 d4]] w (SpP (fun v => .tuple #[v, .int .i64 0]) r w) := by
 have HL := Lib.hid hxy
 have HH := Lib.hid hpq
 have HN := Lib.hid (Rat.neg_le_neg hpq)
 have HR : Hid (addS (x, y) (-q, -p) = r) := Lib.hid (by rw [← hr]; exact (sub_add_neg (x, y) (p, q)).symm)
 have E1 := Lib.hid h1.1.1
 have Z1 := Lib.hid z1
 have E2 := Lib.hid h2.1.1
 have Z2 := Lib.hid z2
 have E3 := Lib.hid h3.1.1
 have Z3 := Lib.hid z3
 have E4 := Lib.hid h4.1.1
 have Z4 := Lib.hid z4
 have s0 := ((((((((((((Sf.start w).arg h1.2.2).arg h1.1.2).arg h2.2.2).arg h2.1.2).arg h3.2.2).arg h3.1.2).arg h4.2.2).arg h4.1.2).put [.int .i64 s1, .slice a1 n1 c1, .int .i64 1, .slice b1 m1 d1, .int .i64 s2, .slice a2 n2 c2, .int .i64 1, .slice b2 m2 d2] 28).put [.int .i64 s3, .slice a3 n3 c3, .int .i64 1, .slice b3 m3 d3, .int .i64 s4, .slice a4 n4 c4, .int .i64 1, .slice b4 m4 d4] 28).put [.int .i64 0, .slice none 0 0, .int .i64 0, .slice none 0 0, .int .i64 0, .slice none 0 0, .int .i64 0, .slice none 0 0] 28)
 try simp only [World.size_alloc] at s0
 have S0 := Lib.hid s0
 clear s0
 clear h1 h2 h3 h4 z1 z2 z3 z4 hxy hpq hr
 go_enter Tryz.func30, Tryz.ntmps30
 go_wp2_with fail
 have K0 : ∀ W F cs, Sf w [(w.heap.size + 1 + 1, 28, cs), (w.heap.size + 1, 28, [.int .i64 s3, .slice a3 n3 c3, .int .i64 1, .slice b3 m3 d3, .int .i64 s4, .slice a4 n4 c4, .int .i64 1, .slice b4 m4 d4]), (w.heap.size, 28, [.int .i64 s1, .slice a1 n1 c1, .int .i64 1, .slice b1 m1 d1, .int .i64 s2, .slice a2 n2 c2, .int .i64 1, .slice b2 m2 d2])] F W → W.cell? ⟨w.heap.size + 1, 0, none⟩ = some (.int .i64 s3) ∧ W.cell? ⟨w.heap.size + 1, 1, none⟩ = some (.slice a3 n3 c3) ∧ W.cell? ⟨w.heap.size + 1, 2, none⟩ = some (.int .i64 1) ∧ W.cell? ⟨w.heap.size + 1, 3, none⟩ = some (.slice b3 m3 d3) ∧ W.cell? ⟨w.heap.size + 1, 4, none⟩ = some (.int .i64 s4) ∧ W.cell? ⟨w.heap.size + 1, 5, none⟩ = some (.slice a4 n4 c4) ∧ W.cell? ⟨w.heap.size + 1, 6, none⟩ = some (.int .i64 1) ∧ W.cell? ⟨w.heap.size + 1, 7, none⟩ = some (.slice b4 m4 d4) ∧ W.cell? ⟨w.heap.size, 0, none⟩ = some (.int .i64 s1) ∧ W.cell? ⟨w.heap.size, 1, none⟩ = some (.slice a1 n1 c1) ∧ W.cell? ⟨w.heap.size, 2, none⟩ = some (.int .i64 1) ∧ W.cell? ⟨w.heap.size, 3, none⟩ = some (.slice b1 m1 d1) ∧ W.cell? ⟨w.heap.size, 4, none⟩ = some (.int .i64 s2) ∧ W.cell? ⟨w.heap.size, 5, none⟩ = some (.slice a2 n2 c2) ∧ W.cell? ⟨w.heap.size, 6, none⟩ = some (.int .i64 1) ∧ W.cell? ⟨w.heap.size, 7, none⟩ = some (.slice b2 m2 d2) := fun W F cs h => ⟨(h.box _ mq1).cell 0, (h.box _ mq1).cell 1, (h.box _ mq1).cell 2, (h.box _ mq1).cell 3, (h.box _ mq1).cell 4, (h.box _ mq1).cell 5, (h.box _ mq1).cell 6, (h.box _ mq1).cell 7, (h.box _ mq2).cell 0, (h.box _ mq2).cell 1, (h.box _ mq2).cell 2, (h.box _ mq2).cell 3, (h.box _ mq2).cell 4, (h.box _ mq2).cell 5, (h.box _ mq2).cell 6, (h.box _ mq2).cell 7⟩
 have KK := Lib.hid K0
 clear K0
 have N0 := Lib.hid S0.out.drew
 clear S0
 have e0 := KK.out _ _ _ N0.out
 have C1 := Lib.hid (p10neg (N0.out.fr mq2 mq3 E3.out) Z3.out.mono (N0.out.fr mq0 mq1 E4.out) Z4.out.mono HH.out (r := (-q, -p)) rfl)
 go_region_held3 (fun W => W.cell? ⟨w.heap.size + 1, 0, none⟩ = some (.int .i64 s3) ∧ W.cell? ⟨w.heap.size + 1, 1, none⟩ = some (.slice a3 n3 c3) ∧ W.cell? ⟨w.heap.size + 1, 2, none⟩ = some (.int .i64 1) ∧ W.cell? ⟨w.heap.size + 1, 3, none⟩ = some (.slice b3 m3 d3) ∧ W.cell? ⟨w.heap.size + 1, 4, none⟩ = some (.int .i64 s4) ∧ W.cell? ⟨w.heap.size + 1, 5, none⟩ = some (.slice a4 n4 c4) ∧ W.cell? ⟨w.heap.size + 1, 6, none⟩ = some (.int .i64 1) ∧ W.cell? ⟨w.heap.size + 1, 7, none⟩ = some (.slice b4 m4 d4) ∧ W.cell? ⟨w.heap.size, 0, none⟩ = some (.int .i64 s1) ∧ W.cell? ⟨w.heap.size, 1, none⟩ = some (.slice a1 n1 c1) ∧ W.cell? ⟨w.heap.size, 2, none⟩ = some (.int .i64 1) ∧ W.cell? ⟨w.heap.size, 3, none⟩ = some (.slice b1 m1 d1) ∧ W.cell? ⟨w.heap.size, 4, none⟩ = some (.int .i64 s2) ∧ W.cell? ⟨w.heap.size, 5, none⟩ = some (.slice a2 n2 c2) ∧ W.cell? ⟨w.heap.size, 6, none⟩ = some (.int .i64 1) ∧ W.cell? ⟨w.heap.size, 7, none⟩ = some (.slice b2 m2 d2))
  (first | (with_reducible exact e0) | (with_reducible exact e1) | (with_reducible exact e2) | (with_reducible exact e3) | go_keep)
  (((first | go_at_call 26 | go_at_call 28 | (rw [if_pos (by rfl)]; go_simp) | skip); (first
    | (have hG := N1; clear hG; go_at_call 28; (with_reducible refine (C2.out).mono ?_); rintro e y2 ⟨cz, dz, rfl, h1, h2, hb, ho⟩; have EU := Lib.hid h1.1.1; have EV := Lib.hid h2.1.1; have HO := Lib.hid (fun g (hg : g < w.heap.size) => ho g (Nat.lt_of_lt_of_le hg N1.out.below.size)); have N2 := Lib.hid (Sf.span N1.out hb h1 h2 (fun x hx => ho x.1 (N1.out.lt x hx))); clear h1 h2 hb ho; have e2 := KK.out _ _ _ N2.out; obtain ⟨t0, t1, t2, t3, t4, t5, t6, t7⟩ := Fb.cells8 (N2.out.box _ mq0); have u0 := (N2.out.box _ mq0).free 0; have u1 := (N2.out.box _ mq0).free 1; have u2 := (N2.out.box _ mq0).free 2; have u3 := (N2.out.box _ mq0).free 3; have u4 := (N2.out.box _ mq0).free 4; have u5 := (N2.out.box _ mq0).free 5; have u6 := (N2.out.box _ mq0).free 6; have u7 := (N2.out.box _ mq0).free 7; have N3 := Lib.hid (Sf.set8 (pre := []) N2.out (.int .i64 cz.s) (.slice cz.a cz.n cz.c) (.int .i64 1) (.slice cz.b cz.m cz.d) (.int .i64 dz.s) (.slice dz.a dz.n dz.c) (.int .i64 1) (.slice dz.b dz.m dz.d)); have e3 := KK.out _ _ _ N3.out)
    | (have hG := N0; clear hG; go_at_call 26; (with_reducible refine (C1.out).mono ?_); rintro e y1 ⟨cy, dy, rfl, h1, h2, hb, ho⟩; have EC := Lib.hid h1.1.1; have ED := Lib.hid h2.1.1; have N1 := Lib.hid (Sf.span N0.out hb h1 h2 (fun x hx => ho x.1 (N0.out.lt x hx))); clear h1 h2 hb ho; have e1 := KK.out _ _ _ N1.out; have C2 := Lib.hid (p10add (N1.out.fr mq10 mq11 E1.out) Z1.out (N1.out.fr mq8 mq9 E2.out) Z2.out (N1.out.fr mq0 mq1 EC.out) (FSz.neg Z4.out) (N1.out.fr mq2 mq3 ED.out) (FSz.neg Z3.out) HL.out HN.out HR.out))); (try dsimp only)))
 all_goals (go_wp2_with fail; refine bodyPost_ret (ret_row rfl _ _ _ _ rfl (run_loadVar_row _ _ _ _ _ (0, 0) _ (N3.out.box _ mq0) Tryz.underlying28 rfl (by kernel_rfl))) rfl ⟨cz, dz, rfl, (N3.out.fr mq0 mq1 EU.out), (N3.out.fr mq2 mq3 EV.out), N3.out.below, HO.out⟩)

set_option maxHeartbeats 8000000 in
theorem p10sub_bad {w : World} {s1 t1 : Int} {a1 b1 : Option Addr} {n1 c1 m1 d1 : Nat} {l1 k1 : List Int} {s2 t2 : Int} {a2 b2 : Option Addr} {n2 c2 m2 d2 : Nat} {l2 k2 : List Int} {s3 t3 : Int} {a3 b3 : Option Addr} {n3 c3 m3 d3 : Nat} {l3 k3 : List Int} {s4 t4 : Int} {a4 b4 : Option Addr} {n4 c4 m4 d4 : Nat} {l4 k4 : List Int} (hl1 : Ints w (.slice a1 n1 c1) l1) (hk1 : Ints w (.slice b1 m1 d1) k1) (ll1 : l1.length ≤ 1000) (lk1 : k1.length ≤ 1000) (hl2 : Ints w (.slice a2 n2 c2) l2) (hk2 : Ints w (.slice b2 m2 d2) k2) (ll2 : l2.length ≤ 1000) (lk2 : k2.length ≤ 1000) (hl3 : Ints w (.slice a3 n3 c3) l3) (hk3 : Ints w (.slice b3 m3 d3) k3) (ll3 : l3.length ≤ 1000) (lk3 : k3.length ≤ 1000) (hl4 : Ints w (.slice a4 n4 c4) l4) (hk4 : Ints w (.slice b4 m4 d4) k4) (ll4 : l4.length ≤ 1000) (lk4 : k4.length ≤ 1000) (hr : (sR s1 l1 t1 k1 s2 l2 t2 k2 && sR s3 l3 t3 k3 s4 l4 t4 k4) = false) :
  Calls Tryz.prog 30 #[.agg #[.int .i64 s1, .slice a1 n1 c1, .int .i64 t1, .slice b1 m1 d1, .int .i64 s2, .slice a2 n2 c2, .int .i64 t2, .slice b2 m2 d2], .agg #[.int .i64 s3, .slice a3 n3 c3, .int .i64 t3, .slice b3 m3 d3, .int .i64 s4, .slice a4 n4 c4, .int .i64 t4, .slice b4 m4 d4]] w fun e w' => e = .returned (.tuple #[.agg #[.int .i64 0, .slice none 0 0, .int .i64 0, .slice none 0 0, .int .i64 0, .slice none 0 0, .int .i64 0, .slice none 0 0], .int .i64 1]) ∧ RowKit.Below w.heap.size w w' := by
 rcases eb : sR s3 l3 t3 k3 s4 l4 t4 k4 with _ | _
 ·skip
  have LL1 := Lib.hid ll1
  have LK1 := Lib.hid lk1
  have LL2 := Lib.hid ll2
  have LK2 := Lib.hid lk2
  have LL3 := Lib.hid ll3
  have LK3 := Lib.hid lk3
  have LL4 := Lib.hid ll4
  have LK4 := Lib.hid lk4
  have EB := Lib.hid eb
  have s0 := ((((((((((((Sf.start w).arg hk1).arg hl1).arg hk2).arg hl2).arg hk3).arg hl3).arg hk4).arg hl4).put [.int .i64 s1, .slice a1 n1 c1, .int .i64 t1, .slice b1 m1 d1, .int .i64 s2, .slice a2 n2 c2, .int .i64 t2, .slice b2 m2 d2] 28).put [.int .i64 s3, .slice a3 n3 c3, .int .i64 t3, .slice b3 m3 d3, .int .i64 s4, .slice a4 n4 c4, .int .i64 t4, .slice b4 m4 d4] 28).put [.int .i64 0, .slice none 0 0, .int .i64 0, .slice none 0 0, .int .i64 0, .slice none 0 0, .int .i64 0, .slice none 0 0] 28)
  try simp only [World.size_alloc] at s0
  have S0 := Lib.hid s0
  clear s0
  clear hr hl1 hk1 ll1 lk1 hl2 hk2 ll2 lk2 hl3 hk3 ll3 lk3 hl4 hk4 ll4 lk4 eb
  go_enter Tryz.func30, Tryz.ntmps30
  go_wp2_with fail
  have K0 : ∀ W F cs, Sf w [(w.heap.size + 1 + 1, 28, cs), (w.heap.size + 1, 28, [.int .i64 s3, .slice a3 n3 c3, .int .i64 t3, .slice b3 m3 d3, .int .i64 s4, .slice a4 n4 c4, .int .i64 t4, .slice b4 m4 d4]), (w.heap.size, 28, [.int .i64 s1, .slice a1 n1 c1, .int .i64 t1, .slice b1 m1 d1, .int .i64 s2, .slice a2 n2 c2, .int .i64 t2, .slice b2 m2 d2])] F W → W.cell? ⟨w.heap.size + 1, 0, none⟩ = some (.int .i64 s3) ∧ W.cell? ⟨w.heap.size + 1, 1, none⟩ = some (.slice a3 n3 c3) ∧ W.cell? ⟨w.heap.size + 1, 2, none⟩ = some (.int .i64 t3) ∧ W.cell? ⟨w.heap.size + 1, 3, none⟩ = some (.slice b3 m3 d3) ∧ W.cell? ⟨w.heap.size + 1, 4, none⟩ = some (.int .i64 s4) ∧ W.cell? ⟨w.heap.size + 1, 5, none⟩ = some (.slice a4 n4 c4) ∧ W.cell? ⟨w.heap.size + 1, 6, none⟩ = some (.int .i64 t4) ∧ W.cell? ⟨w.heap.size + 1, 7, none⟩ = some (.slice b4 m4 d4) ∧ W.cell? ⟨w.heap.size, 0, none⟩ = some (.int .i64 s1) ∧ W.cell? ⟨w.heap.size, 1, none⟩ = some (.slice a1 n1 c1) ∧ W.cell? ⟨w.heap.size, 2, none⟩ = some (.int .i64 t1) ∧ W.cell? ⟨w.heap.size, 3, none⟩ = some (.slice b1 m1 d1) ∧ W.cell? ⟨w.heap.size, 4, none⟩ = some (.int .i64 s2) ∧ W.cell? ⟨w.heap.size, 5, none⟩ = some (.slice a2 n2 c2) ∧ W.cell? ⟨w.heap.size, 6, none⟩ = some (.int .i64 t2) ∧ W.cell? ⟨w.heap.size, 7, none⟩ = some (.slice b2 m2 d2) := fun W F cs h => ⟨(h.box _ mq1).cell 0, (h.box _ mq1).cell 1, (h.box _ mq1).cell 2, (h.box _ mq1).cell 3, (h.box _ mq1).cell 4, (h.box _ mq1).cell 5, (h.box _ mq1).cell 6, (h.box _ mq1).cell 7, (h.box _ mq2).cell 0, (h.box _ mq2).cell 1, (h.box _ mq2).cell 2, (h.box _ mq2).cell 3, (h.box _ mq2).cell 4, (h.box _ mq2).cell 5, (h.box _ mq2).cell 6, (h.box _ mq2).cell 7⟩
  have KK := Lib.hid K0
  clear K0
  have N0 := Lib.hid S0.out.drew
  clear S0
  have e0 := KK.out _ _ _ N0.out
  have C1 := Lib.hid (p10neg_bad (N0.out.ints (.slice a3 n3 c3, l3) mq2) (N0.out.ints (.slice b3 m3 d3, k3) mq3) LL3.out LK3.out (N0.out.ints (.slice a4 n4 c4, l4) mq0) (N0.out.ints (.slice b4 m4 d4, k4) mq1) LL4.out LK4.out EB.out)
  go_region_held3 (fun W => W.cell? ⟨w.heap.size + 1, 0, none⟩ = some (.int .i64 s3) ∧ W.cell? ⟨w.heap.size + 1, 1, none⟩ = some (.slice a3 n3 c3) ∧ W.cell? ⟨w.heap.size + 1, 2, none⟩ = some (.int .i64 t3) ∧ W.cell? ⟨w.heap.size + 1, 3, none⟩ = some (.slice b3 m3 d3) ∧ W.cell? ⟨w.heap.size + 1, 4, none⟩ = some (.int .i64 s4) ∧ W.cell? ⟨w.heap.size + 1, 5, none⟩ = some (.slice a4 n4 c4) ∧ W.cell? ⟨w.heap.size + 1, 6, none⟩ = some (.int .i64 t4) ∧ W.cell? ⟨w.heap.size + 1, 7, none⟩ = some (.slice b4 m4 d4) ∧ W.cell? ⟨w.heap.size, 0, none⟩ = some (.int .i64 s1) ∧ W.cell? ⟨w.heap.size, 1, none⟩ = some (.slice a1 n1 c1) ∧ W.cell? ⟨w.heap.size, 2, none⟩ = some (.int .i64 t1) ∧ W.cell? ⟨w.heap.size, 3, none⟩ = some (.slice b1 m1 d1) ∧ W.cell? ⟨w.heap.size, 4, none⟩ = some (.int .i64 s2) ∧ W.cell? ⟨w.heap.size, 5, none⟩ = some (.slice a2 n2 c2) ∧ W.cell? ⟨w.heap.size, 6, none⟩ = some (.int .i64 t2) ∧ W.cell? ⟨w.heap.size, 7, none⟩ = some (.slice b2 m2 d2))
   (first | (with_reducible exact e0) | (with_reducible exact e1) | (with_reducible exact e2) | (with_reducible exact e3) | go_keep)
   (((first | go_at_call 26 | go_at_call 28 | (rw [if_pos (by rfl)]; go_simp) | skip); (first
     | (have hG := N1; clear hG; go_at_call 28; (with_reducible refine (C2.out).mono ?_); rintro e y2 ⟨rfl, hb⟩; have N2 := Lib.hid (N1.out.later hb); clear hb; have e2 := KK.out _ _ _ N2.out; obtain ⟨t0, t1, t2, t3, t4, t5, t6, t7⟩ := Fb.cells8 (N2.out.box _ mq0); have u0 := (N2.out.box _ mq0).free 0; have u1 := (N2.out.box _ mq0).free 1; have u2 := (N2.out.box _ mq0).free 2; have u3 := (N2.out.box _ mq0).free 3; have u4 := (N2.out.box _ mq0).free 4; have u5 := (N2.out.box _ mq0).free 5; have u6 := (N2.out.box _ mq0).free 6; have u7 := (N2.out.box _ mq0).free 7; have N3 := Lib.hid (Sf.set8 (pre := []) N2.out (.int .i64 0) (.slice none 0 0) (.int .i64 0) (.slice none 0 0) (.int .i64 0) (.slice none 0 0) (.int .i64 0) (.slice none 0 0)); have e3 := KK.out _ _ _ N3.out)
     | (have hG := N0; clear hG; go_at_call 26; (with_reducible refine (C1.out).mono ?_); rintro e y1 ⟨rfl, hb⟩; have N1 := Lib.hid (N0.out.later hb); clear hb; have e1 := KK.out _ _ _ N1.out; have C2 := Lib.hid (p10add_bad (s1 := s1) (t1 := t1) (s2 := s2) (t2 := t2) (N1.out.ints (.slice a1 n1 c1, l1) mq6) (N1.out.ints (.slice b1 m1 d1, k1) mq7) LL1.out LK1.out (N1.out.ints (.slice a2 n2 c2, l2) mq4) (N1.out.ints (.slice b2 m2 d2, k2) mq5) LL2.out LK2.out (ints_none _) (ints_none _) none_len none_len (ints_none _) (ints_none _) none_len none_len (zero_bad _)))); (try dsimp only)))
  all_goals (go_wp2_with fail; refine bodyPost_ret (ret_row rfl _ _ _ _ rfl (run_loadVar_row _ _ _ _ _ (0, 0) _ (N3.out.box _ mq0) Tryz.underlying28 rfl (by kernel_rfl))) rfl ⟨rfl, N3.out.below⟩)
 ·have ea : sR s1 l1 t1 k1 s2 l2 t2 k2 = false := by rw [eb] at hr; simpa using hr
  obtain ⟨p, q, ⟨rfl, rfl, rfl, rfl⟩, ⟨rfl, rfl, rfl, rfl⟩, hpq⟩ := sR_good eb
  have HH := Lib.hid hpq
  have LL1 := Lib.hid ll1
  have LK1 := Lib.hid lk1
  have LL2 := Lib.hid ll2
  have LK2 := Lib.hid lk2
  have LL3 := Lib.hid ll3
  have LK3 := Lib.hid lk3
  have LL4 := Lib.hid ll4
  have LK4 := Lib.hid lk4
  have EA := Lib.hid ea
  have Z3 : Hid (FSz 1000 p) := Lib.hid ⟨Sz.of ll3, Sz.of lk3⟩
  have Z4 : Hid (FSz 1000 q) := Lib.hid ⟨Sz.of ll4, Sz.of lk4⟩
  have s0 := ((((((((((((Sf.start w).arg hk1).arg hl1).arg hk2).arg hl2).arg hk3).arg hl3).arg hk4).arg hl4).put [.int .i64 s1, .slice a1 n1 c1, .int .i64 t1, .slice b1 m1 d1, .int .i64 s2, .slice a2 n2 c2, .int .i64 t2, .slice b2 m2 d2] 28).put [.int .i64 (p).num.sign, .slice a3 n3 c3, .int .i64 1, .slice b3 m3 d3, .int .i64 (q).num.sign, .slice a4 n4 c4, .int .i64 1, .slice b4 m4 d4] 28).put [.int .i64 0, .slice none 0 0, .int .i64 0, .slice none 0 0, .int .i64 0, .slice none 0 0, .int .i64 0, .slice none 0 0] 28)
  try simp only [World.size_alloc] at s0
  have S0 := Lib.hid s0
  clear s0
  clear hr hl1 hk1 ll1 lk1 hl2 hk2 ll2 lk2 hl3 hk3 ll3 lk3 hl4 hk4 ll4 lk4 ea eb hpq
  go_enter Tryz.func30, Tryz.ntmps30
  go_wp2_with fail
  have K0 : ∀ W F cs, Sf w [(w.heap.size + 1 + 1, 28, cs), (w.heap.size + 1, 28, [.int .i64 (p).num.sign, .slice a3 n3 c3, .int .i64 1, .slice b3 m3 d3, .int .i64 (q).num.sign, .slice a4 n4 c4, .int .i64 1, .slice b4 m4 d4]), (w.heap.size, 28, [.int .i64 s1, .slice a1 n1 c1, .int .i64 t1, .slice b1 m1 d1, .int .i64 s2, .slice a2 n2 c2, .int .i64 t2, .slice b2 m2 d2])] F W → W.cell? ⟨w.heap.size + 1, 0, none⟩ = some (.int .i64 (p).num.sign) ∧ W.cell? ⟨w.heap.size + 1, 1, none⟩ = some (.slice a3 n3 c3) ∧ W.cell? ⟨w.heap.size + 1, 2, none⟩ = some (.int .i64 1) ∧ W.cell? ⟨w.heap.size + 1, 3, none⟩ = some (.slice b3 m3 d3) ∧ W.cell? ⟨w.heap.size + 1, 4, none⟩ = some (.int .i64 (q).num.sign) ∧ W.cell? ⟨w.heap.size + 1, 5, none⟩ = some (.slice a4 n4 c4) ∧ W.cell? ⟨w.heap.size + 1, 6, none⟩ = some (.int .i64 1) ∧ W.cell? ⟨w.heap.size + 1, 7, none⟩ = some (.slice b4 m4 d4) ∧ W.cell? ⟨w.heap.size, 0, none⟩ = some (.int .i64 s1) ∧ W.cell? ⟨w.heap.size, 1, none⟩ = some (.slice a1 n1 c1) ∧ W.cell? ⟨w.heap.size, 2, none⟩ = some (.int .i64 t1) ∧ W.cell? ⟨w.heap.size, 3, none⟩ = some (.slice b1 m1 d1) ∧ W.cell? ⟨w.heap.size, 4, none⟩ = some (.int .i64 s2) ∧ W.cell? ⟨w.heap.size, 5, none⟩ = some (.slice a2 n2 c2) ∧ W.cell? ⟨w.heap.size, 6, none⟩ = some (.int .i64 t2) ∧ W.cell? ⟨w.heap.size, 7, none⟩ = some (.slice b2 m2 d2) := fun W F cs h => ⟨(h.box _ mq1).cell 0, (h.box _ mq1).cell 1, (h.box _ mq1).cell 2, (h.box _ mq1).cell 3, (h.box _ mq1).cell 4, (h.box _ mq1).cell 5, (h.box _ mq1).cell 6, (h.box _ mq1).cell 7, (h.box _ mq2).cell 0, (h.box _ mq2).cell 1, (h.box _ mq2).cell 2, (h.box _ mq2).cell 3, (h.box _ mq2).cell 4, (h.box _ mq2).cell 5, (h.box _ mq2).cell 6, (h.box _ mq2).cell 7⟩
  have KK := Lib.hid K0
  clear K0
  have N0 := Lib.hid S0.out.drew
  clear S0
  have e0 := KK.out _ _ _ N0.out
  have C1 := Lib.hid (p10neg (N0.out.fr mq2 mq3 rfl) Z3.out (N0.out.fr mq0 mq1 rfl) Z4.out HH.out (r := (-q, -p)) rfl)
  go_region_held3 (fun W => W.cell? ⟨w.heap.size + 1, 0, none⟩ = some (.int .i64 (p).num.sign) ∧ W.cell? ⟨w.heap.size + 1, 1, none⟩ = some (.slice a3 n3 c3) ∧ W.cell? ⟨w.heap.size + 1, 2, none⟩ = some (.int .i64 1) ∧ W.cell? ⟨w.heap.size + 1, 3, none⟩ = some (.slice b3 m3 d3) ∧ W.cell? ⟨w.heap.size + 1, 4, none⟩ = some (.int .i64 (q).num.sign) ∧ W.cell? ⟨w.heap.size + 1, 5, none⟩ = some (.slice a4 n4 c4) ∧ W.cell? ⟨w.heap.size + 1, 6, none⟩ = some (.int .i64 1) ∧ W.cell? ⟨w.heap.size + 1, 7, none⟩ = some (.slice b4 m4 d4) ∧ W.cell? ⟨w.heap.size, 0, none⟩ = some (.int .i64 s1) ∧ W.cell? ⟨w.heap.size, 1, none⟩ = some (.slice a1 n1 c1) ∧ W.cell? ⟨w.heap.size, 2, none⟩ = some (.int .i64 t1) ∧ W.cell? ⟨w.heap.size, 3, none⟩ = some (.slice b1 m1 d1) ∧ W.cell? ⟨w.heap.size, 4, none⟩ = some (.int .i64 s2) ∧ W.cell? ⟨w.heap.size, 5, none⟩ = some (.slice a2 n2 c2) ∧ W.cell? ⟨w.heap.size, 6, none⟩ = some (.int .i64 t2) ∧ W.cell? ⟨w.heap.size, 7, none⟩ = some (.slice b2 m2 d2))
   (first | (with_reducible exact e0) | (with_reducible exact e1) | (with_reducible exact e2) | (with_reducible exact e3) | go_keep)
   (((first | go_at_call 26 | go_at_call 28 | (rw [if_pos (by rfl)]; go_simp) | skip); (first
     | (have hG := N1; clear hG; go_at_call 28; (with_reducible refine (C2.out).mono ?_); rintro e y2 ⟨rfl, hb⟩; have N2 := Lib.hid (N1.out.later hb); clear hb; have e2 := KK.out _ _ _ N2.out; obtain ⟨t0, t1, t2, t3, t4, t5, t6, t7⟩ := Fb.cells8 (N2.out.box _ mq0); have u0 := (N2.out.box _ mq0).free 0; have u1 := (N2.out.box _ mq0).free 1; have u2 := (N2.out.box _ mq0).free 2; have u3 := (N2.out.box _ mq0).free 3; have u4 := (N2.out.box _ mq0).free 4; have u5 := (N2.out.box _ mq0).free 5; have u6 := (N2.out.box _ mq0).free 6; have u7 := (N2.out.box _ mq0).free 7; have N3 := Lib.hid (Sf.set8 (pre := []) N2.out (.int .i64 0) (.slice none 0 0) (.int .i64 0) (.slice none 0 0) (.int .i64 0) (.slice none 0 0) (.int .i64 0) (.slice none 0 0)); have e3 := KK.out _ _ _ N3.out)
     | (have hG := N0; clear hG; go_at_call 26; (with_reducible refine (C1.out).mono ?_); rintro e y1 ⟨cy, dy, rfl, h1, h2, hb, ho⟩; have N1 := Lib.hid (Sf.span N0.out hb h1 h2 (fun x hx => ho x.1 (N0.out.lt x hx))); clear h1 h2 hb ho; have e1 := KK.out _ _ _ N1.out; have C2 := Lib.hid (p10add_bad (s1 := s1) (t1 := t1) (s2 := s2) (t2 := t2) (s3 := cy.s) (t3 := 1) (s4 := dy.s) (t4 := 1) (N1.out.ints (.slice a1 n1 c1, l1) mq10) (N1.out.ints (.slice b1 m1 d1, k1) mq11) LL1.out LK1.out (N1.out.ints (.slice a2 n2 c2, l2) mq8) (N1.out.ints (.slice b2 m2 d2, k2) mq9) LL2.out LK2.out (N1.out.ints (.slice cy.a cy.n cy.c, digs (-q).num.natAbs) mq0) (N1.out.ints (.slice cy.b cy.m cy.d, digs (((-q).den : Int)).natAbs) mq1) (digs_le (FSz.neg Z4.out).1) (digs_le (FSz.neg Z4.out).2) (N1.out.ints (.slice dy.a dy.n dy.c, digs (-p).num.natAbs) mq2) (N1.out.ints (.slice dy.b dy.m dy.d, digs (((-p).den : Int)).natAbs) mq3) (digs_le (FSz.neg Z3.out).1) (digs_le (FSz.neg Z3.out).2) (left_bad EA.out)))); (try dsimp only)))
  all_goals (go_wp2_with fail; refine bodyPost_ret (ret_row rfl _ _ _ _ rfl (run_loadVar_row _ _ _ _ _ (0, 0) _ (N3.out.box _ mq0) Tryz.underlying28 rfl (by kernel_rfl))) rfl ⟨rfl, N3.out.below⟩)
end Go.Proofs.YtgncnkojpedmdaaGreat.Sp
