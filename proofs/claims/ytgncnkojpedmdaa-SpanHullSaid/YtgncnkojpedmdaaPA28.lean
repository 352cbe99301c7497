/- play of the laws: each operation, at any arguments. Operations on spans by number: sizes, order, commutative and associative ones; turns of the laws. calc of the laws. -/
import Derived.Test.YtgncnkojpedmdaaPA27
set_option maxRecDepth 100000
namespace Go.Proofs.Ytgncnkojpedmdaa.Sp
open Go.RowKit Bi

set_option maxHeartbeats 8000000 in
theorem play_add {w : World} {s1 : Int} {a1 b1 : Option Addr} {n1 c1 m1 d1 : Nat} {x : Rat} {s2 : Int} {a2 b2 : Option Addr} {n2 c2 m2 d2 : Nat} {y : Rat} {s3 : Int} {a3 b3 : Option Addr} {n3 c3 m3 d3 : Nat} {p : Rat} {s4 : Int} {a4 b4 : Option Addr} {n4 c4 m4 d4 : Nat} {q : Rat} (h1 : Fr w s1 (.slice a1 n1 c1) (.slice b1 m1 d1) x) (z1 : FSz 400 x) (h2 : Fr w s2 (.slice a2 n2 c2) (.slice b2 m2 d2) y) (z2 : FSz 400 y) (h3 : Fr w s3 (.slice a3 n3 c3) (.slice b3 m3 d3) p) (z3 : FSz 400 p) (h4 : Fr w s4 (.slice a4 n4 c4) (.slice b4 m4 d4) q) (z4 : FSz 400 q) (hxy : x ≤ y) (hpq : p ≤ q) {r : Rat × Rat} (hr : conS (opF 0) (x, y) (p, q) = r) :
    Calls Try.prog 12 #[.int .i64 0, .agg #[.int .i64 s1, .slice a1 n1 c1, .int .i64 1, .slice b1 m1 d1, .int .i64 s2, .slice a2 n2 c2, .int .i64 1, .slice b2 m2 d2], .agg #[.int .i64 s3, .slice a3 n3 c3, .int .i64 1, .slice b3 m3 d3, .int .i64 s4, .slice a4 n4 c4, .int .i64 1, .slice b4 m4 d4]] w (SpP (fun v => .tuple #[v, .int .i64 0]) r w) := by
  have HL := Lib.hid hxy
  have HH := Lib.hid hpq
  have HR := Lib.hid ((con_add (a := (x, y)) (b := (p, q)) hxy hpq).symm.trans hr)
  have E1 := Lib.hid h1.1.1
  have Y1 := Lib.hid z1
  have E2 := Lib.hid h2.1.1
  have Y2 := Lib.hid z2
  have E3 := Lib.hid h3.1.1
  have Y3 := Lib.hid z3
  have E4 := Lib.hid h4.1.1
  have Y4 := Lib.hid z4
  have s0 := ((((((((((((Sf.start w).arg h1.2.2).arg h1.1.2).arg h2.2.2).arg h2.1.2).arg h3.2.2).arg h3.1.2).arg h4.2.2).arg h4.1.2).put [.int .i64 s1, .slice a1 n1 c1, .int .i64 1, .slice b1 m1 d1, .int .i64 s2, .slice a2 n2 c2, .int .i64 1, .slice b2 m2 d2] 28).put [.int .i64 s3, .slice a3 n3 c3, .int .i64 1, .slice b3 m3 d3, .int .i64 s4, .slice a4 n4 c4, .int .i64 1, .slice b4 m4 d4] 28).put [.int .i64 0, .slice none 0 0, .int .i64 0, .slice none 0 0, .int .i64 0, .slice none 0 0, .int .i64 0, .slice none 0 0] 28)
  try simp only [World.size_alloc] at s0
  have S0 := Lib.hid s0
  clear s0
  clear h1 h2 h3 h4 z1 z2 z3 z4 hxy hpq hr
  go_enter Try.func12, Try.ntmps12
  obtain ⟨q1, q2, q3, q4, q5, q6, q7, q8⟩ := Fb.cells8 (S0.out.box (w.heap.size + 1, 28, [.int .i64 s3, .slice a3 n3 c3, .int .i64 1, .slice b3 m3 d3, .int .i64 s4, .slice a4 n4 c4, .int .i64 1, .slice b4 m4 d4]) mq1)
  obtain ⟨q9, q10, q11, q12, q13, q14, q15, q16⟩ := Fb.cells8 (S0.out.box (w.heap.size, 28, [.int .i64 s1, .slice a1 n1 c1, .int .i64 1, .slice b1 m1 d1, .int .i64 s2, .slice a2 n2 c2, .int .i64 1, .slice b2 m2 d2]) mq2)
  go_wp2_with fail
  clear q1 q2 q3 q4 q5 q6 q7 q8 q9 q10 q11 q12 q13 q14 q15 q16
  refine (p10add (S0.out.fr (v := .slice a1 n1 c1) (u := .slice b1 m1 d1) (r := x) mq6 mq7 E1.out) Y1.out (S0.out.fr (v := .slice a2 n2 c2) (u := .slice b2 m2 d2) (r := y) mq4 mq5 E2.out) Y2.out (S0.out.fr (v := .slice a3 n3 c3) (u := .slice b3 m3 d3) (r := p) mq2 mq3 E3.out) Y3.out (S0.out.fr (v := .slice a4 n4 c4) (u := .slice b4 m4 d4) (r := q) mq0 mq1 E4.out) Y4.out HL.out HH.out HR.out).mono ?_
  rintro e w11 ⟨c11, d11, rfl, h1, h2, hb, ho⟩
  have EC11 := Lib.hid h1.1.1
  have ED11 := Lib.hid h2.1.1
  have R11 := Lib.hid (Sf.span S0.out hb h1 h2 (fun x hx => ho x.1 (S0.out.lt x hx)))
  have HO11 := Lib.hid (fun g (hg : g < w.heap.size) => ho g (Nat.lt_of_lt_of_le hg S0.out.below.size))
  clear h1 h2 hb ho
  have P17 := Lib.hid (R11.out.put [.int .i64 0, .slice none 0 0, .int .i64 0, .slice none 0 0, .int .i64 0, .slice none 0 0, .int .i64 0, .slice none 0 0] 28)
  have Q17 := Lib.hid (Sf.row (pre := []) P17.out [.int .i64 c11.s, .slice c11.a c11.n c11.c, .int .i64 1, .slice c11.b c11.m c11.d, .int .i64 d11.s, .slice d11.a d11.n d11.c, .int .i64 1, .slice d11.b d11.m d11.d])
  obtain ⟨V17, hV17⟩ : ∃ V, ((w11.alloc (.cells #[.int .i64 0, .slice none 0 0, .int .i64 0, .slice none 0 0, .int .i64 0, .slice none 0 0, .int .i64 0, .slice none 0 0] 28)).setRow w11.heap.size #[.int .i64 c11.s, .slice c11.a c11.n c11.c, .int .i64 1, .slice c11.b c11.m c11.d, .int .i64 d11.s, .slice d11.a d11.n d11.c, .int .i64 1, .slice d11.b d11.m d11.d]) = V := ⟨_, rfl⟩
  rw [hV17] at Q17
  have HV17 := Lib.hid hV17
  clear hV17 R11
  obtain ⟨q18, q19, q20, q21, q22, q23, q24, q25⟩ := Fb.cells8 (Q17.out.box (w11.heap.size, 28, [.int .i64 c11.s, .slice c11.a c11.n c11.c, .int .i64 1, .slice c11.b c11.m c11.d, .int .i64 d11.s, .slice d11.a d11.n d11.c, .int .i64 1, .slice d11.b d11.m d11.d]) mq0)
  have Q26 := Lib.hid (Sf.row (pre := [(w11.heap.size, 28, [.int .i64 c11.s, .slice c11.a c11.n c11.c, .int .i64 1, .slice c11.b c11.m c11.d, .int .i64 d11.s, .slice d11.a d11.n d11.c, .int .i64 1, .slice d11.b d11.m d11.d])]) Q17.out [.int .i64 c11.s, .slice c11.a c11.n c11.c, .int .i64 1, .slice c11.b c11.m c11.d, .int .i64 d11.s, .slice d11.a d11.n d11.c, .int .i64 1, .slice d11.b d11.m d11.d])
  go_wp2_with (first | (refine wpList_store_row rfl _ _ _ rfl _ #[.int .i64 c11.s, .slice c11.a c11.n c11.c, .int .i64 1, .slice c11.b c11.m c11.d, .int .i64 d11.s, .slice d11.a d11.n d11.c, .int .i64 1, .slice d11.b d11.m d11.d] rfl rfl _ _ (P17.out.box _ List.mem_cons_self) (by kernel_rfl) rfl (by simp [Value.oneCell']) ?_; rw [HV17.out]) | refine wpList_store_row rfl _ _ _ rfl _ #[.int .i64 c11.s, .slice c11.a c11.n c11.c, .int .i64 1, .slice c11.b c11.m c11.d, .int .i64 d11.s, .slice d11.a d11.n d11.c, .int .i64 1, .slice d11.b d11.m d11.d] rfl rfl _ _ (Q17.out.box _ mq1) (by kernel_rfl) rfl (by simp [Value.oneCell']) ?_)
  clear q18 q19 q20 q21 q22 q23 q24 q25
  refine bodyPost_ret (ret_row rfl _ _ _ _ rfl (run_loadVar_row _ _ _ _ _ (0, 0) _ (Q26.out.box _ mq1) Try.underlying28 rfl (by kernel_rfl))) rfl ⟨c11, d11, rfl, (Q26.out.fr (v := .slice c11.a c11.n c11.c) (u := .slice c11.b c11.m c11.d) (r := r.1) mq0 mq1 EC11.out), (Q26.out.fr (v := .slice d11.a d11.n d11.c) (u := .slice d11.b d11.m d11.d) (r := r.2) mq2 mq3 ED11.out), Q26.out.below, HO11.out⟩

set_option maxHeartbeats 8000000 in
theorem play_sub {w : World} {s1 : Int} {a1 b1 : Option Addr} {n1 c1 m1 d1 : Nat} {x : Rat} {s2 : Int} {a2 b2 : Option Addr} {n2 c2 m2 d2 : Nat} {y : Rat} {s3 : Int} {a3 b3 : Option Addr} {n3 c3 m3 d3 : Nat} {p : Rat} {s4 : Int} {a4 b4 : Option Addr} {n4 c4 m4 d4 : Nat} {q : Rat} (h1 : Fr w s1 (.slice a1 n1 c1) (.slice b1 m1 d1) x) (z1 : FSz 400 x) (h2 : Fr w s2 (.slice a2 n2 c2) (.slice b2 m2 d2) y) (z2 : FSz 400 y) (h3 : Fr w s3 (.slice a3 n3 c3) (.slice b3 m3 d3) p) (z3 : FSz 400 p) (h4 : Fr w s4 (.slice a4 n4 c4) (.slice b4 m4 d4) q) (z4 : FSz 400 q) (hxy : x ≤ y) (hpq : p ≤ q) {r : Rat × Rat} (hr : conS (opF 1) (x, y) (p, q) = r) :
    Calls Try.prog 12 #[.int .i64 1, .agg #[.int .i64 s1, .slice a1 n1 c1, .int .i64 1, .slice b1 m1 d1, .int .i64 s2, .slice a2 n2 c2, .int .i64 1, .slice b2 m2 d2], .agg #[.int .i64 s3, .slice a3 n3 c3, .int .i64 1, .slice b3 m3 d3, .int .i64 s4, .slice a4 n4 c4, .int .i64 1, .slice b4 m4 d4]] w (SpP (fun v => .tuple #[v, .int .i64 0]) r w) := by
  have HL := Lib.hid hxy
  have HH := Lib.hid hpq
  have HR := Lib.hid ((con_sub (a := (x, y)) (b := (p, q)) hxy hpq).symm.trans hr)
  have E1 := Lib.hid h1.1.1
  have Y1 := Lib.hid z1
  have E2 := Lib.hid h2.1.1
  have Y2 := Lib.hid z2
  have E3 := Lib.hid h3.1.1
  have Y3 := Lib.hid z3
  have E4 := Lib.hid h4.1.1
  have Y4 := Lib.hid z4
  have s0 := ((((((((((((Sf.start w).arg h1.2.2).arg h1.1.2).arg h2.2.2).arg h2.1.2).arg h3.2.2).arg h3.1.2).arg h4.2.2).arg h4.1.2).put [.int .i64 s1, .slice a1 n1 c1, .int .i64 1, .slice b1 m1 d1, .int .i64 s2, .slice a2 n2 c2, .int .i64 1, .slice b2 m2 d2] 28).put [.int .i64 s3, .slice a3 n3 c3, .int .i64 1, .slice b3 m3 d3, .int .i64 s4, .slice a4 n4 c4, .int .i64 1, .slice b4 m4 d4] 28).put [.int .i64 0, .slice none 0 0, .int .i64 0, .slice none 0 0, .int .i64 0, .slice none 0 0, .int .i64 0, .slice none 0 0] 28)
  try simp only [World.size_alloc] at s0
  have S0 := Lib.hid s0
  clear s0
  clear h1 h2 h3 h4 z1 z2 z3 z4 hxy hpq hr
  go_enter Try.func12, Try.ntmps12
  obtain ⟨q1, q2, q3, q4, q5, q6, q7, q8⟩ := Fb.cells8 (S0.out.box (w.heap.size + 1, 28, [.int .i64 s3, .slice a3 n3 c3, .int .i64 1, .slice b3 m3 d3, .int .i64 s4, .slice a4 n4 c4, .int .i64 1, .slice b4 m4 d4]) mq1)
  obtain ⟨q9, q10, q11, q12, q13, q14, q15, q16⟩ := Fb.cells8 (S0.out.box (w.heap.size, 28, [.int .i64 s1, .slice a1 n1 c1, .int .i64 1, .slice b1 m1 d1, .int .i64 s2, .slice a2 n2 c2, .int .i64 1, .slice b2 m2 d2]) mq2)
  go_wp2_with fail
  clear q1 q2 q3 q4 q5 q6 q7 q8 q9 q10 q11 q12 q13 q14 q15 q16
  refine (p10sub (S0.out.fr (v := .slice a1 n1 c1) (u := .slice b1 m1 d1) (r := x) mq6 mq7 E1.out) Y1.out (S0.out.fr (v := .slice a2 n2 c2) (u := .slice b2 m2 d2) (r := y) mq4 mq5 E2.out) Y2.out (S0.out.fr (v := .slice a3 n3 c3) (u := .slice b3 m3 d3) (r := p) mq2 mq3 E3.out) Y3.out (S0.out.fr (v := .slice a4 n4 c4) (u := .slice b4 m4 d4) (r := q) mq0 mq1 E4.out) Y4.out HL.out HH.out HR.out).mono ?_
  rintro e w11 ⟨c11, d11, rfl, h1, h2, hb, ho⟩
  have EC11 := Lib.hid h1.1.1
  have ED11 := Lib.hid h2.1.1
  have R11 := Lib.hid (Sf.span S0.out hb h1 h2 (fun x hx => ho x.1 (S0.out.lt x hx)))
  have HO11 := Lib.hid (fun g (hg : g < w.heap.size) => ho g (Nat.lt_of_lt_of_le hg S0.out.below.size))
  clear h1 h2 hb ho
  have P17 := Lib.hid (R11.out.put [.int .i64 0, .slice none 0 0, .int .i64 0, .slice none 0 0, .int .i64 0, .slice none 0 0, .int .i64 0, .slice none 0 0] 28)
  have Q17 := Lib.hid (Sf.row (pre := []) P17.out [.int .i64 c11.s, .slice c11.a c11.n c11.c, .int .i64 1, .slice c11.b c11.m c11.d, .int .i64 d11.s, .slice d11.a d11.n d11.c, .int .i64 1, .slice d11.b d11.m d11.d])
  obtain ⟨V17, hV17⟩ : ∃ V, ((w11.alloc (.cells #[.int .i64 0, .slice none 0 0, .int .i64 0, .slice none 0 0, .int .i64 0, .slice none 0 0, .int .i64 0, .slice none 0 0] 28)).setRow w11.heap.size #[.int .i64 c11.s, .slice c11.a c11.n c11.c, .int .i64 1, .slice c11.b c11.m c11.d, .int .i64 d11.s, .slice d11.a d11.n d11.c, .int .i64 1, .slice d11.b d11.m d11.d]) = V := ⟨_, rfl⟩
  rw [hV17] at Q17
  have HV17 := Lib.hid hV17
  clear hV17 R11
  obtain ⟨q18, q19, q20, q21, q22, q23, q24, q25⟩ := Fb.cells8 (Q17.out.box (w11.heap.size, 28, [.int .i64 c11.s, .slice c11.a c11.n c11.c, .int .i64 1, .slice c11.b c11.m c11.d, .int .i64 d11.s, .slice d11.a d11.n d11.c, .int .i64 1, .slice d11.b d11.m d11.d]) mq0)
  have Q26 := Lib.hid (Sf.row (pre := [(w11.heap.size, 28, [.int .i64 c11.s, .slice c11.a c11.n c11.c, .int .i64 1, .slice c11.b c11.m c11.d, .int .i64 d11.s, .slice d11.a d11.n d11.c, .int .i64 1, .slice d11.b d11.m d11.d])]) Q17.out [.int .i64 c11.s, .slice c11.a c11.n c11.c, .int .i64 1, .slice c11.b c11.m c11.d, .int .i64 d11.s, .slice d11.a d11.n d11.c, .int .i64 1, .slice d11.b d11.m d11.d])
  go_wp2_with (first | (refine wpList_store_row rfl _ _ _ rfl _ #[.int .i64 c11.s, .slice c11.a c11.n c11.c, .int .i64 1, .slice c11.b c11.m c11.d, .int .i64 d11.s, .slice d11.a d11.n d11.c, .int .i64 1, .slice d11.b d11.m d11.d] rfl rfl _ _ (P17.out.box _ List.mem_cons_self) (by kernel_rfl) rfl (by simp [Value.oneCell']) ?_; rw [HV17.out]) | refine wpList_store_row rfl _ _ _ rfl _ #[.int .i64 c11.s, .slice c11.a c11.n c11.c, .int .i64 1, .slice c11.b c11.m c11.d, .int .i64 d11.s, .slice d11.a d11.n d11.c, .int .i64 1, .slice d11.b d11.m d11.d] rfl rfl _ _ (Q17.out.box _ mq1) (by kernel_rfl) rfl (by simp [Value.oneCell']) ?_)
  clear q18 q19 q20 q21 q22 q23 q24 q25
  refine bodyPost_ret (ret_row rfl _ _ _ _ rfl (run_loadVar_row _ _ _ _ _ (0, 0) _ (Q26.out.box _ mq1) Try.underlying28 rfl (by kernel_rfl))) rfl ⟨c11, d11, rfl, (Q26.out.fr (v := .slice c11.a c11.n c11.c) (u := .slice c11.b c11.m c11.d) (r := r.1) mq0 mq1 EC11.out), (Q26.out.fr (v := .slice d11.a d11.n d11.c) (u := .slice d11.b d11.m d11.d) (r := r.2) mq2 mq3 ED11.out), Q26.out.below, HO11.out⟩

set_option maxHeartbeats 8000000 in
theorem play_mul {w : World} {s1 : Int} {a1 b1 : Option Addr} {n1 c1 m1 d1 : Nat} {x : Rat} {s2 : Int} {a2 b2 : Option Addr} {n2 c2 m2 d2 : Nat} {y : Rat} {s3 : Int} {a3 b3 : Option Addr} {n3 c3 m3 d3 : Nat} {p : Rat} {s4 : Int} {a4 b4 : Option Addr} {n4 c4 m4 d4 : Nat} {q : Rat} (h1 : Fr w s1 (.slice a1 n1 c1) (.slice b1 m1 d1) x) (z1 : FSz 400 x) (h2 : Fr w s2 (.slice a2 n2 c2) (.slice b2 m2 d2) y) (z2 : FSz 400 y) (h3 : Fr w s3 (.slice a3 n3 c3) (.slice b3 m3 d3) p) (z3 : FSz 400 p) (h4 : Fr w s4 (.slice a4 n4 c4) (.slice b4 m4 d4) q) (z4 : FSz 400 q) (hxy : x ≤ y) (hpq : p ≤ q) {r : Rat × Rat} (hr : conS (opF 2) (x, y) (p, q) = r) :
    Calls Try.prog 12 #[.int .i64 2, .agg #[.int .i64 s1, .slice a1 n1 c1, .int .i64 1, .slice b1 m1 d1, .int .i64 s2, .slice a2 n2 c2, .int .i64 1, .slice b2 m2 d2], .agg #[.int .i64 s3, .slice a3 n3 c3, .int .i64 1, .slice b3 m3 d3, .int .i64 s4, .slice a4 n4 c4, .int .i64 1, .slice b4 m4 d4]] w (SpP (fun v => .tuple #[v, .int .i64 0]) r w) := by
  have HL := Lib.hid hxy
  have HH := Lib.hid hpq
  have HR : Hid (mulS (x, y) (p, q) = r) := Lib.hid hr
  have E1 := Lib.hid h1.1.1
  have Y1 := Lib.hid z1
  have E2 := Lib.hid h2.1.1
  have Y2 := Lib.hid z2
  have E3 := Lib.hid h3.1.1
  have Y3 := Lib.hid z3
  have E4 := Lib.hid h4.1.1
  have Y4 := Lib.hid z4
  have s0 := ((((((((((((Sf.start w).arg h1.2.2).arg h1.1.2).arg h2.2.2).arg h2.1.2).arg h3.2.2).arg h3.1.2).arg h4.2.2).arg h4.1.2).put [.int .i64 s1, .slice a1 n1 c1, .int .i64 1, .slice b1 m1 d1, .int .i64 s2, .slice a2 n2 c2, .int .i64 1, .slice b2 m2 d2] 28).put [.int .i64 s3, .slice a3 n3 c3, .int .i64 1, .slice b3 m3 d3, .int .i64 s4, .slice a4 n4 c4, .int .i64 1, .slice b4 m4 d4] 28).put [.int .i64 0, .slice none 0 0, .int .i64 0, .slice none 0 0, .int .i64 0, .slice none 0 0, .int .i64 0, .slice none 0 0] 28)
  try simp only [World.size_alloc] at s0
  have S0 := Lib.hid s0
  clear s0
  clear h1 h2 h3 h4 z1 z2 z3 z4 hxy hpq hr
  go_enter Try.func12, Try.ntmps12
  obtain ⟨q1, q2, q3, q4, q5, q6, q7, q8⟩ := Fb.cells8 (S0.out.box (w.heap.size + 1, 28, [.int .i64 s3, .slice a3 n3 c3, .int .i64 1, .slice b3 m3 d3, .int .i64 s4, .slice a4 n4 c4, .int .i64 1, .slice b4 m4 d4]) mq1)
  obtain ⟨q9, q10, q11, q12, q13, q14, q15, q16⟩ := Fb.cells8 (S0.out.box (w.heap.size, 28, [.int .i64 s1, .slice a1 n1 c1, .int .i64 1, .slice b1 m1 d1, .int .i64 s2, .slice a2 n2 c2, .int .i64 1, .slice b2 m2 d2]) mq2)
  go_wp2_with fail
  clear q1 q2 q3 q4 q5 q6 q7 q8 q9 q10 q11 q12 q13 q14 q15 q16
  refine (p10mul (S0.out.fr (v := .slice a1 n1 c1) (u := .slice b1 m1 d1) (r := x) mq6 mq7 E1.out) Y1.out (S0.out.fr (v := .slice a2 n2 c2) (u := .slice b2 m2 d2) (r := y) mq4 mq5 E2.out) Y2.out (S0.out.fr (v := .slice a3 n3 c3) (u := .slice b3 m3 d3) (r := p) mq2 mq3 E3.out) Y3.out (S0.out.fr (v := .slice a4 n4 c4) (u := .slice b4 m4 d4) (r := q) mq0 mq1 E4.out) Y4.out HL.out HH.out HR.out).mono ?_
  rintro e w11 ⟨c11, d11, rfl, h1, h2, hb, ho⟩
  have EC11 := Lib.hid h1.1.1
  have ED11 := Lib.hid h2.1.1
  have R11 := Lib.hid (Sf.span S0.out hb h1 h2 (fun x hx => ho x.1 (S0.out.lt x hx)))
  have HO11 := Lib.hid (fun g (hg : g < w.heap.size) => ho g (Nat.lt_of_lt_of_le hg S0.out.below.size))
  clear h1 h2 hb ho
  have P17 := Lib.hid (R11.out.put [.int .i64 0, .slice none 0 0, .int .i64 0, .slice none 0 0, .int .i64 0, .slice none 0 0, .int .i64 0, .slice none 0 0] 28)
  have Q17 := Lib.hid (Sf.row (pre := []) P17.out [.int .i64 c11.s, .slice c11.a c11.n c11.c, .int .i64 1, .slice c11.b c11.m c11.d, .int .i64 d11.s, .slice d11.a d11.n d11.c, .int .i64 1, .slice d11.b d11.m d11.d])
  obtain ⟨V17, hV17⟩ : ∃ V, ((w11.alloc (.cells #[.int .i64 0, .slice none 0 0, .int .i64 0, .slice none 0 0, .int .i64 0, .slice none 0 0, .int .i64 0, .slice none 0 0] 28)).setRow w11.heap.size #[.int .i64 c11.s, .slice c11.a c11.n c11.c, .int .i64 1, .slice c11.b c11.m c11.d, .int .i64 d11.s, .slice d11.a d11.n d11.c, .int .i64 1, .slice d11.b d11.m d11.d]) = V := ⟨_, rfl⟩
  rw [hV17] at Q17
  have HV17 := Lib.hid hV17
  clear hV17 R11
  obtain ⟨q18, q19, q20, q21, q22, q23, q24, q25⟩ := Fb.cells8 (Q17.out.box (w11.heap.size, 28, [.int .i64 c11.s, .slice c11.a c11.n c11.c, .int .i64 1, .slice c11.b c11.m c11.d, .int .i64 d11.s, .slice d11.a d11.n d11.c, .int .i64 1, .slice d11.b d11.m d11.d]) mq0)
  have Q26 := Lib.hid (Sf.row (pre := [(w11.heap.size, 28, [.int .i64 c11.s, .slice c11.a c11.n c11.c, .int .i64 1, .slice c11.b c11.m c11.d, .int .i64 d11.s, .slice d11.a d11.n d11.c, .int .i64 1, .slice d11.b d11.m d11.d])]) Q17.out [.int .i64 c11.s, .slice c11.a c11.n c11.c, .int .i64 1, .slice c11.b c11.m c11.d, .int .i64 d11.s, .slice d11.a d11.n d11.c, .int .i64 1, .slice d11.b d11.m d11.d])
  go_wp2_with (first | (refine wpList_store_row rfl _ _ _ rfl _ #[.int .i64 c11.s, .slice c11.a c11.n c11.c, .int .i64 1, .slice c11.b c11.m c11.d, .int .i64 d11.s, .slice d11.a d11.n d11.c, .int .i64 1, .slice d11.b d11.m d11.d] rfl rfl _ _ (P17.out.box _ List.mem_cons_self) (by kernel_rfl) rfl (by simp [Value.oneCell']) ?_; rw [HV17.out]) | refine wpList_store_row rfl _ _ _ rfl _ #[.int .i64 c11.s, .slice c11.a c11.n c11.c, .int .i64 1, .slice c11.b c11.m c11.d, .int .i64 d11.s, .slice d11.a d11.n d11.c, .int .i64 1, .slice d11.b d11.m d11.d] rfl rfl _ _ (Q17.out.box _ mq1) (by kernel_rfl) rfl (by simp [Value.oneCell']) ?_)
  clear q18 q19 q20 q21 q22 q23 q24 q25
  refine bodyPost_ret (ret_row rfl _ _ _ _ rfl (run_loadVar_row _ _ _ _ _ (0, 0) _ (Q26.out.box _ mq1) Try.underlying28 rfl (by kernel_rfl))) rfl ⟨c11, d11, rfl, (Q26.out.fr (v := .slice c11.a c11.n c11.c) (u := .slice c11.b c11.m c11.d) (r := r.1) mq0 mq1 EC11.out), (Q26.out.fr (v := .slice d11.a d11.n d11.c) (u := .slice d11.b d11.m d11.d) (r := r.2) mq2 mq3 ED11.out), Q26.out.below, HO11.out⟩

set_option maxHeartbeats 8000000 in
theorem play_div {w : World} {s1 : Int} {a1 b1 : Option Addr} {n1 c1 m1 d1 : Nat} {x : Rat} {s2 : Int} {a2 b2 : Option Addr} {n2 c2 m2 d2 : Nat} {y : Rat} {s3 : Int} {a3 b3 : Option Addr} {n3 c3 m3 d3 : Nat} {p : Rat} {s4 : Int} {a4 b4 : Option Addr} {n4 c4 m4 d4 : Nat} {q : Rat} (h1 : Fr w s1 (.slice a1 n1 c1) (.slice b1 m1 d1) x) (z1 : FSz 400 x) (h2 : Fr w s2 (.slice a2 n2 c2) (.slice b2 m2 d2) y) (z2 : FSz 400 y) (h3 : Fr w s3 (.slice a3 n3 c3) (.slice b3 m3 d3) p) (z3 : FSz 400 p) (h4 : Fr w s4 (.slice a4 n4 c4) (.slice b4 m4 d4) q) (z4 : FSz 400 q) (hxy : x ≤ y) (hpq : p ≤ q) (h0 : ¬ In (p, q) 0) {r : Rat × Rat} (hr : conS (opF 3) (x, y) (p, q) = r) :
    Calls Try.prog 12 #[.int .i64 3, .agg #[.int .i64 s1, .slice a1 n1 c1, .int .i64 1, .slice b1 m1 d1, .int .i64 s2, .slice a2 n2 c2, .int .i64 1, .slice b2 m2 d2], .agg #[.int .i64 s3, .slice a3 n3 c3, .int .i64 1, .slice b3 m3 d3, .int .i64 s4, .slice a4 n4 c4, .int .i64 1, .slice b4 m4 d4]] w (SpP (fun v => .tuple #[v, .int .i64 0]) r w) := by
  have HL := Lib.hid hxy
  have HH := Lib.hid hpq
  have HR : Hid (divS (x, y) (p, q) = r) := Lib.hid hr
  have H0 := Lib.hid h0
  have E1 := Lib.hid h1.1.1
  have Y1 := Lib.hid z1
  have E2 := Lib.hid h2.1.1
  have Y2 := Lib.hid z2
  have E3 := Lib.hid h3.1.1
  have Y3 := Lib.hid z3
  have E4 := Lib.hid h4.1.1
  have Y4 := Lib.hid z4
  have s0 := ((((((((((((Sf.start w).arg h1.2.2).arg h1.1.2).arg h2.2.2).arg h2.1.2).arg h3.2.2).arg h3.1.2).arg h4.2.2).arg h4.1.2).put [.int .i64 s1, .slice a1 n1 c1, .int .i64 1, .slice b1 m1 d1, .int .i64 s2, .slice a2 n2 c2, .int .i64 1, .slice b2 m2 d2] 28).put [.int .i64 s3, .slice a3 n3 c3, .int .i64 1, .slice b3 m3 d3, .int .i64 s4, .slice a4 n4 c4, .int .i64 1, .slice b4 m4 d4] 28).put [.int .i64 0, .slice none 0 0, .int .i64 0, .slice none 0 0, .int .i64 0, .slice none 0 0, .int .i64 0, .slice none 0 0] 28)
  try simp only [World.size_alloc] at s0
  have S0 := Lib.hid s0
  clear s0
  clear h1 h2 h3 h4 z1 z2 z3 z4 hxy hpq hr h0
  go_enter Try.func12, Try.ntmps12
  obtain ⟨q1, q2, q3, q4, q5, q6, q7, q8⟩ := Fb.cells8 (S0.out.box (w.heap.size + 1, 28, [.int .i64 s3, .slice a3 n3 c3, .int .i64 1, .slice b3 m3 d3, .int .i64 s4, .slice a4 n4 c4, .int .i64 1, .slice b4 m4 d4]) mq1)
  obtain ⟨q9, q10, q11, q12, q13, q14, q15, q16⟩ := Fb.cells8 (S0.out.box (w.heap.size, 28, [.int .i64 s1, .slice a1 n1 c1, .int .i64 1, .slice b1 m1 d1, .int .i64 s2, .slice a2 n2 c2, .int .i64 1, .slice b2 m2 d2]) mq2)
  go_wp2_with fail
  clear q1 q2 q3 q4 q5 q6 q7 q8 q9 q10 q11 q12 q13 q14 q15 q16
  refine (p10div (S0.out.fr (v := .slice a1 n1 c1) (u := .slice b1 m1 d1) (r := x) mq6 mq7 E1.out) Y1.out (S0.out.fr (v := .slice a2 n2 c2) (u := .slice b2 m2 d2) (r := y) mq4 mq5 E2.out) Y2.out (S0.out.fr (v := .slice a3 n3 c3) (u := .slice b3 m3 d3) (r := p) mq2 mq3 E3.out) Y3.out (S0.out.fr (v := .slice a4 n4 c4) (u := .slice b4 m4 d4) (r := q) mq0 mq1 E4.out) Y4.out HL.out HH.out H0.out HR.out).mono ?_
  rintro e w11 ⟨c11, d11, rfl, h1, h2, hb, ho⟩
  have EC11 := Lib.hid h1.1.1
  have ED11 := Lib.hid h2.1.1
  have R11 := Lib.hid (Sf.span S0.out hb h1 h2 (fun x hx => ho x.1 (S0.out.lt x hx)))
  have HO11 := Lib.hid (fun g (hg : g < w.heap.size) => ho g (Nat.lt_of_lt_of_le hg S0.out.below.size))
  clear h1 h2 hb ho
  have P17 := Lib.hid (R11.out.put [.int .i64 0, .slice none 0 0, .int .i64 0, .slice none 0 0, .int .i64 0, .slice none 0 0, .int .i64 0, .slice none 0 0] 28)
  have Q17 := Lib.hid (Sf.row (pre := []) P17.out [.int .i64 c11.s, .slice c11.a c11.n c11.c, .int .i64 1, .slice c11.b c11.m c11.d, .int .i64 d11.s, .slice d11.a d11.n d11.c, .int .i64 1, .slice d11.b d11.m d11.d])
  obtain ⟨V17, hV17⟩ : ∃ V, ((w11.alloc (.cells #[.int .i64 0, .slice none 0 0, .int .i64 0, .slice none 0 0, .int .i64 0, .slice none 0 0, .int .i64 0, .slice none 0 0] 28)).setRow w11.heap.size #[.int .i64 c11.s, .slice c11.a c11.n c11.c, .int .i64 1, .slice c11.b c11.m c11.d, .int .i64 d11.s, .slice d11.a d11.n d11.c, .int .i64 1, .slice d11.b d11.m d11.d]) = V := ⟨_, rfl⟩
  rw [hV17] at Q17
  have HV17 := Lib.hid hV17
  clear hV17 R11
  obtain ⟨q18, q19, q20, q21, q22, q23, q24, q25⟩ := Fb.cells8 (Q17.out.box (w11.heap.size, 28, [.int .i64 c11.s, .slice c11.a c11.n c11.c, .int .i64 1, .slice c11.b c11.m c11.d, .int .i64 d11.s, .slice d11.a d11.n d11.c, .int .i64 1, .slice d11.b d11.m d11.d]) mq0)
  have Q26 := Lib.hid (Sf.row (pre := [(w11.heap.size, 28, [.int .i64 c11.s, .slice c11.a c11.n c11.c, .int .i64 1, .slice c11.b c11.m c11.d, .int .i64 d11.s, .slice d11.a d11.n d11.c, .int .i64 1, .slice d11.b d11.m d11.d])]) Q17.out [.int .i64 c11.s, .slice c11.a c11.n c11.c, .int .i64 1, .slice c11.b c11.m c11.d, .int .i64 d11.s, .slice d11.a d11.n d11.c, .int .i64 1, .slice d11.b d11.m d11.d])
  go_wp2_with (first | (refine wpList_store_row rfl _ _ _ rfl _ #[.int .i64 c11.s, .slice c11.a c11.n c11.c, .int .i64 1, .slice c11.b c11.m c11.d, .int .i64 d11.s, .slice d11.a d11.n d11.c, .int .i64 1, .slice d11.b d11.m d11.d] rfl rfl _ _ (P17.out.box _ List.mem_cons_self) (by kernel_rfl) rfl (by simp [Value.oneCell']) ?_; rw [HV17.out]) | refine wpList_store_row rfl _ _ _ rfl _ #[.int .i64 c11.s, .slice c11.a c11.n c11.c, .int .i64 1, .slice c11.b c11.m c11.d, .int .i64 d11.s, .slice d11.a d11.n d11.c, .int .i64 1, .slice d11.b d11.m d11.d] rfl rfl _ _ (Q17.out.box _ mq1) (by kernel_rfl) rfl (by simp [Value.oneCell']) ?_)
  clear q18 q19 q20 q21 q22 q23 q24 q25
  refine bodyPost_ret (ret_row rfl _ _ _ _ rfl (run_loadVar_row _ _ _ _ _ (0, 0) _ (Q26.out.box _ mq1) Try.underlying28 rfl (by kernel_rfl))) rfl ⟨c11, d11, rfl, (Q26.out.fr (v := .slice c11.a c11.n c11.c) (u := .slice c11.b c11.m c11.d) (r := r.1) mq0 mq1 EC11.out), (Q26.out.fr (v := .slice d11.a d11.n d11.c) (u := .slice d11.b d11.m d11.d) (r := r.2) mq2 mq3 ED11.out), Q26.out.below, HO11.out⟩

set_option maxHeartbeats 8000000 in
theorem play_min {w : World} {s1 : Int} {a1 b1 : Option Addr} {n1 c1 m1 d1 : Nat} {x : Rat} {s2 : Int} {a2 b2 : Option Addr} {n2 c2 m2 d2 : Nat} {y : Rat} {s3 : Int} {a3 b3 : Option Addr} {n3 c3 m3 d3 : Nat} {p : Rat} {s4 : Int} {a4 b4 : Option Addr} {n4 c4 m4 d4 : Nat} {q : Rat} (h1 : Fr w s1 (.slice a1 n1 c1) (.slice b1 m1 d1) x) (z1 : FSz 400 x) (h2 : Fr w s2 (.slice a2 n2 c2) (.slice b2 m2 d2) y) (z2 : FSz 400 y) (h3 : Fr w s3 (.slice a3 n3 c3) (.slice b3 m3 d3) p) (z3 : FSz 400 p) (h4 : Fr w s4 (.slice a4 n4 c4) (.slice b4 m4 d4) q) (z4 : FSz 400 q) (hxy : x ≤ y) (hpq : p ≤ q) {r : Rat × Rat} (hr : conS (opF 4) (x, y) (p, q) = r) :
    Calls Try.prog 12 #[.int .i64 4, .agg #[.int .i64 s1, .slice a1 n1 c1, .int .i64 1, .slice b1 m1 d1, .int .i64 s2, .slice a2 n2 c2, .int .i64 1, .slice b2 m2 d2], .agg #[.int .i64 s3, .slice a3 n3 c3, .int .i64 1, .slice b3 m3 d3, .int .i64 s4, .slice a4 n4 c4, .int .i64 1, .slice b4 m4 d4]] w (SpP (fun v => .tuple #[v, .int .i64 0]) r w) := by
  have HL := Lib.hid hxy
  have HH := Lib.hid hpq
  have HR := Lib.hid ((con_min (a := (x, y)) (b := (p, q)) hxy hpq).symm.trans hr)
  have E1 := Lib.hid h1.1.1
  have Y1 := Lib.hid z1
  have E2 := Lib.hid h2.1.1
  have Y2 := Lib.hid z2
  have E3 := Lib.hid h3.1.1
  have Y3 := Lib.hid z3
  have E4 := Lib.hid h4.1.1
  have Y4 := Lib.hid z4
  have s0 := ((((((((((((Sf.start w).arg h1.2.2).arg h1.1.2).arg h2.2.2).arg h2.1.2).arg h3.2.2).arg h3.1.2).arg h4.2.2).arg h4.1.2).put [.int .i64 s1, .slice a1 n1 c1, .int .i64 1, .slice b1 m1 d1, .int .i64 s2, .slice a2 n2 c2, .int .i64 1, .slice b2 m2 d2] 28).put [.int .i64 s3, .slice a3 n3 c3, .int .i64 1, .slice b3 m3 d3, .int .i64 s4, .slice a4 n4 c4, .int .i64 1, .slice b4 m4 d4] 28).put [.int .i64 0, .slice none 0 0, .int .i64 0, .slice none 0 0, .int .i64 0, .slice none 0 0, .int .i64 0, .slice none 0 0] 28)
  try simp only [World.size_alloc] at s0
  have S0 := Lib.hid s0
  clear s0
  clear h1 h2 h3 h4 z1 z2 z3 z4 hxy hpq hr
  go_enter Try.func12, Try.ntmps12
  obtain ⟨q1, q2, q3, q4, q5, q6, q7, q8⟩ := Fb.cells8 (S0.out.box (w.heap.size + 1, 28, [.int .i64 s3, .slice a3 n3 c3, .int .i64 1, .slice b3 m3 d3, .int .i64 s4, .slice a4 n4 c4, .int .i64 1, .slice b4 m4 d4]) mq1)
  obtain ⟨q9, q10, q11, q12, q13, q14, q15, q16⟩ := Fb.cells8 (S0.out.box (w.heap.size, 28, [.int .i64 s1, .slice a1 n1 c1, .int .i64 1, .slice b1 m1 d1, .int .i64 s2, .slice a2 n2 c2, .int .i64 1, .slice b2 m2 d2]) mq2)
  go_wp2_with fail
  clear q1 q2 q3 q4 q5 q6 q7 q8 q9 q10 q11 q12 q13 q14 q15 q16
  refine (p10min (S0.out.fr (v := .slice a1 n1 c1) (u := .slice b1 m1 d1) (r := x) mq6 mq7 E1.out) Y1.out (S0.out.fr (v := .slice a2 n2 c2) (u := .slice b2 m2 d2) (r := y) mq4 mq5 E2.out) Y2.out (S0.out.fr (v := .slice a3 n3 c3) (u := .slice b3 m3 d3) (r := p) mq2 mq3 E3.out) Y3.out (S0.out.fr (v := .slice a4 n4 c4) (u := .slice b4 m4 d4) (r := q) mq0 mq1 E4.out) Y4.out HL.out HH.out HR.out).mono ?_
  rintro e w11 ⟨c11, d11, rfl, h1, h2, hb, ho⟩
  have EC11 := Lib.hid h1.1.1
  have ED11 := Lib.hid h2.1.1
  have R11 := Lib.hid (Sf.span S0.out hb h1 h2 (fun x hx => ho x.1 (S0.out.lt x hx)))
  have HO11 := Lib.hid (fun g (hg : g < w.heap.size) => ho g (Nat.lt_of_lt_of_le hg S0.out.below.size))
  clear h1 h2 hb ho
  have P17 := Lib.hid (R11.out.put [.int .i64 0, .slice none 0 0, .int .i64 0, .slice none 0 0, .int .i64 0, .slice none 0 0, .int .i64 0, .slice none 0 0] 28)
  have Q17 := Lib.hid (Sf.row (pre := []) P17.out [.int .i64 c11.s, .slice c11.a c11.n c11.c, .int .i64 1, .slice c11.b c11.m c11.d, .int .i64 d11.s, .slice d11.a d11.n d11.c, .int .i64 1, .slice d11.b d11.m d11.d])
  obtain ⟨V17, hV17⟩ : ∃ V, ((w11.alloc (.cells #[.int .i64 0, .slice none 0 0, .int .i64 0, .slice none 0 0, .int .i64 0, .slice none 0 0, .int .i64 0, .slice none 0 0] 28)).setRow w11.heap.size #[.int .i64 c11.s, .slice c11.a c11.n c11.c, .int .i64 1, .slice c11.b c11.m c11.d, .int .i64 d11.s, .slice d11.a d11.n d11.c, .int .i64 1, .slice d11.b d11.m d11.d]) = V := ⟨_, rfl⟩
  rw [hV17] at Q17
  have HV17 := Lib.hid hV17
  clear hV17 R11
  obtain ⟨q18, q19, q20, q21, q22, q23, q24, q25⟩ := Fb.cells8 (Q17.out.box (w11.heap.size, 28, [.int .i64 c11.s, .slice c11.a c11.n c11.c, .int .i64 1, .slice c11.b c11.m c11.d, .int .i64 d11.s, .slice d11.a d11.n d11.c, .int .i64 1, .slice d11.b d11.m d11.d]) mq0)
  have Q26 := Lib.hid (Sf.row (pre := [(w11.heap.size, 28, [.int .i64 c11.s, .slice c11.a c11.n c11.c, .int .i64 1, .slice c11.b c11.m c11.d, .int .i64 d11.s, .slice d11.a d11.n d11.c, .int .i64 1, .slice d11.b d11.m d11.d])]) Q17.out [.int .i64 c11.s, .slice c11.a c11.n c11.c, .int .i64 1, .slice c11.b c11.m c11.d, .int .i64 d11.s, .slice d11.a d11.n d11.c, .int .i64 1, .slice d11.b d11.m d11.d])
  go_wp2_with (first | (refine wpList_store_row rfl _ _ _ rfl _ #[.int .i64 c11.s, .slice c11.a c11.n c11.c, .int .i64 1, .slice c11.b c11.m c11.d, .int .i64 d11.s, .slice d11.a d11.n d11.c, .int .i64 1, .slice d11.b d11.m d11.d] rfl rfl _ _ (P17.out.box _ List.mem_cons_self) (by kernel_rfl) rfl (by simp [Value.oneCell']) ?_; rw [HV17.out]) | refine wpList_store_row rfl _ _ _ rfl _ #[.int .i64 c11.s, .slice c11.a c11.n c11.c, .int .i64 1, .slice c11.b c11.m c11.d, .int .i64 d11.s, .slice d11.a d11.n d11.c, .int .i64 1, .slice d11.b d11.m d11.d] rfl rfl _ _ (Q17.out.box _ mq1) (by kernel_rfl) rfl (by simp [Value.oneCell']) ?_)
  clear q18 q19 q20 q21 q22 q23 q24 q25
  refine bodyPost_ret (ret_row rfl _ _ _ _ rfl (run_loadVar_row _ _ _ _ _ (0, 0) _ (Q26.out.box _ mq1) Try.underlying28 rfl (by kernel_rfl))) rfl ⟨c11, d11, rfl, (Q26.out.fr (v := .slice c11.a c11.n c11.c) (u := .slice c11.b c11.m c11.d) (r := r.1) mq0 mq1 EC11.out), (Q26.out.fr (v := .slice d11.a d11.n d11.c) (u := .slice d11.b d11.m d11.d) (r := r.2) mq2 mq3 ED11.out), Q26.out.below, HO11.out⟩

set_option maxHeartbeats 8000000 in
theorem play_max {w : World} {s1 : Int} {a1 b1 : Option Addr} {n1 c1 m1 d1 : Nat} {x : Rat} {s2 : Int} {a2 b2 : Option Addr} {n2 c2 m2 d2 : Nat} {y : Rat} {s3 : Int} {a3 b3 : Option Addr} {n3 c3 m3 d3 : Nat} {p : Rat} {s4 : Int} {a4 b4 : Option Addr} {n4 c4 m4 d4 : Nat} {q : Rat} (h1 : Fr w s1 (.slice a1 n1 c1) (.slice b1 m1 d1) x) (z1 : FSz 400 x) (h2 : Fr w s2 (.slice a2 n2 c2) (.slice b2 m2 d2) y) (z2 : FSz 400 y) (h3 : Fr w s3 (.slice a3 n3 c3) (.slice b3 m3 d3) p) (z3 : FSz 400 p) (h4 : Fr w s4 (.slice a4 n4 c4) (.slice b4 m4 d4) q) (z4 : FSz 400 q) (hxy : x ≤ y) (hpq : p ≤ q) {r : Rat × Rat} (hr : conS (opF 5) (x, y) (p, q) = r) :
    Calls Try.prog 12 #[.int .i64 5, .agg #[.int .i64 s1, .slice a1 n1 c1, .int .i64 1, .slice b1 m1 d1, .int .i64 s2, .slice a2 n2 c2, .int .i64 1, .slice b2 m2 d2], .agg #[.int .i64 s3, .slice a3 n3 c3, .int .i64 1, .slice b3 m3 d3, .int .i64 s4, .slice a4 n4 c4, .int .i64 1, .slice b4 m4 d4]] w (SpP (fun v => .tuple #[v, .int .i64 0]) r w) := by
  have HL := Lib.hid hxy
  have HH := Lib.hid hpq
  have HR := Lib.hid ((con_max (a := (x, y)) (b := (p, q)) hxy hpq).symm.trans hr)
  have E1 := Lib.hid h1.1.1
  have Y1 := Lib.hid z1
  have E2 := Lib.hid h2.1.1
  have Y2 := Lib.hid z2
  have E3 := Lib.hid h3.1.1
  have Y3 := Lib.hid z3
  have E4 := Lib.hid h4.1.1
  have Y4 := Lib.hid z4
  have s0 := ((((((((((((Sf.start w).arg h1.2.2).arg h1.1.2).arg h2.2.2).arg h2.1.2).arg h3.2.2).arg h3.1.2).arg h4.2.2).arg h4.1.2).put [.int .i64 s1, .slice a1 n1 c1, .int .i64 1, .slice b1 m1 d1, .int .i64 s2, .slice a2 n2 c2, .int .i64 1, .slice b2 m2 d2] 28).put [.int .i64 s3, .slice a3 n3 c3, .int .i64 1, .slice b3 m3 d3, .int .i64 s4, .slice a4 n4 c4, .int .i64 1, .slice b4 m4 d4] 28).put [.int .i64 0, .slice none 0 0, .int .i64 0, .slice none 0 0, .int .i64 0, .slice none 0 0, .int .i64 0, .slice none 0 0] 28)
  try simp only [World.size_alloc] at s0
  have S0 := Lib.hid s0
  clear s0
  clear h1 h2 h3 h4 z1 z2 z3 z4 hxy hpq hr
  go_enter Try.func12, Try.ntmps12
  obtain ⟨q1, q2, q3, q4, q5, q6, q7, q8⟩ := Fb.cells8 (S0.out.box (w.heap.size + 1, 28, [.int .i64 s3, .slice a3 n3 c3, .int .i64 1, .slice b3 m3 d3, .int .i64 s4, .slice a4 n4 c4, .int .i64 1, .slice b4 m4 d4]) mq1)
  obtain ⟨q9, q10, q11, q12, q13, q14, q15, q16⟩ := Fb.cells8 (S0.out.box (w.heap.size, 28, [.int .i64 s1, .slice a1 n1 c1, .int .i64 1, .slice b1 m1 d1, .int .i64 s2, .slice a2 n2 c2, .int .i64 1, .slice b2 m2 d2]) mq2)
  go_wp2_with fail
  clear q1 q2 q3 q4 q5 q6 q7 q8 q9 q10 q11 q12 q13 q14 q15 q16
  refine (p10max (S0.out.fr (v := .slice a1 n1 c1) (u := .slice b1 m1 d1) (r := x) mq6 mq7 E1.out) Y1.out (S0.out.fr (v := .slice a2 n2 c2) (u := .slice b2 m2 d2) (r := y) mq4 mq5 E2.out) Y2.out (S0.out.fr (v := .slice a3 n3 c3) (u := .slice b3 m3 d3) (r := p) mq2 mq3 E3.out) Y3.out (S0.out.fr (v := .slice a4 n4 c4) (u := .slice b4 m4 d4) (r := q) mq0 mq1 E4.out) Y4.out HL.out HH.out HR.out).mono ?_
  rintro e w11 ⟨c11, d11, rfl, h1, h2, hb, ho⟩
  have EC11 := Lib.hid h1.1.1
  have ED11 := Lib.hid h2.1.1
  have R11 := Lib.hid (Sf.span S0.out hb h1 h2 (fun x hx => ho x.1 (S0.out.lt x hx)))
  have HO11 := Lib.hid (fun g (hg : g < w.heap.size) => ho g (Nat.lt_of_lt_of_le hg S0.out.below.size))
  clear h1 h2 hb ho
  have P17 := Lib.hid (R11.out.put [.int .i64 0, .slice none 0 0, .int .i64 0, .slice none 0 0, .int .i64 0, .slice none 0 0, .int .i64 0, .slice none 0 0] 28)
  have Q17 := Lib.hid (Sf.row (pre := []) P17.out [.int .i64 c11.s, .slice c11.a c11.n c11.c, .int .i64 1, .slice c11.b c11.m c11.d, .int .i64 d11.s, .slice d11.a d11.n d11.c, .int .i64 1, .slice d11.b d11.m d11.d])
  obtain ⟨V17, hV17⟩ : ∃ V, ((w11.alloc (.cells #[.int .i64 0, .slice none 0 0, .int .i64 0, .slice none 0 0, .int .i64 0, .slice none 0 0, .int .i64 0, .slice none 0 0] 28)).setRow w11.heap.size #[.int .i64 c11.s, .slice c11.a c11.n c11.c, .int .i64 1, .slice c11.b c11.m c11.d, .int .i64 d11.s, .slice d11.a d11.n d11.c, .int .i64 1, .slice d11.b d11.m d11.d]) = V := ⟨_, rfl⟩
  rw [hV17] at Q17
  have HV17 := Lib.hid hV17
  clear hV17 R11
  obtain ⟨q18, q19, q20, q21, q22, q23, q24, q25⟩ := Fb.cells8 (Q17.out.box (w11.heap.size, 28, [.int .i64 c11.s, .slice c11.a c11.n c11.c, .int .i64 1, .slice c11.b c11.m c11.d, .int .i64 d11.s, .slice d11.a d11.n d11.c, .int .i64 1, .slice d11.b d11.m d11.d]) mq0)
  have Q26 := Lib.hid (Sf.row (pre := [(w11.heap.size, 28, [.int .i64 c11.s, .slice c11.a c11.n c11.c, .int .i64 1, .slice c11.b c11.m c11.d, .int .i64 d11.s, .slice d11.a d11.n d11.c, .int .i64 1, .slice d11.b d11.m d11.d])]) Q17.out [.int .i64 c11.s, .slice c11.a c11.n c11.c, .int .i64 1, .slice c11.b c11.m c11.d, .int .i64 d11.s, .slice d11.a d11.n d11.c, .int .i64 1, .slice d11.b d11.m d11.d])
  go_wp2_with (first | (refine wpList_store_row rfl _ _ _ rfl _ #[.int .i64 c11.s, .slice c11.a c11.n c11.c, .int .i64 1, .slice c11.b c11.m c11.d, .int .i64 d11.s, .slice d11.a d11.n d11.c, .int .i64 1, .slice d11.b d11.m d11.d] rfl rfl _ _ (P17.out.box _ List.mem_cons_self) (by kernel_rfl) rfl (by simp [Value.oneCell']) ?_; rw [HV17.out]) | refine wpList_store_row rfl _ _ _ rfl _ #[.int .i64 c11.s, .slice c11.a c11.n c11.c, .int .i64 1, .slice c11.b c11.m c11.d, .int .i64 d11.s, .slice d11.a d11.n d11.c, .int .i64 1, .slice d11.b d11.m d11.d] rfl rfl _ _ (Q17.out.box _ mq1) (by kernel_rfl) rfl (by simp [Value.oneCell']) ?_)
  clear q18 q19 q20 q21 q22 q23 q24 q25
  refine bodyPost_ret (ret_row rfl _ _ _ _ rfl (run_loadVar_row _ _ _ _ _ (0, 0) _ (Q26.out.box _ mq1) Try.underlying28 rfl (by kernel_rfl))) rfl ⟨c11, d11, rfl, (Q26.out.fr (v := .slice c11.a c11.n c11.c) (u := .slice c11.b c11.m c11.d) (r := r.1) mq0 mq1 EC11.out), (Q26.out.fr (v := .slice d11.a d11.n d11.c) (u := .slice d11.b d11.m d11.d) (r := r.2) mq2 mq3 ED11.out), Q26.out.below, HO11.out⟩

set_option maxHeartbeats 8000000 in
theorem play_zero {w : World} {s1 : Int} {a1 b1 : Option Addr} {n1 c1 m1 d1 : Nat} {x : Rat} {s2 : Int} {a2 b2 : Option Addr} {n2 c2 m2 d2 : Nat} {y : Rat} {s3 : Int} {a3 b3 : Option Addr} {n3 c3 m3 d3 : Nat} {p : Rat} {s4 : Int} {a4 b4 : Option Addr} {n4 c4 m4 d4 : Nat} {q : Rat} (h1 : Fr w s1 (.slice a1 n1 c1) (.slice b1 m1 d1) x) (z1 : FSz 400 x) (h2 : Fr w s2 (.slice a2 n2 c2) (.slice b2 m2 d2) y) (z2 : FSz 400 y) (h3 : Fr w s3 (.slice a3 n3 c3) (.slice b3 m3 d3) p) (z3 : FSz 400 p) (h4 : Fr w s4 (.slice a4 n4 c4) (.slice b4 m4 d4) q) (z4 : FSz 400 q) (hxy : x ≤ y) (hpq : p ≤ q) (h0 : In (p, q) 0) :
    Calls Try.prog 12 #[.int .i64 3, .agg #[.int .i64 s1, .slice a1 n1 c1, .int .i64 1, .slice b1 m1 d1, .int .i64 s2, .slice a2 n2 c2, .int .i64 1, .slice b2 m2 d2], .agg #[.int .i64 s3, .slice a3 n3 c3, .int .i64 1, .slice b3 m3 d3, .int .i64 s4, .slice a4 n4 c4, .int .i64 1, .slice b4 m4 d4]] w fun e w' => e = .returned (.tuple #[.agg #[.int .i64 0, .slice none 0 0, .int .i64 0, .slice none 0 0, .int .i64 0, .slice none 0 0, .int .i64 0, .slice none 0 0], .int .i64 15]) ∧ RowKit.Below w.heap.size w w' := by
  have HL := Lib.hid hxy
  have HH := Lib.hid hpq
  have H0 := Lib.hid h0
  have E1 := Lib.hid h1.1.1
  have Y1 := Lib.hid z1
  have E2 := Lib.hid h2.1.1
  have Y2 := Lib.hid z2
  have E3 := Lib.hid h3.1.1
  have Y3 := Lib.hid z3
  have E4 := Lib.hid h4.1.1
  have Y4 := Lib.hid z4
  have s0 := ((((((((((((Sf.start w).arg h1.2.2).arg h1.1.2).arg h2.2.2).arg h2.1.2).arg h3.2.2).arg h3.1.2).arg h4.2.2).arg h4.1.2).put [.int .i64 s1, .slice a1 n1 c1, .int .i64 1, .slice b1 m1 d1, .int .i64 s2, .slice a2 n2 c2, .int .i64 1, .slice b2 m2 d2] 28).put [.int .i64 s3, .slice a3 n3 c3, .int .i64 1, .slice b3 m3 d3, .int .i64 s4, .slice a4 n4 c4, .int .i64 1, .slice b4 m4 d4] 28).put [.int .i64 0, .slice none 0 0, .int .i64 0, .slice none 0 0, .int .i64 0, .slice none 0 0, .int .i64 0, .slice none 0 0] 28)
  try simp only [World.size_alloc] at s0
  have S0 := Lib.hid s0
  clear s0
  clear h1 h2 h3 h4 z1 z2 z3 z4 hxy hpq h0
  go_enter Try.func12, Try.ntmps12
  obtain ⟨q1, q2, q3, q4, q5, q6, q7, q8⟩ := Fb.cells8 (S0.out.box (w.heap.size + 1, 28, [.int .i64 s3, .slice a3 n3 c3, .int .i64 1, .slice b3 m3 d3, .int .i64 s4, .slice a4 n4 c4, .int .i64 1, .slice b4 m4 d4]) mq1)
  obtain ⟨q9, q10, q11, q12, q13, q14, q15, q16⟩ := Fb.cells8 (S0.out.box (w.heap.size, 28, [.int .i64 s1, .slice a1 n1 c1, .int .i64 1, .slice b1 m1 d1, .int .i64 s2, .slice a2 n2 c2, .int .i64 1, .slice b2 m2 d2]) mq2)
  go_wp2_with fail
  clear q1 q2 q3 q4 q5 q6 q7 q8 q9 q10 q11 q12 q13 q14 q15 q16
  refine (p10div_zero (S0.out.fr (v := .slice a1 n1 c1) (u := .slice b1 m1 d1) (r := x) mq6 mq7 E1.out) Y1.out (S0.out.fr (v := .slice a2 n2 c2) (u := .slice b2 m2 d2) (r := y) mq4 mq5 E2.out) Y2.out (S0.out.fr (v := .slice a3 n3 c3) (u := .slice b3 m3 d3) (r := p) mq2 mq3 E3.out) Y3.out (S0.out.fr (v := .slice a4 n4 c4) (u := .slice b4 m4 d4) (r := q) mq0 mq1 E4.out) Y4.out HL.out HH.out H0.out).mono ?_
  rintro e w11 ⟨rfl, hb⟩
  have R11 := Lib.hid (S0.out.later hb)
  clear hb
  have P17 := Lib.hid (R11.out.put [.int .i64 0, .slice none 0 0, .int .i64 0, .slice none 0 0, .int .i64 0, .slice none 0 0, .int .i64 0, .slice none 0 0] 28)
  have Q17 := Lib.hid (Sf.row (pre := []) P17.out [.int .i64 0, .slice none 0 0, .int .i64 0, .slice none 0 0, .int .i64 0, .slice none 0 0, .int .i64 0, .slice none 0 0])
  obtain ⟨V17, hV17⟩ : ∃ V, ((w11.alloc (.cells #[.int .i64 0, .slice none 0 0, .int .i64 0, .slice none 0 0, .int .i64 0, .slice none 0 0, .int .i64 0, .slice none 0 0] 28)).setRow w11.heap.size #[.int .i64 0, .slice none 0 0, .int .i64 0, .slice none 0 0, .int .i64 0, .slice none 0 0, .int .i64 0, .slice none 0 0]) = V := ⟨_, rfl⟩
  rw [hV17] at Q17
  have HV17 := Lib.hid hV17
  clear hV17 R11
  obtain ⟨q18, q19, q20, q21, q22, q23, q24, q25⟩ := Fb.cells8 (Q17.out.box (w11.heap.size, 28, [.int .i64 0, .slice none 0 0, .int .i64 0, .slice none 0 0, .int .i64 0, .slice none 0 0, .int .i64 0, .slice none 0 0]) mq0)
  have Q26 := Lib.hid (Sf.row (pre := [(w11.heap.size, 28, [.int .i64 0, .slice none 0 0, .int .i64 0, .slice none 0 0, .int .i64 0, .slice none 0 0, .int .i64 0, .slice none 0 0])]) Q17.out [.int .i64 0, .slice none 0 0, .int .i64 0, .slice none 0 0, .int .i64 0, .slice none 0 0, .int .i64 0, .slice none 0 0])
  go_wp2_with (first | (refine wpList_store_row rfl _ _ _ rfl _ #[.int .i64 0, .slice none 0 0, .int .i64 0, .slice none 0 0, .int .i64 0, .slice none 0 0, .int .i64 0, .slice none 0 0] rfl rfl _ _ (P17.out.box _ List.mem_cons_self) (by kernel_rfl) rfl (by simp [Value.oneCell']) ?_; rw [HV17.out]) | refine wpList_store_row rfl _ _ _ rfl _ #[.int .i64 0, .slice none 0 0, .int .i64 0, .slice none 0 0, .int .i64 0, .slice none 0 0, .int .i64 0, .slice none 0 0] rfl rfl _ _ (Q17.out.box _ mq1) (by kernel_rfl) rfl (by simp [Value.oneCell']) ?_)
  clear q18 q19 q20 q21 q22 q23 q24 q25
  refine bodyPost_ret (ret_row rfl _ _ _ _ rfl (run_loadVar_row _ _ _ _ _ (0, 0) _ (Q26.out.box _ mq1) Try.underlying28 rfl (by kernel_rfl))) rfl ⟨rfl, Q26.out.below⟩

theorem p10play {w : World} {k : Nat} (hk : k ≤ 5) {s1 : Int} {a1 b1 : Option Addr} {n1 c1 m1 d1 : Nat} {x : Rat} {s2 : Int} {a2 b2 : Option Addr} {n2 c2 m2 d2 : Nat} {y : Rat} {s3 : Int} {a3 b3 : Option Addr} {n3 c3 m3 d3 : Nat} {p : Rat} {s4 : Int} {a4 b4 : Option Addr} {n4 c4 m4 d4 : Nat} {q : Rat} (h1 : Fr w s1 (.slice a1 n1 c1) (.slice b1 m1 d1) x) (z1 : FSz 400 x) (h2 : Fr w s2 (.slice a2 n2 c2) (.slice b2 m2 d2) y) (z2 : FSz 400 y) (h3 : Fr w s3 (.slice a3 n3 c3) (.slice b3 m3 d3) p) (z3 : FSz 400 p) (h4 : Fr w s4 (.slice a4 n4 c4) (.slice b4 m4 d4) q) (z4 : FSz 400 q) (hxy : x ≤ y) (hpq : p ≤ q) (h0 : k = 3 → ¬ In (p, q) 0) {r : Rat × Rat} (hr : conS (opF k) (x, y) (p, q) = r) :
    Calls Try.prog 12 #[.int .i64 (k : Int), .agg #[.int .i64 s1, .slice a1 n1 c1, .int .i64 1, .slice b1 m1 d1, .int .i64 s2, .slice a2 n2 c2, .int .i64 1, .slice b2 m2 d2], .agg #[.int .i64 s3, .slice a3 n3 c3, .int .i64 1, .slice b3 m3 d3, .int .i64 s4, .slice a4 n4 c4, .int .i64 1, .slice b4 m4 d4]] w (SpP (fun v => .tuple #[v, .int .i64 0]) r w) := by
  rcases le5 hk with rfl | rfl | rfl | rfl | rfl | rfl
  · exact play_add h1 z1 h2 z2 h3 z3 h4 z4 hxy hpq hr
  · exact play_sub h1 z1 h2 z2 h3 z3 h4 z4 hxy hpq hr
  · exact play_mul h1 z1 h2 z2 h3 z3 h4 z4 hxy hpq hr
  · exact play_div h1 z1 h2 z2 h3 z3 h4 z4 hxy hpq (h0 rfl) hr
  · exact play_min h1 z1 h2 z2 h3 z3 h4 z4 hxy hpq hr
  · exact play_max h1 z1 h2 z2 h3 z3 h4 z4 hxy hpq hr

end Go.Proofs.Ytgncnkojpedmdaa.Sp

namespace Go.Proofs.Ytgncnkojpedmdaa.Sp
open Go.RowKit Bi
/-- The result of an operation on spans. -/
def opS (k : Nat) (a b : Rat × Rat) : Rat × Rat := conS (opF k) a b
theorem szij {k i j m : Nat} {x y : Rat} (hk : k ≤ 5) (z1 : FSz i x) (z2 : FSz j y) (h0 : k = 3 → y ≠ 0) (hm : i + j + 1 = m := by rfl) : FSz m (opF k x y) := by
  subst hm
  have e1 : i ≤ i + j + 1 := by omega
  have e2 : j ≤ i + j + 1 := by omega
  have e3 : i + j ≤ i + j + 1 := by omega
  rcases le5 hk with rfl | rfl | rfl | rfl | rfl | rfl
  · exact FSz.add z1 z2
  · exact FSz.sub z1 z2
  · exact FSz.mono (FSz.mul z1 z2) e3
  · exact FSz.mono (FSz.div z1 z2 (h0 rfl)) e3
  · exact rmin_sz (FSz.mono z1 e1) (FSz.mono z2 e2)
  · exact rmax_sz (FSz.mono z1 e1) (FSz.mono z2 e2)
theorem opS_is {k : Nat} (hk : k ≤ 5) {a b : Rat × Rat} (ha : a.1 ≤ a.2) (hb : b.1 ≤ b.2) (h0 : k = 3 → ¬ In b 0) : IsOp (opF k) a b (opS k a b) := by
  rcases le5 hk with rfl | rfl | rfl | rfl | rfl | rfl
  · exact (corner_add a b).con ha hb
  · exact (corner_sub a b).con ha hb
  · exact (corner_mul a b).con ha hb
  · exact (corner_div a b (h0 rfl) hb).con ha hb
  · exact (corner_min a b).con ha hb
  · exact (corner_max a b).con ha hb
theorem opS_sz {k i j m : Nat} (hk : k ≤ 5) {x y p q : Rat} (z1 : FSz i x) (z2 : FSz i y) (z3 : FSz j p) (z4 : FSz j q) (hpq : p ≤ q) (h0 : k = 3 → ¬ In (p, q) 0) {r : Rat × Rat} (hr : opS k (x, y) (p, q) = r) (hm : i + j + 1 = m := by rfl) : FSz m r.1 ∧ FSz m r.2 := by
  have hp : k = 3 → p ≠ 0 := fun e f => h0 e ⟨f ▸ Rat.le_refl, f ▸ hpq⟩
  have hq : k = 3 → q ≠ 0 := fun e f => h0 e ⟨f ▸ hpq, f ▸ Rat.le_refl⟩
  exact conS_sz (k := m) (szij hk z1 z3 hp hm) (szij hk z2 z3 hp hm) (szij hk z1 z4 hq hm) (szij hk z2 z4 hq hm) hr
theorem comS {k : Nat} (hk : k = 0 ∨ k = 2 ∨ k = 4 ∨ k = 5) {a b : Rat × Rat} (ha : a.1 ≤ a.2) (hb : b.1 ≤ b.2) : opS k a b = opS k b a := by
  rcases hk with rfl | rfl | rfl | rfl
  · exact (con_add ha hb).trans ((add_comm' a b).trans (con_add hb ha).symm)
  · exact mul_comm' ha hb
  · exact (con_min ha hb).trans ((min_comm' a b).trans (con_min hb ha).symm)
  · exact (con_max ha hb).trans ((max_comm' a b).trans (con_max hb ha).symm)
theorem assS {k : Nat} (hk : k = 0 ∨ k = 2 ∨ k = 4 ∨ k = 5) {a b c : Rat × Rat} (ha : a.1 ≤ a.2) (hb : b.1 ≤ b.2) (hc : c.1 ≤ c.2) : opS k (opS k a b) c = opS k a (opS k b c) := by
  have hk5 : k ≤ 5 := by omega
  have h0 : ∀ b : Rat × Rat, k = 3 → ¬ In b 0 := fun _ e => by omega
  have e1 := (opS_is hk5 ha hb (h0 _)).le
  have e2 := (opS_is hk5 hb hc (h0 _)).le
  rcases hk with rfl | rfl | rfl | rfl
  · rw [show opS 0 (opS 0 a b) c = addS (opS 0 a b) c from con_add e1 hc, show opS 0 a (opS 0 b c) = addS a (opS 0 b c) from con_add ha e2, show opS 0 a b = addS a b from con_add ha hb, show opS 0 b c = addS b c from con_add hb hc]
    exact add_assoc' a b c
  · exact mul_assoc' ha hb hc
  · rw [show opS 4 (opS 4 a b) c = minS (opS 4 a b) c from con_min e1 hc, show opS 4 a (opS 4 b c) = minS a (opS 4 b c) from con_min ha e2, show opS 4 a b = minS a b from con_min ha hb, show opS 4 b c = minS b c from con_min hb hc]
    exact min_assoc' a b c
  · rw [show opS 5 (opS 5 a b) c = maxS (opS 5 a b) c from con_max e1 hc, show opS 5 a (opS 5 b c) = maxS a (opS 5 b c) from con_max ha e2, show opS 5 a b = maxS a b from con_max ha hb, show opS 5 b c = maxS b c from con_max hb hc]
    exact max_assoc' a b c
theorem pairs_eq {a b c d : Rat} (h : (a, b) = (c, d)) : (decide (a = c) && decide (b = d)) = true := by
  cases h; simp
theorem pair_eq {r t : Rat × Rat} (h : r = t) : (decide (r.1 = t.1) && decide (r.2 = t.2)) = true := by
  cases h; simp
theorem sub_b {a b : Rat × Rat} (h : Sub a b) : (decide (b.1 ≤ a.1) && decide (a.2 ≤ b.2)) = true := by
  rw [Bool.and_eq_true, decide_eq_true_eq, decide_eq_true_eq]; exact ⟨h.1.1, h.2.2⟩

set_option maxHeartbeats 16000000 in
theorem p10turns {w : World} {k : Nat} (hk : k = 0 ∨ k = 2 ∨ k = 4 ∨ k = 5) {s1 : Int} {a1 b1 : Option Addr} {n1 c1 m1 d1 : Nat} {x : Rat} {s2 : Int} {a2 b2 : Option Addr} {n2 c2 m2 d2 : Nat} {y : Rat} {s3 : Int} {a3 b3 : Option Addr} {n3 c3 m3 d3 : Nat} {p : Rat} {s4 : Int} {a4 b4 : Option Addr} {n4 c4 m4 d4 : Nat} {q : Rat} {s5 : Int} {a5 b5 : Option Addr} {n5 c5 m5 d5 : Nat} {xx : Rat} {s6 : Int} {a6 b6 : Option Addr} {n6 c6 m6 d6 : Nat} {yy : Rat} (h1 : Fr w s1 (.slice a1 n1 c1) (.slice b1 m1 d1) x) (z1 : FSz 4 x) (h2 : Fr w s2 (.slice a2 n2 c2) (.slice b2 m2 d2) y) (z2 : FSz 4 y) (h3 : Fr w s3 (.slice a3 n3 c3) (.slice b3 m3 d3) p) (z3 : FSz 4 p) (h4 : Fr w s4 (.slice a4 n4 c4) (.slice b4 m4 d4) q) (z4 : FSz 4 q) (h5 : Fr w s5 (.slice a5 n5 c5) (.slice b5 m5 d5) xx) (z5 : FSz 4 xx) (h6 : Fr w s6 (.slice a6 n6 c6) (.slice b6 m6 d6) yy) (z6 : FSz 4 yy) (hxy : x ≤ y) (hpq : p ≤ q) (huv : xx ≤ yy) :
    Calls Try.prog 22 #[.int .i64 (k : Int), .agg #[.int .i64 s1, .slice a1 n1 c1, .int .i64 1, .slice b1 m1 d1, .int .i64 s2, .slice a2 n2 c2, .int .i64 1, .slice b2 m2 d2], .agg #[.int .i64 s3, .slice a3 n3 c3, .int .i64 1, .slice b3 m3 d3, .int .i64 s4, .slice a4 n4 c4, .int .i64 1, .slice b4 m4 d4], .agg #[.int .i64 s5, .slice a5 n5 c5, .int .i64 1, .slice b5 m5 d5, .int .i64 s6, .slice a6 n6 c6, .int .i64 1, .slice b6 m6 d6]] w fun e w' => e = .returned (.bool true) ∧ RowKit.Below w.heap.size w w' := by
  have hk5 : k ≤ 5 := by omega
  have h0 : ∀ b : Rat × Rat, k = 3 → ¬ In b 0 := fun _ e => by omega
  have HXY := Lib.hid hxy
  have HPQ := Lib.hid hpq
  have HUV := Lib.hid huv
  have H5 := Lib.hid hk5
  have H0 := Lib.hid h0
  obtain ⟨ma, hma⟩ : ∃ r, opS k (x, y) (p, q) = r := ⟨_, rfl⟩
  have Hma : Hid (conS (opF k) (x, y) (p, q) = ma) := Lib.hid hma
  obtain ⟨mb, hmb⟩ : ∃ r, opS k (p, q) (x, y) = r := ⟨_, rfl⟩
  have Hmb : Hid (conS (opF k) (p, q) (x, y) = mb) := Lib.hid hmb
  obtain ⟨mc, hmc⟩ : ∃ r, opS k (p, q) (xx, yy) = r := ⟨_, rfl⟩
  have Hmc : Hid (conS (opF k) (p, q) (xx, yy) = mc) := Lib.hid hmc
  obtain ⟨md, hmd⟩ : ∃ r, opS k (ma.1, ma.2) (xx, yy) = r := ⟨_, rfl⟩
  have Hmd : Hid (conS (opF k) (ma.1, ma.2) (xx, yy) = md) := Lib.hid hmd
  obtain ⟨me, hme⟩ : ∃ r, opS k (x, y) (mc.1, mc.2) = r := ⟨_, rfl⟩
  have Hme : Hid (conS (opF k) (x, y) (mc.1, mc.2) = me) := Lib.hid hme
  have SA := Lib.hid (opS_sz hk5 z1 z2 z3 z4 hpq (h0 _) hma)
  have SC := Lib.hid (opS_sz hk5 z3 z4 z5 z6 huv (h0 _) hmc)
  have LA : Hid (ma.1 ≤ ma.2) := Lib.hid (by rw [← hma]; exact (opS_is hk5 (a := (x, y)) (b := (p, q)) hxy hpq (h0 _)).le)
  have LC : Hid (mc.1 ≤ mc.2) := Lib.hid (by rw [← hmc]; exact (opS_is hk5 (a := (p, q)) (b := (xx, yy)) hpq huv (h0 _)).le)
  have Q1 := Lib.hid (pair_eq (show ma = mb by rw [← hma, ← hmb]; exact comS hk (a := (x, y)) (b := (p, q)) hxy hpq))
  have Q2 := Lib.hid (pair_eq (show md = me by
    have := assS hk (a := (x, y)) (b := (p, q)) (c := (xx, yy)) hxy hpq huv
    rw [hma, hmc] at this
    rw [← hmd, ← hme]; exact this))
  have E1 := Lib.hid h1.1.1
  have Y1 := Lib.hid (FSz.mono z1 (j := 400))
  have E2 := Lib.hid h2.1.1
  have Y2 := Lib.hid (FSz.mono z2 (j := 400))
  have E3 := Lib.hid h3.1.1
  have Y3 := Lib.hid (FSz.mono z3 (j := 400))
  have E4 := Lib.hid h4.1.1
  have Y4 := Lib.hid (FSz.mono z4 (j := 400))
  have E5 := Lib.hid h5.1.1
  have Y5 := Lib.hid (FSz.mono z5 (j := 400))
  have E6 := Lib.hid h6.1.1
  have Y6 := Lib.hid (FSz.mono z6 (j := 400))
  have s0 := ((((((((((((((((Sf.start w).arg h1.2.2).arg h1.1.2).arg h2.2.2).arg h2.1.2).arg h3.2.2).arg h3.1.2).arg h4.2.2).arg h4.1.2).arg h5.2.2).arg h5.1.2).arg h6.2.2).arg h6.1.2).put [.int .i64 s1, .slice a1 n1 c1, .int .i64 1, .slice b1 m1 d1, .int .i64 s2, .slice a2 n2 c2, .int .i64 1, .slice b2 m2 d2] 28).put [.int .i64 s3, .slice a3 n3 c3, .int .i64 1, .slice b3 m3 d3, .int .i64 s4, .slice a4 n4 c4, .int .i64 1, .slice b4 m4 d4] 28).put [.int .i64 s5, .slice a5 n5 c5, .int .i64 1, .slice b5 m5 d5, .int .i64 s6, .slice a6 n6 c6, .int .i64 1, .slice b6 m6 d6] 28)
  try simp only [World.size_alloc] at s0
  have S0 := Lib.hid s0
  clear s0
  clear hk hk5 h0 hxy hpq huv h1 z1 h2 z2 h3 z3 h4 z4 h5 z5 h6 z6 hma hmb hmc hmd hme
  go_enter Try.func22, Try.ntmps22
  obtain ⟨q1, q2, q3, q4, q5, q6, q7, q8⟩ := Fb.cells8 (S0.out.box (w.heap.size + 1, 28, [.int .i64 s3, .slice a3 n3 c3, .int .i64 1, .slice b3 m3 d3, .int .i64 s4, .slice a4 n4 c4, .int .i64 1, .slice b4 m4 d4]) mq1)
  obtain ⟨q9, q10, q11, q12, q13, q14, q15, q16⟩ := Fb.cells8 (S0.out.box (w.heap.size, 28, [.int .i64 s1, .slice a1 n1 c1, .int .i64 1, .slice b1 m1 d1, .int .i64 s2, .slice a2 n2 c2, .int .i64 1, .slice b2 m2 d2]) mq2)
  go_wp2_with fail
  clear q1 q2 q3 q4 q5 q6 q7 q8 q9 q10 q11 q12 q13 q14 q15 q16
  refine (p10play (k := k) H5.out (S0.out.fr (v := .slice a1 n1 c1) (u := .slice b1 m1 d1) (r := x) mq10 mq11 E1.out) Y1.out (S0.out.fr (v := .slice a2 n2 c2) (u := .slice b2 m2 d2) (r := y) mq8 mq9 E2.out) Y2.out (S0.out.fr (v := .slice a3 n3 c3) (u := .slice b3 m3 d3) (r := p) mq6 mq7 E3.out) Y3.out (S0.out.fr (v := .slice a4 n4 c4) (u := .slice b4 m4 d4) (r := q) mq4 mq5 E4.out) Y4.out HXY.out HPQ.out (H0.out _) Hma.out).mono ?_
  rintro e w11 ⟨c11, d11, rfl, h1, h2, hb, ho⟩
  have EC11 := Lib.hid h1.1.1
  have ED11 := Lib.hid h2.1.1
  have R11 := Lib.hid (Sf.span S0.out hb h1 h2 (fun x hx => ho x.1 (S0.out.lt x hx)))
  clear h1 h2 hb ho
  have P17 := Lib.hid (R11.out.put [.int .i64 0, .slice none 0 0, .int .i64 0, .slice none 0 0, .int .i64 0, .slice none 0 0, .int .i64 0, .slice none 0 0] 28)
  have Q17 := Lib.hid (Sf.row (pre := []) P17.out [.int .i64 c11.s, .slice c11.a c11.n c11.c, .int .i64 1, .slice c11.b c11.m c11.d, .int .i64 d11.s, .slice d11.a d11.n d11.c, .int .i64 1, .slice d11.b d11.m d11.d])
  obtain ⟨V17, hV17⟩ : ∃ V, ((w11.alloc (.cells #[.int .i64 0, .slice none 0 0, .int .i64 0, .slice none 0 0, .int .i64 0, .slice none 0 0, .int .i64 0, .slice none 0 0] 28)).setRow w11.heap.size #[.int .i64 c11.s, .slice c11.a c11.n c11.c, .int .i64 1, .slice c11.b c11.m c11.d, .int .i64 d11.s, .slice d11.a d11.n d11.c, .int .i64 1, .slice d11.b d11.m d11.d]) = V := ⟨_, rfl⟩
  rw [hV17] at Q17
  have HV17 := Lib.hid hV17
  clear hV17 R11
  obtain ⟨q18, q19, q20, q21, q22, q23, q24, q25⟩ := Fb.cells8 (Q17.out.box (w.heap.size + 1, 28, [.int .i64 s3, .slice a3 n3 c3, .int .i64 1, .slice b3 m3 d3, .int .i64 s4, .slice a4 n4 c4, .int .i64 1, .slice b4 m4 d4]) mq2)
  obtain ⟨q26, q27, q28, q29, q30, q31, q32, q33⟩ := Fb.cells8 (Q17.out.box (w.heap.size, 28, [.int .i64 s1, .slice a1 n1 c1, .int .i64 1, .slice b1 m1 d1, .int .i64 s2, .slice a2 n2 c2, .int .i64 1, .slice b2 m2 d2]) mq3)
  go_wp2_with (first | (refine wpList_store_row rfl _ _ _ rfl _ #[.int .i64 c11.s, .slice c11.a c11.n c11.c, .int .i64 1, .slice c11.b c11.m c11.d, .int .i64 d11.s, .slice d11.a d11.n d11.c, .int .i64 1, .slice d11.b d11.m d11.d] rfl rfl _ _ (P17.out.box _ List.mem_cons_self) (by kernel_rfl) rfl (by simp [Value.oneCell']) ?_; rw [HV17.out]))
  clear q18 q19 q20 q21 q22 q23 q24 q25 q26 q27 q28 q29 q30 q31 q32 q33
  refine (p10play (k := k) H5.out (Q17.out.fr (v := .slice a3 n3 c3) (u := .slice b3 m3 d3) (r := p) mq10 mq11 E3.out) Y3.out (Q17.out.fr (v := .slice a4 n4 c4) (u := .slice b4 m4 d4) (r := q) mq8 mq9 E4.out) Y4.out (Q17.out.fr (v := .slice a1 n1 c1) (u := .slice b1 m1 d1) (r := x) mq14 mq15 E1.out) Y1.out (Q17.out.fr (v := .slice a2 n2 c2) (u := .slice b2 m2 d2) (r := y) mq12 mq13 E2.out) Y2.out HPQ.out HXY.out (H0.out _) Hmb.out).mono ?_
  rintro e w12 ⟨c12, d12, rfl, h1, h2, hb, ho⟩
  have EC12 := Lib.hid h1.1.1
  have ED12 := Lib.hid h2.1.1
  have R12 := Lib.hid (Sf.span Q17.out hb h1 h2 (fun x hx => ho x.1 (Q17.out.lt x hx)))
  clear h1 h2 hb ho
  have P34 := Lib.hid (R12.out.put [.int .i64 0, .slice none 0 0, .int .i64 0, .slice none 0 0, .int .i64 0, .slice none 0 0, .int .i64 0, .slice none 0 0] 28)
  have Q34 := Lib.hid (Sf.row (pre := []) P34.out [.int .i64 c12.s, .slice c12.a c12.n c12.c, .int .i64 1, .slice c12.b c12.m c12.d, .int .i64 d12.s, .slice d12.a d12.n d12.c, .int .i64 1, .slice d12.b d12.m d12.d])
  obtain ⟨V34, hV34⟩ : ∃ V, ((w12.alloc (.cells #[.int .i64 0, .slice none 0 0, .int .i64 0, .slice none 0 0, .int .i64 0, .slice none 0 0, .int .i64 0, .slice none 0 0] 28)).setRow w12.heap.size #[.int .i64 c12.s, .slice c12.a c12.n c12.c, .int .i64 1, .slice c12.b c12.m c12.d, .int .i64 d12.s, .slice d12.a d12.n d12.c, .int .i64 1, .slice d12.b d12.m d12.d]) = V := ⟨_, rfl⟩
  rw [hV34] at Q34
  have HV34 := Lib.hid hV34
  clear hV34 R12
  obtain ⟨q35, q36, q37, q38, q39, q40, q41, q42⟩ := Fb.cells8 (Q34.out.box (w.heap.size + 1 + 1, 28, [.int .i64 s5, .slice a5 n5 c5, .int .i64 1, .slice b5 m5 d5, .int .i64 s6, .slice a6 n6 c6, .int .i64 1, .slice b6 m6 d6]) mq2)
  obtain ⟨q43, q44, q45, q46, q47, q48, q49, q50⟩ := Fb.cells8 (Q34.out.box (w.heap.size + 1, 28, [.int .i64 s3, .slice a3 n3 c3, .int .i64 1, .slice b3 m3 d3, .int .i64 s4, .slice a4 n4 c4, .int .i64 1, .slice b4 m4 d4]) mq3)
  go_wp2_with (first | (refine wpList_store_row rfl _ _ _ rfl _ #[.int .i64 c12.s, .slice c12.a c12.n c12.c, .int .i64 1, .slice c12.b c12.m c12.d, .int .i64 d12.s, .slice d12.a d12.n d12.c, .int .i64 1, .slice d12.b d12.m d12.d] rfl rfl _ _ (P34.out.box _ List.mem_cons_self) (by kernel_rfl) rfl (by simp [Value.oneCell']) ?_; rw [HV34.out]))
  clear q35 q36 q37 q38 q39 q40 q41 q42 q43 q44 q45 q46 q47 q48 q49 q50
  refine (p10play (k := k) H5.out (Q34.out.fr (v := .slice a3 n3 c3) (u := .slice b3 m3 d3) (r := p) mq14 mq15 E3.out) Y3.out (Q34.out.fr (v := .slice a4 n4 c4) (u := .slice b4 m4 d4) (r := q) mq12 mq13 E4.out) Y4.out (Q34.out.fr (v := .slice a5 n5 c5) (u := .slice b5 m5 d5) (r := xx) mq10 mq11 E5.out) Y5.out (Q34.out.fr (v := .slice a6 n6 c6) (u := .slice b6 m6 d6) (r := yy) mq8 mq9 E6.out) Y6.out HPQ.out HUV.out (H0.out _) Hmc.out).mono ?_
  rintro e w13 ⟨c13, d13, rfl, h1, h2, hb, ho⟩
  have EC13 := Lib.hid h1.1.1
  have ED13 := Lib.hid h2.1.1
  have R13 := Lib.hid (Sf.span Q34.out hb h1 h2 (fun x hx => ho x.1 (Q34.out.lt x hx)))
  clear h1 h2 hb ho
  have P51 := Lib.hid (R13.out.put [.int .i64 0, .slice none 0 0, .int .i64 0, .slice none 0 0, .int .i64 0, .slice none 0 0, .int .i64 0, .slice none 0 0] 28)
  have Q51 := Lib.hid (Sf.row (pre := []) P51.out [.int .i64 c13.s, .slice c13.a c13.n c13.c, .int .i64 1, .slice c13.b c13.m c13.d, .int .i64 d13.s, .slice d13.a d13.n d13.c, .int .i64 1, .slice d13.b d13.m d13.d])
  obtain ⟨V51, hV51⟩ : ∃ V, ((w13.alloc (.cells #[.int .i64 0, .slice none 0 0, .int .i64 0, .slice none 0 0, .int .i64 0, .slice none 0 0, .int .i64 0, .slice none 0 0] 28)).setRow w13.heap.size #[.int .i64 c13.s, .slice c13.a c13.n c13.c, .int .i64 1, .slice c13.b c13.m c13.d, .int .i64 d13.s, .slice d13.a d13.n d13.c, .int .i64 1, .slice d13.b d13.m d13.d]) = V := ⟨_, rfl⟩
  rw [hV51] at Q51
  have HV51 := Lib.hid hV51
  clear hV51 R13
  obtain ⟨q52, q53, q54, q55, q56, q57, q58, q59⟩ := Fb.cells8 (Q51.out.box (w11.heap.size, 28, [.int .i64 c11.s, .slice c11.a c11.n c11.c, .int .i64 1, .slice c11.b c11.m c11.d, .int .i64 d11.s, .slice d11.a d11.n d11.c, .int .i64 1, .slice d11.b d11.m d11.d]) mq2)
  obtain ⟨q60, q61, q62, q63, q64, q65, q66, q67⟩ := Fb.cells8 (Q51.out.box (w.heap.size + 1 + 1, 28, [.int .i64 s5, .slice a5 n5 c5, .int .i64 1, .slice b5 m5 d5, .int .i64 s6, .slice a6 n6 c6, .int .i64 1, .slice b6 m6 d6]) mq3)
  go_wp2_with (first | (refine wpList_store_row rfl _ _ _ rfl _ #[.int .i64 c13.s, .slice c13.a c13.n c13.c, .int .i64 1, .slice c13.b c13.m c13.d, .int .i64 d13.s, .slice d13.a d13.n d13.c, .int .i64 1, .slice d13.b d13.m d13.d] rfl rfl _ _ (P51.out.box _ List.mem_cons_self) (by kernel_rfl) rfl (by simp [Value.oneCell']) ?_; rw [HV51.out]))
  clear q52 q53 q54 q55 q56 q57 q58 q59 q60 q61 q62 q63 q64 q65 q66 q67
  refine (p10play (k := k) H5.out (Q51.out.fr (v := .slice c11.a c11.n c11.c) (u := .slice c11.b c11.m c11.d) (r := ma.1) mq8 mq9 EC11.out) SA.out.1.mono (Q51.out.fr (v := .slice d11.a d11.n d11.c) (u := .slice d11.b d11.m d11.d) (r := ma.2) mq10 mq11 ED11.out) SA.out.2.mono (Q51.out.fr (v := .slice a5 n5 c5) (u := .slice b5 m5 d5) (r := xx) mq14 mq15 E5.out) Y5.out (Q51.out.fr (v := .slice a6 n6 c6) (u := .slice b6 m6 d6) (r := yy) mq12 mq13 E6.out) Y6.out LA.out HUV.out (H0.out _) Hmd.out).mono ?_
  rintro e w14 ⟨c14, d14, rfl, h1, h2, hb, ho⟩
  have EC14 := Lib.hid h1.1.1
  have ED14 := Lib.hid h2.1.1
  have R14 := Lib.hid (Sf.span Q51.out hb h1 h2 (fun x hx => ho x.1 (Q51.out.lt x hx)))
  clear h1 h2 hb ho
  have P68 := Lib.hid (R14.out.put [.int .i64 0, .slice none 0 0, .int .i64 0, .slice none 0 0, .int .i64 0, .slice none 0 0, .int .i64 0, .slice none 0 0] 28)
  have Q68 := Lib.hid (Sf.row (pre := []) P68.out [.int .i64 c14.s, .slice c14.a c14.n c14.c, .int .i64 1, .slice c14.b c14.m c14.d, .int .i64 d14.s, .slice d14.a d14.n d14.c, .int .i64 1, .slice d14.b d14.m d14.d])
  obtain ⟨V68, hV68⟩ : ∃ V, ((w14.alloc (.cells #[.int .i64 0, .slice none 0 0, .int .i64 0, .slice none 0 0, .int .i64 0, .slice none 0 0, .int .i64 0, .slice none 0 0] 28)).setRow w14.heap.size #[.int .i64 c14.s, .slice c14.a c14.n c14.c, .int .i64 1, .slice c14.b c14.m c14.d, .int .i64 d14.s, .slice d14.a d14.n d14.c, .int .i64 1, .slice d14.b d14.m d14.d]) = V := ⟨_, rfl⟩
  rw [hV68] at Q68
  have HV68 := Lib.hid hV68
  clear hV68 R14
  obtain ⟨q69, q70, q71, q72, q73, q74, q75, q76⟩ := Fb.cells8 (Q68.out.box (w13.heap.size, 28, [.int .i64 c13.s, .slice c13.a c13.n c13.c, .int .i64 1, .slice c13.b c13.m c13.d, .int .i64 d13.s, .slice d13.a d13.n d13.c, .int .i64 1, .slice d13.b d13.m d13.d]) mq1)
  obtain ⟨q77, q78, q79, q80, q81, q82, q83, q84⟩ := Fb.cells8 (Q68.out.box (w.heap.size, 28, [.int .i64 s1, .slice a1 n1 c1, .int .i64 1, .slice b1 m1 d1, .int .i64 s2, .slice a2 n2 c2, .int .i64 1, .slice b2 m2 d2]) mq6)
  go_wp2_with (first | (refine wpList_store_row rfl _ _ _ rfl _ #[.int .i64 c14.s, .slice c14.a c14.n c14.c, .int .i64 1, .slice c14.b c14.m c14.d, .int .i64 d14.s, .slice d14.a d14.n d14.c, .int .i64 1, .slice d14.b d14.m d14.d] rfl rfl _ _ (P68.out.box _ List.mem_cons_self) (by kernel_rfl) rfl (by simp [Value.oneCell']) ?_; rw [HV68.out]))
  clear q69 q70 q71 q72 q73 q74 q75 q76 q77 q78 q79 q80 q81 q82 q83 q84
  refine (p10play (k := k) H5.out (Q68.out.fr (v := .slice a1 n1 c1) (u := .slice b1 m1 d1) (r := x) mq26 mq27 E1.out) Y1.out (Q68.out.fr (v := .slice a2 n2 c2) (u := .slice b2 m2 d2) (r := y) mq24 mq25 E2.out) Y2.out (Q68.out.fr (v := .slice c13.a c13.n c13.c) (u := .slice c13.b c13.m c13.d) (r := mc.1) mq4 mq5 EC13.out) SC.out.1.mono (Q68.out.fr (v := .slice d13.a d13.n d13.c) (u := .slice d13.b d13.m d13.d) (r := mc.2) mq6 mq7 ED13.out) SC.out.2.mono HXY.out LC.out (H0.out _) Hme.out).mono ?_
  rintro e w15 ⟨c15, d15, rfl, h1, h2, hb, ho⟩
  have EC15 := Lib.hid h1.1.1
  have ED15 := Lib.hid h2.1.1
  have R15 := Lib.hid (Sf.span Q68.out hb h1 h2 (fun x hx => ho x.1 (Q68.out.lt x hx)))
  clear h1 h2 hb ho
  have P85 := Lib.hid (R15.out.put [.int .i64 0, .slice none 0 0, .int .i64 0, .slice none 0 0, .int .i64 0, .slice none 0 0, .int .i64 0, .slice none 0 0] 28)
  have Q85 := Lib.hid (Sf.row (pre := []) P85.out [.int .i64 c15.s, .slice c15.a c15.n c15.c, .int .i64 1, .slice c15.b c15.m c15.d, .int .i64 d15.s, .slice d15.a d15.n d15.c, .int .i64 1, .slice d15.b d15.m d15.d])
  obtain ⟨V85, hV85⟩ : ∃ V, ((w15.alloc (.cells #[.int .i64 0, .slice none 0 0, .int .i64 0, .slice none 0 0, .int .i64 0, .slice none 0 0, .int .i64 0, .slice none 0 0] 28)).setRow w15.heap.size #[.int .i64 c15.s, .slice c15.a c15.n c15.c, .int .i64 1, .slice c15.b c15.m c15.d, .int .i64 d15.s, .slice d15.a d15.n d15.c, .int .i64 1, .slice d15.b d15.m d15.d]) = V := ⟨_, rfl⟩
  rw [hV85] at Q85
  have HV85 := Lib.hid hV85
  clear hV85 R15
  obtain ⟨q86, q87, q88, q89, q90, q91, q92, q93⟩ := Fb.cells8 (Q85.out.box (w11.heap.size, 28, [.int .i64 c11.s, .slice c11.a c11.n c11.c, .int .i64 1, .slice c11.b c11.m c11.d, .int .i64 d11.s, .slice d11.a d11.n d11.c, .int .i64 1, .slice d11.b d11.m d11.d]) mq4)
  obtain ⟨q94, q95, q96, q97, q98, q99, q100, q101⟩ := Fb.cells8 (Q85.out.box (w12.heap.size, 28, [.int .i64 c12.s, .slice c12.a c12.n c12.c, .int .i64 1, .slice c12.b c12.m c12.d, .int .i64 d12.s, .slice d12.a d12.n d12.c, .int .i64 1, .slice d12.b d12.m d12.d]) mq3)
  go_wp2_with (first | (refine wpList_store_row rfl _ _ _ rfl _ #[.int .i64 c15.s, .slice c15.a c15.n c15.c, .int .i64 1, .slice c15.b c15.m c15.d, .int .i64 d15.s, .slice d15.a d15.n d15.c, .int .i64 1, .slice d15.b d15.m d15.d] rfl rfl _ _ (P85.out.box _ List.mem_cons_self) (by kernel_rfl) rfl (by simp [Value.oneCell']) ?_; rw [HV85.out]))
  clear q86 q87 q88 q89 q90 q91 q92 q93 q94 q95 q96 q97 q98 q99 q100 q101
  refine (same_fo (r := true) (Q85.out.fr (v := .slice c11.a c11.n c11.c) (u := .slice c11.b c11.m c11.d) (r := ma.1) mq16 mq17 EC11.out) (Q85.out.fr (v := .slice d11.a d11.n d11.c) (u := .slice d11.b d11.m d11.d) (r := ma.2) mq18 mq19 ED11.out) (Q85.out.fr (v := .slice c12.a c12.n c12.c) (u := .slice c12.b c12.m c12.d) (r := mb.1) mq12 mq13 EC12.out) (Q85.out.fr (v := .slice d12.a d12.n d12.c) (u := .slice d12.b d12.m d12.d) (r := mb.2) mq14 mq15 ED12.out) Q1.out).mono ?_
  rintro e w16 ⟨rfl, hb⟩
  have R16 := Lib.hid (Q85.out.later hb)
  clear hb
  obtain ⟨q102, q103, q104, q105, q106, q107, q108, q109⟩ := Fb.cells8 (R16.out.box (w14.heap.size, 28, [.int .i64 c14.s, .slice c14.a c14.n c14.c, .int .i64 1, .slice c14.b c14.m c14.d, .int .i64 d14.s, .slice d14.a d14.n d14.c, .int .i64 1, .slice d14.b d14.m d14.d]) mq1)
  obtain ⟨q110, q111, q112, q113, q114, q115, q116, q117⟩ := Fb.cells8 (R16.out.box (w15.heap.size, 28, [.int .i64 c15.s, .slice c15.a c15.n c15.c, .int .i64 1, .slice c15.b c15.m c15.d, .int .i64 d15.s, .slice d15.a d15.n d15.c, .int .i64 1, .slice d15.b d15.m d15.d]) mq0)
  go_wp2_with fail
  clear q102 q103 q104 q105 q106 q107 q108 q109 q110 q111 q112 q113 q114 q115 q116 q117
  refine (same_fo (r := true) (R16.out.fr (v := .slice c14.a c14.n c14.c) (u := .slice c14.b c14.m c14.d) (r := md.1) mq4 mq5 EC14.out) (R16.out.fr (v := .slice d14.a d14.n d14.c) (u := .slice d14.b d14.m d14.d) (r := md.2) mq6 mq7 ED14.out) (R16.out.fr (v := .slice c15.a c15.n c15.c) (u := .slice c15.b c15.m c15.d) (r := me.1) mq0 mq1 EC15.out) (R16.out.fr (v := .slice d15.a d15.n d15.c) (u := .slice d15.b d15.m d15.d) (r := me.2) mq2 mq3 ED15.out) Q2.out).mono ?_
  rintro e w17 ⟨rfl, hb⟩
  have R17 := Lib.hid (R16.out.later hb)
  clear hb
  go_wp2_with fail
  go_ret
  exact ⟨rfl, R17.out.below⟩
end Go.Proofs.Ytgncnkojpedmdaa.Sp

namespace Go.Proofs.Ytgncnkojpedmdaa.Sp
open Go.RowKit Bi

set_option maxHeartbeats 8000000 in
theorem calc_add {w : World} {s1 : Int} {a1 b1 : Option Addr} {n1 c1 m1 d1 : Nat} {x : Rat} {s2 : Int} {a2 b2 : Option Addr} {n2 c2 m2 d2 : Nat} {y : Rat} (h1 : Fr w s1 (.slice a1 n1 c1) (.slice b1 m1 d1) x) (z1 : FSz 1000 x) (h2 : Fr w s2 (.slice a2 n2 c2) (.slice b2 m2 d2) y) (z2 : FSz 1000 y) :
    Calls Try.prog 14 #[.int .i64 0, .agg #[.int .i64 s1, .slice a1 n1 c1, .int .i64 1, .slice b1 m1 d1], .agg #[.int .i64 s2, .slice a2 n2 c2, .int .i64 1, .slice b2 m2 d2]] w (FVE (opF 0 x y) 0 w) := by
  obtain ⟨r, hr⟩ : ∃ r, opF 0 x y = r := ⟨_, rfl⟩
  rw [hr]
  have HR := Lib.hid hr
  have E1 := Lib.hid h1.1.1
  have Z1 := Lib.hid z1
  have E2 := Lib.hid h2.1.1
  have Z2 := Lib.hid z2
  have s0 := ((((((((Sf.start w).arg h1.2.2).arg h1.1.2).arg h2.2.2).arg h2.1.2).put [.int .i64 s1, .slice a1 n1 c1, .int .i64 1, .slice b1 m1 d1] 26).put [.int .i64 s2, .slice a2 n2 c2, .int .i64 1, .slice b2 m2 d2] 26).put [.int .i64 0, .slice none 0 0, .int .i64 0, .slice none 0 0] 26)
  try simp only [World.size_alloc] at s0
  have S0 := Lib.hid s0
  clear s0
  clear h1 h2 z1 z2 hr
  go_enter Try.func14, Try.ntmps14
  obtain ⟨q1, q2, q3, q4⟩ := Fb.cells4 (S0.out.box (w.heap.size + 1, 26, [.int .i64 s2, .slice a2 n2 c2, .int .i64 1, .slice b2 m2 d2]) mq1)
  obtain ⟨q5, q6, q7, q8⟩ := Fb.cells4 (S0.out.box (w.heap.size, 26, [.int .i64 s1, .slice a1 n1 c1, .int .i64 1, .slice b1 m1 d1]) mq2)
  go_wp2_with fail
  clear q1 q2 q3 q4 q5 q6 q7 q8
  refine (fadd_r (S0.out.fr (v := .slice a1 n1 c1) (u := .slice b1 m1 d1) (r := x) mq2 mq3 E1.out) (S0.out.fr (v := .slice a2 n2 c2) (u := .slice b2 m2 d2) (r := y) mq0 mq1 E2.out) Z1.out Z2.out HR.out).mono ?_
  rintro e w11 ⟨sx11, ax11, nx11, cx11, bx11, mx11, dx11, rfl, hr, hb, hf, hg⟩
  have E11 := Lib.hid hr.1.1
  have R11 := Lib.hid (S0.out.ret2 hb hr.1.2 hf hr.2.2 hg)
  have FF11 := Lib.hid (hf.mono S0.out.below.size)
  have FG11 := Lib.hid (hg.mono S0.out.below.size)
  clear hr hb hf hg
  have P9 := Lib.hid (R11.out.put [.int .i64 0, .slice none 0 0, .int .i64 0, .slice none 0 0] 26)
  have Q9 := Lib.hid (Sf.row (pre := []) P9.out [.int .i64 sx11, .slice ax11 nx11 cx11, .int .i64 1, .slice bx11 mx11 dx11])
  obtain ⟨q10, q11, q12, q13⟩ := Fb.cells4 (Q9.out.box (w11.heap.size, 26, [.int .i64 sx11, .slice ax11 nx11 cx11, .int .i64 1, .slice bx11 mx11 dx11]) mq0)
  have Q14 := Lib.hid (Sf.row (pre := [(w11.heap.size, 26, [.int .i64 sx11, .slice ax11 nx11 cx11, .int .i64 1, .slice bx11 mx11 dx11])]) Q9.out [.int .i64 sx11, .slice ax11 nx11 cx11, .int .i64 1, .slice bx11 mx11 dx11])
  go_wp2_with (first | refine wpList_store_row rfl _ _ _ rfl _ #[.int .i64 sx11, .slice ax11 nx11 cx11, .int .i64 1, .slice bx11 mx11 dx11] rfl rfl _ _ (P9.out.box _ List.mem_cons_self) (by kernel_rfl) rfl (by simp [Value.oneCell']) ?_ | refine wpList_store_row rfl _ _ _ rfl _ #[.int .i64 sx11, .slice ax11 nx11 cx11, .int .i64 1, .slice bx11 mx11 dx11] rfl rfl _ _ (Q9.out.box _ mq1) (by kernel_rfl) rfl (by simp [Value.oneCell']) ?_)
  clear q10 q11 q12 q13
  refine bodyPost_ret (ret_row rfl _ _ _ _ rfl (run_loadVar_row _ _ _ _ _ (0, 0) _ (Q14.out.box _ mq1) Try.underlying26 rfl (by kernel_rfl))) rfl ⟨_, _, _, _, _, _, _, rfl, (Q14.out.fr (v := .slice ax11 nx11 cx11) (u := .slice bx11 mx11 dx11) (r := r) mq0 mq1 E11.out), Q14.out.below, FF11.out, FG11.out⟩

set_option maxHeartbeats 8000000 in
theorem calc_sub {w : World} {s1 : Int} {a1 b1 : Option Addr} {n1 c1 m1 d1 : Nat} {x : Rat} {s2 : Int} {a2 b2 : Option Addr} {n2 c2 m2 d2 : Nat} {y : Rat} (h1 : Fr w s1 (.slice a1 n1 c1) (.slice b1 m1 d1) x) (z1 : FSz 1000 x) (h2 : Fr w s2 (.slice a2 n2 c2) (.slice b2 m2 d2) y) (z2 : FSz 1000 y) :
    Calls Try.prog 14 #[.int .i64 1, .agg #[.int .i64 s1, .slice a1 n1 c1, .int .i64 1, .slice b1 m1 d1], .agg #[.int .i64 s2, .slice a2 n2 c2, .int .i64 1, .slice b2 m2 d2]] w (FVE (opF 1 x y) 0 w) := by
  obtain ⟨r, hr⟩ : ∃ r, opF 1 x y = r := ⟨_, rfl⟩
  rw [hr]
  have HR := Lib.hid hr
  have E1 := Lib.hid h1.1.1
  have Z1 := Lib.hid z1
  have E2 := Lib.hid h2.1.1
  have Z2 := Lib.hid z2
  have s0 := ((((((((Sf.start w).arg h1.2.2).arg h1.1.2).arg h2.2.2).arg h2.1.2).put [.int .i64 s1, .slice a1 n1 c1, .int .i64 1, .slice b1 m1 d1] 26).put [.int .i64 s2, .slice a2 n2 c2, .int .i64 1, .slice b2 m2 d2] 26).put [.int .i64 0, .slice none 0 0, .int .i64 0, .slice none 0 0] 26)
  try simp only [World.size_alloc] at s0
  have S0 := Lib.hid s0
  clear s0
  clear h1 h2 z1 z2 hr
  go_enter Try.func14, Try.ntmps14
  obtain ⟨q1, q2, q3, q4⟩ := Fb.cells4 (S0.out.box (w.heap.size + 1, 26, [.int .i64 s2, .slice a2 n2 c2, .int .i64 1, .slice b2 m2 d2]) mq1)
  obtain ⟨q5, q6, q7, q8⟩ := Fb.cells4 (S0.out.box (w.heap.size, 26, [.int .i64 s1, .slice a1 n1 c1, .int .i64 1, .slice b1 m1 d1]) mq2)
  go_wp2_with fail
  clear q1 q2 q3 q4 q5 q6 q7 q8
  refine (fsub_r (S0.out.fr (v := .slice a1 n1 c1) (u := .slice b1 m1 d1) (r := x) mq2 mq3 E1.out) (S0.out.fr (v := .slice a2 n2 c2) (u := .slice b2 m2 d2) (r := y) mq0 mq1 E2.out) Z1.out Z2.out HR.out).mono ?_
  rintro e w11 ⟨sx11, ax11, nx11, cx11, bx11, mx11, dx11, rfl, hr, hb, hf, hg⟩
  have E11 := Lib.hid hr.1.1
  have R11 := Lib.hid (S0.out.ret2 hb hr.1.2 hf hr.2.2 hg)
  have FF11 := Lib.hid (hf.mono S0.out.below.size)
  have FG11 := Lib.hid (hg.mono S0.out.below.size)
  clear hr hb hf hg
  have P9 := Lib.hid (R11.out.put [.int .i64 0, .slice none 0 0, .int .i64 0, .slice none 0 0] 26)
  have Q9 := Lib.hid (Sf.row (pre := []) P9.out [.int .i64 sx11, .slice ax11 nx11 cx11, .int .i64 1, .slice bx11 mx11 dx11])
  obtain ⟨q10, q11, q12, q13⟩ := Fb.cells4 (Q9.out.box (w11.heap.size, 26, [.int .i64 sx11, .slice ax11 nx11 cx11, .int .i64 1, .slice bx11 mx11 dx11]) mq0)
  have Q14 := Lib.hid (Sf.row (pre := [(w11.heap.size, 26, [.int .i64 sx11, .slice ax11 nx11 cx11, .int .i64 1, .slice bx11 mx11 dx11])]) Q9.out [.int .i64 sx11, .slice ax11 nx11 cx11, .int .i64 1, .slice bx11 mx11 dx11])
  go_wp2_with (first | refine wpList_store_row rfl _ _ _ rfl _ #[.int .i64 sx11, .slice ax11 nx11 cx11, .int .i64 1, .slice bx11 mx11 dx11] rfl rfl _ _ (P9.out.box _ List.mem_cons_self) (by kernel_rfl) rfl (by simp [Value.oneCell']) ?_ | refine wpList_store_row rfl _ _ _ rfl _ #[.int .i64 sx11, .slice ax11 nx11 cx11, .int .i64 1, .slice bx11 mx11 dx11] rfl rfl _ _ (Q9.out.box _ mq1) (by kernel_rfl) rfl (by simp [Value.oneCell']) ?_)
  clear q10 q11 q12 q13
  refine bodyPost_ret (ret_row rfl _ _ _ _ rfl (run_loadVar_row _ _ _ _ _ (0, 0) _ (Q14.out.box _ mq1) Try.underlying26 rfl (by kernel_rfl))) rfl ⟨_, _, _, _, _, _, _, rfl, (Q14.out.fr (v := .slice ax11 nx11 cx11) (u := .slice bx11 mx11 dx11) (r := r) mq0 mq1 E11.out), Q14.out.below, FF11.out, FG11.out⟩

set_option maxHeartbeats 8000000 in
theorem calc_mul {w : World} {s1 : Int} {a1 b1 : Option Addr} {n1 c1 m1 d1 : Nat} {x : Rat} {s2 : Int} {a2 b2 : Option Addr} {n2 c2 m2 d2 : Nat} {y : Rat} (h1 : Fr w s1 (.slice a1 n1 c1) (.slice b1 m1 d1) x) (z1 : FSz 1000 x) (h2 : Fr w s2 (.slice a2 n2 c2) (.slice b2 m2 d2) y) (z2 : FSz 1000 y) :
    Calls Try.prog 14 #[.int .i64 2, .agg #[.int .i64 s1, .slice a1 n1 c1, .int .i64 1, .slice b1 m1 d1], .agg #[.int .i64 s2, .slice a2 n2 c2, .int .i64 1, .slice b2 m2 d2]] w (FVE (opF 2 x y) 0 w) := by
  obtain ⟨r, hr⟩ : ∃ r, opF 2 x y = r := ⟨_, rfl⟩
  rw [hr]
  have HR := Lib.hid hr
  have E1 := Lib.hid h1.1.1
  have Z1 := Lib.hid z1
  have E2 := Lib.hid h2.1.1
  have Z2 := Lib.hid z2
  have s0 := ((((((((Sf.start w).arg h1.2.2).arg h1.1.2).arg h2.2.2).arg h2.1.2).put [.int .i64 s1, .slice a1 n1 c1, .int .i64 1, .slice b1 m1 d1] 26).put [.int .i64 s2, .slice a2 n2 c2, .int .i64 1, .slice b2 m2 d2] 26).put [.int .i64 0, .slice none 0 0, .int .i64 0, .slice none 0 0] 26)
  try simp only [World.size_alloc] at s0
  have S0 := Lib.hid s0
  clear s0
  clear h1 h2 z1 z2 hr
  go_enter Try.func14, Try.ntmps14
  obtain ⟨q1, q2, q3, q4⟩ := Fb.cells4 (S0.out.box (w.heap.size + 1, 26, [.int .i64 s2, .slice a2 n2 c2, .int .i64 1, .slice b2 m2 d2]) mq1)
  obtain ⟨q5, q6, q7, q8⟩ := Fb.cells4 (S0.out.box (w.heap.size, 26, [.int .i64 s1, .slice a1 n1 c1, .int .i64 1, .slice b1 m1 d1]) mq2)
  go_wp2_with fail
  clear q1 q2 q3 q4 q5 q6 q7 q8
  refine (fmul_r (S0.out.fr (v := .slice a1 n1 c1) (u := .slice b1 m1 d1) (r := x) mq2 mq3 E1.out) (S0.out.fr (v := .slice a2 n2 c2) (u := .slice b2 m2 d2) (r := y) mq0 mq1 E2.out) Z1.out Z2.out HR.out).mono ?_
  rintro e w11 ⟨sx11, ax11, nx11, cx11, bx11, mx11, dx11, rfl, hr, hb, hf, hg⟩
  have E11 := Lib.hid hr.1.1
  have R11 := Lib.hid (S0.out.ret2 hb hr.1.2 hf hr.2.2 hg)
  have FF11 := Lib.hid (hf.mono S0.out.below.size)
  have FG11 := Lib.hid (hg.mono S0.out.below.size)
  clear hr hb hf hg
  have P9 := Lib.hid (R11.out.put [.int .i64 0, .slice none 0 0, .int .i64 0, .slice none 0 0] 26)
  have Q9 := Lib.hid (Sf.row (pre := []) P9.out [.int .i64 sx11, .slice ax11 nx11 cx11, .int .i64 1, .slice bx11 mx11 dx11])
  obtain ⟨q10, q11, q12, q13⟩ := Fb.cells4 (Q9.out.box (w11.heap.size, 26, [.int .i64 sx11, .slice ax11 nx11 cx11, .int .i64 1, .slice bx11 mx11 dx11]) mq0)
  have Q14 := Lib.hid (Sf.row (pre := [(w11.heap.size, 26, [.int .i64 sx11, .slice ax11 nx11 cx11, .int .i64 1, .slice bx11 mx11 dx11])]) Q9.out [.int .i64 sx11, .slice ax11 nx11 cx11, .int .i64 1, .slice bx11 mx11 dx11])
  go_wp2_with (first | refine wpList_store_row rfl _ _ _ rfl _ #[.int .i64 sx11, .slice ax11 nx11 cx11, .int .i64 1, .slice bx11 mx11 dx11] rfl rfl _ _ (P9.out.box _ List.mem_cons_self) (by kernel_rfl) rfl (by simp [Value.oneCell']) ?_ | refine wpList_store_row rfl _ _ _ rfl _ #[.int .i64 sx11, .slice ax11 nx11 cx11, .int .i64 1, .slice bx11 mx11 dx11] rfl rfl _ _ (Q9.out.box _ mq1) (by kernel_rfl) rfl (by simp [Value.oneCell']) ?_)
  clear q10 q11 q12 q13
  refine bodyPost_ret (ret_row rfl _ _ _ _ rfl (run_loadVar_row _ _ _ _ _ (0, 0) _ (Q14.out.box _ mq1) Try.underlying26 rfl (by kernel_rfl))) rfl ⟨_, _, _, _, _, _, _, rfl, (Q14.out.fr (v := .slice ax11 nx11 cx11) (u := .slice bx11 mx11 dx11) (r := r) mq0 mq1 E11.out), Q14.out.below, FF11.out, FG11.out⟩

set_option maxHeartbeats 8000000 in
theorem calc_div {w : World} {s1 : Int} {a1 b1 : Option Addr} {n1 c1 m1 d1 : Nat} {x : Rat} {s2 : Int} {a2 b2 : Option Addr} {n2 c2 m2 d2 : Nat} {y : Rat} (h1 : Fr w s1 (.slice a1 n1 c1) (.slice b1 m1 d1) x) (z1 : FSz 1000 x) (h2 : Fr w s2 (.slice a2 n2 c2) (.slice b2 m2 d2) y) (z2 : FSz 1000 y) (h0 : y ≠ 0) :
    Calls Try.prog 14 #[.int .i64 3, .agg #[.int .i64 s1, .slice a1 n1 c1, .int .i64 1, .slice b1 m1 d1], .agg #[.int .i64 s2, .slice a2 n2 c2, .int .i64 1, .slice b2 m2 d2]] w (FVE (opF 3 x y) 0 w) := by
  obtain ⟨r, hr⟩ : ∃ r, opF 3 x y = r := ⟨_, rfl⟩
  rw [hr]
  have HR := Lib.hid hr
  have H0 := Lib.hid h0
  have E1 := Lib.hid h1.1.1
  have Z1 := Lib.hid z1
  have E2 := Lib.hid h2.1.1
  have Z2 := Lib.hid z2
  have s0 := ((((((((Sf.start w).arg h1.2.2).arg h1.1.2).arg h2.2.2).arg h2.1.2).put [.int .i64 s1, .slice a1 n1 c1, .int .i64 1, .slice b1 m1 d1] 26).put [.int .i64 s2, .slice a2 n2 c2, .int .i64 1, .slice b2 m2 d2] 26).put [.int .i64 0, .slice none 0 0, .int .i64 0, .slice none 0 0] 26)
  try simp only [World.size_alloc] at s0
  have S0 := Lib.hid s0
  clear s0
  clear h1 h2 z1 z2 hr h0
  go_enter Try.func14, Try.ntmps14
  obtain ⟨q1, q2, q3, q4⟩ := Fb.cells4 (S0.out.box (w.heap.size + 1, 26, [.int .i64 s2, .slice a2 n2 c2, .int .i64 1, .slice b2 m2 d2]) mq1)
  obtain ⟨q5, q6, q7, q8⟩ := Fb.cells4 (S0.out.box (w.heap.size, 26, [.int .i64 s1, .slice a1 n1 c1, .int .i64 1, .slice b1 m1 d1]) mq2)
  go_wp2_with fail
  clear q1 q2 q3 q4 q5 q6 q7 q8
  refine (fdiv_r (S0.out.fr (v := .slice a1 n1 c1) (u := .slice b1 m1 d1) (r := x) mq2 mq3 E1.out) (S0.out.fr (v := .slice a2 n2 c2) (u := .slice b2 m2 d2) (r := y) mq0 mq1 E2.out) Z1.out Z2.out H0.out HR.out).mono ?_
  rintro e w11 ⟨sx11, ax11, nx11, cx11, bx11, mx11, dx11, rfl, hr, hb, hf, hg⟩
  have E11 := Lib.hid hr.1.1
  have R11 := Lib.hid (S0.out.ret2 hb hr.1.2 hf hr.2.2 hg)
  have FF11 := Lib.hid (hf.mono S0.out.below.size)
  have FG11 := Lib.hid (hg.mono S0.out.below.size)
  clear hr hb hf hg
  have P9 := Lib.hid (R11.out.put [.int .i64 0, .slice none 0 0, .int .i64 0, .slice none 0 0] 26)
  have Q9 := Lib.hid (Sf.row (pre := []) P9.out [.int .i64 sx11, .slice ax11 nx11 cx11, .int .i64 1, .slice bx11 mx11 dx11])
  obtain ⟨q10, q11, q12, q13⟩ := Fb.cells4 (Q9.out.box (w11.heap.size, 26, [.int .i64 sx11, .slice ax11 nx11 cx11, .int .i64 1, .slice bx11 mx11 dx11]) mq0)
  have Q14 := Lib.hid (Sf.row (pre := [(w11.heap.size, 26, [.int .i64 sx11, .slice ax11 nx11 cx11, .int .i64 1, .slice bx11 mx11 dx11])]) Q9.out [.int .i64 sx11, .slice ax11 nx11 cx11, .int .i64 1, .slice bx11 mx11 dx11])
  go_wp2_with (first | refine wpList_store_row rfl _ _ _ rfl _ #[.int .i64 sx11, .slice ax11 nx11 cx11, .int .i64 1, .slice bx11 mx11 dx11] rfl rfl _ _ (P9.out.box _ List.mem_cons_self) (by kernel_rfl) rfl (by simp [Value.oneCell']) ?_ | refine wpList_store_row rfl _ _ _ rfl _ #[.int .i64 sx11, .slice ax11 nx11 cx11, .int .i64 1, .slice bx11 mx11 dx11] rfl rfl _ _ (Q9.out.box _ mq1) (by kernel_rfl) rfl (by simp [Value.oneCell']) ?_)
  clear q10 q11 q12 q13
  refine bodyPost_ret (ret_row rfl _ _ _ _ rfl (run_loadVar_row _ _ _ _ _ (0, 0) _ (Q14.out.box _ mq1) Try.underlying26 rfl (by kernel_rfl))) rfl ⟨_, _, _, _, _, _, _, rfl, (Q14.out.fr (v := .slice ax11 nx11 cx11) (u := .slice bx11 mx11 dx11) (r := r) mq0 mq1 E11.out), Q14.out.below, FF11.out, FG11.out⟩

set_option maxHeartbeats 8000000 in
theorem calc_min {w : World} {s1 : Int} {a1 b1 : Option Addr} {n1 c1 m1 d1 : Nat} {x : Rat} {s2 : Int} {a2 b2 : Option Addr} {n2 c2 m2 d2 : Nat} {y : Rat} (h1 : Fr w s1 (.slice a1 n1 c1) (.slice b1 m1 d1) x) (z1 : FSz 1000 x) (h2 : Fr w s2 (.slice a2 n2 c2) (.slice b2 m2 d2) y) (z2 : FSz 1000 y) :
    Calls Try.prog 14 #[.int .i64 4, .agg #[.int .i64 s1, .slice a1 n1 c1, .int .i64 1, .slice b1 m1 d1], .agg #[.int .i64 s2, .slice a2 n2 c2, .int .i64 1, .slice b2 m2 d2]] w (FVE (opF 4 x y) 0 w) := by
  obtain ⟨r, hr⟩ : ∃ r, opF 4 x y = r := ⟨_, rfl⟩
  rw [hr]
  have HR := Lib.hid hr
  have E1 := Lib.hid h1.1.1
  have Z1 := Lib.hid z1
  have E2 := Lib.hid h2.1.1
  have Z2 := Lib.hid z2
  have s0 := ((((((((Sf.start w).arg h1.2.2).arg h1.1.2).arg h2.2.2).arg h2.1.2).put [.int .i64 s1, .slice a1 n1 c1, .int .i64 1, .slice b1 m1 d1] 26).put [.int .i64 s2, .slice a2 n2 c2, .int .i64 1, .slice b2 m2 d2] 26).put [.int .i64 0, .slice none 0 0, .int .i64 0, .slice none 0 0] 26)
  try simp only [World.size_alloc] at s0
  have S0 := Lib.hid s0
  clear s0
  clear h1 h2 z1 z2 hr
  go_enter Try.func14, Try.ntmps14
  obtain ⟨q1, q2, q3, q4⟩ := Fb.cells4 (S0.out.box (w.heap.size + 1, 26, [.int .i64 s2, .slice a2 n2 c2, .int .i64 1, .slice b2 m2 d2]) mq1)
  obtain ⟨q5, q6, q7, q8⟩ := Fb.cells4 (S0.out.box (w.heap.size, 26, [.int .i64 s1, .slice a1 n1 c1, .int .i64 1, .slice b1 m1 d1]) mq2)
  go_wp2_with fail
  clear q1 q2 q3 q4 q5 q6 q7 q8
  refine (fmin_r (S0.out.fr (v := .slice a1 n1 c1) (u := .slice b1 m1 d1) (r := x) mq2 mq3 E1.out) (S0.out.fr (v := .slice a2 n2 c2) (u := .slice b2 m2 d2) (r := y) mq0 mq1 E2.out) Z1.out Z2.out HR.out).mono ?_
  rintro e w11 ⟨sx11, ax11, nx11, cx11, bx11, mx11, dx11, rfl, hr, hb, hf, hg⟩
  have E11 := Lib.hid hr.1.1
  have R11 := Lib.hid (S0.out.ret2 hb hr.1.2 hf hr.2.2 hg)
  have FF11 := Lib.hid (hf.mono S0.out.below.size)
  have FG11 := Lib.hid (hg.mono S0.out.below.size)
  clear hr hb hf hg
  have P9 := Lib.hid (R11.out.put [.int .i64 0, .slice none 0 0, .int .i64 0, .slice none 0 0] 26)
  have Q9 := Lib.hid (Sf.row (pre := []) P9.out [.int .i64 sx11, .slice ax11 nx11 cx11, .int .i64 1, .slice bx11 mx11 dx11])
  obtain ⟨q10, q11, q12, q13⟩ := Fb.cells4 (Q9.out.box (w11.heap.size, 26, [.int .i64 sx11, .slice ax11 nx11 cx11, .int .i64 1, .slice bx11 mx11 dx11]) mq0)
  have Q14 := Lib.hid (Sf.row (pre := [(w11.heap.size, 26, [.int .i64 sx11, .slice ax11 nx11 cx11, .int .i64 1, .slice bx11 mx11 dx11])]) Q9.out [.int .i64 sx11, .slice ax11 nx11 cx11, .int .i64 1, .slice bx11 mx11 dx11])
  go_wp2_with (first | refine wpList_store_row rfl _ _ _ rfl _ #[.int .i64 sx11, .slice ax11 nx11 cx11, .int .i64 1, .slice bx11 mx11 dx11] rfl rfl _ _ (P9.out.box _ List.mem_cons_self) (by kernel_rfl) rfl (by simp [Value.oneCell']) ?_ | refine wpList_store_row rfl _ _ _ rfl _ #[.int .i64 sx11, .slice ax11 nx11 cx11, .int .i64 1, .slice bx11 mx11 dx11] rfl rfl _ _ (Q9.out.box _ mq1) (by kernel_rfl) rfl (by simp [Value.oneCell']) ?_)
  clear q10 q11 q12 q13
  refine bodyPost_ret (ret_row rfl _ _ _ _ rfl (run_loadVar_row _ _ _ _ _ (0, 0) _ (Q14.out.box _ mq1) Try.underlying26 rfl (by kernel_rfl))) rfl ⟨_, _, _, _, _, _, _, rfl, (Q14.out.fr (v := .slice ax11 nx11 cx11) (u := .slice bx11 mx11 dx11) (r := r) mq0 mq1 E11.out), Q14.out.below, FF11.out, FG11.out⟩

set_option maxHeartbeats 8000000 in
theorem calc_max {w : World} {s1 : Int} {a1 b1 : Option Addr} {n1 c1 m1 d1 : Nat} {x : Rat} {s2 : Int} {a2 b2 : Option Addr} {n2 c2 m2 d2 : Nat} {y : Rat} (h1 : Fr w s1 (.slice a1 n1 c1) (.slice b1 m1 d1) x) (z1 : FSz 1000 x) (h2 : Fr w s2 (.slice a2 n2 c2) (.slice b2 m2 d2) y) (z2 : FSz 1000 y) :
    Calls Try.prog 14 #[.int .i64 5, .agg #[.int .i64 s1, .slice a1 n1 c1, .int .i64 1, .slice b1 m1 d1], .agg #[.int .i64 s2, .slice a2 n2 c2, .int .i64 1, .slice b2 m2 d2]] w (FVE (opF 5 x y) 0 w) := by
  obtain ⟨r, hr⟩ : ∃ r, opF 5 x y = r := ⟨_, rfl⟩
  rw [hr]
  have HR := Lib.hid hr
  have E1 := Lib.hid h1.1.1
  have Z1 := Lib.hid z1
  have E2 := Lib.hid h2.1.1
  have Z2 := Lib.hid z2
  have s0 := ((((((((Sf.start w).arg h1.2.2).arg h1.1.2).arg h2.2.2).arg h2.1.2).put [.int .i64 s1, .slice a1 n1 c1, .int .i64 1, .slice b1 m1 d1] 26).put [.int .i64 s2, .slice a2 n2 c2, .int .i64 1, .slice b2 m2 d2] 26).put [.int .i64 0, .slice none 0 0, .int .i64 0, .slice none 0 0] 26)
  try simp only [World.size_alloc] at s0
  have S0 := Lib.hid s0
  clear s0
  clear h1 h2 z1 z2 hr
  go_enter Try.func14, Try.ntmps14
  obtain ⟨q1, q2, q3, q4⟩ := Fb.cells4 (S0.out.box (w.heap.size + 1, 26, [.int .i64 s2, .slice a2 n2 c2, .int .i64 1, .slice b2 m2 d2]) mq1)
  obtain ⟨q5, q6, q7, q8⟩ := Fb.cells4 (S0.out.box (w.heap.size, 26, [.int .i64 s1, .slice a1 n1 c1, .int .i64 1, .slice b1 m1 d1]) mq2)
  go_wp2_with fail
  clear q1 q2 q3 q4 q5 q6 q7 q8
  refine (fmax_r (S0.out.fr (v := .slice a1 n1 c1) (u := .slice b1 m1 d1) (r := x) mq2 mq3 E1.out) (S0.out.fr (v := .slice a2 n2 c2) (u := .slice b2 m2 d2) (r := y) mq0 mq1 E2.out) Z1.out Z2.out HR.out).mono ?_
  rintro e w11 ⟨sx11, ax11, nx11, cx11, bx11, mx11, dx11, rfl, hr, hb, hf, hg⟩
  have E11 := Lib.hid hr.1.1
  have R11 := Lib.hid (S0.out.ret2 hb hr.1.2 hf hr.2.2 hg)
  have FF11 := Lib.hid (hf.mono S0.out.below.size)
  have FG11 := Lib.hid (hg.mono S0.out.below.size)
  clear hr hb hf hg
  have P9 := Lib.hid (R11.out.put [.int .i64 0, .slice none 0 0, .int .i64 0, .slice none 0 0] 26)
  have Q9 := Lib.hid (Sf.row (pre := []) P9.out [.int .i64 sx11, .slice ax11 nx11 cx11, .int .i64 1, .slice bx11 mx11 dx11])
  obtain ⟨q10, q11, q12, q13⟩ := Fb.cells4 (Q9.out.box (w11.heap.size, 26, [.int .i64 sx11, .slice ax11 nx11 cx11, .int .i64 1, .slice bx11 mx11 dx11]) mq0)
  have Q14 := Lib.hid (Sf.row (pre := [(w11.heap.size, 26, [.int .i64 sx11, .slice ax11 nx11 cx11, .int .i64 1, .slice bx11 mx11 dx11])]) Q9.out [.int .i64 sx11, .slice ax11 nx11 cx11, .int .i64 1, .slice bx11 mx11 dx11])
  go_wp2_with (first | refine wpList_store_row rfl _ _ _ rfl _ #[.int .i64 sx11, .slice ax11 nx11 cx11, .int .i64 1, .slice bx11 mx11 dx11] rfl rfl _ _ (P9.out.box _ List.mem_cons_self) (by kernel_rfl) rfl (by simp [Value.oneCell']) ?_ | refine wpList_store_row rfl _ _ _ rfl _ #[.int .i64 sx11, .slice ax11 nx11 cx11, .int .i64 1, .slice bx11 mx11 dx11] rfl rfl _ _ (Q9.out.box _ mq1) (by kernel_rfl) rfl (by simp [Value.oneCell']) ?_)
  clear q10 q11 q12 q13
  refine bodyPost_ret (ret_row rfl _ _ _ _ rfl (run_loadVar_row _ _ _ _ _ (0, 0) _ (Q14.out.box _ mq1) Try.underlying26 rfl (by kernel_rfl))) rfl ⟨_, _, _, _, _, _, _, rfl, (Q14.out.fr (v := .slice ax11 nx11 cx11) (u := .slice bx11 mx11 dx11) (r := r) mq0 mq1 E11.out), Q14.out.below, FF11.out, FG11.out⟩

theorem p10calc {w : World} {k : Nat} (hk : k ≤ 5) {s1 : Int} {a1 b1 : Option Addr} {n1 c1 m1 d1 : Nat} {x : Rat} {s2 : Int} {a2 b2 : Option Addr} {n2 c2 m2 d2 : Nat} {y : Rat} (h1 : Fr w s1 (.slice a1 n1 c1) (.slice b1 m1 d1) x) (z1 : FSz 1000 x) (h2 : Fr w s2 (.slice a2 n2 c2) (.slice b2 m2 d2) y) (z2 : FSz 1000 y) (h0 : k = 3 → y ≠ 0) {r : Rat} (hr : opF k x y = r) :
    Calls Try.prog 14 #[.int .i64 (k : Int), .agg #[.int .i64 s1, .slice a1 n1 c1, .int .i64 1, .slice b1 m1 d1], .agg #[.int .i64 s2, .slice a2 n2 c2, .int .i64 1, .slice b2 m2 d2]] w (FVE r 0 w) := by
  subst hr
  rcases le5 hk with rfl | rfl | rfl | rfl | rfl | rfl
  · exact calc_add h1 z1 h2 z2
  · exact calc_sub h1 z1 h2 z2
  · exact calc_mul h1 z1 h2 z2
  · exact calc_div h1 z1 h2 z2 (h0 rfl)
  · exact calc_min h1 z1 h2 z2
  · exact calc_max h1 z1 h2 z2
end Go.Proofs.Ytgncnkojpedmdaa.Sp
