/- The contracts of span: Mul, Div. -/
import Derived.Test.YtgncnkojpedmdaaGreatPTells19
set_option maxRecDepth 100000
namespace Go.Proofs.YtgncnkojpedmdaaGreat.Sp
open Go.RowKit Bi
/-- The least, the greatest of v 0 to v i. -/
def los (v : Nat → Rat) : Nat → Rat
 | 0 => v 0
 | n + 1 => rmin (los v n) (v (n + 1))
def his (v : Nat → Rat) : Nat → Rat
 | 0 => v 0
 | n + 1 => rmax (his v n) (v (n + 1))
theorem los_sz {v : Nat → Rat} {m : Nat} (h : ∀ i, i ≤ m → FSz 1000 (v i)) : ∀ i, i ≤ m → FSz 1000 (los v i)
 | 0, hi => h 0 hi
 | n + 1, hi => by
  show FSz 1000 (rmin (los v n) (v (n + 1)))
  rcases rmin_or (los v n) (v (n + 1)) with e | e
  ·rw [e]; exact los_sz h n (by omega)
  ·rw [e]; exact h _ hi
theorem his_sz {v : Nat → Rat} {m : Nat} (h : ∀ i, i ≤ m → FSz 1000 (v i)) : ∀ i, i ≤ m → FSz 1000 (his v i)
 | 0, hi => h 0 hi
 | n + 1, hi => by
  show FSz 1000 (rmax (his v n) (v (n + 1)))
  rcases rmax_or (his v n) (v (n + 1)) with e | e
  ·rw [e]; exact his_sz h n (by omega)
  ·rw [e]; exact h _ hi
theorem los_con {f : Rat → Rat → Rat} {x y p q : Rat} {v : Nat → Rat} (e0 : f x p = v 0) (e1 : f x q = v 1) (e2 : f y p = v 2) (e3 : f y q = v 3) : (los v 3, his v 3) = conS f (x, y) (p, q) := by
 refine Prod.ext ?_ ?_
 ·show rmin (rmin (rmin (v 0) (v 1)) (v 2)) (v 3) = rmin (rmin (f x p) (f y p)) (rmin (f x q) (f y q))
  rw [e0, e1, e2, e3, rmin_assoc (v 0) (v 1) (v 2), rmin_comm (v 1) (v 2), ← rmin_assoc (v 0) (v 2) (v 1), rmin_assoc (rmin (v 0) (v 2))]
 ·show rmax (rmax (rmax (v 0) (v 1)) (v 2)) (v 3) = rmax (rmax (f x p) (f y p)) (rmax (f x q) (f y q))
  rw [e0, e1, e2, e3, rmax_assoc (v 0) (v 1) (v 2), rmax_comm (v 1) (v 2), ← rmax_assoc (v 0) (v 2) (v 1), rmax_assoc (rmax (v 0) (v 2))]
theorem lt3 {i : Nat} (h : i < 3) : i = 0 ∨ i = 1 ∨ i = 2 := by omega
theorem sign_le {p : Rat} : p.num.sign ≤ 0 ↔ p ≤ 0 := by
 rw [show p.num.sign ≤ 0 ↔ p.num ≤ 0 from ⟨fun h => Int.not_lt.1 fun e => by rw [Int.sign_eq_one_of_pos e] at h; omega, fun h => by
  rcases Int.lt_or_eq_of_le h with e | e
  ·rw [Int.sign_eq_neg_one_of_neg e]; omega
  ·rw [e]; decide⟩]
 have hn := @Rat.num_nonneg (-p)
 rw [Rat.neg_num] at hn
 constructor
 ·intro h
  have := hn.1 (by omega)
  grind
 ·intro h
  have := hn.2 (by grind)
  omega
theorem sign_ge {p : Rat} : 0 ≤ p.num.sign ↔ 0 ≤ p := by
 rw [show 0 ≤ p.num.sign ↔ 0 ≤ p.num from ⟨fun h => Int.not_lt.1 fun e => by rw [Int.sign_eq_neg_one_of_neg e] at h; omega, fun h => by
  rcases Int.lt_or_eq_of_le h with e | e
  ·rw [Int.sign_eq_one_of_pos e]; omega
  ·rw [← e]; decide⟩]
 exact Rat.num_nonneg
theorem infoArr : (Tryz.prog.info? 73).map (fun i => i.size) = some 8 := by kernel_rfl
theorem info_arr : ∃ i, Tryz.prog.info? 73 = some i ∧ i.size = 8 := by
 have h := infoArr
 cases hi : Tryz.prog.info? 73 with
 | none => rw [hi] at h; cases h
 | some i => rw [hi] at h; exact ⟨i, rfl, by simpa using h⟩
theorem ix_at0 {c0 c1 c2 c3 c4 c5 c6 c7 c8 c9 c10 c11 c12 c13 c14 c15 c16 c17 c18 c19 c20 c21 c22 c23 : Value} (W : World) : (Instr.index 74 (.agg #[c0, c1, c2, c3, c4, c5, c6, c7, c8, c9, c10, c11, c12, c13, c14, c15, c16, c17, c18, c19, c20, c21, c22, c23]) (.int .i64 0)).run Tryz.prog W = .ok (.agg #[c0, c1, c2, c3, c4, c5, c6, c7]) W := by
 obtain ⟨i0, hi, hs⟩ := info_arr
 simp [Instr.index, run_underlying Tryz.underlying74, asIntOf, sizeOf, typeInfo, hi, hs, go_sem]
theorem ix_at1 {c0 c1 c2 c3 c4 c5 c6 c7 c8 c9 c10 c11 c12 c13 c14 c15 c16 c17 c18 c19 c20 c21 c22 c23 : Value} (W : World) : (Instr.index 74 (.agg #[c0, c1, c2, c3, c4, c5, c6, c7, c8, c9, c10, c11, c12, c13, c14, c15, c16, c17, c18, c19, c20, c21, c22, c23]) (.int .i64 1)).run Tryz.prog W = .ok (.agg #[c8, c9, c10, c11, c12, c13, c14, c15]) W := by
 obtain ⟨i0, hi, hs⟩ := info_arr
 simp [Instr.index, run_underlying Tryz.underlying74, asIntOf, sizeOf, typeInfo, hi, hs, go_sem]
theorem ix_at2 {c0 c1 c2 c3 c4 c5 c6 c7 c8 c9 c10 c11 c12 c13 c14 c15 c16 c17 c18 c19 c20 c21 c22 c23 : Value} (W : World) : (Instr.index 74 (.agg #[c0, c1, c2, c3, c4, c5, c6, c7, c8, c9, c10, c11, c12, c13, c14, c15, c16, c17, c18, c19, c20, c21, c22, c23]) (.int .i64 2)).run Tryz.prog W = .ok (.agg #[c16, c17, c18, c19, c20, c21, c22, c23]) W := by
 obtain ⟨i0, hi, hs⟩ := info_arr
 simp [Instr.index, run_underlying Tryz.underlying74, asIntOf, sizeOf, typeInfo, hi, hs, go_sem]

set_option maxHeartbeats 16000000 in
theorem p10cor_mul {w : World} {s1 : Int} {a1 b1 : Option Addr} {n1 c1 m1 d1 : Nat} {x : Rat} {s2 : Int} {a2 b2 : Option Addr} {n2 c2 m2 d2 : Nat} {y : Rat} {s3 : Int} {a3 b3 : Option Addr} {n3 c3 m3 d3 : Nat} {p : Rat} {s4 : Int} {a4 b4 : Option Addr} {n4 c4 m4 d4 : Nat} {q : Rat} (h1 : Fr w s1 (.slice a1 n1 c1) (.slice b1 m1 d1) x) (z1 : FSz 400 x) (h2 : Fr w s2 (.slice a2 n2 c2) (.slice b2 m2 d2) y) (z2 : FSz 400 y) (h3 : Fr w s3 (.slice a3 n3 c3) (.slice b3 m3 d3) p) (z3 : FSz 400 p) (h4 : Fr w s4 (.slice a4 n4 c4) (.slice b4 m4 d4) q) (z4 : FSz 400 q) {r : Rat × Rat} (hr : mulS (x, y) (p, q) = r) :
  Calls Tryz.prog 58 #[.agg #[.int .i64 s1, .slice a1 n1 c1, .int .i64 1, .slice b1 m1 d1, .int .i64 s2, .slice a2 n2 c2, .int .i64 1, .slice b2 m2 d2], .agg #[.int .i64 s3, .slice a3 n3 c3, .int .i64 1, .slice b3 m3 d3, .int .i64 s4, .slice a4 n4 c4, .int .i64 1, .slice b4 m4 d4], .func (.func 59) #[] #[]] w (SpP (fun v => v) r w) := by
 obtain ⟨v, e0, e1, e2, e3⟩ : ∃ v : Nat → Rat, x * p = v 0 ∧ x * q = v 1 ∧ y * p = v 2 ∧ y * q = v 3 := ⟨fun k => match k with | 0 => x * p | 1 => x * q | 2 => y * p | _ => y * q, rfl, rfl, rfl, rfl⟩
 obtain rfl : (los v 3, his v 3) = r := by rw [← hr]; exact los_con e0 e1 e2 e3
 have hv : ∀ i, i ≤ 3 → FSz 1000 (v i) := by
  intro i hi
  rcases (by omega : i = 0 ∨ i = 1 ∨ i = 2 ∨ i = 3) with rfl | rfl | rfl | rfl
  ·rw [← e0]; exact (FSz.mul z1 z3 (k := 800)).mono
  ·rw [← e1]; exact (FSz.mul z1 z4 (k := 800)).mono
  ·rw [← e2]; exact (FSz.mul z2 z3 (k := 800)).mono
  ·rw [← e3]; exact (FSz.mul z2 z4 (k := 800)).mono
 have HL := Lib.hid (los_sz hv)
 have HH := Lib.hid (his_sz hv)
 have HZ := Lib.hid hv
 have V0 := Lib.hid e0
 have V1 := Lib.hid e1
 have V2 := Lib.hid e2
 have V3 := Lib.hid e3
 have E1 := Lib.hid h1.1.1
 have Z1 := Lib.hid z1
 have E2 := Lib.hid h2.1.1
 have Z2 := Lib.hid z2
 have E3 := Lib.hid h3.1.1
 have Z3 := Lib.hid z3
 have E4 := Lib.hid h4.1.1
 have Z4 := Lib.hid z4
 have s0 := ((((((((((((Sf.start w).arg h1.2.2).arg h1.1.2).arg h2.2.2).arg h2.1.2).arg h3.2.2).arg h3.1.2).arg h4.2.2).arg h4.1.2).put [.int .i64 s1, .slice a1 n1 c1, .int .i64 1, .slice b1 m1 d1, .int .i64 s2, .slice a2 n2 c2, .int .i64 1, .slice b2 m2 d2] 28).put [.int .i64 s3, .slice a3 n3 c3, .int .i64 1, .slice b3 m3 d3, .int .i64 s4, .slice a4 n4 c4, .int .i64 1, .slice b4 m4 d4] 28).put [.int .i64 0, .slice none 0 0, .int .i64 0, .slice none 0 0, .int .i64 0, .slice none 0 0, .int .i64 0, .slice none 0 0] 28)
 try simp only [World.size_alloc] at s0
 have S0 := Lib.hid s0
 clear s0
 clear h1 h2 h3 h4 z1 z2 z3 z4 hr hv e0 e1 e2 e3
 go_enter Tryz.func58, Tryz.ntmps58
 obtain ⟨q1, q2, q3, q4, q5, q6, q7, q8⟩ := Fb.cells8 (S0.out.box _ mq1)
 obtain ⟨q9, q10, q11, q12, q13, q14, q15, q16⟩ := Fb.cells8 (S0.out.box _ mq2)
 go_wp2_with fail
 clear q1 q2 q3 q4 q5 q6 q7 q8 q9 q10 q11 q12 q13 q14 q15 q16
 refine (fmul_r (S0.out.fr mq6 mq7 E1.out) (S0.out.fr mq2 mq3 E3.out) Z1.out.mono Z3.out.mono V0.out).mono ?_
 rintro e w11 ⟨sx11, ax11, nx11, cx11, bx11, mx11, dx11, rfl, hr, hb, hf, hg⟩
 have E11 := Lib.hid hr.1.1
 have R11 := Lib.hid (S0.out.ret2 hb hr.1.2 hf hr.2.2 hg)
 have FF11 := Lib.hid (hf.mono S0.out.below.size)
 have FG11 := Lib.hid (hg.mono S0.out.below.size)
 clear hr hb hf hg
 have P17 := Lib.hid (R11.out.put [.int .i64 0, .slice none 0 0, .int .i64 0, .slice none 0 0] 26)
 have Q17 := Lib.hid (Sf.row (pre := []) P17.out [.int .i64 sx11, .slice ax11 nx11 cx11, .int .i64 1, .slice bx11 mx11 dx11])
 obtain ⟨q18, q19, q20, q21⟩ := Fb.cells4 (Q17.out.box _ mq0)
 go_upto_region 2 with (first | refine wpList_store_row rfl _ _ _ rfl _ #[.int .i64 sx11, .slice ax11 nx11 cx11, .int .i64 1, .slice bx11 mx11 dx11] rfl rfl _ _ (P17.out.box _ List.mem_cons_self) (by kernel_rfl) rfl (by simp [Value.oneCell']) ?_)
 clear q18 q19 q20 q21
 obtain ⟨V9, hV9⟩ : ∃ W, ((w11.alloc (.cells #[.int .i64 0, .slice none 0 0, .int .i64 0, .slice none 0 0] 26)).setRow w11.heap.size #[.int .i64 sx11, .slice ax11 nx11 cx11, .int .i64 1, .slice bx11 mx11 dx11]) = W := ⟨_, rfl⟩
 rw [hV9] at Q17 ⊢
 clear hV9
 obtain ⟨q22, q23, q24, q25⟩ := Fb.cells4 (Q17.out.box _ mq0)
 have Q26 := Lib.hid (Q17.out.put [.int .i64 sx11, .slice ax11 nx11 cx11, .int .i64 1, .slice bx11 mx11 dx11] 26)
 obtain ⟨q27, q28, q29, q30, q31, q32, q33, q34⟩ := Fb.cells8 (Q26.out.box _ mq3)
 obtain ⟨q35, q36, q37, q38, q39, q40, q41, q42⟩ := Fb.cells8 (Q26.out.box _ mq4)
 go_wp2_with fail
 clear q22 q23 q24 q25 q27 q28 q29 q30 q31 q32 q33 q34 q35 q36 q37 q38 q39 q40 q41 q42
 go_loopw [40] (fun t wr => ∃ (i : Nat) (c d : FCell), i ≤ 3 ∧ t = .int .i64 (i : Int) ∧ c.s = (los v i).num.sign ∧ d.s = (his v i).num.sign ∧ (∀ g, g < w.heap.size → FOff c g ∧ FOff d g) ∧ Sf w [(V9.heap.size, 26, [.int .i64 d.s, .slice d.a d.n d.c, .int .i64 1, .slice d.b d.m d.d]), (w11.heap.size, 26, [.int .i64 c.s, .slice c.a c.n c.c, .int .i64 1, .slice c.b c.m c.d]), (w.heap.size + 1 + 1, 28, [.int .i64 0, .slice none 0 0, .int .i64 0, .slice none 0 0, .int .i64 0, .slice none 0 0, .int .i64 0, .slice none 0 0]), (w.heap.size + 1, 28, [.int .i64 s3, .slice a3 n3 c3, .int .i64 1, .slice b3 m3 d3, .int .i64 s4, .slice a4 n4 c4, .int .i64 1, .slice b4 m4 d4]), (w.heap.size, 28, [.int .i64 s1, .slice a1 n1 c1, .int .i64 1, .slice b1 m1 d1, .int .i64 s2, .slice a2 n2 c2, .int .i64 1, .slice b2 m2 d2])] [(.slice c.a c.n c.c, digs ((los v i)).num.natAbs), (.slice c.b c.m c.d, digs ((((los v i)).den : Int)).natAbs), (.slice d.a d.n d.c, digs ((his v i)).num.natAbs), (.slice d.b d.m d.d, digs ((((his v i)).den : Int)).natAbs), (.slice a4 n4 c4, digs (q).num.natAbs), (.slice b4 m4 d4, digs (((q).den : Int)).natAbs), (.slice a3 n3 c3, digs (p).num.natAbs), (.slice b3 m3 d3, digs (((p).den : Int)).natAbs), (.slice a2 n2 c2, digs (y).num.natAbs), (.slice b2 m2 d2, digs (((y).den : Int)).natAbs), (.slice a1 n1 c1, digs (x).num.natAbs), (.slice b1 m1 d1, digs (((x).den : Int)).natAbs)] wr) (fun t _ => 4 - (RowKit.intOf t).toNat)
 case atStart => exact ⟨0, ⟨sx11, ax11, nx11, cx11, bx11, mx11, dx11⟩, ⟨sx11, ax11, nx11, cx11, bx11, mx11, dx11⟩, Nat.zero_le _, rfl, E11.out, E11.out, fun g hg => ⟨⟨FF11.out g hg, FG11.out g hg⟩, ⟨FF11.out g hg, FG11.out g hg⟩⟩, Sf.facts Q26.out (by simp [los, his])⟩
 case round =>
  clear Q26
  obtain ⟨i, c, d, hi, ht, hc, hd, ho, hS⟩ := hrel
  have HC := Lib.hid hc
  have HD := Lib.hid hd
  have HO := Lib.hid ho
  have HS := Lib.hid hS
  clear hS hc hd ho
  by_cases hlt : i < 3
  ·rcases lt3 hlt with e | e | e
   ·subst e
    have ht2 : _ = Value.int IntKind.i64 0 := ht
    subst ht2
    clear ht hi hlt
    have hix : ∀ W : World, (Instr.index 74 (.agg #[.int .i64 s1, .slice a1 n1 c1, .int .i64 1, .slice b1 m1 d1, .int .i64 s4, .slice a4 n4 c4, .int .i64 1, .slice b4 m4 d4, .int .i64 s2, .slice a2 n2 c2, .int .i64 1, .slice b2 m2 d2, .int .i64 s3, .slice a3 n3 c3, .int .i64 1, .slice b3 m3 d3, .int .i64 s2, .slice a2 n2 c2, .int .i64 1, .slice b2 m2 d2, .int .i64 s4, .slice a4 n4 c4, .int .i64 1, .slice b4 m4 d4]) (.int .i64 0)).run Tryz.prog W = .ok (.agg #[.int .i64 s1, .slice a1 n1 c1, .int .i64 1, .slice b1 m1 d1, .int .i64 s4, .slice a4 n4 c4, .int .i64 1, .slice b4 m4 d4]) W := fun W => ix_at0 W
    have Q43 := Lib.hid (HS.out.put [.int .i64 s1, .slice a1 n1 c1, .int .i64 1, .slice b1 m1 d1, .int .i64 s4, .slice a4 n4 c4, .int .i64 1, .slice b4 m4 d4] 73)
    obtain ⟨q44, q45, q46, q47, q48, q49, q50, q51⟩ := Fb.cells8 (Q43.out.box _ mq0)
    go_wp2_with fail
    clear hix
    clear q44 q45 q46 q47 q48 q49 q50 q51
    refine (fmul_r (Q43.out.fr mq10 mq11 E1.out) (Q43.out.fr mq4 mq5 E4.out) Z1.out.mono Z4.out.mono V1.out).mono ?_
    rintro e w12 ⟨sx12, ax12, nx12, cx12, bx12, mx12, dx12, rfl, hr, hb, hf, hg⟩
    have E12 := Lib.hid hr.1.1
    have R12 := Lib.hid (Q43.out.ret2 hb hr.1.2 hf hr.2.2 hg)
    have FF12 := Lib.hid (hf.mono Q43.out.below.size)
    have FG12 := Lib.hid (hg.mono Q43.out.below.size)
    clear hr hb hf hg
    have P52 := Lib.hid (R12.out.put [.int .i64 0, .slice none 0 0, .int .i64 0, .slice none 0 0] 26)
    have Q52 := Lib.hid (Sf.row (pre := []) P52.out [.int .i64 sx12, .slice ax12 nx12 cx12, .int .i64 1, .slice bx12 mx12 dx12])
    obtain ⟨q53, q54, q55, q56⟩ := Fb.cells4 (Q52.out.box _ mq0)
    obtain ⟨q57, q58, q59, q60⟩ := Fb.cells4 (Q52.out.box _ mq3)
    go_wp2_with (first | refine wpList_store_row rfl _ _ _ rfl _ #[.int .i64 sx12, .slice ax12 nx12 cx12, .int .i64 1, .slice bx12 mx12 dx12] rfl rfl _ _ (P52.out.box _ List.mem_cons_self) (by kernel_rfl) rfl (by simp [Value.oneCell']) ?_)
    clear q53 q54 q55 q56 q57 q58 q59 q60
    refine (fmin_r (Q52.out.fr mq2 mq3 HC.out) (Q52.out.fr mq0 mq1 E12.out) (HL.out 0 (by decide)) (HZ.out 1 (by decide)) (r := los v 1) rfl).mono ?_
    rintro e w13 ⟨sx13, ax13, nx13, cx13, bx13, mx13, dx13, rfl, hr, hb, hf, hg⟩
    have E13 := Lib.hid hr.1.1
    have R13 := Lib.hid (Q52.out.ret2 hb hr.1.2 hf hr.2.2 hg)
    have FF13 := Lib.hid (hf.mono Q52.out.below.size)
    have FG13 := Lib.hid (hg.mono Q52.out.below.size)
    clear hr hb hf hg
    have Q61 := Lib.hid (Sf.row (pre := [(w12.heap.size, 26, [.int .i64 sx12, .slice ax12 nx12 cx12, .int .i64 1, .slice bx12 mx12 dx12]), (wr.heap.size, 73, [.int .i64 s1, .slice a1 n1 c1, .int .i64 1, .slice b1 m1 d1, .int .i64 s4, .slice a4 n4 c4, .int .i64 1, .slice b4 m4 d4]), (V9.heap.size, 26, [.int .i64 d.s, .slice d.a d.n d.c, .int .i64 1, .slice d.b d.m d.d])]) R13.out [.int .i64 sx13, .slice ax13 nx13 cx13, .int .i64 1, .slice bx13 mx13 dx13])
    obtain ⟨q62, q63, q64, q65⟩ := Fb.cells4 (Q61.out.box _ mq0)
    obtain ⟨q66, q67, q68, q69⟩ := Fb.cells4 (Q61.out.box _ mq2)
    go_wp2_with (first | refine wpList_store_row rfl _ _ _ rfl _ #[.int .i64 sx13, .slice ax13 nx13 cx13, .int .i64 1, .slice bx13 mx13 dx13] rfl rfl _ _ (R13.out.box _ mq3) (by kernel_rfl) rfl (by simp [Value.oneCell']) ?_)
    clear q62 q63 q64 q65 q66 q67 q68 q69
    refine (fmax_r (Q61.out.fr mq6 mq7 HD.out) (Q61.out.fr mq2 mq3 E12.out) (HH.out 0 (by decide)) (HZ.out 1 (by decide)) (r := his v 1) rfl).mono ?_
    rintro e w14 ⟨sx14, ax14, nx14, cx14, bx14, mx14, dx14, rfl, hr, hb, hf, hg⟩
    have E14 := Lib.hid hr.1.1
    have R14 := Lib.hid (Q61.out.ret2 hb hr.1.2 hf hr.2.2 hg)
    have FF14 := Lib.hid (hf.mono Q61.out.below.size)
    have FG14 := Lib.hid (hg.mono Q61.out.below.size)
    clear hr hb hf hg
    have Q70 := Lib.hid (Sf.row (pre := [(w12.heap.size, 26, [.int .i64 sx12, .slice ax12 nx12 cx12, .int .i64 1, .slice bx12 mx12 dx12]), (wr.heap.size, 73, [.int .i64 s1, .slice a1 n1 c1, .int .i64 1, .slice b1 m1 d1, .int .i64 s4, .slice a4 n4 c4, .int .i64 1, .slice b4 m4 d4])]) R14.out [.int .i64 sx14, .slice ax14 nx14 cx14, .int .i64 1, .slice bx14 mx14 dx14])
    go_wp2_with (first | refine wpList_store_row rfl _ _ _ rfl _ #[.int .i64 sx14, .slice ax14 nx14 cx14, .int .i64 1, .slice bx14 mx14 dx14] rfl rfl _ _ (R14.out.box _ mq2) (by kernel_rfl) rfl (by simp [Value.oneCell']) ?_)
    go_roundw
    case rel => exact ⟨1, ⟨sx13, ax13, nx13, cx13, bx13, mx13, dx13⟩, ⟨sx14, ax14, nx14, cx14, bx14, mx14, dx14⟩, by decide, by go_num, E13.out, E14.out, fun g hg => ⟨⟨FF13.out g hg, FG13.out g hg⟩, ⟨FF14.out g hg, FG14.out g hg⟩⟩, Sf.facts (Sf.tail (Sf.tail Q70.out)) (by simp)⟩
    case measure => simp [RowKit.intOf]
   ·subst e
    have ht2 : _ = Value.int IntKind.i64 1 := ht
    subst ht2
    clear ht hi hlt
    have hix : ∀ W : World, (Instr.index 74 (.agg #[.int .i64 s1, .slice a1 n1 c1, .int .i64 1, .slice b1 m1 d1, .int .i64 s4, .slice a4 n4 c4, .int .i64 1, .slice b4 m4 d4, .int .i64 s2, .slice a2 n2 c2, .int .i64 1, .slice b2 m2 d2, .int .i64 s3, .slice a3 n3 c3, .int .i64 1, .slice b3 m3 d3, .int .i64 s2, .slice a2 n2 c2, .int .i64 1, .slice b2 m2 d2, .int .i64 s4, .slice a4 n4 c4, .int .i64 1, .slice b4 m4 d4]) (.int .i64 1)).run Tryz.prog W = .ok (.agg #[.int .i64 s2, .slice a2 n2 c2, .int .i64 1, .slice b2 m2 d2, .int .i64 s3, .slice a3 n3 c3, .int .i64 1, .slice b3 m3 d3]) W := fun W => ix_at1 W
    have Q71 := Lib.hid (HS.out.put [.int .i64 s2, .slice a2 n2 c2, .int .i64 1, .slice b2 m2 d2, .int .i64 s3, .slice a3 n3 c3, .int .i64 1, .slice b3 m3 d3] 73)
    obtain ⟨q72, q73, q74, q75, q76, q77, q78, q79⟩ := Fb.cells8 (Q71.out.box _ mq0)
    go_wp2_with fail
    clear hix
    clear q72 q73 q74 q75 q76 q77 q78 q79
    refine (fmul_r (Q71.out.fr mq8 mq9 E2.out) (Q71.out.fr mq6 mq7 E3.out) Z2.out.mono Z3.out.mono V2.out).mono ?_
    rintro e w15 ⟨sx15, ax15, nx15, cx15, bx15, mx15, dx15, rfl, hr, hb, hf, hg⟩
    have E15 := Lib.hid hr.1.1
    have R15 := Lib.hid (Q71.out.ret2 hb hr.1.2 hf hr.2.2 hg)
    have FF15 := Lib.hid (hf.mono Q71.out.below.size)
    have FG15 := Lib.hid (hg.mono Q71.out.below.size)
    clear hr hb hf hg
    have P80 := Lib.hid (R15.out.put [.int .i64 0, .slice none 0 0, .int .i64 0, .slice none 0 0] 26)
    have Q80 := Lib.hid (Sf.row (pre := []) P80.out [.int .i64 sx15, .slice ax15 nx15 cx15, .int .i64 1, .slice bx15 mx15 dx15])
    obtain ⟨q81, q82, q83, q84⟩ := Fb.cells4 (Q80.out.box _ mq0)
    obtain ⟨q85, q86, q87, q88⟩ := Fb.cells4 (Q80.out.box _ mq3)
    go_wp2_with (first | refine wpList_store_row rfl _ _ _ rfl _ #[.int .i64 sx15, .slice ax15 nx15 cx15, .int .i64 1, .slice bx15 mx15 dx15] rfl rfl _ _ (P80.out.box _ List.mem_cons_self) (by kernel_rfl) rfl (by simp [Value.oneCell']) ?_)
    clear q81 q82 q83 q84 q85 q86 q87 q88
    refine (fmin_r (Q80.out.fr mq2 mq3 HC.out) (Q80.out.fr mq0 mq1 E15.out) (HL.out 1 (by decide)) (HZ.out 2 (by decide)) (r := los v 2) rfl).mono ?_
    rintro e w16 ⟨sx16, ax16, nx16, cx16, bx16, mx16, dx16, rfl, hr, hb, hf, hg⟩
    have E16 := Lib.hid hr.1.1
    have R16 := Lib.hid (Q80.out.ret2 hb hr.1.2 hf hr.2.2 hg)
    have FF16 := Lib.hid (hf.mono Q80.out.below.size)
    have FG16 := Lib.hid (hg.mono Q80.out.below.size)
    clear hr hb hf hg
    have Q89 := Lib.hid (Sf.row (pre := [(w15.heap.size, 26, [.int .i64 sx15, .slice ax15 nx15 cx15, .int .i64 1, .slice bx15 mx15 dx15]), (wr.heap.size, 73, [.int .i64 s2, .slice a2 n2 c2, .int .i64 1, .slice b2 m2 d2, .int .i64 s3, .slice a3 n3 c3, .int .i64 1, .slice b3 m3 d3]), (V9.heap.size, 26, [.int .i64 d.s, .slice d.a d.n d.c, .int .i64 1, .slice d.b d.m d.d])]) R16.out [.int .i64 sx16, .slice ax16 nx16 cx16, .int .i64 1, .slice bx16 mx16 dx16])
    obtain ⟨q90, q91, q92, q93⟩ := Fb.cells4 (Q89.out.box _ mq0)
    obtain ⟨q94, q95, q96, q97⟩ := Fb.cells4 (Q89.out.box _ mq2)
    go_wp2_with (first | refine wpList_store_row rfl _ _ _ rfl _ #[.int .i64 sx16, .slice ax16 nx16 cx16, .int .i64 1, .slice bx16 mx16 dx16] rfl rfl _ _ (R16.out.box _ mq3) (by kernel_rfl) rfl (by simp [Value.oneCell']) ?_)
    clear q90 q91 q92 q93 q94 q95 q96 q97
    refine (fmax_r (Q89.out.fr mq6 mq7 HD.out) (Q89.out.fr mq2 mq3 E15.out) (HH.out 1 (by decide)) (HZ.out 2 (by decide)) (r := his v 2) rfl).mono ?_
    rintro e w17 ⟨sx17, ax17, nx17, cx17, bx17, mx17, dx17, rfl, hr, hb, hf, hg⟩
    have E17 := Lib.hid hr.1.1
    have R17 := Lib.hid (Q89.out.ret2 hb hr.1.2 hf hr.2.2 hg)
    have FF17 := Lib.hid (hf.mono Q89.out.below.size)
    have FG17 := Lib.hid (hg.mono Q89.out.below.size)
    clear hr hb hf hg
    have Q98 := Lib.hid (Sf.row (pre := [(w15.heap.size, 26, [.int .i64 sx15, .slice ax15 nx15 cx15, .int .i64 1, .slice bx15 mx15 dx15]), (wr.heap.size, 73, [.int .i64 s2, .slice a2 n2 c2, .int .i64 1, .slice b2 m2 d2, .int .i64 s3, .slice a3 n3 c3, .int .i64 1, .slice b3 m3 d3])]) R17.out [.int .i64 sx17, .slice ax17 nx17 cx17, .int .i64 1, .slice bx17 mx17 dx17])
    go_wp2_with (first | refine wpList_store_row rfl _ _ _ rfl _ #[.int .i64 sx17, .slice ax17 nx17 cx17, .int .i64 1, .slice bx17 mx17 dx17] rfl rfl _ _ (R17.out.box _ mq2) (by kernel_rfl) rfl (by simp [Value.oneCell']) ?_)
    go_roundw
    case rel => exact ⟨2, ⟨sx16, ax16, nx16, cx16, bx16, mx16, dx16⟩, ⟨sx17, ax17, nx17, cx17, bx17, mx17, dx17⟩, by decide, by go_num, E16.out, E17.out, fun g hg => ⟨⟨FF16.out g hg, FG16.out g hg⟩, ⟨FF17.out g hg, FG17.out g hg⟩⟩, Sf.facts (Sf.tail (Sf.tail Q98.out)) (by simp)⟩
    case measure => simp [RowKit.intOf]
   ·subst e
    have ht2 : _ = Value.int IntKind.i64 2 := ht
    subst ht2
    clear ht hi hlt
    have hix : ∀ W : World, (Instr.index 74 (.agg #[.int .i64 s1, .slice a1 n1 c1, .int .i64 1, .slice b1 m1 d1, .int .i64 s4, .slice a4 n4 c4, .int .i64 1, .slice b4 m4 d4, .int .i64 s2, .slice a2 n2 c2, .int .i64 1, .slice b2 m2 d2, .int .i64 s3, .slice a3 n3 c3, .int .i64 1, .slice b3 m3 d3, .int .i64 s2, .slice a2 n2 c2, .int .i64 1, .slice b2 m2 d2, .int .i64 s4, .slice a4 n4 c4, .int .i64 1, .slice b4 m4 d4]) (.int .i64 2)).run Tryz.prog W = .ok (.agg #[.int .i64 s2, .slice a2 n2 c2, .int .i64 1, .slice b2 m2 d2, .int .i64 s4, .slice a4 n4 c4, .int .i64 1, .slice b4 m4 d4]) W := fun W => ix_at2 W
    have Q99 := Lib.hid (HS.out.put [.int .i64 s2, .slice a2 n2 c2, .int .i64 1, .slice b2 m2 d2, .int .i64 s4, .slice a4 n4 c4, .int .i64 1, .slice b4 m4 d4] 73)
    obtain ⟨q100, q101, q102, q103, q104, q105, q106, q107⟩ := Fb.cells8 (Q99.out.box _ mq0)
    go_wp2_with fail
    clear hix
    clear q100 q101 q102 q103 q104 q105 q106 q107
    refine (fmul_r (Q99.out.fr mq8 mq9 E2.out) (Q99.out.fr mq4 mq5 E4.out) Z2.out.mono Z4.out.mono V3.out).mono ?_
    rintro e w18 ⟨sx18, ax18, nx18, cx18, bx18, mx18, dx18, rfl, hr, hb, hf, hg⟩
    have E18 := Lib.hid hr.1.1
    have R18 := Lib.hid (Q99.out.ret2 hb hr.1.2 hf hr.2.2 hg)
    have FF18 := Lib.hid (hf.mono Q99.out.below.size)
    have FG18 := Lib.hid (hg.mono Q99.out.below.size)
    clear hr hb hf hg
    have P108 := Lib.hid (R18.out.put [.int .i64 0, .slice none 0 0, .int .i64 0, .slice none 0 0] 26)
    have Q108 := Lib.hid (Sf.row (pre := []) P108.out [.int .i64 sx18, .slice ax18 nx18 cx18, .int .i64 1, .slice bx18 mx18 dx18])
    obtain ⟨q109, q110, q111, q112⟩ := Fb.cells4 (Q108.out.box _ mq0)
    obtain ⟨q113, q114, q115, q116⟩ := Fb.cells4 (Q108.out.box _ mq3)
    go_wp2_with (first | refine wpList_store_row rfl _ _ _ rfl _ #[.int .i64 sx18, .slice ax18 nx18 cx18, .int .i64 1, .slice bx18 mx18 dx18] rfl rfl _ _ (P108.out.box _ List.mem_cons_self) (by kernel_rfl) rfl (by simp [Value.oneCell']) ?_)
    clear q109 q110 q111 q112 q113 q114 q115 q116
    refine (fmin_r (Q108.out.fr mq2 mq3 HC.out) (Q108.out.fr mq0 mq1 E18.out) (HL.out 2 (by decide)) (HZ.out 3 (by decide)) (r := los v 3) rfl).mono ?_
    rintro e w19 ⟨sx19, ax19, nx19, cx19, bx19, mx19, dx19, rfl, hr, hb, hf, hg⟩
    have E19 := Lib.hid hr.1.1
    have R19 := Lib.hid (Q108.out.ret2 hb hr.1.2 hf hr.2.2 hg)
    have FF19 := Lib.hid (hf.mono Q108.out.below.size)
    have FG19 := Lib.hid (hg.mono Q108.out.below.size)
    clear hr hb hf hg
    have Q117 := Lib.hid (Sf.row (pre := [(w18.heap.size, 26, [.int .i64 sx18, .slice ax18 nx18 cx18, .int .i64 1, .slice bx18 mx18 dx18]), (wr.heap.size, 73, [.int .i64 s2, .slice a2 n2 c2, .int .i64 1, .slice b2 m2 d2, .int .i64 s4, .slice a4 n4 c4, .int .i64 1, .slice b4 m4 d4]), (V9.heap.size, 26, [.int .i64 d.s, .slice d.a d.n d.c, .int .i64 1, .slice d.b d.m d.d])]) R19.out [.int .i64 sx19, .slice ax19 nx19 cx19, .int .i64 1, .slice bx19 mx19 dx19])
    obtain ⟨q118, q119, q120, q121⟩ := Fb.cells4 (Q117.out.box _ mq0)
    obtain ⟨q122, q123, q124, q125⟩ := Fb.cells4 (Q117.out.box _ mq2)
    go_wp2_with (first | refine wpList_store_row rfl _ _ _ rfl _ #[.int .i64 sx19, .slice ax19 nx19 cx19, .int .i64 1, .slice bx19 mx19 dx19] rfl rfl _ _ (R19.out.box _ mq3) (by kernel_rfl) rfl (by simp [Value.oneCell']) ?_)
    clear q118 q119 q120 q121 q122 q123 q124 q125
    refine (fmax_r (Q117.out.fr mq6 mq7 HD.out) (Q117.out.fr mq2 mq3 E18.out) (HH.out 2 (by decide)) (HZ.out 3 (by decide)) (r := his v 3) rfl).mono ?_
    rintro e w20 ⟨sx20, ax20, nx20, cx20, bx20, mx20, dx20, rfl, hr, hb, hf, hg⟩
    have E20 := Lib.hid hr.1.1
    have R20 := Lib.hid (Q117.out.ret2 hb hr.1.2 hf hr.2.2 hg)
    have FF20 := Lib.hid (hf.mono Q117.out.below.size)
    have FG20 := Lib.hid (hg.mono Q117.out.below.size)
    clear hr hb hf hg
    have Q126 := Lib.hid (Sf.row (pre := [(w18.heap.size, 26, [.int .i64 sx18, .slice ax18 nx18 cx18, .int .i64 1, .slice bx18 mx18 dx18]), (wr.heap.size, 73, [.int .i64 s2, .slice a2 n2 c2, .int .i64 1, .slice b2 m2 d2, .int .i64 s4, .slice a4 n4 c4, .int .i64 1, .slice b4 m4 d4])]) R20.out [.int .i64 sx20, .slice ax20 nx20 cx20, .int .i64 1, .slice bx20 mx20 dx20])
    go_wp2_with (first | refine wpList_store_row rfl _ _ _ rfl _ #[.int .i64 sx20, .slice ax20 nx20 cx20, .int .i64 1, .slice bx20 mx20 dx20] rfl rfl _ _ (R20.out.box _ mq2) (by kernel_rfl) rfl (by simp [Value.oneCell']) ?_)
    go_roundw
    case rel => exact ⟨3, ⟨sx19, ax19, nx19, cx19, bx19, mx19, dx19⟩, ⟨sx20, ax20, nx20, cx20, bx20, mx20, dx20⟩, by decide, by go_num, E19.out, E20.out, fun g hg => ⟨⟨FF19.out g hg, FG19.out g hg⟩, ⟨FF20.out g hg, FG20.out g hg⟩⟩, Sf.facts (Sf.tail (Sf.tail Q126.out)) (by simp)⟩
    case measure => simp [RowKit.intOf]
  ·obtain rfl : i = 3 := by omega
   have ht2 : _ = Value.int IntKind.i64 3 := ht
   subst ht2
   clear ht hi hlt
   obtain ⟨q127, q128, q129, q130⟩ := Fb.cells4 (HS.out.box _ mq0)
   obtain ⟨q131, q132, q133, q134⟩ := Fb.cells4 (HS.out.box _ mq1)
   have Q135 := Lib.hid (Sf.row (pre := [(V9.heap.size, 26, [.int .i64 d.s, .slice d.a d.n d.c, .int .i64 1, .slice d.b d.m d.d]), (w11.heap.size, 26, [.int .i64 c.s, .slice c.a c.n c.c, .int .i64 1, .slice c.b c.m c.d])]) HS.out [.int .i64 c.s, .slice c.a c.n c.c, .int .i64 1, .slice c.b c.m c.d, .int .i64 d.s, .slice d.a d.n d.c, .int .i64 1, .slice d.b d.m d.d])
   go_wp2_with (first | refine wpList_store_row rfl _ _ _ rfl _ #[.int .i64 c.s, .slice c.a c.n c.c, .int .i64 1, .slice c.b c.m c.d, .int .i64 d.s, .slice d.a d.n d.c, .int .i64 1, .slice d.b d.m d.d] rfl rfl _ _ (HS.out.box _ mq2) (by kernel_rfl) rfl (by simp [Value.oneCell']) ?_)
   clear q127 q128 q129 q130 q131 q132 q133 q134
   refine bodyPost_ret (results_cell_row rfl _ _ _ _ _ (0, 0) _ rfl (Q135.out.box _ mq2) Tryz.underlying28 rfl (by kernel_rfl)) rfl ⟨c, d, rfl, (Q135.out.fr mq0 mq1 HC.out), (Q135.out.fr mq2 mq3 HD.out), Q135.out.below, HO.out⟩

set_option maxHeartbeats 8000000 in
theorem p10mul {w : World} {s1 : Int} {a1 b1 : Option Addr} {n1 c1 m1 d1 : Nat} {x : Rat} {s2 : Int} {a2 b2 : Option Addr} {n2 c2 m2 d2 : Nat} {y : Rat} {s3 : Int} {a3 b3 : Option Addr} {n3 c3 m3 d3 : Nat} {p : Rat} {s4 : Int} {a4 b4 : Option Addr} {n4 c4 m4 d4 : Nat} {q : Rat} (h1 : Fr w s1 (.slice a1 n1 c1) (.slice b1 m1 d1) x) (z1 : FSz 400 x) (h2 : Fr w s2 (.slice a2 n2 c2) (.slice b2 m2 d2) y) (z2 : FSz 400 y) (h3 : Fr w s3 (.slice a3 n3 c3) (.slice b3 m3 d3) p) (z3 : FSz 400 p) (h4 : Fr w s4 (.slice a4 n4 c4) (.slice b4 m4 d4) q) (z4 : FSz 400 q) (hxy : x ≤ y) (hpq : p ≤ q) {r : Rat × Rat} (hr : mulS (x, y) (p, q) = r) :
  Calls Tryz.prog 31 #[.agg #[.int .i64 s1, .slice a1 n1 c1, .int .i64 1, .slice b1 m1 d1, .int .i64 s2, .slice a2 n2 c2, .int .i64 1, .slice b2 m2 d2], .agg #[.int .i64 s3, .slice a3 n3 c3, .int .i64 1, .slice b3 m3 d3, .int .i64 s4, .slice a4 n4 c4, .int .i64 1, .slice b4 m4 d4]] w (SpP (fun v => .tuple #[v, .int .i64 0]) r w) := by
 have HR := Lib.hid hr
 have E1 := Lib.hid h1.1.1
 have Z1 := Lib.hid z1
 have E2 := Lib.hid h2.1.1
 have Z2 := Lib.hid z2
 have E3 := Lib.hid h3.1.1
 have Z3 := Lib.hid z3
 have E4 := Lib.hid h4.1.1
 have Z4 := Lib.hid z4
 have HXY := Lib.hid (decide_eq_true hxy)
 have HPQ := Lib.hid (decide_eq_true hpq)
 have s0 := ((((((((((((Sf.start w).arg h1.2.2).arg h1.1.2).arg h2.2.2).arg h2.1.2).arg h3.2.2).arg h3.1.2).arg h4.2.2).arg h4.1.2).put [.int .i64 s1, .slice a1 n1 c1, .int .i64 1, .slice b1 m1 d1, .int .i64 s2, .slice a2 n2 c2, .int .i64 1, .slice b2 m2 d2] 28).put [.int .i64 s3, .slice a3 n3 c3, .int .i64 1, .slice b3 m3 d3, .int .i64 s4, .slice a4 n4 c4, .int .i64 1, .slice b4 m4 d4] 28).put [.int .i64 0, .slice none 0 0, .int .i64 0, .slice none 0 0, .int .i64 0, .slice none 0 0, .int .i64 0, .slice none 0 0] 28)
 try simp only [World.size_alloc] at s0
 have S0 := Lib.hid s0
 clear s0
 clear h1 h2 h3 h4 z1 z2 z3 z4 hxy hpq hr
 go_enter Tryz.func31, Tryz.ntmps31
 obtain ⟨q1, q2, q3, q4, q5, q6, q7, q8⟩ := Fb.cells8 (S0.out.box _ mq2)
 go_wp2_with fail
 clear q1 q2 q3 q4 q5 q6 q7 q8
 refine (p10right_v (S0.out.fr mq6 mq7 E1.out) Z1.out.mono (S0.out.fr mq4 mq5 E2.out) Z2.out.mono HXY.out).mono ?_
 rintro e w11 ⟨rfl, hb⟩
 have R11 := Lib.hid (S0.out.later hb)
 clear hb
 obtain ⟨q9, q10, q11, q12, q13, q14, q15, q16⟩ := Fb.cells8 (R11.out.box _ mq1)
 go_wp2_with fail
 clear q9 q10 q11 q12 q13 q14 q15 q16
 refine (p10right_v (R11.out.fr mq2 mq3 E3.out) Z3.out.mono (R11.out.fr mq0 mq1 E4.out) Z4.out.mono HPQ.out).mono ?_
 rintro e w12 ⟨rfl, hb⟩
 have R12 := Lib.hid (R11.out.later hb)
 clear hb
 obtain ⟨q17, q18, q19, q20, q21, q22, q23, q24⟩ := Fb.cells8 (R12.out.box _ mq1)
 obtain ⟨q25, q26, q27, q28, q29, q30, q31, q32⟩ := Fb.cells8 (R12.out.box _ mq2)
 go_wp2_with fail
 clear q17 q18 q19 q20 q21 q22 q23 q24 q25 q26 q27 q28 q29 q30 q31 q32
 refine (p10cor_mul (R12.out.fr mq6 mq7 E1.out) Z1.out (R12.out.fr mq4 mq5 E2.out) Z2.out (R12.out.fr mq2 mq3 E3.out) Z3.out (R12.out.fr mq0 mq1 E4.out) Z4.out HR.out).mono ?_
 rintro e w13 ⟨c13, d13, rfl, h1, h2, hb, ho⟩
 have EC13 := Lib.hid h1.1.1
 have ED13 := Lib.hid h2.1.1
 have R13 := Lib.hid (Sf.span R12.out hb h1 h2 (fun x hx => ho x.1 (R12.out.lt x hx)))
 have HO13 := Lib.hid (fun g (hg : g < w.heap.size) => ho g (Nat.lt_of_lt_of_le hg R12.out.below.size))
 clear h1 h2 hb ho
 have Q33 := Lib.hid (Sf.row (pre := []) R13.out [.int .i64 c13.s, .slice c13.a c13.n c13.c, .int .i64 1, .slice c13.b c13.m c13.d, .int .i64 d13.s, .slice d13.a d13.n d13.c, .int .i64 1, .slice d13.b d13.m d13.d])
 go_wp2_with (first | refine wpList_store_row rfl _ _ _ rfl _ #[.int .i64 c13.s, .slice c13.a c13.n c13.c, .int .i64 1, .slice c13.b c13.m c13.d, .int .i64 d13.s, .slice d13.a d13.n d13.c, .int .i64 1, .slice d13.b d13.m d13.d] rfl rfl _ _ (R13.out.box _ mq0) (by kernel_rfl) rfl (by simp [Value.oneCell']) ?_)
 refine bodyPost_ret (ret_row rfl _ _ _ _ rfl (run_loadVar_row _ _ _ _ _ (0, 0) _ (Q33.out.box _ mq0) Tryz.underlying28 rfl (by kernel_rfl))) rfl ⟨c13, d13, rfl, (Q33.out.fr mq0 mq1 EC13.out), (Q33.out.fr mq2 mq3 ED13.out), Q33.out.below, HO13.out⟩

set_option maxHeartbeats 8000000 in
theorem p10mul_bad {w : World} {s1 t1 : Int} {a1 b1 : Option Addr} {n1 c1 m1 d1 : Nat} {l1 k1 : List Int} {s2 t2 : Int} {a2 b2 : Option Addr} {n2 c2 m2 d2 : Nat} {l2 k2 : List Int} {s3 t3 : Int} {a3 b3 : Option Addr} {n3 c3 m3 d3 : Nat} {l3 k3 : List Int} {s4 t4 : Int} {a4 b4 : Option Addr} {n4 c4 m4 d4 : Nat} {l4 k4 : List Int} (hl1 : Ints w (.slice a1 n1 c1) l1) (hk1 : Ints w (.slice b1 m1 d1) k1) (ll1 : l1.length ≤ 1000) (lk1 : k1.length ≤ 1000) (hl2 : Ints w (.slice a2 n2 c2) l2) (hk2 : Ints w (.slice b2 m2 d2) k2) (ll2 : l2.length ≤ 1000) (lk2 : k2.length ≤ 1000) (hl3 : Ints w (.slice a3 n3 c3) l3) (hk3 : Ints w (.slice b3 m3 d3) k3) (ll3 : l3.length ≤ 1000) (lk3 : k3.length ≤ 1000) (hl4 : Ints w (.slice a4 n4 c4) l4) (hk4 : Ints w (.slice b4 m4 d4) k4) (ll4 : l4.length ≤ 1000) (lk4 : k4.length ≤ 1000) (hr : (sR s1 l1 t1 k1 s2 l2 t2 k2 && sR s3 l3 t3 k3 s4 l4 t4 k4) = false) :
  Calls Tryz.prog 31 #[.agg #[.int .i64 s1, .slice a1 n1 c1, .int .i64 t1, .slice b1 m1 d1, .int .i64 s2, .slice a2 n2 c2, .int .i64 t2, .slice b2 m2 d2], .agg #[.int .i64 s3, .slice a3 n3 c3, .int .i64 t3, .slice b3 m3 d3, .int .i64 s4, .slice a4 n4 c4, .int .i64 t4, .slice b4 m4 d4]] w fun e w' => e = .returned (.tuple #[.agg #[.int .i64 0, .slice none 0 0, .int .i64 0, .slice none 0 0, .int .i64 0, .slice none 0 0, .int .i64 0, .slice none 0 0], .int .i64 1]) ∧ RowKit.Below w.heap.size w w' := by
 rcases ea : sR s1 l1 t1 k1 s2 l2 t2 k2 with _ | _
 ·skip
  have LL1 := Lib.hid ll1
  have LK1 := Lib.hid lk1
  have LL2 := Lib.hid ll2
  have LK2 := Lib.hid lk2
  have LL3 := Lib.hid ll3
  have LK3 := Lib.hid lk3
  have LL4 := Lib.hid ll4
  have LK4 := Lib.hid lk4
  have EA := Lib.hid ea
  have s0 := ((((((((((((Sf.start w).arg hk1).arg hl1).arg hk2).arg hl2).arg hk3).arg hl3).arg hk4).arg hl4).put [.int .i64 s1, .slice a1 n1 c1, .int .i64 t1, .slice b1 m1 d1, .int .i64 s2, .slice a2 n2 c2, .int .i64 t2, .slice b2 m2 d2] 28).put [.int .i64 s3, .slice a3 n3 c3, .int .i64 t3, .slice b3 m3 d3, .int .i64 s4, .slice a4 n4 c4, .int .i64 t4, .slice b4 m4 d4] 28).put [.int .i64 0, .slice none 0 0, .int .i64 0, .slice none 0 0, .int .i64 0, .slice none 0 0, .int .i64 0, .slice none 0 0] 28)
  try simp only [World.size_alloc] at s0
  have S0 := Lib.hid s0
  clear s0
  clear hr ea hl1 hk1 ll1 lk1 hl2 hk2 ll2 lk2 hl3 hk3 ll3 lk3 hl4 hk4 ll4 lk4
  go_enter Tryz.func31, Tryz.ntmps31
  obtain ⟨q1, q2, q3, q4, q5, q6, q7, q8⟩ := Fb.cells8 (S0.out.box _ mq2)
  go_wp2_with fail
  clear q1 q2 q3 q4 q5 q6 q7 q8
  refine (p10right_raw (S0.out.ints (.slice a1 n1 c1, l1) mq6) (S0.out.ints (.slice b1 m1 d1, k1) mq7) LL1.out LK1.out (S0.out.ints (.slice a2 n2 c2, l2) mq4) (S0.out.ints (.slice b2 m2 d2, k2) mq5) LL2.out LK2.out EA.out).mono ?_
  rintro e w1 ⟨rfl, hb⟩
  have R1 := Lib.hid (S0.out.later hb)
  clear hb
  have Q9 := Lib.hid (Sf.row (pre := []) R1.out [.int .i64 0, .slice none 0 0, .int .i64 0, .slice none 0 0, .int .i64 0, .slice none 0 0, .int .i64 0, .slice none 0 0])
  go_wp2_with (first | refine wpList_store_row rfl _ _ _ rfl _ #[.int .i64 0, .slice none 0 0, .int .i64 0, .slice none 0 0, .int .i64 0, .slice none 0 0, .int .i64 0, .slice none 0 0] rfl rfl _ _ (R1.out.box _ mq0) (by kernel_rfl) rfl (by simp [Value.oneCell']) ?_)
  refine bodyPost_ret (ret_row rfl _ _ _ _ rfl (run_loadVar_row _ _ _ _ _ (0, 0) _ (Q9.out.box _ mq0) Tryz.underlying28 rfl (by kernel_rfl))) rfl ⟨rfl, Q9.out.below⟩
 ·have eb : sR s3 l3 t3 k3 s4 l4 t4 k4 = false := by rw [ea] at hr; simpa using hr
  have LL1 := Lib.hid ll1
  have LK1 := Lib.hid lk1
  have LL2 := Lib.hid ll2
  have LK2 := Lib.hid lk2
  have LL3 := Lib.hid ll3
  have LK3 := Lib.hid lk3
  have LL4 := Lib.hid ll4
  have LK4 := Lib.hid lk4
  have EA := Lib.hid ea
  have EB := Lib.hid eb
  have s0 := ((((((((((((Sf.start w).arg hk1).arg hl1).arg hk2).arg hl2).arg hk3).arg hl3).arg hk4).arg hl4).put [.int .i64 s1, .slice a1 n1 c1, .int .i64 t1, .slice b1 m1 d1, .int .i64 s2, .slice a2 n2 c2, .int .i64 t2, .slice b2 m2 d2] 28).put [.int .i64 s3, .slice a3 n3 c3, .int .i64 t3, .slice b3 m3 d3, .int .i64 s4, .slice a4 n4 c4, .int .i64 t4, .slice b4 m4 d4] 28).put [.int .i64 0, .slice none 0 0, .int .i64 0, .slice none 0 0, .int .i64 0, .slice none 0 0, .int .i64 0, .slice none 0 0] 28)
  try simp only [World.size_alloc] at s0
  have S0 := Lib.hid s0
  clear s0
  clear hr ea hl1 hk1 ll1 lk1 hl2 hk2 ll2 lk2 hl3 hk3 ll3 lk3 hl4 hk4 ll4 lk4 eb
  go_enter Tryz.func31, Tryz.ntmps31
  obtain ⟨q1, q2, q3, q4, q5, q6, q7, q8⟩ := Fb.cells8 (S0.out.box _ mq2)
  go_wp2_with fail
  clear q1 q2 q3 q4 q5 q6 q7 q8
  refine (p10right_raw (S0.out.ints (.slice a1 n1 c1, l1) mq6) (S0.out.ints (.slice b1 m1 d1, k1) mq7) LL1.out LK1.out (S0.out.ints (.slice a2 n2 c2, l2) mq4) (S0.out.ints (.slice b2 m2 d2, k2) mq5) LL2.out LK2.out EA.out).mono ?_
  rintro e w1 ⟨rfl, hb⟩
  have R1 := Lib.hid (S0.out.later hb)
  clear hb
  obtain ⟨q9, q10, q11, q12, q13, q14, q15, q16⟩ := Fb.cells8 (R1.out.box _ mq1)
  go_wp2_with fail
  clear q9 q10 q11 q12 q13 q14 q15 q16
  refine (p10right_raw (R1.out.ints (.slice a3 n3 c3, l3) mq2) (R1.out.ints (.slice b3 m3 d3, k3) mq3) LL3.out LK3.out (R1.out.ints (.slice a4 n4 c4, l4) mq0) (R1.out.ints (.slice b4 m4 d4, k4) mq1) LL4.out LK4.out EB.out).mono ?_
  rintro e w2 ⟨rfl, hb⟩
  have R2 := Lib.hid (R1.out.later hb)
  clear hb
  have Q17 := Lib.hid (Sf.row (pre := []) R2.out [.int .i64 0, .slice none 0 0, .int .i64 0, .slice none 0 0, .int .i64 0, .slice none 0 0, .int .i64 0, .slice none 0 0])
  go_wp2_with (first | refine wpList_store_row rfl _ _ _ rfl _ #[.int .i64 0, .slice none 0 0, .int .i64 0, .slice none 0 0, .int .i64 0, .slice none 0 0, .int .i64 0, .slice none 0 0] rfl rfl _ _ (R2.out.box _ mq0) (by kernel_rfl) rfl (by simp [Value.oneCell']) ?_)
  refine bodyPost_ret (ret_row rfl _ _ _ _ rfl (run_loadVar_row _ _ _ _ _ (0, 0) _ (Q17.out.box _ mq0) Tryz.underlying28 rfl (by kernel_rfl))) rfl ⟨rfl, Q17.out.below⟩

set_option maxHeartbeats 16000000 in
theorem p10cor_div {w : World} {s1 : Int} {a1 b1 : Option Addr} {n1 c1 m1 d1 : Nat} {x : Rat} {s2 : Int} {a2 b2 : Option Addr} {n2 c2 m2 d2 : Nat} {y : Rat} {s3 : Int} {a3 b3 : Option Addr} {n3 c3 m3 d3 : Nat} {p : Rat} {s4 : Int} {a4 b4 : Option Addr} {n4 c4 m4 d4 : Nat} {q : Rat} (h1 : Fr w s1 (.slice a1 n1 c1) (.slice b1 m1 d1) x) (z1 : FSz 400 x) (h2 : Fr w s2 (.slice a2 n2 c2) (.slice b2 m2 d2) y) (z2 : FSz 400 y) (h3 : Fr w s3 (.slice a3 n3 c3) (.slice b3 m3 d3) p) (z3 : FSz 400 p) (h4 : Fr w s4 (.slice a4 n4 c4) (.slice b4 m4 d4) q) (z4 : FSz 400 q) (hp : p ≠ 0) (hq : q ≠ 0) {r : Rat × Rat} (hr : divS (x, y) (p, q) = r) :
  Calls Tryz.prog 58 #[.agg #[.int .i64 s1, .slice a1 n1 c1, .int .i64 1, .slice b1 m1 d1, .int .i64 s2, .slice a2 n2 c2, .int .i64 1, .slice b2 m2 d2], .agg #[.int .i64 s3, .slice a3 n3 c3, .int .i64 1, .slice b3 m3 d3, .int .i64 s4, .slice a4 n4 c4, .int .i64 1, .slice b4 m4 d4], .func (.func 61) #[] #[]] w (SpP (fun v => v) r w) := by
 obtain ⟨v, e0, e1, e2, e3⟩ : ∃ v : Nat → Rat, x / p = v 0 ∧ x / q = v 1 ∧ y / p = v 2 ∧ y / q = v 3 := ⟨fun k => match k with | 0 => x / p | 1 => x / q | 2 => y / p | _ => y / q, rfl, rfl, rfl, rfl⟩
 obtain rfl : (los v 3, his v 3) = r := by rw [← hr]; exact los_con e0 e1 e2 e3
 have hv : ∀ i, i ≤ 3 → FSz 1000 (v i) := by
  intro i hi
  rcases (by omega : i = 0 ∨ i = 1 ∨ i = 2 ∨ i = 3) with rfl | rfl | rfl | rfl
  ·rw [← e0]; exact (FSz.div z1 z3 hp (k := 800)).mono
  ·rw [← e1]; exact (FSz.div z1 z4 hq (k := 800)).mono
  ·rw [← e2]; exact (FSz.div z2 z3 hp (k := 800)).mono
  ·rw [← e3]; exact (FSz.div z2 z4 hq (k := 800)).mono
 have HL := Lib.hid (los_sz hv)
 have HH := Lib.hid (his_sz hv)
 have HZ := Lib.hid hv
 have V0 := Lib.hid e0
 have V1 := Lib.hid e1
 have V2 := Lib.hid e2
 have V3 := Lib.hid e3
 have HP0 := Lib.hid hp
 have HQ0 := Lib.hid hq
 have E1 := Lib.hid h1.1.1
 have Z1 := Lib.hid z1
 have E2 := Lib.hid h2.1.1
 have Z2 := Lib.hid z2
 have E3 := Lib.hid h3.1.1
 have Z3 := Lib.hid z3
 have E4 := Lib.hid h4.1.1
 have Z4 := Lib.hid z4
 have s0 := ((((((((((((Sf.start w).arg h1.2.2).arg h1.1.2).arg h2.2.2).arg h2.1.2).arg h3.2.2).arg h3.1.2).arg h4.2.2).arg h4.1.2).put [.int .i64 s1, .slice a1 n1 c1, .int .i64 1, .slice b1 m1 d1, .int .i64 s2, .slice a2 n2 c2, .int .i64 1, .slice b2 m2 d2] 28).put [.int .i64 s3, .slice a3 n3 c3, .int .i64 1, .slice b3 m3 d3, .int .i64 s4, .slice a4 n4 c4, .int .i64 1, .slice b4 m4 d4] 28).put [.int .i64 0, .slice none 0 0, .int .i64 0, .slice none 0 0, .int .i64 0, .slice none 0 0, .int .i64 0, .slice none 0 0] 28)
 try simp only [World.size_alloc] at s0
 have S0 := Lib.hid s0
 clear s0
 clear h1 h2 h3 h4 z1 z2 z3 z4 hr hv e0 e1 e2 e3 hp hq
 go_enter Tryz.func58, Tryz.ntmps58
 obtain ⟨q1, q2, q3, q4, q5, q6, q7, q8⟩ := Fb.cells8 (S0.out.box _ mq1)
 obtain ⟨q9, q10, q11, q12, q13, q14, q15, q16⟩ := Fb.cells8 (S0.out.box _ mq2)
 go_wp2_with fail
 clear q1 q2 q3 q4 q5 q6 q7 q8 q9 q10 q11 q12 q13 q14 q15 q16
 refine (fdiv_r (S0.out.fr mq6 mq7 E1.out) (S0.out.fr mq2 mq3 E3.out) Z1.out.mono Z3.out.mono HP0.out V0.out).mono ?_
 rintro e w11 ⟨sx11, ax11, nx11, cx11, bx11, mx11, dx11, rfl, hr, hb, hf, hg⟩
 have E11 := Lib.hid hr.1.1
 have R11 := Lib.hid (S0.out.ret2 hb hr.1.2 hf hr.2.2 hg)
 have FF11 := Lib.hid (hf.mono S0.out.below.size)
 have FG11 := Lib.hid (hg.mono S0.out.below.size)
 clear hr hb hf hg
 have P17 := Lib.hid (R11.out.put [.int .i64 0, .slice none 0 0, .int .i64 0, .slice none 0 0] 26)
 have Q17 := Lib.hid (Sf.row (pre := []) P17.out [.int .i64 sx11, .slice ax11 nx11 cx11, .int .i64 1, .slice bx11 mx11 dx11])
 obtain ⟨q18, q19, q20, q21⟩ := Fb.cells4 (Q17.out.box _ mq0)
 go_upto_region 2 with (first | refine wpList_store_row rfl _ _ _ rfl _ #[.int .i64 sx11, .slice ax11 nx11 cx11, .int .i64 1, .slice bx11 mx11 dx11] rfl rfl _ _ (P17.out.box _ List.mem_cons_self) (by kernel_rfl) rfl (by simp [Value.oneCell']) ?_)
 clear q18 q19 q20 q21
 obtain ⟨V9, hV9⟩ : ∃ W, ((w11.alloc (.cells #[.int .i64 0, .slice none 0 0, .int .i64 0, .slice none 0 0] 26)).setRow w11.heap.size #[.int .i64 sx11, .slice ax11 nx11 cx11, .int .i64 1, .slice bx11 mx11 dx11]) = W := ⟨_, rfl⟩
 rw [hV9] at Q17 ⊢
 clear hV9
 obtain ⟨q22, q23, q24, q25⟩ := Fb.cells4 (Q17.out.box _ mq0)
 have Q26 := Lib.hid (Q17.out.put [.int .i64 sx11, .slice ax11 nx11 cx11, .int .i64 1, .slice bx11 mx11 dx11] 26)
 obtain ⟨q27, q28, q29, q30, q31, q32, q33, q34⟩ := Fb.cells8 (Q26.out.box _ mq3)
 obtain ⟨q35, q36, q37, q38, q39, q40, q41, q42⟩ := Fb.cells8 (Q26.out.box _ mq4)
 go_wp2_with fail
 clear q22 q23 q24 q25 q27 q28 q29 q30 q31 q32 q33 q34 q35 q36 q37 q38 q39 q40 q41 q42
 go_loopw [40] (fun t wr => ∃ (i : Nat) (c d : FCell), i ≤ 3 ∧ t = .int .i64 (i : Int) ∧ c.s = (los v i).num.sign ∧ d.s = (his v i).num.sign ∧ (∀ g, g < w.heap.size → FOff c g ∧ FOff d g) ∧ Sf w [(V9.heap.size, 26, [.int .i64 d.s, .slice d.a d.n d.c, .int .i64 1, .slice d.b d.m d.d]), (w11.heap.size, 26, [.int .i64 c.s, .slice c.a c.n c.c, .int .i64 1, .slice c.b c.m c.d]), (w.heap.size + 1 + 1, 28, [.int .i64 0, .slice none 0 0, .int .i64 0, .slice none 0 0, .int .i64 0, .slice none 0 0, .int .i64 0, .slice none 0 0]), (w.heap.size + 1, 28, [.int .i64 s3, .slice a3 n3 c3, .int .i64 1, .slice b3 m3 d3, .int .i64 s4, .slice a4 n4 c4, .int .i64 1, .slice b4 m4 d4]), (w.heap.size, 28, [.int .i64 s1, .slice a1 n1 c1, .int .i64 1, .slice b1 m1 d1, .int .i64 s2, .slice a2 n2 c2, .int .i64 1, .slice b2 m2 d2])] [(.slice c.a c.n c.c, digs ((los v i)).num.natAbs), (.slice c.b c.m c.d, digs ((((los v i)).den : Int)).natAbs), (.slice d.a d.n d.c, digs ((his v i)).num.natAbs), (.slice d.b d.m d.d, digs ((((his v i)).den : Int)).natAbs), (.slice a4 n4 c4, digs (q).num.natAbs), (.slice b4 m4 d4, digs (((q).den : Int)).natAbs), (.slice a3 n3 c3, digs (p).num.natAbs), (.slice b3 m3 d3, digs (((p).den : Int)).natAbs), (.slice a2 n2 c2, digs (y).num.natAbs), (.slice b2 m2 d2, digs (((y).den : Int)).natAbs), (.slice a1 n1 c1, digs (x).num.natAbs), (.slice b1 m1 d1, digs (((x).den : Int)).natAbs)] wr) (fun t _ => 4 - (RowKit.intOf t).toNat)
 case atStart => exact ⟨0, ⟨sx11, ax11, nx11, cx11, bx11, mx11, dx11⟩, ⟨sx11, ax11, nx11, cx11, bx11, mx11, dx11⟩, Nat.zero_le _, rfl, E11.out, E11.out, fun g hg => ⟨⟨FF11.out g hg, FG11.out g hg⟩, ⟨FF11.out g hg, FG11.out g hg⟩⟩, Sf.facts Q26.out (by simp [los, his])⟩
 case round =>
  clear Q26
  obtain ⟨i, c, d, hi, ht, hc, hd, ho, hS⟩ := hrel
  have HC := Lib.hid hc
  have HD := Lib.hid hd
  have HO := Lib.hid ho
  have HS := Lib.hid hS
  clear hS hc hd ho
  by_cases hlt : i < 3
  ·rcases lt3 hlt with e | e | e
   ·subst e
    have ht2 : _ = Value.int IntKind.i64 0 := ht
    subst ht2
    clear ht hi hlt
    have hix : ∀ W : World, (Instr.index 74 (.agg #[.int .i64 s1, .slice a1 n1 c1, .int .i64 1, .slice b1 m1 d1, .int .i64 s4, .slice a4 n4 c4, .int .i64 1, .slice b4 m4 d4, .int .i64 s2, .slice a2 n2 c2, .int .i64 1, .slice b2 m2 d2, .int .i64 s3, .slice a3 n3 c3, .int .i64 1, .slice b3 m3 d3, .int .i64 s2, .slice a2 n2 c2, .int .i64 1, .slice b2 m2 d2, .int .i64 s4, .slice a4 n4 c4, .int .i64 1, .slice b4 m4 d4]) (.int .i64 0)).run Tryz.prog W = .ok (.agg #[.int .i64 s1, .slice a1 n1 c1, .int .i64 1, .slice b1 m1 d1, .int .i64 s4, .slice a4 n4 c4, .int .i64 1, .slice b4 m4 d4]) W := fun W => ix_at0 W
    have Q43 := Lib.hid (HS.out.put [.int .i64 s1, .slice a1 n1 c1, .int .i64 1, .slice b1 m1 d1, .int .i64 s4, .slice a4 n4 c4, .int .i64 1, .slice b4 m4 d4] 73)
    obtain ⟨q44, q45, q46, q47, q48, q49, q50, q51⟩ := Fb.cells8 (Q43.out.box _ mq0)
    go_wp2_with fail
    clear hix
    clear q44 q45 q46 q47 q48 q49 q50 q51
    refine (fdiv_r (Q43.out.fr mq10 mq11 E1.out) (Q43.out.fr mq4 mq5 E4.out) Z1.out.mono Z4.out.mono HQ0.out V1.out).mono ?_
    rintro e w12 ⟨sx12, ax12, nx12, cx12, bx12, mx12, dx12, rfl, hr, hb, hf, hg⟩
    have E12 := Lib.hid hr.1.1
    have R12 := Lib.hid (Q43.out.ret2 hb hr.1.2 hf hr.2.2 hg)
    have FF12 := Lib.hid (hf.mono Q43.out.below.size)
    have FG12 := Lib.hid (hg.mono Q43.out.below.size)
    clear hr hb hf hg
    have P52 := Lib.hid (R12.out.put [.int .i64 0, .slice none 0 0, .int .i64 0, .slice none 0 0] 26)
    have Q52 := Lib.hid (Sf.row (pre := []) P52.out [.int .i64 sx12, .slice ax12 nx12 cx12, .int .i64 1, .slice bx12 mx12 dx12])
    obtain ⟨q53, q54, q55, q56⟩ := Fb.cells4 (Q52.out.box _ mq0)
    obtain ⟨q57, q58, q59, q60⟩ := Fb.cells4 (Q52.out.box _ mq3)
    go_wp2_with (first | refine wpList_store_row rfl _ _ _ rfl _ #[.int .i64 sx12, .slice ax12 nx12 cx12, .int .i64 1, .slice bx12 mx12 dx12] rfl rfl _ _ (P52.out.box _ List.mem_cons_self) (by kernel_rfl) rfl (by simp [Value.oneCell']) ?_)
    clear q53 q54 q55 q56 q57 q58 q59 q60
    refine (fmin_r (Q52.out.fr mq2 mq3 HC.out) (Q52.out.fr mq0 mq1 E12.out) (HL.out 0 (by decide)) (HZ.out 1 (by decide)) (r := los v 1) rfl).mono ?_
    rintro e w13 ⟨sx13, ax13, nx13, cx13, bx13, mx13, dx13, rfl, hr, hb, hf, hg⟩
    have E13 := Lib.hid hr.1.1
    have R13 := Lib.hid (Q52.out.ret2 hb hr.1.2 hf hr.2.2 hg)
    have FF13 := Lib.hid (hf.mono Q52.out.below.size)
    have FG13 := Lib.hid (hg.mono Q52.out.below.size)
    clear hr hb hf hg
    have Q61 := Lib.hid (Sf.row (pre := [(w12.heap.size, 26, [.int .i64 sx12, .slice ax12 nx12 cx12, .int .i64 1, .slice bx12 mx12 dx12]), (wr.heap.size, 73, [.int .i64 s1, .slice a1 n1 c1, .int .i64 1, .slice b1 m1 d1, .int .i64 s4, .slice a4 n4 c4, .int .i64 1, .slice b4 m4 d4]), (V9.heap.size, 26, [.int .i64 d.s, .slice d.a d.n d.c, .int .i64 1, .slice d.b d.m d.d])]) R13.out [.int .i64 sx13, .slice ax13 nx13 cx13, .int .i64 1, .slice bx13 mx13 dx13])
    obtain ⟨q62, q63, q64, q65⟩ := Fb.cells4 (Q61.out.box _ mq0)
    obtain ⟨q66, q67, q68, q69⟩ := Fb.cells4 (Q61.out.box _ mq2)
    go_wp2_with (first | refine wpList_store_row rfl _ _ _ rfl _ #[.int .i64 sx13, .slice ax13 nx13 cx13, .int .i64 1, .slice bx13 mx13 dx13] rfl rfl _ _ (R13.out.box _ mq3) (by kernel_rfl) rfl (by simp [Value.oneCell']) ?_)
    clear q62 q63 q64 q65 q66 q67 q68 q69
    refine (fmax_r (Q61.out.fr mq6 mq7 HD.out) (Q61.out.fr mq2 mq3 E12.out) (HH.out 0 (by decide)) (HZ.out 1 (by decide)) (r := his v 1) rfl).mono ?_
    rintro e w14 ⟨sx14, ax14, nx14, cx14, bx14, mx14, dx14, rfl, hr, hb, hf, hg⟩
    have E14 := Lib.hid hr.1.1
    have R14 := Lib.hid (Q61.out.ret2 hb hr.1.2 hf hr.2.2 hg)
    have FF14 := Lib.hid (hf.mono Q61.out.below.size)
    have FG14 := Lib.hid (hg.mono Q61.out.below.size)
    clear hr hb hf hg
    have Q70 := Lib.hid (Sf.row (pre := [(w12.heap.size, 26, [.int .i64 sx12, .slice ax12 nx12 cx12, .int .i64 1, .slice bx12 mx12 dx12]), (wr.heap.size, 73, [.int .i64 s1, .slice a1 n1 c1, .int .i64 1, .slice b1 m1 d1, .int .i64 s4, .slice a4 n4 c4, .int .i64 1, .slice b4 m4 d4])]) R14.out [.int .i64 sx14, .slice ax14 nx14 cx14, .int .i64 1, .slice bx14 mx14 dx14])
    go_wp2_with (first | refine wpList_store_row rfl _ _ _ rfl _ #[.int .i64 sx14, .slice ax14 nx14 cx14, .int .i64 1, .slice bx14 mx14 dx14] rfl rfl _ _ (R14.out.box _ mq2) (by kernel_rfl) rfl (by simp [Value.oneCell']) ?_)
    go_roundw
    case rel => exact ⟨1, ⟨sx13, ax13, nx13, cx13, bx13, mx13, dx13⟩, ⟨sx14, ax14, nx14, cx14, bx14, mx14, dx14⟩, by decide, by go_num, E13.out, E14.out, fun g hg => ⟨⟨FF13.out g hg, FG13.out g hg⟩, ⟨FF14.out g hg, FG14.out g hg⟩⟩, Sf.facts (Sf.tail (Sf.tail Q70.out)) (by simp)⟩
    case measure => simp [RowKit.intOf]
   ·subst e
    have ht2 : _ = Value.int IntKind.i64 1 := ht
    subst ht2
    clear ht hi hlt
    have hix : ∀ W : World, (Instr.index 74 (.agg #[.int .i64 s1, .slice a1 n1 c1, .int .i64 1, .slice b1 m1 d1, .int .i64 s4, .slice a4 n4 c4, .int .i64 1, .slice b4 m4 d4, .int .i64 s2, .slice a2 n2 c2, .int .i64 1, .slice b2 m2 d2, .int .i64 s3, .slice a3 n3 c3, .int .i64 1, .slice b3 m3 d3, .int .i64 s2, .slice a2 n2 c2, .int .i64 1, .slice b2 m2 d2, .int .i64 s4, .slice a4 n4 c4, .int .i64 1, .slice b4 m4 d4]) (.int .i64 1)).run Tryz.prog W = .ok (.agg #[.int .i64 s2, .slice a2 n2 c2, .int .i64 1, .slice b2 m2 d2, .int .i64 s3, .slice a3 n3 c3, .int .i64 1, .slice b3 m3 d3]) W := fun W => ix_at1 W
    have Q71 := Lib.hid (HS.out.put [.int .i64 s2, .slice a2 n2 c2, .int .i64 1, .slice b2 m2 d2, .int .i64 s3, .slice a3 n3 c3, .int .i64 1, .slice b3 m3 d3] 73)
    obtain ⟨q72, q73, q74, q75, q76, q77, q78, q79⟩ := Fb.cells8 (Q71.out.box _ mq0)
    go_wp2_with fail
    clear hix
    clear q72 q73 q74 q75 q76 q77 q78 q79
    refine (fdiv_r (Q71.out.fr mq8 mq9 E2.out) (Q71.out.fr mq6 mq7 E3.out) Z2.out.mono Z3.out.mono HP0.out V2.out).mono ?_
    rintro e w15 ⟨sx15, ax15, nx15, cx15, bx15, mx15, dx15, rfl, hr, hb, hf, hg⟩
    have E15 := Lib.hid hr.1.1
    have R15 := Lib.hid (Q71.out.ret2 hb hr.1.2 hf hr.2.2 hg)
    have FF15 := Lib.hid (hf.mono Q71.out.below.size)
    have FG15 := Lib.hid (hg.mono Q71.out.below.size)
    clear hr hb hf hg
    have P80 := Lib.hid (R15.out.put [.int .i64 0, .slice none 0 0, .int .i64 0, .slice none 0 0] 26)
    have Q80 := Lib.hid (Sf.row (pre := []) P80.out [.int .i64 sx15, .slice ax15 nx15 cx15, .int .i64 1, .slice bx15 mx15 dx15])
    obtain ⟨q81, q82, q83, q84⟩ := Fb.cells4 (Q80.out.box _ mq0)
    obtain ⟨q85, q86, q87, q88⟩ := Fb.cells4 (Q80.out.box _ mq3)
    go_wp2_with (first | refine wpList_store_row rfl _ _ _ rfl _ #[.int .i64 sx15, .slice ax15 nx15 cx15, .int .i64 1, .slice bx15 mx15 dx15] rfl rfl _ _ (P80.out.box _ List.mem_cons_self) (by kernel_rfl) rfl (by simp [Value.oneCell']) ?_)
    clear q81 q82 q83 q84 q85 q86 q87 q88
    refine (fmin_r (Q80.out.fr mq2 mq3 HC.out) (Q80.out.fr mq0 mq1 E15.out) (HL.out 1 (by decide)) (HZ.out 2 (by decide)) (r := los v 2) rfl).mono ?_
    rintro e w16 ⟨sx16, ax16, nx16, cx16, bx16, mx16, dx16, rfl, hr, hb, hf, hg⟩
    have E16 := Lib.hid hr.1.1
    have R16 := Lib.hid (Q80.out.ret2 hb hr.1.2 hf hr.2.2 hg)
    have FF16 := Lib.hid (hf.mono Q80.out.below.size)
    have FG16 := Lib.hid (hg.mono Q80.out.below.size)
    clear hr hb hf hg
    have Q89 := Lib.hid (Sf.row (pre := [(w15.heap.size, 26, [.int .i64 sx15, .slice ax15 nx15 cx15, .int .i64 1, .slice bx15 mx15 dx15]), (wr.heap.size, 73, [.int .i64 s2, .slice a2 n2 c2, .int .i64 1, .slice b2 m2 d2, .int .i64 s3, .slice a3 n3 c3, .int .i64 1, .slice b3 m3 d3]), (V9.heap.size, 26, [.int .i64 d.s, .slice d.a d.n d.c, .int .i64 1, .slice d.b d.m d.d])]) R16.out [.int .i64 sx16, .slice ax16 nx16 cx16, .int .i64 1, .slice bx16 mx16 dx16])
    obtain ⟨q90, q91, q92, q93⟩ := Fb.cells4 (Q89.out.box _ mq0)
    obtain ⟨q94, q95, q96, q97⟩ := Fb.cells4 (Q89.out.box _ mq2)
    go_wp2_with (first | refine wpList_store_row rfl _ _ _ rfl _ #[.int .i64 sx16, .slice ax16 nx16 cx16, .int .i64 1, .slice bx16 mx16 dx16] rfl rfl _ _ (R16.out.box _ mq3) (by kernel_rfl) rfl (by simp [Value.oneCell']) ?_)
    clear q90 q91 q92 q93 q94 q95 q96 q97
    refine (fmax_r (Q89.out.fr mq6 mq7 HD.out) (Q89.out.fr mq2 mq3 E15.out) (HH.out 1 (by decide)) (HZ.out 2 (by decide)) (r := his v 2) rfl).mono ?_
    rintro e w17 ⟨sx17, ax17, nx17, cx17, bx17, mx17, dx17, rfl, hr, hb, hf, hg⟩
    have E17 := Lib.hid hr.1.1
    have R17 := Lib.hid (Q89.out.ret2 hb hr.1.2 hf hr.2.2 hg)
    have FF17 := Lib.hid (hf.mono Q89.out.below.size)
    have FG17 := Lib.hid (hg.mono Q89.out.below.size)
    clear hr hb hf hg
    have Q98 := Lib.hid (Sf.row (pre := [(w15.heap.size, 26, [.int .i64 sx15, .slice ax15 nx15 cx15, .int .i64 1, .slice bx15 mx15 dx15]), (wr.heap.size, 73, [.int .i64 s2, .slice a2 n2 c2, .int .i64 1, .slice b2 m2 d2, .int .i64 s3, .slice a3 n3 c3, .int .i64 1, .slice b3 m3 d3])]) R17.out [.int .i64 sx17, .slice ax17 nx17 cx17, .int .i64 1, .slice bx17 mx17 dx17])
    go_wp2_with (first | refine wpList_store_row rfl _ _ _ rfl _ #[.int .i64 sx17, .slice ax17 nx17 cx17, .int .i64 1, .slice bx17 mx17 dx17] rfl rfl _ _ (R17.out.box _ mq2) (by kernel_rfl) rfl (by simp [Value.oneCell']) ?_)
    go_roundw
    case rel => exact ⟨2, ⟨sx16, ax16, nx16, cx16, bx16, mx16, dx16⟩, ⟨sx17, ax17, nx17, cx17, bx17, mx17, dx17⟩, by decide, by go_num, E16.out, E17.out, fun g hg => ⟨⟨FF16.out g hg, FG16.out g hg⟩, ⟨FF17.out g hg, FG17.out g hg⟩⟩, Sf.facts (Sf.tail (Sf.tail Q98.out)) (by simp)⟩
    case measure => simp [RowKit.intOf]
   ·subst e
    have ht2 : _ = Value.int IntKind.i64 2 := ht
    subst ht2
    clear ht hi hlt
    have hix : ∀ W : World, (Instr.index 74 (.agg #[.int .i64 s1, .slice a1 n1 c1, .int .i64 1, .slice b1 m1 d1, .int .i64 s4, .slice a4 n4 c4, .int .i64 1, .slice b4 m4 d4, .int .i64 s2, .slice a2 n2 c2, .int .i64 1, .slice b2 m2 d2, .int .i64 s3, .slice a3 n3 c3, .int .i64 1, .slice b3 m3 d3, .int .i64 s2, .slice a2 n2 c2, .int .i64 1, .slice b2 m2 d2, .int .i64 s4, .slice a4 n4 c4, .int .i64 1, .slice b4 m4 d4]) (.int .i64 2)).run Tryz.prog W = .ok (.agg #[.int .i64 s2, .slice a2 n2 c2, .int .i64 1, .slice b2 m2 d2, .int .i64 s4, .slice a4 n4 c4, .int .i64 1, .slice b4 m4 d4]) W := fun W => ix_at2 W
    have Q99 := Lib.hid (HS.out.put [.int .i64 s2, .slice a2 n2 c2, .int .i64 1, .slice b2 m2 d2, .int .i64 s4, .slice a4 n4 c4, .int .i64 1, .slice b4 m4 d4] 73)
    obtain ⟨q100, q101, q102, q103, q104, q105, q106, q107⟩ := Fb.cells8 (Q99.out.box _ mq0)
    go_wp2_with fail
    clear hix
    clear q100 q101 q102 q103 q104 q105 q106 q107
    refine (fdiv_r (Q99.out.fr mq8 mq9 E2.out) (Q99.out.fr mq4 mq5 E4.out) Z2.out.mono Z4.out.mono HQ0.out V3.out).mono ?_
    rintro e w18 ⟨sx18, ax18, nx18, cx18, bx18, mx18, dx18, rfl, hr, hb, hf, hg⟩
    have E18 := Lib.hid hr.1.1
    have R18 := Lib.hid (Q99.out.ret2 hb hr.1.2 hf hr.2.2 hg)
    have FF18 := Lib.hid (hf.mono Q99.out.below.size)
    have FG18 := Lib.hid (hg.mono Q99.out.below.size)
    clear hr hb hf hg
    have P108 := Lib.hid (R18.out.put [.int .i64 0, .slice none 0 0, .int .i64 0, .slice none 0 0] 26)
    have Q108 := Lib.hid (Sf.row (pre := []) P108.out [.int .i64 sx18, .slice ax18 nx18 cx18, .int .i64 1, .slice bx18 mx18 dx18])
    obtain ⟨q109, q110, q111, q112⟩ := Fb.cells4 (Q108.out.box _ mq0)
    obtain ⟨q113, q114, q115, q116⟩ := Fb.cells4 (Q108.out.box _ mq3)
    go_wp2_with (first | refine wpList_store_row rfl _ _ _ rfl _ #[.int .i64 sx18, .slice ax18 nx18 cx18, .int .i64 1, .slice bx18 mx18 dx18] rfl rfl _ _ (P108.out.box _ List.mem_cons_self) (by kernel_rfl) rfl (by simp [Value.oneCell']) ?_)
    clear q109 q110 q111 q112 q113 q114 q115 q116
    refine (fmin_r (Q108.out.fr mq2 mq3 HC.out) (Q108.out.fr mq0 mq1 E18.out) (HL.out 2 (by decide)) (HZ.out 3 (by decide)) (r := los v 3) rfl).mono ?_
    rintro e w19 ⟨sx19, ax19, nx19, cx19, bx19, mx19, dx19, rfl, hr, hb, hf, hg⟩
    have E19 := Lib.hid hr.1.1
    have R19 := Lib.hid (Q108.out.ret2 hb hr.1.2 hf hr.2.2 hg)
    have FF19 := Lib.hid (hf.mono Q108.out.below.size)
    have FG19 := Lib.hid (hg.mono Q108.out.below.size)
    clear hr hb hf hg
    have Q117 := Lib.hid (Sf.row (pre := [(w18.heap.size, 26, [.int .i64 sx18, .slice ax18 nx18 cx18, .int .i64 1, .slice bx18 mx18 dx18]), (wr.heap.size, 73, [.int .i64 s2, .slice a2 n2 c2, .int .i64 1, .slice b2 m2 d2, .int .i64 s4, .slice a4 n4 c4, .int .i64 1, .slice b4 m4 d4]), (V9.heap.size, 26, [.int .i64 d.s, .slice d.a d.n d.c, .int .i64 1, .slice d.b d.m d.d])]) R19.out [.int .i64 sx19, .slice ax19 nx19 cx19, .int .i64 1, .slice bx19 mx19 dx19])
    obtain ⟨q118, q119, q120, q121⟩ := Fb.cells4 (Q117.out.box _ mq0)
    obtain ⟨q122, q123, q124, q125⟩ := Fb.cells4 (Q117.out.box _ mq2)
    go_wp2_with (first | refine wpList_store_row rfl _ _ _ rfl _ #[.int .i64 sx19, .slice ax19 nx19 cx19, .int .i64 1, .slice bx19 mx19 dx19] rfl rfl _ _ (R19.out.box _ mq3) (by kernel_rfl) rfl (by simp [Value.oneCell']) ?_)
    clear q118 q119 q120 q121 q122 q123 q124 q125
    refine (fmax_r (Q117.out.fr mq6 mq7 HD.out) (Q117.out.fr mq2 mq3 E18.out) (HH.out 2 (by decide)) (HZ.out 3 (by decide)) (r := his v 3) rfl).mono ?_
    rintro e w20 ⟨sx20, ax20, nx20, cx20, bx20, mx20, dx20, rfl, hr, hb, hf, hg⟩
    have E20 := Lib.hid hr.1.1
    have R20 := Lib.hid (Q117.out.ret2 hb hr.1.2 hf hr.2.2 hg)
    have FF20 := Lib.hid (hf.mono Q117.out.below.size)
    have FG20 := Lib.hid (hg.mono Q117.out.below.size)
    clear hr hb hf hg
    have Q126 := Lib.hid (Sf.row (pre := [(w18.heap.size, 26, [.int .i64 sx18, .slice ax18 nx18 cx18, .int .i64 1, .slice bx18 mx18 dx18]), (wr.heap.size, 73, [.int .i64 s2, .slice a2 n2 c2, .int .i64 1, .slice b2 m2 d2, .int .i64 s4, .slice a4 n4 c4, .int .i64 1, .slice b4 m4 d4])]) R20.out [.int .i64 sx20, .slice ax20 nx20 cx20, .int .i64 1, .slice bx20 mx20 dx20])
    go_wp2_with (first | refine wpList_store_row rfl _ _ _ rfl _ #[.int .i64 sx20, .slice ax20 nx20 cx20, .int .i64 1, .slice bx20 mx20 dx20] rfl rfl _ _ (R20.out.box _ mq2) (by kernel_rfl) rfl (by simp [Value.oneCell']) ?_)
    go_roundw
    case rel => exact ⟨3, ⟨sx19, ax19, nx19, cx19, bx19, mx19, dx19⟩, ⟨sx20, ax20, nx20, cx20, bx20, mx20, dx20⟩, by decide, by go_num, E19.out, E20.out, fun g hg => ⟨⟨FF19.out g hg, FG19.out g hg⟩, ⟨FF20.out g hg, FG20.out g hg⟩⟩, Sf.facts (Sf.tail (Sf.tail Q126.out)) (by simp)⟩
    case measure => simp [RowKit.intOf]
  ·obtain rfl : i = 3 := by omega
   have ht2 : _ = Value.int IntKind.i64 3 := ht
   subst ht2
   clear ht hi hlt
   obtain ⟨q127, q128, q129, q130⟩ := Fb.cells4 (HS.out.box _ mq0)
   obtain ⟨q131, q132, q133, q134⟩ := Fb.cells4 (HS.out.box _ mq1)
   have Q135 := Lib.hid (Sf.row (pre := [(V9.heap.size, 26, [.int .i64 d.s, .slice d.a d.n d.c, .int .i64 1, .slice d.b d.m d.d]), (w11.heap.size, 26, [.int .i64 c.s, .slice c.a c.n c.c, .int .i64 1, .slice c.b c.m c.d])]) HS.out [.int .i64 c.s, .slice c.a c.n c.c, .int .i64 1, .slice c.b c.m c.d, .int .i64 d.s, .slice d.a d.n d.c, .int .i64 1, .slice d.b d.m d.d])
   go_wp2_with (first | refine wpList_store_row rfl _ _ _ rfl _ #[.int .i64 c.s, .slice c.a c.n c.c, .int .i64 1, .slice c.b c.m c.d, .int .i64 d.s, .slice d.a d.n d.c, .int .i64 1, .slice d.b d.m d.d] rfl rfl _ _ (HS.out.box _ mq2) (by kernel_rfl) rfl (by simp [Value.oneCell']) ?_)
   clear q127 q128 q129 q130 q131 q132 q133 q134
   refine bodyPost_ret (results_cell_row rfl _ _ _ _ _ (0, 0) _ rfl (Q135.out.box _ mq2) Tryz.underlying28 rfl (by kernel_rfl)) rfl ⟨c, d, rfl, (Q135.out.fr mq0 mq1 HC.out), (Q135.out.fr mq2 mq3 HD.out), Q135.out.below, HO.out⟩

set_option maxHeartbeats 8000000 in
theorem p10div {w : World} {s1 : Int} {a1 b1 : Option Addr} {n1 c1 m1 d1 : Nat} {x : Rat} {s2 : Int} {a2 b2 : Option Addr} {n2 c2 m2 d2 : Nat} {y : Rat} {s3 : Int} {a3 b3 : Option Addr} {n3 c3 m3 d3 : Nat} {p : Rat} {s4 : Int} {a4 b4 : Option Addr} {n4 c4 m4 d4 : Nat} {q : Rat} (h1 : Fr w s1 (.slice a1 n1 c1) (.slice b1 m1 d1) x) (z1 : FSz 400 x) (h2 : Fr w s2 (.slice a2 n2 c2) (.slice b2 m2 d2) y) (z2 : FSz 400 y) (h3 : Fr w s3 (.slice a3 n3 c3) (.slice b3 m3 d3) p) (z3 : FSz 400 p) (h4 : Fr w s4 (.slice a4 n4 c4) (.slice b4 m4 d4) q) (z4 : FSz 400 q) (hxy : x ≤ y) (hpq : p ≤ q) (h0 : ¬ In (p, q) 0) {r : Rat × Rat} (hr : divS (x, y) (p, q) = r) :
  Calls Tryz.prog 32 #[.agg #[.int .i64 s1, .slice a1 n1 c1, .int .i64 1, .slice b1 m1 d1, .int .i64 s2, .slice a2 n2 c2, .int .i64 1, .slice b2 m2 d2], .agg #[.int .i64 s3, .slice a3 n3 c3, .int .i64 1, .slice b3 m3 d3, .int .i64 s4, .slice a4 n4 c4, .int .i64 1, .slice b4 m4 d4]] w (SpP (fun v => .tuple #[v, .int .i64 0]) r w) := by
 have HR := Lib.hid hr
 have HP0 : Hid (p ≠ 0) := Lib.hid fun e => h0 ⟨e ▸ Rat.le_refl, e ▸ hpq⟩
 have HQ0 : Hid (q ≠ 0) := Lib.hid fun e => h0 ⟨e ▸ hpq, e ▸ Rat.le_refl⟩
 obtain ⟨i, hi⟩ : ∃ i, p.num.sign = i := ⟨_, rfl⟩
 obtain ⟨j, hj⟩ : ∃ j, q.num.sign = j := ⟨_, rfl⟩
 have HI := Lib.hid hi
 have HJ := Lib.hid hj
 have hij : ¬ (i ≤ 0 ∧ 0 ≤ j) := fun e => h0 ⟨sign_le.1 (hi ▸ e.1), sign_ge.1 (hj ▸ e.2)⟩
 by_cases hi0 : i ≤ 0
 ·have gk : decide (i ≤ 0) = true := decide_eq_true hi0
  have gj : decide (0 ≤ j) = false := decide_eq_false fun e => hij ⟨hi0, e⟩
  have E1 := Lib.hid h1.1.1
  have Z1 := Lib.hid z1
  have E2 := Lib.hid h2.1.1
  have Z2 := Lib.hid z2
  have E3 := Lib.hid h3.1.1
  have Z3 := Lib.hid z3
  have E4 := Lib.hid h4.1.1
  have Z4 := Lib.hid z4
  have HXY := Lib.hid (decide_eq_true hxy)
  have HPQ := Lib.hid (decide_eq_true hpq)
  have s0 := ((((((((((((Sf.start w).arg h1.2.2).arg h1.1.2).arg h2.2.2).arg h2.1.2).arg h3.2.2).arg h3.1.2).arg h4.2.2).arg h4.1.2).put [.int .i64 s1, .slice a1 n1 c1, .int .i64 1, .slice b1 m1 d1, .int .i64 s2, .slice a2 n2 c2, .int .i64 1, .slice b2 m2 d2] 28).put [.int .i64 s3, .slice a3 n3 c3, .int .i64 1, .slice b3 m3 d3, .int .i64 s4, .slice a4 n4 c4, .int .i64 1, .slice b4 m4 d4] 28).put [.int .i64 0, .slice none 0 0, .int .i64 0, .slice none 0 0, .int .i64 0, .slice none 0 0, .int .i64 0, .slice none 0 0] 28)
  try simp only [World.size_alloc] at s0
  have S0 := Lib.hid s0
  clear s0
  clear h1 h2 h3 h4 z1 z2 z3 z4 hxy hpq hr h0 hij hi hj hi0
  go_enter Tryz.func32, Tryz.ntmps32
  obtain ⟨q1, q2, q3, q4, q5, q6, q7, q8⟩ := Fb.cells8 (S0.out.box _ mq2)
  go_wp2_with fail
  clear q1 q2 q3 q4 q5 q6 q7 q8
  refine (p10right_v (S0.out.fr mq6 mq7 E1.out) Z1.out.mono (S0.out.fr mq4 mq5 E2.out) Z2.out.mono HXY.out).mono ?_
  rintro e w11 ⟨rfl, hb⟩
  have R11 := Lib.hid (S0.out.later hb)
  clear hb
  obtain ⟨q9, q10, q11, q12, q13, q14, q15, q16⟩ := Fb.cells8 (R11.out.box _ mq1)
  go_wp2_with fail
  clear q9 q10 q11 q12 q13 q14 q15 q16
  refine (p10right_v (R11.out.fr mq2 mq3 E3.out) Z3.out.mono (R11.out.fr mq0 mq1 E4.out) Z4.out.mono HPQ.out).mono ?_
  rintro e w12 ⟨rfl, hb⟩
  have R12 := Lib.hid (R11.out.later hb)
  clear hb
  obtain ⟨q17, q18, q19, q20, q21, q22, q23, q24⟩ := Fb.cells8 (R12.out.box _ mq1)
  go_wp2_with fail
  clear q17 q18 q19 q20 q21 q22 q23 q24
  refine (fsign_r (R12.out.fr mq2 mq3 E3.out) Z3.out.mono HI.out).mono ?_
  rintro e w13 ⟨rfl, hb⟩
  have R13 := Lib.hid (R12.out.later hb)
  clear hb
  obtain ⟨q25, q26, q27, q28, q29, q30, q31, q32⟩ := Fb.cells8 (R13.out.box _ mq1)
  go_wp2_with fail
  clear q25 q26 q27 q28 q29 q30 q31 q32
  refine (fsign_r (R13.out.fr mq0 mq1 E4.out) Z4.out.mono HJ.out).mono ?_
  rintro e w14 ⟨rfl, hb⟩
  have R14 := Lib.hid (R13.out.later hb)
  clear hb
  obtain ⟨q33, q34, q35, q36, q37, q38, q39, q40⟩ := Fb.cells8 (R14.out.box _ mq1)
  obtain ⟨q41, q42, q43, q44, q45, q46, q47, q48⟩ := Fb.cells8 (R14.out.box _ mq2)
  go_wp2_with fail
  clear q33 q34 q35 q36 q37 q38 q39 q40 q41 q42 q43 q44 q45 q46 q47 q48
  refine (p10cor_div (R14.out.fr mq6 mq7 E1.out) Z1.out (R14.out.fr mq4 mq5 E2.out) Z2.out (R14.out.fr mq2 mq3 E3.out) Z3.out (R14.out.fr mq0 mq1 E4.out) Z4.out HP0.out HQ0.out HR.out).mono ?_
  rintro e w15 ⟨c15, d15, rfl, h1, h2, hb, ho⟩
  have EC15 := Lib.hid h1.1.1
  have ED15 := Lib.hid h2.1.1
  have R15 := Lib.hid (Sf.span R14.out hb h1 h2 (fun x hx => ho x.1 (R14.out.lt x hx)))
  have HO15 := Lib.hid (fun g (hg : g < w.heap.size) => ho g (Nat.lt_of_lt_of_le hg R14.out.below.size))
  clear h1 h2 hb ho
  have Q49 := Lib.hid (Sf.row (pre := []) R15.out [.int .i64 c15.s, .slice c15.a c15.n c15.c, .int .i64 1, .slice c15.b c15.m c15.d, .int .i64 d15.s, .slice d15.a d15.n d15.c, .int .i64 1, .slice d15.b d15.m d15.d])
  go_wp2_with (first | refine wpList_store_row rfl _ _ _ rfl _ #[.int .i64 c15.s, .slice c15.a c15.n c15.c, .int .i64 1, .slice c15.b c15.m c15.d, .int .i64 d15.s, .slice d15.a d15.n d15.c, .int .i64 1, .slice d15.b d15.m d15.d] rfl rfl _ _ (R15.out.box _ mq0) (by kernel_rfl) rfl (by simp [Value.oneCell']) ?_)
  refine bodyPost_ret (ret_row rfl _ _ _ _ rfl (run_loadVar_row _ _ _ _ _ (0, 0) _ (Q49.out.box _ mq0) Tryz.underlying28 rfl (by kernel_rfl))) rfl ⟨c15, d15, rfl, (Q49.out.fr mq0 mq1 EC15.out), (Q49.out.fr mq2 mq3 ED15.out), Q49.out.below, HO15.out⟩
 ·have gk : decide (i ≤ 0) = false := decide_eq_false hi0
  have E1 := Lib.hid h1.1.1
  have Z1 := Lib.hid z1
  have E2 := Lib.hid h2.1.1
  have Z2 := Lib.hid z2
  have E3 := Lib.hid h3.1.1
  have Z3 := Lib.hid z3
  have E4 := Lib.hid h4.1.1
  have Z4 := Lib.hid z4
  have HXY := Lib.hid (decide_eq_true hxy)
  have HPQ := Lib.hid (decide_eq_true hpq)
  have s0 := ((((((((((((Sf.start w).arg h1.2.2).arg h1.1.2).arg h2.2.2).arg h2.1.2).arg h3.2.2).arg h3.1.2).arg h4.2.2).arg h4.1.2).put [.int .i64 s1, .slice a1 n1 c1, .int .i64 1, .slice b1 m1 d1, .int .i64 s2, .slice a2 n2 c2, .int .i64 1, .slice b2 m2 d2] 28).put [.int .i64 s3, .slice a3 n3 c3, .int .i64 1, .slice b3 m3 d3, .int .i64 s4, .slice a4 n4 c4, .int .i64 1, .slice b4 m4 d4] 28).put [.int .i64 0, .slice none 0 0, .int .i64 0, .slice none 0 0, .int .i64 0, .slice none 0 0, .int .i64 0, .slice none 0 0] 28)
  try simp only [World.size_alloc] at s0
  have S0 := Lib.hid s0
  clear s0
  clear h1 h2 h3 h4 z1 z2 z3 z4 hxy hpq hr h0 hij hi hj hi0
  go_enter Tryz.func32, Tryz.ntmps32
  obtain ⟨q1, q2, q3, q4, q5, q6, q7, q8⟩ := Fb.cells8 (S0.out.box _ mq2)
  go_wp2_with fail
  clear q1 q2 q3 q4 q5 q6 q7 q8
  refine (p10right_v (S0.out.fr mq6 mq7 E1.out) Z1.out.mono (S0.out.fr mq4 mq5 E2.out) Z2.out.mono HXY.out).mono ?_
  rintro e w11 ⟨rfl, hb⟩
  have R11 := Lib.hid (S0.out.later hb)
  clear hb
  obtain ⟨q9, q10, q11, q12, q13, q14, q15, q16⟩ := Fb.cells8 (R11.out.box _ mq1)
  go_wp2_with fail
  clear q9 q10 q11 q12 q13 q14 q15 q16
  refine (p10right_v (R11.out.fr mq2 mq3 E3.out) Z3.out.mono (R11.out.fr mq0 mq1 E4.out) Z4.out.mono HPQ.out).mono ?_
  rintro e w12 ⟨rfl, hb⟩
  have R12 := Lib.hid (R11.out.later hb)
  clear hb
  obtain ⟨q17, q18, q19, q20, q21, q22, q23, q24⟩ := Fb.cells8 (R12.out.box _ mq1)
  go_wp2_with fail
  clear q17 q18 q19 q20 q21 q22 q23 q24
  refine (fsign_r (R12.out.fr mq2 mq3 E3.out) Z3.out.mono HI.out).mono ?_
  rintro e w13 ⟨rfl, hb⟩
  have R13 := Lib.hid (R12.out.later hb)
  clear hb
  obtain ⟨q25, q26, q27, q28, q29, q30, q31, q32⟩ := Fb.cells8 (R13.out.box _ mq1)
  obtain ⟨q33, q34, q35, q36, q37, q38, q39, q40⟩ := Fb.cells8 (R13.out.box _ mq2)
  go_wp2_with fail
  clear q25 q26 q27 q28 q29 q30 q31 q32 q33 q34 q35 q36 q37 q38 q39 q40
  refine (p10cor_div (R13.out.fr mq6 mq7 E1.out) Z1.out (R13.out.fr mq4 mq5 E2.out) Z2.out (R13.out.fr mq2 mq3 E3.out) Z3.out (R13.out.fr mq0 mq1 E4.out) Z4.out HP0.out HQ0.out HR.out).mono ?_
  rintro e w14 ⟨c14, d14, rfl, h1, h2, hb, ho⟩
  have EC14 := Lib.hid h1.1.1
  have ED14 := Lib.hid h2.1.1
  have R14 := Lib.hid (Sf.span R13.out hb h1 h2 (fun x hx => ho x.1 (R13.out.lt x hx)))
  have HO14 := Lib.hid (fun g (hg : g < w.heap.size) => ho g (Nat.lt_of_lt_of_le hg R13.out.below.size))
  clear h1 h2 hb ho
  have Q41 := Lib.hid (Sf.row (pre := []) R14.out [.int .i64 c14.s, .slice c14.a c14.n c14.c, .int .i64 1, .slice c14.b c14.m c14.d, .int .i64 d14.s, .slice d14.a d14.n d14.c, .int .i64 1, .slice d14.b d14.m d14.d])
  go_wp2_with (first | refine wpList_store_row rfl _ _ _ rfl _ #[.int .i64 c14.s, .slice c14.a c14.n c14.c, .int .i64 1, .slice c14.b c14.m c14.d, .int .i64 d14.s, .slice d14.a d14.n d14.c, .int .i64 1, .slice d14.b d14.m d14.d] rfl rfl _ _ (R14.out.box _ mq0) (by kernel_rfl) rfl (by simp [Value.oneCell']) ?_)
  refine bodyPost_ret (ret_row rfl _ _ _ _ rfl (run_loadVar_row _ _ _ _ _ (0, 0) _ (Q41.out.box _ mq0) Tryz.underlying28 rfl (by kernel_rfl))) rfl ⟨c14, d14, rfl, (Q41.out.fr mq0 mq1 EC14.out), (Q41.out.fr mq2 mq3 ED14.out), Q41.out.below, HO14.out⟩

set_option maxHeartbeats 8000000 in
theorem p10div_zero {w : World} {s1 : Int} {a1 b1 : Option Addr} {n1 c1 m1 d1 : Nat} {x : Rat} {s2 : Int} {a2 b2 : Option Addr} {n2 c2 m2 d2 : Nat} {y : Rat} {s3 : Int} {a3 b3 : Option Addr} {n3 c3 m3 d3 : Nat} {p : Rat} {s4 : Int} {a4 b4 : Option Addr} {n4 c4 m4 d4 : Nat} {q : Rat} (h1 : Fr w s1 (.slice a1 n1 c1) (.slice b1 m1 d1) x) (z1 : FSz 400 x) (h2 : Fr w s2 (.slice a2 n2 c2) (.slice b2 m2 d2) y) (z2 : FSz 400 y) (h3 : Fr w s3 (.slice a3 n3 c3) (.slice b3 m3 d3) p) (z3 : FSz 400 p) (h4 : Fr w s4 (.slice a4 n4 c4) (.slice b4 m4 d4) q) (z4 : FSz 400 q) (hxy : x ≤ y) (hpq : p ≤ q) (h0 : In (p, q) 0) :
  Calls Tryz.prog 32 #[.agg #[.int .i64 s1, .slice a1 n1 c1, .int .i64 1, .slice b1 m1 d1, .int .i64 s2, .slice a2 n2 c2, .int .i64 1, .slice b2 m2 d2], .agg #[.int .i64 s3, .slice a3 n3 c3, .int .i64 1, .slice b3 m3 d3, .int .i64 s4, .slice a4 n4 c4, .int .i64 1, .slice b4 m4 d4]] w fun e w' => e = .returned (.tuple #[.agg #[.int .i64 0, .slice none 0 0, .int .i64 0, .slice none 0 0, .int .i64 0, .slice none 0 0, .int .i64 0, .slice none 0 0], .int .i64 15]) ∧ RowKit.Below w.heap.size w w' := by
 obtain ⟨i, hi⟩ : ∃ i, p.num.sign = i := ⟨_, rfl⟩
 obtain ⟨j, hj⟩ : ∃ j, q.num.sign = j := ⟨_, rfl⟩
 have HI := Lib.hid hi
 have HJ := Lib.hid hj
 have gk : decide (i ≤ 0) = true := decide_eq_true (hi ▸ sign_le.2 h0.1)
 have gj : decide (0 ≤ j) = true := decide_eq_true (hj ▸ sign_ge.2 h0.2)
 have E1 := Lib.hid h1.1.1
 have Z1 := Lib.hid z1
 have E2 := Lib.hid h2.1.1
 have Z2 := Lib.hid z2
 have E3 := Lib.hid h3.1.1
 have Z3 := Lib.hid z3
 have E4 := Lib.hid h4.1.1
 have Z4 := Lib.hid z4
 have HXY := Lib.hid (decide_eq_true hxy)
 have HPQ := Lib.hid (decide_eq_true hpq)
 have s0 := ((((((((((((Sf.start w).arg h1.2.2).arg h1.1.2).arg h2.2.2).arg h2.1.2).arg h3.2.2).arg h3.1.2).arg h4.2.2).arg h4.1.2).put [.int .i64 s1, .slice a1 n1 c1, .int .i64 1, .slice b1 m1 d1, .int .i64 s2, .slice a2 n2 c2, .int .i64 1, .slice b2 m2 d2] 28).put [.int .i64 s3, .slice a3 n3 c3, .int .i64 1, .slice b3 m3 d3, .int .i64 s4, .slice a4 n4 c4, .int .i64 1, .slice b4 m4 d4] 28).put [.int .i64 0, .slice none 0 0, .int .i64 0, .slice none 0 0, .int .i64 0, .slice none 0 0, .int .i64 0, .slice none 0 0] 28)
 try simp only [World.size_alloc] at s0
 have S0 := Lib.hid s0
 clear s0
 clear h1 h2 h3 h4 z1 z2 z3 z4 hxy hpq h0 hi hj
 go_enter Tryz.func32, Tryz.ntmps32
 obtain ⟨q1, q2, q3, q4, q5, q6, q7, q8⟩ := Fb.cells8 (S0.out.box _ mq2)
 go_wp2_with fail
 clear q1 q2 q3 q4 q5 q6 q7 q8
 refine (p10right_v (S0.out.fr mq6 mq7 E1.out) Z1.out.mono (S0.out.fr mq4 mq5 E2.out) Z2.out.mono HXY.out).mono ?_
 rintro e w1 ⟨rfl, hb⟩
 have R1 := Lib.hid (S0.out.later hb)
 clear hb
 obtain ⟨q9, q10, q11, q12, q13, q14, q15, q16⟩ := Fb.cells8 (R1.out.box _ mq1)
 go_wp2_with fail
 clear q9 q10 q11 q12 q13 q14 q15 q16
 refine (p10right_v (R1.out.fr mq2 mq3 E3.out) Z3.out.mono (R1.out.fr mq0 mq1 E4.out) Z4.out.mono HPQ.out).mono ?_
 rintro e w2 ⟨rfl, hb⟩
 have R2 := Lib.hid (R1.out.later hb)
 clear hb
 obtain ⟨q17, q18, q19, q20, q21, q22, q23, q24⟩ := Fb.cells8 (R2.out.box _ mq1)
 go_wp2_with fail
 clear q17 q18 q19 q20 q21 q22 q23 q24
 refine (fsign_r (R2.out.fr mq2 mq3 E3.out) Z3.out.mono HI.out).mono ?_
 rintro e w3 ⟨rfl, hb⟩
 have R3 := Lib.hid (R2.out.later hb)
 clear hb
 obtain ⟨q25, q26, q27, q28, q29, q30, q31, q32⟩ := Fb.cells8 (R3.out.box _ mq1)
 go_wp2_with fail
 clear q25 q26 q27 q28 q29 q30 q31 q32
 refine (fsign_r (R3.out.fr mq0 mq1 E4.out) Z4.out.mono HJ.out).mono ?_
 rintro e w4 ⟨rfl, hb⟩
 have R4 := Lib.hid (R3.out.later hb)
 clear hb
 have Q33 := Lib.hid (Sf.row (pre := []) R4.out [.int .i64 0, .slice none 0 0, .int .i64 0, .slice none 0 0, .int .i64 0, .slice none 0 0, .int .i64 0, .slice none 0 0])
 go_wp2_with (first | refine wpList_store_row rfl _ _ _ rfl _ #[.int .i64 0, .slice none 0 0, .int .i64 0, .slice none 0 0, .int .i64 0, .slice none 0 0, .int .i64 0, .slice none 0 0] rfl rfl _ _ (R4.out.box _ mq0) (by kernel_rfl) rfl (by simp [Value.oneCell']) ?_)
 refine bodyPost_ret (ret_row rfl _ _ _ _ rfl (run_loadVar_row _ _ _ _ _ (0, 0) _ (Q33.out.box _ mq0) Tryz.underlying28 rfl (by kernel_rfl))) rfl ⟨rfl, Q33.out.below⟩

set_option maxHeartbeats 8000000 in
theorem p10div_bad {w : World} {s1 t1 : Int} {a1 b1 : Option Addr} {n1 c1 m1 d1 : Nat} {l1 k1 : List Int} {s2 t2 : Int} {a2 b2 : Option Addr} {n2 c2 m2 d2 : Nat} {l2 k2 : List Int} {s3 t3 : Int} {a3 b3 : Option Addr} {n3 c3 m3 d3 : Nat} {l3 k3 : List Int} {s4 t4 : Int} {a4 b4 : Option Addr} {n4 c4 m4 d4 : Nat} {l4 k4 : List Int} (hl1 : Ints w (.slice a1 n1 c1) l1) (hk1 : Ints w (.slice b1 m1 d1) k1) (ll1 : l1.length ≤ 1000) (lk1 : k1.length ≤ 1000) (hl2 : Ints w (.slice a2 n2 c2) l2) (hk2 : Ints w (.slice b2 m2 d2) k2) (ll2 : l2.length ≤ 1000) (lk2 : k2.length ≤ 1000) (hl3 : Ints w (.slice a3 n3 c3) l3) (hk3 : Ints w (.slice b3 m3 d3) k3) (ll3 : l3.length ≤ 1000) (lk3 : k3.length ≤ 1000) (hl4 : Ints w (.slice a4 n4 c4) l4) (hk4 : Ints w (.slice b4 m4 d4) k4) (ll4 : l4.length ≤ 1000) (lk4 : k4.length ≤ 1000) (hr : (sR s1 l1 t1 k1 s2 l2 t2 k2 && sR s3 l3 t3 k3 s4 l4 t4 k4) = false) :
  Calls Tryz.prog 32 #[.agg #[.int .i64 s1, .slice a1 n1 c1, .int .i64 t1, .slice b1 m1 d1, .int .i64 s2, .slice a2 n2 c2, .int .i64 t2, .slice b2 m2 d2], .agg #[.int .i64 s3, .slice a3 n3 c3, .int .i64 t3, .slice b3 m3 d3, .int .i64 s4, .slice a4 n4 c4, .int .i64 t4, .slice b4 m4 d4]] w fun e w' => e = .returned (.tuple #[.agg #[.int .i64 0, .slice none 0 0, .int .i64 0, .slice none 0 0, .int .i64 0, .slice none 0 0, .int .i64 0, .slice none 0 0], .int .i64 1]) ∧ RowKit.Below w.heap.size w w' := by
 rcases ea : sR s1 l1 t1 k1 s2 l2 t2 k2 with _ | _
 ·skip
  have LL1 := Lib.hid ll1
  have LK1 := Lib.hid lk1
  have LL2 := Lib.hid ll2
  have LK2 := Lib.hid lk2
  have LL3 := Lib.hid ll3
  have LK3 := Lib.hid lk3
  have LL4 := Lib.hid ll4
  have LK4 := Lib.hid lk4
  have EA := Lib.hid ea
  have s0 := ((((((((((((Sf.start w).arg hk1).arg hl1).arg hk2).arg hl2).arg hk3).arg hl3).arg hk4).arg hl4).put [.int .i64 s1, .slice a1 n1 c1, .int .i64 t1, .slice b1 m1 d1, .int .i64 s2, .slice a2 n2 c2, .int .i64 t2, .slice b2 m2 d2] 28).put [.int .i64 s3, .slice a3 n3 c3, .int .i64 t3, .slice b3 m3 d3, .int .i64 s4, .slice a4 n4 c4, .int .i64 t4, .slice b4 m4 d4] 28).put [.int .i64 0, .slice none 0 0, .int .i64 0, .slice none 0 0, .int .i64 0, .slice none 0 0, .int .i64 0, .slice none 0 0] 28)
  try simp only [World.size_alloc] at s0
  have S0 := Lib.hid s0
  clear s0
  clear hr ea hl1 hk1 ll1 lk1 hl2 hk2 ll2 lk2 hl3 hk3 ll3 lk3 hl4 hk4 ll4 lk4
  go_enter Tryz.func32, Tryz.ntmps32
  obtain ⟨q1, q2, q3, q4, q5, q6, q7, q8⟩ := Fb.cells8 (S0.out.box _ mq2)
  go_wp2_with fail
  clear q1 q2 q3 q4 q5 q6 q7 q8
  refine (p10right_raw (S0.out.ints (.slice a1 n1 c1, l1) mq6) (S0.out.ints (.slice b1 m1 d1, k1) mq7) LL1.out LK1.out (S0.out.ints (.slice a2 n2 c2, l2) mq4) (S0.out.ints (.slice b2 m2 d2, k2) mq5) LL2.out LK2.out EA.out).mono ?_
  rintro e w1 ⟨rfl, hb⟩
  have R1 := Lib.hid (S0.out.later hb)
  clear hb
  have Q9 := Lib.hid (Sf.row (pre := []) R1.out [.int .i64 0, .slice none 0 0, .int .i64 0, .slice none 0 0, .int .i64 0, .slice none 0 0, .int .i64 0, .slice none 0 0])
  go_wp2_with (first | refine wpList_store_row rfl _ _ _ rfl _ #[.int .i64 0, .slice none 0 0, .int .i64 0, .slice none 0 0, .int .i64 0, .slice none 0 0, .int .i64 0, .slice none 0 0] rfl rfl _ _ (R1.out.box _ mq0) (by kernel_rfl) rfl (by simp [Value.oneCell']) ?_)
  refine bodyPost_ret (ret_row rfl _ _ _ _ rfl (run_loadVar_row _ _ _ _ _ (0, 0) _ (Q9.out.box _ mq0) Tryz.underlying28 rfl (by kernel_rfl))) rfl ⟨rfl, Q9.out.below⟩
 ·have eb : sR s3 l3 t3 k3 s4 l4 t4 k4 = false := by rw [ea] at hr; simpa using hr
  have LL1 := Lib.hid ll1
  have LK1 := Lib.hid lk1
  have LL2 := Lib.hid ll2
  have LK2 := Lib.hid lk2
  have LL3 := Lib.hid ll3
  have LK3 := Lib.hid lk3
  have LL4 := Lib.hid ll4
  have LK4 := Lib.hid lk4
  have EA := Lib.hid ea
  have EB := Lib.hid eb
  have s0 := ((((((((((((Sf.start w).arg hk1).arg hl1).arg hk2).arg hl2).arg hk3).arg hl3).arg hk4).arg hl4).put [.int .i64 s1, .slice a1 n1 c1, .int .i64 t1, .slice b1 m1 d1, .int .i64 s2, .slice a2 n2 c2, .int .i64 t2, .slice b2 m2 d2] 28).put [.int .i64 s3, .slice a3 n3 c3, .int .i64 t3, .slice b3 m3 d3, .int .i64 s4, .slice a4 n4 c4, .int .i64 t4, .slice b4 m4 d4] 28).put [.int .i64 0, .slice none 0 0, .int .i64 0, .slice none 0 0, .int .i64 0, .slice none 0 0, .int .i64 0, .slice none 0 0] 28)
  try simp only [World.size_alloc] at s0
  have S0 := Lib.hid s0
  clear s0
  clear hr ea hl1 hk1 ll1 lk1 hl2 hk2 ll2 lk2 hl3 hk3 ll3 lk3 hl4 hk4 ll4 lk4 eb
  go_enter Tryz.func32, Tryz.ntmps32
  obtain ⟨q1, q2, q3, q4, q5, q6, q7, q8⟩ := Fb.cells8 (S0.out.box _ mq2)
  go_wp2_with fail
  clear q1 q2 q3 q4 q5 q6 q7 q8
  refine (p10right_raw (S0.out.ints (.slice a1 n1 c1, l1) mq6) (S0.out.ints (.slice b1 m1 d1, k1) mq7) LL1.out LK1.out (S0.out.ints (.slice a2 n2 c2, l2) mq4) (S0.out.ints (.slice b2 m2 d2, k2) mq5) LL2.out LK2.out EA.out).mono ?_
  rintro e w1 ⟨rfl, hb⟩
  have R1 := Lib.hid (S0.out.later hb)
  clear hb
  obtain ⟨q9, q10, q11, q12, q13, q14, q15, q16⟩ := Fb.cells8 (R1.out.box _ mq1)
  go_wp2_with fail
  clear q9 q10 q11 q12 q13 q14 q15 q16
  refine (p10right_raw (R1.out.ints (.slice a3 n3 c3, l3) mq2) (R1.out.ints (.slice b3 m3 d3, k3) mq3) LL3.out LK3.out (R1.out.ints (.slice a4 n4 c4, l4) mq0) (R1.out.ints (.slice b4 m4 d4, k4) mq1) LL4.out LK4.out EB.out).mono ?_
  rintro e w2 ⟨rfl, hb⟩
  have R2 := Lib.hid (R1.out.later hb)
  clear hb
  have Q17 := Lib.hid (Sf.row (pre := []) R2.out [.int .i64 0, .slice none 0 0, .int .i64 0, .slice none 0 0, .int .i64 0, .slice none 0 0, .int .i64 0, .slice none 0 0])
  go_wp2_with (first | refine wpList_store_row rfl _ _ _ rfl _ #[.int .i64 0, .slice none 0 0, .int .i64 0, .slice none 0 0, .int .i64 0, .slice none 0 0, .int .i64 0, .slice none 0 0] rfl rfl _ _ (R2.out.box _ mq0) (by kernel_rfl) rfl (by simp [Value.oneCell']) ?_)
  refine bodyPost_ret (ret_row rfl _ _ _ _ rfl (run_loadVar_row _ _ _ _ _ (0, 0) _ (Q17.out.box _ mq0) Tryz.underlying28 rfl (by kernel_rfl))) rfl ⟨rfl, Q17.out.below⟩
end Go.Proofs.YtgncnkojpedmdaaGreat.Sp
