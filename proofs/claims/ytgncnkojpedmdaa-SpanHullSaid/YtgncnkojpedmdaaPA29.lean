/- met of the laws. -/
import Derived.Test.YtgncnkojpedmdaaPA28
set_option maxRecDepth 100000
namespace Go.Proofs.Ytgncnkojpedmdaa.Sp
open Go.RowKit Bi
theorem opS_corner {k : Nat} (hk : k ≤ 5) {a b : Rat × Rat} (hb : b.1 ≤ b.2) (h0 : k = 3 → ¬ In b 0) : Corner (opF k) a b := by
  rcases le5 hk with rfl | rfl | rfl | rfl | rfl | rfl
  · exact corner_add a b
  · exact corner_sub a b
  · exact corner_mul a b
  · exact corner_div a b (h0 rfl) hb
  · exact corner_min a b
  · exact corner_max a b
theorem lt4' {i : Nat} (h : i < 4) : i = 0 ∨ i = 1 ∨ i = 2 ∨ i = 3 := by omega
theorem ne_step {v : Nat → Rat} {z : Rat} {i : Nat} (h : ∀ j, j < i → z ≠ v j) (hi : decide (z = v i) = false) (j : Nat) (hj : j < i + 1) : z ≠ v j := by
  by_cases e : j = i
  · rw [e]; exact of_decide_eq_false hi
  · exact h j (by omega)

set_option maxHeartbeats 16000000 in
theorem p10met {w : World} {k : Nat} (hk : k ≤ 5) {s1 : Int} {a1 b1 : Option Addr} {n1 c1 m1 d1 : Nat} {x : Rat} {s2 : Int} {a2 b2 : Option Addr} {n2 c2 m2 d2 : Nat} {y : Rat} {s3 : Int} {a3 b3 : Option Addr} {n3 c3 m3 d3 : Nat} {p : Rat} {s4 : Int} {a4 b4 : Option Addr} {n4 c4 m4 d4 : Nat} {q : Rat} {s5 : Int} {a5 b5 : Option Addr} {n5 c5 m5 d5 : Nat} {z : Rat} (h1 : Fr w s1 (.slice a1 n1 c1) (.slice b1 m1 d1) x) (z1 : FSz 4 x) (h2 : Fr w s2 (.slice a2 n2 c2) (.slice b2 m2 d2) y) (z2 : FSz 4 y) (h3 : Fr w s3 (.slice a3 n3 c3) (.slice b3 m3 d3) p) (z3 : FSz 4 p) (h4 : Fr w s4 (.slice a4 n4 c4) (.slice b4 m4 d4) q) (z4 : FSz 4 q) (h5 : Fr w s5 (.slice a5 n5 c5) (.slice b5 m5 d5) z) (h0 : k = 3 → p ≠ 0 ∧ q ≠ 0) (hz : IsC (opF k) (x, y) (p, q) z) :
    Calls Try.prog 15 #[.int .i64 (k : Int), .agg #[.int .i64 s1, .slice a1 n1 c1, .int .i64 1, .slice b1 m1 d1, .int .i64 s2, .slice a2 n2 c2, .int .i64 1, .slice b2 m2 d2], .agg #[.int .i64 s3, .slice a3 n3 c3, .int .i64 1, .slice b3 m3 d3, .int .i64 s4, .slice a4 n4 c4, .int .i64 1, .slice b4 m4 d4], .agg #[.int .i64 s5, .slice a5 n5 c5, .int .i64 1, .slice b5 m5 d5]] w fun e w' => e = .returned (.bool true) ∧ RowKit.Below w.heap.size w w' := by
  obtain ⟨v, e0, e1, e2, e3⟩ : ∃ v : Nat → Rat, opF k x p = v 0 ∧ opF k y p = v 1 ∧ opF k x q = v 2 ∧ opF k y q = v 3 := ⟨fun i => match i with | 0 => opF k x p | 1 => opF k y p | 2 => opF k x q | _ => opF k y q, rfl, rfl, rfl, rfl⟩
  have HIS : Hid (z = v 0 ∨ z = v 1 ∨ z = v 2 ∨ z = v 3) := Lib.hid (by rw [← e0, ← e1, ← e2, ← e3]; exact hz)
  have HK := Lib.hid hk
  have HP0 : Hid (k = 3 → p ≠ 0) := Lib.hid fun e => (h0 e).1
  have HQ0 : Hid (k = 3 → q ≠ 0) := Lib.hid fun e => (h0 e).2
  have E1 := Lib.hid h1.1.1
  have Z1 := Lib.hid (FSz.mono z1 (j := 1000))
  have E2 := Lib.hid h2.1.1
  have Z2 := Lib.hid (FSz.mono z2 (j := 1000))
  have E3 := Lib.hid h3.1.1
  have Z3 := Lib.hid (FSz.mono z3 (j := 1000))
  have E4 := Lib.hid h4.1.1
  have Z4 := Lib.hid (FSz.mono z4 (j := 1000))
  have E5 := Lib.hid h5.1.1
  have V0 := Lib.hid e0
  have V1 := Lib.hid e1
  have V2 := Lib.hid e2
  have V3 := Lib.hid e3
  have s0 := ((((((((((((((Sf.start w).arg h1.2.2).arg h1.1.2).arg h2.2.2).arg h2.1.2).arg h3.2.2).arg h3.1.2).arg h4.2.2).arg h4.1.2).arg h5.2.2).arg h5.1.2).put [.int .i64 s1, .slice a1 n1 c1, .int .i64 1, .slice b1 m1 d1, .int .i64 s2, .slice a2 n2 c2, .int .i64 1, .slice b2 m2 d2] 28).put [.int .i64 s3, .slice a3 n3 c3, .int .i64 1, .slice b3 m3 d3, .int .i64 s4, .slice a4 n4 c4, .int .i64 1, .slice b4 m4 d4] 28).put [.int .i64 s5, .slice a5 n5 c5, .int .i64 1, .slice b5 m5 d5] 26)
  try simp only [World.size_alloc] at s0
  have S0 := Lib.hid s0
  clear s0
  clear hk h0 hz e0 e1 e2 e3 h1 h2 h3 h4 h5 z1 z2 z3 z4
  go_enter Try.func15, Try.ntmps15
  go_wp2_with fail
  go_loopw [9] (fun t wr => ∃ i : Nat, i ≤ 4 ∧ t = .int .i64 (i : Int) ∧ (∀ j, j < i → z ≠ v j) ∧ Sf w [(w.heap.size + 1 + 1, 26, [.int .i64 s5, .slice a5 n5 c5, .int .i64 1, .slice b5 m5 d5]), (w.heap.size + 1, 28, [.int .i64 s3, .slice a3 n3 c3, .int .i64 1, .slice b3 m3 d3, .int .i64 s4, .slice a4 n4 c4, .int .i64 1, .slice b4 m4 d4]), (w.heap.size, 28, [.int .i64 s1, .slice a1 n1 c1, .int .i64 1, .slice b1 m1 d1, .int .i64 s2, .slice a2 n2 c2, .int .i64 1, .slice b2 m2 d2])] [(.slice a5 n5 c5, digs (z).num.natAbs), (.slice b5 m5 d5, digs (((z).den : Int)).natAbs), (.slice a4 n4 c4, digs (q).num.natAbs), (.slice b4 m4 d4, digs (((q).den : Int)).natAbs), (.slice a3 n3 c3, digs (p).num.natAbs), (.slice b3 m3 d3, digs (((p).den : Int)).natAbs), (.slice a2 n2 c2, digs (y).num.natAbs), (.slice b2 m2 d2, digs (((y).den : Int)).natAbs), (.slice a1 n1 c1, digs (x).num.natAbs), (.slice b1 m1 d1, digs (((x).den : Int)).natAbs)] wr) (fun t _ => 5 - (RowKit.intOf t).toNat)
  case atStart => exact ⟨0, Nat.zero_le _, rfl, fun j hj => absurd hj (Nat.not_lt_zero _), S0.out⟩
  case round =>
    clear S0
    obtain ⟨i, hi, ht, hn, hS⟩ := hrel
    have HS := Lib.hid hS
    have HN := Lib.hid hn
    clear hS hn
    by_cases hlt : i < 4
    · rcases lt4' hlt with e | e | e | e
      · subst e
        have ht2 : _ = Value.int IntKind.i64 0 := ht
        subst ht2
        clear ht hi hlt
        obtain ⟨m, hm⟩ : ∃ m, decide (z = v 0) = m := ⟨_, rfl⟩
        have HM := Lib.hid hm
        clear hm
        obtain ⟨q1, q2, q3, q4, q5, q6, q7, q8⟩ := Fb.cells8 (HS.out.box (w.heap.size, 28, [.int .i64 s1, .slice a1 n1 c1, .int .i64 1, .slice b1 m1 d1, .int .i64 s2, .slice a2 n2 c2, .int .i64 1, .slice b2 m2 d2]) mq2)
        have P9 := Lib.hid (HS.out.put [.int .i64 0, .slice none 0 0, .int .i64 0, .slice none 0 0] 26)
        have Q9 := Lib.hid (Sf.row (pre := []) P9.out [.int .i64 s1, .slice a1 n1 c1, .int .i64 1, .slice b1 m1 d1])
        obtain ⟨V10x, hV10x⟩ : ∃ V, ((wr.alloc (.cells #[.int .i64 0, .slice none 0 0, .int .i64 0, .slice none 0 0] 26)).setRow wr.heap.size #[.int .i64 s1, .slice a1 n1 c1, .int .i64 1, .slice b1 m1 d1]) = V := ⟨_, rfl⟩
        rw [hV10x] at Q9
        have HV10x := Lib.hid hV10x
        clear hV10x
        go_upto_region 5 with (first | (refine wpList_store_row rfl _ _ _ rfl _ #[.int .i64 s1, .slice a1 n1 c1, .int .i64 1, .slice b1 m1 d1] rfl rfl _ _ (P9.out.box _ List.mem_cons_self) (by kernel_rfl) rfl (by simp [Value.oneCell']) ?_; rw [HV10x.out]))
        clear q1 q2 q3 q4 q5 q6 q7 q8
        obtain ⟨q11, q12, q13, q14, q15, q16, q17, q18⟩ := Fb.cells8 (Q9.out.box (w.heap.size + 1, 28, [.int .i64 s3, .slice a3 n3 c3, .int .i64 1, .slice b3 m3 d3, .int .i64 s4, .slice a4 n4 c4, .int .i64 1, .slice b4 m4 d4]) mq2)
        have P19 := Lib.hid (Q9.out.put [.int .i64 0, .slice none 0 0, .int .i64 0, .slice none 0 0] 26)
        have Q19 := Lib.hid (Sf.row (pre := []) P19.out [.int .i64 s3, .slice a3 n3 c3, .int .i64 1, .slice b3 m3 d3])
        obtain ⟨V20x, hV20x⟩ : ∃ V, ((V10x.alloc (.cells #[.int .i64 0, .slice none 0 0, .int .i64 0, .slice none 0 0] 26)).setRow V10x.heap.size #[.int .i64 s3, .slice a3 n3 c3, .int .i64 1, .slice b3 m3 d3]) = V := ⟨_, rfl⟩
        rw [hV20x] at Q19
        have HV20x := Lib.hid hV20x
        clear hV20x
        go_upto_region 6 with (first | (refine wpList_store_row rfl _ _ _ rfl _ #[.int .i64 s3, .slice a3 n3 c3, .int .i64 1, .slice b3 m3 d3] rfl rfl _ _ (P19.out.box _ List.mem_cons_self) (by kernel_rfl) rfl (by simp [Value.oneCell']) ?_; rw [HV20x.out]))
        clear q11 q12 q13 q14 q15 q16 q17 q18
        go_upto_region 8 with fail
        go_upto_region 10 with fail
        obtain ⟨q21, q22, q23, q24⟩ := Fb.cells4 (Q19.out.box (V10x.heap.size, 26, [.int .i64 s3, .slice a3 n3 c3, .int .i64 1, .slice b3 m3 d3]) mq0)
        obtain ⟨q25, q26, q27, q28⟩ := Fb.cells4 (Q19.out.box (wr.heap.size, 26, [.int .i64 s1, .slice a1 n1 c1, .int .i64 1, .slice b1 m1 d1]) mq1)
        go_wp2_with fail
        clear q21 q22 q23 q24 q25 q26 q27 q28
        refine (p10calc (k := k) HK.out (Q19.out.fr (v := .slice a1 n1 c1) (u := .slice b1 m1 d1) (r := x) mq8 mq9 E1.out) Z1.out (Q19.out.fr (v := .slice a3 n3 c3) (u := .slice b3 m3 d3) (r := p) mq4 mq5 E3.out) Z3.out HP0.out V0.out).mono ?_
        rintro e w11 ⟨sx11, ax11, nx11, cx11, bx11, mx11, dx11, rfl, hr, hb, hf, hg⟩
        have E11 := Lib.hid hr.1.1
        have R11 := Lib.hid (Q19.out.ret2 hb hr.1.2 hf hr.2.2 hg)
        have FF11 := Lib.hid (hf.mono Q19.out.below.size)
        have FG11 := Lib.hid (hg.mono Q19.out.below.size)
        clear hr hb hf hg
        have P29 := Lib.hid (R11.out.put [.int .i64 0, .slice none 0 0, .int .i64 0, .slice none 0 0] 26)
        have Q29 := Lib.hid (Sf.row (pre := []) P29.out [.int .i64 sx11, .slice ax11 nx11 cx11, .int .i64 1, .slice bx11 mx11 dx11])
        obtain ⟨q30, q31, q32, q33⟩ := Fb.cells4 (Q29.out.box (w11.heap.size, 26, [.int .i64 sx11, .slice ax11 nx11 cx11, .int .i64 1, .slice bx11 mx11 dx11]) mq0)
        obtain ⟨q34, q35, q36, q37⟩ := Fb.cells4 (Q29.out.box (w.heap.size + 1 + 1, 26, [.int .i64 s5, .slice a5 n5 c5, .int .i64 1, .slice b5 m5 d5]) mq3)
        go_wp2_with (first | refine wpList_store_row rfl _ _ _ rfl _ #[.int .i64 sx11, .slice ax11 nx11 cx11, .int .i64 1, .slice bx11 mx11 dx11] rfl rfl _ _ (P29.out.box _ List.mem_cons_self) (by kernel_rfl) rfl (by simp [Value.oneCell']) ?_)
        clear q30 q31 q32 q33 q34 q35 q36 q37
        refine (rfsame_k (k := m) (Q29.out.fr (v := .slice a5 n5 c5) (u := .slice b5 m5 d5) (r := z) mq2 mq3 E5.out) (Q29.out.fr (v := .slice ax11 nx11 cx11) (u := .slice bx11 mx11 dx11) (r := (v 0)) mq0 mq1 E11.out) HM.out).mono ?_
        rintro e w12 ⟨rfl, hb⟩
        have R12 := Lib.hid (Q29.out.later hb)
        clear hb
        cases m
        case true =>
          go_wp2_with fail
          go_ret
          exact ⟨rfl, R12.out.below⟩
        case false =>
          go_wp2_with fail
          go_roundw
          case rel => exact ⟨1, by decide, by go_num, ne_step HN.out HM.out, Sf.facts (Sf.tail (Sf.tail (Sf.tail R12.out))) (by simp)⟩
          case measure => simp [RowKit.intOf]
      · subst e
        have ht2 : _ = Value.int IntKind.i64 1 := ht
        subst ht2
        clear ht hi hlt
        obtain ⟨m, hm⟩ : ∃ m, decide (z = v 1) = m := ⟨_, rfl⟩
        have HM := Lib.hid hm
        clear hm
        obtain ⟨q38, q39, q40, q41, q42, q43, q44, q45⟩ := Fb.cells8 (HS.out.box (w.heap.size, 28, [.int .i64 s1, .slice a1 n1 c1, .int .i64 1, .slice b1 m1 d1, .int .i64 s2, .slice a2 n2 c2, .int .i64 1, .slice b2 m2 d2]) mq2)
        have P46 := Lib.hid (HS.out.put [.int .i64 0, .slice none 0 0, .int .i64 0, .slice none 0 0] 26)
        have Q46 := Lib.hid (Sf.row (pre := []) P46.out [.int .i64 s1, .slice a1 n1 c1, .int .i64 1, .slice b1 m1 d1])
        obtain ⟨V47x, hV47x⟩ : ∃ V, ((wr.alloc (.cells #[.int .i64 0, .slice none 0 0, .int .i64 0, .slice none 0 0] 26)).setRow wr.heap.size #[.int .i64 s1, .slice a1 n1 c1, .int .i64 1, .slice b1 m1 d1]) = V := ⟨_, rfl⟩
        rw [hV47x] at Q46
        have HV47x := Lib.hid hV47x
        clear hV47x
        go_upto_region 5 with (first | (refine wpList_store_row rfl _ _ _ rfl _ #[.int .i64 s1, .slice a1 n1 c1, .int .i64 1, .slice b1 m1 d1] rfl rfl _ _ (P46.out.box _ List.mem_cons_self) (by kernel_rfl) rfl (by simp [Value.oneCell']) ?_; rw [HV47x.out]))
        clear q38 q39 q40 q41 q42 q43 q44 q45
        obtain ⟨q48, q49, q50, q51, q52, q53, q54, q55⟩ := Fb.cells8 (Q46.out.box (w.heap.size + 1, 28, [.int .i64 s3, .slice a3 n3 c3, .int .i64 1, .slice b3 m3 d3, .int .i64 s4, .slice a4 n4 c4, .int .i64 1, .slice b4 m4 d4]) mq2)
        have P56 := Lib.hid (Q46.out.put [.int .i64 0, .slice none 0 0, .int .i64 0, .slice none 0 0] 26)
        have Q56 := Lib.hid (Sf.row (pre := []) P56.out [.int .i64 s3, .slice a3 n3 c3, .int .i64 1, .slice b3 m3 d3])
        obtain ⟨V57x, hV57x⟩ : ∃ V, ((V47x.alloc (.cells #[.int .i64 0, .slice none 0 0, .int .i64 0, .slice none 0 0] 26)).setRow V47x.heap.size #[.int .i64 s3, .slice a3 n3 c3, .int .i64 1, .slice b3 m3 d3]) = V := ⟨_, rfl⟩
        rw [hV57x] at Q56
        have HV57x := Lib.hid hV57x
        clear hV57x
        go_upto_region 6 with (first | (refine wpList_store_row rfl _ _ _ rfl _ #[.int .i64 s3, .slice a3 n3 c3, .int .i64 1, .slice b3 m3 d3] rfl rfl _ _ (P56.out.box _ List.mem_cons_self) (by kernel_rfl) rfl (by simp [Value.oneCell']) ?_; rw [HV57x.out]))
        clear q48 q49 q50 q51 q52 q53 q54 q55
        obtain ⟨q58, q59, q60, q61, q62, q63, q64, q65⟩ := Fb.cells8 (Q56.out.box (w.heap.size, 28, [.int .i64 s1, .slice a1 n1 c1, .int .i64 1, .slice b1 m1 d1, .int .i64 s2, .slice a2 n2 c2, .int .i64 1, .slice b2 m2 d2]) mq4)
        have Q66 := Lib.hid (Sf.row (pre := [(V47x.heap.size, 26, [.int .i64 s3, .slice a3 n3 c3, .int .i64 1, .slice b3 m3 d3])]) Q56.out [.int .i64 s2, .slice a2 n2 c2, .int .i64 1, .slice b2 m2 d2])
        obtain ⟨V67x, hV67x⟩ : ∃ V, (V57x.setRow wr.heap.size #[.int .i64 s2, .slice a2 n2 c2, .int .i64 1, .slice b2 m2 d2]) = V := ⟨_, rfl⟩
        rw [hV67x] at Q66
        have HV67x := Lib.hid hV67x
        clear hV67x
        go_upto_region 8 with (first | (refine wpList_store_row rfl _ _ _ rfl _ #[.int .i64 s2, .slice a2 n2 c2, .int .i64 1, .slice b2 m2 d2] rfl rfl _ _ (Q56.out.box _ mq1) (by kernel_rfl) rfl (by simp [Value.oneCell']) ?_; rw [HV67x.out]))
        clear q58 q59 q60 q61 q62 q63 q64 q65
        go_upto_region 10 with fail
        obtain ⟨q68, q69, q70, q71⟩ := Fb.cells4 (Q66.out.box (V47x.heap.size, 26, [.int .i64 s3, .slice a3 n3 c3, .int .i64 1, .slice b3 m3 d3]) mq0)
        obtain ⟨q72, q73, q74, q75⟩ := Fb.cells4 (Q66.out.box (wr.heap.size, 26, [.int .i64 s2, .slice a2 n2 c2, .int .i64 1, .slice b2 m2 d2]) mq1)
        go_wp2_with fail
        clear q68 q69 q70 q71 q72 q73 q74 q75
        refine (p10calc (k := k) HK.out (Q66.out.fr (v := .slice a2 n2 c2) (u := .slice b2 m2 d2) (r := y) mq6 mq7 E2.out) Z2.out (Q66.out.fr (v := .slice a3 n3 c3) (u := .slice b3 m3 d3) (r := p) mq4 mq5 E3.out) Z3.out HP0.out V1.out).mono ?_
        rintro e w13 ⟨sx13, ax13, nx13, cx13, bx13, mx13, dx13, rfl, hr, hb, hf, hg⟩
        have E13 := Lib.hid hr.1.1
        have R13 := Lib.hid (Q66.out.ret2 hb hr.1.2 hf hr.2.2 hg)
        have FF13 := Lib.hid (hf.mono Q66.out.below.size)
        have FG13 := Lib.hid (hg.mono Q66.out.below.size)
        clear hr hb hf hg
        have P76 := Lib.hid (R13.out.put [.int .i64 0, .slice none 0 0, .int .i64 0, .slice none 0 0] 26)
        have Q76 := Lib.hid (Sf.row (pre := []) P76.out [.int .i64 sx13, .slice ax13 nx13 cx13, .int .i64 1, .slice bx13 mx13 dx13])
        obtain ⟨q77, q78, q79, q80⟩ := Fb.cells4 (Q76.out.box (w13.heap.size, 26, [.int .i64 sx13, .slice ax13 nx13 cx13, .int .i64 1, .slice bx13 mx13 dx13]) mq0)
        obtain ⟨q81, q82, q83, q84⟩ := Fb.cells4 (Q76.out.box (w.heap.size + 1 + 1, 26, [.int .i64 s5, .slice a5 n5 c5, .int .i64 1, .slice b5 m5 d5]) mq3)
        go_wp2_with (first | refine wpList_store_row rfl _ _ _ rfl _ #[.int .i64 sx13, .slice ax13 nx13 cx13, .int .i64 1, .slice bx13 mx13 dx13] rfl rfl _ _ (P76.out.box _ List.mem_cons_self) (by kernel_rfl) rfl (by simp [Value.oneCell']) ?_)
        clear q77 q78 q79 q80 q81 q82 q83 q84
        refine (rfsame_k (k := m) (Q76.out.fr (v := .slice a5 n5 c5) (u := .slice b5 m5 d5) (r := z) mq2 mq3 E5.out) (Q76.out.fr (v := .slice ax13 nx13 cx13) (u := .slice bx13 mx13 dx13) (r := (v 1)) mq0 mq1 E13.out) HM.out).mono ?_
        rintro e w14 ⟨rfl, hb⟩
        have R14 := Lib.hid (Q76.out.later hb)
        clear hb
        cases m
        case true =>
          go_wp2_with fail
          go_ret
          exact ⟨rfl, R14.out.below⟩
        case false =>
          go_wp2_with fail
          go_roundw
          case rel => exact ⟨2, by decide, by go_num, ne_step HN.out HM.out, Sf.facts (Sf.tail (Sf.tail (Sf.tail R14.out))) (by simp)⟩
          case measure => simp [RowKit.intOf]
      · subst e
        have ht2 : _ = Value.int IntKind.i64 2 := ht
        subst ht2
        clear ht hi hlt
        obtain ⟨m, hm⟩ : ∃ m, decide (z = v 2) = m := ⟨_, rfl⟩
        have HM := Lib.hid hm
        clear hm
        obtain ⟨q85, q86, q87, q88, q89, q90, q91, q92⟩ := Fb.cells8 (HS.out.box (w.heap.size, 28, [.int .i64 s1, .slice a1 n1 c1, .int .i64 1, .slice b1 m1 d1, .int .i64 s2, .slice a2 n2 c2, .int .i64 1, .slice b2 m2 d2]) mq2)
        have P93 := Lib.hid (HS.out.put [.int .i64 0, .slice none 0 0, .int .i64 0, .slice none 0 0] 26)
        have Q93 := Lib.hid (Sf.row (pre := []) P93.out [.int .i64 s1, .slice a1 n1 c1, .int .i64 1, .slice b1 m1 d1])
        obtain ⟨V94x, hV94x⟩ : ∃ V, ((wr.alloc (.cells #[.int .i64 0, .slice none 0 0, .int .i64 0, .slice none 0 0] 26)).setRow wr.heap.size #[.int .i64 s1, .slice a1 n1 c1, .int .i64 1, .slice b1 m1 d1]) = V := ⟨_, rfl⟩
        rw [hV94x] at Q93
        have HV94x := Lib.hid hV94x
        clear hV94x
        go_upto_region 5 with (first | (refine wpList_store_row rfl _ _ _ rfl _ #[.int .i64 s1, .slice a1 n1 c1, .int .i64 1, .slice b1 m1 d1] rfl rfl _ _ (P93.out.box _ List.mem_cons_self) (by kernel_rfl) rfl (by simp [Value.oneCell']) ?_; rw [HV94x.out]))
        clear q85 q86 q87 q88 q89 q90 q91 q92
        obtain ⟨q95, q96, q97, q98, q99, q100, q101, q102⟩ := Fb.cells8 (Q93.out.box (w.heap.size + 1, 28, [.int .i64 s3, .slice a3 n3 c3, .int .i64 1, .slice b3 m3 d3, .int .i64 s4, .slice a4 n4 c4, .int .i64 1, .slice b4 m4 d4]) mq2)
        have P103 := Lib.hid (Q93.out.put [.int .i64 0, .slice none 0 0, .int .i64 0, .slice none 0 0] 26)
        have Q103 := Lib.hid (Sf.row (pre := []) P103.out [.int .i64 s3, .slice a3 n3 c3, .int .i64 1, .slice b3 m3 d3])
        obtain ⟨V104x, hV104x⟩ : ∃ V, ((V94x.alloc (.cells #[.int .i64 0, .slice none 0 0, .int .i64 0, .slice none 0 0] 26)).setRow V94x.heap.size #[.int .i64 s3, .slice a3 n3 c3, .int .i64 1, .slice b3 m3 d3]) = V := ⟨_, rfl⟩
        rw [hV104x] at Q103
        have HV104x := Lib.hid hV104x
        clear hV104x
        go_upto_region 6 with (first | (refine wpList_store_row rfl _ _ _ rfl _ #[.int .i64 s3, .slice a3 n3 c3, .int .i64 1, .slice b3 m3 d3] rfl rfl _ _ (P103.out.box _ List.mem_cons_self) (by kernel_rfl) rfl (by simp [Value.oneCell']) ?_; rw [HV104x.out]))
        clear q95 q96 q97 q98 q99 q100 q101 q102
        go_upto_region 8 with fail
        obtain ⟨q105, q106, q107, q108, q109, q110, q111, q112⟩ := Fb.cells8 (Q103.out.box (w.heap.size + 1, 28, [.int .i64 s3, .slice a3 n3 c3, .int .i64 1, .slice b3 m3 d3, .int .i64 s4, .slice a4 n4 c4, .int .i64 1, .slice b4 m4 d4]) mq3)
        have Q113 := Lib.hid (Sf.row (pre := []) Q103.out [.int .i64 s4, .slice a4 n4 c4, .int .i64 1, .slice b4 m4 d4])
        obtain ⟨V114x, hV114x⟩ : ∃ V, (V104x.setRow V94x.heap.size #[.int .i64 s4, .slice a4 n4 c4, .int .i64 1, .slice b4 m4 d4]) = V := ⟨_, rfl⟩
        rw [hV114x] at Q113
        have HV114x := Lib.hid hV114x
        clear hV114x
        go_upto_region 10 with (first | (refine wpList_store_row rfl _ _ _ rfl _ #[.int .i64 s4, .slice a4 n4 c4, .int .i64 1, .slice b4 m4 d4] rfl rfl _ _ (Q103.out.box _ mq0) (by kernel_rfl) rfl (by simp [Value.oneCell']) ?_; rw [HV114x.out]))
        clear q105 q106 q107 q108 q109 q110 q111 q112
        obtain ⟨q115, q116, q117, q118⟩ := Fb.cells4 (Q113.out.box (V94x.heap.size, 26, [.int .i64 s4, .slice a4 n4 c4, .int .i64 1, .slice b4 m4 d4]) mq0)
        obtain ⟨q119, q120, q121, q122⟩ := Fb.cells4 (Q113.out.box (wr.heap.size, 26, [.int .i64 s1, .slice a1 n1 c1, .int .i64 1, .slice b1 m1 d1]) mq1)
        go_wp2_with fail
        clear q115 q116 q117 q118 q119 q120 q121 q122
        refine (p10calc (k := k) HK.out (Q113.out.fr (v := .slice a1 n1 c1) (u := .slice b1 m1 d1) (r := x) mq8 mq9 E1.out) Z1.out (Q113.out.fr (v := .slice a4 n4 c4) (u := .slice b4 m4 d4) (r := q) mq2 mq3 E4.out) Z4.out HQ0.out V2.out).mono ?_
        rintro e w15 ⟨sx15, ax15, nx15, cx15, bx15, mx15, dx15, rfl, hr, hb, hf, hg⟩
        have E15 := Lib.hid hr.1.1
        have R15 := Lib.hid (Q113.out.ret2 hb hr.1.2 hf hr.2.2 hg)
        have FF15 := Lib.hid (hf.mono Q113.out.below.size)
        have FG15 := Lib.hid (hg.mono Q113.out.below.size)
        clear hr hb hf hg
        have P123 := Lib.hid (R15.out.put [.int .i64 0, .slice none 0 0, .int .i64 0, .slice none 0 0] 26)
        have Q123 := Lib.hid (Sf.row (pre := []) P123.out [.int .i64 sx15, .slice ax15 nx15 cx15, .int .i64 1, .slice bx15 mx15 dx15])
        obtain ⟨q124, q125, q126, q127⟩ := Fb.cells4 (Q123.out.box (w15.heap.size, 26, [.int .i64 sx15, .slice ax15 nx15 cx15, .int .i64 1, .slice bx15 mx15 dx15]) mq0)
        obtain ⟨q128, q129, q130, q131⟩ := Fb.cells4 (Q123.out.box (w.heap.size + 1 + 1, 26, [.int .i64 s5, .slice a5 n5 c5, .int .i64 1, .slice b5 m5 d5]) mq3)
        go_wp2_with (first | refine wpList_store_row rfl _ _ _ rfl _ #[.int .i64 sx15, .slice ax15 nx15 cx15, .int .i64 1, .slice bx15 mx15 dx15] rfl rfl _ _ (P123.out.box _ List.mem_cons_self) (by kernel_rfl) rfl (by simp [Value.oneCell']) ?_)
        clear q124 q125 q126 q127 q128 q129 q130 q131
        refine (rfsame_k (k := m) (Q123.out.fr (v := .slice a5 n5 c5) (u := .slice b5 m5 d5) (r := z) mq2 mq3 E5.out) (Q123.out.fr (v := .slice ax15 nx15 cx15) (u := .slice bx15 mx15 dx15) (r := (v 2)) mq0 mq1 E15.out) HM.out).mono ?_
        rintro e w16 ⟨rfl, hb⟩
        have R16 := Lib.hid (Q123.out.later hb)
        clear hb
        cases m
        case true =>
          go_wp2_with fail
          go_ret
          exact ⟨rfl, R16.out.below⟩
        case false =>
          go_wp2_with fail
          go_roundw
          case rel => exact ⟨3, by decide, by go_num, ne_step HN.out HM.out, Sf.facts (Sf.tail (Sf.tail (Sf.tail R16.out))) (by simp)⟩
          case measure => simp [RowKit.intOf]
      · subst e
        have ht2 : _ = Value.int IntKind.i64 3 := ht
        subst ht2
        clear ht hi hlt
        obtain ⟨m, hm⟩ : ∃ m, decide (z = v 3) = m := ⟨_, rfl⟩
        have HM := Lib.hid hm
        clear hm
        obtain ⟨q132, q133, q134, q135, q136, q137, q138, q139⟩ := Fb.cells8 (HS.out.box (w.heap.size, 28, [.int .i64 s1, .slice a1 n1 c1, .int .i64 1, .slice b1 m1 d1, .int .i64 s2, .slice a2 n2 c2, .int .i64 1, .slice b2 m2 d2]) mq2)
        have P140 := Lib.hid (HS.out.put [.int .i64 0, .slice none 0 0, .int .i64 0, .slice none 0 0] 26)
        have Q140 := Lib.hid (Sf.row (pre := []) P140.out [.int .i64 s1, .slice a1 n1 c1, .int .i64 1, .slice b1 m1 d1])
        obtain ⟨V141x, hV141x⟩ : ∃ V, ((wr.alloc (.cells #[.int .i64 0, .slice none 0 0, .int .i64 0, .slice none 0 0] 26)).setRow wr.heap.size #[.int .i64 s1, .slice a1 n1 c1, .int .i64 1, .slice b1 m1 d1]) = V := ⟨_, rfl⟩
        rw [hV141x] at Q140
        have HV141x := Lib.hid hV141x
        clear hV141x
        go_upto_region 5 with (first | (refine wpList_store_row rfl _ _ _ rfl _ #[.int .i64 s1, .slice a1 n1 c1, .int .i64 1, .slice b1 m1 d1] rfl rfl _ _ (P140.out.box _ List.mem_cons_self) (by kernel_rfl) rfl (by simp [Value.oneCell']) ?_; rw [HV141x.out]))
        clear q132 q133 q134 q135 q136 q137 q138 q139
        obtain ⟨q142, q143, q144, q145, q146, q147, q148, q149⟩ := Fb.cells8 (Q140.out.box (w.heap.size + 1, 28, [.int .i64 s3, .slice a3 n3 c3, .int .i64 1, .slice b3 m3 d3, .int .i64 s4, .slice a4 n4 c4, .int .i64 1, .slice b4 m4 d4]) mq2)
        have P150 := Lib.hid (Q140.out.put [.int .i64 0, .slice none 0 0, .int .i64 0, .slice none 0 0] 26)
        have Q150 := Lib.hid (Sf.row (pre := []) P150.out [.int .i64 s3, .slice a3 n3 c3, .int .i64 1, .slice b3 m3 d3])
        obtain ⟨V151x, hV151x⟩ : ∃ V, ((V141x.alloc (.cells #[.int .i64 0, .slice none 0 0, .int .i64 0, .slice none 0 0] 26)).setRow V141x.heap.size #[.int .i64 s3, .slice a3 n3 c3, .int .i64 1, .slice b3 m3 d3]) = V := ⟨_, rfl⟩
        rw [hV151x] at Q150
        have HV151x := Lib.hid hV151x
        clear hV151x
        go_upto_region 6 with (first | (refine wpList_store_row rfl _ _ _ rfl _ #[.int .i64 s3, .slice a3 n3 c3, .int .i64 1, .slice b3 m3 d3] rfl rfl _ _ (P150.out.box _ List.mem_cons_self) (by kernel_rfl) rfl (by simp [Value.oneCell']) ?_; rw [HV151x.out]))
        clear q142 q143 q144 q145 q146 q147 q148 q149
        obtain ⟨q152, q153, q154, q155, q156, q157, q158, q159⟩ := Fb.cells8 (Q150.out.box (w.heap.size, 28, [.int .i64 s1, .slice a1 n1 c1, .int .i64 1, .slice b1 m1 d1, .int .i64 s2, .slice a2 n2 c2, .int .i64 1, .slice b2 m2 d2]) mq4)
        have Q160 := Lib.hid (Sf.row (pre := [(V141x.heap.size, 26, [.int .i64 s3, .slice a3 n3 c3, .int .i64 1, .slice b3 m3 d3])]) Q150.out [.int .i64 s2, .slice a2 n2 c2, .int .i64 1, .slice b2 m2 d2])
        obtain ⟨V161x, hV161x⟩ : ∃ V, (V151x.setRow wr.heap.size #[.int .i64 s2, .slice a2 n2 c2, .int .i64 1, .slice b2 m2 d2]) = V := ⟨_, rfl⟩
        rw [hV161x] at Q160
        have HV161x := Lib.hid hV161x
        clear hV161x
        go_upto_region 8 with (first | (refine wpList_store_row rfl _ _ _ rfl _ #[.int .i64 s2, .slice a2 n2 c2, .int .i64 1, .slice b2 m2 d2] rfl rfl _ _ (Q150.out.box _ mq1) (by kernel_rfl) rfl (by simp [Value.oneCell']) ?_; rw [HV161x.out]))
        clear q152 q153 q154 q155 q156 q157 q158 q159
        obtain ⟨q162, q163, q164, q165, q166, q167, q168, q169⟩ := Fb.cells8 (Q160.out.box (w.heap.size + 1, 28, [.int .i64 s3, .slice a3 n3 c3, .int .i64 1, .slice b3 m3 d3, .int .i64 s4, .slice a4 n4 c4, .int .i64 1, .slice b4 m4 d4]) mq3)
        have Q170 := Lib.hid (Sf.row (pre := []) Q160.out [.int .i64 s4, .slice a4 n4 c4, .int .i64 1, .slice b4 m4 d4])
        obtain ⟨V171x, hV171x⟩ : ∃ V, (V161x.setRow V141x.heap.size #[.int .i64 s4, .slice a4 n4 c4, .int .i64 1, .slice b4 m4 d4]) = V := ⟨_, rfl⟩
        rw [hV171x] at Q170
        have HV171x := Lib.hid hV171x
        clear hV171x
        go_upto_region 10 with (first | (refine wpList_store_row rfl _ _ _ rfl _ #[.int .i64 s4, .slice a4 n4 c4, .int .i64 1, .slice b4 m4 d4] rfl rfl _ _ (Q160.out.box _ mq0) (by kernel_rfl) rfl (by simp [Value.oneCell']) ?_; rw [HV171x.out]))
        clear q162 q163 q164 q165 q166 q167 q168 q169
        obtain ⟨q172, q173, q174, q175⟩ := Fb.cells4 (Q170.out.box (V141x.heap.size, 26, [.int .i64 s4, .slice a4 n4 c4, .int .i64 1, .slice b4 m4 d4]) mq0)
        obtain ⟨q176, q177, q178, q179⟩ := Fb.cells4 (Q170.out.box (wr.heap.size, 26, [.int .i64 s2, .slice a2 n2 c2, .int .i64 1, .slice b2 m2 d2]) mq1)
        go_wp2_with fail
        clear q172 q173 q174 q175 q176 q177 q178 q179
        refine (p10calc (k := k) HK.out (Q170.out.fr (v := .slice a2 n2 c2) (u := .slice b2 m2 d2) (r := y) mq6 mq7 E2.out) Z2.out (Q170.out.fr (v := .slice a4 n4 c4) (u := .slice b4 m4 d4) (r := q) mq2 mq3 E4.out) Z4.out HQ0.out V3.out).mono ?_
        rintro e w17 ⟨sx17, ax17, nx17, cx17, bx17, mx17, dx17, rfl, hr, hb, hf, hg⟩
        have E17 := Lib.hid hr.1.1
        have R17 := Lib.hid (Q170.out.ret2 hb hr.1.2 hf hr.2.2 hg)
        have FF17 := Lib.hid (hf.mono Q170.out.below.size)
        have FG17 := Lib.hid (hg.mono Q170.out.below.size)
        clear hr hb hf hg
        have P180 := Lib.hid (R17.out.put [.int .i64 0, .slice none 0 0, .int .i64 0, .slice none 0 0] 26)
        have Q180 := Lib.hid (Sf.row (pre := []) P180.out [.int .i64 sx17, .slice ax17 nx17 cx17, .int .i64 1, .slice bx17 mx17 dx17])
        obtain ⟨q181, q182, q183, q184⟩ := Fb.cells4 (Q180.out.box (w17.heap.size, 26, [.int .i64 sx17, .slice ax17 nx17 cx17, .int .i64 1, .slice bx17 mx17 dx17]) mq0)
        obtain ⟨q185, q186, q187, q188⟩ := Fb.cells4 (Q180.out.box (w.heap.size + 1 + 1, 26, [.int .i64 s5, .slice a5 n5 c5, .int .i64 1, .slice b5 m5 d5]) mq3)
        go_wp2_with (first | refine wpList_store_row rfl _ _ _ rfl _ #[.int .i64 sx17, .slice ax17 nx17 cx17, .int .i64 1, .slice bx17 mx17 dx17] rfl rfl _ _ (P180.out.box _ List.mem_cons_self) (by kernel_rfl) rfl (by simp [Value.oneCell']) ?_)
        clear q181 q182 q183 q184 q185 q186 q187 q188
        refine (rfsame_k (k := m) (Q180.out.fr (v := .slice a5 n5 c5) (u := .slice b5 m5 d5) (r := z) mq2 mq3 E5.out) (Q180.out.fr (v := .slice ax17 nx17 cx17) (u := .slice bx17 mx17 dx17) (r := (v 3)) mq0 mq1 E17.out) HM.out).mono ?_
        rintro e w18 ⟨rfl, hb⟩
        have R18 := Lib.hid (Q180.out.later hb)
        clear hb
        cases m
        case true =>
          go_wp2_with fail
          go_ret
          exact ⟨rfl, R18.out.below⟩
        case false =>
          go_wp2_with fail
          go_roundw
          case rel => exact ⟨4, by decide, by go_num, ne_step HN.out HM.out, Sf.facts (Sf.tail (Sf.tail (Sf.tail R18.out))) (by simp)⟩
          case measure => simp [RowKit.intOf]
    · obtain rfl : i = 4 := by omega
      exfalso
      have h := HN.out
      rcases HIS.out with e | e | e | e
      · exact h 0 (by decide) e
      · exact h 1 (by decide) e
      · exact h 2 (by decide) e
      · exact h 3 (by decide) e
end Go.Proofs.Ytgncnkojpedmdaa.Sp
