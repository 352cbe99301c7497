/- New, and the four operations, of kitbagref05, at valid fractions. WRITTEN by frac/gen_ft.py. -/
import Derived.Test.YtnddickcnfodfaaGreatDoorLFt2
set_option maxRecDepth 100000
namespace Go.Proofs.YtnddickcnfodfaaGreatDoor.Bi
open Go.RowKit

theorem rdiv_r {w : World} {sa sb : Int} {va vb : Value} {a b z : Int} (ha : Num w sa va a) (hb : Num w sb vb b) (la : Len 100000 a) (lb : Len 100000 b) (h0 : b ≠ 0) (h : a.fdiv b = z) : Calls Tryz.prog 60 #[.agg #[.int .i64 sa, va], .agg #[.int .i64 sb, vb]] w (BVD z (a.fmod b) 0 w) := by
  subst h; exact rdiv_k ha hb la lb h0
theorem divInt_nn (p q : Int) (hq : q ≠ 0) : Rat.divInt (-p) (-q) = Rat.divInt p q := by
  rw [Rat.divInt_eq_divInt_iff (by omega) hq, Int.neg_mul, Int.mul_neg]

set_option maxHeartbeats 2000000 in
theorem rfnew_zero {w : World} {sp sq : Int} {ap aq : Option Addr} {np cp nq cq : Nat} {p q : Int} (hp : Num w sp (.slice ap np cp) p) (hq : Num w sq (.slice aq nq cq) q) (lp : Len 100000 p) (lq : Len 100000 q) (h0 : q = 0) : Calls Tryz.prog 20 #[.agg #[.int .i64 sp, .slice ap np cp], .agg #[.int .i64 sq, .slice aq nq cq]] w (FZE 15 w) := by
  obtain rfl : sq = 0 := by rw [hq.1, h0]; rfl
  have HP := Lib.hid hp
  have HQ := Lib.hid hq
  have HLP := Lib.hid lp
  have HLQ := Lib.hid lq
  have S0 := Lib.hid (((((Sf.start w)).put [.int .i64 sp, .slice ap np cp] 24).put' (n := w.heap.size + 1) (by simp) [.int .i64 0, .slice aq nq cq] 24).put' (n := w.heap.size + 1 + 1) (by simp) [.int .i64 0, .slice none 0 0, .int .i64 0, .slice none 0 0] 26)
  clear hp hq lp lq h0
  go_enter Tryz.func20, Tryz.ntmps20
  go_wp2_with fail
  refine (rrightN_k (HP.out.later S0.out.below)).mono ?_
  rintro e w1 ⟨rfl, hb⟩
  have S2 := Lib.hid (S0.out.later hb)
  clear hb S0
  obtain ⟨t1_0, t1_1⟩ := (S2.out.box _ (List.mem_cons_of_mem _ List.mem_cons_self) : Fb (w.heap.size + 1, 24, [.int .i64 0, .slice aq nq cq]) _).cells2
  go_wp2_with fail
  clear t1_0 t1_1
  refine (rrightN_k (HQ.out.later S2.out.below)).mono ?_
  rintro e w3 ⟨rfl, hb⟩
  have S4 := Lib.hid (S2.out.later hb)
  clear hb S2
  obtain ⟨t2_0, t2_1⟩ := (S4.out.box _ (List.mem_cons_of_mem _ List.mem_cons_self) : Fb (w.heap.size + 1, 24, [.int .i64 0, .slice aq nq cq]) _).cells2
  obtain ⟨r0, r1, r2, r3⟩ := (S4.out.box _ List.mem_cons_self : Fb (w.heap.size + 1 + 1, 26, [.int .i64 0, .slice none 0 0, .int .i64 0, .slice none 0 0]) _).cells4
  obtain ⟨f0, f1, f2, f3⟩ := (S4.out.box _ List.mem_cons_self : Fb (w.heap.size + 1 + 1, 26, [.int .i64 0, .slice none 0 0, .int .i64 0, .slice none 0 0]) _).free4
  go_wp2_with fail
  clear t2_0 t2_1
  have ZZ := Lib.hid (S4.out.set4 (pre := []) (.int .i64 0) (.slice none 0 0) (.int .i64 0) (.slice none 0 0))
  exact bodyPost_ret (v := .tuple #[.agg #[.int .i64 0, .slice none 0 0, .int .i64 0, .slice none 0 0], .int .i64 15]) (by simp [results, Tryz.results20, go_sem, r0, r1, r2, r3]) rfl ⟨rfl, ZZ.out.below⟩

set_option maxHeartbeats 2000000 in
theorem rfnew_pos {w : World} {sp sq : Int} {ap aq : Option Addr} {np cp nq cq : Nat} {p q : Int} (hp : Num w sp (.slice ap np cp) p) (hq : Num w sq (.slice aq nq cq) q) (lp : Len 100000 p) (lq : Len 100000 q) {r : Rat} (h0 : 0 < q) (h : Rat.divInt p q = r) : Calls Tryz.prog 20 #[.agg #[.int .i64 sp, .slice ap np cp], .agg #[.int .i64 sq, .slice aq nq cq]] w (FVE r 0 w) := by
  obtain rfl : sq = 1 := hq.1.trans (Int.sign_eq_one_of_pos h0)
  have hq0 : q ≠ 0 := by omega
  obtain ⟨G, hG⟩ : ∃ z : Int, ((Nat.gcd (p : Int).natAbs (q : Int).natAbs : Nat) : Int) = z := ⟨_, rfl⟩
  have hGn : G = newG p q := by rw [← hG, newG_pos (by omega)]
  have HNU : Hid ((p : Int).fdiv G = r.num) := Lib.hid (by rw [hGn, new_num (by omega), h])
  have HDE : Hid ((q : Int).fdiv G = (r.den : Int)) := Lib.hid (by rw [hGn, new_den (by omega), h])
  have HGN : Hid (G ≠ 0) := Lib.hid (by rw [hGn]; exact newG_ne (by omega))
  have HLP2 : Hid (Len 100000 p) := lp
  have HLQ2 : Hid (Len 100000 q) := lq
  have HLG : Hid (Len 100000 G) := Len.gcd HLP2.out HLQ2.out hG
  have HG := Lib.hid hG
  have HP := Lib.hid hp
  have HQ := Lib.hid hq
  have HLP := Lib.hid lp
  have HLQ := Lib.hid lq
  have S0 := Lib.hid (((((Sf.start w)).put [.int .i64 sp, .slice ap np cp] 24).put' (n := w.heap.size + 1) (by simp) [.int .i64 1, .slice aq nq cq] 24).put' (n := w.heap.size + 1 + 1) (by simp) [.int .i64 0, .slice none 0 0, .int .i64 0, .slice none 0 0] 26)
  clear hp hq lp lq h0 hq0 hG hGn h
  go_enter Tryz.func20, Tryz.ntmps20
  go_wp2_with fail
  refine (rrightN_k (HP.out.later S0.out.below)).mono ?_
  rintro e w1 ⟨rfl, hb⟩
  have S2 := Lib.hid (S0.out.later hb)
  clear hb S0
  obtain ⟨t1_0, t1_1⟩ := (S2.out.box _ (List.mem_cons_of_mem _ List.mem_cons_self) : Fb (w.heap.size + 1, 24, [.int .i64 1, .slice aq nq cq]) _).cells2
  go_wp2_with fail
  clear t1_0 t1_1
  refine (rrightN_k (HQ.out.later S2.out.below)).mono ?_
  rintro e w3 ⟨rfl, hb⟩
  have S4 := Lib.hid (S2.out.later hb)
  clear hb S2
  obtain ⟨t2_0, t2_1⟩ := (S4.out.box _ (List.mem_cons_of_mem _ (List.mem_cons_of_mem _ List.mem_cons_self)) : Fb (w.heap.size, 24, [.int .i64 sp, .slice ap np cp]) _).cells2
  obtain ⟨t3_0, t3_1⟩ := (S4.out.box _ (List.mem_cons_of_mem _ List.mem_cons_self) : Fb (w.heap.size + 1, 24, [.int .i64 1, .slice aq nq cq]) _).cells2
  go_wp2_with fail
  clear t2_0 t2_1 t3_0 t3_1
  refine (rgcd_z (HP.out.later S4.out.below) (HQ.out.later S4.out.below) HLP2.out HLQ2.out HG.out).mono ?_
  rintro e w5 ⟨s5, a5, n5, c5, rfl, hn, hb, hf⟩
  have E5 := Lib.hid hn.1
  have S6 := Lib.hid ((S4.out.ret hb hn.2 hf).put [.int .i64 s5, .slice a5 n5 c5] 24)
  clear hn hb hf S4
  obtain ⟨t4_0, t4_1⟩ := (S6.out.box _ (List.mem_cons_of_mem _ (List.mem_cons_of_mem _ (List.mem_cons_of_mem _ List.mem_cons_self))) : Fb (w.heap.size, 24, [.int .i64 sp, .slice ap np cp]) _).cells2
  obtain ⟨t5_0, t5_1⟩ := (S6.out.box _ List.mem_cons_self : Fb (w5.heap.size, 24, [.int .i64 s5, .slice a5 n5 c5]) _).cells2
  go_wp2_with fail
  clear t4_0 t4_1 t5_0 t5_1
  refine (rdiv_r (HP.out.later S6.out.below) (S6.out.num (v := .slice a5 n5 c5) (z := G) List.mem_cons_self E5.out) HLP2.out HLG.out HGN.out HNU.out).mono ?_
  rintro e w7 ⟨s7, a7, n7, c7, x7, y7, z7, o7, rfl, hn, hm, hb, hf, hg⟩
  have E7 := Lib.hid hn.1
  have F7 : Hid (Fresh w.heap.size (.slice a7 n7 c7)) := hf.mono S6.out.below.size
  have S8 := Lib.hid (((S6.out.ret hb hn.2 hf).put [.int .i64 s7, .slice a7 n7 c7] 24).put' (n := w7.heap.size + 1) (by simp) [.int .i64 x7, .slice y7 z7 o7] 24)
  clear hn hm hb hf hg S6
  obtain ⟨t6_0, t6_1⟩ := (S8.out.box _ (List.mem_cons_of_mem _ (List.mem_cons_of_mem _ (List.mem_cons_of_mem _ (List.mem_cons_of_mem _ List.mem_cons_self)))) : Fb (w.heap.size + 1, 24, [.int .i64 1, .slice aq nq cq]) _).cells2
  obtain ⟨t7_0, t7_1⟩ := (S8.out.box _ (List.mem_cons_of_mem _ (List.mem_cons_of_mem _ List.mem_cons_self)) : Fb (w5.heap.size, 24, [.int .i64 s5, .slice a5 n5 c5]) _).cells2
  go_wp2_with fail
  clear t6_0 t6_1 t7_0 t7_1
  refine (rdiv_r (HQ.out.later S8.out.below) (S8.out.num (v := .slice a5 n5 c5) (z := G) (List.mem_cons_of_mem _ List.mem_cons_self) E5.out) HLQ2.out HLG.out HGN.out HDE.out).mono ?_
  rintro e w9 ⟨s9, a9, n9, c9, x9, y9, z9, o9, rfl, hn, hm, hb, hf, hg⟩
  have E9 := Lib.hid hn.1
  have F9 : Hid (Fresh w.heap.size (.slice a9 n9 c9)) := hf.mono S8.out.below.size
  have S10 := Lib.hid (((S8.out.ret hb hn.2 hf).put [.int .i64 s9, .slice a9 n9 c9] 24).put' (n := w9.heap.size + 1) (by simp) [.int .i64 x9, .slice y9 z9 o9] 24)
  clear hn hm hb hf hg S8
  obtain rfl : s9 = 1 := E9.out.trans (den_sign _)
  obtain ⟨t8_0, t8_1⟩ := (S10.out.box _ (List.mem_cons_of_mem _ (List.mem_cons_of_mem _ (List.mem_cons_of_mem _ List.mem_cons_self))) : Fb (w7.heap.size, 24, [.int .i64 s7, .slice a7 n7 c7]) _).cells2
  obtain ⟨t9_0, t9_1⟩ := (S10.out.box _ (List.mem_cons_of_mem _ List.mem_cons_self) : Fb (w9.heap.size, 24, [.int .i64 1, .slice a9 n9 c9]) _).cells2
  obtain ⟨r0, r1, r2, r3⟩ := (S10.out.box _ (List.mem_cons_of_mem _ (List.mem_cons_of_mem _ (List.mem_cons_of_mem _ (List.mem_cons_of_mem _ (List.mem_cons_of_mem _ List.mem_cons_self))))) : Fb (w.heap.size + 1 + 1, 26, [.int .i64 0, .slice none 0 0, .int .i64 0, .slice none 0 0]) _).cells4
  obtain ⟨f0, f1, f2, f3⟩ := (S10.out.box _ (List.mem_cons_of_mem _ (List.mem_cons_of_mem _ (List.mem_cons_of_mem _ (List.mem_cons_of_mem _ (List.mem_cons_of_mem _ List.mem_cons_self))))) : Fb (w.heap.size + 1 + 1, 26, [.int .i64 0, .slice none 0 0, .int .i64 0, .slice none 0 0]) _).free4
  go_wp2_with fail
  clear t8_0 t8_1 t9_0 t9_1
  have ZZ := Lib.hid (S10.out.set4 (pre := [_, _, _, _, _]) (.int .i64 s7) (.slice a7 n7 c7) (.int .i64 1) (.slice a9 n9 c9))
  exact bodyPost_ret (v := .tuple #[.agg #[.int .i64 s7, .slice a7 n7 c7, .int .i64 1, .slice a9 n9 c9], .int .i64 0]) (by simp [results, Tryz.results20, go_sem, r0, r1, r2, r3]) rfl ⟨_, _, _, _, _, _, _, rfl, ⟨ZZ.out.num (v := .slice a7 n7 c7) (z := r.num) (List.mem_cons_of_mem _ List.mem_cons_self) E7.out, ZZ.out.num (v := .slice a9 n9 c9) (z := (r.den : Int)) List.mem_cons_self (den_sign r).symm⟩, ZZ.out.below, F7.out, F9.out⟩

set_option maxHeartbeats 2000000 in
theorem rfnew_neg {w : World} {sp sq : Int} {ap aq : Option Addr} {np cp nq cq : Nat} {p q : Int} (hp : Num w sp (.slice ap np cp) p) (hq : Num w sq (.slice aq nq cq) q) (lp : Len 100000 p) (lq : Len 100000 q) {r : Rat} (h0 : q < 0) (h : Rat.divInt p q = r) : Calls Tryz.prog 20 #[.agg #[.int .i64 sp, .slice ap np cp], .agg #[.int .i64 sq, .slice aq nq cq]] w (FVE r 0 w) := by
  obtain rfl : sq = (-1) := hq.1.trans (Int.sign_eq_neg_one_of_neg h0)
  have hq0 : q ≠ 0 := by omega
  obtain ⟨G, hG⟩ : ∃ z : Int, ((Nat.gcd ((-p) : Int).natAbs ((-q) : Int).natAbs : Nat) : Int) = z := ⟨_, rfl⟩
  have hGn : G = newG (-p) (-q) := by rw [← hG, newG_pos (by omega)]
  have HNU : Hid (((-p) : Int).fdiv G = r.num) := Lib.hid (by rw [hGn, new_num (by omega), divInt_nn _ _ hq0, h])
  have HDE : Hid (((-q) : Int).fdiv G = (r.den : Int)) := Lib.hid (by rw [hGn, new_den (by omega), divInt_nn _ _ hq0, h])
  have HGN : Hid (G ≠ 0) := Lib.hid (by rw [hGn]; exact newG_ne (by omega))
  have HLP2 : Hid (Len 100000 (-p)) := Len.neg lp
  have HLQ2 : Hid (Len 100000 (-q)) := Len.neg lq
  have HLG : Hid (Len 100000 G) := Len.gcd HLP2.out HLQ2.out hG
  have HG := Lib.hid hG
  have HP := Lib.hid hp
  have HQ := Lib.hid hq
  have HLP := Lib.hid lp
  have HLQ := Lib.hid lq
  have S0 := Lib.hid (((((Sf.start w)).put [.int .i64 sp, .slice ap np cp] 24).put' (n := w.heap.size + 1) (by simp) [.int .i64 (-1), .slice aq nq cq] 24).put' (n := w.heap.size + 1 + 1) (by simp) [.int .i64 0, .slice none 0 0, .int .i64 0, .slice none 0 0] 26)
  clear hp hq lp lq h0 hq0 hG hGn h
  go_enter Tryz.func20, Tryz.ntmps20
  go_wp2_with fail
  refine (rrightN_k (HP.out.later S0.out.below)).mono ?_
  rintro e w1 ⟨rfl, hb⟩
  have S2 := Lib.hid (S0.out.later hb)
  clear hb S0
  obtain ⟨t1_0, t1_1⟩ := (S2.out.box _ (List.mem_cons_of_mem _ List.mem_cons_self) : Fb (w.heap.size + 1, 24, [.int .i64 (-1), .slice aq nq cq]) _).cells2
  go_wp2_with fail
  clear t1_0 t1_1
  refine (rrightN_k (HQ.out.later S2.out.below)).mono ?_
  rintro e w3 ⟨rfl, hb⟩
  have S4 := Lib.hid (S2.out.later hb)
  clear hb S2
  obtain ⟨t2_0, t2_1⟩ := (S4.out.box _ (List.mem_cons_of_mem _ (List.mem_cons_of_mem _ List.mem_cons_self)) : Fb (w.heap.size, 24, [.int .i64 sp, .slice ap np cp]) _).cells2
  obtain ⟨t3_0, t3_1⟩ := (S4.out.box _ (List.mem_cons_of_mem _ List.mem_cons_self) : Fb (w.heap.size + 1, 24, [.int .i64 (-1), .slice aq nq cq]) _).cells2
  go_wp2_with fail
  clear t2_0 t2_1 t3_0 t3_1
  refine (rneg_k (HP.out.later S4.out.below) HLP.out).mono ?_
  rintro e w5 ⟨s5, a5, n5, c5, rfl, hn, hb, hf⟩
  have E5 := Lib.hid hn.1
  have S6 := Lib.hid (S4.out.ret hb hn.2 hf)
  clear hn hb hf S4
  obtain ⟨t4_0, t4_1⟩ := (S6.out.box _ (List.mem_cons_of_mem _ (List.mem_cons_of_mem _ List.mem_cons_self)) : Fb (w.heap.size, 24, [.int .i64 sp, .slice ap np cp]) _).cells2
  obtain ⟨u5_0, u5_1⟩ := (S6.out.box _ (List.mem_cons_of_mem _ (List.mem_cons_of_mem _ List.mem_cons_self)) : Fb (w.heap.size, 24, [.int .i64 sp, .slice ap np cp]) _).free2
  have S7 := Lib.hid (S6.out.set2 (pre := [_, _]) (.int .i64 s5) (.slice a5 n5 c5))
  clear S6
  obtain ⟨t6_0, t6_1⟩ := (S7.out.box _ (List.mem_cons_of_mem _ List.mem_cons_self) : Fb (w.heap.size + 1, 24, [.int .i64 (-1), .slice aq nq cq]) _).cells2
  go_wp2_with fail
  clear t4_0 t4_1 u5_0 u5_1 t6_0 t6_1
  refine (rneg_k (HQ.out.later S7.out.below) HLQ.out).mono ?_
  rintro e w8 ⟨s8, a8, n8, c8, rfl, hn, hb, hf⟩
  have E8 := Lib.hid hn.1
  have S9 := Lib.hid (S7.out.ret hb hn.2 hf)
  clear hn hb hf S7
  obtain ⟨t7_0, t7_1⟩ := (S9.out.box _ (List.mem_cons_of_mem _ List.mem_cons_self) : Fb (w.heap.size + 1, 24, [.int .i64 (-1), .slice aq nq cq]) _).cells2
  obtain ⟨u8_0, u8_1⟩ := (S9.out.box _ (List.mem_cons_of_mem _ List.mem_cons_self) : Fb (w.heap.size + 1, 24, [.int .i64 (-1), .slice aq nq cq]) _).free2
  have S10 := Lib.hid (S9.out.set2 (pre := [_]) (.int .i64 s8) (.slice a8 n8 c8))
  clear S9
  obtain ⟨t9_0, t9_1⟩ := (S10.out.box _ (List.mem_cons_of_mem _ (List.mem_cons_of_mem _ List.mem_cons_self)) : Fb (w.heap.size, 24, [.int .i64 s5, .slice a5 n5 c5]) _).cells2
  obtain ⟨t10_0, t10_1⟩ := (S10.out.box _ (List.mem_cons_of_mem _ List.mem_cons_self) : Fb (w.heap.size + 1, 24, [.int .i64 s8, .slice a8 n8 c8]) _).cells2
  go_wp2_with fail
  clear t7_0 t7_1 u8_0 u8_1 t9_0 t9_1 t10_0 t10_1
  refine (rgcd_z (S10.out.num (v := .slice a5 n5 c5) (z := -p) (List.mem_cons_of_mem _ List.mem_cons_self) E5.out) (S10.out.num (v := .slice a8 n8 c8) (z := -q) List.mem_cons_self E8.out) HLP2.out HLQ2.out HG.out).mono ?_
  rintro e w11 ⟨s11, a11, n11, c11, rfl, hn, hb, hf⟩
  have E11 := Lib.hid hn.1
  have S12 := Lib.hid ((S10.out.ret hb hn.2 hf).put [.int .i64 s11, .slice a11 n11 c11] 24)
  clear hn hb hf S10
  obtain ⟨t11_0, t11_1⟩ := (S12.out.box _ (List.mem_cons_of_mem _ (List.mem_cons_of_mem _ (List.mem_cons_of_mem _ List.mem_cons_self))) : Fb (w.heap.size, 24, [.int .i64 s5, .slice a5 n5 c5]) _).cells2
  obtain ⟨t12_0, t12_1⟩ := (S12.out.box _ List.mem_cons_self : Fb (w11.heap.size, 24, [.int .i64 s11, .slice a11 n11 c11]) _).cells2
  go_wp2_with fail
  clear t11_0 t11_1 t12_0 t12_1
  refine (rdiv_r (S12.out.num (v := .slice a5 n5 c5) (z := -p) (List.mem_cons_of_mem _ (List.mem_cons_of_mem _ List.mem_cons_self)) E5.out) (S12.out.num (v := .slice a11 n11 c11) (z := G) List.mem_cons_self E11.out) HLP2.out HLG.out HGN.out HNU.out).mono ?_
  rintro e w13 ⟨s13, a13, n13, c13, x13, y13, z13, o13, rfl, hn, hm, hb, hf, hg⟩
  have E13 := Lib.hid hn.1
  have F13 : Hid (Fresh w.heap.size (.slice a13 n13 c13)) := hf.mono S12.out.below.size
  have S14 := Lib.hid (((S12.out.ret hb hn.2 hf).put [.int .i64 s13, .slice a13 n13 c13] 24).put' (n := w13.heap.size + 1) (by simp) [.int .i64 x13, .slice y13 z13 o13] 24)
  clear hn hm hb hf hg S12
  obtain ⟨t13_0, t13_1⟩ := (S14.out.box _ (List.mem_cons_of_mem _ (List.mem_cons_of_mem _ (List.mem_cons_of_mem _ (List.mem_cons_of_mem _ List.mem_cons_self)))) : Fb (w.heap.size + 1, 24, [.int .i64 s8, .slice a8 n8 c8]) _).cells2
  obtain ⟨t14_0, t14_1⟩ := (S14.out.box _ (List.mem_cons_of_mem _ (List.mem_cons_of_mem _ List.mem_cons_self)) : Fb (w11.heap.size, 24, [.int .i64 s11, .slice a11 n11 c11]) _).cells2
  go_wp2_with fail
  clear t13_0 t13_1 t14_0 t14_1
  refine (rdiv_r (S14.out.num (v := .slice a8 n8 c8) (z := -q) (List.mem_cons_of_mem _ (List.mem_cons_of_mem _ List.mem_cons_self)) E8.out) (S14.out.num (v := .slice a11 n11 c11) (z := G) (List.mem_cons_of_mem _ List.mem_cons_self) E11.out) HLQ2.out HLG.out HGN.out HDE.out).mono ?_
  rintro e w15 ⟨s15, a15, n15, c15, x15, y15, z15, o15, rfl, hn, hm, hb, hf, hg⟩
  have E15 := Lib.hid hn.1
  have F15 : Hid (Fresh w.heap.size (.slice a15 n15 c15)) := hf.mono S14.out.below.size
  have S16 := Lib.hid (((S14.out.ret hb hn.2 hf).put [.int .i64 s15, .slice a15 n15 c15] 24).put' (n := w15.heap.size + 1) (by simp) [.int .i64 x15, .slice y15 z15 o15] 24)
  clear hn hm hb hf hg S14
  obtain rfl : s15 = 1 := E15.out.trans (den_sign _)
  obtain ⟨t15_0, t15_1⟩ := (S16.out.box _ (List.mem_cons_of_mem _ (List.mem_cons_of_mem _ (List.mem_cons_of_mem _ List.mem_cons_self))) : Fb (w13.heap.size, 24, [.int .i64 s13, .slice a13 n13 c13]) _).cells2
  obtain ⟨t16_0, t16_1⟩ := (S16.out.box _ (List.mem_cons_of_mem _ List.mem_cons_self) : Fb (w15.heap.size, 24, [.int .i64 1, .slice a15 n15 c15]) _).cells2
  obtain ⟨r0, r1, r2, r3⟩ := (S16.out.box _ (List.mem_cons_of_mem _ (List.mem_cons_of_mem _ (List.mem_cons_of_mem _ (List.mem_cons_of_mem _ (List.mem_cons_of_mem _ List.mem_cons_self))))) : Fb (w.heap.size + 1 + 1, 26, [.int .i64 0, .slice none 0 0, .int .i64 0, .slice none 0 0]) _).cells4
  obtain ⟨f0, f1, f2, f3⟩ := (S16.out.box _ (List.mem_cons_of_mem _ (List.mem_cons_of_mem _ (List.mem_cons_of_mem _ (List.mem_cons_of_mem _ (List.mem_cons_of_mem _ List.mem_cons_self))))) : Fb (w.heap.size + 1 + 1, 26, [.int .i64 0, .slice none 0 0, .int .i64 0, .slice none 0 0]) _).free4
  go_wp2_with fail
  clear t15_0 t15_1 t16_0 t16_1
  have ZZ := Lib.hid (S16.out.set4 (pre := [_, _, _, _, _]) (.int .i64 s13) (.slice a13 n13 c13) (.int .i64 1) (.slice a15 n15 c15))
  exact bodyPost_ret (v := .tuple #[.agg #[.int .i64 s13, .slice a13 n13 c13, .int .i64 1, .slice a15 n15 c15], .int .i64 0]) (by simp [results, Tryz.results20, go_sem, r0, r1, r2, r3]) rfl ⟨_, _, _, _, _, _, _, rfl, ⟨ZZ.out.num (v := .slice a13 n13 c13) (z := r.num) (List.mem_cons_of_mem _ List.mem_cons_self) E13.out, ZZ.out.num (v := .slice a15 n15 c15) (z := (r.den : Int)) List.mem_cons_self (den_sign r).symm⟩, ZZ.out.below, F13.out, F15.out⟩

theorem rfnew_r {w : World} {sp sq : Int} {ap aq : Option Addr} {np cp nq cq : Nat} {p q : Int} {r : Rat} (hp : Num w sp (.slice ap np cp) p) (hq : Num w sq (.slice aq nq cq) q) (lp : Len 100000 p) (lq : Len 100000 q) (h0 : q ≠ 0) (h : Rat.divInt p q = r) : Calls Tryz.prog 20 #[.agg #[.int .i64 sp, .slice ap np cp], .agg #[.int .i64 sq, .slice aq nq cq]] w (FVE r 0 w) := by
  rcases Int.lt_or_gt_of_ne h0 with h1 | h1
  · exact rfnew_neg hp hq lp lq h1 h
  · exact rfnew_pos hp hq lp lq h1 h

set_option maxHeartbeats 2000000 in
theorem rfadd_k {w : World} {sa : Int} {aa ba : Option Addr} {na ca ma da : Nat} {sb : Int} {ab bb : Option Addr} {nb cb mb db : Nat} {a b : Rat} (ha : Fr w sa (.slice aa na ca) (.slice ba ma da) a) (hb : Fr w sb (.slice ab nb cb) (.slice bb mb db) b) (La : FSz 1000 a) (Lb : FSz 1000 b) :
    Calls Tryz.prog 7 #[.agg #[.int .i64 sa, .slice aa na ca, .int .i64 1, .slice ba ma da], .agg #[.int .i64 sb, .slice ab nb cb, .int .i64 1, .slice bb mb db]] w (FVE (a + b) 0 w) := by
  have HRAT : Hid (Rat.divInt ((a.num * (b.den : Int)) + (b.num * (a.den : Int))) ((a.den : Int) * (b.den : Int)) = (a + b)) := rat_add a b
  have HQ0 : Hid (((a.den : Int) * (b.den : Int)) ≠ 0) := Int.mul_ne_zero (den_ne a) (den_ne b)
  have LX0 : Hid (Len 100000 a.num) := Sz.len La.1
  have LY0 : Hid (Len 100000 (b.den : Int)) := Sz.len Lb.2
  have LX1 : Hid (Len 100000 b.num) := Sz.len Lb.1
  have LY1 : Hid (Len 100000 (a.den : Int)) := Sz.len La.2
  have LX2 : Hid (Len 100000 (a.den : Int)) := Sz.len La.2
  have LY2 : Hid (Len 100000 (b.den : Int)) := Sz.len Lb.2
  have LX3 : Hid (Len 100000 (a.num * (b.den : Int))) := Sz.len (Sz.mul La.1 Lb.2)
  have LY3 : Hid (Len 100000 (b.num * (a.den : Int))) := Sz.len (Sz.mul Lb.1 La.2)
  have LX4 : Hid (Len 100000 ((a.num * (b.den : Int)) + (b.num * (a.den : Int)))) := Sz.len (Sz.add (Sz.mul La.1 Lb.2) (Sz.mul Lb.1 La.2))
  have LY4 : Hid (Len 100000 ((a.den : Int) * (b.den : Int))) := Sz.len (Sz.mul La.2 Lb.2)
  have HA := Lib.hid ha
  have HB := Lib.hid hb
  have HLA := Lib.hid La
  have HLB := Lib.hid Lb
  have HaP := Lib.hid ha.1
  have HaQ := Lib.hid ha.2
  have HbP := Lib.hid hb.1
  have HbQ := Lib.hid hb.2
  have S0 := Lib.hid (((((Sf.start w)).put [.int .i64 sa, .slice aa na ca, .int .i64 1, .slice ba ma da] 26).put' (n := w.heap.size + 1) (by simp) [.int .i64 sb, .slice ab nb cb, .int .i64 1, .slice bb mb db] 26).put' (n := w.heap.size + 1 + 1) (by simp) [.int .i64 0, .slice none 0 0, .int .i64 0, .slice none 0 0] 26)
  clear ha hb La Lb
  go_enter Tryz.func7, Tryz.ntmps7
  go_wp2_with fail
  refine (rfright_k (HA.out.later S0.out.below) HLA.out).mono ?_
  rintro e w1 ⟨rfl, hb⟩
  have S2 := Lib.hid (S0.out.later hb)
  clear hb S0
  obtain ⟨t1_0, t1_1, t1_2, t1_3⟩ := (S2.out.box _ (List.mem_cons_of_mem _ List.mem_cons_self) : Fb (w.heap.size + 1, 26, [.int .i64 sb, .slice ab nb cb, .int .i64 1, .slice bb mb db]) _).cells4
  go_wp2_with fail
  clear t1_0 t1_1 t1_2 t1_3
  refine (rfright_k (HB.out.later S2.out.below) HLB.out).mono ?_
  rintro e w3 ⟨rfl, hb⟩
  have S4 := Lib.hid (S2.out.later hb)
  clear hb S2
  obtain ⟨t2_0, t2_1, t2_2, t2_3⟩ := (S4.out.box _ (List.mem_cons_of_mem _ (List.mem_cons_of_mem _ List.mem_cons_self)) : Fb (w.heap.size, 26, [.int .i64 sa, .slice aa na ca, .int .i64 1, .slice ba ma da]) _).cells4
  obtain ⟨t3_0, t3_1, t3_2, t3_3⟩ := (S4.out.box _ (List.mem_cons_of_mem _ List.mem_cons_self) : Fb (w.heap.size + 1, 26, [.int .i64 sb, .slice ab nb cb, .int .i64 1, .slice bb mb db]) _).cells4
  go_wp2_with fail
  clear t2_0 t2_1 t2_2 t2_3 t3_0 t3_1 t3_2 t3_3
  refine (rmul_k (HaP.out.later S4.out.below) (HbQ.out.later S4.out.below) LX0.out LY0.out).mono ?_
  rintro e w5 ⟨s5, a5, n5, c5, rfl, hn, hb, hf⟩
  have E5 := Lib.hid hn.1
  have S6 := Lib.hid ((S4.out.ret hb hn.2 hf).put [.int .i64 s5, .slice a5 n5 c5] 24)
  clear hn hb hf S4
  obtain ⟨t4_0, t4_1, t4_2, t4_3⟩ := (S6.out.box _ (List.mem_cons_of_mem _ (List.mem_cons_of_mem _ (List.mem_cons_of_mem _ List.mem_cons_self))) : Fb (w.heap.size, 26, [.int .i64 sa, .slice aa na ca, .int .i64 1, .slice ba ma da]) _).cells4
  obtain ⟨t5_0, t5_1, t5_2, t5_3⟩ := (S6.out.box _ (List.mem_cons_of_mem _ (List.mem_cons_of_mem _ List.mem_cons_self)) : Fb (w.heap.size + 1, 26, [.int .i64 sb, .slice ab nb cb, .int .i64 1, .slice bb mb db]) _).cells4
  go_wp2_with fail
  clear t4_0 t4_1 t4_2 t4_3 t5_0 t5_1 t5_2 t5_3
  refine (rmul_k (HbP.out.later S6.out.below) (HaQ.out.later S6.out.below) LX1.out LY1.out).mono ?_
  rintro e w7 ⟨s7, a7, n7, c7, rfl, hn, hb, hf⟩
  have E7 := Lib.hid hn.1
  have S8 := Lib.hid ((S6.out.ret hb hn.2 hf).put [.int .i64 s7, .slice a7 n7 c7] 24)
  clear hn hb hf S6
  obtain ⟨t6_0, t6_1, t6_2, t6_3⟩ := (S8.out.box _ (List.mem_cons_of_mem _ (List.mem_cons_of_mem _ (List.mem_cons_of_mem _ (List.mem_cons_of_mem _ List.mem_cons_self)))) : Fb (w.heap.size, 26, [.int .i64 sa, .slice aa na ca, .int .i64 1, .slice ba ma da]) _).cells4
  obtain ⟨t7_0, t7_1, t7_2, t7_3⟩ := (S8.out.box _ (List.mem_cons_of_mem _ (List.mem_cons_of_mem _ (List.mem_cons_of_mem _ List.mem_cons_self))) : Fb (w.heap.size + 1, 26, [.int .i64 sb, .slice ab nb cb, .int .i64 1, .slice bb mb db]) _).cells4
  go_wp2_with fail
  clear t6_0 t6_1 t6_2 t6_3 t7_0 t7_1 t7_2 t7_3
  refine (rmul_k (HaQ.out.later S8.out.below) (HbQ.out.later S8.out.below) LX2.out LY2.out).mono ?_
  rintro e w9 ⟨s9, a9, n9, c9, rfl, hn, hb, hf⟩
  have E9 := Lib.hid hn.1
  have S10 := Lib.hid ((S8.out.ret hb hn.2 hf).put [.int .i64 s9, .slice a9 n9 c9] 24)
  clear hn hb hf S8
  obtain ⟨t8_0, t8_1⟩ := (S10.out.box _ (List.mem_cons_of_mem _ (List.mem_cons_of_mem _ List.mem_cons_self)) : Fb (w5.heap.size, 24, [.int .i64 s5, .slice a5 n5 c5]) _).cells2
  obtain ⟨t9_0, t9_1⟩ := (S10.out.box _ (List.mem_cons_of_mem _ List.mem_cons_self) : Fb (w7.heap.size, 24, [.int .i64 s7, .slice a7 n7 c7]) _).cells2
  go_wp2_with fail
  clear t8_0 t8_1 t9_0 t9_1
  refine (radd_k (S10.out.num (v := .slice a5 n5 c5) (z := (a.num * (b.den : Int))) (List.mem_cons_of_mem _ (List.mem_cons_of_mem _ List.mem_cons_self)) E5.out) (S10.out.num (v := .slice a7 n7 c7) (z := (b.num * (a.den : Int))) (List.mem_cons_of_mem _ List.mem_cons_self) E7.out) LX3.out LY3.out).mono ?_
  rintro e w11 ⟨s11, a11, n11, c11, rfl, hn, hb, hf⟩
  have E11 := Lib.hid hn.1
  have S12 := Lib.hid ((S10.out.ret hb hn.2 hf).put [.int .i64 s11, .slice a11 n11 c11] 24)
  clear hn hb hf S10
  obtain ⟨t10_0, t10_1⟩ := (S12.out.box _ List.mem_cons_self : Fb (w11.heap.size, 24, [.int .i64 s11, .slice a11 n11 c11]) _).cells2
  obtain ⟨t11_0, t11_1⟩ := (S12.out.box _ (List.mem_cons_of_mem _ List.mem_cons_self) : Fb (w9.heap.size, 24, [.int .i64 s9, .slice a9 n9 c9]) _).cells2
  go_wp2_with fail
  clear t10_0 t10_1 t11_0 t11_1
  refine (rfnew_r (S12.out.num (v := .slice a11 n11 c11) (z := ((a.num * (b.den : Int)) + (b.num * (a.den : Int)))) List.mem_cons_self E11.out) (S12.out.num (v := .slice a9 n9 c9) (z := ((a.den : Int) * (b.den : Int))) (List.mem_cons_of_mem _ List.mem_cons_self) E9.out) LX4.out LY4.out HQ0.out HRAT.out).mono ?_
  rintro e w13 ⟨s13, a13, n13, c13, b13, m13, d13, rfl, hr, hb, hf, hg⟩
  have E13 := Lib.hid hr.1.1
  have HFR : Hid (Fresh w.heap.size (.slice a13 n13 c13) ∧ Fresh w.heap.size (.slice b13 m13 d13)) := ⟨hf.mono S12.out.below.size, hg.mono S12.out.below.size⟩
  have S14 := Lib.hid (S12.out.ret2 hb hr.1.2 hf hr.2.2 hg)
  clear hr hb hf hg S12
  obtain ⟨r0, r1, r2, r3⟩ := (S14.out.box _ (List.mem_cons_of_mem _ (List.mem_cons_of_mem _ (List.mem_cons_of_mem _ (List.mem_cons_of_mem _ List.mem_cons_self)))) : Fb (w.heap.size + 1 + 1, 26, [.int .i64 0, .slice none 0 0, .int .i64 0, .slice none 0 0]) _).cells4
  obtain ⟨f0, f1, f2, f3⟩ := (S14.out.box _ (List.mem_cons_of_mem _ (List.mem_cons_of_mem _ (List.mem_cons_of_mem _ (List.mem_cons_of_mem _ List.mem_cons_self)))) : Fb (w.heap.size + 1 + 1, 26, [.int .i64 0, .slice none 0 0, .int .i64 0, .slice none 0 0]) _).free4
  go_wp2_with fail
  have ZZ := Lib.hid (S14.out.set4 (pre := [_, _, _, _]) (.int .i64 s13) (.slice a13 n13 c13) (.int .i64 1) (.slice b13 m13 d13))
  exact bodyPost_ret (v := .tuple #[.agg #[.int .i64 s13, .slice a13 n13 c13, .int .i64 1, .slice b13 m13 d13], .int .i64 0]) (by simp [results, Tryz.results7, go_sem, r0, r1, r2, r3]) rfl ⟨_, _, _, _, _, _, _, rfl, ⟨ZZ.out.num (v := .slice a13 n13 c13) (z := ((a + b) : Rat).num) List.mem_cons_self E13.out, ZZ.out.num (v := .slice b13 m13 d13) (z := (((a + b) : Rat).den : Int)) (List.mem_cons_of_mem _ List.mem_cons_self) (den_sign _).symm⟩, ZZ.out.below, HFR.out.1, HFR.out.2⟩

set_option maxHeartbeats 2000000 in
theorem rfsub_k {w : World} {sa : Int} {aa ba : Option Addr} {na ca ma da : Nat} {sb : Int} {ab bb : Option Addr} {nb cb mb db : Nat} {a b : Rat} (ha : Fr w sa (.slice aa na ca) (.slice ba ma da) a) (hb : Fr w sb (.slice ab nb cb) (.slice bb mb db) b) (La : FSz 1000 a) (Lb : FSz 1000 b) :
    Calls Tryz.prog 9 #[.agg #[.int .i64 sa, .slice aa na ca, .int .i64 1, .slice ba ma da], .agg #[.int .i64 sb, .slice ab nb cb, .int .i64 1, .slice bb mb db]] w (FVE (a - b) 0 w) := by
  have HRAT : Hid (Rat.divInt ((a.num * (b.den : Int)) - (b.num * (a.den : Int))) ((a.den : Int) * (b.den : Int)) = (a - b)) := rat_sub a b
  have HQ0 : Hid (((a.den : Int) * (b.den : Int)) ≠ 0) := Int.mul_ne_zero (den_ne a) (den_ne b)
  have LX0 : Hid (Len 100000 a.num) := Sz.len La.1
  have LY0 : Hid (Len 100000 (b.den : Int)) := Sz.len Lb.2
  have LX1 : Hid (Len 100000 b.num) := Sz.len Lb.1
  have LY1 : Hid (Len 100000 (a.den : Int)) := Sz.len La.2
  have LX2 : Hid (Len 100000 (a.den : Int)) := Sz.len La.2
  have LY2 : Hid (Len 100000 (b.den : Int)) := Sz.len Lb.2
  have LX3 : Hid (Len 100000 (a.num * (b.den : Int))) := Sz.len (Sz.mul La.1 Lb.2)
  have LY3 : Hid (Len 100000 (b.num * (a.den : Int))) := Sz.len (Sz.mul Lb.1 La.2)
  have LX4 : Hid (Len 100000 ((a.num * (b.den : Int)) - (b.num * (a.den : Int)))) := Sz.len (Sz.sub (Sz.mul La.1 Lb.2) (Sz.mul Lb.1 La.2))
  have LY4 : Hid (Len 100000 ((a.den : Int) * (b.den : Int))) := Sz.len (Sz.mul La.2 Lb.2)
  have HA := Lib.hid ha
  have HB := Lib.hid hb
  have HLA := Lib.hid La
  have HLB := Lib.hid Lb
  have HaP := Lib.hid ha.1
  have HaQ := Lib.hid ha.2
  have HbP := Lib.hid hb.1
  have HbQ := Lib.hid hb.2
  have S0 := Lib.hid (((((Sf.start w)).put [.int .i64 sa, .slice aa na ca, .int .i64 1, .slice ba ma da] 26).put' (n := w.heap.size + 1) (by simp) [.int .i64 sb, .slice ab nb cb, .int .i64 1, .slice bb mb db] 26).put' (n := w.heap.size + 1 + 1) (by simp) [.int .i64 0, .slice none 0 0, .int .i64 0, .slice none 0 0] 26)
  clear ha hb La Lb
  go_enter Tryz.func9, Tryz.ntmps9
  go_wp2_with fail
  refine (rfright_k (HA.out.later S0.out.below) HLA.out).mono ?_
  rintro e w1 ⟨rfl, hb⟩
  have S2 := Lib.hid (S0.out.later hb)
  clear hb S0
  obtain ⟨t1_0, t1_1, t1_2, t1_3⟩ := (S2.out.box _ (List.mem_cons_of_mem _ List.mem_cons_self) : Fb (w.heap.size + 1, 26, [.int .i64 sb, .slice ab nb cb, .int .i64 1, .slice bb mb db]) _).cells4
  go_wp2_with fail
  clear t1_0 t1_1 t1_2 t1_3
  refine (rfright_k (HB.out.later S2.out.below) HLB.out).mono ?_
  rintro e w3 ⟨rfl, hb⟩
  have S4 := Lib.hid (S2.out.later hb)
  clear hb S2
  obtain ⟨t2_0, t2_1, t2_2, t2_3⟩ := (S4.out.box _ (List.mem_cons_of_mem _ (List.mem_cons_of_mem _ List.mem_cons_self)) : Fb (w.heap.size, 26, [.int .i64 sa, .slice aa na ca, .int .i64 1, .slice ba ma da]) _).cells4
  obtain ⟨t3_0, t3_1, t3_2, t3_3⟩ := (S4.out.box _ (List.mem_cons_of_mem _ List.mem_cons_self) : Fb (w.heap.size + 1, 26, [.int .i64 sb, .slice ab nb cb, .int .i64 1, .slice bb mb db]) _).cells4
  go_wp2_with fail
  clear t2_0 t2_1 t2_2 t2_3 t3_0 t3_1 t3_2 t3_3
  refine (rmul_k (HaP.out.later S4.out.below) (HbQ.out.later S4.out.below) LX0.out LY0.out).mono ?_
  rintro e w5 ⟨s5, a5, n5, c5, rfl, hn, hb, hf⟩
  have E5 := Lib.hid hn.1
  have S6 := Lib.hid ((S4.out.ret hb hn.2 hf).put [.int .i64 s5, .slice a5 n5 c5] 24)
  clear hn hb hf S4
  obtain ⟨t4_0, t4_1, t4_2, t4_3⟩ := (S6.out.box _ (List.mem_cons_of_mem _ (List.mem_cons_of_mem _ (List.mem_cons_of_mem _ List.mem_cons_self))) : Fb (w.heap.size, 26, [.int .i64 sa, .slice aa na ca, .int .i64 1, .slice ba ma da]) _).cells4
  obtain ⟨t5_0, t5_1, t5_2, t5_3⟩ := (S6.out.box _ (List.mem_cons_of_mem _ (List.mem_cons_of_mem _ List.mem_cons_self)) : Fb (w.heap.size + 1, 26, [.int .i64 sb, .slice ab nb cb, .int .i64 1, .slice bb mb db]) _).cells4
  go_wp2_with fail
  clear t4_0 t4_1 t4_2 t4_3 t5_0 t5_1 t5_2 t5_3
  refine (rmul_k (HbP.out.later S6.out.below) (HaQ.out.later S6.out.below) LX1.out LY1.out).mono ?_
  rintro e w7 ⟨s7, a7, n7, c7, rfl, hn, hb, hf⟩
  have E7 := Lib.hid hn.1
  have S8 := Lib.hid ((S6.out.ret hb hn.2 hf).put [.int .i64 s7, .slice a7 n7 c7] 24)
  clear hn hb hf S6
  obtain ⟨t6_0, t6_1, t6_2, t6_3⟩ := (S8.out.box _ (List.mem_cons_of_mem _ (List.mem_cons_of_mem _ (List.mem_cons_of_mem _ (List.mem_cons_of_mem _ List.mem_cons_self)))) : Fb (w.heap.size, 26, [.int .i64 sa, .slice aa na ca, .int .i64 1, .slice ba ma da]) _).cells4
  obtain ⟨t7_0, t7_1, t7_2, t7_3⟩ := (S8.out.box _ (List.mem_cons_of_mem _ (List.mem_cons_of_mem _ (List.mem_cons_of_mem _ List.mem_cons_self))) : Fb (w.heap.size + 1, 26, [.int .i64 sb, .slice ab nb cb, .int .i64 1, .slice bb mb db]) _).cells4
  go_wp2_with fail
  clear t6_0 t6_1 t6_2 t6_3 t7_0 t7_1 t7_2 t7_3
  refine (rmul_k (HaQ.out.later S8.out.below) (HbQ.out.later S8.out.below) LX2.out LY2.out).mono ?_
  rintro e w9 ⟨s9, a9, n9, c9, rfl, hn, hb, hf⟩
  have E9 := Lib.hid hn.1
  have S10 := Lib.hid ((S8.out.ret hb hn.2 hf).put [.int .i64 s9, .slice a9 n9 c9] 24)
  clear hn hb hf S8
  obtain ⟨t8_0, t8_1⟩ := (S10.out.box _ (List.mem_cons_of_mem _ (List.mem_cons_of_mem _ List.mem_cons_self)) : Fb (w5.heap.size, 24, [.int .i64 s5, .slice a5 n5 c5]) _).cells2
  obtain ⟨t9_0, t9_1⟩ := (S10.out.box _ (List.mem_cons_of_mem _ List.mem_cons_self) : Fb (w7.heap.size, 24, [.int .i64 s7, .slice a7 n7 c7]) _).cells2
  go_wp2_with fail
  clear t8_0 t8_1 t9_0 t9_1
  refine (rsub_k (S10.out.num (v := .slice a5 n5 c5) (z := (a.num * (b.den : Int))) (List.mem_cons_of_mem _ (List.mem_cons_of_mem _ List.mem_cons_self)) E5.out) (S10.out.num (v := .slice a7 n7 c7) (z := (b.num * (a.den : Int))) (List.mem_cons_of_mem _ List.mem_cons_self) E7.out) LX3.out LY3.out).mono ?_
  rintro e w11 ⟨s11, a11, n11, c11, rfl, hn, hb, hf⟩
  have E11 := Lib.hid hn.1
  have S12 := Lib.hid ((S10.out.ret hb hn.2 hf).put [.int .i64 s11, .slice a11 n11 c11] 24)
  clear hn hb hf S10
  obtain ⟨t10_0, t10_1⟩ := (S12.out.box _ List.mem_cons_self : Fb (w11.heap.size, 24, [.int .i64 s11, .slice a11 n11 c11]) _).cells2
  obtain ⟨t11_0, t11_1⟩ := (S12.out.box _ (List.mem_cons_of_mem _ List.mem_cons_self) : Fb (w9.heap.size, 24, [.int .i64 s9, .slice a9 n9 c9]) _).cells2
  go_wp2_with fail
  clear t10_0 t10_1 t11_0 t11_1
  refine (rfnew_r (S12.out.num (v := .slice a11 n11 c11) (z := ((a.num * (b.den : Int)) - (b.num * (a.den : Int)))) List.mem_cons_self E11.out) (S12.out.num (v := .slice a9 n9 c9) (z := ((a.den : Int) * (b.den : Int))) (List.mem_cons_of_mem _ List.mem_cons_self) E9.out) LX4.out LY4.out HQ0.out HRAT.out).mono ?_
  rintro e w13 ⟨s13, a13, n13, c13, b13, m13, d13, rfl, hr, hb, hf, hg⟩
  have E13 := Lib.hid hr.1.1
  have HFR : Hid (Fresh w.heap.size (.slice a13 n13 c13) ∧ Fresh w.heap.size (.slice b13 m13 d13)) := ⟨hf.mono S12.out.below.size, hg.mono S12.out.below.size⟩
  have S14 := Lib.hid (S12.out.ret2 hb hr.1.2 hf hr.2.2 hg)
  clear hr hb hf hg S12
  obtain ⟨r0, r1, r2, r3⟩ := (S14.out.box _ (List.mem_cons_of_mem _ (List.mem_cons_of_mem _ (List.mem_cons_of_mem _ (List.mem_cons_of_mem _ List.mem_cons_self)))) : Fb (w.heap.size + 1 + 1, 26, [.int .i64 0, .slice none 0 0, .int .i64 0, .slice none 0 0]) _).cells4
  obtain ⟨f0, f1, f2, f3⟩ := (S14.out.box _ (List.mem_cons_of_mem _ (List.mem_cons_of_mem _ (List.mem_cons_of_mem _ (List.mem_cons_of_mem _ List.mem_cons_self)))) : Fb (w.heap.size + 1 + 1, 26, [.int .i64 0, .slice none 0 0, .int .i64 0, .slice none 0 0]) _).free4
  go_wp2_with fail
  have ZZ := Lib.hid (S14.out.set4 (pre := [_, _, _, _]) (.int .i64 s13) (.slice a13 n13 c13) (.int .i64 1) (.slice b13 m13 d13))
  exact bodyPost_ret (v := .tuple #[.agg #[.int .i64 s13, .slice a13 n13 c13, .int .i64 1, .slice b13 m13 d13], .int .i64 0]) (by simp [results, Tryz.results9, go_sem, r0, r1, r2, r3]) rfl ⟨_, _, _, _, _, _, _, rfl, ⟨ZZ.out.num (v := .slice a13 n13 c13) (z := ((a - b) : Rat).num) List.mem_cons_self E13.out, ZZ.out.num (v := .slice b13 m13 d13) (z := (((a - b) : Rat).den : Int)) (List.mem_cons_of_mem _ List.mem_cons_self) (den_sign _).symm⟩, ZZ.out.below, HFR.out.1, HFR.out.2⟩

set_option maxHeartbeats 2000000 in
theorem rfmul_k {w : World} {sa : Int} {aa ba : Option Addr} {na ca ma da : Nat} {sb : Int} {ab bb : Option Addr} {nb cb mb db : Nat} {a b : Rat} (ha : Fr w sa (.slice aa na ca) (.slice ba ma da) a) (hb : Fr w sb (.slice ab nb cb) (.slice bb mb db) b) (La : FSz 1000 a) (Lb : FSz 1000 b) :
    Calls Tryz.prog 12 #[.agg #[.int .i64 sa, .slice aa na ca, .int .i64 1, .slice ba ma da], .agg #[.int .i64 sb, .slice ab nb cb, .int .i64 1, .slice bb mb db]] w (FVE (a * b) 0 w) := by
  have HRAT : Hid (Rat.divInt (a.num * b.num) ((a.den : Int) * (b.den : Int)) = (a * b)) := rat_mul a b
  have HQ0 : Hid (((a.den : Int) * (b.den : Int)) ≠ 0) := Int.mul_ne_zero (den_ne a) (den_ne b)
  have LX0 : Hid (Len 100000 a.num) := Sz.len La.1
  have LY0 : Hid (Len 100000 b.num) := Sz.len Lb.1
  have LX1 : Hid (Len 100000 (a.den : Int)) := Sz.len La.2
  have LY1 : Hid (Len 100000 (b.den : Int)) := Sz.len Lb.2
  have LX2 : Hid (Len 100000 (a.num * b.num)) := Sz.len (Sz.mul La.1 Lb.1)
  have LY2 : Hid (Len 100000 ((a.den : Int) * (b.den : Int))) := Sz.len (Sz.mul La.2 Lb.2)
  have HA := Lib.hid ha
  have HB := Lib.hid hb
  have HLA := Lib.hid La
  have HLB := Lib.hid Lb
  have HaP := Lib.hid ha.1
  have HaQ := Lib.hid ha.2
  have HbP := Lib.hid hb.1
  have HbQ := Lib.hid hb.2
  have S0 := Lib.hid (((((Sf.start w)).put [.int .i64 sa, .slice aa na ca, .int .i64 1, .slice ba ma da] 26).put' (n := w.heap.size + 1) (by simp) [.int .i64 sb, .slice ab nb cb, .int .i64 1, .slice bb mb db] 26).put' (n := w.heap.size + 1 + 1) (by simp) [.int .i64 0, .slice none 0 0, .int .i64 0, .slice none 0 0] 26)
  clear ha hb La Lb
  go_enter Tryz.func12, Tryz.ntmps12
  go_wp2_with fail
  refine (rfright_k (HA.out.later S0.out.below) HLA.out).mono ?_
  rintro e w1 ⟨rfl, hb⟩
  have S2 := Lib.hid (S0.out.later hb)
  clear hb S0
  obtain ⟨t1_0, t1_1, t1_2, t1_3⟩ := (S2.out.box _ (List.mem_cons_of_mem _ List.mem_cons_self) : Fb (w.heap.size + 1, 26, [.int .i64 sb, .slice ab nb cb, .int .i64 1, .slice bb mb db]) _).cells4
  go_wp2_with fail
  clear t1_0 t1_1 t1_2 t1_3
  refine (rfright_k (HB.out.later S2.out.below) HLB.out).mono ?_
  rintro e w3 ⟨rfl, hb⟩
  have S4 := Lib.hid (S2.out.later hb)
  clear hb S2
  obtain ⟨t2_0, t2_1, t2_2, t2_3⟩ := (S4.out.box _ (List.mem_cons_of_mem _ (List.mem_cons_of_mem _ List.mem_cons_self)) : Fb (w.heap.size, 26, [.int .i64 sa, .slice aa na ca, .int .i64 1, .slice ba ma da]) _).cells4
  obtain ⟨t3_0, t3_1, t3_2, t3_3⟩ := (S4.out.box _ (List.mem_cons_of_mem _ List.mem_cons_self) : Fb (w.heap.size + 1, 26, [.int .i64 sb, .slice ab nb cb, .int .i64 1, .slice bb mb db]) _).cells4
  go_wp2_with fail
  clear t2_0 t2_1 t2_2 t2_3 t3_0 t3_1 t3_2 t3_3
  refine (rmul_k (HaP.out.later S4.out.below) (HbP.out.later S4.out.below) LX0.out LY0.out).mono ?_
  rintro e w5 ⟨s5, a5, n5, c5, rfl, hn, hb, hf⟩
  have E5 := Lib.hid hn.1
  have S6 := Lib.hid ((S4.out.ret hb hn.2 hf).put [.int .i64 s5, .slice a5 n5 c5] 24)
  clear hn hb hf S4
  obtain ⟨t4_0, t4_1, t4_2, t4_3⟩ := (S6.out.box _ (List.mem_cons_of_mem _ (List.mem_cons_of_mem _ (List.mem_cons_of_mem _ List.mem_cons_self))) : Fb (w.heap.size, 26, [.int .i64 sa, .slice aa na ca, .int .i64 1, .slice ba ma da]) _).cells4
  obtain ⟨t5_0, t5_1, t5_2, t5_3⟩ := (S6.out.box _ (List.mem_cons_of_mem _ (List.mem_cons_of_mem _ List.mem_cons_self)) : Fb (w.heap.size + 1, 26, [.int .i64 sb, .slice ab nb cb, .int .i64 1, .slice bb mb db]) _).cells4
  go_wp2_with fail
  clear t4_0 t4_1 t4_2 t4_3 t5_0 t5_1 t5_2 t5_3
  refine (rmul_k (HaQ.out.later S6.out.below) (HbQ.out.later S6.out.below) LX1.out LY1.out).mono ?_
  rintro e w7 ⟨s7, a7, n7, c7, rfl, hn, hb, hf⟩
  have E7 := Lib.hid hn.1
  have S8 := Lib.hid ((S6.out.ret hb hn.2 hf).put [.int .i64 s7, .slice a7 n7 c7] 24)
  clear hn hb hf S6
  obtain ⟨t6_0, t6_1⟩ := (S8.out.box _ (List.mem_cons_of_mem _ List.mem_cons_self) : Fb (w5.heap.size, 24, [.int .i64 s5, .slice a5 n5 c5]) _).cells2
  obtain ⟨t7_0, t7_1⟩ := (S8.out.box _ List.mem_cons_self : Fb (w7.heap.size, 24, [.int .i64 s7, .slice a7 n7 c7]) _).cells2
  go_wp2_with fail
  clear t6_0 t6_1 t7_0 t7_1
  refine (rfnew_r (S8.out.num (v := .slice a5 n5 c5) (z := (a.num * b.num)) (List.mem_cons_of_mem _ List.mem_cons_self) E5.out) (S8.out.num (v := .slice a7 n7 c7) (z := ((a.den : Int) * (b.den : Int))) List.mem_cons_self E7.out) LX2.out LY2.out HQ0.out HRAT.out).mono ?_
  rintro e w9 ⟨s9, a9, n9, c9, b9, m9, d9, rfl, hr, hb, hf, hg⟩
  have E9 := Lib.hid hr.1.1
  have HFR : Hid (Fresh w.heap.size (.slice a9 n9 c9) ∧ Fresh w.heap.size (.slice b9 m9 d9)) := ⟨hf.mono S8.out.below.size, hg.mono S8.out.below.size⟩
  have S10 := Lib.hid (S8.out.ret2 hb hr.1.2 hf hr.2.2 hg)
  clear hr hb hf hg S8
  obtain ⟨r0, r1, r2, r3⟩ := (S10.out.box _ (List.mem_cons_of_mem _ (List.mem_cons_of_mem _ List.mem_cons_self)) : Fb (w.heap.size + 1 + 1, 26, [.int .i64 0, .slice none 0 0, .int .i64 0, .slice none 0 0]) _).cells4
  obtain ⟨f0, f1, f2, f3⟩ := (S10.out.box _ (List.mem_cons_of_mem _ (List.mem_cons_of_mem _ List.mem_cons_self)) : Fb (w.heap.size + 1 + 1, 26, [.int .i64 0, .slice none 0 0, .int .i64 0, .slice none 0 0]) _).free4
  go_wp2_with fail
  have ZZ := Lib.hid (S10.out.set4 (pre := [_, _]) (.int .i64 s9) (.slice a9 n9 c9) (.int .i64 1) (.slice b9 m9 d9))
  exact bodyPost_ret (v := .tuple #[.agg #[.int .i64 s9, .slice a9 n9 c9, .int .i64 1, .slice b9 m9 d9], .int .i64 0]) (by simp [results, Tryz.results12, go_sem, r0, r1, r2, r3]) rfl ⟨_, _, _, _, _, _, _, rfl, ⟨ZZ.out.num (v := .slice a9 n9 c9) (z := ((a * b) : Rat).num) List.mem_cons_self E9.out, ZZ.out.num (v := .slice b9 m9 d9) (z := (((a * b) : Rat).den : Int)) (List.mem_cons_of_mem _ List.mem_cons_self) (den_sign _).symm⟩, ZZ.out.below, HFR.out.1, HFR.out.2⟩

set_option maxHeartbeats 2000000 in
theorem rfdiv_k {w : World} {sa : Int} {aa ba : Option Addr} {na ca ma da : Nat} {sb : Int} {ab bb : Option Addr} {nb cb mb db : Nat} {a b : Rat} (ha : Fr w sa (.slice aa na ca) (.slice ba ma da) a) (hb : Fr w sb (.slice ab nb cb) (.slice bb mb db) b) (La : FSz 1000 a) (Lb : FSz 1000 b) (h0 : b ≠ 0) :
    Calls Tryz.prog 14 #[.agg #[.int .i64 sa, .slice aa na ca, .int .i64 1, .slice ba ma da], .agg #[.int .i64 sb, .slice ab nb cb, .int .i64 1, .slice bb mb db]] w (FVE (a / b) 0 w) := by
  have HRAT : Hid (Rat.divInt (a.num * (b.den : Int)) ((a.den : Int) * b.num) = (a / b)) := rat_div a b
  have HQ0 : Hid (((a.den : Int) * b.num) ≠ 0) := Int.mul_ne_zero (den_ne a) (num_ne h0)
  have LX0 : Hid (Len 100000 a.num) := Sz.len La.1
  have LY0 : Hid (Len 100000 (b.den : Int)) := Sz.len Lb.2
  have LX1 : Hid (Len 100000 (a.den : Int)) := Sz.len La.2
  have LY1 : Hid (Len 100000 b.num) := Sz.len Lb.1
  have LX2 : Hid (Len 100000 (a.num * (b.den : Int))) := Sz.len (Sz.mul La.1 Lb.2)
  have LY2 : Hid (Len 100000 ((a.den : Int) * b.num)) := Sz.len (Sz.mul La.2 Lb.1)
  have hs0 : (sb == 0) = false := by rw [hb.1.1, beq_eq_false_iff_ne]; exact fun e => num_ne h0 (Int.sign_eq_zero_iff_zero.1 e)
  have HA := Lib.hid ha
  have HB := Lib.hid hb
  have HLA := Lib.hid La
  have HLB := Lib.hid Lb
  have HaP := Lib.hid ha.1
  have HaQ := Lib.hid ha.2
  have HbP := Lib.hid hb.1
  have HbQ := Lib.hid hb.2
  have S0 := Lib.hid (((((Sf.start w)).put [.int .i64 sa, .slice aa na ca, .int .i64 1, .slice ba ma da] 26).put' (n := w.heap.size + 1) (by simp) [.int .i64 sb, .slice ab nb cb, .int .i64 1, .slice bb mb db] 26).put' (n := w.heap.size + 1 + 1) (by simp) [.int .i64 0, .slice none 0 0, .int .i64 0, .slice none 0 0] 26)
  clear ha hb La Lb h0
  go_enter Tryz.func14, Tryz.ntmps14
  go_wp2_with fail
  refine (rfright_k (HA.out.later S0.out.below) HLA.out).mono ?_
  rintro e w1 ⟨rfl, hb⟩
  have S2 := Lib.hid (S0.out.later hb)
  clear hb S0
  obtain ⟨t1_0, t1_1, t1_2, t1_3⟩ := (S2.out.box _ (List.mem_cons_of_mem _ List.mem_cons_self) : Fb (w.heap.size + 1, 26, [.int .i64 sb, .slice ab nb cb, .int .i64 1, .slice bb mb db]) _).cells4
  go_wp2_with fail
  clear t1_0 t1_1 t1_2 t1_3
  refine (rfright_k (HB.out.later S2.out.below) HLB.out).mono ?_
  rintro e w3 ⟨rfl, hb⟩
  have S4 := Lib.hid (S2.out.later hb)
  clear hb S2
  obtain ⟨t2_0, t2_1, t2_2, t2_3⟩ := (S4.out.box _ (List.mem_cons_of_mem _ (List.mem_cons_of_mem _ List.mem_cons_self)) : Fb (w.heap.size, 26, [.int .i64 sa, .slice aa na ca, .int .i64 1, .slice ba ma da]) _).cells4
  obtain ⟨t3_0, t3_1, t3_2, t3_3⟩ := (S4.out.box _ (List.mem_cons_of_mem _ List.mem_cons_self) : Fb (w.heap.size + 1, 26, [.int .i64 sb, .slice ab nb cb, .int .i64 1, .slice bb mb db]) _).cells4
  go_wp2_with fail
  clear t2_0 t2_1 t2_2 t2_3 t3_0 t3_1 t3_2 t3_3
  refine (rmul_k (HaP.out.later S4.out.below) (HbQ.out.later S4.out.below) LX0.out LY0.out).mono ?_
  rintro e w5 ⟨s5, a5, n5, c5, rfl, hn, hb, hf⟩
  have E5 := Lib.hid hn.1
  have S6 := Lib.hid ((S4.out.ret hb hn.2 hf).put [.int .i64 s5, .slice a5 n5 c5] 24)
  clear hn hb hf S4
  obtain ⟨t4_0, t4_1, t4_2, t4_3⟩ := (S6.out.box _ (List.mem_cons_of_mem _ (List.mem_cons_of_mem _ (List.mem_cons_of_mem _ List.mem_cons_self))) : Fb (w.heap.size, 26, [.int .i64 sa, .slice aa na ca, .int .i64 1, .slice ba ma da]) _).cells4
  obtain ⟨t5_0, t5_1, t5_2, t5_3⟩ := (S6.out.box _ (List.mem_cons_of_mem _ (List.mem_cons_of_mem _ List.mem_cons_self)) : Fb (w.heap.size + 1, 26, [.int .i64 sb, .slice ab nb cb, .int .i64 1, .slice bb mb db]) _).cells4
  go_wp2_with fail
  clear t4_0 t4_1 t4_2 t4_3 t5_0 t5_1 t5_2 t5_3
  refine (rmul_k (HaQ.out.later S6.out.below) (HbP.out.later S6.out.below) LX1.out LY1.out).mono ?_
  rintro e w7 ⟨s7, a7, n7, c7, rfl, hn, hb, hf⟩
  have E7 := Lib.hid hn.1
  have S8 := Lib.hid ((S6.out.ret hb hn.2 hf).put [.int .i64 s7, .slice a7 n7 c7] 24)
  clear hn hb hf S6
  obtain ⟨t6_0, t6_1⟩ := (S8.out.box _ (List.mem_cons_of_mem _ List.mem_cons_self) : Fb (w5.heap.size, 24, [.int .i64 s5, .slice a5 n5 c5]) _).cells2
  obtain ⟨t7_0, t7_1⟩ := (S8.out.box _ List.mem_cons_self : Fb (w7.heap.size, 24, [.int .i64 s7, .slice a7 n7 c7]) _).cells2
  go_wp2_with fail
  clear t6_0 t6_1 t7_0 t7_1
  refine (rfnew_r (S8.out.num (v := .slice a5 n5 c5) (z := (a.num * (b.den : Int))) (List.mem_cons_of_mem _ List.mem_cons_self) E5.out) (S8.out.num (v := .slice a7 n7 c7) (z := ((a.den : Int) * b.num)) List.mem_cons_self E7.out) LX2.out LY2.out HQ0.out HRAT.out).mono ?_
  rintro e w9 ⟨s9, a9, n9, c9, b9, m9, d9, rfl, hr, hb, hf, hg⟩
  have E9 := Lib.hid hr.1.1
  have HFR : Hid (Fresh w.heap.size (.slice a9 n9 c9) ∧ Fresh w.heap.size (.slice b9 m9 d9)) := ⟨hf.mono S8.out.below.size, hg.mono S8.out.below.size⟩
  have S10 := Lib.hid (S8.out.ret2 hb hr.1.2 hf hr.2.2 hg)
  clear hr hb hf hg S8
  obtain ⟨r0, r1, r2, r3⟩ := (S10.out.box _ (List.mem_cons_of_mem _ (List.mem_cons_of_mem _ List.mem_cons_self)) : Fb (w.heap.size + 1 + 1, 26, [.int .i64 0, .slice none 0 0, .int .i64 0, .slice none 0 0]) _).cells4
  obtain ⟨f0, f1, f2, f3⟩ := (S10.out.box _ (List.mem_cons_of_mem _ (List.mem_cons_of_mem _ List.mem_cons_self)) : Fb (w.heap.size + 1 + 1, 26, [.int .i64 0, .slice none 0 0, .int .i64 0, .slice none 0 0]) _).free4
  go_wp2_with fail
  have ZZ := Lib.hid (S10.out.set4 (pre := [_, _]) (.int .i64 s9) (.slice a9 n9 c9) (.int .i64 1) (.slice b9 m9 d9))
  exact bodyPost_ret (v := .tuple #[.agg #[.int .i64 s9, .slice a9 n9 c9, .int .i64 1, .slice b9 m9 d9], .int .i64 0]) (by simp [results, Tryz.results14, go_sem, r0, r1, r2, r3]) rfl ⟨_, _, _, _, _, _, _, rfl, ⟨ZZ.out.num (v := .slice a9 n9 c9) (z := ((a / b) : Rat).num) List.mem_cons_self E9.out, ZZ.out.num (v := .slice b9 m9 d9) (z := (((a / b) : Rat).den : Int)) (List.mem_cons_of_mem _ List.mem_cons_self) (den_sign _).symm⟩, ZZ.out.below, HFR.out.1, HFR.out.2⟩

set_option maxHeartbeats 2000000 in
theorem rfdiv_zero {w : World} {sa : Int} {aa ba : Option Addr} {na ca ma da : Nat} {sb : Int} {ab bb : Option Addr} {nb cb mb db : Nat} {a b : Rat} (ha : Fr w sa (.slice aa na ca) (.slice ba ma da) a) (hb : Fr w sb (.slice ab nb cb) (.slice bb mb db) b) (La : FSz 1000 a) (Lb : FSz 1000 b) (h0 : b = 0) :
    Calls Tryz.prog 14 #[.agg #[.int .i64 sa, .slice aa na ca, .int .i64 1, .slice ba ma da], .agg #[.int .i64 sb, .slice ab nb cb, .int .i64 1, .slice bb mb db]] w (FZE 15 w) := by
  obtain rfl : sb = 0 := by rw [hb.1.1, h0]; rfl
  have HA := Lib.hid ha
  have HB := Lib.hid hb
  have HLA := Lib.hid La
  have HLB := Lib.hid Lb
  have HaP := Lib.hid ha.1
  have HaQ := Lib.hid ha.2
  have HbP := Lib.hid hb.1
  have HbQ := Lib.hid hb.2
  have S0 := Lib.hid (((((Sf.start w)).put [.int .i64 sa, .slice aa na ca, .int .i64 1, .slice ba ma da] 26).put' (n := w.heap.size + 1) (by simp) [.int .i64 0, .slice ab nb cb, .int .i64 1, .slice bb mb db] 26).put' (n := w.heap.size + 1 + 1) (by simp) [.int .i64 0, .slice none 0 0, .int .i64 0, .slice none 0 0] 26)
  clear ha hb La Lb h0
  go_enter Tryz.func14, Tryz.ntmps14
  go_wp2_with fail
  refine (rfright_k (HA.out.later S0.out.below) HLA.out).mono ?_
  rintro e w1 ⟨rfl, hb⟩
  have S2 := Lib.hid (S0.out.later hb)
  clear hb S0
  obtain ⟨t1_0, t1_1, t1_2, t1_3⟩ := (S2.out.box _ (List.mem_cons_of_mem _ List.mem_cons_self) : Fb (w.heap.size + 1, 26, [.int .i64 0, .slice ab nb cb, .int .i64 1, .slice bb mb db]) _).cells4
  go_wp2_with fail
  clear t1_0 t1_1 t1_2 t1_3
  refine (rfright_k (HB.out.later S2.out.below) HLB.out).mono ?_
  rintro e w3 ⟨rfl, hb⟩
  have S4 := Lib.hid (S2.out.later hb)
  clear hb S2
  obtain ⟨t2_0, t2_1, t2_2, t2_3⟩ := (S4.out.box _ (List.mem_cons_of_mem _ List.mem_cons_self) : Fb (w.heap.size + 1, 26, [.int .i64 0, .slice ab nb cb, .int .i64 1, .slice bb mb db]) _).cells4
  obtain ⟨r0, r1, r2, r3⟩ := (S4.out.box _ List.mem_cons_self : Fb (w.heap.size + 1 + 1, 26, [.int .i64 0, .slice none 0 0, .int .i64 0, .slice none 0 0]) _).cells4
  obtain ⟨f0, f1, f2, f3⟩ := (S4.out.box _ List.mem_cons_self : Fb (w.heap.size + 1 + 1, 26, [.int .i64 0, .slice none 0 0, .int .i64 0, .slice none 0 0]) _).free4
  go_wp2_with fail
  clear t2_0 t2_1 t2_2 t2_3
  have ZZ := Lib.hid (S4.out.set4 (pre := []) (.int .i64 0) (.slice none 0 0) (.int .i64 0) (.slice none 0 0))
  exact bodyPost_ret (v := .tuple #[.agg #[.int .i64 0, .slice none 0 0, .int .i64 0, .slice none 0 0], .int .i64 15]) (by simp [results, Tryz.results14, go_sem, r0, r1, r2, r3]) rfl ⟨rfl, ZZ.out.below⟩

set_option maxHeartbeats 2000000 in
theorem rfcmp_k {w : World} {sa : Int} {aa ba : Option Addr} {na ca ma da : Nat} {sb : Int} {ab bb : Option Addr} {nb cb mb db : Nat} {a b : Rat} (ha : Fr w sa (.slice aa na ca) (.slice ba ma da) a) (hb : Fr w sb (.slice ab nb cb) (.slice bb mb db) b) (La : FSz 1000 a) (Lb : FSz 1000 b) :
    Calls Tryz.prog 24 #[.agg #[.int .i64 sa, .slice aa na ca, .int .i64 1, .slice ba ma da], .agg #[.int .i64 sb, .slice ab nb cb, .int .i64 1, .slice bb mb db]] w (fun e w' => e = .returned (.int .i64 (cmpR a b)) ∧ RowKit.Below w.heap.size w w') := by
  have HC := Lib.hid (cmp_cross a b)
  have LX0 : Hid (Len 100000 a.num) := Sz.len La.1
  have LY0 : Hid (Len 100000 (b.den : Int)) := Sz.len Lb.2
  have LX1 : Hid (Len 100000 b.num) := Sz.len Lb.1
  have LY1 : Hid (Len 100000 (a.den : Int)) := Sz.len La.2
  have LX2 : Hid (Len 100000 (a.num * (b.den : Int))) := Sz.len (Sz.mul La.1 Lb.2)
  have LY2 : Hid (Len 100000 (b.num * (a.den : Int))) := Sz.len (Sz.mul Lb.1 La.2)
  have HA := Lib.hid ha
  have HB := Lib.hid hb
  have HLA := Lib.hid La
  have HLB := Lib.hid Lb
  have HaP := Lib.hid ha.1
  have HaQ := Lib.hid ha.2
  have HbP := Lib.hid hb.1
  have HbQ := Lib.hid hb.2
  have S0 := Lib.hid ((((Sf.start w)).put [.int .i64 sa, .slice aa na ca, .int .i64 1, .slice ba ma da] 26).put' (n := w.heap.size + 1) (by simp) [.int .i64 sb, .slice ab nb cb, .int .i64 1, .slice bb mb db] 26)
  clear ha hb La Lb
  go_enter Tryz.func24, Tryz.ntmps24
  go_wp2_with fail
  refine (rfright_k (HA.out.later S0.out.below) HLA.out).mono ?_
  rintro e w1 ⟨rfl, hb⟩
  have S2 := Lib.hid (S0.out.later hb)
  clear hb S0
  obtain ⟨t1_0, t1_1, t1_2, t1_3⟩ := (S2.out.box _ List.mem_cons_self : Fb (w.heap.size + 1, 26, [.int .i64 sb, .slice ab nb cb, .int .i64 1, .slice bb mb db]) _).cells4
  go_wp2_with fail
  clear t1_0 t1_1 t1_2 t1_3
  refine (rfright_k (HB.out.later S2.out.below) HLB.out).mono ?_
  rintro e w3 ⟨rfl, hb⟩
  have S4 := Lib.hid (S2.out.later hb)
  clear hb S2
  obtain ⟨t2_0, t2_1, t2_2, t2_3⟩ := (S4.out.box _ (List.mem_cons_of_mem _ List.mem_cons_self) : Fb (w.heap.size, 26, [.int .i64 sa, .slice aa na ca, .int .i64 1, .slice ba ma da]) _).cells4
  obtain ⟨t3_0, t3_1, t3_2, t3_3⟩ := (S4.out.box _ List.mem_cons_self : Fb (w.heap.size + 1, 26, [.int .i64 sb, .slice ab nb cb, .int .i64 1, .slice bb mb db]) _).cells4
  go_wp2_with fail
  clear t2_0 t2_1 t2_2 t2_3 t3_0 t3_1 t3_2 t3_3
  refine (rmul_k (HaP.out.later S4.out.below) (HbQ.out.later S4.out.below) LX0.out LY0.out).mono ?_
  rintro e w5 ⟨s5, a5, n5, c5, rfl, hn, hb, hf⟩
  have E5 := Lib.hid hn.1
  have S6 := Lib.hid ((S4.out.ret hb hn.2 hf).put [.int .i64 s5, .slice a5 n5 c5] 24)
  clear hn hb hf S4
  obtain ⟨t4_0, t4_1, t4_2, t4_3⟩ := (S6.out.box _ (List.mem_cons_of_mem _ (List.mem_cons_of_mem _ List.mem_cons_self)) : Fb (w.heap.size, 26, [.int .i64 sa, .slice aa na ca, .int .i64 1, .slice ba ma da]) _).cells4
  obtain ⟨t5_0, t5_1, t5_2, t5_3⟩ := (S6.out.box _ (List.mem_cons_of_mem _ List.mem_cons_self) : Fb (w.heap.size + 1, 26, [.int .i64 sb, .slice ab nb cb, .int .i64 1, .slice bb mb db]) _).cells4
  go_wp2_with fail
  clear t4_0 t4_1 t4_2 t4_3 t5_0 t5_1 t5_2 t5_3
  refine (rmul_k (HbP.out.later S6.out.below) (HaQ.out.later S6.out.below) LX1.out LY1.out).mono ?_
  rintro e w7 ⟨s7, a7, n7, c7, rfl, hn, hb, hf⟩
  have E7 := Lib.hid hn.1
  have S8 := Lib.hid ((S6.out.ret hb hn.2 hf).put [.int .i64 s7, .slice a7 n7 c7] 24)
  clear hn hb hf S6
  obtain ⟨t6_0, t6_1⟩ := (S8.out.box _ (List.mem_cons_of_mem _ List.mem_cons_self) : Fb (w5.heap.size, 24, [.int .i64 s5, .slice a5 n5 c5]) _).cells2
  obtain ⟨t7_0, t7_1⟩ := (S8.out.box _ List.mem_cons_self : Fb (w7.heap.size, 24, [.int .i64 s7, .slice a7 n7 c7]) _).cells2
  go_wp2_with fail
  clear t6_0 t6_1 t7_0 t7_1
  refine (rcmp_t (S8.out.num (v := .slice a5 n5 c5) (z := (a.num * (b.den : Int))) (List.mem_cons_of_mem _ List.mem_cons_self) E5.out) (S8.out.num (v := .slice a7 n7 c7) (z := (b.num * (a.den : Int))) List.mem_cons_self E7.out) HC.out).mono ?_
  rintro e w9 ⟨rfl, hb⟩
  have S10 := Lib.hid (S8.out.later hb)
  clear hb S8
  go_wp2_with fail
  go_ret
  exact ⟨rfl, S10.out.below⟩

end Go.Proofs.YtnddickcnfodfaaGreatDoor.Bi
