/- kitbagref04 as laws use it; whether a fraction is valid, by the reference. WRITTEN by frac/gen_ft.py. frac and kitbagref05 at arguments that are not valid. WRITTEN by frac/gen_ft.py. New, and the four operations, of kitbagref05, at valid fractions. WRITTEN by frac/gen_ft.py. Neg, Sign, Floor, Text, Min, Max, Of, Int of kitbagref05. WRITTEN by frac/gen_ft.py. -/
import Derived.Test.YtmhdhabgdlefjaaGreatDoorPDims13
import Derived.Test.YtmhdhabgdlefjaaGreatDoorPDims15
set_option maxRecDepth 100000
namespace Go.Proofs.YtmhdhabgdlefjaaGreatDoor.Bi
open Go.RowKit

section
variable {w : World} {sa sb : Int} {va vb : Value} {a b : Int}
theorem rof_k (z : Int) (h : -9223372036854775808 ≤ z ∧ z ≤ 9223372036854775807) (w : World) : Calls Tryz.prog 64 #[.int .i64 z] w (BV z w) := (rof_any z h.1 h.2 w).mono fun _ _ h => h.bv
theorem rdiv_k (ha : Num w sa va a) (hb : Num w sb vb b) (la : Len 100000 a) (lb : Len 100000 b) (h0 : b ≠ 0) : Calls Tryz.prog 93 #[.agg #[.int .i64 sa, va], .agg #[.int .i64 sb, vb]] w (BVD (a.fdiv b) (a.fmod b) 0 w) :=
  (rdiv_ok _ _ a b w ha.isb hb.isb (Nat.le_trans la (by omega)) (Nat.le_trans lb (by omega)) h0).mono fun _ _ h => h.bvd
theorem rgcd_z (ha : Num w sa va a) (hb : Num w sb vb b) (la : Len 100000 a) (lb : Len 100000 b) {z : Int} (h : ((Nat.gcd a.natAbs b.natAbs : Nat) : Int) = z) : Calls Tryz.prog 74 #[.agg #[.int .i64 sa, va], .agg #[.int .i64 sb, vb]] w (BVE z 0 w) := by
  subst h; exact (rgcd_ok _ _ a b w ha.isb hb.isb (Nat.le_trans la (by omega)) (Nat.le_trans lb (by omega))).mono fun _ _ h => h.bve
theorem rneg_k (ha : Num w sa va a) (la : Len 100000 a) : Calls Tryz.prog 92 #[.agg #[.int .i64 sa, va]] w (BV (-a) w) := (rneg_ok _ a w ha.isb (Nat.le_trans la (by omega))).mono fun _ _ h => h.bv
theorem rrightN_k (ha : Num w sa va a) : Calls Tryz.prog 73 #[.agg #[.int .i64 sa, va]] w fun e w' => e = .returned (.bool true) ∧ RowKit.Below w.heap.size w w' := risb_any ha.isb
end
end Go.Proofs.YtmhdhabgdlefjaaGreatDoor.Bi

namespace Go.Proofs.YtmhdhabgdlefjaaGreatDoor.Bi
open Go.RowKit

set_option maxHeartbeats 1000000 in
theorem fsign_bad (sa : Int) (aa : Option Addr) (na ca : Nat) (la : List Int) (ta : Int) (ba : Option Addr) (ma da : Nat) (ka : List Int) (w : World) (ha : Ints w (.slice aa na ca) la) (ga : Ints w (.slice ba ma da) ka) (ua : la.length ≤ 100000) (va : ka.length ≤ 100000) (hr : fRightB sa la ta ka = false) :
    Calls Tryz.prog 50 #[.agg #[.int .i64 sa, .slice aa na ca, .int .i64 ta, .slice ba ma da]] w fun e w' => e = .returned (.int .i64 0) ∧ RowKit.Below w.heap.size w w' := by
  have S0 := Lib.hid (((Sf.start w)).put [.int .i64 sa, .slice aa na ca, .int .i64 ta, .slice ba ma da] 28)
  have Ha := Lib.hid ha
  have Ga := Lib.hid ga
  have Ua := Lib.hid ua
  have Va := Lib.hid va
  have Ea := Lib.hid hr
  clear ha ga ua va hr
  go_enter Tryz.func50, Tryz.ntmps50
  go_wp2_with fail
  refine (fright_any sa aa na ca la ta ba ma da ka _ (Ha.out.later S0.out.below) (Ga.out.later S0.out.below) Ua.out Va.out false Ea.out).mono ?_
  rintro e w1 ⟨rfl, hb⟩
  have S1 := Lib.hid (S0.out.later hb)
  clear hb S0
  go_wp2_with fail
  go_ret
  exact ⟨rfl, S1.out.below⟩

end Go.Proofs.YtmhdhabgdlefjaaGreatDoor.Bi

namespace Go.Proofs.YtmhdhabgdlefjaaGreatDoor.Bi
open Go.RowKit

theorem rdiv_r {w : World} {sa sb : Int} {va vb : Value} {a b z : Int} (ha : Num w sa va a) (hb : Num w sb vb b) (la : Len 100000 a) (lb : Len 100000 b) (h0 : b ≠ 0) (h : a.fdiv b = z) : Calls Tryz.prog 93 #[.agg #[.int .i64 sa, va], .agg #[.int .i64 sb, vb]] w (BVD z (a.fmod b) 0 w) := by
  subst h; exact rdiv_k ha hb la lb h0
theorem divInt_nn (p q : Int) (hq : q ≠ 0) : Rat.divInt (-p) (-q) = Rat.divInt p q := by
  rw [Rat.divInt_eq_divInt_iff (by omega) hq, Int.neg_mul, Int.mul_neg]

set_option maxHeartbeats 2000000 in
theorem rfnew_pos {w : World} {sp sq : Int} {ap aq : Option Addr} {np cp nq cq : Nat} {p q : Int} (hp : Num w sp (.slice ap np cp) p) (hq : Num w sq (.slice aq nq cq) q) (lp : Len 100000 p) (lq : Len 100000 q) {r : Rat} (h0 : 0 < q) (h : Rat.divInt p q = r) : Calls Tryz.prog 63 #[.agg #[.int .i64 sp, .slice ap np cp], .agg #[.int .i64 sq, .slice aq nq cq]] w (FVE r 0 w) := by
  obtain rfl : sq = 1 := hq.1.trans (Int.sign_eq_one_of_pos h0)
  have hq0 : q ≠ 0 := by omega
  obtain ⟨G, hG⟩ : ∃ z : Int, ((Nat.gcd (p : Int).natAbs (q : Int).natAbs : Nat) : Int) = z := ⟨_, rfl⟩
  have hGn : G = newG p q := by rw [← hG, newG_pos (by omega)]
  have HNU : Hid ((p : Int).fdiv G = r.num) := Lib.hid (by rw [hGn, new_num (by omega), h])
  have HDE : Hid ((q : Int).fdiv G = (r.den : Int)) := Lib.hid (by rw [hGn, new_den (by omega), h])
  have HGN : Hid (G ≠ 0) := Lib.hid (by rw [hGn]; exact newG_ne (by omega))
  have HLP2 : Hid (Len 100000 p) := lp
  have HLQ2 : Hid (Len 100000 q) := lq
  have HLG : Hid (Len 100000 G) := Len.gcd HLP2.out HLQ2.out hG
  have HG := Lib.hid hG
  have HP := Lib.hid hp
  have HQ := Lib.hid hq
  have HLP := Lib.hid lp
  have HLQ := Lib.hid lq
  have S0 := Lib.hid (((((Sf.start w)).put [.int .i64 sp, .slice ap np cp] 26).put' (n := w.heap.size + 1) (by simp) [.int .i64 1, .slice aq nq cq] 26).put' (n := w.heap.size + 1 + 1) (by simp) [.int .i64 0, .slice none 0 0, .int .i64 0, .slice none 0 0] 28)
  clear hp hq lp lq h0 hq0 hG hGn h
  go_enter Tryz.func63, Tryz.ntmps63
  go_wp2_with fail
  refine (rrightN_k (HP.out.later S0.out.below)).mono ?_
  rintro e w1 ⟨rfl, hb⟩
  have S2 := Lib.hid (S0.out.later hb)
  clear hb S0
  obtain ⟨t1_0, t1_1⟩ := (S2.out.box _ (List.mem_cons_of_mem _ List.mem_cons_self) : Fb (w.heap.size + 1, 26, [.int .i64 1, .slice aq nq cq]) _).cells2
  go_wp2_with fail
  clear t1_0 t1_1
  refine (rrightN_k (HQ.out.later S2.out.below)).mono ?_
  rintro e w3 ⟨rfl, hb⟩
  have S4 := Lib.hid (S2.out.later hb)
  clear hb S2
  obtain ⟨t2_0, t2_1⟩ := (S4.out.box _ (List.mem_cons_of_mem _ (List.mem_cons_of_mem _ List.mem_cons_self)) : Fb (w.heap.size, 26, [.int .i64 sp, .slice ap np cp]) _).cells2
  obtain ⟨t3_0, t3_1⟩ := (S4.out.box _ (List.mem_cons_of_mem _ List.mem_cons_self) : Fb (w.heap.size + 1, 26, [.int .i64 1, .slice aq nq cq]) _).cells2
  go_wp2_with fail
  clear t2_0 t2_1 t3_0 t3_1
  refine (rgcd_z (HP.out.later S4.out.below) (HQ.out.later S4.out.below) HLP2.out HLQ2.out HG.out).mono ?_
  rintro e w5 ⟨s5, a5, n5, c5, rfl, hn, hb, hf⟩
  have E5 := Lib.hid hn.1
  have S6 := Lib.hid ((S4.out.ret hb hn.2 hf).put [.int .i64 s5, .slice a5 n5 c5] 26)
  clear hn hb hf S4
  obtain ⟨t4_0, t4_1⟩ := (S6.out.box _ (List.mem_cons_of_mem _ (List.mem_cons_of_mem _ (List.mem_cons_of_mem _ List.mem_cons_self))) : Fb (w.heap.size, 26, [.int .i64 sp, .slice ap np cp]) _).cells2
  obtain ⟨t5_0, t5_1⟩ := (S6.out.box _ List.mem_cons_self : Fb (w5.heap.size, 26, [.int .i64 s5, .slice a5 n5 c5]) _).cells2
  go_wp2_with fail
  clear t4_0 t4_1 t5_0 t5_1
  refine (rdiv_r (HP.out.later S6.out.below) (S6.out.num (v := .slice a5 n5 c5) (z := G) List.mem_cons_self E5.out) HLP2.out HLG.out HGN.out HNU.out).mono ?_
  rintro e w7 ⟨s7, a7, n7, c7, x7, y7, z7, o7, rfl, hn, hm, hb, hf, hg⟩
  have E7 := Lib.hid hn.1
  have F7 : Hid (Fresh w.heap.size (.slice a7 n7 c7)) := hf.mono S6.out.below.size
  have S8 := Lib.hid (((S6.out.ret hb hn.2 hf).put [.int .i64 s7, .slice a7 n7 c7] 26).put' (n := w7.heap.size + 1) (by simp) [.int .i64 x7, .slice y7 z7 o7] 26)
  clear hn hm hb hf hg S6
  obtain ⟨t6_0, t6_1⟩ := (S8.out.box _ (List.mem_cons_of_mem _ (List.mem_cons_of_mem _ (List.mem_cons_of_mem _ (List.mem_cons_of_mem _ List.mem_cons_self)))) : Fb (w.heap.size + 1, 26, [.int .i64 1, .slice aq nq cq]) _).cells2
  obtain ⟨t7_0, t7_1⟩ := (S8.out.box _ (List.mem_cons_of_mem _ (List.mem_cons_of_mem _ List.mem_cons_self)) : Fb (w5.heap.size, 26, [.int .i64 s5, .slice a5 n5 c5]) _).cells2
  go_wp2_with fail
  clear t6_0 t6_1 t7_0 t7_1
  refine (rdiv_r (HQ.out.later S8.out.below) (S8.out.num (v := .slice a5 n5 c5) (z := G) (List.mem_cons_of_mem _ List.mem_cons_self) E5.out) HLQ2.out HLG.out HGN.out HDE.out).mono ?_
  rintro e w9 ⟨s9, a9, n9, c9, x9, y9, z9, o9, rfl, hn, hm, hb, hf, hg⟩
  have E9 := Lib.hid hn.1
  have F9 : Hid (Fresh w.heap.size (.slice a9 n9 c9)) := hf.mono S8.out.below.size
  have S10 := Lib.hid (((S8.out.ret hb hn.2 hf).put [.int .i64 s9, .slice a9 n9 c9] 26).put' (n := w9.heap.size + 1) (by simp) [.int .i64 x9, .slice y9 z9 o9] 26)
  clear hn hm hb hf hg S8
  obtain rfl : s9 = 1 := E9.out.trans (den_sign _)
  obtain ⟨t8_0, t8_1⟩ := (S10.out.box _ (List.mem_cons_of_mem _ (List.mem_cons_of_mem _ (List.mem_cons_of_mem _ List.mem_cons_self))) : Fb (w7.heap.size, 26, [.int .i64 s7, .slice a7 n7 c7]) _).cells2
  obtain ⟨t9_0, t9_1⟩ := (S10.out.box _ (List.mem_cons_of_mem _ List.mem_cons_self) : Fb (w9.heap.size, 26, [.int .i64 1, .slice a9 n9 c9]) _).cells2
  obtain ⟨r0, r1, r2, r3⟩ := (S10.out.box _ (List.mem_cons_of_mem _ (List.mem_cons_of_mem _ (List.mem_cons_of_mem _ (List.mem_cons_of_mem _ (List.mem_cons_of_mem _ List.mem_cons_self))))) : Fb (w.heap.size + 1 + 1, 28, [.int .i64 0, .slice none 0 0, .int .i64 0, .slice none 0 0]) _).cells4
  obtain ⟨f0, f1, f2, f3⟩ := (S10.out.box _ (List.mem_cons_of_mem _ (List.mem_cons_of_mem _ (List.mem_cons_of_mem _ (List.mem_cons_of_mem _ (List.mem_cons_of_mem _ List.mem_cons_self))))) : Fb (w.heap.size + 1 + 1, 28, [.int .i64 0, .slice none 0 0, .int .i64 0, .slice none 0 0]) _).free4
  go_wp2_with fail
  clear t8_0 t8_1 t9_0 t9_1
  have ZZ := Lib.hid (S10.out.set4 (pre := [_, _, _, _, _]) (.int .i64 s7) (.slice a7 n7 c7) (.int .i64 1) (.slice a9 n9 c9))
  exact bodyPost_ret (v := .tuple #[.agg #[.int .i64 s7, .slice a7 n7 c7, .int .i64 1, .slice a9 n9 c9], .int .i64 0]) (by simp [results, Tryz.results63, go_sem, r0, r1, r2, r3]) rfl ⟨_, _, _, _, _, _, _, rfl, ⟨ZZ.out.num (v := .slice a7 n7 c7) (z := r.num) (List.mem_cons_of_mem _ List.mem_cons_self) E7.out, ZZ.out.num (v := .slice a9 n9 c9) (z := (r.den : Int)) List.mem_cons_self (den_sign r).symm⟩, ZZ.out.below, F7.out, F9.out⟩

set_option maxHeartbeats 2000000 in
theorem rfnew_neg {w : World} {sp sq : Int} {ap aq : Option Addr} {np cp nq cq : Nat} {p q : Int} (hp : Num w sp (.slice ap np cp) p) (hq : Num w sq (.slice aq nq cq) q) (lp : Len 100000 p) (lq : Len 100000 q) {r : Rat} (h0 : q < 0) (h : Rat.divInt p q = r) : Calls Tryz.prog 63 #[.agg #[.int .i64 sp, .slice ap np cp], .agg #[.int .i64 sq, .slice aq nq cq]] w (FVE r 0 w) := by
  obtain rfl : sq = (-1) := hq.1.trans (Int.sign_eq_neg_one_of_neg h0)
  have hq0 : q ≠ 0 := by omega
  obtain ⟨G, hG⟩ : ∃ z : Int, ((Nat.gcd ((-p) : Int).natAbs ((-q) : Int).natAbs : Nat) : Int) = z := ⟨_, rfl⟩
  have hGn : G = newG (-p) (-q) := by rw [← hG, newG_pos (by omega)]
  have HNU : Hid (((-p) : Int).fdiv G = r.num) := Lib.hid (by rw [hGn, new_num (by omega), divInt_nn _ _ hq0, h])
  have HDE : Hid (((-q) : Int).fdiv G = (r.den : Int)) := Lib.hid (by rw [hGn, new_den (by omega), divInt_nn _ _ hq0, h])
  have HGN : Hid (G ≠ 0) := Lib.hid (by rw [hGn]; exact newG_ne (by omega))
  have HLP2 : Hid (Len 100000 (-p)) := Len.neg lp
  have HLQ2 : Hid (Len 100000 (-q)) := Len.neg lq
  have HLG : Hid (Len 100000 G) := Len.gcd HLP2.out HLQ2.out hG
  have HG := Lib.hid hG
  have HP := Lib.hid hp
  have HQ := Lib.hid hq
  have HLP := Lib.hid lp
  have HLQ := Lib.hid lq
  have S0 := Lib.hid (((((Sf.start w)).put [.int .i64 sp, .slice ap np cp] 26).put' (n := w.heap.size + 1) (by simp) [.int .i64 (-1), .slice aq nq cq] 26).put' (n := w.heap.size + 1 + 1) (by simp) [.int .i64 0, .slice none 0 0, .int .i64 0, .slice none 0 0] 28)
  clear hp hq lp lq h0 hq0 hG hGn h
  go_enter Tryz.func63, Tryz.ntmps63
  go_wp2_with fail
  refine (rrightN_k (HP.out.later S0.out.below)).mono ?_
  rintro e w1 ⟨rfl, hb⟩
  have S2 := Lib.hid (S0.out.later hb)
  clear hb S0
  obtain ⟨t1_0, t1_1⟩ := (S2.out.box _ (List.mem_cons_of_mem _ List.mem_cons_self) : Fb (w.heap.size + 1, 26, [.int .i64 (-1), .slice aq nq cq]) _).cells2
  go_wp2_with fail
  clear t1_0 t1_1
  refine (rrightN_k (HQ.out.later S2.out.below)).mono ?_
  rintro e w3 ⟨rfl, hb⟩
  have S4 := Lib.hid (S2.out.later hb)
  clear hb S2
  obtain ⟨t2_0, t2_1⟩ := (S4.out.box _ (List.mem_cons_of_mem _ (List.mem_cons_of_mem _ List.mem_cons_self)) : Fb (w.heap.size, 26, [.int .i64 sp, .slice ap np cp]) _).cells2
  obtain ⟨t3_0, t3_1⟩ := (S4.out.box _ (List.mem_cons_of_mem _ List.mem_cons_self) : Fb (w.heap.size + 1, 26, [.int .i64 (-1), .slice aq nq cq]) _).cells2
  go_wp2_with fail
  clear t2_0 t2_1 t3_0 t3_1
  refine (rneg_k (HP.out.later S4.out.below) HLP.out).mono ?_
  rintro e w5 ⟨s5, a5, n5, c5, rfl, hn, hb, hf⟩
  have E5 := Lib.hid hn.1
  have S6 := Lib.hid (S4.out.ret hb hn.2 hf)
  clear hn hb hf S4
  obtain ⟨t4_0, t4_1⟩ := (S6.out.box _ (List.mem_cons_of_mem _ (List.mem_cons_of_mem _ List.mem_cons_self)) : Fb (w.heap.size, 26, [.int .i64 sp, .slice ap np cp]) _).cells2
  obtain ⟨u5_0, u5_1⟩ := (S6.out.box _ (List.mem_cons_of_mem _ (List.mem_cons_of_mem _ List.mem_cons_self)) : Fb (w.heap.size, 26, [.int .i64 sp, .slice ap np cp]) _).free2
  have S7 := Lib.hid (S6.out.set2 (pre := [_, _]) (.int .i64 s5) (.slice a5 n5 c5))
  clear S6
  obtain ⟨t6_0, t6_1⟩ := (S7.out.box _ (List.mem_cons_of_mem _ List.mem_cons_self) : Fb (w.heap.size + 1, 26, [.int .i64 (-1), .slice aq nq cq]) _).cells2
  go_wp2_with fail
  clear t4_0 t4_1 u5_0 u5_1 t6_0 t6_1
  refine (rneg_k (HQ.out.later S7.out.below) HLQ.out).mono ?_
  rintro e w8 ⟨s8, a8, n8, c8, rfl, hn, hb, hf⟩
  have E8 := Lib.hid hn.1
  have S9 := Lib.hid (S7.out.ret hb hn.2 hf)
  clear hn hb hf S7
  obtain ⟨t7_0, t7_1⟩ := (S9.out.box _ (List.mem_cons_of_mem _ List.mem_cons_self) : Fb (w.heap.size + 1, 26, [.int .i64 (-1), .slice aq nq cq]) _).cells2
  obtain ⟨u8_0, u8_1⟩ := (S9.out.box _ (List.mem_cons_of_mem _ List.mem_cons_self) : Fb (w.heap.size + 1, 26, [.int .i64 (-1), .slice aq nq cq]) _).free2
  have S10 := Lib.hid (S9.out.set2 (pre := [_]) (.int .i64 s8) (.slice a8 n8 c8))
  clear S9
  obtain ⟨t9_0, t9_1⟩ := (S10.out.box _ (List.mem_cons_of_mem _ (List.mem_cons_of_mem _ List.mem_cons_self)) : Fb (w.heap.size, 26, [.int .i64 s5, .slice a5 n5 c5]) _).cells2
  obtain ⟨t10_0, t10_1⟩ := (S10.out.box _ (List.mem_cons_of_mem _ List.mem_cons_self) : Fb (w.heap.size + 1, 26, [.int .i64 s8, .slice a8 n8 c8]) _).cells2
  go_wp2_with fail
  clear t7_0 t7_1 u8_0 u8_1 t9_0 t9_1 t10_0 t10_1
  refine (rgcd_z (S10.out.num (v := .slice a5 n5 c5) (z := -p) (List.mem_cons_of_mem _ List.mem_cons_self) E5.out) (S10.out.num (v := .slice a8 n8 c8) (z := -q) List.mem_cons_self E8.out) HLP2.out HLQ2.out HG.out).mono ?_
  rintro e w11 ⟨s11, a11, n11, c11, rfl, hn, hb, hf⟩
  have E11 := Lib.hid hn.1
  have S12 := Lib.hid ((S10.out.ret hb hn.2 hf).put [.int .i64 s11, .slice a11 n11 c11] 26)
  clear hn hb hf S10
  obtain ⟨t11_0, t11_1⟩ := (S12.out.box _ (List.mem_cons_of_mem _ (List.mem_cons_of_mem _ (List.mem_cons_of_mem _ List.mem_cons_self))) : Fb (w.heap.size, 26, [.int .i64 s5, .slice a5 n5 c5]) _).cells2
  obtain ⟨t12_0, t12_1⟩ := (S12.out.box _ List.mem_cons_self : Fb (w11.heap.size, 26, [.int .i64 s11, .slice a11 n11 c11]) _).cells2
  go_wp2_with fail
  clear t11_0 t11_1 t12_0 t12_1
  refine (rdiv_r (S12.out.num (v := .slice a5 n5 c5) (z := -p) (List.mem_cons_of_mem _ (List.mem_cons_of_mem _ List.mem_cons_self)) E5.out) (S12.out.num (v := .slice a11 n11 c11) (z := G) List.mem_cons_self E11.out) HLP2.out HLG.out HGN.out HNU.out).mono ?_
  rintro e w13 ⟨s13, a13, n13, c13, x13, y13, z13, o13, rfl, hn, hm, hb, hf, hg⟩
  have E13 := Lib.hid hn.1
  have F13 : Hid (Fresh w.heap.size (.slice a13 n13 c13)) := hf.mono S12.out.below.size
  have S14 := Lib.hid (((S12.out.ret hb hn.2 hf).put [.int .i64 s13, .slice a13 n13 c13] 26).put' (n := w13.heap.size + 1) (by simp) [.int .i64 x13, .slice y13 z13 o13] 26)
  clear hn hm hb hf hg S12
  obtain ⟨t13_0, t13_1⟩ := (S14.out.box _ (List.mem_cons_of_mem _ (List.mem_cons_of_mem _ (List.mem_cons_of_mem _ (List.mem_cons_of_mem _ List.mem_cons_self)))) : Fb (w.heap.size + 1, 26, [.int .i64 s8, .slice a8 n8 c8]) _).cells2
  obtain ⟨t14_0, t14_1⟩ := (S14.out.box _ (List.mem_cons_of_mem _ (List.mem_cons_of_mem _ List.mem_cons_self)) : Fb (w11.heap.size, 26, [.int .i64 s11, .slice a11 n11 c11]) _).cells2
  go_wp2_with fail
  clear t13_0 t13_1 t14_0 t14_1
  refine (rdiv_r (S14.out.num (v := .slice a8 n8 c8) (z := -q) (List.mem_cons_of_mem _ (List.mem_cons_of_mem _ List.mem_cons_self)) E8.out) (S14.out.num (v := .slice a11 n11 c11) (z := G) (List.mem_cons_of_mem _ List.mem_cons_self) E11.out) HLQ2.out HLG.out HGN.out HDE.out).mono ?_
  rintro e w15 ⟨s15, a15, n15, c15, x15, y15, z15, o15, rfl, hn, hm, hb, hf, hg⟩
  have E15 := Lib.hid hn.1
  have F15 : Hid (Fresh w.heap.size (.slice a15 n15 c15)) := hf.mono S14.out.below.size
  have S16 := Lib.hid (((S14.out.ret hb hn.2 hf).put [.int .i64 s15, .slice a15 n15 c15] 26).put' (n := w15.heap.size + 1) (by simp) [.int .i64 x15, .slice y15 z15 o15] 26)
  clear hn hm hb hf hg S14
  obtain rfl : s15 = 1 := E15.out.trans (den_sign _)
  obtain ⟨t15_0, t15_1⟩ := (S16.out.box _ (List.mem_cons_of_mem _ (List.mem_cons_of_mem _ (List.mem_cons_of_mem _ List.mem_cons_self))) : Fb (w13.heap.size, 26, [.int .i64 s13, .slice a13 n13 c13]) _).cells2
  obtain ⟨t16_0, t16_1⟩ := (S16.out.box _ (List.mem_cons_of_mem _ List.mem_cons_self) : Fb (w15.heap.size, 26, [.int .i64 1, .slice a15 n15 c15]) _).cells2
  obtain ⟨r0, r1, r2, r3⟩ := (S16.out.box _ (List.mem_cons_of_mem _ (List.mem_cons_of_mem _ (List.mem_cons_of_mem _ (List.mem_cons_of_mem _ (List.mem_cons_of_mem _ List.mem_cons_self))))) : Fb (w.heap.size + 1 + 1, 28, [.int .i64 0, .slice none 0 0, .int .i64 0, .slice none 0 0]) _).cells4
  obtain ⟨f0, f1, f2, f3⟩ := (S16.out.box _ (List.mem_cons_of_mem _ (List.mem_cons_of_mem _ (List.mem_cons_of_mem _ (List.mem_cons_of_mem _ (List.mem_cons_of_mem _ List.mem_cons_self))))) : Fb (w.heap.size + 1 + 1, 28, [.int .i64 0, .slice none 0 0, .int .i64 0, .slice none 0 0]) _).free4
  go_wp2_with fail
  clear t15_0 t15_1 t16_0 t16_1
  have ZZ := Lib.hid (S16.out.set4 (pre := [_, _, _, _, _]) (.int .i64 s13) (.slice a13 n13 c13) (.int .i64 1) (.slice a15 n15 c15))
  exact bodyPost_ret (v := .tuple #[.agg #[.int .i64 s13, .slice a13 n13 c13, .int .i64 1, .slice a15 n15 c15], .int .i64 0]) (by simp [results, Tryz.results63, go_sem, r0, r1, r2, r3]) rfl ⟨_, _, _, _, _, _, _, rfl, ⟨ZZ.out.num (v := .slice a13 n13 c13) (z := r.num) (List.mem_cons_of_mem _ List.mem_cons_self) E13.out, ZZ.out.num (v := .slice a15 n15 c15) (z := (r.den : Int)) List.mem_cons_self (den_sign r).symm⟩, ZZ.out.below, F13.out, F15.out⟩

theorem rfnew_r {w : World} {sp sq : Int} {ap aq : Option Addr} {np cp nq cq : Nat} {p q : Int} {r : Rat} (hp : Num w sp (.slice ap np cp) p) (hq : Num w sq (.slice aq nq cq) q) (lp : Len 100000 p) (lq : Len 100000 q) (h0 : q ≠ 0) (h : Rat.divInt p q = r) : Calls Tryz.prog 63 #[.agg #[.int .i64 sp, .slice ap np cp], .agg #[.int .i64 sq, .slice aq nq cq]] w (FVE r 0 w) := by
  rcases Int.lt_or_gt_of_ne h0 with h1 | h1
  · exact rfnew_neg hp hq lp lq h1 h
  · exact rfnew_pos hp hq lp lq h1 h

end Go.Proofs.YtmhdhabgdlefjaaGreatDoor.Bi

namespace Go.Proofs.YtmhdhabgdlefjaaGreatDoor.Bi
open Go.RowKit

set_option maxHeartbeats 1000000 in
theorem rfof_k (p q : Int) (hp : -9223372036854775808 ≤ p ∧ p ≤ 9223372036854775807) (hq : -9223372036854775808 ≤ q ∧ q ≤ 9223372036854775807) (h0 : q ≠ 0) (w : World) : Calls Tryz.prog 32 #[.int .i64 p, .int .i64 q] w (FVE (Rat.divInt p q) 0 w) := by
  have HP := Lib.hid hp
  have HQ := Lib.hid hq
  have H0 := Lib.hid h0
  have LP : Hid (Len 100000 p) := Len.of (by omega)
  have LQ : Hid (Len 100000 q) := Len.of (by omega)
  have S0 := Lib.hid ((Sf.start w).put [.int .i64 0, .slice none 0 0, .int .i64 0, .slice none 0 0] 28)
  clear hp hq h0
  go_enter Tryz.func32, Tryz.ntmps32
  go_wp2_with fail
  refine (rof_k p HP.out _).mono ?_
  rintro e w1 ⟨g0, p0, k0, j0, rfl, hn, hb, hf⟩
  have T1 := Lib.hid (S0.out.ret hb hn.2 hf)
  have E0 := Lib.hid hn.1
  clear hn hb hf S0
  go_wp2_with fail
  refine (rof_k q HQ.out _).mono ?_
  rintro e w1' ⟨g1, p1, k1, j1, rfl, hn, hb, hf⟩
  have T1' := Lib.hid (T1.out.ret hb hn.2 hf)
  have E1 := Lib.hid hn.1
  clear hn hb hf T1
  go_wp2_with fail
  refine (rfnew_r (T1'.out.num (v := .slice p0 k0 j0) (z := p) (List.mem_cons_of_mem _ List.mem_cons_self) E0.out) (T1'.out.num (v := .slice p1 k1 j1) (z := q) List.mem_cons_self E1.out) LP.out LQ.out H0.out rfl).mono ?_
  rintro e w2 ⟨s9, a9, n9, c9, b9, m9, d9, rfl, hr, hb, hf, hg⟩
  have T2 := Lib.hid (T1'.out.ret2 hb hr.1.2 hf hr.2.2 hg)
  have E9 := Lib.hid hr.1.1
  have F9 := Lib.hid (hf.mono T1'.out.below.size)
  have G9 := Lib.hid (hg.mono T1'.out.below.size)
  clear hr hb hf hg T1'
  have yr : Fb (w.heap.size, 28, [.int .i64 0, .slice none 0 0, .int .i64 0, .slice none 0 0]) _ := T2.out.box _ List.mem_cons_self
  obtain ⟨r0, r1, r2, r3⟩ := yr.cells4
  obtain ⟨f0, f1, f2, f3⟩ := yr.free4
  clear yr
  go_wp2_with fail
  have T3 := Lib.hid (T2.out.set4 (pre := []) (.int .i64 s9) (.slice a9 n9 c9) (.int .i64 1) (.slice b9 m9 d9))
  exact bodyPost_ret (v := .tuple #[.agg #[.int .i64 s9, .slice a9 n9 c9, .int .i64 1, .slice b9 m9 d9], .int .i64 0]) (by simp [results, Tryz.results32, go_sem, r0, r1, r2, r3]) rfl
    ⟨_, _, _, _, _, _, _, rfl, ⟨T3.out.num (v := .slice a9 n9 c9) (z := (Rat.divInt p q).num) List.mem_cons_self E9.out, T3.out.num (v := .slice b9 m9 d9) (z := ((Rat.divInt p q).den : Int)) (List.mem_cons_of_mem _ List.mem_cons_self) (den_sign _).symm⟩, T3.out.below, F9.out, G9.out⟩

theorem rfof_r {r : Rat} (p q : Int) (hp : -9223372036854775808 ≤ p ∧ p ≤ 9223372036854775807) (hq : -9223372036854775808 ≤ q ∧ q ≤ 9223372036854775807) (h0 : q ≠ 0) (h : Rat.divInt p q = r) (w : World) : Calls Tryz.prog 32 #[.int .i64 p, .int .i64 q] w (FVE r 0 w) := by subst h; exact rfof_k p q hp hq h0 w

set_option maxHeartbeats 2000000 in
theorem rfint_k (z : Int) (h : -9223372036854775808 ≤ z ∧ z ≤ 9223372036854775807) (w : World) : Calls Tryz.prog 30 #[.int .i64 z] w (FV (z : Rat) w) := by
  have H := Lib.hid h
  have H1 : Hid (-9223372036854775808 ≤ (1 : Int) ∧ (1 : Int) ≤ 9223372036854775807) := ⟨by omega, by omega⟩
  have H2 : Hid ((1 : Int) ≠ 0) := Lib.hid (by omega)
  have S0 := Lib.hid (((Sf.start w)).put [.int .i64 0, .slice none 0 0, .int .i64 0, .slice none 0 0] 28)
  clear h
  go_enter Tryz.func30, Tryz.ntmps30
  go_wp2_with fail
  refine (rfof_r z 1 H.out H1.out H2.out (rat_int z) _).mono ?_
  rintro e w1 ⟨s1, a1, n1, c1, b1, m1, d1, rfl, hr, hb, hf, hg⟩
  have E1 := Lib.hid hr.1.1
  have HFR : Hid (Fresh w.heap.size (.slice a1 n1 c1) ∧ Fresh w.heap.size (.slice b1 m1 d1)) := ⟨hf.mono S0.out.below.size, hg.mono S0.out.below.size⟩
  have S2 := Lib.hid ((S0.out.ret2 hb hr.1.2 hf hr.2.2 hg).put [.int .i64 s1, .slice a1 n1 c1, .int .i64 1, .slice b1 m1 d1] 28)
  clear hr hb hf hg S0
  obtain ⟨t1_0, t1_1, t1_2, t1_3⟩ := (S2.out.box _ List.mem_cons_self : Fb (w1.heap.size, 28, [.int .i64 s1, .slice a1 n1 c1, .int .i64 1, .slice b1 m1 d1]) _).cells4
  obtain ⟨r0, r1, r2, r3⟩ := (S2.out.box _ (List.mem_cons_of_mem _ List.mem_cons_self) : Fb (w.heap.size, 28, [.int .i64 0, .slice none 0 0, .int .i64 0, .slice none 0 0]) _).cells4
  obtain ⟨f0, f1, f2, f3⟩ := (S2.out.box _ (List.mem_cons_of_mem _ List.mem_cons_self) : Fb (w.heap.size, 28, [.int .i64 0, .slice none 0 0, .int .i64 0, .slice none 0 0]) _).free4
  go_wp2_with fail
  clear t1_0 t1_1 t1_2 t1_3
  have ZZ := Lib.hid (S2.out.set4 (pre := [_]) (.int .i64 s1) (.slice a1 n1 c1) (.int .i64 1) (.slice b1 m1 d1))
  exact bodyPost_ret (v := .agg #[.int .i64 s1, .slice a1 n1 c1, .int .i64 1, .slice b1 m1 d1]) (by simp [results, Tryz.results30, go_sem, r0, r1, r2, r3]) rfl ⟨_, _, _, _, _, _, _, rfl, ⟨ZZ.out.num (v := .slice a1 n1 c1) (z := ((z : Rat)).num) List.mem_cons_self E1.out, ZZ.out.num (v := .slice b1 m1 d1) (z := (((z : Rat)).den : Int)) (List.mem_cons_of_mem _ List.mem_cons_self) (den_sign _).symm⟩, ZZ.out.below, HFR.out.1, HFR.out.2⟩

end Go.Proofs.YtmhdhabgdlefjaaGreatDoor.Bi
