/- kitbagref04 as laws use it; whether a fraction is valid, by the reference. WRITTEN by frac/gen_ft.py. frac and kitbagref05 at arguments that are not valid. WRITTEN by frac/gen_ft.py. New, and the four operations, of kitbagref05, at valid fractions. WRITTEN by frac/gen_ft.py. Neg, Sign, Floor, Text, Min, Max, Of, Int of kitbagref05. WRITTEN by frac/gen_ft.py. Spans: intervals of rationals, and the smallest interval around an operation's results. Plain mathematics, no program. What the laws of span say of intervals. Plain mathematics, no program. -/
import Derived.Test.YtgncnkojpedmdaaPA18
import Derived.Test.YtgncnkojpedmdaaPA20
import Derived.Test.YtgncnkojpedmdaaPA16
set_option maxRecDepth 100000
namespace Go.Proofs.Ytgncnkojpedmdaa.Bi
open Go.RowKit

section
variable {w : World} {sa sb : Int} {va vb : Value} {a b : Int}
theorem rof_k (z : Int) (h : -9223372036854775808 ≤ z ∧ z ≤ 9223372036854775807) (w : World) : Calls Try.prog 54 #[.int .i64 z] w (BV z w) := (rof_any z h.1 h.2 w).mono fun _ _ h => h.bv
theorem rdiv_k (ha : Num w sa va a) (hb : Num w sb vb b) (la : Len 100000 a) (lb : Len 100000 b) (h0 : b ≠ 0) : Calls Try.prog 70 #[.agg #[.int .i64 sa, va], .agg #[.int .i64 sb, vb]] w (BVD (a.fdiv b) (a.fmod b) 0 w) :=
  (rdiv_ok _ _ a b w ha.isb hb.isb (Nat.le_trans la (by omega)) (Nat.le_trans lb (by omega)) h0).mono fun _ _ h => h.bvd
theorem rgcd_z (ha : Num w sa va a) (hb : Num w sb vb b) (la : Len 100000 a) (lb : Len 100000 b) {z : Int} (h : ((Nat.gcd a.natAbs b.natAbs : Nat) : Int) = z) : Calls Try.prog 69 #[.agg #[.int .i64 sa, va], .agg #[.int .i64 sb, vb]] w (BVE z 0 w) := by
  subst h; exact (rgcd_ok _ _ a b w ha.isb hb.isb (Nat.le_trans la (by omega)) (Nat.le_trans lb (by omega))).mono fun _ _ h => h.bve
theorem rneg_k (ha : Num w sa va a) (la : Len 100000 a) : Calls Try.prog 68 #[.agg #[.int .i64 sa, va]] w (BV (-a) w) := (rneg_ok _ a w ha.isb (Nat.le_trans la (by omega))).mono fun _ _ h => h.bv
theorem rrightN_k (ha : Num w sa va a) : Calls Try.prog 67 #[.agg #[.int .i64 sa, va]] w fun e w' => e = .returned (.bool true) ∧ RowKit.Below w.heap.size w w' := risb_any ha.isb
end
end Go.Proofs.Ytgncnkojpedmdaa.Bi

namespace Go.Proofs.Ytgncnkojpedmdaa.Bi
open Go.RowKit

set_option maxHeartbeats 2000000 in
theorem fcmp_bad (sa : Int) (aa : Option Addr) (na ca : Nat) (la : List Int) (ta : Int) (ba : Option Addr) (ma da : Nat) (ka : List Int) (sb : Int) (ab : Option Addr) (nb cb : Nat) (lb : List Int) (tb : Int) (bb : Option Addr) (mb db : Nat) (kb : List Int) (w : World) (ha : Ints w (.slice aa na ca) la) (ga : Ints w (.slice ba ma da) ka) (ua : la.length ≤ 100000) (va : ka.length ≤ 100000) (hb : Ints w (.slice ab nb cb) lb) (gb : Ints w (.slice bb mb db) kb) (ub : lb.length ≤ 100000) (vb : kb.length ≤ 100000) (hr : (fRightB sa la ta ka && fRightB sb lb tb kb) = false) :
    Calls Try.prog 38 #[.agg #[.int .i64 sa, .slice aa na ca, .int .i64 ta, .slice ba ma da], .agg #[.int .i64 sb, .slice ab nb cb, .int .i64 tb, .slice bb mb db]] w (fun e w' => e = .returned (.int .i64 0) ∧ RowKit.Below w.heap.size w w') := by
  have S0 := Lib.hid ((((Sf.start w)).put [.int .i64 sa, .slice aa na ca, .int .i64 ta, .slice ba ma da] 26).put' (n := w.heap.size + 1) (by simp) [.int .i64 sb, .slice ab nb cb, .int .i64 tb, .slice bb mb db] 26)
  have Ha := Lib.hid ha
  have Ga := Lib.hid ga
  have Ua := Lib.hid ua
  have Va := Lib.hid va
  have Hb := Lib.hid hb
  have Gb := Lib.hid gb
  have Ub := Lib.hid ub
  have Vb := Lib.hid vb
  rcases ea : fRightB sa la ta ka with _ | _
  · have Ea := Lib.hid ea
    clear ha ga ua va hb gb ub vb hr ea
    go_enter Try.func38, Try.ntmps38
    go_wp2_with fail
    refine (fright_any sa aa na ca la ta ba ma da ka _ (Ha.out.later S0.out.below) (Ga.out.later S0.out.below) Ua.out Va.out false Ea.out).mono ?_
    rintro e w1 ⟨rfl, hb⟩
    have S1 := Lib.hid (S0.out.later hb)
    clear hb S0
    go_wp2_with fail
    go_ret
    exact ⟨rfl, S1.out.below⟩
  · have eb : fRightB sb lb tb kb = false := by rw [ea] at hr; simpa using hr
    have Ea := Lib.hid ea
    have Eb := Lib.hid eb
    clear ha ga ua va hb gb ub vb hr ea eb
    go_enter Try.func38, Try.ntmps38
    go_wp2_with fail
    refine (fright_any sa aa na ca la ta ba ma da ka _ (Ha.out.later S0.out.below) (Ga.out.later S0.out.below) Ua.out Va.out true Ea.out).mono ?_
    rintro e w1 ⟨rfl, hb⟩
    have S1 := Lib.hid (S0.out.later hb)
    clear hb S0
    obtain ⟨q0, q1, q2, q3⟩ := (S1.out.box _ List.mem_cons_self : Fb (w.heap.size + 1, 26, [.int .i64 sb, .slice ab nb cb, .int .i64 tb, .slice bb mb db]) _).cells4
    go_wp2_with fail
    clear q0 q1 q2 q3
    refine (fright_any sb ab nb cb lb tb bb mb db kb _ (Hb.out.later S1.out.below) (Gb.out.later S1.out.below) Ub.out Vb.out false Eb.out).mono ?_
    rintro e w2 ⟨rfl, hb⟩
    have S2 := Lib.hid (S1.out.later hb)
    clear hb S1
    go_wp2_with fail
    go_ret
    exact ⟨rfl, S2.out.below⟩

end Go.Proofs.Ytgncnkojpedmdaa.Bi

namespace Go.Proofs.Ytgncnkojpedmdaa.Bi
open Go.RowKit

theorem rdiv_r {w : World} {sa sb : Int} {va vb : Value} {a b z : Int} (ha : Num w sa va a) (hb : Num w sb vb b) (la : Len 100000 a) (lb : Len 100000 b) (h0 : b ≠ 0) (h : a.fdiv b = z) : Calls Try.prog 70 #[.agg #[.int .i64 sa, va], .agg #[.int .i64 sb, vb]] w (BVD z (a.fmod b) 0 w) := by
  subst h; exact rdiv_k ha hb la lb h0
theorem divInt_nn (p q : Int) (hq : q ≠ 0) : Rat.divInt (-p) (-q) = Rat.divInt p q := by
  rw [Rat.divInt_eq_divInt_iff (by omega) hq, Int.neg_mul, Int.mul_neg]

set_option maxHeartbeats 2000000 in
theorem rfnew_pos {w : World} {sp sq : Int} {ap aq : Option Addr} {np cp nq cq : Nat} {p q : Int} (hp : Num w sp (.slice ap np cp) p) (hq : Num w sq (.slice aq nq cq) q) (lp : Len 100000 p) (lq : Len 100000 q) {r : Rat} (h0 : 0 < q) (h : Rat.divInt p q = r) : Calls Try.prog 53 #[.agg #[.int .i64 sp, .slice ap np cp], .agg #[.int .i64 sq, .slice aq nq cq]] w (FVE r 0 w) := by
  obtain rfl : sq = 1 := hq.1.trans (Int.sign_eq_one_of_pos h0)
  have hq0 : q ≠ 0 := by omega
  obtain ⟨G, hG⟩ : ∃ z : Int, ((Nat.gcd (p : Int).natAbs (q : Int).natAbs : Nat) : Int) = z := ⟨_, rfl⟩
  have hGn : G = newG p q := by rw [← hG, newG_pos (by omega)]
  have HNU : Hid ((p : Int).fdiv G = r.num) := Lib.hid (by rw [hGn, new_num (by omega), h])
  have HDE : Hid ((q : Int).fdiv G = (r.den : Int)) := Lib.hid (by rw [hGn, new_den (by omega), h])
  have HGN : Hid (G ≠ 0) := Lib.hid (by rw [hGn]; exact newG_ne (by omega))
  have HLP2 : Hid (Len 100000 p) := lp
  have HLQ2 : Hid (Len 100000 q) := lq
  have HLG : Hid (Len 100000 G) := Len.gcd HLP2.out HLQ2.out hG
  have HG := Lib.hid hG
  have HP := Lib.hid hp
  have HQ := Lib.hid hq
  have HLP := Lib.hid lp
  have HLQ := Lib.hid lq
  have S0 := Lib.hid (((((Sf.start w)).put [.int .i64 sp, .slice ap np cp] 24).put' (n := w.heap.size + 1) (by simp) [.int .i64 1, .slice aq nq cq] 24).put' (n := w.heap.size + 1 + 1) (by simp) [.int .i64 0, .slice none 0 0, .int .i64 0, .slice none 0 0] 26)
  clear hp hq lp lq h0 hq0 hG hGn h
  go_enter Try.func53, Try.ntmps53
  go_wp2_with fail
  refine (rrightN_k (HP.out.later S0.out.below)).mono ?_
  rintro e w1 ⟨rfl, hb⟩
  have S2 := Lib.hid (S0.out.later hb)
  clear hb S0
  obtain ⟨t1_0, t1_1⟩ := (S2.out.box _ (List.mem_cons_of_mem _ List.mem_cons_self) : Fb (w.heap.size + 1, 24, [.int .i64 1, .slice aq nq cq]) _).cells2
  go_wp2_with fail
  clear t1_0 t1_1
  refine (rrightN_k (HQ.out.later S2.out.below)).mono ?_
  rintro e w3 ⟨rfl, hb⟩
  have S4 := Lib.hid (S2.out.later hb)
  clear hb S2
  obtain ⟨t2_0, t2_1⟩ := (S4.out.box _ (List.mem_cons_of_mem _ (List.mem_cons_of_mem _ List.mem_cons_self)) : Fb (w.heap.size, 24, [.int .i64 sp, .slice ap np cp]) _).cells2
  obtain ⟨t3_0, t3_1⟩ := (S4.out.box _ (List.mem_cons_of_mem _ List.mem_cons_self) : Fb (w.heap.size + 1, 24, [.int .i64 1, .slice aq nq cq]) _).cells2
  go_wp2_with fail
  clear t2_0 t2_1 t3_0 t3_1
  refine (rgcd_z (HP.out.later S4.out.below) (HQ.out.later S4.out.below) HLP2.out HLQ2.out HG.out).mono ?_
  rintro e w5 ⟨s5, a5, n5, c5, rfl, hn, hb, hf⟩
  have E5 := Lib.hid hn.1
  have S6 := Lib.hid ((S4.out.ret hb hn.2 hf).put [.int .i64 s5, .slice a5 n5 c5] 24)
  clear hn hb hf S4
  obtain ⟨t4_0, t4_1⟩ := (S6.out.box _ (List.mem_cons_of_mem _ (List.mem_cons_of_mem _ (List.mem_cons_of_mem _ List.mem_cons_self))) : Fb (w.heap.size, 24, [.int .i64 sp, .slice ap np cp]) _).cells2
  obtain ⟨t5_0, t5_1⟩ := (S6.out.box _ List.mem_cons_self : Fb (w5.heap.size, 24, [.int .i64 s5, .slice a5 n5 c5]) _).cells2
  go_wp2_with fail
  clear t4_0 t4_1 t5_0 t5_1
  refine (rdiv_r (HP.out.later S6.out.below) (S6.out.num (v := .slice a5 n5 c5) (z := G) List.mem_cons_self E5.out) HLP2.out HLG.out HGN.out HNU.out).mono ?_
  rintro e w7 ⟨s7, a7, n7, c7, x7, y7, z7, o7, rfl, hn, hm, hb, hf, hg⟩
  have E7 := Lib.hid hn.1
  have F7 : Hid (Fresh w.heap.size (.slice a7 n7 c7)) := hf.mono S6.out.below.size
  have S8 := Lib.hid (((S6.out.ret hb hn.2 hf).put [.int .i64 s7, .slice a7 n7 c7] 24).put' (n := w7.heap.size + 1) (by simp) [.int .i64 x7, .slice y7 z7 o7] 24)
  clear hn hm hb hf hg S6
  obtain ⟨t6_0, t6_1⟩ := (S8.out.box _ (List.mem_cons_of_mem _ (List.mem_cons_of_mem _ (List.mem_cons_of_mem _ (List.mem_cons_of_mem _ List.mem_cons_self)))) : Fb (w.heap.size + 1, 24, [.int .i64 1, .slice aq nq cq]) _).cells2
  obtain ⟨t7_0, t7_1⟩ := (S8.out.box _ (List.mem_cons_of_mem _ (List.mem_cons_of_mem _ List.mem_cons_self)) : Fb (w5.heap.size, 24, [.int .i64 s5, .slice a5 n5 c5]) _).cells2
  go_wp2_with fail
  clear t6_0 t6_1 t7_0 t7_1
  refine (rdiv_r (HQ.out.later S8.out.below) (S8.out.num (v := .slice a5 n5 c5) (z := G) (List.mem_cons_of_mem _ List.mem_cons_self) E5.out) HLQ2.out HLG.out HGN.out HDE.out).mono ?_
  rintro e w9 ⟨s9, a9, n9, c9, x9, y9, z9, o9, rfl, hn, hm, hb, hf, hg⟩
  have E9 := Lib.hid hn.1
  have F9 : Hid (Fresh w.heap.size (.slice a9 n9 c9)) := hf.mono S8.out.below.size
  have S10 := Lib.hid (((S8.out.ret hb hn.2 hf).put [.int .i64 s9, .slice a9 n9 c9] 24).put' (n := w9.heap.size + 1) (by simp) [.int .i64 x9, .slice y9 z9 o9] 24)
  clear hn hm hb hf hg S8
  obtain rfl : s9 = 1 := E9.out.trans (den_sign _)
  obtain ⟨t8_0, t8_1⟩ := (S10.out.box _ (List.mem_cons_of_mem _ (List.mem_cons_of_mem _ (List.mem_cons_of_mem _ List.mem_cons_self))) : Fb (w7.heap.size, 24, [.int .i64 s7, .slice a7 n7 c7]) _).cells2
  obtain ⟨t9_0, t9_1⟩ := (S10.out.box _ (List.mem_cons_of_mem _ List.mem_cons_self) : Fb (w9.heap.size, 24, [.int .i64 1, .slice a9 n9 c9]) _).cells2
  obtain ⟨r0, r1, r2, r3⟩ := (S10.out.box _ (List.mem_cons_of_mem _ (List.mem_cons_of_mem _ (List.mem_cons_of_mem _ (List.mem_cons_of_mem _ (List.mem_cons_of_mem _ List.mem_cons_self))))) : Fb (w.heap.size + 1 + 1, 26, [.int .i64 0, .slice none 0 0, .int .i64 0, .slice none 0 0]) _).cells4
  obtain ⟨f0, f1, f2, f3⟩ := (S10.out.box _ (List.mem_cons_of_mem _ (List.mem_cons_of_mem _ (List.mem_cons_of_mem _ (List.mem_cons_of_mem _ (List.mem_cons_of_mem _ List.mem_cons_self))))) : Fb (w.heap.size + 1 + 1, 26, [.int .i64 0, .slice none 0 0, .int .i64 0, .slice none 0 0]) _).free4
  go_wp2_with fail
  clear t8_0 t8_1 t9_0 t9_1
  have ZZ := Lib.hid (S10.out.set4 (pre := [_, _, _, _, _]) (.int .i64 s7) (.slice a7 n7 c7) (.int .i64 1) (.slice a9 n9 c9))
  exact bodyPost_ret (v := .tuple #[.agg #[.int .i64 s7, .slice a7 n7 c7, .int .i64 1, .slice a9 n9 c9], .int .i64 0]) (by simp [results, Try.results53, go_sem, r0, r1, r2, r3]) rfl ⟨_, _, _, _, _, _, _, rfl, ⟨ZZ.out.num (v := .slice a7 n7 c7) (z := r.num) (List.mem_cons_of_mem _ List.mem_cons_self) E7.out, ZZ.out.num (v := .slice a9 n9 c9) (z := (r.den : Int)) List.mem_cons_self (den_sign r).symm⟩, ZZ.out.below, F7.out, F9.out⟩

set_option maxHeartbeats 2000000 in
theorem rfnew_neg {w : World} {sp sq : Int} {ap aq : Option Addr} {np cp nq cq : Nat} {p q : Int} (hp : Num w sp (.slice ap np cp) p) (hq : Num w sq (.slice aq nq cq) q) (lp : Len 100000 p) (lq : Len 100000 q) {r : Rat} (h0 : q < 0) (h : Rat.divInt p q = r) : Calls Try.prog 53 #[.agg #[.int .i64 sp, .slice ap np cp], .agg #[.int .i64 sq, .slice aq nq cq]] w (FVE r 0 w) := by
  obtain rfl : sq = (-1) := hq.1.trans (Int.sign_eq_neg_one_of_neg h0)
  have hq0 : q ≠ 0 := by omega
  obtain ⟨G, hG⟩ : ∃ z : Int, ((Nat.gcd ((-p) : Int).natAbs ((-q) : Int).natAbs : Nat) : Int) = z := ⟨_, rfl⟩
  have hGn : G = newG (-p) (-q) := by rw [← hG, newG_pos (by omega)]
  have HNU : Hid (((-p) : Int).fdiv G = r.num) := Lib.hid (by rw [hGn, new_num (by omega), divInt_nn _ _ hq0, h])
  have HDE : Hid (((-q) : Int).fdiv G = (r.den : Int)) := Lib.hid (by rw [hGn, new_den (by omega), divInt_nn _ _ hq0, h])
  have HGN : Hid (G ≠ 0) := Lib.hid (by rw [hGn]; exact newG_ne (by omega))
  have HLP2 : Hid (Len 100000 (-p)) := Len.neg lp
  have HLQ2 : Hid (Len 100000 (-q)) := Len.neg lq
  have HLG : Hid (Len 100000 G) := Len.gcd HLP2.out HLQ2.out hG
  have HG := Lib.hid hG
  have HP := Lib.hid hp
  have HQ := Lib.hid hq
  have HLP := Lib.hid lp
  have HLQ := Lib.hid lq
  have S0 := Lib.hid (((((Sf.start w)).put [.int .i64 sp, .slice ap np cp] 24).put' (n := w.heap.size + 1) (by simp) [.int .i64 (-1), .slice aq nq cq] 24).put' (n := w.heap.size + 1 + 1) (by simp) [.int .i64 0, .slice none 0 0, .int .i64 0, .slice none 0 0] 26)
  clear hp hq lp lq h0 hq0 hG hGn h
  go_enter Try.func53, Try.ntmps53
  go_wp2_with fail
  refine (rrightN_k (HP.out.later S0.out.below)).mono ?_
  rintro e w1 ⟨rfl, hb⟩
  have S2 := Lib.hid (S0.out.later hb)
  clear hb S0
  obtain ⟨t1_0, t1_1⟩ := (S2.out.box _ (List.mem_cons_of_mem _ List.mem_cons_self) : Fb (w.heap.size + 1, 24, [.int .i64 (-1), .slice aq nq cq]) _).cells2
  go_wp2_with fail
  clear t1_0 t1_1
  refine (rrightN_k (HQ.out.later S2.out.below)).mono ?_
  rintro e w3 ⟨rfl, hb⟩
  have S4 := Lib.hid (S2.out.later hb)
  clear hb S2
  obtain ⟨t2_0, t2_1⟩ := (S4.out.box _ (List.mem_cons_of_mem _ (List.mem_cons_of_mem _ List.mem_cons_self)) : Fb (w.heap.size, 24, [.int .i64 sp, .slice ap np cp]) _).cells2
  obtain ⟨t3_0, t3_1⟩ := (S4.out.box _ (List.mem_cons_of_mem _ List.mem_cons_self) : Fb (w.heap.size + 1, 24, [.int .i64 (-1), .slice aq nq cq]) _).cells2
  go_wp2_with fail
  clear t2_0 t2_1 t3_0 t3_1
  refine (rneg_k (HP.out.later S4.out.below) HLP.out).mono ?_
  rintro e w5 ⟨s5, a5, n5, c5, rfl, hn, hb, hf⟩
  have E5 := Lib.hid hn.1
  have S6 := Lib.hid (S4.out.ret hb hn.2 hf)
  clear hn hb hf S4
  obtain ⟨t4_0, t4_1⟩ := (S6.out.box _ (List.mem_cons_of_mem _ (List.mem_cons_of_mem _ List.mem_cons_self)) : Fb (w.heap.size, 24, [.int .i64 sp, .slice ap np cp]) _).cells2
  obtain ⟨u5_0, u5_1⟩ := (S6.out.box _ (List.mem_cons_of_mem _ (List.mem_cons_of_mem _ List.mem_cons_self)) : Fb (w.heap.size, 24, [.int .i64 sp, .slice ap np cp]) _).free2
  have S7 := Lib.hid (S6.out.set2 (pre := [_, _]) (.int .i64 s5) (.slice a5 n5 c5))
  clear S6
  obtain ⟨t6_0, t6_1⟩ := (S7.out.box _ (List.mem_cons_of_mem _ List.mem_cons_self) : Fb (w.heap.size + 1, 24, [.int .i64 (-1), .slice aq nq cq]) _).cells2
  go_wp2_with fail
  clear t4_0 t4_1 u5_0 u5_1 t6_0 t6_1
  refine (rneg_k (HQ.out.later S7.out.below) HLQ.out).mono ?_
  rintro e w8 ⟨s8, a8, n8, c8, rfl, hn, hb, hf⟩
  have E8 := Lib.hid hn.1
  have S9 := Lib.hid (S7.out.ret hb hn.2 hf)
  clear hn hb hf S7
  obtain ⟨t7_0, t7_1⟩ := (S9.out.box _ (List.mem_cons_of_mem _ List.mem_cons_self) : Fb (w.heap.size + 1, 24, [.int .i64 (-1), .slice aq nq cq]) _).cells2
  obtain ⟨u8_0, u8_1⟩ := (S9.out.box _ (List.mem_cons_of_mem _ List.mem_cons_self) : Fb (w.heap.size + 1, 24, [.int .i64 (-1), .slice aq nq cq]) _).free2
  have S10 := Lib.hid (S9.out.set2 (pre := [_]) (.int .i64 s8) (.slice a8 n8 c8))
  clear S9
  obtain ⟨t9_0, t9_1⟩ := (S10.out.box _ (List.mem_cons_of_mem _ (List.mem_cons_of_mem _ List.mem_cons_self)) : Fb (w.heap.size, 24, [.int .i64 s5, .slice a5 n5 c5]) _).cells2
  obtain ⟨t10_0, t10_1⟩ := (S10.out.box _ (List.mem_cons_of_mem _ List.mem_cons_self) : Fb (w.heap.size + 1, 24, [.int .i64 s8, .slice a8 n8 c8]) _).cells2
  go_wp2_with fail
  clear t7_0 t7_1 u8_0 u8_1 t9_0 t9_1 t10_0 t10_1
  refine (rgcd_z (S10.out.num (v := .slice a5 n5 c5) (z := -p) (List.mem_cons_of_mem _ List.mem_cons_self) E5.out) (S10.out.num (v := .slice a8 n8 c8) (z := -q) List.mem_cons_self E8.out) HLP2.out HLQ2.out HG.out).mono ?_
  rintro e w11 ⟨s11, a11, n11, c11, rfl, hn, hb, hf⟩
  have E11 := Lib.hid hn.1
  have S12 := Lib.hid ((S10.out.ret hb hn.2 hf).put [.int .i64 s11, .slice a11 n11 c11] 24)
  clear hn hb hf S10
  obtain ⟨t11_0, t11_1⟩ := (S12.out.box _ (List.mem_cons_of_mem _ (List.mem_cons_of_mem _ (List.mem_cons_of_mem _ List.mem_cons_self))) : Fb (w.heap.size, 24, [.int .i64 s5, .slice a5 n5 c5]) _).cells2
  obtain ⟨t12_0, t12_1⟩ := (S12.out.box _ List.mem_cons_self : Fb (w11.heap.size, 24, [.int .i64 s11, .slice a11 n11 c11]) _).cells2
  go_wp2_with fail
  clear t11_0 t11_1 t12_0 t12_1
  refine (rdiv_r (S12.out.num (v := .slice a5 n5 c5) (z := -p) (List.mem_cons_of_mem _ (List.mem_cons_of_mem _ List.mem_cons_self)) E5.out) (S12.out.num (v := .slice a11 n11 c11) (z := G) List.mem_cons_self E11.out) HLP2.out HLG.out HGN.out HNU.out).mono ?_
  rintro e w13 ⟨s13, a13, n13, c13, x13, y13, z13, o13, rfl, hn, hm, hb, hf, hg⟩
  have E13 := Lib.hid hn.1
  have F13 : Hid (Fresh w.heap.size (.slice a13 n13 c13)) := hf.mono S12.out.below.size
  have S14 := Lib.hid (((S12.out.ret hb hn.2 hf).put [.int .i64 s13, .slice a13 n13 c13] 24).put' (n := w13.heap.size + 1) (by simp) [.int .i64 x13, .slice y13 z13 o13] 24)
  clear hn hm hb hf hg S12
  obtain ⟨t13_0, t13_1⟩ := (S14.out.box _ (List.mem_cons_of_mem _ (List.mem_cons_of_mem _ (List.mem_cons_of_mem _ (List.mem_cons_of_mem _ List.mem_cons_self)))) : Fb (w.heap.size + 1, 24, [.int .i64 s8, .slice a8 n8 c8]) _).cells2
  obtain ⟨t14_0, t14_1⟩ := (S14.out.box _ (List.mem_cons_of_mem _ (List.mem_cons_of_mem _ List.mem_cons_self)) : Fb (w11.heap.size, 24, [.int .i64 s11, .slice a11 n11 c11]) _).cells2
  go_wp2_with fail
  clear t13_0 t13_1 t14_0 t14_1
  refine (rdiv_r (S14.out.num (v := .slice a8 n8 c8) (z := -q) (List.mem_cons_of_mem _ (List.mem_cons_of_mem _ List.mem_cons_self)) E8.out) (S14.out.num (v := .slice a11 n11 c11) (z := G) (List.mem_cons_of_mem _ List.mem_cons_self) E11.out) HLQ2.out HLG.out HGN.out HDE.out).mono ?_
  rintro e w15 ⟨s15, a15, n15, c15, x15, y15, z15, o15, rfl, hn, hm, hb, hf, hg⟩
  have E15 := Lib.hid hn.1
  have F15 : Hid (Fresh w.heap.size (.slice a15 n15 c15)) := hf.mono S14.out.below.size
  have S16 := Lib.hid (((S14.out.ret hb hn.2 hf).put [.int .i64 s15, .slice a15 n15 c15] 24).put' (n := w15.heap.size + 1) (by simp) [.int .i64 x15, .slice y15 z15 o15] 24)
  clear hn hm hb hf hg S14
  obtain rfl : s15 = 1 := E15.out.trans (den_sign _)
  obtain ⟨t15_0, t15_1⟩ := (S16.out.box _ (List.mem_cons_of_mem _ (List.mem_cons_of_mem _ (List.mem_cons_of_mem _ List.mem_cons_self))) : Fb (w13.heap.size, 24, [.int .i64 s13, .slice a13 n13 c13]) _).cells2
  obtain ⟨t16_0, t16_1⟩ := (S16.out.box _ (List.mem_cons_of_mem _ List.mem_cons_self) : Fb (w15.heap.size, 24, [.int .i64 1, .slice a15 n15 c15]) _).cells2
  obtain ⟨r0, r1, r2, r3⟩ := (S16.out.box _ (List.mem_cons_of_mem _ (List.mem_cons_of_mem _ (List.mem_cons_of_mem _ (List.mem_cons_of_mem _ (List.mem_cons_of_mem _ List.mem_cons_self))))) : Fb (w.heap.size + 1 + 1, 26, [.int .i64 0, .slice none 0 0, .int .i64 0, .slice none 0 0]) _).cells4
  obtain ⟨f0, f1, f2, f3⟩ := (S16.out.box _ (List.mem_cons_of_mem _ (List.mem_cons_of_mem _ (List.mem_cons_of_mem _ (List.mem_cons_of_mem _ (List.mem_cons_of_mem _ List.mem_cons_self))))) : Fb (w.heap.size + 1 + 1, 26, [.int .i64 0, .slice none 0 0, .int .i64 0, .slice none 0 0]) _).free4
  go_wp2_with fail
  clear t15_0 t15_1 t16_0 t16_1
  have ZZ := Lib.hid (S16.out.set4 (pre := [_, _, _, _, _]) (.int .i64 s13) (.slice a13 n13 c13) (.int .i64 1) (.slice a15 n15 c15))
  exact bodyPost_ret (v := .tuple #[.agg #[.int .i64 s13, .slice a13 n13 c13, .int .i64 1, .slice a15 n15 c15], .int .i64 0]) (by simp [results, Try.results53, go_sem, r0, r1, r2, r3]) rfl ⟨_, _, _, _, _, _, _, rfl, ⟨ZZ.out.num (v := .slice a13 n13 c13) (z := r.num) (List.mem_cons_of_mem _ List.mem_cons_self) E13.out, ZZ.out.num (v := .slice a15 n15 c15) (z := (r.den : Int)) List.mem_cons_self (den_sign r).symm⟩, ZZ.out.below, F13.out, F15.out⟩

theorem rfnew_r {w : World} {sp sq : Int} {ap aq : Option Addr} {np cp nq cq : Nat} {p q : Int} {r : Rat} (hp : Num w sp (.slice ap np cp) p) (hq : Num w sq (.slice aq nq cq) q) (lp : Len 100000 p) (lq : Len 100000 q) (h0 : q ≠ 0) (h : Rat.divInt p q = r) : Calls Try.prog 53 #[.agg #[.int .i64 sp, .slice ap np cp], .agg #[.int .i64 sq, .slice aq nq cq]] w (FVE r 0 w) := by
  rcases Int.lt_or_gt_of_ne h0 with h1 | h1
  · exact rfnew_neg hp hq lp lq h1 h
  · exact rfnew_pos hp hq lp lq h1 h

end Go.Proofs.Ytgncnkojpedmdaa.Bi

namespace Go.Proofs.Ytgncnkojpedmdaa.Bi
open Go.RowKit

set_option maxHeartbeats 1000000 in
theorem rfof_k (p q : Int) (hp : -9223372036854775808 ≤ p ∧ p ≤ 9223372036854775807) (hq : -9223372036854775808 ≤ q ∧ q ≤ 9223372036854775807) (h0 : q ≠ 0) (w : World) : Calls Try.prog 34 #[.int .i64 p, .int .i64 q] w (FVE (Rat.divInt p q) 0 w) := by
  have HP := Lib.hid hp
  have HQ := Lib.hid hq
  have H0 := Lib.hid h0
  have LP : Hid (Len 100000 p) := Len.of (by omega)
  have LQ : Hid (Len 100000 q) := Len.of (by omega)
  have S0 := Lib.hid ((Sf.start w).put [.int .i64 0, .slice none 0 0, .int .i64 0, .slice none 0 0] 26)
  clear hp hq h0
  go_enter Try.func34, Try.ntmps34
  go_wp2_with fail
  refine (rof_k p HP.out _).mono ?_
  rintro e w1 ⟨g0, p0, k0, j0, rfl, hn, hb, hf⟩
  have T1 := Lib.hid (S0.out.ret hb hn.2 hf)
  have E0 := Lib.hid hn.1
  clear hn hb hf S0
  go_wp2_with fail
  refine (rof_k q HQ.out _).mono ?_
  rintro e w1' ⟨g1, p1, k1, j1, rfl, hn, hb, hf⟩
  have T1' := Lib.hid (T1.out.ret hb hn.2 hf)
  have E1 := Lib.hid hn.1
  clear hn hb hf T1
  go_wp2_with fail
  refine (rfnew_r (T1'.out.num (v := .slice p0 k0 j0) (z := p) (List.mem_cons_of_mem _ List.mem_cons_self) E0.out) (T1'.out.num (v := .slice p1 k1 j1) (z := q) List.mem_cons_self E1.out) LP.out LQ.out H0.out rfl).mono ?_
  rintro e w2 ⟨s9, a9, n9, c9, b9, m9, d9, rfl, hr, hb, hf, hg⟩
  have T2 := Lib.hid (T1'.out.ret2 hb hr.1.2 hf hr.2.2 hg)
  have E9 := Lib.hid hr.1.1
  have F9 := Lib.hid (hf.mono T1'.out.below.size)
  have G9 := Lib.hid (hg.mono T1'.out.below.size)
  clear hr hb hf hg T1'
  have yr : Fb (w.heap.size, 26, [.int .i64 0, .slice none 0 0, .int .i64 0, .slice none 0 0]) _ := T2.out.box _ List.mem_cons_self
  obtain ⟨r0, r1, r2, r3⟩ := yr.cells4
  obtain ⟨f0, f1, f2, f3⟩ := yr.free4
  clear yr
  go_wp2_with fail
  have T3 := Lib.hid (T2.out.set4 (pre := []) (.int .i64 s9) (.slice a9 n9 c9) (.int .i64 1) (.slice b9 m9 d9))
  exact bodyPost_ret (v := .tuple #[.agg #[.int .i64 s9, .slice a9 n9 c9, .int .i64 1, .slice b9 m9 d9], .int .i64 0]) (by simp [results, Try.results34, go_sem, r0, r1, r2, r3]) rfl
    ⟨_, _, _, _, _, _, _, rfl, ⟨T3.out.num (v := .slice a9 n9 c9) (z := (Rat.divInt p q).num) List.mem_cons_self E9.out, T3.out.num (v := .slice b9 m9 d9) (z := ((Rat.divInt p q).den : Int)) (List.mem_cons_of_mem _ List.mem_cons_self) (den_sign _).symm⟩, T3.out.below, F9.out, G9.out⟩

theorem rfof_r {r : Rat} (p q : Int) (hp : -9223372036854775808 ≤ p ∧ p ≤ 9223372036854775807) (hq : -9223372036854775808 ≤ q ∧ q ≤ 9223372036854775807) (h0 : q ≠ 0) (h : Rat.divInt p q = r) (w : World) : Calls Try.prog 34 #[.int .i64 p, .int .i64 q] w (FVE r 0 w) := by subst h; exact rfof_k p q hp hq h0 w

set_option maxHeartbeats 2000000 in
theorem rfint_k (z : Int) (h : -9223372036854775808 ≤ z ∧ z ≤ 9223372036854775807) (w : World) : Calls Try.prog 13 #[.int .i64 z] w (FV (z : Rat) w) := by
  have H := Lib.hid h
  have H1 : Hid (-9223372036854775808 ≤ (1 : Int) ∧ (1 : Int) ≤ 9223372036854775807) := ⟨by omega, by omega⟩
  have H2 : Hid ((1 : Int) ≠ 0) := Lib.hid (by omega)
  have S0 := Lib.hid (((Sf.start w)).put [.int .i64 0, .slice none 0 0, .int .i64 0, .slice none 0 0] 26)
  clear h
  go_enter Try.func13, Try.ntmps13
  go_wp2_with fail
  refine (rfof_r z 1 H.out H1.out H2.out (rat_int z) _).mono ?_
  rintro e w1 ⟨s1, a1, n1, c1, b1, m1, d1, rfl, hr, hb, hf, hg⟩
  have E1 := Lib.hid hr.1.1
  have HFR : Hid (Fresh w.heap.size (.slice a1 n1 c1) ∧ Fresh w.heap.size (.slice b1 m1 d1)) := ⟨hf.mono S0.out.below.size, hg.mono S0.out.below.size⟩
  have S2 := Lib.hid ((S0.out.ret2 hb hr.1.2 hf hr.2.2 hg).put [.int .i64 s1, .slice a1 n1 c1, .int .i64 1, .slice b1 m1 d1] 26)
  clear hr hb hf hg S0
  obtain ⟨t1_0, t1_1, t1_2, t1_3⟩ := (S2.out.box _ List.mem_cons_self : Fb (w1.heap.size, 26, [.int .i64 s1, .slice a1 n1 c1, .int .i64 1, .slice b1 m1 d1]) _).cells4
  obtain ⟨r0, r1, r2, r3⟩ := (S2.out.box _ (List.mem_cons_of_mem _ List.mem_cons_self) : Fb (w.heap.size, 26, [.int .i64 0, .slice none 0 0, .int .i64 0, .slice none 0 0]) _).cells4
  obtain ⟨f0, f1, f2, f3⟩ := (S2.out.box _ (List.mem_cons_of_mem _ List.mem_cons_self) : Fb (w.heap.size, 26, [.int .i64 0, .slice none 0 0, .int .i64 0, .slice none 0 0]) _).free4
  go_wp2_with fail
  clear t1_0 t1_1 t1_2 t1_3
  have ZZ := Lib.hid (S2.out.set4 (pre := [_]) (.int .i64 s1) (.slice a1 n1 c1) (.int .i64 1) (.slice b1 m1 d1))
  exact bodyPost_ret (v := .agg #[.int .i64 s1, .slice a1 n1 c1, .int .i64 1, .slice b1 m1 d1]) (by simp [results, Try.results13, go_sem, r0, r1, r2, r3]) rfl ⟨_, _, _, _, _, _, _, rfl, ⟨ZZ.out.num (v := .slice a1 n1 c1) (z := ((z : Rat)).num) List.mem_cons_self E1.out, ZZ.out.num (v := .slice b1 m1 d1) (z := (((z : Rat)).den : Int)) (List.mem_cons_of_mem _ List.mem_cons_self) (den_sign _).symm⟩, ZZ.out.below, HFR.out.1, HFR.out.2⟩

end Go.Proofs.Ytgncnkojpedmdaa.Bi

namespace Go.Proofs.Ytgncnkojpedmdaa.Sp

/-- The interval s has x. -/
def In (s : Rat × Rat) (x : Rat) : Prop := s.1 ≤ x ∧ x ≤ s.2
/-- s is the smallest interval around the results of op for elements of a and b. -/
structure IsOp (op : Rat → Rat → Rat) (a b s : Rat × Rat) : Prop where
  le : s.1 ≤ s.2
  has : ∀ x y, In a x → In b y → In s (op x y)
  low : ∃ x y, In a x ∧ In b y ∧ op x y = s.1
  high : ∃ x y, In a x ∧ In b y ∧ op x y = s.2
/-- z lies between p and q. -/
def Bt (p q z : Rat) : Prop := (p ≤ z ∧ z ≤ q) ∨ (q ≤ z ∧ z ≤ p)
theorem in_low {a : Rat × Rat} (h : a.1 ≤ a.2) : In a a.1 := ⟨Rat.le_refl, h⟩
theorem in_high {a : Rat × Rat} (h : a.1 ≤ a.2) : In a a.2 := ⟨h, Rat.le_refl⟩
theorem IsOp.unique {op : Rat → Rat → Rat} {a b s t : Rat × Rat} (h : IsOp op a b s) (k : IsOp op a b t) : s = t := by
  obtain ⟨x1, y1, a1, b1, e1⟩ := h.low
  obtain ⟨x2, y2, a2, b2, e2⟩ := h.high
  obtain ⟨x3, y3, a3, b3, e3⟩ := k.low
  obtain ⟨x4, y4, a4, b4, e4⟩ := k.high
  have c1 := (k.has _ _ a1 b1).1
  have c2 := (k.has _ _ a2 b2).2
  have c3 := (h.has _ _ a3 b3).1
  have c4 := (h.has _ _ a4 b4).2
  rw [e1] at c1; rw [e2] at c2; rw [e3] at c3; rw [e4] at c4
  exact Prod.ext (Rat.le_antisymm c3 c1) (Rat.le_antisymm c2 c4)
/-- Smaller arguments have smaller results. -/
theorem IsOp.mono {op : Rat → Rat → Rat} {a b c d s t : Rat × Rat} (h : IsOp op a b s) (k : IsOp op c d t) (h1 : ∀ x, In a x → In c x) (h2 : ∀ y, In b y → In d y) : In t s.1 ∧ In t s.2 := by
  obtain ⟨x1, y1, a1, b1, e1⟩ := h.low
  obtain ⟨x2, y2, a2, b2, e2⟩ := h.high
  exact ⟨by rw [← e1]; exact k.has _ _ (h1 _ a1) (h2 _ b1), by rw [← e2]; exact k.has _ _ (h1 _ a2) (h2 _ b2)⟩
theorem in_sub {s t : Rat × Rat} (h1 : In t s.1) (h2 : In t s.2) : ∀ x, In s x → In t x := fun _ hx => ⟨Rat.le_trans h1.1 hx.1, Rat.le_trans hx.2 h2.2⟩
theorem IsOp.comm {op : Rat → Rat → Rat} (hc : ∀ x y, op x y = op y x) {a b s : Rat × Rat} (h : IsOp op a b s) : IsOp op b a s := by
  obtain ⟨x1, y1, a1, b1, e1⟩ := h.low
  obtain ⟨x2, y2, a2, b2, e2⟩ := h.high
  exact ⟨h.le, fun x y hx hy => by rw [hc]; exact h.has _ _ hy hx, ⟨y1, x1, b1, a1, by rw [hc]; exact e1⟩, ⟨y2, x2, b2, a2, by rw [hc]; exact e2⟩⟩
/-! ## Operations whose extremes are at corners -/
/-- For a fixed second argument the results lie between those at the ends of a, and so for a fixed first one. -/
structure Corner (op : Rat → Rat → Rat) (a b : Rat × Rat) : Prop where
  left : ∀ x y, In a x → In b y → Bt (op a.1 y) (op a.2 y) (op x y)
  right : ∀ x y, In a x → In b y → Bt (op x b.1) (op x b.2) (op x y)
theorem Corner.has {op : Rat → Rat → Rat} {a b : Rat × Rat} (h : Corner op a b) (ha : a.1 ≤ a.2) (_hb : b.1 ≤ b.2) {lo hi : Rat} (h1 : lo ≤ op a.1 b.1 ∧ op a.1 b.1 ≤ hi) (h2 : lo ≤ op a.2 b.1 ∧ op a.2 b.1 ≤ hi) (h3 : lo ≤ op a.1 b.2 ∧ op a.1 b.2 ≤ hi) (h4 : lo ≤ op a.2 b.2 ∧ op a.2 b.2 ≤ hi)
    (x y : Rat) (hx : In a x) (hy : In b y) : lo ≤ op x y ∧ op x y ≤ hi := by
  have c0 := h.left x y hx hy
  have c1 := h.right a.1 y (in_low ha) hy
  have c2 := h.right a.2 y (in_high ha) hy
  have d1 : lo ≤ op a.1 y ∧ op a.1 y ≤ hi := by
    rcases c1 with c1 | c1
    · exact ⟨Rat.le_trans h1.1 c1.1, Rat.le_trans c1.2 h3.2⟩
    · exact ⟨Rat.le_trans h3.1 c1.1, Rat.le_trans c1.2 h1.2⟩
  have d2 : lo ≤ op a.2 y ∧ op a.2 y ≤ hi := by
    rcases c2 with c2 | c2
    · exact ⟨Rat.le_trans h2.1 c2.1, Rat.le_trans c2.2 h4.2⟩
    · exact ⟨Rat.le_trans h4.1 c2.1, Rat.le_trans c2.2 h2.2⟩
  rcases c0 with c0 | c0
  · exact ⟨Rat.le_trans d1.1 c0.1, Rat.le_trans c0.2 d2.2⟩
  · exact ⟨Rat.le_trans d2.1 c0.1, Rat.le_trans c0.2 d1.2⟩
/-- One of the four corners. -/
def IsC (op : Rat → Rat → Rat) (a b : Rat × Rat) (z : Rat) : Prop := z = op a.1 b.1 ∨ z = op a.2 b.1 ∨ z = op a.1 b.2 ∨ z = op a.2 b.2
theorem IsC.ends {op : Rat → Rat → Rat} {a b : Rat × Rat} {z : Rat} (h : IsC op a b z) (ha : a.1 ≤ a.2) (hb : b.1 ≤ b.2) : ∃ x y, In a x ∧ In b y ∧ op x y = z := by
  rcases h with rfl | rfl | rfl | rfl
  · exact ⟨_, _, in_low ha, in_low hb, rfl⟩
  · exact ⟨_, _, in_high ha, in_low hb, rfl⟩
  · exact ⟨_, _, in_low ha, in_high hb, rfl⟩
  · exact ⟨_, _, in_high ha, in_high hb, rfl⟩
/-- The least and the greatest corner are the smallest interval. -/
theorem Corner.isOp {op : Rat → Rat → Rat} {a b : Rat × Rat} (h : Corner op a b) (ha : a.1 ≤ a.2) (hb : b.1 ≤ b.2) {lo hi : Rat} (h1 : lo ≤ op a.1 b.1 ∧ op a.1 b.1 ≤ hi) (h2 : lo ≤ op a.2 b.1 ∧ op a.2 b.1 ≤ hi) (h3 : lo ≤ op a.1 b.2 ∧ op a.1 b.2 ≤ hi) (h4 : lo ≤ op a.2 b.2 ∧ op a.2 b.2 ≤ hi)
    (hl : IsC op a b lo) (hh : IsC op a b hi) : IsOp op a b (lo, hi) :=
  ⟨Rat.le_trans h1.1 h1.2, fun x y hx hy => h.has ha hb h1 h2 h3 h4 x y hx hy, hl.ends ha hb, hh.ends ha hb⟩
/-- The corners bound a smallest interval, and its ends are among them. -/
theorem Corner.low {op : Rat → Rat → Rat} {a b s : Rat × Rat} (h : Corner op a b) (ha : a.1 ≤ a.2) (hb : b.1 ≤ b.2) (hs : IsOp op a b s) : IsC op a b s.1 := by
  have k1 := (hs.has _ _ (in_low ha) (in_low hb)).1
  have k2 := (hs.has _ _ (in_high ha) (in_low hb)).1
  have k3 := (hs.has _ _ (in_low ha) (in_high hb)).1
  have k4 := (hs.has _ _ (in_high ha) (in_high hb)).1
  obtain ⟨x, y, hx, hy, e⟩ := hs.low
  rcases h.left x y hx hy with ⟨c, _⟩ | ⟨c, _⟩
  · rcases h.right a.1 y (in_low ha) hy with ⟨d, _⟩ | ⟨d, _⟩
    · exact .inl (Rat.le_antisymm k1 (Rat.le_trans d (e ▸ c)))
    · exact .inr (.inr (.inl (Rat.le_antisymm k3 (Rat.le_trans d (e ▸ c)))))
  · rcases h.right a.2 y (in_high ha) hy with ⟨d, _⟩ | ⟨d, _⟩
    · exact .inr (.inl (Rat.le_antisymm k2 (Rat.le_trans d (e ▸ c))))
    · exact .inr (.inr (.inr (Rat.le_antisymm k4 (Rat.le_trans d (e ▸ c)))))
theorem Corner.high {op : Rat → Rat → Rat} {a b s : Rat × Rat} (h : Corner op a b) (ha : a.1 ≤ a.2) (hb : b.1 ≤ b.2) (hs : IsOp op a b s) : IsC op a b s.2 := by
  have k1 := (hs.has _ _ (in_low ha) (in_low hb)).2
  have k2 := (hs.has _ _ (in_high ha) (in_low hb)).2
  have k3 := (hs.has _ _ (in_low ha) (in_high hb)).2
  have k4 := (hs.has _ _ (in_high ha) (in_high hb)).2
  obtain ⟨x, y, hx, hy, e⟩ := hs.high
  rcases h.left x y hx hy with ⟨_, c⟩ | ⟨_, c⟩
  · rcases h.right a.2 y (in_high ha) hy with ⟨_, d⟩ | ⟨_, d⟩
    · exact .inr (.inr (.inr (Rat.le_antisymm (Rat.le_trans (e ▸ c) d) k4)))
    · exact .inr (.inl (Rat.le_antisymm (Rat.le_trans (e ▸ c) d) k2))
  · rcases h.right a.1 y (in_low ha) hy with ⟨_, d⟩ | ⟨_, d⟩
    · exact .inr (.inr (.inl (Rat.le_antisymm (Rat.le_trans (e ▸ c) d) k3)))
    · exact .inl (Rat.le_antisymm (Rat.le_trans (e ▸ c) d) k1)
/-- Ends that are results for ends of the arguments, put together twice. -/
theorem Corner.assoc {op : Rat → Rat → Rat} (ha : ∀ x y z, op (op x y) z = op x (op y z)) {a b c p q s t : Rat × Rat} (va : a.1 ≤ a.2) (vb : b.1 ≤ b.2) (vc : c.1 ≤ c.2) (k1 : Corner op a b) (k2 : Corner op p c) (k3 : Corner op b c) (k4 : Corner op a q)
    (h1 : IsOp op a b p) (h2 : IsOp op p c s) (h3 : IsOp op b c q) (h4 : IsOp op a q t) : s = t := by
  obtain ⟨u1, v1, m1, n1, g1⟩ := (k1.low va vb h1).ends va vb
  obtain ⟨u2, v2, m2, n2, g2⟩ := (k1.high va vb h1).ends va vb
  obtain ⟨u3, v3, m3, n3, g3⟩ := (k3.low vb vc h3).ends vb vc
  obtain ⟨u4, v4, m4, n4, g4⟩ := (k3.high vb vc h3).ends vb vc
  have L : ∀ z, IsC op p c z → ∃ x y w, In a x ∧ In b y ∧ In c w ∧ op (op x y) w = z := by
    intro z hz
    rcases hz with rfl | rfl | rfl | rfl
    · exact ⟨u1, v1, _, m1, n1, in_low vc, by rw [g1]⟩
    · exact ⟨u2, v2, _, m2, n2, in_low vc, by rw [g2]⟩
    · exact ⟨u1, v1, _, m1, n1, in_high vc, by rw [g1]⟩
    · exact ⟨u2, v2, _, m2, n2, in_high vc, by rw [g2]⟩
  have R : ∀ z, IsC op a q z → ∃ x y w, In a x ∧ In b y ∧ In c w ∧ op x (op y w) = z := by
    intro z hz
    rcases hz with rfl | rfl | rfl | rfl
    · exact ⟨_, u3, v3, in_low va, m3, n3, by rw [g3]⟩
    · exact ⟨_, u3, v3, in_high va, m3, n3, by rw [g3]⟩
    · exact ⟨_, u4, v4, in_low va, m4, n4, by rw [g4]⟩
    · exact ⟨_, u4, v4, in_high va, m4, n4, by rw [g4]⟩
  obtain ⟨x1, y1, z1, a1, b1, c1, e1⟩ := L _ (k2.low h1.le vc h2)
  obtain ⟨x2, y2, z2, a2, b2, c2, e2⟩ := L _ (k2.high h1.le vc h2)
  obtain ⟨x3, y3, z3, a3, b3, c3, e3⟩ := R _ (k4.low va h3.le h4)
  obtain ⟨x4, y4, z4, a4, b4, c4, e4⟩ := R _ (k4.high va h3.le h4)
  have d1 := (h4.has _ _ a1 (h3.has _ _ b1 c1)).1
  have d2 := (h4.has _ _ a2 (h3.has _ _ b2 c2)).2
  have d3 := (h2.has _ _ (h1.has _ _ a3 b3) c3).1
  have d4 := (h2.has _ _ (h1.has _ _ a4 b4) c4).2
  rw [← ha, e1] at d1; rw [← ha, e2] at d2; rw [ha, e3] at d3; rw [ha, e4] at d4
  exact Prod.ext (Rat.le_antisymm d3 d1) (Rat.le_antisymm d2 d4)

/-! ## The six operations -/
theorem corner_add (a b : Rat × Rat) : Corner (· + ·) a b :=
  ⟨fun _ _ hx _ => .inl ⟨Rat.add_le_add_right.2 hx.1, Rat.add_le_add_right.2 hx.2⟩, fun _ _ _ hy => .inl ⟨Rat.add_le_add_left.2 hy.1, Rat.add_le_add_left.2 hy.2⟩⟩
theorem corner_sub (a b : Rat × Rat) : Corner (· - ·) a b := by
  refine ⟨fun x y hx _ => .inl ?_, fun x y _ hy => .inr ?_⟩
  · simp only [Rat.sub_eq_add_neg]
    exact ⟨Rat.add_le_add_right.2 hx.1, Rat.add_le_add_right.2 hx.2⟩
  · simp only [Rat.sub_eq_add_neg]
    exact ⟨Rat.add_le_add_left.2 (Rat.neg_le_neg hy.2), Rat.add_le_add_left.2 (Rat.neg_le_neg hy.1)⟩
theorem mul_bt {p q x y : Rat} (h1 : p ≤ x) (h2 : x ≤ q) : Bt (p * y) (q * y) (x * y) := by
  rcases Rat.le_total (a := 0) (b := y) with hy | hy
  · exact .inl ⟨Rat.mul_le_mul_of_nonneg_right h1 hy, Rat.mul_le_mul_of_nonneg_right h2 hy⟩
  · have hn : 0 ≤ -y := by have := Rat.neg_le_neg hy; simpa using this
    have e1 := Rat.mul_le_mul_of_nonneg_right h1 hn
    have e2 := Rat.mul_le_mul_of_nonneg_right h2 hn
    rw [Rat.mul_neg, Rat.mul_neg, Rat.neg_le_neg_iff] at e1 e2
    exact .inr ⟨e2, e1⟩
theorem corner_mul (a b : Rat × Rat) : Corner (· * ·) a b :=
  ⟨fun _ _ hx _ => mul_bt hx.1 hx.2, fun x y _ hy => by
    show Bt (x * b.1) (x * b.2) (x * y)
    rw [Rat.mul_comm x b.1, Rat.mul_comm x b.2, Rat.mul_comm x y]
    exact mul_bt hy.1 hy.2⟩
theorem lt_le {p q r : Rat} (h : p < q) (k : q ≤ r) : p < r := Rat.not_le.1 fun e => absurd (Rat.le_trans k e) (Rat.not_le.2 h)
theorem inv_le {p q : Rat} (hp : 0 < p) (h : p ≤ q) : q⁻¹ ≤ p⁻¹ := by
  have hq : 0 < q := lt_le hp h
  have hpi := Rat.inv_pos.2 hp
  have hqi := Rat.inv_pos.2 hq
  have e := Rat.mul_le_mul_of_nonneg_right (Rat.mul_le_mul_of_nonneg_right h (Rat.le_of_lt hpi)) (Rat.le_of_lt hqi)
  rw [Rat.mul_inv_cancel p (fun e => by rw [e] at hp; exact absurd hp (by decide)), Rat.one_mul, Rat.mul_assoc, Rat.mul_comm p⁻¹, ← Rat.mul_assoc, Rat.mul_inv_cancel q (fun e => by rw [e] at hq; exact absurd hq (by decide)), Rat.one_mul] at e
  exact e
theorem inv_neg (p : Rat) : (-p)⁻¹ = -(p⁻¹) := by
  by_cases h : p = 0
  · subst h; decide +kernel
  · exact Rat.inv_eq_of_mul_eq_one (by rw [Rat.neg_mul, Rat.mul_neg, Rat.neg_neg, Rat.mul_inv_cancel p h])
/-- An interval without 0: inverses lie between those of its ends. -/
theorem inv_bt {b : Rat × Rat} (h0 : ¬ In b 0) {y : Rat} (hy : In b y) (_hb : b.1 ≤ b.2) : b.2⁻¹ ≤ y⁻¹ ∧ y⁻¹ ≤ b.1⁻¹ := by
  by_cases h : 0 < b.1
  · exact ⟨inv_le (lt_le h hy.1) hy.2, inv_le h hy.1⟩
  · have h1 : b.1 ≤ 0 := Rat.not_lt.1 h
    have h2 : b.2 < 0 := by
      rcases Rat.le_total (a := 0) (b := b.2) with k | k
      · exact absurd ⟨h1, k⟩ h0
      · refine Rat.lt_iff_le_and_ne.2 ⟨k, fun e => h0 ⟨h1, by rw [e]; exact Rat.le_refl⟩⟩
    have h3 : 0 < -b.2 := by have := Rat.neg_lt_neg h2; simpa using this
    have e1 := inv_le h3 (Rat.neg_le_neg hy.2)
    have e2 := inv_le (lt_le h3 (Rat.neg_le_neg hy.2)) (Rat.neg_le_neg hy.1)
    rw [inv_neg, inv_neg, Rat.neg_le_neg_iff] at e1 e2
    exact ⟨e1, e2⟩
theorem corner_div (a b : Rat × Rat) (h0 : ¬ In b 0) (hb : b.1 ≤ b.2) : Corner (· / ·) a b := by
  refine ⟨fun x y hx _ => ?_, fun x y _ hy => ?_⟩
  · simp only [Rat.div_def]
    exact mul_bt hx.1 hx.2
  · simp only [Rat.div_def]
    obtain ⟨h1, h2⟩ := inv_bt h0 hy hb
    rw [Rat.mul_comm x b.1⁻¹, Rat.mul_comm x b.2⁻¹, Rat.mul_comm x y⁻¹]
    rcases mul_bt (y := x) h1 h2 with h | h
    · exact .inr h
    · exact .inl h
theorem rmin_le {p q : Rat} : Bi.rmin p q ≤ p ∧ Bi.rmin p q ≤ q := by
  unfold Bi.rmin; split
  · rename_i h; exact ⟨Rat.le_of_lt h, Rat.le_refl⟩
  · rename_i h; exact ⟨Rat.le_refl, Rat.not_lt.1 h⟩
theorem rmax_le {p q : Rat} : p ≤ Bi.rmax p q ∧ q ≤ Bi.rmax p q := by
  unfold Bi.rmax; split
  · rename_i h; exact ⟨Rat.le_of_lt h, Rat.le_refl⟩
  · rename_i h; exact ⟨Rat.le_refl, Rat.not_lt.1 h⟩
theorem rmin_or (p q : Rat) : Bi.rmin p q = p ∨ Bi.rmin p q = q := by unfold Bi.rmin; split <;> simp
theorem rmax_or (p q : Rat) : Bi.rmax p q = p ∨ Bi.rmax p q = q := by unfold Bi.rmax; split <;> simp
theorem le_rmin {p q z : Rat} (h1 : z ≤ p) (h2 : z ≤ q) : z ≤ Bi.rmin p q := by rcases rmin_or p q with e | e <;> rw [e] <;> assumption
theorem rmax_le' {p q z : Rat} (h1 : p ≤ z) (h2 : q ≤ z) : Bi.rmax p q ≤ z := by rcases rmax_or p q with e | e <;> rw [e] <;> assumption
theorem rmin_comm (p q : Rat) : Bi.rmin p q = Bi.rmin q p := Rat.le_antisymm (le_rmin rmin_le.2 rmin_le.1) (le_rmin rmin_le.2 rmin_le.1)
theorem rmax_comm (p q : Rat) : Bi.rmax p q = Bi.rmax q p := Rat.le_antisymm (rmax_le' rmax_le.2 rmax_le.1) (rmax_le' rmax_le.2 rmax_le.1)
theorem rmin_assoc (p q r : Rat) : Bi.rmin (Bi.rmin p q) r = Bi.rmin p (Bi.rmin q r) :=
  Rat.le_antisymm (le_rmin (Rat.le_trans rmin_le.1 rmin_le.1) (le_rmin (Rat.le_trans rmin_le.1 rmin_le.2) rmin_le.2)) (le_rmin (le_rmin rmin_le.1 (Rat.le_trans rmin_le.2 rmin_le.1)) (Rat.le_trans rmin_le.2 rmin_le.2))
theorem rmax_assoc (p q r : Rat) : Bi.rmax (Bi.rmax p q) r = Bi.rmax p (Bi.rmax q r) :=
  Rat.le_antisymm (rmax_le' (rmax_le' rmax_le.1 (Rat.le_trans rmax_le.1 rmax_le.2)) (Rat.le_trans rmax_le.2 rmax_le.2)) (rmax_le' (Rat.le_trans rmax_le.1 rmax_le.1) (rmax_le' (Rat.le_trans rmax_le.2 rmax_le.1) rmax_le.2))
theorem rmin_mono {p q x y : Rat} (h1 : p ≤ x) (h2 : q ≤ y) : Bi.rmin p q ≤ Bi.rmin x y := le_rmin (Rat.le_trans rmin_le.1 h1) (Rat.le_trans rmin_le.2 h2)
theorem rmax_mono {p q x y : Rat} (h1 : p ≤ x) (h2 : q ≤ y) : Bi.rmax p q ≤ Bi.rmax x y := rmax_le' (Rat.le_trans h1 rmax_le.1) (Rat.le_trans h2 rmax_le.2)
theorem corner_min (a b : Rat × Rat) : Corner Bi.rmin a b :=
  ⟨fun _ _ hx _ => .inl ⟨rmin_mono hx.1 Rat.le_refl, rmin_mono hx.2 Rat.le_refl⟩, fun _ _ _ hy => .inl ⟨rmin_mono Rat.le_refl hy.1, rmin_mono Rat.le_refl hy.2⟩⟩
theorem corner_max (a b : Rat × Rat) : Corner Bi.rmax a b :=
  ⟨fun _ _ hx _ => .inl ⟨rmax_mono hx.1 Rat.le_refl, rmax_mono hx.2 Rat.le_refl⟩, fun _ _ _ hy => .inl ⟨rmax_mono Rat.le_refl hy.1, rmax_mono Rat.le_refl hy.2⟩⟩
/-- What the operations give. -/
def addS (a b : Rat × Rat) : Rat × Rat := (a.1 + b.1, a.2 + b.2)
def subS (a b : Rat × Rat) : Rat × Rat := (a.1 - b.2, a.2 - b.1)
def minS (a b : Rat × Rat) : Rat × Rat := (Bi.rmin a.1 b.1, Bi.rmin a.2 b.2)
def maxS (a b : Rat × Rat) : Rat × Rat := (Bi.rmax a.1 b.1, Bi.rmax a.2 b.2)
def negS (a : Rat × Rat) : Rat × Rat := (-a.2, -a.1)
def hullS (a b : Rat × Rat) : Rat × Rat := (Bi.rmin a.1 b.1, Bi.rmax a.2 b.2)
def meetS (a b : Rat × Rat) : Rat × Rat := (Bi.rmax a.1 b.1, Bi.rmin a.2 b.2)
theorem is_add {a b : Rat × Rat} (ha : a.1 ≤ a.2) (hb : b.1 ≤ b.2) : IsOp (· + ·) a b (addS a b) :=
  ⟨Rat.le_trans (Rat.add_le_add_right.2 ha) (Rat.add_le_add_left.2 hb), fun _ _ hx hy => ⟨Rat.le_trans (Rat.add_le_add_right.2 hx.1) (Rat.add_le_add_left.2 hy.1), Rat.le_trans (Rat.add_le_add_right.2 hx.2) (Rat.add_le_add_left.2 hy.2)⟩,
   ⟨_, _, in_low ha, in_low hb, rfl⟩, ⟨_, _, in_high ha, in_high hb, rfl⟩⟩
theorem sub_mono {p q x y : Rat} (h1 : p ≤ x) (h2 : y ≤ q) : p - q ≤ x - y := by
  rw [Rat.sub_eq_add_neg, Rat.sub_eq_add_neg]
  exact Rat.le_trans (Rat.add_le_add_right.2 h1) (Rat.add_le_add_left.2 (Rat.neg_le_neg h2))
theorem is_sub {a b : Rat × Rat} (ha : a.1 ≤ a.2) (hb : b.1 ≤ b.2) : IsOp (· - ·) a b (subS a b) :=
  ⟨sub_mono ha hb, fun _ _ hx hy => ⟨sub_mono hx.1 hy.2, sub_mono hx.2 hy.1⟩, ⟨_, _, in_low ha, in_high hb, rfl⟩, ⟨_, _, in_high ha, in_low hb, rfl⟩⟩
theorem is_min {a b : Rat × Rat} (ha : a.1 ≤ a.2) (hb : b.1 ≤ b.2) : IsOp Bi.rmin a b (minS a b) :=
  ⟨rmin_mono ha hb, fun _ _ hx hy => ⟨rmin_mono hx.1 hy.1, rmin_mono hx.2 hy.2⟩, ⟨_, _, in_low ha, in_low hb, rfl⟩, ⟨_, _, in_high ha, in_high hb, rfl⟩⟩
theorem is_max {a b : Rat × Rat} (ha : a.1 ≤ a.2) (hb : b.1 ≤ b.2) : IsOp Bi.rmax a b (maxS a b) :=
  ⟨rmax_mono ha hb, fun _ _ hx hy => ⟨rmax_mono hx.1 hy.1, rmax_mono hx.2 hy.2⟩, ⟨_, _, in_low ha, in_low hb, rfl⟩, ⟨_, _, in_high ha, in_high hb, rfl⟩⟩
end Go.Proofs.Ytgncnkojpedmdaa.Sp

namespace Go.Proofs.Ytgncnkojpedmdaa.Sp
open Bi (rmin rmax)

def lo4 (p q r s : Rat) : Rat := rmin (rmin p q) (rmin r s)
def hi4 (p q r s : Rat) : Rat := rmax (rmax p q) (rmax r s)
theorem lo4_le (p q r s : Rat) : lo4 p q r s ≤ p ∧ lo4 p q r s ≤ q ∧ lo4 p q r s ≤ r ∧ lo4 p q r s ≤ s :=
  ⟨Rat.le_trans rmin_le.1 rmin_le.1, Rat.le_trans rmin_le.1 rmin_le.2, Rat.le_trans rmin_le.2 rmin_le.1, Rat.le_trans rmin_le.2 rmin_le.2⟩
theorem le_hi4 (p q r s : Rat) : p ≤ hi4 p q r s ∧ q ≤ hi4 p q r s ∧ r ≤ hi4 p q r s ∧ s ≤ hi4 p q r s :=
  ⟨Rat.le_trans rmax_le.1 rmax_le.1, Rat.le_trans rmax_le.2 rmax_le.1, Rat.le_trans rmax_le.1 rmax_le.2, Rat.le_trans rmax_le.2 rmax_le.2⟩
theorem lo4_or (p q r s : Rat) : lo4 p q r s = p ∨ lo4 p q r s = q ∨ lo4 p q r s = r ∨ lo4 p q r s = s := by
  unfold lo4
  rcases rmin_or (rmin p q) (rmin r s) with e | e <;> rw [e]
  · rcases rmin_or p q with e | e <;> rw [e] <;> simp
  · rcases rmin_or r s with e | e <;> rw [e] <;> simp
theorem hi4_or (p q r s : Rat) : hi4 p q r s = p ∨ hi4 p q r s = q ∨ hi4 p q r s = r ∨ hi4 p q r s = s := by
  unfold hi4
  rcases rmax_or (rmax p q) (rmax r s) with e | e <;> rw [e]
  · rcases rmax_or p q with e | e <;> rw [e] <;> simp
  · rcases rmax_or r s with e | e <;> rw [e] <;> simp
/-- The interval around the corners. -/
def conS (op : Rat → Rat → Rat) (a b : Rat × Rat) : Rat × Rat :=
  (lo4 (op a.1 b.1) (op a.2 b.1) (op a.1 b.2) (op a.2 b.2), hi4 (op a.1 b.1) (op a.2 b.1) (op a.1 b.2) (op a.2 b.2))
theorem Corner.con {op : Rat → Rat → Rat} {a b : Rat × Rat} (h : Corner op a b) (ha : a.1 ≤ a.2) (hb : b.1 ≤ b.2) : IsOp op a b (conS op a b) := by
  obtain ⟨l1, l2, l3, l4⟩ := lo4_le (op a.1 b.1) (op a.2 b.1) (op a.1 b.2) (op a.2 b.2)
  obtain ⟨u1, u2, u3, u4⟩ := le_hi4 (op a.1 b.1) (op a.2 b.1) (op a.1 b.2) (op a.2 b.2)
  exact h.isOp ha hb ⟨l1, u1⟩ ⟨l2, u2⟩ ⟨l3, u3⟩ ⟨l4, u4⟩ (lo4_or _ _ _ _) (hi4_or _ _ _ _)
def mulS (a b : Rat × Rat) : Rat × Rat := conS (· * ·) a b
def divS (a b : Rat × Rat) : Rat × Rat := conS (· / ·) a b
theorem is_mul {a b : Rat × Rat} (ha : a.1 ≤ a.2) (hb : b.1 ≤ b.2) : IsOp (· * ·) a b (mulS a b) := (corner_mul a b).con ha hb
/-- The four corners in any order of reckoning are the same interval. -/
theorem con_add {a b : Rat × Rat} (ha : a.1 ≤ a.2) (hb : b.1 ≤ b.2) : conS (· + ·) a b = addS a b := ((corner_add a b).con ha hb).unique (is_add ha hb)
theorem con_sub {a b : Rat × Rat} (ha : a.1 ≤ a.2) (hb : b.1 ≤ b.2) : conS (· - ·) a b = subS a b := ((corner_sub a b).con ha hb).unique (is_sub ha hb)
theorem con_min {a b : Rat × Rat} (ha : a.1 ≤ a.2) (hb : b.1 ≤ b.2) : conS rmin a b = minS a b := ((corner_min a b).con ha hb).unique (is_min ha hb)
theorem con_max {a b : Rat × Rat} (ha : a.1 ≤ a.2) (hb : b.1 ≤ b.2) : conS rmax a b = maxS a b := ((corner_max a b).con ha hb).unique (is_max ha hb)

/-! ## SpanInside -/
/-- a lies in b. -/
def Sub (a b : Rat × Rat) : Prop := In b a.1 ∧ In b a.2
theorem sub_in {a b : Rat × Rat} (h : Sub a b) : ∀ x, In a x → In b x := in_sub h.1 h.2
theorem op_mono {op : Rat → Rat → Rat} {a b c d s t : Rat × Rat} (h : IsOp op a b s) (k : IsOp op c d t) (h1 : Sub a c) (h2 : Sub b d) : Sub s t := h.mono k (sub_in h1) (sub_in h2)
theorem hull_mono {a b c d : Rat × Rat} (h1 : Sub a c) (h2 : Sub b d) (_ha : a.1 ≤ a.2) (_hb : b.1 ≤ b.2) : Sub (hullS a b) (hullS c d) := by
  refine ⟨⟨rmin_mono h1.1.1 h2.1.1, ?_⟩, ⟨?_, rmax_mono h1.2.2 h2.2.2⟩⟩
  · exact Rat.le_trans rmin_le.1 (Rat.le_trans h1.1.2 rmax_le.1)
  · exact Rat.le_trans rmin_le.1 (Rat.le_trans h1.2.1 rmax_le.1)
theorem neg_mono {a c : Rat × Rat} (h : Sub a c) : Sub (negS a) (negS c) := ⟨⟨Rat.neg_le_neg h.2.2, Rat.neg_le_neg h.2.1⟩, ⟨Rat.neg_le_neg h.1.2, Rat.neg_le_neg h.1.1⟩⟩
theorem in_meet {a b : Rat × Rat} {x : Rat} : In (meetS a b) x ↔ In a x ∧ In b x :=
  ⟨fun h => ⟨⟨Rat.le_trans rmax_le.1 h.1, Rat.le_trans h.2 rmin_le.1⟩, ⟨Rat.le_trans rmax_le.2 h.1, Rat.le_trans h.2 rmin_le.2⟩⟩, fun h => ⟨rmax_le' h.1.1 h.2.1, le_rmin h.1.2 h.2.2⟩⟩
theorem meet_mono {a b c d : Rat × Rat} (h1 : Sub a c) (h2 : Sub b d) (h : (meetS a b).1 ≤ (meetS a b).2) : (meetS c d).1 ≤ (meetS c d).2 ∧ Sub (meetS a b) (meetS c d) := by
  have k1 := in_meet.1 (in_low h)
  have k2 := in_meet.1 (in_high h)
  have m1 := in_meet.2 ⟨sub_in h1 _ k1.1, sub_in h2 _ k1.2⟩
  have m2 := in_meet.2 ⟨sub_in h1 _ k2.1, sub_in h2 _ k2.2⟩
  exact ⟨Rat.le_trans m1.1 m1.2, m1, m2⟩

/-! ## SpanLaws -/
theorem add_comm' (a b : Rat × Rat) : addS a b = addS b a := Prod.ext (Rat.add_comm _ _) (Rat.add_comm _ _)
theorem add_assoc' (a b c : Rat × Rat) : addS (addS a b) c = addS a (addS b c) := Prod.ext (Rat.add_assoc _ _ _) (Rat.add_assoc _ _ _)
theorem min_comm' (a b : Rat × Rat) : minS a b = minS b a := Prod.ext (rmin_comm _ _) (rmin_comm _ _)
theorem min_assoc' (a b c : Rat × Rat) : minS (minS a b) c = minS a (minS b c) := Prod.ext (rmin_assoc _ _ _) (rmin_assoc _ _ _)
theorem max_comm' (a b : Rat × Rat) : maxS a b = maxS b a := Prod.ext (rmax_comm _ _) (rmax_comm _ _)
theorem max_assoc' (a b c : Rat × Rat) : maxS (maxS a b) c = maxS a (maxS b c) := Prod.ext (rmax_assoc _ _ _) (rmax_assoc _ _ _)
theorem hull_comm (a b : Rat × Rat) : hullS a b = hullS b a := Prod.ext (rmin_comm _ _) (rmax_comm _ _)
theorem hull_assoc (a b c : Rat × Rat) : hullS (hullS a b) c = hullS a (hullS b c) := Prod.ext (rmin_assoc _ _ _) (rmax_assoc _ _ _)
theorem mul_comm' {a b : Rat × Rat} (ha : a.1 ≤ a.2) (hb : b.1 ≤ b.2) : mulS a b = mulS b a := (is_mul ha hb).unique ((is_mul hb ha).comm Rat.mul_comm)
theorem mul_assoc' {a b c : Rat × Rat} (ha : a.1 ≤ a.2) (hb : b.1 ≤ b.2) (hc : c.1 ≤ c.2) : mulS (mulS a b) c = mulS a (mulS b c) :=
  Corner.assoc Rat.mul_assoc ha hb hc (corner_mul a b) (corner_mul _ c) (corner_mul b c) (corner_mul a _) (is_mul ha hb) (is_mul (is_mul ha hb).le hc) (is_mul hb hc) (is_mul ha (is_mul hb hc).le)
theorem sub_add_neg (a b : Rat × Rat) : subS a b = addS a (negS b) := Prod.ext (Rat.sub_eq_add_neg _ _) (Rat.sub_eq_add_neg _ _)
theorem neg_neg' (a : Rat × Rat) : negS (negS a) = a := Prod.ext (Rat.neg_neg _) (Rat.neg_neg _)
theorem subdist {a b c : Rat × Rat} (ha : a.1 ≤ a.2) (hb : b.1 ≤ b.2) (hc : c.1 ≤ c.2) : Sub (mulS a (addS b c)) (addS (mulS a b) (mulS a c)) := by
  have hs := is_mul ha (is_add hb hc).le
  have hx := is_mul ha hb
  have hy := is_mul ha hc
  have ht := is_add hx.le hy.le
  have K : ∀ z, IsC (· * ·) a (addS b c) z → In (addS (mulS a b) (mulS a c)) z := by
    intro z hz
    have S : ∀ x y w, In a x → In b y → In c w → In (addS (mulS a b) (mulS a c)) (x * (y + w)) := fun x y w h1 h2 h3 => by
      rw [Rat.mul_add]
      exact ht.has _ _ (hx.has _ _ h1 h2) (hy.has _ _ h1 h3)
    rcases hz with rfl | rfl | rfl | rfl
    · exact S _ _ _ (in_low ha) (in_low hb) (in_low hc)
    · exact S _ _ _ (in_high ha) (in_low hb) (in_low hc)
    · exact S _ _ _ (in_low ha) (in_high hb) (in_high hc)
    · exact S _ _ _ (in_high ha) (in_high hb) (in_high hc)
  exact ⟨K _ ((corner_mul a _).low ha (is_add hb hc).le hs), K _ ((corner_mul a _).high ha (is_add hb hc).le hs)⟩

/-! ## SpanBack -/
/-! ## SpanHull -/
theorem hull_le {a b : Rat × Rat} (ha : a.1 ≤ a.2) : (hullS a b).1 ≤ (hullS a b).2 := Rat.le_trans rmin_le.1 (Rat.le_trans ha rmax_le.1)
theorem hull_left {a b : Rat × Rat} (ha : a.1 ≤ a.2) : Sub a (hullS a b) := ⟨⟨rmin_le.1, Rat.le_trans ha rmax_le.1⟩, ⟨Rat.le_trans rmin_le.1 ha, rmax_le.1⟩⟩
theorem hull_right {a b : Rat × Rat} (hb : b.1 ≤ b.2) : Sub b (hullS a b) := ⟨⟨rmin_le.2, Rat.le_trans hb rmax_le.2⟩, ⟨Rat.le_trans rmin_le.2 hb, rmax_le.2⟩⟩
theorem hull_least {a b c : Rat × Rat} (h1 : Sub a c) (h2 : Sub b c) (ha : a.1 ≤ a.2) : Sub (hullS a b) c :=
  ⟨⟨le_rmin h1.1.1 h2.1.1, Rat.le_trans rmin_le.1 h1.1.2⟩, ⟨Rat.le_trans h1.1.1 (Rat.le_trans ha rmax_le.1), rmax_le' h1.2.2 h2.2.2⟩⟩
theorem sub_hull {a b : Rat × Rat} (ha : a.1 ≤ a.2) (hb : b.1 ≤ b.2) : Sub a b ↔ hullS a b = b := by
  constructor
  · intro h
    have h1 := hull_least h ⟨in_low hb, in_high hb⟩ ha
    have h2 := hull_right (a := a) hb
    exact Prod.ext (Rat.le_antisymm h2.1.1 h1.1.1) (Rat.le_antisymm h1.2.2 h2.2.2)
  · intro h
    have := hull_left (b := b) ha
    rwa [h] at this
end Go.Proofs.Ytgncnkojpedmdaa.Sp
