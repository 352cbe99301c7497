/- kitbagref04 as laws use it; whether a fraction is valid, by the reference. WRITTEN by frac/gen_ft.py. New, and the four operations, of kitbagref05, at valid fractions. WRITTEN by frac/gen_ft.py. Neg, Sign, Floor, Text, Min, Max, Of, Int of kitbagref05. WRITTEN by frac/gen_ft.py. Certificates: which is in force, what a reading's error is. Plain mathematics, no program. -/
import Derived.Test.YtmhjejnkphdjpaaPB14
import Derived.Test.YtmhjejnkphdjpaaPB17
import Derived.Test.YtmhjejnkphdjpaaPB12
set_option maxRecDepth 100000
namespace Go.Proofs.Ytmhjejnkphdjpaa.Bi
open Go.RowKit

section
variable {w : World} {sa sb : Int} {va vb : Value} {a b : Int}
theorem rof_k (z : Int) (h : -9223372036854775808 ≤ z ∧ z ≤ 9223372036854775807) (w : World) : Calls Try.prog 46 #[.int .i64 z] w (BV z w) := (rof_any z h.1 h.2 w).mono fun _ _ h => h.bv
theorem rmul_k (ha : Num w sa va a) (hb : Num w sb vb b) (la : Len 100000 a) (lb : Len 100000 b) : Calls Try.prog 43 #[.agg #[.int .i64 sa, va], .agg #[.int .i64 sb, vb]] w (BVE (a * b) 0 w) :=
  (rmul_ok _ _ a b w ha.isb hb.isb (Nat.le_trans la (by omega)) (Nat.le_trans lb (by omega))).mono fun _ _ h => h.bve
theorem radd_k (ha : Num w sa va a) (hb : Num w sb vb b) (la : Len 100000 a) (lb : Len 100000 b) : Calls Try.prog 48 #[.agg #[.int .i64 sa, va], .agg #[.int .i64 sb, vb]] w (BVE (a + b) 0 w) :=
  (radd_ok _ _ a b w ha.isb hb.isb (Nat.le_trans la (by omega)) (Nat.le_trans lb (by omega))).mono fun _ _ h => h.bve
theorem rsub_k (ha : Num w sa va a) (hb : Num w sb vb b) (la : Len 100000 a) (lb : Len 100000 b) : Calls Try.prog 51 #[.agg #[.int .i64 sa, va], .agg #[.int .i64 sb, vb]] w (BVE (a - b) 0 w) := by
  refine (rsub_any _ _ _ _ b (a - b) 0 w ha.arg hb.isb lb (fun W v h1 h2 => ?_)).mono fun _ _ h => h.bve
  have := radd_ok _ v a (-b) W h1 h2 la (by rw [Int.natAbs_neg]; exact lb)
  rwa [← Int.sub_eq_add_neg] at this
theorem rdiv_k (ha : Num w sa va a) (hb : Num w sb vb b) (la : Len 100000 a) (lb : Len 100000 b) (h0 : b ≠ 0) : Calls Try.prog 65 #[.agg #[.int .i64 sa, va], .agg #[.int .i64 sb, vb]] w (BVD (a.fdiv b) (a.fmod b) 0 w) :=
  (rdiv_ok _ _ a b w ha.isb hb.isb (Nat.le_trans la (by omega)) (Nat.le_trans lb (by omega)) h0).mono fun _ _ h => h.bvd
theorem rgcd_z (ha : Num w sa va a) (hb : Num w sb vb b) (la : Len 100000 a) (lb : Len 100000 b) {z : Int} (h : ((Nat.gcd a.natAbs b.natAbs : Nat) : Int) = z) : Calls Try.prog 59 #[.agg #[.int .i64 sa, va], .agg #[.int .i64 sb, vb]] w (BVE z 0 w) := by
  subst h; exact (rgcd_ok _ _ a b w ha.isb hb.isb (Nat.le_trans la (by omega)) (Nat.le_trans lb (by omega))).mono fun _ _ h => h.bve
theorem rcmp_t (ha : Num w sa va a) (hb : Num w sb vb b) {k : Int} (h : cmpI a b = k) : Calls Try.prog 44 #[.agg #[.int .i64 sa, va], .agg #[.int .i64 sb, vb]] w (fun e w' => e = .returned (.int .i64 k) ∧ RowKit.Below w.heap.size w w') := by
  subst h; exact rcompare_ok _ _ a b w ha.isb hb.isb
theorem rneg_k (ha : Num w sa va a) (la : Len 100000 a) : Calls Try.prog 64 #[.agg #[.int .i64 sa, va]] w (BV (-a) w) := (rneg_ok _ a w ha.isb (Nat.le_trans la (by omega))).mono fun _ _ h => h.bv
theorem rrightN_k (ha : Num w sa va a) : Calls Try.prog 58 #[.agg #[.int .i64 sa, va]] w fun e w' => e = .returned (.bool true) ∧ RowKit.Below w.heap.size w w' := risb_any ha.isb
theorem rright_b {v : Value} {s : Int} {l : List Int} {b : Bool} (h : Arg w v s l) (hr : rightB s l = b) : Calls Try.prog 58 #[v] w fun e w' => e = .returned (.bool b) ∧ RowKit.Below w.heap.size w w' := by
  subst hr; exact rright_any v s l w h
end
theorem cmp_one (G : Int) : (cmpI G 1 == 0) = decide (G = 1) := by
  unfold cmpI
  rcases Int.lt_trichotomy G 1 with h | h | h
  · rw [if_pos h]; simp; omega
  · subst h; rfl
  · rw [if_neg (by omega), if_neg (by omega)]; simp; omega

set_option maxHeartbeats 2000000 in
theorem rfright_any (sp : Int) (ap : Option Addr) (np cp : Nat) (lp : List Int) (sq : Int) (aq : Option Addr) (nq cq : Nat) (lq : List Int) (w : World) (hp : Ints w (.slice ap np cp) lp) (hq : Ints w (.slice aq nq cq) lq) (llp : lp.length ≤ 100000) (llq : lq.length ≤ 100000) (bb : Bool) (hbb : fRightB sp lp sq lq = bb) :
    Calls Try.prog 42 #[.agg #[.int .i64 sp, .slice ap np cp, .int .i64 sq, .slice aq nq cq]] w fun e w' => e = .returned (.bool bb) ∧ RowKit.Below w.heap.size w w' := by
  have S0 := Lib.hid ((((Sf.start w).arg hp).arg hq).put [.int .i64 sp, .slice ap np cp, .int .i64 sq, .slice aq nq cq] 34)
  have HP : Hid (Arg w (.agg #[.int .i64 sp, .slice ap np cp]) sp lp) := ⟨_, rfl, hp⟩
  have HQ : Hid (Arg w (.agg #[.int .i64 sq, .slice aq nq cq]) sq lq) := ⟨_, rfl, hq⟩
  unfold fRightB at hbb
  rcases h1 : rightB sp lp with _ | _
  · obtain rfl : bb = false := by rw [← hbb, h1]; simp
    have HR := Lib.hid h1
    clear hp hq llp llq hbb h1
    go_enter Try.func42, Try.ntmps42
    go_wp2_with fail
    refine (rright_b (HP.out.later S0.out.below) HR.out).mono ?_
    rintro e w1 ⟨rfl, hb⟩
    have S1 := Lib.hid (S0.out.later hb)
    clear hb S0
    go_wp2_with fail
    go_ret
    exact ⟨rfl, S1.out.below⟩
  have HR := Lib.hid h1
  rcases h2 : rightB sq lq with _ | _
  · obtain rfl : bb = false := by rw [← hbb, h1, h2]; simp
    have HR2 := Lib.hid h2
    clear hp hq llp llq hbb h1 h2
    go_enter Try.func42, Try.ntmps42
    go_wp2_with fail
    refine (rright_b (HP.out.later S0.out.below) HR.out).mono ?_
    rintro e w1 ⟨rfl, hb⟩
    have S1 := Lib.hid (S0.out.later hb)
    clear hb S0
    obtain ⟨q0, q1, q2, q3⟩ := (S1.out.box _ List.mem_cons_self : Fb (w.heap.size, 34, [.int .i64 sp, .slice ap np cp, .int .i64 sq, .slice aq nq cq]) _).cells4
    go_wp2_with fail
    clear q0 q1 q2 q3
    refine (rright_b (HQ.out.later S1.out.below) HR2.out).mono ?_
    rintro e w2 ⟨rfl, hb⟩
    have S2 := Lib.hid (S1.out.later hb)
    clear hb S1
    go_wp2_with fail
    go_ret
    exact ⟨rfl, S2.out.below⟩
  have HR2 := Lib.hid h2
  by_cases h0 : 0 < sq
  · have g0 : decide (sq < 1) = false := by simp; omega
    obtain ⟨p, e1, e2⟩ := right_of h1
    obtain ⟨q, e3, e4⟩ := right_of h2
    obtain ⟨G, hG⟩ : ∃ z : Int, ((Nat.gcd p.natAbs q.natAbs : Nat) : Int) = z := ⟨_, rfl⟩
    have hd : (cmpI G 1 == 0) = bb := by
      rw [cmp_one, ← hbb, decide_eq_true h0, h1, h2, e2, e4, digs_val, digs_val, Int.toNat_natCast, Int.toNat_natCast, ← hG, Bool.true_and, Bool.true_and, Bool.true_and]
      exact decide_eq_decide.2 (by omega)
    obtain ⟨C, hC⟩ : ∃ C, cmpI G 1 = C := ⟨_, rfl⟩
    rw [hC] at hd
    have HC := Lib.hid hC
    have HNP : Hid (Num w sp (.slice ap np cp) p) := ⟨e1, by rw [← e2]; exact hp⟩
    have HNQ : Hid (Num w sq (.slice aq nq cq) q) := ⟨e3, by rw [← e4]; exact hq⟩
    have HLP : Hid (Len 100000 p) := by rw [e2] at llp; exact llp
    have HLQ : Hid (Len 100000 q) := by rw [e4] at llq; exact llq
    have HG := Lib.hid hG
    have HD := Lib.hid hd
    have HB : Hid (-9223372036854775808 ≤ (1 : Int) ∧ (1 : Int) ≤ 9223372036854775807) := ⟨by omega, by omega⟩
    clear hp hq llp llq h1 h2 e1 e2 e3 e4 hG hd hbb h0 hC
    go_enter Try.func42, Try.ntmps42
    go_wp2_with fail
    refine (rright_b (HP.out.later S0.out.below) HR.out).mono ?_
    rintro e w1 ⟨rfl, hb⟩
    have S1 := Lib.hid (S0.out.later hb)
    clear hb S0
    obtain ⟨q0, q1, q2, q3⟩ := (S1.out.box _ List.mem_cons_self : Fb (w.heap.size, 34, [.int .i64 sp, .slice ap np cp, .int .i64 sq, .slice aq nq cq]) _).cells4
    go_wp2_with fail
    clear q0 q1 q2 q3
    refine (rright_b (HQ.out.later S1.out.below) HR2.out).mono ?_
    rintro e w2 ⟨rfl, hb⟩
    have S2 := Lib.hid (S1.out.later hb)
    clear hb S1
    obtain ⟨q0, q1, q2, q3⟩ := (S2.out.box _ List.mem_cons_self : Fb (w.heap.size, 34, [.int .i64 sp, .slice ap np cp, .int .i64 sq, .slice aq nq cq]) _).cells4
    go_wp2_with fail
    clear q0 q1 q2 q3
    refine (rgcd_z (HNP.out.later S2.out.below) (HNQ.out.later S2.out.below) HLP.out HLQ.out HG.out).mono ?_
    rintro e w3 ⟨s1, a1, n1, c1, rfl, hn, hb, hf⟩
    have S3 := Lib.hid ((S2.out.ret hb hn.2 hf).put [.int .i64 s1, .slice a1 n1 c1] 32)
    have E1 := Lib.hid hn.1
    clear hn hb hf S2
    go_wp2_with fail
    have SD := Lib.hid S3.out.drew
    have K0 : ∀ W, Sf w [(w3.heap.size, 32, [.int .i64 s1, .slice a1 n1 c1]), (w.heap.size, 34, [.int .i64 sp, .slice ap np cp, .int .i64 sq, .slice aq nq cq])] [(.slice a1 n1 c1, digs (G : Int).natAbs), (.slice aq nq cq, lq), (.slice ap np cp, lp)] W → W.cell? ⟨w3.heap.size, 0, none⟩ = some (.int .i64 s1) ∧ W.cell? ⟨w3.heap.size, 1, none⟩ = some (.slice a1 n1 c1) := fun W h => (h.box _ List.mem_cons_self : Fb _ _).cells2
    have KK := Lib.hid K0
    have e0 := KK.out _ SD.out
    clear K0 S3
    go_region_held3 (fun W => W.cell? ⟨w3.heap.size, 0, none⟩ = some (.int .i64 s1) ∧ W.cell? ⟨w3.heap.size, 1, none⟩ = some (.slice a1 n1 c1))
      (first | (with_reducible exact e0) | (with_reducible exact x4) | (with_reducible exact x5))
      (first
        | (go_at_call 44; (with_reducible refine (rcmp_t M4.out N4.out HC.out).mono ?_); rintro e w5 ⟨rfl, hb⟩; have S5 := Lib.hid (S4.out.later hb); have x5 := KK.out _ S5.out; clear hb)
        | (go_at_call 46; (with_reducible refine (rof_k 1 HB.out _).mono ?_); rintro e w4 ⟨s2, a2, n2, c2, rfl, hn, hb, _⟩; have S4 := Lib.hid (SD.out.later hb); have x4 := KK.out _ S4.out; have M4 := Lib.hid (S4.out.num (v := .slice a1 n1 c1) (z := G) List.mem_cons_self E1.out); have N4 := Lib.hid hn; clear hn hb))
    go_wp2_with fail
    go_ret
    exact ⟨by rw [← HD.out]; rfl, S5.out.below⟩
  · have g0 : decide (sq < 1) = true := by simp; omega
    obtain rfl : bb = false := by rw [← hbb, decide_eq_false h0]; simp
    clear hp hq llp llq hbb h1 h2 h0
    go_enter Try.func42, Try.ntmps42
    go_wp2_with fail
    refine (rright_b (HP.out.later S0.out.below) HR.out).mono ?_
    rintro e w1 ⟨rfl, hb⟩
    have S1 := Lib.hid (S0.out.later hb)
    clear hb S0
    obtain ⟨q0, q1, q2, q3⟩ := (S1.out.box _ List.mem_cons_self : Fb (w.heap.size, 34, [.int .i64 sp, .slice ap np cp, .int .i64 sq, .slice aq nq cq]) _).cells4
    go_wp2_with fail
    clear q0 q1 q2 q3
    refine (rright_b (HQ.out.later S1.out.below) HR2.out).mono ?_
    rintro e w2 ⟨rfl, hb⟩
    have S2 := Lib.hid (S1.out.later hb)
    clear hb S1
    obtain ⟨q0, q1, q2, q3⟩ := (S2.out.box _ List.mem_cons_self : Fb (w.heap.size, 34, [.int .i64 sp, .slice ap np cp, .int .i64 sq, .slice aq nq cq]) _).cells4
    go_wp2_with fail
    go_ret
    exact ⟨rfl, S2.out.below⟩
theorem rfright_k {w : World} {sa : Int} {aa ba : Option Addr} {na ca ma da : Nat} {a : Rat} (h : Fr w sa (.slice aa na ca) (.slice ba ma da) a) (l : FSz 1000 a) : Calls Try.prog 42 #[.agg #[.int .i64 sa, .slice aa na ca, .int .i64 1, .slice ba ma da]] w fun e w' => e = .returned (.bool true) ∧ RowKit.Below w.heap.size w w' := by
  obtain ⟨⟨rfl, h1⟩, _, h2⟩ := h
  exact rfright_any _ _ _ _ _ _ _ _ _ _ w h1 h2 (Sz.len l.1) (Sz.len l.2) true (fright_is a)
end Go.Proofs.Ytmhjejnkphdjpaa.Bi

namespace Go.Proofs.Ytmhjejnkphdjpaa.Bi
open Go.RowKit

theorem rdiv_r {w : World} {sa sb : Int} {va vb : Value} {a b z : Int} (ha : Num w sa va a) (hb : Num w sb vb b) (la : Len 100000 a) (lb : Len 100000 b) (h0 : b ≠ 0) (h : a.fdiv b = z) : Calls Try.prog 65 #[.agg #[.int .i64 sa, va], .agg #[.int .i64 sb, vb]] w (BVD z (a.fmod b) 0 w) := by
  subst h; exact rdiv_k ha hb la lb h0
theorem divInt_nn (p q : Int) (hq : q ≠ 0) : Rat.divInt (-p) (-q) = Rat.divInt p q := by
  rw [Rat.divInt_eq_divInt_iff (by omega) hq, Int.neg_mul, Int.mul_neg]

set_option maxHeartbeats 2000000 in
theorem rfnew_pos {w : World} {sp sq : Int} {ap aq : Option Addr} {np cp nq cq : Nat} {p q : Int} (hp : Num w sp (.slice ap np cp) p) (hq : Num w sq (.slice aq nq cq) q) (lp : Len 100000 p) (lq : Len 100000 q) {r : Rat} (h0 : 0 < q) (h : Rat.divInt p q = r) : Calls Try.prog 45 #[.agg #[.int .i64 sp, .slice ap np cp], .agg #[.int .i64 sq, .slice aq nq cq]] w (FVE r 0 w) := by
  obtain rfl : sq = 1 := hq.1.trans (Int.sign_eq_one_of_pos h0)
  have hq0 : q ≠ 0 := by omega
  obtain ⟨G, hG⟩ : ∃ z : Int, ((Nat.gcd (p : Int).natAbs (q : Int).natAbs : Nat) : Int) = z := ⟨_, rfl⟩
  have hGn : G = newG p q := by rw [← hG, newG_pos (by omega)]
  have HNU : Hid ((p : Int).fdiv G = r.num) := Lib.hid (by rw [hGn, new_num (by omega), h])
  have HDE : Hid ((q : Int).fdiv G = (r.den : Int)) := Lib.hid (by rw [hGn, new_den (by omega), h])
  have HGN : Hid (G ≠ 0) := Lib.hid (by rw [hGn]; exact newG_ne (by omega))
  have HLP2 : Hid (Len 100000 p) := lp
  have HLQ2 : Hid (Len 100000 q) := lq
  have HLG : Hid (Len 100000 G) := Len.gcd HLP2.out HLQ2.out hG
  have HG := Lib.hid hG
  have HP := Lib.hid hp
  have HQ := Lib.hid hq
  have HLP := Lib.hid lp
  have HLQ := Lib.hid lq
  have S0 := Lib.hid (((((Sf.start w)).put [.int .i64 sp, .slice ap np cp] 32).put' (n := w.heap.size + 1) (by simp) [.int .i64 1, .slice aq nq cq] 32).put' (n := w.heap.size + 1 + 1) (by simp) [.int .i64 0, .slice none 0 0, .int .i64 0, .slice none 0 0] 34)
  clear hp hq lp lq h0 hq0 hG hGn h
  go_enter Try.func45, Try.ntmps45
  go_wp2_with fail
  refine (rrightN_k (HP.out.later S0.out.below)).mono ?_
  rintro e w1 ⟨rfl, hb⟩
  have S2 := Lib.hid (S0.out.later hb)
  clear hb S0
  obtain ⟨t1_0, t1_1⟩ := (S2.out.box _ (List.mem_cons_of_mem _ List.mem_cons_self) : Fb (w.heap.size + 1, 32, [.int .i64 1, .slice aq nq cq]) _).cells2
  go_wp2_with fail
  clear t1_0 t1_1
  refine (rrightN_k (HQ.out.later S2.out.below)).mono ?_
  rintro e w3 ⟨rfl, hb⟩
  have S4 := Lib.hid (S2.out.later hb)
  clear hb S2
  obtain ⟨t2_0, t2_1⟩ := (S4.out.box _ (List.mem_cons_of_mem _ (List.mem_cons_of_mem _ List.mem_cons_self)) : Fb (w.heap.size, 32, [.int .i64 sp, .slice ap np cp]) _).cells2
  obtain ⟨t3_0, t3_1⟩ := (S4.out.box _ (List.mem_cons_of_mem _ List.mem_cons_self) : Fb (w.heap.size + 1, 32, [.int .i64 1, .slice aq nq cq]) _).cells2
  go_wp2_with fail
  clear t2_0 t2_1 t3_0 t3_1
  refine (rgcd_z (HP.out.later S4.out.below) (HQ.out.later S4.out.below) HLP2.out HLQ2.out HG.out).mono ?_
  rintro e w5 ⟨s5, a5, n5, c5, rfl, hn, hb, hf⟩
  have E5 := Lib.hid hn.1
  have S6 := Lib.hid ((S4.out.ret hb hn.2 hf).put [.int .i64 s5, .slice a5 n5 c5] 32)
  clear hn hb hf S4
  obtain ⟨t4_0, t4_1⟩ := (S6.out.box _ (List.mem_cons_of_mem _ (List.mem_cons_of_mem _ (List.mem_cons_of_mem _ List.mem_cons_self))) : Fb (w.heap.size, 32, [.int .i64 sp, .slice ap np cp]) _).cells2
  obtain ⟨t5_0, t5_1⟩ := (S6.out.box _ List.mem_cons_self : Fb (w5.heap.size, 32, [.int .i64 s5, .slice a5 n5 c5]) _).cells2
  go_wp2_with fail
  clear t4_0 t4_1 t5_0 t5_1
  refine (rdiv_r (HP.out.later S6.out.below) (S6.out.num (v := .slice a5 n5 c5) (z := G) List.mem_cons_self E5.out) HLP2.out HLG.out HGN.out HNU.out).mono ?_
  rintro e w7 ⟨s7, a7, n7, c7, x7, y7, z7, o7, rfl, hn, hm, hb, hf, hg⟩
  have E7 := Lib.hid hn.1
  have F7 : Hid (Fresh w.heap.size (.slice a7 n7 c7)) := hf.mono S6.out.below.size
  have S8 := Lib.hid (((S6.out.ret hb hn.2 hf).put [.int .i64 s7, .slice a7 n7 c7] 32).put' (n := w7.heap.size + 1) (by simp) [.int .i64 x7, .slice y7 z7 o7] 32)
  clear hn hm hb hf hg S6
  obtain ⟨t6_0, t6_1⟩ := (S8.out.box _ (List.mem_cons_of_mem _ (List.mem_cons_of_mem _ (List.mem_cons_of_mem _ (List.mem_cons_of_mem _ List.mem_cons_self)))) : Fb (w.heap.size + 1, 32, [.int .i64 1, .slice aq nq cq]) _).cells2
  obtain ⟨t7_0, t7_1⟩ := (S8.out.box _ (List.mem_cons_of_mem _ (List.mem_cons_of_mem _ List.mem_cons_self)) : Fb (w5.heap.size, 32, [.int .i64 s5, .slice a5 n5 c5]) _).cells2
  go_wp2_with fail
  clear t6_0 t6_1 t7_0 t7_1
  refine (rdiv_r (HQ.out.later S8.out.below) (S8.out.num (v := .slice a5 n5 c5) (z := G) (List.mem_cons_of_mem _ List.mem_cons_self) E5.out) HLQ2.out HLG.out HGN.out HDE.out).mono ?_
  rintro e w9 ⟨s9, a9, n9, c9, x9, y9, z9, o9, rfl, hn, hm, hb, hf, hg⟩
  have E9 := Lib.hid hn.1
  have F9 : Hid (Fresh w.heap.size (.slice a9 n9 c9)) := hf.mono S8.out.below.size
  have S10 := Lib.hid (((S8.out.ret hb hn.2 hf).put [.int .i64 s9, .slice a9 n9 c9] 32).put' (n := w9.heap.size + 1) (by simp) [.int .i64 x9, .slice y9 z9 o9] 32)
  clear hn hm hb hf hg S8
  obtain rfl : s9 = 1 := E9.out.trans (den_sign _)
  obtain ⟨t8_0, t8_1⟩ := (S10.out.box _ (List.mem_cons_of_mem _ (List.mem_cons_of_mem _ (List.mem_cons_of_mem _ List.mem_cons_self))) : Fb (w7.heap.size, 32, [.int .i64 s7, .slice a7 n7 c7]) _).cells2
  obtain ⟨t9_0, t9_1⟩ := (S10.out.box _ (List.mem_cons_of_mem _ List.mem_cons_self) : Fb (w9.heap.size, 32, [.int .i64 1, .slice a9 n9 c9]) _).cells2
  obtain ⟨r0, r1, r2, r3⟩ := (S10.out.box _ (List.mem_cons_of_mem _ (List.mem_cons_of_mem _ (List.mem_cons_of_mem _ (List.mem_cons_of_mem _ (List.mem_cons_of_mem _ List.mem_cons_self))))) : Fb (w.heap.size + 1 + 1, 34, [.int .i64 0, .slice none 0 0, .int .i64 0, .slice none 0 0]) _).cells4
  obtain ⟨f0, f1, f2, f3⟩ := (S10.out.box _ (List.mem_cons_of_mem _ (List.mem_cons_of_mem _ (List.mem_cons_of_mem _ (List.mem_cons_of_mem _ (List.mem_cons_of_mem _ List.mem_cons_self))))) : Fb (w.heap.size + 1 + 1, 34, [.int .i64 0, .slice none 0 0, .int .i64 0, .slice none 0 0]) _).free4
  go_wp2_with fail
  clear t8_0 t8_1 t9_0 t9_1
  have ZZ := Lib.hid (S10.out.set4 (pre := [_, _, _, _, _]) (.int .i64 s7) (.slice a7 n7 c7) (.int .i64 1) (.slice a9 n9 c9))
  exact bodyPost_ret (v := .tuple #[.agg #[.int .i64 s7, .slice a7 n7 c7, .int .i64 1, .slice a9 n9 c9], .int .i64 0]) (by simp [results, Try.results45, go_sem, r0, r1, r2, r3]) rfl ⟨_, _, _, _, _, _, _, rfl, ⟨ZZ.out.num (v := .slice a7 n7 c7) (z := r.num) (List.mem_cons_of_mem _ List.mem_cons_self) E7.out, ZZ.out.num (v := .slice a9 n9 c9) (z := (r.den : Int)) List.mem_cons_self (den_sign r).symm⟩, ZZ.out.below, F7.out, F9.out⟩

set_option maxHeartbeats 2000000 in
theorem rfnew_neg {w : World} {sp sq : Int} {ap aq : Option Addr} {np cp nq cq : Nat} {p q : Int} (hp : Num w sp (.slice ap np cp) p) (hq : Num w sq (.slice aq nq cq) q) (lp : Len 100000 p) (lq : Len 100000 q) {r : Rat} (h0 : q < 0) (h : Rat.divInt p q = r) : Calls Try.prog 45 #[.agg #[.int .i64 sp, .slice ap np cp], .agg #[.int .i64 sq, .slice aq nq cq]] w (FVE r 0 w) := by
  obtain rfl : sq = (-1) := hq.1.trans (Int.sign_eq_neg_one_of_neg h0)
  have hq0 : q ≠ 0 := by omega
  obtain ⟨G, hG⟩ : ∃ z : Int, ((Nat.gcd ((-p) : Int).natAbs ((-q) : Int).natAbs : Nat) : Int) = z := ⟨_, rfl⟩
  have hGn : G = newG (-p) (-q) := by rw [← hG, newG_pos (by omega)]
  have HNU : Hid (((-p) : Int).fdiv G = r.num) := Lib.hid (by rw [hGn, new_num (by omega), divInt_nn _ _ hq0, h])
  have HDE : Hid (((-q) : Int).fdiv G = (r.den : Int)) := Lib.hid (by rw [hGn, new_den (by omega), divInt_nn _ _ hq0, h])
  have HGN : Hid (G ≠ 0) := Lib.hid (by rw [hGn]; exact newG_ne (by omega))
  have HLP2 : Hid (Len 100000 (-p)) := Len.neg lp
  have HLQ2 : Hid (Len 100000 (-q)) := Len.neg lq
  have HLG : Hid (Len 100000 G) := Len.gcd HLP2.out HLQ2.out hG
  have HG := Lib.hid hG
  have HP := Lib.hid hp
  have HQ := Lib.hid hq
  have HLP := Lib.hid lp
  have HLQ := Lib.hid lq
  have S0 := Lib.hid (((((Sf.start w)).put [.int .i64 sp, .slice ap np cp] 32).put' (n := w.heap.size + 1) (by simp) [.int .i64 (-1), .slice aq nq cq] 32).put' (n := w.heap.size + 1 + 1) (by simp) [.int .i64 0, .slice none 0 0, .int .i64 0, .slice none 0 0] 34)
  clear hp hq lp lq h0 hq0 hG hGn h
  go_enter Try.func45, Try.ntmps45
  go_wp2_with fail
  refine (rrightN_k (HP.out.later S0.out.below)).mono ?_
  rintro e w1 ⟨rfl, hb⟩
  have S2 := Lib.hid (S0.out.later hb)
  clear hb S0
  obtain ⟨t1_0, t1_1⟩ := (S2.out.box _ (List.mem_cons_of_mem _ List.mem_cons_self) : Fb (w.heap.size + 1, 32, [.int .i64 (-1), .slice aq nq cq]) _).cells2
  go_wp2_with fail
  clear t1_0 t1_1
  refine (rrightN_k (HQ.out.later S2.out.below)).mono ?_
  rintro e w3 ⟨rfl, hb⟩
  have S4 := Lib.hid (S2.out.later hb)
  clear hb S2
  obtain ⟨t2_0, t2_1⟩ := (S4.out.box _ (List.mem_cons_of_mem _ (List.mem_cons_of_mem _ List.mem_cons_self)) : Fb (w.heap.size, 32, [.int .i64 sp, .slice ap np cp]) _).cells2
  obtain ⟨t3_0, t3_1⟩ := (S4.out.box _ (List.mem_cons_of_mem _ List.mem_cons_self) : Fb (w.heap.size + 1, 32, [.int .i64 (-1), .slice aq nq cq]) _).cells2
  go_wp2_with fail
  clear t2_0 t2_1 t3_0 t3_1
  refine (rneg_k (HP.out.later S4.out.below) HLP.out).mono ?_
  rintro e w5 ⟨s5, a5, n5, c5, rfl, hn, hb, hf⟩
  have E5 := Lib.hid hn.1
  have S6 := Lib.hid (S4.out.ret hb hn.2 hf)
  clear hn hb hf S4
  obtain ⟨t4_0, t4_1⟩ := (S6.out.box _ (List.mem_cons_of_mem _ (List.mem_cons_of_mem _ List.mem_cons_self)) : Fb (w.heap.size, 32, [.int .i64 sp, .slice ap np cp]) _).cells2
  obtain ⟨u5_0, u5_1⟩ := (S6.out.box _ (List.mem_cons_of_mem _ (List.mem_cons_of_mem _ List.mem_cons_self)) : Fb (w.heap.size, 32, [.int .i64 sp, .slice ap np cp]) _).free2
  have S7 := Lib.hid (S6.out.set2 (pre := [_, _]) (.int .i64 s5) (.slice a5 n5 c5))
  clear S6
  obtain ⟨t6_0, t6_1⟩ := (S7.out.box _ (List.mem_cons_of_mem _ List.mem_cons_self) : Fb (w.heap.size + 1, 32, [.int .i64 (-1), .slice aq nq cq]) _).cells2
  go_wp2_with fail
  clear t4_0 t4_1 u5_0 u5_1 t6_0 t6_1
  refine (rneg_k (HQ.out.later S7.out.below) HLQ.out).mono ?_
  rintro e w8 ⟨s8, a8, n8, c8, rfl, hn, hb, hf⟩
  have E8 := Lib.hid hn.1
  have S9 := Lib.hid (S7.out.ret hb hn.2 hf)
  clear hn hb hf S7
  obtain ⟨t7_0, t7_1⟩ := (S9.out.box _ (List.mem_cons_of_mem _ List.mem_cons_self) : Fb (w.heap.size + 1, 32, [.int .i64 (-1), .slice aq nq cq]) _).cells2
  obtain ⟨u8_0, u8_1⟩ := (S9.out.box _ (List.mem_cons_of_mem _ List.mem_cons_self) : Fb (w.heap.size + 1, 32, [.int .i64 (-1), .slice aq nq cq]) _).free2
  have S10 := Lib.hid (S9.out.set2 (pre := [_]) (.int .i64 s8) (.slice a8 n8 c8))
  clear S9
  obtain ⟨t9_0, t9_1⟩ := (S10.out.box _ (List.mem_cons_of_mem _ (List.mem_cons_of_mem _ List.mem_cons_self)) : Fb (w.heap.size, 32, [.int .i64 s5, .slice a5 n5 c5]) _).cells2
  obtain ⟨t10_0, t10_1⟩ := (S10.out.box _ (List.mem_cons_of_mem _ List.mem_cons_self) : Fb (w.heap.size + 1, 32, [.int .i64 s8, .slice a8 n8 c8]) _).cells2
  go_wp2_with fail
  clear t7_0 t7_1 u8_0 u8_1 t9_0 t9_1 t10_0 t10_1
  refine (rgcd_z (S10.out.num (v := .slice a5 n5 c5) (z := -p) (List.mem_cons_of_mem _ List.mem_cons_self) E5.out) (S10.out.num (v := .slice a8 n8 c8) (z := -q) List.mem_cons_self E8.out) HLP2.out HLQ2.out HG.out).mono ?_
  rintro e w11 ⟨s11, a11, n11, c11, rfl, hn, hb, hf⟩
  have E11 := Lib.hid hn.1
  have S12 := Lib.hid ((S10.out.ret hb hn.2 hf).put [.int .i64 s11, .slice a11 n11 c11] 32)
  clear hn hb hf S10
  obtain ⟨t11_0, t11_1⟩ := (S12.out.box _ (List.mem_cons_of_mem _ (List.mem_cons_of_mem _ (List.mem_cons_of_mem _ List.mem_cons_self))) : Fb (w.heap.size, 32, [.int .i64 s5, .slice a5 n5 c5]) _).cells2
  obtain ⟨t12_0, t12_1⟩ := (S12.out.box _ List.mem_cons_self : Fb (w11.heap.size, 32, [.int .i64 s11, .slice a11 n11 c11]) _).cells2
  go_wp2_with fail
  clear t11_0 t11_1 t12_0 t12_1
  refine (rdiv_r (S12.out.num (v := .slice a5 n5 c5) (z := -p) (List.mem_cons_of_mem _ (List.mem_cons_of_mem _ List.mem_cons_self)) E5.out) (S12.out.num (v := .slice a11 n11 c11) (z := G) List.mem_cons_self E11.out) HLP2.out HLG.out HGN.out HNU.out).mono ?_
  rintro e w13 ⟨s13, a13, n13, c13, x13, y13, z13, o13, rfl, hn, hm, hb, hf, hg⟩
  have E13 := Lib.hid hn.1
  have F13 : Hid (Fresh w.heap.size (.slice a13 n13 c13)) := hf.mono S12.out.below.size
  have S14 := Lib.hid (((S12.out.ret hb hn.2 hf).put [.int .i64 s13, .slice a13 n13 c13] 32).put' (n := w13.heap.size + 1) (by simp) [.int .i64 x13, .slice y13 z13 o13] 32)
  clear hn hm hb hf hg S12
  obtain ⟨t13_0, t13_1⟩ := (S14.out.box _ (List.mem_cons_of_mem _ (List.mem_cons_of_mem _ (List.mem_cons_of_mem _ (List.mem_cons_of_mem _ List.mem_cons_self)))) : Fb (w.heap.size + 1, 32, [.int .i64 s8, .slice a8 n8 c8]) _).cells2
  obtain ⟨t14_0, t14_1⟩ := (S14.out.box _ (List.mem_cons_of_mem _ (List.mem_cons_of_mem _ List.mem_cons_self)) : Fb (w11.heap.size, 32, [.int .i64 s11, .slice a11 n11 c11]) _).cells2
  go_wp2_with fail
  clear t13_0 t13_1 t14_0 t14_1
  refine (rdiv_r (S14.out.num (v := .slice a8 n8 c8) (z := -q) (List.mem_cons_of_mem _ (List.mem_cons_of_mem _ List.mem_cons_self)) E8.out) (S14.out.num (v := .slice a11 n11 c11) (z := G) (List.mem_cons_of_mem _ List.mem_cons_self) E11.out) HLQ2.out HLG.out HGN.out HDE.out).mono ?_
  rintro e w15 ⟨s15, a15, n15, c15, x15, y15, z15, o15, rfl, hn, hm, hb, hf, hg⟩
  have E15 := Lib.hid hn.1
  have F15 : Hid (Fresh w.heap.size (.slice a15 n15 c15)) := hf.mono S14.out.below.size
  have S16 := Lib.hid (((S14.out.ret hb hn.2 hf).put [.int .i64 s15, .slice a15 n15 c15] 32).put' (n := w15.heap.size + 1) (by simp) [.int .i64 x15, .slice y15 z15 o15] 32)
  clear hn hm hb hf hg S14
  obtain rfl : s15 = 1 := E15.out.trans (den_sign _)
  obtain ⟨t15_0, t15_1⟩ := (S16.out.box _ (List.mem_cons_of_mem _ (List.mem_cons_of_mem _ (List.mem_cons_of_mem _ List.mem_cons_self))) : Fb (w13.heap.size, 32, [.int .i64 s13, .slice a13 n13 c13]) _).cells2
  obtain ⟨t16_0, t16_1⟩ := (S16.out.box _ (List.mem_cons_of_mem _ List.mem_cons_self) : Fb (w15.heap.size, 32, [.int .i64 1, .slice a15 n15 c15]) _).cells2
  obtain ⟨r0, r1, r2, r3⟩ := (S16.out.box _ (List.mem_cons_of_mem _ (List.mem_cons_of_mem _ (List.mem_cons_of_mem _ (List.mem_cons_of_mem _ (List.mem_cons_of_mem _ List.mem_cons_self))))) : Fb (w.heap.size + 1 + 1, 34, [.int .i64 0, .slice none 0 0, .int .i64 0, .slice none 0 0]) _).cells4
  obtain ⟨f0, f1, f2, f3⟩ := (S16.out.box _ (List.mem_cons_of_mem _ (List.mem_cons_of_mem _ (List.mem_cons_of_mem _ (List.mem_cons_of_mem _ (List.mem_cons_of_mem _ List.mem_cons_self))))) : Fb (w.heap.size + 1 + 1, 34, [.int .i64 0, .slice none 0 0, .int .i64 0, .slice none 0 0]) _).free4
  go_wp2_with fail
  clear t15_0 t15_1 t16_0 t16_1
  have ZZ := Lib.hid (S16.out.set4 (pre := [_, _, _, _, _]) (.int .i64 s13) (.slice a13 n13 c13) (.int .i64 1) (.slice a15 n15 c15))
  exact bodyPost_ret (v := .tuple #[.agg #[.int .i64 s13, .slice a13 n13 c13, .int .i64 1, .slice a15 n15 c15], .int .i64 0]) (by simp [results, Try.results45, go_sem, r0, r1, r2, r3]) rfl ⟨_, _, _, _, _, _, _, rfl, ⟨ZZ.out.num (v := .slice a13 n13 c13) (z := r.num) (List.mem_cons_of_mem _ List.mem_cons_self) E13.out, ZZ.out.num (v := .slice a15 n15 c15) (z := (r.den : Int)) List.mem_cons_self (den_sign r).symm⟩, ZZ.out.below, F13.out, F15.out⟩

theorem rfnew_r {w : World} {sp sq : Int} {ap aq : Option Addr} {np cp nq cq : Nat} {p q : Int} {r : Rat} (hp : Num w sp (.slice ap np cp) p) (hq : Num w sq (.slice aq nq cq) q) (lp : Len 100000 p) (lq : Len 100000 q) (h0 : q ≠ 0) (h : Rat.divInt p q = r) : Calls Try.prog 45 #[.agg #[.int .i64 sp, .slice ap np cp], .agg #[.int .i64 sq, .slice aq nq cq]] w (FVE r 0 w) := by
  rcases Int.lt_or_gt_of_ne h0 with h1 | h1
  · exact rfnew_neg hp hq lp lq h1 h
  · exact rfnew_pos hp hq lp lq h1 h

set_option maxHeartbeats 2000000 in
theorem rfadd_k {w : World} {sa : Int} {aa ba : Option Addr} {na ca ma da : Nat} {sb : Int} {ab bb : Option Addr} {nb cb mb db : Nat} {a b : Rat} (ha : Fr w sa (.slice aa na ca) (.slice ba ma da) a) (hb : Fr w sb (.slice ab nb cb) (.slice bb mb db) b) (La : FSz 1000 a) (Lb : FSz 1000 b) :
    Calls Try.prog 32 #[.agg #[.int .i64 sa, .slice aa na ca, .int .i64 1, .slice ba ma da], .agg #[.int .i64 sb, .slice ab nb cb, .int .i64 1, .slice bb mb db]] w (FVE (a + b) 0 w) := by
  have HRAT : Hid (Rat.divInt ((a.num * (b.den : Int)) + (b.num * (a.den : Int))) ((a.den : Int) * (b.den : Int)) = (a + b)) := rat_add a b
  have HQ0 : Hid (((a.den : Int) * (b.den : Int)) ≠ 0) := Int.mul_ne_zero (den_ne a) (den_ne b)
  have LX0 : Hid (Len 100000 a.num) := Sz.len La.1
  have LY0 : Hid (Len 100000 (b.den : Int)) := Sz.len Lb.2
  have LX1 : Hid (Len 100000 b.num) := Sz.len Lb.1
  have LY1 : Hid (Len 100000 (a.den : Int)) := Sz.len La.2
  have LX2 : Hid (Len 100000 (a.den : Int)) := Sz.len La.2
  have LY2 : Hid (Len 100000 (b.den : Int)) := Sz.len Lb.2
  have LX3 : Hid (Len 100000 (a.num * (b.den : Int))) := Sz.len (Sz.mul La.1 Lb.2)
  have LY3 : Hid (Len 100000 (b.num * (a.den : Int))) := Sz.len (Sz.mul Lb.1 La.2)
  have LX4 : Hid (Len 100000 ((a.num * (b.den : Int)) + (b.num * (a.den : Int)))) := Sz.len (Sz.add (Sz.mul La.1 Lb.2) (Sz.mul Lb.1 La.2))
  have LY4 : Hid (Len 100000 ((a.den : Int) * (b.den : Int))) := Sz.len (Sz.mul La.2 Lb.2)
  have HA := Lib.hid ha
  have HB := Lib.hid hb
  have HLA := Lib.hid La
  have HLB := Lib.hid Lb
  have HaP := Lib.hid ha.1
  have HaQ := Lib.hid ha.2
  have HbP := Lib.hid hb.1
  have HbQ := Lib.hid hb.2
  have S0 := Lib.hid (((((Sf.start w)).put [.int .i64 sa, .slice aa na ca, .int .i64 1, .slice ba ma da] 34).put' (n := w.heap.size + 1) (by simp) [.int .i64 sb, .slice ab nb cb, .int .i64 1, .slice bb mb db] 34).put' (n := w.heap.size + 1 + 1) (by simp) [.int .i64 0, .slice none 0 0, .int .i64 0, .slice none 0 0] 34)
  clear ha hb La Lb
  go_enter Try.func32, Try.ntmps32
  go_wp2_with fail
  refine (rfright_k (HA.out.later S0.out.below) HLA.out).mono ?_
  rintro e w1 ⟨rfl, hb⟩
  have S2 := Lib.hid (S0.out.later hb)
  clear hb S0
  obtain ⟨t1_0, t1_1, t1_2, t1_3⟩ := (S2.out.box _ (List.mem_cons_of_mem _ List.mem_cons_self) : Fb (w.heap.size + 1, 34, [.int .i64 sb, .slice ab nb cb, .int .i64 1, .slice bb mb db]) _).cells4
  go_wp2_with fail
  clear t1_0 t1_1 t1_2 t1_3
  refine (rfright_k (HB.out.later S2.out.below) HLB.out).mono ?_
  rintro e w3 ⟨rfl, hb⟩
  have S4 := Lib.hid (S2.out.later hb)
  clear hb S2
  obtain ⟨t2_0, t2_1, t2_2, t2_3⟩ := (S4.out.box _ (List.mem_cons_of_mem _ (List.mem_cons_of_mem _ List.mem_cons_self)) : Fb (w.heap.size, 34, [.int .i64 sa, .slice aa na ca, .int .i64 1, .slice ba ma da]) _).cells4
  obtain ⟨t3_0, t3_1, t3_2, t3_3⟩ := (S4.out.box _ (List.mem_cons_of_mem _ List.mem_cons_self) : Fb (w.heap.size + 1, 34, [.int .i64 sb, .slice ab nb cb, .int .i64 1, .slice bb mb db]) _).cells4
  go_wp2_with fail
  clear t2_0 t2_1 t2_2 t2_3 t3_0 t3_1 t3_2 t3_3
  refine (rmul_k (HaP.out.later S4.out.below) (HbQ.out.later S4.out.below) LX0.out LY0.out).mono ?_
  rintro e w5 ⟨s5, a5, n5, c5, rfl, hn, hb, hf⟩
  have E5 := Lib.hid hn.1
  have S6 := Lib.hid ((S4.out.ret hb hn.2 hf).put [.int .i64 s5, .slice a5 n5 c5] 32)
  clear hn hb hf S4
  obtain ⟨t4_0, t4_1, t4_2, t4_3⟩ := (S6.out.box _ (List.mem_cons_of_mem _ (List.mem_cons_of_mem _ (List.mem_cons_of_mem _ List.mem_cons_self))) : Fb (w.heap.size, 34, [.int .i64 sa, .slice aa na ca, .int .i64 1, .slice ba ma da]) _).cells4
  obtain ⟨t5_0, t5_1, t5_2, t5_3⟩ := (S6.out.box _ (List.mem_cons_of_mem _ (List.mem_cons_of_mem _ List.mem_cons_self)) : Fb (w.heap.size + 1, 34, [.int .i64 sb, .slice ab nb cb, .int .i64 1, .slice bb mb db]) _).cells4
  go_wp2_with fail
  clear t4_0 t4_1 t4_2 t4_3 t5_0 t5_1 t5_2 t5_3
  refine (rmul_k (HbP.out.later S6.out.below) (HaQ.out.later S6.out.below) LX1.out LY1.out).mono ?_
  rintro e w7 ⟨s7, a7, n7, c7, rfl, hn, hb, hf⟩
  have E7 := Lib.hid hn.1
  have S8 := Lib.hid ((S6.out.ret hb hn.2 hf).put [.int .i64 s7, .slice a7 n7 c7] 32)
  clear hn hb hf S6
  obtain ⟨t6_0, t6_1, t6_2, t6_3⟩ := (S8.out.box _ (List.mem_cons_of_mem _ (List.mem_cons_of_mem _ (List.mem_cons_of_mem _ (List.mem_cons_of_mem _ List.mem_cons_self)))) : Fb (w.heap.size, 34, [.int .i64 sa, .slice aa na ca, .int .i64 1, .slice ba ma da]) _).cells4
  obtain ⟨t7_0, t7_1, t7_2, t7_3⟩ := (S8.out.box _ (List.mem_cons_of_mem _ (List.mem_cons_of_mem _ (List.mem_cons_of_mem _ List.mem_cons_self))) : Fb (w.heap.size + 1, 34, [.int .i64 sb, .slice ab nb cb, .int .i64 1, .slice bb mb db]) _).cells4
  go_wp2_with fail
  clear t6_0 t6_1 t6_2 t6_3 t7_0 t7_1 t7_2 t7_3
  refine (rmul_k (HaQ.out.later S8.out.below) (HbQ.out.later S8.out.below) LX2.out LY2.out).mono ?_
  rintro e w9 ⟨s9, a9, n9, c9, rfl, hn, hb, hf⟩
  have E9 := Lib.hid hn.1
  have S10 := Lib.hid ((S8.out.ret hb hn.2 hf).put [.int .i64 s9, .slice a9 n9 c9] 32)
  clear hn hb hf S8
  obtain ⟨t8_0, t8_1⟩ := (S10.out.box _ (List.mem_cons_of_mem _ (List.mem_cons_of_mem _ List.mem_cons_self)) : Fb (w5.heap.size, 32, [.int .i64 s5, .slice a5 n5 c5]) _).cells2
  obtain ⟨t9_0, t9_1⟩ := (S10.out.box _ (List.mem_cons_of_mem _ List.mem_cons_self) : Fb (w7.heap.size, 32, [.int .i64 s7, .slice a7 n7 c7]) _).cells2
  go_wp2_with fail
  clear t8_0 t8_1 t9_0 t9_1
  refine (radd_k (S10.out.num (v := .slice a5 n5 c5) (z := (a.num * (b.den : Int))) (List.mem_cons_of_mem _ (List.mem_cons_of_mem _ List.mem_cons_self)) E5.out) (S10.out.num (v := .slice a7 n7 c7) (z := (b.num * (a.den : Int))) (List.mem_cons_of_mem _ List.mem_cons_self) E7.out) LX3.out LY3.out).mono ?_
  rintro e w11 ⟨s11, a11, n11, c11, rfl, hn, hb, hf⟩
  have E11 := Lib.hid hn.1
  have S12 := Lib.hid ((S10.out.ret hb hn.2 hf).put [.int .i64 s11, .slice a11 n11 c11] 32)
  clear hn hb hf S10
  obtain ⟨t10_0, t10_1⟩ := (S12.out.box _ List.mem_cons_self : Fb (w11.heap.size, 32, [.int .i64 s11, .slice a11 n11 c11]) _).cells2
  obtain ⟨t11_0, t11_1⟩ := (S12.out.box _ (List.mem_cons_of_mem _ List.mem_cons_self) : Fb (w9.heap.size, 32, [.int .i64 s9, .slice a9 n9 c9]) _).cells2
  go_wp2_with fail
  clear t10_0 t10_1 t11_0 t11_1
  refine (rfnew_r (S12.out.num (v := .slice a11 n11 c11) (z := ((a.num * (b.den : Int)) + (b.num * (a.den : Int)))) List.mem_cons_self E11.out) (S12.out.num (v := .slice a9 n9 c9) (z := ((a.den : Int) * (b.den : Int))) (List.mem_cons_of_mem _ List.mem_cons_self) E9.out) LX4.out LY4.out HQ0.out HRAT.out).mono ?_
  rintro e w13 ⟨s13, a13, n13, c13, b13, m13, d13, rfl, hr, hb, hf, hg⟩
  have E13 := Lib.hid hr.1.1
  have HFR : Hid (Fresh w.heap.size (.slice a13 n13 c13) ∧ Fresh w.heap.size (.slice b13 m13 d13)) := ⟨hf.mono S12.out.below.size, hg.mono S12.out.below.size⟩
  have S14 := Lib.hid (S12.out.ret2 hb hr.1.2 hf hr.2.2 hg)
  clear hr hb hf hg S12
  obtain ⟨r0, r1, r2, r3⟩ := (S14.out.box _ (List.mem_cons_of_mem _ (List.mem_cons_of_mem _ (List.mem_cons_of_mem _ (List.mem_cons_of_mem _ List.mem_cons_self)))) : Fb (w.heap.size + 1 + 1, 34, [.int .i64 0, .slice none 0 0, .int .i64 0, .slice none 0 0]) _).cells4
  obtain ⟨f0, f1, f2, f3⟩ := (S14.out.box _ (List.mem_cons_of_mem _ (List.mem_cons_of_mem _ (List.mem_cons_of_mem _ (List.mem_cons_of_mem _ List.mem_cons_self)))) : Fb (w.heap.size + 1 + 1, 34, [.int .i64 0, .slice none 0 0, .int .i64 0, .slice none 0 0]) _).free4
  go_wp2_with fail
  have ZZ := Lib.hid (S14.out.set4 (pre := [_, _, _, _]) (.int .i64 s13) (.slice a13 n13 c13) (.int .i64 1) (.slice b13 m13 d13))
  exact bodyPost_ret (v := .tuple #[.agg #[.int .i64 s13, .slice a13 n13 c13, .int .i64 1, .slice b13 m13 d13], .int .i64 0]) (by simp [results, Try.results32, go_sem, r0, r1, r2, r3]) rfl ⟨_, _, _, _, _, _, _, rfl, ⟨ZZ.out.num (v := .slice a13 n13 c13) (z := ((a + b) : Rat).num) List.mem_cons_self E13.out, ZZ.out.num (v := .slice b13 m13 d13) (z := (((a + b) : Rat).den : Int)) (List.mem_cons_of_mem _ List.mem_cons_self) (den_sign _).symm⟩, ZZ.out.below, HFR.out.1, HFR.out.2⟩

set_option maxHeartbeats 2000000 in
theorem rfsub_k {w : World} {sa : Int} {aa ba : Option Addr} {na ca ma da : Nat} {sb : Int} {ab bb : Option Addr} {nb cb mb db : Nat} {a b : Rat} (ha : Fr w sa (.slice aa na ca) (.slice ba ma da) a) (hb : Fr w sb (.slice ab nb cb) (.slice bb mb db) b) (La : FSz 1000 a) (Lb : FSz 1000 b) :
    Calls Try.prog 36 #[.agg #[.int .i64 sa, .slice aa na ca, .int .i64 1, .slice ba ma da], .agg #[.int .i64 sb, .slice ab nb cb, .int .i64 1, .slice bb mb db]] w (FVE (a - b) 0 w) := by
  have HRAT : Hid (Rat.divInt ((a.num * (b.den : Int)) - (b.num * (a.den : Int))) ((a.den : Int) * (b.den : Int)) = (a - b)) := rat_sub a b
  have HQ0 : Hid (((a.den : Int) * (b.den : Int)) ≠ 0) := Int.mul_ne_zero (den_ne a) (den_ne b)
  have LX0 : Hid (Len 100000 a.num) := Sz.len La.1
  have LY0 : Hid (Len 100000 (b.den : Int)) := Sz.len Lb.2
  have LX1 : Hid (Len 100000 b.num) := Sz.len Lb.1
  have LY1 : Hid (Len 100000 (a.den : Int)) := Sz.len La.2
  have LX2 : Hid (Len 100000 (a.den : Int)) := Sz.len La.2
  have LY2 : Hid (Len 100000 (b.den : Int)) := Sz.len Lb.2
  have LX3 : Hid (Len 100000 (a.num * (b.den : Int))) := Sz.len (Sz.mul La.1 Lb.2)
  have LY3 : Hid (Len 100000 (b.num * (a.den : Int))) := Sz.len (Sz.mul Lb.1 La.2)
  have LX4 : Hid (Len 100000 ((a.num * (b.den : Int)) - (b.num * (a.den : Int)))) := Sz.len (Sz.sub (Sz.mul La.1 Lb.2) (Sz.mul Lb.1 La.2))
  have LY4 : Hid (Len 100000 ((a.den : Int) * (b.den : Int))) := Sz.len (Sz.mul La.2 Lb.2)
  have HA := Lib.hid ha
  have HB := Lib.hid hb
  have HLA := Lib.hid La
  have HLB := Lib.hid Lb
  have HaP := Lib.hid ha.1
  have HaQ := Lib.hid ha.2
  have HbP := Lib.hid hb.1
  have HbQ := Lib.hid hb.2
  have S0 := Lib.hid (((((Sf.start w)).put [.int .i64 sa, .slice aa na ca, .int .i64 1, .slice ba ma da] 34).put' (n := w.heap.size + 1) (by simp) [.int .i64 sb, .slice ab nb cb, .int .i64 1, .slice bb mb db] 34).put' (n := w.heap.size + 1 + 1) (by simp) [.int .i64 0, .slice none 0 0, .int .i64 0, .slice none 0 0] 34)
  clear ha hb La Lb
  go_enter Try.func36, Try.ntmps36
  go_wp2_with fail
  refine (rfright_k (HA.out.later S0.out.below) HLA.out).mono ?_
  rintro e w1 ⟨rfl, hb⟩
  have S2 := Lib.hid (S0.out.later hb)
  clear hb S0
  obtain ⟨t1_0, t1_1, t1_2, t1_3⟩ := (S2.out.box _ (List.mem_cons_of_mem _ List.mem_cons_self) : Fb (w.heap.size + 1, 34, [.int .i64 sb, .slice ab nb cb, .int .i64 1, .slice bb mb db]) _).cells4
  go_wp2_with fail
  clear t1_0 t1_1 t1_2 t1_3
  refine (rfright_k (HB.out.later S2.out.below) HLB.out).mono ?_
  rintro e w3 ⟨rfl, hb⟩
  have S4 := Lib.hid (S2.out.later hb)
  clear hb S2
  obtain ⟨t2_0, t2_1, t2_2, t2_3⟩ := (S4.out.box _ (List.mem_cons_of_mem _ (List.mem_cons_of_mem _ List.mem_cons_self)) : Fb (w.heap.size, 34, [.int .i64 sa, .slice aa na ca, .int .i64 1, .slice ba ma da]) _).cells4
  obtain ⟨t3_0, t3_1, t3_2, t3_3⟩ := (S4.out.box _ (List.mem_cons_of_mem _ List.mem_cons_self) : Fb (w.heap.size + 1, 34, [.int .i64 sb, .slice ab nb cb, .int .i64 1, .slice bb mb db]) _).cells4
  go_wp2_with fail
  clear t2_0 t2_1 t2_2 t2_3 t3_0 t3_1 t3_2 t3_3
  refine (rmul_k (HaP.out.later S4.out.below) (HbQ.out.later S4.out.below) LX0.out LY0.out).mono ?_
  rintro e w5 ⟨s5, a5, n5, c5, rfl, hn, hb, hf⟩
  have E5 := Lib.hid hn.1
  have S6 := Lib.hid ((S4.out.ret hb hn.2 hf).put [.int .i64 s5, .slice a5 n5 c5] 32)
  clear hn hb hf S4
  obtain ⟨t4_0, t4_1, t4_2, t4_3⟩ := (S6.out.box _ (List.mem_cons_of_mem _ (List.mem_cons_of_mem _ (List.mem_cons_of_mem _ List.mem_cons_self))) : Fb (w.heap.size, 34, [.int .i64 sa, .slice aa na ca, .int .i64 1, .slice ba ma da]) _).cells4
  obtain ⟨t5_0, t5_1, t5_2, t5_3⟩ := (S6.out.box _ (List.mem_cons_of_mem _ (List.mem_cons_of_mem _ List.mem_cons_self)) : Fb (w.heap.size + 1, 34, [.int .i64 sb, .slice ab nb cb, .int .i64 1, .slice bb mb db]) _).cells4
  go_wp2_with fail
  clear t4_0 t4_1 t4_2 t4_3 t5_0 t5_1 t5_2 t5_3
  refine (rmul_k (HbP.out.later S6.out.below) (HaQ.out.later S6.out.below) LX1.out LY1.out).mono ?_
  rintro e w7 ⟨s7, a7, n7, c7, rfl, hn, hb, hf⟩
  have E7 := Lib.hid hn.1
  have S8 := Lib.hid ((S6.out.ret hb hn.2 hf).put [.int .i64 s7, .slice a7 n7 c7] 32)
  clear hn hb hf S6
  obtain ⟨t6_0, t6_1, t6_2, t6_3⟩ := (S8.out.box _ (List.mem_cons_of_mem _ (List.mem_cons_of_mem _ (List.mem_cons_of_mem _ (List.mem_cons_of_mem _ List.mem_cons_self)))) : Fb (w.heap.size, 34, [.int .i64 sa, .slice aa na ca, .int .i64 1, .slice ba ma da]) _).cells4
  obtain ⟨t7_0, t7_1, t7_2, t7_3⟩ := (S8.out.box _ (List.mem_cons_of_mem _ (List.mem_cons_of_mem _ (List.mem_cons_of_mem _ List.mem_cons_self))) : Fb (w.heap.size + 1, 34, [.int .i64 sb, .slice ab nb cb, .int .i64 1, .slice bb mb db]) _).cells4
  go_wp2_with fail
  clear t6_0 t6_1 t6_2 t6_3 t7_0 t7_1 t7_2 t7_3
  refine (rmul_k (HaQ.out.later S8.out.below) (HbQ.out.later S8.out.below) LX2.out LY2.out).mono ?_
  rintro e w9 ⟨s9, a9, n9, c9, rfl, hn, hb, hf⟩
  have E9 := Lib.hid hn.1
  have S10 := Lib.hid ((S8.out.ret hb hn.2 hf).put [.int .i64 s9, .slice a9 n9 c9] 32)
  clear hn hb hf S8
  obtain ⟨t8_0, t8_1⟩ := (S10.out.box _ (List.mem_cons_of_mem _ (List.mem_cons_of_mem _ List.mem_cons_self)) : Fb (w5.heap.size, 32, [.int .i64 s5, .slice a5 n5 c5]) _).cells2
  obtain ⟨t9_0, t9_1⟩ := (S10.out.box _ (List.mem_cons_of_mem _ List.mem_cons_self) : Fb (w7.heap.size, 32, [.int .i64 s7, .slice a7 n7 c7]) _).cells2
  go_wp2_with fail
  clear t8_0 t8_1 t9_0 t9_1
  refine (rsub_k (S10.out.num (v := .slice a5 n5 c5) (z := (a.num * (b.den : Int))) (List.mem_cons_of_mem _ (List.mem_cons_of_mem _ List.mem_cons_self)) E5.out) (S10.out.num (v := .slice a7 n7 c7) (z := (b.num * (a.den : Int))) (List.mem_cons_of_mem _ List.mem_cons_self) E7.out) LX3.out LY3.out).mono ?_
  rintro e w11 ⟨s11, a11, n11, c11, rfl, hn, hb, hf⟩
  have E11 := Lib.hid hn.1
  have S12 := Lib.hid ((S10.out.ret hb hn.2 hf).put [.int .i64 s11, .slice a11 n11 c11] 32)
  clear hn hb hf S10
  obtain ⟨t10_0, t10_1⟩ := (S12.out.box _ List.mem_cons_self : Fb (w11.heap.size, 32, [.int .i64 s11, .slice a11 n11 c11]) _).cells2
  obtain ⟨t11_0, t11_1⟩ := (S12.out.box _ (List.mem_cons_of_mem _ List.mem_cons_self) : Fb (w9.heap.size, 32, [.int .i64 s9, .slice a9 n9 c9]) _).cells2
  go_wp2_with fail
  clear t10_0 t10_1 t11_0 t11_1
  refine (rfnew_r (S12.out.num (v := .slice a11 n11 c11) (z := ((a.num * (b.den : Int)) - (b.num * (a.den : Int)))) List.mem_cons_self E11.out) (S12.out.num (v := .slice a9 n9 c9) (z := ((a.den : Int) * (b.den : Int))) (List.mem_cons_of_mem _ List.mem_cons_self) E9.out) LX4.out LY4.out HQ0.out HRAT.out).mono ?_
  rintro e w13 ⟨s13, a13, n13, c13, b13, m13, d13, rfl, hr, hb, hf, hg⟩
  have E13 := Lib.hid hr.1.1
  have HFR : Hid (Fresh w.heap.size (.slice a13 n13 c13) ∧ Fresh w.heap.size (.slice b13 m13 d13)) := ⟨hf.mono S12.out.below.size, hg.mono S12.out.below.size⟩
  have S14 := Lib.hid (S12.out.ret2 hb hr.1.2 hf hr.2.2 hg)
  clear hr hb hf hg S12
  obtain ⟨r0, r1, r2, r3⟩ := (S14.out.box _ (List.mem_cons_of_mem _ (List.mem_cons_of_mem _ (List.mem_cons_of_mem _ (List.mem_cons_of_mem _ List.mem_cons_self)))) : Fb (w.heap.size + 1 + 1, 34, [.int .i64 0, .slice none 0 0, .int .i64 0, .slice none 0 0]) _).cells4
  obtain ⟨f0, f1, f2, f3⟩ := (S14.out.box _ (List.mem_cons_of_mem _ (List.mem_cons_of_mem _ (List.mem_cons_of_mem _ (List.mem_cons_of_mem _ List.mem_cons_self)))) : Fb (w.heap.size + 1 + 1, 34, [.int .i64 0, .slice none 0 0, .int .i64 0, .slice none 0 0]) _).free4
  go_wp2_with fail
  have ZZ := Lib.hid (S14.out.set4 (pre := [_, _, _, _]) (.int .i64 s13) (.slice a13 n13 c13) (.int .i64 1) (.slice b13 m13 d13))
  exact bodyPost_ret (v := .tuple #[.agg #[.int .i64 s13, .slice a13 n13 c13, .int .i64 1, .slice b13 m13 d13], .int .i64 0]) (by simp [results, Try.results36, go_sem, r0, r1, r2, r3]) rfl ⟨_, _, _, _, _, _, _, rfl, ⟨ZZ.out.num (v := .slice a13 n13 c13) (z := ((a - b) : Rat).num) List.mem_cons_self E13.out, ZZ.out.num (v := .slice b13 m13 d13) (z := (((a - b) : Rat).den : Int)) (List.mem_cons_of_mem _ List.mem_cons_self) (den_sign _).symm⟩, ZZ.out.below, HFR.out.1, HFR.out.2⟩

set_option maxHeartbeats 2000000 in
theorem rfcmp_k {w : World} {sa : Int} {aa ba : Option Addr} {na ca ma da : Nat} {sb : Int} {ab bb : Option Addr} {nb cb mb db : Nat} {a b : Rat} (ha : Fr w sa (.slice aa na ca) (.slice ba ma da) a) (hb : Fr w sb (.slice ab nb cb) (.slice bb mb db) b) (La : FSz 1000 a) (Lb : FSz 1000 b) :
    Calls Try.prog 23 #[.agg #[.int .i64 sa, .slice aa na ca, .int .i64 1, .slice ba ma da], .agg #[.int .i64 sb, .slice ab nb cb, .int .i64 1, .slice bb mb db]] w (fun e w' => e = .returned (.int .i64 (cmpR a b)) ∧ RowKit.Below w.heap.size w w') := by
  have HC := Lib.hid (cmp_cross a b)
  have LX0 : Hid (Len 100000 a.num) := Sz.len La.1
  have LY0 : Hid (Len 100000 (b.den : Int)) := Sz.len Lb.2
  have LX1 : Hid (Len 100000 b.num) := Sz.len Lb.1
  have LY1 : Hid (Len 100000 (a.den : Int)) := Sz.len La.2
  have LX2 : Hid (Len 100000 (a.num * (b.den : Int))) := Sz.len (Sz.mul La.1 Lb.2)
  have LY2 : Hid (Len 100000 (b.num * (a.den : Int))) := Sz.len (Sz.mul Lb.1 La.2)
  have HA := Lib.hid ha
  have HB := Lib.hid hb
  have HLA := Lib.hid La
  have HLB := Lib.hid Lb
  have HaP := Lib.hid ha.1
  have HaQ := Lib.hid ha.2
  have HbP := Lib.hid hb.1
  have HbQ := Lib.hid hb.2
  have S0 := Lib.hid ((((Sf.start w)).put [.int .i64 sa, .slice aa na ca, .int .i64 1, .slice ba ma da] 34).put' (n := w.heap.size + 1) (by simp) [.int .i64 sb, .slice ab nb cb, .int .i64 1, .slice bb mb db] 34)
  clear ha hb La Lb
  go_enter Try.func23, Try.ntmps23
  go_wp2_with fail
  refine (rfright_k (HA.out.later S0.out.below) HLA.out).mono ?_
  rintro e w1 ⟨rfl, hb⟩
  have S2 := Lib.hid (S0.out.later hb)
  clear hb S0
  obtain ⟨t1_0, t1_1, t1_2, t1_3⟩ := (S2.out.box _ List.mem_cons_self : Fb (w.heap.size + 1, 34, [.int .i64 sb, .slice ab nb cb, .int .i64 1, .slice bb mb db]) _).cells4
  go_wp2_with fail
  clear t1_0 t1_1 t1_2 t1_3
  refine (rfright_k (HB.out.later S2.out.below) HLB.out).mono ?_
  rintro e w3 ⟨rfl, hb⟩
  have S4 := Lib.hid (S2.out.later hb)
  clear hb S2
  obtain ⟨t2_0, t2_1, t2_2, t2_3⟩ := (S4.out.box _ (List.mem_cons_of_mem _ List.mem_cons_self) : Fb (w.heap.size, 34, [.int .i64 sa, .slice aa na ca, .int .i64 1, .slice ba ma da]) _).cells4
  obtain ⟨t3_0, t3_1, t3_2, t3_3⟩ := (S4.out.box _ List.mem_cons_self : Fb (w.heap.size + 1, 34, [.int .i64 sb, .slice ab nb cb, .int .i64 1, .slice bb mb db]) _).cells4
  go_wp2_with fail
  clear t2_0 t2_1 t2_2 t2_3 t3_0 t3_1 t3_2 t3_3
  refine (rmul_k (HaP.out.later S4.out.below) (HbQ.out.later S4.out.below) LX0.out LY0.out).mono ?_
  rintro e w5 ⟨s5, a5, n5, c5, rfl, hn, hb, hf⟩
  have E5 := Lib.hid hn.1
  have S6 := Lib.hid ((S4.out.ret hb hn.2 hf).put [.int .i64 s5, .slice a5 n5 c5] 32)
  clear hn hb hf S4
  obtain ⟨t4_0, t4_1, t4_2, t4_3⟩ := (S6.out.box _ (List.mem_cons_of_mem _ (List.mem_cons_of_mem _ List.mem_cons_self)) : Fb (w.heap.size, 34, [.int .i64 sa, .slice aa na ca, .int .i64 1, .slice ba ma da]) _).cells4
  obtain ⟨t5_0, t5_1, t5_2, t5_3⟩ := (S6.out.box _ (List.mem_cons_of_mem _ List.mem_cons_self) : Fb (w.heap.size + 1, 34, [.int .i64 sb, .slice ab nb cb, .int .i64 1, .slice bb mb db]) _).cells4
  go_wp2_with fail
  clear t4_0 t4_1 t4_2 t4_3 t5_0 t5_1 t5_2 t5_3
  refine (rmul_k (HbP.out.later S6.out.below) (HaQ.out.later S6.out.below) LX1.out LY1.out).mono ?_
  rintro e w7 ⟨s7, a7, n7, c7, rfl, hn, hb, hf⟩
  have E7 := Lib.hid hn.1
  have S8 := Lib.hid ((S6.out.ret hb hn.2 hf).put [.int .i64 s7, .slice a7 n7 c7] 32)
  clear hn hb hf S6
  obtain ⟨t6_0, t6_1⟩ := (S8.out.box _ (List.mem_cons_of_mem _ List.mem_cons_self) : Fb (w5.heap.size, 32, [.int .i64 s5, .slice a5 n5 c5]) _).cells2
  obtain ⟨t7_0, t7_1⟩ := (S8.out.box _ List.mem_cons_self : Fb (w7.heap.size, 32, [.int .i64 s7, .slice a7 n7 c7]) _).cells2
  go_wp2_with fail
  clear t6_0 t6_1 t7_0 t7_1
  refine (rcmp_t (S8.out.num (v := .slice a5 n5 c5) (z := (a.num * (b.den : Int))) (List.mem_cons_of_mem _ List.mem_cons_self) E5.out) (S8.out.num (v := .slice a7 n7 c7) (z := (b.num * (a.den : Int))) List.mem_cons_self E7.out) HC.out).mono ?_
  rintro e w9 ⟨rfl, hb⟩
  have S10 := Lib.hid (S8.out.later hb)
  clear hb S8
  go_wp2_with fail
  go_ret
  exact ⟨rfl, S10.out.below⟩

end Go.Proofs.Ytmhjejnkphdjpaa.Bi

namespace Go.Proofs.Ytmhjejnkphdjpaa.Bi
open Go.RowKit

theorem rfsign_k {w : World} {sa : Int} {aa ba : Option Addr} {na ca ma da : Nat} {a : Rat} (ha : Fr w sa (.slice aa na ca) (.slice ba ma da) a) (La : FSz 1000 a) :
    Calls Try.prog 24 #[.agg #[.int .i64 sa, .slice aa na ca, .int .i64 1, .slice ba ma da]] w fun e w' => e = .returned (.int .i64 a.num.sign) ∧ RowKit.Below w.heap.size w w' := by
  have HA := Lib.hid ha
  have HLA := Lib.hid La
  have HaP := Lib.hid ha.1
  have HaQ := Lib.hid ha.2
  have LaP : Hid (Len 100000 a.num) := Sz.len La.1
  have LaQ : Hid (Len 100000 (a.den : Int)) := Sz.len La.2
  have S0 := Lib.hid (((Sf.start w).put [.int .i64 sa, .slice aa na ca, .int .i64 1, .slice ba ma da] 34))
  clear ha La
  go_enter Try.func24, Try.ntmps24
  go_wp2_with fail
  refine (rfright_k (HA.out.later S0.out.below) HLA.out).mono ?_
  rintro e w1 ⟨rfl, hb⟩
  have S1 := Lib.hid (S0.out.later hb)
  clear hb S0
  obtain ⟨q0, q1, q2, q3⟩ := (S1.out.box _ List.mem_cons_self : Fb (w.heap.size, 34, [.int .i64 sa, .slice aa na ca, .int .i64 1, .slice ba ma da]) _).cells4
  go_wp2_with fail
  go_ret
  have hs := HaP.out.1
  subst hs
  exact ⟨rfl, S1.out.below⟩

theorem rfcmp_r {w : World} {sa : Int} {aa ba : Option Addr} {na ca ma da : Nat} {sb : Int} {ab bb : Option Addr} {nb cb mb db : Nat} {a b : Rat} {k : Int} (ha : Fr w sa (.slice aa na ca) (.slice ba ma da) a) (hb : Fr w sb (.slice ab nb cb) (.slice bb mb db) b) (La : FSz 1000 a) (Lb : FSz 1000 b) (h : cmpR a b = k) :
    Calls Try.prog 23 #[.agg #[.int .i64 sa, .slice aa na ca, .int .i64 1, .slice ba ma da], .agg #[.int .i64 sb, .slice ab nb cb, .int .i64 1, .slice bb mb db]] w (fun e w' => e = .returned (.int .i64 k) ∧ RowKit.Below w.heap.size w w') := by subst h; exact rfcmp_k ha hb La Lb

set_option maxHeartbeats 1000000 in
theorem rfof_k (p q : Int) (hp : -9223372036854775808 ≤ p ∧ p ≤ 9223372036854775807) (hq : -9223372036854775808 ≤ q ∧ q ≤ 9223372036854775807) (h0 : q ≠ 0) (w : World) : Calls Try.prog 25 #[.int .i64 p, .int .i64 q] w (FVE (Rat.divInt p q) 0 w) := by
  have HP := Lib.hid hp
  have HQ := Lib.hid hq
  have H0 := Lib.hid h0
  have LP : Hid (Len 100000 p) := Len.of (by omega)
  have LQ : Hid (Len 100000 q) := Len.of (by omega)
  have S0 := Lib.hid ((Sf.start w).put [.int .i64 0, .slice none 0 0, .int .i64 0, .slice none 0 0] 34)
  clear hp hq h0
  go_enter Try.func25, Try.ntmps25
  go_wp2_with fail
  refine (rof_k p HP.out _).mono ?_
  rintro e w1 ⟨g0, p0, k0, j0, rfl, hn, hb, hf⟩
  have T1 := Lib.hid (S0.out.ret hb hn.2 hf)
  have E0 := Lib.hid hn.1
  clear hn hb hf S0
  go_wp2_with fail
  refine (rof_k q HQ.out _).mono ?_
  rintro e w1' ⟨g1, p1, k1, j1, rfl, hn, hb, hf⟩
  have T1' := Lib.hid (T1.out.ret hb hn.2 hf)
  have E1 := Lib.hid hn.1
  clear hn hb hf T1
  go_wp2_with fail
  refine (rfnew_r (T1'.out.num (v := .slice p0 k0 j0) (z := p) (List.mem_cons_of_mem _ List.mem_cons_self) E0.out) (T1'.out.num (v := .slice p1 k1 j1) (z := q) List.mem_cons_self E1.out) LP.out LQ.out H0.out rfl).mono ?_
  rintro e w2 ⟨s9, a9, n9, c9, b9, m9, d9, rfl, hr, hb, hf, hg⟩
  have T2 := Lib.hid (T1'.out.ret2 hb hr.1.2 hf hr.2.2 hg)
  have E9 := Lib.hid hr.1.1
  have F9 := Lib.hid (hf.mono T1'.out.below.size)
  have G9 := Lib.hid (hg.mono T1'.out.below.size)
  clear hr hb hf hg T1'
  have yr : Fb (w.heap.size, 34, [.int .i64 0, .slice none 0 0, .int .i64 0, .slice none 0 0]) _ := T2.out.box _ List.mem_cons_self
  obtain ⟨r0, r1, r2, r3⟩ := yr.cells4
  obtain ⟨f0, f1, f2, f3⟩ := yr.free4
  clear yr
  go_wp2_with fail
  have T3 := Lib.hid (T2.out.set4 (pre := []) (.int .i64 s9) (.slice a9 n9 c9) (.int .i64 1) (.slice b9 m9 d9))
  exact bodyPost_ret (v := .tuple #[.agg #[.int .i64 s9, .slice a9 n9 c9, .int .i64 1, .slice b9 m9 d9], .int .i64 0]) (by simp [results, Try.results25, go_sem, r0, r1, r2, r3]) rfl
    ⟨_, _, _, _, _, _, _, rfl, ⟨T3.out.num (v := .slice a9 n9 c9) (z := (Rat.divInt p q).num) List.mem_cons_self E9.out, T3.out.num (v := .slice b9 m9 d9) (z := ((Rat.divInt p q).den : Int)) (List.mem_cons_of_mem _ List.mem_cons_self) (den_sign _).symm⟩, T3.out.below, F9.out, G9.out⟩

theorem rfof_r {r : Rat} (p q : Int) (hp : -9223372036854775808 ≤ p ∧ p ≤ 9223372036854775807) (hq : -9223372036854775808 ≤ q ∧ q ≤ 9223372036854775807) (h0 : q ≠ 0) (h : Rat.divInt p q = r) (w : World) : Calls Try.prog 25 #[.int .i64 p, .int .i64 q] w (FVE r 0 w) := by subst h; exact rfof_k p q hp hq h0 w

set_option maxHeartbeats 2000000 in
theorem rfint_k (z : Int) (h : -9223372036854775808 ≤ z ∧ z ≤ 9223372036854775807) (w : World) : Calls Try.prog 21 #[.int .i64 z] w (FV (z : Rat) w) := by
  have H := Lib.hid h
  have H1 : Hid (-9223372036854775808 ≤ (1 : Int) ∧ (1 : Int) ≤ 9223372036854775807) := ⟨by omega, by omega⟩
  have H2 : Hid ((1 : Int) ≠ 0) := Lib.hid (by omega)
  have S0 := Lib.hid (((Sf.start w)).put [.int .i64 0, .slice none 0 0, .int .i64 0, .slice none 0 0] 34)
  clear h
  go_enter Try.func21, Try.ntmps21
  go_wp2_with fail
  refine (rfof_r z 1 H.out H1.out H2.out (rat_int z) _).mono ?_
  rintro e w1 ⟨s1, a1, n1, c1, b1, m1, d1, rfl, hr, hb, hf, hg⟩
  have E1 := Lib.hid hr.1.1
  have HFR : Hid (Fresh w.heap.size (.slice a1 n1 c1) ∧ Fresh w.heap.size (.slice b1 m1 d1)) := ⟨hf.mono S0.out.below.size, hg.mono S0.out.below.size⟩
  have S2 := Lib.hid ((S0.out.ret2 hb hr.1.2 hf hr.2.2 hg).put [.int .i64 s1, .slice a1 n1 c1, .int .i64 1, .slice b1 m1 d1] 34)
  clear hr hb hf hg S0
  obtain ⟨t1_0, t1_1, t1_2, t1_3⟩ := (S2.out.box _ List.mem_cons_self : Fb (w1.heap.size, 34, [.int .i64 s1, .slice a1 n1 c1, .int .i64 1, .slice b1 m1 d1]) _).cells4
  obtain ⟨r0, r1, r2, r3⟩ := (S2.out.box _ (List.mem_cons_of_mem _ List.mem_cons_self) : Fb (w.heap.size, 34, [.int .i64 0, .slice none 0 0, .int .i64 0, .slice none 0 0]) _).cells4
  obtain ⟨f0, f1, f2, f3⟩ := (S2.out.box _ (List.mem_cons_of_mem _ List.mem_cons_self) : Fb (w.heap.size, 34, [.int .i64 0, .slice none 0 0, .int .i64 0, .slice none 0 0]) _).free4
  go_wp2_with fail
  clear t1_0 t1_1 t1_2 t1_3
  have ZZ := Lib.hid (S2.out.set4 (pre := [_]) (.int .i64 s1) (.slice a1 n1 c1) (.int .i64 1) (.slice b1 m1 d1))
  exact bodyPost_ret (v := .agg #[.int .i64 s1, .slice a1 n1 c1, .int .i64 1, .slice b1 m1 d1]) (by simp [results, Try.results21, go_sem, r0, r1, r2, r3]) rfl ⟨_, _, _, _, _, _, _, rfl, ⟨ZZ.out.num (v := .slice a1 n1 c1) (z := ((z : Rat)).num) List.mem_cons_self E1.out, ZZ.out.num (v := .slice b1 m1 d1) (z := (((z : Rat)).den : Int)) (List.mem_cons_of_mem _ List.mem_cons_self) (den_sign _).symm⟩, ZZ.out.below, HFR.out.1, HFR.out.2⟩

end Go.Proofs.Ytmhjejnkphdjpaa.Bi

namespace Go.Proofs.Ytmhjejnkphdjpaa.Sc

/-- A certificate. -/
structure Ct where
  sc : Int
  fr : Int
  un : Int
  ut : Int
  pm : Int
  dr : Int
/-- It is valid. -/
def Ct.ok (c : Ct) : Bool := decide (0 ≤ c.sc) && (decide (0 ≤ c.fr) && (decide (c.fr ≤ c.un) && (decide (c.un ≤ 100000) && ((decide (0 ≤ c.ut) && decide (c.ut ≤ 1099511627776)) && ((decide (0 ≤ c.pm) && decide (c.pm ≤ 1000)) && (decide (0 ≤ c.dr) && decide (c.dr ≤ 10000000)))))))
/-- It covers a scale on a day. -/
def Ct.cov (c : Ct) (s d : Int) : Bool := c.ok && (decide (c.sc = s) && (decide (c.fr ≤ d) && decide (d ≤ c.un)))
/-- The certificate in force: its place and itself; one more certificate at the end takes its place if it covers and begins no earlier. -/
def step (s d : Int) (o : Option (Nat × Ct)) (i : Nat) (c : Ct) : Option (Nat × Ct) :=
  if c.cov s d = true then (match o with | none => some (i, c) | some (j, b) => if b.fr ≤ c.fr then some (i, c) else some (j, b)) else o
def fndFrom (s d : Int) : Option (Nat × Ct) → Nat → List Ct → Option (Nat × Ct)
  | o, _, [] => o
  | o, i, c :: l => fndFrom s d (step s d o i c) (i + 1) l
def fnd (s d : Int) (l : List Ct) : Option (Nat × Ct) := fndFrom s d none 0 l
theorem fndFrom_snoc (s d : Int) : ∀ (l : List Ct) (o : Option (Nat × Ct)) (i : Nat) (c : Ct), fndFrom s d o i (l ++ [c]) = step s d (fndFrom s d o i l) (i + l.length) c
  | [], o, i, c => rfl
  | x :: l, o, i, c => by
    show fndFrom s d (step s d o i x) (i + 1) (l ++ [c]) = step s d (fndFrom s d (step s d o i x) (i + 1) l) (i + (l.length + 1)) c
    rw [fndFrom_snoc s d l, show i + 1 + l.length = i + (l.length + 1) by omega]
theorem fnd_snoc (s d : Int) (l : List Ct) (c : Ct) : fnd s d (l ++ [c]) = step s d (fnd s d l) l.length c := by
  unfold fnd; rw [fndFrom_snoc]; simp
/-- Lists by their ends. -/
theorem snoc_ind {P : List Ct → Prop} (h0 : P []) (h1 : ∀ l c, P l → P (l ++ [c])) (l : List Ct) : P l := by
  have : ∀ n : Nat, ∀ l : List Ct, l.length = n → P l := by
    intro n
    induction n with
    | zero => intro l hl; rw [List.length_eq_zero_iff.1 hl]; exact h0
    | succ n ih =>
      intro l hl
      have hne : l ≠ [] := by intro e; rw [e] at hl; cases hl
      rw [← List.dropLast_concat_getLast hne]
      exact h1 _ _ (ih _ (by rw [List.length_dropLast, hl]; rfl))
  exact this _ l rfl
/-- What is in force is in the list, at its place, and covers. -/
theorem fnd_some {s d : Int} (l : List Ct) : ∀ {i : Nat} {c : Ct}, fnd s d l = some (i, c) → l[i]? = some c ∧ c.cov s d = true := by
  refine snoc_ind (P := fun l => ∀ {i : Nat} {c : Ct}, fnd s d l = some (i, c) → l[i]? = some c ∧ c.cov s d = true) ?_ ?_ l
  · intro i c h; cases h
  · intro l x ih i c h
    rw [fnd_snoc] at h
    unfold step at h
    split at h
    · rename_i hc
      split at h
      · cases h; exact ⟨by simp, hc⟩
      · rename_i j b hb
        split at h
        · cases h; exact ⟨by simp, hc⟩
        · cases h
          have := ih hb
          exact ⟨by rw [List.getElem?_append_left (List.getElem?_eq_some_iff.1 this.1).1]; exact this.1, this.2⟩
    · have := ih h
      exact ⟨by rw [List.getElem?_append_left (List.getElem?_eq_some_iff.1 this.1).1]; exact this.1, this.2⟩
/-- One is in force where one covers. -/
theorem fnd_none {s d : Int} (l : List Ct) : fnd s d l = none ↔ ∀ c ∈ l, c.cov s d = false := by
  refine snoc_ind (P := fun l => fnd s d l = none ↔ ∀ c ∈ l, c.cov s d = false) ?_ ?_ l
  · constructor
    · intro _ c hc; cases hc
    · intro _; rfl
  · intro l x ih
    rw [fnd_snoc]
    unfold step
    constructor
    · intro h c hc
      split at h
      · split at h
        · cases h
        · split at h <;> cases h
      · rename_i hx
        rcases List.mem_append.1 hc with hc | hc
        · exact ih.1 h c hc
        · rw [List.mem_singleton.1 hc]; simpa using hx
    · intro h
      rw [if_neg (by rw [h x (by simp)]; simp)]
      exact ih.2 fun c hc => h c (by simp [hc])
/-- The certificates that don't cover change nothing: the one in force of those that do is the same. -/
theorem fnd_filter {s d : Int} (l : List Ct) : (fnd s d (l.filter fun c => c.cov s d)).map (·.2) = (fnd s d l).map (·.2) := by
  refine snoc_ind (P := fun l => (fnd s d (l.filter fun c => c.cov s d)).map (·.2) = (fnd s d l).map (·.2)) rfl ?_ l
  intro l x ih
  rw [List.filter_append, fnd_snoc]
  rcases hx : x.cov s d with _ | _
  · rw [show [x].filter (fun c => c.cov s d) = [] by simp [hx], List.append_nil, ih]
    unfold step; rw [if_neg (by rw [hx]; simp)]
  · rw [show [x].filter (fun c => c.cov s d) = [x] by simp [hx], fnd_snoc]
    unfold step
    rw [if_pos hx, if_pos hx]
    cases h1 : fnd s d (l.filter fun c => c.cov s d) with
    | none =>
      rw [h1] at ih
      cases h2 : fnd s d l with
      | none => rfl
      | some b => rw [h2] at ih; cases ih
    | some a =>
      rw [h1] at ih
      cases h2 : fnd s d l with
      | none => rw [h2] at ih; cases ih
      | some b =>
        rw [h2] at ih
        obtain ⟨i, a⟩ := a
        obtain ⟨j, b⟩ := b
        simp only [Option.map_some, Option.some.injEq] at ih
        subst ih
        dsimp only
        split <;> rfl
/-- A certificate that covers and begins no earlier than the one in force comes in force. -/
theorem fnd_new {s d : Int} (l : List Ct) {c : Ct} (hc : c.cov s d = true) (h : ∀ i b, fnd s d l = some (i, b) → b.fr ≤ c.fr) : fnd s d (l ++ [c]) = some (l.length, c) := by
  rw [fnd_snoc]
  unfold step
  rw [if_pos hc]
  cases h1 : fnd s d l with
  | none => rfl
  | some b =>
    obtain ⟨i, b⟩ := b
    dsimp only
    rw [if_pos (h i b h1)]
/-! ## The error of a reading -/
def errR (c : Ct) (r d : Int) : Rat := (((c.ut + c.dr * (d - c.fr) : Int)) : Rat) + Rat.divInt (c.pm * r) 1000
theorem divInt_mono {a b : Int} (h : a ≤ b) : Rat.divInt a 1000 ≤ Rat.divInt b 1000 := by
  have h1 : (a : Rat) ≤ (b : Rat) := by exact_mod_cast h
  rw [Rat.divInt_eq_div, Rat.divInt_eq_div]
  have h2 : ((1000 : Int) : Rat) = 1000 := rfl
  rw [h2]
  grind
theorem errR_nonneg {c : Ct} {r d : Int} (h1 : 0 ≤ c.ut) (h2 : 0 ≤ c.dr) (h3 : 0 ≤ c.pm) (hr : 0 ≤ r) (hd : c.fr ≤ d) : 0 ≤ errR c r d := by
  have e1 : (0 : Int) ≤ c.ut + c.dr * (d - c.fr) := Int.add_nonneg h1 (Int.mul_nonneg h2 (by omega))
  have e2 : (0 : Rat) ≤ Rat.divInt (c.pm * r) 1000 := by
    have := divInt_mono (Int.mul_nonneg h3 hr)
    rwa [Rat.zero_divInt] at this
  have e3 : (0 : Rat) ≤ ((c.ut + c.dr * (d - c.fr) : Int) : Rat) := by exact_mod_cast e1
  unfold errR
  have := Rat.add_nonneg e3 e2
  exact this
/-! ## The interval -/
def lowR (c : Ct) (r d : Int) : Rat := if (r : Rat) - errR c r d < 0 then 0 else (r : Rat) - errR c r d
def highR (c : Ct) (r d : Int) : Rat := (r : Rat) + errR c r d
theorem low_nonneg (c : Ct) (r d : Int) : 0 ≤ lowR c r d := by
  unfold lowR; split
  · exact Rat.le_refl
  · rename_i h; exact Rat.not_lt.1 h
theorem low_le {c : Ct} {r d : Int} (he : 0 ≤ errR c r d) (hr : 0 ≤ r) : lowR c r d ≤ (r : Rat) := by
  have h0 : (0 : Rat) ≤ (r : Rat) := by exact_mod_cast hr
  unfold lowR; split
  · exact h0
  · grind
theorem le_high {c : Ct} {r d : Int} (he : 0 ≤ errR c r d) : (r : Rat) ≤ highR c r d := by unfold highR; grind
theorem low_down (c : Ct) (r d : Int) : (r : Rat) - lowR c r d = errR c r d ∨ (lowR c r d = 0 ∧ (r : Rat) - lowR c r d < errR c r d) := by
  unfold lowR; split
  · rename_i h; exact .inr ⟨rfl, by grind⟩
  · exact .inl (by grind)
/-! ## Recalls -/
def recB (s d : Int) (l : List (Int × Int)) : Bool := l.any fun x => decide (x.1 = s) && decide (x.2 ≤ d)
theorem recB_filter (s d : Int) (l : List (Int × Int)) : recB s d (l.filter fun x => decide (x.1 = s)) = recB s d l := by
  unfold recB
  rw [List.any_filter]
  congr 1; funext x
  rcases decide (x.1 = s) <;> rfl
theorem recB_snoc (s d : Int) (l : List (Int × Int)) (x : Int × Int) : recB s d (l ++ [x]) = (recB s d l || (decide (x.1 = s) && decide (x.2 ≤ d))) := by
  unfold recB; simp
end Go.Proofs.Ytmhjejnkphdjpaa.Sc
