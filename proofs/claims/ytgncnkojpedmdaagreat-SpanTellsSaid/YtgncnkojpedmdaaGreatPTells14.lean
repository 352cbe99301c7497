/- kitbagref04 as laws use it; whether a fraction is valid, by the reference. WRITTEN by frac/gen_ft.py. frac and kitbagref05 at arguments that are not valid. WRITTEN by frac/gen_ft.py. New, and the four operations, of kitbagref05, at valid fractions. WRITTEN by frac/gen_ft.py. Neg, Sign, Floor, Text, Min, Max, Of, Int of kitbagref05. WRITTEN by frac/gen_ft.py. Spans: intervals of rationals, and the smallest interval around an operation's results. Plain mathematics, no program. What the laws of span say of intervals. Plain mathematics, no program. -/
import Derived.Test.YtgncnkojpedmdaaGreatPTells12
import Derived.Test.YtgncnkojpedmdaaGreatPTells13
import Derived.Test.YtgncnkojpedmdaaGreatPTells10
import Derived.Laws.Concat
import Derived.Test.YtgncnkojpedmdaaGreatPTells11
set_option maxRecDepth 100000
namespace Go.Proofs.YtgncnkojpedmdaaGreat.Bi
open Go.RowKit

section
variable {w : World} {sa sb : Int} {va vb : Value} {a b : Int}
theorem rof_k (z : Int) (h : -9223372036854775808 ≤ z ∧ z ≤ 9223372036854775807) (w : World) : Calls Tryz.prog 63 #[.int .i64 z] w (BV z w) := (rof_any z h.1 h.2 w).mono fun _ _ h => h.bv
theorem rmul_k (ha : Num w sa va a) (hb : Num w sb vb b) (la : Len 100000 a) (lb : Len 100000 b) : Calls Tryz.prog 69 #[.agg #[.int .i64 sa, va], .agg #[.int .i64 sb, vb]] w (BVE (a * b) 0 w) :=
 (rmul_ok _ _ a b w ha.isb hb.isb (Nat.le_trans la (by omega)) (Nat.le_trans lb (by omega))).mono fun _ _ h => h.bve
theorem radd_k (ha : Num w sa va a) (hb : Num w sb vb b) (la : Len 100000 a) (lb : Len 100000 b) : Calls Tryz.prog 87 #[.agg #[.int .i64 sa, va], .agg #[.int .i64 sb, vb]] w (BVE (a + b) 0 w) :=
 (radd_ok _ _ a b w ha.isb hb.isb (Nat.le_trans la (by omega)) (Nat.le_trans lb (by omega))).mono fun _ _ h => h.bve
theorem rsub_k (ha : Num w sa va a) (hb : Num w sb vb b) (la : Len 100000 a) (lb : Len 100000 b) : Calls Tryz.prog 80 #[.agg #[.int .i64 sa, va], .agg #[.int .i64 sb, vb]] w (BVE (a - b) 0 w) := by
 refine (rsub_any _ _ _ _ b (a - b) 0 w ha.arg hb.isb lb (fun W v h1 h2 => ?_)).mono fun _ _ h => h.bve
 have := radd_ok _ v a (-b) W h1 h2 la (by rw [Int.natAbs_neg]; exact lb)
 rwa [← Int.sub_eq_add_neg] at this
theorem rdiv_k (ha : Num w sa va a) (hb : Num w sb vb b) (la : Len 100000 a) (lb : Len 100000 b) (h0 : b ≠ 0) : Calls Tryz.prog 85 #[.agg #[.int .i64 sa, va], .agg #[.int .i64 sb, vb]] w (BVD (a.fdiv b) (a.fmod b) 0 w) :=
 (rdiv_ok _ _ a b w ha.isb hb.isb (Nat.le_trans la (by omega)) (Nat.le_trans lb (by omega)) h0).mono fun _ _ h => h.bvd
theorem rgcd_z (ha : Num w sa va a) (hb : Num w sb vb b) (la : Len 100000 a) (lb : Len 100000 b) {z : Int} (h : ((Nat.gcd a.natAbs b.natAbs : Nat) : Int) = z) : Calls Tryz.prog 75 #[.agg #[.int .i64 sa, va], .agg #[.int .i64 sb, vb]] w (BVE z 0 w) := by
 subst h; exact (rgcd_ok _ _ a b w ha.isb hb.isb (Nat.le_trans la (by omega)) (Nat.le_trans lb (by omega))).mono fun _ _ h => h.bve
theorem rcmp_t (ha : Num w sa va a) (hb : Num w sb vb b) {k : Int} (h : cmpI a b = k) : Calls Tryz.prog 70 #[.agg #[.int .i64 sa, va], .agg #[.int .i64 sb, vb]] w (fun e w' => e = .returned (.int .i64 k) ∧ RowKit.Below w.heap.size w w') := by
 subst h; exact rcompare_ok _ _ a b w ha.isb hb.isb
theorem rneg_k (ha : Num w sa va a) (la : Len 100000 a) : Calls Tryz.prog 83 #[.agg #[.int .i64 sa, va]] w (BV (-a) w) := (rneg_ok _ a w ha.isb (Nat.le_trans la (by omega))).mono fun _ _ h => h.bv
theorem rrightN_k (ha : Num w sa va a) : Calls Tryz.prog 74 #[.agg #[.int .i64 sa, va]] w fun e w' => e = .returned (.bool true) ∧ RowKit.Below w.heap.size w w' := risb_any ha.isb
theorem rright_b {v : Value} {s : Int} {l : List Int} {b : Bool} (h : Arg w v s l) (hr : rightB s l = b) : Calls Tryz.prog 74 #[v] w fun e w' => e = .returned (.bool b) ∧ RowKit.Below w.heap.size w w' := by
 subst hr; exact rright_any v s l w h
end
theorem cmp_one (G : Int) : (cmpI G 1 == 0) = decide (G = 1) := by
 unfold cmpI
 rcases Int.lt_trichotomy G 1 with h | h | h
 ·rw [if_pos h]; simp; omega
 ·subst h; rfl
 ·rw [if_neg (by omega), if_neg (by omega)]; simp; omega

set_option maxHeartbeats 2000000 in
theorem rfright_any (sp : Int) (ap : Option Addr) (np cp : Nat) (lp : List Int) (sq : Int) (aq : Option Addr) (nq cq : Nat) (lq : List Int) (w : World) (hp : Ints w (.slice ap np cp) lp) (hq : Ints w (.slice aq nq cq) lq) (llp : lp.length ≤ 100000) (llq : lq.length ≤ 100000) (bb : Bool) (hbb : fRightB sp lp sq lq = bb) :
  Calls Tryz.prog 49 #[.agg #[.int .i64 sp, .slice ap np cp, .int .i64 sq, .slice aq nq cq]] w fun e w' => e = .returned (.bool bb) ∧ RowKit.Below w.heap.size w w' := by
 have S0 := Lib.hid ((((Sf.start w).arg hp).arg hq).put [.int .i64 sp, .slice ap np cp, .int .i64 sq, .slice aq nq cq] 26)
 have HP : Hid (Arg w (.agg #[.int .i64 sp, .slice ap np cp]) sp lp) := ⟨_, rfl, hp⟩
 have HQ : Hid (Arg w (.agg #[.int .i64 sq, .slice aq nq cq]) sq lq) := ⟨_, rfl, hq⟩
 unfold fRightB at hbb
 rcases h1 : rightB sp lp with _ | _
 ·obtain rfl : bb = false := by rw [← hbb, h1]; simp
  have HR := Lib.hid h1
  clear hp hq llp llq hbb h1
  go_enter Tryz.func49, Tryz.ntmps49
  go_wp2_with fail
  refine (rright_b (HP.out.later S0.out.below) HR.out).mono ?_
  rintro e w1 ⟨rfl, hb⟩
  have S1 := Lib.hid (S0.out.later hb)
  clear hb S0
  go_wp2_with fail
  go_ret
  exact ⟨rfl, S1.out.below⟩
 have HR := Lib.hid h1
 rcases h2 : rightB sq lq with _ | _
 ·obtain rfl : bb = false := by rw [← hbb, h1, h2]; simp
  have HR2 := Lib.hid h2
  clear hp hq llp llq hbb h1 h2
  go_enter Tryz.func49, Tryz.ntmps49
  go_wp2_with fail
  refine (rright_b (HP.out.later S0.out.below) HR.out).mono ?_
  rintro e w1 ⟨rfl, hb⟩
  have S1 := Lib.hid (S0.out.later hb)
  clear hb S0
  obtain ⟨q0, q1, q2, q3⟩ := (S1.out.box _ List.mem_cons_self : Fb (w.heap.size, 26, [.int .i64 sp, .slice ap np cp, .int .i64 sq, .slice aq nq cq]) _).cells4
  go_wp2_with fail
  clear q0 q1 q2 q3
  refine (rright_b (HQ.out.later S1.out.below) HR2.out).mono ?_
  rintro e w2 ⟨rfl, hb⟩
  have S2 := Lib.hid (S1.out.later hb)
  clear hb S1
  go_wp2_with fail
  go_ret
  exact ⟨rfl, S2.out.below⟩
 have HR2 := Lib.hid h2
 by_cases h0 : 0 < sq
 ·have g0 : decide (sq < 1) = false := by simp; omega
  obtain ⟨p, e1, e2⟩ := right_of h1
  obtain ⟨q, e3, e4⟩ := right_of h2
  obtain ⟨G, hG⟩ : ∃ z : Int, ((Nat.gcd p.natAbs q.natAbs : Nat) : Int) = z := ⟨_, rfl⟩
  have hd : (cmpI G 1 == 0) = bb := by
   rw [cmp_one, ← hbb, decide_eq_true h0, h1, h2, e2, e4, digs_val, digs_val, Int.toNat_natCast, Int.toNat_natCast, ← hG, Bool.true_and, Bool.true_and, Bool.true_and]
   exact decide_eq_decide.2 (by omega)
  obtain ⟨C, hC⟩ : ∃ C, cmpI G 1 = C := ⟨_, rfl⟩
  rw [hC] at hd
  have HC := Lib.hid hC
  have HNP : Hid (Num w sp (.slice ap np cp) p) := ⟨e1, by rw [← e2]; exact hp⟩
  have HNQ : Hid (Num w sq (.slice aq nq cq) q) := ⟨e3, by rw [← e4]; exact hq⟩
  have HLP : Hid (Len 100000 p) := by rw [e2] at llp; exact llp
  have HLQ : Hid (Len 100000 q) := by rw [e4] at llq; exact llq
  have HG := Lib.hid hG
  have HD := Lib.hid hd
  have HB : Hid (-9223372036854775808 ≤ (1 : Int) ∧ (1 : Int) ≤ 9223372036854775807) := ⟨by omega, by omega⟩
  clear hp hq llp llq h1 h2 e1 e2 e3 e4 hG hd hbb h0 hC
  go_enter Tryz.func49, Tryz.ntmps49
  go_wp2_with fail
  refine (rright_b (HP.out.later S0.out.below) HR.out).mono ?_
  rintro e w1 ⟨rfl, hb⟩
  have S1 := Lib.hid (S0.out.later hb)
  clear hb S0
  obtain ⟨q0, q1, q2, q3⟩ := (S1.out.box _ List.mem_cons_self : Fb (w.heap.size, 26, [.int .i64 sp, .slice ap np cp, .int .i64 sq, .slice aq nq cq]) _).cells4
  go_wp2_with fail
  clear q0 q1 q2 q3
  refine (rright_b (HQ.out.later S1.out.below) HR2.out).mono ?_
  rintro e w2 ⟨rfl, hb⟩
  have S2 := Lib.hid (S1.out.later hb)
  clear hb S1
  obtain ⟨q0, q1, q2, q3⟩ := (S2.out.box _ List.mem_cons_self : Fb (w.heap.size, 26, [.int .i64 sp, .slice ap np cp, .int .i64 sq, .slice aq nq cq]) _).cells4
  go_wp2_with fail
  clear q0 q1 q2 q3
  refine (rgcd_z (HNP.out.later S2.out.below) (HNQ.out.later S2.out.below) HLP.out HLQ.out HG.out).mono ?_
  rintro e w3 ⟨s1, a1, n1, c1, rfl, hn, hb, hf⟩
  have S3 := Lib.hid ((S2.out.ret hb hn.2 hf).put [.int .i64 s1, .slice a1 n1 c1] 24)
  have E1 := Lib.hid hn.1
  clear hn hb hf S2
  go_wp2_with fail
  have SD := Lib.hid S3.out.drew
  have K0 : ∀ W, Sf w [(w3.heap.size, 24, [.int .i64 s1, .slice a1 n1 c1]), (w.heap.size, 26, [.int .i64 sp, .slice ap np cp, .int .i64 sq, .slice aq nq cq])] [(.slice a1 n1 c1, digs (G : Int).natAbs), (.slice aq nq cq, lq), (.slice ap np cp, lp)] W → W.cell? ⟨w3.heap.size, 0, none⟩ = some (.int .i64 s1) ∧ W.cell? ⟨w3.heap.size, 1, none⟩ = some (.slice a1 n1 c1) := fun W h => (h.box _ List.mem_cons_self : Fb _ _).cells2
  have KK := Lib.hid K0
  have e0 := KK.out _ SD.out
  clear K0 S3
  go_region_held3 (fun W => W.cell? ⟨w3.heap.size, 0, none⟩ = some (.int .i64 s1) ∧ W.cell? ⟨w3.heap.size, 1, none⟩ = some (.slice a1 n1 c1))
   (first | (with_reducible exact e0) | (with_reducible exact x4) | (with_reducible exact x5))
   (first
    | (go_at_call 70; (with_reducible refine (rcmp_t M4.out N4.out HC.out).mono ?_); rintro e w5 ⟨rfl, hb⟩; have S5 := Lib.hid (S4.out.later hb); have x5 := KK.out _ S5.out; clear hb)
    | (go_at_call 63; (with_reducible refine (rof_k 1 HB.out _).mono ?_); rintro e w4 ⟨s2, a2, n2, c2, rfl, hn, hb, _⟩; have S4 := Lib.hid (SD.out.later hb); have x4 := KK.out _ S4.out; have M4 := Lib.hid (S4.out.num (v := .slice a1 n1 c1) (z := G) List.mem_cons_self E1.out); have N4 := Lib.hid hn; clear hn hb))
  go_wp2_with fail
  go_ret
  exact ⟨by rw [← HD.out]; rfl, S5.out.below⟩
 ·have g0 : decide (sq < 1) = true := by simp; omega
  obtain rfl : bb = false := by rw [← hbb, decide_eq_false h0]; simp
  clear hp hq llp llq hbb h1 h2 h0
  go_enter Tryz.func49, Tryz.ntmps49
  go_wp2_with fail
  refine (rright_b (HP.out.later S0.out.below) HR.out).mono ?_
  rintro e w1 ⟨rfl, hb⟩
  have S1 := Lib.hid (S0.out.later hb)
  clear hb S0
  obtain ⟨q0, q1, q2, q3⟩ := (S1.out.box _ List.mem_cons_self : Fb (w.heap.size, 26, [.int .i64 sp, .slice ap np cp, .int .i64 sq, .slice aq nq cq]) _).cells4
  go_wp2_with fail
  clear q0 q1 q2 q3
  refine (rright_b (HQ.out.later S1.out.below) HR2.out).mono ?_
  rintro e w2 ⟨rfl, hb⟩
  have S2 := Lib.hid (S1.out.later hb)
  clear hb S1
  obtain ⟨q0, q1, q2, q3⟩ := (S2.out.box _ List.mem_cons_self : Fb (w.heap.size, 26, [.int .i64 sp, .slice ap np cp, .int .i64 sq, .slice aq nq cq]) _).cells4
  go_wp2_with fail
  go_ret
  exact ⟨rfl, S2.out.below⟩
theorem rfright_k {w : World} {sa : Int} {aa ba : Option Addr} {na ca ma da : Nat} {a : Rat} (h : Fr w sa (.slice aa na ca) (.slice ba ma da) a) (l : FSz 1000 a) : Calls Tryz.prog 49 #[.agg #[.int .i64 sa, .slice aa na ca, .int .i64 1, .slice ba ma da]] w fun e w' => e = .returned (.bool true) ∧ RowKit.Below w.heap.size w w' := by
 obtain ⟨⟨rfl, h1⟩, _, h2⟩ := h
 exact rfright_any _ _ _ _ _ _ _ _ _ _ w h1 h2 (Sz.len l.1) (Sz.len l.2) true (fright_is a)
end Go.Proofs.YtgncnkojpedmdaaGreat.Bi

namespace Go.Proofs.YtgncnkojpedmdaaGreat.Bi
open Go.RowKit

set_option maxHeartbeats 2000000 in
theorem fcmp_bad (sa : Int) (aa : Option Addr) (na ca : Nat) (la : List Int) (ta : Int) (ba : Option Addr) (ma da : Nat) (ka : List Int) (sb : Int) (ab : Option Addr) (nb cb : Nat) (lb : List Int) (tb : Int) (bb : Option Addr) (mb db : Nat) (kb : List Int) (w : World) (ha : Ints w (.slice aa na ca) la) (ga : Ints w (.slice ba ma da) ka) (ua : la.length ≤ 100000) (va : ka.length ≤ 100000) (hb : Ints w (.slice ab nb cb) lb) (gb : Ints w (.slice bb mb db) kb) (ub : lb.length ≤ 100000) (vb : kb.length ≤ 100000) (hr : (fRightB sa la ta ka && fRightB sb lb tb kb) = false) :
  Calls Tryz.prog 43 #[.agg #[.int .i64 sa, .slice aa na ca, .int .i64 ta, .slice ba ma da], .agg #[.int .i64 sb, .slice ab nb cb, .int .i64 tb, .slice bb mb db]] w (fun e w' => e = .returned (.int .i64 0) ∧ RowKit.Below w.heap.size w w') := by
 have S0 := Lib.hid ((((Sf.start w)).put [.int .i64 sa, .slice aa na ca, .int .i64 ta, .slice ba ma da] 26).put' (n := w.heap.size + 1) (by simp) [.int .i64 sb, .slice ab nb cb, .int .i64 tb, .slice bb mb db] 26)
 have Ha := Lib.hid ha
 have Ga := Lib.hid ga
 have Ua := Lib.hid ua
 have Va := Lib.hid va
 have Hb := Lib.hid hb
 have Gb := Lib.hid gb
 have Ub := Lib.hid ub
 have Vb := Lib.hid vb
 rcases ea : fRightB sa la ta ka with _ | _
 ·have Ea := Lib.hid ea
  clear ha ga ua va hb gb ub vb hr ea
  go_enter Tryz.func43, Tryz.ntmps43
  go_wp2_with fail
  refine (fright_any sa aa na ca la ta ba ma da ka _ (Ha.out.later S0.out.below) (Ga.out.later S0.out.below) Ua.out Va.out false Ea.out).mono ?_
  rintro e w1 ⟨rfl, hb⟩
  have S1 := Lib.hid (S0.out.later hb)
  clear hb S0
  go_wp2_with fail
  go_ret
  exact ⟨rfl, S1.out.below⟩
 ·have eb : fRightB sb lb tb kb = false := by rw [ea] at hr; simpa using hr
  have Ea := Lib.hid ea
  have Eb := Lib.hid eb
  clear ha ga ua va hb gb ub vb hr ea eb
  go_enter Tryz.func43, Tryz.ntmps43
  go_wp2_with fail
  refine (fright_any sa aa na ca la ta ba ma da ka _ (Ha.out.later S0.out.below) (Ga.out.later S0.out.below) Ua.out Va.out true Ea.out).mono ?_
  rintro e w1 ⟨rfl, hb⟩
  have S1 := Lib.hid (S0.out.later hb)
  clear hb S0
  obtain ⟨q0, q1, q2, q3⟩ := (S1.out.box _ List.mem_cons_self : Fb (w.heap.size + 1, 26, [.int .i64 sb, .slice ab nb cb, .int .i64 tb, .slice bb mb db]) _).cells4
  go_wp2_with fail
  clear q0 q1 q2 q3
  refine (fright_any sb ab nb cb lb tb bb mb db kb _ (Hb.out.later S1.out.below) (Gb.out.later S1.out.below) Ub.out Vb.out false Eb.out).mono ?_
  rintro e w2 ⟨rfl, hb⟩
  have S2 := Lib.hid (S1.out.later hb)
  clear hb S1
  go_wp2_with fail
  go_ret
  exact ⟨rfl, S2.out.below⟩

end Go.Proofs.YtgncnkojpedmdaaGreat.Bi

namespace Go.Proofs.YtgncnkojpedmdaaGreat.Bi
open Go.RowKit

theorem rdiv_r {w : World} {sa sb : Int} {va vb : Value} {a b z : Int} (ha : Num w sa va a) (hb : Num w sb vb b) (la : Len 100000 a) (lb : Len 100000 b) (h0 : b ≠ 0) (h : a.fdiv b = z) : Calls Tryz.prog 85 #[.agg #[.int .i64 sa, va], .agg #[.int .i64 sb, vb]] w (BVD z (a.fmod b) 0 w) := by
 subst h; exact rdiv_k ha hb la lb h0
theorem divInt_nn (p q : Int) (hq : q ≠ 0) : Rat.divInt (-p) (-q) = Rat.divInt p q := by
 rw [Rat.divInt_eq_divInt_iff (by omega) hq, Int.neg_mul, Int.mul_neg]

set_option maxHeartbeats 2000000 in
theorem rfnew_pos {w : World} {sp sq : Int} {ap aq : Option Addr} {np cp nq cq : Nat} {p q : Int} (hp : Num w sp (.slice ap np cp) p) (hq : Num w sq (.slice aq nq cq) q) (lp : Len 100000 p) (lq : Len 100000 q) {r : Rat} (h0 : 0 < q) (h : Rat.divInt p q = r) : Calls Tryz.prog 62 #[.agg #[.int .i64 sp, .slice ap np cp], .agg #[.int .i64 sq, .slice aq nq cq]] w (FVE r 0 w) := by
 obtain rfl : sq = 1 := hq.1.trans (Int.sign_eq_one_of_pos h0)
 have hq0 : q ≠ 0 := by omega
 obtain ⟨G, hG⟩ : ∃ z : Int, ((Nat.gcd (p : Int).natAbs (q : Int).natAbs : Nat) : Int) = z := ⟨_, rfl⟩
 have hGn : G = newG p q := by rw [← hG, newG_pos (by omega)]
 have HNU : Hid ((p : Int).fdiv G = r.num) := Lib.hid (by rw [hGn, new_num (by omega), h])
 have HDE : Hid ((q : Int).fdiv G = (r.den : Int)) := Lib.hid (by rw [hGn, new_den (by omega), h])
 have HGN : Hid (G ≠ 0) := Lib.hid (by rw [hGn]; exact newG_ne (by omega))
 have HLP2 : Hid (Len 100000 p) := lp
 have HLQ2 : Hid (Len 100000 q) := lq
 have HLG : Hid (Len 100000 G) := Len.gcd HLP2.out HLQ2.out hG
 have HG := Lib.hid hG
 have HP := Lib.hid hp
 have HQ := Lib.hid hq
 have HLP := Lib.hid lp
 have HLQ := Lib.hid lq
 have S0 := Lib.hid (((((Sf.start w)).put [.int .i64 sp, .slice ap np cp] 24).put' (n := w.heap.size + 1) (by simp) [.int .i64 1, .slice aq nq cq] 24).put' (n := w.heap.size + 1 + 1) (by simp) [.int .i64 0, .slice none 0 0, .int .i64 0, .slice none 0 0] 26)
 clear hp hq lp lq h0 hq0 hG hGn h
 go_enter Tryz.func62, Tryz.ntmps62
 go_wp2_with fail
 refine (rrightN_k (HP.out.later S0.out.below)).mono ?_
 rintro e w1 ⟨rfl, hb⟩
 have S2 := Lib.hid (S0.out.later hb)
 clear hb S0
 obtain ⟨t1_0, t1_1⟩ := (S2.out.box _ (List.mem_cons_of_mem _ List.mem_cons_self) : Fb (w.heap.size + 1, 24, [.int .i64 1, .slice aq nq cq]) _).cells2
 go_wp2_with fail
 clear t1_0 t1_1
 refine (rrightN_k (HQ.out.later S2.out.below)).mono ?_
 rintro e w3 ⟨rfl, hb⟩
 have S4 := Lib.hid (S2.out.later hb)
 clear hb S2
 obtain ⟨t2_0, t2_1⟩ := (S4.out.box _ (List.mem_cons_of_mem _ (List.mem_cons_of_mem _ List.mem_cons_self)) : Fb (w.heap.size, 24, [.int .i64 sp, .slice ap np cp]) _).cells2
 obtain ⟨t3_0, t3_1⟩ := (S4.out.box _ (List.mem_cons_of_mem _ List.mem_cons_self) : Fb (w.heap.size + 1, 24, [.int .i64 1, .slice aq nq cq]) _).cells2
 go_wp2_with fail
 clear t2_0 t2_1 t3_0 t3_1
 refine (rgcd_z (HP.out.later S4.out.below) (HQ.out.later S4.out.below) HLP2.out HLQ2.out HG.out).mono ?_
 rintro e w5 ⟨s5, a5, n5, c5, rfl, hn, hb, hf⟩
 have E5 := Lib.hid hn.1
 have S6 := Lib.hid ((S4.out.ret hb hn.2 hf).put [.int .i64 s5, .slice a5 n5 c5] 24)
 clear hn hb hf S4
 obtain ⟨t4_0, t4_1⟩ := (S6.out.box _ (List.mem_cons_of_mem _ (List.mem_cons_of_mem _ (List.mem_cons_of_mem _ List.mem_cons_self))) : Fb (w.heap.size, 24, [.int .i64 sp, .slice ap np cp]) _).cells2
 obtain ⟨t5_0, t5_1⟩ := (S6.out.box _ List.mem_cons_self : Fb (w5.heap.size, 24, [.int .i64 s5, .slice a5 n5 c5]) _).cells2
 go_wp2_with fail
 clear t4_0 t4_1 t5_0 t5_1
 refine (rdiv_r (HP.out.later S6.out.below) (S6.out.num (v := .slice a5 n5 c5) (z := G) List.mem_cons_self E5.out) HLP2.out HLG.out HGN.out HNU.out).mono ?_
 rintro e w7 ⟨s7, a7, n7, c7, x7, y7, z7, o7, rfl, hn, hm, hb, hf, hg⟩
 have E7 := Lib.hid hn.1
 have F7 : Hid (Fresh w.heap.size (.slice a7 n7 c7)) := hf.mono S6.out.below.size
 have S8 := Lib.hid (((S6.out.ret hb hn.2 hf).put [.int .i64 s7, .slice a7 n7 c7] 24).put' (n := w7.heap.size + 1) (by simp) [.int .i64 x7, .slice y7 z7 o7] 24)
 clear hn hm hb hf hg S6
 obtain ⟨t6_0, t6_1⟩ := (S8.out.box _ (List.mem_cons_of_mem _ (List.mem_cons_of_mem _ (List.mem_cons_of_mem _ (List.mem_cons_of_mem _ List.mem_cons_self)))) : Fb (w.heap.size + 1, 24, [.int .i64 1, .slice aq nq cq]) _).cells2
 obtain ⟨t7_0, t7_1⟩ := (S8.out.box _ (List.mem_cons_of_mem _ (List.mem_cons_of_mem _ List.mem_cons_self)) : Fb (w5.heap.size, 24, [.int .i64 s5, .slice a5 n5 c5]) _).cells2
 go_wp2_with fail
 clear t6_0 t6_1 t7_0 t7_1
 refine (rdiv_r (HQ.out.later S8.out.below) (S8.out.num (v := .slice a5 n5 c5) (z := G) (List.mem_cons_of_mem _ List.mem_cons_self) E5.out) HLQ2.out HLG.out HGN.out HDE.out).mono ?_
 rintro e w9 ⟨s9, a9, n9, c9, x9, y9, z9, o9, rfl, hn, hm, hb, hf, hg⟩
 have E9 := Lib.hid hn.1
 have F9 : Hid (Fresh w.heap.size (.slice a9 n9 c9)) := hf.mono S8.out.below.size
 have S10 := Lib.hid (((S8.out.ret hb hn.2 hf).put [.int .i64 s9, .slice a9 n9 c9] 24).put' (n := w9.heap.size + 1) (by simp) [.int .i64 x9, .slice y9 z9 o9] 24)
 clear hn hm hb hf hg S8
 obtain rfl : s9 = 1 := E9.out.trans (den_sign _)
 obtain ⟨t8_0, t8_1⟩ := (S10.out.box _ (List.mem_cons_of_mem _ (List.mem_cons_of_mem _ (List.mem_cons_of_mem _ List.mem_cons_self))) : Fb (w7.heap.size, 24, [.int .i64 s7, .slice a7 n7 c7]) _).cells2
 obtain ⟨t9_0, t9_1⟩ := (S10.out.box _ (List.mem_cons_of_mem _ List.mem_cons_self) : Fb (w9.heap.size, 24, [.int .i64 1, .slice a9 n9 c9]) _).cells2
 obtain ⟨r0, r1, r2, r3⟩ := (S10.out.box _ (List.mem_cons_of_mem _ (List.mem_cons_of_mem _ (List.mem_cons_of_mem _ (List.mem_cons_of_mem _ (List.mem_cons_of_mem _ List.mem_cons_self))))) : Fb (w.heap.size + 1 + 1, 26, [.int .i64 0, .slice none 0 0, .int .i64 0, .slice none 0 0]) _).cells4
 obtain ⟨f0, f1, f2, f3⟩ := (S10.out.box _ (List.mem_cons_of_mem _ (List.mem_cons_of_mem _ (List.mem_cons_of_mem _ (List.mem_cons_of_mem _ (List.mem_cons_of_mem _ List.mem_cons_self))))) : Fb (w.heap.size + 1 + 1, 26, [.int .i64 0, .slice none 0 0, .int .i64 0, .slice none 0 0]) _).free4
 go_wp2_with fail
 clear t8_0 t8_1 t9_0 t9_1
 have ZZ := Lib.hid (S10.out.set4 (pre := [_, _, _, _, _]) (.int .i64 s7) (.slice a7 n7 c7) (.int .i64 1) (.slice a9 n9 c9))
 exact bodyPost_ret (v := .tuple #[.agg #[.int .i64 s7, .slice a7 n7 c7, .int .i64 1, .slice a9 n9 c9], .int .i64 0]) (by simp [results, Tryz.results62, go_sem, r0, r1, r2, r3]) rfl ⟨_, _, _, _, _, _, _, rfl, ⟨ZZ.out.num (v := .slice a7 n7 c7) (z := r.num) (List.mem_cons_of_mem _ List.mem_cons_self) E7.out, ZZ.out.num (v := .slice a9 n9 c9) (z := (r.den : Int)) List.mem_cons_self (den_sign r).symm⟩, ZZ.out.below, F7.out, F9.out⟩

set_option maxHeartbeats 2000000 in
theorem rfnew_neg {w : World} {sp sq : Int} {ap aq : Option Addr} {np cp nq cq : Nat} {p q : Int} (hp : Num w sp (.slice ap np cp) p) (hq : Num w sq (.slice aq nq cq) q) (lp : Len 100000 p) (lq : Len 100000 q) {r : Rat} (h0 : q < 0) (h : Rat.divInt p q = r) : Calls Tryz.prog 62 #[.agg #[.int .i64 sp, .slice ap np cp], .agg #[.int .i64 sq, .slice aq nq cq]] w (FVE r 0 w) := by
 obtain rfl : sq = (-1) := hq.1.trans (Int.sign_eq_neg_one_of_neg h0)
 have hq0 : q ≠ 0 := by omega
 obtain ⟨G, hG⟩ : ∃ z : Int, ((Nat.gcd ((-p) : Int).natAbs ((-q) : Int).natAbs : Nat) : Int) = z := ⟨_, rfl⟩
 have hGn : G = newG (-p) (-q) := by rw [← hG, newG_pos (by omega)]
 have HNU : Hid (((-p) : Int).fdiv G = r.num) := Lib.hid (by rw [hGn, new_num (by omega), divInt_nn _ _ hq0, h])
 have HDE : Hid (((-q) : Int).fdiv G = (r.den : Int)) := Lib.hid (by rw [hGn, new_den (by omega), divInt_nn _ _ hq0, h])
 have HGN : Hid (G ≠ 0) := Lib.hid (by rw [hGn]; exact newG_ne (by omega))
 have HLP2 : Hid (Len 100000 (-p)) := Len.neg lp
 have HLQ2 : Hid (Len 100000 (-q)) := Len.neg lq
 have HLG : Hid (Len 100000 G) := Len.gcd HLP2.out HLQ2.out hG
 have HG := Lib.hid hG
 have HP := Lib.hid hp
 have HQ := Lib.hid hq
 have HLP := Lib.hid lp
 have HLQ := Lib.hid lq
 have S0 := Lib.hid (((((Sf.start w)).put [.int .i64 sp, .slice ap np cp] 24).put' (n := w.heap.size + 1) (by simp) [.int .i64 (-1), .slice aq nq cq] 24).put' (n := w.heap.size + 1 + 1) (by simp) [.int .i64 0, .slice none 0 0, .int .i64 0, .slice none 0 0] 26)
 clear hp hq lp lq h0 hq0 hG hGn h
 go_enter Tryz.func62, Tryz.ntmps62
 go_wp2_with fail
 refine (rrightN_k (HP.out.later S0.out.below)).mono ?_
 rintro e w1 ⟨rfl, hb⟩
 have S2 := Lib.hid (S0.out.later hb)
 clear hb S0
 obtain ⟨t1_0, t1_1⟩ := (S2.out.box _ (List.mem_cons_of_mem _ List.mem_cons_self) : Fb (w.heap.size + 1, 24, [.int .i64 (-1), .slice aq nq cq]) _).cells2
 go_wp2_with fail
 clear t1_0 t1_1
 refine (rrightN_k (HQ.out.later S2.out.below)).mono ?_
 rintro e w3 ⟨rfl, hb⟩
 have S4 := Lib.hid (S2.out.later hb)
 clear hb S2
 obtain ⟨t2_0, t2_1⟩ := (S4.out.box _ (List.mem_cons_of_mem _ (List.mem_cons_of_mem _ List.mem_cons_self)) : Fb (w.heap.size, 24, [.int .i64 sp, .slice ap np cp]) _).cells2
 obtain ⟨t3_0, t3_1⟩ := (S4.out.box _ (List.mem_cons_of_mem _ List.mem_cons_self) : Fb (w.heap.size + 1, 24, [.int .i64 (-1), .slice aq nq cq]) _).cells2
 go_wp2_with fail
 clear t2_0 t2_1 t3_0 t3_1
 refine (rneg_k (HP.out.later S4.out.below) HLP.out).mono ?_
 rintro e w5 ⟨s5, a5, n5, c5, rfl, hn, hb, hf⟩
 have E5 := Lib.hid hn.1
 have S6 := Lib.hid (S4.out.ret hb hn.2 hf)
 clear hn hb hf S4
 obtain ⟨t4_0, t4_1⟩ := (S6.out.box _ (List.mem_cons_of_mem _ (List.mem_cons_of_mem _ List.mem_cons_self)) : Fb (w.heap.size, 24, [.int .i64 sp, .slice ap np cp]) _).cells2
 obtain ⟨u5_0, u5_1⟩ := (S6.out.box _ (List.mem_cons_of_mem _ (List.mem_cons_of_mem _ List.mem_cons_self)) : Fb (w.heap.size, 24, [.int .i64 sp, .slice ap np cp]) _).free2
 have S7 := Lib.hid (S6.out.set2 (pre := [_, _]) (.int .i64 s5) (.slice a5 n5 c5))
 clear S6
 obtain ⟨t6_0, t6_1⟩ := (S7.out.box _ (List.mem_cons_of_mem _ List.mem_cons_self) : Fb (w.heap.size + 1, 24, [.int .i64 (-1), .slice aq nq cq]) _).cells2
 go_wp2_with fail
 clear t4_0 t4_1 u5_0 u5_1 t6_0 t6_1
 refine (rneg_k (HQ.out.later S7.out.below) HLQ.out).mono ?_
 rintro e w8 ⟨s8, a8, n8, c8, rfl, hn, hb, hf⟩
 have E8 := Lib.hid hn.1
 have S9 := Lib.hid (S7.out.ret hb hn.2 hf)
 clear hn hb hf S7
 obtain ⟨t7_0, t7_1⟩ := (S9.out.box _ (List.mem_cons_of_mem _ List.mem_cons_self) : Fb (w.heap.size + 1, 24, [.int .i64 (-1), .slice aq nq cq]) _).cells2
 obtain ⟨u8_0, u8_1⟩ := (S9.out.box _ (List.mem_cons_of_mem _ List.mem_cons_self) : Fb (w.heap.size + 1, 24, [.int .i64 (-1), .slice aq nq cq]) _).free2
 have S10 := Lib.hid (S9.out.set2 (pre := [_]) (.int .i64 s8) (.slice a8 n8 c8))
 clear S9
 obtain ⟨t9_0, t9_1⟩ := (S10.out.box _ (List.mem_cons_of_mem _ (List.mem_cons_of_mem _ List.mem_cons_self)) : Fb (w.heap.size, 24, [.int .i64 s5, .slice a5 n5 c5]) _).cells2
 obtain ⟨t10_0, t10_1⟩ := (S10.out.box _ (List.mem_cons_of_mem _ List.mem_cons_self) : Fb (w.heap.size + 1, 24, [.int .i64 s8, .slice a8 n8 c8]) _).cells2
 go_wp2_with fail
 clear t7_0 t7_1 u8_0 u8_1 t9_0 t9_1 t10_0 t10_1
 refine (rgcd_z (S10.out.num (v := .slice a5 n5 c5) (z := -p) (List.mem_cons_of_mem _ List.mem_cons_self) E5.out) (S10.out.num (v := .slice a8 n8 c8) (z := -q) List.mem_cons_self E8.out) HLP2.out HLQ2.out HG.out).mono ?_
 rintro e w11 ⟨s11, a11, n11, c11, rfl, hn, hb, hf⟩
 have E11 := Lib.hid hn.1
 have S12 := Lib.hid ((S10.out.ret hb hn.2 hf).put [.int .i64 s11, .slice a11 n11 c11] 24)
 clear hn hb hf S10
 obtain ⟨t11_0, t11_1⟩ := (S12.out.box _ (List.mem_cons_of_mem _ (List.mem_cons_of_mem _ (List.mem_cons_of_mem _ List.mem_cons_self))) : Fb (w.heap.size, 24, [.int .i64 s5, .slice a5 n5 c5]) _).cells2
 obtain ⟨t12_0, t12_1⟩ := (S12.out.box _ List.mem_cons_self : Fb (w11.heap.size, 24, [.int .i64 s11, .slice a11 n11 c11]) _).cells2
 go_wp2_with fail
 clear t11_0 t11_1 t12_0 t12_1
 refine (rdiv_r (S12.out.num (v := .slice a5 n5 c5) (z := -p) (List.mem_cons_of_mem _ (List.mem_cons_of_mem _ List.mem_cons_self)) E5.out) (S12.out.num (v := .slice a11 n11 c11) (z := G) List.mem_cons_self E11.out) HLP2.out HLG.out HGN.out HNU.out).mono ?_
 rintro e w13 ⟨s13, a13, n13, c13, x13, y13, z13, o13, rfl, hn, hm, hb, hf, hg⟩
 have E13 := Lib.hid hn.1
 have F13 : Hid (Fresh w.heap.size (.slice a13 n13 c13)) := hf.mono S12.out.below.size
 have S14 := Lib.hid (((S12.out.ret hb hn.2 hf).put [.int .i64 s13, .slice a13 n13 c13] 24).put' (n := w13.heap.size + 1) (by simp) [.int .i64 x13, .slice y13 z13 o13] 24)
 clear hn hm hb hf hg S12
 obtain ⟨t13_0, t13_1⟩ := (S14.out.box _ (List.mem_cons_of_mem _ (List.mem_cons_of_mem _ (List.mem_cons_of_mem _ (List.mem_cons_of_mem _ List.mem_cons_self)))) : Fb (w.heap.size + 1, 24, [.int .i64 s8, .slice a8 n8 c8]) _).cells2
 obtain ⟨t14_0, t14_1⟩ := (S14.out.box _ (List.mem_cons_of_mem _ (List.mem_cons_of_mem _ List.mem_cons_self)) : Fb (w11.heap.size, 24, [.int .i64 s11, .slice a11 n11 c11]) _).cells2
 go_wp2_with fail
 clear t13_0 t13_1 t14_0 t14_1
 refine (rdiv_r (S14.out.num (v := .slice a8 n8 c8) (z := -q) (List.mem_cons_of_mem _ (List.mem_cons_of_mem _ List.mem_cons_self)) E8.out) (S14.out.num (v := .slice a11 n11 c11) (z := G) (List.mem_cons_of_mem _ List.mem_cons_self) E11.out) HLQ2.out HLG.out HGN.out HDE.out).mono ?_
 rintro e w15 ⟨s15, a15, n15, c15, x15, y15, z15, o15, rfl, hn, hm, hb, hf, hg⟩
 have E15 := Lib.hid hn.1
 have F15 : Hid (Fresh w.heap.size (.slice a15 n15 c15)) := hf.mono S14.out.below.size
 have S16 := Lib.hid (((S14.out.ret hb hn.2 hf).put [.int .i64 s15, .slice a15 n15 c15] 24).put' (n := w15.heap.size + 1) (by simp) [.int .i64 x15, .slice y15 z15 o15] 24)
 clear hn hm hb hf hg S14
 obtain rfl : s15 = 1 := E15.out.trans (den_sign _)
 obtain ⟨t15_0, t15_1⟩ := (S16.out.box _ (List.mem_cons_of_mem _ (List.mem_cons_of_mem _ (List.mem_cons_of_mem _ List.mem_cons_self))) : Fb (w13.heap.size, 24, [.int .i64 s13, .slice a13 n13 c13]) _).cells2
 obtain ⟨t16_0, t16_1⟩ := (S16.out.box _ (List.mem_cons_of_mem _ List.mem_cons_self) : Fb (w15.heap.size, 24, [.int .i64 1, .slice a15 n15 c15]) _).cells2
 obtain ⟨r0, r1, r2, r3⟩ := (S16.out.box _ (List.mem_cons_of_mem _ (List.mem_cons_of_mem _ (List.mem_cons_of_mem _ (List.mem_cons_of_mem _ (List.mem_cons_of_mem _ List.mem_cons_self))))) : Fb (w.heap.size + 1 + 1, 26, [.int .i64 0, .slice none 0 0, .int .i64 0, .slice none 0 0]) _).cells4
 obtain ⟨f0, f1, f2, f3⟩ := (S16.out.box _ (List.mem_cons_of_mem _ (List.mem_cons_of_mem _ (List.mem_cons_of_mem _ (List.mem_cons_of_mem _ (List.mem_cons_of_mem _ List.mem_cons_self))))) : Fb (w.heap.size + 1 + 1, 26, [.int .i64 0, .slice none 0 0, .int .i64 0, .slice none 0 0]) _).free4
 go_wp2_with fail
 clear t15_0 t15_1 t16_0 t16_1
 have ZZ := Lib.hid (S16.out.set4 (pre := [_, _, _, _, _]) (.int .i64 s13) (.slice a13 n13 c13) (.int .i64 1) (.slice a15 n15 c15))
 exact bodyPost_ret (v := .tuple #[.agg #[.int .i64 s13, .slice a13 n13 c13, .int .i64 1, .slice a15 n15 c15], .int .i64 0]) (by simp [results, Tryz.results62, go_sem, r0, r1, r2, r3]) rfl ⟨_, _, _, _, _, _, _, rfl, ⟨ZZ.out.num (v := .slice a13 n13 c13) (z := r.num) (List.mem_cons_of_mem _ List.mem_cons_self) E13.out, ZZ.out.num (v := .slice a15 n15 c15) (z := (r.den : Int)) List.mem_cons_self (den_sign r).symm⟩, ZZ.out.below, F13.out, F15.out⟩

theorem rfnew_r {w : World} {sp sq : Int} {ap aq : Option Addr} {np cp nq cq : Nat} {p q : Int} {r : Rat} (hp : Num w sp (.slice ap np cp) p) (hq : Num w sq (.slice aq nq cq) q) (lp : Len 100000 p) (lq : Len 100000 q) (h0 : q ≠ 0) (h : Rat.divInt p q = r) : Calls Tryz.prog 62 #[.agg #[.int .i64 sp, .slice ap np cp], .agg #[.int .i64 sq, .slice aq nq cq]] w (FVE r 0 w) := by
 rcases Int.lt_or_gt_of_ne h0 with h1 | h1
 ·exact rfnew_neg hp hq lp lq h1 h
 ·exact rfnew_pos hp hq lp lq h1 h

set_option maxHeartbeats 2000000 in
theorem rfadd_k {w : World} {sa : Int} {aa ba : Option Addr} {na ca ma da : Nat} {sb : Int} {ab bb : Option Addr} {nb cb mb db : Nat} {a b : Rat} (ha : Fr w sa (.slice aa na ca) (.slice ba ma da) a) (hb : Fr w sb (.slice ab nb cb) (.slice bb mb db) b) (La : FSz 1000 a) (Lb : FSz 1000 b) :
  Calls Tryz.prog 64 #[.agg #[.int .i64 sa, .slice aa na ca, .int .i64 1, .slice ba ma da], .agg #[.int .i64 sb, .slice ab nb cb, .int .i64 1, .slice bb mb db]] w (FVE (a + b) 0 w) := by
 have HRAT : Hid (Rat.divInt ((a.num * (b.den : Int)) + (b.num * (a.den : Int))) ((a.den : Int) * (b.den : Int)) = (a + b)) := rat_add a b
 have HQ0 : Hid (((a.den : Int) * (b.den : Int)) ≠ 0) := Int.mul_ne_zero (den_ne a) (den_ne b)
 have LX0 : Hid (Len 100000 a.num) := Sz.len La.1
 have LY0 : Hid (Len 100000 (b.den : Int)) := Sz.len Lb.2
 have LX1 : Hid (Len 100000 b.num) := Sz.len Lb.1
 have LY1 : Hid (Len 100000 (a.den : Int)) := Sz.len La.2
 have LX2 : Hid (Len 100000 (a.den : Int)) := Sz.len La.2
 have LY2 : Hid (Len 100000 (b.den : Int)) := Sz.len Lb.2
 have LX3 : Hid (Len 100000 (a.num * (b.den : Int))) := Sz.len (Sz.mul La.1 Lb.2)
 have LY3 : Hid (Len 100000 (b.num * (a.den : Int))) := Sz.len (Sz.mul Lb.1 La.2)
 have LX4 : Hid (Len 100000 ((a.num * (b.den : Int)) + (b.num * (a.den : Int)))) := Sz.len (Sz.add (Sz.mul La.1 Lb.2) (Sz.mul Lb.1 La.2))
 have LY4 : Hid (Len 100000 ((a.den : Int) * (b.den : Int))) := Sz.len (Sz.mul La.2 Lb.2)
 have HA := Lib.hid ha
 have HB := Lib.hid hb
 have HLA := Lib.hid La
 have HLB := Lib.hid Lb
 have HaP := Lib.hid ha.1
 have HaQ := Lib.hid ha.2
 have HbP := Lib.hid hb.1
 have HbQ := Lib.hid hb.2
 have S0 := Lib.hid (((((Sf.start w)).put [.int .i64 sa, .slice aa na ca, .int .i64 1, .slice ba ma da] 26).put' (n := w.heap.size + 1) (by simp) [.int .i64 sb, .slice ab nb cb, .int .i64 1, .slice bb mb db] 26).put' (n := w.heap.size + 1 + 1) (by simp) [.int .i64 0, .slice none 0 0, .int .i64 0, .slice none 0 0] 26)
 clear ha hb La Lb
 go_enter Tryz.func64, Tryz.ntmps64
 go_wp2_with fail
 refine (rfright_k (HA.out.later S0.out.below) HLA.out).mono ?_
 rintro e w1 ⟨rfl, hb⟩
 have S2 := Lib.hid (S0.out.later hb)
 clear hb S0
 obtain ⟨t1_0, t1_1, t1_2, t1_3⟩ := (S2.out.box _ (List.mem_cons_of_mem _ List.mem_cons_self) : Fb (w.heap.size + 1, 26, [.int .i64 sb, .slice ab nb cb, .int .i64 1, .slice bb mb db]) _).cells4
 go_wp2_with fail
 clear t1_0 t1_1 t1_2 t1_3
 refine (rfright_k (HB.out.later S2.out.below) HLB.out).mono ?_
 rintro e w3 ⟨rfl, hb⟩
 have S4 := Lib.hid (S2.out.later hb)
 clear hb S2
 obtain ⟨t2_0, t2_1, t2_2, t2_3⟩ := (S4.out.box _ (List.mem_cons_of_mem _ (List.mem_cons_of_mem _ List.mem_cons_self)) : Fb (w.heap.size, 26, [.int .i64 sa, .slice aa na ca, .int .i64 1, .slice ba ma da]) _).cells4
 obtain ⟨t3_0, t3_1, t3_2, t3_3⟩ := (S4.out.box _ (List.mem_cons_of_mem _ List.mem_cons_self) : Fb (w.heap.size + 1, 26, [.int .i64 sb, .slice ab nb cb, .int .i64 1, .slice bb mb db]) _).cells4
 go_wp2_with fail
 clear t2_0 t2_1 t2_2 t2_3 t3_0 t3_1 t3_2 t3_3
 refine (rmul_k (HaP.out.later S4.out.below) (HbQ.out.later S4.out.below) LX0.out LY0.out).mono ?_
 rintro e w5 ⟨s5, a5, n5, c5, rfl, hn, hb, hf⟩
 have E5 := Lib.hid hn.1
 have S6 := Lib.hid ((S4.out.ret hb hn.2 hf).put [.int .i64 s5, .slice a5 n5 c5] 24)
 clear hn hb hf S4
 obtain ⟨t4_0, t4_1, t4_2, t4_3⟩ := (S6.out.box _ (List.mem_cons_of_mem _ (List.mem_cons_of_mem _ (List.mem_cons_of_mem _ List.mem_cons_self))) : Fb (w.heap.size, 26, [.int .i64 sa, .slice aa na ca, .int .i64 1, .slice ba ma da]) _).cells4
 obtain ⟨t5_0, t5_1, t5_2, t5_3⟩ := (S6.out.box _ (List.mem_cons_of_mem _ (List.mem_cons_of_mem _ List.mem_cons_self)) : Fb (w.heap.size + 1, 26, [.int .i64 sb, .slice ab nb cb, .int .i64 1, .slice bb mb db]) _).cells4
 go_wp2_with fail
 clear t4_0 t4_1 t4_2 t4_3 t5_0 t5_1 t5_2 t5_3
 refine (rmul_k (HbP.out.later S6.out.below) (HaQ.out.later S6.out.below) LX1.out LY1.out).mono ?_
 rintro e w7 ⟨s7, a7, n7, c7, rfl, hn, hb, hf⟩
 have E7 := Lib.hid hn.1
 have S8 := Lib.hid ((S6.out.ret hb hn.2 hf).put [.int .i64 s7, .slice a7 n7 c7] 24)
 clear hn hb hf S6
 obtain ⟨t6_0, t6_1, t6_2, t6_3⟩ := (S8.out.box _ (List.mem_cons_of_mem _ (List.mem_cons_of_mem _ (List.mem_cons_of_mem _ (List.mem_cons_of_mem _ List.mem_cons_self)))) : Fb (w.heap.size, 26, [.int .i64 sa, .slice aa na ca, .int .i64 1, .slice ba ma da]) _).cells4
 obtain ⟨t7_0, t7_1, t7_2, t7_3⟩ := (S8.out.box _ (List.mem_cons_of_mem _ (List.mem_cons_of_mem _ (List.mem_cons_of_mem _ List.mem_cons_self))) : Fb (w.heap.size + 1, 26, [.int .i64 sb, .slice ab nb cb, .int .i64 1, .slice bb mb db]) _).cells4
 go_wp2_with fail
 clear t6_0 t6_1 t6_2 t6_3 t7_0 t7_1 t7_2 t7_3
 refine (rmul_k (HaQ.out.later S8.out.below) (HbQ.out.later S8.out.below) LX2.out LY2.out).mono ?_
 rintro e w9 ⟨s9, a9, n9, c9, rfl, hn, hb, hf⟩
 have E9 := Lib.hid hn.1
 have S10 := Lib.hid ((S8.out.ret hb hn.2 hf).put [.int .i64 s9, .slice a9 n9 c9] 24)
 clear hn hb hf S8
 obtain ⟨t8_0, t8_1⟩ := (S10.out.box _ (List.mem_cons_of_mem _ (List.mem_cons_of_mem _ List.mem_cons_self)) : Fb (w5.heap.size, 24, [.int .i64 s5, .slice a5 n5 c5]) _).cells2
 obtain ⟨t9_0, t9_1⟩ := (S10.out.box _ (List.mem_cons_of_mem _ List.mem_cons_self) : Fb (w7.heap.size, 24, [.int .i64 s7, .slice a7 n7 c7]) _).cells2
 go_wp2_with fail
 clear t8_0 t8_1 t9_0 t9_1
 refine (radd_k (S10.out.num (v := .slice a5 n5 c5) (z := (a.num * (b.den : Int))) (List.mem_cons_of_mem _ (List.mem_cons_of_mem _ List.mem_cons_self)) E5.out) (S10.out.num (v := .slice a7 n7 c7) (z := (b.num * (a.den : Int))) (List.mem_cons_of_mem _ List.mem_cons_self) E7.out) LX3.out LY3.out).mono ?_
 rintro e w11 ⟨s11, a11, n11, c11, rfl, hn, hb, hf⟩
 have E11 := Lib.hid hn.1
 have S12 := Lib.hid ((S10.out.ret hb hn.2 hf).put [.int .i64 s11, .slice a11 n11 c11] 24)
 clear hn hb hf S10
 obtain ⟨t10_0, t10_1⟩ := (S12.out.box _ List.mem_cons_self : Fb (w11.heap.size, 24, [.int .i64 s11, .slice a11 n11 c11]) _).cells2
 obtain ⟨t11_0, t11_1⟩ := (S12.out.box _ (List.mem_cons_of_mem _ List.mem_cons_self) : Fb (w9.heap.size, 24, [.int .i64 s9, .slice a9 n9 c9]) _).cells2
 go_wp2_with fail
 clear t10_0 t10_1 t11_0 t11_1
 refine (rfnew_r (S12.out.num (v := .slice a11 n11 c11) (z := ((a.num * (b.den : Int)) + (b.num * (a.den : Int)))) List.mem_cons_self E11.out) (S12.out.num (v := .slice a9 n9 c9) (z := ((a.den : Int) * (b.den : Int))) (List.mem_cons_of_mem _ List.mem_cons_self) E9.out) LX4.out LY4.out HQ0.out HRAT.out).mono ?_
 rintro e w13 ⟨s13, a13, n13, c13, b13, m13, d13, rfl, hr, hb, hf, hg⟩
 have E13 := Lib.hid hr.1.1
 have HFR : Hid (Fresh w.heap.size (.slice a13 n13 c13) ∧ Fresh w.heap.size (.slice b13 m13 d13)) := ⟨hf.mono S12.out.below.size, hg.mono S12.out.below.size⟩
 have S14 := Lib.hid (S12.out.ret2 hb hr.1.2 hf hr.2.2 hg)
 clear hr hb hf hg S12
 obtain ⟨r0, r1, r2, r3⟩ := (S14.out.box _ (List.mem_cons_of_mem _ (List.mem_cons_of_mem _ (List.mem_cons_of_mem _ (List.mem_cons_of_mem _ List.mem_cons_self)))) : Fb (w.heap.size + 1 + 1, 26, [.int .i64 0, .slice none 0 0, .int .i64 0, .slice none 0 0]) _).cells4
 obtain ⟨f0, f1, f2, f3⟩ := (S14.out.box _ (List.mem_cons_of_mem _ (List.mem_cons_of_mem _ (List.mem_cons_of_mem _ (List.mem_cons_of_mem _ List.mem_cons_self)))) : Fb (w.heap.size + 1 + 1, 26, [.int .i64 0, .slice none 0 0, .int .i64 0, .slice none 0 0]) _).free4
 go_wp2_with fail
 have ZZ := Lib.hid (S14.out.set4 (pre := [_, _, _, _]) (.int .i64 s13) (.slice a13 n13 c13) (.int .i64 1) (.slice b13 m13 d13))
 exact bodyPost_ret (v := .tuple #[.agg #[.int .i64 s13, .slice a13 n13 c13, .int .i64 1, .slice b13 m13 d13], .int .i64 0]) (by simp [results, Tryz.results64, go_sem, r0, r1, r2, r3]) rfl ⟨_, _, _, _, _, _, _, rfl, ⟨ZZ.out.num (v := .slice a13 n13 c13) (z := ((a + b) : Rat).num) List.mem_cons_self E13.out, ZZ.out.num (v := .slice b13 m13 d13) (z := (((a + b) : Rat).den : Int)) (List.mem_cons_of_mem _ List.mem_cons_self) (den_sign _).symm⟩, ZZ.out.below, HFR.out.1, HFR.out.2⟩

set_option maxHeartbeats 2000000 in
theorem rfsub_k {w : World} {sa : Int} {aa ba : Option Addr} {na ca ma da : Nat} {sb : Int} {ab bb : Option Addr} {nb cb mb db : Nat} {a b : Rat} (ha : Fr w sa (.slice aa na ca) (.slice ba ma da) a) (hb : Fr w sb (.slice ab nb cb) (.slice bb mb db) b) (La : FSz 1000 a) (Lb : FSz 1000 b) :
  Calls Tryz.prog 53 #[.agg #[.int .i64 sa, .slice aa na ca, .int .i64 1, .slice ba ma da], .agg #[.int .i64 sb, .slice ab nb cb, .int .i64 1, .slice bb mb db]] w (FVE (a - b) 0 w) := by
 have HRAT : Hid (Rat.divInt ((a.num * (b.den : Int)) - (b.num * (a.den : Int))) ((a.den : Int) * (b.den : Int)) = (a - b)) := rat_sub a b
 have HQ0 : Hid (((a.den : Int) * (b.den : Int)) ≠ 0) := Int.mul_ne_zero (den_ne a) (den_ne b)
 have LX0 : Hid (Len 100000 a.num) := Sz.len La.1
 have LY0 : Hid (Len 100000 (b.den : Int)) := Sz.len Lb.2
 have LX1 : Hid (Len 100000 b.num) := Sz.len Lb.1
 have LY1 : Hid (Len 100000 (a.den : Int)) := Sz.len La.2
 have LX2 : Hid (Len 100000 (a.den : Int)) := Sz.len La.2
 have LY2 : Hid (Len 100000 (b.den : Int)) := Sz.len Lb.2
 have LX3 : Hid (Len 100000 (a.num * (b.den : Int))) := Sz.len (Sz.mul La.1 Lb.2)
 have LY3 : Hid (Len 100000 (b.num * (a.den : Int))) := Sz.len (Sz.mul Lb.1 La.2)
 have LX4 : Hid (Len 100000 ((a.num * (b.den : Int)) - (b.num * (a.den : Int)))) := Sz.len (Sz.sub (Sz.mul La.1 Lb.2) (Sz.mul Lb.1 La.2))
 have LY4 : Hid (Len 100000 ((a.den : Int) * (b.den : Int))) := Sz.len (Sz.mul La.2 Lb.2)
 have HA := Lib.hid ha
 have HB := Lib.hid hb
 have HLA := Lib.hid La
 have HLB := Lib.hid Lb
 have HaP := Lib.hid ha.1
 have HaQ := Lib.hid ha.2
 have HbP := Lib.hid hb.1
 have HbQ := Lib.hid hb.2
 have S0 := Lib.hid (((((Sf.start w)).put [.int .i64 sa, .slice aa na ca, .int .i64 1, .slice ba ma da] 26).put' (n := w.heap.size + 1) (by simp) [.int .i64 sb, .slice ab nb cb, .int .i64 1, .slice bb mb db] 26).put' (n := w.heap.size + 1 + 1) (by simp) [.int .i64 0, .slice none 0 0, .int .i64 0, .slice none 0 0] 26)
 clear ha hb La Lb
 go_enter Tryz.func53, Tryz.ntmps53
 go_wp2_with fail
 refine (rfright_k (HA.out.later S0.out.below) HLA.out).mono ?_
 rintro e w1 ⟨rfl, hb⟩
 have S2 := Lib.hid (S0.out.later hb)
 clear hb S0
 obtain ⟨t1_0, t1_1, t1_2, t1_3⟩ := (S2.out.box _ (List.mem_cons_of_mem _ List.mem_cons_self) : Fb (w.heap.size + 1, 26, [.int .i64 sb, .slice ab nb cb, .int .i64 1, .slice bb mb db]) _).cells4
 go_wp2_with fail
 clear t1_0 t1_1 t1_2 t1_3
 refine (rfright_k (HB.out.later S2.out.below) HLB.out).mono ?_
 rintro e w3 ⟨rfl, hb⟩
 have S4 := Lib.hid (S2.out.later hb)
 clear hb S2
 obtain ⟨t2_0, t2_1, t2_2, t2_3⟩ := (S4.out.box _ (List.mem_cons_of_mem _ (List.mem_cons_of_mem _ List.mem_cons_self)) : Fb (w.heap.size, 26, [.int .i64 sa, .slice aa na ca, .int .i64 1, .slice ba ma da]) _).cells4
 obtain ⟨t3_0, t3_1, t3_2, t3_3⟩ := (S4.out.box _ (List.mem_cons_of_mem _ List.mem_cons_self) : Fb (w.heap.size + 1, 26, [.int .i64 sb, .slice ab nb cb, .int .i64 1, .slice bb mb db]) _).cells4
 go_wp2_with fail
 clear t2_0 t2_1 t2_2 t2_3 t3_0 t3_1 t3_2 t3_3
 refine (rmul_k (HaP.out.later S4.out.below) (HbQ.out.later S4.out.below) LX0.out LY0.out).mono ?_
 rintro e w5 ⟨s5, a5, n5, c5, rfl, hn, hb, hf⟩
 have E5 := Lib.hid hn.1
 have S6 := Lib.hid ((S4.out.ret hb hn.2 hf).put [.int .i64 s5, .slice a5 n5 c5] 24)
 clear hn hb hf S4
 obtain ⟨t4_0, t4_1, t4_2, t4_3⟩ := (S6.out.box _ (List.mem_cons_of_mem _ (List.mem_cons_of_mem _ (List.mem_cons_of_mem _ List.mem_cons_self))) : Fb (w.heap.size, 26, [.int .i64 sa, .slice aa na ca, .int .i64 1, .slice ba ma da]) _).cells4
 obtain ⟨t5_0, t5_1, t5_2, t5_3⟩ := (S6.out.box _ (List.mem_cons_of_mem _ (List.mem_cons_of_mem _ List.mem_cons_self)) : Fb (w.heap.size + 1, 26, [.int .i64 sb, .slice ab nb cb, .int .i64 1, .slice bb mb db]) _).cells4
 go_wp2_with fail
 clear t4_0 t4_1 t4_2 t4_3 t5_0 t5_1 t5_2 t5_3
 refine (rmul_k (HbP.out.later S6.out.below) (HaQ.out.later S6.out.below) LX1.out LY1.out).mono ?_
 rintro e w7 ⟨s7, a7, n7, c7, rfl, hn, hb, hf⟩
 have E7 := Lib.hid hn.1
 have S8 := Lib.hid ((S6.out.ret hb hn.2 hf).put [.int .i64 s7, .slice a7 n7 c7] 24)
 clear hn hb hf S6
 obtain ⟨t6_0, t6_1, t6_2, t6_3⟩ := (S8.out.box _ (List.mem_cons_of_mem _ (List.mem_cons_of_mem _ (List.mem_cons_of_mem _ (List.mem_cons_of_mem _ List.mem_cons_self)))) : Fb (w.heap.size, 26, [.int .i64 sa, .slice aa na ca, .int .i64 1, .slice ba ma da]) _).cells4
 obtain ⟨t7_0, t7_1, t7_2, t7_3⟩ := (S8.out.box _ (List.mem_cons_of_mem _ (List.mem_cons_of_mem _ (List.mem_cons_of_mem _ List.mem_cons_self))) : Fb (w.heap.size + 1, 26, [.int .i64 sb, .slice ab nb cb, .int .i64 1, .slice bb mb db]) _).cells4
 go_wp2_with fail
 clear t6_0 t6_1 t6_2 t6_3 t7_0 t7_1 t7_2 t7_3
 refine (rmul_k (HaQ.out.later S8.out.below) (HbQ.out.later S8.out.below) LX2.out LY2.out).mono ?_
 rintro e w9 ⟨s9, a9, n9, c9, rfl, hn, hb, hf⟩
 have E9 := Lib.hid hn.1
 have S10 := Lib.hid ((S8.out.ret hb hn.2 hf).put [.int .i64 s9, .slice a9 n9 c9] 24)
 clear hn hb hf S8
 obtain ⟨t8_0, t8_1⟩ := (S10.out.box _ (List.mem_cons_of_mem _ (List.mem_cons_of_mem _ List.mem_cons_self)) : Fb (w5.heap.size, 24, [.int .i64 s5, .slice a5 n5 c5]) _).cells2
 obtain ⟨t9_0, t9_1⟩ := (S10.out.box _ (List.mem_cons_of_mem _ List.mem_cons_self) : Fb (w7.heap.size, 24, [.int .i64 s7, .slice a7 n7 c7]) _).cells2
 go_wp2_with fail
 clear t8_0 t8_1 t9_0 t9_1
 refine (rsub_k (S10.out.num (v := .slice a5 n5 c5) (z := (a.num * (b.den : Int))) (List.mem_cons_of_mem _ (List.mem_cons_of_mem _ List.mem_cons_self)) E5.out) (S10.out.num (v := .slice a7 n7 c7) (z := (b.num * (a.den : Int))) (List.mem_cons_of_mem _ List.mem_cons_self) E7.out) LX3.out LY3.out).mono ?_
 rintro e w11 ⟨s11, a11, n11, c11, rfl, hn, hb, hf⟩
 have E11 := Lib.hid hn.1
 have S12 := Lib.hid ((S10.out.ret hb hn.2 hf).put [.int .i64 s11, .slice a11 n11 c11] 24)
 clear hn hb hf S10
 obtain ⟨t10_0, t10_1⟩ := (S12.out.box _ List.mem_cons_self : Fb (w11.heap.size, 24, [.int .i64 s11, .slice a11 n11 c11]) _).cells2
 obtain ⟨t11_0, t11_1⟩ := (S12.out.box _ (List.mem_cons_of_mem _ List.mem_cons_self) : Fb (w9.heap.size, 24, [.int .i64 s9, .slice a9 n9 c9]) _).cells2
 go_wp2_with fail
 clear t10_0 t10_1 t11_0 t11_1
 refine (rfnew_r (S12.out.num (v := .slice a11 n11 c11) (z := ((a.num * (b.den : Int)) - (b.num * (a.den : Int)))) List.mem_cons_self E11.out) (S12.out.num (v := .slice a9 n9 c9) (z := ((a.den : Int) * (b.den : Int))) (List.mem_cons_of_mem _ List.mem_cons_self) E9.out) LX4.out LY4.out HQ0.out HRAT.out).mono ?_
 rintro e w13 ⟨s13, a13, n13, c13, b13, m13, d13, rfl, hr, hb, hf, hg⟩
 have E13 := Lib.hid hr.1.1
 have HFR : Hid (Fresh w.heap.size (.slice a13 n13 c13) ∧ Fresh w.heap.size (.slice b13 m13 d13)) := ⟨hf.mono S12.out.below.size, hg.mono S12.out.below.size⟩
 have S14 := Lib.hid (S12.out.ret2 hb hr.1.2 hf hr.2.2 hg)
 clear hr hb hf hg S12
 obtain ⟨r0, r1, r2, r3⟩ := (S14.out.box _ (List.mem_cons_of_mem _ (List.mem_cons_of_mem _ (List.mem_cons_of_mem _ (List.mem_cons_of_mem _ List.mem_cons_self)))) : Fb (w.heap.size + 1 + 1, 26, [.int .i64 0, .slice none 0 0, .int .i64 0, .slice none 0 0]) _).cells4
 obtain ⟨f0, f1, f2, f3⟩ := (S14.out.box _ (List.mem_cons_of_mem _ (List.mem_cons_of_mem _ (List.mem_cons_of_mem _ (List.mem_cons_of_mem _ List.mem_cons_self)))) : Fb (w.heap.size + 1 + 1, 26, [.int .i64 0, .slice none 0 0, .int .i64 0, .slice none 0 0]) _).free4
 go_wp2_with fail
 have ZZ := Lib.hid (S14.out.set4 (pre := [_, _, _, _]) (.int .i64 s13) (.slice a13 n13 c13) (.int .i64 1) (.slice b13 m13 d13))
 exact bodyPost_ret (v := .tuple #[.agg #[.int .i64 s13, .slice a13 n13 c13, .int .i64 1, .slice b13 m13 d13], .int .i64 0]) (by simp [results, Tryz.results53, go_sem, r0, r1, r2, r3]) rfl ⟨_, _, _, _, _, _, _, rfl, ⟨ZZ.out.num (v := .slice a13 n13 c13) (z := ((a - b) : Rat).num) List.mem_cons_self E13.out, ZZ.out.num (v := .slice b13 m13 d13) (z := (((a - b) : Rat).den : Int)) (List.mem_cons_of_mem _ List.mem_cons_self) (den_sign _).symm⟩, ZZ.out.below, HFR.out.1, HFR.out.2⟩

set_option maxHeartbeats 2000000 in
theorem rfmul_k {w : World} {sa : Int} {aa ba : Option Addr} {na ca ma da : Nat} {sb : Int} {ab bb : Option Addr} {nb cb mb db : Nat} {a b : Rat} (ha : Fr w sa (.slice aa na ca) (.slice ba ma da) a) (hb : Fr w sb (.slice ab nb cb) (.slice bb mb db) b) (La : FSz 1000 a) (Lb : FSz 1000 b) :
  Calls Tryz.prog 65 #[.agg #[.int .i64 sa, .slice aa na ca, .int .i64 1, .slice ba ma da], .agg #[.int .i64 sb, .slice ab nb cb, .int .i64 1, .slice bb mb db]] w (FVE (a * b) 0 w) := by
 have HRAT : Hid (Rat.divInt (a.num * b.num) ((a.den : Int) * (b.den : Int)) = (a * b)) := rat_mul a b
 have HQ0 : Hid (((a.den : Int) * (b.den : Int)) ≠ 0) := Int.mul_ne_zero (den_ne a) (den_ne b)
 have LX0 : Hid (Len 100000 a.num) := Sz.len La.1
 have LY0 : Hid (Len 100000 b.num) := Sz.len Lb.1
 have LX1 : Hid (Len 100000 (a.den : Int)) := Sz.len La.2
 have LY1 : Hid (Len 100000 (b.den : Int)) := Sz.len Lb.2
 have LX2 : Hid (Len 100000 (a.num * b.num)) := Sz.len (Sz.mul La.1 Lb.1)
 have LY2 : Hid (Len 100000 ((a.den : Int) * (b.den : Int))) := Sz.len (Sz.mul La.2 Lb.2)
 have HA := Lib.hid ha
 have HB := Lib.hid hb
 have HLA := Lib.hid La
 have HLB := Lib.hid Lb
 have HaP := Lib.hid ha.1
 have HaQ := Lib.hid ha.2
 have HbP := Lib.hid hb.1
 have HbQ := Lib.hid hb.2
 have S0 := Lib.hid (((((Sf.start w)).put [.int .i64 sa, .slice aa na ca, .int .i64 1, .slice ba ma da] 26).put' (n := w.heap.size + 1) (by simp) [.int .i64 sb, .slice ab nb cb, .int .i64 1, .slice bb mb db] 26).put' (n := w.heap.size + 1 + 1) (by simp) [.int .i64 0, .slice none 0 0, .int .i64 0, .slice none 0 0] 26)
 clear ha hb La Lb
 go_enter Tryz.func65, Tryz.ntmps65
 go_wp2_with fail
 refine (rfright_k (HA.out.later S0.out.below) HLA.out).mono ?_
 rintro e w1 ⟨rfl, hb⟩
 have S2 := Lib.hid (S0.out.later hb)
 clear hb S0
 obtain ⟨t1_0, t1_1, t1_2, t1_3⟩ := (S2.out.box _ (List.mem_cons_of_mem _ List.mem_cons_self) : Fb (w.heap.size + 1, 26, [.int .i64 sb, .slice ab nb cb, .int .i64 1, .slice bb mb db]) _).cells4
 go_wp2_with fail
 clear t1_0 t1_1 t1_2 t1_3
 refine (rfright_k (HB.out.later S2.out.below) HLB.out).mono ?_
 rintro e w3 ⟨rfl, hb⟩
 have S4 := Lib.hid (S2.out.later hb)
 clear hb S2
 obtain ⟨t2_0, t2_1, t2_2, t2_3⟩ := (S4.out.box _ (List.mem_cons_of_mem _ (List.mem_cons_of_mem _ List.mem_cons_self)) : Fb (w.heap.size, 26, [.int .i64 sa, .slice aa na ca, .int .i64 1, .slice ba ma da]) _).cells4
 obtain ⟨t3_0, t3_1, t3_2, t3_3⟩ := (S4.out.box _ (List.mem_cons_of_mem _ List.mem_cons_self) : Fb (w.heap.size + 1, 26, [.int .i64 sb, .slice ab nb cb, .int .i64 1, .slice bb mb db]) _).cells4
 go_wp2_with fail
 clear t2_0 t2_1 t2_2 t2_3 t3_0 t3_1 t3_2 t3_3
 refine (rmul_k (HaP.out.later S4.out.below) (HbP.out.later S4.out.below) LX0.out LY0.out).mono ?_
 rintro e w5 ⟨s5, a5, n5, c5, rfl, hn, hb, hf⟩
 have E5 := Lib.hid hn.1
 have S6 := Lib.hid ((S4.out.ret hb hn.2 hf).put [.int .i64 s5, .slice a5 n5 c5] 24)
 clear hn hb hf S4
 obtain ⟨t4_0, t4_1, t4_2, t4_3⟩ := (S6.out.box _ (List.mem_cons_of_mem _ (List.mem_cons_of_mem _ (List.mem_cons_of_mem _ List.mem_cons_self))) : Fb (w.heap.size, 26, [.int .i64 sa, .slice aa na ca, .int .i64 1, .slice ba ma da]) _).cells4
 obtain ⟨t5_0, t5_1, t5_2, t5_3⟩ := (S6.out.box _ (List.mem_cons_of_mem _ (List.mem_cons_of_mem _ List.mem_cons_self)) : Fb (w.heap.size + 1, 26, [.int .i64 sb, .slice ab nb cb, .int .i64 1, .slice bb mb db]) _).cells4
 go_wp2_with fail
 clear t4_0 t4_1 t4_2 t4_3 t5_0 t5_1 t5_2 t5_3
 refine (rmul_k (HaQ.out.later S6.out.below) (HbQ.out.later S6.out.below) LX1.out LY1.out).mono ?_
 rintro e w7 ⟨s7, a7, n7, c7, rfl, hn, hb, hf⟩
 have E7 := Lib.hid hn.1
 have S8 := Lib.hid ((S6.out.ret hb hn.2 hf).put [.int .i64 s7, .slice a7 n7 c7] 24)
 clear hn hb hf S6
 obtain ⟨t6_0, t6_1⟩ := (S8.out.box _ (List.mem_cons_of_mem _ List.mem_cons_self) : Fb (w5.heap.size, 24, [.int .i64 s5, .slice a5 n5 c5]) _).cells2
 obtain ⟨t7_0, t7_1⟩ := (S8.out.box _ List.mem_cons_self : Fb (w7.heap.size, 24, [.int .i64 s7, .slice a7 n7 c7]) _).cells2
 go_wp2_with fail
 clear t6_0 t6_1 t7_0 t7_1
 refine (rfnew_r (S8.out.num (v := .slice a5 n5 c5) (z := (a.num * b.num)) (List.mem_cons_of_mem _ List.mem_cons_self) E5.out) (S8.out.num (v := .slice a7 n7 c7) (z := ((a.den : Int) * (b.den : Int))) List.mem_cons_self E7.out) LX2.out LY2.out HQ0.out HRAT.out).mono ?_
 rintro e w9 ⟨s9, a9, n9, c9, b9, m9, d9, rfl, hr, hb, hf, hg⟩
 have E9 := Lib.hid hr.1.1
 have HFR : Hid (Fresh w.heap.size (.slice a9 n9 c9) ∧ Fresh w.heap.size (.slice b9 m9 d9)) := ⟨hf.mono S8.out.below.size, hg.mono S8.out.below.size⟩
 have S10 := Lib.hid (S8.out.ret2 hb hr.1.2 hf hr.2.2 hg)
 clear hr hb hf hg S8
 obtain ⟨r0, r1, r2, r3⟩ := (S10.out.box _ (List.mem_cons_of_mem _ (List.mem_cons_of_mem _ List.mem_cons_self)) : Fb (w.heap.size + 1 + 1, 26, [.int .i64 0, .slice none 0 0, .int .i64 0, .slice none 0 0]) _).cells4
 obtain ⟨f0, f1, f2, f3⟩ := (S10.out.box _ (List.mem_cons_of_mem _ (List.mem_cons_of_mem _ List.mem_cons_self)) : Fb (w.heap.size + 1 + 1, 26, [.int .i64 0, .slice none 0 0, .int .i64 0, .slice none 0 0]) _).free4
 go_wp2_with fail
 have ZZ := Lib.hid (S10.out.set4 (pre := [_, _]) (.int .i64 s9) (.slice a9 n9 c9) (.int .i64 1) (.slice b9 m9 d9))
 exact bodyPost_ret (v := .tuple #[.agg #[.int .i64 s9, .slice a9 n9 c9, .int .i64 1, .slice b9 m9 d9], .int .i64 0]) (by simp [results, Tryz.results65, go_sem, r0, r1, r2, r3]) rfl ⟨_, _, _, _, _, _, _, rfl, ⟨ZZ.out.num (v := .slice a9 n9 c9) (z := ((a * b) : Rat).num) List.mem_cons_self E9.out, ZZ.out.num (v := .slice b9 m9 d9) (z := (((a * b) : Rat).den : Int)) (List.mem_cons_of_mem _ List.mem_cons_self) (den_sign _).symm⟩, ZZ.out.below, HFR.out.1, HFR.out.2⟩

set_option maxHeartbeats 2000000 in
theorem rfdiv_k {w : World} {sa : Int} {aa ba : Option Addr} {na ca ma da : Nat} {sb : Int} {ab bb : Option Addr} {nb cb mb db : Nat} {a b : Rat} (ha : Fr w sa (.slice aa na ca) (.slice ba ma da) a) (hb : Fr w sb (.slice ab nb cb) (.slice bb mb db) b) (La : FSz 1000 a) (Lb : FSz 1000 b) (h0 : b ≠ 0) :
  Calls Tryz.prog 66 #[.agg #[.int .i64 sa, .slice aa na ca, .int .i64 1, .slice ba ma da], .agg #[.int .i64 sb, .slice ab nb cb, .int .i64 1, .slice bb mb db]] w (FVE (a / b) 0 w) := by
 have HRAT : Hid (Rat.divInt (a.num * (b.den : Int)) ((a.den : Int) * b.num) = (a / b)) := rat_div a b
 have HQ0 : Hid (((a.den : Int) * b.num) ≠ 0) := Int.mul_ne_zero (den_ne a) (num_ne h0)
 have LX0 : Hid (Len 100000 a.num) := Sz.len La.1
 have LY0 : Hid (Len 100000 (b.den : Int)) := Sz.len Lb.2
 have LX1 : Hid (Len 100000 (a.den : Int)) := Sz.len La.2
 have LY1 : Hid (Len 100000 b.num) := Sz.len Lb.1
 have LX2 : Hid (Len 100000 (a.num * (b.den : Int))) := Sz.len (Sz.mul La.1 Lb.2)
 have LY2 : Hid (Len 100000 ((a.den : Int) * b.num)) := Sz.len (Sz.mul La.2 Lb.1)
 have hs0 : (sb == 0) = false := by rw [hb.1.1, beq_eq_false_iff_ne]; exact fun e => num_ne h0 (Int.sign_eq_zero_iff_zero.1 e)
 have HA := Lib.hid ha
 have HB := Lib.hid hb
 have HLA := Lib.hid La
 have HLB := Lib.hid Lb
 have HaP := Lib.hid ha.1
 have HaQ := Lib.hid ha.2
 have HbP := Lib.hid hb.1
 have HbQ := Lib.hid hb.2
 have S0 := Lib.hid (((((Sf.start w)).put [.int .i64 sa, .slice aa na ca, .int .i64 1, .slice ba ma da] 26).put' (n := w.heap.size + 1) (by simp) [.int .i64 sb, .slice ab nb cb, .int .i64 1, .slice bb mb db] 26).put' (n := w.heap.size + 1 + 1) (by simp) [.int .i64 0, .slice none 0 0, .int .i64 0, .slice none 0 0] 26)
 clear ha hb La Lb h0
 go_enter Tryz.func66, Tryz.ntmps66
 go_wp2_with fail
 refine (rfright_k (HA.out.later S0.out.below) HLA.out).mono ?_
 rintro e w1 ⟨rfl, hb⟩
 have S2 := Lib.hid (S0.out.later hb)
 clear hb S0
 obtain ⟨t1_0, t1_1, t1_2, t1_3⟩ := (S2.out.box _ (List.mem_cons_of_mem _ List.mem_cons_self) : Fb (w.heap.size + 1, 26, [.int .i64 sb, .slice ab nb cb, .int .i64 1, .slice bb mb db]) _).cells4
 go_wp2_with fail
 clear t1_0 t1_1 t1_2 t1_3
 refine (rfright_k (HB.out.later S2.out.below) HLB.out).mono ?_
 rintro e w3 ⟨rfl, hb⟩
 have S4 := Lib.hid (S2.out.later hb)
 clear hb S2
 obtain ⟨t2_0, t2_1, t2_2, t2_3⟩ := (S4.out.box _ (List.mem_cons_of_mem _ (List.mem_cons_of_mem _ List.mem_cons_self)) : Fb (w.heap.size, 26, [.int .i64 sa, .slice aa na ca, .int .i64 1, .slice ba ma da]) _).cells4
 obtain ⟨t3_0, t3_1, t3_2, t3_3⟩ := (S4.out.box _ (List.mem_cons_of_mem _ List.mem_cons_self) : Fb (w.heap.size + 1, 26, [.int .i64 sb, .slice ab nb cb, .int .i64 1, .slice bb mb db]) _).cells4
 go_wp2_with fail
 clear t2_0 t2_1 t2_2 t2_3 t3_0 t3_1 t3_2 t3_3
 refine (rmul_k (HaP.out.later S4.out.below) (HbQ.out.later S4.out.below) LX0.out LY0.out).mono ?_
 rintro e w5 ⟨s5, a5, n5, c5, rfl, hn, hb, hf⟩
 have E5 := Lib.hid hn.1
 have S6 := Lib.hid ((S4.out.ret hb hn.2 hf).put [.int .i64 s5, .slice a5 n5 c5] 24)
 clear hn hb hf S4
 obtain ⟨t4_0, t4_1, t4_2, t4_3⟩ := (S6.out.box _ (List.mem_cons_of_mem _ (List.mem_cons_of_mem _ (List.mem_cons_of_mem _ List.mem_cons_self))) : Fb (w.heap.size, 26, [.int .i64 sa, .slice aa na ca, .int .i64 1, .slice ba ma da]) _).cells4
 obtain ⟨t5_0, t5_1, t5_2, t5_3⟩ := (S6.out.box _ (List.mem_cons_of_mem _ (List.mem_cons_of_mem _ List.mem_cons_self)) : Fb (w.heap.size + 1, 26, [.int .i64 sb, .slice ab nb cb, .int .i64 1, .slice bb mb db]) _).cells4
 go_wp2_with fail
 clear t4_0 t4_1 t4_2 t4_3 t5_0 t5_1 t5_2 t5_3
 refine (rmul_k (HaQ.out.later S6.out.below) (HbP.out.later S6.out.below) LX1.out LY1.out).mono ?_
 rintro e w7 ⟨s7, a7, n7, c7, rfl, hn, hb, hf⟩
 have E7 := Lib.hid hn.1
 have S8 := Lib.hid ((S6.out.ret hb hn.2 hf).put [.int .i64 s7, .slice a7 n7 c7] 24)
 clear hn hb hf S6
 obtain ⟨t6_0, t6_1⟩ := (S8.out.box _ (List.mem_cons_of_mem _ List.mem_cons_self) : Fb (w5.heap.size, 24, [.int .i64 s5, .slice a5 n5 c5]) _).cells2
 obtain ⟨t7_0, t7_1⟩ := (S8.out.box _ List.mem_cons_self : Fb (w7.heap.size, 24, [.int .i64 s7, .slice a7 n7 c7]) _).cells2
 go_wp2_with fail
 clear t6_0 t6_1 t7_0 t7_1
 refine (rfnew_r (S8.out.num (v := .slice a5 n5 c5) (z := (a.num * (b.den : Int))) (List.mem_cons_of_mem _ List.mem_cons_self) E5.out) (S8.out.num (v := .slice a7 n7 c7) (z := ((a.den : Int) * b.num)) List.mem_cons_self E7.out) LX2.out LY2.out HQ0.out HRAT.out).mono ?_
 rintro e w9 ⟨s9, a9, n9, c9, b9, m9, d9, rfl, hr, hb, hf, hg⟩
 have E9 := Lib.hid hr.1.1
 have HFR : Hid (Fresh w.heap.size (.slice a9 n9 c9) ∧ Fresh w.heap.size (.slice b9 m9 d9)) := ⟨hf.mono S8.out.below.size, hg.mono S8.out.below.size⟩
 have S10 := Lib.hid (S8.out.ret2 hb hr.1.2 hf hr.2.2 hg)
 clear hr hb hf hg S8
 obtain ⟨r0, r1, r2, r3⟩ := (S10.out.box _ (List.mem_cons_of_mem _ (List.mem_cons_of_mem _ List.mem_cons_self)) : Fb (w.heap.size + 1 + 1, 26, [.int .i64 0, .slice none 0 0, .int .i64 0, .slice none 0 0]) _).cells4
 obtain ⟨f0, f1, f2, f3⟩ := (S10.out.box _ (List.mem_cons_of_mem _ (List.mem_cons_of_mem _ List.mem_cons_self)) : Fb (w.heap.size + 1 + 1, 26, [.int .i64 0, .slice none 0 0, .int .i64 0, .slice none 0 0]) _).free4
 go_wp2_with fail
 have ZZ := Lib.hid (S10.out.set4 (pre := [_, _]) (.int .i64 s9) (.slice a9 n9 c9) (.int .i64 1) (.slice b9 m9 d9))
 exact bodyPost_ret (v := .tuple #[.agg #[.int .i64 s9, .slice a9 n9 c9, .int .i64 1, .slice b9 m9 d9], .int .i64 0]) (by simp [results, Tryz.results66, go_sem, r0, r1, r2, r3]) rfl ⟨_, _, _, _, _, _, _, rfl, ⟨ZZ.out.num (v := .slice a9 n9 c9) (z := ((a / b) : Rat).num) List.mem_cons_self E9.out, ZZ.out.num (v := .slice b9 m9 d9) (z := (((a / b) : Rat).den : Int)) (List.mem_cons_of_mem _ List.mem_cons_self) (den_sign _).symm⟩, ZZ.out.below, HFR.out.1, HFR.out.2⟩

set_option maxHeartbeats 2000000 in
theorem rfcmp_k {w : World} {sa : Int} {aa ba : Option Addr} {na ca ma da : Nat} {sb : Int} {ab bb : Option Addr} {nb cb mb db : Nat} {a b : Rat} (ha : Fr w sa (.slice aa na ca) (.slice ba ma da) a) (hb : Fr w sb (.slice ab nb cb) (.slice bb mb db) b) (La : FSz 1000 a) (Lb : FSz 1000 b) :
  Calls Tryz.prog 46 #[.agg #[.int .i64 sa, .slice aa na ca, .int .i64 1, .slice ba ma da], .agg #[.int .i64 sb, .slice ab nb cb, .int .i64 1, .slice bb mb db]] w (fun e w' => e = .returned (.int .i64 (cmpR a b)) ∧ RowKit.Below w.heap.size w w') := by
 have HC := Lib.hid (cmp_cross a b)
 have LX0 : Hid (Len 100000 a.num) := Sz.len La.1
 have LY0 : Hid (Len 100000 (b.den : Int)) := Sz.len Lb.2
 have LX1 : Hid (Len 100000 b.num) := Sz.len Lb.1
 have LY1 : Hid (Len 100000 (a.den : Int)) := Sz.len La.2
 have LX2 : Hid (Len 100000 (a.num * (b.den : Int))) := Sz.len (Sz.mul La.1 Lb.2)
 have LY2 : Hid (Len 100000 (b.num * (a.den : Int))) := Sz.len (Sz.mul Lb.1 La.2)
 have HA := Lib.hid ha
 have HB := Lib.hid hb
 have HLA := Lib.hid La
 have HLB := Lib.hid Lb
 have HaP := Lib.hid ha.1
 have HaQ := Lib.hid ha.2
 have HbP := Lib.hid hb.1
 have HbQ := Lib.hid hb.2
 have S0 := Lib.hid ((((Sf.start w)).put [.int .i64 sa, .slice aa na ca, .int .i64 1, .slice ba ma da] 26).put' (n := w.heap.size + 1) (by simp) [.int .i64 sb, .slice ab nb cb, .int .i64 1, .slice bb mb db] 26)
 clear ha hb La Lb
 go_enter Tryz.func46, Tryz.ntmps46
 go_wp2_with fail
 refine (rfright_k (HA.out.later S0.out.below) HLA.out).mono ?_
 rintro e w1 ⟨rfl, hb⟩
 have S2 := Lib.hid (S0.out.later hb)
 clear hb S0
 obtain ⟨t1_0, t1_1, t1_2, t1_3⟩ := (S2.out.box _ List.mem_cons_self : Fb (w.heap.size + 1, 26, [.int .i64 sb, .slice ab nb cb, .int .i64 1, .slice bb mb db]) _).cells4
 go_wp2_with fail
 clear t1_0 t1_1 t1_2 t1_3
 refine (rfright_k (HB.out.later S2.out.below) HLB.out).mono ?_
 rintro e w3 ⟨rfl, hb⟩
 have S4 := Lib.hid (S2.out.later hb)
 clear hb S2
 obtain ⟨t2_0, t2_1, t2_2, t2_3⟩ := (S4.out.box _ (List.mem_cons_of_mem _ List.mem_cons_self) : Fb (w.heap.size, 26, [.int .i64 sa, .slice aa na ca, .int .i64 1, .slice ba ma da]) _).cells4
 obtain ⟨t3_0, t3_1, t3_2, t3_3⟩ := (S4.out.box _ List.mem_cons_self : Fb (w.heap.size + 1, 26, [.int .i64 sb, .slice ab nb cb, .int .i64 1, .slice bb mb db]) _).cells4
 go_wp2_with fail
 clear t2_0 t2_1 t2_2 t2_3 t3_0 t3_1 t3_2 t3_3
 refine (rmul_k (HaP.out.later S4.out.below) (HbQ.out.later S4.out.below) LX0.out LY0.out).mono ?_
 rintro e w5 ⟨s5, a5, n5, c5, rfl, hn, hb, hf⟩
 have E5 := Lib.hid hn.1
 have S6 := Lib.hid ((S4.out.ret hb hn.2 hf).put [.int .i64 s5, .slice a5 n5 c5] 24)
 clear hn hb hf S4
 obtain ⟨t4_0, t4_1, t4_2, t4_3⟩ := (S6.out.box _ (List.mem_cons_of_mem _ (List.mem_cons_of_mem _ List.mem_cons_self)) : Fb (w.heap.size, 26, [.int .i64 sa, .slice aa na ca, .int .i64 1, .slice ba ma da]) _).cells4
 obtain ⟨t5_0, t5_1, t5_2, t5_3⟩ := (S6.out.box _ (List.mem_cons_of_mem _ List.mem_cons_self) : Fb (w.heap.size + 1, 26, [.int .i64 sb, .slice ab nb cb, .int .i64 1, .slice bb mb db]) _).cells4
 go_wp2_with fail
 clear t4_0 t4_1 t4_2 t4_3 t5_0 t5_1 t5_2 t5_3
 refine (rmul_k (HbP.out.later S6.out.below) (HaQ.out.later S6.out.below) LX1.out LY1.out).mono ?_
 rintro e w7 ⟨s7, a7, n7, c7, rfl, hn, hb, hf⟩
 have E7 := Lib.hid hn.1
 have S8 := Lib.hid ((S6.out.ret hb hn.2 hf).put [.int .i64 s7, .slice a7 n7 c7] 24)
 clear hn hb hf S6
 obtain ⟨t6_0, t6_1⟩ := (S8.out.box _ (List.mem_cons_of_mem _ List.mem_cons_self) : Fb (w5.heap.size, 24, [.int .i64 s5, .slice a5 n5 c5]) _).cells2
 obtain ⟨t7_0, t7_1⟩ := (S8.out.box _ List.mem_cons_self : Fb (w7.heap.size, 24, [.int .i64 s7, .slice a7 n7 c7]) _).cells2
 go_wp2_with fail
 clear t6_0 t6_1 t7_0 t7_1
 refine (rcmp_t (S8.out.num (v := .slice a5 n5 c5) (z := (a.num * (b.den : Int))) (List.mem_cons_of_mem _ List.mem_cons_self) E5.out) (S8.out.num (v := .slice a7 n7 c7) (z := (b.num * (a.den : Int))) List.mem_cons_self E7.out) HC.out).mono ?_
 rintro e w9 ⟨rfl, hb⟩
 have S10 := Lib.hid (S8.out.later hb)
 clear hb S8
 go_wp2_with fail
 go_ret
 exact ⟨rfl, S10.out.below⟩

end Go.Proofs.YtgncnkojpedmdaaGreat.Bi

namespace Go.Proofs.YtgncnkojpedmdaaGreat.Bi
open Go.RowKit

set_option maxHeartbeats 2000000 in
theorem rfneg_k {w : World} {sa : Int} {aa ba : Option Addr} {na ca ma da : Nat} {a : Rat} (ha : Fr w sa (.slice aa na ca) (.slice ba ma da) a) (La : FSz 1000 a) :
  Calls Tryz.prog 55 #[.agg #[.int .i64 sa, .slice aa na ca, .int .i64 1, .slice ba ma da]] w (fun e w' => ∃ s p k j, e = .returned (.agg #[.int .i64 s, .slice p k j, .int .i64 1, .slice ba ma da]) ∧ Num w' s (.slice p k j) (-a.num) ∧ RowKit.Below w.heap.size w w' ∧ Fresh w.heap.size (.slice p k j)) := by
 have HA := Lib.hid ha
 have HLA := Lib.hid La
 have HaP := Lib.hid ha.1
 have HaQ := Lib.hid ha.2
 have LaP : Hid (Len 100000 a.num) := Sz.len La.1
 have LaQ : Hid (Len 100000 (a.den : Int)) := Sz.len La.2
 have S0 := Lib.hid ((((Sf.start w)).put [.int .i64 sa, .slice aa na ca, .int .i64 1, .slice ba ma da] 26).put' (n := w.heap.size + 1) (by simp) [.int .i64 0, .slice none 0 0, .int .i64 0, .slice none 0 0] 26)
 clear ha La
 go_enter Tryz.func55, Tryz.ntmps55
 go_wp2_with fail
 refine (rfright_k (HA.out.later S0.out.below) HLA.out).mono ?_
 rintro e w1 ⟨rfl, hb⟩
 have S2 := Lib.hid (S0.out.later hb)
 clear hb S0
 go_wp2_with fail
 have T0 := Lib.hid S2.out.drew
 have K0 : ∀ W F (r0 r1 r2 r3 : Value), Sf w [(w.heap.size + 1, 26, [r0, r1, r2, r3]), (w.heap.size, 26, [.int .i64 sa, .slice aa na ca, .int .i64 1, .slice ba ma da])] F W → W.cell? ⟨w.heap.size, 0, none⟩ = some (.int .i64 sa) ∧ W.cell? ⟨w.heap.size, 1, none⟩ = some (.slice aa na ca) ∧ W.cell? ⟨w.heap.size, 2, none⟩ = some (.int .i64 1) ∧ W.cell? ⟨w.heap.size, 3, none⟩ = some (.slice ba ma da) := fun W F r0 r1 r2 r3 h => (h.box _ (List.mem_cons_of_mem _ List.mem_cons_self) : Fb _ _).cells4
 have KK := Lib.hid K0
 clear K0
 have e0 := KK.out _ _ _ _ _ _ T0.out
 have X0 := Lib.hid (HaP.out.later T0.out.below)
 clear S2
 go_region_held3 (fun W => W.cell? ⟨w.heap.size, 0, none⟩ = some (.int .i64 sa) ∧ W.cell? ⟨w.heap.size, 1, none⟩ = some (.slice aa na ca) ∧ W.cell? ⟨w.heap.size, 2, none⟩ = some (.int .i64 1) ∧ W.cell? ⟨w.heap.size, 3, none⟩ = some (.slice ba ma da))
  (first | (with_reducible exact e0) | (with_reducible exact e1) | (with_reducible exact e2))
  (first
   | (go_at_call 83; (with_reducible refine (rneg_k X0.out LaP.out).mono ?_); rintro e v0 ⟨g0, p0, k0, j0, rfl, hn, hb, hf⟩; have T1 := Lib.hid (T0.out.ret hb hn.2 hf); have E0 := Lib.hid hn.1; have F0 := Lib.hid (hf.mono T0.out.below.size); have e1 := KK.out _ _ _ _ _ _ T1.out; have yr : Fb (w.heap.size + 1, 26, [.int .i64 0, .slice none 0 0, .int .i64 0, .slice none 0 0]) _ := T1.out.box _ List.mem_cons_self; obtain ⟨r0, r1, r2, r3⟩ := yr.cells4; obtain ⟨f0, f1, f2, f3⟩ := yr.free4; have T2 := Lib.hid (T1.out.set4 (pre := []) (.int .i64 g0) (.slice p0 k0 j0) (.int .i64 1) (.slice ba ma da)); have e2 := KK.out _ _ _ _ _ _ T2.out; clear hn hb hf yr))
 go_wp2_with fail
 exact bodyPost_ret (v := .agg #[.int .i64 g0, .slice p0 k0 j0, .int .i64 1, .slice ba ma da]) (by simp [results, Tryz.results55, go_sem, r0, r1, r2, r3]) rfl
  ⟨_, _, _, _, rfl, T2.out.num (v := .slice p0 k0 j0) (z := -a.num) List.mem_cons_self E0.out, T2.out.below, F0.out⟩
 

theorem rfcmp_r {w : World} {sa : Int} {aa ba : Option Addr} {na ca ma da : Nat} {sb : Int} {ab bb : Option Addr} {nb cb mb db : Nat} {a b : Rat} {k : Int} (ha : Fr w sa (.slice aa na ca) (.slice ba ma da) a) (hb : Fr w sb (.slice ab nb cb) (.slice bb mb db) b) (La : FSz 1000 a) (Lb : FSz 1000 b) (h : cmpR a b = k) :
  Calls Tryz.prog 46 #[.agg #[.int .i64 sa, .slice aa na ca, .int .i64 1, .slice ba ma da], .agg #[.int .i64 sb, .slice ab nb cb, .int .i64 1, .slice bb mb db]] w (fun e w' => e = .returned (.int .i64 k) ∧ RowKit.Below w.heap.size w w') := by subst h; exact rfcmp_k ha hb La Lb

set_option maxHeartbeats 2000000 in
theorem rfmin_a {w : World} {sa : Int} {aa ba : Option Addr} {na ca ma da : Nat} {sb : Int} {ab bb : Option Addr} {nb cb mb db : Nat} {a b : Rat} (ha : Fr w sa (.slice aa na ca) (.slice ba ma da) a) (hb : Fr w sb (.slice ab nb cb) (.slice bb mb db) b) (La : FSz 1000 a) (Lb : FSz 1000 b) (h : cmpR a b ≤ 0) :
  Calls Tryz.prog 45 #[.agg #[.int .i64 sa, .slice aa na ca, .int .i64 1, .slice ba ma da], .agg #[.int .i64 sb, .slice ab nb cb, .int .i64 1, .slice bb mb db]] w (fun e w' => e = .returned (.tuple #[.agg #[.int .i64 sa, .slice aa na ca, .int .i64 1, .slice ba ma da], .int .i64 0]) ∧ RowKit.Below w.heap.size w w') := by
 obtain ⟨K, hK⟩ : ∃ K, cmpR a b = K := ⟨_, rfl⟩
 rw [hK] at h
 have gk : decide (K ≤ 0) = true := by simp; omega
 have HK := Lib.hid hK
 have HA := Lib.hid ha
 have HB := Lib.hid hb
 have HLA := Lib.hid La
 have HLB := Lib.hid Lb
 have HaP := Lib.hid ha.1
 have HaQ := Lib.hid ha.2
 have HbP := Lib.hid hb.1
 have HbQ := Lib.hid hb.2
 have S0 := Lib.hid (((((Sf.start w)).put [.int .i64 sa, .slice aa na ca, .int .i64 1, .slice ba ma da] 26).put' (n := w.heap.size + 1) (by simp) [.int .i64 sb, .slice ab nb cb, .int .i64 1, .slice bb mb db] 26).put' (n := w.heap.size + 1 + 1) (by simp) [.int .i64 0, .slice none 0 0, .int .i64 0, .slice none 0 0] 26)
 clear ha hb La Lb h hK
 go_enter Tryz.func45, Tryz.ntmps45
 go_wp2_with fail
 refine (rfright_k (HA.out.later S0.out.below) HLA.out).mono ?_
 rintro e w1 ⟨rfl, hb⟩
 have S2 := Lib.hid (S0.out.later hb)
 clear hb S0
 obtain ⟨t1_0, t1_1, t1_2, t1_3⟩ := (S2.out.box _ (List.mem_cons_of_mem _ List.mem_cons_self) : Fb (w.heap.size + 1, 26, [.int .i64 sb, .slice ab nb cb, .int .i64 1, .slice bb mb db]) _).cells4
 go_wp2_with fail
 clear t1_0 t1_1 t1_2 t1_3
 refine (rfright_k (HB.out.later S2.out.below) HLB.out).mono ?_
 rintro e w3 ⟨rfl, hb⟩
 have S4 := Lib.hid (S2.out.later hb)
 clear hb S2
 obtain ⟨t2_0, t2_1, t2_2, t2_3⟩ := (S4.out.box _ (List.mem_cons_of_mem _ (List.mem_cons_of_mem _ List.mem_cons_self)) : Fb (w.heap.size, 26, [.int .i64 sa, .slice aa na ca, .int .i64 1, .slice ba ma da]) _).cells4
 obtain ⟨t3_0, t3_1, t3_2, t3_3⟩ := (S4.out.box _ (List.mem_cons_of_mem _ List.mem_cons_self) : Fb (w.heap.size + 1, 26, [.int .i64 sb, .slice ab nb cb, .int .i64 1, .slice bb mb db]) _).cells4
 go_wp2_with fail
 clear t2_0 t2_1 t2_2 t2_3 t3_0 t3_1 t3_2 t3_3
 refine (rfcmp_r (HA.out.later S4.out.below) (HB.out.later S4.out.below) HLA.out HLB.out HK.out).mono ?_
 rintro e w5 ⟨rfl, hb⟩
 have S6 := Lib.hid (S4.out.later hb)
 clear hb S4
 obtain ⟨t4_0, t4_1, t4_2, t4_3⟩ := (S6.out.box _ (List.mem_cons_of_mem _ (List.mem_cons_of_mem _ List.mem_cons_self)) : Fb (w.heap.size, 26, [.int .i64 sa, .slice aa na ca, .int .i64 1, .slice ba ma da]) _).cells4
 obtain ⟨r0, r1, r2, r3⟩ := (S6.out.box _ List.mem_cons_self : Fb (w.heap.size + 1 + 1, 26, [.int .i64 0, .slice none 0 0, .int .i64 0, .slice none 0 0]) _).cells4
 obtain ⟨f0, f1, f2, f3⟩ := (S6.out.box _ List.mem_cons_self : Fb (w.heap.size + 1 + 1, 26, [.int .i64 0, .slice none 0 0, .int .i64 0, .slice none 0 0]) _).free4
 go_wp2_with fail
 clear t4_0 t4_1 t4_2 t4_3
 have ZZ := Lib.hid (S6.out.set4 (pre := []) (.int .i64 sa) (.slice aa na ca) (.int .i64 1) (.slice ba ma da))
 exact bodyPost_ret (v := .tuple #[.agg #[.int .i64 sa, .slice aa na ca, .int .i64 1, .slice ba ma da], .int .i64 0]) (by simp [results, Tryz.results45, go_sem, r0, r1, r2, r3]) rfl ⟨rfl, ZZ.out.below⟩

set_option maxHeartbeats 2000000 in
theorem rfmin_b {w : World} {sa : Int} {aa ba : Option Addr} {na ca ma da : Nat} {sb : Int} {ab bb : Option Addr} {nb cb mb db : Nat} {a b : Rat} (ha : Fr w sa (.slice aa na ca) (.slice ba ma da) a) (hb : Fr w sb (.slice ab nb cb) (.slice bb mb db) b) (La : FSz 1000 a) (Lb : FSz 1000 b) (h : 0 < cmpR a b) :
  Calls Tryz.prog 45 #[.agg #[.int .i64 sa, .slice aa na ca, .int .i64 1, .slice ba ma da], .agg #[.int .i64 sb, .slice ab nb cb, .int .i64 1, .slice bb mb db]] w (fun e w' => e = .returned (.tuple #[.agg #[.int .i64 sb, .slice ab nb cb, .int .i64 1, .slice bb mb db], .int .i64 0]) ∧ RowKit.Below w.heap.size w w') := by
 obtain ⟨K, hK⟩ : ∃ K, cmpR a b = K := ⟨_, rfl⟩
 rw [hK] at h
 have gk : decide (K ≤ 0) = false := by simp; omega
 have HK := Lib.hid hK
 have HA := Lib.hid ha
 have HB := Lib.hid hb
 have HLA := Lib.hid La
 have HLB := Lib.hid Lb
 have HaP := Lib.hid ha.1
 have HaQ := Lib.hid ha.2
 have HbP := Lib.hid hb.1
 have HbQ := Lib.hid hb.2
 have S0 := Lib.hid (((((Sf.start w)).put [.int .i64 sa, .slice aa na ca, .int .i64 1, .slice ba ma da] 26).put' (n := w.heap.size + 1) (by simp) [.int .i64 sb, .slice ab nb cb, .int .i64 1, .slice bb mb db] 26).put' (n := w.heap.size + 1 + 1) (by simp) [.int .i64 0, .slice none 0 0, .int .i64 0, .slice none 0 0] 26)
 clear ha hb La Lb h hK
 go_enter Tryz.func45, Tryz.ntmps45
 go_wp2_with fail
 refine (rfright_k (HA.out.later S0.out.below) HLA.out).mono ?_
 rintro e w1 ⟨rfl, hb⟩
 have S2 := Lib.hid (S0.out.later hb)
 clear hb S0
 obtain ⟨t1_0, t1_1, t1_2, t1_3⟩ := (S2.out.box _ (List.mem_cons_of_mem _ List.mem_cons_self) : Fb (w.heap.size + 1, 26, [.int .i64 sb, .slice ab nb cb, .int .i64 1, .slice bb mb db]) _).cells4
 go_wp2_with fail
 clear t1_0 t1_1 t1_2 t1_3
 refine (rfright_k (HB.out.later S2.out.below) HLB.out).mono ?_
 rintro e w3 ⟨rfl, hb⟩
 have S4 := Lib.hid (S2.out.later hb)
 clear hb S2
 obtain ⟨t2_0, t2_1, t2_2, t2_3⟩ := (S4.out.box _ (List.mem_cons_of_mem _ (List.mem_cons_of_mem _ List.mem_cons_self)) : Fb (w.heap.size, 26, [.int .i64 sa, .slice aa na ca, .int .i64 1, .slice ba ma da]) _).cells4
 obtain ⟨t3_0, t3_1, t3_2, t3_3⟩ := (S4.out.box _ (List.mem_cons_of_mem _ List.mem_cons_self) : Fb (w.heap.size + 1, 26, [.int .i64 sb, .slice ab nb cb, .int .i64 1, .slice bb mb db]) _).cells4
 go_wp2_with fail
 clear t2_0 t2_1 t2_2 t2_3 t3_0 t3_1 t3_2 t3_3
 refine (rfcmp_r (HA.out.later S4.out.below) (HB.out.later S4.out.below) HLA.out HLB.out HK.out).mono ?_
 rintro e w5 ⟨rfl, hb⟩
 have S6 := Lib.hid (S4.out.later hb)
 clear hb S4
 obtain ⟨t4_0, t4_1, t4_2, t4_3⟩ := (S6.out.box _ (List.mem_cons_of_mem _ List.mem_cons_self) : Fb (w.heap.size + 1, 26, [.int .i64 sb, .slice ab nb cb, .int .i64 1, .slice bb mb db]) _).cells4
 obtain ⟨r0, r1, r2, r3⟩ := (S6.out.box _ List.mem_cons_self : Fb (w.heap.size + 1 + 1, 26, [.int .i64 0, .slice none 0 0, .int .i64 0, .slice none 0 0]) _).cells4
 obtain ⟨f0, f1, f2, f3⟩ := (S6.out.box _ List.mem_cons_self : Fb (w.heap.size + 1 + 1, 26, [.int .i64 0, .slice none 0 0, .int .i64 0, .slice none 0 0]) _).free4
 go_wp2_with fail
 clear t4_0 t4_1 t4_2 t4_3
 have ZZ := Lib.hid (S6.out.set4 (pre := []) (.int .i64 sb) (.slice ab nb cb) (.int .i64 1) (.slice bb mb db))
 exact bodyPost_ret (v := .tuple #[.agg #[.int .i64 sb, .slice ab nb cb, .int .i64 1, .slice bb mb db], .int .i64 0]) (by simp [results, Tryz.results45, go_sem, r0, r1, r2, r3]) rfl ⟨rfl, ZZ.out.below⟩

set_option maxHeartbeats 2000000 in
theorem rfmax_a {w : World} {sa : Int} {aa ba : Option Addr} {na ca ma da : Nat} {sb : Int} {ab bb : Option Addr} {nb cb mb db : Nat} {a b : Rat} (ha : Fr w sa (.slice aa na ca) (.slice ba ma da) a) (hb : Fr w sb (.slice ab nb cb) (.slice bb mb db) b) (La : FSz 1000 a) (Lb : FSz 1000 b) (h : 0 ≤ cmpR a b) :
  Calls Tryz.prog 44 #[.agg #[.int .i64 sa, .slice aa na ca, .int .i64 1, .slice ba ma da], .agg #[.int .i64 sb, .slice ab nb cb, .int .i64 1, .slice bb mb db]] w (fun e w' => e = .returned (.tuple #[.agg #[.int .i64 sa, .slice aa na ca, .int .i64 1, .slice ba ma da], .int .i64 0]) ∧ RowKit.Below w.heap.size w w') := by
 obtain ⟨K, hK⟩ : ∃ K, cmpR a b = K := ⟨_, rfl⟩
 rw [hK] at h
 have gk : decide (0 ≤ K) = true := by simp; omega
 have HK := Lib.hid hK
 have HA := Lib.hid ha
 have HB := Lib.hid hb
 have HLA := Lib.hid La
 have HLB := Lib.hid Lb
 have HaP := Lib.hid ha.1
 have HaQ := Lib.hid ha.2
 have HbP := Lib.hid hb.1
 have HbQ := Lib.hid hb.2
 have S0 := Lib.hid (((((Sf.start w)).put [.int .i64 sa, .slice aa na ca, .int .i64 1, .slice ba ma da] 26).put' (n := w.heap.size + 1) (by simp) [.int .i64 sb, .slice ab nb cb, .int .i64 1, .slice bb mb db] 26).put' (n := w.heap.size + 1 + 1) (by simp) [.int .i64 0, .slice none 0 0, .int .i64 0, .slice none 0 0] 26)
 clear ha hb La Lb h hK
 go_enter Tryz.func44, Tryz.ntmps44
 go_wp2_with fail
 refine (rfright_k (HA.out.later S0.out.below) HLA.out).mono ?_
 rintro e w1 ⟨rfl, hb⟩
 have S2 := Lib.hid (S0.out.later hb)
 clear hb S0
 obtain ⟨t1_0, t1_1, t1_2, t1_3⟩ := (S2.out.box _ (List.mem_cons_of_mem _ List.mem_cons_self) : Fb (w.heap.size + 1, 26, [.int .i64 sb, .slice ab nb cb, .int .i64 1, .slice bb mb db]) _).cells4
 go_wp2_with fail
 clear t1_0 t1_1 t1_2 t1_3
 refine (rfright_k (HB.out.later S2.out.below) HLB.out).mono ?_
 rintro e w3 ⟨rfl, hb⟩
 have S4 := Lib.hid (S2.out.later hb)
 clear hb S2
 obtain ⟨t2_0, t2_1, t2_2, t2_3⟩ := (S4.out.box _ (List.mem_cons_of_mem _ (List.mem_cons_of_mem _ List.mem_cons_self)) : Fb (w.heap.size, 26, [.int .i64 sa, .slice aa na ca, .int .i64 1, .slice ba ma da]) _).cells4
 obtain ⟨t3_0, t3_1, t3_2, t3_3⟩ := (S4.out.box _ (List.mem_cons_of_mem _ List.mem_cons_self) : Fb (w.heap.size + 1, 26, [.int .i64 sb, .slice ab nb cb, .int .i64 1, .slice bb mb db]) _).cells4
 go_wp2_with fail
 clear t2_0 t2_1 t2_2 t2_3 t3_0 t3_1 t3_2 t3_3
 refine (rfcmp_r (HA.out.later S4.out.below) (HB.out.later S4.out.below) HLA.out HLB.out HK.out).mono ?_
 rintro e w5 ⟨rfl, hb⟩
 have S6 := Lib.hid (S4.out.later hb)
 clear hb S4
 obtain ⟨t4_0, t4_1, t4_2, t4_3⟩ := (S6.out.box _ (List.mem_cons_of_mem _ (List.mem_cons_of_mem _ List.mem_cons_self)) : Fb (w.heap.size, 26, [.int .i64 sa, .slice aa na ca, .int .i64 1, .slice ba ma da]) _).cells4
 obtain ⟨r0, r1, r2, r3⟩ := (S6.out.box _ List.mem_cons_self : Fb (w.heap.size + 1 + 1, 26, [.int .i64 0, .slice none 0 0, .int .i64 0, .slice none 0 0]) _).cells4
 obtain ⟨f0, f1, f2, f3⟩ := (S6.out.box _ List.mem_cons_self : Fb (w.heap.size + 1 + 1, 26, [.int .i64 0, .slice none 0 0, .int .i64 0, .slice none 0 0]) _).free4
 go_wp2_with fail
 clear t4_0 t4_1 t4_2 t4_3
 have ZZ := Lib.hid (S6.out.set4 (pre := []) (.int .i64 sa) (.slice aa na ca) (.int .i64 1) (.slice ba ma da))
 exact bodyPost_ret (v := .tuple #[.agg #[.int .i64 sa, .slice aa na ca, .int .i64 1, .slice ba ma da], .int .i64 0]) (by simp [results, Tryz.results44, go_sem, r0, r1, r2, r3]) rfl ⟨rfl, ZZ.out.below⟩

set_option maxHeartbeats 2000000 in
theorem rfmax_b {w : World} {sa : Int} {aa ba : Option Addr} {na ca ma da : Nat} {sb : Int} {ab bb : Option Addr} {nb cb mb db : Nat} {a b : Rat} (ha : Fr w sa (.slice aa na ca) (.slice ba ma da) a) (hb : Fr w sb (.slice ab nb cb) (.slice bb mb db) b) (La : FSz 1000 a) (Lb : FSz 1000 b) (h : cmpR a b < 0) :
  Calls Tryz.prog 44 #[.agg #[.int .i64 sa, .slice aa na ca, .int .i64 1, .slice ba ma da], .agg #[.int .i64 sb, .slice ab nb cb, .int .i64 1, .slice bb mb db]] w (fun e w' => e = .returned (.tuple #[.agg #[.int .i64 sb, .slice ab nb cb, .int .i64 1, .slice bb mb db], .int .i64 0]) ∧ RowKit.Below w.heap.size w w') := by
 obtain ⟨K, hK⟩ : ∃ K, cmpR a b = K := ⟨_, rfl⟩
 rw [hK] at h
 have gk : decide (0 ≤ K) = false := by simp; omega
 have HK := Lib.hid hK
 have HA := Lib.hid ha
 have HB := Lib.hid hb
 have HLA := Lib.hid La
 have HLB := Lib.hid Lb
 have HaP := Lib.hid ha.1
 have HaQ := Lib.hid ha.2
 have HbP := Lib.hid hb.1
 have HbQ := Lib.hid hb.2
 have S0 := Lib.hid (((((Sf.start w)).put [.int .i64 sa, .slice aa na ca, .int .i64 1, .slice ba ma da] 26).put' (n := w.heap.size + 1) (by simp) [.int .i64 sb, .slice ab nb cb, .int .i64 1, .slice bb mb db] 26).put' (n := w.heap.size + 1 + 1) (by simp) [.int .i64 0, .slice none 0 0, .int .i64 0, .slice none 0 0] 26)
 clear ha hb La Lb h hK
 go_enter Tryz.func44, Tryz.ntmps44
 go_wp2_with fail
 refine (rfright_k (HA.out.later S0.out.below) HLA.out).mono ?_
 rintro e w1 ⟨rfl, hb⟩
 have S2 := Lib.hid (S0.out.later hb)
 clear hb S0
 obtain ⟨t1_0, t1_1, t1_2, t1_3⟩ := (S2.out.box _ (List.mem_cons_of_mem _ List.mem_cons_self) : Fb (w.heap.size + 1, 26, [.int .i64 sb, .slice ab nb cb, .int .i64 1, .slice bb mb db]) _).cells4
 go_wp2_with fail
 clear t1_0 t1_1 t1_2 t1_3
 refine (rfright_k (HB.out.later S2.out.below) HLB.out).mono ?_
 rintro e w3 ⟨rfl, hb⟩
 have S4 := Lib.hid (S2.out.later hb)
 clear hb S2
 obtain ⟨t2_0, t2_1, t2_2, t2_3⟩ := (S4.out.box _ (List.mem_cons_of_mem _ (List.mem_cons_of_mem _ List.mem_cons_self)) : Fb (w.heap.size, 26, [.int .i64 sa, .slice aa na ca, .int .i64 1, .slice ba ma da]) _).cells4
 obtain ⟨t3_0, t3_1, t3_2, t3_3⟩ := (S4.out.box _ (List.mem_cons_of_mem _ List.mem_cons_self) : Fb (w.heap.size + 1, 26, [.int .i64 sb, .slice ab nb cb, .int .i64 1, .slice bb mb db]) _).cells4
 go_wp2_with fail
 clear t2_0 t2_1 t2_2 t2_3 t3_0 t3_1 t3_2 t3_3
 refine (rfcmp_r (HA.out.later S4.out.below) (HB.out.later S4.out.below) HLA.out HLB.out HK.out).mono ?_
 rintro e w5 ⟨rfl, hb⟩
 have S6 := Lib.hid (S4.out.later hb)
 clear hb S4
 obtain ⟨t4_0, t4_1, t4_2, t4_3⟩ := (S6.out.box _ (List.mem_cons_of_mem _ List.mem_cons_self) : Fb (w.heap.size + 1, 26, [.int .i64 sb, .slice ab nb cb, .int .i64 1, .slice bb mb db]) _).cells4
 obtain ⟨r0, r1, r2, r3⟩ := (S6.out.box _ List.mem_cons_self : Fb (w.heap.size + 1 + 1, 26, [.int .i64 0, .slice none 0 0, .int .i64 0, .slice none 0 0]) _).cells4
 obtain ⟨f0, f1, f2, f3⟩ := (S6.out.box _ List.mem_cons_self : Fb (w.heap.size + 1 + 1, 26, [.int .i64 0, .slice none 0 0, .int .i64 0, .slice none 0 0]) _).free4
 go_wp2_with fail
 clear t4_0 t4_1 t4_2 t4_3
 have ZZ := Lib.hid (S6.out.set4 (pre := []) (.int .i64 sb) (.slice ab nb cb) (.int .i64 1) (.slice bb mb db))
 exact bodyPost_ret (v := .tuple #[.agg #[.int .i64 sb, .slice ab nb cb, .int .i64 1, .slice bb mb db], .int .i64 0]) (by simp [results, Tryz.results44, go_sem, r0, r1, r2, r3]) rfl ⟨rfl, ZZ.out.below⟩

set_option maxHeartbeats 1000000 in
theorem rfof_k (p q : Int) (hp : -9223372036854775808 ≤ p ∧ p ≤ 9223372036854775807) (hq : -9223372036854775808 ≤ q ∧ q ≤ 9223372036854775807) (h0 : q ≠ 0) (w : World) : Calls Tryz.prog 35 #[.int .i64 p, .int .i64 q] w (FVE (Rat.divInt p q) 0 w) := by
 have HP := Lib.hid hp
 have HQ := Lib.hid hq
 have H0 := Lib.hid h0
 have LP : Hid (Len 100000 p) := Len.of (by omega)
 have LQ : Hid (Len 100000 q) := Len.of (by omega)
 have S0 := Lib.hid ((Sf.start w).put [.int .i64 0, .slice none 0 0, .int .i64 0, .slice none 0 0] 26)
 clear hp hq h0
 go_enter Tryz.func35, Tryz.ntmps35
 go_wp2_with fail
 refine (rof_k p HP.out _).mono ?_
 rintro e w1 ⟨g0, p0, k0, j0, rfl, hn, hb, hf⟩
 have T1 := Lib.hid (S0.out.ret hb hn.2 hf)
 have E0 := Lib.hid hn.1
 clear hn hb hf S0
 go_wp2_with fail
 refine (rof_k q HQ.out _).mono ?_
 rintro e w1' ⟨g1, p1, k1, j1, rfl, hn, hb, hf⟩
 have T1' := Lib.hid (T1.out.ret hb hn.2 hf)
 have E1 := Lib.hid hn.1
 clear hn hb hf T1
 go_wp2_with fail
 refine (rfnew_r (T1'.out.num (v := .slice p0 k0 j0) (z := p) (List.mem_cons_of_mem _ List.mem_cons_self) E0.out) (T1'.out.num (v := .slice p1 k1 j1) (z := q) List.mem_cons_self E1.out) LP.out LQ.out H0.out rfl).mono ?_
 rintro e w2 ⟨s9, a9, n9, c9, b9, m9, d9, rfl, hr, hb, hf, hg⟩
 have T2 := Lib.hid (T1'.out.ret2 hb hr.1.2 hf hr.2.2 hg)
 have E9 := Lib.hid hr.1.1
 have F9 := Lib.hid (hf.mono T1'.out.below.size)
 have G9 := Lib.hid (hg.mono T1'.out.below.size)
 clear hr hb hf hg T1'
 have yr : Fb (w.heap.size, 26, [.int .i64 0, .slice none 0 0, .int .i64 0, .slice none 0 0]) _ := T2.out.box _ List.mem_cons_self
 obtain ⟨r0, r1, r2, r3⟩ := yr.cells4
 obtain ⟨f0, f1, f2, f3⟩ := yr.free4
 clear yr
 go_wp2_with fail
 have T3 := Lib.hid (T2.out.set4 (pre := []) (.int .i64 s9) (.slice a9 n9 c9) (.int .i64 1) (.slice b9 m9 d9))
 exact bodyPost_ret (v := .tuple #[.agg #[.int .i64 s9, .slice a9 n9 c9, .int .i64 1, .slice b9 m9 d9], .int .i64 0]) (by simp [results, Tryz.results35, go_sem, r0, r1, r2, r3]) rfl
  ⟨_, _, _, _, _, _, _, rfl, ⟨T3.out.num (v := .slice a9 n9 c9) (z := (Rat.divInt p q).num) List.mem_cons_self E9.out, T3.out.num (v := .slice b9 m9 d9) (z := ((Rat.divInt p q).den : Int)) (List.mem_cons_of_mem _ List.mem_cons_self) (den_sign _).symm⟩, T3.out.below, F9.out, G9.out⟩

theorem rfof_r {r : Rat} (p q : Int) (hp : -9223372036854775808 ≤ p ∧ p ≤ 9223372036854775807) (hq : -9223372036854775808 ≤ q ∧ q ≤ 9223372036854775807) (h0 : q ≠ 0) (h : Rat.divInt p q = r) (w : World) : Calls Tryz.prog 35 #[.int .i64 p, .int .i64 q] w (FVE r 0 w) := by subst h; exact rfof_k p q hp hq h0 w

set_option maxHeartbeats 2000000 in
theorem rfint_k (z : Int) (h : -9223372036854775808 ≤ z ∧ z ≤ 9223372036854775807) (w : World) : Calls Tryz.prog 37 #[.int .i64 z] w (FV (z : Rat) w) := by
 have H := Lib.hid h
 have H1 : Hid (-9223372036854775808 ≤ (1 : Int) ∧ (1 : Int) ≤ 9223372036854775807) := ⟨by omega, by omega⟩
 have H2 : Hid ((1 : Int) ≠ 0) := Lib.hid (by omega)
 have S0 := Lib.hid (((Sf.start w)).put [.int .i64 0, .slice none 0 0, .int .i64 0, .slice none 0 0] 26)
 clear h
 go_enter Tryz.func37, Tryz.ntmps37
 go_wp2_with fail
 refine (rfof_r z 1 H.out H1.out H2.out (rat_int z) _).mono ?_
 rintro e w1 ⟨s1, a1, n1, c1, b1, m1, d1, rfl, hr, hb, hf, hg⟩
 have E1 := Lib.hid hr.1.1
 have HFR : Hid (Fresh w.heap.size (.slice a1 n1 c1) ∧ Fresh w.heap.size (.slice b1 m1 d1)) := ⟨hf.mono S0.out.below.size, hg.mono S0.out.below.size⟩
 have S2 := Lib.hid ((S0.out.ret2 hb hr.1.2 hf hr.2.2 hg).put [.int .i64 s1, .slice a1 n1 c1, .int .i64 1, .slice b1 m1 d1] 26)
 clear hr hb hf hg S0
 obtain ⟨t1_0, t1_1, t1_2, t1_3⟩ := (S2.out.box _ List.mem_cons_self : Fb (w1.heap.size, 26, [.int .i64 s1, .slice a1 n1 c1, .int .i64 1, .slice b1 m1 d1]) _).cells4
 obtain ⟨r0, r1, r2, r3⟩ := (S2.out.box _ (List.mem_cons_of_mem _ List.mem_cons_self) : Fb (w.heap.size, 26, [.int .i64 0, .slice none 0 0, .int .i64 0, .slice none 0 0]) _).cells4
 obtain ⟨f0, f1, f2, f3⟩ := (S2.out.box _ (List.mem_cons_of_mem _ List.mem_cons_self) : Fb (w.heap.size, 26, [.int .i64 0, .slice none 0 0, .int .i64 0, .slice none 0 0]) _).free4
 go_wp2_with fail
 clear t1_0 t1_1 t1_2 t1_3
 have ZZ := Lib.hid (S2.out.set4 (pre := [_]) (.int .i64 s1) (.slice a1 n1 c1) (.int .i64 1) (.slice b1 m1 d1))
 exact bodyPost_ret (v := .agg #[.int .i64 s1, .slice a1 n1 c1, .int .i64 1, .slice b1 m1 d1]) (by simp [results, Tryz.results37, go_sem, r0, r1, r2, r3]) rfl ⟨_, _, _, _, _, _, _, rfl, ⟨ZZ.out.num (v := .slice a1 n1 c1) (z := ((z : Rat)).num) List.mem_cons_self E1.out, ZZ.out.num (v := .slice b1 m1 d1) (z := (((z : Rat)).den : Int)) (List.mem_cons_of_mem _ List.mem_cons_self) (den_sign _).symm⟩, ZZ.out.below, HFR.out.1, HFR.out.2⟩

end Go.Proofs.YtgncnkojpedmdaaGreat.Bi

namespace Go.Proofs.YtgncnkojpedmdaaGreat.Sp

/-- The interval s has x. -/
def In (s : Rat × Rat) (x : Rat) : Prop := s.1 ≤ x ∧ x ≤ s.2
/-- s is the smallest interval around the results of op for elements of a and b. -/
structure IsOp (op : Rat → Rat → Rat) (a b s : Rat × Rat) : Prop where
 le : s.1 ≤ s.2
 has : ∀ x y, In a x → In b y → In s (op x y)
 low : ∃ x y, In a x ∧ In b y ∧ op x y = s.1
 high : ∃ x y, In a x ∧ In b y ∧ op x y = s.2
/-- z lies between p and q. -/
def Bt (p q z : Rat) : Prop := (p ≤ z ∧ z ≤ q) ∨ (q ≤ z ∧ z ≤ p)
theorem in_low {a : Rat × Rat} (h : a.1 ≤ a.2) : In a a.1 := ⟨Rat.le_refl, h⟩
theorem in_high {a : Rat × Rat} (h : a.1 ≤ a.2) : In a a.2 := ⟨h, Rat.le_refl⟩
theorem IsOp.unique {op : Rat → Rat → Rat} {a b s t : Rat × Rat} (h : IsOp op a b s) (k : IsOp op a b t) : s = t := by
 obtain ⟨x1, y1, a1, b1, e1⟩ := h.low
 obtain ⟨x2, y2, a2, b2, e2⟩ := h.high
 obtain ⟨x3, y3, a3, b3, e3⟩ := k.low
 obtain ⟨x4, y4, a4, b4, e4⟩ := k.high
 have c1 := (k.has _ _ a1 b1).1
 have c2 := (k.has _ _ a2 b2).2
 have c3 := (h.has _ _ a3 b3).1
 have c4 := (h.has _ _ a4 b4).2
 rw [e1] at c1; rw [e2] at c2; rw [e3] at c3; rw [e4] at c4
 exact Prod.ext (Rat.le_antisymm c3 c1) (Rat.le_antisymm c2 c4)
/-! ## Operations whose extremes are at corners -/
/-- For a fixed second argument the results lie between those at the ends of a, and so for a fixed first one. -/
structure Corner (op : Rat → Rat → Rat) (a b : Rat × Rat) : Prop where
 left : ∀ x y, In a x → In b y → Bt (op a.1 y) (op a.2 y) (op x y)
 right : ∀ x y, In a x → In b y → Bt (op x b.1) (op x b.2) (op x y)
theorem Corner.has {op : Rat → Rat → Rat} {a b : Rat × Rat} (h : Corner op a b) (ha : a.1 ≤ a.2) (_hb : b.1 ≤ b.2) {lo hi : Rat} (h1 : lo ≤ op a.1 b.1 ∧ op a.1 b.1 ≤ hi) (h2 : lo ≤ op a.2 b.1 ∧ op a.2 b.1 ≤ hi) (h3 : lo ≤ op a.1 b.2 ∧ op a.1 b.2 ≤ hi) (h4 : lo ≤ op a.2 b.2 ∧ op a.2 b.2 ≤ hi)
  (x y : Rat) (hx : In a x) (hy : In b y) : lo ≤ op x y ∧ op x y ≤ hi := by
 have c0 := h.left x y hx hy
 have c1 := h.right a.1 y (in_low ha) hy
 have c2 := h.right a.2 y (in_high ha) hy
 have d1 : lo ≤ op a.1 y ∧ op a.1 y ≤ hi := by
  rcases c1 with c1 | c1
  ·exact ⟨Rat.le_trans h1.1 c1.1, Rat.le_trans c1.2 h3.2⟩
  ·exact ⟨Rat.le_trans h3.1 c1.1, Rat.le_trans c1.2 h1.2⟩
 have d2 : lo ≤ op a.2 y ∧ op a.2 y ≤ hi := by
  rcases c2 with c2 | c2
  ·exact ⟨Rat.le_trans h2.1 c2.1, Rat.le_trans c2.2 h4.2⟩
  ·exact ⟨Rat.le_trans h4.1 c2.1, Rat.le_trans c2.2 h2.2⟩
 rcases c0 with c0 | c0
 ·exact ⟨Rat.le_trans d1.1 c0.1, Rat.le_trans c0.2 d2.2⟩
 ·exact ⟨Rat.le_trans d2.1 c0.1, Rat.le_trans c0.2 d1.2⟩
/-- One of the four corners. -/
def IsC (op : Rat → Rat → Rat) (a b : Rat × Rat) (z : Rat) : Prop := z = op a.1 b.1 ∨ z = op a.2 b.1 ∨ z = op a.1 b.2 ∨ z = op a.2 b.2
theorem IsC.ends {op : Rat → Rat → Rat} {a b : Rat × Rat} {z : Rat} (h : IsC op a b z) (ha : a.1 ≤ a.2) (hb : b.1 ≤ b.2) : ∃ x y, In a x ∧ In b y ∧ op x y = z := by
 rcases h with rfl | rfl | rfl | rfl
 ·exact ⟨_, _, in_low ha, in_low hb, rfl⟩
 ·exact ⟨_, _, in_high ha, in_low hb, rfl⟩
 ·exact ⟨_, _, in_low ha, in_high hb, rfl⟩
 ·exact ⟨_, _, in_high ha, in_high hb, rfl⟩
/-- The least and the greatest corner are the smallest interval. -/
theorem Corner.isOp {op : Rat → Rat → Rat} {a b : Rat × Rat} (h : Corner op a b) (ha : a.1 ≤ a.2) (hb : b.1 ≤ b.2) {lo hi : Rat} (h1 : lo ≤ op a.1 b.1 ∧ op a.1 b.1 ≤ hi) (h2 : lo ≤ op a.2 b.1 ∧ op a.2 b.1 ≤ hi) (h3 : lo ≤ op a.1 b.2 ∧ op a.1 b.2 ≤ hi) (h4 : lo ≤ op a.2 b.2 ∧ op a.2 b.2 ≤ hi)
  (hl : IsC op a b lo) (hh : IsC op a b hi) : IsOp op a b (lo, hi) :=
 ⟨Rat.le_trans h1.1 h1.2, fun x y hx hy => h.has ha hb h1 h2 h3 h4 x y hx hy, hl.ends ha hb, hh.ends ha hb⟩
/-! ## The six operations -/
theorem corner_add (a b : Rat × Rat) : Corner (· + ·) a b :=
 ⟨fun _ _ hx _ => .inl ⟨Rat.add_le_add_right.2 hx.1, Rat.add_le_add_right.2 hx.2⟩, fun _ _ _ hy => .inl ⟨Rat.add_le_add_left.2 hy.1, Rat.add_le_add_left.2 hy.2⟩⟩
theorem corner_sub (a b : Rat × Rat) : Corner (· - ·) a b := by
 refine ⟨fun x y hx _ => .inl ?_, fun x y _ hy => .inr ?_⟩
 ·simp only [Rat.sub_eq_add_neg]
  exact ⟨Rat.add_le_add_right.2 hx.1, Rat.add_le_add_right.2 hx.2⟩
 ·simp only [Rat.sub_eq_add_neg]
  exact ⟨Rat.add_le_add_left.2 (Rat.neg_le_neg hy.2), Rat.add_le_add_left.2 (Rat.neg_le_neg hy.1)⟩
theorem rmin_le {p q : Rat} : Bi.rmin p q ≤ p ∧ Bi.rmin p q ≤ q := by
 unfold Bi.rmin; split
 ·rename_i h; exact ⟨Rat.le_of_lt h, Rat.le_refl⟩
 ·rename_i h; exact ⟨Rat.le_refl, Rat.not_lt.1 h⟩
theorem rmax_le {p q : Rat} : p ≤ Bi.rmax p q ∧ q ≤ Bi.rmax p q := by
 unfold Bi.rmax; split
 ·rename_i h; exact ⟨Rat.le_of_lt h, Rat.le_refl⟩
 ·rename_i h; exact ⟨Rat.le_refl, Rat.not_lt.1 h⟩
theorem rmin_or (p q : Rat) : Bi.rmin p q = p ∨ Bi.rmin p q = q := by unfold Bi.rmin; split <;> simp
theorem rmax_or (p q : Rat) : Bi.rmax p q = p ∨ Bi.rmax p q = q := by unfold Bi.rmax; split <;> simp
theorem le_rmin {p q z : Rat} (h1 : z ≤ p) (h2 : z ≤ q) : z ≤ Bi.rmin p q := by rcases rmin_or p q with e | e <;> rw [e] <;> assumption
theorem rmax_le' {p q z : Rat} (h1 : p ≤ z) (h2 : q ≤ z) : Bi.rmax p q ≤ z := by rcases rmax_or p q with e | e <;> rw [e] <;> assumption
theorem rmin_comm (p q : Rat) : Bi.rmin p q = Bi.rmin q p := Rat.le_antisymm (le_rmin rmin_le.2 rmin_le.1) (le_rmin rmin_le.2 rmin_le.1)
theorem rmax_comm (p q : Rat) : Bi.rmax p q = Bi.rmax q p := Rat.le_antisymm (rmax_le' rmax_le.2 rmax_le.1) (rmax_le' rmax_le.2 rmax_le.1)
theorem rmin_assoc (p q r : Rat) : Bi.rmin (Bi.rmin p q) r = Bi.rmin p (Bi.rmin q r) :=
 Rat.le_antisymm (le_rmin (Rat.le_trans rmin_le.1 rmin_le.1) (le_rmin (Rat.le_trans rmin_le.1 rmin_le.2) rmin_le.2)) (le_rmin (le_rmin rmin_le.1 (Rat.le_trans rmin_le.2 rmin_le.1)) (Rat.le_trans rmin_le.2 rmin_le.2))
theorem rmax_assoc (p q r : Rat) : Bi.rmax (Bi.rmax p q) r = Bi.rmax p (Bi.rmax q r) :=
 Rat.le_antisymm (rmax_le' (rmax_le' rmax_le.1 (Rat.le_trans rmax_le.1 rmax_le.2)) (Rat.le_trans rmax_le.2 rmax_le.2)) (rmax_le' (Rat.le_trans rmax_le.1 rmax_le.1) (rmax_le' (Rat.le_trans rmax_le.2 rmax_le.1) rmax_le.2))
theorem rmin_mono {p q x y : Rat} (h1 : p ≤ x) (h2 : q ≤ y) : Bi.rmin p q ≤ Bi.rmin x y := le_rmin (Rat.le_trans rmin_le.1 h1) (Rat.le_trans rmin_le.2 h2)
theorem rmax_mono {p q x y : Rat} (h1 : p ≤ x) (h2 : q ≤ y) : Bi.rmax p q ≤ Bi.rmax x y := rmax_le' (Rat.le_trans h1 rmax_le.1) (Rat.le_trans h2 rmax_le.2)
theorem corner_min (a b : Rat × Rat) : Corner Bi.rmin a b :=
 ⟨fun _ _ hx _ => .inl ⟨rmin_mono hx.1 Rat.le_refl, rmin_mono hx.2 Rat.le_refl⟩, fun _ _ _ hy => .inl ⟨rmin_mono Rat.le_refl hy.1, rmin_mono Rat.le_refl hy.2⟩⟩
theorem corner_max (a b : Rat × Rat) : Corner Bi.rmax a b :=
 ⟨fun _ _ hx _ => .inl ⟨rmax_mono hx.1 Rat.le_refl, rmax_mono hx.2 Rat.le_refl⟩, fun _ _ _ hy => .inl ⟨rmax_mono Rat.le_refl hy.1, rmax_mono Rat.le_refl hy.2⟩⟩
/-- What the operations give. -/
def addS (a b : Rat × Rat) : Rat × Rat := (a.1 + b.1, a.2 + b.2)
def subS (a b : Rat × Rat) : Rat × Rat := (a.1 - b.2, a.2 - b.1)
def minS (a b : Rat × Rat) : Rat × Rat := (Bi.rmin a.1 b.1, Bi.rmin a.2 b.2)
def maxS (a b : Rat × Rat) : Rat × Rat := (Bi.rmax a.1 b.1, Bi.rmax a.2 b.2)
def negS (a : Rat × Rat) : Rat × Rat := (-a.2, -a.1)
def hullS (a b : Rat × Rat) : Rat × Rat := (Bi.rmin a.1 b.1, Bi.rmax a.2 b.2)
def meetS (a b : Rat × Rat) : Rat × Rat := (Bi.rmax a.1 b.1, Bi.rmin a.2 b.2)
theorem is_add {a b : Rat × Rat} (ha : a.1 ≤ a.2) (hb : b.1 ≤ b.2) : IsOp (· + ·) a b (addS a b) :=
  ⟨Rat.le_trans (Rat.add_le_add_right.2 ha) (Rat.add_le_add_left.2 hb), fun _ _ hx hy => ⟨Rat.le_trans (Rat.add_le_add_right.2 hx.1) (Rat.add_le_add_left.2 hy.1), Rat.le_trans (Rat.add_le_add_right.2 hx.2) (Rat.add_le_add_left.2 hy.2)⟩,
   ⟨_, _, in_low ha, in_low hb, rfl⟩, ⟨_, _, in_high ha, in_high hb, rfl⟩⟩
theorem sub_mono {p q x y : Rat} (h1 : p ≤ x) (h2 : y ≤ q) : p - q ≤ x - y := by
 rw [Rat.sub_eq_add_neg, Rat.sub_eq_add_neg]
 exact Rat.le_trans (Rat.add_le_add_right.2 h1) (Rat.add_le_add_left.2 (Rat.neg_le_neg h2))
theorem is_sub {a b : Rat × Rat} (ha : a.1 ≤ a.2) (hb : b.1 ≤ b.2) : IsOp (· - ·) a b (subS a b) :=
 ⟨sub_mono ha hb, fun _ _ hx hy => ⟨sub_mono hx.1 hy.2, sub_mono hx.2 hy.1⟩, ⟨_, _, in_low ha, in_high hb, rfl⟩, ⟨_, _, in_high ha, in_low hb, rfl⟩⟩
theorem is_min {a b : Rat × Rat} (ha : a.1 ≤ a.2) (hb : b.1 ≤ b.2) : IsOp Bi.rmin a b (minS a b) :=
 ⟨rmin_mono ha hb, fun _ _ hx hy => ⟨rmin_mono hx.1 hy.1, rmin_mono hx.2 hy.2⟩, ⟨_, _, in_low ha, in_low hb, rfl⟩, ⟨_, _, in_high ha, in_high hb, rfl⟩⟩
theorem is_max {a b : Rat × Rat} (ha : a.1 ≤ a.2) (hb : b.1 ≤ b.2) : IsOp Bi.rmax a b (maxS a b) :=
 ⟨rmax_mono ha hb, fun _ _ hx hy => ⟨rmax_mono hx.1 hy.1, rmax_mono hx.2 hy.2⟩, ⟨_, _, in_low ha, in_low hb, rfl⟩, ⟨_, _, in_high ha, in_high hb, rfl⟩⟩
end Go.Proofs.YtgncnkojpedmdaaGreat.Sp

namespace Go.Proofs.YtgncnkojpedmdaaGreat.Sp
open Bi (rmin rmax)

def lo4 (p q r s : Rat) : Rat := rmin (rmin p q) (rmin r s)
def hi4 (p q r s : Rat) : Rat := rmax (rmax p q) (rmax r s)
theorem lo4_le (p q r s : Rat) : lo4 p q r s ≤ p ∧ lo4 p q r s ≤ q ∧ lo4 p q r s ≤ r ∧ lo4 p q r s ≤ s :=
 ⟨Rat.le_trans rmin_le.1 rmin_le.1, Rat.le_trans rmin_le.1 rmin_le.2, Rat.le_trans rmin_le.2 rmin_le.1, Rat.le_trans rmin_le.2 rmin_le.2⟩
theorem le_hi4 (p q r s : Rat) : p ≤ hi4 p q r s ∧ q ≤ hi4 p q r s ∧ r ≤ hi4 p q r s ∧ s ≤ hi4 p q r s :=
 ⟨Rat.le_trans rmax_le.1 rmax_le.1, Rat.le_trans rmax_le.2 rmax_le.1, Rat.le_trans rmax_le.1 rmax_le.2, Rat.le_trans rmax_le.2 rmax_le.2⟩
theorem lo4_or (p q r s : Rat) : lo4 p q r s = p ∨ lo4 p q r s = q ∨ lo4 p q r s = r ∨ lo4 p q r s = s := by
 unfold lo4
 rcases rmin_or (rmin p q) (rmin r s) with e | e <;> rw [e]
 ·rcases rmin_or p q with e | e <;> rw [e] <;> simp
 ·rcases rmin_or r s with e | e <;> rw [e] <;> simp
theorem hi4_or (p q r s : Rat) : hi4 p q r s = p ∨ hi4 p q r s = q ∨ hi4 p q r s = r ∨ hi4 p q r s = s := by
 unfold hi4
 rcases rmax_or (rmax p q) (rmax r s) with e | e <;> rw [e]
 ·rcases rmax_or p q with e | e <;> rw [e] <;> simp
 ·rcases rmax_or r s with e | e <;> rw [e] <;> simp
/-- The interval around the corners. -/
def conS (op : Rat → Rat → Rat) (a b : Rat × Rat) : Rat × Rat :=
 (lo4 (op a.1 b.1) (op a.2 b.1) (op a.1 b.2) (op a.2 b.2), hi4 (op a.1 b.1) (op a.2 b.1) (op a.1 b.2) (op a.2 b.2))
theorem Corner.con {op : Rat → Rat → Rat} {a b : Rat × Rat} (h : Corner op a b) (ha : a.1 ≤ a.2) (hb : b.1 ≤ b.2) : IsOp op a b (conS op a b) := by
 obtain ⟨l1, l2, l3, l4⟩ := lo4_le (op a.1 b.1) (op a.2 b.1) (op a.1 b.2) (op a.2 b.2)
 obtain ⟨u1, u2, u3, u4⟩ := le_hi4 (op a.1 b.1) (op a.2 b.1) (op a.1 b.2) (op a.2 b.2)
 exact h.isOp ha hb ⟨l1, u1⟩ ⟨l2, u2⟩ ⟨l3, u3⟩ ⟨l4, u4⟩ (lo4_or _ _ _ _) (hi4_or _ _ _ _)
def mulS (a b : Rat × Rat) : Rat × Rat := conS (· * ·) a b
def divS (a b : Rat × Rat) : Rat × Rat := conS (· / ·) a b
/-- The four corners in any order of reckoning are the same interval. -/
theorem con_add {a b : Rat × Rat} (ha : a.1 ≤ a.2) (hb : b.1 ≤ b.2) : conS (· + ·) a b = addS a b := ((corner_add a b).con ha hb).unique (is_add ha hb)
theorem con_sub {a b : Rat × Rat} (ha : a.1 ≤ a.2) (hb : b.1 ≤ b.2) : conS (· - ·) a b = subS a b := ((corner_sub a b).con ha hb).unique (is_sub ha hb)
theorem con_min {a b : Rat × Rat} (ha : a.1 ≤ a.2) (hb : b.1 ≤ b.2) : conS rmin a b = minS a b := ((corner_min a b).con ha hb).unique (is_min ha hb)
theorem con_max {a b : Rat × Rat} (ha : a.1 ≤ a.2) (hb : b.1 ≤ b.2) : conS rmax a b = maxS a b := ((corner_max a b).con ha hb).unique (is_max ha hb)

/-! ## SpanInside -/
/-! ## SpanLaws -/
theorem sub_add_neg (a b : Rat × Rat) : subS a b = addS a (negS b) := Prod.ext (Rat.sub_eq_add_neg _ _) (Rat.sub_eq_add_neg _ _)
/-! ## SpanBack -/
/-! ## SpanHull -/
end Go.Proofs.YtgncnkojpedmdaaGreat.Sp
