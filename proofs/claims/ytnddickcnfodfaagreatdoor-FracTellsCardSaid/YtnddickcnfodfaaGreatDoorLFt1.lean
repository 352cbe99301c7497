/- kitbagref04 as laws use it; whether a fraction is valid, by the reference. WRITTEN by frac/gen_ft.py. -/
import Derived.Test.YtnddickcnfodfaaGreatDoorM14
import Derived.Test.YtnddickcnfodfaaGreatDoorLBt20
set_option maxRecDepth 100000
namespace Go.Proofs.YtnddickcnfodfaaGreatDoor.Bi
open Go.RowKit

section
variable {w : World} {sa sb : Int} {va vb : Value} {a b : Int}
theorem rof_k (z : Int) (h : -9223372036854775808 ≤ z ∧ z ≤ 9223372036854775807) (w : World) : Calls Tryz.prog 50 #[.int .i64 z] w (BV z w) := (rof_any z h.1 h.2 w).mono fun _ _ h => h.bv
theorem rmul_k (ha : Num w sa va a) (hb : Num w sb vb b) (la : Len 100000 a) (lb : Len 100000 b) : Calls Tryz.prog 46 #[.agg #[.int .i64 sa, va], .agg #[.int .i64 sb, vb]] w (BVE (a * b) 0 w) :=
  (rmul_ok _ _ a b w ha.isb hb.isb (Nat.le_trans la (by omega)) (Nat.le_trans lb (by omega))).mono fun _ _ h => h.bve
theorem radd_k (ha : Num w sa va a) (hb : Num w sb vb b) (la : Len 100000 a) (lb : Len 100000 b) : Calls Tryz.prog 47 #[.agg #[.int .i64 sa, va], .agg #[.int .i64 sb, vb]] w (BVE (a + b) 0 w) :=
  (radd_ok _ _ a b w ha.isb hb.isb (Nat.le_trans la (by omega)) (Nat.le_trans lb (by omega))).mono fun _ _ h => h.bve
theorem rsub_k (ha : Num w sa va a) (hb : Num w sb vb b) (la : Len 100000 a) (lb : Len 100000 b) : Calls Tryz.prog 49 #[.agg #[.int .i64 sa, va], .agg #[.int .i64 sb, vb]] w (BVE (a - b) 0 w) := by
  refine (rsub_any _ _ _ _ b (a - b) 0 w ha.arg hb.isb lb (fun W v h1 h2 => ?_)).mono fun _ _ h => h.bve
  have := radd_ok _ v a (-b) W h1 h2 la (by rw [Int.natAbs_neg]; exact lb)
  rwa [← Int.sub_eq_add_neg] at this
theorem rdiv_k (ha : Num w sa va a) (hb : Num w sb vb b) (la : Len 100000 a) (lb : Len 100000 b) (h0 : b ≠ 0) : Calls Tryz.prog 60 #[.agg #[.int .i64 sa, va], .agg #[.int .i64 sb, vb]] w (BVD (a.fdiv b) (a.fmod b) 0 w) :=
  (rdiv_ok _ _ a b w ha.isb hb.isb (Nat.le_trans la (by omega)) (Nat.le_trans lb (by omega)) h0).mono fun _ _ h => h.bvd
theorem rgcd_z (ha : Num w sa va a) (hb : Num w sb vb b) (la : Len 100000 a) (lb : Len 100000 b) {z : Int} (h : ((Nat.gcd a.natAbs b.natAbs : Nat) : Int) = z) : Calls Tryz.prog 59 #[.agg #[.int .i64 sa, va], .agg #[.int .i64 sb, vb]] w (BVE z 0 w) := by
  subst h; exact (rgcd_ok _ _ a b w ha.isb hb.isb (Nat.le_trans la (by omega)) (Nat.le_trans lb (by omega))).mono fun _ _ h => h.bve
theorem rcmp_t (ha : Num w sa va a) (hb : Num w sb vb b) {k : Int} (h : cmpI a b = k) : Calls Tryz.prog 62 #[.agg #[.int .i64 sa, va], .agg #[.int .i64 sb, vb]] w (fun e w' => e = .returned (.int .i64 k) ∧ RowKit.Below w.heap.size w w') := by
  subst h; exact rcompare_ok _ _ a b w ha.isb hb.isb
theorem rneg_k (ha : Num w sa va a) (la : Len 100000 a) : Calls Tryz.prog 58 #[.agg #[.int .i64 sa, va]] w (BV (-a) w) := (rneg_ok _ a w ha.isb (Nat.le_trans la (by omega))).mono fun _ _ h => h.bv
theorem rtext_k (ha : Num w sa va a) (la : Len 100000 a) : Calls Tryz.prog 67 #[.agg #[.int .i64 sa, va]] w fun e w' => e = .returned (.string ⟨(Go.Lib.itoa a).toArray⟩) ∧ RowKit.Below w.heap.size w w' := rtext_ok _ a w ha.isb la
theorem rrightN_k (ha : Num w sa va a) : Calls Tryz.prog 57 #[.agg #[.int .i64 sa, va]] w fun e w' => e = .returned (.bool true) ∧ RowKit.Below w.heap.size w w' := risb_any ha.isb
theorem rright_b {v : Value} {s : Int} {l : List Int} {b : Bool} (h : Arg w v s l) (hr : rightB s l = b) : Calls Tryz.prog 57 #[v] w fun e w' => e = .returned (.bool b) ∧ RowKit.Below w.heap.size w w' := by
  subst hr; exact rright_any v s l w h
end
theorem cmp_one (G : Int) : (cmpI G 1 == 0) = decide (G = 1) := by
  unfold cmpI
  rcases Int.lt_trichotomy G 1 with h | h | h
  · rw [if_pos h]; simp; omega
  · subst h; rfl
  · rw [if_neg (by omega), if_neg (by omega)]; simp; omega

set_option maxHeartbeats 2000000 in
theorem rfright_any (sp : Int) (ap : Option Addr) (np cp : Nat) (lp : List Int) (sq : Int) (aq : Option Addr) (nq cq : Nat) (lq : List Int) (w : World) (hp : Ints w (.slice ap np cp) lp) (hq : Ints w (.slice aq nq cq) lq) (llp : lp.length ≤ 100000) (llq : lq.length ≤ 100000) (bb : Bool) (hbb : fRightB sp lp sq lq = bb) :
    Calls Tryz.prog 22 #[.agg #[.int .i64 sp, .slice ap np cp, .int .i64 sq, .slice aq nq cq]] w fun e w' => e = .returned (.bool bb) ∧ RowKit.Below w.heap.size w w' := by
  have S0 := Lib.hid ((((Sf.start w).arg hp).arg hq).put [.int .i64 sp, .slice ap np cp, .int .i64 sq, .slice aq nq cq] 26)
  have HP : Hid (Arg w (.agg #[.int .i64 sp, .slice ap np cp]) sp lp) := ⟨_, rfl, hp⟩
  have HQ : Hid (Arg w (.agg #[.int .i64 sq, .slice aq nq cq]) sq lq) := ⟨_, rfl, hq⟩
  unfold fRightB at hbb
  rcases h1 : rightB sp lp with _ | _
  · obtain rfl : bb = false := by rw [← hbb, h1]; simp
    have HR := Lib.hid h1
    clear hp hq llp llq hbb h1
    go_enter Tryz.func22, Tryz.ntmps22
    go_wp2_with fail
    refine (rright_b (HP.out.later S0.out.below) HR.out).mono ?_
    rintro e w1 ⟨rfl, hb⟩
    have S1 := Lib.hid (S0.out.later hb)
    clear hb S0
    go_wp2_with fail
    go_ret
    exact ⟨rfl, S1.out.below⟩
  have HR := Lib.hid h1
  rcases h2 : rightB sq lq with _ | _
  · obtain rfl : bb = false := by rw [← hbb, h1, h2]; simp
    have HR2 := Lib.hid h2
    clear hp hq llp llq hbb h1 h2
    go_enter Tryz.func22, Tryz.ntmps22
    go_wp2_with fail
    refine (rright_b (HP.out.later S0.out.below) HR.out).mono ?_
    rintro e w1 ⟨rfl, hb⟩
    have S1 := Lib.hid (S0.out.later hb)
    clear hb S0
    obtain ⟨q0, q1, q2, q3⟩ := (S1.out.box _ List.mem_cons_self : Fb (w.heap.size, 26, [.int .i64 sp, .slice ap np cp, .int .i64 sq, .slice aq nq cq]) _).cells4
    go_wp2_with fail
    clear q0 q1 q2 q3
    refine (rright_b (HQ.out.later S1.out.below) HR2.out).mono ?_
    rintro e w2 ⟨rfl, hb⟩
    have S2 := Lib.hid (S1.out.later hb)
    clear hb S1
    go_wp2_with fail
    go_ret
    exact ⟨rfl, S2.out.below⟩
  have HR2 := Lib.hid h2
  by_cases h0 : 0 < sq
  · have g0 : decide (sq < 1) = false := by simp; omega
    obtain ⟨p, e1, e2⟩ := right_of h1
    obtain ⟨q, e3, e4⟩ := right_of h2
    obtain ⟨G, hG⟩ : ∃ z : Int, ((Nat.gcd p.natAbs q.natAbs : Nat) : Int) = z := ⟨_, rfl⟩
    have hd : (cmpI G 1 == 0) = bb := by
      rw [cmp_one, ← hbb, decide_eq_true h0, h1, h2, e2, e4, digs_val, digs_val, Int.toNat_natCast, Int.toNat_natCast, ← hG, Bool.true_and, Bool.true_and, Bool.true_and]
      exact decide_eq_decide.2 (by omega)
    obtain ⟨C, hC⟩ : ∃ C, cmpI G 1 = C := ⟨_, rfl⟩
    rw [hC] at hd
    have HC := Lib.hid hC
    have HNP : Hid (Num w sp (.slice ap np cp) p) := ⟨e1, by rw [← e2]; exact hp⟩
    have HNQ : Hid (Num w sq (.slice aq nq cq) q) := ⟨e3, by rw [← e4]; exact hq⟩
    have HLP : Hid (Len 100000 p) := by rw [e2] at llp; exact llp
    have HLQ : Hid (Len 100000 q) := by rw [e4] at llq; exact llq
    have HG := Lib.hid hG
    have HD := Lib.hid hd
    have HB : Hid (-9223372036854775808 ≤ (1 : Int) ∧ (1 : Int) ≤ 9223372036854775807) := ⟨by omega, by omega⟩
    clear hp hq llp llq h1 h2 e1 e2 e3 e4 hG hd hbb h0 hC
    go_enter Tryz.func22, Tryz.ntmps22
    go_wp2_with fail
    refine (rright_b (HP.out.later S0.out.below) HR.out).mono ?_
    rintro e w1 ⟨rfl, hb⟩
    have S1 := Lib.hid (S0.out.later hb)
    clear hb S0
    obtain ⟨q0, q1, q2, q3⟩ := (S1.out.box _ List.mem_cons_self : Fb (w.heap.size, 26, [.int .i64 sp, .slice ap np cp, .int .i64 sq, .slice aq nq cq]) _).cells4
    go_wp2_with fail
    clear q0 q1 q2 q3
    refine (rright_b (HQ.out.later S1.out.below) HR2.out).mono ?_
    rintro e w2 ⟨rfl, hb⟩
    have S2 := Lib.hid (S1.out.later hb)
    clear hb S1
    obtain ⟨q0, q1, q2, q3⟩ := (S2.out.box _ List.mem_cons_self : Fb (w.heap.size, 26, [.int .i64 sp, .slice ap np cp, .int .i64 sq, .slice aq nq cq]) _).cells4
    go_wp2_with fail
    clear q0 q1 q2 q3
    refine (rgcd_z (HNP.out.later S2.out.below) (HNQ.out.later S2.out.below) HLP.out HLQ.out HG.out).mono ?_
    rintro e w3 ⟨s1, a1, n1, c1, rfl, hn, hb, hf⟩
    have S3 := Lib.hid ((S2.out.ret hb hn.2 hf).put [.int .i64 s1, .slice a1 n1 c1] 24)
    have E1 := Lib.hid hn.1
    clear hn hb hf S2
    go_wp2_with fail
    have SD := Lib.hid S3.out.drew
    have K0 : ∀ W, Sf w [(w3.heap.size, 24, [.int .i64 s1, .slice a1 n1 c1]), (w.heap.size, 26, [.int .i64 sp, .slice ap np cp, .int .i64 sq, .slice aq nq cq])] [(.slice a1 n1 c1, digs (G : Int).natAbs), (.slice aq nq cq, lq), (.slice ap np cp, lp)] W → W.cell? ⟨w3.heap.size, 0, none⟩ = some (.int .i64 s1) ∧ W.cell? ⟨w3.heap.size, 1, none⟩ = some (.slice a1 n1 c1) := fun W h => (h.box _ List.mem_cons_self : Fb _ _).cells2
    have KK := Lib.hid K0
    have e0 := KK.out _ SD.out
    clear K0 S3
    go_region_held3 (fun W => W.cell? ⟨w3.heap.size, 0, none⟩ = some (.int .i64 s1) ∧ W.cell? ⟨w3.heap.size, 1, none⟩ = some (.slice a1 n1 c1))
      (first | (with_reducible exact e0) | (with_reducible exact x4) | (with_reducible exact x5))
      (first
        | (go_at_call 62; (with_reducible refine (rcmp_t M4.out N4.out HC.out).mono ?_); rintro e w5 ⟨rfl, hb⟩; have S5 := Lib.hid (S4.out.later hb); have x5 := KK.out _ S5.out; clear hb)
        | (go_at_call 50; (with_reducible refine (rof_k 1 HB.out _).mono ?_); rintro e w4 ⟨s2, a2, n2, c2, rfl, hn, hb, _⟩; have S4 := Lib.hid (SD.out.later hb); have x4 := KK.out _ S4.out; have M4 := Lib.hid (S4.out.num (v := .slice a1 n1 c1) (z := G) List.mem_cons_self E1.out); have N4 := Lib.hid hn; clear hn hb))
    go_wp2_with fail
    go_ret
    exact ⟨by rw [← HD.out]; rfl, S5.out.below⟩
  · have g0 : decide (sq < 1) = true := by simp; omega
    obtain rfl : bb = false := by rw [← hbb, decide_eq_false h0]; simp
    clear hp hq llp llq hbb h1 h2 h0
    go_enter Tryz.func22, Tryz.ntmps22
    go_wp2_with fail
    refine (rright_b (HP.out.later S0.out.below) HR.out).mono ?_
    rintro e w1 ⟨rfl, hb⟩
    have S1 := Lib.hid (S0.out.later hb)
    clear hb S0
    obtain ⟨q0, q1, q2, q3⟩ := (S1.out.box _ List.mem_cons_self : Fb (w.heap.size, 26, [.int .i64 sp, .slice ap np cp, .int .i64 sq, .slice aq nq cq]) _).cells4
    go_wp2_with fail
    clear q0 q1 q2 q3
    refine (rright_b (HQ.out.later S1.out.below) HR2.out).mono ?_
    rintro e w2 ⟨rfl, hb⟩
    have S2 := Lib.hid (S1.out.later hb)
    clear hb S1
    obtain ⟨q0, q1, q2, q3⟩ := (S2.out.box _ List.mem_cons_self : Fb (w.heap.size, 26, [.int .i64 sp, .slice ap np cp, .int .i64 sq, .slice aq nq cq]) _).cells4
    go_wp2_with fail
    go_ret
    exact ⟨rfl, S2.out.below⟩
theorem rfright_k {w : World} {sa : Int} {aa ba : Option Addr} {na ca ma da : Nat} {a : Rat} (h : Fr w sa (.slice aa na ca) (.slice ba ma da) a) (l : FSz 1000 a) : Calls Tryz.prog 22 #[.agg #[.int .i64 sa, .slice aa na ca, .int .i64 1, .slice ba ma da]] w fun e w' => e = .returned (.bool true) ∧ RowKit.Below w.heap.size w w' := by
  obtain ⟨⟨rfl, h1⟩, _, h2⟩ := h
  exact rfright_any _ _ _ _ _ _ _ _ _ _ w h1 h2 (Sz.len l.1) (Sz.len l.2) true (fright_is a)
end Go.Proofs.YtnddickcnfodfaaGreatDoor.Bi
