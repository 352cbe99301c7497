/- The contracts of span: Right, Same, Has, Inside, Width. The contracts of span: clone, Point, Neg. -/
import Derived.Test.YtgncnkojpedmdaaGreatPTells18
set_option maxRecDepth 100000
namespace Go.Proofs.YtgncnkojpedmdaaGreat.Sp
open Go.RowKit Bi
/-- What Compare returns for any cells. -/
def cR (s1 : Int) (l1 : List Int) (t1 : Int) (k1 : List Int) (s2 : Int) (l2 : List Int) (t2 : Int) (k2 : List Int) : Int := if (fRightB s1 l1 t1 k1 && fRightB s2 l2 t2 k2) = true then cmpR (ratOf s1 l1 k1) (ratOf s2 l2 k2) else 0
theorem fcmp_any {w : World} {s1 t1 : Int} {a1 b1 : Option Addr} {n1 c1 m1 d1 : Nat} {l1 k1 : List Int} {s2 t2 : Int} {a2 b2 : Option Addr} {n2 c2 m2 d2 : Nat} {l2 k2 : List Int} (hl1 : Ints w (.slice a1 n1 c1) l1) (hk1 : Ints w (.slice b1 m1 d1) k1) (ll1 : l1.length ≤ 1000) (lk1 : k1.length ≤ 1000) (hl2 : Ints w (.slice a2 n2 c2) l2) (hk2 : Ints w (.slice b2 m2 d2) k2) (ll2 : l2.length ≤ 1000) (lk2 : k2.length ≤ 1000) {j : Int} (hj : cR s1 l1 t1 k1 s2 l2 t2 k2 = j) :
  Calls Tryz.prog 43 #[.agg #[.int .i64 s1, .slice a1 n1 c1, .int .i64 t1, .slice b1 m1 d1], .agg #[.int .i64 s2, .slice a2 n2 c2, .int .i64 t2, .slice b2 m2 d2]] w fun e w' => e = .returned (.int .i64 j) ∧ RowKit.Below w.heap.size w w' := by
 subst hj
 rcases h : (fRightB s1 l1 t1 k1 && fRightB s2 l2 t2 k2) with _ | _
 ·rw [show cR s1 l1 t1 k1 s2 l2 t2 k2 = 0 by unfold cR; rw [h]; simp]
  exact fcmp_bad s1 a1 n1 c1 l1 t1 b1 m1 d1 k1 s2 a2 n2 c2 l2 t2 b2 m2 d2 k2 w hl1 hk1 (by omega) (by omega) hl2 hk2 (by omega) (by omega) h
 ·rw [show cR s1 l1 t1 k1 s2 l2 t2 k2 = cmpR (ratOf s1 l1 k1) (ratOf s2 l2 k2) by unfold cR; rw [h]; simp]
  simp only [Bool.and_eq_true] at h
  obtain ⟨x, rfl, rfl, rfl, rfl⟩ := fright_of h.1
  obtain ⟨y, rfl, rfl, rfl, rfl⟩ := fright_of h.2
  rw [ratOf_is, ratOf_is]
  exact fCompare_k (⟨⟨rfl, hl1⟩, ⟨(den_sign x).symm, hk1⟩⟩ : Fr w _ _ _ x) (⟨⟨rfl, hl2⟩, ⟨(den_sign y).symm, hk2⟩⟩ : Fr w _ _ _ y) ⟨Sz.of ll1, Sz.of lk1⟩ ⟨Sz.of ll2, Sz.of lk2⟩
theorem cR_lt {s1 t1 s2 t2 : Int} {l1 k1 l2 k2 : List Int} (h : cR s1 l1 t1 k1 s2 l2 t2 k2 < 0) : sR s1 l1 t1 k1 s2 l2 t2 k2 = true := by
 unfold cR at h
 split at h
 ·rename_i hb
  unfold sR
  rw [hb, Bool.true_and, ← cmp_le]
  exact decide_eq_true (Int.le_of_lt h)
 ·omega
theorem cR_ne {s1 t1 s2 t2 : Int} {l1 k1 l2 k2 : List Int} (h : ¬ cR s1 l1 t1 k1 s2 l2 t2 k2 < 0) (hs : (decide (s1 = s2 ∧ l1 = l2) && decide (t1 = t2 ∧ k1 = k2)) = false) : sR s1 l1 t1 k1 s2 l2 t2 k2 = false := by
 rcases e : sR s1 l1 t1 k1 s2 l2 t2 k2 with _ | _
 ·rfl
 ·obtain ⟨x, y, ⟨rfl, rfl, rfl, rfl⟩, ⟨rfl, rfl, rfl, rfl⟩, hxy⟩ := sR_good e
  exfalso
  unfold cR at h
  rw [fright_is, fright_is, ratOf_is, ratOf_is] at h
  have hn : ¬ x < y := fun e => h (by rw [Bool.and_self, if_pos rfl, cmpR_lt.2 e]; decide)
  have : x = y := Rat.le_antisymm hxy (Rat.not_lt.1 hn)
  subst this
  simp at hs
theorem cR_eq {s1 t1 s2 t2 : Int} {l1 k1 l2 k2 : List Int} (hs : (decide (s1 = s2 ∧ l1 = l2) && decide (t1 = t2 ∧ k1 = k2)) = true) : sR s1 l1 t1 k1 s2 l2 t2 k2 = fRightB s1 l1 t1 k1 := by
 simp only [Bool.and_eq_true, decide_eq_true_eq] at hs
 obtain ⟨⟨rfl, rfl⟩, rfl, rfl⟩ := hs
 unfold sR
 rw [Bool.and_self, decide_eq_true (Rat.le_refl : ratOf s1 l1 k1 ≤ ratOf s1 l1 k1), Bool.and_true]
theorem fsame_b {w : World} {s1 t1 : Int} {a1 b1 : Option Addr} {n1 c1 m1 d1 : Nat} {l1 k1 : List Int} {s2 t2 : Int} {a2 b2 : Option Addr} {n2 c2 m2 d2 : Nat} {l2 k2 : List Int} (h1 : Ints w (.slice a1 n1 c1) l1) (h2 : Ints w (.slice b1 m1 d1) k1) (h3 : Ints w (.slice a2 n2 c2) l2) (h4 : Ints w (.slice b2 m2 d2) k2) {r : Bool} (hr : (decide (s1 = s2 ∧ l1 = l2) && decide (t1 = t2 ∧ k1 = k2)) = r) :
  Calls Tryz.prog 47 #[.agg #[.int .i64 s1, .slice a1 n1 c1, .int .i64 t1, .slice b1 m1 d1], .agg #[.int .i64 s2, .slice a2 n2 c2, .int .i64 t2, .slice b2 m2 d2]] w fun e w' => e = .returned (.bool r) ∧ RowKit.Below w.heap.size w w' := by
 subst hr
 exact fsame_raw s1 a1 n1 c1 l1 t1 b1 m1 d1 k1 s2 a2 n2 c2 l2 t2 b2 m2 d2 k2 w h1 h2 h3 h4

set_option maxHeartbeats 8000000 in
theorem p10right_raw {w : World} {s1 t1 : Int} {a1 b1 : Option Addr} {n1 c1 m1 d1 : Nat} {l1 k1 : List Int} {s2 t2 : Int} {a2 b2 : Option Addr} {n2 c2 m2 d2 : Nat} {l2 k2 : List Int} (hl1 : Ints w (.slice a1 n1 c1) l1) (hk1 : Ints w (.slice b1 m1 d1) k1) (ll1 : l1.length ≤ 1000) (lk1 : k1.length ≤ 1000) (hl2 : Ints w (.slice a2 n2 c2) l2) (hk2 : Ints w (.slice b2 m2 d2) k2) (ll2 : l2.length ≤ 1000) (lk2 : k2.length ≤ 1000) {r : Bool} (hr : sR s1 l1 t1 k1 s2 l2 t2 k2 = r) :
  Calls Tryz.prog 14 #[.agg #[.int .i64 s1, .slice a1 n1 c1, .int .i64 t1, .slice b1 m1 d1, .int .i64 s2, .slice a2 n2 c2, .int .i64 t2, .slice b2 m2 d2]] w fun e w' => e = .returned (.bool r) ∧ RowKit.Below w.heap.size w w' := by
 obtain ⟨j, hj⟩ : ∃ j, cR s1 l1 t1 k1 s2 l2 t2 k2 = j := ⟨_, rfl⟩
 have HJ := Lib.hid hj
 obtain ⟨v, hv⟩ : ∃ v, (decide (s1 = s2 ∧ l1 = l2) && decide (t1 = t2 ∧ k1 = k2)) = v := ⟨_, rfl⟩
 have HV := Lib.hid hv
 by_cases h0 : j < 0
 ·obtain rfl : true = r := by rw [← hr]; exact (cR_lt (by rw [hj]; exact h0)).symm
  have gk : decide (j < 0) = true := decide_eq_true h0
  have LL1 := Lib.hid ll1
  have LK1 := Lib.hid lk1
  have LL2 := Lib.hid ll2
  have LK2 := Lib.hid lk2
  have s0 := ((((((Sf.start w).arg hk1).arg hl1).arg hk2).arg hl2).put [.int .i64 s1, .slice a1 n1 c1, .int .i64 t1, .slice b1 m1 d1, .int .i64 s2, .slice a2 n2 c2, .int .i64 t2, .slice b2 m2 d2] 28)
  try simp only [World.size_alloc] at s0
  have S0 := Lib.hid s0
  clear s0
  clear hr hj hv h0 hl1 hk1 ll1 lk1 hl2 hk2 ll2 lk2
  go_enter Tryz.func14, Tryz.ntmps14
  obtain ⟨q1, q2, q3, q4, q5, q6, q7, q8⟩ := Fb.cells8 (S0.out.box _ mq0)
  go_wp2_with fail
  clear q1 q2 q3 q4 q5 q6 q7 q8
  refine (fcmp_any (S0.out.ints (.slice a1 n1 c1, l1) mq2) (S0.out.ints (.slice b1 m1 d1, k1) mq3) LL1.out LK1.out (S0.out.ints (.slice a2 n2 c2, l2) mq0) (S0.out.ints (.slice b2 m2 d2, k2) mq1) LL2.out LK2.out HJ.out).mono ?_
  rintro e w1 ⟨rfl, hb⟩
  have R1 := Lib.hid (S0.out.later hb)
  clear hb
  go_wp2_with fail
  go_ret
  exact ⟨rfl, R1.out.below⟩
 ·have gk : decide (j < 0) = false := decide_eq_false h0
  cases v
  ·obtain rfl : false = r := by rw [← hr]; exact (cR_ne (by rw [hj]; exact h0) hv).symm
   have LL1 := Lib.hid ll1
   have LK1 := Lib.hid lk1
   have LL2 := Lib.hid ll2
   have LK2 := Lib.hid lk2
   have s0 := ((((((Sf.start w).arg hk1).arg hl1).arg hk2).arg hl2).put [.int .i64 s1, .slice a1 n1 c1, .int .i64 t1, .slice b1 m1 d1, .int .i64 s2, .slice a2 n2 c2, .int .i64 t2, .slice b2 m2 d2] 28)
   try simp only [World.size_alloc] at s0
   have S0 := Lib.hid s0
   clear s0
   clear hr hj hv h0 hl1 hk1 ll1 lk1 hl2 hk2 ll2 lk2
   go_enter Tryz.func14, Tryz.ntmps14
   obtain ⟨q1, q2, q3, q4, q5, q6, q7, q8⟩ := Fb.cells8 (S0.out.box _ mq0)
   go_wp2_with fail
   clear q1 q2 q3 q4 q5 q6 q7 q8
   refine (fcmp_any (S0.out.ints (.slice a1 n1 c1, l1) mq2) (S0.out.ints (.slice b1 m1 d1, k1) mq3) LL1.out LK1.out (S0.out.ints (.slice a2 n2 c2, l2) mq0) (S0.out.ints (.slice b2 m2 d2, k2) mq1) LL2.out LK2.out HJ.out).mono ?_
   rintro e w1 ⟨rfl, hb⟩
   have R1 := Lib.hid (S0.out.later hb)
   clear hb
   obtain ⟨q9, q10, q11, q12, q13, q14, q15, q16⟩ := Fb.cells8 (R1.out.box _ mq0)
   go_wp2_with fail
   clear q9 q10 q11 q12 q13 q14 q15 q16
   refine (fsame_b (R1.out.ints (.slice a1 n1 c1, l1) mq2) (R1.out.ints (.slice b1 m1 d1, k1) mq3) (R1.out.ints (.slice a2 n2 c2, l2) mq0) (R1.out.ints (.slice b2 m2 d2, k2) mq1) HV.out).mono ?_
   rintro e w2 ⟨rfl, hb⟩
   have R2 := Lib.hid (R1.out.later hb)
   clear hb
   go_wp2_with fail
   go_ret
   exact ⟨rfl, R2.out.below⟩
  ·have HR : Hid (fRightB s1 l1 t1 k1 = r) := Lib.hid (by rw [← hr]; exact (cR_eq hv).symm)
   have LL1 := Lib.hid ll1
   have LK1 := Lib.hid lk1
   have LL2 := Lib.hid ll2
   have LK2 := Lib.hid lk2
   have s0 := ((((((Sf.start w).arg hk1).arg hl1).arg hk2).arg hl2).put [.int .i64 s1, .slice a1 n1 c1, .int .i64 t1, .slice b1 m1 d1, .int .i64 s2, .slice a2 n2 c2, .int .i64 t2, .slice b2 m2 d2] 28)
   try simp only [World.size_alloc] at s0
   have S0 := Lib.hid s0
   clear s0
   clear hr hj hv h0 hl1 hk1 ll1 lk1 hl2 hk2 ll2 lk2
   go_enter Tryz.func14, Tryz.ntmps14
   obtain ⟨q1, q2, q3, q4, q5, q6, q7, q8⟩ := Fb.cells8 (S0.out.box _ mq0)
   go_wp2_with fail
   clear q1 q2 q3 q4 q5 q6 q7 q8
   refine (fcmp_any (S0.out.ints (.slice a1 n1 c1, l1) mq2) (S0.out.ints (.slice b1 m1 d1, k1) mq3) LL1.out LK1.out (S0.out.ints (.slice a2 n2 c2, l2) mq0) (S0.out.ints (.slice b2 m2 d2, k2) mq1) LL2.out LK2.out HJ.out).mono ?_
   rintro e w1 ⟨rfl, hb⟩
   have R1 := Lib.hid (S0.out.later hb)
   clear hb
   obtain ⟨q9, q10, q11, q12, q13, q14, q15, q16⟩ := Fb.cells8 (R1.out.box _ mq0)
   go_wp2_with fail
   clear q9 q10 q11 q12 q13 q14 q15 q16
   refine (fsame_b (R1.out.ints (.slice a1 n1 c1, l1) mq2) (R1.out.ints (.slice b1 m1 d1, k1) mq3) (R1.out.ints (.slice a2 n2 c2, l2) mq0) (R1.out.ints (.slice b2 m2 d2, k2) mq1) HV.out).mono ?_
   rintro e w2 ⟨rfl, hb⟩
   have R2 := Lib.hid (R1.out.later hb)
   clear hb
   obtain ⟨q17, q18, q19, q20, q21, q22, q23, q24⟩ := Fb.cells8 (R2.out.box _ mq0)
   go_wp2_with fail
   clear q17 q18 q19 q20 q21 q22 q23 q24
   refine (fright_any s1 a1 n1 c1 l1 t1 b1 m1 d1 k1 _ (R2.out.ints (.slice a1 n1 c1, l1) mq2) (R2.out.ints (.slice b1 m1 d1, k1) mq3) (Nat.le_trans LL1.out (by decide)) (Nat.le_trans LK1.out (by decide)) _ HR.out).mono ?_
   rintro e w3 ⟨rfl, hb⟩
   have R3 := Lib.hid (R2.out.later hb)
   clear hb
   go_wp2_with fail
   go_ret
   exact ⟨rfl, R3.out.below⟩
theorem p10right_v {w : World} {s1 : Int} {a1 b1 : Option Addr} {n1 c1 m1 d1 : Nat} {x : Rat} {s2 : Int} {a2 b2 : Option Addr} {n2 c2 m2 d2 : Nat} {y : Rat} (h1 : Fr w s1 (.slice a1 n1 c1) (.slice b1 m1 d1) x) (z1 : FSz 1000 x) (h2 : Fr w s2 (.slice a2 n2 c2) (.slice b2 m2 d2) y) (z2 : FSz 1000 y) {r : Bool} (hr : decide (x ≤ y) = r) :
  Calls Tryz.prog 14 #[.agg #[.int .i64 s1, .slice a1 n1 c1, .int .i64 1, .slice b1 m1 d1, .int .i64 s2, .slice a2 n2 c2, .int .i64 1, .slice b2 m2 d2]] w fun e w' => e = .returned (.bool r) ∧ RowKit.Below w.heap.size w w' := by
 obtain ⟨⟨rfl, i1⟩, ⟨_, j1⟩⟩ := h1
 obtain ⟨⟨rfl, i2⟩, ⟨_, j2⟩⟩ := h2
 exact p10right_raw i1 j1 (digs_le z1.1) (digs_le z1.2) i2 j2 (digs_le z2.1) (digs_le z2.2) (by rw [sR_is, hr])

set_option maxHeartbeats 8000000 in
theorem p10same_raw {w : World} {s1 t1 : Int} {a1 b1 : Option Addr} {n1 c1 m1 d1 : Nat} {l1 k1 : List Int} {s2 t2 : Int} {a2 b2 : Option Addr} {n2 c2 m2 d2 : Nat} {l2 k2 : List Int} {s3 t3 : Int} {a3 b3 : Option Addr} {n3 c3 m3 d3 : Nat} {l3 k3 : List Int} {s4 t4 : Int} {a4 b4 : Option Addr} {n4 c4 m4 d4 : Nat} {l4 k4 : List Int} (hl1 : Ints w (.slice a1 n1 c1) l1) (hk1 : Ints w (.slice b1 m1 d1) k1) (hl2 : Ints w (.slice a2 n2 c2) l2) (hk2 : Ints w (.slice b2 m2 d2) k2) (hl3 : Ints w (.slice a3 n3 c3) l3) (hk3 : Ints w (.slice b3 m3 d3) k3) (hl4 : Ints w (.slice a4 n4 c4) l4) (hk4 : Ints w (.slice b4 m4 d4) k4) {r : Bool} (hr : ((decide (s1 = s3 ∧ l1 = l3) && decide (t1 = t3 ∧ k1 = k3)) && (decide (s2 = s4 ∧ l2 = l4) && decide (t2 = t4 ∧ k2 = k4))) = r) :
  Calls Tryz.prog 16 #[.agg #[.int .i64 s1, .slice a1 n1 c1, .int .i64 t1, .slice b1 m1 d1, .int .i64 s2, .slice a2 n2 c2, .int .i64 t2, .slice b2 m2 d2], .agg #[.int .i64 s3, .slice a3 n3 c3, .int .i64 t3, .slice b3 m3 d3, .int .i64 s4, .slice a4 n4 c4, .int .i64 t4, .slice b4 m4 d4]] w fun e w' => e = .returned (.bool r) ∧ RowKit.Below w.heap.size w w' := by
 obtain ⟨u, hu⟩ : ∃ u, (decide (s1 = s3 ∧ l1 = l3) && decide (t1 = t3 ∧ k1 = k3)) = u := ⟨_, rfl⟩
 obtain ⟨v, hv⟩ : ∃ v, (decide (s2 = s4 ∧ l2 = l4) && decide (t2 = t4 ∧ k2 = k4)) = v := ⟨_, rfl⟩
 rw [hu, hv] at hr
 have HU := Lib.hid hu
 have HV := Lib.hid hv
 cases u
 ·obtain rfl : false = r := by rw [← hr]; rfl
  have s0 := (((((((((((Sf.start w).arg hk1).arg hl1).arg hk2).arg hl2).arg hk3).arg hl3).arg hk4).arg hl4).put [.int .i64 s1, .slice a1 n1 c1, .int .i64 t1, .slice b1 m1 d1, .int .i64 s2, .slice a2 n2 c2, .int .i64 t2, .slice b2 m2 d2] 28).put [.int .i64 s3, .slice a3 n3 c3, .int .i64 t3, .slice b3 m3 d3, .int .i64 s4, .slice a4 n4 c4, .int .i64 t4, .slice b4 m4 d4] 28)
  try simp only [World.size_alloc] at s0
  have S0 := Lib.hid s0
  clear s0
  clear hr hu hv hl1 hk1 hl2 hk2 hl3 hk3 hl4 hk4
  go_enter Tryz.func16, Tryz.ntmps16
  obtain ⟨q1, q2, q3, q4, q5, q6, q7, q8⟩ := Fb.cells8 (S0.out.box _ mq0)
  obtain ⟨q9, q10, q11, q12, q13, q14, q15, q16⟩ := Fb.cells8 (S0.out.box _ mq1)
  go_wp2_with fail
  clear q1 q2 q3 q4 q5 q6 q7 q8 q9 q10 q11 q12 q13 q14 q15 q16
  refine (fsame_b (S0.out.ints (.slice a1 n1 c1, l1) mq6) (S0.out.ints (.slice b1 m1 d1, k1) mq7) (S0.out.ints (.slice a3 n3 c3, l3) mq2) (S0.out.ints (.slice b3 m3 d3, k3) mq3) HU.out).mono ?_
  rintro e w1 ⟨rfl, hb⟩
  have R1 := Lib.hid (S0.out.later hb)
  clear hb
  go_wp2_with fail
  go_ret
  exact ⟨rfl, R1.out.below⟩
 ·obtain rfl : v = r := by rw [← hr]; rfl
  have s0 := (((((((((((Sf.start w).arg hk1).arg hl1).arg hk2).arg hl2).arg hk3).arg hl3).arg hk4).arg hl4).put [.int .i64 s1, .slice a1 n1 c1, .int .i64 t1, .slice b1 m1 d1, .int .i64 s2, .slice a2 n2 c2, .int .i64 t2, .slice b2 m2 d2] 28).put [.int .i64 s3, .slice a3 n3 c3, .int .i64 t3, .slice b3 m3 d3, .int .i64 s4, .slice a4 n4 c4, .int .i64 t4, .slice b4 m4 d4] 28)
  try simp only [World.size_alloc] at s0
  have S0 := Lib.hid s0
  clear s0
  clear hr hu hv hl1 hk1 hl2 hk2 hl3 hk3 hl4 hk4
  go_enter Tryz.func16, Tryz.ntmps16
  obtain ⟨q1, q2, q3, q4, q5, q6, q7, q8⟩ := Fb.cells8 (S0.out.box _ mq0)
  obtain ⟨q9, q10, q11, q12, q13, q14, q15, q16⟩ := Fb.cells8 (S0.out.box _ mq1)
  go_wp2_with fail
  clear q1 q2 q3 q4 q5 q6 q7 q8 q9 q10 q11 q12 q13 q14 q15 q16
  refine (fsame_b (S0.out.ints (.slice a1 n1 c1, l1) mq6) (S0.out.ints (.slice b1 m1 d1, k1) mq7) (S0.out.ints (.slice a3 n3 c3, l3) mq2) (S0.out.ints (.slice b3 m3 d3, k3) mq3) HU.out).mono ?_
  rintro e w1 ⟨rfl, hb⟩
  have R1 := Lib.hid (S0.out.later hb)
  clear hb
  obtain ⟨q17, q18, q19, q20, q21, q22, q23, q24⟩ := Fb.cells8 (R1.out.box _ mq0)
  obtain ⟨q25, q26, q27, q28, q29, q30, q31, q32⟩ := Fb.cells8 (R1.out.box _ mq1)
  go_wp2_with fail
  clear q17 q18 q19 q20 q21 q22 q23 q24 q25 q26 q27 q28 q29 q30 q31 q32
  refine (fsame_b (R1.out.ints (.slice a2 n2 c2, l2) mq4) (R1.out.ints (.slice b2 m2 d2, k2) mq5) (R1.out.ints (.slice a4 n4 c4, l4) mq0) (R1.out.ints (.slice b4 m4 d4, k4) mq1) HV.out).mono ?_
  rintro e w2 ⟨rfl, hb⟩
  have R2 := Lib.hid (R1.out.later hb)
  clear hb
  go_wp2_with fail
  go_ret
  exact ⟨rfl, R2.out.below⟩

set_option maxHeartbeats 8000000 in
theorem p10has_k {w : World} {s1 : Int} {a1 b1 : Option Addr} {n1 c1 m1 d1 : Nat} {x : Rat} {s2 : Int} {a2 b2 : Option Addr} {n2 c2 m2 d2 : Nat} {y : Rat} {s3 : Int} {a3 b3 : Option Addr} {n3 c3 m3 d3 : Nat} {v : Rat} (h1 : Fr w s1 (.slice a1 n1 c1) (.slice b1 m1 d1) x) (z1 : FSz 1000 x) (h2 : Fr w s2 (.slice a2 n2 c2) (.slice b2 m2 d2) y) (z2 : FSz 1000 y) (h3 : Fr w s3 (.slice a3 n3 c3) (.slice b3 m3 d3) v) (z3 : FSz 1000 v) (hxy : x ≤ y) {r : Bool} (hr : (decide (x ≤ v) && decide (v ≤ y)) = r) :
  Calls Tryz.prog 19 #[.agg #[.int .i64 s1, .slice a1 n1 c1, .int .i64 1, .slice b1 m1 d1, .int .i64 s2, .slice a2 n2 c2, .int .i64 1, .slice b2 m2 d2], .agg #[.int .i64 s3, .slice a3 n3 c3, .int .i64 1, .slice b3 m3 d3]] w fun e w' => e = .returned (.bool r) ∧ RowKit.Below w.heap.size w w' := by
 have HXY := Lib.hid (decide_eq_true hxy)
 obtain ⟨k, hk⟩ : ∃ k, cmpR x v = k := ⟨_, rfl⟩
 obtain ⟨j, hj⟩ : ∃ j, cmpR v y = j := ⟨_, rfl⟩
 rw [← cmp_le, ← cmp_le, hk, hj] at hr
 have HK := Lib.hid hk
 have HJ := Lib.hid hj
 by_cases hk0 : k ≤ 0
 ·obtain rfl : decide (j ≤ 0) = r := by rw [← hr]; simp [hk0]
  have gk : decide (k ≤ 0) = true := decide_eq_true hk0
  have E1 := Lib.hid h1.1.1
  have Z1 := Lib.hid z1
  have E2 := Lib.hid h2.1.1
  have Z2 := Lib.hid z2
  have E3 := Lib.hid h3.1.1
  have Z3 := Lib.hid z3
  have s0 := (((((((((Sf.start w).arg h1.2.2).arg h1.1.2).arg h2.2.2).arg h2.1.2).arg h3.2.2).arg h3.1.2).put [.int .i64 s1, .slice a1 n1 c1, .int .i64 1, .slice b1 m1 d1, .int .i64 s2, .slice a2 n2 c2, .int .i64 1, .slice b2 m2 d2] 28).put [.int .i64 s3, .slice a3 n3 c3, .int .i64 1, .slice b3 m3 d3] 26)
  try simp only [World.size_alloc] at s0
  have S0 := Lib.hid s0
  clear s0
  clear hr hk hj hxy h1 h2 h3 z1 z2 z3
  go_enter Tryz.func19, Tryz.ntmps19
  obtain ⟨q1, q2, q3, q4, q5, q6, q7, q8⟩ := Fb.cells8 (S0.out.box _ mq1)
  go_wp2_with fail
  clear q1 q2 q3 q4 q5 q6 q7 q8
  refine (p10right_v (S0.out.fr mq4 mq5 E1.out) Z1.out (S0.out.fr mq2 mq3 E2.out) Z2.out HXY.out).mono ?_
  rintro e w1 ⟨rfl, hb⟩
  have R1 := Lib.hid (S0.out.later hb)
  clear hb
  obtain ⟨q9, q10, q11, q12⟩ := Fb.cells4 (R1.out.box _ mq0)
  go_wp2_with fail
  clear q9 q10 q11 q12
  refine (fright_k (R1.out.fr mq0 mq1 E3.out) Z3.out).mono ?_
  rintro e w2 ⟨rfl, hb⟩
  have R2 := Lib.hid (R1.out.later hb)
  clear hb
  obtain ⟨q13, q14, q15, q16⟩ := Fb.cells4 (R2.out.box _ mq0)
  obtain ⟨q17, q18, q19, q20, q21, q22, q23, q24⟩ := Fb.cells8 (R2.out.box _ mq1)
  go_wp2_with fail
  clear q13 q14 q15 q16 q17 q18 q19 q20 q21 q22 q23 q24
  refine (fcmp_r (R2.out.fr mq4 mq5 E1.out) (R2.out.fr mq0 mq1 E3.out) Z1.out Z3.out HK.out).mono ?_
  rintro e w3 ⟨rfl, hb⟩
  have R3 := Lib.hid (R2.out.later hb)
  clear hb
  obtain ⟨q25, q26, q27, q28⟩ := Fb.cells4 (R3.out.box _ mq0)
  obtain ⟨q29, q30, q31, q32, q33, q34, q35, q36⟩ := Fb.cells8 (R3.out.box _ mq1)
  go_wp2_with fail
  clear q25 q26 q27 q28 q29 q30 q31 q32 q33 q34 q35 q36
  refine (fcmp_r (R3.out.fr mq0 mq1 E3.out) (R3.out.fr mq2 mq3 E2.out) Z3.out Z2.out HJ.out).mono ?_
  rintro e w4 ⟨rfl, hb⟩
  have R4 := Lib.hid (R3.out.later hb)
  clear hb
  go_wp2_with fail
  go_ret
  exact ⟨rfl, R4.out.below⟩
 ·obtain rfl : false = r := by rw [← hr]; simp [hk0]
  have gk : decide (k ≤ 0) = false := decide_eq_false hk0
  have E1 := Lib.hid h1.1.1
  have Z1 := Lib.hid z1
  have E2 := Lib.hid h2.1.1
  have Z2 := Lib.hid z2
  have E3 := Lib.hid h3.1.1
  have Z3 := Lib.hid z3
  have s0 := (((((((((Sf.start w).arg h1.2.2).arg h1.1.2).arg h2.2.2).arg h2.1.2).arg h3.2.2).arg h3.1.2).put [.int .i64 s1, .slice a1 n1 c1, .int .i64 1, .slice b1 m1 d1, .int .i64 s2, .slice a2 n2 c2, .int .i64 1, .slice b2 m2 d2] 28).put [.int .i64 s3, .slice a3 n3 c3, .int .i64 1, .slice b3 m3 d3] 26)
  try simp only [World.size_alloc] at s0
  have S0 := Lib.hid s0
  clear s0
  clear hr hk hj hxy h1 h2 h3 z1 z2 z3
  go_enter Tryz.func19, Tryz.ntmps19
  obtain ⟨q1, q2, q3, q4, q5, q6, q7, q8⟩ := Fb.cells8 (S0.out.box _ mq1)
  go_wp2_with fail
  clear q1 q2 q3 q4 q5 q6 q7 q8
  refine (p10right_v (S0.out.fr mq4 mq5 E1.out) Z1.out (S0.out.fr mq2 mq3 E2.out) Z2.out HXY.out).mono ?_
  rintro e w1 ⟨rfl, hb⟩
  have R1 := Lib.hid (S0.out.later hb)
  clear hb
  obtain ⟨q9, q10, q11, q12⟩ := Fb.cells4 (R1.out.box _ mq0)
  go_wp2_with fail
  clear q9 q10 q11 q12
  refine (fright_k (R1.out.fr mq0 mq1 E3.out) Z3.out).mono ?_
  rintro e w2 ⟨rfl, hb⟩
  have R2 := Lib.hid (R1.out.later hb)
  clear hb
  obtain ⟨q13, q14, q15, q16⟩ := Fb.cells4 (R2.out.box _ mq0)
  obtain ⟨q17, q18, q19, q20, q21, q22, q23, q24⟩ := Fb.cells8 (R2.out.box _ mq1)
  go_wp2_with fail
  clear q13 q14 q15 q16 q17 q18 q19 q20 q21 q22 q23 q24
  refine (fcmp_r (R2.out.fr mq4 mq5 E1.out) (R2.out.fr mq0 mq1 E3.out) Z1.out Z3.out HK.out).mono ?_
  rintro e w3 ⟨rfl, hb⟩
  have R3 := Lib.hid (R2.out.later hb)
  clear hb
  go_wp2_with fail
  go_ret
  exact ⟨rfl, R3.out.below⟩

set_option maxHeartbeats 8000000 in
theorem p10has_bad {w : World} {s1 t1 : Int} {a1 b1 : Option Addr} {n1 c1 m1 d1 : Nat} {l1 k1 : List Int} {s2 t2 : Int} {a2 b2 : Option Addr} {n2 c2 m2 d2 : Nat} {l2 k2 : List Int} {s3 t3 : Int} {a3 b3 : Option Addr} {n3 c3 m3 d3 : Nat} {l3 k3 : List Int} (hl1 : Ints w (.slice a1 n1 c1) l1) (hk1 : Ints w (.slice b1 m1 d1) k1) (ll1 : l1.length ≤ 1000) (lk1 : k1.length ≤ 1000) (hl2 : Ints w (.slice a2 n2 c2) l2) (hk2 : Ints w (.slice b2 m2 d2) k2) (ll2 : l2.length ≤ 1000) (lk2 : k2.length ≤ 1000) (hl3 : Ints w (.slice a3 n3 c3) l3) (hk3 : Ints w (.slice b3 m3 d3) k3) (ll3 : l3.length ≤ 1000) (lk3 : k3.length ≤ 1000) (hr : (sR s1 l1 t1 k1 s2 l2 t2 k2 && fRightB s3 l3 t3 k3) = false) :
  Calls Tryz.prog 19 #[.agg #[.int .i64 s1, .slice a1 n1 c1, .int .i64 t1, .slice b1 m1 d1, .int .i64 s2, .slice a2 n2 c2, .int .i64 t2, .slice b2 m2 d2], .agg #[.int .i64 s3, .slice a3 n3 c3, .int .i64 t3, .slice b3 m3 d3]] w fun e w' => e = .returned (.bool false) ∧ RowKit.Below w.heap.size w w' := by
 rcases ea : sR s1 l1 t1 k1 s2 l2 t2 k2 with _ | _
 ·skip
  have LL1 := Lib.hid ll1
  have LK1 := Lib.hid lk1
  have LL2 := Lib.hid ll2
  have LK2 := Lib.hid lk2
  have LL3 := Lib.hid ll3
  have LK3 := Lib.hid lk3
  have EA := Lib.hid ea
  have s0 := (((((((((Sf.start w).arg hk1).arg hl1).arg hk2).arg hl2).arg hk3).arg hl3).put [.int .i64 s1, .slice a1 n1 c1, .int .i64 t1, .slice b1 m1 d1, .int .i64 s2, .slice a2 n2 c2, .int .i64 t2, .slice b2 m2 d2] 28).put [.int .i64 s3, .slice a3 n3 c3, .int .i64 t3, .slice b3 m3 d3] 26)
  try simp only [World.size_alloc] at s0
  have S0 := Lib.hid s0
  clear s0
  clear hr ea hl1 hk1 ll1 lk1 hl2 hk2 ll2 lk2 hl3 hk3 ll3 lk3
  go_enter Tryz.func19, Tryz.ntmps19
  obtain ⟨q1, q2, q3, q4, q5, q6, q7, q8⟩ := Fb.cells8 (S0.out.box _ mq1)
  go_wp2_with fail
  clear q1 q2 q3 q4 q5 q6 q7 q8
  refine (p10right_raw (S0.out.ints (.slice a1 n1 c1, l1) mq4) (S0.out.ints (.slice b1 m1 d1, k1) mq5) LL1.out LK1.out (S0.out.ints (.slice a2 n2 c2, l2) mq2) (S0.out.ints (.slice b2 m2 d2, k2) mq3) LL2.out LK2.out EA.out).mono ?_
  rintro e w1 ⟨rfl, hb⟩
  have R1 := Lib.hid (S0.out.later hb)
  clear hb
  go_wp2_with fail
  go_ret
  exact ⟨rfl, R1.out.below⟩
 ·have eb : fRightB s3 l3 t3 k3 = false := by rw [ea] at hr; simpa using hr
  have LL1 := Lib.hid ll1
  have LK1 := Lib.hid lk1
  have LL2 := Lib.hid ll2
  have LK2 := Lib.hid lk2
  have LL3 := Lib.hid ll3
  have LK3 := Lib.hid lk3
  have EA := Lib.hid ea
  have EB := Lib.hid eb
  have s0 := (((((((((Sf.start w).arg hk1).arg hl1).arg hk2).arg hl2).arg hk3).arg hl3).put [.int .i64 s1, .slice a1 n1 c1, .int .i64 t1, .slice b1 m1 d1, .int .i64 s2, .slice a2 n2 c2, .int .i64 t2, .slice b2 m2 d2] 28).put [.int .i64 s3, .slice a3 n3 c3, .int .i64 t3, .slice b3 m3 d3] 26)
  try simp only [World.size_alloc] at s0
  have S0 := Lib.hid s0
  clear s0
  clear hr ea hl1 hk1 ll1 lk1 hl2 hk2 ll2 lk2 hl3 hk3 ll3 lk3 eb
  go_enter Tryz.func19, Tryz.ntmps19
  obtain ⟨q1, q2, q3, q4, q5, q6, q7, q8⟩ := Fb.cells8 (S0.out.box _ mq1)
  go_wp2_with fail
  clear q1 q2 q3 q4 q5 q6 q7 q8
  refine (p10right_raw (S0.out.ints (.slice a1 n1 c1, l1) mq4) (S0.out.ints (.slice b1 m1 d1, k1) mq5) LL1.out LK1.out (S0.out.ints (.slice a2 n2 c2, l2) mq2) (S0.out.ints (.slice b2 m2 d2, k2) mq3) LL2.out LK2.out EA.out).mono ?_
  rintro e w1 ⟨rfl, hb⟩
  have R1 := Lib.hid (S0.out.later hb)
  clear hb
  obtain ⟨q9, q10, q11, q12⟩ := Fb.cells4 (R1.out.box _ mq0)
  go_wp2_with fail
  clear q9 q10 q11 q12
  refine (fright_any s3 a3 n3 c3 l3 t3 b3 m3 d3 k3 _ (R1.out.ints (.slice a3 n3 c3, l3) mq0) (R1.out.ints (.slice b3 m3 d3, k3) mq1) (Nat.le_trans LL3.out (by decide)) (Nat.le_trans LK3.out (by decide)) _ EB.out).mono ?_
  rintro e w2 ⟨rfl, hb⟩
  have R2 := Lib.hid (R1.out.later hb)
  clear hb
  go_wp2_with fail
  go_ret
  exact ⟨rfl, R2.out.below⟩

set_option maxHeartbeats 8000000 in
theorem p10inside_k {w : World} {s1 : Int} {a1 b1 : Option Addr} {n1 c1 m1 d1 : Nat} {x : Rat} {s2 : Int} {a2 b2 : Option Addr} {n2 c2 m2 d2 : Nat} {y : Rat} {s3 : Int} {a3 b3 : Option Addr} {n3 c3 m3 d3 : Nat} {p : Rat} {s4 : Int} {a4 b4 : Option Addr} {n4 c4 m4 d4 : Nat} {q : Rat} (h1 : Fr w s1 (.slice a1 n1 c1) (.slice b1 m1 d1) x) (z1 : FSz 1000 x) (h2 : Fr w s2 (.slice a2 n2 c2) (.slice b2 m2 d2) y) (z2 : FSz 1000 y) (h3 : Fr w s3 (.slice a3 n3 c3) (.slice b3 m3 d3) p) (z3 : FSz 1000 p) (h4 : Fr w s4 (.slice a4 n4 c4) (.slice b4 m4 d4) q) (z4 : FSz 1000 q) (hxy : x ≤ y) (hpq : p ≤ q) {r : Bool} (hr : (decide (p ≤ x) && decide (y ≤ q)) = r) :
  Calls Tryz.prog 21 #[.agg #[.int .i64 s1, .slice a1 n1 c1, .int .i64 1, .slice b1 m1 d1, .int .i64 s2, .slice a2 n2 c2, .int .i64 1, .slice b2 m2 d2], .agg #[.int .i64 s3, .slice a3 n3 c3, .int .i64 1, .slice b3 m3 d3, .int .i64 s4, .slice a4 n4 c4, .int .i64 1, .slice b4 m4 d4]] w fun e w' => e = .returned (.bool r) ∧ RowKit.Below w.heap.size w w' := by
 have HXY := Lib.hid (decide_eq_true hxy)
 have HPQ := Lib.hid (decide_eq_true hpq)
 obtain ⟨k, hk⟩ : ∃ k, cmpR p x = k := ⟨_, rfl⟩
 obtain ⟨j, hj⟩ : ∃ j, cmpR y q = j := ⟨_, rfl⟩
 rw [← cmp_le, ← cmp_le, hk, hj] at hr
 have HK := Lib.hid hk
 have HJ := Lib.hid hj
 by_cases hk0 : k ≤ 0
 ·obtain rfl : decide (j ≤ 0) = r := by rw [← hr]; simp [hk0]
  have gk : decide (k ≤ 0) = true := decide_eq_true hk0
  have E1 := Lib.hid h1.1.1
  have Z1 := Lib.hid z1
  have E2 := Lib.hid h2.1.1
  have Z2 := Lib.hid z2
  have E3 := Lib.hid h3.1.1
  have Z3 := Lib.hid z3
  have E4 := Lib.hid h4.1.1
  have Z4 := Lib.hid z4
  have s0 := (((((((((((Sf.start w).arg h1.2.2).arg h1.1.2).arg h2.2.2).arg h2.1.2).arg h3.2.2).arg h3.1.2).arg h4.2.2).arg h4.1.2).put [.int .i64 s1, .slice a1 n1 c1, .int .i64 1, .slice b1 m1 d1, .int .i64 s2, .slice a2 n2 c2, .int .i64 1, .slice b2 m2 d2] 28).put [.int .i64 s3, .slice a3 n3 c3, .int .i64 1, .slice b3 m3 d3, .int .i64 s4, .slice a4 n4 c4, .int .i64 1, .slice b4 m4 d4] 28)
  try simp only [World.size_alloc] at s0
  have S0 := Lib.hid s0
  clear s0
  clear hr hk hj hxy hpq hk0 h1 h2 h3 h4 z1 z2 z3 z4
  go_enter Tryz.func21, Tryz.ntmps21
  obtain ⟨q1, q2, q3, q4, q5, q6, q7, q8⟩ := Fb.cells8 (S0.out.box _ mq1)
  go_wp2_with fail
  clear q1 q2 q3 q4 q5 q6 q7 q8
  refine (p10right_v (S0.out.fr mq6 mq7 E1.out) Z1.out (S0.out.fr mq4 mq5 E2.out) Z2.out HXY.out).mono ?_
  rintro e w1 ⟨rfl, hb⟩
  have R1 := Lib.hid (S0.out.later hb)
  clear hb
  obtain ⟨q9, q10, q11, q12, q13, q14, q15, q16⟩ := Fb.cells8 (R1.out.box _ mq0)
  go_wp2_with fail
  clear q9 q10 q11 q12 q13 q14 q15 q16
  refine (p10right_v (R1.out.fr mq2 mq3 E3.out) Z3.out (R1.out.fr mq0 mq1 E4.out) Z4.out HPQ.out).mono ?_
  rintro e w2 ⟨rfl, hb⟩
  have R2 := Lib.hid (R1.out.later hb)
  clear hb
  obtain ⟨q17, q18, q19, q20, q21, q22, q23, q24⟩ := Fb.cells8 (R2.out.box _ mq0)
  obtain ⟨q25, q26, q27, q28, q29, q30, q31, q32⟩ := Fb.cells8 (R2.out.box _ mq1)
  go_wp2_with fail
  clear q17 q18 q19 q20 q21 q22 q23 q24 q25 q26 q27 q28 q29 q30 q31 q32
  refine (fcmp_r (R2.out.fr mq2 mq3 E3.out) (R2.out.fr mq6 mq7 E1.out) Z3.out Z1.out HK.out).mono ?_
  rintro e w3 ⟨rfl, hb⟩
  have R3 := Lib.hid (R2.out.later hb)
  clear hb
  obtain ⟨q33, q34, q35, q36, q37, q38, q39, q40⟩ := Fb.cells8 (R3.out.box _ mq0)
  obtain ⟨q41, q42, q43, q44, q45, q46, q47, q48⟩ := Fb.cells8 (R3.out.box _ mq1)
  go_wp2_with fail
  clear q33 q34 q35 q36 q37 q38 q39 q40 q41 q42 q43 q44 q45 q46 q47 q48
  refine (fcmp_r (R3.out.fr mq4 mq5 E2.out) (R3.out.fr mq0 mq1 E4.out) Z2.out Z4.out HJ.out).mono ?_
  rintro e w4 ⟨rfl, hb⟩
  have R4 := Lib.hid (R3.out.later hb)
  clear hb
  go_wp2_with fail
  go_ret
  exact ⟨rfl, R4.out.below⟩
 ·obtain rfl : false = r := by rw [← hr]; simp [hk0]
  have gk : decide (k ≤ 0) = false := decide_eq_false hk0
  have E1 := Lib.hid h1.1.1
  have Z1 := Lib.hid z1
  have E2 := Lib.hid h2.1.1
  have Z2 := Lib.hid z2
  have E3 := Lib.hid h3.1.1
  have Z3 := Lib.hid z3
  have E4 := Lib.hid h4.1.1
  have Z4 := Lib.hid z4
  have s0 := (((((((((((Sf.start w).arg h1.2.2).arg h1.1.2).arg h2.2.2).arg h2.1.2).arg h3.2.2).arg h3.1.2).arg h4.2.2).arg h4.1.2).put [.int .i64 s1, .slice a1 n1 c1, .int .i64 1, .slice b1 m1 d1, .int .i64 s2, .slice a2 n2 c2, .int .i64 1, .slice b2 m2 d2] 28).put [.int .i64 s3, .slice a3 n3 c3, .int .i64 1, .slice b3 m3 d3, .int .i64 s4, .slice a4 n4 c4, .int .i64 1, .slice b4 m4 d4] 28)
  try simp only [World.size_alloc] at s0
  have S0 := Lib.hid s0
  clear s0
  clear hr hk hj hxy hpq hk0 h1 h2 h3 h4 z1 z2 z3 z4
  go_enter Tryz.func21, Tryz.ntmps21
  obtain ⟨q1, q2, q3, q4, q5, q6, q7, q8⟩ := Fb.cells8 (S0.out.box _ mq1)
  go_wp2_with fail
  clear q1 q2 q3 q4 q5 q6 q7 q8
  refine (p10right_v (S0.out.fr mq6 mq7 E1.out) Z1.out (S0.out.fr mq4 mq5 E2.out) Z2.out HXY.out).mono ?_
  rintro e w1 ⟨rfl, hb⟩
  have R1 := Lib.hid (S0.out.later hb)
  clear hb
  obtain ⟨q9, q10, q11, q12, q13, q14, q15, q16⟩ := Fb.cells8 (R1.out.box _ mq0)
  go_wp2_with fail
  clear q9 q10 q11 q12 q13 q14 q15 q16
  refine (p10right_v (R1.out.fr mq2 mq3 E3.out) Z3.out (R1.out.fr mq0 mq1 E4.out) Z4.out HPQ.out).mono ?_
  rintro e w2 ⟨rfl, hb⟩
  have R2 := Lib.hid (R1.out.later hb)
  clear hb
  obtain ⟨q17, q18, q19, q20, q21, q22, q23, q24⟩ := Fb.cells8 (R2.out.box _ mq0)
  obtain ⟨q25, q26, q27, q28, q29, q30, q31, q32⟩ := Fb.cells8 (R2.out.box _ mq1)
  go_wp2_with fail
  clear q17 q18 q19 q20 q21 q22 q23 q24 q25 q26 q27 q28 q29 q30 q31 q32
  refine (fcmp_r (R2.out.fr mq2 mq3 E3.out) (R2.out.fr mq6 mq7 E1.out) Z3.out Z1.out HK.out).mono ?_
  rintro e w3 ⟨rfl, hb⟩
  have R3 := Lib.hid (R2.out.later hb)
  clear hb
  go_wp2_with fail
  go_ret
  exact ⟨rfl, R3.out.below⟩

set_option maxHeartbeats 8000000 in
theorem p10inside_bad {w : World} {s1 t1 : Int} {a1 b1 : Option Addr} {n1 c1 m1 d1 : Nat} {l1 k1 : List Int} {s2 t2 : Int} {a2 b2 : Option Addr} {n2 c2 m2 d2 : Nat} {l2 k2 : List Int} {s3 t3 : Int} {a3 b3 : Option Addr} {n3 c3 m3 d3 : Nat} {l3 k3 : List Int} {s4 t4 : Int} {a4 b4 : Option Addr} {n4 c4 m4 d4 : Nat} {l4 k4 : List Int} (hl1 : Ints w (.slice a1 n1 c1) l1) (hk1 : Ints w (.slice b1 m1 d1) k1) (ll1 : l1.length ≤ 1000) (lk1 : k1.length ≤ 1000) (hl2 : Ints w (.slice a2 n2 c2) l2) (hk2 : Ints w (.slice b2 m2 d2) k2) (ll2 : l2.length ≤ 1000) (lk2 : k2.length ≤ 1000) (hl3 : Ints w (.slice a3 n3 c3) l3) (hk3 : Ints w (.slice b3 m3 d3) k3) (ll3 : l3.length ≤ 1000) (lk3 : k3.length ≤ 1000) (hl4 : Ints w (.slice a4 n4 c4) l4) (hk4 : Ints w (.slice b4 m4 d4) k4) (ll4 : l4.length ≤ 1000) (lk4 : k4.length ≤ 1000) (hr : (sR s1 l1 t1 k1 s2 l2 t2 k2 && sR s3 l3 t3 k3 s4 l4 t4 k4) = false) :
  Calls Tryz.prog 21 #[.agg #[.int .i64 s1, .slice a1 n1 c1, .int .i64 t1, .slice b1 m1 d1, .int .i64 s2, .slice a2 n2 c2, .int .i64 t2, .slice b2 m2 d2], .agg #[.int .i64 s3, .slice a3 n3 c3, .int .i64 t3, .slice b3 m3 d3, .int .i64 s4, .slice a4 n4 c4, .int .i64 t4, .slice b4 m4 d4]] w fun e w' => e = .returned (.bool false) ∧ RowKit.Below w.heap.size w w' := by
 rcases ea : sR s1 l1 t1 k1 s2 l2 t2 k2 with _ | _
 ·skip
  have LL1 := Lib.hid ll1
  have LK1 := Lib.hid lk1
  have LL2 := Lib.hid ll2
  have LK2 := Lib.hid lk2
  have LL3 := Lib.hid ll3
  have LK3 := Lib.hid lk3
  have LL4 := Lib.hid ll4
  have LK4 := Lib.hid lk4
  have EA := Lib.hid ea
  have s0 := (((((((((((Sf.start w).arg hk1).arg hl1).arg hk2).arg hl2).arg hk3).arg hl3).arg hk4).arg hl4).put [.int .i64 s1, .slice a1 n1 c1, .int .i64 t1, .slice b1 m1 d1, .int .i64 s2, .slice a2 n2 c2, .int .i64 t2, .slice b2 m2 d2] 28).put [.int .i64 s3, .slice a3 n3 c3, .int .i64 t3, .slice b3 m3 d3, .int .i64 s4, .slice a4 n4 c4, .int .i64 t4, .slice b4 m4 d4] 28)
  try simp only [World.size_alloc] at s0
  have S0 := Lib.hid s0
  clear s0
  clear hr ea hl1 hk1 ll1 lk1 hl2 hk2 ll2 lk2 hl3 hk3 ll3 lk3 hl4 hk4 ll4 lk4
  go_enter Tryz.func21, Tryz.ntmps21
  obtain ⟨q1, q2, q3, q4, q5, q6, q7, q8⟩ := Fb.cells8 (S0.out.box _ mq1)
  go_wp2_with fail
  clear q1 q2 q3 q4 q5 q6 q7 q8
  refine (p10right_raw (S0.out.ints (.slice a1 n1 c1, l1) mq6) (S0.out.ints (.slice b1 m1 d1, k1) mq7) LL1.out LK1.out (S0.out.ints (.slice a2 n2 c2, l2) mq4) (S0.out.ints (.slice b2 m2 d2, k2) mq5) LL2.out LK2.out EA.out).mono ?_
  rintro e w1 ⟨rfl, hb⟩
  have R1 := Lib.hid (S0.out.later hb)
  clear hb
  go_wp2_with fail
  go_ret
  exact ⟨rfl, R1.out.below⟩
 ·have eb : sR s3 l3 t3 k3 s4 l4 t4 k4 = false := by rw [ea] at hr; simpa using hr
  have LL1 := Lib.hid ll1
  have LK1 := Lib.hid lk1
  have LL2 := Lib.hid ll2
  have LK2 := Lib.hid lk2
  have LL3 := Lib.hid ll3
  have LK3 := Lib.hid lk3
  have LL4 := Lib.hid ll4
  have LK4 := Lib.hid lk4
  have EA := Lib.hid ea
  have EB := Lib.hid eb
  have s0 := (((((((((((Sf.start w).arg hk1).arg hl1).arg hk2).arg hl2).arg hk3).arg hl3).arg hk4).arg hl4).put [.int .i64 s1, .slice a1 n1 c1, .int .i64 t1, .slice b1 m1 d1, .int .i64 s2, .slice a2 n2 c2, .int .i64 t2, .slice b2 m2 d2] 28).put [.int .i64 s3, .slice a3 n3 c3, .int .i64 t3, .slice b3 m3 d3, .int .i64 s4, .slice a4 n4 c4, .int .i64 t4, .slice b4 m4 d4] 28)
  try simp only [World.size_alloc] at s0
  have S0 := Lib.hid s0
  clear s0
  clear hr ea hl1 hk1 ll1 lk1 hl2 hk2 ll2 lk2 hl3 hk3 ll3 lk3 hl4 hk4 ll4 lk4 eb
  go_enter Tryz.func21, Tryz.ntmps21
  obtain ⟨q1, q2, q3, q4, q5, q6, q7, q8⟩ := Fb.cells8 (S0.out.box _ mq1)
  go_wp2_with fail
  clear q1 q2 q3 q4 q5 q6 q7 q8
  refine (p10right_raw (S0.out.ints (.slice a1 n1 c1, l1) mq6) (S0.out.ints (.slice b1 m1 d1, k1) mq7) LL1.out LK1.out (S0.out.ints (.slice a2 n2 c2, l2) mq4) (S0.out.ints (.slice b2 m2 d2, k2) mq5) LL2.out LK2.out EA.out).mono ?_
  rintro e w1 ⟨rfl, hb⟩
  have R1 := Lib.hid (S0.out.later hb)
  clear hb
  obtain ⟨q9, q10, q11, q12, q13, q14, q15, q16⟩ := Fb.cells8 (R1.out.box _ mq0)
  go_wp2_with fail
  clear q9 q10 q11 q12 q13 q14 q15 q16
  refine (p10right_raw (R1.out.ints (.slice a3 n3 c3, l3) mq2) (R1.out.ints (.slice b3 m3 d3, k3) mq3) LL3.out LK3.out (R1.out.ints (.slice a4 n4 c4, l4) mq0) (R1.out.ints (.slice b4 m4 d4, k4) mq1) LL4.out LK4.out EB.out).mono ?_
  rintro e w2 ⟨rfl, hb⟩
  have R2 := Lib.hid (R1.out.later hb)
  clear hb
  go_wp2_with fail
  go_ret
  exact ⟨rfl, R2.out.below⟩

set_option maxHeartbeats 8000000 in
theorem p10width_k {w : World} {s1 : Int} {a1 b1 : Option Addr} {n1 c1 m1 d1 : Nat} {x : Rat} {s2 : Int} {a2 b2 : Option Addr} {n2 c2 m2 d2 : Nat} {y : Rat} (h1 : Fr w s1 (.slice a1 n1 c1) (.slice b1 m1 d1) x) (z1 : FSz 1000 x) (h2 : Fr w s2 (.slice a2 n2 c2) (.slice b2 m2 d2) y) (z2 : FSz 1000 y) (hxy : x ≤ y) :
  Calls Tryz.prog 24 #[.agg #[.int .i64 s1, .slice a1 n1 c1, .int .i64 1, .slice b1 m1 d1, .int .i64 s2, .slice a2 n2 c2, .int .i64 1, .slice b2 m2 d2]] w (FV (y - x) w) := by
 have HXY := Lib.hid (decide_eq_true hxy)
 have E1 := Lib.hid h1.1.1
 have Z1 := Lib.hid z1
 have E2 := Lib.hid h2.1.1
 have Z2 := Lib.hid z2
 have s0 := (((((((Sf.start w).arg h1.2.2).arg h1.1.2).arg h2.2.2).arg h2.1.2).put [.int .i64 s1, .slice a1 n1 c1, .int .i64 1, .slice b1 m1 d1, .int .i64 s2, .slice a2 n2 c2, .int .i64 1, .slice b2 m2 d2] 28).put [.int .i64 0, .slice none 0 0, .int .i64 0, .slice none 0 0] 26)
 try simp only [World.size_alloc] at s0
 have S0 := Lib.hid s0
 clear s0
 clear hxy h1 h2 z1 z2
 go_enter Tryz.func24, Tryz.ntmps24
 obtain ⟨q1, q2, q3, q4, q5, q6, q7, q8⟩ := Fb.cells8 (S0.out.box _ mq1)
 go_wp2_with fail
 clear q1 q2 q3 q4 q5 q6 q7 q8
 refine (p10right_v (S0.out.fr mq2 mq3 E1.out) Z1.out (S0.out.fr mq0 mq1 E2.out) Z2.out HXY.out).mono ?_
 rintro e w1 ⟨rfl, hb⟩
 have R1 := Lib.hid (S0.out.later hb)
 clear hb
 obtain ⟨q9, q10, q11, q12, q13, q14, q15, q16⟩ := Fb.cells8 (R1.out.box _ mq1)
 go_wp2_with fail
 clear q9 q10 q11 q12 q13 q14 q15 q16
 refine (fsub_k (R1.out.fr mq0 mq1 E2.out) (R1.out.fr mq2 mq3 E1.out) Z2.out Z1.out).mono ?_
 rintro e w2 ⟨sx2, ax2, nx2, cx2, bx2, mx2, dx2, rfl, hr, hb, hf, hg⟩
 have E2 := Lib.hid hr.1.1
 have R2 := Lib.hid (R1.out.ret2 hb hr.1.2 hf hr.2.2 hg)
 have FF2 := Lib.hid (hf.mono R1.out.below.size)
 have FG2 := Lib.hid (hg.mono R1.out.below.size)
 clear hr hb hf hg
 have P17 := Lib.hid (R2.out.put [.int .i64 0, .slice none 0 0, .int .i64 0, .slice none 0 0] 26)
 have Q17 := Lib.hid (Sf.row (pre := []) P17.out [.int .i64 sx2, .slice ax2 nx2 cx2, .int .i64 1, .slice bx2 mx2 dx2])
 obtain ⟨q18, q19, q20, q21⟩ := Fb.cells4 (Q17.out.box _ mq0)
 have Q22 := Lib.hid (Sf.row (pre := [(w2.heap.size, 26, [.int .i64 sx2, .slice ax2 nx2 cx2, .int .i64 1, .slice bx2 mx2 dx2])]) Q17.out [.int .i64 sx2, .slice ax2 nx2 cx2, .int .i64 1, .slice bx2 mx2 dx2])
 go_wp2_with (first | refine wpList_store_row rfl _ _ _ rfl _ #[.int .i64 sx2, .slice ax2 nx2 cx2, .int .i64 1, .slice bx2 mx2 dx2] rfl rfl _ _ (P17.out.box _ List.mem_cons_self) (by kernel_rfl) rfl (by simp [Value.oneCell']) ?_ | refine wpList_store_row rfl _ _ _ rfl _ #[.int .i64 sx2, .slice ax2 nx2 cx2, .int .i64 1, .slice bx2 mx2 dx2] rfl rfl _ _ (Q17.out.box _ mq1) (by kernel_rfl) rfl (by simp [Value.oneCell']) ?_)
 clear q18 q19 q20 q21
 refine bodyPost_ret (results_cell_row rfl _ _ _ _ _ (0, 0) _ rfl (Q22.out.box _ mq1) Tryz.underlying26 rfl (by kernel_rfl)) rfl ⟨_, _, _, _, _, _, _, rfl, (Q22.out.fr mq0 mq1 E2.out), Q22.out.below, FF2.out, FG2.out⟩

set_option maxHeartbeats 8000000 in
theorem p10width_bad {w : World} {s1 t1 : Int} {a1 b1 : Option Addr} {n1 c1 m1 d1 : Nat} {l1 k1 : List Int} {s2 t2 : Int} {a2 b2 : Option Addr} {n2 c2 m2 d2 : Nat} {l2 k2 : List Int} (hl1 : Ints w (.slice a1 n1 c1) l1) (hk1 : Ints w (.slice b1 m1 d1) k1) (ll1 : l1.length ≤ 1000) (lk1 : k1.length ≤ 1000) (hl2 : Ints w (.slice a2 n2 c2) l2) (hk2 : Ints w (.slice b2 m2 d2) k2) (ll2 : l2.length ≤ 1000) (lk2 : k2.length ≤ 1000) (hr : sR s1 l1 t1 k1 s2 l2 t2 k2 = false) :
  Calls Tryz.prog 24 #[.agg #[.int .i64 s1, .slice a1 n1 c1, .int .i64 t1, .slice b1 m1 d1, .int .i64 s2, .slice a2 n2 c2, .int .i64 t2, .slice b2 m2 d2]] w fun e w' => e = .returned (.agg #[.int .i64 0, .slice none 0 0, .int .i64 0, .slice none 0 0]) ∧ RowKit.Below w.heap.size w w' := by
 have LL1 := Lib.hid ll1
 have LK1 := Lib.hid lk1
 have LL2 := Lib.hid ll2
 have LK2 := Lib.hid lk2
 have EA := Lib.hid hr
 have s0 := (((((((Sf.start w).arg hk1).arg hl1).arg hk2).arg hl2).put [.int .i64 s1, .slice a1 n1 c1, .int .i64 t1, .slice b1 m1 d1, .int .i64 s2, .slice a2 n2 c2, .int .i64 t2, .slice b2 m2 d2] 28).put [.int .i64 0, .slice none 0 0, .int .i64 0, .slice none 0 0] 26)
 try simp only [World.size_alloc] at s0
 have S0 := Lib.hid s0
 clear s0
 clear hr hl1 hk1 ll1 lk1 hl2 hk2 ll2 lk2
 go_enter Tryz.func24, Tryz.ntmps24
 obtain ⟨q1, q2, q3, q4, q5, q6, q7, q8⟩ := Fb.cells8 (S0.out.box _ mq1)
 go_wp2_with fail
 clear q1 q2 q3 q4 q5 q6 q7 q8
 refine (p10right_raw (S0.out.ints (.slice a1 n1 c1, l1) mq2) (S0.out.ints (.slice b1 m1 d1, k1) mq3) LL1.out LK1.out (S0.out.ints (.slice a2 n2 c2, l2) mq0) (S0.out.ints (.slice b2 m2 d2, k2) mq1) LL2.out LK2.out EA.out).mono ?_
 rintro e w1 ⟨rfl, hb⟩
 have R1 := Lib.hid (S0.out.later hb)
 clear hb
 have Q9 := Lib.hid (Sf.row (pre := []) R1.out [.int .i64 0, .slice none 0 0, .int .i64 0, .slice none 0 0])
 go_wp2_with (first | refine wpList_store_row rfl _ _ _ rfl _ #[.int .i64 0, .slice none 0 0, .int .i64 0, .slice none 0 0] rfl rfl _ _ (R1.out.box _ mq0) (by kernel_rfl) rfl (by simp [Value.oneCell']) ?_)
 refine bodyPost_ret (results_cell_row rfl _ _ _ _ _ (0, 0) _ rfl (Q9.out.box _ mq0) Tryz.underlying26 rfl (by kernel_rfl)) rfl ⟨rfl, Q9.out.below⟩
end Go.Proofs.YtgncnkojpedmdaaGreat.Sp

namespace Go.Proofs.YtgncnkojpedmdaaGreat.Sp
open Go.RowKit Bi
/-- The span r is returned; its slices lie in no block that was there; sh: what is returned, of its cells. -/
def SpP (sh : Value → Value) (r : Rat × Rat) (w : World) (e : Ending) (w' : World) : Prop :=
 ∃ c d : FCell, e = .returned (sh (.agg #[.int .i64 c.s, .slice c.a c.n c.c, .int .i64 1, .slice c.b c.m c.d, .int .i64 d.s, .slice d.a d.n d.c, .int .i64 1, .slice d.b d.m d.d])) ∧ Fo w' c r.1 ∧ Fo w' d r.2 ∧ RowKit.Below w.heap.size w w' ∧ ∀ g, g < w.heap.size → FOff c g ∧ FOff d g

set_option maxHeartbeats 8000000 in
theorem p10clone {w : World} {s1 : Int} {a1 b1 : Option Addr} {n1 c1 m1 d1 : Nat} {x : Rat} (h1 : Fr w s1 (.slice a1 n1 c1) (.slice b1 m1 d1) x) (z1 : FSz 1000 x) :
  Calls Tryz.prog 50 #[.agg #[.int .i64 s1, .slice a1 n1 c1, .int .i64 1, .slice b1 m1 d1]] w (FV x w) := by
 have LX0 : Hid ((digs x.num.natAbs).length ≤ 100000000) := Nat.le_trans (Sz.len z1.1) (by omega)
 have LX1 : Hid ((digs ((x.den : Int)).natAbs).length ≤ 100000000) := Nat.le_trans (Sz.len z1.2) (by omega)
 have E1 := Lib.hid h1.1.1
 have Z1 := Lib.hid z1
 have s0 := (((((Sf.start w).arg h1.2.2).arg h1.1.2).put [.int .i64 s1, .slice a1 n1 c1, .int .i64 1, .slice b1 m1 d1] 26).put [.int .i64 0, .slice none 0 0, .int .i64 0, .slice none 0 0] 26)
 try simp only [World.size_alloc] at s0
 have S0 := Lib.hid s0
 clear s0
 clear h1 z1
 go_enter Tryz.func50, Tryz.ntmps50
 go_wp2_with fail
 have K0 : ∀ W F cs, Sf w [(w.heap.size + 1, 26, cs), (w.heap.size, 26, [.int .i64 s1, .slice a1 n1 c1, .int .i64 1, .slice b1 m1 d1])] F W → W.cell? ⟨w.heap.size, 0, none⟩ = some (.int .i64 s1) ∧ W.cell? ⟨w.heap.size, 1, none⟩ = some (.slice a1 n1 c1) ∧ W.cell? ⟨w.heap.size, 2, none⟩ = some (.int .i64 1) ∧ W.cell? ⟨w.heap.size, 3, none⟩ = some (.slice b1 m1 d1) := fun W F cs h => ⟨(h.box _ mq1).cell 0, (h.box _ mq1).cell 1, (h.box _ mq1).cell 2, (h.box _ mq1).cell 3⟩
 have KK := Lib.hid K0
 clear K0
 have N0 := Lib.hid S0.out.drew
 clear S0
 have e0 := KK.out _ _ _ N0.out
 have C1 := Lib.hid (clone_r _ _ _ (N0.out.ints (.slice a1 n1 c1, digs (x).num.natAbs) mq0) LX0.out)
 go_region_held3 (fun W => W.cell? ⟨w.heap.size, 0, none⟩ = some (.int .i64 s1) ∧ W.cell? ⟨w.heap.size, 1, none⟩ = some (.slice a1 n1 c1) ∧ W.cell? ⟨w.heap.size, 2, none⟩ = some (.int .i64 1) ∧ W.cell? ⟨w.heap.size, 3, none⟩ = some (.slice b1 m1 d1))
  (first | (with_reducible exact e0) | (with_reducible exact e1) | (with_reducible exact e2) | (with_reducible exact e3) | go_keep)
  (first
    | (have hG := N1; clear hG; go_at_call 76; (with_reducible refine (C2.out).mono ?_); rintro e y2 ⟨p2, k2, j2, rfl, hi, hb, hf⟩; have FB1 := Lib.hid (hf.mono N1.out.below.size); have N2 := Lib.hid (N1.out.ret hb hi hf); clear hi hb hf; have e2 := KK.out _ _ _ N2.out; obtain ⟨t0, t1, t2, t3⟩ := Fb.cells4 (N2.out.box _ mq0); have u0 := (N2.out.box _ mq0).free 0; have u1 := (N2.out.box _ mq0).free 1; have u2 := (N2.out.box _ mq0).free 2; have u3 := (N2.out.box _ mq0).free 3; have N3 := Lib.hid (Sf.set4 (pre := []) N2.out (.int .i64 s1) (.slice p1 k1 j1) (.int .i64 1) (.slice p2 k2 j2)); have e3 := KK.out _ _ _ N3.out)
    | (have hG := N0; clear hG; go_at_call 76; (with_reducible refine (C1.out).mono ?_); rintro e y1 ⟨p1, k1, j1, rfl, hi, hb, hf⟩; have FA1 := Lib.hid (hf.mono N0.out.below.size); have N1 := Lib.hid (N0.out.ret hb hi hf); clear hi hb hf; have e1 := KK.out _ _ _ N1.out; have C2 := Lib.hid (clone_r _ _ _ (N1.out.ints (.slice b1 m1 d1, digs (((x).den : Int)).natAbs) mq2) LX1.out)))
 all_goals (go_wp2_with fail; refine bodyPost_ret (results_cell_row rfl _ _ _ _ _ (0, 0) _ rfl (N3.out.box _ mq0) Tryz.underlying26 rfl (by kernel_rfl)) rfl ⟨_, _, _, _, _, _, _, rfl, (N3.out.fr mq1 mq0 E1.out), N3.out.below, FA1.out, FB1.out⟩)

set_option maxHeartbeats 8000000 in
theorem p10point {w : World} {s1 : Int} {a1 b1 : Option Addr} {n1 c1 m1 d1 : Nat} {x : Rat} (h1 : Fr w s1 (.slice a1 n1 c1) (.slice b1 m1 d1) x) (z1 : FSz 1000 x) {r : Rat × Rat} (hr : (x, x) = r) :
  Calls Tryz.prog 17 #[.agg #[.int .i64 s1, .slice a1 n1 c1, .int .i64 1, .slice b1 m1 d1]] w (SpP (fun v => v) r w) := by
 subst hr
 have E1 := Lib.hid h1.1.1
 have Z1 := Lib.hid z1
 have s0 := (((((Sf.start w).arg h1.2.2).arg h1.1.2).put [.int .i64 s1, .slice a1 n1 c1, .int .i64 1, .slice b1 m1 d1] 26).put [.int .i64 0, .slice none 0 0, .int .i64 0, .slice none 0 0, .int .i64 0, .slice none 0 0, .int .i64 0, .slice none 0 0] 28)
 try simp only [World.size_alloc] at s0
 have S0 := Lib.hid s0
 clear s0
 clear h1 z1
 go_enter Tryz.func17, Tryz.ntmps17
 obtain ⟨q1, q2, q3, q4⟩ := Fb.cells4 (S0.out.box _ mq1)
 go_wp2_with fail
 clear q1 q2 q3 q4
 refine (fright_k (S0.out.fr mq0 mq1 E1.out) Z1.out).mono ?_
 rintro e w1 ⟨rfl, hb⟩
 have R1 := Lib.hid (S0.out.later hb)
 clear hb
 go_wp2_with fail
 have K0 : ∀ W F cs, Sf w [(w.heap.size + 1, 28, cs), (w.heap.size, 26, [.int .i64 s1, .slice a1 n1 c1, .int .i64 1, .slice b1 m1 d1])] F W → W.cell? ⟨w.heap.size, 0, none⟩ = some (.int .i64 s1) ∧ W.cell? ⟨w.heap.size, 1, none⟩ = some (.slice a1 n1 c1) ∧ W.cell? ⟨w.heap.size, 2, none⟩ = some (.int .i64 1) ∧ W.cell? ⟨w.heap.size, 3, none⟩ = some (.slice b1 m1 d1) := fun W F cs h => ⟨(h.box _ mq1).cell 0, (h.box _ mq1).cell 1, (h.box _ mq1).cell 2, (h.box _ mq1).cell 3⟩
 have KK := Lib.hid K0
 clear K0
 have N0 := Lib.hid R1.out.drew
 clear R1
 have e0 := KK.out _ _ _ N0.out
 have C1 := Lib.hid (p10clone (N0.out.fr mq0 mq1 E1.out) Z1.out)
 go_region_held3 (fun W => W.cell? ⟨w.heap.size, 0, none⟩ = some (.int .i64 s1) ∧ W.cell? ⟨w.heap.size, 1, none⟩ = some (.slice a1 n1 c1) ∧ W.cell? ⟨w.heap.size, 2, none⟩ = some (.int .i64 1) ∧ W.cell? ⟨w.heap.size, 3, none⟩ = some (.slice b1 m1 d1))
  (first | (with_reducible exact e0) | (with_reducible exact e1) | (with_reducible exact e2) | (with_reducible exact e3) | go_keep)
  (first
    | (have hG := N1; clear hG; go_at_call 50; (with_reducible refine (C2.out).mono ?_); rintro e y2 ⟨sy2, ay2, ny2, cy2, by2, my2, dy2, rfl, hr, hb, hf, hg⟩; have NB := Lib.hid hr.1.1; have FB1 := Lib.hid (hf.mono N1.out.below.size); have FB2 := Lib.hid (hg.mono N1.out.below.size); have N2 := Lib.hid (N1.out.ret2 hb hr.1.2 hf hr.2.2 hg); clear hr hb hf hg; have e2 := KK.out _ _ _ N2.out; obtain ⟨t0, t1, t2, t3, t4, t5, t6, t7⟩ := Fb.cells8 (N2.out.box _ mq0); have u0 := (N2.out.box _ mq0).free 0; have u1 := (N2.out.box _ mq0).free 1; have u2 := (N2.out.box _ mq0).free 2; have u3 := (N2.out.box _ mq0).free 3; have u4 := (N2.out.box _ mq0).free 4; have u5 := (N2.out.box _ mq0).free 5; have u6 := (N2.out.box _ mq0).free 6; have u7 := (N2.out.box _ mq0).free 7; have N3 := Lib.hid (Sf.set8 (pre := []) N2.out (.int .i64 sy1) (.slice ay1 ny1 cy1) (.int .i64 1) (.slice by1 my1 dy1) (.int .i64 sy2) (.slice ay2 ny2 cy2) (.int .i64 1) (.slice by2 my2 dy2)); have e3 := KK.out _ _ _ N3.out)
    | (have hG := N0; clear hG; go_at_call 50; (with_reducible refine (C1.out).mono ?_); rintro e y1 ⟨sy1, ay1, ny1, cy1, by1, my1, dy1, rfl, hr, hb, hf, hg⟩; have NA := Lib.hid hr.1.1; have FA1 := Lib.hid (hf.mono N0.out.below.size); have FA2 := Lib.hid (hg.mono N0.out.below.size); have N1 := Lib.hid (N0.out.ret2 hb hr.1.2 hf hr.2.2 hg); clear hr hb hf hg; have e1 := KK.out _ _ _ N1.out; have C2 := Lib.hid (p10clone (N1.out.fr mq2 mq3 E1.out) Z1.out)))
 all_goals (go_wp2_with fail; refine bodyPost_ret (results_cell_row rfl _ _ _ _ _ (0, 0) _ rfl (N3.out.box _ mq0) Tryz.underlying28 rfl (by kernel_rfl)) rfl ⟨⟨sy1, ay1, ny1, cy1, by1, my1, dy1⟩, ⟨sy2, ay2, ny2, cy2, by2, my2, dy2⟩, rfl, (N3.out.fr mq2 mq3 NA.out), (N3.out.fr mq0 mq1 NB.out), N3.out.below, fun g hg => ⟨⟨FA1.out g hg, FA2.out g hg⟩, ⟨FB1.out g hg, FB2.out g hg⟩⟩⟩)

set_option maxHeartbeats 8000000 in
theorem p10point_bad {w : World} {s1 t1 : Int} {a1 b1 : Option Addr} {n1 c1 m1 d1 : Nat} {l1 k1 : List Int} (hl1 : Ints w (.slice a1 n1 c1) l1) (hk1 : Ints w (.slice b1 m1 d1) k1) (ll1 : l1.length ≤ 1000) (lk1 : k1.length ≤ 1000) (hr : fRightB s1 l1 t1 k1 = false) :
  Calls Tryz.prog 17 #[.agg #[.int .i64 s1, .slice a1 n1 c1, .int .i64 t1, .slice b1 m1 d1]] w fun e w' => e = .returned (.agg #[.int .i64 0, .slice none 0 0, .int .i64 0, .slice none 0 0, .int .i64 0, .slice none 0 0, .int .i64 0, .slice none 0 0]) ∧ RowKit.Below w.heap.size w w' := by
 have LL1 := Lib.hid ll1
 have LK1 := Lib.hid lk1
 have EA := Lib.hid hr
 have s0 := (((((Sf.start w).arg hk1).arg hl1).put [.int .i64 s1, .slice a1 n1 c1, .int .i64 t1, .slice b1 m1 d1] 26).put [.int .i64 0, .slice none 0 0, .int .i64 0, .slice none 0 0, .int .i64 0, .slice none 0 0, .int .i64 0, .slice none 0 0] 28)
 try simp only [World.size_alloc] at s0
 have S0 := Lib.hid s0
 clear s0
 clear hr hl1 hk1 ll1 lk1
 go_enter Tryz.func17, Tryz.ntmps17
 obtain ⟨q1, q2, q3, q4⟩ := Fb.cells4 (S0.out.box _ mq1)
 go_wp2_with fail
 clear q1 q2 q3 q4
 refine (fright_any s1 a1 n1 c1 l1 t1 b1 m1 d1 k1 _ (S0.out.ints (.slice a1 n1 c1, l1) mq0) (S0.out.ints (.slice b1 m1 d1, k1) mq1) (Nat.le_trans LL1.out (by decide)) (Nat.le_trans LK1.out (by decide)) _ EA.out).mono ?_
 rintro e w1 ⟨rfl, hb⟩
 have R1 := Lib.hid (S0.out.later hb)
 clear hb
 have Q5 := Lib.hid (Sf.row (pre := []) R1.out [.int .i64 0, .slice none 0 0, .int .i64 0, .slice none 0 0, .int .i64 0, .slice none 0 0, .int .i64 0, .slice none 0 0])
 go_wp2_with (first | refine wpList_store_row rfl _ _ _ rfl _ #[.int .i64 0, .slice none 0 0, .int .i64 0, .slice none 0 0, .int .i64 0, .slice none 0 0, .int .i64 0, .slice none 0 0] rfl rfl _ _ (R1.out.box _ mq0) (by kernel_rfl) rfl (by simp [Value.oneCell']) ?_)
 refine bodyPost_ret (results_cell_row rfl _ _ _ _ _ (0, 0) _ rfl (Q5.out.box _ mq0) Tryz.underlying28 rfl (by kernel_rfl)) rfl ⟨rfl, Q5.out.below⟩

set_option maxHeartbeats 8000000 in
theorem p10neg {w : World} {s1 : Int} {a1 b1 : Option Addr} {n1 c1 m1 d1 : Nat} {x : Rat} {s2 : Int} {a2 b2 : Option Addr} {n2 c2 m2 d2 : Nat} {y : Rat} (h1 : Fr w s1 (.slice a1 n1 c1) (.slice b1 m1 d1) x) (z1 : FSz 1000 x) (h2 : Fr w s2 (.slice a2 n2 c2) (.slice b2 m2 d2) y) (z2 : FSz 1000 y) (hxy : x ≤ y) {r : Rat × Rat} (hr : negS (x, y) = r) :
  Calls Tryz.prog 26 #[.agg #[.int .i64 s1, .slice a1 n1 c1, .int .i64 1, .slice b1 m1 d1, .int .i64 s2, .slice a2 n2 c2, .int .i64 1, .slice b2 m2 d2]] w (SpP (fun v => v) r w) := by
 subst hr
 have HXY := Lib.hid (decide_eq_true hxy)
 have E1 := Lib.hid h1.1.1
 have Z1 := Lib.hid z1
 have E2 := Lib.hid h2.1.1
 have Z2 := Lib.hid z2
 have s0 := (((((((Sf.start w).arg h1.2.2).arg h1.1.2).arg h2.2.2).arg h2.1.2).put [.int .i64 s1, .slice a1 n1 c1, .int .i64 1, .slice b1 m1 d1, .int .i64 s2, .slice a2 n2 c2, .int .i64 1, .slice b2 m2 d2] 28).put [.int .i64 0, .slice none 0 0, .int .i64 0, .slice none 0 0, .int .i64 0, .slice none 0 0, .int .i64 0, .slice none 0 0] 28)
 try simp only [World.size_alloc] at s0
 have S0 := Lib.hid s0
 clear s0
 clear hxy h1 h2 z1 z2
 go_enter Tryz.func26, Tryz.ntmps26
 obtain ⟨q1, q2, q3, q4, q5, q6, q7, q8⟩ := Fb.cells8 (S0.out.box _ mq1)
 go_wp2_with fail
 clear q1 q2 q3 q4 q5 q6 q7 q8
 refine (p10right_v (S0.out.fr mq2 mq3 E1.out) Z1.out (S0.out.fr mq0 mq1 E2.out) Z2.out HXY.out).mono ?_
 rintro e w1 ⟨rfl, hb⟩
 have R1 := Lib.hid (S0.out.later hb)
 clear hb
 go_wp2_with fail
 have K0 : ∀ W F cs, Sf w [(w.heap.size + 1, 28, cs), (w.heap.size, 28, [.int .i64 s1, .slice a1 n1 c1, .int .i64 1, .slice b1 m1 d1, .int .i64 s2, .slice a2 n2 c2, .int .i64 1, .slice b2 m2 d2])] F W → W.cell? ⟨w.heap.size, 0, none⟩ = some (.int .i64 s1) ∧ W.cell? ⟨w.heap.size, 1, none⟩ = some (.slice a1 n1 c1) ∧ W.cell? ⟨w.heap.size, 2, none⟩ = some (.int .i64 1) ∧ W.cell? ⟨w.heap.size, 3, none⟩ = some (.slice b1 m1 d1) ∧ W.cell? ⟨w.heap.size, 4, none⟩ = some (.int .i64 s2) ∧ W.cell? ⟨w.heap.size, 5, none⟩ = some (.slice a2 n2 c2) ∧ W.cell? ⟨w.heap.size, 6, none⟩ = some (.int .i64 1) ∧ W.cell? ⟨w.heap.size, 7, none⟩ = some (.slice b2 m2 d2) := fun W F cs h => ⟨(h.box _ mq1).cell 0, (h.box _ mq1).cell 1, (h.box _ mq1).cell 2, (h.box _ mq1).cell 3, (h.box _ mq1).cell 4, (h.box _ mq1).cell 5, (h.box _ mq1).cell 6, (h.box _ mq1).cell 7⟩
 have KK := Lib.hid K0
 clear K0
 have N0 := Lib.hid R1.out.drew
 clear R1
 have e0 := KK.out _ _ _ N0.out
 have C1 := Lib.hid (fneg_k (N0.out.fr mq0 mq1 E2.out) Z2.out)
 go_region_held3 (fun W => W.cell? ⟨w.heap.size, 0, none⟩ = some (.int .i64 s1) ∧ W.cell? ⟨w.heap.size, 1, none⟩ = some (.slice a1 n1 c1) ∧ W.cell? ⟨w.heap.size, 2, none⟩ = some (.int .i64 1) ∧ W.cell? ⟨w.heap.size, 3, none⟩ = some (.slice b1 m1 d1) ∧ W.cell? ⟨w.heap.size, 4, none⟩ = some (.int .i64 s2) ∧ W.cell? ⟨w.heap.size, 5, none⟩ = some (.slice a2 n2 c2) ∧ W.cell? ⟨w.heap.size, 6, none⟩ = some (.int .i64 1) ∧ W.cell? ⟨w.heap.size, 7, none⟩ = some (.slice b2 m2 d2))
  (first | (with_reducible exact e0) | (with_reducible exact e1) | (with_reducible exact e2) | (with_reducible exact e3) | go_keep)
  (first
    | (have hG := N1; clear hG; go_at_call 54; (with_reducible refine (C2.out).mono ?_); rintro e y2 ⟨sy2, ay2, ny2, cy2, by2, my2, dy2, rfl, hr, hb, hf, hg⟩; have NB := Lib.hid hr.1.1; have FB1 := Lib.hid (hf.mono N1.out.below.size); have FB2 := Lib.hid (hg.mono N1.out.below.size); have N2 := Lib.hid (N1.out.ret2 hb hr.1.2 hf hr.2.2 hg); clear hr hb hf hg; have e2 := KK.out _ _ _ N2.out; obtain ⟨t0, t1, t2, t3, t4, t5, t6, t7⟩ := Fb.cells8 (N2.out.box _ mq0); have u0 := (N2.out.box _ mq0).free 0; have u1 := (N2.out.box _ mq0).free 1; have u2 := (N2.out.box _ mq0).free 2; have u3 := (N2.out.box _ mq0).free 3; have u4 := (N2.out.box _ mq0).free 4; have u5 := (N2.out.box _ mq0).free 5; have u6 := (N2.out.box _ mq0).free 6; have u7 := (N2.out.box _ mq0).free 7; have N3 := Lib.hid (Sf.set8 (pre := []) N2.out (.int .i64 sy1) (.slice ay1 ny1 cy1) (.int .i64 1) (.slice by1 my1 dy1) (.int .i64 sy2) (.slice ay2 ny2 cy2) (.int .i64 1) (.slice by2 my2 dy2)); have e3 := KK.out _ _ _ N3.out)
    | (have hG := N0; clear hG; go_at_call 54; (with_reducible refine (C1.out).mono ?_); rintro e y1 ⟨sy1, ay1, ny1, cy1, by1, my1, dy1, rfl, hr, hb, hf, hg⟩; have NA := Lib.hid hr.1.1; have FA1 := Lib.hid (hf.mono N0.out.below.size); have FA2 := Lib.hid (hg.mono N0.out.below.size); have N1 := Lib.hid (N0.out.ret2 hb hr.1.2 hf hr.2.2 hg); clear hr hb hf hg; have e1 := KK.out _ _ _ N1.out; have C2 := Lib.hid (fneg_k (N1.out.fr mq4 mq5 E1.out) Z1.out)))
 all_goals (go_wp2_with fail; refine bodyPost_ret (results_cell_row rfl _ _ _ _ _ (0, 0) _ rfl (N3.out.box _ mq0) Tryz.underlying28 rfl (by kernel_rfl)) rfl ⟨⟨sy1, ay1, ny1, cy1, by1, my1, dy1⟩, ⟨sy2, ay2, ny2, cy2, by2, my2, dy2⟩, rfl, (N3.out.fr mq2 mq3 NA.out), (N3.out.fr mq0 mq1 NB.out), N3.out.below, fun g hg => ⟨⟨FA1.out g hg, FA2.out g hg⟩, ⟨FB1.out g hg, FB2.out g hg⟩⟩⟩)

set_option maxHeartbeats 8000000 in
theorem p10neg_bad {w : World} {s1 t1 : Int} {a1 b1 : Option Addr} {n1 c1 m1 d1 : Nat} {l1 k1 : List Int} {s2 t2 : Int} {a2 b2 : Option Addr} {n2 c2 m2 d2 : Nat} {l2 k2 : List Int} (hl1 : Ints w (.slice a1 n1 c1) l1) (hk1 : Ints w (.slice b1 m1 d1) k1) (ll1 : l1.length ≤ 1000) (lk1 : k1.length ≤ 1000) (hl2 : Ints w (.slice a2 n2 c2) l2) (hk2 : Ints w (.slice b2 m2 d2) k2) (ll2 : l2.length ≤ 1000) (lk2 : k2.length ≤ 1000) (hr : sR s1 l1 t1 k1 s2 l2 t2 k2 = false) :
  Calls Tryz.prog 26 #[.agg #[.int .i64 s1, .slice a1 n1 c1, .int .i64 t1, .slice b1 m1 d1, .int .i64 s2, .slice a2 n2 c2, .int .i64 t2, .slice b2 m2 d2]] w fun e w' => e = .returned (.agg #[.int .i64 0, .slice none 0 0, .int .i64 0, .slice none 0 0, .int .i64 0, .slice none 0 0, .int .i64 0, .slice none 0 0]) ∧ RowKit.Below w.heap.size w w' := by
 have LL1 := Lib.hid ll1
 have LK1 := Lib.hid lk1
 have LL2 := Lib.hid ll2
 have LK2 := Lib.hid lk2
 have EA := Lib.hid hr
 have s0 := (((((((Sf.start w).arg hk1).arg hl1).arg hk2).arg hl2).put [.int .i64 s1, .slice a1 n1 c1, .int .i64 t1, .slice b1 m1 d1, .int .i64 s2, .slice a2 n2 c2, .int .i64 t2, .slice b2 m2 d2] 28).put [.int .i64 0, .slice none 0 0, .int .i64 0, .slice none 0 0, .int .i64 0, .slice none 0 0, .int .i64 0, .slice none 0 0] 28)
 try simp only [World.size_alloc] at s0
 have S0 := Lib.hid s0
 clear s0
 clear hr hl1 hk1 ll1 lk1 hl2 hk2 ll2 lk2
 go_enter Tryz.func26, Tryz.ntmps26
 obtain ⟨q1, q2, q3, q4, q5, q6, q7, q8⟩ := Fb.cells8 (S0.out.box _ mq1)
 go_wp2_with fail
 clear q1 q2 q3 q4 q5 q6 q7 q8
 refine (p10right_raw (S0.out.ints (.slice a1 n1 c1, l1) mq2) (S0.out.ints (.slice b1 m1 d1, k1) mq3) LL1.out LK1.out (S0.out.ints (.slice a2 n2 c2, l2) mq0) (S0.out.ints (.slice b2 m2 d2, k2) mq1) LL2.out LK2.out EA.out).mono ?_
 rintro e w1 ⟨rfl, hb⟩
 have R1 := Lib.hid (S0.out.later hb)
 clear hb
 have Q9 := Lib.hid (Sf.row (pre := []) R1.out [.int .i64 0, .slice none 0 0, .int .i64 0, .slice none 0 0, .int .i64 0, .slice none 0 0, .int .i64 0, .slice none 0 0])
 go_wp2_with (first | refine wpList_store_row rfl _ _ _ rfl _ #[.int .i64 0, .slice none 0 0, .int .i64 0, .slice none 0 0, .int .i64 0, .slice none 0 0, .int .i64 0, .slice none 0 0] rfl rfl _ _ (R1.out.box _ mq0) (by kernel_rfl) rfl (by simp [Value.oneCell']) ?_)
 refine bodyPost_ret (results_cell_row rfl _ _ _ _ _ (0, 0) _ rfl (Q9.out.box _ mq0) Tryz.underlying28 rfl (by kernel_rfl)) rfl ⟨rfl, Q9.out.below⟩
end Go.Proofs.YtgncnkojpedmdaaGreat.Sp
