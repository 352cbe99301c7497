/- The law ScaleRecalls. -/
import Derived.Test.YtmhjejnkphdjpaaPB28
import Derived.OrdersHeld
import Derived.Test.YtmhjejnkphdjpaaPB29
import Derived.Test.YtmhjejnkphdjpaaLaw
import Derived.Test.YtmhjejnkphdjpaaRows
import Derived.ProofKit
import Derived.Test.YtmhjejnkphdjpaaQSm2
set_option maxRecDepth 100000
namespace Go.Proofs.Ytmhjejnkphdjpaa.Sc
open Go.RowKit Bi

/-- A certificate of the scale s. -/
def Ct.at (c : Ct) (s : Int) : Ct := { c with sc := s }
theorem rec_snoc_t {s d : Int} {rl : List (Int × Int)} {x : Int × Int} (h1 : (x.1 == s) = true) (h2 : decide (x.2 ≤ d) = true) (l : List Ct) (r : Int) : ivB s r d l (rl ++ [x]) = false := by
  unfold ivB
  rw [recB_snoc, h2, show decide (x.1 = s) = true by simpa using h1]
  simp
theorem rec_snoc_f {s d : Int} {rl : List (Int × Int)} {x : Int × Int} (h : (decide (x.1 = s) && decide (x.2 ≤ d)) = false) (l : List Ct) (r : Int) : ivB s r d l (rl ++ [x]) = ivB s r d l rl ∧ ivL s r d l (rl ++ [x]) = ivL s r d l rl ∧ ivH s r d l (rl ++ [x]) = ivH s r d l rl := by
  have e : ivB s r d l (rl ++ [x]) = ivB s r d l rl := by unfold ivB; rw [recB_snoc, h, Bool.or_false]
  refine ⟨e, ?_, ?_⟩
  · unfold ivL; rw [e]
  · unfold ivH; rw [e]
theorem find_new {s d : Int} {l : List Ct} {c : Ct} (hc : c.cov s d = true) (h : ∀ i b, fnd s d l = some (i, b) → b.fr ≤ c.fr) : fI s d (l ++ [c]) = l.length ∧ fB s d (l ++ [c]) = true := by
  have := fnd_new l hc h
  unfold fI fB
  rw [this]
  exact ⟨rfl, rfl⟩

set_option maxHeartbeats 4000000 in
theorem recalls_no1 {a a2 : Option Addr} {n cap m cap2 : Nat} {s r d : Int} {x1 x2 : Int} {c : Ct} {w : World} (_hn : n ≤ 9223372036854775807) (_hm : m ≤ 9223372036854775807) (h1 : decide ((110 : Int) < (n : Int)) = true) : Calls Try.prog 7 #[.slice a n cap, .slice a2 m cap2, .int .i64 s, .int .i64 r, .int .i64 d, .agg #[.int .i64 x1, .int .i64 x2], .agg #[.int .i64 c.sc, .int .i64 c.fr, .int .i64 c.un, .int .i64 c.ut, .int .i64 c.pm, .int .i64 c.dr]] w (Gv (.bool true) w) := by
  have h2 : decide (110 < n) = true := by simp at h1 ⊢; omega
  have s0 := (((Sf.start w).put [.int .i64 x1, .int .i64 x2] 52).put [.int .i64 c.sc, .int .i64 c.fr, .int .i64 c.un, .int .i64 c.ut, .int .i64 c.pm, .int .i64 c.dr] 25)
  try simp only [World.size_alloc] at s0
  have S0 := Lib.hid s0
  clear s0
  go_enter Try.func7, Try.ntmps7
  go_wp2_with fail
  refine (sane_any).mono ?_
  rintro e w1 ⟨rfl, hb⟩
  have R1 := Lib.hid (S0.out.later hb)
  clear hb
  go_wp2_with fail
  go_ret
  exact ⟨rfl, R1.out.below⟩

set_option maxHeartbeats 4000000 in
theorem recalls_no2 {a a2 : Option Addr} {n cap m cap2 : Nat} {s r d : Int} {x1 x2 : Int} {c : Ct} {w : World} (_hn : n ≤ 9223372036854775807) (_hm : m ≤ 9223372036854775807) (h1 : decide ((110 : Int) < (n : Int)) = false) (h2 : decide ((50 : Int) < (m : Int)) = true) : Calls Try.prog 7 #[.slice a n cap, .slice a2 m cap2, .int .i64 s, .int .i64 r, .int .i64 d, .agg #[.int .i64 x1, .int .i64 x2], .agg #[.int .i64 c.sc, .int .i64 c.fr, .int .i64 c.un, .int .i64 c.ut, .int .i64 c.pm, .int .i64 c.dr]] w (Gv (.bool true) w) := by
  have h3 : decide (110 < n) = false := by simp at h1 ⊢; omega
  have h4 : decide (50 < m) = true := by simp at h2 ⊢; omega
  have s0 := (((Sf.start w).put [.int .i64 x1, .int .i64 x2] 52).put [.int .i64 c.sc, .int .i64 c.fr, .int .i64 c.un, .int .i64 c.ut, .int .i64 c.pm, .int .i64 c.dr] 25)
  try simp only [World.size_alloc] at s0
  have S0 := Lib.hid s0
  clear s0
  go_enter Try.func7, Try.ntmps7
  go_wp2_with fail
  refine (sane_any).mono ?_
  rintro e w1 ⟨rfl, hb⟩
  have R1 := Lib.hid (S0.out.later hb)
  clear hb
  go_wp2_with fail
  go_ret
  exact ⟨rfl, R1.out.below⟩

set_option maxHeartbeats 64000000 in
theorem recalls_on {a a2 : Option Addr} {n cap m cap2 : Nat} {l : List Ct} {rl : List (Int × Int)} {s r d : Int} {x1 x2 : Int} {c : Ct} {w : World} (hc : Cs w a l) (hn : l.length = n) (hl : n ≤ 110) (hr : Rs w a2 rl) (hm : rl.length = m) (hl2 : m ≤ 50) (h1 : (x1 == s) = true) (h2 : decide (x2 ≤ d) = true) : Calls Try.prog 7 #[.slice a n cap, .slice a2 m cap2, .int .i64 s, .int .i64 r, .int .i64 d, .agg #[.int .i64 x1, .int .i64 x2], .agg #[.int .i64 c.sc, .int .i64 c.fr, .int .i64 c.un, .int .i64 c.ut, .int .i64 c.pm, .int .i64 c.dr]] w (Gv (.bool true) w) := by
  have HC := Lib.hid hc
  have HN := Lib.hid hn
  have HR := Lib.hid hr
  have HM := Lib.hid hm
  have HL : Hid (n ≤ 1000000) := Lib.hid (by omega)
  have HL2 : Hid (m ≤ 1000000) := Lib.hid (by omega)
  have HNB : Hid (n ≤ 9223372036854775807) := Lib.hid (by omega)
  have HMB : Hid (m ≤ 9223372036854775807) := Lib.hid (by omega)
  have gn : decide ((110 : Int) < (n : Int)) = false := by simp; omega
  have gm : decide ((50 : Int) < (m : Int)) = false := by simp; omega
  have gn2 : decide (110 < n) = false := by simp; omega
  have gm2 : decide (50 < m) = false := by simp; omega
  obtain ⟨D1, hd1⟩ : ∃ D, ivL s r d l rl = D := ⟨_, rfl⟩
  obtain ⟨D2, hd2⟩ : ∃ D, ivH s r d l rl = D := ⟨_, rfl⟩
  obtain ⟨kk, hdk⟩ : ∃ b, ivB s r d l rl = b := ⟨_, rfl⟩
  have HD1 := Lib.hid hd1
  have HD2 := Lib.hid hd2
  have HDK := Lib.hid hdk
  have HM50 := Lib.hid (show m ≤ 1000 by omega)
  have HN110 := Lib.hid (show n ≤ 1000 by omega)
  obtain ⟨i, hfi⟩ : ∃ i, fI s d l = i := ⟨_, rfl⟩
  obtain ⟨fb, hfb⟩ : ∃ b, fB s d l = b := ⟨_, rfl⟩
  have HFI := Lib.hid hfi
  have HFB := Lib.hid hfb
  obtain ⟨q, hq⟩ : ∃ z, (Ct.mk s c.fr c.un c.ut c.pm c.dr).ok = z := ⟨_, rfl⟩
  have HQ := Lib.hid hq
  have i0 : decide ((i : Int) < 0) = false := by simp
  have i1 : decide (0 ≤ (i : Int)) = true := by simp
  clear hfi hfb hq
  have HK2 := Lib.hid (rec_snoc_t (x := (x1, x2)) (rl := rl) h1 h2 l r)
  obtain ⟨D3, hd3⟩ : ∃ D, ivL s r d l (rl ++ [(x1, x2)]) = D := ⟨_, rfl⟩
  obtain ⟨D4, hd4⟩ : ∃ D, ivH s r d l (rl ++ [(x1, x2)]) = D := ⟨_, rfl⟩
  have HD3 := Lib.hid hd3
  have HD4 := Lib.hid hd4
  clear hd3 hd4
  clear hd1 hd2 hdk
  have s0 := (((Sf.start w).put [.int .i64 x1, .int .i64 x2] 52).put [.int .i64 c.sc, .int .i64 c.fr, .int .i64 c.un, .int .i64 c.ut, .int .i64 c.pm, .int .i64 c.dr] 25)
  try simp only [World.size_alloc] at s0
  have S0 := Lib.hid s0
  clear s0
  clear hc hn hl hr hm hl2
  go_enter Try.func7, Try.ntmps7
  go_wp2_with fail
  refine (sane_any).mono ?_
  rintro e w1 ⟨rfl, hb⟩
  have R1 := Lib.hid (S0.out.later hb)
  clear hb
  go_wp2_with fail
  refine (ivl_raw (HC.out.later R1.out.below) HN.out HL.out (HR.out.later R1.out.below) HM.out HL2.out HD1.out HD2.out HDK.out).mono ?_
  rintro e w2 ⟨av2, nv2, cv2, bv2, mv2, dv2, az2, nz2, cz2, bz2, mz2, dz2, rfl, hi, hj, hp, hq, hb, h1, h2, h3, h4⟩
  have R2 := Lib.hid (Sf.ret4 R1.out hb hi h1 hj h2 hp h3 hq h4)
  clear hi hj hp hq hb h1 h2 h3 h4
  have p1 := (R2.out.put [.int .i64 0, .slice none 0 0, .int .i64 0, .slice none 0 0] 34).put [.int .i64 0, .slice none 0 0, .int .i64 0, .slice none 0 0] 34
  try simp only [World.size_alloc] at p1
  have P1 := Lib.hid p1
  clear p1
  have Q1 := Lib.hid (Sf.row (pre := [(w2.heap.size + 1, 34, [.int .i64 0, .slice none 0 0, .int .i64 0, .slice none 0 0])]) P1.out [.int .i64 D1.s, .slice av2 nv2 cv2, .int .i64 D1.t, .slice bv2 mv2 dv2])
  have T1 := Lib.hid (Sf.row (pre := []) Q1.out [.int .i64 D2.s, .slice az2 nz2 cz2, .int .i64 D2.t, .slice bz2 mz2 dz2])
  obtain ⟨V1, hV1⟩ : ∃ V, ((((w2.alloc (.cells #[.int .i64 0, .slice none 0 0, .int .i64 0, .slice none 0 0] 34)).alloc (.cells #[.int .i64 0, .slice none 0 0, .int .i64 0, .slice none 0 0] 34)).setRow (w2.heap.size) #[.int .i64 D1.s, .slice av2 nv2 cv2, .int .i64 D1.t, .slice bv2 mv2 dv2]).setRow (w2.heap.size + 1) #[.int .i64 D2.s, .slice az2 nz2 cz2, .int .i64 D2.t, .slice bz2 mz2 dz2]) = V := ⟨_, rfl⟩
  have T1 : Hid (Sf w ([] ++ (w2.heap.size + 1, 34, [.int .i64 D2.s, .slice az2 nz2 cz2, .int .i64 D2.t, .slice bz2 mz2 dz2]) :: (w2.heap.size, 34, [.int .i64 D1.s, .slice av2 nv2 cv2, .int .i64 D1.t, .slice bv2 mv2 dv2]) :: [(w.heap.size + 1, 25, [.int .i64 c.sc, .int .i64 c.fr, .int .i64 c.un, .int .i64 c.ut, .int .i64 c.pm, .int .i64 c.dr]), (w.heap.size, 52, [.int .i64 x1, .int .i64 x2])]) _ V1) := Lib.hid (by have := T1.out; rw [← hV1]; exact this)
  have HV1 := Lib.hid hV1
  clear hV1
  go_upto_region 5 with (first | (refine wpList_store_row rfl _ _ _ rfl _ #[.int .i64 D2.s, .slice az2 nz2 cz2, .int .i64 D2.t, .slice bz2 mz2 dz2] rfl rfl _ _ (Q1.out.box _ mq0) (by kernel_rfl) rfl (by simp [Value.oneCell']) ?_; rw [HV1.out]) | refine wpList_store_row rfl _ _ _ rfl _ #[.int .i64 D1.s, .slice av2 nv2 cv2, .int .i64 D1.t, .slice bv2 mv2 dv2] rfl rfl _ _ (P1.out.box _ mq1) (by kernel_rfl) rfl (by simp [Value.oneCell']) ?_)
  have HV := Lib.hid T1.out.below
  have HBC : Hid (Fb (w.heap.size + 1, 25, [.int .i64 c.sc, .int .i64 c.fr, .int .i64 c.un, .int .i64 c.ut, .int .i64 c.pm, .int .i64 c.dr]) V1) := Lib.hid (T1.out.box _ mq2)
  have HBX : Hid (Fb (w.heap.size, 52, [.int .i64 x1, .int .i64 x2]) V1) := Lib.hid (T1.out.box _ mq3)
  have HBA : Hid (Fb (w2.heap.size, 34, [.int .i64 D1.s, .slice av2 nv2 cv2, .int .i64 D1.t, .slice bv2 mv2 dv2]) V1) := Lib.hid (T1.out.box _ mq1)
  have HBB : Hid (Fb (w2.heap.size + 1, 34, [.int .i64 D2.s, .slice az2 nz2 cz2, .int .i64 D2.t, .slice bz2 mz2 dz2]) V1) := Lib.hid (T1.out.box _ mq0)
  have HI1 := Lib.hid (T1.out.ints (.slice av2 nv2 cv2, D1.l) mq0)
  have HI2 := Lib.hid (T1.out.ints (.slice bv2 mv2 dv2, D1.k) mq1)
  have HI3 := Lib.hid (T1.out.ints (.slice az2 nz2 cz2, D2.l) mq2)
  have HI4 := Lib.hid (T1.out.ints (.slice bz2 mz2 dz2, D2.k) mq3)
  clear T1
  have hdr : RowKit.Below V1.heap.size V1 V1.drew := ⟨rfl, rfl, rfl, Nat.le_refl _, fun _ _ => rfl⟩
  have HDR := Lib.hid hdr
  clear hdr
  have K0 : ∀ W, RowKit.Below V1.heap.size V1 W → W.cell? ⟨w.heap.size, 0, none⟩ = some (.int .i64 x1) ∧ W.cell? ⟨w.heap.size, 1, none⟩ = some (.int .i64 x2) := fun W h => ⟨(HBX.out.later h).cell 0, (HBX.out.later h).cell 1⟩
  have KK := Lib.hid K0
  clear K0
  have e0 := KK.out _ HDR.out
  refine wp_region_held_drew (S := fun W => W.cell? ⟨w.heap.size, 0, none⟩ = some (.int .i64 x1) ∧ W.cell? ⟨w.heap.size, 1, none⟩ = some (.int .i64 x2)) (by kernel_rfl) e0 (fun hHeld => ?_)
  refine wpAnyH_take (i := 0) (oi := ⟨_, _, _, _, _, _⟩) (v := ?_) rfl (by kernel_rfl) (by kernel_rfl) (by kernel_rfl) (fun _ _ _ h => h) (Or.inl ⟨by rfl, ?_⟩) (by assumption) ?_
  rotate_left
  focus (intro w hSw; (try dsimp only at hSw); go_simp; (try with_reducible rfl))
  try simp only [Act.put, List.setIfInBounds_toArray, List.set_cons_zero, List.set_cons_succ]
  refine wpAnyH_take (i := 2) (oi := ⟨_, _, _, _, _, _⟩) (v := ?_) rfl (by kernel_rfl) (by kernel_rfl) (by kernel_rfl) (fun _ _ _ h => h) (Or.inl ⟨by rfl, ?_⟩) (by assumption) ?_
  rotate_left
  focus (intro w hSw; (try dsimp only at hSw); go_simp; (try with_reducible rfl))
  try simp only [Act.put, List.setIfInBounds_toArray, List.set_cons_zero, List.set_cons_succ]
  refine wpAnyH_take (i := 4) (oi := ⟨_, _, _, _, _, _⟩) (v := ?_) rfl (by kernel_rfl) (by kernel_rfl) (by kernel_rfl) (fun _ _ _ h => h) (Or.inl ⟨by rfl, ?_⟩) (by assumption) ?_
  rotate_left
  focus (intro w hSw; (try dsimp only at hSw); go_simp; (try with_reducible rfl))
  try simp only [Act.put, List.setIfInBounds_toArray, List.set_cons_zero, List.set_cons_succ]
  refine wpAnyH_take (i := 7) (oi := ⟨_, _, _, _, _, _⟩) (v := ?_) rfl (by kernel_rfl) (by kernel_rfl) (by kernel_rfl) (fun _ _ _ h => h) (Or.inl ⟨by rfl, ?_⟩) (by assumption) ?_
  rotate_left
  focus (intro w hSw; (try dsimp only at hSw); go_simp; (try with_reducible rfl))
  try simp only [Act.put, List.setIfInBounds_toArray, List.set_cons_zero, List.set_cons_succ]
  refine wpAnyH_take (i := 8) (oi := ⟨_, _, _, _, _, _⟩) (v := ?_) rfl (by kernel_rfl) (by kernel_rfl) (by kernel_rfl) (fun _ _ _ h => h) (Or.inl ⟨by rfl, ?_⟩) (by assumption) ?_
  rotate_left
  focus (intro w hSw; (try dsimp only at hSw); go_simp; (try with_reducible rfl))
  try simp only [Act.put, List.setIfInBounds_toArray, List.set_cons_zero, List.set_cons_succ]
  refine wpAnyH_take (i := 9) (oi := ⟨_, _, _, _, _, _⟩) (v := ?_) rfl (by kernel_rfl) (by kernel_rfl) (by kernel_rfl) (fun _ _ _ h => h) (Or.inl ⟨by rfl, ?_⟩) (by assumption) ?_
  rotate_left
  focus (intro w hSw; (try dsimp only at hSw); go_simp; (try with_reducible rfl))
  try simp only [Act.put, List.setIfInBounds_toArray, List.set_cons_zero, List.set_cons_succ]
  clear e0 hHeld
  show wpAnyH _ .any ops5 _ _ 14 (ls5 false false false false false false false) _ _
  refine region5 (x := (x1, x2)) (w0 := V1.drew) (ac := a) (ar := a2) (n := n) (cap := cap) (m := m) (cr := cap2) (s := s) (r := r) (d := d) (fun d_ _ _ _ _ h => by cases d_ <;> exact h) (fun W hW => KK.out W (HDR.out.trans hW)) (Nat.le_of_ble_eq_true rfl) rfl rfl rfl rfl rfl rfl (HC.out.later (HV.out.trans (HDR.out.mono HV.out.size))) HN.out HL.out (HR.out.later (HV.out.trans (HDR.out.mono HV.out.size))) HM.out HM50.out HD3.out HD4.out HK2.out ?_ 14 false false false false false false false _ _ rfl rfl (Kp.refl _ _) ⟨Below.refl _ _, (fun h => Bool.noConfusion h), (fun h _ => Bool.noConfusion h), (fun h _ => Bool.noConfusion h), (fun h _ => Bool.noConfusion h), (fun h => Bool.noConfusion h), (fun h => Bool.noConfusion h), (fun h => Bool.noConfusion h), (fun h _ => Bool.noConfusion h)⟩
  intro v46 v48 v50 v52 v53 v57 q1 q4 q7 y1 q2 q3 q5 q6 q8 q9 y2 y3 g1 g2 w5 hb5 hf1 hf2 j1 j2 j3 j4
  have HB5 := Lib.hid (HDR.out.trans hb5)
  have HF1 := Lib.hid hf1
  have HF2 := Lib.hid hf2
  have HA5 := Lib.hid (HBA.out.later HB5.out)
  have HBB5 := Lib.hid (HBB.out.later HB5.out)
  have HX5 := Lib.hid (HBX.out.later HB5.out)
  have HC5 := Lib.hid (HBC.out.later HB5.out)
  have HW5 := Lib.hid (HV.out.trans (HB5.out.mono HV.out.size))
  have s10 := ((((((((Sf.start w5).arg j4).arg j3).arg j2).arg j1).arg (HI4.out.later HB5.out)).arg (HI3.out.later HB5.out)).arg (HI2.out.later HB5.out)).arg (HI1.out.later HB5.out)
  have S10 := Lib.hid s10
  clear hb5 hf1 hf2 j1 j2 j3 j4 s10 HBA HBB HBX HBC KK HI1 HI2 HI3 HI4
  try simp only [Act.put, List.setIfInBounds_toArray, List.set_cons_zero, List.set_cons_succ]
  obtain ⟨x0_, x1_⟩ := Fb.cells2 (HX5.out.later S10.out.below)
  have HW6 := Lib.hid (HW5.out.trans (S10.out.below.mono HW5.out.size))
  have HC6 := Lib.hid (HC5.out.later S10.out.below)
  have S11 := Lib.hid (mkSf (F := []) HW6.out (Nat.le_succ _) HC6.out (by simp) (by simp))
  have S12 : Hid (Sf w [(w.heap.size + 1, 25, [.int .i64 s, .int .i64 c.fr, .int .i64 c.un, .int .i64 c.ut, .int .i64 c.pm, .int .i64 c.dr])] [] (w5.setCell ⟨w.heap.size + 1, 0, none⟩ (.int .i64 s))) := Lib.hid (Sf.set (pre := []) (post := []) S11.out 0 (.int .i64 s))
  obtain ⟨u0, u1, u2, u3, u4, u5⟩ := Fb.cells6 HC6.out
  have u6 := HC6.out.free 0
  go_wp2_with fail
  clear u0 u1 u2 u3 u4 u5 u6 x0_ x1_
  refine (find_any (HC.out.later S12.out.below) HN.out HL.out HFI.out HFB.out).mono ?_
  rintro e w21 ⟨rfl, hb⟩
  have R21 := Lib.hid (S12.out.later hb)
  clear hb
  obtain ⟨q2, q3, q4, q5, q6, q7⟩ := Fb.cells6 (R21.out.box (w.heap.size + 1, 25, [.int .i64 s, .int .i64 c.fr, .int .i64 c.un, .int .i64 c.ut, .int .i64 c.pm, .int .i64 c.dr]) mq0)
  go_wp2_with fail
  clear q2 q3 q4 q5 q6 q7
  refine (right_f HQ.out).mono ?_
  rintro e w22 ⟨rfl, hb⟩
  have R22 := Lib.hid (R21.out.later hb)
  clear hb
  obtain ⟨q8, q9, q10, q11, q12, q13⟩ := Fb.cells6 (R22.out.box (w.heap.size + 1, 25, [.int .i64 s, .int .i64 c.fr, .int .i64 c.un, .int .i64 c.ut, .int .i64 c.pm, .int .i64 c.dr]) mq0)
  cases q
  case false =>
    cases fb
    case false =>
      go_wp2_with fail
      go_ret
      exact ⟨rfl, R22.out.below⟩
    case true =>
      have hil : i < n := by
        obtain ⟨i', c', _, h7, h8, _⟩ := found_of HFB.out
        rw [← HFI.out, h7, ← HN.out]
        exact (List.getElem?_eq_some_iff.1 h8).1
      have f1_ : decide ((i : Int) < (n : Int)) = true := by simp; omega
      have f2_ : decide (i < n) = true := by simp; omega
      have f3_ : decide ((n : Int) ≤ (i : Int)) = false := by simp; omega
      have f4_ : decide (n ≤ i) = false := by simp; omega
      go_wp2_with fail
      go_ret
      exact ⟨rfl, R22.out.below⟩
  case true =>
    rcases h3 : decide (d < c.fr) with _ | _
    · skip
      rcases h4 : decide (c.un < d) with _ | _
      · skip
        cases fb
        case false =>
          go_upto_region 18 with fail
          clear q8 q9 q10 q11 q12 q13
          have HNEW := Lib.hid (find_new (c := ⟨s, c.fr, c.un, c.ut, c.pm, c.dr⟩) (cov_t (c := ⟨s, c.fr, c.un, c.ut, c.pm, c.dr⟩) (s := s) (d := d) HQ.out (by simp) (by simp only; rw [decide_eq_true (Int.not_lt.1 (of_decide_eq_false h3)), decide_eq_true (Int.not_lt.1 (of_decide_eq_false h4))]; rfl)) (fun i b h => by have := HFB.out; unfold fB at this; rw [h] at this; cases this))
          have H18 := Lib.hid R22.out.drew
          have K0 : ∀ W, RowKit.Below w22.drew.heap.size w22.drew W → W.cell? ⟨w.heap.size + 1, 0, none⟩ = some (.int .i64 s) ∧ W.cell? ⟨w.heap.size + 1, 1, none⟩ = some (.int .i64 c.fr) ∧ W.cell? ⟨w.heap.size + 1, 2, none⟩ = some (.int .i64 c.un) ∧ W.cell? ⟨w.heap.size + 1, 3, none⟩ = some (.int .i64 c.ut) ∧ W.cell? ⟨w.heap.size + 1, 4, none⟩ = some (.int .i64 c.pm) ∧ W.cell? ⟨w.heap.size + 1, 5, none⟩ = some (.int .i64 c.dr) := fun W h => by
            obtain ⟨z0, z1, z2, z3, z4, z5⟩ := Fb.cells6 ((H18.out.box _ mq0).later h)
            exact ⟨z0, z1, z2, z3, z4, z5⟩
          have KK := Lib.hid K0
          clear K0
          have e0 := KK.out _ (Below.refl _ _)
          refine wp_region_held_drew (S := fun W => W.cell? ⟨w.heap.size + 1, 0, none⟩ = some (.int .i64 s) ∧ W.cell? ⟨w.heap.size + 1, 1, none⟩ = some (.int .i64 c.fr) ∧ W.cell? ⟨w.heap.size + 1, 2, none⟩ = some (.int .i64 c.un) ∧ W.cell? ⟨w.heap.size + 1, 3, none⟩ = some (.int .i64 c.ut) ∧ W.cell? ⟨w.heap.size + 1, 4, none⟩ = some (.int .i64 c.pm) ∧ W.cell? ⟨w.heap.size + 1, 5, none⟩ = some (.int .i64 c.dr)) (by kernel_rfl) e0 (fun hHeld => ?_)
          refine wpAnyH_take (i := 1) (oi := ⟨_, _, _, _, _, _⟩) (v := ?_) rfl (by kernel_rfl) (by kernel_rfl) (by kernel_rfl) (fun _ _ _ h => h) (Or.inl ⟨by rfl, ?_⟩) (by assumption) ?_
          rotate_left
          focus (intro w hSw; (try dsimp only at hSw); go_simp; (try with_reducible rfl))
          try simp only [Act.put, List.setIfInBounds_toArray, List.set_cons_zero, List.set_cons_succ]
          refine wpAnyH_take (i := 3) (oi := ⟨_, _, _, _, _, _⟩) (v := ?_) rfl (by kernel_rfl) (by kernel_rfl) (by kernel_rfl) (fun _ _ _ h => h) (Or.inl ⟨by rfl, ?_⟩) (by assumption) ?_
          rotate_left
          focus (intro w hSw; (try dsimp only at hSw); go_simp; (try with_reducible rfl))
          try simp only [Act.put, List.setIfInBounds_toArray, List.set_cons_zero, List.set_cons_succ]
          refine wpAnyH_take (i := 6) (oi := ⟨_, _, _, _, _, _⟩) (v := ?_) rfl (by kernel_rfl) (by kernel_rfl) (by kernel_rfl) (fun _ _ _ h => h) (Or.inl ⟨by rfl, ?_⟩) (by assumption) ?_
          rotate_left
          focus (intro w hSw; (try dsimp only at hSw); go_simp; (try with_reducible rfl))
          try simp only [Act.put, List.setIfInBounds_toArray, List.set_cons_zero, List.set_cons_succ]
          refine wpAnyH_take (i := 7) (oi := ⟨_, _, _, _, _, _⟩) (v := ?_) rfl (by kernel_rfl) (by kernel_rfl) (by kernel_rfl) (fun _ _ _ h => h) (Or.inl ⟨by rfl, ?_⟩) (by assumption) ?_
          rotate_left
          focus (intro w hSw; (try dsimp only at hSw); go_simp; (try with_reducible rfl))
          try simp only [Act.put, List.setIfInBounds_toArray, List.set_cons_zero, List.set_cons_succ]
          clear e0 hHeld
          show wpAnyH _ .any ops18 _ _ 10 (ls18 false false false false false) _ _
          refine region18 (x := ⟨s, c.fr, c.un, c.ut, c.pm, c.dr⟩) (w0 := w22.drew) (ar := _) (m := n) (cr := cap) (s := s) (d := d) (fun d_ _ _ _ _ h => by cases d_ <;> exact h) (fun W hW => KK.out W hW) (Nat.le_of_ble_eq_true rfl) rfl rfl rfl rfl (HC.out.later H18.out.below) HN.out HN110.out (HNEW.out.1.trans HN.out) HNEW.out.2 ?_ 10 false false false false false _ _ rfl rfl (Kp.refl _ _) ⟨Below.refl _ _, (fun h => Bool.noConfusion h), (fun h _ => Bool.noConfusion h), (fun h _ => Bool.noConfusion h), (fun h _ => Bool.noConfusion h), (fun h => Bool.noConfusion h)⟩
          intro v149 v48 v50 v52 v53 v57 w8 hb8
          have S18 := Lib.hid (H18.out.later hb8)
          clear hb8
          try simp only [Act.put, List.setIfInBounds_toArray, List.set_cons_zero, List.set_cons_succ]
          have e9 : ((n : Int) == (n : Int)) = true := by simp
          go_wp2_with fail
          go_ret
          exact ⟨rfl, S18.out.below⟩
        case true =>
          have hil : i < n := by
            obtain ⟨i', c', _, h7, h8, _⟩ := found_of HFB.out
            rw [← HFI.out, h7, ← HN.out]
            exact (List.getElem?_eq_some_iff.1 h8).1
          have f1_ : decide ((i : Int) < (n : Int)) = true := by simp; omega
          have f2_ : decide (i < n) = true := by simp; omega
          have f3_ : decide ((n : Int) ≤ (i : Int)) = false := by simp; omega
          have f4_ : decide (n ≤ i) = false := by simp; omega
          obtain ⟨i', c', hf5, h7, h8, _⟩ := found_of HFB.out
          obtain rfl : i' = i := h7.symm.trans HFI.out
          obtain ⟨b, o, rfl, hb, hcells⟩ := HC.out.at h8
          have HX := Lib.hid hcells
          have hat := fun W => cert_at b o n cap i' hil W
          have HF5 := Lib.hid hf5
          clear hcells hb h7 h8 hf5
          go_upto_region 16 with fail
          clear q8 q9 q10 q11 q12 q13
          have H16 := Lib.hid R22.out.drew
          have e0 : (fun W : World => W.cell? ⟨b, o + i' * 6 + 1, none⟩ = some (.int .i64 c'.fr) ∧ W.cell? ⟨w.heap.size + 1, 1, none⟩ = some (.int .i64 c.fr)) w22.drew := ⟨(HX.out _ H16.out.below).2.1, (H16.out.box _ mq0).cell 1⟩
          refine wp_region_held_drew (S := fun W => W.cell? ⟨b, o + i' * 6 + 1, none⟩ = some (.int .i64 c'.fr) ∧ W.cell? ⟨w.heap.size + 1, 1, none⟩ = some (.int .i64 c.fr)) (by kernel_rfl) e0 (fun hHeld => ?_)
          refine wpAnyH_take (i := 0) (oi := ⟨_, _, _, _, _, _⟩) (v := ?_) rfl (by kernel_rfl) (by kernel_rfl) (by kernel_rfl) (fun _ _ _ h => h) (Or.inl ⟨by rfl, ?_⟩) (by assumption) ?_
          rotate_left
          focus (intro w hSw; (try dsimp only at hSw); go_simp; (try with_reducible rfl))
          try simp only [Act.put, List.setIfInBounds_toArray, List.set_cons_zero, List.set_cons_succ]
          refine wpAnyH_take (i := 1) (oi := ⟨_, _, _, _, _, _⟩) (v := ?_) rfl (by kernel_rfl) (by kernel_rfl) (by kernel_rfl) (fun _ _ _ h => h) (Or.inl ⟨by rfl, ?_⟩) (by assumption) ?_
          rotate_left
          focus (intro w hSw; (try dsimp only at hSw); go_simp; (try with_reducible rfl))
          try simp only [Act.put, List.setIfInBounds_toArray, List.set_cons_zero, List.set_cons_succ]
          refine wpAnyH_take (i := 2) (oi := ⟨_, _, _, _, _, _⟩) (v := ?_) rfl (by kernel_rfl) (by kernel_rfl) (by kernel_rfl) (fun _ _ _ h => h) (Or.inl ⟨by rfl, ?_⟩) (by assumption) ?_
          rotate_left
          focus (intro w hSw; (try dsimp only at hSw); go_simp; (try with_reducible rfl))
          try simp only [Act.put, List.setIfInBounds_toArray, List.set_cons_zero, List.set_cons_succ]
          refine wpAnyH_take (i := 3) (oi := ⟨_, _, _, _, _, _⟩) (v := ?_) rfl (by kernel_rfl) (by kernel_rfl) (by kernel_rfl) (fun _ _ _ h => h) (Or.inl ⟨by rfl, ?_⟩) (by assumption) ?_
          rotate_left
          focus (intro w hSw; (try dsimp only at hSw); go_simp; (try with_reducible rfl))
          try simp only [Act.put, List.setIfInBounds_toArray, List.set_cons_zero, List.set_cons_succ]
          refine wpAnyH_take (i := 4) (oi := ⟨_, _, _, _, _, _⟩) (v := ?_) rfl (by kernel_rfl) (by kernel_rfl) (by kernel_rfl) (fun _ _ _ h => h) (Or.inl ⟨by rfl, ?_⟩) (by assumption) ?_
          rotate_left
          focus (intro w hSw; (try dsimp only at hSw); go_simp; (try with_reducible rfl))
          try simp only [Act.put, List.setIfInBounds_toArray, List.set_cons_zero, List.set_cons_succ]
          refine wpAnyH_take (i := 5) (oi := ⟨_, _, _, _, _, _⟩) (v := ?_) rfl (by kernel_rfl) (by kernel_rfl) (by kernel_rfl) (fun _ _ _ h => h) (Or.inl ⟨by rfl, ?_⟩) (by assumption) ?_
          rotate_left
          focus (intro w hSw; (try dsimp only at hSw); go_simp; (try with_reducible rfl))
          try simp only [Act.put, List.setIfInBounds_toArray, List.set_cons_zero, List.set_cons_succ]
          refine wpAnyH_take (i := 6) (oi := ⟨_, _, _, _, _, _⟩) (v := ?_) rfl (by kernel_rfl) (by kernel_rfl) (by kernel_rfl) (fun _ _ _ h => h) (Or.inl ⟨by rfl, ?_⟩) (by assumption) ?_
          rotate_left
          focus (intro w hSw; (try dsimp only at hSw); go_simp; (try with_reducible rfl))
          try simp only [Act.put, List.setIfInBounds_toArray, List.set_cons_zero, List.set_cons_succ]
          refine wpAnyH_take (i := 7) (oi := ⟨_, _, _, _, _, _⟩) (v := ?_) rfl (by kernel_rfl) (by kernel_rfl) (by kernel_rfl) (fun _ _ _ h => h) (Or.inl ⟨by rfl, ?_⟩) (by assumption) ?_
          rotate_left
          focus (intro w hSw; (try dsimp only at hSw); go_simp; (try with_reducible rfl))
          try simp only [Act.put, List.setIfInBounds_toArray, List.set_cons_zero, List.set_cons_succ]
          refine wpAnyH_done (by kernel_rfl) ?_ _
          clear e0 hHeld
          rcases h5 : decide (c.fr < c'.fr) with _ | _
          · skip
            go_upto_region 18 with fail
            skip
            have HNEW := Lib.hid (find_new (c := ⟨s, c.fr, c.un, c.ut, c.pm, c.dr⟩) (cov_t (c := ⟨s, c.fr, c.un, c.ut, c.pm, c.dr⟩) (s := s) (d := d) HQ.out (by simp) (by simp only; rw [decide_eq_true (Int.not_lt.1 (of_decide_eq_false h3)), decide_eq_true (Int.not_lt.1 (of_decide_eq_false h4))]; rfl)) (fun i b h => by rw [HF5.out] at h; cases h; exact Int.not_lt.1 (of_decide_eq_false h5)))
            have H18 := Lib.hid H16.out.drew
            have K0 : ∀ W, RowKit.Below w22.drew.drew.heap.size w22.drew.drew W → W.cell? ⟨w.heap.size + 1, 0, none⟩ = some (.int .i64 s) ∧ W.cell? ⟨w.heap.size + 1, 1, none⟩ = some (.int .i64 c.fr) ∧ W.cell? ⟨w.heap.size + 1, 2, none⟩ = some (.int .i64 c.un) ∧ W.cell? ⟨w.heap.size + 1, 3, none⟩ = some (.int .i64 c.ut) ∧ W.cell? ⟨w.heap.size + 1, 4, none⟩ = some (.int .i64 c.pm) ∧ W.cell? ⟨w.heap.size + 1, 5, none⟩ = some (.int .i64 c.dr) := fun W h => by
              obtain ⟨z0, z1, z2, z3, z4, z5⟩ := Fb.cells6 ((H18.out.box _ mq0).later h)
              exact ⟨z0, z1, z2, z3, z4, z5⟩
            have KK := Lib.hid K0
            clear K0
            have e0 := KK.out _ (Below.refl _ _)
            refine wp_region_held_drew (S := fun W => W.cell? ⟨w.heap.size + 1, 0, none⟩ = some (.int .i64 s) ∧ W.cell? ⟨w.heap.size + 1, 1, none⟩ = some (.int .i64 c.fr) ∧ W.cell? ⟨w.heap.size + 1, 2, none⟩ = some (.int .i64 c.un) ∧ W.cell? ⟨w.heap.size + 1, 3, none⟩ = some (.int .i64 c.ut) ∧ W.cell? ⟨w.heap.size + 1, 4, none⟩ = some (.int .i64 c.pm) ∧ W.cell? ⟨w.heap.size + 1, 5, none⟩ = some (.int .i64 c.dr)) (by kernel_rfl) e0 (fun hHeld => ?_)
            refine wpAnyH_take (i := 1) (oi := ⟨_, _, _, _, _, _⟩) (v := ?_) rfl (by kernel_rfl) (by kernel_rfl) (by kernel_rfl) (fun _ _ _ h => h) (Or.inl ⟨by rfl, ?_⟩) (by assumption) ?_
            rotate_left
            focus (intro w hSw; (try dsimp only at hSw); go_simp; (try with_reducible rfl))
            try simp only [Act.put, List.setIfInBounds_toArray, List.set_cons_zero, List.set_cons_succ]
            refine wpAnyH_take (i := 3) (oi := ⟨_, _, _, _, _, _⟩) (v := ?_) rfl (by kernel_rfl) (by kernel_rfl) (by kernel_rfl) (fun _ _ _ h => h) (Or.inl ⟨by rfl, ?_⟩) (by assumption) ?_
            rotate_left
            focus (intro w hSw; (try dsimp only at hSw); go_simp; (try with_reducible rfl))
            try simp only [Act.put, List.setIfInBounds_toArray, List.set_cons_zero, List.set_cons_succ]
            refine wpAnyH_take (i := 6) (oi := ⟨_, _, _, _, _, _⟩) (v := ?_) rfl (by kernel_rfl) (by kernel_rfl) (by kernel_rfl) (fun _ _ _ h => h) (Or.inl ⟨by rfl, ?_⟩) (by assumption) ?_
            rotate_left
            focus (intro w hSw; (try dsimp only at hSw); go_simp; (try with_reducible rfl))
            try simp only [Act.put, List.setIfInBounds_toArray, List.set_cons_zero, List.set_cons_succ]
            refine wpAnyH_take (i := 7) (oi := ⟨_, _, _, _, _, _⟩) (v := ?_) rfl (by kernel_rfl) (by kernel_rfl) (by kernel_rfl) (fun _ _ _ h => h) (Or.inl ⟨by rfl, ?_⟩) (by assumption) ?_
            rotate_left
            focus (intro w hSw; (try dsimp only at hSw); go_simp; (try with_reducible rfl))
            try simp only [Act.put, List.setIfInBounds_toArray, List.set_cons_zero, List.set_cons_succ]
            clear e0 hHeld
            show wpAnyH _ .any ops18 _ _ 10 (ls18 false false false false false) _ _
            refine region18 (x := ⟨s, c.fr, c.un, c.ut, c.pm, c.dr⟩) (w0 := w22.drew.drew) (ar := _) (m := n) (cr := cap) (s := s) (d := d) (fun d_ _ _ _ _ h => by cases d_ <;> exact h) (fun W hW => KK.out W hW) (Nat.le_of_ble_eq_true rfl) rfl rfl rfl rfl (HC.out.later H18.out.below) HN.out HN110.out (HNEW.out.1.trans HN.out) HNEW.out.2 ?_ 10 false false false false false _ _ rfl rfl (Kp.refl _ _) ⟨Below.refl _ _, (fun h => Bool.noConfusion h), (fun h _ => Bool.noConfusion h), (fun h _ => Bool.noConfusion h), (fun h _ => Bool.noConfusion h), (fun h => Bool.noConfusion h)⟩
            intro v149 v48 v50 v52 v53 v57 w8 hb8
            have S18 := Lib.hid (H18.out.later hb8)
            clear hb8
            try simp only [Act.put, List.setIfInBounds_toArray, List.set_cons_zero, List.set_cons_succ]
            have e9 : ((n : Int) == (n : Int)) = true := by simp
            go_wp2_with fail
            go_ret
            exact ⟨rfl, S18.out.below⟩
          · go_wp2_with fail
            go_ret
            exact ⟨rfl, H16.out.below⟩
      · skip
        cases fb
        case false =>
          go_wp2_with fail
          go_ret
          exact ⟨rfl, R22.out.below⟩
        case true =>
          have hil : i < n := by
            obtain ⟨i', c', _, h7, h8, _⟩ := found_of HFB.out
            rw [← HFI.out, h7, ← HN.out]
            exact (List.getElem?_eq_some_iff.1 h8).1
          have f1_ : decide ((i : Int) < (n : Int)) = true := by simp; omega
          have f2_ : decide (i < n) = true := by simp; omega
          have f3_ : decide ((n : Int) ≤ (i : Int)) = false := by simp; omega
          have f4_ : decide (n ≤ i) = false := by simp; omega
          go_wp2_with fail
          go_ret
          exact ⟨rfl, R22.out.below⟩
    · skip
      cases fb
      case false =>
        go_wp2_with fail
        go_ret
        exact ⟨rfl, R22.out.below⟩
      case true =>
        have hil : i < n := by
          obtain ⟨i', c', _, h7, h8, _⟩ := found_of HFB.out
          rw [← HFI.out, h7, ← HN.out]
          exact (List.getElem?_eq_some_iff.1 h8).1
        have f1_ : decide ((i : Int) < (n : Int)) = true := by simp; omega
        have f2_ : decide (i < n) = true := by simp; omega
        have f3_ : decide ((n : Int) ≤ (i : Int)) = false := by simp; omega
        have f4_ : decide (n ≤ i) = false := by simp; omega
        go_wp2_with fail
        go_ret
        exact ⟨rfl, R22.out.below⟩

set_option maxHeartbeats 64000000 in
theorem recalls_sc {a a2 : Option Addr} {n cap m cap2 : Nat} {l : List Ct} {rl : List (Int × Int)} {s r d : Int} {x1 x2 : Int} {c : Ct} {w : World} (hc : Cs w a l) (hn : l.length = n) (hl : n ≤ 110) (hr : Rs w a2 rl) (hm : rl.length = m) (hl2 : m ≤ 50) (h1 : (x1 == s) = false) : Calls Try.prog 7 #[.slice a n cap, .slice a2 m cap2, .int .i64 s, .int .i64 r, .int .i64 d, .agg #[.int .i64 x1, .int .i64 x2], .agg #[.int .i64 c.sc, .int .i64 c.fr, .int .i64 c.un, .int .i64 c.ut, .int .i64 c.pm, .int .i64 c.dr]] w (Gv (.bool true) w) := by
  have HC := Lib.hid hc
  have HN := Lib.hid hn
  have HR := Lib.hid hr
  have HM := Lib.hid hm
  have HL : Hid (n ≤ 1000000) := Lib.hid (by omega)
  have HL2 : Hid (m ≤ 1000000) := Lib.hid (by omega)
  have HNB : Hid (n ≤ 9223372036854775807) := Lib.hid (by omega)
  have HMB : Hid (m ≤ 9223372036854775807) := Lib.hid (by omega)
  have gn : decide ((110 : Int) < (n : Int)) = false := by simp; omega
  have gm : decide ((50 : Int) < (m : Int)) = false := by simp; omega
  have gn2 : decide (110 < n) = false := by simp; omega
  have gm2 : decide (50 < m) = false := by simp; omega
  obtain ⟨D1, hd1⟩ : ∃ D, ivL s r d l rl = D := ⟨_, rfl⟩
  obtain ⟨D2, hd2⟩ : ∃ D, ivH s r d l rl = D := ⟨_, rfl⟩
  obtain ⟨kk, hdk⟩ : ∃ b, ivB s r d l rl = b := ⟨_, rfl⟩
  have HD1 := Lib.hid hd1
  have HD2 := Lib.hid hd2
  have HDK := Lib.hid hdk
  have HM50 := Lib.hid (show m ≤ 1000 by omega)
  have HN110 := Lib.hid (show n ≤ 1000 by omega)
  obtain ⟨i, hfi⟩ : ∃ i, fI s d l = i := ⟨_, rfl⟩
  obtain ⟨fb, hfb⟩ : ∃ b, fB s d l = b := ⟨_, rfl⟩
  have HFI := Lib.hid hfi
  have HFB := Lib.hid hfb
  obtain ⟨q, hq⟩ : ∃ z, (Ct.mk s c.fr c.un c.ut c.pm c.dr).ok = z := ⟨_, rfl⟩
  have HQ := Lib.hid hq
  have i0 : decide ((i : Int) < 0) = false := by simp
  have i1 : decide (0 ≤ (i : Int)) = true := by simp
  clear hfi hfb hq
  have hsn := rec_snoc_f (x := (x1, x2)) (rl := rl) (s := s) (d := d) (by simp only [show decide (x1 = s) = false by simpa using h1]; rfl) l r
  have HK2 := Lib.hid (hsn.1.trans hdk)
  have HD3 := Lib.hid (hsn.2.1.trans hd1)
  have HD4 := Lib.hid (hsn.2.2.trans hd2)
  have e3 : (kk != kk) = false := by simp
  clear hsn
  clear hd1 hd2 hdk
  have s0 := (((Sf.start w).put [.int .i64 x1, .int .i64 x2] 52).put [.int .i64 c.sc, .int .i64 c.fr, .int .i64 c.un, .int .i64 c.ut, .int .i64 c.pm, .int .i64 c.dr] 25)
  try simp only [World.size_alloc] at s0
  have S0 := Lib.hid s0
  clear s0
  clear hc hn hl hr hm hl2
  go_enter Try.func7, Try.ntmps7
  go_wp2_with fail
  refine (sane_any).mono ?_
  rintro e w1 ⟨rfl, hb⟩
  have R1 := Lib.hid (S0.out.later hb)
  clear hb
  go_wp2_with fail
  refine (ivl_raw (HC.out.later R1.out.below) HN.out HL.out (HR.out.later R1.out.below) HM.out HL2.out HD1.out HD2.out HDK.out).mono ?_
  rintro e w2 ⟨av2, nv2, cv2, bv2, mv2, dv2, az2, nz2, cz2, bz2, mz2, dz2, rfl, hi, hj, hp, hq, hb, h1, h2, h3, h4⟩
  have R2 := Lib.hid (Sf.ret4 R1.out hb hi h1 hj h2 hp h3 hq h4)
  clear hi hj hp hq hb h1 h2 h3 h4
  have p1 := (R2.out.put [.int .i64 0, .slice none 0 0, .int .i64 0, .slice none 0 0] 34).put [.int .i64 0, .slice none 0 0, .int .i64 0, .slice none 0 0] 34
  try simp only [World.size_alloc] at p1
  have P1 := Lib.hid p1
  clear p1
  have Q1 := Lib.hid (Sf.row (pre := [(w2.heap.size + 1, 34, [.int .i64 0, .slice none 0 0, .int .i64 0, .slice none 0 0])]) P1.out [.int .i64 D1.s, .slice av2 nv2 cv2, .int .i64 D1.t, .slice bv2 mv2 dv2])
  have T1 := Lib.hid (Sf.row (pre := []) Q1.out [.int .i64 D2.s, .slice az2 nz2 cz2, .int .i64 D2.t, .slice bz2 mz2 dz2])
  obtain ⟨V1, hV1⟩ : ∃ V, ((((w2.alloc (.cells #[.int .i64 0, .slice none 0 0, .int .i64 0, .slice none 0 0] 34)).alloc (.cells #[.int .i64 0, .slice none 0 0, .int .i64 0, .slice none 0 0] 34)).setRow (w2.heap.size) #[.int .i64 D1.s, .slice av2 nv2 cv2, .int .i64 D1.t, .slice bv2 mv2 dv2]).setRow (w2.heap.size + 1) #[.int .i64 D2.s, .slice az2 nz2 cz2, .int .i64 D2.t, .slice bz2 mz2 dz2]) = V := ⟨_, rfl⟩
  have T1 : Hid (Sf w ([] ++ (w2.heap.size + 1, 34, [.int .i64 D2.s, .slice az2 nz2 cz2, .int .i64 D2.t, .slice bz2 mz2 dz2]) :: (w2.heap.size, 34, [.int .i64 D1.s, .slice av2 nv2 cv2, .int .i64 D1.t, .slice bv2 mv2 dv2]) :: [(w.heap.size + 1, 25, [.int .i64 c.sc, .int .i64 c.fr, .int .i64 c.un, .int .i64 c.ut, .int .i64 c.pm, .int .i64 c.dr]), (w.heap.size, 52, [.int .i64 x1, .int .i64 x2])]) _ V1) := Lib.hid (by have := T1.out; rw [← hV1]; exact this)
  have HV1 := Lib.hid hV1
  clear hV1
  go_upto_region 5 with (first | (refine wpList_store_row rfl _ _ _ rfl _ #[.int .i64 D2.s, .slice az2 nz2 cz2, .int .i64 D2.t, .slice bz2 mz2 dz2] rfl rfl _ _ (Q1.out.box _ mq0) (by kernel_rfl) rfl (by simp [Value.oneCell']) ?_; rw [HV1.out]) | refine wpList_store_row rfl _ _ _ rfl _ #[.int .i64 D1.s, .slice av2 nv2 cv2, .int .i64 D1.t, .slice bv2 mv2 dv2] rfl rfl _ _ (P1.out.box _ mq1) (by kernel_rfl) rfl (by simp [Value.oneCell']) ?_)
  have HV := Lib.hid T1.out.below
  have HBC : Hid (Fb (w.heap.size + 1, 25, [.int .i64 c.sc, .int .i64 c.fr, .int .i64 c.un, .int .i64 c.ut, .int .i64 c.pm, .int .i64 c.dr]) V1) := Lib.hid (T1.out.box _ mq2)
  have HBX : Hid (Fb (w.heap.size, 52, [.int .i64 x1, .int .i64 x2]) V1) := Lib.hid (T1.out.box _ mq3)
  have HBA : Hid (Fb (w2.heap.size, 34, [.int .i64 D1.s, .slice av2 nv2 cv2, .int .i64 D1.t, .slice bv2 mv2 dv2]) V1) := Lib.hid (T1.out.box _ mq1)
  have HBB : Hid (Fb (w2.heap.size + 1, 34, [.int .i64 D2.s, .slice az2 nz2 cz2, .int .i64 D2.t, .slice bz2 mz2 dz2]) V1) := Lib.hid (T1.out.box _ mq0)
  have HI1 := Lib.hid (T1.out.ints (.slice av2 nv2 cv2, D1.l) mq0)
  have HI2 := Lib.hid (T1.out.ints (.slice bv2 mv2 dv2, D1.k) mq1)
  have HI3 := Lib.hid (T1.out.ints (.slice az2 nz2 cz2, D2.l) mq2)
  have HI4 := Lib.hid (T1.out.ints (.slice bz2 mz2 dz2, D2.k) mq3)
  clear T1
  have hdr : RowKit.Below V1.heap.size V1 V1.drew := ⟨rfl, rfl, rfl, Nat.le_refl _, fun _ _ => rfl⟩
  have HDR := Lib.hid hdr
  clear hdr
  have K0 : ∀ W, RowKit.Below V1.heap.size V1 W → W.cell? ⟨w.heap.size, 0, none⟩ = some (.int .i64 x1) ∧ W.cell? ⟨w.heap.size, 1, none⟩ = some (.int .i64 x2) := fun W h => ⟨(HBX.out.later h).cell 0, (HBX.out.later h).cell 1⟩
  have KK := Lib.hid K0
  clear K0
  have e0 := KK.out _ HDR.out
  refine wp_region_held_drew (S := fun W => W.cell? ⟨w.heap.size, 0, none⟩ = some (.int .i64 x1) ∧ W.cell? ⟨w.heap.size, 1, none⟩ = some (.int .i64 x2)) (by kernel_rfl) e0 (fun hHeld => ?_)
  refine wpAnyH_take (i := 0) (oi := ⟨_, _, _, _, _, _⟩) (v := ?_) rfl (by kernel_rfl) (by kernel_rfl) (by kernel_rfl) (fun _ _ _ h => h) (Or.inl ⟨by rfl, ?_⟩) (by assumption) ?_
  rotate_left
  focus (intro w hSw; (try dsimp only at hSw); go_simp; (try with_reducible rfl))
  try simp only [Act.put, List.setIfInBounds_toArray, List.set_cons_zero, List.set_cons_succ]
  refine wpAnyH_take (i := 2) (oi := ⟨_, _, _, _, _, _⟩) (v := ?_) rfl (by kernel_rfl) (by kernel_rfl) (by kernel_rfl) (fun _ _ _ h => h) (Or.inl ⟨by rfl, ?_⟩) (by assumption) ?_
  rotate_left
  focus (intro w hSw; (try dsimp only at hSw); go_simp; (try with_reducible rfl))
  try simp only [Act.put, List.setIfInBounds_toArray, List.set_cons_zero, List.set_cons_succ]
  refine wpAnyH_take (i := 4) (oi := ⟨_, _, _, _, _, _⟩) (v := ?_) rfl (by kernel_rfl) (by kernel_rfl) (by kernel_rfl) (fun _ _ _ h => h) (Or.inl ⟨by rfl, ?_⟩) (by assumption) ?_
  rotate_left
  focus (intro w hSw; (try dsimp only at hSw); go_simp; (try with_reducible rfl))
  try simp only [Act.put, List.setIfInBounds_toArray, List.set_cons_zero, List.set_cons_succ]
  refine wpAnyH_take (i := 7) (oi := ⟨_, _, _, _, _, _⟩) (v := ?_) rfl (by kernel_rfl) (by kernel_rfl) (by kernel_rfl) (fun _ _ _ h => h) (Or.inl ⟨by rfl, ?_⟩) (by assumption) ?_
  rotate_left
  focus (intro w hSw; (try dsimp only at hSw); go_simp; (try with_reducible rfl))
  try simp only [Act.put, List.setIfInBounds_toArray, List.set_cons_zero, List.set_cons_succ]
  refine wpAnyH_take (i := 8) (oi := ⟨_, _, _, _, _, _⟩) (v := ?_) rfl (by kernel_rfl) (by kernel_rfl) (by kernel_rfl) (fun _ _ _ h => h) (Or.inl ⟨by rfl, ?_⟩) (by assumption) ?_
  rotate_left
  focus (intro w hSw; (try dsimp only at hSw); go_simp; (try with_reducible rfl))
  try simp only [Act.put, List.setIfInBounds_toArray, List.set_cons_zero, List.set_cons_succ]
  refine wpAnyH_take (i := 9) (oi := ⟨_, _, _, _, _, _⟩) (v := ?_) rfl (by kernel_rfl) (by kernel_rfl) (by kernel_rfl) (fun _ _ _ h => h) (Or.inl ⟨by rfl, ?_⟩) (by assumption) ?_
  rotate_left
  focus (intro w hSw; (try dsimp only at hSw); go_simp; (try with_reducible rfl))
  try simp only [Act.put, List.setIfInBounds_toArray, List.set_cons_zero, List.set_cons_succ]
  clear e0 hHeld
  show wpAnyH _ .any ops5 _ _ 14 (ls5 false false false false false false false) _ _
  refine region5 (x := (x1, x2)) (w0 := V1.drew) (ac := a) (ar := a2) (n := n) (cap := cap) (m := m) (cr := cap2) (s := s) (r := r) (d := d) (fun d_ _ _ _ _ h => by cases d_ <;> exact h) (fun W hW => KK.out W (HDR.out.trans hW)) (Nat.le_of_ble_eq_true rfl) rfl rfl rfl rfl rfl rfl (HC.out.later (HV.out.trans (HDR.out.mono HV.out.size))) HN.out HL.out (HR.out.later (HV.out.trans (HDR.out.mono HV.out.size))) HM.out HM50.out HD3.out HD4.out HK2.out ?_ 14 false false false false false false false _ _ rfl rfl (Kp.refl _ _) ⟨Below.refl _ _, (fun h => Bool.noConfusion h), (fun h _ => Bool.noConfusion h), (fun h _ => Bool.noConfusion h), (fun h _ => Bool.noConfusion h), (fun h => Bool.noConfusion h), (fun h => Bool.noConfusion h), (fun h => Bool.noConfusion h), (fun h _ => Bool.noConfusion h)⟩
  intro v46 v48 v50 v52 v53 v57 q1 q4 q7 y1 q2 q3 q5 q6 q8 q9 y2 y3 g1 g2 w5 hb5 hf1 hf2 j1 j2 j3 j4
  have HB5 := Lib.hid (HDR.out.trans hb5)
  have HF1 := Lib.hid hf1
  have HF2 := Lib.hid hf2
  have HA5 := Lib.hid (HBA.out.later HB5.out)
  have HBB5 := Lib.hid (HBB.out.later HB5.out)
  have HX5 := Lib.hid (HBX.out.later HB5.out)
  have HC5 := Lib.hid (HBC.out.later HB5.out)
  have HW5 := Lib.hid (HV.out.trans (HB5.out.mono HV.out.size))
  have s10 := ((((((((Sf.start w5).arg j4).arg j3).arg j2).arg j1).arg (HI4.out.later HB5.out)).arg (HI3.out.later HB5.out)).arg (HI2.out.later HB5.out)).arg (HI1.out.later HB5.out)
  have S10 := Lib.hid s10
  clear hb5 hf1 hf2 j1 j2 j3 j4 s10 HBA HBB HBX HBC KK HI1 HI2 HI3 HI4
  try simp only [Act.put, List.setIfInBounds_toArray, List.set_cons_zero, List.set_cons_succ]
  obtain ⟨x0_, x1_⟩ := Fb.cells2 (HX5.out.later S10.out.below)
  obtain ⟨c1_, c2_, c3_, c4_⟩ := Fb.cells4 (HA5.out.later S10.out.below)
  obtain ⟨d1_, d2_, d3_, d4_⟩ := Fb.cells4 (HF1.out.later S10.out.below)
  go_wp2_with fail
  clear x0_ x1_ c1_ c2_ c3_ c4_ d1_ d2_ d3_ d4_
  refine (rsame_d (S10.out.ints (.slice av2 nv2 cv2, D1.l) mq0) (S10.out.ints (.slice bv2 mv2 dv2, D1.k) mq1) (S10.out.ints (.slice q1 q2 q3, D1.l) mq4) (S10.out.ints (.slice q4 q5 q6, D1.k) mq5)).mono ?_
  rintro e w21 ⟨rfl, hb⟩
  have R21 := Lib.hid (S10.out.later hb)
  clear hb
  obtain ⟨c1_, c2_, c3_, c4_⟩ := Fb.cells4 (HBB5.out.later R21.out.below)
  obtain ⟨d1_, d2_, d3_, d4_⟩ := Fb.cells4 (HF2.out.later R21.out.below)
  go_wp2_with fail
  clear c1_ c2_ c3_ c4_ d1_ d2_ d3_ d4_
  refine (rsame_d (R21.out.ints (.slice az2 nz2 cz2, D2.l) mq2) (R21.out.ints (.slice bz2 mz2 dz2, D2.k) mq3) (R21.out.ints (.slice q7 q8 q9, D2.l) mq6) (R21.out.ints (.slice y1 y2 y3, D2.k) mq7)).mono ?_
  rintro e w22 ⟨rfl, hb⟩
  have R22 := Lib.hid (R21.out.later hb)
  clear hb
  have HW6 := Lib.hid (HW5.out.trans (R22.out.below.mono HW5.out.size))
  have HC6 := Lib.hid (HC5.out.later R22.out.below)
  have S11 := Lib.hid (mkSf (F := []) HW6.out (Nat.le_succ _) HC6.out (by simp) (by simp))
  have S12 : Hid (Sf w [(w.heap.size + 1, 25, [.int .i64 s, .int .i64 c.fr, .int .i64 c.un, .int .i64 c.ut, .int .i64 c.pm, .int .i64 c.dr])] [] (w22.setCell ⟨w.heap.size + 1, 0, none⟩ (.int .i64 s))) := Lib.hid (Sf.set (pre := []) (post := []) S11.out 0 (.int .i64 s))
  obtain ⟨u0, u1, u2, u3, u4, u5⟩ := Fb.cells6 HC6.out
  have u6 := HC6.out.free 0
  go_wp2_with fail
  clear u0 u1 u2 u3 u4 u5 u6
  refine (find_any (HC.out.later S12.out.below) HN.out HL.out HFI.out HFB.out).mono ?_
  rintro e w23 ⟨rfl, hb⟩
  have R23 := Lib.hid (S12.out.later hb)
  clear hb
  obtain ⟨q2, q3, q4, q5, q6, q7⟩ := Fb.cells6 (R23.out.box (w.heap.size + 1, 25, [.int .i64 s, .int .i64 c.fr, .int .i64 c.un, .int .i64 c.ut, .int .i64 c.pm, .int .i64 c.dr]) mq0)
  go_wp2_with fail
  clear q2 q3 q4 q5 q6 q7
  refine (right_f HQ.out).mono ?_
  rintro e w24 ⟨rfl, hb⟩
  have R24 := Lib.hid (R23.out.later hb)
  clear hb
  obtain ⟨q8, q9, q10, q11, q12, q13⟩ := Fb.cells6 (R24.out.box (w.heap.size + 1, 25, [.int .i64 s, .int .i64 c.fr, .int .i64 c.un, .int .i64 c.ut, .int .i64 c.pm, .int .i64 c.dr]) mq0)
  cases q
  case false =>
    cases fb
    case false =>
      go_wp2_with fail
      go_ret
      exact ⟨rfl, R24.out.below⟩
    case true =>
      have hil : i < n := by
        obtain ⟨i', c', _, h7, h8, _⟩ := found_of HFB.out
        rw [← HFI.out, h7, ← HN.out]
        exact (List.getElem?_eq_some_iff.1 h8).1
      have f1_ : decide ((i : Int) < (n : Int)) = true := by simp; omega
      have f2_ : decide (i < n) = true := by simp; omega
      have f3_ : decide ((n : Int) ≤ (i : Int)) = false := by simp; omega
      have f4_ : decide (n ≤ i) = false := by simp; omega
      go_wp2_with fail
      go_ret
      exact ⟨rfl, R24.out.below⟩
  case true =>
    rcases h3 : decide (d < c.fr) with _ | _
    · skip
      rcases h4 : decide (c.un < d) with _ | _
      · skip
        cases fb
        case false =>
          go_upto_region 18 with fail
          clear q8 q9 q10 q11 q12 q13
          have HNEW := Lib.hid (find_new (c := ⟨s, c.fr, c.un, c.ut, c.pm, c.dr⟩) (cov_t (c := ⟨s, c.fr, c.un, c.ut, c.pm, c.dr⟩) (s := s) (d := d) HQ.out (by simp) (by simp only; rw [decide_eq_true (Int.not_lt.1 (of_decide_eq_false h3)), decide_eq_true (Int.not_lt.1 (of_decide_eq_false h4))]; rfl)) (fun i b h => by have := HFB.out; unfold fB at this; rw [h] at this; cases this))
          have H18 := Lib.hid R24.out.drew
          have K0 : ∀ W, RowKit.Below w24.drew.heap.size w24.drew W → W.cell? ⟨w.heap.size + 1, 0, none⟩ = some (.int .i64 s) ∧ W.cell? ⟨w.heap.size + 1, 1, none⟩ = some (.int .i64 c.fr) ∧ W.cell? ⟨w.heap.size + 1, 2, none⟩ = some (.int .i64 c.un) ∧ W.cell? ⟨w.heap.size + 1, 3, none⟩ = some (.int .i64 c.ut) ∧ W.cell? ⟨w.heap.size + 1, 4, none⟩ = some (.int .i64 c.pm) ∧ W.cell? ⟨w.heap.size + 1, 5, none⟩ = some (.int .i64 c.dr) := fun W h => by
            obtain ⟨z0, z1, z2, z3, z4, z5⟩ := Fb.cells6 ((H18.out.box _ mq0).later h)
            exact ⟨z0, z1, z2, z3, z4, z5⟩
          have KK := Lib.hid K0
          clear K0
          have e0 := KK.out _ (Below.refl _ _)
          refine wp_region_held_drew (S := fun W => W.cell? ⟨w.heap.size + 1, 0, none⟩ = some (.int .i64 s) ∧ W.cell? ⟨w.heap.size + 1, 1, none⟩ = some (.int .i64 c.fr) ∧ W.cell? ⟨w.heap.size + 1, 2, none⟩ = some (.int .i64 c.un) ∧ W.cell? ⟨w.heap.size + 1, 3, none⟩ = some (.int .i64 c.ut) ∧ W.cell? ⟨w.heap.size + 1, 4, none⟩ = some (.int .i64 c.pm) ∧ W.cell? ⟨w.heap.size + 1, 5, none⟩ = some (.int .i64 c.dr)) (by kernel_rfl) e0 (fun hHeld => ?_)
          refine wpAnyH_take (i := 1) (oi := ⟨_, _, _, _, _, _⟩) (v := ?_) rfl (by kernel_rfl) (by kernel_rfl) (by kernel_rfl) (fun _ _ _ h => h) (Or.inl ⟨by rfl, ?_⟩) (by assumption) ?_
          rotate_left
          focus (intro w hSw; (try dsimp only at hSw); go_simp; (try with_reducible rfl))
          try simp only [Act.put, List.setIfInBounds_toArray, List.set_cons_zero, List.set_cons_succ]
          refine wpAnyH_take (i := 3) (oi := ⟨_, _, _, _, _, _⟩) (v := ?_) rfl (by kernel_rfl) (by kernel_rfl) (by kernel_rfl) (fun _ _ _ h => h) (Or.inl ⟨by rfl, ?_⟩) (by assumption) ?_
          rotate_left
          focus (intro w hSw; (try dsimp only at hSw); go_simp; (try with_reducible rfl))
          try simp only [Act.put, List.setIfInBounds_toArray, List.set_cons_zero, List.set_cons_succ]
          refine wpAnyH_take (i := 6) (oi := ⟨_, _, _, _, _, _⟩) (v := ?_) rfl (by kernel_rfl) (by kernel_rfl) (by kernel_rfl) (fun _ _ _ h => h) (Or.inl ⟨by rfl, ?_⟩) (by assumption) ?_
          rotate_left
          focus (intro w hSw; (try dsimp only at hSw); go_simp; (try with_reducible rfl))
          try simp only [Act.put, List.setIfInBounds_toArray, List.set_cons_zero, List.set_cons_succ]
          refine wpAnyH_take (i := 7) (oi := ⟨_, _, _, _, _, _⟩) (v := ?_) rfl (by kernel_rfl) (by kernel_rfl) (by kernel_rfl) (fun _ _ _ h => h) (Or.inl ⟨by rfl, ?_⟩) (by assumption) ?_
          rotate_left
          focus (intro w hSw; (try dsimp only at hSw); go_simp; (try with_reducible rfl))
          try simp only [Act.put, List.setIfInBounds_toArray, List.set_cons_zero, List.set_cons_succ]
          clear e0 hHeld
          show wpAnyH _ .any ops18 _ _ 10 (ls18 false false false false false) _ _
          refine region18 (x := ⟨s, c.fr, c.un, c.ut, c.pm, c.dr⟩) (w0 := w24.drew) (ar := _) (m := n) (cr := cap) (s := s) (d := d) (fun d_ _ _ _ _ h => by cases d_ <;> exact h) (fun W hW => KK.out W hW) (Nat.le_of_ble_eq_true rfl) rfl rfl rfl rfl (HC.out.later H18.out.below) HN.out HN110.out (HNEW.out.1.trans HN.out) HNEW.out.2 ?_ 10 false false false false false _ _ rfl rfl (Kp.refl _ _) ⟨Below.refl _ _, (fun h => Bool.noConfusion h), (fun h _ => Bool.noConfusion h), (fun h _ => Bool.noConfusion h), (fun h _ => Bool.noConfusion h), (fun h => Bool.noConfusion h)⟩
          intro v149 v48 v50 v52 v53 v57 w8 hb8
          have S18 := Lib.hid (H18.out.later hb8)
          clear hb8
          try simp only [Act.put, List.setIfInBounds_toArray, List.set_cons_zero, List.set_cons_succ]
          have e9 : ((n : Int) == (n : Int)) = true := by simp
          go_wp2_with fail
          go_ret
          exact ⟨rfl, S18.out.below⟩
        case true =>
          have hil : i < n := by
            obtain ⟨i', c', _, h7, h8, _⟩ := found_of HFB.out
            rw [← HFI.out, h7, ← HN.out]
            exact (List.getElem?_eq_some_iff.1 h8).1
          have f1_ : decide ((i : Int) < (n : Int)) = true := by simp; omega
          have f2_ : decide (i < n) = true := by simp; omega
          have f3_ : decide ((n : Int) ≤ (i : Int)) = false := by simp; omega
          have f4_ : decide (n ≤ i) = false := by simp; omega
          obtain ⟨i', c', hf5, h7, h8, _⟩ := found_of HFB.out
          obtain rfl : i' = i := h7.symm.trans HFI.out
          obtain ⟨b, o, rfl, hb, hcells⟩ := HC.out.at h8
          have HX := Lib.hid hcells
          have hat := fun W => cert_at b o n cap i' hil W
          have HF5 := Lib.hid hf5
          clear hcells hb h7 h8 hf5
          go_upto_region 16 with fail
          clear q8 q9 q10 q11 q12 q13
          have H16 := Lib.hid R24.out.drew
          have e0 : (fun W : World => W.cell? ⟨b, o + i' * 6 + 1, none⟩ = some (.int .i64 c'.fr) ∧ W.cell? ⟨w.heap.size + 1, 1, none⟩ = some (.int .i64 c.fr)) w24.drew := ⟨(HX.out _ H16.out.below).2.1, (H16.out.box _ mq0).cell 1⟩
          refine wp_region_held_drew (S := fun W => W.cell? ⟨b, o + i' * 6 + 1, none⟩ = some (.int .i64 c'.fr) ∧ W.cell? ⟨w.heap.size + 1, 1, none⟩ = some (.int .i64 c.fr)) (by kernel_rfl) e0 (fun hHeld => ?_)
          refine wpAnyH_take (i := 0) (oi := ⟨_, _, _, _, _, _⟩) (v := ?_) rfl (by kernel_rfl) (by kernel_rfl) (by kernel_rfl) (fun _ _ _ h => h) (Or.inl ⟨by rfl, ?_⟩) (by assumption) ?_
          rotate_left
          focus (intro w hSw; (try dsimp only at hSw); go_simp; (try with_reducible rfl))
          try simp only [Act.put, List.setIfInBounds_toArray, List.set_cons_zero, List.set_cons_succ]
          refine wpAnyH_take (i := 1) (oi := ⟨_, _, _, _, _, _⟩) (v := ?_) rfl (by kernel_rfl) (by kernel_rfl) (by kernel_rfl) (fun _ _ _ h => h) (Or.inl ⟨by rfl, ?_⟩) (by assumption) ?_
          rotate_left
          focus (intro w hSw; (try dsimp only at hSw); go_simp; (try with_reducible rfl))
          try simp only [Act.put, List.setIfInBounds_toArray, List.set_cons_zero, List.set_cons_succ]
          refine wpAnyH_take (i := 2) (oi := ⟨_, _, _, _, _, _⟩) (v := ?_) rfl (by kernel_rfl) (by kernel_rfl) (by kernel_rfl) (fun _ _ _ h => h) (Or.inl ⟨by rfl, ?_⟩) (by assumption) ?_
          rotate_left
          focus (intro w hSw; (try dsimp only at hSw); go_simp; (try with_reducible rfl))
          try simp only [Act.put, List.setIfInBounds_toArray, List.set_cons_zero, List.set_cons_succ]
          refine wpAnyH_take (i := 3) (oi := ⟨_, _, _, _, _, _⟩) (v := ?_) rfl (by kernel_rfl) (by kernel_rfl) (by kernel_rfl) (fun _ _ _ h => h) (Or.inl ⟨by rfl, ?_⟩) (by assumption) ?_
          rotate_left
          focus (intro w hSw; (try dsimp only at hSw); go_simp; (try with_reducible rfl))
          try simp only [Act.put, List.setIfInBounds_toArray, List.set_cons_zero, List.set_cons_succ]
          refine wpAnyH_take (i := 4) (oi := ⟨_, _, _, _, _, _⟩) (v := ?_) rfl (by kernel_rfl) (by kernel_rfl) (by kernel_rfl) (fun _ _ _ h => h) (Or.inl ⟨by rfl, ?_⟩) (by assumption) ?_
          rotate_left
          focus (intro w hSw; (try dsimp only at hSw); go_simp; (try with_reducible rfl))
          try simp only [Act.put, List.setIfInBounds_toArray, List.set_cons_zero, List.set_cons_succ]
          refine wpAnyH_take (i := 5) (oi := ⟨_, _, _, _, _, _⟩) (v := ?_) rfl (by kernel_rfl) (by kernel_rfl) (by kernel_rfl) (fun _ _ _ h => h) (Or.inl ⟨by rfl, ?_⟩) (by assumption) ?_
          rotate_left
          focus (intro w hSw; (try dsimp only at hSw); go_simp; (try with_reducible rfl))
          try simp only [Act.put, List.setIfInBounds_toArray, List.set_cons_zero, List.set_cons_succ]
          refine wpAnyH_take (i := 6) (oi := ⟨_, _, _, _, _, _⟩) (v := ?_) rfl (by kernel_rfl) (by kernel_rfl) (by kernel_rfl) (fun _ _ _ h => h) (Or.inl ⟨by rfl, ?_⟩) (by assumption) ?_
          rotate_left
          focus (intro w hSw; (try dsimp only at hSw); go_simp; (try with_reducible rfl))
          try simp only [Act.put, List.setIfInBounds_toArray, List.set_cons_zero, List.set_cons_succ]
          refine wpAnyH_take (i := 7) (oi := ⟨_, _, _, _, _, _⟩) (v := ?_) rfl (by kernel_rfl) (by kernel_rfl) (by kernel_rfl) (fun _ _ _ h => h) (Or.inl ⟨by rfl, ?_⟩) (by assumption) ?_
          rotate_left
          focus (intro w hSw; (try dsimp only at hSw); go_simp; (try with_reducible rfl))
          try simp only [Act.put, List.setIfInBounds_toArray, List.set_cons_zero, List.set_cons_succ]
          refine wpAnyH_done (by kernel_rfl) ?_ _
          clear e0 hHeld
          rcases h5 : decide (c.fr < c'.fr) with _ | _
          · skip
            go_upto_region 18 with fail
            skip
            have HNEW := Lib.hid (find_new (c := ⟨s, c.fr, c.un, c.ut, c.pm, c.dr⟩) (cov_t (c := ⟨s, c.fr, c.un, c.ut, c.pm, c.dr⟩) (s := s) (d := d) HQ.out (by simp) (by simp only; rw [decide_eq_true (Int.not_lt.1 (of_decide_eq_false h3)), decide_eq_true (Int.not_lt.1 (of_decide_eq_false h4))]; rfl)) (fun i b h => by rw [HF5.out] at h; cases h; exact Int.not_lt.1 (of_decide_eq_false h5)))
            have H18 := Lib.hid H16.out.drew
            have K0 : ∀ W, RowKit.Below w24.drew.drew.heap.size w24.drew.drew W → W.cell? ⟨w.heap.size + 1, 0, none⟩ = some (.int .i64 s) ∧ W.cell? ⟨w.heap.size + 1, 1, none⟩ = some (.int .i64 c.fr) ∧ W.cell? ⟨w.heap.size + 1, 2, none⟩ = some (.int .i64 c.un) ∧ W.cell? ⟨w.heap.size + 1, 3, none⟩ = some (.int .i64 c.ut) ∧ W.cell? ⟨w.heap.size + 1, 4, none⟩ = some (.int .i64 c.pm) ∧ W.cell? ⟨w.heap.size + 1, 5, none⟩ = some (.int .i64 c.dr) := fun W h => by
              obtain ⟨z0, z1, z2, z3, z4, z5⟩ := Fb.cells6 ((H18.out.box _ mq0).later h)
              exact ⟨z0, z1, z2, z3, z4, z5⟩
            have KK := Lib.hid K0
            clear K0
            have e0 := KK.out _ (Below.refl _ _)
            refine wp_region_held_drew (S := fun W => W.cell? ⟨w.heap.size + 1, 0, none⟩ = some (.int .i64 s) ∧ W.cell? ⟨w.heap.size + 1, 1, none⟩ = some (.int .i64 c.fr) ∧ W.cell? ⟨w.heap.size + 1, 2, none⟩ = some (.int .i64 c.un) ∧ W.cell? ⟨w.heap.size + 1, 3, none⟩ = some (.int .i64 c.ut) ∧ W.cell? ⟨w.heap.size + 1, 4, none⟩ = some (.int .i64 c.pm) ∧ W.cell? ⟨w.heap.size + 1, 5, none⟩ = some (.int .i64 c.dr)) (by kernel_rfl) e0 (fun hHeld => ?_)
            refine wpAnyH_take (i := 1) (oi := ⟨_, _, _, _, _, _⟩) (v := ?_) rfl (by kernel_rfl) (by kernel_rfl) (by kernel_rfl) (fun _ _ _ h => h) (Or.inl ⟨by rfl, ?_⟩) (by assumption) ?_
            rotate_left
            focus (intro w hSw; (try dsimp only at hSw); go_simp; (try with_reducible rfl))
            try simp only [Act.put, List.setIfInBounds_toArray, List.set_cons_zero, List.set_cons_succ]
            refine wpAnyH_take (i := 3) (oi := ⟨_, _, _, _, _, _⟩) (v := ?_) rfl (by kernel_rfl) (by kernel_rfl) (by kernel_rfl) (fun _ _ _ h => h) (Or.inl ⟨by rfl, ?_⟩) (by assumption) ?_
            rotate_left
            focus (intro w hSw; (try dsimp only at hSw); go_simp; (try with_reducible rfl))
            try simp only [Act.put, List.setIfInBounds_toArray, List.set_cons_zero, List.set_cons_succ]
            refine wpAnyH_take (i := 6) (oi := ⟨_, _, _, _, _, _⟩) (v := ?_) rfl (by kernel_rfl) (by kernel_rfl) (by kernel_rfl) (fun _ _ _ h => h) (Or.inl ⟨by rfl, ?_⟩) (by assumption) ?_
            rotate_left
            focus (intro w hSw; (try dsimp only at hSw); go_simp; (try with_reducible rfl))
            try simp only [Act.put, List.setIfInBounds_toArray, List.set_cons_zero, List.set_cons_succ]
            refine wpAnyH_take (i := 7) (oi := ⟨_, _, _, _, _, _⟩) (v := ?_) rfl (by kernel_rfl) (by kernel_rfl) (by kernel_rfl) (fun _ _ _ h => h) (Or.inl ⟨by rfl, ?_⟩) (by assumption) ?_
            rotate_left
            focus (intro w hSw; (try dsimp only at hSw); go_simp; (try with_reducible rfl))
            try simp only [Act.put, List.setIfInBounds_toArray, List.set_cons_zero, List.set_cons_succ]
            clear e0 hHeld
            show wpAnyH _ .any ops18 _ _ 10 (ls18 false false false false false) _ _
            refine region18 (x := ⟨s, c.fr, c.un, c.ut, c.pm, c.dr⟩) (w0 := w24.drew.drew) (ar := _) (m := n) (cr := cap) (s := s) (d := d) (fun d_ _ _ _ _ h => by cases d_ <;> exact h) (fun W hW => KK.out W hW) (Nat.le_of_ble_eq_true rfl) rfl rfl rfl rfl (HC.out.later H18.out.below) HN.out HN110.out (HNEW.out.1.trans HN.out) HNEW.out.2 ?_ 10 false false false false false _ _ rfl rfl (Kp.refl _ _) ⟨Below.refl _ _, (fun h => Bool.noConfusion h), (fun h _ => Bool.noConfusion h), (fun h _ => Bool.noConfusion h), (fun h _ => Bool.noConfusion h), (fun h => Bool.noConfusion h)⟩
            intro v149 v48 v50 v52 v53 v57 w8 hb8
            have S18 := Lib.hid (H18.out.later hb8)
            clear hb8
            try simp only [Act.put, List.setIfInBounds_toArray, List.set_cons_zero, List.set_cons_succ]
            have e9 : ((n : Int) == (n : Int)) = true := by simp
            go_wp2_with fail
            go_ret
            exact ⟨rfl, S18.out.below⟩
          · go_wp2_with fail
            go_ret
            exact ⟨rfl, H16.out.below⟩
      · skip
        cases fb
        case false =>
          go_wp2_with fail
          go_ret
          exact ⟨rfl, R24.out.below⟩
        case true =>
          have hil : i < n := by
            obtain ⟨i', c', _, h7, h8, _⟩ := found_of HFB.out
            rw [← HFI.out, h7, ← HN.out]
            exact (List.getElem?_eq_some_iff.1 h8).1
          have f1_ : decide ((i : Int) < (n : Int)) = true := by simp; omega
          have f2_ : decide (i < n) = true := by simp; omega
          have f3_ : decide ((n : Int) ≤ (i : Int)) = false := by simp; omega
          have f4_ : decide (n ≤ i) = false := by simp; omega
          go_wp2_with fail
          go_ret
          exact ⟨rfl, R24.out.below⟩
    · skip
      cases fb
      case false =>
        go_wp2_with fail
        go_ret
        exact ⟨rfl, R24.out.below⟩
      case true =>
        have hil : i < n := by
          obtain ⟨i', c', _, h7, h8, _⟩ := found_of HFB.out
          rw [← HFI.out, h7, ← HN.out]
          exact (List.getElem?_eq_some_iff.1 h8).1
        have f1_ : decide ((i : Int) < (n : Int)) = true := by simp; omega
        have f2_ : decide (i < n) = true := by simp; omega
        have f3_ : decide ((n : Int) ≤ (i : Int)) = false := by simp; omega
        have f4_ : decide (n ≤ i) = false := by simp; omega
        go_wp2_with fail
        go_ret
        exact ⟨rfl, R24.out.below⟩

set_option maxHeartbeats 64000000 in
theorem recalls_da {a a2 : Option Addr} {n cap m cap2 : Nat} {l : List Ct} {rl : List (Int × Int)} {s r d : Int} {x1 x2 : Int} {c : Ct} {w : World} (hc : Cs w a l) (hn : l.length = n) (hl : n ≤ 110) (hr : Rs w a2 rl) (hm : rl.length = m) (hl2 : m ≤ 50) (h1 : (x1 == s) = true) (h2 : decide (x2 ≤ d) = false) : Calls Try.prog 7 #[.slice a n cap, .slice a2 m cap2, .int .i64 s, .int .i64 r, .int .i64 d, .agg #[.int .i64 x1, .int .i64 x2], .agg #[.int .i64 c.sc, .int .i64 c.fr, .int .i64 c.un, .int .i64 c.ut, .int .i64 c.pm, .int .i64 c.dr]] w (Gv (.bool true) w) := by
  have HC := Lib.hid hc
  have HN := Lib.hid hn
  have HR := Lib.hid hr
  have HM := Lib.hid hm
  have HL : Hid (n ≤ 1000000) := Lib.hid (by omega)
  have HL2 : Hid (m ≤ 1000000) := Lib.hid (by omega)
  have HNB : Hid (n ≤ 9223372036854775807) := Lib.hid (by omega)
  have HMB : Hid (m ≤ 9223372036854775807) := Lib.hid (by omega)
  have gn : decide ((110 : Int) < (n : Int)) = false := by simp; omega
  have gm : decide ((50 : Int) < (m : Int)) = false := by simp; omega
  have gn2 : decide (110 < n) = false := by simp; omega
  have gm2 : decide (50 < m) = false := by simp; omega
  obtain ⟨D1, hd1⟩ : ∃ D, ivL s r d l rl = D := ⟨_, rfl⟩
  obtain ⟨D2, hd2⟩ : ∃ D, ivH s r d l rl = D := ⟨_, rfl⟩
  obtain ⟨kk, hdk⟩ : ∃ b, ivB s r d l rl = b := ⟨_, rfl⟩
  have HD1 := Lib.hid hd1
  have HD2 := Lib.hid hd2
  have HDK := Lib.hid hdk
  have HM50 := Lib.hid (show m ≤ 1000 by omega)
  have HN110 := Lib.hid (show n ≤ 1000 by omega)
  obtain ⟨i, hfi⟩ : ∃ i, fI s d l = i := ⟨_, rfl⟩
  obtain ⟨fb, hfb⟩ : ∃ b, fB s d l = b := ⟨_, rfl⟩
  have HFI := Lib.hid hfi
  have HFB := Lib.hid hfb
  obtain ⟨q, hq⟩ : ∃ z, (Ct.mk s c.fr c.un c.ut c.pm c.dr).ok = z := ⟨_, rfl⟩
  have HQ := Lib.hid hq
  have i0 : decide ((i : Int) < 0) = false := by simp
  have i1 : decide (0 ≤ (i : Int)) = true := by simp
  clear hfi hfb hq
  have hsn := rec_snoc_f (x := (x1, x2)) (rl := rl) (s := s) (d := d) (by simp only [h2, Bool.and_false]) l r
  have HK2 := Lib.hid (hsn.1.trans hdk)
  have HD3 := Lib.hid (hsn.2.1.trans hd1)
  have HD4 := Lib.hid (hsn.2.2.trans hd2)
  have e3 : (kk != kk) = false := by simp
  clear hsn
  clear hd1 hd2 hdk
  have s0 := (((Sf.start w).put [.int .i64 x1, .int .i64 x2] 52).put [.int .i64 c.sc, .int .i64 c.fr, .int .i64 c.un, .int .i64 c.ut, .int .i64 c.pm, .int .i64 c.dr] 25)
  try simp only [World.size_alloc] at s0
  have S0 := Lib.hid s0
  clear s0
  clear hc hn hl hr hm hl2
  go_enter Try.func7, Try.ntmps7
  go_wp2_with fail
  refine (sane_any).mono ?_
  rintro e w1 ⟨rfl, hb⟩
  have R1 := Lib.hid (S0.out.later hb)
  clear hb
  go_wp2_with fail
  refine (ivl_raw (HC.out.later R1.out.below) HN.out HL.out (HR.out.later R1.out.below) HM.out HL2.out HD1.out HD2.out HDK.out).mono ?_
  rintro e w2 ⟨av2, nv2, cv2, bv2, mv2, dv2, az2, nz2, cz2, bz2, mz2, dz2, rfl, hi, hj, hp, hq, hb, h1, h2, h3, h4⟩
  have R2 := Lib.hid (Sf.ret4 R1.out hb hi h1 hj h2 hp h3 hq h4)
  clear hi hj hp hq hb h1 h2 h3 h4
  have p1 := (R2.out.put [.int .i64 0, .slice none 0 0, .int .i64 0, .slice none 0 0] 34).put [.int .i64 0, .slice none 0 0, .int .i64 0, .slice none 0 0] 34
  try simp only [World.size_alloc] at p1
  have P1 := Lib.hid p1
  clear p1
  have Q1 := Lib.hid (Sf.row (pre := [(w2.heap.size + 1, 34, [.int .i64 0, .slice none 0 0, .int .i64 0, .slice none 0 0])]) P1.out [.int .i64 D1.s, .slice av2 nv2 cv2, .int .i64 D1.t, .slice bv2 mv2 dv2])
  have T1 := Lib.hid (Sf.row (pre := []) Q1.out [.int .i64 D2.s, .slice az2 nz2 cz2, .int .i64 D2.t, .slice bz2 mz2 dz2])
  obtain ⟨V1, hV1⟩ : ∃ V, ((((w2.alloc (.cells #[.int .i64 0, .slice none 0 0, .int .i64 0, .slice none 0 0] 34)).alloc (.cells #[.int .i64 0, .slice none 0 0, .int .i64 0, .slice none 0 0] 34)).setRow (w2.heap.size) #[.int .i64 D1.s, .slice av2 nv2 cv2, .int .i64 D1.t, .slice bv2 mv2 dv2]).setRow (w2.heap.size + 1) #[.int .i64 D2.s, .slice az2 nz2 cz2, .int .i64 D2.t, .slice bz2 mz2 dz2]) = V := ⟨_, rfl⟩
  have T1 : Hid (Sf w ([] ++ (w2.heap.size + 1, 34, [.int .i64 D2.s, .slice az2 nz2 cz2, .int .i64 D2.t, .slice bz2 mz2 dz2]) :: (w2.heap.size, 34, [.int .i64 D1.s, .slice av2 nv2 cv2, .int .i64 D1.t, .slice bv2 mv2 dv2]) :: [(w.heap.size + 1, 25, [.int .i64 c.sc, .int .i64 c.fr, .int .i64 c.un, .int .i64 c.ut, .int .i64 c.pm, .int .i64 c.dr]), (w.heap.size, 52, [.int .i64 x1, .int .i64 x2])]) _ V1) := Lib.hid (by have := T1.out; rw [← hV1]; exact this)
  have HV1 := Lib.hid hV1
  clear hV1
  go_upto_region 5 with (first | (refine wpList_store_row rfl _ _ _ rfl _ #[.int .i64 D2.s, .slice az2 nz2 cz2, .int .i64 D2.t, .slice bz2 mz2 dz2] rfl rfl _ _ (Q1.out.box _ mq0) (by kernel_rfl) rfl (by simp [Value.oneCell']) ?_; rw [HV1.out]) | refine wpList_store_row rfl _ _ _ rfl _ #[.int .i64 D1.s, .slice av2 nv2 cv2, .int .i64 D1.t, .slice bv2 mv2 dv2] rfl rfl _ _ (P1.out.box _ mq1) (by kernel_rfl) rfl (by simp [Value.oneCell']) ?_)
  have HV := Lib.hid T1.out.below
  have HBC : Hid (Fb (w.heap.size + 1, 25, [.int .i64 c.sc, .int .i64 c.fr, .int .i64 c.un, .int .i64 c.ut, .int .i64 c.pm, .int .i64 c.dr]) V1) := Lib.hid (T1.out.box _ mq2)
  have HBX : Hid (Fb (w.heap.size, 52, [.int .i64 x1, .int .i64 x2]) V1) := Lib.hid (T1.out.box _ mq3)
  have HBA : Hid (Fb (w2.heap.size, 34, [.int .i64 D1.s, .slice av2 nv2 cv2, .int .i64 D1.t, .slice bv2 mv2 dv2]) V1) := Lib.hid (T1.out.box _ mq1)
  have HBB : Hid (Fb (w2.heap.size + 1, 34, [.int .i64 D2.s, .slice az2 nz2 cz2, .int .i64 D2.t, .slice bz2 mz2 dz2]) V1) := Lib.hid (T1.out.box _ mq0)
  have HI1 := Lib.hid (T1.out.ints (.slice av2 nv2 cv2, D1.l) mq0)
  have HI2 := Lib.hid (T1.out.ints (.slice bv2 mv2 dv2, D1.k) mq1)
  have HI3 := Lib.hid (T1.out.ints (.slice az2 nz2 cz2, D2.l) mq2)
  have HI4 := Lib.hid (T1.out.ints (.slice bz2 mz2 dz2, D2.k) mq3)
  clear T1
  have hdr : RowKit.Below V1.heap.size V1 V1.drew := ⟨rfl, rfl, rfl, Nat.le_refl _, fun _ _ => rfl⟩
  have HDR := Lib.hid hdr
  clear hdr
  have K0 : ∀ W, RowKit.Below V1.heap.size V1 W → W.cell? ⟨w.heap.size, 0, none⟩ = some (.int .i64 x1) ∧ W.cell? ⟨w.heap.size, 1, none⟩ = some (.int .i64 x2) := fun W h => ⟨(HBX.out.later h).cell 0, (HBX.out.later h).cell 1⟩
  have KK := Lib.hid K0
  clear K0
  have e0 := KK.out _ HDR.out
  refine wp_region_held_drew (S := fun W => W.cell? ⟨w.heap.size, 0, none⟩ = some (.int .i64 x1) ∧ W.cell? ⟨w.heap.size, 1, none⟩ = some (.int .i64 x2)) (by kernel_rfl) e0 (fun hHeld => ?_)
  refine wpAnyH_take (i := 0) (oi := ⟨_, _, _, _, _, _⟩) (v := ?_) rfl (by kernel_rfl) (by kernel_rfl) (by kernel_rfl) (fun _ _ _ h => h) (Or.inl ⟨by rfl, ?_⟩) (by assumption) ?_
  rotate_left
  focus (intro w hSw; (try dsimp only at hSw); go_simp; (try with_reducible rfl))
  try simp only [Act.put, List.setIfInBounds_toArray, List.set_cons_zero, List.set_cons_succ]
  refine wpAnyH_take (i := 2) (oi := ⟨_, _, _, _, _, _⟩) (v := ?_) rfl (by kernel_rfl) (by kernel_rfl) (by kernel_rfl) (fun _ _ _ h => h) (Or.inl ⟨by rfl, ?_⟩) (by assumption) ?_
  rotate_left
  focus (intro w hSw; (try dsimp only at hSw); go_simp; (try with_reducible rfl))
  try simp only [Act.put, List.setIfInBounds_toArray, List.set_cons_zero, List.set_cons_succ]
  refine wpAnyH_take (i := 4) (oi := ⟨_, _, _, _, _, _⟩) (v := ?_) rfl (by kernel_rfl) (by kernel_rfl) (by kernel_rfl) (fun _ _ _ h => h) (Or.inl ⟨by rfl, ?_⟩) (by assumption) ?_
  rotate_left
  focus (intro w hSw; (try dsimp only at hSw); go_simp; (try with_reducible rfl))
  try simp only [Act.put, List.setIfInBounds_toArray, List.set_cons_zero, List.set_cons_succ]
  refine wpAnyH_take (i := 7) (oi := ⟨_, _, _, _, _, _⟩) (v := ?_) rfl (by kernel_rfl) (by kernel_rfl) (by kernel_rfl) (fun _ _ _ h => h) (Or.inl ⟨by rfl, ?_⟩) (by assumption) ?_
  rotate_left
  focus (intro w hSw; (try dsimp only at hSw); go_simp; (try with_reducible rfl))
  try simp only [Act.put, List.setIfInBounds_toArray, List.set_cons_zero, List.set_cons_succ]
  refine wpAnyH_take (i := 8) (oi := ⟨_, _, _, _, _, _⟩) (v := ?_) rfl (by kernel_rfl) (by kernel_rfl) (by kernel_rfl) (fun _ _ _ h => h) (Or.inl ⟨by rfl, ?_⟩) (by assumption) ?_
  rotate_left
  focus (intro w hSw; (try dsimp only at hSw); go_simp; (try with_reducible rfl))
  try simp only [Act.put, List.setIfInBounds_toArray, List.set_cons_zero, List.set_cons_succ]
  refine wpAnyH_take (i := 9) (oi := ⟨_, _, _, _, _, _⟩) (v := ?_) rfl (by kernel_rfl) (by kernel_rfl) (by kernel_rfl) (fun _ _ _ h => h) (Or.inl ⟨by rfl, ?_⟩) (by assumption) ?_
  rotate_left
  focus (intro w hSw; (try dsimp only at hSw); go_simp; (try with_reducible rfl))
  try simp only [Act.put, List.setIfInBounds_toArray, List.set_cons_zero, List.set_cons_succ]
  clear e0 hHeld
  show wpAnyH _ .any ops5 _ _ 14 (ls5 false false false false false false false) _ _
  refine region5 (x := (x1, x2)) (w0 := V1.drew) (ac := a) (ar := a2) (n := n) (cap := cap) (m := m) (cr := cap2) (s := s) (r := r) (d := d) (fun d_ _ _ _ _ h => by cases d_ <;> exact h) (fun W hW => KK.out W (HDR.out.trans hW)) (Nat.le_of_ble_eq_true rfl) rfl rfl rfl rfl rfl rfl (HC.out.later (HV.out.trans (HDR.out.mono HV.out.size))) HN.out HL.out (HR.out.later (HV.out.trans (HDR.out.mono HV.out.size))) HM.out HM50.out HD3.out HD4.out HK2.out ?_ 14 false false false false false false false _ _ rfl rfl (Kp.refl _ _) ⟨Below.refl _ _, (fun h => Bool.noConfusion h), (fun h _ => Bool.noConfusion h), (fun h _ => Bool.noConfusion h), (fun h _ => Bool.noConfusion h), (fun h => Bool.noConfusion h), (fun h => Bool.noConfusion h), (fun h => Bool.noConfusion h), (fun h _ => Bool.noConfusion h)⟩
  intro v46 v48 v50 v52 v53 v57 q1 q4 q7 y1 q2 q3 q5 q6 q8 q9 y2 y3 g1 g2 w5 hb5 hf1 hf2 j1 j2 j3 j4
  have HB5 := Lib.hid (HDR.out.trans hb5)
  have HF1 := Lib.hid hf1
  have HF2 := Lib.hid hf2
  have HA5 := Lib.hid (HBA.out.later HB5.out)
  have HBB5 := Lib.hid (HBB.out.later HB5.out)
  have HX5 := Lib.hid (HBX.out.later HB5.out)
  have HC5 := Lib.hid (HBC.out.later HB5.out)
  have HW5 := Lib.hid (HV.out.trans (HB5.out.mono HV.out.size))
  have s10 := ((((((((Sf.start w5).arg j4).arg j3).arg j2).arg j1).arg (HI4.out.later HB5.out)).arg (HI3.out.later HB5.out)).arg (HI2.out.later HB5.out)).arg (HI1.out.later HB5.out)
  have S10 := Lib.hid s10
  clear hb5 hf1 hf2 j1 j2 j3 j4 s10 HBA HBB HBX HBC KK HI1 HI2 HI3 HI4
  try simp only [Act.put, List.setIfInBounds_toArray, List.set_cons_zero, List.set_cons_succ]
  obtain ⟨x0_, x1_⟩ := Fb.cells2 (HX5.out.later S10.out.below)
  obtain ⟨c1_, c2_, c3_, c4_⟩ := Fb.cells4 (HA5.out.later S10.out.below)
  obtain ⟨d1_, d2_, d3_, d4_⟩ := Fb.cells4 (HF1.out.later S10.out.below)
  go_wp2_with fail
  clear x0_ x1_ c1_ c2_ c3_ c4_ d1_ d2_ d3_ d4_
  refine (rsame_d (S10.out.ints (.slice av2 nv2 cv2, D1.l) mq0) (S10.out.ints (.slice bv2 mv2 dv2, D1.k) mq1) (S10.out.ints (.slice q1 q2 q3, D1.l) mq4) (S10.out.ints (.slice q4 q5 q6, D1.k) mq5)).mono ?_
  rintro e w21 ⟨rfl, hb⟩
  have R21 := Lib.hid (S10.out.later hb)
  clear hb
  obtain ⟨c1_, c2_, c3_, c4_⟩ := Fb.cells4 (HBB5.out.later R21.out.below)
  obtain ⟨d1_, d2_, d3_, d4_⟩ := Fb.cells4 (HF2.out.later R21.out.below)
  go_wp2_with fail
  clear c1_ c2_ c3_ c4_ d1_ d2_ d3_ d4_
  refine (rsame_d (R21.out.ints (.slice az2 nz2 cz2, D2.l) mq2) (R21.out.ints (.slice bz2 mz2 dz2, D2.k) mq3) (R21.out.ints (.slice q7 q8 q9, D2.l) mq6) (R21.out.ints (.slice y1 y2 y3, D2.k) mq7)).mono ?_
  rintro e w22 ⟨rfl, hb⟩
  have R22 := Lib.hid (R21.out.later hb)
  clear hb
  have HW6 := Lib.hid (HW5.out.trans (R22.out.below.mono HW5.out.size))
  have HC6 := Lib.hid (HC5.out.later R22.out.below)
  have S11 := Lib.hid (mkSf (F := []) HW6.out (Nat.le_succ _) HC6.out (by simp) (by simp))
  have S12 : Hid (Sf w [(w.heap.size + 1, 25, [.int .i64 s, .int .i64 c.fr, .int .i64 c.un, .int .i64 c.ut, .int .i64 c.pm, .int .i64 c.dr])] [] (w22.setCell ⟨w.heap.size + 1, 0, none⟩ (.int .i64 s))) := Lib.hid (Sf.set (pre := []) (post := []) S11.out 0 (.int .i64 s))
  obtain ⟨u0, u1, u2, u3, u4, u5⟩ := Fb.cells6 HC6.out
  have u6 := HC6.out.free 0
  go_wp2_with fail
  clear u0 u1 u2 u3 u4 u5 u6
  refine (find_any (HC.out.later S12.out.below) HN.out HL.out HFI.out HFB.out).mono ?_
  rintro e w23 ⟨rfl, hb⟩
  have R23 := Lib.hid (S12.out.later hb)
  clear hb
  obtain ⟨q2, q3, q4, q5, q6, q7⟩ := Fb.cells6 (R23.out.box (w.heap.size + 1, 25, [.int .i64 s, .int .i64 c.fr, .int .i64 c.un, .int .i64 c.ut, .int .i64 c.pm, .int .i64 c.dr]) mq0)
  go_wp2_with fail
  clear q2 q3 q4 q5 q6 q7
  refine (right_f HQ.out).mono ?_
  rintro e w24 ⟨rfl, hb⟩
  have R24 := Lib.hid (R23.out.later hb)
  clear hb
  obtain ⟨q8, q9, q10, q11, q12, q13⟩ := Fb.cells6 (R24.out.box (w.heap.size + 1, 25, [.int .i64 s, .int .i64 c.fr, .int .i64 c.un, .int .i64 c.ut, .int .i64 c.pm, .int .i64 c.dr]) mq0)
  cases q
  case false =>
    cases fb
    case false =>
      go_wp2_with fail
      go_ret
      exact ⟨rfl, R24.out.below⟩
    case true =>
      have hil : i < n := by
        obtain ⟨i', c', _, h7, h8, _⟩ := found_of HFB.out
        rw [← HFI.out, h7, ← HN.out]
        exact (List.getElem?_eq_some_iff.1 h8).1
      have f1_ : decide ((i : Int) < (n : Int)) = true := by simp; omega
      have f2_ : decide (i < n) = true := by simp; omega
      have f3_ : decide ((n : Int) ≤ (i : Int)) = false := by simp; omega
      have f4_ : decide (n ≤ i) = false := by simp; omega
      go_wp2_with fail
      go_ret
      exact ⟨rfl, R24.out.below⟩
  case true =>
    rcases h3 : decide (d < c.fr) with _ | _
    · skip
      rcases h4 : decide (c.un < d) with _ | _
      · skip
        cases fb
        case false =>
          go_upto_region 18 with fail
          clear q8 q9 q10 q11 q12 q13
          have HNEW := Lib.hid (find_new (c := ⟨s, c.fr, c.un, c.ut, c.pm, c.dr⟩) (cov_t (c := ⟨s, c.fr, c.un, c.ut, c.pm, c.dr⟩) (s := s) (d := d) HQ.out (by simp) (by simp only; rw [decide_eq_true (Int.not_lt.1 (of_decide_eq_false h3)), decide_eq_true (Int.not_lt.1 (of_decide_eq_false h4))]; rfl)) (fun i b h => by have := HFB.out; unfold fB at this; rw [h] at this; cases this))
          have H18 := Lib.hid R24.out.drew
          have K0 : ∀ W, RowKit.Below w24.drew.heap.size w24.drew W → W.cell? ⟨w.heap.size + 1, 0, none⟩ = some (.int .i64 s) ∧ W.cell? ⟨w.heap.size + 1, 1, none⟩ = some (.int .i64 c.fr) ∧ W.cell? ⟨w.heap.size + 1, 2, none⟩ = some (.int .i64 c.un) ∧ W.cell? ⟨w.heap.size + 1, 3, none⟩ = some (.int .i64 c.ut) ∧ W.cell? ⟨w.heap.size + 1, 4, none⟩ = some (.int .i64 c.pm) ∧ W.cell? ⟨w.heap.size + 1, 5, none⟩ = some (.int .i64 c.dr) := fun W h => by
            obtain ⟨z0, z1, z2, z3, z4, z5⟩ := Fb.cells6 ((H18.out.box _ mq0).later h)
            exact ⟨z0, z1, z2, z3, z4, z5⟩
          have KK := Lib.hid K0
          clear K0
          have e0 := KK.out _ (Below.refl _ _)
          refine wp_region_held_drew (S := fun W => W.cell? ⟨w.heap.size + 1, 0, none⟩ = some (.int .i64 s) ∧ W.cell? ⟨w.heap.size + 1, 1, none⟩ = some (.int .i64 c.fr) ∧ W.cell? ⟨w.heap.size + 1, 2, none⟩ = some (.int .i64 c.un) ∧ W.cell? ⟨w.heap.size + 1, 3, none⟩ = some (.int .i64 c.ut) ∧ W.cell? ⟨w.heap.size + 1, 4, none⟩ = some (.int .i64 c.pm) ∧ W.cell? ⟨w.heap.size + 1, 5, none⟩ = some (.int .i64 c.dr)) (by kernel_rfl) e0 (fun hHeld => ?_)
          refine wpAnyH_take (i := 1) (oi := ⟨_, _, _, _, _, _⟩) (v := ?_) rfl (by kernel_rfl) (by kernel_rfl) (by kernel_rfl) (fun _ _ _ h => h) (Or.inl ⟨by rfl, ?_⟩) (by assumption) ?_
          rotate_left
          focus (intro w hSw; (try dsimp only at hSw); go_simp; (try with_reducible rfl))
          try simp only [Act.put, List.setIfInBounds_toArray, List.set_cons_zero, List.set_cons_succ]
          refine wpAnyH_take (i := 3) (oi := ⟨_, _, _, _, _, _⟩) (v := ?_) rfl (by kernel_rfl) (by kernel_rfl) (by kernel_rfl) (fun _ _ _ h => h) (Or.inl ⟨by rfl, ?_⟩) (by assumption) ?_
          rotate_left
          focus (intro w hSw; (try dsimp only at hSw); go_simp; (try with_reducible rfl))
          try simp only [Act.put, List.setIfInBounds_toArray, List.set_cons_zero, List.set_cons_succ]
          refine wpAnyH_take (i := 6) (oi := ⟨_, _, _, _, _, _⟩) (v := ?_) rfl (by kernel_rfl) (by kernel_rfl) (by kernel_rfl) (fun _ _ _ h => h) (Or.inl ⟨by rfl, ?_⟩) (by assumption) ?_
          rotate_left
          focus (intro w hSw; (try dsimp only at hSw); go_simp; (try with_reducible rfl))
          try simp only [Act.put, List.setIfInBounds_toArray, List.set_cons_zero, List.set_cons_succ]
          refine wpAnyH_take (i := 7) (oi := ⟨_, _, _, _, _, _⟩) (v := ?_) rfl (by kernel_rfl) (by kernel_rfl) (by kernel_rfl) (fun _ _ _ h => h) (Or.inl ⟨by rfl, ?_⟩) (by assumption) ?_
          rotate_left
          focus (intro w hSw; (try dsimp only at hSw); go_simp; (try with_reducible rfl))
          try simp only [Act.put, List.setIfInBounds_toArray, List.set_cons_zero, List.set_cons_succ]
          clear e0 hHeld
          show wpAnyH _ .any ops18 _ _ 10 (ls18 false false false false false) _ _
          refine region18 (x := ⟨s, c.fr, c.un, c.ut, c.pm, c.dr⟩) (w0 := w24.drew) (ar := _) (m := n) (cr := cap) (s := s) (d := d) (fun d_ _ _ _ _ h => by cases d_ <;> exact h) (fun W hW => KK.out W hW) (Nat.le_of_ble_eq_true rfl) rfl rfl rfl rfl (HC.out.later H18.out.below) HN.out HN110.out (HNEW.out.1.trans HN.out) HNEW.out.2 ?_ 10 false false false false false _ _ rfl rfl (Kp.refl _ _) ⟨Below.refl _ _, (fun h => Bool.noConfusion h), (fun h _ => Bool.noConfusion h), (fun h _ => Bool.noConfusion h), (fun h _ => Bool.noConfusion h), (fun h => Bool.noConfusion h)⟩
          intro v149 v48 v50 v52 v53 v57 w8 hb8
          have S18 := Lib.hid (H18.out.later hb8)
          clear hb8
          try simp only [Act.put, List.setIfInBounds_toArray, List.set_cons_zero, List.set_cons_succ]
          have e9 : ((n : Int) == (n : Int)) = true := by simp
          go_wp2_with fail
          go_ret
          exact ⟨rfl, S18.out.below⟩
        case true =>
          have hil : i < n := by
            obtain ⟨i', c', _, h7, h8, _⟩ := found_of HFB.out
            rw [← HFI.out, h7, ← HN.out]
            exact (List.getElem?_eq_some_iff.1 h8).1
          have f1_ : decide ((i : Int) < (n : Int)) = true := by simp; omega
          have f2_ : decide (i < n) = true := by simp; omega
          have f3_ : decide ((n : Int) ≤ (i : Int)) = false := by simp; omega
          have f4_ : decide (n ≤ i) = false := by simp; omega
          obtain ⟨i', c', hf5, h7, h8, _⟩ := found_of HFB.out
          obtain rfl : i' = i := h7.symm.trans HFI.out
          obtain ⟨b, o, rfl, hb, hcells⟩ := HC.out.at h8
          have HX := Lib.hid hcells
          have hat := fun W => cert_at b o n cap i' hil W
          have HF5 := Lib.hid hf5
          clear hcells hb h7 h8 hf5
          go_upto_region 16 with fail
          clear q8 q9 q10 q11 q12 q13
          have H16 := Lib.hid R24.out.drew
          have e0 : (fun W : World => W.cell? ⟨b, o + i' * 6 + 1, none⟩ = some (.int .i64 c'.fr) ∧ W.cell? ⟨w.heap.size + 1, 1, none⟩ = some (.int .i64 c.fr)) w24.drew := ⟨(HX.out _ H16.out.below).2.1, (H16.out.box _ mq0).cell 1⟩
          refine wp_region_held_drew (S := fun W => W.cell? ⟨b, o + i' * 6 + 1, none⟩ = some (.int .i64 c'.fr) ∧ W.cell? ⟨w.heap.size + 1, 1, none⟩ = some (.int .i64 c.fr)) (by kernel_rfl) e0 (fun hHeld => ?_)
          refine wpAnyH_take (i := 0) (oi := ⟨_, _, _, _, _, _⟩) (v := ?_) rfl (by kernel_rfl) (by kernel_rfl) (by kernel_rfl) (fun _ _ _ h => h) (Or.inl ⟨by rfl, ?_⟩) (by assumption) ?_
          rotate_left
          focus (intro w hSw; (try dsimp only at hSw); go_simp; (try with_reducible rfl))
          try simp only [Act.put, List.setIfInBounds_toArray, List.set_cons_zero, List.set_cons_succ]
          refine wpAnyH_take (i := 1) (oi := ⟨_, _, _, _, _, _⟩) (v := ?_) rfl (by kernel_rfl) (by kernel_rfl) (by kernel_rfl) (fun _ _ _ h => h) (Or.inl ⟨by rfl, ?_⟩) (by assumption) ?_
          rotate_left
          focus (intro w hSw; (try dsimp only at hSw); go_simp; (try with_reducible rfl))
          try simp only [Act.put, List.setIfInBounds_toArray, List.set_cons_zero, List.set_cons_succ]
          refine wpAnyH_take (i := 2) (oi := ⟨_, _, _, _, _, _⟩) (v := ?_) rfl (by kernel_rfl) (by kernel_rfl) (by kernel_rfl) (fun _ _ _ h => h) (Or.inl ⟨by rfl, ?_⟩) (by assumption) ?_
          rotate_left
          focus (intro w hSw; (try dsimp only at hSw); go_simp; (try with_reducible rfl))
          try simp only [Act.put, List.setIfInBounds_toArray, List.set_cons_zero, List.set_cons_succ]
          refine wpAnyH_take (i := 3) (oi := ⟨_, _, _, _, _, _⟩) (v := ?_) rfl (by kernel_rfl) (by kernel_rfl) (by kernel_rfl) (fun _ _ _ h => h) (Or.inl ⟨by rfl, ?_⟩) (by assumption) ?_
          rotate_left
          focus (intro w hSw; (try dsimp only at hSw); go_simp; (try with_reducible rfl))
          try simp only [Act.put, List.setIfInBounds_toArray, List.set_cons_zero, List.set_cons_succ]
          refine wpAnyH_take (i := 4) (oi := ⟨_, _, _, _, _, _⟩) (v := ?_) rfl (by kernel_rfl) (by kernel_rfl) (by kernel_rfl) (fun _ _ _ h => h) (Or.inl ⟨by rfl, ?_⟩) (by assumption) ?_
          rotate_left
          focus (intro w hSw; (try dsimp only at hSw); go_simp; (try with_reducible rfl))
          try simp only [Act.put, List.setIfInBounds_toArray, List.set_cons_zero, List.set_cons_succ]
          refine wpAnyH_take (i := 5) (oi := ⟨_, _, _, _, _, _⟩) (v := ?_) rfl (by kernel_rfl) (by kernel_rfl) (by kernel_rfl) (fun _ _ _ h => h) (Or.inl ⟨by rfl, ?_⟩) (by assumption) ?_
          rotate_left
          focus (intro w hSw; (try dsimp only at hSw); go_simp; (try with_reducible rfl))
          try simp only [Act.put, List.setIfInBounds_toArray, List.set_cons_zero, List.set_cons_succ]
          refine wpAnyH_take (i := 6) (oi := ⟨_, _, _, _, _, _⟩) (v := ?_) rfl (by kernel_rfl) (by kernel_rfl) (by kernel_rfl) (fun _ _ _ h => h) (Or.inl ⟨by rfl, ?_⟩) (by assumption) ?_
          rotate_left
          focus (intro w hSw; (try dsimp only at hSw); go_simp; (try with_reducible rfl))
          try simp only [Act.put, List.setIfInBounds_toArray, List.set_cons_zero, List.set_cons_succ]
          refine wpAnyH_take (i := 7) (oi := ⟨_, _, _, _, _, _⟩) (v := ?_) rfl (by kernel_rfl) (by kernel_rfl) (by kernel_rfl) (fun _ _ _ h => h) (Or.inl ⟨by rfl, ?_⟩) (by assumption) ?_
          rotate_left
          focus (intro w hSw; (try dsimp only at hSw); go_simp; (try with_reducible rfl))
          try simp only [Act.put, List.setIfInBounds_toArray, List.set_cons_zero, List.set_cons_succ]
          refine wpAnyH_done (by kernel_rfl) ?_ _
          clear e0 hHeld
          rcases h5 : decide (c.fr < c'.fr) with _ | _
          · skip
            go_upto_region 18 with fail
            skip
            have HNEW := Lib.hid (find_new (c := ⟨s, c.fr, c.un, c.ut, c.pm, c.dr⟩) (cov_t (c := ⟨s, c.fr, c.un, c.ut, c.pm, c.dr⟩) (s := s) (d := d) HQ.out (by simp) (by simp only; rw [decide_eq_true (Int.not_lt.1 (of_decide_eq_false h3)), decide_eq_true (Int.not_lt.1 (of_decide_eq_false h4))]; rfl)) (fun i b h => by rw [HF5.out] at h; cases h; exact Int.not_lt.1 (of_decide_eq_false h5)))
            have H18 := Lib.hid H16.out.drew
            have K0 : ∀ W, RowKit.Below w24.drew.drew.heap.size w24.drew.drew W → W.cell? ⟨w.heap.size + 1, 0, none⟩ = some (.int .i64 s) ∧ W.cell? ⟨w.heap.size + 1, 1, none⟩ = some (.int .i64 c.fr) ∧ W.cell? ⟨w.heap.size + 1, 2, none⟩ = some (.int .i64 c.un) ∧ W.cell? ⟨w.heap.size + 1, 3, none⟩ = some (.int .i64 c.ut) ∧ W.cell? ⟨w.heap.size + 1, 4, none⟩ = some (.int .i64 c.pm) ∧ W.cell? ⟨w.heap.size + 1, 5, none⟩ = some (.int .i64 c.dr) := fun W h => by
              obtain ⟨z0, z1, z2, z3, z4, z5⟩ := Fb.cells6 ((H18.out.box _ mq0).later h)
              exact ⟨z0, z1, z2, z3, z4, z5⟩
            have KK := Lib.hid K0
            clear K0
            have e0 := KK.out _ (Below.refl _ _)
            refine wp_region_held_drew (S := fun W => W.cell? ⟨w.heap.size + 1, 0, none⟩ = some (.int .i64 s) ∧ W.cell? ⟨w.heap.size + 1, 1, none⟩ = some (.int .i64 c.fr) ∧ W.cell? ⟨w.heap.size + 1, 2, none⟩ = some (.int .i64 c.un) ∧ W.cell? ⟨w.heap.size + 1, 3, none⟩ = some (.int .i64 c.ut) ∧ W.cell? ⟨w.heap.size + 1, 4, none⟩ = some (.int .i64 c.pm) ∧ W.cell? ⟨w.heap.size + 1, 5, none⟩ = some (.int .i64 c.dr)) (by kernel_rfl) e0 (fun hHeld => ?_)
            refine wpAnyH_take (i := 1) (oi := ⟨_, _, _, _, _, _⟩) (v := ?_) rfl (by kernel_rfl) (by kernel_rfl) (by kernel_rfl) (fun _ _ _ h => h) (Or.inl ⟨by rfl, ?_⟩) (by assumption) ?_
            rotate_left
            focus (intro w hSw; (try dsimp only at hSw); go_simp; (try with_reducible rfl))
            try simp only [Act.put, List.setIfInBounds_toArray, List.set_cons_zero, List.set_cons_succ]
            refine wpAnyH_take (i := 3) (oi := ⟨_, _, _, _, _, _⟩) (v := ?_) rfl (by kernel_rfl) (by kernel_rfl) (by kernel_rfl) (fun _ _ _ h => h) (Or.inl ⟨by rfl, ?_⟩) (by assumption) ?_
            rotate_left
            focus (intro w hSw; (try dsimp only at hSw); go_simp; (try with_reducible rfl))
            try simp only [Act.put, List.setIfInBounds_toArray, List.set_cons_zero, List.set_cons_succ]
            refine wpAnyH_take (i := 6) (oi := ⟨_, _, _, _, _, _⟩) (v := ?_) rfl (by kernel_rfl) (by kernel_rfl) (by kernel_rfl) (fun _ _ _ h => h) (Or.inl ⟨by rfl, ?_⟩) (by assumption) ?_
            rotate_left
            focus (intro w hSw; (try dsimp only at hSw); go_simp; (try with_reducible rfl))
            try simp only [Act.put, List.setIfInBounds_toArray, List.set_cons_zero, List.set_cons_succ]
            refine wpAnyH_take (i := 7) (oi := ⟨_, _, _, _, _, _⟩) (v := ?_) rfl (by kernel_rfl) (by kernel_rfl) (by kernel_rfl) (fun _ _ _ h => h) (Or.inl ⟨by rfl, ?_⟩) (by assumption) ?_
            rotate_left
            focus (intro w hSw; (try dsimp only at hSw); go_simp; (try with_reducible rfl))
            try simp only [Act.put, List.setIfInBounds_toArray, List.set_cons_zero, List.set_cons_succ]
            clear e0 hHeld
            show wpAnyH _ .any ops18 _ _ 10 (ls18 false false false false false) _ _
            refine region18 (x := ⟨s, c.fr, c.un, c.ut, c.pm, c.dr⟩) (w0 := w24.drew.drew) (ar := _) (m := n) (cr := cap) (s := s) (d := d) (fun d_ _ _ _ _ h => by cases d_ <;> exact h) (fun W hW => KK.out W hW) (Nat.le_of_ble_eq_true rfl) rfl rfl rfl rfl (HC.out.later H18.out.below) HN.out HN110.out (HNEW.out.1.trans HN.out) HNEW.out.2 ?_ 10 false false false false false _ _ rfl rfl (Kp.refl _ _) ⟨Below.refl _ _, (fun h => Bool.noConfusion h), (fun h _ => Bool.noConfusion h), (fun h _ => Bool.noConfusion h), (fun h _ => Bool.noConfusion h), (fun h => Bool.noConfusion h)⟩
            intro v149 v48 v50 v52 v53 v57 w8 hb8
            have S18 := Lib.hid (H18.out.later hb8)
            clear hb8
            try simp only [Act.put, List.setIfInBounds_toArray, List.set_cons_zero, List.set_cons_succ]
            have e9 : ((n : Int) == (n : Int)) = true := by simp
            go_wp2_with fail
            go_ret
            exact ⟨rfl, S18.out.below⟩
          · go_wp2_with fail
            go_ret
            exact ⟨rfl, H16.out.below⟩
      · skip
        cases fb
        case false =>
          go_wp2_with fail
          go_ret
          exact ⟨rfl, R24.out.below⟩
        case true =>
          have hil : i < n := by
            obtain ⟨i', c', _, h7, h8, _⟩ := found_of HFB.out
            rw [← HFI.out, h7, ← HN.out]
            exact (List.getElem?_eq_some_iff.1 h8).1
          have f1_ : decide ((i : Int) < (n : Int)) = true := by simp; omega
          have f2_ : decide (i < n) = true := by simp; omega
          have f3_ : decide ((n : Int) ≤ (i : Int)) = false := by simp; omega
          have f4_ : decide (n ≤ i) = false := by simp; omega
          go_wp2_with fail
          go_ret
          exact ⟨rfl, R24.out.below⟩
    · skip
      cases fb
      case false =>
        go_wp2_with fail
        go_ret
        exact ⟨rfl, R24.out.below⟩
      case true =>
        have hil : i < n := by
          obtain ⟨i', c', _, h7, h8, _⟩ := found_of HFB.out
          rw [← HFI.out, h7, ← HN.out]
          exact (List.getElem?_eq_some_iff.1 h8).1
        have f1_ : decide ((i : Int) < (n : Int)) = true := by simp; omega
        have f2_ : decide (i < n) = true := by simp; omega
        have f3_ : decide ((n : Int) ≤ (i : Int)) = false := by simp; omega
        have f4_ : decide (n ≤ i) = false := by simp; omega
        go_wp2_with fail
        go_ret
        exact ⟨rfl, R24.out.below⟩

theorem recalls_good {a a2 : Option Addr} {n cap m cap2 : Nat} {l : List Ct} {rl : List (Int × Int)} {s r d : Int} {x1 x2 : Int} {c : Ct} {w : World} (hc : Cs w a l) (hn : l.length = n) (hl : n ≤ 110) (hr : Rs w a2 rl) (hm : rl.length = m) (hl2 : m ≤ 50) : Calls Try.prog 7 #[.slice a n cap, .slice a2 m cap2, .int .i64 s, .int .i64 r, .int .i64 d, .agg #[.int .i64 x1, .int .i64 x2], .agg #[.int .i64 c.sc, .int .i64 c.fr, .int .i64 c.un, .int .i64 c.ut, .int .i64 c.pm, .int .i64 c.dr]] w (Gv (.bool true) w) := by
  rcases h1 : (x1 == s) with _ | _
  · exact recalls_sc hc hn hl hr hm hl2 h1
  rcases h2 : decide (x2 ≤ d) with _ | _
  · exact recalls_da hc hn hl hr hm hl2 h1 h2
  · exact recalls_on hc hn hl hr hm hl2 h1 h2
theorem recalls_all {a a2 : Option Addr} {n cap m cap2 : Nat} {l : List Ct} {rl : List (Int × Int)} {s r d : Int} {x1 x2 : Int} {c : Ct} {w : World} (hc : n ≤ 1000000000 → Cs w a l) (hn : l.length = n) (hl : n ≤ 9223372036854775807) (hr : m ≤ 1000000000 → Rs w a2 rl) (hm : rl.length = m) (hl2 : m ≤ 9223372036854775807) : Calls Try.prog 7 #[.slice a n cap, .slice a2 m cap2, .int .i64 s, .int .i64 r, .int .i64 d, .agg #[.int .i64 x1, .int .i64 x2], .agg #[.int .i64 c.sc, .int .i64 c.fr, .int .i64 c.un, .int .i64 c.ut, .int .i64 c.pm, .int .i64 c.dr]] w (Gv (.bool true) w) := by
  rcases h1 : decide ((110 : Int) < (n : Int)) with _ | _
  · rcases h2 : decide ((50 : Int) < (m : Int)) with _ | _
    · have h3 := of_decide_eq_false h1
      have h4 := of_decide_eq_false h2
      exact recalls_good (hc (by omega)) hn (by omega) (hr (by omega)) hm (by omega)
    · exact recalls_no2 hl hl2 h1 h2
  · exact recalls_no1 hl hl2 h1
end Go.Proofs.Ytmhjejnkphdjpaa.Sc
