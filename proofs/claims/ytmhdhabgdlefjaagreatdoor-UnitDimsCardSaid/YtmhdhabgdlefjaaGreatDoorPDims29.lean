/- The contract of unit's multiply. The contract of unit's Read. The contracts of the laws' means, fails, sane. Zero fractions and zero units are the same; sums of dimensions. Prefixes before symbols, texts of dimensions: plain mathematics; slices of fractions. -/
import Derived.Test.YtmhdhabgdlefjaaGreatDoorPDims28
import Derived.Deep.RegionHeld3
import Derived.Test.YtmhdhabgdlefjaaGreatDoorPDims13
set_option maxRecDepth 100000
namespace Go.Proofs.YtmhdhabgdlefjaaGreatDoor.Un
open Go.RowKit Bi Dm

/-- A unit as a result. -/
def UV (f : Nat → Int) (r : Rat) (w : World) (e : Ending) (w' : World) : Prop := ∃ s a n c b m d, e = .returned (.agg (uc f s (.slice a n c) 1 (.slice b m d))) ∧ Fr w' s (.slice a n c) (.slice b m d) r ∧ RowKit.Below w.heap.size w w' ∧ Fresh w.heap.size (.slice a n c) ∧ Fresh w.heap.size (.slice b m d)
theorem mu_step (R q : Rat) (k : Nat) : R * pwN q k * q = R * pwN q (k + 1) := by rw [Rat.mul_assoc]; rfl
theorem md_step {q : Rat} (h : q ≠ 0) (R : Rat) (k : Nat) : R * (1 / pwN q k) / q = R * (1 / pwN q (k + 1)) := by
  rw [← pwD_step h k, Rat.div_def (1 / pwN q k), ← Rat.mul_assoc, ← Rat.div_def]
theorem mu_le {R q : Rat} (hR : FSz 900 R) (h : FSz 3 q) {k : Nat} (hk : k ≤ 9) : FSz 1000 (R * pwN q k) := by
  have h1 := pwN_szj h k
  exact (hR.mul h1 (k := 900 + (3 * k + 1)) rfl).mono (by omega)
theorem md_le {R q : Rat} (hR : FSz 900 R) (h : FSz 3 q) (h0 : q ≠ 0) {k : Nat} (hk : k ≤ 9) : FSz 1000 (R * (1 / pwN q k)) := by
  have h1 := (FSz.one (by decide) (by decide) : FSz 1 (1 : Rat)).div (pwN_szj h k) (pwN_ne h0 k) (k := 1 + (3 * k + 1)) (by omega)
  exact (hR.mul h1 (k := 900 + (1 + (3 * k + 1))) rfl).mono (by omega)
theorem max_up (n : Nat) : max (n : Int) (-(n : Int)) = (n : Int) := by omega
theorem max_dn (n : Nat) : max (-(n : Int)) (n : Int) = (n : Int) := by omega

set_option maxHeartbeats 8000000 in
theorem umultiply_up {w : World} {f U G : Nat → Int} {s1 : Int} {a1 b1 : Option Addr} {n1 c1 m1 d1 : Nat} {x : Rat} {s2 : Int} {a2 b2 : Option Addr} {n2 c2 m2 d2 : Nat} {y : Rat} (hx : Fr w s1 (.slice a1 n1 c1) (.slice b1 m1 d1) x) (hy : Fr w s2 (.slice a2 n2 c2) (.slice b2 m2 d2) y) (lx : FSz 900 x) (ly : FSz 3 y) (y0 : y ≠ 0) (NN : Nat) (hn : NN ≤ 9) (hn0 : 0 < NN)
    (hG : ∀ j, j < 6 → G j = f j + U j * (NN : Int) ∧ -1000 ≤ U j * (NN : Int) ∧ U j * (NN : Int) ≤ 1000 ∧ -1000 ≤ f j ∧ f j ≤ 1000) (hG6 : ∀ i, 6 ≤ i → f i = G i) :
    Calls Tryz.prog 38 #[.agg (uc f s1 (.slice a1 n1 c1) 1 (.slice b1 m1 d1)), .agg (uc U s2 (.slice a2 n2 c2) 1 (.slice b2 m2 d2)), .int .i64 (NN : Int)] w (UV G (x * pwN y NN) w) := by
  have Ex := Lib.hid hx.1.1
  have Ey := Lib.hid hy.1.1
  have Lx := Lib.hid lx
  have Ly := Lib.hid ly
  have LY := Lib.hid (ly.mono (j := 1000))
  have Y0 := Lib.hid y0
  have HG := Lib.hid hG
  have HG6 := Lib.hid hG6
  have HI : Hid (∀ k : Nat, k < 6 → ∀ w, (Instr.index 23 (.agg (cl U)) (.int .i64 (k : Int))).run Tryz.prog w = .ok (.int .i64 (U k)) w) := Lib.hid (fun k hk w => idx_at U k hk w)
  unfold cl at HI
  have s0 := ((((((((Sf.start w).arg hx.2.2).arg hx.1.2).arg hy.2.2).arg hy.1.2).put [.int .i64 (f 0), .int .i64 (f 1), .int .i64 (f 2), .int .i64 (f 3), .int .i64 (f 4), .int .i64 (f 5), .int .i64 s1, .slice a1 n1 c1, .int .i64 1, .slice b1 m1 d1] 30).put [.int .i64 (U 0), .int .i64 (U 1), .int .i64 (U 2), .int .i64 (U 3), .int .i64 (U 4), .int .i64 (U 5), .int .i64 s2, .slice a2 n2 c2, .int .i64 1, .slice b2 m2 d2] 30).put [.int .i64 0, .int .i64 0, .int .i64 0, .int .i64 0, .int .i64 0, .int .i64 0, .int .i64 0, .slice none 0 0, .int .i64 0, .slice none 0 0] 30)
  try simp only [World.size_alloc] at s0
  have S0 := Lib.hid s0
  clear s0
  obtain ⟨XX, hXX⟩ : ∃ XX : Int, (NN : Int) = XX := ⟨_, rfl⟩
  have HXX := Lib.hid hXX
  rw [hXX] at HG ⊢
  clear hx hy lx ly y0 hG hG6 hXX
  unfold UV uc
  go_enter Tryz.func38, Tryz.ntmps38
  obtain ⟨q1, q2, q3, q4, q5, q6, q7, q8, q9, q10⟩ := Fb.cells10 (S0.out.box (w.heap.size + 1, 30, [.int .i64 (U 0), .int .i64 (U 1), .int .i64 (U 2), .int .i64 (U 3), .int .i64 (U 4), .int .i64 (U 5), .int .i64 s2, .slice a2 n2 c2, .int .i64 1, .slice b2 m2 d2]) mq1)
  go_wp2_with fail
  clear q1 q2 q3 q4 q5 q6 q7 q8 q9 q10
  go_loopw [12] (fun t wz => ∃ j : Nat, j ≤ 6 ∧ t = .int .i64 (j : Int) ∧ Sf w [(w.heap.size + 1 + 1, 30, [.int .i64 0, .int .i64 0, .int .i64 0, .int .i64 0, .int .i64 0, .int .i64 0, .int .i64 0, .slice none 0 0, .int .i64 0, .slice none 0 0]), (w.heap.size + 1, 30, [.int .i64 (U 0), .int .i64 (U 1), .int .i64 (U 2), .int .i64 (U 3), .int .i64 (U 4), .int .i64 (U 5), .int .i64 s2, .slice a2 n2 c2, .int .i64 1, .slice b2 m2 d2]), (w.heap.size, 30, [.int .i64 ((mix f G j) 0), .int .i64 ((mix f G j) 1), .int .i64 ((mix f G j) 2), .int .i64 ((mix f G j) 3), .int .i64 ((mix f G j) 4), .int .i64 ((mix f G j) 5), .int .i64 s1, .slice a1 n1 c1, .int .i64 1, .slice b1 m1 d1])] [(.slice a2 n2 c2, digs (y).num.natAbs), (.slice b2 m2 d2, digs (((y).den : Int)).natAbs), (.slice a1 n1 c1, digs (x).num.natAbs), (.slice b1 m1 d1, digs (((x).den : Int)).natAbs)] wz) (fun t _ => 6 - (RowKit.intOf t).toNat)
  case atStart => exact ⟨0, by omega, rfl, by rw [mix_zero]; exact S0.out⟩
  case round =>
    obtain ⟨j, hj, rfl, hz⟩ := hrel
    have HZ := Lib.hid hz
    by_cases hjl : j < 6
    · have hca : wr.cell? ⟨w.heap.size, j, none⟩ = some (.int .i64 (f j)) := by rw [(hz.box _ (List.mem_cons_of_mem _ (List.mem_cons_of_mem _ List.mem_cons_self))).cell, dim_cell _ _ j hjl, mix_at]
      have hfr : wr.frozen? ⟨w.heap.size, j, none⟩ = false := (hz.box _ (List.mem_cons_of_mem _ (List.mem_cons_of_mem _ List.mem_cons_self))).free j
      have hi1 := ia_at w.heap.size j hjl
      have hix := HI.out j hjl
      have hlt2 : decide ((j : Int) < 6) = true := by simp; omega
      have hbd := HG.out j hjl
      have HN : Hid (∀ W : World, W.heap = wr.heap → W.os = wr.os → W.tape = wr.tape → W.output = wr.output → Sf w [(w.heap.size + 1 + 1, 30, [.int .i64 0, .int .i64 0, .int .i64 0, .int .i64 0, .int .i64 0, .int .i64 0, .int .i64 0, .slice none 0 0, .int .i64 0, .slice none 0 0]), (w.heap.size + 1, 30, [.int .i64 (U 0), .int .i64 (U 1), .int .i64 (U 2), .int .i64 (U 3), .int .i64 (U 4), .int .i64 (U 5), .int .i64 s2, .slice a2 n2 c2, .int .i64 1, .slice b2 m2 d2]), (w.heap.size, 30, [.int .i64 ((mix f G (j + 1)) 0), .int .i64 ((mix f G (j + 1)) 1), .int .i64 ((mix f G (j + 1)) 2), .int .i64 ((mix f G (j + 1)) 3), .int .i64 ((mix f G (j + 1)) 4), .int .i64 ((mix f G (j + 1)) 5), .int .i64 s1, .slice a1 n1 c1, .int .i64 1, .slice b1 m1 d1])] [(.slice a2 n2 c2, digs (y).num.natAbs), (.slice b2 m2 d2, digs (((y).den : Int)).natAbs), (.slice a1 n1 c1, digs (x).num.natAbs), (.slice b1 m1 d1, digs (((x).den : Int)).natAbs)] (W.setCell ⟨w.heap.size, j, none⟩ (.int .i64 (G j)))) := Lib.hid (fun W e1 e2 e3 e4 => by
        have h := Sf.set (pre := [(w.heap.size + 1 + 1, 30, [.int .i64 0, .int .i64 0, .int .i64 0, .int .i64 0, .int .i64 0, .int .i64 0, .int .i64 0, .slice none 0 0, .int .i64 0, .slice none 0 0]), (w.heap.size + 1, 30, [.int .i64 (U 0), .int .i64 (U 1), .int .i64 (U 2), .int .i64 (U 3), .int .i64 (U 4), .int .i64 (U 5), .int .i64 s2, .slice a2 n2 c2, .int .i64 1, .slice b2 m2 d2])]) (HZ.out.heap e1 e2 e3 e4) j (.int .i64 (G j))
        rw [mix_cells _ _ j _ hjl] at h
        exact h)
      obtain ⟨y1, hy1⟩ : ∃ y, U j = y := ⟨_, rfl⟩
      obtain ⟨v, hv⟩ : ∃ v, f j = v := ⟨_, rfl⟩
      rw [hv] at hca hbd
      rw [hy1] at hix hbd
      have hw1 : IntKind.i64.wrap (y1 * XX) = y1 * XX := IntWalk.i64_in _ (by omega)
      have hw2 : IntKind.i64.wrap (v + y1 * XX) = v + y1 * XX := IntWalk.i64_in _ (by omega)
      rw [hbd.1] at HN
      clear hz hbd hy1 hv
      go_wp2_with fail
      have HM := Lib.hid (HN.out wr rfl rfl rfl rfl)
      go_roundw
      case rel => exact ⟨j + 1, hjl, by go_num, HM.out⟩
      case measure => simp [RowKit.intOf]; omega
    · obtain rfl : j = 6 := by omega
      have hlt2 : decide (((6 : Nat) : Int) < 6) = false := by decide
      rw [mix_all f G HG6.out] at hz
      have HZ2 := Lib.hid hz
      have HXX2 := HXX.out
      clear hz HZ
      have gx : decide ((NN : Int) < 0) = false := by simp
      have hmx := max_up NN
      have hwn : IntKind.i64.wrap (-(NN : Int)) = -(NN : Int) := IntWalk.i64_in _ (by omega)
      subst HXX2
      go_wp2_with fail
      have h00 : x * pwN y 0 = x := by show x * 1 = x; rw [Rat.mul_one]
      go_loopw [33] (fun t wz => ∃ (k : Nat) (s : Int) (a : Option Addr) (n c : Nat) (b : Option Addr) (m d : Nat), k ≤ NN ∧ t = .int .i64 (k : Int) ∧ s = (x * pwN y k).num.sign ∧ (0 < k → Fresh w.heap.size (.slice a n c) ∧ Fresh w.heap.size (.slice b m d)) ∧ Sf w [(w.heap.size + 1 + 1, 30, [.int .i64 0, .int .i64 0, .int .i64 0, .int .i64 0, .int .i64 0, .int .i64 0, .int .i64 0, .slice none 0 0, .int .i64 0, .slice none 0 0]), (w.heap.size + 1, 30, [.int .i64 (U 0), .int .i64 (U 1), .int .i64 (U 2), .int .i64 (U 3), .int .i64 (U 4), .int .i64 (U 5), .int .i64 s2, .slice a2 n2 c2, .int .i64 1, .slice b2 m2 d2]), (w.heap.size, 30, [.int .i64 (G 0), .int .i64 (G 1), .int .i64 (G 2), .int .i64 (G 3), .int .i64 (G 4), .int .i64 (G 5), .int .i64 s, .slice a n c, .int .i64 1, .slice b m d])] [(.slice a n c, digs (x * pwN y k).num.natAbs), (.slice b m d, digs (((x * pwN y k).den : Int)).natAbs), (.slice a2 n2 c2, digs (y).num.natAbs), (.slice b2 m2 d2, digs (((y).den : Int)).natAbs)] wz) (fun t _ => 10 - (RowKit.intOf t).toNat)
      case atStart => exact ⟨0, s1, a1, n1, c1, b1, m1, d1, Nat.zero_le _, rfl, by rw [h00]; exact Ex.out, fun h => absurd h (by decide), by rw [h00]; exact Sf.facts HZ2.out (by simp)⟩
      case round =>
        obtain ⟨k, sk, ak, nk, ck, bk, mk, dk, hk, rfl, es, hfr, hS⟩ := hrel
        have ER := Lib.hid es
        have HS := Lib.hid hS
        have HFR := Lib.hid hfr
        clear es hS hfr h00
        by_cases hlt : k < NN
        · have hlt2 : decide ((k : Int) < (NN : Int)) = true := by simp; omega
          have LR : Hid (FSz 1000 (x * pwN y k)) := Lib.hid (mu_le Lx.out Ly.out (by omega))
          have HRR : Hid (x * pwN y k * y = x * pwN y (k + 1)) := Lib.hid (mu_step x y k)
          obtain ⟨R, hR⟩ : ∃ R, x * pwN y k = R := ⟨_, rfl⟩
          rw [hR] at ER HS LR HRR
          clear hR
          obtain ⟨q11, q12, q13, q14, q15, q16, q17, q18, q19, q20⟩ := Fb.cells10 (HS.out.box (w.heap.size + 1, 30, [.int .i64 (U 0), .int .i64 (U 1), .int .i64 (U 2), .int .i64 (U 3), .int .i64 (U 4), .int .i64 (U 5), .int .i64 s2, .slice a2 n2 c2, .int .i64 1, .slice b2 m2 d2]) mq1)
          obtain ⟨q21, q22, q23, q24, q25, q26, q27, q28, q29, q30⟩ := Fb.cells10 (HS.out.box (w.heap.size, 30, [.int .i64 (G 0), .int .i64 (G 1), .int .i64 (G 2), .int .i64 (G 3), .int .i64 (G 4), .int .i64 (G 5), .int .i64 sk, .slice ak nk ck, .int .i64 1, .slice bk mk dk]) mq2)
          go_wp2_with fail
          clear q11 q12 q13 q14 q15 q16 q17 q18 q19 q20 q21 q22 q23 q24 q25 q26 q27 q28 q29 q30
          refine (fmul_r (HS.out.fr (v := .slice ak nk ck) (u := .slice bk mk dk) (r := R) mq0 mq1 ER.out) (HS.out.fr (v := .slice a2 n2 c2) (u := .slice b2 m2 d2) (r := y) mq2 mq3 Ey.out) LR.out LY.out HRR.out).mono ?_
          rintro e w1 ⟨sx1, ax1, nx1, cx1, bx1, mx1, dx1, rfl, hr, hb, hf, hg⟩
          have E1 := Lib.hid hr.1.1
          have R1 := Lib.hid (HS.out.ret2 hb hr.1.2 hf hr.2.2 hg)
          have FF1 := Lib.hid (hf.mono HS.out.below.size)
          have FG1 := Lib.hid (hg.mono HS.out.below.size)
          clear hr hb hf hg
          have Q31 : Hid (Sf w ([(w.heap.size + 1 + 1, 30, [.int .i64 0, .int .i64 0, .int .i64 0, .int .i64 0, .int .i64 0, .int .i64 0, .int .i64 0, .slice none 0 0, .int .i64 0, .slice none 0 0]), (w.heap.size + 1, 30, [.int .i64 (U 0), .int .i64 (U 1), .int .i64 (U 2), .int .i64 (U 3), .int .i64 (U 4), .int .i64 (U 5), .int .i64 s2, .slice a2 n2 c2, .int .i64 1, .slice b2 m2 d2])] ++ (w.heap.size, 30, [.int .i64 (G 0), .int .i64 (G 1), .int .i64 (G 2), .int .i64 (G 3), .int .i64 (G 4), .int .i64 (G 5), .int .i64 sx1, .slice ax1 nx1 cx1, .int .i64 1, .slice bx1 mx1 dx1]) :: []) _ _) := Lib.hid (Sf.part (pre := [(w.heap.size + 1 + 1, 30, [.int .i64 0, .int .i64 0, .int .i64 0, .int .i64 0, .int .i64 0, .int .i64 0, .int .i64 0, .slice none 0 0, .int .i64 0, .slice none 0 0]), (w.heap.size + 1, 30, [.int .i64 (U 0), .int .i64 (U 1), .int .i64 (U 2), .int .i64 (U 3), .int .i64 (U 4), .int .i64 (U 5), .int .i64 s2, .slice a2 n2 c2, .int .i64 1, .slice b2 m2 d2])]) R1.out 6 7 8 9 rfl rfl rfl (.int .i64 sx1) (.slice ax1 nx1 cx1) (.int .i64 1) (.slice bx1 mx1 dx1))
          obtain ⟨V31, hV31⟩ : ∃ V, (((((w1).setCell ⟨w.heap.size, 6, none⟩ (.int .i64 sx1)).setCell ⟨w.heap.size, 7, none⟩ (.slice ax1 nx1 cx1)).setCell ⟨w.heap.size, 8, none⟩ (.int .i64 1)).setCell ⟨w.heap.size, 9, none⟩ (.slice bx1 mx1 dx1)) = V := ⟨_, rfl⟩
          rw [hV31] at Q31
          have HV31 := Lib.hid hV31
          clear hV31
          go_wp2_with (first | (refine wpList_store4 rfl _ _ _ rfl _ 6 7 8 9 rfl rfl rfl (.int .i64 sx1) (.slice ax1 nx1 cx1) (.int .i64 1) (.slice bx1 mx1 dx1) rfl rfl (R1.out.box _ mq2) (Nat.le_of_ble_eq_true rfl) infoFrac (by simp [Value.oneCell']) ?_; rw [HV31.out]))
          go_roundw
          case rel => exact ⟨k + 1, _, _, _, _, _, _, _, hlt, by go_num, E1.out, fun _ => ⟨FF1.out, FG1.out⟩, Sf.facts Q31.out (by simp)⟩
          case measure => simp [RowKit.intOf]; omega
        · obtain rfl : k = NN := by omega
          have hlt2 : decide ((k : Int) < (k : Int)) = false := by simp
          have hlt3 : decide (k < k) = false := by simp
          have hfr := HFR.out hn0
          have HFA := Lib.hid hfr.1
          have HFB := Lib.hid hfr.2
          clear hfr HFR
          obtain ⟨q32, q33, q34, q35, q36, q37, q38, q39, q40, q41⟩ := Fb.cells10 (HS.out.box (w.heap.size, 30, [.int .i64 (G 0), .int .i64 (G 1), .int .i64 (G 2), .int .i64 (G 3), .int .i64 (G 4), .int .i64 (G 5), .int .i64 sk, .slice ak nk ck, .int .i64 1, .slice bk mk dk]) mq2)
          have Q42 := Lib.hid (Sf.row (pre := []) HS.out [.int .i64 (G 0), .int .i64 (G 1), .int .i64 (G 2), .int .i64 (G 3), .int .i64 (G 4), .int .i64 (G 5), .int .i64 sk, .slice ak nk ck, .int .i64 1, .slice bk mk dk])
          go_wp2_with (first | refine wpList_store_row rfl _ _ _ rfl _ #[.int .i64 (G 0), .int .i64 (G 1), .int .i64 (G 2), .int .i64 (G 3), .int .i64 (G 4), .int .i64 (G 5), .int .i64 sk, .slice ak nk ck, .int .i64 1, .slice bk mk dk] rfl rfl _ _ (HS.out.box _ mq0) (by kernel_rfl) rfl (by simp [Value.oneCell']) ?_)
          clear q32 q33 q34 q35 q36 q37 q38 q39 q40 q41
          refine bodyPost_ret (results_cell_row rfl _ _ _ _ _ (0, 0) _ rfl (Q42.out.box _ mq0) Tryz.underlying30 rfl (by kernel_rfl)) rfl ⟨_, _, _, _, _, _, _, rfl, (Q42.out.fr (v := .slice ak nk ck) (u := .slice bk mk dk) (r := x * pwN y k) mq0 mq1 ER.out), Q42.out.below, HFA.out, HFB.out⟩

set_option maxHeartbeats 8000000 in
theorem umultiply_down {w : World} {f U G : Nat → Int} {s1 : Int} {a1 b1 : Option Addr} {n1 c1 m1 d1 : Nat} {x : Rat} {s2 : Int} {a2 b2 : Option Addr} {n2 c2 m2 d2 : Nat} {y : Rat} (hx : Fr w s1 (.slice a1 n1 c1) (.slice b1 m1 d1) x) (hy : Fr w s2 (.slice a2 n2 c2) (.slice b2 m2 d2) y) (lx : FSz 900 x) (ly : FSz 3 y) (y0 : y ≠ 0) (NN : Nat) (hn : NN ≤ 9) (hn0 : 0 < NN)
    (hG : ∀ j, j < 6 → G j = f j + U j * (-(NN : Int)) ∧ -1000 ≤ U j * (-(NN : Int)) ∧ U j * (-(NN : Int)) ≤ 1000 ∧ -1000 ≤ f j ∧ f j ≤ 1000) (hG6 : ∀ i, 6 ≤ i → f i = G i) :
    Calls Tryz.prog 38 #[.agg (uc f s1 (.slice a1 n1 c1) 1 (.slice b1 m1 d1)), .agg (uc U s2 (.slice a2 n2 c2) 1 (.slice b2 m2 d2)), .int .i64 (-(NN : Int))] w (UV G (x * (1 / pwN y NN)) w) := by
  have Ex := Lib.hid hx.1.1
  have Ey := Lib.hid hy.1.1
  have Lx := Lib.hid lx
  have Ly := Lib.hid ly
  have LY := Lib.hid (ly.mono (j := 1000))
  have Y0 := Lib.hid y0
  have HG := Lib.hid hG
  have HG6 := Lib.hid hG6
  have HI : Hid (∀ k : Nat, k < 6 → ∀ w, (Instr.index 23 (.agg (cl U)) (.int .i64 (k : Int))).run Tryz.prog w = .ok (.int .i64 (U k)) w) := Lib.hid (fun k hk w => idx_at U k hk w)
  unfold cl at HI
  have s0 := ((((((((Sf.start w).arg hx.2.2).arg hx.1.2).arg hy.2.2).arg hy.1.2).put [.int .i64 (f 0), .int .i64 (f 1), .int .i64 (f 2), .int .i64 (f 3), .int .i64 (f 4), .int .i64 (f 5), .int .i64 s1, .slice a1 n1 c1, .int .i64 1, .slice b1 m1 d1] 30).put [.int .i64 (U 0), .int .i64 (U 1), .int .i64 (U 2), .int .i64 (U 3), .int .i64 (U 4), .int .i64 (U 5), .int .i64 s2, .slice a2 n2 c2, .int .i64 1, .slice b2 m2 d2] 30).put [.int .i64 0, .int .i64 0, .int .i64 0, .int .i64 0, .int .i64 0, .int .i64 0, .int .i64 0, .slice none 0 0, .int .i64 0, .slice none 0 0] 30)
  try simp only [World.size_alloc] at s0
  have S0 := Lib.hid s0
  clear s0
  obtain ⟨XX, hXX⟩ : ∃ XX : Int, (-(NN : Int)) = XX := ⟨_, rfl⟩
  have HXX := Lib.hid hXX
  rw [hXX] at HG ⊢
  clear hx hy lx ly y0 hG hG6 hXX
  unfold UV uc
  go_enter Tryz.func38, Tryz.ntmps38
  obtain ⟨q1, q2, q3, q4, q5, q6, q7, q8, q9, q10⟩ := Fb.cells10 (S0.out.box (w.heap.size + 1, 30, [.int .i64 (U 0), .int .i64 (U 1), .int .i64 (U 2), .int .i64 (U 3), .int .i64 (U 4), .int .i64 (U 5), .int .i64 s2, .slice a2 n2 c2, .int .i64 1, .slice b2 m2 d2]) mq1)
  go_wp2_with fail
  clear q1 q2 q3 q4 q5 q6 q7 q8 q9 q10
  go_loopw [12] (fun t wz => ∃ j : Nat, j ≤ 6 ∧ t = .int .i64 (j : Int) ∧ Sf w [(w.heap.size + 1 + 1, 30, [.int .i64 0, .int .i64 0, .int .i64 0, .int .i64 0, .int .i64 0, .int .i64 0, .int .i64 0, .slice none 0 0, .int .i64 0, .slice none 0 0]), (w.heap.size + 1, 30, [.int .i64 (U 0), .int .i64 (U 1), .int .i64 (U 2), .int .i64 (U 3), .int .i64 (U 4), .int .i64 (U 5), .int .i64 s2, .slice a2 n2 c2, .int .i64 1, .slice b2 m2 d2]), (w.heap.size, 30, [.int .i64 ((mix f G j) 0), .int .i64 ((mix f G j) 1), .int .i64 ((mix f G j) 2), .int .i64 ((mix f G j) 3), .int .i64 ((mix f G j) 4), .int .i64 ((mix f G j) 5), .int .i64 s1, .slice a1 n1 c1, .int .i64 1, .slice b1 m1 d1])] [(.slice a2 n2 c2, digs (y).num.natAbs), (.slice b2 m2 d2, digs (((y).den : Int)).natAbs), (.slice a1 n1 c1, digs (x).num.natAbs), (.slice b1 m1 d1, digs (((x).den : Int)).natAbs)] wz) (fun t _ => 6 - (RowKit.intOf t).toNat)
  case atStart => exact ⟨0, by omega, rfl, by rw [mix_zero]; exact S0.out⟩
  case round =>
    obtain ⟨j, hj, rfl, hz⟩ := hrel
    have HZ := Lib.hid hz
    by_cases hjl : j < 6
    · have hca : wr.cell? ⟨w.heap.size, j, none⟩ = some (.int .i64 (f j)) := by rw [(hz.box _ (List.mem_cons_of_mem _ (List.mem_cons_of_mem _ List.mem_cons_self))).cell, dim_cell _ _ j hjl, mix_at]
      have hfr : wr.frozen? ⟨w.heap.size, j, none⟩ = false := (hz.box _ (List.mem_cons_of_mem _ (List.mem_cons_of_mem _ List.mem_cons_self))).free j
      have hi1 := ia_at w.heap.size j hjl
      have hix := HI.out j hjl
      have hlt2 : decide ((j : Int) < 6) = true := by simp; omega
      have hbd := HG.out j hjl
      have HN : Hid (∀ W : World, W.heap = wr.heap → W.os = wr.os → W.tape = wr.tape → W.output = wr.output → Sf w [(w.heap.size + 1 + 1, 30, [.int .i64 0, .int .i64 0, .int .i64 0, .int .i64 0, .int .i64 0, .int .i64 0, .int .i64 0, .slice none 0 0, .int .i64 0, .slice none 0 0]), (w.heap.size + 1, 30, [.int .i64 (U 0), .int .i64 (U 1), .int .i64 (U 2), .int .i64 (U 3), .int .i64 (U 4), .int .i64 (U 5), .int .i64 s2, .slice a2 n2 c2, .int .i64 1, .slice b2 m2 d2]), (w.heap.size, 30, [.int .i64 ((mix f G (j + 1)) 0), .int .i64 ((mix f G (j + 1)) 1), .int .i64 ((mix f G (j + 1)) 2), .int .i64 ((mix f G (j + 1)) 3), .int .i64 ((mix f G (j + 1)) 4), .int .i64 ((mix f G (j + 1)) 5), .int .i64 s1, .slice a1 n1 c1, .int .i64 1, .slice b1 m1 d1])] [(.slice a2 n2 c2, digs (y).num.natAbs), (.slice b2 m2 d2, digs (((y).den : Int)).natAbs), (.slice a1 n1 c1, digs (x).num.natAbs), (.slice b1 m1 d1, digs (((x).den : Int)).natAbs)] (W.setCell ⟨w.heap.size, j, none⟩ (.int .i64 (G j)))) := Lib.hid (fun W e1 e2 e3 e4 => by
        have h := Sf.set (pre := [(w.heap.size + 1 + 1, 30, [.int .i64 0, .int .i64 0, .int .i64 0, .int .i64 0, .int .i64 0, .int .i64 0, .int .i64 0, .slice none 0 0, .int .i64 0, .slice none 0 0]), (w.heap.size + 1, 30, [.int .i64 (U 0), .int .i64 (U 1), .int .i64 (U 2), .int .i64 (U 3), .int .i64 (U 4), .int .i64 (U 5), .int .i64 s2, .slice a2 n2 c2, .int .i64 1, .slice b2 m2 d2])]) (HZ.out.heap e1 e2 e3 e4) j (.int .i64 (G j))
        rw [mix_cells _ _ j _ hjl] at h
        exact h)
      obtain ⟨y1, hy1⟩ : ∃ y, U j = y := ⟨_, rfl⟩
      obtain ⟨v, hv⟩ : ∃ v, f j = v := ⟨_, rfl⟩
      rw [hv] at hca hbd
      rw [hy1] at hix hbd
      have hw1 : IntKind.i64.wrap (y1 * XX) = y1 * XX := IntWalk.i64_in _ (by omega)
      have hw2 : IntKind.i64.wrap (v + y1 * XX) = v + y1 * XX := IntWalk.i64_in _ (by omega)
      rw [hbd.1] at HN
      clear hz hbd hy1 hv
      go_wp2_with fail
      have HM := Lib.hid (HN.out wr rfl rfl rfl rfl)
      go_roundw
      case rel => exact ⟨j + 1, hjl, by go_num, HM.out⟩
      case measure => simp [RowKit.intOf]; omega
    · obtain rfl : j = 6 := by omega
      have hlt2 : decide (((6 : Nat) : Int) < 6) = false := by decide
      rw [mix_all f G HG6.out] at hz
      have HZ2 := Lib.hid hz
      have HXX2 := HXX.out
      clear hz HZ
      have gx : decide (-(NN : Int) < 0) = true := by simp; omega
      have gx2 : -(NN : Int) < 0 := by omega
      have hmx := max_dn NN
      have hwn : IntKind.i64.wrap (NN : Int) = (NN : Int) := IntWalk.i64_in _ (by omega)
      subst HXX2
      go_wp2_with fail
      have h00 : x * (1 / pwN y 0) = x := by show x * (1 / 1) = x; rw [one_one, Rat.mul_one]
      go_loopw [33] (fun t wz => ∃ (k : Nat) (s : Int) (a : Option Addr) (n c : Nat) (b : Option Addr) (m d : Nat), k ≤ NN ∧ t = .int .i64 (k : Int) ∧ s = (x * (1 / pwN y k)).num.sign ∧ (0 < k → Fresh w.heap.size (.slice a n c) ∧ Fresh w.heap.size (.slice b m d)) ∧ Sf w [(w.heap.size + 1 + 1, 30, [.int .i64 0, .int .i64 0, .int .i64 0, .int .i64 0, .int .i64 0, .int .i64 0, .int .i64 0, .slice none 0 0, .int .i64 0, .slice none 0 0]), (w.heap.size + 1, 30, [.int .i64 (U 0), .int .i64 (U 1), .int .i64 (U 2), .int .i64 (U 3), .int .i64 (U 4), .int .i64 (U 5), .int .i64 s2, .slice a2 n2 c2, .int .i64 1, .slice b2 m2 d2]), (w.heap.size, 30, [.int .i64 (G 0), .int .i64 (G 1), .int .i64 (G 2), .int .i64 (G 3), .int .i64 (G 4), .int .i64 (G 5), .int .i64 s, .slice a n c, .int .i64 1, .slice b m d])] [(.slice a n c, digs (x * (1 / pwN y k)).num.natAbs), (.slice b m d, digs (((x * (1 / pwN y k)).den : Int)).natAbs), (.slice a2 n2 c2, digs (y).num.natAbs), (.slice b2 m2 d2, digs (((y).den : Int)).natAbs)] wz) (fun t _ => 10 - (RowKit.intOf t).toNat)
      case atStart => exact ⟨0, s1, a1, n1, c1, b1, m1, d1, Nat.zero_le _, rfl, by rw [h00]; exact Ex.out, fun h => absurd h (by decide), by rw [h00]; exact Sf.facts HZ2.out (by simp)⟩
      case round =>
        obtain ⟨k, sk, ak, nk, ck, bk, mk, dk, hk, rfl, es, hfr, hS⟩ := hrel
        have ER := Lib.hid es
        have HS := Lib.hid hS
        have HFR := Lib.hid hfr
        clear es hS hfr h00
        by_cases hlt : k < NN
        · have hlt2 : decide ((k : Int) < (NN : Int)) = true := by simp; omega
          have LR : Hid (FSz 1000 (x * (1 / pwN y k))) := Lib.hid (md_le Lx.out Ly.out Y0.out (by omega))
          have HRR : Hid (x * (1 / pwN y k) / y = x * (1 / pwN y (k + 1))) := Lib.hid (md_step Y0.out x k)
          obtain ⟨R, hR⟩ : ∃ R, x * (1 / pwN y k) = R := ⟨_, rfl⟩
          rw [hR] at ER HS LR HRR
          clear hR
          obtain ⟨q11, q12, q13, q14, q15, q16, q17, q18, q19, q20⟩ := Fb.cells10 (HS.out.box (w.heap.size + 1, 30, [.int .i64 (U 0), .int .i64 (U 1), .int .i64 (U 2), .int .i64 (U 3), .int .i64 (U 4), .int .i64 (U 5), .int .i64 s2, .slice a2 n2 c2, .int .i64 1, .slice b2 m2 d2]) mq1)
          obtain ⟨q21, q22, q23, q24, q25, q26, q27, q28, q29, q30⟩ := Fb.cells10 (HS.out.box (w.heap.size, 30, [.int .i64 (G 0), .int .i64 (G 1), .int .i64 (G 2), .int .i64 (G 3), .int .i64 (G 4), .int .i64 (G 5), .int .i64 sk, .slice ak nk ck, .int .i64 1, .slice bk mk dk]) mq2)
          go_wp2_with fail
          clear q11 q12 q13 q14 q15 q16 q17 q18 q19 q20 q21 q22 q23 q24 q25 q26 q27 q28 q29 q30
          refine (fdiv_r (HS.out.fr (v := .slice ak nk ck) (u := .slice bk mk dk) (r := R) mq0 mq1 ER.out) (HS.out.fr (v := .slice a2 n2 c2) (u := .slice b2 m2 d2) (r := y) mq2 mq3 Ey.out) LR.out LY.out Y0.out HRR.out).mono ?_
          rintro e w1 ⟨sx1, ax1, nx1, cx1, bx1, mx1, dx1, rfl, hr, hb, hf, hg⟩
          have E1 := Lib.hid hr.1.1
          have R1 := Lib.hid (HS.out.ret2 hb hr.1.2 hf hr.2.2 hg)
          have FF1 := Lib.hid (hf.mono HS.out.below.size)
          have FG1 := Lib.hid (hg.mono HS.out.below.size)
          clear hr hb hf hg
          have Q31 : Hid (Sf w ([(w.heap.size + 1 + 1, 30, [.int .i64 0, .int .i64 0, .int .i64 0, .int .i64 0, .int .i64 0, .int .i64 0, .int .i64 0, .slice none 0 0, .int .i64 0, .slice none 0 0]), (w.heap.size + 1, 30, [.int .i64 (U 0), .int .i64 (U 1), .int .i64 (U 2), .int .i64 (U 3), .int .i64 (U 4), .int .i64 (U 5), .int .i64 s2, .slice a2 n2 c2, .int .i64 1, .slice b2 m2 d2])] ++ (w.heap.size, 30, [.int .i64 (G 0), .int .i64 (G 1), .int .i64 (G 2), .int .i64 (G 3), .int .i64 (G 4), .int .i64 (G 5), .int .i64 sx1, .slice ax1 nx1 cx1, .int .i64 1, .slice bx1 mx1 dx1]) :: []) _ _) := Lib.hid (Sf.part (pre := [(w.heap.size + 1 + 1, 30, [.int .i64 0, .int .i64 0, .int .i64 0, .int .i64 0, .int .i64 0, .int .i64 0, .int .i64 0, .slice none 0 0, .int .i64 0, .slice none 0 0]), (w.heap.size + 1, 30, [.int .i64 (U 0), .int .i64 (U 1), .int .i64 (U 2), .int .i64 (U 3), .int .i64 (U 4), .int .i64 (U 5), .int .i64 s2, .slice a2 n2 c2, .int .i64 1, .slice b2 m2 d2])]) R1.out 6 7 8 9 rfl rfl rfl (.int .i64 sx1) (.slice ax1 nx1 cx1) (.int .i64 1) (.slice bx1 mx1 dx1))
          obtain ⟨V31, hV31⟩ : ∃ V, (((((w1).setCell ⟨w.heap.size, 6, none⟩ (.int .i64 sx1)).setCell ⟨w.heap.size, 7, none⟩ (.slice ax1 nx1 cx1)).setCell ⟨w.heap.size, 8, none⟩ (.int .i64 1)).setCell ⟨w.heap.size, 9, none⟩ (.slice bx1 mx1 dx1)) = V := ⟨_, rfl⟩
          rw [hV31] at Q31
          have HV31 := Lib.hid hV31
          clear hV31
          go_wp2_with (first | (refine wpList_store4 rfl _ _ _ rfl _ 6 7 8 9 rfl rfl rfl (.int .i64 sx1) (.slice ax1 nx1 cx1) (.int .i64 1) (.slice bx1 mx1 dx1) rfl rfl (R1.out.box _ mq2) (Nat.le_of_ble_eq_true rfl) infoFrac (by simp [Value.oneCell']) ?_; rw [HV31.out]))
          go_roundw
          case rel => exact ⟨k + 1, _, _, _, _, _, _, _, hlt, by go_num, E1.out, fun _ => ⟨FF1.out, FG1.out⟩, Sf.facts Q31.out (by simp)⟩
          case measure => simp [RowKit.intOf]; omega
        · obtain rfl : k = NN := by omega
          have hlt2 : decide ((k : Int) < (k : Int)) = false := by simp
          have hlt3 : decide (k < k) = false := by simp
          have hfr := HFR.out hn0
          have HFA := Lib.hid hfr.1
          have HFB := Lib.hid hfr.2
          clear hfr HFR
          obtain ⟨q32, q33, q34, q35, q36, q37, q38, q39, q40, q41⟩ := Fb.cells10 (HS.out.box (w.heap.size, 30, [.int .i64 (G 0), .int .i64 (G 1), .int .i64 (G 2), .int .i64 (G 3), .int .i64 (G 4), .int .i64 (G 5), .int .i64 sk, .slice ak nk ck, .int .i64 1, .slice bk mk dk]) mq2)
          have Q42 := Lib.hid (Sf.row (pre := []) HS.out [.int .i64 (G 0), .int .i64 (G 1), .int .i64 (G 2), .int .i64 (G 3), .int .i64 (G 4), .int .i64 (G 5), .int .i64 sk, .slice ak nk ck, .int .i64 1, .slice bk mk dk])
          go_wp2_with (first | refine wpList_store_row rfl _ _ _ rfl _ #[.int .i64 (G 0), .int .i64 (G 1), .int .i64 (G 2), .int .i64 (G 3), .int .i64 (G 4), .int .i64 (G 5), .int .i64 sk, .slice ak nk ck, .int .i64 1, .slice bk mk dk] rfl rfl _ _ (HS.out.box _ mq0) (by kernel_rfl) rfl (by simp [Value.oneCell']) ?_)
          clear q32 q33 q34 q35 q36 q37 q38 q39 q40 q41
          refine bodyPost_ret (results_cell_row rfl _ _ _ _ _ (0, 0) _ rfl (Q42.out.box _ mq0) Tryz.underlying30 rfl (by kernel_rfl)) rfl ⟨_, _, _, _, _, _, _, rfl, (Q42.out.fr (v := .slice ak nk ck) (u := .slice bk mk dk) (r := x * (1 / pwN y k)) mq0 mq1 ER.out), Q42.out.below, HFA.out, HFB.out⟩
/-- Any exponent of an item. -/
theorem umultiply_k {w : World} {f U G : Nat → Int} {s1 : Int} {a1 b1 : Option Addr} {n1 c1 m1 d1 : Nat} {x : Rat} {s2 : Int} {a2 b2 : Option Addr} {n2 c2 m2 d2 : Nat} {y : Rat} (hx : Fr w s1 (.slice a1 n1 c1) (.slice b1 m1 d1) x) (hy : Fr w s2 (.slice a2 n2 c2) (.slice b2 m2 d2) y) (lx : FSz 900 x) (ly : FSz 3 y) (y0 : y ≠ 0) (z : Int) (hz : -9 ≤ z ∧ z ≤ 9) (hz0 : z ≠ 0) {r : Rat} (hr : x * pwZ y z = r)
    (hG : ∀ j, j < 6 → G j = f j + U j * z ∧ -1000 ≤ U j * z ∧ U j * z ≤ 1000 ∧ -1000 ≤ f j ∧ f j ≤ 1000) (hG6 : ∀ i, 6 ≤ i → f i = G i) :
    Calls Tryz.prog 38 #[.agg (uc f s1 (.slice a1 n1 c1) 1 (.slice b1 m1 d1)), .agg (uc U s2 (.slice a2 n2 c2) 1 (.slice b2 m2 d2)), .int .i64 z] w (UV G r w) := by
  subst hr
  by_cases h : 0 ≤ z
  · obtain ⟨n, rfl⟩ := Int.eq_ofNat_of_zero_le h
    have e : pwZ y (n : Int) = pwN y n := by unfold pwZ; rw [if_pos h]; rfl
    rw [e]
    exact umultiply_up hx hy lx ly y0 n (by omega) (by omega) hG hG6
  · obtain ⟨n, hn⟩ := Int.eq_ofNat_of_zero_le (a := -z) (by omega)
    obtain rfl : z = -(n : Int) := by omega
    have e : pwZ y (-(n : Int)) = 1 / pwN y n := by unfold pwZ; rw [if_neg h]; simp
    rw [e]
    exact umultiply_down hx hy lx ly y0 n (by omega) (by omega) hG hG6
end Go.Proofs.YtmhdhabgdlefjaaGreatDoor.Un

namespace Go.Proofs.YtmhdhabgdlefjaaGreatDoor.Un
open Go.RowKit Bi Dm

theorem exp_pos (s : List UInt8) : 1 ≤ (expL s).1 := by
  cases s with
  | nil => show 1 ≤ 1; omega
  | cons c r =>
    rw [expL]
    split
    · rename_i h
      unfold digitB at h
      simp only [Bool.and_eq_true, decide_eq_true_eq] at h
      show 1 ≤ c.toNat - 48; omega
    · show 1 ≤ 1; omega
theorem item_word {s r v : List UInt8} {n : Nat} (h : itemL s = some ((v, n), r)) : v.length ≤ s.length ∧ 1 ≤ n := by
  unfold itemL at h
  split at h
  · cases h
  · simp only [Option.some.injEq, Prod.mk.injEq] at h
    have h1 := exp_pos (s.dropWhile letterB)
    have h2 := tw_len (p := letterB) s
    rw [h.1.2] at h1
    rw [h.1.1] at h2
    exact ⟨h2, h1⟩
theorem tail_words : ∀ (k : Nat) (s : List UInt8) (l : List (List UInt8 × Int)), s.length ≤ k → tailL s = some l → ∀ x ∈ l, x.1.length ≤ s.length ∧ x.2 ≠ 0
  | _, [], l, _, h => by
    rw [tailL_nil] at h
    injection h with h; subst h
    intro x hx; cases hx
  | 0, b :: s, _, hk, _ => by simp at hk
  | k + 1, b :: s, l, hk, h => by
    by_cases hb : signB b = true
    · rcases hi : itemL s with _ | ⟨⟨w, n⟩, r⟩
      · rw [tailL_none hi] at h; cases h
      · have hl := item_len hi
        have hw := item_word hi
        rw [tailL_some hb hi] at h
        obtain ⟨m, hm, rfl⟩ := Option.map_eq_some_iff.1 h
        have ih := tail_words k r m (by simp at hk; omega) hm
        intro x hx
        rcases List.mem_cons.1 hx with rfl | hx
        · refine ⟨by simp; omega, ?_⟩
          dsimp only
          split <;> omega
        · have := ih x hx
          exact ⟨by simp; omega, this.2⟩
    · rw [tailL_bad (by simpa using hb)] at h; cases h
theorem items_words {s : List UInt8} {l : List (List UInt8 × Int)} (h : itemsL s = some l) : ∀ x ∈ l, x.1.length ≤ 41 ∧ x.2 ≠ 0 := by
  unfold itemsL at h
  split at h
  · cases h
  · rename_i hlen
    cases s with
    | nil => injection h with h; subst h; intro x hx; cases hx
    | cons c r =>
      simp only at h
      split at h
      · intro x hx
        have := tail_words _ _ _ (Nat.le_refl _) h x hx
        simp at hlen
        exact ⟨by omega, this.2⟩
      · intro x hx
        have := tail_words _ _ _ (Nat.le_refl _) h x hx
        simp at hlen this
        exact ⟨by omega, this.2⟩
/-- What Read gives. -/
def ReadE (L : List UInt8) (w : World) (e : Ending) (w' : World) : Prop := match itemsL L with
  | none => UZE 12 w e w'
  | some l => match evL l zf 1 with
    | none => UZE 11 w e w'
    | some (f, r) => if ok f then UVE f r 0 w e w' else UZE 3 w e w'
theorem rd_syntax {L : List UInt8} (h : itemsL L = none) {w : World} {e : Ending} {w' : World} (g : UZE 12 w e w') : ReadE L w e w' := by
  unfold ReadE; rw [h]; exact g
theorem rd_name {L : List UInt8} {l : List (List UInt8 × Int)} (h : itemsL L = some l) (h2 : evL l zf 1 = none) {w : World} {e : Ending} {w' : World} (g : UZE 11 w e w') : ReadE L w e w' := by
  unfold ReadE; rw [h]; dsimp only; rw [h2]; exact g
theorem rd_ok {L : List UInt8} {l : List (List UInt8 × Int)} {f : Nat → Int} {r : Rat} (h : itemsL L = some l) (h2 : evL l zf 1 = some (f, r)) (h3 : ok f = true) {w : World} {e : Ending} {w' : World} (g : UVE f r 0 w e w') : ReadE L w e w' := by
  unfold ReadE; rw [h]; dsimp only; rw [h2]; dsimp only; rw [h3]; exact g
theorem rd_range {L : List UInt8} {l : List (List UInt8 × Int)} {f : Nat → Int} {r : Rat} (h : itemsL L = some l) (h2 : evL l zf 1 = some (f, r)) (h3 : ok f = false) {w : World} {e : Ending} {w' : World} (g : UZE 3 w e w') : ReadE L w e w' := by
  unfold ReadE; rw [h]; dsimp only; rw [h2]; dsimp only; rw [h3]; exact g
theorem ev_app_no {l : List (List UInt8 × Int)} {k : Nat} (h : evL (l.take k) zf 1 = none) : evL l zf 1 = none := by
  rw [← List.take_append_drop k l, evL_app, h]; rfl

set_option maxHeartbeats 4000000 in
theorem uread_bad (s : ByteArray) (h : itemsL s.data.toList = none) (w : World) : Calls Tryz.prog 10 #[.string s] w (ReadE s.data.toList w) := by
  have HI := Lib.hid (splitP_any s)
  unfold SplitEnd at HI
  rw [h] at HI
  have HW := Lib.hid (fun (e : Ending) (w' : World) (g : UZE 12 w e w') => rd_syntax h g)
  unfold UZE uc at HW
  clear h
  have s0 := ((Sf.start w).put [.int .i64 0, .int .i64 0, .int .i64 0, .int .i64 0, .int .i64 0, .int .i64 0, .int .i64 0, .slice none 0 0, .int .i64 0, .slice none 0 0] 30)
  try simp only [World.size_alloc] at s0
  have S0 := Lib.hid s0
  clear s0
  go_enter Tryz.func10, Tryz.ntmps10
  go_wp2_with fail
  refine (HI.out _).mono ?_
  rintro e w1 ⟨rfl, hb⟩
  have R1 := Lib.hid (S0.out.later hb)
  clear hb
  have Q1 := Lib.hid (Sf.row (pre := []) R1.out [.int .i64 0, .int .i64 0, .int .i64 0, .int .i64 0, .int .i64 0, .int .i64 0, .int .i64 0, .slice none 0 0, .int .i64 0, .slice none 0 0])
  go_wp2_with (first | refine wpList_store_row rfl _ _ _ rfl _ #[.int .i64 0, .int .i64 0, .int .i64 0, .int .i64 0, .int .i64 0, .int .i64 0, .int .i64 0, .slice none 0 0, .int .i64 0, .slice none 0 0] rfl rfl _ _ (R1.out.box _ mq0) (by kernel_rfl) rfl (by simp [Value.oneCell']) ?_)
  refine bodyPost_ret (ret_row rfl _ _ _ _ rfl (run_loadVar_row _ _ _ _ _ (0, 0) _ (Q1.out.box _ mq0) Tryz.underlying30 rfl (by kernel_rfl))) rfl (HW.out _ _ ⟨rfl, Q1.out.below⟩)

set_option maxHeartbeats 8000000 in
theorem uread_good (s : ByteArray) {l : List (List UInt8 × Int)} (h : itemsL s.data.toList = some l) (w : World) (he : EnvU w) : Calls Tryz.prog 10 #[.string s] w (ReadE s.data.toList w) := by
  have HI := Lib.hid (splitP_any s)
  unfold SplitEnd at HI
  rw [h] at HI
  have HH := Lib.hid h
  have HE := Lib.hid he
  have HO := Lib.hid (fun W => fint_r (z := 1) (r := 1) (by decide) rfl W)
  clear h he
  have s0 := ((Sf.start w).put [.int .i64 0, .int .i64 0, .int .i64 0, .int .i64 0, .int .i64 0, .int .i64 0, .int .i64 0, .slice none 0 0, .int .i64 0, .slice none 0 0] 30)
  try simp only [World.size_alloc] at s0
  have S0 := Lib.hid s0
  clear s0
  go_enter Tryz.func10, Tryz.ntmps10
  go_wp2_with fail
  refine (HI.out _).mono ?_
  rintro e w1 ⟨ai, ci, rfl, hO, hb, hn⟩
  have R1 := Lib.hid (S0.out.later hb)
  have HOW := Lib.hid hO
  clear hb hO hn HI
  go_wp2_with fail
  refine (HO.out _).mono ?_
  rintro e w2 ⟨sx2, ax2, nx2, cx2, bx2, mx2, dx2, rfl, hr, hb, hf, hg⟩
  have HB2 := Lib.hid hb
  have E2 := Lib.hid hr.1.1
  have R2 := Lib.hid (R1.out.ret2 hb hr.1.2 hf hr.2.2 hg)
  have FF2 := Lib.hid (hf.mono R1.out.below.size)
  have FG2 := Lib.hid (hg.mono R1.out.below.size)
  clear hr hb hf hg
  have P1 := Lib.hid (R2.out.put [.int .i64 0, .int .i64 0, .int .i64 0, .int .i64 0, .int .i64 0, .int .i64 0, .int .i64 0, .slice none 0 0, .int .i64 0, .slice none 0 0] 30)
  have Q1 := Lib.hid (Sf.row (pre := []) P1.out [.int .i64 0, .int .i64 0, .int .i64 0, .int .i64 0, .int .i64 0, .int .i64 0, .int .i64 sx2, .slice ax2 nx2 cx2, .int .i64 1, .slice bx2 mx2 dx2])
  have HL1 := Lib.hid (below_row (HB2.out.alloc HB2.out.size (.cells #[.int .i64 0, .int .i64 0, .int .i64 0, .int .i64 0, .int .i64 0, .int .i64 0, .int .i64 0, .slice none 0 0, .int .i64 0, .slice none 0 0] 30)) (b := w2.heap.size) HB2.out.size #[.int .i64 0, .int .i64 0, .int .i64 0, .int .i64 0, .int .i64 0, .int .i64 0, .int .i64 sx2, .slice ax2 nx2 cx2, .int .i64 1, .slice bx2 mx2 dx2])
  go_wp2_with (first | refine wpList_store_row rfl _ _ _ rfl _ #[.int .i64 0, .int .i64 0, .int .i64 0, .int .i64 0, .int .i64 0, .int .i64 0, .int .i64 sx2, .slice ax2 nx2 cx2, .int .i64 1, .slice bx2 mx2 dx2] rfl rfl _ _ (P1.out.box _ List.mem_cons_self) (by kernel_rfl) rfl (by simp [Value.oneCell']) ?_)
  have HLB := Lib.hid HB2.out.size
  obtain ⟨B, hB⟩ : ∃ B, w2.heap.size = B := ⟨_, rfl⟩
  obtain ⟨W0, hW0⟩ : ∃ W0, ((w2.alloc (.cells #[.int .i64 0, .int .i64 0, .int .i64 0, .int .i64 0, .int .i64 0, .int .i64 0, .int .i64 0, .slice none 0 0, .int .i64 0, .slice none 0 0] 30)).setRow w2.heap.size #[.int .i64 0, .int .i64 0, .int .i64 0, .int .i64 0, .int .i64 0, .int .i64 0, .int .i64 sx2, .slice ax2 nx2 cx2, .int .i64 1, .slice bx2 mx2 dx2]) = W0 := ⟨_, rfl⟩
  rw [hW0] at Q1 HL1 ⊢
  rw [hB] at Q1 HLB hW0 ⊢
  have HL := Lib.hid (items_bound HH.out)
  have HLW := Lib.hid (items_words HH.out)
  clear P1 hW0 hB
  go_loopw [23] (fun t wr => ∃ (k : Nat) (f : Nat → Int) (R : Rat) (s : Int) (a : Option Addr) (n c : Nat) (b : Option Addr) (m d : Nat), k ≤ l.length ∧ t = .int .i64 (k : Int) ∧ evL (l.take k) zf 1 = some (f, R) ∧ s = R.num.sign ∧ Fresh w.heap.size (.slice a n c) ∧ Fresh w.heap.size (.slice b m d) ∧ RowKit.Below w1.heap.size w1 wr ∧ Sf w [(B, 30, [.int .i64 (f 0), .int .i64 (f 1), .int .i64 (f 2), .int .i64 (f 3), .int .i64 (f 4), .int .i64 (f 5), .int .i64 s, .slice a n c, .int .i64 1, .slice b m d]), (w.heap.size, 30, [.int .i64 0, .int .i64 0, .int .i64 0, .int .i64 0, .int .i64 0, .int .i64 0, .int .i64 0, .slice none 0 0, .int .i64 0, .slice none 0 0])] [(.slice a n c, digs R.num.natAbs), (.slice b m d, digs ((R.den : Int)).natAbs)] wr) (fun t _ => 21 - (RowKit.intOf t).toNat)
  case atStart => exact ⟨0, zf, 1, _, _, _, _, _, _, _, Nat.zero_le _, rfl, by rw [List.take_zero, evL], E2.out, FF2.out, FG2.out, HL1.out, Q1.out⟩
  case round =>
    obtain ⟨k, f, R, sk, ak, nk, ck, bk, mk, dk, hk, rfl, hev, es, hfa, hfb, hbl, hS⟩ := hrel
    have ER := Lib.hid es
    have HS := Lib.hid hS
    have HFA := Lib.hid hfa
    have HFB := Lib.hid hfb
    have HEV := Lib.hid hev
    have HBL := Lib.hid hbl
    have HIT := Lib.hid (OwnJ.later HOW.out hbl)
    clear es hS hfa hfb hev
    by_cases hlt : k < l.length
    · have hlt2 : decide ((k : Int) < (l.length : Int)) = true := by simp; omega
      obtain ⟨G, rfl, hc0, hc1⟩ := OwnJ.at HIT.out hlt
      have hia := jt_at G l.length ci k hlt (by have := HL.out.1; omega)
      have hwl := (HLW.out l[k] (List.getElem_mem hlt)).1
      have hx0 := (HLW.out l[k] (List.getElem_mem hlt)).2
      have HWD := Lib.hid (fun W he => wordP_any ⟨l[k].1.toArray⟩ (by show l[k].1.toArray.size ≤ 1000; simp; omega) W he)
      unfold sv at hc0
      obtain ⟨x, hx⟩ : ∃ x, l[k].2 = x := ⟨_, rfl⟩
      have hex := HL.out.2 l[k] (List.getElem_mem hlt)
      rw [hx] at hc1 hx0 hex
      rcases hw : wordL l[k].1 with _ | ⟨b0, n0, q0⟩
      · have HNO : Hid (evL l zf 1 = none) := Lib.hid (by
          have := ev_take hlt HEV.out
          rw [hw] at this
          exact ev_app_no this)
        have HRE := Lib.hid (fun (e : Ending) (w' : World) (g : UZE 11 w e w') => rd_name HH.out HNO.out g)
        unfold UZE uc at HRE
        have HWD : Hid (∀ W, EnvU W → Calls Tryz.prog 37 #[.string ⟨l[k].1.toArray⟩] W (Gives (.tuple #[.agg (uc zf 0 (.slice none 0 0) 0 (.slice none 0 0)), .bool false]) W)) := Lib.hid (fun W he => by
          have := HWD.out W he
          unfold WordEnd at this
          rw [show (⟨l[k].1.toArray⟩ : ByteArray).data.toList = l[k].1 from rfl, hw] at this
          exact this)
        unfold uc at HWD
        obtain ⟨V, hV⟩ : ∃ V : ByteArray, (⟨l[k].1.toArray⟩ : ByteArray) = V := ⟨_, rfl⟩
        rw [hV] at HWD hc0
        clear hw hV hx0 hex hx hwl
        have P2 := Lib.hid (HS.out.put [.string ⟨#[]⟩, .int .i64 0] 67)
        have Q2 := Lib.hid (Sf.row (pre := []) P2.out [.string V, .int .i64 x])
        have HL2 := Lib.hid (below_row (HBL.out.alloc HBL.out.size (.cells #[.string ⟨#[]⟩, .int .i64 0] 67)) (b := wr.heap.size) HBL.out.size #[.string V, .int .i64 x])
        have q3 := (Q2.out.box (wr.heap.size, 67, [.string V, .int .i64 x]) mq0).cell 0
        have q4 := (Q2.out.box (wr.heap.size, 67, [.string V, .int .i64 x]) mq0).cell 1
        simp only [List.getElem?_cons_succ, List.getElem?_cons_zero] at q3 q4
        go_wp2_with (first | refine wpList_store_row rfl _ _ _ rfl _ #[.string V, .int .i64 x] rfl rfl _ _ (P2.out.box _ List.mem_cons_self) (by kernel_rfl) rfl (by simp [Value.oneCell']) ?_)
        clear hia hc0 hc1
        clear q3 q4
        refine (HWD.out _ (HE.out.below Q2.out.below)).mono ?_
        rintro e w6 ⟨rfl, hb⟩
        have R6 := Lib.hid (Q2.out.later hb)
        clear hb
        have P5 := Lib.hid (R6.out.put [.int .i64 0, .int .i64 0, .int .i64 0, .int .i64 0, .int .i64 0, .int .i64 0, .int .i64 0, .slice none 0 0, .int .i64 0, .slice none 0 0] 30)
        have Q5 := Lib.hid (Sf.row (pre := []) P5.out [.int .i64 (zf 0), .int .i64 (zf 1), .int .i64 (zf 2), .int .i64 (zf 3), .int .i64 (zf 4), .int .i64 (zf 5), .int .i64 0, .slice none 0 0, .int .i64 0, .slice none 0 0])
        have Q6 := Lib.hid (Sf.row (pre := [(w6.heap.size, 30, [.int .i64 (zf 0), .int .i64 (zf 1), .int .i64 (zf 2), .int .i64 (zf 3), .int .i64 (zf 4), .int .i64 (zf 5), .int .i64 0, .slice none 0 0, .int .i64 0, .slice none 0 0]), (wr.heap.size, 67, [.string V, .int .i64 x]), (B, 30, [.int .i64 (f 0), .int .i64 (f 1), .int .i64 (f 2), .int .i64 (f 3), .int .i64 (f 4), .int .i64 (f 5), .int .i64 sk, .slice ak nk ck, .int .i64 1, .slice bk mk dk])]) Q5.out [.int .i64 0, .int .i64 0, .int .i64 0, .int .i64 0, .int .i64 0, .int .i64 0, .int .i64 0, .slice none 0 0, .int .i64 0, .slice none 0 0])
        go_wp2_with (first | refine wpList_store_row rfl _ _ _ rfl _ #[.int .i64 (zf 0), .int .i64 (zf 1), .int .i64 (zf 2), .int .i64 (zf 3), .int .i64 (zf 4), .int .i64 (zf 5), .int .i64 0, .slice none 0 0, .int .i64 0, .slice none 0 0] rfl rfl _ _ (P5.out.box _ List.mem_cons_self) (by kernel_rfl) rfl (by simp [Value.oneCell']) ?_ | refine wpList_store_row rfl _ _ _ rfl _ #[.int .i64 0, .int .i64 0, .int .i64 0, .int .i64 0, .int .i64 0, .int .i64 0, .int .i64 0, .slice none 0 0, .int .i64 0, .slice none 0 0] rfl rfl _ _ (Q5.out.box _ mq3) (by kernel_rfl) rfl (by simp [Value.oneCell']) ?_)
        refine bodyPost_ret (ret_row rfl _ _ _ _ rfl (run_loadVar_row _ _ _ _ _ (0, 0) _ (Q6.out.box _ mq3) Tryz.underlying30 rfl (by kernel_rfl))) rfl (HRE.out _ _ ⟨rfl, Q6.out.below⟩)
      · skip
        have HWD : Hid (∀ W, EnvU W → Calls Tryz.prog 37 #[.string ⟨l[k].1.toArray⟩] W (UVB (up zf b0 n0) q0 true W)) := Lib.hid (fun W he => by
          have := HWD.out W he
          unfold WordEnd at this
          rw [show (⟨l[k].1.toArray⟩ : ByteArray).data.toList = l[k].1 from rfl, hw] at this
          exact this)
        have HX := Lib.hid hx
        have HX0 := Lib.hid hx0
        have HEN := Lib.hid (ev_take hlt HEV.out)
        rw [hw] at HEN
        have HWB := Lib.hid (word_bound hw)
        have HXB := Lib.hid hex
        rw [hx] at HEN
        obtain ⟨V, hV⟩ : ∃ V : ByteArray, (⟨l[k].1.toArray⟩ : ByteArray) = V := ⟨_, rfl⟩
        rw [hV] at HWD hc0
        obtain ⟨U, hU⟩ : ∃ U, up zf b0 n0 = U := ⟨_, rfl⟩
        rw [hU] at HWD
        have HU := Lib.hid hU
        obtain ⟨Gf, hGf⟩ : ∃ Gf : Nat → Int, (fun i => f i + (if i = b0 then n0 * x else 0)) = Gf := ⟨_, rfl⟩
        have HGf := Lib.hid hGf
        have hrs := ev_bound (l.take k) zf f 1 R 1 0 (fun y hy => HL.out.2 y (List.mem_of_mem_take hy)) (fun i => by unfold zf; omega) (FSz.one (by decide) (by decide)) (by decide) HEV.out
        have hle : (l.take k).length ≤ 20 := by
          rw [List.length_take]
          have := HL.out.1
          omega
        have LR : Hid (FSz 900 R) := Lib.hid (hrs.2.1.mono (by omega))
        obtain ⟨RR, hRR⟩ : ∃ RR, R * pwZ q0 x = RR := ⟨_, rfl⟩
        have HRR := Lib.hid hRR
        have HEV2 : Hid (evL (l.take (k + 1)) zf 1 = some (Gf, RR)) := Lib.hid (by
          rw [HEN.out]; simp only [Option.map_some, hRR, HGf.out])
        have HGG : Hid (∀ j, j < 6 → Gf j = f j + U j * x ∧ -1000 ≤ U j * x ∧ U j * x ≤ 1000 ∧ -1000 ≤ f j ∧ f j ≤ 1000) := Lib.hid (fun j _ => by
          have e1 : Gf j = f j + (if j = b0 then n0 * x else 0) := by rw [← HGf.out]
          have e2 : U j * x = (if j = b0 then n0 * x else 0) := by
            rw [← HU.out]; unfold up zf
            by_cases hjb : j = b0
            · rw [if_pos hjb, if_pos hjb]
            · rw [if_neg hjb, if_neg hjb, Int.zero_mul]
          have h1 := hrs.1 j
          have h3 := HWB.out.2.1
          have h4 := HXB.out
          have h5 : -27 ≤ n0 * x ∧ n0 * x ≤ 27 := by
            obtain rfl | rfl | rfl : n0 = 1 ∨ n0 = 2 ∨ n0 = 3 := by omega
            all_goals omega
          refine ⟨by rw [e1, e2], ?_⟩
          rw [e2]
          split <;> omega)
        have HG6 : Hid (∀ i, 6 ≤ i → f i = Gf i) := Lib.hid (fun i hi => by
          have h := HWB.out.1
          rw [← HGf.out]
          show f i = f i + (if i = b0 then n0 * x else 0)
          rw [if_neg (by omega), Int.add_zero])
        clear hw hV hx hU hbl hx0 hex hwl hGf hrs hle hRR
        have P7 := Lib.hid (HS.out.put [.string ⟨#[]⟩, .int .i64 0] 67)
        have Q7 := Lib.hid (Sf.row (pre := []) P7.out [.string V, .int .i64 x])
        have HL7 := Lib.hid (below_row (HBL.out.alloc HBL.out.size (.cells #[.string ⟨#[]⟩, .int .i64 0] 67)) (b := wr.heap.size) HBL.out.size #[.string V, .int .i64 x])
        have q8 := (Q7.out.box (wr.heap.size, 67, [.string V, .int .i64 x]) mq0).cell 0
        have q9 := (Q7.out.box (wr.heap.size, 67, [.string V, .int .i64 x]) mq0).cell 1
        simp only [List.getElem?_cons_succ, List.getElem?_cons_zero] at q8 q9
        go_wp2_with (first | refine wpList_store_row rfl _ _ _ rfl _ #[.string V, .int .i64 x] rfl rfl _ _ (P7.out.box _ List.mem_cons_self) (by kernel_rfl) rfl (by simp [Value.oneCell']) ?_)
        clear hia hc0 hc1
        clear q8 q9
        refine (HWD.out _ (HE.out.below Q7.out.below)).mono ?_
        rintro e w6 ⟨sx6, ax6, nx6, cx6, bx6, mx6, dx6, rfl, hr, hb, hf, hg⟩
        have HB6 := Lib.hid hb
        have E6 := Lib.hid hr.1.1
        have R6 := Lib.hid (Q7.out.ret2 hb hr.1.2 hf hr.2.2 hg)
        have FF6 := Lib.hid (hf.mono Q7.out.below.size)
        have FG6 := Lib.hid (hg.mono Q7.out.below.size)
        clear hr hb hf hg
        have HK6 := Lib.hid (HL7.out.trans (HB6.out.mono HL7.out.size))
        have P10 := Lib.hid (R6.out.put [.int .i64 0, .int .i64 0, .int .i64 0, .int .i64 0, .int .i64 0, .int .i64 0, .int .i64 0, .slice none 0 0, .int .i64 0, .slice none 0 0] 30)
        have Q10 := Lib.hid (Sf.row (pre := []) P10.out [.int .i64 (U 0), .int .i64 (U 1), .int .i64 (U 2), .int .i64 (U 3), .int .i64 (U 4), .int .i64 (U 5), .int .i64 sx6, .slice ax6 nx6 cx6, .int .i64 1, .slice bx6 mx6 dx6])
        have HL10 := Lib.hid (below_row (HK6.out.alloc HK6.out.size (.cells #[.int .i64 0, .int .i64 0, .int .i64 0, .int .i64 0, .int .i64 0, .int .i64 0, .int .i64 0, .slice none 0 0, .int .i64 0, .slice none 0 0] 30)) (b := w6.heap.size) HK6.out.size #[.int .i64 (U 0), .int .i64 (U 1), .int .i64 (U 2), .int .i64 (U 3), .int .i64 (U 4), .int .i64 (U 5), .int .i64 sx6, .slice ax6 nx6 cx6, .int .i64 1, .slice bx6 mx6 dx6])
        obtain ⟨q11, q12, q13, q14, q15, q16, q17, q18, q19, q20⟩ := Fb.cells10 (Q10.out.box (w6.heap.size, 30, [.int .i64 (U 0), .int .i64 (U 1), .int .i64 (U 2), .int .i64 (U 3), .int .i64 (U 4), .int .i64 (U 5), .int .i64 sx6, .slice ax6 nx6 cx6, .int .i64 1, .slice bx6 mx6 dx6]) mq0)
        have q21 := (Q10.out.box (wr.heap.size, 67, [.string V, .int .i64 x]) mq1).cell 0
        have q22 := (Q10.out.box (wr.heap.size, 67, [.string V, .int .i64 x]) mq1).cell 1
        simp only [List.getElem?_cons_succ, List.getElem?_cons_zero] at q21 q22
        obtain ⟨q23, q24, q25, q26, q27, q28, q29, q30, q31, q32⟩ := Fb.cells10 (Q10.out.box (B, 30, [.int .i64 (f 0), .int .i64 (f 1), .int .i64 (f 2), .int .i64 (f 3), .int .i64 (f 4), .int .i64 (f 5), .int .i64 sk, .slice ak nk ck, .int .i64 1, .slice bk mk dk]) mq2)
        go_wp2_with (first | refine wpList_store_row rfl _ _ _ rfl _ #[.int .i64 (U 0), .int .i64 (U 1), .int .i64 (U 2), .int .i64 (U 3), .int .i64 (U 4), .int .i64 (U 5), .int .i64 sx6, .slice ax6 nx6 cx6, .int .i64 1, .slice bx6 mx6 dx6] rfl rfl _ _ (P10.out.box _ List.mem_cons_self) (by kernel_rfl) rfl (by simp [Value.oneCell']) ?_)
        clear q11 q12 q13 q14 q15 q16 q17 q18 q19 q20 q21 q22 q23 q24 q25 q26 q27 q28 q29 q30 q31 q32
        refine (umultiply_k (Q10.out.fr (v := .slice ak nk ck) (u := .slice bk mk dk) (r := R) mq2 mq3 ER.out) (Q10.out.fr (v := .slice ax6 nx6 cx6) (u := .slice bx6 mx6 dx6) (r := q0) mq0 mq1 E6.out) LR.out HWB.out.2.2.1 HWB.out.2.2.2 x HXB.out HX0.out HRR.out HGG.out HG6.out).mono ?_
        rintro e w7 ⟨sx7, ax7, nx7, cx7, bx7, mx7, dx7, rfl, hr, hb, hf, hg⟩
        have HB7 := Lib.hid hb
        have E7 := Lib.hid hr.1.1
        have R7 := Lib.hid (Q10.out.ret2 hb hr.1.2 hf hr.2.2 hg)
        have FF7 := Lib.hid (hf.mono Q10.out.below.size)
        have FG7 := Lib.hid (hg.mono Q10.out.below.size)
        clear hr hb hf hg
        have HK7 := Lib.hid (HL10.out.trans (HB7.out.mono HL10.out.size))
        have hw9 : IntKind.i64.wrap ((k : Int) + 1) = (k : Int) + 1 := IntWalk.i64_in _ (by have := HL.out.1; omega)
        have Q33 := Lib.hid (Sf.row (pre := [(w6.heap.size, 30, [.int .i64 (U 0), .int .i64 (U 1), .int .i64 (U 2), .int .i64 (U 3), .int .i64 (U 4), .int .i64 (U 5), .int .i64 sx6, .slice ax6 nx6 cx6, .int .i64 1, .slice bx6 mx6 dx6]), (wr.heap.size, 67, [.string V, .int .i64 x])]) R7.out [.int .i64 (Gf 0), .int .i64 (Gf 1), .int .i64 (Gf 2), .int .i64 (Gf 3), .int .i64 (Gf 4), .int .i64 (Gf 5), .int .i64 sx7, .slice ax7 nx7 cx7, .int .i64 1, .slice bx7 mx7 dx7])
        go_wp2_with (first | refine wpList_store_row rfl _ _ _ rfl _ #[.int .i64 (Gf 0), .int .i64 (Gf 1), .int .i64 (Gf 2), .int .i64 (Gf 3), .int .i64 (Gf 4), .int .i64 (Gf 5), .int .i64 sx7, .slice ax7 nx7 cx7, .int .i64 1, .slice bx7 mx7 dx7] rfl rfl _ _ (R7.out.box _ mq2) (by kernel_rfl) rfl (by simp [Value.oneCell']) ?_)
        have HBM := Lib.hid (below_row HK7.out HLB.out #[.int .i64 (Gf 0), .int .i64 (Gf 1), .int .i64 (Gf 2), .int .i64 (Gf 3), .int .i64 (Gf 4), .int .i64 (Gf 5), .int .i64 sx7, .slice ax7 nx7 cx7, .int .i64 1, .slice bx7 mx7 dx7])
        have HT := Lib.hid (Sf.facts (Sf.tail (Sf.tail Q33.out)) (F' := [(.slice ax7 nx7 cx7, digs (RR).num.natAbs), (.slice bx7 mx7 dx7, digs (((RR).den : Int)).natAbs)]) (by simp))
        have hk20 : k < 20 := by have := HL.out.1; omega
        go_roundw
        case rel => exact ⟨k + 1, Gf, RR, _, _, _, _, _, _, _, hlt, by go_num, HEV2.out, E7.out, FF7.out, FG7.out, HBM.out, HT.out⟩
        case measure => simp [RowKit.intOf]; omega
    · obtain rfl : k = l.length := by omega
      have hlt2 : decide ((l.length : Int) < (l.length : Int)) = false := by simp
      have hlt3 : decide (l.length < l.length) = false := by simp
      rw [List.take_length] at HEV
      have HR := Lib.hid (fun W => rightG f W)
      unfold cl at HR
      rcases hok : ok f with _ | _
      · rw [hok] at HR
        have HRE := Lib.hid (fun (e : Ending) (w' : World) (g : UZE 3 w e w') => rd_range HH.out HEV.out hok g)
        unfold UZE uc at HRE
        clear hok
        obtain ⟨q34, q35, q36, q37, q38, q39, q40, q41, q42, q43⟩ := Fb.cells10 (HS.out.box (B, 30, [.int .i64 (f 0), .int .i64 (f 1), .int .i64 (f 2), .int .i64 (f 3), .int .i64 (f 4), .int .i64 (f 5), .int .i64 sk, .slice ak nk ck, .int .i64 1, .slice bk mk dk]) mq0)
        go_wp2_with fail
        clear q34 q35 q36 q37 q38 q39 q40 q41 q42 q43
        refine (HR.out _).mono ?_
        rintro e w6 ⟨rfl, hb⟩
        have R6 := Lib.hid (HS.out.later hb)
        clear hb
        have Q44 := Lib.hid (Sf.row (pre := [(B, 30, [.int .i64 (f 0), .int .i64 (f 1), .int .i64 (f 2), .int .i64 (f 3), .int .i64 (f 4), .int .i64 (f 5), .int .i64 sk, .slice ak nk ck, .int .i64 1, .slice bk mk dk])]) R6.out [.int .i64 0, .int .i64 0, .int .i64 0, .int .i64 0, .int .i64 0, .int .i64 0, .int .i64 0, .slice none 0 0, .int .i64 0, .slice none 0 0])
        go_wp2_with (first | refine wpList_store_row rfl _ _ _ rfl _ #[.int .i64 0, .int .i64 0, .int .i64 0, .int .i64 0, .int .i64 0, .int .i64 0, .int .i64 0, .slice none 0 0, .int .i64 0, .slice none 0 0] rfl rfl _ _ (R6.out.box _ mq1) (by kernel_rfl) rfl (by simp [Value.oneCell']) ?_)
        refine bodyPost_ret (ret_row rfl _ _ _ _ rfl (run_loadVar_row _ _ _ _ _ (0, 0) _ (Q44.out.box _ mq1) Tryz.underlying30 rfl (by kernel_rfl))) rfl (HRE.out _ _ ⟨rfl, Q44.out.below⟩)
      · rw [hok] at HR
        have HRE := Lib.hid (fun (e : Ending) (w' : World) (g : UVE f R 0 w e w') => rd_ok HH.out HEV.out hok g)
        clear hok
        obtain ⟨q45, q46, q47, q48, q49, q50, q51, q52, q53, q54⟩ := Fb.cells10 (HS.out.box (B, 30, [.int .i64 (f 0), .int .i64 (f 1), .int .i64 (f 2), .int .i64 (f 3), .int .i64 (f 4), .int .i64 (f 5), .int .i64 sk, .slice ak nk ck, .int .i64 1, .slice bk mk dk]) mq0)
        go_wp2_with fail
        clear q45 q46 q47 q48 q49 q50 q51 q52 q53 q54
        refine (HR.out _).mono ?_
        rintro e w6 ⟨rfl, hb⟩
        have R6 := Lib.hid (HS.out.later hb)
        clear hb
        obtain ⟨q55, q56, q57, q58, q59, q60, q61, q62, q63, q64⟩ := Fb.cells10 (R6.out.box (B, 30, [.int .i64 (f 0), .int .i64 (f 1), .int .i64 (f 2), .int .i64 (f 3), .int .i64 (f 4), .int .i64 (f 5), .int .i64 sk, .slice ak nk ck, .int .i64 1, .slice bk mk dk]) mq0)
        have Q65 := Lib.hid (Sf.row (pre := [(B, 30, [.int .i64 (f 0), .int .i64 (f 1), .int .i64 (f 2), .int .i64 (f 3), .int .i64 (f 4), .int .i64 (f 5), .int .i64 sk, .slice ak nk ck, .int .i64 1, .slice bk mk dk])]) R6.out [.int .i64 (f 0), .int .i64 (f 1), .int .i64 (f 2), .int .i64 (f 3), .int .i64 (f 4), .int .i64 (f 5), .int .i64 sk, .slice ak nk ck, .int .i64 1, .slice bk mk dk])
        go_wp2_with (first | refine wpList_store_row rfl _ _ _ rfl _ #[.int .i64 (f 0), .int .i64 (f 1), .int .i64 (f 2), .int .i64 (f 3), .int .i64 (f 4), .int .i64 (f 5), .int .i64 sk, .slice ak nk ck, .int .i64 1, .slice bk mk dk] rfl rfl _ _ (R6.out.box _ mq1) (by kernel_rfl) rfl (by simp [Value.oneCell']) ?_)
        clear q55 q56 q57 q58 q59 q60 q61 q62 q63 q64
        refine bodyPost_ret (ret_row rfl _ _ _ _ rfl (run_loadVar_row _ _ _ _ _ (0, 0) _ (Q65.out.box _ mq1) Tryz.underlying30 rfl (by kernel_rfl))) rfl (HRE.out _ _ ⟨_, _, _, _, _, _, _, rfl, (Q65.out.fr (v := .slice ak nk ck) (u := .slice bk mk dk) (r := R) mq0 mq1 ER.out), Q65.out.below, HFA.out, HFB.out⟩)
theorem uread_any (s : ByteArray) (w : World) (he : EnvU w) : Calls Tryz.prog 10 #[.string s] w (ReadE s.data.toList w) := by
  rcases h : itemsL s.data.toList with _ | l
  · exact uread_bad s h w
  · exact uread_good s h w he
end Go.Proofs.YtmhdhabgdlefjaaGreatDoor.Un

namespace Go.Proofs.YtmhdhabgdlefjaaGreatDoor.Un
open Go.RowKit Bi Dm

def meansB (s d : List UInt8) (p q : Int) : Bool := match itemsL s with
  | none => false
  | some l => match evL l zf 1 with
    | none => false
    | some (f, r) => ok f && (decide (tx f = d) && decide (r = Rat.divInt p q))
theorem means_of {s d : List UInt8} {p q : Int} (h : meansB s d p q = true) : ∃ l f, itemsL s = some l ∧ evL l zf 1 = some (f, Rat.divInt p q) ∧ ok f = true ∧ tx f = d := by
  unfold meansB at h
  split at h
  · cases h
  · rename_i l hl
    split at h
    · cases h
    · rename_i f r hf
      simp only [Bool.and_eq_true, decide_eq_true_eq] at h
      obtain ⟨h1, h2, rfl⟩ := h
      exact ⟨l, f, hl, hf, h1, h2⟩
def failsI (s : List UInt8) : Int := match itemsL s with
  | none => 12
  | some l => match evL l zf 1 with
    | none => 11
    | some (f, _) => if ok f then 0 else 3
theorem read_fails {s : List UInt8} {z : Int} (h : failsI s = z) (h0 : z ≠ 0) {w w' : World} {e : Ending} (g : ReadE s w e w') : UZE z w e w' := by
  subst h
  unfold failsI at h0 ⊢
  unfold ReadE at g
  rcases h1 : itemsL s with _ | l
  · rw [h1] at g; exact g
  · rw [h1] at g h0
    dsimp only at g h0 ⊢
    rcases h2 : evL l zf 1 with _ | ⟨f, r⟩
    · rw [h2] at g; exact g
    · rw [h2] at g h0
      dsimp only at g h0 ⊢
      rcases h3 : ok f with _ | _
      · rw [h3] at g; exact g
      · rw [h3] at h0; exact absurd rfl h0
theorem read_gives {s : List UInt8} {l : List (List UInt8 × Int)} {f : Nat → Int} {r : Rat} (h1 : itemsL s = some l) (h2 : evL l zf 1 = some (f, r)) (h3 : ok f = true) {w w' : World} {e : Ending} (g : ReadE s w e w') : UVE f r 0 w e w' := by
  unfold ReadE at g
  rw [h1] at g; dsimp only at g
  rw [h2] at g; dsimp only at g
  rwa [h3] at g

set_option maxHeartbeats 2000000 in
theorem lmeans_t (s d : ByteArray) (p q : Int) (h : meansB s.data.toList d.data.toList p q = true) (hp : -9223372036854775808 ≤ p ∧ p ≤ 9223372036854775807) (hq : -9223372036854775808 ≤ q ∧ q ≤ 9223372036854775807) (h0 : q ≠ 0) (w : World) (he : EnvU w) :
    Calls Tryz.prog 33 #[.string s, .string d, .int .i64 p, .int .i64 q] w fun e w' => e = .returned (.bool true) ∧ RowKit.Below w.heap.size w w' := by
  obtain ⟨l, f, h1, h2, h3, h4⟩ := means_of h
  have HR : Hid (∀ W, EnvU W → Calls Tryz.prog 10 #[.string s] W (UVE f (Rat.divInt p q) 0 W)) := Lib.hid (fun W he => (uread_any s W he).mono fun _ _ g => read_gives h1 h2 h3 g)
  have HE := Lib.hid he
  have hd : (⟨(tx f).toArray⟩ : ByteArray) = d := by apply ByteArray.ext; apply Array.ext'; rw [h4]
  have HT : Hid (∀ W, EnvU W → Calls Tryz.prog 29 #[.agg (cl f)] W (Dm.Gives (.string d) W)) := Lib.hid (fun W he => by have := text_any f W he.dim; unfold sv at this; rwa [hd] at this)
  obtain ⟨r, hr⟩ : ∃ r, Rat.divInt p q = r := ⟨_, rfl⟩
  rw [hr] at HR
  have HO := Lib.hid (fun W => rfof_r p q hp hq h0 hr W)
  have s0 := (Sf.start w)
  have S0 := Lib.hid s0
  clear s0 h h1 h2 h3 h4 hp hq h0 he hd hr
  unfold cl at HT
  go_enter Tryz.func33, Tryz.ntmps33
  go_wp2_with fail
  refine (HR.out _ HE.out).mono ?_
  rintro e w1 ⟨sx1, ax1, nx1, cx1, bx1, mx1, dx1, rfl, hr, hb, hf, hg⟩
  have E1 := Lib.hid hr.1.1
  have R1 := Lib.hid (S0.out.ret2 hb hr.1.2 hf hr.2.2 hg)
  have FF1 := Lib.hid (hf.mono S0.out.below.size)
  have FG1 := Lib.hid (hg.mono S0.out.below.size)
  clear hr hb hf hg
  have P1 := Lib.hid (R1.out.put [.int .i64 0, .int .i64 0, .int .i64 0, .int .i64 0, .int .i64 0, .int .i64 0, .int .i64 0, .slice none 0 0, .int .i64 0, .slice none 0 0] 30)
  have Q1 := Lib.hid (Sf.row (pre := []) P1.out [.int .i64 (f 0), .int .i64 (f 1), .int .i64 (f 2), .int .i64 (f 3), .int .i64 (f 4), .int .i64 (f 5), .int .i64 sx1, .slice ax1 nx1 cx1, .int .i64 1, .slice bx1 mx1 dx1])
  go_wp2_with (first | refine wpList_store_row rfl _ _ _ rfl _ #[.int .i64 (f 0), .int .i64 (f 1), .int .i64 (f 2), .int .i64 (f 3), .int .i64 (f 4), .int .i64 (f 5), .int .i64 sx1, .slice ax1 nx1 cx1, .int .i64 1, .slice bx1 mx1 dx1] rfl rfl _ _ (P1.out.box _ List.mem_cons_self) (by kernel_rfl) rfl (by simp [Value.oneCell']) ?_)
  refine (HO.out _).mono ?_
  rintro e w2 ⟨sx2, ax2, nx2, cx2, bx2, mx2, dx2, rfl, hr, hb, hf, hg⟩
  have E2 := Lib.hid hr.1.1
  have R2 := Lib.hid (Q1.out.ret2 hb hr.1.2 hf hr.2.2 hg)
  have FF2 := Lib.hid (hf.mono Q1.out.below.size)
  have FG2 := Lib.hid (hg.mono Q1.out.below.size)
  clear hr hb hf hg
  have P2 := Lib.hid (R2.out.put [.int .i64 0, .slice none 0 0, .int .i64 0, .slice none 0 0] 28)
  have Q2 := Lib.hid (Sf.row (pre := []) P2.out [.int .i64 sx2, .slice ax2 nx2 cx2, .int .i64 1, .slice bx2 mx2 dx2])
  obtain ⟨q3, q4, q5, q6, q7, q8, q9, q10, q11, q12⟩ := Fb.cells10 (Q2.out.box (w1.heap.size, 30, [.int .i64 (f 0), .int .i64 (f 1), .int .i64 (f 2), .int .i64 (f 3), .int .i64 (f 4), .int .i64 (f 5), .int .i64 sx1, .slice ax1 nx1 cx1, .int .i64 1, .slice bx1 mx1 dx1]) mq1)
  go_wp2_with (first | refine wpList_store_row rfl _ _ _ rfl _ #[.int .i64 sx2, .slice ax2 nx2 cx2, .int .i64 1, .slice bx2 mx2 dx2] rfl rfl _ _ (P2.out.box _ List.mem_cons_self) (by kernel_rfl) rfl (by simp [Value.oneCell']) ?_)
  clear q3 q4 q5 q6 q7 q8 q9 q10 q11 q12
  refine (HT.out _ (HE.out.below Q2.out.below)).mono ?_
  rintro e w3 ⟨rfl, hb⟩
  have R3 := Lib.hid (Q2.out.later hb)
  clear hb
  obtain ⟨q13, q14, q15, q16⟩ := Fb.cells4 (R3.out.box (w2.heap.size, 28, [.int .i64 sx2, .slice ax2 nx2 cx2, .int .i64 1, .slice bx2 mx2 dx2]) mq0)
  obtain ⟨q17, q18, q19, q20, q21, q22, q23, q24, q25, q26⟩ := Fb.cells10 (R3.out.box (w1.heap.size, 30, [.int .i64 (f 0), .int .i64 (f 1), .int .i64 (f 2), .int .i64 (f 3), .int .i64 (f 4), .int .i64 (f 5), .int .i64 sx1, .slice ax1 nx1 cx1, .int .i64 1, .slice bx1 mx1 dx1]) mq1)
  go_wp2_with fail
  clear q13 q14 q15 q16 q17 q18 q19 q20 q21 q22 q23 q24 q25 q26
  refine (rfsame_t (R3.out.fr (v := .slice ax1 nx1 cx1) (u := .slice bx1 mx1 dx1) (r := r) mq2 mq3 E1.out) (R3.out.fr (v := .slice ax2 nx2 cx2) (u := .slice bx2 mx2 dx2) (r := r) mq0 mq1 E2.out) rfl).mono ?_
  rintro e w4 ⟨rfl, hb⟩
  have R4 := Lib.hid (R3.out.later hb)
  clear hb
  go_wp2_with fail
  go_ret
  exact ⟨rfl, R4.out.below⟩

set_option maxHeartbeats 2000000 in
theorem lfails_t (s : ByteArray) (z : Int) (h : failsI s.data.toList = z) (h0 : z ≠ 0) (w : World) (he : EnvU w) :
    Calls Tryz.prog 34 #[.string s, .int .i64 z] w fun e w' => e = .returned (.bool true) ∧ RowKit.Below w.heap.size w w' := by
  have HR : Hid (∀ W, EnvU W → Calls Tryz.prog 10 #[.string s] W (UZE z W)) := Lib.hid (fun W he => (uread_any s W he).mono fun _ _ g => read_fails h h0 g)
  have HE := Lib.hid he
  have S0 := Lib.hid (Sf.start w)
  clear h h0 he
  unfold UZE uc at HR
  go_enter Tryz.func34, Tryz.ntmps34
  go_wp2_with fail
  refine (HR.out _ HE.out).mono ?_
  rintro e w1 ⟨rfl, hb⟩
  have R1 := Lib.hid (S0.out.later hb)
  clear hb
  have P1 := Lib.hid (R1.out.put [.int .i64 0, .int .i64 0, .int .i64 0, .int .i64 0, .int .i64 0, .int .i64 0, .int .i64 0, .slice none 0 0, .int .i64 0, .slice none 0 0] 30)
  have Q1 := Lib.hid (Sf.row (pre := []) P1.out [.int .i64 (zf 0), .int .i64 (zf 1), .int .i64 (zf 2), .int .i64 (zf 3), .int .i64 (zf 4), .int .i64 (zf 5), .int .i64 0, .slice none 0 0, .int .i64 0, .slice none 0 0])
  go_wp2_with (first | refine wpList_store_row rfl _ _ _ rfl _ #[.int .i64 (zf 0), .int .i64 (zf 1), .int .i64 (zf 2), .int .i64 (zf 3), .int .i64 (zf 4), .int .i64 (zf 5), .int .i64 0, .slice none 0 0, .int .i64 0, .slice none 0 0] rfl rfl _ _ (P1.out.box _ List.mem_cons_self) (by kernel_rfl) rfl (by simp [Value.oneCell']) ?_)
  go_ret
  exact ⟨rfl, Q1.out.below⟩

theorem kwh_read : ∃ f, ∀ W, EnvU W → Calls Tryz.prog 10 #[.string ⟨#[107, 87, 104]⟩] W (UVE f 3600000 0 W) ∧ ok f = true := by
  obtain ⟨l, f, h1, h2, h3, _⟩ := means_of (show meansB [107, 87, 104] [74] 3600000 1 = true by decide +kernel)
  refine ⟨f, fun W he => ⟨(uread_any ⟨#[107, 87, 104]⟩ W he).mono fun _ _ g => ?_, h3⟩⟩
  have := read_gives h1 h2 h3 g
  rwa [show Rat.divInt 3600000 1 = 3600000 by decide +kernel] at this

set_option maxHeartbeats 8000000 in
theorem sane_t (w : World) (he : EnvU w) : Calls Tryz.prog 7 #[] w fun e w' => e = .returned (.bool true) ∧ RowKit.Below w.heap.size w w' := by
  obtain ⟨f, hk⟩ := kwh_read
  have HK := Lib.hid (fun W he => (hk W he).1)
  have hf : ok f = true := (hk w he).2
  have Of := Lib.hid hf
  have HE := Lib.hid he
  have HO := Lib.hid (fun W => rfof_r (r := 3 / 2) 3 2 (by decide) (by decide) (by decide) (by decide +kernel) W)
  have HI := Lib.hid (fun W => rfint_r (z := 5400000) (r := 5400000) (by decide) rfl W)
  have LH : Hid (FSz 1000 (3 / 2 : Rat)) := Lib.hid ((FSz.one (by decide +kernel) (by decide +kernel)).mono)
  have LK : Hid (FSz 1000 (3600000 : Rat)) := Lib.hid (FSz.mono (i := 2) ⟨by show ((3600000 : Int).natAbs : Int) < _; simp [P], by show ((1 : Int).natAbs : Int) < _; simp [P]⟩)
  have HRR : Hid ((3 / 2 : Rat) * 3600000 = 5400000) := Lib.hid (by decide +kernel)
  have S0 := Lib.hid (Sf.start w)
  clear hk he hf
  have M0 := Lib.hid (fun W he => lmeans_t ⟨#[107, 87, 104]⟩ ⟨#[74]⟩ 3600000 1 (by decide +kernel) (by decide) (by decide) (by decide) W he)
  have M1 := Lib.hid (fun W he => lmeans_t ⟨#[107, 103, 47, 109, 51]⟩ ⟨#[103, 47, 109, 51]⟩ 1000 1 (by decide +kernel) (by decide) (by decide) (by decide) W he)
  have M2 := Lib.hid (fun W he => lmeans_t ⟨#[108, 47, 104]⟩ ⟨#[109, 51, 47, 115]⟩ 1 3600000 (by decide +kernel) (by decide) (by decide) (by decide) W he)
  have M3 := Lib.hid (fun W he => lmeans_t ⟨#[49, 47, 100, 50]⟩ ⟨#[49, 47, 115, 50]⟩ 1 7464960000 (by decide +kernel) (by decide) (by decide) (by decide) W he)
  have M4 := Lib.hid (fun W he => lmeans_t ⟨#[109, 109, 50]⟩ ⟨#[109, 50]⟩ 1 1000000 (by decide +kernel) (by decide) (by decide) (by decide) W he)
  have M5 := Lib.hid (fun W he => lmeans_t ⟨#[]⟩ ⟨#[49]⟩ 1 1 (by decide +kernel) (by decide) (by decide) (by decide) W he)
  have M6 := Lib.hid (fun W he => lmeans_t ⟨#[49]⟩ ⟨#[49]⟩ 1 1 (by decide +kernel) (by decide) (by decide) (by decide) W he)
  have M7 := Lib.hid (fun W he => lmeans_t ⟨#[109, 57, 42, 109, 47, 109]⟩ ⟨#[109, 57]⟩ 1 1 (by decide +kernel) (by decide) (by decide) (by decide) W he)
  have F0 := Lib.hid (fun W he => lfails_t ⟨#[107, 116]⟩ 11 (by decide +kernel) (by decide) W he)
  have F1 := Lib.hid (fun W he => lfails_t ⟨#[87]⟩ 11 (by decide +kernel) (by decide) W he)
  have F2 := Lib.hid (fun W he => lfails_t ⟨#[103, 47]⟩ 12 (by decide +kernel) (by decide) W he)
  have F3 := Lib.hid (fun W he => lfails_t ⟨#[103, 49]⟩ 12 (by decide +kernel) (by decide) W he)
  have F4 := Lib.hid (fun W he => lfails_t ⟨#[50]⟩ 12 (by decide +kernel) (by decide) W he)
  have F5 := Lib.hid (fun W he => lfails_t ⟨#[49, 103]⟩ 12 (by decide +kernel) (by decide) W he)
  have F6 := Lib.hid (fun W he => lfails_t ⟨#[109, 57, 42, 109]⟩ 3 (by decide +kernel) (by decide) W he)
  go_enter Tryz.func7, Tryz.ntmps7
  go_wp2_with fail
  refine (M0.out _ (HE.out.below S0.out.below)).mono ?_
  rintro e w1 ⟨rfl, hb⟩
  have R1 := Lib.hid (S0.out.later hb)
  clear hb
  go_wp2_with fail
  refine (M1.out _ (HE.out.below R1.out.below)).mono ?_
  rintro e w2 ⟨rfl, hb⟩
  have R2 := Lib.hid (R1.out.later hb)
  clear hb
  go_wp2_with fail
  refine (M2.out _ (HE.out.below R2.out.below)).mono ?_
  rintro e w3 ⟨rfl, hb⟩
  have R3 := Lib.hid (R2.out.later hb)
  clear hb
  go_wp2_with fail
  refine (M3.out _ (HE.out.below R3.out.below)).mono ?_
  rintro e w4 ⟨rfl, hb⟩
  have R4 := Lib.hid (R3.out.later hb)
  clear hb
  go_wp2_with fail
  refine (M4.out _ (HE.out.below R4.out.below)).mono ?_
  rintro e w5 ⟨rfl, hb⟩
  have R5 := Lib.hid (R4.out.later hb)
  clear hb
  go_wp2_with fail
  refine (M5.out _ (HE.out.below R5.out.below)).mono ?_
  rintro e w6 ⟨rfl, hb⟩
  have R6 := Lib.hid (R5.out.later hb)
  clear hb
  go_wp2_with fail
  refine (M6.out _ (HE.out.below R6.out.below)).mono ?_
  rintro e w7 ⟨rfl, hb⟩
  have R7 := Lib.hid (R6.out.later hb)
  clear hb
  go_wp2_with fail
  refine (M7.out _ (HE.out.below R7.out.below)).mono ?_
  rintro e w8 ⟨rfl, hb⟩
  have R8 := Lib.hid (R7.out.later hb)
  clear hb
  go_wp2_with fail
  refine (F0.out _ (HE.out.below R8.out.below)).mono ?_
  rintro e w9 ⟨rfl, hb⟩
  have R9 := Lib.hid (R8.out.later hb)
  clear hb
  go_wp2_with fail
  refine (F1.out _ (HE.out.below R9.out.below)).mono ?_
  rintro e w10 ⟨rfl, hb⟩
  have R10 := Lib.hid (R9.out.later hb)
  clear hb
  go_wp2_with fail
  refine (F2.out _ (HE.out.below R10.out.below)).mono ?_
  rintro e w11 ⟨rfl, hb⟩
  have R11 := Lib.hid (R10.out.later hb)
  clear hb
  go_wp2_with fail
  refine (F3.out _ (HE.out.below R11.out.below)).mono ?_
  rintro e w12 ⟨rfl, hb⟩
  have R12 := Lib.hid (R11.out.later hb)
  clear hb
  go_wp2_with fail
  refine (F4.out _ (HE.out.below R12.out.below)).mono ?_
  rintro e w13 ⟨rfl, hb⟩
  have R13 := Lib.hid (R12.out.later hb)
  clear hb
  go_wp2_with fail
  refine (F5.out _ (HE.out.below R13.out.below)).mono ?_
  rintro e w14 ⟨rfl, hb⟩
  have R14 := Lib.hid (R13.out.later hb)
  clear hb
  go_wp2_with fail
  refine (F6.out _ (HE.out.below R14.out.below)).mono ?_
  rintro e w15 ⟨rfl, hb⟩
  have R15 := Lib.hid (R14.out.later hb)
  clear hb
  go_wp2_with fail
  refine (HK.out _ (HE.out.below R15.out.below)).mono ?_
  rintro e w16 ⟨sx16, ax16, nx16, cx16, bx16, mx16, dx16, rfl, hr, hb, hf, hg⟩
  have E16 := Lib.hid hr.1.1
  have R16 := Lib.hid (R15.out.ret2 hb hr.1.2 hf hr.2.2 hg)
  have FF16 := Lib.hid (hf.mono R15.out.below.size)
  have FG16 := Lib.hid (hg.mono R15.out.below.size)
  clear hr hb hf hg
  have P1 := Lib.hid (R16.out.put [.int .i64 0, .int .i64 0, .int .i64 0, .int .i64 0, .int .i64 0, .int .i64 0, .int .i64 0, .slice none 0 0, .int .i64 0, .slice none 0 0] 30)
  have Q1 := Lib.hid (Sf.row (pre := []) P1.out [.int .i64 (f 0), .int .i64 (f 1), .int .i64 (f 2), .int .i64 (f 3), .int .i64 (f 4), .int .i64 (f 5), .int .i64 sx16, .slice ax16 nx16 cx16, .int .i64 1, .slice bx16 mx16 dx16])
  go_wp2_with (first | refine wpList_store_row rfl _ _ _ rfl _ #[.int .i64 (f 0), .int .i64 (f 1), .int .i64 (f 2), .int .i64 (f 3), .int .i64 (f 4), .int .i64 (f 5), .int .i64 sx16, .slice ax16 nx16 cx16, .int .i64 1, .slice bx16 mx16 dx16] rfl rfl _ _ (P1.out.box _ List.mem_cons_self) (by kernel_rfl) rfl (by simp [Value.oneCell']) ?_)
  refine (HO.out _).mono ?_
  rintro e w17 ⟨sx17, ax17, nx17, cx17, bx17, mx17, dx17, rfl, hr, hb, hf, hg⟩
  have E17 := Lib.hid hr.1.1
  have R17 := Lib.hid (Q1.out.ret2 hb hr.1.2 hf hr.2.2 hg)
  have FF17 := Lib.hid (hf.mono Q1.out.below.size)
  have FG17 := Lib.hid (hg.mono Q1.out.below.size)
  clear hr hb hf hg
  have P2 := Lib.hid (R17.out.put [.int .i64 0, .slice none 0 0, .int .i64 0, .slice none 0 0] 28)
  have Q2 := Lib.hid (Sf.row (pre := []) P2.out [.int .i64 sx17, .slice ax17 nx17 cx17, .int .i64 1, .slice bx17 mx17 dx17])
  obtain ⟨q3, q4, q5, q6⟩ := Fb.cells4 (Q2.out.box (w17.heap.size, 28, [.int .i64 sx17, .slice ax17 nx17 cx17, .int .i64 1, .slice bx17 mx17 dx17]) mq0)
  obtain ⟨q7, q8, q9, q10, q11, q12, q13, q14, q15, q16⟩ := Fb.cells10 (Q2.out.box (w16.heap.size, 30, [.int .i64 (f 0), .int .i64 (f 1), .int .i64 (f 2), .int .i64 (f 3), .int .i64 (f 4), .int .i64 (f 5), .int .i64 sx16, .slice ax16 nx16 cx16, .int .i64 1, .slice bx16 mx16 dx16]) mq1)
  go_wp2_with (first | refine wpList_store_row rfl _ _ _ rfl _ #[.int .i64 sx17, .slice ax17 nx17 cx17, .int .i64 1, .slice bx17 mx17 dx17] rfl rfl _ _ (P2.out.box _ List.mem_cons_self) (by kernel_rfl) rfl (by simp [Value.oneCell']) ?_)
  clear q3 q4 q5 q6 q7 q8 q9 q10 q11 q12 q13 q14 q15 q16
  refine (ufrom_k (Q2.out.fr (v := .slice ax17 nx17 cx17) (u := .slice bx17 mx17 dx17) (r := 3 / 2) mq0 mq1 E17.out) (Q2.out.fr (v := .slice ax16 nx16 cx16) (u := .slice bx16 mx16 dx16) (r := 3600000) mq2 mq3 E16.out) LH.out LK.out Of.out (by decide +kernel) HRR.out).mono ?_
  rintro e w18 ⟨sx18, ax18, nx18, cx18, bx18, mx18, dx18, rfl, hr, hb, hf, hg⟩
  have E18 := Lib.hid hr.1.1
  have R18 := Lib.hid (Q2.out.ret2 hb hr.1.2 hf hr.2.2 hg)
  have FF18 := Lib.hid (hf.mono Q2.out.below.size)
  have FG18 := Lib.hid (hg.mono Q2.out.below.size)
  clear hr hb hf hg
  have P17 := Lib.hid (R18.out.put [.int .i64 0, .slice none 0 0, .int .i64 0, .slice none 0 0] 28)
  have Q17 := Lib.hid (Sf.row (pre := []) P17.out [.int .i64 sx18, .slice ax18 nx18 cx18, .int .i64 1, .slice bx18 mx18 dx18])
  go_upto_region 6 with (refine wpList_store_row rfl _ _ _ rfl _ #[.int .i64 sx18, .slice ax18 nx18 cx18, .int .i64 1, .slice bx18 mx18 dx18] rfl rfl _ _ (P17.out.box _ List.mem_cons_self) (by kernel_rfl) rfl (by simp [Value.oneCell']) ?_)
  obtain ⟨WZ, hWZ⟩ : ∃ W, ((w18.alloc (.cells #[.int .i64 0, .slice none 0 0, .int .i64 0, .slice none 0 0] 28)).setRow w18.heap.size #[.int .i64 sx18, .slice ax18 nx18 cx18, .int .i64 1, .slice bx18 mx18 dx18]) = W := ⟨_, rfl⟩
  rw [hWZ] at Q17 ⊢
  clear hWZ
  have K0 : ∀ W F, Sf w [(w18.heap.size, 28, [.int .i64 sx18, .slice ax18 nx18 cx18, .int .i64 1, .slice bx18 mx18 dx18]), (w17.heap.size, 28, [.int .i64 sx17, .slice ax17 nx17 cx17, .int .i64 1, .slice bx17 mx17 dx17]), (w16.heap.size, 30, [.int .i64 (f 0), .int .i64 (f 1), .int .i64 (f 2), .int .i64 (f 3), .int .i64 (f 4), .int .i64 (f 5), .int .i64 sx16, .slice ax16 nx16 cx16, .int .i64 1, .slice bx16 mx16 dx16])] F W → W.cell? ⟨w18.heap.size, 0, none⟩ = some (.int .i64 sx18) ∧ W.cell? ⟨w18.heap.size, 1, none⟩ = some (.slice ax18 nx18 cx18) ∧ W.cell? ⟨w18.heap.size, 2, none⟩ = some (.int .i64 1) ∧ W.cell? ⟨w18.heap.size, 3, none⟩ = some (.slice bx18 mx18 dx18) := fun W F h => ⟨(h.box (w18.heap.size, 28, [.int .i64 sx18, .slice ax18 nx18 cx18, .int .i64 1, .slice bx18 mx18 dx18]) mq0).cell 0, (h.box (w18.heap.size, 28, [.int .i64 sx18, .slice ax18 nx18 cx18, .int .i64 1, .slice bx18 mx18 dx18]) mq0).cell 1, (h.box (w18.heap.size, 28, [.int .i64 sx18, .slice ax18 nx18 cx18, .int .i64 1, .slice bx18 mx18 dx18]) mq0).cell 2, (h.box (w18.heap.size, 28, [.int .i64 sx18, .slice ax18 nx18 cx18, .int .i64 1, .slice bx18 mx18 dx18]) mq0).cell 3⟩
  have KK := Lib.hid K0
  clear K0
  have N0 := Lib.hid Q17.out.drew
  clear Q17
  have e0 := KK.out _ _ N0.out
  go_region_held3 (fun W => W.cell? ⟨w18.heap.size, 0, none⟩ = some (.int .i64 sx18) ∧ W.cell? ⟨w18.heap.size, 1, none⟩ = some (.slice ax18 nx18 cx18) ∧ W.cell? ⟨w18.heap.size, 2, none⟩ = some (.int .i64 1) ∧ W.cell? ⟨w18.heap.size, 3, none⟩ = some (.slice bx18 mx18 dx18))
    (first | (with_reducible exact e0) | (with_reducible exact e1) | (with_reducible exact e2))
    (((first | go_at_call 30 | go_at_call 21 | (rw [if_pos (by rfl)]; go_simp) | skip); (first
        | (have hG := N1; clear hG; go_at_call 21; (with_reducible refine (rfsame_t PN1_1.out PN1_2.out rfl).mono ?_); rintro e y19_1 ⟨rfl, hb⟩; have N2 := Lib.hid (N1.out.later hb); clear hb; have e2 := KK.out _ _ N2.out)
        | (have hG := N0; clear hG; go_at_call 30; (with_reducible refine (HI.out _).mono ?_); rintro e y19_0 ⟨sx19_0, ax19_0, nx19_0, cx19_0, bx19_0, mx19_0, dx19_0, rfl, hr, hb, hf, hg⟩; have E19_0 := Lib.hid hr.1.1; have N1 := Lib.hid (N0.out.ret2 hb hr.1.2 hf hr.2.2 hg); clear hr hb hf hg; have e1 := KK.out _ _ N1.out; have PN1_1 := Lib.hid (N1.out.fr (v := .slice ax18 nx18 cx18) (u := .slice bx18 mx18 dx18) (r := 5400000) mq2 mq3 E18.out); have PN1_2 := Lib.hid (N1.out.fr (v := .slice ax19_0 nx19_0 cx19_0) (u := .slice bx19_0 mx19_0 dx19_0) (r := 5400000) mq0 mq1 E19_0.out))); (try dsimp only)))
  all_goals (go_wp2_with fail; go_ret; exact ⟨rfl, N2.out.below⟩)
end Go.Proofs.YtmhdhabgdlefjaaGreatDoor.Un

namespace Go.Proofs.YtmhdhabgdlefjaaGreatDoor.Un
open Go.RowKit Bi Dm

theorem eqB_refl (f : Nat → Int) : eqB f f = true := by rw [eqB_iff]; intros; rfl
end Go.Proofs.YtmhdhabgdlefjaaGreatDoor.Un

namespace Go.Proofs.YtmhdhabgdlefjaaGreatDoor.Un
open Go.RowKit Bi Dm

theorem pwZ_one (q : Rat) : pwZ q 1 = q := by
  unfold pwZ
  rw [if_pos (by decide)]
  show 1 * q = q
  rw [Rat.one_mul]
theorem word_one {w : List UInt8} {b : Nat} {n : Int} {q : Rat} (h : wordL w = some (b, n, q)) : evL [(w, 1)] zf 1 = some (up zf b n, q) := by
  rw [evL, h]
  simp only [evL, Option.some.injEq, Prod.mk.injEq]
  refine ⟨?_, by rw [pwZ_one, Rat.one_mul]⟩
  funext i
  unfold up zf
  split <;> omega
theorem word_no {w : List UInt8} (h : wordL w = none) : evL [(w, 1)] zf 1 = none := by rw [evL, h]
theorem letters_items {w : List UInt8} (h0 : w ≠ []) (hl : w.length ≤ 40) (h : ∀ c ∈ w, letterB c = true) : itemsL w = some [(w, 1)] := by
  obtain ⟨h3, h4⟩ := take_all (b := []) h (.inl rfl)
  rw [List.append_nil] at h3 h4
  have hi : itemL w = some ((w, 1), []) := by
    unfold itemL; rw [h3, h4, if_neg h0]; rfl
  have hh : w.head? ≠ some 49 := by
    intro e
    cases w with
    | nil => cases e
    | cons c r =>
      simp at e; subst e
      exact absurd (h 49 (by simp)) (by decide)
  rw [items_star hl hh h0, tailL_some (by decide) hi]
  rfl
theorem sym_letters {s : List UInt8} {u : Nat × Int × Rat} (h : symL s = some u) : s ≠ [] ∧ s.length ≤ 4 ∧ ∀ c ∈ s, letterB c = true := by
  obtain ⟨k, b, n, xa, xb, t, hk, _⟩ := sym_in h
  have hl : k < 12 := (List.getElem?_eq_some_iff.1 hk).1
  obtain rfl | rfl | rfl | rfl | rfl | rfl | rfl | rfl | rfl | rfl | rfl | rfl := lt12 hl
  all_goals
    simp only [symT, List.getElem?_cons_succ, List.getElem?_cons_zero, Option.some.injEq, Prod.mk.injEq] at hk
    obtain ⟨rfl, _⟩ := hk
    exact ⟨by decide, by decide, by decide⟩
def PC (k : Nat) : UInt8 := [107, 77, 71, 109].getD k 0
def PT (k : Nat) : Rat := [1000, 1000000, 1000000000, 1 / 1000].getD k 0
theorem lt4 {k : Nat} (h : k < 4) : k = 0 ∨ k = 1 ∨ k = 2 ∨ k = 3 := by omega
theorem pc_letter {k : Nat} (h : k < 4) : letterB (PC k) = true := by
  obtain rfl | rfl | rfl | rfl := lt4 h
  all_goals decide
theorem pre_any {k : Nat} (hk : k < 4) {s : List UInt8} {b : Nat} {n : Int} {q : Rat} (h : symL s = some (b, n, q)) : wordL (PC k :: s) = if canP s then some (b, n, q * PT k) else none := by
  have hm : (symL s).map (fun u => (u.1, u.2.1, u.2.2 * PT k)) = some (b, n, q * PT k) := by rw [h]; rfl
  rw [← hm]
  obtain ⟨i, _, _, _, _, _, hi, _⟩ := sym_in h
  have hl : i < 12 := (List.getElem?_eq_some_iff.1 hi).1
  clear h hm
  obtain rfl | rfl | rfl | rfl | rfl | rfl | rfl | rfl | rfl | rfl | rfl | rfl := lt12 hl
  all_goals
    simp only [symT, List.getElem?_cons_succ, List.getElem?_cons_zero, Option.some.injEq, Prod.mk.injEq] at hi
    obtain ⟨rfl, _⟩ := hi
    obtain rfl | rfl | rfl | rfl := lt4 hk
  all_goals decide +kernel
theorem up_ok {b : Nat} {n : Int} (h : 1 ≤ n ∧ n ≤ 3) : ok (up zf b n) = true := by
  rw [ok_iff]
  intro i _
  unfold up zf
  split <;> omega
theorem dim_read {f : Nat → Int} (hf : ok f = true) : ∃ l g, itemsL (tx f) = some l ∧ evL l zf 1 = some (g, 1) ∧ (∀ i, i < 6 → g i = f i) ∧ ok g = true := by
  obtain ⟨g, h1, h2⟩ := ev_txt f hf
  refine ⟨_, g, ?_, h1, h2, ?_⟩
  · have := items_txt f hf
    unfold tx; rw [hf]; exact this
  · rw [ok_eq h2]; exact hf
theorem can_cases {s : List UInt8} (h : canP s = true) : s = [103] ∨ s = [109] ∨ s = [108] ∨ s = [115] ∨ s = [74] ∨ s = [87, 104] := by
  unfold canP at h
  simp only [Bool.or_eq_true, decide_eq_true_eq] at h
  rcases h with ((((h | h) | h) | h) | h) | h <;> simp [h]
theorem can_not {s : List UInt8} (h : canP s = false) : s ≠ [103] ∧ s ≠ [109] ∧ s ≠ [108] ∧ s ≠ [115] ∧ s ≠ [74] ∧ s ≠ [87, 104] := by
  unfold canP at h
  simp only [Bool.or_eq_false_iff, decide_eq_false_iff_not] at h
  obtain ⟨⟨⟨⟨⟨a, b⟩, c⟩, d⟩, e⟩, f⟩ := h
  exact ⟨a, b, c, d, e, f⟩
theorem str_lit (s : ByteArray) (l : List UInt8) (b nb : Bool) (h : decide (s.data.toList = l) = b) (hn : (!b) = nb) : (s.toList == (⟨l.toArray⟩ : ByteArray).toList) = b ∧ (s.toList != (⟨l.toArray⟩ : ByteArray).toList) = nb ∧ (s.toList == l) = b ∧ (s.toList != l) = nb := by
  have h1 : (s.toList == l) = b := by
    rw [ByteArray.toList_eq, ← h, Bool.eq_iff_iff, beq_iff_eq, decide_eq_true_eq]
  have h2 : (s.toList == (⟨l.toArray⟩ : ByteArray).toList) = b := by rw [ByteArray.toList_eq ⟨l.toArray⟩]; exact h1
  subst hn
  exact ⟨h2, by simp only [bne, h2], h1, by simp only [bne, h1]⟩
theorem ft_at (g k : Nat) (hk : k < 4) (W : World) : (Instr.indexAt 58 (.slice (some ⟨g, 0, none⟩) 4 4) (.int .i64 (k : Int))).run Tryz.prog W = .ok (.pointer (some ⟨g, k * 4, none⟩)) W := by
  obtain rfl | rfl | rfl | rfl := lt4 hk
  all_goals rfl
theorem st_at (g k : Nat) (hk : k < 4) (W : World) : (Instr.indexAt 57 (.slice (some ⟨g, 0, none⟩) 4 4) (.int .i64 (k : Int))).run Tryz.prog W = .ok (.pointer (some ⟨g, k, none⟩)) W := by
  obtain rfl | rfl | rfl | rfl := lt4 hk
  all_goals rfl
theorem u9sym_yes (s : ByteArray) {b : Nat} {n : Int} {q : Rat} (h : symL s.data.toList = some (b, n, q)) (w : World) : Calls Tryz.prog 31 #[.string s] w (UVB (up zf b n) q true w) := u9sym_at s h w
theorem rem4 {n : Int} (h : 0 ≤ n ∧ n ≤ 255) : ∃ k : Nat, k < 4 ∧ n.tmod 4 = (k : Int) ∧ n % 4 = (k : Int) := by
  refine ⟨(n % 4).toNat, by omega, ?_, by omega⟩
  rw [Int.tmod_eq_emod_of_nonneg h.1]; omega
end Go.Proofs.YtmhdhabgdlefjaaGreatDoor.Un
