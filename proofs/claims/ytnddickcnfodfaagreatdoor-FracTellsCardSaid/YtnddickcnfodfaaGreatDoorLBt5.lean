/- kitbagref04: the contract of over. -/
import Derived.Test.YtnddickcnfodfaaGreatDoorLBt4
set_option maxRecDepth 100000
namespace Go.Proofs.YtnddickcnfodfaaGreatDoor.Bi
open Go.RowKit

theorem one_ints (W : World) (d : Int) : Ints (W.alloc (.cells #[.int .i64 d] 3)) (.slice (some ⟨W.heap.size, 0, none⟩) 1 1) [d] := by
  refine ⟨some ⟨W.heap.size, 0, none⟩, 1, rfl, by simp, by simp, .inr ⟨W.heap.size, 0, rfl, by simp, fun i hi => ?_⟩⟩
  have hi0 : i = 0 := by simpa using hi
  subst hi0
  rw [cell_of_row _ _ _ _ _ _ (alloc_at W _)]; rfl
theorem one_dig {d : Int} (h0 : 0 ≤ d) (h1 : d < 1048576) : Dig [d] := Dig.cons h0 h1 Dig.nil
theorem one_val (d : Int) : val [d] = d := by rw [val_cons, val_nil]; omega
theorem Ints.nn {W : World} {a : Option Addr} {n cap : Nat} {l : List Int} (h : Ints W (.slice a n cap) l) : a = none → n = 0 := by
  obtain ⟨rfl, _, _, h3⟩ := h.shape
  intro e
  rcases Nat.eq_zero_or_pos l.length with e0 | e0
  · exact e0
  · obtain ⟨b, o, e', _⟩ := h3 e0
    rw [e] at e'; cases e'
theorem OwnI.later {w w' : World} {v : Value} {l : List Int} (h : OwnI w v l) (hb : RowKit.Below w.heap.size w w') : OwnI w' v l := Own.grown h (on_below (b := none) hb) (by cases blk v <;> simp)
theorem nat_val {S : Int} (h : 0 ≤ S) : val (digs S.toNat) = S := by rw [digs_val]; omega
/-- append([]int{d}, v...). -/
theorem own_app {W : World} {a : Option Addr} {n cap : Nat} {l : List Int} (h : Ints W (.slice a n cap) l) (hl : n ≤ 10000000) (d : Int) :
    ∃ a1 c1 w1, (∀ ty, (Builtin.append_ #[22, 22] ty #[.slice (some ⟨W.heap.size, 0, none⟩) 1 1, .slice a n cap]).run Tryz.prog (W.alloc (.cells #[.int .i64 d] 3)) = .ok (.slice a1 (n + 1) c1) w1) ∧
      OwnI w1 (.slice a1 (n + 1) c1) (d :: l) ∧ RowKit.Below W.heap.size W w1 ∧ ∀ b, blk (.slice a1 (n + 1) c1) = some b → W.heap.size ≤ b := by
  have ha := h.nn
  obtain ⟨rfl, _, _, _⟩ := h.shape
  obtain ⟨i0, hi, hz0, hz1, hz2⟩ := info_parts infoI
  have hown : Own (W.alloc (.cells #[.int .i64 d] 3)) 3 1 (.slice (some ⟨W.heap.size, 0, none⟩) 1 1) 1 [.int .i64 d] := ⟨by simp, .inr ⟨W.heap.size, 1, #[.int .i64 d], rfl, alloc_at W _, by omega, by omega, by unfold maxLen; omega, rfl, rfl⟩⟩
  have hsrc := src_of (h.later (below_alloc W (.cells #[.int .i64 d] 3))) ha
  have hrun := fun ty => own_append (P := Tryz.prog) (t := 22) (tx := 22) (ty := ty) Tryz.underlying22 hi hz0 hz1 hz2 rfl hown hsrc (by unfold maxLen; omega) (by omega)
  obtain ⟨v', w', hr, h1, h2, h3⟩ := hrun 0
  rw [Nat.add_comm] at h1
  obtain ⟨a1, c1, rfl, _, _⟩ := h1.shape
  have hg := (World.grownBy_alloc W (.cells #[.int .i64 d] 3) (blk (.slice (some ⟨W.heap.size, 0, none⟩) 1 1))).trans h2
  refine ⟨a1, c1, w', fun ty => ?_, by unfold OwnI; simpa using h1, below_on hg (Nat.le_refl _) (Nat.le_refl _), fun b hb => ?_⟩
  · have : Builtin.append_ #[22, 22] ty #[.slice (some ⟨W.heap.size, 0, none⟩) 1 1, .slice a l.length cap] = Builtin.append_ #[22, 22] 0 #[.slice (some ⟨W.heap.size, 0, none⟩) 1 1, .slice a l.length cap] := rfl
    rw [this]; exact hr
  · rcases h3 with h5 | h5 | h5
    · rw [h5] at hb; cases hb
    · rw [h5] at hb; cases hb; exact Nat.le_refl _
    · rw [h5] at hb; cases hb; simp
theorem over_step {X Q Y R S lo d D : Int} (h : D = Q * Y + R) (hX : X = d + 1048576 * D) (hS : S = d + 1048576 * R) : X = (lo + 1048576 * Q) * Y + (S - Y * lo) := by
  subst h hX hS; grind
/-- A call that returns quotient and remainder, in blocks of their own. -/
def Over (X Y : Int) (w : World) (e : Ending) (w' : World) : Prop := ∃ vq vr, e = .returned (.tuple #[vq, vr]) ∧ OwnI w' vq (digs (X / Y).toNat) ∧ OwnI w' vr (digs (X % Y).toNat) ∧ RowKit.Below w.heap.size w w' ∧ (∀ b, blk vq = some b → w.heap.size ≤ b) ∧ ∀ b, blk vr = some b → w.heap.size ≤ b

set_option maxHeartbeats 4000000 in
theorem rover_any (vx vy : Value) (x y : List Int) (hdx : Dig x) (hdy : Dig y) (w : World) (hx : Ints w vx x) (hy : Ints w vy y) (hlx : x.length ≤ 1000000) (hly : y.length ≤ 900000) (h0 : 0 < val y) :
    Calls Tryz.prog 90 #[vx, vy] w (Over (val x) (val y) w) := by
  obtain ⟨ax, capx, rfl, _, _, hx3⟩ := id hx
  obtain ⟨ay, capy, rfl, _, _, _⟩ := id hy
  obtain ⟨O, hmk, hO⟩ := make_any x.length (by omega)
  obtain ⟨m, ex⟩ : ∃ l, x.length = l := ⟨_, rfl⟩
  obtain ⟨n, ey⟩ : ∃ l, y.length = l := ⟨_, rfl⟩
  have HX : Hid (∀ k, k < m → ∃ b o, ax = some ⟨b, o, none⟩ ∧ ∀ W, RowKit.Below w.heap.size w W → W.cell? ⟨b, o + k, none⟩ = some (.int .i64 (x.getD k 0))) := by
    intro k hk
    obtain ⟨b, o, e, hlt, hr⟩ := hx3.resolve_left (fun e => by rw [e] at ex; simp at ex; omega)
    exact ⟨b, o, e, fun W hW => (hB_cell hW hlt).trans (hr k (by omega))⟩
  have hcx := hx.shape.2.1
  have hYP := (val_bd hdy).2
  rw [ey] at hYP
  obtain ⟨Y, eY⟩ : ∃ Y, val y = Y := ⟨_, rfl⟩
  rw [eY] at h0 hYP ⊢
  have HY := Lib.hid hy
  have HDX := Lib.hid hdx
  have HDY := Lib.hid hdy
  have HEX := Lib.hid ex
  have HEY := Lib.hid ey
  have HVY := Lib.hid eY
  have HYP := Lib.hid hYP
  have H0 := Lib.hid h0
  rw [ex] at hmk hO hlx hcx ⊢
  rw [ey] at hly HY ⊢
  have HO := Lib.hid hO
  clear hx hx3 hy hdx hdy ex ey hO eY hYP h0
  go_enter Tryz.func90, Tryz.ntmps90
  go_wp2_with fail
  clear hmk
  go_loopw [7, 8] (fun v t wr => ∃ (k : Nat) (LQ : List Int) (R : Int), k ≤ m ∧ t = .int .i64 ((k : Int) - 1) ∧ Mem wr w.heap.size LQ ∧ OwnI wr v (digs R.toNat) ∧ (∀ b, blk v = some b → w.heap.size + 1 ≤ b) ∧ RowKit.Below w.heap.size w wr ∧ LQ.length = m ∧ Dig LQ ∧ 0 ≤ R ∧ R < Y ∧ val (x.drop k) = val (LQ.drop k) * Y + R) (fun _ t _ => (intOf t + 1).toNat)
  case atStart =>
    exact ⟨m, List.replicate m 0, 0, Nat.le_refl _, rfl, HO.out _ _ (alloc_at _ _), by rw [show (0 : Int).toNat = 0 from rfl, digs_zero]; exact OwnI.nil _, fun b hb => by simp [blk] at hb, below_alloc _ _, List.length_replicate, Dig.zeros m, by omega, H0.out, by rw [List.drop_eq_nil_of_le (by rw [HEX.out]; omega), List.drop_eq_nil_of_le (by simp)]; simp [val]⟩
  case round =>
    obtain ⟨k, LQ, R, hk, rfl, hM, hR, hnew, hB, hl, hd, hR0, hR1, hval⟩ := hrel
    have HB := Lib.hid hB
    have HL := Lib.hid hl
    have HD := Lib.hid hd
    have HV := Lib.hid hval
    have HM := Lib.hid hM
    have HR := Lib.hid hR
    have HN := Lib.hid hnew
    have HR0 := Lib.hid hR0
    have HR1 := Lib.hid hR1
    have hlen : (digs R.toNat).length ≤ n := digs_le (by have := HYP.out; omega)
    obtain ⟨a0, q0, rfl⟩ := hR.fit
    cases k with
    | zero =>
      rw [show ((0 : Nat) : Int) - 1 = -1 from rfl]
      have hfin : val LQ = val x / Y ∧ R = val x % Y := by
        have hv := HV.out
        rw [List.drop_zero, List.drop_zero] at hv
        rw [hv, Int.add_comm, Int.add_mul_ediv_right _ _ (by have := H0.out; omega), Int.add_mul_emod_self_right, Int.ediv_eq_zero_of_lt hR0 hR1, Int.emod_eq_of_lt hR0 hR1]
        omega
      have HF := Lib.hid hfin
      clear hB hl hd hval hM hR hnew hR0 hR1 hfin
      have ht := rtrim_any (some ⟨w.heap.size, 0, none⟩) m LQ HD.out wr (by have := HM.out.ints0 m (by rw [HL.out]; omega) (by omega); exact this) (by rw [HL.out]; omega)
      rw [HL.out, HF.out.1] at ht
      have HT := Lib.hid ht
      clear ht
      go_wp2_with fail
      refine HT.out.mono ?_
      rintro e w' ⟨v', rfl, ho, hb, hf⟩
      have hfin : Over (val x) Y w (.returned (.tuple #[v', .slice a0 (digs R.toNat).length q0])) w' := by
        have hr := HR.out.later hb
        refine ⟨v', _, rfl, ho, ?_, HB.out.trans (hb.mono HB.out.size), fun b h => Nat.le_trans HB.out.size (hf b h), fun b h => by have := HN.out b h; omega⟩
        rw [← HF.out.2]; exact hr
      have HFIN := Lib.hid hfin
      clear ho hb hf hfin
      go_wp2_with fail
      exact bodyPost_ret (v := .tuple #[v', .slice a0 (digs R.toNat).length q0]) (by simp [results, Tryz.results90, go_sem]) rfl HFIN.out
    | succ j =>
      rw [show ((j + 1 : Nat) : Int) - 1 = (j : Int) by omega]
      obtain ⟨bb, o, rfl, hcell⟩ := HX.out j (by omega)
      have hc := hcell wr HB.out
      have bx := HDX.out.get j
      obtain ⟨d, ed⟩ : ∃ d, x.getD j 0 = d := ⟨_, rfl⟩
      rw [ed] at bx hc
      have HED := Lib.hid ed
      obtain ⟨nR, eR⟩ : ∃ l, (digs R.toNat).length = l := ⟨_, rfl⟩
      rw [eR] at hlen
      obtain ⟨a1, q1, w1, hrun, ho1, hb1, hf1⟩ := own_app (hR.ints (by omega)) (by omega) d
      have hS : val (d :: digs R.toNat) = d + 1048576 * R := by rw [val_cons, nat_val hR0]
      have ht := rtrim_any a1 q1 (d :: digs R.toNat) (Dig.cons bx.1 bx.2 (digs_dig _)) w1 (ho1.ints (by simp; omega)) (by simp; omega)
      rw [hS, List.length_cons] at ht
      obtain ⟨S, eS⟩ : ∃ S, d + 1048576 * R = S := ⟨_, rfl⟩
      rw [eS] at ht
      have HT := Lib.hid ht
      have HES := Lib.hid eS
      have HB1 := Lib.hid hb1
      clear hB hl hd hval hM hR hnew ed hcell ht hS ho1 hb1 hf1
      rw [eR] at hrun HT ⊢
      have hS0 : 0 ≤ S ∧ S < 1048576 * Y := by omega
      clear eS eR
      go_wp2_with (at_builtin; refine Lib.wpList_append_run _ rfl _ _ _ _ rfl _ _ rfl rfl _ _ (hrun _) ?_)
      clear hrun
      refine HT.out.mono ?_
      rintro e w2 ⟨v2, rfl, ho2, hb2, hf2⟩
      obtain ⟨a2, q2, rfl⟩ := ho2.fit
      have HB2 : Hid (RowKit.Below w.heap.size w w2) := (HB.out.trans (HB1.out.mono HB.out.size)).trans (hb2.mono (HB.out.trans (HB1.out.mono HB.out.size)).size)
      have hb12 : RowKit.Below wr.heap.size wr w2 := HB1.out.trans (hb2.mono HB1.out.size)
      have HM2 := Lib.hid (HM.out.later hb12)
      have hsz : w.heap.size < wr.heap.size := HM.out.lt
      have HN2 : Hid (Fresh (w.heap.size + 1) (.slice a2 (digs S.toNat).length q2)) := blk_fresh ho2 (fun b h => by have := hf2 b h; have := HB1.out.size; omega)
      have hlS : (digs S.toNat).length ≤ n + 1 := digs_le (by rw [P_succ]; have := HYP.out; omega)
      have HI2 := Lib.hid (ho2.ints (by omega))
      have HLS := Lib.hid hlS
      obtain ⟨nS, enS⟩ : ∃ l, (digs S.toNat).length = l := ⟨_, rfl⟩
      rw [enS] at HN2 HI2 HLS ⊢
      clear ho2 hb2 hf2 hb12 hsz hlS enS HT HB1
      go_wp2_with fail
      go_loopw [9, 10] (fun a b wq => ∃ lo hi : Int, a = .int .i64 lo ∧ b = .int .i64 hi ∧ 0 ≤ lo ∧ lo < hi ∧ hi ≤ 1048576 ∧ lo * Y ≤ S ∧ S < hi * Y ∧ RowKit.Below w2.heap.size w2 wq) (fun a b _ => (intOf b - intOf a).toNat)
      case atStart => exact ⟨0, 1048576, rfl, rfl, by omega, by omega, by omega, by omega, hS0.2, Below.refl _ _⟩
      case round =>
        obtain ⟨lo, hi, rfl, rfl, hlo, hlh, hhi, hq1, hq2, hbq⟩ := hrel
        have HBQ := Lib.hid hbq
        have HQ1 := Lib.hid hq1
        have HQ2 := Lib.hid hq2
        have HBW : Hid (RowKit.Below w.heap.size w wr) := HB2.out.trans (hbq.mono HB2.out.size)
        clear hbq hq1 hq2
        by_cases hgap : 1 < hi - lo
        · have hdiv : Int.tdiv (lo + hi) 2 = (lo + hi) / 2 := Int.tdiv_eq_ediv_of_nonneg (by omega)
          obtain ⟨M, eM⟩ : ∃ M, (lo + hi) / 2 = M := ⟨_, rfl⟩
          rw [eM] at hdiv
          have hM1 : lo < M ∧ M < hi := by omega
          clear eM
          go_wp2_with fail
          refine (rtimes_any _ _ y [M] HDY.out (one_dig (by omega) (by omega)) _ (HY.out.later (HBW.out.alloc HBW.out.size _)) (one_ints _ _) (by rw [HEY.out]; omega) (by simp)).mono ?_
          rintro e w3 ⟨v3, rfl, ho3, hb3, hf3⟩
          rw [HVY.out, one_val] at ho3
          have hp : 0 ≤ Y * M := Int.mul_nonneg (by have := H0.out; omega) (by omega)
          have hl3 : (digs (Y * M).toNat).length ≤ 1000000 := by
            have h1 := mul_lt_P (a := Y) (b := M) (i := n) (j := 1) (by have := H0.out; omega) HYP.out (by omega) (by simp [P]; omega)
            have := digs_le (n := (Y * M).toNat) (k := n + 1) (by omega)
            omega
          obtain ⟨a3, q3, rfl⟩ := ho3.fit
          have hbw : RowKit.Below wr.heap.size wr w3 := (below_alloc _ _).trans (hb3.mono (by simp))
          have HB3 : Hid (RowKit.Below w2.heap.size w2 w3) := HBQ.out.trans (hbw.mono HBQ.out.size)
          have HI3 := Lib.hid (ho3.ints (by omega))
          have hless := rless_any _ _ _ _ (digs_dig S.toNat) (digs_dig (Y * M).toNat) w3 (HI2.out.later HB3.out) HI3.out
          rw [nat_val hS0.1, nat_val hp] at hless
          have HLE := Lib.hid hless
          obtain ⟨n3, en3⟩ : ∃ l, (digs (Y * M).toNat).length = l := ⟨_, rfl⟩
          rw [en3] at HLE ⊢
          clear ho3 hb3 hf3 hbw hless en3 HI3 hl3
          by_cases hsm : S < Y * M
          · have hdt : decide (S < Y * M) = true := decide_eq_true hsm
            rw [hdt] at HLE
            clear hdt
            go_wp2_with fail
            refine HLE.out.mono ?_
            rintro e w' ⟨rfl, rfl⟩
            go_wp2_with fail
            go_roundw
            case rel => exact ⟨lo, M, rfl, rfl, by omega, by omega, by omega, HQ1.out, by rw [Int.mul_comm]; exact hsm, HB3.out⟩
            case measure => simp [intOf]; omega
          · have hdt : decide (S < Y * M) = false := decide_eq_false hsm
            rw [hdt] at HLE
            clear hdt
            go_wp2_with fail
            refine HLE.out.mono ?_
            rintro e w' ⟨rfl, rfl⟩
            go_wp2_with fail
            go_roundw
            case rel => exact ⟨M, hi, rfl, rfl, by omega, by omega, by omega, by rw [Int.mul_comm]; omega, HQ2.out, HB3.out⟩
            case measure => simp [intOf]; omega
        · have hhl : hi = lo + 1 := by omega
          subst hhl
          have HMI := Lib.hid (HM2.out.later HBQ.out)
          have hjl : j < LQ.length := by rw [HL.out]; omega
          have hcl := HMI.out.cell hjl
          have hfl := HMI.out.free j
          have hjm : j < m := by omega
          have HW1 : Hid (RowKit.Below w.heap.size w (wr.setCell ⟨w.heap.size, j, none⟩ (.int .i64 lo))) := HBW.out.setCell (Nat.le_refl _) _
          have HMW : Hid (Mem (wr.setCell ⟨w.heap.size, j, none⟩ (.int .i64 lo)) w.heap.size (LQ.set j lo)) := HMI.out.set hjl lo
          have HIW : Hid (Ints (wr.setCell ⟨w.heap.size, j, none⟩ (.int .i64 lo)) (.slice a2 nS q2) (digs S.toNat)) := (HI2.out.later HBQ.out).set (HN2.out w.heap.size (by omega)) j _
          have hgs : w.heap.size < (wr.setCell ⟨w.heap.size, j, none⟩ (.int .i64 lo)).heap.size := HMW.out.lt
          have hx : val (x.drop j) = val ((LQ.set j lo).drop j) * Y + (S - Y * lo) := by
            rw [val_drop x j, val_drop (LQ.set j lo) j, getD_set_eq hjl, List.drop_set_of_lt (by omega), HED.out]
            exact over_step HV.out rfl HES.out.symm
          have HXV := Lib.hid hx
          have hq1 := HQ1.out
          have hq2 := HQ2.out
          have hc1 : Y * lo = lo * Y := Int.mul_comm _ _
          have hc2 : (lo + 1) * Y = lo * Y + Y := by rw [Int.add_mul, Int.one_mul]
          have hp : 0 ≤ Y * lo := Int.mul_nonneg (by have := H0.out; omega) hlo
          have hend : 0 ≤ S - Y * lo ∧ S - Y * lo < Y ∧ Y * lo ≤ S := by omega
          have HEND := Lib.hid hend
          have HP := Lib.hid hp
          clear hx hend hp hq1 hq2 hc1 hc2 hgap
          go_wp2_with fail
          have hws : (wr.setCell ⟨w.heap.size, j, none⟩ (.int .i64 lo)).heap.size = wr.heap.size := by simp
          obtain ⟨W1, eW1⟩ : ∃ W : World, wr.setCell ⟨w.heap.size, j, none⟩ (.int .i64 lo) = W := ⟨_, rfl⟩
          rw [eW1] at HW1 HMW HIW hgs hws ⊢
          clear eW1 hcl hfl
          have ht := rtrim_any (some ⟨W1.heap.size, 0, none⟩) 1 [lo] (one_dig (by omega) (by omega)) (W1.alloc (.cells #[.int .i64 lo] 3)) (one_ints W1 lo) (by simp)
          rw [show [lo].length = 1 from rfl, hws] at ht
          have HWS := Lib.hid hws
          clear hws
          with_reducible refine ht.mono ?_
          clear ht
          rintro e w5 ⟨v5, rfl, ho5, hb5, hf5⟩
          rw [one_val] at ho5
          have B5 : RowKit.Below W1.heap.size W1 w5 := (below_alloc _ _).trans (hb5.mono (by simp))
          have hl5 : (digs lo.toNat).length ≤ 1 := digs_le (by simp [P]; omega)
          have HI5 := Lib.hid (ho5.ints (by omega))
          have HB5 := Lib.hid B5
          obtain ⟨a5, q5, rfl⟩ := ho5.fit
          obtain ⟨n5, en5⟩ : ∃ l, (digs lo.toNat).length = l := ⟨_, rfl⟩
          rw [en5] at HI5 ⊢
          clear ho5 hb5 hf5 B5
          go_wp2_with fail
          refine (rtimes_any _ _ y (digs lo.toNat) HDY.out (digs_dig _) _ (HY.out.later (HW1.out.trans (HB5.out.mono HW1.out.size))) HI5.out (by rw [HEY.out]; omega) (by omega)).mono ?_
          rintro e w6 ⟨v6, rfl, ho6, hb6, hf6⟩
          rw [HVY.out, nat_val hlo] at ho6
          have B6 : RowKit.Below W1.heap.size W1 w6 := HB5.out.trans (hb6.mono HB5.out.size)
          have HB6 := Lib.hid B6
          have hl6 : (digs (Y * lo).toNat).length ≤ n + 1 := digs_le (by have := HEND.out; have := HP.out; have := HYP.out; rw [P_succ]; omega)
          have HI6 := Lib.hid (ho6.ints (by omega))
          obtain ⟨a6, q6, rfl⟩ := ho6.fit
          obtain ⟨n6, en6⟩ : ∃ l, (digs (Y * lo).toNat).length = l := ⟨_, rfl⟩
          rw [en6] at HI6 ⊢
          clear ho6 hb6 hf6 B6 hl6 en6
          go_wp2_with fail
          refine (rminus_any _ _ (digs S.toNat) (digs (Y * lo).toNat) (digs_dig _) (digs_dig _) (by rw [nat_val hS0.1, nat_val HP.out]; exact HEND.out.2.2) _ (HIW.out.later HB6.out) HI6.out (by have := HIW.out.shape.1; have := HLS.out; omega)).mono ?_
          rintro e w7 ⟨v7, rfl, ho7, hb7, hf7⟩
          rw [nat_val hS0.1, nat_val HP.out] at ho7
          have B7 : RowKit.Below W1.heap.size W1 w7 := HB6.out.trans (hb7.mono HB6.out.size)
          have HB7 := Lib.hid B7
          have HO7 := Lib.hid ho7
          have HF7 : Hid (∀ b, blk v7 = some b → w.heap.size + 1 ≤ b) := fun b h => by have h1 := hf7 b h; have h2 := HB6.out.size; omega
          clear ho7 hb7 hf7 B7
          go_wp2_with fail
          go_roundw
          case rel => exact ⟨j, LQ.set j lo, S - Y * lo, by omega, rfl, HMW.out.later HB7.out, HO7.out, HF7.out, HW1.out.trans (HB7.out.mono HW1.out.size), by rw [List.length_set]; exact HL.out, HD.out.set j (by omega) (by omega), HEND.out.1, HEND.out.2.1, HXV.out⟩
          case measure => simp [intOf]
end Go.Proofs.YtnddickcnfodfaaGreatDoor.Bi
