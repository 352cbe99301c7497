/- kitbagref04: Int (all but arguments below the least int). -/
import Derived.Test.YtkijkofdhfjodaaDoorLBt14
set_option maxRecDepth 100000
namespace Go.Proofs.YtkijkofdhfjodaaDoor.Bi
open Go.RowKit

/-- The box of one argument. -/
structure Bu (w : World) (sa : Int) (va : Value) (W : World) : Prop where
  cells : W.cell? ⟨w.heap.size, 0, none⟩ = some (.int .i64 sa) ∧ W.cell? ⟨w.heap.size, 1, none⟩ = some va
  below : RowKit.Below w.heap.size w W
  size : w.heap.size < W.heap.size
theorem Bu.start (w : World) (sa : Int) (va : Value) : Bu w sa va (w.alloc (.cells #[.int .i64 sa, va] 24)) := by
  have h' := alloc_at w (.cells #[.int .i64 sa, va] 24)
  exact ⟨⟨by rw [cell_of_row _ _ _ _ _ _ h']; rfl, by rw [cell_of_row _ _ _ _ _ _ h']; rfl⟩, below_alloc _ _, by simp⟩
theorem Bu.later {w W W' : World} {sa : Int} {va : Value} (h : Bu w sa va W) (hb : RowKit.Below W.heap.size W W') : Bu w sa va W' := by
  have hz := h.size
  obtain ⟨c0, c1⟩ := h.cells
  have hc : ∀ b o, b < W.heap.size → W'.cell? ⟨b, o, none⟩ = W.cell? ⟨b, o, none⟩ := fun b o hb' => hb.cell (p := ⟨b, o, none⟩) hb'
  exact ⟨⟨(hc _ _ (by omega)).trans c0, (hc _ _ (by omega)).trans c1⟩, h.below.trans (hb.mono h.below.size), Nat.lt_of_lt_of_le hz hb.size⟩
theorem Bu.heap {w W W' : World} {sa : Int} {va : Value} (h : Bu w sa va W) (hb : W'.heap = W.heap) (h1 : W'.os = W.os) (h2 : W'.tape = W.tape) (h3 : W'.output = W.output) : Bu w sa va W' :=
  h.later ⟨h1, h2, h3, by rw [hb]; exact Nat.le_refl _, fun k _ => by rw [hb]⟩

set_option maxHeartbeats 2000000 in
theorem rint_bad (va : Value) (sa : Int) (la : List Int) (w : World) (ha : Arg w va sa la) (hr : rightB sa la = false) :
    Calls Tryd.prog 16 #[va] w fun e w' => e = .returned (.tuple #[.int .i64 0, .bool false]) ∧ RowKit.Below w.heap.size w w' := by
  obtain ⟨va', rfl, hia⟩ := id ha
  obtain ⟨aa, ca, rfl, _⟩ := hia.open
  obtain ⟨na, ena⟩ : ∃ n, la.length = n := ⟨_, rfl⟩
  rw [ena] at ha ⊢
  have HA := Lib.hid ha
  have HX0 := Lib.hid (Bu.start w sa (.slice aa na ca))
  have HR := Lib.hid hr
  clear ha hia hr ena
  go_enter Tryd.func16, Tryd.ntmps16
  go_wp2_with fail
  refine (rright_any _ sa la _ (HA.out.later HX0.out.below)).mono ?_
  rintro e w1 ⟨rfl, hb1⟩
  rw [HR.out]
  have HX1 := Lib.hid (HX0.out.later hb1)
  clear hb1
  go_wp2_with fail
  go_ret2
  exact ⟨rfl, HX1.out.below⟩

theorem val_drop_le {l : List Int} (h : Dig l) (k : Nat) : 0 ≤ val (l.drop k) ∧ val (l.drop k) ≤ val l := by
  have h1 := (val_bd (h.drop k)).1
  have h2 := (val_bd (h.take k)).1
  have h3 := val_split l k
  have h4 := P_pos (l.take k).length
  have h5 : val (l.drop k) ≤ P (l.take k).length * val (l.drop k) := by
    have h6 := Int.mul_le_mul_of_nonneg_right (show (1 : Int) ≤ P (l.take k).length by omega) h1
    rwa [Int.one_mul] at h6
  omega

set_option maxHeartbeats 8000000 in
theorem rint_case (va : Value) (a : Int) (w : World) (ha : IsB w va a) (hlo : -9223372036854775808 ≤ a) (k : Bool) (hk : decide (a ≤ 9223372036854775807) = k) :
    Calls Tryd.prog 16 #[va] w fun e w' => e = .returned (.tuple #[.int .i64 (if k then a else 0), .bool k]) ∧ RowKit.Below w.heap.size w w' := by
  obtain ⟨sa, rfl, hia⟩ := id ha
  have HA := Lib.hid ha
  have HIA := Lib.hid hia
  obtain ⟨aa, ca, rfl, _⟩ := hia.open
  obtain ⟨zl, ezl⟩ : ∃ z : Int, -9223372036854775808 = z := ⟨_, rfl⟩
  obtain ⟨zm, ezm⟩ : ∃ z : Int, 9223372036854775807 = z := ⟨_, rfl⟩
  have HOL : Hid (∀ W, Calls Tryd.prog 31 #[.int .i64 (-9223372036854775808)] W (AnsB zl W)) := by
    unfold Hid; subst ezl; exact fun W => rof_any _ (by omega) (by omega) W
  have HOM : Hid (∀ W, Calls Tryd.prog 31 #[.int .i64 9223372036854775807] W (AnsB zm W)) := by
    unfold Hid; subst ezm; exact fun W => rof_any _ (by omega) (by omega) W
  have HC1 := Lib.hid (fun W v (h1 : IsB W (.agg #[.int .i64 a.sign, .slice aa (digs a.natAbs).length ca]) a) (h2 : IsB W v zl) => rcompare_ok _ v a zl W h1 h2)
  have HC2 := Lib.hid (fun W v (h1 : IsB W (.agg #[.int .i64 a.sign, .slice aa (digs a.natAbs).length ca]) a) (h2 : IsB W v zm) => rcompare_ok _ v a zm W h1 h2)
  obtain ⟨c1, e1⟩ : ∃ c, cmpI a zl = c := ⟨_, rfl⟩
  obtain ⟨c2, e2⟩ : ∃ c, cmpI a zm = c := ⟨_, rfl⟩
  have hc1 : decide (c1 < 0) = false := by rw [← e1]; unfold cmpI; (repeat' split) <;> first | rfl | (exfalso; omega)
  have hc2 : decide (0 < c2) = !k := by rw [← e2, ← hk]; unfold cmpI; (repeat' split) <;> first | (rw [decide_eq_true (by omega : a ≤ 9223372036854775807)]; rfl) | (rw [decide_eq_false (by omega : ¬ a ≤ 9223372036854775807)]; rfl)
  rw [e1] at HC1
  rw [e2] at HC2
  obtain ⟨na, ena⟩ : ∃ n, (digs a.natAbs).length = n := ⟨_, rfl⟩
  have HNA := Lib.hid ena
  have HLO := Lib.hid hlo
  have HK := Lib.hid hk
  have hsg : a.sign * (a.natAbs : Int) = a := Int.sign_mul_natAbs a
  have HSG := Lib.hid hsg
  rw [ena] at HA HIA HC1 HC2 ⊢
  obtain ⟨x, ex⟩ : ∃ x, a.sign = x := ⟨_, rfl⟩
  have hxb := sgn_bd a
  rw [ex] at hxb HA HC1 HC2 HSG ⊢
  have HX0 := Lib.hid (Bu.start w x (.slice aa na ca))
  have HXB := Lib.hid hxb
  clear ha hia ena ezl ezm e1 e2 hlo hk hsg ex hxb
  go_enter Tryd.func16, Tryd.ntmps16
  go_wp2_with fail
  refine (risb_any (HA.out.later HX0.out.below)).mono ?_
  rintro e w1 ⟨rfl, hb1⟩
  have HX1 := Lib.hid (HX0.out.later hb1)
  clear hb1
  obtain ⟨c0, c01⟩ := HX1.out.cells
  go_wp2_with fail
  have HXD := Lib.hid (HX1.out.heap (W' := w1.drew) rfl rfl rfl rfl)
  have e2 := HXD.out.cells
  clear c0 c01
  go_region_held3 (fun W => W.cell? ⟨w.heap.size, 0, none⟩ = some (.int .i64 x) ∧ W.cell? ⟨w.heap.size, 1, none⟩ = some (.slice aa na ca))
    (first | (with_reducible exact e2) | (with_reducible exact x3) | (with_reducible exact x4) | (with_reducible exact x5) | (with_reducible exact x6))
    (first
      | (go_at_call 31; (with_reducible refine (HOL.out _).mono ?_); rintro e w3 ⟨s3, rfl, hi3, hb3, _⟩; obtain ⟨a3, cc3, rfl, hj3⟩ := hi3.open; have HX3 := Lib.hid (HXD.out.later hb3); have x3 := HX3.out.cells; have HI3 : Hid (IsB w3 (.agg #[.int .i64 zl.sign, .slice a3 (digs zl.natAbs).length cc3]) zl) := ⟨_, rfl, hj3⟩; clear hi3 hj3 hb3)
      | (go_at_call 24; (with_reducible refine (HC1.out _ _ ?_ ?_).mono ?_); (focus exact HA.out.later HX3.out.below); (focus exact HI3.out); rintro e w4 ⟨rfl, hb4⟩; have HX4 := Lib.hid (HX3.out.later hb4); have x4 := HX4.out.cells; clear hb4)
      | (go_at_call 31; (with_reducible refine (HOM.out _).mono ?_); rintro e w5 ⟨s5, rfl, hi5, hb5, _⟩; obtain ⟨a5, cc5, rfl, hj5⟩ := hi5.open; have HX5 := Lib.hid (HX4.out.later hb5); have x5 := HX5.out.cells; have HI5 : Hid (IsB w5 (.agg #[.int .i64 zm.sign, .slice a5 (digs zm.natAbs).length cc5]) zm) := ⟨_, rfl, hj5⟩; clear hi5 hj5 hb5)
      | (go_at_call 24; (with_reducible refine (HC2.out _ _ ?_ ?_).mono ?_); (focus exact HA.out.later HX5.out.below); (focus exact HI5.out); rintro e w6 ⟨rfl, hb6⟩; have HX6 := Lib.hid (HX5.out.later hb6); have x6 := HX6.out.cells; clear hb6))
  cases k
  · go_wp2_with fail
    go_ret2
    exact ⟨rfl, HX6.out.below⟩
  · have hle : a ≤ 9223372036854775807 := of_decide_eq_true HK.out
    have HLE := Lib.hid hle
    have hna := HIA.out.shape.2.2.1
    obtain ⟨g0, g1⟩ := HX6.out.cells
    clear hc1 hc2 hle e2 x3 x4 x5 x6
    go_wp2_with fail
    go_loopw [5, 6] (fun n i wr => ∃ (j : Nat) (v : Int), j ≤ na ∧ n = .int .i64 v ∧ i = .int .i64 ((j : Int) - 1) ∧ v = x * val ((digs a.natAbs).drop j) ∧ Bu w x (.slice aa na ca) wr) (fun _ i _ => (intOf i + 1).toNat)
    case atStart => exact ⟨na, 0, Nat.le_refl _, rfl, by go_num, by rw [List.drop_eq_nil_of_le (by rw [HNA.out]; exact Nat.le_refl _)]; simp [val], HX6.out⟩
    case round =>
      obtain ⟨j, v, hj, rfl, rfl, hv, hB⟩ := hrel
      have HB := Lib.hid hB
      have HV := Lib.hid hv
      clear hB hv
      cases j with
      | zero =>
        have hva : v = a := by
          have h1 := HV.out
          rw [List.drop_zero, digs_val, HSG.out] at h1; exact h1
        subst hva
        go_wp2_with fail
        go_ret2
        exact ⟨rfl, HB.out.below⟩
      | succ j =>
        obtain ⟨d, ed⟩ : ∃ d, (digs a.natAbs).getD j 0 = d := ⟨_, rfl⟩
        have hd := (digs_dig a.natAbs).get j
        rw [ed] at hd
        have hdr := val_drop (digs a.natAbs) j
        rw [ed] at hdr
        have hb1 := val_drop_le (digs_dig a.natAbs) j
        have hb2 := val_drop_le (digs_dig a.natAbs) (j + 1)
        rw [digs_val] at hb1 hb2
        obtain ⟨V, eV⟩ : ∃ V, val ((digs a.natAbs).drop (j + 1)) = V := ⟨_, rfl⟩
        obtain ⟨V', eV'⟩ : ∃ V, val ((digs a.natAbs).drop j) = V := ⟨_, rfl⟩
        have hv := HV.out
        rw [eV] at hv hb2 hdr
        rw [eV'] at hb1 hdr
        have hxx : x = -1 ∨ x = 0 ∨ x = 1 := by have := HXB.out; omega
        have hlo := HLO.out
        have hhi := HLE.out
        have hsg := HSG.out
        have hu : -9223372036854775808 ≤ v * 1048576 ∧ v * 1048576 ≤ 9223372036854775807 := by rcases hxx with rfl | rfl | rfl <;> omega
        have ht : -1048576 ≤ x * d ∧ x * d ≤ 1048576 := by rcases hxx with rfl | rfl | rfl <;> omega
        have hs : v * 1048576 + x * d = x * V' := by rcases hxx with rfl | rfl | rfl <;> omega
        have hs2 : -9223372036854775808 ≤ x * V' ∧ x * V' ≤ 9223372036854775807 := by rcases hxx with rfl | rfl | rfl <;> omega
        obtain ⟨t, et⟩ : ∃ t, x * d = t := ⟨_, rfl⟩
        obtain ⟨u, eu⟩ : ∃ u, v * 1048576 = u := ⟨_, rfl⟩
        obtain ⟨z, ez⟩ : ∃ z, x * V' = z := ⟨_, rfl⟩
        rw [et] at ht hs
        rw [eu] at hu hs
        rw [ez] at hs hs2
        have hw1 : IntKind.i64.wrap (v * 1048576) = u := by rw [eu]; exact IntWalk.i64_in _ (by omega)
        have hw2 : IntKind.i64.wrap (x * d) = t := by rw [et]; exact IntWalk.i64_in _ (by omega)
        have hw3 : IntKind.i64.wrap (u + t) = z := by rw [hs]; exact IntWalk.i64_in _ (by omega)
        have HZ : Hid (z = x * val ((digs a.natAbs).drop j)) := by unfold Hid; rw [eV', ez]
        obtain ⟨_, _, _, hrow⟩ := (HIA.out.later HB.out.below).shape
        obtain ⟨b, o, rfl, hblt, hrow⟩ := hrow (by omega)
        have hcell := hrow j (by rw [HNA.out]; omega)
        rw [ed] at hcell
        obtain ⟨q0, q1⟩ := HB.out.cells
        clear ed hd hdr hb1 hb2 eV eV' hv hxx hlo hhi hsg hu ht hs hs2 et eu ez hrow g0 g1
        go_wp2_with fail
        go_quiet (fail)
        go_wp2_with fail
        go_roundw
        case rel => exact ⟨j, z, Nat.le_of_succ_le hj, rfl, by first | rfl | (simp; done) | go_num, HZ.out, HB.out.heap rfl rfl rfl rfl⟩
        case measure => simp [intOf]
end Go.Proofs.YtkijkofdhfjodaaDoor.Bi
