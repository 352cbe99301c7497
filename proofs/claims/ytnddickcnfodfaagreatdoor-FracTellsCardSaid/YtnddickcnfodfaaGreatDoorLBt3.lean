/- kitbagref04: the contracts of plus and minus. -/
import Derived.Test.YtnddickcnfodfaaGreatDoorLBt2
set_option maxRecDepth 100000
namespace Go.Proofs.YtnddickcnfodfaaGreatDoor.Bi
open Go.RowKit

theorem Grow.fit {w : World} {k : Nat} {v : Value} {L : List Int} {W : World} (h : Grow w k v L W) : ∃ a c, v = .slice a k c := by
  obtain ⟨a, c, e⟩ := h.own.fit
  rw [h.len] at e
  exact ⟨a, c, e⟩
set_option maxHeartbeats 2000000 in
theorem rplus_any (vx vy : Value) (x y : List Int) (hdx : Dig x) (hdy : Dig y) (w : World) (hx : Ints w vx x) (hy : Ints w vy y) (hlx : x.length ≤ 1000000) (hly : y.length ≤ 1000000) :
    Calls Tryz.prog 73 #[vx, vy] w (Copy (digs (val x + val y).toNat) w) := by
  obtain ⟨ax, capx, rfl, _, _, _⟩ := id hx
  obtain ⟨ay, capy, rfl, _, _, _⟩ := id hy
  obtain ⟨lx, ex⟩ : ∃ l, x.length = l := ⟨_, rfl⟩
  obtain ⟨ly, ey⟩ : ∃ l, y.length = l := ⟨_, rfl⟩
  have HX := Lib.hid hx
  have HY := Lib.hid hy
  have HDX := Lib.hid hdx
  have HDY := Lib.hid hdy
  have HEX := Lib.hid ex
  have HEY := Lib.hid ey
  rw [ex] at HX hlx ⊢
  rw [ey] at HY hly ⊢
  clear hx hy hdx hdy ex ey
  obtain ⟨N, hNx, hNy, hN1⟩ : ∃ N : Nat, lx ≤ N ∧ ly ≤ N ∧ N ≤ 2000000 := ⟨lx + ly, by omega, by omega, by omega⟩
  go_enter Tryz.func73, Tryz.ntmps73
  go_wp2_with fail
  go_loopw [5, 6, 7] (fun v c t wr => ∃ (k : Nat) (L : List Int) (C : Int), c = .int .i64 C ∧ t = .int .i64 k ∧ k ≤ N + 1 ∧ 0 ≤ C ∧ C ≤ 1 ∧ Grow w k v L wr ∧ val L + P k * C = val (x.take k) + val (y.take k)) (fun _ _ t _ => N + 2 - (intOf t).toNat)
  case atStart => exact ⟨0, [], 0, rfl, rfl, by omega, by omega, by omega, Grow.start w, by simp [val]⟩
  case round =>
    obtain ⟨k, L, C, rfl, rfl, hk, hc0, hc1, hG, hE⟩ := hrel
    obtain ⟨a0, q0, rfl⟩ := hG.fit
    have HG := Lib.hid hG
    have HE := Lib.hid hE
    have hend : k = N + 1 → C = 0 := fun e => plus_end (N := N) HDX.out HDY.out (by rw [HEX.out]; exact hNx) (by rw [HEY.out]; exact hNy) e hc0 hG.dig hE
    have bx := HDX.out.get k
    have bz := HDY.out.get k
    have hst := plus_step hG.len hE
    obtain ⟨dx, edx⟩ : ∃ d, x.getD k 0 = d := ⟨_, rfl⟩
    obtain ⟨dy, edy⟩ : ∃ d, y.getD k 0 = d := ⟨_, rfl⟩
    rw [edx] at bx hst
    rw [edy] at bz hst
    obtain ⟨a1, q1, w1, hrun, hG1⟩ := hG.next (d := (dx + dy + C) % 1048576) (by omega) (by omega) (by omega)
    have HJX := Lib.hid edx
    have HJY := Lib.hid edy
    have HST := Lib.hid hst
    have HG1 := Lib.hid hG1
    have HRUN := Lib.hid hrun
    clear edx edy hst hG1 hG hE hrun
    have hcase : (k < lx) ∨ (¬ k < lx ∧ k < ly) ∨ (¬ k < lx ∧ ¬ k < ly ∧ 0 < C) ∨ (¬ k < lx ∧ ¬ k < ly ∧ C = 0) := by omega
    rcases hcase with h1 | ⟨h1, h2⟩ | ⟨h1, h2, h3⟩ | ⟨h1, h2, h3⟩
    iterate 3
      have hkN : k ≤ N := by omega
      clear hend
      have hmod : Int.tmod (dx + dy + C) 1048576 = (dx + dy + C) % 1048576 := Int.tmod_eq_emod_of_nonneg (by omega)
      have hdiv : Int.tdiv (dx + dy + C) 1048576 = (dx + dy + C) / 1048576 := Int.tdiv_eq_ediv_of_nonneg (by omega)
      go_wp2_with fail
      refine (rdigit_any _ _ k _ (HX.out.later HG.out.below)).mono ?_
      rintro e w' ⟨rfl, rfl⟩
      rw [HJX.out]
      go_wp2_with fail
      refine (rdigit_any _ _ k _ (HY.out.later HG.out.below)).mono ?_
      rintro e w' ⟨rfl, rfl⟩
      rw [HJY.out]
      have hrun := HRUN.out
      go_wp2_with (at_builtin; refine Lib.wpList_append_run _ rfl _ _ _ _ rfl _ _ rfl rfl _ _ (hrun _) ?_)
      go_roundw
      case rel => exact ⟨k + 1, _, (dx + dy + C) / 1048576, by first | rfl | (simp [hdiv]; done), by go_num, by omega, by omega, by omega, HG1.out, HST.out⟩
      case measure => simp [intOf]; omega
    obtain rfl := h3
    have hv : val L = val x + val y := by
      have := HE.out
      rw [val_take_all x (by rw [HEX.out]; omega), val_take_all y (by rw [HEY.out]; omega), Int.mul_zero] at this
      omega
    have HV := Lib.hid hv
    clear hv hend hc0 hc1 HST HG1 HRUN
    have hl := HG.out.len
    go_wp2_with fail
    have ht := rtrim_any a0 q0 L HG.out.dig wr (by rw [hl]; exact HG.out.ints (by omega)) (by omega)
    rw [hl, HV.out] at ht
    refine ht.mono ?_
    intro e w' h
    have HC := Lib.hid (h.after HG.out.below)
    obtain ⟨v', rfl, _⟩ := h
    go_wp2_with fail
    go_ret
    exact HC.out

set_option maxHeartbeats 2000000 in
theorem rminus_any (vx vy : Value) (x y : List Int) (hdx : Dig x) (hdy : Dig y) (hle : val y ≤ val x) (w : World) (hx : Ints w vx x) (hy : Ints w vy y) (hlx : x.length ≤ 1000000) :
    Calls Tryz.prog 75 #[vx, vy] w (Copy (digs (val x - val y).toNat) w) := by
  obtain ⟨ax, capx, rfl, _, _, hx3⟩ := id hx
  obtain ⟨ay, capy, rfl, _, _, _⟩ := id hy
  obtain ⟨lx, ex⟩ : ∃ l, x.length = l := ⟨_, rfl⟩
  have HX : Hid (∀ k, k < lx → ∃ b o, ax = some ⟨b, o, none⟩ ∧ ∀ W, RowKit.Below w.heap.size w W → W.cell? ⟨b, o + k, none⟩ = some (.int .i64 (x.getD k 0))) := by
    intro k hk
    obtain ⟨b, o, e, hlt, hr⟩ := hx3.resolve_left (fun e => by rw [e] at ex; simp at ex; omega)
    exact ⟨b, o, e, fun W hW => (hB_cell hW hlt).trans (hr k (by omega))⟩
  have hcx := hx.shape.2.1
  have HY := Lib.hid hy
  have HDX := Lib.hid hdx
  have HDY := Lib.hid hdy
  have HEX := Lib.hid ex
  have HLE := Lib.hid hle
  rw [ex] at hlx hcx ⊢
  clear hx hx3 hy hdx hdy ex hle
  go_enter Tryz.func75, Tryz.ntmps75
  go_wp2_with fail
  go_loopw [5, 6, 7] (fun v c t wr => ∃ (k : Nat) (L : List Int) (C : Int), c = .int .i64 C ∧ t = .int .i64 k ∧ k ≤ lx ∧ 0 ≤ C ∧ C ≤ 1 ∧ Grow w k v L wr ∧ val L = val (x.take k) - val (y.take k) + P k * C) (fun _ _ t _ => lx - (intOf t).toNat)
  case atStart => exact ⟨0, [], 0, rfl, rfl, by omega, by omega, by omega, Grow.start w, by simp [val]⟩
  case round =>
    obtain ⟨k, L, C, rfl, rfl, hk, hc0, hc1, hG, hE⟩ := hrel
    obtain ⟨a0, q0, rfl⟩ := hG.fit
    have HG := Lib.hid hG
    have HE := Lib.hid hE
    by_cases hlt : k < lx
    · have bx := HDX.out.get k
      have bz := HDY.out.get k
      have hst := minus_step (x := x) (y := y) hG.len hE
      obtain ⟨bb, o, rfl, hcell⟩ := HX.out k hlt
      have hc := hcell wr HG.out.below
      obtain ⟨dx, edx⟩ : ∃ d, x.getD k 0 = d := ⟨_, rfl⟩
      obtain ⟨dy, edy⟩ : ∃ d, y.getD k 0 = d := ⟨_, rfl⟩
      rw [edx] at bx hst hc
      rw [edy] at bz hst
      have HJY := Lib.hid edy
      have HST := Lib.hid hst
      clear edx edy hst hG hE hcell
      by_cases hneg : dx - dy - C < 0
      · go_wp2_with fail
        go_quiet ((go_at_call 106; exact Calls.quiet_of ((rdigit_any _ _ k _ ((HY.out.later HG.out.below).drewN _)).mono (fun _ _ h => ⟨h.1.trans (by rw [HJY.out]), 0, h.2.symm⟩))))
        obtain ⟨a1, q1, w1, hrun, hG1⟩ := (HG.out.drewN nq).next (d := dx - dy - C + 1048576) (by omega) (by omega) (by omega)
        have HG1 := Lib.hid hG1
        clear hG1
        go_wp2_with (at_builtin; refine Lib.wpList_append_run _ rfl _ _ _ _ rfl _ _ rfl rfl _ _ (hrun _) ?_)
        go_roundw
        case rel => exact ⟨k + 1, _, 1, rfl, by go_num, by omega, by omega, by omega, HG1.out, by have := HST.out 1; rwa [Int.mul_one] at this⟩
        case measure => simp [intOf]; omega
      · go_wp2_with fail
        go_quiet ((go_at_call 106; exact Calls.quiet_of ((rdigit_any _ _ k _ ((HY.out.later HG.out.below).drewN _)).mono (fun _ _ h => ⟨h.1.trans (by rw [HJY.out]), 0, h.2.symm⟩))))
        obtain ⟨a1, q1, w1, hrun, hG1⟩ := (HG.out.drewN nq).next (d := dx - dy - C) (by omega) (by omega) (by omega)
        have HG1 := Lib.hid hG1
        clear hG1
        go_wp2_with (at_builtin; refine Lib.wpList_append_run _ rfl _ _ _ _ rfl _ _ rfl rfl _ _ (hrun _) ?_)
        go_roundw
        case rel => exact ⟨k + 1, _, 0, rfl, by go_num, by omega, by omega, by omega, HG1.out, by have := HST.out 0; rwa [Int.mul_zero, Int.add_zero] at this⟩
        case measure => simp [intOf]; omega
    · obtain rfl : k = lx := by omega
      have hl := HG.out.len
      have hv : val L = val x - val y := minus_end HDX.out HDY.out HLE.out hG.dig (by rw [hl, HEX.out]) hc0 (by rw [HEX.out]; exact HE.out)
      have HV := Lib.hid hv
      clear hv hc0 hc1 hG hE
      go_wp2_with fail
      have ht := rtrim_any a0 q0 L HG.out.dig wr (by rw [hl]; exact HG.out.ints (by omega)) (by omega)
      rw [hl, HV.out] at ht
      refine ht.mono ?_
      intro e w' h
      have HC := Lib.hid (h.after HG.out.below)
      obtain ⟨v', rfl, _⟩ := h
      go_wp2_with fail
      go_ret
      exact HC.out
end Go.Proofs.YtnddickcnfodfaaGreatDoor.Bi
