/- kitbagref04, the reference's digits: the contracts of digit, less, trim, made, and the mathematics of plus and minus. -/
import Derived.Test.YtnddickcnfodfaaGreatDoorM7
set_option maxRecDepth 100000
namespace Go.Proofs.YtnddickcnfodfaaGreatDoor.Bi
open Go.RowKit

theorem val_cut (l : List Int) (k : Nat) : val l = val (l.take k) + P k * val (l.drop k) := by
  by_cases h : k ≤ l.length
  · exact val_split' l k h
  · rw [List.drop_eq_nil_of_le (by omega), List.take_of_length_le (by omega), val_nil]; omega
theorem val_take_bd {l : List Int} (h : Dig l) (k : Nat) : 0 ≤ val (l.take k) ∧ val (l.take k) < P k := by
  have h1 := val_bd (h.take k)
  have h2 := P_le (i := (l.take k).length) (j := k) (by rw [List.length_take]; omega)
  omega
theorem less_at {x y : List Int} {k : Nat} (hx : Dig x) (hy : Dig y) (hd : val (x.drop (k + 1)) = val (y.drop (k + 1))) (h : x.getD k 0 < y.getD k 0) : val x < val y := by
  have e1 := val_cut x (k + 1)
  have e2 := val_cut y (k + 1)
  have t1 := val_take x k
  have t2 := val_take y k
  have b1 := val_take_bd hx k
  have b2 := val_take_bd hy k
  rw [hd] at e1
  have hm : P k * (x.getD k 0 + 1) ≤ P k * y.getD k 0 := Int.mul_le_mul_of_nonneg_left (by omega) (by have := P_pos k; omega)
  rw [Int.mul_add] at hm
  omega

theorem rdigit_any (v : Value) (l : List Int) (n : Nat) (w : World) (h : Ints w v l) :
    Calls Tryz.prog 106 #[v, .int .i64 n] w fun e w' => e = .returned (.int .i64 (l.getD n 0)) ∧ w = w' := by
  obtain ⟨a, cap, rfl, h1, h2, h3⟩ := h
  by_cases hn : n < l.length
  · obtain ⟨b, o, rfl, hlt, hr⟩ := h3.resolve_left (fun e => by subst e; simp at hn)
    have hc := hr n hn
    clear hr
    obtain ⟨d, hd⟩ : ∃ d, l.getD n 0 = d := ⟨_, rfl⟩
    rw [hd] at hc ⊢
    clear hd
    obtain ⟨m, hm⟩ : ∃ m, l.length = m := ⟨_, rfl⟩
    rw [hm] at hn h1 h2 ⊢
    clear hm
    go_enter Tryz.func106, Tryz.ntmps106
    go_wp2
    go_ret
    exact ⟨rfl, rfl⟩
  · have hz : l.getD n 0 = 0 := by rw [List.getD_eq_getElem?_getD, List.getElem?_eq_none (by omega)]; rfl
    rw [hz]
    clear hz h3
    obtain ⟨m, hm⟩ : ∃ m, l.length = m := ⟨_, rfl⟩
    rw [hm] at hn h1 h2 ⊢
    clear hm
    go_enter Tryz.func106, Tryz.ntmps106
    go_wp2
    go_ret
    exact ⟨rfl, rfl⟩

theorem ret_b {a b : Bool} (h : a = b) : Ending.returned (.bool a) = .returned (.bool b) := by rw [h]
set_option maxHeartbeats 1000000 in
theorem rless_any (vx vy : Value) (x y : List Int) (hdx : Dig x) (hdy : Dig y) (w : World) (hx : Ints w vx x) (hy : Ints w vy y) :
    Calls Tryz.prog 74 #[vx, vy] w fun e w' => e = .returned (.bool (decide (val x < val y))) ∧ w = w' := by
  obtain ⟨ax, capx, rfl, hx1, hx2, _⟩ := id hx
  obtain ⟨ay, capy, rfl, hy1, hy2, _⟩ := id hy
  obtain ⟨lx, ex⟩ : ∃ l, x.length = l := ⟨_, rfl⟩
  obtain ⟨ly, ey⟩ : ∃ l, y.length = l := ⟨_, rfl⟩
  have bx : lx ≤ 1000000000 := ex ▸ hx.shape.2.2.1
  have bz : ly ≤ 1000000000 := ey ▸ hy.shape.2.2.1
  obtain ⟨N, hN, hNx, hNy, hN1⟩ : ∃ N : Nat, max (lx : Int) (ly : Int) = N ∧ lx ≤ N ∧ ly ≤ N ∧ N ≤ 1000000000 := by
    by_cases h : lx ≤ ly
    · exact ⟨ly, by rw [Int.max_def, if_pos (by omega)], h, Nat.le_refl _, bz⟩
    · exact ⟨lx, by rw [Int.max_def, if_neg (by omega)], Nat.le_refl _, by omega, bx⟩
  have HX := Lib.hid hx
  have HY := Lib.hid hy
  have HDX := Lib.hid hdx
  have HDY := Lib.hid hdy
  have HEX := Lib.hid ex
  have HEY := Lib.hid ey
  rw [ex] at HX hx2 ⊢
  rw [ey] at HY hy2 ⊢
  clear hx hy hdx hdy ex ey hx1 hy1
  go_enter Tryz.func74, Tryz.ntmps74
  go_wp2_with fail
  go_loop [5] (fun t => ∃ k : Nat, k ≤ N ∧ t = .int .i64 ((k : Int) - 1) ∧ val (x.drop k) = val (y.drop k)) (fun t => (intOf t + 1).toNat)
  case atStart => exact ⟨N, Nat.le_refl _, by rw [← hN], by rw [List.drop_eq_nil_of_le (by have := HEX.out; omega), List.drop_eq_nil_of_le (by have := HEY.out; omega)]⟩
  case round =>
    obtain ⟨k, hk, rfl, hd⟩ := hrel
    have HD := Lib.hid hd
    clear hd
    cases k with
    | zero =>
      have hq : decide (val x < val y) = false := decide_eq_false (by have := HD.out; rw [List.drop_zero, List.drop_zero] at this; omega)
      rw [show ((0 : Nat) : Int) - 1 = -1 from rfl]
      go_wp2_with fail
      go_ret
      exact ⟨rfl, rfl⟩
    | succ j =>
      rw [show ((j + 1 : Nat) : Int) - 1 = (j : Int) by omega]
      obtain ⟨dx, edx⟩ : ∃ d, x.getD j 0 = d := ⟨_, rfl⟩
      obtain ⟨dy, edy⟩ : ∃ d, y.getD j 0 = d := ⟨_, rfl⟩
      have HJX := Lib.hid edx
      have HJY := Lib.hid edy
      clear edx edy
      by_cases he : dx = dy
      · subst he
        have hq : (dx != dx) = false := by simp
        go_wp2_with fail
        refine (rdigit_any _ _ j _ HX.out).mono ?_
        rintro e w' ⟨rfl, rfl⟩
        rw [HJX.out]
        go_wp2_with fail
        refine (rdigit_any _ _ j _ HY.out).mono ?_
        rintro e w' ⟨rfl, rfl⟩
        rw [HJY.out]
        go_wp2_with fail
        go_round
        case rel => exact ⟨j, by omega, rfl, by rw [val_drop x j, val_drop y j, HJX.out, HJY.out, HD.out]⟩
        case measure => simp [intOf]
      · have hq : (dx != dy) = true := by simpa using he
        have hlt : decide (val x < val y) = decide (dx < dy) := by
          rcases Int.lt_or_gt_of_ne he with h | h
          · rw [decide_eq_true (less_at HDX.out HDY.out HD.out (by rw [HJX.out, HJY.out]; exact h)), decide_eq_true h]
          · have := less_at HDY.out HDX.out HD.out.symm (by rw [HJX.out, HJY.out]; exact h)
            rw [decide_eq_false (by omega), decide_eq_false (by omega)]
        have HLT := Lib.hid hlt
        clear he hlt
        go_wp2_with fail
        refine (rdigit_any _ _ j _ HX.out).mono ?_
        rintro e w' ⟨rfl, rfl⟩
        rw [HJX.out]
        go_wp2_with fail
        refine (rdigit_any _ _ j _ HY.out).mono ?_
        rintro e w' ⟨rfl, rfl⟩
        rw [HJY.out]
        go_wp2_with fail
        refine (rdigit_any _ _ j _ HX.out).mono ?_
        rintro e w' ⟨rfl, rfl⟩
        rw [HJX.out]
        go_wp2_with fail
        refine (rdigit_any _ _ j _ HY.out).mono ?_
        rintro e w' ⟨rfl, rfl⟩
        rw [HJY.out]
        go_wp2_with fail
        go_ret
        exact ⟨ret_b HLT.out.symm, rfl⟩

set_option maxHeartbeats 1000000 in
theorem rtrim_any (a : Option Addr) (cap : Nat) (l : List Int) (hd : Dig l) (w : World) (h : Ints w (.slice a l.length cap) l) (hl : l.length ≤ 100000000) :
    Calls Tryz.prog 83 #[.slice a l.length cap] w (Copy (digs (val l).toNat) w) := by
  have hm := dig_len hd
  have HZ : Hid (∀ i, (digs (val l).toNat).length ≤ i → l.getD i 0 = 0) := fun i hi => dig_zero hd hi
  have HT : Hid (0 < (digs (val l).toNat).length → l.getD ((digs (val l).toNat).length - 1) 0 ≠ 0) := by
    intro h0
    have h1 : 0 < (val l).toNat := by
      rcases Nat.eq_zero_or_pos (val l).toNat with e | e
      · rw [e, digs_zero] at h0; simp at h0
      · exact e
    have h2 := digs_top h1
    have h3 := dig_take hd
    rw [← h3] at h2
    rw [List.getD_eq_getElem?_getD, List.getElem?_take] at h2
    rw [List.length_take] at h2
    rw [if_pos (by omega), show min (digs (val l).toNat).length l.length = (digs (val l).toNat).length by omega] at h2
    rwa [List.getD_eq_getElem?_getD]
  obtain ⟨_, h1, h2, h3⟩ := h.shape
  have htk := dig_take hd
  obtain ⟨x, ex⟩ : ∃ x, digs (val l).toNat = x := ⟨_, rfl⟩
  rw [ex] at hm HZ HT htk ⊢
  have hi : Ints w (.slice a x.length cap) x := h.take htk rfl
  have ha : a = none → x.length = 0 := by
    intro e
    rcases Nat.eq_zero_or_pos x.length with e0 | e0
    · exact e0
    · obtain ⟨b, o, e', _⟩ := h3 (by omega)
      rw [e] at e'; cases e'
  have hs := src_of (hi.later (below_alloc w (.cells #[] 3))) ha
  obtain ⟨i0, hi0, hz0, hz1, hz2⟩ := info_parts infoI
  have hown : Own (w.alloc (.cells #[] 3)) 3 1 (.slice (some ⟨w.heap.size, 0, none⟩) 0 0) 0 [] := ⟨by simp, .inl ⟨_, rfl, rfl⟩⟩
  obtain ⟨v', w', hrun, hown', hgr, hbl⟩ := own_append (P := Tryz.prog) (t := 22) (tx := 22) (ty := 22) Tryz.underlying22 hi0 hz0 hz1 hz2 rfl hown hs (by unfold maxLen; omega) (by omega)
  simp only [Nat.zero_add, List.nil_append] at hown'
  have hfin : Copy x w (.returned v') w' := by
    have hg := (World.grownBy_alloc w (.cells #[] 3) none).trans hgr
    refine ⟨v', rfl, hown', ⟨hg.os, hg.tape, hg.output, hg.size, fun k hk => hg.block k hk (by simp)⟩, fun g hg => ?_⟩
    rcases hbl with h | h | h
    · rw [h] at hg; cases hg
    · rw [h] at hg; cases hg
    · rw [h] at hg; cases hg; simp
  have HF := Lib.hid hfin
  obtain ⟨m, em⟩ : ∃ m, x.length = m := ⟨_, rfl⟩
  rw [em] at hm HZ HT hrun
  have HC : Hid (∀ i, i < l.length → ∃ b o, a = some ⟨b, o, none⟩ ∧ w.cell? ⟨b, o + i, none⟩ = some (.int .i64 (l.getD i 0))) := by
    intro i hi
    obtain ⟨b, o, e, _, hr⟩ := h3 (by omega)
    exact ⟨b, o, e, hr i hi⟩
  clear em h3 h hd hi ha hs hown hown' hgr hbl hfin htk ex hi0 hz0 hz1 hz2
  obtain ⟨n, en⟩ : ∃ n, l.length = n := ⟨_, rfl⟩
  rw [en] at hm h1 h2 HC ⊢
  clear en
  go_enter Tryz.func83, Tryz.ntmps83
  go_wp2
  go_loop [3] (fun t => ∃ k : Nat, m ≤ k ∧ k ≤ n ∧ t = .int .i64 k) (fun t => (intOf t).toNat)
  case atStart => exact ⟨n, hm, Nat.le_refl _, rfl⟩
  case round =>
    obtain ⟨k, hk1, hk2, rfl⟩ := hrel
    cases k with
    | zero =>
      obtain rfl : m = 0 := by omega
      cases a with
      | none =>
        go_wp2_with (at_builtin; refine Lib.wpList_append_run _ rfl _ _ _ _ rfl _ _ rfl rfl _ _ hrun ?_)
        go_ret
        exact HF.out
      | some a =>
        go_wp2_with (at_builtin; refine Lib.wpList_append_run _ rfl _ _ _ _ rfl _ _ rfl rfl _ _ hrun ?_)
        go_ret
        exact HF.out
    | succ j =>
      obtain ⟨b, o, rfl, hc⟩ := HC.out j (by omega)
      by_cases hj : m ≤ j
      · rw [HZ.out j hj] at hc
        go_wp2_with fail
        go_round
        case rel => exact ⟨j, hj, by omega, by go_num⟩
        case measure => simp [intOf]
      · obtain rfl : m = j + 1 := by omega
        have hne := HT.out (by omega)
        rw [Nat.add_sub_cancel] at hne
        obtain ⟨d, hd⟩ : ∃ d, l.getD j 0 = d := ⟨_, rfl⟩
        rw [hd] at hne hc
        have hne' : (d == 0) = false := by simpa using hne
        clear hne hd
        go_wp2_with (at_builtin; refine Lib.wpList_append_run _ rfl _ _ _ _ rfl _ _ rfl rfl _ _ hrun ?_)
        go_ret
        exact HF.out
end Go.Proofs.YtnddickcnfodfaaGreatDoor.Bi
