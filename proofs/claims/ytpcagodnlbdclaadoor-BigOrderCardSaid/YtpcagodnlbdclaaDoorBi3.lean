/- The contracts of top, trim, add. -/
import Derived.Test.YtpcagodnlbdclaaDoorBi2
set_option maxRecDepth 100000
namespace Go.Proofs.YtpcagodnlbdclaaDoor.Bi
open Go.RowKit

theorem ret_i {a b : Int} (h : a = b) : Ending.returned (.int .i64 a) = .returned (.int .i64 b) := by rw [h]

theorem top_any (v : Value) (l : List Int) (n : Int) (hd : Dig l) (h0 : 0 ≤ n) (h1 : n ≤ 1000000000) (w : World) (h : Ints w v l) :
    Calls Tryd.prog 58 #[v, .int .i64 n] w fun e w' => e = .returned (.int .i64 (top3 l n)) ∧ w = w' := by
  have b1 := dg_bd hd (n - 1)
  have b2 := dg_bd hd (n - 2)
  have b3 := dg_bd hd (n - 3)
  obtain ⟨x, hx⟩ : ∃ x, dg l (n - 1) = x := ⟨_, rfl⟩
  obtain ⟨y, hy⟩ : ∃ y, dg l (n - 2) = y := ⟨_, rfl⟩
  obtain ⟨z, hz⟩ : ∃ z, dg l (n - 3) = z := ⟨_, rfl⟩
  have HT : Hid (top3 l n = x * 1099511627776 + y * 1048576 + z) := by unfold top3; rw [hx, hy, hz]; rfl
  rw [hx] at b1
  rw [hy] at b2
  rw [hz] at b3
  have HX := Lib.hid hx
  have HY := Lib.hid hy
  have HZ := Lib.hid hz
  have H := Lib.hid h
  clear hx hy hz h hd
  go_enter Tryd.func58, Tryd.ntmps58
  go_wp2_with fail
  refine (digit_any v l (n - 1) _ H.out).mono ?_
  rintro e w' ⟨rfl, rfl⟩
  rw [show (if n - 1 < 0 then 0 else l.getD (n - 1).toNat 0) = x from HX.out]
  go_wp2_with fail
  refine (digit_any v l (n - 2) _ H.out).mono ?_
  rintro e w' ⟨rfl, rfl⟩
  rw [show (if n - 2 < 0 then 0 else l.getD (n - 2).toNat 0) = y from HY.out]
  go_wp2_with fail
  refine (digit_any v l (n - 3) _ H.out).mono ?_
  rintro e w' ⟨rfl, rfl⟩
  rw [show (if n - 3 < 0 then 0 else l.getD (n - 3).toNat 0) = z from HZ.out]
  go_wp2_with fail
  go_ret
  refine ⟨ret_i ?_, rfl⟩
  rw [HT.out, or40 x y (by omega) (by omega) (by omega) (by omega), or20 _ z (by omega) (by omega) (by omega) (by omega) (by omega)]

theorem trim_any (a : Option Addr) (cap : Nat) (l : List Int) (hd : Dig l) (w : World) (h : Ints w (.slice a l.length cap) l) :
    Calls Tryd.prog 63 #[.slice a l.length cap] w fun e w' => e = .returned (.slice a (digs (val l).toNat).length cap) ∧ w = w' := by
  have hm := dig_len hd
  have HZ : Hid (∀ i, (digs (val l).toNat).length ≤ i → l.getD i 0 = 0) := fun i hi => dig_zero hd hi
  have HT : Hid (0 < (digs (val l).toNat).length → l.getD ((digs (val l).toNat).length - 1) 0 ≠ 0) := by
    intro h0
    have h1 : 0 < (val l).toNat := by
      rcases Nat.eq_zero_or_pos (val l).toNat with e | e
      · rw [e, digs_zero] at h0; simp at h0
      · exact e
    have h2 := digs_top h1
    have h3 := dig_take hd
    rw [← h3] at h2
    rw [List.getD_eq_getElem?_getD, List.getElem?_take] at h2
    rw [List.length_take] at h2
    rw [if_pos (by omega), show min (digs (val l).toNat).length l.length = (digs (val l).toNat).length by omega] at h2
    rwa [List.getD_eq_getElem?_getD]
  obtain ⟨_, h1, h2, h3⟩ := h.shape
  obtain ⟨m, em⟩ : ∃ m, (digs (val l).toNat).length = m := ⟨_, rfl⟩
  rw [em] at hm HZ HT ⊢
  have HC : Hid (∀ i, i < l.length → ∃ b o, a = some ⟨b, o, none⟩ ∧ w.cell? ⟨b, o + i, none⟩ = some (.int .i64 (l.getD i 0))) := by
    intro i hi
    obtain ⟨b, o, e, _, hr⟩ := h3 (by omega)
    exact ⟨b, o, e, hr i hi⟩
  clear em h3 h hd
  obtain ⟨n, en⟩ : ∃ n, l.length = n := ⟨_, rfl⟩
  rw [en] at hm h1 h2 HC ⊢
  clear en
  go_enter Tryd.func63, Tryd.ntmps63
  go_wp2
  go_loop [3] (fun t => ∃ k : Nat, m ≤ k ∧ k ≤ n ∧ t = .int .i64 k) (fun t => (intOf t).toNat)
  case atStart => exact ⟨n, hm, Nat.le_refl _, rfl⟩
  case round =>
    obtain ⟨k, hk1, hk2, rfl⟩ := hrel
    cases k with
    | zero =>
      obtain rfl : m = 0 := by omega
      go_wp2
      go_ret
      exact ⟨rfl, rfl⟩
    | succ j =>
      obtain ⟨b, o, rfl, hc⟩ := HC.out j (by omega)
      by_cases hj : m ≤ j
      · rw [HZ.out j hj] at hc
        go_wp2
        go_round
        case rel => exact ⟨j, hj, by omega, by go_num⟩
        case measure => simp [intOf]
      · obtain rfl : m = j + 1 := by omega
        have hne := HT.out (by omega)
        rw [Nat.add_sub_cancel] at hne
        obtain ⟨d, hd⟩ : ∃ d, l.getD j 0 = d := ⟨_, rfl⟩
        rw [hd] at hne hc
        have hne' : (d == 0) = false := by simpa using hne
        clear hne hd
        go_wp2
        go_ret
        exact ⟨rfl, rfl⟩
end Go.Proofs.YtpcagodnlbdclaaDoor.Bi
