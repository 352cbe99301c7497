/- The contracts of the beginning whose bytes belong to a set. -/
import Derived.Test.YtagkdhcclkbjgaaDoorLe4
set_option maxRecDepth 100000
namespace Go.Proofs.YtagkdhcclkbjgaaDoor.Le
open Go.RowKit

theorem sizeB (s : ByteArray) : s.data.toList.length = s.size := by rw [Array.length_toList]; rfl
theorem getB (s : ByteArray) (k : Nat) (h : k < s.size) : s.data.toList[k]'(by rw [sizeB]; exact h) = s[k] := rfl
theorem tw_stop {p : UInt8 → Bool} (l : List UInt8) (k : Nat) (h : k < l.length) (ha : (l.take k).all p = true) (hk : p l[k] = false) : l.takeWhile p = l.take k := by
  have e : l = l.take k ++ l[k] :: l.drop (k + 1) := by rw [← List.drop_eq_getElem_cons h, List.take_append_drop]
  conv => lhs; rw [e]
  exact tw_of_all _ ha _ (.inr ⟨_, _, rfl, hk⟩)
theorem tw_whole {p : UInt8 → Bool} (l : List UInt8) (ha : l.all p = true) : l.takeWhile p = l := by
  have := tw_of_all l ha [] (.inl rfl)
  rwa [List.append_nil] at this
theorem all_snoc {p : UInt8 → Bool} (l : List UInt8) (k : Nat) (h : k < l.length) (ha : (l.take k).all p = true) (hk : p l[k] = true) : (l.take (k + 1)).all p = true := by
  rw [List.take_succ_eq_append_getElem h, List.all_append, ha, List.all_cons, hk]; rfl
theorem extB (s : ByteArray) (k : Nat) : s.extract 0 k = ⟨(s.data.toList.take k).toArray⟩ := by
  apply ByteArray.ext
  apply Array.ext'; simp [ByteArray.data_extract, List.extract_eq_take_drop]
theorem eqB (s : ByteArray) : (⟨s.data.toList.toArray⟩ : ByteArray) = s := by apply ByteArray.ext; simp
theorem ret_str {a b : ByteArray} (h : a = b) : Ending.returned (.string a) = .returned (.string b) := by rw [h]

set_option maxHeartbeats 1000000 in
theorem prefix_name (s : ByteArray) (hs : s.size ≤ 9223372036854775807) (w : World) : Calls Tryd.prog 36 #[.string s, .func (.func 37) #[] #[]] w fun e w' => e = .returned (.string ⟨(s.data.toList.takeWhile nameB).toArray⟩) ∧ w' = w := by
  go_enter Tryd.func36, Tryd.ntmps36
  go_wp2_with fail
  go_loop [8] (fun i => ∃ k : Nat, k ≤ s.size ∧ i = .int .i64 k ∧ (s.data.toList.take k).all nameB = true) (fun i => s.size - (intOf i).toNat)
  case atStart => exact ⟨0, by omega, rfl, rfl⟩
  case round =>
    obtain ⟨k, hk, rfl, hall⟩ := hrel
    have HA := Lib.hid hall
    clear hall
    by_cases hlt : k < s.size
    · obtain ⟨x, hx⟩ : ∃ x, s[k] = x := ⟨_, rfl⟩
      have HX := Lib.hid hx
      have hc := isNameByte_any x
      rcases hp : nameB x with _ | _
      · rw [hp] at hc
        have HC := Lib.hid hc
        have HT : Hid (s.data.toList.takeWhile nameB = s.data.toList.take k) := tw_stop _ k (by rw [sizeB]; exact hlt) HA.out (by rw [getB s k hlt, HX.out]; exact hp)
        clear hc hp
        go_wp2_with fail
        refine (HC.out _).mono ?_
        rintro e w1 ⟨rfl, rfl⟩
        go_wp2_with fail
        go_ret
        exact ⟨ret_str (by rw [HT.out]; exact extB s k), rfl⟩
      · rw [hp] at hc
        have HC := Lib.hid hc
        have HP := Lib.hid hp
        clear hc hp
        go_wp2_with fail
        refine (HC.out _).mono ?_
        rintro e w1 ⟨rfl, rfl⟩
        go_wp2_with fail
        go_round
        case rel => exact ⟨k + 1, by omega, by go_num, all_snoc _ k (by rw [sizeB]; exact hlt) HA.out (by rw [getB s k hlt, HX.out]; exact HP.out)⟩
        case measure => simp [intOf]; omega
    · have HT : Hid (s.data.toList.takeWhile nameB = s.data.toList) := tw_whole _ (by have := HA.out; rwa [List.take_of_length_le (by rw [sizeB]; omega)] at this)
      go_wp2_with fail
      go_ret
      exact ⟨ret_str (by rw [HT.out, eqB]), rfl⟩

set_option maxHeartbeats 1000000 in
theorem prefix_digit (s : ByteArray) (hs : s.size ≤ 9223372036854775807) (w : World) : Calls Tryd.prog 36 #[.string s, .func (.func 43) #[] #[]] w fun e w' => e = .returned (.string ⟨(s.data.toList.takeWhile digB).toArray⟩) ∧ w' = w := by
  go_enter Tryd.func36, Tryd.ntmps36
  go_wp2_with fail
  go_loop [8] (fun i => ∃ k : Nat, k ≤ s.size ∧ i = .int .i64 k ∧ (s.data.toList.take k).all digB = true) (fun i => s.size - (intOf i).toNat)
  case atStart => exact ⟨0, by omega, rfl, rfl⟩
  case round =>
    obtain ⟨k, hk, rfl, hall⟩ := hrel
    have HA := Lib.hid hall
    clear hall
    by_cases hlt : k < s.size
    · obtain ⟨x, hx⟩ : ∃ x, s[k] = x := ⟨_, rfl⟩
      have HX := Lib.hid hx
      have hc := isDigit_any x
      rcases hp : digB x with _ | _
      · rw [hp] at hc
        have HC := Lib.hid hc
        have HT : Hid (s.data.toList.takeWhile digB = s.data.toList.take k) := tw_stop _ k (by rw [sizeB]; exact hlt) HA.out (by rw [getB s k hlt, HX.out]; exact hp)
        clear hc hp
        go_wp2_with fail
        refine (HC.out _).mono ?_
        rintro e w1 ⟨rfl, rfl⟩
        go_wp2_with fail
        go_ret
        exact ⟨ret_str (by rw [HT.out]; exact extB s k), rfl⟩
      · rw [hp] at hc
        have HC := Lib.hid hc
        have HP := Lib.hid hp
        clear hc hp
        go_wp2_with fail
        refine (HC.out _).mono ?_
        rintro e w1 ⟨rfl, rfl⟩
        go_wp2_with fail
        go_round
        case rel => exact ⟨k + 1, by omega, by go_num, all_snoc _ k (by rw [sizeB]; exact hlt) HA.out (by rw [getB s k hlt, HX.out]; exact HP.out)⟩
        case measure => simp [intOf]; omega
    · have HT : Hid (s.data.toList.takeWhile digB = s.data.toList) := tw_whole _ (by have := HA.out; rwa [List.take_of_length_le (by rw [sizeB]; omega)] at this)
      go_wp2_with fail
      go_ret
      exact ⟨ret_str (by rw [HT.out, eqB]), rfl⟩

set_option maxHeartbeats 1000000 in
theorem prefix_plain (s : ByteArray) (hs : s.size ≤ 9223372036854775807) (w : World) : Calls Tryd.prog 36 #[.string s, .func (.func 52) #[] #[]] w fun e w' => e = .returned (.string ⟨(s.data.toList.takeWhile plainB).toArray⟩) ∧ w' = w := by
  go_enter Tryd.func36, Tryd.ntmps36
  go_wp2_with fail
  go_loop [8] (fun i => ∃ k : Nat, k ≤ s.size ∧ i = .int .i64 k ∧ (s.data.toList.take k).all plainB = true) (fun i => s.size - (intOf i).toNat)
  case atStart => exact ⟨0, by omega, rfl, rfl⟩
  case round =>
    obtain ⟨k, hk, rfl, hall⟩ := hrel
    have HA := Lib.hid hall
    clear hall
    by_cases hlt : k < s.size
    · obtain ⟨x, hx⟩ : ∃ x, s[k] = x := ⟨_, rfl⟩
      have HX := Lib.hid hx
      have hc := isPlain_any x
      rcases hp : plainB x with _ | _
      · rw [hp] at hc
        have HC := Lib.hid hc
        have HT : Hid (s.data.toList.takeWhile plainB = s.data.toList.take k) := tw_stop _ k (by rw [sizeB]; exact hlt) HA.out (by rw [getB s k hlt, HX.out]; exact hp)
        clear hc hp
        go_wp2_with fail
        refine (HC.out _).mono ?_
        rintro e w1 ⟨rfl, rfl⟩
        go_wp2_with fail
        go_ret
        exact ⟨ret_str (by rw [HT.out]; exact extB s k), rfl⟩
      · rw [hp] at hc
        have HC := Lib.hid hc
        have HP := Lib.hid hp
        clear hc hp
        go_wp2_with fail
        refine (HC.out _).mono ?_
        rintro e w1 ⟨rfl, rfl⟩
        go_wp2_with fail
        go_round
        case rel => exact ⟨k + 1, by omega, by go_num, all_snoc _ k (by rw [sizeB]; exact hlt) HA.out (by rw [getB s k hlt, HX.out]; exact HP.out)⟩
        case measure => simp [intOf]; omega
    · have HT : Hid (s.data.toList.takeWhile plainB = s.data.toList) := tw_whole _ (by have := HA.out; rwa [List.take_of_length_le (by rw [sizeB]; omega)] at this)
      go_wp2_with fail
      go_ret
      exact ⟨ret_str (by rw [HT.out, eqB]), rfl⟩
end Go.Proofs.YtagkdhcclkbjgaaDoor.Le
