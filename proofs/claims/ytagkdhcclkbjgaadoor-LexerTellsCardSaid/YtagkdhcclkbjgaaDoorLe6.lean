/- The contracts of what is skipped, and of what is idle. -/
import Derived.Test.YtagkdhcclkbjgaaDoorLe5
set_option maxRecDepth 100000
namespace Go.Proofs.YtagkdhcclkbjgaaDoor.Le
open Go.RowKit

theorem skip_10 {x : UInt8} {r : List UInt8} (c : Bool) (h : x.toNat = 10) : skip c (x :: r) = skip false r + 1 := by rw [skip, if_pos h]
theorem skip_35 {x : UInt8} {r : List UInt8} (c : Bool) (h : x.toNat = 35) : skip c (x :: r) = skip true r + 1 := by
  rw [skip, if_neg (by omega)]
  cases c
  · rw [if_neg (by simp), if_neg (by unfold blankB; simp; omega), if_pos h]
  · rw [if_pos rfl]
theorem skip_b {x : UInt8} {r : List UInt8} (c : Bool) (h : x.toNat = 9 ∨ x.toNat = 32) : skip c (x :: r) = skip c r + 1 := by
  rw [skip, if_neg (by omega)]
  cases c
  · rw [if_neg (by simp), if_pos (by unfold blankB; simp; omega)]
  · rw [if_pos rfl]
theorem skip_t {x : UInt8} {r : List UInt8} (h : x.toNat ≠ 10) : skip true (x :: r) = skip true r + 1 := by
  rw [skip, if_neg h, if_pos rfl]
theorem skip_f {x : UInt8} {r : List UInt8} (h : blankB x = false) (h2 : x.toNat ≠ 35) : skip false (x :: r) = 0 := by
  have : x.toNat ≠ 10 := fun e => by unfold blankB at h; simp at h; omega
  rw [skip, if_neg this, if_neg (by simp), if_neg (by rw [h]; simp), if_neg h2]
theorem dropB (s : ByteArray) (k : Nat) (h : k < s.size) : s.data.toList.drop k = s[k] :: s.data.toList.drop (k + 1) := List.drop_eq_getElem_cons (by rw [sizeB]; exact h)
theorem drop_end (s : ByteArray) (k : Nat) (h : ¬ k < s.size) : s.data.toList.drop k = [] := List.drop_of_length_le (by rw [sizeB]; omega)

set_option maxHeartbeats 2000000 in
theorem gap_any (s : ByteArray) (hs : s.size ≤ 9223372036854775807) (w : World) : Calls Tryd.prog 25 #[.string s] w fun e w' => e = .returned (.int .i64 (skip false s.data.toList : Nat)) ∧ w' = w := by
  go_enter Tryd.func25, Tryd.ntmps25
  go_wp2_with fail
  go_loop [3, 7] (fun c i => ∃ (k : Nat) (b : Bool), k ≤ s.size ∧ c = .bool b ∧ i = .int .i64 k ∧ skip false s.data.toList = k + skip b (s.data.toList.drop k)) (fun _ i => s.size - (intOf i).toNat)
  case atStart => exact ⟨0, false, by omega, rfl, rfl, by simp⟩
  case round =>
    obtain ⟨k, b, hk, rfl, rfl, hsk⟩ := hrel
    have HK := Lib.hid hsk
    clear hsk
    by_cases hlt : k < s.size
    · obtain ⟨x, hx⟩ : ∃ x, s[k] = x := ⟨_, rfl⟩
      have HD := Lib.hid (dropB s k hlt)
      rw [hx] at HD
      by_cases h10 : x.toNat = 10
      · have HN : Hid (skip false s.data.toList = ((k + 1 : Nat)) + skip false (s.data.toList.drop (k + 1))) := Lib.hid (by have := HK.out; rw [HD.out, skip_10 b h10] at this; omega)
        have t10 : ((x.toNat : Int) == 10) = true := by rw [beq_iff_eq]; omega
        clear h10
        go_wp2_with fail
        go_round
        case rel => exact ⟨k + 1, false, by omega, rfl, by go_num, HN.out⟩
        case measure => simp [intOf]; omega
      · have t10 : ((x.toNat : Int) == 10) = false := by rw [beq_eq_false_iff_ne]; omega
        by_cases h35 : x.toNat = 35
        · have HN : Hid (skip false s.data.toList = ((k + 1 : Nat)) + skip true (s.data.toList.drop (k + 1))) := Lib.hid (by have := HK.out; rw [HD.out, skip_35 b h35] at this; omega)
          have t35 : ((x.toNat : Int) == 35) = true := by rw [beq_iff_eq]; omega
          clear h10 h35
          go_wp2_with fail
          go_round
          case rel => exact ⟨k + 1, true, by omega, rfl, by go_num, HN.out⟩
          case measure => simp [intOf]; omega
        · have t35 : ((x.toNat : Int) == 35) = false := by rw [beq_eq_false_iff_ne]; omega
          by_cases h9 : x.toNat = 9
          · have HN : Hid (skip false s.data.toList = ((k + 1 : Nat)) + skip b (s.data.toList.drop (k + 1))) := Lib.hid (by have := HK.out; rw [HD.out, skip_b b (.inl h9)] at this; omega)
            have t9 : ((x.toNat : Int) == 9) = true := by rw [beq_iff_eq]; omega
            clear h10 h35 h9
            go_wp2_with fail
            go_round
            case rel => exact ⟨k + 1, b, by omega, rfl, by go_num, HN.out⟩
            case measure => simp [intOf]; omega
          · have t9 : ((x.toNat : Int) == 9) = false := by rw [beq_eq_false_iff_ne]; omega
            by_cases h32 : x.toNat = 32
            · have HN : Hid (skip false s.data.toList = ((k + 1 : Nat)) + skip b (s.data.toList.drop (k + 1))) := Lib.hid (by have := HK.out; rw [HD.out, skip_b b (.inr h32)] at this; omega)
              have t32 : ((x.toNat : Int) == 32) = true := by rw [beq_iff_eq]; omega
              clear h10 h35 h9 h32
              go_wp2_with fail
              go_round
              case rel => exact ⟨k + 1, b, by omega, rfl, by go_num, HN.out⟩
              case measure => simp [intOf]; omega
            · have t32 : ((x.toNat : Int) == 32) = false := by rw [beq_eq_false_iff_ne]; omega
              cases b
              · have HN : Hid (skip false s.data.toList = k) := Lib.hid (by have := HK.out; rw [HD.out, skip_f (by unfold blankB; simp; omega) h35] at this; omega)
                clear h10 h35 h9 h32
                go_wp2_with fail
                go_ret
                exact ⟨by rw [HN.out]; rfl, rfl⟩
              · have HN : Hid (skip false s.data.toList = ((k + 1 : Nat)) + skip true (s.data.toList.drop (k + 1))) := Lib.hid (by have := HK.out; rw [HD.out, skip_t h10] at this; omega)
                clear h10 h35 h9 h32
                go_wp2_with fail
                go_round
                case rel => exact ⟨k + 1, true, by omega, rfl, by go_num, HN.out⟩
                case measure => simp [intOf]; omega
    · have HN : Hid (skip false s.data.toList = s.size) := Lib.hid (by have := HK.out; rw [drop_end s k hlt] at this; cases b <;> simp [skip] at this <;> omega)
      go_wp2_with fail
      go_ret
      exact ⟨by rw [HN.out]; rfl, rfl⟩

set_option maxHeartbeats 2000000 in
theorem idle_any (s : ByteArray) (hs : s.size ≤ 9223372036854775807) (w : World) : Calls Tryd.prog 24 #[.string s] w fun e w' => e = .returned (.bool (decide (skip false s.data.toList = s.size))) ∧ w' = w := by
  go_enter Tryd.func24, Tryd.ntmps24
  go_wp2_with fail
  go_loop [3, 4] (fun c i => ∃ (k : Nat) (b : Bool), k ≤ s.size ∧ c = .bool b ∧ i = .int .i64 k ∧ skip false s.data.toList = k + skip b (s.data.toList.drop k)) (fun _ i => s.size - (intOf i).toNat)
  case atStart => exact ⟨0, false, by omega, rfl, rfl, by simp⟩
  case round =>
    obtain ⟨k, b, hk, rfl, rfl, hsk⟩ := hrel
    have HK := Lib.hid hsk
    clear hsk
    by_cases hlt : k < s.size
    · obtain ⟨x, hx⟩ : ∃ x, s[k] = x := ⟨_, rfl⟩
      have HD := Lib.hid (dropB s k hlt)
      rw [hx] at HD
      by_cases h35 : x.toNat = 35
      · have HN : Hid (skip false s.data.toList = ((k + 1 : Nat)) + skip true (s.data.toList.drop (k + 1))) := Lib.hid (by have := HK.out; rw [HD.out, skip_35 b h35] at this; omega)
        have t35 : ((x.toNat : Int) == 35) = true := by rw [beq_iff_eq]; omega
        clear h35
        go_wp2_with fail
        go_round
        case rel => exact ⟨k + 1, true, by omega, rfl, by go_num, HN.out⟩
        case measure => simp [intOf]; omega
      · have t35 : ((x.toNat : Int) == 35) = false := by rw [beq_eq_false_iff_ne]; omega
        have hbl := blank_any x
        by_cases h10 : x.toNat = 10
        · have HN : Hid (skip false s.data.toList = ((k + 1 : Nat)) + skip false (s.data.toList.drop (k + 1))) := Lib.hid (by have := HK.out; rw [HD.out, skip_10 b h10] at this; omega)
          have t10 : ((x.toNat : Int) == 10) = true := by rw [beq_iff_eq]; omega
          have t10' : ((x.toNat : Int) != 10) = false := by simp; omega
          rw [show blankB x = true by unfold blankB; simp; omega] at hbl
          have HB := Lib.hid hbl
          clear h10 h35 hbl
          cases b
          all_goals
            go_wp2_with fail
            refine (HB.out _).mono ?_
            rintro e w1 ⟨rfl, rfl⟩
            go_wp2_with fail
            go_round
            case rel => exact ⟨k + 1, false, by omega, rfl, by go_num, HN.out⟩
            case measure => simp [intOf]; omega
        · have t10 : ((x.toNat : Int) == 10) = false := by rw [beq_eq_false_iff_ne]; omega
          have t10' : ((x.toNat : Int) != 10) = true := by simp; omega
          cases b
          · rcases hb : blankB x with _ | _
            · rw [hb] at hbl
              have HB := Lib.hid hbl
              have HN : Hid (decide (skip false s.data.toList = s.size) = false) := Lib.hid (by have := HK.out; rw [HD.out, skip_f hb h35] at this; simp; omega)
              clear h10 h35 hb hbl
              go_wp2_with fail
              refine (HB.out _).mono ?_
              rintro e w1 ⟨rfl, rfl⟩
              go_wp2_with fail
              go_ret
              exact ⟨by rw [HN.out]; rfl, rfl⟩
            · rw [hb] at hbl
              have HB := Lib.hid hbl
              have HN : Hid (skip false s.data.toList = ((k + 1 : Nat)) + skip false (s.data.toList.drop (k + 1))) := Lib.hid (by have := HK.out; rw [HD.out, skip_b false (by unfold blankB at hb; simp at hb; omega)] at this; omega)
              clear h10 h35 hb hbl
              go_wp2_with fail
              refine (HB.out _).mono ?_
              rintro e w1 ⟨rfl, rfl⟩
              go_wp2_with fail
              go_round
              case rel => exact ⟨k + 1, false, by omega, rfl, by go_num, HN.out⟩
              case measure => simp [intOf]; omega
          · have HN : Hid (skip false s.data.toList = ((k + 1 : Nat)) + skip true (s.data.toList.drop (k + 1))) := Lib.hid (by have := HK.out; rw [HD.out, skip_t h10] at this; omega)
            clear h10 h35 hbl
            go_wp2_with fail
            go_round
            case rel => exact ⟨k + 1, true, by omega, rfl, by go_num, HN.out⟩
            case measure => simp [intOf]; omega
    · have HN : Hid (decide (skip false s.data.toList = s.size) = true) := Lib.hid (by have := HK.out; rw [drop_end s k hlt] at this; cases b <;> simp [skip] at this <;> simp <;> omega)
      go_wp2_with fail
      go_ret
      exact ⟨by rw [HN.out]; rfl, rfl⟩
end Go.Proofs.YtagkdhcclkbjgaaDoor.Le
