/- The contracts of Name, isValue and their counterparts of the reference. -/
import Derived.Test.YtagkdhcclkbjgaaDoorLe6
set_option maxRecDepth 100000
namespace Go.Proofs.YtagkdhcclkbjgaaDoor.Le
open Go.RowKit

theorem nil_of_size {s : ByteArray} (h : s.size = 0) : s.data.toList = [] := List.eq_nil_of_length_eq_zero (by rw [sizeB]; exact h)
theorem nameOk_eq (s : ByteArray) (h : 0 < s.size) : nameOk s.data.toList = (letB s[0] && ((s.data.toList.drop 1).all nameB && decide ((s.data.toList.drop 1).length ≤ 19))) := by
  have e := dropB s 0 h
  rw [List.drop_zero] at e
  conv => lhs; rw [e]
  simp [nameOk]
theorem letB_name {c : UInt8} (h : letB c = true) : nameB c = true := by simp [nameB, h]
theorem all_eq (s : ByteArray) (h : 0 < s.size) (hl : letB s[0] = true) : s.data.toList.all nameB = (s.data.toList.drop 1).all nameB := by
  have e := dropB s 0 h
  rw [List.drop_zero] at e
  conv => lhs; rw [e]
  rw [List.all_cons, letB_name hl]; rfl
theorem eq_tw {p : UInt8 → Bool} (s : ByteArray) : ((⟨(s.data.toList.takeWhile p).toArray⟩ : ByteArray).toList == s.toList) = s.data.toList.all p := by
  rw [ByteArray.toList_eq, ByteArray.toList_eq]
  rcases h : s.data.toList.all p with _ | _
  · rw [beq_eq_false_iff_ne]
    intro e
    have e2 : s.data.toList.takeWhile p = s.data.toList := by simpa using e
    rw [← e2, tw_all] at h; cases h
  · rw [tw_whole _ h]; simp

set_option maxHeartbeats 1000000 in
theorem name_any (s : ByteArray) (hs : s.size ≤ 9223372036854775807) (w : World) : Calls Tryd.prog 18 #[.string s] w fun e w' => e = .returned (.bool (nameOk s.data.toList)) ∧ w' = w := by
  by_cases h0 : s.size = 0
  · have h1 := nil_of_size h0
    have hb : nameOk s.data.toList = false := by rw [h1]; rfl
    have h2 : s.toList = [] := by rw [ByteArray.toList_eq]; exact h1
    have h3 : (!s.toList.isEmpty) = false := by rw [h2]; rfl
    rw [hb]
    clear h1 hb h0
    go_enter Tryd.func18, Tryd.ntmps18
    go_wp2_with fail
    go_ret
    exact ⟨rfl, rfl⟩
  · have hpos : 0 < s.size := by omega
    have h2 : ¬ s.toList = [] := by
      rw [ByteArray.toList_eq]; intro e; have := sizeB s; rw [e] at this; simp at this; omega
    have h3 : (!s.toList.isEmpty) = true := by simpa using h2
    have heq := nameOk_eq s hpos
    by_cases h20 : s.size ≤ 20
    · have hlt := isLetter_any s[0]
      rcases hl : letB s[0] with _ | _
      · rw [hl] at hlt heq
        have HL := Lib.hid hlt
        have HE := Lib.hid heq
        have h20' : decide ((s.size : Int) ≤ 20) = true := by simp; omega
        clear hlt heq h0 hl
        go_enter Tryd.func18, Tryd.ntmps18
        go_wp2_with fail
        refine (HL.out _).mono ?_
        rintro e w1 ⟨rfl, rfl⟩
        go_wp2_with fail
        go_ret
        exact ⟨by rw [HE.out]; rfl, rfl⟩
      · rw [hl] at hlt heq
        have HL := Lib.hid hlt
        have HP := Lib.hid (prefix_name s hs)
        have hall := all_eq s hpos hl
        have htw := eq_tw (p := nameB) s
        have HE : Hid (nameOk s.data.toList = s.data.toList.all nameB) := Lib.hid (by
          rw [heq, hall]
          have : decide ((s.data.toList.drop 1).length ≤ 19) = true := by rw [List.length_drop, sizeB]; simp; omega
          rw [this]; simp)
        obtain ⟨t, ht⟩ : ∃ t : ByteArray, (⟨(s.data.toList.takeWhile nameB).toArray⟩ : ByteArray) = t := ⟨_, rfl⟩
        rw [ht] at htw HP
        have h20' : decide ((s.size : Int) ≤ 20) = true := by simp; omega
        clear hlt heq h0 hl hall ht
        rcases hb : s.data.toList.all nameB with _ | _
        all_goals
          rw [hb] at htw HE
          clear hb
          go_enter Tryd.func18, Tryd.ntmps18
          go_wp2_with fail
          refine (HL.out _).mono ?_
          rintro e w1 ⟨rfl, rfl⟩
          go_wp2_with fail
          refine (HP.out _).mono ?_
          rintro e w1 ⟨rfl, rfl⟩
          go_wp2_with fail
          go_ret
          exact ⟨by rw [HE.out]; rfl, rfl⟩
    · have hb : nameOk s.data.toList = false := by
        rw [heq]
        have : decide ((s.data.toList.drop 1).length ≤ 19) = false := by rw [List.length_drop, sizeB]; simp; omega
        rw [this]; simp
      rw [hb]
      have h20' : decide ((s.size : Int) ≤ 20) = false := by simp; omega
      clear hb heq h0
      go_enter Tryd.func18, Tryd.ntmps18
      go_wp2_with fail
      go_ret
      exact ⟨rfl, rfl⟩

set_option maxHeartbeats 1000000 in
theorem isValue_any (s : ByteArray) (hs : s.size ≤ 9223372036854775807) (w : World) : Calls Tryd.prog 32 #[.string s] w fun e w' => e = .returned (.bool (valOk s.data.toList)) ∧ w' = w := by
  by_cases h4 : s.size ≤ 400
  · have h4' : decide ((s.size : Int) ≤ 400) = true := by simp; omega
    have HP := Lib.hid (prefix_plain s hs)
    have htw := eq_tw (p := plainB) s
    have HE : Hid (valOk s.data.toList = s.data.toList.all plainB) := Lib.hid (by unfold valOk; rw [sizeB]; simp [h4])
    obtain ⟨t, ht⟩ : ∃ t : ByteArray, (⟨(s.data.toList.takeWhile plainB).toArray⟩ : ByteArray) = t := ⟨_, rfl⟩
    rw [ht] at htw HP
    clear ht h4
    rcases hb : s.data.toList.all plainB with _ | _
    all_goals
      rw [hb] at htw HE
      clear hb
      go_enter Tryd.func32, Tryd.ntmps32
      go_wp2_with fail
      refine (HP.out _).mono ?_
      rintro e w1 ⟨rfl, rfl⟩
      go_wp2_with fail
      go_ret
      exact ⟨by rw [HE.out]; rfl, rfl⟩
  · have h4' : decide ((s.size : Int) ≤ 400) = false := by simp; omega
    have hb : valOk s.data.toList = false := by unfold valOk; rw [sizeB]; simp [h4]
    rw [hb]
    clear hb h4
    go_enter Tryd.func32, Tryd.ntmps32
    go_wp2_with fail
    go_ret
    exact ⟨rfl, rfl⟩

theorem not_all {p : UInt8 → Bool} (l : List UInt8) (k : Nat) (h : k < l.length) (hk : p l[k] = false) : l.all p = false := by
  rw [Bool.eq_false_iff]; intro ha
  rw [List.all_eq_true.1 ha _ (List.getElem_mem h)] at hk; cases hk

set_option maxHeartbeats 1000000 in
theorem value_any (s : ByteArray) (hs : s.size ≤ 9223372036854775807) (w : World) : Calls Tryd.prog 34 #[.string s] w fun e w' => e = .returned (.bool (valOk s.data.toList)) ∧ w' = w := by
  go_enter Tryd.func34, Tryd.ntmps34
  go_wp2_with fail
  go_loop [3] (fun i => ∃ k : Nat, k ≤ s.size ∧ i = .int .i64 k ∧ (s.data.toList.take k).all plainB = true) (fun i => s.size - (intOf i).toNat)
  case atStart => exact ⟨0, by omega, rfl, rfl⟩
  case round =>
    obtain ⟨k, hk, rfl, hall⟩ := hrel
    have HA := Lib.hid hall
    clear hall
    by_cases hlt : k < s.size
    · obtain ⟨x, hx⟩ : ∃ x, s[k] = x := ⟨_, rfl⟩
      have HX := Lib.hid hx
      obtain ⟨R, hR⟩ : ∃ R : Int, (x.toNat : Int) = R := ⟨_, rfl⟩
      have hpb : plainB x = (decide (32 ≤ R) && decide (R ≤ 126)) := by
        unfold plainB; rw [Bool.eq_iff_iff]; simp; omega
      have HP := Lib.hid hpb
      clear hpb
      by_cases h1 : 32 ≤ R <;> by_cases h2 : R ≤ 126
      · have h1' : decide (R < 32) = false := by simp; omega
        have h2' : decide (126 < R) = false := by simp; omega
        have HT : Hid (plainB x = true) := Lib.hid (by rw [HP.out]; simp [h1, h2])
        go_wp2_with fail
        go_round
        case rel => exact ⟨k + 1, by omega, by go_num, all_snoc _ k (by rw [sizeB]; exact hlt) HA.out (by rw [getB s k hlt, HX.out]; exact HT.out)⟩
        case measure => simp [intOf]; omega
      all_goals
        have HT : Hid (valOk s.data.toList = false) := Lib.hid (by
          unfold valOk
          rw [not_all _ k (by rw [sizeB]; exact hlt) (by rw [getB s k hlt, HX.out, HP.out]; simp [h1, h2])]; simp)
        have h1' : decide (R < 32) = !(decide (32 ≤ R)) := by rw [Bool.eq_iff_iff]; simp
        have h2' : decide (126 < R) = !(decide (R ≤ 126)) := by rw [Bool.eq_iff_iff]; simp
        simp only [h1, h2, decide_true, decide_false, Bool.not_true, Bool.not_false] at h1' h2'
        go_wp2_with fail
        go_ret
        exact ⟨by rw [HT.out]; rfl, rfl⟩
    · have hall : s.data.toList.all plainB = true := by have := HA.out; rwa [List.take_of_length_le (by rw [sizeB]; omega)] at this
      by_cases h4 : s.size ≤ 400
      · have h4' : decide ((s.size : Int) ≤ 400) = true := by simp; omega
        have HT : Hid (valOk s.data.toList = true) := Lib.hid (by unfold valOk; rw [hall, sizeB]; simp [h4])
        clear hall
        go_wp2_with fail
        go_ret
        exact ⟨by rw [HT.out]; rfl, rfl⟩
      · have h4' : decide ((s.size : Int) ≤ 400) = false := by simp; omega
        have HT : Hid (valOk s.data.toList = false) := Lib.hid (by unfold valOk; rw [hall, sizeB]; simp [h4])
        clear hall
        go_wp2_with fail
        go_ret
        exact ⟨by rw [HT.out]; rfl, rfl⟩
end Go.Proofs.YtagkdhcclkbjgaaDoor.Le
