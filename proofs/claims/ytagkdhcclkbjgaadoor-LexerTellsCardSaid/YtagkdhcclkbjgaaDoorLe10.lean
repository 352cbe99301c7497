/- The contracts of the reference's text between quotes, and of both functions Quote. -/
import Derived.Test.YtagkdhcclkbjgaaDoorLe9
set_option maxRecDepth 100000
namespace Go.Proofs.YtagkdhcclkbjgaaDoor.Le
open Go.RowKit

theorem catB (a b : ByteArray) : (a ++ b).data.toList = a.data.toList ++ b.data.toList := by simp [ByteArray.data_append]
theorem catS (a b : ByteArray) : (a ++ b).size = a.size + b.size := ByteArray.size_append
theorem ext1 (s : ByteArray) (k : Nat) (h : k < s.size) : (s.extract k (k + 1)).data.toList = [s[k]] := by
  have : (s.extract k (k + 1)).data.toList = (s.data.toList.take (k + 1)).drop k := by simp [ByteArray.data_extract, List.extract_eq_take_drop, List.drop_take]
  rw [this, List.take_succ_eq_append_getElem (by rw [sizeB]; exact h), List.drop_append, List.drop_of_length_le (by rw [List.length_take]; omega), List.length_take, show k - min k s.data.toList.length = 0 by have := sizeB s; omega]
  rfl
theorem ext1S (s : ByteArray) (k : Nat) (h : k < s.size) : (s.extract k (k + 1)).size = 1 := by rw [← sizeB, ext1 s k h]; rfl
theorem ofList {a : ByteArray} {l : List UInt8} (h : a.data.toList = l) : a = ⟨l.toArray⟩ := by
  apply ByteArray.ext; rw [← h]
theorem add_run {a b : ByteArray} (h : a.size + b.size ≤ 9223372036854775807) : ∀ W : World, (Op.stringOp .add a b).run Tryd.prog W = .ok (.string (a ++ b)) W := fun W => run_string_add_sum W _ _ h

set_option maxHeartbeats 2000000 in
theorem escaped_any (s : ByteArray) (hs : s.size ≤ 1000000) (w : World) : Calls Tryd.prog 23 #[.string s] w fun e w' => e = .returned (.string ⟨(quo s.data.toList).toArray⟩) ∧ w' = w := by
  have hs0 : s.size ≤ 9223372036854775807 := by omega
  go_enter Tryd.func23, Tryd.ntmps23
  go_wp2_with fail
  go_loop [3, 4] (fun t i => ∃ (k : Nat) (B : ByteArray), k ≤ s.size ∧ i = .int .i64 k ∧ t = .string B ∧ B.data.toList = 34 :: esc (s.data.toList.take k)) (fun _ i => s.size - (intOf i).toNat)
  case atStart => exact ⟨0, _, by omega, rfl, rfl, rfl⟩
  case round =>
    obtain ⟨k, B, hk, rfl, rfl, hB⟩ := hrel
    have hBs : B.size ≤ 2000001 := by rw [← sizeB, hB]; have := esc_le (s.data.toList.take k); rw [List.length_take, sizeB] at this; simp; omega
    have HB := Lib.hid hB
    clear hB
    by_cases hlt : k < s.size
    · have HT := Lib.hid (esc_take s k hlt)
      have HX1 := Lib.hid (ext1 s k hlt)
      have hE := ext1S s k hlt
      obtain ⟨x, hx⟩ : ∃ x, s[k] = x := ⟨_, rfl⟩
      rw [hx] at HT HX1
      obtain ⟨E, hEE⟩ : ∃ E, s.extract k (k + 1) = E := ⟨_, rfl⟩
      have hrun : ∀ W : World, (Instr.slice 9 (.string s) (some (.int .i64 (k : Int))) (some (.int .i64 ((k : Int) + 1))) none).run Tryd.prog W = .ok (.string E) W := by
        intro W
        rw [run_slice_string W 9 _ .i64 .i64 _ _ Tryd.underlying9 (by omega) (by omega) (by omega), ← hEE]
        congr 2
      rw [hEE] at HX1 hE
      have HES := Lib.hid hE
      clear hE
      rcases h1 : escB x with _ | _
      · rw [h1] at HT
        have t1 : ((x.toNat : Int) == 34) = false := by unfold escB at h1; simp at h1 ⊢; omega
        have t2 : ((x.toNat : Int) == 92) = false := by unfold escB at h1; simp at h1 ⊢; omega
        have hcat := add_run (a := B) (b := E) (by have := HES.out; omega)
        have HN : Hid ((B ++ E).data.toList = 34 :: esc (s.data.toList.take (k + 1))) := Lib.hid (by rw [catB, HB.out, HX1.out, HT.out]; rfl)
        clear h1 hEE
        go_wp2_with fail
        go_round
        case rel => exact ⟨k + 1, _, by omega, by go_num, rfl, HN.out⟩
        case measure => simp [intOf]; omega
      · rw [h1] at HT
        have hcat0 := add_run (a := B) (b := ⟨#[92]⟩) (by show B.size + 1 ≤ _; omega)
        have hcat := add_run (a := B ++ ⟨#[92]⟩) (b := E) (by have := HES.out; rw [catS]; show B.size + 1 + _ ≤ _; omega)
        have HN : Hid ((B ++ ⟨#[92]⟩ ++ E).data.toList = 34 :: esc (s.data.toList.take (k + 1))) := Lib.hid (by rw [catB, catB, HB.out, HX1.out, HT.out]; simp)
        by_cases h34 : x.toNat = 34
        · have t1 : ((x.toNat : Int) == 34) = true := by simp; omega
          clear h1 hEE h34
          go_wp2_with fail
          go_round
          case rel => exact ⟨k + 1, _, by omega, by go_num, rfl, HN.out⟩
          case measure => simp [intOf]; omega
        · have t1 : ((x.toNat : Int) == 34) = false := by simp; omega
          have t2 : ((x.toNat : Int) == 92) = true := by unfold escB at h1; simp at h1 ⊢; omega
          clear h1 hEE h34
          go_wp2_with fail
          go_round
          case rel => exact ⟨k + 1, _, by omega, by go_num, rfl, HN.out⟩
          case measure => simp [intOf]; omega
    · have hcat := add_run (a := B) (b := ⟨#[34]⟩) (by show B.size + 1 ≤ _; omega)
      have HN : Hid (B ++ ⟨#[34]⟩ = ⟨(quo s.data.toList).toArray⟩) := Lib.hid (ofList (by
        rw [catB, HB.out, List.take_of_length_le (by rw [sizeB]; omega)]; rfl))
      go_wp2_with fail
      go_ret
      exact ⟨ret_str HN.out, rfl⟩

/-- What Quote returns. -/
def quoV (l : List UInt8) : Value := if valOk l then .tuple #[.string ⟨(quo l).toArray⟩, .bool true] else .tuple #[.string ⟨#[]⟩, .bool false]
theorem valOk_size {s : ByteArray} (h : valOk s.data.toList = true) : s.size ≤ 1000000 := by
  unfold valOk at h; rw [Bool.and_eq_true, decide_eq_true_eq, sizeB] at h; omega
theorem quote_any (s : ByteArray) (hs : s.size ≤ 9223372036854775807) (w : World) : Calls Tryd.prog 15 #[.string s] w fun e w' => e = .returned (quoV s.data.toList) ∧ RowKit.Below w.heap.size w w' := by
  have hv := isValue_any s hs
  rcases h : valOk s.data.toList with _ | _
  · rw [h] at hv
    have HV := Lib.hid hv
    have HQ : Hid (quoV s.data.toList = .tuple #[.string ⟨#[]⟩, .bool false]) := Lib.hid (by unfold quoV; rw [h]; rfl)
    clear h hv
    go_enter Tryd.func15, Tryd.ntmps15
    go_wp2_with fail
    refine (HV.out _).mono ?_
    rintro e w1 ⟨rfl, rfl⟩
    go_wp2_with fail
    go_ret2
    exact ⟨by rw [HQ.out]; rfl, Below.refl _ _⟩
  · rw [h] at hv
    have HV := Lib.hid hv
    have HQ : Hid (quoV s.data.toList = .tuple #[.string ⟨(quo s.data.toList).toArray⟩, .bool true]) := Lib.hid (by unfold quoV; rw [h]; rfl)
    have HS := Lib.hid (valOk_size h)
    clear h hv
    go_enter Tryd.func15, Tryd.ntmps15
    go_wp2_with fail
    refine (HV.out _).mono ?_
    rintro e w1 ⟨rfl, rfl⟩
    go_wp2_with fail
    refine (quoted_any s HS.out _).mono ?_
    rintro e w2 ⟨rfl, hb⟩
    go_wp2_with fail
    go_ret2
    exact ⟨by rw [HQ.out]; rfl, hb⟩
theorem rquote_any (s : ByteArray) (hs : s.size ≤ 9223372036854775807) (w : World) : Calls Tryd.prog 16 #[.string s] w fun e w' => e = .returned (quoV s.data.toList) ∧ w' = w := by
  have hv := value_any s hs
  rcases h : valOk s.data.toList with _ | _
  · rw [h] at hv
    have HV := Lib.hid hv
    have HQ : Hid (quoV s.data.toList = .tuple #[.string ⟨#[]⟩, .bool false]) := Lib.hid (by unfold quoV; rw [h]; rfl)
    clear h hv
    go_enter Tryd.func16, Tryd.ntmps16
    go_wp2_with fail
    refine (HV.out _).mono ?_
    rintro e w1 ⟨rfl, rfl⟩
    go_wp2_with fail
    go_ret2
    exact ⟨by rw [HQ.out]; rfl, rfl⟩
  · rw [h] at hv
    have HV := Lib.hid hv
    have HQ : Hid (quoV s.data.toList = .tuple #[.string ⟨(quo s.data.toList).toArray⟩, .bool true]) := Lib.hid (by unfold quoV; rw [h]; rfl)
    have HS := Lib.hid (valOk_size h)
    clear h hv
    go_enter Tryd.func16, Tryd.ntmps16
    go_wp2_with fail
    refine (HV.out _).mono ?_
    rintro e w1 ⟨rfl, rfl⟩
    go_wp2_with fail
    refine (escaped_any s HS.out _).mono ?_
    rintro e w2 ⟨rfl, rfl⟩
    go_wp2_with fail
    go_ret2
    exact ⟨by rw [HQ.out]; rfl, rfl⟩
end Go.Proofs.YtagkdhcclkbjgaaDoor.Le
