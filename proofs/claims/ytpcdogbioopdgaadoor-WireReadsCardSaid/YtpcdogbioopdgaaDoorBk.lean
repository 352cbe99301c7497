/- The contract of the reference's Back. -/
import Derived.Test.YtpcdogbioopdgaaDoorD2
import Derived.Test.YtpcdogbioopdgaaDoorU
namespace Go.Proofs.YtpcdogbioopdgaaDoor
open Go.RowKit Go.Sort

theorem ret_no {v : Value} {a : Bool} (h : a = false) : Ending.returned (.tuple #[v, .bool a]) = .returned (.tuple #[v, .bool false]) := by rw [h]
theorem ret2 {a u : Int} {b : Bool} (h : a = u) (h2 : b = true) : Ending.returned (.tuple #[.int .i64 a, .bool b]) = .returned (.tuple #[.int .i64 u, .bool true]) := by rw [h, h2]
theorem str_eq (ds : List UInt8) : (ds ++ [59] == (({ data := ds.toArray } : ByteArray) ++ { data := #[59] }).toList) = true := by
  rw [beq_iff_eq, ByteArray.toList_eq, ba_app]
def BackNo (w : World) (e : Ending) (w' : World) : Prop := ∃ v, e = .returned (.tuple #[v, .bool false]) ∧ RowKit.Below w.heap.size w w'

set_option maxRecDepth 100000 in
set_option maxHeartbeats 4000000 in
theorem back_pos (n : Int) (h0 : 0 ≤ n) (h1 : n ≤ 9223372036854775807) (w : World) :
    Calls Tryd.prog 64 #[.string ⟨(Lib.itoa n).toArray⟩] w (Gives (.tuple #[.int .i64 n, .bool true]) w) := by
  obtain ⟨u, rfl⟩ : ∃ u : Nat, n = u := ⟨n.toNat, by omega⟩
  rw [Lib.itoa_nonneg]
  obtain ⟨ds, hds⟩ : ∃ ds, ds = Lib.decDigits u := ⟨_, rfl⟩
  have hr : ∀ c ∈ ds, 48 ≤ c.toNat ∧ c.toNat ≤ 57 := by rw [hds]; exact decDigits_range u
  have hne : ds ≠ [] := by rw [hds]; exact decDigits_ne u
  have hl20 : ds.length ≤ 20 := by
    have := itoa_len20 (u : Int) (by omega) h1
    rw [Lib.itoa_nonneg, ← hds] at this; exact this
  have hn10 : nat10 0 ds = u := by rw [hds]; exact nat10_dec u
  rw [← hds]
  have HR := Lib.hid hr
  have HN := Lib.hid hn10
  have HD : Hid (Lib.itoa (u : Int) = ds) := by unfold Hid; rw [Lib.itoa_nonneg, hds]
  have hpos : 0 < ds.length := List.length_pos_iff.2 hne
  have hfirst : ((((⟨ds.toArray⟩ : ByteArray)[0]'hpos).toNat : Int) == 45) = false := by
    have := hr _ (List.getElem_mem hpos)
    rw [beq_eq_false_iff_ne]
    show ((ds[0].toNat : Nat) : Int) ≠ 45
    omega
  clear hr hn10 hds hne
  go_enter Tryd.func64, Tryd.ntmps64
  go_wp2_with fail
  go_loop [5, 6] (fun m i => ∃ k : Nat, k ≤ ds.length ∧ i = .int .i64 k ∧ m = .int .i64 (-(nat10 0 (ds.take k) : Nat) : Int)) (fun _ i => ds.length - (RowKit.intOf i).toNat)
  case atStart => exact ⟨0, by omega, rfl, rfl⟩
  case round =>
    obtain ⟨k, hk, rfl, rfl⟩ := hrel
    obtain ⟨a, ha⟩ : ∃ a, a = nat10 0 (ds.take k) := ⟨_, rfl⟩
    rw [← ha]
    have HA := Lib.hid ha
    clear ha
    by_cases hlt : k < ds.length
    · have hstep := nat10_step ds k hlt
      have hle := nat10_take ds (k + 1)
      rw [HN.out] at hle
      rw [← HA.out] at hstep
      have hc := HR.out _ (List.getElem_mem hlt)
      obtain ⟨c, hcc⟩ : ∃ c, c = ds[k] := ⟨_, rfl⟩
      have hb : ((⟨ds.toArray⟩ : ByteArray)[k]'hlt) = c := hcc.symm
      rw [← hcc] at hc hstep
      rw [hstep] at hle
      have HS := Lib.hid hstep
      clear hstep hcc
      go_wp2_with fail
      go_round
      case rel => exact ⟨k + 1, by omega, by go_num, by rw [HS.out]; congr 1; omega⟩
      case measure => simp [RowKit.intOf]; omega
    · have hau : a = u := by rw [HA.out, List.take_of_length_le (by omega)]; exact HN.out
      have HAU := Lib.hid hau
      have ha2 : a ≤ 9223372036854775807 := by omega
      clear hau
      go_wp2_with fail
      refine (refInt (a : Int) (by omega) (by omega) _).mono ?_
      rintro e w1 ⟨rfl, b1⟩
      have heq : encInt (a : Int) = ds ++ [59] := by rw [encInt, HAU.out, HD.out]
      have HEQ := Lib.hid heq
      clear heq
      go_wp2_with fail
      go_ret2
      exact ⟨ret2 (by rw [HAU.out]) (by rw [HEQ.out]; exact str_eq ds), b1⟩

set_option maxRecDepth 100000 in
set_option maxHeartbeats 4000000 in
theorem back_neg (n : Int) (h0 : n < 0) (h1 : -9223372036854775808 ≤ n) (w : World) :
    Calls Tryd.prog 64 #[.string ⟨(Lib.itoa n).toArray⟩] w (Gives (.tuple #[.int .i64 n, .bool true]) w) := by
  obtain ⟨u, hu, rfl⟩ : ∃ u : Nat, 1 ≤ u ∧ n = -(u : Int) := ⟨n.natAbs, by omega, by omega⟩
  have hl20 := itoa_len20 (-(u : Int)) (by omega) (by omega)
  have HD0 := Lib.hid (rfl : Lib.itoa (-(u : Int)) = Lib.itoa (-(u : Int)))
  have hit : Lib.itoa (-(u : Int)) = 45 :: Lib.decDigits u := Lib.itoa_neg u hu
  obtain ⟨ds, hds⟩ : ∃ ds, ds = Lib.decDigits u := ⟨_, rfl⟩
  have hr : ∀ c ∈ ds, 48 ≤ c.toNat ∧ c.toNat ≤ 57 := by rw [hds]; exact decDigits_range u
  have hn10 : nat10 0 ds = u := by rw [hds]; exact nat10_dec u
  rw [← hds] at hit
  rw [hit] at hl20
  have HD : Hid (Lib.itoa (-(u : Int)) = 45 :: ds) := hit
  rw [hit]
  have HR := Lib.hid hr
  have HN := Lib.hid hn10
  have hls : ds.length + 1 ≤ 20 := by simpa using hl20
  have hpos : 0 < (45 :: ds).length := by simp
  have hfirst : ((((⟨(45 :: ds).toArray⟩ : ByteArray)[0]'hpos).toNat : Int) == 45) = true := rfl
  clear hr hn10 hds hit HD0 hl20
  go_enter Tryd.func64, Tryd.ntmps64
  go_wp2_with fail
  go_loop [5, 6] (fun m i => ∃ k : Nat, k ≤ ds.length ∧ i = .int .i64 ((k + 1 : Nat) : Int) ∧ m = .int .i64 (-(nat10 0 (ds.take k) : Nat) : Int)) (fun _ i => ds.length + 1 - (RowKit.intOf i).toNat)
  case atStart => exact ⟨0, by omega, rfl, rfl⟩
  case round =>
    obtain ⟨k, hk, rfl, rfl⟩ := hrel
    obtain ⟨a, ha⟩ : ∃ a, a = nat10 0 (ds.take k) := ⟨_, rfl⟩
    rw [← ha]
    have HA := Lib.hid ha
    clear ha
    by_cases hlt : k < ds.length
    · have hstep := nat10_step ds k hlt
      have hle := nat10_take ds (k + 1)
      rw [HN.out] at hle
      rw [← HA.out] at hstep
      have hc := HR.out _ (List.getElem_mem hlt)
      obtain ⟨c, hcc⟩ : ∃ c, c = ds[k] := ⟨_, rfl⟩
      have hlt2 : k + 1 < (45 :: ds).length := by simp; omega
      have hb : ((⟨(45 :: ds).toArray⟩ : ByteArray)[k + 1]'hlt2) = c := hcc.symm
      rw [← hcc] at hc hstep
      rw [hstep] at hle
      have HS := Lib.hid hstep
      clear hstep hcc
      go_wp2_with fail
      go_round
      case rel => exact ⟨k + 1, by omega, by go_num, by rw [HS.out]; congr 1; omega⟩
      case measure => simp [RowKit.intOf]; omega
    · have hau : a = u := by rw [HA.out, List.take_of_length_le (by omega)]; exact HN.out
      have HAU := Lib.hid hau
      have ha2 : a ≤ 9223372036854775808 := by omega
      clear hau
      go_wp2_with fail
      refine (refInt (-(a : Int)) (by omega) (by omega) _).mono ?_
      rintro e w1 ⟨rfl, b1⟩
      have heq : encInt (-(a : Int)) = (45 :: ds) ++ [59] := by rw [encInt, HAU.out, HD.out]
      have HEQ := Lib.hid heq
      clear heq
      go_wp2_with fail
      go_ret2
      exact ⟨ret2 (by rw [HAU.out]) (by rw [HEQ.out]; exact str_eq _), b1⟩

theorem back_yes (n : Int) (h0 : -9223372036854775808 ≤ n) (h1 : n ≤ 9223372036854775807) (w : World) :
    Calls Tryd.prog 64 #[.string ⟨(Lib.itoa n).toArray⟩] w (Gives (.tuple #[.int .i64 n, .bool true]) w) := by
  by_cases h : n < 0
  · exact back_neg n h h0 w
  · exact back_pos n (by omega) h1 w

theorem str_ne (m : Int) (s : List UInt8) (h : Lib.itoa m ≠ s) : (encInt m == (({ data := s.toArray } : ByteArray) ++ { data := #[59] }).toList) = false := by
  rw [beq_eq_false_iff_ne, ByteArray.toList_eq, ba_app]
  intro e
  apply h
  have e2 : Lib.itoa m ++ [59] = s ++ [59] := by simpa [encInt] using e
  exact List.append_cancel_right e2
theorem wf64b {n : Int} (h : (Lit.int .i64 n).wf = true) : -9223372036854775808 ≤ n ∧ n ≤ 9223372036854775807 := by
  simp [Lit.wf] at h; exact ⟨h.1, h.2⟩
def BN (s : List UInt8) (m i : Value) : Prop := ∃ (k : Nat) (v : Int), k ≤ s.length ∧ i = .int .i64 k ∧ m = .int .i64 v ∧ -9223372036854775808 ≤ v ∧ v ≤ 9223372036854775807
set_option maxRecDepth 100000 in
set_option maxHeartbeats 4000000 in
theorem back_no (s : List UInt8) (hs : s.length ≤ 100) (hno : ∀ n : Int, -9223372036854775808 ≤ n → n ≤ 9223372036854775807 → Lib.itoa n ≠ s) (w : World) :
    Calls Tryd.prog 64 #[.string ⟨s.toArray⟩] w (BackNo w) := by
  have HNO := Lib.hid hno
  clear hno
  go_enter Tryd.func64, Tryd.ntmps64
  go_wp2_with fail
  all_goals
    go_loop [2, 3, 5, 6] (fun _ _ m i => BN s m i) (fun _ _ _ i => s.length - (RowKit.intOf i).toNat)
    case atStart => first | exact ⟨1, 0, by omega, rfl, rfl, by omega, by omega⟩ | exact ⟨0, 0, by omega, rfl, rfl, by omega, by omega⟩
    case round =>
      obtain ⟨k, v, hk, rfl, rfl, hv0, hv1⟩ := hrel
      by_cases hlt : k < s.length
      · go_wp2_with fail
        all_goals first
        | (go_ret2; exact ⟨_, rfl, Below.refl _ _⟩)
        | exact ⟨⟨_, _, _, _, ⟨k + 1, _, by omega, by go_num, rfl, (wf64b (RowKit.wrap64_wf _)).1, (wf64b (RowKit.wrap64_wf _)).2⟩, rfl, rfl, rfl, rfl⟩, by simp [RowKit.intOf]; omega⟩
      · go_wp2_with fail
        first
        | (have hwb := wf64b (RowKit.wrap64_wf (-v))
           (with_reducible refine (refInt (wrap64 (-v)) hwb.1 hwb.2 _).mono ?_)
           rintro e w1 ⟨rfl, b1⟩
           have hne := str_ne (wrap64 (-v)) s (HNO.out _ hwb.1 hwb.2)
           go_wp2_with fail
           go_ret2
           exact ⟨_, rfl, b1⟩)
        | ((with_reducible refine (refInt v hv0 hv1 _).mono ?_)
           rintro e w1 ⟨rfl, b1⟩
           have hne := str_ne v s (HNO.out v hv0 hv1)
           go_wp2_with fail
           go_ret2
           exact ⟨_, rfl, b1⟩)
end Go.Proofs.YtpcdogbioopdgaaDoor
