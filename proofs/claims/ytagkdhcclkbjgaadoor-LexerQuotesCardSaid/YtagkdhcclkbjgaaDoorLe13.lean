/- The contract of the reference's reader of a string between quotes. -/
import Derived.Test.YtagkdhcclkbjgaaDoorLe12
set_option maxRecDepth 100000
namespace Go.Proofs.YtagkdhcclkbjgaaDoor.Le
open Go.RowKit

def qBad : Value := .tuple #[.string ⟨#[]⟩, .int .i64 0, .bool false]
def qV (s : ByteArray) (a : Nat) : Value := match strL (s.data.toList.drop (a + 1)) with
  | none => qBad
  | some (v, z) => if valOk v then .tuple #[.string ⟨v.toArray⟩, .int .i64 ((a : Int) + 1 + (z : Int)), .bool true] else qBad
theorem ret_v {v v2 : Value} (h : v = v2) : Ending.returned v = .returned v2 := by rw [h]
theorem slice_run (s : ByteArray) (a b : Nat) (h1 : a ≤ b) (h2 : b ≤ s.size) (c d : Int) (hc : c = (a : Int)) (hd : d = (b : Int)) (W : World) : (Instr.slice 9 (.string s) (some (.int .i64 c)) (some (.int .i64 d)) none).run Tryd.prog W = .ok (.string (s.extract a b)) W := by
  subst hc hd
  rw [run_slice_string W 9 _ .i64 .i64 _ _ Tryd.underlying9 (by omega) (by omega) (by omega)]
  congr 2

set_option maxHeartbeats 4000000 in
theorem rquoted_any (s : ByteArray) (hs : s.size ≤ 1000000) (a : Nat) (ha : a < s.size) (w : World) : Calls Tryd.prog 47 #[.string s, .int .i64 (a : Int)] w fun e w' => e = .returned (qV s a) ∧ w' = w := by
  have hs0 : s.size ≤ 9223372036854775807 := by omega
  have HS0 := Lib.hid (StrAt.start s (a + 1) (by omega))
  go_enter Tryd.func47, Tryd.ntmps47
  go_wp2_with fail
  go_loop [7, 8] (fun t i => ∃ (p : Nat) (B : ByteArray), i = .int .i64 p ∧ t = .string B ∧ StrAt s (a + 1) p B.data.toList) (fun _ i => s.size - (intOf i).toNat)
  case atStart => exact ⟨a + 1, _, by go_num, rfl, HS0.out⟩
  case round =>
    clear HS0
    obtain ⟨p, B, rfl, rfl, hst⟩ := hrel
    have hp := hst.2.1
    have hv := hst.2.2.1
    rw [sizeB] at hv
    have hap := hst.1
    have HST := Lib.hid hst
    clear hst
    by_cases hlt : p < s.size
    · obtain ⟨x, hx⟩ : ∃ x, s[p] = x := ⟨_, rfl⟩
      by_cases h34 : x.toNat = 34
      · have t34 : ((x.toNat : Int) != 34) = false := by simp; omega
        have t34' : ((x.toNat : Int) == 34) = true := by simp; omega
        have hcl := HST.out.close hlt (by rw [hx]; exact h34)
        have hnl : ¬ s.size ≤ p := by omega
        have hval := value_any B (by omega)
        rcases hvo : valOk B.data.toList with _ | _
        · rw [hvo] at hval
          have HVAL := Lib.hid hval
          have HV : Hid (qBad = qV s a) := Lib.hid (by unfold qV; rw [hcl]; simp only; rw [if_neg (by rw [hvo]; simp)])
          clear hcl hval hvo h34
          go_wp2_with fail
          refine (HVAL.out _).mono ?_
          rintro e w3 ⟨rfl, rfl⟩
          go_wp2_with fail
          go_ret3
          exact ⟨ret_v HV.out, rfl⟩
        · rw [hvo] at hval
          have HVAL := Lib.hid hval
          have HV : Hid (.tuple #[.string B, .int .i64 ((p : Int) + 1), .bool true] = qV s a) := Lib.hid (by
            unfold qV; rw [hcl]; simp only; rw [if_pos hvo, eqB]
            congr 5; omega)
          clear hcl hval hvo h34
          go_wp2_with fail
          refine (HVAL.out _).mono ?_
          rintro e w3 ⟨rfl, rfl⟩
          go_wp2_with fail
          go_ret3
          exact ⟨ret_v HV.out, rfl⟩
      · have t34 : ((x.toNat : Int) != 34) = true := by simp; omega
        have t34' : ((x.toNat : Int) == 34) = false := by simp; omega
        by_cases h92 : x.toNat = 92
        · have t92 : ((x.toNat : Int) == 92) = true := by simp; omega
          by_cases hlt2 : p + 1 < s.size
          · have hex := ext1 s (p + 1) hlt2
            have hexs := ext1S s (p + 1) hlt2
            obtain ⟨y, hy⟩ : ∃ y, s[p + 1] = y := ⟨_, rfl⟩
            rw [hy] at hex
            have hne : ¬ s.size ≤ p + 1 := by omega
            rcases he : escB y with _ | _
            · have u1 : ((y.toNat : Int) != 34) = true := by unfold escB at he; simp at he ⊢; omega
              have u2 : ((y.toNat : Int) != 92) = true := by unfold escB at he; simp at he ⊢; omega
              have u3 : ((y.toNat : Int) == 34) = false := by unfold escB at he; simp at he ⊢; omega
              have u4 : ((y.toNat : Int) == 92) = false := by unfold escB at he; simp at he ⊢; omega
              have hn := HST.out.bad2 hlt (by rw [hx]; exact h92) hlt2 (by rw [hy]; exact he)
              have HV : Hid (qBad = qV s a) := Lib.hid (by unfold qV; rw [hn])
              clear hn he h92 h34 hex hexs
              go_wp2_with fail
              go_ret3
              exact ⟨ret_v HV.out, rfl⟩
            · have hn := HST.out.esc hlt (by rw [hx]; exact h92) hlt2 (by rw [hy]; exact he)
              rw [hy, ← hex, ← catB] at hn
              obtain ⟨E, hE⟩ : ∃ E, s.extract (p + 1) (p + 2) = E := ⟨_, rfl⟩
              have hrun := slice_run s (p + 1) (p + 2) (by omega) (by omega) ((p : Int) + 1) ((p : Int) + 1 + 1) (by omega) (by omega)
              have hrun2 := slice_run s (p + 1) (p + 2) (by omega) (by omega) ((p : Int) + 1) ((p : Int) + 2) (by omega) (by omega)
              rw [show p + 1 + 1 = p + 2 from rfl, hE] at hn hexs
              rw [hE] at hrun hrun2
              have hcat := add_run (a := B) (b := E) (by omega)
              have HN := Lib.hid hn
              have hsplit : ((y.toNat : Int) == 34) = true ∧ ((y.toNat : Int) != 34) = false ∨ ((y.toNat : Int) == 34) = false ∧ ((y.toNat : Int) != 34) = true ∧ ((y.toNat : Int) == 92) = true ∧ ((y.toNat : Int) != 92) = false := by
                rcases escB_34 he with h | h
                · left; simp; omega
                · right; simp; omega
              have HSP := Lib.hid hsplit
              clear hn he h92 h34 hex hexs hE hsplit
              rcases HSP.out with ⟨u1, u2⟩ | ⟨u1, u2, u3, u4⟩
              all_goals
                go_wp2_with fail
                go_round
                case rel => exact ⟨p + 2, _, by go_num, rfl, HN.out⟩
                case measure => simp [intOf]; omega
          · have hn := HST.out.bad1 hlt (by rw [hx]; exact h92) hlt2
            have heq : s.size ≤ p + 1 := by omega
            have HV : Hid (qBad = qV s a) := Lib.hid (by unfold qV; rw [hn])
            clear hn h92 h34
            go_wp2_with fail
            go_ret3
            exact ⟨ret_v HV.out, rfl⟩
        · have t92 : ((x.toNat : Int) == 92) = false := by simp; omega
          have hn := HST.out.plain hlt (by rw [hx]; exact h34) (by rw [hx]; exact h92)
          have hex := ext1 s p hlt
          have hexs := ext1S s p hlt
          rw [← hex, ← catB] at hn
          obtain ⟨E, hE⟩ : ∃ E, s.extract p (p + 1) = E := ⟨_, rfl⟩
          have hrun := slice_run s p (p + 1) (by omega) (by omega) (p : Int) ((p : Int) + 1) (by omega) (by omega)
          rw [hE] at hn hexs
          rw [hE] at hrun
          have hcat := add_run (a := B) (b := E) (by omega)
          have HN := Lib.hid hn
          clear hn h92 h34 hex hexs hE
          go_wp2_with fail
          go_round
          case rel => exact ⟨p + 1, _, by go_num, rfl, HN.out⟩
          case measure => simp [intOf]; omega
    · have hn := HST.out.open_ hlt
      have hpe : s.size ≤ p := by omega
      have HV : Hid (qBad = qV s a) := Lib.hid (by unfold qV; rw [hn])
      clear hn
      go_wp2_with fail
      go_ret3
      exact ⟨ret_v HV.out, rfl⟩
end Go.Proofs.YtagkdhcclkbjgaaDoor.Le
