/- The contracts of Same and Like, where they return true. -/
import Derived.Deep.QuietTactic
import Derived.BigQuiet
import Derived.Deep.RegionWith
import Derived.Laws.StructEq
import Derived.Test.YtagkdhcclkbjgaaDoorLe17
set_option maxRecDepth 100000
namespace Go.Proofs.YtagkdhcclkbjgaaDoor.Le
open Go.RowKit

def Drew (v : Value) (w : World) (e : Ending) (w' : World) : Prop := e = .returned v ∧ ∃ n, w' = w.drewN n

set_option maxHeartbeats 4000000 in
theorem same_any (a b : Option Addr) (ca cb : Nat) (L : List Tk) (hL : L.length ≤ 4000) (w : World) (hA : TCells w a L) (hB : TCells w b L) : Calls Tryd.prog 17 #[.slice a L.length ca, .slice b L.length cb] w (Drew (.bool true) w) := by
  have HA := Lib.hid hA
  have HB := Lib.hid hB
  obtain ⟨N, hN⟩ : ∃ N, L.length = N := ⟨_, rfl⟩
  have HN := Lib.hid hN
  rw [hN] at hL ⊢
  clear hA hB hN
  go_enter Tryd.func17, Tryd.ntmps17
  go_wp2_with fail
  go_loopw [5] (fun i wr => ∃ k m : Nat, k ≤ N ∧ i = .int .i64 k ∧ wr = w.drewN m) (fun i _ => N - (intOf i).toNat)
  case atStart => exact ⟨0, 0, by omega, rfl, rfl⟩
  case round =>
    obtain ⟨k, m, hk, rfl, rfl⟩ := hrel
    by_cases hlt : k < N
    · have hkL : k < L.length := by rw [HN.out]; exact hlt
      obtain ⟨b1, o1, rfl, c0, c1, c2, c3⟩ := HA.out.at k hkL
      obtain ⟨b2, o2, rfl, d0, d1, d2, d3⟩ := HB.out.at k hkL
      obtain ⟨x, hx⟩ : ∃ x, L[k]'hkL = x := ⟨_, rfl⟩
      rw [hx] at c0 c1 c2 c3 d0 d1 d2 d3
      obtain ⟨xk, xt, xn, xp⟩ := x
      simp only at c0 c1 c2 c3 d0 d1 d2 d3
      have hk0 : (0 : Int) ≤ (k : Int) := by omega
      have hkN : (k : Int) < (N : Int) := by omega
      clear hx hkL
      go_wp2_with fail
      go_quiet (fail)
      go_wp2_with fail
      go_roundw
      case rel => exact ⟨k + 1, m + _, by omega, by go_num, rfl⟩
      case measure => simp [intOf]; omega
    · go_wp2_with fail
      go_ret
      exact ⟨rfl, _, rfl⟩

/-- Tokens that are alike. -/
def LikeT (A B : List Tk) : Prop := A.length = B.length ∧ ∀ i (h : i < A.length) (h2 : i < B.length), A[i].kind = B[i].kind ∧ A[i].text = B[i].text ∧ A[i].n = B[i].n
set_option maxHeartbeats 4000000 in
theorem like_any (a b : Option Addr) (ca cb : Nat) (A B : List Tk) (hL : A.length ≤ 4000) (hlk : LikeT A B) (w : World) (hA : TCells w a A) (hB : TCells w b B) : Calls Tryd.prog 22 #[.slice a A.length ca, .slice b B.length cb] w (Drew (.bool true) w) := by
  have HA := Lib.hid hA
  have HB := Lib.hid hB
  have HL := Lib.hid hlk
  obtain ⟨N, hN⟩ : ∃ N, A.length = N := ⟨_, rfl⟩
  have hN2 : B.length = N := by rw [← hlk.1, hN]
  have HN := Lib.hid hN
  have HN2 := Lib.hid hN2
  rw [hN] at hL ⊢
  rw [hN2]
  clear hA hB hN hN2 hlk
  go_enter Tryd.func22, Tryd.ntmps22
  go_wp2_with fail
  go_loopw [5] (fun i wr => ∃ k m : Nat, k ≤ N ∧ i = .int .i64 k ∧ wr = w.drewN m) (fun i _ => N - (intOf i).toNat)
  case atStart => exact ⟨0, 0, by omega, rfl, rfl⟩
  case round =>
    obtain ⟨k, m, hk, rfl, rfl⟩ := hrel
    by_cases hlt : k < N
    · have hkL : k < A.length := by rw [HN.out]; exact hlt
      have hkB : k < B.length := by rw [HN2.out]; exact hlt
      obtain ⟨b1, o1, rfl, c0, c1, c2, c3⟩ := HA.out.at k hkL
      obtain ⟨b2, o2, rfl, d0, d1, d2, d3⟩ := HB.out.at k hkB
      obtain ⟨e0, e1, e2⟩ := HL.out.2 k hkL hkB
      rw [← e0] at d0
      rw [← e1] at d1
      rw [← e2] at d2
      clear e0 e1 e2
      obtain ⟨x, hx⟩ : ∃ x, A[k]'hkL = x := ⟨_, rfl⟩
      obtain ⟨y, hy⟩ : ∃ y, B[k]'hkB = y := ⟨_, rfl⟩
      rw [hx] at c0 c1 c2 c3 d0 d1 d2
      rw [hy] at d3
      obtain ⟨xk, xt, xn, xp⟩ := x
      simp only at c0 c1 c2 c3 d0 d1 d2 d3
      have hk0 : (0 : Int) ≤ (k : Int) := by omega
      have hkN : (k : Int) < (N : Int) := by omega
      clear hx hy hkL hkB
      go_wp2_with fail
      go_quiet (fail)
      go_wp2_with fail
      go_roundw
      case rel => exact ⟨k + 1, m + _, by omega, by go_num, rfl⟩
      case measure => simp [intOf]; omega
    · go_wp2_with fail
      go_ret
      exact ⟨rfl, _, rfl⟩
end Go.Proofs.YtagkdhcclkbjgaaDoor.Le
