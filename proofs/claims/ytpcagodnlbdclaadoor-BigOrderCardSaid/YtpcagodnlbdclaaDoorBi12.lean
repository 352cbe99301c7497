/- The contracts of cmp.Or and sum. -/
import Derived.Test.YtpcagodnlbdclaaDoorBi11
set_option maxRecDepth 100000
namespace Go.Proofs.YtpcagodnlbdclaaDoor.Bi
open Go.RowKit

def orI (x y : Int) : Int := if x = 0 then y else x
theorem or_any (g cap : Nat) (_hcap : 2 ≤ cap) (x y : Int) (w : World) (c0 : w.cell? ⟨g, 0, none⟩ = some (.int .i64 x)) (c1 : w.cell? ⟨g, 1, none⟩ = some (.int .i64 y)) :
    Calls Tryd.prog 72 #[.slice (some ⟨g, 0, none⟩) 2 cap] w fun e w' => e = .returned (.int .i64 (orI x y)) ∧ w = w' := by
  obtain ⟨r, hr⟩ : ∃ r, orI x y = r := ⟨_, rfl⟩
  rw [hr]
  have HR := Lib.hid hr
  clear hr
  go_enter Tryd.func72, Tryd.ntmps72
  go_wp2_with fail
  go_loop [8] (fun t => ∃ k : Nat, k ≤ 2 ∧ t = .int .i64 k ∧ (0 < k → x = 0) ∧ (1 < k → y = 0)) (fun t => 2 - (intOf t).toNat)
  case atStart => exact ⟨0, by omega, rfl, fun h => by omega, fun h => by omega⟩
  case round =>
    obtain ⟨k, hk, rfl, hx, hy⟩ := hrel
    have HX := Lib.hid hx
    have HY := Lib.hid hy
    clear hx hy
    match k, hk with
    | 0, _ =>
      by_cases h0 : x = 0
      · subst h0
        go_wp2_with fail
        go_round
        case rel => exact ⟨1, by omega, by go_num, by simp, fun h => by omega⟩
        case measure => simp [intOf]
      · have h1 : (x != 0) = true := by simpa using h0
        have hr := HR.out
        unfold orI at hr
        rw [if_neg h0] at hr
        subst hr
        go_wp2_with fail
        go_ret
        exact ⟨rfl, rfl⟩
    | 1, _ =>
      obtain rfl := HX.out (by omega)
      have hr := HR.out
      unfold orI at hr
      rw [if_pos rfl] at hr
      subst hr
      by_cases h0 : y = 0
      · subst h0
        go_wp2_with fail
        go_round
        case rel => exact ⟨2, by omega, by go_num, by simp, by simp⟩
        case measure => simp [intOf]
      · have h1 : (y != 0) = true := by simpa using h0
        go_wp2_with fail
        go_ret
        exact ⟨rfl, rfl⟩
    | 2, _ =>
      obtain rfl := HX.out (by omega)
      obtain rfl := HY.out (by omega)
      have hr := HR.out
      unfold orI at hr
      rw [if_pos rfl] at hr
      subst hr
      go_wp2_with fail
      go_ret
      exact ⟨rfl, rfl⟩
end Go.Proofs.YtpcagodnlbdclaaDoor.Bi
