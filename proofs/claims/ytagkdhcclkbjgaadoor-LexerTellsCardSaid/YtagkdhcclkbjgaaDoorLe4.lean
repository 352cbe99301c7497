/- What the listed variables hold, as the lexer's walks use it; the contracts of the tests for a sign; of the beginning whose bytes belong to a set; of what is skipped. -/
import Derived.Lib.LaidTab
import Derived.Below
import Derived.Laws.Rows
import Derived.Laws.RangeString
import Derived.Test.YtagkdhcclkbjgaaDoorLe3
set_option maxRecDepth 100000
namespace Go.Proofs.YtagkdhcclkbjgaaDoor.Le
open Go.RowKit

/-- What a call returns, where nothing that was there is turned. -/
def Gives (v : Value) (w : World) (e : Ending) (w' : World) : Prop := e = .returned v ∧ RowKit.Below w.heap.size w w'
def signV : Array Value := (signL.map fun c => Value.int .u8 (c.toNat : Int)).toArray
theorem gSigns : Tryd.prog.globalNamed "kitbag/lexer.signs" = some 0 := by kernel_rfl
theorem gPow : Tryd.prog.globalNamed "internal/strconv.uint64pow10" = some 3 := by kernel_rfl
/-- What the calls read of the package-level variables. -/
structure Env (w : World) : Prop where
  tab : Lib.TabIs Tryd.prog w "internal/strconv.uint64pow10" .u64 Lib.pow10Tab
  syn : ∃ t p, w.cell? ⟨1, 0, none⟩ = some (.iface t p)
  ran : ∃ t p, w.cell? ⟨2, 0, none⟩ = some (.iface t p)
  sgn : ∃ t fr, w.heap[0]? = some (.cells signV t fr)
  pow : 3 < w.heap.size
theorem lt_of_cell {w : World} {b o : Nat} {v : Value} (h : w.cell? ⟨b, o, none⟩ = some v) : b < w.heap.size := by
  rcases Nat.lt_or_ge b w.heap.size with h' | h'
  · exact h'
  · simp [World.cell?, Array.getElem?_eq_none h'] at h
theorem lt_of_heap {w : World} {b : Nat} {o : Obj} (h : w.heap[b]? = some o) : b < w.heap.size := by
  rcases Nat.lt_or_ge b w.heap.size with h' | h'
  · exact h'
  · simp [Array.getElem?_eq_none h'] at h
theorem Env.below {w w' : World} (he : Env w) (h : RowKit.Below w.heap.size w w') : Env w' := by
  obtain ⟨t, ⟨a, b, hs⟩, ⟨c, d, hr⟩, ⟨f, g, hg⟩, hp⟩ := he
  refine ⟨var?_below h gPow hp t, ⟨a, b, by rw [h.cell (by simpa using lt_of_cell hs)]; exact hs⟩, ⟨c, d, by rw [h.cell (by simpa using lt_of_cell hr)]; exact hr⟩, ⟨f, g, ?_⟩, Nat.lt_of_lt_of_le hp h.size⟩
  rw [h.block _ (lt_of_heap hg)]; exact hg
theorem infoSigns : (Tryd.prog.info? 61).map (·.size) = some signV.size := by kernel_rfl

theorem sign_idx (k : Nat) (h : k < 13) (w : World) : (Instr.index 61 (.agg signV) (.int .i64 (k : Int))).run Tryd.prog w = .ok (.int .u8 ((signL[k]'h).toNat : Int)) w := by
  have : k = 0 ∨ k = 1 ∨ k = 2 ∨ k = 3 ∨ k = 4 ∨ k = 5 ∨ k = 6 ∨ k = 7 ∨ k = 8 ∨ k = 9 ∨ k = 10 ∨ k = 11 ∨ k = 12 := by omega
  rcases this with rfl | rfl | rfl | rfl | rfl | rfl | rfl | rfl | rfl | rfl | rfl | rfl | rfl <;> rfl
theorem sign_no (c : UInt8) (h : ∀ i, (hi : i < 13) → signL[i]'hi ≠ c) : signB c = false := by
  unfold signB
  rw [Bool.eq_false_iff]
  intro hc
  rw [List.contains_iff_mem] at hc
  obtain ⟨i, hi, e⟩ := List.getElem_of_mem hc
  exact h i hi e
theorem sign_yes (c : UInt8) (k : Nat) (h : k < 13) (e : signL[k]'h = c) : signB c = true := by
  unfold signB; rw [List.contains_iff_mem, ← e]; exact List.getElem_mem _

set_option maxHeartbeats 1000000 in
theorem isSign_any (c : UInt8) (w : World) (he : Env w) : Calls Tryd.prog 46 #[.int .u8 (c.toNat : Int)] w fun e w' => e = .returned (.bool (signB c)) ∧ w' = w := by
  obtain ⟨f, g, hg⟩ := he.sgn
  have HG := Lib.hid hg
  clear he hg
  go_enter Tryd.func46, Tryd.ntmps46
  go_wp2_with (refine wpList_load_row rfl _ _ rfl _ rfl _ _ _ _ HG.out Tryd.underlying61 rfl infoSigns ?_)
  go_loop [6] (fun i => ∃ k : Nat, k ≤ 13 ∧ i = .int .i64 k ∧ ∀ j, (hj : j < 13) → j < k → signL[j]'hj ≠ c) (fun i => 13 - (RowKit.intOf i).toNat)
  case atStart => exact ⟨0, by omega, rfl, fun j _ h => by omega⟩
  case round =>
    obtain ⟨k, hk, rfl, hno⟩ := hrel
    have HN := Lib.hid hno
    clear hno
    by_cases hlt : k < 13
    · have hidx := sign_idx k hlt
      have hlt2 : decide ((k : Int) < 13) = true := by simp; omega
      obtain ⟨x, hx⟩ : ∃ x, signL[k]'hlt = x := ⟨_, rfl⟩
      rw [hx] at hidx
      have HX := Lib.hid hx
      clear hx
      by_cases hc : x = c
      · subst hc
        have hcc : (((x.toNat : Int)) == (x.toNat : Int)) = true := by simp
        have HS : Hid (signB x = true) := sign_yes x k hlt HX.out
        go_wp2_with fail
        go_ret
        exact ⟨by rw [HS.out]; rfl, rfl⟩
      · have hcc : (((x.toNat : Int)) == (c.toNat : Int)) = false := by
          rw [beq_eq_false_iff_ne]; intro e; apply hc; rw [← UInt8.toNat_inj]; omega
        have HC := Lib.hid hc
        clear hc
        go_wp2_with fail
        go_round
        case rel =>
          refine ⟨k + 1, by omega, by go_num, fun j hj hjk => ?_⟩
          rcases Nat.lt_or_ge j k with h | h
          · exact HN.out j hj h
          · obtain rfl : j = k := by omega
            rw [HX.out]; exact HC.out
        case measure => simp [RowKit.intOf]; omega
    · have HS : Hid (signB c = false) := sign_no c (fun i hi => HN.out i hi (by omega))
      have hlt2 : decide ((k : Int) < 13) = false := by simp; omega
      go_wp2_with fail
      go_ret
      exact ⟨by rw [HS.out]; rfl, rfl⟩

set_option maxHeartbeats 1000000 in
theorem sign_any (c : UInt8) (w : World) : Calls Tryd.prog 48 #[.int .u8 (c.toNat : Int)] w fun e w' => e = .returned (.bool (signB c)) ∧ w' = w := by
  obtain ⟨S, hS⟩ : ∃ S : List UInt8, S = signL := ⟨_, rfl⟩
  have hl : S.length = 13 := by rw [hS]; rfl
  have HS0 := Lib.hid hS
  go_enter Tryd.func48, Tryd.ntmps48
  go_wp2_with fail
  go_loop [4] (fun i => ∃ k : Nat, k ≤ 13 ∧ i = .int .i64 k ∧ ∀ j, (hj : j < 13) → j < k → signL[j]'hj ≠ c) (fun i => 13 - (RowKit.intOf i).toNat)
  case atStart => exact ⟨0, by omega, rfl, fun j _ h => by omega⟩
  case round =>
    obtain ⟨k, hk, rfl, hno⟩ := hrel
    have HN := Lib.hid hno
    clear hno
    by_cases hlt : k < 13
    · have hlt2 : decide ((k : Int) < 13) = true := by simp; omega
      obtain ⟨x, hx⟩ : ∃ x, signL[k]'hlt = x := ⟨_, rfl⟩
      have hb : (({ data := #[40, 41, 44, 59, 58, 61, 60, 43, 45, 42, 47, 123, 125] } : ByteArray)[k]'hlt) = x := hx
      have HX := Lib.hid hx
      clear hx
      by_cases hc : x = c
      · subst hc
        have HS : Hid (signB x = true) := sign_yes x k hlt HX.out
        go_wp2_with fail
        go_ret
        exact ⟨by rw [HS.out]; rfl, rfl⟩
      · have hcc : (((x.toNat : Int)) == (c.toNat : Int)) = false := by
          rw [beq_eq_false_iff_ne]; intro e; apply hc; rw [← UInt8.toNat_inj]; omega
        have HC := Lib.hid hc
        clear hc
        go_wp2_with fail
        go_round
        case rel =>
          refine ⟨k + 1, by omega, by go_num, fun j hj hjk => ?_⟩
          rcases Nat.lt_or_ge j k with h | h
          · exact HN.out j hj h
          · obtain rfl : j = k := by omega
            rw [HX.out]; exact HC.out
        case measure => simp [RowKit.intOf]; omega
    · have HS : Hid (signB c = false) := sign_no c (fun i hi => HN.out i hi (by omega))
      have hlt2 : decide ((k : Int) < 13) = false := by simp; omega
      go_wp2_with fail
      go_ret
      exact ⟨by rw [HS.out]; rfl, rfl⟩
end Go.Proofs.YtagkdhcclkbjgaaDoor.Le
