/- How a slice reads as a list of digits. The contracts of digit, top, trim. -/
import Derived.WalkKit
import Derived.WalkSmall
import Derived.WalkMore
import Derived.Outline
import Derived.Lib.Hide
import Derived.IntWalk
import Derived.Deep.LoopGhost
import Derived.Deep.QuietTactic
import Derived.BigQuiet
import Derived.Deep.RegionWith
import Derived.Test.YtpcagodnlbdclaaDoorChecked
import Derived.Test.YtpcagodnlbdclaaDoorBi1
set_option maxRecDepth 100000
namespace Go.Proofs.YtpcagodnlbdclaaDoor.Bi
open Go.RowKit

/-- From offset o on, block b holds the ints l. -/
def Row (w : World) (b o : Nat) (l : List Int) : Prop := ∀ i, i < l.length → w.cell? ⟨b, o + i, none⟩ = some (.int .i64 (l.getD i 0))
/-- The slice v reads as the ints l. -/
def Ints (w : World) (v : Value) (l : List Int) : Prop :=
  ∃ a cap, v = .slice a l.length cap ∧ l.length ≤ cap ∧ l.length ≤ 1000000000 ∧ (l = [] ∨ ∃ b o, a = some ⟨b, o, none⟩ ∧ b < w.heap.size ∧ Row w b o l)
theorem Row.later {w w' : World} {b o : Nat} {l : List Int} (h : Row w b o l) (hb : RowKit.Below w.heap.size w w') (hlt : b < w.heap.size) : Row w' b o l :=
  fun i hi => (hb.cell (p := ⟨b, o + i, none⟩) hlt).trans (h i hi)
theorem Ints.later {w w' : World} {v : Value} {l : List Int} (h : Ints w v l) (hb : RowKit.Below w.heap.size w w') : Ints w' v l := by
  obtain ⟨a, cap, rfl, h1, h2, h3⟩ := h
  refine ⟨a, cap, rfl, h1, h2, ?_⟩
  rcases h3 with rfl | ⟨b, o, rfl, hlt, hr⟩
  · exact .inl rfl
  · exact .inr ⟨b, o, rfl, Nat.lt_of_lt_of_le hlt hb.size, hr.later hb hlt⟩
theorem Ints.drew {w : World} {v : Value} {l : List Int} (h : Ints w v l) : Ints w.drew v l := h
theorem Ints.shape {w : World} {a : Option Addr} {n cap : Nat} {l : List Int} (h : Ints w (.slice a n cap) l) : n = l.length ∧ n ≤ cap ∧ n ≤ 1000000000 ∧ (0 < n → ∃ b o, a = some ⟨b, o, none⟩ ∧ b < w.heap.size ∧ Row w b o l) := by
  obtain ⟨a', cap', hv, h1, h2, h3⟩ := h
  simp at hv
  obtain ⟨rfl, rfl, rfl⟩ := hv
  refine ⟨rfl, h1, h2, fun h0 => ?_⟩
  rcases h3 with rfl | h3
  · simp at h0
  · exact h3

theorem digit_any (v : Value) (l : List Int) (i : Int) (w : World) (h : Ints w v l) :
    Calls Tryd.prog 75 #[v, .int .i64 i] w fun e w' => e = .returned (.int .i64 (if i < 0 then 0 else l.getD i.toNat 0)) ∧ w = w' := by
  obtain ⟨a, cap, rfl, h1, h2, h3⟩ := h
  by_cases h0 : i < 0
  · rw [if_pos h0]
    clear h3
    go_enter Tryd.func75, Tryd.ntmps75
    go_wp2
    go_ret
    exact ⟨rfl, rfl⟩
  · rw [if_neg h0]
    obtain ⟨n, rfl⟩ : ∃ n : Nat, i = n := ⟨i.toNat, by omega⟩
    rw [Int.toNat_natCast]
    by_cases hn : n < l.length
    · obtain ⟨b, o, rfl, hlt, hr⟩ := h3.resolve_left (fun e => by subst e; simp at hn)
      have hc := hr n hn
      clear hr h0
      obtain ⟨d, hd⟩ : ∃ d, l.getD n 0 = d := ⟨_, rfl⟩
      rw [hd] at hc ⊢
      clear hd
      obtain ⟨m, hm⟩ : ∃ m, l.length = m := ⟨_, rfl⟩
      rw [hm] at hn h1 h2 ⊢
      clear hm
      go_enter Tryd.func75, Tryd.ntmps75
      go_wp2
      go_ret
      exact ⟨rfl, rfl⟩
    · have hz : l.getD n 0 = 0 := by rw [List.getD_eq_getElem?_getD, List.getElem?_eq_none (by omega)]; rfl
      rw [hz]
      clear hz h3 h0
      obtain ⟨m, hm⟩ : ∃ m, l.length = m := ⟨_, rfl⟩
      rw [hm] at hn h1 h2 ⊢
      clear hm
      go_enter Tryd.func75, Tryd.ntmps75
      go_wp2
      go_ret
      exact ⟨rfl, rfl⟩
end Go.Proofs.YtpcagodnlbdclaaDoor.Bi
