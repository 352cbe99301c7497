/- How a slice of values is read. -/
import Derived.Test.YtpcdogbioopdgaaDoorO
namespace Go.Proofs.YtpcdogbioopdgaaDoor
open Go.RowKit Go.WideShapes Go.ChangeShapes Go.Deep
section
variable {H : Type} {enc : TypeId × Value → H} {w : World} {base : Nat} {held : Bool}
set_option maxRecDepth 100000 in
theorem read_vals {fuel : Nat} {cs : List Value} {x : DataW H × List MemPlace} (h : DataW.trod enc Tryd.prog w base (fun _ => true) held fuel 28 cs = some x) :
    ∃ (a : Option Addr) (vs : List V) (cap : Nat), cs = [.slice a vs.length cap] ∧ vs.length ≤ 9223372036854775807 ∧ VCells w a vs := by
  rcases open_slice Tryd.underlying28 h with ⟨rfl, _⟩ | ⟨a, len, cap, m, n, D, Pl, rfl, _, hl, hm, hmm, _, hi⟩
  · exact ⟨none, [], 0, rfl, by simp, .inl rfl⟩
  · rw [if_pos rfl] at hmm
    rw [maxLen_eq] at hm
    rw [cellsOf25] at hi
    have hi' : ∀ i, i < len → ∃ v : V, (∀ j u, v.cells[j]? = some u → w.cell? ((a.add (i * 5)).add j) = some u) ∧ VOk w v := by
      intro i hil
      obtain ⟨cs', hc, ht⟩ := hi i (by omega)
      obtain ⟨v, hcs, hok⟩ := read_V ht
      refine ⟨v, fun j u hj => ?_, hok⟩
      obtain ⟨_, hcl, hat⟩ := World.cells?_some hc
      have hj5 : j < 5 := by
        have := (Array.getElem?_eq_some_iff.1 hj).1
        simpa [V.cells] using this
      rw [hat j hj5, hcs]
      simpa using hj
    refine ⟨some a, List.ofFn (fun i : Fin len => Classical.choose (hi' i i.2)), cap, by simp, by simp; omega, ?_⟩
    by_cases h0 : len = 0
    · left; subst h0; simp
    · right
      have hspot : a.spot = none := by
        have h5 := (Classical.choose_spec (hi' 0 (by omega))).1 0 _ rfl
        simp only [Nat.zero_mul] at h5
        simpa [Addr.add] using World.cell?_spot h5
      obtain ⟨b, off, sp⟩ := a
      simp at hspot; subst hspot
      refine ⟨b, off, rfl, fun i hi2 => ?_⟩
      have hil : i < len := by simpa using hi2
      have hsp := Classical.choose_spec (hi' i hil)
      simp only [List.getElem_ofFn]
      refine ⟨fun j u hj => ?_, hsp.2⟩
      have := hsp.1 j u hj
      rw [add_plain, add_plain] at this
      exact this
end
end Go.Proofs.YtpcdogbioopdgaaDoor
