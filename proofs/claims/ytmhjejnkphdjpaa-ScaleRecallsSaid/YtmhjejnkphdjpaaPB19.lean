/- Slices of structs of n ints: how they lie in memory, how they are read as arguments, an index into one. Of no program. -/
import Derived.Deep.Slices
import Derived.ChangeSame
import Derived.Test.YtmhjejnkphdjpaaPB11
set_option maxRecDepth 100000
namespace Go.Proofs.Ytmhjejnkphdjpaa.Rc
open Go.RowKit Go.ChangeShapes Go.WideShapes

/-- The rows l (of n ints each) lie at a. -/
def Recs (n : Nat) (w : World) (a : Option Addr) (l : List (Nat → Int)) : Prop :=
  l = [] ∨ ∃ b o, a = some ⟨b, o, none⟩ ∧ b < w.heap.size ∧ ∀ i (hi : i < l.length) (j : Nat), j < n → w.cell? ⟨b, o + i * n + j, none⟩ = some (.int .i64 (l[i] j))
theorem Recs.later {n : Nat} {w w' : World} {a : Option Addr} {l : List (Nat → Int)} (h : Recs n w a l) (hb : RowKit.Below w.heap.size w w') : Recs n w' a l := by
  rcases h with rfl | ⟨b, o, rfl, hlt, hc⟩
  · exact .inl rfl
  · exact .inr ⟨b, o, rfl, Nat.lt_of_lt_of_le hlt hb.size, fun i hi j hj => (hb.cell (p := ⟨b, o + i * n + j, none⟩) hlt).trans (hc i hi j hj)⟩
theorem cell_lt {w : World} {p : Addr} {v : Value} (h : w.cell? p = some v) : p.block < w.heap.size := by
  unfold World.cell? at h
  by_cases hp : p.block < w.heap.size
  · exact hp
  · rw [Array.getElem?_eq_none (by omega)] at h
    cases h
section
variable {H : Type} {enc : TypeId × Value → H} {P : Program} {w : World} {base : Nat} {held : Bool}
theorem read_recs {tS tE : TypeId} {n : Nat} (hS : P.underlying tS = some (.slice tE)) (hn : P.cellsOf tE = n) (h0 : 0 < n) {ok : (Nat → Int) → Prop}
    (hr : ∀ {fuel : Nat} {cs : List Value} {x : DataW H × List MemPlace}, DataW.trod enc P w base (fun _ => true) held fuel tE cs = some x → ∃ f : Nat → Int, cs = (List.range n).map (fun j => Value.int .i64 (f j)) ∧ ok f)
    {fuel : Nat} {cs : List Value} {x : DataW H × List MemPlace} (h : DataW.trod enc P w base (fun _ => true) held fuel tS cs = some x) :
    ∃ (a : Option Addr) (l : List (Nat → Int)) (cap : Nat), cs = [.slice a l.length cap] ∧ l.length ≤ cap ∧ l.length ≤ 9223372036854775807 ∧ Recs n w a l ∧ ∀ f ∈ l, ok f := by
  rcases Go.Deep.open_slice hS h with ⟨rfl, _⟩ | ⟨a, len, cap, m, nn, D, Pl, rfl, _, hl, hm, hmm, _, hi⟩
  · exact ⟨none, [], 0, rfl, by simp, by simp, .inl rfl, fun f hf => by cases hf⟩
  · rw [if_pos rfl] at hmm
    rw [Bi.maxLen_eq] at hm
    rw [hn] at hi
    have hi' : ∀ i, i < len → ∃ f : Nat → Int, (∀ j, j < n → w.cell? ((a.add (i * n)).add j) = some (.int .i64 (f j))) ∧ ok f := by
      intro i hil
      obtain ⟨cs', hc, ht⟩ := hi i (by omega)
      obtain ⟨f, hcs, hok⟩ := hr ht
      refine ⟨f, fun j hj => ?_, hok⟩
      obtain ⟨_, _, hat⟩ := World.cells?_some hc
      rw [hat j hj, hcs]
      simp [hj]
    obtain ⟨g, hg⟩ : ∃ g : Nat → Nat → Int, ∀ i, i < len → (∀ j, j < n → w.cell? ((a.add (i * n)).add j) = some (.int .i64 (g i j))) ∧ ok (g i) :=
      ⟨fun i => if h : i < len then Classical.choose (hi' i h) else fun _ => 0, fun i h => by simp only [dif_pos h]; exact Classical.choose_spec (hi' i h)⟩
    refine ⟨some a, (List.range len).map g, cap, by simp, by simpa using hl, by simp; omega, ?_, ?_⟩
    · by_cases hz : len = 0
      · left; subst hz; rfl
      · right
        have h5 := (hg 0 (by omega)).1 0 h0
        have hspot : a.spot = none := by
          have h6 := h5
          simp only [Nat.zero_mul] at h6
          simpa [Addr.add] using World.cell?_spot h6
        obtain ⟨b, off, sp⟩ := a
        simp at hspot; subst hspot
        refine ⟨b, off, rfl, ?_, fun i hi2 j hj => ?_⟩
        · rw [add_plain, add_plain] at h5
          exact cell_lt h5
        · have hil : i < len := by simpa using hi2
          have h6 := (hg i hil).1 j hj
          rw [add_plain, add_plain] at h6
          simpa using h6
    · intro f hf
      obtain ⟨i, hi3, rfl⟩ := List.mem_map.1 hf
      exact (hg i (by simpa using hi3)).2
end
/-- An index into such a slice. -/
theorem rec_at {P : Program} {tS tE : TypeId} {n : Nat} {inf : TypeInfo} (hS : P.underlying tS = some (.slice tE)) (hi : P.info? tE = some inf) (hn : inf.size = n) (b o len cap k : Nat) (hk : k < len) (W : World) :
    (Instr.indexAt tS (.slice (some ⟨b, o, none⟩) len cap) (.int .i64 (k : Int))).run P W = .ok (.pointer (some ⟨b, o + k * n, none⟩)) W := by
  have ha : (asIntOf (.int .i64 (k : Int))).run P W = .ok (IntKind.i64, (k : Int)) W := rfl
  simp [Instr.indexAt, run_underlying hS, hk, ha, Addr.add, sizeOf, typeInfo, hi, hn]
end Go.Proofs.Ytmhjejnkphdjpaa.Rc
