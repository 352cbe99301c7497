/- How an argument that is an array of ints is opened (for dim and later layers). -/
import Derived.WideKeyArr2
import Derived.Test.YtmhdhabgdlefjaaGreatDoorChecked
set_option maxRecDepth 100000
namespace Go.Proofs.YtmhdhabgdlefjaaGreatDoor.Ar
open Go.ChangeShapes Go.WideShapes Go.WideMaps

section
variable {H : Type} {enc : TypeId × Value → H} {P : Program} {k e : TypeId} {n : Nat} {q : IntKind} {W : World} {base : Nat} {sp : Nat → Bool} {held : Bool}
theorem at_of_mapM (he : P.underlying e = some (.int q)) {m c : Nat} {cs : List Value} (L : List Nat) (xs : List (DataW H × List MemPlace))
    (h : L.mapM (fun i => DataW.trod enc P W base sp held m e ((cs.drop (i * c)).take c)) = some xs) : ∀ i ∈ L, ∃ a, (cs.drop (i * c)).take c = [.int q a] ∧ (Lit.int q a).wf = true := by
  induction L generalizing xs with
  | nil => intro i hi; cases hi
  | cons j L ih =>
    rw [List.mapM_cons] at h
    simp only [bind, Option.bind_eq_some_iff, pure, Option.some.injEq] at h
    obtain ⟨y, hy, ys, hys, rfl⟩ := h
    intro i hi
    rcases List.mem_cons.1 hi with rfl | hi
    · obtain ⟨a, ea, _, wa⟩ := DataW.trod_int he hy
      exact ⟨a, ea, wa⟩
    · exact ih ys hys i hi
theorem ints_of_at {P2 : Int → Prop} {q : IntKind} : ∀ (cs : List Value), (∀ i, i < cs.length → ∃ a, (cs.drop i).take 1 = [.int q a] ∧ P2 a) → ∃ zs : List Int, cs = zs.map (.int q) ∧ ∀ z ∈ zs, P2 z
  | [], _ => ⟨[], rfl, fun z hz => by cases hz⟩
  | v :: cs, h => by
    obtain ⟨a, ea, wa⟩ := h 0 (by simp)
    obtain ⟨zs, rfl, hz⟩ := ints_of_at cs (fun i hi => by have := h (i + 1) (by simp; omega); simpa using this)
    refine ⟨a :: zs, ?_, fun z hm => ?_⟩
    · simp at ea; rw [ea]; rfl
    · rcases List.mem_cons.1 hm with rfl | hm
      · exact wa
      · exact hz z hm
/-- An argument of an array type: its ints. -/
theorem open_ints_arr {r : Reach} {b0 : Nat} {v : Value} {d : DataW H} {ps : List MemPlace} (hu : P.underlying k = some (.array n e)) (he : P.underlying e = some (.int q)) (hone : P.cellsOf e = 1) (hsize : P.cellsOf k = n)
    (hval : Value.okWide P W r b0 k v) (hd : DataW.Trod enc P W base sp held k v d ps) : ∃ zs : List Int, v = .agg (zs.map (.int q)).toArray ∧ zs.length = n ∧ ps = [] ∧ ∀ z ∈ zs, (Lit.int q z).wf = true := by
  have hv : ∃ xs : Array Value, v = .agg xs ∧ xs.size = n := by
    simp only [Value.okWide, hu] at hval
    obtain ⟨cs, h1, h2, _⟩ := hval
    exact ⟨cs, h1, by rw [h2, hsize]⟩
  obtain ⟨xs, rfl, hn⟩ := hv
  obtain ⟨fuel, hf⟩ := hd
  cases fuel with
  | zero => simp [DataW.trod] at hf
  | succ m =>
    rw [DataW.trod_step] at hf
    unfold DataW.trodStep at hf
    simp only [hu, Value.cells] at hf
    rw [if_pos (by rw [hsize]; simpa using hn)] at hf
    simp only [Option.map_eq_some_iff] at hf
    obtain ⟨ys, hy, e1⟩ := hf
    rw [hone] at hy
    have hat := at_of_mapM he _ ys hy
    obtain ⟨ls, hls, _⟩ := mapM_both (D := 0) he _ ys hy
    obtain ⟨zs, hz, hw⟩ := ints_of_at (P2 := fun z => (Lit.int q z).wf = true) xs.toList (fun i hi => by
      have h1 := hat i (by simp at hi ⊢; omega)
      simpa using h1)
    refine ⟨zs, ?_, ?_, ?_, hw⟩
    · congr 1; rw [← hz]
    · have := congrArg List.length hz; simp at this; omega
    · simp only [Prod.mk.injEq] at e1
      rw [← e1.2, hls]; simp [List.flatMap_eq_nil_iff]
end
end Go.Proofs.YtmhdhabgdlefjaaGreatDoor.Ar
