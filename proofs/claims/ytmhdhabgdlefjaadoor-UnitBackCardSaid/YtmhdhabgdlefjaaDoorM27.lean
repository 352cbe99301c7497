/- Units as values; a whole row stored into a box; the contract of the reference's Right. -/
import Derived.Test.YtmhdhabgdlefjaaDoorM17
import Derived.Test.YtmhdhabgdlefjaaDoorM23
set_option maxRecDepth 100000
namespace Go.Proofs.YtmhdhabgdlefjaaDoor.Un
open Go.RowKit Bi Dm

/-- A unit's cells. -/
def ul (f : Nat → Int) (s : Int) (v : Value) (t : Int) (u : Value) : List Value := [.int .i64 (f 0), .int .i64 (f 1), .int .i64 (f 2), .int .i64 (f 3), .int .i64 (f 4), .int .i64 (f 5), .int .i64 s, v, .int .i64 t, u]
def uc (f : Nat → Int) (s : Int) (v : Value) (t : Int) (u : Value) : Array Value := #[.int .i64 (f 0), .int .i64 (f 1), .int .i64 (f 2), .int .i64 (f 3), .int .i64 (f 4), .int .i64 (f 5), .int .i64 s, v, .int .i64 t, u]
theorem Sf.row {w W : World} {pre post : List FBox} {F : List (Value × List Int)} {b : Nat} {ty : TypeId} {cs : List Value} (h : Sf w (pre ++ (b, ty, cs) :: post) F W) (cs' : List Value) :
    Sf w (pre ++ (b, ty, cs') :: post) F (W.setRow b cs'.toArray) := by
  have hm : (b, ty, cs) ∈ pre ++ (b, ty, cs) :: post := by simp
  have hwb : w.heap.size ≤ b := h.le _ hm
  have hbx := h.box _ hm
  have hne : ∀ x ∈ pre ++ (b, ty, cs') :: post, x = (b, ty, cs') ∨ (x ∈ pre ++ (b, ty, cs) :: post ∧ x.1 ≠ b) := by
    intro x hx
    have hp := h.pw
    rw [List.pairwise_append] at hp
    obtain ⟨_, p2, p3⟩ := hp
    rw [List.pairwise_cons] at p2
    rcases List.mem_append.1 hx with hx | hx
    · refine .inr ⟨List.mem_append_left _ hx, ?_⟩
      have := p3 x hx (b, ty, cs) (by simp)
      simp at this; omega
    · rcases List.mem_cons.1 hx with rfl | hx
      · exact .inl rfl
      · refine .inr ⟨List.mem_append_right _ (List.mem_cons_of_mem _ hx), ?_⟩
        have := p2.1 x hx
        simp at this; omega
  have hg : W.grownBy (W.setRow b cs'.toArray) (some b) := ⟨rfl, rfl, rfl, by simp, fun k _ hk => setRow_other W b k _ (fun e => hk (by rw [e]))⟩
  have hbl : (W.setRow b cs'.toArray).heap[b]? = some (.cells cs'.toArray ty (0, 0)) := setRow_heap W b _ _ _ _ hbx
  refine ⟨below_row h.below hwb _, fun x hx => ?_, fun x hx => ?_, fun f hf => (h.ints f hf).grown (h.off f hf _ hm) hg, fun f hf x hx => ?_, ?_⟩
  · rcases hne x hx with rfl | ⟨hx, _⟩
    · exact hwb
    · exact h.le x hx
  · rcases hne x hx with rfl | ⟨hx, hn⟩
    · exact hbl
    · have hq := h.box x hx
      show (W.setRow b cs'.toArray).heap[x.1]? = _
      rw [hg.block x.1 (h.lt x hx) (fun e => hn (by simpa using e))]
      exact hq
  · rcases hne x hx with rfl | ⟨hx, _⟩
    · show Off f.1 b; exact h.off f hf (b, ty, cs) hm
    · exact h.off f hf x hx
  · have hp := h.pw
    rw [List.pairwise_append, List.pairwise_cons] at hp ⊢
    refine ⟨hp.1, ⟨fun y hy => hp.2.1.1 y hy, hp.2.1.2⟩, fun x hx y hy => ?_⟩
    rcases List.mem_cons.1 hy with rfl | hy
    · exact hp.2.2 x hx (b, ty, cs) (by simp)
    · exact hp.2.2 x hx y (List.mem_cons_of_mem _ hy)
theorem ret_row {fn : Func} {p u : Tmp} {ty : TypeId} (h : fn.results = #[.cell p ty, .tmp u]) (tmps : Array Value) (w : World) (b : Nat) (cs : Array Value) (hp : tmps.getD p undef = .pointer (some ⟨b, 0, none⟩)) (hl : (loadVar ty ⟨b, 0, none⟩).run Tryd.prog w = .ok (.agg cs) w) :
    (results fn tmps).run Tryd.prog w = .ok (.tuple #[.agg cs, tmps.getD u undef]) w := by
  rw [results_cell_tmp h, hp]
  simp [asAddr, Result.andThen, hl]

end Go.Proofs.YtmhdhabgdlefjaaDoor.Un
