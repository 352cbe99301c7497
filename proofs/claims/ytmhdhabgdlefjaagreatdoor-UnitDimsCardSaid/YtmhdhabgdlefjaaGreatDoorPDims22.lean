/- Units as values; a whole row stored into a box; the contract of the reference's Right. -/
import Derived.Test.YtmhdhabgdlefjaaGreatDoorPDims16
import Derived.Deep.RegionWith
import Derived.Test.YtmhdhabgdlefjaaGreatDoorPDims21
set_option maxRecDepth 100000
namespace Go.Proofs.YtmhdhabgdlefjaaGreatDoor.Un
open Go.RowKit Bi Dm

def uc (f : Nat → Int) (s : Int) (v : Value) (t : Int) (u : Value) : Array Value := #[.int .i64 (f 0), .int .i64 (f 1), .int .i64 (f 2), .int .i64 (f 3), .int .i64 (f 4), .int .i64 (f 5), .int .i64 s, v, .int .i64 t, u]
theorem Sf.row {w W : World} {pre post : List FBox} {F : List (Value × List Int)} {b : Nat} {ty : TypeId} {cs : List Value} (h : Sf w (pre ++ (b, ty, cs) :: post) F W) (cs' : List Value) :
    Sf w (pre ++ (b, ty, cs') :: post) F (W.setRow b cs'.toArray) := by
  have hm : (b, ty, cs) ∈ pre ++ (b, ty, cs) :: post := by simp
  have hwb : w.heap.size ≤ b := h.le _ hm
  have hbx := h.box _ hm
  have hne : ∀ x ∈ pre ++ (b, ty, cs') :: post, x = (b, ty, cs') ∨ (x ∈ pre ++ (b, ty, cs) :: post ∧ x.1 ≠ b) := by
    intro x hx
    have hp := h.pw
    rw [List.pairwise_append] at hp
    obtain ⟨_, p2, p3⟩ := hp
    rw [List.pairwise_cons] at p2
    rcases List.mem_append.1 hx with hx | hx
    · refine .inr ⟨List.mem_append_left _ hx, ?_⟩
      have := p3 x hx (b, ty, cs) (by simp)
      simp at this; omega
    · rcases List.mem_cons.1 hx with rfl | hx
      · exact .inl rfl
      · refine .inr ⟨List.mem_append_right _ (List.mem_cons_of_mem _ hx), ?_⟩
        have := p2.1 x hx
        simp at this; omega
  have hg : W.grownBy (W.setRow b cs'.toArray) (some b) := ⟨rfl, rfl, rfl, by simp, fun k _ hk => setRow_other W b k _ (fun e => hk (by rw [e]))⟩
  have hbl : (W.setRow b cs'.toArray).heap[b]? = some (.cells cs'.toArray ty (0, 0)) := setRow_heap W b _ _ _ _ hbx
  refine ⟨below_row h.below hwb _, fun x hx => ?_, fun x hx => ?_, fun f hf => (h.ints f hf).grown (h.off f hf _ hm) hg, fun f hf x hx => ?_, ?_⟩
  · rcases hne x hx with rfl | ⟨hx, _⟩
    · exact hwb
    · exact h.le x hx
  · rcases hne x hx with rfl | ⟨hx, hn⟩
    · exact hbl
    · have hq := h.box x hx
      show (W.setRow b cs'.toArray).heap[x.1]? = _
      rw [hg.block x.1 (h.lt x hx) (fun e => hn (by simpa using e))]
      exact hq
  · rcases hne x hx with rfl | ⟨hx, _⟩
    · show Off f.1 b; exact h.off f hf (b, ty, cs) hm
    · exact h.off f hf x hx
  · have hp := h.pw
    rw [List.pairwise_append, List.pairwise_cons] at hp ⊢
    refine ⟨hp.1, ⟨fun y hy => hp.2.1.1 y hy, hp.2.1.2⟩, fun x hx y hy => ?_⟩
    rcases List.mem_cons.1 hy with rfl | hy
    · exact hp.2.2 x hx (b, ty, cs) (by simp)
    · exact hp.2.2 x hx y (List.mem_cons_of_mem _ hy)
section
variable {α : Type _} {l : List α} {a x0 x1 x2 x3 x4 x5 x6 x7 x8 x9 x10 x11 x12 x13 x14 x15 x16 x17 x18 x19 x20 x21 x22 x23 x24 x25 x26 x27 x28 x29 x30 x31 x32 x33 x34 x35 x36 x37 x38 x39 : α}
theorem mq0 : a ∈ a :: l := List.mem_cons_self
theorem mq1 : a ∈ x0 :: a :: l := List.mem_cons_of_mem _ mq0
theorem mq2 : a ∈ x0 :: x1 :: a :: l := List.mem_cons_of_mem _ mq1
theorem mq3 : a ∈ x0 :: x1 :: x2 :: a :: l := List.mem_cons_of_mem _ mq2
theorem mq4 : a ∈ x0 :: x1 :: x2 :: x3 :: a :: l := List.mem_cons_of_mem _ mq3
theorem mq5 : a ∈ x0 :: x1 :: x2 :: x3 :: x4 :: a :: l := List.mem_cons_of_mem _ mq4
theorem mq6 : a ∈ x0 :: x1 :: x2 :: x3 :: x4 :: x5 :: a :: l := List.mem_cons_of_mem _ mq5
theorem mq7 : a ∈ x0 :: x1 :: x2 :: x3 :: x4 :: x5 :: x6 :: a :: l := List.mem_cons_of_mem _ mq6
theorem mq8 : a ∈ x0 :: x1 :: x2 :: x3 :: x4 :: x5 :: x6 :: x7 :: a :: l := List.mem_cons_of_mem _ mq7
theorem mq9 : a ∈ x0 :: x1 :: x2 :: x3 :: x4 :: x5 :: x6 :: x7 :: x8 :: a :: l := List.mem_cons_of_mem _ mq8
theorem mq10 : a ∈ x0 :: x1 :: x2 :: x3 :: x4 :: x5 :: x6 :: x7 :: x8 :: x9 :: a :: l := List.mem_cons_of_mem _ mq9
theorem mq11 : a ∈ x0 :: x1 :: x2 :: x3 :: x4 :: x5 :: x6 :: x7 :: x8 :: x9 :: x10 :: a :: l := List.mem_cons_of_mem _ mq10
theorem mq12 : a ∈ x0 :: x1 :: x2 :: x3 :: x4 :: x5 :: x6 :: x7 :: x8 :: x9 :: x10 :: x11 :: a :: l := List.mem_cons_of_mem _ mq11
theorem mq13 : a ∈ x0 :: x1 :: x2 :: x3 :: x4 :: x5 :: x6 :: x7 :: x8 :: x9 :: x10 :: x11 :: x12 :: a :: l := List.mem_cons_of_mem _ mq12
end
theorem Fb.cells6 {b : Nat} {ty : TypeId} {x0 x1 x2 x3 x4 x5 : Value} {W : World} (h : Fb (b, ty, [x0, x1, x2, x3, x4, x5]) W) : W.cell? ⟨b, 0, none⟩ = some x0 ∧ W.cell? ⟨b, 1, none⟩ = some x1 ∧ W.cell? ⟨b, 2, none⟩ = some x2 ∧ W.cell? ⟨b, 3, none⟩ = some x3 ∧ W.cell? ⟨b, 4, none⟩ = some x4 ∧ W.cell? ⟨b, 5, none⟩ = some x5 :=
  ⟨h.cell 0, h.cell 1, h.cell 2, h.cell 3, h.cell 4, h.cell 5⟩
theorem Fb.cells10 {b : Nat} {ty : TypeId} {x0 x1 x2 x3 x4 x5 x6 x7 x8 x9 : Value} {W : World} (h : Fb (b, ty, [x0, x1, x2, x3, x4, x5, x6, x7, x8, x9]) W) : W.cell? ⟨b, 0, none⟩ = some x0 ∧ W.cell? ⟨b, 1, none⟩ = some x1 ∧ W.cell? ⟨b, 2, none⟩ = some x2 ∧ W.cell? ⟨b, 3, none⟩ = some x3 ∧ W.cell? ⟨b, 4, none⟩ = some x4 ∧ W.cell? ⟨b, 5, none⟩ = some x5 ∧ W.cell? ⟨b, 6, none⟩ = some x6 ∧ W.cell? ⟨b, 7, none⟩ = some x7 ∧ W.cell? ⟨b, 8, none⟩ = some x8 ∧ W.cell? ⟨b, 9, none⟩ = some x9 :=
  ⟨h.cell 0, h.cell 1, h.cell 2, h.cell 3, h.cell 4, h.cell 5, h.cell 6, h.cell 7, h.cell 8, h.cell 9⟩
theorem ret_row {fn : Func} {p u : Tmp} {ty : TypeId} (h : fn.results = #[.cell p ty, .tmp u]) (tmps : Array Value) (w : World) (b : Nat) (cs : Array Value) (hp : tmps.getD p undef = .pointer (some ⟨b, 0, none⟩)) (hl : (loadVar ty ⟨b, 0, none⟩).run Tryz.prog w = .ok (.agg cs) w) :
    (results fn tmps).run Tryz.prog w = .ok (.tuple #[.agg cs, tmps.getD u undef]) w := by
  rw [results_cell_tmp h, hp]
  simp [asAddr, Result.andThen, hl]

end Go.Proofs.YtmhdhabgdlefjaaGreatDoor.Un
