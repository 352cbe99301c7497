/- Units as values; a whole row stored into a box; the contract of the reference's Right. -/
import Derived.Test.YtmhdhabgdlefjaaGreatDoorPTells16
import Derived.Test.YtmhdhabgdlefjaaGreatDoorPTells22
set_option maxRecDepth 100000
namespace Go.Proofs.YtmhdhabgdlefjaaGreatDoor.Un
open Go.RowKit Bi Dm

def uc (f : Nat → Int) (s : Int) (v : Value) (t : Int) (u : Value) : Array Value := #[.int .i64 (f 0), .int .i64 (f 1), .int .i64 (f 2), .int .i64 (f 3), .int .i64 (f 4), .int .i64 (f 5), .int .i64 s, v, .int .i64 t, u]
theorem Sf.row {w W : World} {pre post : List FBox} {F : List (Value × List Int)} {b : Nat} {ty : TypeId} {cs : List Value} (h : Sf w (pre ++ (b, ty, cs) :: post) F W) (cs' : List Value) :
    Sf w (pre ++ (b, ty, cs') :: post) F (W.setRow b cs'.toArray) := by
  have hm : (b, ty, cs) ∈ pre ++ (b, ty, cs) :: post := by simp
  have hwb : w.heap.size ≤ b := h.le _ hm
  have hbx := h.box _ hm
  have hne : ∀ x ∈ pre ++ (b, ty, cs') :: post, x = (b, ty, cs') ∨ (x ∈ pre ++ (b, ty, cs) :: post ∧ x.1 ≠ b) := by
    intro x hx
    have hp := h.pw
    rw [List.pairwise_append] at hp
    obtain ⟨_, p2, p3⟩ := hp
    rw [List.pairwise_cons] at p2
    rcases List.mem_append.1 hx with hx | hx
    · refine .inr ⟨List.mem_append_left _ hx, ?_⟩
      have := p3 x hx (b, ty, cs) (by simp)
      simp at this; omega
    · rcases List.mem_cons.1 hx with rfl | hx
      · exact .inl rfl
      · refine .inr ⟨List.mem_append_right _ (List.mem_cons_of_mem _ hx), ?_⟩
        have := p2.1 x hx
        simp at this; omega
  have hg : W.grownBy (W.setRow b cs'.toArray) (some b) := ⟨rfl, rfl, rfl, by simp, fun k _ hk => setRow_other W b k _ (fun e => hk (by rw [e]))⟩
  have hbl : (W.setRow b cs'.toArray).heap[b]? = some (.cells cs'.toArray ty (0, 0)) := setRow_heap W b _ _ _ _ hbx
  refine ⟨below_row h.below hwb _, fun x hx => ?_, fun x hx => ?_, fun f hf => (h.ints f hf).grown (h.off f hf _ hm) hg, fun f hf x hx => ?_, ?_⟩
  · rcases hne x hx with rfl | ⟨hx, _⟩
    · exact hwb
    · exact h.le x hx
  · rcases hne x hx with rfl | ⟨hx, hn⟩
    · exact hbl
    · have hq := h.box x hx
      show (W.setRow b cs'.toArray).heap[x.1]? = _
      rw [hg.block x.1 (h.lt x hx) (fun e => hn (by simpa using e))]
      exact hq
  · rcases hne x hx with rfl | ⟨hx, _⟩
    · show Off f.1 b; exact h.off f hf (b, ty, cs) hm
    · exact h.off f hf x hx
  · have hp := h.pw
    rw [List.pairwise_append, List.pairwise_cons] at hp ⊢
    refine ⟨hp.1, ⟨fun y hy => hp.2.1.1 y hy, hp.2.1.2⟩, fun x hx y hy => ?_⟩
    rcases List.mem_cons.1 hy with rfl | hy
    · exact hp.2.2 x hx (b, ty, cs) (by simp)
    · exact hp.2.2 x hx y (List.mem_cons_of_mem _ hy)
section
variable {α : Type _} {l : List α} {a x0 x1 x2 x3 x4 x5 x6 x7 x8 x9 x10 x11 x12 x13 x14 x15 x16 x17 x18 x19 x20 x21 x22 x23 x24 x25 x26 x27 x28 x29 x30 x31 x32 x33 x34 x35 x36 x37 x38 x39 : α}
theorem mq0 : a ∈ a :: l := List.mem_cons_self
theorem mq1 : a ∈ x0 :: a :: l := List.mem_cons_of_mem _ mq0
theorem mq2 : a ∈ x0 :: x1 :: a :: l := List.mem_cons_of_mem _ mq1
theorem mq3 : a ∈ x0 :: x1 :: x2 :: a :: l := List.mem_cons_of_mem _ mq2
theorem mq4 : a ∈ x0 :: x1 :: x2 :: x3 :: a :: l := List.mem_cons_of_mem _ mq3
theorem mq5 : a ∈ x0 :: x1 :: x2 :: x3 :: x4 :: a :: l := List.mem_cons_of_mem _ mq4
theorem mq6 : a ∈ x0 :: x1 :: x2 :: x3 :: x4 :: x5 :: a :: l := List.mem_cons_of_mem _ mq5
theorem mq7 : a ∈ x0 :: x1 :: x2 :: x3 :: x4 :: x5 :: x6 :: a :: l := List.mem_cons_of_mem _ mq6
theorem mq8 : a ∈ x0 :: x1 :: x2 :: x3 :: x4 :: x5 :: x6 :: x7 :: a :: l := List.mem_cons_of_mem _ mq7
theorem mq9 : a ∈ x0 :: x1 :: x2 :: x3 :: x4 :: x5 :: x6 :: x7 :: x8 :: a :: l := List.mem_cons_of_mem _ mq8
theorem mq10 : a ∈ x0 :: x1 :: x2 :: x3 :: x4 :: x5 :: x6 :: x7 :: x8 :: x9 :: a :: l := List.mem_cons_of_mem _ mq9
theorem mq11 : a ∈ x0 :: x1 :: x2 :: x3 :: x4 :: x5 :: x6 :: x7 :: x8 :: x9 :: x10 :: a :: l := List.mem_cons_of_mem _ mq10
theorem mq12 : a ∈ x0 :: x1 :: x2 :: x3 :: x4 :: x5 :: x6 :: x7 :: x8 :: x9 :: x10 :: x11 :: a :: l := List.mem_cons_of_mem _ mq11
theorem mq13 : a ∈ x0 :: x1 :: x2 :: x3 :: x4 :: x5 :: x6 :: x7 :: x8 :: x9 :: x10 :: x11 :: x12 :: a :: l := List.mem_cons_of_mem _ mq12
theorem mq14 : a ∈ x0 :: x1 :: x2 :: x3 :: x4 :: x5 :: x6 :: x7 :: x8 :: x9 :: x10 :: x11 :: x12 :: x13 :: a :: l := List.mem_cons_of_mem _ mq13
theorem mq15 : a ∈ x0 :: x1 :: x2 :: x3 :: x4 :: x5 :: x6 :: x7 :: x8 :: x9 :: x10 :: x11 :: x12 :: x13 :: x14 :: a :: l := List.mem_cons_of_mem _ mq14
theorem mq16 : a ∈ x0 :: x1 :: x2 :: x3 :: x4 :: x5 :: x6 :: x7 :: x8 :: x9 :: x10 :: x11 :: x12 :: x13 :: x14 :: x15 :: a :: l := List.mem_cons_of_mem _ mq15
theorem mq17 : a ∈ x0 :: x1 :: x2 :: x3 :: x4 :: x5 :: x6 :: x7 :: x8 :: x9 :: x10 :: x11 :: x12 :: x13 :: x14 :: x15 :: x16 :: a :: l := List.mem_cons_of_mem _ mq16
theorem mq18 : a ∈ x0 :: x1 :: x2 :: x3 :: x4 :: x5 :: x6 :: x7 :: x8 :: x9 :: x10 :: x11 :: x12 :: x13 :: x14 :: x15 :: x16 :: x17 :: a :: l := List.mem_cons_of_mem _ mq17
theorem mq19 : a ∈ x0 :: x1 :: x2 :: x3 :: x4 :: x5 :: x6 :: x7 :: x8 :: x9 :: x10 :: x11 :: x12 :: x13 :: x14 :: x15 :: x16 :: x17 :: x18 :: a :: l := List.mem_cons_of_mem _ mq18
theorem mq20 : a ∈ x0 :: x1 :: x2 :: x3 :: x4 :: x5 :: x6 :: x7 :: x8 :: x9 :: x10 :: x11 :: x12 :: x13 :: x14 :: x15 :: x16 :: x17 :: x18 :: x19 :: a :: l := List.mem_cons_of_mem _ mq19
theorem mq21 : a ∈ x0 :: x1 :: x2 :: x3 :: x4 :: x5 :: x6 :: x7 :: x8 :: x9 :: x10 :: x11 :: x12 :: x13 :: x14 :: x15 :: x16 :: x17 :: x18 :: x19 :: x20 :: a :: l := List.mem_cons_of_mem _ mq20
theorem mq22 : a ∈ x0 :: x1 :: x2 :: x3 :: x4 :: x5 :: x6 :: x7 :: x8 :: x9 :: x10 :: x11 :: x12 :: x13 :: x14 :: x15 :: x16 :: x17 :: x18 :: x19 :: x20 :: x21 :: a :: l := List.mem_cons_of_mem _ mq21
theorem mq23 : a ∈ x0 :: x1 :: x2 :: x3 :: x4 :: x5 :: x6 :: x7 :: x8 :: x9 :: x10 :: x11 :: x12 :: x13 :: x14 :: x15 :: x16 :: x17 :: x18 :: x19 :: x20 :: x21 :: x22 :: a :: l := List.mem_cons_of_mem _ mq22
theorem mq24 : a ∈ x0 :: x1 :: x2 :: x3 :: x4 :: x5 :: x6 :: x7 :: x8 :: x9 :: x10 :: x11 :: x12 :: x13 :: x14 :: x15 :: x16 :: x17 :: x18 :: x19 :: x20 :: x21 :: x22 :: x23 :: a :: l := List.mem_cons_of_mem _ mq23
theorem mq25 : a ∈ x0 :: x1 :: x2 :: x3 :: x4 :: x5 :: x6 :: x7 :: x8 :: x9 :: x10 :: x11 :: x12 :: x13 :: x14 :: x15 :: x16 :: x17 :: x18 :: x19 :: x20 :: x21 :: x22 :: x23 :: x24 :: a :: l := List.mem_cons_of_mem _ mq24
end
theorem Fb.cells6 {b : Nat} {ty : TypeId} {x0 x1 x2 x3 x4 x5 : Value} {W : World} (h : Fb (b, ty, [x0, x1, x2, x3, x4, x5]) W) : W.cell? ⟨b, 0, none⟩ = some x0 ∧ W.cell? ⟨b, 1, none⟩ = some x1 ∧ W.cell? ⟨b, 2, none⟩ = some x2 ∧ W.cell? ⟨b, 3, none⟩ = some x3 ∧ W.cell? ⟨b, 4, none⟩ = some x4 ∧ W.cell? ⟨b, 5, none⟩ = some x5 :=
  ⟨h.cell 0, h.cell 1, h.cell 2, h.cell 3, h.cell 4, h.cell 5⟩
theorem Fb.cells10 {b : Nat} {ty : TypeId} {x0 x1 x2 x3 x4 x5 x6 x7 x8 x9 : Value} {W : World} (h : Fb (b, ty, [x0, x1, x2, x3, x4, x5, x6, x7, x8, x9]) W) : W.cell? ⟨b, 0, none⟩ = some x0 ∧ W.cell? ⟨b, 1, none⟩ = some x1 ∧ W.cell? ⟨b, 2, none⟩ = some x2 ∧ W.cell? ⟨b, 3, none⟩ = some x3 ∧ W.cell? ⟨b, 4, none⟩ = some x4 ∧ W.cell? ⟨b, 5, none⟩ = some x5 ∧ W.cell? ⟨b, 6, none⟩ = some x6 ∧ W.cell? ⟨b, 7, none⟩ = some x7 ∧ W.cell? ⟨b, 8, none⟩ = some x8 ∧ W.cell? ⟨b, 9, none⟩ = some x9 :=
  ⟨h.cell 0, h.cell 1, h.cell 2, h.cell 3, h.cell 4, h.cell 5, h.cell 6, h.cell 7, h.cell 8, h.cell 9⟩
theorem ret_row {fn : Func} {p u : Tmp} {ty : TypeId} (h : fn.results = #[.cell p ty, .tmp u]) (tmps : Array Value) (w : World) (b : Nat) (cs : Array Value) (hp : tmps.getD p undef = .pointer (some ⟨b, 0, none⟩)) (hl : (loadVar ty ⟨b, 0, none⟩).run Tryz.prog w = .ok (.agg cs) w) :
    (results fn tmps).run Tryz.prog w = .ok (.tuple #[.agg cs, tmps.getD u undef]) w := by
  rw [results_cell_tmp h, hp]
  simp [asAddr, Result.andThen, hl]

set_option maxHeartbeats 2000000 in
theorem u9right_k {w : World} {f : Nat → Int} {s : Int} {aa ba : Option Addr} {na ca ma da : Nat} {r : Rat} (hf : ok f = true) (h : Fr w s (.slice aa na ca) (.slice ba ma da) r) (l : FSz 1000 r) {b : Bool} (hb : decide (0 < r.num.sign) = b) :
    Calls Tryz.prog 23 #[.agg (uc f s (.slice aa na ca) 1 (.slice ba ma da))] w fun e w' => e = .returned (.bool b) ∧ RowKit.Below w.heap.size w w' := by
  have HR := Lib.hid (fun w => r8right_any f w)
  rw [hf] at HR
  have HF : Hid (∀ W, RowKit.Below w.heap.size w W → Calls Tryz.prog 48 #[.agg #[.int .i64 s, .slice aa na ca, .int .i64 1, .slice ba ma da]] W fun e w' => e = .returned (.bool true) ∧ RowKit.Below W.heap.size W w') := fun W hW => rfright_k (h.later hW) l
  have HS : Hid (∀ W, RowKit.Below w.heap.size w W → Calls Tryz.prog 51 #[.agg #[.int .i64 s, .slice aa na ca, .int .i64 1, .slice ba ma da]] W fun e w' => e = .returned (.int .i64 r.num.sign) ∧ RowKit.Below W.heap.size W w') := fun W hW => rfsign_k (h.later hW) l
  obtain ⟨k, hk⟩ : ∃ k, r.num.sign = k := ⟨_, rfl⟩
  rw [hk] at HS hb
  have HK := Lib.hid hb
  have B0 : Hid (∀ O, RowKit.Below w.heap.size w (w.alloc O)) := Lib.hid (fun O => Bi.below_alloc w O)
  have C0 : Hid (∀ W, RowKit.Below (w.alloc (.cells (uc f s (.slice aa na ca) 1 (.slice ba ma da)) 30)).heap.size (w.alloc (.cells (uc f s (.slice aa na ca) 1 (.slice ba ma da)) 30)) W → W.heap[w.heap.size]? = some (.cells (uc f s (.slice aa na ca) 1 (.slice ba ma da)) 30)) := Lib.hid (fun W hW => (hW.block _ (by simp)).trans (Bi.alloc_at w _))
  clear hk hf h l hb
  unfold uc at C0 ⊢
  go_enter Tryz.func23, Tryz.ntmps23
  go_wp2_with fail
  refine (HR.out _).mono ?_
  rintro e w1 ⟨rfl, hb1⟩
  have G1 := C0.out w1 hb1
  have HB1 := Lib.hid ((B0.out _).trans (hb1.mono (B0.out _).size))
  have c6 := cell_of_row w1 w.heap.size 6 _ _ _ G1
  have c7 := cell_of_row w1 w.heap.size 7 _ _ _ G1
  have c8 := cell_of_row w1 w.heap.size 8 _ _ _ G1
  have c9 := cell_of_row w1 w.heap.size 9 _ _ _ G1
  simp at c6 c7 c8 c9
  have HQ1 := Lib.hid hb1
  clear hb1 G1
  go_wp2_with fail
  refine (HF.out _ HB1.out).mono ?_
  rintro e w2 ⟨rfl, hb2⟩
  have HB2 := Lib.hid (HB1.out.trans (hb2.mono HB1.out.size))
  have G2 := C0.out w2 (HQ1.out.trans (hb2.mono HQ1.out.size))
  have d6 := cell_of_row w2 w.heap.size 6 _ _ _ G2
  have d7 := cell_of_row w2 w.heap.size 7 _ _ _ G2
  have d8 := cell_of_row w2 w.heap.size 8 _ _ _ G2
  have d9 := cell_of_row w2 w.heap.size 9 _ _ _ G2
  simp at d6 d7 d8 d9
  clear hb2 G2 c6 c7 c8 c9
  go_wp2_with fail
  refine (HS.out _ HB2.out).mono ?_
  rintro e w3 ⟨rfl, hb3⟩
  have HB3 := Lib.hid (HB2.out.trans (hb3.mono HB2.out.size))
  clear hb3 d6 d7 d8 d9
  go_wp2_with fail
  go_ret
  exact ⟨by rw [← HK.out]; rfl, HB3.out⟩

end Go.Proofs.YtmhdhabgdlefjaaGreatDoor.Un
