/- Boxes of spans; a whole row, and four cells, stored into a box; what makes a span valid. The contracts of the reference of span: Right. The contracts of the reference of span: Has, Width, Point. The contracts of the reference of span: Op. -/
import Derived.Deep.RegionHeld3
import Derived.Deep.CutRange
import Derived.Deep.CutBlock
import Derived.Lib.ReflectliteSwap
import Derived.Test.YtgncnkojpedmdaaGreatPTells14
set_option maxRecDepth 100000
namespace Go.Proofs.YtgncnkojpedmdaaGreat.Sp
open Go.RowKit Bi

section
variable {α : Type _} {l : List α} {a x0 x1 x2 x3 x4 x5 x6 x7 x8 x9 x10 x11 x12 x13 x14 x15 x16 x17 x18 x19 x20 x21 x22 x23 x24 x25 x26 x27 x28 x29 x30 x31 x32 x33 x34 x35 x36 x37 x38 x39 : α}
theorem mq0 : a ∈ a :: l := List.mem_cons_self
theorem mq1 : a ∈ x0 :: a :: l := List.mem_cons_of_mem _ mq0
theorem mq2 : a ∈ x0 :: x1 :: a :: l := List.mem_cons_of_mem _ mq1
theorem mq3 : a ∈ x0 :: x1 :: x2 :: a :: l := List.mem_cons_of_mem _ mq2
theorem mq4 : a ∈ x0 :: x1 :: x2 :: x3 :: a :: l := List.mem_cons_of_mem _ mq3
theorem mq5 : a ∈ x0 :: x1 :: x2 :: x3 :: x4 :: a :: l := List.mem_cons_of_mem _ mq4
theorem mq6 : a ∈ x0 :: x1 :: x2 :: x3 :: x4 :: x5 :: a :: l := List.mem_cons_of_mem _ mq5
theorem mq7 : a ∈ x0 :: x1 :: x2 :: x3 :: x4 :: x5 :: x6 :: a :: l := List.mem_cons_of_mem _ mq6
theorem mq8 : a ∈ x0 :: x1 :: x2 :: x3 :: x4 :: x5 :: x6 :: x7 :: a :: l := List.mem_cons_of_mem _ mq7
theorem mq9 : a ∈ x0 :: x1 :: x2 :: x3 :: x4 :: x5 :: x6 :: x7 :: x8 :: a :: l := List.mem_cons_of_mem _ mq8
theorem mq10 : a ∈ x0 :: x1 :: x2 :: x3 :: x4 :: x5 :: x6 :: x7 :: x8 :: x9 :: a :: l := List.mem_cons_of_mem _ mq9
theorem mq11 : a ∈ x0 :: x1 :: x2 :: x3 :: x4 :: x5 :: x6 :: x7 :: x8 :: x9 :: x10 :: a :: l := List.mem_cons_of_mem _ mq10
theorem mq12 : a ∈ x0 :: x1 :: x2 :: x3 :: x4 :: x5 :: x6 :: x7 :: x8 :: x9 :: x10 :: x11 :: a :: l := List.mem_cons_of_mem _ mq11
theorem mq13 : a ∈ x0 :: x1 :: x2 :: x3 :: x4 :: x5 :: x6 :: x7 :: x8 :: x9 :: x10 :: x11 :: x12 :: a :: l := List.mem_cons_of_mem _ mq12
theorem mq14 : a ∈ x0 :: x1 :: x2 :: x3 :: x4 :: x5 :: x6 :: x7 :: x8 :: x9 :: x10 :: x11 :: x12 :: x13 :: a :: l := List.mem_cons_of_mem _ mq13
theorem mq15 : a ∈ x0 :: x1 :: x2 :: x3 :: x4 :: x5 :: x6 :: x7 :: x8 :: x9 :: x10 :: x11 :: x12 :: x13 :: x14 :: a :: l := List.mem_cons_of_mem _ mq14
theorem mq16 : a ∈ x0 :: x1 :: x2 :: x3 :: x4 :: x5 :: x6 :: x7 :: x8 :: x9 :: x10 :: x11 :: x12 :: x13 :: x14 :: x15 :: a :: l := List.mem_cons_of_mem _ mq15
theorem mq17 : a ∈ x0 :: x1 :: x2 :: x3 :: x4 :: x5 :: x6 :: x7 :: x8 :: x9 :: x10 :: x11 :: x12 :: x13 :: x14 :: x15 :: x16 :: a :: l := List.mem_cons_of_mem _ mq16
theorem mq18 : a ∈ x0 :: x1 :: x2 :: x3 :: x4 :: x5 :: x6 :: x7 :: x8 :: x9 :: x10 :: x11 :: x12 :: x13 :: x14 :: x15 :: x16 :: x17 :: a :: l := List.mem_cons_of_mem _ mq17
theorem mq19 : a ∈ x0 :: x1 :: x2 :: x3 :: x4 :: x5 :: x6 :: x7 :: x8 :: x9 :: x10 :: x11 :: x12 :: x13 :: x14 :: x15 :: x16 :: x17 :: x18 :: a :: l := List.mem_cons_of_mem _ mq18
theorem mq20 : a ∈ x0 :: x1 :: x2 :: x3 :: x4 :: x5 :: x6 :: x7 :: x8 :: x9 :: x10 :: x11 :: x12 :: x13 :: x14 :: x15 :: x16 :: x17 :: x18 :: x19 :: a :: l := List.mem_cons_of_mem _ mq19
theorem mq21 : a ∈ x0 :: x1 :: x2 :: x3 :: x4 :: x5 :: x6 :: x7 :: x8 :: x9 :: x10 :: x11 :: x12 :: x13 :: x14 :: x15 :: x16 :: x17 :: x18 :: x19 :: x20 :: a :: l := List.mem_cons_of_mem _ mq20
theorem mq22 : a ∈ x0 :: x1 :: x2 :: x3 :: x4 :: x5 :: x6 :: x7 :: x8 :: x9 :: x10 :: x11 :: x12 :: x13 :: x14 :: x15 :: x16 :: x17 :: x18 :: x19 :: x20 :: x21 :: a :: l := List.mem_cons_of_mem _ mq21
theorem mq23 : a ∈ x0 :: x1 :: x2 :: x3 :: x4 :: x5 :: x6 :: x7 :: x8 :: x9 :: x10 :: x11 :: x12 :: x13 :: x14 :: x15 :: x16 :: x17 :: x18 :: x19 :: x20 :: x21 :: x22 :: a :: l := List.mem_cons_of_mem _ mq22
theorem mq24 : a ∈ x0 :: x1 :: x2 :: x3 :: x4 :: x5 :: x6 :: x7 :: x8 :: x9 :: x10 :: x11 :: x12 :: x13 :: x14 :: x15 :: x16 :: x17 :: x18 :: x19 :: x20 :: x21 :: x22 :: x23 :: a :: l := List.mem_cons_of_mem _ mq23
theorem mq25 : a ∈ x0 :: x1 :: x2 :: x3 :: x4 :: x5 :: x6 :: x7 :: x8 :: x9 :: x10 :: x11 :: x12 :: x13 :: x14 :: x15 :: x16 :: x17 :: x18 :: x19 :: x20 :: x21 :: x22 :: x23 :: x24 :: a :: l := List.mem_cons_of_mem _ mq24
theorem mq26 : a ∈ x0 :: x1 :: x2 :: x3 :: x4 :: x5 :: x6 :: x7 :: x8 :: x9 :: x10 :: x11 :: x12 :: x13 :: x14 :: x15 :: x16 :: x17 :: x18 :: x19 :: x20 :: x21 :: x22 :: x23 :: x24 :: x25 :: a :: l := List.mem_cons_of_mem _ mq25
theorem mq27 : a ∈ x0 :: x1 :: x2 :: x3 :: x4 :: x5 :: x6 :: x7 :: x8 :: x9 :: x10 :: x11 :: x12 :: x13 :: x14 :: x15 :: x16 :: x17 :: x18 :: x19 :: x20 :: x21 :: x22 :: x23 :: x24 :: x25 :: x26 :: a :: l := List.mem_cons_of_mem _ mq26
theorem mq28 : a ∈ x0 :: x1 :: x2 :: x3 :: x4 :: x5 :: x6 :: x7 :: x8 :: x9 :: x10 :: x11 :: x12 :: x13 :: x14 :: x15 :: x16 :: x17 :: x18 :: x19 :: x20 :: x21 :: x22 :: x23 :: x24 :: x25 :: x26 :: x27 :: a :: l := List.mem_cons_of_mem _ mq27
theorem mq29 : a ∈ x0 :: x1 :: x2 :: x3 :: x4 :: x5 :: x6 :: x7 :: x8 :: x9 :: x10 :: x11 :: x12 :: x13 :: x14 :: x15 :: x16 :: x17 :: x18 :: x19 :: x20 :: x21 :: x22 :: x23 :: x24 :: x25 :: x26 :: x27 :: x28 :: a :: l := List.mem_cons_of_mem _ mq28
theorem mq30 : a ∈ x0 :: x1 :: x2 :: x3 :: x4 :: x5 :: x6 :: x7 :: x8 :: x9 :: x10 :: x11 :: x12 :: x13 :: x14 :: x15 :: x16 :: x17 :: x18 :: x19 :: x20 :: x21 :: x22 :: x23 :: x24 :: x25 :: x26 :: x27 :: x28 :: x29 :: a :: l := List.mem_cons_of_mem _ mq29
theorem mq31 : a ∈ x0 :: x1 :: x2 :: x3 :: x4 :: x5 :: x6 :: x7 :: x8 :: x9 :: x10 :: x11 :: x12 :: x13 :: x14 :: x15 :: x16 :: x17 :: x18 :: x19 :: x20 :: x21 :: x22 :: x23 :: x24 :: x25 :: x26 :: x27 :: x28 :: x29 :: x30 :: a :: l := List.mem_cons_of_mem _ mq30
theorem mq32 : a ∈ x0 :: x1 :: x2 :: x3 :: x4 :: x5 :: x6 :: x7 :: x8 :: x9 :: x10 :: x11 :: x12 :: x13 :: x14 :: x15 :: x16 :: x17 :: x18 :: x19 :: x20 :: x21 :: x22 :: x23 :: x24 :: x25 :: x26 :: x27 :: x28 :: x29 :: x30 :: x31 :: a :: l := List.mem_cons_of_mem _ mq31
theorem mq33 : a ∈ x0 :: x1 :: x2 :: x3 :: x4 :: x5 :: x6 :: x7 :: x8 :: x9 :: x10 :: x11 :: x12 :: x13 :: x14 :: x15 :: x16 :: x17 :: x18 :: x19 :: x20 :: x21 :: x22 :: x23 :: x24 :: x25 :: x26 :: x27 :: x28 :: x29 :: x30 :: x31 :: x32 :: a :: l := List.mem_cons_of_mem _ mq32
theorem mq34 : a ∈ x0 :: x1 :: x2 :: x3 :: x4 :: x5 :: x6 :: x7 :: x8 :: x9 :: x10 :: x11 :: x12 :: x13 :: x14 :: x15 :: x16 :: x17 :: x18 :: x19 :: x20 :: x21 :: x22 :: x23 :: x24 :: x25 :: x26 :: x27 :: x28 :: x29 :: x30 :: x31 :: x32 :: x33 :: a :: l := List.mem_cons_of_mem _ mq33
theorem mq35 : a ∈ x0 :: x1 :: x2 :: x3 :: x4 :: x5 :: x6 :: x7 :: x8 :: x9 :: x10 :: x11 :: x12 :: x13 :: x14 :: x15 :: x16 :: x17 :: x18 :: x19 :: x20 :: x21 :: x22 :: x23 :: x24 :: x25 :: x26 :: x27 :: x28 :: x29 :: x30 :: x31 :: x32 :: x33 :: x34 :: a :: l := List.mem_cons_of_mem _ mq34
theorem mq36 : a ∈ x0 :: x1 :: x2 :: x3 :: x4 :: x5 :: x6 :: x7 :: x8 :: x9 :: x10 :: x11 :: x12 :: x13 :: x14 :: x15 :: x16 :: x17 :: x18 :: x19 :: x20 :: x21 :: x22 :: x23 :: x24 :: x25 :: x26 :: x27 :: x28 :: x29 :: x30 :: x31 :: x32 :: x33 :: x34 :: x35 :: a :: l := List.mem_cons_of_mem _ mq35
theorem mq37 : a ∈ x0 :: x1 :: x2 :: x3 :: x4 :: x5 :: x6 :: x7 :: x8 :: x9 :: x10 :: x11 :: x12 :: x13 :: x14 :: x15 :: x16 :: x17 :: x18 :: x19 :: x20 :: x21 :: x22 :: x23 :: x24 :: x25 :: x26 :: x27 :: x28 :: x29 :: x30 :: x31 :: x32 :: x33 :: x34 :: x35 :: x36 :: a :: l := List.mem_cons_of_mem _ mq36
theorem mq38 : a ∈ x0 :: x1 :: x2 :: x3 :: x4 :: x5 :: x6 :: x7 :: x8 :: x9 :: x10 :: x11 :: x12 :: x13 :: x14 :: x15 :: x16 :: x17 :: x18 :: x19 :: x20 :: x21 :: x22 :: x23 :: x24 :: x25 :: x26 :: x27 :: x28 :: x29 :: x30 :: x31 :: x32 :: x33 :: x34 :: x35 :: x36 :: x37 :: a :: l := List.mem_cons_of_mem _ mq37
theorem mq39 : a ∈ x0 :: x1 :: x2 :: x3 :: x4 :: x5 :: x6 :: x7 :: x8 :: x9 :: x10 :: x11 :: x12 :: x13 :: x14 :: x15 :: x16 :: x17 :: x18 :: x19 :: x20 :: x21 :: x22 :: x23 :: x24 :: x25 :: x26 :: x27 :: x28 :: x29 :: x30 :: x31 :: x32 :: x33 :: x34 :: x35 :: x36 :: x37 :: x38 :: a :: l := List.mem_cons_of_mem _ mq38
end
theorem Fb.cells8 {b : Nat} {ty : TypeId} {x0 x1 x2 x3 x4 x5 x6 x7 : Value} {W : World} (h : Fb (b, ty, [x0, x1, x2, x3, x4, x5, x6, x7]) W) : W.cell? ⟨b, 0, none⟩ = some x0 ∧ W.cell? ⟨b, 1, none⟩ = some x1 ∧ W.cell? ⟨b, 2, none⟩ = some x2 ∧ W.cell? ⟨b, 3, none⟩ = some x3 ∧ W.cell? ⟨b, 4, none⟩ = some x4 ∧ W.cell? ⟨b, 5, none⟩ = some x5 ∧ W.cell? ⟨b, 6, none⟩ = some x6 ∧ W.cell? ⟨b, 7, none⟩ = some x7 :=
 ⟨h.cell 0, h.cell 1, h.cell 2, h.cell 3, h.cell 4, h.cell 5, h.cell 6, h.cell 7⟩
theorem below_row {B : Nat} {a w : World} (h : RowKit.Below B a w) {b : Nat} (hb : B ≤ b) (c : Array Value) : RowKit.Below B a (w.setRow b c) :=
 ⟨h.os, h.tape, h.output, by simpa using h.size, fun k hk => (setRow_other w b k c (by omega)).trans (h.block k hk)⟩
theorem Sf.row {w W : World} {pre post : List FBox} {F : List (Value × List Int)} {b : Nat} {ty : TypeId} {cs : List Value} (h : Sf w (pre ++ (b, ty, cs) :: post) F W) (cs' : List Value) :
  Sf w (pre ++ (b, ty, cs') :: post) F (W.setRow b cs'.toArray) := by
 have hm : (b, ty, cs) ∈ pre ++ (b, ty, cs) :: post := by simp
 have hwb : w.heap.size ≤ b := h.le _ hm
 have hbx := h.box _ hm
 have hne : ∀ x ∈ pre ++ (b, ty, cs') :: post, x = (b, ty, cs') ∨ (x ∈ pre ++ (b, ty, cs) :: post ∧ x.1 ≠ b) := by
  intro x hx
  have hp := h.pw
  rw [List.pairwise_append] at hp
  obtain ⟨_, p2, p3⟩ := hp
  rw [List.pairwise_cons] at p2
  rcases List.mem_append.1 hx with hx | hx
  ·refine .inr ⟨List.mem_append_left _ hx, ?_⟩
   have := p3 x hx (b, ty, cs) (by simp)
   simp at this; omega
  ·rcases List.mem_cons.1 hx with rfl | hx
   ·exact .inl rfl
   ·refine .inr ⟨List.mem_append_right _ (List.mem_cons_of_mem _ hx), ?_⟩
    have := p2.1 x hx
    simp at this; omega
 have hg : W.grownBy (W.setRow b cs'.toArray) (some b) := ⟨rfl, rfl, rfl, by simp, fun k _ hk => setRow_other W b k _ (fun e => hk (by rw [e]))⟩
 have hbl : (W.setRow b cs'.toArray).heap[b]? = some (.cells cs'.toArray ty (0, 0)) := setRow_heap W b _ _ _ _ hbx
 refine ⟨below_row h.below hwb _, fun x hx => ?_, fun x hx => ?_, fun f hf => (h.ints f hf).grown (h.off f hf _ hm) hg, fun f hf x hx => ?_, ?_⟩
 ·rcases hne x hx with rfl | ⟨hx, _⟩
  ·exact hwb
  ·exact h.le x hx
 ·rcases hne x hx with rfl | ⟨hx, hn⟩
  ·exact hbl
  ·have hq := h.box x hx
   show (W.setRow b cs'.toArray).heap[x.1]? = _
   rw [hg.block x.1 (h.lt x hx) (fun e => hn (by simpa using e))]
   exact hq
 ·rcases hne x hx with rfl | ⟨hx, _⟩
  ·show Off f.1 b; exact h.off f hf (b, ty, cs) hm
  ·exact h.off f hf x hx
 ·have hp := h.pw
  rw [List.pairwise_append, List.pairwise_cons] at hp ⊢
  refine ⟨hp.1, ⟨fun y hy => hp.2.1.1 y hy, hp.2.1.2⟩, fun x hx y hy => ?_⟩
  rcases List.mem_cons.1 hy with rfl | hy
  ·exact hp.2.2 x hx (b, ty, cs) (by simp)
  ·exact hp.2.2 x hx y (List.mem_cons_of_mem _ hy)
theorem ret_row {fn : Func} {p u : Tmp} {ty : TypeId} (h : fn.results = #[.cell p ty, .tmp u]) (tmps : Array Value) (w : World) (b : Nat) (cs : Array Value) (hp : tmps.getD p undef = .pointer (some ⟨b, 0, none⟩)) (hl : (loadVar ty ⟨b, 0, none⟩).run Tryz.prog w = .ok (.agg cs) w) :
  (results fn tmps).run Tryz.prog w = .ok (.tuple #[.agg cs, tmps.getD u undef]) w := by
 rw [results_cell_tmp h, hp]
 simp [asAddr, Result.andThen, hl]

theorem wpList_store4 {ops : Array Oper} {rest : List Oper} {o : Oper} {a : Act} {w : World} {Q : Exit → Act → World → Prop} (hgd : o.guard = none) (ty : TypeId) (x y : Operand) (ho : o.op = .store ty x y)
  (g k k1 k2 k3 : Nat) (e1 : k1 = k + 1) (e2 : k2 = k + 2) (e3 : k3 = k + 3) (v0 v1 v2 v3 : Value) (hx : a.eval x = .pointer (some ⟨g, k, none⟩)) (hy : a.eval y = .agg #[v0, v1, v2, v3])
  {cs : List Value} {t : TypeId} (hb : Fb (g, t, cs) w) (hk : k + 4 ≤ cs.length) (hi : ∃ ie, Tryz.prog.info? ty = some ie ∧ 4 = ie.size) (h1 : ∀ v ∈ [v0, v1, v2, v3], v.oneCell' = true)
  (h : wpList Tryz.prog ops Q rest (a.put o.dst undef) ((((w.setCell ⟨g, k, none⟩ v0).setCell ⟨g, k1, none⟩ v1).setCell ⟨g, k2, none⟩ v2).setCell ⟨g, k3, none⟩ v3)) : wpList Tryz.prog ops Q (o :: rest) a w := by
 obtain ⟨ie, hie, hs⟩ := hi
 subst e1 e2 e3
 refine wpList_plain hgd fun _ hK => ?_
 have hr := Lib.rl_storeVar_cells (P := Tryz.prog) ty ie hie g k [v0, v1, v2, v3] hs h1 w
  (fun j hj => by rw [hb.cell, List.getElem?_eq_getElem (by simp at hj; omega)]; rfl) (fun j hj => hb.free _)
 have h2 := hK _ _ h
 unfold Oper.wp execOp
 simp only [ho, hx, hy, Instr.storeAt, Instr.sureAddr, Sem.run_bind, Sem.run_pure, Result.andThen_ok, hr]
 exact h2
theorem Sf.part {w W : World} {pre post : List FBox} {F : List (Value × List Int)} {b : Nat} {ty : TypeId} {cs : List Value} (h : Sf w (pre ++ (b, ty, cs) :: post) F W) (k k1 k2 k3 : Nat) (_e1 : k1 = k + 1) (_e2 : k2 = k + 2) (_e3 : k3 = k + 3) (v0 v1 v2 v3 : Value) :
  Sf w (pre ++ (b, ty, (((cs.set k v0).set k1 v1).set k2 v2).set k3 v3) :: post) F ((((W.setCell ⟨b, k, none⟩ v0).setCell ⟨b, k1, none⟩ v1).setCell ⟨b, k2, none⟩ v2).setCell ⟨b, k3, none⟩ v3) :=
 (((h.set k v0).set k1 v1).set k2 v2).set k3 v3
theorem infoFrac : ∃ ie, Tryz.prog.info? 26 = some ie ∧ 4 = ie.size := ⟨_, rfl, rfl⟩

theorem Sf.facts {w W : World} {L : List FBox} {F F' : List (Value × List Int)} (h : Sf w L F W) (hs : ∀ f ∈ F', f ∈ F) : Sf w L F' W :=
 ⟨h.below, h.le, h.box, fun f hf => h.ints f (hs f hf), fun f hf => h.off f (hs f hf), h.pw⟩

theorem Sf.tail {w W : World} {x : FBox} {L : List FBox} {F : List (Value × List Int)} (h : Sf w (x :: L) F W) : Sf w L F W :=
 ⟨h.below, fun y hy => h.le y (List.mem_cons_of_mem _ hy), fun y hy => h.box y (List.mem_cons_of_mem _ hy), h.ints, fun f hf y hy => h.off f hf y (List.mem_cons_of_mem _ hy), (List.pairwise_cons.1 h.pw).2⟩

/-- The rational of a fraction's cells. -/
def ratOf (s : Int) (l k : List Int) : Rat := Rat.divInt (s * val l) (val k)
theorem ratOf_is (r : Rat) : ratOf r.num.sign (digs r.num.natAbs) (digs (r.den : Int).natAbs) = r := by
 unfold ratOf
 rw [digs_val, digs_val, Int.sign_mul_natAbs, show (((r.den : Int).natAbs : Nat) : Int) = (r.den : Int) by simp]
 exact Rat.num_divInt_den r
/-- A span's Right, for any cells. -/
def sR (s1 : Int) (l1 : List Int) (t1 : Int) (k1 : List Int) (s2 : Int) (l2 : List Int) (t2 : Int) (k2 : List Int) : Bool := (fRightB s1 l1 t1 k1 && fRightB s2 l2 t2 k2) && decide (ratOf s1 l1 k1 ≤ ratOf s2 l2 k2)
theorem sR_good {s1 t1 s2 t2 : Int} {l1 k1 l2 k2 : List Int} (h : sR s1 l1 t1 k1 s2 l2 t2 k2 = true) : ∃ x y : Rat, (s1 = x.num.sign ∧ l1 = digs x.num.natAbs ∧ t1 = 1 ∧ k1 = digs (x.den : Int).natAbs) ∧ (s2 = y.num.sign ∧ l2 = digs y.num.natAbs ∧ t2 = 1 ∧ k2 = digs (y.den : Int).natAbs) ∧ x ≤ y := by
 unfold sR at h
 simp only [Bool.and_eq_true, decide_eq_true_eq] at h
 obtain ⟨⟨h1, h2⟩, h3⟩ := h
 obtain ⟨x, rfl, rfl, rfl, rfl⟩ := fright_of h1
 obtain ⟨y, rfl, rfl, rfl, rfl⟩ := fright_of h2
 rw [ratOf_is, ratOf_is] at h3
 exact ⟨x, y, ⟨rfl, rfl, rfl, rfl⟩, ⟨rfl, rfl, rfl, rfl⟩, h3⟩
theorem sR_is (x y : Rat) : sR x.num.sign (digs x.num.natAbs) 1 (digs (x.den : Int).natAbs) y.num.sign (digs y.num.natAbs) 1 (digs (y.den : Int).natAbs) = decide (x ≤ y) := by
 unfold sR; rw [fright_is, fright_is, ratOf_is, ratOf_is]; rfl
theorem cmp_le (x y : Rat) : decide (cmpR x y ≤ 0) = decide (x ≤ y) := by
 rw [decide_eq_decide]
 constructor
 ·intro h
  exact Rat.not_lt.1 fun e => by have := cmpR_gt.2 e; omega
 ·intro h
  have := cmpR_bd x y
  have h2 : cmpR x y ≠ 1 := fun e => absurd h (Rat.not_le.2 (cmpR_gt.1 e))
  omega
end Go.Proofs.YtgncnkojpedmdaaGreat.Sp

namespace Go.Proofs.YtgncnkojpedmdaaGreat.Sp
open Go.RowKit Bi

set_option maxHeartbeats 8000000 in
theorem r10right_raw {w : World} {s1 t1 : Int} {a1 b1 : Option Addr} {n1 c1 m1 d1 : Nat} {l1 k1 : List Int} {s2 t2 : Int} {a2 b2 : Option Addr} {n2 c2 m2 d2 : Nat} {l2 k2 : List Int} (hl1 : Ints w (.slice a1 n1 c1) l1) (hk1 : Ints w (.slice b1 m1 d1) k1) (ll1 : l1.length ≤ 1000) (lk1 : k1.length ≤ 1000) (hl2 : Ints w (.slice a2 n2 c2) l2) (hk2 : Ints w (.slice b2 m2 d2) k2) (ll2 : l2.length ≤ 1000) (lk2 : k2.length ≤ 1000) {r : Bool} (hr : sR s1 l1 t1 k1 s2 l2 t2 k2 = r) :
  Calls Tryz.prog 15 #[.agg #[.int .i64 s1, .slice a1 n1 c1, .int .i64 t1, .slice b1 m1 d1, .int .i64 s2, .slice a2 n2 c2, .int .i64 t2, .slice b2 m2 d2]] w fun e w' => e = .returned (.bool r) ∧ RowKit.Below w.heap.size w w' := by
 rcases e1 : fRightB s1 l1 t1 k1 with _ | _
 ·obtain rfl : false = r := by rw [← hr]; unfold sR; rw [e1]; rfl
  have LL1 := Lib.hid ll1
  have LK1 := Lib.hid lk1
  have LL2 := Lib.hid ll2
  have LK2 := Lib.hid lk2
  have HQ1 := Lib.hid e1
  have s0 := ((((((Sf.start w).arg hk1).arg hl1).arg hk2).arg hl2).put [.int .i64 s1, .slice a1 n1 c1, .int .i64 t1, .slice b1 m1 d1, .int .i64 s2, .slice a2 n2 c2, .int .i64 t2, .slice b2 m2 d2] 28)
  try simp only [World.size_alloc] at s0
  have S0 := Lib.hid s0
  clear s0
  clear hr e1 hl1 hk1 ll1 lk1 hl2 hk2 ll2 lk2
  go_enter Tryz.func15, Tryz.ntmps15
  obtain ⟨q1, q2, q3, q4, q5, q6, q7, q8⟩ := Fb.cells8 (S0.out.box _ mq0)
  go_wp2_with fail
  clear q1 q2 q3 q4 q5 q6 q7 q8
  refine (rfright_any s1 a1 n1 c1 l1 t1 b1 m1 d1 k1 _ (S0.out.ints (.slice a1 n1 c1, l1) mq2) (S0.out.ints (.slice b1 m1 d1, k1) mq3) (Nat.le_trans LL1.out (by decide)) (Nat.le_trans LK1.out (by decide)) _ HQ1.out).mono ?_
  rintro e w1 ⟨rfl, hb⟩
  have R1 := Lib.hid (S0.out.later hb)
  clear hb
  go_wp2_with fail
  go_ret
  exact ⟨rfl, R1.out.below⟩
 rcases e2 : fRightB s2 l2 t2 k2 with _ | _
 ·obtain rfl : false = r := by rw [← hr]; unfold sR; rw [e1, e2]; rfl
  have LL1 := Lib.hid ll1
  have LK1 := Lib.hid lk1
  have LL2 := Lib.hid ll2
  have LK2 := Lib.hid lk2
  have HQ1 := Lib.hid e1
  have HQ2 := Lib.hid e2
  have s0 := ((((((Sf.start w).arg hk1).arg hl1).arg hk2).arg hl2).put [.int .i64 s1, .slice a1 n1 c1, .int .i64 t1, .slice b1 m1 d1, .int .i64 s2, .slice a2 n2 c2, .int .i64 t2, .slice b2 m2 d2] 28)
  try simp only [World.size_alloc] at s0
  have S0 := Lib.hid s0
  clear s0
  clear hr e1 hl1 hk1 ll1 lk1 hl2 hk2 ll2 lk2 e2
  go_enter Tryz.func15, Tryz.ntmps15
  obtain ⟨q1, q2, q3, q4, q5, q6, q7, q8⟩ := Fb.cells8 (S0.out.box _ mq0)
  go_wp2_with fail
  clear q1 q2 q3 q4 q5 q6 q7 q8
  refine (rfright_any s1 a1 n1 c1 l1 t1 b1 m1 d1 k1 _ (S0.out.ints (.slice a1 n1 c1, l1) mq2) (S0.out.ints (.slice b1 m1 d1, k1) mq3) (Nat.le_trans LL1.out (by decide)) (Nat.le_trans LK1.out (by decide)) _ HQ1.out).mono ?_
  rintro e w1 ⟨rfl, hb⟩
  have R1 := Lib.hid (S0.out.later hb)
  clear hb
  obtain ⟨q9, q10, q11, q12, q13, q14, q15, q16⟩ := Fb.cells8 (R1.out.box _ mq0)
  go_wp2_with fail
  clear q9 q10 q11 q12 q13 q14 q15 q16
  refine (rfright_any s2 a2 n2 c2 l2 t2 b2 m2 d2 k2 _ (R1.out.ints (.slice a2 n2 c2, l2) mq0) (R1.out.ints (.slice b2 m2 d2, k2) mq1) (Nat.le_trans LL2.out (by decide)) (Nat.le_trans LK2.out (by decide)) _ HQ2.out).mono ?_
  rintro e w2 ⟨rfl, hb⟩
  have R2 := Lib.hid (R1.out.later hb)
  clear hb
  go_wp2_with fail
  go_ret
  exact ⟨rfl, R2.out.below⟩
 obtain ⟨x, rfl, rfl, rfl, rfl⟩ := fright_of e1
 obtain ⟨y, rfl, rfl, rfl, rfl⟩ := fright_of e2
 obtain ⟨z, hz⟩ : ∃ z, cmpR x y = z := ⟨_, rfl⟩
 obtain rfl : decide (z ≤ 0) = r := by rw [← hr, sR_is, ← hz, cmp_le]
 have HZ := Lib.hid hz
 have ZX : Hid (FSz 1000 x) := Lib.hid ⟨Sz.of ll1, Sz.of lk1⟩
 have ZY : Hid (FSz 1000 y) := Lib.hid ⟨Sz.of ll2, Sz.of lk2⟩
 have LL1 := Lib.hid ll1
 have LK1 := Lib.hid lk1
 have LL2 := Lib.hid ll2
 have LK2 := Lib.hid lk2
 have HQ1 := Lib.hid e1
 have HQ2 := Lib.hid e2
 have s0 := ((((((Sf.start w).arg hk1).arg hl1).arg hk2).arg hl2).put [.int .i64 x.num.sign, .slice a1 n1 c1, .int .i64 1, .slice b1 m1 d1, .int .i64 y.num.sign, .slice a2 n2 c2, .int .i64 1, .slice b2 m2 d2] 28)
 try simp only [World.size_alloc] at s0
 have S0 := Lib.hid s0
 clear s0
 clear hr e1 hl1 hk1 ll1 lk1 hl2 hk2 ll2 lk2 e2 hz
 go_enter Tryz.func15, Tryz.ntmps15
 obtain ⟨q1, q2, q3, q4, q5, q6, q7, q8⟩ := Fb.cells8 (S0.out.box _ mq0)
 go_wp2_with fail
 clear q1 q2 q3 q4 q5 q6 q7 q8
 refine (rfright_any x.num.sign a1 n1 c1 _ 1 b1 m1 d1 _ _ (S0.out.ints (.slice a1 n1 c1, digs x.num.natAbs) mq2) (S0.out.ints (.slice b1 m1 d1, digs (x.den : Int).natAbs) mq3) (Nat.le_trans LL1.out (by decide)) (Nat.le_trans LK1.out (by decide)) _ HQ1.out).mono ?_
 rintro e w1 ⟨rfl, hb⟩
 have R1 := Lib.hid (S0.out.later hb)
 clear hb
 obtain ⟨q9, q10, q11, q12, q13, q14, q15, q16⟩ := Fb.cells8 (R1.out.box _ mq0)
 go_wp2_with fail
 clear q9 q10 q11 q12 q13 q14 q15 q16
 refine (rfright_any y.num.sign a2 n2 c2 _ 1 b2 m2 d2 _ _ (R1.out.ints (.slice a2 n2 c2, digs y.num.natAbs) mq0) (R1.out.ints (.slice b2 m2 d2, digs (y.den : Int).natAbs) mq1) (Nat.le_trans LL2.out (by decide)) (Nat.le_trans LK2.out (by decide)) _ HQ2.out).mono ?_
 rintro e w2 ⟨rfl, hb⟩
 have R2 := Lib.hid (R1.out.later hb)
 clear hb
 obtain ⟨q17, q18, q19, q20, q21, q22, q23, q24⟩ := Fb.cells8 (R2.out.box _ mq0)
 go_wp2_with fail
 clear q17 q18 q19 q20 q21 q22 q23 q24
 refine (rfcmp_r (R2.out.fr mq2 mq3 (Lib.hid rfl : Hid (x.num.sign = x.num.sign)).out) (R2.out.fr mq0 mq1 (Lib.hid rfl : Hid (y.num.sign = y.num.sign)).out) ZX.out ZY.out HZ.out).mono ?_
 rintro e w3 ⟨rfl, hb⟩
 have R3 := Lib.hid (R2.out.later hb)
 clear hb
 go_wp2_with fail
 go_ret
 exact ⟨rfl, R3.out.below⟩
end Go.Proofs.YtgncnkojpedmdaaGreat.Sp

namespace Go.Proofs.YtgncnkojpedmdaaGreat.Sp
open Go.RowKit Bi
theorem r10right_v {w : World} {s1 : Int} {a1 b1 : Option Addr} {n1 c1 m1 d1 : Nat} {x : Rat} {s2 : Int} {a2 b2 : Option Addr} {n2 c2 m2 d2 : Nat} {y : Rat} (h1 : Fr w s1 (.slice a1 n1 c1) (.slice b1 m1 d1) x) (z1 : FSz 1000 x) (h2 : Fr w s2 (.slice a2 n2 c2) (.slice b2 m2 d2) y) (z2 : FSz 1000 y) {r : Bool} (hr : decide (x ≤ y) = r) :
  Calls Tryz.prog 15 #[.agg #[.int .i64 s1, .slice a1 n1 c1, .int .i64 1, .slice b1 m1 d1, .int .i64 s2, .slice a2 n2 c2, .int .i64 1, .slice b2 m2 d2]] w fun e w' => e = .returned (.bool r) ∧ RowKit.Below w.heap.size w w' := by
 obtain ⟨⟨rfl, i1⟩, ⟨_, j1⟩⟩ := h1
 obtain ⟨⟨rfl, i2⟩, ⟨_, j2⟩⟩ := h2
 exact r10right_raw i1 j1 (digs_le z1.1) (digs_le z1.2) i2 j2 (digs_le z2.1) (digs_le z2.2) (by rw [sR_is, hr])

set_option maxHeartbeats 8000000 in
theorem r10has_k {w : World} {s1 : Int} {a1 b1 : Option Addr} {n1 c1 m1 d1 : Nat} {x : Rat} {s2 : Int} {a2 b2 : Option Addr} {n2 c2 m2 d2 : Nat} {y : Rat} {s3 : Int} {a3 b3 : Option Addr} {n3 c3 m3 d3 : Nat} {v : Rat} (h1 : Fr w s1 (.slice a1 n1 c1) (.slice b1 m1 d1) x) (z1 : FSz 1000 x) (h2 : Fr w s2 (.slice a2 n2 c2) (.slice b2 m2 d2) y) (z2 : FSz 1000 y) (h3 : Fr w s3 (.slice a3 n3 c3) (.slice b3 m3 d3) v) (z3 : FSz 1000 v) (hxy : x ≤ y) {r : Bool} (hr : (decide (x ≤ v) && decide (v ≤ y)) = r) :
  Calls Tryz.prog 20 #[.agg #[.int .i64 s1, .slice a1 n1 c1, .int .i64 1, .slice b1 m1 d1, .int .i64 s2, .slice a2 n2 c2, .int .i64 1, .slice b2 m2 d2], .agg #[.int .i64 s3, .slice a3 n3 c3, .int .i64 1, .slice b3 m3 d3]] w fun e w' => e = .returned (.bool r) ∧ RowKit.Below w.heap.size w w' := by
 have HXY := Lib.hid (decide_eq_true hxy)
 obtain ⟨k, hk⟩ : ∃ k, cmpR x v = k := ⟨_, rfl⟩
 obtain ⟨j, hj⟩ : ∃ j, cmpR v y = j := ⟨_, rfl⟩
 rw [← cmp_le, ← cmp_le, hk, hj] at hr
 have HK := Lib.hid hk
 have HJ := Lib.hid hj
 by_cases hk0 : k ≤ 0
 ·obtain rfl : decide (j ≤ 0) = r := by rw [← hr]; simp [hk0]
  have gk : decide (k ≤ 0) = true := decide_eq_true hk0
  have E1 := Lib.hid h1.1.1
  have Z1 := Lib.hid z1
  have E2 := Lib.hid h2.1.1
  have Z2 := Lib.hid z2
  have E3 := Lib.hid h3.1.1
  have Z3 := Lib.hid z3
  have s0 := (((((((((Sf.start w).arg h1.2.2).arg h1.1.2).arg h2.2.2).arg h2.1.2).arg h3.2.2).arg h3.1.2).put [.int .i64 s1, .slice a1 n1 c1, .int .i64 1, .slice b1 m1 d1, .int .i64 s2, .slice a2 n2 c2, .int .i64 1, .slice b2 m2 d2] 28).put [.int .i64 s3, .slice a3 n3 c3, .int .i64 1, .slice b3 m3 d3] 26)
  try simp only [World.size_alloc] at s0
  have S0 := Lib.hid s0
  clear s0
  clear hr hk hj hxy h1 h2 h3 z1 z2 z3
  go_enter Tryz.func20, Tryz.ntmps20
  obtain ⟨q1, q2, q3, q4, q5, q6, q7, q8⟩ := Fb.cells8 (S0.out.box _ mq1)
  go_wp2_with fail
  clear q1 q2 q3 q4 q5 q6 q7 q8
  refine (r10right_v (S0.out.fr mq4 mq5 E1.out) Z1.out (S0.out.fr mq2 mq3 E2.out) Z2.out HXY.out).mono ?_
  rintro e w1 ⟨rfl, hb⟩
  have R1 := Lib.hid (S0.out.later hb)
  clear hb
  obtain ⟨q9, q10, q11, q12⟩ := Fb.cells4 (R1.out.box _ mq0)
  go_wp2_with fail
  clear q9 q10 q11 q12
  refine (rfright_k (R1.out.fr mq0 mq1 E3.out) Z3.out).mono ?_
  rintro e w2 ⟨rfl, hb⟩
  have R2 := Lib.hid (R1.out.later hb)
  clear hb
  obtain ⟨q13, q14, q15, q16⟩ := Fb.cells4 (R2.out.box _ mq0)
  obtain ⟨q17, q18, q19, q20, q21, q22, q23, q24⟩ := Fb.cells8 (R2.out.box _ mq1)
  go_wp2_with fail
  clear q13 q14 q15 q16 q17 q18 q19 q20 q21 q22 q23 q24
  refine (rfcmp_r (R2.out.fr mq4 mq5 E1.out) (R2.out.fr mq0 mq1 E3.out) Z1.out Z3.out HK.out).mono ?_
  rintro e w3 ⟨rfl, hb⟩
  have R3 := Lib.hid (R2.out.later hb)
  clear hb
  obtain ⟨q25, q26, q27, q28⟩ := Fb.cells4 (R3.out.box _ mq0)
  obtain ⟨q29, q30, q31, q32, q33, q34, q35, q36⟩ := Fb.cells8 (R3.out.box _ mq1)
  go_wp2_with fail
  clear q25 q26 q27 q28 q29 q30 q31 q32 q33 q34 q35 q36
  refine (rfcmp_r (R3.out.fr mq0 mq1 E3.out) (R3.out.fr mq2 mq3 E2.out) Z3.out Z2.out HJ.out).mono ?_
  rintro e w4 ⟨rfl, hb⟩
  have R4 := Lib.hid (R3.out.later hb)
  clear hb
  go_wp2_with fail
  go_ret
  exact ⟨rfl, R4.out.below⟩
 ·obtain rfl : false = r := by rw [← hr]; simp [hk0]
  have gk : decide (k ≤ 0) = false := decide_eq_false hk0
  have E1 := Lib.hid h1.1.1
  have Z1 := Lib.hid z1
  have E2 := Lib.hid h2.1.1
  have Z2 := Lib.hid z2
  have E3 := Lib.hid h3.1.1
  have Z3 := Lib.hid z3
  have s0 := (((((((((Sf.start w).arg h1.2.2).arg h1.1.2).arg h2.2.2).arg h2.1.2).arg h3.2.2).arg h3.1.2).put [.int .i64 s1, .slice a1 n1 c1, .int .i64 1, .slice b1 m1 d1, .int .i64 s2, .slice a2 n2 c2, .int .i64 1, .slice b2 m2 d2] 28).put [.int .i64 s3, .slice a3 n3 c3, .int .i64 1, .slice b3 m3 d3] 26)
  try simp only [World.size_alloc] at s0
  have S0 := Lib.hid s0
  clear s0
  clear hr hk hj hxy h1 h2 h3 z1 z2 z3
  go_enter Tryz.func20, Tryz.ntmps20
  obtain ⟨q1, q2, q3, q4, q5, q6, q7, q8⟩ := Fb.cells8 (S0.out.box _ mq1)
  go_wp2_with fail
  clear q1 q2 q3 q4 q5 q6 q7 q8
  refine (r10right_v (S0.out.fr mq4 mq5 E1.out) Z1.out (S0.out.fr mq2 mq3 E2.out) Z2.out HXY.out).mono ?_
  rintro e w1 ⟨rfl, hb⟩
  have R1 := Lib.hid (S0.out.later hb)
  clear hb
  obtain ⟨q9, q10, q11, q12⟩ := Fb.cells4 (R1.out.box _ mq0)
  go_wp2_with fail
  clear q9 q10 q11 q12
  refine (rfright_k (R1.out.fr mq0 mq1 E3.out) Z3.out).mono ?_
  rintro e w2 ⟨rfl, hb⟩
  have R2 := Lib.hid (R1.out.later hb)
  clear hb
  obtain ⟨q13, q14, q15, q16⟩ := Fb.cells4 (R2.out.box _ mq0)
  obtain ⟨q17, q18, q19, q20, q21, q22, q23, q24⟩ := Fb.cells8 (R2.out.box _ mq1)
  go_wp2_with fail
  clear q13 q14 q15 q16 q17 q18 q19 q20 q21 q22 q23 q24
  refine (rfcmp_r (R2.out.fr mq4 mq5 E1.out) (R2.out.fr mq0 mq1 E3.out) Z1.out Z3.out HK.out).mono ?_
  rintro e w3 ⟨rfl, hb⟩
  have R3 := Lib.hid (R2.out.later hb)
  clear hb
  go_wp2_with fail
  go_ret
  exact ⟨rfl, R3.out.below⟩

set_option maxHeartbeats 8000000 in
theorem r10has_bad {w : World} {s1 t1 : Int} {a1 b1 : Option Addr} {n1 c1 m1 d1 : Nat} {l1 k1 : List Int} {s2 t2 : Int} {a2 b2 : Option Addr} {n2 c2 m2 d2 : Nat} {l2 k2 : List Int} {s3 t3 : Int} {a3 b3 : Option Addr} {n3 c3 m3 d3 : Nat} {l3 k3 : List Int} (hl1 : Ints w (.slice a1 n1 c1) l1) (hk1 : Ints w (.slice b1 m1 d1) k1) (ll1 : l1.length ≤ 1000) (lk1 : k1.length ≤ 1000) (hl2 : Ints w (.slice a2 n2 c2) l2) (hk2 : Ints w (.slice b2 m2 d2) k2) (ll2 : l2.length ≤ 1000) (lk2 : k2.length ≤ 1000) (hl3 : Ints w (.slice a3 n3 c3) l3) (hk3 : Ints w (.slice b3 m3 d3) k3) (ll3 : l3.length ≤ 1000) (lk3 : k3.length ≤ 1000) (hr : (sR s1 l1 t1 k1 s2 l2 t2 k2 && fRightB s3 l3 t3 k3) = false) :
  Calls Tryz.prog 20 #[.agg #[.int .i64 s1, .slice a1 n1 c1, .int .i64 t1, .slice b1 m1 d1, .int .i64 s2, .slice a2 n2 c2, .int .i64 t2, .slice b2 m2 d2], .agg #[.int .i64 s3, .slice a3 n3 c3, .int .i64 t3, .slice b3 m3 d3]] w fun e w' => e = .returned (.bool false) ∧ RowKit.Below w.heap.size w w' := by
 rcases ea : sR s1 l1 t1 k1 s2 l2 t2 k2 with _ | _
 ·skip
  have LL1 := Lib.hid ll1
  have LK1 := Lib.hid lk1
  have LL2 := Lib.hid ll2
  have LK2 := Lib.hid lk2
  have LL3 := Lib.hid ll3
  have LK3 := Lib.hid lk3
  have EA := Lib.hid ea
  have s0 := (((((((((Sf.start w).arg hk1).arg hl1).arg hk2).arg hl2).arg hk3).arg hl3).put [.int .i64 s1, .slice a1 n1 c1, .int .i64 t1, .slice b1 m1 d1, .int .i64 s2, .slice a2 n2 c2, .int .i64 t2, .slice b2 m2 d2] 28).put [.int .i64 s3, .slice a3 n3 c3, .int .i64 t3, .slice b3 m3 d3] 26)
  try simp only [World.size_alloc] at s0
  have S0 := Lib.hid s0
  clear s0
  clear hr ea hl1 hk1 ll1 lk1 hl2 hk2 ll2 lk2 hl3 hk3 ll3 lk3
  go_enter Tryz.func20, Tryz.ntmps20
  obtain ⟨q1, q2, q3, q4, q5, q6, q7, q8⟩ := Fb.cells8 (S0.out.box _ mq1)
  go_wp2_with fail
  clear q1 q2 q3 q4 q5 q6 q7 q8
  refine (r10right_raw (S0.out.ints (.slice a1 n1 c1, l1) mq4) (S0.out.ints (.slice b1 m1 d1, k1) mq5) LL1.out LK1.out (S0.out.ints (.slice a2 n2 c2, l2) mq2) (S0.out.ints (.slice b2 m2 d2, k2) mq3) LL2.out LK2.out EA.out).mono ?_
  rintro e w1 ⟨rfl, hb⟩
  have R1 := Lib.hid (S0.out.later hb)
  clear hb
  go_wp2_with fail
  go_ret
  exact ⟨rfl, R1.out.below⟩
 ·have eb : fRightB s3 l3 t3 k3 = false := by rw [ea] at hr; simpa using hr
  have LL1 := Lib.hid ll1
  have LK1 := Lib.hid lk1
  have LL2 := Lib.hid ll2
  have LK2 := Lib.hid lk2
  have LL3 := Lib.hid ll3
  have LK3 := Lib.hid lk3
  have EA := Lib.hid ea
  have EB := Lib.hid eb
  have s0 := (((((((((Sf.start w).arg hk1).arg hl1).arg hk2).arg hl2).arg hk3).arg hl3).put [.int .i64 s1, .slice a1 n1 c1, .int .i64 t1, .slice b1 m1 d1, .int .i64 s2, .slice a2 n2 c2, .int .i64 t2, .slice b2 m2 d2] 28).put [.int .i64 s3, .slice a3 n3 c3, .int .i64 t3, .slice b3 m3 d3] 26)
  try simp only [World.size_alloc] at s0
  have S0 := Lib.hid s0
  clear s0
  clear hr ea hl1 hk1 ll1 lk1 hl2 hk2 ll2 lk2 hl3 hk3 ll3 lk3 eb
  go_enter Tryz.func20, Tryz.ntmps20
  obtain ⟨q1, q2, q3, q4, q5, q6, q7, q8⟩ := Fb.cells8 (S0.out.box _ mq1)
  go_wp2_with fail
  clear q1 q2 q3 q4 q5 q6 q7 q8
  refine (r10right_raw (S0.out.ints (.slice a1 n1 c1, l1) mq4) (S0.out.ints (.slice b1 m1 d1, k1) mq5) LL1.out LK1.out (S0.out.ints (.slice a2 n2 c2, l2) mq2) (S0.out.ints (.slice b2 m2 d2, k2) mq3) LL2.out LK2.out EA.out).mono ?_
  rintro e w1 ⟨rfl, hb⟩
  have R1 := Lib.hid (S0.out.later hb)
  clear hb
  obtain ⟨q9, q10, q11, q12⟩ := Fb.cells4 (R1.out.box _ mq0)
  go_wp2_with fail
  clear q9 q10 q11 q12
  refine (rfright_any s3 a3 n3 c3 l3 t3 b3 m3 d3 k3 _ (R1.out.ints (.slice a3 n3 c3, l3) mq0) (R1.out.ints (.slice b3 m3 d3, k3) mq1) (Nat.le_trans LL3.out (by decide)) (Nat.le_trans LK3.out (by decide)) _ EB.out).mono ?_
  rintro e w2 ⟨rfl, hb⟩
  have R2 := Lib.hid (R1.out.later hb)
  clear hb
  go_wp2_with fail
  go_ret
  exact ⟨rfl, R2.out.below⟩

set_option maxHeartbeats 8000000 in
theorem r10width_k {w : World} {s1 : Int} {a1 b1 : Option Addr} {n1 c1 m1 d1 : Nat} {x : Rat} {s2 : Int} {a2 b2 : Option Addr} {n2 c2 m2 d2 : Nat} {y : Rat} (h1 : Fr w s1 (.slice a1 n1 c1) (.slice b1 m1 d1) x) (z1 : FSz 1000 x) (h2 : Fr w s2 (.slice a2 n2 c2) (.slice b2 m2 d2) y) (z2 : FSz 1000 y) (hxy : x ≤ y) :
  Calls Tryz.prog 25 #[.agg #[.int .i64 s1, .slice a1 n1 c1, .int .i64 1, .slice b1 m1 d1, .int .i64 s2, .slice a2 n2 c2, .int .i64 1, .slice b2 m2 d2]] w (FV (y - x) w) := by
 have HXY := Lib.hid (decide_eq_true hxy)
 have E1 := Lib.hid h1.1.1
 have Z1 := Lib.hid z1
 have E2 := Lib.hid h2.1.1
 have Z2 := Lib.hid z2
 have s0 := (((((((Sf.start w).arg h1.2.2).arg h1.1.2).arg h2.2.2).arg h2.1.2).put [.int .i64 s1, .slice a1 n1 c1, .int .i64 1, .slice b1 m1 d1, .int .i64 s2, .slice a2 n2 c2, .int .i64 1, .slice b2 m2 d2] 28).put [.int .i64 0, .slice none 0 0, .int .i64 0, .slice none 0 0] 26)
 try simp only [World.size_alloc] at s0
 have S0 := Lib.hid s0
 clear s0
 clear hxy h1 h2 z1 z2
 go_enter Tryz.func25, Tryz.ntmps25
 obtain ⟨q1, q2, q3, q4, q5, q6, q7, q8⟩ := Fb.cells8 (S0.out.box _ mq1)
 go_wp2_with fail
 clear q1 q2 q3 q4 q5 q6 q7 q8
 refine (r10right_v (S0.out.fr mq2 mq3 E1.out) Z1.out (S0.out.fr mq0 mq1 E2.out) Z2.out HXY.out).mono ?_
 rintro e w1 ⟨rfl, hb⟩
 have R1 := Lib.hid (S0.out.later hb)
 clear hb
 obtain ⟨q9, q10, q11, q12, q13, q14, q15, q16⟩ := Fb.cells8 (R1.out.box _ mq1)
 go_wp2_with fail
 clear q9 q10 q11 q12 q13 q14 q15 q16
 refine (rfsub_k (R1.out.fr mq0 mq1 E2.out) (R1.out.fr mq2 mq3 E1.out) Z2.out Z1.out).mono ?_
 rintro e w2 ⟨sx2, ax2, nx2, cx2, bx2, mx2, dx2, rfl, hr, hb, hf, hg⟩
 have E2 := Lib.hid hr.1.1
 have R2 := Lib.hid (R1.out.ret2 hb hr.1.2 hf hr.2.2 hg)
 have FF2 := Lib.hid (hf.mono R1.out.below.size)
 have FG2 := Lib.hid (hg.mono R1.out.below.size)
 clear hr hb hf hg
 have P17 := Lib.hid (R2.out.put [.int .i64 0, .slice none 0 0, .int .i64 0, .slice none 0 0] 26)
 have Q17 := Lib.hid (Sf.row (pre := []) P17.out [.int .i64 sx2, .slice ax2 nx2 cx2, .int .i64 1, .slice bx2 mx2 dx2])
 obtain ⟨q18, q19, q20, q21⟩ := Fb.cells4 (Q17.out.box _ mq0)
 have Q22 := Lib.hid (Sf.row (pre := [(w2.heap.size, 26, [.int .i64 sx2, .slice ax2 nx2 cx2, .int .i64 1, .slice bx2 mx2 dx2])]) Q17.out [.int .i64 sx2, .slice ax2 nx2 cx2, .int .i64 1, .slice bx2 mx2 dx2])
 go_wp2_with (first | refine wpList_store_row rfl _ _ _ rfl _ #[.int .i64 sx2, .slice ax2 nx2 cx2, .int .i64 1, .slice bx2 mx2 dx2] rfl rfl _ _ (P17.out.box _ List.mem_cons_self) (by kernel_rfl) rfl (by simp [Value.oneCell']) ?_ | refine wpList_store_row rfl _ _ _ rfl _ #[.int .i64 sx2, .slice ax2 nx2 cx2, .int .i64 1, .slice bx2 mx2 dx2] rfl rfl _ _ (Q17.out.box _ mq1) (by kernel_rfl) rfl (by simp [Value.oneCell']) ?_)
 clear q18 q19 q20 q21
 refine bodyPost_ret (results_cell_row rfl _ _ _ _ _ (0, 0) _ rfl (Q22.out.box _ mq1) Tryz.underlying26 rfl (by kernel_rfl)) rfl ⟨_, _, _, _, _, _, _, rfl, (Q22.out.fr mq0 mq1 E2.out), Q22.out.below, FF2.out, FG2.out⟩

set_option maxHeartbeats 8000000 in
theorem r10width_bad {w : World} {s1 t1 : Int} {a1 b1 : Option Addr} {n1 c1 m1 d1 : Nat} {l1 k1 : List Int} {s2 t2 : Int} {a2 b2 : Option Addr} {n2 c2 m2 d2 : Nat} {l2 k2 : List Int} (hl1 : Ints w (.slice a1 n1 c1) l1) (hk1 : Ints w (.slice b1 m1 d1) k1) (ll1 : l1.length ≤ 1000) (lk1 : k1.length ≤ 1000) (hl2 : Ints w (.slice a2 n2 c2) l2) (hk2 : Ints w (.slice b2 m2 d2) k2) (ll2 : l2.length ≤ 1000) (lk2 : k2.length ≤ 1000) (hr : sR s1 l1 t1 k1 s2 l2 t2 k2 = false) :
  Calls Tryz.prog 25 #[.agg #[.int .i64 s1, .slice a1 n1 c1, .int .i64 t1, .slice b1 m1 d1, .int .i64 s2, .slice a2 n2 c2, .int .i64 t2, .slice b2 m2 d2]] w fun e w' => e = .returned (.agg #[.int .i64 0, .slice none 0 0, .int .i64 0, .slice none 0 0]) ∧ RowKit.Below w.heap.size w w' := by
 have LL1 := Lib.hid ll1
 have LK1 := Lib.hid lk1
 have LL2 := Lib.hid ll2
 have LK2 := Lib.hid lk2
 have EA := Lib.hid hr
 have s0 := (((((((Sf.start w).arg hk1).arg hl1).arg hk2).arg hl2).put [.int .i64 s1, .slice a1 n1 c1, .int .i64 t1, .slice b1 m1 d1, .int .i64 s2, .slice a2 n2 c2, .int .i64 t2, .slice b2 m2 d2] 28).put [.int .i64 0, .slice none 0 0, .int .i64 0, .slice none 0 0] 26)
 try simp only [World.size_alloc] at s0
 have S0 := Lib.hid s0
 clear s0
 clear hr hl1 hk1 ll1 lk1 hl2 hk2 ll2 lk2
 go_enter Tryz.func25, Tryz.ntmps25
 obtain ⟨q1, q2, q3, q4, q5, q6, q7, q8⟩ := Fb.cells8 (S0.out.box _ mq1)
 go_wp2_with fail
 clear q1 q2 q3 q4 q5 q6 q7 q8
 refine (r10right_raw (S0.out.ints (.slice a1 n1 c1, l1) mq2) (S0.out.ints (.slice b1 m1 d1, k1) mq3) LL1.out LK1.out (S0.out.ints (.slice a2 n2 c2, l2) mq0) (S0.out.ints (.slice b2 m2 d2, k2) mq1) LL2.out LK2.out EA.out).mono ?_
 rintro e w1 ⟨rfl, hb⟩
 have R1 := Lib.hid (S0.out.later hb)
 clear hb
 have Q9 := Lib.hid (Sf.row (pre := []) R1.out [.int .i64 0, .slice none 0 0, .int .i64 0, .slice none 0 0])
 go_wp2_with (first | refine wpList_store_row rfl _ _ _ rfl _ #[.int .i64 0, .slice none 0 0, .int .i64 0, .slice none 0 0] rfl rfl _ _ (R1.out.box _ mq0) (by kernel_rfl) rfl (by simp [Value.oneCell']) ?_)
 refine bodyPost_ret (results_cell_row rfl _ _ _ _ _ (0, 0) _ rfl (Q9.out.box _ mq0) Tryz.underlying26 rfl (by kernel_rfl)) rfl ⟨rfl, Q9.out.below⟩

set_option maxHeartbeats 8000000 in
theorem r10point_k {w : World} {s1 : Int} {a1 b1 : Option Addr} {n1 c1 m1 d1 : Nat} {x : Rat} (h1 : Fr w s1 (.slice a1 n1 c1) (.slice b1 m1 d1) x) (z1 : FSz 1000 x) :
  Calls Tryz.prog 18 #[.agg #[.int .i64 s1, .slice a1 n1 c1, .int .i64 1, .slice b1 m1 d1]] w fun e w' => e = .returned (.agg #[.int .i64 s1, .slice a1 n1 c1, .int .i64 1, .slice b1 m1 d1, .int .i64 s1, .slice a1 n1 c1, .int .i64 1, .slice b1 m1 d1]) ∧ RowKit.Below w.heap.size w w' := by
 have E1 := Lib.hid h1.1.1
 have Z1 := Lib.hid z1
 have s0 := (((((Sf.start w).arg h1.2.2).arg h1.1.2).put [.int .i64 s1, .slice a1 n1 c1, .int .i64 1, .slice b1 m1 d1] 26).put [.int .i64 0, .slice none 0 0, .int .i64 0, .slice none 0 0, .int .i64 0, .slice none 0 0, .int .i64 0, .slice none 0 0] 28)
 try simp only [World.size_alloc] at s0
 have S0 := Lib.hid s0
 clear s0
 clear h1 z1
 go_enter Tryz.func18, Tryz.ntmps18
 obtain ⟨q1, q2, q3, q4⟩ := Fb.cells4 (S0.out.box _ mq1)
 go_wp2_with fail
 clear q1 q2 q3 q4
 refine (rfright_k (S0.out.fr mq0 mq1 E1.out) Z1.out).mono ?_
 rintro e w1 ⟨rfl, hb⟩
 have R1 := Lib.hid (S0.out.later hb)
 clear hb
 obtain ⟨q5, q6, q7, q8⟩ := Fb.cells4 (R1.out.box _ mq1)
 have Q9 := Lib.hid (Sf.row (pre := []) R1.out [.int .i64 s1, .slice a1 n1 c1, .int .i64 1, .slice b1 m1 d1, .int .i64 s1, .slice a1 n1 c1, .int .i64 1, .slice b1 m1 d1])
 go_wp2_with (first | refine wpList_store_row rfl _ _ _ rfl _ #[.int .i64 s1, .slice a1 n1 c1, .int .i64 1, .slice b1 m1 d1, .int .i64 s1, .slice a1 n1 c1, .int .i64 1, .slice b1 m1 d1] rfl rfl _ _ (R1.out.box _ mq0) (by kernel_rfl) rfl (by simp [Value.oneCell']) ?_)
 clear q5 q6 q7 q8
 refine bodyPost_ret (results_cell_row rfl _ _ _ _ _ (0, 0) _ rfl (Q9.out.box _ mq0) Tryz.underlying28 rfl (by kernel_rfl)) rfl ⟨rfl, Q9.out.below⟩

set_option maxHeartbeats 8000000 in
theorem r10point_bad {w : World} {s1 t1 : Int} {a1 b1 : Option Addr} {n1 c1 m1 d1 : Nat} {l1 k1 : List Int} (hl1 : Ints w (.slice a1 n1 c1) l1) (hk1 : Ints w (.slice b1 m1 d1) k1) (ll1 : l1.length ≤ 1000) (lk1 : k1.length ≤ 1000) (hr : fRightB s1 l1 t1 k1 = false) :
  Calls Tryz.prog 18 #[.agg #[.int .i64 s1, .slice a1 n1 c1, .int .i64 t1, .slice b1 m1 d1]] w fun e w' => e = .returned (.agg #[.int .i64 0, .slice none 0 0, .int .i64 0, .slice none 0 0, .int .i64 0, .slice none 0 0, .int .i64 0, .slice none 0 0]) ∧ RowKit.Below w.heap.size w w' := by
 have LL1 := Lib.hid ll1
 have LK1 := Lib.hid lk1
 have EA := Lib.hid hr
 have s0 := (((((Sf.start w).arg hk1).arg hl1).put [.int .i64 s1, .slice a1 n1 c1, .int .i64 t1, .slice b1 m1 d1] 26).put [.int .i64 0, .slice none 0 0, .int .i64 0, .slice none 0 0, .int .i64 0, .slice none 0 0, .int .i64 0, .slice none 0 0] 28)
 try simp only [World.size_alloc] at s0
 have S0 := Lib.hid s0
 clear s0
 clear hr hl1 hk1 ll1 lk1
 go_enter Tryz.func18, Tryz.ntmps18
 obtain ⟨q1, q2, q3, q4⟩ := Fb.cells4 (S0.out.box _ mq1)
 go_wp2_with fail
 clear q1 q2 q3 q4
 refine (rfright_any s1 a1 n1 c1 l1 t1 b1 m1 d1 k1 _ (S0.out.ints (.slice a1 n1 c1, l1) mq0) (S0.out.ints (.slice b1 m1 d1, k1) mq1) (Nat.le_trans LL1.out (by decide)) (Nat.le_trans LK1.out (by decide)) _ EA.out).mono ?_
 rintro e w1 ⟨rfl, hb⟩
 have R1 := Lib.hid (S0.out.later hb)
 clear hb
 have Q5 := Lib.hid (Sf.row (pre := []) R1.out [.int .i64 0, .slice none 0 0, .int .i64 0, .slice none 0 0, .int .i64 0, .slice none 0 0, .int .i64 0, .slice none 0 0])
 go_wp2_with (first | refine wpList_store_row rfl _ _ _ rfl _ #[.int .i64 0, .slice none 0 0, .int .i64 0, .slice none 0 0, .int .i64 0, .slice none 0 0, .int .i64 0, .slice none 0 0] rfl rfl _ _ (R1.out.box _ mq0) (by kernel_rfl) rfl (by simp [Value.oneCell']) ?_)
 refine bodyPost_ret (results_cell_row rfl _ _ _ _ _ (0, 0) _ rfl (Q5.out.box _ mq0) Tryz.underlying28 rfl (by kernel_rfl)) rfl ⟨rfl, Q5.out.below⟩
end Go.Proofs.YtgncnkojpedmdaaGreat.Sp

namespace Go.Proofs.YtgncnkojpedmdaaGreat.Sp
open Go.RowKit Bi

set_option maxHeartbeats 8000000 in
theorem r10op_add {w : World} {s1 : Int} {a1 b1 : Option Addr} {n1 c1 m1 d1 : Nat} {x : Rat} {s2 : Int} {a2 b2 : Option Addr} {n2 c2 m2 d2 : Nat} {y : Rat} (h1 : Fr w s1 (.slice a1 n1 c1) (.slice b1 m1 d1) x) (z1 : FSz 1000 x) (h2 : Fr w s2 (.slice a2 n2 c2) (.slice b2 m2 d2) y) (z2 : FSz 1000 y) : Calls Tryz.prog 39 #[.int .i64 0, .agg #[.int .i64 s1, .slice a1 n1 c1, .int .i64 1, .slice b1 m1 d1], .agg #[.int .i64 s2, .slice a2 n2 c2, .int .i64 1, .slice b2 m2 d2]] w (FVE (x + y) 0 w) := by
 have E1 := Lib.hid h1.1.1
 have Z1 := Lib.hid z1
 have E2 := Lib.hid h2.1.1
 have Z2 := Lib.hid z2
 have s0 := ((((((((Sf.start w).arg h1.2.2).arg h1.1.2).arg h2.2.2).arg h2.1.2).put [.int .i64 s1, .slice a1 n1 c1, .int .i64 1, .slice b1 m1 d1] 26).put [.int .i64 s2, .slice a2 n2 c2, .int .i64 1, .slice b2 m2 d2] 26).put [.int .i64 0, .slice none 0 0, .int .i64 0, .slice none 0 0] 26)
 try simp only [World.size_alloc] at s0
 have S0 := Lib.hid s0
 clear s0
 clear h1 h2 z1 z2
 go_enter Tryz.func39, Tryz.ntmps39
 obtain ⟨q1, q2, q3, q4⟩ := Fb.cells4 (S0.out.box _ mq2)
 obtain ⟨q5, q6, q7, q8⟩ := Fb.cells4 (S0.out.box _ mq1)
 go_wp2_with fail
 clear q1 q2 q3 q4 q5 q6 q7 q8
 refine (rfadd_k (S0.out.fr mq2 mq3 E1.out) (S0.out.fr mq0 mq1 E2.out) Z1.out Z2.out).mono ?_
 rintro e w1 ⟨sx1, ax1, nx1, cx1, bx1, mx1, dx1, rfl, hr, hb, hf, hg⟩
 have E1 := Lib.hid hr.1.1
 have R1 := Lib.hid (S0.out.ret2 hb hr.1.2 hf hr.2.2 hg)
 have FF1 := Lib.hid (hf.mono S0.out.below.size)
 have FG1 := Lib.hid (hg.mono S0.out.below.size)
 clear hr hb hf hg
 have P9 := Lib.hid (R1.out.put [.int .i64 0, .slice none 0 0, .int .i64 0, .slice none 0 0] 26)
 have Q9 := Lib.hid (Sf.row (pre := []) P9.out [.int .i64 sx1, .slice ax1 nx1 cx1, .int .i64 1, .slice bx1 mx1 dx1])
 obtain ⟨q10, q11, q12, q13⟩ := Fb.cells4 (Q9.out.box _ mq0)
 have Q14 := Lib.hid (Sf.row (pre := [(w1.heap.size, 26, [.int .i64 sx1, .slice ax1 nx1 cx1, .int .i64 1, .slice bx1 mx1 dx1])]) Q9.out [.int .i64 sx1, .slice ax1 nx1 cx1, .int .i64 1, .slice bx1 mx1 dx1])
 go_wp2_with (first | refine wpList_store_row rfl _ _ _ rfl _ #[.int .i64 sx1, .slice ax1 nx1 cx1, .int .i64 1, .slice bx1 mx1 dx1] rfl rfl _ _ (P9.out.box _ List.mem_cons_self) (by kernel_rfl) rfl (by simp [Value.oneCell']) ?_ | refine wpList_store_row rfl _ _ _ rfl _ #[.int .i64 sx1, .slice ax1 nx1 cx1, .int .i64 1, .slice bx1 mx1 dx1] rfl rfl _ _ (Q9.out.box _ mq1) (by kernel_rfl) rfl (by simp [Value.oneCell']) ?_)
 clear q10 q11 q12 q13
 refine bodyPost_ret (ret_row rfl _ _ _ _ rfl (run_loadVar_row _ _ _ _ _ (0, 0) _ (Q14.out.box _ mq1) Tryz.underlying26 rfl (by kernel_rfl))) rfl ⟨_, _, _, _, _, _, _, rfl, (Q14.out.fr mq0 mq1 E1.out), Q14.out.below, FF1.out, FG1.out⟩

set_option maxHeartbeats 8000000 in
theorem r10op_sub {w : World} {s1 : Int} {a1 b1 : Option Addr} {n1 c1 m1 d1 : Nat} {x : Rat} {s2 : Int} {a2 b2 : Option Addr} {n2 c2 m2 d2 : Nat} {y : Rat} (h1 : Fr w s1 (.slice a1 n1 c1) (.slice b1 m1 d1) x) (z1 : FSz 1000 x) (h2 : Fr w s2 (.slice a2 n2 c2) (.slice b2 m2 d2) y) (z2 : FSz 1000 y) : Calls Tryz.prog 39 #[.int .i64 1, .agg #[.int .i64 s1, .slice a1 n1 c1, .int .i64 1, .slice b1 m1 d1], .agg #[.int .i64 s2, .slice a2 n2 c2, .int .i64 1, .slice b2 m2 d2]] w (FVE (x - y) 0 w) := by
 have E1 := Lib.hid h1.1.1
 have Z1 := Lib.hid z1
 have E2 := Lib.hid h2.1.1
 have Z2 := Lib.hid z2
 have s0 := ((((((((Sf.start w).arg h1.2.2).arg h1.1.2).arg h2.2.2).arg h2.1.2).put [.int .i64 s1, .slice a1 n1 c1, .int .i64 1, .slice b1 m1 d1] 26).put [.int .i64 s2, .slice a2 n2 c2, .int .i64 1, .slice b2 m2 d2] 26).put [.int .i64 0, .slice none 0 0, .int .i64 0, .slice none 0 0] 26)
 try simp only [World.size_alloc] at s0
 have S0 := Lib.hid s0
 clear s0
 clear h1 h2 z1 z2
 go_enter Tryz.func39, Tryz.ntmps39
 obtain ⟨q1, q2, q3, q4⟩ := Fb.cells4 (S0.out.box _ mq2)
 obtain ⟨q5, q6, q7, q8⟩ := Fb.cells4 (S0.out.box _ mq1)
 go_wp2_with fail
 clear q1 q2 q3 q4 q5 q6 q7 q8
 refine (rfsub_k (S0.out.fr mq2 mq3 E1.out) (S0.out.fr mq0 mq1 E2.out) Z1.out Z2.out).mono ?_
 rintro e w1 ⟨sx1, ax1, nx1, cx1, bx1, mx1, dx1, rfl, hr, hb, hf, hg⟩
 have E1 := Lib.hid hr.1.1
 have R1 := Lib.hid (S0.out.ret2 hb hr.1.2 hf hr.2.2 hg)
 have FF1 := Lib.hid (hf.mono S0.out.below.size)
 have FG1 := Lib.hid (hg.mono S0.out.below.size)
 clear hr hb hf hg
 have P9 := Lib.hid (R1.out.put [.int .i64 0, .slice none 0 0, .int .i64 0, .slice none 0 0] 26)
 have Q9 := Lib.hid (Sf.row (pre := []) P9.out [.int .i64 sx1, .slice ax1 nx1 cx1, .int .i64 1, .slice bx1 mx1 dx1])
 obtain ⟨q10, q11, q12, q13⟩ := Fb.cells4 (Q9.out.box _ mq0)
 have Q14 := Lib.hid (Sf.row (pre := [(w1.heap.size, 26, [.int .i64 sx1, .slice ax1 nx1 cx1, .int .i64 1, .slice bx1 mx1 dx1])]) Q9.out [.int .i64 sx1, .slice ax1 nx1 cx1, .int .i64 1, .slice bx1 mx1 dx1])
 go_wp2_with (first | refine wpList_store_row rfl _ _ _ rfl _ #[.int .i64 sx1, .slice ax1 nx1 cx1, .int .i64 1, .slice bx1 mx1 dx1] rfl rfl _ _ (P9.out.box _ List.mem_cons_self) (by kernel_rfl) rfl (by simp [Value.oneCell']) ?_ | refine wpList_store_row rfl _ _ _ rfl _ #[.int .i64 sx1, .slice ax1 nx1 cx1, .int .i64 1, .slice bx1 mx1 dx1] rfl rfl _ _ (Q9.out.box _ mq1) (by kernel_rfl) rfl (by simp [Value.oneCell']) ?_)
 clear q10 q11 q12 q13
 refine bodyPost_ret (ret_row rfl _ _ _ _ rfl (run_loadVar_row _ _ _ _ _ (0, 0) _ (Q14.out.box _ mq1) Tryz.underlying26 rfl (by kernel_rfl))) rfl ⟨_, _, _, _, _, _, _, rfl, (Q14.out.fr mq0 mq1 E1.out), Q14.out.below, FF1.out, FG1.out⟩

set_option maxHeartbeats 8000000 in
theorem r10op_mul {w : World} {s1 : Int} {a1 b1 : Option Addr} {n1 c1 m1 d1 : Nat} {x : Rat} {s2 : Int} {a2 b2 : Option Addr} {n2 c2 m2 d2 : Nat} {y : Rat} (h1 : Fr w s1 (.slice a1 n1 c1) (.slice b1 m1 d1) x) (z1 : FSz 1000 x) (h2 : Fr w s2 (.slice a2 n2 c2) (.slice b2 m2 d2) y) (z2 : FSz 1000 y) : Calls Tryz.prog 39 #[.int .i64 2, .agg #[.int .i64 s1, .slice a1 n1 c1, .int .i64 1, .slice b1 m1 d1], .agg #[.int .i64 s2, .slice a2 n2 c2, .int .i64 1, .slice b2 m2 d2]] w (FVE (x * y) 0 w) := by
 have E1 := Lib.hid h1.1.1
 have Z1 := Lib.hid z1
 have E2 := Lib.hid h2.1.1
 have Z2 := Lib.hid z2
 have s0 := ((((((((Sf.start w).arg h1.2.2).arg h1.1.2).arg h2.2.2).arg h2.1.2).put [.int .i64 s1, .slice a1 n1 c1, .int .i64 1, .slice b1 m1 d1] 26).put [.int .i64 s2, .slice a2 n2 c2, .int .i64 1, .slice b2 m2 d2] 26).put [.int .i64 0, .slice none 0 0, .int .i64 0, .slice none 0 0] 26)
 try simp only [World.size_alloc] at s0
 have S0 := Lib.hid s0
 clear s0
 clear h1 h2 z1 z2
 go_enter Tryz.func39, Tryz.ntmps39
 obtain ⟨q1, q2, q3, q4⟩ := Fb.cells4 (S0.out.box _ mq2)
 obtain ⟨q5, q6, q7, q8⟩ := Fb.cells4 (S0.out.box _ mq1)
 go_wp2_with fail
 clear q1 q2 q3 q4 q5 q6 q7 q8
 refine (rfmul_k (S0.out.fr mq2 mq3 E1.out) (S0.out.fr mq0 mq1 E2.out) Z1.out Z2.out).mono ?_
 rintro e w1 ⟨sx1, ax1, nx1, cx1, bx1, mx1, dx1, rfl, hr, hb, hf, hg⟩
 have E1 := Lib.hid hr.1.1
 have R1 := Lib.hid (S0.out.ret2 hb hr.1.2 hf hr.2.2 hg)
 have FF1 := Lib.hid (hf.mono S0.out.below.size)
 have FG1 := Lib.hid (hg.mono S0.out.below.size)
 clear hr hb hf hg
 have P9 := Lib.hid (R1.out.put [.int .i64 0, .slice none 0 0, .int .i64 0, .slice none 0 0] 26)
 have Q9 := Lib.hid (Sf.row (pre := []) P9.out [.int .i64 sx1, .slice ax1 nx1 cx1, .int .i64 1, .slice bx1 mx1 dx1])
 obtain ⟨q10, q11, q12, q13⟩ := Fb.cells4 (Q9.out.box _ mq0)
 have Q14 := Lib.hid (Sf.row (pre := [(w1.heap.size, 26, [.int .i64 sx1, .slice ax1 nx1 cx1, .int .i64 1, .slice bx1 mx1 dx1])]) Q9.out [.int .i64 sx1, .slice ax1 nx1 cx1, .int .i64 1, .slice bx1 mx1 dx1])
 go_wp2_with (first | refine wpList_store_row rfl _ _ _ rfl _ #[.int .i64 sx1, .slice ax1 nx1 cx1, .int .i64 1, .slice bx1 mx1 dx1] rfl rfl _ _ (P9.out.box _ List.mem_cons_self) (by kernel_rfl) rfl (by simp [Value.oneCell']) ?_ | refine wpList_store_row rfl _ _ _ rfl _ #[.int .i64 sx1, .slice ax1 nx1 cx1, .int .i64 1, .slice bx1 mx1 dx1] rfl rfl _ _ (Q9.out.box _ mq1) (by kernel_rfl) rfl (by simp [Value.oneCell']) ?_)
 clear q10 q11 q12 q13
 refine bodyPost_ret (ret_row rfl _ _ _ _ rfl (run_loadVar_row _ _ _ _ _ (0, 0) _ (Q14.out.box _ mq1) Tryz.underlying26 rfl (by kernel_rfl))) rfl ⟨_, _, _, _, _, _, _, rfl, (Q14.out.fr mq0 mq1 E1.out), Q14.out.below, FF1.out, FG1.out⟩

set_option maxHeartbeats 8000000 in
theorem r10op_div {w : World} {s1 : Int} {a1 b1 : Option Addr} {n1 c1 m1 d1 : Nat} {x : Rat} {s2 : Int} {a2 b2 : Option Addr} {n2 c2 m2 d2 : Nat} {y : Rat} (h1 : Fr w s1 (.slice a1 n1 c1) (.slice b1 m1 d1) x) (z1 : FSz 1000 x) (h2 : Fr w s2 (.slice a2 n2 c2) (.slice b2 m2 d2) y) (z2 : FSz 1000 y) (hy : y ≠ 0) : Calls Tryz.prog 39 #[.int .i64 3, .agg #[.int .i64 s1, .slice a1 n1 c1, .int .i64 1, .slice b1 m1 d1], .agg #[.int .i64 s2, .slice a2 n2 c2, .int .i64 1, .slice b2 m2 d2]] w (FVE (x / y) 0 w) := by
 have HY := Lib.hid hy
 have E1 := Lib.hid h1.1.1
 have Z1 := Lib.hid z1
 have E2 := Lib.hid h2.1.1
 have Z2 := Lib.hid z2
 have s0 := ((((((((Sf.start w).arg h1.2.2).arg h1.1.2).arg h2.2.2).arg h2.1.2).put [.int .i64 s1, .slice a1 n1 c1, .int .i64 1, .slice b1 m1 d1] 26).put [.int .i64 s2, .slice a2 n2 c2, .int .i64 1, .slice b2 m2 d2] 26).put [.int .i64 0, .slice none 0 0, .int .i64 0, .slice none 0 0] 26)
 try simp only [World.size_alloc] at s0
 have S0 := Lib.hid s0
 clear s0
 clear h1 h2 z1 z2 hy
 go_enter Tryz.func39, Tryz.ntmps39
 obtain ⟨q1, q2, q3, q4⟩ := Fb.cells4 (S0.out.box _ mq2)
 obtain ⟨q5, q6, q7, q8⟩ := Fb.cells4 (S0.out.box _ mq1)
 go_wp2_with fail
 clear q1 q2 q3 q4 q5 q6 q7 q8
 refine (rfdiv_k (S0.out.fr mq2 mq3 E1.out) (S0.out.fr mq0 mq1 E2.out) Z1.out Z2.out HY.out).mono ?_
 rintro e w1 ⟨sx1, ax1, nx1, cx1, bx1, mx1, dx1, rfl, hr, hb, hf, hg⟩
 have E1 := Lib.hid hr.1.1
 have R1 := Lib.hid (S0.out.ret2 hb hr.1.2 hf hr.2.2 hg)
 have FF1 := Lib.hid (hf.mono S0.out.below.size)
 have FG1 := Lib.hid (hg.mono S0.out.below.size)
 clear hr hb hf hg
 have P9 := Lib.hid (R1.out.put [.int .i64 0, .slice none 0 0, .int .i64 0, .slice none 0 0] 26)
 have Q9 := Lib.hid (Sf.row (pre := []) P9.out [.int .i64 sx1, .slice ax1 nx1 cx1, .int .i64 1, .slice bx1 mx1 dx1])
 obtain ⟨q10, q11, q12, q13⟩ := Fb.cells4 (Q9.out.box _ mq0)
 have Q14 := Lib.hid (Sf.row (pre := [(w1.heap.size, 26, [.int .i64 sx1, .slice ax1 nx1 cx1, .int .i64 1, .slice bx1 mx1 dx1])]) Q9.out [.int .i64 sx1, .slice ax1 nx1 cx1, .int .i64 1, .slice bx1 mx1 dx1])
 go_wp2_with (first | refine wpList_store_row rfl _ _ _ rfl _ #[.int .i64 sx1, .slice ax1 nx1 cx1, .int .i64 1, .slice bx1 mx1 dx1] rfl rfl _ _ (P9.out.box _ List.mem_cons_self) (by kernel_rfl) rfl (by simp [Value.oneCell']) ?_ | refine wpList_store_row rfl _ _ _ rfl _ #[.int .i64 sx1, .slice ax1 nx1 cx1, .int .i64 1, .slice bx1 mx1 dx1] rfl rfl _ _ (Q9.out.box _ mq1) (by kernel_rfl) rfl (by simp [Value.oneCell']) ?_)
 clear q10 q11 q12 q13
 refine bodyPost_ret (ret_row rfl _ _ _ _ rfl (run_loadVar_row _ _ _ _ _ (0, 0) _ (Q14.out.box _ mq1) Tryz.underlying26 rfl (by kernel_rfl))) rfl ⟨_, _, _, _, _, _, _, rfl, (Q14.out.fr mq0 mq1 E1.out), Q14.out.below, FF1.out, FG1.out⟩

set_option maxHeartbeats 8000000 in
theorem r10op_min_a {w : World} {s1 : Int} {a1 b1 : Option Addr} {n1 c1 m1 d1 : Nat} {x : Rat} {s2 : Int} {a2 b2 : Option Addr} {n2 c2 m2 d2 : Nat} {y : Rat} (h1 : Fr w s1 (.slice a1 n1 c1) (.slice b1 m1 d1) x) (z1 : FSz 1000 x) (h2 : Fr w s2 (.slice a2 n2 c2) (.slice b2 m2 d2) y) (z2 : FSz 1000 y) (h : cmpR x y ≤ 0) : Calls Tryz.prog 39 #[.int .i64 4, .agg #[.int .i64 s1, .slice a1 n1 c1, .int .i64 1, .slice b1 m1 d1], .agg #[.int .i64 s2, .slice a2 n2 c2, .int .i64 1, .slice b2 m2 d2]] w fun e w' => e = .returned (.tuple #[.agg #[.int .i64 s1, .slice a1 n1 c1, .int .i64 1, .slice b1 m1 d1], .int .i64 0]) ∧ RowKit.Below w.heap.size w w' := by
 have HH := Lib.hid h
 have E1 := Lib.hid h1.1.1
 have Z1 := Lib.hid z1
 have E2 := Lib.hid h2.1.1
 have Z2 := Lib.hid z2
 have s0 := ((((((((Sf.start w).arg h1.2.2).arg h1.1.2).arg h2.2.2).arg h2.1.2).put [.int .i64 s1, .slice a1 n1 c1, .int .i64 1, .slice b1 m1 d1] 26).put [.int .i64 s2, .slice a2 n2 c2, .int .i64 1, .slice b2 m2 d2] 26).put [.int .i64 0, .slice none 0 0, .int .i64 0, .slice none 0 0] 26)
 try simp only [World.size_alloc] at s0
 have S0 := Lib.hid s0
 clear s0
 clear h1 h2 z1 z2 h
 go_enter Tryz.func39, Tryz.ntmps39
 obtain ⟨q1, q2, q3, q4⟩ := Fb.cells4 (S0.out.box _ mq2)
 obtain ⟨q5, q6, q7, q8⟩ := Fb.cells4 (S0.out.box _ mq1)
 go_wp2_with fail
 clear q1 q2 q3 q4 q5 q6 q7 q8
 refine (rfmin_a (S0.out.fr mq2 mq3 E1.out) (S0.out.fr mq0 mq1 E2.out) Z1.out Z2.out HH.out).mono ?_
 rintro e w1 ⟨rfl, hb⟩
 have R1 := Lib.hid (S0.out.later hb)
 clear hb
 have P9 := Lib.hid (R1.out.put [.int .i64 0, .slice none 0 0, .int .i64 0, .slice none 0 0] 26)
 have Q9 := Lib.hid (Sf.row (pre := []) P9.out [.int .i64 s1, .slice a1 n1 c1, .int .i64 1, .slice b1 m1 d1])
 obtain ⟨q10, q11, q12, q13⟩ := Fb.cells4 (Q9.out.box _ mq0)
 have Q14 := Lib.hid (Sf.row (pre := [(w1.heap.size, 26, [.int .i64 s1, .slice a1 n1 c1, .int .i64 1, .slice b1 m1 d1])]) Q9.out [.int .i64 s1, .slice a1 n1 c1, .int .i64 1, .slice b1 m1 d1])
 go_wp2_with (first | refine wpList_store_row rfl _ _ _ rfl _ #[.int .i64 s1, .slice a1 n1 c1, .int .i64 1, .slice b1 m1 d1] rfl rfl _ _ (P9.out.box _ List.mem_cons_self) (by kernel_rfl) rfl (by simp [Value.oneCell']) ?_ | refine wpList_store_row rfl _ _ _ rfl _ #[.int .i64 s1, .slice a1 n1 c1, .int .i64 1, .slice b1 m1 d1] rfl rfl _ _ (Q9.out.box _ mq1) (by kernel_rfl) rfl (by simp [Value.oneCell']) ?_)
 clear q10 q11 q12 q13
 refine bodyPost_ret (ret_row rfl _ _ _ _ rfl (run_loadVar_row _ _ _ _ _ (0, 0) _ (Q14.out.box _ mq1) Tryz.underlying26 rfl (by kernel_rfl))) rfl ⟨rfl, Q14.out.below⟩

set_option maxHeartbeats 8000000 in
theorem r10op_min_b {w : World} {s1 : Int} {a1 b1 : Option Addr} {n1 c1 m1 d1 : Nat} {x : Rat} {s2 : Int} {a2 b2 : Option Addr} {n2 c2 m2 d2 : Nat} {y : Rat} (h1 : Fr w s1 (.slice a1 n1 c1) (.slice b1 m1 d1) x) (z1 : FSz 1000 x) (h2 : Fr w s2 (.slice a2 n2 c2) (.slice b2 m2 d2) y) (z2 : FSz 1000 y) (h : 0 < cmpR x y) : Calls Tryz.prog 39 #[.int .i64 4, .agg #[.int .i64 s1, .slice a1 n1 c1, .int .i64 1, .slice b1 m1 d1], .agg #[.int .i64 s2, .slice a2 n2 c2, .int .i64 1, .slice b2 m2 d2]] w fun e w' => e = .returned (.tuple #[.agg #[.int .i64 s2, .slice a2 n2 c2, .int .i64 1, .slice b2 m2 d2], .int .i64 0]) ∧ RowKit.Below w.heap.size w w' := by
 have HH := Lib.hid h
 have E1 := Lib.hid h1.1.1
 have Z1 := Lib.hid z1
 have E2 := Lib.hid h2.1.1
 have Z2 := Lib.hid z2
 have s0 := ((((((((Sf.start w).arg h1.2.2).arg h1.1.2).arg h2.2.2).arg h2.1.2).put [.int .i64 s1, .slice a1 n1 c1, .int .i64 1, .slice b1 m1 d1] 26).put [.int .i64 s2, .slice a2 n2 c2, .int .i64 1, .slice b2 m2 d2] 26).put [.int .i64 0, .slice none 0 0, .int .i64 0, .slice none 0 0] 26)
 try simp only [World.size_alloc] at s0
 have S0 := Lib.hid s0
 clear s0
 clear h1 h2 z1 z2 h
 go_enter Tryz.func39, Tryz.ntmps39
 obtain ⟨q1, q2, q3, q4⟩ := Fb.cells4 (S0.out.box _ mq2)
 obtain ⟨q5, q6, q7, q8⟩ := Fb.cells4 (S0.out.box _ mq1)
 go_wp2_with fail
 clear q1 q2 q3 q4 q5 q6 q7 q8
 refine (rfmin_b (S0.out.fr mq2 mq3 E1.out) (S0.out.fr mq0 mq1 E2.out) Z1.out Z2.out HH.out).mono ?_
 rintro e w1 ⟨rfl, hb⟩
 have R1 := Lib.hid (S0.out.later hb)
 clear hb
 have P9 := Lib.hid (R1.out.put [.int .i64 0, .slice none 0 0, .int .i64 0, .slice none 0 0] 26)
 have Q9 := Lib.hid (Sf.row (pre := []) P9.out [.int .i64 s2, .slice a2 n2 c2, .int .i64 1, .slice b2 m2 d2])
 obtain ⟨q10, q11, q12, q13⟩ := Fb.cells4 (Q9.out.box _ mq0)
 have Q14 := Lib.hid (Sf.row (pre := [(w1.heap.size, 26, [.int .i64 s2, .slice a2 n2 c2, .int .i64 1, .slice b2 m2 d2])]) Q9.out [.int .i64 s2, .slice a2 n2 c2, .int .i64 1, .slice b2 m2 d2])
 go_wp2_with (first | refine wpList_store_row rfl _ _ _ rfl _ #[.int .i64 s2, .slice a2 n2 c2, .int .i64 1, .slice b2 m2 d2] rfl rfl _ _ (P9.out.box _ List.mem_cons_self) (by kernel_rfl) rfl (by simp [Value.oneCell']) ?_ | refine wpList_store_row rfl _ _ _ rfl _ #[.int .i64 s2, .slice a2 n2 c2, .int .i64 1, .slice b2 m2 d2] rfl rfl _ _ (Q9.out.box _ mq1) (by kernel_rfl) rfl (by simp [Value.oneCell']) ?_)
 clear q10 q11 q12 q13
 refine bodyPost_ret (ret_row rfl _ _ _ _ rfl (run_loadVar_row _ _ _ _ _ (0, 0) _ (Q14.out.box _ mq1) Tryz.underlying26 rfl (by kernel_rfl))) rfl ⟨rfl, Q14.out.below⟩

set_option maxHeartbeats 8000000 in
theorem r10op_max_a {w : World} {s1 : Int} {a1 b1 : Option Addr} {n1 c1 m1 d1 : Nat} {x : Rat} {s2 : Int} {a2 b2 : Option Addr} {n2 c2 m2 d2 : Nat} {y : Rat} (h1 : Fr w s1 (.slice a1 n1 c1) (.slice b1 m1 d1) x) (z1 : FSz 1000 x) (h2 : Fr w s2 (.slice a2 n2 c2) (.slice b2 m2 d2) y) (z2 : FSz 1000 y) (h : 0 ≤ cmpR x y) : Calls Tryz.prog 39 #[.int .i64 5, .agg #[.int .i64 s1, .slice a1 n1 c1, .int .i64 1, .slice b1 m1 d1], .agg #[.int .i64 s2, .slice a2 n2 c2, .int .i64 1, .slice b2 m2 d2]] w fun e w' => e = .returned (.tuple #[.agg #[.int .i64 s1, .slice a1 n1 c1, .int .i64 1, .slice b1 m1 d1], .int .i64 0]) ∧ RowKit.Below w.heap.size w w' := by
 have HH := Lib.hid h
 have E1 := Lib.hid h1.1.1
 have Z1 := Lib.hid z1
 have E2 := Lib.hid h2.1.1
 have Z2 := Lib.hid z2
 have s0 := ((((((((Sf.start w).arg h1.2.2).arg h1.1.2).arg h2.2.2).arg h2.1.2).put [.int .i64 s1, .slice a1 n1 c1, .int .i64 1, .slice b1 m1 d1] 26).put [.int .i64 s2, .slice a2 n2 c2, .int .i64 1, .slice b2 m2 d2] 26).put [.int .i64 0, .slice none 0 0, .int .i64 0, .slice none 0 0] 26)
 try simp only [World.size_alloc] at s0
 have S0 := Lib.hid s0
 clear s0
 clear h1 h2 z1 z2 h
 go_enter Tryz.func39, Tryz.ntmps39
 obtain ⟨q1, q2, q3, q4⟩ := Fb.cells4 (S0.out.box _ mq2)
 obtain ⟨q5, q6, q7, q8⟩ := Fb.cells4 (S0.out.box _ mq1)
 go_wp2_with fail
 clear q1 q2 q3 q4 q5 q6 q7 q8
 refine (rfmax_a (S0.out.fr mq2 mq3 E1.out) (S0.out.fr mq0 mq1 E2.out) Z1.out Z2.out HH.out).mono ?_
 rintro e w1 ⟨rfl, hb⟩
 have R1 := Lib.hid (S0.out.later hb)
 clear hb
 have P9 := Lib.hid (R1.out.put [.int .i64 0, .slice none 0 0, .int .i64 0, .slice none 0 0] 26)
 have Q9 := Lib.hid (Sf.row (pre := []) P9.out [.int .i64 s1, .slice a1 n1 c1, .int .i64 1, .slice b1 m1 d1])
 obtain ⟨q10, q11, q12, q13⟩ := Fb.cells4 (Q9.out.box _ mq0)
 have Q14 := Lib.hid (Sf.row (pre := [(w1.heap.size, 26, [.int .i64 s1, .slice a1 n1 c1, .int .i64 1, .slice b1 m1 d1])]) Q9.out [.int .i64 s1, .slice a1 n1 c1, .int .i64 1, .slice b1 m1 d1])
 go_wp2_with (first | refine wpList_store_row rfl _ _ _ rfl _ #[.int .i64 s1, .slice a1 n1 c1, .int .i64 1, .slice b1 m1 d1] rfl rfl _ _ (P9.out.box _ List.mem_cons_self) (by kernel_rfl) rfl (by simp [Value.oneCell']) ?_ | refine wpList_store_row rfl _ _ _ rfl _ #[.int .i64 s1, .slice a1 n1 c1, .int .i64 1, .slice b1 m1 d1] rfl rfl _ _ (Q9.out.box _ mq1) (by kernel_rfl) rfl (by simp [Value.oneCell']) ?_)
 clear q10 q11 q12 q13
 refine bodyPost_ret (ret_row rfl _ _ _ _ rfl (run_loadVar_row _ _ _ _ _ (0, 0) _ (Q14.out.box _ mq1) Tryz.underlying26 rfl (by kernel_rfl))) rfl ⟨rfl, Q14.out.below⟩

set_option maxHeartbeats 8000000 in
theorem r10op_max_b {w : World} {s1 : Int} {a1 b1 : Option Addr} {n1 c1 m1 d1 : Nat} {x : Rat} {s2 : Int} {a2 b2 : Option Addr} {n2 c2 m2 d2 : Nat} {y : Rat} (h1 : Fr w s1 (.slice a1 n1 c1) (.slice b1 m1 d1) x) (z1 : FSz 1000 x) (h2 : Fr w s2 (.slice a2 n2 c2) (.slice b2 m2 d2) y) (z2 : FSz 1000 y) (h : cmpR x y < 0) : Calls Tryz.prog 39 #[.int .i64 5, .agg #[.int .i64 s1, .slice a1 n1 c1, .int .i64 1, .slice b1 m1 d1], .agg #[.int .i64 s2, .slice a2 n2 c2, .int .i64 1, .slice b2 m2 d2]] w fun e w' => e = .returned (.tuple #[.agg #[.int .i64 s2, .slice a2 n2 c2, .int .i64 1, .slice b2 m2 d2], .int .i64 0]) ∧ RowKit.Below w.heap.size w w' := by
 have HH := Lib.hid h
 have E1 := Lib.hid h1.1.1
 have Z1 := Lib.hid z1
 have E2 := Lib.hid h2.1.1
 have Z2 := Lib.hid z2
 have s0 := ((((((((Sf.start w).arg h1.2.2).arg h1.1.2).arg h2.2.2).arg h2.1.2).put [.int .i64 s1, .slice a1 n1 c1, .int .i64 1, .slice b1 m1 d1] 26).put [.int .i64 s2, .slice a2 n2 c2, .int .i64 1, .slice b2 m2 d2] 26).put [.int .i64 0, .slice none 0 0, .int .i64 0, .slice none 0 0] 26)
 try simp only [World.size_alloc] at s0
 have S0 := Lib.hid s0
 clear s0
 clear h1 h2 z1 z2 h
 go_enter Tryz.func39, Tryz.ntmps39
 obtain ⟨q1, q2, q3, q4⟩ := Fb.cells4 (S0.out.box _ mq2)
 obtain ⟨q5, q6, q7, q8⟩ := Fb.cells4 (S0.out.box _ mq1)
 go_wp2_with fail
 clear q1 q2 q3 q4 q5 q6 q7 q8
 refine (rfmax_b (S0.out.fr mq2 mq3 E1.out) (S0.out.fr mq0 mq1 E2.out) Z1.out Z2.out HH.out).mono ?_
 rintro e w1 ⟨rfl, hb⟩
 have R1 := Lib.hid (S0.out.later hb)
 clear hb
 have P9 := Lib.hid (R1.out.put [.int .i64 0, .slice none 0 0, .int .i64 0, .slice none 0 0] 26)
 have Q9 := Lib.hid (Sf.row (pre := []) P9.out [.int .i64 s2, .slice a2 n2 c2, .int .i64 1, .slice b2 m2 d2])
 obtain ⟨q10, q11, q12, q13⟩ := Fb.cells4 (Q9.out.box _ mq0)
 have Q14 := Lib.hid (Sf.row (pre := [(w1.heap.size, 26, [.int .i64 s2, .slice a2 n2 c2, .int .i64 1, .slice b2 m2 d2])]) Q9.out [.int .i64 s2, .slice a2 n2 c2, .int .i64 1, .slice b2 m2 d2])
 go_wp2_with (first | refine wpList_store_row rfl _ _ _ rfl _ #[.int .i64 s2, .slice a2 n2 c2, .int .i64 1, .slice b2 m2 d2] rfl rfl _ _ (P9.out.box _ List.mem_cons_self) (by kernel_rfl) rfl (by simp [Value.oneCell']) ?_ | refine wpList_store_row rfl _ _ _ rfl _ #[.int .i64 s2, .slice a2 n2 c2, .int .i64 1, .slice b2 m2 d2] rfl rfl _ _ (Q9.out.box _ mq1) (by kernel_rfl) rfl (by simp [Value.oneCell']) ?_)
 clear q10 q11 q12 q13
 refine bodyPost_ret (ret_row rfl _ _ _ _ rfl (run_loadVar_row _ _ _ _ _ (0, 0) _ (Q14.out.box _ mq1) Tryz.underlying26 rfl (by kernel_rfl))) rfl ⟨rfl, Q14.out.below⟩
end Go.Proofs.YtgncnkojpedmdaaGreat.Sp
