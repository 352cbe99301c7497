/- Boxes of spans; a whole row, and four cells, stored into a box; what makes a span valid. The contracts of the reference of span: Neg, Same. -/
import Derived.Deep.RegionHeld3
import Derived.Deep.CutRange
import Derived.Deep.CutBlock
import Derived.Lib.ReflectliteSwap
import Derived.Test.YtgncnkojpedmdaaPA21
set_option maxRecDepth 100000
namespace Go.Proofs.Ytgncnkojpedmdaa.Sp
open Go.RowKit Bi

section
variable {α : Type _} {l : List α} {a x0 x1 x2 x3 x4 x5 x6 x7 x8 x9 x10 x11 x12 x13 x14 x15 x16 x17 x18 x19 x20 x21 x22 x23 x24 x25 x26 x27 x28 x29 x30 x31 x32 x33 x34 x35 x36 x37 x38 x39 : α}
theorem mq0 : a ∈ a :: l := List.mem_cons_self
theorem mq1 : a ∈ x0 :: a :: l := List.mem_cons_of_mem _ mq0
theorem mq2 : a ∈ x0 :: x1 :: a :: l := List.mem_cons_of_mem _ mq1
theorem mq3 : a ∈ x0 :: x1 :: x2 :: a :: l := List.mem_cons_of_mem _ mq2
theorem mq4 : a ∈ x0 :: x1 :: x2 :: x3 :: a :: l := List.mem_cons_of_mem _ mq3
theorem mq5 : a ∈ x0 :: x1 :: x2 :: x3 :: x4 :: a :: l := List.mem_cons_of_mem _ mq4
theorem mq6 : a ∈ x0 :: x1 :: x2 :: x3 :: x4 :: x5 :: a :: l := List.mem_cons_of_mem _ mq5
theorem mq7 : a ∈ x0 :: x1 :: x2 :: x3 :: x4 :: x5 :: x6 :: a :: l := List.mem_cons_of_mem _ mq6
theorem mq8 : a ∈ x0 :: x1 :: x2 :: x3 :: x4 :: x5 :: x6 :: x7 :: a :: l := List.mem_cons_of_mem _ mq7
theorem mq9 : a ∈ x0 :: x1 :: x2 :: x3 :: x4 :: x5 :: x6 :: x7 :: x8 :: a :: l := List.mem_cons_of_mem _ mq8
theorem mq10 : a ∈ x0 :: x1 :: x2 :: x3 :: x4 :: x5 :: x6 :: x7 :: x8 :: x9 :: a :: l := List.mem_cons_of_mem _ mq9
theorem mq11 : a ∈ x0 :: x1 :: x2 :: x3 :: x4 :: x5 :: x6 :: x7 :: x8 :: x9 :: x10 :: a :: l := List.mem_cons_of_mem _ mq10
theorem mq12 : a ∈ x0 :: x1 :: x2 :: x3 :: x4 :: x5 :: x6 :: x7 :: x8 :: x9 :: x10 :: x11 :: a :: l := List.mem_cons_of_mem _ mq11
theorem mq13 : a ∈ x0 :: x1 :: x2 :: x3 :: x4 :: x5 :: x6 :: x7 :: x8 :: x9 :: x10 :: x11 :: x12 :: a :: l := List.mem_cons_of_mem _ mq12
theorem mq14 : a ∈ x0 :: x1 :: x2 :: x3 :: x4 :: x5 :: x6 :: x7 :: x8 :: x9 :: x10 :: x11 :: x12 :: x13 :: a :: l := List.mem_cons_of_mem _ mq13
theorem mq15 : a ∈ x0 :: x1 :: x2 :: x3 :: x4 :: x5 :: x6 :: x7 :: x8 :: x9 :: x10 :: x11 :: x12 :: x13 :: x14 :: a :: l := List.mem_cons_of_mem _ mq14
theorem mq16 : a ∈ x0 :: x1 :: x2 :: x3 :: x4 :: x5 :: x6 :: x7 :: x8 :: x9 :: x10 :: x11 :: x12 :: x13 :: x14 :: x15 :: a :: l := List.mem_cons_of_mem _ mq15
theorem mq17 : a ∈ x0 :: x1 :: x2 :: x3 :: x4 :: x5 :: x6 :: x7 :: x8 :: x9 :: x10 :: x11 :: x12 :: x13 :: x14 :: x15 :: x16 :: a :: l := List.mem_cons_of_mem _ mq16
theorem mq18 : a ∈ x0 :: x1 :: x2 :: x3 :: x4 :: x5 :: x6 :: x7 :: x8 :: x9 :: x10 :: x11 :: x12 :: x13 :: x14 :: x15 :: x16 :: x17 :: a :: l := List.mem_cons_of_mem _ mq17
theorem mq19 : a ∈ x0 :: x1 :: x2 :: x3 :: x4 :: x5 :: x6 :: x7 :: x8 :: x9 :: x10 :: x11 :: x12 :: x13 :: x14 :: x15 :: x16 :: x17 :: x18 :: a :: l := List.mem_cons_of_mem _ mq18
theorem mq20 : a ∈ x0 :: x1 :: x2 :: x3 :: x4 :: x5 :: x6 :: x7 :: x8 :: x9 :: x10 :: x11 :: x12 :: x13 :: x14 :: x15 :: x16 :: x17 :: x18 :: x19 :: a :: l := List.mem_cons_of_mem _ mq19
theorem mq21 : a ∈ x0 :: x1 :: x2 :: x3 :: x4 :: x5 :: x6 :: x7 :: x8 :: x9 :: x10 :: x11 :: x12 :: x13 :: x14 :: x15 :: x16 :: x17 :: x18 :: x19 :: x20 :: a :: l := List.mem_cons_of_mem _ mq20
theorem mq22 : a ∈ x0 :: x1 :: x2 :: x3 :: x4 :: x5 :: x6 :: x7 :: x8 :: x9 :: x10 :: x11 :: x12 :: x13 :: x14 :: x15 :: x16 :: x17 :: x18 :: x19 :: x20 :: x21 :: a :: l := List.mem_cons_of_mem _ mq21
theorem mq23 : a ∈ x0 :: x1 :: x2 :: x3 :: x4 :: x5 :: x6 :: x7 :: x8 :: x9 :: x10 :: x11 :: x12 :: x13 :: x14 :: x15 :: x16 :: x17 :: x18 :: x19 :: x20 :: x21 :: x22 :: a :: l := List.mem_cons_of_mem _ mq22
theorem mq24 : a ∈ x0 :: x1 :: x2 :: x3 :: x4 :: x5 :: x6 :: x7 :: x8 :: x9 :: x10 :: x11 :: x12 :: x13 :: x14 :: x15 :: x16 :: x17 :: x18 :: x19 :: x20 :: x21 :: x22 :: x23 :: a :: l := List.mem_cons_of_mem _ mq23
theorem mq25 : a ∈ x0 :: x1 :: x2 :: x3 :: x4 :: x5 :: x6 :: x7 :: x8 :: x9 :: x10 :: x11 :: x12 :: x13 :: x14 :: x15 :: x16 :: x17 :: x18 :: x19 :: x20 :: x21 :: x22 :: x23 :: x24 :: a :: l := List.mem_cons_of_mem _ mq24
theorem mq26 : a ∈ x0 :: x1 :: x2 :: x3 :: x4 :: x5 :: x6 :: x7 :: x8 :: x9 :: x10 :: x11 :: x12 :: x13 :: x14 :: x15 :: x16 :: x17 :: x18 :: x19 :: x20 :: x21 :: x22 :: x23 :: x24 :: x25 :: a :: l := List.mem_cons_of_mem _ mq25
theorem mq27 : a ∈ x0 :: x1 :: x2 :: x3 :: x4 :: x5 :: x6 :: x7 :: x8 :: x9 :: x10 :: x11 :: x12 :: x13 :: x14 :: x15 :: x16 :: x17 :: x18 :: x19 :: x20 :: x21 :: x22 :: x23 :: x24 :: x25 :: x26 :: a :: l := List.mem_cons_of_mem _ mq26
theorem mq28 : a ∈ x0 :: x1 :: x2 :: x3 :: x4 :: x5 :: x6 :: x7 :: x8 :: x9 :: x10 :: x11 :: x12 :: x13 :: x14 :: x15 :: x16 :: x17 :: x18 :: x19 :: x20 :: x21 :: x22 :: x23 :: x24 :: x25 :: x26 :: x27 :: a :: l := List.mem_cons_of_mem _ mq27
theorem mq29 : a ∈ x0 :: x1 :: x2 :: x3 :: x4 :: x5 :: x6 :: x7 :: x8 :: x9 :: x10 :: x11 :: x12 :: x13 :: x14 :: x15 :: x16 :: x17 :: x18 :: x19 :: x20 :: x21 :: x22 :: x23 :: x24 :: x25 :: x26 :: x27 :: x28 :: a :: l := List.mem_cons_of_mem _ mq28
theorem mq30 : a ∈ x0 :: x1 :: x2 :: x3 :: x4 :: x5 :: x6 :: x7 :: x8 :: x9 :: x10 :: x11 :: x12 :: x13 :: x14 :: x15 :: x16 :: x17 :: x18 :: x19 :: x20 :: x21 :: x22 :: x23 :: x24 :: x25 :: x26 :: x27 :: x28 :: x29 :: a :: l := List.mem_cons_of_mem _ mq29
theorem mq31 : a ∈ x0 :: x1 :: x2 :: x3 :: x4 :: x5 :: x6 :: x7 :: x8 :: x9 :: x10 :: x11 :: x12 :: x13 :: x14 :: x15 :: x16 :: x17 :: x18 :: x19 :: x20 :: x21 :: x22 :: x23 :: x24 :: x25 :: x26 :: x27 :: x28 :: x29 :: x30 :: a :: l := List.mem_cons_of_mem _ mq30
theorem mq32 : a ∈ x0 :: x1 :: x2 :: x3 :: x4 :: x5 :: x6 :: x7 :: x8 :: x9 :: x10 :: x11 :: x12 :: x13 :: x14 :: x15 :: x16 :: x17 :: x18 :: x19 :: x20 :: x21 :: x22 :: x23 :: x24 :: x25 :: x26 :: x27 :: x28 :: x29 :: x30 :: x31 :: a :: l := List.mem_cons_of_mem _ mq31
theorem mq33 : a ∈ x0 :: x1 :: x2 :: x3 :: x4 :: x5 :: x6 :: x7 :: x8 :: x9 :: x10 :: x11 :: x12 :: x13 :: x14 :: x15 :: x16 :: x17 :: x18 :: x19 :: x20 :: x21 :: x22 :: x23 :: x24 :: x25 :: x26 :: x27 :: x28 :: x29 :: x30 :: x31 :: x32 :: a :: l := List.mem_cons_of_mem _ mq32
theorem mq34 : a ∈ x0 :: x1 :: x2 :: x3 :: x4 :: x5 :: x6 :: x7 :: x8 :: x9 :: x10 :: x11 :: x12 :: x13 :: x14 :: x15 :: x16 :: x17 :: x18 :: x19 :: x20 :: x21 :: x22 :: x23 :: x24 :: x25 :: x26 :: x27 :: x28 :: x29 :: x30 :: x31 :: x32 :: x33 :: a :: l := List.mem_cons_of_mem _ mq33
theorem mq35 : a ∈ x0 :: x1 :: x2 :: x3 :: x4 :: x5 :: x6 :: x7 :: x8 :: x9 :: x10 :: x11 :: x12 :: x13 :: x14 :: x15 :: x16 :: x17 :: x18 :: x19 :: x20 :: x21 :: x22 :: x23 :: x24 :: x25 :: x26 :: x27 :: x28 :: x29 :: x30 :: x31 :: x32 :: x33 :: x34 :: a :: l := List.mem_cons_of_mem _ mq34
theorem mq36 : a ∈ x0 :: x1 :: x2 :: x3 :: x4 :: x5 :: x6 :: x7 :: x8 :: x9 :: x10 :: x11 :: x12 :: x13 :: x14 :: x15 :: x16 :: x17 :: x18 :: x19 :: x20 :: x21 :: x22 :: x23 :: x24 :: x25 :: x26 :: x27 :: x28 :: x29 :: x30 :: x31 :: x32 :: x33 :: x34 :: x35 :: a :: l := List.mem_cons_of_mem _ mq35
theorem mq37 : a ∈ x0 :: x1 :: x2 :: x3 :: x4 :: x5 :: x6 :: x7 :: x8 :: x9 :: x10 :: x11 :: x12 :: x13 :: x14 :: x15 :: x16 :: x17 :: x18 :: x19 :: x20 :: x21 :: x22 :: x23 :: x24 :: x25 :: x26 :: x27 :: x28 :: x29 :: x30 :: x31 :: x32 :: x33 :: x34 :: x35 :: x36 :: a :: l := List.mem_cons_of_mem _ mq36
theorem mq38 : a ∈ x0 :: x1 :: x2 :: x3 :: x4 :: x5 :: x6 :: x7 :: x8 :: x9 :: x10 :: x11 :: x12 :: x13 :: x14 :: x15 :: x16 :: x17 :: x18 :: x19 :: x20 :: x21 :: x22 :: x23 :: x24 :: x25 :: x26 :: x27 :: x28 :: x29 :: x30 :: x31 :: x32 :: x33 :: x34 :: x35 :: x36 :: x37 :: a :: l := List.mem_cons_of_mem _ mq37
theorem mq39 : a ∈ x0 :: x1 :: x2 :: x3 :: x4 :: x5 :: x6 :: x7 :: x8 :: x9 :: x10 :: x11 :: x12 :: x13 :: x14 :: x15 :: x16 :: x17 :: x18 :: x19 :: x20 :: x21 :: x22 :: x23 :: x24 :: x25 :: x26 :: x27 :: x28 :: x29 :: x30 :: x31 :: x32 :: x33 :: x34 :: x35 :: x36 :: x37 :: x38 :: a :: l := List.mem_cons_of_mem _ mq38
end
theorem Fb.cells8 {b : Nat} {ty : TypeId} {x0 x1 x2 x3 x4 x5 x6 x7 : Value} {W : World} (h : Fb (b, ty, [x0, x1, x2, x3, x4, x5, x6, x7]) W) : W.cell? ⟨b, 0, none⟩ = some x0 ∧ W.cell? ⟨b, 1, none⟩ = some x1 ∧ W.cell? ⟨b, 2, none⟩ = some x2 ∧ W.cell? ⟨b, 3, none⟩ = some x3 ∧ W.cell? ⟨b, 4, none⟩ = some x4 ∧ W.cell? ⟨b, 5, none⟩ = some x5 ∧ W.cell? ⟨b, 6, none⟩ = some x6 ∧ W.cell? ⟨b, 7, none⟩ = some x7 :=
  ⟨h.cell 0, h.cell 1, h.cell 2, h.cell 3, h.cell 4, h.cell 5, h.cell 6, h.cell 7⟩
theorem below_row {B : Nat} {a w : World} (h : RowKit.Below B a w) {b : Nat} (hb : B ≤ b) (c : Array Value) : RowKit.Below B a (w.setRow b c) :=
  ⟨h.os, h.tape, h.output, by simpa using h.size, fun k hk => (setRow_other w b k c (by omega)).trans (h.block k hk)⟩
theorem Sf.row {w W : World} {pre post : List FBox} {F : List (Value × List Int)} {b : Nat} {ty : TypeId} {cs : List Value} (h : Sf w (pre ++ (b, ty, cs) :: post) F W) (cs' : List Value) :
    Sf w (pre ++ (b, ty, cs') :: post) F (W.setRow b cs'.toArray) := by
  have hm : (b, ty, cs) ∈ pre ++ (b, ty, cs) :: post := by simp
  have hwb : w.heap.size ≤ b := h.le _ hm
  have hbx := h.box _ hm
  have hne : ∀ x ∈ pre ++ (b, ty, cs') :: post, x = (b, ty, cs') ∨ (x ∈ pre ++ (b, ty, cs) :: post ∧ x.1 ≠ b) := by
    intro x hx
    have hp := h.pw
    rw [List.pairwise_append] at hp
    obtain ⟨_, p2, p3⟩ := hp
    rw [List.pairwise_cons] at p2
    rcases List.mem_append.1 hx with hx | hx
    · refine .inr ⟨List.mem_append_left _ hx, ?_⟩
      have := p3 x hx (b, ty, cs) (by simp)
      simp at this; omega
    · rcases List.mem_cons.1 hx with rfl | hx
      · exact .inl rfl
      · refine .inr ⟨List.mem_append_right _ (List.mem_cons_of_mem _ hx), ?_⟩
        have := p2.1 x hx
        simp at this; omega
  have hg : W.grownBy (W.setRow b cs'.toArray) (some b) := ⟨rfl, rfl, rfl, by simp, fun k _ hk => setRow_other W b k _ (fun e => hk (by rw [e]))⟩
  have hbl : (W.setRow b cs'.toArray).heap[b]? = some (.cells cs'.toArray ty (0, 0)) := setRow_heap W b _ _ _ _ hbx
  refine ⟨below_row h.below hwb _, fun x hx => ?_, fun x hx => ?_, fun f hf => (h.ints f hf).grown (h.off f hf _ hm) hg, fun f hf x hx => ?_, ?_⟩
  · rcases hne x hx with rfl | ⟨hx, _⟩
    · exact hwb
    · exact h.le x hx
  · rcases hne x hx with rfl | ⟨hx, hn⟩
    · exact hbl
    · have hq := h.box x hx
      show (W.setRow b cs'.toArray).heap[x.1]? = _
      rw [hg.block x.1 (h.lt x hx) (fun e => hn (by simpa using e))]
      exact hq
  · rcases hne x hx with rfl | ⟨hx, _⟩
    · show Off f.1 b; exact h.off f hf (b, ty, cs) hm
    · exact h.off f hf x hx
  · have hp := h.pw
    rw [List.pairwise_append, List.pairwise_cons] at hp ⊢
    refine ⟨hp.1, ⟨fun y hy => hp.2.1.1 y hy, hp.2.1.2⟩, fun x hx y hy => ?_⟩
    rcases List.mem_cons.1 hy with rfl | hy
    · exact hp.2.2 x hx (b, ty, cs) (by simp)
    · exact hp.2.2 x hx y (List.mem_cons_of_mem _ hy)
theorem ret_row {fn : Func} {p u : Tmp} {ty : TypeId} (h : fn.results = #[.cell p ty, .tmp u]) (tmps : Array Value) (w : World) (b : Nat) (cs : Array Value) (hp : tmps.getD p undef = .pointer (some ⟨b, 0, none⟩)) (hl : (loadVar ty ⟨b, 0, none⟩).run Try.prog w = .ok (.agg cs) w) :
    (results fn tmps).run Try.prog w = .ok (.tuple #[.agg cs, tmps.getD u undef]) w := by
  rw [results_cell_tmp h, hp]
  simp [asAddr, Result.andThen, hl]

theorem Sf.part {w W : World} {pre post : List FBox} {F : List (Value × List Int)} {b : Nat} {ty : TypeId} {cs : List Value} (h : Sf w (pre ++ (b, ty, cs) :: post) F W) (k k1 k2 k3 : Nat) (_e1 : k1 = k + 1) (_e2 : k2 = k + 2) (_e3 : k3 = k + 3) (v0 v1 v2 v3 : Value) :
    Sf w (pre ++ (b, ty, (((cs.set k v0).set k1 v1).set k2 v2).set k3 v3) :: post) F ((((W.setCell ⟨b, k, none⟩ v0).setCell ⟨b, k1, none⟩ v1).setCell ⟨b, k2, none⟩ v2).setCell ⟨b, k3, none⟩ v3) :=
  (((h.set k v0).set k1 v1).set k2 v2).set k3 v3
theorem Sf.facts {w W : World} {L : List FBox} {F F' : List (Value × List Int)} (h : Sf w L F W) (hs : ∀ f ∈ F', f ∈ F) : Sf w L F' W :=
  ⟨h.below, h.le, h.box, fun f hf => h.ints f (hs f hf), fun f hf => h.off f (hs f hf), h.pw⟩

theorem Sf.tail {w W : World} {x : FBox} {L : List FBox} {F : List (Value × List Int)} (h : Sf w (x :: L) F W) : Sf w L F W :=
  ⟨h.below, fun y hy => h.le y (List.mem_cons_of_mem _ hy), fun y hy => h.box y (List.mem_cons_of_mem _ hy), h.ints, fun f hf y hy => h.off f hf y (List.mem_cons_of_mem _ hy), (List.pairwise_cons.1 h.pw).2⟩

/-- The rational of a fraction's cells. -/
def ratOf (s : Int) (l k : List Int) : Rat := Rat.divInt (s * val l) (val k)
theorem ratOf_is (r : Rat) : ratOf r.num.sign (digs r.num.natAbs) (digs (r.den : Int).natAbs) = r := by
  unfold ratOf
  rw [digs_val, digs_val, Int.sign_mul_natAbs, show (((r.den : Int).natAbs : Nat) : Int) = (r.den : Int) by simp]
  exact Rat.num_divInt_den r
/-- A span's Right, for any cells. -/
def sR (s1 : Int) (l1 : List Int) (t1 : Int) (k1 : List Int) (s2 : Int) (l2 : List Int) (t2 : Int) (k2 : List Int) : Bool := (fRightB s1 l1 t1 k1 && fRightB s2 l2 t2 k2) && decide (ratOf s1 l1 k1 ≤ ratOf s2 l2 k2)
theorem sR_good {s1 t1 s2 t2 : Int} {l1 k1 l2 k2 : List Int} (h : sR s1 l1 t1 k1 s2 l2 t2 k2 = true) : ∃ x y : Rat, (s1 = x.num.sign ∧ l1 = digs x.num.natAbs ∧ t1 = 1 ∧ k1 = digs (x.den : Int).natAbs) ∧ (s2 = y.num.sign ∧ l2 = digs y.num.natAbs ∧ t2 = 1 ∧ k2 = digs (y.den : Int).natAbs) ∧ x ≤ y := by
  unfold sR at h
  simp only [Bool.and_eq_true, decide_eq_true_eq] at h
  obtain ⟨⟨h1, h2⟩, h3⟩ := h
  obtain ⟨x, rfl, rfl, rfl, rfl⟩ := fright_of h1
  obtain ⟨y, rfl, rfl, rfl, rfl⟩ := fright_of h2
  rw [ratOf_is, ratOf_is] at h3
  exact ⟨x, y, ⟨rfl, rfl, rfl, rfl⟩, ⟨rfl, rfl, rfl, rfl⟩, h3⟩
theorem sR_is (x y : Rat) : sR x.num.sign (digs x.num.natAbs) 1 (digs (x.den : Int).natAbs) y.num.sign (digs y.num.natAbs) 1 (digs (y.den : Int).natAbs) = decide (x ≤ y) := by
  unfold sR; rw [fright_is, fright_is, ratOf_is, ratOf_is]; rfl
theorem cmp_le (x y : Rat) : decide (cmpR x y ≤ 0) = decide (x ≤ y) := by
  rw [decide_eq_decide]
  constructor
  · intro h
    exact Rat.not_lt.1 fun e => by have := cmpR_gt.2 e; omega
  · intro h
    have := cmpR_bd x y
    have h2 : cmpR x y ≠ 1 := fun e => absurd h (Rat.not_le.2 (cmpR_gt.1 e))
    omega
end Go.Proofs.Ytgncnkojpedmdaa.Sp

namespace Go.Proofs.Ytgncnkojpedmdaa.Sp
open Go.RowKit Bi
theorem Sf.set8 {w W : World} {pre post : List FBox} {F : List (Value × List Int)} {b : Nat} {ty : TypeId} {x0 x1 x2 x3 x4 x5 x6 x7 : Value} (h : Sf w (pre ++ (b, ty, [x0, x1, x2, x3, x4, x5, x6, x7]) :: post) F W) (y0 y1 y2 y3 y4 y5 y6 y7 : Value) :
    Sf w (pre ++ (b, ty, [y0, y1, y2, y3, y4, y5, y6, y7]) :: post) F ((((((((W.setCell ⟨b, 0, none⟩ y0).setCell ⟨b, 1, none⟩ y1).setCell ⟨b, 2, none⟩ y2).setCell ⟨b, 3, none⟩ y3).setCell ⟨b, 4, none⟩ y4).setCell ⟨b, 5, none⟩ y5).setCell ⟨b, 6, none⟩ y6).setCell ⟨b, 7, none⟩ y7) :=
  ((((((((h.set 0 y0).set 1 y1).set 2 y2).set 3 y3).set 4 y4).set 5 y5).set 6 y6).set 7 y7)

theorem rfsame_b {w : World} {s1 t1 : Int} {a1 b1 : Option Addr} {n1 c1 m1 d1 : Nat} {l1 k1 : List Int} {s2 t2 : Int} {a2 b2 : Option Addr} {n2 c2 m2 d2 : Nat} {l2 k2 : List Int} (h1 : Ints w (.slice a1 n1 c1) l1) (h2 : Ints w (.slice b1 m1 d1) k1) (h3 : Ints w (.slice a2 n2 c2) l2) (h4 : Ints w (.slice b2 m2 d2) k2) {r : Bool} (hr : (decide (s1 = s2 ∧ l1 = l2) && decide (t1 = t2 ∧ k1 = k2)) = r) :
    Calls Try.prog 29 #[.agg #[.int .i64 s1, .slice a1 n1 c1, .int .i64 t1, .slice b1 m1 d1], .agg #[.int .i64 s2, .slice a2 n2 c2, .int .i64 t2, .slice b2 m2 d2]] w fun e w' => e = .returned (.bool r) ∧ RowKit.Below w.heap.size w w' := by
  subst hr
  exact rfsame_raw s1 a1 n1 c1 l1 t1 b1 m1 d1 k1 s2 a2 n2 c2 l2 t2 b2 m2 d2 k2 w h1 h2 h3 h4

set_option maxHeartbeats 8000000 in
theorem r10same_raw {w : World} {s1 t1 : Int} {a1 b1 : Option Addr} {n1 c1 m1 d1 : Nat} {l1 k1 : List Int} {s2 t2 : Int} {a2 b2 : Option Addr} {n2 c2 m2 d2 : Nat} {l2 k2 : List Int} {s3 t3 : Int} {a3 b3 : Option Addr} {n3 c3 m3 d3 : Nat} {l3 k3 : List Int} {s4 t4 : Int} {a4 b4 : Option Addr} {n4 c4 m4 d4 : Nat} {l4 k4 : List Int} (hl1 : Ints w (.slice a1 n1 c1) l1) (hk1 : Ints w (.slice b1 m1 d1) k1) (hl2 : Ints w (.slice a2 n2 c2) l2) (hk2 : Ints w (.slice b2 m2 d2) k2) (hl3 : Ints w (.slice a3 n3 c3) l3) (hk3 : Ints w (.slice b3 m3 d3) k3) (hl4 : Ints w (.slice a4 n4 c4) l4) (hk4 : Ints w (.slice b4 m4 d4) k4) {r : Bool} (hr : ((decide (s1 = s3 ∧ l1 = l3) && decide (t1 = t3 ∧ k1 = k3)) && (decide (s2 = s4 ∧ l2 = l4) && decide (t2 = t4 ∧ k2 = k4))) = r) :
    Calls Try.prog 25 #[.agg #[.int .i64 s1, .slice a1 n1 c1, .int .i64 t1, .slice b1 m1 d1, .int .i64 s2, .slice a2 n2 c2, .int .i64 t2, .slice b2 m2 d2], .agg #[.int .i64 s3, .slice a3 n3 c3, .int .i64 t3, .slice b3 m3 d3, .int .i64 s4, .slice a4 n4 c4, .int .i64 t4, .slice b4 m4 d4]] w fun e w' => e = .returned (.bool r) ∧ RowKit.Below w.heap.size w w' := by
  obtain ⟨u, hu⟩ : ∃ u, (decide (s1 = s3 ∧ l1 = l3) && decide (t1 = t3 ∧ k1 = k3)) = u := ⟨_, rfl⟩
  obtain ⟨v, hv⟩ : ∃ v, (decide (s2 = s4 ∧ l2 = l4) && decide (t2 = t4 ∧ k2 = k4)) = v := ⟨_, rfl⟩
  rw [hu, hv] at hr
  have HU := Lib.hid hu
  have HV := Lib.hid hv
  cases u
  · obtain rfl : false = r := by rw [← hr]; rfl
    have s0 := (((((((((((Sf.start w).arg hk1).arg hl1).arg hk2).arg hl2).arg hk3).arg hl3).arg hk4).arg hl4).put [.int .i64 s1, .slice a1 n1 c1, .int .i64 t1, .slice b1 m1 d1, .int .i64 s2, .slice a2 n2 c2, .int .i64 t2, .slice b2 m2 d2] 28).put [.int .i64 s3, .slice a3 n3 c3, .int .i64 t3, .slice b3 m3 d3, .int .i64 s4, .slice a4 n4 c4, .int .i64 t4, .slice b4 m4 d4] 28)
    try simp only [World.size_alloc] at s0
    have S0 := Lib.hid s0
    clear s0
    clear hr hu hv hl1 hk1 hl2 hk2 hl3 hk3 hl4 hk4
    go_enter Try.func25, Try.ntmps25
    obtain ⟨q1, q2, q3, q4, q5, q6, q7, q8⟩ := Fb.cells8 (S0.out.box (w.heap.size + 1, 28, [.int .i64 s3, .slice a3 n3 c3, .int .i64 t3, .slice b3 m3 d3, .int .i64 s4, .slice a4 n4 c4, .int .i64 t4, .slice b4 m4 d4]) mq0)
    obtain ⟨q9, q10, q11, q12, q13, q14, q15, q16⟩ := Fb.cells8 (S0.out.box (w.heap.size, 28, [.int .i64 s1, .slice a1 n1 c1, .int .i64 t1, .slice b1 m1 d1, .int .i64 s2, .slice a2 n2 c2, .int .i64 t2, .slice b2 m2 d2]) mq1)
    go_wp2_with fail
    clear q1 q2 q3 q4 q5 q6 q7 q8 q9 q10 q11 q12 q13 q14 q15 q16
    refine (rfsame_b (S0.out.ints (.slice a1 n1 c1, l1) mq6) (S0.out.ints (.slice b1 m1 d1, k1) mq7) (S0.out.ints (.slice a3 n3 c3, l3) mq2) (S0.out.ints (.slice b3 m3 d3, k3) mq3) HU.out).mono ?_
    rintro e w1 ⟨rfl, hb⟩
    have R1 := Lib.hid (S0.out.later hb)
    clear hb
    go_wp2_with fail
    go_ret
    exact ⟨rfl, R1.out.below⟩
  · obtain rfl : v = r := by rw [← hr]; rfl
    have s0 := (((((((((((Sf.start w).arg hk1).arg hl1).arg hk2).arg hl2).arg hk3).arg hl3).arg hk4).arg hl4).put [.int .i64 s1, .slice a1 n1 c1, .int .i64 t1, .slice b1 m1 d1, .int .i64 s2, .slice a2 n2 c2, .int .i64 t2, .slice b2 m2 d2] 28).put [.int .i64 s3, .slice a3 n3 c3, .int .i64 t3, .slice b3 m3 d3, .int .i64 s4, .slice a4 n4 c4, .int .i64 t4, .slice b4 m4 d4] 28)
    try simp only [World.size_alloc] at s0
    have S0 := Lib.hid s0
    clear s0
    clear hr hu hv hl1 hk1 hl2 hk2 hl3 hk3 hl4 hk4
    go_enter Try.func25, Try.ntmps25
    obtain ⟨q1, q2, q3, q4, q5, q6, q7, q8⟩ := Fb.cells8 (S0.out.box (w.heap.size + 1, 28, [.int .i64 s3, .slice a3 n3 c3, .int .i64 t3, .slice b3 m3 d3, .int .i64 s4, .slice a4 n4 c4, .int .i64 t4, .slice b4 m4 d4]) mq0)
    obtain ⟨q9, q10, q11, q12, q13, q14, q15, q16⟩ := Fb.cells8 (S0.out.box (w.heap.size, 28, [.int .i64 s1, .slice a1 n1 c1, .int .i64 t1, .slice b1 m1 d1, .int .i64 s2, .slice a2 n2 c2, .int .i64 t2, .slice b2 m2 d2]) mq1)
    go_wp2_with fail
    clear q1 q2 q3 q4 q5 q6 q7 q8 q9 q10 q11 q12 q13 q14 q15 q16
    refine (rfsame_b (S0.out.ints (.slice a1 n1 c1, l1) mq6) (S0.out.ints (.slice b1 m1 d1, k1) mq7) (S0.out.ints (.slice a3 n3 c3, l3) mq2) (S0.out.ints (.slice b3 m3 d3, k3) mq3) HU.out).mono ?_
    rintro e w1 ⟨rfl, hb⟩
    have R1 := Lib.hid (S0.out.later hb)
    clear hb
    obtain ⟨q17, q18, q19, q20, q21, q22, q23, q24⟩ := Fb.cells8 (R1.out.box (w.heap.size + 1, 28, [.int .i64 s3, .slice a3 n3 c3, .int .i64 t3, .slice b3 m3 d3, .int .i64 s4, .slice a4 n4 c4, .int .i64 t4, .slice b4 m4 d4]) mq0)
    obtain ⟨q25, q26, q27, q28, q29, q30, q31, q32⟩ := Fb.cells8 (R1.out.box (w.heap.size, 28, [.int .i64 s1, .slice a1 n1 c1, .int .i64 t1, .slice b1 m1 d1, .int .i64 s2, .slice a2 n2 c2, .int .i64 t2, .slice b2 m2 d2]) mq1)
    go_wp2_with fail
    clear q17 q18 q19 q20 q21 q22 q23 q24 q25 q26 q27 q28 q29 q30 q31 q32
    refine (rfsame_b (R1.out.ints (.slice a2 n2 c2, l2) mq4) (R1.out.ints (.slice b2 m2 d2, k2) mq5) (R1.out.ints (.slice a4 n4 c4, l4) mq0) (R1.out.ints (.slice b4 m4 d4, k4) mq1) HV.out).mono ?_
    rintro e w2 ⟨rfl, hb⟩
    have R2 := Lib.hid (R1.out.later hb)
    clear hb
    go_wp2_with fail
    go_ret
    exact ⟨rfl, R2.out.below⟩
end Go.Proofs.Ytgncnkojpedmdaa.Sp
