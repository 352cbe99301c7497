/- Slices of fractions; the contract of the reference's around. The contract of the reference of span: Hull. -/
import Derived.Deep.RegionLaw
import Derived.Deep.LoopGhost
import Derived.Test.YtgncnkojpedmdaaPA22
set_option maxRecDepth 100000
namespace Go.Proofs.Ytgncnkojpedmdaa.Sp
open Go.RowKit Bi

/-- The sign and the slices of a fraction. -/
structure FCell where
  (s : Int) (a : Option Addr) (n c : Nat) (b : Option Addr) (m d : Nat)
def FCell.v (x : FCell) : Value := .slice x.a x.n x.c
def FCell.u (x : FCell) : Value := .slice x.b x.m x.d
/-- The block G holds n fractions, one behind the other. -/
structure FLs (w : World) (G n : Nat) (fs : Nat → FCell) (l : Nat → Rat) : Prop where
  lt : G < w.heap.size
  cell : ∀ i, i < n → w.cell? ⟨G, i * 4, none⟩ = some (.int .i64 (fs i).s) ∧ w.cell? ⟨G, i * 4 + 1, none⟩ = some (fs i).v ∧ w.cell? ⟨G, i * 4 + 2, none⟩ = some (.int .i64 1) ∧ w.cell? ⟨G, i * 4 + 3, none⟩ = some (fs i).u
  fr : ∀ i, i < n → Fr w (fs i).s (fs i).v (fs i).u (l i)
  sz : ∀ i, i < n → FSz 1000 (l i)
theorem FLs.later {w w' : World} {G n : Nat} {fs : Nat → FCell} {l : Nat → Rat} (h : FLs w G n fs l) (hb : RowKit.Below w.heap.size w w') : FLs w' G n fs l := by
  have hc : ∀ j, w'.cell? ⟨G, j, none⟩ = w.cell? ⟨G, j, none⟩ := fun j => by
    unfold World.cell?; rw [hb.block G h.lt]
  exact ⟨Nat.lt_of_lt_of_le h.lt hb.size, fun i hi => by rw [hc, hc, hc, hc]; exact h.cell i hi, fun i hi => (h.fr i hi).later hb, h.sz⟩
end Go.Proofs.Ytgncnkojpedmdaa.Sp

namespace Go.Proofs.Ytgncnkojpedmdaa.Sp
open Go.RowKit Bi
theorem lt4 {i : Nat} (h : i < 4) : i = 0 ∨ i = 1 ∨ i = 2 ∨ i = 3 := by omega
end Go.Proofs.Ytgncnkojpedmdaa.Sp
