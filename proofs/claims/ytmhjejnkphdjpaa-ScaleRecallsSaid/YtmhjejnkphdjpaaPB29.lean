/- How certificates, recalls and their slices are read as arguments. -/
import Derived.Test.YtmhjejnkphdjpaaPB24
import Derived.OpenShut
import Derived.ProofKit
set_option maxRecDepth 100000
namespace Go.Proofs.Ytmhjejnkphdjpaa.Sc
open Go.RowKit Go.WideShapes Go.ChangeShapes Bi

theorem cellsOf_cert : Try.prog.cellsOf 25 = 6 := by kernel_rfl
theorem cellsOf_recall : Try.prog.cellsOf 52 = 2 := by kernel_rfl
theorem cellsOf_int : Try.prog.cellsOf 3 = 1 := by kernel_rfl
section
variable {H : Type} {enc : TypeId × Value → H} {w : World} {base : Nat} {held : Bool}
theorem read_cert {fuel : Nat} {cs : List Value} {x : DataW H × List MemPlace} (h : DataW.trod enc Try.prog w base (fun _ => true) held fuel 25 cs = some x) :
    ∃ f : Nat → Int, cs = (List.range 6).map (fun j => Value.int .i64 (f j)) ∧ True := by
  obtain ⟨ys, n, _, _, hlen, hyl, hf⟩ := DataW.trod_struct Try.underlying25 h
  rw [cellsOf_cert] at hlen
  match cs, hlen with
  | [e0, e1, e2, e3, e4, e5], _ =>
    match ys, hyl with
    | [y0, y1, y2, y3, y4, y5], _ =>
      have h0 : DataW.trod enc Try.prog w base (fun _ => true) held n 3 [e0] = some y0 := by simpa [cellsOf_int] using hf 0 _ rfl
      have h1 : DataW.trod enc Try.prog w base (fun _ => true) held n 3 [e1] = some y1 := by simpa [cellsOf_int] using hf 1 _ rfl
      have h2 : DataW.trod enc Try.prog w base (fun _ => true) held n 3 [e2] = some y2 := by simpa [cellsOf_int] using hf 2 _ rfl
      have h3 : DataW.trod enc Try.prog w base (fun _ => true) held n 3 [e3] = some y3 := by simpa [cellsOf_int] using hf 3 _ rfl
      have h4 : DataW.trod enc Try.prog w base (fun _ => true) held n 3 [e4] = some y4 := by simpa [cellsOf_int] using hf 4 _ rfl
      have h5 : DataW.trod enc Try.prog w base (fun _ => true) held n 3 [e5] = some y5 := by simpa [cellsOf_int] using hf 5 _ rfl
      obtain ⟨z0, g0, _, _⟩ := DataW.trod_int Try.underlying3 h0
      obtain ⟨z1, g1, _, _⟩ := DataW.trod_int Try.underlying3 h1
      obtain ⟨z2, g2, _, _⟩ := DataW.trod_int Try.underlying3 h2
      obtain ⟨z3, g3, _, _⟩ := DataW.trod_int Try.underlying3 h3
      obtain ⟨z4, g4, _, _⟩ := DataW.trod_int Try.underlying3 h4
      obtain ⟨z5, g5, _, _⟩ := DataW.trod_int Try.underlying3 h5
      simp at g0 g1 g2 g3 g4 g5
      subst g0 g1 g2 g3 g4 g5
      exact ⟨fun j => [z0, z1, z2, z3, z4, z5].getD j 0, rfl, trivial⟩
theorem read_recall {fuel : Nat} {cs : List Value} {x : DataW H × List MemPlace} (h : DataW.trod enc Try.prog w base (fun _ => true) held fuel 52 cs = some x) :
    ∃ f : Nat → Int, cs = (List.range 2).map (fun j => Value.int .i64 (f j)) ∧ True := by
  obtain ⟨ys, n, _, _, hlen, hyl, hf⟩ := DataW.trod_struct Try.underlying52 h
  rw [cellsOf_recall] at hlen
  match cs, hlen with
  | [e0, e1], _ =>
    match ys, hyl with
    | [y0, y1], _ =>
      have h0 : DataW.trod enc Try.prog w base (fun _ => true) held n 3 [e0] = some y0 := by simpa [cellsOf_int] using hf 0 _ rfl
      have h1 : DataW.trod enc Try.prog w base (fun _ => true) held n 3 [e1] = some y1 := by simpa [cellsOf_int] using hf 1 _ rfl
      obtain ⟨z0, g0, _, _⟩ := DataW.trod_int Try.underlying3 h0
      obtain ⟨z1, g1, _, _⟩ := DataW.trod_int Try.underlying3 h1
      simp at g0 g1
      subst g0 g1
      exact ⟨fun j => [z0, z1].getD j 0, rfl, trivial⟩
theorem read_certs {fuel : Nat} {cs : List Value} {x : DataW H × List MemPlace} (h : DataW.trod enc Try.prog w base (fun _ => true) held fuel 22 cs = some x) :
    ∃ (a : Option Addr) (l : List Ct) (cap : Nat), cs = [.slice a l.length cap] ∧ l.length ≤ 9223372036854775807 ∧ Cs w a l := by
  obtain ⟨a, l, cap, h1, _, h3, h4, _⟩ := Rc.read_recs Try.underlying22 cellsOf_cert (by decide) (ok := fun _ => True) (fun h => read_cert h) h
  exact ⟨a, l.map ctOf, cap, by simpa using h1, by simpa using h3, Cs.of h4⟩
theorem read_recalls {fuel : Nat} {cs : List Value} {x : DataW H × List MemPlace} (h : DataW.trod enc Try.prog w base (fun _ => true) held fuel 23 cs = some x) :
    ∃ (a : Option Addr) (l : List (Int × Int)) (cap : Nat), cs = [.slice a l.length cap] ∧ l.length ≤ 9223372036854775807 ∧ Rs w a l := by
  obtain ⟨a, l, cap, h1, _, h3, h4, _⟩ := Rc.read_recs Try.underlying23 cellsOf_recall (by decide) (ok := fun _ => True) (fun h => read_recall h) h
  exact ⟨a, l.map fun f => (f 0, f 1), cap, by simpa using h1, by simpa using h3, Rs.of h4⟩
end
end Go.Proofs.Ytmhjejnkphdjpaa.Sc
