/- How fractions and spans are read as arguments. -/
import Derived.Test.YtgncnkojpedmdaaGreatPTells18
import Derived.Test.YtgncnkojpedmdaaGreatPTells10
import Derived.OpenShut
import Derived.ProofKit
set_option maxRecDepth 100000
namespace Go.Proofs.YtgncnkojpedmdaaGreat.Sp
open Go.RowKit Go.WideShapes Go.ChangeShapes Bi

theorem cellsOfFracS : Tryz.prog.cellsOf 26 = 4 := by kernel_rfl
theorem cellsOfSpan : Tryz.prog.cellsOf 28 = 8 := by kernel_rfl
section
variable {H : Type} {enc : TypeId × Value → H} {w : World} {base : Nat} {held : Bool}
theorem read_fracS {fuel : Nat} {cs : List Value} {x : DataW H × List MemPlace} (h : DataW.trod enc Tryz.prog w base (fun _ => true) held fuel 26 cs = some x) :
  ∃ (s : Int) (a : Option Addr) (l : List Int) (cap : Nat) (t : Int) (b : Option Addr) (k : List Int) (dap : Nat), cs = [.int .i64 s, .slice a l.length cap, .int .i64 t, .slice b k.length dap] ∧ l.length ≤ 9223372036854775807 ∧ (l.length ≤ 1000000000 → Ints w (.slice a l.length cap) l) ∧ k.length ≤ 9223372036854775807 ∧ (k.length ≤ 1000000000 → Ints w (.slice b k.length dap) k) := by
 obtain ⟨ys, n, _, _, hlen, hyl, hf⟩ := DataW.trod_struct Tryz.underlying26 h
 rw [cellsOfFracS] at hlen
 match cs, hlen with
 | [c0, c1, c2, c3], _ =>
  match ys, hyl with
  | [y0, y1], _ =>
   have h0 : DataW.trod enc Tryz.prog w base (fun _ => true) held n 24 [c0, c1] = some y0 := by simpa [cellsOfBig] using hf 0 _ rfl
   have h1 : DataW.trod enc Tryz.prog w base (fun _ => true) held n 24 [c2, c3] = some y1 := by simpa [cellsOfBig] using hf 1 _ rfl
   obtain ⟨s, a, l, cap, e0, m0, i0, _⟩ := read_big h0
   obtain ⟨t, b, k, dap, e1, m1, i1, _⟩ := read_big h1
   simp at e0 e1
   obtain ⟨rfl, rfl⟩ := e0
   obtain ⟨rfl, rfl⟩ := e1
   exact ⟨s, a, l, cap, t, b, k, dap, rfl, m0, i0, m1, i1⟩
theorem read_spanS {fuel : Nat} {cs : List Value} {x : DataW H × List MemPlace} (h : DataW.trod enc Tryz.prog w base (fun _ => true) held fuel 28 cs = some x) :
  ∃ (s1 : Int) (a1 : Option Addr) (l1 : List Int) (c1 : Nat) (t1 : Int) (b1 : Option Addr) (k1 : List Int) (d1 : Nat) (s2 : Int) (a2 : Option Addr) (l2 : List Int) (c2 : Nat) (t2 : Int) (b2 : Option Addr) (k2 : List Int) (d2 : Nat),
   cs = [.int .i64 s1, .slice a1 l1.length c1, .int .i64 t1, .slice b1 k1.length d1, .int .i64 s2, .slice a2 l2.length c2, .int .i64 t2, .slice b2 k2.length d2] ∧ (l1.length ≤ 9223372036854775807 ∧ (l1.length ≤ 1000000000 → Ints w (.slice a1 l1.length c1) l1) ∧ k1.length ≤ 9223372036854775807 ∧ (k1.length ≤ 1000000000 → Ints w (.slice b1 k1.length d1) k1)) ∧ l2.length ≤ 9223372036854775807 ∧ (l2.length ≤ 1000000000 → Ints w (.slice a2 l2.length c2) l2) ∧ k2.length ≤ 9223372036854775807 ∧ (k2.length ≤ 1000000000 → Ints w (.slice b2 k2.length d2) k2) := by
 obtain ⟨ys, n, _, _, hlen, hyl, hf⟩ := DataW.trod_struct Tryz.underlying28 h
 rw [cellsOfSpan] at hlen
 match cs, hlen with
 | [e0, e1, e2, e3, e4, e5, e6, e7], _ =>
  match ys, hyl with
  | [y0, y1], _ =>
   have h0 : DataW.trod enc Tryz.prog w base (fun _ => true) held n 26 [e0, e1, e2, e3] = some y0 := by simpa [cellsOfFracS] using hf 0 _ rfl
   have h1 : DataW.trod enc Tryz.prog w base (fun _ => true) held n 26 [e4, e5, e6, e7] = some y1 := by simpa [cellsOfFracS] using hf 1 _ rfl
   obtain ⟨s1, a1, l1, c1, t1, b1, k1, d1, f1, i1⟩ := read_fracS h0
   obtain ⟨s2, a2, l2, c2, t2, b2, k2, d2, f2, i2⟩ := read_fracS h1
   simp only [List.cons.injEq, and_true] at f1 f2
   obtain ⟨rfl, rfl, rfl, rfl⟩ := f1
   obtain ⟨rfl, rfl, rfl, rfl⟩ := f2
   exact ⟨s1, a1, l1, c1, t1, b1, k1, d1, s2, a2, l2, c2, t2, b2, k2, d2, rfl, i1, i2⟩
end
end Go.Proofs.YtgncnkojpedmdaaGreat.Sp
