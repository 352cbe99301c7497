/- What the listed variables hold, for frac; how a fraction is read as an argument. -/
import Derived.Test.YtbbjogkapcakpaaGreatDoorM15
import Derived.Test.YtbbjogkapcakpaaGreatDoorM11
import Derived.Test.YtbbjogkapcakpaaGreatDoorM14
set_option maxRecDepth 100000
namespace Go.Proofs.YtbbjogkapcakpaaGreatDoor.Bi
open Go.RowKit Go.WideShapes Go.ChangeShapes

theorem envF_of {W : World} (h : laidMetH Tryz.prog Rows.fracFieldRow.laid W) (hs : W.ShapedOpen Tryz.prog) : EnvF W :=
  ⟨env_of h, cell_of_shapedOpen_int (zero := #[.int .i64 0]) (t := 3) hs (of_decide_eq_true (by kernel_rfl)) (by kernel_rfl) rfl (by kernel_rfl) (by kernel_rfl) Tryz.underlying3⟩
theorem cellsOfFrac : Tryz.prog.cellsOf 26 = 4 := by kernel_rfl
section
variable {H : Type} {enc : TypeId × Value → H} {w : World} {base : Nat} {held : Bool}
theorem read_frac {fuel : Nat} {cs : List Value} {x : DataW H × List MemPlace} (h : DataW.trod enc Tryz.prog w base (fun _ => true) held fuel 26 cs = some x) :
    ∃ (s : Int) (a : Option Addr) (l : List Int) (cap : Nat) (t : Int) (b : Option Addr) (k : List Int) (dap : Nat), cs = [.int .i64 s, .slice a l.length cap, .int .i64 t, .slice b k.length dap] ∧ l.length ≤ 9223372036854775807 ∧ (l.length ≤ 1000000000 → Ints w (.slice a l.length cap) l) ∧ k.length ≤ 9223372036854775807 ∧ (k.length ≤ 1000000000 → Ints w (.slice b k.length dap) k) := by
  obtain ⟨ys, n, _, _, hlen, hyl, hf⟩ := DataW.trod_struct Tryz.underlying26 h
  rw [cellsOfFrac] at hlen
  match cs, hlen with
  | [c0, c1, c2, c3], _ =>
    match ys, hyl with
    | [y0, y1], _ =>
      have h0 : DataW.trod enc Tryz.prog w base (fun _ => true) held n 24 [c0, c1] = some y0 := by simpa [cellsOfBig] using hf 0 _ rfl
      have h1 : DataW.trod enc Tryz.prog w base (fun _ => true) held n 24 [c2, c3] = some y1 := by simpa [cellsOfBig] using hf 1 _ rfl
      obtain ⟨s, a, l, cap, e0, m0, i0, _⟩ := read_big h0
      obtain ⟨t, b, k, dap, e1, m1, i1, _⟩ := read_big h1
      simp at e0 e1
      obtain ⟨rfl, rfl⟩ := e0
      obtain ⟨rfl, rfl⟩ := e1
      exact ⟨s, a, l, cap, t, b, k, dap, rfl, m0, i0, m1, i1⟩
end
end Go.Proofs.YtbbjogkapcakpaaGreatDoor.Bi
