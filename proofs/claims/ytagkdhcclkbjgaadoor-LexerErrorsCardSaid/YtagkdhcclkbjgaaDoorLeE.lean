/- What the listed variables hold, and a world in which they hold it. -/
import Derived.Test.YtagkdhcclkbjgaaDoorLe4
import Derived.Test.YtagkdhcclkbjgaaDoorLaw
import Derived.Test.YtagkdhcclkbjgaaDoorCards
import Derived.Test.YtagkdhcclkbjgaaDoorTie
import Derived.ProofKit
import Derived.Stop.LaidErr
import Derived.Lib.LaidIn
import Derived.Shelf.Vars
set_option maxRecDepth 100000
namespace Go.Proofs.YtagkdhcclkbjgaaDoor.Le
open Go.RowKit Go.WideShapes Go.ChangeShapes

theorem own : ownKnob Tryd.prog.godebug = none := by kernel_rfl
theorem star : "*" ++ "errors.errorString" = "*errors.errorString" := by decide
theorem rowErr (u : TypeId) (h : Tryd.prog.typeName? 3 u = some "*errors.errorString") : u = 84 :=
  typeName_ptr_named (nm := "errors.errorString") (by rw [star]; kernel_rfl) (by kernel_rfl) (by decide) u (by rw [star]; exact h)

theorem env_of {W : World} (h : laidMetH Tryd.prog Rows.lexerBackRow.laid W) : Env W := by
  have hL : laidMet Tryd.prog Rows.lexerBackRow.laid W := h
  have h0 : Lib.TabIs Tryd.prog W "internal/strconv.uint64pow10" .u64 Lib.pow10Tab :=
    Lib.tabIs_of_head (g := 3) (t := 89) (e := 71) (n := 20) (by kernel_rfl) (by kernel_rfl) Tryd.underlying89 Tryd.underlying71 (by kernel_rfl) (by kernel_rfl) hL.tail.tail
  obtain ⟨a3, t3, hv3, _⟩ := laid_sentinel (g := 2) hL.tail.tail.tail (by kernel_rfl) (by kernel_rfl) Tryd.underlying46 rowErr Tryd.underlying84 Tryd.underlying86 rfl rfl Tryd.underlying9 (by kernel_rfl) (by kernel_rfl)
  obtain ⟨a2, t2, hv2, _⟩ := laid_sentinel (g := 1) hL.tail.tail.tail.tail (by kernel_rfl) (by kernel_rfl) Tryd.underlying46 rowErr Tryd.underlying84 Tryd.underlying86 rfl rfl Tryd.underlying9 (by kernel_rfl) (by kernel_rfl)
  have h5 : Lib.TabIs Tryd.prog W "kitbag/lexer.signs" .u8 [40, 41, 44, 59, 58, 61, 60, 43, 45, 42, 47, 123, 125] :=
    Lib.tabIs_of_head (g := 0) (t := 61) (e := 5) (n := 13) (by kernel_rfl) (by kernel_rfl) Tryd.underlying61 Tryd.underlying5 (by kernel_rfl) (by kernel_rfl) hL.tail.tail.tail.tail.tail
  refine ⟨h0, ⟨_, _, by simpa using World.var?_cell (by kernel_rfl) hv2 0⟩, ⟨_, _, by simpa using World.var?_cell (by kernel_rfl) hv3 0⟩, ?_, ?_⟩
  · have h6 : W.var? Tryd.prog "kitbag/lexer.signs" = some signV := h5
    unfold World.var? at h6
    rw [gSigns] at h6
    simp only [Option.bind_some] at h6
    rcases hh : W.heap[0]? with _ | o
    · rw [hh] at h6; cases h6
    · rw [hh] at h6
      cases o with
      | cells cs t fr => simp only [Option.some.injEq] at h6; subst h6; exact ⟨t, fr, rfl⟩
      | _ => cases h6
  · exact lt_of_cell (h0.cell (g := 3) (by kernel_rfl) 0 (by decide))

noncomputable def laidWorld (os : Os) : World :=
  let N := (World.settled Tryd.prog os).heap.size
  let w0 := World.holding Tryd.prog os ⟨#[.cells #[.string ⟨#[118, 97, 108, 117, 101, 32, 111, 117, 116, 32, 111, 102, 32, 114, 97, 110, 103, 101]⟩] 86, .cells #[.string ⟨#[105, 110, 118, 97, 108, 105, 100, 32, 115, 121, 110, 116, 97, 120]⟩] 86], #[], []⟩
  let put (h : Array Obj) (g : Nat) (cs : Array Value) : Array Obj := h.modify g fun
    | .cells _ t frozen => .cells cs t frozen
    | o => o
  let h1 := put w0.heap 3 (Lib.pow10Tab.map fun z => Value.int .u64 z).toArray
  let h2 := put (put h1 2 #[.iface 84 (.pointer (some ⟨N, 0, none⟩))]) 1 #[.iface 84 (.pointer (some ⟨N + 1, 0, none⟩))]
  let h3 := put h2 4 (([0, 1, 28, 2, 29, 14, 24, 3, 30, 22, 20, 15, 25, 17, 4, 8, 31, 27, 13, 23, 21, 19, 16, 7, 26, 12, 18, 6, 11, 5, 10, 9] : List Int).map fun z => Value.int .u8 z).toArray
  let h4 := put h3 5 (([0, 1, 56, 2, 57, 49, 28, 3, 61, 58, 42, 50, 38, 29, 17, 4, 62, 47, 59, 36, 45, 43, 51, 22, 53, 39, 33, 30, 24, 18, 12, 5, 63, 55, 48, 27, 60, 41, 37, 16, 46, 35, 44, 21, 52, 32, 23, 11, 54, 26, 40, 15, 34, 20, 31, 10, 25, 14, 19, 9, 13, 8, 7, 6] : List Int).map fun z => Value.int .u8 z).toArray
  let h5 := put h4 0 (([40, 41, 44, 59, 58, 61, 60, 43, 45, 42, 47, 123, 125] : List Int).map fun z => Value.int .u8 z).toArray
  { w0 with heap := h5 }
theorem laid_met (os : Os) (args : Array Value) : laidMet Tryd.prog Rows.lexerBackRow.laid ((laidWorld os).forCall (fun _ _ => 0) ⟨#[], args, []⟩).memory :=
  laidMet_of_run' 8 (by kernel_rfl) (by kernel_rfl)
end Go.Proofs.YtagkdhcclkbjgaaDoor.Le
