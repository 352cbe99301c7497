/- What the listed variables hold, a world in which they hold it, and how units are read as arguments. -/
import Derived.OpenShut
import Derived.Test.YtmhdhabgdlefjaaGreatDoorPDims28
import Derived.Test.YtmhdhabgdlefjaaGreatDoorPDims11
import Derived.Test.YtmhdhabgdlefjaaGreatDoorLaw
import Derived.Test.YtmhdhabgdlefjaaGreatDoorCards
import Derived.Test.YtmhdhabgdlefjaaGreatDoorTie
import Derived.ProofKit
import Derived.Stop.LaidErr
import Derived.Lib.LaidIn
import Derived.Lib.LaidTab
import Derived.Shelf.Vars
set_option maxRecDepth 100000
namespace Go.Proofs.YtmhdhabgdlefjaaGreatDoor.Un
open Go.RowKit Go.WideShapes Go.ChangeShapes Dm Bi

theorem own : ownKnob Tryz.prog.godebug = none := by kernel_rfl
/-- An array of strings that reads as a table of texts holds these texts, cell for cell. -/
theorem cells_of_names {H : Type} {enc : TypeId × Value → H} {P : Program} {w : World} {base : Nat} {sp : Nat → Bool} {held : Bool} {fuel : Nat} {t e : TypeId} {n : Nat} {cs : List Value} {zs : List (List UInt8)} {p : List MemPlace}
    (ht : P.underlying t = some (.array n e)) (he : P.underlying e = some .string) (hce : P.cellsOf e = 1) (hct : P.cellsOf t = n)
    (h : DataW.trod enc P w base sp held fuel t cs = some (.agg (zs.map fun z => .lit (.string z)), p)) : cs = zs.map fun z => sv z := by
  cases fuel with
  | zero => simp [DataW.trod] at h
  | succ fuel =>
    simp only [DataW.trod, ht, hce, hct, Nat.mul_one] at h
    split at h
    · rename_i hl
      obtain ⟨xs, hm, hx⟩ := Option.map_eq_some_iff.1 h
      have hxs : xs.map (·.1) = zs.map fun z => (DataW.lit (.string z) : DataW H) := by
        have := congrArg Prod.fst hx
        simpa using this
      have hxl : xs.length = n := by simpa using Lib.mapM_length hm
      have hzl : zs.length = n := by
        have := congrArg List.length hxs
        simp at this
        omega
      apply List.ext_getElem?
      intro i
      by_cases hi : i < n
      · obtain ⟨b, hb, hf⟩ := Lib.mapM_at hm i i (by simp [hi])
        obtain ⟨z, hc, rfl, _⟩ := DataW.trod_string he hf
        have h1 : cs[i]? = some (.string z) := by
          have := congrArg (·[0]?) hc
          simpa [List.getElem?_take, List.getElem?_drop] using this
        have h2 : (xs.map (·.1))[i]? = some (DataW.lit (.string z.data.toList) : DataW H) := by simp [hb]
        rw [hxs] at h2
        simp only [List.getElem?_map, Option.map_eq_some_iff, DataW.lit.injEq, Lit.string.injEq] at h2
        obtain ⟨z', hz', rfl⟩ := h2
        simp [h1, hz', sv]
      · rw [List.getElem?_eq_none (by omega), List.getElem?_eq_none (by simp; omega)]
    · cases h
theorem names_of_head {P : Program} {W : World} {name : String} {zs : List (List UInt8)} {rest : List (String × DataW Unit)} {g : Nat} {t e : TypeId} {n : Nat}
    (hg : P.globalNamed name = some g) (hty : (P.globals[g]?).map (·.type) = some t) (ht : P.underlying t = some (.array n e)) (he : P.underlying e = some .string) (hce : P.cellsOf e = 1) (hct : P.cellsOf t = n)
    (h : laidMet P ((name, .agg (zs.map fun z => .lit (.string z))) :: rest) W) : W.var? P name = some (zs.map fun z => sv z).toArray := by
  obtain ⟨ps, ⟨g', t', cs, fuel, p, q, hg', ht', hvar, hd, _, _⟩, _⟩ := h
  obtain rfl := Option.some.inj (hg.symm.trans hg')
  obtain rfl := Option.some.inj (hty.symm.trans ht')
  rw [hvar, ← cells_of_names ht he hce hct hd]

theorem chunks : ∀ (rows : List (List Value)) (cs : List Value), (∀ r ∈ rows, r.length = 6) → cs.length = rows.length * 6 → (∀ i r, rows[i]? = some r → (cs.drop (i * 6)).take 6 = r) → cs = rows.flatten
  | [], cs, _, hl, _ => by simpa using hl
  | r :: rows, cs, hr, hl, h => by
    have h0 := h 0 r rfl
    simp only [Nat.zero_mul, List.drop_zero] at h0
    have ih := chunks rows (cs.drop 6) (fun x hx => hr x (List.mem_cons_of_mem _ hx)) (by simp at hl ⊢; omega) (fun i x hx => by
      have := h (i + 1) x (by simpa using hx)
      rw [List.drop_drop, show 6 + i * 6 = (i + 1) * 6 by omega]; exact this)
    rw [List.flatten_cons, ← ih, ← h0, List.take_append_drop]
section
variable {H : Type} {enc : TypeId × Value → H} {w : World} {base : Nat} {held : Bool} {sp : Nat → Bool}
def rowD (x : List UInt8 × Nat × Int × Int × Int × Bool) : DataW H := .agg [.lit (.string x.1), .lit (.int .i64 (x.2.1 : Int)), .lit (.int .i64 x.2.2.1), .lit (.int .i64 x.2.2.2.1), .lit (.int .i64 x.2.2.2.2.1), .lit (.bool x.2.2.2.2.2)]
theorem cellsOfSym : Tryz.prog.cellsOf 91 = 6 := by kernel_rfl
theorem cellsOf3u : Tryz.prog.cellsOf 3 = 1 := by kernel_rfl
theorem cellsOf4u : Tryz.prog.cellsOf 4 = 1 := by kernel_rfl
theorem cellsOf9u : Tryz.prog.cellsOf 9 = 1 := by kernel_rfl
theorem cellsOfTab : Tryz.prog.cellsOf 92 = 72 := by kernel_rfl
theorem row_of {fuel : Nat} {cs : List Value} {p : List MemPlace} (x : List UInt8 × Nat × Int × Int × Int × Bool) (h : DataW.trod enc Tryz.prog w base sp held fuel 91 cs = some (rowD x, p)) : cs = (rowOf x).toList := by
  obtain ⟨ys, n, _, he, hlen, hyl, hf⟩ := DataW.trod_struct Tryz.underlying91 h
  rw [cellsOfSym] at hlen
  match cs, hlen with
  | [c0, c1, c2, c3, c4, c5], _ =>
    match ys, hyl, he with
    | [y0, y1, y2, y3, y4, y5], _, he =>
      have h0 : DataW.trod enc Tryz.prog w base sp held n 9 [c0] = some y0 := by simpa [cellsOf9u] using hf 0 _ rfl
      have h1 : DataW.trod enc Tryz.prog w base sp held n 3 [c1] = some y1 := by simpa [cellsOf3u] using hf 1 _ rfl
      have h2 : DataW.trod enc Tryz.prog w base sp held n 3 [c2] = some y2 := by simpa [cellsOf3u] using hf 2 _ rfl
      have h3 : DataW.trod enc Tryz.prog w base sp held n 3 [c3] = some y3 := by simpa [cellsOf3u] using hf 3 _ rfl
      have h4 : DataW.trod enc Tryz.prog w base sp held n 3 [c4] = some y4 := by simpa [cellsOf3u] using hf 4 _ rfl
      have h5 : DataW.trod enc Tryz.prog w base sp held n 4 [c5] = some y5 := by simpa [cellsOf4u] using hf 5 _ rfl
      obtain ⟨z0, e0, rfl, _⟩ := DataW.trod_string Tryz.underlying9 h0
      obtain ⟨z1, e1, rfl, _⟩ := DataW.trod_int Tryz.underlying3 h1
      obtain ⟨z2, e2, rfl, _⟩ := DataW.trod_int Tryz.underlying3 h2
      obtain ⟨z3, e3, rfl, _⟩ := DataW.trod_int Tryz.underlying3 h3
      obtain ⟨z4, e4, rfl, _⟩ := DataW.trod_int Tryz.underlying3 h4
      obtain ⟨z5, e5, rfl⟩ := DataW.trod_bool Tryz.underlying4 h5
      simp only [rowD, List.map_cons, List.map_nil, Prod.mk.injEq, DataW.agg.injEq, List.cons.injEq, DataW.lit.injEq, Lit.string.injEq, Lit.int.injEq, Lit.bool.injEq, and_true, true_and] at he
      obtain ⟨⟨a0, a1, a2, a3, a4, a5⟩, _⟩ := he
      simp only [List.cons.injEq, and_true] at e0 e1 e2 e3 e4 e5
      subst e0 e1 e2 e3 e4 e5
      unfold rowOf
      rw [a0, a1, a2, a3, a4, a5]
theorem table_of {fuel : Nat} {cs : List Value} {p : List MemPlace} (h : DataW.trod enc Tryz.prog w base sp held fuel 92 cs = some (.agg (symT.map rowD), p)) : cs = symC := by
  obtain ⟨ys, m, _, he, hlen, hyl, hf⟩ := DataW.trod_array Tryz.underlying92 h
  rw [cellsOfTab] at hlen
  simp only [cellsOfSym] at hf
  have h1 : ys.map (·.1) = symT.map rowD := by
    simp only [Prod.mk.injEq, DataW.agg.injEq] at he
    exact he.1.symm
  have hc := chunks (symT.map fun x => (rowOf x).toList) cs (fun r hr => by
      obtain ⟨x, _, rfl⟩ := List.mem_map.1 hr; rfl) (by rw [hlen]; rfl) (fun i r hr => by
    rw [List.getElem?_map, Option.map_eq_some_iff] at hr
    obtain ⟨x, hx, rfl⟩ := hr
    have hi : i < 12 := (List.getElem?_eq_some_iff.1 hx).1
    have h2 := hf i hi
    obtain ⟨y, hy⟩ : ∃ y, ys[i]? = some y := ⟨_, List.getElem?_eq_getElem (by omega)⟩
    rw [hy] at h2
    have h3 : y.1 = rowD x := by
      have := congrArg (·[i]?) h1
      simp only [List.getElem?_map, hy, hx, Option.map_some, Option.some.injEq] at this
      exact this
    obtain ⟨y1, y2⟩ := y
    subst h3
    exact row_of x h2)
  rw [hc]; rfl
end
theorem table_head {W : World} {rest : List (String × DataW Unit)} (h : laidMet Tryz.prog (("kitbag/unit.symbols", .agg (symT.map rowD)) :: rest) W) : W.var? Tryz.prog "kitbag/unit.symbols" = some symCells := by
  obtain ⟨ps, ⟨g', t', cs, fuel, p, q, hg', ht', hvar, hd, _, _⟩, _⟩ := h
  obtain rfl := Option.some.inj ((show Tryz.prog.globalNamed "kitbag/unit.symbols" = some 0 by kernel_rfl).symm.trans hg')
  obtain rfl := Option.some.inj ((show (Tryz.prog.globals[0]?).map (·.type) = some 92 by kernel_rfl).symm.trans ht')
  rw [hvar, show cs = symCells from Array.toList_inj.1 (by rw [table_of hd]; rfl)]
theorem var_heap {P : Program} {W : World} {name : String} {g : Nat} {cs : Array Value} (hg : P.globalNamed name = some g) (h : W.var? P name = some cs) : ∃ t fr, W.heap[g]? = some (.cells cs t fr) := by
  unfold World.var? at h
  rw [hg] at h
  simp only [Option.bind_some] at h
  rcases hh : W.heap[g]? with _ | o
  · rw [hh] at h; cases h
  · rw [hh] at h
    cases o with
    | cells cs t fr => simp only [Option.some.injEq] at h; subst h; exact ⟨t, fr, rfl⟩
    | _ => cases h
theorem envU_of {W : World} (h : laidMetH Tryz.prog Rows.unitTellsRow.laid W) : EnvU W := by
  have hL : laidMet Tryz.prog Rows.unitTellsRow.laid W := h
  have h6 : W.var? Tryz.prog "kitbag/dim.symbols" = some (([sy 0, sy 1, sy 2, sy 3, sy 4, sy 5] : List (List UInt8)).map fun z => sv z).toArray :=
    names_of_head (g := 1) (t := 112) (e := 9) (n := 6) (by kernel_rfl) (by kernel_rfl) Tryz.underlying112 Tryz.underlying9 (by kernel_rfl) (by kernel_rfl) hL.tail.tail.tail
  have h7 : W.var? Tryz.prog "kitbag/unit.symbols" = some symCells := table_head hL.tail.tail.tail.tail
  exact ⟨⟨var_heap (by kernel_rfl) h6⟩, var_heap (by kernel_rfl) h7⟩

noncomputable def laidWorld (os : Os) : World :=
  let w0 := World.settled Tryz.prog os
  let put (h : Array Obj) (g : Nat) (cs : Array Value) : Array Obj := h.modify g fun
    | .cells _ t frozen => .cells cs t frozen
    | o => o
  let h1 := put w0.heap 3 (Lib.pow10Tab.map fun z => Value.int .u64 z).toArray
  let h2 := put h1 4 (([0, 1, 28, 2, 29, 14, 24, 3, 30, 22, 20, 15, 25, 17, 4, 8, 31, 27, 13, 23, 21, 19, 16, 7, 26, 12, 18, 6, 11, 5, 10, 9] : List Int).map fun z => Value.int .u8 z).toArray
  let h3 := put h2 5 (([0, 1, 56, 2, 57, 49, 28, 3, 61, 58, 42, 50, 38, 29, 17, 4, 62, 47, 59, 36, 45, 43, 51, 22, 53, 39, 33, 30, 24, 18, 12, 5, 63, 55, 48, 27, 60, 41, 37, 16, 46, 35, 44, 21, 52, 32, 23, 11, 54, 26, 40, 15, 34, 20, 31, 10, 25, 14, 19, 9, 13, 8, 7, 6] : List Int).map fun z => Value.int .u8 z).toArray
  let h4 := put h3 1 symV
  let h5 := put h4 0 symCells
  { w0 with heap := h5 }
theorem laid_met (os : Os) (args : Array Value) : laidMet Tryz.prog Rows.unitTellsRow.laid ((laidWorld os).forCall (fun _ _ => 0) ⟨#[], args, []⟩).memory :=
  laidMet_of_run' 8 (by kernel_rfl) (by kernel_rfl)

section
variable {H : Type} {enc : TypeId × Value → H} {w : World} {base : Nat} {held : Bool}
end

section
variable {H : Type} {enc : TypeId × Value → H} {w : World} {base : Nat} {held : Bool}
end
end Go.Proofs.YtmhdhabgdlefjaaGreatDoor.Un
