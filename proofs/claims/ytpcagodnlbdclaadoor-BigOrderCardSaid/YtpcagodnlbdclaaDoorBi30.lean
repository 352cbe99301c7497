/- Arguments that are too long; the listed variables; how an argument is read. -/
import Derived.Test.YtpcagodnlbdclaaDoorBi29
import Derived.OpenShut
import Derived.Deep.Slices
import Derived.ChangeArms
import Derived.Deep.DeepHandedRow
set_option maxRecDepth 100000
namespace Go.Proofs.YtpcagodnlbdclaaDoor.Bi
open Go.RowKit Go.WideShapes Go.ChangeShapes

theorem few_len (s : Int) (a : Option Addr) (m c : Nat) (n : Int) (w : World) (_hm : m ≤ 9223372036854775807) (bb : Bool) (hb : decide ((m : Int) ≤ n) = bb) :
    Calls Tryd.prog 11 #[.agg #[.int .i64 s, .slice a m c], .int .i64 n] w fun e w' => e = .returned (.bool bb) ∧ RowKit.Below w.heap.size w w' := by
  have HB := Lib.hid hb
  clear hb
  go_enter Tryd.func11, Tryd.ntmps11
  go_wp2_with fail
  go_ret
  rw [← HB.out]
  exact ⟨rfl, below_alloc _ _⟩
/-- The boxes stand; of their digits nothing is said. -/
structure Sk (w : World) (L : List (Nat × Int × Value)) (W : World) : Prop where
  below : RowKit.Below w.heap.size w W
  box : ∀ x ∈ L, W.heap[x.1]? = some (.cells #[.int .i64 x.2.1, x.2.2] 24 (0, 0))
theorem Sk.later {w W W' : World} {L : List (Nat × Int × Value)} (h : Sk w L W) (hb : RowKit.Below W.heap.size W W') : Sk w L W' :=
  ⟨h.below.trans (hb.mono h.below.size), fun x hx => (hb.block x.1 (Array.getElem?_eq_some_iff.1 (h.box x hx)).1).trans (h.box x hx)⟩
theorem Sk.env {w W : World} {L : List (Nat × Int × Value)} (h : Sk w L W) (he : Env w) : Env W := he.later h.below
theorem Sk.put {w W : World} {L : List (Nat × Int × Value)} (h : Sk w L W) (sg : Int) (v : Value) : Sk w ((W.heap.size, sg, v) :: L) (W.alloc (.cells #[.int .i64 sg, v] 24)) := by
  have h' := h.later (below_alloc W (.cells #[.int .i64 sg, v] 24))
  refine ⟨h'.below, fun x hx => ?_⟩
  rcases List.mem_cons.1 hx with rfl | hx
  · exact alloc_at W _
  · exact h'.box x hx
theorem Sk.cells {w W : World} {L : List (Nat × Int × Value)} (h : Sk w L W) {b : Nat} {sg : Int} {v : Value} (hx : (b, sg, v) ∈ L) : W.cell? ⟨b, 0, none⟩ = some (.int .i64 sg) ∧ W.cell? ⟨b, 1, none⟩ = some v := by
  have h1 := h.box _ hx
  exact ⟨by rw [cell_of_row _ _ _ _ _ _ h1]; rfl, by rw [cell_of_row _ _ _ _ _ _ h1]; rfl⟩
theorem Sk.two (w : World) (sa sb : Int) (va vb : Value) :
    Sk w [(w.heap.size + 1, sb, vb), (w.heap.size, sa, va)] ((w.alloc (.cells #[.int .i64 sa, va] 24)).alloc (.cells #[.int .i64 sb, vb] 24)) := by
  have h := ((⟨Below.refl _ _, fun x hx => by cases hx⟩ : Sk w [] w).put sa va).put sb vb
  rwa [show (w.alloc (.cells #[.int .i64 sa, va] 24)).heap.size = w.heap.size + 1 by simp] at h
theorem Sk.three (w : World) (sa sb sc : Int) (va vb vc : Value) :
    Sk w [(w.heap.size + 1 + 1, sc, vc), (w.heap.size + 1, sb, vb), (w.heap.size, sa, va)]
      (((w.alloc (.cells #[.int .i64 sa, va] 24)).alloc (.cells #[.int .i64 sb, vb] 24)).alloc (.cells #[.int .i64 sc, vc] 24)) := by
  have h := (Sk.two w sa sb va vb).put sc vc
  rwa [show ((w.alloc (.cells #[.int .i64 sa, va] 24)).alloc (.cells #[.int .i64 sb, vb] 24)).heap.size = w.heap.size + 1 + 1 by simp] at h

/-! ### how the arguments are read -/
theorem cellsOf3 : Tryd.prog.cellsOf 3 = 1 := by kernel_rfl
theorem cellsOfInts : Tryd.prog.cellsOf 22 = 1 := by kernel_rfl
theorem cellsOfBig : Tryd.prog.cellsOf 24 = 2 := by kernel_rfl
theorem wf64 {n : Int} (h : (Lit.int .i64 n).wf = true) : -9223372036854775808 ≤ n ∧ n ≤ 9223372036854775807 := by
  simp [Lit.wf] at h; exact ⟨h.1, h.2⟩
theorem maxLen_eq : maxLen = 9223372036854775807 := rfl
theorem lt_of_cell {w : World} {b o : Nat} {v : Value} (h : w.cell? ⟨b, o, none⟩ = some v) : b < w.heap.size := by
  rcases Nat.lt_or_ge b w.heap.size with h' | h'
  · exact h'
  · simp [World.cell?, Array.getElem?_eq_none h'] at h
section
variable {H : Type} {enc : TypeId × Value → H} {w : World} {base : Nat} {held : Bool}
theorem read_ints {fuel : Nat} {cs : List Value} {x : DataW H × List MemPlace} (h : DataW.trod enc Tryd.prog w base (fun _ => true) held fuel 22 cs = some x) :
    ∃ (a : Option Addr) (l : List Int) (cap : Nat), cs = [.slice a l.length cap] ∧ l.length ≤ 9223372036854775807 ∧ (l.length ≤ 1000000000 → Ints w (.slice a l.length cap) l) := by
  rcases open_ints Tryd.underlying22 Tryd.underlying3 cellsOf3 h with ⟨rfl, _⟩ | ⟨a, len, cap, zs, rfl, _, hl, hm, hz, _, hcell, hwz⟩
  · exact ⟨none, [], 0, rfl, by simp, fun _ => ⟨none, 0, rfl, Nat.le_refl _, by simp, .inl rfl⟩⟩
  · rw [if_pos rfl] at hz
    rw [maxLen_eq] at hm
    have hlen : (zs.take len).length = len := by rw [List.length_take]; omega
    refine ⟨some a, zs.take len, cap, by rw [hlen], by omega, fun h9 => ?_⟩
    by_cases h0 : len = 0
    · subst h0; exact ⟨_, _, rfl, by simp, by simp, .inl rfl⟩
    · obtain ⟨b, off, rfl, hc⟩ := ints_at hcell (by omega)
      refine ⟨_, _, rfl, by omega, h9, .inr ⟨b, off, rfl, lt_of_cell (hc 0 (by omega)), fun i hi => ?_⟩⟩
      rw [hc i (by omega)]; simp [show i < zs.length by omega, show i < len by omega]
theorem read_big {fuel : Nat} {cs : List Value} {x : DataW H × List MemPlace} (h : DataW.trod enc Tryd.prog w base (fun _ => true) held fuel 24 cs = some x) :
    ∃ (s : Int) (a : Option Addr) (l : List Int) (cap : Nat), cs = [.int .i64 s, .slice a l.length cap] ∧ l.length ≤ 9223372036854775807 ∧ (l.length ≤ 1000000000 → Ints w (.slice a l.length cap) l) ∧ (-9223372036854775808 ≤ s ∧ s ≤ 9223372036854775807) := by
  obtain ⟨ys, n, _, _, hlen, hyl, hf⟩ := DataW.trod_struct Tryd.underlying24 h
  rw [cellsOfBig] at hlen
  match cs, hlen with
  | [c0, c1], _ =>
    match ys, hyl with
    | [y0, y1], _ =>
      have h0 : DataW.trod enc Tryd.prog w base (fun _ => true) held n 3 [c0] = some y0 := by simpa [cellsOf3] using hf 0 _ rfl
      have h1 : DataW.trod enc Tryd.prog w base (fun _ => true) held n 22 [c1] = some y1 := by simpa [cellsOfInts] using hf 1 _ rfl
      obtain ⟨s, e0, _, w0⟩ := DataW.trod_int Tryd.underlying3 h0
      obtain ⟨a, l, cap, e1, k1, g1⟩ := read_ints h1
      simp at e0 e1
      subst e0 e1
      exact ⟨s, a, l, cap, rfl, k1, g1, wf64 w0⟩
end
end Go.Proofs.YtpcagodnlbdclaaDoor.Bi
