/- How the arguments of the laws of layer wire are read. -/
import Derived.Test.YtpcdogbioopdgaaDoorF
import Derived.Test.YtpcdogbioopdgaaDoorE
import Derived.SliceStrings
import Derived.Deep.Slices
namespace Go.Proofs.YtpcdogbioopdgaaDoor
open Go.RowKit Go.WideShapes Go.ChangeShapes Go.Deep

theorem cellsOf3 : Tryd.prog.cellsOf 3 = 1 := by kernel_rfl
theorem cellsOf9 : Tryd.prog.cellsOf 9 = 1 := by kernel_rfl
theorem cellsOf22 : Tryd.prog.cellsOf 22 = 1 := by kernel_rfl
theorem cellsOf23 : Tryd.prog.cellsOf 23 = 1 := by kernel_rfl
theorem cellsOf25 : Tryd.prog.cellsOf 25 = 5 := by kernel_rfl
theorem wf64 {n : Int} (h : (Lit.int .i64 n).wf = true) : -9223372036854775808 ≤ n ∧ n ≤ 9223372036854775807 := by
  simp [Lit.wf] at h; exact ⟨h.1, h.2⟩
theorem maxLen_eq : maxLen = 9223372036854775807 := rfl

section
variable {H : Type} {enc : TypeId × Value → H} {w : World} {base : Nat} {held : Bool}
theorem read_ints {fuel : Nat} {cs : List Value} {x : DataW H × List MemPlace} (h : DataW.trod enc Tryd.prog w base (fun _ => true) held fuel 22 cs = some x) :
    ∃ (a : Option Addr) (l : List Int) (cap : Nat), cs = [.slice a l.length cap] ∧ l.length ≤ 9223372036854775807 ∧ IntCells w a l ∧ IntsOk l := by
  rcases open_ints Tryd.underlying22 Tryd.underlying3 cellsOf3 h with ⟨rfl, _⟩ | ⟨a, len, cap, zs, rfl, _, hl, hm, hz, _, hcell, hwz⟩
  · exact ⟨none, [], 0, rfl, by simp, .inl rfl, fun z hz => by cases hz⟩
  · rw [if_pos rfl] at hz
    rw [maxLen_eq] at hm
    have hlen : (zs.take len).length = len := by rw [List.length_take]; omega
    refine ⟨some a, zs.take len, cap, by rw [hlen], by omega, ?_, fun z hz' => wf64 (hwz z (List.mem_of_mem_take hz'))⟩
    by_cases h0 : len = 0
    · left; subst h0; rfl
    · right
      obtain ⟨b, off, rfl, hc⟩ := ints_at hcell (by omega)
      exact ⟨b, off, rfl, fun i hi => by rw [hc i (by omega)]; simp [List.getElem?_take, show i < len by omega]⟩
theorem read_strs {fuel : Nat} {cs : List Value} {x : DataW H × List MemPlace} (h : DataW.trod enc Tryd.prog w base (fun _ => true) held fuel 23 cs = some x) :
    ∃ (a : Option Addr) (l : List ByteArray) (cap : Nat), cs = [.slice a l.length cap] ∧ l.length ≤ 9223372036854775807 ∧ StrCells w a l ∧ ∀ z ∈ l, z.size ≤ 9223372036854775807 := by
  rcases open_strings Tryd.underlying23 Tryd.underlying9 cellsOf9 h with ⟨rfl, _⟩ | ⟨a, len, cap, zs, rfl, _, hl, hm, hz, _, hcell, hwz⟩
  · exact ⟨none, [], 0, rfl, by simp, .inl rfl, fun z hz => by cases hz⟩
  · rw [if_pos rfl] at hz
    rw [maxLen_eq] at hm
    have hlen : (zs.take len).length = len := by rw [List.length_take]; omega
    refine ⟨some a, zs.take len, cap, by rw [hlen], by omega, ?_, fun z hz' => by have := hwz z (List.mem_of_mem_take hz'); rw [maxLen_eq] at this; exact this⟩
    by_cases h0 : len = 0
    · left; subst h0; rfl
    · right
      have hspot : a.spot = none := by simpa [Addr.add] using World.cell?_spot (hcell 0 (by omega))
      obtain ⟨b, off, sp⟩ := a
      simp at hspot; subst hspot
      refine ⟨b, off, rfl, fun i hi => ?_⟩
      have := hcell i (by omega)
      rw [add_plain] at this
      rw [this]
      simp [List.getD_eq_getElem?_getD, show i < zs.length by omega]
set_option maxRecDepth 100000 in
theorem read_V {fuel : Nat} {cs : List Value} {x : DataW H × List MemPlace} (h : DataW.trod enc Tryd.prog w base (fun _ => true) held fuel 25 cs = some x) :
    ∃ v : V, cs = v.cells.toList ∧ VOk w v := by
  obtain ⟨ys, n, _, _, hlen, hyl, hf⟩ := DataW.trod_struct Tryd.underlying25 h
  rw [cellsOf25] at hlen
  match cs, hlen with
  | [c0, c1, c2, c3, c4], _ =>
    match ys, hyl with
    | [y0, y1, y2, y3, y4], _ =>
      have h0 : DataW.trod enc Tryd.prog w base (fun _ => true) held n 3 [c0] = some y0 := by simpa [cellsOf3] using hf 0 _ rfl
      have h1 : DataW.trod enc Tryd.prog w base (fun _ => true) held n 3 [c1] = some y1 := by simpa [cellsOf3] using hf 1 _ rfl
      have h2 : DataW.trod enc Tryd.prog w base (fun _ => true) held n 9 [c2] = some y2 := by simpa [cellsOf9] using hf 2 _ rfl
      have h3 : DataW.trod enc Tryd.prog w base (fun _ => true) held n 22 [c3] = some y3 := by simpa [cellsOf22] using hf 3 _ rfl
      have h4 : DataW.trod enc Tryd.prog w base (fun _ => true) held n 23 [c4] = some y4 := by simpa [cellsOf23] using hf 4 _ rfl
      obtain ⟨a, e0, _, w0⟩ := DataW.trod_int Tryd.underlying3 h0
      obtain ⟨b, e1, _, w1⟩ := DataW.trod_int Tryd.underlying3 h1
      obtain ⟨s, e2, _, w2⟩ := DataW.trod_string Tryd.underlying9 h2
      obtain ⟨al, l, lc, e3, k3, g3, o3⟩ := read_ints h3
      obtain ⟨at', t, tc, e4, k4, g4, o4⟩ := read_strs h4
      simp at e0 e1 e2 e3 e4
      subst e0 e1 e2 e3 e4
      rw [maxLen_eq] at w2
      exact ⟨⟨a, b, s, al, lc, l, at', tc, t⟩, rfl, ⟨wf64 w0, wf64 w1, w2, k3, k4, g3, o3, g4, o4⟩⟩
set_option maxRecDepth 100000 in
theorem read_agg {r : Reach} {b0 : Nat} {v : Value} {d : DataW H} {p : List MemPlace} (hv : Value.okWide Tryd.prog w r b0 25 v) (h : DataW.Trod enc Tryd.prog w base (fun _ => true) held 25 v d p) :
    ∃ u : V, v = .agg #[.int .i64 u.kd, .int .i64 u.nn, .string u.s, .slice u.la u.l.length u.lc, .slice u.ta u.t.length u.tc] ∧ VOk w u := by
  obtain ⟨cs, rfl, hsz⟩ := okWide_struct Tryd.underlying25 hv
  obtain ⟨fuel, hf⟩ := h
  obtain ⟨u, hu, hok⟩ := read_V hf
  refine ⟨u, ?_, hok⟩
  have : cs.toList = u.cells.toList := by simpa [Value.cells] using hu
  have h2 : cs = u.cells := by simpa using congrArg List.toArray this
  rw [h2]; rfl
end
end Go.Proofs.YtpcdogbioopdgaaDoor
