/- Boxes stored as a row or four cells at a time: what the walks of scale want. Certificates as cells; Right, within, covers, possible of scale; Right and in of its reference. Find and Recalled of scale. -/
import Derived.Deep.RegionHeld3
import Derived.Deep.CutRange
import Derived.Deep.CutBlock
import Derived.Lib.ReflectliteSwap
import Derived.Test.YtmhjejnkphdjpaaPB18
import Derived.Test.YtmhjejnkphdjpaaPB19
import Derived.Test.YtmhjejnkphdjpaaPB23
set_option maxRecDepth 100000
namespace Go.Proofs.Ytmhjejnkphdjpaa.Sc
open Go.RowKit Bi

section
variable {α : Type _} {l : List α} {a x0 x1 x2 x3 x4 x5 x6 x7 x8 x9 x10 x11 x12 x13 x14 x15 x16 x17 x18 x19 x20 x21 x22 x23 x24 x25 x26 x27 x28 x29 x30 x31 x32 x33 x34 x35 x36 x37 x38 x39 : α}
theorem mq0 : a ∈ a :: l := List.mem_cons_self
theorem mq1 : a ∈ x0 :: a :: l := List.mem_cons_of_mem _ mq0
theorem mq2 : a ∈ x0 :: x1 :: a :: l := List.mem_cons_of_mem _ mq1
theorem mq3 : a ∈ x0 :: x1 :: x2 :: a :: l := List.mem_cons_of_mem _ mq2
theorem mq4 : a ∈ x0 :: x1 :: x2 :: x3 :: a :: l := List.mem_cons_of_mem _ mq3
theorem mq5 : a ∈ x0 :: x1 :: x2 :: x3 :: x4 :: a :: l := List.mem_cons_of_mem _ mq4
theorem mq6 : a ∈ x0 :: x1 :: x2 :: x3 :: x4 :: x5 :: a :: l := List.mem_cons_of_mem _ mq5
theorem mq7 : a ∈ x0 :: x1 :: x2 :: x3 :: x4 :: x5 :: x6 :: a :: l := List.mem_cons_of_mem _ mq6
theorem mq8 : a ∈ x0 :: x1 :: x2 :: x3 :: x4 :: x5 :: x6 :: x7 :: a :: l := List.mem_cons_of_mem _ mq7
theorem mq9 : a ∈ x0 :: x1 :: x2 :: x3 :: x4 :: x5 :: x6 :: x7 :: x8 :: a :: l := List.mem_cons_of_mem _ mq8
theorem mq10 : a ∈ x0 :: x1 :: x2 :: x3 :: x4 :: x5 :: x6 :: x7 :: x8 :: x9 :: a :: l := List.mem_cons_of_mem _ mq9
theorem mq11 : a ∈ x0 :: x1 :: x2 :: x3 :: x4 :: x5 :: x6 :: x7 :: x8 :: x9 :: x10 :: a :: l := List.mem_cons_of_mem _ mq10
theorem mq12 : a ∈ x0 :: x1 :: x2 :: x3 :: x4 :: x5 :: x6 :: x7 :: x8 :: x9 :: x10 :: x11 :: a :: l := List.mem_cons_of_mem _ mq11
theorem mq13 : a ∈ x0 :: x1 :: x2 :: x3 :: x4 :: x5 :: x6 :: x7 :: x8 :: x9 :: x10 :: x11 :: x12 :: a :: l := List.mem_cons_of_mem _ mq12
theorem mq14 : a ∈ x0 :: x1 :: x2 :: x3 :: x4 :: x5 :: x6 :: x7 :: x8 :: x9 :: x10 :: x11 :: x12 :: x13 :: a :: l := List.mem_cons_of_mem _ mq13
end
theorem below_row {B : Nat} {a w : World} (h : RowKit.Below B a w) {b : Nat} (hb : B ≤ b) (c : Array Value) : RowKit.Below B a (w.setRow b c) :=
  ⟨h.os, h.tape, h.output, by simpa using h.size, fun k hk => (setRow_other w b k c (by omega)).trans (h.block k hk)⟩
theorem Sf.row {w W : World} {pre post : List FBox} {F : List (Value × List Int)} {b : Nat} {ty : TypeId} {cs : List Value} (h : Sf w (pre ++ (b, ty, cs) :: post) F W) (cs' : List Value) :
    Sf w (pre ++ (b, ty, cs') :: post) F (W.setRow b cs'.toArray) := by
  have hm : (b, ty, cs) ∈ pre ++ (b, ty, cs) :: post := by simp
  have hwb : w.heap.size ≤ b := h.le _ hm
  have hbx := h.box _ hm
  have hne : ∀ x ∈ pre ++ (b, ty, cs') :: post, x = (b, ty, cs') ∨ (x ∈ pre ++ (b, ty, cs) :: post ∧ x.1 ≠ b) := by
    intro x hx
    have hp := h.pw
    rw [List.pairwise_append] at hp
    obtain ⟨_, p2, p3⟩ := hp
    rw [List.pairwise_cons] at p2
    rcases List.mem_append.1 hx with hx | hx
    · refine .inr ⟨List.mem_append_left _ hx, ?_⟩
      have := p3 x hx (b, ty, cs) (by simp)
      simp at this; omega
    · rcases List.mem_cons.1 hx with rfl | hx
      · exact .inl rfl
      · refine .inr ⟨List.mem_append_right _ (List.mem_cons_of_mem _ hx), ?_⟩
        have := p2.1 x hx
        simp at this; omega
  have hg : W.grownBy (W.setRow b cs'.toArray) (some b) := ⟨rfl, rfl, rfl, by simp, fun k _ hk => setRow_other W b k _ (fun e => hk (by rw [e]))⟩
  have hbl : (W.setRow b cs'.toArray).heap[b]? = some (.cells cs'.toArray ty (0, 0)) := setRow_heap W b _ _ _ _ hbx
  refine ⟨below_row h.below hwb _, fun x hx => ?_, fun x hx => ?_, fun f hf => (h.ints f hf).grown (h.off f hf _ hm) hg, fun f hf x hx => ?_, ?_⟩
  · rcases hne x hx with rfl | ⟨hx, _⟩
    · exact hwb
    · exact h.le x hx
  · rcases hne x hx with rfl | ⟨hx, hn⟩
    · exact hbl
    · have hq := h.box x hx
      show (W.setRow b cs'.toArray).heap[x.1]? = _
      rw [hg.block x.1 (h.lt x hx) (fun e => hn (by simpa using e))]
      exact hq
  · rcases hne x hx with rfl | ⟨hx, _⟩
    · show Off f.1 b; exact h.off f hf (b, ty, cs) hm
    · exact h.off f hf x hx
  · have hp := h.pw
    rw [List.pairwise_append, List.pairwise_cons] at hp ⊢
    refine ⟨hp.1, ⟨fun y hy => hp.2.1.1 y hy, hp.2.1.2⟩, fun x hx y hy => ?_⟩
    rcases List.mem_cons.1 hy with rfl | hy
    · exact hp.2.2 x hx (b, ty, cs) (by simp)
    · exact hp.2.2 x hx y (List.mem_cons_of_mem _ hy)
theorem ret_row {fn : Func} {p u : Tmp} {ty : TypeId} (h : fn.results = #[.cell p ty, .tmp u]) (tmps : Array Value) (w : World) (b : Nat) (cs : Array Value) (hp : tmps.getD p undef = .pointer (some ⟨b, 0, none⟩)) (hl : (loadVar ty ⟨b, 0, none⟩).run Try.prog w = .ok (.agg cs) w) :
    (results fn tmps).run Try.prog w = .ok (.tuple #[.agg cs, tmps.getD u undef]) w := by
  rw [results_cell_tmp h, hp]
  simp [asAddr, Result.andThen, hl]

theorem Sf.part {w W : World} {pre post : List FBox} {F : List (Value × List Int)} {b : Nat} {ty : TypeId} {cs : List Value} (h : Sf w (pre ++ (b, ty, cs) :: post) F W) (k k1 k2 k3 : Nat) (_e1 : k1 = k + 1) (_e2 : k2 = k + 2) (_e3 : k3 = k + 3) (v0 v1 v2 v3 : Value) :
    Sf w (pre ++ (b, ty, (((cs.set k v0).set k1 v1).set k2 v2).set k3 v3) :: post) F ((((W.setCell ⟨b, k, none⟩ v0).setCell ⟨b, k1, none⟩ v1).setCell ⟨b, k2, none⟩ v2).setCell ⟨b, k3, none⟩ v3) :=
  (((h.set k v0).set k1 v1).set k2 v2).set k3 v3
theorem infoFrac : ∃ ie, Try.prog.info? 34 = some ie ∧ 4 = ie.size := ⟨_, rfl, rfl⟩

theorem Sf.facts {w W : World} {L : List FBox} {F F' : List (Value × List Int)} (h : Sf w L F W) (hs : ∀ f ∈ F', f ∈ F) : Sf w L F' W :=
  ⟨h.below, h.le, h.box, fun f hf => h.ints f (hs f hf), fun f hf => h.off f (hs f hf), h.pw⟩

theorem Sf.tail {w W : World} {x : FBox} {L : List FBox} {F : List (Value × List Int)} (h : Sf w (x :: L) F W) : Sf w L F W :=
  ⟨h.below, fun y hy => h.le y (List.mem_cons_of_mem _ hy), fun y hy => h.box y (List.mem_cons_of_mem _ hy), h.ints, fun f hf y hy => h.off f hf y (List.mem_cons_of_mem _ hy), (List.pairwise_cons.1 h.pw).2⟩

end Go.Proofs.Ytmhjejnkphdjpaa.Sc

namespace Go.Proofs.Ytmhjejnkphdjpaa.Sc
open Go.RowKit Bi

/-- A certificate's fields by their places. -/
def Ct.row (c : Ct) : Nat → Int
  | 0 => c.sc | 1 => c.fr | 2 => c.un | 3 => c.ut | 4 => c.pm | _ => c.dr
def ctOf (f : Nat → Int) : Ct := ⟨f 0, f 1, f 2, f 3, f 4, f 5⟩
theorem row_of (f : Nat → Int) {j : Nat} (hj : j < 6) : (ctOf f).row j = f j := by
  rcases j with _ | _ | _ | _ | _ | _ | j
  all_goals first | rfl | omega
/-- A recall's fields. -/
def rrow (x : Int × Int) : Nat → Int
  | 0 => x.1 | _ => x.2
theorem rrow_of (f : Nat → Int) {j : Nat} (hj : j < 2) : rrow (f 0, f 1) j = f j := by
  rcases j with _ | _ | j
  all_goals first | rfl | omega
/-- The certificates l lie at a. -/
def Cs (w : World) (a : Option Addr) (l : List Ct) : Prop := Rc.Recs 6 w a (l.map Ct.row)
def Rs (w : World) (a : Option Addr) (l : List (Int × Int)) : Prop := Rc.Recs 2 w a (l.map rrow)
theorem Cs.later {w w' : World} {a : Option Addr} {l : List Ct} (h : Cs w a l) (hb : RowKit.Below w.heap.size w w') : Cs w' a l := Rc.Recs.later h hb
theorem Rs.later {w w' : World} {a : Option Addr} {l : List (Int × Int)} (h : Rs w a l) (hb : RowKit.Below w.heap.size w w') : Rs w' a l := Rc.Recs.later h hb
theorem recs_congr {n : Nat} {w : World} {a : Option Addr} {l m : List (Nat → Int)} (h : Rc.Recs n w a l) (hl : l.length = m.length) (he : ∀ i (h1 : i < l.length) (h2 : i < m.length) j, j < n → l[i] j = m[i] j) : Rc.Recs n w a m := by
  rcases h with rfl | ⟨b, o, rfl, hlt, hc⟩
  · left; exact List.eq_nil_of_length_eq_zero hl.symm
  · exact .inr ⟨b, o, rfl, hlt, fun i hi j hj => by rw [hc i (by omega) j hj, he i (by omega) hi j hj]⟩
theorem Cs.of {w : World} {a : Option Addr} {l : List (Nat → Int)} (h : Rc.Recs 6 w a l) : Cs w a (l.map ctOf) :=
  recs_congr h (by simp) fun i h1 h2 j hj => by simp [row_of _ hj]
theorem Rs.of {w : World} {a : Option Addr} {l : List (Nat → Int)} (h : Rc.Recs 2 w a l) : Rs w a (l.map fun f => (f 0, f 1)) :=
  recs_congr h (by simp) fun i h1 h2 j hj => by simp [rrow_of _ hj]
/-- One of them, by its place. -/
theorem Cs.at {w : World} {a : Option Addr} {l : List Ct} (h : Cs w a l) {i : Nat} {c : Ct} (hi : l[i]? = some c) : ∃ b o, a = some ⟨b, o, none⟩ ∧ b < w.heap.size ∧ ∀ W, RowKit.Below w.heap.size w W → W.cell? ⟨b, o + i * 6, none⟩ = some (.int .i64 c.sc) ∧ W.cell? ⟨b, o + i * 6 + 1, none⟩ = some (.int .i64 c.fr) ∧ W.cell? ⟨b, o + i * 6 + 2, none⟩ = some (.int .i64 c.un) ∧ W.cell? ⟨b, o + i * 6 + 3, none⟩ = some (.int .i64 c.ut) ∧ W.cell? ⟨b, o + i * 6 + 4, none⟩ = some (.int .i64 c.pm) ∧ W.cell? ⟨b, o + i * 6 + 5, none⟩ = some (.int .i64 c.dr) := by
  obtain ⟨hlt, rfl⟩ := List.getElem?_eq_some_iff.1 hi
  rcases h with e | ⟨b, o, rfl, hb, hc⟩
  · have : l.length = 0 := by have := congrArg List.length e; simpa using this
    omega
  · refine ⟨b, o, rfl, hb, fun W hB => ?_⟩
    have hq : ∀ j, j < 6 → W.cell? ⟨b, o + i * 6 + j, none⟩ = some (.int .i64 ((l[i]).row j)) := fun j hj => by
      rw [hB.cell (p := ⟨b, o + i * 6 + j, none⟩) hb, hc i (by simpa using hlt) j hj]
      simp
    exact ⟨hq 0 (by decide), hq 1 (by decide), hq 2 (by decide), hq 3 (by decide), hq 4 (by decide), hq 5 (by decide)⟩
theorem Rs.at {w : World} {a : Option Addr} {l : List (Int × Int)} (h : Rs w a l) {i : Nat} {c : Int × Int} (hi : l[i]? = some c) : ∃ b o, a = some ⟨b, o, none⟩ ∧ b < w.heap.size ∧ ∀ W, RowKit.Below w.heap.size w W → W.cell? ⟨b, o + i * 2, none⟩ = some (.int .i64 c.1) ∧ W.cell? ⟨b, o + i * 2 + 1, none⟩ = some (.int .i64 c.2) := by
  obtain ⟨hlt, rfl⟩ := List.getElem?_eq_some_iff.1 hi
  rcases h with e | ⟨b, o, rfl, hb, hc⟩
  · have : l.length = 0 := by have := congrArg List.length e; simpa using this
    omega
  · refine ⟨b, o, rfl, hb, fun W hB => ?_⟩
    have hq : ∀ j, j < 2 → W.cell? ⟨b, o + i * 2 + j, none⟩ = some (.int .i64 (rrow (l[i]) j)) := fun j hj => by
      rw [hB.cell (p := ⟨b, o + i * 2 + j, none⟩) hb, hc i (by simpa using hlt) j hj]
      simp
    exact ⟨hq 0 (by decide), hq 1 (by decide)⟩
theorem infoC : (Try.prog.info? 25).map (fun i => i.size) = some 6 := by kernel_rfl
theorem infoR : (Try.prog.info? 52).map (fun i => i.size) = some 2 := by kernel_rfl
theorem cert_at (b o len cap k : Nat) (hk : k < len) (W : World) : (Instr.indexAt 22 (.slice (some ⟨b, o, none⟩) len cap) (.int .i64 (k : Int))).run Try.prog W = .ok (.pointer (some ⟨b, o + k * 6, none⟩)) W := by
  have h := infoC
  cases hi : Try.prog.info? 25 with
  | none => rw [hi] at h; cases h
  | some i =>
    rw [hi] at h
    exact Rc.rec_at Try.underlying22 hi (by simpa using h) b o len cap k hk W
theorem recall_at (b o len cap k : Nat) (hk : k < len) (W : World) : (Instr.indexAt 23 (.slice (some ⟨b, o, none⟩) len cap) (.int .i64 (k : Int))).run Try.prog W = .ok (.pointer (some ⟨b, o + k * 2, none⟩)) W := by
  have h := infoR
  cases hi : Try.prog.info? 52 with
  | none => rw [hi] at h; cases h
  | some i =>
    rw [hi] at h
    exact Rc.rec_at Try.underlying23 hi (by simpa using h) b o len cap k hk W
/-- A call that returns v; nothing old has turned. -/
def Gv (v : Value) (w : World) (e : Ending) (w' : World) : Prop := e = .returned v ∧ RowKit.Below w.heap.size w w'
theorem Fb.cells6 {b : Nat} {ty : TypeId} {x0 x1 x2 x3 x4 x5 : Value} {W : World} (h : Fb (b, ty, [x0, x1, x2, x3, x4, x5]) W) : W.cell? ⟨b, 0, none⟩ = some x0 ∧ W.cell? ⟨b, 1, none⟩ = some x1 ∧ W.cell? ⟨b, 2, none⟩ = some x2 ∧ W.cell? ⟨b, 3, none⟩ = some x3 ∧ W.cell? ⟨b, 4, none⟩ = some x4 ∧ W.cell? ⟨b, 5, none⟩ = some x5 := ⟨h.cell 0, h.cell 1, h.cell 2, h.cell 3, h.cell 4, h.cell 5⟩

set_option maxHeartbeats 4000000 in
theorem right_f {sc fr un ut pm dr : Int} {w : World} {r : Bool} (hr : (Ct.mk sc fr un ut pm dr).ok = r) : Calls Try.prog 17 #[.agg #[.int .i64 sc, .int .i64 fr, .int .i64 un, .int .i64 ut, .int .i64 pm, .int .i64 dr]] w (Gv (.bool r) w) := by
  rcases h0 : decide (0 ≤ sc) with _ | _
  · obtain rfl : false = r := by rw [← hr]; simp [Ct.ok, h0]
    clear hr
    go_enter Try.func17, Try.ntmps17
    go_wp2_with fail
    go_ret
    exact ⟨rfl, below_alloc _ _⟩
  · skip
    rcases h1 : decide (0 ≤ fr) with _ | _
    · obtain rfl : false = r := by rw [← hr]; simp [Ct.ok, h0, h1]
      clear hr
      go_enter Try.func17, Try.ntmps17
      go_wp2_with fail
      go_ret
      exact ⟨rfl, below_alloc _ _⟩
    · skip
      rcases h2 : decide (fr ≤ un) with _ | _
      · obtain rfl : false = r := by rw [← hr]; simp [Ct.ok, h0, h1, h2]
        clear hr
        go_enter Try.func17, Try.ntmps17
        go_wp2_with fail
        go_ret
        exact ⟨rfl, below_alloc _ _⟩
      · skip
        rcases h3 : decide (un ≤ 100000) with _ | _
        · obtain rfl : false = r := by rw [← hr]; simp [Ct.ok, h0, h1, h2, h3]
          clear hr
          go_enter Try.func17, Try.ntmps17
          go_wp2_with fail
          go_ret
          exact ⟨rfl, below_alloc _ _⟩
        · skip
          rcases h4 : decide (0 ≤ ut) with _ | _
          · obtain rfl : false = r := by rw [← hr]; simp [Ct.ok, h0, h1, h2, h3, h4]
            clear hr
            go_enter Try.func17, Try.ntmps17
            go_wp2_with fail
            go_ret
            exact ⟨rfl, below_alloc _ _⟩
          · skip
            rcases h5 : decide (ut ≤ 1099511627776) with _ | _
            · obtain rfl : false = r := by rw [← hr]; simp [Ct.ok, h0, h1, h2, h3, h4, h5]
              clear hr
              go_enter Try.func17, Try.ntmps17
              go_wp2_with fail
              go_ret
              exact ⟨rfl, below_alloc _ _⟩
            · skip
              rcases h6 : decide (0 ≤ pm) with _ | _
              · obtain rfl : false = r := by rw [← hr]; simp [Ct.ok, h0, h1, h2, h3, h4, h5, h6]
                clear hr
                go_enter Try.func17, Try.ntmps17
                go_wp2_with fail
                go_ret
                exact ⟨rfl, below_alloc _ _⟩
              · skip
                rcases h7 : decide (pm ≤ 1000) with _ | _
                · obtain rfl : false = r := by rw [← hr]; simp [Ct.ok, h0, h1, h2, h3, h4, h5, h6, h7]
                  clear hr
                  go_enter Try.func17, Try.ntmps17
                  go_wp2_with fail
                  go_ret
                  exact ⟨rfl, below_alloc _ _⟩
                · skip
                  rcases h8 : decide (0 ≤ dr) with _ | _
                  · obtain rfl : false = r := by rw [← hr]; simp [Ct.ok, h0, h1, h2, h3, h4, h5, h6, h7, h8]
                    clear hr
                    go_enter Try.func17, Try.ntmps17
                    go_wp2_with fail
                    go_ret
                    exact ⟨rfl, below_alloc _ _⟩
                  · skip
                    rcases h9 : decide (dr ≤ 10000000) with _ | _
                    · obtain rfl : false = r := by rw [← hr]; simp [Ct.ok, h0, h1, h2, h3, h4, h5, h6, h7, h8, h9]
                      clear hr
                      go_enter Try.func17, Try.ntmps17
                      go_wp2_with fail
                      go_ret
                      exact ⟨rfl, below_alloc _ _⟩
                    · skip
                      obtain rfl : true = r := by rw [← hr]; simp [Ct.ok, h0, h1, h2, h3, h4, h5, h6, h7, h8, h9]
                      clear hr
                      go_enter Try.func17, Try.ntmps17
                      go_wp2_with fail
                      go_ret
                      exact ⟨rfl, below_alloc _ _⟩
theorem right_any {c : Ct} {w : World} {r : Bool} (hr : c.ok = r) : Calls Try.prog 17 #[.agg #[.int .i64 c.sc, .int .i64 c.fr, .int .i64 c.un, .int .i64 c.ut, .int .i64 c.pm, .int .i64 c.dr]] w (Gv (.bool r) w) := right_f (sc := c.sc) (fr := c.fr) (un := c.un) (ut := c.ut) (pm := c.pm) (dr := c.dr) hr

theorem rin_any {n a b : Int} {w : World} {r : Bool} (hr : (decide (a ≤ n) && decide (n ≤ b)) = r) : Calls Try.prog 28 #[.int .i64 n, .int .i64 a, .int .i64 b] w (fun e w' => e = .returned (.bool r) ∧ w' = w) := by
  rcases h0 : decide (a ≤ n) with _ | _
  · obtain rfl : false = r := by rw [← hr]; simp [h0]
    clear hr
    go_enter Try.func28, Try.ntmps28
    go_wp2_with fail
    go_ret
    exact ⟨rfl, rfl⟩
  · skip
    rcases h1 : decide (n ≤ b) with _ | _
    · obtain rfl : false = r := by rw [← hr]; simp [h0, h1]
      clear hr
      go_enter Try.func28, Try.ntmps28
      go_wp2_with fail
      go_ret
      exact ⟨rfl, rfl⟩
    · skip
      obtain rfl : true = r := by rw [← hr]; simp [h0, h1]
      clear hr
      go_enter Try.func28, Try.ntmps28
      go_wp2_with fail
      go_ret
      exact ⟨rfl, rfl⟩

theorem possible_any {n : Int} {w : World} {r : Bool} (hr : (decide (0 ≤ n) && decide (n ≤ 1099511627776)) = r) : Calls Try.prog 29 #[.int .i64 n] w (fun e w' => e = .returned (.bool r) ∧ w' = w) := by
  rcases h0 : decide (0 ≤ n) with _ | _
  · obtain rfl : false = r := by rw [← hr]; simp [h0]
    clear hr
    go_enter Try.func29, Try.ntmps29
    go_wp2_with fail
    go_ret
    exact ⟨rfl, rfl⟩
  · skip
    rcases h1 : decide (n ≤ 1099511627776) with _ | _
    · obtain rfl : false = r := by rw [← hr]; simp [h0, h1]
      clear hr
      go_enter Try.func29, Try.ntmps29
      go_wp2_with fail
      go_ret
      exact ⟨rfl, rfl⟩
    · skip
      obtain rfl : true = r := by rw [← hr]; simp [h0, h1]
      clear hr
      go_enter Try.func29, Try.ntmps29
      go_wp2_with fail
      go_ret
      exact ⟨rfl, rfl⟩

theorem within_f {sc fr un ut pm dr d : Int} {w : World} {r : Bool} (hr : (decide (fr ≤ d) && decide (d ≤ un)) = r) : Calls Try.prog 30 #[.agg #[.int .i64 sc, .int .i64 fr, .int .i64 un, .int .i64 ut, .int .i64 pm, .int .i64 dr], .int .i64 d] w (Gv (.bool r) w) := by
  rcases h0 : decide (fr ≤ d) with _ | _
  · obtain rfl : false = r := by rw [← hr]; simp [h0]
    clear hr
    go_enter Try.func30, Try.ntmps30
    go_wp2_with fail
    go_ret
    exact ⟨rfl, below_alloc _ _⟩
  · skip
    rcases h1 : decide (d ≤ un) with _ | _
    · obtain rfl : false = r := by rw [← hr]; simp [h0, h1]
      clear hr
      go_enter Try.func30, Try.ntmps30
      go_wp2_with fail
      go_ret
      exact ⟨rfl, below_alloc _ _⟩
    · skip
      obtain rfl : true = r := by rw [← hr]; simp [h0, h1]
      clear hr
      go_enter Try.func30, Try.ntmps30
      go_wp2_with fail
      go_ret
      exact ⟨rfl, below_alloc _ _⟩
theorem within_any {c : Ct} {d : Int} {w : World} {r : Bool} (hr : (decide (c.fr ≤ d) && decide (d ≤ c.un)) = r) : Calls Try.prog 30 #[.agg #[.int .i64 c.sc, .int .i64 c.fr, .int .i64 c.un, .int .i64 c.ut, .int .i64 c.pm, .int .i64 c.dr], .int .i64 d] w (Gv (.bool r) w) := within_f (sc := c.sc) (fr := c.fr) (un := c.un) (ut := c.ut) (pm := c.pm) (dr := c.dr) hr

set_option maxHeartbeats 4000000 in
theorem covers_f {sc fr un ut pm dr s d : Int} {w : World} {r : Bool} (hr : (Ct.mk sc fr un ut pm dr).cov s d = r) : Calls Try.prog 27 #[.agg #[.int .i64 sc, .int .i64 fr, .int .i64 un, .int .i64 ut, .int .i64 pm, .int .i64 dr], .int .i64 s, .int .i64 d] w (Gv (.bool r) w) := by
  obtain ⟨q, hq⟩ : ∃ q, (Ct.mk sc fr un ut pm dr).ok = q := ⟨_, rfl⟩
  obtain ⟨p, hp⟩ : ∃ p, (decide (fr ≤ d) && decide (d ≤ un)) = p := ⟨_, rfl⟩
  obtain ⟨v, hv⟩ : ∃ v, (sc == s) = v := ⟨_, rfl⟩
  have e : (q && (v && p)) = r := by
    rw [← hr, ← hq, ← hp, ← hv]
    simp only [Ct.cov]
    congr 2
  have HQ := Lib.hid hq
  have HP := Lib.hid hp
  have HE := Lib.hid e
  have S0 := Lib.hid ((Sf.start w).put [.int .i64 sc, .int .i64 fr, .int .i64 un, .int .i64 ut, .int .i64 pm, .int .i64 dr] 25)
  clear hr hq hp e
  cases q
  · obtain rfl : false = r := by rw [← HE.out]; rfl
    clear HE hv
    go_enter Try.func27, Try.ntmps27
    obtain ⟨c0, c1, c2, c3, c4, c5⟩ := Fb.cells6 (S0.out.box (w.heap.size, 25, [.int .i64 sc, .int .i64 fr, .int .i64 un, .int .i64 ut, .int .i64 pm, .int .i64 dr]) List.mem_cons_self)
    go_wp2_with fail
    clear c0 c1 c2 c3 c4 c5
    refine (right_f HQ.out).mono ?_
    rintro e w1 ⟨rfl, hb⟩
    have S1 := Lib.hid (S0.out.later hb)
    clear hb
    go_wp2_with fail
    go_ret
    exact ⟨rfl, S1.out.below⟩
  cases v
  · obtain rfl : false = r := by rw [← HE.out]; rfl
    clear HE
    go_enter Try.func27, Try.ntmps27
    obtain ⟨c0, c1, c2, c3, c4, c5⟩ := Fb.cells6 (S0.out.box (w.heap.size, 25, [.int .i64 sc, .int .i64 fr, .int .i64 un, .int .i64 ut, .int .i64 pm, .int .i64 dr]) List.mem_cons_self)
    go_wp2_with fail
    clear c0 c1 c2 c3 c4 c5
    refine (right_f HQ.out).mono ?_
    rintro e w1 ⟨rfl, hb⟩
    have S1 := Lib.hid (S0.out.later hb)
    clear hb
    obtain ⟨c0, c1, c2, c3, c4, c5⟩ := Fb.cells6 (S1.out.box (w.heap.size, 25, [.int .i64 sc, .int .i64 fr, .int .i64 un, .int .i64 ut, .int .i64 pm, .int .i64 dr]) List.mem_cons_self)
    go_wp2_with fail
    go_ret
    exact ⟨rfl, S1.out.below⟩
  · obtain rfl : p = r := by rw [← HE.out]; rfl
    clear HE
    go_enter Try.func27, Try.ntmps27
    obtain ⟨c0, c1, c2, c3, c4, c5⟩ := Fb.cells6 (S0.out.box (w.heap.size, 25, [.int .i64 sc, .int .i64 fr, .int .i64 un, .int .i64 ut, .int .i64 pm, .int .i64 dr]) List.mem_cons_self)
    go_wp2_with fail
    clear c0 c1 c2 c3 c4 c5
    refine (right_f HQ.out).mono ?_
    rintro e w1 ⟨rfl, hb⟩
    have S1 := Lib.hid (S0.out.later hb)
    clear hb
    obtain ⟨c0, c1, c2, c3, c4, c5⟩ := Fb.cells6 (S1.out.box (w.heap.size, 25, [.int .i64 sc, .int .i64 fr, .int .i64 un, .int .i64 ut, .int .i64 pm, .int .i64 dr]) List.mem_cons_self)
    go_wp2_with fail
    clear c0 c1 c2 c3 c4 c5
    refine (within_f HP.out).mono ?_
    rintro e w2 ⟨rfl, hb⟩
    have S2 := Lib.hid (S1.out.later hb)
    clear hb
    go_wp2_with fail
    go_ret
    exact ⟨rfl, S2.out.below⟩
theorem covers_any {c : Ct} {s d : Int} {w : World} {r : Bool} (hr : c.cov s d = r) : Calls Try.prog 27 #[.agg #[.int .i64 c.sc, .int .i64 c.fr, .int .i64 c.un, .int .i64 c.ut, .int .i64 c.pm, .int .i64 c.dr], .int .i64 s, .int .i64 d] w (Gv (.bool r) w) := covers_f (sc := c.sc) (fr := c.fr) (un := c.un) (ut := c.ut) (pm := c.pm) (dr := c.dr) hr

set_option maxHeartbeats 4000000 in
theorem rright_f {sc fr un ut pm dr : Int} {w : World} {r : Bool} (hr : (Ct.mk sc fr un ut pm dr).ok = r) : Calls Try.prog 18 #[.agg #[.int .i64 sc, .int .i64 fr, .int .i64 un, .int .i64 ut, .int .i64 pm, .int .i64 dr]] w (Gv (.bool r) w) := by
  rcases h0 : decide (0 ≤ sc) with _ | _
  · obtain rfl : false = r := by rw [← hr]; simp [Ct.ok, h0]
    clear hr
    go_enter Try.func18, Try.ntmps18
    go_wp2_with fail
    go_ret
    exact ⟨rfl, below_alloc _ _⟩
  · skip
    rcases h1 : decide (0 ≤ fr) with _ | _
    · obtain rfl : false = r := by rw [← hr]; simp [Ct.ok, h0, h1]
      clear hr
      go_enter Try.func18, Try.ntmps18
      go_wp2_with fail
      go_ret
      exact ⟨rfl, below_alloc _ _⟩
    · skip
      rcases h2 : decide (fr ≤ un) with _ | _
      · obtain rfl : false = r := by rw [← hr]; simp [Ct.ok, h0, h1, h2]
        clear hr
        go_enter Try.func18, Try.ntmps18
        go_wp2_with fail
        go_ret
        exact ⟨rfl, below_alloc _ _⟩
      · skip
        rcases h3 : decide (un ≤ 100000) with _ | _
        · obtain rfl : false = r := by rw [← hr]; simp [Ct.ok, h0, h1, h2, h3]
          clear hr
          go_enter Try.func18, Try.ntmps18
          go_wp2_with fail
          go_ret
          exact ⟨rfl, below_alloc _ _⟩
        · skip
          rcases i0 : (decide (0 ≤ ut) && decide (ut ≤ 1099511627776)) with _ | _
          · obtain rfl : false = r := by rw [← hr]; simp only [Ct.ok, h0, h1, h2, h3, i0, Bool.and_false, Bool.false_and]
            clear hr
            have I0 := Lib.hid i0
            clear i0
            go_enter Try.func18, Try.ntmps18
            go_wp2_with fail
            refine (rin_any I0.out).mono ?_
            rintro e w1 ⟨rfl, rfl⟩
            go_wp2_with fail
            go_ret
            exact ⟨rfl, below_alloc _ _⟩
          · skip
            rcases i1 : (decide (0 ≤ pm) && decide (pm ≤ 1000)) with _ | _
            · obtain rfl : false = r := by rw [← hr]; simp only [Ct.ok, h0, h1, h2, h3, i0, i1, Bool.and_false, Bool.false_and]
              clear hr
              have I0 := Lib.hid i0
              clear i0
              have I1 := Lib.hid i1
              clear i1
              go_enter Try.func18, Try.ntmps18
              go_wp2_with fail
              refine (rin_any I0.out).mono ?_
              rintro e w1 ⟨rfl, rfl⟩
              go_wp2_with fail
              refine (rin_any I1.out).mono ?_
              rintro e w1 ⟨rfl, rfl⟩
              go_wp2_with fail
              go_ret
              exact ⟨rfl, below_alloc _ _⟩
            · skip
              rcases i2 : (decide (0 ≤ dr) && decide (dr ≤ 10000000)) with _ | _
              · obtain rfl : false = r := by rw [← hr]; simp only [Ct.ok, h0, h1, h2, h3, i0, i1, i2, Bool.and_false]
                clear hr
                have I0 := Lib.hid i0
                clear i0
                have I1 := Lib.hid i1
                clear i1
                have I2 := Lib.hid i2
                clear i2
                go_enter Try.func18, Try.ntmps18
                go_wp2_with fail
                refine (rin_any I0.out).mono ?_
                rintro e w1 ⟨rfl, rfl⟩
                go_wp2_with fail
                refine (rin_any I1.out).mono ?_
                rintro e w1 ⟨rfl, rfl⟩
                go_wp2_with fail
                refine (rin_any I2.out).mono ?_
                rintro e w1 ⟨rfl, rfl⟩
                go_wp2_with fail
                go_ret
                exact ⟨rfl, below_alloc _ _⟩
              · skip
                obtain rfl : true = r := by rw [← hr]; simp only [Ct.ok, h0, h1, h2, h3, i0, i1, i2, Bool.and_true]
                clear hr
                have I0 := Lib.hid i0
                clear i0
                have I1 := Lib.hid i1
                clear i1
                have I2 := Lib.hid i2
                clear i2
                go_enter Try.func18, Try.ntmps18
                go_wp2_with fail
                refine (rin_any I0.out).mono ?_
                rintro e w1 ⟨rfl, rfl⟩
                go_wp2_with fail
                refine (rin_any I1.out).mono ?_
                rintro e w1 ⟨rfl, rfl⟩
                go_wp2_with fail
                refine (rin_any I2.out).mono ?_
                rintro e w1 ⟨rfl, rfl⟩
                go_wp2_with fail
                go_ret
                exact ⟨rfl, below_alloc _ _⟩
theorem rright_any {c : Ct} {w : World} {r : Bool} (hr : c.ok = r) : Calls Try.prog 18 #[.agg #[.int .i64 c.sc, .int .i64 c.fr, .int .i64 c.un, .int .i64 c.ut, .int .i64 c.pm, .int .i64 c.dr]] w (Gv (.bool r) w) := rright_f (sc := c.sc) (fr := c.fr) (un := c.un) (ut := c.ut) (pm := c.pm) (dr := c.dr) hr
end Go.Proofs.Ytmhjejnkphdjpaa.Sc

namespace Go.Proofs.Ytmhjejnkphdjpaa.Sc
open Go.RowKit Bi

/-- What Find returns. -/
def fI (s d : Int) (l : List Ct) : Nat := match fnd s d l with | none => 0 | some x => x.1
def fB (s d : Int) (l : List Ct) : Bool := (fnd s d l).isSome
theorem take_snoc {l : List Ct} {k : Nat} {c : Ct} (h : l[k]? = some c) : l.take (k + 1) = l.take k ++ [c] := by
  rw [List.take_add_one, h]; rfl
theorem fnd_take {s d : Int} {l : List Ct} {k : Nat} {c : Ct} (h : l[k]? = some c) : fnd s d (l.take (k + 1)) = step s d (fnd s d (l.take k)) k c := by
  have hk := (List.getElem?_eq_some_iff.1 h).1
  rw [take_snoc h, fnd_snoc, List.length_take, Nat.min_eq_left (by omega)]
/-- A round: the certificate does not cover. -/
theorem round_no {s d : Int} {l : List Ct} {k : Nat} {c : Ct} (h : l[k]? = some c) (hc : c.cov s d = false) : fI s d (l.take (k + 1)) = fI s d (l.take k) ∧ fB s d (l.take (k + 1)) = fB s d (l.take k) := by
  unfold fI fB; rw [fnd_take h]; unfold step; rw [if_neg (by rw [hc]; simp)]; exact ⟨rfl, rfl⟩
/-- .. it is the first that covers. -/
theorem round_first {s d : Int} {l : List Ct} {k : Nat} {c : Ct} (h : l[k]? = some c) (hc : c.cov s d = true) (hn : fB s d (l.take k) = false) : fI s d (l.take (k + 1)) = k ∧ fB s d (l.take (k + 1)) = true := by
  have hn2 : fnd s d (l.take k) = none := by unfold fB at hn; simpa using hn
  unfold fI fB; rw [fnd_take h, hn2]; unfold step; rw [if_pos hc]; exact ⟨rfl, rfl⟩
/-- .. one covered before. -/
theorem round_more {s d : Int} {l : List Ct} {k : Nat} {c : Ct} (h : l[k]? = some c) (hc : c.cov s d = true) (hn : fB s d (l.take k) = true) : ∃ b, l[fI s d (l.take k)]? = some b ∧ fI s d (l.take k) < l.length ∧
    (b.fr ≤ c.fr → fI s d (l.take (k + 1)) = k ∧ fB s d (l.take (k + 1)) = true) ∧ (¬ b.fr ≤ c.fr → fI s d (l.take (k + 1)) = fI s d (l.take k) ∧ fB s d (l.take (k + 1)) = fB s d (l.take k)) := by
  unfold fB at hn
  obtain ⟨⟨j, b⟩, hj⟩ := Option.isSome_iff_exists.1 hn
  have h1 := (fnd_some _ hj).1
  have h2 : l[j]? = some b := by
    rw [List.getElem?_take] at h1
    split at h1
    · exact h1
    · cases h1
  have e1 : fI s d (l.take k) = j := by unfold fI; rw [hj]
  refine ⟨b, by rw [e1]; exact h2, by rw [e1]; exact (List.getElem?_eq_some_iff.1 h2).1, fun hb => ?_, fun hb => ?_⟩
  · unfold fI fB; rw [fnd_take h, hj]; unfold step; rw [if_pos hc]; dsimp only; rw [if_pos hb]; exact ⟨rfl, rfl⟩
  · unfold fI fB; rw [fnd_take h, hj]; unfold step; rw [if_pos hc]; dsimp only; rw [if_neg hb]; exact ⟨rfl, rfl⟩
theorem Sf.of_below {w W : World} (h : RowKit.Below w.heap.size w W) : Sf w [] [] W := (Sf.start w).later h
theorem Sf.recalls {w W : World} {L : List FBox} {F : List (Value × List Int)} (h : Sf w L F W) {a : Option Addr} {l : List (Int × Int)} (hc : Rs w a l) : Rs W a l := hc.later h.below

theorem rec_take {s d : Int} {l : List (Int × Int)} {k : Nat} {c : Int × Int} (h : l[k]? = some c) : recB s d (l.take (k + 1)) = (recB s d (l.take k) || (decide (c.1 = s) && decide (c.2 ≤ d))) := by
  rw [List.take_add_one, h]; exact recB_snoc s d _ c
theorem rec_any_of {s d : Int} {l : List (Int × Int)} {k : Nat} {c : Int × Int} (h : l[k]? = some c) (h1 : (c.1 == s) = true) (h2 : decide (c.2 ≤ d) = true) : recB s d l = true := by
  unfold recB
  rw [List.any_eq_true]
  exact ⟨c, List.mem_of_getElem? h, by rw [h2, Bool.and_true]; simpa using h1⟩
set_option maxHeartbeats 16000000 in
theorem recalled_any {a : Option Addr} {n cap : Nat} {l : List (Int × Int)} {s d : Int} {w : World} (h : Rs w a l) (hn : l.length = n) (hl : n ≤ 1000000) {r : Bool} (hr : recB s d l = r) :
    Calls Try.prog 19 #[.slice a n cap, .int .i64 s, .int .i64 d] w (Gv (.bool r) w) := by
  have HC := Lib.hid h
  have HN := Lib.hid hn
  have HR := Lib.hid hr
  clear h hn hr
  go_enter Try.func19, Try.ntmps19
  go_wp2_with fail
  go_loopw [11] (fun t wr => ∃ k : Nat, k ≤ n ∧ t = .int .i64 (k : Int) ∧ recB s d (l.take k) = false ∧ RowKit.Below w.heap.size w wr) (fun t _ => n - (RowKit.intOf t).toNat)
  case atStart => exact ⟨0, by omega, rfl, rfl, Below.refl _ _⟩
  case round =>
    obtain ⟨k, hk, rfl, hno, hB⟩ := hrel
    by_cases hlt : k < n
    · have hkl : k < l.length := by rw [HN.out]; exact hlt
      obtain ⟨c, hc⟩ : ∃ c, l[k]? = some c := ⟨_, List.getElem?_eq_getElem hkl⟩
      have HK := Lib.hid hc
      obtain ⟨b, o, rfl, hb, hcells⟩ := HC.out.at hc
      have HX := Lib.hid hcells
      have HB := Lib.hid hB
      have HNO := Lib.hid hno
      have hlt2 : decide ((k : Int) < (n : Int)) = true := by simp; omega
      have hw1 : IntKind.i64.wrap ((k : Int) + 1) = (k : Int) + 1 := IntWalk.i64_in _ (by omega)
      have hat := fun W => recall_at b o n cap k hlt W
      have S1 := Lib.hid ((Sf.of_below HB.out).put [.int .i64 c.1, .int .i64 c.2] 52)
      obtain ⟨x0, x1⟩ := HX.out _ HB.out
      clear hB hcells hc hkl hno
      rcases h1 : (c.1 == s) with _ | _
      · go_wp2_with fail
        go_roundw
        case rel => exact ⟨k + 1, by omega, by go_num, by rw [rec_take HK.out, HNO.out, show decide (c.1 = s) = false by simpa using h1]; rfl, S1.out.below⟩
        case measure => simp [RowKit.intOf]; omega
      rcases h2 : decide (c.2 ≤ d) with _ | _
      · go_wp2_with fail
        go_roundw
        case rel => exact ⟨k + 1, by omega, by go_num, by rw [rec_take HK.out, HNO.out, h2, Bool.and_false]; rfl, S1.out.below⟩
        case measure => simp [RowKit.intOf]; omega
      · obtain rfl : true = r := by rw [← HR.out, rec_any_of HK.out h1 h2]
        go_wp2_with fail
        go_ret
        exact ⟨rfl, S1.out.below⟩
    · obtain rfl : k = n := by omega
      rw [show l.take k = l by rw [← HN.out, List.take_length], HR.out] at hno
      obtain rfl : r = false := hno
      have hlt2 : decide ((k : Int) < (k : Int)) = false := by simp
      have HB := Lib.hid hB
      clear hB
      go_wp2_with fail
      go_ret
      exact ⟨rfl, HB.out⟩

set_option maxHeartbeats 16000000 in
theorem find_any {a : Option Addr} {n cap : Nat} {l : List Ct} {s d : Int} {w : World} (h : Cs w a l) (hn : l.length = n) (hl : n ≤ 1000000) {i : Nat} {r : Bool} (hi : fI s d l = i) (hr : fB s d l = r) :
    Calls Try.prog 10 #[.slice a n cap, .int .i64 s, .int .i64 d] w (Gv (.tuple #[.int .i64 (i : Int), .bool r]) w) := by
  have HC := Lib.hid h
  have HN := Lib.hid hn
  have HI := Lib.hid hi
  have HR := Lib.hid hr
  have HL := Lib.hid hl
  clear h hn hi hr
  go_enter Try.func10, Try.ntmps10
  go_wp2_with fail
  go_loopw [8, 9, 14] (fun x y t wr => ∃ k : Nat, k ≤ n ∧ t = .int .i64 (k : Int) ∧ x = .int .i64 (fI s d (l.take k) : Int) ∧ y = .bool (fB s d (l.take k)) ∧ RowKit.Below w.heap.size w wr) (fun _ _ t _ => n - (RowKit.intOf t).toNat)
  case atStart => exact ⟨0, by omega, rfl, rfl, rfl, Below.refl _ _⟩
  case round =>
    obtain ⟨k, hk, rfl, rfl, rfl, hB⟩ := hrel
    by_cases hlt : k < n
    · have hkl : k < l.length := by rw [HN.out]; exact hlt
      obtain ⟨c, hc⟩ : ∃ c, l[k]? = some c := ⟨_, List.getElem?_eq_getElem hkl⟩
      have HK := Lib.hid hc
      obtain ⟨b, o, rfl, hb, hcells⟩ := HC.out.at hc
      have HX := Lib.hid hcells
      have HB := Lib.hid hB
      have hlt2 : decide ((k : Int) < (n : Int)) = true := by simp; omega
      have hw1 : IntKind.i64.wrap ((k : Int) + 1) = (k : Int) + 1 := IntWalk.i64_in _ (by omega)
      have hat := fun W => cert_at b o n cap k hlt W
      have S1 := Lib.hid ((Sf.of_below HB.out).put [.int .i64 c.sc, .int .i64 c.fr, .int .i64 c.un, .int .i64 c.ut, .int .i64 c.pm, .int .i64 c.dr] 25)
      obtain ⟨x0, x1, x2, x3, x4, x5⟩ := HX.out _ HB.out
      obtain ⟨fi, hfi⟩ : ∃ z, fI s d (l.take k) = z := ⟨_, rfl⟩
      obtain ⟨fb, hfb⟩ : ∃ z, fB s d (l.take k) = z := ⟨_, rfl⟩
      rw [hfi, hfb]
      have HFI := Lib.hid hfi
      have HFB := Lib.hid hfb
      clear hfi hfb hB hcells hc hkl
      go_upto_region 5 with fail
      clear x0 x1 x2 x3 x4 x5 hat
      obtain ⟨cv, hcv⟩ : ∃ z, c.cov s d = z := ⟨_, rfl⟩
      have HCV := Lib.hid hcv
      clear hcv
      cases cv
      case false =>
        have HQ := Lib.hid (round_no HK.out HCV.out)
        go_cut [36] from 19 to 36 (fun u wx => u = .bool false ∧ Hid (Sf w [(wr.heap.size, 25, [.int .i64 c.sc, .int .i64 c.fr, .int .i64 c.un, .int .i64 c.ut, .int .i64 c.pm, .int .i64 c.dr])] [] wx))
        case first =>
          have K0 : ∀ W, Sf w [(wr.heap.size, 25, [.int .i64 c.sc, .int .i64 c.fr, .int .i64 c.un, .int .i64 c.ut, .int .i64 c.pm, .int .i64 c.dr])] [] W → W.cell? ⟨wr.heap.size, 0, none⟩ = some (.int .i64 c.sc) ∧ W.cell? ⟨wr.heap.size, 1, none⟩ = some (.int .i64 c.fr) ∧ W.cell? ⟨wr.heap.size, 2, none⟩ = some (.int .i64 c.un) ∧ W.cell? ⟨wr.heap.size, 3, none⟩ = some (.int .i64 c.ut) ∧ W.cell? ⟨wr.heap.size, 4, none⟩ = some (.int .i64 c.pm) ∧ W.cell? ⟨wr.heap.size, 5, none⟩ = some (.int .i64 c.dr) := fun W h => ⟨(h.box (wr.heap.size, 25, [.int .i64 c.sc, .int .i64 c.fr, .int .i64 c.un, .int .i64 c.ut, .int .i64 c.pm, .int .i64 c.dr]) List.mem_cons_self).cell 0, (h.box (wr.heap.size, 25, [.int .i64 c.sc, .int .i64 c.fr, .int .i64 c.un, .int .i64 c.ut, .int .i64 c.pm, .int .i64 c.dr]) List.mem_cons_self).cell 1, (h.box (wr.heap.size, 25, [.int .i64 c.sc, .int .i64 c.fr, .int .i64 c.un, .int .i64 c.ut, .int .i64 c.pm, .int .i64 c.dr]) List.mem_cons_self).cell 2, (h.box (wr.heap.size, 25, [.int .i64 c.sc, .int .i64 c.fr, .int .i64 c.un, .int .i64 c.ut, .int .i64 c.pm, .int .i64 c.dr]) List.mem_cons_self).cell 3, (h.box (wr.heap.size, 25, [.int .i64 c.sc, .int .i64 c.fr, .int .i64 c.un, .int .i64 c.ut, .int .i64 c.pm, .int .i64 c.dr]) List.mem_cons_self).cell 4, (h.box (wr.heap.size, 25, [.int .i64 c.sc, .int .i64 c.fr, .int .i64 c.un, .int .i64 c.ut, .int .i64 c.pm, .int .i64 c.dr]) List.mem_cons_self).cell 5⟩
          have KK := Lib.hid K0
          clear K0
          have N0 := Lib.hid S1.out.drew
          clear S1
          have e0 := KK.out _ N0.out
          refine wp_region_held_drew (S := fun W => W.cell? ⟨wr.heap.size, 0, none⟩ = some (.int .i64 c.sc) ∧ W.cell? ⟨wr.heap.size, 1, none⟩ = some (.int .i64 c.fr) ∧ W.cell? ⟨wr.heap.size, 2, none⟩ = some (.int .i64 c.un) ∧ W.cell? ⟨wr.heap.size, 3, none⟩ = some (.int .i64 c.ut) ∧ W.cell? ⟨wr.heap.size, 4, none⟩ = some (.int .i64 c.pm) ∧ W.cell? ⟨wr.heap.size, 5, none⟩ = some (.int .i64 c.dr)) (by kernel_rfl) e0 (fun hHeld => ?_)
          refine wpAnyH_take (i := 0) (oi := ⟨_, _, _, _, _, _⟩) (v := ?_) rfl (by kernel_rfl) (by kernel_rfl) (by kernel_rfl) (fun _ _ _ h => h) (Or.inl ⟨by rfl, ?_⟩) (by assumption) ?_
          rotate_left
          focus (intro w hSw; (try dsimp only at hSw); go_simp; (try with_reducible rfl))
          try simp only [Act.put, List.setIfInBounds_toArray, List.set_cons_zero, List.set_cons_succ]
          refine wpAnyH_take (i := 1) (oi := ⟨_, _, _, _, _, _⟩) (v := ?_) rfl (by kernel_rfl) (by kernel_rfl) (by kernel_rfl) (fun _ _ _ h => h) (Or.inl ⟨by rfl, ?_⟩) (by assumption) ?_
          rotate_left
          focus (intro w hSw; (try dsimp only at hSw); go_simp; (try with_reducible rfl))
          try simp only [Act.put, List.setIfInBounds_toArray, List.set_cons_zero, List.set_cons_succ]
          refine wpAnyH_take (i := 2) (oi := ⟨_, _, _, _, _, _⟩) (v := ?_) rfl (by kernel_rfl) (by kernel_rfl) (by kernel_rfl) (fun _ _ _ h => h) (Or.inl ⟨by rfl, ?_⟩) (by assumption) ?_
          rotate_left
          focus (intro w hSw; (try dsimp only at hSw); go_simp; (try with_reducible rfl))
          try simp only [Act.put, List.setIfInBounds_toArray, List.set_cons_zero, List.set_cons_succ]
          refine wpAnyH_ready (rs := [3]) (by kernel_rfl) (by simp) ?_
          refine AllReadyH.cons (o := ⟨_, _, _, _, _, _⟩) rfl (fun K hK => ?_) AllReadyH.nil
          first | go_at_call 27 | (rw [if_pos ?_]; rotate_left; (focus rfl); go_simp) | skip
          try go_at_call 27
          refine ((covers_any HCV.out : Calls _ _ _ _ _)).mono ?_
          rintro e y0 ⟨rfl, hb⟩
          have N1 := Lib.hid (N0.out.later hb)
          clear hb
          have e1 := KK.out _ N1.out
          try dsimp only
          refine hK.out _ _ (by (try dsimp only); exact e1) (fun hHeld2 => ?_)
          clear hK K hHeld
          have hHeld := hHeld2
          clear hHeld2
          try simp only [Act.put, List.setIfInBounds_toArray, List.set_cons_zero, List.set_cons_succ]
          refine wpAnyH_take (i := 4) (oi := ⟨_, _, _, _, _, _⟩) (v := ?_) rfl (by kernel_rfl) (by kernel_rfl) (by kernel_rfl) (fun _ _ _ h => h) (Or.inl ⟨by rfl, ?_⟩) (by assumption) ?_
          rotate_left
          focus (intro w hSw; (try dsimp only at hSw); go_simp; (try with_reducible rfl))
          try simp only [Act.put, List.setIfInBounds_toArray, List.set_cons_zero, List.set_cons_succ]
          refine wpAnyH_take (i := 5) (oi := ⟨_, _, _, _, _, _⟩) (v := undef) rfl (by kernel_rfl) (by kernel_rfl) (by kernel_rfl) (fun _ _ _ h => h) (Or.inr ⟨by rfl, rfl⟩) (by assumption) ?_
          try simp only [Act.put, List.setIfInBounds_toArray, List.set_cons_zero, List.set_cons_succ]
          refine wpAnyH_take (i := 6) (oi := ⟨_, _, _, _, _, _⟩) (v := undef) rfl (by kernel_rfl) (by kernel_rfl) (by kernel_rfl) (fun _ _ _ h => h) (Or.inr ⟨by rfl, rfl⟩) (by assumption) ?_
          try simp only [Act.put, List.setIfInBounds_toArray, List.set_cons_zero, List.set_cons_succ]
          refine wpAnyH_take (i := 7) (oi := ⟨_, _, _, _, _, _⟩) (v := undef) rfl (by kernel_rfl) (by kernel_rfl) (by kernel_rfl) (fun _ _ _ h => h) (Or.inr ⟨by rfl, rfl⟩) (by assumption) ?_
          try simp only [Act.put, List.setIfInBounds_toArray, List.set_cons_zero, List.set_cons_succ]
          refine wpAnyH_take (i := 8) (oi := ⟨_, _, _, _, _, _⟩) (v := undef) rfl (by kernel_rfl) (by kernel_rfl) (by kernel_rfl) (fun _ _ _ h => h) (Or.inr ⟨by rfl, rfl⟩) (by assumption) ?_
          try simp only [Act.put, List.setIfInBounds_toArray, List.set_cons_zero, List.set_cons_succ]
          refine wpAnyH_take (i := 9) (oi := ⟨_, _, _, _, _, _⟩) (v := undef) rfl (by kernel_rfl) (by kernel_rfl) (by kernel_rfl) (fun _ _ _ h => h) (Or.inr ⟨by rfl, rfl⟩) (by assumption) ?_
          try simp only [Act.put, List.setIfInBounds_toArray, List.set_cons_zero, List.set_cons_succ]
          refine wpAnyH_take (i := 10) (oi := ⟨_, _, _, _, _, _⟩) (v := undef) rfl (by kernel_rfl) (by kernel_rfl) (by kernel_rfl) (fun _ _ _ h => h) (Or.inr ⟨by rfl, rfl⟩) (by assumption) ?_
          try simp only [Act.put, List.setIfInBounds_toArray, List.set_cons_zero, List.set_cons_succ]
          refine wpAnyH_take (i := 11) (oi := ⟨_, _, _, _, _, _⟩) (v := undef) rfl (by kernel_rfl) (by kernel_rfl) (by kernel_rfl) (fun _ _ _ h => h) (Or.inr ⟨by rfl, rfl⟩) (by assumption) ?_
          try simp only [Act.put, List.setIfInBounds_toArray, List.set_cons_zero, List.set_cons_succ]
          refine wpAnyH_take (i := 12) (oi := ⟨_, _, _, _, _, _⟩) (v := undef) rfl (by kernel_rfl) (by kernel_rfl) (by kernel_rfl) (fun _ _ _ h => h) (Or.inr ⟨by rfl, rfl⟩) (by assumption) ?_
          try simp only [Act.put, List.setIfInBounds_toArray, List.set_cons_zero, List.set_cons_succ]
          refine wpAnyH_take (i := 13) (oi := ⟨_, _, _, _, _, _⟩) (v := undef) rfl (by kernel_rfl) (by kernel_rfl) (by kernel_rfl) (fun _ _ _ h => h) (Or.inr ⟨by rfl, rfl⟩) (by assumption) ?_
          try simp only [Act.put, List.setIfInBounds_toArray, List.set_cons_zero, List.set_cons_succ]
          refine wpAnyH_take (i := 14) (oi := ⟨_, _, _, _, _, _⟩) (v := undef) rfl (by kernel_rfl) (by kernel_rfl) (by kernel_rfl) (fun _ _ _ h => h) (Or.inr ⟨by rfl, rfl⟩) (by assumption) ?_
          try simp only [Act.put, List.setIfInBounds_toArray, List.set_cons_zero, List.set_cons_succ]
          refine wpAnyH_take (i := 15) (oi := ⟨_, _, _, _, _, _⟩) (v := undef) rfl (by kernel_rfl) (by kernel_rfl) (by kernel_rfl) (fun _ _ _ h => h) (Or.inr ⟨by rfl, rfl⟩) (by assumption) ?_
          try simp only [Act.put, List.setIfInBounds_toArray, List.set_cons_zero, List.set_cons_succ]
          refine wpAnyH_take (i := 16) (oi := ⟨_, _, _, _, _, _⟩) (v := undef) rfl (by kernel_rfl) (by kernel_rfl) (by kernel_rfl) (fun _ _ _ h => h) (Or.inr ⟨by rfl, rfl⟩) (by assumption) ?_
          try simp only [Act.put, List.setIfInBounds_toArray, List.set_cons_zero, List.set_cons_succ]
          refine wpAnyH_take (i := 17) (oi := ⟨_, _, _, _, _, _⟩) (v := ?_) rfl (by kernel_rfl) (by kernel_rfl) (by kernel_rfl) (fun _ _ _ h => h) (Or.inl ⟨by rfl, ?_⟩) (by assumption) ?_
          rotate_left
          focus (intro w hSw; (try dsimp only at hSw); go_simp; (try with_reducible rfl))
          try simp only [Act.put, List.setIfInBounds_toArray, List.set_cons_zero, List.set_cons_succ]
          refine wpAnyH_done (by kernel_rfl) ?_ _
          go_wp2_with fail
          go_meet
          exact ⟨rfl, Lib.hid N1.out⟩
        case rest =>
        obtain ⟨rfl, hq⟩ := hcut
        obtain ⟨v1, rfl⟩ : ∃ W, W = wc := ⟨_, rfl⟩
        have R1 := Lib.hid hq.out
        clear hq S1
        go_wp2_with fail
        go_roundw
        case rel => exact ⟨k + 1, by omega, by go_num, by rw [HQ.out.1, HFI.out], by rw [HQ.out.2, HFB.out], R1.out.below⟩
        case measure => simp [RowKit.intOf]; omega
      cases fb
      case false =>
        have HQ := Lib.hid (round_first HK.out HCV.out HFB.out)
        go_cut [36] from 19 to 36 (fun u wx => u = .bool true ∧ Hid (Sf w [(wr.heap.size, 25, [.int .i64 c.sc, .int .i64 c.fr, .int .i64 c.un, .int .i64 c.ut, .int .i64 c.pm, .int .i64 c.dr])] [] wx))
        case first =>
          have K0 : ∀ W, Sf w [(wr.heap.size, 25, [.int .i64 c.sc, .int .i64 c.fr, .int .i64 c.un, .int .i64 c.ut, .int .i64 c.pm, .int .i64 c.dr])] [] W → W.cell? ⟨wr.heap.size, 0, none⟩ = some (.int .i64 c.sc) ∧ W.cell? ⟨wr.heap.size, 1, none⟩ = some (.int .i64 c.fr) ∧ W.cell? ⟨wr.heap.size, 2, none⟩ = some (.int .i64 c.un) ∧ W.cell? ⟨wr.heap.size, 3, none⟩ = some (.int .i64 c.ut) ∧ W.cell? ⟨wr.heap.size, 4, none⟩ = some (.int .i64 c.pm) ∧ W.cell? ⟨wr.heap.size, 5, none⟩ = some (.int .i64 c.dr) := fun W h => ⟨(h.box (wr.heap.size, 25, [.int .i64 c.sc, .int .i64 c.fr, .int .i64 c.un, .int .i64 c.ut, .int .i64 c.pm, .int .i64 c.dr]) List.mem_cons_self).cell 0, (h.box (wr.heap.size, 25, [.int .i64 c.sc, .int .i64 c.fr, .int .i64 c.un, .int .i64 c.ut, .int .i64 c.pm, .int .i64 c.dr]) List.mem_cons_self).cell 1, (h.box (wr.heap.size, 25, [.int .i64 c.sc, .int .i64 c.fr, .int .i64 c.un, .int .i64 c.ut, .int .i64 c.pm, .int .i64 c.dr]) List.mem_cons_self).cell 2, (h.box (wr.heap.size, 25, [.int .i64 c.sc, .int .i64 c.fr, .int .i64 c.un, .int .i64 c.ut, .int .i64 c.pm, .int .i64 c.dr]) List.mem_cons_self).cell 3, (h.box (wr.heap.size, 25, [.int .i64 c.sc, .int .i64 c.fr, .int .i64 c.un, .int .i64 c.ut, .int .i64 c.pm, .int .i64 c.dr]) List.mem_cons_self).cell 4, (h.box (wr.heap.size, 25, [.int .i64 c.sc, .int .i64 c.fr, .int .i64 c.un, .int .i64 c.ut, .int .i64 c.pm, .int .i64 c.dr]) List.mem_cons_self).cell 5⟩
          have KK := Lib.hid K0
          clear K0
          have N0 := Lib.hid S1.out.drew
          clear S1
          have e0 := KK.out _ N0.out
          refine wp_region_held_drew (S := fun W => W.cell? ⟨wr.heap.size, 0, none⟩ = some (.int .i64 c.sc) ∧ W.cell? ⟨wr.heap.size, 1, none⟩ = some (.int .i64 c.fr) ∧ W.cell? ⟨wr.heap.size, 2, none⟩ = some (.int .i64 c.un) ∧ W.cell? ⟨wr.heap.size, 3, none⟩ = some (.int .i64 c.ut) ∧ W.cell? ⟨wr.heap.size, 4, none⟩ = some (.int .i64 c.pm) ∧ W.cell? ⟨wr.heap.size, 5, none⟩ = some (.int .i64 c.dr)) (by kernel_rfl) e0 (fun hHeld => ?_)
          refine wpAnyH_take (i := 0) (oi := ⟨_, _, _, _, _, _⟩) (v := ?_) rfl (by kernel_rfl) (by kernel_rfl) (by kernel_rfl) (fun _ _ _ h => h) (Or.inl ⟨by rfl, ?_⟩) (by assumption) ?_
          rotate_left
          focus (intro w hSw; (try dsimp only at hSw); go_simp; (try with_reducible rfl))
          try simp only [Act.put, List.setIfInBounds_toArray, List.set_cons_zero, List.set_cons_succ]
          refine wpAnyH_take (i := 1) (oi := ⟨_, _, _, _, _, _⟩) (v := ?_) rfl (by kernel_rfl) (by kernel_rfl) (by kernel_rfl) (fun _ _ _ h => h) (Or.inl ⟨by rfl, ?_⟩) (by assumption) ?_
          rotate_left
          focus (intro w hSw; (try dsimp only at hSw); go_simp; (try with_reducible rfl))
          try simp only [Act.put, List.setIfInBounds_toArray, List.set_cons_zero, List.set_cons_succ]
          refine wpAnyH_take (i := 2) (oi := ⟨_, _, _, _, _, _⟩) (v := ?_) rfl (by kernel_rfl) (by kernel_rfl) (by kernel_rfl) (fun _ _ _ h => h) (Or.inl ⟨by rfl, ?_⟩) (by assumption) ?_
          rotate_left
          focus (intro w hSw; (try dsimp only at hSw); go_simp; (try with_reducible rfl))
          try simp only [Act.put, List.setIfInBounds_toArray, List.set_cons_zero, List.set_cons_succ]
          refine wpAnyH_ready (rs := [3]) (by kernel_rfl) (by simp) ?_
          refine AllReadyH.cons (o := ⟨_, _, _, _, _, _⟩) rfl (fun K hK => ?_) AllReadyH.nil
          first | go_at_call 27 | (rw [if_pos ?_]; rotate_left; (focus rfl); go_simp) | skip
          try go_at_call 27
          refine ((covers_any HCV.out : Calls _ _ _ _ _)).mono ?_
          rintro e y0 ⟨rfl, hb⟩
          have N1 := Lib.hid (N0.out.later hb)
          clear hb
          have e1 := KK.out _ N1.out
          try dsimp only
          refine hK.out _ _ (by (try dsimp only); exact e1) (fun hHeld2 => ?_)
          clear hK K hHeld
          have hHeld := hHeld2
          clear hHeld2
          try simp only [Act.put, List.setIfInBounds_toArray, List.set_cons_zero, List.set_cons_succ]
          refine wpAnyH_take (i := 4) (oi := ⟨_, _, _, _, _, _⟩) (v := ?_) rfl (by kernel_rfl) (by kernel_rfl) (by kernel_rfl) (fun _ _ _ h => h) (Or.inl ⟨by rfl, ?_⟩) (by assumption) ?_
          rotate_left
          focus (intro w hSw; (try dsimp only at hSw); go_simp; (try with_reducible rfl))
          try simp only [Act.put, List.setIfInBounds_toArray, List.set_cons_zero, List.set_cons_succ]
          refine wpAnyH_take (i := 5) (oi := ⟨_, _, _, _, _, _⟩) (v := ?_) rfl (by kernel_rfl) (by kernel_rfl) (by kernel_rfl) (fun _ _ _ h => h) (Or.inl ⟨by rfl, ?_⟩) (by assumption) ?_
          rotate_left
          focus (intro w hSw; (try dsimp only at hSw); go_simp; (try with_reducible rfl))
          try simp only [Act.put, List.setIfInBounds_toArray, List.set_cons_zero, List.set_cons_succ]
          refine wpAnyH_take (i := 6) (oi := ⟨_, _, _, _, _, _⟩) (v := ?_) rfl (by kernel_rfl) (by kernel_rfl) (by kernel_rfl) (fun _ _ _ h => h) (Or.inl ⟨by rfl, ?_⟩) (by assumption) ?_
          rotate_left
          focus (intro w hSw; (try dsimp only at hSw); go_simp; (try with_reducible rfl))
          try simp only [Act.put, List.setIfInBounds_toArray, List.set_cons_zero, List.set_cons_succ]
          refine wpAnyH_take (i := 7) (oi := ⟨_, _, _, _, _, _⟩) (v := ?_) rfl (by kernel_rfl) (by kernel_rfl) (by kernel_rfl) (fun _ _ _ h => h) (Or.inl ⟨by rfl, ?_⟩) (by assumption) ?_
          rotate_left
          focus (intro w hSw; (try dsimp only at hSw); go_simp; (try with_reducible rfl))
          try simp only [Act.put, List.setIfInBounds_toArray, List.set_cons_zero, List.set_cons_succ]
          refine wpAnyH_take (i := 8) (oi := ⟨_, _, _, _, _, _⟩) (v := undef) rfl (by kernel_rfl) (by kernel_rfl) (by kernel_rfl) (fun _ _ _ h => h) (Or.inr ⟨by rfl, rfl⟩) (by assumption) ?_
          try simp only [Act.put, List.setIfInBounds_toArray, List.set_cons_zero, List.set_cons_succ]
          refine wpAnyH_take (i := 9) (oi := ⟨_, _, _, _, _, _⟩) (v := undef) rfl (by kernel_rfl) (by kernel_rfl) (by kernel_rfl) (fun _ _ _ h => h) (Or.inr ⟨by rfl, rfl⟩) (by assumption) ?_
          try simp only [Act.put, List.setIfInBounds_toArray, List.set_cons_zero, List.set_cons_succ]
          refine wpAnyH_take (i := 10) (oi := ⟨_, _, _, _, _, _⟩) (v := undef) rfl (by kernel_rfl) (by kernel_rfl) (by kernel_rfl) (fun _ _ _ h => h) (Or.inr ⟨by rfl, rfl⟩) (by assumption) ?_
          try simp only [Act.put, List.setIfInBounds_toArray, List.set_cons_zero, List.set_cons_succ]
          refine wpAnyH_take (i := 11) (oi := ⟨_, _, _, _, _, _⟩) (v := undef) rfl (by kernel_rfl) (by kernel_rfl) (by kernel_rfl) (fun _ _ _ h => h) (Or.inr ⟨by rfl, rfl⟩) (by assumption) ?_
          try simp only [Act.put, List.setIfInBounds_toArray, List.set_cons_zero, List.set_cons_succ]
          refine wpAnyH_take (i := 12) (oi := ⟨_, _, _, _, _, _⟩) (v := undef) rfl (by kernel_rfl) (by kernel_rfl) (by kernel_rfl) (fun _ _ _ h => h) (Or.inr ⟨by rfl, rfl⟩) (by assumption) ?_
          try simp only [Act.put, List.setIfInBounds_toArray, List.set_cons_zero, List.set_cons_succ]
          refine wpAnyH_take (i := 13) (oi := ⟨_, _, _, _, _, _⟩) (v := undef) rfl (by kernel_rfl) (by kernel_rfl) (by kernel_rfl) (fun _ _ _ h => h) (Or.inr ⟨by rfl, rfl⟩) (by assumption) ?_
          try simp only [Act.put, List.setIfInBounds_toArray, List.set_cons_zero, List.set_cons_succ]
          refine wpAnyH_take (i := 14) (oi := ⟨_, _, _, _, _, _⟩) (v := undef) rfl (by kernel_rfl) (by kernel_rfl) (by kernel_rfl) (fun _ _ _ h => h) (Or.inr ⟨by rfl, rfl⟩) (by assumption) ?_
          try simp only [Act.put, List.setIfInBounds_toArray, List.set_cons_zero, List.set_cons_succ]
          refine wpAnyH_take (i := 15) (oi := ⟨_, _, _, _, _, _⟩) (v := undef) rfl (by kernel_rfl) (by kernel_rfl) (by kernel_rfl) (fun _ _ _ h => h) (Or.inr ⟨by rfl, rfl⟩) (by assumption) ?_
          try simp only [Act.put, List.setIfInBounds_toArray, List.set_cons_zero, List.set_cons_succ]
          refine wpAnyH_take (i := 16) (oi := ⟨_, _, _, _, _, _⟩) (v := ?_) rfl (by kernel_rfl) (by kernel_rfl) (by kernel_rfl) (fun _ _ _ h => h) (Or.inl ⟨by rfl, ?_⟩) (by assumption) ?_
          rotate_left
          focus (intro w hSw; (try dsimp only at hSw); go_simp; (try with_reducible rfl))
          try simp only [Act.put, List.setIfInBounds_toArray, List.set_cons_zero, List.set_cons_succ]
          refine wpAnyH_take (i := 17) (oi := ⟨_, _, _, _, _, _⟩) (v := ?_) rfl (by kernel_rfl) (by kernel_rfl) (by kernel_rfl) (fun _ _ _ h => h) (Or.inl ⟨by rfl, ?_⟩) (by assumption) ?_
          rotate_left
          focus (intro w hSw; (try dsimp only at hSw); go_simp; (try with_reducible rfl))
          try simp only [Act.put, List.setIfInBounds_toArray, List.set_cons_zero, List.set_cons_succ]
          refine wpAnyH_done (by kernel_rfl) ?_ _
          go_wp2_with fail
          go_meet
          exact ⟨rfl, Lib.hid N1.out⟩
        case rest =>
        obtain ⟨rfl, hq⟩ := hcut
        obtain ⟨v1, rfl⟩ : ∃ W, W = wc := ⟨_, rfl⟩
        have R1 := Lib.hid hq.out
        clear hq S1
        go_wp2_with fail
        go_roundw
        case rel => exact ⟨k + 1, by omega, by go_num, by rw [HQ.out.1], by rw [HQ.out.2], R1.out.below⟩
        case measure => simp [RowKit.intOf]; omega
      obtain ⟨cb, hcb, hil, hy, hno⟩ := round_more HK.out HCV.out HFB.out
      rw [HFI.out] at hcb hil hno
      have HCB := Lib.hid (HC.out.at hcb)
      have hat2 := fun W => cert_at b o n cap fi (by rw [← HN.out]; exact hil) W
      have HY := Lib.hid hy
      have HNO := Lib.hid hno
      have HX2 : Hid (∀ W, RowKit.Below w.heap.size w W → W.cell? ⟨b, o + fi * 6 + 1, none⟩ = some (.int .i64 cb.fr)) := Lib.hid (fun W hW => by
        obtain ⟨b', o', e, _, hc'⟩ := HCB.out
        cases e
        exact (hc' W hW).2.1)
      clear hcb hil hy hno
      rcases hge : decide (cb.fr ≤ c.fr) with _ | _
      · have HQ := Lib.hid (HNO.out (of_decide_eq_false hge))
        go_cut [36] from 19 to 36 (fun u wx => u = .bool false ∧ Hid (Sf w [(wr.heap.size, 25, [.int .i64 c.sc, .int .i64 c.fr, .int .i64 c.un, .int .i64 c.ut, .int .i64 c.pm, .int .i64 c.dr])] [] wx))
        case first =>
          have K0 : ∀ W, Sf w [(wr.heap.size, 25, [.int .i64 c.sc, .int .i64 c.fr, .int .i64 c.un, .int .i64 c.ut, .int .i64 c.pm, .int .i64 c.dr])] [] W → W.cell? ⟨wr.heap.size, 0, none⟩ = some (.int .i64 c.sc) ∧ W.cell? ⟨wr.heap.size, 1, none⟩ = some (.int .i64 c.fr) ∧ W.cell? ⟨wr.heap.size, 2, none⟩ = some (.int .i64 c.un) ∧ W.cell? ⟨wr.heap.size, 3, none⟩ = some (.int .i64 c.ut) ∧ W.cell? ⟨wr.heap.size, 4, none⟩ = some (.int .i64 c.pm) ∧ W.cell? ⟨wr.heap.size, 5, none⟩ = some (.int .i64 c.dr) ∧ W.cell? ⟨b, o + fi * 6 + 1, none⟩ = some (.int .i64 cb.fr) := fun W h => ⟨(h.box (wr.heap.size, 25, [.int .i64 c.sc, .int .i64 c.fr, .int .i64 c.un, .int .i64 c.ut, .int .i64 c.pm, .int .i64 c.dr]) List.mem_cons_self).cell 0, (h.box (wr.heap.size, 25, [.int .i64 c.sc, .int .i64 c.fr, .int .i64 c.un, .int .i64 c.ut, .int .i64 c.pm, .int .i64 c.dr]) List.mem_cons_self).cell 1, (h.box (wr.heap.size, 25, [.int .i64 c.sc, .int .i64 c.fr, .int .i64 c.un, .int .i64 c.ut, .int .i64 c.pm, .int .i64 c.dr]) List.mem_cons_self).cell 2, (h.box (wr.heap.size, 25, [.int .i64 c.sc, .int .i64 c.fr, .int .i64 c.un, .int .i64 c.ut, .int .i64 c.pm, .int .i64 c.dr]) List.mem_cons_self).cell 3, (h.box (wr.heap.size, 25, [.int .i64 c.sc, .int .i64 c.fr, .int .i64 c.un, .int .i64 c.ut, .int .i64 c.pm, .int .i64 c.dr]) List.mem_cons_self).cell 4, (h.box (wr.heap.size, 25, [.int .i64 c.sc, .int .i64 c.fr, .int .i64 c.un, .int .i64 c.ut, .int .i64 c.pm, .int .i64 c.dr]) List.mem_cons_self).cell 5, HX2.out _ h.below⟩
          have KK := Lib.hid K0
          clear K0
          have N0 := Lib.hid S1.out.drew
          clear S1
          have e0 := KK.out _ N0.out
          refine wp_region_held_drew (S := fun W => W.cell? ⟨wr.heap.size, 0, none⟩ = some (.int .i64 c.sc) ∧ W.cell? ⟨wr.heap.size, 1, none⟩ = some (.int .i64 c.fr) ∧ W.cell? ⟨wr.heap.size, 2, none⟩ = some (.int .i64 c.un) ∧ W.cell? ⟨wr.heap.size, 3, none⟩ = some (.int .i64 c.ut) ∧ W.cell? ⟨wr.heap.size, 4, none⟩ = some (.int .i64 c.pm) ∧ W.cell? ⟨wr.heap.size, 5, none⟩ = some (.int .i64 c.dr) ∧ W.cell? ⟨b, o + fi * 6 + 1, none⟩ = some (.int .i64 cb.fr)) (by kernel_rfl) e0 (fun hHeld => ?_)
          refine wpAnyH_take (i := 0) (oi := ⟨_, _, _, _, _, _⟩) (v := ?_) rfl (by kernel_rfl) (by kernel_rfl) (by kernel_rfl) (fun _ _ _ h => h) (Or.inl ⟨by rfl, ?_⟩) (by assumption) ?_
          rotate_left
          focus (intro w hSw; (try dsimp only at hSw); go_simp; (try with_reducible rfl))
          try simp only [Act.put, List.setIfInBounds_toArray, List.set_cons_zero, List.set_cons_succ]
          refine wpAnyH_take (i := 1) (oi := ⟨_, _, _, _, _, _⟩) (v := ?_) rfl (by kernel_rfl) (by kernel_rfl) (by kernel_rfl) (fun _ _ _ h => h) (Or.inl ⟨by rfl, ?_⟩) (by assumption) ?_
          rotate_left
          focus (intro w hSw; (try dsimp only at hSw); go_simp; (try with_reducible rfl))
          try simp only [Act.put, List.setIfInBounds_toArray, List.set_cons_zero, List.set_cons_succ]
          refine wpAnyH_take (i := 2) (oi := ⟨_, _, _, _, _, _⟩) (v := ?_) rfl (by kernel_rfl) (by kernel_rfl) (by kernel_rfl) (fun _ _ _ h => h) (Or.inl ⟨by rfl, ?_⟩) (by assumption) ?_
          rotate_left
          focus (intro w hSw; (try dsimp only at hSw); go_simp; (try with_reducible rfl))
          try simp only [Act.put, List.setIfInBounds_toArray, List.set_cons_zero, List.set_cons_succ]
          refine wpAnyH_ready (rs := [3]) (by kernel_rfl) (by simp) ?_
          refine AllReadyH.cons (o := ⟨_, _, _, _, _, _⟩) rfl (fun K hK => ?_) AllReadyH.nil
          first | go_at_call 27 | (rw [if_pos ?_]; rotate_left; (focus rfl); go_simp) | skip
          try go_at_call 27
          refine ((covers_any HCV.out : Calls _ _ _ _ _)).mono ?_
          rintro e y0 ⟨rfl, hb⟩
          have N1 := Lib.hid (N0.out.later hb)
          clear hb
          have e1 := KK.out _ N1.out
          try dsimp only
          refine hK.out _ _ (by (try dsimp only); exact e1) (fun hHeld2 => ?_)
          clear hK K hHeld
          have hHeld := hHeld2
          clear hHeld2
          try simp only [Act.put, List.setIfInBounds_toArray, List.set_cons_zero, List.set_cons_succ]
          refine wpAnyH_take (i := 4) (oi := ⟨_, _, _, _, _, _⟩) (v := ?_) rfl (by kernel_rfl) (by kernel_rfl) (by kernel_rfl) (fun _ _ _ h => h) (Or.inl ⟨by rfl, ?_⟩) (by assumption) ?_
          rotate_left
          focus (intro w hSw; (try dsimp only at hSw); go_simp; (try with_reducible rfl))
          try simp only [Act.put, List.setIfInBounds_toArray, List.set_cons_zero, List.set_cons_succ]
          refine wpAnyH_take (i := 5) (oi := ⟨_, _, _, _, _, _⟩) (v := ?_) rfl (by kernel_rfl) (by kernel_rfl) (by kernel_rfl) (fun _ _ _ h => h) (Or.inl ⟨by rfl, ?_⟩) (by assumption) ?_
          rotate_left
          focus (intro w hSw; (try dsimp only at hSw); go_simp; (try with_reducible rfl))
          try simp only [Act.put, List.setIfInBounds_toArray, List.set_cons_zero, List.set_cons_succ]
          refine wpAnyH_take (i := 6) (oi := ⟨_, _, _, _, _, _⟩) (v := ?_) rfl (by kernel_rfl) (by kernel_rfl) (by kernel_rfl) (fun _ _ _ h => h) (Or.inl ⟨by rfl, ?_⟩) (by assumption) ?_
          rotate_left
          focus (intro w hSw; (try dsimp only at hSw); go_simp; (try with_reducible rfl))
          try simp only [Act.put, List.setIfInBounds_toArray, List.set_cons_zero, List.set_cons_succ]
          refine wpAnyH_take (i := 7) (oi := ⟨_, _, _, _, _, _⟩) (v := ?_) rfl (by kernel_rfl) (by kernel_rfl) (by kernel_rfl) (fun _ _ _ h => h) (Or.inl ⟨by rfl, ?_⟩) (by assumption) ?_
          rotate_left
          focus (intro w hSw; (try dsimp only at hSw); go_simp; (try with_reducible rfl))
          try simp only [Act.put, List.setIfInBounds_toArray, List.set_cons_zero, List.set_cons_succ]
          refine wpAnyH_take (i := 8) (oi := ⟨_, _, _, _, _, _⟩) (v := ?_) rfl (by kernel_rfl) (by kernel_rfl) (by kernel_rfl) (fun _ _ _ h => h) (Or.inl ⟨by rfl, ?_⟩) (by assumption) ?_
          rotate_left
          focus (intro w hSw; (try dsimp only at hSw); go_simp; (try with_reducible rfl))
          try simp only [Act.put, List.setIfInBounds_toArray, List.set_cons_zero, List.set_cons_succ]
          refine wpAnyH_take (i := 9) (oi := ⟨_, _, _, _, _, _⟩) (v := ?_) rfl (by kernel_rfl) (by kernel_rfl) (by kernel_rfl) (fun _ _ _ h => h) (Or.inl ⟨by rfl, ?_⟩) (by assumption) ?_
          rotate_left
          focus (intro w hSw; (try dsimp only at hSw); go_simp; (try with_reducible rfl))
          try simp only [Act.put, List.setIfInBounds_toArray, List.set_cons_zero, List.set_cons_succ]
          refine wpAnyH_take (i := 10) (oi := ⟨_, _, _, _, _, _⟩) (v := ?_) rfl (by kernel_rfl) (by kernel_rfl) (by kernel_rfl) (fun _ _ _ h => h) (Or.inl ⟨by rfl, ?_⟩) (by assumption) ?_
          rotate_left
          focus (intro w hSw; (try dsimp only at hSw); go_simp; (try with_reducible rfl))
          try simp only [Act.put, List.setIfInBounds_toArray, List.set_cons_zero, List.set_cons_succ]
          refine wpAnyH_take (i := 11) (oi := ⟨_, _, _, _, _, _⟩) (v := ?_) rfl (by kernel_rfl) (by kernel_rfl) (by kernel_rfl) (fun _ _ _ h => h) (Or.inl ⟨by rfl, ?_⟩) (by assumption) ?_
          rotate_left
          focus (intro w hSw; (try dsimp only at hSw); go_simp; (try with_reducible rfl))
          try simp only [Act.put, List.setIfInBounds_toArray, List.set_cons_zero, List.set_cons_succ]
          refine wpAnyH_take (i := 12) (oi := ⟨_, _, _, _, _, _⟩) (v := ?_) rfl (by kernel_rfl) (by kernel_rfl) (by kernel_rfl) (fun _ _ _ h => h) (Or.inl ⟨by rfl, ?_⟩) (by assumption) ?_
          rotate_left
          focus (intro w hSw; (try dsimp only at hSw); go_simp; (try with_reducible rfl))
          try simp only [Act.put, List.setIfInBounds_toArray, List.set_cons_zero, List.set_cons_succ]
          refine wpAnyH_take (i := 13) (oi := ⟨_, _, _, _, _, _⟩) (v := ?_) rfl (by kernel_rfl) (by kernel_rfl) (by kernel_rfl) (fun _ _ _ h => h) (Or.inl ⟨by rfl, ?_⟩) (by assumption) ?_
          rotate_left
          focus (intro w hSw; (try dsimp only at hSw); go_simp; (try with_reducible rfl))
          try simp only [Act.put, List.setIfInBounds_toArray, List.set_cons_zero, List.set_cons_succ]
          refine wpAnyH_take (i := 14) (oi := ⟨_, _, _, _, _, _⟩) (v := ?_) rfl (by kernel_rfl) (by kernel_rfl) (by kernel_rfl) (fun _ _ _ h => h) (Or.inl ⟨by rfl, ?_⟩) (by assumption) ?_
          rotate_left
          focus (intro w hSw; (try dsimp only at hSw); go_simp; (try with_reducible rfl))
          try simp only [Act.put, List.setIfInBounds_toArray, List.set_cons_zero, List.set_cons_succ]
          refine wpAnyH_take (i := 15) (oi := ⟨_, _, _, _, _, _⟩) (v := ?_) rfl (by kernel_rfl) (by kernel_rfl) (by kernel_rfl) (fun _ _ _ h => h) (Or.inl ⟨by rfl, ?_⟩) (by assumption) ?_
          rotate_left
          focus (intro w hSw; (try dsimp only at hSw); go_simp; (try with_reducible rfl))
          try simp only [Act.put, List.setIfInBounds_toArray, List.set_cons_zero, List.set_cons_succ]
          refine wpAnyH_take (i := 16) (oi := ⟨_, _, _, _, _, _⟩) (v := ?_) rfl (by kernel_rfl) (by kernel_rfl) (by kernel_rfl) (fun _ _ _ h => h) (Or.inl ⟨by rfl, ?_⟩) (by assumption) ?_
          rotate_left
          focus (intro w hSw; (try dsimp only at hSw); go_simp; (try with_reducible rfl))
          try simp only [Act.put, List.setIfInBounds_toArray, List.set_cons_zero, List.set_cons_succ]
          refine wpAnyH_take (i := 17) (oi := ⟨_, _, _, _, _, _⟩) (v := ?_) rfl (by kernel_rfl) (by kernel_rfl) (by kernel_rfl) (fun _ _ _ h => h) (Or.inl ⟨by rfl, ?_⟩) (by assumption) ?_
          rotate_left
          focus (intro w hSw; (try dsimp only at hSw); go_simp; (try with_reducible rfl))
          try simp only [Act.put, List.setIfInBounds_toArray, List.set_cons_zero, List.set_cons_succ]
          refine wpAnyH_done (by kernel_rfl) ?_ _
          go_wp2_with fail
          go_meet
          exact ⟨rfl, Lib.hid N1.out⟩
        case rest =>
        obtain ⟨rfl, hq⟩ := hcut
        obtain ⟨v1, rfl⟩ : ∃ W, W = wc := ⟨_, rfl⟩
        have R1 := Lib.hid hq.out
        clear hq S1
        go_wp2_with fail
        go_roundw
        case rel => exact ⟨k + 1, by omega, by go_num, by rw [HQ.out.1], by rw [HQ.out.2, HFB.out], R1.out.below⟩
        case measure => simp [RowKit.intOf]; omega
      · have HQ := Lib.hid (HY.out (of_decide_eq_true hge))
        go_cut [36] from 19 to 36 (fun u wx => u = .bool true ∧ Hid (Sf w [(wr.heap.size, 25, [.int .i64 c.sc, .int .i64 c.fr, .int .i64 c.un, .int .i64 c.ut, .int .i64 c.pm, .int .i64 c.dr])] [] wx))
        case first =>
          have K0 : ∀ W, Sf w [(wr.heap.size, 25, [.int .i64 c.sc, .int .i64 c.fr, .int .i64 c.un, .int .i64 c.ut, .int .i64 c.pm, .int .i64 c.dr])] [] W → W.cell? ⟨wr.heap.size, 0, none⟩ = some (.int .i64 c.sc) ∧ W.cell? ⟨wr.heap.size, 1, none⟩ = some (.int .i64 c.fr) ∧ W.cell? ⟨wr.heap.size, 2, none⟩ = some (.int .i64 c.un) ∧ W.cell? ⟨wr.heap.size, 3, none⟩ = some (.int .i64 c.ut) ∧ W.cell? ⟨wr.heap.size, 4, none⟩ = some (.int .i64 c.pm) ∧ W.cell? ⟨wr.heap.size, 5, none⟩ = some (.int .i64 c.dr) ∧ W.cell? ⟨b, o + fi * 6 + 1, none⟩ = some (.int .i64 cb.fr) := fun W h => ⟨(h.box (wr.heap.size, 25, [.int .i64 c.sc, .int .i64 c.fr, .int .i64 c.un, .int .i64 c.ut, .int .i64 c.pm, .int .i64 c.dr]) List.mem_cons_self).cell 0, (h.box (wr.heap.size, 25, [.int .i64 c.sc, .int .i64 c.fr, .int .i64 c.un, .int .i64 c.ut, .int .i64 c.pm, .int .i64 c.dr]) List.mem_cons_self).cell 1, (h.box (wr.heap.size, 25, [.int .i64 c.sc, .int .i64 c.fr, .int .i64 c.un, .int .i64 c.ut, .int .i64 c.pm, .int .i64 c.dr]) List.mem_cons_self).cell 2, (h.box (wr.heap.size, 25, [.int .i64 c.sc, .int .i64 c.fr, .int .i64 c.un, .int .i64 c.ut, .int .i64 c.pm, .int .i64 c.dr]) List.mem_cons_self).cell 3, (h.box (wr.heap.size, 25, [.int .i64 c.sc, .int .i64 c.fr, .int .i64 c.un, .int .i64 c.ut, .int .i64 c.pm, .int .i64 c.dr]) List.mem_cons_self).cell 4, (h.box (wr.heap.size, 25, [.int .i64 c.sc, .int .i64 c.fr, .int .i64 c.un, .int .i64 c.ut, .int .i64 c.pm, .int .i64 c.dr]) List.mem_cons_self).cell 5, HX2.out _ h.below⟩
          have KK := Lib.hid K0
          clear K0
          have N0 := Lib.hid S1.out.drew
          clear S1
          have e0 := KK.out _ N0.out
          refine wp_region_held_drew (S := fun W => W.cell? ⟨wr.heap.size, 0, none⟩ = some (.int .i64 c.sc) ∧ W.cell? ⟨wr.heap.size, 1, none⟩ = some (.int .i64 c.fr) ∧ W.cell? ⟨wr.heap.size, 2, none⟩ = some (.int .i64 c.un) ∧ W.cell? ⟨wr.heap.size, 3, none⟩ = some (.int .i64 c.ut) ∧ W.cell? ⟨wr.heap.size, 4, none⟩ = some (.int .i64 c.pm) ∧ W.cell? ⟨wr.heap.size, 5, none⟩ = some (.int .i64 c.dr) ∧ W.cell? ⟨b, o + fi * 6 + 1, none⟩ = some (.int .i64 cb.fr)) (by kernel_rfl) e0 (fun hHeld => ?_)
          refine wpAnyH_take (i := 0) (oi := ⟨_, _, _, _, _, _⟩) (v := ?_) rfl (by kernel_rfl) (by kernel_rfl) (by kernel_rfl) (fun _ _ _ h => h) (Or.inl ⟨by rfl, ?_⟩) (by assumption) ?_
          rotate_left
          focus (intro w hSw; (try dsimp only at hSw); go_simp; (try with_reducible rfl))
          try simp only [Act.put, List.setIfInBounds_toArray, List.set_cons_zero, List.set_cons_succ]
          refine wpAnyH_take (i := 1) (oi := ⟨_, _, _, _, _, _⟩) (v := ?_) rfl (by kernel_rfl) (by kernel_rfl) (by kernel_rfl) (fun _ _ _ h => h) (Or.inl ⟨by rfl, ?_⟩) (by assumption) ?_
          rotate_left
          focus (intro w hSw; (try dsimp only at hSw); go_simp; (try with_reducible rfl))
          try simp only [Act.put, List.setIfInBounds_toArray, List.set_cons_zero, List.set_cons_succ]
          refine wpAnyH_take (i := 2) (oi := ⟨_, _, _, _, _, _⟩) (v := ?_) rfl (by kernel_rfl) (by kernel_rfl) (by kernel_rfl) (fun _ _ _ h => h) (Or.inl ⟨by rfl, ?_⟩) (by assumption) ?_
          rotate_left
          focus (intro w hSw; (try dsimp only at hSw); go_simp; (try with_reducible rfl))
          try simp only [Act.put, List.setIfInBounds_toArray, List.set_cons_zero, List.set_cons_succ]
          refine wpAnyH_ready (rs := [3]) (by kernel_rfl) (by simp) ?_
          refine AllReadyH.cons (o := ⟨_, _, _, _, _, _⟩) rfl (fun K hK => ?_) AllReadyH.nil
          first | go_at_call 27 | (rw [if_pos ?_]; rotate_left; (focus rfl); go_simp) | skip
          try go_at_call 27
          refine ((covers_any HCV.out : Calls _ _ _ _ _)).mono ?_
          rintro e y0 ⟨rfl, hb⟩
          have N1 := Lib.hid (N0.out.later hb)
          clear hb
          have e1 := KK.out _ N1.out
          try dsimp only
          refine hK.out _ _ (by (try dsimp only); exact e1) (fun hHeld2 => ?_)
          clear hK K hHeld
          have hHeld := hHeld2
          clear hHeld2
          try simp only [Act.put, List.setIfInBounds_toArray, List.set_cons_zero, List.set_cons_succ]
          refine wpAnyH_take (i := 4) (oi := ⟨_, _, _, _, _, _⟩) (v := ?_) rfl (by kernel_rfl) (by kernel_rfl) (by kernel_rfl) (fun _ _ _ h => h) (Or.inl ⟨by rfl, ?_⟩) (by assumption) ?_
          rotate_left
          focus (intro w hSw; (try dsimp only at hSw); go_simp; (try with_reducible rfl))
          try simp only [Act.put, List.setIfInBounds_toArray, List.set_cons_zero, List.set_cons_succ]
          refine wpAnyH_take (i := 5) (oi := ⟨_, _, _, _, _, _⟩) (v := ?_) rfl (by kernel_rfl) (by kernel_rfl) (by kernel_rfl) (fun _ _ _ h => h) (Or.inl ⟨by rfl, ?_⟩) (by assumption) ?_
          rotate_left
          focus (intro w hSw; (try dsimp only at hSw); go_simp; (try with_reducible rfl))
          try simp only [Act.put, List.setIfInBounds_toArray, List.set_cons_zero, List.set_cons_succ]
          refine wpAnyH_take (i := 6) (oi := ⟨_, _, _, _, _, _⟩) (v := ?_) rfl (by kernel_rfl) (by kernel_rfl) (by kernel_rfl) (fun _ _ _ h => h) (Or.inl ⟨by rfl, ?_⟩) (by assumption) ?_
          rotate_left
          focus (intro w hSw; (try dsimp only at hSw); go_simp; (try with_reducible rfl))
          try simp only [Act.put, List.setIfInBounds_toArray, List.set_cons_zero, List.set_cons_succ]
          refine wpAnyH_take (i := 7) (oi := ⟨_, _, _, _, _, _⟩) (v := ?_) rfl (by kernel_rfl) (by kernel_rfl) (by kernel_rfl) (fun _ _ _ h => h) (Or.inl ⟨by rfl, ?_⟩) (by assumption) ?_
          rotate_left
          focus (intro w hSw; (try dsimp only at hSw); go_simp; (try with_reducible rfl))
          try simp only [Act.put, List.setIfInBounds_toArray, List.set_cons_zero, List.set_cons_succ]
          refine wpAnyH_take (i := 8) (oi := ⟨_, _, _, _, _, _⟩) (v := ?_) rfl (by kernel_rfl) (by kernel_rfl) (by kernel_rfl) (fun _ _ _ h => h) (Or.inl ⟨by rfl, ?_⟩) (by assumption) ?_
          rotate_left
          focus (intro w hSw; (try dsimp only at hSw); go_simp; (try with_reducible rfl))
          try simp only [Act.put, List.setIfInBounds_toArray, List.set_cons_zero, List.set_cons_succ]
          refine wpAnyH_take (i := 9) (oi := ⟨_, _, _, _, _, _⟩) (v := ?_) rfl (by kernel_rfl) (by kernel_rfl) (by kernel_rfl) (fun _ _ _ h => h) (Or.inl ⟨by rfl, ?_⟩) (by assumption) ?_
          rotate_left
          focus (intro w hSw; (try dsimp only at hSw); go_simp; (try with_reducible rfl))
          try simp only [Act.put, List.setIfInBounds_toArray, List.set_cons_zero, List.set_cons_succ]
          refine wpAnyH_take (i := 10) (oi := ⟨_, _, _, _, _, _⟩) (v := ?_) rfl (by kernel_rfl) (by kernel_rfl) (by kernel_rfl) (fun _ _ _ h => h) (Or.inl ⟨by rfl, ?_⟩) (by assumption) ?_
          rotate_left
          focus (intro w hSw; (try dsimp only at hSw); go_simp; (try with_reducible rfl))
          try simp only [Act.put, List.setIfInBounds_toArray, List.set_cons_zero, List.set_cons_succ]
          refine wpAnyH_take (i := 11) (oi := ⟨_, _, _, _, _, _⟩) (v := ?_) rfl (by kernel_rfl) (by kernel_rfl) (by kernel_rfl) (fun _ _ _ h => h) (Or.inl ⟨by rfl, ?_⟩) (by assumption) ?_
          rotate_left
          focus (intro w hSw; (try dsimp only at hSw); go_simp; (try with_reducible rfl))
          try simp only [Act.put, List.setIfInBounds_toArray, List.set_cons_zero, List.set_cons_succ]
          refine wpAnyH_take (i := 12) (oi := ⟨_, _, _, _, _, _⟩) (v := ?_) rfl (by kernel_rfl) (by kernel_rfl) (by kernel_rfl) (fun _ _ _ h => h) (Or.inl ⟨by rfl, ?_⟩) (by assumption) ?_
          rotate_left
          focus (intro w hSw; (try dsimp only at hSw); go_simp; (try with_reducible rfl))
          try simp only [Act.put, List.setIfInBounds_toArray, List.set_cons_zero, List.set_cons_succ]
          refine wpAnyH_take (i := 13) (oi := ⟨_, _, _, _, _, _⟩) (v := ?_) rfl (by kernel_rfl) (by kernel_rfl) (by kernel_rfl) (fun _ _ _ h => h) (Or.inl ⟨by rfl, ?_⟩) (by assumption) ?_
          rotate_left
          focus (intro w hSw; (try dsimp only at hSw); go_simp; (try with_reducible rfl))
          try simp only [Act.put, List.setIfInBounds_toArray, List.set_cons_zero, List.set_cons_succ]
          refine wpAnyH_take (i := 14) (oi := ⟨_, _, _, _, _, _⟩) (v := ?_) rfl (by kernel_rfl) (by kernel_rfl) (by kernel_rfl) (fun _ _ _ h => h) (Or.inl ⟨by rfl, ?_⟩) (by assumption) ?_
          rotate_left
          focus (intro w hSw; (try dsimp only at hSw); go_simp; (try with_reducible rfl))
          try simp only [Act.put, List.setIfInBounds_toArray, List.set_cons_zero, List.set_cons_succ]
          refine wpAnyH_take (i := 15) (oi := ⟨_, _, _, _, _, _⟩) (v := ?_) rfl (by kernel_rfl) (by kernel_rfl) (by kernel_rfl) (fun _ _ _ h => h) (Or.inl ⟨by rfl, ?_⟩) (by assumption) ?_
          rotate_left
          focus (intro w hSw; (try dsimp only at hSw); go_simp; (try with_reducible rfl))
          try simp only [Act.put, List.setIfInBounds_toArray, List.set_cons_zero, List.set_cons_succ]
          refine wpAnyH_take (i := 16) (oi := ⟨_, _, _, _, _, _⟩) (v := ?_) rfl (by kernel_rfl) (by kernel_rfl) (by kernel_rfl) (fun _ _ _ h => h) (Or.inl ⟨by rfl, ?_⟩) (by assumption) ?_
          rotate_left
          focus (intro w hSw; (try dsimp only at hSw); go_simp; (try with_reducible rfl))
          try simp only [Act.put, List.setIfInBounds_toArray, List.set_cons_zero, List.set_cons_succ]
          refine wpAnyH_take (i := 17) (oi := ⟨_, _, _, _, _, _⟩) (v := ?_) rfl (by kernel_rfl) (by kernel_rfl) (by kernel_rfl) (fun _ _ _ h => h) (Or.inl ⟨by rfl, ?_⟩) (by assumption) ?_
          rotate_left
          focus (intro w hSw; (try dsimp only at hSw); go_simp; (try with_reducible rfl))
          try simp only [Act.put, List.setIfInBounds_toArray, List.set_cons_zero, List.set_cons_succ]
          refine wpAnyH_done (by kernel_rfl) ?_ _
          go_wp2_with fail
          go_meet
          exact ⟨rfl, Lib.hid N1.out⟩
        case rest =>
        obtain ⟨rfl, hq⟩ := hcut
        obtain ⟨v1, rfl⟩ : ∃ W, W = wc := ⟨_, rfl⟩
        have R1 := Lib.hid hq.out
        clear hq S1
        go_wp2_with fail
        go_roundw
        case rel => exact ⟨k + 1, by omega, by go_num, by rw [HQ.out.1], by rw [HQ.out.2], R1.out.below⟩
        case measure => simp [RowKit.intOf]; omega
    · obtain rfl : k = n := by omega
      rw [show l.take k = l by rw [← HN.out, List.take_length], HI.out, HR.out]
      have hlt2 : decide ((k : Int) < (k : Int)) = false := by simp
      have HB := Lib.hid hB
      clear hB
      go_wp2_with fail
      go_ret2
      exact ⟨rfl, HB.out⟩
end Go.Proofs.Ytmhjejnkphdjpaa.Sc
