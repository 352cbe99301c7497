/- What the laws share: loads of whole dimensions; the examples of the document. -/
import Derived.Test.YtmoapjhobhdjoaaDoorDm9
set_option maxRecDepth 100000
namespace Go.Proofs.YtmoapjhobhdjoaaDoor.Dm
open Go.RowKit

theorem load_rowG {P : Program} {ops : Array Oper} {rest : List Oper} {o : Oper} {a : Act} {w : World} {Q : Exit → Act → World → Prop} (hgd : Region.wanted o (yielded ops a.tmps) = true) (ty : TypeId) (x : Operand) (ho : o.op = .load ty x)
    (g : Nat) (hx : a.eval x = .pointer (some ⟨g, 0, none⟩)) (t : TypeId) (cs : Array Value) (fr : Nat × Nat) (d : TypeDesc) (hg : w.heap[g]? = some (.cells cs t fr))
    (hu : P.underlying ty = some d) (hd : (match d with | .struct _ | .array _ _ => true | _ => false) = true) (hi : (P.info? ty).map (·.size) = some cs.size)
    (h : wpList P ops Q rest (a.put o.dst (.agg cs)) w) : wpList P ops Q (o :: rest) a w :=
  wpList_step fun _ hK => by rw [if_pos hgd]; exact wp_load_row ty x ho g hx t cs fr d hg hu hd hi (hK _ _ h)
def k1 : Nat → Int := fun i => ([1, 2, -2, 0, 0, 0] : List Int).getD i 0
def k2 : Nat → Int := fun i => ([0, 0, -1, 0, 0, 0] : List Int).getD i 0
def k3 : Nat → Int := fun i => ([0, -3, -1, 0, 0, 0] : List Int).getD i 0
def k4 : Nat → Int := fun i => ([0, 0, 0, 1, 0, -1] : List Int).getD i 0
def k5 : Nat → Int := fun i => ([0, 1, -1, 0, 0, 0] : List Int).getD i 0
def k6 : Nat → Int := fun i => ([0, 3, -3, 0, 0, 0] : List Int).getD i 0
def k7 : Nat → Int := fun i => ([-1, 0, 0, 0, 1, 0] : List Int).getD i 0
theorem build_k1 (W : World) : (Instr.build 23 #[(0, .int .i64 1), (1, .int .i64 2), (2, .int .i64 (-2))]).run Tryd.prog W = .ok (.agg (cl k1)) W := run_build W _ _ (cl k1) (by kernel_rfl)
theorem build_k2 (W : World) : (Instr.build 23 #[(0, .int .i64 0), (1, .int .i64 0), (2, .int .i64 (-1))]).run Tryd.prog W = .ok (.agg (cl k2)) W := run_build W _ _ (cl k2) (by kernel_rfl)
theorem build_k3 (W : World) : (Instr.build 23 #[(0, .int .i64 0), (1, .int .i64 (-3)), (2, .int .i64 (-1))]).run Tryd.prog W = .ok (.agg (cl k3)) W := run_build W _ _ (cl k3) (by kernel_rfl)
theorem build_k4 (W : World) : (Instr.build 23 #[(0, .int .i64 0), (1, .int .i64 0), (2, .int .i64 0), (3, .int .i64 1), (4, .int .i64 0), (5, .int .i64 (-1))]).run Tryd.prog W = .ok (.agg (cl k4)) W := run_build W _ _ (cl k4) (by kernel_rfl)
theorem build_k5 (W : World) : (Instr.build 23 #[(0, .int .i64 0), (1, .int .i64 1), (2, .int .i64 (-1))]).run Tryd.prog W = .ok (.agg (cl k5)) W := run_build W _ _ (cl k5) (by kernel_rfl)
theorem build_k6 (W : World) : (Instr.build 23 #[(0, .int .i64 0), (1, .int .i64 3), (2, .int .i64 (-3))]).run Tryd.prog W = .ok (.agg (cl k6)) W := run_build W _ _ (cl k6) (by kernel_rfl)
theorem build_k7 (W : World) : (Instr.build 23 #[(0, .int .i64 (-1)), (1, .int .i64 0), (2, .int .i64 0), (3, .int .i64 0), (4, .int .i64 1)]).run Tryd.prog W = .ok (.agg (cl k7)) W := run_build W _ _ (cl k7) (by kernel_rfl)

theorem ok_of {f : Nat → Int} (h : ok f = true) : tx f = txt f := by unfold tx; rw [if_pos h]
theorem tx_k1 : tx k1 = [103, 42, 109, 50, 47, 115, 50] := by decide
theorem tx_k2 : tx k2 = [49, 47, 115] := by decide
theorem tx_k3 : tx k3 = [49, 47, 109, 51, 47, 115] := by decide
theorem tx_k4 : tx k4 = [74, 47, 112, 99] := by decide
theorem tx_zf : tx zf = [49] := by decide
theorem read_of (f : Nat → Int) (s : List UInt8) (h : tx f = s) (hok : ok f = true) : rdB s = true ∧ cl (rdF s) = cl f := by
  subst h
  have := rd_tx f hok
  exact ⟨this.1, cl_eq this.2⟩
theorem no_pre (s : List UInt8) (f : Nat → Int) (b : Bool) (h : readL s = (f, b)) (h2 : tx f ≠ s) : rdB s = false := by
  unfold rdB
  rw [h]; simp [h2]
theorem rd_sg : rdB [115, 42, 103] = false := by decide
theorem rd_g1 : rdB [103, 49] = false := by decide
theorem eq_self (f : Nat → Int) (W : World) : (Op.equalIn 10000 23 (.agg (cl f)) (.agg (cl f))).run Tryd.prog W = .ok true W := by
  rw [eq_dim, show eqB f f = true by rw [eqB_iff]; intros; rfl]
theorem eq_same {f g : Nat → Int} (h : ∀ i, i < 6 → f i = g i) (W : World) : (Op.equalIn 10000 23 (.agg (cl f)) (.agg (cl g))).run Tryd.prog W = .ok true W := by
  rw [eq_dim, show eqB f g = true by rw [eqB_iff]; exact h]
theorem ok_zf : ok zf = true := by decide
theorem inR_ok {f g : Nat → Int} (e : ∀ i, i < 6 → f i = g i) (hg : ok g = true) : inR f = DE g 0 := by
  rw [inR_eq e]; unfold inR; rw [if_pos hg]
theorem inR_no {f : Nat → Int} (h : ok f = false) : inR f = DE zf 3 := by
  unfold inR; rw [if_neg (by rw [h]; decide)]
theorem pow_ok {f g : Nat → Int} {n : Int} (hf : ok f = true) (e : ∀ i, i < 6 → mulF f n i = g i) (hg : ok g = true) : powR f n = DE g 0 := by
  unfold powR; rw [if_pos hf, inR_ok e hg]
theorem div_ok {f g h : Nat → Int} (hf : ok f = true) (hg : ok g = true) (e : ∀ i, i < 6 → difF f g i = h i) (hh : ok h = true) : divR f g = DE h 0 := by
  unfold divR; rw [hf, hg, inR_ok e hh]; rfl
theorem mul_ok {f g h : Nat → Int} (hf : ok f = true) (hg : ok g = true) (e : ∀ i, i < 6 → sumF f g i = h i) (hh : ok h = true) : mulR f g = DE h 0 := by
  unfold mulR; rw [hf, hg, inR_ok e hh]; rfl
section
variable (w : World)
theorem text_c (f : Nat → Int) (s : List UInt8) (h : tx f = s) (he : Env w) : Calls Tryd.prog 7 #[.agg (cl f)] w (Gives (.string ⟨s.toArray⟩) w) := by
  have := text_any f w he
  rw [h] at this; exact this
theorem read_c (f : Nat → Int) (s : List UInt8) (h : tx f = s) (hok : ok f = true) (hs : s.length ≤ 1000) (he : Env w) : Calls Tryd.prog 8 #[.string ⟨s.toArray⟩] w (Gives (.tuple #[.agg (cl f), .bool true]) w) := by
  have h1 := read_of f s h hok
  have := read_any s hs w he
  unfold DB at this
  rw [h1.1, h1.2] at this; exact this
theorem read_n (s : List UInt8) (h : rdB s = false) (hs : s.length ≤ 1000) (he : Env w) : Calls Tryd.prog 8 #[.string ⟨s.toArray⟩] w (Gives (.tuple #[.agg (cl zf), .bool false]) w) := by
  have := read_any s hs w he
  unfold DB at this
  rw [h, rd_none h] at this; exact this
theorem pow_c (f g : Nat → Int) (n k : Int) (h : powR f n = DE g k) : Calls Tryd.prog 12 #[.agg (cl f), .int .i64 n] w (Gives (.tuple #[.agg (cl g), .int .i64 k]) w) := by
  have := pow_any f n w
  rw [h] at this; exact this
theorem mul_c (f g h : Nat → Int) (k : Int) (e : mulR f g = DE h k) : Calls Tryd.prog 10 #[.agg (cl f), .agg (cl g)] w (Gives (.tuple #[.agg (cl h), .int .i64 k]) w) := by
  have := mul_any f g w
  rw [e] at this; exact this
theorem div_c (f g h : Nat → Int) (k : Int) (e : divR f g = DE h k) : Calls Tryd.prog 11 #[.agg (cl f), .agg (cl g)] w (Gives (.tuple #[.agg (cl h), .int .i64 k]) w) := by
  have := div_any f g w
  rw [e] at this; exact this
theorem right_c (f : Nat → Int) (b : Bool) (h : ok f = b) : Calls Tryd.prog 9 #[.agg (cl f)] w (Gives (.bool b) w) := by
  have := rightG f w
  rw [h] at this; exact this
end
theorem ev6 {p : Nat → Prop} (h0 : p 0) (h1 : p 1) (h2 : p 2) (h3 : p 3) (h4 : p 4) (h5 : p 5) : ∀ i, i < 6 → p i := fun i hi => by
  rcases lt6 hi with rfl | rfl | rfl | rfl | rfl | rfl <;> assumption
theorem pow_k5_3 : powR k5 3 = DE k6 0 := pow_ok (by decide) (ev6 (by decide) (by decide) (by decide) (by decide) (by decide) (by decide)) (by decide)
theorem pow_k5_10 : powR k5 10 = DE zf 3 := by unfold powR; rw [if_pos (by decide), inR_no (by decide)]
theorem pow_zf : powR zf (-1000) = DE zf 0 := pow_ok (by decide) (ev6 (by decide) (by decide) (by decide) (by decide) (by decide) (by decide)) (by decide)
theorem div_k7 : divR k7 k7 = DE zf 0 := div_ok (by decide) (by decide) (ev6 (by decide) (by decide) (by decide) (by decide) (by decide) (by decide)) (by decide)

set_option maxHeartbeats 8000000 in
theorem sane_any (w : World) (he : Env w) : Calls Tryd.prog 6 #[] w (Gives (.bool true) w) := by
  have HE := Lib.hid he
  have bd0 := build0
  have qk4 : ∀ W, (Op.equalIn 10000 23 (.agg (cl k4)) (.agg #[.int .i64 0, .int .i64 0, .int .i64 0, .int .i64 1, .int .i64 0, .int .i64 (-1)])).run Tryd.prog W = .ok true W := eq_self k4
  have qk6 : ∀ W, (Op.equalIn 10000 23 (.agg (cl k6)) (.agg #[.int .i64 0, .int .i64 3, .int .i64 (-3), .int .i64 0, .int .i64 0, .int .i64 0])).run Tryd.prog W = .ok true W := eq_self k6
  have qzf : ∀ W, (Op.equalIn 10000 23 (.agg (cl zf)) (.agg #[.int .i64 0, .int .i64 0, .int .i64 0, .int .i64 0, .int .i64 0, .int .i64 0])).run Tryd.prog W = .ok true W := eq_self zf
  have eqs := eq_self
  have HB0 : Hid (RowKit.Below w.heap.size w w) := Lib.hid (Below.refl _ _)
  clear he
  have HI1 := Lib.hid (infoDim (zf))
  have HO1 := Lib.hid (oneDim (zf))
  go_enter Tryd.func6, Tryd.ntmps6
  go_wp2_with (fail)
  refine (text_c _ k1 _ tx_k1 (HE.out.below HB0.out)).mono ?_
  rintro e w1 ⟨rfl, hb⟩
  have B1 := Lib.hid (HB0.out.trans (hb.mono HB0.out.size))
  clear hb
  go_wp2_with (fail)
  refine (text_c _ k2 _ tx_k2 (HE.out.below B1.out)).mono ?_
  rintro e w2 ⟨rfl, hb⟩
  have B2 := Lib.hid (B1.out.trans (hb.mono B1.out.size))
  clear hb
  go_wp2_with (fail)
  refine (text_c _ k3 _ tx_k3 (HE.out.below B2.out)).mono ?_
  rintro e w3 ⟨rfl, hb⟩
  have B3 := Lib.hid (B2.out.trans (hb.mono B2.out.size))
  clear hb
  go_wp2_with (fail)
  refine (read_c _ k4 _ tx_k4 (by decide) (by decide) (HE.out.below B3.out)).mono ?_
  rintro e w4 ⟨rfl, hb⟩
  have B4 := Lib.hid (B3.out.trans (hb.mono B3.out.size))
  clear hb
  have HI2 := Lib.hid (infoDim (k4))
  have HO2 := Lib.hid (oneDim (k4))
  have Z4 := Lib.hid (zf_at w4)
  have N4 := Lib.hid (Z4.out.row (g := k4))
  have C4 := Lib.hid (below_row (B4.out.alloc B4.out.size (.cells #[.int .i64 0, .int .i64 0, .int .i64 0, .int .i64 0, .int .i64 0, .int .i64 0] 23)) (b := w4.heap.size) B4.out.size (cl (k4)))
  go_wp2_with (first | refine wpList_store_row rfl _ _ _ rfl _ _ rfl rfl _ _ Z4.out HI2.out rfl HO2.out ?_ | refine load_rowG rfl _ _ rfl _ rfl _ _ _ _ N4.out Tryd.underlying23 rfl HI2.out ?_)
  refine (read_n _ [115, 42, 103] rd_sg (by decide) (HE.out.below C4.out)).mono ?_
  rintro e w5 ⟨rfl, hb⟩
  have X5_0 := Lib.hid (N4.out.below0 hb)
  have B5 := Lib.hid (C4.out.trans (hb.mono C4.out.size))
  clear hb
  have Z5 := Lib.hid (zf_at w5)
  have Y5_0 := Lib.hid ((X5_0.out.alloc (.cells #[.int .i64 0, .int .i64 0, .int .i64 0, .int .i64 0, .int .i64 0, .int .i64 0] 23)).oth (b' := w5.heap.size) (by have := X5_0.out.lt; omega) (cl (zf)))
  have N5 := Lib.hid (Z5.out.row (g := zf))
  have C5 := Lib.hid (below_row (B5.out.alloc B5.out.size (.cells #[.int .i64 0, .int .i64 0, .int .i64 0, .int .i64 0, .int .i64 0, .int .i64 0] 23)) (b := w5.heap.size) B5.out.size (cl (zf)))
  go_wp2_with (first | refine wpList_store_row rfl _ _ _ rfl _ _ rfl rfl _ _ Z5.out HI1.out rfl HO1.out ?_ | refine load_rowG rfl _ _ rfl _ rfl _ _ _ _ Y5_0.out Tryd.underlying23 rfl HI2.out ?_)
  refine (read_n _ [103, 49] rd_g1 (by decide) (HE.out.below C5.out)).mono ?_
  rintro e w6 ⟨rfl, hb⟩
  have X6_0 := Lib.hid (Y5_0.out.below0 hb)
  have B6 := Lib.hid (C5.out.trans (hb.mono C5.out.size))
  clear hb
  have Z6 := Lib.hid (zf_at w6)
  have Y6_0 := Lib.hid ((X6_0.out.alloc (.cells #[.int .i64 0, .int .i64 0, .int .i64 0, .int .i64 0, .int .i64 0, .int .i64 0] 23)).oth (b' := w6.heap.size) (by have := X6_0.out.lt; omega) (cl (zf)))
  have N6 := Lib.hid (Z6.out.row (g := zf))
  have C6 := Lib.hid (below_row (B6.out.alloc B6.out.size (.cells #[.int .i64 0, .int .i64 0, .int .i64 0, .int .i64 0, .int .i64 0, .int .i64 0] 23)) (b := w6.heap.size) B6.out.size (cl (zf)))
  go_wp2_with (first | refine wpList_store_row rfl _ _ _ rfl _ _ rfl rfl _ _ Z6.out HI1.out rfl HO1.out ?_ | refine load_rowG rfl _ _ rfl _ rfl _ _ _ _ Y6_0.out Tryd.underlying23 rfl HI2.out ?_)
  refine (read_c _ zf _ tx_zf (by decide) (by decide) (HE.out.below C6.out)).mono ?_
  rintro e w7 ⟨rfl, hb⟩
  have X7_0 := Lib.hid (Y6_0.out.below0 hb)
  have B7 := Lib.hid (C6.out.trans (hb.mono C6.out.size))
  clear hb
  have Z7 := Lib.hid (zf_at w7)
  have Y7_0 := Lib.hid ((X7_0.out.alloc (.cells #[.int .i64 0, .int .i64 0, .int .i64 0, .int .i64 0, .int .i64 0, .int .i64 0] 23)).oth (b' := w7.heap.size) (by have := X7_0.out.lt; omega) (cl (zf)))
  have N7 := Lib.hid (Z7.out.row (g := zf))
  have C7 := Lib.hid (below_row (B7.out.alloc B7.out.size (.cells #[.int .i64 0, .int .i64 0, .int .i64 0, .int .i64 0, .int .i64 0, .int .i64 0] 23)) (b := w7.heap.size) B7.out.size (cl (zf)))
  go_wp2_with (first | refine wpList_store_row rfl _ _ _ rfl _ _ rfl rfl _ _ Z7.out HI1.out rfl HO1.out ?_ | refine load_rowG rfl _ _ rfl _ rfl _ _ _ _ Y7_0.out Tryd.underlying23 rfl HI2.out ?_ | refine load_rowG rfl _ _ rfl _ rfl _ _ _ _ N7.out Tryd.underlying23 rfl HI1.out ?_)
  refine (pow_c _ k5 k6 3 0 pow_k5_3).mono ?_
  rintro e w8 ⟨rfl, hb⟩
  have X8_0 := Lib.hid (Y7_0.out.below0 hb)
  have X8_1 := Lib.hid (N7.out.below0 hb)
  have B8 := Lib.hid (C7.out.trans (hb.mono C7.out.size))
  clear hb
  have HI3 := Lib.hid (infoDim (k6))
  have HO3 := Lib.hid (oneDim (k6))
  have Z8 := Lib.hid (zf_at w8)
  have Y8_0 := Lib.hid ((X8_0.out.alloc (.cells #[.int .i64 0, .int .i64 0, .int .i64 0, .int .i64 0, .int .i64 0, .int .i64 0] 23)).oth (b' := w8.heap.size) (by have := X8_0.out.lt; omega) (cl (k6)))
  have Y8_1 := Lib.hid ((X8_1.out.alloc (.cells #[.int .i64 0, .int .i64 0, .int .i64 0, .int .i64 0, .int .i64 0, .int .i64 0] 23)).oth (b' := w8.heap.size) (by have := X8_1.out.lt; omega) (cl (k6)))
  have N8 := Lib.hid (Z8.out.row (g := k6))
  have C8 := Lib.hid (below_row (B8.out.alloc B8.out.size (.cells #[.int .i64 0, .int .i64 0, .int .i64 0, .int .i64 0, .int .i64 0, .int .i64 0] 23)) (b := w8.heap.size) B8.out.size (cl (k6)))
  go_wp2_with (first | refine wpList_store_row rfl _ _ _ rfl _ _ rfl rfl _ _ Z8.out HI3.out rfl HO3.out ?_ | refine load_rowG rfl _ _ rfl _ rfl _ _ _ _ Y8_0.out Tryd.underlying23 rfl HI2.out ?_ | refine load_rowG rfl _ _ rfl _ rfl _ _ _ _ Y8_1.out Tryd.underlying23 rfl HI1.out ?_ | refine load_rowG rfl _ _ rfl _ rfl _ _ _ _ N8.out Tryd.underlying23 rfl HI3.out ?_)
  refine (pow_c _ k5 zf 10 3 pow_k5_10).mono ?_
  rintro e w9 ⟨rfl, hb⟩
  have X9_0 := Lib.hid (Y8_0.out.below0 hb)
  have X9_1 := Lib.hid (Y8_1.out.below0 hb)
  have X9_2 := Lib.hid (N8.out.below0 hb)
  have B9 := Lib.hid (C8.out.trans (hb.mono C8.out.size))
  clear hb
  have Z9 := Lib.hid (zf_at w9)
  have Y9_0 := Lib.hid ((X9_0.out.alloc (.cells #[.int .i64 0, .int .i64 0, .int .i64 0, .int .i64 0, .int .i64 0, .int .i64 0] 23)).oth (b' := w9.heap.size) (by have := X9_0.out.lt; omega) (cl (zf)))
  have Y9_1 := Lib.hid ((X9_1.out.alloc (.cells #[.int .i64 0, .int .i64 0, .int .i64 0, .int .i64 0, .int .i64 0, .int .i64 0] 23)).oth (b' := w9.heap.size) (by have := X9_1.out.lt; omega) (cl (zf)))
  have Y9_2 := Lib.hid ((X9_2.out.alloc (.cells #[.int .i64 0, .int .i64 0, .int .i64 0, .int .i64 0, .int .i64 0, .int .i64 0] 23)).oth (b' := w9.heap.size) (by have := X9_2.out.lt; omega) (cl (zf)))
  have N9 := Lib.hid (Z9.out.row (g := zf))
  have C9 := Lib.hid (below_row (B9.out.alloc B9.out.size (.cells #[.int .i64 0, .int .i64 0, .int .i64 0, .int .i64 0, .int .i64 0, .int .i64 0] 23)) (b := w9.heap.size) B9.out.size (cl (zf)))
  go_wp2_with (first | refine wpList_store_row rfl _ _ _ rfl _ _ rfl rfl _ _ Z9.out HI1.out rfl HO1.out ?_ | refine load_rowG rfl _ _ rfl _ rfl _ _ _ _ Y9_0.out Tryd.underlying23 rfl HI2.out ?_ | refine load_rowG rfl _ _ rfl _ rfl _ _ _ _ Y9_1.out Tryd.underlying23 rfl HI1.out ?_ | refine load_rowG rfl _ _ rfl _ rfl _ _ _ _ Y9_2.out Tryd.underlying23 rfl HI3.out ?_)
  refine (pow_c _ zf zf (-1000) 0 pow_zf).mono ?_
  rintro e w10 ⟨rfl, hb⟩
  have X10_0 := Lib.hid (Y9_0.out.below0 hb)
  have X10_1 := Lib.hid (Y9_1.out.below0 hb)
  have X10_2 := Lib.hid (Y9_2.out.below0 hb)
  have B10 := Lib.hid (C9.out.trans (hb.mono C9.out.size))
  clear hb
  have Z10 := Lib.hid (zf_at w10)
  have Y10_0 := Lib.hid ((X10_0.out.alloc (.cells #[.int .i64 0, .int .i64 0, .int .i64 0, .int .i64 0, .int .i64 0, .int .i64 0] 23)).oth (b' := w10.heap.size) (by have := X10_0.out.lt; omega) (cl (zf)))
  have Y10_1 := Lib.hid ((X10_1.out.alloc (.cells #[.int .i64 0, .int .i64 0, .int .i64 0, .int .i64 0, .int .i64 0, .int .i64 0] 23)).oth (b' := w10.heap.size) (by have := X10_1.out.lt; omega) (cl (zf)))
  have Y10_2 := Lib.hid ((X10_2.out.alloc (.cells #[.int .i64 0, .int .i64 0, .int .i64 0, .int .i64 0, .int .i64 0, .int .i64 0] 23)).oth (b' := w10.heap.size) (by have := X10_2.out.lt; omega) (cl (zf)))
  have N10 := Lib.hid (Z10.out.row (g := zf))
  have C10 := Lib.hid (below_row (B10.out.alloc B10.out.size (.cells #[.int .i64 0, .int .i64 0, .int .i64 0, .int .i64 0, .int .i64 0, .int .i64 0] 23)) (b := w10.heap.size) B10.out.size (cl (zf)))
  go_wp2_with (first | refine wpList_store_row rfl _ _ _ rfl _ _ rfl rfl _ _ Z10.out HI1.out rfl HO1.out ?_ | refine load_rowG rfl _ _ rfl _ rfl _ _ _ _ Y10_0.out Tryd.underlying23 rfl HI2.out ?_ | refine load_rowG rfl _ _ rfl _ rfl _ _ _ _ Y10_1.out Tryd.underlying23 rfl HI1.out ?_ | refine load_rowG rfl _ _ rfl _ rfl _ _ _ _ Y10_2.out Tryd.underlying23 rfl HI3.out ?_ | refine load_rowG rfl _ _ rfl _ rfl _ _ _ _ N10.out Tryd.underlying23 rfl HI1.out ?_)
  refine (div_c _ k7 k7 zf 0 div_k7).mono ?_
  rintro e w11 ⟨rfl, hb⟩
  have X11_0 := Lib.hid (Y10_0.out.below0 hb)
  have X11_1 := Lib.hid (Y10_1.out.below0 hb)
  have X11_2 := Lib.hid (Y10_2.out.below0 hb)
  have X11_3 := Lib.hid (N10.out.below0 hb)
  have B11 := Lib.hid (C10.out.trans (hb.mono C10.out.size))
  clear hb
  have Z11 := Lib.hid (zf_at w11)
  have Y11_0 := Lib.hid ((X11_0.out.alloc (.cells #[.int .i64 0, .int .i64 0, .int .i64 0, .int .i64 0, .int .i64 0, .int .i64 0] 23)).oth (b' := w11.heap.size) (by have := X11_0.out.lt; omega) (cl (zf)))
  have Y11_1 := Lib.hid ((X11_1.out.alloc (.cells #[.int .i64 0, .int .i64 0, .int .i64 0, .int .i64 0, .int .i64 0, .int .i64 0] 23)).oth (b' := w11.heap.size) (by have := X11_1.out.lt; omega) (cl (zf)))
  have Y11_2 := Lib.hid ((X11_2.out.alloc (.cells #[.int .i64 0, .int .i64 0, .int .i64 0, .int .i64 0, .int .i64 0, .int .i64 0] 23)).oth (b' := w11.heap.size) (by have := X11_2.out.lt; omega) (cl (zf)))
  have Y11_3 := Lib.hid ((X11_3.out.alloc (.cells #[.int .i64 0, .int .i64 0, .int .i64 0, .int .i64 0, .int .i64 0, .int .i64 0] 23)).oth (b' := w11.heap.size) (by have := X11_3.out.lt; omega) (cl (zf)))
  have N11 := Lib.hid (Z11.out.row (g := zf))
  have C11 := Lib.hid (below_row (B11.out.alloc B11.out.size (.cells #[.int .i64 0, .int .i64 0, .int .i64 0, .int .i64 0, .int .i64 0, .int .i64 0] 23)) (b := w11.heap.size) B11.out.size (cl (zf)))
  go_wp2_with (first | refine wpList_store_row rfl _ _ _ rfl _ _ rfl rfl _ _ Z11.out HI1.out rfl HO1.out ?_ | refine load_rowG rfl _ _ rfl _ rfl _ _ _ _ Y11_0.out Tryd.underlying23 rfl HI2.out ?_ | refine load_rowG rfl _ _ rfl _ rfl _ _ _ _ Y11_1.out Tryd.underlying23 rfl HI1.out ?_ | refine load_rowG rfl _ _ rfl _ rfl _ _ _ _ Y11_2.out Tryd.underlying23 rfl HI3.out ?_ | refine load_rowG rfl _ _ rfl _ rfl _ _ _ _ Y11_3.out Tryd.underlying23 rfl HI1.out ?_ | refine load_rowG rfl _ _ rfl _ rfl _ _ _ _ N11.out Tryd.underlying23 rfl HI1.out ?_)
  go_ret
  exact ⟨rfl, C11.out⟩
end Go.Proofs.YtmoapjhobhdjoaaDoor.Dm
