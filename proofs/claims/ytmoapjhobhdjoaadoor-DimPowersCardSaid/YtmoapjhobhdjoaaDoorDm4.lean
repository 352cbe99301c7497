/- The contracts of Mul and Div at any arguments, and of Pow. -/
import Derived.ChangeKeysEq
import Derived.Test.YtmoapjhobhdjoaaDoorDm3
set_option maxRecDepth 100000
namespace Go.Proofs.YtmoapjhobhdjoaaDoor.Dm
open Go.RowKit

theorem cells3 : Tryd.prog.cellsOf 3 = 1 := by kernel_rfl
theorem part_at (f : Nat → Int) (k : Nat) (h : k < 6) (W : World) : (part 3 (cl f) (k * 1)).run Tryd.prog W = .ok (.int .i64 (f k)) W := by
  rcases lt6 h with rfl | rfl | rfl | rfl | rfl | rfl <;> rfl
theorem eq_int (d : Nat) (a b : Int) (W : World) : (Op.equalIn (d + 1) 3 (.int .i64 a) (.int .i64 b)).run Tryd.prog W = .ok (a == b) W := by
  simp [Op.equalIn, run_underlying Tryd.underlying3]
theorem eq_items (d : Nat) (f g : Nat → Int) (W : World) : ∀ L : List Nat, (∀ j ∈ L, j < 6) → (Op.eqItems (d + 1) 3 1 (cl f) (cl g) L).run Tryd.prog W = .ok (L.all (fun j => f j == g j)) W
  | [], _ => by simp [Op.eqItems]
  | j :: L, h => by
    have ih := eq_items d f g W L (fun i hi => h i (by simp [hi]))
    simp only [Op.eqItems, Sem.run_bind, part_at _ j (h j (by simp)), Result.andThen_ok, eq_int]
    by_cases e : f j = g j
    · have : (f j == g j) = true := by simpa using e
      rw [this]
      simp only [Bool.not_true, Bool.false_eq_true, if_false, ih]
      simp [e]
    · have : (f j == g j) = false := by simpa using e
      rw [this]
      simp [e]
theorem infoInt : ∃ i, Tryd.prog.info? 3 = some i := by
  cases h : Tryd.prog.info? 3 with
  | some i => exact ⟨i, rfl⟩
  | none => exact absurd (show (Tryd.prog.info? 3).isSome = true by kernel_rfl) (by rw [h]; simp)
/-- Two dimensions are the same. -/
def eqB (f g : Nat → Int) : Bool := (List.range 6).all (fun j => f j == g j)
theorem eqB_iff (f g : Nat → Int) : eqB f g = true ↔ ∀ i, i < 6 → f i = g i := by simp only [eqB, List.all_eq_true, List.mem_range, beq_iff_eq]
theorem eq_dim (f g : Nat → Int) (W : World) : (Op.equalIn 10000 23 (.agg (cl f)) (.agg (cl g))).run Tryd.prog W = .ok (eqB f g) W := by
  obtain ⟨i, hi⟩ := infoInt
  rw [run_equalIn_array (w := W) 9999 _ _ Tryd.underlying23 hi, cells3, eq_items 9998 f g W _ (fun j hj => List.mem_range.1 hj)]
  rfl

def mulR (f g : Nat → Int) : Value := if ok f && ok g then inR (sumF f g) else DE zf 1
def divR (f g : Nat → Int) : Value := if ok f && ok g then inR (difF f g) else DE zf 1
def mulF (f : Nat → Int) (n : Int) : Nat → Int := fun i => f i * n
def powR (f : Nat → Int) (n : Int) : Value := if ok f then inR (mulF f n) else DE zf 1

section
variable (f g : Nat → Int) (w : World)
theorem one_at (f : Nat → Int) (w : World) : At (w.alloc (.cells (cl f) 23)) w.heap.size f := At.fresh w f
theorem three_at : At (((w.alloc (.cells (cl f) 23)).alloc (.cells (cl g) 23)).alloc (.cells (cl zf) 23)) w.heap.size f ∧
    At (((w.alloc (.cells (cl f) 23)).alloc (.cells (cl g) 23)).alloc (.cells (cl zf) 23)) (w.heap.size + 1) g ∧
    At (((w.alloc (.cells (cl f) 23)).alloc (.cells (cl g) 23)).alloc (.cells (cl zf) 23)) (w.heap.size + 1 + 1) zf ∧
    RowKit.Below w.heap.size w (((w.alloc (.cells (cl f) 23)).alloc (.cells (cl g) 23)).alloc (.cells (cl zf) 23)) := by
  refine ⟨((At.fresh w f).alloc _).alloc _, ?_, ?_, (((Below.refl _ _).alloc (Nat.le_refl _) _).alloc (by simp) _).alloc (by simp; omega) _⟩
  · have := (At.fresh (w.alloc (.cells (cl f) 23)) g).alloc (.cells (cl zf) 23)
    simpa using this
  · have := At.fresh ((w.alloc (.cells (cl f) 23)).alloc (.cells (cl g) 23)) zf
    simpa using this
theorem two_at : At ((w.alloc (.cells (cl f) 23)).alloc (.cells (cl zf) 23)) w.heap.size f ∧
    At ((w.alloc (.cells (cl f) 23)).alloc (.cells (cl zf) 23)) (w.heap.size + 1) zf ∧
    RowKit.Below w.heap.size w ((w.alloc (.cells (cl f) 23)).alloc (.cells (cl zf) 23)) := by
  refine ⟨(At.fresh w f).alloc _, ?_, ((Below.refl _ _).alloc (Nat.le_refl _) _).alloc (by simp) _⟩
  have := At.fresh (w.alloc (.cells (cl f) 23)) zf
  simpa using this
end

set_option maxHeartbeats 4000000 in
theorem mul_bad1 (f g : Nat → Int) (hf : ok f = false) (w : World) : Calls Tryd.prog 10 #[.agg (cl f), .agg (cl g)] w (Gives (DE zf 1) w) := by
  have HR := Lib.hid (fun w => rightG f w)
  rw [hf] at HR
  obtain ⟨a1, a2, a3, hB⟩ := three_at f g w
  have HB := Lib.hid hB
  have H1 := Lib.hid a1
  have H2 := Lib.hid a2
  have H3 := Lib.hid a3
  have HF := Lib.hid (infoDim f)
  have HZI := Lib.hid (infoDim zf)
  have HZO := Lib.hid (oneDim zf)
  have hbd := build0
  clear a1 a2 a3 hf hB
  go_enter Tryd.func10, Tryd.ntmps10
  go_wp2_with (refine wpList_load_row rfl _ _ rfl _ rfl _ _ _ _ H1.out Tryd.underlying23 rfl HF.out ?_)
  refine (HR.out _).mono ?_
  rintro e w1 ⟨rfl, hb1⟩
  have G2 := Lib.hid (H2.out.below0 hb1)
  have G3 := Lib.hid (H3.out.below0 hb1)
  have HB1 := Lib.hid (HB.out.trans (hb1.mono HB.out.size))
  clear hb1 H1 H2 H3
  go_wp2_with (refine wpList_store_row rfl _ _ _ rfl _ (cl zf) rfl rfl _ _ G3.out HZI.out rfl HZO.out ?_)
  have H5 := Lib.hid (G3.out.row (g := zf))
  refine bodyPost_ret (ret_cell rfl _ _ _ _ rfl H5.out) rfl ⟨rfl, below_row HB1.out (by omega) _⟩

set_option maxHeartbeats 4000000 in
theorem mul_bad2 (f g : Nat → Int) (hf : ok f = true) (hg : ok g = false) (w : World) : Calls Tryd.prog 10 #[.agg (cl f), .agg (cl g)] w (Gives (DE zf 1) w) := by
  have HR := Lib.hid (fun w => rightG f w)
  rw [hf] at HR
  have HR2 := Lib.hid (fun w => rightG g w)
  rw [hg] at HR2
  obtain ⟨a1, a2, a3, hB⟩ := three_at f g w
  have HB := Lib.hid hB
  have H1 := Lib.hid a1
  have H2 := Lib.hid a2
  have H3 := Lib.hid a3
  have HF := Lib.hid (infoDim f)
  have HZI := Lib.hid (infoDim zf)
  have HZO := Lib.hid (oneDim zf)
  have hbd := build0
  clear a1 a2 a3 hf hB
  clear hg
  go_enter Tryd.func10, Tryd.ntmps10
  go_wp2_with (refine wpList_load_row rfl _ _ rfl _ rfl _ _ _ _ H1.out Tryd.underlying23 rfl HF.out ?_)
  refine (HR.out _).mono ?_
  rintro e w1 ⟨rfl, hb1⟩
  have G2 := Lib.hid (H2.out.below0 hb1)
  have G3 := Lib.hid (H3.out.below0 hb1)
  have HB1 := Lib.hid (HB.out.trans (hb1.mono HB.out.size))
  clear hb1 H1 H2 H3
  have c0 := G2.out.cell 0 (by omega)
  have c1 := G2.out.cell 1 (by omega)
  have c2 := G2.out.cell 2 (by omega)
  have c3 := G2.out.cell 3 (by omega)
  have c4 := G2.out.cell 4 (by omega)
  have c5 := G2.out.cell 5 (by omega)
  go_wp2_with fail
  clear c0 c1 c2 c3 c4 c5
  refine (HR2.out _).mono ?_
  rintro e w2 ⟨rfl, hb2⟩
  have K3 := Lib.hid (G3.out.below0 hb2)
  have HB2 := Lib.hid (HB1.out.trans (hb2.mono HB1.out.size))
  clear hb2 G2 G3
  go_wp2_with (refine wpList_store_row rfl _ _ _ rfl _ (cl zf) rfl rfl _ _ K3.out HZI.out rfl HZO.out ?_)
  have H5 := Lib.hid (K3.out.row (g := zf))
  refine bodyPost_ret (ret_cell rfl _ _ _ _ rfl H5.out) rfl ⟨rfl, below_row HB2.out (by omega) _⟩

theorem mul_any (f g : Nat → Int) (w : World) : Calls Tryd.prog 10 #[.agg (cl f), .agg (cl g)] w (Gives (mulR f g) w) := by
  unfold mulR
  rcases hf : ok f with _ | _
  · exact mul_bad1 f g hf w
  · rcases hg : ok g with _ | _
    · exact mul_bad2 f g hf hg w
    · exact mul_good f g hf hg w

set_option maxHeartbeats 4000000 in
theorem div_bad1 (f g : Nat → Int) (hf : ok f = false) (w : World) : Calls Tryd.prog 11 #[.agg (cl f), .agg (cl g)] w (Gives (DE zf 1) w) := by
  have HR := Lib.hid (fun w => rightG f w)
  rw [hf] at HR
  obtain ⟨a1, a2, a3, hB⟩ := three_at f g w
  have HB := Lib.hid hB
  have H1 := Lib.hid a1
  have H2 := Lib.hid a2
  have H3 := Lib.hid a3
  have HF := Lib.hid (infoDim f)
  have HZI := Lib.hid (infoDim zf)
  have HZO := Lib.hid (oneDim zf)
  have hbd := build0
  clear a1 a2 a3 hf hB
  go_enter Tryd.func11, Tryd.ntmps11
  go_wp2_with (refine wpList_load_row rfl _ _ rfl _ rfl _ _ _ _ H1.out Tryd.underlying23 rfl HF.out ?_)
  refine (HR.out _).mono ?_
  rintro e w1 ⟨rfl, hb1⟩
  have G2 := Lib.hid (H2.out.below0 hb1)
  have G3 := Lib.hid (H3.out.below0 hb1)
  have HB1 := Lib.hid (HB.out.trans (hb1.mono HB.out.size))
  clear hb1 H1 H2 H3
  go_wp2_with (refine wpList_store_row rfl _ _ _ rfl _ (cl zf) rfl rfl _ _ G3.out HZI.out rfl HZO.out ?_)
  have H5 := Lib.hid (G3.out.row (g := zf))
  refine bodyPost_ret (ret_cell rfl _ _ _ _ rfl H5.out) rfl ⟨rfl, below_row HB1.out (by omega) _⟩

set_option maxHeartbeats 4000000 in
theorem div_bad2 (f g : Nat → Int) (hf : ok f = true) (hg : ok g = false) (w : World) : Calls Tryd.prog 11 #[.agg (cl f), .agg (cl g)] w (Gives (DE zf 1) w) := by
  have HR := Lib.hid (fun w => rightG f w)
  rw [hf] at HR
  have HR2 := Lib.hid (fun w => rightG g w)
  rw [hg] at HR2
  obtain ⟨a1, a2, a3, hB⟩ := three_at f g w
  have HB := Lib.hid hB
  have H1 := Lib.hid a1
  have H2 := Lib.hid a2
  have H3 := Lib.hid a3
  have HF := Lib.hid (infoDim f)
  have HZI := Lib.hid (infoDim zf)
  have HZO := Lib.hid (oneDim zf)
  have hbd := build0
  clear a1 a2 a3 hf hB
  clear hg
  go_enter Tryd.func11, Tryd.ntmps11
  go_wp2_with (refine wpList_load_row rfl _ _ rfl _ rfl _ _ _ _ H1.out Tryd.underlying23 rfl HF.out ?_)
  refine (HR.out _).mono ?_
  rintro e w1 ⟨rfl, hb1⟩
  have G2 := Lib.hid (H2.out.below0 hb1)
  have G3 := Lib.hid (H3.out.below0 hb1)
  have HB1 := Lib.hid (HB.out.trans (hb1.mono HB.out.size))
  clear hb1 H1 H2 H3
  have c0 := G2.out.cell 0 (by omega)
  have c1 := G2.out.cell 1 (by omega)
  have c2 := G2.out.cell 2 (by omega)
  have c3 := G2.out.cell 3 (by omega)
  have c4 := G2.out.cell 4 (by omega)
  have c5 := G2.out.cell 5 (by omega)
  go_wp2_with fail
  clear c0 c1 c2 c3 c4 c5
  refine (HR2.out _).mono ?_
  rintro e w2 ⟨rfl, hb2⟩
  have K3 := Lib.hid (G3.out.below0 hb2)
  have HB2 := Lib.hid (HB1.out.trans (hb2.mono HB1.out.size))
  clear hb2 G2 G3
  go_wp2_with (refine wpList_store_row rfl _ _ _ rfl _ (cl zf) rfl rfl _ _ K3.out HZI.out rfl HZO.out ?_)
  have H5 := Lib.hid (K3.out.row (g := zf))
  refine bodyPost_ret (ret_cell rfl _ _ _ _ rfl H5.out) rfl ⟨rfl, below_row HB2.out (by omega) _⟩

theorem div_any (f g : Nat → Int) (w : World) : Calls Tryd.prog 11 #[.agg (cl f), .agg (cl g)] w (Gives (divR f g) w) := by
  unfold divR
  rcases hf : ok f with _ | _
  · exact div_bad1 f g hf w
  · rcases hg : ok g with _ | _
    · exact div_bad2 f g hf hg w
    · exact div_good f g hf hg w

set_option maxHeartbeats 4000000 in
theorem pow_bad (f : Nat → Int) (n : Int) (hf : ok f = false) (w : World) : Calls Tryd.prog 12 #[.agg (cl f), .int .i64 n] w (Gives (DE zf 1) w) := by
  have HR := Lib.hid (fun w => rightG f w)
  rw [hf] at HR
  obtain ⟨a1, a3, hB⟩ := two_at f w
  have HB := Lib.hid hB
  have H1 := Lib.hid a1
  have H3 := Lib.hid a3
  have HF := Lib.hid (infoDim f)
  have HZI := Lib.hid (infoDim zf)
  have HZO := Lib.hid (oneDim zf)
  have hbd := build0
  clear a1 a3 hf hB
  go_enter Tryd.func12, Tryd.ntmps12
  go_wp2_with (refine wpList_load_row rfl _ _ rfl _ rfl _ _ _ _ H1.out Tryd.underlying23 rfl HF.out ?_)
  refine (HR.out _).mono ?_
  rintro e w1 ⟨rfl, hb1⟩
  have G3 := Lib.hid (H3.out.below0 hb1)
  have HB1 := Lib.hid (HB.out.trans (hb1.mono HB.out.size))
  clear hb1 H1 H3
  go_wp2_with (refine wpList_store_row rfl _ _ _ rfl _ (cl zf) rfl rfl _ _ G3.out HZI.out rfl HZO.out ?_)
  have H5 := Lib.hid (G3.out.row (g := zf))
  refine bodyPost_ret (ret_cell rfl _ _ _ _ rfl H5.out) rfl ⟨rfl, below_row HB1.out (by omega) _⟩

theorem mul_bd {x n : Int} (hx : -9 ≤ x ∧ x ≤ 9) (hn : -9 ≤ n ∧ n ≤ 9) : -81 ≤ x * n ∧ x * n ≤ 81 := by
  have : n = -9 ∨ n = -8 ∨ n = -7 ∨ n = -6 ∨ n = -5 ∨ n = -4 ∨ n = -3 ∨ n = -2 ∨ n = -1 ∨ n = 0 ∨ n = 1 ∨ n = 2 ∨ n = 3 ∨ n = 4 ∨ n = 5 ∨ n = 6 ∨ n = 7 ∨ n = 8 ∨ n = 9 := by omega
  rcases this with rfl | rfl | rfl | rfl | rfl | rfl | rfl | rfl | rfl | rfl | rfl | rfl | rfl | rfl | rfl | rfl | rfl | rfl | rfl <;> omega
set_option maxHeartbeats 4000000 in
theorem pow_zero (f : Nat → Int) (n : Int) (hf : ok f = true) (hz : ∀ i, i < 6 → f i = 0) (w : World) : Calls Tryd.prog 12 #[.agg (cl f), .int .i64 n] w (Gives (DE zf 0) w) := by
  have HR := Lib.hid (fun w => rightG f w)
  rw [hf] at HR
  obtain ⟨a1, a3, hB⟩ := two_at f w
  have HB := Lib.hid hB
  have H1 := Lib.hid a1
  have H3 := Lib.hid a3
  have HF := Lib.hid (infoDim f)
  have HFO := Lib.hid (oneDim f)
  have HZI := Lib.hid (infoDim zf)
  have HZO := Lib.hid (oneDim zf)
  have heq := eq_dim f zf
  rw [show eqB f zf = true by rw [eqB_iff]; exact hz] at heq
  have hbd := build0
  have HV : Hid (DE zf 0 = DE f 0) := Lib.hid (by have e : cl zf = cl f := cl_eq (fun i hi => (hz i hi).symm); unfold DE; rw [e])
  clear hf hz
  clear a1 a3 hB
  go_enter Tryd.func12, Tryd.ntmps12
  go_wp2_with (refine wpList_load_row rfl _ _ rfl _ rfl _ _ _ _ H1.out Tryd.underlying23 rfl HF.out ?_)
  refine (HR.out _).mono ?_
  rintro e w1 ⟨rfl, hb1⟩
  have G1 := Lib.hid (H1.out.below0 hb1)
  have G3 := Lib.hid (H3.out.below0 hb1)
  have HB1 := Lib.hid (HB.out.trans (hb1.mono HB.out.size))
  clear hb1 H1 H3
  go_wp2_with (first | refine wpList_load_row rfl _ _ rfl _ rfl _ _ _ _ G1.out Tryd.underlying23 rfl HF.out ?_ | refine wpList_store_row rfl _ _ _ rfl _ _ rfl rfl _ _ G3.out HF.out rfl HFO.out ?_)
  have H5 := Lib.hid (G3.out.row (g := f))
  refine bodyPost_ret (ret_cell rfl _ _ _ _ rfl H5.out) rfl ⟨by rw [HV.out]; rfl, below_row HB1.out (by omega) _⟩

set_option maxHeartbeats 4000000 in
theorem pow_low (f : Nat → Int) (n : Int) (hf : ok f = true) (hz : ¬ ∀ i, i < 6 → f i = 0) (hn : n < -9) (w : World) : Calls Tryd.prog 12 #[.agg (cl f), .int .i64 n] w (Gives (DE zf 3) w) := by
  have HR := Lib.hid (fun w => rightG f w)
  rw [hf] at HR
  obtain ⟨a1, a3, hB⟩ := two_at f w
  have HB := Lib.hid hB
  have H1 := Lib.hid a1
  have H3 := Lib.hid a3
  have HF := Lib.hid (infoDim f)
  have HFO := Lib.hid (oneDim f)
  have HZI := Lib.hid (infoDim zf)
  have HZO := Lib.hid (oneDim zf)
  have heq := eq_dim f zf
  rw [show eqB f zf = false by rw [Bool.eq_false_iff]; intro h; exact hz ((eqB_iff f zf).1 h)] at heq
  have hbd := build0
  have g1 : decide (n < -9) = true := by simpa using hn
  clear hf hz hn
  clear a1 a3 hB
  go_enter Tryd.func12, Tryd.ntmps12
  go_wp2_with (refine wpList_load_row rfl _ _ rfl _ rfl _ _ _ _ H1.out Tryd.underlying23 rfl HF.out ?_)
  refine (HR.out _).mono ?_
  rintro e w1 ⟨rfl, hb1⟩
  have G1 := Lib.hid (H1.out.below0 hb1)
  have G3 := Lib.hid (H3.out.below0 hb1)
  have HB1 := Lib.hid (HB.out.trans (hb1.mono HB.out.size))
  clear hb1 H1 H3
  go_wp2_with (first | refine wpList_load_row rfl _ _ rfl _ rfl _ _ _ _ G1.out Tryd.underlying23 rfl HF.out ?_ | refine wpList_store_row rfl _ _ _ rfl _ (cl zf) rfl rfl _ _ G3.out HZI.out rfl HZO.out ?_)
  have H5 := Lib.hid (G3.out.row (g := zf))
  refine bodyPost_ret (ret_cell rfl _ _ _ _ rfl H5.out) rfl ⟨rfl, below_row HB1.out (by omega) _⟩

set_option maxHeartbeats 4000000 in
theorem pow_high (f : Nat → Int) (n : Int) (hf : ok f = true) (hz : ¬ ∀ i, i < 6 → f i = 0) (hn : 9 < n) (w : World) : Calls Tryd.prog 12 #[.agg (cl f), .int .i64 n] w (Gives (DE zf 3) w) := by
  have HR := Lib.hid (fun w => rightG f w)
  rw [hf] at HR
  obtain ⟨a1, a3, hB⟩ := two_at f w
  have HB := Lib.hid hB
  have H1 := Lib.hid a1
  have H3 := Lib.hid a3
  have HF := Lib.hid (infoDim f)
  have HFO := Lib.hid (oneDim f)
  have HZI := Lib.hid (infoDim zf)
  have HZO := Lib.hid (oneDim zf)
  have heq := eq_dim f zf
  rw [show eqB f zf = false by rw [Bool.eq_false_iff]; intro h; exact hz ((eqB_iff f zf).1 h)] at heq
  have hbd := build0
  have g1 : decide (n < -9) = false := by simp; omega
  have g2 : decide (9 < n) = true := by simpa using hn
  clear hf hz hn
  clear a1 a3 hB
  go_enter Tryd.func12, Tryd.ntmps12
  go_wp2_with (refine wpList_load_row rfl _ _ rfl _ rfl _ _ _ _ H1.out Tryd.underlying23 rfl HF.out ?_)
  refine (HR.out _).mono ?_
  rintro e w1 ⟨rfl, hb1⟩
  have G1 := Lib.hid (H1.out.below0 hb1)
  have G3 := Lib.hid (H3.out.below0 hb1)
  have HB1 := Lib.hid (HB.out.trans (hb1.mono HB.out.size))
  clear hb1 H1 H3
  go_wp2_with (first | refine wpList_load_row rfl _ _ rfl _ rfl _ _ _ _ G1.out Tryd.underlying23 rfl HF.out ?_ | refine wpList_store_row rfl _ _ _ rfl _ (cl zf) rfl rfl _ _ G3.out HZI.out rfl HZO.out ?_)
  have H5 := Lib.hid (G3.out.row (g := zf))
  refine bodyPost_ret (ret_cell rfl _ _ _ _ rfl H5.out) rfl ⟨rfl, below_row HB1.out (by omega) _⟩

set_option maxHeartbeats 4000000 in
theorem pow_near (f : Nat → Int) (n : Int) (hf : ok f = true) (hz : ¬ ∀ i, i < 6 → f i = 0) (h1 : -9 ≤ n) (h2 : n ≤ 9) (w : World) : Calls Tryd.prog 12 #[.agg (cl f), .int .i64 n] w (Gives (inR (mulF f n)) w) := by
  have HR := Lib.hid (fun w => rightG f w)
  rw [hf] at HR
  obtain ⟨a1, a3, hB⟩ := two_at f w
  have HB := Lib.hid hB
  have H1 := Lib.hid a1
  have H3 := Lib.hid a3
  have HF := Lib.hid (infoDim f)
  have HFO := Lib.hid (oneDim f)
  have HZI := Lib.hid (infoDim zf)
  have HZO := Lib.hid (oneDim zf)
  have heq := eq_dim f zf
  rw [show eqB f zf = false by rw [Bool.eq_false_iff]; intro h; exact hz ((eqB_iff f zf).1 h)] at heq
  have hbd := build0
  have HX : Hid (∀ h, (∀ i, i < 6 → h i = mulF f n i) → ∀ w, Calls Tryd.prog 16 #[.agg (cl h)] w (Gives (inR (mulF f n)) w)) := fun h e w => by
    rw [cl_eq e]; exact inRange_any _ w
  have HFB : Hid (∀ i, i < 6 → -9 ≤ f i ∧ f i ≤ 9) := Lib.hid ((ok_iff f).1 hf)
  have g1 : decide (n < -9) = false := by simp; omega
  have g2 : decide (9 < n) = false := by simp; omega
  have HNB : Hid (-9 ≤ n ∧ n ≤ 9) := Lib.hid ⟨h1, h2⟩
  clear hf hz h1 h2
  clear a1 a3 hB
  go_enter Tryd.func12, Tryd.ntmps12
  go_wp2_with (refine wpList_load_row rfl _ _ rfl _ rfl _ _ _ _ H1.out Tryd.underlying23 rfl HF.out ?_)
  refine (HR.out _).mono ?_
  rintro e w1 ⟨rfl, hb1⟩
  have G1 := Lib.hid (H1.out.below0 hb1)
  have G3 := Lib.hid (H3.out.below0 hb1)
  have HB1 := Lib.hid (HB.out.trans (hb1.mono HB.out.size))
  clear hb1 H1 H3
  go_wp2_with (refine wpList_load_row rfl _ _ rfl _ rfl _ _ _ _ G1.out Tryd.underlying23 rfl HF.out ?_)
  go_loopw [22] (fun i wr => ∃ k : Nat, k ≤ 6 ∧ i = .int .i64 k ∧ At wr w.heap.size (partF (mulF f n) f k) ∧ At wr (w.heap.size + 1) zf ∧ RowKit.Below w.heap.size w wr) (fun i _ => 6 - (RowKit.intOf i).toNat)
  case atStart => exact ⟨0, by omega, rfl, by rw [partF_0]; exact G1.out, G3.out, HB1.out⟩
  case round =>
    obtain ⟨k, hk, rfl, hA, hZ, hBl⟩ := hrel
    have HA := Lib.hid hA
    have HZ := Lib.hid hZ
    have HBl := Lib.hid hBl
    by_cases hlt : k < 6
    · have hcell := hA.cell k hlt
      have hfro := hA.froz k
      have hia := ia_at w.heap.size k hlt
      have hlt2 : decide ((k : Int) < 6) = true := by simp; omega
      have hfb := HFB.out k hlt
      have hnb := HNB.out
      rw [partF_at] at hcell
      have HN : Hid (At (wr.setCell ⟨w.heap.size, k, none⟩ (.int .i64 (f k * n))) w.heap.size (partF (mulF f n) f (k + 1))) := Lib.hid (by
        rw [← partF_up]; exact hA.set k hlt _)
      have HZ2 : Hid (At (wr.setCell ⟨w.heap.size, k, none⟩ (.int .i64 (f k * n))) (w.heap.size + 1) zf) := Lib.hid (hZ.other (by omega) k _)
      have HB3 : Hid (RowKit.Below w.heap.size w (wr.setCell ⟨w.heap.size, k, none⟩ (.int .i64 (f k * n)))) := Lib.hid (hBl.setCell (by simp) _)
      obtain ⟨x, hx⟩ : ∃ x, f k = x := ⟨_, rfl⟩
      rw [hx] at hcell hfb HN HZ2 HB3
      have hw : IntKind.i64.wrap (x * n) = x * n := IntWalk.i64_in _ (by have := mul_bd hfb hnb; omega)
      clear hx hA hZ hBl hfb hnb
      go_wp2_with fail
      go_roundw
      case rel => exact ⟨k + 1, by omega, by go_num, HN.out, HZ2.out, HB3.out⟩
      case measure => simp [RowKit.intOf]; omega
    · obtain rfl : k = 6 := by omega
      have hlt2 : decide (((6 : Nat) : Int) < 6) = false := by decide
      have HW := Lib.hid (HX.out _ (partF_all (mulF f n) f))
      have HPI := Lib.hid (infoDim (partF (mulF f n) f 6))
      have HVI := Lib.hid (infoDim (mulF f n))
      have HVO := Lib.hid (oneDim (mulF f n))
      have HZI := Lib.hid (infoDim zf)
      have HZO := Lib.hid (oneDim zf)
      clear hA hZ hBl
      obtain ⟨P, hP⟩ : ∃ P, partF (mulF f n) f 6 = P := ⟨_, rfl⟩
      have HQ := Lib.hid (rfl : inR (mulF f n) = inR (mulF f n))
      obtain ⟨V, hV⟩ : ∃ V, mulF f n = V := ⟨_, rfl⟩
      rw [hP] at HW HA HPI
      rw [hV] at HW HVI HVO
      conv at HQ => arg 1; rhs; rw [hV]
      clear hP
      unfold inR at HW
      by_cases hok : ok V = true
      · rw [if_pos hok] at HW
        have HV := HQ.out.trans (show inR V = DE V 0 by unfold inR; rw [if_pos hok])
        replace HV := Lib.hid HV
        clear hok
        unfold DE at HW
        go_wp2_with (refine wpList_load_row rfl _ _ rfl _ rfl _ _ _ _ HA.out Tryd.underlying23 rfl HPI.out ?_)
        refine (HW.out _).mono ?_
        rintro e w3 ⟨rfl, hb3⟩
        have H4 := Lib.hid (HZ.out.below0 hb3)
        have HB4 := Lib.hid (HBl.out.trans (hb3.mono HBl.out.size))
        clear hb3
        go_wp2_with (refine wpList_store_row rfl _ _ _ rfl _ _ rfl rfl _ _ H4.out HVI.out rfl HVO.out ?_)
        have H5 := Lib.hid (H4.out.row (g := V))
        refine bodyPost_ret (ret_cell rfl _ _ _ _ rfl H5.out) rfl ⟨by rw [HV.out]; rfl, below_row HB4.out (by omega) _⟩
      · rw [if_neg hok] at HW
        have HV := HQ.out.trans (show inR V = DE zf 3 by unfold inR; rw [if_neg hok])
        replace HV := Lib.hid HV
        clear hok
        unfold DE at HW
        go_wp2_with (refine wpList_load_row rfl _ _ rfl _ rfl _ _ _ _ HA.out Tryd.underlying23 rfl HPI.out ?_)
        refine (HW.out _).mono ?_
        rintro e w3 ⟨rfl, hb3⟩
        have H4 := Lib.hid (HZ.out.below0 hb3)
        have HB4 := Lib.hid (HBl.out.trans (hb3.mono HBl.out.size))
        clear hb3
        go_wp2_with (refine wpList_store_row rfl _ _ _ rfl _ _ rfl rfl _ _ H4.out HZI.out rfl HZO.out ?_)
        have H5 := Lib.hid (H4.out.row (g := zf))
        refine bodyPost_ret (ret_cell rfl _ _ _ _ rfl H5.out) rfl ⟨by rw [HV.out]; rfl, below_row HB4.out (by omega) _⟩

theorem mul_far {x n : Int} (hx : x ≠ 0) (hn : n < -9 ∨ 9 < n) : ¬ (-9 ≤ x * n ∧ x * n ≤ 9) := by
  intro h
  have h1 : x * n = 0 ∨ 10 ≤ (x * n).natAbs := by
    rw [Int.natAbs_mul]
    have : 1 ≤ x.natAbs := by omega
    have : 10 ≤ n.natAbs := by omega
    right
    calc 10 = 1 * 10 := rfl
      _ ≤ x.natAbs * n.natAbs := Nat.mul_le_mul (by omega) (by omega)
  rcases h1 with h1 | h1
  · rcases Int.mul_eq_zero.1 h1 with h1 | h1 <;> omega
  · omega
theorem pow_any (f : Nat → Int) (n : Int) (w : World) : Calls Tryd.prog 12 #[.agg (cl f), .int .i64 n] w (Gives (powR f n) w) := by
  unfold powR
  rcases hf : ok f with _ | _
  · exact pow_bad f n hf w
  · rw [if_pos rfl]
    by_cases hz : ∀ i, i < 6 → f i = 0
    · have e : inR (mulF f n) = DE zf 0 := by
        rw [inR_eq (g := zf) (fun i hi => by unfold mulF zf; rw [hz i hi, Int.zero_mul])]; rfl
      rw [e]; exact pow_zero f n hf hz w
    · have e (hn : n < -9 ∨ 9 < n) : inR (mulF f n) = DE zf 3 := by
        unfold inR
        rw [if_neg]
        intro h
        apply hz
        intro i hi
        have h1 := (ok_iff _).1 h i hi
        by_cases h0 : f i = 0
        · exact h0
        · exact absurd h1 (mul_far h0 hn)
      by_cases h1 : n < -9
      · rw [e (.inl h1)]; exact pow_low f n hf hz h1 w
      · by_cases h2 : 9 < n
        · rw [e (.inr h2)]; exact pow_high f n hf hz h2 w
        · exact pow_near f n hf hz (by omega) (by omega) w
end Go.Proofs.YtmoapjhobhdjoaaDoor.Dm
