/- The contracts of Mul and Div at any arguments, and of Pow. -/
import Derived.ChangeKeysEq
import Derived.Test.YtmhdhabgdlefjaaGreatDoorPTells20
set_option maxRecDepth 100000
namespace Go.Proofs.YtmhdhabgdlefjaaGreatDoor.Dm
open Go.RowKit

theorem cells3 : Tryz.prog.cellsOf 3 = 1 := by kernel_rfl
theorem part_at (f : Nat → Int) (k : Nat) (h : k < 6) (W : World) : (part 3 (cl f) (k * 1)).run Tryz.prog W = .ok (.int .i64 (f k)) W := by
  rcases lt6 h with rfl | rfl | rfl | rfl | rfl | rfl <;> rfl
theorem eq_int (d : Nat) (a b : Int) (W : World) : (Op.equalIn (d + 1) 3 (.int .i64 a) (.int .i64 b)).run Tryz.prog W = .ok (a == b) W := by
  simp [Op.equalIn, run_underlying Tryz.underlying3]
theorem eq_items (d : Nat) (f g : Nat → Int) (W : World) : ∀ L : List Nat, (∀ j ∈ L, j < 6) → (Op.eqItems (d + 1) 3 1 (cl f) (cl g) L).run Tryz.prog W = .ok (L.all (fun j => f j == g j)) W
  | [], _ => by simp [Op.eqItems]
  | j :: L, h => by
    have ih := eq_items d f g W L (fun i hi => h i (by simp [hi]))
    simp only [Op.eqItems, Sem.run_bind, part_at _ j (h j (by simp)), Result.andThen_ok, eq_int]
    by_cases e : f j = g j
    · have : (f j == g j) = true := by simpa using e
      rw [this]
      simp only [Bool.not_true, Bool.false_eq_true, if_false, ih]
      simp [e]
    · have : (f j == g j) = false := by simpa using e
      rw [this]
      simp [e]
theorem infoInt : ∃ i, Tryz.prog.info? 3 = some i := by
  cases h : Tryz.prog.info? 3 with
  | some i => exact ⟨i, rfl⟩
  | none => exact absurd (show (Tryz.prog.info? 3).isSome = true by kernel_rfl) (by rw [h]; simp)
/-- Two dimensions are the same. -/
def eqB (f g : Nat → Int) : Bool := (List.range 6).all (fun j => f j == g j)
theorem eqB_iff (f g : Nat → Int) : eqB f g = true ↔ ∀ i, i < 6 → f i = g i := by simp only [eqB, List.all_eq_true, List.mem_range, beq_iff_eq]
theorem eq_dim (f g : Nat → Int) (W : World) : (Op.equalIn 10000 23 (.agg (cl f)) (.agg (cl g))).run Tryz.prog W = .ok (eqB f g) W := by
  obtain ⟨i, hi⟩ := infoInt
  rw [run_equalIn_array (w := W) 9999 _ _ Tryz.underlying23 hi, cells3, eq_items 9998 f g W _ (fun j hj => List.mem_range.1 hj)]
  rfl

def mulR (f g : Nat → Int) : Value := if ok f && ok g then inR (sumF f g) else DE zf 1
def divR (f g : Nat → Int) : Value := if ok f && ok g then inR (difF f g) else DE zf 1
section
variable (f g : Nat → Int) (w : World)
theorem three_at : At (((w.alloc (.cells (cl f) 23)).alloc (.cells (cl g) 23)).alloc (.cells (cl zf) 23)) w.heap.size f ∧
    At (((w.alloc (.cells (cl f) 23)).alloc (.cells (cl g) 23)).alloc (.cells (cl zf) 23)) (w.heap.size + 1) g ∧
    At (((w.alloc (.cells (cl f) 23)).alloc (.cells (cl g) 23)).alloc (.cells (cl zf) 23)) (w.heap.size + 1 + 1) zf ∧
    RowKit.Below w.heap.size w (((w.alloc (.cells (cl f) 23)).alloc (.cells (cl g) 23)).alloc (.cells (cl zf) 23)) := by
  refine ⟨((At.fresh w f).alloc _).alloc _, ?_, ?_, (((Below.refl _ _).alloc (Nat.le_refl _) _).alloc (by simp) _).alloc (by simp; omega) _⟩
  · have := (At.fresh (w.alloc (.cells (cl f) 23)) g).alloc (.cells (cl zf) 23)
    simpa using this
  · have := At.fresh ((w.alloc (.cells (cl f) 23)).alloc (.cells (cl g) 23)) zf
    simpa using this
theorem two_at : At ((w.alloc (.cells (cl f) 23)).alloc (.cells (cl zf) 23)) w.heap.size f ∧
    At ((w.alloc (.cells (cl f) 23)).alloc (.cells (cl zf) 23)) (w.heap.size + 1) zf ∧
    RowKit.Below w.heap.size w ((w.alloc (.cells (cl f) 23)).alloc (.cells (cl zf) 23)) := by
  refine ⟨(At.fresh w f).alloc _, ?_, ((Below.refl _ _).alloc (Nat.le_refl _) _).alloc (by simp) _⟩
  have := At.fresh (w.alloc (.cells (cl f) 23)) zf
  simpa using this
end

set_option maxHeartbeats 4000000 in
theorem mul_bad1 (f g : Nat → Int) (hf : ok f = false) (w : World) : Calls Tryz.prog 26 #[.agg (cl f), .agg (cl g)] w (Gives (DE zf 1) w) := by
  have HR := Lib.hid (fun w => rightG f w)
  rw [hf] at HR
  obtain ⟨a1, a2, a3, hB⟩ := three_at f g w
  have HB := Lib.hid hB
  have H1 := Lib.hid a1
  have H2 := Lib.hid a2
  have H3 := Lib.hid a3
  have HF := Lib.hid (infoDim f)
  have HZI := Lib.hid (infoDim zf)
  have HZO := Lib.hid (oneDim zf)
  have hbd := build0
  clear a1 a2 a3 hf hB
  go_enter Tryz.func26, Tryz.ntmps26
  go_wp2_with (refine wpList_load_row rfl _ _ rfl _ rfl _ _ _ _ H1.out Tryz.underlying23 rfl HF.out ?_)
  refine (HR.out _).mono ?_
  rintro e w1 ⟨rfl, hb1⟩
  have G2 := Lib.hid (H2.out.below0 hb1)
  have G3 := Lib.hid (H3.out.below0 hb1)
  have HB1 := Lib.hid (HB.out.trans (hb1.mono HB.out.size))
  clear hb1 H1 H2 H3
  go_wp2_with (refine wpList_store_row rfl _ _ _ rfl _ (cl zf) rfl rfl _ _ G3.out HZI.out rfl HZO.out ?_)
  have H5 := Lib.hid (G3.out.row (g := zf))
  refine bodyPost_ret (ret_cell rfl _ _ _ _ rfl H5.out) rfl ⟨rfl, below_row HB1.out (by omega) _⟩

set_option maxHeartbeats 4000000 in
theorem mul_bad2 (f g : Nat → Int) (hf : ok f = true) (hg : ok g = false) (w : World) : Calls Tryz.prog 26 #[.agg (cl f), .agg (cl g)] w (Gives (DE zf 1) w) := by
  have HR := Lib.hid (fun w => rightG f w)
  rw [hf] at HR
  have HR2 := Lib.hid (fun w => rightG g w)
  rw [hg] at HR2
  obtain ⟨a1, a2, a3, hB⟩ := three_at f g w
  have HB := Lib.hid hB
  have H1 := Lib.hid a1
  have H2 := Lib.hid a2
  have H3 := Lib.hid a3
  have HF := Lib.hid (infoDim f)
  have HZI := Lib.hid (infoDim zf)
  have HZO := Lib.hid (oneDim zf)
  have hbd := build0
  clear a1 a2 a3 hf hB
  clear hg
  go_enter Tryz.func26, Tryz.ntmps26
  go_wp2_with (refine wpList_load_row rfl _ _ rfl _ rfl _ _ _ _ H1.out Tryz.underlying23 rfl HF.out ?_)
  refine (HR.out _).mono ?_
  rintro e w1 ⟨rfl, hb1⟩
  have G2 := Lib.hid (H2.out.below0 hb1)
  have G3 := Lib.hid (H3.out.below0 hb1)
  have HB1 := Lib.hid (HB.out.trans (hb1.mono HB.out.size))
  clear hb1 H1 H2 H3
  have c0 := G2.out.cell 0 (by omega)
  have c1 := G2.out.cell 1 (by omega)
  have c2 := G2.out.cell 2 (by omega)
  have c3 := G2.out.cell 3 (by omega)
  have c4 := G2.out.cell 4 (by omega)
  have c5 := G2.out.cell 5 (by omega)
  go_wp2_with fail
  clear c0 c1 c2 c3 c4 c5
  refine (HR2.out _).mono ?_
  rintro e w2 ⟨rfl, hb2⟩
  have K3 := Lib.hid (G3.out.below0 hb2)
  have HB2 := Lib.hid (HB1.out.trans (hb2.mono HB1.out.size))
  clear hb2 G2 G3
  go_wp2_with (refine wpList_store_row rfl _ _ _ rfl _ (cl zf) rfl rfl _ _ K3.out HZI.out rfl HZO.out ?_)
  have H5 := Lib.hid (K3.out.row (g := zf))
  refine bodyPost_ret (ret_cell rfl _ _ _ _ rfl H5.out) rfl ⟨rfl, below_row HB2.out (by omega) _⟩

theorem mul_any (f g : Nat → Int) (w : World) : Calls Tryz.prog 26 #[.agg (cl f), .agg (cl g)] w (Gives (mulR f g) w) := by
  unfold mulR
  rcases hf : ok f with _ | _
  · exact mul_bad1 f g hf w
  · rcases hg : ok g with _ | _
    · exact mul_bad2 f g hf hg w
    · exact mul_good f g hf hg w

set_option maxHeartbeats 4000000 in
theorem div_bad1 (f g : Nat → Int) (hf : ok f = false) (w : World) : Calls Tryz.prog 44 #[.agg (cl f), .agg (cl g)] w (Gives (DE zf 1) w) := by
  have HR := Lib.hid (fun w => rightG f w)
  rw [hf] at HR
  obtain ⟨a1, a2, a3, hB⟩ := three_at f g w
  have HB := Lib.hid hB
  have H1 := Lib.hid a1
  have H2 := Lib.hid a2
  have H3 := Lib.hid a3
  have HF := Lib.hid (infoDim f)
  have HZI := Lib.hid (infoDim zf)
  have HZO := Lib.hid (oneDim zf)
  have hbd := build0
  clear a1 a2 a3 hf hB
  go_enter Tryz.func44, Tryz.ntmps44
  go_wp2_with (refine wpList_load_row rfl _ _ rfl _ rfl _ _ _ _ H1.out Tryz.underlying23 rfl HF.out ?_)
  refine (HR.out _).mono ?_
  rintro e w1 ⟨rfl, hb1⟩
  have G2 := Lib.hid (H2.out.below0 hb1)
  have G3 := Lib.hid (H3.out.below0 hb1)
  have HB1 := Lib.hid (HB.out.trans (hb1.mono HB.out.size))
  clear hb1 H1 H2 H3
  go_wp2_with (refine wpList_store_row rfl _ _ _ rfl _ (cl zf) rfl rfl _ _ G3.out HZI.out rfl HZO.out ?_)
  have H5 := Lib.hid (G3.out.row (g := zf))
  refine bodyPost_ret (ret_cell rfl _ _ _ _ rfl H5.out) rfl ⟨rfl, below_row HB1.out (by omega) _⟩

set_option maxHeartbeats 4000000 in
theorem div_bad2 (f g : Nat → Int) (hf : ok f = true) (hg : ok g = false) (w : World) : Calls Tryz.prog 44 #[.agg (cl f), .agg (cl g)] w (Gives (DE zf 1) w) := by
  have HR := Lib.hid (fun w => rightG f w)
  rw [hf] at HR
  have HR2 := Lib.hid (fun w => rightG g w)
  rw [hg] at HR2
  obtain ⟨a1, a2, a3, hB⟩ := three_at f g w
  have HB := Lib.hid hB
  have H1 := Lib.hid a1
  have H2 := Lib.hid a2
  have H3 := Lib.hid a3
  have HF := Lib.hid (infoDim f)
  have HZI := Lib.hid (infoDim zf)
  have HZO := Lib.hid (oneDim zf)
  have hbd := build0
  clear a1 a2 a3 hf hB
  clear hg
  go_enter Tryz.func44, Tryz.ntmps44
  go_wp2_with (refine wpList_load_row rfl _ _ rfl _ rfl _ _ _ _ H1.out Tryz.underlying23 rfl HF.out ?_)
  refine (HR.out _).mono ?_
  rintro e w1 ⟨rfl, hb1⟩
  have G2 := Lib.hid (H2.out.below0 hb1)
  have G3 := Lib.hid (H3.out.below0 hb1)
  have HB1 := Lib.hid (HB.out.trans (hb1.mono HB.out.size))
  clear hb1 H1 H2 H3
  have c0 := G2.out.cell 0 (by omega)
  have c1 := G2.out.cell 1 (by omega)
  have c2 := G2.out.cell 2 (by omega)
  have c3 := G2.out.cell 3 (by omega)
  have c4 := G2.out.cell 4 (by omega)
  have c5 := G2.out.cell 5 (by omega)
  go_wp2_with fail
  clear c0 c1 c2 c3 c4 c5
  refine (HR2.out _).mono ?_
  rintro e w2 ⟨rfl, hb2⟩
  have K3 := Lib.hid (G3.out.below0 hb2)
  have HB2 := Lib.hid (HB1.out.trans (hb2.mono HB1.out.size))
  clear hb2 G2 G3
  go_wp2_with (refine wpList_store_row rfl _ _ _ rfl _ (cl zf) rfl rfl _ _ K3.out HZI.out rfl HZO.out ?_)
  have H5 := Lib.hid (K3.out.row (g := zf))
  refine bodyPost_ret (ret_cell rfl _ _ _ _ rfl H5.out) rfl ⟨rfl, below_row HB2.out (by omega) _⟩

theorem div_any (f g : Nat → Int) (w : World) : Calls Tryz.prog 44 #[.agg (cl f), .agg (cl g)] w (Gives (divR f g) w) := by
  unfold divR
  rcases hf : ok f with _ | _
  · exact div_bad1 f g hf w
  · rcases hg : ok g with _ | _
    · exact div_bad2 f g hf hg w
    · exact div_good f g hf hg w

theorem mul_bd {x n : Int} (hx : -9 ≤ x ∧ x ≤ 9) (hn : -9 ≤ n ∧ n ≤ 9) : -81 ≤ x * n ∧ x * n ≤ 81 := by
  have : n = -9 ∨ n = -8 ∨ n = -7 ∨ n = -6 ∨ n = -5 ∨ n = -4 ∨ n = -3 ∨ n = -2 ∨ n = -1 ∨ n = 0 ∨ n = 1 ∨ n = 2 ∨ n = 3 ∨ n = 4 ∨ n = 5 ∨ n = 6 ∨ n = 7 ∨ n = 8 ∨ n = 9 := by omega
  rcases this with rfl | rfl | rfl | rfl | rfl | rfl | rfl | rfl | rfl | rfl | rfl | rfl | rfl | rfl | rfl | rfl | rfl | rfl | rfl <;> omega
end Go.Proofs.YtmhdhabgdlefjaaGreatDoor.Dm
