/- The law DimGroup. -/
import Derived.Test.YtmoapjhobhdjoaaDoorDm10
set_option maxRecDepth 100000
namespace Go.Proofs.YtmoapjhobhdjoaaDoor.Dm
open Go.RowKit

theorem mulR_DE (f g : Nat → Int) : ∃ X k, mulR f g = DE X k := by
  unfold mulR inR
  split
  · split
    · exact ⟨_, _, rfl⟩
    · exact ⟨_, _, rfl⟩
  · exact ⟨_, _, rfl⟩
theorem mulR_cases (f g : Nat → Int) : mulR f g = DE zf 1 ∨ mulR f g = DE zf 3 ∨ (ok f = true ∧ ok g = true ∧ ok (sumF f g) = true ∧ mulR f g = DE (sumF f g) 0) := by
  unfold mulR inR
  rcases hf : ok f with _ | _
  · exact .inl rfl
  · rcases hg : ok g with _ | _
    · exact .inl rfl
    · rcases hs : ok (sumF f g) with _ | _
      · exact .inr (.inl rfl)
      · exact .inr (.inr ⟨rfl, rfl, rfl, rfl⟩)
theorem three_of (f g h : Nat → Int) (w : World) : At (((w.alloc (.cells (cl f) 23)).alloc (.cells (cl g) 23)).alloc (.cells (cl h) 23)) w.heap.size f ∧
    At (((w.alloc (.cells (cl f) 23)).alloc (.cells (cl g) 23)).alloc (.cells (cl h) 23)) (w.heap.size + 1) g ∧
    At (((w.alloc (.cells (cl f) 23)).alloc (.cells (cl g) 23)).alloc (.cells (cl h) 23)) (w.heap.size + 1 + 1) h ∧
    RowKit.Below w.heap.size w (((w.alloc (.cells (cl f) 23)).alloc (.cells (cl g) 23)).alloc (.cells (cl h) 23)) := by
  refine ⟨((At.fresh w f).alloc _).alloc _, ?_, ?_, (((Below.refl _ _).alloc (Nat.le_refl _) _).alloc (by simp) _).alloc (by simp; omega) _⟩
  · have := (At.fresh (w.alloc (.cells (cl f) 23)) g).alloc (.cells (cl h) 23)
    simpa using this
  · have := At.fresh ((w.alloc (.cells (cl f) 23)).alloc (.cells (cl g) 23)) h
    simpa using this

set_option maxHeartbeats 8000000 in
theorem group_a (a b c : Nat → Int) (oa : ok a = false) (hab : mulR a b = DE zf 1) (hba : mulR b a = DE zf 1) (w : World) (he : Env w) : Calls Tryd.prog 4 #[.agg (cl a), .agg (cl b), .agg (cl c)] w (Gives (.bool true) w) := by
  have HE := Lib.hid he
  have bd0 := build0
  have eqs := eq_self
  have qzf : ∀ W, (Op.equalIn 10000 23 (.agg (cl zf)) (.agg #[.int .i64 0, .int .i64 0, .int .i64 0, .int .i64 0, .int .i64 0, .int .i64 0])).run Tryd.prog W = .ok true W := eq_self zf
  obtain ⟨a0, a1, a2, a3⟩ := three_of a b c w
  have A0 := Lib.hid a0
  have A1 := Lib.hid a1
  have A2 := Lib.hid a2
  have HB0 := Lib.hid a3
  clear a0 a1 a2 a3 he
  obtain ⟨X, g, hX⟩ := mulR_DE b c
  have HAB := Lib.hid hab
  have HBA := Lib.hid hba
  have HBC := Lib.hid hX
  have Roa := Lib.hid oa
  clear hab hba hX oa
  have HI1 := Lib.hid (infoDim (zf))
  have HO1 := Lib.hid (oneDim (zf))
  have HI2 := Lib.hid (infoDim (a))
  have HO2 := Lib.hid (oneDim (a))
  have HI3 := Lib.hid (infoDim (b))
  have HO3 := Lib.hid (oneDim (b))
  have HI4 := Lib.hid (infoDim (c))
  have HO4 := Lib.hid (oneDim (c))
  go_enter Tryd.func4, Tryd.ntmps4
  go_wp2_with (first | refine load_rowG rfl _ _ rfl _ rfl _ _ _ _ A0.out Tryd.underlying23 rfl HI2.out ?_ | refine load_rowG rfl _ _ rfl _ rfl _ _ _ _ A1.out Tryd.underlying23 rfl HI3.out ?_ | refine load_rowG rfl _ _ rfl _ rfl _ _ _ _ A2.out Tryd.underlying23 rfl HI4.out ?_)
  refine (sane_any _ (HE.out.below HB0.out)).mono ?_
  rintro e w1 ⟨rfl, hb⟩
  have X1_0 := Lib.hid (A0.out.below0 hb)
  have X1_1 := Lib.hid (A1.out.below0 hb)
  have X1_2 := Lib.hid (A2.out.below0 hb)
  have B1 := Lib.hid (HB0.out.trans (hb.mono HB0.out.size))
  clear hb
  go_wp2_with (first | refine load_rowG rfl _ _ rfl _ rfl _ _ _ _ X1_0.out Tryd.underlying23 rfl HI2.out ?_ | refine load_rowG rfl _ _ rfl _ rfl _ _ _ _ X1_1.out Tryd.underlying23 rfl HI3.out ?_ | refine load_rowG rfl _ _ rfl _ rfl _ _ _ _ X1_2.out Tryd.underlying23 rfl HI4.out ?_)
  refine (mul_c _ a b zf 1 HAB.out).mono ?_
  rintro e w2 ⟨rfl, hb⟩
  have X2_0 := Lib.hid (X1_0.out.below0 hb)
  have X2_1 := Lib.hid (X1_1.out.below0 hb)
  have X2_2 := Lib.hid (X1_2.out.below0 hb)
  have B2 := Lib.hid (B1.out.trans (hb.mono B1.out.size))
  clear hb
  have Z2 := Lib.hid (zf_at w2)
  have Y2_0 := Lib.hid ((X2_0.out.alloc (.cells #[.int .i64 0, .int .i64 0, .int .i64 0, .int .i64 0, .int .i64 0, .int .i64 0] 23)).oth (b' := w2.heap.size) (by have := X2_0.out.lt; omega) (cl (zf)))
  have Y2_1 := Lib.hid ((X2_1.out.alloc (.cells #[.int .i64 0, .int .i64 0, .int .i64 0, .int .i64 0, .int .i64 0, .int .i64 0] 23)).oth (b' := w2.heap.size) (by have := X2_1.out.lt; omega) (cl (zf)))
  have Y2_2 := Lib.hid ((X2_2.out.alloc (.cells #[.int .i64 0, .int .i64 0, .int .i64 0, .int .i64 0, .int .i64 0, .int .i64 0] 23)).oth (b' := w2.heap.size) (by have := X2_2.out.lt; omega) (cl (zf)))
  have N2 := Lib.hid (Z2.out.row (g := zf))
  have C2 := Lib.hid (below_row (B2.out.alloc B2.out.size (.cells #[.int .i64 0, .int .i64 0, .int .i64 0, .int .i64 0, .int .i64 0, .int .i64 0] 23)) (b := w2.heap.size) B2.out.size (cl (zf)))
  go_wp2_with (first | refine wpList_store_row rfl _ _ _ rfl _ _ rfl rfl _ _ Z2.out HI1.out rfl HO1.out ?_ | refine load_rowG rfl _ _ rfl _ rfl _ _ _ _ Y2_0.out Tryd.underlying23 rfl HI2.out ?_ | refine load_rowG rfl _ _ rfl _ rfl _ _ _ _ Y2_1.out Tryd.underlying23 rfl HI3.out ?_ | refine load_rowG rfl _ _ rfl _ rfl _ _ _ _ Y2_2.out Tryd.underlying23 rfl HI4.out ?_ | refine load_rowG rfl _ _ rfl _ rfl _ _ _ _ N2.out Tryd.underlying23 rfl HI1.out ?_)
  refine (mul_c _ b a zf 1 HBA.out).mono ?_
  rintro e w3 ⟨rfl, hb⟩
  have X3_0 := Lib.hid (Y2_0.out.below0 hb)
  have X3_1 := Lib.hid (Y2_1.out.below0 hb)
  have X3_2 := Lib.hid (Y2_2.out.below0 hb)
  have X3_3 := Lib.hid (N2.out.below0 hb)
  have B3 := Lib.hid (C2.out.trans (hb.mono C2.out.size))
  clear hb
  have Z3 := Lib.hid (zf_at w3)
  have Y3_0 := Lib.hid ((X3_0.out.alloc (.cells #[.int .i64 0, .int .i64 0, .int .i64 0, .int .i64 0, .int .i64 0, .int .i64 0] 23)).oth (b' := w3.heap.size) (by have := X3_0.out.lt; omega) (cl (zf)))
  have Y3_1 := Lib.hid ((X3_1.out.alloc (.cells #[.int .i64 0, .int .i64 0, .int .i64 0, .int .i64 0, .int .i64 0, .int .i64 0] 23)).oth (b' := w3.heap.size) (by have := X3_1.out.lt; omega) (cl (zf)))
  have Y3_2 := Lib.hid ((X3_2.out.alloc (.cells #[.int .i64 0, .int .i64 0, .int .i64 0, .int .i64 0, .int .i64 0, .int .i64 0] 23)).oth (b' := w3.heap.size) (by have := X3_2.out.lt; omega) (cl (zf)))
  have Y3_3 := Lib.hid ((X3_3.out.alloc (.cells #[.int .i64 0, .int .i64 0, .int .i64 0, .int .i64 0, .int .i64 0, .int .i64 0] 23)).oth (b' := w3.heap.size) (by have := X3_3.out.lt; omega) (cl (zf)))
  have N3 := Lib.hid (Z3.out.row (g := zf))
  have C3 := Lib.hid (below_row (B3.out.alloc B3.out.size (.cells #[.int .i64 0, .int .i64 0, .int .i64 0, .int .i64 0, .int .i64 0, .int .i64 0] 23)) (b := w3.heap.size) B3.out.size (cl (zf)))
  go_wp2_with (first | refine wpList_store_row rfl _ _ _ rfl _ _ rfl rfl _ _ Z3.out HI1.out rfl HO1.out ?_ | refine load_rowG rfl _ _ rfl _ rfl _ _ _ _ Y3_0.out Tryd.underlying23 rfl HI2.out ?_ | refine load_rowG rfl _ _ rfl _ rfl _ _ _ _ Y3_1.out Tryd.underlying23 rfl HI3.out ?_ | refine load_rowG rfl _ _ rfl _ rfl _ _ _ _ Y3_2.out Tryd.underlying23 rfl HI4.out ?_ | refine load_rowG rfl _ _ rfl _ rfl _ _ _ _ Y3_3.out Tryd.underlying23 rfl HI1.out ?_ | refine load_rowG rfl _ _ rfl _ rfl _ _ _ _ N3.out Tryd.underlying23 rfl HI1.out ?_)
  refine (mul_c _ b c X g HBC.out).mono ?_
  rintro e w4 ⟨rfl, hb⟩
  have X4_0 := Lib.hid (Y3_0.out.below0 hb)
  have X4_1 := Lib.hid (Y3_1.out.below0 hb)
  have X4_2 := Lib.hid (Y3_2.out.below0 hb)
  have X4_3 := Lib.hid (Y3_3.out.below0 hb)
  have X4_4 := Lib.hid (N3.out.below0 hb)
  have B4 := Lib.hid (C3.out.trans (hb.mono C3.out.size))
  clear hb
  have HI5 := Lib.hid (infoDim (X))
  have HO5 := Lib.hid (oneDim (X))
  have Z4 := Lib.hid (zf_at w4)
  have Y4_0 := Lib.hid ((X4_0.out.alloc (.cells #[.int .i64 0, .int .i64 0, .int .i64 0, .int .i64 0, .int .i64 0, .int .i64 0] 23)).oth (b' := w4.heap.size) (by have := X4_0.out.lt; omega) (cl (X)))
  have Y4_1 := Lib.hid ((X4_1.out.alloc (.cells #[.int .i64 0, .int .i64 0, .int .i64 0, .int .i64 0, .int .i64 0, .int .i64 0] 23)).oth (b' := w4.heap.size) (by have := X4_1.out.lt; omega) (cl (X)))
  have Y4_2 := Lib.hid ((X4_2.out.alloc (.cells #[.int .i64 0, .int .i64 0, .int .i64 0, .int .i64 0, .int .i64 0, .int .i64 0] 23)).oth (b' := w4.heap.size) (by have := X4_2.out.lt; omega) (cl (X)))
  have Y4_3 := Lib.hid ((X4_3.out.alloc (.cells #[.int .i64 0, .int .i64 0, .int .i64 0, .int .i64 0, .int .i64 0, .int .i64 0] 23)).oth (b' := w4.heap.size) (by have := X4_3.out.lt; omega) (cl (X)))
  have Y4_4 := Lib.hid ((X4_4.out.alloc (.cells #[.int .i64 0, .int .i64 0, .int .i64 0, .int .i64 0, .int .i64 0, .int .i64 0] 23)).oth (b' := w4.heap.size) (by have := X4_4.out.lt; omega) (cl (X)))
  have N4 := Lib.hid (Z4.out.row (g := X))
  have C4 := Lib.hid (below_row (B4.out.alloc B4.out.size (.cells #[.int .i64 0, .int .i64 0, .int .i64 0, .int .i64 0, .int .i64 0, .int .i64 0] 23)) (b := w4.heap.size) B4.out.size (cl (X)))
  go_wp2_with (first | refine wpList_store_row rfl _ _ _ rfl _ _ rfl rfl _ _ Z4.out HI5.out rfl HO5.out ?_ | refine load_rowG rfl _ _ rfl _ rfl _ _ _ _ Y4_0.out Tryd.underlying23 rfl HI2.out ?_ | refine load_rowG rfl _ _ rfl _ rfl _ _ _ _ Y4_1.out Tryd.underlying23 rfl HI3.out ?_ | refine load_rowG rfl _ _ rfl _ rfl _ _ _ _ Y4_2.out Tryd.underlying23 rfl HI4.out ?_ | refine load_rowG rfl _ _ rfl _ rfl _ _ _ _ Y4_3.out Tryd.underlying23 rfl HI1.out ?_ | refine load_rowG rfl _ _ rfl _ rfl _ _ _ _ Y4_4.out Tryd.underlying23 rfl HI1.out ?_ | refine load_rowG rfl _ _ rfl _ rfl _ _ _ _ N4.out Tryd.underlying23 rfl HI5.out ?_)
  refine (right_c _ a false Roa.out).mono ?_
  rintro e w5 ⟨rfl, hb⟩
  have X5_0 := Lib.hid (Y4_0.out.below0 hb)
  have X5_1 := Lib.hid (Y4_1.out.below0 hb)
  have X5_2 := Lib.hid (Y4_2.out.below0 hb)
  have X5_3 := Lib.hid (Y4_3.out.below0 hb)
  have X5_4 := Lib.hid (Y4_4.out.below0 hb)
  have X5_5 := Lib.hid (N4.out.below0 hb)
  have B5 := Lib.hid (C4.out.trans (hb.mono C4.out.size))
  clear hb
  go_wp2_with (first | refine load_rowG rfl _ _ rfl _ rfl _ _ _ _ X5_0.out Tryd.underlying23 rfl HI2.out ?_ | refine load_rowG rfl _ _ rfl _ rfl _ _ _ _ X5_1.out Tryd.underlying23 rfl HI3.out ?_ | refine load_rowG rfl _ _ rfl _ rfl _ _ _ _ X5_2.out Tryd.underlying23 rfl HI4.out ?_ | refine load_rowG rfl _ _ rfl _ rfl _ _ _ _ X5_3.out Tryd.underlying23 rfl HI1.out ?_ | refine load_rowG rfl _ _ rfl _ rfl _ _ _ _ X5_4.out Tryd.underlying23 rfl HI1.out ?_ | refine load_rowG rfl _ _ rfl _ rfl _ _ _ _ X5_5.out Tryd.underlying23 rfl HI5.out ?_)
  refine (right_c _ zf true ok_zf).mono ?_
  rintro e w6 ⟨rfl, hb⟩
  have X6_0 := Lib.hid (X5_0.out.below0 hb)
  have X6_1 := Lib.hid (X5_1.out.below0 hb)
  have X6_2 := Lib.hid (X5_2.out.below0 hb)
  have X6_3 := Lib.hid (X5_3.out.below0 hb)
  have X6_4 := Lib.hid (X5_4.out.below0 hb)
  have X6_5 := Lib.hid (X5_5.out.below0 hb)
  have B6 := Lib.hid (B5.out.trans (hb.mono B5.out.size))
  clear hb
  go_wp2_with (first | refine load_rowG rfl _ _ rfl _ rfl _ _ _ _ X6_0.out Tryd.underlying23 rfl HI2.out ?_ | refine load_rowG rfl _ _ rfl _ rfl _ _ _ _ X6_1.out Tryd.underlying23 rfl HI3.out ?_ | refine load_rowG rfl _ _ rfl _ rfl _ _ _ _ X6_2.out Tryd.underlying23 rfl HI4.out ?_ | refine load_rowG rfl _ _ rfl _ rfl _ _ _ _ X6_3.out Tryd.underlying23 rfl HI1.out ?_ | refine load_rowG rfl _ _ rfl _ rfl _ _ _ _ X6_4.out Tryd.underlying23 rfl HI1.out ?_ | refine load_rowG rfl _ _ rfl _ rfl _ _ _ _ X6_5.out Tryd.underlying23 rfl HI5.out ?_)
  go_ret
  exact ⟨rfl, B6.out⟩

set_option maxHeartbeats 8000000 in
theorem group_b (a b c : Nat → Int) (oa : ok a = true) (ob : ok b = false) (hab : mulR a b = DE zf 1) (hba : mulR b a = DE zf 1) (w : World) (he : Env w) : Calls Tryd.prog 4 #[.agg (cl a), .agg (cl b), .agg (cl c)] w (Gives (.bool true) w) := by
  have HE := Lib.hid he
  have bd0 := build0
  have eqs := eq_self
  have qzf : ∀ W, (Op.equalIn 10000 23 (.agg (cl zf)) (.agg #[.int .i64 0, .int .i64 0, .int .i64 0, .int .i64 0, .int .i64 0, .int .i64 0])).run Tryd.prog W = .ok true W := eq_self zf
  obtain ⟨a0, a1, a2, a3⟩ := three_of a b c w
  have A0 := Lib.hid a0
  have A1 := Lib.hid a1
  have A2 := Lib.hid a2
  have HB0 := Lib.hid a3
  clear a0 a1 a2 a3 he
  obtain ⟨X, g, hX⟩ := mulR_DE b c
  have HAB := Lib.hid hab
  have HBA := Lib.hid hba
  have HBC := Lib.hid hX
  have Roa := Lib.hid oa
  have Rob := Lib.hid ob
  clear hab hba hX oa ob
  have HI1 := Lib.hid (infoDim (zf))
  have HO1 := Lib.hid (oneDim (zf))
  have HI2 := Lib.hid (infoDim (a))
  have HO2 := Lib.hid (oneDim (a))
  have HI3 := Lib.hid (infoDim (b))
  have HO3 := Lib.hid (oneDim (b))
  have HI4 := Lib.hid (infoDim (c))
  have HO4 := Lib.hid (oneDim (c))
  go_enter Tryd.func4, Tryd.ntmps4
  go_wp2_with (first | refine load_rowG rfl _ _ rfl _ rfl _ _ _ _ A0.out Tryd.underlying23 rfl HI2.out ?_ | refine load_rowG rfl _ _ rfl _ rfl _ _ _ _ A1.out Tryd.underlying23 rfl HI3.out ?_ | refine load_rowG rfl _ _ rfl _ rfl _ _ _ _ A2.out Tryd.underlying23 rfl HI4.out ?_)
  refine (sane_any _ (HE.out.below HB0.out)).mono ?_
  rintro e w1 ⟨rfl, hb⟩
  have X1_0 := Lib.hid (A0.out.below0 hb)
  have X1_1 := Lib.hid (A1.out.below0 hb)
  have X1_2 := Lib.hid (A2.out.below0 hb)
  have B1 := Lib.hid (HB0.out.trans (hb.mono HB0.out.size))
  clear hb
  go_wp2_with (first | refine load_rowG rfl _ _ rfl _ rfl _ _ _ _ X1_0.out Tryd.underlying23 rfl HI2.out ?_ | refine load_rowG rfl _ _ rfl _ rfl _ _ _ _ X1_1.out Tryd.underlying23 rfl HI3.out ?_ | refine load_rowG rfl _ _ rfl _ rfl _ _ _ _ X1_2.out Tryd.underlying23 rfl HI4.out ?_)
  refine (mul_c _ a b zf 1 HAB.out).mono ?_
  rintro e w2 ⟨rfl, hb⟩
  have X2_0 := Lib.hid (X1_0.out.below0 hb)
  have X2_1 := Lib.hid (X1_1.out.below0 hb)
  have X2_2 := Lib.hid (X1_2.out.below0 hb)
  have B2 := Lib.hid (B1.out.trans (hb.mono B1.out.size))
  clear hb
  have Z2 := Lib.hid (zf_at w2)
  have Y2_0 := Lib.hid ((X2_0.out.alloc (.cells #[.int .i64 0, .int .i64 0, .int .i64 0, .int .i64 0, .int .i64 0, .int .i64 0] 23)).oth (b' := w2.heap.size) (by have := X2_0.out.lt; omega) (cl (zf)))
  have Y2_1 := Lib.hid ((X2_1.out.alloc (.cells #[.int .i64 0, .int .i64 0, .int .i64 0, .int .i64 0, .int .i64 0, .int .i64 0] 23)).oth (b' := w2.heap.size) (by have := X2_1.out.lt; omega) (cl (zf)))
  have Y2_2 := Lib.hid ((X2_2.out.alloc (.cells #[.int .i64 0, .int .i64 0, .int .i64 0, .int .i64 0, .int .i64 0, .int .i64 0] 23)).oth (b' := w2.heap.size) (by have := X2_2.out.lt; omega) (cl (zf)))
  have N2 := Lib.hid (Z2.out.row (g := zf))
  have C2 := Lib.hid (below_row (B2.out.alloc B2.out.size (.cells #[.int .i64 0, .int .i64 0, .int .i64 0, .int .i64 0, .int .i64 0, .int .i64 0] 23)) (b := w2.heap.size) B2.out.size (cl (zf)))
  go_wp2_with (first | refine wpList_store_row rfl _ _ _ rfl _ _ rfl rfl _ _ Z2.out HI1.out rfl HO1.out ?_ | refine load_rowG rfl _ _ rfl _ rfl _ _ _ _ Y2_0.out Tryd.underlying23 rfl HI2.out ?_ | refine load_rowG rfl _ _ rfl _ rfl _ _ _ _ Y2_1.out Tryd.underlying23 rfl HI3.out ?_ | refine load_rowG rfl _ _ rfl _ rfl _ _ _ _ Y2_2.out Tryd.underlying23 rfl HI4.out ?_ | refine load_rowG rfl _ _ rfl _ rfl _ _ _ _ N2.out Tryd.underlying23 rfl HI1.out ?_)
  refine (mul_c _ b a zf 1 HBA.out).mono ?_
  rintro e w3 ⟨rfl, hb⟩
  have X3_0 := Lib.hid (Y2_0.out.below0 hb)
  have X3_1 := Lib.hid (Y2_1.out.below0 hb)
  have X3_2 := Lib.hid (Y2_2.out.below0 hb)
  have X3_3 := Lib.hid (N2.out.below0 hb)
  have B3 := Lib.hid (C2.out.trans (hb.mono C2.out.size))
  clear hb
  have Z3 := Lib.hid (zf_at w3)
  have Y3_0 := Lib.hid ((X3_0.out.alloc (.cells #[.int .i64 0, .int .i64 0, .int .i64 0, .int .i64 0, .int .i64 0, .int .i64 0] 23)).oth (b' := w3.heap.size) (by have := X3_0.out.lt; omega) (cl (zf)))
  have Y3_1 := Lib.hid ((X3_1.out.alloc (.cells #[.int .i64 0, .int .i64 0, .int .i64 0, .int .i64 0, .int .i64 0, .int .i64 0] 23)).oth (b' := w3.heap.size) (by have := X3_1.out.lt; omega) (cl (zf)))
  have Y3_2 := Lib.hid ((X3_2.out.alloc (.cells #[.int .i64 0, .int .i64 0, .int .i64 0, .int .i64 0, .int .i64 0, .int .i64 0] 23)).oth (b' := w3.heap.size) (by have := X3_2.out.lt; omega) (cl (zf)))
  have Y3_3 := Lib.hid ((X3_3.out.alloc (.cells #[.int .i64 0, .int .i64 0, .int .i64 0, .int .i64 0, .int .i64 0, .int .i64 0] 23)).oth (b' := w3.heap.size) (by have := X3_3.out.lt; omega) (cl (zf)))
  have N3 := Lib.hid (Z3.out.row (g := zf))
  have C3 := Lib.hid (below_row (B3.out.alloc B3.out.size (.cells #[.int .i64 0, .int .i64 0, .int .i64 0, .int .i64 0, .int .i64 0, .int .i64 0] 23)) (b := w3.heap.size) B3.out.size (cl (zf)))
  go_wp2_with (first | refine wpList_store_row rfl _ _ _ rfl _ _ rfl rfl _ _ Z3.out HI1.out rfl HO1.out ?_ | refine load_rowG rfl _ _ rfl _ rfl _ _ _ _ Y3_0.out Tryd.underlying23 rfl HI2.out ?_ | refine load_rowG rfl _ _ rfl _ rfl _ _ _ _ Y3_1.out Tryd.underlying23 rfl HI3.out ?_ | refine load_rowG rfl _ _ rfl _ rfl _ _ _ _ Y3_2.out Tryd.underlying23 rfl HI4.out ?_ | refine load_rowG rfl _ _ rfl _ rfl _ _ _ _ Y3_3.out Tryd.underlying23 rfl HI1.out ?_ | refine load_rowG rfl _ _ rfl _ rfl _ _ _ _ N3.out Tryd.underlying23 rfl HI1.out ?_)
  refine (mul_c _ b c X g HBC.out).mono ?_
  rintro e w4 ⟨rfl, hb⟩
  have X4_0 := Lib.hid (Y3_0.out.below0 hb)
  have X4_1 := Lib.hid (Y3_1.out.below0 hb)
  have X4_2 := Lib.hid (Y3_2.out.below0 hb)
  have X4_3 := Lib.hid (Y3_3.out.below0 hb)
  have X4_4 := Lib.hid (N3.out.below0 hb)
  have B4 := Lib.hid (C3.out.trans (hb.mono C3.out.size))
  clear hb
  have HI5 := Lib.hid (infoDim (X))
  have HO5 := Lib.hid (oneDim (X))
  have Z4 := Lib.hid (zf_at w4)
  have Y4_0 := Lib.hid ((X4_0.out.alloc (.cells #[.int .i64 0, .int .i64 0, .int .i64 0, .int .i64 0, .int .i64 0, .int .i64 0] 23)).oth (b' := w4.heap.size) (by have := X4_0.out.lt; omega) (cl (X)))
  have Y4_1 := Lib.hid ((X4_1.out.alloc (.cells #[.int .i64 0, .int .i64 0, .int .i64 0, .int .i64 0, .int .i64 0, .int .i64 0] 23)).oth (b' := w4.heap.size) (by have := X4_1.out.lt; omega) (cl (X)))
  have Y4_2 := Lib.hid ((X4_2.out.alloc (.cells #[.int .i64 0, .int .i64 0, .int .i64 0, .int .i64 0, .int .i64 0, .int .i64 0] 23)).oth (b' := w4.heap.size) (by have := X4_2.out.lt; omega) (cl (X)))
  have Y4_3 := Lib.hid ((X4_3.out.alloc (.cells #[.int .i64 0, .int .i64 0, .int .i64 0, .int .i64 0, .int .i64 0, .int .i64 0] 23)).oth (b' := w4.heap.size) (by have := X4_3.out.lt; omega) (cl (X)))
  have Y4_4 := Lib.hid ((X4_4.out.alloc (.cells #[.int .i64 0, .int .i64 0, .int .i64 0, .int .i64 0, .int .i64 0, .int .i64 0] 23)).oth (b' := w4.heap.size) (by have := X4_4.out.lt; omega) (cl (X)))
  have N4 := Lib.hid (Z4.out.row (g := X))
  have C4 := Lib.hid (below_row (B4.out.alloc B4.out.size (.cells #[.int .i64 0, .int .i64 0, .int .i64 0, .int .i64 0, .int .i64 0, .int .i64 0] 23)) (b := w4.heap.size) B4.out.size (cl (X)))
  go_wp2_with (first | refine wpList_store_row rfl _ _ _ rfl _ _ rfl rfl _ _ Z4.out HI5.out rfl HO5.out ?_ | refine load_rowG rfl _ _ rfl _ rfl _ _ _ _ Y4_0.out Tryd.underlying23 rfl HI2.out ?_ | refine load_rowG rfl _ _ rfl _ rfl _ _ _ _ Y4_1.out Tryd.underlying23 rfl HI3.out ?_ | refine load_rowG rfl _ _ rfl _ rfl _ _ _ _ Y4_2.out Tryd.underlying23 rfl HI4.out ?_ | refine load_rowG rfl _ _ rfl _ rfl _ _ _ _ Y4_3.out Tryd.underlying23 rfl HI1.out ?_ | refine load_rowG rfl _ _ rfl _ rfl _ _ _ _ Y4_4.out Tryd.underlying23 rfl HI1.out ?_ | refine load_rowG rfl _ _ rfl _ rfl _ _ _ _ N4.out Tryd.underlying23 rfl HI5.out ?_)
  refine (right_c _ a true Roa.out).mono ?_
  rintro e w5 ⟨rfl, hb⟩
  have X5_0 := Lib.hid (Y4_0.out.below0 hb)
  have X5_1 := Lib.hid (Y4_1.out.below0 hb)
  have X5_2 := Lib.hid (Y4_2.out.below0 hb)
  have X5_3 := Lib.hid (Y4_3.out.below0 hb)
  have X5_4 := Lib.hid (Y4_4.out.below0 hb)
  have X5_5 := Lib.hid (N4.out.below0 hb)
  have B5 := Lib.hid (C4.out.trans (hb.mono C4.out.size))
  clear hb
  go_wp2_with (first | refine load_rowG rfl _ _ rfl _ rfl _ _ _ _ X5_0.out Tryd.underlying23 rfl HI2.out ?_ | refine load_rowG rfl _ _ rfl _ rfl _ _ _ _ X5_1.out Tryd.underlying23 rfl HI3.out ?_ | refine load_rowG rfl _ _ rfl _ rfl _ _ _ _ X5_2.out Tryd.underlying23 rfl HI4.out ?_ | refine load_rowG rfl _ _ rfl _ rfl _ _ _ _ X5_3.out Tryd.underlying23 rfl HI1.out ?_ | refine load_rowG rfl _ _ rfl _ rfl _ _ _ _ X5_4.out Tryd.underlying23 rfl HI1.out ?_ | refine load_rowG rfl _ _ rfl _ rfl _ _ _ _ X5_5.out Tryd.underlying23 rfl HI5.out ?_)
  refine (right_c _ b false Rob.out).mono ?_
  rintro e w6 ⟨rfl, hb⟩
  have X6_0 := Lib.hid (X5_0.out.below0 hb)
  have X6_1 := Lib.hid (X5_1.out.below0 hb)
  have X6_2 := Lib.hid (X5_2.out.below0 hb)
  have X6_3 := Lib.hid (X5_3.out.below0 hb)
  have X6_4 := Lib.hid (X5_4.out.below0 hb)
  have X6_5 := Lib.hid (X5_5.out.below0 hb)
  have B6 := Lib.hid (B5.out.trans (hb.mono B5.out.size))
  clear hb
  go_wp2_with (first | refine load_rowG rfl _ _ rfl _ rfl _ _ _ _ X6_0.out Tryd.underlying23 rfl HI2.out ?_ | refine load_rowG rfl _ _ rfl _ rfl _ _ _ _ X6_1.out Tryd.underlying23 rfl HI3.out ?_ | refine load_rowG rfl _ _ rfl _ rfl _ _ _ _ X6_2.out Tryd.underlying23 rfl HI4.out ?_ | refine load_rowG rfl _ _ rfl _ rfl _ _ _ _ X6_3.out Tryd.underlying23 rfl HI1.out ?_ | refine load_rowG rfl _ _ rfl _ rfl _ _ _ _ X6_4.out Tryd.underlying23 rfl HI1.out ?_ | refine load_rowG rfl _ _ rfl _ rfl _ _ _ _ X6_5.out Tryd.underlying23 rfl HI5.out ?_)
  refine (right_c _ zf true ok_zf).mono ?_
  rintro e w7 ⟨rfl, hb⟩
  have X7_0 := Lib.hid (X6_0.out.below0 hb)
  have X7_1 := Lib.hid (X6_1.out.below0 hb)
  have X7_2 := Lib.hid (X6_2.out.below0 hb)
  have X7_3 := Lib.hid (X6_3.out.below0 hb)
  have X7_4 := Lib.hid (X6_4.out.below0 hb)
  have X7_5 := Lib.hid (X6_5.out.below0 hb)
  have B7 := Lib.hid (B6.out.trans (hb.mono B6.out.size))
  clear hb
  go_wp2_with (first | refine load_rowG rfl _ _ rfl _ rfl _ _ _ _ X7_0.out Tryd.underlying23 rfl HI2.out ?_ | refine load_rowG rfl _ _ rfl _ rfl _ _ _ _ X7_1.out Tryd.underlying23 rfl HI3.out ?_ | refine load_rowG rfl _ _ rfl _ rfl _ _ _ _ X7_2.out Tryd.underlying23 rfl HI4.out ?_ | refine load_rowG rfl _ _ rfl _ rfl _ _ _ _ X7_3.out Tryd.underlying23 rfl HI1.out ?_ | refine load_rowG rfl _ _ rfl _ rfl _ _ _ _ X7_4.out Tryd.underlying23 rfl HI1.out ?_ | refine load_rowG rfl _ _ rfl _ rfl _ _ _ _ X7_5.out Tryd.underlying23 rfl HI5.out ?_)
  go_ret
  exact ⟨rfl, B7.out⟩

set_option maxHeartbeats 8000000 in
theorem group_r (a b c : Nat → Int) (oa : ok a = true) (ob : ok b = true) (hab : mulR a b = DE zf 3) (hba : mulR b a = DE zf 3) (w : World) (he : Env w) : Calls Tryd.prog 4 #[.agg (cl a), .agg (cl b), .agg (cl c)] w (Gives (.bool true) w) := by
  have HE := Lib.hid he
  have bd0 := build0
  have eqs := eq_self
  have qzf : ∀ W, (Op.equalIn 10000 23 (.agg (cl zf)) (.agg #[.int .i64 0, .int .i64 0, .int .i64 0, .int .i64 0, .int .i64 0, .int .i64 0])).run Tryd.prog W = .ok true W := eq_self zf
  obtain ⟨a0, a1, a2, a3⟩ := three_of a b c w
  have A0 := Lib.hid a0
  have A1 := Lib.hid a1
  have A2 := Lib.hid a2
  have HB0 := Lib.hid a3
  clear a0 a1 a2 a3 he
  obtain ⟨X, g, hX⟩ := mulR_DE b c
  have HAB := Lib.hid hab
  have HBA := Lib.hid hba
  have HBC := Lib.hid hX
  have Roa := Lib.hid oa
  have Rob := Lib.hid ob
  clear hab hba hX oa ob
  have HI1 := Lib.hid (infoDim (zf))
  have HO1 := Lib.hid (oneDim (zf))
  have HI2 := Lib.hid (infoDim (a))
  have HO2 := Lib.hid (oneDim (a))
  have HI3 := Lib.hid (infoDim (b))
  have HO3 := Lib.hid (oneDim (b))
  have HI4 := Lib.hid (infoDim (c))
  have HO4 := Lib.hid (oneDim (c))
  go_enter Tryd.func4, Tryd.ntmps4
  go_wp2_with (first | refine load_rowG rfl _ _ rfl _ rfl _ _ _ _ A0.out Tryd.underlying23 rfl HI2.out ?_ | refine load_rowG rfl _ _ rfl _ rfl _ _ _ _ A1.out Tryd.underlying23 rfl HI3.out ?_ | refine load_rowG rfl _ _ rfl _ rfl _ _ _ _ A2.out Tryd.underlying23 rfl HI4.out ?_)
  refine (sane_any _ (HE.out.below HB0.out)).mono ?_
  rintro e w1 ⟨rfl, hb⟩
  have X1_0 := Lib.hid (A0.out.below0 hb)
  have X1_1 := Lib.hid (A1.out.below0 hb)
  have X1_2 := Lib.hid (A2.out.below0 hb)
  have B1 := Lib.hid (HB0.out.trans (hb.mono HB0.out.size))
  clear hb
  go_wp2_with (first | refine load_rowG rfl _ _ rfl _ rfl _ _ _ _ X1_0.out Tryd.underlying23 rfl HI2.out ?_ | refine load_rowG rfl _ _ rfl _ rfl _ _ _ _ X1_1.out Tryd.underlying23 rfl HI3.out ?_ | refine load_rowG rfl _ _ rfl _ rfl _ _ _ _ X1_2.out Tryd.underlying23 rfl HI4.out ?_)
  refine (mul_c _ a b zf 3 HAB.out).mono ?_
  rintro e w2 ⟨rfl, hb⟩
  have X2_0 := Lib.hid (X1_0.out.below0 hb)
  have X2_1 := Lib.hid (X1_1.out.below0 hb)
  have X2_2 := Lib.hid (X1_2.out.below0 hb)
  have B2 := Lib.hid (B1.out.trans (hb.mono B1.out.size))
  clear hb
  have Z2 := Lib.hid (zf_at w2)
  have Y2_0 := Lib.hid ((X2_0.out.alloc (.cells #[.int .i64 0, .int .i64 0, .int .i64 0, .int .i64 0, .int .i64 0, .int .i64 0] 23)).oth (b' := w2.heap.size) (by have := X2_0.out.lt; omega) (cl (zf)))
  have Y2_1 := Lib.hid ((X2_1.out.alloc (.cells #[.int .i64 0, .int .i64 0, .int .i64 0, .int .i64 0, .int .i64 0, .int .i64 0] 23)).oth (b' := w2.heap.size) (by have := X2_1.out.lt; omega) (cl (zf)))
  have Y2_2 := Lib.hid ((X2_2.out.alloc (.cells #[.int .i64 0, .int .i64 0, .int .i64 0, .int .i64 0, .int .i64 0, .int .i64 0] 23)).oth (b' := w2.heap.size) (by have := X2_2.out.lt; omega) (cl (zf)))
  have N2 := Lib.hid (Z2.out.row (g := zf))
  have C2 := Lib.hid (below_row (B2.out.alloc B2.out.size (.cells #[.int .i64 0, .int .i64 0, .int .i64 0, .int .i64 0, .int .i64 0, .int .i64 0] 23)) (b := w2.heap.size) B2.out.size (cl (zf)))
  go_wp2_with (first | refine wpList_store_row rfl _ _ _ rfl _ _ rfl rfl _ _ Z2.out HI1.out rfl HO1.out ?_ | refine load_rowG rfl _ _ rfl _ rfl _ _ _ _ Y2_0.out Tryd.underlying23 rfl HI2.out ?_ | refine load_rowG rfl _ _ rfl _ rfl _ _ _ _ Y2_1.out Tryd.underlying23 rfl HI3.out ?_ | refine load_rowG rfl _ _ rfl _ rfl _ _ _ _ Y2_2.out Tryd.underlying23 rfl HI4.out ?_ | refine load_rowG rfl _ _ rfl _ rfl _ _ _ _ N2.out Tryd.underlying23 rfl HI1.out ?_)
  refine (mul_c _ b a zf 3 HBA.out).mono ?_
  rintro e w3 ⟨rfl, hb⟩
  have X3_0 := Lib.hid (Y2_0.out.below0 hb)
  have X3_1 := Lib.hid (Y2_1.out.below0 hb)
  have X3_2 := Lib.hid (Y2_2.out.below0 hb)
  have X3_3 := Lib.hid (N2.out.below0 hb)
  have B3 := Lib.hid (C2.out.trans (hb.mono C2.out.size))
  clear hb
  have Z3 := Lib.hid (zf_at w3)
  have Y3_0 := Lib.hid ((X3_0.out.alloc (.cells #[.int .i64 0, .int .i64 0, .int .i64 0, .int .i64 0, .int .i64 0, .int .i64 0] 23)).oth (b' := w3.heap.size) (by have := X3_0.out.lt; omega) (cl (zf)))
  have Y3_1 := Lib.hid ((X3_1.out.alloc (.cells #[.int .i64 0, .int .i64 0, .int .i64 0, .int .i64 0, .int .i64 0, .int .i64 0] 23)).oth (b' := w3.heap.size) (by have := X3_1.out.lt; omega) (cl (zf)))
  have Y3_2 := Lib.hid ((X3_2.out.alloc (.cells #[.int .i64 0, .int .i64 0, .int .i64 0, .int .i64 0, .int .i64 0, .int .i64 0] 23)).oth (b' := w3.heap.size) (by have := X3_2.out.lt; omega) (cl (zf)))
  have Y3_3 := Lib.hid ((X3_3.out.alloc (.cells #[.int .i64 0, .int .i64 0, .int .i64 0, .int .i64 0, .int .i64 0, .int .i64 0] 23)).oth (b' := w3.heap.size) (by have := X3_3.out.lt; omega) (cl (zf)))
  have N3 := Lib.hid (Z3.out.row (g := zf))
  have C3 := Lib.hid (below_row (B3.out.alloc B3.out.size (.cells #[.int .i64 0, .int .i64 0, .int .i64 0, .int .i64 0, .int .i64 0, .int .i64 0] 23)) (b := w3.heap.size) B3.out.size (cl (zf)))
  go_wp2_with (first | refine wpList_store_row rfl _ _ _ rfl _ _ rfl rfl _ _ Z3.out HI1.out rfl HO1.out ?_ | refine load_rowG rfl _ _ rfl _ rfl _ _ _ _ Y3_0.out Tryd.underlying23 rfl HI2.out ?_ | refine load_rowG rfl _ _ rfl _ rfl _ _ _ _ Y3_1.out Tryd.underlying23 rfl HI3.out ?_ | refine load_rowG rfl _ _ rfl _ rfl _ _ _ _ Y3_2.out Tryd.underlying23 rfl HI4.out ?_ | refine load_rowG rfl _ _ rfl _ rfl _ _ _ _ Y3_3.out Tryd.underlying23 rfl HI1.out ?_ | refine load_rowG rfl _ _ rfl _ rfl _ _ _ _ N3.out Tryd.underlying23 rfl HI1.out ?_)
  refine (mul_c _ b c X g HBC.out).mono ?_
  rintro e w4 ⟨rfl, hb⟩
  have X4_0 := Lib.hid (Y3_0.out.below0 hb)
  have X4_1 := Lib.hid (Y3_1.out.below0 hb)
  have X4_2 := Lib.hid (Y3_2.out.below0 hb)
  have X4_3 := Lib.hid (Y3_3.out.below0 hb)
  have X4_4 := Lib.hid (N3.out.below0 hb)
  have B4 := Lib.hid (C3.out.trans (hb.mono C3.out.size))
  clear hb
  have HI5 := Lib.hid (infoDim (X))
  have HO5 := Lib.hid (oneDim (X))
  have Z4 := Lib.hid (zf_at w4)
  have Y4_0 := Lib.hid ((X4_0.out.alloc (.cells #[.int .i64 0, .int .i64 0, .int .i64 0, .int .i64 0, .int .i64 0, .int .i64 0] 23)).oth (b' := w4.heap.size) (by have := X4_0.out.lt; omega) (cl (X)))
  have Y4_1 := Lib.hid ((X4_1.out.alloc (.cells #[.int .i64 0, .int .i64 0, .int .i64 0, .int .i64 0, .int .i64 0, .int .i64 0] 23)).oth (b' := w4.heap.size) (by have := X4_1.out.lt; omega) (cl (X)))
  have Y4_2 := Lib.hid ((X4_2.out.alloc (.cells #[.int .i64 0, .int .i64 0, .int .i64 0, .int .i64 0, .int .i64 0, .int .i64 0] 23)).oth (b' := w4.heap.size) (by have := X4_2.out.lt; omega) (cl (X)))
  have Y4_3 := Lib.hid ((X4_3.out.alloc (.cells #[.int .i64 0, .int .i64 0, .int .i64 0, .int .i64 0, .int .i64 0, .int .i64 0] 23)).oth (b' := w4.heap.size) (by have := X4_3.out.lt; omega) (cl (X)))
  have Y4_4 := Lib.hid ((X4_4.out.alloc (.cells #[.int .i64 0, .int .i64 0, .int .i64 0, .int .i64 0, .int .i64 0, .int .i64 0] 23)).oth (b' := w4.heap.size) (by have := X4_4.out.lt; omega) (cl (X)))
  have N4 := Lib.hid (Z4.out.row (g := X))
  have C4 := Lib.hid (below_row (B4.out.alloc B4.out.size (.cells #[.int .i64 0, .int .i64 0, .int .i64 0, .int .i64 0, .int .i64 0, .int .i64 0] 23)) (b := w4.heap.size) B4.out.size (cl (X)))
  go_wp2_with (first | refine wpList_store_row rfl _ _ _ rfl _ _ rfl rfl _ _ Z4.out HI5.out rfl HO5.out ?_ | refine load_rowG rfl _ _ rfl _ rfl _ _ _ _ Y4_0.out Tryd.underlying23 rfl HI2.out ?_ | refine load_rowG rfl _ _ rfl _ rfl _ _ _ _ Y4_1.out Tryd.underlying23 rfl HI3.out ?_ | refine load_rowG rfl _ _ rfl _ rfl _ _ _ _ Y4_2.out Tryd.underlying23 rfl HI4.out ?_ | refine load_rowG rfl _ _ rfl _ rfl _ _ _ _ Y4_3.out Tryd.underlying23 rfl HI1.out ?_ | refine load_rowG rfl _ _ rfl _ rfl _ _ _ _ Y4_4.out Tryd.underlying23 rfl HI1.out ?_ | refine load_rowG rfl _ _ rfl _ rfl _ _ _ _ N4.out Tryd.underlying23 rfl HI5.out ?_)
  refine (right_c _ a true Roa.out).mono ?_
  rintro e w5 ⟨rfl, hb⟩
  have X5_0 := Lib.hid (Y4_0.out.below0 hb)
  have X5_1 := Lib.hid (Y4_1.out.below0 hb)
  have X5_2 := Lib.hid (Y4_2.out.below0 hb)
  have X5_3 := Lib.hid (Y4_3.out.below0 hb)
  have X5_4 := Lib.hid (Y4_4.out.below0 hb)
  have X5_5 := Lib.hid (N4.out.below0 hb)
  have B5 := Lib.hid (C4.out.trans (hb.mono C4.out.size))
  clear hb
  go_wp2_with (first | refine load_rowG rfl _ _ rfl _ rfl _ _ _ _ X5_0.out Tryd.underlying23 rfl HI2.out ?_ | refine load_rowG rfl _ _ rfl _ rfl _ _ _ _ X5_1.out Tryd.underlying23 rfl HI3.out ?_ | refine load_rowG rfl _ _ rfl _ rfl _ _ _ _ X5_2.out Tryd.underlying23 rfl HI4.out ?_ | refine load_rowG rfl _ _ rfl _ rfl _ _ _ _ X5_3.out Tryd.underlying23 rfl HI1.out ?_ | refine load_rowG rfl _ _ rfl _ rfl _ _ _ _ X5_4.out Tryd.underlying23 rfl HI1.out ?_ | refine load_rowG rfl _ _ rfl _ rfl _ _ _ _ X5_5.out Tryd.underlying23 rfl HI5.out ?_)
  refine (right_c _ b true Rob.out).mono ?_
  rintro e w6 ⟨rfl, hb⟩
  have X6_0 := Lib.hid (X5_0.out.below0 hb)
  have X6_1 := Lib.hid (X5_1.out.below0 hb)
  have X6_2 := Lib.hid (X5_2.out.below0 hb)
  have X6_3 := Lib.hid (X5_3.out.below0 hb)
  have X6_4 := Lib.hid (X5_4.out.below0 hb)
  have X6_5 := Lib.hid (X5_5.out.below0 hb)
  have B6 := Lib.hid (B5.out.trans (hb.mono B5.out.size))
  clear hb
  go_wp2_with (first | refine load_rowG rfl _ _ rfl _ rfl _ _ _ _ X6_0.out Tryd.underlying23 rfl HI2.out ?_ | refine load_rowG rfl _ _ rfl _ rfl _ _ _ _ X6_1.out Tryd.underlying23 rfl HI3.out ?_ | refine load_rowG rfl _ _ rfl _ rfl _ _ _ _ X6_2.out Tryd.underlying23 rfl HI4.out ?_ | refine load_rowG rfl _ _ rfl _ rfl _ _ _ _ X6_3.out Tryd.underlying23 rfl HI1.out ?_ | refine load_rowG rfl _ _ rfl _ rfl _ _ _ _ X6_4.out Tryd.underlying23 rfl HI1.out ?_ | refine load_rowG rfl _ _ rfl _ rfl _ _ _ _ X6_5.out Tryd.underlying23 rfl HI5.out ?_)
  refine (right_c _ zf true ok_zf).mono ?_
  rintro e w7 ⟨rfl, hb⟩
  have X7_0 := Lib.hid (X6_0.out.below0 hb)
  have X7_1 := Lib.hid (X6_1.out.below0 hb)
  have X7_2 := Lib.hid (X6_2.out.below0 hb)
  have X7_3 := Lib.hid (X6_3.out.below0 hb)
  have X7_4 := Lib.hid (X6_4.out.below0 hb)
  have X7_5 := Lib.hid (X6_5.out.below0 hb)
  have B7 := Lib.hid (B6.out.trans (hb.mono B6.out.size))
  clear hb
  go_wp2_with (first | refine load_rowG rfl _ _ rfl _ rfl _ _ _ _ X7_0.out Tryd.underlying23 rfl HI2.out ?_ | refine load_rowG rfl _ _ rfl _ rfl _ _ _ _ X7_1.out Tryd.underlying23 rfl HI3.out ?_ | refine load_rowG rfl _ _ rfl _ rfl _ _ _ _ X7_2.out Tryd.underlying23 rfl HI4.out ?_ | refine load_rowG rfl _ _ rfl _ rfl _ _ _ _ X7_3.out Tryd.underlying23 rfl HI1.out ?_ | refine load_rowG rfl _ _ rfl _ rfl _ _ _ _ X7_4.out Tryd.underlying23 rfl HI1.out ?_ | refine load_rowG rfl _ _ rfl _ rfl _ _ _ _ X7_5.out Tryd.underlying23 rfl HI5.out ?_)
  go_ret
  exact ⟨rfl, B7.out⟩

set_option maxHeartbeats 16000000 in
theorem group_c1 (a b c S X Y : Nat → Int) (k : Int) (oa : ok a = true) (ob : ok b = true) (os : ok S = true) (hab : mulR a b = DE S 0) (hba : mulR b a = DE S 0) (hbc : mulR b c = DE X 1)
    (hback : divR S b = DE a 0) (hsame : mulR a zf = DE a 0) (hnone : divR a a = DE zf 0) (hone : mulR S c = DE Y k) (w : World) (he : Env w) : Calls Tryd.prog 4 #[.agg (cl a), .agg (cl b), .agg (cl c)] w (Gives (.bool true) w) := by
  have HE := Lib.hid he
  have bd0 := build0
  have eqs := eq_self
  have qzf : ∀ W, (Op.equalIn 10000 23 (.agg (cl zf)) (.agg #[.int .i64 0, .int .i64 0, .int .i64 0, .int .i64 0, .int .i64 0, .int .i64 0])).run Tryd.prog W = .ok true W := eq_self zf
  obtain ⟨a0, a1, a2, a3⟩ := three_of a b c w
  have A0 := Lib.hid a0
  have A1 := Lib.hid a1
  have A2 := Lib.hid a2
  have HB0 := Lib.hid a3
  clear a0 a1 a2 a3 he
  have Hhab := Lib.hid hab
  have Hhba := Lib.hid hba
  have Hhbc := Lib.hid hbc
  have Hhback := Lib.hid hback
  have Hhsame := Lib.hid hsame
  have Hhnone := Lib.hid hnone
  have Hhone := Lib.hid hone
  have Hoa := Lib.hid oa
  have Hob := Lib.hid ob
  have Hos := Lib.hid os
  clear hab hba hbc hback hsame hnone hone oa ob os
  have HI1 := Lib.hid (infoDim (zf))
  have HO1 := Lib.hid (oneDim (zf))
  have HI2 := Lib.hid (infoDim (a))
  have HO2 := Lib.hid (oneDim (a))
  have HI3 := Lib.hid (infoDim (b))
  have HO3 := Lib.hid (oneDim (b))
  have HI4 := Lib.hid (infoDim (c))
  have HO4 := Lib.hid (oneDim (c))
  go_enter Tryd.func4, Tryd.ntmps4
  go_wp2_with (first | refine load_rowG rfl _ _ rfl _ rfl _ _ _ _ A0.out Tryd.underlying23 rfl HI2.out ?_ | refine load_rowG rfl _ _ rfl _ rfl _ _ _ _ A1.out Tryd.underlying23 rfl HI3.out ?_ | refine load_rowG rfl _ _ rfl _ rfl _ _ _ _ A2.out Tryd.underlying23 rfl HI4.out ?_)
  refine (sane_any _ (HE.out.below HB0.out)).mono ?_
  rintro e w1 ⟨rfl, hb⟩
  have X1_0 := Lib.hid (A0.out.below0 hb)
  have X1_1 := Lib.hid (A1.out.below0 hb)
  have X1_2 := Lib.hid (A2.out.below0 hb)
  have B1 := Lib.hid (HB0.out.trans (hb.mono HB0.out.size))
  clear hb
  go_wp2_with (first | refine load_rowG rfl _ _ rfl _ rfl _ _ _ _ X1_0.out Tryd.underlying23 rfl HI2.out ?_ | refine load_rowG rfl _ _ rfl _ rfl _ _ _ _ X1_1.out Tryd.underlying23 rfl HI3.out ?_ | refine load_rowG rfl _ _ rfl _ rfl _ _ _ _ X1_2.out Tryd.underlying23 rfl HI4.out ?_)
  refine (mul_c _ a b S 0 Hhab.out).mono ?_
  rintro e w2 ⟨rfl, hb⟩
  have X2_0 := Lib.hid (X1_0.out.below0 hb)
  have X2_1 := Lib.hid (X1_1.out.below0 hb)
  have X2_2 := Lib.hid (X1_2.out.below0 hb)
  have B2 := Lib.hid (B1.out.trans (hb.mono B1.out.size))
  clear hb
  have HI5 := Lib.hid (infoDim (S))
  have HO5 := Lib.hid (oneDim (S))
  have Z2 := Lib.hid (zf_at w2)
  have Y2_0 := Lib.hid ((X2_0.out.alloc (.cells #[.int .i64 0, .int .i64 0, .int .i64 0, .int .i64 0, .int .i64 0, .int .i64 0] 23)).oth (b' := w2.heap.size) (by have := X2_0.out.lt; omega) (cl (S)))
  have Y2_1 := Lib.hid ((X2_1.out.alloc (.cells #[.int .i64 0, .int .i64 0, .int .i64 0, .int .i64 0, .int .i64 0, .int .i64 0] 23)).oth (b' := w2.heap.size) (by have := X2_1.out.lt; omega) (cl (S)))
  have Y2_2 := Lib.hid ((X2_2.out.alloc (.cells #[.int .i64 0, .int .i64 0, .int .i64 0, .int .i64 0, .int .i64 0, .int .i64 0] 23)).oth (b' := w2.heap.size) (by have := X2_2.out.lt; omega) (cl (S)))
  have N2 := Lib.hid (Z2.out.row (g := S))
  have C2 := Lib.hid (below_row (B2.out.alloc B2.out.size (.cells #[.int .i64 0, .int .i64 0, .int .i64 0, .int .i64 0, .int .i64 0, .int .i64 0] 23)) (b := w2.heap.size) B2.out.size (cl (S)))
  go_wp2_with (first | refine wpList_store_row rfl _ _ _ rfl _ _ rfl rfl _ _ Z2.out HI5.out rfl HO5.out ?_ | refine load_rowG rfl _ _ rfl _ rfl _ _ _ _ Y2_0.out Tryd.underlying23 rfl HI2.out ?_ | refine load_rowG rfl _ _ rfl _ rfl _ _ _ _ Y2_1.out Tryd.underlying23 rfl HI3.out ?_ | refine load_rowG rfl _ _ rfl _ rfl _ _ _ _ Y2_2.out Tryd.underlying23 rfl HI4.out ?_ | refine load_rowG rfl _ _ rfl _ rfl _ _ _ _ N2.out Tryd.underlying23 rfl HI5.out ?_)
  refine (mul_c _ b a S 0 Hhba.out).mono ?_
  rintro e w3 ⟨rfl, hb⟩
  have X3_0 := Lib.hid (Y2_0.out.below0 hb)
  have X3_1 := Lib.hid (Y2_1.out.below0 hb)
  have X3_2 := Lib.hid (Y2_2.out.below0 hb)
  have X3_3 := Lib.hid (N2.out.below0 hb)
  have B3 := Lib.hid (C2.out.trans (hb.mono C2.out.size))
  clear hb
  have Z3 := Lib.hid (zf_at w3)
  have Y3_0 := Lib.hid ((X3_0.out.alloc (.cells #[.int .i64 0, .int .i64 0, .int .i64 0, .int .i64 0, .int .i64 0, .int .i64 0] 23)).oth (b' := w3.heap.size) (by have := X3_0.out.lt; omega) (cl (S)))
  have Y3_1 := Lib.hid ((X3_1.out.alloc (.cells #[.int .i64 0, .int .i64 0, .int .i64 0, .int .i64 0, .int .i64 0, .int .i64 0] 23)).oth (b' := w3.heap.size) (by have := X3_1.out.lt; omega) (cl (S)))
  have Y3_2 := Lib.hid ((X3_2.out.alloc (.cells #[.int .i64 0, .int .i64 0, .int .i64 0, .int .i64 0, .int .i64 0, .int .i64 0] 23)).oth (b' := w3.heap.size) (by have := X3_2.out.lt; omega) (cl (S)))
  have Y3_3 := Lib.hid ((X3_3.out.alloc (.cells #[.int .i64 0, .int .i64 0, .int .i64 0, .int .i64 0, .int .i64 0, .int .i64 0] 23)).oth (b' := w3.heap.size) (by have := X3_3.out.lt; omega) (cl (S)))
  have N3 := Lib.hid (Z3.out.row (g := S))
  have C3 := Lib.hid (below_row (B3.out.alloc B3.out.size (.cells #[.int .i64 0, .int .i64 0, .int .i64 0, .int .i64 0, .int .i64 0, .int .i64 0] 23)) (b := w3.heap.size) B3.out.size (cl (S)))
  go_wp2_with (first | refine wpList_store_row rfl _ _ _ rfl _ _ rfl rfl _ _ Z3.out HI5.out rfl HO5.out ?_ | refine load_rowG rfl _ _ rfl _ rfl _ _ _ _ Y3_0.out Tryd.underlying23 rfl HI2.out ?_ | refine load_rowG rfl _ _ rfl _ rfl _ _ _ _ Y3_1.out Tryd.underlying23 rfl HI3.out ?_ | refine load_rowG rfl _ _ rfl _ rfl _ _ _ _ Y3_2.out Tryd.underlying23 rfl HI4.out ?_ | refine load_rowG rfl _ _ rfl _ rfl _ _ _ _ Y3_3.out Tryd.underlying23 rfl HI5.out ?_ | refine load_rowG rfl _ _ rfl _ rfl _ _ _ _ N3.out Tryd.underlying23 rfl HI5.out ?_)
  refine (mul_c _ b c X 1 Hhbc.out).mono ?_
  rintro e w4 ⟨rfl, hb⟩
  have X4_0 := Lib.hid (Y3_0.out.below0 hb)
  have X4_1 := Lib.hid (Y3_1.out.below0 hb)
  have X4_2 := Lib.hid (Y3_2.out.below0 hb)
  have X4_3 := Lib.hid (Y3_3.out.below0 hb)
  have X4_4 := Lib.hid (N3.out.below0 hb)
  have B4 := Lib.hid (C3.out.trans (hb.mono C3.out.size))
  clear hb
  have HI6 := Lib.hid (infoDim (X))
  have HO6 := Lib.hid (oneDim (X))
  have Z4 := Lib.hid (zf_at w4)
  have Y4_0 := Lib.hid ((X4_0.out.alloc (.cells #[.int .i64 0, .int .i64 0, .int .i64 0, .int .i64 0, .int .i64 0, .int .i64 0] 23)).oth (b' := w4.heap.size) (by have := X4_0.out.lt; omega) (cl (X)))
  have Y4_1 := Lib.hid ((X4_1.out.alloc (.cells #[.int .i64 0, .int .i64 0, .int .i64 0, .int .i64 0, .int .i64 0, .int .i64 0] 23)).oth (b' := w4.heap.size) (by have := X4_1.out.lt; omega) (cl (X)))
  have Y4_2 := Lib.hid ((X4_2.out.alloc (.cells #[.int .i64 0, .int .i64 0, .int .i64 0, .int .i64 0, .int .i64 0, .int .i64 0] 23)).oth (b' := w4.heap.size) (by have := X4_2.out.lt; omega) (cl (X)))
  have Y4_3 := Lib.hid ((X4_3.out.alloc (.cells #[.int .i64 0, .int .i64 0, .int .i64 0, .int .i64 0, .int .i64 0, .int .i64 0] 23)).oth (b' := w4.heap.size) (by have := X4_3.out.lt; omega) (cl (X)))
  have Y4_4 := Lib.hid ((X4_4.out.alloc (.cells #[.int .i64 0, .int .i64 0, .int .i64 0, .int .i64 0, .int .i64 0, .int .i64 0] 23)).oth (b' := w4.heap.size) (by have := X4_4.out.lt; omega) (cl (X)))
  have N4 := Lib.hid (Z4.out.row (g := X))
  have C4 := Lib.hid (below_row (B4.out.alloc B4.out.size (.cells #[.int .i64 0, .int .i64 0, .int .i64 0, .int .i64 0, .int .i64 0, .int .i64 0] 23)) (b := w4.heap.size) B4.out.size (cl (X)))
  go_wp2_with (first | refine wpList_store_row rfl _ _ _ rfl _ _ rfl rfl _ _ Z4.out HI6.out rfl HO6.out ?_ | refine load_rowG rfl _ _ rfl _ rfl _ _ _ _ Y4_0.out Tryd.underlying23 rfl HI2.out ?_ | refine load_rowG rfl _ _ rfl _ rfl _ _ _ _ Y4_1.out Tryd.underlying23 rfl HI3.out ?_ | refine load_rowG rfl _ _ rfl _ rfl _ _ _ _ Y4_2.out Tryd.underlying23 rfl HI4.out ?_ | refine load_rowG rfl _ _ rfl _ rfl _ _ _ _ Y4_3.out Tryd.underlying23 rfl HI5.out ?_ | refine load_rowG rfl _ _ rfl _ rfl _ _ _ _ Y4_4.out Tryd.underlying23 rfl HI5.out ?_ | refine load_rowG rfl _ _ rfl _ rfl _ _ _ _ N4.out Tryd.underlying23 rfl HI6.out ?_)
  refine (right_c _ a true Hoa.out).mono ?_
  rintro e w5 ⟨rfl, hb⟩
  have X5_0 := Lib.hid (Y4_0.out.below0 hb)
  have X5_1 := Lib.hid (Y4_1.out.below0 hb)
  have X5_2 := Lib.hid (Y4_2.out.below0 hb)
  have X5_3 := Lib.hid (Y4_3.out.below0 hb)
  have X5_4 := Lib.hid (Y4_4.out.below0 hb)
  have X5_5 := Lib.hid (N4.out.below0 hb)
  have B5 := Lib.hid (C4.out.trans (hb.mono C4.out.size))
  clear hb
  go_wp2_with (first | refine load_rowG rfl _ _ rfl _ rfl _ _ _ _ X5_0.out Tryd.underlying23 rfl HI2.out ?_ | refine load_rowG rfl _ _ rfl _ rfl _ _ _ _ X5_1.out Tryd.underlying23 rfl HI3.out ?_ | refine load_rowG rfl _ _ rfl _ rfl _ _ _ _ X5_2.out Tryd.underlying23 rfl HI4.out ?_ | refine load_rowG rfl _ _ rfl _ rfl _ _ _ _ X5_3.out Tryd.underlying23 rfl HI5.out ?_ | refine load_rowG rfl _ _ rfl _ rfl _ _ _ _ X5_4.out Tryd.underlying23 rfl HI5.out ?_ | refine load_rowG rfl _ _ rfl _ rfl _ _ _ _ X5_5.out Tryd.underlying23 rfl HI6.out ?_)
  refine (right_c _ b true Hob.out).mono ?_
  rintro e w6 ⟨rfl, hb⟩
  have X6_0 := Lib.hid (X5_0.out.below0 hb)
  have X6_1 := Lib.hid (X5_1.out.below0 hb)
  have X6_2 := Lib.hid (X5_2.out.below0 hb)
  have X6_3 := Lib.hid (X5_3.out.below0 hb)
  have X6_4 := Lib.hid (X5_4.out.below0 hb)
  have X6_5 := Lib.hid (X5_5.out.below0 hb)
  have B6 := Lib.hid (B5.out.trans (hb.mono B5.out.size))
  clear hb
  go_wp2_with (first | refine load_rowG rfl _ _ rfl _ rfl _ _ _ _ X6_0.out Tryd.underlying23 rfl HI2.out ?_ | refine load_rowG rfl _ _ rfl _ rfl _ _ _ _ X6_1.out Tryd.underlying23 rfl HI3.out ?_ | refine load_rowG rfl _ _ rfl _ rfl _ _ _ _ X6_2.out Tryd.underlying23 rfl HI4.out ?_ | refine load_rowG rfl _ _ rfl _ rfl _ _ _ _ X6_3.out Tryd.underlying23 rfl HI5.out ?_ | refine load_rowG rfl _ _ rfl _ rfl _ _ _ _ X6_4.out Tryd.underlying23 rfl HI5.out ?_ | refine load_rowG rfl _ _ rfl _ rfl _ _ _ _ X6_5.out Tryd.underlying23 rfl HI6.out ?_)
  refine (right_c _ S true Hos.out).mono ?_
  rintro e w7 ⟨rfl, hb⟩
  have X7_0 := Lib.hid (X6_0.out.below0 hb)
  have X7_1 := Lib.hid (X6_1.out.below0 hb)
  have X7_2 := Lib.hid (X6_2.out.below0 hb)
  have X7_3 := Lib.hid (X6_3.out.below0 hb)
  have X7_4 := Lib.hid (X6_4.out.below0 hb)
  have X7_5 := Lib.hid (X6_5.out.below0 hb)
  have B7 := Lib.hid (B6.out.trans (hb.mono B6.out.size))
  clear hb
  go_wp2_with (first | refine load_rowG rfl _ _ rfl _ rfl _ _ _ _ X7_0.out Tryd.underlying23 rfl HI2.out ?_ | refine load_rowG rfl _ _ rfl _ rfl _ _ _ _ X7_1.out Tryd.underlying23 rfl HI3.out ?_ | refine load_rowG rfl _ _ rfl _ rfl _ _ _ _ X7_2.out Tryd.underlying23 rfl HI4.out ?_ | refine load_rowG rfl _ _ rfl _ rfl _ _ _ _ X7_3.out Tryd.underlying23 rfl HI5.out ?_ | refine load_rowG rfl _ _ rfl _ rfl _ _ _ _ X7_4.out Tryd.underlying23 rfl HI5.out ?_ | refine load_rowG rfl _ _ rfl _ rfl _ _ _ _ X7_5.out Tryd.underlying23 rfl HI6.out ?_)
  refine (div_c _ S b a 0 Hhback.out).mono ?_
  rintro e w8 ⟨rfl, hb⟩
  have X8_0 := Lib.hid (X7_0.out.below0 hb)
  have X8_1 := Lib.hid (X7_1.out.below0 hb)
  have X8_2 := Lib.hid (X7_2.out.below0 hb)
  have X8_3 := Lib.hid (X7_3.out.below0 hb)
  have X8_4 := Lib.hid (X7_4.out.below0 hb)
  have X8_5 := Lib.hid (X7_5.out.below0 hb)
  have B8 := Lib.hid (B7.out.trans (hb.mono B7.out.size))
  clear hb
  have Z8 := Lib.hid (zf_at w8)
  have Y8_0 := Lib.hid ((X8_0.out.alloc (.cells #[.int .i64 0, .int .i64 0, .int .i64 0, .int .i64 0, .int .i64 0, .int .i64 0] 23)).oth (b' := w8.heap.size) (by have := X8_0.out.lt; omega) (cl (a)))
  have Y8_1 := Lib.hid ((X8_1.out.alloc (.cells #[.int .i64 0, .int .i64 0, .int .i64 0, .int .i64 0, .int .i64 0, .int .i64 0] 23)).oth (b' := w8.heap.size) (by have := X8_1.out.lt; omega) (cl (a)))
  have Y8_2 := Lib.hid ((X8_2.out.alloc (.cells #[.int .i64 0, .int .i64 0, .int .i64 0, .int .i64 0, .int .i64 0, .int .i64 0] 23)).oth (b' := w8.heap.size) (by have := X8_2.out.lt; omega) (cl (a)))
  have Y8_3 := Lib.hid ((X8_3.out.alloc (.cells #[.int .i64 0, .int .i64 0, .int .i64 0, .int .i64 0, .int .i64 0, .int .i64 0] 23)).oth (b' := w8.heap.size) (by have := X8_3.out.lt; omega) (cl (a)))
  have Y8_4 := Lib.hid ((X8_4.out.alloc (.cells #[.int .i64 0, .int .i64 0, .int .i64 0, .int .i64 0, .int .i64 0, .int .i64 0] 23)).oth (b' := w8.heap.size) (by have := X8_4.out.lt; omega) (cl (a)))
  have Y8_5 := Lib.hid ((X8_5.out.alloc (.cells #[.int .i64 0, .int .i64 0, .int .i64 0, .int .i64 0, .int .i64 0, .int .i64 0] 23)).oth (b' := w8.heap.size) (by have := X8_5.out.lt; omega) (cl (a)))
  have N8 := Lib.hid (Z8.out.row (g := a))
  have C8 := Lib.hid (below_row (B8.out.alloc B8.out.size (.cells #[.int .i64 0, .int .i64 0, .int .i64 0, .int .i64 0, .int .i64 0, .int .i64 0] 23)) (b := w8.heap.size) B8.out.size (cl (a)))
  go_wp2_with (first | refine wpList_store_row rfl _ _ _ rfl _ _ rfl rfl _ _ Z8.out HI2.out rfl HO2.out ?_ | refine load_rowG rfl _ _ rfl _ rfl _ _ _ _ Y8_0.out Tryd.underlying23 rfl HI2.out ?_ | refine load_rowG rfl _ _ rfl _ rfl _ _ _ _ Y8_1.out Tryd.underlying23 rfl HI3.out ?_ | refine load_rowG rfl _ _ rfl _ rfl _ _ _ _ Y8_2.out Tryd.underlying23 rfl HI4.out ?_ | refine load_rowG rfl _ _ rfl _ rfl _ _ _ _ Y8_3.out Tryd.underlying23 rfl HI5.out ?_ | refine load_rowG rfl _ _ rfl _ rfl _ _ _ _ Y8_4.out Tryd.underlying23 rfl HI5.out ?_ | refine load_rowG rfl _ _ rfl _ rfl _ _ _ _ Y8_5.out Tryd.underlying23 rfl HI6.out ?_ | refine load_rowG rfl _ _ rfl _ rfl _ _ _ _ N8.out Tryd.underlying23 rfl HI2.out ?_)
  refine (mul_c _ a zf a 0 Hhsame.out).mono ?_
  rintro e w9 ⟨rfl, hb⟩
  have X9_0 := Lib.hid (Y8_0.out.below0 hb)
  have X9_1 := Lib.hid (Y8_1.out.below0 hb)
  have X9_2 := Lib.hid (Y8_2.out.below0 hb)
  have X9_3 := Lib.hid (Y8_3.out.below0 hb)
  have X9_4 := Lib.hid (Y8_4.out.below0 hb)
  have X9_5 := Lib.hid (Y8_5.out.below0 hb)
  have X9_6 := Lib.hid (N8.out.below0 hb)
  have B9 := Lib.hid (C8.out.trans (hb.mono C8.out.size))
  clear hb
  have Z9 := Lib.hid (zf_at w9)
  have Y9_0 := Lib.hid ((X9_0.out.alloc (.cells #[.int .i64 0, .int .i64 0, .int .i64 0, .int .i64 0, .int .i64 0, .int .i64 0] 23)).oth (b' := w9.heap.size) (by have := X9_0.out.lt; omega) (cl (a)))
  have Y9_1 := Lib.hid ((X9_1.out.alloc (.cells #[.int .i64 0, .int .i64 0, .int .i64 0, .int .i64 0, .int .i64 0, .int .i64 0] 23)).oth (b' := w9.heap.size) (by have := X9_1.out.lt; omega) (cl (a)))
  have Y9_2 := Lib.hid ((X9_2.out.alloc (.cells #[.int .i64 0, .int .i64 0, .int .i64 0, .int .i64 0, .int .i64 0, .int .i64 0] 23)).oth (b' := w9.heap.size) (by have := X9_2.out.lt; omega) (cl (a)))
  have Y9_3 := Lib.hid ((X9_3.out.alloc (.cells #[.int .i64 0, .int .i64 0, .int .i64 0, .int .i64 0, .int .i64 0, .int .i64 0] 23)).oth (b' := w9.heap.size) (by have := X9_3.out.lt; omega) (cl (a)))
  have Y9_4 := Lib.hid ((X9_4.out.alloc (.cells #[.int .i64 0, .int .i64 0, .int .i64 0, .int .i64 0, .int .i64 0, .int .i64 0] 23)).oth (b' := w9.heap.size) (by have := X9_4.out.lt; omega) (cl (a)))
  have Y9_5 := Lib.hid ((X9_5.out.alloc (.cells #[.int .i64 0, .int .i64 0, .int .i64 0, .int .i64 0, .int .i64 0, .int .i64 0] 23)).oth (b' := w9.heap.size) (by have := X9_5.out.lt; omega) (cl (a)))
  have Y9_6 := Lib.hid ((X9_6.out.alloc (.cells #[.int .i64 0, .int .i64 0, .int .i64 0, .int .i64 0, .int .i64 0, .int .i64 0] 23)).oth (b' := w9.heap.size) (by have := X9_6.out.lt; omega) (cl (a)))
  have N9 := Lib.hid (Z9.out.row (g := a))
  have C9 := Lib.hid (below_row (B9.out.alloc B9.out.size (.cells #[.int .i64 0, .int .i64 0, .int .i64 0, .int .i64 0, .int .i64 0, .int .i64 0] 23)) (b := w9.heap.size) B9.out.size (cl (a)))
  go_wp2_with (first | refine wpList_store_row rfl _ _ _ rfl _ _ rfl rfl _ _ Z9.out HI2.out rfl HO2.out ?_ | refine load_rowG rfl _ _ rfl _ rfl _ _ _ _ Y9_0.out Tryd.underlying23 rfl HI2.out ?_ | refine load_rowG rfl _ _ rfl _ rfl _ _ _ _ Y9_1.out Tryd.underlying23 rfl HI3.out ?_ | refine load_rowG rfl _ _ rfl _ rfl _ _ _ _ Y9_2.out Tryd.underlying23 rfl HI4.out ?_ | refine load_rowG rfl _ _ rfl _ rfl _ _ _ _ Y9_3.out Tryd.underlying23 rfl HI5.out ?_ | refine load_rowG rfl _ _ rfl _ rfl _ _ _ _ Y9_4.out Tryd.underlying23 rfl HI5.out ?_ | refine load_rowG rfl _ _ rfl _ rfl _ _ _ _ Y9_5.out Tryd.underlying23 rfl HI6.out ?_ | refine load_rowG rfl _ _ rfl _ rfl _ _ _ _ Y9_6.out Tryd.underlying23 rfl HI2.out ?_ | refine load_rowG rfl _ _ rfl _ rfl _ _ _ _ N9.out Tryd.underlying23 rfl HI2.out ?_)
  refine (div_c _ a a zf 0 Hhnone.out).mono ?_
  rintro e w10 ⟨rfl, hb⟩
  have X10_0 := Lib.hid (Y9_0.out.below0 hb)
  have X10_1 := Lib.hid (Y9_1.out.below0 hb)
  have X10_2 := Lib.hid (Y9_2.out.below0 hb)
  have X10_3 := Lib.hid (Y9_3.out.below0 hb)
  have X10_4 := Lib.hid (Y9_4.out.below0 hb)
  have X10_5 := Lib.hid (Y9_5.out.below0 hb)
  have X10_6 := Lib.hid (Y9_6.out.below0 hb)
  have X10_7 := Lib.hid (N9.out.below0 hb)
  have B10 := Lib.hid (C9.out.trans (hb.mono C9.out.size))
  clear hb
  have Z10 := Lib.hid (zf_at w10)
  have Y10_0 := Lib.hid ((X10_0.out.alloc (.cells #[.int .i64 0, .int .i64 0, .int .i64 0, .int .i64 0, .int .i64 0, .int .i64 0] 23)).oth (b' := w10.heap.size) (by have := X10_0.out.lt; omega) (cl (zf)))
  have Y10_1 := Lib.hid ((X10_1.out.alloc (.cells #[.int .i64 0, .int .i64 0, .int .i64 0, .int .i64 0, .int .i64 0, .int .i64 0] 23)).oth (b' := w10.heap.size) (by have := X10_1.out.lt; omega) (cl (zf)))
  have Y10_2 := Lib.hid ((X10_2.out.alloc (.cells #[.int .i64 0, .int .i64 0, .int .i64 0, .int .i64 0, .int .i64 0, .int .i64 0] 23)).oth (b' := w10.heap.size) (by have := X10_2.out.lt; omega) (cl (zf)))
  have Y10_3 := Lib.hid ((X10_3.out.alloc (.cells #[.int .i64 0, .int .i64 0, .int .i64 0, .int .i64 0, .int .i64 0, .int .i64 0] 23)).oth (b' := w10.heap.size) (by have := X10_3.out.lt; omega) (cl (zf)))
  have Y10_4 := Lib.hid ((X10_4.out.alloc (.cells #[.int .i64 0, .int .i64 0, .int .i64 0, .int .i64 0, .int .i64 0, .int .i64 0] 23)).oth (b' := w10.heap.size) (by have := X10_4.out.lt; omega) (cl (zf)))
  have Y10_5 := Lib.hid ((X10_5.out.alloc (.cells #[.int .i64 0, .int .i64 0, .int .i64 0, .int .i64 0, .int .i64 0, .int .i64 0] 23)).oth (b' := w10.heap.size) (by have := X10_5.out.lt; omega) (cl (zf)))
  have Y10_6 := Lib.hid ((X10_6.out.alloc (.cells #[.int .i64 0, .int .i64 0, .int .i64 0, .int .i64 0, .int .i64 0, .int .i64 0] 23)).oth (b' := w10.heap.size) (by have := X10_6.out.lt; omega) (cl (zf)))
  have Y10_7 := Lib.hid ((X10_7.out.alloc (.cells #[.int .i64 0, .int .i64 0, .int .i64 0, .int .i64 0, .int .i64 0, .int .i64 0] 23)).oth (b' := w10.heap.size) (by have := X10_7.out.lt; omega) (cl (zf)))
  have N10 := Lib.hid (Z10.out.row (g := zf))
  have C10 := Lib.hid (below_row (B10.out.alloc B10.out.size (.cells #[.int .i64 0, .int .i64 0, .int .i64 0, .int .i64 0, .int .i64 0, .int .i64 0] 23)) (b := w10.heap.size) B10.out.size (cl (zf)))
  go_wp2_with (first | refine wpList_store_row rfl _ _ _ rfl _ _ rfl rfl _ _ Z10.out HI1.out rfl HO1.out ?_ | refine load_rowG rfl _ _ rfl _ rfl _ _ _ _ Y10_0.out Tryd.underlying23 rfl HI2.out ?_ | refine load_rowG rfl _ _ rfl _ rfl _ _ _ _ Y10_1.out Tryd.underlying23 rfl HI3.out ?_ | refine load_rowG rfl _ _ rfl _ rfl _ _ _ _ Y10_2.out Tryd.underlying23 rfl HI4.out ?_ | refine load_rowG rfl _ _ rfl _ rfl _ _ _ _ Y10_3.out Tryd.underlying23 rfl HI5.out ?_ | refine load_rowG rfl _ _ rfl _ rfl _ _ _ _ Y10_4.out Tryd.underlying23 rfl HI5.out ?_ | refine load_rowG rfl _ _ rfl _ rfl _ _ _ _ Y10_5.out Tryd.underlying23 rfl HI6.out ?_ | refine load_rowG rfl _ _ rfl _ rfl _ _ _ _ Y10_6.out Tryd.underlying23 rfl HI2.out ?_ | refine load_rowG rfl _ _ rfl _ rfl _ _ _ _ Y10_7.out Tryd.underlying23 rfl HI2.out ?_ | refine load_rowG rfl _ _ rfl _ rfl _ _ _ _ N10.out Tryd.underlying23 rfl HI1.out ?_)
  refine (mul_c _ S c Y k Hhone.out).mono ?_
  rintro e w11 ⟨rfl, hb⟩
  have X11_0 := Lib.hid (Y10_0.out.below0 hb)
  have X11_1 := Lib.hid (Y10_1.out.below0 hb)
  have X11_2 := Lib.hid (Y10_2.out.below0 hb)
  have X11_3 := Lib.hid (Y10_3.out.below0 hb)
  have X11_4 := Lib.hid (Y10_4.out.below0 hb)
  have X11_5 := Lib.hid (Y10_5.out.below0 hb)
  have X11_6 := Lib.hid (Y10_6.out.below0 hb)
  have X11_7 := Lib.hid (Y10_7.out.below0 hb)
  have X11_8 := Lib.hid (N10.out.below0 hb)
  have B11 := Lib.hid (C10.out.trans (hb.mono C10.out.size))
  clear hb
  have HI7 := Lib.hid (infoDim (Y))
  have HO7 := Lib.hid (oneDim (Y))
  have Z11 := Lib.hid (zf_at w11)
  have Y11_0 := Lib.hid ((X11_0.out.alloc (.cells #[.int .i64 0, .int .i64 0, .int .i64 0, .int .i64 0, .int .i64 0, .int .i64 0] 23)).oth (b' := w11.heap.size) (by have := X11_0.out.lt; omega) (cl (Y)))
  have Y11_1 := Lib.hid ((X11_1.out.alloc (.cells #[.int .i64 0, .int .i64 0, .int .i64 0, .int .i64 0, .int .i64 0, .int .i64 0] 23)).oth (b' := w11.heap.size) (by have := X11_1.out.lt; omega) (cl (Y)))
  have Y11_2 := Lib.hid ((X11_2.out.alloc (.cells #[.int .i64 0, .int .i64 0, .int .i64 0, .int .i64 0, .int .i64 0, .int .i64 0] 23)).oth (b' := w11.heap.size) (by have := X11_2.out.lt; omega) (cl (Y)))
  have Y11_3 := Lib.hid ((X11_3.out.alloc (.cells #[.int .i64 0, .int .i64 0, .int .i64 0, .int .i64 0, .int .i64 0, .int .i64 0] 23)).oth (b' := w11.heap.size) (by have := X11_3.out.lt; omega) (cl (Y)))
  have Y11_4 := Lib.hid ((X11_4.out.alloc (.cells #[.int .i64 0, .int .i64 0, .int .i64 0, .int .i64 0, .int .i64 0, .int .i64 0] 23)).oth (b' := w11.heap.size) (by have := X11_4.out.lt; omega) (cl (Y)))
  have Y11_5 := Lib.hid ((X11_5.out.alloc (.cells #[.int .i64 0, .int .i64 0, .int .i64 0, .int .i64 0, .int .i64 0, .int .i64 0] 23)).oth (b' := w11.heap.size) (by have := X11_5.out.lt; omega) (cl (Y)))
  have Y11_6 := Lib.hid ((X11_6.out.alloc (.cells #[.int .i64 0, .int .i64 0, .int .i64 0, .int .i64 0, .int .i64 0, .int .i64 0] 23)).oth (b' := w11.heap.size) (by have := X11_6.out.lt; omega) (cl (Y)))
  have Y11_7 := Lib.hid ((X11_7.out.alloc (.cells #[.int .i64 0, .int .i64 0, .int .i64 0, .int .i64 0, .int .i64 0, .int .i64 0] 23)).oth (b' := w11.heap.size) (by have := X11_7.out.lt; omega) (cl (Y)))
  have Y11_8 := Lib.hid ((X11_8.out.alloc (.cells #[.int .i64 0, .int .i64 0, .int .i64 0, .int .i64 0, .int .i64 0, .int .i64 0] 23)).oth (b' := w11.heap.size) (by have := X11_8.out.lt; omega) (cl (Y)))
  have N11 := Lib.hid (Z11.out.row (g := Y))
  have C11 := Lib.hid (below_row (B11.out.alloc B11.out.size (.cells #[.int .i64 0, .int .i64 0, .int .i64 0, .int .i64 0, .int .i64 0, .int .i64 0] 23)) (b := w11.heap.size) B11.out.size (cl (Y)))
  go_wp2_with (first | refine wpList_store_row rfl _ _ _ rfl _ _ rfl rfl _ _ Z11.out HI7.out rfl HO7.out ?_ | refine load_rowG rfl _ _ rfl _ rfl _ _ _ _ Y11_0.out Tryd.underlying23 rfl HI2.out ?_ | refine load_rowG rfl _ _ rfl _ rfl _ _ _ _ Y11_1.out Tryd.underlying23 rfl HI3.out ?_ | refine load_rowG rfl _ _ rfl _ rfl _ _ _ _ Y11_2.out Tryd.underlying23 rfl HI4.out ?_ | refine load_rowG rfl _ _ rfl _ rfl _ _ _ _ Y11_3.out Tryd.underlying23 rfl HI5.out ?_ | refine load_rowG rfl _ _ rfl _ rfl _ _ _ _ Y11_4.out Tryd.underlying23 rfl HI5.out ?_ | refine load_rowG rfl _ _ rfl _ rfl _ _ _ _ Y11_5.out Tryd.underlying23 rfl HI6.out ?_ | refine load_rowG rfl _ _ rfl _ rfl _ _ _ _ Y11_6.out Tryd.underlying23 rfl HI2.out ?_ | refine load_rowG rfl _ _ rfl _ rfl _ _ _ _ Y11_7.out Tryd.underlying23 rfl HI2.out ?_ | refine load_rowG rfl _ _ rfl _ rfl _ _ _ _ Y11_8.out Tryd.underlying23 rfl HI1.out ?_ | refine load_rowG rfl _ _ rfl _ rfl _ _ _ _ N11.out Tryd.underlying23 rfl HI7.out ?_)
  go_ret
  exact ⟨rfl, C11.out⟩

set_option maxHeartbeats 16000000 in
theorem group_c3 (a b c S X Y : Nat → Int) (k : Int) (oa : ok a = true) (ob : ok b = true) (os : ok S = true) (hab : mulR a b = DE S 0) (hba : mulR b a = DE S 0) (hbc : mulR b c = DE X 3)
    (hback : divR S b = DE a 0) (hsame : mulR a zf = DE a 0) (hnone : divR a a = DE zf 0) (hone : mulR S c = DE Y k) (w : World) (he : Env w) : Calls Tryd.prog 4 #[.agg (cl a), .agg (cl b), .agg (cl c)] w (Gives (.bool true) w) := by
  have HE := Lib.hid he
  have bd0 := build0
  have eqs := eq_self
  have qzf : ∀ W, (Op.equalIn 10000 23 (.agg (cl zf)) (.agg #[.int .i64 0, .int .i64 0, .int .i64 0, .int .i64 0, .int .i64 0, .int .i64 0])).run Tryd.prog W = .ok true W := eq_self zf
  obtain ⟨a0, a1, a2, a3⟩ := three_of a b c w
  have A0 := Lib.hid a0
  have A1 := Lib.hid a1
  have A2 := Lib.hid a2
  have HB0 := Lib.hid a3
  clear a0 a1 a2 a3 he
  have Hhab := Lib.hid hab
  have Hhba := Lib.hid hba
  have Hhbc := Lib.hid hbc
  have Hhback := Lib.hid hback
  have Hhsame := Lib.hid hsame
  have Hhnone := Lib.hid hnone
  have Hhone := Lib.hid hone
  have Hoa := Lib.hid oa
  have Hob := Lib.hid ob
  have Hos := Lib.hid os
  clear hab hba hbc hback hsame hnone hone oa ob os
  have HI1 := Lib.hid (infoDim (zf))
  have HO1 := Lib.hid (oneDim (zf))
  have HI2 := Lib.hid (infoDim (a))
  have HO2 := Lib.hid (oneDim (a))
  have HI3 := Lib.hid (infoDim (b))
  have HO3 := Lib.hid (oneDim (b))
  have HI4 := Lib.hid (infoDim (c))
  have HO4 := Lib.hid (oneDim (c))
  go_enter Tryd.func4, Tryd.ntmps4
  go_wp2_with (first | refine load_rowG rfl _ _ rfl _ rfl _ _ _ _ A0.out Tryd.underlying23 rfl HI2.out ?_ | refine load_rowG rfl _ _ rfl _ rfl _ _ _ _ A1.out Tryd.underlying23 rfl HI3.out ?_ | refine load_rowG rfl _ _ rfl _ rfl _ _ _ _ A2.out Tryd.underlying23 rfl HI4.out ?_)
  refine (sane_any _ (HE.out.below HB0.out)).mono ?_
  rintro e w1 ⟨rfl, hb⟩
  have X1_0 := Lib.hid (A0.out.below0 hb)
  have X1_1 := Lib.hid (A1.out.below0 hb)
  have X1_2 := Lib.hid (A2.out.below0 hb)
  have B1 := Lib.hid (HB0.out.trans (hb.mono HB0.out.size))
  clear hb
  go_wp2_with (first | refine load_rowG rfl _ _ rfl _ rfl _ _ _ _ X1_0.out Tryd.underlying23 rfl HI2.out ?_ | refine load_rowG rfl _ _ rfl _ rfl _ _ _ _ X1_1.out Tryd.underlying23 rfl HI3.out ?_ | refine load_rowG rfl _ _ rfl _ rfl _ _ _ _ X1_2.out Tryd.underlying23 rfl HI4.out ?_)
  refine (mul_c _ a b S 0 Hhab.out).mono ?_
  rintro e w2 ⟨rfl, hb⟩
  have X2_0 := Lib.hid (X1_0.out.below0 hb)
  have X2_1 := Lib.hid (X1_1.out.below0 hb)
  have X2_2 := Lib.hid (X1_2.out.below0 hb)
  have B2 := Lib.hid (B1.out.trans (hb.mono B1.out.size))
  clear hb
  have HI5 := Lib.hid (infoDim (S))
  have HO5 := Lib.hid (oneDim (S))
  have Z2 := Lib.hid (zf_at w2)
  have Y2_0 := Lib.hid ((X2_0.out.alloc (.cells #[.int .i64 0, .int .i64 0, .int .i64 0, .int .i64 0, .int .i64 0, .int .i64 0] 23)).oth (b' := w2.heap.size) (by have := X2_0.out.lt; omega) (cl (S)))
  have Y2_1 := Lib.hid ((X2_1.out.alloc (.cells #[.int .i64 0, .int .i64 0, .int .i64 0, .int .i64 0, .int .i64 0, .int .i64 0] 23)).oth (b' := w2.heap.size) (by have := X2_1.out.lt; omega) (cl (S)))
  have Y2_2 := Lib.hid ((X2_2.out.alloc (.cells #[.int .i64 0, .int .i64 0, .int .i64 0, .int .i64 0, .int .i64 0, .int .i64 0] 23)).oth (b' := w2.heap.size) (by have := X2_2.out.lt; omega) (cl (S)))
  have N2 := Lib.hid (Z2.out.row (g := S))
  have C2 := Lib.hid (below_row (B2.out.alloc B2.out.size (.cells #[.int .i64 0, .int .i64 0, .int .i64 0, .int .i64 0, .int .i64 0, .int .i64 0] 23)) (b := w2.heap.size) B2.out.size (cl (S)))
  go_wp2_with (first | refine wpList_store_row rfl _ _ _ rfl _ _ rfl rfl _ _ Z2.out HI5.out rfl HO5.out ?_ | refine load_rowG rfl _ _ rfl _ rfl _ _ _ _ Y2_0.out Tryd.underlying23 rfl HI2.out ?_ | refine load_rowG rfl _ _ rfl _ rfl _ _ _ _ Y2_1.out Tryd.underlying23 rfl HI3.out ?_ | refine load_rowG rfl _ _ rfl _ rfl _ _ _ _ Y2_2.out Tryd.underlying23 rfl HI4.out ?_ | refine load_rowG rfl _ _ rfl _ rfl _ _ _ _ N2.out Tryd.underlying23 rfl HI5.out ?_)
  refine (mul_c _ b a S 0 Hhba.out).mono ?_
  rintro e w3 ⟨rfl, hb⟩
  have X3_0 := Lib.hid (Y2_0.out.below0 hb)
  have X3_1 := Lib.hid (Y2_1.out.below0 hb)
  have X3_2 := Lib.hid (Y2_2.out.below0 hb)
  have X3_3 := Lib.hid (N2.out.below0 hb)
  have B3 := Lib.hid (C2.out.trans (hb.mono C2.out.size))
  clear hb
  have Z3 := Lib.hid (zf_at w3)
  have Y3_0 := Lib.hid ((X3_0.out.alloc (.cells #[.int .i64 0, .int .i64 0, .int .i64 0, .int .i64 0, .int .i64 0, .int .i64 0] 23)).oth (b' := w3.heap.size) (by have := X3_0.out.lt; omega) (cl (S)))
  have Y3_1 := Lib.hid ((X3_1.out.alloc (.cells #[.int .i64 0, .int .i64 0, .int .i64 0, .int .i64 0, .int .i64 0, .int .i64 0] 23)).oth (b' := w3.heap.size) (by have := X3_1.out.lt; omega) (cl (S)))
  have Y3_2 := Lib.hid ((X3_2.out.alloc (.cells #[.int .i64 0, .int .i64 0, .int .i64 0, .int .i64 0, .int .i64 0, .int .i64 0] 23)).oth (b' := w3.heap.size) (by have := X3_2.out.lt; omega) (cl (S)))
  have Y3_3 := Lib.hid ((X3_3.out.alloc (.cells #[.int .i64 0, .int .i64 0, .int .i64 0, .int .i64 0, .int .i64 0, .int .i64 0] 23)).oth (b' := w3.heap.size) (by have := X3_3.out.lt; omega) (cl (S)))
  have N3 := Lib.hid (Z3.out.row (g := S))
  have C3 := Lib.hid (below_row (B3.out.alloc B3.out.size (.cells #[.int .i64 0, .int .i64 0, .int .i64 0, .int .i64 0, .int .i64 0, .int .i64 0] 23)) (b := w3.heap.size) B3.out.size (cl (S)))
  go_wp2_with (first | refine wpList_store_row rfl _ _ _ rfl _ _ rfl rfl _ _ Z3.out HI5.out rfl HO5.out ?_ | refine load_rowG rfl _ _ rfl _ rfl _ _ _ _ Y3_0.out Tryd.underlying23 rfl HI2.out ?_ | refine load_rowG rfl _ _ rfl _ rfl _ _ _ _ Y3_1.out Tryd.underlying23 rfl HI3.out ?_ | refine load_rowG rfl _ _ rfl _ rfl _ _ _ _ Y3_2.out Tryd.underlying23 rfl HI4.out ?_ | refine load_rowG rfl _ _ rfl _ rfl _ _ _ _ Y3_3.out Tryd.underlying23 rfl HI5.out ?_ | refine load_rowG rfl _ _ rfl _ rfl _ _ _ _ N3.out Tryd.underlying23 rfl HI5.out ?_)
  refine (mul_c _ b c X 3 Hhbc.out).mono ?_
  rintro e w4 ⟨rfl, hb⟩
  have X4_0 := Lib.hid (Y3_0.out.below0 hb)
  have X4_1 := Lib.hid (Y3_1.out.below0 hb)
  have X4_2 := Lib.hid (Y3_2.out.below0 hb)
  have X4_3 := Lib.hid (Y3_3.out.below0 hb)
  have X4_4 := Lib.hid (N3.out.below0 hb)
  have B4 := Lib.hid (C3.out.trans (hb.mono C3.out.size))
  clear hb
  have HI6 := Lib.hid (infoDim (X))
  have HO6 := Lib.hid (oneDim (X))
  have Z4 := Lib.hid (zf_at w4)
  have Y4_0 := Lib.hid ((X4_0.out.alloc (.cells #[.int .i64 0, .int .i64 0, .int .i64 0, .int .i64 0, .int .i64 0, .int .i64 0] 23)).oth (b' := w4.heap.size) (by have := X4_0.out.lt; omega) (cl (X)))
  have Y4_1 := Lib.hid ((X4_1.out.alloc (.cells #[.int .i64 0, .int .i64 0, .int .i64 0, .int .i64 0, .int .i64 0, .int .i64 0] 23)).oth (b' := w4.heap.size) (by have := X4_1.out.lt; omega) (cl (X)))
  have Y4_2 := Lib.hid ((X4_2.out.alloc (.cells #[.int .i64 0, .int .i64 0, .int .i64 0, .int .i64 0, .int .i64 0, .int .i64 0] 23)).oth (b' := w4.heap.size) (by have := X4_2.out.lt; omega) (cl (X)))
  have Y4_3 := Lib.hid ((X4_3.out.alloc (.cells #[.int .i64 0, .int .i64 0, .int .i64 0, .int .i64 0, .int .i64 0, .int .i64 0] 23)).oth (b' := w4.heap.size) (by have := X4_3.out.lt; omega) (cl (X)))
  have Y4_4 := Lib.hid ((X4_4.out.alloc (.cells #[.int .i64 0, .int .i64 0, .int .i64 0, .int .i64 0, .int .i64 0, .int .i64 0] 23)).oth (b' := w4.heap.size) (by have := X4_4.out.lt; omega) (cl (X)))
  have N4 := Lib.hid (Z4.out.row (g := X))
  have C4 := Lib.hid (below_row (B4.out.alloc B4.out.size (.cells #[.int .i64 0, .int .i64 0, .int .i64 0, .int .i64 0, .int .i64 0, .int .i64 0] 23)) (b := w4.heap.size) B4.out.size (cl (X)))
  go_wp2_with (first | refine wpList_store_row rfl _ _ _ rfl _ _ rfl rfl _ _ Z4.out HI6.out rfl HO6.out ?_ | refine load_rowG rfl _ _ rfl _ rfl _ _ _ _ Y4_0.out Tryd.underlying23 rfl HI2.out ?_ | refine load_rowG rfl _ _ rfl _ rfl _ _ _ _ Y4_1.out Tryd.underlying23 rfl HI3.out ?_ | refine load_rowG rfl _ _ rfl _ rfl _ _ _ _ Y4_2.out Tryd.underlying23 rfl HI4.out ?_ | refine load_rowG rfl _ _ rfl _ rfl _ _ _ _ Y4_3.out Tryd.underlying23 rfl HI5.out ?_ | refine load_rowG rfl _ _ rfl _ rfl _ _ _ _ Y4_4.out Tryd.underlying23 rfl HI5.out ?_ | refine load_rowG rfl _ _ rfl _ rfl _ _ _ _ N4.out Tryd.underlying23 rfl HI6.out ?_)
  refine (right_c _ a true Hoa.out).mono ?_
  rintro e w5 ⟨rfl, hb⟩
  have X5_0 := Lib.hid (Y4_0.out.below0 hb)
  have X5_1 := Lib.hid (Y4_1.out.below0 hb)
  have X5_2 := Lib.hid (Y4_2.out.below0 hb)
  have X5_3 := Lib.hid (Y4_3.out.below0 hb)
  have X5_4 := Lib.hid (Y4_4.out.below0 hb)
  have X5_5 := Lib.hid (N4.out.below0 hb)
  have B5 := Lib.hid (C4.out.trans (hb.mono C4.out.size))
  clear hb
  go_wp2_with (first | refine load_rowG rfl _ _ rfl _ rfl _ _ _ _ X5_0.out Tryd.underlying23 rfl HI2.out ?_ | refine load_rowG rfl _ _ rfl _ rfl _ _ _ _ X5_1.out Tryd.underlying23 rfl HI3.out ?_ | refine load_rowG rfl _ _ rfl _ rfl _ _ _ _ X5_2.out Tryd.underlying23 rfl HI4.out ?_ | refine load_rowG rfl _ _ rfl _ rfl _ _ _ _ X5_3.out Tryd.underlying23 rfl HI5.out ?_ | refine load_rowG rfl _ _ rfl _ rfl _ _ _ _ X5_4.out Tryd.underlying23 rfl HI5.out ?_ | refine load_rowG rfl _ _ rfl _ rfl _ _ _ _ X5_5.out Tryd.underlying23 rfl HI6.out ?_)
  refine (right_c _ b true Hob.out).mono ?_
  rintro e w6 ⟨rfl, hb⟩
  have X6_0 := Lib.hid (X5_0.out.below0 hb)
  have X6_1 := Lib.hid (X5_1.out.below0 hb)
  have X6_2 := Lib.hid (X5_2.out.below0 hb)
  have X6_3 := Lib.hid (X5_3.out.below0 hb)
  have X6_4 := Lib.hid (X5_4.out.below0 hb)
  have X6_5 := Lib.hid (X5_5.out.below0 hb)
  have B6 := Lib.hid (B5.out.trans (hb.mono B5.out.size))
  clear hb
  go_wp2_with (first | refine load_rowG rfl _ _ rfl _ rfl _ _ _ _ X6_0.out Tryd.underlying23 rfl HI2.out ?_ | refine load_rowG rfl _ _ rfl _ rfl _ _ _ _ X6_1.out Tryd.underlying23 rfl HI3.out ?_ | refine load_rowG rfl _ _ rfl _ rfl _ _ _ _ X6_2.out Tryd.underlying23 rfl HI4.out ?_ | refine load_rowG rfl _ _ rfl _ rfl _ _ _ _ X6_3.out Tryd.underlying23 rfl HI5.out ?_ | refine load_rowG rfl _ _ rfl _ rfl _ _ _ _ X6_4.out Tryd.underlying23 rfl HI5.out ?_ | refine load_rowG rfl _ _ rfl _ rfl _ _ _ _ X6_5.out Tryd.underlying23 rfl HI6.out ?_)
  refine (right_c _ S true Hos.out).mono ?_
  rintro e w7 ⟨rfl, hb⟩
  have X7_0 := Lib.hid (X6_0.out.below0 hb)
  have X7_1 := Lib.hid (X6_1.out.below0 hb)
  have X7_2 := Lib.hid (X6_2.out.below0 hb)
  have X7_3 := Lib.hid (X6_3.out.below0 hb)
  have X7_4 := Lib.hid (X6_4.out.below0 hb)
  have X7_5 := Lib.hid (X6_5.out.below0 hb)
  have B7 := Lib.hid (B6.out.trans (hb.mono B6.out.size))
  clear hb
  go_wp2_with (first | refine load_rowG rfl _ _ rfl _ rfl _ _ _ _ X7_0.out Tryd.underlying23 rfl HI2.out ?_ | refine load_rowG rfl _ _ rfl _ rfl _ _ _ _ X7_1.out Tryd.underlying23 rfl HI3.out ?_ | refine load_rowG rfl _ _ rfl _ rfl _ _ _ _ X7_2.out Tryd.underlying23 rfl HI4.out ?_ | refine load_rowG rfl _ _ rfl _ rfl _ _ _ _ X7_3.out Tryd.underlying23 rfl HI5.out ?_ | refine load_rowG rfl _ _ rfl _ rfl _ _ _ _ X7_4.out Tryd.underlying23 rfl HI5.out ?_ | refine load_rowG rfl _ _ rfl _ rfl _ _ _ _ X7_5.out Tryd.underlying23 rfl HI6.out ?_)
  refine (div_c _ S b a 0 Hhback.out).mono ?_
  rintro e w8 ⟨rfl, hb⟩
  have X8_0 := Lib.hid (X7_0.out.below0 hb)
  have X8_1 := Lib.hid (X7_1.out.below0 hb)
  have X8_2 := Lib.hid (X7_2.out.below0 hb)
  have X8_3 := Lib.hid (X7_3.out.below0 hb)
  have X8_4 := Lib.hid (X7_4.out.below0 hb)
  have X8_5 := Lib.hid (X7_5.out.below0 hb)
  have B8 := Lib.hid (B7.out.trans (hb.mono B7.out.size))
  clear hb
  have Z8 := Lib.hid (zf_at w8)
  have Y8_0 := Lib.hid ((X8_0.out.alloc (.cells #[.int .i64 0, .int .i64 0, .int .i64 0, .int .i64 0, .int .i64 0, .int .i64 0] 23)).oth (b' := w8.heap.size) (by have := X8_0.out.lt; omega) (cl (a)))
  have Y8_1 := Lib.hid ((X8_1.out.alloc (.cells #[.int .i64 0, .int .i64 0, .int .i64 0, .int .i64 0, .int .i64 0, .int .i64 0] 23)).oth (b' := w8.heap.size) (by have := X8_1.out.lt; omega) (cl (a)))
  have Y8_2 := Lib.hid ((X8_2.out.alloc (.cells #[.int .i64 0, .int .i64 0, .int .i64 0, .int .i64 0, .int .i64 0, .int .i64 0] 23)).oth (b' := w8.heap.size) (by have := X8_2.out.lt; omega) (cl (a)))
  have Y8_3 := Lib.hid ((X8_3.out.alloc (.cells #[.int .i64 0, .int .i64 0, .int .i64 0, .int .i64 0, .int .i64 0, .int .i64 0] 23)).oth (b' := w8.heap.size) (by have := X8_3.out.lt; omega) (cl (a)))
  have Y8_4 := Lib.hid ((X8_4.out.alloc (.cells #[.int .i64 0, .int .i64 0, .int .i64 0, .int .i64 0, .int .i64 0, .int .i64 0] 23)).oth (b' := w8.heap.size) (by have := X8_4.out.lt; omega) (cl (a)))
  have Y8_5 := Lib.hid ((X8_5.out.alloc (.cells #[.int .i64 0, .int .i64 0, .int .i64 0, .int .i64 0, .int .i64 0, .int .i64 0] 23)).oth (b' := w8.heap.size) (by have := X8_5.out.lt; omega) (cl (a)))
  have N8 := Lib.hid (Z8.out.row (g := a))
  have C8 := Lib.hid (below_row (B8.out.alloc B8.out.size (.cells #[.int .i64 0, .int .i64 0, .int .i64 0, .int .i64 0, .int .i64 0, .int .i64 0] 23)) (b := w8.heap.size) B8.out.size (cl (a)))
  go_wp2_with (first | refine wpList_store_row rfl _ _ _ rfl _ _ rfl rfl _ _ Z8.out HI2.out rfl HO2.out ?_ | refine load_rowG rfl _ _ rfl _ rfl _ _ _ _ Y8_0.out Tryd.underlying23 rfl HI2.out ?_ | refine load_rowG rfl _ _ rfl _ rfl _ _ _ _ Y8_1.out Tryd.underlying23 rfl HI3.out ?_ | refine load_rowG rfl _ _ rfl _ rfl _ _ _ _ Y8_2.out Tryd.underlying23 rfl HI4.out ?_ | refine load_rowG rfl _ _ rfl _ rfl _ _ _ _ Y8_3.out Tryd.underlying23 rfl HI5.out ?_ | refine load_rowG rfl _ _ rfl _ rfl _ _ _ _ Y8_4.out Tryd.underlying23 rfl HI5.out ?_ | refine load_rowG rfl _ _ rfl _ rfl _ _ _ _ Y8_5.out Tryd.underlying23 rfl HI6.out ?_ | refine load_rowG rfl _ _ rfl _ rfl _ _ _ _ N8.out Tryd.underlying23 rfl HI2.out ?_)
  refine (mul_c _ a zf a 0 Hhsame.out).mono ?_
  rintro e w9 ⟨rfl, hb⟩
  have X9_0 := Lib.hid (Y8_0.out.below0 hb)
  have X9_1 := Lib.hid (Y8_1.out.below0 hb)
  have X9_2 := Lib.hid (Y8_2.out.below0 hb)
  have X9_3 := Lib.hid (Y8_3.out.below0 hb)
  have X9_4 := Lib.hid (Y8_4.out.below0 hb)
  have X9_5 := Lib.hid (Y8_5.out.below0 hb)
  have X9_6 := Lib.hid (N8.out.below0 hb)
  have B9 := Lib.hid (C8.out.trans (hb.mono C8.out.size))
  clear hb
  have Z9 := Lib.hid (zf_at w9)
  have Y9_0 := Lib.hid ((X9_0.out.alloc (.cells #[.int .i64 0, .int .i64 0, .int .i64 0, .int .i64 0, .int .i64 0, .int .i64 0] 23)).oth (b' := w9.heap.size) (by have := X9_0.out.lt; omega) (cl (a)))
  have Y9_1 := Lib.hid ((X9_1.out.alloc (.cells #[.int .i64 0, .int .i64 0, .int .i64 0, .int .i64 0, .int .i64 0, .int .i64 0] 23)).oth (b' := w9.heap.size) (by have := X9_1.out.lt; omega) (cl (a)))
  have Y9_2 := Lib.hid ((X9_2.out.alloc (.cells #[.int .i64 0, .int .i64 0, .int .i64 0, .int .i64 0, .int .i64 0, .int .i64 0] 23)).oth (b' := w9.heap.size) (by have := X9_2.out.lt; omega) (cl (a)))
  have Y9_3 := Lib.hid ((X9_3.out.alloc (.cells #[.int .i64 0, .int .i64 0, .int .i64 0, .int .i64 0, .int .i64 0, .int .i64 0] 23)).oth (b' := w9.heap.size) (by have := X9_3.out.lt; omega) (cl (a)))
  have Y9_4 := Lib.hid ((X9_4.out.alloc (.cells #[.int .i64 0, .int .i64 0, .int .i64 0, .int .i64 0, .int .i64 0, .int .i64 0] 23)).oth (b' := w9.heap.size) (by have := X9_4.out.lt; omega) (cl (a)))
  have Y9_5 := Lib.hid ((X9_5.out.alloc (.cells #[.int .i64 0, .int .i64 0, .int .i64 0, .int .i64 0, .int .i64 0, .int .i64 0] 23)).oth (b' := w9.heap.size) (by have := X9_5.out.lt; omega) (cl (a)))
  have Y9_6 := Lib.hid ((X9_6.out.alloc (.cells #[.int .i64 0, .int .i64 0, .int .i64 0, .int .i64 0, .int .i64 0, .int .i64 0] 23)).oth (b' := w9.heap.size) (by have := X9_6.out.lt; omega) (cl (a)))
  have N9 := Lib.hid (Z9.out.row (g := a))
  have C9 := Lib.hid (below_row (B9.out.alloc B9.out.size (.cells #[.int .i64 0, .int .i64 0, .int .i64 0, .int .i64 0, .int .i64 0, .int .i64 0] 23)) (b := w9.heap.size) B9.out.size (cl (a)))
  go_wp2_with (first | refine wpList_store_row rfl _ _ _ rfl _ _ rfl rfl _ _ Z9.out HI2.out rfl HO2.out ?_ | refine load_rowG rfl _ _ rfl _ rfl _ _ _ _ Y9_0.out Tryd.underlying23 rfl HI2.out ?_ | refine load_rowG rfl _ _ rfl _ rfl _ _ _ _ Y9_1.out Tryd.underlying23 rfl HI3.out ?_ | refine load_rowG rfl _ _ rfl _ rfl _ _ _ _ Y9_2.out Tryd.underlying23 rfl HI4.out ?_ | refine load_rowG rfl _ _ rfl _ rfl _ _ _ _ Y9_3.out Tryd.underlying23 rfl HI5.out ?_ | refine load_rowG rfl _ _ rfl _ rfl _ _ _ _ Y9_4.out Tryd.underlying23 rfl HI5.out ?_ | refine load_rowG rfl _ _ rfl _ rfl _ _ _ _ Y9_5.out Tryd.underlying23 rfl HI6.out ?_ | refine load_rowG rfl _ _ rfl _ rfl _ _ _ _ Y9_6.out Tryd.underlying23 rfl HI2.out ?_ | refine load_rowG rfl _ _ rfl _ rfl _ _ _ _ N9.out Tryd.underlying23 rfl HI2.out ?_)
  refine (div_c _ a a zf 0 Hhnone.out).mono ?_
  rintro e w10 ⟨rfl, hb⟩
  have X10_0 := Lib.hid (Y9_0.out.below0 hb)
  have X10_1 := Lib.hid (Y9_1.out.below0 hb)
  have X10_2 := Lib.hid (Y9_2.out.below0 hb)
  have X10_3 := Lib.hid (Y9_3.out.below0 hb)
  have X10_4 := Lib.hid (Y9_4.out.below0 hb)
  have X10_5 := Lib.hid (Y9_5.out.below0 hb)
  have X10_6 := Lib.hid (Y9_6.out.below0 hb)
  have X10_7 := Lib.hid (N9.out.below0 hb)
  have B10 := Lib.hid (C9.out.trans (hb.mono C9.out.size))
  clear hb
  have Z10 := Lib.hid (zf_at w10)
  have Y10_0 := Lib.hid ((X10_0.out.alloc (.cells #[.int .i64 0, .int .i64 0, .int .i64 0, .int .i64 0, .int .i64 0, .int .i64 0] 23)).oth (b' := w10.heap.size) (by have := X10_0.out.lt; omega) (cl (zf)))
  have Y10_1 := Lib.hid ((X10_1.out.alloc (.cells #[.int .i64 0, .int .i64 0, .int .i64 0, .int .i64 0, .int .i64 0, .int .i64 0] 23)).oth (b' := w10.heap.size) (by have := X10_1.out.lt; omega) (cl (zf)))
  have Y10_2 := Lib.hid ((X10_2.out.alloc (.cells #[.int .i64 0, .int .i64 0, .int .i64 0, .int .i64 0, .int .i64 0, .int .i64 0] 23)).oth (b' := w10.heap.size) (by have := X10_2.out.lt; omega) (cl (zf)))
  have Y10_3 := Lib.hid ((X10_3.out.alloc (.cells #[.int .i64 0, .int .i64 0, .int .i64 0, .int .i64 0, .int .i64 0, .int .i64 0] 23)).oth (b' := w10.heap.size) (by have := X10_3.out.lt; omega) (cl (zf)))
  have Y10_4 := Lib.hid ((X10_4.out.alloc (.cells #[.int .i64 0, .int .i64 0, .int .i64 0, .int .i64 0, .int .i64 0, .int .i64 0] 23)).oth (b' := w10.heap.size) (by have := X10_4.out.lt; omega) (cl (zf)))
  have Y10_5 := Lib.hid ((X10_5.out.alloc (.cells #[.int .i64 0, .int .i64 0, .int .i64 0, .int .i64 0, .int .i64 0, .int .i64 0] 23)).oth (b' := w10.heap.size) (by have := X10_5.out.lt; omega) (cl (zf)))
  have Y10_6 := Lib.hid ((X10_6.out.alloc (.cells #[.int .i64 0, .int .i64 0, .int .i64 0, .int .i64 0, .int .i64 0, .int .i64 0] 23)).oth (b' := w10.heap.size) (by have := X10_6.out.lt; omega) (cl (zf)))
  have Y10_7 := Lib.hid ((X10_7.out.alloc (.cells #[.int .i64 0, .int .i64 0, .int .i64 0, .int .i64 0, .int .i64 0, .int .i64 0] 23)).oth (b' := w10.heap.size) (by have := X10_7.out.lt; omega) (cl (zf)))
  have N10 := Lib.hid (Z10.out.row (g := zf))
  have C10 := Lib.hid (below_row (B10.out.alloc B10.out.size (.cells #[.int .i64 0, .int .i64 0, .int .i64 0, .int .i64 0, .int .i64 0, .int .i64 0] 23)) (b := w10.heap.size) B10.out.size (cl (zf)))
  go_wp2_with (first | refine wpList_store_row rfl _ _ _ rfl _ _ rfl rfl _ _ Z10.out HI1.out rfl HO1.out ?_ | refine load_rowG rfl _ _ rfl _ rfl _ _ _ _ Y10_0.out Tryd.underlying23 rfl HI2.out ?_ | refine load_rowG rfl _ _ rfl _ rfl _ _ _ _ Y10_1.out Tryd.underlying23 rfl HI3.out ?_ | refine load_rowG rfl _ _ rfl _ rfl _ _ _ _ Y10_2.out Tryd.underlying23 rfl HI4.out ?_ | refine load_rowG rfl _ _ rfl _ rfl _ _ _ _ Y10_3.out Tryd.underlying23 rfl HI5.out ?_ | refine load_rowG rfl _ _ rfl _ rfl _ _ _ _ Y10_4.out Tryd.underlying23 rfl HI5.out ?_ | refine load_rowG rfl _ _ rfl _ rfl _ _ _ _ Y10_5.out Tryd.underlying23 rfl HI6.out ?_ | refine load_rowG rfl _ _ rfl _ rfl _ _ _ _ Y10_6.out Tryd.underlying23 rfl HI2.out ?_ | refine load_rowG rfl _ _ rfl _ rfl _ _ _ _ Y10_7.out Tryd.underlying23 rfl HI2.out ?_ | refine load_rowG rfl _ _ rfl _ rfl _ _ _ _ N10.out Tryd.underlying23 rfl HI1.out ?_)
  refine (mul_c _ S c Y k Hhone.out).mono ?_
  rintro e w11 ⟨rfl, hb⟩
  have X11_0 := Lib.hid (Y10_0.out.below0 hb)
  have X11_1 := Lib.hid (Y10_1.out.below0 hb)
  have X11_2 := Lib.hid (Y10_2.out.below0 hb)
  have X11_3 := Lib.hid (Y10_3.out.below0 hb)
  have X11_4 := Lib.hid (Y10_4.out.below0 hb)
  have X11_5 := Lib.hid (Y10_5.out.below0 hb)
  have X11_6 := Lib.hid (Y10_6.out.below0 hb)
  have X11_7 := Lib.hid (Y10_7.out.below0 hb)
  have X11_8 := Lib.hid (N10.out.below0 hb)
  have B11 := Lib.hid (C10.out.trans (hb.mono C10.out.size))
  clear hb
  have HI7 := Lib.hid (infoDim (Y))
  have HO7 := Lib.hid (oneDim (Y))
  have Z11 := Lib.hid (zf_at w11)
  have Y11_0 := Lib.hid ((X11_0.out.alloc (.cells #[.int .i64 0, .int .i64 0, .int .i64 0, .int .i64 0, .int .i64 0, .int .i64 0] 23)).oth (b' := w11.heap.size) (by have := X11_0.out.lt; omega) (cl (Y)))
  have Y11_1 := Lib.hid ((X11_1.out.alloc (.cells #[.int .i64 0, .int .i64 0, .int .i64 0, .int .i64 0, .int .i64 0, .int .i64 0] 23)).oth (b' := w11.heap.size) (by have := X11_1.out.lt; omega) (cl (Y)))
  have Y11_2 := Lib.hid ((X11_2.out.alloc (.cells #[.int .i64 0, .int .i64 0, .int .i64 0, .int .i64 0, .int .i64 0, .int .i64 0] 23)).oth (b' := w11.heap.size) (by have := X11_2.out.lt; omega) (cl (Y)))
  have Y11_3 := Lib.hid ((X11_3.out.alloc (.cells #[.int .i64 0, .int .i64 0, .int .i64 0, .int .i64 0, .int .i64 0, .int .i64 0] 23)).oth (b' := w11.heap.size) (by have := X11_3.out.lt; omega) (cl (Y)))
  have Y11_4 := Lib.hid ((X11_4.out.alloc (.cells #[.int .i64 0, .int .i64 0, .int .i64 0, .int .i64 0, .int .i64 0, .int .i64 0] 23)).oth (b' := w11.heap.size) (by have := X11_4.out.lt; omega) (cl (Y)))
  have Y11_5 := Lib.hid ((X11_5.out.alloc (.cells #[.int .i64 0, .int .i64 0, .int .i64 0, .int .i64 0, .int .i64 0, .int .i64 0] 23)).oth (b' := w11.heap.size) (by have := X11_5.out.lt; omega) (cl (Y)))
  have Y11_6 := Lib.hid ((X11_6.out.alloc (.cells #[.int .i64 0, .int .i64 0, .int .i64 0, .int .i64 0, .int .i64 0, .int .i64 0] 23)).oth (b' := w11.heap.size) (by have := X11_6.out.lt; omega) (cl (Y)))
  have Y11_7 := Lib.hid ((X11_7.out.alloc (.cells #[.int .i64 0, .int .i64 0, .int .i64 0, .int .i64 0, .int .i64 0, .int .i64 0] 23)).oth (b' := w11.heap.size) (by have := X11_7.out.lt; omega) (cl (Y)))
  have Y11_8 := Lib.hid ((X11_8.out.alloc (.cells #[.int .i64 0, .int .i64 0, .int .i64 0, .int .i64 0, .int .i64 0, .int .i64 0] 23)).oth (b' := w11.heap.size) (by have := X11_8.out.lt; omega) (cl (Y)))
  have N11 := Lib.hid (Z11.out.row (g := Y))
  have C11 := Lib.hid (below_row (B11.out.alloc B11.out.size (.cells #[.int .i64 0, .int .i64 0, .int .i64 0, .int .i64 0, .int .i64 0, .int .i64 0] 23)) (b := w11.heap.size) B11.out.size (cl (Y)))
  go_wp2_with (first | refine wpList_store_row rfl _ _ _ rfl _ _ rfl rfl _ _ Z11.out HI7.out rfl HO7.out ?_ | refine load_rowG rfl _ _ rfl _ rfl _ _ _ _ Y11_0.out Tryd.underlying23 rfl HI2.out ?_ | refine load_rowG rfl _ _ rfl _ rfl _ _ _ _ Y11_1.out Tryd.underlying23 rfl HI3.out ?_ | refine load_rowG rfl _ _ rfl _ rfl _ _ _ _ Y11_2.out Tryd.underlying23 rfl HI4.out ?_ | refine load_rowG rfl _ _ rfl _ rfl _ _ _ _ Y11_3.out Tryd.underlying23 rfl HI5.out ?_ | refine load_rowG rfl _ _ rfl _ rfl _ _ _ _ Y11_4.out Tryd.underlying23 rfl HI5.out ?_ | refine load_rowG rfl _ _ rfl _ rfl _ _ _ _ Y11_5.out Tryd.underlying23 rfl HI6.out ?_ | refine load_rowG rfl _ _ rfl _ rfl _ _ _ _ Y11_6.out Tryd.underlying23 rfl HI2.out ?_ | refine load_rowG rfl _ _ rfl _ rfl _ _ _ _ Y11_7.out Tryd.underlying23 rfl HI2.out ?_ | refine load_rowG rfl _ _ rfl _ rfl _ _ _ _ Y11_8.out Tryd.underlying23 rfl HI1.out ?_ | refine load_rowG rfl _ _ rfl _ rfl _ _ _ _ N11.out Tryd.underlying23 rfl HI7.out ?_)
  go_ret
  exact ⟨rfl, C11.out⟩

set_option maxHeartbeats 16000000 in
theorem group_c01 (a b c S X Y : Nat → Int) (oa : ok a = true) (ob : ok b = true) (os : ok S = true) (hab : mulR a b = DE S 0) (hba : mulR b a = DE S 0) (hbc : mulR b c = DE X 0)
    (hback : divR S b = DE a 0) (hsame : mulR a zf = DE a 0) (hnone : divR a a = DE zf 0) (hone : mulR S c = DE Y 1) (w : World) (he : Env w) : Calls Tryd.prog 4 #[.agg (cl a), .agg (cl b), .agg (cl c)] w (Gives (.bool true) w) := by
  have HE := Lib.hid he
  have bd0 := build0
  have eqs := eq_self
  have qzf : ∀ W, (Op.equalIn 10000 23 (.agg (cl zf)) (.agg #[.int .i64 0, .int .i64 0, .int .i64 0, .int .i64 0, .int .i64 0, .int .i64 0])).run Tryd.prog W = .ok true W := eq_self zf
  obtain ⟨a0, a1, a2, a3⟩ := three_of a b c w
  have A0 := Lib.hid a0
  have A1 := Lib.hid a1
  have A2 := Lib.hid a2
  have HB0 := Lib.hid a3
  clear a0 a1 a2 a3 he
  have Hhab := Lib.hid hab
  have Hhba := Lib.hid hba
  have Hhbc := Lib.hid hbc
  have Hhback := Lib.hid hback
  have Hhsame := Lib.hid hsame
  have Hhnone := Lib.hid hnone
  have Hhone := Lib.hid hone
  have Hoa := Lib.hid oa
  have Hob := Lib.hid ob
  have Hos := Lib.hid os
  clear hab hba hbc hback hsame hnone hone oa ob os
  have HI1 := Lib.hid (infoDim (zf))
  have HO1 := Lib.hid (oneDim (zf))
  have HI2 := Lib.hid (infoDim (a))
  have HO2 := Lib.hid (oneDim (a))
  have HI3 := Lib.hid (infoDim (b))
  have HO3 := Lib.hid (oneDim (b))
  have HI4 := Lib.hid (infoDim (c))
  have HO4 := Lib.hid (oneDim (c))
  go_enter Tryd.func4, Tryd.ntmps4
  go_wp2_with (first | refine load_rowG rfl _ _ rfl _ rfl _ _ _ _ A0.out Tryd.underlying23 rfl HI2.out ?_ | refine load_rowG rfl _ _ rfl _ rfl _ _ _ _ A1.out Tryd.underlying23 rfl HI3.out ?_ | refine load_rowG rfl _ _ rfl _ rfl _ _ _ _ A2.out Tryd.underlying23 rfl HI4.out ?_)
  refine (sane_any _ (HE.out.below HB0.out)).mono ?_
  rintro e w1 ⟨rfl, hb⟩
  have X1_0 := Lib.hid (A0.out.below0 hb)
  have X1_1 := Lib.hid (A1.out.below0 hb)
  have X1_2 := Lib.hid (A2.out.below0 hb)
  have B1 := Lib.hid (HB0.out.trans (hb.mono HB0.out.size))
  clear hb
  go_wp2_with (first | refine load_rowG rfl _ _ rfl _ rfl _ _ _ _ X1_0.out Tryd.underlying23 rfl HI2.out ?_ | refine load_rowG rfl _ _ rfl _ rfl _ _ _ _ X1_1.out Tryd.underlying23 rfl HI3.out ?_ | refine load_rowG rfl _ _ rfl _ rfl _ _ _ _ X1_2.out Tryd.underlying23 rfl HI4.out ?_)
  refine (mul_c _ a b S 0 Hhab.out).mono ?_
  rintro e w2 ⟨rfl, hb⟩
  have X2_0 := Lib.hid (X1_0.out.below0 hb)
  have X2_1 := Lib.hid (X1_1.out.below0 hb)
  have X2_2 := Lib.hid (X1_2.out.below0 hb)
  have B2 := Lib.hid (B1.out.trans (hb.mono B1.out.size))
  clear hb
  have HI5 := Lib.hid (infoDim (S))
  have HO5 := Lib.hid (oneDim (S))
  have Z2 := Lib.hid (zf_at w2)
  have Y2_0 := Lib.hid ((X2_0.out.alloc (.cells #[.int .i64 0, .int .i64 0, .int .i64 0, .int .i64 0, .int .i64 0, .int .i64 0] 23)).oth (b' := w2.heap.size) (by have := X2_0.out.lt; omega) (cl (S)))
  have Y2_1 := Lib.hid ((X2_1.out.alloc (.cells #[.int .i64 0, .int .i64 0, .int .i64 0, .int .i64 0, .int .i64 0, .int .i64 0] 23)).oth (b' := w2.heap.size) (by have := X2_1.out.lt; omega) (cl (S)))
  have Y2_2 := Lib.hid ((X2_2.out.alloc (.cells #[.int .i64 0, .int .i64 0, .int .i64 0, .int .i64 0, .int .i64 0, .int .i64 0] 23)).oth (b' := w2.heap.size) (by have := X2_2.out.lt; omega) (cl (S)))
  have N2 := Lib.hid (Z2.out.row (g := S))
  have C2 := Lib.hid (below_row (B2.out.alloc B2.out.size (.cells #[.int .i64 0, .int .i64 0, .int .i64 0, .int .i64 0, .int .i64 0, .int .i64 0] 23)) (b := w2.heap.size) B2.out.size (cl (S)))
  go_wp2_with (first | refine wpList_store_row rfl _ _ _ rfl _ _ rfl rfl _ _ Z2.out HI5.out rfl HO5.out ?_ | refine load_rowG rfl _ _ rfl _ rfl _ _ _ _ Y2_0.out Tryd.underlying23 rfl HI2.out ?_ | refine load_rowG rfl _ _ rfl _ rfl _ _ _ _ Y2_1.out Tryd.underlying23 rfl HI3.out ?_ | refine load_rowG rfl _ _ rfl _ rfl _ _ _ _ Y2_2.out Tryd.underlying23 rfl HI4.out ?_ | refine load_rowG rfl _ _ rfl _ rfl _ _ _ _ N2.out Tryd.underlying23 rfl HI5.out ?_)
  refine (mul_c _ b a S 0 Hhba.out).mono ?_
  rintro e w3 ⟨rfl, hb⟩
  have X3_0 := Lib.hid (Y2_0.out.below0 hb)
  have X3_1 := Lib.hid (Y2_1.out.below0 hb)
  have X3_2 := Lib.hid (Y2_2.out.below0 hb)
  have X3_3 := Lib.hid (N2.out.below0 hb)
  have B3 := Lib.hid (C2.out.trans (hb.mono C2.out.size))
  clear hb
  have Z3 := Lib.hid (zf_at w3)
  have Y3_0 := Lib.hid ((X3_0.out.alloc (.cells #[.int .i64 0, .int .i64 0, .int .i64 0, .int .i64 0, .int .i64 0, .int .i64 0] 23)).oth (b' := w3.heap.size) (by have := X3_0.out.lt; omega) (cl (S)))
  have Y3_1 := Lib.hid ((X3_1.out.alloc (.cells #[.int .i64 0, .int .i64 0, .int .i64 0, .int .i64 0, .int .i64 0, .int .i64 0] 23)).oth (b' := w3.heap.size) (by have := X3_1.out.lt; omega) (cl (S)))
  have Y3_2 := Lib.hid ((X3_2.out.alloc (.cells #[.int .i64 0, .int .i64 0, .int .i64 0, .int .i64 0, .int .i64 0, .int .i64 0] 23)).oth (b' := w3.heap.size) (by have := X3_2.out.lt; omega) (cl (S)))
  have Y3_3 := Lib.hid ((X3_3.out.alloc (.cells #[.int .i64 0, .int .i64 0, .int .i64 0, .int .i64 0, .int .i64 0, .int .i64 0] 23)).oth (b' := w3.heap.size) (by have := X3_3.out.lt; omega) (cl (S)))
  have N3 := Lib.hid (Z3.out.row (g := S))
  have C3 := Lib.hid (below_row (B3.out.alloc B3.out.size (.cells #[.int .i64 0, .int .i64 0, .int .i64 0, .int .i64 0, .int .i64 0, .int .i64 0] 23)) (b := w3.heap.size) B3.out.size (cl (S)))
  go_wp2_with (first | refine wpList_store_row rfl _ _ _ rfl _ _ rfl rfl _ _ Z3.out HI5.out rfl HO5.out ?_ | refine load_rowG rfl _ _ rfl _ rfl _ _ _ _ Y3_0.out Tryd.underlying23 rfl HI2.out ?_ | refine load_rowG rfl _ _ rfl _ rfl _ _ _ _ Y3_1.out Tryd.underlying23 rfl HI3.out ?_ | refine load_rowG rfl _ _ rfl _ rfl _ _ _ _ Y3_2.out Tryd.underlying23 rfl HI4.out ?_ | refine load_rowG rfl _ _ rfl _ rfl _ _ _ _ Y3_3.out Tryd.underlying23 rfl HI5.out ?_ | refine load_rowG rfl _ _ rfl _ rfl _ _ _ _ N3.out Tryd.underlying23 rfl HI5.out ?_)
  refine (mul_c _ b c X 0 Hhbc.out).mono ?_
  rintro e w4 ⟨rfl, hb⟩
  have X4_0 := Lib.hid (Y3_0.out.below0 hb)
  have X4_1 := Lib.hid (Y3_1.out.below0 hb)
  have X4_2 := Lib.hid (Y3_2.out.below0 hb)
  have X4_3 := Lib.hid (Y3_3.out.below0 hb)
  have X4_4 := Lib.hid (N3.out.below0 hb)
  have B4 := Lib.hid (C3.out.trans (hb.mono C3.out.size))
  clear hb
  have HI6 := Lib.hid (infoDim (X))
  have HO6 := Lib.hid (oneDim (X))
  have Z4 := Lib.hid (zf_at w4)
  have Y4_0 := Lib.hid ((X4_0.out.alloc (.cells #[.int .i64 0, .int .i64 0, .int .i64 0, .int .i64 0, .int .i64 0, .int .i64 0] 23)).oth (b' := w4.heap.size) (by have := X4_0.out.lt; omega) (cl (X)))
  have Y4_1 := Lib.hid ((X4_1.out.alloc (.cells #[.int .i64 0, .int .i64 0, .int .i64 0, .int .i64 0, .int .i64 0, .int .i64 0] 23)).oth (b' := w4.heap.size) (by have := X4_1.out.lt; omega) (cl (X)))
  have Y4_2 := Lib.hid ((X4_2.out.alloc (.cells #[.int .i64 0, .int .i64 0, .int .i64 0, .int .i64 0, .int .i64 0, .int .i64 0] 23)).oth (b' := w4.heap.size) (by have := X4_2.out.lt; omega) (cl (X)))
  have Y4_3 := Lib.hid ((X4_3.out.alloc (.cells #[.int .i64 0, .int .i64 0, .int .i64 0, .int .i64 0, .int .i64 0, .int .i64 0] 23)).oth (b' := w4.heap.size) (by have := X4_3.out.lt; omega) (cl (X)))
  have Y4_4 := Lib.hid ((X4_4.out.alloc (.cells #[.int .i64 0, .int .i64 0, .int .i64 0, .int .i64 0, .int .i64 0, .int .i64 0] 23)).oth (b' := w4.heap.size) (by have := X4_4.out.lt; omega) (cl (X)))
  have N4 := Lib.hid (Z4.out.row (g := X))
  have C4 := Lib.hid (below_row (B4.out.alloc B4.out.size (.cells #[.int .i64 0, .int .i64 0, .int .i64 0, .int .i64 0, .int .i64 0, .int .i64 0] 23)) (b := w4.heap.size) B4.out.size (cl (X)))
  go_wp2_with (first | refine wpList_store_row rfl _ _ _ rfl _ _ rfl rfl _ _ Z4.out HI6.out rfl HO6.out ?_ | refine load_rowG rfl _ _ rfl _ rfl _ _ _ _ Y4_0.out Tryd.underlying23 rfl HI2.out ?_ | refine load_rowG rfl _ _ rfl _ rfl _ _ _ _ Y4_1.out Tryd.underlying23 rfl HI3.out ?_ | refine load_rowG rfl _ _ rfl _ rfl _ _ _ _ Y4_2.out Tryd.underlying23 rfl HI4.out ?_ | refine load_rowG rfl _ _ rfl _ rfl _ _ _ _ Y4_3.out Tryd.underlying23 rfl HI5.out ?_ | refine load_rowG rfl _ _ rfl _ rfl _ _ _ _ Y4_4.out Tryd.underlying23 rfl HI5.out ?_ | refine load_rowG rfl _ _ rfl _ rfl _ _ _ _ N4.out Tryd.underlying23 rfl HI6.out ?_)
  refine (right_c _ a true Hoa.out).mono ?_
  rintro e w5 ⟨rfl, hb⟩
  have X5_0 := Lib.hid (Y4_0.out.below0 hb)
  have X5_1 := Lib.hid (Y4_1.out.below0 hb)
  have X5_2 := Lib.hid (Y4_2.out.below0 hb)
  have X5_3 := Lib.hid (Y4_3.out.below0 hb)
  have X5_4 := Lib.hid (Y4_4.out.below0 hb)
  have X5_5 := Lib.hid (N4.out.below0 hb)
  have B5 := Lib.hid (C4.out.trans (hb.mono C4.out.size))
  clear hb
  go_wp2_with (first | refine load_rowG rfl _ _ rfl _ rfl _ _ _ _ X5_0.out Tryd.underlying23 rfl HI2.out ?_ | refine load_rowG rfl _ _ rfl _ rfl _ _ _ _ X5_1.out Tryd.underlying23 rfl HI3.out ?_ | refine load_rowG rfl _ _ rfl _ rfl _ _ _ _ X5_2.out Tryd.underlying23 rfl HI4.out ?_ | refine load_rowG rfl _ _ rfl _ rfl _ _ _ _ X5_3.out Tryd.underlying23 rfl HI5.out ?_ | refine load_rowG rfl _ _ rfl _ rfl _ _ _ _ X5_4.out Tryd.underlying23 rfl HI5.out ?_ | refine load_rowG rfl _ _ rfl _ rfl _ _ _ _ X5_5.out Tryd.underlying23 rfl HI6.out ?_)
  refine (right_c _ b true Hob.out).mono ?_
  rintro e w6 ⟨rfl, hb⟩
  have X6_0 := Lib.hid (X5_0.out.below0 hb)
  have X6_1 := Lib.hid (X5_1.out.below0 hb)
  have X6_2 := Lib.hid (X5_2.out.below0 hb)
  have X6_3 := Lib.hid (X5_3.out.below0 hb)
  have X6_4 := Lib.hid (X5_4.out.below0 hb)
  have X6_5 := Lib.hid (X5_5.out.below0 hb)
  have B6 := Lib.hid (B5.out.trans (hb.mono B5.out.size))
  clear hb
  go_wp2_with (first | refine load_rowG rfl _ _ rfl _ rfl _ _ _ _ X6_0.out Tryd.underlying23 rfl HI2.out ?_ | refine load_rowG rfl _ _ rfl _ rfl _ _ _ _ X6_1.out Tryd.underlying23 rfl HI3.out ?_ | refine load_rowG rfl _ _ rfl _ rfl _ _ _ _ X6_2.out Tryd.underlying23 rfl HI4.out ?_ | refine load_rowG rfl _ _ rfl _ rfl _ _ _ _ X6_3.out Tryd.underlying23 rfl HI5.out ?_ | refine load_rowG rfl _ _ rfl _ rfl _ _ _ _ X6_4.out Tryd.underlying23 rfl HI5.out ?_ | refine load_rowG rfl _ _ rfl _ rfl _ _ _ _ X6_5.out Tryd.underlying23 rfl HI6.out ?_)
  refine (right_c _ S true Hos.out).mono ?_
  rintro e w7 ⟨rfl, hb⟩
  have X7_0 := Lib.hid (X6_0.out.below0 hb)
  have X7_1 := Lib.hid (X6_1.out.below0 hb)
  have X7_2 := Lib.hid (X6_2.out.below0 hb)
  have X7_3 := Lib.hid (X6_3.out.below0 hb)
  have X7_4 := Lib.hid (X6_4.out.below0 hb)
  have X7_5 := Lib.hid (X6_5.out.below0 hb)
  have B7 := Lib.hid (B6.out.trans (hb.mono B6.out.size))
  clear hb
  go_wp2_with (first | refine load_rowG rfl _ _ rfl _ rfl _ _ _ _ X7_0.out Tryd.underlying23 rfl HI2.out ?_ | refine load_rowG rfl _ _ rfl _ rfl _ _ _ _ X7_1.out Tryd.underlying23 rfl HI3.out ?_ | refine load_rowG rfl _ _ rfl _ rfl _ _ _ _ X7_2.out Tryd.underlying23 rfl HI4.out ?_ | refine load_rowG rfl _ _ rfl _ rfl _ _ _ _ X7_3.out Tryd.underlying23 rfl HI5.out ?_ | refine load_rowG rfl _ _ rfl _ rfl _ _ _ _ X7_4.out Tryd.underlying23 rfl HI5.out ?_ | refine load_rowG rfl _ _ rfl _ rfl _ _ _ _ X7_5.out Tryd.underlying23 rfl HI6.out ?_)
  refine (div_c _ S b a 0 Hhback.out).mono ?_
  rintro e w8 ⟨rfl, hb⟩
  have X8_0 := Lib.hid (X7_0.out.below0 hb)
  have X8_1 := Lib.hid (X7_1.out.below0 hb)
  have X8_2 := Lib.hid (X7_2.out.below0 hb)
  have X8_3 := Lib.hid (X7_3.out.below0 hb)
  have X8_4 := Lib.hid (X7_4.out.below0 hb)
  have X8_5 := Lib.hid (X7_5.out.below0 hb)
  have B8 := Lib.hid (B7.out.trans (hb.mono B7.out.size))
  clear hb
  have Z8 := Lib.hid (zf_at w8)
  have Y8_0 := Lib.hid ((X8_0.out.alloc (.cells #[.int .i64 0, .int .i64 0, .int .i64 0, .int .i64 0, .int .i64 0, .int .i64 0] 23)).oth (b' := w8.heap.size) (by have := X8_0.out.lt; omega) (cl (a)))
  have Y8_1 := Lib.hid ((X8_1.out.alloc (.cells #[.int .i64 0, .int .i64 0, .int .i64 0, .int .i64 0, .int .i64 0, .int .i64 0] 23)).oth (b' := w8.heap.size) (by have := X8_1.out.lt; omega) (cl (a)))
  have Y8_2 := Lib.hid ((X8_2.out.alloc (.cells #[.int .i64 0, .int .i64 0, .int .i64 0, .int .i64 0, .int .i64 0, .int .i64 0] 23)).oth (b' := w8.heap.size) (by have := X8_2.out.lt; omega) (cl (a)))
  have Y8_3 := Lib.hid ((X8_3.out.alloc (.cells #[.int .i64 0, .int .i64 0, .int .i64 0, .int .i64 0, .int .i64 0, .int .i64 0] 23)).oth (b' := w8.heap.size) (by have := X8_3.out.lt; omega) (cl (a)))
  have Y8_4 := Lib.hid ((X8_4.out.alloc (.cells #[.int .i64 0, .int .i64 0, .int .i64 0, .int .i64 0, .int .i64 0, .int .i64 0] 23)).oth (b' := w8.heap.size) (by have := X8_4.out.lt; omega) (cl (a)))
  have Y8_5 := Lib.hid ((X8_5.out.alloc (.cells #[.int .i64 0, .int .i64 0, .int .i64 0, .int .i64 0, .int .i64 0, .int .i64 0] 23)).oth (b' := w8.heap.size) (by have := X8_5.out.lt; omega) (cl (a)))
  have N8 := Lib.hid (Z8.out.row (g := a))
  have C8 := Lib.hid (below_row (B8.out.alloc B8.out.size (.cells #[.int .i64 0, .int .i64 0, .int .i64 0, .int .i64 0, .int .i64 0, .int .i64 0] 23)) (b := w8.heap.size) B8.out.size (cl (a)))
  go_wp2_with (first | refine wpList_store_row rfl _ _ _ rfl _ _ rfl rfl _ _ Z8.out HI2.out rfl HO2.out ?_ | refine load_rowG rfl _ _ rfl _ rfl _ _ _ _ Y8_0.out Tryd.underlying23 rfl HI2.out ?_ | refine load_rowG rfl _ _ rfl _ rfl _ _ _ _ Y8_1.out Tryd.underlying23 rfl HI3.out ?_ | refine load_rowG rfl _ _ rfl _ rfl _ _ _ _ Y8_2.out Tryd.underlying23 rfl HI4.out ?_ | refine load_rowG rfl _ _ rfl _ rfl _ _ _ _ Y8_3.out Tryd.underlying23 rfl HI5.out ?_ | refine load_rowG rfl _ _ rfl _ rfl _ _ _ _ Y8_4.out Tryd.underlying23 rfl HI5.out ?_ | refine load_rowG rfl _ _ rfl _ rfl _ _ _ _ Y8_5.out Tryd.underlying23 rfl HI6.out ?_ | refine load_rowG rfl _ _ rfl _ rfl _ _ _ _ N8.out Tryd.underlying23 rfl HI2.out ?_)
  refine (mul_c _ a zf a 0 Hhsame.out).mono ?_
  rintro e w9 ⟨rfl, hb⟩
  have X9_0 := Lib.hid (Y8_0.out.below0 hb)
  have X9_1 := Lib.hid (Y8_1.out.below0 hb)
  have X9_2 := Lib.hid (Y8_2.out.below0 hb)
  have X9_3 := Lib.hid (Y8_3.out.below0 hb)
  have X9_4 := Lib.hid (Y8_4.out.below0 hb)
  have X9_5 := Lib.hid (Y8_5.out.below0 hb)
  have X9_6 := Lib.hid (N8.out.below0 hb)
  have B9 := Lib.hid (C8.out.trans (hb.mono C8.out.size))
  clear hb
  have Z9 := Lib.hid (zf_at w9)
  have Y9_0 := Lib.hid ((X9_0.out.alloc (.cells #[.int .i64 0, .int .i64 0, .int .i64 0, .int .i64 0, .int .i64 0, .int .i64 0] 23)).oth (b' := w9.heap.size) (by have := X9_0.out.lt; omega) (cl (a)))
  have Y9_1 := Lib.hid ((X9_1.out.alloc (.cells #[.int .i64 0, .int .i64 0, .int .i64 0, .int .i64 0, .int .i64 0, .int .i64 0] 23)).oth (b' := w9.heap.size) (by have := X9_1.out.lt; omega) (cl (a)))
  have Y9_2 := Lib.hid ((X9_2.out.alloc (.cells #[.int .i64 0, .int .i64 0, .int .i64 0, .int .i64 0, .int .i64 0, .int .i64 0] 23)).oth (b' := w9.heap.size) (by have := X9_2.out.lt; omega) (cl (a)))
  have Y9_3 := Lib.hid ((X9_3.out.alloc (.cells #[.int .i64 0, .int .i64 0, .int .i64 0, .int .i64 0, .int .i64 0, .int .i64 0] 23)).oth (b' := w9.heap.size) (by have := X9_3.out.lt; omega) (cl (a)))
  have Y9_4 := Lib.hid ((X9_4.out.alloc (.cells #[.int .i64 0, .int .i64 0, .int .i64 0, .int .i64 0, .int .i64 0, .int .i64 0] 23)).oth (b' := w9.heap.size) (by have := X9_4.out.lt; omega) (cl (a)))
  have Y9_5 := Lib.hid ((X9_5.out.alloc (.cells #[.int .i64 0, .int .i64 0, .int .i64 0, .int .i64 0, .int .i64 0, .int .i64 0] 23)).oth (b' := w9.heap.size) (by have := X9_5.out.lt; omega) (cl (a)))
  have Y9_6 := Lib.hid ((X9_6.out.alloc (.cells #[.int .i64 0, .int .i64 0, .int .i64 0, .int .i64 0, .int .i64 0, .int .i64 0] 23)).oth (b' := w9.heap.size) (by have := X9_6.out.lt; omega) (cl (a)))
  have N9 := Lib.hid (Z9.out.row (g := a))
  have C9 := Lib.hid (below_row (B9.out.alloc B9.out.size (.cells #[.int .i64 0, .int .i64 0, .int .i64 0, .int .i64 0, .int .i64 0, .int .i64 0] 23)) (b := w9.heap.size) B9.out.size (cl (a)))
  go_wp2_with (first | refine wpList_store_row rfl _ _ _ rfl _ _ rfl rfl _ _ Z9.out HI2.out rfl HO2.out ?_ | refine load_rowG rfl _ _ rfl _ rfl _ _ _ _ Y9_0.out Tryd.underlying23 rfl HI2.out ?_ | refine load_rowG rfl _ _ rfl _ rfl _ _ _ _ Y9_1.out Tryd.underlying23 rfl HI3.out ?_ | refine load_rowG rfl _ _ rfl _ rfl _ _ _ _ Y9_2.out Tryd.underlying23 rfl HI4.out ?_ | refine load_rowG rfl _ _ rfl _ rfl _ _ _ _ Y9_3.out Tryd.underlying23 rfl HI5.out ?_ | refine load_rowG rfl _ _ rfl _ rfl _ _ _ _ Y9_4.out Tryd.underlying23 rfl HI5.out ?_ | refine load_rowG rfl _ _ rfl _ rfl _ _ _ _ Y9_5.out Tryd.underlying23 rfl HI6.out ?_ | refine load_rowG rfl _ _ rfl _ rfl _ _ _ _ Y9_6.out Tryd.underlying23 rfl HI2.out ?_ | refine load_rowG rfl _ _ rfl _ rfl _ _ _ _ N9.out Tryd.underlying23 rfl HI2.out ?_)
  refine (div_c _ a a zf 0 Hhnone.out).mono ?_
  rintro e w10 ⟨rfl, hb⟩
  have X10_0 := Lib.hid (Y9_0.out.below0 hb)
  have X10_1 := Lib.hid (Y9_1.out.below0 hb)
  have X10_2 := Lib.hid (Y9_2.out.below0 hb)
  have X10_3 := Lib.hid (Y9_3.out.below0 hb)
  have X10_4 := Lib.hid (Y9_4.out.below0 hb)
  have X10_5 := Lib.hid (Y9_5.out.below0 hb)
  have X10_6 := Lib.hid (Y9_6.out.below0 hb)
  have X10_7 := Lib.hid (N9.out.below0 hb)
  have B10 := Lib.hid (C9.out.trans (hb.mono C9.out.size))
  clear hb
  have Z10 := Lib.hid (zf_at w10)
  have Y10_0 := Lib.hid ((X10_0.out.alloc (.cells #[.int .i64 0, .int .i64 0, .int .i64 0, .int .i64 0, .int .i64 0, .int .i64 0] 23)).oth (b' := w10.heap.size) (by have := X10_0.out.lt; omega) (cl (zf)))
  have Y10_1 := Lib.hid ((X10_1.out.alloc (.cells #[.int .i64 0, .int .i64 0, .int .i64 0, .int .i64 0, .int .i64 0, .int .i64 0] 23)).oth (b' := w10.heap.size) (by have := X10_1.out.lt; omega) (cl (zf)))
  have Y10_2 := Lib.hid ((X10_2.out.alloc (.cells #[.int .i64 0, .int .i64 0, .int .i64 0, .int .i64 0, .int .i64 0, .int .i64 0] 23)).oth (b' := w10.heap.size) (by have := X10_2.out.lt; omega) (cl (zf)))
  have Y10_3 := Lib.hid ((X10_3.out.alloc (.cells #[.int .i64 0, .int .i64 0, .int .i64 0, .int .i64 0, .int .i64 0, .int .i64 0] 23)).oth (b' := w10.heap.size) (by have := X10_3.out.lt; omega) (cl (zf)))
  have Y10_4 := Lib.hid ((X10_4.out.alloc (.cells #[.int .i64 0, .int .i64 0, .int .i64 0, .int .i64 0, .int .i64 0, .int .i64 0] 23)).oth (b' := w10.heap.size) (by have := X10_4.out.lt; omega) (cl (zf)))
  have Y10_5 := Lib.hid ((X10_5.out.alloc (.cells #[.int .i64 0, .int .i64 0, .int .i64 0, .int .i64 0, .int .i64 0, .int .i64 0] 23)).oth (b' := w10.heap.size) (by have := X10_5.out.lt; omega) (cl (zf)))
  have Y10_6 := Lib.hid ((X10_6.out.alloc (.cells #[.int .i64 0, .int .i64 0, .int .i64 0, .int .i64 0, .int .i64 0, .int .i64 0] 23)).oth (b' := w10.heap.size) (by have := X10_6.out.lt; omega) (cl (zf)))
  have Y10_7 := Lib.hid ((X10_7.out.alloc (.cells #[.int .i64 0, .int .i64 0, .int .i64 0, .int .i64 0, .int .i64 0, .int .i64 0] 23)).oth (b' := w10.heap.size) (by have := X10_7.out.lt; omega) (cl (zf)))
  have N10 := Lib.hid (Z10.out.row (g := zf))
  have C10 := Lib.hid (below_row (B10.out.alloc B10.out.size (.cells #[.int .i64 0, .int .i64 0, .int .i64 0, .int .i64 0, .int .i64 0, .int .i64 0] 23)) (b := w10.heap.size) B10.out.size (cl (zf)))
  go_wp2_with (first | refine wpList_store_row rfl _ _ _ rfl _ _ rfl rfl _ _ Z10.out HI1.out rfl HO1.out ?_ | refine load_rowG rfl _ _ rfl _ rfl _ _ _ _ Y10_0.out Tryd.underlying23 rfl HI2.out ?_ | refine load_rowG rfl _ _ rfl _ rfl _ _ _ _ Y10_1.out Tryd.underlying23 rfl HI3.out ?_ | refine load_rowG rfl _ _ rfl _ rfl _ _ _ _ Y10_2.out Tryd.underlying23 rfl HI4.out ?_ | refine load_rowG rfl _ _ rfl _ rfl _ _ _ _ Y10_3.out Tryd.underlying23 rfl HI5.out ?_ | refine load_rowG rfl _ _ rfl _ rfl _ _ _ _ Y10_4.out Tryd.underlying23 rfl HI5.out ?_ | refine load_rowG rfl _ _ rfl _ rfl _ _ _ _ Y10_5.out Tryd.underlying23 rfl HI6.out ?_ | refine load_rowG rfl _ _ rfl _ rfl _ _ _ _ Y10_6.out Tryd.underlying23 rfl HI2.out ?_ | refine load_rowG rfl _ _ rfl _ rfl _ _ _ _ Y10_7.out Tryd.underlying23 rfl HI2.out ?_ | refine load_rowG rfl _ _ rfl _ rfl _ _ _ _ N10.out Tryd.underlying23 rfl HI1.out ?_)
  refine (mul_c _ S c Y 1 Hhone.out).mono ?_
  rintro e w11 ⟨rfl, hb⟩
  have X11_0 := Lib.hid (Y10_0.out.below0 hb)
  have X11_1 := Lib.hid (Y10_1.out.below0 hb)
  have X11_2 := Lib.hid (Y10_2.out.below0 hb)
  have X11_3 := Lib.hid (Y10_3.out.below0 hb)
  have X11_4 := Lib.hid (Y10_4.out.below0 hb)
  have X11_5 := Lib.hid (Y10_5.out.below0 hb)
  have X11_6 := Lib.hid (Y10_6.out.below0 hb)
  have X11_7 := Lib.hid (Y10_7.out.below0 hb)
  have X11_8 := Lib.hid (N10.out.below0 hb)
  have B11 := Lib.hid (C10.out.trans (hb.mono C10.out.size))
  clear hb
  have HI7 := Lib.hid (infoDim (Y))
  have HO7 := Lib.hid (oneDim (Y))
  have Z11 := Lib.hid (zf_at w11)
  have Y11_0 := Lib.hid ((X11_0.out.alloc (.cells #[.int .i64 0, .int .i64 0, .int .i64 0, .int .i64 0, .int .i64 0, .int .i64 0] 23)).oth (b' := w11.heap.size) (by have := X11_0.out.lt; omega) (cl (Y)))
  have Y11_1 := Lib.hid ((X11_1.out.alloc (.cells #[.int .i64 0, .int .i64 0, .int .i64 0, .int .i64 0, .int .i64 0, .int .i64 0] 23)).oth (b' := w11.heap.size) (by have := X11_1.out.lt; omega) (cl (Y)))
  have Y11_2 := Lib.hid ((X11_2.out.alloc (.cells #[.int .i64 0, .int .i64 0, .int .i64 0, .int .i64 0, .int .i64 0, .int .i64 0] 23)).oth (b' := w11.heap.size) (by have := X11_2.out.lt; omega) (cl (Y)))
  have Y11_3 := Lib.hid ((X11_3.out.alloc (.cells #[.int .i64 0, .int .i64 0, .int .i64 0, .int .i64 0, .int .i64 0, .int .i64 0] 23)).oth (b' := w11.heap.size) (by have := X11_3.out.lt; omega) (cl (Y)))
  have Y11_4 := Lib.hid ((X11_4.out.alloc (.cells #[.int .i64 0, .int .i64 0, .int .i64 0, .int .i64 0, .int .i64 0, .int .i64 0] 23)).oth (b' := w11.heap.size) (by have := X11_4.out.lt; omega) (cl (Y)))
  have Y11_5 := Lib.hid ((X11_5.out.alloc (.cells #[.int .i64 0, .int .i64 0, .int .i64 0, .int .i64 0, .int .i64 0, .int .i64 0] 23)).oth (b' := w11.heap.size) (by have := X11_5.out.lt; omega) (cl (Y)))
  have Y11_6 := Lib.hid ((X11_6.out.alloc (.cells #[.int .i64 0, .int .i64 0, .int .i64 0, .int .i64 0, .int .i64 0, .int .i64 0] 23)).oth (b' := w11.heap.size) (by have := X11_6.out.lt; omega) (cl (Y)))
  have Y11_7 := Lib.hid ((X11_7.out.alloc (.cells #[.int .i64 0, .int .i64 0, .int .i64 0, .int .i64 0, .int .i64 0, .int .i64 0] 23)).oth (b' := w11.heap.size) (by have := X11_7.out.lt; omega) (cl (Y)))
  have Y11_8 := Lib.hid ((X11_8.out.alloc (.cells #[.int .i64 0, .int .i64 0, .int .i64 0, .int .i64 0, .int .i64 0, .int .i64 0] 23)).oth (b' := w11.heap.size) (by have := X11_8.out.lt; omega) (cl (Y)))
  have N11 := Lib.hid (Z11.out.row (g := Y))
  have C11 := Lib.hid (below_row (B11.out.alloc B11.out.size (.cells #[.int .i64 0, .int .i64 0, .int .i64 0, .int .i64 0, .int .i64 0, .int .i64 0] 23)) (b := w11.heap.size) B11.out.size (cl (Y)))
  go_wp2_with (first | refine wpList_store_row rfl _ _ _ rfl _ _ rfl rfl _ _ Z11.out HI7.out rfl HO7.out ?_ | refine load_rowG rfl _ _ rfl _ rfl _ _ _ _ Y11_0.out Tryd.underlying23 rfl HI2.out ?_ | refine load_rowG rfl _ _ rfl _ rfl _ _ _ _ Y11_1.out Tryd.underlying23 rfl HI3.out ?_ | refine load_rowG rfl _ _ rfl _ rfl _ _ _ _ Y11_2.out Tryd.underlying23 rfl HI4.out ?_ | refine load_rowG rfl _ _ rfl _ rfl _ _ _ _ Y11_3.out Tryd.underlying23 rfl HI5.out ?_ | refine load_rowG rfl _ _ rfl _ rfl _ _ _ _ Y11_4.out Tryd.underlying23 rfl HI5.out ?_ | refine load_rowG rfl _ _ rfl _ rfl _ _ _ _ Y11_5.out Tryd.underlying23 rfl HI6.out ?_ | refine load_rowG rfl _ _ rfl _ rfl _ _ _ _ Y11_6.out Tryd.underlying23 rfl HI2.out ?_ | refine load_rowG rfl _ _ rfl _ rfl _ _ _ _ Y11_7.out Tryd.underlying23 rfl HI2.out ?_ | refine load_rowG rfl _ _ rfl _ rfl _ _ _ _ Y11_8.out Tryd.underlying23 rfl HI1.out ?_ | refine load_rowG rfl _ _ rfl _ rfl _ _ _ _ N11.out Tryd.underlying23 rfl HI7.out ?_)
  go_ret
  exact ⟨rfl, C11.out⟩

set_option maxHeartbeats 16000000 in
theorem group_c03 (a b c S X Y : Nat → Int) (oa : ok a = true) (ob : ok b = true) (os : ok S = true) (hab : mulR a b = DE S 0) (hba : mulR b a = DE S 0) (hbc : mulR b c = DE X 0)
    (hback : divR S b = DE a 0) (hsame : mulR a zf = DE a 0) (hnone : divR a a = DE zf 0) (hone : mulR S c = DE Y 3) (w : World) (he : Env w) : Calls Tryd.prog 4 #[.agg (cl a), .agg (cl b), .agg (cl c)] w (Gives (.bool true) w) := by
  have HE := Lib.hid he
  have bd0 := build0
  have eqs := eq_self
  have qzf : ∀ W, (Op.equalIn 10000 23 (.agg (cl zf)) (.agg #[.int .i64 0, .int .i64 0, .int .i64 0, .int .i64 0, .int .i64 0, .int .i64 0])).run Tryd.prog W = .ok true W := eq_self zf
  obtain ⟨a0, a1, a2, a3⟩ := three_of a b c w
  have A0 := Lib.hid a0
  have A1 := Lib.hid a1
  have A2 := Lib.hid a2
  have HB0 := Lib.hid a3
  clear a0 a1 a2 a3 he
  have Hhab := Lib.hid hab
  have Hhba := Lib.hid hba
  have Hhbc := Lib.hid hbc
  have Hhback := Lib.hid hback
  have Hhsame := Lib.hid hsame
  have Hhnone := Lib.hid hnone
  have Hhone := Lib.hid hone
  have Hoa := Lib.hid oa
  have Hob := Lib.hid ob
  have Hos := Lib.hid os
  clear hab hba hbc hback hsame hnone hone oa ob os
  have HI1 := Lib.hid (infoDim (zf))
  have HO1 := Lib.hid (oneDim (zf))
  have HI2 := Lib.hid (infoDim (a))
  have HO2 := Lib.hid (oneDim (a))
  have HI3 := Lib.hid (infoDim (b))
  have HO3 := Lib.hid (oneDim (b))
  have HI4 := Lib.hid (infoDim (c))
  have HO4 := Lib.hid (oneDim (c))
  go_enter Tryd.func4, Tryd.ntmps4
  go_wp2_with (first | refine load_rowG rfl _ _ rfl _ rfl _ _ _ _ A0.out Tryd.underlying23 rfl HI2.out ?_ | refine load_rowG rfl _ _ rfl _ rfl _ _ _ _ A1.out Tryd.underlying23 rfl HI3.out ?_ | refine load_rowG rfl _ _ rfl _ rfl _ _ _ _ A2.out Tryd.underlying23 rfl HI4.out ?_)
  refine (sane_any _ (HE.out.below HB0.out)).mono ?_
  rintro e w1 ⟨rfl, hb⟩
  have X1_0 := Lib.hid (A0.out.below0 hb)
  have X1_1 := Lib.hid (A1.out.below0 hb)
  have X1_2 := Lib.hid (A2.out.below0 hb)
  have B1 := Lib.hid (HB0.out.trans (hb.mono HB0.out.size))
  clear hb
  go_wp2_with (first | refine load_rowG rfl _ _ rfl _ rfl _ _ _ _ X1_0.out Tryd.underlying23 rfl HI2.out ?_ | refine load_rowG rfl _ _ rfl _ rfl _ _ _ _ X1_1.out Tryd.underlying23 rfl HI3.out ?_ | refine load_rowG rfl _ _ rfl _ rfl _ _ _ _ X1_2.out Tryd.underlying23 rfl HI4.out ?_)
  refine (mul_c _ a b S 0 Hhab.out).mono ?_
  rintro e w2 ⟨rfl, hb⟩
  have X2_0 := Lib.hid (X1_0.out.below0 hb)
  have X2_1 := Lib.hid (X1_1.out.below0 hb)
  have X2_2 := Lib.hid (X1_2.out.below0 hb)
  have B2 := Lib.hid (B1.out.trans (hb.mono B1.out.size))
  clear hb
  have HI5 := Lib.hid (infoDim (S))
  have HO5 := Lib.hid (oneDim (S))
  have Z2 := Lib.hid (zf_at w2)
  have Y2_0 := Lib.hid ((X2_0.out.alloc (.cells #[.int .i64 0, .int .i64 0, .int .i64 0, .int .i64 0, .int .i64 0, .int .i64 0] 23)).oth (b' := w2.heap.size) (by have := X2_0.out.lt; omega) (cl (S)))
  have Y2_1 := Lib.hid ((X2_1.out.alloc (.cells #[.int .i64 0, .int .i64 0, .int .i64 0, .int .i64 0, .int .i64 0, .int .i64 0] 23)).oth (b' := w2.heap.size) (by have := X2_1.out.lt; omega) (cl (S)))
  have Y2_2 := Lib.hid ((X2_2.out.alloc (.cells #[.int .i64 0, .int .i64 0, .int .i64 0, .int .i64 0, .int .i64 0, .int .i64 0] 23)).oth (b' := w2.heap.size) (by have := X2_2.out.lt; omega) (cl (S)))
  have N2 := Lib.hid (Z2.out.row (g := S))
  have C2 := Lib.hid (below_row (B2.out.alloc B2.out.size (.cells #[.int .i64 0, .int .i64 0, .int .i64 0, .int .i64 0, .int .i64 0, .int .i64 0] 23)) (b := w2.heap.size) B2.out.size (cl (S)))
  go_wp2_with (first | refine wpList_store_row rfl _ _ _ rfl _ _ rfl rfl _ _ Z2.out HI5.out rfl HO5.out ?_ | refine load_rowG rfl _ _ rfl _ rfl _ _ _ _ Y2_0.out Tryd.underlying23 rfl HI2.out ?_ | refine load_rowG rfl _ _ rfl _ rfl _ _ _ _ Y2_1.out Tryd.underlying23 rfl HI3.out ?_ | refine load_rowG rfl _ _ rfl _ rfl _ _ _ _ Y2_2.out Tryd.underlying23 rfl HI4.out ?_ | refine load_rowG rfl _ _ rfl _ rfl _ _ _ _ N2.out Tryd.underlying23 rfl HI5.out ?_)
  refine (mul_c _ b a S 0 Hhba.out).mono ?_
  rintro e w3 ⟨rfl, hb⟩
  have X3_0 := Lib.hid (Y2_0.out.below0 hb)
  have X3_1 := Lib.hid (Y2_1.out.below0 hb)
  have X3_2 := Lib.hid (Y2_2.out.below0 hb)
  have X3_3 := Lib.hid (N2.out.below0 hb)
  have B3 := Lib.hid (C2.out.trans (hb.mono C2.out.size))
  clear hb
  have Z3 := Lib.hid (zf_at w3)
  have Y3_0 := Lib.hid ((X3_0.out.alloc (.cells #[.int .i64 0, .int .i64 0, .int .i64 0, .int .i64 0, .int .i64 0, .int .i64 0] 23)).oth (b' := w3.heap.size) (by have := X3_0.out.lt; omega) (cl (S)))
  have Y3_1 := Lib.hid ((X3_1.out.alloc (.cells #[.int .i64 0, .int .i64 0, .int .i64 0, .int .i64 0, .int .i64 0, .int .i64 0] 23)).oth (b' := w3.heap.size) (by have := X3_1.out.lt; omega) (cl (S)))
  have Y3_2 := Lib.hid ((X3_2.out.alloc (.cells #[.int .i64 0, .int .i64 0, .int .i64 0, .int .i64 0, .int .i64 0, .int .i64 0] 23)).oth (b' := w3.heap.size) (by have := X3_2.out.lt; omega) (cl (S)))
  have Y3_3 := Lib.hid ((X3_3.out.alloc (.cells #[.int .i64 0, .int .i64 0, .int .i64 0, .int .i64 0, .int .i64 0, .int .i64 0] 23)).oth (b' := w3.heap.size) (by have := X3_3.out.lt; omega) (cl (S)))
  have N3 := Lib.hid (Z3.out.row (g := S))
  have C3 := Lib.hid (below_row (B3.out.alloc B3.out.size (.cells #[.int .i64 0, .int .i64 0, .int .i64 0, .int .i64 0, .int .i64 0, .int .i64 0] 23)) (b := w3.heap.size) B3.out.size (cl (S)))
  go_wp2_with (first | refine wpList_store_row rfl _ _ _ rfl _ _ rfl rfl _ _ Z3.out HI5.out rfl HO5.out ?_ | refine load_rowG rfl _ _ rfl _ rfl _ _ _ _ Y3_0.out Tryd.underlying23 rfl HI2.out ?_ | refine load_rowG rfl _ _ rfl _ rfl _ _ _ _ Y3_1.out Tryd.underlying23 rfl HI3.out ?_ | refine load_rowG rfl _ _ rfl _ rfl _ _ _ _ Y3_2.out Tryd.underlying23 rfl HI4.out ?_ | refine load_rowG rfl _ _ rfl _ rfl _ _ _ _ Y3_3.out Tryd.underlying23 rfl HI5.out ?_ | refine load_rowG rfl _ _ rfl _ rfl _ _ _ _ N3.out Tryd.underlying23 rfl HI5.out ?_)
  refine (mul_c _ b c X 0 Hhbc.out).mono ?_
  rintro e w4 ⟨rfl, hb⟩
  have X4_0 := Lib.hid (Y3_0.out.below0 hb)
  have X4_1 := Lib.hid (Y3_1.out.below0 hb)
  have X4_2 := Lib.hid (Y3_2.out.below0 hb)
  have X4_3 := Lib.hid (Y3_3.out.below0 hb)
  have X4_4 := Lib.hid (N3.out.below0 hb)
  have B4 := Lib.hid (C3.out.trans (hb.mono C3.out.size))
  clear hb
  have HI6 := Lib.hid (infoDim (X))
  have HO6 := Lib.hid (oneDim (X))
  have Z4 := Lib.hid (zf_at w4)
  have Y4_0 := Lib.hid ((X4_0.out.alloc (.cells #[.int .i64 0, .int .i64 0, .int .i64 0, .int .i64 0, .int .i64 0, .int .i64 0] 23)).oth (b' := w4.heap.size) (by have := X4_0.out.lt; omega) (cl (X)))
  have Y4_1 := Lib.hid ((X4_1.out.alloc (.cells #[.int .i64 0, .int .i64 0, .int .i64 0, .int .i64 0, .int .i64 0, .int .i64 0] 23)).oth (b' := w4.heap.size) (by have := X4_1.out.lt; omega) (cl (X)))
  have Y4_2 := Lib.hid ((X4_2.out.alloc (.cells #[.int .i64 0, .int .i64 0, .int .i64 0, .int .i64 0, .int .i64 0, .int .i64 0] 23)).oth (b' := w4.heap.size) (by have := X4_2.out.lt; omega) (cl (X)))
  have Y4_3 := Lib.hid ((X4_3.out.alloc (.cells #[.int .i64 0, .int .i64 0, .int .i64 0, .int .i64 0, .int .i64 0, .int .i64 0] 23)).oth (b' := w4.heap.size) (by have := X4_3.out.lt; omega) (cl (X)))
  have Y4_4 := Lib.hid ((X4_4.out.alloc (.cells #[.int .i64 0, .int .i64 0, .int .i64 0, .int .i64 0, .int .i64 0, .int .i64 0] 23)).oth (b' := w4.heap.size) (by have := X4_4.out.lt; omega) (cl (X)))
  have N4 := Lib.hid (Z4.out.row (g := X))
  have C4 := Lib.hid (below_row (B4.out.alloc B4.out.size (.cells #[.int .i64 0, .int .i64 0, .int .i64 0, .int .i64 0, .int .i64 0, .int .i64 0] 23)) (b := w4.heap.size) B4.out.size (cl (X)))
  go_wp2_with (first | refine wpList_store_row rfl _ _ _ rfl _ _ rfl rfl _ _ Z4.out HI6.out rfl HO6.out ?_ | refine load_rowG rfl _ _ rfl _ rfl _ _ _ _ Y4_0.out Tryd.underlying23 rfl HI2.out ?_ | refine load_rowG rfl _ _ rfl _ rfl _ _ _ _ Y4_1.out Tryd.underlying23 rfl HI3.out ?_ | refine load_rowG rfl _ _ rfl _ rfl _ _ _ _ Y4_2.out Tryd.underlying23 rfl HI4.out ?_ | refine load_rowG rfl _ _ rfl _ rfl _ _ _ _ Y4_3.out Tryd.underlying23 rfl HI5.out ?_ | refine load_rowG rfl _ _ rfl _ rfl _ _ _ _ Y4_4.out Tryd.underlying23 rfl HI5.out ?_ | refine load_rowG rfl _ _ rfl _ rfl _ _ _ _ N4.out Tryd.underlying23 rfl HI6.out ?_)
  refine (right_c _ a true Hoa.out).mono ?_
  rintro e w5 ⟨rfl, hb⟩
  have X5_0 := Lib.hid (Y4_0.out.below0 hb)
  have X5_1 := Lib.hid (Y4_1.out.below0 hb)
  have X5_2 := Lib.hid (Y4_2.out.below0 hb)
  have X5_3 := Lib.hid (Y4_3.out.below0 hb)
  have X5_4 := Lib.hid (Y4_4.out.below0 hb)
  have X5_5 := Lib.hid (N4.out.below0 hb)
  have B5 := Lib.hid (C4.out.trans (hb.mono C4.out.size))
  clear hb
  go_wp2_with (first | refine load_rowG rfl _ _ rfl _ rfl _ _ _ _ X5_0.out Tryd.underlying23 rfl HI2.out ?_ | refine load_rowG rfl _ _ rfl _ rfl _ _ _ _ X5_1.out Tryd.underlying23 rfl HI3.out ?_ | refine load_rowG rfl _ _ rfl _ rfl _ _ _ _ X5_2.out Tryd.underlying23 rfl HI4.out ?_ | refine load_rowG rfl _ _ rfl _ rfl _ _ _ _ X5_3.out Tryd.underlying23 rfl HI5.out ?_ | refine load_rowG rfl _ _ rfl _ rfl _ _ _ _ X5_4.out Tryd.underlying23 rfl HI5.out ?_ | refine load_rowG rfl _ _ rfl _ rfl _ _ _ _ X5_5.out Tryd.underlying23 rfl HI6.out ?_)
  refine (right_c _ b true Hob.out).mono ?_
  rintro e w6 ⟨rfl, hb⟩
  have X6_0 := Lib.hid (X5_0.out.below0 hb)
  have X6_1 := Lib.hid (X5_1.out.below0 hb)
  have X6_2 := Lib.hid (X5_2.out.below0 hb)
  have X6_3 := Lib.hid (X5_3.out.below0 hb)
  have X6_4 := Lib.hid (X5_4.out.below0 hb)
  have X6_5 := Lib.hid (X5_5.out.below0 hb)
  have B6 := Lib.hid (B5.out.trans (hb.mono B5.out.size))
  clear hb
  go_wp2_with (first | refine load_rowG rfl _ _ rfl _ rfl _ _ _ _ X6_0.out Tryd.underlying23 rfl HI2.out ?_ | refine load_rowG rfl _ _ rfl _ rfl _ _ _ _ X6_1.out Tryd.underlying23 rfl HI3.out ?_ | refine load_rowG rfl _ _ rfl _ rfl _ _ _ _ X6_2.out Tryd.underlying23 rfl HI4.out ?_ | refine load_rowG rfl _ _ rfl _ rfl _ _ _ _ X6_3.out Tryd.underlying23 rfl HI5.out ?_ | refine load_rowG rfl _ _ rfl _ rfl _ _ _ _ X6_4.out Tryd.underlying23 rfl HI5.out ?_ | refine load_rowG rfl _ _ rfl _ rfl _ _ _ _ X6_5.out Tryd.underlying23 rfl HI6.out ?_)
  refine (right_c _ S true Hos.out).mono ?_
  rintro e w7 ⟨rfl, hb⟩
  have X7_0 := Lib.hid (X6_0.out.below0 hb)
  have X7_1 := Lib.hid (X6_1.out.below0 hb)
  have X7_2 := Lib.hid (X6_2.out.below0 hb)
  have X7_3 := Lib.hid (X6_3.out.below0 hb)
  have X7_4 := Lib.hid (X6_4.out.below0 hb)
  have X7_5 := Lib.hid (X6_5.out.below0 hb)
  have B7 := Lib.hid (B6.out.trans (hb.mono B6.out.size))
  clear hb
  go_wp2_with (first | refine load_rowG rfl _ _ rfl _ rfl _ _ _ _ X7_0.out Tryd.underlying23 rfl HI2.out ?_ | refine load_rowG rfl _ _ rfl _ rfl _ _ _ _ X7_1.out Tryd.underlying23 rfl HI3.out ?_ | refine load_rowG rfl _ _ rfl _ rfl _ _ _ _ X7_2.out Tryd.underlying23 rfl HI4.out ?_ | refine load_rowG rfl _ _ rfl _ rfl _ _ _ _ X7_3.out Tryd.underlying23 rfl HI5.out ?_ | refine load_rowG rfl _ _ rfl _ rfl _ _ _ _ X7_4.out Tryd.underlying23 rfl HI5.out ?_ | refine load_rowG rfl _ _ rfl _ rfl _ _ _ _ X7_5.out Tryd.underlying23 rfl HI6.out ?_)
  refine (div_c _ S b a 0 Hhback.out).mono ?_
  rintro e w8 ⟨rfl, hb⟩
  have X8_0 := Lib.hid (X7_0.out.below0 hb)
  have X8_1 := Lib.hid (X7_1.out.below0 hb)
  have X8_2 := Lib.hid (X7_2.out.below0 hb)
  have X8_3 := Lib.hid (X7_3.out.below0 hb)
  have X8_4 := Lib.hid (X7_4.out.below0 hb)
  have X8_5 := Lib.hid (X7_5.out.below0 hb)
  have B8 := Lib.hid (B7.out.trans (hb.mono B7.out.size))
  clear hb
  have Z8 := Lib.hid (zf_at w8)
  have Y8_0 := Lib.hid ((X8_0.out.alloc (.cells #[.int .i64 0, .int .i64 0, .int .i64 0, .int .i64 0, .int .i64 0, .int .i64 0] 23)).oth (b' := w8.heap.size) (by have := X8_0.out.lt; omega) (cl (a)))
  have Y8_1 := Lib.hid ((X8_1.out.alloc (.cells #[.int .i64 0, .int .i64 0, .int .i64 0, .int .i64 0, .int .i64 0, .int .i64 0] 23)).oth (b' := w8.heap.size) (by have := X8_1.out.lt; omega) (cl (a)))
  have Y8_2 := Lib.hid ((X8_2.out.alloc (.cells #[.int .i64 0, .int .i64 0, .int .i64 0, .int .i64 0, .int .i64 0, .int .i64 0] 23)).oth (b' := w8.heap.size) (by have := X8_2.out.lt; omega) (cl (a)))
  have Y8_3 := Lib.hid ((X8_3.out.alloc (.cells #[.int .i64 0, .int .i64 0, .int .i64 0, .int .i64 0, .int .i64 0, .int .i64 0] 23)).oth (b' := w8.heap.size) (by have := X8_3.out.lt; omega) (cl (a)))
  have Y8_4 := Lib.hid ((X8_4.out.alloc (.cells #[.int .i64 0, .int .i64 0, .int .i64 0, .int .i64 0, .int .i64 0, .int .i64 0] 23)).oth (b' := w8.heap.size) (by have := X8_4.out.lt; omega) (cl (a)))
  have Y8_5 := Lib.hid ((X8_5.out.alloc (.cells #[.int .i64 0, .int .i64 0, .int .i64 0, .int .i64 0, .int .i64 0, .int .i64 0] 23)).oth (b' := w8.heap.size) (by have := X8_5.out.lt; omega) (cl (a)))
  have N8 := Lib.hid (Z8.out.row (g := a))
  have C8 := Lib.hid (below_row (B8.out.alloc B8.out.size (.cells #[.int .i64 0, .int .i64 0, .int .i64 0, .int .i64 0, .int .i64 0, .int .i64 0] 23)) (b := w8.heap.size) B8.out.size (cl (a)))
  go_wp2_with (first | refine wpList_store_row rfl _ _ _ rfl _ _ rfl rfl _ _ Z8.out HI2.out rfl HO2.out ?_ | refine load_rowG rfl _ _ rfl _ rfl _ _ _ _ Y8_0.out Tryd.underlying23 rfl HI2.out ?_ | refine load_rowG rfl _ _ rfl _ rfl _ _ _ _ Y8_1.out Tryd.underlying23 rfl HI3.out ?_ | refine load_rowG rfl _ _ rfl _ rfl _ _ _ _ Y8_2.out Tryd.underlying23 rfl HI4.out ?_ | refine load_rowG rfl _ _ rfl _ rfl _ _ _ _ Y8_3.out Tryd.underlying23 rfl HI5.out ?_ | refine load_rowG rfl _ _ rfl _ rfl _ _ _ _ Y8_4.out Tryd.underlying23 rfl HI5.out ?_ | refine load_rowG rfl _ _ rfl _ rfl _ _ _ _ Y8_5.out Tryd.underlying23 rfl HI6.out ?_ | refine load_rowG rfl _ _ rfl _ rfl _ _ _ _ N8.out Tryd.underlying23 rfl HI2.out ?_)
  refine (mul_c _ a zf a 0 Hhsame.out).mono ?_
  rintro e w9 ⟨rfl, hb⟩
  have X9_0 := Lib.hid (Y8_0.out.below0 hb)
  have X9_1 := Lib.hid (Y8_1.out.below0 hb)
  have X9_2 := Lib.hid (Y8_2.out.below0 hb)
  have X9_3 := Lib.hid (Y8_3.out.below0 hb)
  have X9_4 := Lib.hid (Y8_4.out.below0 hb)
  have X9_5 := Lib.hid (Y8_5.out.below0 hb)
  have X9_6 := Lib.hid (N8.out.below0 hb)
  have B9 := Lib.hid (C8.out.trans (hb.mono C8.out.size))
  clear hb
  have Z9 := Lib.hid (zf_at w9)
  have Y9_0 := Lib.hid ((X9_0.out.alloc (.cells #[.int .i64 0, .int .i64 0, .int .i64 0, .int .i64 0, .int .i64 0, .int .i64 0] 23)).oth (b' := w9.heap.size) (by have := X9_0.out.lt; omega) (cl (a)))
  have Y9_1 := Lib.hid ((X9_1.out.alloc (.cells #[.int .i64 0, .int .i64 0, .int .i64 0, .int .i64 0, .int .i64 0, .int .i64 0] 23)).oth (b' := w9.heap.size) (by have := X9_1.out.lt; omega) (cl (a)))
  have Y9_2 := Lib.hid ((X9_2.out.alloc (.cells #[.int .i64 0, .int .i64 0, .int .i64 0, .int .i64 0, .int .i64 0, .int .i64 0] 23)).oth (b' := w9.heap.size) (by have := X9_2.out.lt; omega) (cl (a)))
  have Y9_3 := Lib.hid ((X9_3.out.alloc (.cells #[.int .i64 0, .int .i64 0, .int .i64 0, .int .i64 0, .int .i64 0, .int .i64 0] 23)).oth (b' := w9.heap.size) (by have := X9_3.out.lt; omega) (cl (a)))
  have Y9_4 := Lib.hid ((X9_4.out.alloc (.cells #[.int .i64 0, .int .i64 0, .int .i64 0, .int .i64 0, .int .i64 0, .int .i64 0] 23)).oth (b' := w9.heap.size) (by have := X9_4.out.lt; omega) (cl (a)))
  have Y9_5 := Lib.hid ((X9_5.out.alloc (.cells #[.int .i64 0, .int .i64 0, .int .i64 0, .int .i64 0, .int .i64 0, .int .i64 0] 23)).oth (b' := w9.heap.size) (by have := X9_5.out.lt; omega) (cl (a)))
  have Y9_6 := Lib.hid ((X9_6.out.alloc (.cells #[.int .i64 0, .int .i64 0, .int .i64 0, .int .i64 0, .int .i64 0, .int .i64 0] 23)).oth (b' := w9.heap.size) (by have := X9_6.out.lt; omega) (cl (a)))
  have N9 := Lib.hid (Z9.out.row (g := a))
  have C9 := Lib.hid (below_row (B9.out.alloc B9.out.size (.cells #[.int .i64 0, .int .i64 0, .int .i64 0, .int .i64 0, .int .i64 0, .int .i64 0] 23)) (b := w9.heap.size) B9.out.size (cl (a)))
  go_wp2_with (first | refine wpList_store_row rfl _ _ _ rfl _ _ rfl rfl _ _ Z9.out HI2.out rfl HO2.out ?_ | refine load_rowG rfl _ _ rfl _ rfl _ _ _ _ Y9_0.out Tryd.underlying23 rfl HI2.out ?_ | refine load_rowG rfl _ _ rfl _ rfl _ _ _ _ Y9_1.out Tryd.underlying23 rfl HI3.out ?_ | refine load_rowG rfl _ _ rfl _ rfl _ _ _ _ Y9_2.out Tryd.underlying23 rfl HI4.out ?_ | refine load_rowG rfl _ _ rfl _ rfl _ _ _ _ Y9_3.out Tryd.underlying23 rfl HI5.out ?_ | refine load_rowG rfl _ _ rfl _ rfl _ _ _ _ Y9_4.out Tryd.underlying23 rfl HI5.out ?_ | refine load_rowG rfl _ _ rfl _ rfl _ _ _ _ Y9_5.out Tryd.underlying23 rfl HI6.out ?_ | refine load_rowG rfl _ _ rfl _ rfl _ _ _ _ Y9_6.out Tryd.underlying23 rfl HI2.out ?_ | refine load_rowG rfl _ _ rfl _ rfl _ _ _ _ N9.out Tryd.underlying23 rfl HI2.out ?_)
  refine (div_c _ a a zf 0 Hhnone.out).mono ?_
  rintro e w10 ⟨rfl, hb⟩
  have X10_0 := Lib.hid (Y9_0.out.below0 hb)
  have X10_1 := Lib.hid (Y9_1.out.below0 hb)
  have X10_2 := Lib.hid (Y9_2.out.below0 hb)
  have X10_3 := Lib.hid (Y9_3.out.below0 hb)
  have X10_4 := Lib.hid (Y9_4.out.below0 hb)
  have X10_5 := Lib.hid (Y9_5.out.below0 hb)
  have X10_6 := Lib.hid (Y9_6.out.below0 hb)
  have X10_7 := Lib.hid (N9.out.below0 hb)
  have B10 := Lib.hid (C9.out.trans (hb.mono C9.out.size))
  clear hb
  have Z10 := Lib.hid (zf_at w10)
  have Y10_0 := Lib.hid ((X10_0.out.alloc (.cells #[.int .i64 0, .int .i64 0, .int .i64 0, .int .i64 0, .int .i64 0, .int .i64 0] 23)).oth (b' := w10.heap.size) (by have := X10_0.out.lt; omega) (cl (zf)))
  have Y10_1 := Lib.hid ((X10_1.out.alloc (.cells #[.int .i64 0, .int .i64 0, .int .i64 0, .int .i64 0, .int .i64 0, .int .i64 0] 23)).oth (b' := w10.heap.size) (by have := X10_1.out.lt; omega) (cl (zf)))
  have Y10_2 := Lib.hid ((X10_2.out.alloc (.cells #[.int .i64 0, .int .i64 0, .int .i64 0, .int .i64 0, .int .i64 0, .int .i64 0] 23)).oth (b' := w10.heap.size) (by have := X10_2.out.lt; omega) (cl (zf)))
  have Y10_3 := Lib.hid ((X10_3.out.alloc (.cells #[.int .i64 0, .int .i64 0, .int .i64 0, .int .i64 0, .int .i64 0, .int .i64 0] 23)).oth (b' := w10.heap.size) (by have := X10_3.out.lt; omega) (cl (zf)))
  have Y10_4 := Lib.hid ((X10_4.out.alloc (.cells #[.int .i64 0, .int .i64 0, .int .i64 0, .int .i64 0, .int .i64 0, .int .i64 0] 23)).oth (b' := w10.heap.size) (by have := X10_4.out.lt; omega) (cl (zf)))
  have Y10_5 := Lib.hid ((X10_5.out.alloc (.cells #[.int .i64 0, .int .i64 0, .int .i64 0, .int .i64 0, .int .i64 0, .int .i64 0] 23)).oth (b' := w10.heap.size) (by have := X10_5.out.lt; omega) (cl (zf)))
  have Y10_6 := Lib.hid ((X10_6.out.alloc (.cells #[.int .i64 0, .int .i64 0, .int .i64 0, .int .i64 0, .int .i64 0, .int .i64 0] 23)).oth (b' := w10.heap.size) (by have := X10_6.out.lt; omega) (cl (zf)))
  have Y10_7 := Lib.hid ((X10_7.out.alloc (.cells #[.int .i64 0, .int .i64 0, .int .i64 0, .int .i64 0, .int .i64 0, .int .i64 0] 23)).oth (b' := w10.heap.size) (by have := X10_7.out.lt; omega) (cl (zf)))
  have N10 := Lib.hid (Z10.out.row (g := zf))
  have C10 := Lib.hid (below_row (B10.out.alloc B10.out.size (.cells #[.int .i64 0, .int .i64 0, .int .i64 0, .int .i64 0, .int .i64 0, .int .i64 0] 23)) (b := w10.heap.size) B10.out.size (cl (zf)))
  go_wp2_with (first | refine wpList_store_row rfl _ _ _ rfl _ _ rfl rfl _ _ Z10.out HI1.out rfl HO1.out ?_ | refine load_rowG rfl _ _ rfl _ rfl _ _ _ _ Y10_0.out Tryd.underlying23 rfl HI2.out ?_ | refine load_rowG rfl _ _ rfl _ rfl _ _ _ _ Y10_1.out Tryd.underlying23 rfl HI3.out ?_ | refine load_rowG rfl _ _ rfl _ rfl _ _ _ _ Y10_2.out Tryd.underlying23 rfl HI4.out ?_ | refine load_rowG rfl _ _ rfl _ rfl _ _ _ _ Y10_3.out Tryd.underlying23 rfl HI5.out ?_ | refine load_rowG rfl _ _ rfl _ rfl _ _ _ _ Y10_4.out Tryd.underlying23 rfl HI5.out ?_ | refine load_rowG rfl _ _ rfl _ rfl _ _ _ _ Y10_5.out Tryd.underlying23 rfl HI6.out ?_ | refine load_rowG rfl _ _ rfl _ rfl _ _ _ _ Y10_6.out Tryd.underlying23 rfl HI2.out ?_ | refine load_rowG rfl _ _ rfl _ rfl _ _ _ _ Y10_7.out Tryd.underlying23 rfl HI2.out ?_ | refine load_rowG rfl _ _ rfl _ rfl _ _ _ _ N10.out Tryd.underlying23 rfl HI1.out ?_)
  refine (mul_c _ S c Y 3 Hhone.out).mono ?_
  rintro e w11 ⟨rfl, hb⟩
  have X11_0 := Lib.hid (Y10_0.out.below0 hb)
  have X11_1 := Lib.hid (Y10_1.out.below0 hb)
  have X11_2 := Lib.hid (Y10_2.out.below0 hb)
  have X11_3 := Lib.hid (Y10_3.out.below0 hb)
  have X11_4 := Lib.hid (Y10_4.out.below0 hb)
  have X11_5 := Lib.hid (Y10_5.out.below0 hb)
  have X11_6 := Lib.hid (Y10_6.out.below0 hb)
  have X11_7 := Lib.hid (Y10_7.out.below0 hb)
  have X11_8 := Lib.hid (N10.out.below0 hb)
  have B11 := Lib.hid (C10.out.trans (hb.mono C10.out.size))
  clear hb
  have HI7 := Lib.hid (infoDim (Y))
  have HO7 := Lib.hid (oneDim (Y))
  have Z11 := Lib.hid (zf_at w11)
  have Y11_0 := Lib.hid ((X11_0.out.alloc (.cells #[.int .i64 0, .int .i64 0, .int .i64 0, .int .i64 0, .int .i64 0, .int .i64 0] 23)).oth (b' := w11.heap.size) (by have := X11_0.out.lt; omega) (cl (Y)))
  have Y11_1 := Lib.hid ((X11_1.out.alloc (.cells #[.int .i64 0, .int .i64 0, .int .i64 0, .int .i64 0, .int .i64 0, .int .i64 0] 23)).oth (b' := w11.heap.size) (by have := X11_1.out.lt; omega) (cl (Y)))
  have Y11_2 := Lib.hid ((X11_2.out.alloc (.cells #[.int .i64 0, .int .i64 0, .int .i64 0, .int .i64 0, .int .i64 0, .int .i64 0] 23)).oth (b' := w11.heap.size) (by have := X11_2.out.lt; omega) (cl (Y)))
  have Y11_3 := Lib.hid ((X11_3.out.alloc (.cells #[.int .i64 0, .int .i64 0, .int .i64 0, .int .i64 0, .int .i64 0, .int .i64 0] 23)).oth (b' := w11.heap.size) (by have := X11_3.out.lt; omega) (cl (Y)))
  have Y11_4 := Lib.hid ((X11_4.out.alloc (.cells #[.int .i64 0, .int .i64 0, .int .i64 0, .int .i64 0, .int .i64 0, .int .i64 0] 23)).oth (b' := w11.heap.size) (by have := X11_4.out.lt; omega) (cl (Y)))
  have Y11_5 := Lib.hid ((X11_5.out.alloc (.cells #[.int .i64 0, .int .i64 0, .int .i64 0, .int .i64 0, .int .i64 0, .int .i64 0] 23)).oth (b' := w11.heap.size) (by have := X11_5.out.lt; omega) (cl (Y)))
  have Y11_6 := Lib.hid ((X11_6.out.alloc (.cells #[.int .i64 0, .int .i64 0, .int .i64 0, .int .i64 0, .int .i64 0, .int .i64 0] 23)).oth (b' := w11.heap.size) (by have := X11_6.out.lt; omega) (cl (Y)))
  have Y11_7 := Lib.hid ((X11_7.out.alloc (.cells #[.int .i64 0, .int .i64 0, .int .i64 0, .int .i64 0, .int .i64 0, .int .i64 0] 23)).oth (b' := w11.heap.size) (by have := X11_7.out.lt; omega) (cl (Y)))
  have Y11_8 := Lib.hid ((X11_8.out.alloc (.cells #[.int .i64 0, .int .i64 0, .int .i64 0, .int .i64 0, .int .i64 0, .int .i64 0] 23)).oth (b' := w11.heap.size) (by have := X11_8.out.lt; omega) (cl (Y)))
  have N11 := Lib.hid (Z11.out.row (g := Y))
  have C11 := Lib.hid (below_row (B11.out.alloc B11.out.size (.cells #[.int .i64 0, .int .i64 0, .int .i64 0, .int .i64 0, .int .i64 0, .int .i64 0] 23)) (b := w11.heap.size) B11.out.size (cl (Y)))
  go_wp2_with (first | refine wpList_store_row rfl _ _ _ rfl _ _ rfl rfl _ _ Z11.out HI7.out rfl HO7.out ?_ | refine load_rowG rfl _ _ rfl _ rfl _ _ _ _ Y11_0.out Tryd.underlying23 rfl HI2.out ?_ | refine load_rowG rfl _ _ rfl _ rfl _ _ _ _ Y11_1.out Tryd.underlying23 rfl HI3.out ?_ | refine load_rowG rfl _ _ rfl _ rfl _ _ _ _ Y11_2.out Tryd.underlying23 rfl HI4.out ?_ | refine load_rowG rfl _ _ rfl _ rfl _ _ _ _ Y11_3.out Tryd.underlying23 rfl HI5.out ?_ | refine load_rowG rfl _ _ rfl _ rfl _ _ _ _ Y11_4.out Tryd.underlying23 rfl HI5.out ?_ | refine load_rowG rfl _ _ rfl _ rfl _ _ _ _ Y11_5.out Tryd.underlying23 rfl HI6.out ?_ | refine load_rowG rfl _ _ rfl _ rfl _ _ _ _ Y11_6.out Tryd.underlying23 rfl HI2.out ?_ | refine load_rowG rfl _ _ rfl _ rfl _ _ _ _ Y11_7.out Tryd.underlying23 rfl HI2.out ?_ | refine load_rowG rfl _ _ rfl _ rfl _ _ _ _ Y11_8.out Tryd.underlying23 rfl HI1.out ?_ | refine load_rowG rfl _ _ rfl _ rfl _ _ _ _ N11.out Tryd.underlying23 rfl HI7.out ?_)
  go_ret
  exact ⟨rfl, C11.out⟩

set_option maxHeartbeats 16000000 in
theorem group_c00 (a b c S X Y : Nat → Int) (oa : ok a = true) (ob : ok b = true) (os : ok S = true) (hab : mulR a b = DE S 0) (hba : mulR b a = DE S 0) (hbc : mulR b c = DE X 0)
    (hback : divR S b = DE a 0) (hsame : mulR a zf = DE a 0) (hnone : divR a a = DE zf 0) (hone : mulR S c = DE Y 0) (htwo : mulR a X = DE Y 0) (w : World) (he : Env w) : Calls Tryd.prog 4 #[.agg (cl a), .agg (cl b), .agg (cl c)] w (Gives (.bool true) w) := by
  have HE := Lib.hid he
  have bd0 := build0
  have eqs := eq_self
  have qzf : ∀ W, (Op.equalIn 10000 23 (.agg (cl zf)) (.agg #[.int .i64 0, .int .i64 0, .int .i64 0, .int .i64 0, .int .i64 0, .int .i64 0])).run Tryd.prog W = .ok true W := eq_self zf
  obtain ⟨a0, a1, a2, a3⟩ := three_of a b c w
  have A0 := Lib.hid a0
  have A1 := Lib.hid a1
  have A2 := Lib.hid a2
  have HB0 := Lib.hid a3
  clear a0 a1 a2 a3 he
  have Hhab := Lib.hid hab
  have Hhba := Lib.hid hba
  have Hhbc := Lib.hid hbc
  have Hhback := Lib.hid hback
  have Hhsame := Lib.hid hsame
  have Hhnone := Lib.hid hnone
  have Hhone := Lib.hid hone
  have Hoa := Lib.hid oa
  have Hob := Lib.hid ob
  have Hos := Lib.hid os
  have Hhtwo := Lib.hid htwo
  clear hab hba hbc hback hsame hnone hone oa ob os htwo
  have HI1 := Lib.hid (infoDim (zf))
  have HO1 := Lib.hid (oneDim (zf))
  have HI2 := Lib.hid (infoDim (a))
  have HO2 := Lib.hid (oneDim (a))
  have HI3 := Lib.hid (infoDim (b))
  have HO3 := Lib.hid (oneDim (b))
  have HI4 := Lib.hid (infoDim (c))
  have HO4 := Lib.hid (oneDim (c))
  go_enter Tryd.func4, Tryd.ntmps4
  go_wp2_with (first | refine load_rowG rfl _ _ rfl _ rfl _ _ _ _ A0.out Tryd.underlying23 rfl HI2.out ?_ | refine load_rowG rfl _ _ rfl _ rfl _ _ _ _ A1.out Tryd.underlying23 rfl HI3.out ?_ | refine load_rowG rfl _ _ rfl _ rfl _ _ _ _ A2.out Tryd.underlying23 rfl HI4.out ?_)
  refine (sane_any _ (HE.out.below HB0.out)).mono ?_
  rintro e w1 ⟨rfl, hb⟩
  have X1_0 := Lib.hid (A0.out.below0 hb)
  have X1_1 := Lib.hid (A1.out.below0 hb)
  have X1_2 := Lib.hid (A2.out.below0 hb)
  have B1 := Lib.hid (HB0.out.trans (hb.mono HB0.out.size))
  clear hb
  go_wp2_with (first | refine load_rowG rfl _ _ rfl _ rfl _ _ _ _ X1_0.out Tryd.underlying23 rfl HI2.out ?_ | refine load_rowG rfl _ _ rfl _ rfl _ _ _ _ X1_1.out Tryd.underlying23 rfl HI3.out ?_ | refine load_rowG rfl _ _ rfl _ rfl _ _ _ _ X1_2.out Tryd.underlying23 rfl HI4.out ?_)
  refine (mul_c _ a b S 0 Hhab.out).mono ?_
  rintro e w2 ⟨rfl, hb⟩
  have X2_0 := Lib.hid (X1_0.out.below0 hb)
  have X2_1 := Lib.hid (X1_1.out.below0 hb)
  have X2_2 := Lib.hid (X1_2.out.below0 hb)
  have B2 := Lib.hid (B1.out.trans (hb.mono B1.out.size))
  clear hb
  have HI5 := Lib.hid (infoDim (S))
  have HO5 := Lib.hid (oneDim (S))
  have Z2 := Lib.hid (zf_at w2)
  have Y2_0 := Lib.hid ((X2_0.out.alloc (.cells #[.int .i64 0, .int .i64 0, .int .i64 0, .int .i64 0, .int .i64 0, .int .i64 0] 23)).oth (b' := w2.heap.size) (by have := X2_0.out.lt; omega) (cl (S)))
  have Y2_1 := Lib.hid ((X2_1.out.alloc (.cells #[.int .i64 0, .int .i64 0, .int .i64 0, .int .i64 0, .int .i64 0, .int .i64 0] 23)).oth (b' := w2.heap.size) (by have := X2_1.out.lt; omega) (cl (S)))
  have Y2_2 := Lib.hid ((X2_2.out.alloc (.cells #[.int .i64 0, .int .i64 0, .int .i64 0, .int .i64 0, .int .i64 0, .int .i64 0] 23)).oth (b' := w2.heap.size) (by have := X2_2.out.lt; omega) (cl (S)))
  have N2 := Lib.hid (Z2.out.row (g := S))
  have C2 := Lib.hid (below_row (B2.out.alloc B2.out.size (.cells #[.int .i64 0, .int .i64 0, .int .i64 0, .int .i64 0, .int .i64 0, .int .i64 0] 23)) (b := w2.heap.size) B2.out.size (cl (S)))
  go_wp2_with (first | refine wpList_store_row rfl _ _ _ rfl _ _ rfl rfl _ _ Z2.out HI5.out rfl HO5.out ?_ | refine load_rowG rfl _ _ rfl _ rfl _ _ _ _ Y2_0.out Tryd.underlying23 rfl HI2.out ?_ | refine load_rowG rfl _ _ rfl _ rfl _ _ _ _ Y2_1.out Tryd.underlying23 rfl HI3.out ?_ | refine load_rowG rfl _ _ rfl _ rfl _ _ _ _ Y2_2.out Tryd.underlying23 rfl HI4.out ?_ | refine load_rowG rfl _ _ rfl _ rfl _ _ _ _ N2.out Tryd.underlying23 rfl HI5.out ?_)
  refine (mul_c _ b a S 0 Hhba.out).mono ?_
  rintro e w3 ⟨rfl, hb⟩
  have X3_0 := Lib.hid (Y2_0.out.below0 hb)
  have X3_1 := Lib.hid (Y2_1.out.below0 hb)
  have X3_2 := Lib.hid (Y2_2.out.below0 hb)
  have X3_3 := Lib.hid (N2.out.below0 hb)
  have B3 := Lib.hid (C2.out.trans (hb.mono C2.out.size))
  clear hb
  have Z3 := Lib.hid (zf_at w3)
  have Y3_0 := Lib.hid ((X3_0.out.alloc (.cells #[.int .i64 0, .int .i64 0, .int .i64 0, .int .i64 0, .int .i64 0, .int .i64 0] 23)).oth (b' := w3.heap.size) (by have := X3_0.out.lt; omega) (cl (S)))
  have Y3_1 := Lib.hid ((X3_1.out.alloc (.cells #[.int .i64 0, .int .i64 0, .int .i64 0, .int .i64 0, .int .i64 0, .int .i64 0] 23)).oth (b' := w3.heap.size) (by have := X3_1.out.lt; omega) (cl (S)))
  have Y3_2 := Lib.hid ((X3_2.out.alloc (.cells #[.int .i64 0, .int .i64 0, .int .i64 0, .int .i64 0, .int .i64 0, .int .i64 0] 23)).oth (b' := w3.heap.size) (by have := X3_2.out.lt; omega) (cl (S)))
  have Y3_3 := Lib.hid ((X3_3.out.alloc (.cells #[.int .i64 0, .int .i64 0, .int .i64 0, .int .i64 0, .int .i64 0, .int .i64 0] 23)).oth (b' := w3.heap.size) (by have := X3_3.out.lt; omega) (cl (S)))
  have N3 := Lib.hid (Z3.out.row (g := S))
  have C3 := Lib.hid (below_row (B3.out.alloc B3.out.size (.cells #[.int .i64 0, .int .i64 0, .int .i64 0, .int .i64 0, .int .i64 0, .int .i64 0] 23)) (b := w3.heap.size) B3.out.size (cl (S)))
  go_wp2_with (first | refine wpList_store_row rfl _ _ _ rfl _ _ rfl rfl _ _ Z3.out HI5.out rfl HO5.out ?_ | refine load_rowG rfl _ _ rfl _ rfl _ _ _ _ Y3_0.out Tryd.underlying23 rfl HI2.out ?_ | refine load_rowG rfl _ _ rfl _ rfl _ _ _ _ Y3_1.out Tryd.underlying23 rfl HI3.out ?_ | refine load_rowG rfl _ _ rfl _ rfl _ _ _ _ Y3_2.out Tryd.underlying23 rfl HI4.out ?_ | refine load_rowG rfl _ _ rfl _ rfl _ _ _ _ Y3_3.out Tryd.underlying23 rfl HI5.out ?_ | refine load_rowG rfl _ _ rfl _ rfl _ _ _ _ N3.out Tryd.underlying23 rfl HI5.out ?_)
  refine (mul_c _ b c X 0 Hhbc.out).mono ?_
  rintro e w4 ⟨rfl, hb⟩
  have X4_0 := Lib.hid (Y3_0.out.below0 hb)
  have X4_1 := Lib.hid (Y3_1.out.below0 hb)
  have X4_2 := Lib.hid (Y3_2.out.below0 hb)
  have X4_3 := Lib.hid (Y3_3.out.below0 hb)
  have X4_4 := Lib.hid (N3.out.below0 hb)
  have B4 := Lib.hid (C3.out.trans (hb.mono C3.out.size))
  clear hb
  have HI6 := Lib.hid (infoDim (X))
  have HO6 := Lib.hid (oneDim (X))
  have Z4 := Lib.hid (zf_at w4)
  have Y4_0 := Lib.hid ((X4_0.out.alloc (.cells #[.int .i64 0, .int .i64 0, .int .i64 0, .int .i64 0, .int .i64 0, .int .i64 0] 23)).oth (b' := w4.heap.size) (by have := X4_0.out.lt; omega) (cl (X)))
  have Y4_1 := Lib.hid ((X4_1.out.alloc (.cells #[.int .i64 0, .int .i64 0, .int .i64 0, .int .i64 0, .int .i64 0, .int .i64 0] 23)).oth (b' := w4.heap.size) (by have := X4_1.out.lt; omega) (cl (X)))
  have Y4_2 := Lib.hid ((X4_2.out.alloc (.cells #[.int .i64 0, .int .i64 0, .int .i64 0, .int .i64 0, .int .i64 0, .int .i64 0] 23)).oth (b' := w4.heap.size) (by have := X4_2.out.lt; omega) (cl (X)))
  have Y4_3 := Lib.hid ((X4_3.out.alloc (.cells #[.int .i64 0, .int .i64 0, .int .i64 0, .int .i64 0, .int .i64 0, .int .i64 0] 23)).oth (b' := w4.heap.size) (by have := X4_3.out.lt; omega) (cl (X)))
  have Y4_4 := Lib.hid ((X4_4.out.alloc (.cells #[.int .i64 0, .int .i64 0, .int .i64 0, .int .i64 0, .int .i64 0, .int .i64 0] 23)).oth (b' := w4.heap.size) (by have := X4_4.out.lt; omega) (cl (X)))
  have N4 := Lib.hid (Z4.out.row (g := X))
  have C4 := Lib.hid (below_row (B4.out.alloc B4.out.size (.cells #[.int .i64 0, .int .i64 0, .int .i64 0, .int .i64 0, .int .i64 0, .int .i64 0] 23)) (b := w4.heap.size) B4.out.size (cl (X)))
  go_wp2_with (first | refine wpList_store_row rfl _ _ _ rfl _ _ rfl rfl _ _ Z4.out HI6.out rfl HO6.out ?_ | refine load_rowG rfl _ _ rfl _ rfl _ _ _ _ Y4_0.out Tryd.underlying23 rfl HI2.out ?_ | refine load_rowG rfl _ _ rfl _ rfl _ _ _ _ Y4_1.out Tryd.underlying23 rfl HI3.out ?_ | refine load_rowG rfl _ _ rfl _ rfl _ _ _ _ Y4_2.out Tryd.underlying23 rfl HI4.out ?_ | refine load_rowG rfl _ _ rfl _ rfl _ _ _ _ Y4_3.out Tryd.underlying23 rfl HI5.out ?_ | refine load_rowG rfl _ _ rfl _ rfl _ _ _ _ Y4_4.out Tryd.underlying23 rfl HI5.out ?_ | refine load_rowG rfl _ _ rfl _ rfl _ _ _ _ N4.out Tryd.underlying23 rfl HI6.out ?_)
  refine (right_c _ a true Hoa.out).mono ?_
  rintro e w5 ⟨rfl, hb⟩
  have X5_0 := Lib.hid (Y4_0.out.below0 hb)
  have X5_1 := Lib.hid (Y4_1.out.below0 hb)
  have X5_2 := Lib.hid (Y4_2.out.below0 hb)
  have X5_3 := Lib.hid (Y4_3.out.below0 hb)
  have X5_4 := Lib.hid (Y4_4.out.below0 hb)
  have X5_5 := Lib.hid (N4.out.below0 hb)
  have B5 := Lib.hid (C4.out.trans (hb.mono C4.out.size))
  clear hb
  go_wp2_with (first | refine load_rowG rfl _ _ rfl _ rfl _ _ _ _ X5_0.out Tryd.underlying23 rfl HI2.out ?_ | refine load_rowG rfl _ _ rfl _ rfl _ _ _ _ X5_1.out Tryd.underlying23 rfl HI3.out ?_ | refine load_rowG rfl _ _ rfl _ rfl _ _ _ _ X5_2.out Tryd.underlying23 rfl HI4.out ?_ | refine load_rowG rfl _ _ rfl _ rfl _ _ _ _ X5_3.out Tryd.underlying23 rfl HI5.out ?_ | refine load_rowG rfl _ _ rfl _ rfl _ _ _ _ X5_4.out Tryd.underlying23 rfl HI5.out ?_ | refine load_rowG rfl _ _ rfl _ rfl _ _ _ _ X5_5.out Tryd.underlying23 rfl HI6.out ?_)
  refine (right_c _ b true Hob.out).mono ?_
  rintro e w6 ⟨rfl, hb⟩
  have X6_0 := Lib.hid (X5_0.out.below0 hb)
  have X6_1 := Lib.hid (X5_1.out.below0 hb)
  have X6_2 := Lib.hid (X5_2.out.below0 hb)
  have X6_3 := Lib.hid (X5_3.out.below0 hb)
  have X6_4 := Lib.hid (X5_4.out.below0 hb)
  have X6_5 := Lib.hid (X5_5.out.below0 hb)
  have B6 := Lib.hid (B5.out.trans (hb.mono B5.out.size))
  clear hb
  go_wp2_with (first | refine load_rowG rfl _ _ rfl _ rfl _ _ _ _ X6_0.out Tryd.underlying23 rfl HI2.out ?_ | refine load_rowG rfl _ _ rfl _ rfl _ _ _ _ X6_1.out Tryd.underlying23 rfl HI3.out ?_ | refine load_rowG rfl _ _ rfl _ rfl _ _ _ _ X6_2.out Tryd.underlying23 rfl HI4.out ?_ | refine load_rowG rfl _ _ rfl _ rfl _ _ _ _ X6_3.out Tryd.underlying23 rfl HI5.out ?_ | refine load_rowG rfl _ _ rfl _ rfl _ _ _ _ X6_4.out Tryd.underlying23 rfl HI5.out ?_ | refine load_rowG rfl _ _ rfl _ rfl _ _ _ _ X6_5.out Tryd.underlying23 rfl HI6.out ?_)
  refine (right_c _ S true Hos.out).mono ?_
  rintro e w7 ⟨rfl, hb⟩
  have X7_0 := Lib.hid (X6_0.out.below0 hb)
  have X7_1 := Lib.hid (X6_1.out.below0 hb)
  have X7_2 := Lib.hid (X6_2.out.below0 hb)
  have X7_3 := Lib.hid (X6_3.out.below0 hb)
  have X7_4 := Lib.hid (X6_4.out.below0 hb)
  have X7_5 := Lib.hid (X6_5.out.below0 hb)
  have B7 := Lib.hid (B6.out.trans (hb.mono B6.out.size))
  clear hb
  go_wp2_with (first | refine load_rowG rfl _ _ rfl _ rfl _ _ _ _ X7_0.out Tryd.underlying23 rfl HI2.out ?_ | refine load_rowG rfl _ _ rfl _ rfl _ _ _ _ X7_1.out Tryd.underlying23 rfl HI3.out ?_ | refine load_rowG rfl _ _ rfl _ rfl _ _ _ _ X7_2.out Tryd.underlying23 rfl HI4.out ?_ | refine load_rowG rfl _ _ rfl _ rfl _ _ _ _ X7_3.out Tryd.underlying23 rfl HI5.out ?_ | refine load_rowG rfl _ _ rfl _ rfl _ _ _ _ X7_4.out Tryd.underlying23 rfl HI5.out ?_ | refine load_rowG rfl _ _ rfl _ rfl _ _ _ _ X7_5.out Tryd.underlying23 rfl HI6.out ?_)
  refine (div_c _ S b a 0 Hhback.out).mono ?_
  rintro e w8 ⟨rfl, hb⟩
  have X8_0 := Lib.hid (X7_0.out.below0 hb)
  have X8_1 := Lib.hid (X7_1.out.below0 hb)
  have X8_2 := Lib.hid (X7_2.out.below0 hb)
  have X8_3 := Lib.hid (X7_3.out.below0 hb)
  have X8_4 := Lib.hid (X7_4.out.below0 hb)
  have X8_5 := Lib.hid (X7_5.out.below0 hb)
  have B8 := Lib.hid (B7.out.trans (hb.mono B7.out.size))
  clear hb
  have Z8 := Lib.hid (zf_at w8)
  have Y8_0 := Lib.hid ((X8_0.out.alloc (.cells #[.int .i64 0, .int .i64 0, .int .i64 0, .int .i64 0, .int .i64 0, .int .i64 0] 23)).oth (b' := w8.heap.size) (by have := X8_0.out.lt; omega) (cl (a)))
  have Y8_1 := Lib.hid ((X8_1.out.alloc (.cells #[.int .i64 0, .int .i64 0, .int .i64 0, .int .i64 0, .int .i64 0, .int .i64 0] 23)).oth (b' := w8.heap.size) (by have := X8_1.out.lt; omega) (cl (a)))
  have Y8_2 := Lib.hid ((X8_2.out.alloc (.cells #[.int .i64 0, .int .i64 0, .int .i64 0, .int .i64 0, .int .i64 0, .int .i64 0] 23)).oth (b' := w8.heap.size) (by have := X8_2.out.lt; omega) (cl (a)))
  have Y8_3 := Lib.hid ((X8_3.out.alloc (.cells #[.int .i64 0, .int .i64 0, .int .i64 0, .int .i64 0, .int .i64 0, .int .i64 0] 23)).oth (b' := w8.heap.size) (by have := X8_3.out.lt; omega) (cl (a)))
  have Y8_4 := Lib.hid ((X8_4.out.alloc (.cells #[.int .i64 0, .int .i64 0, .int .i64 0, .int .i64 0, .int .i64 0, .int .i64 0] 23)).oth (b' := w8.heap.size) (by have := X8_4.out.lt; omega) (cl (a)))
  have Y8_5 := Lib.hid ((X8_5.out.alloc (.cells #[.int .i64 0, .int .i64 0, .int .i64 0, .int .i64 0, .int .i64 0, .int .i64 0] 23)).oth (b' := w8.heap.size) (by have := X8_5.out.lt; omega) (cl (a)))
  have N8 := Lib.hid (Z8.out.row (g := a))
  have C8 := Lib.hid (below_row (B8.out.alloc B8.out.size (.cells #[.int .i64 0, .int .i64 0, .int .i64 0, .int .i64 0, .int .i64 0, .int .i64 0] 23)) (b := w8.heap.size) B8.out.size (cl (a)))
  go_wp2_with (first | refine wpList_store_row rfl _ _ _ rfl _ _ rfl rfl _ _ Z8.out HI2.out rfl HO2.out ?_ | refine load_rowG rfl _ _ rfl _ rfl _ _ _ _ Y8_0.out Tryd.underlying23 rfl HI2.out ?_ | refine load_rowG rfl _ _ rfl _ rfl _ _ _ _ Y8_1.out Tryd.underlying23 rfl HI3.out ?_ | refine load_rowG rfl _ _ rfl _ rfl _ _ _ _ Y8_2.out Tryd.underlying23 rfl HI4.out ?_ | refine load_rowG rfl _ _ rfl _ rfl _ _ _ _ Y8_3.out Tryd.underlying23 rfl HI5.out ?_ | refine load_rowG rfl _ _ rfl _ rfl _ _ _ _ Y8_4.out Tryd.underlying23 rfl HI5.out ?_ | refine load_rowG rfl _ _ rfl _ rfl _ _ _ _ Y8_5.out Tryd.underlying23 rfl HI6.out ?_ | refine load_rowG rfl _ _ rfl _ rfl _ _ _ _ N8.out Tryd.underlying23 rfl HI2.out ?_)
  refine (mul_c _ a zf a 0 Hhsame.out).mono ?_
  rintro e w9 ⟨rfl, hb⟩
  have X9_0 := Lib.hid (Y8_0.out.below0 hb)
  have X9_1 := Lib.hid (Y8_1.out.below0 hb)
  have X9_2 := Lib.hid (Y8_2.out.below0 hb)
  have X9_3 := Lib.hid (Y8_3.out.below0 hb)
  have X9_4 := Lib.hid (Y8_4.out.below0 hb)
  have X9_5 := Lib.hid (Y8_5.out.below0 hb)
  have X9_6 := Lib.hid (N8.out.below0 hb)
  have B9 := Lib.hid (C8.out.trans (hb.mono C8.out.size))
  clear hb
  have Z9 := Lib.hid (zf_at w9)
  have Y9_0 := Lib.hid ((X9_0.out.alloc (.cells #[.int .i64 0, .int .i64 0, .int .i64 0, .int .i64 0, .int .i64 0, .int .i64 0] 23)).oth (b' := w9.heap.size) (by have := X9_0.out.lt; omega) (cl (a)))
  have Y9_1 := Lib.hid ((X9_1.out.alloc (.cells #[.int .i64 0, .int .i64 0, .int .i64 0, .int .i64 0, .int .i64 0, .int .i64 0] 23)).oth (b' := w9.heap.size) (by have := X9_1.out.lt; omega) (cl (a)))
  have Y9_2 := Lib.hid ((X9_2.out.alloc (.cells #[.int .i64 0, .int .i64 0, .int .i64 0, .int .i64 0, .int .i64 0, .int .i64 0] 23)).oth (b' := w9.heap.size) (by have := X9_2.out.lt; omega) (cl (a)))
  have Y9_3 := Lib.hid ((X9_3.out.alloc (.cells #[.int .i64 0, .int .i64 0, .int .i64 0, .int .i64 0, .int .i64 0, .int .i64 0] 23)).oth (b' := w9.heap.size) (by have := X9_3.out.lt; omega) (cl (a)))
  have Y9_4 := Lib.hid ((X9_4.out.alloc (.cells #[.int .i64 0, .int .i64 0, .int .i64 0, .int .i64 0, .int .i64 0, .int .i64 0] 23)).oth (b' := w9.heap.size) (by have := X9_4.out.lt; omega) (cl (a)))
  have Y9_5 := Lib.hid ((X9_5.out.alloc (.cells #[.int .i64 0, .int .i64 0, .int .i64 0, .int .i64 0, .int .i64 0, .int .i64 0] 23)).oth (b' := w9.heap.size) (by have := X9_5.out.lt; omega) (cl (a)))
  have Y9_6 := Lib.hid ((X9_6.out.alloc (.cells #[.int .i64 0, .int .i64 0, .int .i64 0, .int .i64 0, .int .i64 0, .int .i64 0] 23)).oth (b' := w9.heap.size) (by have := X9_6.out.lt; omega) (cl (a)))
  have N9 := Lib.hid (Z9.out.row (g := a))
  have C9 := Lib.hid (below_row (B9.out.alloc B9.out.size (.cells #[.int .i64 0, .int .i64 0, .int .i64 0, .int .i64 0, .int .i64 0, .int .i64 0] 23)) (b := w9.heap.size) B9.out.size (cl (a)))
  go_wp2_with (first | refine wpList_store_row rfl _ _ _ rfl _ _ rfl rfl _ _ Z9.out HI2.out rfl HO2.out ?_ | refine load_rowG rfl _ _ rfl _ rfl _ _ _ _ Y9_0.out Tryd.underlying23 rfl HI2.out ?_ | refine load_rowG rfl _ _ rfl _ rfl _ _ _ _ Y9_1.out Tryd.underlying23 rfl HI3.out ?_ | refine load_rowG rfl _ _ rfl _ rfl _ _ _ _ Y9_2.out Tryd.underlying23 rfl HI4.out ?_ | refine load_rowG rfl _ _ rfl _ rfl _ _ _ _ Y9_3.out Tryd.underlying23 rfl HI5.out ?_ | refine load_rowG rfl _ _ rfl _ rfl _ _ _ _ Y9_4.out Tryd.underlying23 rfl HI5.out ?_ | refine load_rowG rfl _ _ rfl _ rfl _ _ _ _ Y9_5.out Tryd.underlying23 rfl HI6.out ?_ | refine load_rowG rfl _ _ rfl _ rfl _ _ _ _ Y9_6.out Tryd.underlying23 rfl HI2.out ?_ | refine load_rowG rfl _ _ rfl _ rfl _ _ _ _ N9.out Tryd.underlying23 rfl HI2.out ?_)
  refine (div_c _ a a zf 0 Hhnone.out).mono ?_
  rintro e w10 ⟨rfl, hb⟩
  have X10_0 := Lib.hid (Y9_0.out.below0 hb)
  have X10_1 := Lib.hid (Y9_1.out.below0 hb)
  have X10_2 := Lib.hid (Y9_2.out.below0 hb)
  have X10_3 := Lib.hid (Y9_3.out.below0 hb)
  have X10_4 := Lib.hid (Y9_4.out.below0 hb)
  have X10_5 := Lib.hid (Y9_5.out.below0 hb)
  have X10_6 := Lib.hid (Y9_6.out.below0 hb)
  have X10_7 := Lib.hid (N9.out.below0 hb)
  have B10 := Lib.hid (C9.out.trans (hb.mono C9.out.size))
  clear hb
  have Z10 := Lib.hid (zf_at w10)
  have Y10_0 := Lib.hid ((X10_0.out.alloc (.cells #[.int .i64 0, .int .i64 0, .int .i64 0, .int .i64 0, .int .i64 0, .int .i64 0] 23)).oth (b' := w10.heap.size) (by have := X10_0.out.lt; omega) (cl (zf)))
  have Y10_1 := Lib.hid ((X10_1.out.alloc (.cells #[.int .i64 0, .int .i64 0, .int .i64 0, .int .i64 0, .int .i64 0, .int .i64 0] 23)).oth (b' := w10.heap.size) (by have := X10_1.out.lt; omega) (cl (zf)))
  have Y10_2 := Lib.hid ((X10_2.out.alloc (.cells #[.int .i64 0, .int .i64 0, .int .i64 0, .int .i64 0, .int .i64 0, .int .i64 0] 23)).oth (b' := w10.heap.size) (by have := X10_2.out.lt; omega) (cl (zf)))
  have Y10_3 := Lib.hid ((X10_3.out.alloc (.cells #[.int .i64 0, .int .i64 0, .int .i64 0, .int .i64 0, .int .i64 0, .int .i64 0] 23)).oth (b' := w10.heap.size) (by have := X10_3.out.lt; omega) (cl (zf)))
  have Y10_4 := Lib.hid ((X10_4.out.alloc (.cells #[.int .i64 0, .int .i64 0, .int .i64 0, .int .i64 0, .int .i64 0, .int .i64 0] 23)).oth (b' := w10.heap.size) (by have := X10_4.out.lt; omega) (cl (zf)))
  have Y10_5 := Lib.hid ((X10_5.out.alloc (.cells #[.int .i64 0, .int .i64 0, .int .i64 0, .int .i64 0, .int .i64 0, .int .i64 0] 23)).oth (b' := w10.heap.size) (by have := X10_5.out.lt; omega) (cl (zf)))
  have Y10_6 := Lib.hid ((X10_6.out.alloc (.cells #[.int .i64 0, .int .i64 0, .int .i64 0, .int .i64 0, .int .i64 0, .int .i64 0] 23)).oth (b' := w10.heap.size) (by have := X10_6.out.lt; omega) (cl (zf)))
  have Y10_7 := Lib.hid ((X10_7.out.alloc (.cells #[.int .i64 0, .int .i64 0, .int .i64 0, .int .i64 0, .int .i64 0, .int .i64 0] 23)).oth (b' := w10.heap.size) (by have := X10_7.out.lt; omega) (cl (zf)))
  have N10 := Lib.hid (Z10.out.row (g := zf))
  have C10 := Lib.hid (below_row (B10.out.alloc B10.out.size (.cells #[.int .i64 0, .int .i64 0, .int .i64 0, .int .i64 0, .int .i64 0, .int .i64 0] 23)) (b := w10.heap.size) B10.out.size (cl (zf)))
  go_wp2_with (first | refine wpList_store_row rfl _ _ _ rfl _ _ rfl rfl _ _ Z10.out HI1.out rfl HO1.out ?_ | refine load_rowG rfl _ _ rfl _ rfl _ _ _ _ Y10_0.out Tryd.underlying23 rfl HI2.out ?_ | refine load_rowG rfl _ _ rfl _ rfl _ _ _ _ Y10_1.out Tryd.underlying23 rfl HI3.out ?_ | refine load_rowG rfl _ _ rfl _ rfl _ _ _ _ Y10_2.out Tryd.underlying23 rfl HI4.out ?_ | refine load_rowG rfl _ _ rfl _ rfl _ _ _ _ Y10_3.out Tryd.underlying23 rfl HI5.out ?_ | refine load_rowG rfl _ _ rfl _ rfl _ _ _ _ Y10_4.out Tryd.underlying23 rfl HI5.out ?_ | refine load_rowG rfl _ _ rfl _ rfl _ _ _ _ Y10_5.out Tryd.underlying23 rfl HI6.out ?_ | refine load_rowG rfl _ _ rfl _ rfl _ _ _ _ Y10_6.out Tryd.underlying23 rfl HI2.out ?_ | refine load_rowG rfl _ _ rfl _ rfl _ _ _ _ Y10_7.out Tryd.underlying23 rfl HI2.out ?_ | refine load_rowG rfl _ _ rfl _ rfl _ _ _ _ N10.out Tryd.underlying23 rfl HI1.out ?_)
  refine (mul_c _ S c Y 0 Hhone.out).mono ?_
  rintro e w11 ⟨rfl, hb⟩
  have X11_0 := Lib.hid (Y10_0.out.below0 hb)
  have X11_1 := Lib.hid (Y10_1.out.below0 hb)
  have X11_2 := Lib.hid (Y10_2.out.below0 hb)
  have X11_3 := Lib.hid (Y10_3.out.below0 hb)
  have X11_4 := Lib.hid (Y10_4.out.below0 hb)
  have X11_5 := Lib.hid (Y10_5.out.below0 hb)
  have X11_6 := Lib.hid (Y10_6.out.below0 hb)
  have X11_7 := Lib.hid (Y10_7.out.below0 hb)
  have X11_8 := Lib.hid (N10.out.below0 hb)
  have B11 := Lib.hid (C10.out.trans (hb.mono C10.out.size))
  clear hb
  have HI7 := Lib.hid (infoDim (Y))
  have HO7 := Lib.hid (oneDim (Y))
  have Z11 := Lib.hid (zf_at w11)
  have Y11_0 := Lib.hid ((X11_0.out.alloc (.cells #[.int .i64 0, .int .i64 0, .int .i64 0, .int .i64 0, .int .i64 0, .int .i64 0] 23)).oth (b' := w11.heap.size) (by have := X11_0.out.lt; omega) (cl (Y)))
  have Y11_1 := Lib.hid ((X11_1.out.alloc (.cells #[.int .i64 0, .int .i64 0, .int .i64 0, .int .i64 0, .int .i64 0, .int .i64 0] 23)).oth (b' := w11.heap.size) (by have := X11_1.out.lt; omega) (cl (Y)))
  have Y11_2 := Lib.hid ((X11_2.out.alloc (.cells #[.int .i64 0, .int .i64 0, .int .i64 0, .int .i64 0, .int .i64 0, .int .i64 0] 23)).oth (b' := w11.heap.size) (by have := X11_2.out.lt; omega) (cl (Y)))
  have Y11_3 := Lib.hid ((X11_3.out.alloc (.cells #[.int .i64 0, .int .i64 0, .int .i64 0, .int .i64 0, .int .i64 0, .int .i64 0] 23)).oth (b' := w11.heap.size) (by have := X11_3.out.lt; omega) (cl (Y)))
  have Y11_4 := Lib.hid ((X11_4.out.alloc (.cells #[.int .i64 0, .int .i64 0, .int .i64 0, .int .i64 0, .int .i64 0, .int .i64 0] 23)).oth (b' := w11.heap.size) (by have := X11_4.out.lt; omega) (cl (Y)))
  have Y11_5 := Lib.hid ((X11_5.out.alloc (.cells #[.int .i64 0, .int .i64 0, .int .i64 0, .int .i64 0, .int .i64 0, .int .i64 0] 23)).oth (b' := w11.heap.size) (by have := X11_5.out.lt; omega) (cl (Y)))
  have Y11_6 := Lib.hid ((X11_6.out.alloc (.cells #[.int .i64 0, .int .i64 0, .int .i64 0, .int .i64 0, .int .i64 0, .int .i64 0] 23)).oth (b' := w11.heap.size) (by have := X11_6.out.lt; omega) (cl (Y)))
  have Y11_7 := Lib.hid ((X11_7.out.alloc (.cells #[.int .i64 0, .int .i64 0, .int .i64 0, .int .i64 0, .int .i64 0, .int .i64 0] 23)).oth (b' := w11.heap.size) (by have := X11_7.out.lt; omega) (cl (Y)))
  have Y11_8 := Lib.hid ((X11_8.out.alloc (.cells #[.int .i64 0, .int .i64 0, .int .i64 0, .int .i64 0, .int .i64 0, .int .i64 0] 23)).oth (b' := w11.heap.size) (by have := X11_8.out.lt; omega) (cl (Y)))
  have N11 := Lib.hid (Z11.out.row (g := Y))
  have C11 := Lib.hid (below_row (B11.out.alloc B11.out.size (.cells #[.int .i64 0, .int .i64 0, .int .i64 0, .int .i64 0, .int .i64 0, .int .i64 0] 23)) (b := w11.heap.size) B11.out.size (cl (Y)))
  go_wp2_with (first | refine wpList_store_row rfl _ _ _ rfl _ _ rfl rfl _ _ Z11.out HI7.out rfl HO7.out ?_ | refine load_rowG rfl _ _ rfl _ rfl _ _ _ _ Y11_0.out Tryd.underlying23 rfl HI2.out ?_ | refine load_rowG rfl _ _ rfl _ rfl _ _ _ _ Y11_1.out Tryd.underlying23 rfl HI3.out ?_ | refine load_rowG rfl _ _ rfl _ rfl _ _ _ _ Y11_2.out Tryd.underlying23 rfl HI4.out ?_ | refine load_rowG rfl _ _ rfl _ rfl _ _ _ _ Y11_3.out Tryd.underlying23 rfl HI5.out ?_ | refine load_rowG rfl _ _ rfl _ rfl _ _ _ _ Y11_4.out Tryd.underlying23 rfl HI5.out ?_ | refine load_rowG rfl _ _ rfl _ rfl _ _ _ _ Y11_5.out Tryd.underlying23 rfl HI6.out ?_ | refine load_rowG rfl _ _ rfl _ rfl _ _ _ _ Y11_6.out Tryd.underlying23 rfl HI2.out ?_ | refine load_rowG rfl _ _ rfl _ rfl _ _ _ _ Y11_7.out Tryd.underlying23 rfl HI2.out ?_ | refine load_rowG rfl _ _ rfl _ rfl _ _ _ _ Y11_8.out Tryd.underlying23 rfl HI1.out ?_ | refine load_rowG rfl _ _ rfl _ rfl _ _ _ _ N11.out Tryd.underlying23 rfl HI7.out ?_)
  refine (mul_c _ a X Y 0 Hhtwo.out).mono ?_
  rintro e w12 ⟨rfl, hb⟩
  have X12_0 := Lib.hid (Y11_0.out.below0 hb)
  have X12_1 := Lib.hid (Y11_1.out.below0 hb)
  have X12_2 := Lib.hid (Y11_2.out.below0 hb)
  have X12_3 := Lib.hid (Y11_3.out.below0 hb)
  have X12_4 := Lib.hid (Y11_4.out.below0 hb)
  have X12_5 := Lib.hid (Y11_5.out.below0 hb)
  have X12_6 := Lib.hid (Y11_6.out.below0 hb)
  have X12_7 := Lib.hid (Y11_7.out.below0 hb)
  have X12_8 := Lib.hid (Y11_8.out.below0 hb)
  have X12_9 := Lib.hid (N11.out.below0 hb)
  have B12 := Lib.hid (C11.out.trans (hb.mono C11.out.size))
  clear hb
  have Z12 := Lib.hid (zf_at w12)
  have Y12_0 := Lib.hid ((X12_0.out.alloc (.cells #[.int .i64 0, .int .i64 0, .int .i64 0, .int .i64 0, .int .i64 0, .int .i64 0] 23)).oth (b' := w12.heap.size) (by have := X12_0.out.lt; omega) (cl (Y)))
  have Y12_1 := Lib.hid ((X12_1.out.alloc (.cells #[.int .i64 0, .int .i64 0, .int .i64 0, .int .i64 0, .int .i64 0, .int .i64 0] 23)).oth (b' := w12.heap.size) (by have := X12_1.out.lt; omega) (cl (Y)))
  have Y12_2 := Lib.hid ((X12_2.out.alloc (.cells #[.int .i64 0, .int .i64 0, .int .i64 0, .int .i64 0, .int .i64 0, .int .i64 0] 23)).oth (b' := w12.heap.size) (by have := X12_2.out.lt; omega) (cl (Y)))
  have Y12_3 := Lib.hid ((X12_3.out.alloc (.cells #[.int .i64 0, .int .i64 0, .int .i64 0, .int .i64 0, .int .i64 0, .int .i64 0] 23)).oth (b' := w12.heap.size) (by have := X12_3.out.lt; omega) (cl (Y)))
  have Y12_4 := Lib.hid ((X12_4.out.alloc (.cells #[.int .i64 0, .int .i64 0, .int .i64 0, .int .i64 0, .int .i64 0, .int .i64 0] 23)).oth (b' := w12.heap.size) (by have := X12_4.out.lt; omega) (cl (Y)))
  have Y12_5 := Lib.hid ((X12_5.out.alloc (.cells #[.int .i64 0, .int .i64 0, .int .i64 0, .int .i64 0, .int .i64 0, .int .i64 0] 23)).oth (b' := w12.heap.size) (by have := X12_5.out.lt; omega) (cl (Y)))
  have Y12_6 := Lib.hid ((X12_6.out.alloc (.cells #[.int .i64 0, .int .i64 0, .int .i64 0, .int .i64 0, .int .i64 0, .int .i64 0] 23)).oth (b' := w12.heap.size) (by have := X12_6.out.lt; omega) (cl (Y)))
  have Y12_7 := Lib.hid ((X12_7.out.alloc (.cells #[.int .i64 0, .int .i64 0, .int .i64 0, .int .i64 0, .int .i64 0, .int .i64 0] 23)).oth (b' := w12.heap.size) (by have := X12_7.out.lt; omega) (cl (Y)))
  have Y12_8 := Lib.hid ((X12_8.out.alloc (.cells #[.int .i64 0, .int .i64 0, .int .i64 0, .int .i64 0, .int .i64 0, .int .i64 0] 23)).oth (b' := w12.heap.size) (by have := X12_8.out.lt; omega) (cl (Y)))
  have Y12_9 := Lib.hid ((X12_9.out.alloc (.cells #[.int .i64 0, .int .i64 0, .int .i64 0, .int .i64 0, .int .i64 0, .int .i64 0] 23)).oth (b' := w12.heap.size) (by have := X12_9.out.lt; omega) (cl (Y)))
  have N12 := Lib.hid (Z12.out.row (g := Y))
  have C12 := Lib.hid (below_row (B12.out.alloc B12.out.size (.cells #[.int .i64 0, .int .i64 0, .int .i64 0, .int .i64 0, .int .i64 0, .int .i64 0] 23)) (b := w12.heap.size) B12.out.size (cl (Y)))
  go_wp2_with (first | refine wpList_store_row rfl _ _ _ rfl _ _ rfl rfl _ _ Z12.out HI7.out rfl HO7.out ?_ | refine load_rowG rfl _ _ rfl _ rfl _ _ _ _ Y12_0.out Tryd.underlying23 rfl HI2.out ?_ | refine load_rowG rfl _ _ rfl _ rfl _ _ _ _ Y12_1.out Tryd.underlying23 rfl HI3.out ?_ | refine load_rowG rfl _ _ rfl _ rfl _ _ _ _ Y12_2.out Tryd.underlying23 rfl HI4.out ?_ | refine load_rowG rfl _ _ rfl _ rfl _ _ _ _ Y12_3.out Tryd.underlying23 rfl HI5.out ?_ | refine load_rowG rfl _ _ rfl _ rfl _ _ _ _ Y12_4.out Tryd.underlying23 rfl HI5.out ?_ | refine load_rowG rfl _ _ rfl _ rfl _ _ _ _ Y12_5.out Tryd.underlying23 rfl HI6.out ?_ | refine load_rowG rfl _ _ rfl _ rfl _ _ _ _ Y12_6.out Tryd.underlying23 rfl HI2.out ?_ | refine load_rowG rfl _ _ rfl _ rfl _ _ _ _ Y12_7.out Tryd.underlying23 rfl HI2.out ?_ | refine load_rowG rfl _ _ rfl _ rfl _ _ _ _ Y12_8.out Tryd.underlying23 rfl HI1.out ?_ | refine load_rowG rfl _ _ rfl _ rfl _ _ _ _ Y12_9.out Tryd.underlying23 rfl HI7.out ?_ | refine load_rowG rfl _ _ rfl _ rfl _ _ _ _ N12.out Tryd.underlying23 rfl HI7.out ?_)
  go_ret
  exact ⟨rfl, C12.out⟩

theorem group_any (a b c : Nat → Int) (w : World) (he : Env w) : Calls Tryd.prog 4 #[.agg (cl a), .agg (cl b), .agg (cl c)] w (Gives (.bool true) w) := by
  rcases oa : ok a with _ | _
  · exact group_a a b c oa (by unfold mulR; rw [oa]; rfl) (by unfold mulR; rw [oa, Bool.and_false]; rfl) w he
  · rcases ob : ok b with _ | _
    · exact group_b a b c oa ob (by unfold mulR; rw [ob, Bool.and_false]; rfl) (by unfold mulR; rw [ob]; rfl) w he
    · have ec : ∀ i, i < 6 → sumF b a i = sumF a b i := fun i _ => Int.add_comm _ _
      rcases os : ok (sumF a b) with _ | _
      · exact group_r a b c oa ob (by unfold mulR; rw [oa, ob, inR_no os]; rfl) (by unfold mulR; rw [oa, ob, inR_no (by rw [ok_eq ec]; exact os)]; rfl) w he
      · have hab := mul_ok oa ob (fun i _ => rfl) os
        have hba := mul_ok ob oa ec os
        have hback : divR (sumF a b) b = DE a 0 := div_ok os ob (fun i _ => by unfold difF sumF; omega) oa
        have hsame : mulR a zf = DE a 0 := mul_ok oa ok_zf (fun i _ => by unfold sumF zf; omega) oa
        have hnone : divR a a = DE zf 0 := div_ok oa oa (fun i _ => by unfold difF zf; omega) ok_zf
        rcases mulR_cases b c with h | h | ⟨_, oc, ox, h⟩
        · obtain ⟨Y, k, hY⟩ := mulR_DE (sumF a b) c
          exact group_c1 a b c _ _ Y k oa ob os hab hba h hback hsame hnone hY w he
        · obtain ⟨Y, k, hY⟩ := mulR_DE (sumF a b) c
          exact group_c3 a b c _ _ Y k oa ob os hab hba h hback hsame hnone hY w he
        · rcases mulR_cases (sumF a b) c with h2 | h2 | ⟨_, _, oy, h2⟩
          · exact group_c01 a b c _ _ _ oa ob os hab hba h hback hsame hnone h2 w he
          · exact group_c03 a b c _ _ _ oa ob os hab hba h hback hsame hnone h2 w he
          · exact group_c00 a b c _ _ _ oa ob os hab hba h hback hsame hnone h2 (mul_ok oa ox (fun i _ => by unfold sumF; omega) oy) w he
end Go.Proofs.YtmoapjhobhdjoaaDoor.Dm
