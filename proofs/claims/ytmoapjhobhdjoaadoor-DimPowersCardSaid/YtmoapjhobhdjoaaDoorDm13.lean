/- The law DimPowers. -/
import Derived.Test.YtmoapjhobhdjoaaDoorDm12
set_option maxRecDepth 100000
namespace Go.Proofs.YtmoapjhobhdjoaaDoor.Dm
open Go.RowKit

theorem inR_DE (f : Nat → Int) : ∃ X k, inR f = DE X k := by
  unfold inR
  split
  · exact ⟨_, _, rfl⟩
  · exact ⟨_, _, rfl⟩
theorem powR_DE (f : Nat → Int) (n : Int) : ∃ X k, powR f n = DE X k := by
  unfold powR
  split
  · exact inR_DE _
  · exact ⟨_, _, rfl⟩
theorem powR_cases {f : Nat → Int} (h : ok f = true) (n : Int) : powR f n = DE zf 3 ∨ (ok (mulF f n) = true ∧ powR f n = DE (mulF f n) 0) := by
  unfold powR inR
  rw [if_pos h]
  rcases hs : ok (mulF f n) with _ | _
  · exact .inl rfl
  · exact .inr ⟨rfl, rfl⟩
theorem powR_in {f : Nat → Int} (h : ok f = true) (n : Int) : powR f n = inR (mulF f n) := by unfold powR; rw [if_pos h]
theorem mul_bd8 {n m : Int} (h1 : -128 ≤ n) (h2 : n ≤ 127) (h3 : -128 ≤ m) (h4 : m ≤ 127) : -16384 ≤ n * m ∧ n * m ≤ 16384 := by
  have h : (n * m).natAbs ≤ 128 * 128 := by
    rw [Int.natAbs_mul]
    exact Nat.mul_le_mul (by omega) (by omega)
  omega

set_option maxHeartbeats 8000000 in
theorem powers_bad (a : Nat → Int) (n m : Int) (n1 : -128 ≤ n) (n2 : n ≤ 127) (m1 : -128 ≤ m) (m2 : m ≤ 127) (oa : ok a = false) (w : World) (he : Env w) : Calls Tryd.prog 5 #[.agg (cl a), .int .i8 n, .int .i8 m] w (Gives (.bool true) w) := by
  have HE := Lib.hid he
  have bd0 := build0
  have eqs := eq_self
  have qzf : ∀ W, (Op.equalIn 10000 23 (.agg (cl zf)) (.agg #[.int .i64 0, .int .i64 0, .int .i64 0, .int .i64 0, .int .i64 0, .int .i64 0])).run Tryd.prog W = .ok true W := eq_self zf
  have A0 := Lib.hid (At.fresh w a)
  have HB0 := Lib.hid (below_alloc w (.cells (cl a) 23))
  have hwn : IntKind.i64.wrap n = n := IntWalk.i64_in _ (by omega)
  have hwm : IntKind.i64.wrap m = m := IntWalk.i64_in _ (by omega)
  have hws : IntKind.i64.wrap (n + m) = n + m := IntWalk.i64_in _ (by omega)
  have hwp : IntKind.i64.wrap (n * m) = n * m := IntWalk.i64_in _ (by have := mul_bd8 n1 n2 m1 m2; omega)
  clear he n1 n2 m1 m2
  have Hoa := Lib.hid oa
  have HP : Hid (∀ n, powR a n = DE zf 1) := Lib.hid (fun n => by unfold powR; rw [oa]; rfl)
  have HP0 := Lib.hid (HP.out 0)
  have HP1 := Lib.hid (HP.out 1)
  have HP2 := Lib.hid (HP.out (-1))
  have HD : Hid (divR zf a = DE zf 1) := Lib.hid (by unfold divR; rw [oa, Bool.and_false]; rfl)
  clear oa
  have HI1 := Lib.hid (infoDim (zf))
  have HO1 := Lib.hid (oneDim (zf))
  have HI2 := Lib.hid (infoDim (a))
  have HO2 := Lib.hid (oneDim (a))
  go_enter Tryd.func5, Tryd.ntmps5
  go_wp2_with (first | refine load_rowG rfl _ _ rfl _ rfl _ _ _ _ A0.out Tryd.underlying23 rfl HI2.out ?_)
  refine (sane_any _ (HE.out.below HB0.out)).mono ?_
  rintro e w1 ⟨rfl, hb⟩
  have X1_0 := Lib.hid (A0.out.below0 hb)
  have B1 := Lib.hid (HB0.out.trans (hb.mono HB0.out.size))
  clear hb
  go_wp2_with (first | refine load_rowG rfl _ _ rfl _ rfl _ _ _ _ X1_0.out Tryd.underlying23 rfl HI2.out ?_)
  refine (pow_c _ a zf 0 1 HP0.out).mono ?_
  rintro e w2 ⟨rfl, hb⟩
  have X2_0 := Lib.hid (X1_0.out.below0 hb)
  have B2 := Lib.hid (B1.out.trans (hb.mono B1.out.size))
  clear hb
  have Z2 := Lib.hid (zf_at w2)
  have Y2_0 := Lib.hid ((X2_0.out.alloc (.cells #[.int .i64 0, .int .i64 0, .int .i64 0, .int .i64 0, .int .i64 0, .int .i64 0] 23)).oth (b' := w2.heap.size) (by have := X2_0.out.lt; omega) (cl (zf)))
  have N2 := Lib.hid (Z2.out.row (g := zf))
  have C2 := Lib.hid (below_row (B2.out.alloc B2.out.size (.cells #[.int .i64 0, .int .i64 0, .int .i64 0, .int .i64 0, .int .i64 0, .int .i64 0] 23)) (b := w2.heap.size) B2.out.size (cl (zf)))
  go_wp2_with (first | refine wpList_store_row rfl _ _ _ rfl _ _ rfl rfl _ _ Z2.out HI1.out rfl HO1.out ?_ | refine load_rowG rfl _ _ rfl _ rfl _ _ _ _ Y2_0.out Tryd.underlying23 rfl HI2.out ?_ | refine load_rowG rfl _ _ rfl _ rfl _ _ _ _ N2.out Tryd.underlying23 rfl HI1.out ?_)
  refine (pow_c _ a zf 1 1 HP1.out).mono ?_
  rintro e w3 ⟨rfl, hb⟩
  have X3_0 := Lib.hid (Y2_0.out.below0 hb)
  have X3_1 := Lib.hid (N2.out.below0 hb)
  have B3 := Lib.hid (C2.out.trans (hb.mono C2.out.size))
  clear hb
  have Z3 := Lib.hid (zf_at w3)
  have Y3_0 := Lib.hid ((X3_0.out.alloc (.cells #[.int .i64 0, .int .i64 0, .int .i64 0, .int .i64 0, .int .i64 0, .int .i64 0] 23)).oth (b' := w3.heap.size) (by have := X3_0.out.lt; omega) (cl (zf)))
  have Y3_1 := Lib.hid ((X3_1.out.alloc (.cells #[.int .i64 0, .int .i64 0, .int .i64 0, .int .i64 0, .int .i64 0, .int .i64 0] 23)).oth (b' := w3.heap.size) (by have := X3_1.out.lt; omega) (cl (zf)))
  have N3 := Lib.hid (Z3.out.row (g := zf))
  have C3 := Lib.hid (below_row (B3.out.alloc B3.out.size (.cells #[.int .i64 0, .int .i64 0, .int .i64 0, .int .i64 0, .int .i64 0, .int .i64 0] 23)) (b := w3.heap.size) B3.out.size (cl (zf)))
  go_wp2_with (first | refine wpList_store_row rfl _ _ _ rfl _ _ rfl rfl _ _ Z3.out HI1.out rfl HO1.out ?_ | refine load_rowG rfl _ _ rfl _ rfl _ _ _ _ Y3_0.out Tryd.underlying23 rfl HI2.out ?_ | refine load_rowG rfl _ _ rfl _ rfl _ _ _ _ Y3_1.out Tryd.underlying23 rfl HI1.out ?_ | refine load_rowG rfl _ _ rfl _ rfl _ _ _ _ N3.out Tryd.underlying23 rfl HI1.out ?_)
  refine (pow_c _ a zf (-1) 1 HP2.out).mono ?_
  rintro e w4 ⟨rfl, hb⟩
  have X4_0 := Lib.hid (Y3_0.out.below0 hb)
  have X4_1 := Lib.hid (Y3_1.out.below0 hb)
  have X4_2 := Lib.hid (N3.out.below0 hb)
  have B4 := Lib.hid (C3.out.trans (hb.mono C3.out.size))
  clear hb
  have Z4 := Lib.hid (zf_at w4)
  have Y4_0 := Lib.hid ((X4_0.out.alloc (.cells #[.int .i64 0, .int .i64 0, .int .i64 0, .int .i64 0, .int .i64 0, .int .i64 0] 23)).oth (b' := w4.heap.size) (by have := X4_0.out.lt; omega) (cl (zf)))
  have Y4_1 := Lib.hid ((X4_1.out.alloc (.cells #[.int .i64 0, .int .i64 0, .int .i64 0, .int .i64 0, .int .i64 0, .int .i64 0] 23)).oth (b' := w4.heap.size) (by have := X4_1.out.lt; omega) (cl (zf)))
  have Y4_2 := Lib.hid ((X4_2.out.alloc (.cells #[.int .i64 0, .int .i64 0, .int .i64 0, .int .i64 0, .int .i64 0, .int .i64 0] 23)).oth (b' := w4.heap.size) (by have := X4_2.out.lt; omega) (cl (zf)))
  have N4 := Lib.hid (Z4.out.row (g := zf))
  have C4 := Lib.hid (below_row (B4.out.alloc B4.out.size (.cells #[.int .i64 0, .int .i64 0, .int .i64 0, .int .i64 0, .int .i64 0, .int .i64 0] 23)) (b := w4.heap.size) B4.out.size (cl (zf)))
  go_wp2_with (first | refine wpList_store_row rfl _ _ _ rfl _ _ rfl rfl _ _ Z4.out HI1.out rfl HO1.out ?_ | refine load_rowG rfl _ _ rfl _ rfl _ _ _ _ Y4_0.out Tryd.underlying23 rfl HI2.out ?_ | refine load_rowG rfl _ _ rfl _ rfl _ _ _ _ Y4_1.out Tryd.underlying23 rfl HI1.out ?_ | refine load_rowG rfl _ _ rfl _ rfl _ _ _ _ Y4_2.out Tryd.underlying23 rfl HI1.out ?_ | refine load_rowG rfl _ _ rfl _ rfl _ _ _ _ N4.out Tryd.underlying23 rfl HI1.out ?_)
  refine (div_c _ zf a zf 1 HD.out).mono ?_
  rintro e w5 ⟨rfl, hb⟩
  have X5_0 := Lib.hid (Y4_0.out.below0 hb)
  have X5_1 := Lib.hid (Y4_1.out.below0 hb)
  have X5_2 := Lib.hid (Y4_2.out.below0 hb)
  have X5_3 := Lib.hid (N4.out.below0 hb)
  have B5 := Lib.hid (C4.out.trans (hb.mono C4.out.size))
  clear hb
  have Z5 := Lib.hid (zf_at w5)
  have Y5_0 := Lib.hid ((X5_0.out.alloc (.cells #[.int .i64 0, .int .i64 0, .int .i64 0, .int .i64 0, .int .i64 0, .int .i64 0] 23)).oth (b' := w5.heap.size) (by have := X5_0.out.lt; omega) (cl (zf)))
  have Y5_1 := Lib.hid ((X5_1.out.alloc (.cells #[.int .i64 0, .int .i64 0, .int .i64 0, .int .i64 0, .int .i64 0, .int .i64 0] 23)).oth (b' := w5.heap.size) (by have := X5_1.out.lt; omega) (cl (zf)))
  have Y5_2 := Lib.hid ((X5_2.out.alloc (.cells #[.int .i64 0, .int .i64 0, .int .i64 0, .int .i64 0, .int .i64 0, .int .i64 0] 23)).oth (b' := w5.heap.size) (by have := X5_2.out.lt; omega) (cl (zf)))
  have Y5_3 := Lib.hid ((X5_3.out.alloc (.cells #[.int .i64 0, .int .i64 0, .int .i64 0, .int .i64 0, .int .i64 0, .int .i64 0] 23)).oth (b' := w5.heap.size) (by have := X5_3.out.lt; omega) (cl (zf)))
  have N5 := Lib.hid (Z5.out.row (g := zf))
  have C5 := Lib.hid (below_row (B5.out.alloc B5.out.size (.cells #[.int .i64 0, .int .i64 0, .int .i64 0, .int .i64 0, .int .i64 0, .int .i64 0] 23)) (b := w5.heap.size) B5.out.size (cl (zf)))
  go_wp2_with (first | refine wpList_store_row rfl _ _ _ rfl _ _ rfl rfl _ _ Z5.out HI1.out rfl HO1.out ?_ | refine load_rowG rfl _ _ rfl _ rfl _ _ _ _ Y5_0.out Tryd.underlying23 rfl HI2.out ?_ | refine load_rowG rfl _ _ rfl _ rfl _ _ _ _ Y5_1.out Tryd.underlying23 rfl HI1.out ?_ | refine load_rowG rfl _ _ rfl _ rfl _ _ _ _ Y5_2.out Tryd.underlying23 rfl HI1.out ?_ | refine load_rowG rfl _ _ rfl _ rfl _ _ _ _ Y5_3.out Tryd.underlying23 rfl HI1.out ?_ | refine load_rowG rfl _ _ rfl _ rfl _ _ _ _ N5.out Tryd.underlying23 rfl HI1.out ?_)
  refine (right_c _ a false Hoa.out).mono ?_
  rintro e w6 ⟨rfl, hb⟩
  have X6_0 := Lib.hid (Y5_0.out.below0 hb)
  have X6_1 := Lib.hid (Y5_1.out.below0 hb)
  have X6_2 := Lib.hid (Y5_2.out.below0 hb)
  have X6_3 := Lib.hid (Y5_3.out.below0 hb)
  have X6_4 := Lib.hid (N5.out.below0 hb)
  have B6 := Lib.hid (C5.out.trans (hb.mono C5.out.size))
  clear hb
  go_wp2_with (first | refine load_rowG rfl _ _ rfl _ rfl _ _ _ _ X6_0.out Tryd.underlying23 rfl HI2.out ?_ | refine load_rowG rfl _ _ rfl _ rfl _ _ _ _ X6_1.out Tryd.underlying23 rfl HI1.out ?_ | refine load_rowG rfl _ _ rfl _ rfl _ _ _ _ X6_2.out Tryd.underlying23 rfl HI1.out ?_ | refine load_rowG rfl _ _ rfl _ rfl _ _ _ _ X6_3.out Tryd.underlying23 rfl HI1.out ?_ | refine load_rowG rfl _ _ rfl _ rfl _ _ _ _ X6_4.out Tryd.underlying23 rfl HI1.out ?_)
  go_ret
  exact ⟨rfl, B6.out⟩

set_option maxHeartbeats 16000000 in
theorem powers_3 (a Y N S P Q R : Nat → Int) (n m k p j l q : Int) (n1 : -128 ≤ n) (n2 : n ≤ 127) (m1 : -128 ≤ m) (m2 : m ≤ 127) (oa : ok a = true)
    (h0 : powR a 0 = DE zf 0) (h1 : powR a 1 = DE a 0) (h2 : powR a (-1) = DE N 0) (h3 : divR zf a = DE N 0) (hx : powR a n = DE zf 3) (hy : powR a m = DE Y j) (hs : powR a (n + m) = DE S k) (hxy : mulR zf Y = DE Q l)
    (hp : powR a (n * m) = DE P p) (hq : powR zf m = DE R q) (w : World) (he : Env w) : Calls Tryd.prog 5 #[.agg (cl a), .int .i8 n, .int .i8 m] w (Gives (.bool true) w) := by
  have HE := Lib.hid he
  have bd0 := build0
  have eqs := eq_self
  have qzf : ∀ W, (Op.equalIn 10000 23 (.agg (cl zf)) (.agg #[.int .i64 0, .int .i64 0, .int .i64 0, .int .i64 0, .int .i64 0, .int .i64 0])).run Tryd.prog W = .ok true W := eq_self zf
  have A0 := Lib.hid (At.fresh w a)
  have HB0 := Lib.hid (below_alloc w (.cells (cl a) 23))
  have hwn : IntKind.i64.wrap n = n := IntWalk.i64_in _ (by omega)
  have hwm : IntKind.i64.wrap m = m := IntWalk.i64_in _ (by omega)
  have hws : IntKind.i64.wrap (n + m) = n + m := IntWalk.i64_in _ (by omega)
  have hwp : IntKind.i64.wrap (n * m) = n * m := IntWalk.i64_in _ (by have := mul_bd8 n1 n2 m1 m2; omega)
  clear he n1 n2 m1 m2
  have Hoa := Lib.hid oa
  have Hh0 := Lib.hid h0
  have Hh1 := Lib.hid h1
  have Hh2 := Lib.hid h2
  have Hh3 := Lib.hid h3
  have Hhx := Lib.hid hx
  have Hhy := Lib.hid hy
  have Hhs := Lib.hid hs
  have Hhxy := Lib.hid hxy
  have Hhp := Lib.hid hp
  have Hhq := Lib.hid hq
  clear oa h0 h1 h2 h3 hx hy hs hxy hp hq
  have HI1 := Lib.hid (infoDim (zf))
  have HO1 := Lib.hid (oneDim (zf))
  have HI2 := Lib.hid (infoDim (a))
  have HO2 := Lib.hid (oneDim (a))
  go_enter Tryd.func5, Tryd.ntmps5
  go_wp2_with (first | refine load_rowG rfl _ _ rfl _ rfl _ _ _ _ A0.out Tryd.underlying23 rfl HI2.out ?_)
  refine (sane_any _ (HE.out.below HB0.out)).mono ?_
  rintro e w1 ⟨rfl, hb⟩
  have X1_0 := Lib.hid (A0.out.below0 hb)
  have B1 := Lib.hid (HB0.out.trans (hb.mono HB0.out.size))
  clear hb
  go_wp2_with (first | refine load_rowG rfl _ _ rfl _ rfl _ _ _ _ X1_0.out Tryd.underlying23 rfl HI2.out ?_)
  refine (pow_c _ a zf 0 0 Hh0.out).mono ?_
  rintro e w2 ⟨rfl, hb⟩
  have X2_0 := Lib.hid (X1_0.out.below0 hb)
  have B2 := Lib.hid (B1.out.trans (hb.mono B1.out.size))
  clear hb
  have Z2 := Lib.hid (zf_at w2)
  have Y2_0 := Lib.hid ((X2_0.out.alloc (.cells #[.int .i64 0, .int .i64 0, .int .i64 0, .int .i64 0, .int .i64 0, .int .i64 0] 23)).oth (b' := w2.heap.size) (by have := X2_0.out.lt; omega) (cl (zf)))
  have N2 := Lib.hid (Z2.out.row (g := zf))
  have C2 := Lib.hid (below_row (B2.out.alloc B2.out.size (.cells #[.int .i64 0, .int .i64 0, .int .i64 0, .int .i64 0, .int .i64 0, .int .i64 0] 23)) (b := w2.heap.size) B2.out.size (cl (zf)))
  go_wp2_with (first | refine wpList_store_row rfl _ _ _ rfl _ _ rfl rfl _ _ Z2.out HI1.out rfl HO1.out ?_ | refine load_rowG rfl _ _ rfl _ rfl _ _ _ _ Y2_0.out Tryd.underlying23 rfl HI2.out ?_ | refine load_rowG rfl _ _ rfl _ rfl _ _ _ _ N2.out Tryd.underlying23 rfl HI1.out ?_)
  refine (pow_c _ a a 1 0 Hh1.out).mono ?_
  rintro e w3 ⟨rfl, hb⟩
  have X3_0 := Lib.hid (Y2_0.out.below0 hb)
  have X3_1 := Lib.hid (N2.out.below0 hb)
  have B3 := Lib.hid (C2.out.trans (hb.mono C2.out.size))
  clear hb
  have Z3 := Lib.hid (zf_at w3)
  have Y3_0 := Lib.hid ((X3_0.out.alloc (.cells #[.int .i64 0, .int .i64 0, .int .i64 0, .int .i64 0, .int .i64 0, .int .i64 0] 23)).oth (b' := w3.heap.size) (by have := X3_0.out.lt; omega) (cl (a)))
  have Y3_1 := Lib.hid ((X3_1.out.alloc (.cells #[.int .i64 0, .int .i64 0, .int .i64 0, .int .i64 0, .int .i64 0, .int .i64 0] 23)).oth (b' := w3.heap.size) (by have := X3_1.out.lt; omega) (cl (a)))
  have N3 := Lib.hid (Z3.out.row (g := a))
  have C3 := Lib.hid (below_row (B3.out.alloc B3.out.size (.cells #[.int .i64 0, .int .i64 0, .int .i64 0, .int .i64 0, .int .i64 0, .int .i64 0] 23)) (b := w3.heap.size) B3.out.size (cl (a)))
  go_wp2_with (first | refine wpList_store_row rfl _ _ _ rfl _ _ rfl rfl _ _ Z3.out HI2.out rfl HO2.out ?_ | refine load_rowG rfl _ _ rfl _ rfl _ _ _ _ Y3_0.out Tryd.underlying23 rfl HI2.out ?_ | refine load_rowG rfl _ _ rfl _ rfl _ _ _ _ Y3_1.out Tryd.underlying23 rfl HI1.out ?_ | refine load_rowG rfl _ _ rfl _ rfl _ _ _ _ N3.out Tryd.underlying23 rfl HI2.out ?_)
  refine (pow_c _ a N (-1) 0 Hh2.out).mono ?_
  rintro e w4 ⟨rfl, hb⟩
  have X4_0 := Lib.hid (Y3_0.out.below0 hb)
  have X4_1 := Lib.hid (Y3_1.out.below0 hb)
  have X4_2 := Lib.hid (N3.out.below0 hb)
  have B4 := Lib.hid (C3.out.trans (hb.mono C3.out.size))
  clear hb
  have HI3 := Lib.hid (infoDim (N))
  have HO3 := Lib.hid (oneDim (N))
  have Z4 := Lib.hid (zf_at w4)
  have Y4_0 := Lib.hid ((X4_0.out.alloc (.cells #[.int .i64 0, .int .i64 0, .int .i64 0, .int .i64 0, .int .i64 0, .int .i64 0] 23)).oth (b' := w4.heap.size) (by have := X4_0.out.lt; omega) (cl (N)))
  have Y4_1 := Lib.hid ((X4_1.out.alloc (.cells #[.int .i64 0, .int .i64 0, .int .i64 0, .int .i64 0, .int .i64 0, .int .i64 0] 23)).oth (b' := w4.heap.size) (by have := X4_1.out.lt; omega) (cl (N)))
  have Y4_2 := Lib.hid ((X4_2.out.alloc (.cells #[.int .i64 0, .int .i64 0, .int .i64 0, .int .i64 0, .int .i64 0, .int .i64 0] 23)).oth (b' := w4.heap.size) (by have := X4_2.out.lt; omega) (cl (N)))
  have N4 := Lib.hid (Z4.out.row (g := N))
  have C4 := Lib.hid (below_row (B4.out.alloc B4.out.size (.cells #[.int .i64 0, .int .i64 0, .int .i64 0, .int .i64 0, .int .i64 0, .int .i64 0] 23)) (b := w4.heap.size) B4.out.size (cl (N)))
  go_wp2_with (first | refine wpList_store_row rfl _ _ _ rfl _ _ rfl rfl _ _ Z4.out HI3.out rfl HO3.out ?_ | refine load_rowG rfl _ _ rfl _ rfl _ _ _ _ Y4_0.out Tryd.underlying23 rfl HI2.out ?_ | refine load_rowG rfl _ _ rfl _ rfl _ _ _ _ Y4_1.out Tryd.underlying23 rfl HI1.out ?_ | refine load_rowG rfl _ _ rfl _ rfl _ _ _ _ Y4_2.out Tryd.underlying23 rfl HI2.out ?_ | refine load_rowG rfl _ _ rfl _ rfl _ _ _ _ N4.out Tryd.underlying23 rfl HI3.out ?_)
  refine (div_c _ zf a N 0 Hh3.out).mono ?_
  rintro e w5 ⟨rfl, hb⟩
  have X5_0 := Lib.hid (Y4_0.out.below0 hb)
  have X5_1 := Lib.hid (Y4_1.out.below0 hb)
  have X5_2 := Lib.hid (Y4_2.out.below0 hb)
  have X5_3 := Lib.hid (N4.out.below0 hb)
  have B5 := Lib.hid (C4.out.trans (hb.mono C4.out.size))
  clear hb
  have Z5 := Lib.hid (zf_at w5)
  have Y5_0 := Lib.hid ((X5_0.out.alloc (.cells #[.int .i64 0, .int .i64 0, .int .i64 0, .int .i64 0, .int .i64 0, .int .i64 0] 23)).oth (b' := w5.heap.size) (by have := X5_0.out.lt; omega) (cl (N)))
  have Y5_1 := Lib.hid ((X5_1.out.alloc (.cells #[.int .i64 0, .int .i64 0, .int .i64 0, .int .i64 0, .int .i64 0, .int .i64 0] 23)).oth (b' := w5.heap.size) (by have := X5_1.out.lt; omega) (cl (N)))
  have Y5_2 := Lib.hid ((X5_2.out.alloc (.cells #[.int .i64 0, .int .i64 0, .int .i64 0, .int .i64 0, .int .i64 0, .int .i64 0] 23)).oth (b' := w5.heap.size) (by have := X5_2.out.lt; omega) (cl (N)))
  have Y5_3 := Lib.hid ((X5_3.out.alloc (.cells #[.int .i64 0, .int .i64 0, .int .i64 0, .int .i64 0, .int .i64 0, .int .i64 0] 23)).oth (b' := w5.heap.size) (by have := X5_3.out.lt; omega) (cl (N)))
  have N5 := Lib.hid (Z5.out.row (g := N))
  have C5 := Lib.hid (below_row (B5.out.alloc B5.out.size (.cells #[.int .i64 0, .int .i64 0, .int .i64 0, .int .i64 0, .int .i64 0, .int .i64 0] 23)) (b := w5.heap.size) B5.out.size (cl (N)))
  go_wp2_with (first | refine wpList_store_row rfl _ _ _ rfl _ _ rfl rfl _ _ Z5.out HI3.out rfl HO3.out ?_ | refine load_rowG rfl _ _ rfl _ rfl _ _ _ _ Y5_0.out Tryd.underlying23 rfl HI2.out ?_ | refine load_rowG rfl _ _ rfl _ rfl _ _ _ _ Y5_1.out Tryd.underlying23 rfl HI1.out ?_ | refine load_rowG rfl _ _ rfl _ rfl _ _ _ _ Y5_2.out Tryd.underlying23 rfl HI2.out ?_ | refine load_rowG rfl _ _ rfl _ rfl _ _ _ _ Y5_3.out Tryd.underlying23 rfl HI3.out ?_ | refine load_rowG rfl _ _ rfl _ rfl _ _ _ _ N5.out Tryd.underlying23 rfl HI3.out ?_)
  refine (right_c _ a true Hoa.out).mono ?_
  rintro e w6 ⟨rfl, hb⟩
  have X6_0 := Lib.hid (Y5_0.out.below0 hb)
  have X6_1 := Lib.hid (Y5_1.out.below0 hb)
  have X6_2 := Lib.hid (Y5_2.out.below0 hb)
  have X6_3 := Lib.hid (Y5_3.out.below0 hb)
  have X6_4 := Lib.hid (N5.out.below0 hb)
  have B6 := Lib.hid (C5.out.trans (hb.mono C5.out.size))
  clear hb
  go_wp2_with (first | refine load_rowG rfl _ _ rfl _ rfl _ _ _ _ X6_0.out Tryd.underlying23 rfl HI2.out ?_ | refine load_rowG rfl _ _ rfl _ rfl _ _ _ _ X6_1.out Tryd.underlying23 rfl HI1.out ?_ | refine load_rowG rfl _ _ rfl _ rfl _ _ _ _ X6_2.out Tryd.underlying23 rfl HI2.out ?_ | refine load_rowG rfl _ _ rfl _ rfl _ _ _ _ X6_3.out Tryd.underlying23 rfl HI3.out ?_ | refine load_rowG rfl _ _ rfl _ rfl _ _ _ _ X6_4.out Tryd.underlying23 rfl HI3.out ?_)
  refine (pow_c _ a zf n 3 Hhx.out).mono ?_
  rintro e w7 ⟨rfl, hb⟩
  have X7_0 := Lib.hid (X6_0.out.below0 hb)
  have X7_1 := Lib.hid (X6_1.out.below0 hb)
  have X7_2 := Lib.hid (X6_2.out.below0 hb)
  have X7_3 := Lib.hid (X6_3.out.below0 hb)
  have X7_4 := Lib.hid (X6_4.out.below0 hb)
  have B7 := Lib.hid (B6.out.trans (hb.mono B6.out.size))
  clear hb
  have Z7 := Lib.hid (zf_at w7)
  have Y7_0 := Lib.hid ((X7_0.out.alloc (.cells #[.int .i64 0, .int .i64 0, .int .i64 0, .int .i64 0, .int .i64 0, .int .i64 0] 23)).oth (b' := w7.heap.size) (by have := X7_0.out.lt; omega) (cl (zf)))
  have Y7_1 := Lib.hid ((X7_1.out.alloc (.cells #[.int .i64 0, .int .i64 0, .int .i64 0, .int .i64 0, .int .i64 0, .int .i64 0] 23)).oth (b' := w7.heap.size) (by have := X7_1.out.lt; omega) (cl (zf)))
  have Y7_2 := Lib.hid ((X7_2.out.alloc (.cells #[.int .i64 0, .int .i64 0, .int .i64 0, .int .i64 0, .int .i64 0, .int .i64 0] 23)).oth (b' := w7.heap.size) (by have := X7_2.out.lt; omega) (cl (zf)))
  have Y7_3 := Lib.hid ((X7_3.out.alloc (.cells #[.int .i64 0, .int .i64 0, .int .i64 0, .int .i64 0, .int .i64 0, .int .i64 0] 23)).oth (b' := w7.heap.size) (by have := X7_3.out.lt; omega) (cl (zf)))
  have Y7_4 := Lib.hid ((X7_4.out.alloc (.cells #[.int .i64 0, .int .i64 0, .int .i64 0, .int .i64 0, .int .i64 0, .int .i64 0] 23)).oth (b' := w7.heap.size) (by have := X7_4.out.lt; omega) (cl (zf)))
  have N7 := Lib.hid (Z7.out.row (g := zf))
  have C7 := Lib.hid (below_row (B7.out.alloc B7.out.size (.cells #[.int .i64 0, .int .i64 0, .int .i64 0, .int .i64 0, .int .i64 0, .int .i64 0] 23)) (b := w7.heap.size) B7.out.size (cl (zf)))
  go_wp2_with (first | refine wpList_store_row rfl _ _ _ rfl _ _ rfl rfl _ _ Z7.out HI1.out rfl HO1.out ?_ | refine load_rowG rfl _ _ rfl _ rfl _ _ _ _ Y7_0.out Tryd.underlying23 rfl HI2.out ?_ | refine load_rowG rfl _ _ rfl _ rfl _ _ _ _ Y7_1.out Tryd.underlying23 rfl HI1.out ?_ | refine load_rowG rfl _ _ rfl _ rfl _ _ _ _ Y7_2.out Tryd.underlying23 rfl HI2.out ?_ | refine load_rowG rfl _ _ rfl _ rfl _ _ _ _ Y7_3.out Tryd.underlying23 rfl HI3.out ?_ | refine load_rowG rfl _ _ rfl _ rfl _ _ _ _ Y7_4.out Tryd.underlying23 rfl HI3.out ?_ | refine load_rowG rfl _ _ rfl _ rfl _ _ _ _ N7.out Tryd.underlying23 rfl HI1.out ?_)
  refine (pow_c _ a Y m j Hhy.out).mono ?_
  rintro e w8 ⟨rfl, hb⟩
  have X8_0 := Lib.hid (Y7_0.out.below0 hb)
  have X8_1 := Lib.hid (Y7_1.out.below0 hb)
  have X8_2 := Lib.hid (Y7_2.out.below0 hb)
  have X8_3 := Lib.hid (Y7_3.out.below0 hb)
  have X8_4 := Lib.hid (Y7_4.out.below0 hb)
  have X8_5 := Lib.hid (N7.out.below0 hb)
  have B8 := Lib.hid (C7.out.trans (hb.mono C7.out.size))
  clear hb
  have HI4 := Lib.hid (infoDim (Y))
  have HO4 := Lib.hid (oneDim (Y))
  have Z8 := Lib.hid (zf_at w8)
  have Y8_0 := Lib.hid ((X8_0.out.alloc (.cells #[.int .i64 0, .int .i64 0, .int .i64 0, .int .i64 0, .int .i64 0, .int .i64 0] 23)).oth (b' := w8.heap.size) (by have := X8_0.out.lt; omega) (cl (Y)))
  have Y8_1 := Lib.hid ((X8_1.out.alloc (.cells #[.int .i64 0, .int .i64 0, .int .i64 0, .int .i64 0, .int .i64 0, .int .i64 0] 23)).oth (b' := w8.heap.size) (by have := X8_1.out.lt; omega) (cl (Y)))
  have Y8_2 := Lib.hid ((X8_2.out.alloc (.cells #[.int .i64 0, .int .i64 0, .int .i64 0, .int .i64 0, .int .i64 0, .int .i64 0] 23)).oth (b' := w8.heap.size) (by have := X8_2.out.lt; omega) (cl (Y)))
  have Y8_3 := Lib.hid ((X8_3.out.alloc (.cells #[.int .i64 0, .int .i64 0, .int .i64 0, .int .i64 0, .int .i64 0, .int .i64 0] 23)).oth (b' := w8.heap.size) (by have := X8_3.out.lt; omega) (cl (Y)))
  have Y8_4 := Lib.hid ((X8_4.out.alloc (.cells #[.int .i64 0, .int .i64 0, .int .i64 0, .int .i64 0, .int .i64 0, .int .i64 0] 23)).oth (b' := w8.heap.size) (by have := X8_4.out.lt; omega) (cl (Y)))
  have Y8_5 := Lib.hid ((X8_5.out.alloc (.cells #[.int .i64 0, .int .i64 0, .int .i64 0, .int .i64 0, .int .i64 0, .int .i64 0] 23)).oth (b' := w8.heap.size) (by have := X8_5.out.lt; omega) (cl (Y)))
  have N8 := Lib.hid (Z8.out.row (g := Y))
  have C8 := Lib.hid (below_row (B8.out.alloc B8.out.size (.cells #[.int .i64 0, .int .i64 0, .int .i64 0, .int .i64 0, .int .i64 0, .int .i64 0] 23)) (b := w8.heap.size) B8.out.size (cl (Y)))
  go_wp2_with (first | refine wpList_store_row rfl _ _ _ rfl _ _ rfl rfl _ _ Z8.out HI4.out rfl HO4.out ?_ | refine load_rowG rfl _ _ rfl _ rfl _ _ _ _ Y8_0.out Tryd.underlying23 rfl HI2.out ?_ | refine load_rowG rfl _ _ rfl _ rfl _ _ _ _ Y8_1.out Tryd.underlying23 rfl HI1.out ?_ | refine load_rowG rfl _ _ rfl _ rfl _ _ _ _ Y8_2.out Tryd.underlying23 rfl HI2.out ?_ | refine load_rowG rfl _ _ rfl _ rfl _ _ _ _ Y8_3.out Tryd.underlying23 rfl HI3.out ?_ | refine load_rowG rfl _ _ rfl _ rfl _ _ _ _ Y8_4.out Tryd.underlying23 rfl HI3.out ?_ | refine load_rowG rfl _ _ rfl _ rfl _ _ _ _ Y8_5.out Tryd.underlying23 rfl HI1.out ?_ | refine load_rowG rfl _ _ rfl _ rfl _ _ _ _ N8.out Tryd.underlying23 rfl HI4.out ?_)
  refine (pow_c _ a S (n + m) k Hhs.out).mono ?_
  rintro e w9 ⟨rfl, hb⟩
  have X9_0 := Lib.hid (Y8_0.out.below0 hb)
  have X9_1 := Lib.hid (Y8_1.out.below0 hb)
  have X9_2 := Lib.hid (Y8_2.out.below0 hb)
  have X9_3 := Lib.hid (Y8_3.out.below0 hb)
  have X9_4 := Lib.hid (Y8_4.out.below0 hb)
  have X9_5 := Lib.hid (Y8_5.out.below0 hb)
  have X9_6 := Lib.hid (N8.out.below0 hb)
  have B9 := Lib.hid (C8.out.trans (hb.mono C8.out.size))
  clear hb
  have HI5 := Lib.hid (infoDim (S))
  have HO5 := Lib.hid (oneDim (S))
  have Z9 := Lib.hid (zf_at w9)
  have Y9_0 := Lib.hid ((X9_0.out.alloc (.cells #[.int .i64 0, .int .i64 0, .int .i64 0, .int .i64 0, .int .i64 0, .int .i64 0] 23)).oth (b' := w9.heap.size) (by have := X9_0.out.lt; omega) (cl (S)))
  have Y9_1 := Lib.hid ((X9_1.out.alloc (.cells #[.int .i64 0, .int .i64 0, .int .i64 0, .int .i64 0, .int .i64 0, .int .i64 0] 23)).oth (b' := w9.heap.size) (by have := X9_1.out.lt; omega) (cl (S)))
  have Y9_2 := Lib.hid ((X9_2.out.alloc (.cells #[.int .i64 0, .int .i64 0, .int .i64 0, .int .i64 0, .int .i64 0, .int .i64 0] 23)).oth (b' := w9.heap.size) (by have := X9_2.out.lt; omega) (cl (S)))
  have Y9_3 := Lib.hid ((X9_3.out.alloc (.cells #[.int .i64 0, .int .i64 0, .int .i64 0, .int .i64 0, .int .i64 0, .int .i64 0] 23)).oth (b' := w9.heap.size) (by have := X9_3.out.lt; omega) (cl (S)))
  have Y9_4 := Lib.hid ((X9_4.out.alloc (.cells #[.int .i64 0, .int .i64 0, .int .i64 0, .int .i64 0, .int .i64 0, .int .i64 0] 23)).oth (b' := w9.heap.size) (by have := X9_4.out.lt; omega) (cl (S)))
  have Y9_5 := Lib.hid ((X9_5.out.alloc (.cells #[.int .i64 0, .int .i64 0, .int .i64 0, .int .i64 0, .int .i64 0, .int .i64 0] 23)).oth (b' := w9.heap.size) (by have := X9_5.out.lt; omega) (cl (S)))
  have Y9_6 := Lib.hid ((X9_6.out.alloc (.cells #[.int .i64 0, .int .i64 0, .int .i64 0, .int .i64 0, .int .i64 0, .int .i64 0] 23)).oth (b' := w9.heap.size) (by have := X9_6.out.lt; omega) (cl (S)))
  have N9 := Lib.hid (Z9.out.row (g := S))
  have C9 := Lib.hid (below_row (B9.out.alloc B9.out.size (.cells #[.int .i64 0, .int .i64 0, .int .i64 0, .int .i64 0, .int .i64 0, .int .i64 0] 23)) (b := w9.heap.size) B9.out.size (cl (S)))
  go_wp2_with (first | refine wpList_store_row rfl _ _ _ rfl _ _ rfl rfl _ _ Z9.out HI5.out rfl HO5.out ?_ | refine load_rowG rfl _ _ rfl _ rfl _ _ _ _ Y9_0.out Tryd.underlying23 rfl HI2.out ?_ | refine load_rowG rfl _ _ rfl _ rfl _ _ _ _ Y9_1.out Tryd.underlying23 rfl HI1.out ?_ | refine load_rowG rfl _ _ rfl _ rfl _ _ _ _ Y9_2.out Tryd.underlying23 rfl HI2.out ?_ | refine load_rowG rfl _ _ rfl _ rfl _ _ _ _ Y9_3.out Tryd.underlying23 rfl HI3.out ?_ | refine load_rowG rfl _ _ rfl _ rfl _ _ _ _ Y9_4.out Tryd.underlying23 rfl HI3.out ?_ | refine load_rowG rfl _ _ rfl _ rfl _ _ _ _ Y9_5.out Tryd.underlying23 rfl HI1.out ?_ | refine load_rowG rfl _ _ rfl _ rfl _ _ _ _ Y9_6.out Tryd.underlying23 rfl HI4.out ?_ | refine load_rowG rfl _ _ rfl _ rfl _ _ _ _ N9.out Tryd.underlying23 rfl HI5.out ?_)
  refine (mul_c _ zf Y Q l Hhxy.out).mono ?_
  rintro e w10 ⟨rfl, hb⟩
  have X10_0 := Lib.hid (Y9_0.out.below0 hb)
  have X10_1 := Lib.hid (Y9_1.out.below0 hb)
  have X10_2 := Lib.hid (Y9_2.out.below0 hb)
  have X10_3 := Lib.hid (Y9_3.out.below0 hb)
  have X10_4 := Lib.hid (Y9_4.out.below0 hb)
  have X10_5 := Lib.hid (Y9_5.out.below0 hb)
  have X10_6 := Lib.hid (Y9_6.out.below0 hb)
  have X10_7 := Lib.hid (N9.out.below0 hb)
  have B10 := Lib.hid (C9.out.trans (hb.mono C9.out.size))
  clear hb
  have HI6 := Lib.hid (infoDim (Q))
  have HO6 := Lib.hid (oneDim (Q))
  have Z10 := Lib.hid (zf_at w10)
  have Y10_0 := Lib.hid ((X10_0.out.alloc (.cells #[.int .i64 0, .int .i64 0, .int .i64 0, .int .i64 0, .int .i64 0, .int .i64 0] 23)).oth (b' := w10.heap.size) (by have := X10_0.out.lt; omega) (cl (Q)))
  have Y10_1 := Lib.hid ((X10_1.out.alloc (.cells #[.int .i64 0, .int .i64 0, .int .i64 0, .int .i64 0, .int .i64 0, .int .i64 0] 23)).oth (b' := w10.heap.size) (by have := X10_1.out.lt; omega) (cl (Q)))
  have Y10_2 := Lib.hid ((X10_2.out.alloc (.cells #[.int .i64 0, .int .i64 0, .int .i64 0, .int .i64 0, .int .i64 0, .int .i64 0] 23)).oth (b' := w10.heap.size) (by have := X10_2.out.lt; omega) (cl (Q)))
  have Y10_3 := Lib.hid ((X10_3.out.alloc (.cells #[.int .i64 0, .int .i64 0, .int .i64 0, .int .i64 0, .int .i64 0, .int .i64 0] 23)).oth (b' := w10.heap.size) (by have := X10_3.out.lt; omega) (cl (Q)))
  have Y10_4 := Lib.hid ((X10_4.out.alloc (.cells #[.int .i64 0, .int .i64 0, .int .i64 0, .int .i64 0, .int .i64 0, .int .i64 0] 23)).oth (b' := w10.heap.size) (by have := X10_4.out.lt; omega) (cl (Q)))
  have Y10_5 := Lib.hid ((X10_5.out.alloc (.cells #[.int .i64 0, .int .i64 0, .int .i64 0, .int .i64 0, .int .i64 0, .int .i64 0] 23)).oth (b' := w10.heap.size) (by have := X10_5.out.lt; omega) (cl (Q)))
  have Y10_6 := Lib.hid ((X10_6.out.alloc (.cells #[.int .i64 0, .int .i64 0, .int .i64 0, .int .i64 0, .int .i64 0, .int .i64 0] 23)).oth (b' := w10.heap.size) (by have := X10_6.out.lt; omega) (cl (Q)))
  have Y10_7 := Lib.hid ((X10_7.out.alloc (.cells #[.int .i64 0, .int .i64 0, .int .i64 0, .int .i64 0, .int .i64 0, .int .i64 0] 23)).oth (b' := w10.heap.size) (by have := X10_7.out.lt; omega) (cl (Q)))
  have N10 := Lib.hid (Z10.out.row (g := Q))
  have C10 := Lib.hid (below_row (B10.out.alloc B10.out.size (.cells #[.int .i64 0, .int .i64 0, .int .i64 0, .int .i64 0, .int .i64 0, .int .i64 0] 23)) (b := w10.heap.size) B10.out.size (cl (Q)))
  go_wp2_with (first | refine wpList_store_row rfl _ _ _ rfl _ _ rfl rfl _ _ Z10.out HI6.out rfl HO6.out ?_ | refine load_rowG rfl _ _ rfl _ rfl _ _ _ _ Y10_0.out Tryd.underlying23 rfl HI2.out ?_ | refine load_rowG rfl _ _ rfl _ rfl _ _ _ _ Y10_1.out Tryd.underlying23 rfl HI1.out ?_ | refine load_rowG rfl _ _ rfl _ rfl _ _ _ _ Y10_2.out Tryd.underlying23 rfl HI2.out ?_ | refine load_rowG rfl _ _ rfl _ rfl _ _ _ _ Y10_3.out Tryd.underlying23 rfl HI3.out ?_ | refine load_rowG rfl _ _ rfl _ rfl _ _ _ _ Y10_4.out Tryd.underlying23 rfl HI3.out ?_ | refine load_rowG rfl _ _ rfl _ rfl _ _ _ _ Y10_5.out Tryd.underlying23 rfl HI1.out ?_ | refine load_rowG rfl _ _ rfl _ rfl _ _ _ _ Y10_6.out Tryd.underlying23 rfl HI4.out ?_ | refine load_rowG rfl _ _ rfl _ rfl _ _ _ _ Y10_7.out Tryd.underlying23 rfl HI5.out ?_ | refine load_rowG rfl _ _ rfl _ rfl _ _ _ _ N10.out Tryd.underlying23 rfl HI6.out ?_)
  refine (pow_c _ a P (n * m) p Hhp.out).mono ?_
  rintro e w11 ⟨rfl, hb⟩
  have X11_0 := Lib.hid (Y10_0.out.below0 hb)
  have X11_1 := Lib.hid (Y10_1.out.below0 hb)
  have X11_2 := Lib.hid (Y10_2.out.below0 hb)
  have X11_3 := Lib.hid (Y10_3.out.below0 hb)
  have X11_4 := Lib.hid (Y10_4.out.below0 hb)
  have X11_5 := Lib.hid (Y10_5.out.below0 hb)
  have X11_6 := Lib.hid (Y10_6.out.below0 hb)
  have X11_7 := Lib.hid (Y10_7.out.below0 hb)
  have X11_8 := Lib.hid (N10.out.below0 hb)
  have B11 := Lib.hid (C10.out.trans (hb.mono C10.out.size))
  clear hb
  have HI7 := Lib.hid (infoDim (P))
  have HO7 := Lib.hid (oneDim (P))
  have Z11 := Lib.hid (zf_at w11)
  have Y11_0 := Lib.hid ((X11_0.out.alloc (.cells #[.int .i64 0, .int .i64 0, .int .i64 0, .int .i64 0, .int .i64 0, .int .i64 0] 23)).oth (b' := w11.heap.size) (by have := X11_0.out.lt; omega) (cl (P)))
  have Y11_1 := Lib.hid ((X11_1.out.alloc (.cells #[.int .i64 0, .int .i64 0, .int .i64 0, .int .i64 0, .int .i64 0, .int .i64 0] 23)).oth (b' := w11.heap.size) (by have := X11_1.out.lt; omega) (cl (P)))
  have Y11_2 := Lib.hid ((X11_2.out.alloc (.cells #[.int .i64 0, .int .i64 0, .int .i64 0, .int .i64 0, .int .i64 0, .int .i64 0] 23)).oth (b' := w11.heap.size) (by have := X11_2.out.lt; omega) (cl (P)))
  have Y11_3 := Lib.hid ((X11_3.out.alloc (.cells #[.int .i64 0, .int .i64 0, .int .i64 0, .int .i64 0, .int .i64 0, .int .i64 0] 23)).oth (b' := w11.heap.size) (by have := X11_3.out.lt; omega) (cl (P)))
  have Y11_4 := Lib.hid ((X11_4.out.alloc (.cells #[.int .i64 0, .int .i64 0, .int .i64 0, .int .i64 0, .int .i64 0, .int .i64 0] 23)).oth (b' := w11.heap.size) (by have := X11_4.out.lt; omega) (cl (P)))
  have Y11_5 := Lib.hid ((X11_5.out.alloc (.cells #[.int .i64 0, .int .i64 0, .int .i64 0, .int .i64 0, .int .i64 0, .int .i64 0] 23)).oth (b' := w11.heap.size) (by have := X11_5.out.lt; omega) (cl (P)))
  have Y11_6 := Lib.hid ((X11_6.out.alloc (.cells #[.int .i64 0, .int .i64 0, .int .i64 0, .int .i64 0, .int .i64 0, .int .i64 0] 23)).oth (b' := w11.heap.size) (by have := X11_6.out.lt; omega) (cl (P)))
  have Y11_7 := Lib.hid ((X11_7.out.alloc (.cells #[.int .i64 0, .int .i64 0, .int .i64 0, .int .i64 0, .int .i64 0, .int .i64 0] 23)).oth (b' := w11.heap.size) (by have := X11_7.out.lt; omega) (cl (P)))
  have Y11_8 := Lib.hid ((X11_8.out.alloc (.cells #[.int .i64 0, .int .i64 0, .int .i64 0, .int .i64 0, .int .i64 0, .int .i64 0] 23)).oth (b' := w11.heap.size) (by have := X11_8.out.lt; omega) (cl (P)))
  have N11 := Lib.hid (Z11.out.row (g := P))
  have C11 := Lib.hid (below_row (B11.out.alloc B11.out.size (.cells #[.int .i64 0, .int .i64 0, .int .i64 0, .int .i64 0, .int .i64 0, .int .i64 0] 23)) (b := w11.heap.size) B11.out.size (cl (P)))
  go_wp2_with (first | refine wpList_store_row rfl _ _ _ rfl _ _ rfl rfl _ _ Z11.out HI7.out rfl HO7.out ?_ | refine load_rowG rfl _ _ rfl _ rfl _ _ _ _ Y11_0.out Tryd.underlying23 rfl HI2.out ?_ | refine load_rowG rfl _ _ rfl _ rfl _ _ _ _ Y11_1.out Tryd.underlying23 rfl HI1.out ?_ | refine load_rowG rfl _ _ rfl _ rfl _ _ _ _ Y11_2.out Tryd.underlying23 rfl HI2.out ?_ | refine load_rowG rfl _ _ rfl _ rfl _ _ _ _ Y11_3.out Tryd.underlying23 rfl HI3.out ?_ | refine load_rowG rfl _ _ rfl _ rfl _ _ _ _ Y11_4.out Tryd.underlying23 rfl HI3.out ?_ | refine load_rowG rfl _ _ rfl _ rfl _ _ _ _ Y11_5.out Tryd.underlying23 rfl HI1.out ?_ | refine load_rowG rfl _ _ rfl _ rfl _ _ _ _ Y11_6.out Tryd.underlying23 rfl HI4.out ?_ | refine load_rowG rfl _ _ rfl _ rfl _ _ _ _ Y11_7.out Tryd.underlying23 rfl HI5.out ?_ | refine load_rowG rfl _ _ rfl _ rfl _ _ _ _ Y11_8.out Tryd.underlying23 rfl HI6.out ?_ | refine load_rowG rfl _ _ rfl _ rfl _ _ _ _ N11.out Tryd.underlying23 rfl HI7.out ?_)
  refine (pow_c _ zf R m q Hhq.out).mono ?_
  rintro e w12 ⟨rfl, hb⟩
  have X12_0 := Lib.hid (Y11_0.out.below0 hb)
  have X12_1 := Lib.hid (Y11_1.out.below0 hb)
  have X12_2 := Lib.hid (Y11_2.out.below0 hb)
  have X12_3 := Lib.hid (Y11_3.out.below0 hb)
  have X12_4 := Lib.hid (Y11_4.out.below0 hb)
  have X12_5 := Lib.hid (Y11_5.out.below0 hb)
  have X12_6 := Lib.hid (Y11_6.out.below0 hb)
  have X12_7 := Lib.hid (Y11_7.out.below0 hb)
  have X12_8 := Lib.hid (Y11_8.out.below0 hb)
  have X12_9 := Lib.hid (N11.out.below0 hb)
  have B12 := Lib.hid (C11.out.trans (hb.mono C11.out.size))
  clear hb
  have HI8 := Lib.hid (infoDim (R))
  have HO8 := Lib.hid (oneDim (R))
  have Z12 := Lib.hid (zf_at w12)
  have Y12_0 := Lib.hid ((X12_0.out.alloc (.cells #[.int .i64 0, .int .i64 0, .int .i64 0, .int .i64 0, .int .i64 0, .int .i64 0] 23)).oth (b' := w12.heap.size) (by have := X12_0.out.lt; omega) (cl (R)))
  have Y12_1 := Lib.hid ((X12_1.out.alloc (.cells #[.int .i64 0, .int .i64 0, .int .i64 0, .int .i64 0, .int .i64 0, .int .i64 0] 23)).oth (b' := w12.heap.size) (by have := X12_1.out.lt; omega) (cl (R)))
  have Y12_2 := Lib.hid ((X12_2.out.alloc (.cells #[.int .i64 0, .int .i64 0, .int .i64 0, .int .i64 0, .int .i64 0, .int .i64 0] 23)).oth (b' := w12.heap.size) (by have := X12_2.out.lt; omega) (cl (R)))
  have Y12_3 := Lib.hid ((X12_3.out.alloc (.cells #[.int .i64 0, .int .i64 0, .int .i64 0, .int .i64 0, .int .i64 0, .int .i64 0] 23)).oth (b' := w12.heap.size) (by have := X12_3.out.lt; omega) (cl (R)))
  have Y12_4 := Lib.hid ((X12_4.out.alloc (.cells #[.int .i64 0, .int .i64 0, .int .i64 0, .int .i64 0, .int .i64 0, .int .i64 0] 23)).oth (b' := w12.heap.size) (by have := X12_4.out.lt; omega) (cl (R)))
  have Y12_5 := Lib.hid ((X12_5.out.alloc (.cells #[.int .i64 0, .int .i64 0, .int .i64 0, .int .i64 0, .int .i64 0, .int .i64 0] 23)).oth (b' := w12.heap.size) (by have := X12_5.out.lt; omega) (cl (R)))
  have Y12_6 := Lib.hid ((X12_6.out.alloc (.cells #[.int .i64 0, .int .i64 0, .int .i64 0, .int .i64 0, .int .i64 0, .int .i64 0] 23)).oth (b' := w12.heap.size) (by have := X12_6.out.lt; omega) (cl (R)))
  have Y12_7 := Lib.hid ((X12_7.out.alloc (.cells #[.int .i64 0, .int .i64 0, .int .i64 0, .int .i64 0, .int .i64 0, .int .i64 0] 23)).oth (b' := w12.heap.size) (by have := X12_7.out.lt; omega) (cl (R)))
  have Y12_8 := Lib.hid ((X12_8.out.alloc (.cells #[.int .i64 0, .int .i64 0, .int .i64 0, .int .i64 0, .int .i64 0, .int .i64 0] 23)).oth (b' := w12.heap.size) (by have := X12_8.out.lt; omega) (cl (R)))
  have Y12_9 := Lib.hid ((X12_9.out.alloc (.cells #[.int .i64 0, .int .i64 0, .int .i64 0, .int .i64 0, .int .i64 0, .int .i64 0] 23)).oth (b' := w12.heap.size) (by have := X12_9.out.lt; omega) (cl (R)))
  have N12 := Lib.hid (Z12.out.row (g := R))
  have C12 := Lib.hid (below_row (B12.out.alloc B12.out.size (.cells #[.int .i64 0, .int .i64 0, .int .i64 0, .int .i64 0, .int .i64 0, .int .i64 0] 23)) (b := w12.heap.size) B12.out.size (cl (R)))
  go_wp2_with (first | refine wpList_store_row rfl _ _ _ rfl _ _ rfl rfl _ _ Z12.out HI8.out rfl HO8.out ?_ | refine load_rowG rfl _ _ rfl _ rfl _ _ _ _ Y12_0.out Tryd.underlying23 rfl HI2.out ?_ | refine load_rowG rfl _ _ rfl _ rfl _ _ _ _ Y12_1.out Tryd.underlying23 rfl HI1.out ?_ | refine load_rowG rfl _ _ rfl _ rfl _ _ _ _ Y12_2.out Tryd.underlying23 rfl HI2.out ?_ | refine load_rowG rfl _ _ rfl _ rfl _ _ _ _ Y12_3.out Tryd.underlying23 rfl HI3.out ?_ | refine load_rowG rfl _ _ rfl _ rfl _ _ _ _ Y12_4.out Tryd.underlying23 rfl HI3.out ?_ | refine load_rowG rfl _ _ rfl _ rfl _ _ _ _ Y12_5.out Tryd.underlying23 rfl HI1.out ?_ | refine load_rowG rfl _ _ rfl _ rfl _ _ _ _ Y12_6.out Tryd.underlying23 rfl HI4.out ?_ | refine load_rowG rfl _ _ rfl _ rfl _ _ _ _ Y12_7.out Tryd.underlying23 rfl HI5.out ?_ | refine load_rowG rfl _ _ rfl _ rfl _ _ _ _ Y12_8.out Tryd.underlying23 rfl HI6.out ?_ | refine load_rowG rfl _ _ rfl _ rfl _ _ _ _ Y12_9.out Tryd.underlying23 rfl HI7.out ?_ | refine load_rowG rfl _ _ rfl _ rfl _ _ _ _ N12.out Tryd.underlying23 rfl HI8.out ?_)
  go_ret
  exact ⟨rfl, C12.out⟩

set_option maxHeartbeats 16000000 in
theorem powers_03 (a X N S P Q : Nat → Int) (n m k p l : Int) (n1 : -128 ≤ n) (n2 : n ≤ 127) (m1 : -128 ≤ m) (m2 : m ≤ 127) (oa : ok a = true)
    (h0 : powR a 0 = DE zf 0) (h1 : powR a 1 = DE a 0) (h2 : powR a (-1) = DE N 0) (h3 : divR zf a = DE N 0) (hx : powR a n = DE X 0) (hy : powR a m = DE zf 3) (hs : powR a (n + m) = DE S k) (hxy : mulR X zf = DE Q l)
    (hp : powR a (n * m) = DE P p) (hq : powR X m = DE P p) (w : World) (he : Env w) : Calls Tryd.prog 5 #[.agg (cl a), .int .i8 n, .int .i8 m] w (Gives (.bool true) w) := by
  have HE := Lib.hid he
  have bd0 := build0
  have eqs := eq_self
  have qzf : ∀ W, (Op.equalIn 10000 23 (.agg (cl zf)) (.agg #[.int .i64 0, .int .i64 0, .int .i64 0, .int .i64 0, .int .i64 0, .int .i64 0])).run Tryd.prog W = .ok true W := eq_self zf
  have A0 := Lib.hid (At.fresh w a)
  have HB0 := Lib.hid (below_alloc w (.cells (cl a) 23))
  have hwn : IntKind.i64.wrap n = n := IntWalk.i64_in _ (by omega)
  have hwm : IntKind.i64.wrap m = m := IntWalk.i64_in _ (by omega)
  have hws : IntKind.i64.wrap (n + m) = n + m := IntWalk.i64_in _ (by omega)
  have hwp : IntKind.i64.wrap (n * m) = n * m := IntWalk.i64_in _ (by have := mul_bd8 n1 n2 m1 m2; omega)
  clear he n1 n2 m1 m2
  have Hoa := Lib.hid oa
  have Hh0 := Lib.hid h0
  have Hh1 := Lib.hid h1
  have Hh2 := Lib.hid h2
  have Hh3 := Lib.hid h3
  have Hhx := Lib.hid hx
  have Hhy := Lib.hid hy
  have Hhs := Lib.hid hs
  have Hhxy := Lib.hid hxy
  have Hhp := Lib.hid hp
  have Hhq := Lib.hid hq
  clear oa h0 h1 h2 h3 hx hy hs hxy hp hq
  have HI1 := Lib.hid (infoDim (zf))
  have HO1 := Lib.hid (oneDim (zf))
  have HI2 := Lib.hid (infoDim (a))
  have HO2 := Lib.hid (oneDim (a))
  go_enter Tryd.func5, Tryd.ntmps5
  go_wp2_with (first | refine load_rowG rfl _ _ rfl _ rfl _ _ _ _ A0.out Tryd.underlying23 rfl HI2.out ?_)
  refine (sane_any _ (HE.out.below HB0.out)).mono ?_
  rintro e w1 ⟨rfl, hb⟩
  have X1_0 := Lib.hid (A0.out.below0 hb)
  have B1 := Lib.hid (HB0.out.trans (hb.mono HB0.out.size))
  clear hb
  go_wp2_with (first | refine load_rowG rfl _ _ rfl _ rfl _ _ _ _ X1_0.out Tryd.underlying23 rfl HI2.out ?_)
  refine (pow_c _ a zf 0 0 Hh0.out).mono ?_
  rintro e w2 ⟨rfl, hb⟩
  have X2_0 := Lib.hid (X1_0.out.below0 hb)
  have B2 := Lib.hid (B1.out.trans (hb.mono B1.out.size))
  clear hb
  have Z2 := Lib.hid (zf_at w2)
  have Y2_0 := Lib.hid ((X2_0.out.alloc (.cells #[.int .i64 0, .int .i64 0, .int .i64 0, .int .i64 0, .int .i64 0, .int .i64 0] 23)).oth (b' := w2.heap.size) (by have := X2_0.out.lt; omega) (cl (zf)))
  have N2 := Lib.hid (Z2.out.row (g := zf))
  have C2 := Lib.hid (below_row (B2.out.alloc B2.out.size (.cells #[.int .i64 0, .int .i64 0, .int .i64 0, .int .i64 0, .int .i64 0, .int .i64 0] 23)) (b := w2.heap.size) B2.out.size (cl (zf)))
  go_wp2_with (first | refine wpList_store_row rfl _ _ _ rfl _ _ rfl rfl _ _ Z2.out HI1.out rfl HO1.out ?_ | refine load_rowG rfl _ _ rfl _ rfl _ _ _ _ Y2_0.out Tryd.underlying23 rfl HI2.out ?_ | refine load_rowG rfl _ _ rfl _ rfl _ _ _ _ N2.out Tryd.underlying23 rfl HI1.out ?_)
  refine (pow_c _ a a 1 0 Hh1.out).mono ?_
  rintro e w3 ⟨rfl, hb⟩
  have X3_0 := Lib.hid (Y2_0.out.below0 hb)
  have X3_1 := Lib.hid (N2.out.below0 hb)
  have B3 := Lib.hid (C2.out.trans (hb.mono C2.out.size))
  clear hb
  have Z3 := Lib.hid (zf_at w3)
  have Y3_0 := Lib.hid ((X3_0.out.alloc (.cells #[.int .i64 0, .int .i64 0, .int .i64 0, .int .i64 0, .int .i64 0, .int .i64 0] 23)).oth (b' := w3.heap.size) (by have := X3_0.out.lt; omega) (cl (a)))
  have Y3_1 := Lib.hid ((X3_1.out.alloc (.cells #[.int .i64 0, .int .i64 0, .int .i64 0, .int .i64 0, .int .i64 0, .int .i64 0] 23)).oth (b' := w3.heap.size) (by have := X3_1.out.lt; omega) (cl (a)))
  have N3 := Lib.hid (Z3.out.row (g := a))
  have C3 := Lib.hid (below_row (B3.out.alloc B3.out.size (.cells #[.int .i64 0, .int .i64 0, .int .i64 0, .int .i64 0, .int .i64 0, .int .i64 0] 23)) (b := w3.heap.size) B3.out.size (cl (a)))
  go_wp2_with (first | refine wpList_store_row rfl _ _ _ rfl _ _ rfl rfl _ _ Z3.out HI2.out rfl HO2.out ?_ | refine load_rowG rfl _ _ rfl _ rfl _ _ _ _ Y3_0.out Tryd.underlying23 rfl HI2.out ?_ | refine load_rowG rfl _ _ rfl _ rfl _ _ _ _ Y3_1.out Tryd.underlying23 rfl HI1.out ?_ | refine load_rowG rfl _ _ rfl _ rfl _ _ _ _ N3.out Tryd.underlying23 rfl HI2.out ?_)
  refine (pow_c _ a N (-1) 0 Hh2.out).mono ?_
  rintro e w4 ⟨rfl, hb⟩
  have X4_0 := Lib.hid (Y3_0.out.below0 hb)
  have X4_1 := Lib.hid (Y3_1.out.below0 hb)
  have X4_2 := Lib.hid (N3.out.below0 hb)
  have B4 := Lib.hid (C3.out.trans (hb.mono C3.out.size))
  clear hb
  have HI3 := Lib.hid (infoDim (N))
  have HO3 := Lib.hid (oneDim (N))
  have Z4 := Lib.hid (zf_at w4)
  have Y4_0 := Lib.hid ((X4_0.out.alloc (.cells #[.int .i64 0, .int .i64 0, .int .i64 0, .int .i64 0, .int .i64 0, .int .i64 0] 23)).oth (b' := w4.heap.size) (by have := X4_0.out.lt; omega) (cl (N)))
  have Y4_1 := Lib.hid ((X4_1.out.alloc (.cells #[.int .i64 0, .int .i64 0, .int .i64 0, .int .i64 0, .int .i64 0, .int .i64 0] 23)).oth (b' := w4.heap.size) (by have := X4_1.out.lt; omega) (cl (N)))
  have Y4_2 := Lib.hid ((X4_2.out.alloc (.cells #[.int .i64 0, .int .i64 0, .int .i64 0, .int .i64 0, .int .i64 0, .int .i64 0] 23)).oth (b' := w4.heap.size) (by have := X4_2.out.lt; omega) (cl (N)))
  have N4 := Lib.hid (Z4.out.row (g := N))
  have C4 := Lib.hid (below_row (B4.out.alloc B4.out.size (.cells #[.int .i64 0, .int .i64 0, .int .i64 0, .int .i64 0, .int .i64 0, .int .i64 0] 23)) (b := w4.heap.size) B4.out.size (cl (N)))
  go_wp2_with (first | refine wpList_store_row rfl _ _ _ rfl _ _ rfl rfl _ _ Z4.out HI3.out rfl HO3.out ?_ | refine load_rowG rfl _ _ rfl _ rfl _ _ _ _ Y4_0.out Tryd.underlying23 rfl HI2.out ?_ | refine load_rowG rfl _ _ rfl _ rfl _ _ _ _ Y4_1.out Tryd.underlying23 rfl HI1.out ?_ | refine load_rowG rfl _ _ rfl _ rfl _ _ _ _ Y4_2.out Tryd.underlying23 rfl HI2.out ?_ | refine load_rowG rfl _ _ rfl _ rfl _ _ _ _ N4.out Tryd.underlying23 rfl HI3.out ?_)
  refine (div_c _ zf a N 0 Hh3.out).mono ?_
  rintro e w5 ⟨rfl, hb⟩
  have X5_0 := Lib.hid (Y4_0.out.below0 hb)
  have X5_1 := Lib.hid (Y4_1.out.below0 hb)
  have X5_2 := Lib.hid (Y4_2.out.below0 hb)
  have X5_3 := Lib.hid (N4.out.below0 hb)
  have B5 := Lib.hid (C4.out.trans (hb.mono C4.out.size))
  clear hb
  have Z5 := Lib.hid (zf_at w5)
  have Y5_0 := Lib.hid ((X5_0.out.alloc (.cells #[.int .i64 0, .int .i64 0, .int .i64 0, .int .i64 0, .int .i64 0, .int .i64 0] 23)).oth (b' := w5.heap.size) (by have := X5_0.out.lt; omega) (cl (N)))
  have Y5_1 := Lib.hid ((X5_1.out.alloc (.cells #[.int .i64 0, .int .i64 0, .int .i64 0, .int .i64 0, .int .i64 0, .int .i64 0] 23)).oth (b' := w5.heap.size) (by have := X5_1.out.lt; omega) (cl (N)))
  have Y5_2 := Lib.hid ((X5_2.out.alloc (.cells #[.int .i64 0, .int .i64 0, .int .i64 0, .int .i64 0, .int .i64 0, .int .i64 0] 23)).oth (b' := w5.heap.size) (by have := X5_2.out.lt; omega) (cl (N)))
  have Y5_3 := Lib.hid ((X5_3.out.alloc (.cells #[.int .i64 0, .int .i64 0, .int .i64 0, .int .i64 0, .int .i64 0, .int .i64 0] 23)).oth (b' := w5.heap.size) (by have := X5_3.out.lt; omega) (cl (N)))
  have N5 := Lib.hid (Z5.out.row (g := N))
  have C5 := Lib.hid (below_row (B5.out.alloc B5.out.size (.cells #[.int .i64 0, .int .i64 0, .int .i64 0, .int .i64 0, .int .i64 0, .int .i64 0] 23)) (b := w5.heap.size) B5.out.size (cl (N)))
  go_wp2_with (first | refine wpList_store_row rfl _ _ _ rfl _ _ rfl rfl _ _ Z5.out HI3.out rfl HO3.out ?_ | refine load_rowG rfl _ _ rfl _ rfl _ _ _ _ Y5_0.out Tryd.underlying23 rfl HI2.out ?_ | refine load_rowG rfl _ _ rfl _ rfl _ _ _ _ Y5_1.out Tryd.underlying23 rfl HI1.out ?_ | refine load_rowG rfl _ _ rfl _ rfl _ _ _ _ Y5_2.out Tryd.underlying23 rfl HI2.out ?_ | refine load_rowG rfl _ _ rfl _ rfl _ _ _ _ Y5_3.out Tryd.underlying23 rfl HI3.out ?_ | refine load_rowG rfl _ _ rfl _ rfl _ _ _ _ N5.out Tryd.underlying23 rfl HI3.out ?_)
  refine (right_c _ a true Hoa.out).mono ?_
  rintro e w6 ⟨rfl, hb⟩
  have X6_0 := Lib.hid (Y5_0.out.below0 hb)
  have X6_1 := Lib.hid (Y5_1.out.below0 hb)
  have X6_2 := Lib.hid (Y5_2.out.below0 hb)
  have X6_3 := Lib.hid (Y5_3.out.below0 hb)
  have X6_4 := Lib.hid (N5.out.below0 hb)
  have B6 := Lib.hid (C5.out.trans (hb.mono C5.out.size))
  clear hb
  go_wp2_with (first | refine load_rowG rfl _ _ rfl _ rfl _ _ _ _ X6_0.out Tryd.underlying23 rfl HI2.out ?_ | refine load_rowG rfl _ _ rfl _ rfl _ _ _ _ X6_1.out Tryd.underlying23 rfl HI1.out ?_ | refine load_rowG rfl _ _ rfl _ rfl _ _ _ _ X6_2.out Tryd.underlying23 rfl HI2.out ?_ | refine load_rowG rfl _ _ rfl _ rfl _ _ _ _ X6_3.out Tryd.underlying23 rfl HI3.out ?_ | refine load_rowG rfl _ _ rfl _ rfl _ _ _ _ X6_4.out Tryd.underlying23 rfl HI3.out ?_)
  refine (pow_c _ a X n 0 Hhx.out).mono ?_
  rintro e w7 ⟨rfl, hb⟩
  have X7_0 := Lib.hid (X6_0.out.below0 hb)
  have X7_1 := Lib.hid (X6_1.out.below0 hb)
  have X7_2 := Lib.hid (X6_2.out.below0 hb)
  have X7_3 := Lib.hid (X6_3.out.below0 hb)
  have X7_4 := Lib.hid (X6_4.out.below0 hb)
  have B7 := Lib.hid (B6.out.trans (hb.mono B6.out.size))
  clear hb
  have HI4 := Lib.hid (infoDim (X))
  have HO4 := Lib.hid (oneDim (X))
  have Z7 := Lib.hid (zf_at w7)
  have Y7_0 := Lib.hid ((X7_0.out.alloc (.cells #[.int .i64 0, .int .i64 0, .int .i64 0, .int .i64 0, .int .i64 0, .int .i64 0] 23)).oth (b' := w7.heap.size) (by have := X7_0.out.lt; omega) (cl (X)))
  have Y7_1 := Lib.hid ((X7_1.out.alloc (.cells #[.int .i64 0, .int .i64 0, .int .i64 0, .int .i64 0, .int .i64 0, .int .i64 0] 23)).oth (b' := w7.heap.size) (by have := X7_1.out.lt; omega) (cl (X)))
  have Y7_2 := Lib.hid ((X7_2.out.alloc (.cells #[.int .i64 0, .int .i64 0, .int .i64 0, .int .i64 0, .int .i64 0, .int .i64 0] 23)).oth (b' := w7.heap.size) (by have := X7_2.out.lt; omega) (cl (X)))
  have Y7_3 := Lib.hid ((X7_3.out.alloc (.cells #[.int .i64 0, .int .i64 0, .int .i64 0, .int .i64 0, .int .i64 0, .int .i64 0] 23)).oth (b' := w7.heap.size) (by have := X7_3.out.lt; omega) (cl (X)))
  have Y7_4 := Lib.hid ((X7_4.out.alloc (.cells #[.int .i64 0, .int .i64 0, .int .i64 0, .int .i64 0, .int .i64 0, .int .i64 0] 23)).oth (b' := w7.heap.size) (by have := X7_4.out.lt; omega) (cl (X)))
  have N7 := Lib.hid (Z7.out.row (g := X))
  have C7 := Lib.hid (below_row (B7.out.alloc B7.out.size (.cells #[.int .i64 0, .int .i64 0, .int .i64 0, .int .i64 0, .int .i64 0, .int .i64 0] 23)) (b := w7.heap.size) B7.out.size (cl (X)))
  go_wp2_with (first | refine wpList_store_row rfl _ _ _ rfl _ _ rfl rfl _ _ Z7.out HI4.out rfl HO4.out ?_ | refine load_rowG rfl _ _ rfl _ rfl _ _ _ _ Y7_0.out Tryd.underlying23 rfl HI2.out ?_ | refine load_rowG rfl _ _ rfl _ rfl _ _ _ _ Y7_1.out Tryd.underlying23 rfl HI1.out ?_ | refine load_rowG rfl _ _ rfl _ rfl _ _ _ _ Y7_2.out Tryd.underlying23 rfl HI2.out ?_ | refine load_rowG rfl _ _ rfl _ rfl _ _ _ _ Y7_3.out Tryd.underlying23 rfl HI3.out ?_ | refine load_rowG rfl _ _ rfl _ rfl _ _ _ _ Y7_4.out Tryd.underlying23 rfl HI3.out ?_ | refine load_rowG rfl _ _ rfl _ rfl _ _ _ _ N7.out Tryd.underlying23 rfl HI4.out ?_)
  refine (pow_c _ a zf m 3 Hhy.out).mono ?_
  rintro e w8 ⟨rfl, hb⟩
  have X8_0 := Lib.hid (Y7_0.out.below0 hb)
  have X8_1 := Lib.hid (Y7_1.out.below0 hb)
  have X8_2 := Lib.hid (Y7_2.out.below0 hb)
  have X8_3 := Lib.hid (Y7_3.out.below0 hb)
  have X8_4 := Lib.hid (Y7_4.out.below0 hb)
  have X8_5 := Lib.hid (N7.out.below0 hb)
  have B8 := Lib.hid (C7.out.trans (hb.mono C7.out.size))
  clear hb
  have Z8 := Lib.hid (zf_at w8)
  have Y8_0 := Lib.hid ((X8_0.out.alloc (.cells #[.int .i64 0, .int .i64 0, .int .i64 0, .int .i64 0, .int .i64 0, .int .i64 0] 23)).oth (b' := w8.heap.size) (by have := X8_0.out.lt; omega) (cl (zf)))
  have Y8_1 := Lib.hid ((X8_1.out.alloc (.cells #[.int .i64 0, .int .i64 0, .int .i64 0, .int .i64 0, .int .i64 0, .int .i64 0] 23)).oth (b' := w8.heap.size) (by have := X8_1.out.lt; omega) (cl (zf)))
  have Y8_2 := Lib.hid ((X8_2.out.alloc (.cells #[.int .i64 0, .int .i64 0, .int .i64 0, .int .i64 0, .int .i64 0, .int .i64 0] 23)).oth (b' := w8.heap.size) (by have := X8_2.out.lt; omega) (cl (zf)))
  have Y8_3 := Lib.hid ((X8_3.out.alloc (.cells #[.int .i64 0, .int .i64 0, .int .i64 0, .int .i64 0, .int .i64 0, .int .i64 0] 23)).oth (b' := w8.heap.size) (by have := X8_3.out.lt; omega) (cl (zf)))
  have Y8_4 := Lib.hid ((X8_4.out.alloc (.cells #[.int .i64 0, .int .i64 0, .int .i64 0, .int .i64 0, .int .i64 0, .int .i64 0] 23)).oth (b' := w8.heap.size) (by have := X8_4.out.lt; omega) (cl (zf)))
  have Y8_5 := Lib.hid ((X8_5.out.alloc (.cells #[.int .i64 0, .int .i64 0, .int .i64 0, .int .i64 0, .int .i64 0, .int .i64 0] 23)).oth (b' := w8.heap.size) (by have := X8_5.out.lt; omega) (cl (zf)))
  have N8 := Lib.hid (Z8.out.row (g := zf))
  have C8 := Lib.hid (below_row (B8.out.alloc B8.out.size (.cells #[.int .i64 0, .int .i64 0, .int .i64 0, .int .i64 0, .int .i64 0, .int .i64 0] 23)) (b := w8.heap.size) B8.out.size (cl (zf)))
  go_wp2_with (first | refine wpList_store_row rfl _ _ _ rfl _ _ rfl rfl _ _ Z8.out HI1.out rfl HO1.out ?_ | refine load_rowG rfl _ _ rfl _ rfl _ _ _ _ Y8_0.out Tryd.underlying23 rfl HI2.out ?_ | refine load_rowG rfl _ _ rfl _ rfl _ _ _ _ Y8_1.out Tryd.underlying23 rfl HI1.out ?_ | refine load_rowG rfl _ _ rfl _ rfl _ _ _ _ Y8_2.out Tryd.underlying23 rfl HI2.out ?_ | refine load_rowG rfl _ _ rfl _ rfl _ _ _ _ Y8_3.out Tryd.underlying23 rfl HI3.out ?_ | refine load_rowG rfl _ _ rfl _ rfl _ _ _ _ Y8_4.out Tryd.underlying23 rfl HI3.out ?_ | refine load_rowG rfl _ _ rfl _ rfl _ _ _ _ Y8_5.out Tryd.underlying23 rfl HI4.out ?_ | refine load_rowG rfl _ _ rfl _ rfl _ _ _ _ N8.out Tryd.underlying23 rfl HI1.out ?_)
  refine (pow_c _ a S (n + m) k Hhs.out).mono ?_
  rintro e w9 ⟨rfl, hb⟩
  have X9_0 := Lib.hid (Y8_0.out.below0 hb)
  have X9_1 := Lib.hid (Y8_1.out.below0 hb)
  have X9_2 := Lib.hid (Y8_2.out.below0 hb)
  have X9_3 := Lib.hid (Y8_3.out.below0 hb)
  have X9_4 := Lib.hid (Y8_4.out.below0 hb)
  have X9_5 := Lib.hid (Y8_5.out.below0 hb)
  have X9_6 := Lib.hid (N8.out.below0 hb)
  have B9 := Lib.hid (C8.out.trans (hb.mono C8.out.size))
  clear hb
  have HI5 := Lib.hid (infoDim (S))
  have HO5 := Lib.hid (oneDim (S))
  have Z9 := Lib.hid (zf_at w9)
  have Y9_0 := Lib.hid ((X9_0.out.alloc (.cells #[.int .i64 0, .int .i64 0, .int .i64 0, .int .i64 0, .int .i64 0, .int .i64 0] 23)).oth (b' := w9.heap.size) (by have := X9_0.out.lt; omega) (cl (S)))
  have Y9_1 := Lib.hid ((X9_1.out.alloc (.cells #[.int .i64 0, .int .i64 0, .int .i64 0, .int .i64 0, .int .i64 0, .int .i64 0] 23)).oth (b' := w9.heap.size) (by have := X9_1.out.lt; omega) (cl (S)))
  have Y9_2 := Lib.hid ((X9_2.out.alloc (.cells #[.int .i64 0, .int .i64 0, .int .i64 0, .int .i64 0, .int .i64 0, .int .i64 0] 23)).oth (b' := w9.heap.size) (by have := X9_2.out.lt; omega) (cl (S)))
  have Y9_3 := Lib.hid ((X9_3.out.alloc (.cells #[.int .i64 0, .int .i64 0, .int .i64 0, .int .i64 0, .int .i64 0, .int .i64 0] 23)).oth (b' := w9.heap.size) (by have := X9_3.out.lt; omega) (cl (S)))
  have Y9_4 := Lib.hid ((X9_4.out.alloc (.cells #[.int .i64 0, .int .i64 0, .int .i64 0, .int .i64 0, .int .i64 0, .int .i64 0] 23)).oth (b' := w9.heap.size) (by have := X9_4.out.lt; omega) (cl (S)))
  have Y9_5 := Lib.hid ((X9_5.out.alloc (.cells #[.int .i64 0, .int .i64 0, .int .i64 0, .int .i64 0, .int .i64 0, .int .i64 0] 23)).oth (b' := w9.heap.size) (by have := X9_5.out.lt; omega) (cl (S)))
  have Y9_6 := Lib.hid ((X9_6.out.alloc (.cells #[.int .i64 0, .int .i64 0, .int .i64 0, .int .i64 0, .int .i64 0, .int .i64 0] 23)).oth (b' := w9.heap.size) (by have := X9_6.out.lt; omega) (cl (S)))
  have N9 := Lib.hid (Z9.out.row (g := S))
  have C9 := Lib.hid (below_row (B9.out.alloc B9.out.size (.cells #[.int .i64 0, .int .i64 0, .int .i64 0, .int .i64 0, .int .i64 0, .int .i64 0] 23)) (b := w9.heap.size) B9.out.size (cl (S)))
  go_wp2_with (first | refine wpList_store_row rfl _ _ _ rfl _ _ rfl rfl _ _ Z9.out HI5.out rfl HO5.out ?_ | refine load_rowG rfl _ _ rfl _ rfl _ _ _ _ Y9_0.out Tryd.underlying23 rfl HI2.out ?_ | refine load_rowG rfl _ _ rfl _ rfl _ _ _ _ Y9_1.out Tryd.underlying23 rfl HI1.out ?_ | refine load_rowG rfl _ _ rfl _ rfl _ _ _ _ Y9_2.out Tryd.underlying23 rfl HI2.out ?_ | refine load_rowG rfl _ _ rfl _ rfl _ _ _ _ Y9_3.out Tryd.underlying23 rfl HI3.out ?_ | refine load_rowG rfl _ _ rfl _ rfl _ _ _ _ Y9_4.out Tryd.underlying23 rfl HI3.out ?_ | refine load_rowG rfl _ _ rfl _ rfl _ _ _ _ Y9_5.out Tryd.underlying23 rfl HI4.out ?_ | refine load_rowG rfl _ _ rfl _ rfl _ _ _ _ Y9_6.out Tryd.underlying23 rfl HI1.out ?_ | refine load_rowG rfl _ _ rfl _ rfl _ _ _ _ N9.out Tryd.underlying23 rfl HI5.out ?_)
  refine (mul_c _ X zf Q l Hhxy.out).mono ?_
  rintro e w10 ⟨rfl, hb⟩
  have X10_0 := Lib.hid (Y9_0.out.below0 hb)
  have X10_1 := Lib.hid (Y9_1.out.below0 hb)
  have X10_2 := Lib.hid (Y9_2.out.below0 hb)
  have X10_3 := Lib.hid (Y9_3.out.below0 hb)
  have X10_4 := Lib.hid (Y9_4.out.below0 hb)
  have X10_5 := Lib.hid (Y9_5.out.below0 hb)
  have X10_6 := Lib.hid (Y9_6.out.below0 hb)
  have X10_7 := Lib.hid (N9.out.below0 hb)
  have B10 := Lib.hid (C9.out.trans (hb.mono C9.out.size))
  clear hb
  have HI6 := Lib.hid (infoDim (Q))
  have HO6 := Lib.hid (oneDim (Q))
  have Z10 := Lib.hid (zf_at w10)
  have Y10_0 := Lib.hid ((X10_0.out.alloc (.cells #[.int .i64 0, .int .i64 0, .int .i64 0, .int .i64 0, .int .i64 0, .int .i64 0] 23)).oth (b' := w10.heap.size) (by have := X10_0.out.lt; omega) (cl (Q)))
  have Y10_1 := Lib.hid ((X10_1.out.alloc (.cells #[.int .i64 0, .int .i64 0, .int .i64 0, .int .i64 0, .int .i64 0, .int .i64 0] 23)).oth (b' := w10.heap.size) (by have := X10_1.out.lt; omega) (cl (Q)))
  have Y10_2 := Lib.hid ((X10_2.out.alloc (.cells #[.int .i64 0, .int .i64 0, .int .i64 0, .int .i64 0, .int .i64 0, .int .i64 0] 23)).oth (b' := w10.heap.size) (by have := X10_2.out.lt; omega) (cl (Q)))
  have Y10_3 := Lib.hid ((X10_3.out.alloc (.cells #[.int .i64 0, .int .i64 0, .int .i64 0, .int .i64 0, .int .i64 0, .int .i64 0] 23)).oth (b' := w10.heap.size) (by have := X10_3.out.lt; omega) (cl (Q)))
  have Y10_4 := Lib.hid ((X10_4.out.alloc (.cells #[.int .i64 0, .int .i64 0, .int .i64 0, .int .i64 0, .int .i64 0, .int .i64 0] 23)).oth (b' := w10.heap.size) (by have := X10_4.out.lt; omega) (cl (Q)))
  have Y10_5 := Lib.hid ((X10_5.out.alloc (.cells #[.int .i64 0, .int .i64 0, .int .i64 0, .int .i64 0, .int .i64 0, .int .i64 0] 23)).oth (b' := w10.heap.size) (by have := X10_5.out.lt; omega) (cl (Q)))
  have Y10_6 := Lib.hid ((X10_6.out.alloc (.cells #[.int .i64 0, .int .i64 0, .int .i64 0, .int .i64 0, .int .i64 0, .int .i64 0] 23)).oth (b' := w10.heap.size) (by have := X10_6.out.lt; omega) (cl (Q)))
  have Y10_7 := Lib.hid ((X10_7.out.alloc (.cells #[.int .i64 0, .int .i64 0, .int .i64 0, .int .i64 0, .int .i64 0, .int .i64 0] 23)).oth (b' := w10.heap.size) (by have := X10_7.out.lt; omega) (cl (Q)))
  have N10 := Lib.hid (Z10.out.row (g := Q))
  have C10 := Lib.hid (below_row (B10.out.alloc B10.out.size (.cells #[.int .i64 0, .int .i64 0, .int .i64 0, .int .i64 0, .int .i64 0, .int .i64 0] 23)) (b := w10.heap.size) B10.out.size (cl (Q)))
  go_wp2_with (first | refine wpList_store_row rfl _ _ _ rfl _ _ rfl rfl _ _ Z10.out HI6.out rfl HO6.out ?_ | refine load_rowG rfl _ _ rfl _ rfl _ _ _ _ Y10_0.out Tryd.underlying23 rfl HI2.out ?_ | refine load_rowG rfl _ _ rfl _ rfl _ _ _ _ Y10_1.out Tryd.underlying23 rfl HI1.out ?_ | refine load_rowG rfl _ _ rfl _ rfl _ _ _ _ Y10_2.out Tryd.underlying23 rfl HI2.out ?_ | refine load_rowG rfl _ _ rfl _ rfl _ _ _ _ Y10_3.out Tryd.underlying23 rfl HI3.out ?_ | refine load_rowG rfl _ _ rfl _ rfl _ _ _ _ Y10_4.out Tryd.underlying23 rfl HI3.out ?_ | refine load_rowG rfl _ _ rfl _ rfl _ _ _ _ Y10_5.out Tryd.underlying23 rfl HI4.out ?_ | refine load_rowG rfl _ _ rfl _ rfl _ _ _ _ Y10_6.out Tryd.underlying23 rfl HI1.out ?_ | refine load_rowG rfl _ _ rfl _ rfl _ _ _ _ Y10_7.out Tryd.underlying23 rfl HI5.out ?_ | refine load_rowG rfl _ _ rfl _ rfl _ _ _ _ N10.out Tryd.underlying23 rfl HI6.out ?_)
  refine (pow_c _ a P (n * m) p Hhp.out).mono ?_
  rintro e w11 ⟨rfl, hb⟩
  have X11_0 := Lib.hid (Y10_0.out.below0 hb)
  have X11_1 := Lib.hid (Y10_1.out.below0 hb)
  have X11_2 := Lib.hid (Y10_2.out.below0 hb)
  have X11_3 := Lib.hid (Y10_3.out.below0 hb)
  have X11_4 := Lib.hid (Y10_4.out.below0 hb)
  have X11_5 := Lib.hid (Y10_5.out.below0 hb)
  have X11_6 := Lib.hid (Y10_6.out.below0 hb)
  have X11_7 := Lib.hid (Y10_7.out.below0 hb)
  have X11_8 := Lib.hid (N10.out.below0 hb)
  have B11 := Lib.hid (C10.out.trans (hb.mono C10.out.size))
  clear hb
  have HI7 := Lib.hid (infoDim (P))
  have HO7 := Lib.hid (oneDim (P))
  have Z11 := Lib.hid (zf_at w11)
  have Y11_0 := Lib.hid ((X11_0.out.alloc (.cells #[.int .i64 0, .int .i64 0, .int .i64 0, .int .i64 0, .int .i64 0, .int .i64 0] 23)).oth (b' := w11.heap.size) (by have := X11_0.out.lt; omega) (cl (P)))
  have Y11_1 := Lib.hid ((X11_1.out.alloc (.cells #[.int .i64 0, .int .i64 0, .int .i64 0, .int .i64 0, .int .i64 0, .int .i64 0] 23)).oth (b' := w11.heap.size) (by have := X11_1.out.lt; omega) (cl (P)))
  have Y11_2 := Lib.hid ((X11_2.out.alloc (.cells #[.int .i64 0, .int .i64 0, .int .i64 0, .int .i64 0, .int .i64 0, .int .i64 0] 23)).oth (b' := w11.heap.size) (by have := X11_2.out.lt; omega) (cl (P)))
  have Y11_3 := Lib.hid ((X11_3.out.alloc (.cells #[.int .i64 0, .int .i64 0, .int .i64 0, .int .i64 0, .int .i64 0, .int .i64 0] 23)).oth (b' := w11.heap.size) (by have := X11_3.out.lt; omega) (cl (P)))
  have Y11_4 := Lib.hid ((X11_4.out.alloc (.cells #[.int .i64 0, .int .i64 0, .int .i64 0, .int .i64 0, .int .i64 0, .int .i64 0] 23)).oth (b' := w11.heap.size) (by have := X11_4.out.lt; omega) (cl (P)))
  have Y11_5 := Lib.hid ((X11_5.out.alloc (.cells #[.int .i64 0, .int .i64 0, .int .i64 0, .int .i64 0, .int .i64 0, .int .i64 0] 23)).oth (b' := w11.heap.size) (by have := X11_5.out.lt; omega) (cl (P)))
  have Y11_6 := Lib.hid ((X11_6.out.alloc (.cells #[.int .i64 0, .int .i64 0, .int .i64 0, .int .i64 0, .int .i64 0, .int .i64 0] 23)).oth (b' := w11.heap.size) (by have := X11_6.out.lt; omega) (cl (P)))
  have Y11_7 := Lib.hid ((X11_7.out.alloc (.cells #[.int .i64 0, .int .i64 0, .int .i64 0, .int .i64 0, .int .i64 0, .int .i64 0] 23)).oth (b' := w11.heap.size) (by have := X11_7.out.lt; omega) (cl (P)))
  have Y11_8 := Lib.hid ((X11_8.out.alloc (.cells #[.int .i64 0, .int .i64 0, .int .i64 0, .int .i64 0, .int .i64 0, .int .i64 0] 23)).oth (b' := w11.heap.size) (by have := X11_8.out.lt; omega) (cl (P)))
  have N11 := Lib.hid (Z11.out.row (g := P))
  have C11 := Lib.hid (below_row (B11.out.alloc B11.out.size (.cells #[.int .i64 0, .int .i64 0, .int .i64 0, .int .i64 0, .int .i64 0, .int .i64 0] 23)) (b := w11.heap.size) B11.out.size (cl (P)))
  go_wp2_with (first | refine wpList_store_row rfl _ _ _ rfl _ _ rfl rfl _ _ Z11.out HI7.out rfl HO7.out ?_ | refine load_rowG rfl _ _ rfl _ rfl _ _ _ _ Y11_0.out Tryd.underlying23 rfl HI2.out ?_ | refine load_rowG rfl _ _ rfl _ rfl _ _ _ _ Y11_1.out Tryd.underlying23 rfl HI1.out ?_ | refine load_rowG rfl _ _ rfl _ rfl _ _ _ _ Y11_2.out Tryd.underlying23 rfl HI2.out ?_ | refine load_rowG rfl _ _ rfl _ rfl _ _ _ _ Y11_3.out Tryd.underlying23 rfl HI3.out ?_ | refine load_rowG rfl _ _ rfl _ rfl _ _ _ _ Y11_4.out Tryd.underlying23 rfl HI3.out ?_ | refine load_rowG rfl _ _ rfl _ rfl _ _ _ _ Y11_5.out Tryd.underlying23 rfl HI4.out ?_ | refine load_rowG rfl _ _ rfl _ rfl _ _ _ _ Y11_6.out Tryd.underlying23 rfl HI1.out ?_ | refine load_rowG rfl _ _ rfl _ rfl _ _ _ _ Y11_7.out Tryd.underlying23 rfl HI5.out ?_ | refine load_rowG rfl _ _ rfl _ rfl _ _ _ _ Y11_8.out Tryd.underlying23 rfl HI6.out ?_ | refine load_rowG rfl _ _ rfl _ rfl _ _ _ _ N11.out Tryd.underlying23 rfl HI7.out ?_)
  refine (pow_c _ X P m p Hhq.out).mono ?_
  rintro e w12 ⟨rfl, hb⟩
  have X12_0 := Lib.hid (Y11_0.out.below0 hb)
  have X12_1 := Lib.hid (Y11_1.out.below0 hb)
  have X12_2 := Lib.hid (Y11_2.out.below0 hb)
  have X12_3 := Lib.hid (Y11_3.out.below0 hb)
  have X12_4 := Lib.hid (Y11_4.out.below0 hb)
  have X12_5 := Lib.hid (Y11_5.out.below0 hb)
  have X12_6 := Lib.hid (Y11_6.out.below0 hb)
  have X12_7 := Lib.hid (Y11_7.out.below0 hb)
  have X12_8 := Lib.hid (Y11_8.out.below0 hb)
  have X12_9 := Lib.hid (N11.out.below0 hb)
  have B12 := Lib.hid (C11.out.trans (hb.mono C11.out.size))
  clear hb
  have Z12 := Lib.hid (zf_at w12)
  have Y12_0 := Lib.hid ((X12_0.out.alloc (.cells #[.int .i64 0, .int .i64 0, .int .i64 0, .int .i64 0, .int .i64 0, .int .i64 0] 23)).oth (b' := w12.heap.size) (by have := X12_0.out.lt; omega) (cl (P)))
  have Y12_1 := Lib.hid ((X12_1.out.alloc (.cells #[.int .i64 0, .int .i64 0, .int .i64 0, .int .i64 0, .int .i64 0, .int .i64 0] 23)).oth (b' := w12.heap.size) (by have := X12_1.out.lt; omega) (cl (P)))
  have Y12_2 := Lib.hid ((X12_2.out.alloc (.cells #[.int .i64 0, .int .i64 0, .int .i64 0, .int .i64 0, .int .i64 0, .int .i64 0] 23)).oth (b' := w12.heap.size) (by have := X12_2.out.lt; omega) (cl (P)))
  have Y12_3 := Lib.hid ((X12_3.out.alloc (.cells #[.int .i64 0, .int .i64 0, .int .i64 0, .int .i64 0, .int .i64 0, .int .i64 0] 23)).oth (b' := w12.heap.size) (by have := X12_3.out.lt; omega) (cl (P)))
  have Y12_4 := Lib.hid ((X12_4.out.alloc (.cells #[.int .i64 0, .int .i64 0, .int .i64 0, .int .i64 0, .int .i64 0, .int .i64 0] 23)).oth (b' := w12.heap.size) (by have := X12_4.out.lt; omega) (cl (P)))
  have Y12_5 := Lib.hid ((X12_5.out.alloc (.cells #[.int .i64 0, .int .i64 0, .int .i64 0, .int .i64 0, .int .i64 0, .int .i64 0] 23)).oth (b' := w12.heap.size) (by have := X12_5.out.lt; omega) (cl (P)))
  have Y12_6 := Lib.hid ((X12_6.out.alloc (.cells #[.int .i64 0, .int .i64 0, .int .i64 0, .int .i64 0, .int .i64 0, .int .i64 0] 23)).oth (b' := w12.heap.size) (by have := X12_6.out.lt; omega) (cl (P)))
  have Y12_7 := Lib.hid ((X12_7.out.alloc (.cells #[.int .i64 0, .int .i64 0, .int .i64 0, .int .i64 0, .int .i64 0, .int .i64 0] 23)).oth (b' := w12.heap.size) (by have := X12_7.out.lt; omega) (cl (P)))
  have Y12_8 := Lib.hid ((X12_8.out.alloc (.cells #[.int .i64 0, .int .i64 0, .int .i64 0, .int .i64 0, .int .i64 0, .int .i64 0] 23)).oth (b' := w12.heap.size) (by have := X12_8.out.lt; omega) (cl (P)))
  have Y12_9 := Lib.hid ((X12_9.out.alloc (.cells #[.int .i64 0, .int .i64 0, .int .i64 0, .int .i64 0, .int .i64 0, .int .i64 0] 23)).oth (b' := w12.heap.size) (by have := X12_9.out.lt; omega) (cl (P)))
  have N12 := Lib.hid (Z12.out.row (g := P))
  have C12 := Lib.hid (below_row (B12.out.alloc B12.out.size (.cells #[.int .i64 0, .int .i64 0, .int .i64 0, .int .i64 0, .int .i64 0, .int .i64 0] 23)) (b := w12.heap.size) B12.out.size (cl (P)))
  go_wp2_with (first | refine wpList_store_row rfl _ _ _ rfl _ _ rfl rfl _ _ Z12.out HI7.out rfl HO7.out ?_ | refine load_rowG rfl _ _ rfl _ rfl _ _ _ _ Y12_0.out Tryd.underlying23 rfl HI2.out ?_ | refine load_rowG rfl _ _ rfl _ rfl _ _ _ _ Y12_1.out Tryd.underlying23 rfl HI1.out ?_ | refine load_rowG rfl _ _ rfl _ rfl _ _ _ _ Y12_2.out Tryd.underlying23 rfl HI2.out ?_ | refine load_rowG rfl _ _ rfl _ rfl _ _ _ _ Y12_3.out Tryd.underlying23 rfl HI3.out ?_ | refine load_rowG rfl _ _ rfl _ rfl _ _ _ _ Y12_4.out Tryd.underlying23 rfl HI3.out ?_ | refine load_rowG rfl _ _ rfl _ rfl _ _ _ _ Y12_5.out Tryd.underlying23 rfl HI4.out ?_ | refine load_rowG rfl _ _ rfl _ rfl _ _ _ _ Y12_6.out Tryd.underlying23 rfl HI1.out ?_ | refine load_rowG rfl _ _ rfl _ rfl _ _ _ _ Y12_7.out Tryd.underlying23 rfl HI5.out ?_ | refine load_rowG rfl _ _ rfl _ rfl _ _ _ _ Y12_8.out Tryd.underlying23 rfl HI6.out ?_ | refine load_rowG rfl _ _ rfl _ rfl _ _ _ _ Y12_9.out Tryd.underlying23 rfl HI7.out ?_ | refine load_rowG rfl _ _ rfl _ rfl _ _ _ _ N12.out Tryd.underlying23 rfl HI7.out ?_)
  go_ret
  exact ⟨rfl, C12.out⟩

set_option maxHeartbeats 16000000 in
theorem powers_00 (a X Y N S P : Nat → Int) (n m k p : Int) (n1 : -128 ≤ n) (n2 : n ≤ 127) (m1 : -128 ≤ m) (m2 : m ≤ 127) (oa : ok a = true)
    (h0 : powR a 0 = DE zf 0) (h1 : powR a 1 = DE a 0) (h2 : powR a (-1) = DE N 0) (h3 : divR zf a = DE N 0) (hx : powR a n = DE X 0) (hy : powR a m = DE Y 0) (hs : powR a (n + m) = DE S k) (hxy : mulR X Y = DE S k)
    (hp : powR a (n * m) = DE P p) (hq : powR X m = DE P p) (w : World) (he : Env w) : Calls Tryd.prog 5 #[.agg (cl a), .int .i8 n, .int .i8 m] w (Gives (.bool true) w) := by
  have HE := Lib.hid he
  have bd0 := build0
  have eqs := eq_self
  have qzf : ∀ W, (Op.equalIn 10000 23 (.agg (cl zf)) (.agg #[.int .i64 0, .int .i64 0, .int .i64 0, .int .i64 0, .int .i64 0, .int .i64 0])).run Tryd.prog W = .ok true W := eq_self zf
  have A0 := Lib.hid (At.fresh w a)
  have HB0 := Lib.hid (below_alloc w (.cells (cl a) 23))
  have hwn : IntKind.i64.wrap n = n := IntWalk.i64_in _ (by omega)
  have hwm : IntKind.i64.wrap m = m := IntWalk.i64_in _ (by omega)
  have hws : IntKind.i64.wrap (n + m) = n + m := IntWalk.i64_in _ (by omega)
  have hwp : IntKind.i64.wrap (n * m) = n * m := IntWalk.i64_in _ (by have := mul_bd8 n1 n2 m1 m2; omega)
  clear he n1 n2 m1 m2
  have Hoa := Lib.hid oa
  have Hh0 := Lib.hid h0
  have Hh1 := Lib.hid h1
  have Hh2 := Lib.hid h2
  have Hh3 := Lib.hid h3
  have Hhx := Lib.hid hx
  have Hhy := Lib.hid hy
  have Hhs := Lib.hid hs
  have Hhxy := Lib.hid hxy
  have Hhp := Lib.hid hp
  have Hhq := Lib.hid hq
  clear oa h0 h1 h2 h3 hx hy hs hxy hp hq
  have HI1 := Lib.hid (infoDim (zf))
  have HO1 := Lib.hid (oneDim (zf))
  have HI2 := Lib.hid (infoDim (a))
  have HO2 := Lib.hid (oneDim (a))
  go_enter Tryd.func5, Tryd.ntmps5
  go_wp2_with (first | refine load_rowG rfl _ _ rfl _ rfl _ _ _ _ A0.out Tryd.underlying23 rfl HI2.out ?_)
  refine (sane_any _ (HE.out.below HB0.out)).mono ?_
  rintro e w1 ⟨rfl, hb⟩
  have X1_0 := Lib.hid (A0.out.below0 hb)
  have B1 := Lib.hid (HB0.out.trans (hb.mono HB0.out.size))
  clear hb
  go_wp2_with (first | refine load_rowG rfl _ _ rfl _ rfl _ _ _ _ X1_0.out Tryd.underlying23 rfl HI2.out ?_)
  refine (pow_c _ a zf 0 0 Hh0.out).mono ?_
  rintro e w2 ⟨rfl, hb⟩
  have X2_0 := Lib.hid (X1_0.out.below0 hb)
  have B2 := Lib.hid (B1.out.trans (hb.mono B1.out.size))
  clear hb
  have Z2 := Lib.hid (zf_at w2)
  have Y2_0 := Lib.hid ((X2_0.out.alloc (.cells #[.int .i64 0, .int .i64 0, .int .i64 0, .int .i64 0, .int .i64 0, .int .i64 0] 23)).oth (b' := w2.heap.size) (by have := X2_0.out.lt; omega) (cl (zf)))
  have N2 := Lib.hid (Z2.out.row (g := zf))
  have C2 := Lib.hid (below_row (B2.out.alloc B2.out.size (.cells #[.int .i64 0, .int .i64 0, .int .i64 0, .int .i64 0, .int .i64 0, .int .i64 0] 23)) (b := w2.heap.size) B2.out.size (cl (zf)))
  go_wp2_with (first | refine wpList_store_row rfl _ _ _ rfl _ _ rfl rfl _ _ Z2.out HI1.out rfl HO1.out ?_ | refine load_rowG rfl _ _ rfl _ rfl _ _ _ _ Y2_0.out Tryd.underlying23 rfl HI2.out ?_ | refine load_rowG rfl _ _ rfl _ rfl _ _ _ _ N2.out Tryd.underlying23 rfl HI1.out ?_)
  refine (pow_c _ a a 1 0 Hh1.out).mono ?_
  rintro e w3 ⟨rfl, hb⟩
  have X3_0 := Lib.hid (Y2_0.out.below0 hb)
  have X3_1 := Lib.hid (N2.out.below0 hb)
  have B3 := Lib.hid (C2.out.trans (hb.mono C2.out.size))
  clear hb
  have Z3 := Lib.hid (zf_at w3)
  have Y3_0 := Lib.hid ((X3_0.out.alloc (.cells #[.int .i64 0, .int .i64 0, .int .i64 0, .int .i64 0, .int .i64 0, .int .i64 0] 23)).oth (b' := w3.heap.size) (by have := X3_0.out.lt; omega) (cl (a)))
  have Y3_1 := Lib.hid ((X3_1.out.alloc (.cells #[.int .i64 0, .int .i64 0, .int .i64 0, .int .i64 0, .int .i64 0, .int .i64 0] 23)).oth (b' := w3.heap.size) (by have := X3_1.out.lt; omega) (cl (a)))
  have N3 := Lib.hid (Z3.out.row (g := a))
  have C3 := Lib.hid (below_row (B3.out.alloc B3.out.size (.cells #[.int .i64 0, .int .i64 0, .int .i64 0, .int .i64 0, .int .i64 0, .int .i64 0] 23)) (b := w3.heap.size) B3.out.size (cl (a)))
  go_wp2_with (first | refine wpList_store_row rfl _ _ _ rfl _ _ rfl rfl _ _ Z3.out HI2.out rfl HO2.out ?_ | refine load_rowG rfl _ _ rfl _ rfl _ _ _ _ Y3_0.out Tryd.underlying23 rfl HI2.out ?_ | refine load_rowG rfl _ _ rfl _ rfl _ _ _ _ Y3_1.out Tryd.underlying23 rfl HI1.out ?_ | refine load_rowG rfl _ _ rfl _ rfl _ _ _ _ N3.out Tryd.underlying23 rfl HI2.out ?_)
  refine (pow_c _ a N (-1) 0 Hh2.out).mono ?_
  rintro e w4 ⟨rfl, hb⟩
  have X4_0 := Lib.hid (Y3_0.out.below0 hb)
  have X4_1 := Lib.hid (Y3_1.out.below0 hb)
  have X4_2 := Lib.hid (N3.out.below0 hb)
  have B4 := Lib.hid (C3.out.trans (hb.mono C3.out.size))
  clear hb
  have HI3 := Lib.hid (infoDim (N))
  have HO3 := Lib.hid (oneDim (N))
  have Z4 := Lib.hid (zf_at w4)
  have Y4_0 := Lib.hid ((X4_0.out.alloc (.cells #[.int .i64 0, .int .i64 0, .int .i64 0, .int .i64 0, .int .i64 0, .int .i64 0] 23)).oth (b' := w4.heap.size) (by have := X4_0.out.lt; omega) (cl (N)))
  have Y4_1 := Lib.hid ((X4_1.out.alloc (.cells #[.int .i64 0, .int .i64 0, .int .i64 0, .int .i64 0, .int .i64 0, .int .i64 0] 23)).oth (b' := w4.heap.size) (by have := X4_1.out.lt; omega) (cl (N)))
  have Y4_2 := Lib.hid ((X4_2.out.alloc (.cells #[.int .i64 0, .int .i64 0, .int .i64 0, .int .i64 0, .int .i64 0, .int .i64 0] 23)).oth (b' := w4.heap.size) (by have := X4_2.out.lt; omega) (cl (N)))
  have N4 := Lib.hid (Z4.out.row (g := N))
  have C4 := Lib.hid (below_row (B4.out.alloc B4.out.size (.cells #[.int .i64 0, .int .i64 0, .int .i64 0, .int .i64 0, .int .i64 0, .int .i64 0] 23)) (b := w4.heap.size) B4.out.size (cl (N)))
  go_wp2_with (first | refine wpList_store_row rfl _ _ _ rfl _ _ rfl rfl _ _ Z4.out HI3.out rfl HO3.out ?_ | refine load_rowG rfl _ _ rfl _ rfl _ _ _ _ Y4_0.out Tryd.underlying23 rfl HI2.out ?_ | refine load_rowG rfl _ _ rfl _ rfl _ _ _ _ Y4_1.out Tryd.underlying23 rfl HI1.out ?_ | refine load_rowG rfl _ _ rfl _ rfl _ _ _ _ Y4_2.out Tryd.underlying23 rfl HI2.out ?_ | refine load_rowG rfl _ _ rfl _ rfl _ _ _ _ N4.out Tryd.underlying23 rfl HI3.out ?_)
  refine (div_c _ zf a N 0 Hh3.out).mono ?_
  rintro e w5 ⟨rfl, hb⟩
  have X5_0 := Lib.hid (Y4_0.out.below0 hb)
  have X5_1 := Lib.hid (Y4_1.out.below0 hb)
  have X5_2 := Lib.hid (Y4_2.out.below0 hb)
  have X5_3 := Lib.hid (N4.out.below0 hb)
  have B5 := Lib.hid (C4.out.trans (hb.mono C4.out.size))
  clear hb
  have Z5 := Lib.hid (zf_at w5)
  have Y5_0 := Lib.hid ((X5_0.out.alloc (.cells #[.int .i64 0, .int .i64 0, .int .i64 0, .int .i64 0, .int .i64 0, .int .i64 0] 23)).oth (b' := w5.heap.size) (by have := X5_0.out.lt; omega) (cl (N)))
  have Y5_1 := Lib.hid ((X5_1.out.alloc (.cells #[.int .i64 0, .int .i64 0, .int .i64 0, .int .i64 0, .int .i64 0, .int .i64 0] 23)).oth (b' := w5.heap.size) (by have := X5_1.out.lt; omega) (cl (N)))
  have Y5_2 := Lib.hid ((X5_2.out.alloc (.cells #[.int .i64 0, .int .i64 0, .int .i64 0, .int .i64 0, .int .i64 0, .int .i64 0] 23)).oth (b' := w5.heap.size) (by have := X5_2.out.lt; omega) (cl (N)))
  have Y5_3 := Lib.hid ((X5_3.out.alloc (.cells #[.int .i64 0, .int .i64 0, .int .i64 0, .int .i64 0, .int .i64 0, .int .i64 0] 23)).oth (b' := w5.heap.size) (by have := X5_3.out.lt; omega) (cl (N)))
  have N5 := Lib.hid (Z5.out.row (g := N))
  have C5 := Lib.hid (below_row (B5.out.alloc B5.out.size (.cells #[.int .i64 0, .int .i64 0, .int .i64 0, .int .i64 0, .int .i64 0, .int .i64 0] 23)) (b := w5.heap.size) B5.out.size (cl (N)))
  go_wp2_with (first | refine wpList_store_row rfl _ _ _ rfl _ _ rfl rfl _ _ Z5.out HI3.out rfl HO3.out ?_ | refine load_rowG rfl _ _ rfl _ rfl _ _ _ _ Y5_0.out Tryd.underlying23 rfl HI2.out ?_ | refine load_rowG rfl _ _ rfl _ rfl _ _ _ _ Y5_1.out Tryd.underlying23 rfl HI1.out ?_ | refine load_rowG rfl _ _ rfl _ rfl _ _ _ _ Y5_2.out Tryd.underlying23 rfl HI2.out ?_ | refine load_rowG rfl _ _ rfl _ rfl _ _ _ _ Y5_3.out Tryd.underlying23 rfl HI3.out ?_ | refine load_rowG rfl _ _ rfl _ rfl _ _ _ _ N5.out Tryd.underlying23 rfl HI3.out ?_)
  refine (right_c _ a true Hoa.out).mono ?_
  rintro e w6 ⟨rfl, hb⟩
  have X6_0 := Lib.hid (Y5_0.out.below0 hb)
  have X6_1 := Lib.hid (Y5_1.out.below0 hb)
  have X6_2 := Lib.hid (Y5_2.out.below0 hb)
  have X6_3 := Lib.hid (Y5_3.out.below0 hb)
  have X6_4 := Lib.hid (N5.out.below0 hb)
  have B6 := Lib.hid (C5.out.trans (hb.mono C5.out.size))
  clear hb
  go_wp2_with (first | refine load_rowG rfl _ _ rfl _ rfl _ _ _ _ X6_0.out Tryd.underlying23 rfl HI2.out ?_ | refine load_rowG rfl _ _ rfl _ rfl _ _ _ _ X6_1.out Tryd.underlying23 rfl HI1.out ?_ | refine load_rowG rfl _ _ rfl _ rfl _ _ _ _ X6_2.out Tryd.underlying23 rfl HI2.out ?_ | refine load_rowG rfl _ _ rfl _ rfl _ _ _ _ X6_3.out Tryd.underlying23 rfl HI3.out ?_ | refine load_rowG rfl _ _ rfl _ rfl _ _ _ _ X6_4.out Tryd.underlying23 rfl HI3.out ?_)
  refine (pow_c _ a X n 0 Hhx.out).mono ?_
  rintro e w7 ⟨rfl, hb⟩
  have X7_0 := Lib.hid (X6_0.out.below0 hb)
  have X7_1 := Lib.hid (X6_1.out.below0 hb)
  have X7_2 := Lib.hid (X6_2.out.below0 hb)
  have X7_3 := Lib.hid (X6_3.out.below0 hb)
  have X7_4 := Lib.hid (X6_4.out.below0 hb)
  have B7 := Lib.hid (B6.out.trans (hb.mono B6.out.size))
  clear hb
  have HI4 := Lib.hid (infoDim (X))
  have HO4 := Lib.hid (oneDim (X))
  have Z7 := Lib.hid (zf_at w7)
  have Y7_0 := Lib.hid ((X7_0.out.alloc (.cells #[.int .i64 0, .int .i64 0, .int .i64 0, .int .i64 0, .int .i64 0, .int .i64 0] 23)).oth (b' := w7.heap.size) (by have := X7_0.out.lt; omega) (cl (X)))
  have Y7_1 := Lib.hid ((X7_1.out.alloc (.cells #[.int .i64 0, .int .i64 0, .int .i64 0, .int .i64 0, .int .i64 0, .int .i64 0] 23)).oth (b' := w7.heap.size) (by have := X7_1.out.lt; omega) (cl (X)))
  have Y7_2 := Lib.hid ((X7_2.out.alloc (.cells #[.int .i64 0, .int .i64 0, .int .i64 0, .int .i64 0, .int .i64 0, .int .i64 0] 23)).oth (b' := w7.heap.size) (by have := X7_2.out.lt; omega) (cl (X)))
  have Y7_3 := Lib.hid ((X7_3.out.alloc (.cells #[.int .i64 0, .int .i64 0, .int .i64 0, .int .i64 0, .int .i64 0, .int .i64 0] 23)).oth (b' := w7.heap.size) (by have := X7_3.out.lt; omega) (cl (X)))
  have Y7_4 := Lib.hid ((X7_4.out.alloc (.cells #[.int .i64 0, .int .i64 0, .int .i64 0, .int .i64 0, .int .i64 0, .int .i64 0] 23)).oth (b' := w7.heap.size) (by have := X7_4.out.lt; omega) (cl (X)))
  have N7 := Lib.hid (Z7.out.row (g := X))
  have C7 := Lib.hid (below_row (B7.out.alloc B7.out.size (.cells #[.int .i64 0, .int .i64 0, .int .i64 0, .int .i64 0, .int .i64 0, .int .i64 0] 23)) (b := w7.heap.size) B7.out.size (cl (X)))
  go_wp2_with (first | refine wpList_store_row rfl _ _ _ rfl _ _ rfl rfl _ _ Z7.out HI4.out rfl HO4.out ?_ | refine load_rowG rfl _ _ rfl _ rfl _ _ _ _ Y7_0.out Tryd.underlying23 rfl HI2.out ?_ | refine load_rowG rfl _ _ rfl _ rfl _ _ _ _ Y7_1.out Tryd.underlying23 rfl HI1.out ?_ | refine load_rowG rfl _ _ rfl _ rfl _ _ _ _ Y7_2.out Tryd.underlying23 rfl HI2.out ?_ | refine load_rowG rfl _ _ rfl _ rfl _ _ _ _ Y7_3.out Tryd.underlying23 rfl HI3.out ?_ | refine load_rowG rfl _ _ rfl _ rfl _ _ _ _ Y7_4.out Tryd.underlying23 rfl HI3.out ?_ | refine load_rowG rfl _ _ rfl _ rfl _ _ _ _ N7.out Tryd.underlying23 rfl HI4.out ?_)
  refine (pow_c _ a Y m 0 Hhy.out).mono ?_
  rintro e w8 ⟨rfl, hb⟩
  have X8_0 := Lib.hid (Y7_0.out.below0 hb)
  have X8_1 := Lib.hid (Y7_1.out.below0 hb)
  have X8_2 := Lib.hid (Y7_2.out.below0 hb)
  have X8_3 := Lib.hid (Y7_3.out.below0 hb)
  have X8_4 := Lib.hid (Y7_4.out.below0 hb)
  have X8_5 := Lib.hid (N7.out.below0 hb)
  have B8 := Lib.hid (C7.out.trans (hb.mono C7.out.size))
  clear hb
  have HI5 := Lib.hid (infoDim (Y))
  have HO5 := Lib.hid (oneDim (Y))
  have Z8 := Lib.hid (zf_at w8)
  have Y8_0 := Lib.hid ((X8_0.out.alloc (.cells #[.int .i64 0, .int .i64 0, .int .i64 0, .int .i64 0, .int .i64 0, .int .i64 0] 23)).oth (b' := w8.heap.size) (by have := X8_0.out.lt; omega) (cl (Y)))
  have Y8_1 := Lib.hid ((X8_1.out.alloc (.cells #[.int .i64 0, .int .i64 0, .int .i64 0, .int .i64 0, .int .i64 0, .int .i64 0] 23)).oth (b' := w8.heap.size) (by have := X8_1.out.lt; omega) (cl (Y)))
  have Y8_2 := Lib.hid ((X8_2.out.alloc (.cells #[.int .i64 0, .int .i64 0, .int .i64 0, .int .i64 0, .int .i64 0, .int .i64 0] 23)).oth (b' := w8.heap.size) (by have := X8_2.out.lt; omega) (cl (Y)))
  have Y8_3 := Lib.hid ((X8_3.out.alloc (.cells #[.int .i64 0, .int .i64 0, .int .i64 0, .int .i64 0, .int .i64 0, .int .i64 0] 23)).oth (b' := w8.heap.size) (by have := X8_3.out.lt; omega) (cl (Y)))
  have Y8_4 := Lib.hid ((X8_4.out.alloc (.cells #[.int .i64 0, .int .i64 0, .int .i64 0, .int .i64 0, .int .i64 0, .int .i64 0] 23)).oth (b' := w8.heap.size) (by have := X8_4.out.lt; omega) (cl (Y)))
  have Y8_5 := Lib.hid ((X8_5.out.alloc (.cells #[.int .i64 0, .int .i64 0, .int .i64 0, .int .i64 0, .int .i64 0, .int .i64 0] 23)).oth (b' := w8.heap.size) (by have := X8_5.out.lt; omega) (cl (Y)))
  have N8 := Lib.hid (Z8.out.row (g := Y))
  have C8 := Lib.hid (below_row (B8.out.alloc B8.out.size (.cells #[.int .i64 0, .int .i64 0, .int .i64 0, .int .i64 0, .int .i64 0, .int .i64 0] 23)) (b := w8.heap.size) B8.out.size (cl (Y)))
  go_wp2_with (first | refine wpList_store_row rfl _ _ _ rfl _ _ rfl rfl _ _ Z8.out HI5.out rfl HO5.out ?_ | refine load_rowG rfl _ _ rfl _ rfl _ _ _ _ Y8_0.out Tryd.underlying23 rfl HI2.out ?_ | refine load_rowG rfl _ _ rfl _ rfl _ _ _ _ Y8_1.out Tryd.underlying23 rfl HI1.out ?_ | refine load_rowG rfl _ _ rfl _ rfl _ _ _ _ Y8_2.out Tryd.underlying23 rfl HI2.out ?_ | refine load_rowG rfl _ _ rfl _ rfl _ _ _ _ Y8_3.out Tryd.underlying23 rfl HI3.out ?_ | refine load_rowG rfl _ _ rfl _ rfl _ _ _ _ Y8_4.out Tryd.underlying23 rfl HI3.out ?_ | refine load_rowG rfl _ _ rfl _ rfl _ _ _ _ Y8_5.out Tryd.underlying23 rfl HI4.out ?_ | refine load_rowG rfl _ _ rfl _ rfl _ _ _ _ N8.out Tryd.underlying23 rfl HI5.out ?_)
  refine (pow_c _ a S (n + m) k Hhs.out).mono ?_
  rintro e w9 ⟨rfl, hb⟩
  have X9_0 := Lib.hid (Y8_0.out.below0 hb)
  have X9_1 := Lib.hid (Y8_1.out.below0 hb)
  have X9_2 := Lib.hid (Y8_2.out.below0 hb)
  have X9_3 := Lib.hid (Y8_3.out.below0 hb)
  have X9_4 := Lib.hid (Y8_4.out.below0 hb)
  have X9_5 := Lib.hid (Y8_5.out.below0 hb)
  have X9_6 := Lib.hid (N8.out.below0 hb)
  have B9 := Lib.hid (C8.out.trans (hb.mono C8.out.size))
  clear hb
  have HI6 := Lib.hid (infoDim (S))
  have HO6 := Lib.hid (oneDim (S))
  have Z9 := Lib.hid (zf_at w9)
  have Y9_0 := Lib.hid ((X9_0.out.alloc (.cells #[.int .i64 0, .int .i64 0, .int .i64 0, .int .i64 0, .int .i64 0, .int .i64 0] 23)).oth (b' := w9.heap.size) (by have := X9_0.out.lt; omega) (cl (S)))
  have Y9_1 := Lib.hid ((X9_1.out.alloc (.cells #[.int .i64 0, .int .i64 0, .int .i64 0, .int .i64 0, .int .i64 0, .int .i64 0] 23)).oth (b' := w9.heap.size) (by have := X9_1.out.lt; omega) (cl (S)))
  have Y9_2 := Lib.hid ((X9_2.out.alloc (.cells #[.int .i64 0, .int .i64 0, .int .i64 0, .int .i64 0, .int .i64 0, .int .i64 0] 23)).oth (b' := w9.heap.size) (by have := X9_2.out.lt; omega) (cl (S)))
  have Y9_3 := Lib.hid ((X9_3.out.alloc (.cells #[.int .i64 0, .int .i64 0, .int .i64 0, .int .i64 0, .int .i64 0, .int .i64 0] 23)).oth (b' := w9.heap.size) (by have := X9_3.out.lt; omega) (cl (S)))
  have Y9_4 := Lib.hid ((X9_4.out.alloc (.cells #[.int .i64 0, .int .i64 0, .int .i64 0, .int .i64 0, .int .i64 0, .int .i64 0] 23)).oth (b' := w9.heap.size) (by have := X9_4.out.lt; omega) (cl (S)))
  have Y9_5 := Lib.hid ((X9_5.out.alloc (.cells #[.int .i64 0, .int .i64 0, .int .i64 0, .int .i64 0, .int .i64 0, .int .i64 0] 23)).oth (b' := w9.heap.size) (by have := X9_5.out.lt; omega) (cl (S)))
  have Y9_6 := Lib.hid ((X9_6.out.alloc (.cells #[.int .i64 0, .int .i64 0, .int .i64 0, .int .i64 0, .int .i64 0, .int .i64 0] 23)).oth (b' := w9.heap.size) (by have := X9_6.out.lt; omega) (cl (S)))
  have N9 := Lib.hid (Z9.out.row (g := S))
  have C9 := Lib.hid (below_row (B9.out.alloc B9.out.size (.cells #[.int .i64 0, .int .i64 0, .int .i64 0, .int .i64 0, .int .i64 0, .int .i64 0] 23)) (b := w9.heap.size) B9.out.size (cl (S)))
  go_wp2_with (first | refine wpList_store_row rfl _ _ _ rfl _ _ rfl rfl _ _ Z9.out HI6.out rfl HO6.out ?_ | refine load_rowG rfl _ _ rfl _ rfl _ _ _ _ Y9_0.out Tryd.underlying23 rfl HI2.out ?_ | refine load_rowG rfl _ _ rfl _ rfl _ _ _ _ Y9_1.out Tryd.underlying23 rfl HI1.out ?_ | refine load_rowG rfl _ _ rfl _ rfl _ _ _ _ Y9_2.out Tryd.underlying23 rfl HI2.out ?_ | refine load_rowG rfl _ _ rfl _ rfl _ _ _ _ Y9_3.out Tryd.underlying23 rfl HI3.out ?_ | refine load_rowG rfl _ _ rfl _ rfl _ _ _ _ Y9_4.out Tryd.underlying23 rfl HI3.out ?_ | refine load_rowG rfl _ _ rfl _ rfl _ _ _ _ Y9_5.out Tryd.underlying23 rfl HI4.out ?_ | refine load_rowG rfl _ _ rfl _ rfl _ _ _ _ Y9_6.out Tryd.underlying23 rfl HI5.out ?_ | refine load_rowG rfl _ _ rfl _ rfl _ _ _ _ N9.out Tryd.underlying23 rfl HI6.out ?_)
  refine (mul_c _ X Y S k Hhxy.out).mono ?_
  rintro e w10 ⟨rfl, hb⟩
  have X10_0 := Lib.hid (Y9_0.out.below0 hb)
  have X10_1 := Lib.hid (Y9_1.out.below0 hb)
  have X10_2 := Lib.hid (Y9_2.out.below0 hb)
  have X10_3 := Lib.hid (Y9_3.out.below0 hb)
  have X10_4 := Lib.hid (Y9_4.out.below0 hb)
  have X10_5 := Lib.hid (Y9_5.out.below0 hb)
  have X10_6 := Lib.hid (Y9_6.out.below0 hb)
  have X10_7 := Lib.hid (N9.out.below0 hb)
  have B10 := Lib.hid (C9.out.trans (hb.mono C9.out.size))
  clear hb
  have Z10 := Lib.hid (zf_at w10)
  have Y10_0 := Lib.hid ((X10_0.out.alloc (.cells #[.int .i64 0, .int .i64 0, .int .i64 0, .int .i64 0, .int .i64 0, .int .i64 0] 23)).oth (b' := w10.heap.size) (by have := X10_0.out.lt; omega) (cl (S)))
  have Y10_1 := Lib.hid ((X10_1.out.alloc (.cells #[.int .i64 0, .int .i64 0, .int .i64 0, .int .i64 0, .int .i64 0, .int .i64 0] 23)).oth (b' := w10.heap.size) (by have := X10_1.out.lt; omega) (cl (S)))
  have Y10_2 := Lib.hid ((X10_2.out.alloc (.cells #[.int .i64 0, .int .i64 0, .int .i64 0, .int .i64 0, .int .i64 0, .int .i64 0] 23)).oth (b' := w10.heap.size) (by have := X10_2.out.lt; omega) (cl (S)))
  have Y10_3 := Lib.hid ((X10_3.out.alloc (.cells #[.int .i64 0, .int .i64 0, .int .i64 0, .int .i64 0, .int .i64 0, .int .i64 0] 23)).oth (b' := w10.heap.size) (by have := X10_3.out.lt; omega) (cl (S)))
  have Y10_4 := Lib.hid ((X10_4.out.alloc (.cells #[.int .i64 0, .int .i64 0, .int .i64 0, .int .i64 0, .int .i64 0, .int .i64 0] 23)).oth (b' := w10.heap.size) (by have := X10_4.out.lt; omega) (cl (S)))
  have Y10_5 := Lib.hid ((X10_5.out.alloc (.cells #[.int .i64 0, .int .i64 0, .int .i64 0, .int .i64 0, .int .i64 0, .int .i64 0] 23)).oth (b' := w10.heap.size) (by have := X10_5.out.lt; omega) (cl (S)))
  have Y10_6 := Lib.hid ((X10_6.out.alloc (.cells #[.int .i64 0, .int .i64 0, .int .i64 0, .int .i64 0, .int .i64 0, .int .i64 0] 23)).oth (b' := w10.heap.size) (by have := X10_6.out.lt; omega) (cl (S)))
  have Y10_7 := Lib.hid ((X10_7.out.alloc (.cells #[.int .i64 0, .int .i64 0, .int .i64 0, .int .i64 0, .int .i64 0, .int .i64 0] 23)).oth (b' := w10.heap.size) (by have := X10_7.out.lt; omega) (cl (S)))
  have N10 := Lib.hid (Z10.out.row (g := S))
  have C10 := Lib.hid (below_row (B10.out.alloc B10.out.size (.cells #[.int .i64 0, .int .i64 0, .int .i64 0, .int .i64 0, .int .i64 0, .int .i64 0] 23)) (b := w10.heap.size) B10.out.size (cl (S)))
  go_wp2_with (first | refine wpList_store_row rfl _ _ _ rfl _ _ rfl rfl _ _ Z10.out HI6.out rfl HO6.out ?_ | refine load_rowG rfl _ _ rfl _ rfl _ _ _ _ Y10_0.out Tryd.underlying23 rfl HI2.out ?_ | refine load_rowG rfl _ _ rfl _ rfl _ _ _ _ Y10_1.out Tryd.underlying23 rfl HI1.out ?_ | refine load_rowG rfl _ _ rfl _ rfl _ _ _ _ Y10_2.out Tryd.underlying23 rfl HI2.out ?_ | refine load_rowG rfl _ _ rfl _ rfl _ _ _ _ Y10_3.out Tryd.underlying23 rfl HI3.out ?_ | refine load_rowG rfl _ _ rfl _ rfl _ _ _ _ Y10_4.out Tryd.underlying23 rfl HI3.out ?_ | refine load_rowG rfl _ _ rfl _ rfl _ _ _ _ Y10_5.out Tryd.underlying23 rfl HI4.out ?_ | refine load_rowG rfl _ _ rfl _ rfl _ _ _ _ Y10_6.out Tryd.underlying23 rfl HI5.out ?_ | refine load_rowG rfl _ _ rfl _ rfl _ _ _ _ Y10_7.out Tryd.underlying23 rfl HI6.out ?_ | refine load_rowG rfl _ _ rfl _ rfl _ _ _ _ N10.out Tryd.underlying23 rfl HI6.out ?_)
  refine (pow_c _ a P (n * m) p Hhp.out).mono ?_
  rintro e w11 ⟨rfl, hb⟩
  have X11_0 := Lib.hid (Y10_0.out.below0 hb)
  have X11_1 := Lib.hid (Y10_1.out.below0 hb)
  have X11_2 := Lib.hid (Y10_2.out.below0 hb)
  have X11_3 := Lib.hid (Y10_3.out.below0 hb)
  have X11_4 := Lib.hid (Y10_4.out.below0 hb)
  have X11_5 := Lib.hid (Y10_5.out.below0 hb)
  have X11_6 := Lib.hid (Y10_6.out.below0 hb)
  have X11_7 := Lib.hid (Y10_7.out.below0 hb)
  have X11_8 := Lib.hid (N10.out.below0 hb)
  have B11 := Lib.hid (C10.out.trans (hb.mono C10.out.size))
  clear hb
  have HI7 := Lib.hid (infoDim (P))
  have HO7 := Lib.hid (oneDim (P))
  have Z11 := Lib.hid (zf_at w11)
  have Y11_0 := Lib.hid ((X11_0.out.alloc (.cells #[.int .i64 0, .int .i64 0, .int .i64 0, .int .i64 0, .int .i64 0, .int .i64 0] 23)).oth (b' := w11.heap.size) (by have := X11_0.out.lt; omega) (cl (P)))
  have Y11_1 := Lib.hid ((X11_1.out.alloc (.cells #[.int .i64 0, .int .i64 0, .int .i64 0, .int .i64 0, .int .i64 0, .int .i64 0] 23)).oth (b' := w11.heap.size) (by have := X11_1.out.lt; omega) (cl (P)))
  have Y11_2 := Lib.hid ((X11_2.out.alloc (.cells #[.int .i64 0, .int .i64 0, .int .i64 0, .int .i64 0, .int .i64 0, .int .i64 0] 23)).oth (b' := w11.heap.size) (by have := X11_2.out.lt; omega) (cl (P)))
  have Y11_3 := Lib.hid ((X11_3.out.alloc (.cells #[.int .i64 0, .int .i64 0, .int .i64 0, .int .i64 0, .int .i64 0, .int .i64 0] 23)).oth (b' := w11.heap.size) (by have := X11_3.out.lt; omega) (cl (P)))
  have Y11_4 := Lib.hid ((X11_4.out.alloc (.cells #[.int .i64 0, .int .i64 0, .int .i64 0, .int .i64 0, .int .i64 0, .int .i64 0] 23)).oth (b' := w11.heap.size) (by have := X11_4.out.lt; omega) (cl (P)))
  have Y11_5 := Lib.hid ((X11_5.out.alloc (.cells #[.int .i64 0, .int .i64 0, .int .i64 0, .int .i64 0, .int .i64 0, .int .i64 0] 23)).oth (b' := w11.heap.size) (by have := X11_5.out.lt; omega) (cl (P)))
  have Y11_6 := Lib.hid ((X11_6.out.alloc (.cells #[.int .i64 0, .int .i64 0, .int .i64 0, .int .i64 0, .int .i64 0, .int .i64 0] 23)).oth (b' := w11.heap.size) (by have := X11_6.out.lt; omega) (cl (P)))
  have Y11_7 := Lib.hid ((X11_7.out.alloc (.cells #[.int .i64 0, .int .i64 0, .int .i64 0, .int .i64 0, .int .i64 0, .int .i64 0] 23)).oth (b' := w11.heap.size) (by have := X11_7.out.lt; omega) (cl (P)))
  have Y11_8 := Lib.hid ((X11_8.out.alloc (.cells #[.int .i64 0, .int .i64 0, .int .i64 0, .int .i64 0, .int .i64 0, .int .i64 0] 23)).oth (b' := w11.heap.size) (by have := X11_8.out.lt; omega) (cl (P)))
  have N11 := Lib.hid (Z11.out.row (g := P))
  have C11 := Lib.hid (below_row (B11.out.alloc B11.out.size (.cells #[.int .i64 0, .int .i64 0, .int .i64 0, .int .i64 0, .int .i64 0, .int .i64 0] 23)) (b := w11.heap.size) B11.out.size (cl (P)))
  go_wp2_with (first | refine wpList_store_row rfl _ _ _ rfl _ _ rfl rfl _ _ Z11.out HI7.out rfl HO7.out ?_ | refine load_rowG rfl _ _ rfl _ rfl _ _ _ _ Y11_0.out Tryd.underlying23 rfl HI2.out ?_ | refine load_rowG rfl _ _ rfl _ rfl _ _ _ _ Y11_1.out Tryd.underlying23 rfl HI1.out ?_ | refine load_rowG rfl _ _ rfl _ rfl _ _ _ _ Y11_2.out Tryd.underlying23 rfl HI2.out ?_ | refine load_rowG rfl _ _ rfl _ rfl _ _ _ _ Y11_3.out Tryd.underlying23 rfl HI3.out ?_ | refine load_rowG rfl _ _ rfl _ rfl _ _ _ _ Y11_4.out Tryd.underlying23 rfl HI3.out ?_ | refine load_rowG rfl _ _ rfl _ rfl _ _ _ _ Y11_5.out Tryd.underlying23 rfl HI4.out ?_ | refine load_rowG rfl _ _ rfl _ rfl _ _ _ _ Y11_6.out Tryd.underlying23 rfl HI5.out ?_ | refine load_rowG rfl _ _ rfl _ rfl _ _ _ _ Y11_7.out Tryd.underlying23 rfl HI6.out ?_ | refine load_rowG rfl _ _ rfl _ rfl _ _ _ _ Y11_8.out Tryd.underlying23 rfl HI6.out ?_ | refine load_rowG rfl _ _ rfl _ rfl _ _ _ _ N11.out Tryd.underlying23 rfl HI7.out ?_)
  refine (pow_c _ X P m p Hhq.out).mono ?_
  rintro e w12 ⟨rfl, hb⟩
  have X12_0 := Lib.hid (Y11_0.out.below0 hb)
  have X12_1 := Lib.hid (Y11_1.out.below0 hb)
  have X12_2 := Lib.hid (Y11_2.out.below0 hb)
  have X12_3 := Lib.hid (Y11_3.out.below0 hb)
  have X12_4 := Lib.hid (Y11_4.out.below0 hb)
  have X12_5 := Lib.hid (Y11_5.out.below0 hb)
  have X12_6 := Lib.hid (Y11_6.out.below0 hb)
  have X12_7 := Lib.hid (Y11_7.out.below0 hb)
  have X12_8 := Lib.hid (Y11_8.out.below0 hb)
  have X12_9 := Lib.hid (N11.out.below0 hb)
  have B12 := Lib.hid (C11.out.trans (hb.mono C11.out.size))
  clear hb
  have Z12 := Lib.hid (zf_at w12)
  have Y12_0 := Lib.hid ((X12_0.out.alloc (.cells #[.int .i64 0, .int .i64 0, .int .i64 0, .int .i64 0, .int .i64 0, .int .i64 0] 23)).oth (b' := w12.heap.size) (by have := X12_0.out.lt; omega) (cl (P)))
  have Y12_1 := Lib.hid ((X12_1.out.alloc (.cells #[.int .i64 0, .int .i64 0, .int .i64 0, .int .i64 0, .int .i64 0, .int .i64 0] 23)).oth (b' := w12.heap.size) (by have := X12_1.out.lt; omega) (cl (P)))
  have Y12_2 := Lib.hid ((X12_2.out.alloc (.cells #[.int .i64 0, .int .i64 0, .int .i64 0, .int .i64 0, .int .i64 0, .int .i64 0] 23)).oth (b' := w12.heap.size) (by have := X12_2.out.lt; omega) (cl (P)))
  have Y12_3 := Lib.hid ((X12_3.out.alloc (.cells #[.int .i64 0, .int .i64 0, .int .i64 0, .int .i64 0, .int .i64 0, .int .i64 0] 23)).oth (b' := w12.heap.size) (by have := X12_3.out.lt; omega) (cl (P)))
  have Y12_4 := Lib.hid ((X12_4.out.alloc (.cells #[.int .i64 0, .int .i64 0, .int .i64 0, .int .i64 0, .int .i64 0, .int .i64 0] 23)).oth (b' := w12.heap.size) (by have := X12_4.out.lt; omega) (cl (P)))
  have Y12_5 := Lib.hid ((X12_5.out.alloc (.cells #[.int .i64 0, .int .i64 0, .int .i64 0, .int .i64 0, .int .i64 0, .int .i64 0] 23)).oth (b' := w12.heap.size) (by have := X12_5.out.lt; omega) (cl (P)))
  have Y12_6 := Lib.hid ((X12_6.out.alloc (.cells #[.int .i64 0, .int .i64 0, .int .i64 0, .int .i64 0, .int .i64 0, .int .i64 0] 23)).oth (b' := w12.heap.size) (by have := X12_6.out.lt; omega) (cl (P)))
  have Y12_7 := Lib.hid ((X12_7.out.alloc (.cells #[.int .i64 0, .int .i64 0, .int .i64 0, .int .i64 0, .int .i64 0, .int .i64 0] 23)).oth (b' := w12.heap.size) (by have := X12_7.out.lt; omega) (cl (P)))
  have Y12_8 := Lib.hid ((X12_8.out.alloc (.cells #[.int .i64 0, .int .i64 0, .int .i64 0, .int .i64 0, .int .i64 0, .int .i64 0] 23)).oth (b' := w12.heap.size) (by have := X12_8.out.lt; omega) (cl (P)))
  have Y12_9 := Lib.hid ((X12_9.out.alloc (.cells #[.int .i64 0, .int .i64 0, .int .i64 0, .int .i64 0, .int .i64 0, .int .i64 0] 23)).oth (b' := w12.heap.size) (by have := X12_9.out.lt; omega) (cl (P)))
  have N12 := Lib.hid (Z12.out.row (g := P))
  have C12 := Lib.hid (below_row (B12.out.alloc B12.out.size (.cells #[.int .i64 0, .int .i64 0, .int .i64 0, .int .i64 0, .int .i64 0, .int .i64 0] 23)) (b := w12.heap.size) B12.out.size (cl (P)))
  go_wp2_with (first | refine wpList_store_row rfl _ _ _ rfl _ _ rfl rfl _ _ Z12.out HI7.out rfl HO7.out ?_ | refine load_rowG rfl _ _ rfl _ rfl _ _ _ _ Y12_0.out Tryd.underlying23 rfl HI2.out ?_ | refine load_rowG rfl _ _ rfl _ rfl _ _ _ _ Y12_1.out Tryd.underlying23 rfl HI1.out ?_ | refine load_rowG rfl _ _ rfl _ rfl _ _ _ _ Y12_2.out Tryd.underlying23 rfl HI2.out ?_ | refine load_rowG rfl _ _ rfl _ rfl _ _ _ _ Y12_3.out Tryd.underlying23 rfl HI3.out ?_ | refine load_rowG rfl _ _ rfl _ rfl _ _ _ _ Y12_4.out Tryd.underlying23 rfl HI3.out ?_ | refine load_rowG rfl _ _ rfl _ rfl _ _ _ _ Y12_5.out Tryd.underlying23 rfl HI4.out ?_ | refine load_rowG rfl _ _ rfl _ rfl _ _ _ _ Y12_6.out Tryd.underlying23 rfl HI5.out ?_ | refine load_rowG rfl _ _ rfl _ rfl _ _ _ _ Y12_7.out Tryd.underlying23 rfl HI6.out ?_ | refine load_rowG rfl _ _ rfl _ rfl _ _ _ _ Y12_8.out Tryd.underlying23 rfl HI6.out ?_ | refine load_rowG rfl _ _ rfl _ rfl _ _ _ _ Y12_9.out Tryd.underlying23 rfl HI7.out ?_ | refine load_rowG rfl _ _ rfl _ rfl _ _ _ _ N12.out Tryd.underlying23 rfl HI7.out ?_)
  go_ret
  exact ⟨rfl, C12.out⟩

theorem powersLaw_any (a : Nat → Int) (n m : Int) (n1 : -128 ≤ n) (n2 : n ≤ 127) (m1 : -128 ≤ m) (m2 : m ≤ 127) (w : World) (he : Env w) : Calls Tryd.prog 5 #[.agg (cl a), .int .i8 n, .int .i8 m] w (Gives (.bool true) w) := by
  rcases oa : ok a with _ | _
  · exact powers_bad a n m n1 n2 m1 m2 oa w he
  · have oN : ok (mulF a (-1)) = true := by
      rw [ok_iff] at oa ⊢
      intro i hi
      have := oa i hi
      unfold mulF; omega
    have h0 : powR a 0 = DE zf 0 := pow_ok oa (fun i _ => by unfold mulF zf; omega) ok_zf
    have h1 : powR a 1 = DE a 0 := pow_ok oa (fun i _ => by unfold mulF; omega) oa
    have h2 : powR a (-1) = DE (mulF a (-1)) 0 := pow_ok oa (fun i _ => rfl) oN
    have h3 : divR zf a = DE (mulF a (-1)) 0 := div_ok ok_zf oa (fun i _ => by unfold difF mulF zf; omega) oN
    obtain ⟨S, k, hs⟩ := powR_DE a (n + m)
    obtain ⟨P, p, hp⟩ := powR_DE a (n * m)
    rcases powR_cases oa n with hx | ⟨ox, hx⟩
    · obtain ⟨Y, j, hy⟩ := powR_DE a m
      obtain ⟨Q, l, hxy⟩ := mulR_DE zf Y
      obtain ⟨R, q, hq⟩ := powR_DE zf m
      exact powers_3 a Y _ S P Q R n m k p j l q n1 n2 m1 m2 oa h0 h1 h2 h3 hx hy hs hxy hp hq w he
    · have hq : powR (mulF a n) m = DE P p := by
        rw [← hp, powR_in ox, powR_in oa]
        exact inR_eq (fun i _ => Int.mul_assoc _ _ _)
      rcases powR_cases oa m with hy | ⟨oy, hy⟩
      · obtain ⟨Q, l, hxy⟩ := mulR_DE (mulF a n) zf
        exact powers_03 a _ _ S P Q n m k p l n1 n2 m1 m2 oa h0 h1 h2 h3 hx hy hs hxy hp hq w he
      · have hxy : mulR (mulF a n) (mulF a m) = DE S k := by
          rw [← hs, powR_in oa]
          unfold mulR
          rw [ox, oy]
          exact inR_eq (fun i _ => (Int.mul_add _ _ _).symm)
        exact powers_00 a _ _ _ S P n m k p n1 n2 m1 m2 oa h0 h1 h2 h3 hx hy hs hxy hp hq w he
end Go.Proofs.YtmoapjhobhdjoaaDoor.Dm
