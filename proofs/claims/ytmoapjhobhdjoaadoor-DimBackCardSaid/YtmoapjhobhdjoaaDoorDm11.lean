/- The law DimBack. -/
import Derived.Test.YtmoapjhobhdjoaaDoorDm10
set_option maxRecDepth 100000
namespace Go.Proofs.YtmoapjhobhdjoaaDoor.Dm
open Go.RowKit

theorem read_y (w : World) (s : List UInt8) (h : rdB s = true) (hs : s.length ≤ 1000) (he : Env w) : Calls Tryd.prog 8 #[.string ⟨s.toArray⟩] w (Gives (.tuple #[.agg (cl (rdF s)), .bool true]) w) := by
  have := read_any s hs w he
  unfold DB at this
  rw [h] at this; exact this
theorem rd_empty : rdB [] = false := by decide
theorem txt_small (f : Nat → Int) : (tx f).length ≤ 1000 := by
  unfold tx
  split
  · have := txt_len f; omega
  · simp
set_option maxHeartbeats 2000000 in
theorem back_long (a : Nat → Int) (s : List UInt8) (h : 100 < s.length) (w : World) (he : Env w) : Calls Tryd.prog 3 #[.agg (cl a), .string ⟨s.toArray⟩] w (Gives (.bool true) w) := by
  have HE := Lib.hid he
  have bd0 := build0
  have eqs := eq_self
  have qzf : ∀ W, (Op.equalIn 10000 23 (.agg (cl zf)) (.agg #[.int .i64 0, .int .i64 0, .int .i64 0, .int .i64 0, .int .i64 0, .int .i64 0])).run Tryd.prog W = .ok true W := eq_self zf
  have A0 := Lib.hid (At.fresh w a)
  have HB0 := Lib.hid (below_alloc w (.cells (cl a) 23))
  have g : decide (100 < s.length) = true := by simpa using h
  have g' : decide (100 < (s.length : Int)) = true := by simp; omega
  clear he h
  have HI1 := Lib.hid (infoDim (zf))
  have HO1 := Lib.hid (oneDim (zf))
  have HI2 := Lib.hid (infoDim (a))
  have HO2 := Lib.hid (oneDim (a))
  go_enter Tryd.func3, Tryd.ntmps3
  go_wp2_with (first | refine load_rowG rfl _ _ rfl _ rfl _ _ _ _ A0.out Tryd.underlying23 rfl HI2.out ?_)
  refine (sane_any _ (HE.out.below HB0.out)).mono ?_
  rintro e w1 ⟨rfl, hb⟩
  have X1_0 := Lib.hid (A0.out.below0 hb)
  have B1 := Lib.hid (HB0.out.trans (hb.mono HB0.out.size))
  clear hb
  go_wp2_with (first | refine load_rowG rfl _ _ rfl _ rfl _ _ _ _ X1_0.out Tryd.underlying23 rfl HI2.out ?_)
  go_ret
  exact ⟨rfl, B1.out⟩

set_option maxHeartbeats 8000000 in
theorem back_11 (a : Nat → Int) (s : List UInt8) (h : s.length ≤ 100) (hok : ok a = true) (hr : rdB s = true) (w : World) (he : Env w) : Calls Tryd.prog 3 #[.agg (cl a), .string ⟨s.toArray⟩] w (Gives (.bool true) w) := by
  have HE := Lib.hid he
  have bd0 := build0
  have eqs := eq_self
  have qzf : ∀ W, (Op.equalIn 10000 23 (.agg (cl zf)) (.agg #[.int .i64 0, .int .i64 0, .int .i64 0, .int .i64 0, .int .i64 0, .int .i64 0])).run Tryd.prog W = .ok true W := eq_self zf
  have A0 := Lib.hid (At.fresh w a)
  have HB0 := Lib.hid (below_alloc w (.cells (cl a) 23))
  have g : decide (100 < s.length) = false := by simp; omega
  have g' : decide (100 < (s.length : Int)) = false := by simp; omega
  have HOK := Lib.hid hok
  have HRD := Lib.hid hr
  have HLEN : Hid (s.length ≤ 1000) := Lib.hid (by omega)
  have HTL := Lib.hid (txt_small a)
  have hne := (tx_ne a).2 hok
  have HRT := Lib.hid (read_c · a (tx a) rfl hok (txt_small a))
  obtain ⟨T, hT⟩ : ∃ T, tx a = T := ⟨_, rfl⟩
  have HTX := Lib.hid hT
  rw [hT] at hne HTL HRT
  have n1 : (T == []) = false := by rw [beq_eq_false_iff_ne]; exact hne
  have n2 : (!T == []) = true := by rw [n1]; rfl
  have n3 : T.isEmpty = false := by simpa using hne
  have n4 : (!T.isEmpty) = true := by rw [n3]; rfl
  clear hT
  have HC := Lib.hid (rd_some hr)
  have HRY := Lib.hid (fun w he => read_y w s hr (by omega) he)
  obtain ⟨C, hC⟩ : ∃ C, rdF s = C := ⟨_, rfl⟩
  rw [hC] at HC HRY
  clear hC
  clear he h hok hr
  have HI1 := Lib.hid (infoDim (zf))
  have HO1 := Lib.hid (oneDim (zf))
  have HI2 := Lib.hid (infoDim (a))
  have HO2 := Lib.hid (oneDim (a))
  go_enter Tryd.func3, Tryd.ntmps3
  go_wp2_with (first | refine load_rowG rfl _ _ rfl _ rfl _ _ _ _ A0.out Tryd.underlying23 rfl HI2.out ?_)
  refine (sane_any _ (HE.out.below HB0.out)).mono ?_
  rintro e w1 ⟨rfl, hb⟩
  have X1_0 := Lib.hid (A0.out.below0 hb)
  have B1 := Lib.hid (HB0.out.trans (hb.mono HB0.out.size))
  clear hb
  go_wp2_with (first | refine load_rowG rfl _ _ rfl _ rfl _ _ _ _ X1_0.out Tryd.underlying23 rfl HI2.out ?_)
  refine (text_c _ a T HTX.out (HE.out.below B1.out)).mono ?_
  rintro e w2 ⟨rfl, hb⟩
  have X2_0 := Lib.hid (X1_0.out.below0 hb)
  have B2 := Lib.hid (B1.out.trans (hb.mono B1.out.size))
  clear hb
  go_wp2_with (first | refine load_rowG rfl _ _ rfl _ rfl _ _ _ _ X2_0.out Tryd.underlying23 rfl HI2.out ?_)
  refine (HRT.out _ (HE.out.below B2.out)).mono ?_
  rintro e w3 ⟨rfl, hb⟩
  have X3_0 := Lib.hid (X2_0.out.below0 hb)
  have B3 := Lib.hid (B2.out.trans (hb.mono B2.out.size))
  clear hb
  have Z3 := Lib.hid (zf_at w3)
  have Y3_0 := Lib.hid ((X3_0.out.alloc (.cells #[.int .i64 0, .int .i64 0, .int .i64 0, .int .i64 0, .int .i64 0, .int .i64 0] 23)).oth (b' := w3.heap.size) (by have := X3_0.out.lt; omega) (cl (a)))
  have N3 := Lib.hid (Z3.out.row (g := a))
  have C3 := Lib.hid (below_row (B3.out.alloc B3.out.size (.cells #[.int .i64 0, .int .i64 0, .int .i64 0, .int .i64 0, .int .i64 0, .int .i64 0] 23)) (b := w3.heap.size) B3.out.size (cl (a)))
  go_wp2_with (first | refine wpList_store_row rfl _ _ _ rfl _ _ rfl rfl _ _ Z3.out HI2.out rfl HO2.out ?_ | refine load_rowG rfl _ _ rfl _ rfl _ _ _ _ Y3_0.out Tryd.underlying23 rfl HI2.out ?_ | refine load_rowG rfl _ _ rfl _ rfl _ _ _ _ N3.out Tryd.underlying23 rfl HI2.out ?_)
  refine (right_c _ a true HOK.out).mono ?_
  rintro e w4 ⟨rfl, hb⟩
  have X4_0 := Lib.hid (Y3_0.out.below0 hb)
  have X4_1 := Lib.hid (N3.out.below0 hb)
  have B4 := Lib.hid (C3.out.trans (hb.mono C3.out.size))
  clear hb
  go_wp2_with (first | refine load_rowG rfl _ _ rfl _ rfl _ _ _ _ X4_0.out Tryd.underlying23 rfl HI2.out ?_ | refine load_rowG rfl _ _ rfl _ rfl _ _ _ _ X4_1.out Tryd.underlying23 rfl HI2.out ?_)
  refine (right_c _ a true HOK.out).mono ?_
  rintro e w5 ⟨rfl, hb⟩
  have X5_0 := Lib.hid (X4_0.out.below0 hb)
  have X5_1 := Lib.hid (X4_1.out.below0 hb)
  have B5 := Lib.hid (B4.out.trans (hb.mono B4.out.size))
  clear hb
  go_wp2_with (first | refine load_rowG rfl _ _ rfl _ rfl _ _ _ _ X5_0.out Tryd.underlying23 rfl HI2.out ?_ | refine load_rowG rfl _ _ rfl _ rfl _ _ _ _ X5_1.out Tryd.underlying23 rfl HI2.out ?_)
  refine (HRY.out _ (HE.out.below B5.out)).mono ?_
  rintro e w6 ⟨rfl, hb⟩
  have X6_0 := Lib.hid (X5_0.out.below0 hb)
  have X6_1 := Lib.hid (X5_1.out.below0 hb)
  have B6 := Lib.hid (B5.out.trans (hb.mono B5.out.size))
  clear hb
  have HI3 := Lib.hid (infoDim (C))
  have HO3 := Lib.hid (oneDim (C))
  have Z6 := Lib.hid (zf_at w6)
  have Y6_0 := Lib.hid ((X6_0.out.alloc (.cells #[.int .i64 0, .int .i64 0, .int .i64 0, .int .i64 0, .int .i64 0, .int .i64 0] 23)).oth (b' := w6.heap.size) (by have := X6_0.out.lt; omega) (cl (C)))
  have Y6_1 := Lib.hid ((X6_1.out.alloc (.cells #[.int .i64 0, .int .i64 0, .int .i64 0, .int .i64 0, .int .i64 0, .int .i64 0] 23)).oth (b' := w6.heap.size) (by have := X6_1.out.lt; omega) (cl (C)))
  have N6 := Lib.hid (Z6.out.row (g := C))
  have C6 := Lib.hid (below_row (B6.out.alloc B6.out.size (.cells #[.int .i64 0, .int .i64 0, .int .i64 0, .int .i64 0, .int .i64 0, .int .i64 0] 23)) (b := w6.heap.size) B6.out.size (cl (C)))
  go_wp2_with (first | refine wpList_store_row rfl _ _ _ rfl _ _ rfl rfl _ _ Z6.out HI3.out rfl HO3.out ?_ | refine load_rowG rfl _ _ rfl _ rfl _ _ _ _ Y6_0.out Tryd.underlying23 rfl HI2.out ?_ | refine load_rowG rfl _ _ rfl _ rfl _ _ _ _ Y6_1.out Tryd.underlying23 rfl HI2.out ?_ | refine load_rowG rfl _ _ rfl _ rfl _ _ _ _ N6.out Tryd.underlying23 rfl HI3.out ?_)
  refine (right_c _ C true HC.out.2).mono ?_
  rintro e w7 ⟨rfl, hb⟩
  have X7_0 := Lib.hid (Y6_0.out.below0 hb)
  have X7_1 := Lib.hid (Y6_1.out.below0 hb)
  have X7_2 := Lib.hid (N6.out.below0 hb)
  have B7 := Lib.hid (C6.out.trans (hb.mono C6.out.size))
  clear hb
  go_wp2_with (first | refine load_rowG rfl _ _ rfl _ rfl _ _ _ _ X7_0.out Tryd.underlying23 rfl HI2.out ?_ | refine load_rowG rfl _ _ rfl _ rfl _ _ _ _ X7_1.out Tryd.underlying23 rfl HI2.out ?_ | refine load_rowG rfl _ _ rfl _ rfl _ _ _ _ X7_2.out Tryd.underlying23 rfl HI3.out ?_)
  refine (text_c _ C s HC.out.1 (HE.out.below B7.out)).mono ?_
  rintro e w8 ⟨rfl, hb⟩
  have X8_0 := Lib.hid (X7_0.out.below0 hb)
  have X8_1 := Lib.hid (X7_1.out.below0 hb)
  have X8_2 := Lib.hid (X7_2.out.below0 hb)
  have B8 := Lib.hid (B7.out.trans (hb.mono B7.out.size))
  clear hb
  go_wp2_with (first | refine load_rowG rfl _ _ rfl _ rfl _ _ _ _ X8_0.out Tryd.underlying23 rfl HI2.out ?_ | refine load_rowG rfl _ _ rfl _ rfl _ _ _ _ X8_1.out Tryd.underlying23 rfl HI2.out ?_ | refine load_rowG rfl _ _ rfl _ rfl _ _ _ _ X8_2.out Tryd.underlying23 rfl HI3.out ?_)
  go_ret
  exact ⟨rfl, B8.out⟩

set_option maxHeartbeats 8000000 in
theorem back_10 (a : Nat → Int) (s : List UInt8) (h : s.length ≤ 100) (hok : ok a = true) (hr : rdB s = false) (w : World) (he : Env w) : Calls Tryd.prog 3 #[.agg (cl a), .string ⟨s.toArray⟩] w (Gives (.bool true) w) := by
  have HE := Lib.hid he
  have bd0 := build0
  have eqs := eq_self
  have qzf : ∀ W, (Op.equalIn 10000 23 (.agg (cl zf)) (.agg #[.int .i64 0, .int .i64 0, .int .i64 0, .int .i64 0, .int .i64 0, .int .i64 0])).run Tryd.prog W = .ok true W := eq_self zf
  have A0 := Lib.hid (At.fresh w a)
  have HB0 := Lib.hid (below_alloc w (.cells (cl a) 23))
  have g : decide (100 < s.length) = false := by simp; omega
  have g' : decide (100 < (s.length : Int)) = false := by simp; omega
  have HOK := Lib.hid hok
  have HRD := Lib.hid hr
  have HLEN : Hid (s.length ≤ 1000) := Lib.hid (by omega)
  have HTL := Lib.hid (txt_small a)
  have hne := (tx_ne a).2 hok
  have HRT := Lib.hid (read_c · a (tx a) rfl hok (txt_small a))
  obtain ⟨T, hT⟩ : ∃ T, tx a = T := ⟨_, rfl⟩
  have HTX := Lib.hid hT
  rw [hT] at hne HTL HRT
  have n1 : (T == []) = false := by rw [beq_eq_false_iff_ne]; exact hne
  have n2 : (!T == []) = true := by rw [n1]; rfl
  have n3 : T.isEmpty = false := by simpa using hne
  have n4 : (!T.isEmpty) = true := by rw [n3]; rfl
  clear hT
  clear he h hok hr
  have HI1 := Lib.hid (infoDim (zf))
  have HO1 := Lib.hid (oneDim (zf))
  have HI2 := Lib.hid (infoDim (a))
  have HO2 := Lib.hid (oneDim (a))
  go_enter Tryd.func3, Tryd.ntmps3
  go_wp2_with (first | refine load_rowG rfl _ _ rfl _ rfl _ _ _ _ A0.out Tryd.underlying23 rfl HI2.out ?_)
  refine (sane_any _ (HE.out.below HB0.out)).mono ?_
  rintro e w1 ⟨rfl, hb⟩
  have X1_0 := Lib.hid (A0.out.below0 hb)
  have B1 := Lib.hid (HB0.out.trans (hb.mono HB0.out.size))
  clear hb
  go_wp2_with (first | refine load_rowG rfl _ _ rfl _ rfl _ _ _ _ X1_0.out Tryd.underlying23 rfl HI2.out ?_)
  refine (text_c _ a T HTX.out (HE.out.below B1.out)).mono ?_
  rintro e w2 ⟨rfl, hb⟩
  have X2_0 := Lib.hid (X1_0.out.below0 hb)
  have B2 := Lib.hid (B1.out.trans (hb.mono B1.out.size))
  clear hb
  go_wp2_with (first | refine load_rowG rfl _ _ rfl _ rfl _ _ _ _ X2_0.out Tryd.underlying23 rfl HI2.out ?_)
  refine (HRT.out _ (HE.out.below B2.out)).mono ?_
  rintro e w3 ⟨rfl, hb⟩
  have X3_0 := Lib.hid (X2_0.out.below0 hb)
  have B3 := Lib.hid (B2.out.trans (hb.mono B2.out.size))
  clear hb
  have Z3 := Lib.hid (zf_at w3)
  have Y3_0 := Lib.hid ((X3_0.out.alloc (.cells #[.int .i64 0, .int .i64 0, .int .i64 0, .int .i64 0, .int .i64 0, .int .i64 0] 23)).oth (b' := w3.heap.size) (by have := X3_0.out.lt; omega) (cl (a)))
  have N3 := Lib.hid (Z3.out.row (g := a))
  have C3 := Lib.hid (below_row (B3.out.alloc B3.out.size (.cells #[.int .i64 0, .int .i64 0, .int .i64 0, .int .i64 0, .int .i64 0, .int .i64 0] 23)) (b := w3.heap.size) B3.out.size (cl (a)))
  go_wp2_with (first | refine wpList_store_row rfl _ _ _ rfl _ _ rfl rfl _ _ Z3.out HI2.out rfl HO2.out ?_ | refine load_rowG rfl _ _ rfl _ rfl _ _ _ _ Y3_0.out Tryd.underlying23 rfl HI2.out ?_ | refine load_rowG rfl _ _ rfl _ rfl _ _ _ _ N3.out Tryd.underlying23 rfl HI2.out ?_)
  refine (right_c _ a true HOK.out).mono ?_
  rintro e w4 ⟨rfl, hb⟩
  have X4_0 := Lib.hid (Y3_0.out.below0 hb)
  have X4_1 := Lib.hid (N3.out.below0 hb)
  have B4 := Lib.hid (C3.out.trans (hb.mono C3.out.size))
  clear hb
  go_wp2_with (first | refine load_rowG rfl _ _ rfl _ rfl _ _ _ _ X4_0.out Tryd.underlying23 rfl HI2.out ?_ | refine load_rowG rfl _ _ rfl _ rfl _ _ _ _ X4_1.out Tryd.underlying23 rfl HI2.out ?_)
  refine (right_c _ a true HOK.out).mono ?_
  rintro e w5 ⟨rfl, hb⟩
  have X5_0 := Lib.hid (X4_0.out.below0 hb)
  have X5_1 := Lib.hid (X4_1.out.below0 hb)
  have B5 := Lib.hid (B4.out.trans (hb.mono B4.out.size))
  clear hb
  go_wp2_with (first | refine load_rowG rfl _ _ rfl _ rfl _ _ _ _ X5_0.out Tryd.underlying23 rfl HI2.out ?_ | refine load_rowG rfl _ _ rfl _ rfl _ _ _ _ X5_1.out Tryd.underlying23 rfl HI2.out ?_)
  refine (read_n _ s HRD.out HLEN.out (HE.out.below B5.out)).mono ?_
  rintro e w6 ⟨rfl, hb⟩
  have X6_0 := Lib.hid (X5_0.out.below0 hb)
  have X6_1 := Lib.hid (X5_1.out.below0 hb)
  have B6 := Lib.hid (B5.out.trans (hb.mono B5.out.size))
  clear hb
  have Z6 := Lib.hid (zf_at w6)
  have Y6_0 := Lib.hid ((X6_0.out.alloc (.cells #[.int .i64 0, .int .i64 0, .int .i64 0, .int .i64 0, .int .i64 0, .int .i64 0] 23)).oth (b' := w6.heap.size) (by have := X6_0.out.lt; omega) (cl (zf)))
  have Y6_1 := Lib.hid ((X6_1.out.alloc (.cells #[.int .i64 0, .int .i64 0, .int .i64 0, .int .i64 0, .int .i64 0, .int .i64 0] 23)).oth (b' := w6.heap.size) (by have := X6_1.out.lt; omega) (cl (zf)))
  have N6 := Lib.hid (Z6.out.row (g := zf))
  have C6 := Lib.hid (below_row (B6.out.alloc B6.out.size (.cells #[.int .i64 0, .int .i64 0, .int .i64 0, .int .i64 0, .int .i64 0, .int .i64 0] 23)) (b := w6.heap.size) B6.out.size (cl (zf)))
  go_wp2_with (first | refine wpList_store_row rfl _ _ _ rfl _ _ rfl rfl _ _ Z6.out HI1.out rfl HO1.out ?_ | refine load_rowG rfl _ _ rfl _ rfl _ _ _ _ Y6_0.out Tryd.underlying23 rfl HI2.out ?_ | refine load_rowG rfl _ _ rfl _ rfl _ _ _ _ Y6_1.out Tryd.underlying23 rfl HI2.out ?_ | refine load_rowG rfl _ _ rfl _ rfl _ _ _ _ N6.out Tryd.underlying23 rfl HI1.out ?_)
  go_ret
  exact ⟨rfl, C6.out⟩

set_option maxHeartbeats 8000000 in
theorem back_01 (a : Nat → Int) (s : List UInt8) (h : s.length ≤ 100) (hok : ok a = false) (hr : rdB s = true) (w : World) (he : Env w) : Calls Tryd.prog 3 #[.agg (cl a), .string ⟨s.toArray⟩] w (Gives (.bool true) w) := by
  have HE := Lib.hid he
  have bd0 := build0
  have eqs := eq_self
  have qzf : ∀ W, (Op.equalIn 10000 23 (.agg (cl zf)) (.agg #[.int .i64 0, .int .i64 0, .int .i64 0, .int .i64 0, .int .i64 0, .int .i64 0])).run Tryd.prog W = .ok true W := eq_self zf
  have A0 := Lib.hid (At.fresh w a)
  have HB0 := Lib.hid (below_alloc w (.cells (cl a) 23))
  have g : decide (100 < s.length) = false := by simp; omega
  have g' : decide (100 < (s.length : Int)) = false := by simp; omega
  have HOK := Lib.hid hok
  have HRD := Lib.hid hr
  have HLEN : Hid (s.length ≤ 1000) := Lib.hid (by omega)
  have HTX : Hid (tx a = []) := Lib.hid (by unfold tx; rw [hok]; rfl)
  have HC := Lib.hid (rd_some hr)
  have HRY := Lib.hid (fun w he => read_y w s hr (by omega) he)
  obtain ⟨C, hC⟩ : ∃ C, rdF s = C := ⟨_, rfl⟩
  rw [hC] at HC HRY
  clear hC
  clear he h hok hr
  have HI1 := Lib.hid (infoDim (zf))
  have HO1 := Lib.hid (oneDim (zf))
  have HI2 := Lib.hid (infoDim (a))
  have HO2 := Lib.hid (oneDim (a))
  go_enter Tryd.func3, Tryd.ntmps3
  go_wp2_with (first | refine load_rowG rfl _ _ rfl _ rfl _ _ _ _ A0.out Tryd.underlying23 rfl HI2.out ?_)
  refine (sane_any _ (HE.out.below HB0.out)).mono ?_
  rintro e w1 ⟨rfl, hb⟩
  have X1_0 := Lib.hid (A0.out.below0 hb)
  have B1 := Lib.hid (HB0.out.trans (hb.mono HB0.out.size))
  clear hb
  go_wp2_with (first | refine load_rowG rfl _ _ rfl _ rfl _ _ _ _ X1_0.out Tryd.underlying23 rfl HI2.out ?_)
  refine (text_c _ a [] HTX.out (HE.out.below B1.out)).mono ?_
  rintro e w2 ⟨rfl, hb⟩
  have X2_0 := Lib.hid (X1_0.out.below0 hb)
  have B2 := Lib.hid (B1.out.trans (hb.mono B1.out.size))
  clear hb
  go_wp2_with (first | refine load_rowG rfl _ _ rfl _ rfl _ _ _ _ X2_0.out Tryd.underlying23 rfl HI2.out ?_)
  refine (read_n _ [] rd_empty (by decide) (HE.out.below B2.out)).mono ?_
  rintro e w3 ⟨rfl, hb⟩
  have X3_0 := Lib.hid (X2_0.out.below0 hb)
  have B3 := Lib.hid (B2.out.trans (hb.mono B2.out.size))
  clear hb
  have Z3 := Lib.hid (zf_at w3)
  have Y3_0 := Lib.hid ((X3_0.out.alloc (.cells #[.int .i64 0, .int .i64 0, .int .i64 0, .int .i64 0, .int .i64 0, .int .i64 0] 23)).oth (b' := w3.heap.size) (by have := X3_0.out.lt; omega) (cl (zf)))
  have N3 := Lib.hid (Z3.out.row (g := zf))
  have C3 := Lib.hid (below_row (B3.out.alloc B3.out.size (.cells #[.int .i64 0, .int .i64 0, .int .i64 0, .int .i64 0, .int .i64 0, .int .i64 0] 23)) (b := w3.heap.size) B3.out.size (cl (zf)))
  go_wp2_with (first | refine wpList_store_row rfl _ _ _ rfl _ _ rfl rfl _ _ Z3.out HI1.out rfl HO1.out ?_ | refine load_rowG rfl _ _ rfl _ rfl _ _ _ _ Y3_0.out Tryd.underlying23 rfl HI2.out ?_ | refine load_rowG rfl _ _ rfl _ rfl _ _ _ _ N3.out Tryd.underlying23 rfl HI1.out ?_)
  refine (right_c _ a false HOK.out).mono ?_
  rintro e w4 ⟨rfl, hb⟩
  have X4_0 := Lib.hid (Y3_0.out.below0 hb)
  have X4_1 := Lib.hid (N3.out.below0 hb)
  have B4 := Lib.hid (C3.out.trans (hb.mono C3.out.size))
  clear hb
  go_wp2_with (first | refine load_rowG rfl _ _ rfl _ rfl _ _ _ _ X4_0.out Tryd.underlying23 rfl HI2.out ?_ | refine load_rowG rfl _ _ rfl _ rfl _ _ _ _ X4_1.out Tryd.underlying23 rfl HI1.out ?_)
  refine (right_c _ a false HOK.out).mono ?_
  rintro e w5 ⟨rfl, hb⟩
  have X5_0 := Lib.hid (X4_0.out.below0 hb)
  have X5_1 := Lib.hid (X4_1.out.below0 hb)
  have B5 := Lib.hid (B4.out.trans (hb.mono B4.out.size))
  clear hb
  go_wp2_with (first | refine load_rowG rfl _ _ rfl _ rfl _ _ _ _ X5_0.out Tryd.underlying23 rfl HI2.out ?_ | refine load_rowG rfl _ _ rfl _ rfl _ _ _ _ X5_1.out Tryd.underlying23 rfl HI1.out ?_)
  refine (HRY.out _ (HE.out.below B5.out)).mono ?_
  rintro e w6 ⟨rfl, hb⟩
  have X6_0 := Lib.hid (X5_0.out.below0 hb)
  have X6_1 := Lib.hid (X5_1.out.below0 hb)
  have B6 := Lib.hid (B5.out.trans (hb.mono B5.out.size))
  clear hb
  have HI3 := Lib.hid (infoDim (C))
  have HO3 := Lib.hid (oneDim (C))
  have Z6 := Lib.hid (zf_at w6)
  have Y6_0 := Lib.hid ((X6_0.out.alloc (.cells #[.int .i64 0, .int .i64 0, .int .i64 0, .int .i64 0, .int .i64 0, .int .i64 0] 23)).oth (b' := w6.heap.size) (by have := X6_0.out.lt; omega) (cl (C)))
  have Y6_1 := Lib.hid ((X6_1.out.alloc (.cells #[.int .i64 0, .int .i64 0, .int .i64 0, .int .i64 0, .int .i64 0, .int .i64 0] 23)).oth (b' := w6.heap.size) (by have := X6_1.out.lt; omega) (cl (C)))
  have N6 := Lib.hid (Z6.out.row (g := C))
  have C6 := Lib.hid (below_row (B6.out.alloc B6.out.size (.cells #[.int .i64 0, .int .i64 0, .int .i64 0, .int .i64 0, .int .i64 0, .int .i64 0] 23)) (b := w6.heap.size) B6.out.size (cl (C)))
  go_wp2_with (first | refine wpList_store_row rfl _ _ _ rfl _ _ rfl rfl _ _ Z6.out HI3.out rfl HO3.out ?_ | refine load_rowG rfl _ _ rfl _ rfl _ _ _ _ Y6_0.out Tryd.underlying23 rfl HI2.out ?_ | refine load_rowG rfl _ _ rfl _ rfl _ _ _ _ Y6_1.out Tryd.underlying23 rfl HI1.out ?_ | refine load_rowG rfl _ _ rfl _ rfl _ _ _ _ N6.out Tryd.underlying23 rfl HI3.out ?_)
  refine (right_c _ C true HC.out.2).mono ?_
  rintro e w7 ⟨rfl, hb⟩
  have X7_0 := Lib.hid (Y6_0.out.below0 hb)
  have X7_1 := Lib.hid (Y6_1.out.below0 hb)
  have X7_2 := Lib.hid (N6.out.below0 hb)
  have B7 := Lib.hid (C6.out.trans (hb.mono C6.out.size))
  clear hb
  go_wp2_with (first | refine load_rowG rfl _ _ rfl _ rfl _ _ _ _ X7_0.out Tryd.underlying23 rfl HI2.out ?_ | refine load_rowG rfl _ _ rfl _ rfl _ _ _ _ X7_1.out Tryd.underlying23 rfl HI1.out ?_ | refine load_rowG rfl _ _ rfl _ rfl _ _ _ _ X7_2.out Tryd.underlying23 rfl HI3.out ?_)
  refine (text_c _ C s HC.out.1 (HE.out.below B7.out)).mono ?_
  rintro e w8 ⟨rfl, hb⟩
  have X8_0 := Lib.hid (X7_0.out.below0 hb)
  have X8_1 := Lib.hid (X7_1.out.below0 hb)
  have X8_2 := Lib.hid (X7_2.out.below0 hb)
  have B8 := Lib.hid (B7.out.trans (hb.mono B7.out.size))
  clear hb
  go_wp2_with (first | refine load_rowG rfl _ _ rfl _ rfl _ _ _ _ X8_0.out Tryd.underlying23 rfl HI2.out ?_ | refine load_rowG rfl _ _ rfl _ rfl _ _ _ _ X8_1.out Tryd.underlying23 rfl HI1.out ?_ | refine load_rowG rfl _ _ rfl _ rfl _ _ _ _ X8_2.out Tryd.underlying23 rfl HI3.out ?_)
  go_ret
  exact ⟨rfl, B8.out⟩

set_option maxHeartbeats 8000000 in
theorem back_00 (a : Nat → Int) (s : List UInt8) (h : s.length ≤ 100) (hok : ok a = false) (hr : rdB s = false) (w : World) (he : Env w) : Calls Tryd.prog 3 #[.agg (cl a), .string ⟨s.toArray⟩] w (Gives (.bool true) w) := by
  have HE := Lib.hid he
  have bd0 := build0
  have eqs := eq_self
  have qzf : ∀ W, (Op.equalIn 10000 23 (.agg (cl zf)) (.agg #[.int .i64 0, .int .i64 0, .int .i64 0, .int .i64 0, .int .i64 0, .int .i64 0])).run Tryd.prog W = .ok true W := eq_self zf
  have A0 := Lib.hid (At.fresh w a)
  have HB0 := Lib.hid (below_alloc w (.cells (cl a) 23))
  have g : decide (100 < s.length) = false := by simp; omega
  have g' : decide (100 < (s.length : Int)) = false := by simp; omega
  have HOK := Lib.hid hok
  have HRD := Lib.hid hr
  have HLEN : Hid (s.length ≤ 1000) := Lib.hid (by omega)
  have HTX : Hid (tx a = []) := Lib.hid (by unfold tx; rw [hok]; rfl)
  clear he h hok hr
  have HI1 := Lib.hid (infoDim (zf))
  have HO1 := Lib.hid (oneDim (zf))
  have HI2 := Lib.hid (infoDim (a))
  have HO2 := Lib.hid (oneDim (a))
  go_enter Tryd.func3, Tryd.ntmps3
  go_wp2_with (first | refine load_rowG rfl _ _ rfl _ rfl _ _ _ _ A0.out Tryd.underlying23 rfl HI2.out ?_)
  refine (sane_any _ (HE.out.below HB0.out)).mono ?_
  rintro e w1 ⟨rfl, hb⟩
  have X1_0 := Lib.hid (A0.out.below0 hb)
  have B1 := Lib.hid (HB0.out.trans (hb.mono HB0.out.size))
  clear hb
  go_wp2_with (first | refine load_rowG rfl _ _ rfl _ rfl _ _ _ _ X1_0.out Tryd.underlying23 rfl HI2.out ?_)
  refine (text_c _ a [] HTX.out (HE.out.below B1.out)).mono ?_
  rintro e w2 ⟨rfl, hb⟩
  have X2_0 := Lib.hid (X1_0.out.below0 hb)
  have B2 := Lib.hid (B1.out.trans (hb.mono B1.out.size))
  clear hb
  go_wp2_with (first | refine load_rowG rfl _ _ rfl _ rfl _ _ _ _ X2_0.out Tryd.underlying23 rfl HI2.out ?_)
  refine (read_n _ [] rd_empty (by decide) (HE.out.below B2.out)).mono ?_
  rintro e w3 ⟨rfl, hb⟩
  have X3_0 := Lib.hid (X2_0.out.below0 hb)
  have B3 := Lib.hid (B2.out.trans (hb.mono B2.out.size))
  clear hb
  have Z3 := Lib.hid (zf_at w3)
  have Y3_0 := Lib.hid ((X3_0.out.alloc (.cells #[.int .i64 0, .int .i64 0, .int .i64 0, .int .i64 0, .int .i64 0, .int .i64 0] 23)).oth (b' := w3.heap.size) (by have := X3_0.out.lt; omega) (cl (zf)))
  have N3 := Lib.hid (Z3.out.row (g := zf))
  have C3 := Lib.hid (below_row (B3.out.alloc B3.out.size (.cells #[.int .i64 0, .int .i64 0, .int .i64 0, .int .i64 0, .int .i64 0, .int .i64 0] 23)) (b := w3.heap.size) B3.out.size (cl (zf)))
  go_wp2_with (first | refine wpList_store_row rfl _ _ _ rfl _ _ rfl rfl _ _ Z3.out HI1.out rfl HO1.out ?_ | refine load_rowG rfl _ _ rfl _ rfl _ _ _ _ Y3_0.out Tryd.underlying23 rfl HI2.out ?_ | refine load_rowG rfl _ _ rfl _ rfl _ _ _ _ N3.out Tryd.underlying23 rfl HI1.out ?_)
  refine (right_c _ a false HOK.out).mono ?_
  rintro e w4 ⟨rfl, hb⟩
  have X4_0 := Lib.hid (Y3_0.out.below0 hb)
  have X4_1 := Lib.hid (N3.out.below0 hb)
  have B4 := Lib.hid (C3.out.trans (hb.mono C3.out.size))
  clear hb
  go_wp2_with (first | refine load_rowG rfl _ _ rfl _ rfl _ _ _ _ X4_0.out Tryd.underlying23 rfl HI2.out ?_ | refine load_rowG rfl _ _ rfl _ rfl _ _ _ _ X4_1.out Tryd.underlying23 rfl HI1.out ?_)
  refine (right_c _ a false HOK.out).mono ?_
  rintro e w5 ⟨rfl, hb⟩
  have X5_0 := Lib.hid (X4_0.out.below0 hb)
  have X5_1 := Lib.hid (X4_1.out.below0 hb)
  have B5 := Lib.hid (B4.out.trans (hb.mono B4.out.size))
  clear hb
  go_wp2_with (first | refine load_rowG rfl _ _ rfl _ rfl _ _ _ _ X5_0.out Tryd.underlying23 rfl HI2.out ?_ | refine load_rowG rfl _ _ rfl _ rfl _ _ _ _ X5_1.out Tryd.underlying23 rfl HI1.out ?_)
  refine (read_n _ s HRD.out HLEN.out (HE.out.below B5.out)).mono ?_
  rintro e w6 ⟨rfl, hb⟩
  have X6_0 := Lib.hid (X5_0.out.below0 hb)
  have X6_1 := Lib.hid (X5_1.out.below0 hb)
  have B6 := Lib.hid (B5.out.trans (hb.mono B5.out.size))
  clear hb
  have Z6 := Lib.hid (zf_at w6)
  have Y6_0 := Lib.hid ((X6_0.out.alloc (.cells #[.int .i64 0, .int .i64 0, .int .i64 0, .int .i64 0, .int .i64 0, .int .i64 0] 23)).oth (b' := w6.heap.size) (by have := X6_0.out.lt; omega) (cl (zf)))
  have Y6_1 := Lib.hid ((X6_1.out.alloc (.cells #[.int .i64 0, .int .i64 0, .int .i64 0, .int .i64 0, .int .i64 0, .int .i64 0] 23)).oth (b' := w6.heap.size) (by have := X6_1.out.lt; omega) (cl (zf)))
  have N6 := Lib.hid (Z6.out.row (g := zf))
  have C6 := Lib.hid (below_row (B6.out.alloc B6.out.size (.cells #[.int .i64 0, .int .i64 0, .int .i64 0, .int .i64 0, .int .i64 0, .int .i64 0] 23)) (b := w6.heap.size) B6.out.size (cl (zf)))
  go_wp2_with (first | refine wpList_store_row rfl _ _ _ rfl _ _ rfl rfl _ _ Z6.out HI1.out rfl HO1.out ?_ | refine load_rowG rfl _ _ rfl _ rfl _ _ _ _ Y6_0.out Tryd.underlying23 rfl HI2.out ?_ | refine load_rowG rfl _ _ rfl _ rfl _ _ _ _ Y6_1.out Tryd.underlying23 rfl HI1.out ?_ | refine load_rowG rfl _ _ rfl _ rfl _ _ _ _ N6.out Tryd.underlying23 rfl HI1.out ?_)
  go_ret
  exact ⟨rfl, C6.out⟩

theorem back_any (a : Nat → Int) (s : List UInt8) (w : World) (he : Env w) : Calls Tryd.prog 3 #[.agg (cl a), .string ⟨s.toArray⟩] w (Gives (.bool true) w) := by
  by_cases h : 100 < s.length
  · exact back_long a s h w he
  · rcases hok : ok a with _ | _ <;> rcases hr : rdB s with _ | _
    · exact back_00 a s (by omega) hok hr w he
    · exact back_01 a s (by omega) hok hr w he
    · exact back_10 a s (by omega) hok hr w he
    · exact back_11 a s (by omega) hok hr w he
end Go.Proofs.YtmoapjhobhdjoaaDoor.Dm
