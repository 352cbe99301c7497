/- The contracts of the reference of unit: fraction, base, prefix. The contracts of the reference of unit: prefix, Symbol. The table of symbols that the program of unit goes through; plain mathematics. No program. The contracts of unit: isLetter, readPrefix, readItem. -/
import Derived.Deep.CutRange
import Derived.Test.YtmhdhabgdlefjaaGreatDoorPDims24
import Derived.Test.YtmhdhabgdlefjaaGreatDoorPDims26
set_option maxRecDepth 100000
namespace Go.Proofs.YtmhdhabgdlefjaaGreatDoor.Un
open Go.RowKit Bi Dm

theorem rfint_r {z : Int} {r : Rat} (hz : -9223372036854775808 ≤ z ∧ z ≤ 9223372036854775807) (h : (z : Rat) = r) (w : World) : Calls Tryz.prog 30 #[.int .i64 z] w (FV r w) := by subst h; exact rfint_k z hz w

set_option maxHeartbeats 2000000 in
theorem u9fraction_k {r : Rat} (p q : Int) (hp : -9223372036854775808 ≤ p ∧ p ≤ 9223372036854775807) (hq : -9223372036854775808 ≤ q ∧ q ≤ 9223372036854775807) (h0 : q ≠ 0) (h : Rat.divInt p q = r) (w : World) :
    Calls Tryz.prog 62 #[.int .i64 p, .int .i64 q] w (FV r w) := by
  have HO := Lib.hid (fun W => rfof_r p q hp hq h0 h W)
  clear hp hq h0 h
  have s0 := ((Sf.start w).put [.int .i64 0, .slice none 0 0, .int .i64 0, .slice none 0 0] 28)
  try simp only [World.size_alloc] at s0
  have S0 := Lib.hid s0
  clear s0
  go_enter Tryz.func62, Tryz.ntmps62
  go_wp2_with fail
  refine (HO.out _).mono ?_
  rintro e w1 ⟨sx1, ax1, nx1, cx1, bx1, mx1, dx1, rfl, hr, hb, hf, hg⟩
  have E1 := Lib.hid hr.1.1
  have R1 := Lib.hid (S0.out.ret2 hb hr.1.2 hf hr.2.2 hg)
  have FF1 := Lib.hid (hf.mono S0.out.below.size)
  have FG1 := Lib.hid (hg.mono S0.out.below.size)
  clear hr hb hf hg
  have P1 := Lib.hid (R1.out.put [.int .i64 0, .slice none 0 0, .int .i64 0, .slice none 0 0] 28)
  have Q1 := Lib.hid (Sf.row (pre := []) P1.out [.int .i64 sx1, .slice ax1 nx1 cx1, .int .i64 1, .slice bx1 mx1 dx1])
  obtain ⟨q2, q3, q4, q5⟩ := Fb.cells4 (Q1.out.box (w1.heap.size, 28, [.int .i64 sx1, .slice ax1 nx1 cx1, .int .i64 1, .slice bx1 mx1 dx1]) mq0)
  have Q6 := Lib.hid (Sf.row (pre := [(w1.heap.size, 28, [.int .i64 sx1, .slice ax1 nx1 cx1, .int .i64 1, .slice bx1 mx1 dx1])]) Q1.out [.int .i64 sx1, .slice ax1 nx1 cx1, .int .i64 1, .slice bx1 mx1 dx1])
  go_wp2_with (first | refine wpList_store_row rfl _ _ _ rfl _ #[.int .i64 sx1, .slice ax1 nx1 cx1, .int .i64 1, .slice bx1 mx1 dx1] rfl rfl _ _ (P1.out.box _ List.mem_cons_self) (by kernel_rfl) rfl (by simp [Value.oneCell']) ?_ | refine wpList_store_row rfl _ _ _ rfl _ #[.int .i64 sx1, .slice ax1 nx1 cx1, .int .i64 1, .slice bx1 mx1 dx1] rfl rfl _ _ (Q1.out.box _ mq1) (by kernel_rfl) rfl (by simp [Value.oneCell']) ?_)
  clear q2 q3 q4 q5
  refine bodyPost_ret (results_cell_row rfl _ _ _ _ _ (0, 0) _ rfl (Q6.out.box _ mq1) Tryz.underlying28 rfl (by kernel_rfl)) rfl ⟨_, _, _, _, _, _, _, rfl, (Q6.out.fr (v := .slice ax1 nx1 cx1) (u := .slice bx1 mx1 dx1) (r := r) mq0 mq1 E1.out), Q6.out.below, FF1.out, FG1.out⟩

set_option maxHeartbeats 4000000 in
theorem u9base_k (i : Nat) (hi : i < 6) (n s : Int) (a : Option Addr) (x c : Nat) (t : Int) (b : Option Addr) (y d : Nat) (w : World) :
    Calls Tryz.prog 61 #[.int .i64 (i : Int), .int .i64 n, .agg #[.int .i64 s, .slice a x c, .int .i64 t, .slice b y d]] w (Gives (.agg (uc (up zf i n) s (.slice a x c) t (.slice b y d))) w) := by
  rcases lt6 hi with rfl | rfl | rfl | rfl | rfl | rfl
  · have s0 := (((Sf.start w).put [.int .i64 s, .slice a x c, .int .i64 t, .slice b y d] 28).put [.int .i64 0, .int .i64 0, .int .i64 0, .int .i64 0, .int .i64 0, .int .i64 0, .int .i64 0, .slice none 0 0, .int .i64 0, .slice none 0 0] 30)
    try simp only [World.size_alloc] at s0
    have S0 := Lib.hid s0
    clear s0
    unfold uc
    go_enter Tryz.func61, Tryz.ntmps61
    obtain ⟨W0, hW0⟩ : ∃ W, ((w.alloc (.cells #[.int .i64 s, .slice a x c, .int .i64 t, .slice b y d] 28)).alloc (.cells #[.int .i64 0, .int .i64 0, .int .i64 0, .int .i64 0, .int .i64 0, .int .i64 0, .int .i64 0, .slice none 0 0, .int .i64 0, .slice none 0 0] 30)) = W := ⟨_, rfl⟩
    have S1 : Hid (Sf w [(w.heap.size + 1, 30, [.int .i64 0, .int .i64 0, .int .i64 0, .int .i64 0, .int .i64 0, .int .i64 0, .int .i64 0, .slice none 0 0, .int .i64 0, .slice none 0 0]), (w.heap.size, 28, [.int .i64 s, .slice a x c, .int .i64 t, .slice b y d])] [] W0) := Lib.hid (by rw [← hW0]; exact S0.out)
    have HS1 : Hid (W0.heap.size = w.heap.size + 1 + 1) := Lib.hid (by rw [← hW0]; simp)
    have P1 := Lib.hid (S1.out.put [.int .i64 0, .int .i64 0, .int .i64 0, .int .i64 0, .int .i64 0, .int .i64 0, .int .i64 0, .slice none 0 0, .int .i64 0, .slice none 0 0] 30)
    have Q1 := Lib.hid (Sf.row (pre := []) P1.out [.int .i64 0, .int .i64 0, .int .i64 0, .int .i64 0, .int .i64 0, .int .i64 0, .int .i64 s, .slice a x c, .int .i64 t, .slice b y d])
    have T1 := Lib.hid (Sf.set (pre := []) Q1.out 0 (.int .i64 n))
    simp only [List.set_cons_zero, List.nil_append] at T1
    have V1 := Lib.hid (Sf.row (pre := [(W0.heap.size, 30, [.int .i64 n, .int .i64 0, .int .i64 0, .int .i64 0, .int .i64 0, .int .i64 0, .int .i64 s, .slice a x c, .int .i64 t, .slice b y d])]) T1.out [.int .i64 n, .int .i64 0, .int .i64 0, .int .i64 0, .int .i64 0, .int .i64 0, .int .i64 s, .slice a x c, .int .i64 t, .slice b y d])
    have hk := (Q1.out.box _ List.mem_cons_self).cell 0
    have hz := (Q1.out.box _ List.mem_cons_self).free 0
    simp only [List.getElem?_cons_zero] at hk
    have f0 := (S1.out.box _ (List.mem_cons_of_mem _ List.mem_cons_self)).cell 0
    have f1 := (S1.out.box _ (List.mem_cons_of_mem _ List.mem_cons_self)).cell 1
    have f2 := (S1.out.box _ (List.mem_cons_of_mem _ List.mem_cons_self)).cell 2
    have f3 := (S1.out.box _ (List.mem_cons_of_mem _ List.mem_cons_self)).cell 3
    simp only [List.getElem?_cons_succ, List.getElem?_cons_zero] at f0 f1 f2 f3
    have hia := ia_at W0.heap.size 0 (by omega)
    go_upto_region 1 with fail
    clear hW0
    go_wp2_with (first | refine wpList_store_row rfl _ _ _ rfl _ #[.int .i64 0, .int .i64 0, .int .i64 0, .int .i64 0, .int .i64 0, .int .i64 0, .int .i64 s, .slice a x c, .int .i64 t, .slice b y d] rfl rfl _ _ (P1.out.box _ List.mem_cons_self) (by kernel_rfl) rfl (by simp [Value.oneCell']) ?_ | refine wpList_load_row rfl _ _ rfl _ rfl _ _ _ _ (T1.out.box _ List.mem_cons_self) Tryz.underlying30 rfl (by kernel_rfl) ?_ | refine wpList_store_row rfl _ _ _ rfl _ #[.int .i64 n, .int .i64 0, .int .i64 0, .int .i64 0, .int .i64 0, .int .i64 0, .int .i64 s, .slice a x c, .int .i64 t, .slice b y d] rfl rfl _ _ (T1.out.box _ (List.mem_cons_of_mem _ List.mem_cons_self)) (by kernel_rfl) rfl (by simp [Value.oneCell']) ?_)
    refine bodyPost_ret (results_cell_row rfl _ _ _ _ _ (0, 0) _ rfl (V1.out.box _ (List.mem_cons_of_mem _ List.mem_cons_self)) Tryz.underlying30 rfl (by kernel_rfl)) rfl ⟨rfl, V1.out.below⟩
  · have s0 := (((Sf.start w).put [.int .i64 s, .slice a x c, .int .i64 t, .slice b y d] 28).put [.int .i64 0, .int .i64 0, .int .i64 0, .int .i64 0, .int .i64 0, .int .i64 0, .int .i64 0, .slice none 0 0, .int .i64 0, .slice none 0 0] 30)
    try simp only [World.size_alloc] at s0
    have S0 := Lib.hid s0
    clear s0
    unfold uc
    go_enter Tryz.func61, Tryz.ntmps61
    obtain ⟨W0, hW0⟩ : ∃ W, ((w.alloc (.cells #[.int .i64 s, .slice a x c, .int .i64 t, .slice b y d] 28)).alloc (.cells #[.int .i64 0, .int .i64 0, .int .i64 0, .int .i64 0, .int .i64 0, .int .i64 0, .int .i64 0, .slice none 0 0, .int .i64 0, .slice none 0 0] 30)) = W := ⟨_, rfl⟩
    have S1 : Hid (Sf w [(w.heap.size + 1, 30, [.int .i64 0, .int .i64 0, .int .i64 0, .int .i64 0, .int .i64 0, .int .i64 0, .int .i64 0, .slice none 0 0, .int .i64 0, .slice none 0 0]), (w.heap.size, 28, [.int .i64 s, .slice a x c, .int .i64 t, .slice b y d])] [] W0) := Lib.hid (by rw [← hW0]; exact S0.out)
    have HS1 : Hid (W0.heap.size = w.heap.size + 1 + 1) := Lib.hid (by rw [← hW0]; simp)
    have P1 := Lib.hid (S1.out.put [.int .i64 0, .int .i64 0, .int .i64 0, .int .i64 0, .int .i64 0, .int .i64 0, .int .i64 0, .slice none 0 0, .int .i64 0, .slice none 0 0] 30)
    have Q1 := Lib.hid (Sf.row (pre := []) P1.out [.int .i64 0, .int .i64 0, .int .i64 0, .int .i64 0, .int .i64 0, .int .i64 0, .int .i64 s, .slice a x c, .int .i64 t, .slice b y d])
    have T1 := Lib.hid (Sf.set (pre := []) Q1.out 1 (.int .i64 n))
    simp only [List.set_cons_succ, List.set_cons_zero, List.nil_append] at T1
    have V1 := Lib.hid (Sf.row (pre := [(W0.heap.size, 30, [.int .i64 0, .int .i64 n, .int .i64 0, .int .i64 0, .int .i64 0, .int .i64 0, .int .i64 s, .slice a x c, .int .i64 t, .slice b y d])]) T1.out [.int .i64 0, .int .i64 n, .int .i64 0, .int .i64 0, .int .i64 0, .int .i64 0, .int .i64 s, .slice a x c, .int .i64 t, .slice b y d])
    have hk := (Q1.out.box _ List.mem_cons_self).cell 1
    have hz := (Q1.out.box _ List.mem_cons_self).free 1
    simp only [List.getElem?_cons_succ, List.getElem?_cons_zero] at hk
    have f0 := (S1.out.box _ (List.mem_cons_of_mem _ List.mem_cons_self)).cell 0
    have f1 := (S1.out.box _ (List.mem_cons_of_mem _ List.mem_cons_self)).cell 1
    have f2 := (S1.out.box _ (List.mem_cons_of_mem _ List.mem_cons_self)).cell 2
    have f3 := (S1.out.box _ (List.mem_cons_of_mem _ List.mem_cons_self)).cell 3
    simp only [List.getElem?_cons_succ, List.getElem?_cons_zero] at f0 f1 f2 f3
    have hia := ia_at W0.heap.size 1 (by omega)
    go_upto_region 1 with fail
    clear hW0
    go_wp2_with (first | refine wpList_store_row rfl _ _ _ rfl _ #[.int .i64 0, .int .i64 0, .int .i64 0, .int .i64 0, .int .i64 0, .int .i64 0, .int .i64 s, .slice a x c, .int .i64 t, .slice b y d] rfl rfl _ _ (P1.out.box _ List.mem_cons_self) (by kernel_rfl) rfl (by simp [Value.oneCell']) ?_ | refine wpList_load_row rfl _ _ rfl _ rfl _ _ _ _ (T1.out.box _ List.mem_cons_self) Tryz.underlying30 rfl (by kernel_rfl) ?_ | refine wpList_store_row rfl _ _ _ rfl _ #[.int .i64 0, .int .i64 n, .int .i64 0, .int .i64 0, .int .i64 0, .int .i64 0, .int .i64 s, .slice a x c, .int .i64 t, .slice b y d] rfl rfl _ _ (T1.out.box _ (List.mem_cons_of_mem _ List.mem_cons_self)) (by kernel_rfl) rfl (by simp [Value.oneCell']) ?_)
    refine bodyPost_ret (results_cell_row rfl _ _ _ _ _ (0, 0) _ rfl (V1.out.box _ (List.mem_cons_of_mem _ List.mem_cons_self)) Tryz.underlying30 rfl (by kernel_rfl)) rfl ⟨rfl, V1.out.below⟩
  · have s0 := (((Sf.start w).put [.int .i64 s, .slice a x c, .int .i64 t, .slice b y d] 28).put [.int .i64 0, .int .i64 0, .int .i64 0, .int .i64 0, .int .i64 0, .int .i64 0, .int .i64 0, .slice none 0 0, .int .i64 0, .slice none 0 0] 30)
    try simp only [World.size_alloc] at s0
    have S0 := Lib.hid s0
    clear s0
    unfold uc
    go_enter Tryz.func61, Tryz.ntmps61
    obtain ⟨W0, hW0⟩ : ∃ W, ((w.alloc (.cells #[.int .i64 s, .slice a x c, .int .i64 t, .slice b y d] 28)).alloc (.cells #[.int .i64 0, .int .i64 0, .int .i64 0, .int .i64 0, .int .i64 0, .int .i64 0, .int .i64 0, .slice none 0 0, .int .i64 0, .slice none 0 0] 30)) = W := ⟨_, rfl⟩
    have S1 : Hid (Sf w [(w.heap.size + 1, 30, [.int .i64 0, .int .i64 0, .int .i64 0, .int .i64 0, .int .i64 0, .int .i64 0, .int .i64 0, .slice none 0 0, .int .i64 0, .slice none 0 0]), (w.heap.size, 28, [.int .i64 s, .slice a x c, .int .i64 t, .slice b y d])] [] W0) := Lib.hid (by rw [← hW0]; exact S0.out)
    have HS1 : Hid (W0.heap.size = w.heap.size + 1 + 1) := Lib.hid (by rw [← hW0]; simp)
    have P1 := Lib.hid (S1.out.put [.int .i64 0, .int .i64 0, .int .i64 0, .int .i64 0, .int .i64 0, .int .i64 0, .int .i64 0, .slice none 0 0, .int .i64 0, .slice none 0 0] 30)
    have Q1 := Lib.hid (Sf.row (pre := []) P1.out [.int .i64 0, .int .i64 0, .int .i64 0, .int .i64 0, .int .i64 0, .int .i64 0, .int .i64 s, .slice a x c, .int .i64 t, .slice b y d])
    have T1 := Lib.hid (Sf.set (pre := []) Q1.out 2 (.int .i64 n))
    simp only [List.set_cons_succ, List.set_cons_zero, List.nil_append] at T1
    have V1 := Lib.hid (Sf.row (pre := [(W0.heap.size, 30, [.int .i64 0, .int .i64 0, .int .i64 n, .int .i64 0, .int .i64 0, .int .i64 0, .int .i64 s, .slice a x c, .int .i64 t, .slice b y d])]) T1.out [.int .i64 0, .int .i64 0, .int .i64 n, .int .i64 0, .int .i64 0, .int .i64 0, .int .i64 s, .slice a x c, .int .i64 t, .slice b y d])
    have hk := (Q1.out.box _ List.mem_cons_self).cell 2
    have hz := (Q1.out.box _ List.mem_cons_self).free 2
    simp only [List.getElem?_cons_succ, List.getElem?_cons_zero] at hk
    have f0 := (S1.out.box _ (List.mem_cons_of_mem _ List.mem_cons_self)).cell 0
    have f1 := (S1.out.box _ (List.mem_cons_of_mem _ List.mem_cons_self)).cell 1
    have f2 := (S1.out.box _ (List.mem_cons_of_mem _ List.mem_cons_self)).cell 2
    have f3 := (S1.out.box _ (List.mem_cons_of_mem _ List.mem_cons_self)).cell 3
    simp only [List.getElem?_cons_succ, List.getElem?_cons_zero] at f0 f1 f2 f3
    have hia := ia_at W0.heap.size 2 (by omega)
    go_upto_region 1 with fail
    clear hW0
    go_wp2_with (first | refine wpList_store_row rfl _ _ _ rfl _ #[.int .i64 0, .int .i64 0, .int .i64 0, .int .i64 0, .int .i64 0, .int .i64 0, .int .i64 s, .slice a x c, .int .i64 t, .slice b y d] rfl rfl _ _ (P1.out.box _ List.mem_cons_self) (by kernel_rfl) rfl (by simp [Value.oneCell']) ?_ | refine wpList_load_row rfl _ _ rfl _ rfl _ _ _ _ (T1.out.box _ List.mem_cons_self) Tryz.underlying30 rfl (by kernel_rfl) ?_ | refine wpList_store_row rfl _ _ _ rfl _ #[.int .i64 0, .int .i64 0, .int .i64 n, .int .i64 0, .int .i64 0, .int .i64 0, .int .i64 s, .slice a x c, .int .i64 t, .slice b y d] rfl rfl _ _ (T1.out.box _ (List.mem_cons_of_mem _ List.mem_cons_self)) (by kernel_rfl) rfl (by simp [Value.oneCell']) ?_)
    refine bodyPost_ret (results_cell_row rfl _ _ _ _ _ (0, 0) _ rfl (V1.out.box _ (List.mem_cons_of_mem _ List.mem_cons_self)) Tryz.underlying30 rfl (by kernel_rfl)) rfl ⟨rfl, V1.out.below⟩
  · have s0 := (((Sf.start w).put [.int .i64 s, .slice a x c, .int .i64 t, .slice b y d] 28).put [.int .i64 0, .int .i64 0, .int .i64 0, .int .i64 0, .int .i64 0, .int .i64 0, .int .i64 0, .slice none 0 0, .int .i64 0, .slice none 0 0] 30)
    try simp only [World.size_alloc] at s0
    have S0 := Lib.hid s0
    clear s0
    unfold uc
    go_enter Tryz.func61, Tryz.ntmps61
    obtain ⟨W0, hW0⟩ : ∃ W, ((w.alloc (.cells #[.int .i64 s, .slice a x c, .int .i64 t, .slice b y d] 28)).alloc (.cells #[.int .i64 0, .int .i64 0, .int .i64 0, .int .i64 0, .int .i64 0, .int .i64 0, .int .i64 0, .slice none 0 0, .int .i64 0, .slice none 0 0] 30)) = W := ⟨_, rfl⟩
    have S1 : Hid (Sf w [(w.heap.size + 1, 30, [.int .i64 0, .int .i64 0, .int .i64 0, .int .i64 0, .int .i64 0, .int .i64 0, .int .i64 0, .slice none 0 0, .int .i64 0, .slice none 0 0]), (w.heap.size, 28, [.int .i64 s, .slice a x c, .int .i64 t, .slice b y d])] [] W0) := Lib.hid (by rw [← hW0]; exact S0.out)
    have HS1 : Hid (W0.heap.size = w.heap.size + 1 + 1) := Lib.hid (by rw [← hW0]; simp)
    have P1 := Lib.hid (S1.out.put [.int .i64 0, .int .i64 0, .int .i64 0, .int .i64 0, .int .i64 0, .int .i64 0, .int .i64 0, .slice none 0 0, .int .i64 0, .slice none 0 0] 30)
    have Q1 := Lib.hid (Sf.row (pre := []) P1.out [.int .i64 0, .int .i64 0, .int .i64 0, .int .i64 0, .int .i64 0, .int .i64 0, .int .i64 s, .slice a x c, .int .i64 t, .slice b y d])
    have T1 := Lib.hid (Sf.set (pre := []) Q1.out 3 (.int .i64 n))
    simp only [List.set_cons_succ, List.set_cons_zero, List.nil_append] at T1
    have V1 := Lib.hid (Sf.row (pre := [(W0.heap.size, 30, [.int .i64 0, .int .i64 0, .int .i64 0, .int .i64 n, .int .i64 0, .int .i64 0, .int .i64 s, .slice a x c, .int .i64 t, .slice b y d])]) T1.out [.int .i64 0, .int .i64 0, .int .i64 0, .int .i64 n, .int .i64 0, .int .i64 0, .int .i64 s, .slice a x c, .int .i64 t, .slice b y d])
    have hk := (Q1.out.box _ List.mem_cons_self).cell 3
    have hz := (Q1.out.box _ List.mem_cons_self).free 3
    simp only [List.getElem?_cons_succ, List.getElem?_cons_zero] at hk
    have f0 := (S1.out.box _ (List.mem_cons_of_mem _ List.mem_cons_self)).cell 0
    have f1 := (S1.out.box _ (List.mem_cons_of_mem _ List.mem_cons_self)).cell 1
    have f2 := (S1.out.box _ (List.mem_cons_of_mem _ List.mem_cons_self)).cell 2
    have f3 := (S1.out.box _ (List.mem_cons_of_mem _ List.mem_cons_self)).cell 3
    simp only [List.getElem?_cons_succ, List.getElem?_cons_zero] at f0 f1 f2 f3
    have hia := ia_at W0.heap.size 3 (by omega)
    go_upto_region 1 with fail
    clear hW0
    go_wp2_with (first | refine wpList_store_row rfl _ _ _ rfl _ #[.int .i64 0, .int .i64 0, .int .i64 0, .int .i64 0, .int .i64 0, .int .i64 0, .int .i64 s, .slice a x c, .int .i64 t, .slice b y d] rfl rfl _ _ (P1.out.box _ List.mem_cons_self) (by kernel_rfl) rfl (by simp [Value.oneCell']) ?_ | refine wpList_load_row rfl _ _ rfl _ rfl _ _ _ _ (T1.out.box _ List.mem_cons_self) Tryz.underlying30 rfl (by kernel_rfl) ?_ | refine wpList_store_row rfl _ _ _ rfl _ #[.int .i64 0, .int .i64 0, .int .i64 0, .int .i64 n, .int .i64 0, .int .i64 0, .int .i64 s, .slice a x c, .int .i64 t, .slice b y d] rfl rfl _ _ (T1.out.box _ (List.mem_cons_of_mem _ List.mem_cons_self)) (by kernel_rfl) rfl (by simp [Value.oneCell']) ?_)
    refine bodyPost_ret (results_cell_row rfl _ _ _ _ _ (0, 0) _ rfl (V1.out.box _ (List.mem_cons_of_mem _ List.mem_cons_self)) Tryz.underlying30 rfl (by kernel_rfl)) rfl ⟨rfl, V1.out.below⟩
  · have s0 := (((Sf.start w).put [.int .i64 s, .slice a x c, .int .i64 t, .slice b y d] 28).put [.int .i64 0, .int .i64 0, .int .i64 0, .int .i64 0, .int .i64 0, .int .i64 0, .int .i64 0, .slice none 0 0, .int .i64 0, .slice none 0 0] 30)
    try simp only [World.size_alloc] at s0
    have S0 := Lib.hid s0
    clear s0
    unfold uc
    go_enter Tryz.func61, Tryz.ntmps61
    obtain ⟨W0, hW0⟩ : ∃ W, ((w.alloc (.cells #[.int .i64 s, .slice a x c, .int .i64 t, .slice b y d] 28)).alloc (.cells #[.int .i64 0, .int .i64 0, .int .i64 0, .int .i64 0, .int .i64 0, .int .i64 0, .int .i64 0, .slice none 0 0, .int .i64 0, .slice none 0 0] 30)) = W := ⟨_, rfl⟩
    have S1 : Hid (Sf w [(w.heap.size + 1, 30, [.int .i64 0, .int .i64 0, .int .i64 0, .int .i64 0, .int .i64 0, .int .i64 0, .int .i64 0, .slice none 0 0, .int .i64 0, .slice none 0 0]), (w.heap.size, 28, [.int .i64 s, .slice a x c, .int .i64 t, .slice b y d])] [] W0) := Lib.hid (by rw [← hW0]; exact S0.out)
    have HS1 : Hid (W0.heap.size = w.heap.size + 1 + 1) := Lib.hid (by rw [← hW0]; simp)
    have P1 := Lib.hid (S1.out.put [.int .i64 0, .int .i64 0, .int .i64 0, .int .i64 0, .int .i64 0, .int .i64 0, .int .i64 0, .slice none 0 0, .int .i64 0, .slice none 0 0] 30)
    have Q1 := Lib.hid (Sf.row (pre := []) P1.out [.int .i64 0, .int .i64 0, .int .i64 0, .int .i64 0, .int .i64 0, .int .i64 0, .int .i64 s, .slice a x c, .int .i64 t, .slice b y d])
    have T1 := Lib.hid (Sf.set (pre := []) Q1.out 4 (.int .i64 n))
    simp only [List.set_cons_succ, List.set_cons_zero, List.nil_append] at T1
    have V1 := Lib.hid (Sf.row (pre := [(W0.heap.size, 30, [.int .i64 0, .int .i64 0, .int .i64 0, .int .i64 0, .int .i64 n, .int .i64 0, .int .i64 s, .slice a x c, .int .i64 t, .slice b y d])]) T1.out [.int .i64 0, .int .i64 0, .int .i64 0, .int .i64 0, .int .i64 n, .int .i64 0, .int .i64 s, .slice a x c, .int .i64 t, .slice b y d])
    have hk := (Q1.out.box _ List.mem_cons_self).cell 4
    have hz := (Q1.out.box _ List.mem_cons_self).free 4
    simp only [List.getElem?_cons_succ, List.getElem?_cons_zero] at hk
    have f0 := (S1.out.box _ (List.mem_cons_of_mem _ List.mem_cons_self)).cell 0
    have f1 := (S1.out.box _ (List.mem_cons_of_mem _ List.mem_cons_self)).cell 1
    have f2 := (S1.out.box _ (List.mem_cons_of_mem _ List.mem_cons_self)).cell 2
    have f3 := (S1.out.box _ (List.mem_cons_of_mem _ List.mem_cons_self)).cell 3
    simp only [List.getElem?_cons_succ, List.getElem?_cons_zero] at f0 f1 f2 f3
    have hia := ia_at W0.heap.size 4 (by omega)
    go_upto_region 1 with fail
    clear hW0
    go_wp2_with (first | refine wpList_store_row rfl _ _ _ rfl _ #[.int .i64 0, .int .i64 0, .int .i64 0, .int .i64 0, .int .i64 0, .int .i64 0, .int .i64 s, .slice a x c, .int .i64 t, .slice b y d] rfl rfl _ _ (P1.out.box _ List.mem_cons_self) (by kernel_rfl) rfl (by simp [Value.oneCell']) ?_ | refine wpList_load_row rfl _ _ rfl _ rfl _ _ _ _ (T1.out.box _ List.mem_cons_self) Tryz.underlying30 rfl (by kernel_rfl) ?_ | refine wpList_store_row rfl _ _ _ rfl _ #[.int .i64 0, .int .i64 0, .int .i64 0, .int .i64 0, .int .i64 n, .int .i64 0, .int .i64 s, .slice a x c, .int .i64 t, .slice b y d] rfl rfl _ _ (T1.out.box _ (List.mem_cons_of_mem _ List.mem_cons_self)) (by kernel_rfl) rfl (by simp [Value.oneCell']) ?_)
    refine bodyPost_ret (results_cell_row rfl _ _ _ _ _ (0, 0) _ rfl (V1.out.box _ (List.mem_cons_of_mem _ List.mem_cons_self)) Tryz.underlying30 rfl (by kernel_rfl)) rfl ⟨rfl, V1.out.below⟩
  · have s0 := (((Sf.start w).put [.int .i64 s, .slice a x c, .int .i64 t, .slice b y d] 28).put [.int .i64 0, .int .i64 0, .int .i64 0, .int .i64 0, .int .i64 0, .int .i64 0, .int .i64 0, .slice none 0 0, .int .i64 0, .slice none 0 0] 30)
    try simp only [World.size_alloc] at s0
    have S0 := Lib.hid s0
    clear s0
    unfold uc
    go_enter Tryz.func61, Tryz.ntmps61
    obtain ⟨W0, hW0⟩ : ∃ W, ((w.alloc (.cells #[.int .i64 s, .slice a x c, .int .i64 t, .slice b y d] 28)).alloc (.cells #[.int .i64 0, .int .i64 0, .int .i64 0, .int .i64 0, .int .i64 0, .int .i64 0, .int .i64 0, .slice none 0 0, .int .i64 0, .slice none 0 0] 30)) = W := ⟨_, rfl⟩
    have S1 : Hid (Sf w [(w.heap.size + 1, 30, [.int .i64 0, .int .i64 0, .int .i64 0, .int .i64 0, .int .i64 0, .int .i64 0, .int .i64 0, .slice none 0 0, .int .i64 0, .slice none 0 0]), (w.heap.size, 28, [.int .i64 s, .slice a x c, .int .i64 t, .slice b y d])] [] W0) := Lib.hid (by rw [← hW0]; exact S0.out)
    have HS1 : Hid (W0.heap.size = w.heap.size + 1 + 1) := Lib.hid (by rw [← hW0]; simp)
    have P1 := Lib.hid (S1.out.put [.int .i64 0, .int .i64 0, .int .i64 0, .int .i64 0, .int .i64 0, .int .i64 0, .int .i64 0, .slice none 0 0, .int .i64 0, .slice none 0 0] 30)
    have Q1 := Lib.hid (Sf.row (pre := []) P1.out [.int .i64 0, .int .i64 0, .int .i64 0, .int .i64 0, .int .i64 0, .int .i64 0, .int .i64 s, .slice a x c, .int .i64 t, .slice b y d])
    have T1 := Lib.hid (Sf.set (pre := []) Q1.out 5 (.int .i64 n))
    simp only [List.set_cons_succ, List.set_cons_zero, List.nil_append] at T1
    have V1 := Lib.hid (Sf.row (pre := [(W0.heap.size, 30, [.int .i64 0, .int .i64 0, .int .i64 0, .int .i64 0, .int .i64 0, .int .i64 n, .int .i64 s, .slice a x c, .int .i64 t, .slice b y d])]) T1.out [.int .i64 0, .int .i64 0, .int .i64 0, .int .i64 0, .int .i64 0, .int .i64 n, .int .i64 s, .slice a x c, .int .i64 t, .slice b y d])
    have hk := (Q1.out.box _ List.mem_cons_self).cell 5
    have hz := (Q1.out.box _ List.mem_cons_self).free 5
    simp only [List.getElem?_cons_succ, List.getElem?_cons_zero] at hk
    have f0 := (S1.out.box _ (List.mem_cons_of_mem _ List.mem_cons_self)).cell 0
    have f1 := (S1.out.box _ (List.mem_cons_of_mem _ List.mem_cons_self)).cell 1
    have f2 := (S1.out.box _ (List.mem_cons_of_mem _ List.mem_cons_self)).cell 2
    have f3 := (S1.out.box _ (List.mem_cons_of_mem _ List.mem_cons_self)).cell 3
    simp only [List.getElem?_cons_succ, List.getElem?_cons_zero] at f0 f1 f2 f3
    have hia := ia_at W0.heap.size 5 (by omega)
    go_upto_region 1 with fail
    clear hW0
    go_wp2_with (first | refine wpList_store_row rfl _ _ _ rfl _ #[.int .i64 0, .int .i64 0, .int .i64 0, .int .i64 0, .int .i64 0, .int .i64 0, .int .i64 s, .slice a x c, .int .i64 t, .slice b y d] rfl rfl _ _ (P1.out.box _ List.mem_cons_self) (by kernel_rfl) rfl (by simp [Value.oneCell']) ?_ | refine wpList_load_row rfl _ _ rfl _ rfl _ _ _ _ (T1.out.box _ List.mem_cons_self) Tryz.underlying30 rfl (by kernel_rfl) ?_ | refine wpList_store_row rfl _ _ _ rfl _ #[.int .i64 0, .int .i64 0, .int .i64 0, .int .i64 0, .int .i64 0, .int .i64 n, .int .i64 s, .slice a x c, .int .i64 t, .slice b y d] rfl rfl _ _ (T1.out.box _ (List.mem_cons_of_mem _ List.mem_cons_self)) (by kernel_rfl) rfl (by simp [Value.oneCell']) ?_)
    refine bodyPost_ret (results_cell_row rfl _ _ _ _ _ (0, 0) _ rfl (V1.out.box _ (List.mem_cons_of_mem _ List.mem_cons_self)) Tryz.underlying30 rfl (by kernel_rfl)) rfl ⟨rfl, V1.out.below⟩
end Go.Proofs.YtmhdhabgdlefjaaGreatDoor.Un

namespace Go.Proofs.YtmhdhabgdlefjaaGreatDoor.Un
open Go.RowKit Bi Dm

/-- A unit and a truth value, as results. -/
def UVB (f : Nat → Int) (r : Rat) (bb : Bool) (w : World) (e : Ending) (w' : World) : Prop := ∃ s a n c b m d, e = .returned (.tuple #[.agg (uc f s (.slice a n c) 1 (.slice b m d)), .bool bb]) ∧ Fr w' s (.slice a n c) (.slice b m d) r ∧ RowKit.Below w.heap.size w w' ∧ Fresh w.heap.size (.slice a n c) ∧ Fresh w.heap.size (.slice b m d)
theorem sym_not (l : List UInt8) {v : Nat × Int × Rat} (h : symL l = some v) : symL l ≠ none := by rw [h]; exact fun h => by cases h
theorem no_bytes (s : ByteArray) (l : List UInt8) (h : s.data.toList ≠ l) : (s.toList == (⟨l.toArray⟩ : ByteArray).toList) = false ∧ (s.toList == l) = false ∧ (s.data.toList == l) = false := by
  rw [ByteArray.toList_eq, ByteArray.toList_eq]
  have : (s.data.toList == l) = false := by rw [beq_eq_false_iff_ne]; exact h
  exact ⟨this, this, this⟩

set_option maxHeartbeats 4000000 in
theorem u9sym_g (w : World) : Calls Tryz.prog 31 #[.string ⟨#[103]⟩] w (UVB (up zf 0 1) 1 true w) := by
  have s0 := ((Sf.start w).put [.int .i64 0, .int .i64 0, .int .i64 0, .int .i64 0, .int .i64 0, .int .i64 0, .int .i64 0, .slice none 0 0, .int .i64 0, .slice none 0 0] 30)
  try simp only [World.size_alloc] at s0
  have S0 := Lib.hid s0
  clear s0
  have HO := Lib.hid (fun W => rfint_r (z := 1) (r := 1) (by decide) rfl W)
  unfold UVB
  go_enter Tryz.func31, Tryz.ntmps31
  go_wp2_with fail
  refine (HO.out _).mono ?_
  rintro e w1 ⟨sx1, ax1, nx1, cx1, bx1, mx1, dx1, rfl, hr, hb, hf, hg⟩
  have E1 := Lib.hid hr.1.1
  have R1 := Lib.hid (S0.out.ret2 hb hr.1.2 hf hr.2.2 hg)
  have FF1 := Lib.hid (hf.mono S0.out.below.size)
  have FG1 := Lib.hid (hg.mono S0.out.below.size)
  clear hr hb hf hg
  have P1 := Lib.hid (R1.out.put [.int .i64 0, .slice none 0 0, .int .i64 0, .slice none 0 0] 28)
  have Q1 := Lib.hid (Sf.row (pre := []) P1.out [.int .i64 sx1, .slice ax1 nx1 cx1, .int .i64 1, .slice bx1 mx1 dx1])
  obtain ⟨q2, q3, q4, q5⟩ := Fb.cells4 (Q1.out.box (w1.heap.size, 28, [.int .i64 sx1, .slice ax1 nx1 cx1, .int .i64 1, .slice bx1 mx1 dx1]) mq0)
  go_wp2_with (first | refine wpList_store_row rfl _ _ _ rfl _ #[.int .i64 sx1, .slice ax1 nx1 cx1, .int .i64 1, .slice bx1 mx1 dx1] rfl rfl _ _ (P1.out.box _ List.mem_cons_self) (by kernel_rfl) rfl (by simp [Value.oneCell']) ?_)
  clear q2 q3 q4 q5
  refine (u9base_k 0 (by omega) 1 _ _ _ _ _ _ _ _ _).mono ?_
  rintro e w2 ⟨rfl, hb⟩
  have R2 := Lib.hid (Q1.out.later hb)
  clear hb
  have Q6 := Lib.hid (Sf.row (pre := [(w1.heap.size, 28, [.int .i64 sx1, .slice ax1 nx1 cx1, .int .i64 1, .slice bx1 mx1 dx1])]) R2.out [.int .i64 ((up zf 0 1) 0), .int .i64 ((up zf 0 1) 1), .int .i64 ((up zf 0 1) 2), .int .i64 ((up zf 0 1) 3), .int .i64 ((up zf 0 1) 4), .int .i64 ((up zf 0 1) 5), .int .i64 sx1, .slice ax1 nx1 cx1, .int .i64 1, .slice bx1 mx1 dx1])
  go_wp2_with (first | refine wpList_store_row rfl _ _ _ rfl _ #[.int .i64 ((up zf 0 1) 0), .int .i64 ((up zf 0 1) 1), .int .i64 ((up zf 0 1) 2), .int .i64 ((up zf 0 1) 3), .int .i64 ((up zf 0 1) 4), .int .i64 ((up zf 0 1) 5), .int .i64 sx1, .slice ax1 nx1 cx1, .int .i64 1, .slice bx1 mx1 dx1] rfl rfl _ _ (R2.out.box _ mq1) (by kernel_rfl) rfl (by simp [Value.oneCell']) ?_)
  refine bodyPost_ret (ret_row rfl _ _ _ _ rfl (run_loadVar_row _ _ _ _ _ (0, 0) _ (Q6.out.box _ mq1) Tryz.underlying30 rfl (by kernel_rfl))) rfl ⟨_, _, _, _, _, _, _, rfl, (Q6.out.fr (v := .slice ax1 nx1 cx1) (u := .slice bx1 mx1 dx1) (r := 1) mq0 mq1 E1.out), Q6.out.below, FF1.out, FG1.out⟩

set_option maxHeartbeats 4000000 in
theorem u9sym_t (w : World) : Calls Tryz.prog 31 #[.string ⟨#[116]⟩] w (UVB (up zf 0 1) 1000000 true w) := by
  have s0 := ((Sf.start w).put [.int .i64 0, .int .i64 0, .int .i64 0, .int .i64 0, .int .i64 0, .int .i64 0, .int .i64 0, .slice none 0 0, .int .i64 0, .slice none 0 0] 30)
  try simp only [World.size_alloc] at s0
  have S0 := Lib.hid s0
  clear s0
  have HO := Lib.hid (fun W => rfint_r (z := 1) (r := 1) (by decide) rfl W)
  have HK := Lib.hid (fun W => rfint_r (z := 1000000) (r := 1000000) (by decide) rfl W)
  unfold UVB
  go_enter Tryz.func31, Tryz.ntmps31
  go_wp2_with fail
  refine (HO.out _).mono ?_
  rintro e w1 ⟨sx1, ax1, nx1, cx1, bx1, mx1, dx1, rfl, hr, hb, hf, hg⟩
  have E1 := Lib.hid hr.1.1
  have R1 := Lib.hid (S0.out.ret2 hb hr.1.2 hf hr.2.2 hg)
  have FF1 := Lib.hid (hf.mono S0.out.below.size)
  have FG1 := Lib.hid (hg.mono S0.out.below.size)
  clear hr hb hf hg
  have P1 := Lib.hid (R1.out.put [.int .i64 0, .slice none 0 0, .int .i64 0, .slice none 0 0] 28)
  have Q1 := Lib.hid (Sf.row (pre := []) P1.out [.int .i64 sx1, .slice ax1 nx1 cx1, .int .i64 1, .slice bx1 mx1 dx1])
  go_wp2_with (first | refine wpList_store_row rfl _ _ _ rfl _ #[.int .i64 sx1, .slice ax1 nx1 cx1, .int .i64 1, .slice bx1 mx1 dx1] rfl rfl _ _ (P1.out.box _ List.mem_cons_self) (by kernel_rfl) rfl (by simp [Value.oneCell']) ?_)
  refine (HK.out _).mono ?_
  rintro e w2 ⟨sx2, ax2, nx2, cx2, bx2, mx2, dx2, rfl, hr, hb, hf, hg⟩
  have E2 := Lib.hid hr.1.1
  have R2 := Lib.hid (Q1.out.ret2 hb hr.1.2 hf hr.2.2 hg)
  have FF2 := Lib.hid (hf.mono Q1.out.below.size)
  have FG2 := Lib.hid (hg.mono Q1.out.below.size)
  clear hr hb hf hg
  go_wp2_with fail
  refine (u9base_k 0 (by omega) 1 _ _ _ _ _ _ _ _ _).mono ?_
  rintro e w3 ⟨rfl, hb⟩
  have R3 := Lib.hid (R2.out.later hb)
  clear hb
  have Q2 := Lib.hid (Sf.row (pre := [(w1.heap.size, 28, [.int .i64 sx1, .slice ax1 nx1 cx1, .int .i64 1, .slice bx1 mx1 dx1])]) R3.out [.int .i64 ((up zf 0 1) 0), .int .i64 ((up zf 0 1) 1), .int .i64 ((up zf 0 1) 2), .int .i64 ((up zf 0 1) 3), .int .i64 ((up zf 0 1) 4), .int .i64 ((up zf 0 1) 5), .int .i64 sx2, .slice ax2 nx2 cx2, .int .i64 1, .slice bx2 mx2 dx2])
  go_wp2_with (first | refine wpList_store_row rfl _ _ _ rfl _ #[.int .i64 ((up zf 0 1) 0), .int .i64 ((up zf 0 1) 1), .int .i64 ((up zf 0 1) 2), .int .i64 ((up zf 0 1) 3), .int .i64 ((up zf 0 1) 4), .int .i64 ((up zf 0 1) 5), .int .i64 sx2, .slice ax2 nx2 cx2, .int .i64 1, .slice bx2 mx2 dx2] rfl rfl _ _ (R3.out.box _ mq1) (by kernel_rfl) rfl (by simp [Value.oneCell']) ?_)
  refine bodyPost_ret (ret_row rfl _ _ _ _ rfl (run_loadVar_row _ _ _ _ _ (0, 0) _ (Q2.out.box _ mq1) Tryz.underlying30 rfl (by kernel_rfl))) rfl ⟨_, _, _, _, _, _, _, rfl, (Q2.out.fr (v := .slice ax2 nx2 cx2) (u := .slice bx2 mx2 dx2) (r := 1000000) mq0 mq1 E2.out), Q2.out.below, FF2.out, FG2.out⟩

set_option maxHeartbeats 4000000 in
theorem u9sym_m (w : World) : Calls Tryz.prog 31 #[.string ⟨#[109]⟩] w (UVB (up zf 1 1) 1 true w) := by
  have s0 := ((Sf.start w).put [.int .i64 0, .int .i64 0, .int .i64 0, .int .i64 0, .int .i64 0, .int .i64 0, .int .i64 0, .slice none 0 0, .int .i64 0, .slice none 0 0] 30)
  try simp only [World.size_alloc] at s0
  have S0 := Lib.hid s0
  clear s0
  have HO := Lib.hid (fun W => rfint_r (z := 1) (r := 1) (by decide) rfl W)
  unfold UVB
  go_enter Tryz.func31, Tryz.ntmps31
  go_wp2_with fail
  refine (HO.out _).mono ?_
  rintro e w1 ⟨sx1, ax1, nx1, cx1, bx1, mx1, dx1, rfl, hr, hb, hf, hg⟩
  have E1 := Lib.hid hr.1.1
  have R1 := Lib.hid (S0.out.ret2 hb hr.1.2 hf hr.2.2 hg)
  have FF1 := Lib.hid (hf.mono S0.out.below.size)
  have FG1 := Lib.hid (hg.mono S0.out.below.size)
  clear hr hb hf hg
  have P1 := Lib.hid (R1.out.put [.int .i64 0, .slice none 0 0, .int .i64 0, .slice none 0 0] 28)
  have Q1 := Lib.hid (Sf.row (pre := []) P1.out [.int .i64 sx1, .slice ax1 nx1 cx1, .int .i64 1, .slice bx1 mx1 dx1])
  obtain ⟨q2, q3, q4, q5⟩ := Fb.cells4 (Q1.out.box (w1.heap.size, 28, [.int .i64 sx1, .slice ax1 nx1 cx1, .int .i64 1, .slice bx1 mx1 dx1]) mq0)
  go_wp2_with (first | refine wpList_store_row rfl _ _ _ rfl _ #[.int .i64 sx1, .slice ax1 nx1 cx1, .int .i64 1, .slice bx1 mx1 dx1] rfl rfl _ _ (P1.out.box _ List.mem_cons_self) (by kernel_rfl) rfl (by simp [Value.oneCell']) ?_)
  clear q2 q3 q4 q5
  refine (u9base_k 1 (by omega) 1 _ _ _ _ _ _ _ _ _).mono ?_
  rintro e w2 ⟨rfl, hb⟩
  have R2 := Lib.hid (Q1.out.later hb)
  clear hb
  have Q6 := Lib.hid (Sf.row (pre := [(w1.heap.size, 28, [.int .i64 sx1, .slice ax1 nx1 cx1, .int .i64 1, .slice bx1 mx1 dx1])]) R2.out [.int .i64 ((up zf 1 1) 0), .int .i64 ((up zf 1 1) 1), .int .i64 ((up zf 1 1) 2), .int .i64 ((up zf 1 1) 3), .int .i64 ((up zf 1 1) 4), .int .i64 ((up zf 1 1) 5), .int .i64 sx1, .slice ax1 nx1 cx1, .int .i64 1, .slice bx1 mx1 dx1])
  go_wp2_with (first | refine wpList_store_row rfl _ _ _ rfl _ #[.int .i64 ((up zf 1 1) 0), .int .i64 ((up zf 1 1) 1), .int .i64 ((up zf 1 1) 2), .int .i64 ((up zf 1 1) 3), .int .i64 ((up zf 1 1) 4), .int .i64 ((up zf 1 1) 5), .int .i64 sx1, .slice ax1 nx1 cx1, .int .i64 1, .slice bx1 mx1 dx1] rfl rfl _ _ (R2.out.box _ mq1) (by kernel_rfl) rfl (by simp [Value.oneCell']) ?_)
  refine bodyPost_ret (ret_row rfl _ _ _ _ rfl (run_loadVar_row _ _ _ _ _ (0, 0) _ (Q6.out.box _ mq1) Tryz.underlying30 rfl (by kernel_rfl))) rfl ⟨_, _, _, _, _, _, _, rfl, (Q6.out.fr (v := .slice ax1 nx1 cx1) (u := .slice bx1 mx1 dx1) (r := 1) mq0 mq1 E1.out), Q6.out.below, FF1.out, FG1.out⟩

set_option maxHeartbeats 4000000 in
theorem u9sym_l (w : World) : Calls Tryz.prog 31 #[.string ⟨#[108]⟩] w (UVB (up zf 1 3) (1 / 1000) true w) := by
  have s0 := ((Sf.start w).put [.int .i64 0, .int .i64 0, .int .i64 0, .int .i64 0, .int .i64 0, .int .i64 0, .int .i64 0, .slice none 0 0, .int .i64 0, .slice none 0 0] 30)
  try simp only [World.size_alloc] at s0
  have S0 := Lib.hid s0
  clear s0
  have HO := Lib.hid (fun W => rfint_r (z := 1) (r := 1) (by decide) rfl W)
  have HK := Lib.hid (fun W => u9fraction_k (r := 1 / 1000) 1 1000 (by decide) (by decide) (by decide) (by rw [Rat.divInt_eq_div]; rfl) W)
  unfold UVB
  go_enter Tryz.func31, Tryz.ntmps31
  go_wp2_with fail
  refine (HO.out _).mono ?_
  rintro e w1 ⟨sx1, ax1, nx1, cx1, bx1, mx1, dx1, rfl, hr, hb, hf, hg⟩
  have E1 := Lib.hid hr.1.1
  have R1 := Lib.hid (S0.out.ret2 hb hr.1.2 hf hr.2.2 hg)
  have FF1 := Lib.hid (hf.mono S0.out.below.size)
  have FG1 := Lib.hid (hg.mono S0.out.below.size)
  clear hr hb hf hg
  have P1 := Lib.hid (R1.out.put [.int .i64 0, .slice none 0 0, .int .i64 0, .slice none 0 0] 28)
  have Q1 := Lib.hid (Sf.row (pre := []) P1.out [.int .i64 sx1, .slice ax1 nx1 cx1, .int .i64 1, .slice bx1 mx1 dx1])
  go_wp2_with (first | refine wpList_store_row rfl _ _ _ rfl _ #[.int .i64 sx1, .slice ax1 nx1 cx1, .int .i64 1, .slice bx1 mx1 dx1] rfl rfl _ _ (P1.out.box _ List.mem_cons_self) (by kernel_rfl) rfl (by simp [Value.oneCell']) ?_)
  refine (HK.out _).mono ?_
  rintro e w2 ⟨sx2, ax2, nx2, cx2, bx2, mx2, dx2, rfl, hr, hb, hf, hg⟩
  have E2 := Lib.hid hr.1.1
  have R2 := Lib.hid (Q1.out.ret2 hb hr.1.2 hf hr.2.2 hg)
  have FF2 := Lib.hid (hf.mono Q1.out.below.size)
  have FG2 := Lib.hid (hg.mono Q1.out.below.size)
  clear hr hb hf hg
  go_wp2_with fail
  refine (u9base_k 1 (by omega) 3 _ _ _ _ _ _ _ _ _).mono ?_
  rintro e w3 ⟨rfl, hb⟩
  have R3 := Lib.hid (R2.out.later hb)
  clear hb
  have Q2 := Lib.hid (Sf.row (pre := [(w1.heap.size, 28, [.int .i64 sx1, .slice ax1 nx1 cx1, .int .i64 1, .slice bx1 mx1 dx1])]) R3.out [.int .i64 ((up zf 1 3) 0), .int .i64 ((up zf 1 3) 1), .int .i64 ((up zf 1 3) 2), .int .i64 ((up zf 1 3) 3), .int .i64 ((up zf 1 3) 4), .int .i64 ((up zf 1 3) 5), .int .i64 sx2, .slice ax2 nx2 cx2, .int .i64 1, .slice bx2 mx2 dx2])
  go_wp2_with (first | refine wpList_store_row rfl _ _ _ rfl _ #[.int .i64 ((up zf 1 3) 0), .int .i64 ((up zf 1 3) 1), .int .i64 ((up zf 1 3) 2), .int .i64 ((up zf 1 3) 3), .int .i64 ((up zf 1 3) 4), .int .i64 ((up zf 1 3) 5), .int .i64 sx2, .slice ax2 nx2 cx2, .int .i64 1, .slice bx2 mx2 dx2] rfl rfl _ _ (R3.out.box _ mq1) (by kernel_rfl) rfl (by simp [Value.oneCell']) ?_)
  refine bodyPost_ret (ret_row rfl _ _ _ _ rfl (run_loadVar_row _ _ _ _ _ (0, 0) _ (Q2.out.box _ mq1) Tryz.underlying30 rfl (by kernel_rfl))) rfl ⟨_, _, _, _, _, _, _, rfl, (Q2.out.fr (v := .slice ax2 nx2 cx2) (u := .slice bx2 mx2 dx2) (r := (1 / 1000)) mq0 mq1 E2.out), Q2.out.below, FF2.out, FG2.out⟩

set_option maxHeartbeats 4000000 in
theorem u9sym_s (w : World) : Calls Tryz.prog 31 #[.string ⟨#[115]⟩] w (UVB (up zf 2 1) 1 true w) := by
  have s0 := ((Sf.start w).put [.int .i64 0, .int .i64 0, .int .i64 0, .int .i64 0, .int .i64 0, .int .i64 0, .int .i64 0, .slice none 0 0, .int .i64 0, .slice none 0 0] 30)
  try simp only [World.size_alloc] at s0
  have S0 := Lib.hid s0
  clear s0
  have HO := Lib.hid (fun W => rfint_r (z := 1) (r := 1) (by decide) rfl W)
  unfold UVB
  go_enter Tryz.func31, Tryz.ntmps31
  go_wp2_with fail
  refine (HO.out _).mono ?_
  rintro e w1 ⟨sx1, ax1, nx1, cx1, bx1, mx1, dx1, rfl, hr, hb, hf, hg⟩
  have E1 := Lib.hid hr.1.1
  have R1 := Lib.hid (S0.out.ret2 hb hr.1.2 hf hr.2.2 hg)
  have FF1 := Lib.hid (hf.mono S0.out.below.size)
  have FG1 := Lib.hid (hg.mono S0.out.below.size)
  clear hr hb hf hg
  have P1 := Lib.hid (R1.out.put [.int .i64 0, .slice none 0 0, .int .i64 0, .slice none 0 0] 28)
  have Q1 := Lib.hid (Sf.row (pre := []) P1.out [.int .i64 sx1, .slice ax1 nx1 cx1, .int .i64 1, .slice bx1 mx1 dx1])
  obtain ⟨q2, q3, q4, q5⟩ := Fb.cells4 (Q1.out.box (w1.heap.size, 28, [.int .i64 sx1, .slice ax1 nx1 cx1, .int .i64 1, .slice bx1 mx1 dx1]) mq0)
  go_wp2_with (first | refine wpList_store_row rfl _ _ _ rfl _ #[.int .i64 sx1, .slice ax1 nx1 cx1, .int .i64 1, .slice bx1 mx1 dx1] rfl rfl _ _ (P1.out.box _ List.mem_cons_self) (by kernel_rfl) rfl (by simp [Value.oneCell']) ?_)
  clear q2 q3 q4 q5
  refine (u9base_k 2 (by omega) 1 _ _ _ _ _ _ _ _ _).mono ?_
  rintro e w2 ⟨rfl, hb⟩
  have R2 := Lib.hid (Q1.out.later hb)
  clear hb
  have Q6 := Lib.hid (Sf.row (pre := [(w1.heap.size, 28, [.int .i64 sx1, .slice ax1 nx1 cx1, .int .i64 1, .slice bx1 mx1 dx1])]) R2.out [.int .i64 ((up zf 2 1) 0), .int .i64 ((up zf 2 1) 1), .int .i64 ((up zf 2 1) 2), .int .i64 ((up zf 2 1) 3), .int .i64 ((up zf 2 1) 4), .int .i64 ((up zf 2 1) 5), .int .i64 sx1, .slice ax1 nx1 cx1, .int .i64 1, .slice bx1 mx1 dx1])
  go_wp2_with (first | refine wpList_store_row rfl _ _ _ rfl _ #[.int .i64 ((up zf 2 1) 0), .int .i64 ((up zf 2 1) 1), .int .i64 ((up zf 2 1) 2), .int .i64 ((up zf 2 1) 3), .int .i64 ((up zf 2 1) 4), .int .i64 ((up zf 2 1) 5), .int .i64 sx1, .slice ax1 nx1 cx1, .int .i64 1, .slice bx1 mx1 dx1] rfl rfl _ _ (R2.out.box _ mq1) (by kernel_rfl) rfl (by simp [Value.oneCell']) ?_)
  refine bodyPost_ret (ret_row rfl _ _ _ _ rfl (run_loadVar_row _ _ _ _ _ (0, 0) _ (Q6.out.box _ mq1) Tryz.underlying30 rfl (by kernel_rfl))) rfl ⟨_, _, _, _, _, _, _, rfl, (Q6.out.fr (v := .slice ax1 nx1 cx1) (u := .slice bx1 mx1 dx1) (r := 1) mq0 mq1 E1.out), Q6.out.below, FF1.out, FG1.out⟩

set_option maxHeartbeats 4000000 in
theorem u9sym_h (w : World) : Calls Tryz.prog 31 #[.string ⟨#[104]⟩] w (UVB (up zf 2 1) 3600 true w) := by
  have s0 := ((Sf.start w).put [.int .i64 0, .int .i64 0, .int .i64 0, .int .i64 0, .int .i64 0, .int .i64 0, .int .i64 0, .slice none 0 0, .int .i64 0, .slice none 0 0] 30)
  try simp only [World.size_alloc] at s0
  have S0 := Lib.hid s0
  clear s0
  have HO := Lib.hid (fun W => rfint_r (z := 1) (r := 1) (by decide) rfl W)
  have HK := Lib.hid (fun W => rfint_r (z := 3600) (r := 3600) (by decide) rfl W)
  unfold UVB
  go_enter Tryz.func31, Tryz.ntmps31
  go_wp2_with fail
  refine (HO.out _).mono ?_
  rintro e w1 ⟨sx1, ax1, nx1, cx1, bx1, mx1, dx1, rfl, hr, hb, hf, hg⟩
  have E1 := Lib.hid hr.1.1
  have R1 := Lib.hid (S0.out.ret2 hb hr.1.2 hf hr.2.2 hg)
  have FF1 := Lib.hid (hf.mono S0.out.below.size)
  have FG1 := Lib.hid (hg.mono S0.out.below.size)
  clear hr hb hf hg
  have P1 := Lib.hid (R1.out.put [.int .i64 0, .slice none 0 0, .int .i64 0, .slice none 0 0] 28)
  have Q1 := Lib.hid (Sf.row (pre := []) P1.out [.int .i64 sx1, .slice ax1 nx1 cx1, .int .i64 1, .slice bx1 mx1 dx1])
  go_wp2_with (first | refine wpList_store_row rfl _ _ _ rfl _ #[.int .i64 sx1, .slice ax1 nx1 cx1, .int .i64 1, .slice bx1 mx1 dx1] rfl rfl _ _ (P1.out.box _ List.mem_cons_self) (by kernel_rfl) rfl (by simp [Value.oneCell']) ?_)
  refine (HK.out _).mono ?_
  rintro e w2 ⟨sx2, ax2, nx2, cx2, bx2, mx2, dx2, rfl, hr, hb, hf, hg⟩
  have E2 := Lib.hid hr.1.1
  have R2 := Lib.hid (Q1.out.ret2 hb hr.1.2 hf hr.2.2 hg)
  have FF2 := Lib.hid (hf.mono Q1.out.below.size)
  have FG2 := Lib.hid (hg.mono Q1.out.below.size)
  clear hr hb hf hg
  go_wp2_with fail
  refine (u9base_k 2 (by omega) 1 _ _ _ _ _ _ _ _ _).mono ?_
  rintro e w3 ⟨rfl, hb⟩
  have R3 := Lib.hid (R2.out.later hb)
  clear hb
  have Q2 := Lib.hid (Sf.row (pre := [(w1.heap.size, 28, [.int .i64 sx1, .slice ax1 nx1 cx1, .int .i64 1, .slice bx1 mx1 dx1])]) R3.out [.int .i64 ((up zf 2 1) 0), .int .i64 ((up zf 2 1) 1), .int .i64 ((up zf 2 1) 2), .int .i64 ((up zf 2 1) 3), .int .i64 ((up zf 2 1) 4), .int .i64 ((up zf 2 1) 5), .int .i64 sx2, .slice ax2 nx2 cx2, .int .i64 1, .slice bx2 mx2 dx2])
  go_wp2_with (first | refine wpList_store_row rfl _ _ _ rfl _ #[.int .i64 ((up zf 2 1) 0), .int .i64 ((up zf 2 1) 1), .int .i64 ((up zf 2 1) 2), .int .i64 ((up zf 2 1) 3), .int .i64 ((up zf 2 1) 4), .int .i64 ((up zf 2 1) 5), .int .i64 sx2, .slice ax2 nx2 cx2, .int .i64 1, .slice bx2 mx2 dx2] rfl rfl _ _ (R3.out.box _ mq1) (by kernel_rfl) rfl (by simp [Value.oneCell']) ?_)
  refine bodyPost_ret (ret_row rfl _ _ _ _ rfl (run_loadVar_row _ _ _ _ _ (0, 0) _ (Q2.out.box _ mq1) Tryz.underlying30 rfl (by kernel_rfl))) rfl ⟨_, _, _, _, _, _, _, rfl, (Q2.out.fr (v := .slice ax2 nx2 cx2) (u := .slice bx2 mx2 dx2) (r := 3600) mq0 mq1 E2.out), Q2.out.below, FF2.out, FG2.out⟩

set_option maxHeartbeats 4000000 in
theorem u9sym_d (w : World) : Calls Tryz.prog 31 #[.string ⟨#[100]⟩] w (UVB (up zf 2 1) 86400 true w) := by
  have s0 := ((Sf.start w).put [.int .i64 0, .int .i64 0, .int .i64 0, .int .i64 0, .int .i64 0, .int .i64 0, .int .i64 0, .slice none 0 0, .int .i64 0, .slice none 0 0] 30)
  try simp only [World.size_alloc] at s0
  have S0 := Lib.hid s0
  clear s0
  have HO := Lib.hid (fun W => rfint_r (z := 1) (r := 1) (by decide) rfl W)
  have HK := Lib.hid (fun W => rfint_r (z := 86400) (r := 86400) (by decide) rfl W)
  unfold UVB
  go_enter Tryz.func31, Tryz.ntmps31
  go_wp2_with fail
  refine (HO.out _).mono ?_
  rintro e w1 ⟨sx1, ax1, nx1, cx1, bx1, mx1, dx1, rfl, hr, hb, hf, hg⟩
  have E1 := Lib.hid hr.1.1
  have R1 := Lib.hid (S0.out.ret2 hb hr.1.2 hf hr.2.2 hg)
  have FF1 := Lib.hid (hf.mono S0.out.below.size)
  have FG1 := Lib.hid (hg.mono S0.out.below.size)
  clear hr hb hf hg
  have P1 := Lib.hid (R1.out.put [.int .i64 0, .slice none 0 0, .int .i64 0, .slice none 0 0] 28)
  have Q1 := Lib.hid (Sf.row (pre := []) P1.out [.int .i64 sx1, .slice ax1 nx1 cx1, .int .i64 1, .slice bx1 mx1 dx1])
  go_wp2_with (first | refine wpList_store_row rfl _ _ _ rfl _ #[.int .i64 sx1, .slice ax1 nx1 cx1, .int .i64 1, .slice bx1 mx1 dx1] rfl rfl _ _ (P1.out.box _ List.mem_cons_self) (by kernel_rfl) rfl (by simp [Value.oneCell']) ?_)
  refine (HK.out _).mono ?_
  rintro e w2 ⟨sx2, ax2, nx2, cx2, bx2, mx2, dx2, rfl, hr, hb, hf, hg⟩
  have E2 := Lib.hid hr.1.1
  have R2 := Lib.hid (Q1.out.ret2 hb hr.1.2 hf hr.2.2 hg)
  have FF2 := Lib.hid (hf.mono Q1.out.below.size)
  have FG2 := Lib.hid (hg.mono Q1.out.below.size)
  clear hr hb hf hg
  go_wp2_with fail
  refine (u9base_k 2 (by omega) 1 _ _ _ _ _ _ _ _ _).mono ?_
  rintro e w3 ⟨rfl, hb⟩
  have R3 := Lib.hid (R2.out.later hb)
  clear hb
  have Q2 := Lib.hid (Sf.row (pre := [(w1.heap.size, 28, [.int .i64 sx1, .slice ax1 nx1 cx1, .int .i64 1, .slice bx1 mx1 dx1])]) R3.out [.int .i64 ((up zf 2 1) 0), .int .i64 ((up zf 2 1) 1), .int .i64 ((up zf 2 1) 2), .int .i64 ((up zf 2 1) 3), .int .i64 ((up zf 2 1) 4), .int .i64 ((up zf 2 1) 5), .int .i64 sx2, .slice ax2 nx2 cx2, .int .i64 1, .slice bx2 mx2 dx2])
  go_wp2_with (first | refine wpList_store_row rfl _ _ _ rfl _ #[.int .i64 ((up zf 2 1) 0), .int .i64 ((up zf 2 1) 1), .int .i64 ((up zf 2 1) 2), .int .i64 ((up zf 2 1) 3), .int .i64 ((up zf 2 1) 4), .int .i64 ((up zf 2 1) 5), .int .i64 sx2, .slice ax2 nx2 cx2, .int .i64 1, .slice bx2 mx2 dx2] rfl rfl _ _ (R3.out.box _ mq1) (by kernel_rfl) rfl (by simp [Value.oneCell']) ?_)
  refine bodyPost_ret (ret_row rfl _ _ _ _ rfl (run_loadVar_row _ _ _ _ _ (0, 0) _ (Q2.out.box _ mq1) Tryz.underlying30 rfl (by kernel_rfl))) rfl ⟨_, _, _, _, _, _, _, rfl, (Q2.out.fr (v := .slice ax2 nx2 cx2) (u := .slice bx2 mx2 dx2) (r := 86400) mq0 mq1 E2.out), Q2.out.below, FF2.out, FG2.out⟩

set_option maxHeartbeats 4000000 in
theorem u9sym_J (w : World) : Calls Tryz.prog 31 #[.string ⟨#[74]⟩] w (UVB (up zf 3 1) 1 true w) := by
  have s0 := ((Sf.start w).put [.int .i64 0, .int .i64 0, .int .i64 0, .int .i64 0, .int .i64 0, .int .i64 0, .int .i64 0, .slice none 0 0, .int .i64 0, .slice none 0 0] 30)
  try simp only [World.size_alloc] at s0
  have S0 := Lib.hid s0
  clear s0
  have HO := Lib.hid (fun W => rfint_r (z := 1) (r := 1) (by decide) rfl W)
  unfold UVB
  go_enter Tryz.func31, Tryz.ntmps31
  go_wp2_with fail
  refine (HO.out _).mono ?_
  rintro e w1 ⟨sx1, ax1, nx1, cx1, bx1, mx1, dx1, rfl, hr, hb, hf, hg⟩
  have E1 := Lib.hid hr.1.1
  have R1 := Lib.hid (S0.out.ret2 hb hr.1.2 hf hr.2.2 hg)
  have FF1 := Lib.hid (hf.mono S0.out.below.size)
  have FG1 := Lib.hid (hg.mono S0.out.below.size)
  clear hr hb hf hg
  have P1 := Lib.hid (R1.out.put [.int .i64 0, .slice none 0 0, .int .i64 0, .slice none 0 0] 28)
  have Q1 := Lib.hid (Sf.row (pre := []) P1.out [.int .i64 sx1, .slice ax1 nx1 cx1, .int .i64 1, .slice bx1 mx1 dx1])
  obtain ⟨q2, q3, q4, q5⟩ := Fb.cells4 (Q1.out.box (w1.heap.size, 28, [.int .i64 sx1, .slice ax1 nx1 cx1, .int .i64 1, .slice bx1 mx1 dx1]) mq0)
  go_wp2_with (first | refine wpList_store_row rfl _ _ _ rfl _ #[.int .i64 sx1, .slice ax1 nx1 cx1, .int .i64 1, .slice bx1 mx1 dx1] rfl rfl _ _ (P1.out.box _ List.mem_cons_self) (by kernel_rfl) rfl (by simp [Value.oneCell']) ?_)
  clear q2 q3 q4 q5
  refine (u9base_k 3 (by omega) 1 _ _ _ _ _ _ _ _ _).mono ?_
  rintro e w2 ⟨rfl, hb⟩
  have R2 := Lib.hid (Q1.out.later hb)
  clear hb
  have Q6 := Lib.hid (Sf.row (pre := [(w1.heap.size, 28, [.int .i64 sx1, .slice ax1 nx1 cx1, .int .i64 1, .slice bx1 mx1 dx1])]) R2.out [.int .i64 ((up zf 3 1) 0), .int .i64 ((up zf 3 1) 1), .int .i64 ((up zf 3 1) 2), .int .i64 ((up zf 3 1) 3), .int .i64 ((up zf 3 1) 4), .int .i64 ((up zf 3 1) 5), .int .i64 sx1, .slice ax1 nx1 cx1, .int .i64 1, .slice bx1 mx1 dx1])
  go_wp2_with (first | refine wpList_store_row rfl _ _ _ rfl _ #[.int .i64 ((up zf 3 1) 0), .int .i64 ((up zf 3 1) 1), .int .i64 ((up zf 3 1) 2), .int .i64 ((up zf 3 1) 3), .int .i64 ((up zf 3 1) 4), .int .i64 ((up zf 3 1) 5), .int .i64 sx1, .slice ax1 nx1 cx1, .int .i64 1, .slice bx1 mx1 dx1] rfl rfl _ _ (R2.out.box _ mq1) (by kernel_rfl) rfl (by simp [Value.oneCell']) ?_)
  refine bodyPost_ret (ret_row rfl _ _ _ _ rfl (run_loadVar_row _ _ _ _ _ (0, 0) _ (Q6.out.box _ mq1) Tryz.underlying30 rfl (by kernel_rfl))) rfl ⟨_, _, _, _, _, _, _, rfl, (Q6.out.fr (v := .slice ax1 nx1 cx1) (u := .slice bx1 mx1 dx1) (r := 1) mq0 mq1 E1.out), Q6.out.below, FF1.out, FG1.out⟩

set_option maxHeartbeats 4000000 in
theorem u9sym_Wh (w : World) : Calls Tryz.prog 31 #[.string ⟨#[87, 104]⟩] w (UVB (up zf 3 1) 3600 true w) := by
  have s0 := ((Sf.start w).put [.int .i64 0, .int .i64 0, .int .i64 0, .int .i64 0, .int .i64 0, .int .i64 0, .int .i64 0, .slice none 0 0, .int .i64 0, .slice none 0 0] 30)
  try simp only [World.size_alloc] at s0
  have S0 := Lib.hid s0
  clear s0
  have HO := Lib.hid (fun W => rfint_r (z := 1) (r := 1) (by decide) rfl W)
  have HK := Lib.hid (fun W => rfint_r (z := 3600) (r := 3600) (by decide) rfl W)
  unfold UVB
  go_enter Tryz.func31, Tryz.ntmps31
  go_wp2_with fail
  refine (HO.out _).mono ?_
  rintro e w1 ⟨sx1, ax1, nx1, cx1, bx1, mx1, dx1, rfl, hr, hb, hf, hg⟩
  have E1 := Lib.hid hr.1.1
  have R1 := Lib.hid (S0.out.ret2 hb hr.1.2 hf hr.2.2 hg)
  have FF1 := Lib.hid (hf.mono S0.out.below.size)
  have FG1 := Lib.hid (hg.mono S0.out.below.size)
  clear hr hb hf hg
  have P1 := Lib.hid (R1.out.put [.int .i64 0, .slice none 0 0, .int .i64 0, .slice none 0 0] 28)
  have Q1 := Lib.hid (Sf.row (pre := []) P1.out [.int .i64 sx1, .slice ax1 nx1 cx1, .int .i64 1, .slice bx1 mx1 dx1])
  go_wp2_with (first | refine wpList_store_row rfl _ _ _ rfl _ #[.int .i64 sx1, .slice ax1 nx1 cx1, .int .i64 1, .slice bx1 mx1 dx1] rfl rfl _ _ (P1.out.box _ List.mem_cons_self) (by kernel_rfl) rfl (by simp [Value.oneCell']) ?_)
  refine (HK.out _).mono ?_
  rintro e w2 ⟨sx2, ax2, nx2, cx2, bx2, mx2, dx2, rfl, hr, hb, hf, hg⟩
  have E2 := Lib.hid hr.1.1
  have R2 := Lib.hid (Q1.out.ret2 hb hr.1.2 hf hr.2.2 hg)
  have FF2 := Lib.hid (hf.mono Q1.out.below.size)
  have FG2 := Lib.hid (hg.mono Q1.out.below.size)
  clear hr hb hf hg
  go_wp2_with fail
  refine (u9base_k 3 (by omega) 1 _ _ _ _ _ _ _ _ _).mono ?_
  rintro e w3 ⟨rfl, hb⟩
  have R3 := Lib.hid (R2.out.later hb)
  clear hb
  have Q2 := Lib.hid (Sf.row (pre := [(w1.heap.size, 28, [.int .i64 sx1, .slice ax1 nx1 cx1, .int .i64 1, .slice bx1 mx1 dx1])]) R3.out [.int .i64 ((up zf 3 1) 0), .int .i64 ((up zf 3 1) 1), .int .i64 ((up zf 3 1) 2), .int .i64 ((up zf 3 1) 3), .int .i64 ((up zf 3 1) 4), .int .i64 ((up zf 3 1) 5), .int .i64 sx2, .slice ax2 nx2 cx2, .int .i64 1, .slice bx2 mx2 dx2])
  go_wp2_with (first | refine wpList_store_row rfl _ _ _ rfl _ #[.int .i64 ((up zf 3 1) 0), .int .i64 ((up zf 3 1) 1), .int .i64 ((up zf 3 1) 2), .int .i64 ((up zf 3 1) 3), .int .i64 ((up zf 3 1) 4), .int .i64 ((up zf 3 1) 5), .int .i64 sx2, .slice ax2 nx2 cx2, .int .i64 1, .slice bx2 mx2 dx2] rfl rfl _ _ (R3.out.box _ mq1) (by kernel_rfl) rfl (by simp [Value.oneCell']) ?_)
  refine bodyPost_ret (ret_row rfl _ _ _ _ rfl (run_loadVar_row _ _ _ _ _ (0, 0) _ (Q2.out.box _ mq1) Tryz.underlying30 rfl (by kernel_rfl))) rfl ⟨_, _, _, _, _, _, _, rfl, (Q2.out.fr (v := .slice ax2 nx2 cx2) (u := .slice bx2 mx2 dx2) (r := 3600) mq0 mq1 E2.out), Q2.out.below, FF2.out, FG2.out⟩

set_option maxHeartbeats 4000000 in
theorem u9sym_cent (w : World) : Calls Tryz.prog 31 #[.string ⟨#[99, 101, 110, 116]⟩] w (UVB (up zf 4 1) 1 true w) := by
  have s0 := ((Sf.start w).put [.int .i64 0, .int .i64 0, .int .i64 0, .int .i64 0, .int .i64 0, .int .i64 0, .int .i64 0, .slice none 0 0, .int .i64 0, .slice none 0 0] 30)
  try simp only [World.size_alloc] at s0
  have S0 := Lib.hid s0
  clear s0
  have HO := Lib.hid (fun W => rfint_r (z := 1) (r := 1) (by decide) rfl W)
  unfold UVB
  go_enter Tryz.func31, Tryz.ntmps31
  go_wp2_with fail
  refine (HO.out _).mono ?_
  rintro e w1 ⟨sx1, ax1, nx1, cx1, bx1, mx1, dx1, rfl, hr, hb, hf, hg⟩
  have E1 := Lib.hid hr.1.1
  have R1 := Lib.hid (S0.out.ret2 hb hr.1.2 hf hr.2.2 hg)
  have FF1 := Lib.hid (hf.mono S0.out.below.size)
  have FG1 := Lib.hid (hg.mono S0.out.below.size)
  clear hr hb hf hg
  have P1 := Lib.hid (R1.out.put [.int .i64 0, .slice none 0 0, .int .i64 0, .slice none 0 0] 28)
  have Q1 := Lib.hid (Sf.row (pre := []) P1.out [.int .i64 sx1, .slice ax1 nx1 cx1, .int .i64 1, .slice bx1 mx1 dx1])
  obtain ⟨q2, q3, q4, q5⟩ := Fb.cells4 (Q1.out.box (w1.heap.size, 28, [.int .i64 sx1, .slice ax1 nx1 cx1, .int .i64 1, .slice bx1 mx1 dx1]) mq0)
  go_wp2_with (first | refine wpList_store_row rfl _ _ _ rfl _ #[.int .i64 sx1, .slice ax1 nx1 cx1, .int .i64 1, .slice bx1 mx1 dx1] rfl rfl _ _ (P1.out.box _ List.mem_cons_self) (by kernel_rfl) rfl (by simp [Value.oneCell']) ?_)
  clear q2 q3 q4 q5
  refine (u9base_k 4 (by omega) 1 _ _ _ _ _ _ _ _ _).mono ?_
  rintro e w2 ⟨rfl, hb⟩
  have R2 := Lib.hid (Q1.out.later hb)
  clear hb
  have Q6 := Lib.hid (Sf.row (pre := [(w1.heap.size, 28, [.int .i64 sx1, .slice ax1 nx1 cx1, .int .i64 1, .slice bx1 mx1 dx1])]) R2.out [.int .i64 ((up zf 4 1) 0), .int .i64 ((up zf 4 1) 1), .int .i64 ((up zf 4 1) 2), .int .i64 ((up zf 4 1) 3), .int .i64 ((up zf 4 1) 4), .int .i64 ((up zf 4 1) 5), .int .i64 sx1, .slice ax1 nx1 cx1, .int .i64 1, .slice bx1 mx1 dx1])
  go_wp2_with (first | refine wpList_store_row rfl _ _ _ rfl _ #[.int .i64 ((up zf 4 1) 0), .int .i64 ((up zf 4 1) 1), .int .i64 ((up zf 4 1) 2), .int .i64 ((up zf 4 1) 3), .int .i64 ((up zf 4 1) 4), .int .i64 ((up zf 4 1) 5), .int .i64 sx1, .slice ax1 nx1 cx1, .int .i64 1, .slice bx1 mx1 dx1] rfl rfl _ _ (R2.out.box _ mq1) (by kernel_rfl) rfl (by simp [Value.oneCell']) ?_)
  refine bodyPost_ret (ret_row rfl _ _ _ _ rfl (run_loadVar_row _ _ _ _ _ (0, 0) _ (Q6.out.box _ mq1) Tryz.underlying30 rfl (by kernel_rfl))) rfl ⟨_, _, _, _, _, _, _, rfl, (Q6.out.fr (v := .slice ax1 nx1 cx1) (u := .slice bx1 mx1 dx1) (r := 1) mq0 mq1 E1.out), Q6.out.below, FF1.out, FG1.out⟩

set_option maxHeartbeats 4000000 in
theorem u9sym_eur (w : World) : Calls Tryz.prog 31 #[.string ⟨#[101, 117, 114]⟩] w (UVB (up zf 4 1) 100 true w) := by
  have s0 := ((Sf.start w).put [.int .i64 0, .int .i64 0, .int .i64 0, .int .i64 0, .int .i64 0, .int .i64 0, .int .i64 0, .slice none 0 0, .int .i64 0, .slice none 0 0] 30)
  try simp only [World.size_alloc] at s0
  have S0 := Lib.hid s0
  clear s0
  have HO := Lib.hid (fun W => rfint_r (z := 1) (r := 1) (by decide) rfl W)
  have HK := Lib.hid (fun W => rfint_r (z := 100) (r := 100) (by decide) rfl W)
  unfold UVB
  go_enter Tryz.func31, Tryz.ntmps31
  go_wp2_with fail
  refine (HO.out _).mono ?_
  rintro e w1 ⟨sx1, ax1, nx1, cx1, bx1, mx1, dx1, rfl, hr, hb, hf, hg⟩
  have E1 := Lib.hid hr.1.1
  have R1 := Lib.hid (S0.out.ret2 hb hr.1.2 hf hr.2.2 hg)
  have FF1 := Lib.hid (hf.mono S0.out.below.size)
  have FG1 := Lib.hid (hg.mono S0.out.below.size)
  clear hr hb hf hg
  have P1 := Lib.hid (R1.out.put [.int .i64 0, .slice none 0 0, .int .i64 0, .slice none 0 0] 28)
  have Q1 := Lib.hid (Sf.row (pre := []) P1.out [.int .i64 sx1, .slice ax1 nx1 cx1, .int .i64 1, .slice bx1 mx1 dx1])
  go_wp2_with (first | refine wpList_store_row rfl _ _ _ rfl _ #[.int .i64 sx1, .slice ax1 nx1 cx1, .int .i64 1, .slice bx1 mx1 dx1] rfl rfl _ _ (P1.out.box _ List.mem_cons_self) (by kernel_rfl) rfl (by simp [Value.oneCell']) ?_)
  refine (HK.out _).mono ?_
  rintro e w2 ⟨sx2, ax2, nx2, cx2, bx2, mx2, dx2, rfl, hr, hb, hf, hg⟩
  have E2 := Lib.hid hr.1.1
  have R2 := Lib.hid (Q1.out.ret2 hb hr.1.2 hf hr.2.2 hg)
  have FF2 := Lib.hid (hf.mono Q1.out.below.size)
  have FG2 := Lib.hid (hg.mono Q1.out.below.size)
  clear hr hb hf hg
  go_wp2_with fail
  refine (u9base_k 4 (by omega) 1 _ _ _ _ _ _ _ _ _).mono ?_
  rintro e w3 ⟨rfl, hb⟩
  have R3 := Lib.hid (R2.out.later hb)
  clear hb
  have Q2 := Lib.hid (Sf.row (pre := [(w1.heap.size, 28, [.int .i64 sx1, .slice ax1 nx1 cx1, .int .i64 1, .slice bx1 mx1 dx1])]) R3.out [.int .i64 ((up zf 4 1) 0), .int .i64 ((up zf 4 1) 1), .int .i64 ((up zf 4 1) 2), .int .i64 ((up zf 4 1) 3), .int .i64 ((up zf 4 1) 4), .int .i64 ((up zf 4 1) 5), .int .i64 sx2, .slice ax2 nx2 cx2, .int .i64 1, .slice bx2 mx2 dx2])
  go_wp2_with (first | refine wpList_store_row rfl _ _ _ rfl _ #[.int .i64 ((up zf 4 1) 0), .int .i64 ((up zf 4 1) 1), .int .i64 ((up zf 4 1) 2), .int .i64 ((up zf 4 1) 3), .int .i64 ((up zf 4 1) 4), .int .i64 ((up zf 4 1) 5), .int .i64 sx2, .slice ax2 nx2 cx2, .int .i64 1, .slice bx2 mx2 dx2] rfl rfl _ _ (R3.out.box _ mq1) (by kernel_rfl) rfl (by simp [Value.oneCell']) ?_)
  refine bodyPost_ret (ret_row rfl _ _ _ _ rfl (run_loadVar_row _ _ _ _ _ (0, 0) _ (Q2.out.box _ mq1) Tryz.underlying30 rfl (by kernel_rfl))) rfl ⟨_, _, _, _, _, _, _, rfl, (Q2.out.fr (v := .slice ax2 nx2 cx2) (u := .slice bx2 mx2 dx2) (r := 100) mq0 mq1 E2.out), Q2.out.below, FF2.out, FG2.out⟩

set_option maxHeartbeats 4000000 in
theorem u9sym_pc (w : World) : Calls Tryz.prog 31 #[.string ⟨#[112, 99]⟩] w (UVB (up zf 5 1) 1 true w) := by
  have s0 := ((Sf.start w).put [.int .i64 0, .int .i64 0, .int .i64 0, .int .i64 0, .int .i64 0, .int .i64 0, .int .i64 0, .slice none 0 0, .int .i64 0, .slice none 0 0] 30)
  try simp only [World.size_alloc] at s0
  have S0 := Lib.hid s0
  clear s0
  have HO := Lib.hid (fun W => rfint_r (z := 1) (r := 1) (by decide) rfl W)
  unfold UVB
  go_enter Tryz.func31, Tryz.ntmps31
  go_wp2_with fail
  refine (HO.out _).mono ?_
  rintro e w1 ⟨sx1, ax1, nx1, cx1, bx1, mx1, dx1, rfl, hr, hb, hf, hg⟩
  have E1 := Lib.hid hr.1.1
  have R1 := Lib.hid (S0.out.ret2 hb hr.1.2 hf hr.2.2 hg)
  have FF1 := Lib.hid (hf.mono S0.out.below.size)
  have FG1 := Lib.hid (hg.mono S0.out.below.size)
  clear hr hb hf hg
  have P1 := Lib.hid (R1.out.put [.int .i64 0, .slice none 0 0, .int .i64 0, .slice none 0 0] 28)
  have Q1 := Lib.hid (Sf.row (pre := []) P1.out [.int .i64 sx1, .slice ax1 nx1 cx1, .int .i64 1, .slice bx1 mx1 dx1])
  obtain ⟨q2, q3, q4, q5⟩ := Fb.cells4 (Q1.out.box (w1.heap.size, 28, [.int .i64 sx1, .slice ax1 nx1 cx1, .int .i64 1, .slice bx1 mx1 dx1]) mq0)
  go_wp2_with (first | refine wpList_store_row rfl _ _ _ rfl _ #[.int .i64 sx1, .slice ax1 nx1 cx1, .int .i64 1, .slice bx1 mx1 dx1] rfl rfl _ _ (P1.out.box _ List.mem_cons_self) (by kernel_rfl) rfl (by simp [Value.oneCell']) ?_)
  clear q2 q3 q4 q5
  refine (u9base_k 5 (by omega) 1 _ _ _ _ _ _ _ _ _).mono ?_
  rintro e w2 ⟨rfl, hb⟩
  have R2 := Lib.hid (Q1.out.later hb)
  clear hb
  have Q6 := Lib.hid (Sf.row (pre := [(w1.heap.size, 28, [.int .i64 sx1, .slice ax1 nx1 cx1, .int .i64 1, .slice bx1 mx1 dx1])]) R2.out [.int .i64 ((up zf 5 1) 0), .int .i64 ((up zf 5 1) 1), .int .i64 ((up zf 5 1) 2), .int .i64 ((up zf 5 1) 3), .int .i64 ((up zf 5 1) 4), .int .i64 ((up zf 5 1) 5), .int .i64 sx1, .slice ax1 nx1 cx1, .int .i64 1, .slice bx1 mx1 dx1])
  go_wp2_with (first | refine wpList_store_row rfl _ _ _ rfl _ #[.int .i64 ((up zf 5 1) 0), .int .i64 ((up zf 5 1) 1), .int .i64 ((up zf 5 1) 2), .int .i64 ((up zf 5 1) 3), .int .i64 ((up zf 5 1) 4), .int .i64 ((up zf 5 1) 5), .int .i64 sx1, .slice ax1 nx1 cx1, .int .i64 1, .slice bx1 mx1 dx1] rfl rfl _ _ (R2.out.box _ mq1) (by kernel_rfl) rfl (by simp [Value.oneCell']) ?_)
  refine bodyPost_ret (ret_row rfl _ _ _ _ rfl (run_loadVar_row _ _ _ _ _ (0, 0) _ (Q6.out.box _ mq1) Tryz.underlying30 rfl (by kernel_rfl))) rfl ⟨_, _, _, _, _, _, _, rfl, (Q6.out.fr (v := .slice ax1 nx1 cx1) (u := .slice bx1 mx1 dx1) (r := 1) mq0 mq1 E1.out), Q6.out.below, FF1.out, FG1.out⟩

set_option maxHeartbeats 8000000 in
theorem u9sym_none (s : ByteArray) (h : symL s.data.toList = none) (w : World) : Calls Tryz.prog 31 #[.string s] w (Gives (.tuple #[.agg (uc zf 0 (.slice none 0 0) 0 (.slice none 0 0)), .bool false]) w) := by
  obtain ⟨pg, qg, rg⟩ := no_bytes s [103] (by intro e; rw [e] at h; exact sym_not _ rfl h)
  obtain ⟨pt, qt, rt⟩ := no_bytes s [116] (by intro e; rw [e] at h; exact sym_not _ rfl h)
  obtain ⟨pm, qm, rm⟩ := no_bytes s [109] (by intro e; rw [e] at h; exact sym_not _ rfl h)
  obtain ⟨pl, ql, rl⟩ := no_bytes s [108] (by intro e; rw [e] at h; exact sym_not _ rfl h)
  obtain ⟨ps, qs, rs⟩ := no_bytes s [115] (by intro e; rw [e] at h; exact sym_not _ rfl h)
  obtain ⟨ph, qh, rh⟩ := no_bytes s [104] (by intro e; rw [e] at h; exact sym_not _ rfl h)
  obtain ⟨pd, qd, rd⟩ := no_bytes s [100] (by intro e; rw [e] at h; exact sym_not _ rfl h)
  obtain ⟨pJ, qJ, rJ⟩ := no_bytes s [74] (by intro e; rw [e] at h; exact sym_not _ rfl h)
  obtain ⟨pWh, qWh, rWh⟩ := no_bytes s [87, 104] (by intro e; rw [e] at h; exact sym_not _ rfl h)
  obtain ⟨pcent, qcent, rcent⟩ := no_bytes s [99, 101, 110, 116] (by intro e; rw [e] at h; exact sym_not _ rfl h)
  obtain ⟨peur, qeur, reur⟩ := no_bytes s [101, 117, 114] (by intro e; rw [e] at h; exact sym_not _ rfl h)
  obtain ⟨ppc, qpc, rpc⟩ := no_bytes s [112, 99] (by intro e; rw [e] at h; exact sym_not _ rfl h)
  have s0 := ((Sf.start w).put [.int .i64 0, .int .i64 0, .int .i64 0, .int .i64 0, .int .i64 0, .int .i64 0, .int .i64 0, .slice none 0 0, .int .i64 0, .slice none 0 0] 30)
  try simp only [World.size_alloc] at s0
  have S0 := Lib.hid s0
  clear s0
  have HO := Lib.hid (fun W => rfint_r (z := 1) (r := 1) (by decide) rfl W)
  clear h
  unfold uc
  clear pg rg
  clear pt rt
  clear pm rm
  clear pl rl
  clear ps rs
  clear ph rh
  clear pd rd
  clear pJ rJ
  clear pWh rWh
  clear pcent rcent
  clear peur reur
  clear ppc rpc
  have Hd := Lib.hid qd
  clear qd
  have HJ := Lib.hid qJ
  clear qJ
  have HWh := Lib.hid qWh
  clear qWh
  have Hcent := Lib.hid qcent
  clear qcent
  have Heur := Lib.hid qeur
  clear qeur
  have Hpc := Lib.hid qpc
  clear qpc
  go_enter Tryz.func31, Tryz.ntmps31
  go_wp2_with fail
  refine (HO.out _).mono ?_
  rintro e w1 ⟨sx1, ax1, nx1, cx1, bx1, mx1, dx1, rfl, hr, hb, hf, hg⟩
  have E1 := Lib.hid hr.1.1
  have R1 := Lib.hid (S0.out.ret2 hb hr.1.2 hf hr.2.2 hg)
  have FF1 := Lib.hid (hf.mono S0.out.below.size)
  have FG1 := Lib.hid (hg.mono S0.out.below.size)
  clear hr hb hf hg
  have P1 := Lib.hid (R1.out.put [.int .i64 0, .slice none 0 0, .int .i64 0, .slice none 0 0] 28)
  have Q1 := Lib.hid (Sf.row (pre := []) P1.out [.int .i64 sx1, .slice ax1 nx1 cx1, .int .i64 1, .slice bx1 mx1 dx1])
  have Q2 := Lib.hid (Sf.row (pre := [(w1.heap.size, 28, [.int .i64 sx1, .slice ax1 nx1 cx1, .int .i64 1, .slice bx1 mx1 dx1])]) Q1.out [.int .i64 0, .int .i64 0, .int .i64 0, .int .i64 0, .int .i64 0, .int .i64 0, .int .i64 0, .slice none 0 0, .int .i64 0, .slice none 0 0])
  go_wp2_with (first | refine wpList_store_row rfl _ _ _ rfl _ #[.int .i64 sx1, .slice ax1 nx1 cx1, .int .i64 1, .slice bx1 mx1 dx1] rfl rfl _ _ (P1.out.box _ List.mem_cons_self) (by kernel_rfl) rfl (by simp [Value.oneCell']) ?_ | exact absurd (Hd.out.symm.trans ‹(s.toList == [100]) = true›) Bool.false_ne_true | exact absurd (HJ.out.symm.trans ‹(s.toList == [74]) = true›) Bool.false_ne_true | exact absurd (HWh.out.symm.trans ‹(s.toList == [87, 104]) = true›) Bool.false_ne_true | exact absurd (Hcent.out.symm.trans ‹(s.toList == [99, 101, 110, 116]) = true›) Bool.false_ne_true | exact absurd (Heur.out.symm.trans ‹(s.toList == [101, 117, 114]) = true›) Bool.false_ne_true | exact absurd (Hpc.out.symm.trans ‹(s.toList == [112, 99]) = true›) Bool.false_ne_true | refine wpList_store_row rfl _ _ _ rfl _ #[.int .i64 0, .int .i64 0, .int .i64 0, .int .i64 0, .int .i64 0, .int .i64 0, .int .i64 0, .slice none 0 0, .int .i64 0, .slice none 0 0] rfl rfl _ _ (Q1.out.box _ mq1) (by kernel_rfl) rfl (by simp [Value.oneCell']) ?_)
  refine bodyPost_ret (ret_row rfl _ _ _ _ rfl (run_loadVar_row _ _ _ _ _ (0, 0) _ (Q2.out.box _ mq1) Tryz.underlying30 rfl (by kernel_rfl))) rfl ⟨rfl, Q2.out.below⟩
theorem u9sym_some (l : List UInt8) {b : Nat} {n : Int} {q : Rat} (h : symL l = some (b, n, q)) (w : World) : Calls Tryz.prog 31 #[.string ⟨l.toArray⟩] w (UVB (up zf b n) q true w) := by
  unfold symL at h
  by_cases eg : l = [103]
  · rw [if_pos eg] at h; subst eg; injection h with h; injection h with h1 h2; injection h2 with h2 h3; subst h1 h2 h3; exact u9sym_g w
  rw [if_neg eg] at h
  by_cases et : l = [116]
  · rw [if_pos et] at h; subst et; injection h with h; injection h with h1 h2; injection h2 with h2 h3; subst h1 h2 h3; exact u9sym_t w
  rw [if_neg et] at h
  by_cases em : l = [109]
  · rw [if_pos em] at h; subst em; injection h with h; injection h with h1 h2; injection h2 with h2 h3; subst h1 h2 h3; exact u9sym_m w
  rw [if_neg em] at h
  by_cases el : l = [108]
  · rw [if_pos el] at h; subst el; injection h with h; injection h with h1 h2; injection h2 with h2 h3; subst h1 h2 h3; exact u9sym_l w
  rw [if_neg el] at h
  by_cases es : l = [115]
  · rw [if_pos es] at h; subst es; injection h with h; injection h with h1 h2; injection h2 with h2 h3; subst h1 h2 h3; exact u9sym_s w
  rw [if_neg es] at h
  by_cases eh : l = [104]
  · rw [if_pos eh] at h; subst eh; injection h with h; injection h with h1 h2; injection h2 with h2 h3; subst h1 h2 h3; exact u9sym_h w
  rw [if_neg eh] at h
  by_cases ed : l = [100]
  · rw [if_pos ed] at h; subst ed; injection h with h; injection h with h1 h2; injection h2 with h2 h3; subst h1 h2 h3; exact u9sym_d w
  rw [if_neg ed] at h
  by_cases eJ : l = [74]
  · rw [if_pos eJ] at h; subst eJ; injection h with h; injection h with h1 h2; injection h2 with h2 h3; subst h1 h2 h3; exact u9sym_J w
  rw [if_neg eJ] at h
  by_cases eWh : l = [87, 104]
  · rw [if_pos eWh] at h; subst eWh; injection h with h; injection h with h1 h2; injection h2 with h2 h3; subst h1 h2 h3; exact u9sym_Wh w
  rw [if_neg eWh] at h
  by_cases ecent : l = [99, 101, 110, 116]
  · rw [if_pos ecent] at h; subst ecent; injection h with h; injection h with h1 h2; injection h2 with h2 h3; subst h1 h2 h3; exact u9sym_cent w
  rw [if_neg ecent] at h
  by_cases eeur : l = [101, 117, 114]
  · rw [if_pos eeur] at h; subst eeur; injection h with h; injection h with h1 h2; injection h2 with h2 h3; subst h1 h2 h3; exact u9sym_eur w
  rw [if_neg eeur] at h
  by_cases epc : l = [112, 99]
  · rw [if_pos epc] at h; subst epc; injection h with h; injection h with h1 h2; injection h2 with h2 h3; subst h1 h2 h3; exact u9sym_pc w
  rw [if_neg epc] at h
  cases h
end Go.Proofs.YtmhdhabgdlefjaaGreatDoor.Un

namespace Go.Proofs.YtmhdhabgdlefjaaGreatDoor.Un
open Go Dm

/-- The name, the base, the power, above, below, and whether prefixes are allowed. -/
def symT : List (List UInt8 × Nat × Int × Int × Int × Bool) :=
  [([103], 0, 1, 1, 1, true), ([116], 0, 1, 1000000, 1, false), ([109], 1, 1, 1, 1, true), ([108], 1, 3, 1, 1000, true), ([115], 2, 1, 1, 1, true), ([104], 2, 1, 3600, 1, false),
   ([100], 2, 1, 86400, 1, false), ([74], 3, 1, 1, 1, true), ([87, 104], 3, 1, 3600, 1, true), ([99, 101, 110, 116], 4, 1, 1, 1, false), ([101, 117, 114], 4, 1, 100, 1, false), ([112, 99], 5, 1, 1, 1, false)]
/-- The factor of a prefix, or of none. -/
def preP (p : List UInt8) : Option (Int × Int) :=
  if p = [] then some (1, 1) else if p = [107] then some (1000, 1) else if p = [77] then some (1000000, 1) else if p = [71] then some (1000000000, 1) else if p = [109] then some (1, 1000) else none
theorem preP_cases {p : List UInt8} {a b : Int} (h : preP p = some (a, b)) : (p = [] ∧ a = 1 ∧ b = 1) ∨ (p = [107] ∧ a = 1000 ∧ b = 1) ∨ (p = [77] ∧ a = 1000000 ∧ b = 1) ∨ (p = [71] ∧ a = 1000000000 ∧ b = 1) ∨ (p = [109] ∧ a = 1 ∧ b = 1000) := by
  unfold preP at h
  by_cases e0 : p = []
  · rw [if_pos e0] at h; injection h with h; injection h with h1 h2; exact .inl ⟨e0, h1.symm, h2.symm⟩
  rw [if_neg e0] at h
  by_cases e1 : p = [107]
  · rw [if_pos e1] at h; injection h with h; injection h with h1 h2; exact .inr (.inl ⟨e1, h1.symm, h2.symm⟩)
  rw [if_neg e1] at h
  by_cases e2 : p = [77]
  · rw [if_pos e2] at h; injection h with h; injection h with h1 h2; exact .inr (.inr (.inl ⟨e2, h1.symm, h2.symm⟩))
  rw [if_neg e2] at h
  by_cases e3 : p = [71]
  · rw [if_pos e3] at h; injection h with h; injection h with h1 h2; exact .inr (.inr (.inr (.inl ⟨e3, h1.symm, h2.symm⟩)))
  rw [if_neg e3] at h
  by_cases e4 : p = [109]
  · rw [if_pos e4] at h; injection h with h; injection h with h1 h2; exact .inr (.inr (.inr (.inr ⟨e4, h1.symm, h2.symm⟩)))
  rw [if_neg e4] at h; cases h
/-- The factor as the program computes it. -/
def facP (a b xa xb : Int) : Rat := Rat.divInt (a * xa) (b * xb)
theorem lt12 {k : Nat} (h : k < 12) : k = 0 ∨ k = 1 ∨ k = 2 ∨ k = 3 ∨ k = 4 ∨ k = 5 ∨ k = 6 ∨ k = 7 ∨ k = 8 ∨ k = 9 ∨ k = 10 ∨ k = 11 := by omega
/-- A prefix and the name of a symbol that can have it are a word. -/
theorem word_hit {k : Nat} {p nm : List UInt8} {b : Nat} {n xa xb a c : Int} {t : Bool} (hk : symT[k]? = some (nm, b, n, xa, xb, t)) (hp : preP p = some (a, c)) (ht : p = [] ∨ t = true) :
    wordL (p ++ nm) = some (b, n, facP a c xa xb) ∧ b < 6 ∧ (1 ≤ a ∧ a ≤ 1000000000) ∧ (1 ≤ c ∧ c ≤ 1000) ∧ (1 ≤ xa ∧ xa ≤ 1000000) ∧ (1 ≤ xb ∧ xb ≤ 1000) := by
  have hl : k < 12 := (List.getElem?_eq_some_iff.1 hk).1
  have hp := preP_cases hp
  obtain rfl | rfl | rfl | rfl | rfl | rfl | rfl | rfl | rfl | rfl | rfl | rfl := lt12 hl
  all_goals
    simp only [symT, List.getElem?_cons_succ, List.getElem?_cons_zero, Option.some.injEq, Prod.mk.injEq] at hk
    obtain ⟨rfl, rfl, rfl, rfl, rfl, rfl⟩ := hk
    rcases hp with ⟨rfl, rfl, rfl⟩ | ⟨rfl, rfl, rfl⟩ | ⟨rfl, rfl, rfl⟩ | ⟨rfl, rfl, rfl⟩ | ⟨rfl, rfl, rfl⟩
  all_goals first
    | (exfalso; revert ht; decide)
    | exact ⟨by decide +kernel, by decide, by decide, by decide, by decide, by decide⟩
theorem sym_in {l : List UInt8} {u : Nat × Int × Rat} (h : symL l = some u) : ∃ (k b : Nat) (n xa xb : Int) (t : Bool), symT[k]? = some (l, b, n, xa, xb, t) ∧ (canP l = true → t = true) := by
  unfold symL at h
  by_cases e0 : l = [103]
  · subst e0; exact ⟨0, _, _, _, _, _, rfl, by decide⟩
  rw [if_neg e0] at h
  by_cases e1 : l = [116]
  · subst e1; exact ⟨1, _, _, _, _, _, rfl, by decide⟩
  rw [if_neg e1] at h
  by_cases e2 : l = [109]
  · subst e2; exact ⟨2, _, _, _, _, _, rfl, by decide⟩
  rw [if_neg e2] at h
  by_cases e3 : l = [108]
  · subst e3; exact ⟨3, _, _, _, _, _, rfl, by decide⟩
  rw [if_neg e3] at h
  by_cases e4 : l = [115]
  · subst e4; exact ⟨4, _, _, _, _, _, rfl, by decide⟩
  rw [if_neg e4] at h
  by_cases e5 : l = [104]
  · subst e5; exact ⟨5, _, _, _, _, _, rfl, by decide⟩
  rw [if_neg e5] at h
  by_cases e6 : l = [100]
  · subst e6; exact ⟨6, _, _, _, _, _, rfl, by decide⟩
  rw [if_neg e6] at h
  by_cases e7 : l = [74]
  · subst e7; exact ⟨7, _, _, _, _, _, rfl, by decide⟩
  rw [if_neg e7] at h
  by_cases e8 : l = [87, 104]
  · subst e8; exact ⟨8, _, _, _, _, _, rfl, by decide⟩
  rw [if_neg e8] at h
  by_cases e9 : l = [99, 101, 110, 116]
  · subst e9; exact ⟨9, _, _, _, _, _, rfl, by decide⟩
  rw [if_neg e9] at h
  by_cases e10 : l = [101, 117, 114]
  · subst e10; exact ⟨10, _, _, _, _, _, rfl, by decide⟩
  rw [if_neg e10] at h
  by_cases e11 : l = [112, 99]
  · subst e11; exact ⟨11, _, _, _, _, _, rfl, by decide⟩
  rw [if_neg e11] at h; cases h
theorem pre_in {c : UInt8} {r : Rat} (h : preL c = some r) : ∃ a b, preP [c] = some (a, b) := by
  unfold preL at h
  by_cases e1 : c = 107
  · subst e1; exact ⟨_, _, rfl⟩
  rw [if_neg e1] at h
  by_cases e2 : c = 77
  · subst e2; exact ⟨_, _, rfl⟩
  rw [if_neg e2] at h
  by_cases e3 : c = 71
  · subst e3; exact ⟨_, _, rfl⟩
  rw [if_neg e3] at h
  by_cases e4 : c = 109
  · subst e4; exact ⟨_, _, rfl⟩
  rw [if_neg e4] at h; cases h
/-- No symbol fits. -/
def Miss (l : List UInt8) (k : Nat) : Prop := ∀ i, i < k → ∀ nm b n xa xb t, symT[i]? = some (nm, b, n, xa, xb, t) → ∀ p a c, preP p = some (a, c) → (p = [] ∨ t = true) → l ≠ p ++ nm
theorem miss_zero (l : List UInt8) : Miss l 0 := fun i hi => absurd hi (by omega)
theorem word_miss {l : List UInt8} (h : Miss l 12) : wordL l = none := by
  have hs : symL l = none := by
    rcases e : symL l with _ | u
    · rfl
    · obtain ⟨k, b, n, xa, xb, t, hk, _⟩ := sym_in e
      exact absurd rfl (h k (List.getElem?_eq_some_iff.1 hk).1 l b n xa xb t hk [] 1 1 rfl (.inl rfl))
  unfold wordL
  rw [hs]
  cases l with
  | nil => rfl
  | cons c r =>
    simp only
    rcases e : preL c with _ | p
    · rfl
    · simp only
      by_cases hc : canP r = true
      · rw [if_pos hc]
        rcases e2 : symL r with _ | u
        · rfl
        · exfalso
          obtain ⟨k, b, n, xa, xb, t, hk, ht⟩ := sym_in e2
          obtain ⟨a, b', hab⟩ := pre_in e
          exact h k (List.getElem?_eq_some_iff.1 hk).1 r b n xa xb t hk [c] a b' hab (.inr (ht hc)) rfl
      · rw [if_neg hc]
end Go.Proofs.YtmhdhabgdlefjaaGreatDoor.Un

namespace Go.Proofs.YtmhdhabgdlefjaaGreatDoor.Un
open Go.RowKit Dm

theorem letterP_any (c : UInt8) (w : World) : Calls Tryz.prog 96 #[.int .u8 (c.toNat : Int)] w fun e w' => e = .returned (.bool (letterB c)) ∧ w' = w := by
  obtain ⟨R, hR⟩ : ∃ R : Int, (c.toNat : Int) = R := ⟨_, rfl⟩
  have hb : letterB c = ((decide (97 ≤ R) && decide (R ≤ 122)) || (decide (65 ≤ R) && decide (R ≤ 90))) := by
    unfold letterB; rw [Bool.eq_iff_iff]; simp; omega
  rw [hb, hR]
  clear hb hR
  by_cases h1 : 97 ≤ R <;> by_cases h2 : R ≤ 122 <;> by_cases h3 : 65 ≤ R <;> by_cases h4 : R ≤ 90
  all_goals
    first
    | (exfalso; omega)
    | (go_enter Tryz.func96, Tryz.ntmps96
       go_wp2
       go_ret
       exact ⟨by simp [h1, h2, h3, h4], rfl⟩)

/-- What readPrefix gives. -/
def preV (p : List UInt8) : Value := match preP p with
  | none => .tuple #[.int .i64 0, .int .i64 0, .bool false]
  | some (a, b) => .tuple #[.int .i64 a, .int .i64 b, .bool true]
set_option maxHeartbeats 1000000 in
theorem prefixP_any (s : ByteArray) (w : World) : Calls Tryz.prog 68 #[.string s] w fun e w' => e = .returned (preV s.data.toList) ∧ w' = w := by
  by_cases e0 : s.data.toList = []
  · have hs : s = ⟨#[]⟩ := by apply ByteArray.ext; apply Array.ext'; rw [e0]
    clear e0
    subst hs
    go_enter Tryz.func68, Tryz.ntmps68
    go_wp2
    exact bodyPost_ret (results_tmp3 rfl _ _ _) rfl ⟨rfl, rfl⟩
  by_cases e1 : s.data.toList = [107]
  · have hs : s = ⟨#[107]⟩ := by apply ByteArray.ext; apply Array.ext'; rw [e1]
    clear e1
    subst hs
    go_enter Tryz.func68, Tryz.ntmps68
    go_wp2
    exact bodyPost_ret (results_tmp3 rfl _ _ _) rfl ⟨rfl, rfl⟩
  by_cases e2 : s.data.toList = [77]
  · have hs : s = ⟨#[77]⟩ := by apply ByteArray.ext; apply Array.ext'; rw [e2]
    clear e2
    subst hs
    go_enter Tryz.func68, Tryz.ntmps68
    go_wp2
    exact bodyPost_ret (results_tmp3 rfl _ _ _) rfl ⟨rfl, rfl⟩
  by_cases e3 : s.data.toList = [71]
  · have hs : s = ⟨#[71]⟩ := by apply ByteArray.ext; apply Array.ext'; rw [e3]
    clear e3
    subst hs
    go_enter Tryz.func68, Tryz.ntmps68
    go_wp2
    exact bodyPost_ret (results_tmp3 rfl _ _ _) rfl ⟨rfl, rfl⟩
  by_cases e4 : s.data.toList = [109]
  · have hs : s = ⟨#[109]⟩ := by apply ByteArray.ext; apply Array.ext'; rw [e4]
    clear e4
    subst hs
    go_enter Tryz.func68, Tryz.ntmps68
    go_wp2
    exact bodyPost_ret (results_tmp3 rfl _ _ _) rfl ⟨rfl, rfl⟩
  have hv : preV s.data.toList = .tuple #[.int .i64 0, .int .i64 0, .bool false] := by
    unfold preV preP; rw [if_neg e0, if_neg e1, if_neg e2, if_neg e3, if_neg e4]
  rw [hv]
  obtain ⟨g0, h0, i0⟩ := no_bytes s [] e0
  obtain ⟨g1, h1, i1⟩ := no_bytes s [107] e1
  obtain ⟨g2, h2, i2⟩ := no_bytes s [77] e2
  obtain ⟨g3, h3, i3⟩ := no_bytes s [71] e3
  obtain ⟨g4, h4, i4⟩ := no_bytes s [109] e4
  clear hv e0 e1 e2 e3 e4
  go_enter Tryz.func68, Tryz.ntmps68
  go_wp2
  exact bodyPost_ret (results_tmp3 rfl _ _ _) rfl ⟨rfl, rfl⟩

/-- An item and a size, as results. -/
def riV (v : List UInt8) (n : Int) (i : Int) : Value := .tuple #[.agg #[sv v, .int .i64 n], .int .i64 i]
/-- What readItem gives for a sign and what follows. -/
def readItemV (c : UInt8) (r : List UInt8) : Value := if signB c then (match itemL r with
  | none => riV [] 0 0
  | some ((v, n), r') => riV v (if c = 47 then -(n : Int) else (n : Int)) ((r.length : Int) + 1 - r'.length)) else riV [] 0 0
theorem ri_sign {c : UInt8} (h : signB c = false) (r : List UInt8) : readItemV c r = riV [] 0 0 := by unfold readItemV; rw [h]; rfl
theorem ri_no {c : UInt8} {r : List UInt8} (h : (r.takeWhile letterB).length = 0) : readItemV c r = riV [] 0 0 := by
  have : itemL r = none := by unfold itemL; rw [if_pos (List.eq_nil_of_length_eq_zero h)]
  unfold readItemV; rw [this]; split <;> rfl
theorem ri_yes {c : UInt8} {r : List UInt8} {m : Nat} (hc : signB c = true) (h : (r.takeWhile letterB).length = m) (h0 : 0 < m) :
    readItemV c r = riV (r.take m) (if c = 47 then -((expL (r.drop m)).1 : Int) else ((expL (r.drop m)).1 : Int)) ((r.length : Int) + 1 - (expL (r.drop m)).2.length) := by
  have ht := tw_take (p := letterB) r
  rw [h] at ht
  have : itemL r = some ((r.take m, (expL (r.drop m)).1), (expL (r.drop m)).2) := by
    unfold itemL
    rw [if_neg (fun e => by rw [e] at h; simp at h; omega), ht.1, ht.2]
  unfold readItemV; rw [this, hc]; rfl
theorem sign_bytes {c : UInt8} (h : signB c = true) : (c = 42 ∧ (c.toNat : Int) = 42) ∨ (c = 47 ∧ (c.toNat : Int) = 47) := by
  unfold signB at h
  simp only [Bool.or_eq_true, decide_eq_true_eq] at h
  rcases h with rfl | rfl
  · exact .inl ⟨rfl, rfl⟩
  · exact .inr ⟨rfl, rfl⟩
theorem sign_not {c : UInt8} (h : signB c = false) : ((c.toNat : Int) == 42) = false ∧ ((c.toNat : Int) == 47) = false := by
  unfold signB at h
  simp only [Bool.or_eq_false_iff, decide_eq_false_iff_not] at h
  refine ⟨beq_eq_false_iff_ne.2 fun e => h.1 ?_, beq_eq_false_iff_ne.2 fun e => h.2 ?_⟩
  · apply UInt8.toNat.inj; show c.toNat = 42; omega
  · apply UInt8.toNat.inj; show c.toNat = 47; omega
/-- The block b holds an item. -/
def Jt (w : World) (b : Nat) (x : Value) (n : Int) : Prop := w.heap[b]? = some (.cells #[x, .int .i64 n] 67 (0, 0))
theorem Jt.lt {w : World} {b : Nat} {x : Value} {n : Int} (h : Jt w b x n) : b < w.heap.size := (Array.getElem?_eq_some_iff.1 h).1
theorem Jt.alloc {w : World} {b : Nat} {x : Value} {n : Int} (h : Jt w b x n) (o : Obj) : Jt (w.alloc o) b x n := (Below.heap_alloc w o b h.lt).trans h
theorem Jt.oth {w : World} {b b' : Nat} {x : Value} {n : Int} (h : Jt w b x n) (hne : b ≠ b') (c : Array Value) : Jt (w.setRow b' c) b x n := (setRow_other w b' b c hne).trans h
theorem Jt.row {w : World} {b : Nat} {x : Value} {n : Int} (h : Jt w b x n) (y : Value) (m : Int) : Jt (w.setRow b #[y, .int .i64 m]) b y m := setRow_heap w b _ _ _ _ h
theorem Jt.set {w : World} {b : Nat} {x : Value} {n : Int} (h : Jt w b x n) (m : Int) : Jt (w.setCell ⟨b, 1, none⟩ (.int .i64 m)) b x m := by
  have := heap_setCell_same w b 1 _ _ (.int .i64 m) h
  exact this
theorem Jt.other {w : World} {b b' : Nat} {x : Value} {n : Int} (h : Jt w b x n) (hne : b ≠ b') (k : Nat) (v : Value) : Jt (w.setCell ⟨b', k, none⟩ v) b x n := (Below.heap_setCell _ _ _ _ hne).trans h
theorem Jt.cells {w : World} {b : Nat} {x : Value} {n : Int} (h : Jt w b x n) : w.cell? ⟨b, 0, none⟩ = some x ∧ w.cell? ⟨b, 1, none⟩ = some (.int .i64 n) ∧ w.frozen? ⟨b, 1, none⟩ = false :=
  ⟨by rw [cell_of_row w b 0 _ _ _ h]; rfl, by rw [cell_of_row w b 1 _ _ _ h]; rfl, frozen_of_row w b 1 _ _ h⟩
theorem infoJ (x y : Value) : (Tryz.prog.info? 67).map (·.size) = some (#[x, y] : Array Value).size := by kernel_rfl

set_option maxHeartbeats 40000000 in
theorem readitem_any (s : ByteArray) {c : UInt8} {l : List UInt8} (hcl : s.data.toList = c :: l) (hs : s.size ≤ 1000) (w : World) : Calls Tryz.prog 66 #[.string s] w (Gives (readItemV c l) w) := by
  obtain ⟨W0, hW0⟩ : ∃ W0, w.alloc (.cells #[.string ⟨#[]⟩, .int .i64 0] 67) = W0 := ⟨_, rfl⟩
  have HB : Hid (RowKit.Below w.heap.size w W0) := Lib.hid (by rw [← hW0]; exact below_alloc _ _)
  have H0 : Hid (Jt W0 w.heap.size (.string ⟨#[]⟩) 0) := Lib.hid (by rw [← hW0]; exact heap_alloc_new w _)
  have HW := Lib.hid hW0
  have HL := Lib.hid (letterP_any)
  have hD1 : s.data.toList.drop 1 = l := by rw [hcl]; rfl
  have hsz : s.size = l.length + 1 := by rw [← sizeL s, hcl]; rfl
  have HLE := Lib.hid hD1
  have HSZ := Lib.hid hsz
  have hlt0 : decide ((0 : Int) < (s.size : Int)) = true := by simp; omega
  have hs1 : 0 < s.size := by omega
  have h0b : s[0]'hs1 = c := by
    have h := byte_at s 0 0 (by omega) (by simp [hcl])
    simp only [List.drop_zero, hcl, List.getElem_cons_zero, Nat.add_zero] at h
    exact h.symm
  have HC0 := Lib.hid h0b
  clear hW0 hD1 hcl h0b hlt0 hsz
  go_enter Tryz.func66, Tryz.ntmps66
  go_wp2_with fail
  rw [HW.out]
  go_loop [4] (fun i => ∃ k : Nat, k ≤ (l.takeWhile letterB).length ∧ i = .int .i64 ((1 + k : Nat) : Int)) (fun i => 1001 - (RowKit.intOf i).toNat)
  case atStart => exact ⟨0, by omega, rfl⟩
  case round =>
    obtain ⟨k, hk, rfl⟩ := hrel
    have htl := tw_len (p := letterB) l
    have hln : l.length = s.size - 1 := by have := HSZ.out; omega
    obtain ⟨N, hN⟩ : ∃ N, 1 + k = N := ⟨_, rfl⟩
    have hc0 := HC0.out
    by_cases hlt : N < s.size
    · have hlt2 : decide ((N : Int) < (s.size : Int)) = true := by simp; omega
      have hby := byte_at s 1 k (by omega) (by rw [HLE.out]; omega)
      have hstep : letterB s[N] = true → k + 1 ≤ (l.takeWhile letterB).length := fun h => tw_more l k hk (by omega) (by
        rw [← h]; congr 1; rw [show l[k] = (s.data.toList.drop 1)[k]'(by rw [HLE.out]; omega) by simp [HLE.out], hby]; simp [hN])
      have hstop : letterB s[N] = false → (l.takeWhile letterB).length = k := fun h => tw_stop l k hk (by omega) (by
        rw [← h]; congr 1; rw [show l[k] = (s.data.toList.drop 1)[k]'(by rw [HLE.out]; omega) by simp [HLE.out], hby]; simp [hN])
      rw [hN]
      by_cases hlet : letterB s[N] = true
      · have HST := Lib.hid (hstep hlet)
        have HLT : Hid (∀ w, Calls Tryz.prog 96 #[.int .u8 ((s[N]).toNat : Int)] w fun e w' => e = .returned (.bool true) ∧ w' = w) := Lib.hid (fun w => by have := HL.out (s[N]) w; rwa [hlet] at this)
        have HN1 : Hid (N + 1 ≤ 1000 ∧ N + 1 = 1 + (k + 1)) := Lib.hid ⟨by omega, by omega⟩
        obtain ⟨x, hx⟩ : ∃ x, s[N] = x := ⟨_, rfl⟩
        rw [hx] at HLT
        clear hstep hstop hby hlet hc0
        go_wp2_with fail
        refine (HLT.out _).mono ?_
        rintro e w5 ⟨rfl, rfl⟩
        go_wp2_with fail
        go_round
        case rel => exact ⟨k + 1, HST.out, by rw [← HN1.out.2]; rfl⟩
        case measure => have := HN1.out; simp [RowKit.intOf]; omega
      · have hm := hstop (by simpa using hlet)
        have HLT : Hid (∀ w, Calls Tryz.prog 96 #[.int .u8 ((s[N]).toNat : Int)] w fun e w' => e = .returned (.bool false) ∧ w' = w) := Lib.hid (fun w => by have := HL.out (s[N]) w; rwa [show letterB s[N] = false by simpa using hlet] at this)
        obtain ⟨x, hx⟩ : ∃ x, s[N] = x := ⟨_, rfl⟩
        rw [hx] at HLT
        clear hstep hstop hlet
        by_cases k0 : k = 0
        · have gk : ((N : Int) == 1) = true := by rw [beq_iff_eq]; omega
          have HV : Hid (readItemV c l = riV [] 0 0) := Lib.hid (ri_no (hm.trans k0))
          clear hm k0 hc0
          go_wp2_with fail
          refine (HLT.out _).mono ?_
          rintro e w5 ⟨rfl, rfl⟩
          go_wp2_with (first | refine wpList_store_row rfl _ _ _ rfl _ #[.string ⟨#[]⟩, .int .i64 0] rfl rfl _ _ H0.out (infoJ _ _) rfl (by simp [Value.oneCell']) ?_)
          refine bodyPost_ret (ret_row rfl _ _ _ _ rfl (run_loadVar_row _ _ _ _ _ (0, 0) _ (H0.out.row (.string ⟨#[]⟩) 0) Tryz.underlying67 rfl (infoJ _ _))) rfl ⟨by rw [HV.out]; rfl, below_row HB.out (Nat.le_refl _) _⟩
        have gk : ((N : Int) == 1) = false := by rw [beq_eq_false_iff_ne]; omega
        rcases hsg : signB c with _ | _
        · have HV : Hid (readItemV c l = riV [] 0 0) := Lib.hid (ri_sign hsg l)
          have gs := sign_not hsg
          have gs1 : ((c.toNat : Int) != 42) = true := by simp only [bne, gs.1]; rfl
          have gs2 : ((c.toNat : Int) != 47) = true := by simp only [bne, gs.2]; rfl
          obtain ⟨R0, hR0⟩ : ∃ R0 : Int, (c.toNat : Int) = R0 := ⟨_, rfl⟩
          rw [hR0] at gs1 gs2
          clear hm k0 gs hsg
          go_wp2_with fail
          refine (HLT.out _).mono ?_
          rintro e w5 ⟨rfl, rfl⟩
          go_wp2_with (first | refine wpList_store_row rfl _ _ _ rfl _ #[.string ⟨#[]⟩, .int .i64 0] rfl rfl _ _ H0.out (infoJ _ _) rfl (by simp [Value.oneCell']) ?_)
          refine bodyPost_ret (ret_row rfl _ _ _ _ rfl (run_loadVar_row _ _ _ _ _ (0, 0) _ (H0.out.row (.string ⟨#[]⟩) 0) Tryz.underlying67 rfl (infoJ _ _))) rfl ⟨by rw [HV.out]; rfl, below_row HB.out (Nat.le_refl _) _⟩
        have hry := ri_yes hsg hm (by omega)
        have hsl := slice_run s 1 N (by omega) (by omega)
        have hE := ext_take s 1 k
        rw [hN, HLE.out] at hE
        rw [hE] at hsl
        obtain ⟨X, hEE⟩ : ∃ X : ByteArray, (⟨(l.take k).toArray⟩ : ByteArray) = X := ⟨_, rfl⟩
        rw [hEE] at hsl
        have hs2 : ∀ W, (Instr.slice 9 (.string s) (some (.int .i64 1)) (some (.int .i64 (N : Int))) none).run Tryz.prog W = .ok (.string X) W := hsl
        have HE1 : Hid (sv (l.take k) = .string X) := Lib.hid (by unfold sv; rw [hEE])
        have HP : Hid (Jt (W0.alloc (.cells #[.string ⟨#[]⟩, .int .i64 0] 67)) W0.heap.size (.string ⟨#[]⟩) 0) := Lib.hid (heap_alloc_new W0 _)
        have P8 := HP.out.row (.string X) 1
        have P4 := (H0.out.alloc (.cells #[.string ⟨#[]⟩, .int .i64 0] 67)).oth (b' := W0.heap.size) (by have := H0.out.lt; omega) #[.string X, .int .i64 1]
        have PB := below_row ((HB.out).alloc HB.out.size (.cells #[.string ⟨#[]⟩, .int .i64 0] 67)) (b := W0.heap.size) HB.out.size #[.string X, .int .i64 1]
        clear hE hEE hsl
        have hD : l.drop k = x :: l.drop (k + 1) := by
          rw [List.drop_eq_getElem_cons (by omega)]
          congr 1
          rw [← hx, show l[k]'(by omega) = (s.data.toList.drop 1)[k]'(by rw [HLE.out]; omega) by simp [HLE.out], hby]; simp [hN]
        have hdl : (l.drop (k + 1)).length = s.size - N - 1 := by rw [List.length_drop]; omega
        have hsb : s[N] = x := hx
        rcases sign_bytes hsg with ⟨hc, hcb⟩ | ⟨hc, hcb⟩
        · rw [if_neg (by rw [hc]; decide)] at hry
          have gs1 : ((c.toNat : Int) != 42) = false := by rw [hcb]; decide
          have gs2 : ((c.toNat : Int) != 47) = true := by rw [hcb]; decide
          have gs3 : ((c.toNat : Int) == 47) = false := by rw [hcb]; decide
          clear hcb hc
          obtain ⟨R0, hR0⟩ : ∃ R0 : Int, (c.toNat : Int) = R0 := ⟨_, rfl⟩
          rw [hR0] at gs1 gs2 gs3
          by_cases h1 : 50 ≤ x.toNat
          · by_cases h2 : x.toNat ≤ 57
            · skip
              have hd : digitB x = true := by unfold digitB; simp [h1, h2]
              have g1 : decide (50 ≤ (x.toNat : Int)) = true := by simp; omega
              have g2 : decide ((x.toNat : Int) ≤ 57) = true := by simp; omega
              obtain ⟨R, hR⟩ : ∃ R : Int, (x.toNat : Int) - 48 = R := ⟨_, rfl⟩
              have hw1 : IntKind.u8.wrap R = R := IntWalk.u8_in _ (by omega)
              have hw2 : IntKind.i64.wrap R = R := IntWalk.i64_in _ (by omega)
              have hw3 : IntKind.i64.wrap (-R) = -R := IntWalk.i64_in _ (by omega)
              have HV : Hid (readItemV c l = riV (l.take k) (R) ((N : Int) + 1)) := Lib.hid (by
                rw [hry, hD, expL, if_pos hd]
                show riV _ (((x.toNat - 48 : Nat) : Int)) ((l.length : Int) + 1 - ((l.drop (k + 1)).length : Int)) = _
                rw [hdl]; congr 1 <;> omega)
              have HR := Lib.hid hR
              clear hm k0 hD hd hdl hby hry hsg
              have Q8 := P8.set R
              have Q4 := P4.other (b' := W0.heap.size) (by have := H0.out.lt; omega) 1 (.int .i64 R)
              have QB := (PB.setCell (p := ⟨W0.heap.size, 1, none⟩) HB.out.size (.int .i64 R))
              have hc8 := P8.cells
              have HZ8 := Lib.hid Q8
              have HZ4 := Lib.hid Q4
              have HZB := Lib.hid QB
              clear P8 P4 PB Q8 Q4 QB
              go_wp2_with fail
              refine (HLT.out _).mono ?_
              rintro e w5 ⟨rfl, rfl⟩
              go_wp2_with (first | refine wpList_store_row rfl _ _ _ rfl _ _ rfl rfl _ _ HP.out (infoJ _ _) rfl (by simp [Value.oneCell']) ?_ | refine wpList_load_row rfl _ _ rfl _ rfl _ _ _ _ HZ8.out Tryz.underlying67 rfl (infoJ _ _) ?_ | refine wpList_store_row rfl _ _ _ rfl _ _ rfl rfl _ _ HZ4.out (infoJ _ _) rfl (by simp [Value.oneCell']) ?_)
              refine bodyPost_ret (ret_row rfl _ _ _ _ rfl (run_loadVar_row _ _ _ _ _ (0, 0) _ (HZ4.out.row (.string X) (R)) Tryz.underlying67 rfl (infoJ _ _))) rfl ⟨by rw [HV.out, ← HE1.out]; rfl, below_row HZB.out (Nat.le_refl _) _⟩
            · skip
              have hd : digitB x = false := by unfold digitB; simp; omega
              have g1 : decide (50 ≤ (x.toNat : Int)) = true := by simp; omega
              have g2 : decide ((x.toNat : Int) ≤ 57) = false := by simp; omega
              have HV : Hid (readItemV c l = riV (l.take k) (1) (N : Int)) := Lib.hid (by
                rw [hry, hD, expL, hd]
                show riV _ (1) ((l.length : Int) + 1 - ((x :: l.drop (k + 1)).length : Int)) = _
                rw [List.length_cons, hdl]; congr 1; omega)
              clear hm k0 hD hd hdl hby hry hsg
              have HZ8 := Lib.hid P8
              have HZ4 := Lib.hid P4
              have HZB := Lib.hid PB
              clear P8 P4 PB
              go_wp2_with fail
              refine (HLT.out _).mono ?_
              rintro e w5 ⟨rfl, rfl⟩
              go_wp2_with (first | refine wpList_store_row rfl _ _ _ rfl _ _ rfl rfl _ _ HP.out (infoJ _ _) rfl (by simp [Value.oneCell']) ?_ | refine wpList_load_row rfl _ _ rfl _ rfl _ _ _ _ HZ8.out Tryz.underlying67 rfl (infoJ _ _) ?_ | refine wpList_store_row rfl _ _ _ rfl _ _ rfl rfl _ _ HZ4.out (infoJ _ _) rfl (by simp [Value.oneCell']) ?_)
              refine bodyPost_ret (ret_row rfl _ _ _ _ rfl (run_loadVar_row _ _ _ _ _ (0, 0) _ (HZ4.out.row (.string X) (1)) Tryz.underlying67 rfl (infoJ _ _))) rfl ⟨by rw [HV.out, ← HE1.out]; rfl, below_row HZB.out (Nat.le_refl _) _⟩
          · skip
            have hd : digitB x = false := by unfold digitB; simp; omega
            have g1 : decide (50 ≤ (x.toNat : Int)) = false := by simp; omega
            have HV : Hid (readItemV c l = riV (l.take k) (1) (N : Int)) := Lib.hid (by
              rw [hry, hD, expL, hd]
              show riV _ (1) ((l.length : Int) + 1 - ((x :: l.drop (k + 1)).length : Int)) = _
              rw [List.length_cons, hdl]; congr 1; omega)
            clear hm k0 hD hd hdl hby hry hsg
            have HZ8 := Lib.hid P8
            have HZ4 := Lib.hid P4
            have HZB := Lib.hid PB
            clear P8 P4 PB
            go_wp2_with fail
            refine (HLT.out _).mono ?_
            rintro e w5 ⟨rfl, rfl⟩
            go_wp2_with (first | refine wpList_store_row rfl _ _ _ rfl _ _ rfl rfl _ _ HP.out (infoJ _ _) rfl (by simp [Value.oneCell']) ?_ | refine wpList_load_row rfl _ _ rfl _ rfl _ _ _ _ HZ8.out Tryz.underlying67 rfl (infoJ _ _) ?_ | refine wpList_store_row rfl _ _ _ rfl _ _ rfl rfl _ _ HZ4.out (infoJ _ _) rfl (by simp [Value.oneCell']) ?_)
            refine bodyPost_ret (ret_row rfl _ _ _ _ rfl (run_loadVar_row _ _ _ _ _ (0, 0) _ (HZ4.out.row (.string X) (1)) Tryz.underlying67 rfl (infoJ _ _))) rfl ⟨by rw [HV.out, ← HE1.out]; rfl, below_row HZB.out (Nat.le_refl _) _⟩
        · rw [if_pos hc] at hry
          have gs1 : ((c.toNat : Int) != 42) = true := by rw [hcb]; decide
          have gs2 : ((c.toNat : Int) != 47) = false := by rw [hcb]; decide
          have gs3 : ((c.toNat : Int) == 47) = true := by rw [hcb]; decide
          clear hcb hc
          obtain ⟨R0, hR0⟩ : ∃ R0 : Int, (c.toNat : Int) = R0 := ⟨_, rfl⟩
          rw [hR0] at gs1 gs2 gs3
          by_cases h1 : 50 ≤ x.toNat
          · by_cases h2 : x.toNat ≤ 57
            · skip
              have hd : digitB x = true := by unfold digitB; simp [h1, h2]
              have g1 : decide (50 ≤ (x.toNat : Int)) = true := by simp; omega
              have g2 : decide ((x.toNat : Int) ≤ 57) = true := by simp; omega
              obtain ⟨R, hR⟩ : ∃ R : Int, (x.toNat : Int) - 48 = R := ⟨_, rfl⟩
              have hw1 : IntKind.u8.wrap R = R := IntWalk.u8_in _ (by omega)
              have hw2 : IntKind.i64.wrap R = R := IntWalk.i64_in _ (by omega)
              have hw3 : IntKind.i64.wrap (-R) = -R := IntWalk.i64_in _ (by omega)
              have HV : Hid (readItemV c l = riV (l.take k) (-R) ((N : Int) + 1)) := Lib.hid (by
                rw [hry, hD, expL, if_pos hd]
                show riV _ (-((x.toNat - 48 : Nat) : Int)) ((l.length : Int) + 1 - ((l.drop (k + 1)).length : Int)) = _
                rw [hdl]; congr 1 <;> omega)
              have HR := Lib.hid hR
              clear hm k0 hD hd hdl hby hry hsg
              have Q8 := P8.set R
              have Q4 := P4.other (b' := W0.heap.size) (by have := H0.out.lt; omega) 1 (.int .i64 R)
              have QB := (PB.setCell (p := ⟨W0.heap.size, 1, none⟩) HB.out.size (.int .i64 R))
              have hc8 := P8.cells
              have hc9 := Q8.cells
              have M8 := Q8.set (-R)
              have M4 := Q4.other (b' := W0.heap.size) (by have := H0.out.lt; omega) 1 (.int .i64 (-R))
              have MB := (QB.setCell (p := ⟨W0.heap.size, 1, none⟩) HB.out.size (.int .i64 (-R)))
              have HZ8 := Lib.hid M8
              have HZ4 := Lib.hid M4
              have HZB := Lib.hid MB
              clear P8 P4 PB Q8 Q4 QB M8 M4 MB
              go_wp2_with fail
              refine (HLT.out _).mono ?_
              rintro e w5 ⟨rfl, rfl⟩
              go_wp2_with (first | refine wpList_store_row rfl _ _ _ rfl _ _ rfl rfl _ _ HP.out (infoJ _ _) rfl (by simp [Value.oneCell']) ?_ | refine wpList_load_row rfl _ _ rfl _ rfl _ _ _ _ HZ8.out Tryz.underlying67 rfl (infoJ _ _) ?_ | refine wpList_store_row rfl _ _ _ rfl _ _ rfl rfl _ _ HZ4.out (infoJ _ _) rfl (by simp [Value.oneCell']) ?_)
              refine bodyPost_ret (ret_row rfl _ _ _ _ rfl (run_loadVar_row _ _ _ _ _ (0, 0) _ (HZ4.out.row (.string X) (-R)) Tryz.underlying67 rfl (infoJ _ _))) rfl ⟨by rw [HV.out, ← HE1.out]; rfl, below_row HZB.out (Nat.le_refl _) _⟩
            · skip
              have hd : digitB x = false := by unfold digitB; simp; omega
              have g1 : decide (50 ≤ (x.toNat : Int)) = true := by simp; omega
              have g2 : decide ((x.toNat : Int) ≤ 57) = false := by simp; omega
              have HV : Hid (readItemV c l = riV (l.take k) (-1) (N : Int)) := Lib.hid (by
                rw [hry, hD, expL, hd]
                show riV _ (-1) ((l.length : Int) + 1 - ((x :: l.drop (k + 1)).length : Int)) = _
                rw [List.length_cons, hdl]; congr 1; omega)
              clear hm k0 hD hd hdl hby hry hsg
              have hc9 := P8.cells
              have M8 := P8.set (-1)
              have M4 := P4.other (b' := W0.heap.size) (by have := H0.out.lt; omega) 1 (.int .i64 (-1))
              have MB := (PB.setCell (p := ⟨W0.heap.size, 1, none⟩) HB.out.size (.int .i64 (-1)))
              have HZ8 := Lib.hid M8
              have HZ4 := Lib.hid M4
              have HZB := Lib.hid MB
              clear P8 P4 PB M8 M4 MB
              go_wp2_with fail
              refine (HLT.out _).mono ?_
              rintro e w5 ⟨rfl, rfl⟩
              go_wp2_with (first | refine wpList_store_row rfl _ _ _ rfl _ _ rfl rfl _ _ HP.out (infoJ _ _) rfl (by simp [Value.oneCell']) ?_ | refine wpList_load_row rfl _ _ rfl _ rfl _ _ _ _ HZ8.out Tryz.underlying67 rfl (infoJ _ _) ?_ | refine wpList_store_row rfl _ _ _ rfl _ _ rfl rfl _ _ HZ4.out (infoJ _ _) rfl (by simp [Value.oneCell']) ?_)
              refine bodyPost_ret (ret_row rfl _ _ _ _ rfl (run_loadVar_row _ _ _ _ _ (0, 0) _ (HZ4.out.row (.string X) (-1)) Tryz.underlying67 rfl (infoJ _ _))) rfl ⟨by rw [HV.out, ← HE1.out]; rfl, below_row HZB.out (Nat.le_refl _) _⟩
          · skip
            have hd : digitB x = false := by unfold digitB; simp; omega
            have g1 : decide (50 ≤ (x.toNat : Int)) = false := by simp; omega
            have HV : Hid (readItemV c l = riV (l.take k) (-1) (N : Int)) := Lib.hid (by
              rw [hry, hD, expL, hd]
              show riV _ (-1) ((l.length : Int) + 1 - ((x :: l.drop (k + 1)).length : Int)) = _
              rw [List.length_cons, hdl]; congr 1; omega)
            clear hm k0 hD hd hdl hby hry hsg
            have hc9 := P8.cells
            have M8 := P8.set (-1)
            have M4 := P4.other (b' := W0.heap.size) (by have := H0.out.lt; omega) 1 (.int .i64 (-1))
            have MB := (PB.setCell (p := ⟨W0.heap.size, 1, none⟩) HB.out.size (.int .i64 (-1)))
            have HZ8 := Lib.hid M8
            have HZ4 := Lib.hid M4
            have HZB := Lib.hid MB
            clear P8 P4 PB M8 M4 MB
            go_wp2_with fail
            refine (HLT.out _).mono ?_
            rintro e w5 ⟨rfl, rfl⟩
            go_wp2_with (first | refine wpList_store_row rfl _ _ _ rfl _ _ rfl rfl _ _ HP.out (infoJ _ _) rfl (by simp [Value.oneCell']) ?_ | refine wpList_load_row rfl _ _ rfl _ rfl _ _ _ _ HZ8.out Tryz.underlying67 rfl (infoJ _ _) ?_ | refine wpList_store_row rfl _ _ _ rfl _ _ rfl rfl _ _ HZ4.out (infoJ _ _) rfl (by simp [Value.oneCell']) ?_)
            refine bodyPost_ret (ret_row rfl _ _ _ _ rfl (run_loadVar_row _ _ _ _ _ (0, 0) _ (HZ4.out.row (.string X) (-1)) Tryz.underlying67 rfl (infoJ _ _))) rfl ⟨by rw [HV.out, ← HE1.out]; rfl, below_row HZB.out (Nat.le_refl _) _⟩
    · have hm : (l.takeWhile letterB).length = k := by omega
      have hlt2 : decide ((N : Int) < (s.size : Int)) = false := by simp; omega
      rw [hN]
      by_cases k0 : k = 0
      · have gk : ((N : Int) == 1) = true := by rw [beq_iff_eq]; omega
        have HV : Hid (readItemV c l = riV [] 0 0) := Lib.hid (ri_no (hm.trans k0))
        clear hm k0 hc0
        go_wp2_with (first | refine wpList_store_row rfl _ _ _ rfl _ #[.string ⟨#[]⟩, .int .i64 0] rfl rfl _ _ H0.out (infoJ _ _) rfl (by simp [Value.oneCell']) ?_)
        refine bodyPost_ret (ret_row rfl _ _ _ _ rfl (run_loadVar_row _ _ _ _ _ (0, 0) _ (H0.out.row (.string ⟨#[]⟩) 0) Tryz.underlying67 rfl (infoJ _ _))) rfl ⟨by rw [HV.out]; rfl, below_row HB.out (Nat.le_refl _) _⟩
      have gk : ((N : Int) == 1) = false := by rw [beq_eq_false_iff_ne]; omega
      rcases hsg : signB c with _ | _
      · have HV : Hid (readItemV c l = riV [] 0 0) := Lib.hid (ri_sign hsg l)
        have gs := sign_not hsg
        have gs1 : ((c.toNat : Int) != 42) = true := by simp only [bne, gs.1]; rfl
        have gs2 : ((c.toNat : Int) != 47) = true := by simp only [bne, gs.2]; rfl
        obtain ⟨R0, hR0⟩ : ∃ R0 : Int, (c.toNat : Int) = R0 := ⟨_, rfl⟩
        rw [hR0] at gs1 gs2
        clear hm k0 gs hsg
        go_wp2_with (first | refine wpList_store_row rfl _ _ _ rfl _ #[.string ⟨#[]⟩, .int .i64 0] rfl rfl _ _ H0.out (infoJ _ _) rfl (by simp [Value.oneCell']) ?_)
        refine bodyPost_ret (ret_row rfl _ _ _ _ rfl (run_loadVar_row _ _ _ _ _ (0, 0) _ (H0.out.row (.string ⟨#[]⟩) 0) Tryz.underlying67 rfl (infoJ _ _))) rfl ⟨by rw [HV.out]; rfl, below_row HB.out (Nat.le_refl _) _⟩
      have hry := ri_yes hsg hm (by omega)
      have hsl := slice_run s 1 N (by omega) (by omega)
      have hE := ext_take s 1 k
      rw [hN, HLE.out] at hE
      rw [hE] at hsl
      obtain ⟨X, hEE⟩ : ∃ X : ByteArray, (⟨(l.take k).toArray⟩ : ByteArray) = X := ⟨_, rfl⟩
      rw [hEE] at hsl
      have hs2 : ∀ W, (Instr.slice 9 (.string s) (some (.int .i64 1)) (some (.int .i64 (N : Int))) none).run Tryz.prog W = .ok (.string X) W := hsl
      have HE1 : Hid (sv (l.take k) = .string X) := Lib.hid (by unfold sv; rw [hEE])
      have HP : Hid (Jt (W0.alloc (.cells #[.string ⟨#[]⟩, .int .i64 0] 67)) W0.heap.size (.string ⟨#[]⟩) 0) := Lib.hid (heap_alloc_new W0 _)
      have P8 := HP.out.row (.string X) 1
      have P4 := (H0.out.alloc (.cells #[.string ⟨#[]⟩, .int .i64 0] 67)).oth (b' := W0.heap.size) (by have := H0.out.lt; omega) #[.string X, .int .i64 1]
      have PB := below_row ((HB.out).alloc HB.out.size (.cells #[.string ⟨#[]⟩, .int .i64 0] 67)) (b := W0.heap.size) HB.out.size #[.string X, .int .i64 1]
      clear hE hEE hsl
      have hD : l.drop k = [] := List.drop_eq_nil_of_le (by omega)
      rcases sign_bytes hsg with ⟨hc, hcb⟩ | ⟨hc, hcb⟩
      · rw [if_neg (by rw [hc]; decide)] at hry
        have gs1 : ((c.toNat : Int) != 42) = false := by rw [hcb]; decide
        have gs2 : ((c.toNat : Int) != 47) = true := by rw [hcb]; decide
        have gs3 : ((c.toNat : Int) == 47) = false := by rw [hcb]; decide
        clear hcb hc
        obtain ⟨R0, hR0⟩ : ∃ R0 : Int, (c.toNat : Int) = R0 := ⟨_, rfl⟩
        rw [hR0] at gs1 gs2 gs3
        have HV : Hid (readItemV c l = riV (l.take k) (1) (N : Int)) := Lib.hid (by
          rw [hry, hD]
          show riV _ (1) ((l.length : Int) + 1 - (([] : List UInt8).length : Int)) = _
          congr 1; simp; omega)
        clear hm k0 hD hry hsg
        have HZ8 := Lib.hid P8
        have HZ4 := Lib.hid P4
        have HZB := Lib.hid PB
        clear P8 P4 PB
        go_wp2_with (first | refine wpList_store_row rfl _ _ _ rfl _ _ rfl rfl _ _ HP.out (infoJ _ _) rfl (by simp [Value.oneCell']) ?_ | refine wpList_load_row rfl _ _ rfl _ rfl _ _ _ _ HZ8.out Tryz.underlying67 rfl (infoJ _ _) ?_ | refine wpList_store_row rfl _ _ _ rfl _ _ rfl rfl _ _ HZ4.out (infoJ _ _) rfl (by simp [Value.oneCell']) ?_)
        refine bodyPost_ret (ret_row rfl _ _ _ _ rfl (run_loadVar_row _ _ _ _ _ (0, 0) _ (HZ4.out.row (.string X) (1)) Tryz.underlying67 rfl (infoJ _ _))) rfl ⟨by rw [HV.out, ← HE1.out]; rfl, below_row HZB.out (Nat.le_refl _) _⟩
      · rw [if_pos hc] at hry
        have gs1 : ((c.toNat : Int) != 42) = true := by rw [hcb]; decide
        have gs2 : ((c.toNat : Int) != 47) = false := by rw [hcb]; decide
        have gs3 : ((c.toNat : Int) == 47) = true := by rw [hcb]; decide
        clear hcb hc
        obtain ⟨R0, hR0⟩ : ∃ R0 : Int, (c.toNat : Int) = R0 := ⟨_, rfl⟩
        rw [hR0] at gs1 gs2 gs3
        have HV : Hid (readItemV c l = riV (l.take k) (-1) (N : Int)) := Lib.hid (by
          rw [hry, hD]
          show riV _ (-1) ((l.length : Int) + 1 - (([] : List UInt8).length : Int)) = _
          congr 1; simp; omega)
        clear hm k0 hD hry hsg
        have hc9 := P8.cells
        have M8 := P8.set (-1)
        have M4 := P4.other (b' := W0.heap.size) (by have := H0.out.lt; omega) 1 (.int .i64 (-1))
        have MB := (PB.setCell (p := ⟨W0.heap.size, 1, none⟩) HB.out.size (.int .i64 (-1)))
        have HZ8 := Lib.hid M8
        have HZ4 := Lib.hid M4
        have HZB := Lib.hid MB
        clear P8 P4 PB M8 M4 MB
        go_wp2_with (first | refine wpList_store_row rfl _ _ _ rfl _ _ rfl rfl _ _ HP.out (infoJ _ _) rfl (by simp [Value.oneCell']) ?_ | refine wpList_load_row rfl _ _ rfl _ rfl _ _ _ _ HZ8.out Tryz.underlying67 rfl (infoJ _ _) ?_ | refine wpList_store_row rfl _ _ _ rfl _ _ rfl rfl _ _ HZ4.out (infoJ _ _) rfl (by simp [Value.oneCell']) ?_)
        refine bodyPost_ret (ret_row rfl _ _ _ _ rfl (run_loadVar_row _ _ _ _ _ (0, 0) _ (HZ4.out.row (.string X) (-1)) Tryz.underlying67 rfl (infoJ _ _))) rfl ⟨by rw [HV.out, ← HE1.out]; rfl, below_row HZB.out (Nat.le_refl _) _⟩
end Go.Proofs.YtmhdhabgdlefjaaGreatDoor.Un
