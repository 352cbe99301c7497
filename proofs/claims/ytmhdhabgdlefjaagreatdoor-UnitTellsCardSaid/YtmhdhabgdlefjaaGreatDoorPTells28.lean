/- The contracts of the reference of unit: fraction, base, prefix. The contracts of the reference of unit: prefix, Symbol. The table of symbols that the program of unit goes through; plain mathematics. No program. -/
import Derived.Deep.CutRange
import Derived.Test.YtmhdhabgdlefjaaGreatDoorPTells25
import Derived.Test.YtmhdhabgdlefjaaGreatDoorPTells27
set_option maxRecDepth 100000
namespace Go.Proofs.YtmhdhabgdlefjaaGreatDoor.Un
open Go.RowKit Bi Dm

/-- A fraction and a truth value, as results. -/
def FVB (r : Rat) (bb : Bool) (w : World) (e : Ending) (w' : World) : Prop := ∃ s a n c b m d, e = .returned (.tuple #[.agg #[.int .i64 s, .slice a n c, .int .i64 1, .slice b m d], .bool bb]) ∧ Fr w' s (.slice a n c) (.slice b m d) r ∧ RowKit.Below w.heap.size w w' ∧ Fresh w.heap.size (.slice a n c) ∧ Fresh w.heap.size (.slice b m d)
theorem rfint_r {z : Int} {r : Rat} (hz : -9223372036854775808 ≤ z ∧ z ≤ 9223372036854775807) (h : (z : Rat) = r) (w : World) : Calls Tryz.prog 30 #[.int .i64 z] w (FV r w) := by subst h; exact rfint_k z hz w

set_option maxHeartbeats 2000000 in
theorem u9fraction_k {r : Rat} (p q : Int) (hp : -9223372036854775808 ≤ p ∧ p ≤ 9223372036854775807) (hq : -9223372036854775808 ≤ q ∧ q ≤ 9223372036854775807) (h0 : q ≠ 0) (h : Rat.divInt p q = r) (w : World) :
    Calls Tryz.prog 62 #[.int .i64 p, .int .i64 q] w (FV r w) := by
  have HO := Lib.hid (fun W => rfof_r p q hp hq h0 h W)
  clear hp hq h0 h
  have s0 := ((Sf.start w).put [.int .i64 0, .slice none 0 0, .int .i64 0, .slice none 0 0] 28)
  try simp only [World.size_alloc] at s0
  have S0 := Lib.hid s0
  clear s0
  go_enter Tryz.func62, Tryz.ntmps62
  go_wp2_with fail
  refine (HO.out _).mono ?_
  rintro e w1 ⟨sx1, ax1, nx1, cx1, bx1, mx1, dx1, rfl, hr, hb, hf, hg⟩
  have E1 := Lib.hid hr.1.1
  have R1 := Lib.hid (S0.out.ret2 hb hr.1.2 hf hr.2.2 hg)
  have FF1 := Lib.hid (hf.mono S0.out.below.size)
  have FG1 := Lib.hid (hg.mono S0.out.below.size)
  clear hr hb hf hg
  have P1 := Lib.hid (R1.out.put [.int .i64 0, .slice none 0 0, .int .i64 0, .slice none 0 0] 28)
  have Q1 := Lib.hid (Sf.row (pre := []) P1.out [.int .i64 sx1, .slice ax1 nx1 cx1, .int .i64 1, .slice bx1 mx1 dx1])
  obtain ⟨q2, q3, q4, q5⟩ := Fb.cells4 (Q1.out.box (w1.heap.size, 28, [.int .i64 sx1, .slice ax1 nx1 cx1, .int .i64 1, .slice bx1 mx1 dx1]) mq0)
  have Q6 := Lib.hid (Sf.row (pre := [(w1.heap.size, 28, [.int .i64 sx1, .slice ax1 nx1 cx1, .int .i64 1, .slice bx1 mx1 dx1])]) Q1.out [.int .i64 sx1, .slice ax1 nx1 cx1, .int .i64 1, .slice bx1 mx1 dx1])
  go_wp2_with (first | refine wpList_store_row rfl _ _ _ rfl _ #[.int .i64 sx1, .slice ax1 nx1 cx1, .int .i64 1, .slice bx1 mx1 dx1] rfl rfl _ _ (P1.out.box _ List.mem_cons_self) (by kernel_rfl) rfl (by simp [Value.oneCell']) ?_ | refine wpList_store_row rfl _ _ _ rfl _ #[.int .i64 sx1, .slice ax1 nx1 cx1, .int .i64 1, .slice bx1 mx1 dx1] rfl rfl _ _ (Q1.out.box _ mq1) (by kernel_rfl) rfl (by simp [Value.oneCell']) ?_)
  clear q2 q3 q4 q5
  refine bodyPost_ret (results_cell_row rfl _ _ _ _ _ (0, 0) _ rfl (Q6.out.box _ mq1) Tryz.underlying28 rfl (by kernel_rfl)) rfl ⟨_, _, _, _, _, _, _, rfl, (Q6.out.fr (v := .slice ax1 nx1 cx1) (u := .slice bx1 mx1 dx1) (r := r) mq0 mq1 E1.out), Q6.out.below, FF1.out, FG1.out⟩

set_option maxHeartbeats 4000000 in
theorem u9base_k (i : Nat) (hi : i < 6) (n s : Int) (a : Option Addr) (x c : Nat) (t : Int) (b : Option Addr) (y d : Nat) (w : World) :
    Calls Tryz.prog 61 #[.int .i64 (i : Int), .int .i64 n, .agg #[.int .i64 s, .slice a x c, .int .i64 t, .slice b y d]] w (Gives (.agg (uc (up zf i n) s (.slice a x c) t (.slice b y d))) w) := by
  rcases lt6 hi with rfl | rfl | rfl | rfl | rfl | rfl
  · have s0 := (((Sf.start w).put [.int .i64 s, .slice a x c, .int .i64 t, .slice b y d] 28).put [.int .i64 0, .int .i64 0, .int .i64 0, .int .i64 0, .int .i64 0, .int .i64 0, .int .i64 0, .slice none 0 0, .int .i64 0, .slice none 0 0] 30)
    try simp only [World.size_alloc] at s0
    have S0 := Lib.hid s0
    clear s0
    unfold uc
    go_enter Tryz.func61, Tryz.ntmps61
    obtain ⟨W0, hW0⟩ : ∃ W, ((w.alloc (.cells #[.int .i64 s, .slice a x c, .int .i64 t, .slice b y d] 28)).alloc (.cells #[.int .i64 0, .int .i64 0, .int .i64 0, .int .i64 0, .int .i64 0, .int .i64 0, .int .i64 0, .slice none 0 0, .int .i64 0, .slice none 0 0] 30)) = W := ⟨_, rfl⟩
    have S1 : Hid (Sf w [(w.heap.size + 1, 30, [.int .i64 0, .int .i64 0, .int .i64 0, .int .i64 0, .int .i64 0, .int .i64 0, .int .i64 0, .slice none 0 0, .int .i64 0, .slice none 0 0]), (w.heap.size, 28, [.int .i64 s, .slice a x c, .int .i64 t, .slice b y d])] [] W0) := Lib.hid (by rw [← hW0]; exact S0.out)
    have HS1 : Hid (W0.heap.size = w.heap.size + 1 + 1) := Lib.hid (by rw [← hW0]; simp)
    have P1 := Lib.hid (S1.out.put [.int .i64 0, .int .i64 0, .int .i64 0, .int .i64 0, .int .i64 0, .int .i64 0, .int .i64 0, .slice none 0 0, .int .i64 0, .slice none 0 0] 30)
    have Q1 := Lib.hid (Sf.row (pre := []) P1.out [.int .i64 0, .int .i64 0, .int .i64 0, .int .i64 0, .int .i64 0, .int .i64 0, .int .i64 s, .slice a x c, .int .i64 t, .slice b y d])
    have T1 := Lib.hid (Sf.set (pre := []) Q1.out 0 (.int .i64 n))
    simp only [List.set_cons_zero, List.nil_append] at T1
    have V1 := Lib.hid (Sf.row (pre := [(W0.heap.size, 30, [.int .i64 n, .int .i64 0, .int .i64 0, .int .i64 0, .int .i64 0, .int .i64 0, .int .i64 s, .slice a x c, .int .i64 t, .slice b y d])]) T1.out [.int .i64 n, .int .i64 0, .int .i64 0, .int .i64 0, .int .i64 0, .int .i64 0, .int .i64 s, .slice a x c, .int .i64 t, .slice b y d])
    have hk := (Q1.out.box _ List.mem_cons_self).cell 0
    have hz := (Q1.out.box _ List.mem_cons_self).free 0
    simp only [List.getElem?_cons_zero] at hk
    have f0 := (S1.out.box _ (List.mem_cons_of_mem _ List.mem_cons_self)).cell 0
    have f1 := (S1.out.box _ (List.mem_cons_of_mem _ List.mem_cons_self)).cell 1
    have f2 := (S1.out.box _ (List.mem_cons_of_mem _ List.mem_cons_self)).cell 2
    have f3 := (S1.out.box _ (List.mem_cons_of_mem _ List.mem_cons_self)).cell 3
    simp only [List.getElem?_cons_succ, List.getElem?_cons_zero] at f0 f1 f2 f3
    have hia := ia_at W0.heap.size 0 (by omega)
    go_upto_region 1 with fail
    clear hW0
    go_wp2_with (first | refine wpList_store_row rfl _ _ _ rfl _ #[.int .i64 0, .int .i64 0, .int .i64 0, .int .i64 0, .int .i64 0, .int .i64 0, .int .i64 s, .slice a x c, .int .i64 t, .slice b y d] rfl rfl _ _ (P1.out.box _ List.mem_cons_self) (by kernel_rfl) rfl (by simp [Value.oneCell']) ?_ | refine wpList_load_row rfl _ _ rfl _ rfl _ _ _ _ (T1.out.box _ List.mem_cons_self) Tryz.underlying30 rfl (by kernel_rfl) ?_ | refine wpList_store_row rfl _ _ _ rfl _ #[.int .i64 n, .int .i64 0, .int .i64 0, .int .i64 0, .int .i64 0, .int .i64 0, .int .i64 s, .slice a x c, .int .i64 t, .slice b y d] rfl rfl _ _ (T1.out.box _ (List.mem_cons_of_mem _ List.mem_cons_self)) (by kernel_rfl) rfl (by simp [Value.oneCell']) ?_)
    refine bodyPost_ret (results_cell_row rfl _ _ _ _ _ (0, 0) _ rfl (V1.out.box _ (List.mem_cons_of_mem _ List.mem_cons_self)) Tryz.underlying30 rfl (by kernel_rfl)) rfl ⟨rfl, V1.out.below⟩
  · have s0 := (((Sf.start w).put [.int .i64 s, .slice a x c, .int .i64 t, .slice b y d] 28).put [.int .i64 0, .int .i64 0, .int .i64 0, .int .i64 0, .int .i64 0, .int .i64 0, .int .i64 0, .slice none 0 0, .int .i64 0, .slice none 0 0] 30)
    try simp only [World.size_alloc] at s0
    have S0 := Lib.hid s0
    clear s0
    unfold uc
    go_enter Tryz.func61, Tryz.ntmps61
    obtain ⟨W0, hW0⟩ : ∃ W, ((w.alloc (.cells #[.int .i64 s, .slice a x c, .int .i64 t, .slice b y d] 28)).alloc (.cells #[.int .i64 0, .int .i64 0, .int .i64 0, .int .i64 0, .int .i64 0, .int .i64 0, .int .i64 0, .slice none 0 0, .int .i64 0, .slice none 0 0] 30)) = W := ⟨_, rfl⟩
    have S1 : Hid (Sf w [(w.heap.size + 1, 30, [.int .i64 0, .int .i64 0, .int .i64 0, .int .i64 0, .int .i64 0, .int .i64 0, .int .i64 0, .slice none 0 0, .int .i64 0, .slice none 0 0]), (w.heap.size, 28, [.int .i64 s, .slice a x c, .int .i64 t, .slice b y d])] [] W0) := Lib.hid (by rw [← hW0]; exact S0.out)
    have HS1 : Hid (W0.heap.size = w.heap.size + 1 + 1) := Lib.hid (by rw [← hW0]; simp)
    have P1 := Lib.hid (S1.out.put [.int .i64 0, .int .i64 0, .int .i64 0, .int .i64 0, .int .i64 0, .int .i64 0, .int .i64 0, .slice none 0 0, .int .i64 0, .slice none 0 0] 30)
    have Q1 := Lib.hid (Sf.row (pre := []) P1.out [.int .i64 0, .int .i64 0, .int .i64 0, .int .i64 0, .int .i64 0, .int .i64 0, .int .i64 s, .slice a x c, .int .i64 t, .slice b y d])
    have T1 := Lib.hid (Sf.set (pre := []) Q1.out 1 (.int .i64 n))
    simp only [List.set_cons_succ, List.set_cons_zero, List.nil_append] at T1
    have V1 := Lib.hid (Sf.row (pre := [(W0.heap.size, 30, [.int .i64 0, .int .i64 n, .int .i64 0, .int .i64 0, .int .i64 0, .int .i64 0, .int .i64 s, .slice a x c, .int .i64 t, .slice b y d])]) T1.out [.int .i64 0, .int .i64 n, .int .i64 0, .int .i64 0, .int .i64 0, .int .i64 0, .int .i64 s, .slice a x c, .int .i64 t, .slice b y d])
    have hk := (Q1.out.box _ List.mem_cons_self).cell 1
    have hz := (Q1.out.box _ List.mem_cons_self).free 1
    simp only [List.getElem?_cons_succ, List.getElem?_cons_zero] at hk
    have f0 := (S1.out.box _ (List.mem_cons_of_mem _ List.mem_cons_self)).cell 0
    have f1 := (S1.out.box _ (List.mem_cons_of_mem _ List.mem_cons_self)).cell 1
    have f2 := (S1.out.box _ (List.mem_cons_of_mem _ List.mem_cons_self)).cell 2
    have f3 := (S1.out.box _ (List.mem_cons_of_mem _ List.mem_cons_self)).cell 3
    simp only [List.getElem?_cons_succ, List.getElem?_cons_zero] at f0 f1 f2 f3
    have hia := ia_at W0.heap.size 1 (by omega)
    go_upto_region 1 with fail
    clear hW0
    go_wp2_with (first | refine wpList_store_row rfl _ _ _ rfl _ #[.int .i64 0, .int .i64 0, .int .i64 0, .int .i64 0, .int .i64 0, .int .i64 0, .int .i64 s, .slice a x c, .int .i64 t, .slice b y d] rfl rfl _ _ (P1.out.box _ List.mem_cons_self) (by kernel_rfl) rfl (by simp [Value.oneCell']) ?_ | refine wpList_load_row rfl _ _ rfl _ rfl _ _ _ _ (T1.out.box _ List.mem_cons_self) Tryz.underlying30 rfl (by kernel_rfl) ?_ | refine wpList_store_row rfl _ _ _ rfl _ #[.int .i64 0, .int .i64 n, .int .i64 0, .int .i64 0, .int .i64 0, .int .i64 0, .int .i64 s, .slice a x c, .int .i64 t, .slice b y d] rfl rfl _ _ (T1.out.box _ (List.mem_cons_of_mem _ List.mem_cons_self)) (by kernel_rfl) rfl (by simp [Value.oneCell']) ?_)
    refine bodyPost_ret (results_cell_row rfl _ _ _ _ _ (0, 0) _ rfl (V1.out.box _ (List.mem_cons_of_mem _ List.mem_cons_self)) Tryz.underlying30 rfl (by kernel_rfl)) rfl ⟨rfl, V1.out.below⟩
  · have s0 := (((Sf.start w).put [.int .i64 s, .slice a x c, .int .i64 t, .slice b y d] 28).put [.int .i64 0, .int .i64 0, .int .i64 0, .int .i64 0, .int .i64 0, .int .i64 0, .int .i64 0, .slice none 0 0, .int .i64 0, .slice none 0 0] 30)
    try simp only [World.size_alloc] at s0
    have S0 := Lib.hid s0
    clear s0
    unfold uc
    go_enter Tryz.func61, Tryz.ntmps61
    obtain ⟨W0, hW0⟩ : ∃ W, ((w.alloc (.cells #[.int .i64 s, .slice a x c, .int .i64 t, .slice b y d] 28)).alloc (.cells #[.int .i64 0, .int .i64 0, .int .i64 0, .int .i64 0, .int .i64 0, .int .i64 0, .int .i64 0, .slice none 0 0, .int .i64 0, .slice none 0 0] 30)) = W := ⟨_, rfl⟩
    have S1 : Hid (Sf w [(w.heap.size + 1, 30, [.int .i64 0, .int .i64 0, .int .i64 0, .int .i64 0, .int .i64 0, .int .i64 0, .int .i64 0, .slice none 0 0, .int .i64 0, .slice none 0 0]), (w.heap.size, 28, [.int .i64 s, .slice a x c, .int .i64 t, .slice b y d])] [] W0) := Lib.hid (by rw [← hW0]; exact S0.out)
    have HS1 : Hid (W0.heap.size = w.heap.size + 1 + 1) := Lib.hid (by rw [← hW0]; simp)
    have P1 := Lib.hid (S1.out.put [.int .i64 0, .int .i64 0, .int .i64 0, .int .i64 0, .int .i64 0, .int .i64 0, .int .i64 0, .slice none 0 0, .int .i64 0, .slice none 0 0] 30)
    have Q1 := Lib.hid (Sf.row (pre := []) P1.out [.int .i64 0, .int .i64 0, .int .i64 0, .int .i64 0, .int .i64 0, .int .i64 0, .int .i64 s, .slice a x c, .int .i64 t, .slice b y d])
    have T1 := Lib.hid (Sf.set (pre := []) Q1.out 2 (.int .i64 n))
    simp only [List.set_cons_succ, List.set_cons_zero, List.nil_append] at T1
    have V1 := Lib.hid (Sf.row (pre := [(W0.heap.size, 30, [.int .i64 0, .int .i64 0, .int .i64 n, .int .i64 0, .int .i64 0, .int .i64 0, .int .i64 s, .slice a x c, .int .i64 t, .slice b y d])]) T1.out [.int .i64 0, .int .i64 0, .int .i64 n, .int .i64 0, .int .i64 0, .int .i64 0, .int .i64 s, .slice a x c, .int .i64 t, .slice b y d])
    have hk := (Q1.out.box _ List.mem_cons_self).cell 2
    have hz := (Q1.out.box _ List.mem_cons_self).free 2
    simp only [List.getElem?_cons_succ, List.getElem?_cons_zero] at hk
    have f0 := (S1.out.box _ (List.mem_cons_of_mem _ List.mem_cons_self)).cell 0
    have f1 := (S1.out.box _ (List.mem_cons_of_mem _ List.mem_cons_self)).cell 1
    have f2 := (S1.out.box _ (List.mem_cons_of_mem _ List.mem_cons_self)).cell 2
    have f3 := (S1.out.box _ (List.mem_cons_of_mem _ List.mem_cons_self)).cell 3
    simp only [List.getElem?_cons_succ, List.getElem?_cons_zero] at f0 f1 f2 f3
    have hia := ia_at W0.heap.size 2 (by omega)
    go_upto_region 1 with fail
    clear hW0
    go_wp2_with (first | refine wpList_store_row rfl _ _ _ rfl _ #[.int .i64 0, .int .i64 0, .int .i64 0, .int .i64 0, .int .i64 0, .int .i64 0, .int .i64 s, .slice a x c, .int .i64 t, .slice b y d] rfl rfl _ _ (P1.out.box _ List.mem_cons_self) (by kernel_rfl) rfl (by simp [Value.oneCell']) ?_ | refine wpList_load_row rfl _ _ rfl _ rfl _ _ _ _ (T1.out.box _ List.mem_cons_self) Tryz.underlying30 rfl (by kernel_rfl) ?_ | refine wpList_store_row rfl _ _ _ rfl _ #[.int .i64 0, .int .i64 0, .int .i64 n, .int .i64 0, .int .i64 0, .int .i64 0, .int .i64 s, .slice a x c, .int .i64 t, .slice b y d] rfl rfl _ _ (T1.out.box _ (List.mem_cons_of_mem _ List.mem_cons_self)) (by kernel_rfl) rfl (by simp [Value.oneCell']) ?_)
    refine bodyPost_ret (results_cell_row rfl _ _ _ _ _ (0, 0) _ rfl (V1.out.box _ (List.mem_cons_of_mem _ List.mem_cons_self)) Tryz.underlying30 rfl (by kernel_rfl)) rfl ⟨rfl, V1.out.below⟩
  · have s0 := (((Sf.start w).put [.int .i64 s, .slice a x c, .int .i64 t, .slice b y d] 28).put [.int .i64 0, .int .i64 0, .int .i64 0, .int .i64 0, .int .i64 0, .int .i64 0, .int .i64 0, .slice none 0 0, .int .i64 0, .slice none 0 0] 30)
    try simp only [World.size_alloc] at s0
    have S0 := Lib.hid s0
    clear s0
    unfold uc
    go_enter Tryz.func61, Tryz.ntmps61
    obtain ⟨W0, hW0⟩ : ∃ W, ((w.alloc (.cells #[.int .i64 s, .slice a x c, .int .i64 t, .slice b y d] 28)).alloc (.cells #[.int .i64 0, .int .i64 0, .int .i64 0, .int .i64 0, .int .i64 0, .int .i64 0, .int .i64 0, .slice none 0 0, .int .i64 0, .slice none 0 0] 30)) = W := ⟨_, rfl⟩
    have S1 : Hid (Sf w [(w.heap.size + 1, 30, [.int .i64 0, .int .i64 0, .int .i64 0, .int .i64 0, .int .i64 0, .int .i64 0, .int .i64 0, .slice none 0 0, .int .i64 0, .slice none 0 0]), (w.heap.size, 28, [.int .i64 s, .slice a x c, .int .i64 t, .slice b y d])] [] W0) := Lib.hid (by rw [← hW0]; exact S0.out)
    have HS1 : Hid (W0.heap.size = w.heap.size + 1 + 1) := Lib.hid (by rw [← hW0]; simp)
    have P1 := Lib.hid (S1.out.put [.int .i64 0, .int .i64 0, .int .i64 0, .int .i64 0, .int .i64 0, .int .i64 0, .int .i64 0, .slice none 0 0, .int .i64 0, .slice none 0 0] 30)
    have Q1 := Lib.hid (Sf.row (pre := []) P1.out [.int .i64 0, .int .i64 0, .int .i64 0, .int .i64 0, .int .i64 0, .int .i64 0, .int .i64 s, .slice a x c, .int .i64 t, .slice b y d])
    have T1 := Lib.hid (Sf.set (pre := []) Q1.out 3 (.int .i64 n))
    simp only [List.set_cons_succ, List.set_cons_zero, List.nil_append] at T1
    have V1 := Lib.hid (Sf.row (pre := [(W0.heap.size, 30, [.int .i64 0, .int .i64 0, .int .i64 0, .int .i64 n, .int .i64 0, .int .i64 0, .int .i64 s, .slice a x c, .int .i64 t, .slice b y d])]) T1.out [.int .i64 0, .int .i64 0, .int .i64 0, .int .i64 n, .int .i64 0, .int .i64 0, .int .i64 s, .slice a x c, .int .i64 t, .slice b y d])
    have hk := (Q1.out.box _ List.mem_cons_self).cell 3
    have hz := (Q1.out.box _ List.mem_cons_self).free 3
    simp only [List.getElem?_cons_succ, List.getElem?_cons_zero] at hk
    have f0 := (S1.out.box _ (List.mem_cons_of_mem _ List.mem_cons_self)).cell 0
    have f1 := (S1.out.box _ (List.mem_cons_of_mem _ List.mem_cons_self)).cell 1
    have f2 := (S1.out.box _ (List.mem_cons_of_mem _ List.mem_cons_self)).cell 2
    have f3 := (S1.out.box _ (List.mem_cons_of_mem _ List.mem_cons_self)).cell 3
    simp only [List.getElem?_cons_succ, List.getElem?_cons_zero] at f0 f1 f2 f3
    have hia := ia_at W0.heap.size 3 (by omega)
    go_upto_region 1 with fail
    clear hW0
    go_wp2_with (first | refine wpList_store_row rfl _ _ _ rfl _ #[.int .i64 0, .int .i64 0, .int .i64 0, .int .i64 0, .int .i64 0, .int .i64 0, .int .i64 s, .slice a x c, .int .i64 t, .slice b y d] rfl rfl _ _ (P1.out.box _ List.mem_cons_self) (by kernel_rfl) rfl (by simp [Value.oneCell']) ?_ | refine wpList_load_row rfl _ _ rfl _ rfl _ _ _ _ (T1.out.box _ List.mem_cons_self) Tryz.underlying30 rfl (by kernel_rfl) ?_ | refine wpList_store_row rfl _ _ _ rfl _ #[.int .i64 0, .int .i64 0, .int .i64 0, .int .i64 n, .int .i64 0, .int .i64 0, .int .i64 s, .slice a x c, .int .i64 t, .slice b y d] rfl rfl _ _ (T1.out.box _ (List.mem_cons_of_mem _ List.mem_cons_self)) (by kernel_rfl) rfl (by simp [Value.oneCell']) ?_)
    refine bodyPost_ret (results_cell_row rfl _ _ _ _ _ (0, 0) _ rfl (V1.out.box _ (List.mem_cons_of_mem _ List.mem_cons_self)) Tryz.underlying30 rfl (by kernel_rfl)) rfl ⟨rfl, V1.out.below⟩
  · have s0 := (((Sf.start w).put [.int .i64 s, .slice a x c, .int .i64 t, .slice b y d] 28).put [.int .i64 0, .int .i64 0, .int .i64 0, .int .i64 0, .int .i64 0, .int .i64 0, .int .i64 0, .slice none 0 0, .int .i64 0, .slice none 0 0] 30)
    try simp only [World.size_alloc] at s0
    have S0 := Lib.hid s0
    clear s0
    unfold uc
    go_enter Tryz.func61, Tryz.ntmps61
    obtain ⟨W0, hW0⟩ : ∃ W, ((w.alloc (.cells #[.int .i64 s, .slice a x c, .int .i64 t, .slice b y d] 28)).alloc (.cells #[.int .i64 0, .int .i64 0, .int .i64 0, .int .i64 0, .int .i64 0, .int .i64 0, .int .i64 0, .slice none 0 0, .int .i64 0, .slice none 0 0] 30)) = W := ⟨_, rfl⟩
    have S1 : Hid (Sf w [(w.heap.size + 1, 30, [.int .i64 0, .int .i64 0, .int .i64 0, .int .i64 0, .int .i64 0, .int .i64 0, .int .i64 0, .slice none 0 0, .int .i64 0, .slice none 0 0]), (w.heap.size, 28, [.int .i64 s, .slice a x c, .int .i64 t, .slice b y d])] [] W0) := Lib.hid (by rw [← hW0]; exact S0.out)
    have HS1 : Hid (W0.heap.size = w.heap.size + 1 + 1) := Lib.hid (by rw [← hW0]; simp)
    have P1 := Lib.hid (S1.out.put [.int .i64 0, .int .i64 0, .int .i64 0, .int .i64 0, .int .i64 0, .int .i64 0, .int .i64 0, .slice none 0 0, .int .i64 0, .slice none 0 0] 30)
    have Q1 := Lib.hid (Sf.row (pre := []) P1.out [.int .i64 0, .int .i64 0, .int .i64 0, .int .i64 0, .int .i64 0, .int .i64 0, .int .i64 s, .slice a x c, .int .i64 t, .slice b y d])
    have T1 := Lib.hid (Sf.set (pre := []) Q1.out 4 (.int .i64 n))
    simp only [List.set_cons_succ, List.set_cons_zero, List.nil_append] at T1
    have V1 := Lib.hid (Sf.row (pre := [(W0.heap.size, 30, [.int .i64 0, .int .i64 0, .int .i64 0, .int .i64 0, .int .i64 n, .int .i64 0, .int .i64 s, .slice a x c, .int .i64 t, .slice b y d])]) T1.out [.int .i64 0, .int .i64 0, .int .i64 0, .int .i64 0, .int .i64 n, .int .i64 0, .int .i64 s, .slice a x c, .int .i64 t, .slice b y d])
    have hk := (Q1.out.box _ List.mem_cons_self).cell 4
    have hz := (Q1.out.box _ List.mem_cons_self).free 4
    simp only [List.getElem?_cons_succ, List.getElem?_cons_zero] at hk
    have f0 := (S1.out.box _ (List.mem_cons_of_mem _ List.mem_cons_self)).cell 0
    have f1 := (S1.out.box _ (List.mem_cons_of_mem _ List.mem_cons_self)).cell 1
    have f2 := (S1.out.box _ (List.mem_cons_of_mem _ List.mem_cons_self)).cell 2
    have f3 := (S1.out.box _ (List.mem_cons_of_mem _ List.mem_cons_self)).cell 3
    simp only [List.getElem?_cons_succ, List.getElem?_cons_zero] at f0 f1 f2 f3
    have hia := ia_at W0.heap.size 4 (by omega)
    go_upto_region 1 with fail
    clear hW0
    go_wp2_with (first | refine wpList_store_row rfl _ _ _ rfl _ #[.int .i64 0, .int .i64 0, .int .i64 0, .int .i64 0, .int .i64 0, .int .i64 0, .int .i64 s, .slice a x c, .int .i64 t, .slice b y d] rfl rfl _ _ (P1.out.box _ List.mem_cons_self) (by kernel_rfl) rfl (by simp [Value.oneCell']) ?_ | refine wpList_load_row rfl _ _ rfl _ rfl _ _ _ _ (T1.out.box _ List.mem_cons_self) Tryz.underlying30 rfl (by kernel_rfl) ?_ | refine wpList_store_row rfl _ _ _ rfl _ #[.int .i64 0, .int .i64 0, .int .i64 0, .int .i64 0, .int .i64 n, .int .i64 0, .int .i64 s, .slice a x c, .int .i64 t, .slice b y d] rfl rfl _ _ (T1.out.box _ (List.mem_cons_of_mem _ List.mem_cons_self)) (by kernel_rfl) rfl (by simp [Value.oneCell']) ?_)
    refine bodyPost_ret (results_cell_row rfl _ _ _ _ _ (0, 0) _ rfl (V1.out.box _ (List.mem_cons_of_mem _ List.mem_cons_self)) Tryz.underlying30 rfl (by kernel_rfl)) rfl ⟨rfl, V1.out.below⟩
  · have s0 := (((Sf.start w).put [.int .i64 s, .slice a x c, .int .i64 t, .slice b y d] 28).put [.int .i64 0, .int .i64 0, .int .i64 0, .int .i64 0, .int .i64 0, .int .i64 0, .int .i64 0, .slice none 0 0, .int .i64 0, .slice none 0 0] 30)
    try simp only [World.size_alloc] at s0
    have S0 := Lib.hid s0
    clear s0
    unfold uc
    go_enter Tryz.func61, Tryz.ntmps61
    obtain ⟨W0, hW0⟩ : ∃ W, ((w.alloc (.cells #[.int .i64 s, .slice a x c, .int .i64 t, .slice b y d] 28)).alloc (.cells #[.int .i64 0, .int .i64 0, .int .i64 0, .int .i64 0, .int .i64 0, .int .i64 0, .int .i64 0, .slice none 0 0, .int .i64 0, .slice none 0 0] 30)) = W := ⟨_, rfl⟩
    have S1 : Hid (Sf w [(w.heap.size + 1, 30, [.int .i64 0, .int .i64 0, .int .i64 0, .int .i64 0, .int .i64 0, .int .i64 0, .int .i64 0, .slice none 0 0, .int .i64 0, .slice none 0 0]), (w.heap.size, 28, [.int .i64 s, .slice a x c, .int .i64 t, .slice b y d])] [] W0) := Lib.hid (by rw [← hW0]; exact S0.out)
    have HS1 : Hid (W0.heap.size = w.heap.size + 1 + 1) := Lib.hid (by rw [← hW0]; simp)
    have P1 := Lib.hid (S1.out.put [.int .i64 0, .int .i64 0, .int .i64 0, .int .i64 0, .int .i64 0, .int .i64 0, .int .i64 0, .slice none 0 0, .int .i64 0, .slice none 0 0] 30)
    have Q1 := Lib.hid (Sf.row (pre := []) P1.out [.int .i64 0, .int .i64 0, .int .i64 0, .int .i64 0, .int .i64 0, .int .i64 0, .int .i64 s, .slice a x c, .int .i64 t, .slice b y d])
    have T1 := Lib.hid (Sf.set (pre := []) Q1.out 5 (.int .i64 n))
    simp only [List.set_cons_succ, List.set_cons_zero, List.nil_append] at T1
    have V1 := Lib.hid (Sf.row (pre := [(W0.heap.size, 30, [.int .i64 0, .int .i64 0, .int .i64 0, .int .i64 0, .int .i64 0, .int .i64 n, .int .i64 s, .slice a x c, .int .i64 t, .slice b y d])]) T1.out [.int .i64 0, .int .i64 0, .int .i64 0, .int .i64 0, .int .i64 0, .int .i64 n, .int .i64 s, .slice a x c, .int .i64 t, .slice b y d])
    have hk := (Q1.out.box _ List.mem_cons_self).cell 5
    have hz := (Q1.out.box _ List.mem_cons_self).free 5
    simp only [List.getElem?_cons_succ, List.getElem?_cons_zero] at hk
    have f0 := (S1.out.box _ (List.mem_cons_of_mem _ List.mem_cons_self)).cell 0
    have f1 := (S1.out.box _ (List.mem_cons_of_mem _ List.mem_cons_self)).cell 1
    have f2 := (S1.out.box _ (List.mem_cons_of_mem _ List.mem_cons_self)).cell 2
    have f3 := (S1.out.box _ (List.mem_cons_of_mem _ List.mem_cons_self)).cell 3
    simp only [List.getElem?_cons_succ, List.getElem?_cons_zero] at f0 f1 f2 f3
    have hia := ia_at W0.heap.size 5 (by omega)
    go_upto_region 1 with fail
    clear hW0
    go_wp2_with (first | refine wpList_store_row rfl _ _ _ rfl _ #[.int .i64 0, .int .i64 0, .int .i64 0, .int .i64 0, .int .i64 0, .int .i64 0, .int .i64 s, .slice a x c, .int .i64 t, .slice b y d] rfl rfl _ _ (P1.out.box _ List.mem_cons_self) (by kernel_rfl) rfl (by simp [Value.oneCell']) ?_ | refine wpList_load_row rfl _ _ rfl _ rfl _ _ _ _ (T1.out.box _ List.mem_cons_self) Tryz.underlying30 rfl (by kernel_rfl) ?_ | refine wpList_store_row rfl _ _ _ rfl _ #[.int .i64 0, .int .i64 0, .int .i64 0, .int .i64 0, .int .i64 0, .int .i64 n, .int .i64 s, .slice a x c, .int .i64 t, .slice b y d] rfl rfl _ _ (T1.out.box _ (List.mem_cons_of_mem _ List.mem_cons_self)) (by kernel_rfl) rfl (by simp [Value.oneCell']) ?_)
    refine bodyPost_ret (results_cell_row rfl _ _ _ _ _ (0, 0) _ rfl (V1.out.box _ (List.mem_cons_of_mem _ List.mem_cons_self)) Tryz.underlying30 rfl (by kernel_rfl)) rfl ⟨rfl, V1.out.below⟩
end Go.Proofs.YtmhdhabgdlefjaaGreatDoor.Un

namespace Go.Proofs.YtmhdhabgdlefjaaGreatDoor.Un
open Go.RowKit Bi Dm

/-- A unit and a truth value, as results. -/
def UVB (f : Nat → Int) (r : Rat) (bb : Bool) (w : World) (e : Ending) (w' : World) : Prop := ∃ s a n c b m d, e = .returned (.tuple #[.agg (uc f s (.slice a n c) 1 (.slice b m d)), .bool bb]) ∧ Fr w' s (.slice a n c) (.slice b m d) r ∧ RowKit.Below w.heap.size w w' ∧ Fresh w.heap.size (.slice a n c) ∧ Fresh w.heap.size (.slice b m d)
theorem sym_not (l : List UInt8) {v : Nat × Int × Rat} (h : symL l = some v) : symL l ≠ none := by rw [h]; exact fun h => by cases h
theorem no_bytes (s : ByteArray) (l : List UInt8) (h : s.data.toList ≠ l) : (s.toList == (⟨l.toArray⟩ : ByteArray).toList) = false ∧ (s.toList == l) = false ∧ (s.data.toList == l) = false := by
  rw [ByteArray.toList_eq, ByteArray.toList_eq]
  have : (s.data.toList == l) = false := by rw [beq_eq_false_iff_ne]; exact h
  exact ⟨this, this, this⟩

set_option maxHeartbeats 2000000 in
theorem u9prefix_107 (w : World) : Calls Tryz.prog 70 #[.int .u8 107] w (FVB 1000 true w) := by
  have s0 := ((Sf.start w).put [.int .i64 0, .slice none 0 0, .int .i64 0, .slice none 0 0] 28)
  try simp only [World.size_alloc] at s0
  have S0 := Lib.hid s0
  clear s0
  have HO := Lib.hid (fun W => rfint_r (z := 1000) (r := 1000) (by decide) rfl W)
  go_enter Tryz.func70, Tryz.ntmps70
  go_wp2_with fail
  refine (HO.out _).mono ?_
  rintro e w1 ⟨sx1, ax1, nx1, cx1, bx1, mx1, dx1, rfl, hr, hb, hf, hg⟩
  have E1 := Lib.hid hr.1.1
  have R1 := Lib.hid (S0.out.ret2 hb hr.1.2 hf hr.2.2 hg)
  have FF1 := Lib.hid (hf.mono S0.out.below.size)
  have FG1 := Lib.hid (hg.mono S0.out.below.size)
  clear hr hb hf hg
  have Q1 := Lib.hid (Sf.row (pre := []) R1.out [.int .i64 sx1, .slice ax1 nx1 cx1, .int .i64 1, .slice bx1 mx1 dx1])
  go_wp2_with (first | refine wpList_store_row rfl _ _ _ rfl _ #[.int .i64 sx1, .slice ax1 nx1 cx1, .int .i64 1, .slice bx1 mx1 dx1] rfl rfl _ _ (R1.out.box _ mq0) (by kernel_rfl) rfl (by simp [Value.oneCell']) ?_)
  refine bodyPost_ret (ret_row rfl _ _ _ _ rfl (run_loadVar_row _ _ _ _ _ (0, 0) _ (Q1.out.box _ mq0) Tryz.underlying28 rfl (by kernel_rfl))) rfl ⟨_, _, _, _, _, _, _, rfl, (Q1.out.fr (v := .slice ax1 nx1 cx1) (u := .slice bx1 mx1 dx1) (r := 1000) mq0 mq1 E1.out), Q1.out.below, FF1.out, FG1.out⟩

set_option maxHeartbeats 2000000 in
theorem u9prefix_77 (w : World) : Calls Tryz.prog 70 #[.int .u8 77] w (FVB 1000000 true w) := by
  have s0 := ((Sf.start w).put [.int .i64 0, .slice none 0 0, .int .i64 0, .slice none 0 0] 28)
  try simp only [World.size_alloc] at s0
  have S0 := Lib.hid s0
  clear s0
  have HO := Lib.hid (fun W => rfint_r (z := 1000000) (r := 1000000) (by decide) rfl W)
  go_enter Tryz.func70, Tryz.ntmps70
  go_wp2_with fail
  refine (HO.out _).mono ?_
  rintro e w1 ⟨sx1, ax1, nx1, cx1, bx1, mx1, dx1, rfl, hr, hb, hf, hg⟩
  have E1 := Lib.hid hr.1.1
  have R1 := Lib.hid (S0.out.ret2 hb hr.1.2 hf hr.2.2 hg)
  have FF1 := Lib.hid (hf.mono S0.out.below.size)
  have FG1 := Lib.hid (hg.mono S0.out.below.size)
  clear hr hb hf hg
  have Q1 := Lib.hid (Sf.row (pre := []) R1.out [.int .i64 sx1, .slice ax1 nx1 cx1, .int .i64 1, .slice bx1 mx1 dx1])
  go_wp2_with (first | refine wpList_store_row rfl _ _ _ rfl _ #[.int .i64 sx1, .slice ax1 nx1 cx1, .int .i64 1, .slice bx1 mx1 dx1] rfl rfl _ _ (R1.out.box _ mq0) (by kernel_rfl) rfl (by simp [Value.oneCell']) ?_)
  refine bodyPost_ret (ret_row rfl _ _ _ _ rfl (run_loadVar_row _ _ _ _ _ (0, 0) _ (Q1.out.box _ mq0) Tryz.underlying28 rfl (by kernel_rfl))) rfl ⟨_, _, _, _, _, _, _, rfl, (Q1.out.fr (v := .slice ax1 nx1 cx1) (u := .slice bx1 mx1 dx1) (r := 1000000) mq0 mq1 E1.out), Q1.out.below, FF1.out, FG1.out⟩

set_option maxHeartbeats 2000000 in
theorem u9prefix_71 (w : World) : Calls Tryz.prog 70 #[.int .u8 71] w (FVB 1000000000 true w) := by
  have s0 := ((Sf.start w).put [.int .i64 0, .slice none 0 0, .int .i64 0, .slice none 0 0] 28)
  try simp only [World.size_alloc] at s0
  have S0 := Lib.hid s0
  clear s0
  have HO := Lib.hid (fun W => rfint_r (z := 1000000000) (r := 1000000000) (by decide) rfl W)
  go_enter Tryz.func70, Tryz.ntmps70
  go_wp2_with fail
  refine (HO.out _).mono ?_
  rintro e w1 ⟨sx1, ax1, nx1, cx1, bx1, mx1, dx1, rfl, hr, hb, hf, hg⟩
  have E1 := Lib.hid hr.1.1
  have R1 := Lib.hid (S0.out.ret2 hb hr.1.2 hf hr.2.2 hg)
  have FF1 := Lib.hid (hf.mono S0.out.below.size)
  have FG1 := Lib.hid (hg.mono S0.out.below.size)
  clear hr hb hf hg
  have Q1 := Lib.hid (Sf.row (pre := []) R1.out [.int .i64 sx1, .slice ax1 nx1 cx1, .int .i64 1, .slice bx1 mx1 dx1])
  go_wp2_with (first | refine wpList_store_row rfl _ _ _ rfl _ #[.int .i64 sx1, .slice ax1 nx1 cx1, .int .i64 1, .slice bx1 mx1 dx1] rfl rfl _ _ (R1.out.box _ mq0) (by kernel_rfl) rfl (by simp [Value.oneCell']) ?_)
  refine bodyPost_ret (ret_row rfl _ _ _ _ rfl (run_loadVar_row _ _ _ _ _ (0, 0) _ (Q1.out.box _ mq0) Tryz.underlying28 rfl (by kernel_rfl))) rfl ⟨_, _, _, _, _, _, _, rfl, (Q1.out.fr (v := .slice ax1 nx1 cx1) (u := .slice bx1 mx1 dx1) (r := 1000000000) mq0 mq1 E1.out), Q1.out.below, FF1.out, FG1.out⟩

set_option maxHeartbeats 2000000 in
theorem u9prefix_109 (w : World) : Calls Tryz.prog 70 #[.int .u8 109] w (FVB (1 / 1000) true w) := by
  have s0 := ((Sf.start w).put [.int .i64 0, .slice none 0 0, .int .i64 0, .slice none 0 0] 28)
  try simp only [World.size_alloc] at s0
  have S0 := Lib.hid s0
  clear s0
  have HO := Lib.hid (fun W => u9fraction_k (r := 1 / 1000) 1 1000 (by decide) (by decide) (by decide) (by rw [Rat.divInt_eq_div]; rfl) W)
  go_enter Tryz.func70, Tryz.ntmps70
  go_wp2_with fail
  refine (HO.out _).mono ?_
  rintro e w1 ⟨sx1, ax1, nx1, cx1, bx1, mx1, dx1, rfl, hr, hb, hf, hg⟩
  have E1 := Lib.hid hr.1.1
  have R1 := Lib.hid (S0.out.ret2 hb hr.1.2 hf hr.2.2 hg)
  have FF1 := Lib.hid (hf.mono S0.out.below.size)
  have FG1 := Lib.hid (hg.mono S0.out.below.size)
  clear hr hb hf hg
  have Q1 := Lib.hid (Sf.row (pre := []) R1.out [.int .i64 sx1, .slice ax1 nx1 cx1, .int .i64 1, .slice bx1 mx1 dx1])
  go_wp2_with (first | refine wpList_store_row rfl _ _ _ rfl _ #[.int .i64 sx1, .slice ax1 nx1 cx1, .int .i64 1, .slice bx1 mx1 dx1] rfl rfl _ _ (R1.out.box _ mq0) (by kernel_rfl) rfl (by simp [Value.oneCell']) ?_)
  refine bodyPost_ret (ret_row rfl _ _ _ _ rfl (run_loadVar_row _ _ _ _ _ (0, 0) _ (Q1.out.box _ mq0) Tryz.underlying28 rfl (by kernel_rfl))) rfl ⟨_, _, _, _, _, _, _, rfl, (Q1.out.fr (v := .slice ax1 nx1 cx1) (u := .slice bx1 mx1 dx1) (r := (1 / 1000)) mq0 mq1 E1.out), Q1.out.below, FF1.out, FG1.out⟩

set_option maxHeartbeats 2000000 in
theorem u9prefix_none (c : UInt8) (h : preL c = none) (w : World) : Calls Tryz.prog 70 #[.int .u8 (c.toNat : Int)] w (Gives (.tuple #[.agg #[.int .i64 0, .slice none 0 0, .int .i64 0, .slice none 0 0], .bool false]) w) := by
  have hn : c ≠ 107 ∧ c ≠ 77 ∧ c ≠ 71 ∧ c ≠ 109 := by
    refine ⟨?_, ?_, ?_, ?_⟩ <;> (intro e; subst e; revert h; unfold preL; simp)
  have q107 : ((c.toNat : Int) == 107) = false := by rw [beq_eq_false_iff_ne]; intro h2; exact hn.1 (UInt8.toNat_inj.1 (show c.toNat = (107 : UInt8).toNat by have h3 : c.toNat = 107 := (by omega); exact h3))
  have q77 : ((c.toNat : Int) == 77) = false := by rw [beq_eq_false_iff_ne]; intro h2; exact hn.2.1 (UInt8.toNat_inj.1 (show c.toNat = (77 : UInt8).toNat by have h3 : c.toNat = 77 := (by omega); exact h3))
  have q71 : ((c.toNat : Int) == 71) = false := by rw [beq_eq_false_iff_ne]; intro h2; exact hn.2.2.1 (UInt8.toNat_inj.1 (show c.toNat = (71 : UInt8).toNat by have h3 : c.toNat = 71 := (by omega); exact h3))
  have q109 : ((c.toNat : Int) == 109) = false := by rw [beq_eq_false_iff_ne]; intro h2; exact hn.2.2.2 (UInt8.toNat_inj.1 (show c.toNat = (109 : UInt8).toNat by have h3 : c.toNat = 109 := (by omega); exact h3))
  have s0 := ((Sf.start w).put [.int .i64 0, .slice none 0 0, .int .i64 0, .slice none 0 0] 28)
  try simp only [World.size_alloc] at s0
  have S0 := Lib.hid s0
  clear s0
  clear hn h
  go_enter Tryz.func70, Tryz.ntmps70
  have Q1 := Lib.hid (Sf.row (pre := []) S0.out [.int .i64 0, .slice none 0 0, .int .i64 0, .slice none 0 0])
  go_wp2_with (first | refine wpList_store_row rfl _ _ _ rfl _ #[.int .i64 0, .slice none 0 0, .int .i64 0, .slice none 0 0] rfl rfl _ _ (S0.out.box _ mq0) (by kernel_rfl) rfl (by simp [Value.oneCell']) ?_)
  refine bodyPost_ret (ret_row rfl _ _ _ _ rfl (run_loadVar_row _ _ _ _ _ (0, 0) _ (Q1.out.box _ mq0) Tryz.underlying28 rfl (by kernel_rfl))) rfl ⟨rfl, Q1.out.below⟩
theorem u9prefix_some (c : UInt8) {p : Rat} (h : preL c = some p) (w : World) : Calls Tryz.prog 70 #[.int .u8 (c.toNat : Int)] w (FVB p true w) := by
  unfold preL at h
  split at h
  · rename_i e; subst e; injection h with h; subst h; exact u9prefix_107 w
  · split at h
    · rename_i e; subst e; injection h with h; subst h; exact u9prefix_77 w
    · split at h
      · rename_i e; subst e; injection h with h; subst h; exact u9prefix_71 w
      · split at h
        · rename_i e; subst e; injection h with h; subst h; exact u9prefix_109 w
        · cases h

set_option maxHeartbeats 4000000 in
theorem u9sym_g (w : World) : Calls Tryz.prog 31 #[.string ⟨#[103]⟩] w (UVB (up zf 0 1) 1 true w) := by
  have s0 := ((Sf.start w).put [.int .i64 0, .int .i64 0, .int .i64 0, .int .i64 0, .int .i64 0, .int .i64 0, .int .i64 0, .slice none 0 0, .int .i64 0, .slice none 0 0] 30)
  try simp only [World.size_alloc] at s0
  have S0 := Lib.hid s0
  clear s0
  have HO := Lib.hid (fun W => rfint_r (z := 1) (r := 1) (by decide) rfl W)
  unfold UVB
  go_enter Tryz.func31, Tryz.ntmps31
  go_wp2_with fail
  refine (HO.out _).mono ?_
  rintro e w1 ⟨sx1, ax1, nx1, cx1, bx1, mx1, dx1, rfl, hr, hb, hf, hg⟩
  have E1 := Lib.hid hr.1.1
  have R1 := Lib.hid (S0.out.ret2 hb hr.1.2 hf hr.2.2 hg)
  have FF1 := Lib.hid (hf.mono S0.out.below.size)
  have FG1 := Lib.hid (hg.mono S0.out.below.size)
  clear hr hb hf hg
  have P1 := Lib.hid (R1.out.put [.int .i64 0, .slice none 0 0, .int .i64 0, .slice none 0 0] 28)
  have Q1 := Lib.hid (Sf.row (pre := []) P1.out [.int .i64 sx1, .slice ax1 nx1 cx1, .int .i64 1, .slice bx1 mx1 dx1])
  obtain ⟨q2, q3, q4, q5⟩ := Fb.cells4 (Q1.out.box (w1.heap.size, 28, [.int .i64 sx1, .slice ax1 nx1 cx1, .int .i64 1, .slice bx1 mx1 dx1]) mq0)
  go_wp2_with (first | refine wpList_store_row rfl _ _ _ rfl _ #[.int .i64 sx1, .slice ax1 nx1 cx1, .int .i64 1, .slice bx1 mx1 dx1] rfl rfl _ _ (P1.out.box _ List.mem_cons_self) (by kernel_rfl) rfl (by simp [Value.oneCell']) ?_)
  clear q2 q3 q4 q5
  refine (u9base_k 0 (by omega) 1 _ _ _ _ _ _ _ _ _).mono ?_
  rintro e w2 ⟨rfl, hb⟩
  have R2 := Lib.hid (Q1.out.later hb)
  clear hb
  have Q6 := Lib.hid (Sf.row (pre := [(w1.heap.size, 28, [.int .i64 sx1, .slice ax1 nx1 cx1, .int .i64 1, .slice bx1 mx1 dx1])]) R2.out [.int .i64 ((up zf 0 1) 0), .int .i64 ((up zf 0 1) 1), .int .i64 ((up zf 0 1) 2), .int .i64 ((up zf 0 1) 3), .int .i64 ((up zf 0 1) 4), .int .i64 ((up zf 0 1) 5), .int .i64 sx1, .slice ax1 nx1 cx1, .int .i64 1, .slice bx1 mx1 dx1])
  go_wp2_with (first | refine wpList_store_row rfl _ _ _ rfl _ #[.int .i64 ((up zf 0 1) 0), .int .i64 ((up zf 0 1) 1), .int .i64 ((up zf 0 1) 2), .int .i64 ((up zf 0 1) 3), .int .i64 ((up zf 0 1) 4), .int .i64 ((up zf 0 1) 5), .int .i64 sx1, .slice ax1 nx1 cx1, .int .i64 1, .slice bx1 mx1 dx1] rfl rfl _ _ (R2.out.box _ mq1) (by kernel_rfl) rfl (by simp [Value.oneCell']) ?_)
  refine bodyPost_ret (ret_row rfl _ _ _ _ rfl (run_loadVar_row _ _ _ _ _ (0, 0) _ (Q6.out.box _ mq1) Tryz.underlying30 rfl (by kernel_rfl))) rfl ⟨_, _, _, _, _, _, _, rfl, (Q6.out.fr (v := .slice ax1 nx1 cx1) (u := .slice bx1 mx1 dx1) (r := 1) mq0 mq1 E1.out), Q6.out.below, FF1.out, FG1.out⟩

set_option maxHeartbeats 4000000 in
theorem u9sym_t (w : World) : Calls Tryz.prog 31 #[.string ⟨#[116]⟩] w (UVB (up zf 0 1) 1000000 true w) := by
  have s0 := ((Sf.start w).put [.int .i64 0, .int .i64 0, .int .i64 0, .int .i64 0, .int .i64 0, .int .i64 0, .int .i64 0, .slice none 0 0, .int .i64 0, .slice none 0 0] 30)
  try simp only [World.size_alloc] at s0
  have S0 := Lib.hid s0
  clear s0
  have HO := Lib.hid (fun W => rfint_r (z := 1) (r := 1) (by decide) rfl W)
  have HK := Lib.hid (fun W => rfint_r (z := 1000000) (r := 1000000) (by decide) rfl W)
  unfold UVB
  go_enter Tryz.func31, Tryz.ntmps31
  go_wp2_with fail
  refine (HO.out _).mono ?_
  rintro e w1 ⟨sx1, ax1, nx1, cx1, bx1, mx1, dx1, rfl, hr, hb, hf, hg⟩
  have E1 := Lib.hid hr.1.1
  have R1 := Lib.hid (S0.out.ret2 hb hr.1.2 hf hr.2.2 hg)
  have FF1 := Lib.hid (hf.mono S0.out.below.size)
  have FG1 := Lib.hid (hg.mono S0.out.below.size)
  clear hr hb hf hg
  have P1 := Lib.hid (R1.out.put [.int .i64 0, .slice none 0 0, .int .i64 0, .slice none 0 0] 28)
  have Q1 := Lib.hid (Sf.row (pre := []) P1.out [.int .i64 sx1, .slice ax1 nx1 cx1, .int .i64 1, .slice bx1 mx1 dx1])
  go_wp2_with (first | refine wpList_store_row rfl _ _ _ rfl _ #[.int .i64 sx1, .slice ax1 nx1 cx1, .int .i64 1, .slice bx1 mx1 dx1] rfl rfl _ _ (P1.out.box _ List.mem_cons_self) (by kernel_rfl) rfl (by simp [Value.oneCell']) ?_)
  refine (HK.out _).mono ?_
  rintro e w2 ⟨sx2, ax2, nx2, cx2, bx2, mx2, dx2, rfl, hr, hb, hf, hg⟩
  have E2 := Lib.hid hr.1.1
  have R2 := Lib.hid (Q1.out.ret2 hb hr.1.2 hf hr.2.2 hg)
  have FF2 := Lib.hid (hf.mono Q1.out.below.size)
  have FG2 := Lib.hid (hg.mono Q1.out.below.size)
  clear hr hb hf hg
  go_wp2_with fail
  refine (u9base_k 0 (by omega) 1 _ _ _ _ _ _ _ _ _).mono ?_
  rintro e w3 ⟨rfl, hb⟩
  have R3 := Lib.hid (R2.out.later hb)
  clear hb
  have Q2 := Lib.hid (Sf.row (pre := [(w1.heap.size, 28, [.int .i64 sx1, .slice ax1 nx1 cx1, .int .i64 1, .slice bx1 mx1 dx1])]) R3.out [.int .i64 ((up zf 0 1) 0), .int .i64 ((up zf 0 1) 1), .int .i64 ((up zf 0 1) 2), .int .i64 ((up zf 0 1) 3), .int .i64 ((up zf 0 1) 4), .int .i64 ((up zf 0 1) 5), .int .i64 sx2, .slice ax2 nx2 cx2, .int .i64 1, .slice bx2 mx2 dx2])
  go_wp2_with (first | refine wpList_store_row rfl _ _ _ rfl _ #[.int .i64 ((up zf 0 1) 0), .int .i64 ((up zf 0 1) 1), .int .i64 ((up zf 0 1) 2), .int .i64 ((up zf 0 1) 3), .int .i64 ((up zf 0 1) 4), .int .i64 ((up zf 0 1) 5), .int .i64 sx2, .slice ax2 nx2 cx2, .int .i64 1, .slice bx2 mx2 dx2] rfl rfl _ _ (R3.out.box _ mq1) (by kernel_rfl) rfl (by simp [Value.oneCell']) ?_)
  refine bodyPost_ret (ret_row rfl _ _ _ _ rfl (run_loadVar_row _ _ _ _ _ (0, 0) _ (Q2.out.box _ mq1) Tryz.underlying30 rfl (by kernel_rfl))) rfl ⟨_, _, _, _, _, _, _, rfl, (Q2.out.fr (v := .slice ax2 nx2 cx2) (u := .slice bx2 mx2 dx2) (r := 1000000) mq0 mq1 E2.out), Q2.out.below, FF2.out, FG2.out⟩

set_option maxHeartbeats 4000000 in
theorem u9sym_m (w : World) : Calls Tryz.prog 31 #[.string ⟨#[109]⟩] w (UVB (up zf 1 1) 1 true w) := by
  have s0 := ((Sf.start w).put [.int .i64 0, .int .i64 0, .int .i64 0, .int .i64 0, .int .i64 0, .int .i64 0, .int .i64 0, .slice none 0 0, .int .i64 0, .slice none 0 0] 30)
  try simp only [World.size_alloc] at s0
  have S0 := Lib.hid s0
  clear s0
  have HO := Lib.hid (fun W => rfint_r (z := 1) (r := 1) (by decide) rfl W)
  unfold UVB
  go_enter Tryz.func31, Tryz.ntmps31
  go_wp2_with fail
  refine (HO.out _).mono ?_
  rintro e w1 ⟨sx1, ax1, nx1, cx1, bx1, mx1, dx1, rfl, hr, hb, hf, hg⟩
  have E1 := Lib.hid hr.1.1
  have R1 := Lib.hid (S0.out.ret2 hb hr.1.2 hf hr.2.2 hg)
  have FF1 := Lib.hid (hf.mono S0.out.below.size)
  have FG1 := Lib.hid (hg.mono S0.out.below.size)
  clear hr hb hf hg
  have P1 := Lib.hid (R1.out.put [.int .i64 0, .slice none 0 0, .int .i64 0, .slice none 0 0] 28)
  have Q1 := Lib.hid (Sf.row (pre := []) P1.out [.int .i64 sx1, .slice ax1 nx1 cx1, .int .i64 1, .slice bx1 mx1 dx1])
  obtain ⟨q2, q3, q4, q5⟩ := Fb.cells4 (Q1.out.box (w1.heap.size, 28, [.int .i64 sx1, .slice ax1 nx1 cx1, .int .i64 1, .slice bx1 mx1 dx1]) mq0)
  go_wp2_with (first | refine wpList_store_row rfl _ _ _ rfl _ #[.int .i64 sx1, .slice ax1 nx1 cx1, .int .i64 1, .slice bx1 mx1 dx1] rfl rfl _ _ (P1.out.box _ List.mem_cons_self) (by kernel_rfl) rfl (by simp [Value.oneCell']) ?_)
  clear q2 q3 q4 q5
  refine (u9base_k 1 (by omega) 1 _ _ _ _ _ _ _ _ _).mono ?_
  rintro e w2 ⟨rfl, hb⟩
  have R2 := Lib.hid (Q1.out.later hb)
  clear hb
  have Q6 := Lib.hid (Sf.row (pre := [(w1.heap.size, 28, [.int .i64 sx1, .slice ax1 nx1 cx1, .int .i64 1, .slice bx1 mx1 dx1])]) R2.out [.int .i64 ((up zf 1 1) 0), .int .i64 ((up zf 1 1) 1), .int .i64 ((up zf 1 1) 2), .int .i64 ((up zf 1 1) 3), .int .i64 ((up zf 1 1) 4), .int .i64 ((up zf 1 1) 5), .int .i64 sx1, .slice ax1 nx1 cx1, .int .i64 1, .slice bx1 mx1 dx1])
  go_wp2_with (first | refine wpList_store_row rfl _ _ _ rfl _ #[.int .i64 ((up zf 1 1) 0), .int .i64 ((up zf 1 1) 1), .int .i64 ((up zf 1 1) 2), .int .i64 ((up zf 1 1) 3), .int .i64 ((up zf 1 1) 4), .int .i64 ((up zf 1 1) 5), .int .i64 sx1, .slice ax1 nx1 cx1, .int .i64 1, .slice bx1 mx1 dx1] rfl rfl _ _ (R2.out.box _ mq1) (by kernel_rfl) rfl (by simp [Value.oneCell']) ?_)
  refine bodyPost_ret (ret_row rfl _ _ _ _ rfl (run_loadVar_row _ _ _ _ _ (0, 0) _ (Q6.out.box _ mq1) Tryz.underlying30 rfl (by kernel_rfl))) rfl ⟨_, _, _, _, _, _, _, rfl, (Q6.out.fr (v := .slice ax1 nx1 cx1) (u := .slice bx1 mx1 dx1) (r := 1) mq0 mq1 E1.out), Q6.out.below, FF1.out, FG1.out⟩

set_option maxHeartbeats 4000000 in
theorem u9sym_l (w : World) : Calls Tryz.prog 31 #[.string ⟨#[108]⟩] w (UVB (up zf 1 3) (1 / 1000) true w) := by
  have s0 := ((Sf.start w).put [.int .i64 0, .int .i64 0, .int .i64 0, .int .i64 0, .int .i64 0, .int .i64 0, .int .i64 0, .slice none 0 0, .int .i64 0, .slice none 0 0] 30)
  try simp only [World.size_alloc] at s0
  have S0 := Lib.hid s0
  clear s0
  have HO := Lib.hid (fun W => rfint_r (z := 1) (r := 1) (by decide) rfl W)
  have HK := Lib.hid (fun W => u9fraction_k (r := 1 / 1000) 1 1000 (by decide) (by decide) (by decide) (by rw [Rat.divInt_eq_div]; rfl) W)
  unfold UVB
  go_enter Tryz.func31, Tryz.ntmps31
  go_wp2_with fail
  refine (HO.out _).mono ?_
  rintro e w1 ⟨sx1, ax1, nx1, cx1, bx1, mx1, dx1, rfl, hr, hb, hf, hg⟩
  have E1 := Lib.hid hr.1.1
  have R1 := Lib.hid (S0.out.ret2 hb hr.1.2 hf hr.2.2 hg)
  have FF1 := Lib.hid (hf.mono S0.out.below.size)
  have FG1 := Lib.hid (hg.mono S0.out.below.size)
  clear hr hb hf hg
  have P1 := Lib.hid (R1.out.put [.int .i64 0, .slice none 0 0, .int .i64 0, .slice none 0 0] 28)
  have Q1 := Lib.hid (Sf.row (pre := []) P1.out [.int .i64 sx1, .slice ax1 nx1 cx1, .int .i64 1, .slice bx1 mx1 dx1])
  go_wp2_with (first | refine wpList_store_row rfl _ _ _ rfl _ #[.int .i64 sx1, .slice ax1 nx1 cx1, .int .i64 1, .slice bx1 mx1 dx1] rfl rfl _ _ (P1.out.box _ List.mem_cons_self) (by kernel_rfl) rfl (by simp [Value.oneCell']) ?_)
  refine (HK.out _).mono ?_
  rintro e w2 ⟨sx2, ax2, nx2, cx2, bx2, mx2, dx2, rfl, hr, hb, hf, hg⟩
  have E2 := Lib.hid hr.1.1
  have R2 := Lib.hid (Q1.out.ret2 hb hr.1.2 hf hr.2.2 hg)
  have FF2 := Lib.hid (hf.mono Q1.out.below.size)
  have FG2 := Lib.hid (hg.mono Q1.out.below.size)
  clear hr hb hf hg
  go_wp2_with fail
  refine (u9base_k 1 (by omega) 3 _ _ _ _ _ _ _ _ _).mono ?_
  rintro e w3 ⟨rfl, hb⟩
  have R3 := Lib.hid (R2.out.later hb)
  clear hb
  have Q2 := Lib.hid (Sf.row (pre := [(w1.heap.size, 28, [.int .i64 sx1, .slice ax1 nx1 cx1, .int .i64 1, .slice bx1 mx1 dx1])]) R3.out [.int .i64 ((up zf 1 3) 0), .int .i64 ((up zf 1 3) 1), .int .i64 ((up zf 1 3) 2), .int .i64 ((up zf 1 3) 3), .int .i64 ((up zf 1 3) 4), .int .i64 ((up zf 1 3) 5), .int .i64 sx2, .slice ax2 nx2 cx2, .int .i64 1, .slice bx2 mx2 dx2])
  go_wp2_with (first | refine wpList_store_row rfl _ _ _ rfl _ #[.int .i64 ((up zf 1 3) 0), .int .i64 ((up zf 1 3) 1), .int .i64 ((up zf 1 3) 2), .int .i64 ((up zf 1 3) 3), .int .i64 ((up zf 1 3) 4), .int .i64 ((up zf 1 3) 5), .int .i64 sx2, .slice ax2 nx2 cx2, .int .i64 1, .slice bx2 mx2 dx2] rfl rfl _ _ (R3.out.box _ mq1) (by kernel_rfl) rfl (by simp [Value.oneCell']) ?_)
  refine bodyPost_ret (ret_row rfl _ _ _ _ rfl (run_loadVar_row _ _ _ _ _ (0, 0) _ (Q2.out.box _ mq1) Tryz.underlying30 rfl (by kernel_rfl))) rfl ⟨_, _, _, _, _, _, _, rfl, (Q2.out.fr (v := .slice ax2 nx2 cx2) (u := .slice bx2 mx2 dx2) (r := (1 / 1000)) mq0 mq1 E2.out), Q2.out.below, FF2.out, FG2.out⟩

set_option maxHeartbeats 4000000 in
theorem u9sym_s (w : World) : Calls Tryz.prog 31 #[.string ⟨#[115]⟩] w (UVB (up zf 2 1) 1 true w) := by
  have s0 := ((Sf.start w).put [.int .i64 0, .int .i64 0, .int .i64 0, .int .i64 0, .int .i64 0, .int .i64 0, .int .i64 0, .slice none 0 0, .int .i64 0, .slice none 0 0] 30)
  try simp only [World.size_alloc] at s0
  have S0 := Lib.hid s0
  clear s0
  have HO := Lib.hid (fun W => rfint_r (z := 1) (r := 1) (by decide) rfl W)
  unfold UVB
  go_enter Tryz.func31, Tryz.ntmps31
  go_wp2_with fail
  refine (HO.out _).mono ?_
  rintro e w1 ⟨sx1, ax1, nx1, cx1, bx1, mx1, dx1, rfl, hr, hb, hf, hg⟩
  have E1 := Lib.hid hr.1.1
  have R1 := Lib.hid (S0.out.ret2 hb hr.1.2 hf hr.2.2 hg)
  have FF1 := Lib.hid (hf.mono S0.out.below.size)
  have FG1 := Lib.hid (hg.mono S0.out.below.size)
  clear hr hb hf hg
  have P1 := Lib.hid (R1.out.put [.int .i64 0, .slice none 0 0, .int .i64 0, .slice none 0 0] 28)
  have Q1 := Lib.hid (Sf.row (pre := []) P1.out [.int .i64 sx1, .slice ax1 nx1 cx1, .int .i64 1, .slice bx1 mx1 dx1])
  obtain ⟨q2, q3, q4, q5⟩ := Fb.cells4 (Q1.out.box (w1.heap.size, 28, [.int .i64 sx1, .slice ax1 nx1 cx1, .int .i64 1, .slice bx1 mx1 dx1]) mq0)
  go_wp2_with (first | refine wpList_store_row rfl _ _ _ rfl _ #[.int .i64 sx1, .slice ax1 nx1 cx1, .int .i64 1, .slice bx1 mx1 dx1] rfl rfl _ _ (P1.out.box _ List.mem_cons_self) (by kernel_rfl) rfl (by simp [Value.oneCell']) ?_)
  clear q2 q3 q4 q5
  refine (u9base_k 2 (by omega) 1 _ _ _ _ _ _ _ _ _).mono ?_
  rintro e w2 ⟨rfl, hb⟩
  have R2 := Lib.hid (Q1.out.later hb)
  clear hb
  have Q6 := Lib.hid (Sf.row (pre := [(w1.heap.size, 28, [.int .i64 sx1, .slice ax1 nx1 cx1, .int .i64 1, .slice bx1 mx1 dx1])]) R2.out [.int .i64 ((up zf 2 1) 0), .int .i64 ((up zf 2 1) 1), .int .i64 ((up zf 2 1) 2), .int .i64 ((up zf 2 1) 3), .int .i64 ((up zf 2 1) 4), .int .i64 ((up zf 2 1) 5), .int .i64 sx1, .slice ax1 nx1 cx1, .int .i64 1, .slice bx1 mx1 dx1])
  go_wp2_with (first | refine wpList_store_row rfl _ _ _ rfl _ #[.int .i64 ((up zf 2 1) 0), .int .i64 ((up zf 2 1) 1), .int .i64 ((up zf 2 1) 2), .int .i64 ((up zf 2 1) 3), .int .i64 ((up zf 2 1) 4), .int .i64 ((up zf 2 1) 5), .int .i64 sx1, .slice ax1 nx1 cx1, .int .i64 1, .slice bx1 mx1 dx1] rfl rfl _ _ (R2.out.box _ mq1) (by kernel_rfl) rfl (by simp [Value.oneCell']) ?_)
  refine bodyPost_ret (ret_row rfl _ _ _ _ rfl (run_loadVar_row _ _ _ _ _ (0, 0) _ (Q6.out.box _ mq1) Tryz.underlying30 rfl (by kernel_rfl))) rfl ⟨_, _, _, _, _, _, _, rfl, (Q6.out.fr (v := .slice ax1 nx1 cx1) (u := .slice bx1 mx1 dx1) (r := 1) mq0 mq1 E1.out), Q6.out.below, FF1.out, FG1.out⟩

set_option maxHeartbeats 4000000 in
theorem u9sym_h (w : World) : Calls Tryz.prog 31 #[.string ⟨#[104]⟩] w (UVB (up zf 2 1) 3600 true w) := by
  have s0 := ((Sf.start w).put [.int .i64 0, .int .i64 0, .int .i64 0, .int .i64 0, .int .i64 0, .int .i64 0, .int .i64 0, .slice none 0 0, .int .i64 0, .slice none 0 0] 30)
  try simp only [World.size_alloc] at s0
  have S0 := Lib.hid s0
  clear s0
  have HO := Lib.hid (fun W => rfint_r (z := 1) (r := 1) (by decide) rfl W)
  have HK := Lib.hid (fun W => rfint_r (z := 3600) (r := 3600) (by decide) rfl W)
  unfold UVB
  go_enter Tryz.func31, Tryz.ntmps31
  go_wp2_with fail
  refine (HO.out _).mono ?_
  rintro e w1 ⟨sx1, ax1, nx1, cx1, bx1, mx1, dx1, rfl, hr, hb, hf, hg⟩
  have E1 := Lib.hid hr.1.1
  have R1 := Lib.hid (S0.out.ret2 hb hr.1.2 hf hr.2.2 hg)
  have FF1 := Lib.hid (hf.mono S0.out.below.size)
  have FG1 := Lib.hid (hg.mono S0.out.below.size)
  clear hr hb hf hg
  have P1 := Lib.hid (R1.out.put [.int .i64 0, .slice none 0 0, .int .i64 0, .slice none 0 0] 28)
  have Q1 := Lib.hid (Sf.row (pre := []) P1.out [.int .i64 sx1, .slice ax1 nx1 cx1, .int .i64 1, .slice bx1 mx1 dx1])
  go_wp2_with (first | refine wpList_store_row rfl _ _ _ rfl _ #[.int .i64 sx1, .slice ax1 nx1 cx1, .int .i64 1, .slice bx1 mx1 dx1] rfl rfl _ _ (P1.out.box _ List.mem_cons_self) (by kernel_rfl) rfl (by simp [Value.oneCell']) ?_)
  refine (HK.out _).mono ?_
  rintro e w2 ⟨sx2, ax2, nx2, cx2, bx2, mx2, dx2, rfl, hr, hb, hf, hg⟩
  have E2 := Lib.hid hr.1.1
  have R2 := Lib.hid (Q1.out.ret2 hb hr.1.2 hf hr.2.2 hg)
  have FF2 := Lib.hid (hf.mono Q1.out.below.size)
  have FG2 := Lib.hid (hg.mono Q1.out.below.size)
  clear hr hb hf hg
  go_wp2_with fail
  refine (u9base_k 2 (by omega) 1 _ _ _ _ _ _ _ _ _).mono ?_
  rintro e w3 ⟨rfl, hb⟩
  have R3 := Lib.hid (R2.out.later hb)
  clear hb
  have Q2 := Lib.hid (Sf.row (pre := [(w1.heap.size, 28, [.int .i64 sx1, .slice ax1 nx1 cx1, .int .i64 1, .slice bx1 mx1 dx1])]) R3.out [.int .i64 ((up zf 2 1) 0), .int .i64 ((up zf 2 1) 1), .int .i64 ((up zf 2 1) 2), .int .i64 ((up zf 2 1) 3), .int .i64 ((up zf 2 1) 4), .int .i64 ((up zf 2 1) 5), .int .i64 sx2, .slice ax2 nx2 cx2, .int .i64 1, .slice bx2 mx2 dx2])
  go_wp2_with (first | refine wpList_store_row rfl _ _ _ rfl _ #[.int .i64 ((up zf 2 1) 0), .int .i64 ((up zf 2 1) 1), .int .i64 ((up zf 2 1) 2), .int .i64 ((up zf 2 1) 3), .int .i64 ((up zf 2 1) 4), .int .i64 ((up zf 2 1) 5), .int .i64 sx2, .slice ax2 nx2 cx2, .int .i64 1, .slice bx2 mx2 dx2] rfl rfl _ _ (R3.out.box _ mq1) (by kernel_rfl) rfl (by simp [Value.oneCell']) ?_)
  refine bodyPost_ret (ret_row rfl _ _ _ _ rfl (run_loadVar_row _ _ _ _ _ (0, 0) _ (Q2.out.box _ mq1) Tryz.underlying30 rfl (by kernel_rfl))) rfl ⟨_, _, _, _, _, _, _, rfl, (Q2.out.fr (v := .slice ax2 nx2 cx2) (u := .slice bx2 mx2 dx2) (r := 3600) mq0 mq1 E2.out), Q2.out.below, FF2.out, FG2.out⟩

set_option maxHeartbeats 4000000 in
theorem u9sym_d (w : World) : Calls Tryz.prog 31 #[.string ⟨#[100]⟩] w (UVB (up zf 2 1) 86400 true w) := by
  have s0 := ((Sf.start w).put [.int .i64 0, .int .i64 0, .int .i64 0, .int .i64 0, .int .i64 0, .int .i64 0, .int .i64 0, .slice none 0 0, .int .i64 0, .slice none 0 0] 30)
  try simp only [World.size_alloc] at s0
  have S0 := Lib.hid s0
  clear s0
  have HO := Lib.hid (fun W => rfint_r (z := 1) (r := 1) (by decide) rfl W)
  have HK := Lib.hid (fun W => rfint_r (z := 86400) (r := 86400) (by decide) rfl W)
  unfold UVB
  go_enter Tryz.func31, Tryz.ntmps31
  go_wp2_with fail
  refine (HO.out _).mono ?_
  rintro e w1 ⟨sx1, ax1, nx1, cx1, bx1, mx1, dx1, rfl, hr, hb, hf, hg⟩
  have E1 := Lib.hid hr.1.1
  have R1 := Lib.hid (S0.out.ret2 hb hr.1.2 hf hr.2.2 hg)
  have FF1 := Lib.hid (hf.mono S0.out.below.size)
  have FG1 := Lib.hid (hg.mono S0.out.below.size)
  clear hr hb hf hg
  have P1 := Lib.hid (R1.out.put [.int .i64 0, .slice none 0 0, .int .i64 0, .slice none 0 0] 28)
  have Q1 := Lib.hid (Sf.row (pre := []) P1.out [.int .i64 sx1, .slice ax1 nx1 cx1, .int .i64 1, .slice bx1 mx1 dx1])
  go_wp2_with (first | refine wpList_store_row rfl _ _ _ rfl _ #[.int .i64 sx1, .slice ax1 nx1 cx1, .int .i64 1, .slice bx1 mx1 dx1] rfl rfl _ _ (P1.out.box _ List.mem_cons_self) (by kernel_rfl) rfl (by simp [Value.oneCell']) ?_)
  refine (HK.out _).mono ?_
  rintro e w2 ⟨sx2, ax2, nx2, cx2, bx2, mx2, dx2, rfl, hr, hb, hf, hg⟩
  have E2 := Lib.hid hr.1.1
  have R2 := Lib.hid (Q1.out.ret2 hb hr.1.2 hf hr.2.2 hg)
  have FF2 := Lib.hid (hf.mono Q1.out.below.size)
  have FG2 := Lib.hid (hg.mono Q1.out.below.size)
  clear hr hb hf hg
  go_wp2_with fail
  refine (u9base_k 2 (by omega) 1 _ _ _ _ _ _ _ _ _).mono ?_
  rintro e w3 ⟨rfl, hb⟩
  have R3 := Lib.hid (R2.out.later hb)
  clear hb
  have Q2 := Lib.hid (Sf.row (pre := [(w1.heap.size, 28, [.int .i64 sx1, .slice ax1 nx1 cx1, .int .i64 1, .slice bx1 mx1 dx1])]) R3.out [.int .i64 ((up zf 2 1) 0), .int .i64 ((up zf 2 1) 1), .int .i64 ((up zf 2 1) 2), .int .i64 ((up zf 2 1) 3), .int .i64 ((up zf 2 1) 4), .int .i64 ((up zf 2 1) 5), .int .i64 sx2, .slice ax2 nx2 cx2, .int .i64 1, .slice bx2 mx2 dx2])
  go_wp2_with (first | refine wpList_store_row rfl _ _ _ rfl _ #[.int .i64 ((up zf 2 1) 0), .int .i64 ((up zf 2 1) 1), .int .i64 ((up zf 2 1) 2), .int .i64 ((up zf 2 1) 3), .int .i64 ((up zf 2 1) 4), .int .i64 ((up zf 2 1) 5), .int .i64 sx2, .slice ax2 nx2 cx2, .int .i64 1, .slice bx2 mx2 dx2] rfl rfl _ _ (R3.out.box _ mq1) (by kernel_rfl) rfl (by simp [Value.oneCell']) ?_)
  refine bodyPost_ret (ret_row rfl _ _ _ _ rfl (run_loadVar_row _ _ _ _ _ (0, 0) _ (Q2.out.box _ mq1) Tryz.underlying30 rfl (by kernel_rfl))) rfl ⟨_, _, _, _, _, _, _, rfl, (Q2.out.fr (v := .slice ax2 nx2 cx2) (u := .slice bx2 mx2 dx2) (r := 86400) mq0 mq1 E2.out), Q2.out.below, FF2.out, FG2.out⟩

set_option maxHeartbeats 4000000 in
theorem u9sym_J (w : World) : Calls Tryz.prog 31 #[.string ⟨#[74]⟩] w (UVB (up zf 3 1) 1 true w) := by
  have s0 := ((Sf.start w).put [.int .i64 0, .int .i64 0, .int .i64 0, .int .i64 0, .int .i64 0, .int .i64 0, .int .i64 0, .slice none 0 0, .int .i64 0, .slice none 0 0] 30)
  try simp only [World.size_alloc] at s0
  have S0 := Lib.hid s0
  clear s0
  have HO := Lib.hid (fun W => rfint_r (z := 1) (r := 1) (by decide) rfl W)
  unfold UVB
  go_enter Tryz.func31, Tryz.ntmps31
  go_wp2_with fail
  refine (HO.out _).mono ?_
  rintro e w1 ⟨sx1, ax1, nx1, cx1, bx1, mx1, dx1, rfl, hr, hb, hf, hg⟩
  have E1 := Lib.hid hr.1.1
  have R1 := Lib.hid (S0.out.ret2 hb hr.1.2 hf hr.2.2 hg)
  have FF1 := Lib.hid (hf.mono S0.out.below.size)
  have FG1 := Lib.hid (hg.mono S0.out.below.size)
  clear hr hb hf hg
  have P1 := Lib.hid (R1.out.put [.int .i64 0, .slice none 0 0, .int .i64 0, .slice none 0 0] 28)
  have Q1 := Lib.hid (Sf.row (pre := []) P1.out [.int .i64 sx1, .slice ax1 nx1 cx1, .int .i64 1, .slice bx1 mx1 dx1])
  obtain ⟨q2, q3, q4, q5⟩ := Fb.cells4 (Q1.out.box (w1.heap.size, 28, [.int .i64 sx1, .slice ax1 nx1 cx1, .int .i64 1, .slice bx1 mx1 dx1]) mq0)
  go_wp2_with (first | refine wpList_store_row rfl _ _ _ rfl _ #[.int .i64 sx1, .slice ax1 nx1 cx1, .int .i64 1, .slice bx1 mx1 dx1] rfl rfl _ _ (P1.out.box _ List.mem_cons_self) (by kernel_rfl) rfl (by simp [Value.oneCell']) ?_)
  clear q2 q3 q4 q5
  refine (u9base_k 3 (by omega) 1 _ _ _ _ _ _ _ _ _).mono ?_
  rintro e w2 ⟨rfl, hb⟩
  have R2 := Lib.hid (Q1.out.later hb)
  clear hb
  have Q6 := Lib.hid (Sf.row (pre := [(w1.heap.size, 28, [.int .i64 sx1, .slice ax1 nx1 cx1, .int .i64 1, .slice bx1 mx1 dx1])]) R2.out [.int .i64 ((up zf 3 1) 0), .int .i64 ((up zf 3 1) 1), .int .i64 ((up zf 3 1) 2), .int .i64 ((up zf 3 1) 3), .int .i64 ((up zf 3 1) 4), .int .i64 ((up zf 3 1) 5), .int .i64 sx1, .slice ax1 nx1 cx1, .int .i64 1, .slice bx1 mx1 dx1])
  go_wp2_with (first | refine wpList_store_row rfl _ _ _ rfl _ #[.int .i64 ((up zf 3 1) 0), .int .i64 ((up zf 3 1) 1), .int .i64 ((up zf 3 1) 2), .int .i64 ((up zf 3 1) 3), .int .i64 ((up zf 3 1) 4), .int .i64 ((up zf 3 1) 5), .int .i64 sx1, .slice ax1 nx1 cx1, .int .i64 1, .slice bx1 mx1 dx1] rfl rfl _ _ (R2.out.box _ mq1) (by kernel_rfl) rfl (by simp [Value.oneCell']) ?_)
  refine bodyPost_ret (ret_row rfl _ _ _ _ rfl (run_loadVar_row _ _ _ _ _ (0, 0) _ (Q6.out.box _ mq1) Tryz.underlying30 rfl (by kernel_rfl))) rfl ⟨_, _, _, _, _, _, _, rfl, (Q6.out.fr (v := .slice ax1 nx1 cx1) (u := .slice bx1 mx1 dx1) (r := 1) mq0 mq1 E1.out), Q6.out.below, FF1.out, FG1.out⟩

set_option maxHeartbeats 4000000 in
theorem u9sym_Wh (w : World) : Calls Tryz.prog 31 #[.string ⟨#[87, 104]⟩] w (UVB (up zf 3 1) 3600 true w) := by
  have s0 := ((Sf.start w).put [.int .i64 0, .int .i64 0, .int .i64 0, .int .i64 0, .int .i64 0, .int .i64 0, .int .i64 0, .slice none 0 0, .int .i64 0, .slice none 0 0] 30)
  try simp only [World.size_alloc] at s0
  have S0 := Lib.hid s0
  clear s0
  have HO := Lib.hid (fun W => rfint_r (z := 1) (r := 1) (by decide) rfl W)
  have HK := Lib.hid (fun W => rfint_r (z := 3600) (r := 3600) (by decide) rfl W)
  unfold UVB
  go_enter Tryz.func31, Tryz.ntmps31
  go_wp2_with fail
  refine (HO.out _).mono ?_
  rintro e w1 ⟨sx1, ax1, nx1, cx1, bx1, mx1, dx1, rfl, hr, hb, hf, hg⟩
  have E1 := Lib.hid hr.1.1
  have R1 := Lib.hid (S0.out.ret2 hb hr.1.2 hf hr.2.2 hg)
  have FF1 := Lib.hid (hf.mono S0.out.below.size)
  have FG1 := Lib.hid (hg.mono S0.out.below.size)
  clear hr hb hf hg
  have P1 := Lib.hid (R1.out.put [.int .i64 0, .slice none 0 0, .int .i64 0, .slice none 0 0] 28)
  have Q1 := Lib.hid (Sf.row (pre := []) P1.out [.int .i64 sx1, .slice ax1 nx1 cx1, .int .i64 1, .slice bx1 mx1 dx1])
  go_wp2_with (first | refine wpList_store_row rfl _ _ _ rfl _ #[.int .i64 sx1, .slice ax1 nx1 cx1, .int .i64 1, .slice bx1 mx1 dx1] rfl rfl _ _ (P1.out.box _ List.mem_cons_self) (by kernel_rfl) rfl (by simp [Value.oneCell']) ?_)
  refine (HK.out _).mono ?_
  rintro e w2 ⟨sx2, ax2, nx2, cx2, bx2, mx2, dx2, rfl, hr, hb, hf, hg⟩
  have E2 := Lib.hid hr.1.1
  have R2 := Lib.hid (Q1.out.ret2 hb hr.1.2 hf hr.2.2 hg)
  have FF2 := Lib.hid (hf.mono Q1.out.below.size)
  have FG2 := Lib.hid (hg.mono Q1.out.below.size)
  clear hr hb hf hg
  go_wp2_with fail
  refine (u9base_k 3 (by omega) 1 _ _ _ _ _ _ _ _ _).mono ?_
  rintro e w3 ⟨rfl, hb⟩
  have R3 := Lib.hid (R2.out.later hb)
  clear hb
  have Q2 := Lib.hid (Sf.row (pre := [(w1.heap.size, 28, [.int .i64 sx1, .slice ax1 nx1 cx1, .int .i64 1, .slice bx1 mx1 dx1])]) R3.out [.int .i64 ((up zf 3 1) 0), .int .i64 ((up zf 3 1) 1), .int .i64 ((up zf 3 1) 2), .int .i64 ((up zf 3 1) 3), .int .i64 ((up zf 3 1) 4), .int .i64 ((up zf 3 1) 5), .int .i64 sx2, .slice ax2 nx2 cx2, .int .i64 1, .slice bx2 mx2 dx2])
  go_wp2_with (first | refine wpList_store_row rfl _ _ _ rfl _ #[.int .i64 ((up zf 3 1) 0), .int .i64 ((up zf 3 1) 1), .int .i64 ((up zf 3 1) 2), .int .i64 ((up zf 3 1) 3), .int .i64 ((up zf 3 1) 4), .int .i64 ((up zf 3 1) 5), .int .i64 sx2, .slice ax2 nx2 cx2, .int .i64 1, .slice bx2 mx2 dx2] rfl rfl _ _ (R3.out.box _ mq1) (by kernel_rfl) rfl (by simp [Value.oneCell']) ?_)
  refine bodyPost_ret (ret_row rfl _ _ _ _ rfl (run_loadVar_row _ _ _ _ _ (0, 0) _ (Q2.out.box _ mq1) Tryz.underlying30 rfl (by kernel_rfl))) rfl ⟨_, _, _, _, _, _, _, rfl, (Q2.out.fr (v := .slice ax2 nx2 cx2) (u := .slice bx2 mx2 dx2) (r := 3600) mq0 mq1 E2.out), Q2.out.below, FF2.out, FG2.out⟩

set_option maxHeartbeats 4000000 in
theorem u9sym_cent (w : World) : Calls Tryz.prog 31 #[.string ⟨#[99, 101, 110, 116]⟩] w (UVB (up zf 4 1) 1 true w) := by
  have s0 := ((Sf.start w).put [.int .i64 0, .int .i64 0, .int .i64 0, .int .i64 0, .int .i64 0, .int .i64 0, .int .i64 0, .slice none 0 0, .int .i64 0, .slice none 0 0] 30)
  try simp only [World.size_alloc] at s0
  have S0 := Lib.hid s0
  clear s0
  have HO := Lib.hid (fun W => rfint_r (z := 1) (r := 1) (by decide) rfl W)
  unfold UVB
  go_enter Tryz.func31, Tryz.ntmps31
  go_wp2_with fail
  refine (HO.out _).mono ?_
  rintro e w1 ⟨sx1, ax1, nx1, cx1, bx1, mx1, dx1, rfl, hr, hb, hf, hg⟩
  have E1 := Lib.hid hr.1.1
  have R1 := Lib.hid (S0.out.ret2 hb hr.1.2 hf hr.2.2 hg)
  have FF1 := Lib.hid (hf.mono S0.out.below.size)
  have FG1 := Lib.hid (hg.mono S0.out.below.size)
  clear hr hb hf hg
  have P1 := Lib.hid (R1.out.put [.int .i64 0, .slice none 0 0, .int .i64 0, .slice none 0 0] 28)
  have Q1 := Lib.hid (Sf.row (pre := []) P1.out [.int .i64 sx1, .slice ax1 nx1 cx1, .int .i64 1, .slice bx1 mx1 dx1])
  obtain ⟨q2, q3, q4, q5⟩ := Fb.cells4 (Q1.out.box (w1.heap.size, 28, [.int .i64 sx1, .slice ax1 nx1 cx1, .int .i64 1, .slice bx1 mx1 dx1]) mq0)
  go_wp2_with (first | refine wpList_store_row rfl _ _ _ rfl _ #[.int .i64 sx1, .slice ax1 nx1 cx1, .int .i64 1, .slice bx1 mx1 dx1] rfl rfl _ _ (P1.out.box _ List.mem_cons_self) (by kernel_rfl) rfl (by simp [Value.oneCell']) ?_)
  clear q2 q3 q4 q5
  refine (u9base_k 4 (by omega) 1 _ _ _ _ _ _ _ _ _).mono ?_
  rintro e w2 ⟨rfl, hb⟩
  have R2 := Lib.hid (Q1.out.later hb)
  clear hb
  have Q6 := Lib.hid (Sf.row (pre := [(w1.heap.size, 28, [.int .i64 sx1, .slice ax1 nx1 cx1, .int .i64 1, .slice bx1 mx1 dx1])]) R2.out [.int .i64 ((up zf 4 1) 0), .int .i64 ((up zf 4 1) 1), .int .i64 ((up zf 4 1) 2), .int .i64 ((up zf 4 1) 3), .int .i64 ((up zf 4 1) 4), .int .i64 ((up zf 4 1) 5), .int .i64 sx1, .slice ax1 nx1 cx1, .int .i64 1, .slice bx1 mx1 dx1])
  go_wp2_with (first | refine wpList_store_row rfl _ _ _ rfl _ #[.int .i64 ((up zf 4 1) 0), .int .i64 ((up zf 4 1) 1), .int .i64 ((up zf 4 1) 2), .int .i64 ((up zf 4 1) 3), .int .i64 ((up zf 4 1) 4), .int .i64 ((up zf 4 1) 5), .int .i64 sx1, .slice ax1 nx1 cx1, .int .i64 1, .slice bx1 mx1 dx1] rfl rfl _ _ (R2.out.box _ mq1) (by kernel_rfl) rfl (by simp [Value.oneCell']) ?_)
  refine bodyPost_ret (ret_row rfl _ _ _ _ rfl (run_loadVar_row _ _ _ _ _ (0, 0) _ (Q6.out.box _ mq1) Tryz.underlying30 rfl (by kernel_rfl))) rfl ⟨_, _, _, _, _, _, _, rfl, (Q6.out.fr (v := .slice ax1 nx1 cx1) (u := .slice bx1 mx1 dx1) (r := 1) mq0 mq1 E1.out), Q6.out.below, FF1.out, FG1.out⟩

set_option maxHeartbeats 4000000 in
theorem u9sym_eur (w : World) : Calls Tryz.prog 31 #[.string ⟨#[101, 117, 114]⟩] w (UVB (up zf 4 1) 100 true w) := by
  have s0 := ((Sf.start w).put [.int .i64 0, .int .i64 0, .int .i64 0, .int .i64 0, .int .i64 0, .int .i64 0, .int .i64 0, .slice none 0 0, .int .i64 0, .slice none 0 0] 30)
  try simp only [World.size_alloc] at s0
  have S0 := Lib.hid s0
  clear s0
  have HO := Lib.hid (fun W => rfint_r (z := 1) (r := 1) (by decide) rfl W)
  have HK := Lib.hid (fun W => rfint_r (z := 100) (r := 100) (by decide) rfl W)
  unfold UVB
  go_enter Tryz.func31, Tryz.ntmps31
  go_wp2_with fail
  refine (HO.out _).mono ?_
  rintro e w1 ⟨sx1, ax1, nx1, cx1, bx1, mx1, dx1, rfl, hr, hb, hf, hg⟩
  have E1 := Lib.hid hr.1.1
  have R1 := Lib.hid (S0.out.ret2 hb hr.1.2 hf hr.2.2 hg)
  have FF1 := Lib.hid (hf.mono S0.out.below.size)
  have FG1 := Lib.hid (hg.mono S0.out.below.size)
  clear hr hb hf hg
  have P1 := Lib.hid (R1.out.put [.int .i64 0, .slice none 0 0, .int .i64 0, .slice none 0 0] 28)
  have Q1 := Lib.hid (Sf.row (pre := []) P1.out [.int .i64 sx1, .slice ax1 nx1 cx1, .int .i64 1, .slice bx1 mx1 dx1])
  go_wp2_with (first | refine wpList_store_row rfl _ _ _ rfl _ #[.int .i64 sx1, .slice ax1 nx1 cx1, .int .i64 1, .slice bx1 mx1 dx1] rfl rfl _ _ (P1.out.box _ List.mem_cons_self) (by kernel_rfl) rfl (by simp [Value.oneCell']) ?_)
  refine (HK.out _).mono ?_
  rintro e w2 ⟨sx2, ax2, nx2, cx2, bx2, mx2, dx2, rfl, hr, hb, hf, hg⟩
  have E2 := Lib.hid hr.1.1
  have R2 := Lib.hid (Q1.out.ret2 hb hr.1.2 hf hr.2.2 hg)
  have FF2 := Lib.hid (hf.mono Q1.out.below.size)
  have FG2 := Lib.hid (hg.mono Q1.out.below.size)
  clear hr hb hf hg
  go_wp2_with fail
  refine (u9base_k 4 (by omega) 1 _ _ _ _ _ _ _ _ _).mono ?_
  rintro e w3 ⟨rfl, hb⟩
  have R3 := Lib.hid (R2.out.later hb)
  clear hb
  have Q2 := Lib.hid (Sf.row (pre := [(w1.heap.size, 28, [.int .i64 sx1, .slice ax1 nx1 cx1, .int .i64 1, .slice bx1 mx1 dx1])]) R3.out [.int .i64 ((up zf 4 1) 0), .int .i64 ((up zf 4 1) 1), .int .i64 ((up zf 4 1) 2), .int .i64 ((up zf 4 1) 3), .int .i64 ((up zf 4 1) 4), .int .i64 ((up zf 4 1) 5), .int .i64 sx2, .slice ax2 nx2 cx2, .int .i64 1, .slice bx2 mx2 dx2])
  go_wp2_with (first | refine wpList_store_row rfl _ _ _ rfl _ #[.int .i64 ((up zf 4 1) 0), .int .i64 ((up zf 4 1) 1), .int .i64 ((up zf 4 1) 2), .int .i64 ((up zf 4 1) 3), .int .i64 ((up zf 4 1) 4), .int .i64 ((up zf 4 1) 5), .int .i64 sx2, .slice ax2 nx2 cx2, .int .i64 1, .slice bx2 mx2 dx2] rfl rfl _ _ (R3.out.box _ mq1) (by kernel_rfl) rfl (by simp [Value.oneCell']) ?_)
  refine bodyPost_ret (ret_row rfl _ _ _ _ rfl (run_loadVar_row _ _ _ _ _ (0, 0) _ (Q2.out.box _ mq1) Tryz.underlying30 rfl (by kernel_rfl))) rfl ⟨_, _, _, _, _, _, _, rfl, (Q2.out.fr (v := .slice ax2 nx2 cx2) (u := .slice bx2 mx2 dx2) (r := 100) mq0 mq1 E2.out), Q2.out.below, FF2.out, FG2.out⟩

set_option maxHeartbeats 4000000 in
theorem u9sym_pc (w : World) : Calls Tryz.prog 31 #[.string ⟨#[112, 99]⟩] w (UVB (up zf 5 1) 1 true w) := by
  have s0 := ((Sf.start w).put [.int .i64 0, .int .i64 0, .int .i64 0, .int .i64 0, .int .i64 0, .int .i64 0, .int .i64 0, .slice none 0 0, .int .i64 0, .slice none 0 0] 30)
  try simp only [World.size_alloc] at s0
  have S0 := Lib.hid s0
  clear s0
  have HO := Lib.hid (fun W => rfint_r (z := 1) (r := 1) (by decide) rfl W)
  unfold UVB
  go_enter Tryz.func31, Tryz.ntmps31
  go_wp2_with fail
  refine (HO.out _).mono ?_
  rintro e w1 ⟨sx1, ax1, nx1, cx1, bx1, mx1, dx1, rfl, hr, hb, hf, hg⟩
  have E1 := Lib.hid hr.1.1
  have R1 := Lib.hid (S0.out.ret2 hb hr.1.2 hf hr.2.2 hg)
  have FF1 := Lib.hid (hf.mono S0.out.below.size)
  have FG1 := Lib.hid (hg.mono S0.out.below.size)
  clear hr hb hf hg
  have P1 := Lib.hid (R1.out.put [.int .i64 0, .slice none 0 0, .int .i64 0, .slice none 0 0] 28)
  have Q1 := Lib.hid (Sf.row (pre := []) P1.out [.int .i64 sx1, .slice ax1 nx1 cx1, .int .i64 1, .slice bx1 mx1 dx1])
  obtain ⟨q2, q3, q4, q5⟩ := Fb.cells4 (Q1.out.box (w1.heap.size, 28, [.int .i64 sx1, .slice ax1 nx1 cx1, .int .i64 1, .slice bx1 mx1 dx1]) mq0)
  go_wp2_with (first | refine wpList_store_row rfl _ _ _ rfl _ #[.int .i64 sx1, .slice ax1 nx1 cx1, .int .i64 1, .slice bx1 mx1 dx1] rfl rfl _ _ (P1.out.box _ List.mem_cons_self) (by kernel_rfl) rfl (by simp [Value.oneCell']) ?_)
  clear q2 q3 q4 q5
  refine (u9base_k 5 (by omega) 1 _ _ _ _ _ _ _ _ _).mono ?_
  rintro e w2 ⟨rfl, hb⟩
  have R2 := Lib.hid (Q1.out.later hb)
  clear hb
  have Q6 := Lib.hid (Sf.row (pre := [(w1.heap.size, 28, [.int .i64 sx1, .slice ax1 nx1 cx1, .int .i64 1, .slice bx1 mx1 dx1])]) R2.out [.int .i64 ((up zf 5 1) 0), .int .i64 ((up zf 5 1) 1), .int .i64 ((up zf 5 1) 2), .int .i64 ((up zf 5 1) 3), .int .i64 ((up zf 5 1) 4), .int .i64 ((up zf 5 1) 5), .int .i64 sx1, .slice ax1 nx1 cx1, .int .i64 1, .slice bx1 mx1 dx1])
  go_wp2_with (first | refine wpList_store_row rfl _ _ _ rfl _ #[.int .i64 ((up zf 5 1) 0), .int .i64 ((up zf 5 1) 1), .int .i64 ((up zf 5 1) 2), .int .i64 ((up zf 5 1) 3), .int .i64 ((up zf 5 1) 4), .int .i64 ((up zf 5 1) 5), .int .i64 sx1, .slice ax1 nx1 cx1, .int .i64 1, .slice bx1 mx1 dx1] rfl rfl _ _ (R2.out.box _ mq1) (by kernel_rfl) rfl (by simp [Value.oneCell']) ?_)
  refine bodyPost_ret (ret_row rfl _ _ _ _ rfl (run_loadVar_row _ _ _ _ _ (0, 0) _ (Q6.out.box _ mq1) Tryz.underlying30 rfl (by kernel_rfl))) rfl ⟨_, _, _, _, _, _, _, rfl, (Q6.out.fr (v := .slice ax1 nx1 cx1) (u := .slice bx1 mx1 dx1) (r := 1) mq0 mq1 E1.out), Q6.out.below, FF1.out, FG1.out⟩

set_option maxHeartbeats 8000000 in
theorem u9sym_none (s : ByteArray) (h : symL s.data.toList = none) (w : World) : Calls Tryz.prog 31 #[.string s] w (Gives (.tuple #[.agg (uc zf 0 (.slice none 0 0) 0 (.slice none 0 0)), .bool false]) w) := by
  obtain ⟨pg, qg, rg⟩ := no_bytes s [103] (by intro e; rw [e] at h; exact sym_not _ rfl h)
  obtain ⟨pt, qt, rt⟩ := no_bytes s [116] (by intro e; rw [e] at h; exact sym_not _ rfl h)
  obtain ⟨pm, qm, rm⟩ := no_bytes s [109] (by intro e; rw [e] at h; exact sym_not _ rfl h)
  obtain ⟨pl, ql, rl⟩ := no_bytes s [108] (by intro e; rw [e] at h; exact sym_not _ rfl h)
  obtain ⟨ps, qs, rs⟩ := no_bytes s [115] (by intro e; rw [e] at h; exact sym_not _ rfl h)
  obtain ⟨ph, qh, rh⟩ := no_bytes s [104] (by intro e; rw [e] at h; exact sym_not _ rfl h)
  obtain ⟨pd, qd, rd⟩ := no_bytes s [100] (by intro e; rw [e] at h; exact sym_not _ rfl h)
  obtain ⟨pJ, qJ, rJ⟩ := no_bytes s [74] (by intro e; rw [e] at h; exact sym_not _ rfl h)
  obtain ⟨pWh, qWh, rWh⟩ := no_bytes s [87, 104] (by intro e; rw [e] at h; exact sym_not _ rfl h)
  obtain ⟨pcent, qcent, rcent⟩ := no_bytes s [99, 101, 110, 116] (by intro e; rw [e] at h; exact sym_not _ rfl h)
  obtain ⟨peur, qeur, reur⟩ := no_bytes s [101, 117, 114] (by intro e; rw [e] at h; exact sym_not _ rfl h)
  obtain ⟨ppc, qpc, rpc⟩ := no_bytes s [112, 99] (by intro e; rw [e] at h; exact sym_not _ rfl h)
  have s0 := ((Sf.start w).put [.int .i64 0, .int .i64 0, .int .i64 0, .int .i64 0, .int .i64 0, .int .i64 0, .int .i64 0, .slice none 0 0, .int .i64 0, .slice none 0 0] 30)
  try simp only [World.size_alloc] at s0
  have S0 := Lib.hid s0
  clear s0
  have HO := Lib.hid (fun W => rfint_r (z := 1) (r := 1) (by decide) rfl W)
  clear h
  unfold uc
  clear pg rg
  clear pt rt
  clear pm rm
  clear pl rl
  clear ps rs
  clear ph rh
  clear pd rd
  clear pJ rJ
  clear pWh rWh
  clear pcent rcent
  clear peur reur
  clear ppc rpc
  have Hd := Lib.hid qd
  clear qd
  have HJ := Lib.hid qJ
  clear qJ
  have HWh := Lib.hid qWh
  clear qWh
  have Hcent := Lib.hid qcent
  clear qcent
  have Heur := Lib.hid qeur
  clear qeur
  have Hpc := Lib.hid qpc
  clear qpc
  go_enter Tryz.func31, Tryz.ntmps31
  go_wp2_with fail
  refine (HO.out _).mono ?_
  rintro e w1 ⟨sx1, ax1, nx1, cx1, bx1, mx1, dx1, rfl, hr, hb, hf, hg⟩
  have E1 := Lib.hid hr.1.1
  have R1 := Lib.hid (S0.out.ret2 hb hr.1.2 hf hr.2.2 hg)
  have FF1 := Lib.hid (hf.mono S0.out.below.size)
  have FG1 := Lib.hid (hg.mono S0.out.below.size)
  clear hr hb hf hg
  have P1 := Lib.hid (R1.out.put [.int .i64 0, .slice none 0 0, .int .i64 0, .slice none 0 0] 28)
  have Q1 := Lib.hid (Sf.row (pre := []) P1.out [.int .i64 sx1, .slice ax1 nx1 cx1, .int .i64 1, .slice bx1 mx1 dx1])
  have Q2 := Lib.hid (Sf.row (pre := [(w1.heap.size, 28, [.int .i64 sx1, .slice ax1 nx1 cx1, .int .i64 1, .slice bx1 mx1 dx1])]) Q1.out [.int .i64 0, .int .i64 0, .int .i64 0, .int .i64 0, .int .i64 0, .int .i64 0, .int .i64 0, .slice none 0 0, .int .i64 0, .slice none 0 0])
  go_wp2_with (first | refine wpList_store_row rfl _ _ _ rfl _ #[.int .i64 sx1, .slice ax1 nx1 cx1, .int .i64 1, .slice bx1 mx1 dx1] rfl rfl _ _ (P1.out.box _ List.mem_cons_self) (by kernel_rfl) rfl (by simp [Value.oneCell']) ?_ | exact absurd (Hd.out.symm.trans ‹(s.toList == [100]) = true›) Bool.false_ne_true | exact absurd (HJ.out.symm.trans ‹(s.toList == [74]) = true›) Bool.false_ne_true | exact absurd (HWh.out.symm.trans ‹(s.toList == [87, 104]) = true›) Bool.false_ne_true | exact absurd (Hcent.out.symm.trans ‹(s.toList == [99, 101, 110, 116]) = true›) Bool.false_ne_true | exact absurd (Heur.out.symm.trans ‹(s.toList == [101, 117, 114]) = true›) Bool.false_ne_true | exact absurd (Hpc.out.symm.trans ‹(s.toList == [112, 99]) = true›) Bool.false_ne_true | refine wpList_store_row rfl _ _ _ rfl _ #[.int .i64 0, .int .i64 0, .int .i64 0, .int .i64 0, .int .i64 0, .int .i64 0, .int .i64 0, .slice none 0 0, .int .i64 0, .slice none 0 0] rfl rfl _ _ (Q1.out.box _ mq1) (by kernel_rfl) rfl (by simp [Value.oneCell']) ?_)
  refine bodyPost_ret (ret_row rfl _ _ _ _ rfl (run_loadVar_row _ _ _ _ _ (0, 0) _ (Q2.out.box _ mq1) Tryz.underlying30 rfl (by kernel_rfl))) rfl ⟨rfl, Q2.out.below⟩
theorem u9sym_some (l : List UInt8) {b : Nat} {n : Int} {q : Rat} (h : symL l = some (b, n, q)) (w : World) : Calls Tryz.prog 31 #[.string ⟨l.toArray⟩] w (UVB (up zf b n) q true w) := by
  unfold symL at h
  by_cases eg : l = [103]
  · rw [if_pos eg] at h; subst eg; injection h with h; injection h with h1 h2; injection h2 with h2 h3; subst h1 h2 h3; exact u9sym_g w
  rw [if_neg eg] at h
  by_cases et : l = [116]
  · rw [if_pos et] at h; subst et; injection h with h; injection h with h1 h2; injection h2 with h2 h3; subst h1 h2 h3; exact u9sym_t w
  rw [if_neg et] at h
  by_cases em : l = [109]
  · rw [if_pos em] at h; subst em; injection h with h; injection h with h1 h2; injection h2 with h2 h3; subst h1 h2 h3; exact u9sym_m w
  rw [if_neg em] at h
  by_cases el : l = [108]
  · rw [if_pos el] at h; subst el; injection h with h; injection h with h1 h2; injection h2 with h2 h3; subst h1 h2 h3; exact u9sym_l w
  rw [if_neg el] at h
  by_cases es : l = [115]
  · rw [if_pos es] at h; subst es; injection h with h; injection h with h1 h2; injection h2 with h2 h3; subst h1 h2 h3; exact u9sym_s w
  rw [if_neg es] at h
  by_cases eh : l = [104]
  · rw [if_pos eh] at h; subst eh; injection h with h; injection h with h1 h2; injection h2 with h2 h3; subst h1 h2 h3; exact u9sym_h w
  rw [if_neg eh] at h
  by_cases ed : l = [100]
  · rw [if_pos ed] at h; subst ed; injection h with h; injection h with h1 h2; injection h2 with h2 h3; subst h1 h2 h3; exact u9sym_d w
  rw [if_neg ed] at h
  by_cases eJ : l = [74]
  · rw [if_pos eJ] at h; subst eJ; injection h with h; injection h with h1 h2; injection h2 with h2 h3; subst h1 h2 h3; exact u9sym_J w
  rw [if_neg eJ] at h
  by_cases eWh : l = [87, 104]
  · rw [if_pos eWh] at h; subst eWh; injection h with h; injection h with h1 h2; injection h2 with h2 h3; subst h1 h2 h3; exact u9sym_Wh w
  rw [if_neg eWh] at h
  by_cases ecent : l = [99, 101, 110, 116]
  · rw [if_pos ecent] at h; subst ecent; injection h with h; injection h with h1 h2; injection h2 with h2 h3; subst h1 h2 h3; exact u9sym_cent w
  rw [if_neg ecent] at h
  by_cases eeur : l = [101, 117, 114]
  · rw [if_pos eeur] at h; subst eeur; injection h with h; injection h with h1 h2; injection h2 with h2 h3; subst h1 h2 h3; exact u9sym_eur w
  rw [if_neg eeur] at h
  by_cases epc : l = [112, 99]
  · rw [if_pos epc] at h; subst epc; injection h with h; injection h with h1 h2; injection h2 with h2 h3; subst h1 h2 h3; exact u9sym_pc w
  rw [if_neg epc] at h
  cases h
end Go.Proofs.YtmhdhabgdlefjaaGreatDoor.Un

namespace Go.Proofs.YtmhdhabgdlefjaaGreatDoor.Un
open Go Dm

/-- The name, the base, the power, above, below, and whether prefixes are allowed. -/
def symT : List (List UInt8 × Nat × Int × Int × Int × Bool) :=
  [([103], 0, 1, 1, 1, true), ([116], 0, 1, 1000000, 1, false), ([109], 1, 1, 1, 1, true), ([108], 1, 3, 1, 1000, true), ([115], 2, 1, 1, 1, true), ([104], 2, 1, 3600, 1, false),
   ([100], 2, 1, 86400, 1, false), ([74], 3, 1, 1, 1, true), ([87, 104], 3, 1, 3600, 1, true), ([99, 101, 110, 116], 4, 1, 1, 1, false), ([101, 117, 114], 4, 1, 100, 1, false), ([112, 99], 5, 1, 1, 1, false)]
/-- The factor of a prefix, or of none. -/
def preP (p : List UInt8) : Option (Int × Int) :=
  if p = [] then some (1, 1) else if p = [107] then some (1000, 1) else if p = [77] then some (1000000, 1) else if p = [71] then some (1000000000, 1) else if p = [109] then some (1, 1000) else none
theorem preP_cases {p : List UInt8} {a b : Int} (h : preP p = some (a, b)) : (p = [] ∧ a = 1 ∧ b = 1) ∨ (p = [107] ∧ a = 1000 ∧ b = 1) ∨ (p = [77] ∧ a = 1000000 ∧ b = 1) ∨ (p = [71] ∧ a = 1000000000 ∧ b = 1) ∨ (p = [109] ∧ a = 1 ∧ b = 1000) := by
  unfold preP at h
  by_cases e0 : p = []
  · rw [if_pos e0] at h; injection h with h; injection h with h1 h2; exact .inl ⟨e0, h1.symm, h2.symm⟩
  rw [if_neg e0] at h
  by_cases e1 : p = [107]
  · rw [if_pos e1] at h; injection h with h; injection h with h1 h2; exact .inr (.inl ⟨e1, h1.symm, h2.symm⟩)
  rw [if_neg e1] at h
  by_cases e2 : p = [77]
  · rw [if_pos e2] at h; injection h with h; injection h with h1 h2; exact .inr (.inr (.inl ⟨e2, h1.symm, h2.symm⟩))
  rw [if_neg e2] at h
  by_cases e3 : p = [71]
  · rw [if_pos e3] at h; injection h with h; injection h with h1 h2; exact .inr (.inr (.inr (.inl ⟨e3, h1.symm, h2.symm⟩)))
  rw [if_neg e3] at h
  by_cases e4 : p = [109]
  · rw [if_pos e4] at h; injection h with h; injection h with h1 h2; exact .inr (.inr (.inr (.inr ⟨e4, h1.symm, h2.symm⟩)))
  rw [if_neg e4] at h; cases h
/-- The factor as the program computes it. -/
def facP (a b xa xb : Int) : Rat := Rat.divInt (a * xa) (b * xb)
theorem lt12 {k : Nat} (h : k < 12) : k = 0 ∨ k = 1 ∨ k = 2 ∨ k = 3 ∨ k = 4 ∨ k = 5 ∨ k = 6 ∨ k = 7 ∨ k = 8 ∨ k = 9 ∨ k = 10 ∨ k = 11 := by omega
/-- A prefix and the name of a symbol that can have it are a word. -/
theorem word_hit {k : Nat} {p nm : List UInt8} {b : Nat} {n xa xb a c : Int} {t : Bool} (hk : symT[k]? = some (nm, b, n, xa, xb, t)) (hp : preP p = some (a, c)) (ht : p = [] ∨ t = true) :
    wordL (p ++ nm) = some (b, n, facP a c xa xb) ∧ b < 6 ∧ (1 ≤ a ∧ a ≤ 1000000000) ∧ (1 ≤ c ∧ c ≤ 1000) ∧ (1 ≤ xa ∧ xa ≤ 1000000) ∧ (1 ≤ xb ∧ xb ≤ 1000) := by
  have hl : k < 12 := (List.getElem?_eq_some_iff.1 hk).1
  have hp := preP_cases hp
  obtain rfl | rfl | rfl | rfl | rfl | rfl | rfl | rfl | rfl | rfl | rfl | rfl := lt12 hl
  all_goals
    simp only [symT, List.getElem?_cons_succ, List.getElem?_cons_zero, Option.some.injEq, Prod.mk.injEq] at hk
    obtain ⟨rfl, rfl, rfl, rfl, rfl, rfl⟩ := hk
    rcases hp with ⟨rfl, rfl, rfl⟩ | ⟨rfl, rfl, rfl⟩ | ⟨rfl, rfl, rfl⟩ | ⟨rfl, rfl, rfl⟩ | ⟨rfl, rfl, rfl⟩
  all_goals first
    | (exfalso; revert ht; decide)
    | exact ⟨by decide +kernel, by decide, by decide, by decide, by decide, by decide⟩
theorem sym_in {l : List UInt8} {u : Nat × Int × Rat} (h : symL l = some u) : ∃ (k b : Nat) (n xa xb : Int) (t : Bool), symT[k]? = some (l, b, n, xa, xb, t) ∧ (canP l = true → t = true) := by
  unfold symL at h
  by_cases e0 : l = [103]
  · subst e0; exact ⟨0, _, _, _, _, _, rfl, by decide⟩
  rw [if_neg e0] at h
  by_cases e1 : l = [116]
  · subst e1; exact ⟨1, _, _, _, _, _, rfl, by decide⟩
  rw [if_neg e1] at h
  by_cases e2 : l = [109]
  · subst e2; exact ⟨2, _, _, _, _, _, rfl, by decide⟩
  rw [if_neg e2] at h
  by_cases e3 : l = [108]
  · subst e3; exact ⟨3, _, _, _, _, _, rfl, by decide⟩
  rw [if_neg e3] at h
  by_cases e4 : l = [115]
  · subst e4; exact ⟨4, _, _, _, _, _, rfl, by decide⟩
  rw [if_neg e4] at h
  by_cases e5 : l = [104]
  · subst e5; exact ⟨5, _, _, _, _, _, rfl, by decide⟩
  rw [if_neg e5] at h
  by_cases e6 : l = [100]
  · subst e6; exact ⟨6, _, _, _, _, _, rfl, by decide⟩
  rw [if_neg e6] at h
  by_cases e7 : l = [74]
  · subst e7; exact ⟨7, _, _, _, _, _, rfl, by decide⟩
  rw [if_neg e7] at h
  by_cases e8 : l = [87, 104]
  · subst e8; exact ⟨8, _, _, _, _, _, rfl, by decide⟩
  rw [if_neg e8] at h
  by_cases e9 : l = [99, 101, 110, 116]
  · subst e9; exact ⟨9, _, _, _, _, _, rfl, by decide⟩
  rw [if_neg e9] at h
  by_cases e10 : l = [101, 117, 114]
  · subst e10; exact ⟨10, _, _, _, _, _, rfl, by decide⟩
  rw [if_neg e10] at h
  by_cases e11 : l = [112, 99]
  · subst e11; exact ⟨11, _, _, _, _, _, rfl, by decide⟩
  rw [if_neg e11] at h; cases h
theorem pre_in {c : UInt8} {r : Rat} (h : preL c = some r) : ∃ a b, preP [c] = some (a, b) := by
  unfold preL at h
  by_cases e1 : c = 107
  · subst e1; exact ⟨_, _, rfl⟩
  rw [if_neg e1] at h
  by_cases e2 : c = 77
  · subst e2; exact ⟨_, _, rfl⟩
  rw [if_neg e2] at h
  by_cases e3 : c = 71
  · subst e3; exact ⟨_, _, rfl⟩
  rw [if_neg e3] at h
  by_cases e4 : c = 109
  · subst e4; exact ⟨_, _, rfl⟩
  rw [if_neg e4] at h; cases h
/-- No symbol fits. -/
def Miss (l : List UInt8) (k : Nat) : Prop := ∀ i, i < k → ∀ nm b n xa xb t, symT[i]? = some (nm, b, n, xa, xb, t) → ∀ p a c, preP p = some (a, c) → (p = [] ∨ t = true) → l ≠ p ++ nm
theorem miss_zero (l : List UInt8) : Miss l 0 := fun i hi => absurd hi (by omega)
theorem word_miss {l : List UInt8} (h : Miss l 12) : wordL l = none := by
  have hs : symL l = none := by
    rcases e : symL l with _ | u
    · rfl
    · obtain ⟨k, b, n, xa, xb, t, hk, _⟩ := sym_in e
      exact absurd rfl (h k (List.getElem?_eq_some_iff.1 hk).1 l b n xa xb t hk [] 1 1 rfl (.inl rfl))
  unfold wordL
  rw [hs]
  cases l with
  | nil => rfl
  | cons c r =>
    simp only
    rcases e : preL c with _ | p
    · rfl
    · simp only
      by_cases hc : canP r = true
      · rw [if_pos hc]
        rcases e2 : symL r with _ | u
        · rfl
        · exfalso
          obtain ⟨k, b, n, xa, xb, t, hk, ht⟩ := sym_in e2
          obtain ⟨a, b', hab⟩ := pre_in e
          exact h k (List.getElem?_eq_some_iff.1 hk).1 r b n xa xb t hk [c] a b' hab (.inr (ht hc)) rfl
      · rw [if_neg hc]
end Go.Proofs.YtmhdhabgdlefjaaGreatDoor.Un
