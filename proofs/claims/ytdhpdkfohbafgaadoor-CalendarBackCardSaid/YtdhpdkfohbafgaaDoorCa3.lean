/- The contracts of the calendar's functions: the month of a day, dates, days, weekdays, sums. -/
import Derived.Shelf.SlSorted.Search
import Derived.Test.YtdhpdkfohbafgaaDoorShelf
import Derived.Test.YtdhpdkfohbafgaaDoorCa2
set_option maxRecDepth 100000
namespace Go.Proofs.YtdhpdkfohbafgaaDoor.Ca
open Go.RowKit Go.Shelf Go.Lib Go.Sort

theorem below_grow (w : World) (o : Obj) (q : Nat) (os : Array Obj) : RowKit.Below w.heap.size w (grow ((w.alloc o).drewN q) os) :=
  ((Below.refl _ w).alloc (Nat.le_refl _) o).trans (below_grown_sl w.heap.size (w.alloc o) q os (by simp))

set_option maxHeartbeats 1000000 in
theorem monthOf_any (d : Nat) (w : World) (he : Env w) : Calls Tryd.prog 21 #[.int .i64 (d : Nat)] w (Gives (.int .i64 (mo d : Nat)) w) := by
  have eg : ∀ args w, (callFunc 29 args).run Tryd.prog w = .ok (.enter 29 args) w := enters_of Tryd.func29 (by kernel_rfl) rfl
  have hS := Any.sort_Search (P := Tryd.prog) (ρ := Tryd.searchL_ren) Tryd.searchL 29 #[.pointer (some ⟨w.heap.size, 0, none⟩)] 3288 (fun i => decide (d < st (i + 1))) (w.alloc (.cells #[.int .i64 (d : Nat)] 3)) eg (by omega)
    (fun m os i hi => (closure_any w.heap.size d i (by omega) _ (he.below (below_grow w _ m os)) (cell_grown (by simp) (cell_new_sl w _ _) m os)).mono
      fun _ _ ⟨he, q, hq⟩ => ⟨he, q, #[], by rw [hq, grow_empty]⟩)
    (fun a b hab _ h => by have := st_mono (show a + 1 ≤ b + 1 by omega); simp at h ⊢; omega)
  change Calls Tryd.prog 28 _ _ _ at hS
  have HM : (List.range 3288).countP (fun i => !decide (d < st (i + 1))) = mo d := rfl
  rw [HM] at hS
  have HS := Lib.hid hS
  clear hS HM he eg
  generalize mo d = M at HS ⊢
  go_enter Tryd.func21, Tryd.ntmps21
  go_wp2_with fail
  refine HS.out.mono ?_
  rintro e w' ⟨rfl, q, os, rfl⟩
  go_wp2_with fail
  go_ret
  exact ⟨rfl, below_grow w _ q os⟩

theorem results_tmp4 {fn : Func} {t u v x : Tmp} (h : fn.results = #[.tmp t, .tmp u, .tmp v, .tmp x]) (tmps : Array Value) (P : Program) (w : World) :
    (results fn tmps).run P w = .ok (.tuple #[tmps.getD t undef, tmps.getD u undef, tmps.getD v undef, tmps.getD x undef]) w := by
  simp [results, h]

/-- A day's year, month and day of the month. -/
def yr (d : Nat) : Nat := 2000 + mo d / 12
def mn (d : Nat) : Nat := mo d % 12 + 1
def dm (d : Nat) : Nat := d - st (mo d) + 1

theorem isDay_yes (d : Nat) (hd : d ≤ 100000) (w : World) : Calls Tryd.prog 20 #[.int .i64 (d : Nat)] w fun e w' => e = .returned (.bool true) ∧ w' = w := by
  have h1 : decide (0 ≤ (d : Int)) = true := by simp
  have h2 : decide ((d : Int) ≤ 100000) = true := by simp; omega
  go_enter Tryd.func20, Tryd.ntmps20
  go_wp2_with fail
  go_ret
  exact ⟨rfl, rfl⟩
theorem isDay_no (a : Int) (ha : a < 0 ∨ 100000 < a) (w : World) : Calls Tryd.prog 20 #[.int .i64 a] w fun e w' => e = .returned (.bool false) ∧ w' = w := by
  by_cases h : a < 0
  · have h1 : decide (0 ≤ a) = false := by simp; omega
    clear ha
    go_enter Tryd.func20, Tryd.ntmps20
    go_wp2_with fail
    go_ret
    exact ⟨rfl, rfl⟩
  · have h1 : decide (0 ≤ a) = true := by simp; omega
    have h2 : decide (a ≤ 100000) = false := by simp; omega
    clear ha
    go_enter Tryd.func20, Tryd.ntmps20
    go_wp2_with fail
    go_ret
    exact ⟨rfl, rfl⟩

set_option maxHeartbeats 1000000 in
theorem length_any (m : Nat) (hm : m ≤ 10000) (w : World) (he : Env w) : Calls Tryd.prog 25 #[.int .i64 (m : Nat)] w (Gives (.int .i64 (len m : Nat)) w) := by
  have HS1 : Hid (∀ w, Env w → Calls Tryd.prog 22 #[.int .i64 ((m : Int) + 1)] w fun e w' => e = .returned (.int .i64 (st (m + 1) : Nat)) ∧ ∃ q, w' = w.drewN q) := fun w he => start_any (m + 1) (by omega) w he
  have HS0 : Hid (∀ w, Env w → Calls Tryd.prog 22 #[.int .i64 (m : Int)] w fun e w' => e = .returned (.int .i64 (st m : Nat)) ∧ ∃ q, w' = w.drewN q) := fun w he => start_any m (by omega) w he
  have HE := Lib.hid he
  have h1 := st_succ m
  have h2 := len_le m
  have h3 := st_le m
  obtain ⟨A, hA⟩ : ∃ A, st m = A := ⟨_, rfl⟩
  obtain ⟨B, hB⟩ : ∃ B, st (m + 1) = B := ⟨_, rfl⟩
  rw [hA] at HS0 h1 h3
  rw [hB] at HS1 h1
  have HR : Hid ((len m : Int) = (B : Int) - (A : Int)) := Lib.hid (by omega)
  have b1 : A ≤ 400000 := by omega
  have b2 : B ≤ 400000 := by omega
  clear he h1 h2 h3 hA hB
  go_enter Tryd.func25, Tryd.ntmps25
  go_wp2_with fail
  refine (HS1.out _ HE.out).mono ?_
  rintro e w1 ⟨rfl, q, rfl⟩
  go_wp2_with fail
  refine (HS0.out _ (HE.out.drewN q)).mono ?_
  rintro e w1 ⟨rfl, q2, rfl⟩
  go_wp2_with fail
  go_ret
  exact ⟨by rw [HR.out]; rfl, below_drewN w _⟩

theorem mo_st (k c : Nat) (hk : k ≤ 3288) (h1 : 1 ≤ c) (h2 : c ≤ len k) : mo (st k + c - 1) = k := mo_eq hk (by omega) (by rw [st_succ]; omega)
theorem dm_st (k c : Nat) (hk : k ≤ 3288) (h1 : 1 ≤ c) (h2 : c ≤ len k) : dm (st k + c - 1) = c := by unfold dm; rw [mo_st k c hk h1 h2]; omega
theorem dm_spec {d : Nat} (h : d ≤ 100000) : 1 ≤ dm d ∧ dm d ≤ len (mo d) ∧ st (mo d) + dm d - 1 = d := by
  obtain ⟨_, h1, h2⟩ := mo_spec h
  rw [st_succ] at h2
  unfold dm
  omega

set_option maxHeartbeats 1000000 in
theorem dayIn_any (m c : Nat) (hm : m ≤ 10000) (hc : c ≤ 31) (h1 : 1 ≤ c) (w : World) (he : Env w) : Calls Tryd.prog 26 #[.int .i64 (m : Nat), .int .i64 (c : Nat)] w
    (Gives (.tuple (if st m + c - 1 ≤ 100000 then #[.int .i64 (st m + c - 1 : Nat), .int .i64 0] else #[.int .i64 0, .int .i64 3])) w) := by
  have HS0 : Hid (∀ w, Env w → Calls Tryd.prog 22 #[.int .i64 (m : Int)] w fun e w' => e = .returned (.int .i64 (st m : Nat)) ∧ ∃ q, w' = w.drewN q) := fun w he => start_any m (by omega) w he
  have HE := Lib.hid he
  have h3 := st_le m
  obtain ⟨A, hA⟩ : ∃ A, st m = A := ⟨_, rfl⟩
  rw [hA] at HS0 h3 ⊢
  have b1 : A ≤ 400000 := by omega
  by_cases h : A + c - 1 ≤ 100000
  · rw [if_pos h]
    have HY : Hid (∀ w, Calls Tryd.prog 20 #[.int .i64 ((A : Int) + (c : Int) - 1)] w fun e w' => e = .returned (.bool true) ∧ w' = w) := by
      have := isDay_yes (A + c - 1) h
      rwa [show ((A + c - 1 : Nat) : Int) = (A : Int) + (c : Int) - 1 by omega] at this
    have HR : Hid (((A + c - 1 : Nat) : Int) = (A : Int) + (c : Int) - 1) := Lib.hid (by omega)
    clear he h3 h hA
    go_enter Tryd.func26, Tryd.ntmps26
    go_wp2_with fail
    refine (HS0.out _ HE.out).mono ?_
    rintro e w1 ⟨rfl, q, rfl⟩
    go_wp2_with fail
    refine (HY.out _).mono ?_
    rintro e w1 ⟨rfl, rfl⟩
    go_wp2_with fail
    go_ret2
    exact ⟨by rw [HR.out]; rfl, below_drewN w _⟩
  · rw [if_neg h]
    have HY : Hid (∀ w, Calls Tryd.prog 20 #[.int .i64 ((A : Int) + (c : Int) - 1)] w fun e w' => e = .returned (.bool false) ∧ w' = w) := isDay_no _ (by omega)
    clear he h3 h hA
    go_enter Tryd.func26, Tryd.ntmps26
    go_wp2_with fail
    refine (HS0.out _ HE.out).mono ?_
    rintro e w1 ⟨rfl, q, rfl⟩
    go_wp2_with fail
    refine (HY.out _).mono ?_
    rintro e w1 ⟨rfl, rfl⟩
    go_wp2_with fail
    go_ret2
    exact ⟨rfl, below_drewN w _⟩

set_option maxHeartbeats 1000000 in
theorem date_ok (d : Nat) (hd : d ≤ 100000) (w : World) (he : Env w) : Calls Tryd.prog 9 #[.int .i64 (d : Nat)] w
    (Gives (.tuple #[.int .i64 (yr d : Nat), .int .i64 (mn d : Nat), .int .i64 (dm d : Nat), .int .i64 0]) w) := by
  have HY := Lib.hid (isDay_yes d hd)
  have HM := Lib.hid (monthOf_any d)
  obtain ⟨h1, h2, h3⟩ := mo_spec hd
  have HS0 := Lib.hid (start_any (mo d) (by omega))
  have HE := Lib.hid he
  obtain ⟨q, hq⟩ : ∃ q, mo d / 12 = q := ⟨_, rfl⟩
  obtain ⟨r, hr⟩ : ∃ r, mo d % 12 = r := ⟨_, rfl⟩
  have d1 : Int.tdiv ((mo d : Nat) : Int) 12 = (q : Int) := by rw [show (12 : Int) = ((12 : Nat) : Int) by rfl, quo_nat, hq]
  have d2 : Int.tmod ((mo d : Nat) : Int) 12 = (r : Int) := by rw [show (12 : Int) = ((12 : Nat) : Int) by rfl, rem_nat, hr]
  have bq : q ≤ 300 := by omega
  have br : r ≤ 12 := by omega
  have HR : Hid (((yr d : Nat) : Int) = 2000 + (q : Int) ∧ ((mn d : Nat) : Int) = (r : Int) + 1 ∧ ((dm d : Nat) : Int) = (d : Int) - (st (mo d) : Int) + 1) := Lib.hid (by unfold yr mn dm; omega)
  have hle := st_le (mo d)
  clear he h3 hq hr
  obtain ⟨M, hM⟩ : ∃ M, mo d = M := ⟨_, rfl⟩
  rw [hM] at HM HS0 h2 d1 d2 HR h1 hle
  obtain ⟨A, hA⟩ : ∃ A, st M = A := ⟨_, rfl⟩
  rw [hA] at HS0 h2 HR hle
  obtain ⟨y, hy⟩ : ∃ y, yr d = y := ⟨_, rfl⟩
  obtain ⟨m, hm⟩ : ∃ y, mn d = y := ⟨_, rfl⟩
  obtain ⟨c, hc⟩ : ∃ y, dm d = y := ⟨_, rfl⟩
  rw [hy, hm, hc] at HR ⊢
  clear hM hA hy hm hc
  go_enter Tryd.func9, Tryd.ntmps9
  go_wp2_with fail
  refine (HY.out _).mono ?_
  rintro e w1 ⟨rfl, rfl⟩
  go_wp2_with fail
  refine (HM.out _ HE.out).mono ?_
  rintro e w1 ⟨rfl, hb⟩
  have HB := Lib.hid hb
  clear hb
  go_wp2_with fail
  refine (HS0.out _ (HE.out.below HB.out)).mono ?_
  rintro e w2 ⟨rfl, qq, rfl⟩
  go_wp2_with fail
  (try simp only [Exit.inBlock, Exit.then])
  refine bodyPost_ret (results_tmp4 rfl _ _ _) rfl ?_
  exact ⟨by rw [HR.out.1, HR.out.2.1, HR.out.2.2]; rfl, HB.out.trans ((below_drewN _ _).mono HB.out.size)⟩
theorem date_bad (a : Int) (ha : a < 0 ∨ 100000 < a) (w : World) : Calls Tryd.prog 9 #[.int .i64 a] w
    (Gives (.tuple #[.int .i64 0, .int .i64 0, .int .i64 0, .int .i64 3]) w) := by
  have HY := Lib.hid (isDay_no a ha)
  clear ha
  go_enter Tryd.func9, Tryd.ntmps9
  go_wp2_with fail
  refine (HY.out _).mono ?_
  rintro e w1 ⟨rfl, rfl⟩
  go_wp2_with fail
  (try simp only [Exit.inBlock, Exit.then])
  refine bodyPost_ret (results_tmp4 rfl _ _ _) rfl ?_
  exact ⟨rfl, Below.refl _ _⟩
theorem week_ok (d : Nat) (hd : d ≤ 100000) (w : World) : Calls Tryd.prog 13 #[.int .i64 (d : Nat)] w
    (Gives (.tuple #[.int .i64 ((d + 5) % 7 : Nat), .int .i64 0]) w) := by
  have HY := Lib.hid (isDay_yes d hd)
  obtain ⟨r, hr⟩ : ∃ r, (d + 5) % 7 = r := ⟨_, rfl⟩
  have d2 : Int.tmod ((d : Int) + 5) 7 = (r : Int) := by rw [show (d : Int) + 5 = ((d + 5 : Nat) : Int) by omega, show (7 : Int) = ((7 : Nat) : Int) by rfl, rem_nat, hr]
  have br : r < 7 := by omega
  rw [hr]
  clear hr
  go_enter Tryd.func13, Tryd.ntmps13
  go_wp2_with fail
  refine (HY.out _).mono ?_
  rintro e w1 ⟨rfl, rfl⟩
  go_wp2_with fail
  go_ret2
  exact ⟨rfl, Below.refl _ _⟩
theorem week_bad (a : Int) (ha : a < 0 ∨ 100000 < a) (w : World) : Calls Tryd.prog 13 #[.int .i64 a] w
    (Gives (.tuple #[.int .i64 0, .int .i64 3]) w) := by
  have HY := Lib.hid (isDay_no a ha)
  clear ha
  go_enter Tryd.func13, Tryd.ntmps13
  go_wp2_with fail
  refine (HY.out _).mono ?_
  rintro e w1 ⟨rfl, rfl⟩
  go_wp2_with fail
  go_ret2
  exact ⟨rfl, Below.refl _ _⟩
end Go.Proofs.YtdhpdkfohbafgaaDoor.Ca
