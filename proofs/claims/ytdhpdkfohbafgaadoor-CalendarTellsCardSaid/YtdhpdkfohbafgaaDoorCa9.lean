/- The examples of the document, as the laws of the calendar look at them. -/
import Derived.Test.YtdhpdkfohbafgaaDoorCa8
set_option maxRecDepth 100000
namespace Go.Proofs.YtdhpdkfohbafgaaDoor.Ca
open Go.RowKit Go.Shelf Go.Lib Go.Sort

set_option maxHeartbeats 1000000 in
theorem is_any (n : Nat) (hn : n ≤ 100000) (w : World) (he : Env w) : Calls Tryd.prog 19 #[.int .i64 (n : Nat), .int .i64 (yr n : Nat), .int .i64 (mn n : Nat), .int .i64 (dm n : Nat)] w (Gives (.bool true) w) := by
  have HD := Lib.hid (date_ok n hn)
  have HY := Lib.hid (day_ok n hn)
  have HE := Lib.hid he
  clear he
  generalize yr n = Y at HD HY ⊢
  generalize mn n = M at HD HY ⊢
  generalize dm n = D at HD HY ⊢
  go_enter Tryd.func19, Tryd.ntmps19
  go_wp2_with fail
  refine (HD.out _ HE.out).mono ?_
  rintro e w1 ⟨rfl, hb⟩
  have HB := Lib.hid hb
  clear hb
  go_wp2_with fail
  refine (HY.out _ (HE.out.below HB.out)).mono ?_
  rintro e w2 ⟨rfl, hb⟩
  have HB2 := Lib.hid (HB.out.trans (hb.mono HB.out.size))
  clear hb
  go_wp2_with fail
  go_ret
  exact ⟨rfl, HB2.out⟩

theorem mo_0 : mo 0 = 0 := mo_eq (by decide) (by decide) (by decide)
theorem mo_30 : mo 30 = 0 := mo_eq (by decide) (by decide) (by decide)
theorem mo_45 : mo 45 = 1 := mo_eq (by decide) (by decide) (by decide)
theorem mo_59 : mo 59 = 1 := mo_eq (by decide) (by decide) (by decide)
theorem mo_365 : mo 365 = 11 := mo_eq (by decide) (by decide) (by decide)
theorem mo_max : mo 100000 = 3285 := mo_eq (by decide) (by decide) (by decide)
theorem st_1 : st 1 = 31 := by decide
theorem st_2 : st 2 = 60 := by decide
theorem st_11 : st 11 = 335 := by decide
theorem st_max : st 3285 = 99985 := by decide

theorem x_is0 (w : World) (he : Env w) : Calls Tryd.prog 19 #[.int .i64 0, .int .i64 2000, .int .i64 1, .int .i64 1] w (Gives (.bool true) w) := by
  have := is_any 0 (by omega) w he
  unfold yr mn dm at this; rw [mo_0, st_0] at this; exact this
theorem x_is59 (w : World) (he : Env w) : Calls Tryd.prog 19 #[.int .i64 59, .int .i64 2000, .int .i64 2, .int .i64 29] w (Gives (.bool true) w) := by
  have := is_any 59 (by omega) w he
  unfold yr mn dm at this; rw [mo_59, st_1] at this; exact this
theorem x_ismax (w : World) (he : Env w) : Calls Tryd.prog 19 #[.int .i64 100000, .int .i64 2273, .int .i64 10, .int .i64 16] w (Gives (.bool true) w) := by
  have := is_any 100000 (by omega) w he
  unfold yr mn dm at this; rw [mo_max, st_max] at this; exact this
theorem x_day1 (w : World) (he : Env w) : Calls Tryd.prog 11 #[.int .i64 2001, .int .i64 2, .int .i64 29] w (Gives (.tuple #[.int .i64 0, .int .i64 3]) w) := by
  refine day_bad _ _ _ (fun ⟨n, hn, h1, h2, h3⟩ => ?_) w he
  have e : mo n = 13 := by unfold yr mn at *; omega
  have := (dm_spec hn).2.1
  rw [e, show len 13 = 28 by decide] at this
  omega
theorem x_day2 (w : World) (he : Env w) : Calls Tryd.prog 11 #[.int .i64 2000, .int .i64 12, .int .i64 31] w (Gives (.tuple #[.int .i64 365, .int .i64 0]) w) := by
  have := day_ok 365 (by omega) w he
  unfold yr mn dm at this; rw [mo_365, st_11] at this; exact this
theorem x_week0 (w : World) : Calls Tryd.prog 13 #[.int .i64 0] w (Gives (.tuple #[.int .i64 5, .int .i64 0]) w) := week_ok 0 (by omega) w
theorem x_week2 (w : World) : Calls Tryd.prog 13 #[.int .i64 2] w (Gives (.tuple #[.int .i64 0, .int .i64 0]) w) := week_ok 2 (by omega) w
theorem x_add (w : World) (he : Env w) : Calls Tryd.prog 15 #[.int .i64 30, .int .i64 1] w (Gives (.tuple #[.int .i64 59, .int .i64 0]) w) := by
  have := add_in 30 (by omega) 1 1 (by rw [mo_30]; rfl) (by omega) w he
  have e : addN 30 1 = 59 := by unfold addN dm; rw [mo_30, st_0, st_1]; decide
  rw [e, addV_near 59 (by omega)] at this
  exact this
theorem x_month (w : World) (he : Env w) : Calls Tryd.prog 17 #[.int .i64 45] w (Gives (.tuple #[.int .i64 31, .int .i64 59, .int .i64 0]) w) := by
  have := month_ok 45 (by omega) w he
  unfold first last at this; rw [mo_45, st_1, st_2] at this; exact this
theorem x_monthmax (w : World) (he : Env w) : Calls Tryd.prog 17 #[.int .i64 100000] w (Gives (.tuple #[.int .i64 99985, .int .i64 100000, .int .i64 0]) w) := by
  have := month_ok 100000 (by omega) w he
  unfold first last at this; rw [mo_max, st_max, show st (3285 + 1) = 100016 from st_last] at this; exact this

set_option maxHeartbeats 1000000 in
theorem sane_any (w : World) (he : Env w) : Calls Tryd.prog 8 #[] w (Gives (.bool true) w) := by
  have HE := Lib.hid he
  clear he
  go_enter Tryd.func8, Tryd.ntmps8
  go_wp2_with fail
  refine (x_day1 _ HE.out).mono ?_
  rintro e w1 ⟨rfl, hb⟩
  have HB1 := Lib.hid hb
  clear hb
  go_wp2_with fail
  refine (x_day2 _ (HE.out.below HB1.out)).mono ?_
  rintro e w2 ⟨rfl, hb⟩
  have HB2 := Lib.hid (HB1.out.trans (hb.mono HB1.out.size))
  clear hb
  go_wp2_with fail
  refine (x_week0 _).mono ?_
  rintro e w3 ⟨rfl, hb⟩
  have HB3 := Lib.hid (HB2.out.trans (hb.mono HB2.out.size))
  clear hb
  go_wp2_with fail
  refine (x_week2 _).mono ?_
  rintro e w4 ⟨rfl, hb⟩
  have HB4 := Lib.hid (HB3.out.trans (hb.mono HB3.out.size))
  clear hb
  go_wp2_with fail
  refine (x_add _ (HE.out.below HB4.out)).mono ?_
  rintro e w5 ⟨rfl, hb⟩
  have HB5 := Lib.hid (HB4.out.trans (hb.mono HB4.out.size))
  clear hb
  go_wp2_with fail
  refine (x_month _ (HE.out.below HB5.out)).mono ?_
  rintro e w6 ⟨rfl, hb⟩
  have HB6 := Lib.hid (HB5.out.trans (hb.mono HB5.out.size))
  clear hb
  go_wp2_with fail
  refine (x_monthmax _ (HE.out.below HB6.out)).mono ?_
  rintro e w7 ⟨rfl, hb⟩
  have HB7 := Lib.hid (HB6.out.trans (hb.mono HB6.out.size))
  clear hb
  go_wp2_with fail
  refine (x_is0 _ (HE.out.below HB7.out)).mono ?_
  rintro e w8 ⟨rfl, hb⟩
  have HB8 := Lib.hid (HB7.out.trans (hb.mono HB7.out.size))
  clear hb
  go_wp2_with fail
  refine (x_is59 _ (HE.out.below HB8.out)).mono ?_
  rintro e w9 ⟨rfl, hb⟩
  have HB9 := Lib.hid (HB8.out.trans (hb.mono HB8.out.size))
  clear hb
  go_wp2_with fail
  refine (x_ismax _ (HE.out.below HB9.out)).mono ?_
  rintro e w10 ⟨rfl, hb⟩
  have HB10 := Lib.hid (HB9.out.trans (hb.mono HB9.out.size))
  clear hb
  go_wp2_with fail
  go_ret
  exact ⟨rfl, HB10.out⟩
end Go.Proofs.YtdhpdkfohbafgaaDoor.Ca
