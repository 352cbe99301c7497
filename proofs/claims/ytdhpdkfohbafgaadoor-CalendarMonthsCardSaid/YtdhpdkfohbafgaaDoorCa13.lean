/- The contract of CalendarMonths. -/
import Derived.Test.YtdhpdkfohbafgaaDoorCa9
set_option maxRecDepth 100000
namespace Go.Proofs.YtdhpdkfohbafgaaDoor.Ca
open Go.RowKit Go.Shelf Go.Lib Go.Sort

theorem mo_first {p : Nat} (hp : p ≤ 100000) : mo (first p) = mo p := by
  obtain ⟨h1, h2, h3⟩ := mo_spec hp
  exact mo_eq (by omega) (Nat.le_refl _) (by have := st_succ (mo p); have := len_ge (mo p); unfold first; omega)
theorem month_facts {p : Nat} (hp : p ≤ 100000) : first p ≤ p ∧ p ≤ last p ∧ last p ≤ 100000 ∧ last p ≤ first p + 30 ∧ (last p < 100000 → first p + 27 ≤ last p) ∧ dm (first p) = 1 ∧ (last p < 100000 → first (last p + 1) = last p + 1) := by
  obtain ⟨h1, h2, h3⟩ := mo_spec hp
  have h4 := st_succ (mo p)
  have h5 := len_ge (mo p)
  have h6 := len_le (mo p)
  have h7 := mo_first hp
  refine ⟨h2, by unfold last; omega, by unfold last; omega, by unfold last first; omega, by unfold last first; omega, ?_, fun h => ?_⟩
  · unfold dm; rw [h7]; unfold first; omega
  · have e : last p + 1 = st (mo p + 1) := by unfold last at h ⊢; omega
    have h8 := st_succ (mo p + 1)
    have h9 := len_ge (mo p + 1)
    have : mo (last p + 1) = mo p + 1 := mo_eq (by omega) (by rw [e]; exact Nat.le_refl _) (by rw [e]; omega)
    unfold first at this ⊢
    rw [this, e]
theorem month_in {p q : Nat} (hp : p ≤ 100000) (h1 : first p ≤ q) (h2 : q ≤ last p) : first q = first p ∧ last q = last p := by
  have : mo q = mo p := mo_eq (by have := (mo_spec hp).1; omega) h1 (by have := st_succ (mo p); have := len_ge (mo p); unfold last at h2; omega)
  unfold first last
  rw [this]
  exact ⟨rfl, rfl⟩
theorem month_low {p q : Nat} (hp : p ≤ 100000) (h1 : q < first p) : last q < first p := by
  obtain ⟨h2, h3, h4⟩ := mo_spec (show q ≤ 100000 by have := (mo_spec hp).2.1; unfold first at h1; omega)
  have : mo q + 1 ≤ mo p := by
    rcases Nat.lt_or_ge (mo q) (mo p) with h | h
    · omega
    · have := st_mono h; unfold first at h1; omega
  have := st_mono this
  unfold last first
  omega
theorem month_high {p q : Nat} (hp : p ≤ 100000) (hq : q ≤ 100000) (h1 : last p < q) : last p < first q := by
  obtain ⟨h2, h3, h4⟩ := mo_spec hq
  have : mo p + 1 ≤ mo q := by
    rcases Nat.lt_or_ge (mo p) (mo q) with h | h
    · omega
    · have := st_mono (show mo q + 1 ≤ mo p + 1 by omega); unfold last at h1; omega
  have := st_mono this
  have := (mo_spec hp)
  unfold last first at *
  omega
theorem some_month (a : Int) : ∃ y m e : Int, ∀ w, Env w → Calls Tryd.prog 17 #[.int .i64 a] w (Gives (.tuple #[.int .i64 y, .int .i64 m, .int .i64 e]) w) := by
  obtain ⟨y, m, e, h⟩ := same_month a
  exact ⟨y, m, e, h.1⟩

set_option maxHeartbeats 4000000 in
theorem months_any (a b : Int) (w : World) (he : Env w) : Calls Tryd.prog 6 #[.int .i64 a, .int .i64 b] w (Gives (.bool true) w) := by
  have HE := Lib.hid he
  clear he
  by_cases ha : a < 0
  · have MA := Lib.hid (month_bad a (by omega))
    have g1 : decide (a < 0) = true := by simp; omega
    clear ha
    go_enter Tryd.func6, Tryd.ntmps6
    go_wp2_with fail
    refine (sane_any _ HE.out).mono ?_
    rintro e w1 ⟨rfl, hb⟩
    have HB1 := Lib.hid hb
    clear hb
    go_wp2_with fail
    refine (MA.out _).mono ?_
    rintro e w2 ⟨rfl, hb⟩
    have HB2 := Lib.hid (HB1.out.trans (hb.mono HB1.out.size))
    clear hb
    go_wp2_with fail
    go_ret
    exact ⟨rfl, HB2.out⟩
  by_cases ha : 100000 < a
  · have MA := Lib.hid (month_bad a (by omega))
    have g1 : decide (a < 0) = false := by simp; omega
    have g2 : decide (100000 < a) = true := by simp; omega
    clear ha
    go_enter Tryd.func6, Tryd.ntmps6
    go_wp2_with fail
    refine (sane_any _ HE.out).mono ?_
    rintro e w1 ⟨rfl, hb⟩
    have HB1 := Lib.hid hb
    clear hb
    go_wp2_with fail
    refine (MA.out _).mono ?_
    rintro e w2 ⟨rfl, hb⟩
    have HB2 := Lib.hid (HB1.out.trans (hb.mono HB1.out.size))
    clear hb
    go_wp2_with fail
    go_ret
    exact ⟨rfl, HB2.out⟩
  obtain ⟨p, rfl⟩ : ∃ p : Nat, a = p := ⟨a.toNat, by omega⟩
  have hp : p ≤ 100000 := by omega
  have g1 : decide ((p : Int) < 0) = false := by simp
  have g2 : decide (100000 < (p : Int)) = false := by simp; omega
  have g3 : decide (100000 < p) = false := by simp; omega
  have MA := Lib.hid (month_ok p hp)
  obtain ⟨f1, f2, f3, f4, f5, f6, f7⟩ := month_facts hp
  have FD0 := date_ok (first p) (by omega)
  rw [f6] at FD0
  have FD : Hid (∀ w, Env w → Calls Tryd.prog 9 #[.int .i64 (first p : Nat)] w (Gives (.tuple #[.int .i64 (yr (first p) : Nat), .int .i64 (mn (first p) : Nat), .int .i64 1, .int .i64 0]) w)) := Lib.hid FD0
  generalize yr (first p) = fy at FD
  generalize mn (first p) = fm at FD
  have MN0 := fun h : last p < 100000 => month_ok (last p + 1) (by omega)
  have MN : ∀ (h : last p < 100000), ∃ l : Int, ∀ w, Env w → Calls Tryd.prog 17 #[.int .i64 ((last p : Nat) + 1 : Int)] w (Gives (.tuple #[.int .i64 ((last p : Nat) + 1 : Int), .int .i64 l, .int .i64 0]) w) := fun h => by
    have := MN0 h
    rw [f7 h] at this
    exact ⟨_, this⟩
  have HIN : Hid (∀ q, first p ≤ q → q ≤ last p → first q = first p ∧ last q = last p) := fun q h1 h2 => month_in hp h1 h2
  have HLO : Hid (∀ q, q < first p → last q < first p) := fun q h => month_low hp h
  have HHI : Hid (∀ q, q ≤ 100000 → last p < q → last p < first q) := fun q hq h => month_high hp hq h
  clear FD0 MN0 f6 f7 hp ha
  obtain ⟨F, hF⟩ : ∃ z, first p = z := ⟨_, rfl⟩
  obtain ⟨L, hL⟩ : ∃ z, last p = z := ⟨_, rfl⟩
  rw [hF, hL] at MA HIN
  rw [hF] at FD HLO f1 f4 f5
  rw [hL] at MN HHI f2 f3 f4 f5
  clear hF hL
  have k1 : decide (p < F) = false := by simp; omega
  have k2 : decide (L < p) = false := by simp; omega
  have k3 : decide (100000 < L) = false := by simp; omega
  have k3' : decide (100000 < (L : Int)) = false := by simp; omega
  have k4 : decide (30 < (L : Int) - (F : Int)) = false := by simp; omega
  have bF : F ≤ 100000 := by omega
  by_cases hl : L < 100000
  · have k5 : decide (L < 100000) = true := by simp; omega
    have k5' : decide ((L : Int) < 100000) = true := by simp; omega
    have k6 : decide ((L : Int) - (F : Int) < 27) = false := by simp; omega
    obtain ⟨l2, hl2⟩ := MN hl
    have MNL := Lib.hid hl2
    clear hl2 MN f5 hl
    rcases day_cases b with ⟨q, rfl, hq⟩ | hb
    · have MB := Lib.hid (month_ok q hq)
      by_cases h1 : F ≤ q
      · have n1 : decide (F ≤ q) = true := by simp; omega
        by_cases h2 : q ≤ L
        · have n2 : decide (q ≤ L) = true := by simp; omega
          rw [(HIN.out q h1 h2).1, (HIN.out q h1 h2).2] at MB
          clear h1 h2 hq
          go_enter Tryd.func6, Tryd.ntmps6
          go_wp2_with fail
          refine (sane_any _ HE.out).mono ?_
          rintro e w1 ⟨rfl, hb⟩
          have HB1 := Lib.hid hb
          clear hb
          go_wp2_with fail
          refine (MA.out _ (HE.out.below HB1.out)).mono ?_
          rintro e w2 ⟨rfl, hb⟩
          have HB2 := Lib.hid (HB1.out.trans (hb.mono HB1.out.size))
          clear hb
          go_wp2_with fail
          refine (FD.out _ (HE.out.below HB2.out)).mono ?_
          rintro e w3 ⟨rfl, hb⟩
          have HB3 := Lib.hid (HB2.out.trans (hb.mono HB2.out.size))
          clear hb
          go_wp2_with fail
          refine (MNL.out _ (HE.out.below HB3.out)).mono ?_
          rintro e w4 ⟨rfl, hb⟩
          have HB4 := Lib.hid (HB3.out.trans (hb.mono HB3.out.size))
          clear hb
          go_wp2_with fail
          refine (MB.out _ (HE.out.below HB4.out)).mono ?_
          rintro e w5 ⟨rfl, hb⟩
          have HB5 := Lib.hid (HB4.out.trans (hb.mono HB4.out.size))
          clear hb
          go_wp2_with fail
          go_ret
          exact ⟨rfl, HB5.out⟩
        · have n2 : decide (q ≤ L) = false := by simp; omega
          have n3 := HHI.out q hq (by omega)
          clear h1 h2 hq
          generalize first q = qf at MB n3
          generalize last q = ql at MB
          have n4 : decide (L < qf) = true := by simp; omega
          clear n3
          go_enter Tryd.func6, Tryd.ntmps6
          go_wp2_with fail
          refine (sane_any _ HE.out).mono ?_
          rintro e w1 ⟨rfl, hb⟩
          have HB1 := Lib.hid hb
          clear hb
          go_wp2_with fail
          refine (MA.out _ (HE.out.below HB1.out)).mono ?_
          rintro e w2 ⟨rfl, hb⟩
          have HB2 := Lib.hid (HB1.out.trans (hb.mono HB1.out.size))
          clear hb
          go_wp2_with fail
          refine (FD.out _ (HE.out.below HB2.out)).mono ?_
          rintro e w3 ⟨rfl, hb⟩
          have HB3 := Lib.hid (HB2.out.trans (hb.mono HB2.out.size))
          clear hb
          go_wp2_with fail
          refine (MNL.out _ (HE.out.below HB3.out)).mono ?_
          rintro e w4 ⟨rfl, hb⟩
          have HB4 := Lib.hid (HB3.out.trans (hb.mono HB3.out.size))
          clear hb
          go_wp2_with fail
          refine (MB.out _ (HE.out.below HB4.out)).mono ?_
          rintro e w5 ⟨rfl, hb⟩
          have HB5 := Lib.hid (HB4.out.trans (hb.mono HB4.out.size))
          clear hb
          go_wp2_with fail
          go_ret
          exact ⟨rfl, HB5.out⟩
      · have n1 : decide (F ≤ q) = false := by simp; omega
        have n3 := HLO.out q (by omega)
        have n5 : first q ≤ q := (mo_spec hq).2.1
        generalize first q = qf at MB n5
        generalize last q = ql at MB n3
        have n4 : decide (ql < F) = true := by simp; omega
        have n6 : decide (L < qf) = false := by simp; omega
        clear n3 n5 h1 hq
        go_enter Tryd.func6, Tryd.ntmps6
        go_wp2_with fail
        refine (sane_any _ HE.out).mono ?_
        rintro e w1 ⟨rfl, hb⟩
        have HB1 := Lib.hid hb
        clear hb
        go_wp2_with fail
        refine (MA.out _ (HE.out.below HB1.out)).mono ?_
        rintro e w2 ⟨rfl, hb⟩
        have HB2 := Lib.hid (HB1.out.trans (hb.mono HB1.out.size))
        clear hb
        go_wp2_with fail
        refine (FD.out _ (HE.out.below HB2.out)).mono ?_
        rintro e w3 ⟨rfl, hb⟩
        have HB3 := Lib.hid (HB2.out.trans (hb.mono HB2.out.size))
        clear hb
        go_wp2_with fail
        refine (MNL.out _ (HE.out.below HB3.out)).mono ?_
        rintro e w4 ⟨rfl, hb⟩
        have HB4 := Lib.hid (HB3.out.trans (hb.mono HB3.out.size))
        clear hb
        go_wp2_with fail
        refine (MB.out _ (HE.out.below HB4.out)).mono ?_
        rintro e w5 ⟨rfl, hb⟩
        have HB5 := Lib.hid (HB4.out.trans (hb.mono HB4.out.size))
        clear hb
        go_wp2_with fail
        go_ret
        exact ⟨rfl, HB5.out⟩
    · have MB := Lib.hid (month_bad b hb)
      clear hb
      go_enter Tryd.func6, Tryd.ntmps6
      go_wp2_with fail
      refine (sane_any _ HE.out).mono ?_
      rintro e w1 ⟨rfl, hb⟩
      have HB1 := Lib.hid hb
      clear hb
      go_wp2_with fail
      refine (MA.out _ (HE.out.below HB1.out)).mono ?_
      rintro e w2 ⟨rfl, hb⟩
      have HB2 := Lib.hid (HB1.out.trans (hb.mono HB1.out.size))
      clear hb
      go_wp2_with fail
      refine (FD.out _ (HE.out.below HB2.out)).mono ?_
      rintro e w3 ⟨rfl, hb⟩
      have HB3 := Lib.hid (HB2.out.trans (hb.mono HB2.out.size))
      clear hb
      go_wp2_with fail
      refine (MNL.out _ (HE.out.below HB3.out)).mono ?_
      rintro e w4 ⟨rfl, hb⟩
      have HB4 := Lib.hid (HB3.out.trans (hb.mono HB3.out.size))
      clear hb
      go_wp2_with fail
      refine (MB.out _).mono ?_
      rintro e w5 ⟨rfl, hb⟩
      have HB5 := Lib.hid (HB4.out.trans (hb.mono HB4.out.size))
      clear hb
      go_wp2_with fail
      go_ret
      exact ⟨rfl, HB5.out⟩
  · have k5 : decide (L < 100000) = false := by simp; omega
    have k5' : decide ((L : Int) < 100000) = false := by simp; omega
    clear MN f5 hl
    rcases day_cases b with ⟨q, rfl, hq⟩ | hb
    · have MB := Lib.hid (month_ok q hq)
      by_cases h1 : F ≤ q
      · have n1 : decide (F ≤ q) = true := by simp; omega
        by_cases h2 : q ≤ L
        · have n2 : decide (q ≤ L) = true := by simp; omega
          rw [(HIN.out q h1 h2).1, (HIN.out q h1 h2).2] at MB
          clear h1 h2 hq
          go_enter Tryd.func6, Tryd.ntmps6
          go_wp2_with fail
          refine (sane_any _ HE.out).mono ?_
          rintro e w1 ⟨rfl, hb⟩
          have HB1 := Lib.hid hb
          clear hb
          go_wp2_with fail
          refine (MA.out _ (HE.out.below HB1.out)).mono ?_
          rintro e w2 ⟨rfl, hb⟩
          have HB2 := Lib.hid (HB1.out.trans (hb.mono HB1.out.size))
          clear hb
          go_wp2_with fail
          refine (FD.out _ (HE.out.below HB2.out)).mono ?_
          rintro e w3 ⟨rfl, hb⟩
          have HB3 := Lib.hid (HB2.out.trans (hb.mono HB2.out.size))
          clear hb
          go_wp2_with fail
          refine (MB.out _ (HE.out.below HB3.out)).mono ?_
          rintro e w4 ⟨rfl, hb⟩
          have HB4 := Lib.hid (HB3.out.trans (hb.mono HB3.out.size))
          clear hb
          go_wp2_with fail
          go_ret
          exact ⟨rfl, HB4.out⟩
        · have n2 : decide (q ≤ L) = false := by simp; omega
          have n3 := HHI.out q hq (by omega)
          clear h1 h2 hq
          generalize first q = qf at MB n3
          generalize last q = ql at MB
          have n4 : decide (L < qf) = true := by simp; omega
          clear n3
          go_enter Tryd.func6, Tryd.ntmps6
          go_wp2_with fail
          refine (sane_any _ HE.out).mono ?_
          rintro e w1 ⟨rfl, hb⟩
          have HB1 := Lib.hid hb
          clear hb
          go_wp2_with fail
          refine (MA.out _ (HE.out.below HB1.out)).mono ?_
          rintro e w2 ⟨rfl, hb⟩
          have HB2 := Lib.hid (HB1.out.trans (hb.mono HB1.out.size))
          clear hb
          go_wp2_with fail
          refine (FD.out _ (HE.out.below HB2.out)).mono ?_
          rintro e w3 ⟨rfl, hb⟩
          have HB3 := Lib.hid (HB2.out.trans (hb.mono HB2.out.size))
          clear hb
          go_wp2_with fail
          refine (MB.out _ (HE.out.below HB3.out)).mono ?_
          rintro e w4 ⟨rfl, hb⟩
          have HB4 := Lib.hid (HB3.out.trans (hb.mono HB3.out.size))
          clear hb
          go_wp2_with fail
          go_ret
          exact ⟨rfl, HB4.out⟩
      · have n1 : decide (F ≤ q) = false := by simp; omega
        have n3 := HLO.out q (by omega)
        have n5 : first q ≤ q := (mo_spec hq).2.1
        generalize first q = qf at MB n5
        generalize last q = ql at MB n3
        have n4 : decide (ql < F) = true := by simp; omega
        have n6 : decide (L < qf) = false := by simp; omega
        clear n3 n5 h1 hq
        go_enter Tryd.func6, Tryd.ntmps6
        go_wp2_with fail
        refine (sane_any _ HE.out).mono ?_
        rintro e w1 ⟨rfl, hb⟩
        have HB1 := Lib.hid hb
        clear hb
        go_wp2_with fail
        refine (MA.out _ (HE.out.below HB1.out)).mono ?_
        rintro e w2 ⟨rfl, hb⟩
        have HB2 := Lib.hid (HB1.out.trans (hb.mono HB1.out.size))
        clear hb
        go_wp2_with fail
        refine (FD.out _ (HE.out.below HB2.out)).mono ?_
        rintro e w3 ⟨rfl, hb⟩
        have HB3 := Lib.hid (HB2.out.trans (hb.mono HB2.out.size))
        clear hb
        go_wp2_with fail
        refine (MB.out _ (HE.out.below HB3.out)).mono ?_
        rintro e w4 ⟨rfl, hb⟩
        have HB4 := Lib.hid (HB3.out.trans (hb.mono HB3.out.size))
        clear hb
        go_wp2_with fail
        go_ret
        exact ⟨rfl, HB4.out⟩
    · have MB := Lib.hid (month_bad b hb)
      clear hb
      go_enter Tryd.func6, Tryd.ntmps6
      go_wp2_with fail
      refine (sane_any _ HE.out).mono ?_
      rintro e w1 ⟨rfl, hb⟩
      have HB1 := Lib.hid hb
      clear hb
      go_wp2_with fail
      refine (MA.out _ (HE.out.below HB1.out)).mono ?_
      rintro e w2 ⟨rfl, hb⟩
      have HB2 := Lib.hid (HB1.out.trans (hb.mono HB1.out.size))
      clear hb
      go_wp2_with fail
      refine (FD.out _ (HE.out.below HB2.out)).mono ?_
      rintro e w3 ⟨rfl, hb⟩
      have HB3 := Lib.hid (HB2.out.trans (hb.mono HB2.out.size))
      clear hb
      go_wp2_with fail
      refine (MB.out _).mono ?_
      rintro e w4 ⟨rfl, hb⟩
      have HB4 := Lib.hid (HB3.out.trans (hb.mono HB3.out.size))
      clear hb
      go_wp2_with fail
      go_ret
      exact ⟨rfl, HB4.out⟩
end Go.Proofs.YtdhpdkfohbafgaaDoor.Ca
