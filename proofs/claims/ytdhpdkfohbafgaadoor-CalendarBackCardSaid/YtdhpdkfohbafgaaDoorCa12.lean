/- The contract of CalendarBack. -/
import Derived.Test.YtdhpdkfohbafgaaDoorCa9
set_option maxRecDepth 100000
namespace Go.Proofs.YtdhpdkfohbafgaaDoor.Ca
open Go.RowKit Go.Shelf Go.Lib Go.Sort

theorem lex (a b : Nat) (hab : a < b) (hb : b ≤ 100000) : yr a < yr b ∨ (yr a = yr b ∧ mn a < mn b) ∨ (yr a = yr b ∧ mn a = mn b ∧ dm a < dm b) := by
  have h1 := mo_le hb (show a ≤ b by omega)
  have h2 := mo_spec hb
  have h3 := mo_spec (show a ≤ 100000 by omega)
  by_cases h : mo a = mo b
  · refine .inr (.inr ?_)
    unfold yr mn dm
    rw [h] at h3 ⊢
    omega
  · unfold yr mn; omega
theorem x_day0 (w : World) (he : Env w) : Calls Tryd.prog 11 #[.int .i64 0, .int .i64 0, .int .i64 0] w (Gives (.tuple #[.int .i64 0, .int .i64 3]) w) := by
  refine day_bad _ _ _ (fun ⟨n, hn, h1, h2, h3⟩ => ?_) w he
  unfold yr at *; omega
theorem x_date0 (w : World) (he : Env w) : Calls Tryd.prog 9 #[.int .i64 0] w (Gives (.tuple #[.int .i64 2000, .int .i64 1, .int .i64 1, .int .i64 0]) w) := by
  have := date_ok 0 (by omega) w he
  unfold yr mn dm at this; rw [mo_0, st_0] at this; exact this
theorem some_date (a : Int) : ∃ y m d e : Int, ∀ w, Env w → Calls Tryd.prog 9 #[.int .i64 a] w (Gives (.tuple #[.int .i64 y, .int .i64 m, .int .i64 d, .int .i64 e]) w) := by
  obtain ⟨y, m, d, e, h⟩ := same_date a
  exact ⟨y, m, d, e, h.1⟩

set_option maxHeartbeats 4000000 in
theorem back_any (a b year month dom : Int) (w : World) (he : Env w) : Calls Tryd.prog 4 #[.int .i64 a, .int .i64 b, .int .i64 year, .int .i64 month, .int .i64 dom] w (Gives (.bool true) w) := by
  have HE := Lib.hid he
  clear he
  by_cases ha : a < 0
  · have AD := Lib.hid (date_bad a (by omega))
    obtain ⟨by1, bm1, bd1, be1, hbd⟩ := some_date b
    have BD := Lib.hid hbd
    have g1 : decide (0 ≤ a) = false := by simp; omega
    clear ha hbd
    by_cases hg : IsDate year month dom
    · obtain ⟨n, hn, rfl, rfl, rfl⟩ := hg
      have GD := Lib.hid (day_ok n hn)
      have GT := Lib.hid (date_ok n hn)
      clear hn
      generalize yr n = gy at GD GT ⊢
      generalize mn n = gm at GD GT ⊢
      generalize dm n = gd at GD GT ⊢
      go_enter Tryd.func4, Tryd.ntmps4
      go_wp2_with fail
      refine (sane_any _ HE.out).mono ?_
      rintro e w1 ⟨rfl, hb⟩
      have HB1 := Lib.hid hb
      clear hb
      go_wp2_with fail
      refine (AD.out _).mono ?_
      rintro e w2 ⟨rfl, hb⟩
      have HB2 := Lib.hid (HB1.out.trans (hb.mono HB1.out.size))
      clear hb
      go_wp2_with fail
      refine (x_day0 _ (HE.out.below HB2.out)).mono ?_
      rintro e w3 ⟨rfl, hb⟩
      have HB3 := Lib.hid (HB2.out.trans (hb.mono HB2.out.size))
      clear hb
      go_wp2_with fail
      refine (GD.out _ (HE.out.below HB3.out)).mono ?_
      rintro e w4 ⟨rfl, hb⟩
      have HB4 := Lib.hid (HB3.out.trans (hb.mono HB3.out.size))
      clear hb
      go_wp2_with fail
      refine (GT.out _ (HE.out.below HB4.out)).mono ?_
      rintro e w5 ⟨rfl, hb⟩
      have HB5 := Lib.hid (HB4.out.trans (hb.mono HB4.out.size))
      clear hb
      go_wp2_with fail
      refine (BD.out _ (HE.out.below HB5.out)).mono ?_
      rintro e w6 ⟨rfl, hb⟩
      have HB6 := Lib.hid (HB5.out.trans (hb.mono HB5.out.size))
      clear hb
      go_wp2_with fail
      go_ret
      exact ⟨rfl, HB6.out⟩
    · have GD := Lib.hid (day_bad year month dom hg)
      clear hg
      go_enter Tryd.func4, Tryd.ntmps4
      go_wp2_with fail
      refine (sane_any _ HE.out).mono ?_
      rintro e w1 ⟨rfl, hb⟩
      have HB1 := Lib.hid hb
      clear hb
      go_wp2_with fail
      refine (AD.out _).mono ?_
      rintro e w2 ⟨rfl, hb⟩
      have HB2 := Lib.hid (HB1.out.trans (hb.mono HB1.out.size))
      clear hb
      go_wp2_with fail
      refine (x_day0 _ (HE.out.below HB2.out)).mono ?_
      rintro e w3 ⟨rfl, hb⟩
      have HB3 := Lib.hid (HB2.out.trans (hb.mono HB2.out.size))
      clear hb
      go_wp2_with fail
      refine (GD.out _ (HE.out.below HB3.out)).mono ?_
      rintro e w4 ⟨rfl, hb⟩
      have HB4 := Lib.hid (HB3.out.trans (hb.mono HB3.out.size))
      clear hb
      go_wp2_with fail
      refine (x_date0 _ (HE.out.below HB4.out)).mono ?_
      rintro e w5 ⟨rfl, hb⟩
      have HB5 := Lib.hid (HB4.out.trans (hb.mono HB4.out.size))
      clear hb
      go_wp2_with fail
      refine (BD.out _ (HE.out.below HB5.out)).mono ?_
      rintro e w6 ⟨rfl, hb⟩
      have HB6 := Lib.hid (HB5.out.trans (hb.mono HB5.out.size))
      clear hb
      go_wp2_with fail
      go_ret
      exact ⟨rfl, HB6.out⟩
  by_cases ha : 100000 < a
  · have AD := Lib.hid (date_bad a (by omega))
    obtain ⟨by1, bm1, bd1, be1, hbd⟩ := some_date b
    have BD := Lib.hid hbd
    have g1 : decide (0 ≤ a) = true := by simp; omega
    have g2 : decide (a ≤ 100000) = false := by simp; omega
    clear ha hbd
    by_cases hg : IsDate year month dom
    · obtain ⟨n, hn, rfl, rfl, rfl⟩ := hg
      have GD := Lib.hid (day_ok n hn)
      have GT := Lib.hid (date_ok n hn)
      clear hn
      generalize yr n = gy at GD GT ⊢
      generalize mn n = gm at GD GT ⊢
      generalize dm n = gd at GD GT ⊢
      go_enter Tryd.func4, Tryd.ntmps4
      go_wp2_with fail
      refine (sane_any _ HE.out).mono ?_
      rintro e w1 ⟨rfl, hb⟩
      have HB1 := Lib.hid hb
      clear hb
      go_wp2_with fail
      refine (AD.out _).mono ?_
      rintro e w2 ⟨rfl, hb⟩
      have HB2 := Lib.hid (HB1.out.trans (hb.mono HB1.out.size))
      clear hb
      go_wp2_with fail
      refine (x_day0 _ (HE.out.below HB2.out)).mono ?_
      rintro e w3 ⟨rfl, hb⟩
      have HB3 := Lib.hid (HB2.out.trans (hb.mono HB2.out.size))
      clear hb
      go_wp2_with fail
      refine (GD.out _ (HE.out.below HB3.out)).mono ?_
      rintro e w4 ⟨rfl, hb⟩
      have HB4 := Lib.hid (HB3.out.trans (hb.mono HB3.out.size))
      clear hb
      go_wp2_with fail
      refine (GT.out _ (HE.out.below HB4.out)).mono ?_
      rintro e w5 ⟨rfl, hb⟩
      have HB5 := Lib.hid (HB4.out.trans (hb.mono HB4.out.size))
      clear hb
      go_wp2_with fail
      refine (BD.out _ (HE.out.below HB5.out)).mono ?_
      rintro e w6 ⟨rfl, hb⟩
      have HB6 := Lib.hid (HB5.out.trans (hb.mono HB5.out.size))
      clear hb
      go_wp2_with fail
      go_ret
      exact ⟨rfl, HB6.out⟩
    · have GD := Lib.hid (day_bad year month dom hg)
      clear hg
      go_enter Tryd.func4, Tryd.ntmps4
      go_wp2_with fail
      refine (sane_any _ HE.out).mono ?_
      rintro e w1 ⟨rfl, hb⟩
      have HB1 := Lib.hid hb
      clear hb
      go_wp2_with fail
      refine (AD.out _).mono ?_
      rintro e w2 ⟨rfl, hb⟩
      have HB2 := Lib.hid (HB1.out.trans (hb.mono HB1.out.size))
      clear hb
      go_wp2_with fail
      refine (x_day0 _ (HE.out.below HB2.out)).mono ?_
      rintro e w3 ⟨rfl, hb⟩
      have HB3 := Lib.hid (HB2.out.trans (hb.mono HB2.out.size))
      clear hb
      go_wp2_with fail
      refine (GD.out _ (HE.out.below HB3.out)).mono ?_
      rintro e w4 ⟨rfl, hb⟩
      have HB4 := Lib.hid (HB3.out.trans (hb.mono HB3.out.size))
      clear hb
      go_wp2_with fail
      refine (x_date0 _ (HE.out.below HB4.out)).mono ?_
      rintro e w5 ⟨rfl, hb⟩
      have HB5 := Lib.hid (HB4.out.trans (hb.mono HB4.out.size))
      clear hb
      go_wp2_with fail
      refine (BD.out _ (HE.out.below HB5.out)).mono ?_
      rintro e w6 ⟨rfl, hb⟩
      have HB6 := Lib.hid (HB5.out.trans (hb.mono HB5.out.size))
      clear hb
      go_wp2_with fail
      go_ret
      exact ⟨rfl, HB6.out⟩
  obtain ⟨p, rfl⟩ : ∃ p : Nat, a = p := ⟨a.toNat, by omega⟩
  have hp : p ≤ 100000 := by omega
  have g1 : decide (0 ≤ (p : Int)) = true := by simp
  have g2 : decide ((p : Int) ≤ 100000) = true := by simp; omega
  have g3 : decide (p ≤ 100000) = true := by simp; omega
  have AD := Lib.hid (date_ok p hp)
  have AT := Lib.hid (day_ok p hp)
  rcases day_cases b with ⟨q, rfl, hq⟩ | hb
  · by_cases hle : q ≤ p
    · have g4 : decide (q ≤ p) = true := by simp; omega
      have BD := Lib.hid (date_ok q hq)
      clear hle hq hp
      generalize yr p = y at AD AT ⊢
      generalize mn p = m at AD AT ⊢
      generalize dm p = d at AD AT ⊢
      generalize yr q = u at BD
      generalize mn q = v at BD
      generalize dm q = x at BD
      by_cases hg : IsDate year month dom
      · obtain ⟨n, hn, rfl, rfl, rfl⟩ := hg
        have GD := Lib.hid (day_ok n hn)
        have GT := Lib.hid (date_ok n hn)
        clear hn
        generalize yr n = gy at GD GT ⊢
        generalize mn n = gm at GD GT ⊢
        generalize dm n = gd at GD GT ⊢
        go_enter Tryd.func4, Tryd.ntmps4
        go_wp2_with fail
        refine (sane_any _ HE.out).mono ?_
        rintro e w1 ⟨rfl, hb⟩
        have HB1 := Lib.hid hb
        clear hb
        go_wp2_with fail
        refine (AD.out _ (HE.out.below HB1.out)).mono ?_
        rintro e w2 ⟨rfl, hb⟩
        have HB2 := Lib.hid (HB1.out.trans (hb.mono HB1.out.size))
        clear hb
        go_wp2_with fail
        refine (AT.out _ (HE.out.below HB2.out)).mono ?_
        rintro e w3 ⟨rfl, hb⟩
        have HB3 := Lib.hid (HB2.out.trans (hb.mono HB2.out.size))
        clear hb
        go_wp2_with fail
        refine (GD.out _ (HE.out.below HB3.out)).mono ?_
        rintro e w4 ⟨rfl, hb⟩
        have HB4 := Lib.hid (HB3.out.trans (hb.mono HB3.out.size))
        clear hb
        go_wp2_with fail
        refine (GT.out _ (HE.out.below HB4.out)).mono ?_
        rintro e w5 ⟨rfl, hb⟩
        have HB5 := Lib.hid (HB4.out.trans (hb.mono HB4.out.size))
        clear hb
        go_wp2_with fail
        refine (BD.out _ (HE.out.below HB5.out)).mono ?_
        rintro e w6 ⟨rfl, hb⟩
        have HB6 := Lib.hid (HB5.out.trans (hb.mono HB5.out.size))
        clear hb
        go_wp2_with fail
        go_ret
        exact ⟨rfl, HB6.out⟩
      · have GD := Lib.hid (day_bad year month dom hg)
        clear hg
        go_enter Tryd.func4, Tryd.ntmps4
        go_wp2_with fail
        refine (sane_any _ HE.out).mono ?_
        rintro e w1 ⟨rfl, hb⟩
        have HB1 := Lib.hid hb
        clear hb
        go_wp2_with fail
        refine (AD.out _ (HE.out.below HB1.out)).mono ?_
        rintro e w2 ⟨rfl, hb⟩
        have HB2 := Lib.hid (HB1.out.trans (hb.mono HB1.out.size))
        clear hb
        go_wp2_with fail
        refine (AT.out _ (HE.out.below HB2.out)).mono ?_
        rintro e w3 ⟨rfl, hb⟩
        have HB3 := Lib.hid (HB2.out.trans (hb.mono HB2.out.size))
        clear hb
        go_wp2_with fail
        refine (GD.out _ (HE.out.below HB3.out)).mono ?_
        rintro e w4 ⟨rfl, hb⟩
        have HB4 := Lib.hid (HB3.out.trans (hb.mono HB3.out.size))
        clear hb
        go_wp2_with fail
        refine (x_date0 _ (HE.out.below HB4.out)).mono ?_
        rintro e w5 ⟨rfl, hb⟩
        have HB5 := Lib.hid (HB4.out.trans (hb.mono HB4.out.size))
        clear hb
        go_wp2_with fail
        refine (BD.out _ (HE.out.below HB5.out)).mono ?_
        rintro e w6 ⟨rfl, hb⟩
        have HB6 := Lib.hid (HB5.out.trans (hb.mono HB5.out.size))
        clear hb
        go_wp2_with fail
        go_ret
        exact ⟨rfl, HB6.out⟩
    · have g4 : decide (q ≤ p) = false := by simp; omega
      have BD := Lib.hid (date_ok q hq)
      have hlex := lex p q (by omega) hq
      clear hle hq hp
      generalize yr p = y at AD AT hlex ⊢
      generalize mn p = m at AD AT hlex ⊢
      generalize dm p = d at AD AT hlex ⊢
      generalize yr q = u at BD hlex
      generalize mn q = v at BD hlex
      generalize dm q = x at BD hlex
      rcases hlex with hx | ⟨rfl, hx⟩ | ⟨rfl, rfl, hx⟩
      · have g5 : decide (y < u) = true := by simp; omega
        clear hx
        by_cases hg : IsDate year month dom
        · obtain ⟨n, hn, rfl, rfl, rfl⟩ := hg
          have GD := Lib.hid (day_ok n hn)
          have GT := Lib.hid (date_ok n hn)
          clear hn
          generalize yr n = gy at GD GT ⊢
          generalize mn n = gm at GD GT ⊢
          generalize dm n = gd at GD GT ⊢
          go_enter Tryd.func4, Tryd.ntmps4
          go_wp2_with fail
          refine (sane_any _ HE.out).mono ?_
          rintro e w1 ⟨rfl, hb⟩
          have HB1 := Lib.hid hb
          clear hb
          go_wp2_with fail
          refine (AD.out _ (HE.out.below HB1.out)).mono ?_
          rintro e w2 ⟨rfl, hb⟩
          have HB2 := Lib.hid (HB1.out.trans (hb.mono HB1.out.size))
          clear hb
          go_wp2_with fail
          refine (AT.out _ (HE.out.below HB2.out)).mono ?_
          rintro e w3 ⟨rfl, hb⟩
          have HB3 := Lib.hid (HB2.out.trans (hb.mono HB2.out.size))
          clear hb
          go_wp2_with fail
          refine (GD.out _ (HE.out.below HB3.out)).mono ?_
          rintro e w4 ⟨rfl, hb⟩
          have HB4 := Lib.hid (HB3.out.trans (hb.mono HB3.out.size))
          clear hb
          go_wp2_with fail
          refine (GT.out _ (HE.out.below HB4.out)).mono ?_
          rintro e w5 ⟨rfl, hb⟩
          have HB5 := Lib.hid (HB4.out.trans (hb.mono HB4.out.size))
          clear hb
          go_wp2_with fail
          refine (BD.out _ (HE.out.below HB5.out)).mono ?_
          rintro e w6 ⟨rfl, hb⟩
          have HB6 := Lib.hid (HB5.out.trans (hb.mono HB5.out.size))
          clear hb
          go_wp2_with fail
          go_ret
          exact ⟨rfl, HB6.out⟩
        · have GD := Lib.hid (day_bad year month dom hg)
          clear hg
          go_enter Tryd.func4, Tryd.ntmps4
          go_wp2_with fail
          refine (sane_any _ HE.out).mono ?_
          rintro e w1 ⟨rfl, hb⟩
          have HB1 := Lib.hid hb
          clear hb
          go_wp2_with fail
          refine (AD.out _ (HE.out.below HB1.out)).mono ?_
          rintro e w2 ⟨rfl, hb⟩
          have HB2 := Lib.hid (HB1.out.trans (hb.mono HB1.out.size))
          clear hb
          go_wp2_with fail
          refine (AT.out _ (HE.out.below HB2.out)).mono ?_
          rintro e w3 ⟨rfl, hb⟩
          have HB3 := Lib.hid (HB2.out.trans (hb.mono HB2.out.size))
          clear hb
          go_wp2_with fail
          refine (GD.out _ (HE.out.below HB3.out)).mono ?_
          rintro e w4 ⟨rfl, hb⟩
          have HB4 := Lib.hid (HB3.out.trans (hb.mono HB3.out.size))
          clear hb
          go_wp2_with fail
          refine (x_date0 _ (HE.out.below HB4.out)).mono ?_
          rintro e w5 ⟨rfl, hb⟩
          have HB5 := Lib.hid (HB4.out.trans (hb.mono HB4.out.size))
          clear hb
          go_wp2_with fail
          refine (BD.out _ (HE.out.below HB5.out)).mono ?_
          rintro e w6 ⟨rfl, hb⟩
          have HB6 := Lib.hid (HB5.out.trans (hb.mono HB5.out.size))
          clear hb
          go_wp2_with fail
          go_ret
          exact ⟨rfl, HB6.out⟩
      · have g5 : decide (m < v) = true := by simp; omega
        clear hx
        by_cases hg : IsDate year month dom
        · obtain ⟨n, hn, rfl, rfl, rfl⟩ := hg
          have GD := Lib.hid (day_ok n hn)
          have GT := Lib.hid (date_ok n hn)
          clear hn
          generalize yr n = gy at GD GT ⊢
          generalize mn n = gm at GD GT ⊢
          generalize dm n = gd at GD GT ⊢
          go_enter Tryd.func4, Tryd.ntmps4
          go_wp2_with fail
          refine (sane_any _ HE.out).mono ?_
          rintro e w1 ⟨rfl, hb⟩
          have HB1 := Lib.hid hb
          clear hb
          go_wp2_with fail
          refine (AD.out _ (HE.out.below HB1.out)).mono ?_
          rintro e w2 ⟨rfl, hb⟩
          have HB2 := Lib.hid (HB1.out.trans (hb.mono HB1.out.size))
          clear hb
          go_wp2_with fail
          refine (AT.out _ (HE.out.below HB2.out)).mono ?_
          rintro e w3 ⟨rfl, hb⟩
          have HB3 := Lib.hid (HB2.out.trans (hb.mono HB2.out.size))
          clear hb
          go_wp2_with fail
          refine (GD.out _ (HE.out.below HB3.out)).mono ?_
          rintro e w4 ⟨rfl, hb⟩
          have HB4 := Lib.hid (HB3.out.trans (hb.mono HB3.out.size))
          clear hb
          go_wp2_with fail
          refine (GT.out _ (HE.out.below HB4.out)).mono ?_
          rintro e w5 ⟨rfl, hb⟩
          have HB5 := Lib.hid (HB4.out.trans (hb.mono HB4.out.size))
          clear hb
          go_wp2_with fail
          refine (BD.out _ (HE.out.below HB5.out)).mono ?_
          rintro e w6 ⟨rfl, hb⟩
          have HB6 := Lib.hid (HB5.out.trans (hb.mono HB5.out.size))
          clear hb
          go_wp2_with fail
          go_ret
          exact ⟨rfl, HB6.out⟩
        · have GD := Lib.hid (day_bad year month dom hg)
          clear hg
          go_enter Tryd.func4, Tryd.ntmps4
          go_wp2_with fail
          refine (sane_any _ HE.out).mono ?_
          rintro e w1 ⟨rfl, hb⟩
          have HB1 := Lib.hid hb
          clear hb
          go_wp2_with fail
          refine (AD.out _ (HE.out.below HB1.out)).mono ?_
          rintro e w2 ⟨rfl, hb⟩
          have HB2 := Lib.hid (HB1.out.trans (hb.mono HB1.out.size))
          clear hb
          go_wp2_with fail
          refine (AT.out _ (HE.out.below HB2.out)).mono ?_
          rintro e w3 ⟨rfl, hb⟩
          have HB3 := Lib.hid (HB2.out.trans (hb.mono HB2.out.size))
          clear hb
          go_wp2_with fail
          refine (GD.out _ (HE.out.below HB3.out)).mono ?_
          rintro e w4 ⟨rfl, hb⟩
          have HB4 := Lib.hid (HB3.out.trans (hb.mono HB3.out.size))
          clear hb
          go_wp2_with fail
          refine (x_date0 _ (HE.out.below HB4.out)).mono ?_
          rintro e w5 ⟨rfl, hb⟩
          have HB5 := Lib.hid (HB4.out.trans (hb.mono HB4.out.size))
          clear hb
          go_wp2_with fail
          refine (BD.out _ (HE.out.below HB5.out)).mono ?_
          rintro e w6 ⟨rfl, hb⟩
          have HB6 := Lib.hid (HB5.out.trans (hb.mono HB5.out.size))
          clear hb
          go_wp2_with fail
          go_ret
          exact ⟨rfl, HB6.out⟩
      · have g5 : decide (d < x) = true := by simp; omega
        clear hx
        by_cases hg : IsDate year month dom
        · obtain ⟨n, hn, rfl, rfl, rfl⟩ := hg
          have GD := Lib.hid (day_ok n hn)
          have GT := Lib.hid (date_ok n hn)
          clear hn
          generalize yr n = gy at GD GT ⊢
          generalize mn n = gm at GD GT ⊢
          generalize dm n = gd at GD GT ⊢
          go_enter Tryd.func4, Tryd.ntmps4
          go_wp2_with fail
          refine (sane_any _ HE.out).mono ?_
          rintro e w1 ⟨rfl, hb⟩
          have HB1 := Lib.hid hb
          clear hb
          go_wp2_with fail
          refine (AD.out _ (HE.out.below HB1.out)).mono ?_
          rintro e w2 ⟨rfl, hb⟩
          have HB2 := Lib.hid (HB1.out.trans (hb.mono HB1.out.size))
          clear hb
          go_wp2_with fail
          refine (AT.out _ (HE.out.below HB2.out)).mono ?_
          rintro e w3 ⟨rfl, hb⟩
          have HB3 := Lib.hid (HB2.out.trans (hb.mono HB2.out.size))
          clear hb
          go_wp2_with fail
          refine (GD.out _ (HE.out.below HB3.out)).mono ?_
          rintro e w4 ⟨rfl, hb⟩
          have HB4 := Lib.hid (HB3.out.trans (hb.mono HB3.out.size))
          clear hb
          go_wp2_with fail
          refine (GT.out _ (HE.out.below HB4.out)).mono ?_
          rintro e w5 ⟨rfl, hb⟩
          have HB5 := Lib.hid (HB4.out.trans (hb.mono HB4.out.size))
          clear hb
          go_wp2_with fail
          refine (BD.out _ (HE.out.below HB5.out)).mono ?_
          rintro e w6 ⟨rfl, hb⟩
          have HB6 := Lib.hid (HB5.out.trans (hb.mono HB5.out.size))
          clear hb
          go_wp2_with fail
          go_ret
          exact ⟨rfl, HB6.out⟩
        · have GD := Lib.hid (day_bad year month dom hg)
          clear hg
          go_enter Tryd.func4, Tryd.ntmps4
          go_wp2_with fail
          refine (sane_any _ HE.out).mono ?_
          rintro e w1 ⟨rfl, hb⟩
          have HB1 := Lib.hid hb
          clear hb
          go_wp2_with fail
          refine (AD.out _ (HE.out.below HB1.out)).mono ?_
          rintro e w2 ⟨rfl, hb⟩
          have HB2 := Lib.hid (HB1.out.trans (hb.mono HB1.out.size))
          clear hb
          go_wp2_with fail
          refine (AT.out _ (HE.out.below HB2.out)).mono ?_
          rintro e w3 ⟨rfl, hb⟩
          have HB3 := Lib.hid (HB2.out.trans (hb.mono HB2.out.size))
          clear hb
          go_wp2_with fail
          refine (GD.out _ (HE.out.below HB3.out)).mono ?_
          rintro e w4 ⟨rfl, hb⟩
          have HB4 := Lib.hid (HB3.out.trans (hb.mono HB3.out.size))
          clear hb
          go_wp2_with fail
          refine (x_date0 _ (HE.out.below HB4.out)).mono ?_
          rintro e w5 ⟨rfl, hb⟩
          have HB5 := Lib.hid (HB4.out.trans (hb.mono HB4.out.size))
          clear hb
          go_wp2_with fail
          refine (BD.out _ (HE.out.below HB5.out)).mono ?_
          rintro e w6 ⟨rfl, hb⟩
          have HB6 := Lib.hid (HB5.out.trans (hb.mono HB5.out.size))
          clear hb
          go_wp2_with fail
          go_ret
          exact ⟨rfl, HB6.out⟩
  · have BD := Lib.hid (date_bad b hb)
    clear hb hp
    generalize yr p = y at AD AT ⊢
    generalize mn p = m at AD AT ⊢
    generalize dm p = d at AD AT ⊢
    by_cases hg : IsDate year month dom
    · obtain ⟨n, hn, rfl, rfl, rfl⟩ := hg
      have GD := Lib.hid (day_ok n hn)
      have GT := Lib.hid (date_ok n hn)
      clear hn
      generalize yr n = gy at GD GT ⊢
      generalize mn n = gm at GD GT ⊢
      generalize dm n = gd at GD GT ⊢
      go_enter Tryd.func4, Tryd.ntmps4
      go_wp2_with fail
      refine (sane_any _ HE.out).mono ?_
      rintro e w1 ⟨rfl, hb⟩
      have HB1 := Lib.hid hb
      clear hb
      go_wp2_with fail
      refine (AD.out _ (HE.out.below HB1.out)).mono ?_
      rintro e w2 ⟨rfl, hb⟩
      have HB2 := Lib.hid (HB1.out.trans (hb.mono HB1.out.size))
      clear hb
      go_wp2_with fail
      refine (AT.out _ (HE.out.below HB2.out)).mono ?_
      rintro e w3 ⟨rfl, hb⟩
      have HB3 := Lib.hid (HB2.out.trans (hb.mono HB2.out.size))
      clear hb
      go_wp2_with fail
      refine (GD.out _ (HE.out.below HB3.out)).mono ?_
      rintro e w4 ⟨rfl, hb⟩
      have HB4 := Lib.hid (HB3.out.trans (hb.mono HB3.out.size))
      clear hb
      go_wp2_with fail
      refine (GT.out _ (HE.out.below HB4.out)).mono ?_
      rintro e w5 ⟨rfl, hb⟩
      have HB5 := Lib.hid (HB4.out.trans (hb.mono HB4.out.size))
      clear hb
      go_wp2_with fail
      refine (BD.out _).mono ?_
      rintro e w6 ⟨rfl, hb⟩
      have HB6 := Lib.hid (HB5.out.trans (hb.mono HB5.out.size))
      clear hb
      go_wp2_with fail
      go_ret
      exact ⟨rfl, HB6.out⟩
    · have GD := Lib.hid (day_bad year month dom hg)
      clear hg
      go_enter Tryd.func4, Tryd.ntmps4
      go_wp2_with fail
      refine (sane_any _ HE.out).mono ?_
      rintro e w1 ⟨rfl, hb⟩
      have HB1 := Lib.hid hb
      clear hb
      go_wp2_with fail
      refine (AD.out _ (HE.out.below HB1.out)).mono ?_
      rintro e w2 ⟨rfl, hb⟩
      have HB2 := Lib.hid (HB1.out.trans (hb.mono HB1.out.size))
      clear hb
      go_wp2_with fail
      refine (AT.out _ (HE.out.below HB2.out)).mono ?_
      rintro e w3 ⟨rfl, hb⟩
      have HB3 := Lib.hid (HB2.out.trans (hb.mono HB2.out.size))
      clear hb
      go_wp2_with fail
      refine (GD.out _ (HE.out.below HB3.out)).mono ?_
      rintro e w4 ⟨rfl, hb⟩
      have HB4 := Lib.hid (HB3.out.trans (hb.mono HB3.out.size))
      clear hb
      go_wp2_with fail
      refine (x_date0 _ (HE.out.below HB4.out)).mono ?_
      rintro e w5 ⟨rfl, hb⟩
      have HB5 := Lib.hid (HB4.out.trans (hb.mono HB4.out.size))
      clear hb
      go_wp2_with fail
      refine (BD.out _).mono ?_
      rintro e w6 ⟨rfl, hb⟩
      have HB6 := Lib.hid (HB5.out.trans (hb.mono HB5.out.size))
      clear hb
      go_wp2_with fail
      go_ret
      exact ⟨rfl, HB6.out⟩
end Go.Proofs.YtdhpdkfohbafgaaDoor.Ca
