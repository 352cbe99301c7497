/- The contract of CalendarAdds. -/
import Derived.Test.YtdhpdkfohbafgaaDoorCa9
set_option maxRecDepth 100000
namespace Go.Proofs.YtdhpdkfohbafgaaDoor.Ca
open Go.RowKit Go.Shelf Go.Lib Go.Sort

/-- The two results of Add: a day, or none. -/
theorem add_cases (a m : Int) : (∃ d t : Nat, a = d ∧ d ≤ 100000 ∧ (mo d : Int) + m = t ∧ addN d t ≤ 100000 ∧ ∀ w, Env w → Calls Tryd.prog 15 #[.int .i64 a, .int .i64 m] w (Gives (.tuple #[.int .i64 (addN d t : Nat), .int .i64 0]) w)) ∨
    ((∀ d t : Nat, a = d → d ≤ 100000 → (mo d : Int) + m = t → 100000 < addN d t) ∧ ∀ w, Env w → Calls Tryd.prog 15 #[.int .i64 a, .int .i64 m] w (Gives (.tuple #[.int .i64 0, .int .i64 3]) w)) := by
  rcases day_cases a with ⟨d, rfl, hd⟩ | h
  · by_cases ht : (mo d : Int) + m < 0 ∨ 3288 ≤ (mo d : Int) + m
    · refine .inr ⟨fun d' t h1 h2 h3 => ?_, fun w he => add_out d hd m ht w he⟩
      obtain rfl : d = d' := by omega
      have := st_mono (show 3288 ≤ t by omega)
      have := st_3288
      have := (dm_spec hd).1
      have := len_ge t
      unfold addN; omega
    · obtain ⟨t, ht2⟩ : ∃ t : Nat, (mo d : Int) + m = t := ⟨((mo d : Int) + m).toNat, by omega⟩
      by_cases hn : addN d t ≤ 100000
      · refine .inl ⟨d, t, rfl, hd, ht2, hn, fun w he => ?_⟩
        have := add_in d hd m t ht2 (by omega) w he
        rwa [addV_near _ hn] at this
      · refine .inr ⟨fun d' t' h1 h2 h3 => ?_, fun w he => ?_⟩
        · obtain rfl : d = d' := by omega
          obtain rfl : t = t' := by omega
          omega
        · have := add_in d hd m t ht2 (by omega) w he
          rwa [addV_far _ (by omega)] at this
  · exact .inr ⟨fun d t h1 h2 _ => by omega, fun w _ => add_bad a h m w⟩
theorem addN_month {d t : Nat} (hd : d ≤ 100000) (h : addN d t ≤ 100000) : mo (addN d t) = t ∧ dm (addN d t) = min (dm d) (len t) := by
  have h1 := (dm_spec hd).1
  have h2 := len_ge t
  have h3 : t ≤ 3288 := by
    rcases Nat.lt_or_ge 3288 t with h4 | h4
    · have := st_mono (show 3288 ≤ t by omega); have := st_3288; unfold addN at h; omega
    · exact h4
  exact ⟨mo_st t _ h3 (by omega) (by omega), dm_st t _ h3 (by omega) (by omega)⟩
theorem addN_last {d t : Nat} (hd : d ≤ 100000) (h : addN d t ≤ 100000) (hl : len t < dm d) : last (addN d t) = addN d t := by
  obtain ⟨h1, h2⟩ := addN_month hd h
  have h3 := st_succ t
  unfold last
  rw [h1]
  unfold addN at h ⊢
  omega
theorem addN_twice {d t t2 : Nat} (hd : d ≤ 100000) (h : addN d t ≤ 100000) (hl : dm d ≤ 28) : addN (addN d t) t2 = addN d t2 := by
  obtain ⟨h1, h2⟩ := addN_month hd h
  have := len_ge t
  have h3 : addN (addN d t) t2 = st t2 + min (dm (addN d t)) (len t2) - 1 := rfl
  rw [h3, h2]
  unfold addN
  congr 3
  omega
theorem addN_mono {p q t t2 : Nat} (hp : p ≤ 100000) (hq : q ≤ 100000) (hpq : p ≤ q) (m : Int) (h1 : (mo p : Int) + m = t) (h2 : (mo q : Int) + m = t2) : addN p t ≤ addN q t2 := by
  have h3 := mo_le hq hpq
  have h4 := dm_spec hp
  have h5 := dm_spec hq
  have h6 := len_ge t2
  by_cases h : mo p = mo q
  · obtain rfl : t = t2 := by omega
    have : dm p ≤ dm q := by unfold dm; rw [h]; omega
    unfold addN; omega
  · have := st_mono (show t + 1 ≤ t2 by omega)
    have := st_succ t
    unfold addN; omega

set_option maxHeartbeats 4000000 in
theorem adds_any (a b m n : Int) (w : World) (he : Env w) : Calls Tryd.prog 7 #[.int .i64 a, .int .i64 b, .int .i64 m, .int .i64 n] w (Gives (.bool true) w) := by
  have HE := Lib.hid he
  clear he
  by_cases h0 : m < -5000
  · have g0 : decide (m < -5000) = true := by simp; omega
    clear h0
    go_enter Tryd.func7, Tryd.ntmps7
    go_wp2_with fail
    refine (sane_any _ HE.out).mono ?_
    rintro e w1 ⟨rfl, hb⟩
    have HB1 := Lib.hid hb
    clear hb
    go_wp2_with fail
    go_ret
    exact ⟨rfl, HB1.out⟩
  have g0 : decide (m < -5000) = false := by simp; omega
  by_cases h1 : 5000 < m
  · have g1 : decide (5000 < m) = true := by simp; omega
    clear h1
    go_enter Tryd.func7, Tryd.ntmps7
    go_wp2_with fail
    refine (sane_any _ HE.out).mono ?_
    rintro e w1 ⟨rfl, hb⟩
    have HB1 := Lib.hid hb
    clear hb
    go_wp2_with fail
    go_ret
    exact ⟨rfl, HB1.out⟩
  have g1 : decide (5000 < m) = false := by simp; omega
  by_cases h2 : n < -5000
  · have g2 : decide (n < -5000) = true := by simp; omega
    clear h2
    go_enter Tryd.func7, Tryd.ntmps7
    go_wp2_with fail
    refine (sane_any _ HE.out).mono ?_
    rintro e w1 ⟨rfl, hb⟩
    have HB1 := Lib.hid hb
    clear hb
    go_wp2_with fail
    go_ret
    exact ⟨rfl, HB1.out⟩
  have g2 : decide (n < -5000) = false := by simp; omega
  by_cases h3 : 5000 < n
  · have g3 : decide (5000 < n) = true := by simp; omega
    clear h3
    go_enter Tryd.func7, Tryd.ntmps7
    go_wp2_with fail
    refine (sane_any _ HE.out).mono ?_
    rintro e w1 ⟨rfl, hb⟩
    have HB1 := Lib.hid hb
    clear hb
    go_wp2_with fail
    go_ret
    exact ⟨rfl, HB1.out⟩
  have g3 : decide (5000 < n) = false := by simp; omega
  have b1 : -5000 ≤ m := by omega
  have b2 : m ≤ 5000 := by omega
  have b3 : -5000 ≤ n := by omega
  have b4 : n ≤ 5000 := by omega
  clear h0 h1 h2 h3
  rcases day_cases a with ⟨p, rfl, hp⟩ | ha
  rotate_left
  · have DA := Lib.hid (date_bad a ha)
    have AA := Lib.hid (add_bad a ha m)
    clear ha
    go_enter Tryd.func7, Tryd.ntmps7
    go_wp2_with fail
    refine (sane_any _ HE.out).mono ?_
    rintro e w1 ⟨rfl, hb⟩
    have HB1 := Lib.hid hb
    clear hb
    go_wp2_with fail
    refine (DA.out _).mono ?_
    rintro e w2 ⟨rfl, hb⟩
    have HB2 := Lib.hid (HB1.out.trans (hb.mono HB1.out.size))
    clear hb
    go_wp2_with fail
    refine (AA.out _).mono ?_
    rintro e w3 ⟨rfl, hb⟩
    have HB3 := Lib.hid (HB2.out.trans (hb.mono HB2.out.size))
    clear hb
    go_wp2_with fail
    go_ret
    exact ⟨rfl, HB3.out⟩
  have DA := Lib.hid (date_ok p hp)
  rcases add_cases p m with ⟨d, t, e1, _, ht, hx, hA⟩ | ⟨_, hA⟩
  rotate_left
  · have AA := Lib.hid hA
    clear hA hp
    generalize yr p = y at DA
    generalize mn p = mp at DA
    generalize dm p = dp at DA
    go_enter Tryd.func7, Tryd.ntmps7
    go_wp2_with fail
    refine (sane_any _ HE.out).mono ?_
    rintro e w1 ⟨rfl, hb⟩
    have HB1 := Lib.hid hb
    clear hb
    go_wp2_with fail
    refine (DA.out _ (HE.out.below HB1.out)).mono ?_
    rintro e w2 ⟨rfl, hb⟩
    have HB2 := Lib.hid (HB1.out.trans (hb.mono HB1.out.size))
    clear hb
    go_wp2_with fail
    refine (AA.out _ (HE.out.below HB2.out)).mono ?_
    rintro e w3 ⟨rfl, hb⟩
    have HB3 := Lib.hid (HB2.out.trans (hb.mono HB2.out.size))
    clear hb
    go_wp2_with fail
    go_ret
    exact ⟨rfl, HB3.out⟩
  obtain rfl : p = d := by omega
  have AA := Lib.hid hA
  have DX := Lib.hid (date_ok (addN p t) hx)
  have MX := Lib.hid (month_ok (addN p t) hx)
  obtain ⟨hm1, hm2⟩ := addN_month hp hx
  have HLAST := Lib.hid (fun h => addN_last (t := t) hp hx h)
  have eY : (yr (addN p t) : Int) * 12 + (mn (addN p t) : Int) = (yr p : Int) * 12 + (mn p : Int) + m := by unfold yr mn; rw [hm1]; omega
  have by1 := (ymd_k (addN p t) hx).2.1
  have by2 := (ymd_k (addN p t) hx).2.2.2.1
  have by3 := (ymd_k p hp).2.1
  have by4 := (ymd_k p hp).2.2.2.1
  have w0 : IntKind.i64.wrap (m + n) = m + n := IntWalk.i64_in _ (by omega)
  -- the second sum
  have HTW : Hid (dm p ≤ 28 → (∃ x2 : Int, (∀ w, Env w → Calls Tryd.prog 15 #[.int .i64 (addN p t : Nat), .int .i64 n] w (Gives (.tuple #[.int .i64 x2, .int .i64 0]) w)) ∧ (∀ w, Env w → Calls Tryd.prog 15 #[.int .i64 (p : Nat), .int .i64 (m + n)] w (Gives (.tuple #[.int .i64 x2, .int .i64 0]) w))) ∨
      (∀ w, Env w → Calls Tryd.prog 15 #[.int .i64 (addN p t : Nat), .int .i64 n] w (Gives (.tuple #[.int .i64 0, .int .i64 3]) w))) := Lib.hid fun h28 => by
    rcases add_cases (addN p t : Nat) n with ⟨d, t2, e1, _, ht2, hx2, hA2⟩ | ⟨_, hA2⟩
    · obtain rfl : addN p t = d := by omega
      rcases add_cases p (m + n) with ⟨d, t3, e1, _, ht3, hx3, hA3⟩ | ⟨hno, hA3⟩
      · obtain rfl : p = d := by omega
        obtain rfl : t2 = t3 := by omega
        rw [addN_twice hp hx h28] at hA2
        exact .inl ⟨_, hA2, hA3⟩
      · exfalso
        have := hno p t2 rfl hp (by omega)
        rw [addN_twice hp hx h28] at hx2
        omega
    · exact .inr hA2
  obtain ⟨i1, i2, i3, hi3⟩ : ∃ v1 v2, Same 15 16 #[.int .i64 (addN p t : Nat), .int .i64 n] (.tuple #[.int .i64 v1, .int .i64 v2]) := same_add _ _
  obtain ⟨j1, j2, j3, hj3⟩ : ∃ v1 v2, Same 15 16 #[.int .i64 (p : Nat), .int .i64 (m + n)] (.tuple #[.int .i64 v1, .int .i64 v2]) := same_add _ _
  have TG := Lib.hid i3
  have OG := Lib.hid j3
  -- the sum for the other day
  have HZ : (∃ z1 : Int, ∀ w, Env w → Calls Tryd.prog 15 #[.int .i64 b, .int .i64 m] w (Gives (.tuple #[.int .i64 z1, .int .i64 3]) w)) ∨
      (∃ z1 : Nat, (b < (p : Int) ∨ addN p t ≤ z1) ∧ ∀ w, Env w → Calls Tryd.prog 15 #[.int .i64 b, .int .i64 m] w (Gives (.tuple #[.int .i64 (z1 : Nat), .int .i64 0]) w)) := by
    rcases add_cases b m with ⟨q, t2, e1, hq, ht2, hx2, hA2⟩ | ⟨_, hA2⟩
    · refine .inr ⟨_, ?_, hA2⟩
      rcases Nat.lt_or_ge q p with h | h
      · exact .inl (by omega)
      · exact .inr (addN_mono hp hq h m ht ht2)
    · exact .inl ⟨_, hA2⟩
  clear hA hj3 i3 j3 hi3 hm1 ht e1
  obtain ⟨X, hX⟩ : ∃ z, addN p t = z := ⟨_, rfl⟩
  rw [hX] at AA DX MX HLAST eY by1 by2 hm2 HTW TG HZ hx
  have bX : X ≤ 100000 := hx
  clear hX hx hp
  have eYb : ((((yr X : Nat) : Int) * 12 + ((mn X : Nat) : Int)) != (((yr p : Nat) : Int) * 12 + ((mn p : Nat) : Int) + m)) = false := by rw [eY]; simp
  clear eY
  obtain ⟨U, hU⟩ : ∃ z, yr X = z := ⟨_, rfl⟩
  obtain ⟨V, hV⟩ : ∃ z, mn X = z := ⟨_, rfl⟩
  obtain ⟨Q, hQ⟩ : ∃ z, dm X = z := ⟨_, rfl⟩
  obtain ⟨Y, hY⟩ : ∃ z, yr p = z := ⟨_, rfl⟩
  obtain ⟨M, hM⟩ : ∃ z, mn p = z := ⟨_, rfl⟩
  obtain ⟨D, hD⟩ : ∃ z, dm p = z := ⟨_, rfl⟩
  obtain ⟨FX, hFX⟩ : ∃ z, first X = z := ⟨_, rfl⟩
  obtain ⟨LX, hLX⟩ : ∃ z, last X = z := ⟨_, rfl⟩
  obtain ⟨LT, hLT⟩ : ∃ z, len t = z := ⟨_, rfl⟩
  have hge := len_ge t
  rw [hU] at DX eYb by1
  rw [hV] at DX eYb by2
  rw [hQ] at DX hm2
  rw [hY] at DA eYb by3
  rw [hM] at DA eYb by4
  rw [hD] at DA hm2 HLAST HTW
  rw [hFX, hLX] at MX
  rw [hLX] at HLAST
  rw [hLT] at hm2 HLAST hge
  clear hU hV hQ hY hM hD hFX hLX hLT
  by_cases hlt : LT < D
  · obtain rfl : X = LX := (HLAST.out hlt).symm
    have d1 : ((Q : Int) != (D : Int)) = true := by simp; omega
    have d1' : (Q != D) = true := by simp; omega
    have d2 : decide (D < Q) = false := by simp; omega
    have d3 : decide (D ≤ 28) = false := by simp; omega
    have d3' : decide ((D : Int) ≤ 28) = false := by simp; omega
    clear HLAST HTW hlt hm2 hge
    rcases HZ with ⟨z1, hz⟩ | ⟨z1, hz1 | hz1, hz⟩
    · have ZZ := Lib.hid hz
      clear hz
      go_enter Tryd.func7, Tryd.ntmps7
      go_wp2_with fail
      refine (sane_any _ HE.out).mono ?_
      rintro e w1 ⟨rfl, hb⟩
      have HB1 := Lib.hid hb
      clear hb
      go_wp2_with fail
      refine (DA.out _ (HE.out.below HB1.out)).mono ?_
      rintro e w2 ⟨rfl, hb⟩
      have HB2 := Lib.hid (HB1.out.trans (hb.mono HB1.out.size))
      clear hb
      go_wp2_with fail
      refine (AA.out _ (HE.out.below HB2.out)).mono ?_
      rintro e w3 ⟨rfl, hb⟩
      have HB3 := Lib.hid (HB2.out.trans (hb.mono HB2.out.size))
      clear hb
      go_wp2_with fail
      refine (DX.out _ (HE.out.below HB3.out)).mono ?_
      rintro e w4 ⟨rfl, hb⟩
      have HB4 := Lib.hid (HB3.out.trans (hb.mono HB3.out.size))
      clear hb
      go_wp2_with fail
      refine (MX.out _ (HE.out.below HB4.out)).mono ?_
      rintro e w5 ⟨rfl, hb⟩
      have HB5 := Lib.hid (HB4.out.trans (hb.mono HB4.out.size))
      clear hb
      go_wp2_with fail
      refine (TG.out _ (HE.out.below HB5.out)).mono ?_
      rintro e w6 ⟨rfl, hb⟩
      have HB6 := Lib.hid (HB5.out.trans (hb.mono HB5.out.size))
      clear hb
      go_wp2_with fail
      refine (OG.out _ (HE.out.below HB6.out)).mono ?_
      rintro e w7 ⟨rfl, hb⟩
      have HB7 := Lib.hid (HB6.out.trans (hb.mono HB6.out.size))
      clear hb
      go_wp2_with fail
      refine (ZZ.out _ (HE.out.below HB7.out)).mono ?_
      rintro e w8 ⟨rfl, hb⟩
      have HB8 := Lib.hid (HB7.out.trans (hb.mono HB7.out.size))
      clear hb
      go_wp2_with fail
      go_ret
      exact ⟨rfl, HB8.out⟩
    · have ZZ := Lib.hid hz
      have z2 : decide (b < (p : Int)) = true := by simp; omega
      clear hz hz1
      go_enter Tryd.func7, Tryd.ntmps7
      go_wp2_with fail
      refine (sane_any _ HE.out).mono ?_
      rintro e w1 ⟨rfl, hb⟩
      have HB1 := Lib.hid hb
      clear hb
      go_wp2_with fail
      refine (DA.out _ (HE.out.below HB1.out)).mono ?_
      rintro e w2 ⟨rfl, hb⟩
      have HB2 := Lib.hid (HB1.out.trans (hb.mono HB1.out.size))
      clear hb
      go_wp2_with fail
      refine (AA.out _ (HE.out.below HB2.out)).mono ?_
      rintro e w3 ⟨rfl, hb⟩
      have HB3 := Lib.hid (HB2.out.trans (hb.mono HB2.out.size))
      clear hb
      go_wp2_with fail
      refine (DX.out _ (HE.out.below HB3.out)).mono ?_
      rintro e w4 ⟨rfl, hb⟩
      have HB4 := Lib.hid (HB3.out.trans (hb.mono HB3.out.size))
      clear hb
      go_wp2_with fail
      refine (MX.out _ (HE.out.below HB4.out)).mono ?_
      rintro e w5 ⟨rfl, hb⟩
      have HB5 := Lib.hid (HB4.out.trans (hb.mono HB4.out.size))
      clear hb
      go_wp2_with fail
      refine (TG.out _ (HE.out.below HB5.out)).mono ?_
      rintro e w6 ⟨rfl, hb⟩
      have HB6 := Lib.hid (HB5.out.trans (hb.mono HB5.out.size))
      clear hb
      go_wp2_with fail
      refine (OG.out _ (HE.out.below HB6.out)).mono ?_
      rintro e w7 ⟨rfl, hb⟩
      have HB7 := Lib.hid (HB6.out.trans (hb.mono HB6.out.size))
      clear hb
      go_wp2_with fail
      refine (ZZ.out _ (HE.out.below HB7.out)).mono ?_
      rintro e w8 ⟨rfl, hb⟩
      have HB8 := Lib.hid (HB7.out.trans (hb.mono HB7.out.size))
      clear hb
      go_wp2_with fail
      go_ret
      exact ⟨rfl, HB8.out⟩
    · have ZZ := Lib.hid hz
      have z2 : decide (X ≤ z1) = true := by simp; omega
      rcases hbp : decide (b < (p : Int)) with _ | _
      all_goals
        clear hz hz1
        go_enter Tryd.func7, Tryd.ntmps7
        go_wp2_with fail
        refine (sane_any _ HE.out).mono ?_
        rintro e w1 ⟨rfl, hb⟩
        have HB1 := Lib.hid hb
        clear hb
        go_wp2_with fail
        refine (DA.out _ (HE.out.below HB1.out)).mono ?_
        rintro e w2 ⟨rfl, hb⟩
        have HB2 := Lib.hid (HB1.out.trans (hb.mono HB1.out.size))
        clear hb
        go_wp2_with fail
        refine (AA.out _ (HE.out.below HB2.out)).mono ?_
        rintro e w3 ⟨rfl, hb⟩
        have HB3 := Lib.hid (HB2.out.trans (hb.mono HB2.out.size))
        clear hb
        go_wp2_with fail
        refine (DX.out _ (HE.out.below HB3.out)).mono ?_
        rintro e w4 ⟨rfl, hb⟩
        have HB4 := Lib.hid (HB3.out.trans (hb.mono HB3.out.size))
        clear hb
        go_wp2_with fail
        refine (MX.out _ (HE.out.below HB4.out)).mono ?_
        rintro e w5 ⟨rfl, hb⟩
        have HB5 := Lib.hid (HB4.out.trans (hb.mono HB4.out.size))
        clear hb
        go_wp2_with fail
        refine (TG.out _ (HE.out.below HB5.out)).mono ?_
        rintro e w6 ⟨rfl, hb⟩
        have HB6 := Lib.hid (HB5.out.trans (hb.mono HB5.out.size))
        clear hb
        go_wp2_with fail
        refine (OG.out _ (HE.out.below HB6.out)).mono ?_
        rintro e w7 ⟨rfl, hb⟩
        have HB7 := Lib.hid (HB6.out.trans (hb.mono HB6.out.size))
        clear hb
        go_wp2_with fail
        refine (ZZ.out _ (HE.out.below HB7.out)).mono ?_
        rintro e w8 ⟨rfl, hb⟩
        have HB8 := Lib.hid (HB7.out.trans (hb.mono HB7.out.size))
        clear hb
        go_wp2_with fail
        go_ret
        exact ⟨rfl, HB8.out⟩
  · obtain rfl : Q = D := by omega
    clear HLAST hlt hm2 hge
    by_cases h28 : Q ≤ 28
    · have d3 : decide (Q ≤ 28) = true := by simp; omega
      have d3' : decide ((Q : Int) ≤ 28) = true := by simp; omega
      rcases HTW.out h28 with ⟨x2, h1, h2⟩ | h1
      · have TW := Lib.hid h1
        have ON := Lib.hid h2
        clear h1 h2 h28 HTW TG OG
        rcases HZ with ⟨z1, hz⟩ | ⟨z1, hz1 | hz1, hz⟩
        · have ZZ := Lib.hid hz
          clear hz
          go_enter Tryd.func7, Tryd.ntmps7
          go_wp2_with fail
          refine (sane_any _ HE.out).mono ?_
          rintro e w1 ⟨rfl, hb⟩
          have HB1 := Lib.hid hb
          clear hb
          go_wp2_with fail
          refine (DA.out _ (HE.out.below HB1.out)).mono ?_
          rintro e w2 ⟨rfl, hb⟩
          have HB2 := Lib.hid (HB1.out.trans (hb.mono HB1.out.size))
          clear hb
          go_wp2_with fail
          refine (AA.out _ (HE.out.below HB2.out)).mono ?_
          rintro e w3 ⟨rfl, hb⟩
          have HB3 := Lib.hid (HB2.out.trans (hb.mono HB2.out.size))
          clear hb
          go_wp2_with fail
          refine (DX.out _ (HE.out.below HB3.out)).mono ?_
          rintro e w4 ⟨rfl, hb⟩
          have HB4 := Lib.hid (HB3.out.trans (hb.mono HB3.out.size))
          clear hb
          go_wp2_with fail
          refine (MX.out _ (HE.out.below HB4.out)).mono ?_
          rintro e w5 ⟨rfl, hb⟩
          have HB5 := Lib.hid (HB4.out.trans (hb.mono HB4.out.size))
          clear hb
          go_wp2_with fail
          refine (TW.out _ (HE.out.below HB5.out)).mono ?_
          rintro e w6 ⟨rfl, hb⟩
          have HB6 := Lib.hid (HB5.out.trans (hb.mono HB5.out.size))
          clear hb
          go_wp2_with fail
          refine (ON.out _ (HE.out.below HB6.out)).mono ?_
          rintro e w7 ⟨rfl, hb⟩
          have HB7 := Lib.hid (HB6.out.trans (hb.mono HB6.out.size))
          clear hb
          go_wp2_with fail
          refine (ZZ.out _ (HE.out.below HB7.out)).mono ?_
          rintro e w8 ⟨rfl, hb⟩
          have HB8 := Lib.hid (HB7.out.trans (hb.mono HB7.out.size))
          clear hb
          go_wp2_with fail
          go_ret
          exact ⟨rfl, HB8.out⟩
        · have ZZ := Lib.hid hz
          have z2 : decide (b < (p : Int)) = true := by simp; omega
          clear hz hz1
          go_enter Tryd.func7, Tryd.ntmps7
          go_wp2_with fail
          refine (sane_any _ HE.out).mono ?_
          rintro e w1 ⟨rfl, hb⟩
          have HB1 := Lib.hid hb
          clear hb
          go_wp2_with fail
          refine (DA.out _ (HE.out.below HB1.out)).mono ?_
          rintro e w2 ⟨rfl, hb⟩
          have HB2 := Lib.hid (HB1.out.trans (hb.mono HB1.out.size))
          clear hb
          go_wp2_with fail
          refine (AA.out _ (HE.out.below HB2.out)).mono ?_
          rintro e w3 ⟨rfl, hb⟩
          have HB3 := Lib.hid (HB2.out.trans (hb.mono HB2.out.size))
          clear hb
          go_wp2_with fail
          refine (DX.out _ (HE.out.below HB3.out)).mono ?_
          rintro e w4 ⟨rfl, hb⟩
          have HB4 := Lib.hid (HB3.out.trans (hb.mono HB3.out.size))
          clear hb
          go_wp2_with fail
          refine (MX.out _ (HE.out.below HB4.out)).mono ?_
          rintro e w5 ⟨rfl, hb⟩
          have HB5 := Lib.hid (HB4.out.trans (hb.mono HB4.out.size))
          clear hb
          go_wp2_with fail
          refine (TW.out _ (HE.out.below HB5.out)).mono ?_
          rintro e w6 ⟨rfl, hb⟩
          have HB6 := Lib.hid (HB5.out.trans (hb.mono HB5.out.size))
          clear hb
          go_wp2_with fail
          refine (ON.out _ (HE.out.below HB6.out)).mono ?_
          rintro e w7 ⟨rfl, hb⟩
          have HB7 := Lib.hid (HB6.out.trans (hb.mono HB6.out.size))
          clear hb
          go_wp2_with fail
          refine (ZZ.out _ (HE.out.below HB7.out)).mono ?_
          rintro e w8 ⟨rfl, hb⟩
          have HB8 := Lib.hid (HB7.out.trans (hb.mono HB7.out.size))
          clear hb
          go_wp2_with fail
          go_ret
          exact ⟨rfl, HB8.out⟩
        · have ZZ := Lib.hid hz
          have z2 : decide (X ≤ z1) = true := by simp; omega
          rcases hbp : decide (b < (p : Int)) with _ | _
          all_goals
            clear hz hz1
            go_enter Tryd.func7, Tryd.ntmps7
            go_wp2_with fail
            refine (sane_any _ HE.out).mono ?_
            rintro e w1 ⟨rfl, hb⟩
            have HB1 := Lib.hid hb
            clear hb
            go_wp2_with fail
            refine (DA.out _ (HE.out.below HB1.out)).mono ?_
            rintro e w2 ⟨rfl, hb⟩
            have HB2 := Lib.hid (HB1.out.trans (hb.mono HB1.out.size))
            clear hb
            go_wp2_with fail
            refine (AA.out _ (HE.out.below HB2.out)).mono ?_
            rintro e w3 ⟨rfl, hb⟩
            have HB3 := Lib.hid (HB2.out.trans (hb.mono HB2.out.size))
            clear hb
            go_wp2_with fail
            refine (DX.out _ (HE.out.below HB3.out)).mono ?_
            rintro e w4 ⟨rfl, hb⟩
            have HB4 := Lib.hid (HB3.out.trans (hb.mono HB3.out.size))
            clear hb
            go_wp2_with fail
            refine (MX.out _ (HE.out.below HB4.out)).mono ?_
            rintro e w5 ⟨rfl, hb⟩
            have HB5 := Lib.hid (HB4.out.trans (hb.mono HB4.out.size))
            clear hb
            go_wp2_with fail
            refine (TW.out _ (HE.out.below HB5.out)).mono ?_
            rintro e w6 ⟨rfl, hb⟩
            have HB6 := Lib.hid (HB5.out.trans (hb.mono HB5.out.size))
            clear hb
            go_wp2_with fail
            refine (ON.out _ (HE.out.below HB6.out)).mono ?_
            rintro e w7 ⟨rfl, hb⟩
            have HB7 := Lib.hid (HB6.out.trans (hb.mono HB6.out.size))
            clear hb
            go_wp2_with fail
            refine (ZZ.out _ (HE.out.below HB7.out)).mono ?_
            rintro e w8 ⟨rfl, hb⟩
            have HB8 := Lib.hid (HB7.out.trans (hb.mono HB7.out.size))
            clear hb
            go_wp2_with fail
            go_ret
            exact ⟨rfl, HB8.out⟩
      · have TW := Lib.hid h1
        clear h1 h28 HTW TG
        rcases HZ with ⟨z1, hz⟩ | ⟨z1, hz1 | hz1, hz⟩
        · have ZZ := Lib.hid hz
          clear hz
          go_enter Tryd.func7, Tryd.ntmps7
          go_wp2_with fail
          refine (sane_any _ HE.out).mono ?_
          rintro e w1 ⟨rfl, hb⟩
          have HB1 := Lib.hid hb
          clear hb
          go_wp2_with fail
          refine (DA.out _ (HE.out.below HB1.out)).mono ?_
          rintro e w2 ⟨rfl, hb⟩
          have HB2 := Lib.hid (HB1.out.trans (hb.mono HB1.out.size))
          clear hb
          go_wp2_with fail
          refine (AA.out _ (HE.out.below HB2.out)).mono ?_
          rintro e w3 ⟨rfl, hb⟩
          have HB3 := Lib.hid (HB2.out.trans (hb.mono HB2.out.size))
          clear hb
          go_wp2_with fail
          refine (DX.out _ (HE.out.below HB3.out)).mono ?_
          rintro e w4 ⟨rfl, hb⟩
          have HB4 := Lib.hid (HB3.out.trans (hb.mono HB3.out.size))
          clear hb
          go_wp2_with fail
          refine (MX.out _ (HE.out.below HB4.out)).mono ?_
          rintro e w5 ⟨rfl, hb⟩
          have HB5 := Lib.hid (HB4.out.trans (hb.mono HB4.out.size))
          clear hb
          go_wp2_with fail
          refine (TW.out _ (HE.out.below HB5.out)).mono ?_
          rintro e w6 ⟨rfl, hb⟩
          have HB6 := Lib.hid (HB5.out.trans (hb.mono HB5.out.size))
          clear hb
          go_wp2_with fail
          refine (OG.out _ (HE.out.below HB6.out)).mono ?_
          rintro e w7 ⟨rfl, hb⟩
          have HB7 := Lib.hid (HB6.out.trans (hb.mono HB6.out.size))
          clear hb
          go_wp2_with fail
          refine (ZZ.out _ (HE.out.below HB7.out)).mono ?_
          rintro e w8 ⟨rfl, hb⟩
          have HB8 := Lib.hid (HB7.out.trans (hb.mono HB7.out.size))
          clear hb
          go_wp2_with fail
          go_ret
          exact ⟨rfl, HB8.out⟩
        · have ZZ := Lib.hid hz
          have z2 : decide (b < (p : Int)) = true := by simp; omega
          clear hz hz1
          go_enter Tryd.func7, Tryd.ntmps7
          go_wp2_with fail
          refine (sane_any _ HE.out).mono ?_
          rintro e w1 ⟨rfl, hb⟩
          have HB1 := Lib.hid hb
          clear hb
          go_wp2_with fail
          refine (DA.out _ (HE.out.below HB1.out)).mono ?_
          rintro e w2 ⟨rfl, hb⟩
          have HB2 := Lib.hid (HB1.out.trans (hb.mono HB1.out.size))
          clear hb
          go_wp2_with fail
          refine (AA.out _ (HE.out.below HB2.out)).mono ?_
          rintro e w3 ⟨rfl, hb⟩
          have HB3 := Lib.hid (HB2.out.trans (hb.mono HB2.out.size))
          clear hb
          go_wp2_with fail
          refine (DX.out _ (HE.out.below HB3.out)).mono ?_
          rintro e w4 ⟨rfl, hb⟩
          have HB4 := Lib.hid (HB3.out.trans (hb.mono HB3.out.size))
          clear hb
          go_wp2_with fail
          refine (MX.out _ (HE.out.below HB4.out)).mono ?_
          rintro e w5 ⟨rfl, hb⟩
          have HB5 := Lib.hid (HB4.out.trans (hb.mono HB4.out.size))
          clear hb
          go_wp2_with fail
          refine (TW.out _ (HE.out.below HB5.out)).mono ?_
          rintro e w6 ⟨rfl, hb⟩
          have HB6 := Lib.hid (HB5.out.trans (hb.mono HB5.out.size))
          clear hb
          go_wp2_with fail
          refine (OG.out _ (HE.out.below HB6.out)).mono ?_
          rintro e w7 ⟨rfl, hb⟩
          have HB7 := Lib.hid (HB6.out.trans (hb.mono HB6.out.size))
          clear hb
          go_wp2_with fail
          refine (ZZ.out _ (HE.out.below HB7.out)).mono ?_
          rintro e w8 ⟨rfl, hb⟩
          have HB8 := Lib.hid (HB7.out.trans (hb.mono HB7.out.size))
          clear hb
          go_wp2_with fail
          go_ret
          exact ⟨rfl, HB8.out⟩
        · have ZZ := Lib.hid hz
          have z2 : decide (X ≤ z1) = true := by simp; omega
          rcases hbp : decide (b < (p : Int)) with _ | _
          all_goals
            clear hz hz1
            go_enter Tryd.func7, Tryd.ntmps7
            go_wp2_with fail
            refine (sane_any _ HE.out).mono ?_
            rintro e w1 ⟨rfl, hb⟩
            have HB1 := Lib.hid hb
            clear hb
            go_wp2_with fail
            refine (DA.out _ (HE.out.below HB1.out)).mono ?_
            rintro e w2 ⟨rfl, hb⟩
            have HB2 := Lib.hid (HB1.out.trans (hb.mono HB1.out.size))
            clear hb
            go_wp2_with fail
            refine (AA.out _ (HE.out.below HB2.out)).mono ?_
            rintro e w3 ⟨rfl, hb⟩
            have HB3 := Lib.hid (HB2.out.trans (hb.mono HB2.out.size))
            clear hb
            go_wp2_with fail
            refine (DX.out _ (HE.out.below HB3.out)).mono ?_
            rintro e w4 ⟨rfl, hb⟩
            have HB4 := Lib.hid (HB3.out.trans (hb.mono HB3.out.size))
            clear hb
            go_wp2_with fail
            refine (MX.out _ (HE.out.below HB4.out)).mono ?_
            rintro e w5 ⟨rfl, hb⟩
            have HB5 := Lib.hid (HB4.out.trans (hb.mono HB4.out.size))
            clear hb
            go_wp2_with fail
            refine (TW.out _ (HE.out.below HB5.out)).mono ?_
            rintro e w6 ⟨rfl, hb⟩
            have HB6 := Lib.hid (HB5.out.trans (hb.mono HB5.out.size))
            clear hb
            go_wp2_with fail
            refine (OG.out _ (HE.out.below HB6.out)).mono ?_
            rintro e w7 ⟨rfl, hb⟩
            have HB7 := Lib.hid (HB6.out.trans (hb.mono HB6.out.size))
            clear hb
            go_wp2_with fail
            refine (ZZ.out _ (HE.out.below HB7.out)).mono ?_
            rintro e w8 ⟨rfl, hb⟩
            have HB8 := Lib.hid (HB7.out.trans (hb.mono HB7.out.size))
            clear hb
            go_wp2_with fail
            go_ret
            exact ⟨rfl, HB8.out⟩
    · have d3 : decide (Q ≤ 28) = false := by simp; omega
      have d3' : decide ((Q : Int) ≤ 28) = false := by simp; omega
      clear h28 HTW
      rcases HZ with ⟨z1, hz⟩ | ⟨z1, hz1 | hz1, hz⟩
      · have ZZ := Lib.hid hz
        clear hz
        go_enter Tryd.func7, Tryd.ntmps7
        go_wp2_with fail
        refine (sane_any _ HE.out).mono ?_
        rintro e w1 ⟨rfl, hb⟩
        have HB1 := Lib.hid hb
        clear hb
        go_wp2_with fail
        refine (DA.out _ (HE.out.below HB1.out)).mono ?_
        rintro e w2 ⟨rfl, hb⟩
        have HB2 := Lib.hid (HB1.out.trans (hb.mono HB1.out.size))
        clear hb
        go_wp2_with fail
        refine (AA.out _ (HE.out.below HB2.out)).mono ?_
        rintro e w3 ⟨rfl, hb⟩
        have HB3 := Lib.hid (HB2.out.trans (hb.mono HB2.out.size))
        clear hb
        go_wp2_with fail
        refine (DX.out _ (HE.out.below HB3.out)).mono ?_
        rintro e w4 ⟨rfl, hb⟩
        have HB4 := Lib.hid (HB3.out.trans (hb.mono HB3.out.size))
        clear hb
        go_wp2_with fail
        refine (MX.out _ (HE.out.below HB4.out)).mono ?_
        rintro e w5 ⟨rfl, hb⟩
        have HB5 := Lib.hid (HB4.out.trans (hb.mono HB4.out.size))
        clear hb
        go_wp2_with fail
        refine (TG.out _ (HE.out.below HB5.out)).mono ?_
        rintro e w6 ⟨rfl, hb⟩
        have HB6 := Lib.hid (HB5.out.trans (hb.mono HB5.out.size))
        clear hb
        go_wp2_with fail
        refine (OG.out _ (HE.out.below HB6.out)).mono ?_
        rintro e w7 ⟨rfl, hb⟩
        have HB7 := Lib.hid (HB6.out.trans (hb.mono HB6.out.size))
        clear hb
        go_wp2_with fail
        refine (ZZ.out _ (HE.out.below HB7.out)).mono ?_
        rintro e w8 ⟨rfl, hb⟩
        have HB8 := Lib.hid (HB7.out.trans (hb.mono HB7.out.size))
        clear hb
        go_wp2_with fail
        go_ret
        exact ⟨rfl, HB8.out⟩
      · have ZZ := Lib.hid hz
        have z2 : decide (b < (p : Int)) = true := by simp; omega
        clear hz hz1
        go_enter Tryd.func7, Tryd.ntmps7
        go_wp2_with fail
        refine (sane_any _ HE.out).mono ?_
        rintro e w1 ⟨rfl, hb⟩
        have HB1 := Lib.hid hb
        clear hb
        go_wp2_with fail
        refine (DA.out _ (HE.out.below HB1.out)).mono ?_
        rintro e w2 ⟨rfl, hb⟩
        have HB2 := Lib.hid (HB1.out.trans (hb.mono HB1.out.size))
        clear hb
        go_wp2_with fail
        refine (AA.out _ (HE.out.below HB2.out)).mono ?_
        rintro e w3 ⟨rfl, hb⟩
        have HB3 := Lib.hid (HB2.out.trans (hb.mono HB2.out.size))
        clear hb
        go_wp2_with fail
        refine (DX.out _ (HE.out.below HB3.out)).mono ?_
        rintro e w4 ⟨rfl, hb⟩
        have HB4 := Lib.hid (HB3.out.trans (hb.mono HB3.out.size))
        clear hb
        go_wp2_with fail
        refine (MX.out _ (HE.out.below HB4.out)).mono ?_
        rintro e w5 ⟨rfl, hb⟩
        have HB5 := Lib.hid (HB4.out.trans (hb.mono HB4.out.size))
        clear hb
        go_wp2_with fail
        refine (TG.out _ (HE.out.below HB5.out)).mono ?_
        rintro e w6 ⟨rfl, hb⟩
        have HB6 := Lib.hid (HB5.out.trans (hb.mono HB5.out.size))
        clear hb
        go_wp2_with fail
        refine (OG.out _ (HE.out.below HB6.out)).mono ?_
        rintro e w7 ⟨rfl, hb⟩
        have HB7 := Lib.hid (HB6.out.trans (hb.mono HB6.out.size))
        clear hb
        go_wp2_with fail
        refine (ZZ.out _ (HE.out.below HB7.out)).mono ?_
        rintro e w8 ⟨rfl, hb⟩
        have HB8 := Lib.hid (HB7.out.trans (hb.mono HB7.out.size))
        clear hb
        go_wp2_with fail
        go_ret
        exact ⟨rfl, HB8.out⟩
      · have ZZ := Lib.hid hz
        have z2 : decide (X ≤ z1) = true := by simp; omega
        rcases hbp : decide (b < (p : Int)) with _ | _
        all_goals
          clear hz hz1
          go_enter Tryd.func7, Tryd.ntmps7
          go_wp2_with fail
          refine (sane_any _ HE.out).mono ?_
          rintro e w1 ⟨rfl, hb⟩
          have HB1 := Lib.hid hb
          clear hb
          go_wp2_with fail
          refine (DA.out _ (HE.out.below HB1.out)).mono ?_
          rintro e w2 ⟨rfl, hb⟩
          have HB2 := Lib.hid (HB1.out.trans (hb.mono HB1.out.size))
          clear hb
          go_wp2_with fail
          refine (AA.out _ (HE.out.below HB2.out)).mono ?_
          rintro e w3 ⟨rfl, hb⟩
          have HB3 := Lib.hid (HB2.out.trans (hb.mono HB2.out.size))
          clear hb
          go_wp2_with fail
          refine (DX.out _ (HE.out.below HB3.out)).mono ?_
          rintro e w4 ⟨rfl, hb⟩
          have HB4 := Lib.hid (HB3.out.trans (hb.mono HB3.out.size))
          clear hb
          go_wp2_with fail
          refine (MX.out _ (HE.out.below HB4.out)).mono ?_
          rintro e w5 ⟨rfl, hb⟩
          have HB5 := Lib.hid (HB4.out.trans (hb.mono HB4.out.size))
          clear hb
          go_wp2_with fail
          refine (TG.out _ (HE.out.below HB5.out)).mono ?_
          rintro e w6 ⟨rfl, hb⟩
          have HB6 := Lib.hid (HB5.out.trans (hb.mono HB5.out.size))
          clear hb
          go_wp2_with fail
          refine (OG.out _ (HE.out.below HB6.out)).mono ?_
          rintro e w7 ⟨rfl, hb⟩
          have HB7 := Lib.hid (HB6.out.trans (hb.mono HB6.out.size))
          clear hb
          go_wp2_with fail
          refine (ZZ.out _ (HE.out.below HB7.out)).mono ?_
          rintro e w8 ⟨rfl, hb⟩
          have HB8 := Lib.hid (HB7.out.trans (hb.mono HB7.out.size))
          clear hb
          go_wp2_with fail
          go_ret
          exact ⟨rfl, HB8.out⟩
end Go.Proofs.YtdhpdkfohbafgaaDoor.Ca
