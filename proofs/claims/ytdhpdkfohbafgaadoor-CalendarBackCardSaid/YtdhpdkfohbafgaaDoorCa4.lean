/- The contracts of the calendar's functions: the day with a date, sums, the month of a day. -/
import Derived.Test.YtdhpdkfohbafgaaDoorCa3
set_option maxRecDepth 100000
namespace Go.Proofs.YtdhpdkfohbafgaaDoor.Ca
open Go.RowKit Go.Shelf Go.Lib Go.Sort

theorem ymd_k (n : Nat) (h : n ≤ 100000) : 2000 ≤ yr n ∧ yr n ≤ 2273 ∧ 1 ≤ mn n ∧ mn n ≤ 12 ∧ 12 * (yr n - 2000) + mn n - 1 = mo n := by
  have := (mo_spec h).1
  unfold yr mn
  omega
/-- A date that is one of a day. -/
def IsDate (y m d : Int) : Prop := ∃ n : Nat, n ≤ 100000 ∧ y = (yr n : Nat) ∧ m = (mn n : Nat) ∧ d = (dm n : Nat)
theorem isDate_of (y m d : Int) (hy : 2000 ≤ y) (hy2 : y ≤ 2273) (hm : 1 ≤ m) (hm2 : m ≤ 12) (k c : Nat) (hk : (k : Int) = 12 * (y - 2000) + m - 1) (hc : d = c) (h1 : 1 ≤ c) (h2 : c ≤ len k) (h3 : st k + c - 1 ≤ 100000) : IsDate y m d := by
  refine ⟨st k + c - 1, h3, ?_, ?_, ?_⟩
  · unfold yr; rw [mo_st k c (by omega) h1 h2]; omega
  · unfold mn; rw [mo_st k c (by omega) h1 h2]; omega
  · rw [dm_st k c (by omega) h1 h2]; exact hc

set_option maxHeartbeats 1000000 in
theorem day_ok (n : Nat) (hn : n ≤ 100000) (w : World) (he : Env w) : Calls Tryd.prog 11 #[.int .i64 (yr n : Nat), .int .i64 (mn n : Nat), .int .i64 (dm n : Nat)] w
    (Gives (.tuple #[.int .i64 (n : Nat), .int .i64 0]) w) := by
  obtain ⟨h1, h2, h3, h4, h5⟩ := ymd_k n hn
  obtain ⟨h6, h7, h8⟩ := dm_spec hn
  have h9 := (mo_spec hn).1
  have h10 := len_le (mo n)
  have HL := Lib.hid (length_any (mo n) (by omega))
  have HD := dayIn_any (mo n) (dm n) (by omega) (by omega) h6
  rw [h8, if_pos hn] at HD
  have HD := Lib.hid HD
  have HE := Lib.hid he
  clear he h8
  obtain ⟨M, hM⟩ : ∃ z, mo n = z := ⟨_, rfl⟩
  rw [hM] at HL HD h5 h7 h9 h10
  obtain ⟨Y, hY⟩ : ∃ z, yr n = z := ⟨_, rfl⟩
  obtain ⟨D, hD⟩ : ∃ z, dm n = z := ⟨_, rfl⟩
  obtain ⟨m, hm⟩ : ∃ z, mn n = z := ⟨_, rfl⟩
  obtain ⟨L, hL⟩ : ∃ z, len M = z := ⟨_, rfl⟩
  rw [hY] at h1 h2 h5 ⊢
  rw [hm] at h3 h4 h5 ⊢
  rw [hD] at HD h6 h7 ⊢
  rw [hL] at HL h7 h10
  have e1 : (M : Int) = 12 * ((Y : Int) - 2000) + (m : Int) - 1 := by omega
  rw [e1] at HL HD
  have g1 : decide ((Y : Int) < 2000) = false := by simp; omega
  have g2 : decide (2273 < (Y : Int)) = false := by simp; omega
  have g3 : decide ((m : Int) < 1) = false := by simp; omega
  have g4 : decide (12 < (m : Int)) = false := by simp; omega
  have g5 : decide ((D : Int) < 1) = false := by simp; omega
  have g6 : decide (L < D) = false := by simp; omega
  clear hM hY hD hm hL e1 h9 h7 h10 h6
  go_enter Tryd.func11, Tryd.ntmps11
  go_wp2_with fail
  refine (HL.out _ HE.out).mono ?_
  rintro e w1 ⟨rfl, hb⟩
  have HB := Lib.hid hb
  clear hb
  go_wp2_with fail
  refine (HD.out _ (HE.out.below HB.out)).mono ?_
  rintro e w2 ⟨rfl, hb⟩
  have HB2 := Lib.hid hb
  clear hb
  go_wp2_with fail
  go_ret2
  exact ⟨rfl, HB.out.trans (HB2.out.mono HB.out.size)⟩

set_option maxHeartbeats 2000000 in
theorem day_bad (y m d : Int) (h : ¬ IsDate y m d) (w : World) (he : Env w) : Calls Tryd.prog 11 #[.int .i64 y, .int .i64 m, .int .i64 d] w
    (Gives (.tuple #[.int .i64 0, .int .i64 3]) w) := by
  have HE := Lib.hid he
  have H := Lib.hid h
  clear h he
  by_cases h1 : y < 2000
  · have g1 : decide (y < 2000) = true := by simp; omega
    go_enter Tryd.func11, Tryd.ntmps11
    go_wp2_with fail
    go_ret2
    exact ⟨rfl, Below.refl _ _⟩
  have g1 : decide (y < 2000) = false := by simp; omega
  by_cases h2 : 2273 < y
  · have g2 : decide (2273 < y) = true := by simp; omega
    go_enter Tryd.func11, Tryd.ntmps11
    go_wp2_with fail
    go_ret2
    exact ⟨rfl, Below.refl _ _⟩
  have g2 : decide (2273 < y) = false := by simp; omega
  by_cases h3 : m < 1
  · have g3 : decide (m < 1) = true := by simp; omega
    go_enter Tryd.func11, Tryd.ntmps11
    go_wp2_with fail
    go_ret2
    exact ⟨rfl, Below.refl _ _⟩
  have g3 : decide (m < 1) = false := by simp; omega
  by_cases h4 : 12 < m
  · have g4 : decide (12 < m) = true := by simp; omega
    go_enter Tryd.func11, Tryd.ntmps11
    go_wp2_with fail
    go_ret2
    exact ⟨rfl, Below.refl _ _⟩
  have g4 : decide (12 < m) = false := by simp; omega
  by_cases h5 : d < 1
  · have g5 : decide (d < 1) = true := by simp; omega
    go_enter Tryd.func11, Tryd.ntmps11
    go_wp2_with fail
    go_ret2
    exact ⟨rfl, Below.refl _ _⟩
  have g5 : decide (d < 1) = false := by simp; omega
  obtain ⟨k, hk⟩ : ∃ k : Nat, (k : Int) = 12 * (y - 2000) + m - 1 := ⟨(12 * (y - 2000) + m - 1).toNat, by omega⟩
  obtain ⟨c, hc⟩ : ∃ c : Nat, d = c := ⟨d.toNat, by omega⟩
  have HL := Lib.hid (length_any k (by omega))
  have hll := len_le k
  by_cases h6 : len k < c
  · obtain ⟨L, hL⟩ : ∃ z, len k = z := ⟨_, rfl⟩
    rw [hL] at HL h6 hll
    have g6 : decide ((L : Int) < d) = true := by simp; omega
    rw [hk] at HL
    clear hL hk hc h6
    go_enter Tryd.func11, Tryd.ntmps11
    go_wp2_with fail
    refine (HL.out _ HE.out).mono ?_
    rintro e w1 ⟨rfl, hb⟩
    have HB := Lib.hid hb
    clear hb
    go_wp2_with fail
    go_ret2
    exact ⟨rfl, HB.out⟩
  · have hb : ¬ st k + c - 1 ≤ 100000 := fun hh => H.out (isDate_of y m d (by omega) (by omega) (by omega) (by omega) k c hk hc (by omega) (by omega) hh)
    have HD := dayIn_any k c (by omega) (by omega) (by omega)
    rw [if_neg hb] at HD
    have HD := Lib.hid HD
    obtain ⟨L, hL⟩ : ∃ z, len k = z := ⟨_, rfl⟩
    rw [hL] at HL h6 hll
    have g6 : decide ((L : Int) < d) = false := by simp; omega
    rw [hk] at HL HD
    rw [← hc] at HD
    clear hL hk hc h6 hb
    go_enter Tryd.func11, Tryd.ntmps11
    go_wp2_with fail
    refine (HL.out _ HE.out).mono ?_
    rintro e w1 ⟨rfl, hb⟩
    have HB := Lib.hid hb
    clear hb
    go_wp2_with fail
    refine (HD.out _ (HE.out.below HB.out)).mono ?_
    rintro e w2 ⟨rfl, hb⟩
    have HB2 := Lib.hid hb
    clear hb
    go_wp2_with fail
    go_ret2
    exact ⟨rfl, HB.out.trans (HB2.out.mono HB.out.size)⟩

/-- The day that is so many months later, in the month t. -/
def addN (d t : Nat) : Nat := st t + min (dm d) (len t) - 1
/-- What Add returns: the day, or no day. -/
def addV (n : Nat) : Value := .tuple (if n ≤ 100000 then #[.int .i64 (n : Nat), .int .i64 0] else #[.int .i64 0, .int .i64 3])

set_option maxHeartbeats 2000000 in
theorem add_in (d : Nat) (hd : d ≤ 100000) (m : Int) (t : Nat) (ht : (mo d : Int) + m = t) (ht2 : t < 3288) (w : World) (he : Env w) :
    Calls Tryd.prog 15 #[.int .i64 (d : Nat), .int .i64 m] w (Gives (addV (addN d t)) w) := by
  obtain ⟨h6, h7, h8⟩ := dm_spec hd
  obtain ⟨h9, h10, h11⟩ := mo_spec hd
  have hll := len_le t
  have hlg := len_ge t
  have hll2 := len_le (mo d)
  have HY := Lib.hid (isDay_yes d hd)
  have HM := Lib.hid (monthOf_any d)
  have HS := Lib.hid (start_any (mo d) (by omega))
  have HL := Lib.hid (length_any t (by omega))
  have HD := Lib.hid (dayIn_any t (min (dm d) (len t)) (by omega) (by omega) (by omega))
  have HE := Lib.hid he
  have HV : Hid (addV (addN d t) = .tuple (if st t + min (dm d) (len t) - 1 ≤ 100000 then #[.int .i64 (st t + min (dm d) (len t) - 1 : Nat), .int .i64 0] else #[.int .i64 0, .int .i64 3])) := Lib.hid rfl
  rw [HV.out]
  clear HV he h8 h11
  have hle := st_le (mo d)
  have edm : (dm d : Int) = (d : Int) - (st (mo d) : Int) + 1 := by unfold dm; omega
  obtain ⟨v, hv⟩ : ∃ v, (if st t + min (dm d) (len t) - 1 ≤ 100000 then #[Value.int .i64 (st t + min (dm d) (len t) - 1 : Nat), .int .i64 0] else #[Value.int .i64 0, .int .i64 3]) = v := ⟨_, rfl⟩
  have hv2 : (∃ a b, v = #[.int .i64 a, .int .i64 b]) := by
    rw [← hv]; split
    · exact ⟨_, _, rfl⟩
    · exact ⟨_, _, rfl⟩
  rw [hv] at HD ⊢
  obtain ⟨va, vb, rfl⟩ := hv2
  clear hv
  obtain ⟨M, hM⟩ : ∃ z, mo d = z := ⟨_, rfl⟩
  rw [hM] at HM HS ht h9 h10 hle edm h7 hll2
  obtain ⟨A, hA⟩ : ∃ z, st M = z := ⟨_, rfl⟩
  rw [hA] at HS h10 hle edm
  obtain ⟨D, hD⟩ : ∃ z, dm d = z := ⟨_, rfl⟩
  rw [hD] at HD edm h6 h7
  obtain ⟨L, hL⟩ : ∃ z, len t = z := ⟨_, rfl⟩
  rw [hL] at HL HD hll hlg
  have e1 : (t : Int) = (M : Int) + m := by omega
  have g1 : decide (m < -(M : Int)) = false := by simp; omega
  have g2 : decide (3288 - (M : Int) ≤ m) = false := by simp; omega
  have w1 : IntKind.i64.wrap (-(M : Int)) = -(M : Int) := IntWalk.i64_in _ (by omega)
  have b0 : D ≤ 31 := by omega
  clear hM hA hD hL h7 hll2
  have m1 : -3288 ≤ m := by omega
  have m2 : m ≤ 3288 := by omega
  rw [show ((min D L : Nat) : Int) = min ((d : Int) - (A : Int) + 1) (L : Int) by omega, e1] at HD
  rw [e1] at HL
  clear e1 ht ht2 edm
  go_enter Tryd.func15, Tryd.ntmps15
  go_wp2_with fail
  refine (HY.out _).mono ?_
  rintro e w0 ⟨rfl, rfl⟩
  go_wp2_with fail
  refine (HM.out _ HE.out).mono ?_
  rintro e w1 ⟨rfl, hb⟩
  have HB := Lib.hid hb
  clear hb
  go_wp2_with fail
  refine (HS.out _ (HE.out.below HB.out)).mono ?_
  rintro e w2 ⟨rfl, q, rfl⟩
  have HB2 : Hid (RowKit.Below w0.heap.size w0 (w1.drewN q)) := HB.out.trans ((below_drewN _ _).mono HB.out.size)
  go_wp2_with fail
  refine (HL.out _ (HE.out.below HB2.out)).mono ?_
  rintro e w2 ⟨rfl, hb⟩
  have HB3 := Lib.hid (HB2.out.trans (hb.mono HB2.out.size))
  clear hb
  go_wp2_with fail
  refine (HD.out _ (HE.out.below HB3.out)).mono ?_
  rintro e w3 ⟨rfl, hb⟩
  have HB4 := Lib.hid (HB3.out.trans (hb.mono HB3.out.size))
  clear hb
  go_wp2_with fail
  go_ret2
  exact ⟨rfl, HB4.out⟩

set_option maxHeartbeats 2000000 in
theorem add_out (d : Nat) (hd : d ≤ 100000) (m : Int) (ht : (mo d : Int) + m < 0 ∨ 3288 ≤ (mo d : Int) + m) (w : World) (he : Env w) :
    Calls Tryd.prog 15 #[.int .i64 (d : Nat), .int .i64 m] w (Gives (.tuple #[.int .i64 0, .int .i64 3]) w) := by
  obtain ⟨h9, h10, h11⟩ := mo_spec hd
  have HY := Lib.hid (isDay_yes d hd)
  have HM := Lib.hid (monthOf_any d)
  have HE := Lib.hid he
  clear he h10 h11
  obtain ⟨M, hM⟩ : ∃ z, mo d = z := ⟨_, rfl⟩
  rw [hM] at HM ht h9
  have w1 : IntKind.i64.wrap (-(M : Int)) = -(M : Int) := IntWalk.i64_in _ (by omega)
  clear hM
  by_cases hlt : (M : Int) + m < 0
  · have g1 : decide (m < -(M : Int)) = true := by simp; omega
    clear ht hlt
    go_enter Tryd.func15, Tryd.ntmps15
    go_wp2_with fail
    refine (HY.out _).mono ?_
    rintro e w0 ⟨rfl, rfl⟩
    go_wp2_with fail
    refine (HM.out _ HE.out).mono ?_
    rintro e w1 ⟨rfl, hb⟩
    have HB := Lib.hid hb
    clear hb
    go_wp2_with fail
    go_ret2
    exact ⟨rfl, HB.out⟩
  · have g1 : decide (m < -(M : Int)) = false := by simp; omega
    have g2 : decide (3288 - (M : Int) ≤ m) = true := by simp; omega
    clear ht hlt
    go_enter Tryd.func15, Tryd.ntmps15
    go_wp2_with fail
    refine (HY.out _).mono ?_
    rintro e w0 ⟨rfl, rfl⟩
    go_wp2_with fail
    refine (HM.out _ HE.out).mono ?_
    rintro e w1 ⟨rfl, hb⟩
    have HB := Lib.hid hb
    clear hb
    go_wp2_with fail
    go_ret2
    exact ⟨rfl, HB.out⟩
theorem add_bad (a : Int) (ha : a < 0 ∨ 100000 < a) (m : Int) (w : World) :
    Calls Tryd.prog 15 #[.int .i64 a, .int .i64 m] w (Gives (.tuple #[.int .i64 0, .int .i64 3]) w) := by
  have HY := Lib.hid (isDay_no a ha)
  clear ha
  go_enter Tryd.func15, Tryd.ntmps15
  go_wp2_with fail
  refine (HY.out _).mono ?_
  rintro e w1 ⟨rfl, rfl⟩
  go_wp2_with fail
  go_ret2
  exact ⟨rfl, Below.refl _ _⟩

def first (d : Nat) : Nat := st (mo d)
def last (d : Nat) : Nat := min (st (mo d + 1) - 1) 100000
set_option maxHeartbeats 2000000 in
theorem month_ok (d : Nat) (hd : d ≤ 100000) (w : World) (he : Env w) : Calls Tryd.prog 17 #[.int .i64 (d : Nat)] w
    (Gives (.tuple #[.int .i64 (first d : Nat), .int .i64 (last d : Nat), .int .i64 0]) w) := by
  obtain ⟨h9, h10, h11⟩ := mo_spec hd
  have HY := Lib.hid (isDay_yes d hd)
  have HM := Lib.hid (monthOf_any d)
  have HS := Lib.hid (start_any (mo d) (by omega))
  have HS1 : Hid (∀ w, Env w → Calls Tryd.prog 22 #[.int .i64 ((mo d : Int) + 1)] w fun e w' => e = .returned (.int .i64 (st (mo d + 1) : Nat)) ∧ ∃ q, w' = w.drewN q) := fun w he => start_any (mo d + 1) (by omega) w he
  have HE := Lib.hid he
  have hle := st_le (mo d + 1)
  have HF : Hid ((first d : Int) = (st (mo d) : Int)) := Lib.hid rfl
  have HL : Hid ((last d : Int) = ((min (st (mo d + 1) - 1) 100000 : Nat) : Int)) := Lib.hid rfl
  rw [HF.out, HL.out]
  clear he HF HL h10
  obtain ⟨M, hM⟩ : ∃ z, mo d = z := ⟨_, rfl⟩
  rw [hM] at HM HS HS1 h9 h11 hle ⊢
  obtain ⟨A, hA⟩ : ∃ z, st M = z := ⟨_, rfl⟩
  obtain ⟨B, hB⟩ : ∃ z, st (M + 1) = z := ⟨_, rfl⟩
  rw [hA] at HS ⊢
  rw [hB] at HS1 h11 hle ⊢
  clear hM hA hB
  have HR : Hid (((min (B - 1) 100000 : Nat) : Int) = min ((B : Int) - 1) 100000) := Lib.hid (by omega)
  rw [HR.out]
  go_enter Tryd.func17, Tryd.ntmps17
  go_wp2_with fail
  refine (HY.out _).mono ?_
  rintro e w0 ⟨rfl, rfl⟩
  go_wp2_with fail
  refine (HM.out _ HE.out).mono ?_
  rintro e w1 ⟨rfl, hb⟩
  have HB := Lib.hid hb
  clear hb
  go_wp2_with fail
  refine (HS.out _ (HE.out.below HB.out)).mono ?_
  rintro e w2 ⟨rfl, q, rfl⟩
  have HB2 : Hid (RowKit.Below w0.heap.size w0 (w1.drewN q)) := HB.out.trans ((below_drewN _ _).mono HB.out.size)
  go_wp2_with fail
  refine (HS1.out _ (HE.out.below HB2.out)).mono ?_
  rintro e w2 ⟨rfl, q2, rfl⟩
  have HB3 : Hid (RowKit.Below w0.heap.size w0 (w1.drewN (q + q2))) := HB.out.trans ((below_drewN _ _).mono HB.out.size)
  go_wp2_with fail
  go_ret3
  exact ⟨rfl, HB3.out⟩
theorem month_bad (a : Int) (ha : a < 0 ∨ 100000 < a) (w : World) : Calls Tryd.prog 17 #[.int .i64 a] w
    (Gives (.tuple #[.int .i64 0, .int .i64 0, .int .i64 3]) w) := by
  have HY := Lib.hid (isDay_no a ha)
  clear ha
  go_enter Tryd.func17, Tryd.ntmps17
  go_wp2_with fail
  refine (HY.out _).mono ?_
  rintro e w1 ⟨rfl, rfl⟩
  go_wp2_with fail
  go_ret3
  exact ⟨rfl, Below.refl _ _⟩
end Go.Proofs.YtdhpdkfohbafgaaDoor.Ca
