/- DiskReads, walked: the main way. -/
import Derived.Test.YtkphmkhdlkdphaaR2
namespace Go.Proofs.Ytkphmkhdlkdphaa
open Go.RowKit Go.ChangeShapes Go.WideShapes

theorem ba_ext {s t : ByteArray} (h : s.data.toList = t.data.toList) : s = t := by rw [← ba_eq s, ← ba_eq t, h]
theorem ba_extract (s : ByteArray) (x y : Nat) : (s.extract x y).data.toList = (s.data.toList.drop x).take (y - x) := by
  simp
theorem piece (s P : ByteArray) (k n fr : Nat) (hfr : min k s.size = fr) (hP : P.data.toList = (s.data.toList.drop k).take n) : s.extract fr (fr + min n (s.size - fr)) = P := by
  refine ba_ext ?_
  rw [ba_extract, hP]
  have hs : s.data.toList.length = s.size := (Lib.size_eq s).symm
  by_cases h : k ≤ s.size
  · obtain rfl : k = fr := by omega
    apply List.ext_getElem?
    intro i
    simp only [List.getElem?_take, List.getElem?_drop]
    by_cases h1 : i < n
    · by_cases h2 : k + i < s.size
      · rw [if_pos (by omega), if_pos h1]
      · rw [if_neg (by omega), if_pos h1, List.getElem?_eq_none (by omega)]
    · rw [if_neg (by omega), if_neg h1]
  · obtain rfl : fr = s.size := by omega
    rw [List.drop_of_length_le (by omega), List.drop_of_length_le (by omega)]
    simp
theorem front (s P : ByteArray) (fr : Nat) (hP : P.data.toList = s.data.toList.take fr) : s.extract 0 fr = P := by
  refine ba_ext ?_
  rw [ba_extract, hP]
  simp
set_option maxRecDepth 100000 in
set_option maxHeartbeats 4000000 in
theorem reads_main (a : Option Addr) (cap : Nat) (vs : List Ac) (f : Int) (k n : Nat) (s : ByteArray) (w : World) (hv : ACells w a vs) (hl : vs.length ≤ 9223372036854775807) (hfw : few vs = true) (hs : s.size ≤ 300) (ha : k ≤ 3000)
    (hn : n ≤ 9223372036854775807) (hd : (runs vs St.new).down = false) (hf0 : 0 ≤ f) (hf1 : f ≤ 15) :
    Calls Try.prog 7 #[.slice a vs.length cap, .int .i64 f, .int .i64 k, .string s, .int .i64 n] w (Gives (.bool true) w) := by
  have HF := Lib.hid (fun w1 (hw : Ov w.heap.size w w1) => few_later (cap := cap) hv hl hw hfw)
  have HP := Lib.hid (fun w1 (hw : Ov w.heap.size w w1) => played_later (cap := cap) hv hfw hw)
  have hF := isF_yes hf0 hf1
  have hsz : s.data.toList.length = s.size := (Lib.size_eq s).symm
  obtain ⟨st, hst⟩ : ∃ st, runs vs St.new = st := ⟨_, rfl⟩
  rw [hst] at hd HP
  obtain ⟨st2, hst2⟩ : ∃ st2, wr (arm st 0 []) f k s.data.toList = st2 := ⟨_, rfl⟩
  have hw := write_ok (st := arm st 0 []) (f := f) (a := (k : Int)) (s := s.data.toList) hd (by simp [arm]) hF (by omega) (by rw [hsz]; omega)
  rw [Int.toNat_natCast, hst2] at hw
  have hsame := wr_same (arm st 0 []) f k s.data.toList
  rw [hst2] at hsame
  have hd2 : st2.down = false := hsame.1.trans hd
  have hc2 : st2.calls = 0 := hsame.2.1.trans (by simp [arm])
  obtain ⟨A, hA⟩ : ∃ A : ByteArray, A.data.toList = st2.now f := ⟨⟨(st2.now f).toArray⟩, rfl⟩
  have hAs : A.size = (st2.now f).length := by rw [← hA]; exact Lib.size_eq A
  obtain ⟨P, hP⟩ : ∃ P : ByteArray, P.data.toList = ((st2.now f).drop k).take n := ⟨⟨(((st2.now f).drop k).take n).toArray⟩, rfl⟩
  have r1 : readS st2 f k s.size = s.data.toList ∧ readR st2 f k s.size = 0 := by
    obtain ⟨e1, e2⟩ := readS_up (n := (s.size : Int)) (a := (k : Int)) hd2 hF (by omega) (by omega)
    refine ⟨?_, e2⟩
    rw [e1, Int.toNat_natCast, Int.toNat_natCast, ← hst2]
    have := wr_read (arm st 0 []) f k s.data.toList
    rw [hsz] at this
    exact this
  have r2 : readS st2 f 0 A.size = A.data.toList ∧ readR st2 f 0 A.size = 0 := by
    obtain ⟨e1, e2⟩ := readS_up (n := (A.size : Int)) (a := 0) hd2 hF (by omega) (by omega)
    refine ⟨?_, e2⟩
    rw [e1, Int.toNat_natCast, hAs, hA]
    simp
  have r3 : readS st2 f k n = P.data.toList ∧ readR st2 f k n = 0 := by
    obtain ⟨e1, e2⟩ := readS_up (n := (n : Int)) (a := (k : Int)) hd2 hF (by omega) (by omega)
    exact ⟨by rw [e1, hP]; rfl, e2⟩
  obtain ⟨fr, hfr⟩ : ∃ fr, min k A.size = fr := ⟨_, rfl⟩
  obtain ⟨Z, hZ⟩ : ∃ Z : ByteArray, Z.data.toList = (st2.now f).take fr := ⟨⟨((st2.now f).take fr).toArray⟩, rfl⟩
  have hsmall : A.size ≤ 16777216 → True := fun _ => trivial
  have HR1 := Lib.hid r1
  have HR2 := Lib.hid r2
  have HR3 := Lib.hid r3
  have HW := Lib.hid hw
  have HD := Lib.hid hd
  have HD2 : Hid (st2.down = false ∧ st2.calls = 0 ∧ isF f = true) := ⟨hd2, hc2, hF⟩
  have HZ := Lib.hid hZ
  have HP' := Lib.hid hP
  have HA := Lib.hid hA
  have HAS := Lib.hid hAs
  have HRUN : Hid (∀ (w' : World) (i j : Int), i = (fr : Int) → j = ((fr + min n (A.size - fr) : Nat) : Int) → (Instr.slice 9 (.string A) (some (.int .i64 i)) (some (.int .i64 j)) none).run Try.prog w' = .ok (.string P) w') := by
    rintro w' i j rfl rfl
    rw [run_slice_string w' 9 A .i64 .i64 _ _ Try.underlying9 (by omega) (by omega) (by omega), Int.toNat_natCast, Int.toNat_natCast, piece A P k n fr hfr (by rw [hA]; exact hP)]
  have HX1 : Hid (∀ j, j = fr + min n (A.size - fr) → A.extract fr j = P) := by
    rintro j rfl
    exact piece A P k n fr hfr (by rw [hA]; exact hP)
  have HX2 : Hid (A.extract 0 fr = Z) := front A Z fr (by rw [hA]; exact hZ)
  have HFR := Lib.hid hfr
  have HWF : Hid (∀ {w1 : World} {r : Nat}, One w.heap.size r st2 w1 → A.size ≤ 16777216 ∧ (truncR st2 f fr = 0 ∧ readS (start (crash (trunc st2 f fr) [])) f 0 16777216 = Z.data.toList ∧ readR (start (crash (trunc st2 f fr) [])) f 0 16777216 = 0)) := by
    intro w1 r h
    have hwf := h.wf
    refine ⟨by rw [hAs]; exact hwf.len f, ?_⟩
    rw [hZ]
    exact last_read hwf hc2 hd2 hF (by rw [← hAs]; omega)
  clear hv hl hfw hw hst hst2 hsame hd hd2 hc2 hF hA hAs hP r1 r2 r3 hZ hsz hsmall hfr
  go_enter Try.func7, Try.ntmps7
  go_wp2_with fail
  refine (small_any w).mono ?_
  rintro e w1 ⟨rfl, h1⟩
  have H1 := Lib.hid h1
  clear h1
  go_wp2_with (go_at_call 9; refine (HF.out _ H1.out).mono ?_; rintro e w2 ⟨rfl, rfl⟩)
  refine (HP.out _ H1.out).mono ?_
  rintro e w2 ⟨r, rfl, h2, hb2⟩
  have hz : w.heap.size ≤ w2.heap.size := (H1.out.trans hb2).size
  have HO : Hid (Ov w.heap.size w w2) := H1.out.trans hb2
  have HN := Lib.hid (arm0_one h2 hz)
  clear h2 hb2 H1
  go_wp2_with fail
  refine HN.out.mono ?_
  clear HN
  rintro e w3 ⟨rfl, h3, hb3⟩
  have hz3 : w.heap.size ≤ w3.heap.size := Nat.le_trans hz hb3.size
  have HO3 : Hid (Ov w.heap.size w w3) := HO.out.trans hb3
  have HN := Lib.hid (down_one h3 (b := false) HD.out)
  have HN2 := Lib.hid (write_one h3 hz3 f k s (by omega) (by omega) (by omega) HW.out.1 HW.out.2)
  clear h3 hb3
  go_wp2_with (first
    | (go_at_call 14; refine HN.out.mono ?_; rintro e w' ⟨rfl, rfl⟩)
    | (go_at_call 29; refine HN2.out.mono ?_; rintro e w4 ⟨rfl, h4, hb4⟩))
  clear HN HN2
  have hA16 := (HWF.out h4).1
  have hlast := (HWF.out h4).2
  have HL := Lib.hid hlast
  have hz4 : w.heap.size ≤ w4.heap.size := Nat.le_trans hz3 hb4.size
  have HO4 : Hid (Ov w.heap.size w w4) := HO3.out.trans hb4
  have HN1 := Lib.hid (read_one h4 f k s.size (by omega) (by omega) (by omega) HR1.out.1 HR1.out.2)
  have H4 := Lib.hid h4
  clear h4 hb4 hlast hz3 hz HO HO3 HWF
  go_wp2_with fail
  refine HN1.out.mono ?_
  rintro e w5 ⟨rfl, hb5⟩
  have h5 := H4.out.keep0 hb5
  have hz5 : w.heap.size ≤ w5.heap.size := Nat.le_trans hz4 hb5.size
  have HO5 : Hid (Ov w.heap.size w w5) := HO4.out.trans (Ov.nothing hb5)
  have HS5 := Lib.hid (size_one h5 f (by omega) (n := (A.size : Int)) (by rw [HAS.out]))
  have HN5 := Lib.hid (read_one h5 f 0 A.size (by omega) (by omega) (by omega) HR2.out.1 HR2.out.2)
  have H5 := Lib.hid h5
  clear hb5 h5 HN1 H4 HO4 hz4
  go_wp2_with fail
  refine HS5.out.mono ?_
  rintro e w' ⟨rfl, rfl⟩
  go_wp2_with fail
  refine HN5.out.mono ?_
  rintro e w6 ⟨rfl, hb6⟩
  have h6 := H5.out.keep0 hb6
  have hz6 : w.heap.size ≤ w6.heap.size := Nat.le_trans hz5 hb6.size
  have HO6 : Hid (Ov w.heap.size w w6) := HO5.out.trans (Ov.nothing hb6)
  have HN6 := Lib.hid (read_one h6 f k n (by omega) (by omega) (by omega) HR3.out.1 HR3.out.2)
  have H6 := Lib.hid h6
  clear hb6 h6 HN5 H5 HO5 hz5 HS5
  go_wp2_with fail
  refine HN6.out.mono ?_
  rintro e w7 ⟨rfl, hb7⟩
  have h7 := H6.out.keep0 hb7
  have hz7 : w.heap.size ≤ w7.heap.size := Nat.le_trans hz6 hb7.size
  have HO7 : Hid (Ov w.heap.size w w7) := HO6.out.trans (Ov.nothing hb7)
  have HS7 := Lib.hid (size_one h7 f (by omega) (n := (A.size : Int)) (by rw [HAS.out]))
  have H7 := Lib.hid h7
  clear hb7 h7 HN6 H6 HO6 hz6
  go_wp2_with fail
  refine HS7.out.mono ?_
  rintro e w' ⟨rfl, rfl⟩
  clear HS7
  have hcs : (k ≤ A.size ∧ n ≤ A.size - k) ∨ (k ≤ A.size ∧ ¬ n ≤ A.size - k) ∨ ¬ k ≤ A.size := by omega
  rcases hcs with ⟨c1, c2⟩ | ⟨c1, c2⟩ | c1
  · have hfr := HFR.out
    obtain rfl : k = fr := by omega
    have e1 : (k : Int) ≤ A.size := by omega
    have e2 : (n : Int) ≤ (A.size : Int) - k := by omega
    clear hfr
    go_wp2_with fail
    rw [HRUN.out _ _ _ (by omega) (by omega)]
    simp only [Result.andThen]
    rw [Oper.upon_value]
    go_wp2_with fail
    have HN := Lib.hid (trunc_one H7.out hz7 f k (by omega) (by omega) HL.out.1)
    refine HN.out.mono ?_
    rintro e w8 ⟨rfl, h8, hb8⟩
    have hz8 : w.heap.size ≤ w8.heap.size := Nat.le_trans hz7 hb8.size
    have HO8 : Hid (Ov w.heap.size w w8) := HO7.out.trans hb8
    have HN8 := Lib.hid (crash_one h8 hz8 (.slice none 0 0) [] (nil_ints w) (Nat.le_refl _) HO8.out (by simp))
    clear h8 hb8 HN
    go_wp2_with fail
    refine HN8.out.mono ?_
    rintro e w9 ⟨rfl, h9, hb9⟩
    have hz9 : w.heap.size ≤ w9.heap.size := Nat.le_trans hz8 hb9.size
    have HO9 : Hid (Ov w.heap.size w w9) := HO8.out.trans hb9
    have HN9 := Lib.hid (start_one h9 hz9)
    clear h9 hb9 HN8
    go_wp2_with fail
    refine HN9.out.mono ?_
    rintro e w10 ⟨rfl, h10, hb10⟩
    have hz10 : w.heap.size ≤ w10.heap.size := Nat.le_trans hz9 hb10.size
    have HO10 : Hid (Ov w.heap.size w w10) := HO9.out.trans hb10
    have HN10 := Lib.hid (read_one h10 f 0 16777216 (by omega) (by omega) (by omega) HL.out.2.1 HL.out.2.2)
    clear h10 hb10 HN9
    go_wp2_with fail
    refine HN10.out.mono ?_
    rintro e w11 ⟨rfl, hb11⟩
    have HO11 : Hid (Ov w.heap.size w w11) := HO10.out.trans (Ov.nothing hb11)
    have hx2 := HX2.out
    clear hb11
    go_wp2_with fail
    go_ret
    exact gives_ov HO11.out
  · have hfr := HFR.out
    obtain rfl : k = fr := by omega
    have e1 : (k : Int) ≤ A.size := by omega
    have e2 : ¬ (n : Int) ≤ (A.size : Int) - k := by omega
    clear hfr
    go_wp2_with fail
    rw [HRUN.out _ _ _ (by omega) (by omega)]
    simp only [Result.andThen]
    rw [Oper.upon_value]
    go_wp2_with fail
    have HN := Lib.hid (trunc_one H7.out hz7 f k (by omega) (by omega) HL.out.1)
    refine HN.out.mono ?_
    rintro e w8 ⟨rfl, h8, hb8⟩
    have hz8 : w.heap.size ≤ w8.heap.size := Nat.le_trans hz7 hb8.size
    have HO8 : Hid (Ov w.heap.size w w8) := HO7.out.trans hb8
    have HN8 := Lib.hid (crash_one h8 hz8 (.slice none 0 0) [] (nil_ints w) (Nat.le_refl _) HO8.out (by simp))
    clear h8 hb8 HN
    go_wp2_with fail
    refine HN8.out.mono ?_
    rintro e w9 ⟨rfl, h9, hb9⟩
    have hz9 : w.heap.size ≤ w9.heap.size := Nat.le_trans hz8 hb9.size
    have HO9 : Hid (Ov w.heap.size w w9) := HO8.out.trans hb9
    have HN9 := Lib.hid (start_one h9 hz9)
    clear h9 hb9 HN8
    go_wp2_with fail
    refine HN9.out.mono ?_
    rintro e w10 ⟨rfl, h10, hb10⟩
    have hz10 : w.heap.size ≤ w10.heap.size := Nat.le_trans hz9 hb10.size
    have HO10 : Hid (Ov w.heap.size w w10) := HO9.out.trans hb10
    have HN10 := Lib.hid (read_one h10 f 0 16777216 (by omega) (by omega) (by omega) HL.out.2.1 HL.out.2.2)
    clear h10 hb10 HN9
    go_wp2_with fail
    refine HN10.out.mono ?_
    rintro e w11 ⟨rfl, hb11⟩
    have HO11 : Hid (Ov w.heap.size w w11) := HO10.out.trans (Ov.nothing hb11)
    have hx2 := HX2.out
    clear hb11
    go_wp2_with fail
    go_ret
    exact gives_ov HO11.out
  · have hfr := HFR.out
    obtain rfl : fr = A.size := by omega
    have e1 : ¬ (k : Int) ≤ A.size := by omega
    have e3 : (A.size : Int) ≤ k := by omega
    clear hfr
    have hPe : P = ⟨#[]⟩ := ba_ext (by rw [HP'.out, List.drop_of_length_le (by rw [← HAS.out]; omega)]; simp)
    subst hPe
    by_cases hn0 : n = 0
    · subst hn0
      go_wp2_with fail
      have HN := Lib.hid (trunc_one H7.out hz7 f A.size (by omega) (by omega) HL.out.1)
      refine HN.out.mono ?_
      rintro e w8 ⟨rfl, h8, hb8⟩
      have hz8 : w.heap.size ≤ w8.heap.size := Nat.le_trans hz7 hb8.size
      have HO8 : Hid (Ov w.heap.size w w8) := HO7.out.trans hb8
      have HN8 := Lib.hid (crash_one h8 hz8 (.slice none 0 0) [] (nil_ints w) (Nat.le_refl _) HO8.out (by simp))
      clear h8 hb8 HN
      go_wp2_with fail
      refine HN8.out.mono ?_
      rintro e w9 ⟨rfl, h9, hb9⟩
      have hz9 : w.heap.size ≤ w9.heap.size := Nat.le_trans hz8 hb9.size
      have HO9 : Hid (Ov w.heap.size w w9) := HO8.out.trans hb9
      have HN9 := Lib.hid (start_one h9 hz9)
      clear h9 hb9 HN8
      go_wp2_with fail
      refine HN9.out.mono ?_
      rintro e w10 ⟨rfl, h10, hb10⟩
      have hz10 : w.heap.size ≤ w10.heap.size := Nat.le_trans hz9 hb10.size
      have HO10 : Hid (Ov w.heap.size w w10) := HO9.out.trans hb10
      have HN10 := Lib.hid (read_one h10 f 0 16777216 (by omega) (by omega) (by omega) HL.out.2.1 HL.out.2.2)
      clear h10 hb10 HN9
      go_wp2_with fail
      refine HN10.out.mono ?_
      rintro e w11 ⟨rfl, hb11⟩
      have HO11 : Hid (Ov w.heap.size w w11) := HO10.out.trans (Ov.nothing hb11)
      have hx2 := HX2.out
      clear hb11
      go_wp2_with fail
      go_ret
      exact gives_ov HO11.out
    · have e5 : ¬ (n : Int) ≤ 0 := by omega
      go_wp2_with fail
      have HN := Lib.hid (trunc_one H7.out hz7 f A.size (by omega) (by omega) HL.out.1)
      refine HN.out.mono ?_
      rintro e w8 ⟨rfl, h8, hb8⟩
      have hz8 : w.heap.size ≤ w8.heap.size := Nat.le_trans hz7 hb8.size
      have HO8 : Hid (Ov w.heap.size w w8) := HO7.out.trans hb8
      have HN8 := Lib.hid (crash_one h8 hz8 (.slice none 0 0) [] (nil_ints w) (Nat.le_refl _) HO8.out (by simp))
      clear h8 hb8 HN
      go_wp2_with fail
      refine HN8.out.mono ?_
      rintro e w9 ⟨rfl, h9, hb9⟩
      have hz9 : w.heap.size ≤ w9.heap.size := Nat.le_trans hz8 hb9.size
      have HO9 : Hid (Ov w.heap.size w w9) := HO8.out.trans hb9
      have HN9 := Lib.hid (start_one h9 hz9)
      clear h9 hb9 HN8
      go_wp2_with fail
      refine HN9.out.mono ?_
      rintro e w10 ⟨rfl, h10, hb10⟩
      have hz10 : w.heap.size ≤ w10.heap.size := Nat.le_trans hz9 hb10.size
      have HO10 : Hid (Ov w.heap.size w w10) := HO9.out.trans hb10
      have HN10 := Lib.hid (read_one h10 f 0 16777216 (by omega) (by omega) (by omega) HL.out.2.1 HL.out.2.2)
      clear h10 hb10 HN9
      go_wp2_with fail
      refine HN10.out.mono ?_
      rintro e w11 ⟨rfl, hb11⟩
      have HO11 : Hid (Ov w.heap.size w w11) := HO10.out.trans (Ov.nothing hb11)
      have hx2 := HX2.out
      clear hb11
      go_wp2_with fail
      go_ret
      exact gives_ov HO11.out
end Go.Proofs.Ytkphmkhdlkdphaa
