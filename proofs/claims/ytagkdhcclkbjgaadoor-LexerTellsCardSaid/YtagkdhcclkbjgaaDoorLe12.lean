/- The contract of readToken. -/
import Derived.Test.YtagkdhcclkbjgaaDoorLe11
set_option maxRecDepth 100000
namespace Go.Proofs.YtagkdhcclkbjgaaDoor.Le
open Go.RowKit

theorem tokV_shape (p q : Int) (T0 : T) : ∃ (k : Int) (t : ByteArray) (n p' z e : Int), tokV p q T0 = .tuple #[.agg #[.int .i64 k, .string t, .int .i64 n, .int .i64 p'], .int .i64 z, .int .i64 e] := by
  cases T0
  · exact ⟨_, _, _, _, _, _, rfl⟩
  · exact ⟨_, _, _, _, _, _, rfl⟩
set_option maxHeartbeats 2000000 in
theorem readToken_any (s : ByteArray) (hs : s.size ≤ 1000000) (h : 0 < s.size) (w : World) (he : Env w) : Calls Tryd.prog 26 #[.string s] w (Gives (tokV 0 0 (tokL s.data.toList)) w) := by
  have HE := Lib.hid he
  have htok := congrArg tokL (head_eq s h)
  have hnm := readName_any s hs h
  have hnb := readNumber_any s hs h
  have hsb := readString_any s hs h
  obtain ⟨k, t, n, p, z, e0, hV⟩ := tokV_shape 0 0 (tokL s.data.toList)
  rw [hV] at hnm hnb hsb
  have HV := Lib.hid hV
  obtain ⟨x, hx⟩ : ∃ x, s[0] = x := ⟨_, rfl⟩
  rw [hx] at hnm hnb hsb htok
  have hl := isLetter_any x
  have hd := isDigit_any x
  simp only [tokL] at htok
  rcases h1 : letB x with _ | _
  · rw [h1] at hl
    rw [if_neg (by rw [h1]; simp)] at htok
    have HL := Lib.hid hl
    rcases h2 : digB x with _ | _
    · rw [h2] at hd
      rw [if_neg (by rw [h2]; simp)] at htok
      have HD := Lib.hid hd
      by_cases h34 : x.toNat = 34
      · have t34 : ((x.toNat : Int) == 34) = true := by simp; omega
        have HC := Lib.hid (hsb h34)
        clear h1 h2 hl hd hnm hnb hsb h34 htok he hV
        go_enter Tryd.func26, Tryd.ntmps26
        go_wp2_with fail
        refine (HL.out _).mono ?_
        rintro e w1 ⟨rfl, rfl⟩
        go_wp2_with fail
        refine (HD.out _).mono ?_
        rintro e w1 ⟨rfl, rfl⟩
        go_wp2_with fail
        refine (HC.out _).mono ?_
        rintro e w2 ⟨rfl, hb⟩
        have hI := (IsT.fresh w 0 ⟨#[]⟩ 0 0).later hb
        obtain ⟨r0, r1, r2, r3⟩ := hI.cells
        have f0 := hI.free 0
        have f1 := hI.free 1
        have f2 := hI.free 2
        have f3 := hI.free 3
        have HB := Lib.hid ((below_box w (.cells #[.int .i64 0, .string ⟨#[]⟩, .int .i64 0, .int .i64 0] 25)).trans (hb.mono (by simp)))
        clear hI hb
        go_wp2_with fail
        exact bodyPost_ret (v := .tuple #[.agg #[.int .i64 k, .string t, .int .i64 n, .int .i64 p], .int .i64 z, .int .i64 e0]) (by simp [results, Tryd.results26, go_sem, r0, r1, r2, r3]) rfl (ret_end HV.out.symm (below_set4 HB.out _ _ _ _))
      · have t34 : ((x.toNat : Int) == 34) = false := by simp; omega
        rw [if_neg h34] at htok
        have hsg := fun W hW => isSign_any x W hW
        rcases h4 : signB x with _ | _
        · rw [h4] at hsg
          rw [if_neg (by rw [h4]; simp)] at htok
          have HSG := Lib.hid hsg
          have HV2 : Hid (.tuple #[.agg #[.int .i64 0, .string ⟨#[]⟩, .int .i64 0, .int .i64 0], .int .i64 0, .int .i64 10] = tokV 0 0 (tokL s.data.toList)) := Lib.hid (by simp only [tokL] ; rw [htok]; rfl)
          clear h1 h2 h4 hl hd hnm hnb hsb hsg h34 htok he hV HV
          go_enter Tryd.func26, Tryd.ntmps26
          go_wp2_with fail
          refine (HL.out _).mono ?_
          rintro e w1 ⟨rfl, rfl⟩
          go_wp2_with fail
          refine (HD.out _).mono ?_
          rintro e w1 ⟨rfl, rfl⟩
          go_wp2_with fail
          refine (HSG.out _ (HE.out.below (below_box _ _))).mono ?_
          rintro e w1 ⟨rfl, rfl⟩
          go_wp2_with fail
          exact bodyPost_ret (v := .tuple #[.agg #[.int .i64 0, .string ⟨#[]⟩, .int .i64 0, .int .i64 0], .int .i64 0, .int .i64 10]) (by simp [results, Tryd.results26, go_sem]) rfl (ret_end HV2.out (below_box _ _))
        · rw [h4] at hsg
          rw [if_pos h4] at htok
          have HSG := Lib.hid hsg
          have hext : s.extract 0 1 = ⟨#[x]⟩ := by
            rw [extB, head_eq s h, hx]; rfl
          have HX := Lib.hid hext
          have HV2 : Hid (.tuple #[.agg #[.int .i64 3, .string (s.extract 0 1), .int .i64 0, .int .i64 0], .int .i64 1, .int .i64 0] = tokV 0 0 (tokL s.data.toList)) := Lib.hid (by simp only [tokL]; rw [htok, hext]; rfl)
          clear h1 h2 h4 hl hd hnm hnb hsb hsg h34 htok he hV HV hext
          have hle1 : 1 ≤ s.size := h
          go_enter Tryd.func26, Tryd.ntmps26
          go_wp2_with fail
          refine (HL.out _).mono ?_
          rintro e w1 ⟨rfl, rfl⟩
          go_wp2_with fail
          refine (HD.out _).mono ?_
          rintro e w1 ⟨rfl, rfl⟩
          go_wp2_with fail
          refine (HSG.out _ (HE.out.below (below_box _ _))).mono ?_
          rintro e w1 ⟨rfl, rfl⟩
          go_wp2_with fail
          exact bodyPost_ret (v := .tuple #[.agg #[.int .i64 3, .string (s.extract 0 1), .int .i64 0, .int .i64 0], .int .i64 1, .int .i64 0]) (by simp [results, Tryd.results26, go_sem]) rfl (ret_end HV2.out (below_box _ _))
    · rw [h2] at hd
      have HD := Lib.hid hd
      have HC := Lib.hid (hnb h2)
      clear h1 h2 hl hd hnm hnb hsb htok he hV
      go_enter Tryd.func26, Tryd.ntmps26
      go_wp2_with fail
      refine (HL.out _).mono ?_
      rintro e w1 ⟨rfl, rfl⟩
      go_wp2_with fail
      refine (HD.out _).mono ?_
      rintro e w1 ⟨rfl, rfl⟩
      go_wp2_with fail
      refine (HC.out _ (HE.out.below (below_box _ _))).mono ?_
      rintro e w2 ⟨rfl, hb⟩
      have hI := (IsT.fresh w 0 ⟨#[]⟩ 0 0).later hb
      obtain ⟨r0, r1, r2, r3⟩ := hI.cells
      have f0 := hI.free 0
      have f1 := hI.free 1
      have f2 := hI.free 2
      have f3 := hI.free 3
      have HB := Lib.hid ((below_box w (.cells #[.int .i64 0, .string ⟨#[]⟩, .int .i64 0, .int .i64 0] 25)).trans (hb.mono (by simp)))
      clear hI hb
      go_wp2_with fail
      exact bodyPost_ret (v := .tuple #[.agg #[.int .i64 k, .string t, .int .i64 n, .int .i64 p], .int .i64 z, .int .i64 e0]) (by simp [results, Tryd.results26, go_sem, r0, r1, r2, r3]) rfl (ret_end HV.out.symm (below_set4 HB.out _ _ _ _))
  · rw [h1] at hl
    have HL := Lib.hid hl
    have HC := Lib.hid (hnm h1)
    clear h1 hl hd hnm hnb hsb htok he hV
    go_enter Tryd.func26, Tryd.ntmps26
    go_wp2_with fail
    refine (HL.out _).mono ?_
    rintro e w1 ⟨rfl, rfl⟩
    go_wp2_with fail
    refine (HC.out _).mono ?_
    rintro e w2 ⟨rfl, hb⟩
    have hI := (IsT.fresh w 0 ⟨#[]⟩ 0 0).later hb
    obtain ⟨r0, r1, r2, r3⟩ := hI.cells
    have f0 := hI.free 0
    have f1 := hI.free 1
    have f2 := hI.free 2
    have f3 := hI.free 3
    have HB := Lib.hid ((below_box w (.cells #[.int .i64 0, .string ⟨#[]⟩, .int .i64 0, .int .i64 0] 25)).trans (hb.mono (by simp)))
    clear hI hb
    go_wp2_with fail
    exact bodyPost_ret (v := .tuple #[.agg #[.int .i64 k, .string t, .int .i64 n, .int .i64 p], .int .i64 z, .int .i64 e0]) (by simp [results, Tryd.results26, go_sem, r0, r1, r2, r3]) rfl (ret_end HV.out.symm (below_set4 HB.out _ _ _ _))
end Go.Proofs.YtagkdhcclkbjgaaDoor.Le
