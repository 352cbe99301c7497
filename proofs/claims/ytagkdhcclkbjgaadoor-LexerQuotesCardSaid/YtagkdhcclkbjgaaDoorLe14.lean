/- The contract of the reference's reader of a token. -/
import Derived.Test.YtagkdhcclkbjgaaDoorLe13
set_option maxRecDepth 100000
namespace Go.Proofs.YtagkdhcclkbjgaaDoor.Le
open Go.RowKit

/-- Bytes of a set, from an offset a to an offset q. -/
def TwAt (p : UInt8 → Bool) (s : ByteArray) (a q : Nat) : Prop := a ≤ q ∧ q ≤ s.size ∧ ((s.data.toList.drop a).take (q - a)).all p = true
section
variable {p : UInt8 → Bool} {s : ByteArray} {a q : Nat}
theorem TwAt.start (h : a ≤ s.size) : TwAt p s a a := ⟨Nat.le_refl _, h, by simp⟩
theorem drop_get (s : ByteArray) (a q : Nat) (h : a ≤ q) (hq : q < s.size) (h2 : q - a < (s.data.toList.drop a).length) : (s.data.toList.drop a)[q - a] = s[q] := by
  rw [List.getElem_drop]
  have : a + (q - a) = q := by omega
  rw [← getB s q hq]
  congr 1
theorem TwAt.step (h : TwAt p s a q) (hq : q < s.size) (hp : p s[q] = true) : TwAt p s a (q + 1) := by
  obtain ⟨h1, h2, h3⟩ := h
  refine ⟨by omega, by omega, ?_⟩
  have hl : q - a < (s.data.toList.drop a).length := by rw [List.length_drop, sizeB]; omega
  rw [show q + 1 - a = q - a + 1 by omega]
  exact all_snoc _ _ hl h3 (by rw [drop_get s a q h1 hq hl]; exact hp)
theorem TwAt.stop (h : TwAt p s a q) (hq : q < s.size) (hp : p s[q] = false) : (s.data.toList.drop a).takeWhile p = (s.data.toList.drop a).take (q - a) := by
  obtain ⟨h1, h2, h3⟩ := h
  have hl : q - a < (s.data.toList.drop a).length := by rw [List.length_drop, sizeB]; omega
  exact tw_stop _ _ hl h3 (by rw [drop_get s a q h1 hq hl]; exact hp)
theorem TwAt.end_ (h : TwAt p s a q) (hq : ¬ q < s.size) : (s.data.toList.drop a).takeWhile p = (s.data.toList.drop a).take (q - a) := by
  obtain ⟨h1, h2, h3⟩ := h
  have hl : (s.data.toList.drop a).length ≤ q - a := by rw [List.length_drop, sizeB]; omega
  rw [List.take_of_length_le hl] at h3 ⊢
  exact tw_whole _ h3
end
theorem extL (s : ByteArray) (a b : Nat) : (s.extract a b).data.toList = (s.data.toList.drop a).take (b - a) := by
  simp [ByteArray.data_extract, List.extract_eq_take_drop]
theorem extLS (s : ByteArray) (a b : Nat) (h : a ≤ b) (h2 : b ≤ s.size) : (s.extract a b).size = b - a := by
  rw [← sizeB, extL, List.length_take, List.length_drop, sizeB]; omega
/-- The text of a token that goes on as long as its bytes belong to a set. -/
theorem tw_ext {p : UInt8 → Bool} {s : ByteArray} {a q : Nat} (ha : a < s.size) (h : TwAt p s (a + 1) q) (he : (s.data.toList.drop (a + 1)).takeWhile p = (s.data.toList.drop (a + 1)).take (q - (a + 1))) : (s.extract a q).data.toList = s[a] :: (s.data.toList.drop (a + 1)).takeWhile p := by
  have := h.1
  rw [extL, dropB s a ha, show q - a = q - (a + 1) + 1 by omega, List.take_succ_cons, ← he]

set_option maxHeartbeats 4000000 in
theorem token_name (s : ByteArray) (hs : s.size ≤ 1000000) (a : Nat) (ha : a < s.size) (hl : letB s[a] = true) (w : World) : Calls Tryd.prog 28 #[.string s, .int .i64 (a : Int)] w (Gives (tokV a a (tokL (s.data.toList.drop a))) w) := by
  have hs0 : s.size ≤ 9223372036854775807 := by omega
  have htok : tokL (s.data.toList.drop a) = if ((s.data.toList.drop (a + 1)).takeWhile nameB).length ≤ 19 then .tok 0 (s[a] :: (s.data.toList.drop (a + 1)).takeWhile nameB) 0 (((s.data.toList.drop (a + 1)).takeWhile nameB).length + 1) else .bad 3 := by
    rw [dropB s a ha]; simp only [tokL]; rw [if_pos hl]
  have hlet := letter_any s[a]
  have HL0 := Lib.hid hl
  rw [hl] at hlet
  have HLET := Lib.hid hlet
  have HTOK := Lib.hid htok
  have HS0 := Lib.hid (TwAt.start (p := nameB) (s := s) (a := a + 1) (by omega))
  clear hl hlet htok
  go_enter Tryd.func28, Tryd.ntmps28
  go_wp2_with fail
  refine (HLET.out _).mono ?_
  rintro e w1 ⟨rfl, rfl⟩
  go_wp2_with fail
  go_loop [7] (fun i => ∃ q : Nat, i = .int .i64 q ∧ TwAt nameB s (a + 1) q) (fun i => s.size - (intOf i).toNat)
  case atStart => exact ⟨a + 1, by go_num, HS0.out⟩
  case round =>
    clear HS0
    obtain ⟨q, rfl, hst⟩ := hrel
    have hq := hst.2.1
    have haq := hst.1
    have HST := Lib.hid hst
    clear hst
    -- what follows when the loop ends
    have fin : (s.data.toList.drop (a + 1)).takeWhile nameB = (s.data.toList.drop (a + 1)).take (q - (a + 1)) → ∃ ok : Bool, (∀ W, Calls Tryd.prog 19 #[.string (s.extract a q)] W fun e w' => e = .returned (.bool ok) ∧ w' = W) ∧ tokV a a (tokL (s.data.toList.drop a)) = if ok then .tuple #[.agg #[.int .i64 0, .string (s.extract a q), .int .i64 0, .int .i64 (a : Int)], .int .i64 (q : Int), .int .i64 0] else .tuple #[.agg #[.int .i64 0, .string ⟨#[]⟩, .int .i64 0, .int .i64 0], .int .i64 0, .int .i64 3] := by
      intro he
      have hx := tw_ext ha HST.out he
      have hz := extLS s a q (by omega) hq
      refine ⟨nameOk (s.extract a q).data.toList, rname_any _ (by omega), ?_⟩
      have hlen : ((s.data.toList.drop (a + 1)).takeWhile nameB).length = q - (a + 1) := by
        rw [he, List.length_take, List.length_drop, sizeB]; omega
      rw [HTOK.out, hx]
      simp only [nameOk, HL0.out, tw_all, Bool.true_and]
      rw [hlen]
      by_cases h19 : q - (a + 1) ≤ 19
      · rw [if_pos h19, if_pos (by simpa using h19), ← hx]
        simp only [tokV]
        rw [eqB]; congr 5; omega
      · rw [if_neg h19, if_neg (by simpa using h19)]; rfl
    have hrun := slice_run s a q (by omega) hq (a : Int) (q : Int) rfl rfl
    obtain ⟨E, hE⟩ : ∃ E, s.extract a q = E := ⟨_, rfl⟩
    rw [hE] at hrun fin
    have HFIN := Lib.hid fin
    clear fin hE
    by_cases hlt : q < s.size
    · obtain ⟨x, hx⟩ : ∃ x, s[q] = x := ⟨_, rfl⟩
      have hc1 := letter_any x
      have hc2 := digit_any x
      rcases h1 : letB x with _ | _
      · rw [h1] at hc1
        rcases h2 : digB x with _ | _
        · rw [h2] at hc2
          by_cases h3 : x.toNat = 95
          · have t3' : ((x.toNat : Int) == 95) = true := by simp; omega
            have HN := Lib.hid (HST.out.step hlt (by rw [hx]; simp [nameB, h3]))
            have HC1 := Lib.hid hc1
            have HC2 := Lib.hid hc2
            clear h1 h2 h3 hc1 hc2
            go_wp2_with fail
            refine (HC1.out _).mono ?_
            rintro e w1 ⟨rfl, rfl⟩
            go_wp2_with fail
            refine (HC2.out _).mono ?_
            rintro e w1 ⟨rfl, rfl⟩
            go_wp2_with fail
            go_round
            case rel => exact ⟨q + 1, by go_num, HN.out⟩
            case measure => simp [intOf]; omega
          · have t3' : ((x.toNat : Int) == 95) = false := by simp; omega
            obtain ⟨ok, hnm, hV⟩ := HFIN.out (HST.out.stop hlt (by rw [hx]; simp [nameB, h1, h2, h3]))
            have HC1 := Lib.hid hc1
            have HC2 := Lib.hid hc2
            have HNM := Lib.hid hnm
            clear h1 h2 h3 hc1 hc2 hnm
            cases ok
            · have HV := Lib.hid hV.symm
              clear hV
              go_wp2_with fail
              refine (HC1.out _).mono ?_
              rintro e w1 ⟨rfl, rfl⟩
              go_wp2_with fail
              refine (HC2.out _).mono ?_
              rintro e w1 ⟨rfl, rfl⟩
              go_wp2_with fail
              refine (HNM.out _).mono ?_
              rintro e w1 ⟨rfl, rfl⟩
              go_wp2_with fail
              exact bodyPost_ret (v := .tuple #[.agg #[.int .i64 0, .string ⟨#[]⟩, .int .i64 0, .int .i64 0], .int .i64 0, .int .i64 3]) (by simp [results, Tryd.results28, go_sem]) rfl (ret_end HV.out (below_box _ _))
            · have HV := Lib.hid hV.symm
              clear hV
              go_wp2_with fail
              refine (HC1.out _).mono ?_
              rintro e w1 ⟨rfl, rfl⟩
              go_wp2_with fail
              refine (HC2.out _).mono ?_
              rintro e w1 ⟨rfl, rfl⟩
              go_wp2_with fail
              refine (HNM.out _).mono ?_
              rintro e w1 ⟨rfl, rfl⟩
              go_wp2_with fail
              exact bodyPost_ret (v := .tuple #[.agg #[.int .i64 0, .string E, .int .i64 0, .int .i64 (a : Int)], .int .i64 (q : Int), .int .i64 0]) (by simp [results, Tryd.results28, go_sem]) rfl (ret_end HV.out (below_box _ _))
        · rw [h2] at hc2
          have HN := Lib.hid (HST.out.step hlt (by rw [hx]; exact digB_name h2))
          have HC1 := Lib.hid hc1
          have HC2 := Lib.hid hc2
          clear h1 h2 hc1 hc2
          go_wp2_with fail
          refine (HC1.out _).mono ?_
          rintro e w1 ⟨rfl, rfl⟩
          go_wp2_with fail
          refine (HC2.out _).mono ?_
          rintro e w1 ⟨rfl, rfl⟩
          go_wp2_with fail
          go_round
          case rel => exact ⟨q + 1, by go_num, HN.out⟩
          case measure => simp [intOf]; omega
      · rw [h1] at hc1
        have HN := Lib.hid (HST.out.step hlt (by rw [hx]; exact letB_name h1))
        have HC1 := Lib.hid hc1
        clear h1 hc1 hc2
        go_wp2_with fail
        refine (HC1.out _).mono ?_
        rintro e w1 ⟨rfl, rfl⟩
        go_wp2_with fail
        go_round
        case rel => exact ⟨q + 1, by go_num, HN.out⟩
        case measure => simp [intOf]; omega
    · obtain ⟨ok, hnm, hV⟩ := HFIN.out (HST.out.end_ hlt)
      have HNM := Lib.hid hnm
      clear hnm
      cases ok
      · have HV := Lib.hid hV.symm
        clear hV
        go_wp2_with fail
        refine (HNM.out _).mono ?_
        rintro e w1 ⟨rfl, rfl⟩
        go_wp2_with fail
        exact bodyPost_ret (v := .tuple #[.agg #[.int .i64 0, .string ⟨#[]⟩, .int .i64 0, .int .i64 0], .int .i64 0, .int .i64 3]) (by simp [results, Tryd.results28, go_sem]) rfl (ret_end HV.out (below_box _ _))
      · have HV := Lib.hid hV.symm
        clear hV
        go_wp2_with fail
        refine (HNM.out _).mono ?_
        rintro e w1 ⟨rfl, rfl⟩
        go_wp2_with fail
        exact bodyPost_ret (v := .tuple #[.agg #[.int .i64 0, .string E, .int .i64 0, .int .i64 (a : Int)], .int .i64 (q : Int), .int .i64 0]) (by simp [results, Tryd.results28, go_sem]) rfl (ret_end HV.out (below_box _ _))

set_option maxHeartbeats 4000000 in
theorem token_number (s : ByteArray) (hs : s.size ≤ 1000000) (a : Nat) (ha : a < s.size) (hl : digB s[a] = true) (w : World) : Calls Tryd.prog 28 #[.string s, .int .i64 (a : Int)] w (Gives (tokV a a (tokL (s.data.toList.drop a))) w) := by
  have hs0 : s.size ≤ 9223372036854775807 := by omega
  have htok : tokL (s.data.toList.drop a) = tokN (s[a] :: (s.data.toList.drop (a + 1)).takeWhile digB) := by
    rw [dropB s a ha]; simp only [tokL]; rw [if_neg (by rw [digB_let hl]; simp), if_pos hl]
  have hlet := letter_any s[a]
  rw [digB_let hl] at hlet
  have hdig := digit_any s[a]
  rw [hl] at hdig
  have HLET := Lib.hid hlet
  have HDIG := Lib.hid hdig
  have HTOK := Lib.hid htok
  have HS0 := Lib.hid (TwAt.start (p := digB) (s := s) (a := a + 1) (by omega))
  clear hl hlet htok hdig
  go_enter Tryd.func28, Tryd.ntmps28
  go_wp2_with fail
  refine (HLET.out _).mono ?_
  rintro e w1 ⟨rfl, rfl⟩
  go_wp2_with fail
  refine (HDIG.out _).mono ?_
  rintro e w1 ⟨rfl, rfl⟩
  go_wp2_with fail
  go_loop [7] (fun i => ∃ q : Nat, i = .int .i64 q ∧ TwAt digB s (a + 1) q) (fun i => s.size - (intOf i).toNat)
  case atStart => exact ⟨a + 1, by go_num, HS0.out⟩
  case round =>
    clear HS0
    obtain ⟨q, rfl, hst⟩ := hrel
    have hq := hst.2.1
    have haq := hst.1
    have HST := Lib.hid hst
    clear hst
    have fin : (s.data.toList.drop (a + 1)).takeWhile digB = (s.data.toList.drop (a + 1)).take (q - (a + 1)) → ∃ (o : Option Nat), (∀ W, Calls Tryd.prog 14 #[.string (s.extract a q)] W fun e w' => e = .returned (match o with | some u => .tuple #[.int .i64 (u : Int), .bool true] | none => .tuple #[.int .i64 0, .bool false]) ∧ w' = W) ∧ tokV a a (tokL (s.data.toList.drop a)) = match o with | some u => .tuple #[.agg #[.int .i64 1, .string (s.extract a q), .int .i64 (u : Int), .int .i64 (a : Int)], .int .i64 (q : Int), .int .i64 0] | none => .tuple #[.agg #[.int .i64 0, .string ⟨#[]⟩, .int .i64 0, .int .i64 0], .int .i64 0, .int .i64 3] := by
      intro he
      have hx := tw_ext ha HST.out he
      have hz := extLS s a q (by omega) hq
      refine ⟨numL (s.extract a q).data.toList, rnumber_any _ (by omega), ?_⟩
      rw [HTOK.out, ← hx]
      unfold tokN
      rcases numL (s.extract a q).data.toList with _ | u
      · rfl
      · simp only [tokV]
        rw [eqB, sizeB, hz]; congr 5; omega
    have hrun := slice_run s a q (by omega) hq (a : Int) (q : Int) rfl rfl
    obtain ⟨E, hE⟩ : ∃ E, s.extract a q = E := ⟨_, rfl⟩
    rw [hE] at hrun fin
    have HFIN := Lib.hid fin
    clear fin hE
    by_cases hlt : q < s.size
    · obtain ⟨x, hx⟩ : ∃ x, s[q] = x := ⟨_, rfl⟩
      have hc2 := digit_any x
      rcases h2 : digB x with _ | _
      · rw [h2] at hc2
        obtain ⟨o, hnm, hV⟩ := HFIN.out (HST.out.stop hlt (by rw [hx]; exact h2))
        have HC2 := Lib.hid hc2
        have HNM := Lib.hid hnm
        clear h2 hc2 hnm
        rcases o with _ | u
        · have HV := Lib.hid hV.symm
          clear hV
          go_wp2_with fail
          refine (HC2.out _).mono ?_
          rintro e w1 ⟨rfl, rfl⟩
          go_wp2_with fail
          refine (HNM.out _).mono ?_
          rintro e w1 ⟨rfl, rfl⟩
          go_wp2_with fail
          exact bodyPost_ret (v := .tuple #[.agg #[.int .i64 0, .string ⟨#[]⟩, .int .i64 0, .int .i64 0], .int .i64 0, .int .i64 3]) (by simp [results, Tryd.results28, go_sem]) rfl (ret_end HV.out (below_box _ _))
        · have HV := Lib.hid hV.symm
          clear hV
          go_wp2_with fail
          refine (HC2.out _).mono ?_
          rintro e w1 ⟨rfl, rfl⟩
          go_wp2_with fail
          refine (HNM.out _).mono ?_
          rintro e w1 ⟨rfl, rfl⟩
          go_wp2_with fail
          exact bodyPost_ret (v := .tuple #[.agg #[.int .i64 1, .string E, .int .i64 (u : Int), .int .i64 (a : Int)], .int .i64 (q : Int), .int .i64 0]) (by simp [results, Tryd.results28, go_sem]) rfl (ret_end HV.out (below_box _ _))
      · rw [h2] at hc2
        have HN := Lib.hid (HST.out.step hlt (by rw [hx]; exact h2))
        have HC2 := Lib.hid hc2
        clear h2 hc2
        go_wp2_with fail
        refine (HC2.out _).mono ?_
        rintro e w1 ⟨rfl, rfl⟩
        go_wp2_with fail
        go_round
        case rel => exact ⟨q + 1, by go_num, HN.out⟩
        case measure => simp [intOf]; omega
    · obtain ⟨o, hnm, hV⟩ := HFIN.out (HST.out.end_ hlt)
      have HNM := Lib.hid hnm
      clear hnm
      rcases o with _ | u
      · have HV := Lib.hid hV.symm
        clear hV
        go_wp2_with fail
        refine (HNM.out _).mono ?_
        rintro e w1 ⟨rfl, rfl⟩
        go_wp2_with fail
        exact bodyPost_ret (v := .tuple #[.agg #[.int .i64 0, .string ⟨#[]⟩, .int .i64 0, .int .i64 0], .int .i64 0, .int .i64 3]) (by simp [results, Tryd.results28, go_sem]) rfl (ret_end HV.out (below_box _ _))
      · have HV := Lib.hid hV.symm
        clear hV
        go_wp2_with fail
        refine (HNM.out _).mono ?_
        rintro e w1 ⟨rfl, rfl⟩
        go_wp2_with fail
        exact bodyPost_ret (v := .tuple #[.agg #[.int .i64 1, .string E, .int .i64 (u : Int), .int .i64 (a : Int)], .int .i64 (q : Int), .int .i64 0]) (by simp [results, Tryd.results28, go_sem]) rfl (ret_end HV.out (below_box _ _))

set_option maxHeartbeats 4000000 in
theorem token_other (s : ByteArray) (hs : s.size ≤ 1000000) (a : Nat) (ha : a < s.size) (hl : letB s[a] = false) (hd : digB s[a] = false) (w : World) : Calls Tryd.prog 28 #[.string s, .int .i64 (a : Int)] w (Gives (tokV a a (tokL (s.data.toList.drop a))) w) := by
  have hs0 : s.size ≤ 9223372036854775807 := by omega
  have hext := extL s a (a + 1)
  rw [dropB s a ha, show a + 1 - a = 0 + 1 by omega, List.take_succ_cons, List.take_zero] at hext
  have htok := congrArg tokL (dropB s a ha)
  simp only [tokL] at htok
  rw [if_neg (by rw [hl]; simp), if_neg (by rw [hd]; simp)] at htok
  have hlet := letter_any s[a]
  rw [hl] at hlet
  have hdig := digit_any s[a]
  rw [hd] at hdig
  have hq := rquoted_any s hs a ha
  obtain ⟨x, hx⟩ : ∃ x, s[a] = x := ⟨_, rfl⟩
  rw [hx] at hlet hdig htok hext
  have hsgn := sign_any x
  have HLET := Lib.hid hlet
  have HDIG := Lib.hid hdig
  by_cases h34 : x.toNat = 34
  · have t34 : ((x.toNat : Int) == 34) = true := by simp; omega
    rw [if_pos h34] at htok
    have hcase : qV s a = qBad ∧ tokV a a (tokL (s.data.toList.drop a)) = .tuple #[.agg #[.int .i64 0, .string ⟨#[]⟩, .int .i64 0, .int .i64 0], .int .i64 0, .int .i64 2] ∨ ∃ (t : ByteArray) (e : Int), qV s a = .tuple #[.string t, .int .i64 e, .bool true] ∧ tokV a a (tokL (s.data.toList.drop a)) = .tuple #[.agg #[.int .i64 2, .string t, .int .i64 0, .int .i64 (a : Int)], .int .i64 e, .int .i64 0] := by
      simp only [tokL]
      rw [htok]
      unfold qV tokS
      rcases strL (s.data.toList.drop (a + 1)) with _ | ⟨v, z⟩
      · left; exact ⟨rfl, rfl⟩
      · simp only
        rcases valOk v with _ | _
        · left; exact ⟨rfl, rfl⟩
        · right; refine ⟨_, _, rfl, ?_⟩
          simp only [if_true, tokV]
          congr 5; omega
    rcases hcase with ⟨hqv, hV⟩ | ⟨t, e1, hqv, hV⟩
    · rw [hqv] at hq
      unfold qBad at hq
      have HQ := Lib.hid hq
      have HV := Lib.hid hV.symm
      clear hl hd hlet hdig htok hsgn h34 hqv hV hq hext
      go_enter Tryd.func28, Tryd.ntmps28
      go_wp2_with fail
      refine (HLET.out _).mono ?_
      rintro e w1 ⟨rfl, rfl⟩
      go_wp2_with fail
      refine (HDIG.out _).mono ?_
      rintro e w1 ⟨rfl, rfl⟩
      go_wp2_with fail
      refine (HQ.out _).mono ?_
      rintro e w1 ⟨rfl, rfl⟩
      go_wp2_with fail
      exact bodyPost_ret (v := .tuple #[.agg #[.int .i64 0, .string ⟨#[]⟩, .int .i64 0, .int .i64 0], .int .i64 0, .int .i64 2]) (by simp [results, Tryd.results28, go_sem]) rfl (ret_end HV.out (below_box _ _))
    · rw [hqv] at hq
      have HQ := Lib.hid hq
      have HV := Lib.hid hV.symm
      clear hl hd hlet hdig htok hsgn h34 hqv hV hq hext
      go_enter Tryd.func28, Tryd.ntmps28
      go_wp2_with fail
      refine (HLET.out _).mono ?_
      rintro e w1 ⟨rfl, rfl⟩
      go_wp2_with fail
      refine (HDIG.out _).mono ?_
      rintro e w1 ⟨rfl, rfl⟩
      go_wp2_with fail
      refine (HQ.out _).mono ?_
      rintro e w1 ⟨rfl, rfl⟩
      go_wp2_with fail
      exact bodyPost_ret (v := .tuple #[.agg #[.int .i64 2, .string t, .int .i64 0, .int .i64 (a : Int)], .int .i64 e1, .int .i64 0]) (by simp [results, Tryd.results28, go_sem]) rfl (ret_end HV.out (below_box _ _))
  · have t34 : ((x.toNat : Int) == 34) = false := by simp; omega
    rw [if_neg h34] at htok
    rcases h4 : signB x with _ | _
    · rw [h4] at hsgn
      rw [if_neg (by rw [h4]; simp)] at htok
      have HSG := Lib.hid hsgn
      have HV : Hid (.tuple #[.agg #[.int .i64 0, .string ⟨#[]⟩, .int .i64 0, .int .i64 0], .int .i64 0, .int .i64 10] = tokV a a (tokL (s.data.toList.drop a))) := Lib.hid (by simp only [tokL]; rw [htok]; rfl)
      clear hl hd hlet hdig htok hsgn h34 hq hext h4
      go_enter Tryd.func28, Tryd.ntmps28
      go_wp2_with fail
      refine (HLET.out _).mono ?_
      rintro e w1 ⟨rfl, rfl⟩
      go_wp2_with fail
      refine (HDIG.out _).mono ?_
      rintro e w1 ⟨rfl, rfl⟩
      go_wp2_with fail
      refine (HSG.out _).mono ?_
      rintro e w1 ⟨rfl, rfl⟩
      go_wp2_with fail
      exact bodyPost_ret (v := .tuple #[.agg #[.int .i64 0, .string ⟨#[]⟩, .int .i64 0, .int .i64 0], .int .i64 0, .int .i64 10]) (by simp [results, Tryd.results28, go_sem]) rfl (ret_end HV.out (below_box _ _))
    · rw [h4] at hsgn
      rw [if_pos h4] at htok
      have HSG := Lib.hid hsgn
      have hrun := slice_run s a (a + 1) (by omega) (by omega) (a : Int) ((a : Int) + 1) rfl (by omega)
      obtain ⟨E, hE⟩ : ∃ E, s.extract a (a + 1) = E := ⟨_, rfl⟩
      rw [hE] at hrun hext
      have HV : Hid (.tuple #[.agg #[.int .i64 3, .string E, .int .i64 0, .int .i64 (a : Int)], .int .i64 ((a : Int) + 1), .int .i64 0] = tokV a a (tokL (s.data.toList.drop a))) := Lib.hid (by
        simp only [tokL]; rw [htok]; simp only [tokV]; rw [ofList hext]; rfl)
      clear hl hd hlet hdig htok hsgn h34 hq hext h4 hE
      go_enter Tryd.func28, Tryd.ntmps28
      go_wp2_with fail
      refine (HLET.out _).mono ?_
      rintro e w1 ⟨rfl, rfl⟩
      go_wp2_with fail
      refine (HDIG.out _).mono ?_
      rintro e w1 ⟨rfl, rfl⟩
      go_wp2_with fail
      refine (HSG.out _).mono ?_
      rintro e w1 ⟨rfl, rfl⟩
      go_wp2_with fail
      exact bodyPost_ret (v := .tuple #[.agg #[.int .i64 3, .string E, .int .i64 0, .int .i64 (a : Int)], .int .i64 ((a : Int) + 1), .int .i64 0]) (by simp [results, Tryd.results28, go_sem]) rfl (ret_end HV.out (below_box _ _))
theorem token_any (s : ByteArray) (hs : s.size ≤ 1000000) (a : Nat) (ha : a < s.size) (w : World) : Calls Tryd.prog 28 #[.string s, .int .i64 (a : Int)] w (Gives (tokV a a (tokL (s.data.toList.drop a))) w) := by
  rcases h1 : letB s[a] with _ | _
  · rcases h2 : digB s[a] with _ | _
    · exact token_other s hs a ha h1 h2 w
    · exact token_number s hs a ha h2 w
  · exact token_name s hs a ha h1 w
end Go.Proofs.YtagkdhcclkbjgaaDoor.Le
