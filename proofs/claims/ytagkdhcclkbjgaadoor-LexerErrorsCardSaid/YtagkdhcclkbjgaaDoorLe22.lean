/- The contract of LexerErrors. -/
import Derived.Test.YtagkdhcclkbjgaaDoorLe21
set_option maxRecDepth 100000
namespace Go.Proofs.YtagkdhcclkbjgaaDoor.Le
open Go.RowKit

def sizeV : Value → Nat
  | .string s => s.size
  | _ => 0
theorem fill_ext (F : ByteArray) (n : Nat) (h : F.data.toList = List.replicate n 32) (m : Nat) (hm : m ≤ n) : (F.extract 0 m).data.toList = List.replicate m 32 := by
  rw [extL, h]; simp [Nat.min_eq_left hm]
theorem fill_run (F : ByteArray) (m : Nat) (hm : m ≤ F.size) (c : Int) (hc : c = (m : Int)) (W : World) : (Instr.slice 9 (.string F) none (some (.int .i64 c)) none).run Tryd.prog W = .ok (.string (F.extract 0 m)) W := by
  subst hc
  rw [run_slice_string_h (w := W) (t := 9) (s := F) Tryd.underlying9 .i64 (m : Int) (by omega) (by omega)]
  congr 2

set_option maxHeartbeats 8000000 in
theorem errors_ok (s : ByteArray) (hs : s.size ≤ 9223372036854775807) (full : Bool) (w : World) (he : Env w) (L : List Tok) (hsc : sc false 0 (cutB s).data.toList = .ok L) : Calls Tryd.prog 7 #[.string s, .bool full] w (Gives (.bool true) w) := by
  have HE := Lib.hid he
  have HC := Lib.hid (cut_any s hs)
  have hcs := cutB_size s
  obtain ⟨t, ht⟩ : ∃ t, cutB s = t := ⟨_, rfl⟩
  rw [ht] at HC hcs hsc
  have HS := Lib.hid (scan_ok t _ L rfl (by omega) hsc)
  have HSC := Lib.hid hsc
  clear he ht hsc
  cases full
  · go_enter Tryd.func7, Tryd.ntmps7
    go_wp2_with fail
    refine (sane_any _ HE.out).mono ?_
    rintro e w1 ⟨rfl, hb⟩
    have HB1 := Lib.hid hb
    clear hb
    go_wp2_with fail
    refine (HC.out _).mono ?_
    rintro e w1 ⟨rfl, rfl⟩
    go_wp2_with fail
    refine (HS.out _ (HE.out.below HB1.out)).mono ?_
    rintro e w2 ⟨a2, c2, rfl, _, hb⟩
    have HB2 := Lib.hid (HB1.out.trans (hb.mono HB1.out.size))
    clear hb
    go_wp2_with fail
    go_ret
    exact ⟨rfl, HB2.out⟩
  · go_enter Tryd.func7, Tryd.ntmps7
    go_wp2_with fail
    refine (sane_any _ HE.out).mono ?_
    rintro e w1 ⟨rfl, hb⟩
    have HB1 := Lib.hid hb
    clear hb
    go_wp2_with fail
    refine (HC.out _).mono ?_
    rintro e w1 ⟨rfl, rfl⟩
    go_wp2_with fail
    refine (HS.out _ (HE.out.below HB1.out)).mono ?_
    rintro e w2 ⟨a2, c2, rfl, _, hb⟩
    have HB2 := Lib.hid (HB1.out.trans (hb.mono HB1.out.size))
    clear hb
    go_wp2_with fail
    go_loop [10] (fun f => ∃ (n : Nat) (F : ByteArray), 10 ≤ n ∧ n ≤ 7999 ∧ f = .string F ∧ F.data.toList = List.replicate n 32) (fun f => 8000 - sizeV f)
    case atStart => exact ⟨10, _, by omega, by omega, rfl, rfl⟩
    case round =>
      obtain ⟨n, F, hn1, hn2, rfl, hF⟩ := hrel
      have hFs : F.size = n := by rw [← sizeB, hF, List.length_replicate]
      have HF := Lib.hid hF
      clear hF
      by_cases hlt : n < 4000
      · have hlt1 : decide ((F.size : Int) < 4000) = true := by simp; omega
        have hcat := add_run (a := F) (b := F) (by omega)
        have HN : Hid ((F ++ F).data.toList = List.replicate (n + n) 32) := Lib.hid (by rw [catB, HF.out, List.replicate_append_replicate])
        have HM : Hid (8000 - (F ++ F).size < 8000 - F.size) := Lib.hid (by rw [catS]; omega)
        have HSZ := Lib.hid hFs
        clear hFs
        go_wp2_with fail
        go_round
        case rel => exact ⟨n + n, _, by omega, by omega, rfl, HN.out⟩
        case measure => exact HM.out
      · have hlt1 : decide ((F.size : Int) < 4000) = false := by simp; omega
        have hcat1 := add_run (a := t) (b := ⟨#[10]⟩) (by show t.size + 1 ≤ _; omega)
        obtain ⟨U, hU⟩ : ∃ U, t ++ (⟨#[10]⟩ : ByteArray) = U := ⟨_, rfl⟩
        have hUs : U.size = t.size + 1 := by rw [← hU, catS]; rfl
        have hUb : U.size ≤ 901 := by omega
        have hUl : U.data.toList = t.data.toList ++ [10] := by rw [← hU, catB]
        rw [hU] at hcat1
        have hx1 := fill_ext F n HF.out (4000 - U.size) (by omega)
        have hx2 := fill_ext F n HF.out (4001 - U.size) (by omega)
        have hz1 : (F.extract 0 (4000 - U.size)).size = 4000 - U.size := by rw [← sizeB, hx1, List.length_replicate]
        have hz2 : (F.extract 0 (4001 - U.size)).size = 4001 - U.size := by rw [← sizeB, hx2, List.length_replicate]
        have hr1 := fill_run F (4000 - U.size) (by omega) (4000 - (U.size : Int)) (by omega)
        have hr2 := fill_run F (4001 - U.size) (by omega) (4001 - (U.size : Int)) (by omega)
        obtain ⟨G1, hG1⟩ : ∃ G, F.extract 0 (4000 - U.size) = G := ⟨_, rfl⟩
        obtain ⟨G2, hG2⟩ : ∃ G, F.extract 0 (4001 - U.size) = G := ⟨_, rfl⟩
        rw [hG1] at hx1 hz1 hr1
        rw [hG2] at hx2 hz2 hr2
        have hcat2 := add_run (a := U) (b := G1) (by omega)
        have hcat3 := add_run (a := U) (b := G2) (by omega)
        have hlist : (U ++ G1).data.toList = t.data.toList ++ 10 :: List.replicate (4000 - U.size) 32 := by rw [catB, hUl, hx1]; simp
        have hsc2 := sc_join (List.replicate (4000 - U.size) 32) t.data.toList.length false 0 t.data.toList (Nat.le_refl _)
        rw [HSC.out] at hsc2
        simp only [joinR, sc_blanks, R.pre, List.append_nil] at hsc2
        have HT1 := Lib.hid (scan_ok (U ++ G1) _ L hlist (by rw [catS]; omega) hsc2)
        have HT2 := Lib.hid (scan_full (U ++ G2) (by rw [catS]; omega))
        have HU2 := Lib.hid hUs
        have HZ1 := Lib.hid hz1
        have HZ2 := Lib.hid hz2
        clear hU hUl hx1 hx2 hG1 hG2 hlist hsc2 hUs hz1 hz2 hFs
        go_wp2_with fail
        refine (HT1.out _ (HE.out.below HB2.out)).mono ?_
        rintro e w3 ⟨a3, c3, rfl, _, hb⟩
        have HB3 := Lib.hid (HB2.out.trans (hb.mono HB2.out.size))
        clear hb
        go_wp2_with fail
        refine (HT2.out _).mono ?_
        rintro e w3 ⟨rfl, rfl⟩
        go_wp2_with fail
        go_ret
        exact ⟨rfl, HB3.out⟩

set_option maxHeartbeats 16000000 in
theorem errors_bad (s : ByteArray) (hs : s.size ≤ 9223372036854775807) (full : Bool) (w : World) (he : Env w) (p : Nat) (x : Int) (hsc : sc false 0 (cutB s).data.toList = .bad p x) : Calls Tryd.prog 7 #[.string s, .bool full] w (Gives (.bool true) w) := by
  have HE := Lib.hid he
  have HC := Lib.hid (cut_any s hs)
  have hcs := cutB_size s
  obtain ⟨t, ht⟩ : ∃ t, cutB s = t := ⟨_, rfl⟩
  rw [ht] at HC hcs hsc
  have HS := Lib.hid (scan_bad t _ p x rfl (by omega) hsc)
  have herr := sc_errs t.data.toList.length false 0 t.data.toList (Nat.le_refl _)
  rw [hsc] at herr
  obtain ⟨_, h2, ⟨L1, h3⟩, h4, h5⟩ := herr
  rw [Nat.sub_zero] at h3
  have h4' := h4 0
  rw [Nat.sub_zero] at h4'
  rw [sizeB, Nat.zero_add] at h2
  have hr1 := fill_run t p (by omega) (p : Int) rfl
  have hr2 := slice_low t p (by omega)
  have hl1 : (t.extract 0 p).data.toList = t.data.toList.take p := by rw [extL]; simp
  have HA := Lib.hid (scan_ok (t.extract 0 p) _ L1 hl1 (by rw [extLS t 0 p (by omega) (by omega)]; omega) h3)
  have HD := Lib.hid (scan_bad (t.extract p t.size) _ 0 x (ext_end t p) (by rw [ext_endS t p (by omega)]; omega) h4')
  obtain ⟨E1, hE1⟩ : ∃ E, t.extract 0 p = E := ⟨_, rfl⟩
  obtain ⟨E2, hE2⟩ : ∃ E, t.extract p t.size = E := ⟨_, rfl⟩
  rw [hE1] at hr1 HA
  rw [hE2] at hr2 HD
  have HSC := Lib.hid hsc
  have hp1 : ¬ t.size ≤ p := by omega
  have hp2 : decide ((p : Int) < 0) = false := by simp
  clear he ht hsc h3 h4 h4' hl1 hE1 hE2
  rcases h5 with rfl | rfl | rfl
  all_goals
    cases full
    · go_enter Tryd.func7, Tryd.ntmps7
      go_wp2_with fail
      refine (sane_any _ HE.out).mono ?_
      rintro e w1 ⟨rfl, hb⟩
      have HB1 := Lib.hid hb
      clear hb
      go_wp2_with fail
      refine (HC.out _).mono ?_
      rintro e w1 ⟨rfl, rfl⟩
      go_wp2_with fail
      refine (HS.out _ (HE.out.below HB1.out)).mono ?_
      rintro e w2 ⟨rfl, hb⟩
      have HB2 := Lib.hid (HB1.out.trans (hb.mono HB1.out.size))
      clear hb
      go_wp2_with fail
      refine (HA.out _ (HE.out.below HB2.out)).mono ?_
      rintro e w5 ⟨a5, c5, rfl, _, hb⟩
      have HB5 := Lib.hid (HB2.out.trans (hb.mono HB2.out.size))
      clear hb
      go_wp2_with fail
      refine (HD.out _ (HE.out.below HB5.out)).mono ?_
      rintro e w6 ⟨rfl, hb⟩
      have HB6 := Lib.hid (HB5.out.trans (hb.mono HB5.out.size))
      clear hb
      go_wp2_with fail
      go_ret
      exact ⟨rfl, HB6.out⟩
    · go_enter Tryd.func7, Tryd.ntmps7
      go_wp2_with fail
      refine (sane_any _ HE.out).mono ?_
      rintro e w1 ⟨rfl, hb⟩
      have HB1 := Lib.hid hb
      clear hb
      go_wp2_with fail
      refine (HC.out _).mono ?_
      rintro e w1 ⟨rfl, rfl⟩
      go_wp2_with fail
      refine (HS.out _ (HE.out.below HB1.out)).mono ?_
      rintro e w2 ⟨rfl, hb⟩
      have HB2 := Lib.hid (HB1.out.trans (hb.mono HB1.out.size))
      clear hb
      go_wp2_with fail
      go_loop [10] (fun f => ∃ (n : Nat) (F : ByteArray), 10 ≤ n ∧ n ≤ 7999 ∧ f = .string F ∧ F.data.toList = List.replicate n 32) (fun f => 8000 - sizeV f)
      case atStart => exact ⟨10, _, by omega, by omega, rfl, rfl⟩
      case round =>
        obtain ⟨n, F, hn1, hn2, rfl, hF⟩ := hrel
        have hFs : F.size = n := by rw [← sizeB, hF, List.length_replicate]
        have HF := Lib.hid hF
        clear hF
        by_cases hlt : n < 4000
        · have hlt1 : decide ((F.size : Int) < 4000) = true := by simp; omega
          have hcat := add_run (a := F) (b := F) (by omega)
          have HN : Hid ((F ++ F).data.toList = List.replicate (n + n) 32) := Lib.hid (by rw [catB, HF.out, List.replicate_append_replicate])
          have HM : Hid (8000 - (F ++ F).size < 8000 - F.size) := Lib.hid (by rw [catS]; omega)
          have HSZ := Lib.hid hFs
          clear hFs
          go_wp2_with fail
          go_round
          case rel => exact ⟨n + n, _, by omega, by omega, rfl, HN.out⟩
          case measure => exact HM.out
        · have hlt1 : decide ((F.size : Int) < 4000) = false := by simp; omega
          have hcat1 := add_run (a := t) (b := ⟨#[10]⟩) (by show t.size + 1 ≤ _; omega)
          obtain ⟨U, hU⟩ : ∃ U, t ++ (⟨#[10]⟩ : ByteArray) = U := ⟨_, rfl⟩
          have hUs : U.size = t.size + 1 := by rw [← hU, catS]; rfl
          have hUb : U.size ≤ 901 := by omega
          have hUl : U.data.toList = t.data.toList ++ [10] := by rw [← hU, catB]
          rw [hU] at hcat1
          have hx1 := fill_ext F n HF.out (4000 - U.size) (by omega)
          have hx2 := fill_ext F n HF.out (4001 - U.size) (by omega)
          have hz1 : (F.extract 0 (4000 - U.size)).size = 4000 - U.size := by rw [← sizeB, hx1, List.length_replicate]
          have hz2 : (F.extract 0 (4001 - U.size)).size = 4001 - U.size := by rw [← sizeB, hx2, List.length_replicate]
          have hr1 := fill_run F (4000 - U.size) (by omega) (4000 - (U.size : Int)) (by omega)
          have hr2 := fill_run F (4001 - U.size) (by omega) (4001 - (U.size : Int)) (by omega)
          obtain ⟨G1, hG1⟩ : ∃ G, F.extract 0 (4000 - U.size) = G := ⟨_, rfl⟩
          obtain ⟨G2, hG2⟩ : ∃ G, F.extract 0 (4001 - U.size) = G := ⟨_, rfl⟩
          rw [hG1] at hx1 hz1 hr1
          rw [hG2] at hx2 hz2 hr2
          have hcat2 := add_run (a := U) (b := G1) (by omega)
          have hcat3 := add_run (a := U) (b := G2) (by omega)
          have hlist : (U ++ G1).data.toList = t.data.toList ++ 10 :: List.replicate (4000 - U.size) 32 := by rw [catB, hUl, hx1]; simp
          have hsc2 := sc_join (List.replicate (4000 - U.size) 32) t.data.toList.length false 0 t.data.toList (Nat.le_refl _)
          rw [HSC.out] at hsc2
          simp only [joinR] at hsc2
          have HT1 := Lib.hid (scan_bad (U ++ G1) _ p _ hlist (by rw [catS]; omega) hsc2)
          have HT2 := Lib.hid (scan_full (U ++ G2) (by rw [catS]; omega))
          have HU2 := Lib.hid hUs
          have HZ1 := Lib.hid hz1
          have HZ2 := Lib.hid hz2
          clear hU hUl hx1 hx2 hG1 hG2 hlist hsc2 hUs hz1 hz2 hFs
          go_wp2_with fail
          refine (HT1.out _ (HE.out.below HB2.out)).mono ?_
          rintro e w3 ⟨rfl, hb⟩
          have HB3 := Lib.hid (HB2.out.trans (hb.mono HB2.out.size))
          clear hb
          go_wp2_with fail
          refine (HT2.out _).mono ?_
          rintro e w3 ⟨rfl, rfl⟩
          go_wp2_with fail
          refine (HA.out _ (HE.out.below HB3.out)).mono ?_
          rintro e w5 ⟨a5, c5, rfl, _, hb⟩
          have HB5 := Lib.hid (HB3.out.trans (hb.mono HB3.out.size))
          clear hb
          go_wp2_with fail
          refine (HD.out _ (HE.out.below HB5.out)).mono ?_
          rintro e w6 ⟨rfl, hb⟩
          have HB6 := Lib.hid (HB5.out.trans (hb.mono HB5.out.size))
          clear hb
          go_wp2_with fail
          go_ret
          exact ⟨rfl, HB6.out⟩
theorem LexerErrors_any (s : ByteArray) (hs : s.size ≤ 9223372036854775807) (full : Bool) (w : World) (he : Env w) : Calls Tryd.prog 7 #[.string s, .bool full] w (Gives (.bool true) w) := by
  rcases h : sc false 0 (cutB s).data.toList with L | ⟨p, x⟩
  · exact errors_ok s hs full w he L h
  · exact errors_bad s hs full w he p x h
end Go.Proofs.YtagkdhcclkbjgaaDoor.Le
