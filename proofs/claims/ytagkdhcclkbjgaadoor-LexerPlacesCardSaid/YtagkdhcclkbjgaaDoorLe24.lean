/- The contract of LexerPlaces. -/
import Derived.Test.YtagkdhcclkbjgaaDoorLe23
set_option maxRecDepth 100000
namespace Go.Proofs.YtagkdhcclkbjgaaDoor.Le
open Go.RowKit

theorem placed_cons {t : List UInt8} {e : Nat} {x : Tok} {L : List Tok} (h : Placed t e (x :: L)) : e ≤ x.pos ∧ okT x.kind x.text x.n ∧ x.pos + (enc x.kind x.text).length ≤ t.length ∧ 1 ≤ (enc x.kind x.text).length ∧ (t.drop x.pos).take (enc x.kind x.text).length = enc x.kind x.text ∧
    skip false ((t.drop e).take (x.pos - e)) = x.pos - e ∧ Placed t (x.pos + (enc x.kind x.text).length) L := by
  cases h with
  | cons e x L h1 h2 h3 h4 h5 h6 h7 => exact ⟨h1, h2, h3, h4, h5, h6, h7⟩
theorem placed_nil {t : List UInt8} {e : Nat} (h : Placed t e []) : e ≤ t.length ∧ skip false (t.drop e) = (t.drop e).length := by
  cases h with
  | nil e h1 h2 => exact ⟨h1, h2⟩

set_option maxHeartbeats 4000000 in
theorem places_bad (s : ByteArray) (hs : s.size ≤ 9223372036854775807) (w : World) (he : Env w) (p : Nat) (x : Int) (hsc : sc false 0 (cutB s).data.toList = .bad p x) : Calls Tryd.prog 5 #[.string s] w (Gives (.bool true) w) := by
  have HE := Lib.hid he
  have HC := Lib.hid (cut_any s hs)
  have hcs := cutB_size s
  obtain ⟨t, ht⟩ : ∃ t, cutB s = t := ⟨_, rfl⟩
  rw [ht] at HC hcs hsc
  have HS := Lib.hid (scan_bad t _ p x rfl (by omega) hsc)
  have herr := sc_errs t.data.toList.length false 0 t.data.toList (Nat.le_refl _)
  rw [hsc] at herr
  have h2 := herr.2.1
  rw [sizeB, Nat.zero_add] at h2
  have h5 := herr.2.2.2.2
  have hx1 : (x != 0) = true := by simp; omega
  have hx2 : (x == 0) = false := by simp; omega
  have hp2 : decide ((0 : Int) ≤ (p : Int)) = true := by simp
  clear he ht hsc herr h5
  go_enter Tryd.func5, Tryd.ntmps5
  go_wp2_with fail
  refine (sane_any _ HE.out).mono ?_
  rintro e w1 ⟨rfl, hb⟩
  have HB1 := Lib.hid hb
  clear hb
  go_wp2_with fail
  with_reducible refine (HC.out _).mono ?_
  rintro e w1 ⟨rfl, rfl⟩
  go_wp2_with fail
  refine (HS.out _ (HE.out.below HB1.out)).mono ?_
  rintro e w2 ⟨rfl, hb⟩
  have HB2 := Lib.hid (HB1.out.trans (hb.mono HB1.out.size))
  clear hb
  go_wp2_with fail
  go_ret
  exact ⟨rfl, HB2.out⟩

set_option maxHeartbeats 16000000 in
theorem places_ok (s : ByteArray) (hs : s.size ≤ 9223372036854775807) (w : World) (he : Env w) (L : List Tok) (hsc : sc false 0 (cutB s).data.toList = .ok L) : Calls Tryd.prog 5 #[.string s] w (Gives (.bool true) w) := by
  have HE := Lib.hid he
  have HC := Lib.hid (cut_any s hs)
  have hcs := cutB_size s
  obtain ⟨t, ht⟩ : ∃ t, cutB s = t := ⟨_, rfl⟩
  rw [ht] at HC hcs hsc
  have HS := Lib.hid (scan_ok t _ L rfl (by omega) hsc)
  have hpl := sc_placed t.data.toList t.data.toList.length false 0 t.data.toList (Nat.le_refl _) rfl (Nat.zero_le _) rfl L hsc
  have HP := Lib.hid hpl
  have hfew := few_of (by rw [sizeB]; exact hcs) hsc
  have hnL := hfew.2.2.1
  have HF := Lib.hid hfew.2.2.2.2
  obtain ⟨N, hN⟩ : ∃ N, L.length = N := ⟨_, rfl⟩
  rw [hN] at HS hnL
  have HN := Lib.hid hN
  clear he ht hsc hpl hfew hN
  go_enter Tryd.func5, Tryd.ntmps5
  go_wp2_with fail
  refine (sane_any _ HE.out).mono ?_
  rintro e w1 ⟨rfl, hb⟩
  have HB1 := Lib.hid hb
  clear hb
  go_wp2_with fail
  with_reducible refine (HC.out _).mono ?_
  rintro e w1 ⟨rfl, rfl⟩
  go_wp2_with fail
  refine (HS.out _ (HE.out.below HB1.out)).mono ?_
  rintro e w2 ⟨a2, c2, rfl, hu, hb⟩
  have HA2 := Lib.hid hu
  have HB2 := Lib.hid (HB1.out.trans (hb.mono HB1.out.size))
  clear hb hu
  go_wp2_with fail
  go_loopw [8, 9] (fun ed i wr => ∃ k e : Nat, k ≤ N ∧ i = .int .i64 k ∧ ed = .int .i64 e ∧ Placed t.data.toList e (L.drop k) ∧ RowKit.Below w2.heap.size w2 wr) (fun _ i _ => N - (intOf i).toNat)
  case atStart => exact ⟨0, 0, by omega, rfl, rfl, HP.out, Below.refl _ _⟩
  case round =>
    clear HP
    obtain ⟨k, e, hk, rfl, rfl, hpl, hb⟩ := hrel
    have HA5 := Lib.hid (HA2.out.later hb)
    have HB5 := Lib.hid hb
    clear hb
    by_cases hlt : k < N
    · have hkL : k < L.length := by rw [HN.out]; exact hlt
      have hkA : k < (L.map Tok.tk).length := by rw [List.length_map]; exact hkL
      rw [List.drop_eq_getElem_cons hkL] at hpl
      obtain ⟨b1, o1, rfl, q0, q1, q2, q3⟩ := HA5.out.at k hkA
      have e1 : (L.map Tok.tk)[k]'hkA = (L[k]'hkL).tk := by simp
      have hTs := HF.out (L[k]'hkL).tk (List.mem_map.2 ⟨_, List.getElem_mem _, rfl⟩)
      rw [e1] at q0 q1 q2 q3
      obtain ⟨z, hz⟩ : ∃ z, L[k]'hkL = z := ⟨_, rfl⟩
      rw [hz] at q0 q1 q2 q3 hpl hTs
      obtain ⟨p1, p2, p3, p4, p5, p6, p7⟩ := placed_cons hpl
      obtain ⟨xk, xt, xn, xp⟩ := z
      simp only [Tok.tk] at q0 q1 q2 q3 p1 p2 p3 p4 p5 p6 p7 hTs
      rw [sizeB] at p3
      obtain ⟨T, eT⟩ : ∃ T : ByteArray, (⟨xt.toArray⟩ : ByteArray) = T := ⟨_, rfl⟩
      have hT : T.data.toList = xt := by rw [← eT]
      rw [eT] at q1 hTs
      obtain ⟨Q, hQq⟩ : ∃ Q : ByteArray, (⟨(quo T.data.toList).toArray⟩ : ByteArray) = Q := ⟨_, rfl⟩
      have hQ : Q.data.toList = quo xt := by rw [← hQq, hT]
      replace hTs : T.size ≤ 1000000 := by omega
      clear e1 hz hkL hkA hpl eT
      rcases p2 with ⟨rfl, _, rfl⟩ | ⟨rfl, _⟩ | ⟨rfl, _, rfl⟩ | ⟨rfl, _, rfl⟩
      · have hzT : T.size = (enc 0 xt).length := by rw [← sizeB, hT]; rfl
        have hple : ¬ xp < e := by omega
        have hple2 : decide ((xp : Int) < (e : Int)) = false := by simp; omega
        have hsz2 : decide ((t.size : Int) - (T.size : Int) < (xp : Int)) = false := by simp; omega
        have hone : decide ((T.size : Int) < 1) = false := by simp; omega
        have hone2 : ¬ T.size = 0 := by omega
        have hrun1 := slice_run t xp (xp + T.size) (by omega) (by omega) (xp : Int) ((xp : Int) + (T.size : Int)) rfl (by omega)
        have hrun2 := slice_run t e xp (by omega) (by omega) (e : Int) (xp : Int) rfl rfl
        have hfound : t.extract xp (xp + T.size) = T := by rw [ofList (extL t xp (xp + T.size)), show xp + T.size - xp = T.size by omega, hzT, p5, ofList hT]; rfl
        rw [hfound] at hrun1
        have hidle := idle_any (t.extract e xp) (by rw [extLS t e xp (by omega) (by omega)]; omega)
        rw [extL, p6, extLS t e xp (by omega) (by omega)] at hidle
        rw [show decide (xp - e = xp - e) = true by simp] at hidle
        obtain ⟨E, hE⟩ : ∃ E, t.extract e xp = E := ⟨_, rfl⟩
        rw [hE] at hidle hrun2
        have HID := Lib.hid hidle
        have HPL : Hid (Placed t.data.toList (xp + T.size) (L.drop (k + 1))) := Lib.hid (by rw [hzT]; exact p7)
        have hadd : ((xp + T.size : Nat) : Int) = (xp : Int) + (T.size : Int) := by omega
        have hxp9 : xp ≤ 900 := by omega
        have hz9 : T.size ≤ 900 := by omega
        clear hzT hfound hE hidle p1 p3 p4 p5 p6 p7
        clear hQq hQ hT hTs hadd
        go_wp2_with fail
        with_reducible refine (HID.out _).mono ?_
        rintro e1 w5 ⟨rfl, rfl⟩
        go_wp2_with fail
        go_roundw
        case rel => exact ⟨k + 1, xp + T.size, by omega, by go_num, by go_num, HPL.out, HB5.out.trans ((below_box _ _).mono HB5.out.size)⟩
        case measure => simp [intOf]; omega
      · have hzT : T.size = (enc 1 xt).length := by rw [← sizeB, hT]; rfl
        have hple : ¬ xp < e := by omega
        have hple2 : decide ((xp : Int) < (e : Int)) = false := by simp; omega
        have hsz2 : decide ((t.size : Int) - (T.size : Int) < (xp : Int)) = false := by simp; omega
        have hone : decide ((T.size : Int) < 1) = false := by simp; omega
        have hone2 : ¬ T.size = 0 := by omega
        have hrun1 := slice_run t xp (xp + T.size) (by omega) (by omega) (xp : Int) ((xp : Int) + (T.size : Int)) rfl (by omega)
        have hrun2 := slice_run t e xp (by omega) (by omega) (e : Int) (xp : Int) rfl rfl
        have hfound : t.extract xp (xp + T.size) = T := by rw [ofList (extL t xp (xp + T.size)), show xp + T.size - xp = T.size by omega, hzT, p5, ofList hT]; rfl
        rw [hfound] at hrun1
        have hidle := idle_any (t.extract e xp) (by rw [extLS t e xp (by omega) (by omega)]; omega)
        rw [extL, p6, extLS t e xp (by omega) (by omega)] at hidle
        rw [show decide (xp - e = xp - e) = true by simp] at hidle
        obtain ⟨E, hE⟩ : ∃ E, t.extract e xp = E := ⟨_, rfl⟩
        rw [hE] at hidle hrun2
        have HID := Lib.hid hidle
        have HPL : Hid (Placed t.data.toList (xp + T.size) (L.drop (k + 1))) := Lib.hid (by rw [hzT]; exact p7)
        have hadd : ((xp + T.size : Nat) : Int) = (xp : Int) + (T.size : Int) := by omega
        have hxp9 : xp ≤ 900 := by omega
        have hz9 : T.size ≤ 900 := by omega
        clear hzT hfound hE hidle p1 p3 p4 p5 p6 p7
        clear hQq hQ hT hTs hadd
        go_wp2_with fail
        with_reducible refine (HID.out _).mono ?_
        rintro e1 w5 ⟨rfl, rfl⟩
        go_wp2_with fail
        go_roundw
        case rel => exact ⟨k + 1, xp + T.size, by omega, by go_num, by go_num, HPL.out, HB5.out.trans ((below_box _ _).mono HB5.out.size)⟩
        case measure => simp [intOf]; omega
      · have hzT : Q.size = (enc 2 xt).length := by rw [← sizeB, hQ]; rfl
        have hple : ¬ xp < e := by omega
        have hple2 : decide ((xp : Int) < (e : Int)) = false := by simp; omega
        have hsz2 : decide ((t.size : Int) - (Q.size : Int) < (xp : Int)) = false := by simp; omega
        have hone : decide ((Q.size : Int) < 1) = false := by simp; omega
        have hone2 : ¬ Q.size = 0 := by omega
        have hrun1 := slice_run t xp (xp + Q.size) (by omega) (by omega) (xp : Int) ((xp : Int) + (Q.size : Int)) rfl (by omega)
        have hrun2 := slice_run t e xp (by omega) (by omega) (e : Int) (xp : Int) rfl rfl
        have hfound : t.extract xp (xp + Q.size) = Q := by rw [ofList (extL t xp (xp + Q.size)), show xp + Q.size - xp = Q.size by omega, hzT, p5, ofList hQ]; rfl
        rw [hfound] at hrun1
        have hidle := idle_any (t.extract e xp) (by rw [extLS t e xp (by omega) (by omega)]; omega)
        rw [extL, p6, extLS t e xp (by omega) (by omega)] at hidle
        rw [show decide (xp - e = xp - e) = true by simp] at hidle
        obtain ⟨E, hE⟩ : ∃ E, t.extract e xp = E := ⟨_, rfl⟩
        rw [hE] at hidle hrun2
        have HID := Lib.hid hidle
        have HPL : Hid (Placed t.data.toList (xp + Q.size) (L.drop (k + 1))) := Lib.hid (by rw [hzT]; exact p7)
        have hadd : ((xp + Q.size : Nat) : Int) = (xp : Int) + (Q.size : Int) := by omega
        have hxp9 : xp ≤ 900 := by omega
        have hz9 : Q.size ≤ 900 := by omega
        clear hzT hfound hE hidle p1 p3 p4 p5 p6 p7
        have HESC := Lib.hid (fun W => escaped_any T hTs W)
        rw [hQq] at HESC
        clear hQq hQ hT hTs hadd
        go_wp2_with fail
        with_reducible refine (HESC.out _).mono ?_
        rintro e1 w5 ⟨rfl, rfl⟩
        go_wp2_with fail
        with_reducible refine (HESC.out _).mono ?_
        rintro e1 w5 ⟨rfl, rfl⟩
        go_wp2_with fail
        with_reducible refine (HID.out _).mono ?_
        rintro e1 w5 ⟨rfl, rfl⟩
        go_wp2_with fail
        go_roundw
        case rel => exact ⟨k + 1, xp + Q.size, by omega, by go_num, by go_num, HPL.out, HB5.out.trans ((below_box _ _).mono HB5.out.size)⟩
        case measure => simp [intOf]; omega
      · have hzT : T.size = (enc 3 xt).length := by rw [← sizeB, hT]; rfl
        have hple : ¬ xp < e := by omega
        have hple2 : decide ((xp : Int) < (e : Int)) = false := by simp; omega
        have hsz2 : decide ((t.size : Int) - (T.size : Int) < (xp : Int)) = false := by simp; omega
        have hone : decide ((T.size : Int) < 1) = false := by simp; omega
        have hone2 : ¬ T.size = 0 := by omega
        have hrun1 := slice_run t xp (xp + T.size) (by omega) (by omega) (xp : Int) ((xp : Int) + (T.size : Int)) rfl (by omega)
        have hrun2 := slice_run t e xp (by omega) (by omega) (e : Int) (xp : Int) rfl rfl
        have hfound : t.extract xp (xp + T.size) = T := by rw [ofList (extL t xp (xp + T.size)), show xp + T.size - xp = T.size by omega, hzT, p5, ofList hT]; rfl
        rw [hfound] at hrun1
        have hidle := idle_any (t.extract e xp) (by rw [extLS t e xp (by omega) (by omega)]; omega)
        rw [extL, p6, extLS t e xp (by omega) (by omega)] at hidle
        rw [show decide (xp - e = xp - e) = true by simp] at hidle
        obtain ⟨E, hE⟩ : ∃ E, t.extract e xp = E := ⟨_, rfl⟩
        rw [hE] at hidle hrun2
        have HID := Lib.hid hidle
        have HPL : Hid (Placed t.data.toList (xp + T.size) (L.drop (k + 1))) := Lib.hid (by rw [hzT]; exact p7)
        have hadd : ((xp + T.size : Nat) : Int) = (xp : Int) + (T.size : Int) := by omega
        have hxp9 : xp ≤ 900 := by omega
        have hz9 : T.size ≤ 900 := by omega
        clear hzT hfound hE hidle p1 p3 p4 p5 p6 p7
        clear hQq hQ hT hTs hadd
        go_wp2_with fail
        with_reducible refine (HID.out _).mono ?_
        rintro e1 w5 ⟨rfl, rfl⟩
        go_wp2_with fail
        go_roundw
        case rel => exact ⟨k + 1, xp + T.size, by omega, by go_num, by go_num, HPL.out, HB5.out.trans ((below_box _ _).mono HB5.out.size)⟩
        case measure => simp [intOf]; omega
    · have hd : L.drop k = [] := List.drop_of_length_le (by rw [HN.out]; omega)
      rw [hd] at hpl
      obtain ⟨p1, p2⟩ := placed_nil hpl
      rw [sizeB] at p1
      have hidle := idle_any (t.extract e t.size) (by rw [ext_endS t e p1]; omega)
      rw [ext_end, ext_endS t e p1] at hidle
      rw [show decide (skip false (t.data.toList.drop e) = t.size - e) = true by rw [p2, List.length_drop, sizeB]; simp] at hidle
      have hrun2 := slice_low t e p1
      obtain ⟨E, hE⟩ : ∃ E, t.extract e t.size = E := ⟨_, rfl⟩
      rw [hE] at hidle hrun2
      have HID := Lib.hid hidle
      clear hd hpl p1 p2 hidle hE
      go_wp2_with fail
      with_reducible refine (HID.out _).mono ?_
      rintro e1 w5 ⟨rfl, rfl⟩
      go_wp2_with fail
      go_ret
      exact ⟨rfl, HB2.out.trans (HB5.out.mono HB2.out.size)⟩
theorem LexerPlaces_any (s : ByteArray) (hs : s.size ≤ 9223372036854775807) (w : World) (he : Env w) : Calls Tryd.prog 5 #[.string s] w (Gives (.bool true) w) := by
  rcases h1 : sc false 0 (cutB s).data.toList with L | ⟨p, x⟩
  · exact places_ok s hs w he L h1
  · exact places_bad s hs w he p x h1
end Go.Proofs.YtagkdhcclkbjgaaDoor.Le
