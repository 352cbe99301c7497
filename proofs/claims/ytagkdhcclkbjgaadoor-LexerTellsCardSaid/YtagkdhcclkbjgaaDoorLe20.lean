/- The contract of cut; what laws want of tokens. -/
import Derived.Test.YtagkdhcclkbjgaaDoorLe19
set_option maxRecDepth 100000
namespace Go.Proofs.YtagkdhcclkbjgaaDoor.Le
open Go.RowKit

theorem maxLen_eq : maxLen = 9223372036854775807 := rfl
def cutB (s : ByteArray) : ByteArray := s.extract 0 (min s.size 900)
theorem cutB_list (s : ByteArray) : (cutB s).data.toList = s.data.toList.take 900 := by
  unfold cutB
  rw [extB]
  show s.data.toList.take (min s.size 900) = _
  rw [← sizeB, ← List.take_take]
  exact List.take_of_length_le (by rw [List.length_take]; omega)
theorem cutB_size (s : ByteArray) : (cutB s).size ≤ 900 := by
  rw [← sizeB, cutB_list, List.length_take]; omega
set_option maxHeartbeats 1000000 in
theorem cut_any (s : ByteArray) (hs : s.size ≤ 9223372036854775807) (w : World) : Calls Tryd.prog 10 #[.string s] w fun e w' => e = .returned (.string (cutB s)) ∧ w' = w := by
  have hrun : ∀ W : World, (Instr.slice 9 (.string s) none (some (.int .i64 (min (s.size : Int) 900))) none).run Tryd.prog W = .ok (.string (cutB s)) W := by
    intro W
    rw [run_slice_string_h (w := W) (t := 9) (s := s) Tryd.underlying9 .i64 (min (s.size : Int) 900) (by omega) (by omega)]
    unfold cutB
    congr 3; omega
  go_enter Tryd.func10, Tryd.ntmps10
  go_wp2_with fail
  go_ret
  exact ⟨rfl, rfl⟩

theorem okT_len (k : Int) (t : List UInt8) : t.length ≤ (enc k t).length := by
  unfold enc
  split
  · rw [quo_len]
    have : ∀ l : List UInt8, l.length ≤ (esc l).length := by
      intro l
      induction l with
      | nil => simp
      | cons c l ih => simp only [esc]; split <;> simp <;> omega
    have := this t; omega
  · exact Nat.le_refl _
theorem withB_mem : ∀ (L : List Tok) (x : Tok), x ∈ L → (enc x.kind x.text).length + 1 ≤ (withB L).length
  | y :: L, x, h => by
    simp only [withB, List.flatMap_cons, List.length_append, List.length_cons]
    rcases List.mem_cons.1 h with rfl | h
    · omega
    · have := withB_mem L x h
      simp only [withB] at this; omega
/-- The tokens of a text of at most 900 bytes. -/
theorem few_of {l : List UInt8} {L : List Tok} (hl : l.length ≤ 900) (h : sc false 0 l = .ok L) : (∀ x ∈ L, okT x.kind x.text x.n) ∧ (printL L).length ≤ 1800 ∧ L.length ≤ 900 ∧ FewT (L.map Tok.tk) := by
  have h1 := sc_okR l.length false 0 l (Nat.le_refl _)
  rw [h] at h1
  obtain ⟨h2, h3, h4⟩ := h1
  have h5 := printL_le L
  refine ⟨h2, by omega, by omega, by rw [List.length_map]; omega, ?_⟩
  intro x hx
  obtain ⟨y, hy, rfl⟩ := List.mem_map.1 hx
  have h6 := withB_mem L y hy
  have h7 := okT_len y.kind y.text
  show (⟨y.text.toArray⟩ : ByteArray).size ≤ 2000
  rw [← sizeB]; show y.text.length ≤ 2000; omega
theorem few_plc {L : List Tok} {p : Nat} (h : FewT (L.map Tok.tk)) : FewT ((plc p L).map Tok.tk) := by
  obtain ⟨h1, h2⟩ := h
  refine ⟨by rw [List.length_map, plc_len]; rwa [List.length_map] at h1, ?_⟩
  intro x hx
  obtain ⟨y, hy, rfl⟩ := List.mem_map.1 hx
  obtain ⟨i, hi, rfl⟩ := List.getElem_of_mem hy
  have hiL : i < L.length := by rwa [plc_len] at hi
  have e := (plc_get L p i hiL hi).2.1
  have := h2 (L[i]).tk (List.mem_map.2 ⟨_, List.getElem_mem _, rfl⟩)
  simp only [Tok.tk] at this ⊢
  rw [e]; exact this
theorem like_plc (L : List Tok) (p : Nat) : LikeT (L.map Tok.tk) ((plc p L).map Tok.tk) := by
  refine ⟨by simp [plc_len], fun i h h2 => ?_⟩
  have hi : i < L.length := by simpa using h
  obtain ⟨a, b, c⟩ := plc_get L p i hi (by rw [plc_len]; exact hi)
  simp [Tok.tk, a, b, c]

set_option maxHeartbeats 4000000 in
theorem LexerBack_any (s : ByteArray) (hs : s.size ≤ 9223372036854775807) (w : World) (he : Env w) : Calls Tryd.prog 4 #[.string s] w (Gives (.bool true) w) := by
  have HE := Lib.hid he
  have HC := Lib.hid (cut_any s hs)
  have hcs := cutB_size s
  obtain ⟨t, ht⟩ : ∃ t, cutB s = t := ⟨_, rfl⟩
  rw [ht] at HC hcs
  clear ht he
  have hts : t.data.toList.length ≤ 900 := by rw [sizeB]; exact hcs
  rcases hsc : sc false 0 t.data.toList with L | ⟨p, x⟩
  · obtain ⟨h1, h2, h3, h4⟩ := few_of hts hsc
    have HS := Lib.hid (scan_ok t _ L rfl (by omega) hsc)
    have hpr := sc_print L 0 h1
    obtain ⟨P, hP⟩ : ∃ P : ByteArray, (⟨(printL L).toArray⟩ : ByteArray) = P := ⟨_, rfl⟩
    have hPl : P.data.toList = printL L := by rw [← hP]
    have HS2 := Lib.hid (scan_ok P _ (plc 0 L) hPl (by rw [← sizeB, hPl]; omega) hpr)
    have HPR : Hid (∀ (a : Option Addr) (cap : Nat) (W : World), TCells W a (L.map Tok.tk) → Calls Tryd.prog 20 #[.slice a L.length cap] W (Gives (.string P) W)) := Lib.hid (by
      intro a cap W hT
      have := print_any a cap (L.map Tok.tk) h4 W hT
      rwa [List.length_map, printK_tk, hP] at this)
    have HPR2 : Hid (∀ (a : Option Addr) (cap : Nat) (W : World), TCells W a ((plc 0 L).map Tok.tk) → Calls Tryd.prog 20 #[.slice a (plc 0 L).length cap] W (Gives (.string P) W)) := Lib.hid (by
      intro a cap W hT
      have := print_any a cap ((plc 0 L).map Tok.tk) (few_plc h4) W hT
      rwa [List.length_map, printK_tk, plc_printL, hP] at this)
    have HLK : Hid (∀ (a b : Option Addr) (ca cb : Nat) (W : World), TCells W a (L.map Tok.tk) → TCells W b ((plc 0 L).map Tok.tk) → Calls Tryd.prog 22 #[.slice a L.length ca, .slice b (plc 0 L).length cb] W (Drew (.bool true) W)) := Lib.hid (by
      intro a b ca cb W hA hB
      have := like_any a b ca cb (L.map Tok.tk) ((plc 0 L).map Tok.tk) h4.1 (like_plc L 0) W hA hB
      rwa [List.length_map, List.length_map] at this)
    obtain ⟨N, hN⟩ : ∃ N, L.length = N := ⟨_, rfl⟩
    have hN2 : (plc 0 L).length = N := by rw [plc_len]; exact hN
    rw [hN] at HS HPR HLK
    rw [hN2] at HS2 HPR2 HLK
    clear hsc h1 h2 h3 h4 hpr hP hPl hN hN2 hts
    go_enter Tryd.func4, Tryd.ntmps4
    go_wp2_with fail
    refine (sane_any _ HE.out).mono ?_
    rintro e w1 ⟨rfl, hb⟩
    have HB1 := Lib.hid hb
    clear hb
    go_wp2_with fail
    refine (HC.out _).mono ?_
    rintro e w1 ⟨rfl, rfl⟩
    go_wp2_with fail
    refine (HS.out _ (HE.out.below HB1.out)).mono ?_
    rintro e w2 ⟨a2, c2, rfl, ht, hb⟩
    have HT2 := Lib.hid ht
    have HB2 := Lib.hid (HB1.out.trans (hb.mono HB1.out.size))
    clear hb ht
    go_wp2_with fail
    refine (HPR.out _ _ _ HT2.out).mono ?_
    rintro e w3 ⟨rfl, hb⟩
    have HT3 := Lib.hid (HT2.out.later hb)
    have HB3 := Lib.hid (HB2.out.trans (hb.mono HB2.out.size))
    clear hb
    go_wp2_with fail
    refine (HS2.out _ (HE.out.below HB3.out)).mono ?_
    rintro e w4 ⟨a4, c4, rfl, ht, hb⟩
    have HT4 := Lib.hid (HT3.out.later hb)
    have HU4 := Lib.hid ht
    have HB4 := Lib.hid (HB3.out.trans (hb.mono HB3.out.size))
    clear hb ht
    go_wp2_with fail
    refine (HLK.out _ _ _ _ _ HT4.out HU4.out).mono ?_
    rintro e w5 ⟨rfl, n5, rfl⟩
    have HU5 := Lib.hid (HU4.out.drewN n5)
    have HB5 := Lib.hid (below_drewN HB4.out n5)
    go_wp2_with fail
    refine (HPR2.out _ _ _ HU5.out).mono ?_
    rintro e w6 ⟨rfl, hb⟩
    have HB6 := Lib.hid (HB5.out.trans (hb.mono HB5.out.size))
    clear hb
    go_wp2_with fail
    go_ret
    exact ⟨rfl, HB6.out⟩
  · have hx : x = 10 ∨ x = 3 ∨ x = 2 := by
      have := sc_errs t.data.toList.length false 0 t.data.toList (Nat.le_refl _)
      rw [hsc] at this; exact this.2.2.2.2
    have hx0 : (x != 0) = true := by simp; omega
    have hx1 : (x == 0) = false := by simp; omega
    have HS := Lib.hid (scan_bad t _ p x rfl (by omega) hsc)
    clear hsc hx hts
    go_enter Tryd.func4, Tryd.ntmps4
    go_wp2_with fail
    refine (sane_any _ HE.out).mono ?_
    rintro e w1 ⟨rfl, hb⟩
    have HB1 := Lib.hid hb
    clear hb
    go_wp2_with fail
    refine (HC.out _).mono ?_
    rintro e w1 ⟨rfl, rfl⟩
    go_wp2_with fail
    refine (HS.out _ (HE.out.below HB1.out)).mono ?_
    rintro e w2 ⟨rfl, hb⟩
    have HB2 := Lib.hid (HB1.out.trans (hb.mono HB1.out.size))
    clear hb
    go_wp2_with fail
    go_ret
    exact ⟨rfl, HB2.out⟩
end Go.Proofs.YtagkdhcclkbjgaaDoor.Le
