/- The contract of equal, where what the reader reads next is the value. -/
import Derived.Test.YtpcdogbioopdgaaDoorQ
import Derived.Deep.RegionHeld3
namespace Go.Proofs.YtpcdogbioopdgaaDoor
open Go.RowKit Go.Sort

theorem ReadsL.some' {b : Nat} {p : Option (List Int × List UInt8)} {w : World} {e : Ending} {w' : World} (h : ReadsL b p w e w') {l : List Int} {r : List UInt8} (hp : p = some (l, r)) :
    w.grownBy w' (some b) ∧ ∃ a cap, e = .returned (.slice a l.length cap) ∧ IntCells w' a l ∧ IsR b r false w' := by subst hp; exact h
theorem ReadsT.some' {b : Nat} {p : Option (List ByteArray × List UInt8)} {w : World} {e : Ending} {w' : World} (h : ReadsT b p w e w') {l : List ByteArray} {r : List UInt8} (hp : p = some (l, r)) :
    w.grownBy w' (some b) ∧ ∃ a cap, e = .returned (.slice a l.length cap) ∧ StrCells w' a l ∧ IsR b r false w' := by subst hp; exact h
theorem number_same (n : Int) (h : -9223372036854775808 ≤ n ∧ n ≤ 9223372036854775807) (w : World) :
    Calls Tryd.prog 57 #[.int .i64 n] w fun e w' => e = .returned (.int .i64 (numOf n)) ∧ w = w' := by
  by_cases hn : n < 0
  · have HK : Hid (numOf n = -(n + 1)) := by unfold Hid numOf; rw [if_pos hn]
    go_enter Tryd.func57, Tryd.ntmps57
    go_wp2
    go_ret
    exact ⟨by rw [HK.out]; rfl, rfl⟩
  · have HK : Hid (numOf n = n) := by unfold Hid numOf; rw [if_neg hn]
    go_enter Tryd.func57, Tryd.ntmps57
    go_wp2
    go_ret
    exact ⟨by rw [HK.out]; rfl, rfl⟩
/-- The reader has read the value: equal returns true, and rest is left. -/
def EqYes (W0 : World) (b : Nat) (rest : List UInt8) (w : World) (e : Ending) (w' : World) : Prop :=
  e = .returned (.bool true) ∧ Old W0 w' ∧ w.grownBy w' (some b) ∧ IsR b rest false w'

set_option maxRecDepth 100000 in
set_option maxHeartbeats 8000000 in
theorem equal_any (W0 : World) (b : Nat) (v : V) (rest : List UInt8) (w : World) (he : Env w) (hv : VOk W0 v) (hw : v.weight ≤ 400) (hO : Old W0 w) (hb : W0.heap.size ≤ b) (hz : 6 ≤ W0.heap.size)
    (hR : IsR b (v.enc ++ rest) false w) (hlen : (v.enc ++ rest).length ≤ 100000000) :
    Calls Tryd.prog 43 #[.pointer (some ⟨b, 0, none⟩), .agg #[.int .i64 v.kd, .int .i64 v.nn, .string v.s, .slice v.la v.l.length v.lc, .slice v.ta v.t.length v.tc]] w (EqYes W0 b rest w) := by
  have hq := Lib.hid (weight_bounds hw)
  have hss := hq.out.1
  have hkb := hv.kb
  have hnb := hv.nb
  have HV := Lib.hid hv
  have HE := Lib.hid he
  have HR := Lib.hid hR
  have hblt := hR.lt
  have hkk := kindOf_bd v.kd
  have hnn := numOf_bd hv.nb
  clear hv he hR
  obtain ⟨K, hK⟩ : ∃ K, K = kindOf v.kd := ⟨_, rfl⟩
  rw [← hK] at hkk
  have HK := Lib.hid hK
  clear hK
  have h5 : K = 0 ∨ K = 1 ∨ K = 2 ∨ K = 3 ∨ K = 4 := by omega
  rcases h5 with h | h | h | h | h
  all_goals
    subst h
    go_enter Tryd.func43, Tryd.ntmps43
    go_wp2_with fail
    refine (kind_any v.kd _ _ _ _ hkb _).mono ?_
    rintro e w1 ⟨rfl, b1⟩
    have B1 : RowKit.Below w.heap.size w w1 := ((Below.refl w.heap.size w).alloc (Nat.le_refl _) _).trans (b1.mono (by simp))
    have c1 : w1.cell? ⟨w.heap.size, 1, none⟩ = some (.int .i64 v.nn) := cell_later (by simp) b1
    have c2 : w1.cell? ⟨w.heap.size, 2, none⟩ = some (.string v.s) := cell_later (by simp) b1
    have c3 : w1.cell? ⟨w.heap.size, 3, none⟩ = some (.slice v.la v.l.length v.lc) := cell_later (by simp) b1
    have c4 : w1.cell? ⟨w.heap.size, 4, none⟩ = some (.slice v.ta v.t.length v.tc) := cell_later (by simp) b1
    have hbne : w.heap.size ≠ b := by omega
    have R1 := Lib.hid (HR.out.later B1)
    have E1 := Lib.hid (HE.out.below B1 (Nat.le_trans hz hO.size))
    have R2 : Hid (IsR b (v.enc ++ rest) false w1.drew) := R1.out
    have E2 : Hid (Env w1.drew) := E1.out.below (RowKit.Below.drew (Below.refl w1.heap.size w1)) E1.out.size
    have O1 := hO.step B1
    clear b1
    rw [← HK.out]
    go_wp2_with fail
  · have hp := pNum_encInt (numOf v.nn) hnn.1 hnn.2 rest
    have he : v.enc = encInt (numOf v.nn) := by simp only [V.enc, ← HK.out, if_true]
    rw [← he] at hp
    have HP := Lib.hid hp
    clear hp he
    go_region_held3 (fun w' => w'.cell? ⟨w.heap.size, 1, none⟩ = some (.int .i64 v.nn) ∧ True ∧ Old W0 w') (first | exact ⟨c1, trivial, RowKit.Below.drew O1⟩ | assumption | exact keepOn (by assumption) hbne hb (by assumption) | exact keepBelow (by assumption) (by assumption))
      (first
       | (go_at_call 24; refine (rnum_any b _ false hlen _ R2.out E2.out).mono ?_; rintro e w' hr; obtain ⟨ho, he2, hi⟩ := Reads.some' hr HP.out; subst he2; clear hr)
       | (go_at_call 57; refine (number_same v.nn hnb _).mono ?_; rintro e w' ⟨rfl, rfl⟩))
    all_goals
      go_wp2_with fail
      go_ret
      exact ⟨rfl, oldOf (by assumption), on_trans (on_below (RowKit.Below.drew B1)) (by assumption), (by assumption)⟩
  · have hp := pInt_encInt v.nn hnb rest
    have he : v.enc = encInt v.nn := by simp only [V.enc, ← HK.out]; rfl
    rw [← he] at hp
    have HP := Lib.hid hp
    clear hp he
    go_region_held3 (fun w' => w'.cell? ⟨w.heap.size, 1, none⟩ = some (.int .i64 v.nn) ∧ True ∧ Old W0 w') (first | exact ⟨c1, trivial, RowKit.Below.drew O1⟩ | assumption | exact keepOn (by assumption) hbne hb (by assumption) | exact keepBelow (by assumption) (by assumption))
      (first
       | (go_at_call 26; refine (rint_any b _ false hlen _ R2.out E2.out).mono ?_; rintro e w' hr; obtain ⟨ho, he2, hi⟩ := Reads.some' hr HP.out; subst he2; clear hr))
    all_goals
      go_wp2_with fail
      go_ret
      exact ⟨rfl, oldOf (by assumption), on_trans (on_below (RowKit.Below.drew B1)) (by assumption), (by assumption)⟩
  · have hp := pText_enc v.s HV.out.sb rest
    have he : v.enc = encText v.s.data.toList := by simp only [V.enc, ← HK.out]; rfl
    rw [← he] at hp
    have HP := Lib.hid hp
    clear hp he
    go_region_held3 (fun w' => w'.cell? ⟨w.heap.size, 2, none⟩ = some (.string v.s) ∧ True ∧ Old W0 w') (first | exact ⟨c2, trivial, RowKit.Below.drew O1⟩ | assumption | exact keepOn (by assumption) hbne hb (by assumption) | exact keepBelow (by assumption) (by assumption))
      (first
       | (go_at_call 28; refine (rtext_any b _ false hlen _ R2.out E2.out).mono ?_; rintro e w' hr; obtain ⟨ho, he2, hi⟩ := Reads.some' hr HP.out; subst he2; clear hr))
    all_goals
      go_wp2_with fail
      go_ret
      exact ⟨rfl, oldOf (by assumption), on_trans (on_below (RowKit.Below.drew B1)) (by assumption), (by assumption)⟩
  · have hp := pNums_enc v.l HV.out.lb HV.out.lok rest
    have he : v.enc = encNums v.l := by simp only [V.enc, ← HK.out]; rfl
    rw [← he] at hp
    have HP := Lib.hid hp
    have hl5 := hq.out.2.1
    clear hp he
    go_region_held3 (fun w' => w'.cell? ⟨w.heap.size, 3, none⟩ = some (.slice v.la v.l.length v.lc) ∧ True ∧ Old W0 w') (first | exact ⟨c3, trivial, RowKit.Below.drew O1⟩ | assumption | exact keepOn (by assumption) hbne hb (by assumption) | exact keepBelow (by assumption) (by assumption))
      (first
       | (go_at_call 31; refine (rnums_any b _ hlen _ R2.out E2.out (Nat.le_trans hz hb)).mono ?_; rintro e w' hr; obtain ⟨ho, a, cap, he2, hc, hi⟩ := ReadsL.some' hr HP.out; subst he2; clear hr)
       | (go_at_call 30; refine (sameNums _ _ _ _ v.l hl5 _ (by assumption) (HV.out.later (oldOf (by assumption))).lc).mono ?_; rintro e w' ⟨rfl, hb3⟩))
    all_goals
      go_wp2_with fail
      go_ret
      exact ⟨rfl, oldOf (by assumption), on_trans (on_trans (on_below (RowKit.Below.drew B1)) (by assumption)) (on_below (by assumption)), IsR.later (by assumption) (by assumption)⟩
  · have hp := pTexts_enc v.t HV.out.tb HV.out.tsb rest
    have he : v.enc = encTexts v.t := by simp only [V.enc, ← HK.out]; rfl
    rw [← he] at hp
    have HP := Lib.hid hp
    have hl5 := hq.out.2.2.1
    clear hp he
    go_region_held3 (fun w' => w'.cell? ⟨w.heap.size, 4, none⟩ = some (.slice v.ta v.t.length v.tc) ∧ True ∧ Old W0 w') (first | exact ⟨c4, trivial, RowKit.Below.drew O1⟩ | assumption | exact keepOn (by assumption) hbne hb (by assumption) | exact keepBelow (by assumption) (by assumption))
      (first
       | (go_at_call 34; refine (rtexts_any b _ hlen _ R2.out E2.out (Nat.le_trans hz hb)).mono ?_; rintro e w' hr; obtain ⟨ho, a, cap, he2, hc, hi⟩ := ReadsT.some' hr HP.out; subst he2; clear hr)
       | (go_at_call 33; refine (sameTexts _ _ _ _ v.t hl5 _ (by assumption) (HV.out.later (oldOf (by assumption))).tc).mono ?_; rintro e w' ⟨rfl, hb3⟩))
    all_goals
      go_wp2_with fail
      go_ret
      exact ⟨rfl, oldOf (by assumption), on_trans (on_trans (on_below (RowKit.Below.drew B1)) (by assumption)) (on_below (by assumption)), IsR.later (by assumption) (by assumption)⟩
end Go.Proofs.YtpcdogbioopdgaaDoor
