/- The contracts of number, write, SameNums and SameTexts. -/
import Derived.Test.YtpcdogbioopdgaaDoorW
import Derived.Test.YtpcdogbioopdgaaDoorG
import Derived.Deep.QuietTactic
import Derived.BigQuiet
namespace Go.Proofs.YtpcdogbioopdgaaDoor
open Go.RowKit Go.Sort

def numOf (n : Int) : Int := if n < 0 then -(n + 1) else n
theorem numOf_bd {n : Int} (h : -9223372036854775808 ≤ n ∧ n ≤ 9223372036854775807) : 0 ≤ numOf n ∧ numOf n ≤ 9223372036854775807 := by
  unfold numOf; split <;> omega
theorem number_law (n : Int) (h : -9223372036854775808 ≤ n ∧ n ≤ 9223372036854775807) (w : World) :
    Calls Tryd.prog 57 #[.int .i64 n] w (Gives (.int .i64 (numOf n)) w) := by
  by_cases hn : n < 0
  · have HK : Hid (numOf n = -(n + 1)) := by unfold Hid numOf; rw [if_pos hn]
    go_enter Tryd.func57, Tryd.ntmps57
    go_wp2
    go_ret
    exact ⟨by rw [HK.out]; rfl, Below.refl _ _⟩
  · have HK : Hid (numOf n = n) := by unfold Hid numOf; rw [if_neg hn]
    go_enter Tryd.func57, Tryd.ntmps57
    go_wp2
    go_ret
    exact ⟨by rw [HK.out]; rfl, Below.refl _ _⟩

def V.enc (v : V) : List UInt8 :=
  if kindOf v.kd = 0 then encInt (numOf v.nn) else if kindOf v.kd = 1 then encInt v.nn else if kindOf v.kd = 2 then encText v.s.data.toList
  else if kindOf v.kd = 3 then encNums v.l else encTexts v.t
abbrev V.val (v : V) : Value := .agg #[.int .i64 v.kd, .int .i64 v.nn, .string v.s, .slice v.la v.l.length v.lc, .slice v.ta v.t.length v.tc]

theorem weight_bounds {v : V} (h : v.weight ≤ 400) : v.s.size ≤ 400 ∧ v.l.length ≤ 100000 ∧ v.t.length ≤ 100000 ∧ (400 + 24) * v.t.length ≤ 50000000 ∧ ∀ z ∈ v.t, z.size ≤ 400 := by
  simp [V.weight] at h
  exact ⟨by omega, by omega, by omega, by omega, fun z hz => by have := sizes_mem hz; omega⟩

set_option maxRecDepth 100000 in
set_option maxHeartbeats 4000000 in
theorem write_any (v : V) (w : World) (he : Env w) (hv : VOk w v) (hw : v.weight ≤ 400) :
    Calls Tryd.prog 42 #[.agg #[.int .i64 v.kd, .int .i64 v.nn, .string v.s, .slice v.la v.l.length v.lc, .slice v.ta v.t.length v.tc]] w (Gives (.string ⟨v.enc.toArray⟩) w) := by
  have hq := Lib.hid (weight_bounds hw)
  have hss := hq.out.1
  have hz := he.size
  have hkb := hv.kb
  have hnb := hv.nb
  have HV := Lib.hid hv
  have HE := Lib.hid he
  have hkk := kindOf_bd v.kd
  have hnn := numOf_bd hv.nb
  clear hv he
  obtain ⟨K, hK⟩ : ∃ K, K = kindOf v.kd := ⟨_, rfl⟩
  rw [← hK] at hkk
  have HK := Lib.hid hK
  clear hK
  have h5 : K = 0 ∨ K = 1 ∨ K = 2 ∨ K = 3 ∨ K = 4 := by omega
  rcases h5 with h | h | h | h | h
  all_goals
    have HK2 := Lib.hid h
    subst h
    go_enter Tryd.func42, Tryd.ntmps42
    go_wp2_with fail
    refine (kind_any v.kd _ _ _ _ hkb _).mono ?_
    rintro e w1 ⟨rfl, b1⟩
    have B1 : RowKit.Below w.heap.size w w1 := ((Below.refl w.heap.size w).alloc (Nat.le_refl _) _).trans (b1.mono (by simp))
    have c1 : w1.cell? ⟨w.heap.size, 1, none⟩ = some (.int .i64 v.nn) := cell_later (by simp) b1
    have c2 : w1.cell? ⟨w.heap.size, 2, none⟩ = some (.string v.s) := cell_later (by simp) b1
    have c3 : w1.cell? ⟨w.heap.size, 3, none⟩ = some (.slice v.la v.l.length v.lc) := cell_later (by simp) b1
    have c4 : w1.cell? ⟨w.heap.size, 4, none⟩ = some (.slice v.ta v.t.length v.tc) := cell_later (by simp) b1
    rw [← HK.out]
    go_wp2_with fail
  · refine (number_law v.nn hnb _).mono ?_
    rintro e w2 ⟨rfl, b2⟩
    go_wp2_with fail
    refine (num_any _ hnn.1 hnn.2 _ (HE.out.below (B1.trans (b2.mono B1.size)) hz)).mono ?_
    rintro e w3 ⟨rfl, b3⟩
    go_wp2_with fail
    go_ret
    exact ⟨by simp only [V.enc, ← HK.out, if_true]; rfl, B1.trans ((b2.trans (b3.mono b2.size)).mono B1.size)⟩
  · refine (int_any _ hnb.1 hnb.2 _ (HE.out.below B1 hz)).mono ?_
    rintro e w3 ⟨rfl, b3⟩
    go_wp2_with fail
    go_ret
    exact ⟨by simp only [V.enc, ← HK.out]; rfl, B1.trans (b3.mono B1.size)⟩
  · refine (text_any _ (by omega) _ (HE.out.below B1 hz)).mono ?_
    rintro e w3 ⟨rfl, b3⟩
    go_wp2_with fail
    go_ret
    exact ⟨by simp only [V.enc, ← HK.out]; rfl, B1.trans (b3.mono B1.size)⟩
  · refine (nums_any _ _ _ hq.out.2.1 _ (HE.out.below B1 hz) (HV.out.later B1).lc HV.out.lok).mono ?_
    rintro e w3 ⟨rfl, b3⟩
    go_wp2_with fail
    go_ret
    exact ⟨by simp only [V.enc, ← HK.out]; rfl, B1.trans (b3.mono B1.size)⟩
  · refine (texts_any _ _ _ 400 hq.out.2.2.1 (by omega) hq.out.2.2.2.1 _ (HE.out.below B1 hz) (HV.out.later B1).tc hq.out.2.2.2.2).mono ?_
    rintro e w3 ⟨rfl, b3⟩
    go_wp2_with fail
    go_ret
    exact ⟨by simp only [V.enc, ← HK.out]; rfl, B1.trans (b3.mono B1.size)⟩

set_option maxRecDepth 100000 in
set_option maxHeartbeats 4000000 in
theorem sameNums (a a' : Option Addr) (cap cap' : Nat) (zs : List Int) (hl : zs.length ≤ 100000) (w : World) (h : IntCells w a zs) (h' : IntCells w a' zs) :
    Calls Tryd.prog 30 #[.slice a zs.length cap, .slice a' zs.length cap'] w (Gives (.bool true) w) := by
  by_cases h0 : zs.length = 0
  · go_enter Tryd.func30, Tryd.ntmps30
    go_wp2_with fail
    go_loopw [5] (fun i wr => i = .int .i64 0 ∧ wr = w) (fun _ _ => 0)
    case atStart => exact ⟨rfl, rfl⟩
    case round =>
      obtain ⟨rfl, rfl⟩ := hrel
      go_wp2_with fail
      go_ret
      exact ⟨rfl, Below.refl _ _⟩
  · have hne : zs ≠ [] := fun e => h0 (by rw [e]; rfl)
    obtain ⟨b, o, rfl, hc⟩ := h.resolve_left hne
    obtain ⟨b', o', rfl, hc'⟩ := h'.resolve_left hne
    clear h h' h0 hne
    go_enter Tryd.func30, Tryd.ntmps30
    go_wp2_with fail
    go_loopw [5] (fun i wr => ∃ k : Nat, k ≤ zs.length ∧ i = .int .i64 k ∧ RowKit.Below w.heap.size w wr) (fun i _ => zs.length - (RowKit.intOf i).toNat)
    case atStart => exact ⟨0, by omega, rfl, Below.refl _ _⟩
    case round =>
      obtain ⟨k, hk, rfl, hb⟩ := hrel
      by_cases hlt : k < zs.length
      · have f1 := cell_later (hc k hlt) hb
        have f2 := cell_later (hc' k hlt) hb
        clear hc hc'
        obtain ⟨z, hzz⟩ : ∃ z, z = zs.getD k 0 := ⟨_, rfl⟩
        rw [← hzz] at f1 f2
        clear hzz
        go_wp2_with fail
        go_quiet (fail)
        go_wp2_with fail
        go_roundw
        case rel => exact ⟨k + 1, by omega, by go_num, below_drewN hb _⟩
        case measure => simp [RowKit.intOf]; omega
      · go_wp2_with fail
        go_ret
        exact ⟨rfl, hb⟩
end Go.Proofs.YtpcdogbioopdgaaDoor
