/- The contracts of Sync and Truncate. -/
import Derived.Test.YtkphmkhdlkdphaaG3
namespace Go.Proofs.Ytkphmkhdlkdphaa
open Go.RowKit Go.ChangeShapes Go.WideShapes
attribute [local go_sem ↓] Go.wp_at_zero Go.wp_at_succ

theorem goes_b {S : Nat → Prop} {p : Rep} {st : St} {w : World} (h : IsD S p st w) {b : Bool} (hb : (goes st).down = b) :
    Calls Try.prog 44 #[.pointer (some ⟨p.r, 0, none⟩)] w fun e w' => e = .returned (.bool b) ∧ Af S p.r (goes st) w w' := by
  rw [← hb]; exact goes_any h
theorem isF_tf {f : Int} (h : ¬ isF f = false) : isF f = true := by simpa using h
theorem settle_full {S : Nat → Prop} {p : Rep} {st : St} {w : World} (h : IsD S p st w) (f : Int) (hf : isF f = true) :
    Calls Try.prog 46 #[.pointer (some ⟨p.r, 0, none⟩), .int .i64 f] w fun e w' => e = .returned (.tuple #[]) ∧ Af S p.r (settle st f) w w' :=
  (settle_any h.core f hf h.wf.qlen (h.wf.len f) (fun s hs => ⟨(h.wf.q s hs).1, by have := (h.wf.q s hs).2; have := h.wf.len s.1; omega⟩) h.wf.nd).mono fun e w' ⟨he, p', hr, hc, hb⟩ => ⟨he, ⟨p', hr, hc.full (settle_wf h.wf hf)⟩, hb⟩

set_option maxHeartbeats 1000000 in
theorem sync_any {S : Nat → Prop} {p : Rep} {st : St} {w : World} (h : IsD S p st w) (f : Int) (_hf : -9223372036854775808 ≤ f ∧ f ≤ 9223372036854775807) :
    Calls Try.prog 19 #[.pointer (some ⟨p.r, 0, none⟩), .int .i64 f] w fun e w' => e = .returned (.int .i64 (syncR st f)) ∧ Af S p.r (sync st f) w w' := by
  by_cases hd : (goes st).down = true
  · have HG := Lib.hid (goes_b h hd)
    have HR : Hid (syncR st f = 8) := by unfold Hid syncR; rw [if_pos hd]
    have HS : Hid (sync st f = goes st) := by unfold Hid sync; rw [if_pos (.inl hd)]
    clear h hd
    go_enter Try.func19, Try.ntmps19
    go_wp2_with fail
    refine HG.out.mono ?_
    rintro e w1 ⟨rfl, haf⟩
    have HAF := Lib.hid haf
    clear haf
    go_wp2_with fail
    go_ret
    rw [HR.out, HS.out]
    exact ⟨rfl, HAF.out⟩
  · have hd' : (goes st).down = false := by simpa using hd
    have HG := Lib.hid (goes_b h hd')
    by_cases h1 : isF f = false
    · have HR : Hid (syncR st f = 1) := by unfold Hid syncR; rw [if_neg hd, if_pos h1]
      have HS : Hid (sync st f = goes st) := by unfold Hid sync; rw [if_pos (.inr h1)]
      have HF := Lib.hid h1
      clear h hd hd' h1
      go_enter Try.func19, Try.ntmps19
      go_wp2_with fail
      refine HG.out.mono ?_
      rintro e w1 ⟨rfl, haf⟩
      have HAF := Lib.hid haf
      clear haf
      go_wp2_with (go_at_call 45; refine (isFile_f f HF.out _).mono ?_; rintro e w' ⟨rfl, rfl⟩)
      go_ret
      rw [HR.out, HS.out]
      exact ⟨rfl, HAF.out⟩
    · have HF := Lib.hid (isF_tf h1)
      have hno : ¬ ((goes st).down = true ∨ isF f = false) := fun e => e.elim hd h1
      by_cases h2 : (goes st).lost > 0
      · have HR : Hid (syncR st f = 9) := by unfold Hid syncR; rw [if_neg hd, if_neg h1, if_pos h2]
        have HS : Hid (sync st f = { goes st with lost := (goes st).lost - 1 }) := by unfold Hid sync; rw [if_neg hno, if_pos h2]
        have HW : Hid (WF (sync st f)) := sync_wf h.wf f
        have HLB : Hid (0 ≤ (goes st).lost ∧ (goes st).lost ≤ 9223372036854775807) := (goes_wf h.wf).lost
        obtain ⟨n, hn⟩ : ∃ n, (goes st).lost = n := ⟨_, rfl⟩
        have HN := Lib.hid hn
        rw [hn] at h2
        clear h hd hd' h1 hno hn
        go_enter Try.func19, Try.ntmps19
        go_wp2_with fail
        refine HG.out.mono ?_
        rintro e w1 ⟨rfl, haf⟩
        have HAF := Lib.hid haf
        clear haf
        obtain ⟨⟨p1, hp1, hd1⟩, hb1⟩ := HAF.out
        have c5 := hd1.cell.2.2.2.2.2.1
        have f5 := hd1.froz 5
        rw [hp1] at c5 f5
        rw [HN.out] at c5
        have hlb := HLB.out
        rw [HN.out] at hlb
        have HFIN : Hid (Af S p.r (sync st f) w (w1.setCell ⟨p.r, 5, none⟩ (.int .i64 (n - 1)))) := by
          refine HAF.out.trans ?_
          have hw := HW.out
          rw [HS.out] at hw ⊢
          have := hd1.stepR (p' := p1) (st' := { goes st with lost := (goes st).lost - 1 }) rfl (grownBy_setCell' w1 p1.r 5 (.int .i64 (n - 1))) (by have := Lib.heap_setCell_same (i := 5) (hd1.holds .r) (.int .i64 (n - 1)); rw [← HN.out] at this ⊢; exact this) (fun s hs => ⟨fun hh => by cases s <;> first | exact hh | exact absurd rfl hs, rfl⟩) hw
          rw [hp1] at this
          exact ⟨⟨p1, hp1, this.1⟩, this.2⟩
        have HB := Lib.hid hb1
        clear hd1 hb1 hp1
        go_wp2_with (go_at_call 45; refine (isFile_t f HF.out _).mono ?_; rintro e w' ⟨rfl, rfl⟩)
        go_ret
        rw [HR.out]
        exact ⟨rfl, HFIN.out⟩
      · have HR : Hid (syncR st f = 0) := by unfold Hid syncR; rw [if_neg hd, if_neg h1, if_neg h2]
        have HS : Hid (sync st f = settle (goes st) f) := by unfold Hid sync; rw [if_neg hno, if_neg h2]
        have HLB : Hid (0 ≤ (goes st).lost ∧ (goes st).lost ≤ 9223372036854775807) := (goes_wf h.wf).lost
        obtain ⟨n, hn⟩ : ∃ n, (goes st).lost = n := ⟨_, rfl⟩
        have HN := Lib.hid hn
        rw [hn] at h2
        have h2' : decide (0 < n) = false := by simpa using h2
        clear h hd hd' h1 hno hn
        go_enter Try.func19, Try.ntmps19
        go_wp2_with fail
        refine HG.out.mono ?_
        rintro e w1 ⟨rfl, haf⟩
        have HAF := Lib.hid haf
        clear haf
        obtain ⟨⟨p1, hp1, hd1⟩, hb1⟩ := HAF.out
        have c5 := hd1.cell.2.2.2.2.2.1
        rw [hp1] at c5
        rw [HN.out] at c5
        have HST := Lib.hid (settle_full hd1 f HF.out)
        rw [hp1] at HST
        clear hd1 hb1 hp1
        go_wp2_with (go_at_call 45; refine (isFile_t f HF.out _).mono ?_; rintro e w' ⟨rfl, rfl⟩)
        refine HST.out.mono ?_
        rintro e w2 ⟨rfl, haf2⟩
        have HAF2 := Lib.hid haf2
        clear haf2
        go_wp2_with fail
        go_ret
        rw [HR.out, HS.out]
        exact ⟨rfl, HAF.out.trans HAF2.out⟩
end Go.Proofs.Ytkphmkhdlkdphaa
