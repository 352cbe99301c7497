/- The contract of Write. -/
import Derived.Test.YtkphmkhdlkdphaaW2
namespace Go.Proofs.Ytkphmkhdlkdphaa
open Go.RowKit Go.ChangeShapes Go.WideShapes
attribute [local go_sem ↓] Go.wp_at_zero Go.wp_at_succ

theorem now_wf {st : St} (h : WF st) {f : Int} {l : List UInt8} (hf : isF f = true) (h1 : (st.now f).length ≤ l.length) (h2 : l.length ≤ 16777216) : WF { st with now := upd st.now f l } := by
  refine ⟨fun g hg => ?_, fun g => ?_, fun g => ?_, fun s hs => ?_, h.nd, h.lost, h.calls, h.keep⟩
  · have : g ≠ f := fun e => by rw [e, hf] at hg; cases hg
    simp only [upd_other _ _ this]; exact h.nf g hg
  · by_cases e : g = f
    · subst e; simp only [upd_same]; exact h2
    · simp only [upd_other _ _ e]; exact h.len g
  · by_cases e : g = f
    · subst e; simp only [upd_same]; have := h.dl g; omega
    · simp only [upd_other _ _ e]; exact h.dl g
  · have := h.q s hs
    refine ⟨this.1, ?_⟩
    by_cases e : s.1 = f
    · simp only [e, upd_same]; have h3 := this.2; rw [e] at h3; omega
    · simp only [upd_other _ _ e]; exact this.2

/-- Nothing is written. -/
theorem write_no {S : Nat → Prop} {p : Rep} {st : St} {w : World} (h : IsD S p st w) (f a : Int) (s : ByteArray) (hf : -9223372036854775808 ≤ f ∧ f ≤ 9223372036854775807) (ha : -9223372036854775808 ≤ a ∧ a ≤ 9223372036854775807) (hs : s.size ≤ 4611686018427387904)
    (hx : chk st f a s.size ≠ 0 ∨ s.size = 0) :
    Calls Try.prog 29 #[.pointer (some ⟨p.r, 0, none⟩), .int .i64 f, .int .i64 a, .string s] w fun e w' => e = .returned (.int .i64 (writeR st f a s.data.toList)) ∧ Af S p.r (write st f a s.data.toList) w w' := by
  have hsz : s.data.toList.length = s.size := (Lib.size_eq s).symm
  have hw : write st f a s.data.toList = goes st := by
    unfold write
    rw [hsz]
    split
    · rename_i hc
      have h0 := hx.resolve_left (fun e => e hc)
      have : s.data.toList = [] := List.eq_nil_of_length_eq_zero (by omega)
      unfold wr
      rw [if_pos this]
    · rfl
  have HW := Lib.hid hw
  have HC := Lib.hid (check_any h f a s.size hf ha hs)
  obtain ⟨c, hc⟩ : ∃ c, chk st f a s.size = c := ⟨_, rfl⟩
  have hcb : c = 0 ∨ c = 1 ∨ c = 6 ∨ c = 8 := by
    rw [← hc]; unfold chk; split
    · simp
    · split
      · simp
      · split <;> simp
  rw [hc] at HC hx
  by_cases hd : (goes st).down = true
  · have HG := Lib.hid (goes_b h hd)
    have HR : Hid (writeR st f a s.data.toList = 8) := by unfold Hid writeR; rw [hw, if_pos hd]
    clear h hd hw hsz hc hf ha
    rcases hx with hx | hx
    · have hc0 : decide (c = 0) = false := by simpa using hx
      have hc1 : (c == 0) = false := by simpa using hx
      clear hcb
      go_enter Try.func29, Try.ntmps29
      go_wp2_with (first | (go_at_call 51; refine HC.out.mono ?_; rintro e w' ⟨rfl, rfl⟩) | (go_at_call 44; refine HG.out.mono ?_; rintro e w1 ⟨rfl, haf⟩))
      go_ret
      rw [HR.out, HW.out]
      exact ⟨rfl, haf⟩
    · have hse : s = ⟨#[]⟩ := by
        have : s.data.size = 0 := hx
        cases s; congr; exact Array.eq_empty_of_size_eq_zero this
      subst hse
      clear hx hs
      by_cases hc0 : c = 0
      · subst hc0
        clear hcb
        go_enter Try.func29, Try.ntmps29
        go_wp2_with (first | (go_at_call 51; refine HC.out.mono ?_; rintro e w' ⟨rfl, rfl⟩) | (go_at_call 44; refine HG.out.mono ?_; rintro e w1 ⟨rfl, haf⟩))
        go_ret
        rw [HR.out, HW.out]
        exact ⟨rfl, haf⟩
      · have hc1 : (c == 0) = false := by simpa using hc0
        have hc2 : decide (c = 0) = false := by simpa using hc0
        clear hcb hc0
        go_enter Try.func29, Try.ntmps29
        go_wp2_with (first | (go_at_call 51; refine HC.out.mono ?_; rintro e w' ⟨rfl, rfl⟩) | (go_at_call 44; refine HG.out.mono ?_; rintro e w1 ⟨rfl, haf⟩))
        go_ret
        rw [HR.out, HW.out]
        exact ⟨rfl, haf⟩
  · have hd' : (goes st).down = false := by simpa using hd
    have HG := Lib.hid (goes_b h hd')
    have HR : Hid (writeR st f a s.data.toList = c) := by unfold Hid writeR; rw [hw, if_neg hd, hsz, hc]
    clear h hd hd' hw hsz hc hf ha
    rcases hx with hx | hx
    · have hc0 : decide (c = 0) = false := by simpa using hx
      have hc1 : (c == 0) = false := by simpa using hx
      clear hcb
      go_enter Try.func29, Try.ntmps29
      go_wp2_with (first | (go_at_call 51; refine HC.out.mono ?_; rintro e w' ⟨rfl, rfl⟩) | (go_at_call 44; refine HG.out.mono ?_; rintro e w1 ⟨rfl, haf⟩))
      go_ret
      rw [HR.out, HW.out]
      exact ⟨rfl, haf⟩
    · have hse : s = ⟨#[]⟩ := by
        have : s.data.size = 0 := hx
        cases s; congr; exact Array.eq_empty_of_size_eq_zero this
      subst hse
      clear hx hs
      by_cases hc0 : c = 0
      · subst hc0
        clear hcb
        go_enter Try.func29, Try.ntmps29
        go_wp2_with (first | (go_at_call 51; refine HC.out.mono ?_; rintro e w' ⟨rfl, rfl⟩) | (go_at_call 44; refine HG.out.mono ?_; rintro e w1 ⟨rfl, haf⟩))
        go_ret
        rw [HR.out, HW.out]
        exact ⟨rfl, haf⟩
      · have hc1 : (c == 0) = false := by simpa using hc0
        have hc2 : decide (c = 0) = false := by simpa using hc0
        clear hcb hc0
        go_enter Try.func29, Try.ntmps29
        go_wp2_with (first | (go_at_call 51; refine HC.out.mono ?_; rintro e w' ⟨rfl, rfl⟩) | (go_at_call 44; refine HG.out.mono ?_; rintro e w1 ⟨rfl, haf⟩))
        go_ret
        rw [HR.out, HW.out]
        exact ⟨rfl, haf⟩
end Go.Proofs.Ytkphmkhdlkdphaa
