/- The contract of goesDown. -/
import Derived.Test.YtkphmkhdlkdphaaK3
namespace Go.Proofs.Ytkphmkhdlkdphaa
open Go.RowKit Go.ChangeShapes Go.WideShapes

theorem Own.ints {w : World} {v : Value} {ks : List Int} (h : Own w 3 1 v ks.length (ks.map (Value.int .i64 ·))) : Ints w v ks ∧ ∀ b, Ints.off v b → blk v = some b := by
  rcases h.2 with ⟨a, rfl, h0⟩ | ⟨g, cap, cur, rfl, hg, hn, hc, hm, hcs, ht⟩
  · refine ⟨⟨a, 0, by rw [h0], by omega, .inl (List.eq_nil_of_length_eq_zero h0)⟩, fun b hb => ?_⟩
    obtain ⟨o, n, c, e⟩ := hb
    cases e
  · refine ⟨⟨_, cap, rfl, hn, .inr ⟨g, 0, rfl, fun i hi => ?_⟩⟩, fun b hb => ?_⟩
    · have : (ks.map (Value.int .i64 ·))[i]? = some (.int .i64 ks[i]) := by simp [hi]
      obtain ⟨g', e, hcell⟩ := h.cell this
      cases e
      rw [Nat.zero_add]
      exact hcell
    · obtain ⟨o, n, c, e⟩ := hb
      simp at e
      rw [blk_pos hc, e.1.1]

theorem goes_any {S : Nat → Prop} {p : Rep} {st : St} {w : World} (h : IsD S p st w) :
    Calls Try.prog 44 #[.pointer (some ⟨p.r, 0, none⟩)] w fun e w' => e = .returned (.bool (goes st).down) ∧ Af S p.r (goes st) w w' := by
  obtain ⟨c0, c1, c2, c3, c4, c5, c6, c7⟩ := h.cell
  have f6 := h.froz 6
  have hcal := h.wf.calls
  by_cases hd : st.down = true
  · have e : goes st = st := by unfold goes; rw [if_pos (.inl hd)]
    have HF : Hid (Af S p.r (goes st) w w) := by rw [e]; exact ⟨⟨p, rfl, h.mono fun b hb => .inl hb⟩, But.refl _ _⟩
    have HE : Hid ((goes st).down = true) := by rw [e]; exact hd
    rw [hd] at c4
    clear h c0 c1 c2 c3 c5 c6 c7 e hd f6
    go_enter Try.func44, Try.ntmps44
    go_wp2_with fail
    go_ret
    rw [HE.out]
    exact ⟨rfl, HF.out⟩
  · have hd' : st.down = false := by simpa using hd
    by_cases h0 : st.calls = 0
    · have e : goes st = st := by unfold goes; rw [if_pos (.inr h0)]
      have HF : Hid (Af S p.r (goes st) w w) := by rw [e]; exact ⟨⟨p, rfl, h.mono fun b hb => .inl hb⟩, But.refl _ _⟩
      have HE : Hid ((goes st).down = false) := by rw [e]; exact hd'
      rw [hd'] at c4
      rw [h0] at c6
      clear h c0 c1 c2 c3 c5 c7 e hd hd' f6 h0
      go_enter Try.func44, Try.ntmps44
      go_wp2_with fail
      go_ret
      rw [HE.out]
      exact ⟨rfl, HF.out⟩
    · by_cases h1 : st.calls = 1
      · have e : goes st = crash st st.keep := by
          unfold goes; rw [if_neg (fun h => h.elim hd h0), if_pos h1]
        have hown : Own w 3 1 p.kv st.keep.length _ := h.holds .kv
        obtain ⟨hi, hof⟩ := hown.ints
        have hcr := crash_any h p.kv st.keep hi h.wf.keep (fun b hb s hs => h.inj s .kv b hs (hof b hb))
        have HC := Lib.hid hcr
        have HE := Lib.hid e
        have HD : Hid ((goes st).down = true) := by unfold Hid; rw [e]; unfold crash; rw [if_neg hd]
        rw [hd'] at c4
        rw [h1] at c6
        clear h c0 c1 c2 c3 c5 e hd hd' f6 h0 h1 hown hi hof hcr
        go_enter Try.func44, Try.ntmps44
        go_wp2_with fail
        refine HC.out.mono ?_
        rintro e w1 ⟨rfl, haf⟩
        have d4 : w1.cell? ⟨p.r, 4, none⟩ = some (.bool true) := by
          obtain ⟨⟨p1, hp1, hd1⟩, _⟩ := haf
          have := hd1.cell.2.2.2.2.1
          rw [hp1, ← HE.out, HD.out] at this
          exact this
        have HAF := Lib.hid haf
        clear haf
        go_wp2_with fail
        go_ret
        rw [HD.out, HE.out]
        exact ⟨rfl, HAF.out⟩
      · have e : goes st = { st with calls := st.calls - 1 } := by
          unfold goes; rw [if_neg (fun h => h.elim hd h0), if_neg h1]
        have hwf := goes_wf h.wf
        have HE : Hid ((goes st).down = false) := by unfold Hid; rw [e]; exact hd'
        have HF : Hid (Af S p.r (goes st) w (w.setCell ⟨p.r, 6, none⟩ (.int .i64 (st.calls - 1)))) := by
          rw [e] at hwf ⊢
          have := h.stepR (p' := p) (st' := { st with calls := st.calls - 1 }) rfl (grownBy_setCell' w p.r 6 (.int .i64 (st.calls - 1))) (Lib.heap_setCell_same (i := 6) (h.holds .r) _) (fun s hs => ⟨fun hh => by cases s <;> first | exact hh | exact absurd rfl hs, rfl⟩) hwf
          exact ⟨⟨p, rfl, this.1⟩, this.2⟩
        rw [hd'] at c4
        obtain ⟨n, hn⟩ : ∃ n, st.calls = n := ⟨_, rfl⟩
        rw [hn] at c6 hcal h0 h1 HF
        have h01 : decide (n = 0) = false := by simpa using h0
        have h11 : decide (n = 1) = false := by simpa using h1
        have hb0 : (n == 0) = false := by simpa using h0
        have hb1 : (n == 1) = false := by simpa using h1
        clear h c0 c1 c2 c3 c5 c7 e hd hd' hwf hn
        go_enter Try.func44, Try.ntmps44
        go_wp2_with fail
        go_ret
        rw [HE.out]
        exact ⟨rfl, HF.out⟩
end Go.Proofs.Ytkphmkhdlkdphaa
