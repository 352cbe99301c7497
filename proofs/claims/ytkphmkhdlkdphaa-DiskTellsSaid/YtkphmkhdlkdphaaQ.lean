/- Plain mathematics of the laws of layer disk. No program. -/
import Derived.Test.YtkphmkhdlkdphaaP
namespace Go.Proofs.Ytkphmkhdlkdphaa

theorem goes_zero {st : St} (h : st.calls = 0) : goes st = st := by unfold goes; rw [if_pos (.inr h)]
theorem write_ok {st : St} {f a : Int} {s : List UInt8} (hd : st.down = false) (hc : st.calls = 0) (hf : isF f = true) (ha : 0 ≤ a) (hb : a + s.length ≤ 16777216) : write st f a s = wr st f a.toNat s ∧ writeR st f a s = 0 := by
  have h0 : chk st f a s.length = 0 := chk_zero.2 ⟨hd, hf, ha, hb⟩
  have h1 : write st f a s = wr st f a.toNat s := by
    unfold write
    rw [if_pos h0]
    exact goes_zero (by unfold wr; split <;> exact hc)
  refine ⟨h1, ?_⟩
  unfold writeR
  rw [h1, h0]
  have : (wr st f a.toNat s).down = false := by unfold wr; split <;> exact hd
  rw [this]
  rfl
theorem wr_same (st : St) (f : Int) (a : Nat) (s : List UInt8) : (wr st f a s).down = st.down ∧ (wr st f a s).calls = st.calls ∧ (wr st f a s).dur = st.dur := by
  unfold wr; split <;> exact ⟨rfl, rfl, rfl⟩
theorem wr_now (st : St) (f : Int) (a : Nat) (s : List UInt8) (h : s ≠ []) : (wr st f a s).now f = putL (st.now f) a s := by
  unfold wr; rw [if_neg h]; exact upd_same _ _ _
theorem putL_read (b : List UInt8) (a : Nat) (s : List UInt8) : ((putL b a s).drop a).take s.length = s := by
  unfold putL
  have hl : ((b ++ List.replicate (a + s.length - b.length) (0 : UInt8)).take a).length = a := by simp; omega
  rw [List.append_assoc, List.drop_append_of_le_length (by omega), List.drop_of_length_le (by omega), List.nil_append, List.take_append_of_le_length (Nat.le_refl _), List.take_length]
theorem wr_read (st : St) (f : Int) (a : Nat) (s : List UInt8) : (((wr st f a s).now f).drop a).take s.length = s := by
  by_cases h : s = []
  · subst h; simp
  · rw [wr_now st f a s h, putL_read]
theorem surv_nil (i : Nat) : surv i [] = false := by simp [surv]
theorem durs_nil (now : Int → List UInt8) : ∀ (q : List (Int × Nat)) (i : Nat) (d : Int → List UInt8), durs now [] i q d = d
  | [], _, _ => rfl
  | s :: r, i, d => by
    show durs now [] (i + 1) r (keepOne now [] d i s) = d
    have : keepOne now [] d i s = d := by unfold keepOne; rw [surv_nil]; rfl
    rw [this]
    exact durs_nil now r (i + 1) d
theorem crash_nil {st : St} (h : st.down = false) : (crash st []).now = st.dur := by
  unfold crash
  rw [if_neg (by simp [h])]
  exact durs_nil _ _ _ _
theorem cut_dur (st : St) (f : Int) (n : Nat) : (cut st f n).dur f = (st.now f).take n := by
  unfold cut settle
  simp [upd_same]
theorem trunc_cut {st : St} {f n : Int} (hc : st.calls = 0) (hd : st.down = false) (hf : isF f = true) (h0 : 0 ≤ n) (hn : n ≤ (st.now f).length) : trunc st f n = cut st f n.toNat ∧ truncR st f n = 0 := by
  have hg := goes_zero hc
  unfold trunc truncR
  rw [hg]
  have h1 : ¬ (st.down = true ∨ isF f = false ∨ n < 0 ∨ n > (st.now f).length) := by
    rintro (h | h | h | h)
    · rw [hd] at h; cases h
    · rw [hf] at h; cases h
    · omega
    · omega
  rw [if_neg h1, if_neg (by simp [hd]), if_neg (fun h => h1 (.inr h))]
  exact ⟨rfl, rfl⟩
theorem readS_up {st : St} {f : Int} {a n : Int} (hd : st.down = false) (hf : isF f = true) (ha : 0 ≤ a) (hn : 0 ≤ n) : readS st f a n = ((st.now f).drop a.toNat).take n.toNat ∧ readR st f a n = 0 := by
  have h1 : ¬ (st.down = true ∨ isF f = false ∨ a < 0 ∨ n < 0) := by
    rintro (h | h | h | h)
    · rw [hd] at h; cases h
    · rw [hf] at h; cases h
    · omega
    · omega
  unfold readS readR
  rw [if_neg h1, if_neg (by simp [hd]), if_neg (fun h => h1 (.inr h))]
  exact ⟨rfl, rfl⟩
theorem readS_whole {st : St} {f : Int} (hw : WF st) (hd : st.down = false) (hf : isF f = true) : readS st f 0 16777216 = st.now f ∧ readR st f 0 16777216 = 0 := by
  obtain ⟨h1, h2⟩ := readS_up (a := 0) (n := 16777216) hd hf (by omega) (by omega)
  refine ⟨?_, h2⟩
  rw [h1]
  have := hw.len f
  exact List.take_of_length_le (by simpa using this)
theorem write_bad {st : St} {f a : Int} {s : List UInt8} (_hc : st.calls = 0) (h : st.down = true ∨ isF f = false) : writeR st f a s ≠ 0 := by
  have hk : chk st f a s.length ≠ 0 := fun e => by
    obtain ⟨h1, h2, _⟩ := chk_zero.1 e
    rcases h with h | h
    · rw [h1] at h; cases h
    · rw [h2] at h; cases h
  unfold writeR
  split
  · decide
  · exact hk

/-! ### DiskReads -/
theorem last_read {st : St} {f : Int} {n : Nat} (hw : WF st) (hc : st.calls = 0) (hd : st.down = false) (hf : isF f = true) (hn : n ≤ (st.now f).length) :
    truncR st f n = 0 ∧ readS (start (crash (trunc st f n) [])) f 0 16777216 = (st.now f).take n ∧ readR (start (crash (trunc st f n) [])) f 0 16777216 = 0 := by
  obtain ⟨h1, h2⟩ := trunc_cut (n := (n : Int)) hc hd hf (by omega) (by omega)
  refine ⟨h2, ?_⟩
  have hw2 : WF (start (crash (trunc st f n) [])) := start_wf (crash_wf (trunc_wf hw f n) _)
  obtain ⟨h3, h4⟩ := readS_whole hw2 rfl hf
  rw [h3, h4]
  refine ⟨?_, rfl⟩
  show (crash (trunc st f n) []).now f = _
  rw [h1, crash_nil (by exact hd), cut_dur]
  rfl
end Go.Proofs.Ytkphmkhdlkdphaa
