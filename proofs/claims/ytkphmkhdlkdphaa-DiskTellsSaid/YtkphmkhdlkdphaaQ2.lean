/- Plain mathematics of DiskSynced. -/
import Derived.Test.YtkphmkhdlkdphaaQ
namespace Go.Proofs.Ytkphmkhdlkdphaa

structure Syn (st : St) (f : Int) (L : List UInt8) : Prop where
  now : st.now f = L
  dur : st.dur f = L
  q : ∀ s ∈ st.q, s.1 ≠ f

theorem goes_up {st : St} (h : (goes st).down = false) : (goes st).now = st.now ∧ (goes st).dur = st.dur ∧ (goes st).q = st.q ∧ st.down = false ∧ (goes st).lost = st.lost := by
  unfold goes at h ⊢
  split at h
  · rename_i hc; rw [if_pos hc]; exact ⟨rfl, rfl, rfl, h, rfl⟩
  · rename_i hc
    rw [if_neg hc]
    split at h
    · rename_i h1
      exfalso
      unfold crash at h
      split at h
      · rename_i hd; rw [hd] at h; cases h
      · cases h
    · rename_i h1
      rw [if_neg h1]
      exact ⟨rfl, rfl, rfl, h, rfl⟩
theorem durs_other {now : Int → List UInt8} {keep : List Int} {f : Int} : ∀ (q : List (Int × Nat)) (i : Nat) (d : Int → List UInt8), (∀ s ∈ q, s.1 ≠ f) → durs now keep i q d f = d f
  | [], _, _, _ => rfl
  | s :: r, i, d, h => by
    show durs now keep (i + 1) r (keepOne now keep d i s) f = d f
    rw [durs_other r (i + 1) _ fun x hx => h x (by simp [hx])]
    unfold keepOne
    split
    · exact upd_other _ _ (Ne.symm (h s (by simp)))
    · rfl
theorem Syn.crash {st : St} {f : Int} {L : List UInt8} (h : Syn st f L) (keep : List Int) : Syn (crash st keep) f L := by
  unfold Go.Proofs.Ytkphmkhdlkdphaa.crash
  split
  · exact h
  · have e := durs_other (now := st.now) (keep := keep) st.q 0 st.dur h.q
    exact ⟨e.trans h.dur, e.trans h.dur, fun s hs => by cases hs⟩
theorem Syn.goes {st : St} {f : Int} {L : List UInt8} (h : Syn st f L) : Syn (goes st) f L := by
  unfold Go.Proofs.Ytkphmkhdlkdphaa.goes
  split
  · exact h
  · split
    · exact h.crash _
    · exact ⟨h.now, h.dur, h.q⟩
theorem Syn.wr {st : St} {f g : Int} {L : List UInt8} (h : Syn st f L) (hg : g ≠ f) (a : Nat) (s : List UInt8) : Syn (wr st g a s) f L := by
  unfold Go.Proofs.Ytkphmkhdlkdphaa.wr
  split
  · exact h
  · rename_i hs
    have hpos : 0 < s.length := by cases s <;> simp_all
    refine ⟨(upd_other _ _ (Ne.symm hg)).trans h.now, h.dur, fun x hx => ?_⟩
    rcases mem_addQ.1 hx with hx | hx
    · exact h.q x hx
    · rw [(mem_secs hx hpos).1]; exact hg
theorem Syn.settle {st : St} {f g : Int} {L : List UInt8} (h : Syn st f L) (hg : g ≠ f) : Syn (settle st g) f L :=
  ⟨h.now, (upd_other _ _ (Ne.symm hg)).trans h.dur, fun x hx => h.q x (List.mem_filter.1 hx).1⟩
theorem Syn.cut {st : St} {f g : Int} {L : List UInt8} (h : Syn st f L) (hg : g ≠ f) (n : Nat) : Syn (cut st g n) f L :=
  Syn.settle (st := { st with now := upd st.now g ((st.now g).take n) }) ⟨(upd_other _ _ (Ne.symm hg)).trans h.now, h.dur, h.q⟩ hg
theorem Syn.write {st : St} {f g a : Int} {L s : List UInt8} (h : Syn st f L) (hg : g ≠ f) : Syn (write st g a s) f L := by
  unfold Go.Proofs.Ytkphmkhdlkdphaa.write
  refine Syn.goes ?_
  split
  · exact h.wr hg _ _
  · exact h
theorem Syn.sync {st : St} {f g : Int} {L : List UInt8} (h : Syn st f L) (hg : g ≠ f) : Syn (sync st g) f L := by
  unfold Go.Proofs.Ytkphmkhdlkdphaa.sync
  have := h.goes
  split
  · exact this
  · split
    · exact ⟨this.now, this.dur, this.q⟩
    · exact this.settle hg
theorem Syn.trunc {st : St} {f g n : Int} {L : List UInt8} (h : Syn st f L) (hg : g ≠ f) : Syn (trunc st g n) f L := by
  unfold Go.Proofs.Ytkphmkhdlkdphaa.trunc
  have := h.goes
  split
  · exact this
  · exact this.cut hg _
theorem settle_syn (st : St) (f : Int) : Syn (settle st f) f (st.now f) :=
  ⟨rfl, upd_same _ _ _, fun s hs => by have := (List.mem_filter.1 hs).2; simpa using this⟩
/-- What a successful Sync tells. -/
theorem sync_ok {st : St} {f : Int} (_hw : WF st) (h : syncR st f = 0) : st.down = false ∧ isF f = true ∧ (sync st f).down = false ∧ (sync st f).now f = st.now f ∧ Syn (sync st f) f (st.now f) := by
  unfold syncR at h
  split at h
  · cases h
  · rename_i h1
    split at h
    · cases h
    · rename_i h2
      split at h
      · cases h
      · rename_i h3
        have h1' : (goes st).down = false := by simpa using h1
        have h2' : isF f = true := by simpa using h2
        obtain ⟨e1, e2, e3, e4, e5⟩ := goes_up h1'
        have es : sync st f = settle (goes st) f := by
          unfold sync
          rw [if_neg (fun h => h.elim h1 h2), if_neg h3]
        rw [es]
        have := settle_syn (goes st) f
        rw [e1] at this
        exact ⟨e4, h2', h1', by show (goes st).now f = _; rw [e1], this⟩
theorem syn_last {st : St} {f : Int} {L : List UInt8} (hw : WF st) (h : Syn st f L) (hf : isF f = true) (keep : List Int) : readS (start (crash st keep)) f 0 16777216 = L ∧ readR (start (crash st keep)) f 0 16777216 = 0 := by
  obtain ⟨h1, h2⟩ := readS_whole (start_wf (crash_wf hw keep)) rfl hf
  exact ⟨h1.trans (h.crash keep).now, h2⟩
end Go.Proofs.Ytkphmkhdlkdphaa
