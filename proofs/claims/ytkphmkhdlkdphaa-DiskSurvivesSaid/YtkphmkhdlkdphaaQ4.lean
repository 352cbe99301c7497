/- Plain mathematics of DiskSurvives. -/
import Derived.Test.YtkphmkhdlkdphaaQ3
namespace Go.Proofs.Ytkphmkhdlkdphaa

/-- What is not pending is durable. -/
structure Inv (st : St) : Prop where
  same : ∀ f i, (f, i / 64) ∉ st.q → (st.dur f).getD i 0 = (st.now f).getD i 0
  last : ∀ f, (st.dur f).length < (st.now f).length → (f, ((st.now f).length - 1) / 64) ∈ st.q

theorem Inv.of {a b : St} (h : Inv a) (e1 : b.now = a.now) (e2 : b.dur = a.dur) (e3 : b.q = a.q) : Inv b :=
  ⟨fun f i hq => by rw [e1, e2]; exact h.same f i (by rw [← e3]; exact hq), fun f hl => by rw [e1, e3]; rw [e1, e2] at hl; exact h.last f hl⟩
theorem new_inv : Inv St.new := ⟨fun _ _ _ => rfl, fun f h => by simp [St.new] at h⟩
theorem wr_inv {st : St} (h : Inv st) (f : Int) (a : Nat) (s : List UInt8) : Inv (wr st f a s) := by
  unfold wr
  split
  · exact h
  · rename_i hne
    have hpos : 0 < s.length := by cases s <;> simp_all
    refine ⟨fun g i hq => ?_, fun g hl => ?_⟩
    · have hq1 : (g, i / 64) ∉ st.q := fun e => hq (mem_addQ.2 (.inl e))
      have hq2 : (g, i / 64) ∉ secs f a s.length := fun e => hq (mem_addQ.2 (.inr e))
      show (st.dur g).getD i 0 = (upd st.now f (putL (st.now f) a s) g).getD i 0
      by_cases e : g = f
      · subst e
        rw [upd_same, putL_getD, if_neg, h.same g i hq1]
        rintro ⟨h1, h2⟩
        exact hq2 (secs_mem (by omega) (by omega))
      · rw [upd_other _ _ e]; exact h.same g i hq1
    · have hl' : (st.dur g).length < (upd st.now f (putL (st.now f) a s) g).length := hl
      show (g, ((upd st.now f (putL (st.now f) a s) g).length - 1) / 64) ∈ addQ st.q (secs f a s.length)
      by_cases e : g = f
      · subst e
        rw [upd_same, putL_length] at hl' ⊢
        by_cases hm : (st.now g).length ≤ a + s.length
        · rw [Nat.max_eq_right hm]
          exact mem_addQ.2 (.inr (secs_mem (by omega) (by omega)))
        · rw [Nat.max_eq_left (by omega)] at hl' ⊢
          exact mem_addQ.2 (.inl (h.last g hl'))
      · rw [upd_other _ _ e] at hl' ⊢
        exact mem_addQ.2 (.inl (h.last g hl'))
theorem crash_inv {st : St} (h : Inv st) (ks : List Int) : Inv (crash st ks) := by
  unfold crash
  split
  · exact h
  · exact ⟨fun _ _ _ => rfl, fun f hl => absurd hl (Nat.lt_irrefl _)⟩
theorem goes_inv {st : St} (h : Inv st) : Inv (goes st) := by
  unfold goes
  split
  · exact h
  · split
    · exact crash_inv h _
    · exact h.of rfl rfl rfl
theorem settle_inv {st : St} (h : ∀ f i, (f, i / 64) ∉ st.q → ∀ g, f ≠ g → (st.dur f).getD i 0 = (st.now f).getD i 0) (h2 : ∀ f, (st.dur f).length < (st.now f).length → ∀ g, f ≠ g → (f, ((st.now f).length - 1) / 64) ∈ st.q) (g : Int) : Inv (settle st g) := by
  refine ⟨fun f i hq => ?_, fun f hl => ?_⟩
  · show (upd st.dur g (st.now g) f).getD i 0 = (st.now f).getD i 0
    by_cases e : f = g
    · subst e; rw [upd_same]
    · rw [upd_other _ _ e]
      refine h f i (fun hm => hq ?_) g e
      exact List.mem_filter.2 ⟨hm, by simpa using e⟩
  · have hl' : (upd st.dur g (st.now g) f).length < (st.now f).length := hl
    by_cases e : f = g
    · subst e; rw [upd_same] at hl'; omega
    · rw [upd_other _ _ e] at hl'
      exact List.mem_filter.2 ⟨h2 f hl' g e, by simpa using e⟩
theorem settle_inv' {st : St} (h : Inv st) (g : Int) : Inv (settle st g) := settle_inv (fun f i hq _ _ => h.same f i hq) (fun f hl _ _ => h.last f hl) g
theorem cut_inv {st : St} (h : Inv st) (g : Int) (n : Nat) : Inv (cut st g n) := by
  refine ⟨fun f i hq => ?_, fun f hl => ?_⟩
  · show (upd st.dur g ((upd st.now g ((st.now g).take n)) g) f).getD i 0 = (upd st.now g ((st.now g).take n) f).getD i 0
    by_cases e : f = g
    · subst e; rw [upd_same, upd_same]
    · rw [upd_other _ _ e, upd_other _ _ e]
      exact h.same f i fun hm => hq (List.mem_filter.2 ⟨hm, by simpa using e⟩)
  · have hl' : (upd st.dur g ((upd st.now g ((st.now g).take n)) g) f).length < (upd st.now g ((st.now g).take n) f).length := hl
    show (f, ((upd st.now g ((st.now g).take n) f).length - 1) / 64) ∈ st.q.filter _
    by_cases e : f = g
    · subst e; rw [upd_same, upd_same] at hl'; omega
    · rw [upd_other _ _ e, upd_other _ _ e] at hl'
      rw [upd_other _ _ e]
      exact List.mem_filter.2 ⟨h.last f hl', by simpa using e⟩
theorem write_inv {st : St} (h : Inv st) (f a : Int) (s : List UInt8) : Inv (write st f a s) := by
  unfold write
  refine goes_inv ?_
  split
  · exact wr_inv h _ _ _
  · exact h
theorem sync_inv {st : St} (h : Inv st) (f : Int) : Inv (sync st f) := by
  have g := goes_inv h
  unfold sync
  split
  · exact g
  · split
    · exact g.of rfl rfl rfl
    · exact settle_inv' g f
theorem trunc_inv {st : St} (h : Inv st) (f n : Int) : Inv (trunc st f n) := by
  have g := goes_inv h
  unfold trunc
  split
  · exact g
  · exact cut_inv g f _

/-! ### what a crash leaves -/
theorem keepOne_getD (now : Int → List UInt8) (ks : List Int) (d : Int → List UInt8) (i : Nat) (s : Int × Nat) (f : Int) (j : Nat) (hd : (d f).length ≤ (now f).length) :
    (keepOne now ks d i s f).getD j 0 = if surv i ks = true ∧ s = (f, j / 64) then (now f).getD j 0 else (d f).getD j 0 := by
  unfold keepOne
  by_cases hs : surv i ks = true
  · rw [if_pos hs]
    by_cases e : s.1 = f
    · obtain ⟨s1, n⟩ := s
      simp only at e
      subst e
      simp only [upd_same, putL_getD, hs, true_and, chunk, List.length_take, List.length_drop]
      by_cases e2 : n = j / 64
      · subst e2
        rw [if_pos rfl]
        by_cases hj : j < (now s1).length
        · rw [if_pos (by omega)]
          simp only [List.getD_eq_getElem?_getD, List.getElem?_take, List.getElem?_drop]
          rw [if_pos (by omega), show 64 * (j / 64) + (j - 64 * (j / 64)) = j by omega]
        · rw [if_neg (by omega)]
          simp only [List.getD_eq_getElem?_getD]
          rw [List.getElem?_eq_none (by omega), List.getElem?_eq_none (by omega)]
      · rw [if_neg (by omega), if_neg (by intro e; cases e; exact e2 rfl)]
    · rw [upd_other _ _ (Ne.symm e), if_neg (by rintro ⟨_, e2⟩; rw [e2] at e; exact e rfl)]
  · rw [if_neg hs, if_neg (fun h => hs h.1)]
theorem keepOne_mono (now : Int → List UInt8) (ks : List Int) (d : Int → List UInt8) (i : Nat) (s : Int × Nat) (f : Int) : (d f).length ≤ (keepOne now ks d i s f).length := by
  unfold keepOne
  split
  · by_cases e : f = s.1
    · subst e; rw [upd_same, putL_length]; omega
    · rw [upd_other _ _ e]; exact Nat.le_refl _
  · exact Nat.le_refl _
theorem durs_mono (now : Int → List UInt8) (ks : List Int) (f : Int) : ∀ (q : List (Int × Nat)) (i : Nat) (d : Int → List UInt8), (d f).length ≤ (durs now ks i q d f).length
  | [], _, _ => Nat.le_refl _
  | s :: r, i, d => Nat.le_trans (keepOne_mono now ks d i s f) (durs_mono now ks f r (i + 1) _)
/-- Each sector is wholly new or wholly old. -/
theorem durs_sector (now : Int → List UInt8) (ks : List Int) (f : Int) (n : Nat) (D : List UInt8) : ∀ (q : List (Int × Nat)) (i : Nat) (d : Int → List UInt8), (∀ f, (d f).length ≤ (now f).length) → (∀ s ∈ q, 64 * s.2 < (now s.1).length) →
    ((∀ j, j / 64 = n → (d f).getD j 0 = (now f).getD j 0) ∨ (∀ j, j / 64 = n → (d f).getD j 0 = D.getD j 0)) →
    (∀ j, j / 64 = n → (durs now ks i q d f).getD j 0 = (now f).getD j 0) ∨ (∀ j, j / 64 = n → (durs now ks i q d f).getD j 0 = D.getD j 0)
  | [], _, _, _, _, h => h
  | s :: r, i, d, hd, hq, h => by
    refine durs_sector now ks f n D r (i + 1) _ (fun g => keepOne_len hd (hq s (by simp)) g) (fun x hx => hq x (by simp [hx])) ?_
    by_cases hs : surv i ks = true ∧ s = (f, n)
    · left
      intro j hj
      rw [keepOne_getD now ks d i s f j (hd f), if_pos ⟨hs.1, by rw [hs.2, hj]⟩]
    · have he : ∀ j, j / 64 = n → (keepOne now ks d i s f).getD j 0 = (d f).getD j 0 := fun j hj => by
        rw [keepOne_getD now ks d i s f j (hd f), if_neg (fun h => hs ⟨h.1, by rw [h.2, hj]⟩)]
      rcases h with h | h
      · exact .inl fun j hj => (he j hj).trans (h j hj)
      · exact .inr fun j hj => (he j hj).trans (h j hj)
theorem durs_all (now : Int → List UInt8) (ks : List Int) (hs : ∀ i, surv i ks = true) (f : Int) (j : Nat) : ∀ (q : List (Int × Nat)) (i : Nat) (d : Int → List UInt8), (∀ f, (d f).length ≤ (now f).length) → (∀ s ∈ q, 64 * s.2 < (now s.1).length) →
    ((f, j / 64) ∈ q ∨ (d f).getD j 0 = (now f).getD j 0) → (durs now ks i q d f).getD j 0 = (now f).getD j 0
  | [], _, _, _, _, h => h.elim (fun h => by cases h) id
  | s :: r, i, d, hd, hq, h => by
    refine durs_all now ks hs f j r (i + 1) _ (fun g => keepOne_len hd (hq s (by simp)) g) (fun x hx => hq x (by simp [hx])) ?_
    by_cases e : s = (f, j / 64)
    · right
      rw [keepOne_getD now ks d i s f j (hd f), if_pos ⟨hs i, e⟩]
    · rcases h with h | h
      · rcases List.mem_cons.1 h with h | h
        · exact absurd h.symm e
        · exact .inl h
      · right
        rw [keepOne_getD now ks d i s f j (hd f), if_neg (fun h => e h.2)]
        exact h
theorem durs_full (now : Int → List UInt8) (ks : List Int) (hs : ∀ i, surv i ks = true) (f : Int) : ∀ (q : List (Int × Nat)) (i : Nat) (d : Int → List UInt8), ((f, ((now f).length - 1) / 64) ∈ q ∨ (now f).length ≤ (d f).length) → (now f).length ≤ (durs now ks i q d f).length
  | [], _, _, h => h.elim (fun h => by cases h) id
  | s :: r, i, d, h => by
    refine durs_full now ks hs f r (i + 1) _ ?_
    by_cases e : s = (f, ((now f).length - 1) / 64)
    · right
      unfold keepOne
      rw [if_pos (hs i), e]
      simp only [upd_same, putL_length, chunk, List.length_take, List.length_drop]
      omega
    · rcases h with h | h
      · rcases List.mem_cons.1 h with h | h
        · exact absurd h.symm e
        · exact .inl h
      · exact .inr (Nat.le_trans h (keepOne_mono now ks d i s f))
theorem surv_one (i : Nat) : surv i [1] = true := by
  unfold surv
  have : i % [(1 : Int)].length = 0 := Nat.mod_one i
  rw [this]
  decide
theorem crash_now {st : St} (hd : st.down = false) (ks : List Int) : (crash st ks).now = durs st.now ks 0 st.q st.dur := by
  unfold crash
  rw [if_neg (by simp [hd])]
theorem all_now {st : St} (hw : WF st) (hi : Inv st) (hd : st.down = false) (f : Int) : (crash st [1]).now f = st.now f := by
  rw [crash_now hd]
  have hq : ∀ s ∈ st.q, 64 * s.2 < (st.now s.1).length := fun s hs => (hw.q s hs).2
  have h1 := durs_len (keep := [1]) st.q 0 st.dur hw.dl hq f
  have h2 : (st.now f).length ≤ (durs st.now [1] 0 st.q st.dur f).length := by
    refine durs_full st.now [1] surv_one f st.q 0 st.dur ?_
    by_cases e : (st.dur f).length < (st.now f).length
    · exact .inl (hi.last f e)
    · exact .inr (by omega)
  refine ext_getD (by omega) fun j _ => durs_all st.now [1] surv_one f j st.q 0 st.dur hw.dl hq ?_
  by_cases e : (f, j / 64) ∈ st.q
  · exact .inl e
  · exact .inr (hi.same f j e)
theorem some_now {st : St} (hw : WF st) (hd : st.down = false) (ks : List Int) (f : Int) :
    (st.dur f).length ≤ ((crash st ks).now f).length ∧ ((crash st ks).now f).length ≤ (st.now f).length ∧
    ∀ n, (∀ j, j / 64 = n → ((crash st ks).now f).getD j 0 = (st.now f).getD j 0) ∨ (∀ j, j / 64 = n → ((crash st ks).now f).getD j 0 = (st.dur f).getD j 0) := by
  have hq : ∀ s ∈ st.q, 64 * s.2 < (st.now s.1).length := fun s hs => (hw.q s hs).2
  rw [crash_now hd]
  exact ⟨durs_mono _ _ _ _ _ _, durs_len st.q 0 st.dur hw.dl hq f, fun n => durs_sector st.now ks f n (st.dur f) st.q 0 st.dur hw.dl hq (.inr fun _ _ => rfl)⟩
end Go.Proofs.Ytkphmkhdlkdphaa
