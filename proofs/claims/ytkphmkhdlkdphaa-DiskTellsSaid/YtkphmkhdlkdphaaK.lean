/- Crash: what lies outside the walk. -/
import Derived.Test.YtkphmkhdlkdphaaF
namespace Go.Proofs.Ytkphmkhdlkdphaa
open Go.RowKit Go.ChangeShapes Go.WideShapes

/-- The state behind a crash, ahead of what Arm does. -/
def fallen (st : St) : St := { now := st.dur, dur := st.dur, q := [], down := true, lost := st.lost, calls := st.calls, keep := st.keep }
def withD (st : St) (d : Int → List UInt8) : St := { st with dur := d }
theorem crash_eq {st : St} (h : st.down = false) (ks : List Int) : crash st ks = arm (fallen (withD st (durs st.now ks 0 st.q st.dur))) 0 [] := by
  unfold crash
  rw [if_neg (by simp [h])]
  rfl
theorem fallen_wf {st : St} (h : WF st) : WF (fallen st) :=
  ⟨fun f hf => ⟨(h.nf f hf).2, (h.nf f hf).2⟩, fun f => Nat.le_trans (h.dl f) (h.len f), fun _ => Nat.le_refl _, fun s hs => by simp [fallen] at hs, by simp [fallen], h.lost, h.calls, h.keep⟩

theorem durs_snoc (now : Int → List UInt8) (ks : List Int) (s : Int × Nat) : ∀ (l : List (Int × Nat)) (i : Nat) (d : Int → List UInt8), durs now ks i (l ++ [s]) d = keepOne now ks (durs now ks i l d) (i + l.length) s
  | [], i, d => rfl
  | x :: r, i, d => by
    show durs now ks (i + 1) (r ++ [s]) _ = keepOne now ks (durs now ks (i + 1) r _) _ s
    rw [durs_snoc now ks s r (i + 1)]
    congr 1
    simp; omega
theorem durs_wf {st : St} (h : WF st) (ks : List Int) (k : Nat) : WF (withD st (durs st.now ks 0 (st.q.take k) st.dur)) :=
  ⟨fun f hf => ⟨(h.nf f hf).1, durs_nf _ _ _ (h.nf f hf).2 (fun s hs e => by have := (h.q s (List.mem_of_mem_take hs)).1; rw [e, hf] at this; cases this)⟩, h.len,
    durs_len _ _ _ h.dl (fun s hs => (h.q s (List.mem_of_mem_take hs)).2), h.q, h.nd, h.lost, h.calls, h.keep⟩

theorem crash_tail {S : Nat → Prop} {p : Rep} {st : St} {w w1 : World} {m : Nat} {g' : Int → Option Value} (h : IsD S p st w) (h1 : w.heap.size ≤ m) (h2 : MapIs Try.prog 3 w1 m (mapF g')) (h3 : ∀ n, OwnO w1 (g' n) (st.dur n))
    (h4 : ∀ n b, (g' n).bind blk = some b → w.heap.size ≤ b) (h5 : ∀ n n' b, (g' n).bind blk = some b → (g' n').bind blk = some b → n = n') (h6 : w.grownBy w1 none) :
    IsD (Grew S w (((((w1.setCell ⟨p.r, 0, none⟩ (.map (some m))).setCell ⟨p.r, 2, none⟩ (.slice none 0 0)).setCell ⟨p.r, 3, none⟩ (.map (some w1.heap.size))).setCell ⟨p.r, 4, none⟩ (.bool true)).alloc (.map #[] 0)))
      { p with fm := m, fv := g', lm := w1.heap.size, pv := .slice none 0 0 } (fallen st) (((((w1.setCell ⟨p.r, 0, none⟩ (.map (some m))).setCell ⟨p.r, 2, none⟩ (.slice none 0 0)).setCell ⟨p.r, 3, none⟩ (.map (some w1.heap.size))).setCell ⟨p.r, 4, none⟩ (.bool true)).alloc (.map #[] 0)) ∧
    But S w (((((w1.setCell ⟨p.r, 0, none⟩ (.map (some m))).setCell ⟨p.r, 2, none⟩ (.slice none 0 0)).setCell ⟨p.r, 3, none⟩ (.map (some w1.heap.size))).setCell ⟨p.r, 4, none⟩ (.bool true)).alloc (.map #[] 0)) := by
  have hlt := h.lt (s := .r) rfl
  have hs6 := h6.size
  have hr1 := (h.grown h6).holds .r
  have hr2 := Lib.heap_setCell_same (i := 4) (Lib.heap_setCell_same (i := 3) (Lib.heap_setCell_same (i := 2) (Lib.heap_setCell_same (i := 0) hr1 (.map (some m))) (.slice none 0 0)) (.map (some w1.heap.size))) (.bool true)
  have hg2 : w1.grownBy ((((w1.setCell ⟨p.r, 0, none⟩ (.map (some m))).setCell ⟨p.r, 2, none⟩ (.slice none 0 0)).setCell ⟨p.r, 3, none⟩ (.map (some w1.heap.size))).setCell ⟨p.r, 4, none⟩ (.bool true)) (some p.r) :=
    (((grownBy_setCell' _ _ _ _).trans (grownBy_setCell' _ _ _ _)).trans (grownBy_setCell' _ _ _ _)).trans (grownBy_setCell' _ _ _ _)
  have hz2 : ((((w1.setCell ⟨p.r, 0, none⟩ (.map (some m))).setCell ⟨p.r, 2, none⟩ (.slice none 0 0)).setCell ⟨p.r, 3, none⟩ (.map (some w1.heap.size))).setCell ⟨p.r, 4, none⟩ (.bool true)).heap.size = w1.heap.size := by simp [World.setCell]
  generalize (((w1.setCell ⟨p.r, 0, none⟩ (.map (some m))).setCell ⟨p.r, 2, none⟩ (.slice none 0 0)).setCell ⟨p.r, 3, none⟩ (.map (some w1.heap.size))).setCell ⟨p.r, 4, none⟩ (.bool true) = w2 at *
  have hr4 := ((World.grownBy_alloc w2 (.map #[] 0) none).block p.r (by omega) (by simp)).trans hr2
  have hg3 := World.grownBy_alloc w2 (.map #[] 0) none
  have hm3 : MapIs Try.prog 69 (w2.alloc (.map #[] 0)) w1.heap.size (fun _ => none) := by rw [← hz2]; exact MapIs.made w2
  have hz3 : (w2.alloc (.map #[] 0)).heap.size = w1.heap.size + 1 := by simp [hz2]
  generalize w2.alloc (.map #[] 0) = w4 at *
  have hkeep : ∀ b, b < w1.heap.size → b ≠ p.r → w4.heap[b]? = w1.heap[b]? := fun b hb hne =>
    (hg3.block b (by omega) (by simp)).trans (hg2.block b hb (fun e => hne (Option.some.inj e)))
  have hbut : But (fun b => ∃ s, (s = Sl.r ∨ s = .fm ∨ s = .lm ∨ s = .pv ∨ ∃ n, s = .f n) ∧ p.at s = some b) w w4 :=
    ⟨hg3.os.trans (hg2.os.trans h6.os), hg3.tape.trans (hg2.tape.trans h6.tape), hg3.output.trans (hg2.output.trans h6.output), by omega,
      fun k hk hn => (hkeep k (by omega) (fun e => hn ⟨.r, .inl rfl, by rw [e]; rfl⟩)).trans (h6.block k hk (by simp))⟩
  refine h.step (p' := { p with fm := m, fv := g', lm := w1.heap.size, pv := .slice none 0 0 }) (st' := fallen st) (fun s => s = Sl.r ∨ s = .fm ∨ s = .lm ∨ s = .pv ∨ ∃ n, s = .f n) hbut ?_ ?_ ?_ ?_ (fallen_wf h.wf)
  · rintro s (rfl | rfl | rfl | rfl | ⟨n, rfl⟩)
    · exact hr4
    · exact h2.kept (hkeep m h2.lt (by omega))
    · exact hm3.congr (fun x => (setQ_nil x).symm)
    · exact Own.nil _ _ _
    · refine OwnO.kept (h3 n) fun b hb => ?_
      have := h4 n b hb
      exact hkeep b ((h3 n).lt b hb) (by omega)
  · intro s hs
    refine ⟨fun hh => ?_, ?_⟩
    · cases s <;> first | exact hh | (exfalso; apply hs; simp; done)
    · cases s <;> first | rfl | (exfalso; apply hs; simp; done)
  · rintro s b (rfl | rfl | rfl | rfl | ⟨n, rfl⟩) hb
    · exact .inl hb
    · have e : m = b := Option.some.inj hb
      exact .inr (by omega)
    · have e : w1.heap.size = b := Option.some.inj hb
      exact .inr (by omega)
    · cases hb
    · exact .inr (h4 n b hb)
  · have hmne : ∀ n b, (g' n).bind blk = some b → b ≠ m ∧ b < w1.heap.size ∧ b ≠ p.r := fun n b hb => by
      have h3n := h3 n
      have hb4 := h4 n b hb
      cases hg : g' n with
      | none => rw [hg] at hb; cases hb
      | some v =>
        rw [hg] at hb h3n
        refine ⟨fun e => Own.ne_map h3n h2 (by rw [← e]; exact hb), h3n.lt b hb, by omega⟩
    have hm1 := h2.lt
    rintro s s' b (rfl | rfl | rfl | rfl | ⟨n, rfl⟩) (rfl | rfl | rfl | rfl | ⟨n', rfl⟩) hb hb' <;> first
      | rfl
      | (cases hb; done)
      | (cases hb'; done)
      | (exfalso; have e1 := Option.some.inj hb; have e2 := Option.some.inj hb'; simp only at e1 e2; omega)
      | (exfalso; have e1 := Option.some.inj hb; have e2 := hmne n' b hb'; have e3 := h4 n' b hb'; simp only at e1; omega)
      | (exfalso; have e1 := Option.some.inj hb'; have e2 := hmne n b hb; have e3 := h4 n b hb; simp only at e1; omega)
      | (rw [h5 n n' b hb hb'])
end Go.Proofs.Ytkphmkhdlkdphaa
