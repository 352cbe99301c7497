/- A disk's parts without what holds of its state: for the steps inside Truncate. -/
import Derived.Test.YtkphmkhdlkdphaaK
namespace Go.Proofs.Ytkphmkhdlkdphaa
open Go.RowKit Go.ChangeShapes Go.WideShapes

theorem Own.grown0 {w w' : World} {e size : Nat} {v : Value} {n : Nat} {xs : List Value} (h : Own w e size v n xs) (hg : w.grownBy w' none) : Own w' e size v n xs := h.kept fun b hb => hg.block b (h.lt b hb) (by simp)

structure IsC (S : Nat → Prop) (p : Rep) (st : St) (w : World) : Prop where
  holds : ∀ s, Holds w p st s
  inj : ∀ s s' b, p.at s = some b → p.at s' = some b → s = s'
  inS : ∀ s b, p.at s = some b → S b
theorem IsD.core {S : Nat → Prop} {p : Rep} {st : St} {w : World} (h : IsD S p st w) : IsC S p st w := ⟨h.holds, h.inj, h.inS⟩
theorem IsC.full {S : Nat → Prop} {p : Rep} {st : St} {w : World} (h : IsC S p st w) (wf : WF st) : IsD S p st w := ⟨h.holds, h.inj, h.inS, wf⟩

theorem IsC.lt {S : Nat → Prop} {p : Rep} {st : St} {w : World} (h : IsC S p st w) {s : Sl} {b : Nat} (hb : p.at s = some b) : b < w.heap.size := (h.holds s).lt b hb
theorem IsC.mono {S S' : Nat → Prop} {p : Rep} {st : St} {w : World} (h : IsC S p st w) (hs : ∀ b, S b → S' b) : IsC S' p st w := ⟨h.holds, h.inj, fun s b hb => hs b (h.inS s b hb)⟩
theorem IsC.kept {S : Nat → Prop} {p : Rep} {st : St} {w w' : World} (h : IsC S p st w) (hg : ∀ b, S b → b < w.heap.size → w'.heap[b]? = w.heap[b]?) : IsC S p st w' :=
  ⟨fun s => (h.holds s).kept fun b hb => hg b (h.inS s b hb) (h.lt hb), h.inj, h.inS⟩
theorem IsC.grown {S : Nat → Prop} {p : Rep} {st : St} {w w' : World} (h : IsC S p st w) (hg : w.grownBy w' none) : IsC S p st w' := h.kept fun b _ hb => hg.block b hb (by simp)
theorem IsC.cell {S : Nat → Prop} {p : Rep} {st : St} {w : World} (h : IsC S p st w) :
    w.cell? ⟨p.r, 0, none⟩ = some (.map (some p.fm)) ∧ w.cell? ⟨p.r, 1, none⟩ = some (.map (some p.dm)) ∧ w.cell? ⟨p.r, 2, none⟩ = some p.pv ∧ w.cell? ⟨p.r, 3, none⟩ = some (.map (some p.lm)) ∧
    w.cell? ⟨p.r, 4, none⟩ = some (.bool st.down) ∧ w.cell? ⟨p.r, 5, none⟩ = some (.int .i64 st.lost) ∧ w.cell? ⟨p.r, 6, none⟩ = some (.int .i64 st.calls) ∧ w.cell? ⟨p.r, 7, none⟩ = some p.kv := by
  have hr : w.heap[p.r]? = _ := h.holds .r
  simp [World.cell?, hr]
theorem IsC.froz {S : Nat → Prop} {p : Rep} {st : St} {w : World} (h : IsC S p st w) (o : Nat) : w.frozen? ⟨p.r, o, none⟩ = false := by
  have hr : w.heap[p.r]? = _ := h.holds .r
  simp [World.frozen?, hr]

theorem IsC.step {S : Nat → Prop} {p p' : Rep} {st st' : St} {w w' : World} (h : IsC S p st w) (C : Sl → Prop) (hb : But (fun b => ∃ s, C s ∧ p.at s = some b) w w')
    (hc : ∀ s, C s → Holds w' p' st' s) (ho : ∀ s, ¬ C s → (Holds w p st s → Holds w p' st' s) ∧ p'.at s = p.at s)
    (hl : ∀ s b, C s → p'.at s = some b → p.at s = some b ∨ w.heap.size ≤ b) (hi : ∀ s s' b, C s → C s' → p'.at s = some b → p'.at s' = some b → s = s') : IsC (Grew S w w') p' st' w' ∧ But S w w' := by
  have hold : ∀ s, Holds w' p' st' s := fun s => by
    by_cases e : C s
    · exact hc s e
    · obtain ⟨h1, h2⟩ := ho s e
      refine (h1 (h.holds s)).kept fun b hb' => ?_
      rw [h2] at hb'
      refine hb.block b (h.lt hb') ?_
      rintro ⟨s', e', hs'⟩
      exact e (h.inj s s' b hb' hs' ▸ e')
  refine ⟨⟨hold, fun s s' b h1 h2 => ?_, fun s b h1 => ?_⟩, hb.mono fun i ⟨s, _, hs⟩ => h.inS s i hs⟩
  · by_cases e : C s <;> by_cases e' : C s'
    · exact hi s s' b e e' h1 h2
    · have h3 := (ho s' e').2
      rw [h3] at h2
      rcases hl s b e h1 with h4 | h4
      · exact h.inj s s' b h4 h2
      · have := h.lt h2
        omega
    · have h3 := (ho s e).2
      rw [h3] at h1
      rcases hl s' b e' h2 with h4 | h4
      · exact h.inj s s' b h1 h4
      · have := h.lt h1
        omega
    · rw [(ho s e).2] at h1
      rw [(ho s' e').2] at h2
      exact h.inj s s' b h1 h2
  · have hlt := (hold s).lt b h1
    by_cases e : C s
    · rcases hl s b e h1 with h4 | h4
      · exact .inl (h.inS s b h4)
      · exact .inr ⟨h4, hlt⟩
    · rw [(ho s e).2] at h1
      exact .inl (h.inS s b h1)

theorem IsC.lookF {S : Nat → Prop} {p : Rep} {st : St} {w : World} (h : IsC S p st w) (f : Int) (hf : -9223372036854775808 ≤ f ∧ f ≤ 9223372036854775807) :
    ∃ a cap, (∀ w' : World, w'.heap = w.heap → (Instr.lookup 52 (.map (some p.fm)) (.int .i64 f) false).run Try.prog w' = .ok (.slice a (st.now f).length cap) w') ∧ OwnB w (.slice a (st.now f).length cap) (st.now f) ∧ blk (.slice a (st.now f).length cap) = p.at (.f f) ∧ (st.now f).length ≤ cap ∧ cap ≤ 9223372036854775807 := by
  have hm0 : MapIs Try.prog 3 w p.fm (mapF p.fv) := h.holds .fm
  have hm : ∀ w' : World, w'.heap = w.heap → MapIs Try.prog 3 w' p.fm (mapF p.fv) := fun w' e => hm0.kept (by rw [e])
  have hv : OwnO w (p.fv f) (st.now f) := h.holds (.f f)
  have hrun := fun w' e => (hm w' e).lookup lawI Try.underlying52 (zero62 w') (Maps.keyOf_int_mk Try.underlying3 (wf_i64 hf))
  have hg := hv.getD
  obtain ⟨a, cap, e, h1, h2⟩ := hg.shape
  simp only [mapF] at hrun
  have hbl := blkO (p.fv f)
  rw [e] at hrun hg hbl
  unfold maxLen at h2
  exact ⟨a, cap, hrun, hg, hbl, h1, by omega⟩
theorem IsC.lookD {S : Nat → Prop} {p : Rep} {st : St} {w : World} (h : IsC S p st w) (f : Int) (hf : -9223372036854775808 ≤ f ∧ f ≤ 9223372036854775807) :
    ∃ a cap, (∀ w' : World, w'.heap = w.heap → (Instr.lookup 52 (.map (some p.dm)) (.int .i64 f) false).run Try.prog w' = .ok (.slice a (st.dur f).length cap) w') ∧ OwnB w (.slice a (st.dur f).length cap) (st.dur f) ∧ blk (.slice a (st.dur f).length cap) = p.at (.d f) ∧ (st.dur f).length ≤ cap ∧ cap ≤ 9223372036854775807 := by
  have hm0 : MapIs Try.prog 3 w p.dm (mapF p.dv) := h.holds .dm
  have hm : ∀ w' : World, w'.heap = w.heap → MapIs Try.prog 3 w' p.dm (mapF p.dv) := fun w' e => hm0.kept (by rw [e])
  have hv : OwnO w (p.dv f) (st.dur f) := h.holds (.d f)
  have hrun := fun w' e => (hm w' e).lookup lawI Try.underlying52 (zero62 w') (Maps.keyOf_int_mk Try.underlying3 (wf_i64 hf))
  have hg := hv.getD
  obtain ⟨a, cap, e, h1, h2⟩ := hg.shape
  simp only [mapF] at hrun
  have hbl := blkO (p.dv f)
  rw [e] at hrun hg hbl
  unfold maxLen at h2
  exact ⟨a, cap, hrun, hg, hbl, h1, by omega⟩
theorem IsC.lookL {S : Nat → Prop} {p : Rep} {st : St} {w : World} (h : IsC S p st w) {s : Int × Nat} {kl : Lit} (hk : keyOf Try.prog 69 (keyS s) = some kl) (w' : World) (hw : w'.heap = w.heap) :
    (Instr.lookup 53 (.map (some p.lm)) (.agg #[.int .i64 s.1, .int .i64 s.2]) false).run Try.prog w' = .ok (.bool (decide (s ∈ st.q))) w' := by
  have hm0 : MapIs Try.prog 69 w p.lm (setQ st.q) := h.holds .lm
  have hm : MapIs Try.prog 69 w' p.lm (setQ st.q) := hm0.kept (by rw [hw])
  have := hm.lookup lawS Try.underlying53 (zero4 _) hk
  by_cases hin : s ∈ st.q
  · rw [setQ_mem hin] at this
    simp only [hin, decide_true]
    exact this
  · rw [setQ_not hin] at this
    simp only [hin, decide_false]
    exact this


theorem IsC.dput {S : Nat → Prop} {p : Rep} {st : St} {w w1 : World} (h : IsC S p st w) (f : Int) (hf : -9223372036854775808 ≤ f ∧ f ≤ 9223372036854775807) {v' : Value} {l' : List UInt8} (hg : w.grownBy w1 (p.at (.d f))) (ho : OwnB w1 v' l')
    (hb : blk v' = none ∨ blk v' = p.at (.d f) ∨ ∃ g, blk v' = some g ∧ w.heap.size ≤ g) :
    ∃ w2, (Instr.mapUpdate 52 (.map (some p.dm)) (.int .i64 f) v').run Try.prog w1 = .ok () w2 ∧ IsC (Grew S w w2) { p with dv := upd p.dv f (some v') } { st with dur := upd st.dur f l' } w2 ∧
      But (fun b => ∃ s, (s = Sl.dm ∨ s = .d f) ∧ p.at s = some b) w w2 ∧ w1.grownBy w2 (some p.dm) ∧ w2.heap.size = w1.heap.size := by
  have hlm := h.lt (s := .dm) rfl
  have hsz := hg.size
  have ne_m : p.at (.d f) ≠ some p.dm := fun e => by have := h.inj (.d f) .dm p.dm e rfl; cases this
  have hm1 : MapIs Try.prog 3 w1 p.dm (mapF p.dv) := MapIs.kept (h.holds .dm) (hg.block _ hlm (Ne.symm ne_m))
  obtain ⟨w2, hrun, hm2, hg2, hs2⟩ := hm1.update lawI Try.underlying52 (Maps.keyOf_int_mk Try.underlying3 (wf_i64 hf)) (mapF_sets p.dv f v')
  have hvm : blk v' ≠ some p.dm := Own.ne_map ho hm1
  have hbut : But (fun b => ∃ s, (s = Sl.dm ∨ s = .d f) ∧ p.at s = some b) w w2 :=
    (But.of hg fun b e _ => ⟨.d f, .inr rfl, e⟩).trans (S' := fun b => ∃ s, (s = Sl.dm ∨ s = .d f) ∧ p.at s = some b) (But.of hg2 fun b e _ => ⟨.dm, .inl rfl, e⟩) (fun _ _ h => h)
  have hst := h.step (p' := { p with dv := upd p.dv f (some v') }) (st' := { st with dur := upd st.dur f l' }) (fun s => s = Sl.dm ∨ s = .d f) hbut
    (by
      rintro s (rfl | rfl)
      · exact hm2
      · show OwnO w2 (upd p.dv f (some v') f) (upd st.dur f l' f)
        rw [upd_same, upd_same]
        exact Own.grown ho hg2 (.inr hvm))
    (fun s hs => by
      refine ⟨fun hh => ?_, ?_⟩
      · cases s with
        | d n =>
          have hn : n ≠ f := fun e => hs (.inr (by rw [e]))
          show OwnO w (upd p.dv f (some v') n) (upd st.dur f l' n)
          rw [upd_other _ _ hn, upd_other _ _ hn]
          exact hh
        | dm => exact absurd (.inl rfl) hs
        | _ => exact hh
      · cases s with
        | d n =>
          have hn : n ≠ f := fun e => hs (.inr (by rw [e]))
          show (upd p.dv f (some v') n).bind blk = (p.dv n).bind blk
          rw [upd_other _ _ hn]
        | _ => rfl)
    (by
      rintro s b (rfl | rfl) h1
      · exact .inl h1
      · have h1' : blk v' = some b := by
          have : (upd p.dv f (some v') f).bind blk = some b := h1
          rwa [upd_same] at this
        rcases hb with e | e | ⟨g, e, hgt⟩
        · rw [e] at h1'; cases h1'
        · exact .inl (by rw [← e]; exact h1')
        · rw [e] at h1'; cases h1'; exact .inr hgt)
    (by
      have hd : ∀ b, Rep.at { p with dv := upd p.dv f (some v') } (.d f) = some b → blk v' = some b := fun b h1 => by
        have : (upd p.dv f (some v') f).bind blk = some b := h1
        rwa [upd_same] at this
      rintro s s' b (rfl | rfl) (rfl | rfl) h1 h2
      · rfl
      · exfalso; have e := Option.some.inj h1; exact hvm (by rw [hd b h2, ← e])
      · exfalso; have e := Option.some.inj h2; exact hvm (by rw [hd b h1, ← e])
      · rfl)
  exact ⟨w2, hrun, hst.1, hbut, hg2, hs2⟩

theorem IsC.fput {S : Nat → Prop} {p : Rep} {st : St} {w w1 : World} (h : IsC S p st w) (f : Int) (hf : -9223372036854775808 ≤ f ∧ f ≤ 9223372036854775807) {v' : Value} {l' : List UInt8} (hg : w.grownBy w1 (p.at (.f f))) (ho : OwnB w1 v' l')
    (hb : blk v' = none ∨ blk v' = p.at (.f f) ∨ ∃ g, blk v' = some g ∧ w.heap.size ≤ g) :
    ∃ w2, (Instr.mapUpdate 52 (.map (some p.fm)) (.int .i64 f) v').run Try.prog w1 = .ok () w2 ∧ IsC (Grew S w w2) { p with fv := upd p.fv f (some v') } { st with now := upd st.now f l' } w2 ∧
      But (fun b => ∃ s, (s = Sl.fm ∨ s = .f f) ∧ p.at s = some b) w w2 ∧ w1.grownBy w2 (some p.fm) ∧ w2.heap.size = w1.heap.size := by
  have hlm := h.lt (s := .fm) rfl
  have hsz := hg.size
  have ne_m : p.at (.f f) ≠ some p.fm := fun e => by have := h.inj (.f f) .fm p.fm e rfl; cases this
  have hm1 : MapIs Try.prog 3 w1 p.fm (mapF p.fv) := MapIs.kept (h.holds .fm) (hg.block _ hlm (Ne.symm ne_m))
  obtain ⟨w2, hrun, hm2, hg2, hs2⟩ := hm1.update lawI Try.underlying52 (Maps.keyOf_int_mk Try.underlying3 (wf_i64 hf)) (mapF_sets p.fv f v')
  have hvm : blk v' ≠ some p.fm := Own.ne_map ho hm1
  have hbut : But (fun b => ∃ s, (s = Sl.fm ∨ s = .f f) ∧ p.at s = some b) w w2 :=
    (But.of hg fun b e _ => ⟨.f f, .inr rfl, e⟩).trans (S' := fun b => ∃ s, (s = Sl.fm ∨ s = .f f) ∧ p.at s = some b) (But.of hg2 fun b e _ => ⟨.fm, .inl rfl, e⟩) (fun _ _ h => h)
  have hst := h.step (p' := { p with fv := upd p.fv f (some v') }) (st' := { st with now := upd st.now f l' }) (fun s => s = Sl.fm ∨ s = .f f) hbut
    (by
      rintro s (rfl | rfl)
      · exact hm2
      · show OwnO w2 (upd p.fv f (some v') f) (upd st.now f l' f)
        rw [upd_same, upd_same]
        exact Own.grown ho hg2 (.inr hvm))
    (fun s hs => by
      refine ⟨fun hh => ?_, ?_⟩
      · cases s with
        | f n =>
          have hn : n ≠ f := fun e => hs (.inr (by rw [e]))
          show OwnO w (upd p.fv f (some v') n) (upd st.now f l' n)
          rw [upd_other _ _ hn, upd_other _ _ hn]
          exact hh
        | fm => exact absurd (.inl rfl) hs
        | _ => exact hh
      · cases s with
        | f n =>
          have hn : n ≠ f := fun e => hs (.inr (by rw [e]))
          show (upd p.fv f (some v') n).bind blk = (p.fv n).bind blk
          rw [upd_other _ _ hn]
        | _ => rfl)
    (by
      rintro s b (rfl | rfl) h1
      · exact .inl h1
      · have h1' : blk v' = some b := by
          have : (upd p.fv f (some v') f).bind blk = some b := h1
          rwa [upd_same] at this
        rcases hb with e | e | ⟨g, e, hgt⟩
        · rw [e] at h1'; cases h1'
        · exact .inl (by rw [← e]; exact h1')
        · rw [e] at h1'; cases h1'; exact .inr hgt)
    (by
      have hd : ∀ b, Rep.at { p with fv := upd p.fv f (some v') } (.f f) = some b → blk v' = some b := fun b h1 => by
        have : (upd p.fv f (some v') f).bind blk = some b := h1
        rwa [upd_same] at this
      rintro s s' b (rfl | rfl) (rfl | rfl) h1 h2
      · rfl
      · exfalso; have e := Option.some.inj h1; exact hvm (by rw [hd b h2, ← e])
      · exfalso; have e := Option.some.inj h2; exact hvm (by rw [hd b h1, ← e])
      · rfl)
  exact ⟨w2, hrun, hst.1, hbut, hg2, hs2⟩
end Go.Proofs.Ytkphmkhdlkdphaa
