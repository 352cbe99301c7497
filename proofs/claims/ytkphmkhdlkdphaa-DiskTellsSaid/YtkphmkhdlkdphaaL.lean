/- The contract of list. -/
import Derived.Test.YtkphmkhdlkdphaaD5
import Derived.DeepKeys5
import Derived.BigRegion
import Derived.Deep.RegionLaw
namespace Go.Proofs.Ytkphmkhdlkdphaa
open Go.RowKit Go.ChangeShapes Go.WideShapes

theorem lawS : Maps.Keyed Try.prog 69 := Maps.Keyed.of_law (deep_law_laid (by kernel_rfl) (m := 2) (by decide) (of_decide_eq_true (by kernel_rfl)) (by kernel_rfl) (by kernel_rfl))
theorem keyS_of (s : Int × Nat) (h1 : isF s.1 = true) (h2 : s.2 ≤ 16777216) : ∃ kl, keyOf Try.prog 69 (keyS s) = some kl := by
  have h := isF_t.1 h1
  have w1 : (Lit.int .i64 s.1).wf = true := wf_i64 (by omega)
  have w2 : (Lit.int .i64 (s.2 : Int)).wf = true := wf_i64 (by omega)
  have k1 : Try.prog.keyType 69 = true := by kernel_rfl
  have k2 : (keyS s).formed Try.prog 69 = true := by kernel_rfl
  have k3 : Try.prog.cellsOf 69 = 2 := by kernel_rfl
  have k4 : Try.prog.cellsOf 3 = 1 := by kernel_rfl
  have k5 : Try.prog.types.size + 1 = 105 + 1 + 1 := by kernel_rfl
  have hu := Try.underlying69
  unfold keyOf
  rw [Try.underlying69]
  simp only [k1, k2, k5, Bool.and_true, if_true]
  have e : Try.prog.keyLits (105 + 1 + 1) 69 (keyS s).cells.toList = some [.int .i64 s.1, .int .i64 (s.2 : Int)] := by
    unfold Program.keyLits
    rw [Try.underlying69]
    simp [keyS, Value.cells, k3, k4]
    unfold Program.keyLits
    simp [Try.underlying3, w1, w2]
  rw [e]
  exact ⟨_, rfl⟩

theorem IsD.lookL {S : Nat → Prop} {p : Rep} {st : St} {w : World} (h : IsD S p st w) {s : Int × Nat} {kl : Lit} (hk : keyOf Try.prog 69 (keyS s) = some kl) (w' : World) (hw : w'.heap = w.heap) :
    (Instr.lookup 53 (.map (some p.lm)) (.agg #[.int .i64 s.1, .int .i64 s.2]) false).run Try.prog w' = .ok (.bool (decide (s ∈ st.q))) w' := by
  have hm0 : MapIs Try.prog 69 w p.lm (setQ st.q) := h.holds .lm
  have hm : MapIs Try.prog 69 w' p.lm (setQ st.q) := hm0.kept (by rw [hw])
  have := hm.lookup lawS Try.underlying53 (zero4 _) hk
  by_cases hin : s ∈ st.q
  · rw [setQ_mem hin] at this
    simp only [hin, decide_true]
    exact this
  · rw [setQ_not hin] at this
    simp only [hin, decide_false]
    exact this

/-- append at a step of a region that draws its order. -/
theorem step_own_append {P : Program} {w : World} {e size : Nat} {v : Value} {n : Nat} {xs : List Value} {ops : Array Oper} {o : Oper} {a : Act} {K : Act → World → Prop} {Q : Exit → Act → World → Prop} {E : Prop} (hgd : o.guard = none) (s x : Operand) (t tx : TypeId)
    (ho : o.op = .call { callee := .builtin .append, args := #[s, x], argTypes := #[t, tx] }) {i : TypeInfo} {z : Value} {m bytes : Nat} {news : List Value} (ht : P.underlying t = some (.slice e)) (hi : P.info? e = some i) (hz : i.zero = some z)
    (hsize : i.size = size) (hby : i.bytes = bytes) (hzs : z.cells.size = size) (hs : a.eval s = v) (h : Own w e size v n xs) (vx : Value) (hx : a.eval x = vx) (hsrc : Src P size tx vx m news w) (h63 : n + m ≤ maxLen) (hbytes : (n + m) * bytes ≤ 140737488355328)
    (hk : ∀ a' c' w', Own w' e size (.slice a' (n + m) c') (n + m) (xs ++ news) → w.grownBy w' (blk v) → (blk (.slice a' (n + m) c') = none ∨ blk (.slice a' (n + m) c') = blk v ∨ blk (.slice a' (n + m) c') = some w.heap.size) → K (a.put o.dst (.slice a' (n + m) c')) w') :
    if Region.wanted o (yielded ops a.tmps) = true then Oper.wp P o a w K Q else E := by
  have hw : Region.wanted o (yielded ops a.tmps) = true := by simp [Region.wanted, hgd]
  rw [if_pos hw]
  obtain ⟨v', w', hr, h1, h2, h3⟩ := own_append (P := P) (ty := o.type) ht hi hz hsize hby hzs h hsrc h63 hbytes
  obtain ⟨a', c', rfl, _, _⟩ := h1.shape
  unfold Oper.wp execOp
  simp only [ho, resolve, invoke, builtin, Sem.run_bind, Sem.run_pure, Result.andThen_ok, List.map_toArray, List.map_cons, List.map_nil, hs, hx, hr]
  exact hk a' c' w' h1 h2 h3

theorem addQ_snoc (q l : List (Int × Nat)) (s : Int × Nat) : addQ q (l ++ [s]) = addS (addQ q l) s := by simp [addQ, List.foldl_append]
theorem secs_take (f : Int) (a n k : Nat) (h : k < (a + n + 63) / 64 - a / 64) : (secs f a n).take (k + 1) = (secs f a n).take k ++ [(f, a / 64 + k)] := by
  unfold secs
  rw [List.take_succ_eq_append_getElem (by simpa using h)]
  simp

def withQ (st : St) (q : List (Int × Nat)) : St := { st with q := q }
theorem addQ_wf {st : St} (h : WF st) {f : Int} (hf : isF f = true) {l : List (Int × Nat)} (hl : ∀ x ∈ l, x.1 = f ∧ 64 * x.2 < (st.now f).length) : WF (withQ st (addQ st.q l)) := by
  refine ⟨h.nf, h.len, h.dl, fun x hx => ?_, nodup_addQ h.nd, h.lost, h.calls, h.keep⟩
  rcases mem_addQ.1 hx with hx | hx
  · exact h.q x hx
  · obtain ⟨e1, e2⟩ := hl x hx
    exact ⟨by rw [e1]; exact hf, by rw [e1]; exact e2⟩

theorem Af.grown {S : Nat → Prop} {r : Nat} {st : St} {w w1 w2 : World} (h : Af S r st w w1) (hg : w1.grownBy w2 none) : Af S r st w w2 := by
  obtain ⟨⟨p, hp, hd⟩, hb⟩ := h
  refine ⟨⟨p, hp, (hd.grown hg).mono fun b hb' => ?_⟩, hb.trans (S' := fun _ => False) (But.of hg fun b e _ => by cases e) (fun _ _ e => e.elim)⟩
  rcases hb' with h | ⟨h1, h2⟩
  · exact .inl h
  · exact .inr ⟨h1, Nat.lt_of_lt_of_le h2 hg.size⟩
theorem grown_drewN (w : World) (n : Nat) : w.grownBy (w.drewN n) none := ⟨rfl, rfl, rfl, Nat.le_refl _, fun _ _ _ => rfl⟩
theorem grown_drew (w : World) : w.grownBy w.drew none := ⟨rfl, rfl, rfl, Nat.le_refl _, fun _ _ _ => rfl⟩

theorem list_mid {S : Nat → Prop} {p : Rep} {st : St} {w w3 : World} (h : IsD S p st w) {s : Int × Nat} {kl : Lit} (hkl : keyOf Try.prog 69 (keyS s) = some kl) (hwf : WF (withQ st (st.q ++ [s]))) {a' : Option Addr} {c' : Nat}
    (hall : w.grownBy w3 (blk p.pv)) (hown3 : Own w3 69 2 (.slice a' (st.q.length + 1) c') (st.q.length + 1) (cellsQ st.q ++ [.int .i64 s.1, .int .i64 s.2]))
    (hbl3 : blk (.slice a' (st.q.length + 1) c') = none ∨ blk (.slice a' (st.q.length + 1) c') = blk p.pv ∨ ∃ g, blk (.slice a' (st.q.length + 1) c') = some g ∧ w.heap.size ≤ g) :
    (w3.setCell ⟨p.r, 2, none⟩ (.slice a' (st.q.length + 1) c')).cell? ⟨p.r, 3, none⟩ = some (.map (some p.lm)) ∧
    (∀ b, b < w.heap.size → (∀ s, p.at s ≠ some b) → (w3.setCell ⟨p.r, 2, none⟩ (.slice a' (st.q.length + 1) c')).heap[b]? = w.heap[b]?) ∧
    ∃ w5, (Instr.mapUpdate 53 (.map (some p.lm)) (.agg #[.int .i64 s.1, .int .i64 s.2]) (.bool true)).run Try.prog (w3.setCell ⟨p.r, 2, none⟩ (.slice a' (st.q.length + 1) c')).drew = .ok () w5 ∧
      IsD (Grew S w w5) { p with pv := .slice a' (st.q.length + 1) c' } (withQ st (st.q ++ [s])) w5 ∧ But S w w5 ∧ w5.cell? ⟨p.r, 3, none⟩ = some (.map (some p.lm)) ∧ (∀ b, b < w.heap.size → (∀ s, p.at s ≠ some b) → w5.heap[b]? = w.heap[b]?) := by
  have hlt := h.lt (s := .r) rfl
  have hllt := h.lt (s := .lm) rfl
  have ne_r : blk p.pv ≠ some p.r := fun e => by have := h.inj .pv .r p.r e rfl; cases this
  have ne_l : blk p.pv ≠ some p.lm := fun e => by have := h.inj .pv .lm p.lm e rfl; cases this
  have ne_rl : p.lm ≠ p.r := fun e => by have := h.inj .lm .r p.lm rfl (by rw [e]; rfl); cases this
  have hbr : w3.heap[p.r]? = w.heap[p.r]? := hall.block _ hlt (Ne.symm ne_r)
  have hr4 := Lib.heap_setCell_same (i := 2) (hbr.trans (h.holds .r)) (.slice a' (st.q.length + 1) c')
  have hg4 := grownBy_setCell' w3 p.r 2 (.slice a' (st.q.length + 1) c')
  have hsz := hall.size
  generalize w3.setCell ⟨p.r, 2, none⟩ (.slice a' (st.q.length + 1) c') = w4 at *
  have hsz4 := hg4.size
  have hoth : ∀ b, b < w.heap.size → (∀ s, p.at s ≠ some b) → w4.heap[b]? = w.heap[b]? := fun b hb hs =>
    (hg4.block b (by omega) (fun e => hs .r (by rw [e]; rfl))).trans (hall.block b hb (fun e => hs .pv e.symm))
  have hlm : MapIs Try.prog 69 w4.drew p.lm (setQ st.q) := MapIs.kept (h.holds .lm) ((hg4.block p.lm (by omega) (fun e => ne_rl (Option.some.inj e))).trans (hall.block _ hllt (Ne.symm ne_l)))
  obtain ⟨w5, hrun, hm5, hg5, hs5⟩ := hlm.update lawS Try.underlying53 hkl (setQ_sets st.q s)
  have hsz5 : w5.heap.size = w4.heap.size := hs5
  have hr5 : w5.heap[p.r]? = w4.heap[p.r]? := hg5.block p.r (by show _ < w4.heap.size; omega) (fun e => ne_rl (Option.some.inj e).symm)
  have hbut : But (fun b => ∃ s, (s = Sl.r ∨ s = .pv ∨ s = .lm) ∧ p.at s = some b) w w5 := by
    refine ((But.of hall fun b e _ => ⟨.pv, .inr (.inl rfl), e⟩).trans (S' := fun b => ∃ s, (s = Sl.r ∨ s = .pv ∨ s = .lm) ∧ p.at s = some b) (But.of hg4 fun b e _ => ⟨.r, .inl rfl, e⟩) (fun i _ h => h)).trans (S' := fun b => ∃ s, (s = Sl.r ∨ s = .pv ∨ s = .lm) ∧ p.at s = some b) ?_ (fun i _ h => h)
    exact (But.of (grown_drew w4) fun b e _ => by cases e).trans (S' := fun b => ∃ s, (s = Sl.r ∨ s = .pv ∨ s = .lm) ∧ p.at s = some b) (But.of hg5 fun b e _ => ⟨.lm, .inr (.inr rfl), e⟩) (fun i _ h => h)
  have hst := h.step (p' := { p with pv := .slice a' (st.q.length + 1) c' }) (st' := withQ st (st.q ++ [s])) (w' := w5) (fun s => s = Sl.r ∨ s = .pv ∨ s = .lm) hbut
    (fun t ht => by
      rcases ht with rfl | rfl | rfl
      · exact hr5.trans hr4
      · show Own w5 69 2 _ (st.q ++ [s]).length (cellsQ (st.q ++ [s]))
        have e1 : (st.q ++ [s]).length = st.q.length + 1 := by simp
        have e2 : cellsQ (st.q ++ [s]) = cellsQ st.q ++ [.int .i64 s.1, .int .i64 s.2] := by simp [cellsQ]
        rw [e1, e2]
        refine hown3.kept fun b hb => ?_
        have hb3 := hown3.lt b hb
        have nb : b ≠ p.r ∧ b ≠ p.lm := by
          rcases hbl3 with e | e | ⟨g, e, hg⟩
          · rw [e] at hb; cases hb
          · rw [e] at hb
            exact ⟨fun e1 => ne_r (by rw [hb, e1]), fun e1 => ne_l (by rw [hb, e1])⟩
          · rw [e] at hb; cases hb
            exact ⟨fun e1 => by omega, fun e1 => by omega⟩
        exact (hg5.block b (by show _ < w4.heap.size; omega) (fun e => nb.2 (Option.some.inj e))).trans (hg4.block b hb3 (fun e => nb.1 (Option.some.inj e)))
      · exact hm5)
    (fun t ht => ⟨fun hh => by cases t <;> first | exact hh | exact absurd (.inl rfl) ht | exact absurd (.inr (.inl rfl)) ht | exact absurd (.inr (.inr rfl)) ht, by cases t <;> first | rfl | exact absurd (.inr (.inl rfl)) ht⟩)
    (fun t b ht h1 => by
      rcases ht with rfl | rfl | rfl
      · exact .inl h1
      · rcases hbl3 with e | e | ⟨g, e, hg⟩
        · have h1' : blk (.slice a' (st.q.length + 1) c') = some b := h1
          rw [e] at h1'; cases h1'
        · left
          have h1' : blk (.slice a' (st.q.length + 1) c') = some b := h1
          rw [e] at h1'; exact h1'
        · have h1' : blk (.slice a' (st.q.length + 1) c') = some b := h1
          rw [e] at h1'; cases h1'; exact .inr hg
      · exact .inl h1)
    (fun t t' b ht ht' h1 h2 => by
      have key : ∀ b, blk (.slice a' (st.q.length + 1) c') = some b → b ≠ p.r ∧ b ≠ p.lm := fun b hb => by
        rcases hbl3 with e | e | ⟨g, e, hg⟩
        · rw [e] at hb; cases hb
        · rw [e] at hb
          exact ⟨fun e1 => ne_r (by rw [hb, e1]), fun e1 => ne_l (by rw [hb, e1])⟩
        · rw [e] at hb; cases hb
          exact ⟨fun e1 => by omega, fun e1 => by omega⟩
      rcases ht with rfl | rfl | rfl <;> rcases ht' with rfl | rfl | rfl
      · rfl
      · exact absurd (Option.some.inj h1).symm (key b h2).1
      · exact absurd ((Option.some.inj h2).trans (Option.some.inj h1).symm) ne_rl
      · exact absurd (Option.some.inj h2).symm (key b h1).1
      · rfl
      · exact absurd (Option.some.inj h2).symm (key b h1).2
      · exact absurd ((Option.some.inj h1).trans (Option.some.inj h2).symm) ne_rl
      · exact absurd (Option.some.inj h1).symm (key b h2).2
      · rfl)
    hwf
  have hc4 : ∀ w' : World, w'.heap[p.r]? = w4.heap[p.r]? → w'.cell? ⟨p.r, 3, none⟩ = some (.map (some p.lm)) := fun w' e => by
    simp [World.cell?, e, hr4]
  exact ⟨hc4 w4 rfl, hoth, w5, hrun, hst.1, hst.2, hc4 w5 hr5, fun b hb hs => (hg5.block b (by show _ < w4.heap.size; omega) (fun e => hs .lm (by rw [Option.some.inj e]; rfl))).trans (hoth b hb hs)⟩

end Go.Proofs.Ytkphmkhdlkdphaa
