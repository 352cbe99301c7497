/- settle: what lies outside the walk. -/
import Derived.Test.YtkphmkhdlkdphaaG
namespace Go.Proofs.Ytkphmkhdlkdphaa
open Go.RowKit Go.ChangeShapes Go.WideShapes

/-- delete at a step of a region that draws its order. -/
theorem step_delete {P : Program} {w w' : World} {ops : Array Oper} {o : Oper} {a : Act} {K : Act → World → Prop} {Q : Exit → Act → World → Prop} {E : Prop} (hgd : o.guard = none) (m x : Operand) (t kt : TypeId)
    (ho : o.op = .call { callee := .builtin .delete, args := #[m, x], argTypes := #[t, kt] }) (vm vx : Value) (hm : a.eval m = vm) (hx : a.eval x = vx) (hr : (Builtin.delete_ #[t, kt] o.type #[vm, vx]).run P w = .ok (.tuple #[]) w')
    (hk : K (a.put o.dst (.tuple #[])) w') : if Region.wanted o (yielded ops a.tmps) = true then Oper.wp P o a w K Q else E := by
  have hw : Region.wanted o (yielded ops a.tmps) = true := by simp [Region.wanted, hgd]
  rw [if_pos hw]
  unfold Oper.wp execOp
  simp only [ho, resolve, invoke, builtin, Sem.run_bind, Sem.run_pure, Result.andThen_ok, List.map_toArray, List.map_cons, List.map_nil, hm, hx, hr]
  exact hk

def isNot (f : Int) (s : Int × Nat) : Bool := !decide (s.1 = f)
/-- The sectors that are listed behind k rounds; those that are kept. -/
def listedAt (q : List (Int × Nat)) (f : Int) (k : Nat) : List (Int × Nat) := (q.take k).filter (isNot f) ++ q.drop k
def keptAt (q : List (Int × Nat)) (f : Int) (k : Nat) : List (Int × Nat) := (q.take k).filter (isNot f)

theorem keptAt_yes {q : List (Int × Nat)} {f : Int} {k : Nat} (h : k < q.length) (hs : q[k].1 ≠ f) : keptAt q f (k + 1) = keptAt q f k ++ [q[k]] ∧ listedAt q f (k + 1) = listedAt q f k := by
  unfold keptAt listedAt
  have e : isNot f q[k] = true := by simp [isNot, hs]
  rw [List.take_succ_eq_append_getElem h, List.filter_append]
  have e2 : List.filter (isNot f) [q[k]] = [q[k]] := by simp [List.filter, e]
  rw [e2]
  refine ⟨rfl, ?_⟩
  rw [List.append_assoc, List.singleton_append, List.getElem_cons_drop]
theorem keptAt_no {q : List (Int × Nat)} {f : Int} {k : Nat} (h : k < q.length) (hs : q[k].1 = f) : keptAt q f (k + 1) = keptAt q f k := by
  unfold keptAt
  have e : isNot f q[k] = false := by simp [isNot, hs]
  rw [List.take_succ_eq_append_getElem h, List.filter_append]
  simp [List.filter, e]
theorem listedAt_no {q : List (Int × Nat)} {f : Int} {k : Nat} (h : k < q.length) (hs : q[k].1 = f) (hn : q.Nodup) : Drops (setQ (listedAt q f k)) (keyS q[k]) (setQ (listedAt q f (k + 1))) := by
  have e1 : listedAt q f (k + 1) = keptAt q f k ++ q.drop (k + 1) := by show keptAt q f (k + 1) ++ _ = _; rw [keptAt_no h hs]
  have e0 : listedAt q f k = keptAt q f k ++ q[k] :: q.drop (k + 1) := by show keptAt q f k ++ _ = _; rw [List.getElem_cons_drop]
  refine ⟨setQ_not ?_, fun x hx => ?_⟩
  · rw [e1, List.mem_append]
    rintro (h1 | h1)
    · have := (List.mem_filter.1 h1).2
      simp [isNot, hs] at this
    · have hd : (q.drop k).Nodup := List.Sublist.nodup (List.drop_sublist k q) hn
      rw [← List.getElem_cons_drop h] at hd
      exact (List.nodup_cons.1 hd).1 h1
  · unfold setQ
    congr 1
    apply propext
    rw [e0, e1]
    constructor
    · rintro ⟨s, hs, e⟩
      refine ⟨s, ?_, e⟩
      rcases List.mem_append.1 hs with h1 | h1
      · exact List.mem_append_left _ h1
      · exact List.mem_append_right _ (List.mem_cons_of_mem _ h1)
    · rintro ⟨s, hs, e⟩
      refine ⟨s, ?_, e⟩
      rcases List.mem_append.1 hs with h1 | h1
      · exact List.mem_append_left _ h1
      · rcases List.mem_cons.1 h1 with h2 | h2
        · exact absurd (by rw [← e, h2]) hx
        · exact List.mem_append_right _ h2
theorem listedAt_zero (q : List (Int × Nat)) (f : Int) : listedAt q f 0 = q := by simp [listedAt]
theorem listedAt_end {q : List (Int × Nat)} {f : Int} {k : Nat} (h : q.length ≤ k) : listedAt q f k = q.filter (isNot f) ∧ keptAt q f k = q.filter (isNot f) := by
  unfold listedAt keptAt
  rw [List.take_of_length_le h, List.drop_eq_nil_of_le h]
  simp
theorem keptAt_len (q : List (Int × Nat)) (f : Int) (k : Nat) : (keptAt q f k).length ≤ q.length :=
  Nat.le_trans (List.length_filter_le _ _) (by rw [List.length_take]; omega)

/-- What holds at the head of a round of settle. -/
def SetAt (p : Rep) (q : List (Int × Nat)) (f : Int) (w1 : World) (k : Nat) (ov : Value) (wr : World) : Prop :=
  But (fun b => b = p.lm) w1 wr ∧ MapIs Try.prog 69 wr p.lm (setQ (listedAt q f k)) ∧ Own wr 69 2 ov (keptAt q f k).length (cellsQ (keptAt q f k)) ∧ ∀ b, blk ov = some b → w1.heap.size ≤ b

theorem SetAt.grown {p : Rep} {q : List (Int × Nat)} {f : Int} {w1 wr w2 : World} {k : Nat} {ov : Value} (h : SetAt p q f w1 k ov wr) (hg : wr.grownBy w2 none) : SetAt p q f w1 k ov w2 := by
  obtain ⟨h1, h2, h3, h4⟩ := h
  exact ⟨h1.trans (S' := fun _ => False) (But.of hg fun b e _ => by cases e) (fun _ _ h => h.elim), h2.kept (hg.block _ h2.lt (by simp)), h3.grown0 hg, h4⟩

theorem SetAt.push {p : Rep} {q : List (Int × Nat)} {f : Int} {w1 wr : World} {k : Nat} {ov : Value} {s : Int × Nat} (h : SetAt p q f w1 k ov wr) (hk : k < q.length) (hs : q[k] = s) (hne : s.1 ≠ f) (hq : q.length ≤ 4194304) :
    ∃ a' n' c' w3, (Builtin.append_ #[54, 54] 54 #[ov, .slice (some ⟨wr.heap.size + 1, 0, none⟩) 1 1]).run Try.prog ((wr.alloc (.cells #[.int .i64 s.1, .int .i64 s.2] 69)).alloc (.cells #[.int .i64 s.1, .int .i64 s.2] 69)) = .ok (.slice a' n' c') w3 ∧ SetAt p q f w1 (k + 1) (.slice a' n' c') w3 := by
  obtain ⟨i0, hi, hz0, hz1, hz2⟩ := info_parts infoS
  have hg : wr.grownBy ((wr.alloc (.cells #[.int .i64 s.1, .int .i64 s.2] 69)).alloc (.cells #[.int .i64 s.1, .int .i64 s.2] 69)) none := (World.grownBy_alloc _ _ _).trans (World.grownBy_alloc _ _ _)
  obtain ⟨hb, hm, ho, hn⟩ := h.grown hg
  have hsrc : Src Try.prog 2 54 (.slice (some ⟨wr.heap.size + 1, 0, none⟩) 1 1) 1 [.int .i64 s.1, .int .i64 (s.2 : Int)] ((wr.alloc (.cells #[.int .i64 s.1, .int .i64 s.2] 69)).alloc (.cells #[.int .i64 s.1, .int .i64 s.2] 69)) := by
    have e : wr.heap.size + 1 = (wr.alloc (.cells #[.int .i64 s.1, .int .i64 s.2] 69)).heap.size := by simp
    rw [e]
    exact Src.ofSlice _ Try.underlying54 _ 1 1 _ (by simp) (World.news_of_block (cs := #[.int .i64 s.1, .int .i64 (s.2 : Int)]) (t := 69) (fr := (0, 0)) (heap_alloc_new _ _)) (by simp [Value.oneCell'])
  have hlen := keptAt_len q f k
  obtain ⟨v', w3, hrun, h1, h2, h3⟩ := own_append (P := Try.prog) (ty := 54) Try.underlying54 hi hz0 hz1 hz2 rfl ho hsrc (by unfold maxLen; omega) (by omega)
  obtain ⟨a', c', rfl, _, _⟩ := h1.shape
  refine ⟨a', _, c', w3, hrun, ?_, ?_, ?_, ?_⟩
  · exact hb.trans (S' := fun b => blk ov = some b) (But.of h2 fun b e _ => e) (fun i hi e => by have := hn i e; omega)
  · have := (keptAt_yes hk (by rw [hs]; exact hne)).2
    rw [this]
    exact hm.kept (h2.block _ hm.lt (fun e => Own.ne_map ho hm e.symm))
  · have e := (keptAt_yes hk (by rw [hs]; exact hne)).1
    rw [hs] at e
    rw [e]
    have e1 : (keptAt q f k ++ [s]).length = (keptAt q f k).length + 1 := by simp
    have e2 : cellsQ (keptAt q f k ++ [s]) = cellsQ (keptAt q f k) ++ [.int .i64 s.1, .int .i64 s.2] := by simp [cellsQ]
    rw [e1, e2]
    exact h1
  · intro b hb'
    rcases h3 with e | e | e
    · rw [e] at hb'; cases hb'
    · rw [e] at hb'; exact hn b hb'
    · rw [e] at hb'; cases hb'
      exact hb.size

theorem settle_end {S : Nat → Prop} {p : Rep} {st : St} {w1 wr : World} {f : Int} {ov : Value} {k : Nat} (h : IsC S p st w1) (hk : st.q.length ≤ k) (hs : SetAt p st.q f w1 k ov wr) :
    IsC (Grew S w1 (wr.setCell ⟨p.r, 2, none⟩ ov)) { p with pv := ov } { st with q := st.q.filter (isNot f) } (wr.setCell ⟨p.r, 2, none⟩ ov) ∧ But S w1 (wr.setCell ⟨p.r, 2, none⟩ ov) := by
  obtain ⟨h1, h2, h3, h4⟩ := hs
  obtain ⟨e1, e2⟩ := listedAt_end (f := f) hk
  rw [e1] at h2
  rw [e2] at h3
  have hlr := h.lt (s := .r) rfl
  have hll := h.lt (s := .lm) rfl
  have nrl : p.r ≠ p.lm := fun e => by have := h.inj .r .lm p.r rfl (by rw [e]; rfl); cases this
  have hr := (h1.block p.r hlr nrl).trans (h.holds .r)
  have hr2 := Lib.heap_setCell_same (i := 2) hr ov
  have hg := grownBy_setCell' wr p.r 2 ov
  have hsz := h1.size
  refine h.step (p' := { p with pv := ov }) (st' := { st with q := st.q.filter (isNot f) }) (fun s => s = Sl.r ∨ s = .pv ∨ s = .lm) ?_ ?_ ?_ ?_ ?_
  · exact (h1.mono fun b e => ⟨.lm, .inr (.inr rfl), by rw [e]; rfl⟩).trans (S' := fun b => b = p.r) (But.of hg fun b e _ => by cases e; rfl) (fun i _ e => ⟨.r, .inl rfl, by rw [e]; rfl⟩)
  · rintro s (rfl | rfl | rfl)
    · exact hr2
    · exact h3.grown hg (by
        cases hb : blk ov with
        | none => exact .inl rfl
        | some b => right; intro e; cases e; have := h4 _ hb; omega)
    · exact h2.kept (hg.block _ h2.lt (fun e => nrl (Option.some.inj e).symm))
  · intro s hs
    refine ⟨fun hh => ?_, ?_⟩
    · cases s <;> first | exact hh | (exfalso; apply hs; simp; done)
    · cases s <;> first | rfl | (exfalso; apply hs; simp; done)
  · rintro s b (rfl | rfl | rfl) hb
    · exact .inl hb
    · exact .inr (h4 b hb)
    · exact .inl hb
  · rintro s s' b (rfl | rfl | rfl) (rfl | rfl | rfl) hb hb' <;> first
      | rfl
      | (exfalso; have e1 := Option.some.inj hb; have e2 := Option.some.inj hb'; exact nrl (e1.trans e2.symm))
      | (exfalso; have e1 := Option.some.inj hb; have e2 := Option.some.inj hb'; exact nrl (e2.trans e1.symm))
      | (exfalso; have e1 := Option.some.inj hb; have e2 := h4 b hb'; simp only at e1; omega)
      | (exfalso; have e1 := Option.some.inj hb'; have e2 := h4 b hb; simp only at e1; omega)
end Go.Proofs.Ytkphmkhdlkdphaa
