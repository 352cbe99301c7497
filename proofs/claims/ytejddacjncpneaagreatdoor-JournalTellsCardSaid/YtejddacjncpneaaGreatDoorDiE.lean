/- The reference's disk: files as a list, and how it lies in memory. -/
import Derived.Test.YtejddacjncpneaaGreatDoorDi4
set_option maxRecDepth 100000
namespace Go.Proofs.YtejddacjncpneaaGreatDoor.Di
open Go.RowKit Go.ChangeShapes Go.WideShapes

structure RF where
  n : Int
  now : ByteArray
  last : ByteArray
def RF.cells (x : RF) : List Value := [.int .i64 x.n, .string x.now, .string x.last]
def cellsR (l : List RF) : List Value := l.flatMap RF.cells
def nof (f : Int) : RF := ⟨f, ⟨#[]⟩, ⟨#[]⟩⟩
def look : List RF → Int → RF
  | [], f => nof f
  | x :: r, f => if x.n = f then x else look r f
def setL (l : List RF) (x : RF) : List RF := l.filter (fun y => !decide (y.n = x.n)) ++ [x]

theorem cellsR_get : ∀ (l : List RF) (k : Nat) (h : k < l.length), (cellsR l)[k * 3]? = some (.int .i64 l[k].n) ∧ (cellsR l)[k * 3 + 1]? = some (.string l[k].now) ∧ (cellsR l)[k * 3 + 2]? = some (.string l[k].last)
  | [], k, h => by simp at h
  | x :: r, 0, _ => by simp [cellsR, RF.cells]
  | x :: r, k + 1, h => by
    have ih := cellsR_get r k (by simpa using h)
    have e : cellsR (x :: r) = [.int .i64 x.n, .string x.now, .string x.last] ++ cellsR r := rfl
    rw [e, show (k + 1) * 3 = (k * 3) + 3 by omega]
    refine ⟨?_, ?_, ?_⟩
    · rw [List.getElem?_append_right (by simp)]
      simpa using ih.1
    · rw [List.getElem?_append_right (by simp), show k * 3 + 3 + 1 - [Value.int .i64 x.n, .string x.now, .string x.last].length = k * 3 + 1 by simp]
      simpa using ih.2.1
    · rw [List.getElem?_append_right (by simp), show k * 3 + 3 + 2 - [Value.int .i64 x.n, .string x.now, .string x.last].length = k * 3 + 2 by simp]
      simpa using ih.2.2
theorem look_n : ∀ (l : List RF) (f : Int), (look l f).n = f
  | [], _ => rfl
  | x :: r, f => by
    unfold look
    split
    · assumption
    · exact look_n r f
theorem look_drop {l : List RF} {f : Int} {k : Nat} (h : k < l.length) (hl : look l f = look (l.drop k) f) : (l[k].n = f → look l f = l[k]) ∧ (l[k].n ≠ f → look l f = look (l.drop (k + 1)) f) := by
  rw [← List.getElem_cons_drop h] at hl
  unfold look at hl
  refine ⟨fun e => ?_, fun e => ?_⟩
  · rw [if_pos e] at hl; rw [← hl]; cases l <;> rfl
  · rw [if_neg e] at hl; rw [← hl]; cases l <;> rfl
theorem look_filter (x f : Int) (h : x ≠ f) : ∀ (l : List RF), look (l.filter fun y => !decide (y.n = x)) f = look l f
  | [] => rfl
  | y :: r => by
    by_cases e : y.n = x
    · have : (!decide (y.n = x)) = false := by simp [e]
      rw [List.filter_cons_of_neg (by simp [e]), look_filter x f h r]
      show _ = if y.n = f then y else look r f
      rw [if_neg (by rw [e]; exact h)]
    · rw [List.filter_cons_of_pos (by simp [e])]
      show (if y.n = f then y else look _ f) = if y.n = f then y else look r f
      rw [look_filter x f h r]
theorem look_append : ∀ (l : List RF) (x : RF) (f : Int), (∀ y ∈ l, y.n ≠ f) → look (l ++ [x]) f = look [x] f
  | [], _, _, _ => rfl
  | y :: r, x, f, h => by
    show (if y.n = f then y else look (r ++ [x]) f) = _
    rw [if_neg (h y (by simp)), look_append r x f fun z hz => h z (by simp [hz])]
theorem look_app_other : ∀ (l : List RF) (x : RF) (f : Int), x.n ≠ f → look (l ++ [x]) f = look l f
  | [], x, f, h => by show (if x.n = f then x else nof f) = nof f; rw [if_neg h]
  | y :: r, x, f, h => by
    show (if y.n = f then y else look (r ++ [x]) f) = if y.n = f then y else look r f
    rw [look_app_other r x f h]
theorem look_set (l : List RF) (x : RF) (f : Int) : look (setL l x) f = if f = x.n then x else look l f := by
  unfold setL
  by_cases e : f = x.n
  · rw [if_pos e, look_append _ _ _ fun y hy => by
      have := (List.mem_filter.1 hy).2
      subst e
      simpa using this]
    show (if x.n = f then x else nof f) = x
    rw [if_pos e.symm]
  · rw [if_neg e, look_app_other _ _ _ (Ne.symm e), look_filter _ _ (Ne.symm e)]

structure RS where
  fl : List RF
  q : List (Int × Nat)
  lost : Int
  down : Bool
  calls : Int
  kl : List Int

structure RIs (S : Nat → Prop) (r : Nat) (fv qv kv : Value) (a : RS) (w : World) : Prop where
  hd : w.heap[r]? = some (.cells #[fv, qv, .int .i64 a.lost, .bool a.down, .int .i64 a.calls, kv] 64 (0, 0))
  fo : Own w 86 3 fv a.fl.length (cellsR a.fl)
  qo : Own w 84 2 qv a.q.length (cellsQ a.q)
  ko : Own w 3 1 kv a.kl.length (a.kl.map (Value.int .i64 ·))
  rf : blk fv ≠ some r
  rq : blk qv ≠ some r
  rk : blk kv ≠ some r
  fq : ∀ b, blk fv = some b → blk qv ≠ some b
  fk : ∀ b, blk fv = some b → blk kv ≠ some b
  qk : ∀ b, blk qv = some b → blk kv ≠ some b
  sr : S r
  sf : ∀ b, blk fv = some b → S b
  sq : ∀ b, blk qv = some b → S b
  sk : ∀ b, blk kv = some b → S b
def Ref (S : Nat → Prop) (r : Nat) (a : RS) (w : World) : Prop := ∃ fv qv kv, RIs S r fv qv kv a w
def RAf (S : Nat → Prop) (r : Nat) (a : RS) (w w' : World) : Prop := Ref (Grew S w w') r a w' ∧ But S w w'

/-- .. of a call that writes the struct alone. -/
def RAs (S : Nat → Prop) (r : Nat) (a : RS) (w w' : World) : Prop := Ref (Grew S w w') r a w' ∧ But (fun b => b = r) w w'
theorem RAs.raf {S : Nat → Prop} {r : Nat} {a : RS} {w w' : World} (h : RAs S r a w w') (hs : S r) : RAf S r a w w' := ⟨h.1, h.2.mono fun b e => by rw [e]; exact hs⟩
theorem RAs.trans {S : Nat → Prop} {r : Nat} {a a' : RS} {u v x : World} (h : RAs S r a u v) (k : RAs (Grew S u v) r a' v x) : RAs S r a' u x := by
  obtain ⟨_, h2⟩ := h
  obtain ⟨⟨f2, q2, k2, h3⟩, h4⟩ := k
  have hm : RIs (Grew S u x) r f2 q2 k2 a' x := ⟨h3.hd, h3.fo, h3.qo, h3.ko, h3.rf, h3.rq, h3.rk, h3.fq, h3.fk, h3.qk, grew_trans h2.size h4.size _ h3.sr, fun b hb => grew_trans h2.size h4.size _ (h3.sf b hb), fun b hb => grew_trans h2.size h4.size _ (h3.sq b hb), fun b hb => grew_trans h2.size h4.size _ (h3.sk b hb)⟩
  exact ⟨⟨f2, q2, k2, hm⟩, h2.trans h4 fun _ _ e => e⟩

section
variable {S : Nat → Prop} {r : Nat} {fv qv kv : Value} {a : RS} {w w' : World}
theorem RIs.lt (h : RIs S r fv qv kv a w) : r < w.heap.size := (Array.getElem?_eq_some_iff.1 h.hd).1
theorem RIs.kept (h : RIs S r fv qv kv a w) (hg : ∀ b, S b → b < w.heap.size → w'.heap[b]? = w.heap[b]?) : RIs S r fv qv kv a w' :=
  ⟨(hg r h.sr h.lt).trans h.hd, h.fo.kept fun b hb => hg b (h.sf b hb) (h.fo.lt b hb), h.qo.kept fun b hb => hg b (h.sq b hb) (h.qo.lt b hb), h.ko.kept fun b hb => hg b (h.sk b hb) (h.ko.lt b hb),
    h.rf, h.rq, h.rk, h.fq, h.fk, h.qk, h.sr, h.sf, h.sq, h.sk⟩
theorem RIs.grown (h : RIs S r fv qv kv a w) (hg : w.grownBy w' none) : RIs S r fv qv kv a w' := h.kept fun b _ hb => hg.block b hb (by simp)
theorem RIs.mono {S' : Nat → Prop} (h : RIs S r fv qv kv a w) (hs : ∀ b, S b → S' b) : RIs S' r fv qv kv a w :=
  ⟨h.hd, h.fo, h.qo, h.ko, h.rf, h.rq, h.rk, h.fq, h.fk, h.qk, hs _ h.sr, fun b hb => hs b (h.sf b hb), fun b hb => hs b (h.sq b hb), fun b hb => hs b (h.sk b hb)⟩
theorem RIs.cell (h : RIs S r fv qv kv a w) : w.cell? ⟨r, 0, none⟩ = some fv ∧ w.cell? ⟨r, 1, none⟩ = some qv ∧ w.cell? ⟨r, 2, none⟩ = some (.int .i64 a.lost) ∧ w.cell? ⟨r, 3, none⟩ = some (.bool a.down) ∧ w.cell? ⟨r, 4, none⟩ = some (.int .i64 a.calls) ∧ w.cell? ⟨r, 5, none⟩ = some kv := by
  have hr := h.hd
  simp [World.cell?, hr]
theorem RIs.froz (h : RIs S r fv qv kv a w) (o : Nat) : w.frozen? ⟨r, o, none⟩ = false := by
  have hr := h.hd
  simp [World.frozen?, hr]
theorem RIs.raf (h : RIs S r fv qv kv a w) : RAf S r a w w := ⟨⟨fv, qv, kv, h.mono fun _ hb => .inl hb⟩, But.refl _ _⟩
theorem RIs.rasg (h : RIs S r fv qv kv a w) (hg : w.grownBy w' none) : RAs S r a w w' := ⟨⟨fv, qv, kv, (h.grown hg).mono fun _ hb => .inl hb⟩, But.of hg fun b e _ => by cases e⟩
theorem RIs.rafg (h : RIs S r fv qv kv a w) (hg : w.grownBy w' none) : RAf S r a w w' := ⟨⟨fv, qv, kv, (h.grown hg).mono fun _ hb => .inl hb⟩, But.of hg fun b e _ => by cases e⟩
theorem RAf.trans {a' : RS} {u v x : World} (h : RAf S r a u v) (k : RAf (Grew S u v) r a' v x) : RAf S r a' u x := by
  obtain ⟨⟨f1, q1, k1, h1⟩, h2⟩ := h
  obtain ⟨⟨f2, q2, k2, h3⟩, h4⟩ := k
  refine ⟨⟨f2, q2, k2, h3.mono (grew_trans h2.size h4.size)⟩, h2.trans h4 fun i hi hs => ?_⟩
  rcases hs with hs | hs
  · exact hs
  · omega
/-- The struct's own cells are written. -/
theorem RIs.nums (h : RIs S r fv qv kv a w) {lost calls : Int} {down : Bool} (hg : w.grownBy w' (some r)) (hd : w'.heap[r]? = some (.cells #[fv, qv, .int .i64 lost, .bool down, .int .i64 calls, kv] 64 (0, 0))) :
    RAf S r { a with lost := lost, down := down, calls := calls } w w' := by
  refine ⟨⟨fv, qv, kv, ?_⟩, But.of hg fun b e _ => by cases e; exact h.sr⟩
  refine RIs.mono (S := S) ⟨hd, h.fo.grown hg (.inr h.rf), h.qo.grown hg (.inr h.rq), h.ko.grown hg (.inr h.rk), h.rf, h.rq, h.rk, h.fq, h.fk, h.qk, h.sr, h.sf, h.sq, h.sk⟩ fun _ hb => .inl hb
/-- Other files. -/
theorem RIs.files (h : RIs S r fv qv kv a w) {w1 : World} {fv' : Value} {fl' : List RF} (hg : w.grownBy w1 none) (ho : Own w1 86 3 fv' fl'.length (cellsR fl')) (hn : ∀ b, blk fv' = some b → w.heap.size ≤ b) :
    RAf S r { a with fl := fl' } w (w1.setCell ⟨r, 0, none⟩ fv') := by
  have h1 := h.grown hg
  have hs := grownBy_setCell' w1 r 0 fv'
  have hz := hg.size
  have hz2 := hs.size
  have hlt := h.lt
  have nr : blk fv' ≠ some r := fun e => by have := hn r e; omega
  refine ⟨⟨fv', qv, kv, ?_⟩, ((But.of hg fun b e _ => by cases e) : But S w w1).trans (S' := fun b => b = r) (But.of hs fun b e _ => by cases e; rfl) fun i _ e => by rw [e]; exact h.sr⟩
  refine ⟨?_, ho.grown hs (.inr nr), h1.qo.grown hs (.inr h.rq), h1.ko.grown hs (.inr h.rk), nr, h.rq, h.rk, fun b e e2 => ?_, fun b e e2 => ?_, h.qk, .inl h.sr, fun b e => .inr ⟨hn b e, ?_⟩, fun b e => .inl (h.sq b e), fun b e => .inl (h.sk b e)⟩
  · exact Lib.heap_setCell_same (i := 0) h1.hd fv'
  · have := hn b e; have := h.qo.lt b e2; omega
  · have := hn b e; have := h.ko.lt b e2; omega
  · have := ho.lt b e; omega
theorem RIs.files' (h : RIs S r fv qv kv a w) {w1 : World} {fv' : Value} {fl' : List RF} (hg : w.grownBy w1 none) (ho : Own w1 86 3 fv' fl'.length (cellsR fl')) (hn : ∀ b, blk fv' = some b → w.heap.size ≤ b) :
    RAs S r { a with fl := fl' } w (w1.setCell ⟨r, 0, none⟩ fv') :=
  ⟨(h.files hg ho hn).1, ((But.of hg fun b e _ => by cases e) : But (fun b => b = r) w w1).trans (S' := fun b => b = r) (But.of (grownBy_setCell' w1 r 0 fv') fun b e _ => by cases e; rfl) fun _ _ h => h⟩
/-- Another queue. -/
theorem RIs.queue (h : RIs S r fv qv kv a w) {w1 : World} {qv' : Value} {q' : List (Int × Nat)} (hg : w.grownBy w1 (blk qv)) (ho : Own w1 84 2 qv' q'.length (cellsQ q')) (hn : ∀ b, blk qv' = some b → blk qv = some b ∨ w.heap.size ≤ b) :
    RAf S r { a with q := q' } w (w1.setCell ⟨r, 1, none⟩ qv') := by
  have hs := grownBy_setCell' w1 r 1 qv'
  have hz := hg.size
  have hz2 := hs.size
  have hlt := h.lt
  have nr : blk qv' ≠ some r := fun e => by
    rcases hn r e with e2 | e2
    · exact h.rq e2
    · omega
  have hf1 : Own w1 86 3 fv a.fl.length (cellsR a.fl) := h.fo.kept fun b hb => hg.block b (h.fo.lt b hb) (fun e => h.fq b hb e.symm)
  have hk1 : Own w1 3 1 kv a.kl.length _ := h.ko.kept fun b hb => hg.block b (h.ko.lt b hb) (fun e => h.qk b e.symm hb)
  have hr1 : w1.heap[r]? = _ := (hg.block r hlt (Ne.symm h.rq)).trans h.hd
  refine ⟨⟨fv, qv', kv, ?_⟩, ((But.of hg fun b e _ => h.sq b e) : But S w w1).trans (S' := fun b => b = r) (But.of hs fun b e _ => by cases e; rfl) fun i _ e => by rw [e]; exact h.sr⟩
  refine ⟨?_, hf1.grown hs (.inr h.rf), ho.grown hs (.inr nr), hk1.grown hs (.inr h.rk), h.rf, nr, h.rk, fun b e e2 => ?_, h.fk, fun b e e2 => ?_, .inl h.sr, fun b e => .inl (h.sf b e), fun b e => ?_, fun b e => .inl (h.sk b e)⟩
  · exact Lib.heap_setCell_same (i := 1) hr1 qv'
  · rcases hn b e2 with e3 | e3
    · exact h.fq b e e3
    · have := h.fo.lt b e; omega
  · rcases hn b e with e3 | e3
    · exact h.qk b e3 e2
    · have := h.ko.lt b e2; omega
  · rcases hn b e with e3 | e3
    · exact .inl (h.sq b e3)
    · exact .inr ⟨e3, by have := ho.lt b e; omega⟩
/-- Another list to keep. -/
theorem RIs.keep (h : RIs S r fv qv kv a w) {w1 : World} {kv' : Value} {kl' : List Int} {calls : Int} (hg : w.grownBy w1 none) (ho : Own w1 3 1 kv' kl'.length (kl'.map (Value.int .i64 ·))) (hn : ∀ b, blk kv' = some b → w.heap.size ≤ b) :
    RAf S r { a with calls := calls, kl := kl' } w ((w1.setCell ⟨r, 4, none⟩ (.int .i64 calls)).setCell ⟨r, 5, none⟩ kv') := by
  have h1 := h.grown hg
  have hs : w1.grownBy ((w1.setCell ⟨r, 4, none⟩ (.int .i64 calls)).setCell ⟨r, 5, none⟩ kv') (some r) := (grownBy_setCell' _ _ _ _).trans (grownBy_setCell' _ _ _ _)
  have hz := hg.size
  have hz2 := hs.size
  have hlt := h.lt
  have nr : blk kv' ≠ some r := fun e => by have := hn r e; omega
  refine ⟨⟨fv, qv, kv', ?_⟩, ((But.of hg fun b e _ => by cases e) : But S w w1).trans (S' := fun b => b = r) (But.of hs fun b e _ => by cases e; rfl) fun i _ e => by rw [e]; exact h.sr⟩
  refine ⟨?_, h1.fo.grown hs (.inr h.rf), h1.qo.grown hs (.inr h.rq), ho.grown hs (.inr nr), h.rf, h.rq, nr, h.fq, fun b e e2 => ?_, fun b e e2 => ?_, .inl h.sr, fun b e => .inl (h.sf b e), fun b e => .inl (h.sq b e), fun b e => .inr ⟨hn b e, ?_⟩⟩
  · exact Lib.heap_setCell_same (i := 5) (Lib.heap_setCell_same (i := 4) h1.hd (.int .i64 calls)) kv'
  · have := hn b e2; have := h.fo.lt b e; omega
  · have := hn b e2; have := h.qo.lt b e; omega
  · have := ho.lt b e; omega
end
end Go.Proofs.YtejddacjncpneaaGreatDoor.Di
