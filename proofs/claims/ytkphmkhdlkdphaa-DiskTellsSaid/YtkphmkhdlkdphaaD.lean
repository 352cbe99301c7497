/- How a disk lies in memory. -/
import Derived.Test.YtkphmkhdlkdphaaC2
import Derived.Below
import Derived.Deep.Draws
namespace Go.Proofs.Ytkphmkhdlkdphaa
open Go.RowKit

/-- The parts of a disk. -/
inductive Sl where
  | r | fm | dm | lm | pv | kv
  | f (n : Int)
  | d (n : Int)

structure Rep where
  r : Nat
  fm : Nat
  dm : Nat
  lm : Nat
  pv : Value
  kv : Value
  fv : Int → Option Value
  dv : Int → Option Value

def Rep.at (p : Rep) : Sl → Option Nat
  | .r => some p.r
  | .fm => some p.fm
  | .dm => some p.dm
  | .lm => some p.lm
  | .pv => blk p.pv
  | .kv => blk p.kv
  | .f n => (p.fv n).bind blk
  | .d n => (p.dv n).bind blk

def keyI (n : Int) : Value := .int .i64 n
def mapF (g : Int → Option Value) : Value → Option Value
  | .int .i64 n => g n
  | _ => none
def keyS (s : Int × Nat) : Value := .agg #[.int .i64 s.1, .int .i64 s.2]
open Classical in
noncomputable def setQ (q : List (Int × Nat)) (v : Value) : Option Value := if ∃ s ∈ q, keyS s = v then some (.bool true) else none
def cellsQ (q : List (Int × Nat)) : List Value := q.flatMap fun s => [.int .i64 s.1, .int .i64 s.2]
def OwnO (w : World) : Option Value → List UInt8 → Prop
  | none, l => l = []
  | some v, l => OwnB w v l

theorem keyS_inj {s t : Int × Nat} (h : keyS s = keyS t) : s = t := by
  obtain ⟨a, b⟩ := s
  obtain ⟨c, d⟩ := t
  simp [keyS] at h
  obtain ⟨rfl, h2⟩ := h
  simp; omega
theorem mapF_sets (g : Int → Option Value) (n : Int) (v : Value) : Sets (mapF g) (.int .i64 n) v (mapF (upd g n (some v))) := by
  refine ⟨by simp [mapF, upd_same], fun x hx => ?_⟩
  unfold mapF
  split
  · rename_i m
    rw [upd_other]
    intro e
    exact hx (by rw [e])
  · rfl
theorem setQ_mem {q : List (Int × Nat)} {s : Int × Nat} (h : s ∈ q) : setQ q (keyS s) = some (.bool true) := by
  unfold setQ
  exact if_pos ⟨s, h, rfl⟩
theorem setQ_not {q : List (Int × Nat)} {s : Int × Nat} (h : s ∉ q) : setQ q (keyS s) = none := by
  unfold setQ
  exact if_neg (fun ⟨t, ht, e⟩ => h (keyS_inj e ▸ ht))
theorem setQ_sets (q : List (Int × Nat)) (s : Int × Nat) : Sets (setQ q) (keyS s) (.bool true) (setQ (q ++ [s])) := by
  refine ⟨setQ_mem (by simp), fun x hx => ?_⟩
  unfold setQ
  congr 1
  apply propext
  constructor
  · rintro ⟨t, ht, e⟩
    rcases List.mem_append.1 ht with h | h
    · exact ⟨t, h, e⟩
    · simp at h
      exact absurd (by rw [← e, h]) hx
  · rintro ⟨t, ht, e⟩
    exact ⟨t, by simp [ht], e⟩

/-- What holds of each part. -/
def Holds (w : World) (p : Rep) (st : St) : Sl → Prop
  | .r => w.heap[p.r]? = some (.cells #[.map (some p.fm), .map (some p.dm), p.pv, .map (some p.lm), .bool st.down, .int .i64 st.lost, .int .i64 st.calls, p.kv] 56 (0, 0))
  | .fm => MapIs Try.prog 3 w p.fm (mapF p.fv)
  | .dm => MapIs Try.prog 3 w p.dm (mapF p.dv)
  | .lm => MapIs Try.prog 69 w p.lm (setQ st.q)
  | .pv => Own w 69 2 p.pv st.q.length (cellsQ st.q)
  | .kv => Own w 3 1 p.kv st.keep.length (st.keep.map (Value.int .i64 ·))
  | .f n => OwnO w (p.fv n) (st.now n)
  | .d n => OwnO w (p.dv n) (st.dur n)

structure IsD (S : Nat → Prop) (p : Rep) (st : St) (w : World) : Prop where
  holds : ∀ s, Holds w p st s
  inj : ∀ s s' b, p.at s = some b → p.at s' = some b → s = s'
  inS : ∀ s b, p.at s = some b → S b
  wf : WF st

theorem OwnO.kept {w w' : World} {o : Option Value} {l : List UInt8} (h : OwnO w o l) (hg : ∀ b, o.bind blk = some b → w'.heap[b]? = w.heap[b]?) : OwnO w' o l := by
  cases o with
  | none => exact h
  | some v => exact Own.kept h hg
theorem OwnO.lt {w : World} {o : Option Value} {l : List UInt8} (h : OwnO w o l) : ∀ b, o.bind blk = some b → b < w.heap.size := by
  cases o with
  | none => intro b hb; cases hb
  | some v => exact Own.lt h
theorem OwnO.getD {w : World} {o : Option Value} {l : List UInt8} (h : OwnO w o l) : OwnB w (o.getD (.slice none 0 0)) l := by
  cases o with
  | none => obtain rfl : l = [] := h; exact Own.nil w 5 1
  | some v => exact h
theorem blkO (o : Option Value) : blk (o.getD (.slice none 0 0)) = o.bind blk := by cases o <;> rfl

theorem Holds.kept {w w' : World} {p : Rep} {st : St} {s : Sl} (h : Holds w p st s) (hg : ∀ b, p.at s = some b → w'.heap[b]? = w.heap[b]?) : Holds w' p st s := by
  cases s with
  | r => exact (hg _ rfl).trans h
  | fm => exact MapIs.kept h (hg _ rfl)
  | dm => exact MapIs.kept h (hg _ rfl)
  | lm => exact MapIs.kept h (hg _ rfl)
  | pv => exact Own.kept h hg
  | kv => exact Own.kept h hg
  | f n => exact OwnO.kept h hg
  | d n => exact OwnO.kept h hg
theorem Holds.lt {w : World} {p : Rep} {st : St} {s : Sl} (h : Holds w p st s) : ∀ b, p.at s = some b → b < w.heap.size := by
  intro b hb
  cases s with
  | r => cases hb; exact (Array.getElem?_eq_some_iff.1 h).1
  | fm => cases hb; exact MapIs.lt h
  | dm => cases hb; exact MapIs.lt h
  | lm => cases hb; exact MapIs.lt h
  | pv => exact Own.lt h b hb
  | kv => exact Own.lt h b hb
  | f n => exact OwnO.lt h b hb
  | d n => exact OwnO.lt h b hb

/-- All that lay there but the blocks of S is as it was. -/
structure But (S : Nat → Prop) (w w' : World) : Prop where
  os : w'.os = w.os
  tape : w'.tape = w.tape
  output : w'.output = w.output
  size : w.heap.size ≤ w'.heap.size
  block : ∀ k, k < w.heap.size → ¬ S k → w'.heap[k]? = w.heap[k]?
theorem But.refl (S : Nat → Prop) (w : World) : But S w w := ⟨rfl, rfl, rfl, Nat.le_refl _, fun _ _ _ => rfl⟩
theorem But.trans {S S' : Nat → Prop} {a b c : World} (h : But S a b) (k : But S' b c) (hs : ∀ i, i < a.heap.size → S' i → S i) : But S a c :=
  ⟨k.os.trans h.os, k.tape.trans h.tape, k.output.trans h.output, Nat.le_trans h.size k.size, fun i hi hne => (k.block i (Nat.lt_of_lt_of_le hi h.size) (fun e => hne (hs i hi e))).trans (h.block i hi hne)⟩
theorem But.of {S : Nat → Prop} {w w' : World} {row : Option Nat} (h : w.grownBy w' row) (hs : ∀ b, row = some b → b < w.heap.size → S b) : But S w w' :=
  ⟨h.os, h.tape, h.output, h.size, fun k hk hn => h.block k hk (fun e => hn (hs k e.symm hk))⟩
theorem But.mono {S S' : Nat → Prop} {w w' : World} (h : But S w w') (hs : ∀ i, S i → S' i) : But S' w w' := ⟨h.os, h.tape, h.output, h.size, fun k hk hn => h.block k hk (fun e => hn (hs k e))⟩
theorem But.below {S : Nat → Prop} {w w' : World} {B : Nat} (h : But S w w') (hB : B ≤ w.heap.size) (hs : ∀ i, S i → B ≤ i) : Below B w w' := by
  refine ⟨h.os, h.tape, h.output, h.size, fun i hi => ?_⟩
  exact h.block i (by omega) (fun e => by have := hs i e; omega)

def Grew (S : Nat → Prop) (w w' : World) (b : Nat) : Prop := S b ∨ (w.heap.size ≤ b ∧ b < w'.heap.size)

/-- A disk with the struct's block r. -/
def Disk (S : Nat → Prop) (r : Nat) (st : St) (w : World) : Prop := ∃ p, p.r = r ∧ IsD S p st w

theorem IsD.lt {S : Nat → Prop} {p : Rep} {st : St} {w : World} (h : IsD S p st w) {s : Sl} {b : Nat} (hb : p.at s = some b) : b < w.heap.size := (h.holds s).lt b hb
theorem IsD.mono {S S' : Nat → Prop} {p : Rep} {st : St} {w : World} (h : IsD S p st w) (hs : ∀ b, S b → S' b) : IsD S' p st w := ⟨h.holds, h.inj, fun s b hb => hs b (h.inS s b hb), h.wf⟩
theorem IsD.kept {S : Nat → Prop} {p : Rep} {st : St} {w w' : World} (h : IsD S p st w) (hg : ∀ b, S b → b < w.heap.size → w'.heap[b]? = w.heap[b]?) : IsD S p st w' :=
  ⟨fun s => (h.holds s).kept fun b hb => hg b (h.inS s b hb) (h.lt hb), h.inj, h.inS, h.wf⟩
theorem IsD.grown {S : Nat → Prop} {p : Rep} {st : St} {w w' : World} (h : IsD S p st w) (hg : w.grownBy w' none) : IsD S p st w' := h.kept fun b _ hb => hg.block b hb (by simp)
theorem Disk.mono {S S' : Nat → Prop} {r : Nat} {st : St} {w : World} (h : Disk S r st w) (hs : ∀ b, S b → S' b) : Disk S' r st w := by
  obtain ⟨p, hp, h⟩ := h
  exact ⟨p, hp, h.mono hs⟩
/-- Another disk's call leaves this one alone. -/
theorem Disk.apart {S T : Nat → Prop} {r : Nat} {st : St} {w w' : World} (h : Disk S r st w) (hb : But T w w') (ha : ∀ b, S b → ¬ T b) : Disk S r st w' := by
  obtain ⟨p, hp, h⟩ := h
  exact ⟨p, hp, h.kept fun b hs hlt => hb.block b hlt (ha b hs)⟩

/-- What a call of a method leaves. -/
def Af (S : Nat → Prop) (r : Nat) (st : St) (w w' : World) : Prop := Disk (Grew S w w') r st w' ∧ But S w w'
theorem Af.trans {S : Nat → Prop} {r : Nat} {st st' : St} {a b c : World} (h : Af S r st a b) (k : Af (Grew S a b) r st' b c) : Af S r st' a c := by
  refine ⟨k.1.mono fun i hi => ?_, h.2.trans k.2 fun i hi hs => ?_⟩
  · have h1 := h.2.size
    have h2 := k.2.size
    rcases hi with (hi | hi) | hi
    · exact .inl hi
    · exact .inr ⟨hi.1, by omega⟩
    · exact .inr ⟨by omega, hi.2⟩
  · rcases hs with hs | hs
    · exact hs
    · omega

theorem IsD.cell {S : Nat → Prop} {p : Rep} {st : St} {w : World} (h : IsD S p st w) :
    w.cell? ⟨p.r, 0, none⟩ = some (.map (some p.fm)) ∧ w.cell? ⟨p.r, 1, none⟩ = some (.map (some p.dm)) ∧ w.cell? ⟨p.r, 2, none⟩ = some p.pv ∧ w.cell? ⟨p.r, 3, none⟩ = some (.map (some p.lm)) ∧
    w.cell? ⟨p.r, 4, none⟩ = some (.bool st.down) ∧ w.cell? ⟨p.r, 5, none⟩ = some (.int .i64 st.lost) ∧ w.cell? ⟨p.r, 6, none⟩ = some (.int .i64 st.calls) ∧ w.cell? ⟨p.r, 7, none⟩ = some p.kv := by
  have hr : w.heap[p.r]? = _ := h.holds .r
  simp [World.cell?, hr]
theorem IsD.froz {S : Nat → Prop} {p : Rep} {st : St} {w : World} (h : IsD S p st w) (o : Nat) : w.frozen? ⟨p.r, o, none⟩ = false := by
  have hr : w.heap[p.r]? = _ := h.holds .r
  simp [World.frozen?, hr]

/-- The parts of C are new; the others are as they were. -/
theorem IsD.step {S : Nat → Prop} {p p' : Rep} {st st' : St} {w w' : World} (h : IsD S p st w) (C : Sl → Prop) (hb : But (fun b => ∃ s, C s ∧ p.at s = some b) w w')
    (hc : ∀ s, C s → Holds w' p' st' s) (ho : ∀ s, ¬ C s → (Holds w p st s → Holds w p' st' s) ∧ p'.at s = p.at s)
    (hl : ∀ s b, C s → p'.at s = some b → p.at s = some b ∨ w.heap.size ≤ b) (hi : ∀ s s' b, C s → C s' → p'.at s = some b → p'.at s' = some b → s = s') (wf : WF st') : IsD (Grew S w w') p' st' w' ∧ But S w w' := by
  have hold : ∀ s, Holds w' p' st' s := fun s => by
    by_cases e : C s
    · exact hc s e
    · obtain ⟨h1, h2⟩ := ho s e
      refine (h1 (h.holds s)).kept fun b hb' => ?_
      rw [h2] at hb'
      refine hb.block b (h.lt hb') ?_
      rintro ⟨s', e', hs'⟩
      exact e (h.inj s s' b hb' hs' ▸ e')
  refine ⟨⟨hold, fun s s' b h1 h2 => ?_, fun s b h1 => ?_, wf⟩, hb.mono fun i ⟨s, _, hs⟩ => h.inS s i hs⟩
  · by_cases e : C s <;> by_cases e' : C s'
    · exact hi s s' b e e' h1 h2
    · have h3 := (ho s' e').2
      rw [h3] at h2
      rcases hl s b e h1 with h4 | h4
      · exact h.inj s s' b h4 h2
      · have := h.lt h2
        omega
    · have h3 := (ho s e).2
      rw [h3] at h1
      rcases hl s' b e' h2 with h4 | h4
      · exact h.inj s s' b h1 h4
      · have := h.lt h1
        omega
    · rw [(ho s e).2] at h1
      rw [(ho s' e').2] at h2
      exact h.inj s s' b h1 h2
  · have hlt := (hold s).lt b h1
    by_cases e : C s
    · rcases hl s b e h1 with h4 | h4
      · exact .inl (h.inS s b h4)
      · exact .inr ⟨h4, hlt⟩
    · rw [(ho s e).2] at h1
      exact .inl (h.inS s b h1)

/-- The struct's cells are written; the block of nothing else. -/
theorem IsD.stepR {S : Nat → Prop} {p p' : Rep} {st st' : St} {w w' : World} (h : IsD S p st w) (hr : p'.r = p.r) (hb : w.grownBy w' (some p.r)) (hn : Holds w' p' st' .r) (ho : ∀ s, s ≠ .r → (Holds w p st s → Holds w p' st' s) ∧ p'.at s = p.at s) (wf : WF st') :
    IsD (Grew S w w') p' st' w' ∧ But S w w' :=
  h.step (fun s => s = .r) (But.of hb fun b e _ => ⟨.r, rfl, by cases e; rfl⟩) (fun s e => e ▸ hn) ho (fun s b e h1 => by subst e; left; rw [← h1]; simp [Rep.at, hr]) (fun s s' b e e' _ _ => e.trans e'.symm) wf

theorem grownBy_setCell' (w : World) (b i : Nat) (v : Value) : w.grownBy (w.setCell ⟨b, i, none⟩ v) (some b) := Lib.grownBy_setCell w b i v

theorem wf_i64 {a : Int} (h : -9223372036854775808 ≤ a ∧ a ≤ 9223372036854775807) : (Lit.int .i64 a).wf = true := by
  simp [Lit.wf]; exact ⟨h.1, h.2⟩
theorem lawI : Maps.Keyed Try.prog 3 := Maps.int_keyed Try.underlying3

theorem IsD.lookF {S : Nat → Prop} {p : Rep} {st : St} {w : World} (h : IsD S p st w) (f : Int) (hf : -9223372036854775808 ≤ f ∧ f ≤ 9223372036854775807) :
    ∃ a cap, (∀ w' : World, w'.heap = w.heap → (Instr.lookup 52 (.map (some p.fm)) (.int .i64 f) false).run Try.prog w' = .ok (.slice a (st.now f).length cap) w') ∧ OwnB w (.slice a (st.now f).length cap) (st.now f) ∧ blk (.slice a (st.now f).length cap) = p.at (.f f) ∧ (st.now f).length ≤ cap ∧ cap ≤ 9223372036854775807 := by
  have hm0 : MapIs Try.prog 3 w p.fm (mapF p.fv) := h.holds .fm
  have hm : ∀ w' : World, w'.heap = w.heap → MapIs Try.prog 3 w' p.fm (mapF p.fv) := fun w' e => hm0.kept (by rw [e])
  have hv : OwnO w (p.fv f) (st.now f) := h.holds (.f f)
  have hrun := fun w' e => (hm w' e).lookup lawI Try.underlying52 (zero62 w') (Maps.keyOf_int_mk Try.underlying3 (wf_i64 hf))
  have hg := hv.getD
  obtain ⟨a, cap, e, h1, h2⟩ := hg.shape
  simp only [mapF] at hrun
  have hbl := blkO (p.fv f)
  rw [e] at hrun hg hbl
  unfold maxLen at h2
  exact ⟨a, cap, hrun, hg, hbl, h1, by omega⟩
theorem IsD.lookD {S : Nat → Prop} {p : Rep} {st : St} {w : World} (h : IsD S p st w) (f : Int) (hf : -9223372036854775808 ≤ f ∧ f ≤ 9223372036854775807) :
    ∃ a cap, (∀ w' : World, w'.heap = w.heap → (Instr.lookup 52 (.map (some p.dm)) (.int .i64 f) false).run Try.prog w' = .ok (.slice a (st.dur f).length cap) w') ∧ OwnB w (.slice a (st.dur f).length cap) (st.dur f) ∧ blk (.slice a (st.dur f).length cap) = p.at (.d f) ∧ (st.dur f).length ≤ cap ∧ cap ≤ 9223372036854775807 := by
  have hm0 : MapIs Try.prog 3 w p.dm (mapF p.dv) := h.holds .dm
  have hm : ∀ w' : World, w'.heap = w.heap → MapIs Try.prog 3 w' p.dm (mapF p.dv) := fun w' e => hm0.kept (by rw [e])
  have hv : OwnO w (p.dv f) (st.dur f) := h.holds (.d f)
  have hrun := fun w' e => (hm w' e).lookup lawI Try.underlying52 (zero62 w') (Maps.keyOf_int_mk Try.underlying3 (wf_i64 hf))
  have hg := hv.getD
  obtain ⟨a, cap, e, h1, h2⟩ := hg.shape
  simp only [mapF] at hrun
  have hbl := blkO (p.dv f)
  rw [e] at hrun hg hbl
  unfold maxLen at h2
  exact ⟨a, cap, hrun, hg, hbl, h1, by omega⟩
theorem below_drewN {B m : Nat} {a b : World} (h : Below B a b) : Below B a (b.drewN m) := by
  obtain ⟨h1, h2, h3, h4, h5⟩ := h
  exact ⟨h1, h2, h3, h4, h5⟩
end Go.Proofs.Ytkphmkhdlkdphaa
