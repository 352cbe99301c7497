/- How a journal lies in memory, beside a disk and beside what is kept. The contracts of a journal's methods. The contracts of Sync, All and Open. -/
import Derived.Test.YtejddacjncpneaaGreatDoorJo1
import Derived.Test.YtejddacjncpneaaGreatDoorDi4
import Derived.Deep.AppendSrc
import Derived.StillTailTactics
set_option maxRecDepth 100000
namespace Go.Proofs.YtejddacjncpneaaGreatDoor.Jo
open Go.RowKit Di

/-! ### what is kept while some blocks are as they were -/
def Keeps (T : Nat → Prop) (K : World → Prop) (w : World) : Prop := ∀ w' : World, (∀ b, T b → w'.heap[b]? = w.heap[b]?) → K w'
theorem Keeps.self {T : Nat → Prop} {K : World → Prop} {w : World} (h : Keeps T K w) : K w := h w fun _ _ => rfl
theorem Keeps.step {T : Nat → Prop} {K : World → Prop} {w w' : World} (h : Keeps T K w) (hb : ∀ b, T b → w'.heap[b]? = w.heap[b]?) : Keeps T K w' :=
  fun w'' h2 => h w'' fun b hT => (h2 b hT).trans (hb b hT)
theorem Keeps.and {T T' : Nat → Prop} {K K' : World → Prop} {w : World} (h : Keeps T K w) (h' : Keeps T' K' w) : Keeps (fun b => T b ∨ T' b) (fun w => K w ∧ K' w) w :=
  fun w' hb => ⟨h w' fun b hT => hb b (.inl hT), h' w' fun b hT => hb b (.inr hT)⟩
theorem Keeps.imp {T T' : Nat → Prop} {K K' : World → Prop} {w : World} (h : Keeps T K w) (hT : ∀ b, T b → T' b) (hK : ∀ w, K w → K' w) : Keeps T' K' w :=
  fun w' hb => hK w' (h w' fun b h => hb b (hT b h))
theorem keeps_true (w : World) : Keeps (fun _ => False) (fun _ => True) w := fun _ _ => trivial

/-- A disk above B, and what is kept beside it. -/
def DK (B r : Nat) (st : St) (T : Nat → Prop) (K : World → Prop) (w : World) : Prop :=
  ∃ S, Disk S r st w ∧ (∀ b, S b → B ≤ b ∧ b < w.heap.size ∧ ¬ T b) ∧ (∀ b, T b → b < w.heap.size) ∧ Keeps T K w

theorem DK.kept {B r : Nat} {st : St} {T : Nat → Prop} {K : World → Prop} {w : World} (h : DK B r st T K w) : K w := h.choose_spec.2.2.2.self
theorem DK.wf {B r : Nat} {st : St} {T : Nat → Prop} {K : World → Prop} {w : World} (h : DK B r st T K w) : WF st := by
  obtain ⟨S, ⟨p, _, hd⟩, _⟩ := h
  exact hd.wf
theorem DK.call {B r : Nat} {st st' : St} {T : Nat → Prop} {K : World → Prop} {w : World} {f : FuncId} {args : Array Value} {v : Value} (h : DK B r st T K w) (_hB : B ≤ w.heap.size)
    (hc : ∀ S p, p.r = r → IsD S p st w → (∀ b, S b → B ≤ b) → Calls Tryz.prog f args w fun e w' => e = .returned v ∧ Af S r st' w w') :
    Calls Tryz.prog f args w fun e w' => e = .returned v ∧ DK B r st' T K w' ∧ Ov B w w' := by
  obtain ⟨S, ⟨p, hp, hd⟩, hS, hT, hK⟩ := h
  refine (hc S p hp hd fun b hb => (hS b hb).1).mono ?_
  rintro e w' ⟨he, hdk, hb⟩
  have hz := hb.size
  refine ⟨he, ⟨_, hdk, fun b hg => ?_, fun b h => Nat.lt_of_lt_of_le (hT b h) hz, hK.step fun b h => hb.block b (hT b h) fun hs => (hS b hs).2.2 h⟩, hb.mono fun b h => (hS b h).1⟩
  rcases hg with h | h
  · exact ⟨(hS b h).1, by have := (hS b h).2.1; omega, (hS b h).2.2⟩
  · exact ⟨by omega, h.2, fun hh => by have := hT b hh; omega⟩
theorem DK.see {B r : Nat} {st : St} {T : Nat → Prop} {K : World → Prop} {w : World} {f : FuncId} {args : Array Value} {Q : Ending → World → Prop} (h : DK B r st T K w)
    (hc : ∀ S p, p.r = r → IsD S p st w → Calls Tryz.prog f args w Q) : Calls Tryz.prog f args w Q := by
  obtain ⟨S, ⟨p, hp, hd⟩, hS⟩ := h
  exact hc S p hp hd
/-- All that lay there is as it was. -/
def Same (w w' : World) : Prop := w.heap.size ≤ w'.heap.size ∧ ∀ b, b < w.heap.size → w'.heap[b]? = w.heap[b]?
theorem same_below {w w' : World} (h : Below w.heap.size w w') : Same w w' := ⟨h.size, h.block⟩
theorem same_grown {w w' : World} (h : w.grownBy w' none) : Same w w' := ⟨h.size, fun b hb => h.block b hb (by simp)⟩
theorem same_nothing {w w' : World} (h : But Nothing w w') : Same w w' := ⟨h.size, fun b hb => h.block b hb fun h => h⟩
theorem Same.trans {a b c : World} (h : Same a b) (k : Same b c) : Same a c := ⟨Nat.le_trans h.1 k.1, fun i hi => (k.2 i (Nat.lt_of_lt_of_le hi h.1)).trans (h.2 i hi)⟩
theorem DK.same {B r : Nat} {st : St} {T : Nat → Prop} {K : World → Prop} {w w' : World} (h : DK B r st T K w) (hs : Same w w') : DK B r st T K w' := by
  obtain ⟨S, ⟨p, hp, hd⟩, hS, hT, hK⟩ := h
  exact ⟨S, ⟨p, hp, hd.kept fun b _ hb => hs.2 b hb⟩, fun b hb => ⟨(hS b hb).1, Nat.lt_of_lt_of_le (hS b hb).2.1 hs.1, (hS b hb).2.2⟩, fun b hb => Nat.lt_of_lt_of_le (hT b hb) hs.1, hK.step fun b hb => hs.2 b (hT b hb)⟩
/-- Blocks outside the disk are written, or new ones made: what is kept afterwards is shown anew. -/
theorem DK.turn {B r : Nat} {st : St} {T T' : Nat → Prop} {K K' : World → Prop} {w w' : World} (h : DK B r st T K w) (hz : w.heap.size ≤ w'.heap.size)
    (hs : ∀ b, b < w.heap.size → ¬ T b → w'.heap[b]? = w.heap[b]?) (hT' : ∀ b, T' b → (T b ∨ w.heap.size ≤ b) ∧ b < w'.heap.size) (hK' : Keeps T' K' w') : DK B r st T' K' w' := by
  obtain ⟨S, ⟨p, hp, hd⟩, hS, hT, hK⟩ := h
  refine ⟨S, ⟨p, hp, hd.kept fun b hb hlt => hs b hlt (hS b hb).2.2⟩, fun b hb => ⟨(hS b hb).1, Nat.lt_of_lt_of_le (hS b hb).2.1 hz, fun h => ?_⟩, fun b hb => (hT' b hb).2, hK'⟩
  rcases (hT' b h).1 with h | h
  · exact (hS b hb).2.2 h
  · have := (hS b hb).2.1
    omega

/-! ### a journal -/
def IsJ (r : Nat) (f : Int) (jb : Nat) (v : Value) (R : List ByteArray) (bad : Bool) (w : World) : Prop :=
  w.heap[jb]? = some (.cells #[.pointer (some ⟨r, 0, none⟩), .int .i64 f, v, .int .i64 (forms R).length, .bool bad] 70 (0, 0)) ∧ Own w 9 1 v R.length (R.map Value.string)
def JT (T : Nat → Prop) (jb : Nat) (v : Value) (b : Nat) : Prop := T b ∨ b = jb ∨ blk v = some b
structure JK (B r : Nat) (st : St) (f : Int) (jb : Nat) (R : List ByteArray) (bad : Bool) (v : Value) (T : Nat → Prop) (K : World → Prop) (w : World) : Prop where
  dk : DK B r st (JT T jb v) (fun w => IsJ r f jb v R bad w ∧ K w) w
  nj : ¬ T jb
  nv : ∀ b, blk v = some b → ¬ T b ∧ b ≠ jb ∧ B ≤ b
  bj : B ≤ jb
  keeps : Keeps T K w

theorem keeps_isJ {r : Nat} {f : Int} {jb : Nat} {v : Value} {R : List ByteArray} {bad : Bool} {w : World} (h : IsJ r f jb v R bad w) : Keeps (fun b => b = jb ∨ blk v = some b) (IsJ r f jb v R bad) w :=
  fun _w' hb => ⟨(hb jb (.inl rfl)).trans h.1, h.2.kept fun b e => hb b (.inr e)⟩
section
variable {B r : Nat} {st : St} {f : Int} {jb : Nat} {R : List ByteArray} {bad : Bool} {v : Value} {T : Nat → Prop} {K : World → Prop} {w : World}
theorem JK.mk' (hT : ∀ b, T b → b < w.heap.size) (hj : IsJ r f jb v R bad w) (hk : Keeps T K w) : (∀ b, JT T jb v b → b < w.heap.size) ∧ Keeps (JT T jb v) (fun w => IsJ r f jb v R bad w ∧ K w) w :=
  ⟨fun b hb => by
    rcases hb with h | rfl | h
    · exact hT b h
    · exact (Array.getElem?_eq_some_iff.1 hj.1).1
    · exact hj.2.lt b h, ((keeps_isJ hj).and hk).imp (fun b h => h.elim .inr .inl) fun _ h => h⟩
theorem JK.isJ (h : JK B r st f jb R bad v T K w) : IsJ r f jb v R bad w := h.dk.kept.1
theorem JK.cells (h : JK B r st f jb R bad v T K w) :
    w.cell? ⟨jb, 0, none⟩ = some (.pointer (some ⟨r, 0, none⟩)) ∧ w.cell? ⟨jb, 1, none⟩ = some (.int .i64 f) ∧ w.cell? ⟨jb, 2, none⟩ = some v ∧ w.cell? ⟨jb, 3, none⟩ = some (.int .i64 (forms R).length) ∧ w.cell? ⟨jb, 4, none⟩ = some (.bool bad) := by
  have hr := h.isJ.1
  simp [World.cell?, hr]
theorem JK.froz (h : JK B r st f jb R bad v T K w) (o : Nat) : w.frozen? ⟨jb, o, none⟩ = false := by
  have hr := h.isJ.1
  simp [World.frozen?, hr]
theorem JK.lt (h : JK B r st f jb R bad v T K w) : jb < w.heap.size := (Array.getElem?_eq_some_iff.1 h.isJ.1).1
theorem JK.T_lt (h : JK B r st f jb R bad v T K w) {b : Nat} (hb : T b) : b < w.heap.size := by
  obtain ⟨S, _, _, hT, _⟩ := h.dk
  exact hT b (.inl hb)
theorem JK.same {w' : World} (h : JK B r st f jb R bad v T K w) (hs : Same w w') : JK B r st f jb R bad v T K w' :=
  ⟨h.dk.same hs, h.nj, h.nv, h.bj, h.keeps.step fun b hb => hs.2 b (h.T_lt hb)⟩
theorem JK.call {st' : St} {g : FuncId} {args : Array Value} {x : Value} (h : JK B r st f jb R bad v T K w) (hB : B ≤ w.heap.size)
    (hc : ∀ S p, p.r = r → IsD S p st w → (∀ b, S b → B ≤ b) → Calls Tryz.prog g args w fun e w' => e = .returned x ∧ Af S r st' w w') :
    Calls Tryz.prog g args w fun e w' => e = .returned x ∧ JK B r st' f jb R bad v T K w' ∧ Ov B w w' := by
  have hk := h.keeps
  have h2 : DK B r st (JT T jb v) (fun w => IsJ r f jb v R bad w ∧ Keeps T K w) w := by
    obtain ⟨S, h1, h2, h3, h4⟩ := h.dk
    exact ⟨S, h1, h2, h3, fun w' hb => ⟨(h4 w' hb).1, hk.step fun b hT => hb b (.inl hT)⟩⟩
  refine (h2.call hB hc).mono ?_
  rintro e w' ⟨he, hd, ho⟩
  refine ⟨he, ⟨?_, h.nj, h.nv, h.bj, hd.kept.2⟩, ho⟩
  obtain ⟨S, h1, h2, h3, h4⟩ := hd
  exact ⟨S, h1, h2, h3, fun w' hb => ⟨(h4 w' hb).1, (h4 w' hb).2.self⟩⟩
/-- The flag is stored. -/
theorem JK.setBad (h : JK B r st f jb R bad v T K w) (b' : Bool) : JK B r st f jb R b' v T K (w.setCell ⟨jb, 4, none⟩ (.bool b')) := by
  have hj := h.isJ
  have hlt := h.lt
  have hne : ∀ b, b ≠ jb → (w.setCell ⟨jb, 4, none⟩ (.bool b')).heap[b]? = w.heap[b]? := fun b hb => Below.heap_setCell _ _ _ _ (by simpa using hb)
  have hnv : ∀ b, blk v = some b → b ≠ jb := fun b hb => (h.nv b hb).2.1
  have hj' : IsJ r f jb v R b' (w.setCell ⟨jb, 4, none⟩ (.bool b')) := by
    refine ⟨?_, hj.2.kept fun b hb => hne b (hnv b hb)⟩
    simp [World.setCell, Array.getElem?_modify, hj.1]
  have hk' : Keeps T K (w.setCell ⟨jb, 4, none⟩ (.bool b')) := h.keeps.step fun b hb => hne b fun e => h.nj (e ▸ hb)
  have hz : (w.setCell ⟨jb, 4, none⟩ (.bool b')).heap.size = w.heap.size := by simp [World.setCell]
  have hm := JK.mk' (w := w.setCell ⟨jb, 4, none⟩ (.bool b')) (fun b hb => by rw [hz]; exact h.T_lt hb) hj' hk'
  exact ⟨h.dk.turn (by omega) (fun b _ hn => hne b fun e => hn (.inr (.inl e))) (fun b hb => ⟨.inl hb, hm.1 b hb⟩) hm.2, h.nj, h.nv, h.bj, hk'⟩
/-- A record is appended. -/
theorem JK.append {v' : Value} {x : ByteArray} {w2 : World} (h : JK B r st f jb R bad v T K w) (hg : w.grownBy w2 (blk v)) (ho : Own w2 9 1 v' (R ++ [x]).length ((R ++ [x]).map Value.string))
    (hb : ∀ b, blk v' = some b → blk v = some b ∨ w.heap.size ≤ b) (hB : B ≤ w.heap.size) :
    JK B r st f jb (R ++ [x]) bad v' T K ((w2.setCell ⟨jb, 2, none⟩ v').setCell ⟨jb, 3, none⟩ (.int .i64 (forms (R ++ [x])).length)) := by
  have hj := h.isJ
  have hlt := h.lt
  obtain ⟨w3, hw3⟩ : ∃ w3, (w2.setCell ⟨jb, 2, none⟩ v').setCell ⟨jb, 3, none⟩ (.int .i64 (forms (R ++ [x])).length) = w3 := ⟨_, rfl⟩
  have hz3 : w3.heap.size = w2.heap.size := by rw [← hw3]; simp [World.setCell]
  have hz2 := hg.size
  have hvj : blk v ≠ some jb := fun e => (h.nv jb e).2.1 rfl
  have hj2 : w2.heap[jb]? = w.heap[jb]? := hg.block jb hlt (Ne.symm hvj)
  have hne3 : ∀ b, b ≠ jb → w3.heap[b]? = w2.heap[b]? := fun b hb => by
    rw [← hw3, Below.heap_setCell _ _ _ _ (by simpa using hb), Below.heap_setCell _ _ _ _ (by simpa using hb)]
  have hne : ∀ b, b < w.heap.size → b ≠ jb → blk v ≠ some b → w3.heap[b]? = w.heap[b]? := fun b hb h1 h2 => (hne3 b h1).trans (hg.block b hb (Ne.symm h2))
  have hv'j : ∀ b, blk v' = some b → b ≠ jb := fun b e => by
    rcases hb b e with h1 | h1
    · exact (h.nv b h1).2.1
    · omega
  have hj3 : IsJ r f jb v' (R ++ [x]) bad w3 := by
    refine ⟨?_, ho.kept fun b e => hne3 b (hv'j b e)⟩
    rw [← hw3]
    simp [World.setCell, Array.getElem?_modify, hj2, hj.1]
  have hk3 : Keeps T K w3 := h.keeps.step fun b hT => hne b (h.T_lt hT) (fun e => h.nj (e ▸ hT)) fun e => (h.nv b e).1 hT
  have hm := JK.mk' (w := w3) (fun b hb => by have := h.T_lt hb; omega) hj3 hk3
  rw [hw3]
  refine ⟨h.dk.turn (by omega) (fun b hlt hn => hne b hlt (fun e => hn (.inr (.inl e))) fun e => hn (.inr (.inr e))) (fun b hb' => ⟨?_, hm.1 b hb'⟩) hm.2, h.nj, fun b e => ?_, h.bj, hk3⟩
  · rcases hb' with h1 | h1 | h1
    · exact .inl (.inl h1)
    · exact .inl (.inr (.inl h1))
    · rcases hb b h1 with h2 | h2
      · exact .inl (.inr (.inr h2))
      · exact .inr h2
  · rcases hb b e with h1 | h1
    · exact h.nv b h1
    · exact ⟨fun hT => by have := h.T_lt hT; omega, by omega, by omega⟩
/-- A journal is made beside a disk. -/
theorem DK.journal {w' : World} (h : DK B r st T K w) (hs : Same w w') (hj : IsJ r f jb v R bad w') (hjb : w.heap.size ≤ jb) (hv : ∀ b, blk v = some b → w.heap.size ≤ b ∧ b ≠ jb) (hB : B ≤ w.heap.size) : JK B r st f jb R bad v T K w' := by
  obtain ⟨S, h1, h2, hT, hK⟩ := id h
  have hk' : Keeps T K w' := hK.step fun b hb => hs.2 b (hT b hb)
  have hm := JK.mk' (w := w') (fun b hb => Nat.lt_of_lt_of_le (hT b hb) hs.1) hj hk'
  refine ⟨h.turn hs.1 (fun b hb _ => hs.2 b hb) (fun b hb => ⟨?_, hm.1 b hb⟩) hm.2, fun hT' => by have := hT _ hT'; omega, fun b e => ?_, by omega, hk'⟩
  · rcases hb with h1 | h1 | h1
    · exact .inl h1
    · exact .inr (by omega)
    · exact .inr (hv b h1).1
  · obtain ⟨e1, e2⟩ := hv b e
    exact ⟨fun hT' => by have := hT b hT'; omega, e2, by omega⟩
/-- The journal is given up. -/
theorem JK.toDK (h : JK B r st f jb R bad v T K w) : DK B r st T K w := by
  obtain ⟨S, h1, h2, hT, hK⟩ := h.dk
  exact ⟨S, h1, fun b hb => ⟨(h2 b hb).1, (h2 b hb).2.1, fun hT' => (h2 b hb).2.2 (.inl hT')⟩, fun b hb => hT b (.inl hb), h.keeps⟩
end
end Go.Proofs.YtejddacjncpneaaGreatDoor.Jo

namespace Go.Proofs.YtejddacjncpneaaGreatDoor.Jo
open Go.RowKit Di

def appC (st : St) (f : Int) (R : List ByteArray) (bad : Bool) (x : ByteArray) : Int :=
  if bad = true then 7 else if 20000 < x.size then 3 else if 1048576 < (forms R).length + (form x).length then 6 else writeR st f (forms R).length (form x)
def appS (st : St) (f : Int) (R : List ByteArray) (bad : Bool) (x : ByteArray) : St :=
  if bad = true then st else if 20000 < x.size then st else if 1048576 < (forms R).length + (form x).length then st else write st f (forms R).length (form x)
def appR (st : St) (f : Int) (R : List ByteArray) (bad : Bool) (x : ByteArray) : List ByteArray := if appC st f R bad x = 0 then R ++ [x] else R
def appB (st : St) (f : Int) (R : List ByteArray) (bad : Bool) (x : ByteArray) : Bool :=
  if bad = true then true else if 20000 < x.size then false else if 1048576 < (forms R).length + (form x).length then false else !decide (writeR st f (forms R).length (form x) = 0)

theorem ovBelow {B : Nat} {w w' : World} (h : Below w.heap.size w w') : Ov B w w' := ⟨h.os, h.tape, h.output, h.size, fun k hk _ => h.block k hk⟩
theorem ov_drew (B : Nat) (w : World) : Ov B w w.drew := Ov.grown (grown_drew w)
theorem ov_set {B jb : Nat} (w : World) (h : B ≤ jb) (i : Nat) (x : Value) : Ov B w (w.setCell ⟨jb, i, none⟩ x) :=
  But.of (Lib.grownBy_setCell w jb i x) fun b e _ => by cases e; exact h
theorem env_ov {B : Nat} {w w' : World} (h : Wi.Env w) (ho : Ov B w w') (hB : 6 ≤ B) : Wi.Env w' :=
  h.below (B := 6) ⟨ho.os, ho.tape, ho.output, ho.size, fun k hk => ho.block k (by have := h.size; omega) (by omega)⟩ (Nat.le_refl _)
theorem infoStr : (Tryz.prog.info? 9).map (fun i => (i.zero, i.size, i.bytes)) = some (some (.string ⟨#[]⟩), 1, 16) := by kernel_rfl

theorem wpList_append_Own {P : Program} {w : World} {e size : Nat} {v : Value} {n : Nat} {xs : List Value} {ops : Array Oper} {rest : List Oper} {o : Oper} {a : Act} {Q : Exit → Act → World → Prop} (hgd : o.guard = none) (s x : Operand) (t tx : TypeId)
    (ho : o.op = .call { callee := .builtin .append, args := #[s, x], argTypes := #[t, tx] }) {i : TypeInfo} {z : Value} {m bytes : Nat} {news : List Value} (ht : P.underlying t = some (.slice e)) (hi : P.info? e = some i) (hz : i.zero = some z)
    (hsize : i.size = size) (hby : i.bytes = bytes) (hzs : z.cells.size = size) (hs : a.eval s = v) (h : Own w e size v n xs) (vx : Value) (hx : a.eval x = vx) (hsrc : Src P size tx vx m news w) (h63 : n + m ≤ maxLen) (hbytes : (n + m) * bytes ≤ 140737488355328)
    (hk : ∀ v' w', Own w' e size v' (n + m) (xs ++ news) → w.grownBy w' (blk v) → (blk v' = none ∨ blk v' = blk v ∨ blk v' = some w.heap.size) → wpList P ops Q rest (a.put o.dst v') w') : wpList P ops Q (o :: rest) a w := by
  refine wpList_plain hgd fun K hK => ?_
  obtain ⟨v', w', hr, h1, h2, h3⟩ := own_append (P := P) (ty := o.type) ht hi hz hsize hby hzs h hsrc h63 hbytes
  unfold Oper.wp execOp
  simp only [ho, resolve, invoke, builtin, Sem.run_bind, Sem.run_pure, Result.andThen_ok, List.map_toArray, List.map_cons, List.map_nil, hs, hx, hr]
  exact hK _ _ (hk v' w' h1 h2 h3)

section
variable {B r : Nat} {st : St} {f : Int} {jb : Nat} {R : List ByteArray} {bad : Bool} {v : Value} {T : Nat → Prop} {K : World → Prop} {w : World}

theorem JK.write (h : JK B r st f jb R bad v T K w) (hB : B ≤ w.heap.size) (a : Int) (s : ByteArray) (hf : -9223372036854775808 ≤ f ∧ f ≤ 9223372036854775807) (ha : -9223372036854775808 ≤ a ∧ a ≤ 9223372036854775807) (hs : s.size ≤ 4611686018427387904) :
    Calls Tryz.prog 30 #[.pointer (some ⟨r, 0, none⟩), .int .i64 f, .int .i64 a, .string s] w fun e w' => e = .returned (.int .i64 (writeR st f a s.data.toList)) ∧ JK B r (write st f a s.data.toList) f jb R bad v T K w' ∧ Ov B w w' :=
  h.call hB fun S p hp hd _ => by subst hp; exact write_any hd f a s hf ha hs
theorem JK.sync (h : JK B r st f jb R bad v T K w) (hB : B ≤ w.heap.size) (hf : -9223372036854775808 ≤ f ∧ f ≤ 9223372036854775807) :
    Calls Tryz.prog 33 #[.pointer (some ⟨r, 0, none⟩), .int .i64 f] w fun e w' => e = .returned (.int .i64 (syncR st f)) ∧ JK B r (sync st f) f jb R bad v T K w' ∧ Ov B w w' :=
  h.call hB fun S p hp hd _ => by subst hp; exact sync_any hd f hf

def AppPost (B r : Nat) (st : St) (f : Int) (jb : Nat) (R : List ByteArray) (bad : Bool) (x : ByteArray) (T : Nat → Prop) (K : World → Prop) (w : World) (e : Ending) (w' : World) : Prop :=
  e = .returned (.int .i64 (appC st f R bad x)) ∧ (∃ v', JK B r (appS st f R bad x) f jb (appR st f R bad x) (appB st f R bad x) v' T K w') ∧ Ov B w w'

set_option maxHeartbeats 2000000 in
theorem append_any (h : JK B r st f jb R bad v T K w) (hB : B ≤ w.heap.size) (he : Wi.Env w) (x : ByteArray) (hx : x.size ≤ 9223372036854775807) (hf : -9223372036854775808 ≤ f ∧ f ≤ 9223372036854775807) (hL : (forms R).length ≤ 100000000) :
    Calls Tryz.prog 12 #[.pointer (some ⟨jb, 0, none⟩), .string x] w (AppPost B r st f jb R bad x T K w) := by
  obtain ⟨c0, c1, c2, c3, c4⟩ := h.cells
  cases bad
  · by_cases hbig : 20000 < x.size
    · have HP : Hid (AppPost B r st f jb R false x T K w (.returned (.int .i64 3)) w) :=
        ⟨by simp [appC, hbig], ⟨v, by simpa [appS, appR, appC, appB, hbig] using h⟩, Ov.refl _ _⟩
      clear h c0 c1 c2 c3 he
      go_enter Tryz.func12, Tryz.ntmps12
      go_wp2_with fail
      go_ret
      exact HP.out
    · have hsz : x.size ≤ 20000 := by omega
      have hfl := form_len x hsz
      obtain ⟨L, hLe⟩ : ∃ L, (forms R).length = L := ⟨_, rfl⟩
      obtain ⟨F, hFe⟩ : ∃ F, (form x).length = F := ⟨_, rfl⟩
      have hFp := form_pos x
      by_cases hfull : 1048576 < L + F
      · have HP : Hid (∀ w', Below w.heap.size w w' → AppPost B r st f jb R false x T K w (.returned (.int .i64 6)) w') := fun w' hb =>
          ⟨by simp [appC, hbig, hLe, hFe, hfull], ⟨v, by simpa [appS, appR, appC, appB, hbig, hLe, hFe, hfull] using h.same (same_below hb)⟩, ovBelow hb⟩
        have HC : Hid (∀ w', Below w.heap.size w w' → w'.cell? ⟨jb, 3, none⟩ = some (.int .i64 L)) := fun w' hb => by
          have := (h.same (same_below hb)).cells.2.2.2.1
          rw [this, hLe]
        have HE := Lib.hid he
        rw [hLe] at hL c3
        clear h c0 c1 c2 he hLe
        rw [hFe] at hfl
        go_enter Tryz.func12, Tryz.ntmps12
        go_wp2_with fail
        refine (form_any x hsz w HE.out).mono ?_
        rintro e w1 ⟨rfl, hb⟩
        have HB1 := Lib.hid hb
        have c3' := HC.out w1 hb
        have hfs : (⟨(form x).toArray⟩ : ByteArray).size = F := by rw [← hFe]; simp [ByteArray.size]
        have hfull' : 1048576 < (L : Int) + (F : Int) := by omega
        clear hb c3
        go_wp2_with fail
        go_ret
        exact HP.out _ HB1.out
      · have HC : Hid (appC st f R false x = writeR st f (forms R).length (form x)) := by unfold Hid; simp [appC, hbig, hLe, hFe, hfull]
        have HS : Hid (appS st f R false x = write st f (forms R).length (form x)) := by unfold Hid; simp [appS, hbig, hLe, hFe, hfull]
        have HAB : Hid (appB st f R false x = !decide (writeR st f (forms R).length (form x) = 0)) := by unfold Hid; simp [appB, hbig, hLe, hFe, hfull]
        have HJ := Lib.hid h
        have HE := Lib.hid he
        have HLe := Lib.hid hLe
        have HFe := Lib.hid hFe
        have hrl := forms_ge R
        rw [hLe] at hL c3 hrl
        rw [hFe] at hfl hFp
        clear h he hLe hFe c0 c1 c2 c3
        go_enter Tryz.func12, Tryz.ntmps12
        go_wp2_with fail
        refine (form_any x hsz w HE.out).mono ?_
        rintro e w1 ⟨rfl, hb⟩
        have h1 := HJ.out.same (same_below hb)
        obtain ⟨c0, c1, c2, c3, c4'⟩ := h1.cells
        rw [HLe.out] at c3
        have hz1 : B ≤ w1.heap.size := Nat.le_trans hB hb.size
        have HB1 : Hid (Ov B w w1) := ovBelow hb
        have hfs : (⟨(form x).toArray⟩ : ByteArray).size = F := by rw [← HFe.out]; simp [ByteArray.size]
        have H1 := Lib.hid h1
        clear hb h1 c4 HJ HE
        go_wp2_with fail
        go_still_tail 13, (by kernel_rfl)
        have h2 := H1.out.same (w' := w1.drew) (same_grown (grown_drew w1))
        have HB2 : Hid (Ov B w w1.drew) := HB1.out.trans (ov_drew B w1)
        have hz2 : B ≤ w1.drew.heap.size := hz1
        change wpList _ _ _ _ _ w1.drew
        clear c0 c1 c2 c3 c4' H1 HB1 hz1
        generalize w1.drew = w2 at *
        have HW := Lib.hid (h2.write hz2 (L : Int) ⟨(form x).toArray⟩ hf (by omega) (by omega))
        clear h2
        go_wp2_with fail
        refine HW.out.mono ?_
        rintro e w3 ⟨rfl, h3, ho3⟩
        have HB3 : Hid (Ov B w w3) := HB2.out.trans ho3
        have hz3 : B ≤ w3.heap.size := Nat.le_trans hz2 ho3.size
        obtain ⟨c0, c1, c2, c3, c4⟩ := h3.cells
        have f2 := h3.froz 2
        have f3 := h3.froz 3
        have f4 := h3.froz 4
        obtain ⟨c, hc⟩ : ∃ c, writeR st f (L : Int) (form x) = c := ⟨_, rfl⟩
        have HC2 : Hid (appC st f R false x = c) := by unfold Hid; rw [HC.out, HLe.out, hc]
        have HS2 : Hid (appS st f R false x = write st f (L : Int) (form x)) := by unfold Hid; rw [HS.out, HLe.out]
        have HAB2 : Hid (appB st f R false x = !decide (c = 0)) := by unfold Hid; rw [HAB.out, HLe.out, hc]
        rw [show writeR st f (L : Int) (⟨(form x).toArray⟩ : ByteArray).data.toList = c from hc]
        have H3 := Lib.hid h3
        clear h3 ho3 HW HB2 hz2 HC HS HAB hc
        by_cases hc0 : c = 0
        · subst hc0
          obtain ⟨i0, hi, hi0, hi1, hi2⟩ := info_parts infoStr
          have hown : Own w3 9 1 v R.length (R.map Value.string) := H3.out.isJ.2
          have HO := Lib.hid hown
          obtain ⟨pa, pc, hpv, _, _⟩ := hown.shape
          have HPV := Lib.hid hpv
          rw [hpv] at c2
          clear c0 c1 c3 c4 f4 hown hpv
          go_wp2_with (at_builtin; refine wpList_append_Own (by rfl) _ _ _ _ (by rfl) Tryz.underlying46 hi hi0 hi1 hi2 rfl (by rfl) (HPV.out ▸ HO.out.grown (World.grownBy_alloc _ (.cells #[.string x] 9) none) (by cases blk v <;> simp)) _ (by rfl) (Src.ofSlice _ Tryz.underlying46 _ 1 1 [.string x] (by simp) (World.news_of_block (cs := #[.string x]) (t := 9) (fr := (0, 0)) (heap_alloc_new _ _)) (by simp [Value.oneCell'])) (by unfold maxLen; omega) (by omega) ?_)
          intro v' w4 hown4 hgr hbl
          rw [← HPV.out] at hgr hbl
          have hall : w3.grownBy w4 (blk v) := (World.grownBy_alloc _ _ _).trans hgr
          have hjv : blk v ≠ some jb := fun e => (H3.out.nv jb e).2.1 rfl
          have hj4 : w4.heap[jb]? = _ := (hall.block jb H3.out.lt (Ne.symm hjv)).trans H3.out.isJ.1
          have HJ4 := Lib.hid (H3.out.append (x := x) (v' := v') hall (by simpa using hown4) (fun b hb => by
            rcases hbl with h | h | h
            · rw [h] at hb; cases hb
            · exact .inl (h ▸ hb)
            · rw [h] at hb; cases hb; exact .inr (by simp)) hz3)
          obtain ⟨va, vc, hv', _, _⟩ := hown4.shape
          subst hv'
          have d2 : w4.cell? ⟨jb, 2, none⟩ = some (.slice pa R.length pc) := by simp [World.cell?, hj4, HPV.out]
          have d3 : w4.cell? ⟨jb, 3, none⟩ = some (.int .i64 L) := by simp [World.cell?, hj4, HLe.out]
          have g2 : w4.frozen? ⟨jb, 2, none⟩ = false := by simp [World.frozen?, hj4]
          have g3 : w4.frozen? ⟨jb, 3, none⟩ = false := by simp [World.frozen?, hj4]
          have hjs : jb < w4.heap.size := (Array.getElem?_eq_some_iff.1 hj4).1
          have hwr : IntKind.i64.wrap ((L : Int) + (F : Int)) = (L : Int) + (F : Int) := IntWalk.i64_in _ (by omega)
          have HG4 : Hid (Ov B w w4) := HB3.out.trans (But.of hall fun b e _ => (H3.out.nv b e).2.2)
          have HP : Hid (AppPost B r st f jb R false x T K w (.returned (.int .i64 0)) ((w4.setCell ⟨jb, 2, none⟩ (.slice va (R.length + 1) vc)).setCell ⟨jb, 3, none⟩ (.int .i64 ((L : Int) + (F : Int))))) := by
            have e : (((forms (R ++ [x])).length : Nat) : Int) = (L : Int) + (F : Int) := by rw [forms_snoc, List.length_append, HLe.out, HFe.out]; omega
            have hj := HJ4.out
            rw [e] at hj
            exact ⟨by rw [HC2.out], ⟨_, by rw [HS2.out, HAB2.out]; simpa [appR, HC2.out] using hj⟩, (HG4.out.trans (ov_set w4 H3.out.bj 2 _)).trans (ov_set _ H3.out.bj 3 _)⟩
          clear hgr hbl hall hjv hj4 HJ4 hown4 HC2 HS2 HAB2 H3 HB3 hz3 f2 f3 c2 HO HPV
          go_wp2_with fail
          go_ret
          exact HP.out
        · have hc1 : (c != 0) = true := by simpa using hc0
          have hc2 : (c == 0) = false := by simpa using hc0
          have HP : Hid (AppPost B r st f jb R false x T K w (.returned (.int .i64 c)) (w3.setCell ⟨jb, 4, none⟩ (.bool true))) :=
            ⟨by rw [HC2.out], ⟨v, by rw [HS2.out, HAB2.out]; simpa [appR, HC2.out, hc0] using H3.out.setBad true⟩, HB3.out.trans (ov_set w3 H3.out.bj 4 _)⟩
          clear HC2 HS2 HAB2 H3
          go_wp2_with fail
          go_ret
          exact HP.out
  · have HP : Hid (AppPost B r st f jb R true x T K w (.returned (.int .i64 7)) w) :=
      ⟨by simp [appC], ⟨v, by simpa [appS, appR, appC, appB] using h⟩, Ov.refl _ _⟩
    clear h c0 c1 c2 c3 he
    go_enter Tryz.func12, Tryz.ntmps12
    go_wp2_with fail
    go_ret
    exact HP.out
end
end Go.Proofs.YtejddacjncpneaaGreatDoor.Jo

namespace Go.Proofs.YtejddacjncpneaaGreatDoor.Jo
open Go.RowKit Di

section
variable {B r : Nat} {st : St} {f : Int} {jb : Nat} {R : List ByteArray} {bad : Bool} {v : Value} {T : Nat → Prop} {K : World → Prop} {w : World}

def syC (st : St) (f : Int) (bad : Bool) : Int := if bad = true then 7 else syncR st f
def syS (st : St) (f : Int) (bad : Bool) : St := if bad = true then st else sync st f
def syB (st : St) (f : Int) (bad : Bool) : Bool := if bad = true then true else !decide (syncR st f = 0)
def SyPost (B r : Nat) (st : St) (f : Int) (jb : Nat) (R : List ByteArray) (bad : Bool) (v : Value) (T : Nat → Prop) (K : World → Prop) (w : World) (e : Ending) (w' : World) : Prop :=
  e = .returned (.int .i64 (syC st f bad)) ∧ JK B r (syS st f bad) f jb R (syB st f bad) v T K w' ∧ Ov B w w'

set_option maxHeartbeats 1000000 in
theorem sync_any' (h : JK B r st f jb R bad v T K w) (hB : B ≤ w.heap.size) (hf : -9223372036854775808 ≤ f ∧ f ≤ 9223372036854775807) :
    Calls Tryz.prog 14 #[.pointer (some ⟨jb, 0, none⟩)] w (SyPost B r st f jb R bad v T K w) := by
  obtain ⟨c0, c1, c2, c3, c4⟩ := h.cells
  cases bad
  · have H := Lib.hid h
    clear h c2 c3
    go_enter Tryz.func14, Tryz.ntmps14
    go_wp2_with fail
    go_still_tail 8, (by kernel_rfl)
    have h2 := H.out.same (w' := w.drew) (same_grown (grown_drew w))
    have HB2 : Hid (Ov B w w.drew) := ov_drew B w
    have hz2 : B ≤ w.drew.heap.size := hB
    change wpList _ _ _ _ _ w.drew
    clear c0 c1 c4 H hB
    generalize w.drew = w2 at *
    have HW := Lib.hid (h2.sync hz2 hf)
    clear h2
    go_wp2_with fail
    refine HW.out.mono ?_
    rintro e w3 ⟨rfl, h3, ho3⟩
    obtain ⟨c0, c1, c2, c3, c4⟩ := h3.cells
    have f4 := h3.froz 4
    obtain ⟨c, hc⟩ : ∃ c, syncR st f = c := ⟨_, rfl⟩
    have HP : Hid (SyPost B r st f jb R false v T K w (.returned (.int .i64 c)) (w3.setCell ⟨jb, 4, none⟩ (.bool (c != 0)))) := by
      refine ⟨by simp [syC, hc], ?_, (HB2.out.trans ho3).trans (ov_set w3 h3.bj 4 _)⟩
      have := h3.setBad (c != 0)
      have e : (c != 0) = syB st f false := by simp [syB, hc]; rfl
      rw [e] at this ⊢
      simpa [syS] using this
    rw [hc]
    clear h3 ho3 HW HB2 hc c0 c1 c2 c3
    go_wp2_with fail
    go_ret
    exact HP.out
  · have HP : Hid (SyPost B r st f jb R true v T K w (.returned (.int .i64 7)) w) := ⟨by simp [syC], by simpa [syS, syB] using h, Ov.refl _ _⟩
    clear h c0 c1 c2 c3
    go_enter Tryz.func14, Tryz.ntmps14
    go_wp2_with fail
    go_ret
    exact HP.out

/-- A list of strings of the call's own. -/
def NewList (w : World) (l : List ByteArray) (e : Ending) (w' : World) : Prop := ∃ v', e = .returned v' ∧ w'.ownsRow w.heap.size 9 1 v' l.length (l.map Value.string) ∧ Below w.heap.size w w'

theorem clone_any (h : Own w 9 1 v R.length (R.map Value.string)) (hL : R.length ≤ 100000000) : Calls Tryz.prog 49 #[v] w (NewList w R) := by
  rcases h.2 with ⟨a, rfl, h0⟩ | ⟨g, cap, cur, rfl, hg, hn, hc, hm, hcs, ht⟩
  · obtain rfl : R = [] := List.length_eq_zero_iff.1 h0
    cases a with
    | none => exact (Tryz.slices_Clone_string_nil 0 0 w).mono fun e w' ⟨h1, h2⟩ => ⟨_, h1, by subst h2; exact World.ownsRow_nil _ _ _ _, by subst h2; exact Below.refl _ _⟩
    | some a => exact (Tryz.slices_Clone_string_zero a 0 w).mono fun e w' ⟨v', h1, h2, h3, h4⟩ => ⟨_, h1, h2, h4⟩
  · refine (Tryz.slices_Clone_string g 0 R.length cap R w (Nat.le_refl _) (by omega) (fun j hj => ?_)).mono fun e w' ⟨v', h1, h2, h3, h4⟩ => ⟨v', h1, by simpa using h2, h4⟩
    obtain ⟨g', e, hcell⟩ := h.cell (j := j) (u := .string R[j]) (by simp [hj])
    simp at e
    subst e
    rw [Nat.zero_add, hcell]
    simp [hj]
theorem all_any (h : JK B r st f jb R bad v T K w) (hL : R.length ≤ 100000000) : Calls Tryz.prog 25 #[.pointer (some ⟨jb, 0, none⟩)] w (NewList w R) := by
  obtain ⟨c0, c1, c2, c3, c4⟩ := h.cells
  have HC := Lib.hid (clone_any h.isJ.2 hL)
  obtain ⟨a, cap, rfl, _, _⟩ := h.isJ.2.shape
  clear h c0 c1 c3 c4
  go_enter Tryz.func25, Tryz.ntmps25
  go_wp2_with fail
  refine HC.out.mono ?_
  rintro e w' ⟨v', rfl, h1, h2⟩
  have HH : Hid (NewList w R (.returned v') w') := ⟨v', rfl, h1, h2⟩
  clear h1 h2 HC
  go_wp2_with fail
  go_ret
  exact HH.out

/-! ### Open -/
def opR (st : St) (f : Int) : List ByteArray := recs (st.now f)
def opS (st : St) (f : Int) : St :=
  if isF f = false then st else if syncR st f = 0 then if (forms (opR st f)).length < (st.now f).length then trunc (sync st f) f (forms (opR st f)).length else sync st f else sync st f
def opC (st : St) (f : Int) : Int :=
  if isF f = false then 1 else if syncR st f = 0 then if (forms (opR st f)).length < (st.now f).length then truncR (sync st f) f (forms (opR st f)).length else 0 else syncR st f
theorem syncR_ok {st : St} {f : Int} (h : syncR st f = 0) : (sync st f).down = false ∧ (sync st f).now f = st.now f ∧ isF f = true ∧ (sync st f).dur f = st.now f ∧ (goes st).down = false ∧ (goes st).lost ≤ 0 ∧ sync st f = Di.settle (goes st) f := by
  unfold syncR at h
  split at h
  · cases h
  · rename_i hd
    split at h
    · cases h
    · rename_i hf
      split at h
      · cases h
      · rename_i hl
        have hd' : (goes st).down = false := by simpa using hd
        have hf' : isF f = true := by simpa using hf
        have e : sync st f = Di.settle (goes st) f := by unfold sync; rw [if_neg (by simp [hd', hf']), if_neg hl]
        have hn := (goes_up hd').1
        exact ⟨by rw [e]; exact hd', by rw [e]; simp [Di.settle, hn], hf', by rw [e]; simp [Di.settle, upd_same, hn], hd', by omega, e⟩

def OpPost (B r : Nat) (st : St) (f : Int) (T : Nat → Prop) (K : World → Prop) (w : World) (e : Ending) (w' : World) : Prop :=
  Ov B w w' ∧ ((opC st f ≠ 0 ∧ e = .returned (.tuple #[.pointer none, .int .i64 (opC st f)]) ∧ DK B r (opS st f) T K w') ∨
    (opC st f = 0 ∧ ∃ jb v, e = .returned (.tuple #[.pointer (some ⟨jb, 0, none⟩), .int .i64 0]) ∧ JK B r (opS st f) f jb (opR st f) false v T K w'))

theorem own_of_row {w : World} {base e size n : Nat} {v : Value} {xs : List Value} (h : w.ownsRow base e size v n xs) : Own w e size v n xs ∧ ∀ b, blk v = some b → base ≤ b := by
  rcases h with ⟨h1, h2 | ⟨g, cap, cur, rfl, hb, hg, hn, hm, hcs, ht⟩⟩
  · refine ⟨⟨h1, .inl ⟨none, h2⟩⟩, fun b hb => ?_⟩
    rw [h2.1] at hb; simp [blk] at hb
  · by_cases h0 : cap = 0
    · subst h0
      obtain rfl : n = 0 := by omega
      exact ⟨⟨h1, .inl ⟨_, rfl, rfl⟩⟩, fun b hb' => by rw [blk_zero] at hb'; cases hb'⟩
    · exact ⟨⟨h1, .inr ⟨g, cap, cur, rfl, hg, hn, by omega, hm, hcs, ht⟩⟩, fun b hb' => by rw [blk_pos (by omega)] at hb'; cases hb'; exact hb⟩

theorem DK.size (h : DK B r st T K w) (hf : -9223372036854775808 ≤ f ∧ f ≤ 9223372036854775807) : Calls Tryz.prog 27 #[.pointer (some ⟨r, 0, none⟩), .int .i64 f] w fun e w' => e = .returned (.int .i64 (st.now f).length) ∧ w = w' :=
  h.see fun S p hp hd => by subst hp; exact size_any hd f hf
theorem DK.sync (h : DK B r st T K w) (hB : B ≤ w.heap.size) (hf : -9223372036854775808 ≤ f ∧ f ≤ 9223372036854775807) :
    Calls Tryz.prog 33 #[.pointer (some ⟨r, 0, none⟩), .int .i64 f] w fun e w' => e = .returned (.int .i64 (syncR st f)) ∧ DK B r (sync st f) T K w' ∧ Ov B w w' :=
  h.call hB fun S p hp hd _ => by subst hp; exact sync_any hd f hf
theorem DK.trunc (h : DK B r st T K w) (hB : B ≤ w.heap.size) (n : Int) (hf : -9223372036854775808 ≤ f ∧ f ≤ 9223372036854775807) (hn : -9223372036854775808 ≤ n ∧ n ≤ 9223372036854775807) :
    Calls Tryz.prog 35 #[.pointer (some ⟨r, 0, none⟩), .int .i64 f, .int .i64 n] w fun e w' => e = .returned (.int .i64 (truncR st f n)) ∧ DK B r (trunc st f n) T K w' ∧ Ov B w w' :=
  h.call hB fun S p hp hd _ => by subst hp; exact trunc_any hd f n hf hn
theorem DK.readAll (h : DK B r st T K w) (hd0 : st.down = false) (hf : isF f = true) :
    Calls Tryz.prog 26 #[.pointer (some ⟨r, 0, none⟩), .int .i64 f, .int .i64 0, .int .i64 (st.now f).length] w fun e w' => e = .returned (.tuple #[.string ⟨(st.now f).toArray⟩, .int .i64 0]) ∧ But Nothing w w' :=
  h.see fun S p hp hd => by
    subst hp
    have hl := hd.wf.len f
    refine (read_ok hd f 0 (st.now f).length hd0 hf (by omega) (by omega)).mono ?_
    rintro e w' ⟨rfl, hb⟩
    exact ⟨by simp, hb⟩

theorem Same.ov {w w' : World} (h : Same w w') (ho : w'.os = w.os) (ht : w'.tape = w.tape) (hp : w'.output = w.output) : Ov B w w' := ⟨ho, ht, hp, h.1, fun k hk _ => h.2 k hk⟩

def RowT (T : Nat → Prop) (v : Value) (b : Nat) : Prop := T b ∨ blk v = some b
def RowK (T : Nat → Prop) (K : World → Prop) (v : Value) (R : List ByteArray) (w : World) : Prop := Keeps T K w ∧ Own w 9 1 v R.length (R.map Value.string)
/-- A row of strings is made beside a disk. -/
theorem DK.addRow {w' : World} (h : DK B r st T K w) (hs : Same w w') (hown : Own w' 9 1 v R.length (R.map Value.string)) (hbl : ∀ b, blk v = some b → w.heap.size ≤ b) :
    DK B r st (RowT T v) (RowK T K v R) w' ∧ (∀ b, blk v = some b → ¬ T b) := by
  obtain ⟨S, h1, h2, hT, hK⟩ := id h
  refine ⟨h.turn hs.1 (fun b hb _ => hs.2 b hb) (fun b hb => ?_) (fun w'' hb => ⟨(hK.step fun b h => hs.2 b (hT b h)).step fun b h => hb b (.inl h), hown.kept fun b h => hb b (.inr h)⟩), fun b e hT' => by have := hbl b e; have := hT b hT'; omega⟩
  rcases hb with h | h
  · exact ⟨.inl h, Nat.lt_of_lt_of_le (hT b h) hs.1⟩
  · exact ⟨.inr (hbl b h), hown.lt b h⟩
theorem DK.ofRow (h : DK B r st (RowT T v) (RowK T K v R) w) (hn : ∀ b, blk v = some b → ¬ T b ∧ B ≤ b) (hB : B ≤ w.heap.size) :
    JK B r st f w.heap.size R false v T K (w.alloc (.cells #[.pointer (some ⟨r, 0, none⟩), .int .i64 f, v, .int .i64 (forms R).length, .bool false] 70)) := by
  have hs : Same w (w.alloc (.cells #[.pointer (some ⟨r, 0, none⟩), .int .i64 f, v, .int .i64 (forms R).length, .bool false] 70)) := same_grown (World.grownBy_alloc _ _ _)
  have hj : IsJ r f w.heap.size v R false (w.alloc (.cells #[.pointer (some ⟨r, 0, none⟩), .int .i64 f, v, .int .i64 (forms R).length, .bool false] 70)) :=
    ⟨heap_alloc_new _ _, h.kept.2.kept fun b hb => hs.2 b (h.kept.2.lt b hb)⟩
  have hT : ∀ b, T b → b < w.heap.size := by
    obtain ⟨S, h1, h2, hT, hK⟩ := id h
    exact fun b hb => hT b (.inl hb)
  have hk := h.kept.1.step fun b hb => hs.2 b (hT b hb)
  have hm := JK.mk' (w := w.alloc (.cells #[.pointer (some ⟨r, 0, none⟩), .int .i64 f, v, .int .i64 (forms R).length, .bool false] 70)) (fun b hb => Nat.lt_of_lt_of_le (hT b hb) hs.1) hj hk
  refine ⟨h.turn hs.1 (fun b hb _ => hs.2 b hb) (fun b hb => ⟨?_, hm.1 b hb⟩) hm.2, fun hT' => by have := hT _ hT'; omega, fun b e => ⟨(hn b e).1, by have := h.kept.2.lt b e; omega, (hn b e).2⟩, hB, hk⟩
  rcases hb with h1 | h1 | h1
  · exact .inl (.inl h1)
  · exact .inr (by omega)
  · exact .inl (.inr h1)
theorem DK.dropRow (h : DK B r st (RowT T v) (RowK T K v R) w) : DK B r st T K w := by
  obtain ⟨S, h1, h2, hT, hK⟩ := id h
  exact ⟨S, h1, fun b hb => ⟨(h2 b hb).1, (h2 b hb).2.1, fun hT' => (h2 b hb).2.2 (.inl hT')⟩, fun b hb => hT b (.inl hb), h.kept.1⟩

set_option maxHeartbeats 2000000 in
theorem open_any (h : DK B r st T K w) (hB : B ≤ w.heap.size) (hB6 : 6 ≤ B) (he : Wi.Env w) (hf : -9223372036854775808 ≤ f ∧ f ≤ 9223372036854775807) :
    Calls Tryz.prog 8 #[.pointer (some ⟨r, 0, none⟩), .int .i64 f] w (OpPost B r st f T K w) := by
  by_cases hF : isF f = true
  · have hFr := isF_t.1 hF
    have hlen := h.wf.len f
    have HS := Lib.hid (h.sync hB hf)
    have HE := Lib.hid he
    obtain ⟨c, hc⟩ : ∃ c, syncR st f = c := ⟨_, rfl⟩
    by_cases hc0 : c = 0
    · subst hc0
      obtain ⟨hs1, hs2, _, _, _, _, _⟩ := syncR_ok hc
      obtain ⟨s, hs⟩ : ∃ s, st.now f = s := ⟨_, rfl⟩
      obtain ⟨n, hn⟩ : ∃ n, (forms (recs s)).length = n := ⟨_, rfl⟩
      have hns : n ≤ s.length := by rw [← hn]; exact recs_len s
      have HC : Hid (opC st f = if n < s.length then truncR (sync st f) f n else 0) := by unfold Hid opC opR; rw [if_neg (by simp [hF]), if_pos hc, hs, hn]
      have HSt : Hid (opS st f = if n < s.length then trunc (sync st f) f n else sync st f) := by unfold Hid opS opR; rw [if_neg (by simp [hF]), if_pos hc, hs, hn]
      have HR : Hid (opR st f = recs s) := by unfold Hid opR; rw [hs]
      rw [hc] at HS
      rw [hs] at hlen hs2
      have HD := Lib.hid hs1
      have HN := Lib.hid hs2
      have HF := Lib.hid hF
      have HNL := Lib.hid hn
      clear h he hF hs1 hs2 hs hn hc
      go_enter Tryz.func8, Tryz.ntmps8
      go_wp2_with fail
      refine HS.out.mono ?_
      rintro e w1 ⟨rfl, h1, ho1⟩
      have hz1 : B ≤ w1.heap.size := Nat.le_trans hB ho1.size
      have HE1 := Lib.hid (env_ov HE.out ho1 hB6)
      have HSz := Lib.hid (h1.size hf)
      have HRd := Lib.hid (h1.readAll HD.out HF.out)
      have H1 := Lib.hid h1
      have HO1 := Lib.hid ho1
      rw [HN.out] at HSz HRd
      clear h1 ho1 HS
      go_wp2_with fail
      refine HSz.out.mono ?_
      rintro e w2 ⟨rfl, rfl⟩
      go_wp2_with fail
      refine HRd.out.mono ?_
      rintro e w2 ⟨rfl, hb2⟩
      have h2 := H1.out.same (same_nothing hb2)
      have hz2 : B ≤ w2.heap.size := Nat.le_trans hz1 hb2.size
      have ho2 : Ov B w w2 := HO1.out.trans (Ov.nothing hb2)
      have HE2 := Lib.hid (env_ov HE1.out (Ov.nothing (B := B) hb2) hB6)
      have H2 := Lib.hid h2
      have HO2 := Lib.hid ho2
      clear h2 hb2 ho2 HSz HRd H1 HO1 HE1
      go_wp2_with fail
      refine (recordsOf_any s (by omega) _ HE2.out).mono ?_
      rintro e w3 ⟨v, rfl, hrow, hb3⟩
      obtain ⟨hown, hbl⟩ := own_of_row hrow
      obtain ⟨h3, hnT⟩ := H2.out.addRow (same_below hb3) hown hbl
      have hNB : Hid (∀ b, blk v = some b → ¬ T b ∧ B ≤ b) := fun b e => ⟨hnT b e, by have := hbl b e; omega⟩
      have hz3 : B ≤ w3.heap.size := Nat.le_trans hz2 hb3.size
      have HO3 : Hid (Ov B w w3) := HO2.out.trans (ovBelow hb3)
      obtain ⟨va, vc, hv, _, _⟩ := hown.shape
      rw [HNL.out]
      have hsn : (⟨s.toArray⟩ : ByteArray).size = s.length := by simp [ByteArray.size]
      by_cases hcut : n < s.length
      · have hcut' : (n : Int) < (s.length : Int) := by omega
        have HT := Lib.hid (h3.trunc hz3 (n : Int) hf (by omega))
        obtain ⟨c, hc⟩ : ∃ c, truncR (sync st f) f n = c := ⟨_, rfl⟩
        have HC2 : Hid (opC st f = c) := by unfold Hid; rw [HC.out, if_pos hcut, hc]
        have HSt2 : Hid (opS st f = trunc (sync st f) f n) := by unfold Hid; rw [HSt.out, if_pos hcut]
        rw [hc] at HT
        subst hv
        clear h3 hb3 hrow hown hbl hnT hc HC HSt H2 HO2
        go_wp2_with fail
        refine HT.out.mono ?_
        rintro e w4 ⟨rfl, h4, ho4⟩
        have hz4 := ho4.size
        have HO4 : Hid (Ov B w w4) := HO3.out.trans ho4
        clear HT
        by_cases hc0 : c = 0
        · subst hc0
          have hz4' : B ≤ w4.heap.size := Nat.le_trans hz3 hz4
          have hj := h4.ofRow (f := f) hNB.out hz4'
          rw [HNL.out] at hj
          have HP : Hid (OpPost B r st f T K w (.returned (.tuple #[.pointer (some ⟨w4.heap.size, 0, none⟩), .int .i64 0])) (w4.alloc (.cells #[.pointer (some ⟨r, 0, none⟩), .int .i64 f, .slice va (recs s).length vc, .int .i64 n, .bool false] 70))) :=
            ⟨HO4.out.trans (Ov.grown (World.grownBy_alloc _ _ _)), .inr ⟨HC2.out, _, _, rfl, by rw [HSt2.out, HR.out]; exact hj⟩⟩
          clear h4 ho4 HC2 HSt2 hj
          go_wp2_with fail
          go_ret2
          exact HP.out
        · have hc1 : (c != 0) = true := by simpa using hc0
          have HP : Hid (OpPost B r st f T K w (.returned (.tuple #[.pointer none, .int .i64 c])) w4) :=
            ⟨HO4.out, .inl ⟨by rw [HC2.out]; exact hc0, by rw [HC2.out], by rw [HSt2.out]; exact h4.dropRow⟩⟩
          clear h4 ho4 HC2 HSt2
          go_wp2_with fail
          go_ret2
          exact HP.out
      · have hcut' : ¬ (n : Int) < (s.length : Int) := by omega
        have HC2 : Hid (opC st f = 0) := by unfold Hid; rw [HC.out, if_neg hcut]
        have HSt2 : Hid (opS st f = sync st f) := by unfold Hid; rw [HSt.out, if_neg hcut]
        subst hv
        have hj := h3.ofRow (f := f) hNB.out hz3
        rw [HNL.out] at hj
        have HP : Hid (OpPost B r st f T K w (.returned (.tuple #[.pointer (some ⟨w3.heap.size, 0, none⟩), .int .i64 0])) (w3.alloc (.cells #[.pointer (some ⟨r, 0, none⟩), .int .i64 f, .slice va (recs s).length vc, .int .i64 n, .bool false] 70))) :=
          ⟨HO3.out.trans (Ov.grown (World.grownBy_alloc _ _ _)), .inr ⟨HC2.out, _, _, rfl, by rw [HSt2.out, HR.out]; exact hj⟩⟩
        clear h3 hb3 hrow hown hbl hnT HC HSt HC2 HSt2 hj
        go_wp2_with fail
        go_ret2
        exact HP.out
    · have HC : Hid (opC st f = c) := by unfold Hid opC; rw [if_neg (by simp [hF]), if_neg (by rw [hc]; exact hc0), hc]
      have HSt : Hid (opS st f = sync st f) := by unfold Hid opS; rw [if_neg (by simp [hF]), if_neg (by rw [hc]; exact hc0)]
      have hc1 : (c != 0) = true := by simpa using hc0
      rw [hc] at HS
      clear h he hF hc hlen
      go_enter Tryz.func8, Tryz.ntmps8
      go_wp2_with fail
      refine HS.out.mono ?_
      rintro e w1 ⟨rfl, h1, ho1⟩
      have HP : Hid (OpPost B r st f T K w (.returned (.tuple #[.pointer none, .int .i64 c])) w1) :=
        ⟨ho1, .inl ⟨by rw [HC.out]; exact hc0, by rw [HC.out], by rw [HSt.out]; exact h1⟩⟩
      clear h1 ho1 HC HSt HS
      go_wp2_with fail
      go_ret2
      exact HP.out
  · have hF' : isF f = false := by simpa using hF
    have hF2 := isF_f.1 hF'
    have HP : Hid (OpPost B r st f T K w (.returned (.tuple #[.pointer none, .int .i64 1])) w) :=
      ⟨Ov.refl _ _, .inl ⟨by simp [opC, hF'], by simp [opC, hF'], by simpa [opS, hF'] using h⟩⟩
    have hF3 : f < 0 ∨ (¬ f < 0 ∧ 16 ≤ f) := by omega
    clear h he hF hF' hF2
    rcases hF3 with h1 | ⟨h1, h2⟩
    all_goals
      go_enter Tryz.func8, Tryz.ntmps8
      go_wp2_with fail
      go_ret2
      exact HP.out
end
end Go.Proofs.YtejddacjncpneaaGreatDoor.Jo
