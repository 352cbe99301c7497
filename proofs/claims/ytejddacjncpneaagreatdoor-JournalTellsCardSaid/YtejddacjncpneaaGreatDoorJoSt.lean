/- The law JournalStays, walked: it returns true, and turns nothing that was there. -/
import Derived.Test.YtejddacjncpneaaGreatDoorJo3
import Derived.Test.YtejddacjncpneaaGreatDoorJoM
set_option maxRecDepth 100000
namespace Go.Proofs.YtejddacjncpneaaGreatDoor.Jo
open Go.RowKit Go.WideShapes Go.ChangeShapes Di
open Wi (StrCells)

theorem ov_same {w w' : World} (h : Ov w.heap.size w w') : Same w w' := ⟨h.size, fun b hb => h.block b hb (by omega)⟩
theorem own_strs' {w : World} {v : Value} {l : List ByteArray} (h : Own w 9 1 v l.length (l.map Value.string)) : ∃ a cap, v = .slice a l.length cap ∧ StrCells w a l := by
  obtain ⟨a, cap, rfl, _, _⟩ := h.shape
  refine ⟨a, cap, rfl, ?_⟩
  cases l with
  | nil => exact .inl rfl
  | cons x l =>
    obtain ⟨g, rfl, _⟩ := h.cell (j := 0) (u := .string x) (by simp)
    refine .inr ⟨g, 0, rfl, fun i hi => ?_⟩
    obtain ⟨g', e, hc⟩ := h.cell (j := i) (u := .string (x :: l)[i]) (by rw [List.getElem?_map, List.getElem?_eq_getElem hi]; rfl)
    cases e
    rw [Nat.zero_add]
    exact hc

section
variable {B r : Nat} {st : St} {f : Int} {jb : Nat} {R : List ByteArray} {bad : Bool} {v : Value} {T T' : Nat → Prop} {K K' : World → Prop} {w w' : World}
/-- What is kept beside a journal is written. -/
theorem JK.turn (h : JK B r st f jb R bad v T K w) (hz : w.heap.size ≤ w'.heap.size) (hs : ∀ b, b < w.heap.size → ¬ T b → w'.heap[b]? = w.heap[b]?)
    (hT' : ∀ b, T' b → (T b ∨ w.heap.size ≤ b) ∧ b < w'.heap.size) (hK' : Keeps T' K' w') : JK B r st f jb R bad v T' K' w' := by
  have hlt := h.lt
  have hv := h.isJ.2.lt
  have hj : IsJ r f jb v R bad w' := ⟨(hs jb hlt h.nj).trans h.isJ.1, h.isJ.2.kept fun b e => hs b (hv b e) (h.nv b e).1⟩
  have hm := JK.mk' (w := w') (fun b hb => (hT' b hb).2) hj hK'
  refine ⟨h.dk.turn hz (fun b hb hn => hs b hb fun ht => hn (.inl ht)) (fun b hb => ⟨?_, hm.1 b hb⟩) hm.2, fun e => ?_, fun b e => ⟨fun e' => ?_, (h.nv b e).2⟩, h.bj, hK'⟩
  · rcases hb with h1 | h1 | h1
    · exact (hT' b h1).1.imp .inl id
    · exact .inl (.inr (.inl h1))
    · exact .inl (.inr (.inr h1))
  · rcases (hT' jb e).1 with h1 | h1
    · exact h.nj h1
    · omega
  · rcases (hT' b e').1 with h1 | h1
    · exact (h.nv b e).1 h1
    · have := hv b e
      omega
theorem JK.lose (h : JK B r st f jb R bad v T K w) (hB : B ≤ w.heap.size) (n : Int) (hn : -9223372036854775808 ≤ n ∧ n ≤ 9223372036854775807) :
    Calls Tryz.prog 16 #[.pointer (some ⟨r, 0, none⟩), .int .i64 n] w fun e w' => e = .returned (.tuple #[]) ∧ JK B r (Di.lose st n) f jb R bad v T K w' ∧ Ov B w w' :=
  h.call hB fun S p hp hd _ => by subst hp; exact lose_any hd n hn
end

/-! ### what holds while the law runs -/
/-- The disk, and perhaps a journal. -/
def StJ (B r n : Nat) (j : Value) (w : World) : Prop :=
  ∃ st, (j = .pointer none ∧ DK B r st (fun _ => False) (fun _ => True) w ∧ Sx st 0 n) ∨
    ∃ jb R bad v, j = .pointer (some ⟨jb, 0, none⟩) ∧ JK B r st 0 jb R bad v (fun _ => False) (fun _ => True) w ∧ Sj st 0 R n
/-- The journal, and the list that is wanted. -/
def StW (B r jb n : Nat) (x : Value) (w : World) : Prop :=
  (∀ b, blk x = some b → B ≤ b) ∧ ∃ st R bad v, JK B r st 0 jb R bad v (fun b => blk x = some b) (fun w => Own w 9 1 x R.length (R.map Value.string)) w ∧ Sj st 0 R n
/-- The journal behind a sync. -/
def StF (B r : Nat) (R : List ByteArray) (x j : Value) (w : World) : Prop :=
  ∃ st jb bad v, j = .pointer (some ⟨jb, 0, none⟩) ∧ JK B r st 0 jb R bad v (fun b => blk x = some b) (fun w => Own w 9 1 x R.length (R.map Value.string)) w ∧ Fin st 0 R

section
variable {B r n m : Nat} {j : Value} {w : World}
theorem StJ.mono (h : StJ B r n j w) (hm : n ≤ m) : StJ B r m j w := by
  obtain ⟨st, ⟨h1, h2, h3⟩ | ⟨jb, R, bad, v, h1, h2, h3⟩⟩ := h
  · exact ⟨st, .inl ⟨h1, h2, h3.mono hm⟩⟩
  · exact ⟨st, .inr ⟨jb, R, bad, v, h1, h2, h3.mono hm⟩⟩
theorem StJ.dk (h : StJ B r n j w) : ∃ st, DK B r st (fun _ => False) (fun _ => True) w ∧ Sx st 0 n := by
  obtain ⟨st, ⟨_, h2, h3⟩ | ⟨jb, R, bad, v, _, h2, h3⟩⟩ := h
  · exact ⟨st, h2, h3⟩
  · exact ⟨st, h2.toDK, h3.sx⟩
theorem StJ.lose (h : StJ B r n j w) (hB : B ≤ w.heap.size) (k : Int) (hk : -9223372036854775808 ≤ k ∧ k ≤ 9223372036854775807) :
    Calls Tryz.prog 16 #[.pointer (some ⟨r, 0, none⟩), .int .i64 k] w fun e w' => e = .returned (.tuple #[]) ∧ StJ B r n j w' ∧ Ov B w w' := by
  obtain ⟨st, ⟨h1, h2, h3⟩ | ⟨jb, R, bad, v, h1, h2, h3⟩⟩ := h
  · exact (h2.lose hB k hk).mono fun e w' ⟨e1, e2, e3⟩ => ⟨e1, ⟨_, .inl ⟨h1, e2, h3.lose hk.2⟩⟩, e3⟩
  · exact (h2.lose hB k hk).mono fun e w' ⟨e1, e2, e3⟩ => ⟨e1, ⟨_, .inr ⟨jb, R, bad, v, h1, e2, h3.lose hk.2⟩⟩, e3⟩
theorem OpPost.stJ {st : St} {e : Ending} {w' : World} (h : OpPost B r st 0 (fun _ => False) (fun _ => True) w e w') (hx : Sx st 0 n) :
    ∃ j c, e = .returned (.tuple #[j, .int .i64 c]) ∧ StJ B r n j w' ∧ Ov B w w' := by
  obtain ⟨ho, ⟨_, h2, h3⟩ | ⟨h1, jb, v, h2, h3⟩⟩ := h
  · exact ⟨_, _, h2, ⟨_, .inl ⟨rfl, h3, hx.op⟩⟩, ho⟩
  · exact ⟨_, _, h2, ⟨_, .inr ⟨jb, _, _, v, rfl, h3, hx.opJ h1⟩⟩, ho⟩
end

theorem ocell {w0 wr : World} {B b off : Nat} {us : List Opn} {k : Nat} (hu : OCells w0 (some ⟨b, off, none⟩) us) (hw : w0.heap.size ≤ B) (hb : Ov B w0 wr) (hlt : k < us.length) :
    (∀ j u, us[k].cells[j]? = some u → wr.cell? ⟨b, off + k * 4 + j, none⟩ = some u) ∧ OOk w0 us[k] ∧ OOk wr us[k] := by
  rcases hu.later hw hb with h | ⟨b', o', e, hc⟩
  · rw [h] at hlt; simp at hlt
  · cases e
    refine ⟨(hc k hlt).1, ?_, (hc k hlt).2⟩
    rcases hu with h | ⟨b', o', e, hc0⟩
    · rw [h] at hlt; simp at hlt
    · exact (hc0 k hlt).2
theorem ocells_box {w : World} {a : Option Addr} {us : List Opn} {k : Nat} (h : OCells w a us) (hlt : k < us.length) : ∃ b off, a = some ⟨b, off, none⟩ := by
  rcases h with h | ⟨b, o, e, _⟩
  · rw [h] at hlt; simp at hlt
  · exact ⟨b, o, e⟩
theorem strs_box {w : World} {a : Option Addr} {us : List ByteArray} {k : Nat} (h : StrCells w a us) (hlt : k < us.length) : ∃ b off, a = some ⟨b, off, none⟩ := by
  rcases h with h | ⟨b, o, e, _⟩
  · rw [h] at hlt; simp at hlt
  · exact ⟨b, o, e⟩
theorem strs_cell {w wr : World} {B b off : Nat} {us : List ByteArray} {k : Nat} (h : StrCells w (some ⟨b, off, none⟩) us) (hw : w.heap.size ≤ B) (hb : Ov B w wr) (hlt : k < us.length) : wr.cell? ⟨b, off + k, none⟩ = some (.string us[k]) := by
  rcases h with h | ⟨b', o', e, hc⟩
  · rw [h] at hlt; simp at hlt
  · cases e
    have h1 := hc k hlt
    have h2 := Wi.cell_lt h1
    exact cell_same (hb.block b h2 (by omega)) _ h1

end Go.Proofs.YtejddacjncpneaaGreatDoor.Jo
