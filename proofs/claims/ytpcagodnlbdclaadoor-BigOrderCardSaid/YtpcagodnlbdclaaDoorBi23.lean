/- The contract of Text. -/
import Derived.Test.YtpcagodnlbdclaaDoorBiT
import Derived.Test.YtpcagodnlbdclaaDoorBiB
import Derived.Sort.OwnSorted
import Derived.Lib.ItoaLen
import Derived.Lib.AppendIntMem
import Derived.Lib.LaidTab
import Derived.WalkSmall
set_option maxRecDepth 100000
namespace Go.Proofs.YtpcagodnlbdclaaDoor.Bi
open Go.RowKit
open Go.Lib (decDigits itoa)

theorem gPow : Tryd.prog.globalNamed "internal/strconv.uint64pow10" = some 0 := by kernel_rfl
/-- What the calls of the library read of the package-level variables. -/
structure Env (w : World) : Prop where
  tab : Lib.TabIs Tryd.prog w "internal/strconv.uint64pow10" .u64 Lib.pow10Tab
  size : 1 ≤ w.heap.size
theorem Env.later {w w' : World} (he : Env w) (h : RowKit.Below w.heap.size w w') : Env w' := ⟨var?_below h gPow (by have := he.size; omega) he.tab, Nat.le_trans he.size h.size⟩
theorem itoa_any (n : Int) (h0 : -9223372036854775808 ≤ n) (h1 : n ≤ 9223372036854775807) (w : World) (he : Env w) :
    Calls Tryd.prog 64 #[.int .i64 n] w fun e w' => e = .returned (.string ⟨(itoa n).toArray⟩) ∧ RowKit.Below w.heap.size w w' := by
  refine (Tryd.strconv_Itoa n h0 h1 _ he.tab).mono ?_
  rintro e w' ⟨rfl, k, os, rfl⟩
  exact ⟨rfl, Lib.below_grow _ _ (Nat.le_refl _) _ _⟩

/-- The builder at block b holds the bytes l; below b all is as it was in w. -/
def BuildAt (w : World) (b : Nat) (l : List UInt8) (wr : World) : Prop := Lib.IsBuilderF 71 5 w.heap.size b (Lib.byteCells l) wr ∧ RowKit.Below w.heap.size w wr
theorem grownBy_none {w w' : World} (h : RowKit.Below w.heap.size w w') : w.grownBy w' none := ⟨h.os, h.tape, h.output, h.size, fun k hk _ => h.block k hk⟩
theorem builderAt_later {B b : Nat} {p : Value} {bs : List Value} {w w' : World} (h : Lib.BuilderAtF 71 5 B b p bs w) (hw : RowKit.Below w.heap.size w w') : Lib.BuilderAtF 71 5 B b p bs w' := by
  have hlt := h.lt
  obtain ⟨hB, v, hb, hown, hne⟩ := h
  exact ⟨hB, v, (hw.block b hlt).trans hb, hown.kept (grownBy_none hw) (by cases hv : v.ownBlock <;> simp), hne⟩
theorem BuildAt.later {w wr w' : World} {b : Nat} {l : List UInt8} (h : BuildAt w b l wr) (hw : RowKit.Below wr.heap.size wr w') : BuildAt w b l w' :=
  ⟨h.1.elim (fun x => .inl (builderAt_later x hw)) (fun x => .inr (builderAt_later x hw)), h.2.trans (hw.mono h.2.size)⟩
theorem BuildAt.fresh (w : World) : BuildAt w w.heap.size [] (w.alloc (Obj.cells #[.pointer none, .slice none 0 0] 71)) :=
  ⟨.of (Lib.fresh_isBuilder 71 5 w), (Below.refl _ _).alloc (Nat.le_refl _) _⟩
theorem wb_any (w : World) (b : Nat) (l : List UInt8) (c : UInt8) (wr : World) (h : BuildAt w b l wr) (hl : l.length ≤ 100000000) :
    Calls Tryd.prog 67 #[.pointer (some ⟨b, 0, none⟩), .int .u8 c.toNat] wr fun e w' => e = .returned .nilIface ∧ BuildAt w b (l ++ [c]) w' := by
  refine (writeByte_k w.heap.size b _ _ wr h.1 (by rw [Lib.byteCells_length]; omega) h.2.size).mono ?_
  rintro e w' ⟨rfl, h1, h2, _⟩
  exact ⟨rfl, Or.inr (by rw [Lib.byteCells_append]; exact h1), h.2.trans h2⟩
theorem ws_any (w : World) (b : Nat) (l : List UInt8) (s : ByteArray) (wr : World) (h : BuildAt w b l wr) (hl : l.length ≤ 100000000) (hs : s.size ≤ 100000000) :
    Calls Tryd.prog 68 #[.pointer (some ⟨b, 0, none⟩), .string s] wr fun e w' => e = .returned (.tuple #[.int .i64 s.size, .nilIface]) ∧ BuildAt w b (l ++ s.data.toList) w' := by
  refine (writeString_k w.heap.size b _ _ wr h.1 (by rw [Lib.byteCells_length]; omega) h.2.size).mono ?_
  rintro e w' ⟨rfl, h1, h2, _⟩
  exact ⟨rfl, Or.inr (by rw [Lib.byteCells_append]; exact h1), h.2.trans h2⟩
theorem str_any (w : World) (b : Nat) (l : List UInt8) (wr : World) (h : BuildAt w b l wr) :
    Calls Tryd.prog 70 #[.pointer (some ⟨b, 0, none⟩)] wr fun e w' => e = .returned (.string ⟨l.toArray⟩) ∧ RowKit.Below w.heap.size w w' := by
  refine (Tryd.Builder_String_any_k w.heap.size b l wr h.1 h.2.size).mono ?_
  rintro e w' ⟨rfl, _, h2, _⟩
  exact ⟨rfl, h.2.trans h2⟩
theorem rep_eq : ∀ c : Nat, Lib.repeatL [48] c = List.replicate c 48
  | 0 => rfl
  | c + 1 => by rw [Lib.repeatL, rep_eq c]; rfl
theorem rep_any (c : Nat) (hc : c ≤ 100) (w : World) : Calls Tryd.prog 69 #[.string ⟨#[48]⟩, .int .i64 c] w fun e w' => e = .returned (.string ⟨(List.replicate c (48 : UInt8)).toArray⟩) ∧ RowKit.Below w.heap.size w w' := by
  have h := Tryd.strings_Repeat ⟨#[48]⟩ c w (by omega) (by show 1 * c ≤ _; omega)
  rw [show (⟨#[48]⟩ : ByteArray).data.toList = [48] from rfl, rep_eq] at h
  exact h

/-- The slice v has the strings l, at the head of a block of its own if it has room for any. -/
def OwnS (w : World) (v : Value) (l : List (List UInt8)) : Prop := Own w 9 1 v l.length (l.map encStr)
theorem infoS : (Tryd.prog.info? 9).map (fun i => (i.zero, i.size, i.bytes)) = some (some (.string ⟨#[]⟩), 1, 16) := by kernel_rfl
theorem OwnS.snoc {w : World} {v : Value} {l : List (List UInt8)} (h : OwnS w v l) (hl : l.length ≤ 100000000) (x : List UInt8) :
    ∃ a c w', (∀ ty, (Builtin.append_ #[64, 64] ty #[v, .slice (some ⟨w.heap.size, 0, none⟩) 1 1]).run Tryd.prog (w.alloc (.cells #[encStr x] 9)) = .ok (.slice a (l.length + 1) c) w') ∧ OwnS w' (.slice a (l.length + 1) c) (l ++ [x]) ∧
      (w.alloc (.cells #[encStr x] 9)).grownBy w' (blk v) ∧ (blk (.slice a (l.length + 1) c) = none ∨ blk (.slice a (l.length + 1) c) = blk v ∨ blk (.slice a (l.length + 1) c) = some (w.heap.size + 1)) := by
  obtain ⟨i0, hi, hz0, hz1, hz2⟩ := info_parts infoS
  have hown : Own (w.alloc (.cells #[encStr x] 9)) 9 1 v l.length (l.map encStr) := Own.grown h (World.grownBy_alloc w _ none) (by cases hb : blk v <;> simp)
  have hsrc : Src Tryd.prog 1 64 (.slice (some ⟨w.heap.size, 0, none⟩) 1 1) 1 [encStr x] (w.alloc (.cells #[encStr x] 9)) :=
    Src.ofSlice _ Tryd.underlying64 _ 1 1 [encStr x] (by simp) (World.news_of_block (cs := #[encStr x]) (t := 9) (fr := (0, 0)) (alloc_at w _)) (by simp [Value.oneCell'])
  have hrun := fun ty => own_append (P := Tryd.prog) (t := 64) (tx := 64) (ty := ty) Tryd.underlying64 hi hz0 hz1 hz2 rfl hown hsrc (by unfold maxLen; omega) (by omega)
  obtain ⟨v', w', hr, h1, h2, h3⟩ := hrun 0
  obtain ⟨a, c, rfl, _, _⟩ := h1.shape
  refine ⟨a, c, w', fun ty => ?_, by unfold OwnS; simpa using h1, h2, by simpa using h3⟩
  have : Builtin.append_ #[64, 64] ty #[v, .slice (some ⟨w.heap.size, 0, none⟩) 1 1] = Builtin.append_ #[64, 64] 0 #[v, .slice (some ⟨w.heap.size, 0, none⟩) 1 1] := rfl
  rw [this]; exact hr
theorem OwnS.cell {w : World} {v : Value} {l : List (List UInt8)} (h : OwnS w v l) (h0 : 0 < l.length) : ∃ g c, v = .slice (some ⟨g, 0, none⟩) l.length c ∧ l.length ≤ c ∧ blk v = some g ∧ g < w.heap.size ∧ ∀ k (hk : k < l.length), w.cell? ⟨g, k, none⟩ = some (.string ⟨l[k].toArray⟩) := by
  rcases h.2 with ⟨a', hv, hn⟩ | ⟨g, cap, cur, hv, hg, hnc, hc0, hcm, hcs, ht⟩
  · omega
  · refine ⟨g, cap, hv, hnc, by rw [hv]; exact blk_pos hc0, (Array.getElem?_eq_some_iff.1 hg).1, fun k hk => ?_⟩
    have h1 : (cur.toList.take (l.length * 1))[k]? = (l.map encStr)[k]? := by rw [ht]
    rw [List.getElem?_take, if_pos (by omega), List.getElem?_map, List.getElem?_eq_getElem hk, Array.getElem?_toList] at h1
    rw [cell_of_row w g k cur 9 (0, 0) hg]
    exact h1
theorem reverse_any (v : Value) (l : List (List UInt8)) (h0 : 0 < l.length) (hl : l.length ≤ 1000000) (w : World) (h : OwnS w v l) :
    Calls Tryd.prog 66 #[v] w fun e w' => e = .returned (.tuple #[]) ∧ OwnS w' v l.reverse ∧ w.grownBy w' (blk v) := by
  rcases h.2 with ⟨a', hv, hn⟩ | ⟨g, cap, cur, rfl, hg, hnc, hc0, hcm, hcs, ht⟩
  · omega
  · have hH : Go.Sort.Holds encStr w g 0 l.toArray := holds_of_block hg (by simpa using ht)
    refine (Tryd.slices_Reverse_string g 0 cap l w hH (by omega)).mono ?_
    rintro e w' ⟨rfl, n, rfl⟩
    have hgr := grownBy_sorted (w := w) (g := g) (n := n) (os := #[]) l.reverse.toArray
    have hhs := heap_sorted (w := w) (g := g) (n := n) (os := #[]) l.reverse.toArray hg
    rw [Go.Sort.grow_empty] at hgr hhs
    refine ⟨rfl, ⟨by simp, .inr ⟨g, cap, _, by simp, hhs, by simpa using hnc, hc0, hcm, by simpa [Go.Sort.putCells] using hcs, ?_⟩⟩, by rw [blk_pos hc0]; exact hgr⟩
    have := take_putCells cur l.reverse (by simp; omega)
    simpa using this
end Go.Proofs.YtpcagodnlbdclaaDoor.Bi
