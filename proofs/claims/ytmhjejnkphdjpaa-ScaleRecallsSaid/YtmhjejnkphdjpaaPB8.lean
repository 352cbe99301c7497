/- The contracts of number, decimal. The contract of Read. -/
import Derived.Test.YtmhjejnkphdjpaaPB7
import Derived.Laws.RangeString
import Derived.Shelf.GgClosure.StringsIndexFunc
import Derived.Laws.RangeAny
set_option maxRecDepth 100000
namespace Go.Proofs.Ytmhjejnkphdjpaa.Bi
open Go.RowKit

/-- A decimal digit. -/
def dgt (c : UInt8) : Bool := decide (48 ≤ c.toNat) && decide (c.toNat ≤ 57)
/-- The value of decimal digits. -/
def numB (l : List UInt8) : Nat := l.foldl (fun n c => n * 10 + (c.toNat - 48)) 0
theorem numB_snoc (l : List UInt8) (c : UInt8) : numB (l ++ [c]) = numB l * 10 + (c.toNat - 48) := by simp [numB, List.foldl_append]
theorem dgt_of {c : UInt8} (h : dgt c = true) : 48 ≤ c.toNat ∧ c.toNat ≤ 57 := by simpa [dgt] using h
theorem sizeB (s : ByteArray) : s.data.toList.length = s.size := by rw [Array.length_toList]; rfl
def decB (l : List UInt8) : Bool := !l.isEmpty && l.all dgt
end Go.Proofs.Ytmhjejnkphdjpaa.Bi

namespace Go.Proofs.Ytmhjejnkphdjpaa.Bi
open Go.RowKit

def negB (l : List UInt8) : Bool := Lib.hasPrefix l [45]
def bodyB (l : List UInt8) : List UInt8 := Lib.trimPrefix l [45]
/-- The number with a text, if there is one. -/
def readS (l : List UInt8) : Option Int :=
  if decB (bodyB l) = true ∧ ¬ ((bodyB l).head? = some 48 ∧ l ≠ [48]) then some (if negB l then -(numB (bodyB l) : Int) else numB (bodyB l)) else none

theorem Res.start (w : World) : Res w (w.alloc (.cells #[.int .i64 0, .slice none 0 0] 32)) := alloc_at w _
theorem Res.later {w W W' : World} (h : Res w W) (hb : RowKit.Below W.heap.size W W') : Res w W' := (hb.block _ (Array.getElem?_eq_some_iff.1 h).1).trans h
theorem Ans.none {w W : World} (hb : RowKit.Below w.heap.size w W) (u v : Value) : Ans 0 2 w (.returned (.tuple #[.agg #[.int .i64 0, .slice none 0 0], .int .i64 2])) ((W.setCell ⟨w.heap.size, 0, none⟩ u).setCell ⟨w.heap.size, 1, none⟩ v) :=
  ⟨_, rfl, by rw [show (0 : Int).natAbs = 0 from rfl, digs_zero]; exact Ints.nil _, (hb.setCell (Nat.le_refl _) _).setCell (Nat.le_refl _) _, fun g _ => off_nil g 0 0⟩

theorem numB_app : ∀ (b a : List UInt8), numB (a ++ b) = numB a * 10 ^ b.length + numB b := by
  intro b
  induction b with
  | nil => intro a; simp [numB]
  | cons c b ih =>
    intro a
    have h1 := ih (a ++ [c])
    have h2 := ih [c]
    have e1 : a ++ [c] ++ b = a ++ c :: b := by simp
    have e2 : [c] ++ b = c :: b := rfl
    have e3 : numB [c] = c.toNat - 48 := by simp [numB]
    rw [e1, numB_snoc] at h1
    rw [e2, e3] at h2
    rw [h1, h2, List.length_cons, Nat.pow_succ]
    generalize 10 ^ b.length = p
    generalize numB a = x
    generalize c.toNat - 48 = y
    grind
theorem ext_take (R : ByteArray) (n : Nat) : (R.extract 0 n).data.toList = R.data.toList.take n := by
  simp [ByteArray.data_extract, List.extract_eq_take_drop]
theorem ext_drop (R : ByteArray) (n : Nat) : (R.extract n R.size).data.toList = R.data.toList.drop n := by
  have : R.size = R.data.toList.length := (sizeB R).symm
  rw [this]
  simp [ByteArray.data_extract, List.take_of_length_le]
/-- The relation of the loop over groups: of the decimal digits D, R is left, and L is the value of the others. -/
structure RdR (w : World) (D : List UInt8) (R : ByteArray) (v : Value) (L : List Int) (W : World) : Prop where
  own : OwnI W v L
  dig : Dig L
  split : ∃ p, R.data.toList = D.drop p ∧ p ≤ D.length ∧ val L = numB (D.take p) ∧ L.length ≤ 2 * p ∧ (p = 0 ∨ R.size % 12 = 0)
  res : Res w W
  below : RowKit.Below w.heap.size w W
  new : ∀ b, blk v = some b → w.heap.size + 1 ≤ b
theorem RdR.next {w : World} {D : List UInt8} {R : ByteArray} {v : Value} {L : List Int} {W W' : World} {a : Option Addr} {c : Nat} {L' : List Int} {n : Nat} (h : RdR w D R v L W) (hn : n = (R.size - 1) % 12 + 1) (hR : 0 < R.size)
    (ho : OwnI W' (.slice a L'.length c) L') (hd : Dig L') (hv : val L' = val L * 1000000000000 + (numB (R.extract 0 n).data.toList : Int)) (hg : W.grownBy W' (blk v)) (hb : ∀ b, blk (.slice a L'.length c) = some b → blk v = some b ∨ W.heap.size ≤ b) (hl : L'.length ≤ L.length + 2) :
    RdR w D (R.extract n R.size) (.slice a L'.length c) L' W' := by
  obtain ⟨p, h1, h2, h3, h4, h5⟩ := h.split
  have hsz : R.size = D.length - p := by rw [← sizeB, h1, List.length_drop]
  have hnle : n ≤ R.size := by have := Nat.mod_le (R.size - 1) 12; omega
  have hlt : w.heap.size < W.heap.size := (Array.getElem?_eq_some_iff.1 h.res).1
  have hdr := ext_drop R n
  refine ⟨ho, hd, ⟨p + n, by rw [hdr, h1, List.drop_drop], by omega, ?_, by omega, .inr ?_⟩, ?_, ?_, ?_⟩
  · rw [hv, h3, ext_take, h1, List.take_add, numB_app]
    have hlen : ((D.drop p).take n).length = n := by rw [List.length_take, List.length_drop]; omega
    rw [hlen]
    rcases h5 with rfl | h5
    · have : numB (D.take 0) = 0 := by simp [numB]
      rw [this]; omega
    · have hn12 : n = 12 := by omega
      rw [hn12]; omega
  · rw [← sizeB, hdr, List.length_drop, sizeB]; omega
  · unfold Res
    rw [hg.block _ hlt (fun e => by have := h.new _ e.symm; omega)]
    exact h.res
  · refine h.below.grown hg h.below.size (fun k hk => by have := h.new k hk; omega)
  · intro b hb'
    rcases hb b hb' with h' | h'
    · exact h.new b h'
    · have := h.below.size; omega
theorem RdR.start {w W : World} {D : List UInt8} {R : ByteArray} (hR : R.data.toList = D) (hr : Res w W) (hb : RowKit.Below w.heap.size w W) : RdR w D R (.slice none 0 0) [] W :=
  ⟨OwnI.nil _, Dig.nil, ⟨0, by simpa using hR, Nat.zero_le _, by simp [numB, val], by simp, .inl rfl⟩, hr, hb, fun b hb => by simp [blk] at hb⟩

end Go.Proofs.Ytmhjejnkphdjpaa.Bi
