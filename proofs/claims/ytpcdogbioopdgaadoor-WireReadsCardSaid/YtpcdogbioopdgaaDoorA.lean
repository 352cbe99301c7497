/- The contracts of the writers of package wire. -/
import Derived.WalkKit
import Derived.Lib.LaidTab
import Derived.Lib.ItoaLen
import Derived.Lib.AppendIntMem
import Derived.WalkSmall
import Derived.Test.YtpcdogbioopdgaaDoorShelf
namespace Go.Proofs.YtpcdogbioopdgaaDoor
open Go.RowKit Go.Sort Go.Lib

theorem gPow : Tryd.prog.globalNamed "internal/strconv.uint64pow10" = some 0 := by kernel_rfl

/-- What the calls of the library read of the package-level variables. -/
structure Env (w : World) : Prop where
  tab : Lib.TabIs Tryd.prog w "internal/strconv.uint64pow10" .u64 Lib.pow10Tab
  maxLen : ∃ m : Int, w.cell? ⟨1, 0, none⟩ = some (.int .i64 m)
  syn : ∃ t p, w.cell? ⟨2, 0, none⟩ = some (.iface t p)
  ran : ∃ t p, w.cell? ⟨3, 0, none⟩ = some (.iface t p)
  size : 6 ≤ w.heap.size

/-- What is the same in w' as in w: all that lay there but the blocks of S. -/
structure But (S : Nat → Prop) (w w' : World) : Prop where
  os : w'.os = w.os
  tape : w'.tape = w.tape
  output : w'.output = w.output
  size : w.heap.size ≤ w'.heap.size
  block : ∀ k, k < w.heap.size → ¬ S k → w'.heap[k]? = w.heap[k]?

def encInt (n : Int) : List UInt8 := Lib.itoa n ++ [59]
def encText (s : List UInt8) : List UInt8 := Lib.itoa s.length ++ [58] ++ s ++ [44]

theorem ba_app (a b : ByteArray) : a ++ b = ⟨(a.data.toList ++ b.data.toList).toArray⟩ := by
  apply ByteArray.ext; simp

theorem Env.below {w w' : World} {B : Nat} (he : Env w) (h : RowKit.Below B w w') (hB : 6 ≤ B) : Env w' := by
  obtain ⟨t, ⟨m, hm⟩, ⟨a, b, hs⟩, ⟨c, d, hr⟩, hz⟩ := he
  refine ⟨?_, ⟨m, by rw [h.cell (by simp; omega)]; exact hm⟩, ⟨a, b, by rw [h.cell (by simp; omega)]; exact hs⟩, ⟨c, d, by rw [h.cell (by simp; omega)]; exact hr⟩, Nat.le_trans hz h.size⟩
  exact var?_below h gPow (by omega) t

theorem int_any (n : Int) (h0 : -9223372036854775808 ≤ n) (h1 : n ≤ 9223372036854775807) (w : World) (he : Env w) :
    Calls Tryd.prog 13 #[.int .i64 n] w fun e w' => e = .returned (.string ⟨(encInt n).toArray⟩) ∧ RowKit.Below w.heap.size w w' := by
  have ht := Lib.hid he.tab
  have hl := Lib.itoa_length_le n h0 h1
  clear he
  go_enter Tryd.func13, Tryd.ntmps13
  go_wp2_with (go_at_call 44; refine (Tryd.strconv_Itoa n h0 h1 _ ht.out).mono ?_; rintro e w' ⟨rfl, k, os, rfl⟩)
  go_ret
  exact ⟨by simp [encInt, ba_app], Lib.below_grow _ _ (Nat.le_refl _) _ _⟩

theorem num_neg (n : Int) (h0 : n < 0) (w : World) :
    Calls Tryd.prog 11 #[.int .i64 n] w fun e w' => e = .returned (.string ⟨#[]⟩) ∧ w = w' := by
  go_enter Tryd.func11, Tryd.ntmps11
  go_wp2
  go_ret
  exact ⟨rfl, rfl⟩

theorem num_any (n : Int) (h0 : 0 ≤ n) (h1 : n ≤ 9223372036854775807) (w : World) (he : Env w) :
    Calls Tryd.prog 11 #[.int .i64 n] w fun e w' => e = .returned (.string ⟨(encInt n).toArray⟩) ∧ RowKit.Below w.heap.size w w' := by
  go_enter Tryd.func11, Tryd.ntmps11
  go_wp2_with (go_at_call 13; refine (int_any n (by omega) h1 _ he).mono ?_; rintro e w' ⟨rfl, hb⟩)
  go_ret
  exact ⟨rfl, hb⟩

theorem text_any (s : ByteArray) (h1 : s.size ≤ 1000000) (w : World) (he : Env w) :
    Calls Tryd.prog 15 #[.string s] w fun e w' => e = .returned (.string ⟨(encText s.data.toList).toArray⟩) ∧ RowKit.Below w.heap.size w w' := by
  have ht := Lib.hid he.tab
  have hl := Lib.itoa_length_le s.size (by omega) (by omega)
  clear he
  go_enter Tryd.func15, Tryd.ntmps15
  go_wp2_with (go_at_call 44; refine (Tryd.strconv_Itoa s.size (by omega) (by omega) _ ht.out).mono ?_; rintro e w' ⟨rfl, k, os, rfl⟩)
  go_ret
  exact ⟨by simp [encText, ba_app], Lib.below_grow _ _ (Nat.le_refl _) _ _⟩
end Go.Proofs.YtpcdogbioopdgaaDoor
