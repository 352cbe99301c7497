/- The reference's reader: how it lies in memory; Open, fail, close, Tail, Left, Done. -/
import Derived.Test.YtpcdogbioopdgaaDoorM
import Derived.Test.YtpcdogbioopdgaaDoorS
import Derived.Test.YtpcdogbioopdgaaDoorBk
namespace Go.Proofs.YtpcdogbioopdgaaDoor
open Go.RowKit Go.Sort

/-- Block b is a reader of the reference. -/
def IsQ (b : Nat) (s : List UInt8) (bad : Bool) (w : World) : Prop :=
  w.heap[b]? = some (.cells #[.string ⟨s.toArray⟩, .bool bad] 56 (0, 0))
theorem IsQ.c0 {b : Nat} {s : List UInt8} {bad : Bool} {w : World} (h : IsQ b s bad w) : w.cell? ⟨b, 0, none⟩ = some (.string ⟨s.toArray⟩) := by simp [World.cell?, show w.heap[b]? = _ from h]
theorem IsQ.c1 {b : Nat} {s : List UInt8} {bad : Bool} {w : World} (h : IsQ b s bad w) : w.cell? ⟨b, 1, none⟩ = some (.bool bad) := by simp [World.cell?, show w.heap[b]? = _ from h]
theorem IsQ.f0 {b : Nat} {s : List UInt8} {bad : Bool} {w : World} (h : IsQ b s bad w) (o : Nat) : w.frozen? ⟨b, o, none⟩ = false := by simp [World.frozen?, show w.heap[b]? = _ from h]

theorem IsQ.set0 {b : Nat} {s : List UInt8} {bad : Bool} {w : World} (h : IsQ b s bad w) (t : ByteArray) : IsQ b t.data.toList bad (w.setCell ⟨b, 0, none⟩ (.string t)) := by
  unfold IsQ at *; simp [World.setCell, Array.getElem?_modify, h]
theorem IsQ.set1 {b : Nat} {s : List UInt8} {bad : Bool} {w : World} (h : IsQ b s bad w) (t : Bool) : IsQ b s t (w.setCell ⟨b, 1, none⟩ (.bool t)) := by
  unfold IsQ at *; simp [World.setCell, Array.getElem?_modify, h]
theorem IsQ.drop {b : Nat} {s : List UInt8} {bad : Bool} {w : World} (h : IsQ b s bad w) (k : Nat) : IsQ b (s.drop k) bad (w.setCell ⟨b, 0, none⟩ (.string ((⟨s.toArray⟩ : ByteArray).extract k s.length))) := by
  rw [ext_drop]; exact h.set0 ⟨(s.drop k).toArray⟩
theorem IsQ.lt {b : Nat} {s : List UInt8} {bad : Bool} {w : World} (h : IsQ b s bad w) : b < w.heap.size := by
  rcases Nat.lt_or_ge b w.heap.size with h' | h'
  · exact h'
  · simp [IsQ, Array.getElem?_eq_none h'] at h
theorem IsQ.later {b : Nat} {s : List UInt8} {bad : Bool} {w w' : World} (h : IsQ b s bad w) (hb : RowKit.Below w.heap.size w w') : IsQ b s bad w' := by
  unfold IsQ; rw [hb.block b h.lt]; exact h

theorem IsQ.grown {b : Nat} {s : List UInt8} {bad : Bool} {w w' : World} {row : Option Nat} (h : IsQ b s bad w) (hg : w.grownBy w' row) (hr : row ≠ some b) : IsQ b s bad w' := by
  unfold IsQ; rw [hg.block b h.lt (fun e => hr e.symm)]; exact h
theorem fresh_Q (w : World) (l : List UInt8) : IsQ w.heap.size l false (w.alloc (.cells #[.string ⟨l.toArray⟩, .bool false] 56)) := by
  unfold IsQ World.alloc; simp

/-- How a call on the reader in block b ends: it has read a value, and what follows is left, or it has failed. -/
def ReadsQ {α : Type} (b : Nat) (p : Option (α × List UInt8)) (bad : Bool) (z : Value) (f : α → Value) (w : World) (e : Ending) (w' : World) : Prop :=
  w.grownBy w' (some b) ∧ match p with
    | some (v, r) => e = .returned (f v) ∧ IsQ b r bad w'
    | none => e = .returned z ∧ IsQ b [] true w'


theorem ReadsQ.none' {α : Type} {b : Nat} {p : Option (α × List UInt8)} {bad : Bool} {z : Value} {f : α → Value} {w : World} {e : Ending} {w' : World} (h : ReadsQ b p bad z f w e w') (hp : p = none) :
    w.grownBy w' (some b) ∧ e = .returned z ∧ IsQ b [] true w' := by subst hp; exact h
theorem ReadsQ.some' {α : Type} {b : Nat} {p : Option (α × List UInt8)} {bad : Bool} {z : Value} {f : α → Value} {w : World} {e : Ending} {w' : World} (h : ReadsQ b p bad z f w e w') {v : α} {r : List UInt8} (hp : p = some (v, r)) :
    w.grownBy w' (some b) ∧ e = .returned (f v) ∧ IsQ b r bad w' := by subst hp; exact h

theorem ReadsQ.mkn {α : Type} {b : Nat} {p : Option (α × List UInt8)} {bad : Bool} {z : Value} {f : α → Value} {w : World} {e : Ending} {w' : World} (hp : p = none) (h1 : w.grownBy w' (some b)) (h2 : e = .returned z) (h3 : IsQ b [] true w') : ReadsQ b p bad z f w e w' := by subst hp; exact ⟨h1, h2, h3⟩
theorem ReadsQ.mks {α : Type} {b : Nat} {p : Option (α × List UInt8)} {bad : Bool} {z : Value} {f : α → Value} {w : World} {e : Ending} {w' : World} {v : α} {r : List UInt8} (hp : p = some (v, r)) (h1 : w.grownBy w' (some b)) (h2 : e = .returned (f v)) (h3 : IsQ b r bad w') : ReadsQ b p bad z f w e w' := by subst hp; exact ⟨h1, h2, h3⟩


theorem openQ (s : ByteArray) (w : World) :
    Calls Tryd.prog 22 #[.string s] w fun e w' => e = .returned (.pointer (some ⟨w.heap.size, 0, none⟩)) ∧ w' = w.alloc (.cells #[.string s, .bool false] 56) := by
  go_enter Tryd.func22, Tryd.ntmps22
  go_wp2
  go_ret
  exact ⟨rfl, rfl⟩
theorem failQ (b : Nat) (s : List UInt8) (bad : Bool) (w : World) (h : IsQ b s bad w) :
    Calls Tryd.prog 53 #[.pointer (some ⟨b, 0, none⟩)] w fun e w' => e = .returned (.int .i64 0) ∧ w.grownBy w' (some b) ∧ IsQ b [] true w' := by
  have c0 := h.c0
  have c1 := h.c1
  have f0 := h.f0 0
  have f1 := h.f0 1
  have H := Lib.hid h
  clear h
  go_enter Tryd.func53, Tryd.ntmps53
  go_wp2
  go_ret
  exact ⟨rfl, on_set (on_set (on_refl _ _) _ _) _ _, (H.out.set0 ⟨#[]⟩).set1 true⟩
/-- close has found the byte, or the reader has failed. -/
def CloseQ (b : Nat) (c : UInt8) (s : List UInt8) (bad : Bool) (w : World) (e : Ending) (w' : World) : Prop :=
  w.grownBy w' (some b) ∧ match s with
    | [] => e = .returned (.bool false) ∧ IsQ b [] true w'
    | x :: r => if x = c then e = .returned (.bool true) ∧ IsQ b r bad w' else e = .returned (.bool false) ∧ IsQ b [] true w'
theorem CloseQ.yes {b : Nat} {c x : UInt8} {r : List UInt8} {bad : Bool} {w : World} {e : Ending} {w' : World} (h1 : w.grownBy w' (some b)) (hx : x = c) (he : e = .returned (.bool true)) (hi : IsQ b r bad w') : CloseQ b c (x :: r) bad w e w' :=
  ⟨h1, by show (if x = c then _ else _); rw [if_pos hx]; exact ⟨he, hi⟩⟩
theorem CloseQ.no {b : Nat} {c x : UInt8} {r : List UInt8} {bad : Bool} {w : World} {e : Ending} {w' : World} (h1 : w.grownBy w' (some b)) (hx : ¬ x = c) (he : e = .returned (.bool false)) (hi : IsQ b [] true w') : CloseQ b c (x :: r) bad w e w' :=
  ⟨h1, by show (if x = c then _ else _); rw [if_neg hx]; exact ⟨he, hi⟩⟩
set_option maxRecDepth 100000 in
theorem closeQ (b : Nat) (c : UInt8) (s : List UInt8) (bad : Bool) (hs : s.length ≤ 100000000) (w : World) (h : IsQ b s bad w) :
    Calls Tryd.prog 54 #[.pointer (some ⟨b, 0, none⟩), .int .u8 c.toNat] w (CloseQ b c s bad w) := by
  cases s with
  | nil =>
    have c0 := h.c0
    go_enter Tryd.func54, Tryd.ntmps54
    go_wp2_with fail
    refine (failQ b [] bad _ h).mono ?_
    rintro e w1 ⟨rfl, ho, hi⟩
    go_wp2_with fail
    go_ret
    exact ⟨ho, rfl, hi⟩
  | cons x r =>
    have c0 := h.c0
    have f0 := h.f0 0
    have hp : 0 < (x :: r).length := by simp
    by_cases hx : x = c
    · have hb : ((((⟨(x :: r).toArray⟩ : ByteArray)[0]'hp).toNat : Int) != (c.toNat : Int)) = false := by
        show (((x.toNat : Nat) : Int) != (c.toNat : Int)) = false
        rw [hx]; simp
      have HX := Lib.hid hx
      have HH := Lib.hid h
      clear hx h
      go_enter Tryd.func54, Tryd.ntmps54
      go_wp2_with fail
      go_ret
      exact CloseQ.yes (on_set (on_refl _ _) 0 _) HX.out rfl (HH.out.drop 1)
    · have hb : ((((⟨(x :: r).toArray⟩ : ByteArray)[0]'hp).toNat : Int) != (c.toNat : Int)) = true := by
        show (((x.toNat : Nat) : Int) != (c.toNat : Int)) = true
        rw [bne_iff_ne]; intro e; exact hx (UInt8.toNat_inj.1 (by omega))
      have HX := Lib.hid hx
      clear hx
      go_enter Tryd.func54, Tryd.ntmps54
      go_wp2_with fail
      refine (failQ b (x :: r) bad _ h).mono ?_
      rintro e w1 ⟨rfl, ho, hi⟩
      go_wp2_with fail
      go_ret
      exact CloseQ.no ho HX.out rfl hi
theorem tailQ (b : Nat) (s : List UInt8) (bad : Bool) (w : World) (h : IsQ b s bad w) :
    Calls Tryd.prog 41 #[.pointer (some ⟨b, 0, none⟩)] w fun e w' => e = .returned (.string ⟨s.toArray⟩) ∧ w.grownBy w' (some b) ∧ IsQ b [] bad w' := by
  have c0 := h.c0
  have f0 := h.f0 0
  go_enter Tryd.func41, Tryd.ntmps41
  go_wp2_with fail
  go_ret
  exact ⟨rfl, on_set (on_refl _ _) 0 _, h.set0 ⟨#[]⟩⟩
theorem leftQ (b : Nat) (s : List UInt8) (bad : Bool) (w : World) (h : IsQ b s bad w) :
    Calls Tryd.prog 37 #[.pointer (some ⟨b, 0, none⟩)] w fun e w' => e = .returned (.int .i64 s.length) ∧ w = w' := by
  have c0 := h.c0
  go_enter Tryd.func37, Tryd.ntmps37
  go_wp2_with fail
  go_ret
  exact ⟨rfl, rfl⟩
theorem doneQ (b : Nat) (s : List UInt8) (bad : Bool) (w : World) (h : IsQ b s bad w) :
    Calls Tryd.prog 39 #[.pointer (some ⟨b, 0, none⟩)] w fun e w' => e = .returned (.bool (!bad && s.isEmpty)) ∧ w = w' := by
  have c0 := h.c0
  have c1 := h.c1
  cases bad
  · cases s
    · go_enter Tryd.func39, Tryd.ntmps39
      go_wp2_with fail
      go_ret
      exact ⟨rfl, rfl⟩
    · go_enter Tryd.func39, Tryd.ntmps39
      go_wp2_with fail
      go_ret
      exact ⟨rfl, rfl⟩
  · go_enter Tryd.func39, Tryd.ntmps39
    go_wp2_with fail
    go_ret
    exact ⟨rfl, rfl⟩
end Go.Proofs.YtpcdogbioopdgaaDoor
