/- The contracts of the reference of unit: letter, split. -/
import Derived.Laws.RangeString
import Derived.Test.YtmhdhabgdlefjaaGreatDoorPDims24
import Derived.Test.YtmhdhabgdlefjaaGreatDoorPDims22
import Derived.Test.YtmhdhabgdlefjaaGreatDoorPDims25
set_option maxRecDepth 100000
namespace Go.Proofs.YtmhdhabgdlefjaaGreatDoor.Un
open Go.RowKit Dm

section
variable {p : UInt8 → Bool}
theorem tw_take : ∀ l : List UInt8, l.takeWhile p = l.take (l.takeWhile p).length ∧ l.dropWhile p = l.drop (l.takeWhile p).length
  | [] => ⟨rfl, rfl⟩
  | c :: l => by
    have ih := tw_take l
    by_cases h : p c = true
    · simp only [List.takeWhile_cons, List.dropWhile_cons, h, if_true, List.length_cons, List.take_succ_cons, List.drop_succ_cons]
      exact ⟨by rw [← ih.1], ih.2⟩
    · simp [h]
theorem tw_more : ∀ (l : List UInt8) (k : Nat), k ≤ (l.takeWhile p).length → ∀ h : k < l.length, p l[k] = true → k + 1 ≤ (l.takeWhile p).length
  | [], k, _, h, _ => by simp at h
  | c :: l, 0, _, _, hp => by
    have : p c = true := hp
    simp [this]
  | c :: l, k + 1, hk, h, hp => by
    by_cases hc : p c = true
    · simp only [List.takeWhile_cons, hc, if_true, List.length_cons] at hk ⊢
      have := tw_more l k (by omega) (by simpa using h) hp
      omega
    · simp [hc] at hk
theorem tw_stop : ∀ (l : List UInt8) (k : Nat), k ≤ (l.takeWhile p).length → ∀ h : k < l.length, p l[k] = false → (l.takeWhile p).length = k
  | [], k, _, h, _ => by simp at h
  | c :: l, 0, _, _, hp => by
    have : p c = false := hp
    simp [this]
  | c :: l, k + 1, hk, h, hp => by
    by_cases hc : p c = true
    · simp only [List.takeWhile_cons, hc, if_true, List.length_cons] at hk ⊢
      have := tw_stop l k (by omega) (by simpa using h) hp
      omega
    · simp [hc] at hk
theorem tw_len (l : List UInt8) : (l.takeWhile p).length ≤ l.length := by
  have := (tw_take (p := p) l).1
  rw [this, List.length_take]; omega
end

theorem sizeL (s : ByteArray) : s.data.toList.length = s.size := Array.length_toList
theorem byte_at (s : ByteArray) (a k : Nat) (h : a + k < s.size) (h2 : k < (s.data.toList.drop a).length) : (s.data.toList.drop a)[k] = s[a + k] := by
  rw [List.getElem_drop, Array.getElem_toList]; rfl
theorem slice_run (s : ByteArray) (a b : Nat) (h1 : a ≤ b) (h2 : b ≤ s.size) (W : World) : (Instr.slice 9 (.string s) (some (.int .i64 (a : Int))) (some (.int .i64 (b : Int))) none).run Tryz.prog W = .ok (.string (s.extract a b)) W := by
  rw [run_slice_string W 9 _ .i64 .i64 _ _ Tryz.underlying9 (by omega) (by omega) (by omega)]
  congr 2
theorem ext_take (s : ByteArray) (a m : Nat) : s.extract a (a + m) = ⟨((s.data.toList.drop a).take m).toArray⟩ := by
  apply ByteArray.ext
  apply Array.ext'
  simp [ByteArray.data_extract, List.extract_eq_take_drop]
/-- The block b holds an item. -/
def It (w : World) (b : Nat) (x : Value) (n : Int) : Prop := w.heap[b]? = some (.cells #[x, .int .i64 n] 70 (0, 0))
theorem It.lt {w : World} {b : Nat} {x : Value} {n : Int} (h : It w b x n) : b < w.heap.size := (Array.getElem?_eq_some_iff.1 h).1
theorem It.alloc {w : World} {b : Nat} {x : Value} {n : Int} (h : It w b x n) (o : Obj) : It (w.alloc o) b x n := (Below.heap_alloc w o b h.lt).trans h
theorem It.oth {w : World} {b b' : Nat} {x : Value} {n : Int} (h : It w b x n) (hne : b ≠ b') (c : Array Value) : It (w.setRow b' c) b x n := (setRow_other w b' b c hne).trans h
theorem It.row {w : World} {b : Nat} {x : Value} {n : Int} (h : It w b x n) (y : Value) (m : Int) : It (w.setRow b #[y, .int .i64 m]) b y m := setRow_heap w b _ _ _ _ h
theorem It.set {w : World} {b : Nat} {x : Value} {n : Int} (h : It w b x n) (m : Int) : It (w.setCell ⟨b, 1, none⟩ (.int .i64 m)) b x m := by
  have := heap_setCell_same w b 1 _ _ (.int .i64 m) h
  exact this
theorem It.other {w : World} {b b' : Nat} {x : Value} {n : Int} (h : It w b x n) (hne : b ≠ b') (k : Nat) (v : Value) : It (w.setCell ⟨b', k, none⟩ v) b x n := (Below.heap_setCell _ _ _ _ hne).trans h
theorem It.cells {w : World} {b : Nat} {x : Value} {n : Int} (h : It w b x n) : w.cell? ⟨b, 0, none⟩ = some x ∧ w.cell? ⟨b, 1, none⟩ = some (.int .i64 n) ∧ w.frozen? ⟨b, 1, none⟩ = false :=
  ⟨by rw [cell_of_row w b 0 _ _ _ h]; rfl, by rw [cell_of_row w b 1 _ _ _ h]; rfl, frozen_of_row w b 1 _ _ h⟩
end Go.Proofs.YtmhdhabgdlefjaaGreatDoor.Un
