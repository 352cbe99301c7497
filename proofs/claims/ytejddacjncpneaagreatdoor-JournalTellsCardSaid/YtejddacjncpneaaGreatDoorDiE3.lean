/- The reference's Put. -/
import Derived.Test.YtejddacjncpneaaGreatDoorDiE2
import Derived.Laws.IdiomStrings
import Derived.Laws.IdiomCopy
import Derived.Lib.LazyBuf
set_option maxRecDepth 100000
namespace Go.Proofs.YtejddacjncpneaaGreatDoor.Di
open Go.RowKit Go.ChangeShapes Go.WideShapes

theorem cell_sameE {w w' : World} {b : Nat} (h : w'.heap[b]? = w.heap[b]?) (i : Nat) {u : Value} (hu : w.cell? ⟨b, i, none⟩ = some u) : w'.cell? ⟨b, i, none⟩ = some u := by
  rw [World.cell?_of_block (a := ⟨b, i, none⟩) h]; exact hu
theorem froz_sameE {w w' : World} {b : Nat} (h : w'.heap[b]? = w.heap[b]?) (i : Nat) {u : Bool} (hu : w.frozen? ⟨b, i, none⟩ = u) : w'.frozen? ⟨b, i, none⟩ = u := by
  rw [← hu]; simp [World.frozen?, h]
/-- A row of bytes above B that the call made: its cells, whatever mark it bears. -/
def Buf (B : Nat) (w : World) (v : Value) (l : List UInt8) : Prop :=
  ∃ g cap, v = .slice (some ⟨g, 0, none⟩) l.length cap ∧ B ≤ g ∧ l.length ≤ cap ∧ cap ≤ maxLen ∧ (∀ j, j < cap → (w.cell? ⟨g, j, none⟩).isSome = true ∧ w.frozen? ⟨g, j, none⟩ = false) ∧ ∀ j (h : j < l.length), w.cell? ⟨g, j, none⟩ = some (.int .u8 (l[j].toNat : Int))

theorem cells_grown {w w' : World} (hg : w.grownBy w' none) {g j : Nat} : ((w.cell? ⟨g, j, none⟩).isSome = true → (w'.cell? ⟨g, j, none⟩).isSome = true ∧ w'.frozen? ⟨g, j, none⟩ = w.frozen? ⟨g, j, none⟩) := fun h => by
  obtain ⟨u, hu⟩ := Option.isSome_iff_exists.1 h
  have hlt := World.block_lt_of_cell? w _ hu
  have hb := hg.block g hlt (by simp)
  refine ⟨by rw [World.cell?_of_block (a := ⟨g, j, none⟩) hb]; exact h, froz_sameE hb j rfl⟩
theorem Buf.grown {B : Nat} {w w' : World} {v : Value} {l : List UInt8} (h : Buf B w v l) (hg : w.grownBy w' none) : Buf B w' v l := by
  obtain ⟨g, cap, h1, h2, h3, h4, h5, h6⟩ := h
  refine ⟨g, cap, h1, h2, h3, h4, fun j hj => ?_, fun j hj => ?_⟩
  · obtain ⟨a, b⟩ := h5 j hj
    obtain ⟨c, d⟩ := cells_grown hg a
    exact ⟨c, d.trans b⟩
  · have := h6 j hj
    exact cell_sameE (hg.block g (World.block_lt_of_cell? w _ this) (by simp)) _ this

theorem buf_of_string (w : World) (s : ByteArray) (hs : s.size ≤ maxLen) :
    ∃ v w', (convert 9 78 (.string s)).run Tryz.prog w = .ok v w' ∧ Buf w.heap.size w' v s.data.toList ∧ w.grownBy w' none := by
  refine ⟨_, _, run_bytes_of_string w 9 78 5 s Tryz.underlying9 Tryz.underlying78 Tryz.underlying5, ?_, ⟨rfl, rfl, rfl, by simp, fun k hk _ => heap_alloc_old w.drew _ _ hk⟩⟩
  have hsz : s.data.toList.length = s.size := (Lib.size_eq s).symm
  have hge := grownCap_ge w s.size 0 5
  have hle := grownCap_le_maxLen w s.size 0 5 hs
  generalize grownCap w s.size 0 5 = cap at *
  have hrow : (bytesRow s cap).size = cap := by
    simp [bytesRow]
    have : s.data.size = s.size := rfl
    omega
  have hh : (w.drew.alloc (.cells (bytesRow s cap) 5 ((bytesRow s cap).size, (bytesRow s cap).size + 1))).heap[w.heap.size]? = some (.cells (bytesRow s cap) 5 ((bytesRow s cap).size, (bytesRow s cap).size + 1)) := heap_alloc_new w.drew _
  refine ⟨w.heap.size, cap, by rw [hsz], Nat.le_refl _, by rw [hsz]; exact hge, hle, fun j hj => ⟨?_, ?_⟩, fun j hj => ?_⟩
  · rw [cell_of_row _ _ _ _ _ _ hh, Array.getElem?_eq_getElem (by rw [hrow]; exact hj)]
    rfl
  · unfold World.frozen?
    rw [hh]
    simp only [hrow]
    have : ¬ cap ≤ j := by omega
    simp [this]
  · rw [cell_of_row _ _ _ _ _ _ hh]
    have hj2 : j < s.data.size := by rw [← Array.length_toList]; exact hj
    rw [bytesRow, Array.getElem?_append_left (by simpa using hj2), Array.getElem?_map, Array.getElem?_eq_getElem hj2]
    rfl

theorem buf_push {B : Nat} {w : World} {v : Value} {l : List UInt8} (h : Buf B w v l) (hB : B ≤ w.heap.size) (hl : l.length ≤ 20000000) {x : Value} (hx : Src Tryz.prog 1 78 x 1 [.int .u8 0] w) :
    ∃ v' w', (Builtin.append_ #[78, 78] 78 #[v, x]).run Tryz.prog w = .ok v' w' ∧ Buf B w' v' (l ++ [0]) ∧ Below B w w' := by
  obtain ⟨i0, hi, hz0, hz1, hz2⟩ := info_parts infoB
  obtain ⟨g, cap, rfl, h2, h3, h4, h5, h6⟩ := h
  by_cases hroom : l.length + 1 ≤ cap
  · have hc1 : ∀ j, j < [Value.int .u8 0].length → (w.cell? ⟨g, 0 + l.length * i0.size + j, none⟩).isSome = true := fun j hj => by
      have e : j = 0 := by simpa using hj
      rw [e, hz1]
      simpa using (h5 l.length (by omega)).1
    have hc2 : ∀ j, j < [Value.int .u8 0].length → w.frozen? ⟨g, 0 + l.length * i0.size + j, none⟩ = false := fun j hj => by
      have e : j = 0 := by simpa using hj
      rw [e, hz1]
      simpa using (h5 l.length (by omega)).2
    have hr := run_append_room_src (P := Tryz.prog) w 78 78 78 5 i0 Tryz.underlying78 hi g 0 l.length cap x 1 [.int .u8 0] (by rw [hz1]; exact hx) hroom hc1 hc2
    rw [hz1] at hr hc1
    have hin := World.cell?_setCells_in g [.int .u8 0] (0 + l.length * 1) w hc1 0 (by simp)
    refine ⟨_, _, hr, ⟨g, cap, by simp, h2, by simpa using hroom, h4, fun j hj => ?_, fun j hj => ?_⟩, below_setCells h2 _ _ _ (Below.refl _ _)⟩
    · refine ⟨World.isSome_setCells g _ _ w _ (h5 j hj).1, ?_⟩
      rw [World.frozen?_setCells]
      exact (h5 j hj).2
    · by_cases hjl : j < l.length
      · rw [World.cell?_setCells_out g _ _ w _ (fun _ _ => .inl (by simp; omega))]
        rw [List.getElem_append_left hjl]
        exact h6 j hjl
      · obtain rfl : j = l.length := by simp at hj; omega
        simpa using hin
  · have hold : (Builtin.firstCells i0.size l.length (.slice (some ⟨g, 0, none⟩) l.length cap)).run Tryz.prog w.drew = .ok (Lib.byteCells l).toArray w.drew := by
      rw [hz1]
      refine run_firstCells_some w.drew 1 l.length ⟨g, 0, none⟩ l.length cap (Lib.byteCells l) (by rw [Lib.byteCells_length]; omega) (fun j u hu => ?_)
      have hadd : (⟨g, 0, none⟩ : Addr).add j = ⟨g, j, none⟩ := by unfold Addr.add; split <;> simp_all
      rw [hadd]
      have hj : j < l.length := by
        have := (List.getElem?_eq_some_iff.1 hu).1
        rwa [Lib.byteCells_length] at this
      have hu' : u = .int .u8 (l[j].toNat : Int) := by
        simp [Lib.byteCells, List.getElem?_eq_getElem hj] at hu
        exact hu.symm
      rw [hu']
      exact h6 j hj
    have hr := run_append_grow_src (P := Tryz.prog) w 78 78 78 5 i0 (.int .u8 0) Tryz.underlying78 hi hz0 (some ⟨g, 0, none⟩) l.length cap (Lib.byteCells l) hold x 1 [.int .u8 0] (by rw [hz1]; exact hx) (by omega) (by omega) (growslice_fits (by omega) (by rw [hz2]; omega))
    have hge := grownCap_ge w (l.length + 1) cap 5
    have hle := grownCap_le_maxLen w (l.length + 1) cap 5 (by unfold maxLen; omega)
    refine ⟨_, _, hr, ?_, ?_⟩
    · generalize grownCap w (l.length + 1) cap 5 = cap' at *
      have hz : (Builtin.zeroCells (Value.int IntKind.u8 0).cells (cap' - (l.length + 1))).size = cap' - (l.length + 1) := by
        rw [size_zeroCells]
        simp [Value.cells]
      have hsz : ((Lib.byteCells l ++ [Value.int IntKind.u8 0]).toArray ++ Builtin.zeroCells (Value.int IntKind.u8 0).cells (cap' - (l.length + 1))).size = cap' := by
        rw [Array.size_append, hz]
        simp [Lib.byteCells_length]
        omega
      have hh : (w.drew.alloc (.cells ((Lib.byteCells l ++ [Value.int IntKind.u8 0]).toArray ++ Builtin.zeroCells (Value.int IntKind.u8 0).cells (cap' - (l.length + 1))) 5)).heap[w.heap.size]? = some (.cells ((Lib.byteCells l ++ [Value.int IntKind.u8 0]).toArray ++ Builtin.zeroCells (Value.int IntKind.u8 0).cells (cap' - (l.length + 1))) 5 (0, 0)) := heap_alloc_new w.drew _
      refine ⟨w.heap.size, cap', by simp, hB, by simpa using hge, hle, fun j hj => ⟨?_, ?_⟩, fun j hj => ?_⟩
      · rw [cell_of_row _ _ _ _ _ _ hh, Array.getElem?_eq_getElem (by rw [hsz]; exact hj)]
        rfl
      · unfold World.frozen?
        rw [hh]
        simp
      · rw [cell_of_row _ _ _ _ _ _ hh, Array.getElem?_append_left (by simp [Lib.byteCells_length]; simpa using hj)]
        have e : Lib.byteCells l ++ [Value.int IntKind.u8 0] = Lib.byteCells (l ++ [0]) := by simp [Lib.byteCells]
        rw [e, List.getElem?_toArray]
        unfold Lib.byteCells
        rw [List.getElem?_map, List.getElem?_eq_getElem hj]
        rfl
    · exact ⟨rfl, rfl, rfl, by simp, fun k hk => heap_alloc_old w.drew _ _ (show k < w.drew.heap.size by show k < w.heap.size; omega)⟩

def fillL (base : List UInt8) (at_ : Nat) (s : List UInt8) (i : Nat) : List UInt8 := base.take at_ ++ s.take i ++ base.drop (at_ + i)
theorem fillL_zero (base : List UInt8) (at_ : Nat) (s : List UInt8) : fillL base at_ s 0 = base := by simp [fillL]
theorem fillL_len {base : List UInt8} {at_ : Nat} {s : List UInt8} {i : Nat} (h : at_ + s.length ≤ base.length) (hi : i ≤ s.length) : (fillL base at_ s i).length = base.length := by
  simp [fillL]; omega
theorem fillL_step {base : List UInt8} {at_ : Nat} {s : List UInt8} {i : Nat} (h : at_ + s.length ≤ base.length) (hi : i < s.length) : fillL base at_ s (i + 1) = (fillL base at_ s i).set (at_ + i) s[i] := by
  have h1 : (base.take at_).length = at_ := by simp; omega
  have h2 : (s.take i).length = i := by simp; omega
  unfold fillL
  rw [List.take_succ_eq_append_getElem hi]
  have hd : base.drop (at_ + i) = base[at_ + i]'(by omega) :: base.drop (at_ + i + 1) := by rw [List.getElem_cons_drop]
  rw [hd, List.set_append_right _ _ (by simp; omega)]
  have e : at_ + i - (base.take at_ ++ s.take i).length = 0 := by rw [List.length_append, h1, h2]; omega
  rw [e, List.set_cons_zero]
  simp only [List.append_assoc, List.singleton_append, Nat.add_assoc]
theorem fillL_put (l : List UInt8) (at_ : Nat) (s : List UInt8) : fillL (l ++ List.replicate (at_ + s.length - l.length) 0) at_ s s.length = putL l at_ s := by
  unfold fillL putL
  rw [List.take_length]
  congr 1
  by_cases h : at_ + s.length ≤ l.length
  · rw [show at_ + s.length - l.length = 0 by omega]
    simp
  · rw [List.drop_of_length_le (by simp; omega), List.drop_of_length_le (by omega)]

theorem buf_store {B : Nat} {w : World} {v : Value} {l : List UInt8} (h : Buf B w v l) (k : Nat) (hk : k < l.length) (b : UInt8) :
    ∃ g cap, v = .slice (some ⟨g, 0, none⟩) l.length cap ∧ l.length ≤ cap ∧ cap ≤ 9223372036854775807 ∧ (∃ u, w.cell? ⟨g, k, none⟩ = some u) ∧ w.frozen? ⟨g, k, none⟩ = false ∧ Buf B (w.setCell ⟨g, k, none⟩ (.int .u8 (b.toNat : Int))) v (l.set k b) ∧ Below B w (w.setCell ⟨g, k, none⟩ (.int .u8 (b.toNat : Int))) := by
  obtain ⟨g, cap, rfl, h2, h3, h4, h5, h6⟩ := h
  have h4' : cap ≤ 9223372036854775807 := by unfold maxLen at h4; omega
  have hin := World.cell?_setCells_in g [.int .u8 (b.toNat : Int)] k w (fun j hj => by
    obtain rfl : j = 0 := by simpa using hj
    exact (h5 k (by omega)).1) 0 (by simp)
  have e : w.setCells g k [.int .u8 (b.toNat : Int)] = w.setCell ⟨g, k, none⟩ (.int .u8 (b.toNat : Int)) := rfl
  rw [e] at hin
  refine ⟨g, cap, rfl, h3, h4', Option.isSome_iff_exists.1 (h5 k (by omega)).1, (h5 k (by omega)).2, ⟨g, cap, by simp, h2, by simpa using h3, h4, fun j hj => ?_, fun j hj => ?_⟩, ?_⟩
  · rw [← e]
    refine ⟨World.isSome_setCells g _ _ w _ (h5 j hj).1, ?_⟩
    rw [World.frozen?_setCells]
    exact (h5 j hj).2
  · by_cases hjk : j = k
    · subst hjk
      simpa using hin
    · rw [← e, World.cell?_setCells_out g _ _ w _ (fun _ _ => by simp; omega)]
      rw [List.getElem_set_ne (Ne.symm hjk)]
      exact h6 j (by simpa using hj)
  · rw [← e]
    exact below_setCells h2 _ _ _ (Below.refl _ _)
theorem buf_string {B : Nat} {w : World} {v : Value} {l : List UInt8} (h : Buf B w v l) : (convert 78 9 v).run Tryz.prog w = .ok (.string ⟨l.toArray⟩) w := by
  obtain ⟨g, cap, rfl, h2, h3, h4, h5, h6⟩ := h
  exact run_convert_bytes_back w 78 9 5 ⟨g, 0, none⟩ cap l Tryz.underlying78 Tryz.underlying5 Tryz.underlying9 fun j hj => by
    have hadd : (⟨g, 0, none⟩ : Addr).add j = ⟨g, j, none⟩ := by unfold Addr.add; split <;> simp_all
    rw [hadd]
    exact h6 j hj
end Go.Proofs.YtejddacjncpneaaGreatDoor.Di
