/- A slice at the head of a block of its own: append; slices of strings. -/
import Derived.Deep.AppendSrc
import Derived.Deep.AppendLies
import Derived.Lib.AppendZeros
import Derived.Lib.AppendIntMem
import Derived.Sort.OwnSorted
import Derived.Test.YtmhjejnkphdjpaaPB22
set_option maxRecDepth 100000
namespace Go.Proofs.Ytmhjejnkphdjpaa.Dm
open Go.RowKit

theorem alloc_at (w : World) (O : Obj) : (w.alloc O).heap[w.heap.size]? = some O := heap_alloc_new w O
/-- The slice v has n elements, the cells xs; it lies at the head of a block of its own if it has room for any. -/
def Own (w : World) (e size : Nat) (v : Value) (n : Nat) (xs : List Value) : Prop :=
  xs.length = n * size ∧ ((∃ a, v = .slice a 0 0 ∧ n = 0) ∨ ∃ g cap cur, v = .slice (some ⟨g, 0, none⟩) n cap ∧ w.heap[g]? = some (.cells cur e (0, 0)) ∧ n ≤ cap ∧ 0 < cap ∧ cap ≤ maxLen ∧ cur.size = cap * size ∧ cur.toList.take (n * size) = xs)

/-- The block that it may write. -/
def blk : Value → Option Nat
  | .slice (some a) _ (_ + 1) => some a.block
  | _ => none

section
variable {w : World} {e size : Nat} {v : Value} {n : Nat} {xs : List Value}

theorem Own.nil (w : World) (e size : Nat) : Own w e size (.slice none 0 0) 0 [] := ⟨by simp, .inl ⟨none, rfl, rfl⟩⟩
theorem blk_zero (a : Option Addr) (n : Nat) : blk (.slice a n 0) = none := by cases a <;> rfl
theorem blk_pos {g n cap : Nat} (h : 0 < cap) : blk (.slice (some ⟨g, 0, none⟩) n cap) = some g := by
  cases cap with
  | zero => omega
  | succ c => rfl

theorem Own.shape (h : Own w e size v n xs) : ∃ a cap, v = .slice a n cap ∧ n ≤ cap ∧ cap ≤ maxLen := by
  rcases h.2 with ⟨a, rfl, rfl⟩ | ⟨g, cap, cur, rfl, _, h1, _, h2, _⟩
  · exact ⟨a, 0, rfl, Nat.le_refl _, Nat.zero_le _⟩
  · exact ⟨_, cap, rfl, h1, h2⟩
theorem Own.len (h : Own w e size v n xs) : n ≤ maxLen := by
  obtain ⟨a, cap, _, h1, h2⟩ := h.shape
  omega
theorem Own.lt (h : Own w e size v n xs) : ∀ b, blk v = some b → b < w.heap.size := by
  intro b hb
  rcases h.2 with ⟨a, rfl, rfl⟩ | ⟨g, cap, cur, rfl, hg, _, hc, _⟩
  · rw [blk_zero] at hb; cases hb
  · rw [blk_pos hc] at hb
    cases hb
    exact (Array.getElem?_eq_some_iff.1 hg).1
theorem Own.kept {w' : World} (h : Own w e size v n xs) (hg : ∀ b, blk v = some b → w'.heap[b]? = w.heap[b]?) : Own w' e size v n xs := by
  refine ⟨h.1, ?_⟩
  rcases h.2 with hn | ⟨g, cap, cur, rfl, hgg, h1, h2, rest⟩
  · exact .inl hn
  · exact .inr ⟨g, cap, cur, rfl, (hg g (blk_pos h2)).trans hgg, h1, h2, rest⟩
theorem Own.grown {w' : World} {row : Option Nat} (h : Own w e size v n xs) (hg : w.grownBy w' row) (hne : blk v = none ∨ blk v ≠ row) : Own w' e size v n xs :=
  h.kept fun b hb => hg.block b (h.lt b hb) (fun e => by
    rcases hne with h1 | h1
    · rw [h1] at hb; cases hb
    · exact h1 (by rw [hb, e]))
theorem Own.cell {a : Option Addr} {cap : Nat} (h : Own w e size (.slice a n cap) n xs) {j : Nat} {u : Value} (hu : xs[j]? = some u) : ∃ g, a = some ⟨g, 0, none⟩ ∧ w.cell? ⟨g, j, none⟩ = some u := by
  rcases h.2 with ⟨a', hv, rfl⟩ | ⟨g, cap', cur, hv, hgg, hn, hc, hm, hcs, ht⟩
  · have : xs = [] := List.eq_nil_of_length_eq_zero (by simpa using h.1)
    subst this
    cases hu
  · simp at hv
    obtain ⟨rfl, rfl⟩ := hv
    refine ⟨g, rfl, ?_⟩
    rw [cell_of_row w g j cur e (0, 0) hgg]
    rw [← ht, List.getElem?_take] at hu
    split at hu
    · simpa using hu
    · cases hu

/-- v[:m]. -/
theorem Own.take {a : Option Addr} {cap m : Nat} (h : Own w e size (.slice a n cap) n xs) (hm : m ≤ n) : Own w e size (.slice a m cap) m (xs.take (m * size)) := by
  have hmn : m * size ≤ n * size := Nat.mul_le_mul_right _ hm
  refine ⟨by rw [List.length_take, h.1]; omega, ?_⟩
  rcases h.2 with ⟨a', hv, rfl⟩ | ⟨g, cap', cur, hv, hgg, hn, hc, hm', hcs, ht⟩
  · simp at hv
    obtain ⟨rfl, rfl⟩ := hv
    obtain rfl : m = 0 := by omega
    exact .inl ⟨_, rfl, rfl⟩
  · simp at hv
    obtain ⟨rfl, rfl⟩ := hv
    refine .inr ⟨g, cap, cur, rfl, hgg, by omega, hc, hm', hcs, ?_⟩
    rw [← ht, List.take_take]
    congr 1
    omega

section
variable {P : Program}
/-- append, whatever is appended. -/
theorem own_append {t tx ty : TypeId} {i : TypeInfo} {z x : Value} {m bytes : Nat} {news : List Value} (ht : P.underlying t = some (.slice e)) (hi : P.info? e = some i) (hz : i.zero = some z)
    (hsize : i.size = size) (hby : i.bytes = bytes) (hzs : z.cells.size = size) (h : Own w e size v n xs) (hs : Src P size tx x m news w) (h63 : n + m ≤ maxLen) (hbytes : (n + m) * bytes ≤ 140737488355328) :
    ∃ v' w', (Builtin.append_ #[t, tx] ty #[v, x]).run P w = .ok v' w' ∧ Own w' e size v' (n + m) (xs ++ news) ∧ w.grownBy w' (blk v) ∧ (blk v' = none ∨ blk v' = blk v ∨ blk v' = some w.heap.size) := by
  subst hsize
  subst hby
  have hsmall : n + m ≤ 9223372036854775807 := by simp only [maxLen] at h63; omega
  have hlen : (xs ++ news).length = (n + m) * i.size := by rw [List.length_append, h.1, hs.newsLen, Nat.add_mul]
  have grown : ∀ (old : Nat), old < n + m → ∀ (row : Option Nat),
      Own (w.drew.alloc (.cells ((xs ++ news).toArray ++ Builtin.zeroCells z.cells (grownCap w (n + m) old e - (n + m))) e)) e i.size (.slice (some ⟨w.heap.size, 0, none⟩) (n + m) (grownCap w (n + m) old e)) (n + m) (xs ++ news) ∧
      w.grownBy (w.drew.alloc (.cells ((xs ++ news).toArray ++ Builtin.zeroCells z.cells (grownCap w (n + m) old e - (n + m))) e)) row ∧ blk (.slice (some ⟨w.heap.size, 0, none⟩) (n + m) (grownCap w (n + m) old e)) = some w.heap.size := by
    intro old ho row
    have hge := grownCap_ge w (n + m) old e
    have hcm : grownCap w (n + m) old e ≤ maxLen := grownCap_le_maxLen w (n + m) old e h63
    refine ⟨⟨hlen, .inr ⟨w.heap.size, _, _, rfl, heap_alloc_new w.drew _, hge, by omega, hcm, ?_, ?_⟩⟩, ⟨rfl, rfl, rfl, by simp, fun k hk _ => Below.heap_alloc w.drew _ k hk⟩, blk_pos (by omega)⟩
    · simp only [Array.size_append, List.size_toArray, size_zeroCells, hzs, hlen, ← Nat.add_mul]
      congr 1
      omega
    · simp only [Array.toList_append]
      rw [← hlen]
      exact List.take_left
  rcases h.2 with ⟨a, rfl, rfl⟩ | ⟨g, cap, cur, rfl, hg, hnc, hc0, hcm, hcs, htake⟩
  · have hx : xs = [] := List.eq_nil_of_length_eq_zero (by simpa using h.1)
    subst hx
    by_cases hm : m = 0
    · subst hm
      have hn : news = [] := List.eq_nil_of_length_eq_zero (by simpa using hs.newsLen)
      subst hn
      refine ⟨.slice a 0 0, w, ?_, ⟨by simp, .inl ⟨a, rfl, rfl⟩⟩, ⟨rfl, rfl, rfl, Nat.le_refl _, fun _ _ _ => rfl⟩, .inl (blk_zero _ _)⟩
      rcases hs.kind with ⟨e', hk⟩ | hk <;> cases a <;> simp [Builtin.append_, run_underlying ht, run_underlying hk, sizeOf, typeInfo, hi, hs.len, hs.cells, storeCells]
    · have hold : (Builtin.firstCells i.size 0 (.slice a 0 0)).run P w.drew = .ok ([] : List Value).toArray w.drew := by
        cases a <;> simp [Builtin.firstCells, loadCells, loadCellsFrom]
      have hr := run_append_grow_src w t tx ty e i z ht hi hz a 0 0 [] hold x m news hs (by omega) (by omega) (growslice_fits (by omega) (by simpa using hbytes))
      have hgr := grown 0 (by omega) (blk (.slice a 0 0))
      simp only [Nat.zero_add, List.nil_append] at hgr hr ⊢
      exact ⟨_, _, hr, hgr.1, hgr.2.1, .inr (.inr hgr.2.2)⟩
  · by_cases hroom : n + m ≤ cap
    · have hfit : n * i.size + news.length ≤ cur.size := by rw [hs.newsLen, hcs, ← Nat.add_mul]; exact Nat.mul_le_mul_right _ hroom
      have hst := run_storeCells_at P g (n * i.size) e news 0 cur w hg (by simpa using hfit) hs.one
      simp only [Nat.add_zero] at hst
      refine ⟨.slice (some ⟨g, 0, none⟩) (n + m) cap, w.setRow g (cur.toList.take (n * i.size) ++ news ++ cur.toList.drop (n * i.size + news.length)).toArray, ?_, ⟨hlen, .inr ⟨g, cap, _, rfl, setRow_heap w g cur _ e _ hg, hroom, hc0, hcm, ?_, ?_⟩⟩,
        ⟨rfl, rfl, rfl, by simp, fun k _ hk => setRow_other w g k _ (fun e => hk (by rw [blk_pos hc0, e]))⟩, .inr (.inl (by rw [blk_pos hc0, blk_pos hc0]))⟩
      · rcases hs.kind with ⟨e', hk⟩ | hk <;> simp [Builtin.append_, run_underlying ht, run_underlying hk, sizeOf, typeInfo, hi, hs.len, hroom, hs.cells, Addr.add_lit, hst]
      · simp only [List.size_toArray, List.length_append, List.length_take, List.length_drop, Array.length_toList]
        omega
      · rw [htake, ← hlen]
        exact List.take_left
    · have hold : (Builtin.firstCells i.size n (.slice (some ⟨g, 0, none⟩) n cap)).run P w.drew = .ok xs.toArray w.drew := by
        refine run_firstCells_some w.drew i.size n ⟨g, 0, none⟩ n cap xs h.1 (fun j u hu => ?_)
        have hadd : (⟨g, 0, none⟩ : Addr).add j = ⟨g, j, none⟩ := by unfold Addr.add; split <;> simp_all
        rw [hadd]
        show w.cell? _ = _
        rw [cell_of_row w g j cur e (0, 0) hg]
        rw [← htake, List.getElem?_take] at hu
        split at hu
        · simpa using hu
        · cases hu
      have hr := run_append_grow_src w t tx ty e i z ht hi hz (some ⟨g, 0, none⟩) n cap xs hold x m news hs (by omega) (by omega) (growslice_fits (by omega) hbytes)
      have hgr := grown cap (by omega) (blk (.slice (some ⟨g, 0, none⟩) n cap))
      exact ⟨_, _, hr, hgr.1, hgr.2.1, .inr (.inr hgr.2.2)⟩

end
end

/-- The slice v has the strings l, at the head of a block of its own if it has room for any. -/
def OwnS (w : World) (v : Value) (l : List (List UInt8)) : Prop := Own w 9 1 v l.length (l.map encStr)
theorem OwnS.cell {w : World} {v : Value} {l : List (List UInt8)} (h : OwnS w v l) (h0 : 0 < l.length) : ∃ g c, v = .slice (some ⟨g, 0, none⟩) l.length c ∧ l.length ≤ c ∧ blk v = some g ∧ g < w.heap.size ∧ ∀ k (hk : k < l.length), w.cell? ⟨g, k, none⟩ = some (.string ⟨l[k].toArray⟩) := by
  rcases h.2 with ⟨a', hv, hn⟩ | ⟨g, cap, cur, hv, hg, hnc, hc0, hcm, hcs, ht⟩
  · omega
  · refine ⟨g, cap, hv, hnc, by rw [hv]; exact blk_pos hc0, (Array.getElem?_eq_some_iff.1 hg).1, fun k hk => ?_⟩
    have h1 : (cur.toList.take (l.length * 1))[k]? = (l.map encStr)[k]? := by rw [ht]
    rw [List.getElem?_take, if_pos (by omega), List.getElem?_map, List.getElem?_eq_getElem hk, Array.getElem?_toList] at h1
    rw [cell_of_row w g k cur 9 (0, 0) hg]
    exact h1
theorem OwnS.nil (w : World) : OwnS w (.slice none 0 0) [] := Own.nil w 9 1
end Go.Proofs.Ytmhjejnkphdjpaa.Dm
