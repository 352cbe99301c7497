/- Slices that a structure of the call's own holds: what they hold, where they lie, and append, copy, reslicing, conversion on them. No program. -/
import Derived.Deep.AppendSrc
import Derived.Lib.AppendZerosOnto
import Derived.Lib.BufferWrite
import Derived.Maps.AppendAt
import Derived.Laws.IdiomStrings
namespace Go.Proofs.Ytkphmkhdlkdphaa
open Go.RowKit

/-- The slice v has n elements, the cells xs; it lies at the head of a block of its own if it has room for any. -/
def Own (w : World) (e size : Nat) (v : Value) (n : Nat) (xs : List Value) : Prop :=
  xs.length = n * size ∧ ((∃ a, v = .slice a 0 0 ∧ n = 0) ∨ ∃ g cap cur, v = .slice (some ⟨g, 0, none⟩) n cap ∧ w.heap[g]? = some (.cells cur e (0, 0)) ∧ n ≤ cap ∧ 0 < cap ∧ cap ≤ maxLen ∧ cur.size = cap * size ∧ cur.toList.take (n * size) = xs)

/-- The block that it may write. -/
def blk : Value → Option Nat
  | .slice (some a) _ (_ + 1) => some a.block
  | _ => none

section
variable {w : World} {e size : Nat} {v : Value} {n : Nat} {xs : List Value}

theorem Own.nil (w : World) (e size : Nat) : Own w e size (.slice none 0 0) 0 [] := ⟨by simp, .inl ⟨none, rfl, rfl⟩⟩
theorem blk_zero (a : Option Addr) (n : Nat) : blk (.slice a n 0) = none := by cases a <;> rfl
theorem blk_pos {g n cap : Nat} (h : 0 < cap) : blk (.slice (some ⟨g, 0, none⟩) n cap) = some g := by
  cases cap with
  | zero => omega
  | succ c => rfl

theorem Own.shape (h : Own w e size v n xs) : ∃ a cap, v = .slice a n cap ∧ n ≤ cap ∧ cap ≤ maxLen := by
  rcases h.2 with ⟨a, rfl, rfl⟩ | ⟨g, cap, cur, rfl, _, h1, _, h2, _⟩
  · exact ⟨a, 0, rfl, Nat.le_refl _, Nat.zero_le _⟩
  · exact ⟨_, cap, rfl, h1, h2⟩
theorem Own.len (h : Own w e size v n xs) : n ≤ maxLen := by
  obtain ⟨a, cap, _, h1, h2⟩ := h.shape
  omega
theorem Own.lt (h : Own w e size v n xs) : ∀ b, blk v = some b → b < w.heap.size := by
  intro b hb
  rcases h.2 with ⟨a, rfl, rfl⟩ | ⟨g, cap, cur, rfl, hg, _, hc, _⟩
  · rw [blk_zero] at hb; cases hb
  · rw [blk_pos hc] at hb
    cases hb
    exact (Array.getElem?_eq_some_iff.1 hg).1
theorem Own.kept {w' : World} (h : Own w e size v n xs) (hg : ∀ b, blk v = some b → w'.heap[b]? = w.heap[b]?) : Own w' e size v n xs := by
  refine ⟨h.1, ?_⟩
  rcases h.2 with hn | ⟨g, cap, cur, rfl, hgg, h1, h2, rest⟩
  · exact .inl hn
  · exact .inr ⟨g, cap, cur, rfl, (hg g (blk_pos h2)).trans hgg, h1, h2, rest⟩
theorem Own.grown {w' : World} {row : Option Nat} (h : Own w e size v n xs) (hg : w.grownBy w' row) (hne : blk v = none ∨ blk v ≠ row) : Own w' e size v n xs :=
  h.kept fun b hb => hg.block b (h.lt b hb) (fun e => by
    rcases hne with h1 | h1
    · rw [h1] at hb; cases hb
    · exact h1 (by rw [hb, e]))
/-- What the elements are, for whatever reads them. -/
theorem Own.src {P : Program} {tx e' : TypeId} (h : Own w e size v n xs) (hk : P.underlying tx = some (.slice e')) (h1 : ∀ u ∈ xs, u.oneCell' = true) : Src P size tx v n xs w := by
  rcases h.2 with ⟨a, rfl, rfl⟩ | ⟨g, cap, cur, rfl, hgg, hn, hc, hm, hcs, ht⟩
  · have : xs = [] := List.eq_nil_of_length_eq_zero (by simpa using h.1)
    subst this
    cases a with
    | none => exact Src.ofNil w hk 0
    | some a => exact Src.ofSlice w hk a 0 0 [] (by simp) (by simp) (by simp)
  · refine Src.ofSlice w hk _ n cap xs h.1 (fun j u hu => ?_) h1
    have hadd : (⟨g, 0, none⟩ : Addr).add j = ⟨g, j, none⟩ := by unfold Addr.add; split <;> simp_all
    rw [hadd, cell_of_row w g j cur e (0, 0) hgg]
    rw [← ht, List.getElem?_take] at hu
    split at hu
    · simpa using hu
    · cases hu
theorem Own.cell {a : Option Addr} {cap : Nat} (h : Own w e size (.slice a n cap) n xs) {j : Nat} {u : Value} (hu : xs[j]? = some u) : ∃ g, a = some ⟨g, 0, none⟩ ∧ w.cell? ⟨g, j, none⟩ = some u := by
  rcases h.2 with ⟨a', hv, rfl⟩ | ⟨g, cap', cur, hv, hgg, hn, hc, hm, hcs, ht⟩
  · have : xs = [] := List.eq_nil_of_length_eq_zero (by simpa using h.1)
    subst this
    cases hu
  · simp at hv
    obtain ⟨rfl, rfl⟩ := hv
    refine ⟨g, rfl, ?_⟩
    rw [cell_of_row w g j cur e (0, 0) hgg]
    rw [← ht, List.getElem?_take] at hu
    split at hu
    · simpa using hu
    · cases hu

/-- v[:m]. -/
theorem Own.take {a : Option Addr} {cap m : Nat} (h : Own w e size (.slice a n cap) n xs) (hm : m ≤ n) : Own w e size (.slice a m cap) m (xs.take (m * size)) := by
  have hmn : m * size ≤ n * size := Nat.mul_le_mul_right _ hm
  refine ⟨by rw [List.length_take, h.1]; omega, ?_⟩
  rcases h.2 with ⟨a', hv, rfl⟩ | ⟨g, cap', cur, hv, hgg, hn, hc, hm', hcs, ht⟩
  · simp at hv
    obtain ⟨rfl, rfl⟩ := hv
    obtain rfl : m = 0 := by omega
    exact .inl ⟨_, rfl, rfl⟩
  · simp at hv
    obtain ⟨rfl, rfl⟩ := hv
    refine .inr ⟨g, cap, cur, rfl, hgg, by omega, hc, hm', hcs, ?_⟩
    rw [← ht, List.take_take]
    congr 1
    omega

section
variable {P : Program}
/-- append, whatever is appended. -/
theorem own_append {t tx ty : TypeId} {i : TypeInfo} {z x : Value} {m bytes : Nat} {news : List Value} (ht : P.underlying t = some (.slice e)) (hi : P.info? e = some i) (hz : i.zero = some z)
    (hsize : i.size = size) (hby : i.bytes = bytes) (hzs : z.cells.size = size) (h : Own w e size v n xs) (hs : Src P size tx x m news w) (h63 : n + m ≤ maxLen) (hbytes : (n + m) * bytes ≤ 140737488355328) :
    ∃ v' w', (Builtin.append_ #[t, tx] ty #[v, x]).run P w = .ok v' w' ∧ Own w' e size v' (n + m) (xs ++ news) ∧ w.grownBy w' (blk v) ∧ (blk v' = none ∨ blk v' = blk v ∨ blk v' = some w.heap.size) := by
  subst hsize
  subst hby
  have hsmall : n + m ≤ 9223372036854775807 := by simp only [maxLen] at h63; omega
  have hlen : (xs ++ news).length = (n + m) * i.size := by rw [List.length_append, h.1, hs.newsLen, Nat.add_mul]
  have grown : ∀ (old : Nat), old < n + m → ∀ (row : Option Nat),
      Own (w.drew.alloc (.cells ((xs ++ news).toArray ++ Builtin.zeroCells z.cells (grownCap w (n + m) old e - (n + m))) e)) e i.size (.slice (some ⟨w.heap.size, 0, none⟩) (n + m) (grownCap w (n + m) old e)) (n + m) (xs ++ news) ∧
      w.grownBy (w.drew.alloc (.cells ((xs ++ news).toArray ++ Builtin.zeroCells z.cells (grownCap w (n + m) old e - (n + m))) e)) row ∧ blk (.slice (some ⟨w.heap.size, 0, none⟩) (n + m) (grownCap w (n + m) old e)) = some w.heap.size := by
    intro old ho row
    have hge := grownCap_ge w (n + m) old e
    have hcm : grownCap w (n + m) old e ≤ maxLen := grownCap_le_maxLen w (n + m) old e h63
    refine ⟨⟨hlen, .inr ⟨w.heap.size, _, _, rfl, heap_alloc_new w.drew _, hge, by omega, hcm, ?_, ?_⟩⟩, ⟨rfl, rfl, rfl, by simp, fun k hk _ => heap_alloc_old w.drew _ k hk⟩, blk_pos (by omega)⟩
    · simp only [Array.size_append, List.size_toArray, size_zeroCells, hzs, hlen, ← Nat.add_mul]
      congr 1
      omega
    · simp only [Array.toList_append]
      rw [← hlen]
      exact List.take_left
  rcases h.2 with ⟨a, rfl, rfl⟩ | ⟨g, cap, cur, rfl, hg, hnc, hc0, hcm, hcs, htake⟩
  · have hx : xs = [] := List.eq_nil_of_length_eq_zero (by simpa using h.1)
    subst hx
    by_cases hm : m = 0
    · subst hm
      have hn : news = [] := List.eq_nil_of_length_eq_zero (by simpa using hs.newsLen)
      subst hn
      refine ⟨.slice a 0 0, w, ?_, ⟨by simp, .inl ⟨a, rfl, rfl⟩⟩, ⟨rfl, rfl, rfl, Nat.le_refl _, fun _ _ _ => rfl⟩, .inl (blk_zero _ _)⟩
      rcases hs.kind with ⟨e', hk⟩ | hk <;> cases a <;> simp [Builtin.append_, run_underlying ht, run_underlying hk, sizeOf, typeInfo, hi, hs.len, hs.cells, storeCells]
    · have hold : (Builtin.firstCells i.size 0 (.slice a 0 0)).run P w.drew = .ok ([] : List Value).toArray w.drew := by
        cases a <;> simp [Builtin.firstCells, loadCells, loadCellsFrom]
      have hr := run_append_grow_src w t tx ty e i z ht hi hz a 0 0 [] hold x m news hs (by omega) (by omega) (growslice_fits (by omega) (by simpa using hbytes))
      have hgr := grown 0 (by omega) (blk (.slice a 0 0))
      simp only [Nat.zero_add, List.nil_append] at hgr hr ⊢
      exact ⟨_, _, hr, hgr.1, hgr.2.1, .inr (.inr hgr.2.2)⟩
  · by_cases hroom : n + m ≤ cap
    · have hfit : n * i.size + news.length ≤ cur.size := by rw [hs.newsLen, hcs, ← Nat.add_mul]; exact Nat.mul_le_mul_right _ hroom
      have hst := run_storeCells_at P g (n * i.size) e news 0 cur w hg (by simpa using hfit) hs.one
      simp only [Nat.add_zero] at hst
      refine ⟨.slice (some ⟨g, 0, none⟩) (n + m) cap, w.setRow g (cur.toList.take (n * i.size) ++ news ++ cur.toList.drop (n * i.size + news.length)).toArray, ?_, ⟨hlen, .inr ⟨g, cap, _, rfl, setRow_heap w g cur _ e _ hg, hroom, hc0, hcm, ?_, ?_⟩⟩,
        ⟨rfl, rfl, rfl, by simp, fun k _ hk => setRow_other w g k _ (fun e => hk (by rw [blk_pos hc0, e]))⟩, .inr (.inl (by rw [blk_pos hc0, blk_pos hc0]))⟩
      · rcases hs.kind with ⟨e', hk⟩ | hk <;> simp [Builtin.append_, run_underlying ht, run_underlying hk, sizeOf, typeInfo, hi, hs.len, hroom, hs.cells, Addr.add_lit, hst]
      · simp only [List.size_toArray, List.length_append, List.length_take, List.length_drop, Array.length_toList]
        omega
      · rw [htake, ← hlen]
        exact List.take_left
    · have hold : (Builtin.firstCells i.size n (.slice (some ⟨g, 0, none⟩) n cap)).run P w.drew = .ok xs.toArray w.drew := by
        refine run_firstCells_some w.drew i.size n ⟨g, 0, none⟩ n cap xs h.1 (fun j u hu => ?_)
        have hadd : (⟨g, 0, none⟩ : Addr).add j = ⟨g, j, none⟩ := by unfold Addr.add; split <;> simp_all
        rw [hadd]
        show w.cell? _ = _
        rw [cell_of_row w g j cur e (0, 0) hg]
        rw [← htake, List.getElem?_take] at hu
        split at hu
        · simpa using hu
        · cases hu
      have hr := run_append_grow_src w t tx ty e i z ht hi hz (some ⟨g, 0, none⟩) n cap xs hold x m news hs (by omega) (by omega) (growslice_fits (by omega) hbytes)
      have hgr := grown cap (by omega) (blk (.slice (some ⟨g, 0, none⟩) n cap))
      exact ⟨_, _, hr, hgr.1, hgr.2.1, .inr (.inr hgr.2.2)⟩

/-- append(b, make([]T, m)...), m at least one. -/
theorem own_zeros {t tn ty : TypeId} {i : TypeInfo} {z : Value} {kn kq : IntKind} {m bytes : Nat} (ht : P.underlying t = some (.slice e)) (htn : P.underlying tn = some (.int kn)) (hi : P.info? e = some i) (hz : i.zero = some z)
    (hsize : i.size = 1) (hby : i.bytes = bytes) (hz1 : z.cells = #[z]) (hzo : z.oneCell' = true) (h : Own w e 1 v n xs) (h0 : 0 < m) (h63 : n + m ≤ maxLen) (hbytes : (n + m) * bytes ≤ 140737488355328) :
    ∃ v' w', (Builtin.append_ #[t, tn] ty #[v, .int kq m]).run P w = .ok v' w' ∧ Own w' e 1 v' (n + m) (xs ++ List.replicate m z) ∧ w.grownBy w' (blk v) ∧ (blk v' = blk v ∨ blk v' = some w.heap.size) := by
  subst hby
  have hmm : m ≠ 0 := by omega
  have hlen : (xs ++ List.replicate m z).length = (n + m) * 1 := by rw [List.length_append, h.1, List.length_replicate]; omega
  have hzc : ∀ c, Builtin.zeroCells #[z] c = (List.replicate c z).toArray := by
    intro c
    apply Array.ext'
    simp [Builtin.zeroCells]
    apply List.ext_getElem
    · simp
    · intro j h1 h2
      simp [Nat.mod_one]
  have hzs : z.cells.size = 1 := by rw [hz1]; rfl
  have fin : ∀ (old : Nat) (olds : List Value), olds = xs → old < n + m → ∀ (row : Option Nat),
      Own (w.drew.alloc (.cells (olds.toArray ++ Builtin.zeroCells z.cells m ++ Builtin.zeroCells z.cells (grownCap w (n + m) old e - (n + m))) e)) e 1 (.slice (some ⟨w.heap.size, 0, none⟩) (n + m) (grownCap w (n + m) old e)) (n + m) (xs ++ List.replicate m z) ∧
      w.grownBy (w.drew.alloc (.cells (olds.toArray ++ Builtin.zeroCells z.cells m ++ Builtin.zeroCells z.cells (grownCap w (n + m) old e - (n + m))) e)) row ∧ blk (.slice (some ⟨w.heap.size, 0, none⟩) (n + m) (grownCap w (n + m) old e)) = some w.heap.size := by
    rintro old olds rfl ho row
    have hge := grownCap_ge w (n + m) old e
    have hcm : grownCap w (n + m) old e ≤ maxLen := grownCap_le_maxLen w (n + m) old e h63
    refine ⟨⟨hlen, .inr ⟨w.heap.size, _, _, rfl, heap_alloc_new w.drew _, hge, by omega, hcm, ?_, ?_⟩⟩, ⟨rfl, rfl, rfl, by simp, fun k hk _ => heap_alloc_old w.drew _ k hk⟩, blk_pos (by omega)⟩
    · simp only [Array.size_append, List.size_toArray, size_zeroCells, hzs, h.1]
      omega
    · rw [hz1]
      simp only [Array.toList_append, hzc]
      rw [← hlen]
      exact List.take_left
  have hw : IntKind.i64.wrap (m : Int) = m := by rw [IntKind.wrap_i64]; simp only [maxLen] at h63; omega
  rcases h.2 with ⟨a, rfl, rfl⟩ | ⟨g, cap, cur, rfl, hg, hnc, hc0, hcm, hcs, htake⟩
  · have hx : xs = [] := List.eq_nil_of_length_eq_zero (by simpa using h.1)
    have hold : (Builtin.firstCells i.size 0 (.slice a 0 0)).run P w.drew = .ok ([] : List Value).toArray w.drew := by
      cases a <;> simp [Builtin.firstCells, loadCells, loadCellsFrom]
    have hr := Lib.run_append_grow_zeros w t tn ty e i z kq kn ht htn hi hz a 0 0 [] hold m h0 (by omega) (by omega) (by simp only [maxLen] at h63; omega) (by simp at hbytes; omega) (growslice_fits (by omega) (by simpa using hbytes))
    have hgr := fin 0 [] hx.symm (by omega) (blk (.slice a 0 0))
    simp only [Nat.zero_add] at hgr hr ⊢
    exact ⟨_, _, hr, hgr.1, hgr.2.1, .inr hgr.2.2⟩
  · by_cases hroom : n + m ≤ cap
    · have hst := run_storeCells_at P g n e (List.replicate m z) 0 cur w hg (by rw [List.length_replicate, hcs]; omega) (fun u hu => by rw [List.mem_replicate] at hu; rw [hu.2]; exact hzo)
      simp only [Nat.add_zero, List.length_replicate] at hst
      have hneg : ¬ ((m : Int) < 0) := by omega
      have h48i : ¬ (281474976710656 < (m : Int) * (i.bytes : Int)) := by
        rw [← Int.natCast_mul]
        have : m * i.bytes ≤ (n + m) * i.bytes := Nat.mul_le_mul_right _ (by omega)
        omega
      refine ⟨.slice (some ⟨g, 0, none⟩) (n + m) cap, w.setRow g (cur.toList.take n ++ List.replicate m z ++ cur.toList.drop (n + m)).toArray, ?_, ⟨hlen, .inr ⟨g, cap, _, rfl, setRow_heap w g cur _ e _ hg, hroom, hc0, hcm, ?_, ?_⟩⟩,
        ⟨rfl, rfl, rfl, by simp, fun k _ hk => setRow_other w g k _ (fun e => hk (by rw [blk_pos hc0, e]))⟩, .inl (by rw [blk_pos hc0, blk_pos hc0])⟩
      · simp [Builtin.append_, run_underlying ht, run_underlying htn, sizeOf, typeInfo, zeroValue, hi, hz, asInt, asIntOf, hw, hneg, hsize, hmm, h48i, hroom, hz1, hzc, Addr.add_lit, hst]
      · simp only [List.size_toArray, List.length_append, List.length_take, List.length_drop, Array.length_toList, List.length_replicate]
        omega
      · simp only [Nat.mul_one] at htake ⊢
        have h2 : (xs ++ List.replicate m z).length = n + m := by simpa using hlen
        rw [htake, ← h2]
        exact List.take_left
    · have hold : (Builtin.firstCells i.size n (.slice (some ⟨g, 0, none⟩) n cap)).run P w.drew = .ok xs.toArray w.drew := by
        rw [hsize]
        refine run_firstCells_some w.drew 1 n ⟨g, 0, none⟩ n cap xs h.1 (fun j u hu => ?_)
        have hadd : (⟨g, 0, none⟩ : Addr).add j = ⟨g, j, none⟩ := by unfold Addr.add; split <;> simp_all
        rw [hadd]
        show w.cell? _ = _
        rw [cell_of_row w g j cur e (0, 0) hg]
        rw [← htake, List.getElem?_take] at hu
        split at hu
        · simpa using hu
        · cases hu
      have hr := Lib.run_append_grow_zeros w t tn ty e i z kq kn ht htn hi hz (some ⟨g, 0, none⟩) n cap xs hold m h0 (by omega) (by omega) (by simp only [maxLen] at h63; omega)
        (by have : m * i.bytes ≤ (n + m) * i.bytes := Nat.mul_le_mul_right _ (by omega)
            omega) (growslice_fits (by omega) hbytes)
      have hgr := fin cap xs rfl (by omega) (blk (.slice (some ⟨g, 0, none⟩) n cap))
      exact ⟨_, _, hr, hgr.1, hgr.2.1, .inr hgr.2.2⟩

/-- copy(b[k:], s) of a string that fits. -/
theorem own_copyS {t ts ty : TypeId} {a : Option Addr} {cap k : Nat} {s : ByteArray} (ht : P.underlying t = some (.slice e)) (hs : (P.info? e).map (·.size) = some 1) (h : Own w e 1 (.slice a n cap) n xs) (h0 : 0 < s.size) (hk : k + s.size ≤ n) :
    ∃ w', (Builtin.copy_ #[t, ts] ty #[.slice (if cap = k then a else a.map (·.add (k * 1))) (n - k) (cap - k), .string s]).run P w = .ok (goInt s.size) w' ∧ Own w' e 1 (.slice a n cap) n (xs.take k ++ Lib.byteCells s.data.toList ++ xs.drop (k + s.size)) ∧ w.grownBy w' (blk (.slice a n cap)) ∧ w'.heap.size = w.heap.size := by
  rcases h.2 with ⟨a', hv, rfl⟩ | ⟨g, cap', cur, hv, hg, hnc, hc0, hcm, hcs, htake⟩
  · omega
  · simp at hv
    obtain ⟨rfl, rfl⟩ := hv
    have hck : cap ≠ k := by omega
    have hadd : (⟨g, 0, none⟩ : Addr).add (k * 1) = ⟨g, k, none⟩ := by unfold Addr.add; split <;> simp_all
    rw [if_neg hck]
    simp only [Option.map_some, hadd]
    have hbl : (Lib.byteCells s.data.toList).length = s.size := by rw [Lib.byteCells_length, ← Lib.size_eq]
    refine ⟨_, Lib.run_copy_row_string w t ts ty e g k (n - k) (cap - k) s cur e ht hs hg (by omega) (by omega), ⟨?_, .inr ⟨g, cap, _, rfl, setRow_heap w g cur _ e _ hg, hnc, hc0, hcm, ?_, ?_⟩⟩,
        ⟨rfl, rfl, rfl, by simp, fun j _ hj => setRow_other w g j _ (fun e => hj (by rw [blk_pos hc0, e]))⟩, by simp⟩
    · have := h.1
      simp only [List.length_append, List.length_take, List.length_drop, hbl]
      omega
    · simp only [List.size_toArray, List.length_append, List.length_take, List.length_drop, Array.length_toList, hbl]
      omega
    · have e1 : (cur.toList.take n) = xs := by simpa using htake
      have hcl : cur.toList.length = cap := by simpa using hcs
      have hA : (cur.toList.take k).length = k := by rw [List.length_take]; omega
      have hAB : (cur.toList.take k ++ Lib.byteCells s.data.toList).length = k + s.size := by rw [List.length_append, hA, hbl]
      show List.take (n * 1) (cur.toList.take k ++ Lib.byteCells s.data.toList ++ cur.toList.drop (k + s.size)) = _
      rw [Nat.mul_one, List.take_append, hAB, List.take_of_length_le (by omega : (cur.toList.take k ++ Lib.byteCells s.data.toList).length ≤ n), ← e1, List.take_take, Nat.min_eq_left (by omega : k ≤ n), List.drop_take]

/-- string(b). -/
theorem own_string {ts tb td : TypeId} {a : Option Addr} {cap : Nat} {l : List UInt8} (ht : P.underlying tb = some (.slice ts)) (he : P.underlying ts = some (.int .u8)) (hd : P.underlying td = some .string) (h : Own w e 1 (.slice a n cap) n (Lib.byteCells l)) (k m : Nat) (c : Nat) (hkm : k + m ≤ n) :
    (convert tb td (.slice (if cap = k then a else a.map (·.add (k * 1))) m c)).run P w = .ok (.string ⟨((l.drop k).take m).toArray⟩) w := by
  have hl : l.length = n := by have := h.1; rw [Lib.byteCells_length] at this; omega
  have hlm : ((l.drop k).take m).length = m := by rw [List.length_take, List.length_drop]; omega
  rcases h.2 with ⟨a', hv, rfl⟩ | ⟨g, cap', cur, hv, hg, hnc, hc0, hcm, hcs, htake⟩
  · simp at hv
    obtain ⟨rfl, rfl⟩ := hv
    obtain rfl : m = 0 := by omega
    obtain rfl : k = 0 := by omega
    simp only [if_true]
    cases a with
    | none =>
      rw [run_convert_bytes_string w tb td ts none 0 c ht he hd]
      simp [Conv.bytesToString]
      rfl
    | some a => simpa using run_convert_bytes_back w tb td ts a c [] ht he hd (by simp)
  · simp at hv
    obtain ⟨rfl, rfl⟩ := hv
    have hcell : ∀ j (hj : j < l.length), w.cell? ⟨g, j, none⟩ = some (.int .u8 (l[j].toNat : Int)) := by
      intro j hj
      rw [cell_of_row w g j cur e (0, 0) hg]
      have : (cur.toList.take (n * 1))[j]? = some (.int .u8 (l[j].toNat : Int)) := by
        rw [htake]
        simp [Lib.byteCells, List.getElem?_eq_getElem hj]
      rw [List.getElem?_take] at this
      split at this
      · simpa using this
      · cases this
    have hmain : ∀ ad : Addr, (∀ j, ad.add j = ⟨g, k + j, none⟩) → (convert tb td (.slice (some ad) m c)).run P w = .ok (.string ⟨((l.drop k).take m).toArray⟩) w := by
      intro ad had
      have := run_convert_bytes_back w tb td ts ad c ((l.drop k).take m) ht he hd (fun j hj => by
        rw [had j, hcell (k + j) (by omega)]
        simp)
      rw [hlm] at this
      exact this
    by_cases hck : cap = k
    · rw [if_pos hck]
      by_cases hk0 : k = 0
      · omega
      · obtain rfl : m = 0 := by omega
        simpa using run_convert_bytes_back w tb td ts ⟨g, 0, none⟩ c [] ht he hd (by simp)
    · rw [if_neg hck]
      refine hmain _ (fun j => ?_)
      unfold Addr.add
      by_cases h1 : k = 0 <;> by_cases h2 : j = 0 <;> simp [h1, h2]
end
end
end Go.Proofs.Ytkphmkhdlkdphaa
