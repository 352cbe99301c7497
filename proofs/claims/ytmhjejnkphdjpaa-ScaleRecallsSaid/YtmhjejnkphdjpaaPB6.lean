/- A slice at the head of a block of its own: append. The contract of Of. The contracts of Same, Compare, Neg. -/
import Derived.Test.YtmhjejnkphdjpaaPB5
import Derived.Deep.AppendSrc
import Derived.Deep.AppendLies
import Derived.Lib.AppendZeros
set_option maxRecDepth 100000
namespace Go.Proofs.Ytmhjejnkphdjpaa.Bi
open Go.RowKit

/-- The slice v has n elements, the cells xs; it lies at the head of a block of its own if it has room for any. -/
def Own (w : World) (e size : Nat) (v : Value) (n : Nat) (xs : List Value) : Prop :=
  xs.length = n * size ∧ ((∃ a, v = .slice a 0 0 ∧ n = 0) ∨ ∃ g cap cur, v = .slice (some ⟨g, 0, none⟩) n cap ∧ w.heap[g]? = some (.cells cur e (0, 0)) ∧ n ≤ cap ∧ 0 < cap ∧ cap ≤ maxLen ∧ cur.size = cap * size ∧ cur.toList.take (n * size) = xs)

/-- The block that it may write. -/
def blk : Value → Option Nat
  | .slice (some a) _ (_ + 1) => some a.block
  | _ => none

section
variable {w : World} {e size : Nat} {v : Value} {n : Nat} {xs : List Value}

theorem Own.nil (w : World) (e size : Nat) : Own w e size (.slice none 0 0) 0 [] := ⟨by simp, .inl ⟨none, rfl, rfl⟩⟩
theorem blk_zero (a : Option Addr) (n : Nat) : blk (.slice a n 0) = none := by cases a <;> rfl
theorem blk_pos {g n cap : Nat} (h : 0 < cap) : blk (.slice (some ⟨g, 0, none⟩) n cap) = some g := by
  cases cap with
  | zero => omega
  | succ c => rfl

theorem Own.shape (h : Own w e size v n xs) : ∃ a cap, v = .slice a n cap ∧ n ≤ cap ∧ cap ≤ maxLen := by
  rcases h.2 with ⟨a, rfl, rfl⟩ | ⟨g, cap, cur, rfl, _, h1, _, h2, _⟩
  · exact ⟨a, 0, rfl, Nat.le_refl _, Nat.zero_le _⟩
  · exact ⟨_, cap, rfl, h1, h2⟩
theorem Own.len (h : Own w e size v n xs) : n ≤ maxLen := by
  obtain ⟨a, cap, _, h1, h2⟩ := h.shape
  omega
theorem Own.lt (h : Own w e size v n xs) : ∀ b, blk v = some b → b < w.heap.size := by
  intro b hb
  rcases h.2 with ⟨a, rfl, rfl⟩ | ⟨g, cap, cur, rfl, hg, _, hc, _⟩
  · rw [blk_zero] at hb; cases hb
  · rw [blk_pos hc] at hb
    cases hb
    exact (Array.getElem?_eq_some_iff.1 hg).1
theorem Own.kept {w' : World} (h : Own w e size v n xs) (hg : ∀ b, blk v = some b → w'.heap[b]? = w.heap[b]?) : Own w' e size v n xs := by
  refine ⟨h.1, ?_⟩
  rcases h.2 with hn | ⟨g, cap, cur, rfl, hgg, h1, h2, rest⟩
  · exact .inl hn
  · exact .inr ⟨g, cap, cur, rfl, (hg g (blk_pos h2)).trans hgg, h1, h2, rest⟩
theorem Own.grown {w' : World} {row : Option Nat} (h : Own w e size v n xs) (hg : w.grownBy w' row) (hne : blk v = none ∨ blk v ≠ row) : Own w' e size v n xs :=
  h.kept fun b hb => hg.block b (h.lt b hb) (fun e => by
    rcases hne with h1 | h1
    · rw [h1] at hb; cases hb
    · exact h1 (by rw [hb, e]))
theorem Own.cell {a : Option Addr} {cap : Nat} (h : Own w e size (.slice a n cap) n xs) {j : Nat} {u : Value} (hu : xs[j]? = some u) : ∃ g, a = some ⟨g, 0, none⟩ ∧ w.cell? ⟨g, j, none⟩ = some u := by
  rcases h.2 with ⟨a', hv, rfl⟩ | ⟨g, cap', cur, hv, hgg, hn, hc, hm, hcs, ht⟩
  · have : xs = [] := List.eq_nil_of_length_eq_zero (by simpa using h.1)
    subst this
    cases hu
  · simp at hv
    obtain ⟨rfl, rfl⟩ := hv
    refine ⟨g, rfl, ?_⟩
    rw [cell_of_row w g j cur e (0, 0) hgg]
    rw [← ht, List.getElem?_take] at hu
    split at hu
    · simpa using hu
    · cases hu

/-- v[:m]. -/
theorem Own.take {a : Option Addr} {cap m : Nat} (h : Own w e size (.slice a n cap) n xs) (hm : m ≤ n) : Own w e size (.slice a m cap) m (xs.take (m * size)) := by
  have hmn : m * size ≤ n * size := Nat.mul_le_mul_right _ hm
  refine ⟨by rw [List.length_take, h.1]; omega, ?_⟩
  rcases h.2 with ⟨a', hv, rfl⟩ | ⟨g, cap', cur, hv, hgg, hn, hc, hm', hcs, ht⟩
  · simp at hv
    obtain ⟨rfl, rfl⟩ := hv
    obtain rfl : m = 0 := by omega
    exact .inl ⟨_, rfl, rfl⟩
  · simp at hv
    obtain ⟨rfl, rfl⟩ := hv
    refine .inr ⟨g, cap, cur, rfl, hgg, by omega, hc, hm', hcs, ?_⟩
    rw [← ht, List.take_take]
    congr 1
    omega

section
variable {P : Program}
/-- append, whatever is appended. -/
theorem own_append {t tx ty : TypeId} {i : TypeInfo} {z x : Value} {m bytes : Nat} {news : List Value} (ht : P.underlying t = some (.slice e)) (hi : P.info? e = some i) (hz : i.zero = some z)
    (hsize : i.size = size) (hby : i.bytes = bytes) (hzs : z.cells.size = size) (h : Own w e size v n xs) (hs : Src P size tx x m news w) (h63 : n + m ≤ maxLen) (hbytes : (n + m) * bytes ≤ 140737488355328) :
    ∃ v' w', (Builtin.append_ #[t, tx] ty #[v, x]).run P w = .ok v' w' ∧ Own w' e size v' (n + m) (xs ++ news) ∧ w.grownBy w' (blk v) ∧ (blk v' = none ∨ blk v' = blk v ∨ blk v' = some w.heap.size) := by
  subst hsize
  subst hby
  have hsmall : n + m ≤ 9223372036854775807 := by simp only [maxLen] at h63; omega
  have hlen : (xs ++ news).length = (n + m) * i.size := by rw [List.length_append, h.1, hs.newsLen, Nat.add_mul]
  have grown : ∀ (old : Nat), old < n + m → ∀ (row : Option Nat),
      Own (w.drew.alloc (.cells ((xs ++ news).toArray ++ Builtin.zeroCells z.cells (grownCap w (n + m) old e - (n + m))) e)) e i.size (.slice (some ⟨w.heap.size, 0, none⟩) (n + m) (grownCap w (n + m) old e)) (n + m) (xs ++ news) ∧
      w.grownBy (w.drew.alloc (.cells ((xs ++ news).toArray ++ Builtin.zeroCells z.cells (grownCap w (n + m) old e - (n + m))) e)) row ∧ blk (.slice (some ⟨w.heap.size, 0, none⟩) (n + m) (grownCap w (n + m) old e)) = some w.heap.size := by
    intro old ho row
    have hge := grownCap_ge w (n + m) old e
    have hcm : grownCap w (n + m) old e ≤ maxLen := grownCap_le_maxLen w (n + m) old e h63
    refine ⟨⟨hlen, .inr ⟨w.heap.size, _, _, rfl, heap_alloc_new w.drew _, hge, by omega, hcm, ?_, ?_⟩⟩, ⟨rfl, rfl, rfl, by simp, fun k hk _ => Below.heap_alloc w.drew _ k hk⟩, blk_pos (by omega)⟩
    · simp only [Array.size_append, List.size_toArray, size_zeroCells, hzs, hlen, ← Nat.add_mul]
      congr 1
      omega
    · simp only [Array.toList_append]
      rw [← hlen]
      exact List.take_left
  rcases h.2 with ⟨a, rfl, rfl⟩ | ⟨g, cap, cur, rfl, hg, hnc, hc0, hcm, hcs, htake⟩
  · have hx : xs = [] := List.eq_nil_of_length_eq_zero (by simpa using h.1)
    subst hx
    by_cases hm : m = 0
    · subst hm
      have hn : news = [] := List.eq_nil_of_length_eq_zero (by simpa using hs.newsLen)
      subst hn
      refine ⟨.slice a 0 0, w, ?_, ⟨by simp, .inl ⟨a, rfl, rfl⟩⟩, ⟨rfl, rfl, rfl, Nat.le_refl _, fun _ _ _ => rfl⟩, .inl (blk_zero _ _)⟩
      rcases hs.kind with ⟨e', hk⟩ | hk <;> cases a <;> simp [Builtin.append_, run_underlying ht, run_underlying hk, sizeOf, typeInfo, hi, hs.len, hs.cells, storeCells]
    · have hold : (Builtin.firstCells i.size 0 (.slice a 0 0)).run P w.drew = .ok ([] : List Value).toArray w.drew := by
        cases a <;> simp [Builtin.firstCells, loadCells, loadCellsFrom]
      have hr := run_append_grow_src w t tx ty e i z ht hi hz a 0 0 [] hold x m news hs (by omega) (by omega) (growslice_fits (by omega) (by simpa using hbytes))
      have hgr := grown 0 (by omega) (blk (.slice a 0 0))
      simp only [Nat.zero_add, List.nil_append] at hgr hr ⊢
      exact ⟨_, _, hr, hgr.1, hgr.2.1, .inr (.inr hgr.2.2)⟩
  · by_cases hroom : n + m ≤ cap
    · have hfit : n * i.size + news.length ≤ cur.size := by rw [hs.newsLen, hcs, ← Nat.add_mul]; exact Nat.mul_le_mul_right _ hroom
      have hst := run_storeCells_at P g (n * i.size) e news 0 cur w hg (by simpa using hfit) hs.one
      simp only [Nat.add_zero] at hst
      refine ⟨.slice (some ⟨g, 0, none⟩) (n + m) cap, w.setRow g (cur.toList.take (n * i.size) ++ news ++ cur.toList.drop (n * i.size + news.length)).toArray, ?_, ⟨hlen, .inr ⟨g, cap, _, rfl, setRow_heap w g cur _ e _ hg, hroom, hc0, hcm, ?_, ?_⟩⟩,
        ⟨rfl, rfl, rfl, by simp, fun k _ hk => setRow_other w g k _ (fun e => hk (by rw [blk_pos hc0, e]))⟩, .inr (.inl (by rw [blk_pos hc0, blk_pos hc0]))⟩
      · rcases hs.kind with ⟨e', hk⟩ | hk <;> simp [Builtin.append_, run_underlying ht, run_underlying hk, sizeOf, typeInfo, hi, hs.len, hroom, hs.cells, Addr.add_lit, hst]
      · simp only [List.size_toArray, List.length_append, List.length_take, List.length_drop, Array.length_toList]
        omega
      · rw [htake, ← hlen]
        exact List.take_left
    · have hold : (Builtin.firstCells i.size n (.slice (some ⟨g, 0, none⟩) n cap)).run P w.drew = .ok xs.toArray w.drew := by
        refine run_firstCells_some w.drew i.size n ⟨g, 0, none⟩ n cap xs h.1 (fun j u hu => ?_)
        have hadd : (⟨g, 0, none⟩ : Addr).add j = ⟨g, j, none⟩ := by unfold Addr.add; split <;> simp_all
        rw [hadd]
        show w.cell? _ = _
        rw [cell_of_row w g j cur e (0, 0) hg]
        rw [← htake, List.getElem?_take] at hu
        split at hu
        · simpa using hu
        · cases hu
      have hr := run_append_grow_src w t tx ty e i z ht hi hz (some ⟨g, 0, none⟩) n cap xs hold x m news hs (by omega) (by omega) (growslice_fits (by omega) hbytes)
      have hgr := grown cap (by omega) (blk (.slice (some ⟨g, 0, none⟩) n cap))
      exact ⟨_, _, hr, hgr.1, hgr.2.1, .inr (.inr hgr.2.2)⟩

end
end

/-- The slice v has the elements l, at the head of a block of its own if it has room for any. -/
def OwnI (w : World) (v : Value) (l : List Int) : Prop := Own w 3 1 v l.length (l.map (Value.int .i64 ·))
theorem map_getD (l : List Int) (i : Nat) (h : i < l.length) : (l.map (Value.int .i64 ·))[i]? = some (.int .i64 (l.getD i 0)) := by
  rw [List.getElem?_map, List.getD_eq_getElem?_getD, List.getElem?_eq_getElem h]; rfl
theorem OwnI.ints {w : World} {v : Value} {l : List Int} (h : OwnI w v l) (hl : l.length ≤ 1000000000) : Ints w v l := by
  obtain ⟨a, cap, rfl, h1, h2⟩ := h.shape
  refine ⟨a, cap, rfl, h1, hl, ?_⟩
  rcases h.2 with ⟨a', hv, hn⟩ | ⟨g, cap', cur, hv, hg, hnc, hc0, hcm, hcs, ht⟩
  · exact .inl (List.eq_nil_of_length_eq_zero hn)
  · simp at hv
    obtain ⟨rfl, rfl⟩ := hv
    refine .inr ⟨g, 0, rfl, (Array.getElem?_eq_some_iff.1 hg).1, fun i hi => ?_⟩
    obtain ⟨g', e, hc⟩ := h.cell (map_getD l i hi)
    cases e
    rw [Nat.zero_add]; exact hc
theorem OwnI.nil (w : World) : OwnI w (.slice none 0 0) [] := Own.nil w 3 1
/-- append(v, x). -/
theorem OwnI.snoc {w : World} {v : Value} {l : List Int} (h : OwnI w v l) (hl : l.length ≤ 100000000) (x : Int) :
    ∃ a c w', (∀ ty, (Builtin.append_ #[30, 30] ty #[v, .slice (some ⟨w.heap.size, 0, none⟩) 1 1]).run Try.prog (w.alloc (.cells #[.int .i64 x] 3)) = .ok (.slice a (l.length + 1) c) w') ∧ OwnI w' (.slice a (l.length + 1) c) (l ++ [x]) ∧
      (w.alloc (.cells #[.int .i64 x] 3)).grownBy w' (blk v) ∧ (blk (.slice a (l.length + 1) c) = none ∨ blk (.slice a (l.length + 1) c) = blk v ∨ blk (.slice a (l.length + 1) c) = some (w.heap.size + 1)) := by
  obtain ⟨i0, hi, hz0, hz1, hz2⟩ := info_parts infoI
  have hown : Own (w.alloc (.cells #[.int .i64 x] 3)) 3 1 v l.length (l.map (Value.int .i64 ·)) := Own.grown h (World.grownBy_alloc w _ none) (by cases hb : blk v <;> simp)
  have hsrc : Src Try.prog 1 30 (.slice (some ⟨w.heap.size, 0, none⟩) 1 1) 1 [.int .i64 x] (w.alloc (.cells #[.int .i64 x] 3)) :=
    Src.ofSlice _ Try.underlying30 _ 1 1 [.int .i64 x] (by simp) (World.news_of_block (cs := #[.int .i64 x]) (t := 3) (fr := (0, 0)) (alloc_at w _)) (by simp [Value.oneCell'])
  have hrun := fun ty => own_append (P := Try.prog) (t := 30) (tx := 30) (ty := ty) Try.underlying30 hi hz0 hz1 hz2 rfl hown hsrc (by unfold maxLen; omega) (by omega)
  obtain ⟨v', w', hr, h1, h2, h3⟩ := hrun 0
  obtain ⟨a, c, rfl, _, _⟩ := h1.shape
  refine ⟨a, c, w', fun ty => ?_, by unfold OwnI; simpa using h1, h2, by simpa using h3⟩
  have : Builtin.append_ #[30, 30] ty #[v, .slice (some ⟨w.heap.size, 0, none⟩) 1 1] = Builtin.append_ #[30, 30] 0 #[v, .slice (some ⟨w.heap.size, 0, none⟩) 1 1] := rfl
  rw [this]; exact hr
end Go.Proofs.Ytmhjejnkphdjpaa.Bi

namespace Go.Proofs.Ytmhjejnkphdjpaa.Bi
open Go.RowKit

theorem mask20u (x : Nat) (h : x < 18446744073709551616) : bits .and .u64 (x : Int) 1048575 = ((x % 1048576 : Nat) : Int) := by
  have := bits_mask .u64 64 (by decide) (fun n h0 h1 => by simp [IntKind.wrap, IntKind.bits, IntKind.signed]; omega) 20 (by decide) (x : Int) (by omega) (by omega)
  have e : (2 : Int) ^ 20 - 1 = 1048575 := by decide
  rw [e] at this
  rw [this]; omega
theorem cmpI_sign (n : Int) : cmpI n 0 = n.sign := by
  rcases sgn_is n with ⟨h, h'⟩ | ⟨h, h'⟩ | ⟨h, h'⟩
  · rw [h', cmpI_lt h]
  · rw [h', h, cmpI_eq]
  · rw [h', cmpI_gt h]
theorem blk_fresh {w : World} {v : Value} {l : List Int} (h : OwnI w v l) {B : Nat} (hb : ∀ b, blk v = some b → B ≤ b) : Fresh B v := by
  intro g hg a n c e h0
  subst e
  obtain ⟨a', cap, hv, h1, h2⟩ := h.shape
  simp at hv
  obtain ⟨rfl, rfl, rfl⟩ := hv
  have : blk (.slice (some a) l.length c) = some a.block := by
    cases c with
    | zero => omega
    | succ c => rfl
  have := hb _ this
  omega
theorem digs_len4 {n : Nat} (h : n < 18446744073709551616) : (digs n).length ≤ 4 := digs_le (by simp [P]; omega)

/-- The results' cell of a function with one struct. -/
def Res (w : World) (W : World) : Prop := W.heap[w.heap.size]? = some (.cells #[.int .i64 0, .slice none 0 0] 32 (0, 0))
theorem Res.cells {w W : World} (h : Res w W) : W.cell? ⟨w.heap.size, 0, none⟩ = some (.int .i64 0) ∧ W.cell? ⟨w.heap.size, 1, none⟩ = some (.slice none 0 0) ∧ W.frozen? ⟨w.heap.size, 0, none⟩ = false ∧ W.frozen? ⟨w.heap.size, 1, none⟩ = false := by
  have h' : W.heap[w.heap.size]? = some (.cells #[.int .i64 0, .slice none 0 0] 32 (0, 0)) := h
  exact ⟨by rw [cell_of_row _ _ _ _ _ _ h']; rfl, by rw [cell_of_row _ _ _ _ _ _ h']; rfl, by simp [World.frozen?, h'], by simp [World.frozen?, h']⟩

/-- The loop's relation: what is read, and what is left. -/
structure OfR (w : World) (n : Int) (v : Value) (l : List Int) (R : Nat) (W : World) : Prop where
  own : OwnI W v l
  eq : digs n.natAbs = l ++ digs R
  below : RowKit.Below w.heap.size w W
  res : Res w W
  new : ∀ b, blk v = some b → w.heap.size + 1 ≤ b
  le : R < 18446744073709551616
theorem OfR.len {w : World} {n : Int} {v : Value} {l : List Int} {R : Nat} {W : World} (h : OfR w n v l R W) (hn : n.natAbs ≤ 9223372036854775808) : l.length ≤ 4 := by
  have h1 := digs_len4 (n := n.natAbs) (by omega)
  rw [h.eq, List.length_append] at h1; omega
theorem OfR.next {w : World} {n : Int} {v : Value} {l : List Int} {R : Nat} {W : World} (h : OfR w n v l R W) (hn : n.natAbs ≤ 9223372036854775808) (h0 : 0 < R) :
    ∃ a c w', (∀ ty, (Builtin.append_ #[30, 30] ty #[v, .slice (some ⟨W.heap.size, 0, none⟩) 1 1]).run Try.prog (W.alloc (.cells #[.int .i64 ((R % 1048576 : Nat) : Int)] 3)) = .ok (.slice a (l.length + 1) c) w') ∧ OfR w n (.slice a (l.length + 1) c) (l ++ [((R % 1048576 : Nat) : Int)]) (R / 1048576) w' := by
  have hl := h.len hn
  obtain ⟨a, c, w', h1, h2, h3, h4⟩ := h.own.snoc (by omega) ((R % 1048576 : Nat) : Int)
  have hz := h.below.size
  have hsz : w.heap.size < W.heap.size := (Array.getElem?_eq_some_iff.1 h.res).1
  refine ⟨a, c, w', h1, ⟨h2, ?_, ?_, ?_, ?_, by have := h.le; omega⟩⟩
  · rw [h.eq, digs_pos h0]; simp
  · refine ((h.below.alloc hz _).grown h3 (by simp; omega) (fun k hk => by have := h.new k hk; omega))
  · unfold Res
    rw [h3.block _ (by simp; omega) (fun e => by have := h.new _ e.symm; omega), Below.heap_alloc _ _ _ hsz]
    exact h.res
  · intro b hb
    rcases h4 with h5 | h5 | h5
    · rw [h5] at hb; cases hb
    · rw [h5] at hb; exact h.new b hb
    · rw [h5] at hb; cases hb; omega
theorem OfR.fin {w : World} {n : Int} {v : Value} {l : List Int} {W : World} (h : OfR w n v l 0 W) (hn : n.natAbs ≤ 9223372036854775808) (u u' : Value) :
    AnsB n w (.returned (.agg #[.int .i64 n.sign, v])) ((W.setCell ⟨w.heap.size, 0, none⟩ u).setCell ⟨w.heap.size, 1, none⟩ u') := by
  have hl := h.len hn
  have he := h.eq
  rw [digs_zero, List.append_nil] at he
  have hi := h.own.ints (by omega)
  have hf := blk_fresh h.own h.new
  have ho := hf w.heap.size (by omega)
  rw [← he] at hi
  exact ⟨v, rfl, (hi.set ho 0 _).set ho 1 _, (h.below.setCell (Nat.le_refl _) _).setCell (Nat.le_refl _) _, hf.mono (by omega)⟩

set_option maxHeartbeats 2000000 in
theorem of_any (n : Int) (h0 : -9223372036854775808 ≤ n) (h1 : n ≤ 9223372036854775807) (w : World) :
    Calls Try.prog 47 #[.int .i64 n] w (AnsB n w) := by
  have hR : OfR w n (.slice none 0 0) [] n.natAbs (w.alloc (.cells #[.int .i64 0, .slice none 0 0] 32)) :=
    ⟨OwnI.nil _, by simp, below_alloc _ _, alloc_at _ _, fun b hb => by simp [blk] at hb, by omega⟩
  have HR := Lib.hid hR
  have HN : Hid (n.natAbs ≤ 9223372036854775808) := by unfold Hid; omega
  have HC : Hid (cmpI n 0 = n.sign) := cmpI_sign n
  clear hR
  by_cases hneg : n < 0
  · obtain ⟨m, hm⟩ : ∃ m : Nat, n.natAbs = m := ⟨_, rfl⟩
    have hw1 : IntKind.u64.wrap (-IntKind.u64.wrap n) = (m : Int) := by simp [IntKind.wrap, IntKind.bits, IntKind.signed]; omega
    rw [hm] at HR
    clear hm
    go_enter Try.func47, Try.ntmps47
    go_wp2_with fail
    clear hw1
    go_loopw [3, 4] (fun r v wr => ∃ (R : Nat) (l : List Int), r = .int .u64 R ∧ OfR w n v l R wr) (fun r _ _ => (intOf r).toNat)
    case atStart => exact ⟨m, [], rfl, HR.out⟩
    case round =>
      obtain ⟨R, l, rfl, hO⟩ := hrel
      obtain ⟨a0, c0, rfl, _, _⟩ := hO.own.shape
      by_cases hR0 : R = 0
      · subst hR0
        have HO := Lib.hid hO
        obtain ⟨r0, r1, f0, f1⟩ := hO.res.cells
        clear hO
        go_wp2_with fail
        refine (cmp_any n 0 _).mono ?_
        rintro e w' ⟨rfl, rfl⟩
        rw [HC.out]
        go_wp2_with fail
        exact bodyPost_ret (v := .agg #[.int .i64 n.sign, .slice a0 l.length c0]) (by simp [results, Try.results47, go_sem, r0, r1]) rfl (HO.out.fin HN.out _ _)
      · have hpos : 0 < R := by omega
        obtain ⟨a, c, w', hrun, hO'⟩ := hO.next HN.out hpos
        have hle := hO.le
        have hmask := mask20u R hle
        have hlt : R % 1048576 < 1048576 := by omega
        obtain ⟨y, ey⟩ : ∃ y : Nat, R % 1048576 = y := ⟨_, rfl⟩
        rw [ey] at hmask hlt hrun
        have HO' := Lib.hid hO'
        have HEY := Lib.hid ey
        clear hO hO' ey hR0
        go_wp2_with (at_builtin; refine Lib.wpList_append_run _ rfl _ _ _ _ rfl _ _ rfl rfl _ _ (hrun _) ?_)
        go_roundw
        case rel => exact ⟨R / 1048576, _, by go_num, HO'.out⟩
        case measure => simp [intOf]; omega
  · obtain ⟨m, hm⟩ : ∃ m : Nat, n.natAbs = m := ⟨_, rfl⟩
    have hw1 : IntKind.u64.wrap n = (m : Int) := by simp [IntKind.wrap, IntKind.bits, IntKind.signed]; omega
    rw [hm] at HR
    clear hm
    go_enter Try.func47, Try.ntmps47
    go_wp2_with fail
    clear hw1
    go_loopw [3, 4] (fun r v wr => ∃ (R : Nat) (l : List Int), r = .int .u64 R ∧ OfR w n v l R wr) (fun r _ _ => (intOf r).toNat)
    case atStart => exact ⟨m, [], rfl, HR.out⟩
    case round =>
      obtain ⟨R, l, rfl, hO⟩ := hrel
      obtain ⟨a0, c0, rfl, _, _⟩ := hO.own.shape
      by_cases hR0 : R = 0
      · subst hR0
        have HO := Lib.hid hO
        obtain ⟨r0, r1, f0, f1⟩ := hO.res.cells
        clear hO
        go_wp2_with fail
        refine (cmp_any n 0 _).mono ?_
        rintro e w' ⟨rfl, rfl⟩
        rw [HC.out]
        go_wp2_with fail
        exact bodyPost_ret (v := .agg #[.int .i64 n.sign, .slice a0 l.length c0]) (by simp [results, Try.results47, go_sem, r0, r1]) rfl (HO.out.fin HN.out _ _)
      · have hpos : 0 < R := by omega
        obtain ⟨a, c, w', hrun, hO'⟩ := hO.next HN.out hpos
        have hle := hO.le
        have hmask := mask20u R hle
        have hlt : R % 1048576 < 1048576 := by omega
        obtain ⟨y, ey⟩ : ∃ y : Nat, R % 1048576 = y := ⟨_, rfl⟩
        rw [ey] at hmask hlt hrun
        have HO' := Lib.hid hO'
        have HEY := Lib.hid ey
        clear hO hO' ey hR0
        go_wp2_with (at_builtin; refine Lib.wpList_append_run _ rfl _ _ _ _ rfl _ _ rfl rfl _ _ (hrun _) ?_)
        go_roundw
        case rel => exact ⟨R / 1048576, _, by go_num, HO'.out⟩
        case measure => simp [intOf]; omega
end Go.Proofs.Ytmhjejnkphdjpaa.Bi

namespace Go.Proofs.Ytmhjejnkphdjpaa.Bi
open Go.RowKit

theorem Ints.drewN {w : World} {v : Value} {l : List Int} (h : Ints w v l) (n : Nat) : Ints (w.drewN n) v l := h
theorem equal_any (vx vy : Value) (x y : List Int) (w : World) (hx : Ints w vx x) (hy : Ints w vy y) :
    Calls Try.prog 78 #[vx, vy] w fun e w' => e = .returned (.bool (decide (x = y))) ∧ ∃ q, w' = w.drewN q := by
  obtain ⟨ax, capx, rfl, hx1, hx2, hx3⟩ := id hx
  obtain ⟨ay, capy, rfl, hy1, hy2, hy3⟩ := id hy
  by_cases hl : x.length = y.length
  · by_cases h0 : x.length = 0
    · obtain rfl : x = [] := List.eq_nil_of_length_eq_zero h0
      obtain rfl : y = [] := List.eq_nil_of_length_eq_zero (by omega)
      refine (Try.slices_Equal_int_empty ax ay capx 0 capy w (by omega)).mono ?_
      rintro e w' ⟨rfl, rfl⟩
      exact ⟨by simp, 0, rfl⟩
    · obtain ⟨b1, o1, rfl, _, hr1⟩ := hx3.resolve_left (fun e => by simp [e] at h0)
      obtain ⟨b2, o2, rfl, _, hr2⟩ := hy3.resolve_left (fun e => by simp [e] at hl; simp [hl] at h0)
      refine (Try.slices_Equal_int b1 o1 x.length capx b2 o2 y.length capy x y w (Nat.le_refl _) (Nat.le_refl _) (by omega) (by omega) hr1 hr2).mono ?_
      rintro e w' ⟨rfl, hw⟩
      refine ⟨?_, hw⟩
      rw [List.take_length, List.take_length]
      congr 2
      by_cases e : x = y <;> simp [e]
  · refine (Try.slices_Equal_int_lens ax ay x.length capx y.length capy w hl).mono ?_
    rintro e w' ⟨rfl, rfl⟩
    refine ⟨?_, 0, rfl⟩
    rw [show decide (x = y) = false by simp; intro e; rw [e] at hl; exact hl rfl]

theorem below_drewN' {w : World} (n : Nat) : RowKit.Below w.heap.size w (w.drewN n) := ⟨rfl, rfl, rfl, Nat.le_refl _, fun _ _ => rfl⟩
theorem two_alloc (w : World) (A B : Obj) : RowKit.Below w.heap.size w ((w.alloc A).alloc B) := (below_alloc w A).trans ((below_alloc _ B).mono (by simp))

set_option maxHeartbeats 1000000 in
theorem same_any (va vb : Value) (s t : Int) (l m : List Int) (w : World) (ha : Arg w va s l) (hb : Arg w vb t m) :
    Calls Try.prog 53 #[va, vb] w fun e w' => e = .returned (.bool (decide (s = t ∧ l = m))) ∧ RowKit.Below w.heap.size w w' := by
  obtain ⟨va', rfl, hia⟩ := id ha
  obtain ⟨vb', rfl, hib⟩ := id hb
  obtain ⟨aa, ca, rfl, _⟩ := hia.open
  obtain ⟨ab, cb, rfl, _⟩ := hib.open
  have he := fun W (hW : RowKit.Below w.heap.size w W) => equal_any _ _ l m W (hia.later hW) (hib.later hW)
  obtain ⟨na, ena⟩ : ∃ n, l.length = n := ⟨_, rfl⟩
  obtain ⟨nb, enb⟩ : ∃ n, m.length = n := ⟨_, rfl⟩
  rw [ena, enb] at he
  rw [ena, enb]
  have HE := Lib.hid he
  by_cases hst : s = t
  · subst hst
    have hd : decide (s = s ∧ l = m) = decide (l = m) := by simp
    rw [hd]
    clear ha hb hia hib he ena enb hd
    go_enter Try.func53, Try.ntmps53
    go_wp2_with fail
    refine (HE.out _ (two_alloc _ _ _)).mono ?_
    rintro e w' ⟨rfl, q, rfl⟩
    obtain ⟨bb, ebb⟩ : ∃ bb, decide (l = m) = bb := ⟨_, rfl⟩
    rw [ebb]
    cases bb <;>
    · go_wp2_with fail
      go_ret
      rw [ebb]
      exact ⟨rfl, (two_alloc _ _ _).trans ((below_drewN' q).mono (by simp; omega))⟩
  · have hd : decide (s = t ∧ l = m) = false := by simp [hst]
    rw [hd]
    have hq : (s == t) = false := by simpa using hst
    clear ha hb hia hib he ena enb hd hst
    go_enter Try.func53, Try.ntmps53
    go_wp2_with fail
    go_ret
    exact ⟨rfl, two_alloc _ _ _⟩

/-- The boxes of two arguments. -/
structure Bo (w : World) (sa : Int) (va : Value) (sb : Int) (vb : Value) (W : World) : Prop where
  cells : W.cell? ⟨w.heap.size, 0, none⟩ = some (.int .i64 sa) ∧ W.cell? ⟨w.heap.size, 1, none⟩ = some va ∧ W.cell? ⟨w.heap.size + 1, 0, none⟩ = some (.int .i64 sb) ∧ W.cell? ⟨w.heap.size + 1, 1, none⟩ = some vb
  below : RowKit.Below w.heap.size w W
  size : w.heap.size + 1 < W.heap.size
theorem Bo.start (w : World) (sa : Int) (va : Value) (sb : Int) (vb : Value) : Bo w sa va sb vb ((w.alloc (.cells #[.int .i64 sa, va] 32)).alloc (.cells #[.int .i64 sb, vb] 32)) := by
  have h := Bx.start w sa va sb vb
  have hc : ∀ b o, b < w.heap.size + 1 + 1 → (((w.alloc (.cells #[.int .i64 sa, va] 32)).alloc (.cells #[.int .i64 sb, vb] 32)).alloc (.cells #[.int .i64 0, .slice none 0 0] 32)).cell? ⟨b, o, none⟩ = ((w.alloc (.cells #[.int .i64 sa, va] 32)).alloc (.cells #[.int .i64 sb, vb] 32)).cell? ⟨b, o, none⟩ :=
    fun b o hb => World.cell?_of_block (w := (w.alloc (.cells #[.int .i64 sa, va] 32)).alloc (.cells #[.int .i64 sb, vb] 32)) (Below.heap_alloc _ _ _ (by simpa using hb))
  refine ⟨⟨(hc _ _ (by omega)).symm.trans h.c00, (hc _ _ (by omega)).symm.trans h.c01, (hc _ _ (by omega)).symm.trans h.c10, (hc _ _ (by omega)).symm.trans h.c11⟩, two_alloc _ _ _, by simp⟩
theorem Bo.later {w W W' : World} {sa sb : Int} {va vb : Value} (h : Bo w sa va sb vb W) (hb : RowKit.Below W.heap.size W W') : Bo w sa va sb vb W' := by
  have hz := h.size
  obtain ⟨c0, c1, c2, c3⟩ := h.cells
  have hc : ∀ b o, b < W.heap.size → W'.cell? ⟨b, o, none⟩ = W.cell? ⟨b, o, none⟩ := fun b o hb' => hb.cell (p := ⟨b, o, none⟩) hb'
  refine ⟨⟨(hc _ _ (by omega)).trans c0, (hc _ _ (by omega)).trans c1, (hc _ _ (by omega)).trans c2, (hc _ _ (by omega)).trans c3⟩, h.below.trans (hb.mono ?_), Nat.lt_of_lt_of_le hz hb.size⟩
  have := h.below.size; omega

theorem cmp_signs {a b : Int} (h : a.sign = b.sign) : a.sign * cmpI a.natAbs b.natAbs = cmpI a b := by
  rcases sgn_is a with ⟨k, k'⟩ | ⟨k, k'⟩ | ⟨k, k'⟩ <;> rcases sgn_is b with ⟨l, l'⟩ | ⟨l, l'⟩ | ⟨l, l'⟩ <;> rw [k', l'] at h <;> first | omega | skip
  · rw [k']; unfold cmpI; split <;> split <;> (try split) <;> (try split) <;> omega
  · rw [k, l]; rfl
  · rw [k']; unfold cmpI; split <;> split <;> (try split) <;> (try split) <;> omega
theorem cmp_signs' {a b : Int} (h : a.sign ≠ b.sign) : cmpI a.sign b.sign = cmpI a b := by
  rcases sgn_is a with ⟨k, k'⟩ | ⟨k, k'⟩ | ⟨k, k'⟩ <;> rcases sgn_is b with ⟨l, l'⟩ | ⟨l, l'⟩ | ⟨l, l'⟩ <;> rw [k', l'] at h ⊢ <;> first | omega | (unfold cmpI; split <;> (try split) <;> (try split) <;> (try split) <;> omega)
theorem cmpI_bd (a b : Int) : -1 ≤ cmpI a b ∧ cmpI a b ≤ 1 := by unfold cmpI; split <;> (try split) <;> omega

set_option maxHeartbeats 2000000 in
theorem compareB_ok (va vb : Value) (a b : Int) (w : World) (ha : IsB w va a) (hb : IsB w vb b) :
    Calls Try.prog 86 #[va, vb] w fun e w' => e = .returned (.int .i64 (cmpI a b)) ∧ RowKit.Below w.heap.size w w' := by
  obtain ⟨sa, rfl, hia⟩ := id ha
  obtain ⟨sb, rfl, hib⟩ := id hb
  have HA := Lib.hid ha
  have HB := Lib.hid hb
  have HIA := Lib.hid hia
  have HIB := Lib.hid hib
  obtain ⟨aa, ca, rfl, _⟩ := hia.open
  obtain ⟨ab, cb, rfl, _⟩ := hib.open
  obtain ⟨na, ena⟩ : ∃ n, (digs a.natAbs).length = n := ⟨_, rfl⟩
  obtain ⟨nb, enb⟩ : ∃ n, (digs b.natAbs).length = n := ⟨_, rfl⟩
  rw [ena] at HA HIA ⊢
  rw [enb] at HB HIB ⊢
  have hx := Bo.start w a.sign (.slice aa na ca) b.sign (.slice ab nb cb)
  have HX0 := Lib.hid hx
  obtain ⟨r, er⟩ : ∃ r, cmpI a b = r := ⟨_, rfl⟩
  have HS1 : Hid (a.sign = b.sign → a.sign * cmpI a.natAbs b.natAbs = r) := by rw [← er]; exact cmp_signs
  have HS2 : Hid (a.sign ≠ b.sign → cmpI a.sign b.sign = r) := by rw [← er]; exact cmp_signs'
  have hr1 : -1 ≤ r ∧ r ≤ 1 := by rw [← er]; exact cmpI_bd a b
  rw [er]
  obtain ⟨x, ex⟩ : ∃ x, a.sign = x := ⟨_, rfl⟩
  obtain ⟨y, ey⟩ : ∃ y, b.sign = y := ⟨_, rfl⟩
  rw [ex] at HS1 HS2 HX0 ⊢
  rw [ey] at HS1 HS2 HX0 ⊢
  rw [ex] at HA
  rw [ey] at HB
  clear ha hb hia hib hx ena enb er ex ey
  by_cases hxy : x = y
  · subst hxy
    have HW : Hid (x * cmpI a.natAbs b.natAbs = r) := HS1.out rfl
    clear HS1 HS2
    go_enter Try.func86, Try.ntmps86
    go_wp2_with fail
    refine (isb_any (HA.out.later HX0.out.below)).mono ?_
    rintro e w1 ⟨rfl, hb1⟩
    have HX1 := Lib.hid (HX0.out.later hb1)
    obtain ⟨c00, c01, c10, c11⟩ := HX1.out.cells
    clear hb1
    go_wp2_with fail
    refine (isb_any (HB.out.later HX1.out.below)).mono ?_
    rintro e w2 ⟨rfl, hb2⟩
    have HX2 := Lib.hid (HX1.out.later hb2)
    obtain ⟨d00, d01, d10, d11⟩ := HX2.out.cells
    clear hb2 c00 c01 c10 c11
    have hw : IntKind.i64.wrap (x * cmpI a.natAbs b.natAbs) = r := by rw [HW.out]; exact IntWalk.i64_in _ (by omega)
    have HI1 := Lib.hid (HIA.out.later HX2.out.below)
    have HI2 := Lib.hid (HIB.out.later HX2.out.below)
    go_wp2_with fail
    go_quiet ((go_at_call 73; exact Calls.quiet_of (compare_any _ _ a.natAbs b.natAbs _ (HI1.out.drewN _) (HI2.out.drewN _))))
    go_wp2_with fail
    go_ret
    exact ⟨rfl, HX2.out.below.trans ((below_drewN' nq).mono HX2.out.below.size)⟩
  · have hq : (x != y) = true := by simpa using hxy
    have HC := Lib.hid (HS2.out hxy)
    clear hxy
    go_enter Try.func86, Try.ntmps86
    go_wp2_with fail
    refine (isb_any (HA.out.later HX0.out.below)).mono ?_
    rintro e w1 ⟨rfl, hb1⟩
    have HX1 := Lib.hid (HX0.out.later hb1)
    obtain ⟨c00, c01, c10, c11⟩ := HX1.out.cells
    clear hb1
    go_wp2_with fail
    refine (isb_any (HB.out.later HX1.out.below)).mono ?_
    rintro e w2 ⟨rfl, hb2⟩
    have HX2 := Lib.hid (HX1.out.later hb2)
    obtain ⟨d00, d01, d10, d11⟩ := HX2.out.cells
    clear hb2 c00 c01 c10 c11
    go_wp2_with fail
    refine (cmp_any x y _).mono ?_
    rintro e w' ⟨rfl, rfl⟩
    rw [HC.out]
    go_wp2_with fail
    go_ret
    exact ⟨rfl, HX2.out.below⟩

end Go.Proofs.Ytmhjejnkphdjpaa.Bi
