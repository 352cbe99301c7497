/- The contracts of slices.Clone at []int, and Neg. The contracts of cut, extend, number. -/
import Derived.Test.YtmhjejnkphdjpaaPB6
import Derived.Laws.Cover3
set_option maxRecDepth 100000
namespace Go.Proofs.Ytmhjejnkphdjpaa.Bi
open Go.RowKit

theorem eqNilS {P : Program} (t e : TypeId) (a : Option Addr) (l c : Nat) (h : P.underlying t = some (.slice e)) (w : World) : (binOp .eql t (.slice a l c) (.slice none 0 0)).run P w = .ok (.bool a.isNone) w := by
  simp only [binOp]
  simp [run_equal_slice_nil w t e a l c h]

theorem clone43 (a : Option Addr) (n c : Nat) (xs : List Value) (w : World) (hn : n ≤ 1000000000) (ha : a = none → n = 0) (hs : Src Try.prog 1 30 (.slice a n c) n xs (w.alloc (.cells #[] 3))) :
    Calls Try.prog 76 #[.slice a n c] w fun e w' => ∃ v', e = .returned v' ∧ Own w' 3 1 v' n xs ∧ w.grownBy w' none ∧ ∀ g, blk v' = some g → w.heap.size ≤ g := by
  obtain ⟨i0, hi, hz0, hz1, hz2⟩ := info_parts infoI
  cases a with
  | none =>
    obtain rfl := ha rfl
    obtain rfl : xs = [] := List.eq_nil_of_length_eq_zero (by simpa using hs.newsLen)
    clear hs ha
    have hq := eqNilS (P := Try.prog) 30 3 none 0 c Try.underlying30
    go_enter Try.func76, Try.ntmps76
    go_wp2
    go_ret
    exact ⟨_, rfl, Own.nil _ _ _, ⟨rfl, rfl, rfl, Nat.le_refl _, fun _ _ _ => rfl⟩, fun g hg => by cases hg⟩
  | some a =>
    clear ha
    have hown : Own (w.alloc (.cells #[] 3)) 3 1 (.slice (some ⟨w.heap.size, 0, none⟩) 0 0) 0 [] := ⟨by simp, .inl ⟨_, rfl, rfl⟩⟩
    obtain ⟨v', w', hrun, hown', hgr, hbl⟩ := own_append (P := Try.prog) (t := 30) (tx := 30) (ty := 30) Try.underlying30 hi hz0 hz1 hz2 rfl hown hs (by unfold maxLen; omega) (by omega)
    simp only [Nat.zero_add, List.nil_append] at hown'
    have hfin : w.grownBy w' none ∧ ∀ g, blk v' = some g → w.heap.size ≤ g := by
      refine ⟨(World.grownBy_alloc w _ none).trans hgr, fun g hg => ?_⟩
      rcases hbl with h | h | h
      · rw [h] at hg; cases hg
      · rw [h] at hg; cases hg
      · rw [h] at hg; cases hg; simp
    have HF := Lib.hid hfin
    have HO := Lib.hid hown'
    clear hs hown hown' hgr hbl hfin
    have hq := eqNilS (P := Try.prog) 30 3 (some a) n c Try.underlying30
    go_enter Try.func76, Try.ntmps76
    go_wp2_with (at_builtin; refine Lib.wpList_append_run _ rfl _ _ _ _ rfl _ _ rfl rfl _ _ hrun ?_)
    go_ret
    exact ⟨_, rfl, HO.out, HF.out⟩


theorem src_of {w : World} {a : Option Addr} {cap : Nat} {l : List Int} (h : Ints w (.slice a l.length cap) l) (ha : a = none → l.length = 0) : Src Try.prog 1 30 (.slice a l.length cap) l.length (l.map (Value.int .i64 ·)) w := by
  obtain ⟨_, h1, h2, h3⟩ := h.shape
  cases a with
  | none =>
    obtain rfl : l = [] := List.eq_nil_of_length_eq_zero (ha rfl)
    exact Src.ofNil w Try.underlying30 cap
  | some a =>
    refine Src.ofSlice w Try.underlying30 _ _ cap _ (by simp) (fun j u hu => ?_) (fun u hu => by obtain ⟨d, _, rfl⟩ := List.mem_map.1 hu; rfl)
    have hj : j < l.length := by simpa using (List.getElem?_eq_some_iff.1 hu).1
    obtain ⟨b, o, e, _, hr⟩ := h3 (by omega)
    cases e
    have hadd : (⟨b, o, none⟩ : Addr).add j = ⟨b, o + j, none⟩ := by unfold Addr.add; split <;> simp_all
    rw [hadd, hr j hj, ← map_getD l j hj, hu]
/-- A call that returns a copy in a block of its own. -/
def Copy (l : List Int) (w : World) (e : Ending) (w' : World) : Prop := ∃ v', e = .returned v' ∧ OwnI w' v' l ∧ RowKit.Below w.heap.size w w' ∧ ∀ b, blk v' = some b → w.heap.size ≤ b
theorem clone_any (v : Value) (l : List Int) (w : World) (h : Ints w v l) (hl : l.length ≤ 100000000) : Calls Try.prog 76 #[v] w (Copy l w) := by
  obtain ⟨a, cap, rfl, h1, h2, h3⟩ := id h
  have ha : a = none → l.length = 0 := by
    intro e
    rcases h3 with rfl | ⟨b, o, e', _⟩
    · rfl
    · rw [e] at e'; cases e'
  refine (clone43 a l.length cap _ w (by omega) ha (src_of (h.later (below_alloc w _)) ha)).mono ?_
  rintro e w' ⟨v', rfl, ho, hg, hb⟩
  exact ⟨v', rfl, ho, ⟨hg.os, hg.tape, hg.output, hg.size, fun k hk => hg.block k hk (by simp)⟩, hb⟩

/-- One box and a cell for the result lie behind w. -/
structure B1 (w : World) (sa : Int) (va : Value) (W : World) : Prop where
  cells : W.cell? ⟨w.heap.size, 0, none⟩ = some (.int .i64 sa) ∧ W.cell? ⟨w.heap.size, 1, none⟩ = some va
  res : W.heap[w.heap.size + 1]? = some (.cells #[.int .i64 0, .slice none 0 0] 32 (0, 0))
  below : RowKit.Below w.heap.size w W
theorem B1.size {w W : World} {sa : Int} {va : Value} (h : B1 w sa va W) : w.heap.size + 1 < W.heap.size := (Array.getElem?_eq_some_iff.1 h.res).1
theorem B1.start (w : World) (sa : Int) (va : Value) : B1 w sa va ((w.alloc (.cells #[.int .i64 sa, va] 32)).alloc (.cells #[.int .i64 0, .slice none 0 0] 32)) := by
  have h := Bo.start w sa va 0 (.slice none 0 0)
  refine ⟨⟨h.cells.1, h.cells.2.1⟩, ?_, h.below⟩
  have := alloc_at (w.alloc (.cells #[.int .i64 sa, va] 32)) (.cells #[.int .i64 0, .slice none 0 0] 32)
  simpa using this
theorem B1.later {w W W' : World} {sa : Int} {va : Value} (h : B1 w sa va W) (hb : RowKit.Below W.heap.size W W') : B1 w sa va W' := by
  have hz := h.size
  obtain ⟨c0, c1⟩ := h.cells
  have hc : ∀ b o, b < W.heap.size → W'.cell? ⟨b, o, none⟩ = W.cell? ⟨b, o, none⟩ := fun b o hb' => hb.cell (p := ⟨b, o, none⟩) hb'
  refine ⟨⟨(hc _ _ (by omega)).trans c0, (hc _ _ (by omega)).trans c1⟩, (hb.block _ hz).trans h.res, h.below.trans (hb.mono ?_)⟩
  have := h.below.size; omega
theorem B1.heap {w W W' : World} {sa : Int} {va : Value} (h : B1 w sa va W) (hb : W'.heap = W.heap) (h1 : W'.os = W.os) (h2 : W'.tape = W.tape) (h3 : W'.output = W.output) : B1 w sa va W' :=
  h.later ⟨h1, h2, h3, by rw [hb]; exact Nat.le_refl _, fun k _ => by rw [hb]⟩
theorem B1.rcells {w W : World} {sa : Int} {va : Value} (h : B1 w sa va W) : W.cell? ⟨w.heap.size + 1, 0, none⟩ = some (.int .i64 0) ∧ W.cell? ⟨w.heap.size + 1, 1, none⟩ = some (.slice none 0 0) ∧ W.frozen? ⟨w.heap.size + 1, 0, none⟩ = false ∧ W.frozen? ⟨w.heap.size + 1, 1, none⟩ = false :=
  ⟨by rw [cell_of_row _ _ _ _ _ _ h.res]; rfl, by rw [cell_of_row _ _ _ _ _ _ h.res]; rfl, by simp [World.frozen?, h.res], by simp [World.frozen?, h.res]⟩
theorem B1.stay {w W : World} {sa : Int} {va : Value} (h : B1 w sa va W) (u v : Value) :
    ((W.setCell ⟨w.heap.size + 1, 0, none⟩ u).setCell ⟨w.heap.size + 1, 1, none⟩ v).cell? ⟨w.heap.size, 0, none⟩ = some (.int .i64 sa) ∧ ((W.setCell ⟨w.heap.size + 1, 0, none⟩ u).setCell ⟨w.heap.size + 1, 1, none⟩ v).cell? ⟨w.heap.size, 1, none⟩ = some va :=
  ⟨(World.cell?_of_block (w := W) (set2 _ _ _ _ _ (by simp))).trans h.cells.1, (World.cell?_of_block (w := W) (set2 _ _ _ _ _ (by simp))).trans h.cells.2⟩

set_option maxHeartbeats 1000000 in
theorem neg_ok (va : Value) (a : Int) (w : World) (ha : IsB w va a) (hl : (digs a.natAbs).length ≤ 100000000) :
    Calls Try.prog 54 #[va] w (AnsB (-a) w) := by
  obtain ⟨va', rfl, hia⟩ := id ha
  obtain ⟨aa, ca, rfl, _⟩ := hia.open
  obtain ⟨na, ena⟩ : ∃ n, (digs a.natAbs).length = n := ⟨_, rfl⟩
  rw [ena] at ha hia hl ⊢
  obtain ⟨x, ex⟩ : ∃ x, a.sign = x := ⟨_, rfl⟩
  have hxb : -1 ≤ x ∧ x ≤ 1 := by rw [← ex]; exact sgn_bd a
  rw [ex] at ha ⊢
  have HA := Lib.hid ha
  have HIA := Lib.hid hia
  have HE := Lib.hid ex
  have HLN : Hid ((digs a.natAbs).length ≤ 100000000) := by unfold Hid; omega
  have hx := B1.start w x (.slice aa na ca)
  have HX0 := Lib.hid hx
  clear ha hia hx ena ex
  go_enter Try.func54, Try.ntmps54
  go_wp2_with fail
  refine (isb_any (HA.out.later HX0.out.below)).mono ?_
  rintro e w1 ⟨rfl, hb1⟩
  have HX1 := Lib.hid (HX0.out.later hb1)
  clear hb1
  obtain ⟨q0, q1⟩ := HX1.out.cells
  go_wp2_with fail
  have hw : IntKind.i64.wrap (-x) = -x := IntWalk.i64_in _ (by omega)
  have HXD := Lib.hid (HX1.out.heap (W' := w1.drew) rfl rfl rfl rfl)
  have e2 := HXD.out.cells
  clear q0 q1
  go_region_held3 (fun W => W.cell? ⟨w.heap.size, 0, none⟩ = some (.int .i64 x) ∧ W.cell? ⟨w.heap.size, 1, none⟩ = some (.slice aa na ca))
    (first | (with_reducible exact e2) | (with_reducible exact x3) | (with_reducible exact HX3.out.stay _ _))
    (first
      | (go_at_call 76; (with_reducible refine (clone_any _ _ _ ?_ HLN.out).mono ?_); (focus exact HIA.out.later HXD.out.below); rintro e w3 ⟨v3, rfl, ho3, hb3, hk3⟩; obtain ⟨a3, c3, rfl, _, _⟩ := ho3.shape; have HX3 := Lib.hid (HXD.out.later hb3); have x3 := HX3.out.cells; have HO3 := Lib.hid ho3; have HK3 := Lib.hid hk3; clear ho3 hb3 hk3; obtain ⟨r0, r1, f0, f1⟩ := HX3.out.rcells))
  go_wp2_with fail
  have hf := blk_fresh HO3.out HK3.out
  have hoff := hf (w.heap.size + 1) HX1.out.size
  have hi := HO3.out.ints (by have := HLN.out; omega)
  have hs : (-a).sign = -x := by rw [Int.sign_neg, HE.out]
  refine bodyPost_ret (v := .agg #[.int .i64 (-x), .slice a3 (digs a.natAbs).length c3]) (by simp [results, Try.results54, go_sem, r0, r1]) rfl
    ⟨_, by rw [hs], ?_, (HX3.out.below.setCell (by simp) _).setCell (by simp) _, hf.mono (by have := HX1.out.size; simp; omega)⟩
  rw [Int.natAbs_neg]
  exact (hi.set hoff 0 _).set hoff 1 _
end Go.Proofs.Ytmhjejnkphdjpaa.Bi

namespace Go.Proofs.Ytmhjejnkphdjpaa.Bi
open Go.RowKit

theorem OwnI.set {w : World} {g cap : Nat} {l : List Int} (h : OwnI w (.slice (some ⟨g, 0, none⟩) l.length cap) l) {k : Nat} (hk : k < l.length) (x : Int) : OwnI (w.setCell ⟨g, k, none⟩ (.int .i64 x)) (.slice (some ⟨g, 0, none⟩) l.length cap) (l.set k x) := by
  rcases h.2 with ⟨a', hv, hn⟩ | ⟨g', cap', cur, hv, hg, hnc, hc0, hcm, hcs, ht⟩
  · omega
  · simp at hv
    obtain ⟨rfl, rfl⟩ := hv
    refine ⟨by simp, .inr ⟨g, cap, cur.setIfInBounds k (.int .i64 x), by rw [List.length_set], by simp [World.setCell, Array.getElem?_modify, hg], by rw [List.length_set]; exact hnc, hc0, hcm, by simpa using hcs, ?_⟩⟩
    rw [List.length_set, Array.toList_setIfInBounds, List.map_set, ← ht, List.take_set]
/-- The second loop's relation. -/
structure ExR (v : Value) (l : List Int) (n : Int) (w : World) (u : Value) (L : List Int) (C : Int) (W : World) : Prop where
  own : OwnI W u L
  dig : Dig L
  eq : val L + P L.length * C = val l * 1000000000000 + n
  c0 : 0 ≤ C
  grown : w.grownBy W (blk v)
  blk : ∀ b, blk u = some b → Bi.blk v = some b ∨ w.heap.size ≤ b
  len : ∃ t, L.length = l.length + t ∧ P t * C ≤ 1000000000000 ∧ t ≤ 2
theorem ExR.next {v : Value} {l : List Int} {n : Int} {w : World} {u : Value} {L : List Int} {C : Int} {W : World} (h : ExR v l n w u L C W) (hC : 0 < C) (hl : l.length ≤ 1000000) :
    ∃ a c w', (∀ ty, (Builtin.append_ #[30, 30] ty #[u, .slice (some ⟨W.heap.size, 0, none⟩) 1 1]).run Try.prog (W.alloc (.cells #[.int .i64 (C % 1048576)] 3)) = .ok (.slice a (L.length + 1) c) w') ∧ ExR v l n w (.slice a (L.length + 1) c) (L ++ [C % 1048576]) (C / 1048576) w' := by
  obtain ⟨t, ht, hP, ht2⟩ := h.len
  obtain ⟨a, c, w', h1, h2, h3, h4⟩ := h.own.snoc (by omega) (C % 1048576)
  have hz := h.grown.size
  have hPt : P t ≤ P t * C := by
    have := Int.mul_le_mul_of_nonneg_left (a := 1) (b := C) (c := P t) (by omega) (by have := P_pos t; omega)
    omega
  have ht1 : t ≤ 1 := by
    rcases Nat.lt_or_ge t 2 with h' | h'
    · omega
    · have := P_le h'
      simp [P] at this; omega
  refine ⟨a, c, w', h1, ⟨h2, h.dig.app (Dig.cons (by omega) (by omega) Dig.nil), ?_, by omega, ?_, ?_, t + 1, by simp; omega, ?_, by omega⟩⟩
  · rw [val_app, List.length_append, List.length_singleton, P_succ, ← h.eq]
    have e : C = C % 1048576 + 1048576 * (C / 1048576) := by omega
    simp only [val]
    generalize C / 1048576 = q at *
    generalize C % 1048576 = r at *
    rw [e]; grind
  · refine ⟨h3.os.trans h.grown.os, h3.tape.trans h.grown.tape, h3.output.trans h.grown.output, Nat.le_trans hz (Nat.le_trans (by simp) h3.size), fun k hk hne => ?_⟩
    rw [h3.block k (by simp; omega) (fun e => ?_), Below.heap_alloc _ _ _ (by omega), h.grown.block k hk hne]
    rcases h.blk k e.symm with h' | h'
    · exact hne h'.symm
    · omega
  · intro b hb
    rcases h4 with h5 | h5 | h5
    · rw [h5] at hb; cases hb
    · rw [h5] at hb; exact h.blk b hb
    · rw [h5] at hb; cases hb; right; omega
  · rw [P_succ]
    have hp := P_pos t
    have : P t * (1048576 * (C / 1048576)) ≤ P t * C := Int.mul_le_mul_of_nonneg_left (by omega) (by omega)
    have e : 1048576 * P t * (C / 1048576) = P t * (1048576 * (C / 1048576)) := by grind
    omega

end Go.Proofs.Ytmhjejnkphdjpaa.Bi
