/- The contracts of slices.Clone at []int, and Neg. The contract of Int. The contracts of cut, extend, number. -/
import Derived.Test.YtmhdhabgdlefjaaDoorM6
import Derived.Laws.Cover3
set_option maxRecDepth 100000
namespace Go.Proofs.YtmhdhabgdlefjaaDoor.Bi
open Go.RowKit

theorem eqNilS {P : Program} (t e : TypeId) (a : Option Addr) (l c : Nat) (h : P.underlying t = some (.slice e)) (w : World) : (binOp .eql t (.slice a l c) (.slice none 0 0)).run P w = .ok (.bool a.isNone) w := by
  simp only [binOp]
  simp [run_equal_slice_nil w t e a l c h]

theorem clone43 (a : Option Addr) (n c : Nat) (xs : List Value) (w : World) (hn : n ≤ 1000000000) (ha : a = none → n = 0) (hs : Src Tryd.prog 1 24 (.slice a n c) n xs (w.alloc (.cells #[] 3))) :
    Calls Tryd.prog 36 #[.slice a n c] w fun e w' => ∃ v', e = .returned v' ∧ Own w' 3 1 v' n xs ∧ w.grownBy w' none ∧ ∀ g, blk v' = some g → w.heap.size ≤ g := by
  obtain ⟨i0, hi, hz0, hz1, hz2⟩ := info_parts infoI
  cases a with
  | none =>
    obtain rfl := ha rfl
    obtain rfl : xs = [] := List.eq_nil_of_length_eq_zero (by simpa using hs.newsLen)
    clear hs ha
    have hq := eqNilS (P := Tryd.prog) 24 3 none 0 c Tryd.underlying24
    go_enter Tryd.func36, Tryd.ntmps36
    go_wp2
    go_ret
    exact ⟨_, rfl, Own.nil _ _ _, ⟨rfl, rfl, rfl, Nat.le_refl _, fun _ _ _ => rfl⟩, fun g hg => by cases hg⟩
  | some a =>
    clear ha
    have hown : Own (w.alloc (.cells #[] 3)) 3 1 (.slice (some ⟨w.heap.size, 0, none⟩) 0 0) 0 [] := ⟨by simp, .inl ⟨_, rfl, rfl⟩⟩
    obtain ⟨v', w', hrun, hown', hgr, hbl⟩ := own_append (P := Tryd.prog) (t := 24) (tx := 24) (ty := 24) Tryd.underlying24 hi hz0 hz1 hz2 rfl hown hs (by unfold maxLen; omega) (by omega)
    simp only [Nat.zero_add, List.nil_append] at hown'
    have hfin : w.grownBy w' none ∧ ∀ g, blk v' = some g → w.heap.size ≤ g := by
      refine ⟨(World.grownBy_alloc w _ none).trans hgr, fun g hg => ?_⟩
      rcases hbl with h | h | h
      · rw [h] at hg; cases hg
      · rw [h] at hg; cases hg
      · rw [h] at hg; cases hg; simp
    have HF := Lib.hid hfin
    have HO := Lib.hid hown'
    clear hs hown hown' hgr hbl hfin
    have hq := eqNilS (P := Tryd.prog) 24 3 (some a) n c Tryd.underlying24
    go_enter Tryd.func36, Tryd.ntmps36
    go_wp2_with (at_builtin; refine Lib.wpList_append_run _ rfl _ _ _ _ rfl _ _ rfl rfl _ _ hrun ?_)
    go_ret
    exact ⟨_, rfl, HO.out, HF.out⟩


theorem src_of {w : World} {a : Option Addr} {cap : Nat} {l : List Int} (h : Ints w (.slice a l.length cap) l) (ha : a = none → l.length = 0) : Src Tryd.prog 1 24 (.slice a l.length cap) l.length (l.map (Value.int .i64 ·)) w := by
  obtain ⟨_, h1, h2, h3⟩ := h.shape
  cases a with
  | none =>
    obtain rfl : l = [] := List.eq_nil_of_length_eq_zero (ha rfl)
    exact Src.ofNil w Tryd.underlying24 cap
  | some a =>
    refine Src.ofSlice w Tryd.underlying24 _ _ cap _ (by simp) (fun j u hu => ?_) (fun u hu => by obtain ⟨d, _, rfl⟩ := List.mem_map.1 hu; rfl)
    have hj : j < l.length := by simpa using (List.getElem?_eq_some_iff.1 hu).1
    obtain ⟨b, o, e, _, hr⟩ := h3 (by omega)
    cases e
    have hadd : (⟨b, o, none⟩ : Addr).add j = ⟨b, o + j, none⟩ := by unfold Addr.add; split <;> simp_all
    rw [hadd, hr j hj, ← map_getD l j hj, hu]
/-- A call that returns a copy in a block of its own. -/
def Copy (l : List Int) (w : World) (e : Ending) (w' : World) : Prop := ∃ v', e = .returned v' ∧ OwnI w' v' l ∧ RowKit.Below w.heap.size w w' ∧ ∀ b, blk v' = some b → w.heap.size ≤ b
theorem clone_any (v : Value) (l : List Int) (w : World) (h : Ints w v l) (hl : l.length ≤ 100000000) : Calls Tryd.prog 36 #[v] w (Copy l w) := by
  obtain ⟨a, cap, rfl, h1, h2, h3⟩ := id h
  have ha : a = none → l.length = 0 := by
    intro e
    rcases h3 with rfl | ⟨b, o, e', _⟩
    · rfl
    · rw [e] at e'; cases e'
  refine (clone43 a l.length cap _ w (by omega) ha (src_of (h.later (below_alloc w _)) ha)).mono ?_
  rintro e w' ⟨v', rfl, ho, hg, hb⟩
  exact ⟨v', rfl, ho, ⟨hg.os, hg.tape, hg.output, hg.size, fun k hk => hg.block k hk (by simp)⟩, hb⟩

/-- One box and a cell for the result lie behind w. -/
structure B1 (w : World) (sa : Int) (va : Value) (W : World) : Prop where
  cells : W.cell? ⟨w.heap.size, 0, none⟩ = some (.int .i64 sa) ∧ W.cell? ⟨w.heap.size, 1, none⟩ = some va
  res : W.heap[w.heap.size + 1]? = some (.cells #[.int .i64 0, .slice none 0 0] 26 (0, 0))
  below : RowKit.Below w.heap.size w W
theorem B1.size {w W : World} {sa : Int} {va : Value} (h : B1 w sa va W) : w.heap.size + 1 < W.heap.size := (Array.getElem?_eq_some_iff.1 h.res).1
theorem B1.start (w : World) (sa : Int) (va : Value) : B1 w sa va ((w.alloc (.cells #[.int .i64 sa, va] 26)).alloc (.cells #[.int .i64 0, .slice none 0 0] 26)) := by
  have h := Bo.start w sa va 0 (.slice none 0 0)
  refine ⟨⟨h.cells.1, h.cells.2.1⟩, ?_, h.below⟩
  have := alloc_at (w.alloc (.cells #[.int .i64 sa, va] 26)) (.cells #[.int .i64 0, .slice none 0 0] 26)
  simpa using this
theorem B1.later {w W W' : World} {sa : Int} {va : Value} (h : B1 w sa va W) (hb : RowKit.Below W.heap.size W W') : B1 w sa va W' := by
  have hz := h.size
  obtain ⟨c0, c1⟩ := h.cells
  have hc : ∀ b o, b < W.heap.size → W'.cell? ⟨b, o, none⟩ = W.cell? ⟨b, o, none⟩ := fun b o hb' => hb.cell (p := ⟨b, o, none⟩) hb'
  refine ⟨⟨(hc _ _ (by omega)).trans c0, (hc _ _ (by omega)).trans c1⟩, (hb.block _ hz).trans h.res, h.below.trans (hb.mono ?_)⟩
  have := h.below.size; omega
theorem B1.heap {w W W' : World} {sa : Int} {va : Value} (h : B1 w sa va W) (hb : W'.heap = W.heap) (h1 : W'.os = W.os) (h2 : W'.tape = W.tape) (h3 : W'.output = W.output) : B1 w sa va W' :=
  h.later ⟨h1, h2, h3, by rw [hb]; exact Nat.le_refl _, fun k _ => by rw [hb]⟩
theorem B1.rcells {w W : World} {sa : Int} {va : Value} (h : B1 w sa va W) : W.cell? ⟨w.heap.size + 1, 0, none⟩ = some (.int .i64 0) ∧ W.cell? ⟨w.heap.size + 1, 1, none⟩ = some (.slice none 0 0) ∧ W.frozen? ⟨w.heap.size + 1, 0, none⟩ = false ∧ W.frozen? ⟨w.heap.size + 1, 1, none⟩ = false :=
  ⟨by rw [cell_of_row _ _ _ _ _ _ h.res]; rfl, by rw [cell_of_row _ _ _ _ _ _ h.res]; rfl, by simp [World.frozen?, h.res], by simp [World.frozen?, h.res]⟩
theorem B1.stay {w W : World} {sa : Int} {va : Value} (h : B1 w sa va W) (u v : Value) :
    ((W.setCell ⟨w.heap.size + 1, 0, none⟩ u).setCell ⟨w.heap.size + 1, 1, none⟩ v).cell? ⟨w.heap.size, 0, none⟩ = some (.int .i64 sa) ∧ ((W.setCell ⟨w.heap.size + 1, 0, none⟩ u).setCell ⟨w.heap.size + 1, 1, none⟩ v).cell? ⟨w.heap.size, 1, none⟩ = some va :=
  ⟨(World.cell?_of_block (w := W) (set2 _ _ _ _ _ (by simp))).trans h.cells.1, (World.cell?_of_block (w := W) (set2 _ _ _ _ _ (by simp))).trans h.cells.2⟩

set_option maxHeartbeats 1000000 in
theorem neg_bad (va : Value) (sa : Int) (la : List Int) (w : World) (ha : Arg w va sa la) (hr : rightB sa la = false) :
    Calls Tryd.prog 62 #[va] w (AnsB 0 w) := by
  obtain ⟨va', rfl, hia⟩ := id ha
  obtain ⟨aa, ca, rfl, _⟩ := hia.open
  have HA := Lib.hid ha
  have HR := Lib.hid hr
  have hx := B1.start w sa (.slice aa la.length ca)
  have HX0 := Lib.hid hx
  clear ha hia hx hr
  go_enter Tryd.func62, Tryd.ntmps62
  go_wp2_with fail
  refine (right_any _ sa la _ (HA.out.later HX0.out.below)).mono ?_
  rintro e w1 ⟨rfl, hb1⟩
  rw [HR.out]
  have HX1 := Lib.hid (HX0.out.later hb1)
  obtain ⟨r0, r1, f0, f1⟩ := HX1.out.rcells
  clear hb1
  go_wp2_with fail
  exact bodyPost_ret (v := .agg #[.int .i64 0, .slice none 0 0]) (by simp [results, Tryd.results62, go_sem, r0, r1]) rfl
    ⟨_, rfl, by rw [show (0 : Int).natAbs = 0 from rfl, digs_zero]; exact Ints.nil _, (HX1.out.below.setCell (by simp) _).setCell (by simp) _, fun g _ => off_nil g 0 0⟩

set_option maxHeartbeats 1000000 in
theorem neg_ok (va : Value) (a : Int) (w : World) (ha : IsB w va a) (hl : (digs a.natAbs).length ≤ 100000000) :
    Calls Tryd.prog 62 #[va] w (AnsB (-a) w) := by
  obtain ⟨va', rfl, hia⟩ := id ha
  obtain ⟨aa, ca, rfl, _⟩ := hia.open
  obtain ⟨na, ena⟩ : ∃ n, (digs a.natAbs).length = n := ⟨_, rfl⟩
  rw [ena] at ha hia hl ⊢
  obtain ⟨x, ex⟩ : ∃ x, a.sign = x := ⟨_, rfl⟩
  have hxb : -1 ≤ x ∧ x ≤ 1 := by rw [← ex]; exact sgn_bd a
  rw [ex] at ha ⊢
  have HA := Lib.hid ha
  have HIA := Lib.hid hia
  have HE := Lib.hid ex
  have HLN : Hid ((digs a.natAbs).length ≤ 100000000) := by unfold Hid; omega
  have hx := B1.start w x (.slice aa na ca)
  have HX0 := Lib.hid hx
  clear ha hia hx ena ex
  go_enter Tryd.func62, Tryd.ntmps62
  go_wp2_with fail
  refine (isb_any (HA.out.later HX0.out.below)).mono ?_
  rintro e w1 ⟨rfl, hb1⟩
  have HX1 := Lib.hid (HX0.out.later hb1)
  clear hb1
  obtain ⟨q0, q1⟩ := HX1.out.cells
  go_wp2_with fail
  have hw : IntKind.i64.wrap (-x) = -x := IntWalk.i64_in _ (by omega)
  have HXD := Lib.hid (HX1.out.heap (W' := w1.drew) rfl rfl rfl rfl)
  have e2 := HXD.out.cells
  clear q0 q1
  go_region_held3 (fun W => W.cell? ⟨w.heap.size, 0, none⟩ = some (.int .i64 x) ∧ W.cell? ⟨w.heap.size, 1, none⟩ = some (.slice aa na ca))
    (first | (with_reducible exact e2) | (with_reducible exact x3) | (with_reducible exact HX3.out.stay _ _))
    (first
      | (go_at_call 36; (with_reducible refine (clone_any _ _ _ ?_ HLN.out).mono ?_); (focus exact HIA.out.later HXD.out.below); rintro e w3 ⟨v3, rfl, ho3, hb3, hk3⟩; obtain ⟨a3, c3, rfl, _, _⟩ := ho3.shape; have HX3 := Lib.hid (HXD.out.later hb3); have x3 := HX3.out.cells; have HO3 := Lib.hid ho3; have HK3 := Lib.hid hk3; clear ho3 hb3 hk3; obtain ⟨r0, r1, f0, f1⟩ := HX3.out.rcells))
  go_wp2_with fail
  have hf := blk_fresh HO3.out HK3.out
  have hoff := hf (w.heap.size + 1) HX1.out.size
  have hi := HO3.out.ints (by have := HLN.out; omega)
  have hs : (-a).sign = -x := by rw [Int.sign_neg, HE.out]
  refine bodyPost_ret (v := .agg #[.int .i64 (-x), .slice a3 (digs a.natAbs).length c3]) (by simp [results, Tryd.results62, go_sem, r0, r1]) rfl
    ⟨_, by rw [hs], ?_, (HX3.out.below.setCell (by simp) _).setCell (by simp) _, hf.mono (by have := HX1.out.size; simp; omega)⟩
  rw [Int.natAbs_neg]
  exact (hi.set hoff 0 _).set hoff 1 _
end Go.Proofs.YtmhdhabgdlefjaaDoor.Bi

namespace Go.Proofs.YtmhdhabgdlefjaaDoor.Bi
open Go.RowKit

def w64 (n : Int) : Int := IntKind.i64.wrap n
theorem w64_eq (n : Int) : w64 n = (n + 9223372036854775808) % 18446744073709551616 - 9223372036854775808 := IntKind.wrap_i64 n
theorem w64_bd (n : Int) : -9223372036854775808 ≤ w64 n ∧ w64 n ≤ 9223372036854775807 := by rw [w64_eq]; omega
theorem w64_in {n : Int} (h0 : -9223372036854775808 ≤ n) (h1 : n ≤ 9223372036854775807) : w64 n = n := by rw [w64_eq]; omega
theorem w64_mod (a b : Int) (h : a % 18446744073709551616 = b % 18446744073709551616) : w64 a = w64 b := by rw [w64_eq, w64_eq]; omega
theorem w64_self (n : Int) : w64 n % 18446744073709551616 = n % 18446744073709551616 := by rw [w64_eq]; omega
theorem w64_add (a b : Int) : w64 (w64 a + w64 b) = w64 (a + b) := by
  have h1 := w64_self a
  have h2 := w64_self b
  exact w64_mod _ _ (by omega)
theorem w64_mul (a s : Int) : w64 (w64 a * s) = w64 (a * s) := by
  refine w64_mod _ _ ?_
  rw [Int.mul_emod, w64_self, ← Int.mul_emod]

theorem w64_wrap (n : Int) : RowKit.wrap64 n = w64 n := (IntWalk.i64_left n).symm
theorem w64_step {l : List Int} {k : Nat} {C d c : Int} (hC : w64 (val (l.take k)) = C) (hd : l.getD k 0 = d) (hc : P k = c) : RowKit.wrap64 (C + RowKit.wrap64 (d * c)) = w64 (val (l.take (k + 1))) := by
  rw [w64_wrap, w64_wrap, ← hC, w64_add, val_take, hd, hc, Int.mul_comm]
theorem w64_step0 {l : List Int} {C d : Int} (hC : w64 (val (l.take 0)) = C) (hd : l.getD 0 0 = d) : RowKit.wrap64 (C + RowKit.wrap64 d) = w64 (val (l.take 1)) := by
  have := w64_step hC hd P_zero
  rwa [Int.mul_one] at this
def intS (s : Int) (l : List Int) : Int × Bool := if rightB s l = true ∧ -9223372036854775808 ≤ s * val l ∧ s * val l ≤ 9223372036854775807 then (s * val l, true) else (0, false)
/-- What has been reckoned with ints is the number if and only if this number is the argument. -/
theorem int_back {s : Int} {l : List Int} {N : Int} (hN : N = w64 (w64 (val (l.take 4)) * s)) : (N.sign = s ∧ digs N.natAbs = l → intS s l = (N, true)) ∧ (¬ (N.sign = s ∧ digs N.natAbs = l) → intS s l = (0, false)) := by
  have hb : -9223372036854775808 ≤ N ∧ N ≤ 9223372036854775807 := by rw [hN]; exact w64_bd _
  constructor
  · rintro ⟨rfl, rfl⟩
    have e : N.sign * val (digs N.natAbs) = N := by rw [digs_val]; exact Int.sign_mul_natAbs N
    unfold intS
    rw [if_pos ⟨right_is N, by rw [e]; exact hb.1, by rw [e]; exact hb.2⟩, e]
  · intro hne
    unfold intS
    rw [if_neg]
    rintro ⟨h1, h2, h3⟩
    obtain ⟨z, rfl, rfl⟩ := right_of h1
    have e : z.sign * val (digs z.natAbs) = z := by rw [digs_val]; exact Int.sign_mul_natAbs z
    rw [e] at h2 h3
    have hl := digs_len4 (n := z.natAbs) (by omega)
    rw [List.take_of_length_le hl, w64_mul, Int.mul_comm, e, w64_in h2 h3] at hN
    subst hN
    exact hne ⟨rfl, rfl⟩

theorem box_later {w W' : World} {x y : Value} {O : Obj} (h : (w.alloc O).drew.cell? ⟨w.heap.size, 0, none⟩ = some x ∧ (w.alloc O).drew.cell? ⟨w.heap.size, 1, none⟩ = some y) (hb : RowKit.Below (w.alloc O).drew.heap.size (w.alloc O).drew W') :
    W'.cell? ⟨w.heap.size, 0, none⟩ = some x ∧ W'.cell? ⟨w.heap.size, 1, none⟩ = some y :=
  ⟨(hb.cell (p := ⟨w.heap.size, 0, none⟩) (by simp)).trans h.1, (hb.cell (p := ⟨w.heap.size, 1, none⟩) (by simp)).trans h.2⟩
theorem box_keep {w W W' : World} {x y : Value} (h : W.cell? ⟨w.heap.size, 0, none⟩ = some x ∧ W.cell? ⟨w.heap.size, 1, none⟩ = some y) (hb : RowKit.Below W.heap.size W W') (_hB : RowKit.Below w.heap.size w W) :
    W'.cell? ⟨w.heap.size, 0, none⟩ = some x ∧ W'.cell? ⟨w.heap.size, 1, none⟩ = some y := by
  have hlt : w.heap.size < W.heap.size := by
    rcases Nat.lt_or_ge w.heap.size W.heap.size with h' | h'
    · exact h'
    · have := h.1
      simp [World.cell?, Array.getElem?_eq_none h'] at this
  exact ⟨(hb.cell (p := ⟨w.heap.size, 0, none⟩) hlt).trans h.1, (hb.cell (p := ⟨w.heap.size, 1, none⟩) hlt).trans h.2⟩

end Go.Proofs.YtmhdhabgdlefjaaDoor.Bi

namespace Go.Proofs.YtmhdhabgdlefjaaDoor.Bi
open Go.RowKit

/-- The digits in block g have been divided by a group; the remainder is returned. -/
def CutR (g : Nat) (l : List Int) (w : World) (e : Ending) (w' : World) : Prop :=
  ∃ L, e = .returned (.int .i64 (val l % 1000000000000)) ∧ Mem w' g L ∧ L.length = l.length ∧ Dig L ∧ val L = val l / 1000000000000 ∧ w.grownBy w' (some g)
theorem cut_step {l L : List Int} {j : Nat} {r d s : Int} (hj : j < L.length) (hd : l.getD j 0 = d) (hs : s = r * 1048576 + d) (hv : val (l.drop (j + 1)) = val (L.drop (j + 1)) * 1000000000000 + r) :
    val (l.drop j) = val ((L.set j (s / 1000000000000)).drop j) * 1000000000000 + s % 1000000000000 := by
  rw [val_drop l j, val_drop (L.set j _) j, hd, hv, getD_set_eq hj, List.drop_set_of_lt (by omega)]
  have := Int.emod_add_mul_ediv s 1000000000000
  omega

theorem OwnI.mem {w : World} {v : Value} {l : List Int} (h : OwnI w v l) (h0 : 0 < l.length) : ∃ g cap, v = .slice (some ⟨g, 0, none⟩) l.length cap ∧ l.length ≤ cap ∧ Mem w g l ∧ blk v = some g := by
  rcases h.2 with ⟨a', hv, hn⟩ | ⟨g, cap, cur, hv, hg, hnc, hc0, hcm, hcs, ht⟩
  · omega
  · refine ⟨g, cap, hv, hnc, ⟨cur, hg, fun j hj => ?_⟩, by rw [hv]; exact blk_pos hc0⟩
    have h1 : (cur.toList.take (l.length * 1))[j]? = (l.map (Value.int .i64 ·))[j]? := by rw [ht]
    rw [List.getElem?_take, if_pos (by omega), map_getD l j hj, Array.getElem?_toList] at h1
    exact h1
theorem OwnI.set {w : World} {g cap : Nat} {l : List Int} (h : OwnI w (.slice (some ⟨g, 0, none⟩) l.length cap) l) {k : Nat} (hk : k < l.length) (x : Int) : OwnI (w.setCell ⟨g, k, none⟩ (.int .i64 x)) (.slice (some ⟨g, 0, none⟩) l.length cap) (l.set k x) := by
  rcases h.2 with ⟨a', hv, hn⟩ | ⟨g', cap', cur, hv, hg, hnc, hc0, hcm, hcs, ht⟩
  · omega
  · simp at hv
    obtain ⟨rfl, rfl⟩ := hv
    refine ⟨by simp, .inr ⟨g, cap, cur.setIfInBounds k (.int .i64 x), by rw [List.length_set], by simp [World.setCell, Array.getElem?_modify, hg], by rw [List.length_set]; exact hnc, hc0, hcm, by simpa using hcs, ?_⟩⟩
    rw [List.length_set, Array.toList_setIfInBounds, List.map_set, ← ht, List.take_set]
theorem blk_same {a : Option Addr} {n m c : Nat} : blk (.slice a n c) = blk (.slice a m c) := by cases a <;> cases c <;> rfl

/-- The digits of l times a group, plus n. -/
def Ext (v : Value) (l : List Int) (n : Int) (w : World) (e : Ending) (w' : World) : Prop :=
  ∃ a c L, e = .returned (.slice a (List.length L) c) ∧ OwnI w' (.slice a L.length c) L ∧ Dig L ∧ val L = val l * 1000000000000 + n ∧ w.grownBy w' (blk v) ∧ (∀ b, blk (.slice a L.length c) = some b → blk v = some b ∨ w.heap.size ≤ b) ∧ L.length ≤ l.length + 2

/-- The second loop's relation. -/
structure ExR (v : Value) (l : List Int) (n : Int) (w : World) (u : Value) (L : List Int) (C : Int) (W : World) : Prop where
  own : OwnI W u L
  dig : Dig L
  eq : val L + P L.length * C = val l * 1000000000000 + n
  c0 : 0 ≤ C
  grown : w.grownBy W (blk v)
  blk : ∀ b, blk u = some b → Bi.blk v = some b ∨ w.heap.size ≤ b
  len : ∃ t, L.length = l.length + t ∧ P t * C ≤ 1000000000000 ∧ t ≤ 2
theorem ExR.next {v : Value} {l : List Int} {n : Int} {w : World} {u : Value} {L : List Int} {C : Int} {W : World} (h : ExR v l n w u L C W) (hC : 0 < C) (hl : l.length ≤ 1000000) :
    ∃ a c w', (∀ ty, (Builtin.append_ #[24, 24] ty #[u, .slice (some ⟨W.heap.size, 0, none⟩) 1 1]).run Tryd.prog (W.alloc (.cells #[.int .i64 (C % 1048576)] 3)) = .ok (.slice a (L.length + 1) c) w') ∧ ExR v l n w (.slice a (L.length + 1) c) (L ++ [C % 1048576]) (C / 1048576) w' := by
  obtain ⟨t, ht, hP, ht2⟩ := h.len
  obtain ⟨a, c, w', h1, h2, h3, h4⟩ := h.own.snoc (by omega) (C % 1048576)
  have hz := h.grown.size
  have hPt : P t ≤ P t * C := by
    have := Int.mul_le_mul_of_nonneg_left (a := 1) (b := C) (c := P t) (by omega) (by have := P_pos t; omega)
    omega
  have ht1 : t ≤ 1 := by
    rcases Nat.lt_or_ge t 2 with h' | h'
    · omega
    · have := P_le h'
      simp [P] at this; omega
  refine ⟨a, c, w', h1, ⟨h2, h.dig.app (Dig.cons (by omega) (by omega) Dig.nil), ?_, by omega, ?_, ?_, t + 1, by simp; omega, ?_, by omega⟩⟩
  · rw [val_app, List.length_append, List.length_singleton, P_succ, ← h.eq]
    have e : C = C % 1048576 + 1048576 * (C / 1048576) := by omega
    simp only [val]
    generalize C / 1048576 = q at *
    generalize C % 1048576 = r at *
    rw [e]; grind
  · refine ⟨h3.os.trans h.grown.os, h3.tape.trans h.grown.tape, h3.output.trans h.grown.output, Nat.le_trans hz (Nat.le_trans (by simp) h3.size), fun k hk hne => ?_⟩
    rw [h3.block k (by simp; omega) (fun e => ?_), Below.heap_alloc _ _ _ (by omega), h.grown.block k hk hne]
    rcases h.blk k e.symm with h' | h'
    · exact hne h'.symm
    · omega
  · intro b hb
    rcases h4 with h5 | h5 | h5
    · rw [h5] at hb; cases hb
    · rw [h5] at hb; exact h.blk b hb
    · rw [h5] at hb; cases hb; right; omega
  · rw [P_succ]
    have hp := P_pos t
    have : P t * (1048576 * (C / 1048576)) ≤ P t * C := Int.mul_le_mul_of_nonneg_left (by omega) (by omega)
    have e : 1048576 * P t * (C / 1048576) = P t * (1048576 * (C / 1048576)) := by grind
    omega

end Go.Proofs.YtmhdhabgdlefjaaDoor.Bi
