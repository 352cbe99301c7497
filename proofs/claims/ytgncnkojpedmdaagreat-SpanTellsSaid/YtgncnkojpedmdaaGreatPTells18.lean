/- Slices of fractions that grow. The contract of the reference of span: Both. The reference of span, by what its results are. Spans returned by calls; Few of spans; of, is of the laws. -/
import Derived.Test.YtgncnkojpedmdaaGreatPTells1
import Derived.Test.YtgncnkojpedmdaaGreatPTells17
import Derived.Test.YtgncnkojpedmdaaGreatPTells12
set_option maxRecDepth 100000
namespace Go.Proofs.YtgncnkojpedmdaaGreat.Sp
open Go.RowKit Bi
/-- A fraction's cells, and what they say. -/
def FCell.cl (x : FCell) : List Value := [.int .i64 x.s, .slice x.a x.n x.c, .int .i64 1, .slice x.b x.m x.d]
def Fo (W : World) (x : FCell) (r : Rat) : Prop := Fr W x.s (.slice x.a x.n x.c) (.slice x.b x.m x.d) r
def FOff (x : FCell) (g : Nat) : Prop := Off (.slice x.a x.n x.c) g ∧ Off (.slice x.b x.m x.d) g
theorem Fo.later {W W' : World} {x : FCell} {r : Rat} (h : Fo W x r) (hb : RowKit.Below W.heap.size W W') : Fo W' x r := Fr.later h hb
theorem Fo.off {W : World} {x : FCell} {r : Rat} (h : Fo W x r) {g : Nat} (hg : W.heap.size ≤ g) : FOff x g := ⟨h.1.2.off hg, h.2.2.off hg⟩
theorem Ints.on {w w' : World} {v : Value} {l : List Int} {row : Option Nat} (h : Ints w v l) (ho : ∀ g, row = some g → Off v g) (hg : w.grownBy w' row) : Ints w' v l := by
 cases row with
 | none => exact h.later ⟨hg.os, hg.tape, hg.output, hg.size, fun k hk => hg.block k hk (by simp)⟩
 | some g => exact h.grown (ho g rfl) hg
theorem Fo.on {W W' : World} {x : FCell} {r : Rat} {row : Option Nat} (h : Fo W x r) (ho : ∀ g, row = some g → FOff x g) (hg : W.grownBy W' row) : Fo W' x r :=
 ⟨⟨h.1.1, Ints.on h.1.2 (fun g e => (ho g e).1) hg⟩, ⟨h.2.1, Ints.on h.2.2 (fun g e => (ho g e).2) hg⟩⟩
theorem Sf.on {w W W' : World} {L : List FBox} {F : List (Value × List Int)} {row : Option Nat} (h : Sf w L F W) (hg : W.grownBy W' row) (hr : ∀ g, row = some g → w.heap.size ≤ g ∧ (∀ x ∈ L, x.1 ≠ g) ∧ ∀ f ∈ F, Off f.1 g) : Sf w L F W' := by
 refine ⟨⟨hg.os.trans h.below.os, hg.tape.trans h.below.tape, hg.output.trans h.below.output, Nat.le_trans h.below.size hg.size, fun k hk => ?_⟩, h.le, fun x hx => ?_, fun f hf => Ints.on (h.ints f hf) (fun g e => (hr g e).2.2 f hf) hg, h.off, h.pw⟩
 ·rw [hg.block k (Nat.lt_of_lt_of_le hk h.below.size) (fun e => by have := (hr k e.symm).1; omega)]
  exact h.below.block k hk
 ·have hq := h.box x hx
  show W'.heap[x.1]? = _
  rw [hg.block x.1 (h.lt x hx) (fun e => (hr x.1 e.symm).2.1 x hx rfl)]
  exact hq

/-- The slice v of n fractions, made one after another since w; it lies in no block before B. -/
structure Got (B : Nat) (W : World) (v : Value) (n : Nat) (fs : Nat → FCell) (r : Nat → Rat) : Prop where
 own : Dm.Own W 26 4 v n ((List.range n).flatMap fun j => (fs j).cl)
 fr : ∀ j, j < n → Fo W (fs j) (r j)
 off : ∀ j, j < n → ∀ g, Dm.blk v = some g → FOff (fs j) g
 ge : ∀ g, Dm.blk v = some g → B ≤ g
theorem Got.later {B : Nat} {W W' : World} {v : Value} {n : Nat} {fs : Nat → FCell} {r : Nat → Rat} (h : Got B W v n fs r) (hb : RowKit.Below W.heap.size W W') : Got B W' v n fs r :=
 ⟨h.own.kept fun b e => hb.block b (h.own.lt b e), fun j hj => (h.fr j hj).later hb, h.off, h.ge⟩
theorem infoF4 : (Tryz.prog.info? 26).map (fun i => (i.zero.map (fun z => z.cells.size), i.size, decide (i.bytes ≤ 1000))) = some (some 4, 4, true) := by kernel_rfl
theorem info_f4 : ∃ i z, Tryz.prog.info? 26 = some i ∧ i.zero = some z ∧ z.cells.size = 4 ∧ i.size = 4 ∧ i.bytes ≤ 1000 := by
 have h := infoF4
 cases hi : Tryz.prog.info? 26 with
 | none => rw [hi] at h; cases h
 | some i =>
  rw [hi] at h
  simp only [Option.map_some, Option.some.injEq, Prod.mk.injEq, decide_eq_true_eq] at h
  obtain ⟨h1, h2, h3⟩ := h
  cases hz : i.zero with
  | none => rw [hz] at h1; cases h1
  | some z =>
   rw [hz] at h1
   simp only [Option.map_some, Option.some.injEq] at h1
   exact ⟨i, z, rfl, hz, h1, h2, h3⟩
/-- A fraction is appended. -/
theorem Got.snoc {B : Nat} {W : World} {v : Value} {n : Nat} {fs : Nat → FCell} {r : Nat → Rat} (h : Got B W v n fs r) (hB : B ≤ W.heap.size) (hn : n ≤ 1000) {c : FCell} (hc : Fo W c (r n)) (ho : ∀ g, Dm.blk v = some g → FOff c g) :
  ∃ a cap w', (∀ ty, (Builtin.append_ #[51, 51] ty #[v, .slice (some ⟨W.heap.size, 0, none⟩) 1 1]).run Tryz.prog (W.alloc (.cells #[.int .i64 c.s, .slice c.a c.n c.c, .int .i64 1, .slice c.b c.m c.d] 26)) = .ok (.slice a (n + 1) cap) w') ∧
   Got B w' (.slice a (n + 1) cap) (n + 1) (fun j => if j = n then c else fs j) r ∧ (W.alloc (.cells #[.int .i64 c.s, .slice c.a c.n c.c, .int .i64 1, .slice c.b c.m c.d] 26)).grownBy w' (Dm.blk v) := by
 obtain ⟨i0, z, hi, hz0, hzs, hsz, hby⟩ := info_f4
 have hA : RowKit.Below W.heap.size W (W.alloc (.cells #[.int .i64 c.s, .slice c.a c.n c.c, .int .i64 1, .slice c.b c.m c.d] 26)) := below_alloc W _
 have h1 := h.later hA
 have hc1 := hc.later hA
 have hsrc : Src Tryz.prog 4 51 (.slice (some ⟨W.heap.size, 0, none⟩) 1 1) 1 c.cl (W.alloc (.cells #[.int .i64 c.s, .slice c.a c.n c.c, .int .i64 1, .slice c.b c.m c.d] 26)) :=
  Src.ofSlice _ Tryz.underlying51 _ 1 1 c.cl (by simp [FCell.cl]) (World.news_of_block (cs := #[.int .i64 c.s, .slice c.a c.n c.c, .int .i64 1, .slice c.b c.m c.d]) (t := 26) (fr := (0, 0)) (alloc_at W _)) (by simp [FCell.cl, Value.oneCell'])
 have hrun := fun ty => Dm.own_append (P := Tryz.prog) (t := 51) (tx := 51) (ty := ty) Tryz.underlying51 hi hz0 hsz rfl hzs h1.own hsrc (by unfold maxLen; omega) (by
  have := Nat.mul_le_mul (show n + 1 ≤ 1001 by omega) hby
  omega)
 obtain ⟨v', w', hr, g1, g2, g3⟩ := hrun 0
 obtain ⟨a, cap, rfl, _, _⟩ := g1.shape
 have hfr : ∀ j, j < n + 1 → Fo w' (if j = n then c else fs j) (r j) := by
  intro j hj
  by_cases e : j = n
  ·subst e; rw [if_pos rfl]; exact hc1.on ho g2
  ·rw [if_neg e]; exact (h1.fr j (by omega)).on (h1.off j (by omega)) g2
 refine ⟨a, cap, w', fun ty => hr, ⟨?_, hfr, fun j hj g hg => ?_, fun g hg => ?_⟩, g2⟩
 ·have e : ((List.range (n + 1)).flatMap fun j => (if j = n then c else fs j).cl) = ((List.range n).flatMap fun j => (fs j).cl) ++ c.cl := by
   rw [List.range_succ, List.flatMap_append]
   congr 1
   ·simp only [List.flatMap_def]
    congr 1
    refine List.map_congr_left fun j hj => ?_
    rw [if_neg (by have := List.mem_range.1 hj; omega)]
   ·simp
  rw [e]; exact g1
 ·rcases g3 with g4 | g4 | g4
  ·rw [g4] at hg; cases hg
  ·rw [g4] at hg
   by_cases e : j = n
   ·simp only [e, if_true]; exact ho g hg
   ·simp only [e, if_false]; exact h.off j (by omega) g hg
  ·rw [g4] at hg
   cases hg
   by_cases e : j = n
   ·simp only [e, if_true]; exact hc1.off (Nat.le_refl _)
   ·simp only [e, if_false]; exact (h1.fr j (by omega)).off (Nat.le_refl _)
 ·rcases g3 with g4 | g4 | g4
  ·rw [g4] at hg; cases hg
  ·rw [g4] at hg; exact h.ge g hg
  ·rw [g4] at hg; cases hg; have := hA.size; omega
theorem Got.nil (B : Nat) (W : World) (a : Option Addr) (fs : Nat → FCell) (r : Nat → Rat) : Got B W (.slice a 0 0) 0 fs r :=
 ⟨⟨rfl, .inl ⟨a, rfl, rfl⟩⟩, fun j hj => absurd hj (Nat.not_lt_zero _), fun j hj => absurd hj (Nat.not_lt_zero _), fun g hg => by rw [Dm.blk_zero] at hg; cases hg⟩
/-- Four fractions, for around. -/
theorem Got.four {B : Nat} {W : World} {v : Value} {fs : Nat → FCell} {r : Nat → Rat} (h : Got B W v 4 fs r) (hz : ∀ i, i < 4 → FSz 1000 (r i)) : ∃ G cap, v = .slice (some ⟨G, 0, none⟩) 4 cap ∧ FLs W G 4 fs r := by
 rcases h.own.2 with ⟨a', hv, hn⟩ | ⟨g, cap, cur, rfl, hg, hnc, hc0, hcm, hcs, ht⟩
 ·omega
 ·refine ⟨g, cap, rfl, (Array.getElem?_eq_some_iff.1 hg).1, fun i hi => ?_, h.fr, hz⟩
  have hk : ∀ k, k < 16 → W.cell? ⟨g, k, none⟩ = ((List.range 4).flatMap fun j => (fs j).cl)[k]? := fun k hk => by
   rw [← ht, List.getElem?_take, if_pos (by omega), Array.getElem?_toList]
   exact cell_of_row W g k cur _ (0, 0) hg
  rcases lt4 hi with e | e | e | e
  ·subst e; exact ⟨hk 0 (by decide), hk 1 (by decide), hk 2 (by decide), hk 3 (by decide)⟩
  ·subst e; exact ⟨hk 4 (by decide), hk 5 (by decide), hk 6 (by decide), hk 7 (by decide)⟩
  ·subst e; exact ⟨hk 8 (by decide), hk 9 (by decide), hk 10 (by decide), hk 11 (by decide)⟩
  ·subst e; exact ⟨hk 12 (by decide), hk 13 (by decide), hk 14 (by decide), hk 15 (by decide)⟩
end Go.Proofs.YtgncnkojpedmdaaGreat.Sp

namespace Go.Proofs.YtgncnkojpedmdaaGreat.Sp
open Go.RowKit Bi
/-- The operation o of x and y is q; the slices of the result lie in no block that was there, unless those of the arguments do. -/
def OpIs (o : Int) (X Y : FCell) (x y q : Rat) : Prop :=
 ∀ W, Fo W X x → Fo W Y y → Calls Tryz.prog 39 #[.int .i64 o, .agg #[.int .i64 X.s, .slice X.a X.n X.c, .int .i64 1, .slice X.b X.m X.d], .agg #[.int .i64 Y.s, .slice Y.a Y.n Y.c, .int .i64 1, .slice Y.b Y.m Y.d]] W fun e W' =>
  ∃ c : FCell, e = .returned (.tuple #[.agg #[.int .i64 c.s, .slice c.a c.n c.c, .int .i64 1, .slice c.b c.m c.d], .int .i64 0]) ∧ Fo W' c q ∧ RowKit.Below W.heap.size W W' ∧ ∀ g, g < W.heap.size → FOff X g → FOff Y g → FOff c g
theorem step_all {P : FCell → Prop} {gs : Nat → FCell} {c : FCell} {i : Nat} (h : ∀ j, j < i → P (gs j)) (hc : P c) (j : Nat) (hj : j < i + 1) : P (if j = i then c else gs j) := by
 by_cases e : j = i
 ·rw [if_pos e]; exact hc
 ·rw [if_neg e]; exact h j (by omega)
theorem row_on (W : World) (b : Nat) (c : Array Value) : W.grownBy (W.setRow b c) (some b) := ⟨rfl, rfl, rfl, by simp, fun k _ hk => setRow_other W b k c (fun e => hk (by rw [e]))⟩
theorem fsz0 : FSz 1000 ((0 : Int) : Rat) := ⟨by unfold Sz; rw [Rat.num_intCast]; exact P_pos 1000, by unfold Sz; rw [Rat.den_intCast]; simp; exact Int.lt_of_lt_of_le (by decide) (P_le (i := 1) (by decide))⟩

set_option maxHeartbeats 16000000 in
theorem r10both_k {w : World} {fs : Nat → FCell} {l r : Nat → Rat} {o : Int} (h : ∀ i, i < 4 → Fr w (fs i).s (fs i).v (fs i).u (l i)) (hz : ∀ i, i < 4 → FSz 1000 (l i)) (hxy : l 0 ≤ l 1) (hpq : l 2 ≤ l 3) (hd : o = 3 → ¬ (l 2 ≤ ((0 : Int) : Rat) ∧ ((0 : Int) : Rat) ≤ l 3)) (o0 : OpIs o (fs 0) (fs 2) (l 0) (l 2) (r 0)) (o1 : OpIs o (fs 1) (fs 2) (l 1) (l 2) (r 1)) (o2 : OpIs o (fs 0) (fs 3) (l 0) (l 3) (r 2)) (o3 : OpIs o (fs 1) (fs 3) (l 1) (l 3) (r 3)) (hr : ∀ i, i < 4 → FSz 1000 (r i)) :
  Calls Tryz.prog 8 #[.int .i64 o, .agg #[.int .i64 (fs 0).s, .slice (fs 0).a (fs 0).n (fs 0).c, .int .i64 1, .slice (fs 0).b (fs 0).m (fs 0).d, .int .i64 (fs 1).s, .slice (fs 1).a (fs 1).n (fs 1).c, .int .i64 1, .slice (fs 1).b (fs 1).m (fs 1).d], .agg #[.int .i64 (fs 2).s, .slice (fs 2).a (fs 2).n (fs 2).c, .int .i64 1, .slice (fs 2).b (fs 2).m (fs 2).d, .int .i64 (fs 3).s, .slice (fs 3).a (fs 3).n (fs 3).c, .int .i64 1, .slice (fs 3).b (fs 3).m (fs 3).d]] w fun e w' => ∃ (gs : Nat → FCell) (p q : Nat), p < 4 ∧ q < 4 ∧ (∀ i, i < 4 → r p ≤ r i ∧ r i ≤ r q) ∧ e = .returned (.tuple #[.agg #[.int .i64 (gs p).s, .slice (gs p).a (gs p).n (gs p).c, .int .i64 1, .slice (gs p).b (gs p).m (gs p).d, .int .i64 (gs q).s, .slice (gs q).a (gs q).n (gs q).c, .int .i64 1, .slice (gs q).b (gs q).m (gs q).d], .int .i64 0]) ∧ Fo w' (gs p) (r p) ∧ Fo w' (gs q) (r q) ∧ RowKit.Below w.heap.size w w' ∧ ∀ g, g < w.heap.size → (∀ i, i < 4 → FOff (fs i) g) → FOff (gs p) g ∧ FOff (gs q) g := by
 have HXY := Lib.hid (decide_eq_true hxy)
 have HPQ := Lib.hid (decide_eq_true hpq)
 have HPQ2 := Lib.hid hpq
 have HR := Lib.hid hr
 have HO : Hid (∀ i, i < 4 → ∀ g, w.heap.size ≤ g → FOff (fs i) g) := Lib.hid fun i hi g hg => ⟨(h i hi).1.2.off hg, (h i hi).2.2.off hg⟩
 have h0 := h 0 (by decide)
 have Z0 := Lib.hid (hz 0 (by decide))
 have E0 := Lib.hid h0.1.1
 unfold FCell.v FCell.u at h0
 have O0 := Lib.hid o0
 have h1 := h 1 (by decide)
 have Z1 := Lib.hid (hz 1 (by decide))
 have E1 := Lib.hid h1.1.1
 unfold FCell.v FCell.u at h1
 have O1 := Lib.hid o1
 have h2 := h 2 (by decide)
 have Z2 := Lib.hid (hz 2 (by decide))
 have E2 := Lib.hid h2.1.1
 unfold FCell.v FCell.u at h2
 have O2 := Lib.hid o2
 have h3 := h 3 (by decide)
 have Z3 := Lib.hid (hz 3 (by decide))
 have E3 := Lib.hid h3.1.1
 unfold FCell.v FCell.u at h3
 have O3 := Lib.hid o3
 have s0 := ((((((((((((Sf.start w).arg h0.2.2).arg h0.1.2).arg h1.2.2).arg h1.1.2).arg h2.2.2).arg h2.1.2).arg h3.2.2).arg h3.1.2).put [.int .i64 (fs 0).s, .slice (fs 0).a (fs 0).n (fs 0).c, .int .i64 1, .slice (fs 0).b (fs 0).m (fs 0).d, .int .i64 (fs 1).s, .slice (fs 1).a (fs 1).n (fs 1).c, .int .i64 1, .slice (fs 1).b (fs 1).m (fs 1).d] 28).put [.int .i64 (fs 2).s, .slice (fs 2).a (fs 2).n (fs 2).c, .int .i64 1, .slice (fs 2).b (fs 2).m (fs 2).d, .int .i64 (fs 3).s, .slice (fs 3).a (fs 3).n (fs 3).c, .int .i64 1, .slice (fs 3).b (fs 3).m (fs 3).d] 28).put [.int .i64 0, .slice none 0 0, .int .i64 0, .slice none 0 0, .int .i64 0, .slice none 0 0, .int .i64 0, .slice none 0 0] 28)
 try simp only [World.size_alloc] at s0
 have S0 := Lib.hid s0
 clear s0
 clear hxy hpq hz hr h h0 h1 h2 h3 o0 o1 o2 o3
 go_enter Tryz.func8, Tryz.ntmps8
 obtain ⟨q1, q2, q3, q4, q5, q6, q7, q8⟩ := Fb.cells8 (S0.out.box _ mq2)
 go_wp2_with fail
 clear q1 q2 q3 q4 q5 q6 q7 q8
 refine (r10right_v (S0.out.fr mq6 mq7 E0.out) Z0.out (S0.out.fr mq4 mq5 E1.out) Z1.out HXY.out).mono ?_
 rintro e w1 ⟨rfl, hb⟩
 have R1 := Lib.hid (S0.out.later hb)
 clear hb
 obtain ⟨q9, q10, q11, q12, q13, q14, q15, q16⟩ := Fb.cells8 (R1.out.box _ mq1)
 go_wp2_with fail
 clear q9 q10 q11 q12 q13 q14 q15 q16
 refine (r10right_v (R1.out.fr mq2 mq3 E2.out) Z2.out (R1.out.fr mq0 mq1 E3.out) Z3.out HPQ.out).mono ?_
 rintro e w2 ⟨rfl, hb⟩
 have R2 := Lib.hid (R1.out.later hb)
 clear hb
 go_upto_region 3 with fail
 go_cut [29] from 23 to 29 (fun u wx => u = .bool false ∧ Hid (Sf w [(w.heap.size + 1 + 1, 28, [.int .i64 0, .slice none 0 0, .int .i64 0, .slice none 0 0, .int .i64 0, .slice none 0 0, .int .i64 0, .slice none 0 0]), (w.heap.size + 1, 28, [.int .i64 (fs 2).s, .slice (fs 2).a (fs 2).n (fs 2).c, .int .i64 1, .slice (fs 2).b (fs 2).m (fs 2).d, .int .i64 (fs 3).s, .slice (fs 3).a (fs 3).n (fs 3).c, .int .i64 1, .slice (fs 3).b (fs 3).m (fs 3).d]), (w.heap.size, 28, [.int .i64 (fs 0).s, .slice (fs 0).a (fs 0).n (fs 0).c, .int .i64 1, .slice (fs 0).b (fs 0).m (fs 0).d, .int .i64 (fs 1).s, .slice (fs 1).a (fs 1).n (fs 1).c, .int .i64 1, .slice (fs 1).b (fs 1).m (fs 1).d])] [(.slice (fs 3).a (fs 3).n (fs 3).c, digs ((l 3)).num.natAbs), (.slice (fs 3).b (fs 3).m (fs 3).d, digs ((((l 3)).den : Int)).natAbs), (.slice (fs 2).a (fs 2).n (fs 2).c, digs ((l 2)).num.natAbs), (.slice (fs 2).b (fs 2).m (fs 2).d, digs ((((l 2)).den : Int)).natAbs), (.slice (fs 1).a (fs 1).n (fs 1).c, digs ((l 1)).num.natAbs), (.slice (fs 1).b (fs 1).m (fs 1).d, digs ((((l 1)).den : Int)).natAbs), (.slice (fs 0).a (fs 0).n (fs 0).c, digs ((l 0)).num.natAbs), (.slice (fs 0).b (fs 0).m (fs 0).d, digs ((((l 0)).den : Int)).natAbs)] wx))
 case first =>
  by_cases ho : o = 3
  ·have HK0 : Hid ((decide (l 2 ≤ ((0 : Int) : Rat)) && decide (((0 : Int) : Rat) ≤ l 3)) = false) := Lib.hid (by have := hd ho; rw [Bool.and_eq_false_iff, decide_eq_false_iff_not, decide_eq_false_iff_not]; exact Decidable.not_and_iff_or_not.1 this)
   subst ho
   clear hd
   have ZZ := Lib.hid fsz0
   have K0 : ∀ W F, Sf w [(w.heap.size + 1 + 1, 28, [.int .i64 0, .slice none 0 0, .int .i64 0, .slice none 0 0, .int .i64 0, .slice none 0 0, .int .i64 0, .slice none 0 0]), (w.heap.size + 1, 28, [.int .i64 (fs 2).s, .slice (fs 2).a (fs 2).n (fs 2).c, .int .i64 1, .slice (fs 2).b (fs 2).m (fs 2).d, .int .i64 (fs 3).s, .slice (fs 3).a (fs 3).n (fs 3).c, .int .i64 1, .slice (fs 3).b (fs 3).m (fs 3).d]), (w.heap.size, 28, [.int .i64 (fs 0).s, .slice (fs 0).a (fs 0).n (fs 0).c, .int .i64 1, .slice (fs 0).b (fs 0).m (fs 0).d, .int .i64 (fs 1).s, .slice (fs 1).a (fs 1).n (fs 1).c, .int .i64 1, .slice (fs 1).b (fs 1).m (fs 1).d])] F W → W.cell? ⟨w.heap.size + 1, 0, none⟩ = some (.int .i64 (fs 2).s) ∧ W.cell? ⟨w.heap.size + 1, 1, none⟩ = some (.slice (fs 2).a (fs 2).n (fs 2).c) ∧ W.cell? ⟨w.heap.size + 1, 2, none⟩ = some (.int .i64 1) ∧ W.cell? ⟨w.heap.size + 1, 3, none⟩ = some (.slice (fs 2).b (fs 2).m (fs 2).d) ∧ W.cell? ⟨w.heap.size + 1, 4, none⟩ = some (.int .i64 (fs 3).s) ∧ W.cell? ⟨w.heap.size + 1, 5, none⟩ = some (.slice (fs 3).a (fs 3).n (fs 3).c) ∧ W.cell? ⟨w.heap.size + 1, 6, none⟩ = some (.int .i64 1) ∧ W.cell? ⟨w.heap.size + 1, 7, none⟩ = some (.slice (fs 3).b (fs 3).m (fs 3).d) := fun W F h => ⟨(h.box _ mq1).cell 0, (h.box _ mq1).cell 1, (h.box _ mq1).cell 2, (h.box _ mq1).cell 3, (h.box _ mq1).cell 4, (h.box _ mq1).cell 5, (h.box _ mq1).cell 6, (h.box _ mq1).cell 7⟩
   have KK := Lib.hid K0
   clear K0
   have N0 := Lib.hid R2.out.drew
   clear R2
   have e0 := KK.out _ _ N0.out
   go_region_held3 (fun W => W.cell? ⟨w.heap.size + 1, 0, none⟩ = some (.int .i64 (fs 2).s) ∧ W.cell? ⟨w.heap.size + 1, 1, none⟩ = some (.slice (fs 2).a (fs 2).n (fs 2).c) ∧ W.cell? ⟨w.heap.size + 1, 2, none⟩ = some (.int .i64 1) ∧ W.cell? ⟨w.heap.size + 1, 3, none⟩ = some (.slice (fs 2).b (fs 2).m (fs 2).d) ∧ W.cell? ⟨w.heap.size + 1, 4, none⟩ = some (.int .i64 (fs 3).s) ∧ W.cell? ⟨w.heap.size + 1, 5, none⟩ = some (.slice (fs 3).a (fs 3).n (fs 3).c) ∧ W.cell? ⟨w.heap.size + 1, 6, none⟩ = some (.int .i64 1) ∧ W.cell? ⟨w.heap.size + 1, 7, none⟩ = some (.slice (fs 3).b (fs 3).m (fs 3).d))
    (first | (with_reducible exact e0) | (with_reducible exact e1) | (with_reducible exact e2))
    (((first | go_at_call 37 | go_at_call 20 | (rw [if_pos (by rfl)]; go_simp) | skip); (first
      | (have hG := N1; clear hG; go_at_call 20; (with_reducible refine (r10has_k PN1_1.out Z2.out PN1_2.out Z3.out PN1_3.out ZZ.out HPQ2.out HK0.out).mono ?_); rintro e y3_1 ⟨rfl, hb⟩; have N2 := Lib.hid (N1.out.later hb); clear hb; have e2 := KK.out _ _ N2.out)
      | (have hG := N0; clear hG; go_at_call 37; (with_reducible refine (rfint_k 0 (by decide) _).mono ?_); rintro e y3_0 ⟨sx3_0, ax3_0, nx3_0, cx3_0, bx3_0, mx3_0, dx3_0, rfl, hr, hb, hf, hg⟩; have E3_0 := Lib.hid hr.1.1; have N1 := Lib.hid (N0.out.ret2 hb hr.1.2 hf hr.2.2 hg); clear hr hb hf hg; have e1 := KK.out _ _ N1.out; have PN1_1 := Lib.hid (N1.out.fr mq4 mq5 E2.out); have PN1_2 := Lib.hid (N1.out.fr mq2 mq3 E3.out); have PN1_3 := Lib.hid (N1.out.fr mq0 mq1 E3_0.out))); (try dsimp only)))
   all_goals (go_wp2_with fail; go_meet; exact ⟨rfl, Lib.hid (Sf.facts N2.out (by simp))⟩)
  ·have gk : decide (o = 3) = false := decide_eq_false ho
   have gk2 : (o == 3) = false := by simpa using ho
   clear hd
   have D0 := Lib.hid R2.out.drew
   clear R2
   go_region
   all_goals (go_wp2_with fail; go_meet; exact ⟨rfl, D0⟩)
 case rest =>
 obtain ⟨rfl, hq⟩ := hcut
 obtain ⟨w4, rfl⟩ : ∃ W, W = wc := ⟨_, rfl⟩
 have R4 := Lib.hid hq.out
 clear hq R2 hd
 go_wp2_with fail
 have M0 := Lib.hid (R4.out.later (below_alloc _ (.cells #[] 26)))
 clear R4
 go_loopw [8, 9] (fun v t wr => ∃ (i : Nat) (gs : Nat → FCell) (a0 : Option Addr) (n0 cap0 : Nat), v = .slice a0 n0 cap0 ∧ i ≤ 4 ∧ t = .int .i64 (i : Int) ∧ Got (w.heap.size + 3) wr v i gs r ∧ (∀ j, j < i → ∀ g, g ≤ w.heap.size + 1 + 1 → (∀ i, i < 4 → FOff (fs i) g) → FOff (gs j) g) ∧ Sf w [(w.heap.size + 1 + 1, 28, [.int .i64 0, .slice none 0 0, .int .i64 0, .slice none 0 0, .int .i64 0, .slice none 0 0, .int .i64 0, .slice none 0 0]), (w.heap.size + 1, 28, [.int .i64 (fs 2).s, .slice (fs 2).a (fs 2).n (fs 2).c, .int .i64 1, .slice (fs 2).b (fs 2).m (fs 2).d, .int .i64 (fs 3).s, .slice (fs 3).a (fs 3).n (fs 3).c, .int .i64 1, .slice (fs 3).b (fs 3).m (fs 3).d]), (w.heap.size, 28, [.int .i64 (fs 0).s, .slice (fs 0).a (fs 0).n (fs 0).c, .int .i64 1, .slice (fs 0).b (fs 0).m (fs 0).d, .int .i64 (fs 1).s, .slice (fs 1).a (fs 1).n (fs 1).c, .int .i64 1, .slice (fs 1).b (fs 1).m (fs 1).d])] [(.slice (fs 3).a (fs 3).n (fs 3).c, digs ((l 3)).num.natAbs), (.slice (fs 3).b (fs 3).m (fs 3).d, digs ((((l 3)).den : Int)).natAbs), (.slice (fs 2).a (fs 2).n (fs 2).c, digs ((l 2)).num.natAbs), (.slice (fs 2).b (fs 2).m (fs 2).d, digs ((((l 2)).den : Int)).natAbs), (.slice (fs 1).a (fs 1).n (fs 1).c, digs ((l 1)).num.natAbs), (.slice (fs 1).b (fs 1).m (fs 1).d, digs ((((l 1)).den : Int)).natAbs), (.slice (fs 0).a (fs 0).n (fs 0).c, digs ((l 0)).num.natAbs), (.slice (fs 0).b (fs 0).m (fs 0).d, digs ((((l 0)).den : Int)).natAbs)] wr) (fun _ t _ => 5 - (RowKit.intOf t).toNat)
 case atStart => exact ⟨0, fs, _, _, _, rfl, Nat.zero_le _, rfl, Got.nil _ _ _ _ _, fun j hj => absurd hj (Nat.not_lt_zero _), M0.out⟩
 case round =>
  clear M0
  obtain ⟨i, gs, a0, n0, cap0, rfl, hi, ht, hG, hJ, hS⟩ := hrel
  have HG := Lib.hid hG
  have HJ := Lib.hid hJ
  have HS := Lib.hid hS
  clear hG hS hJ
  by_cases hlt : i < 4
  ·rcases lt4 hlt with e | e | e | e
   ·subst e
    have ht2 : _ = Value.int IntKind.i64 0 := ht
    subst ht2
    clear ht hi hlt
    have T0 := Lib.hid (Sf.start wr)
    obtain ⟨q17, q18, q19, q20, q21, q22, q23, q24⟩ := Fb.cells8 (HS.out.box _ mq2)
    have P25 := Lib.hid (HS.out.put [.int .i64 0, .slice none 0 0, .int .i64 0, .slice none 0 0] 26)
    have Q25 := Lib.hid (Sf.row (pre := []) P25.out [.int .i64 (fs 0).s, .slice (fs 0).a (fs 0).n (fs 0).c, .int .i64 1, .slice (fs 0).b (fs 0).m (fs 0).d])
    have T1 := Lib.hid (Sf.row (pre := []) (T0.out.put [.int .i64 0, .slice none 0 0, .int .i64 0, .slice none 0 0] 26) [.int .i64 (fs 0).s, .slice (fs 0).a (fs 0).n (fs 0).c, .int .i64 1, .slice (fs 0).b (fs 0).m (fs 0).d])
    clear T0
    obtain ⟨V26, hV26⟩ : ∃ V, ((wr.alloc (.cells #[.int .i64 0, .slice none 0 0, .int .i64 0, .slice none 0 0] 26)).setRow wr.heap.size #[.int .i64 (fs 0).s, .slice (fs 0).a (fs 0).n (fs 0).c, .int .i64 1, .slice (fs 0).b (fs 0).m (fs 0).d]) = V := ⟨_, rfl⟩
    rw [hV26] at Q25 T1
    have HV26 := Lib.hid hV26
    clear hV26
    go_upto_region 10 with (first | (refine wpList_store_row rfl _ _ _ rfl _ #[.int .i64 (fs 0).s, .slice (fs 0).a (fs 0).n (fs 0).c, .int .i64 1, .slice (fs 0).b (fs 0).m (fs 0).d] rfl rfl _ _ (P25.out.box _ List.mem_cons_self) (by kernel_rfl) rfl (by simp [Value.oneCell']) ?_; rw [HV26.out]))
    clear q17 q18 q19 q20 q21 q22 q23 q24
    obtain ⟨q27, q28, q29, q30, q31, q32, q33, q34⟩ := Fb.cells8 (Q25.out.box _ mq2)
    have P35 := Lib.hid (Q25.out.put [.int .i64 0, .slice none 0 0, .int .i64 0, .slice none 0 0] 26)
    have Q35 := Lib.hid (Sf.row (pre := []) P35.out [.int .i64 (fs 2).s, .slice (fs 2).a (fs 2).n (fs 2).c, .int .i64 1, .slice (fs 2).b (fs 2).m (fs 2).d])
    have T2 := Lib.hid (Sf.row (pre := []) (T1.out.put [.int .i64 0, .slice none 0 0, .int .i64 0, .slice none 0 0] 26) [.int .i64 (fs 2).s, .slice (fs 2).a (fs 2).n (fs 2).c, .int .i64 1, .slice (fs 2).b (fs 2).m (fs 2).d])
    clear T1
    obtain ⟨V36, hV36⟩ : ∃ V, ((V26.alloc (.cells #[.int .i64 0, .slice none 0 0, .int .i64 0, .slice none 0 0] 26)).setRow V26.heap.size #[.int .i64 (fs 2).s, .slice (fs 2).a (fs 2).n (fs 2).c, .int .i64 1, .slice (fs 2).b (fs 2).m (fs 2).d]) = V := ⟨_, rfl⟩
    rw [hV36] at Q35 T2
    have HV36 := Lib.hid hV36
    clear hV36
    go_upto_region 11 with (first | (refine wpList_store_row rfl _ _ _ rfl _ #[.int .i64 (fs 2).s, .slice (fs 2).a (fs 2).n (fs 2).c, .int .i64 1, .slice (fs 2).b (fs 2).m (fs 2).d] rfl rfl _ _ (P35.out.box _ List.mem_cons_self) (by kernel_rfl) rfl (by simp [Value.oneCell']) ?_; rw [HV36.out]))
    clear q27 q28 q29 q30 q31 q32 q33 q34
    go_upto_region 13 with fail
    go_upto_region 15 with fail
    obtain ⟨q37, q38, q39, q40⟩ := Fb.cells4 (Q35.out.box _ mq0)
    obtain ⟨q41, q42, q43, q44⟩ := Fb.cells4 (Q35.out.box _ mq1)
    go_wp2_with fail
    clear q37 q38 q39 q40 q41 q42 q43 q44
    refine (O0.out _ (Q35.out.fr mq6 mq7 E0.out) (Q35.out.fr mq2 mq3 E2.out)).mono ?_
    rintro e w5 ⟨c, rfl, hc, hb, hoff⟩
    have HC := Lib.hid hc
    have HB := Lib.hid (fun q (hq : Dm.blk (.slice a0 n0 cap0) = some q) => hoff q (Nat.lt_of_lt_of_le (HG.out.own.lt q hq) T2.out.below.size) (HO.out 0 (by decide) q (Nat.le_trans (Nat.le_add_right _ 3) (HG.out.ge q hq))) (HO.out 2 (by decide) q (Nat.le_trans (Nat.le_add_right _ 3) (HG.out.ge q hq))))
    have HD := Lib.hid (fun g (hg : g ≤ w.heap.size + 1 + 1) (hA : ∀ i, i < 4 → FOff (fs i) g) => hoff g (Nat.lt_of_le_of_lt hg (Q35.out.lt (w.heap.size + 1 + 1, 28, [.int .i64 0, .slice none 0 0, .int .i64 0, .slice none 0 0, .int .i64 0, .slice none 0 0, .int .i64 0, .slice none 0 0]) mq2)) (hA 0 (by decide)) (hA 2 (by decide)))
    have R5 := Lib.hid (Q35.out.later hb)
    have T3 := Lib.hid (T2.out.later hb)
    clear T2 Q35 hc hb hoff
    have P45 := Lib.hid (R5.out.put [.int .i64 0, .slice none 0 0, .int .i64 0, .slice none 0 0] 26)
    have Q45 := Lib.hid (Sf.row (pre := []) P45.out [.int .i64 c.s, .slice c.a c.n c.c, .int .i64 1, .slice c.b c.m c.d])
    have T4 := Lib.hid (Sf.row (pre := []) (T3.out.put [.int .i64 0, .slice none 0 0, .int .i64 0, .slice none 0 0] 26) [.int .i64 c.s, .slice c.a c.n c.c, .int .i64 1, .slice c.b c.m c.d])
    clear T3
    obtain ⟨V46, hV46⟩ : ∃ V, ((w5.alloc (.cells #[.int .i64 0, .slice none 0 0, .int .i64 0, .slice none 0 0] 26)).setRow w5.heap.size #[.int .i64 c.s, .slice c.a c.n c.c, .int .i64 1, .slice c.b c.m c.d]) = V := ⟨_, rfl⟩
    rw [hV46] at Q45 T4
    have HV46 := Lib.hid hV46
    clear hV46
    have HC6 : Hid (Fo V46 c (r 0)) := Lib.hid (HC.out.later (by rw [← HV46.out]; exact (Sf.row (pre := []) ((Sf.start w5).put [.int .i64 0, .slice none 0 0, .int .i64 0, .slice none 0 0] 26) [.int .i64 c.s, .slice c.a c.n c.c, .int .i64 1, .slice c.b c.m c.d]).below))
    clear HC
    obtain ⟨a6, cap6, wq, hrun, hG6, hgr⟩ := (HG.out.later T4.out.below).snoc (by have h9 : w.heap.size + 1 + 1 < _ := Q45.out.lt (w.heap.size + 1 + 1, 28, [.int .i64 0, .slice none 0 0, .int .i64 0, .slice none 0 0, .int .i64 0, .slice none 0 0, .int .i64 0, .slice none 0 0]) mq3; omega) (by decide) HC6.out HB.out
    have HG6 := Lib.hid hG6
    have HS6 : Hid (Sf w _ _ _) := Lib.hid (Sf.on (Bi.Sf.later (Sf.tail (Sf.tail (Sf.tail Q45.out))) (below_alloc _ (.cells #[.int .i64 c.s, .slice c.a c.n c.c, .int .i64 1, .slice c.b c.m c.d] 26))) hgr (fun q hq => ⟨Nat.le_trans (Nat.le_add_right _ 3) (HG.out.ge q hq), fun x hx => by have := HG.out.ge q hq; simp at hx; rcases hx with rfl | rfl | rfl <;> simp <;> omega, fun f hf => by have hO := fun j hj => HO.out j hj q (Nat.le_trans (Nat.le_add_right _ 3) (HG.out.ge q hq)); simp at hf; rcases hf with rfl | rfl | rfl | rfl | rfl | rfl | rfl | rfl; all_goals first | exact (hO 0 (by decide)).1 | exact (hO 0 (by decide)).2 | exact (hO 1 (by decide)).1 | exact (hO 1 (by decide)).2 | exact (hO 2 (by decide)).1 | exact (hO 2 (by decide)).2 | exact (hO 3 (by decide)).1 | exact (hO 3 (by decide)).2⟩))
    clear hG6 hgr HB HC6
    obtain ⟨q47, q48, q49, q50⟩ := Fb.cells4 (Q45.out.box _ mq0)
    go_wp2_with (first | (refine wpList_store_row rfl _ _ _ rfl _ #[.int .i64 c.s, .slice c.a c.n c.c, .int .i64 1, .slice c.b c.m c.d] rfl rfl _ _ (P45.out.box _ List.mem_cons_self) (by kernel_rfl) rfl (by simp [Value.oneCell']) ?_; rw [HV46.out]) | (at_builtin; refine Lib.wpList_append_run _ rfl _ _ _ _ rfl _ _ rfl rfl _ _ (hrun _) ?_))
    clear q47 q48 q49 q50
    go_roundw
    case rel => exact ⟨1, _, _, _, _, rfl, by decide, by go_num, HG6.out, step_all (P := fun x => ∀ g, g ≤ w.heap.size + 1 + 1 → (∀ i, i < 4 → FOff (fs i) g) → FOff x g) HJ.out HD.out, HS6.out⟩
    case measure => simp [RowKit.intOf]
   ·subst e
    have ht2 : _ = Value.int IntKind.i64 1 := ht
    subst ht2
    clear ht hi hlt
    have T0 := Lib.hid (Sf.start wr)
    obtain ⟨q51, q52, q53, q54, q55, q56, q57, q58⟩ := Fb.cells8 (HS.out.box _ mq2)
    have P59 := Lib.hid (HS.out.put [.int .i64 0, .slice none 0 0, .int .i64 0, .slice none 0 0] 26)
    have Q59 := Lib.hid (Sf.row (pre := []) P59.out [.int .i64 (fs 0).s, .slice (fs 0).a (fs 0).n (fs 0).c, .int .i64 1, .slice (fs 0).b (fs 0).m (fs 0).d])
    have T1 := Lib.hid (Sf.row (pre := []) (T0.out.put [.int .i64 0, .slice none 0 0, .int .i64 0, .slice none 0 0] 26) [.int .i64 (fs 0).s, .slice (fs 0).a (fs 0).n (fs 0).c, .int .i64 1, .slice (fs 0).b (fs 0).m (fs 0).d])
    clear T0
    obtain ⟨V60, hV60⟩ : ∃ V, ((wr.alloc (.cells #[.int .i64 0, .slice none 0 0, .int .i64 0, .slice none 0 0] 26)).setRow wr.heap.size #[.int .i64 (fs 0).s, .slice (fs 0).a (fs 0).n (fs 0).c, .int .i64 1, .slice (fs 0).b (fs 0).m (fs 0).d]) = V := ⟨_, rfl⟩
    rw [hV60] at Q59 T1
    have HV60 := Lib.hid hV60
    clear hV60
    go_upto_region 10 with (first | (refine wpList_store_row rfl _ _ _ rfl _ #[.int .i64 (fs 0).s, .slice (fs 0).a (fs 0).n (fs 0).c, .int .i64 1, .slice (fs 0).b (fs 0).m (fs 0).d] rfl rfl _ _ (P59.out.box _ List.mem_cons_self) (by kernel_rfl) rfl (by simp [Value.oneCell']) ?_; rw [HV60.out]))
    clear q51 q52 q53 q54 q55 q56 q57 q58
    obtain ⟨q61, q62, q63, q64, q65, q66, q67, q68⟩ := Fb.cells8 (Q59.out.box _ mq2)
    have P69 := Lib.hid (Q59.out.put [.int .i64 0, .slice none 0 0, .int .i64 0, .slice none 0 0] 26)
    have Q69 := Lib.hid (Sf.row (pre := []) P69.out [.int .i64 (fs 2).s, .slice (fs 2).a (fs 2).n (fs 2).c, .int .i64 1, .slice (fs 2).b (fs 2).m (fs 2).d])
    have T2 := Lib.hid (Sf.row (pre := []) (T1.out.put [.int .i64 0, .slice none 0 0, .int .i64 0, .slice none 0 0] 26) [.int .i64 (fs 2).s, .slice (fs 2).a (fs 2).n (fs 2).c, .int .i64 1, .slice (fs 2).b (fs 2).m (fs 2).d])
    clear T1
    obtain ⟨V70, hV70⟩ : ∃ V, ((V60.alloc (.cells #[.int .i64 0, .slice none 0 0, .int .i64 0, .slice none 0 0] 26)).setRow V60.heap.size #[.int .i64 (fs 2).s, .slice (fs 2).a (fs 2).n (fs 2).c, .int .i64 1, .slice (fs 2).b (fs 2).m (fs 2).d]) = V := ⟨_, rfl⟩
    rw [hV70] at Q69 T2
    have HV70 := Lib.hid hV70
    clear hV70
    go_upto_region 11 with (first | (refine wpList_store_row rfl _ _ _ rfl _ #[.int .i64 (fs 2).s, .slice (fs 2).a (fs 2).n (fs 2).c, .int .i64 1, .slice (fs 2).b (fs 2).m (fs 2).d] rfl rfl _ _ (P69.out.box _ List.mem_cons_self) (by kernel_rfl) rfl (by simp [Value.oneCell']) ?_; rw [HV70.out]))
    clear q61 q62 q63 q64 q65 q66 q67 q68
    obtain ⟨q71, q72, q73, q74, q75, q76, q77, q78⟩ := Fb.cells8 (Q69.out.box _ mq4)
    have Q79 := Lib.hid (Sf.row (pre := [(V60.heap.size, 26, [.int .i64 (fs 2).s, .slice (fs 2).a (fs 2).n (fs 2).c, .int .i64 1, .slice (fs 2).b (fs 2).m (fs 2).d])]) Q69.out [.int .i64 (fs 1).s, .slice (fs 1).a (fs 1).n (fs 1).c, .int .i64 1, .slice (fs 1).b (fs 1).m (fs 1).d])
    have T3 := Lib.hid (Sf.row (pre := [(V60.heap.size, 26, [.int .i64 (fs 2).s, .slice (fs 2).a (fs 2).n (fs 2).c, .int .i64 1, .slice (fs 2).b (fs 2).m (fs 2).d])]) T2.out [.int .i64 (fs 1).s, .slice (fs 1).a (fs 1).n (fs 1).c, .int .i64 1, .slice (fs 1).b (fs 1).m (fs 1).d])
    clear T2
    obtain ⟨V80, hV80⟩ : ∃ V, (V70.setRow wr.heap.size #[.int .i64 (fs 1).s, .slice (fs 1).a (fs 1).n (fs 1).c, .int .i64 1, .slice (fs 1).b (fs 1).m (fs 1).d]) = V := ⟨_, rfl⟩
    rw [hV80] at Q79 T3
    have HV80 := Lib.hid hV80
    clear hV80
    go_upto_region 13 with (first | (refine wpList_store_row rfl _ _ _ rfl _ #[.int .i64 (fs 1).s, .slice (fs 1).a (fs 1).n (fs 1).c, .int .i64 1, .slice (fs 1).b (fs 1).m (fs 1).d] rfl rfl _ _ (Q69.out.box _ mq1) (by kernel_rfl) rfl (by simp [Value.oneCell']) ?_; rw [HV80.out]))
    clear q71 q72 q73 q74 q75 q76 q77 q78
    go_upto_region 15 with fail
    obtain ⟨q81, q82, q83, q84⟩ := Fb.cells4 (Q79.out.box _ mq0)
    obtain ⟨q85, q86, q87, q88⟩ := Fb.cells4 (Q79.out.box _ mq1)
    go_wp2_with fail
    clear q81 q82 q83 q84 q85 q86 q87 q88
    refine (O1.out _ (Q79.out.fr mq4 mq5 E1.out) (Q79.out.fr mq2 mq3 E2.out)).mono ?_
    rintro e w6 ⟨c, rfl, hc, hb, hoff⟩
    have HC := Lib.hid hc
    have HB := Lib.hid (fun q (hq : Dm.blk (.slice a0 n0 cap0) = some q) => hoff q (Nat.lt_of_lt_of_le (HG.out.own.lt q hq) T3.out.below.size) (HO.out 1 (by decide) q (Nat.le_trans (Nat.le_add_right _ 3) (HG.out.ge q hq))) (HO.out 2 (by decide) q (Nat.le_trans (Nat.le_add_right _ 3) (HG.out.ge q hq))))
    have HD := Lib.hid (fun g (hg : g ≤ w.heap.size + 1 + 1) (hA : ∀ i, i < 4 → FOff (fs i) g) => hoff g (Nat.lt_of_le_of_lt hg (Q79.out.lt (w.heap.size + 1 + 1, 28, [.int .i64 0, .slice none 0 0, .int .i64 0, .slice none 0 0, .int .i64 0, .slice none 0 0, .int .i64 0, .slice none 0 0]) mq2)) (hA 1 (by decide)) (hA 2 (by decide)))
    have R6 := Lib.hid (Q79.out.later hb)
    have T4 := Lib.hid (T3.out.later hb)
    clear T3 Q79 hc hb hoff
    have P89 := Lib.hid (R6.out.put [.int .i64 0, .slice none 0 0, .int .i64 0, .slice none 0 0] 26)
    have Q89 := Lib.hid (Sf.row (pre := []) P89.out [.int .i64 c.s, .slice c.a c.n c.c, .int .i64 1, .slice c.b c.m c.d])
    have T5 := Lib.hid (Sf.row (pre := []) (T4.out.put [.int .i64 0, .slice none 0 0, .int .i64 0, .slice none 0 0] 26) [.int .i64 c.s, .slice c.a c.n c.c, .int .i64 1, .slice c.b c.m c.d])
    clear T4
    obtain ⟨V90, hV90⟩ : ∃ V, ((w6.alloc (.cells #[.int .i64 0, .slice none 0 0, .int .i64 0, .slice none 0 0] 26)).setRow w6.heap.size #[.int .i64 c.s, .slice c.a c.n c.c, .int .i64 1, .slice c.b c.m c.d]) = V := ⟨_, rfl⟩
    rw [hV90] at Q89 T5
    have HV90 := Lib.hid hV90
    clear hV90
    have HC6 : Hid (Fo V90 c (r 1)) := Lib.hid (HC.out.later (by rw [← HV90.out]; exact (Sf.row (pre := []) ((Sf.start w6).put [.int .i64 0, .slice none 0 0, .int .i64 0, .slice none 0 0] 26) [.int .i64 c.s, .slice c.a c.n c.c, .int .i64 1, .slice c.b c.m c.d]).below))
    clear HC
    obtain ⟨a6, cap6, wq, hrun, hG6, hgr⟩ := (HG.out.later T5.out.below).snoc (by have h9 : w.heap.size + 1 + 1 < _ := Q89.out.lt (w.heap.size + 1 + 1, 28, [.int .i64 0, .slice none 0 0, .int .i64 0, .slice none 0 0, .int .i64 0, .slice none 0 0, .int .i64 0, .slice none 0 0]) mq3; omega) (by decide) HC6.out HB.out
    have HG6 := Lib.hid hG6
    have HS6 : Hid (Sf w _ _ _) := Lib.hid (Sf.on (Bi.Sf.later (Sf.tail (Sf.tail (Sf.tail Q89.out))) (below_alloc _ (.cells #[.int .i64 c.s, .slice c.a c.n c.c, .int .i64 1, .slice c.b c.m c.d] 26))) hgr (fun q hq => ⟨Nat.le_trans (Nat.le_add_right _ 3) (HG.out.ge q hq), fun x hx => by have := HG.out.ge q hq; simp at hx; rcases hx with rfl | rfl | rfl <;> simp <;> omega, fun f hf => by have hO := fun j hj => HO.out j hj q (Nat.le_trans (Nat.le_add_right _ 3) (HG.out.ge q hq)); simp at hf; rcases hf with rfl | rfl | rfl | rfl | rfl | rfl | rfl | rfl; all_goals first | exact (hO 0 (by decide)).1 | exact (hO 0 (by decide)).2 | exact (hO 1 (by decide)).1 | exact (hO 1 (by decide)).2 | exact (hO 2 (by decide)).1 | exact (hO 2 (by decide)).2 | exact (hO 3 (by decide)).1 | exact (hO 3 (by decide)).2⟩))
    clear hG6 hgr HB HC6
    obtain ⟨q91, q92, q93, q94⟩ := Fb.cells4 (Q89.out.box _ mq0)
    go_wp2_with (first | (refine wpList_store_row rfl _ _ _ rfl _ #[.int .i64 c.s, .slice c.a c.n c.c, .int .i64 1, .slice c.b c.m c.d] rfl rfl _ _ (P89.out.box _ List.mem_cons_self) (by kernel_rfl) rfl (by simp [Value.oneCell']) ?_; rw [HV90.out]) | (at_builtin; refine Lib.wpList_append_run _ rfl _ _ _ _ rfl _ _ rfl rfl _ _ (hrun _) ?_))
    clear q91 q92 q93 q94
    go_roundw
    case rel => exact ⟨2, _, _, _, _, rfl, by decide, by go_num, HG6.out, step_all (P := fun x => ∀ g, g ≤ w.heap.size + 1 + 1 → (∀ i, i < 4 → FOff (fs i) g) → FOff x g) HJ.out HD.out, HS6.out⟩
    case measure => simp [RowKit.intOf]
   ·subst e
    have ht2 : _ = Value.int IntKind.i64 2 := ht
    subst ht2
    clear ht hi hlt
    have T0 := Lib.hid (Sf.start wr)
    obtain ⟨q95, q96, q97, q98, q99, q100, q101, q102⟩ := Fb.cells8 (HS.out.box _ mq2)
    have P103 := Lib.hid (HS.out.put [.int .i64 0, .slice none 0 0, .int .i64 0, .slice none 0 0] 26)
    have Q103 := Lib.hid (Sf.row (pre := []) P103.out [.int .i64 (fs 0).s, .slice (fs 0).a (fs 0).n (fs 0).c, .int .i64 1, .slice (fs 0).b (fs 0).m (fs 0).d])
    have T1 := Lib.hid (Sf.row (pre := []) (T0.out.put [.int .i64 0, .slice none 0 0, .int .i64 0, .slice none 0 0] 26) [.int .i64 (fs 0).s, .slice (fs 0).a (fs 0).n (fs 0).c, .int .i64 1, .slice (fs 0).b (fs 0).m (fs 0).d])
    clear T0
    obtain ⟨V104, hV104⟩ : ∃ V, ((wr.alloc (.cells #[.int .i64 0, .slice none 0 0, .int .i64 0, .slice none 0 0] 26)).setRow wr.heap.size #[.int .i64 (fs 0).s, .slice (fs 0).a (fs 0).n (fs 0).c, .int .i64 1, .slice (fs 0).b (fs 0).m (fs 0).d]) = V := ⟨_, rfl⟩
    rw [hV104] at Q103 T1
    have HV104 := Lib.hid hV104
    clear hV104
    go_upto_region 10 with (first | (refine wpList_store_row rfl _ _ _ rfl _ #[.int .i64 (fs 0).s, .slice (fs 0).a (fs 0).n (fs 0).c, .int .i64 1, .slice (fs 0).b (fs 0).m (fs 0).d] rfl rfl _ _ (P103.out.box _ List.mem_cons_self) (by kernel_rfl) rfl (by simp [Value.oneCell']) ?_; rw [HV104.out]))
    clear q95 q96 q97 q98 q99 q100 q101 q102
    obtain ⟨q105, q106, q107, q108, q109, q110, q111, q112⟩ := Fb.cells8 (Q103.out.box _ mq2)
    have P113 := Lib.hid (Q103.out.put [.int .i64 0, .slice none 0 0, .int .i64 0, .slice none 0 0] 26)
    have Q113 := Lib.hid (Sf.row (pre := []) P113.out [.int .i64 (fs 2).s, .slice (fs 2).a (fs 2).n (fs 2).c, .int .i64 1, .slice (fs 2).b (fs 2).m (fs 2).d])
    have T2 := Lib.hid (Sf.row (pre := []) (T1.out.put [.int .i64 0, .slice none 0 0, .int .i64 0, .slice none 0 0] 26) [.int .i64 (fs 2).s, .slice (fs 2).a (fs 2).n (fs 2).c, .int .i64 1, .slice (fs 2).b (fs 2).m (fs 2).d])
    clear T1
    obtain ⟨V114, hV114⟩ : ∃ V, ((V104.alloc (.cells #[.int .i64 0, .slice none 0 0, .int .i64 0, .slice none 0 0] 26)).setRow V104.heap.size #[.int .i64 (fs 2).s, .slice (fs 2).a (fs 2).n (fs 2).c, .int .i64 1, .slice (fs 2).b (fs 2).m (fs 2).d]) = V := ⟨_, rfl⟩
    rw [hV114] at Q113 T2
    have HV114 := Lib.hid hV114
    clear hV114
    go_upto_region 11 with (first | (refine wpList_store_row rfl _ _ _ rfl _ #[.int .i64 (fs 2).s, .slice (fs 2).a (fs 2).n (fs 2).c, .int .i64 1, .slice (fs 2).b (fs 2).m (fs 2).d] rfl rfl _ _ (P113.out.box _ List.mem_cons_self) (by kernel_rfl) rfl (by simp [Value.oneCell']) ?_; rw [HV114.out]))
    clear q105 q106 q107 q108 q109 q110 q111 q112
    go_upto_region 13 with fail
    obtain ⟨q115, q116, q117, q118, q119, q120, q121, q122⟩ := Fb.cells8 (Q113.out.box _ mq3)
    have Q123 := Lib.hid (Sf.row (pre := []) Q113.out [.int .i64 (fs 3).s, .slice (fs 3).a (fs 3).n (fs 3).c, .int .i64 1, .slice (fs 3).b (fs 3).m (fs 3).d])
    have T3 := Lib.hid (Sf.row (pre := []) T2.out [.int .i64 (fs 3).s, .slice (fs 3).a (fs 3).n (fs 3).c, .int .i64 1, .slice (fs 3).b (fs 3).m (fs 3).d])
    clear T2
    obtain ⟨V124, hV124⟩ : ∃ V, (V114.setRow V104.heap.size #[.int .i64 (fs 3).s, .slice (fs 3).a (fs 3).n (fs 3).c, .int .i64 1, .slice (fs 3).b (fs 3).m (fs 3).d]) = V := ⟨_, rfl⟩
    rw [hV124] at Q123 T3
    have HV124 := Lib.hid hV124
    clear hV124
    go_upto_region 15 with (first | (refine wpList_store_row rfl _ _ _ rfl _ #[.int .i64 (fs 3).s, .slice (fs 3).a (fs 3).n (fs 3).c, .int .i64 1, .slice (fs 3).b (fs 3).m (fs 3).d] rfl rfl _ _ (Q113.out.box _ mq0) (by kernel_rfl) rfl (by simp [Value.oneCell']) ?_; rw [HV124.out]))
    clear q115 q116 q117 q118 q119 q120 q121 q122
    obtain ⟨q125, q126, q127, q128⟩ := Fb.cells4 (Q123.out.box _ mq0)
    obtain ⟨q129, q130, q131, q132⟩ := Fb.cells4 (Q123.out.box _ mq1)
    go_wp2_with fail
    clear q125 q126 q127 q128 q129 q130 q131 q132
    refine (O2.out _ (Q123.out.fr mq6 mq7 E0.out) (Q123.out.fr mq0 mq1 E3.out)).mono ?_
    rintro e w7 ⟨c, rfl, hc, hb, hoff⟩
    have HC := Lib.hid hc
    have HB := Lib.hid (fun q (hq : Dm.blk (.slice a0 n0 cap0) = some q) => hoff q (Nat.lt_of_lt_of_le (HG.out.own.lt q hq) T3.out.below.size) (HO.out 0 (by decide) q (Nat.le_trans (Nat.le_add_right _ 3) (HG.out.ge q hq))) (HO.out 3 (by decide) q (Nat.le_trans (Nat.le_add_right _ 3) (HG.out.ge q hq))))
    have HD := Lib.hid (fun g (hg : g ≤ w.heap.size + 1 + 1) (hA : ∀ i, i < 4 → FOff (fs i) g) => hoff g (Nat.lt_of_le_of_lt hg (Q123.out.lt (w.heap.size + 1 + 1, 28, [.int .i64 0, .slice none 0 0, .int .i64 0, .slice none 0 0, .int .i64 0, .slice none 0 0, .int .i64 0, .slice none 0 0]) mq2)) (hA 0 (by decide)) (hA 3 (by decide)))
    have R7 := Lib.hid (Q123.out.later hb)
    have T4 := Lib.hid (T3.out.later hb)
    clear T3 Q123 hc hb hoff
    have P133 := Lib.hid (R7.out.put [.int .i64 0, .slice none 0 0, .int .i64 0, .slice none 0 0] 26)
    have Q133 := Lib.hid (Sf.row (pre := []) P133.out [.int .i64 c.s, .slice c.a c.n c.c, .int .i64 1, .slice c.b c.m c.d])
    have T5 := Lib.hid (Sf.row (pre := []) (T4.out.put [.int .i64 0, .slice none 0 0, .int .i64 0, .slice none 0 0] 26) [.int .i64 c.s, .slice c.a c.n c.c, .int .i64 1, .slice c.b c.m c.d])
    clear T4
    obtain ⟨V134, hV134⟩ : ∃ V, ((w7.alloc (.cells #[.int .i64 0, .slice none 0 0, .int .i64 0, .slice none 0 0] 26)).setRow w7.heap.size #[.int .i64 c.s, .slice c.a c.n c.c, .int .i64 1, .slice c.b c.m c.d]) = V := ⟨_, rfl⟩
    rw [hV134] at Q133 T5
    have HV134 := Lib.hid hV134
    clear hV134
    have HC6 : Hid (Fo V134 c (r 2)) := Lib.hid (HC.out.later (by rw [← HV134.out]; exact (Sf.row (pre := []) ((Sf.start w7).put [.int .i64 0, .slice none 0 0, .int .i64 0, .slice none 0 0] 26) [.int .i64 c.s, .slice c.a c.n c.c, .int .i64 1, .slice c.b c.m c.d]).below))
    clear HC
    obtain ⟨a6, cap6, wq, hrun, hG6, hgr⟩ := (HG.out.later T5.out.below).snoc (by have h9 : w.heap.size + 1 + 1 < _ := Q133.out.lt (w.heap.size + 1 + 1, 28, [.int .i64 0, .slice none 0 0, .int .i64 0, .slice none 0 0, .int .i64 0, .slice none 0 0, .int .i64 0, .slice none 0 0]) mq3; omega) (by decide) HC6.out HB.out
    have HG6 := Lib.hid hG6
    have HS6 : Hid (Sf w _ _ _) := Lib.hid (Sf.on (Bi.Sf.later (Sf.tail (Sf.tail (Sf.tail Q133.out))) (below_alloc _ (.cells #[.int .i64 c.s, .slice c.a c.n c.c, .int .i64 1, .slice c.b c.m c.d] 26))) hgr (fun q hq => ⟨Nat.le_trans (Nat.le_add_right _ 3) (HG.out.ge q hq), fun x hx => by have := HG.out.ge q hq; simp at hx; rcases hx with rfl | rfl | rfl <;> simp <;> omega, fun f hf => by have hO := fun j hj => HO.out j hj q (Nat.le_trans (Nat.le_add_right _ 3) (HG.out.ge q hq)); simp at hf; rcases hf with rfl | rfl | rfl | rfl | rfl | rfl | rfl | rfl; all_goals first | exact (hO 0 (by decide)).1 | exact (hO 0 (by decide)).2 | exact (hO 1 (by decide)).1 | exact (hO 1 (by decide)).2 | exact (hO 2 (by decide)).1 | exact (hO 2 (by decide)).2 | exact (hO 3 (by decide)).1 | exact (hO 3 (by decide)).2⟩))
    clear hG6 hgr HB HC6
    obtain ⟨q135, q136, q137, q138⟩ := Fb.cells4 (Q133.out.box _ mq0)
    go_wp2_with (first | (refine wpList_store_row rfl _ _ _ rfl _ #[.int .i64 c.s, .slice c.a c.n c.c, .int .i64 1, .slice c.b c.m c.d] rfl rfl _ _ (P133.out.box _ List.mem_cons_self) (by kernel_rfl) rfl (by simp [Value.oneCell']) ?_; rw [HV134.out]) | (at_builtin; refine Lib.wpList_append_run _ rfl _ _ _ _ rfl _ _ rfl rfl _ _ (hrun _) ?_))
    clear q135 q136 q137 q138
    go_roundw
    case rel => exact ⟨3, _, _, _, _, rfl, by decide, by go_num, HG6.out, step_all (P := fun x => ∀ g, g ≤ w.heap.size + 1 + 1 → (∀ i, i < 4 → FOff (fs i) g) → FOff x g) HJ.out HD.out, HS6.out⟩
    case measure => simp [RowKit.intOf]
   ·subst e
    have ht2 : _ = Value.int IntKind.i64 3 := ht
    subst ht2
    clear ht hi hlt
    have T0 := Lib.hid (Sf.start wr)
    obtain ⟨q139, q140, q141, q142, q143, q144, q145, q146⟩ := Fb.cells8 (HS.out.box _ mq2)
    have P147 := Lib.hid (HS.out.put [.int .i64 0, .slice none 0 0, .int .i64 0, .slice none 0 0] 26)
    have Q147 := Lib.hid (Sf.row (pre := []) P147.out [.int .i64 (fs 0).s, .slice (fs 0).a (fs 0).n (fs 0).c, .int .i64 1, .slice (fs 0).b (fs 0).m (fs 0).d])
    have T1 := Lib.hid (Sf.row (pre := []) (T0.out.put [.int .i64 0, .slice none 0 0, .int .i64 0, .slice none 0 0] 26) [.int .i64 (fs 0).s, .slice (fs 0).a (fs 0).n (fs 0).c, .int .i64 1, .slice (fs 0).b (fs 0).m (fs 0).d])
    clear T0
    obtain ⟨V148, hV148⟩ : ∃ V, ((wr.alloc (.cells #[.int .i64 0, .slice none 0 0, .int .i64 0, .slice none 0 0] 26)).setRow wr.heap.size #[.int .i64 (fs 0).s, .slice (fs 0).a (fs 0).n (fs 0).c, .int .i64 1, .slice (fs 0).b (fs 0).m (fs 0).d]) = V := ⟨_, rfl⟩
    rw [hV148] at Q147 T1
    have HV148 := Lib.hid hV148
    clear hV148
    go_upto_region 10 with (first | (refine wpList_store_row rfl _ _ _ rfl _ #[.int .i64 (fs 0).s, .slice (fs 0).a (fs 0).n (fs 0).c, .int .i64 1, .slice (fs 0).b (fs 0).m (fs 0).d] rfl rfl _ _ (P147.out.box _ List.mem_cons_self) (by kernel_rfl) rfl (by simp [Value.oneCell']) ?_; rw [HV148.out]))
    clear q139 q140 q141 q142 q143 q144 q145 q146
    obtain ⟨q149, q150, q151, q152, q153, q154, q155, q156⟩ := Fb.cells8 (Q147.out.box _ mq2)
    have P157 := Lib.hid (Q147.out.put [.int .i64 0, .slice none 0 0, .int .i64 0, .slice none 0 0] 26)
    have Q157 := Lib.hid (Sf.row (pre := []) P157.out [.int .i64 (fs 2).s, .slice (fs 2).a (fs 2).n (fs 2).c, .int .i64 1, .slice (fs 2).b (fs 2).m (fs 2).d])
    have T2 := Lib.hid (Sf.row (pre := []) (T1.out.put [.int .i64 0, .slice none 0 0, .int .i64 0, .slice none 0 0] 26) [.int .i64 (fs 2).s, .slice (fs 2).a (fs 2).n (fs 2).c, .int .i64 1, .slice (fs 2).b (fs 2).m (fs 2).d])
    clear T1
    obtain ⟨V158, hV158⟩ : ∃ V, ((V148.alloc (.cells #[.int .i64 0, .slice none 0 0, .int .i64 0, .slice none 0 0] 26)).setRow V148.heap.size #[.int .i64 (fs 2).s, .slice (fs 2).a (fs 2).n (fs 2).c, .int .i64 1, .slice (fs 2).b (fs 2).m (fs 2).d]) = V := ⟨_, rfl⟩
    rw [hV158] at Q157 T2
    have HV158 := Lib.hid hV158
    clear hV158
    go_upto_region 11 with (first | (refine wpList_store_row rfl _ _ _ rfl _ #[.int .i64 (fs 2).s, .slice (fs 2).a (fs 2).n (fs 2).c, .int .i64 1, .slice (fs 2).b (fs 2).m (fs 2).d] rfl rfl _ _ (P157.out.box _ List.mem_cons_self) (by kernel_rfl) rfl (by simp [Value.oneCell']) ?_; rw [HV158.out]))
    clear q149 q150 q151 q152 q153 q154 q155 q156
    obtain ⟨q159, q160, q161, q162, q163, q164, q165, q166⟩ := Fb.cells8 (Q157.out.box _ mq4)
    have Q167 := Lib.hid (Sf.row (pre := [(V148.heap.size, 26, [.int .i64 (fs 2).s, .slice (fs 2).a (fs 2).n (fs 2).c, .int .i64 1, .slice (fs 2).b (fs 2).m (fs 2).d])]) Q157.out [.int .i64 (fs 1).s, .slice (fs 1).a (fs 1).n (fs 1).c, .int .i64 1, .slice (fs 1).b (fs 1).m (fs 1).d])
    have T3 := Lib.hid (Sf.row (pre := [(V148.heap.size, 26, [.int .i64 (fs 2).s, .slice (fs 2).a (fs 2).n (fs 2).c, .int .i64 1, .slice (fs 2).b (fs 2).m (fs 2).d])]) T2.out [.int .i64 (fs 1).s, .slice (fs 1).a (fs 1).n (fs 1).c, .int .i64 1, .slice (fs 1).b (fs 1).m (fs 1).d])
    clear T2
    obtain ⟨V168, hV168⟩ : ∃ V, (V158.setRow wr.heap.size #[.int .i64 (fs 1).s, .slice (fs 1).a (fs 1).n (fs 1).c, .int .i64 1, .slice (fs 1).b (fs 1).m (fs 1).d]) = V := ⟨_, rfl⟩
    rw [hV168] at Q167 T3
    have HV168 := Lib.hid hV168
    clear hV168
    go_upto_region 13 with (first | (refine wpList_store_row rfl _ _ _ rfl _ #[.int .i64 (fs 1).s, .slice (fs 1).a (fs 1).n (fs 1).c, .int .i64 1, .slice (fs 1).b (fs 1).m (fs 1).d] rfl rfl _ _ (Q157.out.box _ mq1) (by kernel_rfl) rfl (by simp [Value.oneCell']) ?_; rw [HV168.out]))
    clear q159 q160 q161 q162 q163 q164 q165 q166
    obtain ⟨q169, q170, q171, q172, q173, q174, q175, q176⟩ := Fb.cells8 (Q167.out.box _ mq3)
    have Q177 := Lib.hid (Sf.row (pre := []) Q167.out [.int .i64 (fs 3).s, .slice (fs 3).a (fs 3).n (fs 3).c, .int .i64 1, .slice (fs 3).b (fs 3).m (fs 3).d])
    have T4 := Lib.hid (Sf.row (pre := []) T3.out [.int .i64 (fs 3).s, .slice (fs 3).a (fs 3).n (fs 3).c, .int .i64 1, .slice (fs 3).b (fs 3).m (fs 3).d])
    clear T3
    obtain ⟨V178, hV178⟩ : ∃ V, (V168.setRow V148.heap.size #[.int .i64 (fs 3).s, .slice (fs 3).a (fs 3).n (fs 3).c, .int .i64 1, .slice (fs 3).b (fs 3).m (fs 3).d]) = V := ⟨_, rfl⟩
    rw [hV178] at Q177 T4
    have HV178 := Lib.hid hV178
    clear hV178
    go_upto_region 15 with (first | (refine wpList_store_row rfl _ _ _ rfl _ #[.int .i64 (fs 3).s, .slice (fs 3).a (fs 3).n (fs 3).c, .int .i64 1, .slice (fs 3).b (fs 3).m (fs 3).d] rfl rfl _ _ (Q167.out.box _ mq0) (by kernel_rfl) rfl (by simp [Value.oneCell']) ?_; rw [HV178.out]))
    clear q169 q170 q171 q172 q173 q174 q175 q176
    obtain ⟨q179, q180, q181, q182⟩ := Fb.cells4 (Q177.out.box _ mq0)
    obtain ⟨q183, q184, q185, q186⟩ := Fb.cells4 (Q177.out.box _ mq1)
    go_wp2_with fail
    clear q179 q180 q181 q182 q183 q184 q185 q186
    refine (O3.out _ (Q177.out.fr mq4 mq5 E1.out) (Q177.out.fr mq0 mq1 E3.out)).mono ?_
    rintro e w8 ⟨c, rfl, hc, hb, hoff⟩
    have HC := Lib.hid hc
    have HB := Lib.hid (fun q (hq : Dm.blk (.slice a0 n0 cap0) = some q) => hoff q (Nat.lt_of_lt_of_le (HG.out.own.lt q hq) T4.out.below.size) (HO.out 1 (by decide) q (Nat.le_trans (Nat.le_add_right _ 3) (HG.out.ge q hq))) (HO.out 3 (by decide) q (Nat.le_trans (Nat.le_add_right _ 3) (HG.out.ge q hq))))
    have HD := Lib.hid (fun g (hg : g ≤ w.heap.size + 1 + 1) (hA : ∀ i, i < 4 → FOff (fs i) g) => hoff g (Nat.lt_of_le_of_lt hg (Q177.out.lt (w.heap.size + 1 + 1, 28, [.int .i64 0, .slice none 0 0, .int .i64 0, .slice none 0 0, .int .i64 0, .slice none 0 0, .int .i64 0, .slice none 0 0]) mq2)) (hA 1 (by decide)) (hA 3 (by decide)))
    have R8 := Lib.hid (Q177.out.later hb)
    have T5 := Lib.hid (T4.out.later hb)
    clear T4 Q177 hc hb hoff
    have P187 := Lib.hid (R8.out.put [.int .i64 0, .slice none 0 0, .int .i64 0, .slice none 0 0] 26)
    have Q187 := Lib.hid (Sf.row (pre := []) P187.out [.int .i64 c.s, .slice c.a c.n c.c, .int .i64 1, .slice c.b c.m c.d])
    have T6 := Lib.hid (Sf.row (pre := []) (T5.out.put [.int .i64 0, .slice none 0 0, .int .i64 0, .slice none 0 0] 26) [.int .i64 c.s, .slice c.a c.n c.c, .int .i64 1, .slice c.b c.m c.d])
    clear T5
    obtain ⟨V188, hV188⟩ : ∃ V, ((w8.alloc (.cells #[.int .i64 0, .slice none 0 0, .int .i64 0, .slice none 0 0] 26)).setRow w8.heap.size #[.int .i64 c.s, .slice c.a c.n c.c, .int .i64 1, .slice c.b c.m c.d]) = V := ⟨_, rfl⟩
    rw [hV188] at Q187 T6
    have HV188 := Lib.hid hV188
    clear hV188
    have HC6 : Hid (Fo V188 c (r 3)) := Lib.hid (HC.out.later (by rw [← HV188.out]; exact (Sf.row (pre := []) ((Sf.start w8).put [.int .i64 0, .slice none 0 0, .int .i64 0, .slice none 0 0] 26) [.int .i64 c.s, .slice c.a c.n c.c, .int .i64 1, .slice c.b c.m c.d]).below))
    clear HC
    obtain ⟨a6, cap6, wq, hrun, hG6, hgr⟩ := (HG.out.later T6.out.below).snoc (by have h9 : w.heap.size + 1 + 1 < _ := Q187.out.lt (w.heap.size + 1 + 1, 28, [.int .i64 0, .slice none 0 0, .int .i64 0, .slice none 0 0, .int .i64 0, .slice none 0 0, .int .i64 0, .slice none 0 0]) mq3; omega) (by decide) HC6.out HB.out
    have HG6 := Lib.hid hG6
    have HS6 : Hid (Sf w _ _ _) := Lib.hid (Sf.on (Bi.Sf.later (Sf.tail (Sf.tail (Sf.tail Q187.out))) (below_alloc _ (.cells #[.int .i64 c.s, .slice c.a c.n c.c, .int .i64 1, .slice c.b c.m c.d] 26))) hgr (fun q hq => ⟨Nat.le_trans (Nat.le_add_right _ 3) (HG.out.ge q hq), fun x hx => by have := HG.out.ge q hq; simp at hx; rcases hx with rfl | rfl | rfl <;> simp <;> omega, fun f hf => by have hO := fun j hj => HO.out j hj q (Nat.le_trans (Nat.le_add_right _ 3) (HG.out.ge q hq)); simp at hf; rcases hf with rfl | rfl | rfl | rfl | rfl | rfl | rfl | rfl; all_goals first | exact (hO 0 (by decide)).1 | exact (hO 0 (by decide)).2 | exact (hO 1 (by decide)).1 | exact (hO 1 (by decide)).2 | exact (hO 2 (by decide)).1 | exact (hO 2 (by decide)).2 | exact (hO 3 (by decide)).1 | exact (hO 3 (by decide)).2⟩))
    clear hG6 hgr HB HC6
    obtain ⟨q189, q190, q191, q192⟩ := Fb.cells4 (Q187.out.box _ mq0)
    go_wp2_with (first | (refine wpList_store_row rfl _ _ _ rfl _ #[.int .i64 c.s, .slice c.a c.n c.c, .int .i64 1, .slice c.b c.m c.d] rfl rfl _ _ (P187.out.box _ List.mem_cons_self) (by kernel_rfl) rfl (by simp [Value.oneCell']) ?_; rw [HV188.out]) | (at_builtin; refine Lib.wpList_append_run _ rfl _ _ _ _ rfl _ _ rfl rfl _ _ (hrun _) ?_))
    clear q189 q190 q191 q192
    go_roundw
    case rel => exact ⟨4, _, _, _, _, rfl, by decide, by go_num, HG6.out, step_all (P := fun x => ∀ g, g ≤ w.heap.size + 1 + 1 → (∀ i, i < 4 → FOff (fs i) g) → FOff x g) HJ.out HD.out, HS6.out⟩
    case measure => simp [RowKit.intOf]
  ·obtain rfl : i = 4 := by omega
   have ht2 : _ = Value.int IntKind.i64 4 := ht
   subst ht2
   clear ht hi hlt
   obtain ⟨G, cap, hv, hf⟩ := HG.out.four HR.out
   cases hv
   have HF := Lib.hid hf
   clear hf
   go_wp2_with fail
   refine (r10around HF.out (by decide) (by decide)).mono ?_
   rintro e wz ⟨p, q, hp, hq, hl, rfl, hb⟩
   have HP := Lib.hid hp
   have HQ := Lib.hid hq
   have HL := Lib.hid hl
   have R7 := Lib.hid (HS.out.later hb)
   have JP0 := Lib.hid (HJ.out p hp)
   have JQ0 := Lib.hid (HJ.out q hq)
   have JP := Lib.hid (JP0.out _ (Nat.le_refl _) (fun i hi => HO.out i hi _ (by omega)))
   have JQ := Lib.hid (JQ0.out _ (Nat.le_refl _) (fun i hi => HO.out i hi _ (by omega)))
   have HU := Lib.hid ((HG.out.fr p hp).later hb)
   have HV := Lib.hid ((HG.out.fr q hq).later hb)
   clear hb hl hp hq
   have Q193 := Lib.hid (Sf.row (pre := []) R7.out [.int .i64 (gs p).s, .slice (gs p).a (gs p).n (gs p).c, .int .i64 1, .slice (gs p).b (gs p).m (gs p).d, .int .i64 (gs q).s, .slice (gs q).a (gs q).n (gs q).c, .int .i64 1, .slice (gs q).b (gs q).m (gs q).d])
   go_wp2_with (first | refine wpList_store_row rfl _ _ _ rfl _ #[.int .i64 (gs p).s, .slice (gs p).a (gs p).n (gs p).c, .int .i64 1, .slice (gs p).b (gs p).m (gs p).d, .int .i64 (gs q).s, .slice (gs q).a (gs q).n (gs q).c, .int .i64 1, .slice (gs q).b (gs q).m (gs q).d] rfl rfl _ _ (R7.out.box _ mq0) (by kernel_rfl) rfl (by simp [Value.oneCell']) ?_)
   have ON := Lib.hid (row_on wz (w.heap.size + 1 + 1) #[.int .i64 (gs p).s, .slice (gs p).a (gs p).n (gs p).c, .int .i64 1, .slice (gs p).b (gs p).m (gs p).d, .int .i64 (gs q).s, .slice (gs q).a (gs q).n (gs q).c, .int .i64 1, .slice (gs q).b (gs q).m (gs q).d])
   refine bodyPost_ret (ret_row rfl _ _ _ _ rfl (run_loadVar_row _ _ _ _ _ (0, 0) _ (Q193.out.box _ mq0) Tryz.underlying28 rfl (by kernel_rfl))) rfl ⟨gs, p, q, HP.out, HQ.out, HL.out, rfl, HU.out.on (fun g e => by cases e; exact JP.out) ON.out, HV.out.on (fun g e => by cases e; exact JQ.out) ON.out, Q193.out.below, fun g hg hA => ⟨JP0.out g (by omega) hA, JQ0.out g (by omega) hA⟩⟩

set_option maxHeartbeats 16000000 in
theorem r10both_zero {w : World} {fs : Nat → FCell} {l : Nat → Rat} (h : ∀ i, i < 4 → Fr w (fs i).s (fs i).v (fs i).u (l i)) (hz : ∀ i, i < 4 → FSz 1000 (l i)) (hxy : l 0 ≤ l 1) (hpq : l 2 ≤ l 3) (hd : l 2 ≤ ((0 : Int) : Rat) ∧ ((0 : Int) : Rat) ≤ l 3) :
  Calls Tryz.prog 8 #[.int .i64 3, .agg #[.int .i64 (fs 0).s, .slice (fs 0).a (fs 0).n (fs 0).c, .int .i64 1, .slice (fs 0).b (fs 0).m (fs 0).d, .int .i64 (fs 1).s, .slice (fs 1).a (fs 1).n (fs 1).c, .int .i64 1, .slice (fs 1).b (fs 1).m (fs 1).d], .agg #[.int .i64 (fs 2).s, .slice (fs 2).a (fs 2).n (fs 2).c, .int .i64 1, .slice (fs 2).b (fs 2).m (fs 2).d, .int .i64 (fs 3).s, .slice (fs 3).a (fs 3).n (fs 3).c, .int .i64 1, .slice (fs 3).b (fs 3).m (fs 3).d]] w fun e w' => e = .returned (.tuple #[.agg #[.int .i64 0, .slice none 0 0, .int .i64 0, .slice none 0 0, .int .i64 0, .slice none 0 0, .int .i64 0, .slice none 0 0], .int .i64 15]) ∧ RowKit.Below w.heap.size w w' := by
 have HXY := Lib.hid (decide_eq_true hxy)
 have HPQ := Lib.hid (decide_eq_true hpq)
 have HPQ2 := Lib.hid hpq
 have HK0 : Hid ((decide (l 2 ≤ ((0 : Int) : Rat)) && decide (((0 : Int) : Rat) ≤ l 3)) = true) := Lib.hid (by rw [Bool.and_eq_true, decide_eq_true_eq, decide_eq_true_eq]; exact hd)
 have ZZ := Lib.hid fsz0
 have h0 := h 0 (by decide)
 have Z0 := Lib.hid (hz 0 (by decide))
 have E0 := Lib.hid h0.1.1
 unfold FCell.v FCell.u at h0
 have h1 := h 1 (by decide)
 have Z1 := Lib.hid (hz 1 (by decide))
 have E1 := Lib.hid h1.1.1
 unfold FCell.v FCell.u at h1
 have h2 := h 2 (by decide)
 have Z2 := Lib.hid (hz 2 (by decide))
 have E2 := Lib.hid h2.1.1
 unfold FCell.v FCell.u at h2
 have h3 := h 3 (by decide)
 have Z3 := Lib.hid (hz 3 (by decide))
 have E3 := Lib.hid h3.1.1
 unfold FCell.v FCell.u at h3
 have s0 := ((((((((((((Sf.start w).arg h0.2.2).arg h0.1.2).arg h1.2.2).arg h1.1.2).arg h2.2.2).arg h2.1.2).arg h3.2.2).arg h3.1.2).put [.int .i64 (fs 0).s, .slice (fs 0).a (fs 0).n (fs 0).c, .int .i64 1, .slice (fs 0).b (fs 0).m (fs 0).d, .int .i64 (fs 1).s, .slice (fs 1).a (fs 1).n (fs 1).c, .int .i64 1, .slice (fs 1).b (fs 1).m (fs 1).d] 28).put [.int .i64 (fs 2).s, .slice (fs 2).a (fs 2).n (fs 2).c, .int .i64 1, .slice (fs 2).b (fs 2).m (fs 2).d, .int .i64 (fs 3).s, .slice (fs 3).a (fs 3).n (fs 3).c, .int .i64 1, .slice (fs 3).b (fs 3).m (fs 3).d] 28).put [.int .i64 0, .slice none 0 0, .int .i64 0, .slice none 0 0, .int .i64 0, .slice none 0 0, .int .i64 0, .slice none 0 0] 28)
 try simp only [World.size_alloc] at s0
 have S0 := Lib.hid s0
 clear s0
 clear hxy hpq hz h h0 h1 h2 h3 hd
 go_enter Tryz.func8, Tryz.ntmps8
 obtain ⟨q1, q2, q3, q4, q5, q6, q7, q8⟩ := Fb.cells8 (S0.out.box _ mq2)
 go_wp2_with fail
 clear q1 q2 q3 q4 q5 q6 q7 q8
 refine (r10right_v (S0.out.fr mq6 mq7 E0.out) Z0.out (S0.out.fr mq4 mq5 E1.out) Z1.out HXY.out).mono ?_
 rintro e w1 ⟨rfl, hb⟩
 have R1 := Lib.hid (S0.out.later hb)
 clear hb
 obtain ⟨q9, q10, q11, q12, q13, q14, q15, q16⟩ := Fb.cells8 (R1.out.box _ mq1)
 go_wp2_with fail
 clear q9 q10 q11 q12 q13 q14 q15 q16
 refine (r10right_v (R1.out.fr mq2 mq3 E2.out) Z2.out (R1.out.fr mq0 mq1 E3.out) Z3.out HPQ.out).mono ?_
 rintro e w2 ⟨rfl, hb⟩
 have R2 := Lib.hid (R1.out.later hb)
 clear hb
 go_upto_region 3 with fail
 go_cut [29] from 23 to 29 (fun u wx => u = .bool true ∧ Hid (Sf w [(w.heap.size + 1 + 1, 28, [.int .i64 0, .slice none 0 0, .int .i64 0, .slice none 0 0, .int .i64 0, .slice none 0 0, .int .i64 0, .slice none 0 0]), (w.heap.size + 1, 28, [.int .i64 (fs 2).s, .slice (fs 2).a (fs 2).n (fs 2).c, .int .i64 1, .slice (fs 2).b (fs 2).m (fs 2).d, .int .i64 (fs 3).s, .slice (fs 3).a (fs 3).n (fs 3).c, .int .i64 1, .slice (fs 3).b (fs 3).m (fs 3).d]), (w.heap.size, 28, [.int .i64 (fs 0).s, .slice (fs 0).a (fs 0).n (fs 0).c, .int .i64 1, .slice (fs 0).b (fs 0).m (fs 0).d, .int .i64 (fs 1).s, .slice (fs 1).a (fs 1).n (fs 1).c, .int .i64 1, .slice (fs 1).b (fs 1).m (fs 1).d])] [(.slice (fs 3).a (fs 3).n (fs 3).c, digs ((l 3)).num.natAbs), (.slice (fs 3).b (fs 3).m (fs 3).d, digs ((((l 3)).den : Int)).natAbs), (.slice (fs 2).a (fs 2).n (fs 2).c, digs ((l 2)).num.natAbs), (.slice (fs 2).b (fs 2).m (fs 2).d, digs ((((l 2)).den : Int)).natAbs), (.slice (fs 1).a (fs 1).n (fs 1).c, digs ((l 1)).num.natAbs), (.slice (fs 1).b (fs 1).m (fs 1).d, digs ((((l 1)).den : Int)).natAbs), (.slice (fs 0).a (fs 0).n (fs 0).c, digs ((l 0)).num.natAbs), (.slice (fs 0).b (fs 0).m (fs 0).d, digs ((((l 0)).den : Int)).natAbs)] wx))
 case first =>
  have K0 : ∀ W F, Sf w [(w.heap.size + 1 + 1, 28, [.int .i64 0, .slice none 0 0, .int .i64 0, .slice none 0 0, .int .i64 0, .slice none 0 0, .int .i64 0, .slice none 0 0]), (w.heap.size + 1, 28, [.int .i64 (fs 2).s, .slice (fs 2).a (fs 2).n (fs 2).c, .int .i64 1, .slice (fs 2).b (fs 2).m (fs 2).d, .int .i64 (fs 3).s, .slice (fs 3).a (fs 3).n (fs 3).c, .int .i64 1, .slice (fs 3).b (fs 3).m (fs 3).d]), (w.heap.size, 28, [.int .i64 (fs 0).s, .slice (fs 0).a (fs 0).n (fs 0).c, .int .i64 1, .slice (fs 0).b (fs 0).m (fs 0).d, .int .i64 (fs 1).s, .slice (fs 1).a (fs 1).n (fs 1).c, .int .i64 1, .slice (fs 1).b (fs 1).m (fs 1).d])] F W → W.cell? ⟨w.heap.size + 1, 0, none⟩ = some (.int .i64 (fs 2).s) ∧ W.cell? ⟨w.heap.size + 1, 1, none⟩ = some (.slice (fs 2).a (fs 2).n (fs 2).c) ∧ W.cell? ⟨w.heap.size + 1, 2, none⟩ = some (.int .i64 1) ∧ W.cell? ⟨w.heap.size + 1, 3, none⟩ = some (.slice (fs 2).b (fs 2).m (fs 2).d) ∧ W.cell? ⟨w.heap.size + 1, 4, none⟩ = some (.int .i64 (fs 3).s) ∧ W.cell? ⟨w.heap.size + 1, 5, none⟩ = some (.slice (fs 3).a (fs 3).n (fs 3).c) ∧ W.cell? ⟨w.heap.size + 1, 6, none⟩ = some (.int .i64 1) ∧ W.cell? ⟨w.heap.size + 1, 7, none⟩ = some (.slice (fs 3).b (fs 3).m (fs 3).d) := fun W F h => ⟨(h.box _ mq1).cell 0, (h.box _ mq1).cell 1, (h.box _ mq1).cell 2, (h.box _ mq1).cell 3, (h.box _ mq1).cell 4, (h.box _ mq1).cell 5, (h.box _ mq1).cell 6, (h.box _ mq1).cell 7⟩
  have KK := Lib.hid K0
  clear K0
  have N0 := Lib.hid R2.out.drew
  clear R2
  have e0 := KK.out _ _ N0.out
  go_region_held3 (fun W => W.cell? ⟨w.heap.size + 1, 0, none⟩ = some (.int .i64 (fs 2).s) ∧ W.cell? ⟨w.heap.size + 1, 1, none⟩ = some (.slice (fs 2).a (fs 2).n (fs 2).c) ∧ W.cell? ⟨w.heap.size + 1, 2, none⟩ = some (.int .i64 1) ∧ W.cell? ⟨w.heap.size + 1, 3, none⟩ = some (.slice (fs 2).b (fs 2).m (fs 2).d) ∧ W.cell? ⟨w.heap.size + 1, 4, none⟩ = some (.int .i64 (fs 3).s) ∧ W.cell? ⟨w.heap.size + 1, 5, none⟩ = some (.slice (fs 3).a (fs 3).n (fs 3).c) ∧ W.cell? ⟨w.heap.size + 1, 6, none⟩ = some (.int .i64 1) ∧ W.cell? ⟨w.heap.size + 1, 7, none⟩ = some (.slice (fs 3).b (fs 3).m (fs 3).d))
   (first | (with_reducible exact e0) | (with_reducible exact e1) | (with_reducible exact e2))
   (((first | go_at_call 37 | go_at_call 20 | (rw [if_pos (by rfl)]; go_simp) | skip); (first
     | (have hG := N1; clear hG; go_at_call 20; (with_reducible refine (r10has_k PN1_1.out Z2.out PN1_2.out Z3.out PN1_3.out ZZ.out HPQ2.out HK0.out).mono ?_); rintro e y3_1 ⟨rfl, hb⟩; have N2 := Lib.hid (N1.out.later hb); clear hb; have e2 := KK.out _ _ N2.out)
     | (have hG := N0; clear hG; go_at_call 37; (with_reducible refine (rfint_k 0 (by decide) _).mono ?_); rintro e y3_0 ⟨sx3_0, ax3_0, nx3_0, cx3_0, bx3_0, mx3_0, dx3_0, rfl, hr, hb, hf, hg⟩; have E3_0 := Lib.hid hr.1.1; have N1 := Lib.hid (N0.out.ret2 hb hr.1.2 hf hr.2.2 hg); clear hr hb hf hg; have e1 := KK.out _ _ N1.out; have PN1_1 := Lib.hid (N1.out.fr mq4 mq5 E2.out); have PN1_2 := Lib.hid (N1.out.fr mq2 mq3 E3.out); have PN1_3 := Lib.hid (N1.out.fr mq0 mq1 E3_0.out))); (try dsimp only)))
  all_goals (go_wp2_with fail; go_meet; exact ⟨rfl, Lib.hid (Sf.facts N2.out (by simp))⟩)
 case rest =>
 obtain ⟨rfl, hq⟩ := hcut
 obtain ⟨w3, rfl⟩ : ∃ W, W = wc := ⟨_, rfl⟩
 have R3 := Lib.hid hq.out
 clear hq R2
 have Q17 := Lib.hid (Sf.row (pre := []) R3.out [.int .i64 0, .slice none 0 0, .int .i64 0, .slice none 0 0, .int .i64 0, .slice none 0 0, .int .i64 0, .slice none 0 0])
 go_wp2_with (first | refine wpList_store_row rfl _ _ _ rfl _ #[.int .i64 0, .slice none 0 0, .int .i64 0, .slice none 0 0, .int .i64 0, .slice none 0 0, .int .i64 0, .slice none 0 0] rfl rfl _ _ (R3.out.box _ mq0) (by kernel_rfl) rfl (by simp [Value.oneCell']) ?_)
 refine bodyPost_ret (ret_row rfl _ _ _ _ rfl (run_loadVar_row _ _ _ _ _ (0, 0) _ (Q17.out.box _ mq0) Tryz.underlying28 rfl (by kernel_rfl))) rfl ⟨rfl, Q17.out.below⟩

set_option maxHeartbeats 8000000 in
theorem r10both_bad {w : World} {s1 t1 : Int} {a1 b1 : Option Addr} {n1 c1 m1 d1 : Nat} {l1 k1 : List Int} {s2 t2 : Int} {a2 b2 : Option Addr} {n2 c2 m2 d2 : Nat} {l2 k2 : List Int} {s3 t3 : Int} {a3 b3 : Option Addr} {n3 c3 m3 d3 : Nat} {l3 k3 : List Int} {s4 t4 : Int} {a4 b4 : Option Addr} {n4 c4 m4 d4 : Nat} {l4 k4 : List Int} (o : Int) (hl1 : Ints w (.slice a1 n1 c1) l1) (hk1 : Ints w (.slice b1 m1 d1) k1) (ll1 : l1.length ≤ 1000) (lk1 : k1.length ≤ 1000) (hl2 : Ints w (.slice a2 n2 c2) l2) (hk2 : Ints w (.slice b2 m2 d2) k2) (ll2 : l2.length ≤ 1000) (lk2 : k2.length ≤ 1000) (hl3 : Ints w (.slice a3 n3 c3) l3) (hk3 : Ints w (.slice b3 m3 d3) k3) (ll3 : l3.length ≤ 1000) (lk3 : k3.length ≤ 1000) (hl4 : Ints w (.slice a4 n4 c4) l4) (hk4 : Ints w (.slice b4 m4 d4) k4) (ll4 : l4.length ≤ 1000) (lk4 : k4.length ≤ 1000) (hr : (sR s1 l1 t1 k1 s2 l2 t2 k2 && sR s3 l3 t3 k3 s4 l4 t4 k4) = false) :
  Calls Tryz.prog 8 #[.int .i64 o, .agg #[.int .i64 s1, .slice a1 n1 c1, .int .i64 t1, .slice b1 m1 d1, .int .i64 s2, .slice a2 n2 c2, .int .i64 t2, .slice b2 m2 d2], .agg #[.int .i64 s3, .slice a3 n3 c3, .int .i64 t3, .slice b3 m3 d3, .int .i64 s4, .slice a4 n4 c4, .int .i64 t4, .slice b4 m4 d4]] w fun e w' => e = .returned (.tuple #[.agg #[.int .i64 0, .slice none 0 0, .int .i64 0, .slice none 0 0, .int .i64 0, .slice none 0 0, .int .i64 0, .slice none 0 0], .int .i64 1]) ∧ RowKit.Below w.heap.size w w' := by
 rcases ea : sR s1 l1 t1 k1 s2 l2 t2 k2 with _ | _
 ·skip
  have LL1 := Lib.hid ll1
  have LK1 := Lib.hid lk1
  have LL2 := Lib.hid ll2
  have LK2 := Lib.hid lk2
  have LL3 := Lib.hid ll3
  have LK3 := Lib.hid lk3
  have LL4 := Lib.hid ll4
  have LK4 := Lib.hid lk4
  have EA := Lib.hid ea
  have s0 := ((((((((((((Sf.start w).arg hk1).arg hl1).arg hk2).arg hl2).arg hk3).arg hl3).arg hk4).arg hl4).put [.int .i64 s1, .slice a1 n1 c1, .int .i64 t1, .slice b1 m1 d1, .int .i64 s2, .slice a2 n2 c2, .int .i64 t2, .slice b2 m2 d2] 28).put [.int .i64 s3, .slice a3 n3 c3, .int .i64 t3, .slice b3 m3 d3, .int .i64 s4, .slice a4 n4 c4, .int .i64 t4, .slice b4 m4 d4] 28).put [.int .i64 0, .slice none 0 0, .int .i64 0, .slice none 0 0, .int .i64 0, .slice none 0 0, .int .i64 0, .slice none 0 0] 28)
  try simp only [World.size_alloc] at s0
  have S0 := Lib.hid s0
  clear s0
  clear hr ea hl1 hk1 ll1 lk1 hl2 hk2 ll2 lk2 hl3 hk3 ll3 lk3 hl4 hk4 ll4 lk4
  go_enter Tryz.func8, Tryz.ntmps8
  obtain ⟨q1, q2, q3, q4, q5, q6, q7, q8⟩ := Fb.cells8 (S0.out.box _ mq2)
  go_wp2_with fail
  clear q1 q2 q3 q4 q5 q6 q7 q8
  refine (r10right_raw (S0.out.ints (.slice a1 n1 c1, l1) mq6) (S0.out.ints (.slice b1 m1 d1, k1) mq7) LL1.out LK1.out (S0.out.ints (.slice a2 n2 c2, l2) mq4) (S0.out.ints (.slice b2 m2 d2, k2) mq5) LL2.out LK2.out EA.out).mono ?_
  rintro e w1 ⟨rfl, hb⟩
  have R1 := Lib.hid (S0.out.later hb)
  clear hb
  have Q9 := Lib.hid (Sf.row (pre := []) R1.out [.int .i64 0, .slice none 0 0, .int .i64 0, .slice none 0 0, .int .i64 0, .slice none 0 0, .int .i64 0, .slice none 0 0])
  go_wp2_with (first | refine wpList_store_row rfl _ _ _ rfl _ #[.int .i64 0, .slice none 0 0, .int .i64 0, .slice none 0 0, .int .i64 0, .slice none 0 0, .int .i64 0, .slice none 0 0] rfl rfl _ _ (R1.out.box _ mq0) (by kernel_rfl) rfl (by simp [Value.oneCell']) ?_)
  refine bodyPost_ret (ret_row rfl _ _ _ _ rfl (run_loadVar_row _ _ _ _ _ (0, 0) _ (Q9.out.box _ mq0) Tryz.underlying28 rfl (by kernel_rfl))) rfl ⟨rfl, Q9.out.below⟩
 ·have eb : sR s3 l3 t3 k3 s4 l4 t4 k4 = false := by rw [ea] at hr; simpa using hr
  have LL1 := Lib.hid ll1
  have LK1 := Lib.hid lk1
  have LL2 := Lib.hid ll2
  have LK2 := Lib.hid lk2
  have LL3 := Lib.hid ll3
  have LK3 := Lib.hid lk3
  have LL4 := Lib.hid ll4
  have LK4 := Lib.hid lk4
  have EA := Lib.hid ea
  have EB := Lib.hid eb
  have s0 := ((((((((((((Sf.start w).arg hk1).arg hl1).arg hk2).arg hl2).arg hk3).arg hl3).arg hk4).arg hl4).put [.int .i64 s1, .slice a1 n1 c1, .int .i64 t1, .slice b1 m1 d1, .int .i64 s2, .slice a2 n2 c2, .int .i64 t2, .slice b2 m2 d2] 28).put [.int .i64 s3, .slice a3 n3 c3, .int .i64 t3, .slice b3 m3 d3, .int .i64 s4, .slice a4 n4 c4, .int .i64 t4, .slice b4 m4 d4] 28).put [.int .i64 0, .slice none 0 0, .int .i64 0, .slice none 0 0, .int .i64 0, .slice none 0 0, .int .i64 0, .slice none 0 0] 28)
  try simp only [World.size_alloc] at s0
  have S0 := Lib.hid s0
  clear s0
  clear hr ea hl1 hk1 ll1 lk1 hl2 hk2 ll2 lk2 hl3 hk3 ll3 lk3 hl4 hk4 ll4 lk4 eb
  go_enter Tryz.func8, Tryz.ntmps8
  obtain ⟨q1, q2, q3, q4, q5, q6, q7, q8⟩ := Fb.cells8 (S0.out.box _ mq2)
  go_wp2_with fail
  clear q1 q2 q3 q4 q5 q6 q7 q8
  refine (r10right_raw (S0.out.ints (.slice a1 n1 c1, l1) mq6) (S0.out.ints (.slice b1 m1 d1, k1) mq7) LL1.out LK1.out (S0.out.ints (.slice a2 n2 c2, l2) mq4) (S0.out.ints (.slice b2 m2 d2, k2) mq5) LL2.out LK2.out EA.out).mono ?_
  rintro e w1 ⟨rfl, hb⟩
  have R1 := Lib.hid (S0.out.later hb)
  clear hb
  obtain ⟨q9, q10, q11, q12, q13, q14, q15, q16⟩ := Fb.cells8 (R1.out.box _ mq1)
  go_wp2_with fail
  clear q9 q10 q11 q12 q13 q14 q15 q16
  refine (r10right_raw (R1.out.ints (.slice a3 n3 c3, l3) mq2) (R1.out.ints (.slice b3 m3 d3, k3) mq3) LL3.out LK3.out (R1.out.ints (.slice a4 n4 c4, l4) mq0) (R1.out.ints (.slice b4 m4 d4, k4) mq1) LL4.out LK4.out EB.out).mono ?_
  rintro e w2 ⟨rfl, hb⟩
  have R2 := Lib.hid (R1.out.later hb)
  clear hb
  have Q17 := Lib.hid (Sf.row (pre := []) R2.out [.int .i64 0, .slice none 0 0, .int .i64 0, .slice none 0 0, .int .i64 0, .slice none 0 0, .int .i64 0, .slice none 0 0])
  go_wp2_with (first | refine wpList_store_row rfl _ _ _ rfl _ #[.int .i64 0, .slice none 0 0, .int .i64 0, .slice none 0 0, .int .i64 0, .slice none 0 0, .int .i64 0, .slice none 0 0] rfl rfl _ _ (R2.out.box _ mq0) (by kernel_rfl) rfl (by simp [Value.oneCell']) ?_)
  refine bodyPost_ret (ret_row rfl _ _ _ _ rfl (run_loadVar_row _ _ _ _ _ (0, 0) _ (Q17.out.box _ mq0) Tryz.underlying28 rfl (by kernel_rfl))) rfl ⟨rfl, Q17.out.below⟩
end Go.Proofs.YtgncnkojpedmdaaGreat.Sp

namespace Go.Proofs.YtgncnkojpedmdaaGreat.Sp
open Go.RowKit Bi
theorem rmin_ca {x y : Rat} (h : cmpR x y ≤ 0) : rmin x y = x := by
 unfold rmin; rw [if_neg (fun h2 => by have := cmpR_gt.2 h2; omega)]
theorem rmin_cb {x y : Rat} (h : 0 < cmpR x y) : rmin x y = y := by
 unfold rmin; rw [if_pos (cmpR_gt.1 (by have := cmpR_bd x y; omega))]
theorem rmax_ca {x y : Rat} (h : 0 ≤ cmpR x y) : rmax x y = x := by
 unfold rmax; rw [if_neg (fun h2 => by have := cmpR_lt.2 h2; omega)]
theorem rmax_cb {x y : Rat} (h : cmpR x y < 0) : rmax x y = y := by
 unfold rmax; rw [if_pos (cmpR_lt.1 (by have := cmpR_bd x y; omega))]
def opF : Nat → Rat → Rat → Rat
 | 0 => fun x y => x + y
 | 1 => fun x y => x - y
 | 2 => fun x y => x * y
 | 3 => fun x y => x / y
 | 4 => rmin
 | _ => rmax
theorem le5 {k : Nat} (h : k ≤ 5) : k = 0 ∨ k = 1 ∨ k = 2 ∨ k = 3 ∨ k = 4 ∨ k = 5 := by omega
theorem opF_sz {k : Nat} (hk : k ≤ 5) {x y : Rat} (z1 : FSz 400 x) (z2 : FSz 400 y) (h0 : k = 3 → y ≠ 0) : FSz 1000 (opF k x y) := by
 rcases le5 hk with rfl | rfl | rfl | rfl | rfl | rfl
 ·exact (z1.add z2).mono
 ·exact (z1.sub z2).mono
 ·exact (z1.mul z2).mono
 ·exact (z1.div z2 (h0 rfl)).mono
 ·show FSz 1000 (rmin x y)
  rcases rmin_or x y with e | e <;> rw [e]
  ·exact z1.mono
  ·exact z2.mono
 ·show FSz 1000 (rmax x y)
  rcases rmax_or x y with e | e <;> rw [e]
  ·exact z1.mono
  ·exact z2.mono
theorem opis {k : Nat} (hk : k ≤ 5) {X Y : FCell} {x y : Rat} (z1 : FSz 400 x) (z2 : FSz 400 y) (h0 : k = 3 → y ≠ 0) : OpIs (k : Int) X Y x y (opF k x y) := by
 have z1 := z1.mono (j := 1000)
 have z2 := z2.mono (j := 1000)
 rcases le5 hk with rfl | rfl | rfl | rfl | rfl | rfl
 ·intro W h1 h2
  refine (r10op_add h1 z1 h2 z2).mono ?_
  rintro e W' ⟨s, a, n, c, b, m, d, rfl, hr, hb, hf, hg⟩
  exact ⟨⟨s, a, n, c, b, m, d⟩, rfl, hr, hb, fun g hg' _ _ => ⟨hf g hg', hg g hg'⟩⟩
 ·intro W h1 h2
  refine (r10op_sub h1 z1 h2 z2).mono ?_
  rintro e W' ⟨s, a, n, c, b, m, d, rfl, hr, hb, hf, hg⟩
  exact ⟨⟨s, a, n, c, b, m, d⟩, rfl, hr, hb, fun g hg' _ _ => ⟨hf g hg', hg g hg'⟩⟩
 ·intro W h1 h2
  refine (r10op_mul h1 z1 h2 z2).mono ?_
  rintro e W' ⟨s, a, n, c, b, m, d, rfl, hr, hb, hf, hg⟩
  exact ⟨⟨s, a, n, c, b, m, d⟩, rfl, hr, hb, fun g hg' _ _ => ⟨hf g hg', hg g hg'⟩⟩
 ·intro W h1 h2
  refine (r10op_div h1 z1 h2 z2 (h0 rfl)).mono ?_
  rintro e W' ⟨s, a, n, c, b, m, d, rfl, hr, hb, hf, hg⟩
  exact ⟨⟨s, a, n, c, b, m, d⟩, rfl, hr, hb, fun g hg' _ _ => ⟨hf g hg', hg g hg'⟩⟩
 ·intro W h1 h2
  by_cases hc : cmpR x y ≤ 0
  ·refine (r10op_min_a h1 z1 h2 z2 hc).mono ?_
   rintro e W' ⟨rfl, hb⟩
   exact ⟨X, rfl, by show Fo W' X _; rw [show opF 4 x y = _ from rmin_ca hc]; exact Fr.later h1 hb, hb, fun g _ hx hy => hx⟩
  ·refine (r10op_min_b h1 z1 h2 z2 (by omega)).mono ?_
   rintro e W' ⟨rfl, hb⟩
   exact ⟨Y, rfl, by show Fo W' Y _; rw [show opF 4 x y = _ from rmin_cb (by omega)]; exact Fr.later h2 hb, hb, fun g _ hx hy => hy⟩
 ·intro W h1 h2
  by_cases hc : 0 ≤ cmpR x y
  ·refine (r10op_max_a h1 z1 h2 z2 hc).mono ?_
   rintro e W' ⟨rfl, hb⟩
   exact ⟨X, rfl, by show Fo W' X _; rw [show opF 5 x y = _ from rmax_ca hc]; exact Fr.later h1 hb, hb, fun g _ hx hy => hx⟩
  ·refine (r10op_max_b h1 z1 h2 z2 (by omega)).mono ?_
   rintro e W' ⟨rfl, hb⟩
   exact ⟨Y, rfl, by show Fo W' Y _; rw [show opF 5 x y = _ from rmax_cb (by omega)]; exact Fr.later h2 hb, hb, fun g _ hx hy => hy⟩
theorem least_con {f : Rat → Rat → Rat} {a b : Rat × Rat} {r : Nat → Rat} (e0 : r 0 = f a.1 b.1) (e1 : r 1 = f a.2 b.1) (e2 : r 2 = f a.1 b.2) (e3 : r 3 = f a.2 b.2) {p q : Nat} (hp : p < 4) (hq : q < 4) (h : ∀ i, i < 4 → r p ≤ r i ∧ r i ≤ r q) : r p = (conS f a b).1 ∧ r q = (conS f a b).2 := by
 have g := lo4_le (f a.1 b.1) (f a.2 b.1) (f a.1 b.2) (f a.2 b.2)
 have k := le_hi4 (f a.1 b.1) (f a.2 b.1) (f a.1 b.2) (f a.2 b.2)
 rw [← e0, ← e1, ← e2, ← e3] at g k
 have G : ∀ i, i < 4 → lo4 (r 0) (r 1) (r 2) (r 3) ≤ r i ∧ r i ≤ hi4 (r 0) (r 1) (r 2) (r 3) := by
  intro i hi
  rcases lt4 hi with e | e | e | e
  ·subst e; exact ⟨g.1, k.1⟩
  ·subst e; exact ⟨g.2.1, k.2.1⟩
  ·subst e; exact ⟨g.2.2.1, k.2.2.1⟩
  ·subst e; exact ⟨g.2.2.2, k.2.2.2⟩
 have hc : conS f a b = (lo4 (r 0) (r 1) (r 2) (r 3), hi4 (r 0) (r 1) (r 2) (r 3)) := by rw [e0, e1, e2, e3]; rfl
 rw [hc]
 refine ⟨Rat.le_antisymm ?_ (G p hp).1, Rat.le_antisymm (G q hq).2 ?_⟩
 ·rcases lo4_or (r 0) (r 1) (r 2) (r 3) with e | e | e | e <;> rw [e]
  ·exact (h 0 (by decide)).1
  ·exact (h 1 (by decide)).1
  ·exact (h 2 (by decide)).1
  ·exact (h 3 (by decide)).1
 ·rcases hi4_or (r 0) (r 1) (r 2) (r 3) with e | e | e | e <;> rw [e]
  ·exact (h 0 (by decide)).2
  ·exact (h 1 (by decide)).2
  ·exact (h 2 (by decide)).2
  ·exact (h 3 (by decide)).2
/-- A span p and an error er are returned; the slices lie in no block that was there, unless those of the arguments do. -/
def SpR (fs : Nat → FCell) (p : Rat × Rat) (er : Value) (W : World) (e : Ending) (W' : World) : Prop :=
 ∃ c d : FCell, e = .returned (.tuple #[.agg #[.int .i64 c.s, .slice c.a c.n c.c, .int .i64 1, .slice c.b c.m c.d, .int .i64 d.s, .slice d.a d.n d.c, .int .i64 1, .slice d.b d.m d.d], er]) ∧ Fo W' c p.1 ∧ Fo W' d p.2 ∧ RowKit.Below W.heap.size W W' ∧ ∀ g, g < W.heap.size → (∀ i, i < 4 → FOff (fs i) g) → FOff c g ∧ FOff d g
theorem r10both_op {w : World} {fs : Nat → FCell} {l : Nat → Rat} {k : Nat} (hk : k ≤ 5) (h : ∀ i, i < 4 → Fr w (fs i).s (fs i).v (fs i).u (l i)) (hz : ∀ i, i < 4 → FSz 400 (l i)) (hxy : l 0 ≤ l 1) (hpq : l 2 ≤ l 3) (h0 : k = 3 → ¬ In (l 2, l 3) 0) :
  Calls Tryz.prog 8 #[.int .i64 (k : Int), .agg #[.int .i64 (fs 0).s, .slice (fs 0).a (fs 0).n (fs 0).c, .int .i64 1, .slice (fs 0).b (fs 0).m (fs 0).d, .int .i64 (fs 1).s, .slice (fs 1).a (fs 1).n (fs 1).c, .int .i64 1, .slice (fs 1).b (fs 1).m (fs 1).d], .agg #[.int .i64 (fs 2).s, .slice (fs 2).a (fs 2).n (fs 2).c, .int .i64 1, .slice (fs 2).b (fs 2).m (fs 2).d, .int .i64 (fs 3).s, .slice (fs 3).a (fs 3).n (fs 3).c, .int .i64 1, .slice (fs 3).b (fs 3).m (fs 3).d]] w (SpR fs (conS (opF k) (l 0, l 1) (l 2, l 3)) (.int .i64 0) w) := by
 have hy2 : k = 3 → l 2 ≠ 0 := fun e e2 => h0 e ⟨by rw [e2]; exact Rat.le_refl, by rw [← e2]; exact hpq⟩
 have hy3 : k = 3 → l 3 ≠ 0 := fun e e2 => h0 e ⟨by rw [← e2]; exact hpq, by rw [e2]; exact Rat.le_refl⟩
 have z : ∀ i, i < 4 → FSz 1000 (l i) := fun i hi => (hz i hi).mono
 have hd : (k : Int) = 3 → ¬ (l 2 ≤ ((0 : Int) : Rat) ∧ ((0 : Int) : Rat) ≤ l 3) := fun e hc => h0 (by omega) ⟨hc.1, hc.2⟩
 have z0 := hz 0 (by decide)
 have z1 := hz 1 (by decide)
 have z2 := hz 2 (by decide)
 have z3 := hz 3 (by decide)
 refine (r10both_k (r := fun i => match i with | 0 => opF k (l 0) (l 2) | 1 => opF k (l 1) (l 2) | 2 => opF k (l 0) (l 3) | _ => opF k (l 1) (l 3)) h z hxy hpq hd (opis hk z0 z2 hy2) (opis hk z1 z2 hy2) (opis hk z0 z3 hy3) (opis hk z1 z3 hy3) (fun i hi => ?_)).mono ?_
 ·rcases lt4 hi with e | e | e | e
  ·subst e; exact opF_sz hk z0 z2 hy2
  ·subst e; exact opF_sz hk z1 z2 hy2
  ·subst e; exact opF_sz hk z0 z3 hy3
  ·subst e; exact opF_sz hk z1 z3 hy3
 ·rintro e w' ⟨gs, p, q, hp, hq, hl, rfl, h1, h2, hb, ho⟩
  have hc := least_con (f := opF k) (a := (l 0, l 1)) (b := (l 2, l 3)) rfl rfl rfl rfl hp hq hl
  rw [hc.1] at h1
  rw [hc.2] at h2
  exact ⟨gs p, gs q, rfl, h1, h2, hb, ho⟩
theorem r10hull_op {w : World} {fs : Nat → FCell} {l : Nat → Rat} (h : ∀ i, i < 4 → Fr w (fs i).s (fs i).v (fs i).u (l i)) (hz : ∀ i, i < 4 → FSz 400 (l i)) (hxy : l 0 ≤ l 1) (hpq : l 2 ≤ l 3) :
  Calls Tryz.prog 11 #[.agg #[.int .i64 (fs 0).s, .slice (fs 0).a (fs 0).n (fs 0).c, .int .i64 1, .slice (fs 0).b (fs 0).m (fs 0).d, .int .i64 (fs 1).s, .slice (fs 1).a (fs 1).n (fs 1).c, .int .i64 1, .slice (fs 1).b (fs 1).m (fs 1).d], .agg #[.int .i64 (fs 2).s, .slice (fs 2).a (fs 2).n (fs 2).c, .int .i64 1, .slice (fs 2).b (fs 2).m (fs 2).d, .int .i64 (fs 3).s, .slice (fs 3).a (fs 3).n (fs 3).c, .int .i64 1, .slice (fs 3).b (fs 3).m (fs 3).d]] w (SpR fs (hullS (l 0, l 1) (l 2, l 3)) (.int .i64 0) w) := by
 refine (r10hull_k h (fun i hi => (hz i hi).mono) hxy hpq).mono ?_
 rintro e w' ⟨p, q, hp, hq, hl, rfl, hb⟩
 have e1 : l p = (hullS (l 0, l 1) (l 2, l 3)).1 := Rat.le_antisymm (le_rmin (hl 0 (by decide)).1 (hl 2 (by decide)).1) (by
  show rmin (l 0) (l 2) ≤ l p
  rcases lt4 hp with e | e | e | e
  ·subst e; exact rmin_le.1
  ·subst e; exact Rat.le_trans rmin_le.1 hxy
  ·subst e; exact rmin_le.2
  ·subst e; exact Rat.le_trans rmin_le.2 hpq)
 have e2 : l q = (hullS (l 0, l 1) (l 2, l 3)).2 := Rat.le_antisymm (by
  show l q ≤ rmax (l 1) (l 3)
  rcases lt4 hq with e | e | e | e
  ·subst e; exact Rat.le_trans hxy rmax_le.1
  ·subst e; exact rmax_le.1
  ·subst e; exact Rat.le_trans hpq rmax_le.2
  ·subst e; exact rmax_le.2) (rmax_le' (hl 1 (by decide)).2 (hl 3 (by decide)).2)
 exact ⟨fs p, fs q, rfl, by rw [← e1]; exact Fr.later (h p hp) hb, by rw [← e2]; exact Fr.later (h q hq) hb, hb, fun g _ hA => ⟨hA p hp, hA q hq⟩⟩
end Go.Proofs.YtgncnkojpedmdaaGreat.Sp

namespace Go.Proofs.YtgncnkojpedmdaaGreat.Sp
open Go.RowKit Bi
/-- A call has returned a span. -/
theorem Sf.span {w W W' : World} {L : List FBox} {F : List (Value × List Int)} (h : Sf w L F W) (hb : RowKit.Below W.heap.size W W') {c d : FCell} {p q : Rat} (h1 : Fo W' c p) (h2 : Fo W' d q) (ho : ∀ x ∈ L, FOff c x.1 ∧ FOff d x.1) :
  Sf w L ((.slice c.a c.n c.c, digs p.num.natAbs) :: (.slice c.b c.m c.d, digs (p.den : Int).natAbs) :: (.slice d.a d.n d.c, digs q.num.natAbs) :: (.slice d.b d.m d.d, digs (q.den : Int).natAbs) :: F) W' := by
 have h' := h.later hb
 refine ⟨h'.below, h'.le, h'.box, fun f hf => ?_, fun f hf x hx => ?_, h'.pw⟩
 ·simp only [List.mem_cons] at hf
  rcases hf with rfl | rfl | rfl | rfl | hf
  ·exact h1.1.2
  ·exact h1.2.2
  ·exact h2.1.2
  ·exact h2.2.2
  ·exact h'.ints f hf
 ·simp only [List.mem_cons] at hf
  rcases hf with rfl | rfl | rfl | rfl | hf
  ·exact (ho x hx).1.1
  ·exact (ho x hx).1.2
  ·exact (ho x hx).2.1
  ·exact (ho x hx).2.2
  ·exact h'.off f hf x hx

set_option maxHeartbeats 8000000 in
theorem r10few_len {w : World} {s1 t1 : Int} {a1 b1 : Option Addr} {n1 c1 m1 d1 : Nat} {s2 t2 : Int} {a2 b2 : Option Addr} {n2 c2 m2 d2 : Nat} {k : Int} (hn1 : n1 ≤ 9223372036854775807) (hm1 : m1 ≤ 9223372036854775807) (hn2 : n2 ≤ 9223372036854775807) (hm2 : m2 ≤ 9223372036854775807) {r : Bool} (hr : ((decide ((n1 : Int) ≤ k) && decide ((m1 : Int) ≤ k)) && (decide ((n2 : Int) ≤ k) && decide ((m2 : Int) ≤ k))) = r) :
  Calls Tryz.prog 38 #[.agg #[.int .i64 s1, .slice a1 n1 c1, .int .i64 t1, .slice b1 m1 d1, .int .i64 s2, .slice a2 n2 c2, .int .i64 t2, .slice b2 m2 d2], .int .i64 k] w fun e w' => e = .returned (.bool r) ∧ RowKit.Below w.heap.size w w' := by
 have HN1 := Lib.hid hn1
 have HM1 := Lib.hid hm1
 have HN2 := Lib.hid hn2
 have HM2 := Lib.hid hm2
 obtain ⟨x, hx⟩ : ∃ x, (decide ((n1 : Int) ≤ k) && decide ((m1 : Int) ≤ k)) = x := ⟨_, rfl⟩
 obtain ⟨y, hy⟩ : ∃ y, (decide ((n2 : Int) ≤ k) && decide ((m2 : Int) ≤ k)) = y := ⟨_, rfl⟩
 rw [hx, hy] at hr
 have HX := Lib.hid hx
 have HY := Lib.hid hy
 cases x
 ·obtain rfl : false = r := by rw [← hr]; rfl
  have s0 := ((Sf.start w).put [.int .i64 s1, .slice a1 n1 c1, .int .i64 t1, .slice b1 m1 d1, .int .i64 s2, .slice a2 n2 c2, .int .i64 t2, .slice b2 m2 d2] 28)
  try simp only [World.size_alloc] at s0
  have S0 := Lib.hid s0
  clear s0
  clear hr hx hy hn1 hm1 hn2 hm2
  go_enter Tryz.func38, Tryz.ntmps38
  obtain ⟨q1, q2, q3, q4, q5, q6, q7, q8⟩ := Fb.cells8 (S0.out.box _ mq0)
  go_wp2_with fail
  clear q1 q2 q3 q4 q5 q6 q7 q8
  refine (ffew_len s1 a1 n1 c1 t1 b1 m1 d1 k _ HN1.out HM1.out _ HX.out).mono ?_
  rintro e w1 ⟨rfl, hb⟩
  have R1 := Lib.hid (S0.out.later hb)
  clear hb
  go_wp2_with fail
  go_ret
  exact ⟨rfl, R1.out.below⟩
 ·obtain rfl : y = r := by rw [← hr]; rfl
  have s0 := ((Sf.start w).put [.int .i64 s1, .slice a1 n1 c1, .int .i64 t1, .slice b1 m1 d1, .int .i64 s2, .slice a2 n2 c2, .int .i64 t2, .slice b2 m2 d2] 28)
  try simp only [World.size_alloc] at s0
  have S0 := Lib.hid s0
  clear s0
  clear hr hx hy hn1 hm1 hn2 hm2
  go_enter Tryz.func38, Tryz.ntmps38
  obtain ⟨q1, q2, q3, q4, q5, q6, q7, q8⟩ := Fb.cells8 (S0.out.box _ mq0)
  go_wp2_with fail
  clear q1 q2 q3 q4 q5 q6 q7 q8
  refine (ffew_len s1 a1 n1 c1 t1 b1 m1 d1 k _ HN1.out HM1.out _ HX.out).mono ?_
  rintro e w1 ⟨rfl, hb⟩
  have R1 := Lib.hid (S0.out.later hb)
  clear hb
  obtain ⟨q9, q10, q11, q12, q13, q14, q15, q16⟩ := Fb.cells8 (R1.out.box _ mq0)
  go_wp2_with fail
  clear q9 q10 q11 q12 q13 q14 q15 q16
  refine (ffew_len s2 a2 n2 c2 t2 b2 m2 d2 k _ HN2.out HM2.out _ HY.out).mono ?_
  rintro e w2 ⟨rfl, hb⟩
  have R2 := Lib.hid (R1.out.later hb)
  clear hb
  go_wp2_with fail
  go_ret
  exact ⟨rfl, R2.out.below⟩

/-- A span in new memory. -/
def SpF (p : Rat × Rat) (w : World) (e : Ending) (w' : World) : Prop := ∃ c d : FCell, e = .returned (.agg #[.int .i64 c.s, .slice c.a c.n c.c, .int .i64 1, .slice c.b c.m c.d, .int .i64 d.s, .slice d.a d.n d.c, .int .i64 1, .slice d.b d.m d.d]) ∧ Fo w' c p.1 ∧ Fo w' d p.2 ∧ RowKit.Below w.heap.size w w' ∧ ∀ g, g < w.heap.size → FOff c g ∧ FOff d g
set_option maxHeartbeats 8000000 in
theorem r10of {w : World} (x y : Int) (hx : -9223372036854775808 ≤ x ∧ x ≤ 9223372036854775807) (hy : -9223372036854775808 ≤ y ∧ y ≤ 9223372036854775807) :
  Calls Tryz.prog 29 #[.int .i64 x, .int .i64 y] w (SpF ((x : Rat), (y : Rat)) w) := by
 have HX := Lib.hid hx
 have HY := Lib.hid hy
 have s0 := ((Sf.start w).put [.int .i64 0, .slice none 0 0, .int .i64 0, .slice none 0 0, .int .i64 0, .slice none 0 0, .int .i64 0, .slice none 0 0] 28)
 try simp only [World.size_alloc] at s0
 have S0 := Lib.hid s0
 clear s0
 clear hx hy
 go_enter Tryz.func29, Tryz.ntmps29
 go_wp2_with fail
 refine (rfint_k x HX.out _).mono ?_
 rintro e w1 ⟨sx1, ax1, nx1, cx1, bx1, mx1, dx1, rfl, hr, hb, hf, hg⟩
 have E1 := Lib.hid hr.1.1
 have R1 := Lib.hid (S0.out.ret2 hb hr.1.2 hf hr.2.2 hg)
 have FF1 := Lib.hid (hf.mono S0.out.below.size)
 have FG1 := Lib.hid (hg.mono S0.out.below.size)
 clear hr hb hf hg
 go_wp2_with fail
 refine (rfint_k y HY.out _).mono ?_
 rintro e w2 ⟨sx2, ax2, nx2, cx2, bx2, mx2, dx2, rfl, hr, hb, hf, hg⟩
 have E2 := Lib.hid hr.1.1
 have R2 := Lib.hid (R1.out.ret2 hb hr.1.2 hf hr.2.2 hg)
 have FF2 := Lib.hid (hf.mono R1.out.below.size)
 have FG2 := Lib.hid (hg.mono R1.out.below.size)
 clear hr hb hf hg
 have Q1 := Lib.hid (Sf.row (pre := []) R2.out [.int .i64 sx1, .slice ax1 nx1 cx1, .int .i64 1, .slice bx1 mx1 dx1, .int .i64 sx2, .slice ax2 nx2 cx2, .int .i64 1, .slice bx2 mx2 dx2])
 go_wp2_with (first | refine wpList_store_row rfl _ _ _ rfl _ #[.int .i64 sx1, .slice ax1 nx1 cx1, .int .i64 1, .slice bx1 mx1 dx1, .int .i64 sx2, .slice ax2 nx2 cx2, .int .i64 1, .slice bx2 mx2 dx2] rfl rfl _ _ (R2.out.box _ mq0) (by kernel_rfl) rfl (by simp [Value.oneCell']) ?_)
 refine bodyPost_ret (results_cell_row rfl _ _ _ _ _ (0, 0) _ rfl (Q1.out.box _ mq0) Tryz.underlying28 rfl (by kernel_rfl)) rfl ⟨⟨sx1, ax1, nx1, cx1, bx1, mx1, dx1⟩, ⟨sx2, ax2, nx2, cx2, bx2, mx2, dx2⟩, rfl, (Q1.out.fr mq2 mq3 E1.out), (Q1.out.fr mq0 mq1 E2.out), Q1.out.below, fun g hg => ⟨⟨FF1.out g hg, FG1.out g hg⟩, ⟨FF2.out g hg, FG2.out g hg⟩⟩⟩

theorem same_fo {w : World} {s1 : Int} {a1 b1 : Option Addr} {n1 c1 m1 d1 : Nat} {x : Rat} {s2 : Int} {a2 b2 : Option Addr} {n2 c2 m2 d2 : Nat} {y : Rat} {s3 : Int} {a3 b3 : Option Addr} {n3 c3 m3 d3 : Nat} {z : Rat} {s4 : Int} {a4 b4 : Option Addr} {n4 c4 m4 d4 : Nat} {v : Rat} (h1 : Fr w s1 (.slice a1 n1 c1) (.slice b1 m1 d1) x) (h2 : Fr w s2 (.slice a2 n2 c2) (.slice b2 m2 d2) y) (h3 : Fr w s3 (.slice a3 n3 c3) (.slice b3 m3 d3) z) (h4 : Fr w s4 (.slice a4 n4 c4) (.slice b4 m4 d4) v) {r : Bool} (hr : (decide (x = z) && decide (y = v)) = r) :
  Calls Tryz.prog 9 #[.agg #[.int .i64 s1, .slice a1 n1 c1, .int .i64 1, .slice b1 m1 d1, .int .i64 s2, .slice a2 n2 c2, .int .i64 1, .slice b2 m2 d2], .agg #[.int .i64 s3, .slice a3 n3 c3, .int .i64 1, .slice b3 m3 d3, .int .i64 s4, .slice a4 n4 c4, .int .i64 1, .slice b4 m4 d4]] w fun e w' => e = .returned (.bool r) ∧ RowKit.Below w.heap.size w w' := by
 obtain ⟨⟨rfl, i1⟩, ⟨_, j1⟩⟩ := h1
 obtain ⟨⟨rfl, i2⟩, ⟨_, j2⟩⟩ := h2
 obtain ⟨⟨rfl, i3⟩, ⟨_, j3⟩⟩ := h3
 obtain ⟨⟨rfl, i4⟩, ⟨_, j4⟩⟩ := h4
 have := r10same_raw (s1 := x.num.sign) (t1 := 1) (s2 := y.num.sign) (t2 := 1) (s3 := z.num.sign) (t3 := 1) (s4 := v.num.sign) (t4 := 1) i1 j1 i2 j2 i3 j3 i4 j4 rfl
 rw [same_dec, same_dec, hr] at this
 exact this

set_option maxHeartbeats 8000000 in
theorem r10is {w : World} {s1 : Int} {a1 b1 : Option Addr} {n1 c1 m1 d1 : Nat} {x : Rat} {s2 : Int} {a2 b2 : Option Addr} {n2 c2 m2 d2 : Nat} {y : Rat} (i j : Int) (h1 : Fr w s1 (.slice a1 n1 c1) (.slice b1 m1 d1) x) (h2 : Fr w s2 (.slice a2 n2 c2) (.slice b2 m2 d2) y) (hi : -9223372036854775808 ≤ i ∧ i ≤ 9223372036854775807) (hj : -9223372036854775808 ≤ j ∧ j ≤ 9223372036854775807) {r : Bool} (hr : (decide (x = (i : Rat)) && decide (y = (j : Rat))) = r) :
  Calls Tryz.prog 36 #[.agg #[.int .i64 s1, .slice a1 n1 c1, .int .i64 1, .slice b1 m1 d1, .int .i64 s2, .slice a2 n2 c2, .int .i64 1, .slice b2 m2 d2], .int .i64 i, .int .i64 j] w fun e w' => e = .returned (.bool r) ∧ RowKit.Below w.heap.size w w' := by
 have HI := Lib.hid hi
 have HJ := Lib.hid hj
 have HR := Lib.hid hr
 have E1 := Lib.hid h1.1.1
 have E2 := Lib.hid h2.1.1
 have s0 := ((((((Sf.start w).arg h1.2.2).arg h1.1.2).arg h2.2.2).arg h2.1.2).put [.int .i64 s1, .slice a1 n1 c1, .int .i64 1, .slice b1 m1 d1, .int .i64 s2, .slice a2 n2 c2, .int .i64 1, .slice b2 m2 d2] 28)
 try simp only [World.size_alloc] at s0
 have S0 := Lib.hid s0
 clear s0
 clear hi hj hr h1 h2
 go_enter Tryz.func36, Tryz.ntmps36
 go_upto_region 1 with fail
 have K0 : ∀ W F, Sf w [(w.heap.size, 28, [.int .i64 s1, .slice a1 n1 c1, .int .i64 1, .slice b1 m1 d1, .int .i64 s2, .slice a2 n2 c2, .int .i64 1, .slice b2 m2 d2])] F W → W.cell? ⟨w.heap.size, 0, none⟩ = some (.int .i64 s1) ∧ W.cell? ⟨w.heap.size, 1, none⟩ = some (.slice a1 n1 c1) ∧ W.cell? ⟨w.heap.size, 2, none⟩ = some (.int .i64 1) ∧ W.cell? ⟨w.heap.size, 3, none⟩ = some (.slice b1 m1 d1) ∧ W.cell? ⟨w.heap.size, 4, none⟩ = some (.int .i64 s2) ∧ W.cell? ⟨w.heap.size, 5, none⟩ = some (.slice a2 n2 c2) ∧ W.cell? ⟨w.heap.size, 6, none⟩ = some (.int .i64 1) ∧ W.cell? ⟨w.heap.size, 7, none⟩ = some (.slice b2 m2 d2) := fun W F h => ⟨(h.box _ mq0).cell 0, (h.box _ mq0).cell 1, (h.box _ mq0).cell 2, (h.box _ mq0).cell 3, (h.box _ mq0).cell 4, (h.box _ mq0).cell 5, (h.box _ mq0).cell 6, (h.box _ mq0).cell 7⟩
 have KK := Lib.hid K0
 clear K0
 have N0 := Lib.hid S0.out.drew
 clear S0
 have e0 := KK.out _ _ N0.out
 go_region_held3 (fun W => W.cell? ⟨w.heap.size, 0, none⟩ = some (.int .i64 s1) ∧ W.cell? ⟨w.heap.size, 1, none⟩ = some (.slice a1 n1 c1) ∧ W.cell? ⟨w.heap.size, 2, none⟩ = some (.int .i64 1) ∧ W.cell? ⟨w.heap.size, 3, none⟩ = some (.slice b1 m1 d1) ∧ W.cell? ⟨w.heap.size, 4, none⟩ = some (.int .i64 s2) ∧ W.cell? ⟨w.heap.size, 5, none⟩ = some (.slice a2 n2 c2) ∧ W.cell? ⟨w.heap.size, 6, none⟩ = some (.int .i64 1) ∧ W.cell? ⟨w.heap.size, 7, none⟩ = some (.slice b2 m2 d2))
  (first | (with_reducible exact e0) | (with_reducible exact e1) | (with_reducible exact e2))
  (((first | go_at_call 29 | go_at_call 9 | (rw [if_pos (by rfl)]; go_simp) | skip); (first
    | (have hG := N1; clear hG; go_at_call 9; (with_reducible refine (same_fo PN1_1.out PN1_2.out PN1_3.out PN1_4.out HR.out).mono ?_); rintro e y1_1 ⟨rfl, hb⟩; have N2 := Lib.hid (N1.out.later hb); clear hb; have e2 := KK.out _ _ N2.out)
    | (have hG := N0; clear hG; go_at_call 29; (with_reducible refine (r10of i j HI.out HJ.out).mono ?_); rintro e y1_0 ⟨c1_0, d1_0, rfl, h1, h2, hb, ho⟩; have EC1_0 := Lib.hid h1.1.1; have ED1_0 := Lib.hid h2.1.1; have N1 := Lib.hid (Sf.span N0.out hb h1 h2 (fun x hx => ho x.1 (N0.out.lt x hx))); clear h1 h2 hb ho; have e1 := KK.out _ _ N1.out; have PN1_1 := Lib.hid (N1.out.fr mq6 mq7 E1.out); have PN1_2 := Lib.hid (N1.out.fr mq4 mq5 E2.out); have PN1_3 := Lib.hid (N1.out.fr mq0 mq1 EC1_0.out); have PN1_4 := Lib.hid (N1.out.fr mq2 mq3 ED1_0.out))); (try dsimp only)))
 all_goals (go_wp2_with fail; go_ret; exact ⟨rfl, N2.out.below⟩)
end Go.Proofs.YtgncnkojpedmdaaGreat.Sp
