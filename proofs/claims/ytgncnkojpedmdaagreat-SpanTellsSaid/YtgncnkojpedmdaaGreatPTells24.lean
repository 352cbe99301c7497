/- The program and the reference of span return the same, for any cells. -/
import Derived.Test.YtgncnkojpedmdaaGreatPTells23
set_option maxRecDepth 100000
namespace Go.Proofs.YtgncnkojpedmdaaGreat.Sp
open Go.RowKit Bi
def Far (A : List Value) (B : Nat) (v : Value) : Prop := ∀ g, g < B → (∀ x ∈ A, Off x g) → Off v g
theorem Fresh.far {B : Nat} {v : Value} (h : Fresh B v) (A : List Value) : Far A B v := fun g hg _ => h g hg
theorem far_mem {A : List Value} {v : Value} (h : v ∈ A) (B : Nat) : Far A B v := fun _ _ hA => hA v h
def FG1 (A : List Value) (s : Int) (l : List Int) (t : Int) (k : List Int) (w : World) (e : Ending) (w' : World) : Prop :=
 ∃ a n c b m d, e = .returned (.agg #[.int .i64 s, .slice a n c, .int .i64 t, .slice b m d]) ∧ Ints w' (.slice a n c) l ∧ Ints w' (.slice b m d) k ∧ RowKit.Below w.heap.size w w' ∧ Far A w.heap.size (.slice a n c) ∧ Far A w.heap.size (.slice b m d)
theorem FV.fg {r : Rat} {w w' : World} {e : Ending} (h : FV r w e w') (A : List Value) : FG1 A r.num.sign (digs r.num.natAbs) 1 (digs (r.den : Int).natAbs) w e w' := by
 obtain ⟨s, a, n, c, b, m, d, rfl, hr, hb, hf, hg⟩ := h
 obtain rfl := hr.1.1
 exact ⟨a, n, c, b, m, d, rfl, hr.1.2, hr.2.2, hb, Fresh.far hf A, Fresh.far hg A⟩
theorem Sf.retG {w W W' : World} {L : List FBox} {F : List (Value × List Int)} {A : List Value} (h : Sf w L F W) (hA : ∀ v ∈ A, ∀ g, w.heap.size ≤ g → Off v g) (hb : RowKit.Below W.heap.size W W') {v : Value} {l : List Int} (hi : Ints W' v l) (hf : Far A W.heap.size v) : Sf w L ((v, l) :: F) W' := by
 have h' := h.later hb
 refine ⟨h'.below, h'.le, h'.box, fun f hf' => ?_, fun f hf' x hx => ?_, h'.pw⟩
 ·rcases List.mem_cons.1 hf' with rfl | hf'
  ·exact hi
  ·exact h'.ints f hf'
 ·rcases List.mem_cons.1 hf' with rfl | hf'
  ·exact hf x.1 (h.lt x hx) (fun v hv => hA v hv x.1 (h.le x hx))
  ·exact h.off f hf' x hx
theorem Sf.retG2 {w W W' : World} {L : List FBox} {F : List (Value × List Int)} {A : List Value} (h : Sf w L F W) (hA : ∀ v ∈ A, ∀ g, w.heap.size ≤ g → Off v g) (hb : RowKit.Below W.heap.size W W') {v u : Value} {l m : List Int} (hi : Ints W' v l) (hj : Ints W' u m) (hf : Far A W.heap.size v) (hg : Far A W.heap.size u) : Sf w L ((v, l) :: (u, m) :: F) W' := by
 have h' := Sf.retG h hA hb hj hg
 refine ⟨h'.below, h'.le, h'.box, fun f hf' => ?_, fun f hf' x hx => ?_, h'.pw⟩
 ·rcases List.mem_cons.1 hf' with rfl | hf'
  ·exact hi
  ·exact h'.ints f hf'
 ·rcases List.mem_cons.1 hf' with rfl | hf'
  ·exact hf x.1 (h.lt x hx) (fun v hv => hA v hv x.1 (h.le x hx))
  ·exact h'.off f hf' x hx

/-- What a span's cells hold: two signs and two lists for each end. -/
structure SD where
 s1 : Int
 l1 : List Int
 t1 : Int
 k1 : List Int
 s2 : Int
 l2 : List Int
 t2 : Int
 k2 : List Int
/-- A call that returns a span, valid or not; its slices lie in no block that was there, unless those of A do. -/
def SpG (sh : Value → Value) (A : List Value) (D : SD) (w : World) (e : Ending) (w' : World) : Prop :=
 ∃ (a1 : Option Addr) (n1 c1 : Nat) (b1 : Option Addr) (m1 d1 : Nat) (a2 : Option Addr) (n2 c2 : Nat) (b2 : Option Addr) (m2 d2 : Nat), e = .returned (sh (.agg #[.int .i64 D.s1, .slice a1 n1 c1, .int .i64 D.t1, .slice b1 m1 d1, .int .i64 D.s2, .slice a2 n2 c2, .int .i64 D.t2, .slice b2 m2 d2])) ∧
  (Ints w' (.slice a1 n1 c1) D.l1 ∧ Ints w' (.slice b1 m1 d1) D.k1 ∧ Ints w' (.slice a2 n2 c2) D.l2 ∧ Ints w' (.slice b2 m2 d2) D.k2) ∧ RowKit.Below w.heap.size w w' ∧ Far A w.heap.size (.slice a1 n1 c1) ∧ Far A w.heap.size (.slice b1 m1 d1) ∧ Far A w.heap.size (.slice a2 n2 c2) ∧ Far A w.heap.size (.slice b2 m2 d2)
def ratD (r : Rat × Rat) : SD := ⟨r.1.num.sign, digs r.1.num.natAbs, 1, digs (r.1.den : Int).natAbs, r.2.num.sign, digs r.2.num.natAbs, 1, digs (r.2.den : Int).natAbs⟩
def zD : SD := ⟨0, [], 0, [], 0, [], 0, []⟩
theorem SpP.g {sh : Value → Value} {r : Rat × Rat} {w w' : World} {e : Ending} (h : SpP sh r w e w') (A : List Value) : SpG sh A (ratD r) w e w' := by
 obtain ⟨⟨s, a, n, c, b, m, d⟩, ⟨s', a', n', c', b', m', d'⟩, he, h1, h2, hb, ho⟩ := h
 obtain rfl : s = r.1.num.sign := h1.1.1
 obtain rfl : s' = r.2.num.sign := h2.1.1
 exact ⟨a, n, c, b, m, d, a', n', c', b', m', d', he, ⟨h1.1.2, h1.2.2, h2.1.2, h2.2.2⟩, hb, fun g hg _ => (ho g hg).1.1, fun g hg _ => (ho g hg).1.2, fun g hg _ => (ho g hg).2.1, fun g hg _ => (ho g hg).2.2⟩
theorem zero_g {sh : Value → Value} {w w' : World} {e : Ending} (h : e = .returned (sh (.agg #[.int .i64 0, .slice none 0 0, .int .i64 0, .slice none 0 0, .int .i64 0, .slice none 0 0, .int .i64 0, .slice none 0 0])) ∧ RowKit.Below w.heap.size w w') (A : List Value) : SpG sh A zD w e w' :=
 ⟨none, 0, 0, none, 0, 0, none, 0, 0, none, 0, 0, h.1, ⟨Ints.nil _, Ints.nil _, Ints.nil _, Ints.nil _⟩, h.2, fun g _ _ => off_nil g 0 0, fun g _ _ => off_nil g 0 0, fun g _ _ => off_nil g 0 0, fun g _ _ => off_nil g 0 0⟩
theorem SpR.g {fs : Nat → FCell} {r : Rat × Rat} {er : Value} {w w' : World} {e : Ending} (h : SpR fs r er w e w') {A : List Value} (hA : ∀ i, i < 4 → .slice (fs i).a (fs i).n (fs i).c ∈ A ∧ .slice (fs i).b (fs i).m (fs i).d ∈ A) : SpG (fun v => .tuple #[v, er]) A (ratD r) w e w' := by
 obtain ⟨⟨s, a, n, c, b, m, d⟩, ⟨s', a', n', c', b', m', d'⟩, he, h1, h2, hb, ho⟩ := h
 obtain rfl : s = r.1.num.sign := h1.1.1
 obtain rfl : s' = r.2.num.sign := h2.1.1
 have hf : ∀ g, (∀ x ∈ A, Off x g) → ∀ i, i < 4 → FOff (fs i) g := fun g h i hi => ⟨h _ (hA i hi).1, h _ (hA i hi).2⟩
 exact ⟨a, n, c, b, m, d, a', n', c', b', m', d', he, ⟨h1.1.2, h1.2.2, h2.1.2, h2.2.2⟩, hb, fun g hg h => (ho g hg (hf g h)).1.1, fun g hg h => (ho g hg (hf g h)).1.2, fun g hg h => (ho g hg (hf g h)).2.1, fun g hg h => (ho g hg (hf g h)).2.2⟩
/-- .. that is put together of slices of A. -/
theorem args_g {sh : Value → Value} {A : List Value} {r : Rat × Rat} {w w' : World} {e : Ending} {s1 s2 : Int} {a1 b1 a2 b2 : Option Addr} {n1 c1 m1 d1 n2 c2 m2 d2 : Nat} (h : e = .returned (sh (.agg #[.int .i64 s1, .slice a1 n1 c1, .int .i64 1, .slice b1 m1 d1, .int .i64 s2, .slice a2 n2 c2, .int .i64 1, .slice b2 m2 d2])) ∧ RowKit.Below w.heap.size w w') (h1 : Fr w s1 (.slice a1 n1 c1) (.slice b1 m1 d1) r.1) (h2 : Fr w s2 (.slice a2 n2 c2) (.slice b2 m2 d2) r.2) (m : .slice a1 n1 c1 ∈ A ∧ .slice b1 m1 d1 ∈ A ∧ .slice a2 n2 c2 ∈ A ∧ .slice b2 m2 d2 ∈ A) : SpG sh A (ratD r) w e w' := by
 obtain rfl : s1 = r.1.num.sign := h1.1.1
 obtain rfl : s2 = r.2.num.sign := h2.1.1
 exact ⟨a1, n1, c1, b1, m1, d1, a2, n2, c2, b2, m2, d2, h.1, ⟨h1.1.2.later h.2, h1.2.2.later h.2, h2.1.2.later h.2, h2.2.2.later h.2⟩, h.2, far_mem m.1 _, far_mem m.2.1 _, far_mem m.2.2.1 _, far_mem m.2.2.2 _⟩
theorem Sf.retG4 {w W W' : World} {L : List FBox} {F : List (Value × List Int)} {A : List Value} (h : Sf w L F W) (hA : ∀ v ∈ A, ∀ g, w.heap.size ≤ g → Off v g) (hb : RowKit.Below W.heap.size W W') {v1 u1 v2 u2 : Value} {l1 k1 l2 k2 : List Int} (hi : Ints W' v1 l1 ∧ Ints W' u1 k1 ∧ Ints W' v2 l2 ∧ Ints W' u2 k2) (f1 : Far A W.heap.size v1) (f2 : Far A W.heap.size u1) (f3 : Far A W.heap.size v2) (f4 : Far A W.heap.size u2) : Sf w L ((v1, l1) :: (u1, k1) :: (v2, l2) :: (u2, k2) :: F) W' := by
 have h1 := Sf.retG2 h hA hb hi.1 hi.2.1 f1 f2
 have h2 := Sf.retG2 h hA hb hi.2.2.1 hi.2.2.2 f3 f4
 refine ⟨h1.below, h1.le, h1.box, fun f hf => ?_, fun f hf x hx => ?_, h1.pw⟩
 ·rcases List.mem_cons.1 hf with rfl | hf
  ·exact hi.1
  ·rcases List.mem_cons.1 hf with rfl | hf
   ·exact hi.2.1
   ·exact h2.ints f hf
 ·rcases List.mem_cons.1 hf with rfl | hf
  ·exact h1.off _ List.mem_cons_self x hx
  ·rcases List.mem_cons.1 hf with rfl | hf
   ·exact h1.off _ (List.mem_cons_of_mem _ List.mem_cons_self) x hx
   ·exact h2.off f hf x hx
theorem fg1_zero {w w' : World} {e : Ending} (h : e = .returned (.agg #[.int .i64 0, .slice none 0 0, .int .i64 0, .slice none 0 0]) ∧ RowKit.Below w.heap.size w w') (A : List Value) : FG1 A 0 [] 0 [] w e w' :=
 ⟨none, 0, 0, none, 0, 0, h.1, Ints.nil _, Ints.nil _, h.2, fun g _ _ => off_nil g 0 0, fun g _ _ => off_nil g 0 0⟩
theorem r10inside_any {w : World} {s1 t1 : Int} {a1 b1 : Option Addr} {n1 c1 m1 d1 : Nat} {l1 k1 : List Int} {s2 t2 : Int} {a2 b2 : Option Addr} {n2 c2 m2 d2 : Nat} {l2 k2 : List Int} {s3 t3 : Int} {a3 b3 : Option Addr} {n3 c3 m3 d3 : Nat} {l3 k3 : List Int} {s4 t4 : Int} {a4 b4 : Option Addr} {n4 c4 m4 d4 : Nat} {l4 k4 : List Int} (hl1 : Ints w (.slice a1 n1 c1) l1) (hk1 : Ints w (.slice b1 m1 d1) k1) (ll1 : l1.length ≤ 1000) (lk1 : k1.length ≤ 1000) (hl2 : Ints w (.slice a2 n2 c2) l2) (hk2 : Ints w (.slice b2 m2 d2) k2) (ll2 : l2.length ≤ 1000) (lk2 : k2.length ≤ 1000) (hl3 : Ints w (.slice a3 n3 c3) l3) (hk3 : Ints w (.slice b3 m3 d3) k3) (ll3 : l3.length ≤ 1000) (lk3 : k3.length ≤ 1000) (hl4 : Ints w (.slice a4 n4 c4) l4) (hk4 : Ints w (.slice b4 m4 d4) k4) (ll4 : l4.length ≤ 1000) (lk4 : k4.length ≤ 1000) {r : Bool} (hr : inB s1 l1 t1 k1 s2 l2 t2 k2 s3 l3 t3 k3 s4 l4 t4 k4 = r) :
  Calls Tryz.prog 22 #[.agg #[.int .i64 s1, .slice a1 n1 c1, .int .i64 t1, .slice b1 m1 d1, .int .i64 s2, .slice a2 n2 c2, .int .i64 t2, .slice b2 m2 d2], .agg #[.int .i64 s3, .slice a3 n3 c3, .int .i64 t3, .slice b3 m3 d3, .int .i64 s4, .slice a4 n4 c4, .int .i64 t4, .slice b4 m4 d4]] w fun e w' => e = .returned (.bool r) ∧ RowKit.Below w.heap.size w w' := by
 rcases h : (sR s1 l1 t1 k1 s2 l2 t2 k2 && sR s3 l3 t3 k3 s4 l4 t4 k4) with _ | _
 ·obtain rfl : false = r := by rw [← hr]; unfold inB; rw [h]; rfl
  exact r10inside_bad hl1 hk1 ll1 lk1 hl2 hk2 ll2 lk2 hl3 hk3 ll3 lk3 hl4 hk4 ll4 lk4 h
 ·have hh := h
  simp only [Bool.and_eq_true] at hh
  obtain ⟨x, y, ⟨rfl, rfl, rfl, rfl⟩, ⟨rfl, rfl, rfl, rfl⟩, hxy⟩ := sR_good hh.1
  obtain ⟨p, q, ⟨rfl, rfl, rfl, rfl⟩, ⟨rfl, rfl, rfl, rfl⟩, hpq⟩ := sR_good hh.2
  refine r10inside_k (⟨⟨rfl, hl1⟩, ⟨(den_sign x).symm, hk1⟩⟩ : Fr w _ _ _ x) ⟨Sz.of ll1, Sz.of lk1⟩ (⟨⟨rfl, hl2⟩, ⟨(den_sign y).symm, hk2⟩⟩ : Fr w _ _ _ y) ⟨Sz.of ll2, Sz.of lk2⟩ (⟨⟨rfl, hl3⟩, ⟨(den_sign p).symm, hk3⟩⟩ : Fr w _ _ _ p) ⟨Sz.of ll3, Sz.of lk3⟩ (⟨⟨rfl, hl4⟩, ⟨(den_sign q).symm, hk4⟩⟩ : Fr w _ _ _ q) ⟨Sz.of ll4, Sz.of lk4⟩ hxy hpq ?_
  rw [← hr]
  unfold inB
  rw [h, ratOf_is, ratOf_is, ratOf_is, ratOf_is, Bool.true_and, Bool.eq_iff_iff]
  simp only [Bool.and_eq_true, decide_eq_true_eq]
  exact ⟨fun e => ⟨e.1.1, e.2.2⟩, fun e => ⟨⟨e.1, Rat.le_trans hxy e.2⟩, Rat.le_trans e.1 hxy, e.2⟩⟩
theorem r10has_any {w : World} {s1 t1 : Int} {a1 b1 : Option Addr} {n1 c1 m1 d1 : Nat} {l1 k1 : List Int} {s2 t2 : Int} {a2 b2 : Option Addr} {n2 c2 m2 d2 : Nat} {l2 k2 : List Int} {s3 t3 : Int} {a3 b3 : Option Addr} {n3 c3 m3 d3 : Nat} {l3 k3 : List Int} (hl1 : Ints w (.slice a1 n1 c1) l1) (hk1 : Ints w (.slice b1 m1 d1) k1) (ll1 : l1.length ≤ 1000) (lk1 : k1.length ≤ 1000) (hl2 : Ints w (.slice a2 n2 c2) l2) (hk2 : Ints w (.slice b2 m2 d2) k2) (ll2 : l2.length ≤ 1000) (lk2 : k2.length ≤ 1000) (hl3 : Ints w (.slice a3 n3 c3) l3) (hk3 : Ints w (.slice b3 m3 d3) k3) (ll3 : l3.length ≤ 1000) (lk3 : k3.length ≤ 1000) {r : Bool} (hr : hasB s1 l1 t1 k1 s2 l2 t2 k2 s3 l3 t3 k3 = r) :
  Calls Tryz.prog 20 #[.agg #[.int .i64 s1, .slice a1 n1 c1, .int .i64 t1, .slice b1 m1 d1, .int .i64 s2, .slice a2 n2 c2, .int .i64 t2, .slice b2 m2 d2], .agg #[.int .i64 s3, .slice a3 n3 c3, .int .i64 t3, .slice b3 m3 d3]] w fun e w' => e = .returned (.bool r) ∧ RowKit.Below w.heap.size w w' := by
 rcases h : (sR s1 l1 t1 k1 s2 l2 t2 k2 && fRightB s3 l3 t3 k3) with _ | _
 ·obtain rfl : false = r := by rw [← hr]; unfold hasB; rw [h]; rfl
  exact r10has_bad hl1 hk1 ll1 lk1 hl2 hk2 ll2 lk2 hl3 hk3 ll3 lk3 h
 ·have hh := h
  simp only [Bool.and_eq_true] at hh
  obtain ⟨x, y, ⟨rfl, rfl, rfl, rfl⟩, ⟨rfl, rfl, rfl, rfl⟩, hxy⟩ := sR_good hh.1
  obtain ⟨p, rfl, rfl, rfl, rfl⟩ := fright_of hh.2
  refine r10has_k (⟨⟨rfl, hl1⟩, ⟨(den_sign x).symm, hk1⟩⟩ : Fr w _ _ _ x) ⟨Sz.of ll1, Sz.of lk1⟩ (⟨⟨rfl, hl2⟩, ⟨(den_sign y).symm, hk2⟩⟩ : Fr w _ _ _ y) ⟨Sz.of ll2, Sz.of lk2⟩ (⟨⟨rfl, hl3⟩, ⟨(den_sign p).symm, hk3⟩⟩ : Fr w _ _ _ p) ⟨Sz.of ll3, Sz.of lk3⟩ hxy ?_
  rw [← hr]
  unfold hasB
  rw [h, ratOf_is, ratOf_is, ratOf_is]; rfl

theorem pair_play {w : World} {s1 t1 : Int} {a1 b1 : Option Addr} {n1 c1 m1 d1 : Nat} {l1 k1 : List Int} {s2 t2 : Int} {a2 b2 : Option Addr} {n2 c2 m2 d2 : Nat} {l2 k2 : List Int} {s3 t3 : Int} {a3 b3 : Option Addr} {n3 c3 m3 d3 : Nat} {l3 k3 : List Int} {s4 t4 : Int} {a4 b4 : Option Addr} {n4 c4 m4 d4 : Nat} {l4 k4 : List Int} {a5 b5 : Option Addr} {n5 c5 m5 d5 : Nat} (hl1 : Ints w (.slice a1 n1 c1) l1) (hk1 : Ints w (.slice b1 m1 d1) k1) (ll1 : l1.length ≤ 4) (lk1 : k1.length ≤ 4) (hl2 : Ints w (.slice a2 n2 c2) l2) (hk2 : Ints w (.slice b2 m2 d2) k2) (ll2 : l2.length ≤ 4) (lk2 : k2.length ≤ 4) (hl3 : Ints w (.slice a3 n3 c3) l3) (hk3 : Ints w (.slice b3 m3 d3) k3) (ll3 : l3.length ≤ 4) (lk3 : k3.length ≤ 4) (hl4 : Ints w (.slice a4 n4 c4) l4) (hk4 : Ints w (.slice b4 m4 d4) k4) (ll4 : l4.length ≤ 4) (lk4 : k4.length ≤ 4) {k : Nat} (hk : k ≤ 5) : ∃ (D : SD) (er : Int), (∀ W, RowKit.Below w.heap.size w W → Calls Tryz.prog 7 #[.int .i64 (k : Int), .agg #[.int .i64 s1, .slice a1 n1 c1, .int .i64 t1, .slice b1 m1 d1, .int .i64 s2, .slice a2 n2 c2, .int .i64 t2, .slice b2 m2 d2], .agg #[.int .i64 s3, .slice a3 n3 c3, .int .i64 t3, .slice b3 m3 d3, .int .i64 s4, .slice a4 n4 c4, .int .i64 t4, .slice b4 m4 d4]] W (SpG (fun v => .tuple #[v, .int .i64 er]) [.slice a1 n1 c1, .slice b1 m1 d1, .slice a2 n2 c2, .slice b2 m2 d2, .slice a3 n3 c3, .slice b3 m3 d3, .slice a4 n4 c4, .slice b4 m4 d4, .slice a5 n5 c5, .slice b5 m5 d5] D W)) ∧ (∀ W, RowKit.Below w.heap.size w W → Calls Tryz.prog 8 #[.int .i64 (k : Int), .agg #[.int .i64 s1, .slice a1 n1 c1, .int .i64 t1, .slice b1 m1 d1, .int .i64 s2, .slice a2 n2 c2, .int .i64 t2, .slice b2 m2 d2], .agg #[.int .i64 s3, .slice a3 n3 c3, .int .i64 t3, .slice b3 m3 d3, .int .i64 s4, .slice a4 n4 c4, .int .i64 t4, .slice b4 m4 d4]] W (SpG (fun v => .tuple #[v, .int .i64 er]) [.slice a1 n1 c1, .slice b1 m1 d1, .slice a2 n2 c2, .slice b2 m2 d2, .slice a3 n3 c3, .slice b3 m3 d3, .slice a4 n4 c4, .slice b4 m4 d4, .slice a5 n5 c5, .slice b5 m5 d5] D W)) := by
 rcases h : (sR s1 l1 t1 k1 s2 l2 t2 k2 && sR s3 l3 t3 k3 s4 l4 t4 k4) with _ | _
 ·exact ⟨zD, 1, fun W hb => (p10play_bad hk (hl1.later hb) (hk1.later hb) (by omega) (by omega) (hl2.later hb) (hk2.later hb) (by omega) (by omega) (hl3.later hb) (hk3.later hb) (by omega) (by omega) (hl4.later hb) (hk4.later hb) (by omega) (by omega) h).mono fun e w' h => zero_g (sh := fun v => .tuple #[v, .int .i64 1]) h _, fun W hb => (r10both_bad (k : Int) (hl1.later hb) (hk1.later hb) (by omega) (by omega) (hl2.later hb) (hk2.later hb) (by omega) (by omega) (hl3.later hb) (hk3.later hb) (by omega) (by omega) (hl4.later hb) (hk4.later hb) (by omega) (by omega) h).mono fun e w' h => zero_g (sh := fun v => .tuple #[v, .int .i64 1]) h _⟩
 ·simp only [Bool.and_eq_true] at h
  obtain ⟨x, y, ⟨rfl, rfl, rfl, rfl⟩, ⟨rfl, rfl, rfl, rfl⟩, hxy⟩ := sR_good h.1
  obtain ⟨p, q, ⟨rfl, rfl, rfl, rfl⟩, ⟨rfl, rfl, rfl, rfl⟩, hpq⟩ := sR_good h.2
  have F1 : Fr w _ _ _ x := ⟨⟨rfl, hl1⟩, ⟨(den_sign x).symm, hk1⟩⟩
  have Z1 : FSz 4 x := ⟨Sz.of ll1, Sz.of lk1⟩
  have F2 : Fr w _ _ _ y := ⟨⟨rfl, hl2⟩, ⟨(den_sign y).symm, hk2⟩⟩
  have Z2 : FSz 4 y := ⟨Sz.of ll2, Sz.of lk2⟩
  have F3 : Fr w _ _ _ p := ⟨⟨rfl, hl3⟩, ⟨(den_sign p).symm, hk3⟩⟩
  have Z3 : FSz 4 p := ⟨Sz.of ll3, Sz.of lk3⟩
  have F4 : Fr w _ _ _ q := ⟨⟨rfl, hl4⟩, ⟨(den_sign q).symm, hk4⟩⟩
  have Z4 : FSz 4 q := ⟨Sz.of ll4, Sz.of lk4⟩
  by_cases hz : k = 3 ∧ In (p, q) 0
  ·obtain ⟨rfl, hz⟩ := hz
   refine ⟨zD, 15, fun W hb => ?_, fun W hb => ?_⟩
   ·exact (play_zero (F1.later hb) (FSz.mono Z1 (j := 400)) (F2.later hb) (FSz.mono Z2 (j := 400)) (F3.later hb) (FSz.mono Z3 (j := 400)) (F4.later hb) (FSz.mono Z4 (j := 400)) hxy hpq hz).mono fun e w' h => zero_g (sh := fun v => .tuple #[v, .int .i64 15]) h _
   ·exact (r10both_zero (fs := fun i => match i with | 0 => ⟨x.num.sign, a1, n1, c1, b1, m1, d1⟩ | 1 => ⟨y.num.sign, a2, n2, c2, b2, m2, d2⟩ | 2 => ⟨p.num.sign, a3, n3, c3, b3, m3, d3⟩ | _ => ⟨q.num.sign, a4, n4, c4, b4, m4, d4⟩) (l := fun i => match i with | 0 => x | 1 => y | 2 => p | _ => q) (fun i hi => by rcases lt4 hi with rfl | rfl | rfl | rfl; exact F1.later hb; exact F2.later hb; exact F3.later hb; exact F4.later hb) (fun i hi => by rcases lt4 hi with rfl | rfl | rfl | rfl ; exact FSz.mono Z1 (j := 1000); exact FSz.mono Z2 (j := 1000); exact FSz.mono Z3 (j := 1000); exact FSz.mono Z4 (j := 1000)) hxy hpq hz).mono fun e w' h => zero_g (sh := fun v => .tuple #[v, .int .i64 15]) h _
  ·refine ⟨ratD (conS (opF k) (x, y) (p, q)), 0, fun W hb => ?_, fun W hb => ?_⟩
   ·exact (p10play hk (F1.later hb) (FSz.mono Z1 (j := 400)) (F2.later hb) (FSz.mono Z2 (j := 400)) (F3.later hb) (FSz.mono Z3 (j := 400)) (F4.later hb) (FSz.mono Z4 (j := 400)) hxy hpq (fun e f => hz ⟨e, f⟩) rfl).mono fun e w' h => SpP.g h _
   ·exact (r10both_op (fs := fun i => match i with | 0 => ⟨x.num.sign, a1, n1, c1, b1, m1, d1⟩ | 1 => ⟨y.num.sign, a2, n2, c2, b2, m2, d2⟩ | 2 => ⟨p.num.sign, a3, n3, c3, b3, m3, d3⟩ | _ => ⟨q.num.sign, a4, n4, c4, b4, m4, d4⟩) (l := fun i => match i with | 0 => x | 1 => y | 2 => p | _ => q) hk (fun i hi => by rcases lt4 hi with rfl | rfl | rfl | rfl; exact F1.later hb; exact F2.later hb; exact F3.later hb; exact F4.later hb) (fun i hi => by rcases lt4 hi with rfl | rfl | rfl | rfl ; exact FSz.mono Z1 (j := 400); exact FSz.mono Z2 (j := 400); exact FSz.mono Z3 (j := 400); exact FSz.mono Z4 (j := 400)) hxy hpq (fun e f => hz ⟨e, f⟩)).mono fun e w' h => SpR.g h (fun i hi => by rcases lt4 hi with rfl | rfl | rfl | rfl <;> simp)

theorem pair_hull {w : World} {s1 t1 : Int} {a1 b1 : Option Addr} {n1 c1 m1 d1 : Nat} {l1 k1 : List Int} {s2 t2 : Int} {a2 b2 : Option Addr} {n2 c2 m2 d2 : Nat} {l2 k2 : List Int} {s3 t3 : Int} {a3 b3 : Option Addr} {n3 c3 m3 d3 : Nat} {l3 k3 : List Int} {s4 t4 : Int} {a4 b4 : Option Addr} {n4 c4 m4 d4 : Nat} {l4 k4 : List Int} {a5 b5 : Option Addr} {n5 c5 m5 d5 : Nat} (hl1 : Ints w (.slice a1 n1 c1) l1) (hk1 : Ints w (.slice b1 m1 d1) k1) (ll1 : l1.length ≤ 4) (lk1 : k1.length ≤ 4) (hl2 : Ints w (.slice a2 n2 c2) l2) (hk2 : Ints w (.slice b2 m2 d2) k2) (ll2 : l2.length ≤ 4) (lk2 : k2.length ≤ 4) (hl3 : Ints w (.slice a3 n3 c3) l3) (hk3 : Ints w (.slice b3 m3 d3) k3) (ll3 : l3.length ≤ 4) (lk3 : k3.length ≤ 4) (hl4 : Ints w (.slice a4 n4 c4) l4) (hk4 : Ints w (.slice b4 m4 d4) k4) (ll4 : l4.length ≤ 4) (lk4 : k4.length ≤ 4) : ∃ (D : SD) (er : Int), (∀ W, RowKit.Below w.heap.size w W → Calls Tryz.prog 10 #[.agg #[.int .i64 s1, .slice a1 n1 c1, .int .i64 t1, .slice b1 m1 d1, .int .i64 s2, .slice a2 n2 c2, .int .i64 t2, .slice b2 m2 d2], .agg #[.int .i64 s3, .slice a3 n3 c3, .int .i64 t3, .slice b3 m3 d3, .int .i64 s4, .slice a4 n4 c4, .int .i64 t4, .slice b4 m4 d4]] W (SpG (fun v => .tuple #[v, .int .i64 er]) [.slice a1 n1 c1, .slice b1 m1 d1, .slice a2 n2 c2, .slice b2 m2 d2, .slice a3 n3 c3, .slice b3 m3 d3, .slice a4 n4 c4, .slice b4 m4 d4, .slice a5 n5 c5, .slice b5 m5 d5] D W)) ∧ (∀ W, RowKit.Below w.heap.size w W → Calls Tryz.prog 11 #[.agg #[.int .i64 s1, .slice a1 n1 c1, .int .i64 t1, .slice b1 m1 d1, .int .i64 s2, .slice a2 n2 c2, .int .i64 t2, .slice b2 m2 d2], .agg #[.int .i64 s3, .slice a3 n3 c3, .int .i64 t3, .slice b3 m3 d3, .int .i64 s4, .slice a4 n4 c4, .int .i64 t4, .slice b4 m4 d4]] W (SpG (fun v => .tuple #[v, .int .i64 er]) [.slice a1 n1 c1, .slice b1 m1 d1, .slice a2 n2 c2, .slice b2 m2 d2, .slice a3 n3 c3, .slice b3 m3 d3, .slice a4 n4 c4, .slice b4 m4 d4, .slice a5 n5 c5, .slice b5 m5 d5] D W)) := by
 rcases h : (sR s1 l1 t1 k1 s2 l2 t2 k2 && sR s3 l3 t3 k3 s4 l4 t4 k4) with _ | _
 ·exact ⟨zD, 1, fun W hb => (p10hull_bad (hl1.later hb) (hk1.later hb) (by omega) (by omega) (hl2.later hb) (hk2.later hb) (by omega) (by omega) (hl3.later hb) (hk3.later hb) (by omega) (by omega) (hl4.later hb) (hk4.later hb) (by omega) (by omega) h).mono fun e w' h => zero_g (sh := fun v => .tuple #[v, .int .i64 1]) h _, fun W hb => (r10hull_bad (hl1.later hb) (hk1.later hb) (by omega) (by omega) (hl2.later hb) (hk2.later hb) (by omega) (by omega) (hl3.later hb) (hk3.later hb) (by omega) (by omega) (hl4.later hb) (hk4.later hb) (by omega) (by omega) h).mono fun e w' h => zero_g (sh := fun v => .tuple #[v, .int .i64 1]) h _⟩
 ·simp only [Bool.and_eq_true] at h
  obtain ⟨x, y, ⟨rfl, rfl, rfl, rfl⟩, ⟨rfl, rfl, rfl, rfl⟩, hxy⟩ := sR_good h.1
  obtain ⟨p, q, ⟨rfl, rfl, rfl, rfl⟩, ⟨rfl, rfl, rfl, rfl⟩, hpq⟩ := sR_good h.2
  have F1 : Fr w _ _ _ x := ⟨⟨rfl, hl1⟩, ⟨(den_sign x).symm, hk1⟩⟩
  have Z1 : FSz 4 x := ⟨Sz.of ll1, Sz.of lk1⟩
  have F2 : Fr w _ _ _ y := ⟨⟨rfl, hl2⟩, ⟨(den_sign y).symm, hk2⟩⟩
  have Z2 : FSz 4 y := ⟨Sz.of ll2, Sz.of lk2⟩
  have F3 : Fr w _ _ _ p := ⟨⟨rfl, hl3⟩, ⟨(den_sign p).symm, hk3⟩⟩
  have Z3 : FSz 4 p := ⟨Sz.of ll3, Sz.of lk3⟩
  have F4 : Fr w _ _ _ q := ⟨⟨rfl, hl4⟩, ⟨(den_sign q).symm, hk4⟩⟩
  have Z4 : FSz 4 q := ⟨Sz.of ll4, Sz.of lk4⟩
  refine ⟨ratD (hullS (x, y) (p, q)), 0, fun W hb => ?_, fun W hb => ?_⟩
  ·exact (p10hull (F1.later hb) (FSz.mono Z1 (j := 400)) (F2.later hb) (FSz.mono Z2 (j := 400)) (F3.later hb) (FSz.mono Z3 (j := 400)) (F4.later hb) (FSz.mono Z4 (j := 400)) hxy hpq rfl).mono fun e w' h => SpP.g h _
  ·exact (r10hull_op (fs := fun i => match i with | 0 => ⟨x.num.sign, a1, n1, c1, b1, m1, d1⟩ | 1 => ⟨y.num.sign, a2, n2, c2, b2, m2, d2⟩ | 2 => ⟨p.num.sign, a3, n3, c3, b3, m3, d3⟩ | _ => ⟨q.num.sign, a4, n4, c4, b4, m4, d4⟩) (l := fun i => match i with | 0 => x | 1 => y | 2 => p | _ => q) (fun i hi => by rcases lt4 hi with rfl | rfl | rfl | rfl; exact F1.later hb; exact F2.later hb; exact F3.later hb; exact F4.later hb) (fun i hi => by rcases lt4 hi with rfl | rfl | rfl | rfl ; exact FSz.mono Z1 (j := 400); exact FSz.mono Z2 (j := 400); exact FSz.mono Z3 (j := 400); exact FSz.mono Z4 (j := 400)) hxy hpq).mono fun e w' h => SpR.g h (fun i hi => by rcases lt4 hi with rfl | rfl | rfl | rfl <;> simp)

theorem pair_meet {w : World} {s1 t1 : Int} {a1 b1 : Option Addr} {n1 c1 m1 d1 : Nat} {l1 k1 : List Int} {s2 t2 : Int} {a2 b2 : Option Addr} {n2 c2 m2 d2 : Nat} {l2 k2 : List Int} {s3 t3 : Int} {a3 b3 : Option Addr} {n3 c3 m3 d3 : Nat} {l3 k3 : List Int} {s4 t4 : Int} {a4 b4 : Option Addr} {n4 c4 m4 d4 : Nat} {l4 k4 : List Int} {a5 b5 : Option Addr} {n5 c5 m5 d5 : Nat} (hl1 : Ints w (.slice a1 n1 c1) l1) (hk1 : Ints w (.slice b1 m1 d1) k1) (ll1 : l1.length ≤ 4) (lk1 : k1.length ≤ 4) (hl2 : Ints w (.slice a2 n2 c2) l2) (hk2 : Ints w (.slice b2 m2 d2) k2) (ll2 : l2.length ≤ 4) (lk2 : k2.length ≤ 4) (hl3 : Ints w (.slice a3 n3 c3) l3) (hk3 : Ints w (.slice b3 m3 d3) k3) (ll3 : l3.length ≤ 4) (lk3 : k3.length ≤ 4) (hl4 : Ints w (.slice a4 n4 c4) l4) (hk4 : Ints w (.slice b4 m4 d4) k4) (ll4 : l4.length ≤ 4) (lk4 : k4.length ≤ 4) : ∃ (D : SD) (ok : Bool), (∀ W, RowKit.Below w.heap.size w W → Calls Tryz.prog 12 #[.agg #[.int .i64 s1, .slice a1 n1 c1, .int .i64 t1, .slice b1 m1 d1, .int .i64 s2, .slice a2 n2 c2, .int .i64 t2, .slice b2 m2 d2], .agg #[.int .i64 s3, .slice a3 n3 c3, .int .i64 t3, .slice b3 m3 d3, .int .i64 s4, .slice a4 n4 c4, .int .i64 t4, .slice b4 m4 d4]] W (SpG (fun v => .tuple #[v, .bool ok]) [.slice a1 n1 c1, .slice b1 m1 d1, .slice a2 n2 c2, .slice b2 m2 d2, .slice a3 n3 c3, .slice b3 m3 d3, .slice a4 n4 c4, .slice b4 m4 d4, .slice a5 n5 c5, .slice b5 m5 d5] D W)) ∧ (∀ W, RowKit.Below w.heap.size w W → Calls Tryz.prog 13 #[.agg #[.int .i64 s1, .slice a1 n1 c1, .int .i64 t1, .slice b1 m1 d1, .int .i64 s2, .slice a2 n2 c2, .int .i64 t2, .slice b2 m2 d2], .agg #[.int .i64 s3, .slice a3 n3 c3, .int .i64 t3, .slice b3 m3 d3, .int .i64 s4, .slice a4 n4 c4, .int .i64 t4, .slice b4 m4 d4]] W (SpG (fun v => .tuple #[v, .bool ok]) [.slice a1 n1 c1, .slice b1 m1 d1, .slice a2 n2 c2, .slice b2 m2 d2, .slice a3 n3 c3, .slice b3 m3 d3, .slice a4 n4 c4, .slice b4 m4 d4, .slice a5 n5 c5, .slice b5 m5 d5] D W)) := by
 rcases h : (sR s1 l1 t1 k1 s2 l2 t2 k2 && sR s3 l3 t3 k3 s4 l4 t4 k4) with _ | _
 ·exact ⟨zD, false, fun W hb => (p10meet_bad (hl1.later hb) (hk1.later hb) (by omega) (by omega) (hl2.later hb) (hk2.later hb) (by omega) (by omega) (hl3.later hb) (hk3.later hb) (by omega) (by omega) (hl4.later hb) (hk4.later hb) (by omega) (by omega) h).mono fun e w' h => zero_g (sh := fun v => .tuple #[v, .bool false]) h _, fun W hb => (r10meet_bad (hl1.later hb) (hk1.later hb) (by omega) (by omega) (hl2.later hb) (hk2.later hb) (by omega) (by omega) (hl3.later hb) (hk3.later hb) (by omega) (by omega) (hl4.later hb) (hk4.later hb) (by omega) (by omega) h).mono fun e w' h => zero_g (sh := fun v => .tuple #[v, .bool false]) h _⟩
 ·simp only [Bool.and_eq_true] at h
  obtain ⟨x, y, ⟨rfl, rfl, rfl, rfl⟩, ⟨rfl, rfl, rfl, rfl⟩, hxy⟩ := sR_good h.1
  obtain ⟨p, q, ⟨rfl, rfl, rfl, rfl⟩, ⟨rfl, rfl, rfl, rfl⟩, hpq⟩ := sR_good h.2
  have F1 : Fr w _ _ _ x := ⟨⟨rfl, hl1⟩, ⟨(den_sign x).symm, hk1⟩⟩
  have Z1 : FSz 4 x := ⟨Sz.of ll1, Sz.of lk1⟩
  have F2 : Fr w _ _ _ y := ⟨⟨rfl, hl2⟩, ⟨(den_sign y).symm, hk2⟩⟩
  have Z2 : FSz 4 y := ⟨Sz.of ll2, Sz.of lk2⟩
  have F3 : Fr w _ _ _ p := ⟨⟨rfl, hl3⟩, ⟨(den_sign p).symm, hk3⟩⟩
  have Z3 : FSz 4 p := ⟨Sz.of ll3, Sz.of lk3⟩
  have F4 : Fr w _ _ _ q := ⟨⟨rfl, hl4⟩, ⟨(den_sign q).symm, hk4⟩⟩
  have Z4 : FSz 4 q := ⟨Sz.of ll4, Sz.of lk4⟩
  rcases Int.lt_or_le (cmpR x p) 0 with hl | hl
  ·have el := rmax_cb hl
   rcases Int.lt_or_le 0 (cmpR y q) with hh | hh
   ·have eh := rmin_cb hh
    by_cases hm : p ≤ q
    ·refine ⟨ratD (p, q), true, fun W hb => ?_, fun W hb => ?_⟩
     ·exact (p10meet (F1.later hb) (FSz.mono Z1 (j := 400)) (F2.later hb) (FSz.mono Z2 (j := 400)) (F3.later hb) (FSz.mono Z3 (j := 400)) (F4.later hb) (FSz.mono Z4 (j := 400)) hxy hpq (r := (p, q)) (by unfold meetS; rw [el, eh]) hm).mono fun e w' h => SpP.g h _
     ·exact (r10meet_bb_some (F1.later hb) (FSz.mono Z1 (j := 1000)) (F2.later hb) (FSz.mono Z2 (j := 1000)) (F3.later hb) (FSz.mono Z3 (j := 1000)) (F4.later hb) (FSz.mono Z4 (j := 1000)) hxy hpq hl hh hm).mono fun e w' h => args_g (sh := fun v => .tuple #[v, .bool true]) (r := (p, q)) h (F3.later hb) (F4.later hb) (by simp)
    ·refine ⟨zD, false, fun W hb => ?_, fun W hb => ?_⟩
     ·exact (p10meet_none (F1.later hb) (FSz.mono Z1 (j := 400)) (F2.later hb) (FSz.mono Z2 (j := 400)) (F3.later hb) (FSz.mono Z3 (j := 400)) (F4.later hb) (FSz.mono Z4 (j := 400)) hxy hpq (by unfold meetS; rw [el, eh]; exact hm)).mono fun e w' h => zero_g (sh := fun v => .tuple #[v, .bool false]) h _
     ·exact (r10meet_bb_none (F1.later hb) (FSz.mono Z1 (j := 1000)) (F2.later hb) (FSz.mono Z2 (j := 1000)) (F3.later hb) (FSz.mono Z3 (j := 1000)) (F4.later hb) (FSz.mono Z4 (j := 1000)) hxy hpq hl hh hm).mono fun e w' h => zero_g (sh := fun v => .tuple #[v, .bool false]) h _
   ·have eh := rmin_ca hh
    by_cases hm : p ≤ y
    ·refine ⟨ratD (p, y), true, fun W hb => ?_, fun W hb => ?_⟩
     ·exact (p10meet (F1.later hb) (FSz.mono Z1 (j := 400)) (F2.later hb) (FSz.mono Z2 (j := 400)) (F3.later hb) (FSz.mono Z3 (j := 400)) (F4.later hb) (FSz.mono Z4 (j := 400)) hxy hpq (r := (p, y)) (by unfold meetS; rw [el, eh]) hm).mono fun e w' h => SpP.g h _
     ·exact (r10meet_ba_some (F1.later hb) (FSz.mono Z1 (j := 1000)) (F2.later hb) (FSz.mono Z2 (j := 1000)) (F3.later hb) (FSz.mono Z3 (j := 1000)) (F4.later hb) (FSz.mono Z4 (j := 1000)) hxy hpq hl hh hm).mono fun e w' h => args_g (sh := fun v => .tuple #[v, .bool true]) (r := (p, y)) h (F3.later hb) (F2.later hb) (by simp)
    ·refine ⟨zD, false, fun W hb => ?_, fun W hb => ?_⟩
     ·exact (p10meet_none (F1.later hb) (FSz.mono Z1 (j := 400)) (F2.later hb) (FSz.mono Z2 (j := 400)) (F3.later hb) (FSz.mono Z3 (j := 400)) (F4.later hb) (FSz.mono Z4 (j := 400)) hxy hpq (by unfold meetS; rw [el, eh]; exact hm)).mono fun e w' h => zero_g (sh := fun v => .tuple #[v, .bool false]) h _
     ·exact (r10meet_ba_none (F1.later hb) (FSz.mono Z1 (j := 1000)) (F2.later hb) (FSz.mono Z2 (j := 1000)) (F3.later hb) (FSz.mono Z3 (j := 1000)) (F4.later hb) (FSz.mono Z4 (j := 1000)) hxy hpq hl hh hm).mono fun e w' h => zero_g (sh := fun v => .tuple #[v, .bool false]) h _
  ·have el := rmax_ca hl
   rcases Int.lt_or_le 0 (cmpR y q) with hh | hh
   ·have eh := rmin_cb hh
    by_cases hm : x ≤ q
    ·refine ⟨ratD (x, q), true, fun W hb => ?_, fun W hb => ?_⟩
     ·exact (p10meet (F1.later hb) (FSz.mono Z1 (j := 400)) (F2.later hb) (FSz.mono Z2 (j := 400)) (F3.later hb) (FSz.mono Z3 (j := 400)) (F4.later hb) (FSz.mono Z4 (j := 400)) hxy hpq (r := (x, q)) (by unfold meetS; rw [el, eh]) hm).mono fun e w' h => SpP.g h _
     ·exact (r10meet_ab_some (F1.later hb) (FSz.mono Z1 (j := 1000)) (F2.later hb) (FSz.mono Z2 (j := 1000)) (F3.later hb) (FSz.mono Z3 (j := 1000)) (F4.later hb) (FSz.mono Z4 (j := 1000)) hxy hpq hl hh hm).mono fun e w' h => args_g (sh := fun v => .tuple #[v, .bool true]) (r := (x, q)) h (F1.later hb) (F4.later hb) (by simp)
    ·refine ⟨zD, false, fun W hb => ?_, fun W hb => ?_⟩
     ·exact (p10meet_none (F1.later hb) (FSz.mono Z1 (j := 400)) (F2.later hb) (FSz.mono Z2 (j := 400)) (F3.later hb) (FSz.mono Z3 (j := 400)) (F4.later hb) (FSz.mono Z4 (j := 400)) hxy hpq (by unfold meetS; rw [el, eh]; exact hm)).mono fun e w' h => zero_g (sh := fun v => .tuple #[v, .bool false]) h _
     ·exact (r10meet_ab_none (F1.later hb) (FSz.mono Z1 (j := 1000)) (F2.later hb) (FSz.mono Z2 (j := 1000)) (F3.later hb) (FSz.mono Z3 (j := 1000)) (F4.later hb) (FSz.mono Z4 (j := 1000)) hxy hpq hl hh hm).mono fun e w' h => zero_g (sh := fun v => .tuple #[v, .bool false]) h _
   ·have eh := rmin_ca hh
    by_cases hm : x ≤ y
    ·refine ⟨ratD (x, y), true, fun W hb => ?_, fun W hb => ?_⟩
     ·exact (p10meet (F1.later hb) (FSz.mono Z1 (j := 400)) (F2.later hb) (FSz.mono Z2 (j := 400)) (F3.later hb) (FSz.mono Z3 (j := 400)) (F4.later hb) (FSz.mono Z4 (j := 400)) hxy hpq (r := (x, y)) (by unfold meetS; rw [el, eh]) hm).mono fun e w' h => SpP.g h _
     ·exact (r10meet_aa_some (F1.later hb) (FSz.mono Z1 (j := 1000)) (F2.later hb) (FSz.mono Z2 (j := 1000)) (F3.later hb) (FSz.mono Z3 (j := 1000)) (F4.later hb) (FSz.mono Z4 (j := 1000)) hxy hpq hl hh hm).mono fun e w' h => args_g (sh := fun v => .tuple #[v, .bool true]) (r := (x, y)) h (F1.later hb) (F2.later hb) (by simp)
    ·refine ⟨zD, false, fun W hb => ?_, fun W hb => ?_⟩
     ·exact (p10meet_none (F1.later hb) (FSz.mono Z1 (j := 400)) (F2.later hb) (FSz.mono Z2 (j := 400)) (F3.later hb) (FSz.mono Z3 (j := 400)) (F4.later hb) (FSz.mono Z4 (j := 400)) hxy hpq (by unfold meetS; rw [el, eh]; exact hm)).mono fun e w' h => zero_g (sh := fun v => .tuple #[v, .bool false]) h _
     ·exact (r10meet_aa_none (F1.later hb) (FSz.mono Z1 (j := 1000)) (F2.later hb) (FSz.mono Z2 (j := 1000)) (F3.later hb) (FSz.mono Z3 (j := 1000)) (F4.later hb) (FSz.mono Z4 (j := 1000)) hxy hpq hl hh hm).mono fun e w' h => zero_g (sh := fun v => .tuple #[v, .bool false]) h _

theorem pair_neg {w : World} {s1 t1 : Int} {a1 b1 : Option Addr} {n1 c1 m1 d1 : Nat} {l1 k1 : List Int} {s2 t2 : Int} {a2 b2 : Option Addr} {n2 c2 m2 d2 : Nat} {l2 k2 : List Int} {a3 b3 : Option Addr} {n3 c3 m3 d3 : Nat} {a4 b4 : Option Addr} {n4 c4 m4 d4 : Nat} {a5 b5 : Option Addr} {n5 c5 m5 d5 : Nat} (hl1 : Ints w (.slice a1 n1 c1) l1) (hk1 : Ints w (.slice b1 m1 d1) k1) (ll1 : l1.length ≤ 4) (lk1 : k1.length ≤ 4) (hl2 : Ints w (.slice a2 n2 c2) l2) (hk2 : Ints w (.slice b2 m2 d2) k2) (ll2 : l2.length ≤ 4) (lk2 : k2.length ≤ 4) : ∃ D : SD, (∀ W, RowKit.Below w.heap.size w W → Calls Tryz.prog 26 #[.agg #[.int .i64 s1, .slice a1 n1 c1, .int .i64 t1, .slice b1 m1 d1, .int .i64 s2, .slice a2 n2 c2, .int .i64 t2, .slice b2 m2 d2]] W (SpG (fun v => v) [.slice a1 n1 c1, .slice b1 m1 d1, .slice a2 n2 c2, .slice b2 m2 d2, .slice a3 n3 c3, .slice b3 m3 d3, .slice a4 n4 c4, .slice b4 m4 d4, .slice a5 n5 c5, .slice b5 m5 d5] D W)) ∧ (∀ W, RowKit.Below w.heap.size w W → Calls Tryz.prog 27 #[.agg #[.int .i64 s1, .slice a1 n1 c1, .int .i64 t1, .slice b1 m1 d1, .int .i64 s2, .slice a2 n2 c2, .int .i64 t2, .slice b2 m2 d2]] W (SpG (fun v => v) [.slice a1 n1 c1, .slice b1 m1 d1, .slice a2 n2 c2, .slice b2 m2 d2, .slice a3 n3 c3, .slice b3 m3 d3, .slice a4 n4 c4, .slice b4 m4 d4, .slice a5 n5 c5, .slice b5 m5 d5] D W)) := by
 rcases h : sR s1 l1 t1 k1 s2 l2 t2 k2 with _ | _
 ·exact ⟨zD, fun W hb => (p10neg_bad (hl1.later hb) (hk1.later hb) (by omega) (by omega) (hl2.later hb) (hk2.later hb) (by omega) (by omega) h).mono fun e w' h => zero_g (sh := fun v => v) h _, fun W hb => (r10neg_bad (hl1.later hb) (hk1.later hb) (by omega) (by omega) (hl2.later hb) (hk2.later hb) (by omega) (by omega) h).mono fun e w' h => zero_g (sh := fun v => v) h _⟩
 ·skip
  obtain ⟨x, y, ⟨rfl, rfl, rfl, rfl⟩, ⟨rfl, rfl, rfl, rfl⟩, hxy⟩ := sR_good h
  have F1 : Fr w _ _ _ x := ⟨⟨rfl, hl1⟩, ⟨(den_sign x).symm, hk1⟩⟩
  have Z1 : FSz 4 x := ⟨Sz.of ll1, Sz.of lk1⟩
  have F2 : Fr w _ _ _ y := ⟨⟨rfl, hl2⟩, ⟨(den_sign y).symm, hk2⟩⟩
  have Z2 : FSz 4 y := ⟨Sz.of ll2, Sz.of lk2⟩
  refine ⟨ratD (-y, -x), fun W hb => ?_, fun W hb => ?_⟩
  ·exact (p10neg (F1.later hb) (FSz.mono Z1 (j := 1000)) (F2.later hb) (FSz.mono Z2 (j := 1000)) hxy (r := (-y, -x)) rfl).mono fun e w' h => SpP.g h _
  ·refine (r10neg_k (F1.later hb) (FSz.mono Z1 (j := 1000)) (F2.later hb) (FSz.mono Z2 (j := 1000)) hxy).mono ?_
   rintro e w' ⟨sa, pa, ka, ja, sb, pb, kb, jb, rfl, ⟨rfl, ia⟩, ⟨rfl, ib⟩, hb', fa, fb⟩
   exact ⟨pa, ka, ja, b2, m2, d2, pb, kb, jb, b1, m1, d1, rfl, ⟨ia, (hk2.later hb).later hb', ib, (hk1.later hb).later hb'⟩, hb', Fresh.far fa _, far_mem (by simp) _, Fresh.far fb _, far_mem (by simp) _⟩

theorem pair_point {w : World} {a1 b1 : Option Addr} {n1 c1 m1 d1 : Nat} {a2 b2 : Option Addr} {n2 c2 m2 d2 : Nat} {a3 b3 : Option Addr} {n3 c3 m3 d3 : Nat} {a4 b4 : Option Addr} {n4 c4 m4 d4 : Nat} {s5 t5 : Int} {a5 b5 : Option Addr} {n5 c5 m5 d5 : Nat} {l5 k5 : List Int} (hl5 : Ints w (.slice a5 n5 c5) l5) (hk5 : Ints w (.slice b5 m5 d5) k5) (ll5 : l5.length ≤ 4) (lk5 : k5.length ≤ 4) : ∃ D : SD, (∀ W, RowKit.Below w.heap.size w W → Calls Tryz.prog 17 #[.agg #[.int .i64 s5, .slice a5 n5 c5, .int .i64 t5, .slice b5 m5 d5]] W (SpG (fun v => v) [.slice a1 n1 c1, .slice b1 m1 d1, .slice a2 n2 c2, .slice b2 m2 d2, .slice a3 n3 c3, .slice b3 m3 d3, .slice a4 n4 c4, .slice b4 m4 d4, .slice a5 n5 c5, .slice b5 m5 d5] D W)) ∧ (∀ W, RowKit.Below w.heap.size w W → Calls Tryz.prog 18 #[.agg #[.int .i64 s5, .slice a5 n5 c5, .int .i64 t5, .slice b5 m5 d5]] W (SpG (fun v => v) [.slice a1 n1 c1, .slice b1 m1 d1, .slice a2 n2 c2, .slice b2 m2 d2, .slice a3 n3 c3, .slice b3 m3 d3, .slice a4 n4 c4, .slice b4 m4 d4, .slice a5 n5 c5, .slice b5 m5 d5] D W)) := by
 rcases h : fRightB s5 l5 t5 k5 with _ | _
 ·exact ⟨zD, fun W hb => (p10point_bad (hl5.later hb) (hk5.later hb) (by omega) (by omega) h).mono fun e w' h => zero_g (sh := fun v => v) h _, fun W hb => (r10point_bad (hl5.later hb) (hk5.later hb) (by omega) (by omega) h).mono fun e w' h => zero_g (sh := fun v => v) h _⟩
 ·obtain ⟨z, rfl, rfl, rfl, rfl⟩ := fright_of h
  have F5 : Fr w _ _ _ z := ⟨⟨rfl, hl5⟩, ⟨(den_sign z).symm, hk5⟩⟩
  have Z5 : FSz 4 z := ⟨Sz.of ll5, Sz.of lk5⟩
  refine ⟨ratD (z, z), fun W hb => ?_, fun W hb => ?_⟩
  ·exact (p10point (F5.later hb) (FSz.mono Z5 (j := 1000)) rfl).mono fun e w' h => SpP.g h _
  ·exact (r10point_k (F5.later hb) (FSz.mono Z5 (j := 1000))).mono fun e w' h => args_g (sh := fun v => v) (r := (z, z)) h (F5.later hb) (F5.later hb) (by simp)

theorem pair_width {w : World} {s1 t1 : Int} {a1 b1 : Option Addr} {n1 c1 m1 d1 : Nat} {l1 k1 : List Int} {s2 t2 : Int} {a2 b2 : Option Addr} {n2 c2 m2 d2 : Nat} {l2 k2 : List Int} {a3 b3 : Option Addr} {n3 c3 m3 d3 : Nat} {a4 b4 : Option Addr} {n4 c4 m4 d4 : Nat} {a5 b5 : Option Addr} {n5 c5 m5 d5 : Nat} (hl1 : Ints w (.slice a1 n1 c1) l1) (hk1 : Ints w (.slice b1 m1 d1) k1) (ll1 : l1.length ≤ 4) (lk1 : k1.length ≤ 4) (hl2 : Ints w (.slice a2 n2 c2) l2) (hk2 : Ints w (.slice b2 m2 d2) k2) (ll2 : l2.length ≤ 4) (lk2 : k2.length ≤ 4) : ∃ (s : Int) (l : List Int) (t : Int) (k : List Int), (∀ W, RowKit.Below w.heap.size w W → Calls Tryz.prog 24 #[.agg #[.int .i64 s1, .slice a1 n1 c1, .int .i64 t1, .slice b1 m1 d1, .int .i64 s2, .slice a2 n2 c2, .int .i64 t2, .slice b2 m2 d2]] W (FG1 [.slice a1 n1 c1, .slice b1 m1 d1, .slice a2 n2 c2, .slice b2 m2 d2, .slice a3 n3 c3, .slice b3 m3 d3, .slice a4 n4 c4, .slice b4 m4 d4, .slice a5 n5 c5, .slice b5 m5 d5] s l t k W)) ∧ (∀ W, RowKit.Below w.heap.size w W → Calls Tryz.prog 25 #[.agg #[.int .i64 s1, .slice a1 n1 c1, .int .i64 t1, .slice b1 m1 d1, .int .i64 s2, .slice a2 n2 c2, .int .i64 t2, .slice b2 m2 d2]] W (FG1 [.slice a1 n1 c1, .slice b1 m1 d1, .slice a2 n2 c2, .slice b2 m2 d2, .slice a3 n3 c3, .slice b3 m3 d3, .slice a4 n4 c4, .slice b4 m4 d4, .slice a5 n5 c5, .slice b5 m5 d5] s l t k W)) := by
 rcases h : sR s1 l1 t1 k1 s2 l2 t2 k2 with _ | _
 ·exact ⟨0, [], 0, [], fun W hb => (p10width_bad (hl1.later hb) (hk1.later hb) (by omega) (by omega) (hl2.later hb) (hk2.later hb) (by omega) (by omega) h).mono fun e w' h => fg1_zero h _, fun W hb => (r10width_bad (hl1.later hb) (hk1.later hb) (by omega) (by omega) (hl2.later hb) (hk2.later hb) (by omega) (by omega) h).mono fun e w' h => fg1_zero h _⟩
 ·skip
  obtain ⟨x, y, ⟨rfl, rfl, rfl, rfl⟩, ⟨rfl, rfl, rfl, rfl⟩, hxy⟩ := sR_good h
  have F1 : Fr w _ _ _ x := ⟨⟨rfl, hl1⟩, ⟨(den_sign x).symm, hk1⟩⟩
  have Z1 : FSz 4 x := ⟨Sz.of ll1, Sz.of lk1⟩
  have F2 : Fr w _ _ _ y := ⟨⟨rfl, hl2⟩, ⟨(den_sign y).symm, hk2⟩⟩
  have Z2 : FSz 4 y := ⟨Sz.of ll2, Sz.of lk2⟩
  refine ⟨(y - x).num.sign, digs (y - x).num.natAbs, 1, digs ((y - x).den : Int).natAbs, fun W hb => ?_, fun W hb => ?_⟩
  rotate_left
  ·exact (r10width_k (F1.later hb) (FSz.mono Z1 (j := 1000)) (F2.later hb) (FSz.mono Z2 (j := 1000)) hxy).mono fun e w' h => FV.fg h _
  ·exact (p10width_k (F1.later hb) (FSz.mono Z1 (j := 1000)) (F2.later hb) (FSz.mono Z2 (j := 1000)) hxy).mono fun e w' h => FV.fg h _
end Go.Proofs.YtgncnkojpedmdaaGreat.Sp
