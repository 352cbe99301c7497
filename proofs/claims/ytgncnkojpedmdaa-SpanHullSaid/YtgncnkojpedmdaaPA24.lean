/- Slices of fractions that grow. The reference of span, by what its results are. Spans returned by calls; Few of spans; of, is of the laws. The contracts of span: Right, Same, Has, Inside, Width. The contracts of span: clone, Point, Neg. -/
import Derived.Test.YtgncnkojpedmdaaPA4
import Derived.Test.YtgncnkojpedmdaaPA23
import Derived.Test.YtgncnkojpedmdaaPA18
set_option maxRecDepth 100000
namespace Go.Proofs.Ytgncnkojpedmdaa.Sp
open Go.RowKit Bi
/-- A fraction's cells, and what they say. -/
def FCell.cl (x : FCell) : List Value := [.int .i64 x.s, .slice x.a x.n x.c, .int .i64 1, .slice x.b x.m x.d]
def Fo (W : World) (x : FCell) (r : Rat) : Prop := Fr W x.s (.slice x.a x.n x.c) (.slice x.b x.m x.d) r
def FOff (x : FCell) (g : Nat) : Prop := Off (.slice x.a x.n x.c) g ∧ Off (.slice x.b x.m x.d) g
theorem Fo.later {W W' : World} {x : FCell} {r : Rat} (h : Fo W x r) (hb : RowKit.Below W.heap.size W W') : Fo W' x r := Fr.later h hb
theorem Fo.off {W : World} {x : FCell} {r : Rat} (h : Fo W x r) {g : Nat} (hg : W.heap.size ≤ g) : FOff x g := ⟨h.1.2.off hg, h.2.2.off hg⟩
theorem Ints.on {w w' : World} {v : Value} {l : List Int} {row : Option Nat} (h : Ints w v l) (ho : ∀ g, row = some g → Off v g) (hg : w.grownBy w' row) : Ints w' v l := by
  cases row with
  | none => exact h.later ⟨hg.os, hg.tape, hg.output, hg.size, fun k hk => hg.block k hk (by simp)⟩
  | some g => exact h.grown (ho g rfl) hg
theorem Fo.on {W W' : World} {x : FCell} {r : Rat} {row : Option Nat} (h : Fo W x r) (ho : ∀ g, row = some g → FOff x g) (hg : W.grownBy W' row) : Fo W' x r :=
  ⟨⟨h.1.1, Ints.on h.1.2 (fun g e => (ho g e).1) hg⟩, ⟨h.2.1, Ints.on h.2.2 (fun g e => (ho g e).2) hg⟩⟩
theorem Sf.on {w W W' : World} {L : List FBox} {F : List (Value × List Int)} {row : Option Nat} (h : Sf w L F W) (hg : W.grownBy W' row) (hr : ∀ g, row = some g → w.heap.size ≤ g ∧ (∀ x ∈ L, x.1 ≠ g) ∧ ∀ f ∈ F, Off f.1 g) : Sf w L F W' := by
  refine ⟨⟨hg.os.trans h.below.os, hg.tape.trans h.below.tape, hg.output.trans h.below.output, Nat.le_trans h.below.size hg.size, fun k hk => ?_⟩, h.le, fun x hx => ?_, fun f hf => Ints.on (h.ints f hf) (fun g e => (hr g e).2.2 f hf) hg, h.off, h.pw⟩
  · rw [hg.block k (Nat.lt_of_lt_of_le hk h.below.size) (fun e => by have := (hr k e.symm).1; omega)]
    exact h.below.block k hk
  · have hq := h.box x hx
    show W'.heap[x.1]? = _
    rw [hg.block x.1 (h.lt x hx) (fun e => (hr x.1 e.symm).2.1 x hx rfl)]
    exact hq

/-- The slice v of n fractions, made one after another since w; it lies in no block before B. -/
structure Got (B : Nat) (W : World) (v : Value) (n : Nat) (fs : Nat → FCell) (r : Nat → Rat) : Prop where
  own : Dm.Own W 26 4 v n ((List.range n).flatMap fun j => (fs j).cl)
  fr : ∀ j, j < n → Fo W (fs j) (r j)
  off : ∀ j, j < n → ∀ g, Dm.blk v = some g → FOff (fs j) g
  ge : ∀ g, Dm.blk v = some g → B ≤ g
theorem Got.later {B : Nat} {W W' : World} {v : Value} {n : Nat} {fs : Nat → FCell} {r : Nat → Rat} (h : Got B W v n fs r) (hb : RowKit.Below W.heap.size W W') : Got B W' v n fs r :=
  ⟨h.own.kept fun b e => hb.block b (h.own.lt b e), fun j hj => (h.fr j hj).later hb, h.off, h.ge⟩
theorem Got.nil (B : Nat) (W : World) (a : Option Addr) (fs : Nat → FCell) (r : Nat → Rat) : Got B W (.slice a 0 0) 0 fs r :=
  ⟨⟨rfl, .inl ⟨a, rfl, rfl⟩⟩, fun j hj => absurd hj (Nat.not_lt_zero _), fun j hj => absurd hj (Nat.not_lt_zero _), fun g hg => by rw [Dm.blk_zero] at hg; cases hg⟩
/-- Four fractions, for around. -/
theorem Got.four {B : Nat} {W : World} {v : Value} {fs : Nat → FCell} {r : Nat → Rat} (h : Got B W v 4 fs r) (hz : ∀ i, i < 4 → FSz 1000 (r i)) : ∃ G cap, v = .slice (some ⟨G, 0, none⟩) 4 cap ∧ FLs W G 4 fs r := by
  rcases h.own.2 with ⟨a', hv, hn⟩ | ⟨g, cap, cur, rfl, hg, hnc, hc0, hcm, hcs, ht⟩
  · omega
  · refine ⟨g, cap, rfl, (Array.getElem?_eq_some_iff.1 hg).1, fun i hi => ?_, h.fr, hz⟩
    have hk : ∀ k, k < 16 → W.cell? ⟨g, k, none⟩ = ((List.range 4).flatMap fun j => (fs j).cl)[k]? := fun k hk => by
      rw [← ht, List.getElem?_take, if_pos (by omega), Array.getElem?_toList]
      exact cell_of_row W g k cur _ (0, 0) hg
    rcases lt4 hi with e | e | e | e
    · subst e; exact ⟨hk 0 (by decide), hk 1 (by decide), hk 2 (by decide), hk 3 (by decide)⟩
    · subst e; exact ⟨hk 4 (by decide), hk 5 (by decide), hk 6 (by decide), hk 7 (by decide)⟩
    · subst e; exact ⟨hk 8 (by decide), hk 9 (by decide), hk 10 (by decide), hk 11 (by decide)⟩
    · subst e; exact ⟨hk 12 (by decide), hk 13 (by decide), hk 14 (by decide), hk 15 (by decide)⟩
end Go.Proofs.Ytgncnkojpedmdaa.Sp

namespace Go.Proofs.Ytgncnkojpedmdaa.Sp
open Go.RowKit Bi
def opF : Nat → Rat → Rat → Rat
  | 0 => fun x y => x + y
  | 1 => fun x y => x - y
  | 2 => fun x y => x * y
  | 3 => fun x y => x / y
  | 4 => rmin
  | _ => rmax
theorem le5 {k : Nat} (h : k ≤ 5) : k = 0 ∨ k = 1 ∨ k = 2 ∨ k = 3 ∨ k = 4 ∨ k = 5 := by omega
end Go.Proofs.Ytgncnkojpedmdaa.Sp

namespace Go.Proofs.Ytgncnkojpedmdaa.Sp
open Go.RowKit Bi
/-- A call has returned a span. -/
theorem Sf.span {w W W' : World} {L : List FBox} {F : List (Value × List Int)} (h : Sf w L F W) (hb : RowKit.Below W.heap.size W W') {c d : FCell} {p q : Rat} (h1 : Fo W' c p) (h2 : Fo W' d q) (ho : ∀ x ∈ L, FOff c x.1 ∧ FOff d x.1) :
    Sf w L ((.slice c.a c.n c.c, digs p.num.natAbs) :: (.slice c.b c.m c.d, digs (p.den : Int).natAbs) :: (.slice d.a d.n d.c, digs q.num.natAbs) :: (.slice d.b d.m d.d, digs (q.den : Int).natAbs) :: F) W' := by
  have h' := h.later hb
  refine ⟨h'.below, h'.le, h'.box, fun f hf => ?_, fun f hf x hx => ?_, h'.pw⟩
  · simp only [List.mem_cons] at hf
    rcases hf with rfl | rfl | rfl | rfl | hf
    · exact h1.1.2
    · exact h1.2.2
    · exact h2.1.2
    · exact h2.2.2
    · exact h'.ints f hf
  · simp only [List.mem_cons] at hf
    rcases hf with rfl | rfl | rfl | rfl | hf
    · exact (ho x hx).1.1
    · exact (ho x hx).1.2
    · exact (ho x hx).2.1
    · exact (ho x hx).2.2
    · exact h'.off f hf x hx

set_option maxHeartbeats 8000000 in
theorem r10few_len {w : World} {s1 t1 : Int} {a1 b1 : Option Addr} {n1 c1 m1 d1 : Nat} {s2 t2 : Int} {a2 b2 : Option Addr} {n2 c2 m2 d2 : Nat} {k : Int} (hn1 : n1 ≤ 9223372036854775807) (hm1 : m1 ≤ 9223372036854775807) (hn2 : n2 ≤ 9223372036854775807) (hm2 : m2 ≤ 9223372036854775807) {r : Bool} (hr : ((decide ((n1 : Int) ≤ k) && decide ((m1 : Int) ≤ k)) && (decide ((n2 : Int) ≤ k) && decide ((m2 : Int) ≤ k))) = r) :
    Calls Try.prog 20 #[.agg #[.int .i64 s1, .slice a1 n1 c1, .int .i64 t1, .slice b1 m1 d1, .int .i64 s2, .slice a2 n2 c2, .int .i64 t2, .slice b2 m2 d2], .int .i64 k] w fun e w' => e = .returned (.bool r) ∧ RowKit.Below w.heap.size w w' := by
  have HN1 := Lib.hid hn1
  have HM1 := Lib.hid hm1
  have HN2 := Lib.hid hn2
  have HM2 := Lib.hid hm2
  obtain ⟨x, hx⟩ : ∃ x, (decide ((n1 : Int) ≤ k) && decide ((m1 : Int) ≤ k)) = x := ⟨_, rfl⟩
  obtain ⟨y, hy⟩ : ∃ y, (decide ((n2 : Int) ≤ k) && decide ((m2 : Int) ≤ k)) = y := ⟨_, rfl⟩
  rw [hx, hy] at hr
  have HX := Lib.hid hx
  have HY := Lib.hid hy
  cases x
  · obtain rfl : false = r := by rw [← hr]; rfl
    have s0 := ((Sf.start w).put [.int .i64 s1, .slice a1 n1 c1, .int .i64 t1, .slice b1 m1 d1, .int .i64 s2, .slice a2 n2 c2, .int .i64 t2, .slice b2 m2 d2] 28)
    try simp only [World.size_alloc] at s0
    have S0 := Lib.hid s0
    clear s0
    clear hr hx hy hn1 hm1 hn2 hm2
    go_enter Try.func20, Try.ntmps20
    obtain ⟨q1, q2, q3, q4, q5, q6, q7, q8⟩ := Fb.cells8 (S0.out.box (w.heap.size, 28, [.int .i64 s1, .slice a1 n1 c1, .int .i64 t1, .slice b1 m1 d1, .int .i64 s2, .slice a2 n2 c2, .int .i64 t2, .slice b2 m2 d2]) mq0)
    go_wp2_with fail
    clear q1 q2 q3 q4 q5 q6 q7 q8
    refine (ffew_len s1 a1 n1 c1 t1 b1 m1 d1 k _ HN1.out HM1.out _ HX.out).mono ?_
    rintro e w1 ⟨rfl, hb⟩
    have R1 := Lib.hid (S0.out.later hb)
    clear hb
    go_wp2_with fail
    go_ret
    exact ⟨rfl, R1.out.below⟩
  · obtain rfl : y = r := by rw [← hr]; rfl
    have s0 := ((Sf.start w).put [.int .i64 s1, .slice a1 n1 c1, .int .i64 t1, .slice b1 m1 d1, .int .i64 s2, .slice a2 n2 c2, .int .i64 t2, .slice b2 m2 d2] 28)
    try simp only [World.size_alloc] at s0
    have S0 := Lib.hid s0
    clear s0
    clear hr hx hy hn1 hm1 hn2 hm2
    go_enter Try.func20, Try.ntmps20
    obtain ⟨q1, q2, q3, q4, q5, q6, q7, q8⟩ := Fb.cells8 (S0.out.box (w.heap.size, 28, [.int .i64 s1, .slice a1 n1 c1, .int .i64 t1, .slice b1 m1 d1, .int .i64 s2, .slice a2 n2 c2, .int .i64 t2, .slice b2 m2 d2]) mq0)
    go_wp2_with fail
    clear q1 q2 q3 q4 q5 q6 q7 q8
    refine (ffew_len s1 a1 n1 c1 t1 b1 m1 d1 k _ HN1.out HM1.out _ HX.out).mono ?_
    rintro e w1 ⟨rfl, hb⟩
    have R1 := Lib.hid (S0.out.later hb)
    clear hb
    obtain ⟨q9, q10, q11, q12, q13, q14, q15, q16⟩ := Fb.cells8 (R1.out.box (w.heap.size, 28, [.int .i64 s1, .slice a1 n1 c1, .int .i64 t1, .slice b1 m1 d1, .int .i64 s2, .slice a2 n2 c2, .int .i64 t2, .slice b2 m2 d2]) mq0)
    go_wp2_with fail
    clear q9 q10 q11 q12 q13 q14 q15 q16
    refine (ffew_len s2 a2 n2 c2 t2 b2 m2 d2 k _ HN2.out HM2.out _ HY.out).mono ?_
    rintro e w2 ⟨rfl, hb⟩
    have R2 := Lib.hid (R1.out.later hb)
    clear hb
    go_wp2_with fail
    go_ret
    exact ⟨rfl, R2.out.below⟩

/-- A span in new memory. -/
def SpF (p : Rat × Rat) (w : World) (e : Ending) (w' : World) : Prop := ∃ c d : FCell, e = .returned (.agg #[.int .i64 c.s, .slice c.a c.n c.c, .int .i64 1, .slice c.b c.m c.d, .int .i64 d.s, .slice d.a d.n d.c, .int .i64 1, .slice d.b d.m d.d]) ∧ Fo w' c p.1 ∧ Fo w' d p.2 ∧ RowKit.Below w.heap.size w w' ∧ ∀ g, g < w.heap.size → FOff c g ∧ FOff d g
set_option maxHeartbeats 8000000 in
theorem r10of {w : World} (x y : Int) (hx : -9223372036854775808 ≤ x ∧ x ≤ 9223372036854775807) (hy : -9223372036854775808 ≤ y ∧ y ≤ 9223372036854775807) :
    Calls Try.prog 31 #[.int .i64 x, .int .i64 y] w (SpF ((x : Rat), (y : Rat)) w) := by
  have HX := Lib.hid hx
  have HY := Lib.hid hy
  have s0 := ((Sf.start w).put [.int .i64 0, .slice none 0 0, .int .i64 0, .slice none 0 0, .int .i64 0, .slice none 0 0, .int .i64 0, .slice none 0 0] 28)
  try simp only [World.size_alloc] at s0
  have S0 := Lib.hid s0
  clear s0
  clear hx hy
  go_enter Try.func31, Try.ntmps31
  go_wp2_with fail
  refine (rfint_k x HX.out _).mono ?_
  rintro e w1 ⟨sx1, ax1, nx1, cx1, bx1, mx1, dx1, rfl, hr, hb, hf, hg⟩
  have E1 := Lib.hid hr.1.1
  have R1 := Lib.hid (S0.out.ret2 hb hr.1.2 hf hr.2.2 hg)
  have FF1 := Lib.hid (hf.mono S0.out.below.size)
  have FG1 := Lib.hid (hg.mono S0.out.below.size)
  clear hr hb hf hg
  go_wp2_with fail
  refine (rfint_k y HY.out _).mono ?_
  rintro e w2 ⟨sx2, ax2, nx2, cx2, bx2, mx2, dx2, rfl, hr, hb, hf, hg⟩
  have E2 := Lib.hid hr.1.1
  have R2 := Lib.hid (R1.out.ret2 hb hr.1.2 hf hr.2.2 hg)
  have FF2 := Lib.hid (hf.mono R1.out.below.size)
  have FG2 := Lib.hid (hg.mono R1.out.below.size)
  clear hr hb hf hg
  have Q1 := Lib.hid (Sf.row (pre := []) R2.out [.int .i64 sx1, .slice ax1 nx1 cx1, .int .i64 1, .slice bx1 mx1 dx1, .int .i64 sx2, .slice ax2 nx2 cx2, .int .i64 1, .slice bx2 mx2 dx2])
  go_wp2_with (first | refine wpList_store_row rfl _ _ _ rfl _ #[.int .i64 sx1, .slice ax1 nx1 cx1, .int .i64 1, .slice bx1 mx1 dx1, .int .i64 sx2, .slice ax2 nx2 cx2, .int .i64 1, .slice bx2 mx2 dx2] rfl rfl _ _ (R2.out.box _ mq0) (by kernel_rfl) rfl (by simp [Value.oneCell']) ?_)
  refine bodyPost_ret (results_cell_row rfl _ _ _ _ _ (0, 0) _ rfl (Q1.out.box _ mq0) Try.underlying28 rfl (by kernel_rfl)) rfl ⟨⟨sx1, ax1, nx1, cx1, bx1, mx1, dx1⟩, ⟨sx2, ax2, nx2, cx2, bx2, mx2, dx2⟩, rfl, (Q1.out.fr (v := .slice ax1 nx1 cx1) (u := .slice bx1 mx1 dx1) (r := (x : Rat)) mq2 mq3 E1.out), (Q1.out.fr (v := .slice ax2 nx2 cx2) (u := .slice bx2 mx2 dx2) (r := (y : Rat)) mq0 mq1 E2.out), Q1.out.below, fun g hg => ⟨⟨FF1.out g hg, FG1.out g hg⟩, ⟨FF2.out g hg, FG2.out g hg⟩⟩⟩

theorem same_fo {w : World} {s1 : Int} {a1 b1 : Option Addr} {n1 c1 m1 d1 : Nat} {x : Rat} {s2 : Int} {a2 b2 : Option Addr} {n2 c2 m2 d2 : Nat} {y : Rat} {s3 : Int} {a3 b3 : Option Addr} {n3 c3 m3 d3 : Nat} {z : Rat} {s4 : Int} {a4 b4 : Option Addr} {n4 c4 m4 d4 : Nat} {v : Rat} (h1 : Fr w s1 (.slice a1 n1 c1) (.slice b1 m1 d1) x) (h2 : Fr w s2 (.slice a2 n2 c2) (.slice b2 m2 d2) y) (h3 : Fr w s3 (.slice a3 n3 c3) (.slice b3 m3 d3) z) (h4 : Fr w s4 (.slice a4 n4 c4) (.slice b4 m4 d4) v) {r : Bool} (hr : (decide (x = z) && decide (y = v)) = r) :
    Calls Try.prog 25 #[.agg #[.int .i64 s1, .slice a1 n1 c1, .int .i64 1, .slice b1 m1 d1, .int .i64 s2, .slice a2 n2 c2, .int .i64 1, .slice b2 m2 d2], .agg #[.int .i64 s3, .slice a3 n3 c3, .int .i64 1, .slice b3 m3 d3, .int .i64 s4, .slice a4 n4 c4, .int .i64 1, .slice b4 m4 d4]] w fun e w' => e = .returned (.bool r) ∧ RowKit.Below w.heap.size w w' := by
  obtain ⟨⟨rfl, i1⟩, ⟨_, j1⟩⟩ := h1
  obtain ⟨⟨rfl, i2⟩, ⟨_, j2⟩⟩ := h2
  obtain ⟨⟨rfl, i3⟩, ⟨_, j3⟩⟩ := h3
  obtain ⟨⟨rfl, i4⟩, ⟨_, j4⟩⟩ := h4
  have := r10same_raw (s1 := x.num.sign) (t1 := 1) (s2 := y.num.sign) (t2 := 1) (s3 := z.num.sign) (t3 := 1) (s4 := v.num.sign) (t4 := 1) i1 j1 i2 j2 i3 j3 i4 j4 rfl
  rw [same_dec, same_dec, hr] at this
  exact this

set_option maxHeartbeats 8000000 in
theorem r10is {w : World} {s1 : Int} {a1 b1 : Option Addr} {n1 c1 m1 d1 : Nat} {x : Rat} {s2 : Int} {a2 b2 : Option Addr} {n2 c2 m2 d2 : Nat} {y : Rat} (i j : Int) (h1 : Fr w s1 (.slice a1 n1 c1) (.slice b1 m1 d1) x) (h2 : Fr w s2 (.slice a2 n2 c2) (.slice b2 m2 d2) y) (hi : -9223372036854775808 ≤ i ∧ i ≤ 9223372036854775807) (hj : -9223372036854775808 ≤ j ∧ j ≤ 9223372036854775807) {r : Bool} (hr : (decide (x = (i : Rat)) && decide (y = (j : Rat))) = r) :
    Calls Try.prog 35 #[.agg #[.int .i64 s1, .slice a1 n1 c1, .int .i64 1, .slice b1 m1 d1, .int .i64 s2, .slice a2 n2 c2, .int .i64 1, .slice b2 m2 d2], .int .i64 i, .int .i64 j] w fun e w' => e = .returned (.bool r) ∧ RowKit.Below w.heap.size w w' := by
  have HI := Lib.hid hi
  have HJ := Lib.hid hj
  have HR := Lib.hid hr
  have E1 := Lib.hid h1.1.1
  have E2 := Lib.hid h2.1.1
  have s0 := ((((((Sf.start w).arg h1.2.2).arg h1.1.2).arg h2.2.2).arg h2.1.2).put [.int .i64 s1, .slice a1 n1 c1, .int .i64 1, .slice b1 m1 d1, .int .i64 s2, .slice a2 n2 c2, .int .i64 1, .slice b2 m2 d2] 28)
  try simp only [World.size_alloc] at s0
  have S0 := Lib.hid s0
  clear s0
  clear hi hj hr h1 h2
  go_enter Try.func35, Try.ntmps35
  go_upto_region 1 with fail
  have K0 : ∀ W F, Sf w [(w.heap.size, 28, [.int .i64 s1, .slice a1 n1 c1, .int .i64 1, .slice b1 m1 d1, .int .i64 s2, .slice a2 n2 c2, .int .i64 1, .slice b2 m2 d2])] F W → W.cell? ⟨w.heap.size, 0, none⟩ = some (.int .i64 s1) ∧ W.cell? ⟨w.heap.size, 1, none⟩ = some (.slice a1 n1 c1) ∧ W.cell? ⟨w.heap.size, 2, none⟩ = some (.int .i64 1) ∧ W.cell? ⟨w.heap.size, 3, none⟩ = some (.slice b1 m1 d1) ∧ W.cell? ⟨w.heap.size, 4, none⟩ = some (.int .i64 s2) ∧ W.cell? ⟨w.heap.size, 5, none⟩ = some (.slice a2 n2 c2) ∧ W.cell? ⟨w.heap.size, 6, none⟩ = some (.int .i64 1) ∧ W.cell? ⟨w.heap.size, 7, none⟩ = some (.slice b2 m2 d2) := fun W F h => ⟨(h.box (w.heap.size, 28, [.int .i64 s1, .slice a1 n1 c1, .int .i64 1, .slice b1 m1 d1, .int .i64 s2, .slice a2 n2 c2, .int .i64 1, .slice b2 m2 d2]) mq0).cell 0, (h.box (w.heap.size, 28, [.int .i64 s1, .slice a1 n1 c1, .int .i64 1, .slice b1 m1 d1, .int .i64 s2, .slice a2 n2 c2, .int .i64 1, .slice b2 m2 d2]) mq0).cell 1, (h.box (w.heap.size, 28, [.int .i64 s1, .slice a1 n1 c1, .int .i64 1, .slice b1 m1 d1, .int .i64 s2, .slice a2 n2 c2, .int .i64 1, .slice b2 m2 d2]) mq0).cell 2, (h.box (w.heap.size, 28, [.int .i64 s1, .slice a1 n1 c1, .int .i64 1, .slice b1 m1 d1, .int .i64 s2, .slice a2 n2 c2, .int .i64 1, .slice b2 m2 d2]) mq0).cell 3, (h.box (w.heap.size, 28, [.int .i64 s1, .slice a1 n1 c1, .int .i64 1, .slice b1 m1 d1, .int .i64 s2, .slice a2 n2 c2, .int .i64 1, .slice b2 m2 d2]) mq0).cell 4, (h.box (w.heap.size, 28, [.int .i64 s1, .slice a1 n1 c1, .int .i64 1, .slice b1 m1 d1, .int .i64 s2, .slice a2 n2 c2, .int .i64 1, .slice b2 m2 d2]) mq0).cell 5, (h.box (w.heap.size, 28, [.int .i64 s1, .slice a1 n1 c1, .int .i64 1, .slice b1 m1 d1, .int .i64 s2, .slice a2 n2 c2, .int .i64 1, .slice b2 m2 d2]) mq0).cell 6, (h.box (w.heap.size, 28, [.int .i64 s1, .slice a1 n1 c1, .int .i64 1, .slice b1 m1 d1, .int .i64 s2, .slice a2 n2 c2, .int .i64 1, .slice b2 m2 d2]) mq0).cell 7⟩
  have KK := Lib.hid K0
  clear K0
  have N0 := Lib.hid S0.out.drew
  clear S0
  have e0 := KK.out _ _ N0.out
  go_region_held3 (fun W => W.cell? ⟨w.heap.size, 0, none⟩ = some (.int .i64 s1) ∧ W.cell? ⟨w.heap.size, 1, none⟩ = some (.slice a1 n1 c1) ∧ W.cell? ⟨w.heap.size, 2, none⟩ = some (.int .i64 1) ∧ W.cell? ⟨w.heap.size, 3, none⟩ = some (.slice b1 m1 d1) ∧ W.cell? ⟨w.heap.size, 4, none⟩ = some (.int .i64 s2) ∧ W.cell? ⟨w.heap.size, 5, none⟩ = some (.slice a2 n2 c2) ∧ W.cell? ⟨w.heap.size, 6, none⟩ = some (.int .i64 1) ∧ W.cell? ⟨w.heap.size, 7, none⟩ = some (.slice b2 m2 d2))
    (first | (with_reducible exact e0) | (with_reducible exact e1) | (with_reducible exact e2))
    (((first | go_at_call 31 | go_at_call 25 | (rw [if_pos (by rfl)]; go_simp) | skip); (first
        | (have hG := N1; clear hG; go_at_call 25; (with_reducible refine (same_fo PN1_1.out PN1_2.out PN1_3.out PN1_4.out HR.out).mono ?_); rintro e y1_1 ⟨rfl, hb⟩; have N2 := Lib.hid (N1.out.later hb); clear hb; have e2 := KK.out _ _ N2.out)
        | (have hG := N0; clear hG; go_at_call 31; (with_reducible refine (r10of i j HI.out HJ.out).mono ?_); rintro e y1_0 ⟨c1_0, d1_0, rfl, h1, h2, hb, ho⟩; have EC1_0 := Lib.hid h1.1.1; have ED1_0 := Lib.hid h2.1.1; have N1 := Lib.hid (Sf.span N0.out hb h1 h2 (fun x hx => ho x.1 (N0.out.lt x hx))); clear h1 h2 hb ho; have e1 := KK.out _ _ N1.out; have PN1_1 := Lib.hid (N1.out.fr (v := .slice a1 n1 c1) (u := .slice b1 m1 d1) (r := x) mq6 mq7 E1.out); have PN1_2 := Lib.hid (N1.out.fr (v := .slice a2 n2 c2) (u := .slice b2 m2 d2) (r := y) mq4 mq5 E2.out); have PN1_3 := Lib.hid (N1.out.fr (v := .slice c1_0.a c1_0.n c1_0.c) (u := .slice c1_0.b c1_0.m c1_0.d) (r := (i : Rat)) mq0 mq1 EC1_0.out); have PN1_4 := Lib.hid (N1.out.fr (v := .slice d1_0.a d1_0.n d1_0.c) (u := .slice d1_0.b d1_0.m d1_0.d) (r := (j : Rat)) mq2 mq3 ED1_0.out))); (try dsimp only)))
  all_goals (go_wp2_with fail; go_ret; exact ⟨rfl, N2.out.below⟩)
end Go.Proofs.Ytgncnkojpedmdaa.Sp

namespace Go.Proofs.Ytgncnkojpedmdaa.Sp
open Go.RowKit Bi
/-- What Compare returns for any cells. -/
def cR (s1 : Int) (l1 : List Int) (t1 : Int) (k1 : List Int) (s2 : Int) (l2 : List Int) (t2 : Int) (k2 : List Int) : Int := if (fRightB s1 l1 t1 k1 && fRightB s2 l2 t2 k2) = true then cmpR (ratOf s1 l1 k1) (ratOf s2 l2 k2) else 0
theorem fcmp_any {w : World} {s1 t1 : Int} {a1 b1 : Option Addr} {n1 c1 m1 d1 : Nat} {l1 k1 : List Int} {s2 t2 : Int} {a2 b2 : Option Addr} {n2 c2 m2 d2 : Nat} {l2 k2 : List Int} (hl1 : Ints w (.slice a1 n1 c1) l1) (hk1 : Ints w (.slice b1 m1 d1) k1) (ll1 : l1.length ≤ 1000) (lk1 : k1.length ≤ 1000) (hl2 : Ints w (.slice a2 n2 c2) l2) (hk2 : Ints w (.slice b2 m2 d2) k2) (ll2 : l2.length ≤ 1000) (lk2 : k2.length ≤ 1000) {j : Int} (hj : cR s1 l1 t1 k1 s2 l2 t2 k2 = j) :
    Calls Try.prog 38 #[.agg #[.int .i64 s1, .slice a1 n1 c1, .int .i64 t1, .slice b1 m1 d1], .agg #[.int .i64 s2, .slice a2 n2 c2, .int .i64 t2, .slice b2 m2 d2]] w fun e w' => e = .returned (.int .i64 j) ∧ RowKit.Below w.heap.size w w' := by
  subst hj
  rcases h : (fRightB s1 l1 t1 k1 && fRightB s2 l2 t2 k2) with _ | _
  · rw [show cR s1 l1 t1 k1 s2 l2 t2 k2 = 0 by unfold cR; rw [h]; simp]
    exact fcmp_bad s1 a1 n1 c1 l1 t1 b1 m1 d1 k1 s2 a2 n2 c2 l2 t2 b2 m2 d2 k2 w hl1 hk1 (by omega) (by omega) hl2 hk2 (by omega) (by omega) h
  · rw [show cR s1 l1 t1 k1 s2 l2 t2 k2 = cmpR (ratOf s1 l1 k1) (ratOf s2 l2 k2) by unfold cR; rw [h]; simp]
    simp only [Bool.and_eq_true] at h
    obtain ⟨x, rfl, rfl, rfl, rfl⟩ := fright_of h.1
    obtain ⟨y, rfl, rfl, rfl, rfl⟩ := fright_of h.2
    rw [ratOf_is, ratOf_is]
    exact fCompare_k (⟨⟨rfl, hl1⟩, ⟨(den_sign x).symm, hk1⟩⟩ : Fr w _ _ _ x) (⟨⟨rfl, hl2⟩, ⟨(den_sign y).symm, hk2⟩⟩ : Fr w _ _ _ y) ⟨Sz.of ll1, Sz.of lk1⟩ ⟨Sz.of ll2, Sz.of lk2⟩
theorem cR_lt {s1 t1 s2 t2 : Int} {l1 k1 l2 k2 : List Int} (h : cR s1 l1 t1 k1 s2 l2 t2 k2 < 0) : sR s1 l1 t1 k1 s2 l2 t2 k2 = true := by
  unfold cR at h
  split at h
  · rename_i hb
    unfold sR
    rw [hb, Bool.true_and, ← cmp_le]
    exact decide_eq_true (Int.le_of_lt h)
  · omega
theorem cR_ne {s1 t1 s2 t2 : Int} {l1 k1 l2 k2 : List Int} (h : ¬ cR s1 l1 t1 k1 s2 l2 t2 k2 < 0) (hs : (decide (s1 = s2 ∧ l1 = l2) && decide (t1 = t2 ∧ k1 = k2)) = false) : sR s1 l1 t1 k1 s2 l2 t2 k2 = false := by
  rcases e : sR s1 l1 t1 k1 s2 l2 t2 k2 with _ | _
  · rfl
  · obtain ⟨x, y, ⟨rfl, rfl, rfl, rfl⟩, ⟨rfl, rfl, rfl, rfl⟩, hxy⟩ := sR_good e
    exfalso
    unfold cR at h
    rw [fright_is, fright_is, ratOf_is, ratOf_is] at h
    have hn : ¬ x < y := fun e => h (by rw [Bool.and_self, if_pos rfl, cmpR_lt.2 e]; decide)
    have : x = y := Rat.le_antisymm hxy (Rat.not_lt.1 hn)
    subst this
    simp at hs
theorem cR_eq {s1 t1 s2 t2 : Int} {l1 k1 l2 k2 : List Int} (hs : (decide (s1 = s2 ∧ l1 = l2) && decide (t1 = t2 ∧ k1 = k2)) = true) : sR s1 l1 t1 k1 s2 l2 t2 k2 = fRightB s1 l1 t1 k1 := by
  simp only [Bool.and_eq_true, decide_eq_true_eq] at hs
  obtain ⟨⟨rfl, rfl⟩, rfl, rfl⟩ := hs
  unfold sR
  rw [Bool.and_self, decide_eq_true (Rat.le_refl : ratOf s1 l1 k1 ≤ ratOf s1 l1 k1), Bool.and_true]
theorem fsame_b {w : World} {s1 t1 : Int} {a1 b1 : Option Addr} {n1 c1 m1 d1 : Nat} {l1 k1 : List Int} {s2 t2 : Int} {a2 b2 : Option Addr} {n2 c2 m2 d2 : Nat} {l2 k2 : List Int} (h1 : Ints w (.slice a1 n1 c1) l1) (h2 : Ints w (.slice b1 m1 d1) k1) (h3 : Ints w (.slice a2 n2 c2) l2) (h4 : Ints w (.slice b2 m2 d2) k2) {r : Bool} (hr : (decide (s1 = s2 ∧ l1 = l2) && decide (t1 = t2 ∧ k1 = k2)) = r) :
    Calls Try.prog 45 #[.agg #[.int .i64 s1, .slice a1 n1 c1, .int .i64 t1, .slice b1 m1 d1], .agg #[.int .i64 s2, .slice a2 n2 c2, .int .i64 t2, .slice b2 m2 d2]] w fun e w' => e = .returned (.bool r) ∧ RowKit.Below w.heap.size w w' := by
  subst hr
  exact fsame_raw s1 a1 n1 c1 l1 t1 b1 m1 d1 k1 s2 a2 n2 c2 l2 t2 b2 m2 d2 k2 w h1 h2 h3 h4

set_option maxHeartbeats 8000000 in
theorem p10right_raw {w : World} {s1 t1 : Int} {a1 b1 : Option Addr} {n1 c1 m1 d1 : Nat} {l1 k1 : List Int} {s2 t2 : Int} {a2 b2 : Option Addr} {n2 c2 m2 d2 : Nat} {l2 k2 : List Int} (hl1 : Ints w (.slice a1 n1 c1) l1) (hk1 : Ints w (.slice b1 m1 d1) k1) (ll1 : l1.length ≤ 1000) (lk1 : k1.length ≤ 1000) (hl2 : Ints w (.slice a2 n2 c2) l2) (hk2 : Ints w (.slice b2 m2 d2) k2) (ll2 : l2.length ≤ 1000) (lk2 : k2.length ≤ 1000) {r : Bool} (hr : sR s1 l1 t1 k1 s2 l2 t2 k2 = r) :
    Calls Try.prog 21 #[.agg #[.int .i64 s1, .slice a1 n1 c1, .int .i64 t1, .slice b1 m1 d1, .int .i64 s2, .slice a2 n2 c2, .int .i64 t2, .slice b2 m2 d2]] w fun e w' => e = .returned (.bool r) ∧ RowKit.Below w.heap.size w w' := by
  obtain ⟨j, hj⟩ : ∃ j, cR s1 l1 t1 k1 s2 l2 t2 k2 = j := ⟨_, rfl⟩
  have HJ := Lib.hid hj
  obtain ⟨v, hv⟩ : ∃ v, (decide (s1 = s2 ∧ l1 = l2) && decide (t1 = t2 ∧ k1 = k2)) = v := ⟨_, rfl⟩
  have HV := Lib.hid hv
  by_cases h0 : j < 0
  · obtain rfl : true = r := by rw [← hr]; exact (cR_lt (by rw [hj]; exact h0)).symm
    have gk : decide (j < 0) = true := decide_eq_true h0
    have LL1 := Lib.hid ll1
    have LK1 := Lib.hid lk1
    have LL2 := Lib.hid ll2
    have LK2 := Lib.hid lk2
    have s0 := ((((((Sf.start w).arg hk1).arg hl1).arg hk2).arg hl2).put [.int .i64 s1, .slice a1 n1 c1, .int .i64 t1, .slice b1 m1 d1, .int .i64 s2, .slice a2 n2 c2, .int .i64 t2, .slice b2 m2 d2] 28)
    try simp only [World.size_alloc] at s0
    have S0 := Lib.hid s0
    clear s0
    clear hr hj hv h0 hl1 hk1 ll1 lk1 hl2 hk2 ll2 lk2
    go_enter Try.func21, Try.ntmps21
    obtain ⟨q1, q2, q3, q4, q5, q6, q7, q8⟩ := Fb.cells8 (S0.out.box (w.heap.size, 28, [.int .i64 s1, .slice a1 n1 c1, .int .i64 t1, .slice b1 m1 d1, .int .i64 s2, .slice a2 n2 c2, .int .i64 t2, .slice b2 m2 d2]) mq0)
    go_wp2_with fail
    clear q1 q2 q3 q4 q5 q6 q7 q8
    refine (fcmp_any (S0.out.ints (.slice a1 n1 c1, l1) mq2) (S0.out.ints (.slice b1 m1 d1, k1) mq3) LL1.out LK1.out (S0.out.ints (.slice a2 n2 c2, l2) mq0) (S0.out.ints (.slice b2 m2 d2, k2) mq1) LL2.out LK2.out HJ.out).mono ?_
    rintro e w1 ⟨rfl, hb⟩
    have R1 := Lib.hid (S0.out.later hb)
    clear hb
    go_wp2_with fail
    go_ret
    exact ⟨rfl, R1.out.below⟩
  · have gk : decide (j < 0) = false := decide_eq_false h0
    cases v
    · obtain rfl : false = r := by rw [← hr]; exact (cR_ne (by rw [hj]; exact h0) hv).symm
      have LL1 := Lib.hid ll1
      have LK1 := Lib.hid lk1
      have LL2 := Lib.hid ll2
      have LK2 := Lib.hid lk2
      have s0 := ((((((Sf.start w).arg hk1).arg hl1).arg hk2).arg hl2).put [.int .i64 s1, .slice a1 n1 c1, .int .i64 t1, .slice b1 m1 d1, .int .i64 s2, .slice a2 n2 c2, .int .i64 t2, .slice b2 m2 d2] 28)
      try simp only [World.size_alloc] at s0
      have S0 := Lib.hid s0
      clear s0
      clear hr hj hv h0 hl1 hk1 ll1 lk1 hl2 hk2 ll2 lk2
      go_enter Try.func21, Try.ntmps21
      obtain ⟨q1, q2, q3, q4, q5, q6, q7, q8⟩ := Fb.cells8 (S0.out.box (w.heap.size, 28, [.int .i64 s1, .slice a1 n1 c1, .int .i64 t1, .slice b1 m1 d1, .int .i64 s2, .slice a2 n2 c2, .int .i64 t2, .slice b2 m2 d2]) mq0)
      go_wp2_with fail
      clear q1 q2 q3 q4 q5 q6 q7 q8
      refine (fcmp_any (S0.out.ints (.slice a1 n1 c1, l1) mq2) (S0.out.ints (.slice b1 m1 d1, k1) mq3) LL1.out LK1.out (S0.out.ints (.slice a2 n2 c2, l2) mq0) (S0.out.ints (.slice b2 m2 d2, k2) mq1) LL2.out LK2.out HJ.out).mono ?_
      rintro e w1 ⟨rfl, hb⟩
      have R1 := Lib.hid (S0.out.later hb)
      clear hb
      obtain ⟨q9, q10, q11, q12, q13, q14, q15, q16⟩ := Fb.cells8 (R1.out.box (w.heap.size, 28, [.int .i64 s1, .slice a1 n1 c1, .int .i64 t1, .slice b1 m1 d1, .int .i64 s2, .slice a2 n2 c2, .int .i64 t2, .slice b2 m2 d2]) mq0)
      go_wp2_with fail
      clear q9 q10 q11 q12 q13 q14 q15 q16
      refine (fsame_b (R1.out.ints (.slice a1 n1 c1, l1) mq2) (R1.out.ints (.slice b1 m1 d1, k1) mq3) (R1.out.ints (.slice a2 n2 c2, l2) mq0) (R1.out.ints (.slice b2 m2 d2, k2) mq1) HV.out).mono ?_
      rintro e w2 ⟨rfl, hb⟩
      have R2 := Lib.hid (R1.out.later hb)
      clear hb
      go_wp2_with fail
      go_ret
      exact ⟨rfl, R2.out.below⟩
    · have HR : Hid (fRightB s1 l1 t1 k1 = r) := Lib.hid (by rw [← hr]; exact (cR_eq hv).symm)
      have LL1 := Lib.hid ll1
      have LK1 := Lib.hid lk1
      have LL2 := Lib.hid ll2
      have LK2 := Lib.hid lk2
      have s0 := ((((((Sf.start w).arg hk1).arg hl1).arg hk2).arg hl2).put [.int .i64 s1, .slice a1 n1 c1, .int .i64 t1, .slice b1 m1 d1, .int .i64 s2, .slice a2 n2 c2, .int .i64 t2, .slice b2 m2 d2] 28)
      try simp only [World.size_alloc] at s0
      have S0 := Lib.hid s0
      clear s0
      clear hr hj hv h0 hl1 hk1 ll1 lk1 hl2 hk2 ll2 lk2
      go_enter Try.func21, Try.ntmps21
      obtain ⟨q1, q2, q3, q4, q5, q6, q7, q8⟩ := Fb.cells8 (S0.out.box (w.heap.size, 28, [.int .i64 s1, .slice a1 n1 c1, .int .i64 t1, .slice b1 m1 d1, .int .i64 s2, .slice a2 n2 c2, .int .i64 t2, .slice b2 m2 d2]) mq0)
      go_wp2_with fail
      clear q1 q2 q3 q4 q5 q6 q7 q8
      refine (fcmp_any (S0.out.ints (.slice a1 n1 c1, l1) mq2) (S0.out.ints (.slice b1 m1 d1, k1) mq3) LL1.out LK1.out (S0.out.ints (.slice a2 n2 c2, l2) mq0) (S0.out.ints (.slice b2 m2 d2, k2) mq1) LL2.out LK2.out HJ.out).mono ?_
      rintro e w1 ⟨rfl, hb⟩
      have R1 := Lib.hid (S0.out.later hb)
      clear hb
      obtain ⟨q9, q10, q11, q12, q13, q14, q15, q16⟩ := Fb.cells8 (R1.out.box (w.heap.size, 28, [.int .i64 s1, .slice a1 n1 c1, .int .i64 t1, .slice b1 m1 d1, .int .i64 s2, .slice a2 n2 c2, .int .i64 t2, .slice b2 m2 d2]) mq0)
      go_wp2_with fail
      clear q9 q10 q11 q12 q13 q14 q15 q16
      refine (fsame_b (R1.out.ints (.slice a1 n1 c1, l1) mq2) (R1.out.ints (.slice b1 m1 d1, k1) mq3) (R1.out.ints (.slice a2 n2 c2, l2) mq0) (R1.out.ints (.slice b2 m2 d2, k2) mq1) HV.out).mono ?_
      rintro e w2 ⟨rfl, hb⟩
      have R2 := Lib.hid (R1.out.later hb)
      clear hb
      obtain ⟨q17, q18, q19, q20, q21, q22, q23, q24⟩ := Fb.cells8 (R2.out.box (w.heap.size, 28, [.int .i64 s1, .slice a1 n1 c1, .int .i64 t1, .slice b1 m1 d1, .int .i64 s2, .slice a2 n2 c2, .int .i64 t2, .slice b2 m2 d2]) mq0)
      go_wp2_with fail
      clear q17 q18 q19 q20 q21 q22 q23 q24
      refine (fright_any s1 a1 n1 c1 l1 t1 b1 m1 d1 k1 _ (R2.out.ints (.slice a1 n1 c1, l1) mq2) (R2.out.ints (.slice b1 m1 d1, k1) mq3) (Nat.le_trans LL1.out (by decide)) (Nat.le_trans LK1.out (by decide)) _ HR.out).mono ?_
      rintro e w3 ⟨rfl, hb⟩
      have R3 := Lib.hid (R2.out.later hb)
      clear hb
      go_wp2_with fail
      go_ret
      exact ⟨rfl, R3.out.below⟩
theorem p10right_v {w : World} {s1 : Int} {a1 b1 : Option Addr} {n1 c1 m1 d1 : Nat} {x : Rat} {s2 : Int} {a2 b2 : Option Addr} {n2 c2 m2 d2 : Nat} {y : Rat} (h1 : Fr w s1 (.slice a1 n1 c1) (.slice b1 m1 d1) x) (z1 : FSz 1000 x) (h2 : Fr w s2 (.slice a2 n2 c2) (.slice b2 m2 d2) y) (z2 : FSz 1000 y) {r : Bool} (hr : decide (x ≤ y) = r) :
    Calls Try.prog 21 #[.agg #[.int .i64 s1, .slice a1 n1 c1, .int .i64 1, .slice b1 m1 d1, .int .i64 s2, .slice a2 n2 c2, .int .i64 1, .slice b2 m2 d2]] w fun e w' => e = .returned (.bool r) ∧ RowKit.Below w.heap.size w w' := by
  obtain ⟨⟨rfl, i1⟩, ⟨_, j1⟩⟩ := h1
  obtain ⟨⟨rfl, i2⟩, ⟨_, j2⟩⟩ := h2
  exact p10right_raw i1 j1 (digs_le z1.1) (digs_le z1.2) i2 j2 (digs_le z2.1) (digs_le z2.2) (by rw [sR_is, hr])

set_option maxHeartbeats 8000000 in
theorem p10has_k {w : World} {s1 : Int} {a1 b1 : Option Addr} {n1 c1 m1 d1 : Nat} {x : Rat} {s2 : Int} {a2 b2 : Option Addr} {n2 c2 m2 d2 : Nat} {y : Rat} {s3 : Int} {a3 b3 : Option Addr} {n3 c3 m3 d3 : Nat} {v : Rat} (h1 : Fr w s1 (.slice a1 n1 c1) (.slice b1 m1 d1) x) (z1 : FSz 1000 x) (h2 : Fr w s2 (.slice a2 n2 c2) (.slice b2 m2 d2) y) (z2 : FSz 1000 y) (h3 : Fr w s3 (.slice a3 n3 c3) (.slice b3 m3 d3) v) (z3 : FSz 1000 v) (hxy : x ≤ y) {r : Bool} (hr : (decide (x ≤ v) && decide (v ≤ y)) = r) :
    Calls Try.prog 11 #[.agg #[.int .i64 s1, .slice a1 n1 c1, .int .i64 1, .slice b1 m1 d1, .int .i64 s2, .slice a2 n2 c2, .int .i64 1, .slice b2 m2 d2], .agg #[.int .i64 s3, .slice a3 n3 c3, .int .i64 1, .slice b3 m3 d3]] w fun e w' => e = .returned (.bool r) ∧ RowKit.Below w.heap.size w w' := by
  have HXY := Lib.hid (decide_eq_true hxy)
  obtain ⟨k, hk⟩ : ∃ k, cmpR x v = k := ⟨_, rfl⟩
  obtain ⟨j, hj⟩ : ∃ j, cmpR v y = j := ⟨_, rfl⟩
  rw [← cmp_le, ← cmp_le, hk, hj] at hr
  have HK := Lib.hid hk
  have HJ := Lib.hid hj
  by_cases hk0 : k ≤ 0
  · obtain rfl : decide (j ≤ 0) = r := by rw [← hr]; simp [hk0]
    have gk : decide (k ≤ 0) = true := decide_eq_true hk0
    have E1 := Lib.hid h1.1.1
    have Z1 := Lib.hid z1
    have E2 := Lib.hid h2.1.1
    have Z2 := Lib.hid z2
    have E3 := Lib.hid h3.1.1
    have Z3 := Lib.hid z3
    have s0 := (((((((((Sf.start w).arg h1.2.2).arg h1.1.2).arg h2.2.2).arg h2.1.2).arg h3.2.2).arg h3.1.2).put [.int .i64 s1, .slice a1 n1 c1, .int .i64 1, .slice b1 m1 d1, .int .i64 s2, .slice a2 n2 c2, .int .i64 1, .slice b2 m2 d2] 28).put [.int .i64 s3, .slice a3 n3 c3, .int .i64 1, .slice b3 m3 d3] 26)
    try simp only [World.size_alloc] at s0
    have S0 := Lib.hid s0
    clear s0
    clear hr hk hj hxy h1 h2 h3 z1 z2 z3
    go_enter Try.func11, Try.ntmps11
    obtain ⟨q1, q2, q3, q4, q5, q6, q7, q8⟩ := Fb.cells8 (S0.out.box (w.heap.size, 28, [.int .i64 s1, .slice a1 n1 c1, .int .i64 1, .slice b1 m1 d1, .int .i64 s2, .slice a2 n2 c2, .int .i64 1, .slice b2 m2 d2]) mq1)
    go_wp2_with fail
    clear q1 q2 q3 q4 q5 q6 q7 q8
    refine (p10right_v (S0.out.fr (v := .slice a1 n1 c1) (u := .slice b1 m1 d1) (r := x) mq4 mq5 E1.out) Z1.out (S0.out.fr (v := .slice a2 n2 c2) (u := .slice b2 m2 d2) (r := y) mq2 mq3 E2.out) Z2.out HXY.out).mono ?_
    rintro e w1 ⟨rfl, hb⟩
    have R1 := Lib.hid (S0.out.later hb)
    clear hb
    obtain ⟨q9, q10, q11, q12⟩ := Fb.cells4 (R1.out.box (w.heap.size + 1, 26, [.int .i64 s3, .slice a3 n3 c3, .int .i64 1, .slice b3 m3 d3]) mq0)
    go_wp2_with fail
    clear q9 q10 q11 q12
    refine (fright_k (R1.out.fr (v := .slice a3 n3 c3) (u := .slice b3 m3 d3) (r := v) mq0 mq1 E3.out) Z3.out).mono ?_
    rintro e w2 ⟨rfl, hb⟩
    have R2 := Lib.hid (R1.out.later hb)
    clear hb
    obtain ⟨q13, q14, q15, q16⟩ := Fb.cells4 (R2.out.box (w.heap.size + 1, 26, [.int .i64 s3, .slice a3 n3 c3, .int .i64 1, .slice b3 m3 d3]) mq0)
    obtain ⟨q17, q18, q19, q20, q21, q22, q23, q24⟩ := Fb.cells8 (R2.out.box (w.heap.size, 28, [.int .i64 s1, .slice a1 n1 c1, .int .i64 1, .slice b1 m1 d1, .int .i64 s2, .slice a2 n2 c2, .int .i64 1, .slice b2 m2 d2]) mq1)
    go_wp2_with fail
    clear q13 q14 q15 q16 q17 q18 q19 q20 q21 q22 q23 q24
    refine (fcmp_r (R2.out.fr (v := .slice a1 n1 c1) (u := .slice b1 m1 d1) (r := x) mq4 mq5 E1.out) (R2.out.fr (v := .slice a3 n3 c3) (u := .slice b3 m3 d3) (r := v) mq0 mq1 E3.out) Z1.out Z3.out HK.out).mono ?_
    rintro e w3 ⟨rfl, hb⟩
    have R3 := Lib.hid (R2.out.later hb)
    clear hb
    obtain ⟨q25, q26, q27, q28⟩ := Fb.cells4 (R3.out.box (w.heap.size + 1, 26, [.int .i64 s3, .slice a3 n3 c3, .int .i64 1, .slice b3 m3 d3]) mq0)
    obtain ⟨q29, q30, q31, q32, q33, q34, q35, q36⟩ := Fb.cells8 (R3.out.box (w.heap.size, 28, [.int .i64 s1, .slice a1 n1 c1, .int .i64 1, .slice b1 m1 d1, .int .i64 s2, .slice a2 n2 c2, .int .i64 1, .slice b2 m2 d2]) mq1)
    go_wp2_with fail
    clear q25 q26 q27 q28 q29 q30 q31 q32 q33 q34 q35 q36
    refine (fcmp_r (R3.out.fr (v := .slice a3 n3 c3) (u := .slice b3 m3 d3) (r := v) mq0 mq1 E3.out) (R3.out.fr (v := .slice a2 n2 c2) (u := .slice b2 m2 d2) (r := y) mq2 mq3 E2.out) Z3.out Z2.out HJ.out).mono ?_
    rintro e w4 ⟨rfl, hb⟩
    have R4 := Lib.hid (R3.out.later hb)
    clear hb
    go_wp2_with fail
    go_ret
    exact ⟨rfl, R4.out.below⟩
  · obtain rfl : false = r := by rw [← hr]; simp [hk0]
    have gk : decide (k ≤ 0) = false := decide_eq_false hk0
    have E1 := Lib.hid h1.1.1
    have Z1 := Lib.hid z1
    have E2 := Lib.hid h2.1.1
    have Z2 := Lib.hid z2
    have E3 := Lib.hid h3.1.1
    have Z3 := Lib.hid z3
    have s0 := (((((((((Sf.start w).arg h1.2.2).arg h1.1.2).arg h2.2.2).arg h2.1.2).arg h3.2.2).arg h3.1.2).put [.int .i64 s1, .slice a1 n1 c1, .int .i64 1, .slice b1 m1 d1, .int .i64 s2, .slice a2 n2 c2, .int .i64 1, .slice b2 m2 d2] 28).put [.int .i64 s3, .slice a3 n3 c3, .int .i64 1, .slice b3 m3 d3] 26)
    try simp only [World.size_alloc] at s0
    have S0 := Lib.hid s0
    clear s0
    clear hr hk hj hxy h1 h2 h3 z1 z2 z3
    go_enter Try.func11, Try.ntmps11
    obtain ⟨q1, q2, q3, q4, q5, q6, q7, q8⟩ := Fb.cells8 (S0.out.box (w.heap.size, 28, [.int .i64 s1, .slice a1 n1 c1, .int .i64 1, .slice b1 m1 d1, .int .i64 s2, .slice a2 n2 c2, .int .i64 1, .slice b2 m2 d2]) mq1)
    go_wp2_with fail
    clear q1 q2 q3 q4 q5 q6 q7 q8
    refine (p10right_v (S0.out.fr (v := .slice a1 n1 c1) (u := .slice b1 m1 d1) (r := x) mq4 mq5 E1.out) Z1.out (S0.out.fr (v := .slice a2 n2 c2) (u := .slice b2 m2 d2) (r := y) mq2 mq3 E2.out) Z2.out HXY.out).mono ?_
    rintro e w1 ⟨rfl, hb⟩
    have R1 := Lib.hid (S0.out.later hb)
    clear hb
    obtain ⟨q9, q10, q11, q12⟩ := Fb.cells4 (R1.out.box (w.heap.size + 1, 26, [.int .i64 s3, .slice a3 n3 c3, .int .i64 1, .slice b3 m3 d3]) mq0)
    go_wp2_with fail
    clear q9 q10 q11 q12
    refine (fright_k (R1.out.fr (v := .slice a3 n3 c3) (u := .slice b3 m3 d3) (r := v) mq0 mq1 E3.out) Z3.out).mono ?_
    rintro e w2 ⟨rfl, hb⟩
    have R2 := Lib.hid (R1.out.later hb)
    clear hb
    obtain ⟨q13, q14, q15, q16⟩ := Fb.cells4 (R2.out.box (w.heap.size + 1, 26, [.int .i64 s3, .slice a3 n3 c3, .int .i64 1, .slice b3 m3 d3]) mq0)
    obtain ⟨q17, q18, q19, q20, q21, q22, q23, q24⟩ := Fb.cells8 (R2.out.box (w.heap.size, 28, [.int .i64 s1, .slice a1 n1 c1, .int .i64 1, .slice b1 m1 d1, .int .i64 s2, .slice a2 n2 c2, .int .i64 1, .slice b2 m2 d2]) mq1)
    go_wp2_with fail
    clear q13 q14 q15 q16 q17 q18 q19 q20 q21 q22 q23 q24
    refine (fcmp_r (R2.out.fr (v := .slice a1 n1 c1) (u := .slice b1 m1 d1) (r := x) mq4 mq5 E1.out) (R2.out.fr (v := .slice a3 n3 c3) (u := .slice b3 m3 d3) (r := v) mq0 mq1 E3.out) Z1.out Z3.out HK.out).mono ?_
    rintro e w3 ⟨rfl, hb⟩
    have R3 := Lib.hid (R2.out.later hb)
    clear hb
    go_wp2_with fail
    go_ret
    exact ⟨rfl, R3.out.below⟩

set_option maxHeartbeats 8000000 in
theorem p10has_bad {w : World} {s1 t1 : Int} {a1 b1 : Option Addr} {n1 c1 m1 d1 : Nat} {l1 k1 : List Int} {s2 t2 : Int} {a2 b2 : Option Addr} {n2 c2 m2 d2 : Nat} {l2 k2 : List Int} {s3 t3 : Int} {a3 b3 : Option Addr} {n3 c3 m3 d3 : Nat} {l3 k3 : List Int} (hl1 : Ints w (.slice a1 n1 c1) l1) (hk1 : Ints w (.slice b1 m1 d1) k1) (ll1 : l1.length ≤ 1000) (lk1 : k1.length ≤ 1000) (hl2 : Ints w (.slice a2 n2 c2) l2) (hk2 : Ints w (.slice b2 m2 d2) k2) (ll2 : l2.length ≤ 1000) (lk2 : k2.length ≤ 1000) (hl3 : Ints w (.slice a3 n3 c3) l3) (hk3 : Ints w (.slice b3 m3 d3) k3) (ll3 : l3.length ≤ 1000) (lk3 : k3.length ≤ 1000) (hr : (sR s1 l1 t1 k1 s2 l2 t2 k2 && fRightB s3 l3 t3 k3) = false) :
    Calls Try.prog 11 #[.agg #[.int .i64 s1, .slice a1 n1 c1, .int .i64 t1, .slice b1 m1 d1, .int .i64 s2, .slice a2 n2 c2, .int .i64 t2, .slice b2 m2 d2], .agg #[.int .i64 s3, .slice a3 n3 c3, .int .i64 t3, .slice b3 m3 d3]] w fun e w' => e = .returned (.bool false) ∧ RowKit.Below w.heap.size w w' := by
  rcases ea : sR s1 l1 t1 k1 s2 l2 t2 k2 with _ | _
  · skip
    have LL1 := Lib.hid ll1
    have LK1 := Lib.hid lk1
    have LL2 := Lib.hid ll2
    have LK2 := Lib.hid lk2
    have LL3 := Lib.hid ll3
    have LK3 := Lib.hid lk3
    have EA := Lib.hid ea
    have s0 := (((((((((Sf.start w).arg hk1).arg hl1).arg hk2).arg hl2).arg hk3).arg hl3).put [.int .i64 s1, .slice a1 n1 c1, .int .i64 t1, .slice b1 m1 d1, .int .i64 s2, .slice a2 n2 c2, .int .i64 t2, .slice b2 m2 d2] 28).put [.int .i64 s3, .slice a3 n3 c3, .int .i64 t3, .slice b3 m3 d3] 26)
    try simp only [World.size_alloc] at s0
    have S0 := Lib.hid s0
    clear s0
    clear hr ea hl1 hk1 ll1 lk1 hl2 hk2 ll2 lk2 hl3 hk3 ll3 lk3
    go_enter Try.func11, Try.ntmps11
    obtain ⟨q1, q2, q3, q4, q5, q6, q7, q8⟩ := Fb.cells8 (S0.out.box (w.heap.size, 28, [.int .i64 s1, .slice a1 n1 c1, .int .i64 t1, .slice b1 m1 d1, .int .i64 s2, .slice a2 n2 c2, .int .i64 t2, .slice b2 m2 d2]) mq1)
    go_wp2_with fail
    clear q1 q2 q3 q4 q5 q6 q7 q8
    refine (p10right_raw (S0.out.ints (.slice a1 n1 c1, l1) mq4) (S0.out.ints (.slice b1 m1 d1, k1) mq5) LL1.out LK1.out (S0.out.ints (.slice a2 n2 c2, l2) mq2) (S0.out.ints (.slice b2 m2 d2, k2) mq3) LL2.out LK2.out EA.out).mono ?_
    rintro e w1 ⟨rfl, hb⟩
    have R1 := Lib.hid (S0.out.later hb)
    clear hb
    go_wp2_with fail
    go_ret
    exact ⟨rfl, R1.out.below⟩
  · have eb : fRightB s3 l3 t3 k3 = false := by rw [ea] at hr; simpa using hr
    have LL1 := Lib.hid ll1
    have LK1 := Lib.hid lk1
    have LL2 := Lib.hid ll2
    have LK2 := Lib.hid lk2
    have LL3 := Lib.hid ll3
    have LK3 := Lib.hid lk3
    have EA := Lib.hid ea
    have EB := Lib.hid eb
    have s0 := (((((((((Sf.start w).arg hk1).arg hl1).arg hk2).arg hl2).arg hk3).arg hl3).put [.int .i64 s1, .slice a1 n1 c1, .int .i64 t1, .slice b1 m1 d1, .int .i64 s2, .slice a2 n2 c2, .int .i64 t2, .slice b2 m2 d2] 28).put [.int .i64 s3, .slice a3 n3 c3, .int .i64 t3, .slice b3 m3 d3] 26)
    try simp only [World.size_alloc] at s0
    have S0 := Lib.hid s0
    clear s0
    clear hr ea hl1 hk1 ll1 lk1 hl2 hk2 ll2 lk2 hl3 hk3 ll3 lk3 eb
    go_enter Try.func11, Try.ntmps11
    obtain ⟨q1, q2, q3, q4, q5, q6, q7, q8⟩ := Fb.cells8 (S0.out.box (w.heap.size, 28, [.int .i64 s1, .slice a1 n1 c1, .int .i64 t1, .slice b1 m1 d1, .int .i64 s2, .slice a2 n2 c2, .int .i64 t2, .slice b2 m2 d2]) mq1)
    go_wp2_with fail
    clear q1 q2 q3 q4 q5 q6 q7 q8
    refine (p10right_raw (S0.out.ints (.slice a1 n1 c1, l1) mq4) (S0.out.ints (.slice b1 m1 d1, k1) mq5) LL1.out LK1.out (S0.out.ints (.slice a2 n2 c2, l2) mq2) (S0.out.ints (.slice b2 m2 d2, k2) mq3) LL2.out LK2.out EA.out).mono ?_
    rintro e w1 ⟨rfl, hb⟩
    have R1 := Lib.hid (S0.out.later hb)
    clear hb
    obtain ⟨q9, q10, q11, q12⟩ := Fb.cells4 (R1.out.box (w.heap.size + 1, 26, [.int .i64 s3, .slice a3 n3 c3, .int .i64 t3, .slice b3 m3 d3]) mq0)
    go_wp2_with fail
    clear q9 q10 q11 q12
    refine (fright_any s3 a3 n3 c3 l3 t3 b3 m3 d3 k3 _ (R1.out.ints (.slice a3 n3 c3, l3) mq0) (R1.out.ints (.slice b3 m3 d3, k3) mq1) (Nat.le_trans LL3.out (by decide)) (Nat.le_trans LK3.out (by decide)) _ EB.out).mono ?_
    rintro e w2 ⟨rfl, hb⟩
    have R2 := Lib.hid (R1.out.later hb)
    clear hb
    go_wp2_with fail
    go_ret
    exact ⟨rfl, R2.out.below⟩

set_option maxHeartbeats 8000000 in
theorem p10inside_k {w : World} {s1 : Int} {a1 b1 : Option Addr} {n1 c1 m1 d1 : Nat} {x : Rat} {s2 : Int} {a2 b2 : Option Addr} {n2 c2 m2 d2 : Nat} {y : Rat} {s3 : Int} {a3 b3 : Option Addr} {n3 c3 m3 d3 : Nat} {p : Rat} {s4 : Int} {a4 b4 : Option Addr} {n4 c4 m4 d4 : Nat} {q : Rat} (h1 : Fr w s1 (.slice a1 n1 c1) (.slice b1 m1 d1) x) (z1 : FSz 1000 x) (h2 : Fr w s2 (.slice a2 n2 c2) (.slice b2 m2 d2) y) (z2 : FSz 1000 y) (h3 : Fr w s3 (.slice a3 n3 c3) (.slice b3 m3 d3) p) (z3 : FSz 1000 p) (h4 : Fr w s4 (.slice a4 n4 c4) (.slice b4 m4 d4) q) (z4 : FSz 1000 q) (hxy : x ≤ y) (hpq : p ≤ q) {r : Bool} (hr : (decide (p ≤ x) && decide (y ≤ q)) = r) :
    Calls Try.prog 16 #[.agg #[.int .i64 s1, .slice a1 n1 c1, .int .i64 1, .slice b1 m1 d1, .int .i64 s2, .slice a2 n2 c2, .int .i64 1, .slice b2 m2 d2], .agg #[.int .i64 s3, .slice a3 n3 c3, .int .i64 1, .slice b3 m3 d3, .int .i64 s4, .slice a4 n4 c4, .int .i64 1, .slice b4 m4 d4]] w fun e w' => e = .returned (.bool r) ∧ RowKit.Below w.heap.size w w' := by
  have HXY := Lib.hid (decide_eq_true hxy)
  have HPQ := Lib.hid (decide_eq_true hpq)
  obtain ⟨k, hk⟩ : ∃ k, cmpR p x = k := ⟨_, rfl⟩
  obtain ⟨j, hj⟩ : ∃ j, cmpR y q = j := ⟨_, rfl⟩
  rw [← cmp_le, ← cmp_le, hk, hj] at hr
  have HK := Lib.hid hk
  have HJ := Lib.hid hj
  by_cases hk0 : k ≤ 0
  · obtain rfl : decide (j ≤ 0) = r := by rw [← hr]; simp [hk0]
    have gk : decide (k ≤ 0) = true := decide_eq_true hk0
    have E1 := Lib.hid h1.1.1
    have Z1 := Lib.hid z1
    have E2 := Lib.hid h2.1.1
    have Z2 := Lib.hid z2
    have E3 := Lib.hid h3.1.1
    have Z3 := Lib.hid z3
    have E4 := Lib.hid h4.1.1
    have Z4 := Lib.hid z4
    have s0 := (((((((((((Sf.start w).arg h1.2.2).arg h1.1.2).arg h2.2.2).arg h2.1.2).arg h3.2.2).arg h3.1.2).arg h4.2.2).arg h4.1.2).put [.int .i64 s1, .slice a1 n1 c1, .int .i64 1, .slice b1 m1 d1, .int .i64 s2, .slice a2 n2 c2, .int .i64 1, .slice b2 m2 d2] 28).put [.int .i64 s3, .slice a3 n3 c3, .int .i64 1, .slice b3 m3 d3, .int .i64 s4, .slice a4 n4 c4, .int .i64 1, .slice b4 m4 d4] 28)
    try simp only [World.size_alloc] at s0
    have S0 := Lib.hid s0
    clear s0
    clear hr hk hj hxy hpq hk0 h1 h2 h3 h4 z1 z2 z3 z4
    go_enter Try.func16, Try.ntmps16
    obtain ⟨q1, q2, q3, q4, q5, q6, q7, q8⟩ := Fb.cells8 (S0.out.box (w.heap.size, 28, [.int .i64 s1, .slice a1 n1 c1, .int .i64 1, .slice b1 m1 d1, .int .i64 s2, .slice a2 n2 c2, .int .i64 1, .slice b2 m2 d2]) mq1)
    go_wp2_with fail
    clear q1 q2 q3 q4 q5 q6 q7 q8
    refine (p10right_v (S0.out.fr (v := .slice a1 n1 c1) (u := .slice b1 m1 d1) (r := x) mq6 mq7 E1.out) Z1.out (S0.out.fr (v := .slice a2 n2 c2) (u := .slice b2 m2 d2) (r := y) mq4 mq5 E2.out) Z2.out HXY.out).mono ?_
    rintro e w1 ⟨rfl, hb⟩
    have R1 := Lib.hid (S0.out.later hb)
    clear hb
    obtain ⟨q9, q10, q11, q12, q13, q14, q15, q16⟩ := Fb.cells8 (R1.out.box (w.heap.size + 1, 28, [.int .i64 s3, .slice a3 n3 c3, .int .i64 1, .slice b3 m3 d3, .int .i64 s4, .slice a4 n4 c4, .int .i64 1, .slice b4 m4 d4]) mq0)
    go_wp2_with fail
    clear q9 q10 q11 q12 q13 q14 q15 q16
    refine (p10right_v (R1.out.fr (v := .slice a3 n3 c3) (u := .slice b3 m3 d3) (r := p) mq2 mq3 E3.out) Z3.out (R1.out.fr (v := .slice a4 n4 c4) (u := .slice b4 m4 d4) (r := q) mq0 mq1 E4.out) Z4.out HPQ.out).mono ?_
    rintro e w2 ⟨rfl, hb⟩
    have R2 := Lib.hid (R1.out.later hb)
    clear hb
    obtain ⟨q17, q18, q19, q20, q21, q22, q23, q24⟩ := Fb.cells8 (R2.out.box (w.heap.size + 1, 28, [.int .i64 s3, .slice a3 n3 c3, .int .i64 1, .slice b3 m3 d3, .int .i64 s4, .slice a4 n4 c4, .int .i64 1, .slice b4 m4 d4]) mq0)
    obtain ⟨q25, q26, q27, q28, q29, q30, q31, q32⟩ := Fb.cells8 (R2.out.box (w.heap.size, 28, [.int .i64 s1, .slice a1 n1 c1, .int .i64 1, .slice b1 m1 d1, .int .i64 s2, .slice a2 n2 c2, .int .i64 1, .slice b2 m2 d2]) mq1)
    go_wp2_with fail
    clear q17 q18 q19 q20 q21 q22 q23 q24 q25 q26 q27 q28 q29 q30 q31 q32
    refine (fcmp_r (R2.out.fr (v := .slice a3 n3 c3) (u := .slice b3 m3 d3) (r := p) mq2 mq3 E3.out) (R2.out.fr (v := .slice a1 n1 c1) (u := .slice b1 m1 d1) (r := x) mq6 mq7 E1.out) Z3.out Z1.out HK.out).mono ?_
    rintro e w3 ⟨rfl, hb⟩
    have R3 := Lib.hid (R2.out.later hb)
    clear hb
    obtain ⟨q33, q34, q35, q36, q37, q38, q39, q40⟩ := Fb.cells8 (R3.out.box (w.heap.size + 1, 28, [.int .i64 s3, .slice a3 n3 c3, .int .i64 1, .slice b3 m3 d3, .int .i64 s4, .slice a4 n4 c4, .int .i64 1, .slice b4 m4 d4]) mq0)
    obtain ⟨q41, q42, q43, q44, q45, q46, q47, q48⟩ := Fb.cells8 (R3.out.box (w.heap.size, 28, [.int .i64 s1, .slice a1 n1 c1, .int .i64 1, .slice b1 m1 d1, .int .i64 s2, .slice a2 n2 c2, .int .i64 1, .slice b2 m2 d2]) mq1)
    go_wp2_with fail
    clear q33 q34 q35 q36 q37 q38 q39 q40 q41 q42 q43 q44 q45 q46 q47 q48
    refine (fcmp_r (R3.out.fr (v := .slice a2 n2 c2) (u := .slice b2 m2 d2) (r := y) mq4 mq5 E2.out) (R3.out.fr (v := .slice a4 n4 c4) (u := .slice b4 m4 d4) (r := q) mq0 mq1 E4.out) Z2.out Z4.out HJ.out).mono ?_
    rintro e w4 ⟨rfl, hb⟩
    have R4 := Lib.hid (R3.out.later hb)
    clear hb
    go_wp2_with fail
    go_ret
    exact ⟨rfl, R4.out.below⟩
  · obtain rfl : false = r := by rw [← hr]; simp [hk0]
    have gk : decide (k ≤ 0) = false := decide_eq_false hk0
    have E1 := Lib.hid h1.1.1
    have Z1 := Lib.hid z1
    have E2 := Lib.hid h2.1.1
    have Z2 := Lib.hid z2
    have E3 := Lib.hid h3.1.1
    have Z3 := Lib.hid z3
    have E4 := Lib.hid h4.1.1
    have Z4 := Lib.hid z4
    have s0 := (((((((((((Sf.start w).arg h1.2.2).arg h1.1.2).arg h2.2.2).arg h2.1.2).arg h3.2.2).arg h3.1.2).arg h4.2.2).arg h4.1.2).put [.int .i64 s1, .slice a1 n1 c1, .int .i64 1, .slice b1 m1 d1, .int .i64 s2, .slice a2 n2 c2, .int .i64 1, .slice b2 m2 d2] 28).put [.int .i64 s3, .slice a3 n3 c3, .int .i64 1, .slice b3 m3 d3, .int .i64 s4, .slice a4 n4 c4, .int .i64 1, .slice b4 m4 d4] 28)
    try simp only [World.size_alloc] at s0
    have S0 := Lib.hid s0
    clear s0
    clear hr hk hj hxy hpq hk0 h1 h2 h3 h4 z1 z2 z3 z4
    go_enter Try.func16, Try.ntmps16
    obtain ⟨q1, q2, q3, q4, q5, q6, q7, q8⟩ := Fb.cells8 (S0.out.box (w.heap.size, 28, [.int .i64 s1, .slice a1 n1 c1, .int .i64 1, .slice b1 m1 d1, .int .i64 s2, .slice a2 n2 c2, .int .i64 1, .slice b2 m2 d2]) mq1)
    go_wp2_with fail
    clear q1 q2 q3 q4 q5 q6 q7 q8
    refine (p10right_v (S0.out.fr (v := .slice a1 n1 c1) (u := .slice b1 m1 d1) (r := x) mq6 mq7 E1.out) Z1.out (S0.out.fr (v := .slice a2 n2 c2) (u := .slice b2 m2 d2) (r := y) mq4 mq5 E2.out) Z2.out HXY.out).mono ?_
    rintro e w1 ⟨rfl, hb⟩
    have R1 := Lib.hid (S0.out.later hb)
    clear hb
    obtain ⟨q9, q10, q11, q12, q13, q14, q15, q16⟩ := Fb.cells8 (R1.out.box (w.heap.size + 1, 28, [.int .i64 s3, .slice a3 n3 c3, .int .i64 1, .slice b3 m3 d3, .int .i64 s4, .slice a4 n4 c4, .int .i64 1, .slice b4 m4 d4]) mq0)
    go_wp2_with fail
    clear q9 q10 q11 q12 q13 q14 q15 q16
    refine (p10right_v (R1.out.fr (v := .slice a3 n3 c3) (u := .slice b3 m3 d3) (r := p) mq2 mq3 E3.out) Z3.out (R1.out.fr (v := .slice a4 n4 c4) (u := .slice b4 m4 d4) (r := q) mq0 mq1 E4.out) Z4.out HPQ.out).mono ?_
    rintro e w2 ⟨rfl, hb⟩
    have R2 := Lib.hid (R1.out.later hb)
    clear hb
    obtain ⟨q17, q18, q19, q20, q21, q22, q23, q24⟩ := Fb.cells8 (R2.out.box (w.heap.size + 1, 28, [.int .i64 s3, .slice a3 n3 c3, .int .i64 1, .slice b3 m3 d3, .int .i64 s4, .slice a4 n4 c4, .int .i64 1, .slice b4 m4 d4]) mq0)
    obtain ⟨q25, q26, q27, q28, q29, q30, q31, q32⟩ := Fb.cells8 (R2.out.box (w.heap.size, 28, [.int .i64 s1, .slice a1 n1 c1, .int .i64 1, .slice b1 m1 d1, .int .i64 s2, .slice a2 n2 c2, .int .i64 1, .slice b2 m2 d2]) mq1)
    go_wp2_with fail
    clear q17 q18 q19 q20 q21 q22 q23 q24 q25 q26 q27 q28 q29 q30 q31 q32
    refine (fcmp_r (R2.out.fr (v := .slice a3 n3 c3) (u := .slice b3 m3 d3) (r := p) mq2 mq3 E3.out) (R2.out.fr (v := .slice a1 n1 c1) (u := .slice b1 m1 d1) (r := x) mq6 mq7 E1.out) Z3.out Z1.out HK.out).mono ?_
    rintro e w3 ⟨rfl, hb⟩
    have R3 := Lib.hid (R2.out.later hb)
    clear hb
    go_wp2_with fail
    go_ret
    exact ⟨rfl, R3.out.below⟩

set_option maxHeartbeats 8000000 in
theorem p10inside_bad {w : World} {s1 t1 : Int} {a1 b1 : Option Addr} {n1 c1 m1 d1 : Nat} {l1 k1 : List Int} {s2 t2 : Int} {a2 b2 : Option Addr} {n2 c2 m2 d2 : Nat} {l2 k2 : List Int} {s3 t3 : Int} {a3 b3 : Option Addr} {n3 c3 m3 d3 : Nat} {l3 k3 : List Int} {s4 t4 : Int} {a4 b4 : Option Addr} {n4 c4 m4 d4 : Nat} {l4 k4 : List Int} (hl1 : Ints w (.slice a1 n1 c1) l1) (hk1 : Ints w (.slice b1 m1 d1) k1) (ll1 : l1.length ≤ 1000) (lk1 : k1.length ≤ 1000) (hl2 : Ints w (.slice a2 n2 c2) l2) (hk2 : Ints w (.slice b2 m2 d2) k2) (ll2 : l2.length ≤ 1000) (lk2 : k2.length ≤ 1000) (hl3 : Ints w (.slice a3 n3 c3) l3) (hk3 : Ints w (.slice b3 m3 d3) k3) (ll3 : l3.length ≤ 1000) (lk3 : k3.length ≤ 1000) (hl4 : Ints w (.slice a4 n4 c4) l4) (hk4 : Ints w (.slice b4 m4 d4) k4) (ll4 : l4.length ≤ 1000) (lk4 : k4.length ≤ 1000) (hr : (sR s1 l1 t1 k1 s2 l2 t2 k2 && sR s3 l3 t3 k3 s4 l4 t4 k4) = false) :
    Calls Try.prog 16 #[.agg #[.int .i64 s1, .slice a1 n1 c1, .int .i64 t1, .slice b1 m1 d1, .int .i64 s2, .slice a2 n2 c2, .int .i64 t2, .slice b2 m2 d2], .agg #[.int .i64 s3, .slice a3 n3 c3, .int .i64 t3, .slice b3 m3 d3, .int .i64 s4, .slice a4 n4 c4, .int .i64 t4, .slice b4 m4 d4]] w fun e w' => e = .returned (.bool false) ∧ RowKit.Below w.heap.size w w' := by
  rcases ea : sR s1 l1 t1 k1 s2 l2 t2 k2 with _ | _
  · skip
    have LL1 := Lib.hid ll1
    have LK1 := Lib.hid lk1
    have LL2 := Lib.hid ll2
    have LK2 := Lib.hid lk2
    have LL3 := Lib.hid ll3
    have LK3 := Lib.hid lk3
    have LL4 := Lib.hid ll4
    have LK4 := Lib.hid lk4
    have EA := Lib.hid ea
    have s0 := (((((((((((Sf.start w).arg hk1).arg hl1).arg hk2).arg hl2).arg hk3).arg hl3).arg hk4).arg hl4).put [.int .i64 s1, .slice a1 n1 c1, .int .i64 t1, .slice b1 m1 d1, .int .i64 s2, .slice a2 n2 c2, .int .i64 t2, .slice b2 m2 d2] 28).put [.int .i64 s3, .slice a3 n3 c3, .int .i64 t3, .slice b3 m3 d3, .int .i64 s4, .slice a4 n4 c4, .int .i64 t4, .slice b4 m4 d4] 28)
    try simp only [World.size_alloc] at s0
    have S0 := Lib.hid s0
    clear s0
    clear hr ea hl1 hk1 ll1 lk1 hl2 hk2 ll2 lk2 hl3 hk3 ll3 lk3 hl4 hk4 ll4 lk4
    go_enter Try.func16, Try.ntmps16
    obtain ⟨q1, q2, q3, q4, q5, q6, q7, q8⟩ := Fb.cells8 (S0.out.box (w.heap.size, 28, [.int .i64 s1, .slice a1 n1 c1, .int .i64 t1, .slice b1 m1 d1, .int .i64 s2, .slice a2 n2 c2, .int .i64 t2, .slice b2 m2 d2]) mq1)
    go_wp2_with fail
    clear q1 q2 q3 q4 q5 q6 q7 q8
    refine (p10right_raw (S0.out.ints (.slice a1 n1 c1, l1) mq6) (S0.out.ints (.slice b1 m1 d1, k1) mq7) LL1.out LK1.out (S0.out.ints (.slice a2 n2 c2, l2) mq4) (S0.out.ints (.slice b2 m2 d2, k2) mq5) LL2.out LK2.out EA.out).mono ?_
    rintro e w1 ⟨rfl, hb⟩
    have R1 := Lib.hid (S0.out.later hb)
    clear hb
    go_wp2_with fail
    go_ret
    exact ⟨rfl, R1.out.below⟩
  · have eb : sR s3 l3 t3 k3 s4 l4 t4 k4 = false := by rw [ea] at hr; simpa using hr
    have LL1 := Lib.hid ll1
    have LK1 := Lib.hid lk1
    have LL2 := Lib.hid ll2
    have LK2 := Lib.hid lk2
    have LL3 := Lib.hid ll3
    have LK3 := Lib.hid lk3
    have LL4 := Lib.hid ll4
    have LK4 := Lib.hid lk4
    have EA := Lib.hid ea
    have EB := Lib.hid eb
    have s0 := (((((((((((Sf.start w).arg hk1).arg hl1).arg hk2).arg hl2).arg hk3).arg hl3).arg hk4).arg hl4).put [.int .i64 s1, .slice a1 n1 c1, .int .i64 t1, .slice b1 m1 d1, .int .i64 s2, .slice a2 n2 c2, .int .i64 t2, .slice b2 m2 d2] 28).put [.int .i64 s3, .slice a3 n3 c3, .int .i64 t3, .slice b3 m3 d3, .int .i64 s4, .slice a4 n4 c4, .int .i64 t4, .slice b4 m4 d4] 28)
    try simp only [World.size_alloc] at s0
    have S0 := Lib.hid s0
    clear s0
    clear hr ea hl1 hk1 ll1 lk1 hl2 hk2 ll2 lk2 hl3 hk3 ll3 lk3 hl4 hk4 ll4 lk4 eb
    go_enter Try.func16, Try.ntmps16
    obtain ⟨q1, q2, q3, q4, q5, q6, q7, q8⟩ := Fb.cells8 (S0.out.box (w.heap.size, 28, [.int .i64 s1, .slice a1 n1 c1, .int .i64 t1, .slice b1 m1 d1, .int .i64 s2, .slice a2 n2 c2, .int .i64 t2, .slice b2 m2 d2]) mq1)
    go_wp2_with fail
    clear q1 q2 q3 q4 q5 q6 q7 q8
    refine (p10right_raw (S0.out.ints (.slice a1 n1 c1, l1) mq6) (S0.out.ints (.slice b1 m1 d1, k1) mq7) LL1.out LK1.out (S0.out.ints (.slice a2 n2 c2, l2) mq4) (S0.out.ints (.slice b2 m2 d2, k2) mq5) LL2.out LK2.out EA.out).mono ?_
    rintro e w1 ⟨rfl, hb⟩
    have R1 := Lib.hid (S0.out.later hb)
    clear hb
    obtain ⟨q9, q10, q11, q12, q13, q14, q15, q16⟩ := Fb.cells8 (R1.out.box (w.heap.size + 1, 28, [.int .i64 s3, .slice a3 n3 c3, .int .i64 t3, .slice b3 m3 d3, .int .i64 s4, .slice a4 n4 c4, .int .i64 t4, .slice b4 m4 d4]) mq0)
    go_wp2_with fail
    clear q9 q10 q11 q12 q13 q14 q15 q16
    refine (p10right_raw (R1.out.ints (.slice a3 n3 c3, l3) mq2) (R1.out.ints (.slice b3 m3 d3, k3) mq3) LL3.out LK3.out (R1.out.ints (.slice a4 n4 c4, l4) mq0) (R1.out.ints (.slice b4 m4 d4, k4) mq1) LL4.out LK4.out EB.out).mono ?_
    rintro e w2 ⟨rfl, hb⟩
    have R2 := Lib.hid (R1.out.later hb)
    clear hb
    go_wp2_with fail
    go_ret
    exact ⟨rfl, R2.out.below⟩

end Go.Proofs.Ytgncnkojpedmdaa.Sp

namespace Go.Proofs.Ytgncnkojpedmdaa.Sp
open Go.RowKit Bi
/-- The span r is returned; its slices lie in no block that was there; sh: what is returned, of its cells. -/
def SpP (sh : Value → Value) (r : Rat × Rat) (w : World) (e : Ending) (w' : World) : Prop :=
  ∃ c d : FCell, e = .returned (sh (.agg #[.int .i64 c.s, .slice c.a c.n c.c, .int .i64 1, .slice c.b c.m c.d, .int .i64 d.s, .slice d.a d.n d.c, .int .i64 1, .slice d.b d.m d.d])) ∧ Fo w' c r.1 ∧ Fo w' d r.2 ∧ RowKit.Below w.heap.size w w' ∧ ∀ g, g < w.heap.size → FOff c g ∧ FOff d g

set_option maxHeartbeats 8000000 in
theorem p10clone {w : World} {s1 : Int} {a1 b1 : Option Addr} {n1 c1 m1 d1 : Nat} {x : Rat} (h1 : Fr w s1 (.slice a1 n1 c1) (.slice b1 m1 d1) x) (z1 : FSz 1000 x) :
    Calls Try.prog 55 #[.agg #[.int .i64 s1, .slice a1 n1 c1, .int .i64 1, .slice b1 m1 d1]] w (FV x w) := by
  have LX0 : Hid ((digs x.num.natAbs).length ≤ 100000000) := Nat.le_trans (Sz.len z1.1) (by omega)
  have LX1 : Hid ((digs ((x.den : Int)).natAbs).length ≤ 100000000) := Nat.le_trans (Sz.len z1.2) (by omega)
  have E1 := Lib.hid h1.1.1
  have Z1 := Lib.hid z1
  have s0 := (((((Sf.start w).arg h1.2.2).arg h1.1.2).put [.int .i64 s1, .slice a1 n1 c1, .int .i64 1, .slice b1 m1 d1] 26).put [.int .i64 0, .slice none 0 0, .int .i64 0, .slice none 0 0] 26)
  try simp only [World.size_alloc] at s0
  have S0 := Lib.hid s0
  clear s0
  clear h1 z1
  go_enter Try.func55, Try.ntmps55
  go_wp2_with fail
  have K0 : ∀ W F cs, Sf w [(w.heap.size + 1, 26, cs), (w.heap.size, 26, [.int .i64 s1, .slice a1 n1 c1, .int .i64 1, .slice b1 m1 d1])] F W → W.cell? ⟨w.heap.size, 0, none⟩ = some (.int .i64 s1) ∧ W.cell? ⟨w.heap.size, 1, none⟩ = some (.slice a1 n1 c1) ∧ W.cell? ⟨w.heap.size, 2, none⟩ = some (.int .i64 1) ∧ W.cell? ⟨w.heap.size, 3, none⟩ = some (.slice b1 m1 d1) := fun W F cs h => ⟨(h.box (w.heap.size, 26, [.int .i64 s1, .slice a1 n1 c1, .int .i64 1, .slice b1 m1 d1]) mq1).cell 0, (h.box (w.heap.size, 26, [.int .i64 s1, .slice a1 n1 c1, .int .i64 1, .slice b1 m1 d1]) mq1).cell 1, (h.box (w.heap.size, 26, [.int .i64 s1, .slice a1 n1 c1, .int .i64 1, .slice b1 m1 d1]) mq1).cell 2, (h.box (w.heap.size, 26, [.int .i64 s1, .slice a1 n1 c1, .int .i64 1, .slice b1 m1 d1]) mq1).cell 3⟩
  have KK := Lib.hid K0
  clear K0
  have N0 := Lib.hid S0.out.drew
  clear S0
  have e0 := KK.out _ _ _ N0.out
  have C1 := Lib.hid (clone_r _ _ _ (N0.out.ints (.slice a1 n1 c1, digs (x).num.natAbs) mq0) LX0.out)
  go_region_held3 (fun W => W.cell? ⟨w.heap.size, 0, none⟩ = some (.int .i64 s1) ∧ W.cell? ⟨w.heap.size, 1, none⟩ = some (.slice a1 n1 c1) ∧ W.cell? ⟨w.heap.size, 2, none⟩ = some (.int .i64 1) ∧ W.cell? ⟨w.heap.size, 3, none⟩ = some (.slice b1 m1 d1))
    (first | (with_reducible exact e0) | (with_reducible exact e1) | (with_reducible exact e2) | (with_reducible exact e3) | go_keep)
    (first
        | (have hG := N1; clear hG; go_at_call 72; (with_reducible refine (C2.out).mono ?_); rintro e y2 ⟨p2, k2, j2, rfl, hi, hb, hf⟩; have FB1 := Lib.hid (hf.mono N1.out.below.size); have N2 := Lib.hid (N1.out.ret hb hi hf); clear hi hb hf; have e2 := KK.out _ _ _ N2.out; obtain ⟨t0, t1, t2, t3⟩ := Fb.cells4 (N2.out.box (w.heap.size + 1, 26, [.int .i64 0, .slice none 0 0, .int .i64 0, .slice none 0 0]) mq0); have u0 := (N2.out.box (w.heap.size + 1, 26, [.int .i64 0, .slice none 0 0, .int .i64 0, .slice none 0 0]) mq0).free 0; have u1 := (N2.out.box (w.heap.size + 1, 26, [.int .i64 0, .slice none 0 0, .int .i64 0, .slice none 0 0]) mq0).free 1; have u2 := (N2.out.box (w.heap.size + 1, 26, [.int .i64 0, .slice none 0 0, .int .i64 0, .slice none 0 0]) mq0).free 2; have u3 := (N2.out.box (w.heap.size + 1, 26, [.int .i64 0, .slice none 0 0, .int .i64 0, .slice none 0 0]) mq0).free 3; have N3 := Lib.hid (Sf.set4 (pre := []) N2.out (.int .i64 s1) (.slice p1 k1 j1) (.int .i64 1) (.slice p2 k2 j2)); have e3 := KK.out _ _ _ N3.out)
        | (have hG := N0; clear hG; go_at_call 72; (with_reducible refine (C1.out).mono ?_); rintro e y1 ⟨p1, k1, j1, rfl, hi, hb, hf⟩; have FA1 := Lib.hid (hf.mono N0.out.below.size); have N1 := Lib.hid (N0.out.ret hb hi hf); clear hi hb hf; have e1 := KK.out _ _ _ N1.out; have C2 := Lib.hid (clone_r _ _ _ (N1.out.ints (.slice b1 m1 d1, digs (((x).den : Int)).natAbs) mq2) LX1.out)))
  all_goals (go_wp2_with fail; refine bodyPost_ret (results_cell_row rfl _ _ _ _ _ (0, 0) _ rfl (N3.out.box _ mq0) Try.underlying26 rfl (by kernel_rfl)) rfl ⟨_, _, _, _, _, _, _, rfl, (N3.out.fr (v := .slice p1 k1 j1) (u := .slice p2 k2 j2) (r := x) mq1 mq0 E1.out), N3.out.below, FA1.out, FB1.out⟩)

set_option maxHeartbeats 8000000 in
theorem p10point {w : World} {s1 : Int} {a1 b1 : Option Addr} {n1 c1 m1 d1 : Nat} {x : Rat} (h1 : Fr w s1 (.slice a1 n1 c1) (.slice b1 m1 d1) x) (z1 : FSz 1000 x) {r : Rat × Rat} (hr : (x, x) = r) :
    Calls Try.prog 36 #[.agg #[.int .i64 s1, .slice a1 n1 c1, .int .i64 1, .slice b1 m1 d1]] w (SpP (fun v => v) r w) := by
  subst hr
  have E1 := Lib.hid h1.1.1
  have Z1 := Lib.hid z1
  have s0 := (((((Sf.start w).arg h1.2.2).arg h1.1.2).put [.int .i64 s1, .slice a1 n1 c1, .int .i64 1, .slice b1 m1 d1] 26).put [.int .i64 0, .slice none 0 0, .int .i64 0, .slice none 0 0, .int .i64 0, .slice none 0 0, .int .i64 0, .slice none 0 0] 28)
  try simp only [World.size_alloc] at s0
  have S0 := Lib.hid s0
  clear s0
  clear h1 z1
  go_enter Try.func36, Try.ntmps36
  obtain ⟨q1, q2, q3, q4⟩ := Fb.cells4 (S0.out.box (w.heap.size, 26, [.int .i64 s1, .slice a1 n1 c1, .int .i64 1, .slice b1 m1 d1]) mq1)
  go_wp2_with fail
  clear q1 q2 q3 q4
  refine (fright_k (S0.out.fr (v := .slice a1 n1 c1) (u := .slice b1 m1 d1) (r := x) mq0 mq1 E1.out) Z1.out).mono ?_
  rintro e w1 ⟨rfl, hb⟩
  have R1 := Lib.hid (S0.out.later hb)
  clear hb
  go_wp2_with fail
  have K0 : ∀ W F cs, Sf w [(w.heap.size + 1, 28, cs), (w.heap.size, 26, [.int .i64 s1, .slice a1 n1 c1, .int .i64 1, .slice b1 m1 d1])] F W → W.cell? ⟨w.heap.size, 0, none⟩ = some (.int .i64 s1) ∧ W.cell? ⟨w.heap.size, 1, none⟩ = some (.slice a1 n1 c1) ∧ W.cell? ⟨w.heap.size, 2, none⟩ = some (.int .i64 1) ∧ W.cell? ⟨w.heap.size, 3, none⟩ = some (.slice b1 m1 d1) := fun W F cs h => ⟨(h.box (w.heap.size, 26, [.int .i64 s1, .slice a1 n1 c1, .int .i64 1, .slice b1 m1 d1]) mq1).cell 0, (h.box (w.heap.size, 26, [.int .i64 s1, .slice a1 n1 c1, .int .i64 1, .slice b1 m1 d1]) mq1).cell 1, (h.box (w.heap.size, 26, [.int .i64 s1, .slice a1 n1 c1, .int .i64 1, .slice b1 m1 d1]) mq1).cell 2, (h.box (w.heap.size, 26, [.int .i64 s1, .slice a1 n1 c1, .int .i64 1, .slice b1 m1 d1]) mq1).cell 3⟩
  have KK := Lib.hid K0
  clear K0
  have N0 := Lib.hid R1.out.drew
  clear R1
  have e0 := KK.out _ _ _ N0.out
  have C1 := Lib.hid (p10clone (N0.out.fr (v := .slice a1 n1 c1) (u := .slice b1 m1 d1) (r := x) mq0 mq1 E1.out) Z1.out)
  go_region_held3 (fun W => W.cell? ⟨w.heap.size, 0, none⟩ = some (.int .i64 s1) ∧ W.cell? ⟨w.heap.size, 1, none⟩ = some (.slice a1 n1 c1) ∧ W.cell? ⟨w.heap.size, 2, none⟩ = some (.int .i64 1) ∧ W.cell? ⟨w.heap.size, 3, none⟩ = some (.slice b1 m1 d1))
    (first | (with_reducible exact e0) | (with_reducible exact e1) | (with_reducible exact e2) | (with_reducible exact e3) | go_keep)
    (first
        | (have hG := N1; clear hG; go_at_call 55; (with_reducible refine (C2.out).mono ?_); rintro e y2 ⟨sy2, ay2, ny2, cy2, by2, my2, dy2, rfl, hr, hb, hf, hg⟩; have NB := Lib.hid hr.1.1; have FB1 := Lib.hid (hf.mono N1.out.below.size); have FB2 := Lib.hid (hg.mono N1.out.below.size); have N2 := Lib.hid (N1.out.ret2 hb hr.1.2 hf hr.2.2 hg); clear hr hb hf hg; have e2 := KK.out _ _ _ N2.out; obtain ⟨t0, t1, t2, t3, t4, t5, t6, t7⟩ := Fb.cells8 (N2.out.box (w.heap.size + 1, 28, [.int .i64 0, .slice none 0 0, .int .i64 0, .slice none 0 0, .int .i64 0, .slice none 0 0, .int .i64 0, .slice none 0 0]) mq0); have u0 := (N2.out.box (w.heap.size + 1, 28, [.int .i64 0, .slice none 0 0, .int .i64 0, .slice none 0 0, .int .i64 0, .slice none 0 0, .int .i64 0, .slice none 0 0]) mq0).free 0; have u1 := (N2.out.box (w.heap.size + 1, 28, [.int .i64 0, .slice none 0 0, .int .i64 0, .slice none 0 0, .int .i64 0, .slice none 0 0, .int .i64 0, .slice none 0 0]) mq0).free 1; have u2 := (N2.out.box (w.heap.size + 1, 28, [.int .i64 0, .slice none 0 0, .int .i64 0, .slice none 0 0, .int .i64 0, .slice none 0 0, .int .i64 0, .slice none 0 0]) mq0).free 2; have u3 := (N2.out.box (w.heap.size + 1, 28, [.int .i64 0, .slice none 0 0, .int .i64 0, .slice none 0 0, .int .i64 0, .slice none 0 0, .int .i64 0, .slice none 0 0]) mq0).free 3; have u4 := (N2.out.box (w.heap.size + 1, 28, [.int .i64 0, .slice none 0 0, .int .i64 0, .slice none 0 0, .int .i64 0, .slice none 0 0, .int .i64 0, .slice none 0 0]) mq0).free 4; have u5 := (N2.out.box (w.heap.size + 1, 28, [.int .i64 0, .slice none 0 0, .int .i64 0, .slice none 0 0, .int .i64 0, .slice none 0 0, .int .i64 0, .slice none 0 0]) mq0).free 5; have u6 := (N2.out.box (w.heap.size + 1, 28, [.int .i64 0, .slice none 0 0, .int .i64 0, .slice none 0 0, .int .i64 0, .slice none 0 0, .int .i64 0, .slice none 0 0]) mq0).free 6; have u7 := (N2.out.box (w.heap.size + 1, 28, [.int .i64 0, .slice none 0 0, .int .i64 0, .slice none 0 0, .int .i64 0, .slice none 0 0, .int .i64 0, .slice none 0 0]) mq0).free 7; have N3 := Lib.hid (Sf.set8 (pre := []) N2.out (.int .i64 sy1) (.slice ay1 ny1 cy1) (.int .i64 1) (.slice by1 my1 dy1) (.int .i64 sy2) (.slice ay2 ny2 cy2) (.int .i64 1) (.slice by2 my2 dy2)); have e3 := KK.out _ _ _ N3.out)
        | (have hG := N0; clear hG; go_at_call 55; (with_reducible refine (C1.out).mono ?_); rintro e y1 ⟨sy1, ay1, ny1, cy1, by1, my1, dy1, rfl, hr, hb, hf, hg⟩; have NA := Lib.hid hr.1.1; have FA1 := Lib.hid (hf.mono N0.out.below.size); have FA2 := Lib.hid (hg.mono N0.out.below.size); have N1 := Lib.hid (N0.out.ret2 hb hr.1.2 hf hr.2.2 hg); clear hr hb hf hg; have e1 := KK.out _ _ _ N1.out; have C2 := Lib.hid (p10clone (N1.out.fr (v := .slice a1 n1 c1) (u := .slice b1 m1 d1) (r := x) mq2 mq3 E1.out) Z1.out)))
  all_goals (go_wp2_with fail; refine bodyPost_ret (results_cell_row rfl _ _ _ _ _ (0, 0) _ rfl (N3.out.box _ mq0) Try.underlying28 rfl (by kernel_rfl)) rfl ⟨⟨sy1, ay1, ny1, cy1, by1, my1, dy1⟩, ⟨sy2, ay2, ny2, cy2, by2, my2, dy2⟩, rfl, (N3.out.fr (v := .slice ay1 ny1 cy1) (u := .slice by1 my1 dy1) (r := x) mq2 mq3 NA.out), (N3.out.fr (v := .slice ay2 ny2 cy2) (u := .slice by2 my2 dy2) (r := x) mq0 mq1 NB.out), N3.out.below, fun g hg => ⟨⟨FA1.out g hg, FA2.out g hg⟩, ⟨FB1.out g hg, FB2.out g hg⟩⟩⟩)

set_option maxHeartbeats 8000000 in
theorem p10neg {w : World} {s1 : Int} {a1 b1 : Option Addr} {n1 c1 m1 d1 : Nat} {x : Rat} {s2 : Int} {a2 b2 : Option Addr} {n2 c2 m2 d2 : Nat} {y : Rat} (h1 : Fr w s1 (.slice a1 n1 c1) (.slice b1 m1 d1) x) (z1 : FSz 1000 x) (h2 : Fr w s2 (.slice a2 n2 c2) (.slice b2 m2 d2) y) (z2 : FSz 1000 y) (hxy : x ≤ y) {r : Rat × Rat} (hr : negS (x, y) = r) :
    Calls Try.prog 19 #[.agg #[.int .i64 s1, .slice a1 n1 c1, .int .i64 1, .slice b1 m1 d1, .int .i64 s2, .slice a2 n2 c2, .int .i64 1, .slice b2 m2 d2]] w (SpP (fun v => v) r w) := by
  subst hr
  have HXY := Lib.hid (decide_eq_true hxy)
  have E1 := Lib.hid h1.1.1
  have Z1 := Lib.hid z1
  have E2 := Lib.hid h2.1.1
  have Z2 := Lib.hid z2
  have s0 := (((((((Sf.start w).arg h1.2.2).arg h1.1.2).arg h2.2.2).arg h2.1.2).put [.int .i64 s1, .slice a1 n1 c1, .int .i64 1, .slice b1 m1 d1, .int .i64 s2, .slice a2 n2 c2, .int .i64 1, .slice b2 m2 d2] 28).put [.int .i64 0, .slice none 0 0, .int .i64 0, .slice none 0 0, .int .i64 0, .slice none 0 0, .int .i64 0, .slice none 0 0] 28)
  try simp only [World.size_alloc] at s0
  have S0 := Lib.hid s0
  clear s0
  clear hxy h1 h2 z1 z2
  go_enter Try.func19, Try.ntmps19
  obtain ⟨q1, q2, q3, q4, q5, q6, q7, q8⟩ := Fb.cells8 (S0.out.box (w.heap.size, 28, [.int .i64 s1, .slice a1 n1 c1, .int .i64 1, .slice b1 m1 d1, .int .i64 s2, .slice a2 n2 c2, .int .i64 1, .slice b2 m2 d2]) mq1)
  go_wp2_with fail
  clear q1 q2 q3 q4 q5 q6 q7 q8
  refine (p10right_v (S0.out.fr (v := .slice a1 n1 c1) (u := .slice b1 m1 d1) (r := x) mq2 mq3 E1.out) Z1.out (S0.out.fr (v := .slice a2 n2 c2) (u := .slice b2 m2 d2) (r := y) mq0 mq1 E2.out) Z2.out HXY.out).mono ?_
  rintro e w1 ⟨rfl, hb⟩
  have R1 := Lib.hid (S0.out.later hb)
  clear hb
  go_wp2_with fail
  have K0 : ∀ W F cs, Sf w [(w.heap.size + 1, 28, cs), (w.heap.size, 28, [.int .i64 s1, .slice a1 n1 c1, .int .i64 1, .slice b1 m1 d1, .int .i64 s2, .slice a2 n2 c2, .int .i64 1, .slice b2 m2 d2])] F W → W.cell? ⟨w.heap.size, 0, none⟩ = some (.int .i64 s1) ∧ W.cell? ⟨w.heap.size, 1, none⟩ = some (.slice a1 n1 c1) ∧ W.cell? ⟨w.heap.size, 2, none⟩ = some (.int .i64 1) ∧ W.cell? ⟨w.heap.size, 3, none⟩ = some (.slice b1 m1 d1) ∧ W.cell? ⟨w.heap.size, 4, none⟩ = some (.int .i64 s2) ∧ W.cell? ⟨w.heap.size, 5, none⟩ = some (.slice a2 n2 c2) ∧ W.cell? ⟨w.heap.size, 6, none⟩ = some (.int .i64 1) ∧ W.cell? ⟨w.heap.size, 7, none⟩ = some (.slice b2 m2 d2) := fun W F cs h => ⟨(h.box (w.heap.size, 28, [.int .i64 s1, .slice a1 n1 c1, .int .i64 1, .slice b1 m1 d1, .int .i64 s2, .slice a2 n2 c2, .int .i64 1, .slice b2 m2 d2]) mq1).cell 0, (h.box (w.heap.size, 28, [.int .i64 s1, .slice a1 n1 c1, .int .i64 1, .slice b1 m1 d1, .int .i64 s2, .slice a2 n2 c2, .int .i64 1, .slice b2 m2 d2]) mq1).cell 1, (h.box (w.heap.size, 28, [.int .i64 s1, .slice a1 n1 c1, .int .i64 1, .slice b1 m1 d1, .int .i64 s2, .slice a2 n2 c2, .int .i64 1, .slice b2 m2 d2]) mq1).cell 2, (h.box (w.heap.size, 28, [.int .i64 s1, .slice a1 n1 c1, .int .i64 1, .slice b1 m1 d1, .int .i64 s2, .slice a2 n2 c2, .int .i64 1, .slice b2 m2 d2]) mq1).cell 3, (h.box (w.heap.size, 28, [.int .i64 s1, .slice a1 n1 c1, .int .i64 1, .slice b1 m1 d1, .int .i64 s2, .slice a2 n2 c2, .int .i64 1, .slice b2 m2 d2]) mq1).cell 4, (h.box (w.heap.size, 28, [.int .i64 s1, .slice a1 n1 c1, .int .i64 1, .slice b1 m1 d1, .int .i64 s2, .slice a2 n2 c2, .int .i64 1, .slice b2 m2 d2]) mq1).cell 5, (h.box (w.heap.size, 28, [.int .i64 s1, .slice a1 n1 c1, .int .i64 1, .slice b1 m1 d1, .int .i64 s2, .slice a2 n2 c2, .int .i64 1, .slice b2 m2 d2]) mq1).cell 6, (h.box (w.heap.size, 28, [.int .i64 s1, .slice a1 n1 c1, .int .i64 1, .slice b1 m1 d1, .int .i64 s2, .slice a2 n2 c2, .int .i64 1, .slice b2 m2 d2]) mq1).cell 7⟩
  have KK := Lib.hid K0
  clear K0
  have N0 := Lib.hid R1.out.drew
  clear R1
  have e0 := KK.out _ _ _ N0.out
  have C1 := Lib.hid (fneg_k (N0.out.fr (v := .slice a2 n2 c2) (u := .slice b2 m2 d2) (r := y) mq0 mq1 E2.out) Z2.out)
  go_region_held3 (fun W => W.cell? ⟨w.heap.size, 0, none⟩ = some (.int .i64 s1) ∧ W.cell? ⟨w.heap.size, 1, none⟩ = some (.slice a1 n1 c1) ∧ W.cell? ⟨w.heap.size, 2, none⟩ = some (.int .i64 1) ∧ W.cell? ⟨w.heap.size, 3, none⟩ = some (.slice b1 m1 d1) ∧ W.cell? ⟨w.heap.size, 4, none⟩ = some (.int .i64 s2) ∧ W.cell? ⟨w.heap.size, 5, none⟩ = some (.slice a2 n2 c2) ∧ W.cell? ⟨w.heap.size, 6, none⟩ = some (.int .i64 1) ∧ W.cell? ⟨w.heap.size, 7, none⟩ = some (.slice b2 m2 d2))
    (first | (with_reducible exact e0) | (with_reducible exact e1) | (with_reducible exact e2) | (with_reducible exact e3) | go_keep)
    (first
        | (have hG := N1; clear hG; go_at_call 44; (with_reducible refine (C2.out).mono ?_); rintro e y2 ⟨sy2, ay2, ny2, cy2, by2, my2, dy2, rfl, hr, hb, hf, hg⟩; have NB := Lib.hid hr.1.1; have FB1 := Lib.hid (hf.mono N1.out.below.size); have FB2 := Lib.hid (hg.mono N1.out.below.size); have N2 := Lib.hid (N1.out.ret2 hb hr.1.2 hf hr.2.2 hg); clear hr hb hf hg; have e2 := KK.out _ _ _ N2.out; obtain ⟨t0, t1, t2, t3, t4, t5, t6, t7⟩ := Fb.cells8 (N2.out.box (w.heap.size + 1, 28, [.int .i64 0, .slice none 0 0, .int .i64 0, .slice none 0 0, .int .i64 0, .slice none 0 0, .int .i64 0, .slice none 0 0]) mq0); have u0 := (N2.out.box (w.heap.size + 1, 28, [.int .i64 0, .slice none 0 0, .int .i64 0, .slice none 0 0, .int .i64 0, .slice none 0 0, .int .i64 0, .slice none 0 0]) mq0).free 0; have u1 := (N2.out.box (w.heap.size + 1, 28, [.int .i64 0, .slice none 0 0, .int .i64 0, .slice none 0 0, .int .i64 0, .slice none 0 0, .int .i64 0, .slice none 0 0]) mq0).free 1; have u2 := (N2.out.box (w.heap.size + 1, 28, [.int .i64 0, .slice none 0 0, .int .i64 0, .slice none 0 0, .int .i64 0, .slice none 0 0, .int .i64 0, .slice none 0 0]) mq0).free 2; have u3 := (N2.out.box (w.heap.size + 1, 28, [.int .i64 0, .slice none 0 0, .int .i64 0, .slice none 0 0, .int .i64 0, .slice none 0 0, .int .i64 0, .slice none 0 0]) mq0).free 3; have u4 := (N2.out.box (w.heap.size + 1, 28, [.int .i64 0, .slice none 0 0, .int .i64 0, .slice none 0 0, .int .i64 0, .slice none 0 0, .int .i64 0, .slice none 0 0]) mq0).free 4; have u5 := (N2.out.box (w.heap.size + 1, 28, [.int .i64 0, .slice none 0 0, .int .i64 0, .slice none 0 0, .int .i64 0, .slice none 0 0, .int .i64 0, .slice none 0 0]) mq0).free 5; have u6 := (N2.out.box (w.heap.size + 1, 28, [.int .i64 0, .slice none 0 0, .int .i64 0, .slice none 0 0, .int .i64 0, .slice none 0 0, .int .i64 0, .slice none 0 0]) mq0).free 6; have u7 := (N2.out.box (w.heap.size + 1, 28, [.int .i64 0, .slice none 0 0, .int .i64 0, .slice none 0 0, .int .i64 0, .slice none 0 0, .int .i64 0, .slice none 0 0]) mq0).free 7; have N3 := Lib.hid (Sf.set8 (pre := []) N2.out (.int .i64 sy1) (.slice ay1 ny1 cy1) (.int .i64 1) (.slice by1 my1 dy1) (.int .i64 sy2) (.slice ay2 ny2 cy2) (.int .i64 1) (.slice by2 my2 dy2)); have e3 := KK.out _ _ _ N3.out)
        | (have hG := N0; clear hG; go_at_call 44; (with_reducible refine (C1.out).mono ?_); rintro e y1 ⟨sy1, ay1, ny1, cy1, by1, my1, dy1, rfl, hr, hb, hf, hg⟩; have NA := Lib.hid hr.1.1; have FA1 := Lib.hid (hf.mono N0.out.below.size); have FA2 := Lib.hid (hg.mono N0.out.below.size); have N1 := Lib.hid (N0.out.ret2 hb hr.1.2 hf hr.2.2 hg); clear hr hb hf hg; have e1 := KK.out _ _ _ N1.out; have C2 := Lib.hid (fneg_k (N1.out.fr (v := .slice a1 n1 c1) (u := .slice b1 m1 d1) (r := x) mq4 mq5 E1.out) Z1.out)))
  all_goals (go_wp2_with fail; refine bodyPost_ret (results_cell_row rfl _ _ _ _ _ (0, 0) _ rfl (N3.out.box _ mq0) Try.underlying28 rfl (by kernel_rfl)) rfl ⟨⟨sy1, ay1, ny1, cy1, by1, my1, dy1⟩, ⟨sy2, ay2, ny2, cy2, by2, my2, dy2⟩, rfl, (N3.out.fr (v := .slice ay1 ny1 cy1) (u := .slice by1 my1 dy1) (r := -y) mq2 mq3 NA.out), (N3.out.fr (v := .slice ay2 ny2 cy2) (u := .slice by2 my2 dy2) (r := -x) mq0 mq1 NB.out), N3.out.below, fun g hg => ⟨⟨FA1.out g hg, FA2.out g hg⟩, ⟨FB1.out g hg, FB2.out g hg⟩⟩⟩)

end Go.Proofs.Ytgncnkojpedmdaa.Sp
