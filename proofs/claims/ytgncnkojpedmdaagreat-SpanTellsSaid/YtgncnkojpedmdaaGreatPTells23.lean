/- What the laws of span want: Inside and Has for any cells, few, sizes. play of the laws: each operation, at any arguments. -/
import Derived.Test.YtgncnkojpedmdaaGreatPTells22
set_option maxRecDepth 100000
namespace Go.Proofs.YtgncnkojpedmdaaGreat.Sp
open Go.RowKit Bi
/-- Inside, for any cells. -/
def inB (s1 : Int) (l1 : List Int) (t1 : Int) (k1 : List Int) (s2 : Int) (l2 : List Int) (t2 : Int) (k2 : List Int) (s3 : Int) (l3 : List Int) (t3 : Int) (k3 : List Int) (s4 : Int) (l4 : List Int) (t4 : Int) (k4 : List Int) : Bool := (sR s1 l1 t1 k1 s2 l2 t2 k2 && sR s3 l3 t3 k3 s4 l4 t4 k4) && (decide (ratOf s3 l3 k3 ≤ ratOf s1 l1 k1) && decide (ratOf s2 l2 k2 ≤ ratOf s4 l4 k4))
/-- Has, for any cells. -/
def hasB (s1 : Int) (l1 : List Int) (t1 : Int) (k1 : List Int) (s2 : Int) (l2 : List Int) (t2 : Int) (k2 : List Int) (s3 : Int) (l3 : List Int) (t3 : Int) (k3 : List Int) : Bool := (sR s1 l1 t1 k1 s2 l2 t2 k2 && fRightB s3 l3 t3 k3) && (decide (ratOf s1 l1 k1 ≤ ratOf s3 l3 k3) && decide (ratOf s3 l3 k3 ≤ ratOf s2 l2 k2))
theorem p10inside_any {w : World} {s1 t1 : Int} {a1 b1 : Option Addr} {n1 c1 m1 d1 : Nat} {l1 k1 : List Int} {s2 t2 : Int} {a2 b2 : Option Addr} {n2 c2 m2 d2 : Nat} {l2 k2 : List Int} {s3 t3 : Int} {a3 b3 : Option Addr} {n3 c3 m3 d3 : Nat} {l3 k3 : List Int} {s4 t4 : Int} {a4 b4 : Option Addr} {n4 c4 m4 d4 : Nat} {l4 k4 : List Int} (hl1 : Ints w (.slice a1 n1 c1) l1) (hk1 : Ints w (.slice b1 m1 d1) k1) (ll1 : l1.length ≤ 1000) (lk1 : k1.length ≤ 1000) (hl2 : Ints w (.slice a2 n2 c2) l2) (hk2 : Ints w (.slice b2 m2 d2) k2) (ll2 : l2.length ≤ 1000) (lk2 : k2.length ≤ 1000) (hl3 : Ints w (.slice a3 n3 c3) l3) (hk3 : Ints w (.slice b3 m3 d3) k3) (ll3 : l3.length ≤ 1000) (lk3 : k3.length ≤ 1000) (hl4 : Ints w (.slice a4 n4 c4) l4) (hk4 : Ints w (.slice b4 m4 d4) k4) (ll4 : l4.length ≤ 1000) (lk4 : k4.length ≤ 1000) {r : Bool} (hr : inB s1 l1 t1 k1 s2 l2 t2 k2 s3 l3 t3 k3 s4 l4 t4 k4 = r) :
  Calls Tryz.prog 21 #[.agg #[.int .i64 s1, .slice a1 n1 c1, .int .i64 t1, .slice b1 m1 d1, .int .i64 s2, .slice a2 n2 c2, .int .i64 t2, .slice b2 m2 d2], .agg #[.int .i64 s3, .slice a3 n3 c3, .int .i64 t3, .slice b3 m3 d3, .int .i64 s4, .slice a4 n4 c4, .int .i64 t4, .slice b4 m4 d4]] w fun e w' => e = .returned (.bool r) ∧ RowKit.Below w.heap.size w w' := by
 rcases h : (sR s1 l1 t1 k1 s2 l2 t2 k2 && sR s3 l3 t3 k3 s4 l4 t4 k4) with _ | _
 ·obtain rfl : false = r := by rw [← hr]; unfold inB; rw [h]; rfl
  exact p10inside_bad hl1 hk1 ll1 lk1 hl2 hk2 ll2 lk2 hl3 hk3 ll3 lk3 hl4 hk4 ll4 lk4 h
 ·have hh := h
  simp only [Bool.and_eq_true] at hh
  obtain ⟨x, y, ⟨rfl, rfl, rfl, rfl⟩, ⟨rfl, rfl, rfl, rfl⟩, hxy⟩ := sR_good hh.1
  obtain ⟨p, q, ⟨rfl, rfl, rfl, rfl⟩, ⟨rfl, rfl, rfl, rfl⟩, hpq⟩ := sR_good hh.2
  refine p10inside_k (⟨⟨rfl, hl1⟩, ⟨(den_sign x).symm, hk1⟩⟩ : Fr w _ _ _ x) ⟨Sz.of ll1, Sz.of lk1⟩ (⟨⟨rfl, hl2⟩, ⟨(den_sign y).symm, hk2⟩⟩ : Fr w _ _ _ y) ⟨Sz.of ll2, Sz.of lk2⟩ (⟨⟨rfl, hl3⟩, ⟨(den_sign p).symm, hk3⟩⟩ : Fr w _ _ _ p) ⟨Sz.of ll3, Sz.of lk3⟩ (⟨⟨rfl, hl4⟩, ⟨(den_sign q).symm, hk4⟩⟩ : Fr w _ _ _ q) ⟨Sz.of ll4, Sz.of lk4⟩ hxy hpq ?_
  rw [← hr]
  unfold inB
  rw [h, ratOf_is, ratOf_is, ratOf_is, ratOf_is]; rfl
theorem p10has_any {w : World} {s1 t1 : Int} {a1 b1 : Option Addr} {n1 c1 m1 d1 : Nat} {l1 k1 : List Int} {s2 t2 : Int} {a2 b2 : Option Addr} {n2 c2 m2 d2 : Nat} {l2 k2 : List Int} {s3 t3 : Int} {a3 b3 : Option Addr} {n3 c3 m3 d3 : Nat} {l3 k3 : List Int} (hl1 : Ints w (.slice a1 n1 c1) l1) (hk1 : Ints w (.slice b1 m1 d1) k1) (ll1 : l1.length ≤ 1000) (lk1 : k1.length ≤ 1000) (hl2 : Ints w (.slice a2 n2 c2) l2) (hk2 : Ints w (.slice b2 m2 d2) k2) (ll2 : l2.length ≤ 1000) (lk2 : k2.length ≤ 1000) (hl3 : Ints w (.slice a3 n3 c3) l3) (hk3 : Ints w (.slice b3 m3 d3) k3) (ll3 : l3.length ≤ 1000) (lk3 : k3.length ≤ 1000) {r : Bool} (hr : hasB s1 l1 t1 k1 s2 l2 t2 k2 s3 l3 t3 k3 = r) :
  Calls Tryz.prog 19 #[.agg #[.int .i64 s1, .slice a1 n1 c1, .int .i64 t1, .slice b1 m1 d1, .int .i64 s2, .slice a2 n2 c2, .int .i64 t2, .slice b2 m2 d2], .agg #[.int .i64 s3, .slice a3 n3 c3, .int .i64 t3, .slice b3 m3 d3]] w fun e w' => e = .returned (.bool r) ∧ RowKit.Below w.heap.size w w' := by
 rcases h : (sR s1 l1 t1 k1 s2 l2 t2 k2 && fRightB s3 l3 t3 k3) with _ | _
 ·obtain rfl : false = r := by rw [← hr]; unfold hasB; rw [h]; rfl
  exact p10has_bad hl1 hk1 ll1 lk1 hl2 hk2 ll2 lk2 hl3 hk3 ll3 lk3 h
 ·have hh := h
  simp only [Bool.and_eq_true] at hh
  obtain ⟨x, y, ⟨rfl, rfl, rfl, rfl⟩, ⟨rfl, rfl, rfl, rfl⟩, hxy⟩ := sR_good hh.1
  obtain ⟨p, rfl, rfl, rfl, rfl⟩ := fright_of hh.2
  refine p10has_k (⟨⟨rfl, hl1⟩, ⟨(den_sign x).symm, hk1⟩⟩ : Fr w _ _ _ x) ⟨Sz.of ll1, Sz.of lk1⟩ (⟨⟨rfl, hl2⟩, ⟨(den_sign y).symm, hk2⟩⟩ : Fr w _ _ _ y) ⟨Sz.of ll2, Sz.of lk2⟩ (⟨⟨rfl, hl3⟩, ⟨(den_sign p).symm, hk3⟩⟩ : Fr w _ _ _ p) ⟨Sz.of ll3, Sz.of lk3⟩ hxy ?_
  rw [← hr]
  unfold hasB
  rw [h, ratOf_is, ratOf_is, ratOf_is]; rfl
set_option maxHeartbeats 8000000 in
theorem l10few {w : World} {s1 t1 : Int} {a1 b1 : Option Addr} {n1 c1 m1 d1 : Nat} {s2 t2 : Int} {a2 b2 : Option Addr} {n2 c2 m2 d2 : Nat} {s3 t3 : Int} {a3 b3 : Option Addr} {n3 c3 m3 d3 : Nat} {s4 t4 : Int} {a4 b4 : Option Addr} {n4 c4 m4 d4 : Nat} (hn1 : n1 ≤ 9223372036854775807) (hm1 : m1 ≤ 9223372036854775807) (hn2 : n2 ≤ 9223372036854775807) (hm2 : m2 ≤ 9223372036854775807) (hn3 : n3 ≤ 9223372036854775807) (hm3 : m3 ≤ 9223372036854775807) (hn4 : n4 ≤ 9223372036854775807) (hm4 : m4 ≤ 9223372036854775807) {r : Bool} (hr : (((decide ((n1 : Int) ≤ 4) && decide ((m1 : Int) ≤ 4)) && (decide ((n2 : Int) ≤ 4) && decide ((m2 : Int) ≤ 4))) && ((decide ((n3 : Int) ≤ 4) && decide ((m3 : Int) ≤ 4)) && (decide ((n4 : Int) ≤ 4) && decide ((m4 : Int) ≤ 4)))) = r) :
  Calls Tryz.prog 5 #[.agg #[.int .i64 s1, .slice a1 n1 c1, .int .i64 t1, .slice b1 m1 d1, .int .i64 s2, .slice a2 n2 c2, .int .i64 t2, .slice b2 m2 d2], .agg #[.int .i64 s3, .slice a3 n3 c3, .int .i64 t3, .slice b3 m3 d3, .int .i64 s4, .slice a4 n4 c4, .int .i64 t4, .slice b4 m4 d4]] w fun e w' => e = .returned (.bool r) ∧ RowKit.Below w.heap.size w w' := by
 have MN1 := Lib.hid hn1
 have MM1 := Lib.hid hm1
 have MN2 := Lib.hid hn2
 have MM2 := Lib.hid hm2
 have MN3 := Lib.hid hn3
 have MM3 := Lib.hid hm3
 have MN4 := Lib.hid hn4
 have MM4 := Lib.hid hm4
 obtain ⟨x, hx⟩ : ∃ x, ((decide ((n1 : Int) ≤ 4) && decide ((m1 : Int) ≤ 4)) && (decide ((n2 : Int) ≤ 4) && decide ((m2 : Int) ≤ 4))) = x := ⟨_, rfl⟩
 obtain ⟨y, hy⟩ : ∃ y, ((decide ((n3 : Int) ≤ 4) && decide ((m3 : Int) ≤ 4)) && (decide ((n4 : Int) ≤ 4) && decide ((m4 : Int) ≤ 4))) = y := ⟨_, rfl⟩
 rw [hx, hy] at hr
 have HX := Lib.hid hx
 have HY := Lib.hid hy
 cases x
 ·obtain rfl : false = r := by rw [← hr]; rfl
  have s0 := (((Sf.start w).put [.int .i64 s1, .slice a1 n1 c1, .int .i64 t1, .slice b1 m1 d1, .int .i64 s2, .slice a2 n2 c2, .int .i64 t2, .slice b2 m2 d2] 28).put [.int .i64 s3, .slice a3 n3 c3, .int .i64 t3, .slice b3 m3 d3, .int .i64 s4, .slice a4 n4 c4, .int .i64 t4, .slice b4 m4 d4] 28)
  try simp only [World.size_alloc] at s0
  have S0 := Lib.hid s0
  clear s0
  clear hr hx hy hn1 hm1 hn2 hm2 hn3 hm3 hn4 hm4
  go_enter Tryz.func5, Tryz.ntmps5
  obtain ⟨q1, q2, q3, q4, q5, q6, q7, q8⟩ := Fb.cells8 (S0.out.box _ mq1)
  go_wp2_with fail
  clear q1 q2 q3 q4 q5 q6 q7 q8
  refine (r10few_len (s1 := s1) (t1 := t1) (a1 := a1) (b1 := b1) (c1 := c1) (d1 := d1) (s2 := s2) (t2 := t2) (a2 := a2) (b2 := b2) (c2 := c2) (d2 := d2) (k := 4) MN1.out MM1.out MN2.out MM2.out HX.out).mono ?_
  rintro e w11 ⟨rfl, hb⟩
  have R11 := Lib.hid (S0.out.later hb)
  clear hb
  go_wp2_with fail
  go_ret
  exact ⟨rfl, R11.out.below⟩
 ·obtain rfl : y = r := by rw [← hr]; rfl
  have s0 := (((Sf.start w).put [.int .i64 s1, .slice a1 n1 c1, .int .i64 t1, .slice b1 m1 d1, .int .i64 s2, .slice a2 n2 c2, .int .i64 t2, .slice b2 m2 d2] 28).put [.int .i64 s3, .slice a3 n3 c3, .int .i64 t3, .slice b3 m3 d3, .int .i64 s4, .slice a4 n4 c4, .int .i64 t4, .slice b4 m4 d4] 28)
  try simp only [World.size_alloc] at s0
  have S0 := Lib.hid s0
  clear s0
  clear hr hx hy hn1 hm1 hn2 hm2 hn3 hm3 hn4 hm4
  go_enter Tryz.func5, Tryz.ntmps5
  obtain ⟨q1, q2, q3, q4, q5, q6, q7, q8⟩ := Fb.cells8 (S0.out.box _ mq1)
  go_wp2_with fail
  clear q1 q2 q3 q4 q5 q6 q7 q8
  refine (r10few_len (s1 := s1) (t1 := t1) (a1 := a1) (b1 := b1) (c1 := c1) (d1 := d1) (s2 := s2) (t2 := t2) (a2 := a2) (b2 := b2) (c2 := c2) (d2 := d2) (k := 4) MN1.out MM1.out MN2.out MM2.out HX.out).mono ?_
  rintro e w11 ⟨rfl, hb⟩
  have R11 := Lib.hid (S0.out.later hb)
  clear hb
  obtain ⟨q9, q10, q11, q12, q13, q14, q15, q16⟩ := Fb.cells8 (R11.out.box _ mq0)
  go_wp2_with fail
  clear q9 q10 q11 q12 q13 q14 q15 q16
  refine (r10few_len (s1 := s3) (t1 := t3) (a1 := a3) (b1 := b3) (c1 := c3) (d1 := d3) (s2 := s4) (t2 := t4) (a2 := a4) (b2 := b4) (c2 := c4) (d2 := d4) (k := 4) MN3.out MM3.out MN4.out MM4.out HY.out).mono ?_
  rintro e w12 ⟨rfl, hb⟩
  have R12 := Lib.hid (R11.out.later hb)
  clear hb
  go_wp2_with fail
  go_ret
  exact ⟨rfl, R12.out.below⟩
end Go.Proofs.YtgncnkojpedmdaaGreat.Sp

namespace Go.Proofs.YtgncnkojpedmdaaGreat.Sp
open Go.RowKit Bi

set_option maxHeartbeats 8000000 in
theorem play_add {w : World} {s1 : Int} {a1 b1 : Option Addr} {n1 c1 m1 d1 : Nat} {x : Rat} {s2 : Int} {a2 b2 : Option Addr} {n2 c2 m2 d2 : Nat} {y : Rat} {s3 : Int} {a3 b3 : Option Addr} {n3 c3 m3 d3 : Nat} {p : Rat} {s4 : Int} {a4 b4 : Option Addr} {n4 c4 m4 d4 : Nat} {q : Rat} (h1 : Fr w s1 (.slice a1 n1 c1) (.slice b1 m1 d1) x) (z1 : FSz 400 x) (h2 : Fr w s2 (.slice a2 n2 c2) (.slice b2 m2 d2) y) (z2 : FSz 400 y) (h3 : Fr w s3 (.slice a3 n3 c3) (.slice b3 m3 d3) p) (z3 : FSz 400 p) (h4 : Fr w s4 (.slice a4 n4 c4) (.slice b4 m4 d4) q) (z4 : FSz 400 q) (hxy : x ≤ y) (hpq : p ≤ q) {r : Rat × Rat} (hr : conS (opF 0) (x, y) (p, q) = r) :
  Calls Tryz.prog 7 #[.int .i64 0, .agg #[.int .i64 s1, .slice a1 n1 c1, .int .i64 1, .slice b1 m1 d1, .int .i64 s2, .slice a2 n2 c2, .int .i64 1, .slice b2 m2 d2], .agg #[.int .i64 s3, .slice a3 n3 c3, .int .i64 1, .slice b3 m3 d3, .int .i64 s4, .slice a4 n4 c4, .int .i64 1, .slice b4 m4 d4]] w (SpP (fun v => .tuple #[v, .int .i64 0]) r w) := by
 have HL := Lib.hid hxy
 have HH := Lib.hid hpq
 have HR := Lib.hid ((con_add (a := (x, y)) (b := (p, q)) hxy hpq).symm.trans hr)
 have E1 := Lib.hid h1.1.1
 have Y1 := Lib.hid z1
 have E2 := Lib.hid h2.1.1
 have Y2 := Lib.hid z2
 have E3 := Lib.hid h3.1.1
 have Y3 := Lib.hid z3
 have E4 := Lib.hid h4.1.1
 have Y4 := Lib.hid z4
 have s0 := ((((((((((((Sf.start w).arg h1.2.2).arg h1.1.2).arg h2.2.2).arg h2.1.2).arg h3.2.2).arg h3.1.2).arg h4.2.2).arg h4.1.2).put [.int .i64 s1, .slice a1 n1 c1, .int .i64 1, .slice b1 m1 d1, .int .i64 s2, .slice a2 n2 c2, .int .i64 1, .slice b2 m2 d2] 28).put [.int .i64 s3, .slice a3 n3 c3, .int .i64 1, .slice b3 m3 d3, .int .i64 s4, .slice a4 n4 c4, .int .i64 1, .slice b4 m4 d4] 28).put [.int .i64 0, .slice none 0 0, .int .i64 0, .slice none 0 0, .int .i64 0, .slice none 0 0, .int .i64 0, .slice none 0 0] 28)
 try simp only [World.size_alloc] at s0
 have S0 := Lib.hid s0
 clear s0
 clear h1 h2 h3 h4 z1 z2 z3 z4 hxy hpq hr
 go_enter Tryz.func7, Tryz.ntmps7
 obtain ⟨q1, q2, q3, q4, q5, q6, q7, q8⟩ := Fb.cells8 (S0.out.box _ mq1)
 obtain ⟨q9, q10, q11, q12, q13, q14, q15, q16⟩ := Fb.cells8 (S0.out.box _ mq2)
 go_wp2_with fail
 clear q1 q2 q3 q4 q5 q6 q7 q8 q9 q10 q11 q12 q13 q14 q15 q16
 refine (p10add (S0.out.fr mq6 mq7 E1.out) Y1.out (S0.out.fr mq4 mq5 E2.out) Y2.out (S0.out.fr mq2 mq3 E3.out) Y3.out (S0.out.fr mq0 mq1 E4.out) Y4.out HL.out HH.out HR.out).mono ?_
 rintro e w11 ⟨c11, d11, rfl, h1, h2, hb, ho⟩
 have EC11 := Lib.hid h1.1.1
 have ED11 := Lib.hid h2.1.1
 have R11 := Lib.hid (Sf.span S0.out hb h1 h2 (fun x hx => ho x.1 (S0.out.lt x hx)))
 have HO11 := Lib.hid (fun g (hg : g < w.heap.size) => ho g (Nat.lt_of_lt_of_le hg S0.out.below.size))
 clear h1 h2 hb ho
 have P17 := Lib.hid (R11.out.put [.int .i64 0, .slice none 0 0, .int .i64 0, .slice none 0 0, .int .i64 0, .slice none 0 0, .int .i64 0, .slice none 0 0] 28)
 have Q17 := Lib.hid (Sf.row (pre := []) P17.out [.int .i64 c11.s, .slice c11.a c11.n c11.c, .int .i64 1, .slice c11.b c11.m c11.d, .int .i64 d11.s, .slice d11.a d11.n d11.c, .int .i64 1, .slice d11.b d11.m d11.d])
 obtain ⟨V17, hV17⟩ : ∃ V, ((w11.alloc (.cells #[.int .i64 0, .slice none 0 0, .int .i64 0, .slice none 0 0, .int .i64 0, .slice none 0 0, .int .i64 0, .slice none 0 0] 28)).setRow w11.heap.size #[.int .i64 c11.s, .slice c11.a c11.n c11.c, .int .i64 1, .slice c11.b c11.m c11.d, .int .i64 d11.s, .slice d11.a d11.n d11.c, .int .i64 1, .slice d11.b d11.m d11.d]) = V := ⟨_, rfl⟩
 rw [hV17] at Q17
 have HV17 := Lib.hid hV17
 clear hV17 R11
 obtain ⟨q18, q19, q20, q21, q22, q23, q24, q25⟩ := Fb.cells8 (Q17.out.box _ mq0)
 have Q26 := Lib.hid (Sf.row (pre := [(w11.heap.size, 28, [.int .i64 c11.s, .slice c11.a c11.n c11.c, .int .i64 1, .slice c11.b c11.m c11.d, .int .i64 d11.s, .slice d11.a d11.n d11.c, .int .i64 1, .slice d11.b d11.m d11.d])]) Q17.out [.int .i64 c11.s, .slice c11.a c11.n c11.c, .int .i64 1, .slice c11.b c11.m c11.d, .int .i64 d11.s, .slice d11.a d11.n d11.c, .int .i64 1, .slice d11.b d11.m d11.d])
 go_wp2_with (first | (refine wpList_store_row rfl _ _ _ rfl _ #[.int .i64 c11.s, .slice c11.a c11.n c11.c, .int .i64 1, .slice c11.b c11.m c11.d, .int .i64 d11.s, .slice d11.a d11.n d11.c, .int .i64 1, .slice d11.b d11.m d11.d] rfl rfl _ _ (P17.out.box _ List.mem_cons_self) (by kernel_rfl) rfl (by simp [Value.oneCell']) ?_; rw [HV17.out]) | refine wpList_store_row rfl _ _ _ rfl _ #[.int .i64 c11.s, .slice c11.a c11.n c11.c, .int .i64 1, .slice c11.b c11.m c11.d, .int .i64 d11.s, .slice d11.a d11.n d11.c, .int .i64 1, .slice d11.b d11.m d11.d] rfl rfl _ _ (Q17.out.box _ mq1) (by kernel_rfl) rfl (by simp [Value.oneCell']) ?_)
 clear q18 q19 q20 q21 q22 q23 q24 q25
 refine bodyPost_ret (ret_row rfl _ _ _ _ rfl (run_loadVar_row _ _ _ _ _ (0, 0) _ (Q26.out.box _ mq1) Tryz.underlying28 rfl (by kernel_rfl))) rfl ⟨c11, d11, rfl, (Q26.out.fr mq0 mq1 EC11.out), (Q26.out.fr mq2 mq3 ED11.out), Q26.out.below, HO11.out⟩

set_option maxHeartbeats 8000000 in
theorem play_sub {w : World} {s1 : Int} {a1 b1 : Option Addr} {n1 c1 m1 d1 : Nat} {x : Rat} {s2 : Int} {a2 b2 : Option Addr} {n2 c2 m2 d2 : Nat} {y : Rat} {s3 : Int} {a3 b3 : Option Addr} {n3 c3 m3 d3 : Nat} {p : Rat} {s4 : Int} {a4 b4 : Option Addr} {n4 c4 m4 d4 : Nat} {q : Rat} (h1 : Fr w s1 (.slice a1 n1 c1) (.slice b1 m1 d1) x) (z1 : FSz 400 x) (h2 : Fr w s2 (.slice a2 n2 c2) (.slice b2 m2 d2) y) (z2 : FSz 400 y) (h3 : Fr w s3 (.slice a3 n3 c3) (.slice b3 m3 d3) p) (z3 : FSz 400 p) (h4 : Fr w s4 (.slice a4 n4 c4) (.slice b4 m4 d4) q) (z4 : FSz 400 q) (hxy : x ≤ y) (hpq : p ≤ q) {r : Rat × Rat} (hr : conS (opF 1) (x, y) (p, q) = r) :
  Calls Tryz.prog 7 #[.int .i64 1, .agg #[.int .i64 s1, .slice a1 n1 c1, .int .i64 1, .slice b1 m1 d1, .int .i64 s2, .slice a2 n2 c2, .int .i64 1, .slice b2 m2 d2], .agg #[.int .i64 s3, .slice a3 n3 c3, .int .i64 1, .slice b3 m3 d3, .int .i64 s4, .slice a4 n4 c4, .int .i64 1, .slice b4 m4 d4]] w (SpP (fun v => .tuple #[v, .int .i64 0]) r w) := by
 have HL := Lib.hid hxy
 have HH := Lib.hid hpq
 have HR := Lib.hid ((con_sub (a := (x, y)) (b := (p, q)) hxy hpq).symm.trans hr)
 have E1 := Lib.hid h1.1.1
 have Y1 := Lib.hid z1
 have E2 := Lib.hid h2.1.1
 have Y2 := Lib.hid z2
 have E3 := Lib.hid h3.1.1
 have Y3 := Lib.hid z3
 have E4 := Lib.hid h4.1.1
 have Y4 := Lib.hid z4
 have s0 := ((((((((((((Sf.start w).arg h1.2.2).arg h1.1.2).arg h2.2.2).arg h2.1.2).arg h3.2.2).arg h3.1.2).arg h4.2.2).arg h4.1.2).put [.int .i64 s1, .slice a1 n1 c1, .int .i64 1, .slice b1 m1 d1, .int .i64 s2, .slice a2 n2 c2, .int .i64 1, .slice b2 m2 d2] 28).put [.int .i64 s3, .slice a3 n3 c3, .int .i64 1, .slice b3 m3 d3, .int .i64 s4, .slice a4 n4 c4, .int .i64 1, .slice b4 m4 d4] 28).put [.int .i64 0, .slice none 0 0, .int .i64 0, .slice none 0 0, .int .i64 0, .slice none 0 0, .int .i64 0, .slice none 0 0] 28)
 try simp only [World.size_alloc] at s0
 have S0 := Lib.hid s0
 clear s0
 clear h1 h2 h3 h4 z1 z2 z3 z4 hxy hpq hr
 go_enter Tryz.func7, Tryz.ntmps7
 obtain ⟨q1, q2, q3, q4, q5, q6, q7, q8⟩ := Fb.cells8 (S0.out.box _ mq1)
 obtain ⟨q9, q10, q11, q12, q13, q14, q15, q16⟩ := Fb.cells8 (S0.out.box _ mq2)
 go_wp2_with fail
 clear q1 q2 q3 q4 q5 q6 q7 q8 q9 q10 q11 q12 q13 q14 q15 q16
 refine (p10sub (S0.out.fr mq6 mq7 E1.out) Y1.out (S0.out.fr mq4 mq5 E2.out) Y2.out (S0.out.fr mq2 mq3 E3.out) Y3.out (S0.out.fr mq0 mq1 E4.out) Y4.out HL.out HH.out HR.out).mono ?_
 rintro e w11 ⟨c11, d11, rfl, h1, h2, hb, ho⟩
 have EC11 := Lib.hid h1.1.1
 have ED11 := Lib.hid h2.1.1
 have R11 := Lib.hid (Sf.span S0.out hb h1 h2 (fun x hx => ho x.1 (S0.out.lt x hx)))
 have HO11 := Lib.hid (fun g (hg : g < w.heap.size) => ho g (Nat.lt_of_lt_of_le hg S0.out.below.size))
 clear h1 h2 hb ho
 have P17 := Lib.hid (R11.out.put [.int .i64 0, .slice none 0 0, .int .i64 0, .slice none 0 0, .int .i64 0, .slice none 0 0, .int .i64 0, .slice none 0 0] 28)
 have Q17 := Lib.hid (Sf.row (pre := []) P17.out [.int .i64 c11.s, .slice c11.a c11.n c11.c, .int .i64 1, .slice c11.b c11.m c11.d, .int .i64 d11.s, .slice d11.a d11.n d11.c, .int .i64 1, .slice d11.b d11.m d11.d])
 obtain ⟨V17, hV17⟩ : ∃ V, ((w11.alloc (.cells #[.int .i64 0, .slice none 0 0, .int .i64 0, .slice none 0 0, .int .i64 0, .slice none 0 0, .int .i64 0, .slice none 0 0] 28)).setRow w11.heap.size #[.int .i64 c11.s, .slice c11.a c11.n c11.c, .int .i64 1, .slice c11.b c11.m c11.d, .int .i64 d11.s, .slice d11.a d11.n d11.c, .int .i64 1, .slice d11.b d11.m d11.d]) = V := ⟨_, rfl⟩
 rw [hV17] at Q17
 have HV17 := Lib.hid hV17
 clear hV17 R11
 obtain ⟨q18, q19, q20, q21, q22, q23, q24, q25⟩ := Fb.cells8 (Q17.out.box _ mq0)
 have Q26 := Lib.hid (Sf.row (pre := [(w11.heap.size, 28, [.int .i64 c11.s, .slice c11.a c11.n c11.c, .int .i64 1, .slice c11.b c11.m c11.d, .int .i64 d11.s, .slice d11.a d11.n d11.c, .int .i64 1, .slice d11.b d11.m d11.d])]) Q17.out [.int .i64 c11.s, .slice c11.a c11.n c11.c, .int .i64 1, .slice c11.b c11.m c11.d, .int .i64 d11.s, .slice d11.a d11.n d11.c, .int .i64 1, .slice d11.b d11.m d11.d])
 go_wp2_with (first | (refine wpList_store_row rfl _ _ _ rfl _ #[.int .i64 c11.s, .slice c11.a c11.n c11.c, .int .i64 1, .slice c11.b c11.m c11.d, .int .i64 d11.s, .slice d11.a d11.n d11.c, .int .i64 1, .slice d11.b d11.m d11.d] rfl rfl _ _ (P17.out.box _ List.mem_cons_self) (by kernel_rfl) rfl (by simp [Value.oneCell']) ?_; rw [HV17.out]) | refine wpList_store_row rfl _ _ _ rfl _ #[.int .i64 c11.s, .slice c11.a c11.n c11.c, .int .i64 1, .slice c11.b c11.m c11.d, .int .i64 d11.s, .slice d11.a d11.n d11.c, .int .i64 1, .slice d11.b d11.m d11.d] rfl rfl _ _ (Q17.out.box _ mq1) (by kernel_rfl) rfl (by simp [Value.oneCell']) ?_)
 clear q18 q19 q20 q21 q22 q23 q24 q25
 refine bodyPost_ret (ret_row rfl _ _ _ _ rfl (run_loadVar_row _ _ _ _ _ (0, 0) _ (Q26.out.box _ mq1) Tryz.underlying28 rfl (by kernel_rfl))) rfl ⟨c11, d11, rfl, (Q26.out.fr mq0 mq1 EC11.out), (Q26.out.fr mq2 mq3 ED11.out), Q26.out.below, HO11.out⟩

set_option maxHeartbeats 8000000 in
theorem play_mul {w : World} {s1 : Int} {a1 b1 : Option Addr} {n1 c1 m1 d1 : Nat} {x : Rat} {s2 : Int} {a2 b2 : Option Addr} {n2 c2 m2 d2 : Nat} {y : Rat} {s3 : Int} {a3 b3 : Option Addr} {n3 c3 m3 d3 : Nat} {p : Rat} {s4 : Int} {a4 b4 : Option Addr} {n4 c4 m4 d4 : Nat} {q : Rat} (h1 : Fr w s1 (.slice a1 n1 c1) (.slice b1 m1 d1) x) (z1 : FSz 400 x) (h2 : Fr w s2 (.slice a2 n2 c2) (.slice b2 m2 d2) y) (z2 : FSz 400 y) (h3 : Fr w s3 (.slice a3 n3 c3) (.slice b3 m3 d3) p) (z3 : FSz 400 p) (h4 : Fr w s4 (.slice a4 n4 c4) (.slice b4 m4 d4) q) (z4 : FSz 400 q) (hxy : x ≤ y) (hpq : p ≤ q) {r : Rat × Rat} (hr : conS (opF 2) (x, y) (p, q) = r) :
  Calls Tryz.prog 7 #[.int .i64 2, .agg #[.int .i64 s1, .slice a1 n1 c1, .int .i64 1, .slice b1 m1 d1, .int .i64 s2, .slice a2 n2 c2, .int .i64 1, .slice b2 m2 d2], .agg #[.int .i64 s3, .slice a3 n3 c3, .int .i64 1, .slice b3 m3 d3, .int .i64 s4, .slice a4 n4 c4, .int .i64 1, .slice b4 m4 d4]] w (SpP (fun v => .tuple #[v, .int .i64 0]) r w) := by
 have HL := Lib.hid hxy
 have HH := Lib.hid hpq
 have HR : Hid (mulS (x, y) (p, q) = r) := Lib.hid hr
 have E1 := Lib.hid h1.1.1
 have Y1 := Lib.hid z1
 have E2 := Lib.hid h2.1.1
 have Y2 := Lib.hid z2
 have E3 := Lib.hid h3.1.1
 have Y3 := Lib.hid z3
 have E4 := Lib.hid h4.1.1
 have Y4 := Lib.hid z4
 have s0 := ((((((((((((Sf.start w).arg h1.2.2).arg h1.1.2).arg h2.2.2).arg h2.1.2).arg h3.2.2).arg h3.1.2).arg h4.2.2).arg h4.1.2).put [.int .i64 s1, .slice a1 n1 c1, .int .i64 1, .slice b1 m1 d1, .int .i64 s2, .slice a2 n2 c2, .int .i64 1, .slice b2 m2 d2] 28).put [.int .i64 s3, .slice a3 n3 c3, .int .i64 1, .slice b3 m3 d3, .int .i64 s4, .slice a4 n4 c4, .int .i64 1, .slice b4 m4 d4] 28).put [.int .i64 0, .slice none 0 0, .int .i64 0, .slice none 0 0, .int .i64 0, .slice none 0 0, .int .i64 0, .slice none 0 0] 28)
 try simp only [World.size_alloc] at s0
 have S0 := Lib.hid s0
 clear s0
 clear h1 h2 h3 h4 z1 z2 z3 z4 hxy hpq hr
 go_enter Tryz.func7, Tryz.ntmps7
 obtain ⟨q1, q2, q3, q4, q5, q6, q7, q8⟩ := Fb.cells8 (S0.out.box _ mq1)
 obtain ⟨q9, q10, q11, q12, q13, q14, q15, q16⟩ := Fb.cells8 (S0.out.box _ mq2)
 go_wp2_with fail
 clear q1 q2 q3 q4 q5 q6 q7 q8 q9 q10 q11 q12 q13 q14 q15 q16
 refine (p10mul (S0.out.fr mq6 mq7 E1.out) Y1.out (S0.out.fr mq4 mq5 E2.out) Y2.out (S0.out.fr mq2 mq3 E3.out) Y3.out (S0.out.fr mq0 mq1 E4.out) Y4.out HL.out HH.out HR.out).mono ?_
 rintro e w11 ⟨c11, d11, rfl, h1, h2, hb, ho⟩
 have EC11 := Lib.hid h1.1.1
 have ED11 := Lib.hid h2.1.1
 have R11 := Lib.hid (Sf.span S0.out hb h1 h2 (fun x hx => ho x.1 (S0.out.lt x hx)))
 have HO11 := Lib.hid (fun g (hg : g < w.heap.size) => ho g (Nat.lt_of_lt_of_le hg S0.out.below.size))
 clear h1 h2 hb ho
 have P17 := Lib.hid (R11.out.put [.int .i64 0, .slice none 0 0, .int .i64 0, .slice none 0 0, .int .i64 0, .slice none 0 0, .int .i64 0, .slice none 0 0] 28)
 have Q17 := Lib.hid (Sf.row (pre := []) P17.out [.int .i64 c11.s, .slice c11.a c11.n c11.c, .int .i64 1, .slice c11.b c11.m c11.d, .int .i64 d11.s, .slice d11.a d11.n d11.c, .int .i64 1, .slice d11.b d11.m d11.d])
 obtain ⟨V17, hV17⟩ : ∃ V, ((w11.alloc (.cells #[.int .i64 0, .slice none 0 0, .int .i64 0, .slice none 0 0, .int .i64 0, .slice none 0 0, .int .i64 0, .slice none 0 0] 28)).setRow w11.heap.size #[.int .i64 c11.s, .slice c11.a c11.n c11.c, .int .i64 1, .slice c11.b c11.m c11.d, .int .i64 d11.s, .slice d11.a d11.n d11.c, .int .i64 1, .slice d11.b d11.m d11.d]) = V := ⟨_, rfl⟩
 rw [hV17] at Q17
 have HV17 := Lib.hid hV17
 clear hV17 R11
 obtain ⟨q18, q19, q20, q21, q22, q23, q24, q25⟩ := Fb.cells8 (Q17.out.box _ mq0)
 have Q26 := Lib.hid (Sf.row (pre := [(w11.heap.size, 28, [.int .i64 c11.s, .slice c11.a c11.n c11.c, .int .i64 1, .slice c11.b c11.m c11.d, .int .i64 d11.s, .slice d11.a d11.n d11.c, .int .i64 1, .slice d11.b d11.m d11.d])]) Q17.out [.int .i64 c11.s, .slice c11.a c11.n c11.c, .int .i64 1, .slice c11.b c11.m c11.d, .int .i64 d11.s, .slice d11.a d11.n d11.c, .int .i64 1, .slice d11.b d11.m d11.d])
 go_wp2_with (first | (refine wpList_store_row rfl _ _ _ rfl _ #[.int .i64 c11.s, .slice c11.a c11.n c11.c, .int .i64 1, .slice c11.b c11.m c11.d, .int .i64 d11.s, .slice d11.a d11.n d11.c, .int .i64 1, .slice d11.b d11.m d11.d] rfl rfl _ _ (P17.out.box _ List.mem_cons_self) (by kernel_rfl) rfl (by simp [Value.oneCell']) ?_; rw [HV17.out]) | refine wpList_store_row rfl _ _ _ rfl _ #[.int .i64 c11.s, .slice c11.a c11.n c11.c, .int .i64 1, .slice c11.b c11.m c11.d, .int .i64 d11.s, .slice d11.a d11.n d11.c, .int .i64 1, .slice d11.b d11.m d11.d] rfl rfl _ _ (Q17.out.box _ mq1) (by kernel_rfl) rfl (by simp [Value.oneCell']) ?_)
 clear q18 q19 q20 q21 q22 q23 q24 q25
 refine bodyPost_ret (ret_row rfl _ _ _ _ rfl (run_loadVar_row _ _ _ _ _ (0, 0) _ (Q26.out.box _ mq1) Tryz.underlying28 rfl (by kernel_rfl))) rfl ⟨c11, d11, rfl, (Q26.out.fr mq0 mq1 EC11.out), (Q26.out.fr mq2 mq3 ED11.out), Q26.out.below, HO11.out⟩

set_option maxHeartbeats 8000000 in
theorem play_div {w : World} {s1 : Int} {a1 b1 : Option Addr} {n1 c1 m1 d1 : Nat} {x : Rat} {s2 : Int} {a2 b2 : Option Addr} {n2 c2 m2 d2 : Nat} {y : Rat} {s3 : Int} {a3 b3 : Option Addr} {n3 c3 m3 d3 : Nat} {p : Rat} {s4 : Int} {a4 b4 : Option Addr} {n4 c4 m4 d4 : Nat} {q : Rat} (h1 : Fr w s1 (.slice a1 n1 c1) (.slice b1 m1 d1) x) (z1 : FSz 400 x) (h2 : Fr w s2 (.slice a2 n2 c2) (.slice b2 m2 d2) y) (z2 : FSz 400 y) (h3 : Fr w s3 (.slice a3 n3 c3) (.slice b3 m3 d3) p) (z3 : FSz 400 p) (h4 : Fr w s4 (.slice a4 n4 c4) (.slice b4 m4 d4) q) (z4 : FSz 400 q) (hxy : x ≤ y) (hpq : p ≤ q) (h0 : ¬ In (p, q) 0) {r : Rat × Rat} (hr : conS (opF 3) (x, y) (p, q) = r) :
  Calls Tryz.prog 7 #[.int .i64 3, .agg #[.int .i64 s1, .slice a1 n1 c1, .int .i64 1, .slice b1 m1 d1, .int .i64 s2, .slice a2 n2 c2, .int .i64 1, .slice b2 m2 d2], .agg #[.int .i64 s3, .slice a3 n3 c3, .int .i64 1, .slice b3 m3 d3, .int .i64 s4, .slice a4 n4 c4, .int .i64 1, .slice b4 m4 d4]] w (SpP (fun v => .tuple #[v, .int .i64 0]) r w) := by
 have HL := Lib.hid hxy
 have HH := Lib.hid hpq
 have HR : Hid (divS (x, y) (p, q) = r) := Lib.hid hr
 have H0 := Lib.hid h0
 have E1 := Lib.hid h1.1.1
 have Y1 := Lib.hid z1
 have E2 := Lib.hid h2.1.1
 have Y2 := Lib.hid z2
 have E3 := Lib.hid h3.1.1
 have Y3 := Lib.hid z3
 have E4 := Lib.hid h4.1.1
 have Y4 := Lib.hid z4
 have s0 := ((((((((((((Sf.start w).arg h1.2.2).arg h1.1.2).arg h2.2.2).arg h2.1.2).arg h3.2.2).arg h3.1.2).arg h4.2.2).arg h4.1.2).put [.int .i64 s1, .slice a1 n1 c1, .int .i64 1, .slice b1 m1 d1, .int .i64 s2, .slice a2 n2 c2, .int .i64 1, .slice b2 m2 d2] 28).put [.int .i64 s3, .slice a3 n3 c3, .int .i64 1, .slice b3 m3 d3, .int .i64 s4, .slice a4 n4 c4, .int .i64 1, .slice b4 m4 d4] 28).put [.int .i64 0, .slice none 0 0, .int .i64 0, .slice none 0 0, .int .i64 0, .slice none 0 0, .int .i64 0, .slice none 0 0] 28)
 try simp only [World.size_alloc] at s0
 have S0 := Lib.hid s0
 clear s0
 clear h1 h2 h3 h4 z1 z2 z3 z4 hxy hpq hr h0
 go_enter Tryz.func7, Tryz.ntmps7
 obtain ⟨q1, q2, q3, q4, q5, q6, q7, q8⟩ := Fb.cells8 (S0.out.box _ mq1)
 obtain ⟨q9, q10, q11, q12, q13, q14, q15, q16⟩ := Fb.cells8 (S0.out.box _ mq2)
 go_wp2_with fail
 clear q1 q2 q3 q4 q5 q6 q7 q8 q9 q10 q11 q12 q13 q14 q15 q16
 refine (p10div (S0.out.fr mq6 mq7 E1.out) Y1.out (S0.out.fr mq4 mq5 E2.out) Y2.out (S0.out.fr mq2 mq3 E3.out) Y3.out (S0.out.fr mq0 mq1 E4.out) Y4.out HL.out HH.out H0.out HR.out).mono ?_
 rintro e w11 ⟨c11, d11, rfl, h1, h2, hb, ho⟩
 have EC11 := Lib.hid h1.1.1
 have ED11 := Lib.hid h2.1.1
 have R11 := Lib.hid (Sf.span S0.out hb h1 h2 (fun x hx => ho x.1 (S0.out.lt x hx)))
 have HO11 := Lib.hid (fun g (hg : g < w.heap.size) => ho g (Nat.lt_of_lt_of_le hg S0.out.below.size))
 clear h1 h2 hb ho
 have P17 := Lib.hid (R11.out.put [.int .i64 0, .slice none 0 0, .int .i64 0, .slice none 0 0, .int .i64 0, .slice none 0 0, .int .i64 0, .slice none 0 0] 28)
 have Q17 := Lib.hid (Sf.row (pre := []) P17.out [.int .i64 c11.s, .slice c11.a c11.n c11.c, .int .i64 1, .slice c11.b c11.m c11.d, .int .i64 d11.s, .slice d11.a d11.n d11.c, .int .i64 1, .slice d11.b d11.m d11.d])
 obtain ⟨V17, hV17⟩ : ∃ V, ((w11.alloc (.cells #[.int .i64 0, .slice none 0 0, .int .i64 0, .slice none 0 0, .int .i64 0, .slice none 0 0, .int .i64 0, .slice none 0 0] 28)).setRow w11.heap.size #[.int .i64 c11.s, .slice c11.a c11.n c11.c, .int .i64 1, .slice c11.b c11.m c11.d, .int .i64 d11.s, .slice d11.a d11.n d11.c, .int .i64 1, .slice d11.b d11.m d11.d]) = V := ⟨_, rfl⟩
 rw [hV17] at Q17
 have HV17 := Lib.hid hV17
 clear hV17 R11
 obtain ⟨q18, q19, q20, q21, q22, q23, q24, q25⟩ := Fb.cells8 (Q17.out.box _ mq0)
 have Q26 := Lib.hid (Sf.row (pre := [(w11.heap.size, 28, [.int .i64 c11.s, .slice c11.a c11.n c11.c, .int .i64 1, .slice c11.b c11.m c11.d, .int .i64 d11.s, .slice d11.a d11.n d11.c, .int .i64 1, .slice d11.b d11.m d11.d])]) Q17.out [.int .i64 c11.s, .slice c11.a c11.n c11.c, .int .i64 1, .slice c11.b c11.m c11.d, .int .i64 d11.s, .slice d11.a d11.n d11.c, .int .i64 1, .slice d11.b d11.m d11.d])
 go_wp2_with (first | (refine wpList_store_row rfl _ _ _ rfl _ #[.int .i64 c11.s, .slice c11.a c11.n c11.c, .int .i64 1, .slice c11.b c11.m c11.d, .int .i64 d11.s, .slice d11.a d11.n d11.c, .int .i64 1, .slice d11.b d11.m d11.d] rfl rfl _ _ (P17.out.box _ List.mem_cons_self) (by kernel_rfl) rfl (by simp [Value.oneCell']) ?_; rw [HV17.out]) | refine wpList_store_row rfl _ _ _ rfl _ #[.int .i64 c11.s, .slice c11.a c11.n c11.c, .int .i64 1, .slice c11.b c11.m c11.d, .int .i64 d11.s, .slice d11.a d11.n d11.c, .int .i64 1, .slice d11.b d11.m d11.d] rfl rfl _ _ (Q17.out.box _ mq1) (by kernel_rfl) rfl (by simp [Value.oneCell']) ?_)
 clear q18 q19 q20 q21 q22 q23 q24 q25
 refine bodyPost_ret (ret_row rfl _ _ _ _ rfl (run_loadVar_row _ _ _ _ _ (0, 0) _ (Q26.out.box _ mq1) Tryz.underlying28 rfl (by kernel_rfl))) rfl ⟨c11, d11, rfl, (Q26.out.fr mq0 mq1 EC11.out), (Q26.out.fr mq2 mq3 ED11.out), Q26.out.below, HO11.out⟩

set_option maxHeartbeats 8000000 in
theorem play_min {w : World} {s1 : Int} {a1 b1 : Option Addr} {n1 c1 m1 d1 : Nat} {x : Rat} {s2 : Int} {a2 b2 : Option Addr} {n2 c2 m2 d2 : Nat} {y : Rat} {s3 : Int} {a3 b3 : Option Addr} {n3 c3 m3 d3 : Nat} {p : Rat} {s4 : Int} {a4 b4 : Option Addr} {n4 c4 m4 d4 : Nat} {q : Rat} (h1 : Fr w s1 (.slice a1 n1 c1) (.slice b1 m1 d1) x) (z1 : FSz 400 x) (h2 : Fr w s2 (.slice a2 n2 c2) (.slice b2 m2 d2) y) (z2 : FSz 400 y) (h3 : Fr w s3 (.slice a3 n3 c3) (.slice b3 m3 d3) p) (z3 : FSz 400 p) (h4 : Fr w s4 (.slice a4 n4 c4) (.slice b4 m4 d4) q) (z4 : FSz 400 q) (hxy : x ≤ y) (hpq : p ≤ q) {r : Rat × Rat} (hr : conS (opF 4) (x, y) (p, q) = r) :
  Calls Tryz.prog 7 #[.int .i64 4, .agg #[.int .i64 s1, .slice a1 n1 c1, .int .i64 1, .slice b1 m1 d1, .int .i64 s2, .slice a2 n2 c2, .int .i64 1, .slice b2 m2 d2], .agg #[.int .i64 s3, .slice a3 n3 c3, .int .i64 1, .slice b3 m3 d3, .int .i64 s4, .slice a4 n4 c4, .int .i64 1, .slice b4 m4 d4]] w (SpP (fun v => .tuple #[v, .int .i64 0]) r w) := by
 have HL := Lib.hid hxy
 have HH := Lib.hid hpq
 have HR := Lib.hid ((con_min (a := (x, y)) (b := (p, q)) hxy hpq).symm.trans hr)
 have E1 := Lib.hid h1.1.1
 have Y1 := Lib.hid z1
 have E2 := Lib.hid h2.1.1
 have Y2 := Lib.hid z2
 have E3 := Lib.hid h3.1.1
 have Y3 := Lib.hid z3
 have E4 := Lib.hid h4.1.1
 have Y4 := Lib.hid z4
 have s0 := ((((((((((((Sf.start w).arg h1.2.2).arg h1.1.2).arg h2.2.2).arg h2.1.2).arg h3.2.2).arg h3.1.2).arg h4.2.2).arg h4.1.2).put [.int .i64 s1, .slice a1 n1 c1, .int .i64 1, .slice b1 m1 d1, .int .i64 s2, .slice a2 n2 c2, .int .i64 1, .slice b2 m2 d2] 28).put [.int .i64 s3, .slice a3 n3 c3, .int .i64 1, .slice b3 m3 d3, .int .i64 s4, .slice a4 n4 c4, .int .i64 1, .slice b4 m4 d4] 28).put [.int .i64 0, .slice none 0 0, .int .i64 0, .slice none 0 0, .int .i64 0, .slice none 0 0, .int .i64 0, .slice none 0 0] 28)
 try simp only [World.size_alloc] at s0
 have S0 := Lib.hid s0
 clear s0
 clear h1 h2 h3 h4 z1 z2 z3 z4 hxy hpq hr
 go_enter Tryz.func7, Tryz.ntmps7
 obtain ⟨q1, q2, q3, q4, q5, q6, q7, q8⟩ := Fb.cells8 (S0.out.box _ mq1)
 obtain ⟨q9, q10, q11, q12, q13, q14, q15, q16⟩ := Fb.cells8 (S0.out.box _ mq2)
 go_wp2_with fail
 clear q1 q2 q3 q4 q5 q6 q7 q8 q9 q10 q11 q12 q13 q14 q15 q16
 refine (p10min (S0.out.fr mq6 mq7 E1.out) Y1.out (S0.out.fr mq4 mq5 E2.out) Y2.out (S0.out.fr mq2 mq3 E3.out) Y3.out (S0.out.fr mq0 mq1 E4.out) Y4.out HL.out HH.out HR.out).mono ?_
 rintro e w11 ⟨c11, d11, rfl, h1, h2, hb, ho⟩
 have EC11 := Lib.hid h1.1.1
 have ED11 := Lib.hid h2.1.1
 have R11 := Lib.hid (Sf.span S0.out hb h1 h2 (fun x hx => ho x.1 (S0.out.lt x hx)))
 have HO11 := Lib.hid (fun g (hg : g < w.heap.size) => ho g (Nat.lt_of_lt_of_le hg S0.out.below.size))
 clear h1 h2 hb ho
 have P17 := Lib.hid (R11.out.put [.int .i64 0, .slice none 0 0, .int .i64 0, .slice none 0 0, .int .i64 0, .slice none 0 0, .int .i64 0, .slice none 0 0] 28)
 have Q17 := Lib.hid (Sf.row (pre := []) P17.out [.int .i64 c11.s, .slice c11.a c11.n c11.c, .int .i64 1, .slice c11.b c11.m c11.d, .int .i64 d11.s, .slice d11.a d11.n d11.c, .int .i64 1, .slice d11.b d11.m d11.d])
 obtain ⟨V17, hV17⟩ : ∃ V, ((w11.alloc (.cells #[.int .i64 0, .slice none 0 0, .int .i64 0, .slice none 0 0, .int .i64 0, .slice none 0 0, .int .i64 0, .slice none 0 0] 28)).setRow w11.heap.size #[.int .i64 c11.s, .slice c11.a c11.n c11.c, .int .i64 1, .slice c11.b c11.m c11.d, .int .i64 d11.s, .slice d11.a d11.n d11.c, .int .i64 1, .slice d11.b d11.m d11.d]) = V := ⟨_, rfl⟩
 rw [hV17] at Q17
 have HV17 := Lib.hid hV17
 clear hV17 R11
 obtain ⟨q18, q19, q20, q21, q22, q23, q24, q25⟩ := Fb.cells8 (Q17.out.box _ mq0)
 have Q26 := Lib.hid (Sf.row (pre := [(w11.heap.size, 28, [.int .i64 c11.s, .slice c11.a c11.n c11.c, .int .i64 1, .slice c11.b c11.m c11.d, .int .i64 d11.s, .slice d11.a d11.n d11.c, .int .i64 1, .slice d11.b d11.m d11.d])]) Q17.out [.int .i64 c11.s, .slice c11.a c11.n c11.c, .int .i64 1, .slice c11.b c11.m c11.d, .int .i64 d11.s, .slice d11.a d11.n d11.c, .int .i64 1, .slice d11.b d11.m d11.d])
 go_wp2_with (first | (refine wpList_store_row rfl _ _ _ rfl _ #[.int .i64 c11.s, .slice c11.a c11.n c11.c, .int .i64 1, .slice c11.b c11.m c11.d, .int .i64 d11.s, .slice d11.a d11.n d11.c, .int .i64 1, .slice d11.b d11.m d11.d] rfl rfl _ _ (P17.out.box _ List.mem_cons_self) (by kernel_rfl) rfl (by simp [Value.oneCell']) ?_; rw [HV17.out]) | refine wpList_store_row rfl _ _ _ rfl _ #[.int .i64 c11.s, .slice c11.a c11.n c11.c, .int .i64 1, .slice c11.b c11.m c11.d, .int .i64 d11.s, .slice d11.a d11.n d11.c, .int .i64 1, .slice d11.b d11.m d11.d] rfl rfl _ _ (Q17.out.box _ mq1) (by kernel_rfl) rfl (by simp [Value.oneCell']) ?_)
 clear q18 q19 q20 q21 q22 q23 q24 q25
 refine bodyPost_ret (ret_row rfl _ _ _ _ rfl (run_loadVar_row _ _ _ _ _ (0, 0) _ (Q26.out.box _ mq1) Tryz.underlying28 rfl (by kernel_rfl))) rfl ⟨c11, d11, rfl, (Q26.out.fr mq0 mq1 EC11.out), (Q26.out.fr mq2 mq3 ED11.out), Q26.out.below, HO11.out⟩

set_option maxHeartbeats 8000000 in
theorem play_max {w : World} {s1 : Int} {a1 b1 : Option Addr} {n1 c1 m1 d1 : Nat} {x : Rat} {s2 : Int} {a2 b2 : Option Addr} {n2 c2 m2 d2 : Nat} {y : Rat} {s3 : Int} {a3 b3 : Option Addr} {n3 c3 m3 d3 : Nat} {p : Rat} {s4 : Int} {a4 b4 : Option Addr} {n4 c4 m4 d4 : Nat} {q : Rat} (h1 : Fr w s1 (.slice a1 n1 c1) (.slice b1 m1 d1) x) (z1 : FSz 400 x) (h2 : Fr w s2 (.slice a2 n2 c2) (.slice b2 m2 d2) y) (z2 : FSz 400 y) (h3 : Fr w s3 (.slice a3 n3 c3) (.slice b3 m3 d3) p) (z3 : FSz 400 p) (h4 : Fr w s4 (.slice a4 n4 c4) (.slice b4 m4 d4) q) (z4 : FSz 400 q) (hxy : x ≤ y) (hpq : p ≤ q) {r : Rat × Rat} (hr : conS (opF 5) (x, y) (p, q) = r) :
  Calls Tryz.prog 7 #[.int .i64 5, .agg #[.int .i64 s1, .slice a1 n1 c1, .int .i64 1, .slice b1 m1 d1, .int .i64 s2, .slice a2 n2 c2, .int .i64 1, .slice b2 m2 d2], .agg #[.int .i64 s3, .slice a3 n3 c3, .int .i64 1, .slice b3 m3 d3, .int .i64 s4, .slice a4 n4 c4, .int .i64 1, .slice b4 m4 d4]] w (SpP (fun v => .tuple #[v, .int .i64 0]) r w) := by
 have HL := Lib.hid hxy
 have HH := Lib.hid hpq
 have HR := Lib.hid ((con_max (a := (x, y)) (b := (p, q)) hxy hpq).symm.trans hr)
 have E1 := Lib.hid h1.1.1
 have Y1 := Lib.hid z1
 have E2 := Lib.hid h2.1.1
 have Y2 := Lib.hid z2
 have E3 := Lib.hid h3.1.1
 have Y3 := Lib.hid z3
 have E4 := Lib.hid h4.1.1
 have Y4 := Lib.hid z4
 have s0 := ((((((((((((Sf.start w).arg h1.2.2).arg h1.1.2).arg h2.2.2).arg h2.1.2).arg h3.2.2).arg h3.1.2).arg h4.2.2).arg h4.1.2).put [.int .i64 s1, .slice a1 n1 c1, .int .i64 1, .slice b1 m1 d1, .int .i64 s2, .slice a2 n2 c2, .int .i64 1, .slice b2 m2 d2] 28).put [.int .i64 s3, .slice a3 n3 c3, .int .i64 1, .slice b3 m3 d3, .int .i64 s4, .slice a4 n4 c4, .int .i64 1, .slice b4 m4 d4] 28).put [.int .i64 0, .slice none 0 0, .int .i64 0, .slice none 0 0, .int .i64 0, .slice none 0 0, .int .i64 0, .slice none 0 0] 28)
 try simp only [World.size_alloc] at s0
 have S0 := Lib.hid s0
 clear s0
 clear h1 h2 h3 h4 z1 z2 z3 z4 hxy hpq hr
 go_enter Tryz.func7, Tryz.ntmps7
 obtain ⟨q1, q2, q3, q4, q5, q6, q7, q8⟩ := Fb.cells8 (S0.out.box _ mq1)
 obtain ⟨q9, q10, q11, q12, q13, q14, q15, q16⟩ := Fb.cells8 (S0.out.box _ mq2)
 go_wp2_with fail
 clear q1 q2 q3 q4 q5 q6 q7 q8 q9 q10 q11 q12 q13 q14 q15 q16
 refine (p10max (S0.out.fr mq6 mq7 E1.out) Y1.out (S0.out.fr mq4 mq5 E2.out) Y2.out (S0.out.fr mq2 mq3 E3.out) Y3.out (S0.out.fr mq0 mq1 E4.out) Y4.out HL.out HH.out HR.out).mono ?_
 rintro e w11 ⟨c11, d11, rfl, h1, h2, hb, ho⟩
 have EC11 := Lib.hid h1.1.1
 have ED11 := Lib.hid h2.1.1
 have R11 := Lib.hid (Sf.span S0.out hb h1 h2 (fun x hx => ho x.1 (S0.out.lt x hx)))
 have HO11 := Lib.hid (fun g (hg : g < w.heap.size) => ho g (Nat.lt_of_lt_of_le hg S0.out.below.size))
 clear h1 h2 hb ho
 have P17 := Lib.hid (R11.out.put [.int .i64 0, .slice none 0 0, .int .i64 0, .slice none 0 0, .int .i64 0, .slice none 0 0, .int .i64 0, .slice none 0 0] 28)
 have Q17 := Lib.hid (Sf.row (pre := []) P17.out [.int .i64 c11.s, .slice c11.a c11.n c11.c, .int .i64 1, .slice c11.b c11.m c11.d, .int .i64 d11.s, .slice d11.a d11.n d11.c, .int .i64 1, .slice d11.b d11.m d11.d])
 obtain ⟨V17, hV17⟩ : ∃ V, ((w11.alloc (.cells #[.int .i64 0, .slice none 0 0, .int .i64 0, .slice none 0 0, .int .i64 0, .slice none 0 0, .int .i64 0, .slice none 0 0] 28)).setRow w11.heap.size #[.int .i64 c11.s, .slice c11.a c11.n c11.c, .int .i64 1, .slice c11.b c11.m c11.d, .int .i64 d11.s, .slice d11.a d11.n d11.c, .int .i64 1, .slice d11.b d11.m d11.d]) = V := ⟨_, rfl⟩
 rw [hV17] at Q17
 have HV17 := Lib.hid hV17
 clear hV17 R11
 obtain ⟨q18, q19, q20, q21, q22, q23, q24, q25⟩ := Fb.cells8 (Q17.out.box _ mq0)
 have Q26 := Lib.hid (Sf.row (pre := [(w11.heap.size, 28, [.int .i64 c11.s, .slice c11.a c11.n c11.c, .int .i64 1, .slice c11.b c11.m c11.d, .int .i64 d11.s, .slice d11.a d11.n d11.c, .int .i64 1, .slice d11.b d11.m d11.d])]) Q17.out [.int .i64 c11.s, .slice c11.a c11.n c11.c, .int .i64 1, .slice c11.b c11.m c11.d, .int .i64 d11.s, .slice d11.a d11.n d11.c, .int .i64 1, .slice d11.b d11.m d11.d])
 go_wp2_with (first | (refine wpList_store_row rfl _ _ _ rfl _ #[.int .i64 c11.s, .slice c11.a c11.n c11.c, .int .i64 1, .slice c11.b c11.m c11.d, .int .i64 d11.s, .slice d11.a d11.n d11.c, .int .i64 1, .slice d11.b d11.m d11.d] rfl rfl _ _ (P17.out.box _ List.mem_cons_self) (by kernel_rfl) rfl (by simp [Value.oneCell']) ?_; rw [HV17.out]) | refine wpList_store_row rfl _ _ _ rfl _ #[.int .i64 c11.s, .slice c11.a c11.n c11.c, .int .i64 1, .slice c11.b c11.m c11.d, .int .i64 d11.s, .slice d11.a d11.n d11.c, .int .i64 1, .slice d11.b d11.m d11.d] rfl rfl _ _ (Q17.out.box _ mq1) (by kernel_rfl) rfl (by simp [Value.oneCell']) ?_)
 clear q18 q19 q20 q21 q22 q23 q24 q25
 refine bodyPost_ret (ret_row rfl _ _ _ _ rfl (run_loadVar_row _ _ _ _ _ (0, 0) _ (Q26.out.box _ mq1) Tryz.underlying28 rfl (by kernel_rfl))) rfl ⟨c11, d11, rfl, (Q26.out.fr mq0 mq1 EC11.out), (Q26.out.fr mq2 mq3 ED11.out), Q26.out.below, HO11.out⟩

set_option maxHeartbeats 8000000 in
theorem play_zero {w : World} {s1 : Int} {a1 b1 : Option Addr} {n1 c1 m1 d1 : Nat} {x : Rat} {s2 : Int} {a2 b2 : Option Addr} {n2 c2 m2 d2 : Nat} {y : Rat} {s3 : Int} {a3 b3 : Option Addr} {n3 c3 m3 d3 : Nat} {p : Rat} {s4 : Int} {a4 b4 : Option Addr} {n4 c4 m4 d4 : Nat} {q : Rat} (h1 : Fr w s1 (.slice a1 n1 c1) (.slice b1 m1 d1) x) (z1 : FSz 400 x) (h2 : Fr w s2 (.slice a2 n2 c2) (.slice b2 m2 d2) y) (z2 : FSz 400 y) (h3 : Fr w s3 (.slice a3 n3 c3) (.slice b3 m3 d3) p) (z3 : FSz 400 p) (h4 : Fr w s4 (.slice a4 n4 c4) (.slice b4 m4 d4) q) (z4 : FSz 400 q) (hxy : x ≤ y) (hpq : p ≤ q) (h0 : In (p, q) 0) :
  Calls Tryz.prog 7 #[.int .i64 3, .agg #[.int .i64 s1, .slice a1 n1 c1, .int .i64 1, .slice b1 m1 d1, .int .i64 s2, .slice a2 n2 c2, .int .i64 1, .slice b2 m2 d2], .agg #[.int .i64 s3, .slice a3 n3 c3, .int .i64 1, .slice b3 m3 d3, .int .i64 s4, .slice a4 n4 c4, .int .i64 1, .slice b4 m4 d4]] w fun e w' => e = .returned (.tuple #[.agg #[.int .i64 0, .slice none 0 0, .int .i64 0, .slice none 0 0, .int .i64 0, .slice none 0 0, .int .i64 0, .slice none 0 0], .int .i64 15]) ∧ RowKit.Below w.heap.size w w' := by
 have HL := Lib.hid hxy
 have HH := Lib.hid hpq
 have H0 := Lib.hid h0
 have E1 := Lib.hid h1.1.1
 have Y1 := Lib.hid z1
 have E2 := Lib.hid h2.1.1
 have Y2 := Lib.hid z2
 have E3 := Lib.hid h3.1.1
 have Y3 := Lib.hid z3
 have E4 := Lib.hid h4.1.1
 have Y4 := Lib.hid z4
 have s0 := ((((((((((((Sf.start w).arg h1.2.2).arg h1.1.2).arg h2.2.2).arg h2.1.2).arg h3.2.2).arg h3.1.2).arg h4.2.2).arg h4.1.2).put [.int .i64 s1, .slice a1 n1 c1, .int .i64 1, .slice b1 m1 d1, .int .i64 s2, .slice a2 n2 c2, .int .i64 1, .slice b2 m2 d2] 28).put [.int .i64 s3, .slice a3 n3 c3, .int .i64 1, .slice b3 m3 d3, .int .i64 s4, .slice a4 n4 c4, .int .i64 1, .slice b4 m4 d4] 28).put [.int .i64 0, .slice none 0 0, .int .i64 0, .slice none 0 0, .int .i64 0, .slice none 0 0, .int .i64 0, .slice none 0 0] 28)
 try simp only [World.size_alloc] at s0
 have S0 := Lib.hid s0
 clear s0
 clear h1 h2 h3 h4 z1 z2 z3 z4 hxy hpq h0
 go_enter Tryz.func7, Tryz.ntmps7
 obtain ⟨q1, q2, q3, q4, q5, q6, q7, q8⟩ := Fb.cells8 (S0.out.box _ mq1)
 obtain ⟨q9, q10, q11, q12, q13, q14, q15, q16⟩ := Fb.cells8 (S0.out.box _ mq2)
 go_wp2_with fail
 clear q1 q2 q3 q4 q5 q6 q7 q8 q9 q10 q11 q12 q13 q14 q15 q16
 refine (p10div_zero (S0.out.fr mq6 mq7 E1.out) Y1.out (S0.out.fr mq4 mq5 E2.out) Y2.out (S0.out.fr mq2 mq3 E3.out) Y3.out (S0.out.fr mq0 mq1 E4.out) Y4.out HL.out HH.out H0.out).mono ?_
 rintro e w11 ⟨rfl, hb⟩
 have R11 := Lib.hid (S0.out.later hb)
 clear hb
 have P17 := Lib.hid (R11.out.put [.int .i64 0, .slice none 0 0, .int .i64 0, .slice none 0 0, .int .i64 0, .slice none 0 0, .int .i64 0, .slice none 0 0] 28)
 have Q17 := Lib.hid (Sf.row (pre := []) P17.out [.int .i64 0, .slice none 0 0, .int .i64 0, .slice none 0 0, .int .i64 0, .slice none 0 0, .int .i64 0, .slice none 0 0])
 obtain ⟨V17, hV17⟩ : ∃ V, ((w11.alloc (.cells #[.int .i64 0, .slice none 0 0, .int .i64 0, .slice none 0 0, .int .i64 0, .slice none 0 0, .int .i64 0, .slice none 0 0] 28)).setRow w11.heap.size #[.int .i64 0, .slice none 0 0, .int .i64 0, .slice none 0 0, .int .i64 0, .slice none 0 0, .int .i64 0, .slice none 0 0]) = V := ⟨_, rfl⟩
 rw [hV17] at Q17
 have HV17 := Lib.hid hV17
 clear hV17 R11
 obtain ⟨q18, q19, q20, q21, q22, q23, q24, q25⟩ := Fb.cells8 (Q17.out.box _ mq0)
 have Q26 := Lib.hid (Sf.row (pre := [(w11.heap.size, 28, [.int .i64 0, .slice none 0 0, .int .i64 0, .slice none 0 0, .int .i64 0, .slice none 0 0, .int .i64 0, .slice none 0 0])]) Q17.out [.int .i64 0, .slice none 0 0, .int .i64 0, .slice none 0 0, .int .i64 0, .slice none 0 0, .int .i64 0, .slice none 0 0])
 go_wp2_with (first | (refine wpList_store_row rfl _ _ _ rfl _ #[.int .i64 0, .slice none 0 0, .int .i64 0, .slice none 0 0, .int .i64 0, .slice none 0 0, .int .i64 0, .slice none 0 0] rfl rfl _ _ (P17.out.box _ List.mem_cons_self) (by kernel_rfl) rfl (by simp [Value.oneCell']) ?_; rw [HV17.out]) | refine wpList_store_row rfl _ _ _ rfl _ #[.int .i64 0, .slice none 0 0, .int .i64 0, .slice none 0 0, .int .i64 0, .slice none 0 0, .int .i64 0, .slice none 0 0] rfl rfl _ _ (Q17.out.box _ mq1) (by kernel_rfl) rfl (by simp [Value.oneCell']) ?_)
 clear q18 q19 q20 q21 q22 q23 q24 q25
 refine bodyPost_ret (ret_row rfl _ _ _ _ rfl (run_loadVar_row _ _ _ _ _ (0, 0) _ (Q26.out.box _ mq1) Tryz.underlying28 rfl (by kernel_rfl))) rfl ⟨rfl, Q26.out.below⟩

set_option maxHeartbeats 8000000 in
theorem play_add_bad {w : World} {s1 t1 : Int} {a1 b1 : Option Addr} {n1 c1 m1 d1 : Nat} {l1 k1 : List Int} {s2 t2 : Int} {a2 b2 : Option Addr} {n2 c2 m2 d2 : Nat} {l2 k2 : List Int} {s3 t3 : Int} {a3 b3 : Option Addr} {n3 c3 m3 d3 : Nat} {l3 k3 : List Int} {s4 t4 : Int} {a4 b4 : Option Addr} {n4 c4 m4 d4 : Nat} {l4 k4 : List Int} (hl1 : Ints w (.slice a1 n1 c1) l1) (hk1 : Ints w (.slice b1 m1 d1) k1) (ll1 : l1.length ≤ 1000) (lk1 : k1.length ≤ 1000) (hl2 : Ints w (.slice a2 n2 c2) l2) (hk2 : Ints w (.slice b2 m2 d2) k2) (ll2 : l2.length ≤ 1000) (lk2 : k2.length ≤ 1000) (hl3 : Ints w (.slice a3 n3 c3) l3) (hk3 : Ints w (.slice b3 m3 d3) k3) (ll3 : l3.length ≤ 1000) (lk3 : k3.length ≤ 1000) (hl4 : Ints w (.slice a4 n4 c4) l4) (hk4 : Ints w (.slice b4 m4 d4) k4) (ll4 : l4.length ≤ 1000) (lk4 : k4.length ≤ 1000) (hr : (sR s1 l1 t1 k1 s2 l2 t2 k2 && sR s3 l3 t3 k3 s4 l4 t4 k4) = false) :
  Calls Tryz.prog 7 #[.int .i64 0, .agg #[.int .i64 s1, .slice a1 n1 c1, .int .i64 t1, .slice b1 m1 d1, .int .i64 s2, .slice a2 n2 c2, .int .i64 t2, .slice b2 m2 d2], .agg #[.int .i64 s3, .slice a3 n3 c3, .int .i64 t3, .slice b3 m3 d3, .int .i64 s4, .slice a4 n4 c4, .int .i64 t4, .slice b4 m4 d4]] w fun e w' => e = .returned (.tuple #[.agg #[.int .i64 0, .slice none 0 0, .int .i64 0, .slice none 0 0, .int .i64 0, .slice none 0 0, .int .i64 0, .slice none 0 0], .int .i64 1]) ∧ RowKit.Below w.heap.size w w' := by
 have LL1 := Lib.hid ll1
 have LK1 := Lib.hid lk1
 have LL2 := Lib.hid ll2
 have LK2 := Lib.hid lk2
 have LL3 := Lib.hid ll3
 have LK3 := Lib.hid lk3
 have LL4 := Lib.hid ll4
 have LK4 := Lib.hid lk4
 have EA := Lib.hid hr
 have s0 := ((((((((((((Sf.start w).arg hk1).arg hl1).arg hk2).arg hl2).arg hk3).arg hl3).arg hk4).arg hl4).put [.int .i64 s1, .slice a1 n1 c1, .int .i64 t1, .slice b1 m1 d1, .int .i64 s2, .slice a2 n2 c2, .int .i64 t2, .slice b2 m2 d2] 28).put [.int .i64 s3, .slice a3 n3 c3, .int .i64 t3, .slice b3 m3 d3, .int .i64 s4, .slice a4 n4 c4, .int .i64 t4, .slice b4 m4 d4] 28).put [.int .i64 0, .slice none 0 0, .int .i64 0, .slice none 0 0, .int .i64 0, .slice none 0 0, .int .i64 0, .slice none 0 0] 28)
 try simp only [World.size_alloc] at s0
 have S0 := Lib.hid s0
 clear s0
 clear hr hl1 hk1 ll1 lk1 hl2 hk2 ll2 lk2 hl3 hk3 ll3 lk3 hl4 hk4 ll4 lk4
 go_enter Tryz.func7, Tryz.ntmps7
 obtain ⟨q1, q2, q3, q4, q5, q6, q7, q8⟩ := Fb.cells8 (S0.out.box _ mq1)
 obtain ⟨q9, q10, q11, q12, q13, q14, q15, q16⟩ := Fb.cells8 (S0.out.box _ mq2)
 go_wp2_with fail
 clear q1 q2 q3 q4 q5 q6 q7 q8 q9 q10 q11 q12 q13 q14 q15 q16
 refine (p10add_bad (S0.out.ints (.slice a1 n1 c1, l1) mq6) (S0.out.ints (.slice b1 m1 d1, k1) mq7) LL1.out LK1.out (S0.out.ints (.slice a2 n2 c2, l2) mq4) (S0.out.ints (.slice b2 m2 d2, k2) mq5) LL2.out LK2.out (S0.out.ints (.slice a3 n3 c3, l3) mq2) (S0.out.ints (.slice b3 m3 d3, k3) mq3) LL3.out LK3.out (S0.out.ints (.slice a4 n4 c4, l4) mq0) (S0.out.ints (.slice b4 m4 d4, k4) mq1) LL4.out LK4.out EA.out).mono ?_
 rintro e w11 ⟨rfl, hb⟩
 have R11 := Lib.hid (S0.out.later hb)
 clear hb
 have P17 := Lib.hid (R11.out.put [.int .i64 0, .slice none 0 0, .int .i64 0, .slice none 0 0, .int .i64 0, .slice none 0 0, .int .i64 0, .slice none 0 0] 28)
 have Q17 := Lib.hid (Sf.row (pre := []) P17.out [.int .i64 0, .slice none 0 0, .int .i64 0, .slice none 0 0, .int .i64 0, .slice none 0 0, .int .i64 0, .slice none 0 0])
 obtain ⟨V17, hV17⟩ : ∃ V, ((w11.alloc (.cells #[.int .i64 0, .slice none 0 0, .int .i64 0, .slice none 0 0, .int .i64 0, .slice none 0 0, .int .i64 0, .slice none 0 0] 28)).setRow w11.heap.size #[.int .i64 0, .slice none 0 0, .int .i64 0, .slice none 0 0, .int .i64 0, .slice none 0 0, .int .i64 0, .slice none 0 0]) = V := ⟨_, rfl⟩
 rw [hV17] at Q17
 have HV17 := Lib.hid hV17
 clear hV17 R11
 obtain ⟨q18, q19, q20, q21, q22, q23, q24, q25⟩ := Fb.cells8 (Q17.out.box _ mq0)
 have Q26 := Lib.hid (Sf.row (pre := [(w11.heap.size, 28, [.int .i64 0, .slice none 0 0, .int .i64 0, .slice none 0 0, .int .i64 0, .slice none 0 0, .int .i64 0, .slice none 0 0])]) Q17.out [.int .i64 0, .slice none 0 0, .int .i64 0, .slice none 0 0, .int .i64 0, .slice none 0 0, .int .i64 0, .slice none 0 0])
 go_wp2_with (first | (refine wpList_store_row rfl _ _ _ rfl _ #[.int .i64 0, .slice none 0 0, .int .i64 0, .slice none 0 0, .int .i64 0, .slice none 0 0, .int .i64 0, .slice none 0 0] rfl rfl _ _ (P17.out.box _ List.mem_cons_self) (by kernel_rfl) rfl (by simp [Value.oneCell']) ?_; rw [HV17.out]) | refine wpList_store_row rfl _ _ _ rfl _ #[.int .i64 0, .slice none 0 0, .int .i64 0, .slice none 0 0, .int .i64 0, .slice none 0 0, .int .i64 0, .slice none 0 0] rfl rfl _ _ (Q17.out.box _ mq1) (by kernel_rfl) rfl (by simp [Value.oneCell']) ?_)
 clear q18 q19 q20 q21 q22 q23 q24 q25
 refine bodyPost_ret (ret_row rfl _ _ _ _ rfl (run_loadVar_row _ _ _ _ _ (0, 0) _ (Q26.out.box _ mq1) Tryz.underlying28 rfl (by kernel_rfl))) rfl ⟨rfl, Q26.out.below⟩

set_option maxHeartbeats 8000000 in
theorem play_sub_bad {w : World} {s1 t1 : Int} {a1 b1 : Option Addr} {n1 c1 m1 d1 : Nat} {l1 k1 : List Int} {s2 t2 : Int} {a2 b2 : Option Addr} {n2 c2 m2 d2 : Nat} {l2 k2 : List Int} {s3 t3 : Int} {a3 b3 : Option Addr} {n3 c3 m3 d3 : Nat} {l3 k3 : List Int} {s4 t4 : Int} {a4 b4 : Option Addr} {n4 c4 m4 d4 : Nat} {l4 k4 : List Int} (hl1 : Ints w (.slice a1 n1 c1) l1) (hk1 : Ints w (.slice b1 m1 d1) k1) (ll1 : l1.length ≤ 1000) (lk1 : k1.length ≤ 1000) (hl2 : Ints w (.slice a2 n2 c2) l2) (hk2 : Ints w (.slice b2 m2 d2) k2) (ll2 : l2.length ≤ 1000) (lk2 : k2.length ≤ 1000) (hl3 : Ints w (.slice a3 n3 c3) l3) (hk3 : Ints w (.slice b3 m3 d3) k3) (ll3 : l3.length ≤ 1000) (lk3 : k3.length ≤ 1000) (hl4 : Ints w (.slice a4 n4 c4) l4) (hk4 : Ints w (.slice b4 m4 d4) k4) (ll4 : l4.length ≤ 1000) (lk4 : k4.length ≤ 1000) (hr : (sR s1 l1 t1 k1 s2 l2 t2 k2 && sR s3 l3 t3 k3 s4 l4 t4 k4) = false) :
  Calls Tryz.prog 7 #[.int .i64 1, .agg #[.int .i64 s1, .slice a1 n1 c1, .int .i64 t1, .slice b1 m1 d1, .int .i64 s2, .slice a2 n2 c2, .int .i64 t2, .slice b2 m2 d2], .agg #[.int .i64 s3, .slice a3 n3 c3, .int .i64 t3, .slice b3 m3 d3, .int .i64 s4, .slice a4 n4 c4, .int .i64 t4, .slice b4 m4 d4]] w fun e w' => e = .returned (.tuple #[.agg #[.int .i64 0, .slice none 0 0, .int .i64 0, .slice none 0 0, .int .i64 0, .slice none 0 0, .int .i64 0, .slice none 0 0], .int .i64 1]) ∧ RowKit.Below w.heap.size w w' := by
 have LL1 := Lib.hid ll1
 have LK1 := Lib.hid lk1
 have LL2 := Lib.hid ll2
 have LK2 := Lib.hid lk2
 have LL3 := Lib.hid ll3
 have LK3 := Lib.hid lk3
 have LL4 := Lib.hid ll4
 have LK4 := Lib.hid lk4
 have EA := Lib.hid hr
 have s0 := ((((((((((((Sf.start w).arg hk1).arg hl1).arg hk2).arg hl2).arg hk3).arg hl3).arg hk4).arg hl4).put [.int .i64 s1, .slice a1 n1 c1, .int .i64 t1, .slice b1 m1 d1, .int .i64 s2, .slice a2 n2 c2, .int .i64 t2, .slice b2 m2 d2] 28).put [.int .i64 s3, .slice a3 n3 c3, .int .i64 t3, .slice b3 m3 d3, .int .i64 s4, .slice a4 n4 c4, .int .i64 t4, .slice b4 m4 d4] 28).put [.int .i64 0, .slice none 0 0, .int .i64 0, .slice none 0 0, .int .i64 0, .slice none 0 0, .int .i64 0, .slice none 0 0] 28)
 try simp only [World.size_alloc] at s0
 have S0 := Lib.hid s0
 clear s0
 clear hr hl1 hk1 ll1 lk1 hl2 hk2 ll2 lk2 hl3 hk3 ll3 lk3 hl4 hk4 ll4 lk4
 go_enter Tryz.func7, Tryz.ntmps7
 obtain ⟨q1, q2, q3, q4, q5, q6, q7, q8⟩ := Fb.cells8 (S0.out.box _ mq1)
 obtain ⟨q9, q10, q11, q12, q13, q14, q15, q16⟩ := Fb.cells8 (S0.out.box _ mq2)
 go_wp2_with fail
 clear q1 q2 q3 q4 q5 q6 q7 q8 q9 q10 q11 q12 q13 q14 q15 q16
 refine (p10sub_bad (S0.out.ints (.slice a1 n1 c1, l1) mq6) (S0.out.ints (.slice b1 m1 d1, k1) mq7) LL1.out LK1.out (S0.out.ints (.slice a2 n2 c2, l2) mq4) (S0.out.ints (.slice b2 m2 d2, k2) mq5) LL2.out LK2.out (S0.out.ints (.slice a3 n3 c3, l3) mq2) (S0.out.ints (.slice b3 m3 d3, k3) mq3) LL3.out LK3.out (S0.out.ints (.slice a4 n4 c4, l4) mq0) (S0.out.ints (.slice b4 m4 d4, k4) mq1) LL4.out LK4.out EA.out).mono ?_
 rintro e w11 ⟨rfl, hb⟩
 have R11 := Lib.hid (S0.out.later hb)
 clear hb
 have P17 := Lib.hid (R11.out.put [.int .i64 0, .slice none 0 0, .int .i64 0, .slice none 0 0, .int .i64 0, .slice none 0 0, .int .i64 0, .slice none 0 0] 28)
 have Q17 := Lib.hid (Sf.row (pre := []) P17.out [.int .i64 0, .slice none 0 0, .int .i64 0, .slice none 0 0, .int .i64 0, .slice none 0 0, .int .i64 0, .slice none 0 0])
 obtain ⟨V17, hV17⟩ : ∃ V, ((w11.alloc (.cells #[.int .i64 0, .slice none 0 0, .int .i64 0, .slice none 0 0, .int .i64 0, .slice none 0 0, .int .i64 0, .slice none 0 0] 28)).setRow w11.heap.size #[.int .i64 0, .slice none 0 0, .int .i64 0, .slice none 0 0, .int .i64 0, .slice none 0 0, .int .i64 0, .slice none 0 0]) = V := ⟨_, rfl⟩
 rw [hV17] at Q17
 have HV17 := Lib.hid hV17
 clear hV17 R11
 obtain ⟨q18, q19, q20, q21, q22, q23, q24, q25⟩ := Fb.cells8 (Q17.out.box _ mq0)
 have Q26 := Lib.hid (Sf.row (pre := [(w11.heap.size, 28, [.int .i64 0, .slice none 0 0, .int .i64 0, .slice none 0 0, .int .i64 0, .slice none 0 0, .int .i64 0, .slice none 0 0])]) Q17.out [.int .i64 0, .slice none 0 0, .int .i64 0, .slice none 0 0, .int .i64 0, .slice none 0 0, .int .i64 0, .slice none 0 0])
 go_wp2_with (first | (refine wpList_store_row rfl _ _ _ rfl _ #[.int .i64 0, .slice none 0 0, .int .i64 0, .slice none 0 0, .int .i64 0, .slice none 0 0, .int .i64 0, .slice none 0 0] rfl rfl _ _ (P17.out.box _ List.mem_cons_self) (by kernel_rfl) rfl (by simp [Value.oneCell']) ?_; rw [HV17.out]) | refine wpList_store_row rfl _ _ _ rfl _ #[.int .i64 0, .slice none 0 0, .int .i64 0, .slice none 0 0, .int .i64 0, .slice none 0 0, .int .i64 0, .slice none 0 0] rfl rfl _ _ (Q17.out.box _ mq1) (by kernel_rfl) rfl (by simp [Value.oneCell']) ?_)
 clear q18 q19 q20 q21 q22 q23 q24 q25
 refine bodyPost_ret (ret_row rfl _ _ _ _ rfl (run_loadVar_row _ _ _ _ _ (0, 0) _ (Q26.out.box _ mq1) Tryz.underlying28 rfl (by kernel_rfl))) rfl ⟨rfl, Q26.out.below⟩

set_option maxHeartbeats 8000000 in
theorem play_mul_bad {w : World} {s1 t1 : Int} {a1 b1 : Option Addr} {n1 c1 m1 d1 : Nat} {l1 k1 : List Int} {s2 t2 : Int} {a2 b2 : Option Addr} {n2 c2 m2 d2 : Nat} {l2 k2 : List Int} {s3 t3 : Int} {a3 b3 : Option Addr} {n3 c3 m3 d3 : Nat} {l3 k3 : List Int} {s4 t4 : Int} {a4 b4 : Option Addr} {n4 c4 m4 d4 : Nat} {l4 k4 : List Int} (hl1 : Ints w (.slice a1 n1 c1) l1) (hk1 : Ints w (.slice b1 m1 d1) k1) (ll1 : l1.length ≤ 1000) (lk1 : k1.length ≤ 1000) (hl2 : Ints w (.slice a2 n2 c2) l2) (hk2 : Ints w (.slice b2 m2 d2) k2) (ll2 : l2.length ≤ 1000) (lk2 : k2.length ≤ 1000) (hl3 : Ints w (.slice a3 n3 c3) l3) (hk3 : Ints w (.slice b3 m3 d3) k3) (ll3 : l3.length ≤ 1000) (lk3 : k3.length ≤ 1000) (hl4 : Ints w (.slice a4 n4 c4) l4) (hk4 : Ints w (.slice b4 m4 d4) k4) (ll4 : l4.length ≤ 1000) (lk4 : k4.length ≤ 1000) (hr : (sR s1 l1 t1 k1 s2 l2 t2 k2 && sR s3 l3 t3 k3 s4 l4 t4 k4) = false) :
  Calls Tryz.prog 7 #[.int .i64 2, .agg #[.int .i64 s1, .slice a1 n1 c1, .int .i64 t1, .slice b1 m1 d1, .int .i64 s2, .slice a2 n2 c2, .int .i64 t2, .slice b2 m2 d2], .agg #[.int .i64 s3, .slice a3 n3 c3, .int .i64 t3, .slice b3 m3 d3, .int .i64 s4, .slice a4 n4 c4, .int .i64 t4, .slice b4 m4 d4]] w fun e w' => e = .returned (.tuple #[.agg #[.int .i64 0, .slice none 0 0, .int .i64 0, .slice none 0 0, .int .i64 0, .slice none 0 0, .int .i64 0, .slice none 0 0], .int .i64 1]) ∧ RowKit.Below w.heap.size w w' := by
 have LL1 := Lib.hid ll1
 have LK1 := Lib.hid lk1
 have LL2 := Lib.hid ll2
 have LK2 := Lib.hid lk2
 have LL3 := Lib.hid ll3
 have LK3 := Lib.hid lk3
 have LL4 := Lib.hid ll4
 have LK4 := Lib.hid lk4
 have EA := Lib.hid hr
 have s0 := ((((((((((((Sf.start w).arg hk1).arg hl1).arg hk2).arg hl2).arg hk3).arg hl3).arg hk4).arg hl4).put [.int .i64 s1, .slice a1 n1 c1, .int .i64 t1, .slice b1 m1 d1, .int .i64 s2, .slice a2 n2 c2, .int .i64 t2, .slice b2 m2 d2] 28).put [.int .i64 s3, .slice a3 n3 c3, .int .i64 t3, .slice b3 m3 d3, .int .i64 s4, .slice a4 n4 c4, .int .i64 t4, .slice b4 m4 d4] 28).put [.int .i64 0, .slice none 0 0, .int .i64 0, .slice none 0 0, .int .i64 0, .slice none 0 0, .int .i64 0, .slice none 0 0] 28)
 try simp only [World.size_alloc] at s0
 have S0 := Lib.hid s0
 clear s0
 clear hr hl1 hk1 ll1 lk1 hl2 hk2 ll2 lk2 hl3 hk3 ll3 lk3 hl4 hk4 ll4 lk4
 go_enter Tryz.func7, Tryz.ntmps7
 obtain ⟨q1, q2, q3, q4, q5, q6, q7, q8⟩ := Fb.cells8 (S0.out.box _ mq1)
 obtain ⟨q9, q10, q11, q12, q13, q14, q15, q16⟩ := Fb.cells8 (S0.out.box _ mq2)
 go_wp2_with fail
 clear q1 q2 q3 q4 q5 q6 q7 q8 q9 q10 q11 q12 q13 q14 q15 q16
 refine (p10mul_bad (S0.out.ints (.slice a1 n1 c1, l1) mq6) (S0.out.ints (.slice b1 m1 d1, k1) mq7) LL1.out LK1.out (S0.out.ints (.slice a2 n2 c2, l2) mq4) (S0.out.ints (.slice b2 m2 d2, k2) mq5) LL2.out LK2.out (S0.out.ints (.slice a3 n3 c3, l3) mq2) (S0.out.ints (.slice b3 m3 d3, k3) mq3) LL3.out LK3.out (S0.out.ints (.slice a4 n4 c4, l4) mq0) (S0.out.ints (.slice b4 m4 d4, k4) mq1) LL4.out LK4.out EA.out).mono ?_
 rintro e w11 ⟨rfl, hb⟩
 have R11 := Lib.hid (S0.out.later hb)
 clear hb
 have P17 := Lib.hid (R11.out.put [.int .i64 0, .slice none 0 0, .int .i64 0, .slice none 0 0, .int .i64 0, .slice none 0 0, .int .i64 0, .slice none 0 0] 28)
 have Q17 := Lib.hid (Sf.row (pre := []) P17.out [.int .i64 0, .slice none 0 0, .int .i64 0, .slice none 0 0, .int .i64 0, .slice none 0 0, .int .i64 0, .slice none 0 0])
 obtain ⟨V17, hV17⟩ : ∃ V, ((w11.alloc (.cells #[.int .i64 0, .slice none 0 0, .int .i64 0, .slice none 0 0, .int .i64 0, .slice none 0 0, .int .i64 0, .slice none 0 0] 28)).setRow w11.heap.size #[.int .i64 0, .slice none 0 0, .int .i64 0, .slice none 0 0, .int .i64 0, .slice none 0 0, .int .i64 0, .slice none 0 0]) = V := ⟨_, rfl⟩
 rw [hV17] at Q17
 have HV17 := Lib.hid hV17
 clear hV17 R11
 obtain ⟨q18, q19, q20, q21, q22, q23, q24, q25⟩ := Fb.cells8 (Q17.out.box _ mq0)
 have Q26 := Lib.hid (Sf.row (pre := [(w11.heap.size, 28, [.int .i64 0, .slice none 0 0, .int .i64 0, .slice none 0 0, .int .i64 0, .slice none 0 0, .int .i64 0, .slice none 0 0])]) Q17.out [.int .i64 0, .slice none 0 0, .int .i64 0, .slice none 0 0, .int .i64 0, .slice none 0 0, .int .i64 0, .slice none 0 0])
 go_wp2_with (first | (refine wpList_store_row rfl _ _ _ rfl _ #[.int .i64 0, .slice none 0 0, .int .i64 0, .slice none 0 0, .int .i64 0, .slice none 0 0, .int .i64 0, .slice none 0 0] rfl rfl _ _ (P17.out.box _ List.mem_cons_self) (by kernel_rfl) rfl (by simp [Value.oneCell']) ?_; rw [HV17.out]) | refine wpList_store_row rfl _ _ _ rfl _ #[.int .i64 0, .slice none 0 0, .int .i64 0, .slice none 0 0, .int .i64 0, .slice none 0 0, .int .i64 0, .slice none 0 0] rfl rfl _ _ (Q17.out.box _ mq1) (by kernel_rfl) rfl (by simp [Value.oneCell']) ?_)
 clear q18 q19 q20 q21 q22 q23 q24 q25
 refine bodyPost_ret (ret_row rfl _ _ _ _ rfl (run_loadVar_row _ _ _ _ _ (0, 0) _ (Q26.out.box _ mq1) Tryz.underlying28 rfl (by kernel_rfl))) rfl ⟨rfl, Q26.out.below⟩

set_option maxHeartbeats 8000000 in
theorem play_div_bad {w : World} {s1 t1 : Int} {a1 b1 : Option Addr} {n1 c1 m1 d1 : Nat} {l1 k1 : List Int} {s2 t2 : Int} {a2 b2 : Option Addr} {n2 c2 m2 d2 : Nat} {l2 k2 : List Int} {s3 t3 : Int} {a3 b3 : Option Addr} {n3 c3 m3 d3 : Nat} {l3 k3 : List Int} {s4 t4 : Int} {a4 b4 : Option Addr} {n4 c4 m4 d4 : Nat} {l4 k4 : List Int} (hl1 : Ints w (.slice a1 n1 c1) l1) (hk1 : Ints w (.slice b1 m1 d1) k1) (ll1 : l1.length ≤ 1000) (lk1 : k1.length ≤ 1000) (hl2 : Ints w (.slice a2 n2 c2) l2) (hk2 : Ints w (.slice b2 m2 d2) k2) (ll2 : l2.length ≤ 1000) (lk2 : k2.length ≤ 1000) (hl3 : Ints w (.slice a3 n3 c3) l3) (hk3 : Ints w (.slice b3 m3 d3) k3) (ll3 : l3.length ≤ 1000) (lk3 : k3.length ≤ 1000) (hl4 : Ints w (.slice a4 n4 c4) l4) (hk4 : Ints w (.slice b4 m4 d4) k4) (ll4 : l4.length ≤ 1000) (lk4 : k4.length ≤ 1000) (hr : (sR s1 l1 t1 k1 s2 l2 t2 k2 && sR s3 l3 t3 k3 s4 l4 t4 k4) = false) :
  Calls Tryz.prog 7 #[.int .i64 3, .agg #[.int .i64 s1, .slice a1 n1 c1, .int .i64 t1, .slice b1 m1 d1, .int .i64 s2, .slice a2 n2 c2, .int .i64 t2, .slice b2 m2 d2], .agg #[.int .i64 s3, .slice a3 n3 c3, .int .i64 t3, .slice b3 m3 d3, .int .i64 s4, .slice a4 n4 c4, .int .i64 t4, .slice b4 m4 d4]] w fun e w' => e = .returned (.tuple #[.agg #[.int .i64 0, .slice none 0 0, .int .i64 0, .slice none 0 0, .int .i64 0, .slice none 0 0, .int .i64 0, .slice none 0 0], .int .i64 1]) ∧ RowKit.Below w.heap.size w w' := by
 have LL1 := Lib.hid ll1
 have LK1 := Lib.hid lk1
 have LL2 := Lib.hid ll2
 have LK2 := Lib.hid lk2
 have LL3 := Lib.hid ll3
 have LK3 := Lib.hid lk3
 have LL4 := Lib.hid ll4
 have LK4 := Lib.hid lk4
 have EA := Lib.hid hr
 have s0 := ((((((((((((Sf.start w).arg hk1).arg hl1).arg hk2).arg hl2).arg hk3).arg hl3).arg hk4).arg hl4).put [.int .i64 s1, .slice a1 n1 c1, .int .i64 t1, .slice b1 m1 d1, .int .i64 s2, .slice a2 n2 c2, .int .i64 t2, .slice b2 m2 d2] 28).put [.int .i64 s3, .slice a3 n3 c3, .int .i64 t3, .slice b3 m3 d3, .int .i64 s4, .slice a4 n4 c4, .int .i64 t4, .slice b4 m4 d4] 28).put [.int .i64 0, .slice none 0 0, .int .i64 0, .slice none 0 0, .int .i64 0, .slice none 0 0, .int .i64 0, .slice none 0 0] 28)
 try simp only [World.size_alloc] at s0
 have S0 := Lib.hid s0
 clear s0
 clear hr hl1 hk1 ll1 lk1 hl2 hk2 ll2 lk2 hl3 hk3 ll3 lk3 hl4 hk4 ll4 lk4
 go_enter Tryz.func7, Tryz.ntmps7
 obtain ⟨q1, q2, q3, q4, q5, q6, q7, q8⟩ := Fb.cells8 (S0.out.box _ mq1)
 obtain ⟨q9, q10, q11, q12, q13, q14, q15, q16⟩ := Fb.cells8 (S0.out.box _ mq2)
 go_wp2_with fail
 clear q1 q2 q3 q4 q5 q6 q7 q8 q9 q10 q11 q12 q13 q14 q15 q16
 refine (p10div_bad (S0.out.ints (.slice a1 n1 c1, l1) mq6) (S0.out.ints (.slice b1 m1 d1, k1) mq7) LL1.out LK1.out (S0.out.ints (.slice a2 n2 c2, l2) mq4) (S0.out.ints (.slice b2 m2 d2, k2) mq5) LL2.out LK2.out (S0.out.ints (.slice a3 n3 c3, l3) mq2) (S0.out.ints (.slice b3 m3 d3, k3) mq3) LL3.out LK3.out (S0.out.ints (.slice a4 n4 c4, l4) mq0) (S0.out.ints (.slice b4 m4 d4, k4) mq1) LL4.out LK4.out EA.out).mono ?_
 rintro e w11 ⟨rfl, hb⟩
 have R11 := Lib.hid (S0.out.later hb)
 clear hb
 have P17 := Lib.hid (R11.out.put [.int .i64 0, .slice none 0 0, .int .i64 0, .slice none 0 0, .int .i64 0, .slice none 0 0, .int .i64 0, .slice none 0 0] 28)
 have Q17 := Lib.hid (Sf.row (pre := []) P17.out [.int .i64 0, .slice none 0 0, .int .i64 0, .slice none 0 0, .int .i64 0, .slice none 0 0, .int .i64 0, .slice none 0 0])
 obtain ⟨V17, hV17⟩ : ∃ V, ((w11.alloc (.cells #[.int .i64 0, .slice none 0 0, .int .i64 0, .slice none 0 0, .int .i64 0, .slice none 0 0, .int .i64 0, .slice none 0 0] 28)).setRow w11.heap.size #[.int .i64 0, .slice none 0 0, .int .i64 0, .slice none 0 0, .int .i64 0, .slice none 0 0, .int .i64 0, .slice none 0 0]) = V := ⟨_, rfl⟩
 rw [hV17] at Q17
 have HV17 := Lib.hid hV17
 clear hV17 R11
 obtain ⟨q18, q19, q20, q21, q22, q23, q24, q25⟩ := Fb.cells8 (Q17.out.box _ mq0)
 have Q26 := Lib.hid (Sf.row (pre := [(w11.heap.size, 28, [.int .i64 0, .slice none 0 0, .int .i64 0, .slice none 0 0, .int .i64 0, .slice none 0 0, .int .i64 0, .slice none 0 0])]) Q17.out [.int .i64 0, .slice none 0 0, .int .i64 0, .slice none 0 0, .int .i64 0, .slice none 0 0, .int .i64 0, .slice none 0 0])
 go_wp2_with (first | (refine wpList_store_row rfl _ _ _ rfl _ #[.int .i64 0, .slice none 0 0, .int .i64 0, .slice none 0 0, .int .i64 0, .slice none 0 0, .int .i64 0, .slice none 0 0] rfl rfl _ _ (P17.out.box _ List.mem_cons_self) (by kernel_rfl) rfl (by simp [Value.oneCell']) ?_; rw [HV17.out]) | refine wpList_store_row rfl _ _ _ rfl _ #[.int .i64 0, .slice none 0 0, .int .i64 0, .slice none 0 0, .int .i64 0, .slice none 0 0, .int .i64 0, .slice none 0 0] rfl rfl _ _ (Q17.out.box _ mq1) (by kernel_rfl) rfl (by simp [Value.oneCell']) ?_)
 clear q18 q19 q20 q21 q22 q23 q24 q25
 refine bodyPost_ret (ret_row rfl _ _ _ _ rfl (run_loadVar_row _ _ _ _ _ (0, 0) _ (Q26.out.box _ mq1) Tryz.underlying28 rfl (by kernel_rfl))) rfl ⟨rfl, Q26.out.below⟩

set_option maxHeartbeats 8000000 in
theorem play_min_bad {w : World} {s1 t1 : Int} {a1 b1 : Option Addr} {n1 c1 m1 d1 : Nat} {l1 k1 : List Int} {s2 t2 : Int} {a2 b2 : Option Addr} {n2 c2 m2 d2 : Nat} {l2 k2 : List Int} {s3 t3 : Int} {a3 b3 : Option Addr} {n3 c3 m3 d3 : Nat} {l3 k3 : List Int} {s4 t4 : Int} {a4 b4 : Option Addr} {n4 c4 m4 d4 : Nat} {l4 k4 : List Int} (hl1 : Ints w (.slice a1 n1 c1) l1) (hk1 : Ints w (.slice b1 m1 d1) k1) (ll1 : l1.length ≤ 1000) (lk1 : k1.length ≤ 1000) (hl2 : Ints w (.slice a2 n2 c2) l2) (hk2 : Ints w (.slice b2 m2 d2) k2) (ll2 : l2.length ≤ 1000) (lk2 : k2.length ≤ 1000) (hl3 : Ints w (.slice a3 n3 c3) l3) (hk3 : Ints w (.slice b3 m3 d3) k3) (ll3 : l3.length ≤ 1000) (lk3 : k3.length ≤ 1000) (hl4 : Ints w (.slice a4 n4 c4) l4) (hk4 : Ints w (.slice b4 m4 d4) k4) (ll4 : l4.length ≤ 1000) (lk4 : k4.length ≤ 1000) (hr : (sR s1 l1 t1 k1 s2 l2 t2 k2 && sR s3 l3 t3 k3 s4 l4 t4 k4) = false) :
  Calls Tryz.prog 7 #[.int .i64 4, .agg #[.int .i64 s1, .slice a1 n1 c1, .int .i64 t1, .slice b1 m1 d1, .int .i64 s2, .slice a2 n2 c2, .int .i64 t2, .slice b2 m2 d2], .agg #[.int .i64 s3, .slice a3 n3 c3, .int .i64 t3, .slice b3 m3 d3, .int .i64 s4, .slice a4 n4 c4, .int .i64 t4, .slice b4 m4 d4]] w fun e w' => e = .returned (.tuple #[.agg #[.int .i64 0, .slice none 0 0, .int .i64 0, .slice none 0 0, .int .i64 0, .slice none 0 0, .int .i64 0, .slice none 0 0], .int .i64 1]) ∧ RowKit.Below w.heap.size w w' := by
 have LL1 := Lib.hid ll1
 have LK1 := Lib.hid lk1
 have LL2 := Lib.hid ll2
 have LK2 := Lib.hid lk2
 have LL3 := Lib.hid ll3
 have LK3 := Lib.hid lk3
 have LL4 := Lib.hid ll4
 have LK4 := Lib.hid lk4
 have EA := Lib.hid hr
 have s0 := ((((((((((((Sf.start w).arg hk1).arg hl1).arg hk2).arg hl2).arg hk3).arg hl3).arg hk4).arg hl4).put [.int .i64 s1, .slice a1 n1 c1, .int .i64 t1, .slice b1 m1 d1, .int .i64 s2, .slice a2 n2 c2, .int .i64 t2, .slice b2 m2 d2] 28).put [.int .i64 s3, .slice a3 n3 c3, .int .i64 t3, .slice b3 m3 d3, .int .i64 s4, .slice a4 n4 c4, .int .i64 t4, .slice b4 m4 d4] 28).put [.int .i64 0, .slice none 0 0, .int .i64 0, .slice none 0 0, .int .i64 0, .slice none 0 0, .int .i64 0, .slice none 0 0] 28)
 try simp only [World.size_alloc] at s0
 have S0 := Lib.hid s0
 clear s0
 clear hr hl1 hk1 ll1 lk1 hl2 hk2 ll2 lk2 hl3 hk3 ll3 lk3 hl4 hk4 ll4 lk4
 go_enter Tryz.func7, Tryz.ntmps7
 obtain ⟨q1, q2, q3, q4, q5, q6, q7, q8⟩ := Fb.cells8 (S0.out.box _ mq1)
 obtain ⟨q9, q10, q11, q12, q13, q14, q15, q16⟩ := Fb.cells8 (S0.out.box _ mq2)
 go_wp2_with fail
 clear q1 q2 q3 q4 q5 q6 q7 q8 q9 q10 q11 q12 q13 q14 q15 q16
 refine (p10min_bad (S0.out.ints (.slice a1 n1 c1, l1) mq6) (S0.out.ints (.slice b1 m1 d1, k1) mq7) LL1.out LK1.out (S0.out.ints (.slice a2 n2 c2, l2) mq4) (S0.out.ints (.slice b2 m2 d2, k2) mq5) LL2.out LK2.out (S0.out.ints (.slice a3 n3 c3, l3) mq2) (S0.out.ints (.slice b3 m3 d3, k3) mq3) LL3.out LK3.out (S0.out.ints (.slice a4 n4 c4, l4) mq0) (S0.out.ints (.slice b4 m4 d4, k4) mq1) LL4.out LK4.out EA.out).mono ?_
 rintro e w11 ⟨rfl, hb⟩
 have R11 := Lib.hid (S0.out.later hb)
 clear hb
 have P17 := Lib.hid (R11.out.put [.int .i64 0, .slice none 0 0, .int .i64 0, .slice none 0 0, .int .i64 0, .slice none 0 0, .int .i64 0, .slice none 0 0] 28)
 have Q17 := Lib.hid (Sf.row (pre := []) P17.out [.int .i64 0, .slice none 0 0, .int .i64 0, .slice none 0 0, .int .i64 0, .slice none 0 0, .int .i64 0, .slice none 0 0])
 obtain ⟨V17, hV17⟩ : ∃ V, ((w11.alloc (.cells #[.int .i64 0, .slice none 0 0, .int .i64 0, .slice none 0 0, .int .i64 0, .slice none 0 0, .int .i64 0, .slice none 0 0] 28)).setRow w11.heap.size #[.int .i64 0, .slice none 0 0, .int .i64 0, .slice none 0 0, .int .i64 0, .slice none 0 0, .int .i64 0, .slice none 0 0]) = V := ⟨_, rfl⟩
 rw [hV17] at Q17
 have HV17 := Lib.hid hV17
 clear hV17 R11
 obtain ⟨q18, q19, q20, q21, q22, q23, q24, q25⟩ := Fb.cells8 (Q17.out.box _ mq0)
 have Q26 := Lib.hid (Sf.row (pre := [(w11.heap.size, 28, [.int .i64 0, .slice none 0 0, .int .i64 0, .slice none 0 0, .int .i64 0, .slice none 0 0, .int .i64 0, .slice none 0 0])]) Q17.out [.int .i64 0, .slice none 0 0, .int .i64 0, .slice none 0 0, .int .i64 0, .slice none 0 0, .int .i64 0, .slice none 0 0])
 go_wp2_with (first | (refine wpList_store_row rfl _ _ _ rfl _ #[.int .i64 0, .slice none 0 0, .int .i64 0, .slice none 0 0, .int .i64 0, .slice none 0 0, .int .i64 0, .slice none 0 0] rfl rfl _ _ (P17.out.box _ List.mem_cons_self) (by kernel_rfl) rfl (by simp [Value.oneCell']) ?_; rw [HV17.out]) | refine wpList_store_row rfl _ _ _ rfl _ #[.int .i64 0, .slice none 0 0, .int .i64 0, .slice none 0 0, .int .i64 0, .slice none 0 0, .int .i64 0, .slice none 0 0] rfl rfl _ _ (Q17.out.box _ mq1) (by kernel_rfl) rfl (by simp [Value.oneCell']) ?_)
 clear q18 q19 q20 q21 q22 q23 q24 q25
 refine bodyPost_ret (ret_row rfl _ _ _ _ rfl (run_loadVar_row _ _ _ _ _ (0, 0) _ (Q26.out.box _ mq1) Tryz.underlying28 rfl (by kernel_rfl))) rfl ⟨rfl, Q26.out.below⟩

set_option maxHeartbeats 8000000 in
theorem play_max_bad {w : World} {s1 t1 : Int} {a1 b1 : Option Addr} {n1 c1 m1 d1 : Nat} {l1 k1 : List Int} {s2 t2 : Int} {a2 b2 : Option Addr} {n2 c2 m2 d2 : Nat} {l2 k2 : List Int} {s3 t3 : Int} {a3 b3 : Option Addr} {n3 c3 m3 d3 : Nat} {l3 k3 : List Int} {s4 t4 : Int} {a4 b4 : Option Addr} {n4 c4 m4 d4 : Nat} {l4 k4 : List Int} (hl1 : Ints w (.slice a1 n1 c1) l1) (hk1 : Ints w (.slice b1 m1 d1) k1) (ll1 : l1.length ≤ 1000) (lk1 : k1.length ≤ 1000) (hl2 : Ints w (.slice a2 n2 c2) l2) (hk2 : Ints w (.slice b2 m2 d2) k2) (ll2 : l2.length ≤ 1000) (lk2 : k2.length ≤ 1000) (hl3 : Ints w (.slice a3 n3 c3) l3) (hk3 : Ints w (.slice b3 m3 d3) k3) (ll3 : l3.length ≤ 1000) (lk3 : k3.length ≤ 1000) (hl4 : Ints w (.slice a4 n4 c4) l4) (hk4 : Ints w (.slice b4 m4 d4) k4) (ll4 : l4.length ≤ 1000) (lk4 : k4.length ≤ 1000) (hr : (sR s1 l1 t1 k1 s2 l2 t2 k2 && sR s3 l3 t3 k3 s4 l4 t4 k4) = false) :
  Calls Tryz.prog 7 #[.int .i64 5, .agg #[.int .i64 s1, .slice a1 n1 c1, .int .i64 t1, .slice b1 m1 d1, .int .i64 s2, .slice a2 n2 c2, .int .i64 t2, .slice b2 m2 d2], .agg #[.int .i64 s3, .slice a3 n3 c3, .int .i64 t3, .slice b3 m3 d3, .int .i64 s4, .slice a4 n4 c4, .int .i64 t4, .slice b4 m4 d4]] w fun e w' => e = .returned (.tuple #[.agg #[.int .i64 0, .slice none 0 0, .int .i64 0, .slice none 0 0, .int .i64 0, .slice none 0 0, .int .i64 0, .slice none 0 0], .int .i64 1]) ∧ RowKit.Below w.heap.size w w' := by
 have LL1 := Lib.hid ll1
 have LK1 := Lib.hid lk1
 have LL2 := Lib.hid ll2
 have LK2 := Lib.hid lk2
 have LL3 := Lib.hid ll3
 have LK3 := Lib.hid lk3
 have LL4 := Lib.hid ll4
 have LK4 := Lib.hid lk4
 have EA := Lib.hid hr
 have s0 := ((((((((((((Sf.start w).arg hk1).arg hl1).arg hk2).arg hl2).arg hk3).arg hl3).arg hk4).arg hl4).put [.int .i64 s1, .slice a1 n1 c1, .int .i64 t1, .slice b1 m1 d1, .int .i64 s2, .slice a2 n2 c2, .int .i64 t2, .slice b2 m2 d2] 28).put [.int .i64 s3, .slice a3 n3 c3, .int .i64 t3, .slice b3 m3 d3, .int .i64 s4, .slice a4 n4 c4, .int .i64 t4, .slice b4 m4 d4] 28).put [.int .i64 0, .slice none 0 0, .int .i64 0, .slice none 0 0, .int .i64 0, .slice none 0 0, .int .i64 0, .slice none 0 0] 28)
 try simp only [World.size_alloc] at s0
 have S0 := Lib.hid s0
 clear s0
 clear hr hl1 hk1 ll1 lk1 hl2 hk2 ll2 lk2 hl3 hk3 ll3 lk3 hl4 hk4 ll4 lk4
 go_enter Tryz.func7, Tryz.ntmps7
 obtain ⟨q1, q2, q3, q4, q5, q6, q7, q8⟩ := Fb.cells8 (S0.out.box _ mq1)
 obtain ⟨q9, q10, q11, q12, q13, q14, q15, q16⟩ := Fb.cells8 (S0.out.box _ mq2)
 go_wp2_with fail
 clear q1 q2 q3 q4 q5 q6 q7 q8 q9 q10 q11 q12 q13 q14 q15 q16
 refine (p10max_bad (S0.out.ints (.slice a1 n1 c1, l1) mq6) (S0.out.ints (.slice b1 m1 d1, k1) mq7) LL1.out LK1.out (S0.out.ints (.slice a2 n2 c2, l2) mq4) (S0.out.ints (.slice b2 m2 d2, k2) mq5) LL2.out LK2.out (S0.out.ints (.slice a3 n3 c3, l3) mq2) (S0.out.ints (.slice b3 m3 d3, k3) mq3) LL3.out LK3.out (S0.out.ints (.slice a4 n4 c4, l4) mq0) (S0.out.ints (.slice b4 m4 d4, k4) mq1) LL4.out LK4.out EA.out).mono ?_
 rintro e w11 ⟨rfl, hb⟩
 have R11 := Lib.hid (S0.out.later hb)
 clear hb
 have P17 := Lib.hid (R11.out.put [.int .i64 0, .slice none 0 0, .int .i64 0, .slice none 0 0, .int .i64 0, .slice none 0 0, .int .i64 0, .slice none 0 0] 28)
 have Q17 := Lib.hid (Sf.row (pre := []) P17.out [.int .i64 0, .slice none 0 0, .int .i64 0, .slice none 0 0, .int .i64 0, .slice none 0 0, .int .i64 0, .slice none 0 0])
 obtain ⟨V17, hV17⟩ : ∃ V, ((w11.alloc (.cells #[.int .i64 0, .slice none 0 0, .int .i64 0, .slice none 0 0, .int .i64 0, .slice none 0 0, .int .i64 0, .slice none 0 0] 28)).setRow w11.heap.size #[.int .i64 0, .slice none 0 0, .int .i64 0, .slice none 0 0, .int .i64 0, .slice none 0 0, .int .i64 0, .slice none 0 0]) = V := ⟨_, rfl⟩
 rw [hV17] at Q17
 have HV17 := Lib.hid hV17
 clear hV17 R11
 obtain ⟨q18, q19, q20, q21, q22, q23, q24, q25⟩ := Fb.cells8 (Q17.out.box _ mq0)
 have Q26 := Lib.hid (Sf.row (pre := [(w11.heap.size, 28, [.int .i64 0, .slice none 0 0, .int .i64 0, .slice none 0 0, .int .i64 0, .slice none 0 0, .int .i64 0, .slice none 0 0])]) Q17.out [.int .i64 0, .slice none 0 0, .int .i64 0, .slice none 0 0, .int .i64 0, .slice none 0 0, .int .i64 0, .slice none 0 0])
 go_wp2_with (first | (refine wpList_store_row rfl _ _ _ rfl _ #[.int .i64 0, .slice none 0 0, .int .i64 0, .slice none 0 0, .int .i64 0, .slice none 0 0, .int .i64 0, .slice none 0 0] rfl rfl _ _ (P17.out.box _ List.mem_cons_self) (by kernel_rfl) rfl (by simp [Value.oneCell']) ?_; rw [HV17.out]) | refine wpList_store_row rfl _ _ _ rfl _ #[.int .i64 0, .slice none 0 0, .int .i64 0, .slice none 0 0, .int .i64 0, .slice none 0 0, .int .i64 0, .slice none 0 0] rfl rfl _ _ (Q17.out.box _ mq1) (by kernel_rfl) rfl (by simp [Value.oneCell']) ?_)
 clear q18 q19 q20 q21 q22 q23 q24 q25
 refine bodyPost_ret (ret_row rfl _ _ _ _ rfl (run_loadVar_row _ _ _ _ _ (0, 0) _ (Q26.out.box _ mq1) Tryz.underlying28 rfl (by kernel_rfl))) rfl ⟨rfl, Q26.out.below⟩

theorem p10play {w : World} {k : Nat} (hk : k ≤ 5) {s1 : Int} {a1 b1 : Option Addr} {n1 c1 m1 d1 : Nat} {x : Rat} {s2 : Int} {a2 b2 : Option Addr} {n2 c2 m2 d2 : Nat} {y : Rat} {s3 : Int} {a3 b3 : Option Addr} {n3 c3 m3 d3 : Nat} {p : Rat} {s4 : Int} {a4 b4 : Option Addr} {n4 c4 m4 d4 : Nat} {q : Rat} (h1 : Fr w s1 (.slice a1 n1 c1) (.slice b1 m1 d1) x) (z1 : FSz 400 x) (h2 : Fr w s2 (.slice a2 n2 c2) (.slice b2 m2 d2) y) (z2 : FSz 400 y) (h3 : Fr w s3 (.slice a3 n3 c3) (.slice b3 m3 d3) p) (z3 : FSz 400 p) (h4 : Fr w s4 (.slice a4 n4 c4) (.slice b4 m4 d4) q) (z4 : FSz 400 q) (hxy : x ≤ y) (hpq : p ≤ q) (h0 : k = 3 → ¬ In (p, q) 0) {r : Rat × Rat} (hr : conS (opF k) (x, y) (p, q) = r) :
  Calls Tryz.prog 7 #[.int .i64 (k : Int), .agg #[.int .i64 s1, .slice a1 n1 c1, .int .i64 1, .slice b1 m1 d1, .int .i64 s2, .slice a2 n2 c2, .int .i64 1, .slice b2 m2 d2], .agg #[.int .i64 s3, .slice a3 n3 c3, .int .i64 1, .slice b3 m3 d3, .int .i64 s4, .slice a4 n4 c4, .int .i64 1, .slice b4 m4 d4]] w (SpP (fun v => .tuple #[v, .int .i64 0]) r w) := by
 rcases le5 hk with rfl | rfl | rfl | rfl | rfl | rfl
 ·exact play_add h1 z1 h2 z2 h3 z3 h4 z4 hxy hpq hr
 ·exact play_sub h1 z1 h2 z2 h3 z3 h4 z4 hxy hpq hr
 ·exact play_mul h1 z1 h2 z2 h3 z3 h4 z4 hxy hpq hr
 ·exact play_div h1 z1 h2 z2 h3 z3 h4 z4 hxy hpq (h0 rfl) hr
 ·exact play_min h1 z1 h2 z2 h3 z3 h4 z4 hxy hpq hr
 ·exact play_max h1 z1 h2 z2 h3 z3 h4 z4 hxy hpq hr

set_option maxHeartbeats 8000000 in
theorem p10play_bad {w : World} {k : Nat} (hk : k ≤ 5) {s1 t1 : Int} {a1 b1 : Option Addr} {n1 c1 m1 d1 : Nat} {l1 k1 : List Int} {s2 t2 : Int} {a2 b2 : Option Addr} {n2 c2 m2 d2 : Nat} {l2 k2 : List Int} {s3 t3 : Int} {a3 b3 : Option Addr} {n3 c3 m3 d3 : Nat} {l3 k3 : List Int} {s4 t4 : Int} {a4 b4 : Option Addr} {n4 c4 m4 d4 : Nat} {l4 k4 : List Int} (hl1 : Ints w (.slice a1 n1 c1) l1) (hk1 : Ints w (.slice b1 m1 d1) k1) (ll1 : l1.length ≤ 1000) (lk1 : k1.length ≤ 1000) (hl2 : Ints w (.slice a2 n2 c2) l2) (hk2 : Ints w (.slice b2 m2 d2) k2) (ll2 : l2.length ≤ 1000) (lk2 : k2.length ≤ 1000) (hl3 : Ints w (.slice a3 n3 c3) l3) (hk3 : Ints w (.slice b3 m3 d3) k3) (ll3 : l3.length ≤ 1000) (lk3 : k3.length ≤ 1000) (hl4 : Ints w (.slice a4 n4 c4) l4) (hk4 : Ints w (.slice b4 m4 d4) k4) (ll4 : l4.length ≤ 1000) (lk4 : k4.length ≤ 1000) (hr : (sR s1 l1 t1 k1 s2 l2 t2 k2 && sR s3 l3 t3 k3 s4 l4 t4 k4) = false) :
  Calls Tryz.prog 7 #[.int .i64 (k : Int), .agg #[.int .i64 s1, .slice a1 n1 c1, .int .i64 t1, .slice b1 m1 d1, .int .i64 s2, .slice a2 n2 c2, .int .i64 t2, .slice b2 m2 d2], .agg #[.int .i64 s3, .slice a3 n3 c3, .int .i64 t3, .slice b3 m3 d3, .int .i64 s4, .slice a4 n4 c4, .int .i64 t4, .slice b4 m4 d4]] w fun e w' => e = .returned (.tuple #[.agg #[.int .i64 0, .slice none 0 0, .int .i64 0, .slice none 0 0, .int .i64 0, .slice none 0 0, .int .i64 0, .slice none 0 0], .int .i64 1]) ∧ RowKit.Below w.heap.size w w' := by
 rcases le5 hk with rfl | rfl | rfl | rfl | rfl | rfl
 ·exact play_add_bad hl1 hk1 ll1 lk1 hl2 hk2 ll2 lk2 hl3 hk3 ll3 lk3 hl4 hk4 ll4 lk4 hr
 ·exact play_sub_bad hl1 hk1 ll1 lk1 hl2 hk2 ll2 lk2 hl3 hk3 ll3 lk3 hl4 hk4 ll4 lk4 hr
 ·exact play_mul_bad hl1 hk1 ll1 lk1 hl2 hk2 ll2 lk2 hl3 hk3 ll3 lk3 hl4 hk4 ll4 lk4 hr
 ·exact play_div_bad hl1 hk1 ll1 lk1 hl2 hk2 ll2 lk2 hl3 hk3 ll3 lk3 hl4 hk4 ll4 lk4 hr
 ·exact play_min_bad hl1 hk1 ll1 lk1 hl2 hk2 ll2 lk2 hl3 hk3 ll3 lk3 hl4 hk4 ll4 lk4 hr
 ·exact play_max_bad hl1 hk1 ll1 lk1 hl2 hk2 ll2 lk2 hl3 hk3 ll3 lk3 hl4 hk4 ll4 lk4 hr
end Go.Proofs.YtgncnkojpedmdaaGreat.Sp
