/- The law SpanTells. -/
import Derived.Test.YtgncnkojpedmdaaGreatPTells24
set_option maxRecDepth 100000
namespace Go.Proofs.YtgncnkojpedmdaaGreat.Sp
open Go.RowKit Bi
theorem same_self (D : SD) : ((decide (D.s1 = D.s1 ∧ D.l1 = D.l1) && decide (D.t1 = D.t1 ∧ D.k1 = D.k1)) && (decide (D.s2 = D.s2 ∧ D.l2 = D.l2) && decide (D.t2 = D.t2 ∧ D.k2 = D.k2))) = true := by simp
theorem same_selfF (s : Int) (l : List Int) (t : Int) (k : List Int) : (decide (s = s ∧ l = l) && decide (t = t ∧ k = k)) = true := by simp

set_option maxHeartbeats 8000000 in
theorem tells_no {w : World} {s1 t1 : Int} {a1 b1 : Option Addr} {n1 c1 m1 d1 : Nat} {s2 t2 : Int} {a2 b2 : Option Addr} {n2 c2 m2 d2 : Nat} {s3 t3 : Int} {a3 b3 : Option Addr} {n3 c3 m3 d3 : Nat} {s4 t4 : Int} {a4 b4 : Option Addr} {n4 c4 m4 d4 : Nat} {s5 t5 : Int} {a5 b5 : Option Addr} {n5 c5 m5 d5 : Nat} (hn1 : n1 ≤ 9223372036854775807) (hm1 : m1 ≤ 9223372036854775807) (hn2 : n2 ≤ 9223372036854775807) (hm2 : m2 ≤ 9223372036854775807) (hn3 : n3 ≤ 9223372036854775807) (hm3 : m3 ≤ 9223372036854775807) (hn4 : n4 ≤ 9223372036854775807) (hm4 : m4 ≤ 9223372036854775807) (hn5 : n5 ≤ 9223372036854775807) (hm5 : m5 ≤ 9223372036854775807) (hno : ((((decide ((n1 : Int) ≤ 4) && decide ((m1 : Int) ≤ 4)) && (decide ((n2 : Int) ≤ 4) && decide ((m2 : Int) ≤ 4))) && ((decide ((n3 : Int) ≤ 4) && decide ((m3 : Int) ≤ 4)) && (decide ((n4 : Int) ≤ 4) && decide ((m4 : Int) ≤ 4)))) && (decide ((n5 : Int) ≤ 4) && decide ((m5 : Int) ≤ 4))) = false) :
  Calls Tryz.prog 3 #[.agg #[.int .i64 s1, .slice a1 n1 c1, .int .i64 t1, .slice b1 m1 d1, .int .i64 s2, .slice a2 n2 c2, .int .i64 t2, .slice b2 m2 d2], .agg #[.int .i64 s3, .slice a3 n3 c3, .int .i64 t3, .slice b3 m3 d3, .int .i64 s4, .slice a4 n4 c4, .int .i64 t4, .slice b4 m4 d4], .agg #[.int .i64 s5, .slice a5 n5 c5, .int .i64 t5, .slice b5 m5 d5]] w fun e w' => e = .returned (.bool true) ∧ RowKit.Below w.heap.size w w' := by
 have MN1 := Lib.hid hn1
 have MM1 := Lib.hid hm1
 have MN2 := Lib.hid hn2
 have MM2 := Lib.hid hm2
 have MN3 := Lib.hid hn3
 have MM3 := Lib.hid hm3
 have MN4 := Lib.hid hn4
 have MM4 := Lib.hid hm4
 have MN5 := Lib.hid hn5
 have MM5 := Lib.hid hm5
 obtain ⟨r0, hr0⟩ : ∃ r, (((decide ((n1 : Int) ≤ 4) && decide ((m1 : Int) ≤ 4)) && (decide ((n2 : Int) ≤ 4) && decide ((m2 : Int) ≤ 4))) && ((decide ((n3 : Int) ≤ 4) && decide ((m3 : Int) ≤ 4)) && (decide ((n4 : Int) ≤ 4) && decide ((m4 : Int) ≤ 4)))) = r := ⟨_, rfl⟩
 have HT0 := Lib.hid hr0
 obtain ⟨r1, hr1⟩ : ∃ r, (decide ((n5 : Int) ≤ 4) && decide ((m5 : Int) ≤ 4)) = r := ⟨_, rfl⟩
 have HT1 := Lib.hid hr1
 rw [hr0, hr1] at hno
 have HNO := Lib.hid hno
 clear hno hn1 hm1 hn2 hm2 hn3 hm3 hn4 hm4 hn5 hm5 hr0 hr1
 have s0 := ((((Sf.start w).put [.int .i64 s1, .slice a1 n1 c1, .int .i64 t1, .slice b1 m1 d1, .int .i64 s2, .slice a2 n2 c2, .int .i64 t2, .slice b2 m2 d2] 28).put [.int .i64 s3, .slice a3 n3 c3, .int .i64 t3, .slice b3 m3 d3, .int .i64 s4, .slice a4 n4 c4, .int .i64 t4, .slice b4 m4 d4] 28).put [.int .i64 s5, .slice a5 n5 c5, .int .i64 t5, .slice b5 m5 d5] 26)
 try simp only [World.size_alloc] at s0
 have S0 := Lib.hid s0
 clear s0
 go_enter Tryz.func3, Tryz.ntmps3
 go_wp2_with fail
 refine (r10small).mono ?_
 rintro e w11 ⟨rfl, hb⟩
 have R11 := Lib.hid (S0.out.later hb)
 clear hb
 obtain ⟨q1, q2, q3, q4, q5, q6, q7, q8⟩ := Fb.cells8 (R11.out.box _ mq1)
 obtain ⟨q9, q10, q11, q12, q13, q14, q15, q16⟩ := Fb.cells8 (R11.out.box _ mq2)
 go_wp2_with fail
 clear q1 q2 q3 q4 q5 q6 q7 q8 q9 q10 q11 q12 q13 q14 q15 q16
 refine (l10few (s1 := s1) (t1 := t1) (a1 := a1) (b1 := b1) (c1 := c1) (d1 := d1) (s2 := s2) (t2 := t2) (a2 := a2) (b2 := b2) (c2 := c2) (d2 := d2) (s3 := s3) (t3 := t3) (a3 := a3) (b3 := b3) (c3 := c3) (d3 := d3) (s4 := s4) (t4 := t4) (a4 := a4) (b4 := b4) (c4 := c4) (d4 := d4) MN1.out MM1.out MN2.out MM2.out MN3.out MM3.out MN4.out MM4.out HT0.out).mono ?_
 rintro e w12 ⟨rfl, hb⟩
 have R12 := Lib.hid (R11.out.later hb)
 clear hb
 cases r0
 case false =>
  go_wp2_with fail
  go_ret
  exact ⟨rfl, R12.out.below⟩
 obtain ⟨q17, q18, q19, q20⟩ := Fb.cells4 (R12.out.box _ mq0)
 go_wp2_with fail
 clear q17 q18 q19 q20
 refine (ffew_len s5 a5 n5 c5 t5 b5 m5 d5 4 _ MN5.out MM5.out _ HT1.out).mono ?_
 rintro e w13 ⟨rfl, hb⟩
 have R13 := Lib.hid (R12.out.later hb)
 clear hb
 cases r1
 case false =>
  go_wp2_with fail
  go_ret
  exact ⟨rfl, R13.out.below⟩
 exact absurd HNO.out (by decide)

set_option maxHeartbeats 64000000 in
theorem tells_good {w : World}  {s1 t1 : Int} {a1 b1 : Option Addr} {n1 c1 m1 d1 : Nat} {l1 k1 : List Int} {s2 t2 : Int} {a2 b2 : Option Addr} {n2 c2 m2 d2 : Nat} {l2 k2 : List Int} {s3 t3 : Int} {a3 b3 : Option Addr} {n3 c3 m3 d3 : Nat} {l3 k3 : List Int} {s4 t4 : Int} {a4 b4 : Option Addr} {n4 c4 m4 d4 : Nat} {l4 k4 : List Int} {s5 t5 : Int} {a5 b5 : Option Addr} {n5 c5 m5 d5 : Nat} {l5 k5 : List Int}  (hl1 : Ints w (.slice a1 n1 c1) l1) (hk1 : Ints w (.slice b1 m1 d1) k1) (hn1 : n1 ≤ 4) (hm1 : m1 ≤ 4) (el1 : l1.length = n1) (ek1 : k1.length = m1) (hl2 : Ints w (.slice a2 n2 c2) l2) (hk2 : Ints w (.slice b2 m2 d2) k2) (hn2 : n2 ≤ 4) (hm2 : m2 ≤ 4) (el2 : l2.length = n2) (ek2 : k2.length = m2) (hl3 : Ints w (.slice a3 n3 c3) l3) (hk3 : Ints w (.slice b3 m3 d3) k3) (hn3 : n3 ≤ 4) (hm3 : m3 ≤ 4) (el3 : l3.length = n3) (ek3 : k3.length = m3) (hl4 : Ints w (.slice a4 n4 c4) l4) (hk4 : Ints w (.slice b4 m4 d4) k4) (hn4 : n4 ≤ 4) (hm4 : m4 ≤ 4) (el4 : l4.length = n4) (ek4 : k4.length = m4) (hl5 : Ints w (.slice a5 n5 c5) l5) (hk5 : Ints w (.slice b5 m5 d5) k5) (hn5 : n5 ≤ 4) (hm5 : m5 ≤ 4) (el5 : l5.length = n5) (ek5 : k5.length = m5)  :
  Calls Tryz.prog 3 #[.agg #[.int .i64 s1, .slice a1 n1 c1, .int .i64 t1, .slice b1 m1 d1, .int .i64 s2, .slice a2 n2 c2, .int .i64 t2, .slice b2 m2 d2], .agg #[.int .i64 s3, .slice a3 n3 c3, .int .i64 t3, .slice b3 m3 d3, .int .i64 s4, .slice a4 n4 c4, .int .i64 t4, .slice b4 m4 d4], .agg #[.int .i64 s5, .slice a5 n5 c5, .int .i64 t5, .slice b5 m5 d5]] w fun e w' => e = .returned (.bool true) ∧ RowKit.Below w.heap.size w w' := by
 have MN1 : Hid (n1 ≤ 9223372036854775807) := Lib.hid (by omega)
 have MM1 : Hid (m1 ≤ 9223372036854775807) := Lib.hid (by omega)
 have MN2 : Hid (n2 ≤ 9223372036854775807) := Lib.hid (by omega)
 have MM2 : Hid (m2 ≤ 9223372036854775807) := Lib.hid (by omega)
 have MN3 : Hid (n3 ≤ 9223372036854775807) := Lib.hid (by omega)
 have MM3 : Hid (m3 ≤ 9223372036854775807) := Lib.hid (by omega)
 have MN4 : Hid (n4 ≤ 9223372036854775807) := Lib.hid (by omega)
 have MM4 : Hid (m4 ≤ 9223372036854775807) := Lib.hid (by omega)
 have MN5 : Hid (n5 ≤ 9223372036854775807) := Lib.hid (by omega)
 have MM5 : Hid (m5 ≤ 9223372036854775807) := Lib.hid (by omega)
 have LL1 : Hid (l1.length ≤ 1000) := Lib.hid (by omega)
 have LK1 : Hid (k1.length ≤ 1000) := Lib.hid (by omega)
 have LL2 : Hid (l2.length ≤ 1000) := Lib.hid (by omega)
 have LK2 : Hid (k2.length ≤ 1000) := Lib.hid (by omega)
 have LL3 : Hid (l3.length ≤ 1000) := Lib.hid (by omega)
 have LK3 : Hid (k3.length ≤ 1000) := Lib.hid (by omega)
 have LL4 : Hid (l4.length ≤ 1000) := Lib.hid (by omega)
 have LK4 : Hid (k4.length ≤ 1000) := Lib.hid (by omega)
 have LL5 : Hid (l5.length ≤ 1000) := Lib.hid (by omega)
 have LK5 : Hid (k5.length ≤ 1000) := Lib.hid (by omega)
 have HF0 : Hid ((((decide ((n1 : Int) ≤ 4) && decide ((m1 : Int) ≤ 4)) && (decide ((n2 : Int) ≤ 4) && decide ((m2 : Int) ≤ 4))) && ((decide ((n3 : Int) ≤ 4) && decide ((m3 : Int) ≤ 4)) && (decide ((n4 : Int) ≤ 4) && decide ((m4 : Int) ≤ 4)))) = true) := Lib.hid (by simp; omega)
 have HF1 : Hid ((decide ((n5 : Int) ≤ 4) && decide ((m5 : Int) ≤ 4)) = true) := Lib.hid (by simp; omega)
 have HPL := Lib.hid (fun (k : Nat) (hk : k ≤ 5) => pair_play (s1 := s1) (t1 := t1) (s2 := s2) (t2 := t2) (s3 := s3) (t3 := t3) (s4 := s4) (t4 := t4) (a5 := a5) (b5 := b5) (n5 := n5) (c5 := c5) (m5 := m5) (d5 := d5) hl1 hk1 (by omega : l1.length ≤ 4) (by omega : k1.length ≤ 4) hl2 hk2 (by omega : l2.length ≤ 4) (by omega : k2.length ≤ 4) hl3 hk3 (by omega : l3.length ≤ 4) (by omega : k3.length ≤ 4) hl4 hk4 (by omega : l4.length ≤ 4) (by omega : k4.length ≤ 4) hk)
 obtain ⟨DH, eh, ph, qh⟩ := pair_hull (s1 := s1) (t1 := t1) (s2 := s2) (t2 := t2) (s3 := s3) (t3 := t3) (s4 := s4) (t4 := t4) (a5 := a5) (b5 := b5) (n5 := n5) (c5 := c5) (m5 := m5) (d5 := d5) hl1 hk1 (by omega : l1.length ≤ 4) (by omega : k1.length ≤ 4) hl2 hk2 (by omega : l2.length ≤ 4) (by omega : k2.length ≤ 4) hl3 hk3 (by omega : l3.length ≤ 4) (by omega : k3.length ≤ 4) hl4 hk4 (by omega : l4.length ≤ 4) (by omega : k4.length ≤ 4)
 obtain ⟨DM, om, pm, qm⟩ := pair_meet (s1 := s1) (t1 := t1) (s2 := s2) (t2 := t2) (s3 := s3) (t3 := t3) (s4 := s4) (t4 := t4) (a5 := a5) (b5 := b5) (n5 := n5) (c5 := c5) (m5 := m5) (d5 := d5) hl1 hk1 (by omega : l1.length ≤ 4) (by omega : k1.length ≤ 4) hl2 hk2 (by omega : l2.length ≤ 4) (by omega : k2.length ≤ 4) hl3 hk3 (by omega : l3.length ≤ 4) (by omega : k3.length ≤ 4) hl4 hk4 (by omega : l4.length ≤ 4) (by omega : k4.length ≤ 4)
 obtain ⟨DN, pn, qn⟩ := pair_neg (s1 := s1) (t1 := t1) (s2 := s2) (t2 := t2) (a3 := a3) (b3 := b3) (n3 := n3) (c3 := c3) (m3 := m3) (d3 := d3) (a4 := a4) (b4 := b4) (n4 := n4) (c4 := c4) (m4 := m4) (d4 := d4) (a5 := a5) (b5 := b5) (n5 := n5) (c5 := c5) (m5 := m5) (d5 := d5) hl1 hk1 (by omega : l1.length ≤ 4) (by omega : k1.length ≤ 4) hl2 hk2 (by omega : l2.length ≤ 4) (by omega : k2.length ≤ 4)
 obtain ⟨DP, pf, qf⟩ := pair_point (a1 := a1) (b1 := b1) (n1 := n1) (c1 := c1) (m1 := m1) (d1 := d1) (a2 := a2) (b2 := b2) (n2 := n2) (c2 := c2) (m2 := m2) (d2 := d2) (a3 := a3) (b3 := b3) (n3 := n3) (c3 := c3) (m3 := m3) (d3 := d3) (a4 := a4) (b4 := b4) (n4 := n4) (c4 := c4) (m4 := m4) (d4 := d4) (s5 := s5) (t5 := t5) hl5 hk5 (by omega : l5.length ≤ 4) (by omega : k5.length ≤ 4)
 obtain ⟨ws, wl, wt, wk, pw, qw⟩ := pair_width (s1 := s1) (t1 := t1) (s2 := s2) (t2 := t2) (a3 := a3) (b3 := b3) (n3 := n3) (c3 := c3) (m3 := m3) (d3 := d3) (a4 := a4) (b4 := b4) (n4 := n4) (c4 := c4) (m4 := m4) (d4 := d4) (a5 := a5) (b5 := b5) (n5 := n5) (c5 := c5) (m5 := m5) (d5 := d5) hl1 hk1 (by omega : l1.length ≤ 4) (by omega : k1.length ≤ 4) hl2 hk2 (by omega : l2.length ≤ 4) (by omega : k2.length ≤ 4)
 have PHH := Lib.hid ph
 have QHH := Lib.hid qh
 have PMM := Lib.hid pm
 have QMM := Lib.hid qm
 have PNN := Lib.hid pn
 have QNN := Lib.hid qn
 have PFF := Lib.hid pf
 have QFF := Lib.hid qf
 have PWW := Lib.hid pw
 have QWW := Lib.hid qw
 obtain ⟨ra, hra⟩ : ∃ r, sR s1 l1 t1 k1 s2 l2 t2 k2 = r := ⟨_, rfl⟩
 have HRA := Lib.hid hra
 obtain ⟨sa, hsa⟩ : ∃ r, ((decide (s1 = s3 ∧ l1 = l3) && decide (t1 = t3 ∧ k1 = k3)) && (decide (s2 = s4 ∧ l2 = l4) && decide (t2 = t4 ∧ k2 = k4))) = r := ⟨_, rfl⟩
 have HSA := Lib.hid hsa
 obtain ⟨hB, hhf⟩ : ∃ r, hasB s1 l1 t1 k1 s2 l2 t2 k2 s5 l5 t5 k5 = r := ⟨_, rfl⟩
 have HHF := Lib.hid hhf
 obtain ⟨iB, hia⟩ : ∃ r, inB s1 l1 t1 k1 s2 l2 t2 k2 s3 l3 t3 k3 s4 l4 t4 k4 = r := ⟨_, rfl⟩
 have HIA := Lib.hid hia
 have HA : Hid (∀ v ∈ ([.slice a1 n1 c1, .slice b1 m1 d1, .slice a2 n2 c2, .slice b2 m2 d2, .slice a3 n3 c3, .slice b3 m3 d3, .slice a4 n4 c4, .slice b4 m4 d4, .slice a5 n5 c5, .slice b5 m5 d5] : List Value), ∀ g, w.heap.size ≤ g → Off v g) := Lib.hid (by
  intro v hv g hg
  simp only [List.mem_cons, List.not_mem_nil, or_false] at hv
  rcases hv with rfl | rfl | rfl | rfl | rfl | rfl | rfl | rfl | rfl | rfl
  ·exact hl1.off hg
  ·exact hk1.off hg
  ·exact hl2.off hg
  ·exact hk2.off hg
  ·exact hl3.off hg
  ·exact hk3.off hg
  ·exact hl4.off hg
  ·exact hk4.off hg
  ·exact hl5.off hg
  ·exact hk5.off hg)
 have hb1_ : (eh != eh) = false := by simp
 have hb2_ : (om != om) = false := by simp
 have hb3_ : (ra != ra) = false := by simp
 have hb4_ : (sa != sa) = false := by simp
 have hb5_ : (hB == hB) = true := by simp
 have hb6_ : (iB == iB) = true := by simp
 have s0 := ((((((((((((((Sf.start w).arg hk1).arg hl1).arg hk2).arg hl2).arg hk3).arg hl3).arg hk4).arg hl4).arg hk5).arg hl5).put [.int .i64 s1, .slice a1 n1 c1, .int .i64 t1, .slice b1 m1 d1, .int .i64 s2, .slice a2 n2 c2, .int .i64 t2, .slice b2 m2 d2] 28).put [.int .i64 s3, .slice a3 n3 c3, .int .i64 t3, .slice b3 m3 d3, .int .i64 s4, .slice a4 n4 c4, .int .i64 t4, .slice b4 m4 d4] 28).put [.int .i64 s5, .slice a5 n5 c5, .int .i64 t5, .slice b5 m5 d5] 26)
 try simp only [World.size_alloc] at s0
 have S0 := Lib.hid s0
 clear s0
 clear  hl1 hk1 hn1 hm1 el1 ek1 hl2 hk2 hn2 hm2 el2 ek2 hl3 hk3 hn3 hm3 el3 ek3 hl4 hk4 hn4 hm4 el4 ek4 hl5 hk5 hn5 hm5 el5 ek5 ph qh pm qm pn qn pf qf pw qw hra hsa hhf hia
 go_enter Tryz.func3, Tryz.ntmps3
 go_wp2_with fail
 refine (r10small).mono ?_
 rintro e w11 ⟨rfl, hb⟩
 have R11 := Lib.hid (S0.out.later hb)
 clear hb
 obtain ⟨q1, q2, q3, q4, q5, q6, q7, q8⟩ := Fb.cells8 (R11.out.box _ mq1)
 obtain ⟨q9, q10, q11, q12, q13, q14, q15, q16⟩ := Fb.cells8 (R11.out.box _ mq2)
 go_wp2_with fail
 clear q1 q2 q3 q4 q5 q6 q7 q8 q9 q10 q11 q12 q13 q14 q15 q16
 refine (l10few (s1 := s1) (t1 := t1) (a1 := a1) (b1 := b1) (c1 := c1) (d1 := d1) (s2 := s2) (t2 := t2) (a2 := a2) (b2 := b2) (c2 := c2) (d2 := d2) (s3 := s3) (t3 := t3) (a3 := a3) (b3 := b3) (c3 := c3) (d3 := d3) (s4 := s4) (t4 := t4) (a4 := a4) (b4 := b4) (c4 := c4) (d4 := d4) MN1.out MM1.out MN2.out MM2.out MN3.out MM3.out MN4.out MM4.out HF0.out).mono ?_
 rintro e w12 ⟨rfl, hb⟩
 have R12 := Lib.hid (R11.out.later hb)
 clear hb
 obtain ⟨q17, q18, q19, q20⟩ := Fb.cells4 (R12.out.box _ mq0)
 go_wp2_with fail
 clear q17 q18 q19 q20
 refine (ffew_len s5 a5 n5 c5 t5 b5 m5 d5 4 _ MN5.out MM5.out _ HF1.out).mono ?_
 rintro e w13 ⟨rfl, hb⟩
 have R13 := Lib.hid (R12.out.later hb)
 clear hb
 go_wp2_with fail
 go_loopw [8] (fun t wr => ∃ k : Nat, k ≤ 6 ∧ t = .int .i64 (k : Int) ∧ Sf w [(w.heap.size + 1 + 1, 26, [.int .i64 s5, .slice a5 n5 c5, .int .i64 t5, .slice b5 m5 d5]), (w.heap.size + 1, 28, [.int .i64 s3, .slice a3 n3 c3, .int .i64 t3, .slice b3 m3 d3, .int .i64 s4, .slice a4 n4 c4, .int .i64 t4, .slice b4 m4 d4]), (w.heap.size, 28, [.int .i64 s1, .slice a1 n1 c1, .int .i64 t1, .slice b1 m1 d1, .int .i64 s2, .slice a2 n2 c2, .int .i64 t2, .slice b2 m2 d2])] [(.slice a5 n5 c5, l5), (.slice b5 m5 d5, k5), (.slice a4 n4 c4, l4), (.slice b4 m4 d4, k4), (.slice a3 n3 c3, l3), (.slice b3 m3 d3, k3), (.slice a2 n2 c2, l2), (.slice b2 m2 d2, k2), (.slice a1 n1 c1, l1), (.slice b1 m1 d1, k1)] wr) (fun t _ => 7 - (RowKit.intOf t).toNat)
 case atStart => exact ⟨0, Nat.zero_le _, rfl, R13.out⟩
 case round =>
  clear R13
  obtain ⟨k, hk6, ht, hS⟩ := hrel
  have HS := Lib.hid hS
  clear hS
  by_cases hlt : k < 6
  ·obtain ⟨D, er, pk, qk⟩ := HPL.out k (by omega)
   have PK := Lib.hid pk
   have QK := Lib.hid qk
   have hb7_ : (er != er) = false := by simp
   have hlt2 : decide ((k : Int) < 6) = true := by simp; omega
   have hw1 : IntKind.i64.wrap ((k : Int) + 1) = (k : Int) + 1 := IntWalk.i64_in _ (by omega)
   subst ht
   clear pk qk
   obtain ⟨q21, q22, q23, q24, q25, q26, q27, q28⟩ := Fb.cells8 (HS.out.box _ mq1)
   obtain ⟨q29, q30, q31, q32, q33, q34, q35, q36⟩ := Fb.cells8 (HS.out.box _ mq2)
   go_wp2_with fail
   clear q21 q22 q23 q24 q25 q26 q27 q28 q29 q30 q31 q32 q33 q34 q35 q36
   refine (PK.out _ HS.out.below).mono ?_
   rintro e w14 ⟨a1z14, n1z14, c1z14, b1z14, m1z14, d1z14, a2z14, n2z14, c2z14, b2z14, m2z14, d2z14, rfl, hi, hb, f1, f2, f3, f4⟩
   have R14 := Lib.hid (Sf.retG4 HS.out HA.out hb hi f1 f2 f3 f4)
   clear hi hb f1 f2 f3 f4
   have P37 := Lib.hid (R14.out.put [.int .i64 0, .slice none 0 0, .int .i64 0, .slice none 0 0, .int .i64 0, .slice none 0 0, .int .i64 0, .slice none 0 0] 28)
   have Q37 := Lib.hid (Sf.row (pre := []) P37.out [.int .i64 D.s1, .slice a1z14 n1z14 c1z14, .int .i64 D.t1, .slice b1z14 m1z14 d1z14, .int .i64 D.s2, .slice a2z14 n2z14 c2z14, .int .i64 D.t2, .slice b2z14 m2z14 d2z14])
   obtain ⟨V37, hV37⟩ : ∃ V, ((w14.alloc (.cells #[.int .i64 0, .slice none 0 0, .int .i64 0, .slice none 0 0, .int .i64 0, .slice none 0 0, .int .i64 0, .slice none 0 0] 28)).setRow w14.heap.size #[.int .i64 D.s1, .slice a1z14 n1z14 c1z14, .int .i64 D.t1, .slice b1z14 m1z14 d1z14, .int .i64 D.s2, .slice a2z14 n2z14 c2z14, .int .i64 D.t2, .slice b2z14 m2z14 d2z14]) = V := ⟨_, rfl⟩
   rw [hV37] at Q37
   have HV37 := Lib.hid hV37
   clear hV37 R14
   obtain ⟨q38, q39, q40, q41, q42, q43, q44, q45⟩ := Fb.cells8 (Q37.out.box _ mq2)
   obtain ⟨q46, q47, q48, q49, q50, q51, q52, q53⟩ := Fb.cells8 (Q37.out.box _ mq3)
   go_wp2_with (first | (refine wpList_store_row rfl _ _ _ rfl _ #[.int .i64 D.s1, .slice a1z14 n1z14 c1z14, .int .i64 D.t1, .slice b1z14 m1z14 d1z14, .int .i64 D.s2, .slice a2z14 n2z14 c2z14, .int .i64 D.t2, .slice b2z14 m2z14 d2z14] rfl rfl _ _ (P37.out.box _ List.mem_cons_self) (by kernel_rfl) rfl (by simp [Value.oneCell']) ?_; rw [HV37.out]))
   clear q38 q39 q40 q41 q42 q43 q44 q45 q46 q47 q48 q49 q50 q51 q52 q53
   refine (QK.out _ Q37.out.below).mono ?_
   rintro e w15 ⟨a1z15, n1z15, c1z15, b1z15, m1z15, d1z15, a2z15, n2z15, c2z15, b2z15, m2z15, d2z15, rfl, hi, hb, f1, f2, f3, f4⟩
   have R15 := Lib.hid (Sf.retG4 Q37.out HA.out hb hi f1 f2 f3 f4)
   clear hi hb f1 f2 f3 f4
   have P54 := Lib.hid (R15.out.put [.int .i64 0, .slice none 0 0, .int .i64 0, .slice none 0 0, .int .i64 0, .slice none 0 0, .int .i64 0, .slice none 0 0] 28)
   have Q54 := Lib.hid (Sf.row (pre := []) P54.out [.int .i64 D.s1, .slice a1z15 n1z15 c1z15, .int .i64 D.t1, .slice b1z15 m1z15 d1z15, .int .i64 D.s2, .slice a2z15 n2z15 c2z15, .int .i64 D.t2, .slice b2z15 m2z15 d2z15])
   obtain ⟨V54, hV54⟩ : ∃ V, ((w15.alloc (.cells #[.int .i64 0, .slice none 0 0, .int .i64 0, .slice none 0 0, .int .i64 0, .slice none 0 0, .int .i64 0, .slice none 0 0] 28)).setRow w15.heap.size #[.int .i64 D.s1, .slice a1z15 n1z15 c1z15, .int .i64 D.t1, .slice b1z15 m1z15 d1z15, .int .i64 D.s2, .slice a2z15 n2z15 c2z15, .int .i64 D.t2, .slice b2z15 m2z15 d2z15]) = V := ⟨_, rfl⟩
   rw [hV54] at Q54
   have HV54 := Lib.hid hV54
   clear hV54 R15
   obtain ⟨q55, q56, q57, q58, q59, q60, q61, q62⟩ := Fb.cells8 (Q54.out.box _ mq0)
   obtain ⟨q63, q64, q65, q66, q67, q68, q69, q70⟩ := Fb.cells8 (Q54.out.box _ mq1)
   go_wp2_with (first | (refine wpList_store_row rfl _ _ _ rfl _ #[.int .i64 D.s1, .slice a1z15 n1z15 c1z15, .int .i64 D.t1, .slice b1z15 m1z15 d1z15, .int .i64 D.s2, .slice a2z15 n2z15 c2z15, .int .i64 D.t2, .slice b2z15 m2z15 d2z15] rfl rfl _ _ (P54.out.box _ List.mem_cons_self) (by kernel_rfl) rfl (by simp [Value.oneCell']) ?_; rw [HV54.out]))
   clear q55 q56 q57 q58 q59 q60 q61 q62 q63 q64 q65 q66 q67 q68 q69 q70
   refine (r10same_raw (s1 := D.s1) (t1 := D.t1) (s2 := D.s2) (t2 := D.t2) (s3 := D.s1) (t3 := D.t1) (s4 := D.s2) (t4 := D.t2) (Q54.out.ints (.slice a1z14 n1z14 c1z14, D.l1) mq4) (Q54.out.ints (.slice b1z14 m1z14 d1z14, D.k1) mq5) (Q54.out.ints (.slice a2z14 n2z14 c2z14, D.l2) mq6) (Q54.out.ints (.slice b2z14 m2z14 d2z14, D.k2) mq7) (Q54.out.ints (.slice a1z15 n1z15 c1z15, D.l1) mq0) (Q54.out.ints (.slice b1z15 m1z15 d1z15, D.k1) mq1) (Q54.out.ints (.slice a2z15 n2z15 c2z15, D.l2) mq2) (Q54.out.ints (.slice b2z15 m2z15 d2z15, D.k2) mq3) (same_self D)).mono ?_
   rintro e w16 ⟨rfl, hb⟩
   have R16 := Lib.hid (Q54.out.later hb)
   clear hb
   go_wp2_with fail
   go_roundw
   case rel => exact ⟨k + 1, by omega, by go_num, Sf.facts (Sf.tail (Sf.tail R16.out)) (by simp)⟩
   case measure => simp [RowKit.intOf]; omega
  ·obtain rfl : k = 6 := by omega
   have ht2 : _ = Value.int IntKind.i64 6 := ht
   subst ht2
   clear ht hk6 hlt
   obtain ⟨q71, q72, q73, q74, q75, q76, q77, q78⟩ := Fb.cells8 (HS.out.box _ mq1)
   obtain ⟨q79, q80, q81, q82, q83, q84, q85, q86⟩ := Fb.cells8 (HS.out.box _ mq2)
   go_wp2_with fail
   clear q71 q72 q73 q74 q75 q76 q77 q78 q79 q80 q81 q82 q83 q84 q85 q86
   refine (PHH.out _ HS.out.below).mono ?_
   rintro e w17 ⟨a1z17, n1z17, c1z17, b1z17, m1z17, d1z17, a2z17, n2z17, c2z17, b2z17, m2z17, d2z17, rfl, hi, hb, f1, f2, f3, f4⟩
   have R17 := Lib.hid (Sf.retG4 HS.out HA.out hb hi f1 f2 f3 f4)
   clear hi hb f1 f2 f3 f4
   have P87 := Lib.hid (R17.out.put [.int .i64 0, .slice none 0 0, .int .i64 0, .slice none 0 0, .int .i64 0, .slice none 0 0, .int .i64 0, .slice none 0 0] 28)
   have Q87 := Lib.hid (Sf.row (pre := []) P87.out [.int .i64 DH.s1, .slice a1z17 n1z17 c1z17, .int .i64 DH.t1, .slice b1z17 m1z17 d1z17, .int .i64 DH.s2, .slice a2z17 n2z17 c2z17, .int .i64 DH.t2, .slice b2z17 m2z17 d2z17])
   obtain ⟨V87, hV87⟩ : ∃ V, ((w17.alloc (.cells #[.int .i64 0, .slice none 0 0, .int .i64 0, .slice none 0 0, .int .i64 0, .slice none 0 0, .int .i64 0, .slice none 0 0] 28)).setRow w17.heap.size #[.int .i64 DH.s1, .slice a1z17 n1z17 c1z17, .int .i64 DH.t1, .slice b1z17 m1z17 d1z17, .int .i64 DH.s2, .slice a2z17 n2z17 c2z17, .int .i64 DH.t2, .slice b2z17 m2z17 d2z17]) = V := ⟨_, rfl⟩
   rw [hV87] at Q87
   have HV87 := Lib.hid hV87
   clear hV87 R17
   obtain ⟨q88, q89, q90, q91, q92, q93, q94, q95⟩ := Fb.cells8 (Q87.out.box _ mq2)
   obtain ⟨q96, q97, q98, q99, q100, q101, q102, q103⟩ := Fb.cells8 (Q87.out.box _ mq3)
   go_wp2_with (first | (refine wpList_store_row rfl _ _ _ rfl _ #[.int .i64 DH.s1, .slice a1z17 n1z17 c1z17, .int .i64 DH.t1, .slice b1z17 m1z17 d1z17, .int .i64 DH.s2, .slice a2z17 n2z17 c2z17, .int .i64 DH.t2, .slice b2z17 m2z17 d2z17] rfl rfl _ _ (P87.out.box _ List.mem_cons_self) (by kernel_rfl) rfl (by simp [Value.oneCell']) ?_; rw [HV87.out]))
   clear q88 q89 q90 q91 q92 q93 q94 q95 q96 q97 q98 q99 q100 q101 q102 q103
   refine (QHH.out _ Q87.out.below).mono ?_
   rintro e w18 ⟨a1z18, n1z18, c1z18, b1z18, m1z18, d1z18, a2z18, n2z18, c2z18, b2z18, m2z18, d2z18, rfl, hi, hb, f1, f2, f3, f4⟩
   have R18 := Lib.hid (Sf.retG4 Q87.out HA.out hb hi f1 f2 f3 f4)
   clear hi hb f1 f2 f3 f4
   have P104 := Lib.hid (R18.out.put [.int .i64 0, .slice none 0 0, .int .i64 0, .slice none 0 0, .int .i64 0, .slice none 0 0, .int .i64 0, .slice none 0 0] 28)
   have Q104 := Lib.hid (Sf.row (pre := []) P104.out [.int .i64 DH.s1, .slice a1z18 n1z18 c1z18, .int .i64 DH.t1, .slice b1z18 m1z18 d1z18, .int .i64 DH.s2, .slice a2z18 n2z18 c2z18, .int .i64 DH.t2, .slice b2z18 m2z18 d2z18])
   obtain ⟨V104, hV104⟩ : ∃ V, ((w18.alloc (.cells #[.int .i64 0, .slice none 0 0, .int .i64 0, .slice none 0 0, .int .i64 0, .slice none 0 0, .int .i64 0, .slice none 0 0] 28)).setRow w18.heap.size #[.int .i64 DH.s1, .slice a1z18 n1z18 c1z18, .int .i64 DH.t1, .slice b1z18 m1z18 d1z18, .int .i64 DH.s2, .slice a2z18 n2z18 c2z18, .int .i64 DH.t2, .slice b2z18 m2z18 d2z18]) = V := ⟨_, rfl⟩
   rw [hV104] at Q104
   have HV104 := Lib.hid hV104
   clear hV104 R18
   obtain ⟨q105, q106, q107, q108, q109, q110, q111, q112⟩ := Fb.cells8 (Q104.out.box _ mq3)
   obtain ⟨q113, q114, q115, q116, q117, q118, q119, q120⟩ := Fb.cells8 (Q104.out.box _ mq4)
   go_wp2_with (first | (refine wpList_store_row rfl _ _ _ rfl _ #[.int .i64 DH.s1, .slice a1z18 n1z18 c1z18, .int .i64 DH.t1, .slice b1z18 m1z18 d1z18, .int .i64 DH.s2, .slice a2z18 n2z18 c2z18, .int .i64 DH.t2, .slice b2z18 m2z18 d2z18] rfl rfl _ _ (P104.out.box _ List.mem_cons_self) (by kernel_rfl) rfl (by simp [Value.oneCell']) ?_; rw [HV104.out]))
   clear q105 q106 q107 q108 q109 q110 q111 q112 q113 q114 q115 q116 q117 q118 q119 q120
   refine (PMM.out _ Q104.out.below).mono ?_
   rintro e w19 ⟨a1z19, n1z19, c1z19, b1z19, m1z19, d1z19, a2z19, n2z19, c2z19, b2z19, m2z19, d2z19, rfl, hi, hb, f1, f2, f3, f4⟩
   have R19 := Lib.hid (Sf.retG4 Q104.out HA.out hb hi f1 f2 f3 f4)
   clear hi hb f1 f2 f3 f4
   have P121 := Lib.hid (R19.out.put [.int .i64 0, .slice none 0 0, .int .i64 0, .slice none 0 0, .int .i64 0, .slice none 0 0, .int .i64 0, .slice none 0 0] 28)
   have Q121 := Lib.hid (Sf.row (pre := []) P121.out [.int .i64 DM.s1, .slice a1z19 n1z19 c1z19, .int .i64 DM.t1, .slice b1z19 m1z19 d1z19, .int .i64 DM.s2, .slice a2z19 n2z19 c2z19, .int .i64 DM.t2, .slice b2z19 m2z19 d2z19])
   obtain ⟨V121, hV121⟩ : ∃ V, ((w19.alloc (.cells #[.int .i64 0, .slice none 0 0, .int .i64 0, .slice none 0 0, .int .i64 0, .slice none 0 0, .int .i64 0, .slice none 0 0] 28)).setRow w19.heap.size #[.int .i64 DM.s1, .slice a1z19 n1z19 c1z19, .int .i64 DM.t1, .slice b1z19 m1z19 d1z19, .int .i64 DM.s2, .slice a2z19 n2z19 c2z19, .int .i64 DM.t2, .slice b2z19 m2z19 d2z19]) = V := ⟨_, rfl⟩
   rw [hV121] at Q121
   have HV121 := Lib.hid hV121
   clear hV121 R19
   obtain ⟨q122, q123, q124, q125, q126, q127, q128, q129⟩ := Fb.cells8 (Q121.out.box _ mq4)
   obtain ⟨q130, q131, q132, q133, q134, q135, q136, q137⟩ := Fb.cells8 (Q121.out.box _ mq5)
   go_wp2_with (first | (refine wpList_store_row rfl _ _ _ rfl _ #[.int .i64 DM.s1, .slice a1z19 n1z19 c1z19, .int .i64 DM.t1, .slice b1z19 m1z19 d1z19, .int .i64 DM.s2, .slice a2z19 n2z19 c2z19, .int .i64 DM.t2, .slice b2z19 m2z19 d2z19] rfl rfl _ _ (P121.out.box _ List.mem_cons_self) (by kernel_rfl) rfl (by simp [Value.oneCell']) ?_; rw [HV121.out]))
   clear q122 q123 q124 q125 q126 q127 q128 q129 q130 q131 q132 q133 q134 q135 q136 q137
   refine (QMM.out _ Q121.out.below).mono ?_
   rintro e w20 ⟨a1z20, n1z20, c1z20, b1z20, m1z20, d1z20, a2z20, n2z20, c2z20, b2z20, m2z20, d2z20, rfl, hi, hb, f1, f2, f3, f4⟩
   have R20 := Lib.hid (Sf.retG4 Q121.out HA.out hb hi f1 f2 f3 f4)
   clear hi hb f1 f2 f3 f4
   have P138 := Lib.hid (R20.out.put [.int .i64 0, .slice none 0 0, .int .i64 0, .slice none 0 0, .int .i64 0, .slice none 0 0, .int .i64 0, .slice none 0 0] 28)
   have Q138 := Lib.hid (Sf.row (pre := []) P138.out [.int .i64 DM.s1, .slice a1z20 n1z20 c1z20, .int .i64 DM.t1, .slice b1z20 m1z20 d1z20, .int .i64 DM.s2, .slice a2z20 n2z20 c2z20, .int .i64 DM.t2, .slice b2z20 m2z20 d2z20])
   obtain ⟨V138, hV138⟩ : ∃ V, ((w20.alloc (.cells #[.int .i64 0, .slice none 0 0, .int .i64 0, .slice none 0 0, .int .i64 0, .slice none 0 0, .int .i64 0, .slice none 0 0] 28)).setRow w20.heap.size #[.int .i64 DM.s1, .slice a1z20 n1z20 c1z20, .int .i64 DM.t1, .slice b1z20 m1z20 d1z20, .int .i64 DM.s2, .slice a2z20 n2z20 c2z20, .int .i64 DM.t2, .slice b2z20 m2z20 d2z20]) = V := ⟨_, rfl⟩
   rw [hV138] at Q138
   have HV138 := Lib.hid hV138
   clear hV138 R20
   go_upto_region 15 with (first | (refine wpList_store_row rfl _ _ _ rfl _ #[.int .i64 DM.s1, .slice a1z20 n1z20 c1z20, .int .i64 DM.t1, .slice b1z20 m1z20 d1z20, .int .i64 DM.s2, .slice a2z20 n2z20 c2z20, .int .i64 DM.t2, .slice b2z20 m2z20 d2z20] rfl rfl _ _ (P138.out.box _ List.mem_cons_self) (by kernel_rfl) rfl (by simp [Value.oneCell']) ?_; rw [HV138.out]))
   go_cut [119] from 84 to 119 (fun u wx => u = .bool false ∧ Hid (Sf w [(w20.heap.size, 28, [.int .i64 DM.s1, .slice a1z20 n1z20 c1z20, .int .i64 DM.t1, .slice b1z20 m1z20 d1z20, .int .i64 DM.s2, .slice a2z20 n2z20 c2z20, .int .i64 DM.t2, .slice b2z20 m2z20 d2z20]), (w19.heap.size, 28, [.int .i64 DM.s1, .slice a1z19 n1z19 c1z19, .int .i64 DM.t1, .slice b1z19 m1z19 d1z19, .int .i64 DM.s2, .slice a2z19 n2z19 c2z19, .int .i64 DM.t2, .slice b2z19 m2z19 d2z19]), (w18.heap.size, 28, [.int .i64 DH.s1, .slice a1z18 n1z18 c1z18, .int .i64 DH.t1, .slice b1z18 m1z18 d1z18, .int .i64 DH.s2, .slice a2z18 n2z18 c2z18, .int .i64 DH.t2, .slice b2z18 m2z18 d2z18]), (w17.heap.size, 28, [.int .i64 DH.s1, .slice a1z17 n1z17 c1z17, .int .i64 DH.t1, .slice b1z17 m1z17 d1z17, .int .i64 DH.s2, .slice a2z17 n2z17 c2z17, .int .i64 DH.t2, .slice b2z17 m2z17 d2z17]), (w.heap.size + 1 + 1, 26, [.int .i64 s5, .slice a5 n5 c5, .int .i64 t5, .slice b5 m5 d5]), (w.heap.size + 1, 28, [.int .i64 s3, .slice a3 n3 c3, .int .i64 t3, .slice b3 m3 d3, .int .i64 s4, .slice a4 n4 c4, .int .i64 t4, .slice b4 m4 d4]), (w.heap.size, 28, [.int .i64 s1, .slice a1 n1 c1, .int .i64 t1, .slice b1 m1 d1, .int .i64 s2, .slice a2 n2 c2, .int .i64 t2, .slice b2 m2 d2])] [(.slice a1z20 n1z20 c1z20, DM.l1), (.slice b1z20 m1z20 d1z20, DM.k1), (.slice a2z20 n2z20 c2z20, DM.l2), (.slice b2z20 m2z20 d2z20, DM.k2), (.slice a1z19 n1z19 c1z19, DM.l1), (.slice b1z19 m1z19 d1z19, DM.k1), (.slice a2z19 n2z19 c2z19, DM.l2), (.slice b2z19 m2z19 d2z19, DM.k2), (.slice a1z18 n1z18 c1z18, DH.l1), (.slice b1z18 m1z18 d1z18, DH.k1), (.slice a2z18 n2z18 c2z18, DH.l2), (.slice b2z18 m2z18 d2z18, DH.k2), (.slice a1z17 n1z17 c1z17, DH.l1), (.slice b1z17 m1z17 d1z17, DH.k1), (.slice a2z17 n2z17 c2z17, DH.l2), (.slice b2z17 m2z17 d2z17, DH.k2), (.slice a5 n5 c5, l5), (.slice b5 m5 d5, k5), (.slice a4 n4 c4, l4), (.slice b4 m4 d4, k4), (.slice a3 n3 c3, l3), (.slice b3 m3 d3, k3), (.slice a2 n2 c2, l2), (.slice b2 m2 d2, k2), (.slice a1 n1 c1, l1), (.slice b1 m1 d1, k1)] wx))
   case first =>
    have K0 : ∀ W F, Sf w [(w20.heap.size, 28, [.int .i64 DM.s1, .slice a1z20 n1z20 c1z20, .int .i64 DM.t1, .slice b1z20 m1z20 d1z20, .int .i64 DM.s2, .slice a2z20 n2z20 c2z20, .int .i64 DM.t2, .slice b2z20 m2z20 d2z20]), (w19.heap.size, 28, [.int .i64 DM.s1, .slice a1z19 n1z19 c1z19, .int .i64 DM.t1, .slice b1z19 m1z19 d1z19, .int .i64 DM.s2, .slice a2z19 n2z19 c2z19, .int .i64 DM.t2, .slice b2z19 m2z19 d2z19]), (w18.heap.size, 28, [.int .i64 DH.s1, .slice a1z18 n1z18 c1z18, .int .i64 DH.t1, .slice b1z18 m1z18 d1z18, .int .i64 DH.s2, .slice a2z18 n2z18 c2z18, .int .i64 DH.t2, .slice b2z18 m2z18 d2z18]), (w17.heap.size, 28, [.int .i64 DH.s1, .slice a1z17 n1z17 c1z17, .int .i64 DH.t1, .slice b1z17 m1z17 d1z17, .int .i64 DH.s2, .slice a2z17 n2z17 c2z17, .int .i64 DH.t2, .slice b2z17 m2z17 d2z17]), (w.heap.size + 1 + 1, 26, [.int .i64 s5, .slice a5 n5 c5, .int .i64 t5, .slice b5 m5 d5]), (w.heap.size + 1, 28, [.int .i64 s3, .slice a3 n3 c3, .int .i64 t3, .slice b3 m3 d3, .int .i64 s4, .slice a4 n4 c4, .int .i64 t4, .slice b4 m4 d4]), (w.heap.size, 28, [.int .i64 s1, .slice a1 n1 c1, .int .i64 t1, .slice b1 m1 d1, .int .i64 s2, .slice a2 n2 c2, .int .i64 t2, .slice b2 m2 d2])] F W → W.cell? ⟨w20.heap.size, 0, none⟩ = some (.int .i64 DM.s1) ∧ W.cell? ⟨w20.heap.size, 1, none⟩ = some (.slice a1z20 n1z20 c1z20) ∧ W.cell? ⟨w20.heap.size, 2, none⟩ = some (.int .i64 DM.t1) ∧ W.cell? ⟨w20.heap.size, 3, none⟩ = some (.slice b1z20 m1z20 d1z20) ∧ W.cell? ⟨w20.heap.size, 4, none⟩ = some (.int .i64 DM.s2) ∧ W.cell? ⟨w20.heap.size, 5, none⟩ = some (.slice a2z20 n2z20 c2z20) ∧ W.cell? ⟨w20.heap.size, 6, none⟩ = some (.int .i64 DM.t2) ∧ W.cell? ⟨w20.heap.size, 7, none⟩ = some (.slice b2z20 m2z20 d2z20) ∧ W.cell? ⟨w19.heap.size, 0, none⟩ = some (.int .i64 DM.s1) ∧ W.cell? ⟨w19.heap.size, 1, none⟩ = some (.slice a1z19 n1z19 c1z19) ∧ W.cell? ⟨w19.heap.size, 2, none⟩ = some (.int .i64 DM.t1) ∧ W.cell? ⟨w19.heap.size, 3, none⟩ = some (.slice b1z19 m1z19 d1z19) ∧ W.cell? ⟨w19.heap.size, 4, none⟩ = some (.int .i64 DM.s2) ∧ W.cell? ⟨w19.heap.size, 5, none⟩ = some (.slice a2z19 n2z19 c2z19) ∧ W.cell? ⟨w19.heap.size, 6, none⟩ = some (.int .i64 DM.t2) ∧ W.cell? ⟨w19.heap.size, 7, none⟩ = some (.slice b2z19 m2z19 d2z19) ∧ W.cell? ⟨w18.heap.size, 0, none⟩ = some (.int .i64 DH.s1) ∧ W.cell? ⟨w18.heap.size, 1, none⟩ = some (.slice a1z18 n1z18 c1z18) ∧ W.cell? ⟨w18.heap.size, 2, none⟩ = some (.int .i64 DH.t1) ∧ W.cell? ⟨w18.heap.size, 3, none⟩ = some (.slice b1z18 m1z18 d1z18) ∧ W.cell? ⟨w18.heap.size, 4, none⟩ = some (.int .i64 DH.s2) ∧ W.cell? ⟨w18.heap.size, 5, none⟩ = some (.slice a2z18 n2z18 c2z18) ∧ W.cell? ⟨w18.heap.size, 6, none⟩ = some (.int .i64 DH.t2) ∧ W.cell? ⟨w18.heap.size, 7, none⟩ = some (.slice b2z18 m2z18 d2z18) ∧ W.cell? ⟨w17.heap.size, 0, none⟩ = some (.int .i64 DH.s1) ∧ W.cell? ⟨w17.heap.size, 1, none⟩ = some (.slice a1z17 n1z17 c1z17) ∧ W.cell? ⟨w17.heap.size, 2, none⟩ = some (.int .i64 DH.t1) ∧ W.cell? ⟨w17.heap.size, 3, none⟩ = some (.slice b1z17 m1z17 d1z17) ∧ W.cell? ⟨w17.heap.size, 4, none⟩ = some (.int .i64 DH.s2) ∧ W.cell? ⟨w17.heap.size, 5, none⟩ = some (.slice a2z17 n2z17 c2z17) ∧ W.cell? ⟨w17.heap.size, 6, none⟩ = some (.int .i64 DH.t2) ∧ W.cell? ⟨w17.heap.size, 7, none⟩ = some (.slice b2z17 m2z17 d2z17) ∧ W.cell? ⟨w.heap.size + 1, 0, none⟩ = some (.int .i64 s3) ∧ W.cell? ⟨w.heap.size + 1, 1, none⟩ = some (.slice a3 n3 c3) ∧ W.cell? ⟨w.heap.size + 1, 2, none⟩ = some (.int .i64 t3) ∧ W.cell? ⟨w.heap.size + 1, 3, none⟩ = some (.slice b3 m3 d3) ∧ W.cell? ⟨w.heap.size + 1, 4, none⟩ = some (.int .i64 s4) ∧ W.cell? ⟨w.heap.size + 1, 5, none⟩ = some (.slice a4 n4 c4) ∧ W.cell? ⟨w.heap.size + 1, 6, none⟩ = some (.int .i64 t4) ∧ W.cell? ⟨w.heap.size + 1, 7, none⟩ = some (.slice b4 m4 d4) ∧ W.cell? ⟨w.heap.size, 0, none⟩ = some (.int .i64 s1) ∧ W.cell? ⟨w.heap.size, 1, none⟩ = some (.slice a1 n1 c1) ∧ W.cell? ⟨w.heap.size, 2, none⟩ = some (.int .i64 t1) ∧ W.cell? ⟨w.heap.size, 3, none⟩ = some (.slice b1 m1 d1) ∧ W.cell? ⟨w.heap.size, 4, none⟩ = some (.int .i64 s2) ∧ W.cell? ⟨w.heap.size, 5, none⟩ = some (.slice a2 n2 c2) ∧ W.cell? ⟨w.heap.size, 6, none⟩ = some (.int .i64 t2) ∧ W.cell? ⟨w.heap.size, 7, none⟩ = some (.slice b2 m2 d2) := fun W F h => ⟨(h.box _ mq0).cell 0, (h.box _ mq0).cell 1, (h.box _ mq0).cell 2, (h.box _ mq0).cell 3, (h.box _ mq0).cell 4, (h.box _ mq0).cell 5, (h.box _ mq0).cell 6, (h.box _ mq0).cell 7, (h.box _ mq1).cell 0, (h.box _ mq1).cell 1, (h.box _ mq1).cell 2, (h.box _ mq1).cell 3, (h.box _ mq1).cell 4, (h.box _ mq1).cell 5, (h.box _ mq1).cell 6, (h.box _ mq1).cell 7, (h.box _ mq2).cell 0, (h.box _ mq2).cell 1, (h.box _ mq2).cell 2, (h.box _ mq2).cell 3, (h.box _ mq2).cell 4, (h.box _ mq2).cell 5, (h.box _ mq2).cell 6, (h.box _ mq2).cell 7, (h.box _ mq3).cell 0, (h.box _ mq3).cell 1, (h.box _ mq3).cell 2, (h.box _ mq3).cell 3, (h.box _ mq3).cell 4, (h.box _ mq3).cell 5, (h.box _ mq3).cell 6, (h.box _ mq3).cell 7, (h.box _ mq5).cell 0, (h.box _ mq5).cell 1, (h.box _ mq5).cell 2, (h.box _ mq5).cell 3, (h.box _ mq5).cell 4, (h.box _ mq5).cell 5, (h.box _ mq5).cell 6, (h.box _ mq5).cell 7, (h.box _ mq6).cell 0, (h.box _ mq6).cell 1, (h.box _ mq6).cell 2, (h.box _ mq6).cell 3, (h.box _ mq6).cell 4, (h.box _ mq6).cell 5, (h.box _ mq6).cell 6, (h.box _ mq6).cell 7⟩
    have KK := Lib.hid K0
    clear K0
    have N0 := Lib.hid Q138.out.drew
    clear Q138
    have e0 := KK.out _ _ N0.out
    refine wp_region_held_drew (S := fun W => W.cell? ⟨w20.heap.size, 0, none⟩ = some (.int .i64 DM.s1) ∧ W.cell? ⟨w20.heap.size, 1, none⟩ = some (.slice a1z20 n1z20 c1z20) ∧ W.cell? ⟨w20.heap.size, 2, none⟩ = some (.int .i64 DM.t1) ∧ W.cell? ⟨w20.heap.size, 3, none⟩ = some (.slice b1z20 m1z20 d1z20) ∧ W.cell? ⟨w20.heap.size, 4, none⟩ = some (.int .i64 DM.s2) ∧ W.cell? ⟨w20.heap.size, 5, none⟩ = some (.slice a2z20 n2z20 c2z20) ∧ W.cell? ⟨w20.heap.size, 6, none⟩ = some (.int .i64 DM.t2) ∧ W.cell? ⟨w20.heap.size, 7, none⟩ = some (.slice b2z20 m2z20 d2z20) ∧ W.cell? ⟨w19.heap.size, 0, none⟩ = some (.int .i64 DM.s1) ∧ W.cell? ⟨w19.heap.size, 1, none⟩ = some (.slice a1z19 n1z19 c1z19) ∧ W.cell? ⟨w19.heap.size, 2, none⟩ = some (.int .i64 DM.t1) ∧ W.cell? ⟨w19.heap.size, 3, none⟩ = some (.slice b1z19 m1z19 d1z19) ∧ W.cell? ⟨w19.heap.size, 4, none⟩ = some (.int .i64 DM.s2) ∧ W.cell? ⟨w19.heap.size, 5, none⟩ = some (.slice a2z19 n2z19 c2z19) ∧ W.cell? ⟨w19.heap.size, 6, none⟩ = some (.int .i64 DM.t2) ∧ W.cell? ⟨w19.heap.size, 7, none⟩ = some (.slice b2z19 m2z19 d2z19) ∧ W.cell? ⟨w18.heap.size, 0, none⟩ = some (.int .i64 DH.s1) ∧ W.cell? ⟨w18.heap.size, 1, none⟩ = some (.slice a1z18 n1z18 c1z18) ∧ W.cell? ⟨w18.heap.size, 2, none⟩ = some (.int .i64 DH.t1) ∧ W.cell? ⟨w18.heap.size, 3, none⟩ = some (.slice b1z18 m1z18 d1z18) ∧ W.cell? ⟨w18.heap.size, 4, none⟩ = some (.int .i64 DH.s2) ∧ W.cell? ⟨w18.heap.size, 5, none⟩ = some (.slice a2z18 n2z18 c2z18) ∧ W.cell? ⟨w18.heap.size, 6, none⟩ = some (.int .i64 DH.t2) ∧ W.cell? ⟨w18.heap.size, 7, none⟩ = some (.slice b2z18 m2z18 d2z18) ∧ W.cell? ⟨w17.heap.size, 0, none⟩ = some (.int .i64 DH.s1) ∧ W.cell? ⟨w17.heap.size, 1, none⟩ = some (.slice a1z17 n1z17 c1z17) ∧ W.cell? ⟨w17.heap.size, 2, none⟩ = some (.int .i64 DH.t1) ∧ W.cell? ⟨w17.heap.size, 3, none⟩ = some (.slice b1z17 m1z17 d1z17) ∧ W.cell? ⟨w17.heap.size, 4, none⟩ = some (.int .i64 DH.s2) ∧ W.cell? ⟨w17.heap.size, 5, none⟩ = some (.slice a2z17 n2z17 c2z17) ∧ W.cell? ⟨w17.heap.size, 6, none⟩ = some (.int .i64 DH.t2) ∧ W.cell? ⟨w17.heap.size, 7, none⟩ = some (.slice b2z17 m2z17 d2z17) ∧ W.cell? ⟨w.heap.size + 1, 0, none⟩ = some (.int .i64 s3) ∧ W.cell? ⟨w.heap.size + 1, 1, none⟩ = some (.slice a3 n3 c3) ∧ W.cell? ⟨w.heap.size + 1, 2, none⟩ = some (.int .i64 t3) ∧ W.cell? ⟨w.heap.size + 1, 3, none⟩ = some (.slice b3 m3 d3) ∧ W.cell? ⟨w.heap.size + 1, 4, none⟩ = some (.int .i64 s4) ∧ W.cell? ⟨w.heap.size + 1, 5, none⟩ = some (.slice a4 n4 c4) ∧ W.cell? ⟨w.heap.size + 1, 6, none⟩ = some (.int .i64 t4) ∧ W.cell? ⟨w.heap.size + 1, 7, none⟩ = some (.slice b4 m4 d4) ∧ W.cell? ⟨w.heap.size, 0, none⟩ = some (.int .i64 s1) ∧ W.cell? ⟨w.heap.size, 1, none⟩ = some (.slice a1 n1 c1) ∧ W.cell? ⟨w.heap.size, 2, none⟩ = some (.int .i64 t1) ∧ W.cell? ⟨w.heap.size, 3, none⟩ = some (.slice b1 m1 d1) ∧ W.cell? ⟨w.heap.size, 4, none⟩ = some (.int .i64 s2) ∧ W.cell? ⟨w.heap.size, 5, none⟩ = some (.slice a2 n2 c2) ∧ W.cell? ⟨w.heap.size, 6, none⟩ = some (.int .i64 t2) ∧ W.cell? ⟨w.heap.size, 7, none⟩ = some (.slice b2 m2 d2)) (by kernel_rfl) e0 (fun hHeld => ?_)
    refine wpAnyH_take (i := 0) (oi := ⟨_, _, _, _, _, _⟩) (v := ?_) rfl (by kernel_rfl) (by kernel_rfl) (by kernel_rfl) (fun _ _ _ h => h) (Or.inl ⟨by rfl, ?_⟩) (by assumption) ?_
    rotate_left
    focus (intro w hSw; (try dsimp only at hSw); go_simp; (try with_reducible rfl))
    try simp only [Act.put, List.setIfInBounds_toArray, List.set_cons_zero, List.set_cons_succ]
    refine wpAnyH_take (i := 1) (oi := ⟨_, _, _, _, _, _⟩) (v := ?_) rfl (by kernel_rfl) (by kernel_rfl) (by kernel_rfl) (fun _ _ _ h => h) (Or.inl ⟨by rfl, ?_⟩) (by assumption) ?_
    rotate_left
    focus (intro w hSw; (try dsimp only at hSw); go_simp; (try with_reducible rfl))
    try simp only [Act.put, List.setIfInBounds_toArray, List.set_cons_zero, List.set_cons_succ]
    refine wpAnyH_ready (rs := [2]) (by kernel_rfl) (by simp) ?_
    refine AllReadyH.cons (o := ⟨_, _, _, _, _, _⟩) rfl (fun K hK => ?_) AllReadyH.nil
    first | go_at_call 15 | go_at_call 9 | go_at_call 14 | go_at_call 16 | (rw [if_pos ?_]; rotate_left; (focus rfl); go_simp) | skip
    try go_at_call 9
    refine (r10same_raw (s1 := DH.s1) (t1 := DH.t1) (s2 := DH.s2) (t2 := DH.t2) (s3 := DH.s1) (t3 := DH.t1) (s4 := DH.s2) (t4 := DH.t2) (N0.out.ints (.slice a1z17 n1z17 c1z17, DH.l1) mq12) (N0.out.ints (.slice b1z17 m1z17 d1z17, DH.k1) mq13) (N0.out.ints (.slice a2z17 n2z17 c2z17, DH.l2) mq14) (N0.out.ints (.slice b2z17 m2z17 d2z17, DH.k2) mq15) (N0.out.ints (.slice a1z18 n1z18 c1z18, DH.l1) mq8) (N0.out.ints (.slice b1z18 m1z18 d1z18, DH.k1) mq9) (N0.out.ints (.slice a2z18 n2z18 c2z18, DH.l2) mq10) (N0.out.ints (.slice b2z18 m2z18 d2z18, DH.k2) mq11) (same_self DH)).mono ?_
    rintro e y21_0 ⟨rfl, hb⟩
    have N1 := Lib.hid (N0.out.later hb)
    clear hb
    have e1 := KK.out _ _ N1.out
    try dsimp only
    refine hK.out _ _ (by (try dsimp only); exact e1) (fun hHeld2 => ?_)
    clear hK K hHeld
    have hHeld := hHeld2
    clear hHeld2
    try simp only [Act.put, List.setIfInBounds_toArray, List.set_cons_zero, List.set_cons_succ]
    refine wpAnyH_take (i := 3) (oi := ⟨_, _, _, _, _, _⟩) (v := ?_) rfl (by kernel_rfl) (by kernel_rfl) (by kernel_rfl) (fun _ _ _ h => h) (Or.inl ⟨by rfl, ?_⟩) (by assumption) ?_
    rotate_left
    focus (intro w hSw; (try dsimp only at hSw); go_simp; (try with_reducible rfl))
    try simp only [Act.put, List.setIfInBounds_toArray, List.set_cons_zero, List.set_cons_succ]
    refine wpAnyH_take (i := 4) (oi := ⟨_, _, _, _, _, _⟩) (v := ?_) rfl (by kernel_rfl) (by kernel_rfl) (by kernel_rfl) (fun _ _ _ h => h) (Or.inl ⟨by rfl, ?_⟩) (by assumption) ?_
    rotate_left
    focus (intro w hSw; (try dsimp only at hSw); go_simp; (try with_reducible rfl))
    try simp only [Act.put, List.setIfInBounds_toArray, List.set_cons_zero, List.set_cons_succ]
    refine wpAnyH_take (i := 5) (oi := ⟨_, _, _, _, _, _⟩) (v := ?_) rfl (by kernel_rfl) (by kernel_rfl) (by kernel_rfl) (fun _ _ _ h => h) (Or.inl ⟨by rfl, ?_⟩) (by assumption) ?_
    rotate_left
    focus (intro w hSw; (try dsimp only at hSw); go_simp; (try with_reducible rfl))
    try simp only [Act.put, List.setIfInBounds_toArray, List.set_cons_zero, List.set_cons_succ]
    refine wpAnyH_take (i := 6) (oi := ⟨_, _, _, _, _, _⟩) (v := ?_) rfl (by kernel_rfl) (by kernel_rfl) (by kernel_rfl) (fun _ _ _ h => h) (Or.inl ⟨by rfl, ?_⟩) (by assumption) ?_
    rotate_left
    focus (intro w hSw; (try dsimp only at hSw); go_simp; (try with_reducible rfl))
    try simp only [Act.put, List.setIfInBounds_toArray, List.set_cons_zero, List.set_cons_succ]
    refine wpAnyH_take (i := 7) (oi := ⟨_, _, _, _, _, _⟩) (v := ?_) rfl (by kernel_rfl) (by kernel_rfl) (by kernel_rfl) (fun _ _ _ h => h) (Or.inl ⟨by rfl, ?_⟩) (by assumption) ?_
    rotate_left
    focus (intro w hSw; (try dsimp only at hSw); go_simp; (try with_reducible rfl))
    try simp only [Act.put, List.setIfInBounds_toArray, List.set_cons_zero, List.set_cons_succ]
    refine wpAnyH_take (i := 8) (oi := ⟨_, _, _, _, _, _⟩) (v := ?_) rfl (by kernel_rfl) (by kernel_rfl) (by kernel_rfl) (fun _ _ _ h => h) (Or.inl ⟨by rfl, ?_⟩) (by assumption) ?_
    rotate_left
    focus (intro w hSw; (try dsimp only at hSw); go_simp; (try with_reducible rfl))
    try simp only [Act.put, List.setIfInBounds_toArray, List.set_cons_zero, List.set_cons_succ]
    refine wpAnyH_take (i := 9) (oi := ⟨_, _, _, _, _, _⟩) (v := ?_) rfl (by kernel_rfl) (by kernel_rfl) (by kernel_rfl) (fun _ _ _ h => h) (Or.inl ⟨by rfl, ?_⟩) (by assumption) ?_
    rotate_left
    focus (intro w hSw; (try dsimp only at hSw); go_simp; (try with_reducible rfl))
    try simp only [Act.put, List.setIfInBounds_toArray, List.set_cons_zero, List.set_cons_succ]
    refine wpAnyH_take (i := 10) (oi := ⟨_, _, _, _, _, _⟩) (v := ?_) rfl (by kernel_rfl) (by kernel_rfl) (by kernel_rfl) (fun _ _ _ h => h) (Or.inl ⟨by rfl, ?_⟩) (by assumption) ?_
    rotate_left
    focus (intro w hSw; (try dsimp only at hSw); go_simp; (try with_reducible rfl))
    try simp only [Act.put, List.setIfInBounds_toArray, List.set_cons_zero, List.set_cons_succ]
    refine wpAnyH_take (i := 11) (oi := ⟨_, _, _, _, _, _⟩) (v := ?_) rfl (by kernel_rfl) (by kernel_rfl) (by kernel_rfl) (fun _ _ _ h => h) (Or.inl ⟨by rfl, ?_⟩) (by assumption) ?_
    rotate_left
    focus (intro w hSw; (try dsimp only at hSw); go_simp; (try with_reducible rfl))
    try simp only [Act.put, List.setIfInBounds_toArray, List.set_cons_zero, List.set_cons_succ]
    refine wpAnyH_ready (rs := [12]) (by kernel_rfl) (by simp) ?_
    refine AllReadyH.cons (o := ⟨_, _, _, _, _, _⟩) rfl (fun K hK => ?_) AllReadyH.nil
    first | go_at_call 15 | go_at_call 9 | go_at_call 14 | go_at_call 16 | (rw [if_pos ?_]; rotate_left; (focus rfl); go_simp) | skip
    try go_at_call 9
    refine (r10same_raw (s1 := DM.s1) (t1 := DM.t1) (s2 := DM.s2) (t2 := DM.t2) (s3 := DM.s1) (t3 := DM.t1) (s4 := DM.s2) (t4 := DM.t2) (N1.out.ints (.slice a1z19 n1z19 c1z19, DM.l1) mq4) (N1.out.ints (.slice b1z19 m1z19 d1z19, DM.k1) mq5) (N1.out.ints (.slice a2z19 n2z19 c2z19, DM.l2) mq6) (N1.out.ints (.slice b2z19 m2z19 d2z19, DM.k2) mq7) (N1.out.ints (.slice a1z20 n1z20 c1z20, DM.l1) mq0) (N1.out.ints (.slice b1z20 m1z20 d1z20, DM.k1) mq1) (N1.out.ints (.slice a2z20 n2z20 c2z20, DM.l2) mq2) (N1.out.ints (.slice b2z20 m2z20 d2z20, DM.k2) mq3) (same_self DM)).mono ?_
    rintro e y21_1 ⟨rfl, hb⟩
    have N2 := Lib.hid (N1.out.later hb)
    clear hb
    have e2 := KK.out _ _ N2.out
    try dsimp only
    refine hK.out _ _ (by (try dsimp only); exact e2) (fun hHeld2 => ?_)
    clear hK K hHeld
    have hHeld := hHeld2
    clear hHeld2
    try simp only [Act.put, List.setIfInBounds_toArray, List.set_cons_zero, List.set_cons_succ]
    refine wpAnyH_take (i := 13) (oi := ⟨_, _, _, _, _, _⟩) (v := ?_) rfl (by kernel_rfl) (by kernel_rfl) (by kernel_rfl) (fun _ _ _ h => h) (Or.inl ⟨by rfl, ?_⟩) (by assumption) ?_
    rotate_left
    focus (intro w hSw; (try dsimp only at hSw); go_simp; (try with_reducible rfl))
    try simp only [Act.put, List.setIfInBounds_toArray, List.set_cons_zero, List.set_cons_succ]
    refine wpAnyH_take (i := 14) (oi := ⟨_, _, _, _, _, _⟩) (v := ?_) rfl (by kernel_rfl) (by kernel_rfl) (by kernel_rfl) (fun _ _ _ h => h) (Or.inl ⟨by rfl, ?_⟩) (by assumption) ?_
    rotate_left
    focus (intro w hSw; (try dsimp only at hSw); go_simp; (try with_reducible rfl))
    try simp only [Act.put, List.setIfInBounds_toArray, List.set_cons_zero, List.set_cons_succ]
    refine wpAnyH_take (i := 15) (oi := ⟨_, _, _, _, _, _⟩) (v := ?_) rfl (by kernel_rfl) (by kernel_rfl) (by kernel_rfl) (fun _ _ _ h => h) (Or.inl ⟨by rfl, ?_⟩) (by assumption) ?_
    rotate_left
    focus (intro w hSw; (try dsimp only at hSw); go_simp; (try with_reducible rfl))
    try simp only [Act.put, List.setIfInBounds_toArray, List.set_cons_zero, List.set_cons_succ]
    refine wpAnyH_take (i := 16) (oi := ⟨_, _, _, _, _, _⟩) (v := ?_) rfl (by kernel_rfl) (by kernel_rfl) (by kernel_rfl) (fun _ _ _ h => h) (Or.inl ⟨by rfl, ?_⟩) (by assumption) ?_
    rotate_left
    focus (intro w hSw; (try dsimp only at hSw); go_simp; (try with_reducible rfl))
    try simp only [Act.put, List.setIfInBounds_toArray, List.set_cons_zero, List.set_cons_succ]
    refine wpAnyH_take (i := 17) (oi := ⟨_, _, _, _, _, _⟩) (v := ?_) rfl (by kernel_rfl) (by kernel_rfl) (by kernel_rfl) (fun _ _ _ h => h) (Or.inl ⟨by rfl, ?_⟩) (by assumption) ?_
    rotate_left
    focus (intro w hSw; (try dsimp only at hSw); go_simp; (try with_reducible rfl))
    try simp only [Act.put, List.setIfInBounds_toArray, List.set_cons_zero, List.set_cons_succ]
    refine wpAnyH_take (i := 18) (oi := ⟨_, _, _, _, _, _⟩) (v := ?_) rfl (by kernel_rfl) (by kernel_rfl) (by kernel_rfl) (fun _ _ _ h => h) (Or.inl ⟨by rfl, ?_⟩) (by assumption) ?_
    rotate_left
    focus (intro w hSw; (try dsimp only at hSw); go_simp; (try with_reducible rfl))
    try simp only [Act.put, List.setIfInBounds_toArray, List.set_cons_zero, List.set_cons_succ]
    refine wpAnyH_take (i := 19) (oi := ⟨_, _, _, _, _, _⟩) (v := ?_) rfl (by kernel_rfl) (by kernel_rfl) (by kernel_rfl) (fun _ _ _ h => h) (Or.inl ⟨by rfl, ?_⟩) (by assumption) ?_
    rotate_left
    focus (intro w hSw; (try dsimp only at hSw); go_simp; (try with_reducible rfl))
    try simp only [Act.put, List.setIfInBounds_toArray, List.set_cons_zero, List.set_cons_succ]
    refine wpAnyH_take (i := 20) (oi := ⟨_, _, _, _, _, _⟩) (v := ?_) rfl (by kernel_rfl) (by kernel_rfl) (by kernel_rfl) (fun _ _ _ h => h) (Or.inl ⟨by rfl, ?_⟩) (by assumption) ?_
    rotate_left
    focus (intro w hSw; (try dsimp only at hSw); go_simp; (try with_reducible rfl))
    try simp only [Act.put, List.setIfInBounds_toArray, List.set_cons_zero, List.set_cons_succ]
    refine wpAnyH_take (i := 21) (oi := ⟨_, _, _, _, _, _⟩) (v := ?_) rfl (by kernel_rfl) (by kernel_rfl) (by kernel_rfl) (fun _ _ _ h => h) (Or.inl ⟨by rfl, ?_⟩) (by assumption) ?_
    rotate_left
    focus (intro w hSw; (try dsimp only at hSw); go_simp; (try with_reducible rfl))
    try simp only [Act.put, List.setIfInBounds_toArray, List.set_cons_zero, List.set_cons_succ]
    refine wpAnyH_take (i := 23) (oi := ⟨_, _, _, _, _, _⟩) (v := ?_) rfl (by kernel_rfl) (by kernel_rfl) (by kernel_rfl) (fun _ _ _ h => h) (Or.inl ⟨by rfl, ?_⟩) (by assumption) ?_
    rotate_left
    focus (intro w hSw; (try dsimp only at hSw); go_simp; (try with_reducible rfl))
    try simp only [Act.put, List.setIfInBounds_toArray, List.set_cons_zero, List.set_cons_succ]
    refine wpAnyH_ready (rs := [22]) (by kernel_rfl) (by simp) ?_
    refine AllReadyH.cons (o := ⟨_, _, _, _, _, _⟩) rfl (fun K hK => ?_) AllReadyH.nil
    first | go_at_call 15 | go_at_call 9 | go_at_call 14 | go_at_call 16 | (rw [if_pos ?_]; rotate_left; (focus rfl); go_simp) | skip
    try go_at_call 14
    refine (p10right_raw (N2.out.ints (.slice a1 n1 c1, l1) mq24) (N2.out.ints (.slice b1 m1 d1, k1) mq25) LL1.out LK1.out (N2.out.ints (.slice a2 n2 c2, l2) mq22) (N2.out.ints (.slice b2 m2 d2, k2) mq23) LL2.out LK2.out HRA.out).mono ?_
    rintro e y21_2 ⟨rfl, hb⟩
    have N3 := Lib.hid (N2.out.later hb)
    clear hb
    have e3 := KK.out _ _ N3.out
    try dsimp only
    refine hK.out _ _ (by (try dsimp only); exact e3) (fun hHeld2 => ?_)
    clear hK K hHeld
    have hHeld := hHeld2
    clear hHeld2
    try simp only [Act.put, List.setIfInBounds_toArray, List.set_cons_zero, List.set_cons_succ]
    refine wpAnyH_ready (rs := [24]) (by kernel_rfl) (by simp) ?_
    refine AllReadyH.cons (o := ⟨_, _, _, _, _, _⟩) rfl (fun K hK => ?_) AllReadyH.nil
    first | go_at_call 15 | go_at_call 9 | go_at_call 14 | go_at_call 16 | (rw [if_pos ?_]; rotate_left; (focus rfl); go_simp) | skip
    try go_at_call 15
    refine (r10right_raw (N3.out.ints (.slice a1 n1 c1, l1) mq24) (N3.out.ints (.slice b1 m1 d1, k1) mq25) LL1.out LK1.out (N3.out.ints (.slice a2 n2 c2, l2) mq22) (N3.out.ints (.slice b2 m2 d2, k2) mq23) LL2.out LK2.out HRA.out).mono ?_
    rintro e y21_3 ⟨rfl, hb⟩
    have N4 := Lib.hid (N3.out.later hb)
    clear hb
    have e4 := KK.out _ _ N4.out
    try dsimp only
    refine hK.out _ _ (by (try dsimp only); exact e4) (fun hHeld2 => ?_)
    clear hK K hHeld
    have hHeld := hHeld2
    clear hHeld2
    try simp only [Act.put, List.setIfInBounds_toArray, List.set_cons_zero, List.set_cons_succ]
    refine wpAnyH_take (i := 25) (oi := ⟨_, _, _, _, _, _⟩) (v := ?_) rfl (by kernel_rfl) (by kernel_rfl) (by kernel_rfl) (fun _ _ _ h => h) (Or.inl ⟨by rfl, ?_⟩) (by assumption) ?_
    rotate_left
    focus (intro w hSw; (try dsimp only at hSw); go_simp; (try with_reducible rfl))
    try simp only [Act.put, List.setIfInBounds_toArray, List.set_cons_zero, List.set_cons_succ]
    refine wpAnyH_take (i := 26) (oi := ⟨_, _, _, _, _, _⟩) (v := ?_) rfl (by kernel_rfl) (by kernel_rfl) (by kernel_rfl) (fun _ _ _ h => h) (Or.inl ⟨by rfl, ?_⟩) (by assumption) ?_
    rotate_left
    focus (intro w hSw; (try dsimp only at hSw); go_simp; (try with_reducible rfl))
    try simp only [Act.put, List.setIfInBounds_toArray, List.set_cons_zero, List.set_cons_succ]
    refine wpAnyH_take (i := 27) (oi := ⟨_, _, _, _, _, _⟩) (v := ?_) rfl (by kernel_rfl) (by kernel_rfl) (by kernel_rfl) (fun _ _ _ h => h) (Or.inl ⟨by rfl, ?_⟩) (by assumption) ?_
    rotate_left
    focus (intro w hSw; (try dsimp only at hSw); go_simp; (try with_reducible rfl))
    try simp only [Act.put, List.setIfInBounds_toArray, List.set_cons_zero, List.set_cons_succ]
    refine wpAnyH_take (i := 28) (oi := ⟨_, _, _, _, _, _⟩) (v := ?_) rfl (by kernel_rfl) (by kernel_rfl) (by kernel_rfl) (fun _ _ _ h => h) (Or.inl ⟨by rfl, ?_⟩) (by assumption) ?_
    rotate_left
    focus (intro w hSw; (try dsimp only at hSw); go_simp; (try with_reducible rfl))
    try simp only [Act.put, List.setIfInBounds_toArray, List.set_cons_zero, List.set_cons_succ]
    refine wpAnyH_take (i := 29) (oi := ⟨_, _, _, _, _, _⟩) (v := ?_) rfl (by kernel_rfl) (by kernel_rfl) (by kernel_rfl) (fun _ _ _ h => h) (Or.inl ⟨by rfl, ?_⟩) (by assumption) ?_
    rotate_left
    focus (intro w hSw; (try dsimp only at hSw); go_simp; (try with_reducible rfl))
    try simp only [Act.put, List.setIfInBounds_toArray, List.set_cons_zero, List.set_cons_succ]
    refine wpAnyH_take (i := 31) (oi := ⟨_, _, _, _, _, _⟩) (v := ?_) rfl (by kernel_rfl) (by kernel_rfl) (by kernel_rfl) (fun _ _ _ h => h) (Or.inl ⟨by rfl, ?_⟩) (by assumption) ?_
    rotate_left
    focus (intro w hSw; (try dsimp only at hSw); go_simp; (try with_reducible rfl))
    try simp only [Act.put, List.setIfInBounds_toArray, List.set_cons_zero, List.set_cons_succ]
    refine wpAnyH_take (i := 32) (oi := ⟨_, _, _, _, _, _⟩) (v := ?_) rfl (by kernel_rfl) (by kernel_rfl) (by kernel_rfl) (fun _ _ _ h => h) (Or.inl ⟨by rfl, ?_⟩) (by assumption) ?_
    rotate_left
    focus (intro w hSw; (try dsimp only at hSw); go_simp; (try with_reducible rfl))
    try simp only [Act.put, List.setIfInBounds_toArray, List.set_cons_zero, List.set_cons_succ]
    refine wpAnyH_ready (rs := [30]) (by kernel_rfl) (by simp) ?_
    refine AllReadyH.cons (o := ⟨_, _, _, _, _, _⟩) rfl (fun K hK => ?_) AllReadyH.nil
    first | go_at_call 15 | go_at_call 9 | go_at_call 14 | go_at_call 16 | (rw [if_pos ?_]; rotate_left; (focus rfl); go_simp) | skip
    try go_at_call 16
    refine (p10same_raw (N4.out.ints (.slice a1 n1 c1, l1) mq24) (N4.out.ints (.slice b1 m1 d1, k1) mq25) (N4.out.ints (.slice a2 n2 c2, l2) mq22) (N4.out.ints (.slice b2 m2 d2, k2) mq23) (N4.out.ints (.slice a3 n3 c3, l3) mq20) (N4.out.ints (.slice b3 m3 d3, k3) mq21) (N4.out.ints (.slice a4 n4 c4, l4) mq18) (N4.out.ints (.slice b4 m4 d4, k4) mq19) HSA.out).mono ?_
    rintro e y21_4 ⟨rfl, hb⟩
    have N5 := Lib.hid (N4.out.later hb)
    clear hb
    have e5 := KK.out _ _ N5.out
    try dsimp only
    refine hK.out _ _ (by (try dsimp only); exact e5) (fun hHeld2 => ?_)
    clear hK K hHeld
    have hHeld := hHeld2
    clear hHeld2
    try simp only [Act.put, List.setIfInBounds_toArray, List.set_cons_zero, List.set_cons_succ]
    refine wpAnyH_ready (rs := [33]) (by kernel_rfl) (by simp) ?_
    refine AllReadyH.cons (o := ⟨_, _, _, _, _, _⟩) rfl (fun K hK => ?_) AllReadyH.nil
    first | go_at_call 15 | go_at_call 9 | go_at_call 14 | go_at_call 16 | (rw [if_pos ?_]; rotate_left; (focus rfl); go_simp) | skip
    try go_at_call 9
    refine (r10same_raw (N5.out.ints (.slice a1 n1 c1, l1) mq24) (N5.out.ints (.slice b1 m1 d1, k1) mq25) (N5.out.ints (.slice a2 n2 c2, l2) mq22) (N5.out.ints (.slice b2 m2 d2, k2) mq23) (N5.out.ints (.slice a3 n3 c3, l3) mq20) (N5.out.ints (.slice b3 m3 d3, k3) mq21) (N5.out.ints (.slice a4 n4 c4, l4) mq18) (N5.out.ints (.slice b4 m4 d4, k4) mq19) HSA.out).mono ?_
    rintro e y21_5 ⟨rfl, hb⟩
    have N6 := Lib.hid (N5.out.later hb)
    clear hb
    have e6 := KK.out _ _ N6.out
    try dsimp only
    refine hK.out _ _ (by (try dsimp only); exact e6) (fun hHeld2 => ?_)
    clear hK K hHeld
    have hHeld := hHeld2
    clear hHeld2
    try simp only [Act.put, List.setIfInBounds_toArray, List.set_cons_zero, List.set_cons_succ]
    refine wpAnyH_take (i := 34) (oi := ⟨_, _, _, _, _, _⟩) (v := ?_) rfl (by kernel_rfl) (by kernel_rfl) (by kernel_rfl) (fun _ _ _ h => h) (Or.inl ⟨by rfl, ?_⟩) (by assumption) ?_
    rotate_left
    focus (intro w hSw; (try dsimp only at hSw); go_simp; (try with_reducible rfl))
    try simp only [Act.put, List.setIfInBounds_toArray, List.set_cons_zero, List.set_cons_succ]
    refine wpAnyH_take (i := 35) (oi := ⟨_, _, _, _, _, _⟩) (v := ?_) rfl (by kernel_rfl) (by kernel_rfl) (by kernel_rfl) (fun _ _ _ h => h) (Or.inl ⟨by rfl, ?_⟩) (by assumption) ?_
    rotate_left
    focus (intro w hSw; (try dsimp only at hSw); go_simp; (try with_reducible rfl))
    try simp only [Act.put, List.setIfInBounds_toArray, List.set_cons_zero, List.set_cons_succ]
    refine wpAnyH_done (by kernel_rfl) ?_ _
    go_wp2_with fail
    go_meet
    exact ⟨rfl, Lib.hid (Sf.facts N6.out (by simp))⟩
   case rest =>
   obtain ⟨rfl, hq⟩ := hcut
   obtain ⟨w21, rfl⟩ : ∃ W, W = wc := ⟨_, rfl⟩
   have R21 := Lib.hid hq.out
   clear hq Q138
   go_wp2_with fail
   go_cut [21] from 120 to 142 (fun u wx => u = .bool true ∧ Hid (Sf w [(w20.heap.size, 28, [.int .i64 DM.s1, .slice a1z20 n1z20 c1z20, .int .i64 DM.t1, .slice b1z20 m1z20 d1z20, .int .i64 DM.s2, .slice a2z20 n2z20 c2z20, .int .i64 DM.t2, .slice b2z20 m2z20 d2z20]), (w19.heap.size, 28, [.int .i64 DM.s1, .slice a1z19 n1z19 c1z19, .int .i64 DM.t1, .slice b1z19 m1z19 d1z19, .int .i64 DM.s2, .slice a2z19 n2z19 c2z19, .int .i64 DM.t2, .slice b2z19 m2z19 d2z19]), (w18.heap.size, 28, [.int .i64 DH.s1, .slice a1z18 n1z18 c1z18, .int .i64 DH.t1, .slice b1z18 m1z18 d1z18, .int .i64 DH.s2, .slice a2z18 n2z18 c2z18, .int .i64 DH.t2, .slice b2z18 m2z18 d2z18]), (w17.heap.size, 28, [.int .i64 DH.s1, .slice a1z17 n1z17 c1z17, .int .i64 DH.t1, .slice b1z17 m1z17 d1z17, .int .i64 DH.s2, .slice a2z17 n2z17 c2z17, .int .i64 DH.t2, .slice b2z17 m2z17 d2z17]), (w.heap.size + 1 + 1, 26, [.int .i64 s5, .slice a5 n5 c5, .int .i64 t5, .slice b5 m5 d5]), (w.heap.size + 1, 28, [.int .i64 s3, .slice a3 n3 c3, .int .i64 t3, .slice b3 m3 d3, .int .i64 s4, .slice a4 n4 c4, .int .i64 t4, .slice b4 m4 d4]), (w.heap.size, 28, [.int .i64 s1, .slice a1 n1 c1, .int .i64 t1, .slice b1 m1 d1, .int .i64 s2, .slice a2 n2 c2, .int .i64 t2, .slice b2 m2 d2])] [(.slice a1z20 n1z20 c1z20, DM.l1), (.slice b1z20 m1z20 d1z20, DM.k1), (.slice a2z20 n2z20 c2z20, DM.l2), (.slice b2z20 m2z20 d2z20, DM.k2), (.slice a1z19 n1z19 c1z19, DM.l1), (.slice b1z19 m1z19 d1z19, DM.k1), (.slice a2z19 n2z19 c2z19, DM.l2), (.slice b2z19 m2z19 d2z19, DM.k2), (.slice a1z18 n1z18 c1z18, DH.l1), (.slice b1z18 m1z18 d1z18, DH.k1), (.slice a2z18 n2z18 c2z18, DH.l2), (.slice b2z18 m2z18 d2z18, DH.k2), (.slice a1z17 n1z17 c1z17, DH.l1), (.slice b1z17 m1z17 d1z17, DH.k1), (.slice a2z17 n2z17 c2z17, DH.l2), (.slice b2z17 m2z17 d2z17, DH.k2), (.slice a5 n5 c5, l5), (.slice b5 m5 d5, k5), (.slice a4 n4 c4, l4), (.slice b4 m4 d4, k4), (.slice a3 n3 c3, l3), (.slice b3 m3 d3, k3), (.slice a2 n2 c2, l2), (.slice b2 m2 d2, k2), (.slice a1 n1 c1, l1), (.slice b1 m1 d1, k1)] wx))
   case first =>
    have K0 : ∀ W F, Sf w [(w20.heap.size, 28, [.int .i64 DM.s1, .slice a1z20 n1z20 c1z20, .int .i64 DM.t1, .slice b1z20 m1z20 d1z20, .int .i64 DM.s2, .slice a2z20 n2z20 c2z20, .int .i64 DM.t2, .slice b2z20 m2z20 d2z20]), (w19.heap.size, 28, [.int .i64 DM.s1, .slice a1z19 n1z19 c1z19, .int .i64 DM.t1, .slice b1z19 m1z19 d1z19, .int .i64 DM.s2, .slice a2z19 n2z19 c2z19, .int .i64 DM.t2, .slice b2z19 m2z19 d2z19]), (w18.heap.size, 28, [.int .i64 DH.s1, .slice a1z18 n1z18 c1z18, .int .i64 DH.t1, .slice b1z18 m1z18 d1z18, .int .i64 DH.s2, .slice a2z18 n2z18 c2z18, .int .i64 DH.t2, .slice b2z18 m2z18 d2z18]), (w17.heap.size, 28, [.int .i64 DH.s1, .slice a1z17 n1z17 c1z17, .int .i64 DH.t1, .slice b1z17 m1z17 d1z17, .int .i64 DH.s2, .slice a2z17 n2z17 c2z17, .int .i64 DH.t2, .slice b2z17 m2z17 d2z17]), (w.heap.size + 1 + 1, 26, [.int .i64 s5, .slice a5 n5 c5, .int .i64 t5, .slice b5 m5 d5]), (w.heap.size + 1, 28, [.int .i64 s3, .slice a3 n3 c3, .int .i64 t3, .slice b3 m3 d3, .int .i64 s4, .slice a4 n4 c4, .int .i64 t4, .slice b4 m4 d4]), (w.heap.size, 28, [.int .i64 s1, .slice a1 n1 c1, .int .i64 t1, .slice b1 m1 d1, .int .i64 s2, .slice a2 n2 c2, .int .i64 t2, .slice b2 m2 d2])] F W → W.cell? ⟨w.heap.size + 1 + 1, 0, none⟩ = some (.int .i64 s5) ∧ W.cell? ⟨w.heap.size + 1 + 1, 1, none⟩ = some (.slice a5 n5 c5) ∧ W.cell? ⟨w.heap.size + 1 + 1, 2, none⟩ = some (.int .i64 t5) ∧ W.cell? ⟨w.heap.size + 1 + 1, 3, none⟩ = some (.slice b5 m5 d5) ∧ W.cell? ⟨w.heap.size + 1, 0, none⟩ = some (.int .i64 s3) ∧ W.cell? ⟨w.heap.size + 1, 1, none⟩ = some (.slice a3 n3 c3) ∧ W.cell? ⟨w.heap.size + 1, 2, none⟩ = some (.int .i64 t3) ∧ W.cell? ⟨w.heap.size + 1, 3, none⟩ = some (.slice b3 m3 d3) ∧ W.cell? ⟨w.heap.size + 1, 4, none⟩ = some (.int .i64 s4) ∧ W.cell? ⟨w.heap.size + 1, 5, none⟩ = some (.slice a4 n4 c4) ∧ W.cell? ⟨w.heap.size + 1, 6, none⟩ = some (.int .i64 t4) ∧ W.cell? ⟨w.heap.size + 1, 7, none⟩ = some (.slice b4 m4 d4) ∧ W.cell? ⟨w.heap.size, 0, none⟩ = some (.int .i64 s1) ∧ W.cell? ⟨w.heap.size, 1, none⟩ = some (.slice a1 n1 c1) ∧ W.cell? ⟨w.heap.size, 2, none⟩ = some (.int .i64 t1) ∧ W.cell? ⟨w.heap.size, 3, none⟩ = some (.slice b1 m1 d1) ∧ W.cell? ⟨w.heap.size, 4, none⟩ = some (.int .i64 s2) ∧ W.cell? ⟨w.heap.size, 5, none⟩ = some (.slice a2 n2 c2) ∧ W.cell? ⟨w.heap.size, 6, none⟩ = some (.int .i64 t2) ∧ W.cell? ⟨w.heap.size, 7, none⟩ = some (.slice b2 m2 d2) := fun W F h => ⟨(h.box _ mq4).cell 0, (h.box _ mq4).cell 1, (h.box _ mq4).cell 2, (h.box _ mq4).cell 3, (h.box _ mq5).cell 0, (h.box _ mq5).cell 1, (h.box _ mq5).cell 2, (h.box _ mq5).cell 3, (h.box _ mq5).cell 4, (h.box _ mq5).cell 5, (h.box _ mq5).cell 6, (h.box _ mq5).cell 7, (h.box _ mq6).cell 0, (h.box _ mq6).cell 1, (h.box _ mq6).cell 2, (h.box _ mq6).cell 3, (h.box _ mq6).cell 4, (h.box _ mq6).cell 5, (h.box _ mq6).cell 6, (h.box _ mq6).cell 7⟩
    have KK := Lib.hid K0
    clear K0
    have N0 := Lib.hid R21.out.drew
    clear R21
    have e0 := KK.out _ _ N0.out
    refine wp_region_held_drew (S := fun W => W.cell? ⟨w.heap.size + 1 + 1, 0, none⟩ = some (.int .i64 s5) ∧ W.cell? ⟨w.heap.size + 1 + 1, 1, none⟩ = some (.slice a5 n5 c5) ∧ W.cell? ⟨w.heap.size + 1 + 1, 2, none⟩ = some (.int .i64 t5) ∧ W.cell? ⟨w.heap.size + 1 + 1, 3, none⟩ = some (.slice b5 m5 d5) ∧ W.cell? ⟨w.heap.size + 1, 0, none⟩ = some (.int .i64 s3) ∧ W.cell? ⟨w.heap.size + 1, 1, none⟩ = some (.slice a3 n3 c3) ∧ W.cell? ⟨w.heap.size + 1, 2, none⟩ = some (.int .i64 t3) ∧ W.cell? ⟨w.heap.size + 1, 3, none⟩ = some (.slice b3 m3 d3) ∧ W.cell? ⟨w.heap.size + 1, 4, none⟩ = some (.int .i64 s4) ∧ W.cell? ⟨w.heap.size + 1, 5, none⟩ = some (.slice a4 n4 c4) ∧ W.cell? ⟨w.heap.size + 1, 6, none⟩ = some (.int .i64 t4) ∧ W.cell? ⟨w.heap.size + 1, 7, none⟩ = some (.slice b4 m4 d4) ∧ W.cell? ⟨w.heap.size, 0, none⟩ = some (.int .i64 s1) ∧ W.cell? ⟨w.heap.size, 1, none⟩ = some (.slice a1 n1 c1) ∧ W.cell? ⟨w.heap.size, 2, none⟩ = some (.int .i64 t1) ∧ W.cell? ⟨w.heap.size, 3, none⟩ = some (.slice b1 m1 d1) ∧ W.cell? ⟨w.heap.size, 4, none⟩ = some (.int .i64 s2) ∧ W.cell? ⟨w.heap.size, 5, none⟩ = some (.slice a2 n2 c2) ∧ W.cell? ⟨w.heap.size, 6, none⟩ = some (.int .i64 t2) ∧ W.cell? ⟨w.heap.size, 7, none⟩ = some (.slice b2 m2 d2)) (by kernel_rfl) e0 (fun hHeld => ?_)
    refine wpAnyH_take (i := 0) (oi := ⟨_, _, _, _, _, _⟩) (v := ?_) rfl (by kernel_rfl) (by kernel_rfl) (by kernel_rfl) (fun _ _ _ h => h) (Or.inl ⟨by rfl, ?_⟩) (by assumption) ?_
    rotate_left
    focus (intro w hSw; (try dsimp only at hSw); go_simp; (try with_reducible rfl))
    try simp only [Act.put, List.setIfInBounds_toArray, List.set_cons_zero, List.set_cons_succ]
    refine wpAnyH_take (i := 2) (oi := ⟨_, _, _, _, _, _⟩) (v := ?_) rfl (by kernel_rfl) (by kernel_rfl) (by kernel_rfl) (fun _ _ _ h => h) (Or.inl ⟨by rfl, ?_⟩) (by assumption) ?_
    rotate_left
    focus (intro w hSw; (try dsimp only at hSw); go_simp; (try with_reducible rfl))
    try simp only [Act.put, List.setIfInBounds_toArray, List.set_cons_zero, List.set_cons_succ]
    refine wpAnyH_ready (rs := [1]) (by kernel_rfl) (by simp) ?_
    refine AllReadyH.cons (o := ⟨_, _, _, _, _, _⟩) rfl (fun K hK => ?_) AllReadyH.nil
    first | go_at_call 20 | go_at_call 22 | go_at_call 18 | go_at_call 9 | go_at_call 19 | go_at_call 21 | go_at_call 17 | (rw [if_pos ?_]; rotate_left; (focus rfl); go_simp) | skip
    try go_at_call 17
    refine (PFF.out _ N0.out.below).mono ?_
    rintro e y22_0 ⟨a1z22_0, n1z22_0, c1z22_0, b1z22_0, m1z22_0, d1z22_0, a2z22_0, n2z22_0, c2z22_0, b2z22_0, m2z22_0, d2z22_0, rfl, hi, hb, f1, f2, f3, f4⟩
    have N1 := Lib.hid (Sf.retG4 N0.out HA.out hb hi f1 f2 f3 f4)
    clear hi hb f1 f2 f3 f4
    have e1 := KK.out _ _ N1.out
    try dsimp only
    refine hK.out _ _ (by (try dsimp only); exact e1) (fun hHeld2 => ?_)
    clear hK K hHeld
    have hHeld := hHeld2
    clear hHeld2
    try simp only [Act.put, List.setIfInBounds_toArray, List.set_cons_zero, List.set_cons_succ]
    refine wpAnyH_ready (rs := [3]) (by kernel_rfl) (by simp) ?_
    refine AllReadyH.cons (o := ⟨_, _, _, _, _, _⟩) rfl (fun K hK => ?_) AllReadyH.nil
    first | go_at_call 20 | go_at_call 22 | go_at_call 18 | go_at_call 9 | go_at_call 19 | go_at_call 21 | go_at_call 17 | (rw [if_pos ?_]; rotate_left; (focus rfl); go_simp) | skip
    try go_at_call 18
    refine (QFF.out _ N1.out.below).mono ?_
    rintro e y22_1 ⟨a1z22_1, n1z22_1, c1z22_1, b1z22_1, m1z22_1, d1z22_1, a2z22_1, n2z22_1, c2z22_1, b2z22_1, m2z22_1, d2z22_1, rfl, hi, hb, f1, f2, f3, f4⟩
    have N2 := Lib.hid (Sf.retG4 N1.out HA.out hb hi f1 f2 f3 f4)
    clear hi hb f1 f2 f3 f4
    have e2 := KK.out _ _ N2.out
    try dsimp only
    refine hK.out _ _ (by (try dsimp only); exact e2) (fun hHeld2 => ?_)
    clear hK K hHeld
    have hHeld := hHeld2
    clear hHeld2
    try simp only [Act.put, List.setIfInBounds_toArray, List.set_cons_zero, List.set_cons_succ]
    refine wpAnyH_ready (rs := [4]) (by kernel_rfl) (by simp) ?_
    refine AllReadyH.cons (o := ⟨_, _, _, _, _, _⟩) rfl (fun K hK => ?_) AllReadyH.nil
    first | go_at_call 20 | go_at_call 22 | go_at_call 18 | go_at_call 9 | go_at_call 19 | go_at_call 21 | go_at_call 17 | (rw [if_pos ?_]; rotate_left; (focus rfl); go_simp) | skip
    try go_at_call 9
    refine (r10same_raw (s1 := DP.s1) (t1 := DP.t1) (s2 := DP.s2) (t2 := DP.t2) (s3 := DP.s1) (t3 := DP.t1) (s4 := DP.s2) (t4 := DP.t2) (N2.out.ints (.slice a1z22_0 n1z22_0 c1z22_0, DP.l1) mq4) (N2.out.ints (.slice b1z22_0 m1z22_0 d1z22_0, DP.k1) mq5) (N2.out.ints (.slice a2z22_0 n2z22_0 c2z22_0, DP.l2) mq6) (N2.out.ints (.slice b2z22_0 m2z22_0 d2z22_0, DP.k2) mq7) (N2.out.ints (.slice a1z22_1 n1z22_1 c1z22_1, DP.l1) mq0) (N2.out.ints (.slice b1z22_1 m1z22_1 d1z22_1, DP.k1) mq1) (N2.out.ints (.slice a2z22_1 n2z22_1 c2z22_1, DP.l2) mq2) (N2.out.ints (.slice b2z22_1 m2z22_1 d2z22_1, DP.k2) mq3) (same_self DP)).mono ?_
    rintro e y22_2 ⟨rfl, hb⟩
    have N3 := Lib.hid (N2.out.later hb)
    clear hb
    have e3 := KK.out _ _ N3.out
    try dsimp only
    refine hK.out _ _ (by (try dsimp only); exact e3) (fun hHeld2 => ?_)
    clear hK K hHeld
    have hHeld := hHeld2
    clear hHeld2
    try simp only [Act.put, List.setIfInBounds_toArray, List.set_cons_zero, List.set_cons_succ]
    refine wpAnyH_take (i := 5) (oi := ⟨_, _, _, _, _, _⟩) (v := ?_) rfl (by kernel_rfl) (by kernel_rfl) (by kernel_rfl) (fun _ _ _ h => h) (Or.inl ⟨by rfl, ?_⟩) (by assumption) ?_
    rotate_left
    focus (intro w hSw; (try dsimp only at hSw); go_simp; (try with_reducible rfl))
    try simp only [Act.put, List.setIfInBounds_toArray, List.set_cons_zero, List.set_cons_succ]
    refine wpAnyH_take (i := 6) (oi := ⟨_, _, _, _, _, _⟩) (v := ?_) rfl (by kernel_rfl) (by kernel_rfl) (by kernel_rfl) (fun _ _ _ h => h) (Or.inl ⟨by rfl, ?_⟩) (by assumption) ?_
    rotate_left
    focus (intro w hSw; (try dsimp only at hSw); go_simp; (try with_reducible rfl))
    try simp only [Act.put, List.setIfInBounds_toArray, List.set_cons_zero, List.set_cons_succ]
    refine wpAnyH_take (i := 7) (oi := ⟨_, _, _, _, _, _⟩) (v := ?_) rfl (by kernel_rfl) (by kernel_rfl) (by kernel_rfl) (fun _ _ _ h => h) (Or.inl ⟨by rfl, ?_⟩) (by assumption) ?_
    rotate_left
    focus (intro w hSw; (try dsimp only at hSw); go_simp; (try with_reducible rfl))
    try simp only [Act.put, List.setIfInBounds_toArray, List.set_cons_zero, List.set_cons_succ]
    refine wpAnyH_take (i := 9) (oi := ⟨_, _, _, _, _, _⟩) (v := ?_) rfl (by kernel_rfl) (by kernel_rfl) (by kernel_rfl) (fun _ _ _ h => h) (Or.inl ⟨by rfl, ?_⟩) (by assumption) ?_
    rotate_left
    focus (intro w hSw; (try dsimp only at hSw); go_simp; (try with_reducible rfl))
    try simp only [Act.put, List.setIfInBounds_toArray, List.set_cons_zero, List.set_cons_succ]
    refine wpAnyH_take (i := 10) (oi := ⟨_, _, _, _, _, _⟩) (v := ?_) rfl (by kernel_rfl) (by kernel_rfl) (by kernel_rfl) (fun _ _ _ h => h) (Or.inl ⟨by rfl, ?_⟩) (by assumption) ?_
    rotate_left
    focus (intro w hSw; (try dsimp only at hSw); go_simp; (try with_reducible rfl))
    try simp only [Act.put, List.setIfInBounds_toArray, List.set_cons_zero, List.set_cons_succ]
    refine wpAnyH_ready (rs := [8]) (by kernel_rfl) (by simp) ?_
    refine AllReadyH.cons (o := ⟨_, _, _, _, _, _⟩) rfl (fun K hK => ?_) AllReadyH.nil
    first | go_at_call 20 | go_at_call 22 | go_at_call 18 | go_at_call 9 | go_at_call 19 | go_at_call 21 | go_at_call 17 | (rw [if_pos ?_]; rotate_left; (focus rfl); go_simp) | skip
    try go_at_call 19
    refine (p10has_any (N3.out.ints (.slice a1 n1 c1, l1) mq32) (N3.out.ints (.slice b1 m1 d1, k1) mq33) LL1.out LK1.out (N3.out.ints (.slice a2 n2 c2, l2) mq30) (N3.out.ints (.slice b2 m2 d2, k2) mq31) LL2.out LK2.out (N3.out.ints (.slice a5 n5 c5, l5) mq24) (N3.out.ints (.slice b5 m5 d5, k5) mq25) LL5.out LK5.out HHF.out).mono ?_
    rintro e y22_3 ⟨rfl, hb⟩
    have N4 := Lib.hid (N3.out.later hb)
    clear hb
    have e4 := KK.out _ _ N4.out
    try dsimp only
    refine hK.out _ _ (by (try dsimp only); exact e4) (fun hHeld2 => ?_)
    clear hK K hHeld
    have hHeld := hHeld2
    clear hHeld2
    try simp only [Act.put, List.setIfInBounds_toArray, List.set_cons_zero, List.set_cons_succ]
    refine wpAnyH_ready (rs := [11]) (by kernel_rfl) (by simp) ?_
    refine AllReadyH.cons (o := ⟨_, _, _, _, _, _⟩) rfl (fun K hK => ?_) AllReadyH.nil
    first | go_at_call 20 | go_at_call 22 | go_at_call 18 | go_at_call 9 | go_at_call 19 | go_at_call 21 | go_at_call 17 | (rw [if_pos ?_]; rotate_left; (focus rfl); go_simp) | skip
    try go_at_call 20
    refine (r10has_any (N4.out.ints (.slice a1 n1 c1, l1) mq32) (N4.out.ints (.slice b1 m1 d1, k1) mq33) LL1.out LK1.out (N4.out.ints (.slice a2 n2 c2, l2) mq30) (N4.out.ints (.slice b2 m2 d2, k2) mq31) LL2.out LK2.out (N4.out.ints (.slice a5 n5 c5, l5) mq24) (N4.out.ints (.slice b5 m5 d5, k5) mq25) LL5.out LK5.out HHF.out).mono ?_
    rintro e y22_4 ⟨rfl, hb⟩
    have N5 := Lib.hid (N4.out.later hb)
    clear hb
    have e5 := KK.out _ _ N5.out
    try dsimp only
    refine hK.out _ _ (by (try dsimp only); exact e5) (fun hHeld2 => ?_)
    clear hK K hHeld
    have hHeld := hHeld2
    clear hHeld2
    try simp only [Act.put, List.setIfInBounds_toArray, List.set_cons_zero, List.set_cons_succ]
    refine wpAnyH_take (i := 12) (oi := ⟨_, _, _, _, _, _⟩) (v := ?_) rfl (by kernel_rfl) (by kernel_rfl) (by kernel_rfl) (fun _ _ _ h => h) (Or.inl ⟨by rfl, ?_⟩) (by assumption) ?_
    rotate_left
    focus (intro w hSw; (try dsimp only at hSw); go_simp; (try with_reducible rfl))
    try simp only [Act.put, List.setIfInBounds_toArray, List.set_cons_zero, List.set_cons_succ]
    refine wpAnyH_take (i := 13) (oi := ⟨_, _, _, _, _, _⟩) (v := ?_) rfl (by kernel_rfl) (by kernel_rfl) (by kernel_rfl) (fun _ _ _ h => h) (Or.inl ⟨by rfl, ?_⟩) (by assumption) ?_
    rotate_left
    focus (intro w hSw; (try dsimp only at hSw); go_simp; (try with_reducible rfl))
    try simp only [Act.put, List.setIfInBounds_toArray, List.set_cons_zero, List.set_cons_succ]
    refine wpAnyH_take (i := 14) (oi := ⟨_, _, _, _, _, _⟩) (v := ?_) rfl (by kernel_rfl) (by kernel_rfl) (by kernel_rfl) (fun _ _ _ h => h) (Or.inl ⟨by rfl, ?_⟩) (by assumption) ?_
    rotate_left
    focus (intro w hSw; (try dsimp only at hSw); go_simp; (try with_reducible rfl))
    try simp only [Act.put, List.setIfInBounds_toArray, List.set_cons_zero, List.set_cons_succ]
    refine wpAnyH_take (i := 15) (oi := ⟨_, _, _, _, _, _⟩) (v := ?_) rfl (by kernel_rfl) (by kernel_rfl) (by kernel_rfl) (fun _ _ _ h => h) (Or.inl ⟨by rfl, ?_⟩) (by assumption) ?_
    rotate_left
    focus (intro w hSw; (try dsimp only at hSw); go_simp; (try with_reducible rfl))
    try simp only [Act.put, List.setIfInBounds_toArray, List.set_cons_zero, List.set_cons_succ]
    refine wpAnyH_take (i := 16) (oi := ⟨_, _, _, _, _, _⟩) (v := ?_) rfl (by kernel_rfl) (by kernel_rfl) (by kernel_rfl) (fun _ _ _ h => h) (Or.inl ⟨by rfl, ?_⟩) (by assumption) ?_
    rotate_left
    focus (intro w hSw; (try dsimp only at hSw); go_simp; (try with_reducible rfl))
    try simp only [Act.put, List.setIfInBounds_toArray, List.set_cons_zero, List.set_cons_succ]
    refine wpAnyH_take (i := 18) (oi := ⟨_, _, _, _, _, _⟩) (v := ?_) rfl (by kernel_rfl) (by kernel_rfl) (by kernel_rfl) (fun _ _ _ h => h) (Or.inl ⟨by rfl, ?_⟩) (by assumption) ?_
    rotate_left
    focus (intro w hSw; (try dsimp only at hSw); go_simp; (try with_reducible rfl))
    try simp only [Act.put, List.setIfInBounds_toArray, List.set_cons_zero, List.set_cons_succ]
    refine wpAnyH_take (i := 19) (oi := ⟨_, _, _, _, _, _⟩) (v := ?_) rfl (by kernel_rfl) (by kernel_rfl) (by kernel_rfl) (fun _ _ _ h => h) (Or.inl ⟨by rfl, ?_⟩) (by assumption) ?_
    rotate_left
    focus (intro w hSw; (try dsimp only at hSw); go_simp; (try with_reducible rfl))
    try simp only [Act.put, List.setIfInBounds_toArray, List.set_cons_zero, List.set_cons_succ]
    refine wpAnyH_ready (rs := [17]) (by kernel_rfl) (by simp) ?_
    refine AllReadyH.cons (o := ⟨_, _, _, _, _, _⟩) rfl (fun K hK => ?_) AllReadyH.nil
    first | go_at_call 20 | go_at_call 22 | go_at_call 18 | go_at_call 9 | go_at_call 19 | go_at_call 21 | go_at_call 17 | (rw [if_pos ?_]; rotate_left; (focus rfl); go_simp) | skip
    try go_at_call 21
    refine (p10inside_any (N5.out.ints (.slice a1 n1 c1, l1) mq32) (N5.out.ints (.slice b1 m1 d1, k1) mq33) LL1.out LK1.out (N5.out.ints (.slice a2 n2 c2, l2) mq30) (N5.out.ints (.slice b2 m2 d2, k2) mq31) LL2.out LK2.out (N5.out.ints (.slice a3 n3 c3, l3) mq28) (N5.out.ints (.slice b3 m3 d3, k3) mq29) LL3.out LK3.out (N5.out.ints (.slice a4 n4 c4, l4) mq26) (N5.out.ints (.slice b4 m4 d4, k4) mq27) LL4.out LK4.out HIA.out).mono ?_
    rintro e y22_5 ⟨rfl, hb⟩
    have N6 := Lib.hid (N5.out.later hb)
    clear hb
    have e6 := KK.out _ _ N6.out
    try dsimp only
    refine hK.out _ _ (by (try dsimp only); exact e6) (fun hHeld2 => ?_)
    clear hK K hHeld
    have hHeld := hHeld2
    clear hHeld2
    try simp only [Act.put, List.setIfInBounds_toArray, List.set_cons_zero, List.set_cons_succ]
    refine wpAnyH_ready (rs := [20]) (by kernel_rfl) (by simp) ?_
    refine AllReadyH.cons (o := ⟨_, _, _, _, _, _⟩) rfl (fun K hK => ?_) AllReadyH.nil
    first | go_at_call 20 | go_at_call 22 | go_at_call 18 | go_at_call 9 | go_at_call 19 | go_at_call 21 | go_at_call 17 | (rw [if_pos ?_]; rotate_left; (focus rfl); go_simp) | skip
    try go_at_call 22
    refine (r10inside_any (N6.out.ints (.slice a1 n1 c1, l1) mq32) (N6.out.ints (.slice b1 m1 d1, k1) mq33) LL1.out LK1.out (N6.out.ints (.slice a2 n2 c2, l2) mq30) (N6.out.ints (.slice b2 m2 d2, k2) mq31) LL2.out LK2.out (N6.out.ints (.slice a3 n3 c3, l3) mq28) (N6.out.ints (.slice b3 m3 d3, k3) mq29) LL3.out LK3.out (N6.out.ints (.slice a4 n4 c4, l4) mq26) (N6.out.ints (.slice b4 m4 d4, k4) mq27) LL4.out LK4.out HIA.out).mono ?_
    rintro e y22_6 ⟨rfl, hb⟩
    have N7 := Lib.hid (N6.out.later hb)
    clear hb
    have e7 := KK.out _ _ N7.out
    try dsimp only
    refine hK.out _ _ (by (try dsimp only); exact e7) (fun hHeld2 => ?_)
    clear hK K hHeld
    have hHeld := hHeld2
    clear hHeld2
    try simp only [Act.put, List.setIfInBounds_toArray, List.set_cons_zero, List.set_cons_succ]
    refine wpAnyH_take (i := 21) (oi := ⟨_, _, _, _, _, _⟩) (v := ?_) rfl (by kernel_rfl) (by kernel_rfl) (by kernel_rfl) (fun _ _ _ h => h) (Or.inl ⟨by rfl, ?_⟩) (by assumption) ?_
    rotate_left
    focus (intro w hSw; (try dsimp only at hSw); go_simp; (try with_reducible rfl))
    try simp only [Act.put, List.setIfInBounds_toArray, List.set_cons_zero, List.set_cons_succ]
    refine wpAnyH_take (i := 22) (oi := ⟨_, _, _, _, _, _⟩) (v := ?_) rfl (by kernel_rfl) (by kernel_rfl) (by kernel_rfl) (fun _ _ _ h => h) (Or.inl ⟨by rfl, ?_⟩) (by assumption) ?_
    rotate_left
    focus (intro w hSw; (try dsimp only at hSw); go_simp; (try with_reducible rfl))
    try simp only [Act.put, List.setIfInBounds_toArray, List.set_cons_zero, List.set_cons_succ]
    refine wpAnyH_take (i := 23) (oi := ⟨_, _, _, _, _, _⟩) (v := ?_) rfl (by kernel_rfl) (by kernel_rfl) (by kernel_rfl) (fun _ _ _ h => h) (Or.inl ⟨by rfl, ?_⟩) (by assumption) ?_
    rotate_left
    focus (intro w hSw; (try dsimp only at hSw); go_simp; (try with_reducible rfl))
    try simp only [Act.put, List.setIfInBounds_toArray, List.set_cons_zero, List.set_cons_succ]
    refine wpAnyH_done (by kernel_rfl) ?_ _
    go_wp2_with fail
    go_meet
    exact ⟨rfl, Lib.hid (Sf.facts N7.out (by simp))⟩
   case rest =>
   obtain ⟨rfl, hq⟩ := hcut
   obtain ⟨w22, rfl⟩ : ∃ W, W = wc := ⟨_, rfl⟩
   have R22 := Lib.hid hq.out
   clear hq R21
   go_wp2_with fail
   go_cut [6] from 143 to 160 (fun u wx => u = .bool true ∧ Hid (Sf w [(w20.heap.size, 28, [.int .i64 DM.s1, .slice a1z20 n1z20 c1z20, .int .i64 DM.t1, .slice b1z20 m1z20 d1z20, .int .i64 DM.s2, .slice a2z20 n2z20 c2z20, .int .i64 DM.t2, .slice b2z20 m2z20 d2z20]), (w19.heap.size, 28, [.int .i64 DM.s1, .slice a1z19 n1z19 c1z19, .int .i64 DM.t1, .slice b1z19 m1z19 d1z19, .int .i64 DM.s2, .slice a2z19 n2z19 c2z19, .int .i64 DM.t2, .slice b2z19 m2z19 d2z19]), (w18.heap.size, 28, [.int .i64 DH.s1, .slice a1z18 n1z18 c1z18, .int .i64 DH.t1, .slice b1z18 m1z18 d1z18, .int .i64 DH.s2, .slice a2z18 n2z18 c2z18, .int .i64 DH.t2, .slice b2z18 m2z18 d2z18]), (w17.heap.size, 28, [.int .i64 DH.s1, .slice a1z17 n1z17 c1z17, .int .i64 DH.t1, .slice b1z17 m1z17 d1z17, .int .i64 DH.s2, .slice a2z17 n2z17 c2z17, .int .i64 DH.t2, .slice b2z17 m2z17 d2z17]), (w.heap.size + 1 + 1, 26, [.int .i64 s5, .slice a5 n5 c5, .int .i64 t5, .slice b5 m5 d5]), (w.heap.size + 1, 28, [.int .i64 s3, .slice a3 n3 c3, .int .i64 t3, .slice b3 m3 d3, .int .i64 s4, .slice a4 n4 c4, .int .i64 t4, .slice b4 m4 d4]), (w.heap.size, 28, [.int .i64 s1, .slice a1 n1 c1, .int .i64 t1, .slice b1 m1 d1, .int .i64 s2, .slice a2 n2 c2, .int .i64 t2, .slice b2 m2 d2])] [(.slice a1z20 n1z20 c1z20, DM.l1), (.slice b1z20 m1z20 d1z20, DM.k1), (.slice a2z20 n2z20 c2z20, DM.l2), (.slice b2z20 m2z20 d2z20, DM.k2), (.slice a1z19 n1z19 c1z19, DM.l1), (.slice b1z19 m1z19 d1z19, DM.k1), (.slice a2z19 n2z19 c2z19, DM.l2), (.slice b2z19 m2z19 d2z19, DM.k2), (.slice a1z18 n1z18 c1z18, DH.l1), (.slice b1z18 m1z18 d1z18, DH.k1), (.slice a2z18 n2z18 c2z18, DH.l2), (.slice b2z18 m2z18 d2z18, DH.k2), (.slice a1z17 n1z17 c1z17, DH.l1), (.slice b1z17 m1z17 d1z17, DH.k1), (.slice a2z17 n2z17 c2z17, DH.l2), (.slice b2z17 m2z17 d2z17, DH.k2), (.slice a5 n5 c5, l5), (.slice b5 m5 d5, k5), (.slice a4 n4 c4, l4), (.slice b4 m4 d4, k4), (.slice a3 n3 c3, l3), (.slice b3 m3 d3, k3), (.slice a2 n2 c2, l2), (.slice b2 m2 d2, k2), (.slice a1 n1 c1, l1), (.slice b1 m1 d1, k1)] wx))
   case first =>
    have K0 : ∀ W F, Sf w [(w20.heap.size, 28, [.int .i64 DM.s1, .slice a1z20 n1z20 c1z20, .int .i64 DM.t1, .slice b1z20 m1z20 d1z20, .int .i64 DM.s2, .slice a2z20 n2z20 c2z20, .int .i64 DM.t2, .slice b2z20 m2z20 d2z20]), (w19.heap.size, 28, [.int .i64 DM.s1, .slice a1z19 n1z19 c1z19, .int .i64 DM.t1, .slice b1z19 m1z19 d1z19, .int .i64 DM.s2, .slice a2z19 n2z19 c2z19, .int .i64 DM.t2, .slice b2z19 m2z19 d2z19]), (w18.heap.size, 28, [.int .i64 DH.s1, .slice a1z18 n1z18 c1z18, .int .i64 DH.t1, .slice b1z18 m1z18 d1z18, .int .i64 DH.s2, .slice a2z18 n2z18 c2z18, .int .i64 DH.t2, .slice b2z18 m2z18 d2z18]), (w17.heap.size, 28, [.int .i64 DH.s1, .slice a1z17 n1z17 c1z17, .int .i64 DH.t1, .slice b1z17 m1z17 d1z17, .int .i64 DH.s2, .slice a2z17 n2z17 c2z17, .int .i64 DH.t2, .slice b2z17 m2z17 d2z17]), (w.heap.size + 1 + 1, 26, [.int .i64 s5, .slice a5 n5 c5, .int .i64 t5, .slice b5 m5 d5]), (w.heap.size + 1, 28, [.int .i64 s3, .slice a3 n3 c3, .int .i64 t3, .slice b3 m3 d3, .int .i64 s4, .slice a4 n4 c4, .int .i64 t4, .slice b4 m4 d4]), (w.heap.size, 28, [.int .i64 s1, .slice a1 n1 c1, .int .i64 t1, .slice b1 m1 d1, .int .i64 s2, .slice a2 n2 c2, .int .i64 t2, .slice b2 m2 d2])] F W → W.cell? ⟨w.heap.size, 0, none⟩ = some (.int .i64 s1) ∧ W.cell? ⟨w.heap.size, 1, none⟩ = some (.slice a1 n1 c1) ∧ W.cell? ⟨w.heap.size, 2, none⟩ = some (.int .i64 t1) ∧ W.cell? ⟨w.heap.size, 3, none⟩ = some (.slice b1 m1 d1) ∧ W.cell? ⟨w.heap.size, 4, none⟩ = some (.int .i64 s2) ∧ W.cell? ⟨w.heap.size, 5, none⟩ = some (.slice a2 n2 c2) ∧ W.cell? ⟨w.heap.size, 6, none⟩ = some (.int .i64 t2) ∧ W.cell? ⟨w.heap.size, 7, none⟩ = some (.slice b2 m2 d2) := fun W F h => ⟨(h.box _ mq6).cell 0, (h.box _ mq6).cell 1, (h.box _ mq6).cell 2, (h.box _ mq6).cell 3, (h.box _ mq6).cell 4, (h.box _ mq6).cell 5, (h.box _ mq6).cell 6, (h.box _ mq6).cell 7⟩
    have KK := Lib.hid K0
    clear K0
    have N0 := Lib.hid R22.out.drew
    clear R22
    have e0 := KK.out _ _ N0.out
    refine wp_region_held_drew (S := fun W => W.cell? ⟨w.heap.size, 0, none⟩ = some (.int .i64 s1) ∧ W.cell? ⟨w.heap.size, 1, none⟩ = some (.slice a1 n1 c1) ∧ W.cell? ⟨w.heap.size, 2, none⟩ = some (.int .i64 t1) ∧ W.cell? ⟨w.heap.size, 3, none⟩ = some (.slice b1 m1 d1) ∧ W.cell? ⟨w.heap.size, 4, none⟩ = some (.int .i64 s2) ∧ W.cell? ⟨w.heap.size, 5, none⟩ = some (.slice a2 n2 c2) ∧ W.cell? ⟨w.heap.size, 6, none⟩ = some (.int .i64 t2) ∧ W.cell? ⟨w.heap.size, 7, none⟩ = some (.slice b2 m2 d2)) (by kernel_rfl) e0 (fun hHeld => ?_)
    refine wpAnyH_take (i := 0) (oi := ⟨_, _, _, _, _, _⟩) (v := ?_) rfl (by kernel_rfl) (by kernel_rfl) (by kernel_rfl) (fun _ _ _ h => h) (Or.inl ⟨by rfl, ?_⟩) (by assumption) ?_
    rotate_left
    focus (intro w hSw; (try dsimp only at hSw); go_simp; (try with_reducible rfl))
    try simp only [Act.put, List.setIfInBounds_toArray, List.set_cons_zero, List.set_cons_succ]
    refine wpAnyH_take (i := 1) (oi := ⟨_, _, _, _, _, _⟩) (v := ?_) rfl (by kernel_rfl) (by kernel_rfl) (by kernel_rfl) (fun _ _ _ h => h) (Or.inl ⟨by rfl, ?_⟩) (by assumption) ?_
    rotate_left
    focus (intro w hSw; (try dsimp only at hSw); go_simp; (try with_reducible rfl))
    try simp only [Act.put, List.setIfInBounds_toArray, List.set_cons_zero, List.set_cons_succ]
    refine wpAnyH_take (i := 2) (oi := ⟨_, _, _, _, _, _⟩) (v := ?_) rfl (by kernel_rfl) (by kernel_rfl) (by kernel_rfl) (fun _ _ _ h => h) (Or.inl ⟨by rfl, ?_⟩) (by assumption) ?_
    rotate_left
    focus (intro w hSw; (try dsimp only at hSw); go_simp; (try with_reducible rfl))
    try simp only [Act.put, List.setIfInBounds_toArray, List.set_cons_zero, List.set_cons_succ]
    refine wpAnyH_take (i := 3) (oi := ⟨_, _, _, _, _, _⟩) (v := ?_) rfl (by kernel_rfl) (by kernel_rfl) (by kernel_rfl) (fun _ _ _ h => h) (Or.inl ⟨by rfl, ?_⟩) (by assumption) ?_
    rotate_left
    focus (intro w hSw; (try dsimp only at hSw); go_simp; (try with_reducible rfl))
    try simp only [Act.put, List.setIfInBounds_toArray, List.set_cons_zero, List.set_cons_succ]
    refine wpAnyH_take (i := 4) (oi := ⟨_, _, _, _, _, _⟩) (v := ?_) rfl (by kernel_rfl) (by kernel_rfl) (by kernel_rfl) (fun _ _ _ h => h) (Or.inl ⟨by rfl, ?_⟩) (by assumption) ?_
    rotate_left
    focus (intro w hSw; (try dsimp only at hSw); go_simp; (try with_reducible rfl))
    try simp only [Act.put, List.setIfInBounds_toArray, List.set_cons_zero, List.set_cons_succ]
    refine wpAnyH_take (i := 5) (oi := ⟨_, _, _, _, _, _⟩) (v := ?_) rfl (by kernel_rfl) (by kernel_rfl) (by kernel_rfl) (fun _ _ _ h => h) (Or.inl ⟨by rfl, ?_⟩) (by assumption) ?_
    rotate_left
    focus (intro w hSw; (try dsimp only at hSw); go_simp; (try with_reducible rfl))
    try simp only [Act.put, List.setIfInBounds_toArray, List.set_cons_zero, List.set_cons_succ]
    refine wpAnyH_take (i := 7) (oi := ⟨_, _, _, _, _, _⟩) (v := ?_) rfl (by kernel_rfl) (by kernel_rfl) (by kernel_rfl) (fun _ _ _ h => h) (Or.inl ⟨by rfl, ?_⟩) (by assumption) ?_
    rotate_left
    focus (intro w hSw; (try dsimp only at hSw); go_simp; (try with_reducible rfl))
    try simp only [Act.put, List.setIfInBounds_toArray, List.set_cons_zero, List.set_cons_succ]
    refine wpAnyH_ready (rs := [6]) (by kernel_rfl) (by simp) ?_
    refine AllReadyH.cons (o := ⟨_, _, _, _, _, _⟩) rfl (fun K hK => ?_) AllReadyH.nil
    first | go_at_call 23 | go_at_call 27 | go_at_call 9 | go_at_call 25 | go_at_call 26 | go_at_call 24 | (rw [if_pos ?_]; rotate_left; (focus rfl); go_simp) | skip
    try go_at_call 24
    refine (PWW.out _ N0.out.below).mono ?_
    rintro e y23_0 ⟨az23_0, nz23_0, cz23_0, bz23_0, mz23_0, dz23_0, rfl, hi, hj, hb, hf, hg⟩
    have N1 := Lib.hid (Sf.retG2 N0.out HA.out hb hi hj hf hg)
    clear hi hj hb hf hg
    have e1 := KK.out _ _ N1.out
    try dsimp only
    refine hK.out _ _ (by (try dsimp only); exact e1) (fun hHeld2 => ?_)
    clear hK K hHeld
    have hHeld := hHeld2
    clear hHeld2
    try simp only [Act.put, List.setIfInBounds_toArray, List.set_cons_zero, List.set_cons_succ]
    refine wpAnyH_ready (rs := [8]) (by kernel_rfl) (by simp) ?_
    refine AllReadyH.cons (o := ⟨_, _, _, _, _, _⟩) rfl (fun K hK => ?_) AllReadyH.nil
    first | go_at_call 23 | go_at_call 27 | go_at_call 9 | go_at_call 25 | go_at_call 26 | go_at_call 24 | (rw [if_pos ?_]; rotate_left; (focus rfl); go_simp) | skip
    try go_at_call 25
    refine (QWW.out _ N1.out.below).mono ?_
    rintro e y23_1 ⟨az23_1, nz23_1, cz23_1, bz23_1, mz23_1, dz23_1, rfl, hi, hj, hb, hf, hg⟩
    have N2 := Lib.hid (Sf.retG2 N1.out HA.out hb hi hj hf hg)
    clear hi hj hb hf hg
    have e2 := KK.out _ _ N2.out
    try dsimp only
    refine hK.out _ _ (by (try dsimp only); exact e2) (fun hHeld2 => ?_)
    clear hK K hHeld
    have hHeld := hHeld2
    clear hHeld2
    try simp only [Act.put, List.setIfInBounds_toArray, List.set_cons_zero, List.set_cons_succ]
    refine wpAnyH_ready (rs := [9]) (by kernel_rfl) (by simp) ?_
    refine AllReadyH.cons (o := ⟨_, _, _, _, _, _⟩) rfl (fun K hK => ?_) AllReadyH.nil
    first | go_at_call 23 | go_at_call 27 | go_at_call 9 | go_at_call 25 | go_at_call 26 | go_at_call 24 | (rw [if_pos ?_]; rotate_left; (focus rfl); go_simp) | skip
    try go_at_call 23
    refine (rfsame_b (s1 := ws) (t1 := wt) (s2 := ws) (t2 := wt) (N2.out.ints (.slice az23_0 nz23_0 cz23_0, wl) mq2) (N2.out.ints (.slice bz23_0 mz23_0 dz23_0, wk) mq3) (N2.out.ints (.slice az23_1 nz23_1 cz23_1, wl) mq0) (N2.out.ints (.slice bz23_1 mz23_1 dz23_1, wk) mq1) (same_selfF ws wl wt wk)).mono ?_
    rintro e y23_2 ⟨rfl, hb⟩
    have N3 := Lib.hid (N2.out.later hb)
    clear hb
    have e3 := KK.out _ _ N3.out
    try dsimp only
    refine hK.out _ _ (by (try dsimp only); exact e3) (fun hHeld2 => ?_)
    clear hK K hHeld
    have hHeld := hHeld2
    clear hHeld2
    try simp only [Act.put, List.setIfInBounds_toArray, List.set_cons_zero, List.set_cons_succ]
    refine wpAnyH_take (i := 10) (oi := ⟨_, _, _, _, _, _⟩) (v := ?_) rfl (by kernel_rfl) (by kernel_rfl) (by kernel_rfl) (fun _ _ _ h => h) (Or.inl ⟨by rfl, ?_⟩) (by assumption) ?_
    rotate_left
    focus (intro w hSw; (try dsimp only at hSw); go_simp; (try with_reducible rfl))
    try simp only [Act.put, List.setIfInBounds_toArray, List.set_cons_zero, List.set_cons_succ]
    refine wpAnyH_take (i := 11) (oi := ⟨_, _, _, _, _, _⟩) (v := ?_) rfl (by kernel_rfl) (by kernel_rfl) (by kernel_rfl) (fun _ _ _ h => h) (Or.inl ⟨by rfl, ?_⟩) (by assumption) ?_
    rotate_left
    focus (intro w hSw; (try dsimp only at hSw); go_simp; (try with_reducible rfl))
    try simp only [Act.put, List.setIfInBounds_toArray, List.set_cons_zero, List.set_cons_succ]
    refine wpAnyH_take (i := 12) (oi := ⟨_, _, _, _, _, _⟩) (v := ?_) rfl (by kernel_rfl) (by kernel_rfl) (by kernel_rfl) (fun _ _ _ h => h) (Or.inl ⟨by rfl, ?_⟩) (by assumption) ?_
    rotate_left
    focus (intro w hSw; (try dsimp only at hSw); go_simp; (try with_reducible rfl))
    try simp only [Act.put, List.setIfInBounds_toArray, List.set_cons_zero, List.set_cons_succ]
    refine wpAnyH_take (i := 14) (oi := ⟨_, _, _, _, _, _⟩) (v := ?_) rfl (by kernel_rfl) (by kernel_rfl) (by kernel_rfl) (fun _ _ _ h => h) (Or.inl ⟨by rfl, ?_⟩) (by assumption) ?_
    rotate_left
    focus (intro w hSw; (try dsimp only at hSw); go_simp; (try with_reducible rfl))
    try simp only [Act.put, List.setIfInBounds_toArray, List.set_cons_zero, List.set_cons_succ]
    refine wpAnyH_ready (rs := [13]) (by kernel_rfl) (by simp) ?_
    refine AllReadyH.cons (o := ⟨_, _, _, _, _, _⟩) rfl (fun K hK => ?_) AllReadyH.nil
    first | go_at_call 23 | go_at_call 27 | go_at_call 9 | go_at_call 25 | go_at_call 26 | go_at_call 24 | (rw [if_pos ?_]; rotate_left; (focus rfl); go_simp) | skip
    try go_at_call 26
    refine (PNN.out _ N3.out.below).mono ?_
    rintro e y23_3 ⟨a1z23_3, n1z23_3, c1z23_3, b1z23_3, m1z23_3, d1z23_3, a2z23_3, n2z23_3, c2z23_3, b2z23_3, m2z23_3, d2z23_3, rfl, hi, hb, f1, f2, f3, f4⟩
    have N4 := Lib.hid (Sf.retG4 N3.out HA.out hb hi f1 f2 f3 f4)
    clear hi hb f1 f2 f3 f4
    have e4 := KK.out _ _ N4.out
    try dsimp only
    refine hK.out _ _ (by (try dsimp only); exact e4) (fun hHeld2 => ?_)
    clear hK K hHeld
    have hHeld := hHeld2
    clear hHeld2
    try simp only [Act.put, List.setIfInBounds_toArray, List.set_cons_zero, List.set_cons_succ]
    refine wpAnyH_ready (rs := [15]) (by kernel_rfl) (by simp) ?_
    refine AllReadyH.cons (o := ⟨_, _, _, _, _, _⟩) rfl (fun K hK => ?_) AllReadyH.nil
    first | go_at_call 23 | go_at_call 27 | go_at_call 9 | go_at_call 25 | go_at_call 26 | go_at_call 24 | (rw [if_pos ?_]; rotate_left; (focus rfl); go_simp) | skip
    try go_at_call 27
    refine (QNN.out _ N4.out.below).mono ?_
    rintro e y23_4 ⟨a1z23_4, n1z23_4, c1z23_4, b1z23_4, m1z23_4, d1z23_4, a2z23_4, n2z23_4, c2z23_4, b2z23_4, m2z23_4, d2z23_4, rfl, hi, hb, f1, f2, f3, f4⟩
    have N5 := Lib.hid (Sf.retG4 N4.out HA.out hb hi f1 f2 f3 f4)
    clear hi hb f1 f2 f3 f4
    have e5 := KK.out _ _ N5.out
    try dsimp only
    refine hK.out _ _ (by (try dsimp only); exact e5) (fun hHeld2 => ?_)
    clear hK K hHeld
    have hHeld := hHeld2
    clear hHeld2
    try simp only [Act.put, List.setIfInBounds_toArray, List.set_cons_zero, List.set_cons_succ]
    refine wpAnyH_ready (rs := [16]) (by kernel_rfl) (by simp) ?_
    refine AllReadyH.cons (o := ⟨_, _, _, _, _, _⟩) rfl (fun K hK => ?_) AllReadyH.nil
    first | go_at_call 23 | go_at_call 27 | go_at_call 9 | go_at_call 25 | go_at_call 26 | go_at_call 24 | (rw [if_pos ?_]; rotate_left; (focus rfl); go_simp) | skip
    try go_at_call 9
    refine (r10same_raw (s1 := DN.s1) (t1 := DN.t1) (s2 := DN.s2) (t2 := DN.t2) (s3 := DN.s1) (t3 := DN.t1) (s4 := DN.s2) (t4 := DN.t2) (N5.out.ints (.slice a1z23_3 n1z23_3 c1z23_3, DN.l1) mq4) (N5.out.ints (.slice b1z23_3 m1z23_3 d1z23_3, DN.k1) mq5) (N5.out.ints (.slice a2z23_3 n2z23_3 c2z23_3, DN.l2) mq6) (N5.out.ints (.slice b2z23_3 m2z23_3 d2z23_3, DN.k2) mq7) (N5.out.ints (.slice a1z23_4 n1z23_4 c1z23_4, DN.l1) mq0) (N5.out.ints (.slice b1z23_4 m1z23_4 d1z23_4, DN.k1) mq1) (N5.out.ints (.slice a2z23_4 n2z23_4 c2z23_4, DN.l2) mq2) (N5.out.ints (.slice b2z23_4 m2z23_4 d2z23_4, DN.k2) mq3) (same_self DN)).mono ?_
    rintro e y23_5 ⟨rfl, hb⟩
    have N6 := Lib.hid (N5.out.later hb)
    clear hb
    have e6 := KK.out _ _ N6.out
    try dsimp only
    refine hK.out _ _ (by (try dsimp only); exact e6) (fun hHeld2 => ?_)
    clear hK K hHeld
    have hHeld := hHeld2
    clear hHeld2
    try simp only [Act.put, List.setIfInBounds_toArray, List.set_cons_zero, List.set_cons_succ]
    refine wpAnyH_take (i := 17) (oi := ⟨_, _, _, _, _, _⟩) (v := ?_) rfl (by kernel_rfl) (by kernel_rfl) (by kernel_rfl) (fun _ _ _ h => h) (Or.inl ⟨by rfl, ?_⟩) (by assumption) ?_
    rotate_left
    focus (intro w hSw; (try dsimp only at hSw); go_simp; (try with_reducible rfl))
    try simp only [Act.put, List.setIfInBounds_toArray, List.set_cons_zero, List.set_cons_succ]
    refine wpAnyH_take (i := 18) (oi := ⟨_, _, _, _, _, _⟩) (v := ?_) rfl (by kernel_rfl) (by kernel_rfl) (by kernel_rfl) (fun _ _ _ h => h) (Or.inl ⟨by rfl, ?_⟩) (by assumption) ?_
    rotate_left
    focus (intro w hSw; (try dsimp only at hSw); go_simp; (try with_reducible rfl))
    try simp only [Act.put, List.setIfInBounds_toArray, List.set_cons_zero, List.set_cons_succ]
    refine wpAnyH_done (by kernel_rfl) ?_ _
    go_wp2_with fail
    go_meet
    exact ⟨rfl, Lib.hid (Sf.facts N6.out (by simp))⟩
   case rest =>
   obtain ⟨rfl, hq⟩ := hcut
   obtain ⟨w23, rfl⟩ : ∃ W, W = wc := ⟨_, rfl⟩
   have R23 := Lib.hid hq.out
   clear hq R22
   go_wp2_with fail
   go_ret
   exact ⟨rfl, R23.out.below⟩

theorem tells_all {w : World} {s1 t1 : Int} {a1 b1 : Option Addr} {c1 d1 : Nat} {l1 k1 : List Int} {s2 t2 : Int} {a2 b2 : Option Addr} {c2 d2 : Nat} {l2 k2 : List Int} {s3 t3 : Int} {a3 b3 : Option Addr} {c3 d3 : Nat} {l3 k3 : List Int} {s4 t4 : Int} {a4 b4 : Option Addr} {c4 d4 : Nat} {l4 k4 : List Int} {s5 t5 : Int} {a5 b5 : Option Addr} {c5 d5 : Nat} {l5 k5 : List Int} (y1 : l1.length ≤ 9223372036854775807) (z1 : k1.length ≤ 9223372036854775807) (i1 : l1.length ≤ 1000000000 → Ints w (.slice a1 l1.length c1) l1) (j1 : k1.length ≤ 1000000000 → Ints w (.slice b1 k1.length d1) k1) (y2 : l2.length ≤ 9223372036854775807) (z2 : k2.length ≤ 9223372036854775807) (i2 : l2.length ≤ 1000000000 → Ints w (.slice a2 l2.length c2) l2) (j2 : k2.length ≤ 1000000000 → Ints w (.slice b2 k2.length d2) k2) (y3 : l3.length ≤ 9223372036854775807) (z3 : k3.length ≤ 9223372036854775807) (i3 : l3.length ≤ 1000000000 → Ints w (.slice a3 l3.length c3) l3) (j3 : k3.length ≤ 1000000000 → Ints w (.slice b3 k3.length d3) k3) (y4 : l4.length ≤ 9223372036854775807) (z4 : k4.length ≤ 9223372036854775807) (i4 : l4.length ≤ 1000000000 → Ints w (.slice a4 l4.length c4) l4) (j4 : k4.length ≤ 1000000000 → Ints w (.slice b4 k4.length d4) k4) (y5 : l5.length ≤ 9223372036854775807) (z5 : k5.length ≤ 9223372036854775807) (i5 : l5.length ≤ 1000000000 → Ints w (.slice a5 l5.length c5) l5) (j5 : k5.length ≤ 1000000000 → Ints w (.slice b5 k5.length d5) k5) :
  Calls Tryz.prog 3 #[.agg #[.int .i64 s1, .slice a1 l1.length c1, .int .i64 t1, .slice b1 k1.length d1, .int .i64 s2, .slice a2 l2.length c2, .int .i64 t2, .slice b2 k2.length d2], .agg #[.int .i64 s3, .slice a3 l3.length c3, .int .i64 t3, .slice b3 k3.length d3, .int .i64 s4, .slice a4 l4.length c4, .int .i64 t4, .slice b4 k4.length d4], .agg #[.int .i64 s5, .slice a5 l5.length c5, .int .i64 t5, .slice b5 k5.length d5]] w fun e w' => e = .returned (.bool true) ∧ RowKit.Below w.heap.size w w' := by
 rcases hq : ((((decide ((l1.length : Int) ≤ 4) && decide ((k1.length : Int) ≤ 4)) && (decide ((l2.length : Int) ≤ 4) && decide ((k2.length : Int) ≤ 4))) && ((decide ((l3.length : Int) ≤ 4) && decide ((k3.length : Int) ≤ 4)) && (decide ((l4.length : Int) ≤ 4) && decide ((k4.length : Int) ≤ 4)))) && (decide ((l5.length : Int) ≤ 4) && decide ((k5.length : Int) ≤ 4))) with _ | _
 ·exact tells_no y1 z1 y2 z2 y3 z3 y4 z4 y5 z5 hq
 ·simp only [Bool.and_eq_true, decide_eq_true_eq] at hq
  have q1 : l1.length ≤ 4 := by omega
  have p1 : k1.length ≤ 4 := by omega
  have I1 := i1 (by omega)
  have J1 := j1 (by omega)
  have q2 : l2.length ≤ 4 := by omega
  have p2 : k2.length ≤ 4 := by omega
  have I2 := i2 (by omega)
  have J2 := j2 (by omega)
  have q3 : l3.length ≤ 4 := by omega
  have p3 : k3.length ≤ 4 := by omega
  have I3 := i3 (by omega)
  have J3 := j3 (by omega)
  have q4 : l4.length ≤ 4 := by omega
  have p4 : k4.length ≤ 4 := by omega
  have I4 := i4 (by omega)
  have J4 := j4 (by omega)
  have q5 : l5.length ≤ 4 := by omega
  have p5 : k5.length ≤ 4 := by omega
  have I5 := i5 (by omega)
  have J5 := j5 (by omega)
  clear hq y1 z1 i1 j1 y2 z2 i2 j2 y3 z3 i3 j3 y4 z4 i4 j4 y5 z5 i5 j5
  exact tells_good  I1 J1 q1 p1 rfl rfl I2 J2 q2 p2 rfl rfl I3 J3 q3 p3 rfl rfl I4 J4 q4 p4 rfl rfl I5 J5 q5 p5 rfl rfl
end Go.Proofs.YtgncnkojpedmdaaGreat.Sp
