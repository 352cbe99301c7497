/- The law UnitBack. -/
import Derived.Test.YtmhdhabgdlefjaaDoorM35
set_option maxRecDepth 100000
namespace Go.Proofs.YtmhdhabgdlefjaaDoor.Un
open Go.RowKit Bi Dm

set_option maxHeartbeats 8000000 in
theorem back_no {w : World} {f g : Nat → Int} {s1 t1 : Int} {a1 b1 : Option Addr} {n1 c1 m1 d1 : Nat} {s2 t2 : Int} {a2 b2 : Option Addr} {n2 c2 m2 d2 : Nat} {s3 t3 : Int} {a3 b3 : Option Addr} {n3 c3 m3 d3 : Nat}  (he : EnvU w) (hn1 : n1 ≤ 9223372036854775807) (hm1 : m1 ≤ 9223372036854775807) (hn2 : n2 ≤ 9223372036854775807) (hm2 : m2 ≤ 9223372036854775807) (hn3 : n3 ≤ 9223372036854775807) (hm3 : m3 ≤ 9223372036854775807) (hno : ((decide ((n1 : Int) ≤ 12) && decide ((m1 : Int) ≤ 12)) && ((decide ((n2 : Int) ≤ 12) && decide ((m2 : Int) ≤ 12)) && (decide ((n3 : Int) ≤ 6) && decide ((m3 : Int) ≤ 6)))) = false) :
    Calls Tryd.prog 3 #[.agg #[.int .i64 (f 0), .int .i64 (f 1), .int .i64 (f 2), .int .i64 (f 3), .int .i64 (f 4), .int .i64 (f 5), .int .i64 s1, .slice a1 n1 c1, .int .i64 t1, .slice b1 m1 d1], .agg #[.int .i64 (g 0), .int .i64 (g 1), .int .i64 (g 2), .int .i64 (g 3), .int .i64 (g 4), .int .i64 (g 5), .int .i64 s2, .slice a2 n2 c2, .int .i64 t2, .slice b2 m2 d2], .agg #[.int .i64 s3, .slice a3 n3 c3, .int .i64 t3, .slice b3 m3 d3]] w fun e w' => e = .returned (.bool true) ∧ RowKit.Below w.heap.size w w' := by
  have HE := Lib.hid he
  have MN1 := Lib.hid hn1
  have MM1 := Lib.hid hm1
  obtain ⟨q1, hq1⟩ : ∃ q, (decide ((n1 : Int) ≤ 12) && decide ((m1 : Int) ≤ 12)) = q := ⟨_, rfl⟩
  have KW1 := Lib.hid hq1
  have MN2 := Lib.hid hn2
  have MM2 := Lib.hid hm2
  obtain ⟨q2, hq2⟩ : ∃ q, (decide ((n2 : Int) ≤ 12) && decide ((m2 : Int) ≤ 12)) = q := ⟨_, rfl⟩
  have KW2 := Lib.hid hq2
  have MN3 := Lib.hid hn3
  have MM3 := Lib.hid hm3
  obtain ⟨q3, hq3⟩ : ∃ q, (decide ((n3 : Int) ≤ 6) && decide ((m3 : Int) ≤ 6)) = q := ⟨_, rfl⟩
  have KW3 := Lib.hid hq3
  rw [hq1, hq2, hq3] at hno
  have HNO := Lib.hid hno
  clear he hno hn1 hm1 hq1 hn2 hm2 hq2 hn3 hm3 hq3
  have s0 := ((((Sf.start w).put [.int .i64 (f 0), .int .i64 (f 1), .int .i64 (f 2), .int .i64 (f 3), .int .i64 (f 4), .int .i64 (f 5), .int .i64 s1, .slice a1 n1 c1, .int .i64 t1, .slice b1 m1 d1] 30).put [.int .i64 (g 0), .int .i64 (g 1), .int .i64 (g 2), .int .i64 (g 3), .int .i64 (g 4), .int .i64 (g 5), .int .i64 s2, .slice a2 n2 c2, .int .i64 t2, .slice b2 m2 d2] 30).put [.int .i64 s3, .slice a3 n3 c3, .int .i64 t3, .slice b3 m3 d3] 28)
  try simp only [World.size_alloc] at s0
  have S0 := Lib.hid s0
  clear s0
  go_enter Tryd.func3, Tryd.ntmps3
  go_wp2_with fail
  refine (sane_t _ (HE.out.below S0.out.below)).mono ?_
  rintro e w1 ⟨rfl, hb⟩
  have R1 := Lib.hid (S0.out.later hb)
  clear hb
  have q1 := (R1.out.box (w.heap.size, 30, [.int .i64 (f 0), .int .i64 (f 1), .int .i64 (f 2), .int .i64 (f 3), .int .i64 (f 4), .int .i64 (f 5), .int .i64 s1, .slice a1 n1 c1, .int .i64 t1, .slice b1 m1 d1]) (List.mem_cons_of_mem _ (List.mem_cons_of_mem _ List.mem_cons_self))).cell 0
  have q2 := (R1.out.box (w.heap.size, 30, [.int .i64 (f 0), .int .i64 (f 1), .int .i64 (f 2), .int .i64 (f 3), .int .i64 (f 4), .int .i64 (f 5), .int .i64 s1, .slice a1 n1 c1, .int .i64 t1, .slice b1 m1 d1]) (List.mem_cons_of_mem _ (List.mem_cons_of_mem _ List.mem_cons_self))).cell 1
  have q3 := (R1.out.box (w.heap.size, 30, [.int .i64 (f 0), .int .i64 (f 1), .int .i64 (f 2), .int .i64 (f 3), .int .i64 (f 4), .int .i64 (f 5), .int .i64 s1, .slice a1 n1 c1, .int .i64 t1, .slice b1 m1 d1]) (List.mem_cons_of_mem _ (List.mem_cons_of_mem _ List.mem_cons_self))).cell 2
  have q4 := (R1.out.box (w.heap.size, 30, [.int .i64 (f 0), .int .i64 (f 1), .int .i64 (f 2), .int .i64 (f 3), .int .i64 (f 4), .int .i64 (f 5), .int .i64 s1, .slice a1 n1 c1, .int .i64 t1, .slice b1 m1 d1]) (List.mem_cons_of_mem _ (List.mem_cons_of_mem _ List.mem_cons_self))).cell 3
  have q5 := (R1.out.box (w.heap.size, 30, [.int .i64 (f 0), .int .i64 (f 1), .int .i64 (f 2), .int .i64 (f 3), .int .i64 (f 4), .int .i64 (f 5), .int .i64 s1, .slice a1 n1 c1, .int .i64 t1, .slice b1 m1 d1]) (List.mem_cons_of_mem _ (List.mem_cons_of_mem _ List.mem_cons_self))).cell 4
  have q6 := (R1.out.box (w.heap.size, 30, [.int .i64 (f 0), .int .i64 (f 1), .int .i64 (f 2), .int .i64 (f 3), .int .i64 (f 4), .int .i64 (f 5), .int .i64 s1, .slice a1 n1 c1, .int .i64 t1, .slice b1 m1 d1]) (List.mem_cons_of_mem _ (List.mem_cons_of_mem _ List.mem_cons_self))).cell 5
  have q7 := (R1.out.box (w.heap.size, 30, [.int .i64 (f 0), .int .i64 (f 1), .int .i64 (f 2), .int .i64 (f 3), .int .i64 (f 4), .int .i64 (f 5), .int .i64 s1, .slice a1 n1 c1, .int .i64 t1, .slice b1 m1 d1]) (List.mem_cons_of_mem _ (List.mem_cons_of_mem _ List.mem_cons_self))).cell 6
  have q8 := (R1.out.box (w.heap.size, 30, [.int .i64 (f 0), .int .i64 (f 1), .int .i64 (f 2), .int .i64 (f 3), .int .i64 (f 4), .int .i64 (f 5), .int .i64 s1, .slice a1 n1 c1, .int .i64 t1, .slice b1 m1 d1]) (List.mem_cons_of_mem _ (List.mem_cons_of_mem _ List.mem_cons_self))).cell 7
  have q9 := (R1.out.box (w.heap.size, 30, [.int .i64 (f 0), .int .i64 (f 1), .int .i64 (f 2), .int .i64 (f 3), .int .i64 (f 4), .int .i64 (f 5), .int .i64 s1, .slice a1 n1 c1, .int .i64 t1, .slice b1 m1 d1]) (List.mem_cons_of_mem _ (List.mem_cons_of_mem _ List.mem_cons_self))).cell 8
  have q10 := (R1.out.box (w.heap.size, 30, [.int .i64 (f 0), .int .i64 (f 1), .int .i64 (f 2), .int .i64 (f 3), .int .i64 (f 4), .int .i64 (f 5), .int .i64 s1, .slice a1 n1 c1, .int .i64 t1, .slice b1 m1 d1]) (List.mem_cons_of_mem _ (List.mem_cons_of_mem _ List.mem_cons_self))).cell 9
  simp only [List.getElem?_cons_succ, List.getElem?_cons_zero] at q1 q2 q3 q4 q5 q6 q7 q8 q9 q10
  go_wp2_with fail
  clear q1 q2 q3 q4 q5 q6 q7 q8 q9 q10
  refine (u9few_len (f := f) (s := s1) (t := t1) (a := a1) (b := b1) (c := c1) (d := d1) MN1.out MM1.out (k := q1) KW1.out).mono ?_
  rintro e w2 ⟨rfl, hb⟩
  have R2 := Lib.hid (R1.out.later hb)
  clear hb
  cases q1
  case false =>
    go_wp2_with fail
    go_ret
    exact ⟨rfl, R2.out.below⟩
  have q11 := (R2.out.box (w.heap.size + 1, 30, [.int .i64 (g 0), .int .i64 (g 1), .int .i64 (g 2), .int .i64 (g 3), .int .i64 (g 4), .int .i64 (g 5), .int .i64 s2, .slice a2 n2 c2, .int .i64 t2, .slice b2 m2 d2]) (List.mem_cons_of_mem _ List.mem_cons_self)).cell 0
  have q12 := (R2.out.box (w.heap.size + 1, 30, [.int .i64 (g 0), .int .i64 (g 1), .int .i64 (g 2), .int .i64 (g 3), .int .i64 (g 4), .int .i64 (g 5), .int .i64 s2, .slice a2 n2 c2, .int .i64 t2, .slice b2 m2 d2]) (List.mem_cons_of_mem _ List.mem_cons_self)).cell 1
  have q13 := (R2.out.box (w.heap.size + 1, 30, [.int .i64 (g 0), .int .i64 (g 1), .int .i64 (g 2), .int .i64 (g 3), .int .i64 (g 4), .int .i64 (g 5), .int .i64 s2, .slice a2 n2 c2, .int .i64 t2, .slice b2 m2 d2]) (List.mem_cons_of_mem _ List.mem_cons_self)).cell 2
  have q14 := (R2.out.box (w.heap.size + 1, 30, [.int .i64 (g 0), .int .i64 (g 1), .int .i64 (g 2), .int .i64 (g 3), .int .i64 (g 4), .int .i64 (g 5), .int .i64 s2, .slice a2 n2 c2, .int .i64 t2, .slice b2 m2 d2]) (List.mem_cons_of_mem _ List.mem_cons_self)).cell 3
  have q15 := (R2.out.box (w.heap.size + 1, 30, [.int .i64 (g 0), .int .i64 (g 1), .int .i64 (g 2), .int .i64 (g 3), .int .i64 (g 4), .int .i64 (g 5), .int .i64 s2, .slice a2 n2 c2, .int .i64 t2, .slice b2 m2 d2]) (List.mem_cons_of_mem _ List.mem_cons_self)).cell 4
  have q16 := (R2.out.box (w.heap.size + 1, 30, [.int .i64 (g 0), .int .i64 (g 1), .int .i64 (g 2), .int .i64 (g 3), .int .i64 (g 4), .int .i64 (g 5), .int .i64 s2, .slice a2 n2 c2, .int .i64 t2, .slice b2 m2 d2]) (List.mem_cons_of_mem _ List.mem_cons_self)).cell 5
  have q17 := (R2.out.box (w.heap.size + 1, 30, [.int .i64 (g 0), .int .i64 (g 1), .int .i64 (g 2), .int .i64 (g 3), .int .i64 (g 4), .int .i64 (g 5), .int .i64 s2, .slice a2 n2 c2, .int .i64 t2, .slice b2 m2 d2]) (List.mem_cons_of_mem _ List.mem_cons_self)).cell 6
  have q18 := (R2.out.box (w.heap.size + 1, 30, [.int .i64 (g 0), .int .i64 (g 1), .int .i64 (g 2), .int .i64 (g 3), .int .i64 (g 4), .int .i64 (g 5), .int .i64 s2, .slice a2 n2 c2, .int .i64 t2, .slice b2 m2 d2]) (List.mem_cons_of_mem _ List.mem_cons_self)).cell 7
  have q19 := (R2.out.box (w.heap.size + 1, 30, [.int .i64 (g 0), .int .i64 (g 1), .int .i64 (g 2), .int .i64 (g 3), .int .i64 (g 4), .int .i64 (g 5), .int .i64 s2, .slice a2 n2 c2, .int .i64 t2, .slice b2 m2 d2]) (List.mem_cons_of_mem _ List.mem_cons_self)).cell 8
  have q20 := (R2.out.box (w.heap.size + 1, 30, [.int .i64 (g 0), .int .i64 (g 1), .int .i64 (g 2), .int .i64 (g 3), .int .i64 (g 4), .int .i64 (g 5), .int .i64 s2, .slice a2 n2 c2, .int .i64 t2, .slice b2 m2 d2]) (List.mem_cons_of_mem _ List.mem_cons_self)).cell 9
  simp only [List.getElem?_cons_succ, List.getElem?_cons_zero] at q11 q12 q13 q14 q15 q16 q17 q18 q19 q20
  go_wp2_with fail
  clear q11 q12 q13 q14 q15 q16 q17 q18 q19 q20
  refine (u9few_len (f := g) (s := s2) (t := t2) (a := a2) (b := b2) (c := c2) (d := d2) MN2.out MM2.out (k := q2) KW2.out).mono ?_
  rintro e w3 ⟨rfl, hb⟩
  have R3 := Lib.hid (R2.out.later hb)
  clear hb
  cases q2
  case false =>
    go_wp2_with fail
    go_ret
    exact ⟨rfl, R3.out.below⟩
  have q21 := (R3.out.box (w.heap.size + 1 + 1, 28, [.int .i64 s3, .slice a3 n3 c3, .int .i64 t3, .slice b3 m3 d3]) List.mem_cons_self).cell 0
  have q22 := (R3.out.box (w.heap.size + 1 + 1, 28, [.int .i64 s3, .slice a3 n3 c3, .int .i64 t3, .slice b3 m3 d3]) List.mem_cons_self).cell 1
  have q23 := (R3.out.box (w.heap.size + 1 + 1, 28, [.int .i64 s3, .slice a3 n3 c3, .int .i64 t3, .slice b3 m3 d3]) List.mem_cons_self).cell 2
  have q24 := (R3.out.box (w.heap.size + 1 + 1, 28, [.int .i64 s3, .slice a3 n3 c3, .int .i64 t3, .slice b3 m3 d3]) List.mem_cons_self).cell 3
  simp only [List.getElem?_cons_succ, List.getElem?_cons_zero] at q21 q22 q23 q24
  go_wp2_with fail
  clear q21 q22 q23 q24
  refine (ffew_len s3 a3 n3 c3 t3 b3 m3 d3 6 _ MN3.out MM3.out q3 KW3.out).mono ?_
  rintro e w4 ⟨rfl, hb⟩
  have R4 := Lib.hid (R3.out.later hb)
  clear hb
  cases q3
  case false =>
    go_wp2_with fail
    go_ret
    exact ⟨rfl, R4.out.below⟩
  exact absurd HNO.out (by decide)

set_option maxHeartbeats 8000000 in
theorem back_bad {w : World} {f g : Nat → Int} {s1 t1 : Int} {a1 b1 : Option Addr} {n1 c1 m1 d1 : Nat} {l1 k1 : List Int} {s2 t2 : Int} {a2 b2 : Option Addr} {n2 c2 m2 d2 : Nat} {l2 k2 : List Int} {s3 t3 : Int} {a3 b3 : Option Addr} {n3 c3 m3 d3 : Nat} {l3 k3 : List Int}  (he : EnvU w) (hl1 : Ints w (.slice a1 n1 c1) l1) (hk1 : Ints w (.slice b1 m1 d1) k1) (hn1 : n1 ≤ 12) (hm1 : m1 ≤ 12) (el1 : l1.length = n1) (ek1 : k1.length = m1) (hl2 : Ints w (.slice a2 n2 c2) l2) (hk2 : Ints w (.slice b2 m2 d2) k2) (hn2 : n2 ≤ 12) (hm2 : m2 ≤ 12) (el2 : l2.length = n2) (ek2 : k2.length = m2) (hl3 : Ints w (.slice a3 n3 c3) l3) (hk3 : Ints w (.slice b3 m3 d3) k3) (hn3 : n3 ≤ 6) (hm3 : m3 ≤ 6) (el3 : l3.length = n3) (ek3 : k3.length = m3) (hno : (uR f s1 l1 t1 k1 && (uR g s2 l2 t2 k2 && fRightB s3 l3 t3 k3)) = false) :
    Calls Tryd.prog 3 #[.agg #[.int .i64 (f 0), .int .i64 (f 1), .int .i64 (f 2), .int .i64 (f 3), .int .i64 (f 4), .int .i64 (f 5), .int .i64 s1, .slice a1 n1 c1, .int .i64 t1, .slice b1 m1 d1], .agg #[.int .i64 (g 0), .int .i64 (g 1), .int .i64 (g 2), .int .i64 (g 3), .int .i64 (g 4), .int .i64 (g 5), .int .i64 s2, .slice a2 n2 c2, .int .i64 t2, .slice b2 m2 d2], .agg #[.int .i64 s3, .slice a3 n3 c3, .int .i64 t3, .slice b3 m3 d3]] w fun e w' => e = .returned (.bool true) ∧ RowKit.Below w.heap.size w w' := by
  have HE := Lib.hid he
  have MN1 : Hid (n1 ≤ 9223372036854775807) := Lib.hid (by omega)
  have MM1 : Hid (m1 ≤ 9223372036854775807) := Lib.hid (by omega)
  have KW1 : Hid ((decide ((n1 : Int) ≤ 12) && decide ((m1 : Int) ≤ 12)) = true) := Lib.hid (by simp; omega)
  have LL1 : Hid (l1.length ≤ 1000) := Lib.hid (by omega)
  have LK1 : Hid (k1.length ≤ 1000) := Lib.hid (by omega)
  obtain ⟨q1, hq1⟩ : ∃ q, uR f s1 l1 t1 k1 = q := ⟨_, rfl⟩
  have RW1 := Lib.hid hq1
  have MN2 : Hid (n2 ≤ 9223372036854775807) := Lib.hid (by omega)
  have MM2 : Hid (m2 ≤ 9223372036854775807) := Lib.hid (by omega)
  have KW2 : Hid ((decide ((n2 : Int) ≤ 12) && decide ((m2 : Int) ≤ 12)) = true) := Lib.hid (by simp; omega)
  have LL2 : Hid (l2.length ≤ 1000) := Lib.hid (by omega)
  have LK2 : Hid (k2.length ≤ 1000) := Lib.hid (by omega)
  obtain ⟨q2, hq2⟩ : ∃ q, uR g s2 l2 t2 k2 = q := ⟨_, rfl⟩
  have RW2 := Lib.hid hq2
  have MN3 : Hid (n3 ≤ 9223372036854775807) := Lib.hid (by omega)
  have MM3 : Hid (m3 ≤ 9223372036854775807) := Lib.hid (by omega)
  have KW3 : Hid ((decide ((n3 : Int) ≤ 6) && decide ((m3 : Int) ≤ 6)) = true) := Lib.hid (by simp; omega)
  have LL3 : Hid (l3.length ≤ 1000) := Lib.hid (by omega)
  have LK3 : Hid (k3.length ≤ 1000) := Lib.hid (by omega)
  obtain ⟨q3, hq3⟩ : ∃ q, fRightB s3 l3 t3 k3 = q := ⟨_, rfl⟩
  have RW3 := Lib.hid hq3
  rw [hq1, hq2, hq3] at hno
  have HNO := Lib.hid hno
  have s0 := ((((((((((Sf.start w).arg hk1).arg hl1).arg hk2).arg hl2).arg hk3).arg hl3).put [.int .i64 (f 0), .int .i64 (f 1), .int .i64 (f 2), .int .i64 (f 3), .int .i64 (f 4), .int .i64 (f 5), .int .i64 s1, .slice a1 n1 c1, .int .i64 t1, .slice b1 m1 d1] 30).put [.int .i64 (g 0), .int .i64 (g 1), .int .i64 (g 2), .int .i64 (g 3), .int .i64 (g 4), .int .i64 (g 5), .int .i64 s2, .slice a2 n2 c2, .int .i64 t2, .slice b2 m2 d2] 30).put [.int .i64 s3, .slice a3 n3 c3, .int .i64 t3, .slice b3 m3 d3] 28)
  try simp only [World.size_alloc] at s0
  have S0 := Lib.hid s0
  clear s0
  clear he hno hl1 hk1 el1 ek1 hn1 hm1 hq1 hl2 hk2 el2 ek2 hn2 hm2 hq2 hl3 hk3 el3 ek3 hn3 hm3 hq3
  go_enter Tryd.func3, Tryd.ntmps3
  go_wp2_with fail
  refine (sane_t _ (HE.out.below S0.out.below)).mono ?_
  rintro e w1 ⟨rfl, hb⟩
  have R1 := Lib.hid (S0.out.later hb)
  clear hb
  have q1 := (R1.out.box (w.heap.size, 30, [.int .i64 (f 0), .int .i64 (f 1), .int .i64 (f 2), .int .i64 (f 3), .int .i64 (f 4), .int .i64 (f 5), .int .i64 s1, .slice a1 n1 c1, .int .i64 t1, .slice b1 m1 d1]) (List.mem_cons_of_mem _ (List.mem_cons_of_mem _ List.mem_cons_self))).cell 0
  have q2 := (R1.out.box (w.heap.size, 30, [.int .i64 (f 0), .int .i64 (f 1), .int .i64 (f 2), .int .i64 (f 3), .int .i64 (f 4), .int .i64 (f 5), .int .i64 s1, .slice a1 n1 c1, .int .i64 t1, .slice b1 m1 d1]) (List.mem_cons_of_mem _ (List.mem_cons_of_mem _ List.mem_cons_self))).cell 1
  have q3 := (R1.out.box (w.heap.size, 30, [.int .i64 (f 0), .int .i64 (f 1), .int .i64 (f 2), .int .i64 (f 3), .int .i64 (f 4), .int .i64 (f 5), .int .i64 s1, .slice a1 n1 c1, .int .i64 t1, .slice b1 m1 d1]) (List.mem_cons_of_mem _ (List.mem_cons_of_mem _ List.mem_cons_self))).cell 2
  have q4 := (R1.out.box (w.heap.size, 30, [.int .i64 (f 0), .int .i64 (f 1), .int .i64 (f 2), .int .i64 (f 3), .int .i64 (f 4), .int .i64 (f 5), .int .i64 s1, .slice a1 n1 c1, .int .i64 t1, .slice b1 m1 d1]) (List.mem_cons_of_mem _ (List.mem_cons_of_mem _ List.mem_cons_self))).cell 3
  have q5 := (R1.out.box (w.heap.size, 30, [.int .i64 (f 0), .int .i64 (f 1), .int .i64 (f 2), .int .i64 (f 3), .int .i64 (f 4), .int .i64 (f 5), .int .i64 s1, .slice a1 n1 c1, .int .i64 t1, .slice b1 m1 d1]) (List.mem_cons_of_mem _ (List.mem_cons_of_mem _ List.mem_cons_self))).cell 4
  have q6 := (R1.out.box (w.heap.size, 30, [.int .i64 (f 0), .int .i64 (f 1), .int .i64 (f 2), .int .i64 (f 3), .int .i64 (f 4), .int .i64 (f 5), .int .i64 s1, .slice a1 n1 c1, .int .i64 t1, .slice b1 m1 d1]) (List.mem_cons_of_mem _ (List.mem_cons_of_mem _ List.mem_cons_self))).cell 5
  have q7 := (R1.out.box (w.heap.size, 30, [.int .i64 (f 0), .int .i64 (f 1), .int .i64 (f 2), .int .i64 (f 3), .int .i64 (f 4), .int .i64 (f 5), .int .i64 s1, .slice a1 n1 c1, .int .i64 t1, .slice b1 m1 d1]) (List.mem_cons_of_mem _ (List.mem_cons_of_mem _ List.mem_cons_self))).cell 6
  have q8 := (R1.out.box (w.heap.size, 30, [.int .i64 (f 0), .int .i64 (f 1), .int .i64 (f 2), .int .i64 (f 3), .int .i64 (f 4), .int .i64 (f 5), .int .i64 s1, .slice a1 n1 c1, .int .i64 t1, .slice b1 m1 d1]) (List.mem_cons_of_mem _ (List.mem_cons_of_mem _ List.mem_cons_self))).cell 7
  have q9 := (R1.out.box (w.heap.size, 30, [.int .i64 (f 0), .int .i64 (f 1), .int .i64 (f 2), .int .i64 (f 3), .int .i64 (f 4), .int .i64 (f 5), .int .i64 s1, .slice a1 n1 c1, .int .i64 t1, .slice b1 m1 d1]) (List.mem_cons_of_mem _ (List.mem_cons_of_mem _ List.mem_cons_self))).cell 8
  have q10 := (R1.out.box (w.heap.size, 30, [.int .i64 (f 0), .int .i64 (f 1), .int .i64 (f 2), .int .i64 (f 3), .int .i64 (f 4), .int .i64 (f 5), .int .i64 s1, .slice a1 n1 c1, .int .i64 t1, .slice b1 m1 d1]) (List.mem_cons_of_mem _ (List.mem_cons_of_mem _ List.mem_cons_self))).cell 9
  simp only [List.getElem?_cons_succ, List.getElem?_cons_zero] at q1 q2 q3 q4 q5 q6 q7 q8 q9 q10
  go_wp2_with fail
  clear q1 q2 q3 q4 q5 q6 q7 q8 q9 q10
  refine (u9few_len (f := f) (s := s1) (t := t1) (a := a1) (b := b1) (c := c1) (d := d1) MN1.out MM1.out (k := true) KW1.out).mono ?_
  rintro e w2 ⟨rfl, hb⟩
  have R2 := Lib.hid (R1.out.later hb)
  clear hb
  have q11 := (R2.out.box (w.heap.size + 1, 30, [.int .i64 (g 0), .int .i64 (g 1), .int .i64 (g 2), .int .i64 (g 3), .int .i64 (g 4), .int .i64 (g 5), .int .i64 s2, .slice a2 n2 c2, .int .i64 t2, .slice b2 m2 d2]) (List.mem_cons_of_mem _ List.mem_cons_self)).cell 0
  have q12 := (R2.out.box (w.heap.size + 1, 30, [.int .i64 (g 0), .int .i64 (g 1), .int .i64 (g 2), .int .i64 (g 3), .int .i64 (g 4), .int .i64 (g 5), .int .i64 s2, .slice a2 n2 c2, .int .i64 t2, .slice b2 m2 d2]) (List.mem_cons_of_mem _ List.mem_cons_self)).cell 1
  have q13 := (R2.out.box (w.heap.size + 1, 30, [.int .i64 (g 0), .int .i64 (g 1), .int .i64 (g 2), .int .i64 (g 3), .int .i64 (g 4), .int .i64 (g 5), .int .i64 s2, .slice a2 n2 c2, .int .i64 t2, .slice b2 m2 d2]) (List.mem_cons_of_mem _ List.mem_cons_self)).cell 2
  have q14 := (R2.out.box (w.heap.size + 1, 30, [.int .i64 (g 0), .int .i64 (g 1), .int .i64 (g 2), .int .i64 (g 3), .int .i64 (g 4), .int .i64 (g 5), .int .i64 s2, .slice a2 n2 c2, .int .i64 t2, .slice b2 m2 d2]) (List.mem_cons_of_mem _ List.mem_cons_self)).cell 3
  have q15 := (R2.out.box (w.heap.size + 1, 30, [.int .i64 (g 0), .int .i64 (g 1), .int .i64 (g 2), .int .i64 (g 3), .int .i64 (g 4), .int .i64 (g 5), .int .i64 s2, .slice a2 n2 c2, .int .i64 t2, .slice b2 m2 d2]) (List.mem_cons_of_mem _ List.mem_cons_self)).cell 4
  have q16 := (R2.out.box (w.heap.size + 1, 30, [.int .i64 (g 0), .int .i64 (g 1), .int .i64 (g 2), .int .i64 (g 3), .int .i64 (g 4), .int .i64 (g 5), .int .i64 s2, .slice a2 n2 c2, .int .i64 t2, .slice b2 m2 d2]) (List.mem_cons_of_mem _ List.mem_cons_self)).cell 5
  have q17 := (R2.out.box (w.heap.size + 1, 30, [.int .i64 (g 0), .int .i64 (g 1), .int .i64 (g 2), .int .i64 (g 3), .int .i64 (g 4), .int .i64 (g 5), .int .i64 s2, .slice a2 n2 c2, .int .i64 t2, .slice b2 m2 d2]) (List.mem_cons_of_mem _ List.mem_cons_self)).cell 6
  have q18 := (R2.out.box (w.heap.size + 1, 30, [.int .i64 (g 0), .int .i64 (g 1), .int .i64 (g 2), .int .i64 (g 3), .int .i64 (g 4), .int .i64 (g 5), .int .i64 s2, .slice a2 n2 c2, .int .i64 t2, .slice b2 m2 d2]) (List.mem_cons_of_mem _ List.mem_cons_self)).cell 7
  have q19 := (R2.out.box (w.heap.size + 1, 30, [.int .i64 (g 0), .int .i64 (g 1), .int .i64 (g 2), .int .i64 (g 3), .int .i64 (g 4), .int .i64 (g 5), .int .i64 s2, .slice a2 n2 c2, .int .i64 t2, .slice b2 m2 d2]) (List.mem_cons_of_mem _ List.mem_cons_self)).cell 8
  have q20 := (R2.out.box (w.heap.size + 1, 30, [.int .i64 (g 0), .int .i64 (g 1), .int .i64 (g 2), .int .i64 (g 3), .int .i64 (g 4), .int .i64 (g 5), .int .i64 s2, .slice a2 n2 c2, .int .i64 t2, .slice b2 m2 d2]) (List.mem_cons_of_mem _ List.mem_cons_self)).cell 9
  simp only [List.getElem?_cons_succ, List.getElem?_cons_zero] at q11 q12 q13 q14 q15 q16 q17 q18 q19 q20
  go_wp2_with fail
  clear q11 q12 q13 q14 q15 q16 q17 q18 q19 q20
  refine (u9few_len (f := g) (s := s2) (t := t2) (a := a2) (b := b2) (c := c2) (d := d2) MN2.out MM2.out (k := true) KW2.out).mono ?_
  rintro e w3 ⟨rfl, hb⟩
  have R3 := Lib.hid (R2.out.later hb)
  clear hb
  have q21 := (R3.out.box (w.heap.size + 1 + 1, 28, [.int .i64 s3, .slice a3 n3 c3, .int .i64 t3, .slice b3 m3 d3]) List.mem_cons_self).cell 0
  have q22 := (R3.out.box (w.heap.size + 1 + 1, 28, [.int .i64 s3, .slice a3 n3 c3, .int .i64 t3, .slice b3 m3 d3]) List.mem_cons_self).cell 1
  have q23 := (R3.out.box (w.heap.size + 1 + 1, 28, [.int .i64 s3, .slice a3 n3 c3, .int .i64 t3, .slice b3 m3 d3]) List.mem_cons_self).cell 2
  have q24 := (R3.out.box (w.heap.size + 1 + 1, 28, [.int .i64 s3, .slice a3 n3 c3, .int .i64 t3, .slice b3 m3 d3]) List.mem_cons_self).cell 3
  simp only [List.getElem?_cons_succ, List.getElem?_cons_zero] at q21 q22 q23 q24
  go_wp2_with fail
  clear q21 q22 q23 q24
  refine (ffew_len s3 a3 n3 c3 t3 b3 m3 d3 6 _ MN3.out MM3.out true KW3.out).mono ?_
  rintro e w4 ⟨rfl, hb⟩
  have R4 := Lib.hid (R3.out.later hb)
  clear hb
  have q25 := (R4.out.box (w.heap.size, 30, [.int .i64 (f 0), .int .i64 (f 1), .int .i64 (f 2), .int .i64 (f 3), .int .i64 (f 4), .int .i64 (f 5), .int .i64 s1, .slice a1 n1 c1, .int .i64 t1, .slice b1 m1 d1]) (List.mem_cons_of_mem _ (List.mem_cons_of_mem _ List.mem_cons_self))).cell 0
  have q26 := (R4.out.box (w.heap.size, 30, [.int .i64 (f 0), .int .i64 (f 1), .int .i64 (f 2), .int .i64 (f 3), .int .i64 (f 4), .int .i64 (f 5), .int .i64 s1, .slice a1 n1 c1, .int .i64 t1, .slice b1 m1 d1]) (List.mem_cons_of_mem _ (List.mem_cons_of_mem _ List.mem_cons_self))).cell 1
  have q27 := (R4.out.box (w.heap.size, 30, [.int .i64 (f 0), .int .i64 (f 1), .int .i64 (f 2), .int .i64 (f 3), .int .i64 (f 4), .int .i64 (f 5), .int .i64 s1, .slice a1 n1 c1, .int .i64 t1, .slice b1 m1 d1]) (List.mem_cons_of_mem _ (List.mem_cons_of_mem _ List.mem_cons_self))).cell 2
  have q28 := (R4.out.box (w.heap.size, 30, [.int .i64 (f 0), .int .i64 (f 1), .int .i64 (f 2), .int .i64 (f 3), .int .i64 (f 4), .int .i64 (f 5), .int .i64 s1, .slice a1 n1 c1, .int .i64 t1, .slice b1 m1 d1]) (List.mem_cons_of_mem _ (List.mem_cons_of_mem _ List.mem_cons_self))).cell 3
  have q29 := (R4.out.box (w.heap.size, 30, [.int .i64 (f 0), .int .i64 (f 1), .int .i64 (f 2), .int .i64 (f 3), .int .i64 (f 4), .int .i64 (f 5), .int .i64 s1, .slice a1 n1 c1, .int .i64 t1, .slice b1 m1 d1]) (List.mem_cons_of_mem _ (List.mem_cons_of_mem _ List.mem_cons_self))).cell 4
  have q30 := (R4.out.box (w.heap.size, 30, [.int .i64 (f 0), .int .i64 (f 1), .int .i64 (f 2), .int .i64 (f 3), .int .i64 (f 4), .int .i64 (f 5), .int .i64 s1, .slice a1 n1 c1, .int .i64 t1, .slice b1 m1 d1]) (List.mem_cons_of_mem _ (List.mem_cons_of_mem _ List.mem_cons_self))).cell 5
  have q31 := (R4.out.box (w.heap.size, 30, [.int .i64 (f 0), .int .i64 (f 1), .int .i64 (f 2), .int .i64 (f 3), .int .i64 (f 4), .int .i64 (f 5), .int .i64 s1, .slice a1 n1 c1, .int .i64 t1, .slice b1 m1 d1]) (List.mem_cons_of_mem _ (List.mem_cons_of_mem _ List.mem_cons_self))).cell 6
  have q32 := (R4.out.box (w.heap.size, 30, [.int .i64 (f 0), .int .i64 (f 1), .int .i64 (f 2), .int .i64 (f 3), .int .i64 (f 4), .int .i64 (f 5), .int .i64 s1, .slice a1 n1 c1, .int .i64 t1, .slice b1 m1 d1]) (List.mem_cons_of_mem _ (List.mem_cons_of_mem _ List.mem_cons_self))).cell 7
  have q33 := (R4.out.box (w.heap.size, 30, [.int .i64 (f 0), .int .i64 (f 1), .int .i64 (f 2), .int .i64 (f 3), .int .i64 (f 4), .int .i64 (f 5), .int .i64 s1, .slice a1 n1 c1, .int .i64 t1, .slice b1 m1 d1]) (List.mem_cons_of_mem _ (List.mem_cons_of_mem _ List.mem_cons_self))).cell 8
  have q34 := (R4.out.box (w.heap.size, 30, [.int .i64 (f 0), .int .i64 (f 1), .int .i64 (f 2), .int .i64 (f 3), .int .i64 (f 4), .int .i64 (f 5), .int .i64 s1, .slice a1 n1 c1, .int .i64 t1, .slice b1 m1 d1]) (List.mem_cons_of_mem _ (List.mem_cons_of_mem _ List.mem_cons_self))).cell 9
  simp only [List.getElem?_cons_succ, List.getElem?_cons_zero] at q25 q26 q27 q28 q29 q30 q31 q32 q33 q34
  go_wp2_with fail
  clear q25 q26 q27 q28 q29 q30 q31 q32 q33 q34
  refine (uright_raw (R4.out.ints (.slice a1 n1 c1, l1) (List.mem_cons_of_mem _ (List.mem_cons_of_mem _ (List.mem_cons_of_mem _ (List.mem_cons_of_mem _ List.mem_cons_self))))) (R4.out.ints (.slice b1 m1 d1, k1) (List.mem_cons_of_mem _ (List.mem_cons_of_mem _ (List.mem_cons_of_mem _ (List.mem_cons_of_mem _ (List.mem_cons_of_mem _ List.mem_cons_self)))))) LL1.out LK1.out RW1.out).mono ?_
  rintro e w5 ⟨rfl, hb⟩
  have R5 := Lib.hid (R4.out.later hb)
  clear hb
  cases q1
  case false =>
    go_wp2_with fail
    go_ret
    exact ⟨rfl, R5.out.below⟩
  have q35 := (R5.out.box (w.heap.size + 1, 30, [.int .i64 (g 0), .int .i64 (g 1), .int .i64 (g 2), .int .i64 (g 3), .int .i64 (g 4), .int .i64 (g 5), .int .i64 s2, .slice a2 n2 c2, .int .i64 t2, .slice b2 m2 d2]) (List.mem_cons_of_mem _ List.mem_cons_self)).cell 0
  have q36 := (R5.out.box (w.heap.size + 1, 30, [.int .i64 (g 0), .int .i64 (g 1), .int .i64 (g 2), .int .i64 (g 3), .int .i64 (g 4), .int .i64 (g 5), .int .i64 s2, .slice a2 n2 c2, .int .i64 t2, .slice b2 m2 d2]) (List.mem_cons_of_mem _ List.mem_cons_self)).cell 1
  have q37 := (R5.out.box (w.heap.size + 1, 30, [.int .i64 (g 0), .int .i64 (g 1), .int .i64 (g 2), .int .i64 (g 3), .int .i64 (g 4), .int .i64 (g 5), .int .i64 s2, .slice a2 n2 c2, .int .i64 t2, .slice b2 m2 d2]) (List.mem_cons_of_mem _ List.mem_cons_self)).cell 2
  have q38 := (R5.out.box (w.heap.size + 1, 30, [.int .i64 (g 0), .int .i64 (g 1), .int .i64 (g 2), .int .i64 (g 3), .int .i64 (g 4), .int .i64 (g 5), .int .i64 s2, .slice a2 n2 c2, .int .i64 t2, .slice b2 m2 d2]) (List.mem_cons_of_mem _ List.mem_cons_self)).cell 3
  have q39 := (R5.out.box (w.heap.size + 1, 30, [.int .i64 (g 0), .int .i64 (g 1), .int .i64 (g 2), .int .i64 (g 3), .int .i64 (g 4), .int .i64 (g 5), .int .i64 s2, .slice a2 n2 c2, .int .i64 t2, .slice b2 m2 d2]) (List.mem_cons_of_mem _ List.mem_cons_self)).cell 4
  have q40 := (R5.out.box (w.heap.size + 1, 30, [.int .i64 (g 0), .int .i64 (g 1), .int .i64 (g 2), .int .i64 (g 3), .int .i64 (g 4), .int .i64 (g 5), .int .i64 s2, .slice a2 n2 c2, .int .i64 t2, .slice b2 m2 d2]) (List.mem_cons_of_mem _ List.mem_cons_self)).cell 5
  have q41 := (R5.out.box (w.heap.size + 1, 30, [.int .i64 (g 0), .int .i64 (g 1), .int .i64 (g 2), .int .i64 (g 3), .int .i64 (g 4), .int .i64 (g 5), .int .i64 s2, .slice a2 n2 c2, .int .i64 t2, .slice b2 m2 d2]) (List.mem_cons_of_mem _ List.mem_cons_self)).cell 6
  have q42 := (R5.out.box (w.heap.size + 1, 30, [.int .i64 (g 0), .int .i64 (g 1), .int .i64 (g 2), .int .i64 (g 3), .int .i64 (g 4), .int .i64 (g 5), .int .i64 s2, .slice a2 n2 c2, .int .i64 t2, .slice b2 m2 d2]) (List.mem_cons_of_mem _ List.mem_cons_self)).cell 7
  have q43 := (R5.out.box (w.heap.size + 1, 30, [.int .i64 (g 0), .int .i64 (g 1), .int .i64 (g 2), .int .i64 (g 3), .int .i64 (g 4), .int .i64 (g 5), .int .i64 s2, .slice a2 n2 c2, .int .i64 t2, .slice b2 m2 d2]) (List.mem_cons_of_mem _ List.mem_cons_self)).cell 8
  have q44 := (R5.out.box (w.heap.size + 1, 30, [.int .i64 (g 0), .int .i64 (g 1), .int .i64 (g 2), .int .i64 (g 3), .int .i64 (g 4), .int .i64 (g 5), .int .i64 s2, .slice a2 n2 c2, .int .i64 t2, .slice b2 m2 d2]) (List.mem_cons_of_mem _ List.mem_cons_self)).cell 9
  simp only [List.getElem?_cons_succ, List.getElem?_cons_zero] at q35 q36 q37 q38 q39 q40 q41 q42 q43 q44
  go_wp2_with fail
  clear q35 q36 q37 q38 q39 q40 q41 q42 q43 q44
  refine (uright_raw (R5.out.ints (.slice a2 n2 c2, l2) (List.mem_cons_of_mem _ (List.mem_cons_of_mem _ List.mem_cons_self))) (R5.out.ints (.slice b2 m2 d2, k2) (List.mem_cons_of_mem _ (List.mem_cons_of_mem _ (List.mem_cons_of_mem _ List.mem_cons_self)))) LL2.out LK2.out RW2.out).mono ?_
  rintro e w6 ⟨rfl, hb⟩
  have R6 := Lib.hid (R5.out.later hb)
  clear hb
  cases q2
  case false =>
    go_wp2_with fail
    go_ret
    exact ⟨rfl, R6.out.below⟩
  have q45 := (R6.out.box (w.heap.size + 1 + 1, 28, [.int .i64 s3, .slice a3 n3 c3, .int .i64 t3, .slice b3 m3 d3]) List.mem_cons_self).cell 0
  have q46 := (R6.out.box (w.heap.size + 1 + 1, 28, [.int .i64 s3, .slice a3 n3 c3, .int .i64 t3, .slice b3 m3 d3]) List.mem_cons_self).cell 1
  have q47 := (R6.out.box (w.heap.size + 1 + 1, 28, [.int .i64 s3, .slice a3 n3 c3, .int .i64 t3, .slice b3 m3 d3]) List.mem_cons_self).cell 2
  have q48 := (R6.out.box (w.heap.size + 1 + 1, 28, [.int .i64 s3, .slice a3 n3 c3, .int .i64 t3, .slice b3 m3 d3]) List.mem_cons_self).cell 3
  simp only [List.getElem?_cons_succ, List.getElem?_cons_zero] at q45 q46 q47 q48
  go_wp2_with fail
  clear q45 q46 q47 q48
  refine (fright_any s3 a3 n3 c3 l3 t3 b3 m3 d3 k3 _ (R6.out.ints (.slice a3 n3 c3, l3) List.mem_cons_self) (R6.out.ints (.slice b3 m3 d3, k3) (List.mem_cons_of_mem _ List.mem_cons_self)) (Nat.le_trans LL3.out (by decide)) (Nat.le_trans LK3.out (by decide)) _ RW3.out).mono ?_
  rintro e w7 ⟨rfl, hb⟩
  have R7 := Lib.hid (R6.out.later hb)
  clear hb
  cases q3
  case false =>
    go_wp2_with fail
    go_ret
    exact ⟨rfl, R7.out.below⟩
  exact absurd HNO.out (by decide)

set_option maxHeartbeats 16000000 in
theorem back_good {w : World} {f g : Nat → Int} {s1 : Int} {a1 b1 : Option Addr} {n1 c1 m1 d1 : Nat} {x : Rat} {s2 : Int} {a2 b2 : Option Addr} {n2 c2 m2 d2 : Nat} {y : Rat} {s3 : Int} {a3 b3 : Option Addr} {n3 c3 m3 d3 : Nat} {v : Rat}  (he : EnvU w) (h1 : Fr w s1 (.slice a1 n1 c1) (.slice b1 m1 d1) x) (hz1 : FSz 12 x) (hn1 : n1 ≤ 12) (hm1 : m1 ≤ 12) (hf1 : ok f = true) (hp1 : decide (0 < x.num.sign) = true) (h2 : Fr w s2 (.slice a2 n2 c2) (.slice b2 m2 d2) y) (hz2 : FSz 12 y) (hn2 : n2 ≤ 12) (hm2 : m2 ≤ 12) (hf2 : ok g = true) (hp2 : decide (0 < y.num.sign) = true) (h3 : Fr w s3 (.slice a3 n3 c3) (.slice b3 m3 d3) v) (hz3 : FSz 6 v) (hn3 : n3 ≤ 6) (hm3 : m3 ≤ 6)  :
    Calls Tryd.prog 3 #[.agg #[.int .i64 (f 0), .int .i64 (f 1), .int .i64 (f 2), .int .i64 (f 3), .int .i64 (f 4), .int .i64 (f 5), .int .i64 s1, .slice a1 n1 c1, .int .i64 1, .slice b1 m1 d1], .agg #[.int .i64 (g 0), .int .i64 (g 1), .int .i64 (g 2), .int .i64 (g 3), .int .i64 (g 4), .int .i64 (g 5), .int .i64 s2, .slice a2 n2 c2, .int .i64 1, .slice b2 m2 d2], .agg #[.int .i64 s3, .slice a3 n3 c3, .int .i64 1, .slice b3 m3 d3]] w fun e w' => e = .returned (.bool true) ∧ RowKit.Below w.heap.size w w' := by
  have HE := Lib.hid he
  have E1 := Lib.hid h1.1.1
  have Z1 := Lib.hid hz1
  have L1 := Lib.hid (hz1.mono (j := 1000))
  have MN1 : Hid (n1 ≤ 9223372036854775807) := Lib.hid (by omega)
  have MM1 : Hid (m1 ≤ 9223372036854775807) := Lib.hid (by omega)
  have KW1 : Hid ((decide ((n1 : Int) ≤ 12) && decide ((m1 : Int) ≤ 12)) = true) := Lib.hid (by simp; omega)
  have O1 := Lib.hid hf1
  have P1_ := Lib.hid hp1
  have NZ1 := Lib.hid (sign_ne hp1)
  have E2 := Lib.hid h2.1.1
  have Z2 := Lib.hid hz2
  have L2 := Lib.hid (hz2.mono (j := 1000))
  have MN2 : Hid (n2 ≤ 9223372036854775807) := Lib.hid (by omega)
  have MM2 : Hid (m2 ≤ 9223372036854775807) := Lib.hid (by omega)
  have KW2 : Hid ((decide ((n2 : Int) ≤ 12) && decide ((m2 : Int) ≤ 12)) = true) := Lib.hid (by simp; omega)
  have O2 := Lib.hid hf2
  have P2_ := Lib.hid hp2
  have NZ2 := Lib.hid (sign_ne hp2)
  have E3 := Lib.hid h3.1.1
  have Z3 := Lib.hid hz3
  have L3 := Lib.hid (hz3.mono (j := 1000))
  have MN3 : Hid (n3 ≤ 9223372036854775807) := Lib.hid (by omega)
  have MM3 : Hid (m3 ≤ 9223372036854775807) := Lib.hid (by omega)
  have KW3 : Hid ((decide ((n3 : Int) ≤ 6) && decide ((m3 : Int) ≤ 6)) = true) := Lib.hid (by simp; omega)
  obtain ⟨V, hV⟩ : ∃ V, v * x = V := ⟨_, rfl⟩
  obtain ⟨Q, hQ⟩ : ∃ Q, v / x = Q := ⟨_, rfl⟩
  obtain ⟨O, hO⟩ : ∃ O, V / y = O := ⟨_, rfl⟩
  have ZV : FSz 18 V := by rw [← hV]; exact hz3.mul hz1 rfl
  have ZQ : FSz 18 Q := by rw [← hQ]; exact hz3.div hz1 NZ1.out rfl
  have ZO : FSz 30 O := by rw [← hO]; exact ZV.div hz2 NZ2.out rfl
  have HV := Lib.hid hV
  have HQ := Lib.hid hQ
  have HO := Lib.hid hO
  have HV2 : Hid (V / x = v) := Lib.hid (by rw [← hV]; exact mul_div_back v NZ1.out)
  have HQ2 : Hid (Q * x = v) := Lib.hid (by rw [← hQ]; exact div_mul_back v NZ1.out)
  have HO2 : Hid (O * y = V) := Lib.hid (by rw [← hO]; exact div_mul_back V NZ2.out)
  have LV := Lib.hid (ZV.mono (j := 1000))
  have LQ := Lib.hid (ZQ.mono (j := 1000))
  have LO := Lib.hid (ZO.mono (j := 1000))
  clear hV hQ hO ZV ZQ ZO
  have s0 := ((((((((((Sf.start w).arg h1.2.2).arg h1.1.2).arg h2.2.2).arg h2.1.2).arg h3.2.2).arg h3.1.2).put [.int .i64 (f 0), .int .i64 (f 1), .int .i64 (f 2), .int .i64 (f 3), .int .i64 (f 4), .int .i64 (f 5), .int .i64 s1, .slice a1 n1 c1, .int .i64 1, .slice b1 m1 d1] 30).put [.int .i64 (g 0), .int .i64 (g 1), .int .i64 (g 2), .int .i64 (g 3), .int .i64 (g 4), .int .i64 (g 5), .int .i64 s2, .slice a2 n2 c2, .int .i64 1, .slice b2 m2 d2] 30).put [.int .i64 s3, .slice a3 n3 c3, .int .i64 1, .slice b3 m3 d3] 28)
  try simp only [World.size_alloc] at s0
  have S0 := Lib.hid s0
  clear s0
  clear he h1 hz1 hn1 hm1 hf1 hp1 h2 hz2 hn2 hm2 hf2 hp2 h3 hz3 hn3 hm3
  go_enter Tryd.func3, Tryd.ntmps3
  go_wp2_with fail
  refine (sane_t _ (HE.out.below S0.out.below)).mono ?_
  rintro e w1 ⟨rfl, hb⟩
  have R1 := Lib.hid (S0.out.later hb)
  clear hb
  have q1 := (R1.out.box (w.heap.size, 30, [.int .i64 (f 0), .int .i64 (f 1), .int .i64 (f 2), .int .i64 (f 3), .int .i64 (f 4), .int .i64 (f 5), .int .i64 s1, .slice a1 n1 c1, .int .i64 1, .slice b1 m1 d1]) (List.mem_cons_of_mem _ (List.mem_cons_of_mem _ List.mem_cons_self))).cell 0
  have q2 := (R1.out.box (w.heap.size, 30, [.int .i64 (f 0), .int .i64 (f 1), .int .i64 (f 2), .int .i64 (f 3), .int .i64 (f 4), .int .i64 (f 5), .int .i64 s1, .slice a1 n1 c1, .int .i64 1, .slice b1 m1 d1]) (List.mem_cons_of_mem _ (List.mem_cons_of_mem _ List.mem_cons_self))).cell 1
  have q3 := (R1.out.box (w.heap.size, 30, [.int .i64 (f 0), .int .i64 (f 1), .int .i64 (f 2), .int .i64 (f 3), .int .i64 (f 4), .int .i64 (f 5), .int .i64 s1, .slice a1 n1 c1, .int .i64 1, .slice b1 m1 d1]) (List.mem_cons_of_mem _ (List.mem_cons_of_mem _ List.mem_cons_self))).cell 2
  have q4 := (R1.out.box (w.heap.size, 30, [.int .i64 (f 0), .int .i64 (f 1), .int .i64 (f 2), .int .i64 (f 3), .int .i64 (f 4), .int .i64 (f 5), .int .i64 s1, .slice a1 n1 c1, .int .i64 1, .slice b1 m1 d1]) (List.mem_cons_of_mem _ (List.mem_cons_of_mem _ List.mem_cons_self))).cell 3
  have q5 := (R1.out.box (w.heap.size, 30, [.int .i64 (f 0), .int .i64 (f 1), .int .i64 (f 2), .int .i64 (f 3), .int .i64 (f 4), .int .i64 (f 5), .int .i64 s1, .slice a1 n1 c1, .int .i64 1, .slice b1 m1 d1]) (List.mem_cons_of_mem _ (List.mem_cons_of_mem _ List.mem_cons_self))).cell 4
  have q6 := (R1.out.box (w.heap.size, 30, [.int .i64 (f 0), .int .i64 (f 1), .int .i64 (f 2), .int .i64 (f 3), .int .i64 (f 4), .int .i64 (f 5), .int .i64 s1, .slice a1 n1 c1, .int .i64 1, .slice b1 m1 d1]) (List.mem_cons_of_mem _ (List.mem_cons_of_mem _ List.mem_cons_self))).cell 5
  have q7 := (R1.out.box (w.heap.size, 30, [.int .i64 (f 0), .int .i64 (f 1), .int .i64 (f 2), .int .i64 (f 3), .int .i64 (f 4), .int .i64 (f 5), .int .i64 s1, .slice a1 n1 c1, .int .i64 1, .slice b1 m1 d1]) (List.mem_cons_of_mem _ (List.mem_cons_of_mem _ List.mem_cons_self))).cell 6
  have q8 := (R1.out.box (w.heap.size, 30, [.int .i64 (f 0), .int .i64 (f 1), .int .i64 (f 2), .int .i64 (f 3), .int .i64 (f 4), .int .i64 (f 5), .int .i64 s1, .slice a1 n1 c1, .int .i64 1, .slice b1 m1 d1]) (List.mem_cons_of_mem _ (List.mem_cons_of_mem _ List.mem_cons_self))).cell 7
  have q9 := (R1.out.box (w.heap.size, 30, [.int .i64 (f 0), .int .i64 (f 1), .int .i64 (f 2), .int .i64 (f 3), .int .i64 (f 4), .int .i64 (f 5), .int .i64 s1, .slice a1 n1 c1, .int .i64 1, .slice b1 m1 d1]) (List.mem_cons_of_mem _ (List.mem_cons_of_mem _ List.mem_cons_self))).cell 8
  have q10 := (R1.out.box (w.heap.size, 30, [.int .i64 (f 0), .int .i64 (f 1), .int .i64 (f 2), .int .i64 (f 3), .int .i64 (f 4), .int .i64 (f 5), .int .i64 s1, .slice a1 n1 c1, .int .i64 1, .slice b1 m1 d1]) (List.mem_cons_of_mem _ (List.mem_cons_of_mem _ List.mem_cons_self))).cell 9
  simp only [List.getElem?_cons_succ, List.getElem?_cons_zero] at q1 q2 q3 q4 q5 q6 q7 q8 q9 q10
  go_wp2_with fail
  clear q1 q2 q3 q4 q5 q6 q7 q8 q9 q10
  refine (u9few_len (f := f) (s := s1) (t := 1) (a := a1) (b := b1) (c := c1) (d := d1) MN1.out MM1.out (k := true) KW1.out).mono ?_
  rintro e w2 ⟨rfl, hb⟩
  have R2 := Lib.hid (R1.out.later hb)
  clear hb
  have q11 := (R2.out.box (w.heap.size + 1, 30, [.int .i64 (g 0), .int .i64 (g 1), .int .i64 (g 2), .int .i64 (g 3), .int .i64 (g 4), .int .i64 (g 5), .int .i64 s2, .slice a2 n2 c2, .int .i64 1, .slice b2 m2 d2]) (List.mem_cons_of_mem _ List.mem_cons_self)).cell 0
  have q12 := (R2.out.box (w.heap.size + 1, 30, [.int .i64 (g 0), .int .i64 (g 1), .int .i64 (g 2), .int .i64 (g 3), .int .i64 (g 4), .int .i64 (g 5), .int .i64 s2, .slice a2 n2 c2, .int .i64 1, .slice b2 m2 d2]) (List.mem_cons_of_mem _ List.mem_cons_self)).cell 1
  have q13 := (R2.out.box (w.heap.size + 1, 30, [.int .i64 (g 0), .int .i64 (g 1), .int .i64 (g 2), .int .i64 (g 3), .int .i64 (g 4), .int .i64 (g 5), .int .i64 s2, .slice a2 n2 c2, .int .i64 1, .slice b2 m2 d2]) (List.mem_cons_of_mem _ List.mem_cons_self)).cell 2
  have q14 := (R2.out.box (w.heap.size + 1, 30, [.int .i64 (g 0), .int .i64 (g 1), .int .i64 (g 2), .int .i64 (g 3), .int .i64 (g 4), .int .i64 (g 5), .int .i64 s2, .slice a2 n2 c2, .int .i64 1, .slice b2 m2 d2]) (List.mem_cons_of_mem _ List.mem_cons_self)).cell 3
  have q15 := (R2.out.box (w.heap.size + 1, 30, [.int .i64 (g 0), .int .i64 (g 1), .int .i64 (g 2), .int .i64 (g 3), .int .i64 (g 4), .int .i64 (g 5), .int .i64 s2, .slice a2 n2 c2, .int .i64 1, .slice b2 m2 d2]) (List.mem_cons_of_mem _ List.mem_cons_self)).cell 4
  have q16 := (R2.out.box (w.heap.size + 1, 30, [.int .i64 (g 0), .int .i64 (g 1), .int .i64 (g 2), .int .i64 (g 3), .int .i64 (g 4), .int .i64 (g 5), .int .i64 s2, .slice a2 n2 c2, .int .i64 1, .slice b2 m2 d2]) (List.mem_cons_of_mem _ List.mem_cons_self)).cell 5
  have q17 := (R2.out.box (w.heap.size + 1, 30, [.int .i64 (g 0), .int .i64 (g 1), .int .i64 (g 2), .int .i64 (g 3), .int .i64 (g 4), .int .i64 (g 5), .int .i64 s2, .slice a2 n2 c2, .int .i64 1, .slice b2 m2 d2]) (List.mem_cons_of_mem _ List.mem_cons_self)).cell 6
  have q18 := (R2.out.box (w.heap.size + 1, 30, [.int .i64 (g 0), .int .i64 (g 1), .int .i64 (g 2), .int .i64 (g 3), .int .i64 (g 4), .int .i64 (g 5), .int .i64 s2, .slice a2 n2 c2, .int .i64 1, .slice b2 m2 d2]) (List.mem_cons_of_mem _ List.mem_cons_self)).cell 7
  have q19 := (R2.out.box (w.heap.size + 1, 30, [.int .i64 (g 0), .int .i64 (g 1), .int .i64 (g 2), .int .i64 (g 3), .int .i64 (g 4), .int .i64 (g 5), .int .i64 s2, .slice a2 n2 c2, .int .i64 1, .slice b2 m2 d2]) (List.mem_cons_of_mem _ List.mem_cons_self)).cell 8
  have q20 := (R2.out.box (w.heap.size + 1, 30, [.int .i64 (g 0), .int .i64 (g 1), .int .i64 (g 2), .int .i64 (g 3), .int .i64 (g 4), .int .i64 (g 5), .int .i64 s2, .slice a2 n2 c2, .int .i64 1, .slice b2 m2 d2]) (List.mem_cons_of_mem _ List.mem_cons_self)).cell 9
  simp only [List.getElem?_cons_succ, List.getElem?_cons_zero] at q11 q12 q13 q14 q15 q16 q17 q18 q19 q20
  go_wp2_with fail
  clear q11 q12 q13 q14 q15 q16 q17 q18 q19 q20
  refine (u9few_len (f := g) (s := s2) (t := 1) (a := a2) (b := b2) (c := c2) (d := d2) MN2.out MM2.out (k := true) KW2.out).mono ?_
  rintro e w3 ⟨rfl, hb⟩
  have R3 := Lib.hid (R2.out.later hb)
  clear hb
  have q21 := (R3.out.box (w.heap.size + 1 + 1, 28, [.int .i64 s3, .slice a3 n3 c3, .int .i64 1, .slice b3 m3 d3]) List.mem_cons_self).cell 0
  have q22 := (R3.out.box (w.heap.size + 1 + 1, 28, [.int .i64 s3, .slice a3 n3 c3, .int .i64 1, .slice b3 m3 d3]) List.mem_cons_self).cell 1
  have q23 := (R3.out.box (w.heap.size + 1 + 1, 28, [.int .i64 s3, .slice a3 n3 c3, .int .i64 1, .slice b3 m3 d3]) List.mem_cons_self).cell 2
  have q24 := (R3.out.box (w.heap.size + 1 + 1, 28, [.int .i64 s3, .slice a3 n3 c3, .int .i64 1, .slice b3 m3 d3]) List.mem_cons_self).cell 3
  simp only [List.getElem?_cons_succ, List.getElem?_cons_zero] at q21 q22 q23 q24
  go_wp2_with fail
  clear q21 q22 q23 q24
  refine (ffew_len s3 a3 n3 c3 1 b3 m3 d3 6 _ MN3.out MM3.out true KW3.out).mono ?_
  rintro e w4 ⟨rfl, hb⟩
  have R4 := Lib.hid (R3.out.later hb)
  clear hb
  have q25 := (R4.out.box (w.heap.size, 30, [.int .i64 (f 0), .int .i64 (f 1), .int .i64 (f 2), .int .i64 (f 3), .int .i64 (f 4), .int .i64 (f 5), .int .i64 s1, .slice a1 n1 c1, .int .i64 1, .slice b1 m1 d1]) (List.mem_cons_of_mem _ (List.mem_cons_of_mem _ List.mem_cons_self))).cell 0
  have q26 := (R4.out.box (w.heap.size, 30, [.int .i64 (f 0), .int .i64 (f 1), .int .i64 (f 2), .int .i64 (f 3), .int .i64 (f 4), .int .i64 (f 5), .int .i64 s1, .slice a1 n1 c1, .int .i64 1, .slice b1 m1 d1]) (List.mem_cons_of_mem _ (List.mem_cons_of_mem _ List.mem_cons_self))).cell 1
  have q27 := (R4.out.box (w.heap.size, 30, [.int .i64 (f 0), .int .i64 (f 1), .int .i64 (f 2), .int .i64 (f 3), .int .i64 (f 4), .int .i64 (f 5), .int .i64 s1, .slice a1 n1 c1, .int .i64 1, .slice b1 m1 d1]) (List.mem_cons_of_mem _ (List.mem_cons_of_mem _ List.mem_cons_self))).cell 2
  have q28 := (R4.out.box (w.heap.size, 30, [.int .i64 (f 0), .int .i64 (f 1), .int .i64 (f 2), .int .i64 (f 3), .int .i64 (f 4), .int .i64 (f 5), .int .i64 s1, .slice a1 n1 c1, .int .i64 1, .slice b1 m1 d1]) (List.mem_cons_of_mem _ (List.mem_cons_of_mem _ List.mem_cons_self))).cell 3
  have q29 := (R4.out.box (w.heap.size, 30, [.int .i64 (f 0), .int .i64 (f 1), .int .i64 (f 2), .int .i64 (f 3), .int .i64 (f 4), .int .i64 (f 5), .int .i64 s1, .slice a1 n1 c1, .int .i64 1, .slice b1 m1 d1]) (List.mem_cons_of_mem _ (List.mem_cons_of_mem _ List.mem_cons_self))).cell 4
  have q30 := (R4.out.box (w.heap.size, 30, [.int .i64 (f 0), .int .i64 (f 1), .int .i64 (f 2), .int .i64 (f 3), .int .i64 (f 4), .int .i64 (f 5), .int .i64 s1, .slice a1 n1 c1, .int .i64 1, .slice b1 m1 d1]) (List.mem_cons_of_mem _ (List.mem_cons_of_mem _ List.mem_cons_self))).cell 5
  have q31 := (R4.out.box (w.heap.size, 30, [.int .i64 (f 0), .int .i64 (f 1), .int .i64 (f 2), .int .i64 (f 3), .int .i64 (f 4), .int .i64 (f 5), .int .i64 s1, .slice a1 n1 c1, .int .i64 1, .slice b1 m1 d1]) (List.mem_cons_of_mem _ (List.mem_cons_of_mem _ List.mem_cons_self))).cell 6
  have q32 := (R4.out.box (w.heap.size, 30, [.int .i64 (f 0), .int .i64 (f 1), .int .i64 (f 2), .int .i64 (f 3), .int .i64 (f 4), .int .i64 (f 5), .int .i64 s1, .slice a1 n1 c1, .int .i64 1, .slice b1 m1 d1]) (List.mem_cons_of_mem _ (List.mem_cons_of_mem _ List.mem_cons_self))).cell 7
  have q33 := (R4.out.box (w.heap.size, 30, [.int .i64 (f 0), .int .i64 (f 1), .int .i64 (f 2), .int .i64 (f 3), .int .i64 (f 4), .int .i64 (f 5), .int .i64 s1, .slice a1 n1 c1, .int .i64 1, .slice b1 m1 d1]) (List.mem_cons_of_mem _ (List.mem_cons_of_mem _ List.mem_cons_self))).cell 8
  have q34 := (R4.out.box (w.heap.size, 30, [.int .i64 (f 0), .int .i64 (f 1), .int .i64 (f 2), .int .i64 (f 3), .int .i64 (f 4), .int .i64 (f 5), .int .i64 s1, .slice a1 n1 c1, .int .i64 1, .slice b1 m1 d1]) (List.mem_cons_of_mem _ (List.mem_cons_of_mem _ List.mem_cons_self))).cell 9
  simp only [List.getElem?_cons_succ, List.getElem?_cons_zero] at q25 q26 q27 q28 q29 q30 q31 q32 q33 q34
  go_wp2_with fail
  clear q25 q26 q27 q28 q29 q30 q31 q32 q33 q34
  refine (uright_v O1.out (R4.out.fr (v := .slice a1 n1 c1) (u := .slice b1 m1 d1) (r := x) (List.mem_cons_of_mem _ (List.mem_cons_of_mem _ (List.mem_cons_of_mem _ (List.mem_cons_of_mem _ List.mem_cons_self)))) (List.mem_cons_of_mem _ (List.mem_cons_of_mem _ (List.mem_cons_of_mem _ (List.mem_cons_of_mem _ (List.mem_cons_of_mem _ List.mem_cons_self))))) E1.out) L1.out P1_.out).mono ?_
  rintro e w5 ⟨rfl, hb⟩
  have R5 := Lib.hid (R4.out.later hb)
  clear hb
  have q35 := (R5.out.box (w.heap.size + 1, 30, [.int .i64 (g 0), .int .i64 (g 1), .int .i64 (g 2), .int .i64 (g 3), .int .i64 (g 4), .int .i64 (g 5), .int .i64 s2, .slice a2 n2 c2, .int .i64 1, .slice b2 m2 d2]) (List.mem_cons_of_mem _ List.mem_cons_self)).cell 0
  have q36 := (R5.out.box (w.heap.size + 1, 30, [.int .i64 (g 0), .int .i64 (g 1), .int .i64 (g 2), .int .i64 (g 3), .int .i64 (g 4), .int .i64 (g 5), .int .i64 s2, .slice a2 n2 c2, .int .i64 1, .slice b2 m2 d2]) (List.mem_cons_of_mem _ List.mem_cons_self)).cell 1
  have q37 := (R5.out.box (w.heap.size + 1, 30, [.int .i64 (g 0), .int .i64 (g 1), .int .i64 (g 2), .int .i64 (g 3), .int .i64 (g 4), .int .i64 (g 5), .int .i64 s2, .slice a2 n2 c2, .int .i64 1, .slice b2 m2 d2]) (List.mem_cons_of_mem _ List.mem_cons_self)).cell 2
  have q38 := (R5.out.box (w.heap.size + 1, 30, [.int .i64 (g 0), .int .i64 (g 1), .int .i64 (g 2), .int .i64 (g 3), .int .i64 (g 4), .int .i64 (g 5), .int .i64 s2, .slice a2 n2 c2, .int .i64 1, .slice b2 m2 d2]) (List.mem_cons_of_mem _ List.mem_cons_self)).cell 3
  have q39 := (R5.out.box (w.heap.size + 1, 30, [.int .i64 (g 0), .int .i64 (g 1), .int .i64 (g 2), .int .i64 (g 3), .int .i64 (g 4), .int .i64 (g 5), .int .i64 s2, .slice a2 n2 c2, .int .i64 1, .slice b2 m2 d2]) (List.mem_cons_of_mem _ List.mem_cons_self)).cell 4
  have q40 := (R5.out.box (w.heap.size + 1, 30, [.int .i64 (g 0), .int .i64 (g 1), .int .i64 (g 2), .int .i64 (g 3), .int .i64 (g 4), .int .i64 (g 5), .int .i64 s2, .slice a2 n2 c2, .int .i64 1, .slice b2 m2 d2]) (List.mem_cons_of_mem _ List.mem_cons_self)).cell 5
  have q41 := (R5.out.box (w.heap.size + 1, 30, [.int .i64 (g 0), .int .i64 (g 1), .int .i64 (g 2), .int .i64 (g 3), .int .i64 (g 4), .int .i64 (g 5), .int .i64 s2, .slice a2 n2 c2, .int .i64 1, .slice b2 m2 d2]) (List.mem_cons_of_mem _ List.mem_cons_self)).cell 6
  have q42 := (R5.out.box (w.heap.size + 1, 30, [.int .i64 (g 0), .int .i64 (g 1), .int .i64 (g 2), .int .i64 (g 3), .int .i64 (g 4), .int .i64 (g 5), .int .i64 s2, .slice a2 n2 c2, .int .i64 1, .slice b2 m2 d2]) (List.mem_cons_of_mem _ List.mem_cons_self)).cell 7
  have q43 := (R5.out.box (w.heap.size + 1, 30, [.int .i64 (g 0), .int .i64 (g 1), .int .i64 (g 2), .int .i64 (g 3), .int .i64 (g 4), .int .i64 (g 5), .int .i64 s2, .slice a2 n2 c2, .int .i64 1, .slice b2 m2 d2]) (List.mem_cons_of_mem _ List.mem_cons_self)).cell 8
  have q44 := (R5.out.box (w.heap.size + 1, 30, [.int .i64 (g 0), .int .i64 (g 1), .int .i64 (g 2), .int .i64 (g 3), .int .i64 (g 4), .int .i64 (g 5), .int .i64 s2, .slice a2 n2 c2, .int .i64 1, .slice b2 m2 d2]) (List.mem_cons_of_mem _ List.mem_cons_self)).cell 9
  simp only [List.getElem?_cons_succ, List.getElem?_cons_zero] at q35 q36 q37 q38 q39 q40 q41 q42 q43 q44
  go_wp2_with fail
  clear q35 q36 q37 q38 q39 q40 q41 q42 q43 q44
  refine (uright_v O2.out (R5.out.fr (v := .slice a2 n2 c2) (u := .slice b2 m2 d2) (r := y) (List.mem_cons_of_mem _ (List.mem_cons_of_mem _ List.mem_cons_self)) (List.mem_cons_of_mem _ (List.mem_cons_of_mem _ (List.mem_cons_of_mem _ List.mem_cons_self))) E2.out) L2.out P2_.out).mono ?_
  rintro e w6 ⟨rfl, hb⟩
  have R6 := Lib.hid (R5.out.later hb)
  clear hb
  have q45 := (R6.out.box (w.heap.size + 1 + 1, 28, [.int .i64 s3, .slice a3 n3 c3, .int .i64 1, .slice b3 m3 d3]) List.mem_cons_self).cell 0
  have q46 := (R6.out.box (w.heap.size + 1 + 1, 28, [.int .i64 s3, .slice a3 n3 c3, .int .i64 1, .slice b3 m3 d3]) List.mem_cons_self).cell 1
  have q47 := (R6.out.box (w.heap.size + 1 + 1, 28, [.int .i64 s3, .slice a3 n3 c3, .int .i64 1, .slice b3 m3 d3]) List.mem_cons_self).cell 2
  have q48 := (R6.out.box (w.heap.size + 1 + 1, 28, [.int .i64 s3, .slice a3 n3 c3, .int .i64 1, .slice b3 m3 d3]) List.mem_cons_self).cell 3
  simp only [List.getElem?_cons_succ, List.getElem?_cons_zero] at q45 q46 q47 q48
  go_wp2_with fail
  clear q45 q46 q47 q48
  refine (fright_k (R6.out.fr (v := .slice a3 n3 c3) (u := .slice b3 m3 d3) (r := v) List.mem_cons_self (List.mem_cons_of_mem _ List.mem_cons_self) E3.out) L3.out).mono ?_
  rintro e w7 ⟨rfl, hb⟩
  have R7 := Lib.hid (R6.out.later hb)
  clear hb
  have q49 := (R7.out.box (w.heap.size + 1 + 1, 28, [.int .i64 s3, .slice a3 n3 c3, .int .i64 1, .slice b3 m3 d3]) List.mem_cons_self).cell 0
  have q50 := (R7.out.box (w.heap.size + 1 + 1, 28, [.int .i64 s3, .slice a3 n3 c3, .int .i64 1, .slice b3 m3 d3]) List.mem_cons_self).cell 1
  have q51 := (R7.out.box (w.heap.size + 1 + 1, 28, [.int .i64 s3, .slice a3 n3 c3, .int .i64 1, .slice b3 m3 d3]) List.mem_cons_self).cell 2
  have q52 := (R7.out.box (w.heap.size + 1 + 1, 28, [.int .i64 s3, .slice a3 n3 c3, .int .i64 1, .slice b3 m3 d3]) List.mem_cons_self).cell 3
  simp only [List.getElem?_cons_succ, List.getElem?_cons_zero] at q49 q50 q51 q52
  have q53 := (R7.out.box (w.heap.size, 30, [.int .i64 (f 0), .int .i64 (f 1), .int .i64 (f 2), .int .i64 (f 3), .int .i64 (f 4), .int .i64 (f 5), .int .i64 s1, .slice a1 n1 c1, .int .i64 1, .slice b1 m1 d1]) (List.mem_cons_of_mem _ (List.mem_cons_of_mem _ List.mem_cons_self))).cell 0
  have q54 := (R7.out.box (w.heap.size, 30, [.int .i64 (f 0), .int .i64 (f 1), .int .i64 (f 2), .int .i64 (f 3), .int .i64 (f 4), .int .i64 (f 5), .int .i64 s1, .slice a1 n1 c1, .int .i64 1, .slice b1 m1 d1]) (List.mem_cons_of_mem _ (List.mem_cons_of_mem _ List.mem_cons_self))).cell 1
  have q55 := (R7.out.box (w.heap.size, 30, [.int .i64 (f 0), .int .i64 (f 1), .int .i64 (f 2), .int .i64 (f 3), .int .i64 (f 4), .int .i64 (f 5), .int .i64 s1, .slice a1 n1 c1, .int .i64 1, .slice b1 m1 d1]) (List.mem_cons_of_mem _ (List.mem_cons_of_mem _ List.mem_cons_self))).cell 2
  have q56 := (R7.out.box (w.heap.size, 30, [.int .i64 (f 0), .int .i64 (f 1), .int .i64 (f 2), .int .i64 (f 3), .int .i64 (f 4), .int .i64 (f 5), .int .i64 s1, .slice a1 n1 c1, .int .i64 1, .slice b1 m1 d1]) (List.mem_cons_of_mem _ (List.mem_cons_of_mem _ List.mem_cons_self))).cell 3
  have q57 := (R7.out.box (w.heap.size, 30, [.int .i64 (f 0), .int .i64 (f 1), .int .i64 (f 2), .int .i64 (f 3), .int .i64 (f 4), .int .i64 (f 5), .int .i64 s1, .slice a1 n1 c1, .int .i64 1, .slice b1 m1 d1]) (List.mem_cons_of_mem _ (List.mem_cons_of_mem _ List.mem_cons_self))).cell 4
  have q58 := (R7.out.box (w.heap.size, 30, [.int .i64 (f 0), .int .i64 (f 1), .int .i64 (f 2), .int .i64 (f 3), .int .i64 (f 4), .int .i64 (f 5), .int .i64 s1, .slice a1 n1 c1, .int .i64 1, .slice b1 m1 d1]) (List.mem_cons_of_mem _ (List.mem_cons_of_mem _ List.mem_cons_self))).cell 5
  have q59 := (R7.out.box (w.heap.size, 30, [.int .i64 (f 0), .int .i64 (f 1), .int .i64 (f 2), .int .i64 (f 3), .int .i64 (f 4), .int .i64 (f 5), .int .i64 s1, .slice a1 n1 c1, .int .i64 1, .slice b1 m1 d1]) (List.mem_cons_of_mem _ (List.mem_cons_of_mem _ List.mem_cons_self))).cell 6
  have q60 := (R7.out.box (w.heap.size, 30, [.int .i64 (f 0), .int .i64 (f 1), .int .i64 (f 2), .int .i64 (f 3), .int .i64 (f 4), .int .i64 (f 5), .int .i64 s1, .slice a1 n1 c1, .int .i64 1, .slice b1 m1 d1]) (List.mem_cons_of_mem _ (List.mem_cons_of_mem _ List.mem_cons_self))).cell 7
  have q61 := (R7.out.box (w.heap.size, 30, [.int .i64 (f 0), .int .i64 (f 1), .int .i64 (f 2), .int .i64 (f 3), .int .i64 (f 4), .int .i64 (f 5), .int .i64 s1, .slice a1 n1 c1, .int .i64 1, .slice b1 m1 d1]) (List.mem_cons_of_mem _ (List.mem_cons_of_mem _ List.mem_cons_self))).cell 8
  have q62 := (R7.out.box (w.heap.size, 30, [.int .i64 (f 0), .int .i64 (f 1), .int .i64 (f 2), .int .i64 (f 3), .int .i64 (f 4), .int .i64 (f 5), .int .i64 s1, .slice a1 n1 c1, .int .i64 1, .slice b1 m1 d1]) (List.mem_cons_of_mem _ (List.mem_cons_of_mem _ List.mem_cons_self))).cell 9
  simp only [List.getElem?_cons_succ, List.getElem?_cons_zero] at q53 q54 q55 q56 q57 q58 q59 q60 q61 q62
  go_wp2_with fail
  clear q49 q50 q51 q52 q53 q54 q55 q56 q57 q58 q59 q60 q61 q62
  refine (ufrom_k (R7.out.fr (v := .slice a3 n3 c3) (u := .slice b3 m3 d3) (r := v) List.mem_cons_self (List.mem_cons_of_mem _ List.mem_cons_self) E3.out) (R7.out.fr (v := .slice a1 n1 c1) (u := .slice b1 m1 d1) (r := x) (List.mem_cons_of_mem _ (List.mem_cons_of_mem _ (List.mem_cons_of_mem _ (List.mem_cons_of_mem _ List.mem_cons_self)))) (List.mem_cons_of_mem _ (List.mem_cons_of_mem _ (List.mem_cons_of_mem _ (List.mem_cons_of_mem _ (List.mem_cons_of_mem _ List.mem_cons_self))))) E1.out) L3.out L1.out O1.out P1_.out HV.out).mono ?_
  rintro e w8 ⟨sx8, ax8, nx8, cx8, bx8, mx8, dx8, rfl, hr, hb, hf, hg⟩
  have E8 := Lib.hid hr.1.1
  have R8 := Lib.hid (R7.out.ret2 hb hr.1.2 hf hr.2.2 hg)
  have FF8 := Lib.hid (hf.mono R7.out.below.size)
  have FG8 := Lib.hid (hg.mono R7.out.below.size)
  clear hr hb hf hg
  have P63 := Lib.hid (R8.out.put [.int .i64 0, .slice none 0 0, .int .i64 0, .slice none 0 0] 28)
  have Q63 := Lib.hid (Sf.row (pre := []) P63.out [.int .i64 sx8, .slice ax8 nx8 cx8, .int .i64 1, .slice bx8 mx8 dx8])
  have q64 := (Q63.out.box (w8.heap.size, 28, [.int .i64 sx8, .slice ax8 nx8 cx8, .int .i64 1, .slice bx8 mx8 dx8]) List.mem_cons_self).cell 0
  have q65 := (Q63.out.box (w8.heap.size, 28, [.int .i64 sx8, .slice ax8 nx8 cx8, .int .i64 1, .slice bx8 mx8 dx8]) List.mem_cons_self).cell 1
  have q66 := (Q63.out.box (w8.heap.size, 28, [.int .i64 sx8, .slice ax8 nx8 cx8, .int .i64 1, .slice bx8 mx8 dx8]) List.mem_cons_self).cell 2
  have q67 := (Q63.out.box (w8.heap.size, 28, [.int .i64 sx8, .slice ax8 nx8 cx8, .int .i64 1, .slice bx8 mx8 dx8]) List.mem_cons_self).cell 3
  simp only [List.getElem?_cons_succ, List.getElem?_cons_zero] at q64 q65 q66 q67
  have q68 := (Q63.out.box (w.heap.size, 30, [.int .i64 (f 0), .int .i64 (f 1), .int .i64 (f 2), .int .i64 (f 3), .int .i64 (f 4), .int .i64 (f 5), .int .i64 s1, .slice a1 n1 c1, .int .i64 1, .slice b1 m1 d1]) (List.mem_cons_of_mem _ (List.mem_cons_of_mem _ (List.mem_cons_of_mem _ List.mem_cons_self)))).cell 0
  have q69 := (Q63.out.box (w.heap.size, 30, [.int .i64 (f 0), .int .i64 (f 1), .int .i64 (f 2), .int .i64 (f 3), .int .i64 (f 4), .int .i64 (f 5), .int .i64 s1, .slice a1 n1 c1, .int .i64 1, .slice b1 m1 d1]) (List.mem_cons_of_mem _ (List.mem_cons_of_mem _ (List.mem_cons_of_mem _ List.mem_cons_self)))).cell 1
  have q70 := (Q63.out.box (w.heap.size, 30, [.int .i64 (f 0), .int .i64 (f 1), .int .i64 (f 2), .int .i64 (f 3), .int .i64 (f 4), .int .i64 (f 5), .int .i64 s1, .slice a1 n1 c1, .int .i64 1, .slice b1 m1 d1]) (List.mem_cons_of_mem _ (List.mem_cons_of_mem _ (List.mem_cons_of_mem _ List.mem_cons_self)))).cell 2
  have q71 := (Q63.out.box (w.heap.size, 30, [.int .i64 (f 0), .int .i64 (f 1), .int .i64 (f 2), .int .i64 (f 3), .int .i64 (f 4), .int .i64 (f 5), .int .i64 s1, .slice a1 n1 c1, .int .i64 1, .slice b1 m1 d1]) (List.mem_cons_of_mem _ (List.mem_cons_of_mem _ (List.mem_cons_of_mem _ List.mem_cons_self)))).cell 3
  have q72 := (Q63.out.box (w.heap.size, 30, [.int .i64 (f 0), .int .i64 (f 1), .int .i64 (f 2), .int .i64 (f 3), .int .i64 (f 4), .int .i64 (f 5), .int .i64 s1, .slice a1 n1 c1, .int .i64 1, .slice b1 m1 d1]) (List.mem_cons_of_mem _ (List.mem_cons_of_mem _ (List.mem_cons_of_mem _ List.mem_cons_self)))).cell 4
  have q73 := (Q63.out.box (w.heap.size, 30, [.int .i64 (f 0), .int .i64 (f 1), .int .i64 (f 2), .int .i64 (f 3), .int .i64 (f 4), .int .i64 (f 5), .int .i64 s1, .slice a1 n1 c1, .int .i64 1, .slice b1 m1 d1]) (List.mem_cons_of_mem _ (List.mem_cons_of_mem _ (List.mem_cons_of_mem _ List.mem_cons_self)))).cell 5
  have q74 := (Q63.out.box (w.heap.size, 30, [.int .i64 (f 0), .int .i64 (f 1), .int .i64 (f 2), .int .i64 (f 3), .int .i64 (f 4), .int .i64 (f 5), .int .i64 s1, .slice a1 n1 c1, .int .i64 1, .slice b1 m1 d1]) (List.mem_cons_of_mem _ (List.mem_cons_of_mem _ (List.mem_cons_of_mem _ List.mem_cons_self)))).cell 6
  have q75 := (Q63.out.box (w.heap.size, 30, [.int .i64 (f 0), .int .i64 (f 1), .int .i64 (f 2), .int .i64 (f 3), .int .i64 (f 4), .int .i64 (f 5), .int .i64 s1, .slice a1 n1 c1, .int .i64 1, .slice b1 m1 d1]) (List.mem_cons_of_mem _ (List.mem_cons_of_mem _ (List.mem_cons_of_mem _ List.mem_cons_self)))).cell 7
  have q76 := (Q63.out.box (w.heap.size, 30, [.int .i64 (f 0), .int .i64 (f 1), .int .i64 (f 2), .int .i64 (f 3), .int .i64 (f 4), .int .i64 (f 5), .int .i64 s1, .slice a1 n1 c1, .int .i64 1, .slice b1 m1 d1]) (List.mem_cons_of_mem _ (List.mem_cons_of_mem _ (List.mem_cons_of_mem _ List.mem_cons_self)))).cell 8
  have q77 := (Q63.out.box (w.heap.size, 30, [.int .i64 (f 0), .int .i64 (f 1), .int .i64 (f 2), .int .i64 (f 3), .int .i64 (f 4), .int .i64 (f 5), .int .i64 s1, .slice a1 n1 c1, .int .i64 1, .slice b1 m1 d1]) (List.mem_cons_of_mem _ (List.mem_cons_of_mem _ (List.mem_cons_of_mem _ List.mem_cons_self)))).cell 9
  simp only [List.getElem?_cons_succ, List.getElem?_cons_zero] at q68 q69 q70 q71 q72 q73 q74 q75 q76 q77
  go_wp2_with (first | refine wpList_store_row rfl _ _ _ rfl _ #[.int .i64 sx8, .slice ax8 nx8 cx8, .int .i64 1, .slice bx8 mx8 dx8] rfl rfl _ _ (P63.out.box _ List.mem_cons_self) (by kernel_rfl) rfl (by simp [Value.oneCell']) ?_)
  clear q64 q65 q66 q67 q68 q69 q70 q71 q72 q73 q74 q75 q76 q77
  refine (uto_k (Q63.out.fr (v := .slice ax8 nx8 cx8) (u := .slice bx8 mx8 dx8) (r := V) List.mem_cons_self (List.mem_cons_of_mem _ List.mem_cons_self) E8.out) (Q63.out.fr (v := .slice a1 n1 c1) (u := .slice b1 m1 d1) (r := x) (List.mem_cons_of_mem _ (List.mem_cons_of_mem _ (List.mem_cons_of_mem _ (List.mem_cons_of_mem _ (List.mem_cons_of_mem _ (List.mem_cons_of_mem _ List.mem_cons_self)))))) (List.mem_cons_of_mem _ (List.mem_cons_of_mem _ (List.mem_cons_of_mem _ (List.mem_cons_of_mem _ (List.mem_cons_of_mem _ (List.mem_cons_of_mem _ (List.mem_cons_of_mem _ List.mem_cons_self))))))) E1.out) LV.out L1.out O1.out P1_.out NZ1.out HV2.out).mono ?_
  rintro e w9 ⟨sx9, ax9, nx9, cx9, bx9, mx9, dx9, rfl, hr, hb, hf, hg⟩
  have E9 := Lib.hid hr.1.1
  have R9 := Lib.hid (Q63.out.ret2 hb hr.1.2 hf hr.2.2 hg)
  have FF9 := Lib.hid (hf.mono Q63.out.below.size)
  have FG9 := Lib.hid (hg.mono Q63.out.below.size)
  clear hr hb hf hg
  have P78 := Lib.hid (R9.out.put [.int .i64 0, .slice none 0 0, .int .i64 0, .slice none 0 0] 28)
  have Q78 := Lib.hid (Sf.row (pre := []) P78.out [.int .i64 sx9, .slice ax9 nx9 cx9, .int .i64 1, .slice bx9 mx9 dx9])
  have q79 := (Q78.out.box (w.heap.size + 1 + 1, 28, [.int .i64 s3, .slice a3 n3 c3, .int .i64 1, .slice b3 m3 d3]) (List.mem_cons_of_mem _ (List.mem_cons_of_mem _ List.mem_cons_self))).cell 0
  have q80 := (Q78.out.box (w.heap.size + 1 + 1, 28, [.int .i64 s3, .slice a3 n3 c3, .int .i64 1, .slice b3 m3 d3]) (List.mem_cons_of_mem _ (List.mem_cons_of_mem _ List.mem_cons_self))).cell 1
  have q81 := (Q78.out.box (w.heap.size + 1 + 1, 28, [.int .i64 s3, .slice a3 n3 c3, .int .i64 1, .slice b3 m3 d3]) (List.mem_cons_of_mem _ (List.mem_cons_of_mem _ List.mem_cons_self))).cell 2
  have q82 := (Q78.out.box (w.heap.size + 1 + 1, 28, [.int .i64 s3, .slice a3 n3 c3, .int .i64 1, .slice b3 m3 d3]) (List.mem_cons_of_mem _ (List.mem_cons_of_mem _ List.mem_cons_self))).cell 3
  simp only [List.getElem?_cons_succ, List.getElem?_cons_zero] at q79 q80 q81 q82
  have q83 := (Q78.out.box (w.heap.size, 30, [.int .i64 (f 0), .int .i64 (f 1), .int .i64 (f 2), .int .i64 (f 3), .int .i64 (f 4), .int .i64 (f 5), .int .i64 s1, .slice a1 n1 c1, .int .i64 1, .slice b1 m1 d1]) (List.mem_cons_of_mem _ (List.mem_cons_of_mem _ (List.mem_cons_of_mem _ (List.mem_cons_of_mem _ List.mem_cons_self))))).cell 0
  have q84 := (Q78.out.box (w.heap.size, 30, [.int .i64 (f 0), .int .i64 (f 1), .int .i64 (f 2), .int .i64 (f 3), .int .i64 (f 4), .int .i64 (f 5), .int .i64 s1, .slice a1 n1 c1, .int .i64 1, .slice b1 m1 d1]) (List.mem_cons_of_mem _ (List.mem_cons_of_mem _ (List.mem_cons_of_mem _ (List.mem_cons_of_mem _ List.mem_cons_self))))).cell 1
  have q85 := (Q78.out.box (w.heap.size, 30, [.int .i64 (f 0), .int .i64 (f 1), .int .i64 (f 2), .int .i64 (f 3), .int .i64 (f 4), .int .i64 (f 5), .int .i64 s1, .slice a1 n1 c1, .int .i64 1, .slice b1 m1 d1]) (List.mem_cons_of_mem _ (List.mem_cons_of_mem _ (List.mem_cons_of_mem _ (List.mem_cons_of_mem _ List.mem_cons_self))))).cell 2
  have q86 := (Q78.out.box (w.heap.size, 30, [.int .i64 (f 0), .int .i64 (f 1), .int .i64 (f 2), .int .i64 (f 3), .int .i64 (f 4), .int .i64 (f 5), .int .i64 s1, .slice a1 n1 c1, .int .i64 1, .slice b1 m1 d1]) (List.mem_cons_of_mem _ (List.mem_cons_of_mem _ (List.mem_cons_of_mem _ (List.mem_cons_of_mem _ List.mem_cons_self))))).cell 3
  have q87 := (Q78.out.box (w.heap.size, 30, [.int .i64 (f 0), .int .i64 (f 1), .int .i64 (f 2), .int .i64 (f 3), .int .i64 (f 4), .int .i64 (f 5), .int .i64 s1, .slice a1 n1 c1, .int .i64 1, .slice b1 m1 d1]) (List.mem_cons_of_mem _ (List.mem_cons_of_mem _ (List.mem_cons_of_mem _ (List.mem_cons_of_mem _ List.mem_cons_self))))).cell 4
  have q88 := (Q78.out.box (w.heap.size, 30, [.int .i64 (f 0), .int .i64 (f 1), .int .i64 (f 2), .int .i64 (f 3), .int .i64 (f 4), .int .i64 (f 5), .int .i64 s1, .slice a1 n1 c1, .int .i64 1, .slice b1 m1 d1]) (List.mem_cons_of_mem _ (List.mem_cons_of_mem _ (List.mem_cons_of_mem _ (List.mem_cons_of_mem _ List.mem_cons_self))))).cell 5
  have q89 := (Q78.out.box (w.heap.size, 30, [.int .i64 (f 0), .int .i64 (f 1), .int .i64 (f 2), .int .i64 (f 3), .int .i64 (f 4), .int .i64 (f 5), .int .i64 s1, .slice a1 n1 c1, .int .i64 1, .slice b1 m1 d1]) (List.mem_cons_of_mem _ (List.mem_cons_of_mem _ (List.mem_cons_of_mem _ (List.mem_cons_of_mem _ List.mem_cons_self))))).cell 6
  have q90 := (Q78.out.box (w.heap.size, 30, [.int .i64 (f 0), .int .i64 (f 1), .int .i64 (f 2), .int .i64 (f 3), .int .i64 (f 4), .int .i64 (f 5), .int .i64 s1, .slice a1 n1 c1, .int .i64 1, .slice b1 m1 d1]) (List.mem_cons_of_mem _ (List.mem_cons_of_mem _ (List.mem_cons_of_mem _ (List.mem_cons_of_mem _ List.mem_cons_self))))).cell 7
  have q91 := (Q78.out.box (w.heap.size, 30, [.int .i64 (f 0), .int .i64 (f 1), .int .i64 (f 2), .int .i64 (f 3), .int .i64 (f 4), .int .i64 (f 5), .int .i64 s1, .slice a1 n1 c1, .int .i64 1, .slice b1 m1 d1]) (List.mem_cons_of_mem _ (List.mem_cons_of_mem _ (List.mem_cons_of_mem _ (List.mem_cons_of_mem _ List.mem_cons_self))))).cell 8
  have q92 := (Q78.out.box (w.heap.size, 30, [.int .i64 (f 0), .int .i64 (f 1), .int .i64 (f 2), .int .i64 (f 3), .int .i64 (f 4), .int .i64 (f 5), .int .i64 s1, .slice a1 n1 c1, .int .i64 1, .slice b1 m1 d1]) (List.mem_cons_of_mem _ (List.mem_cons_of_mem _ (List.mem_cons_of_mem _ (List.mem_cons_of_mem _ List.mem_cons_self))))).cell 9
  simp only [List.getElem?_cons_succ, List.getElem?_cons_zero] at q83 q84 q85 q86 q87 q88 q89 q90 q91 q92
  go_wp2_with (first | refine wpList_store_row rfl _ _ _ rfl _ #[.int .i64 sx9, .slice ax9 nx9 cx9, .int .i64 1, .slice bx9 mx9 dx9] rfl rfl _ _ (P78.out.box _ List.mem_cons_self) (by kernel_rfl) rfl (by simp [Value.oneCell']) ?_)
  clear q79 q80 q81 q82 q83 q84 q85 q86 q87 q88 q89 q90 q91 q92
  refine (uto_k (Q78.out.fr (v := .slice a3 n3 c3) (u := .slice b3 m3 d3) (r := v) (List.mem_cons_of_mem _ (List.mem_cons_of_mem _ (List.mem_cons_of_mem _ (List.mem_cons_of_mem _ List.mem_cons_self)))) (List.mem_cons_of_mem _ (List.mem_cons_of_mem _ (List.mem_cons_of_mem _ (List.mem_cons_of_mem _ (List.mem_cons_of_mem _ List.mem_cons_self))))) E3.out) (Q78.out.fr (v := .slice a1 n1 c1) (u := .slice b1 m1 d1) (r := x) (List.mem_cons_of_mem _ (List.mem_cons_of_mem _ (List.mem_cons_of_mem _ (List.mem_cons_of_mem _ (List.mem_cons_of_mem _ (List.mem_cons_of_mem _ (List.mem_cons_of_mem _ (List.mem_cons_of_mem _ List.mem_cons_self)))))))) (List.mem_cons_of_mem _ (List.mem_cons_of_mem _ (List.mem_cons_of_mem _ (List.mem_cons_of_mem _ (List.mem_cons_of_mem _ (List.mem_cons_of_mem _ (List.mem_cons_of_mem _ (List.mem_cons_of_mem _ (List.mem_cons_of_mem _ List.mem_cons_self))))))))) E1.out) L3.out L1.out O1.out P1_.out NZ1.out HQ.out).mono ?_
  rintro e w10 ⟨sx10, ax10, nx10, cx10, bx10, mx10, dx10, rfl, hr, hb, hf, hg⟩
  have E10 := Lib.hid hr.1.1
  have R10 := Lib.hid (Q78.out.ret2 hb hr.1.2 hf hr.2.2 hg)
  have FF10 := Lib.hid (hf.mono Q78.out.below.size)
  have FG10 := Lib.hid (hg.mono Q78.out.below.size)
  clear hr hb hf hg
  have P93 := Lib.hid (R10.out.put [.int .i64 0, .slice none 0 0, .int .i64 0, .slice none 0 0] 28)
  have Q93 := Lib.hid (Sf.row (pre := []) P93.out [.int .i64 sx10, .slice ax10 nx10 cx10, .int .i64 1, .slice bx10 mx10 dx10])
  have q94 := (Q93.out.box (w10.heap.size, 28, [.int .i64 sx10, .slice ax10 nx10 cx10, .int .i64 1, .slice bx10 mx10 dx10]) List.mem_cons_self).cell 0
  have q95 := (Q93.out.box (w10.heap.size, 28, [.int .i64 sx10, .slice ax10 nx10 cx10, .int .i64 1, .slice bx10 mx10 dx10]) List.mem_cons_self).cell 1
  have q96 := (Q93.out.box (w10.heap.size, 28, [.int .i64 sx10, .slice ax10 nx10 cx10, .int .i64 1, .slice bx10 mx10 dx10]) List.mem_cons_self).cell 2
  have q97 := (Q93.out.box (w10.heap.size, 28, [.int .i64 sx10, .slice ax10 nx10 cx10, .int .i64 1, .slice bx10 mx10 dx10]) List.mem_cons_self).cell 3
  simp only [List.getElem?_cons_succ, List.getElem?_cons_zero] at q94 q95 q96 q97
  have q98 := (Q93.out.box (w.heap.size, 30, [.int .i64 (f 0), .int .i64 (f 1), .int .i64 (f 2), .int .i64 (f 3), .int .i64 (f 4), .int .i64 (f 5), .int .i64 s1, .slice a1 n1 c1, .int .i64 1, .slice b1 m1 d1]) (List.mem_cons_of_mem _ (List.mem_cons_of_mem _ (List.mem_cons_of_mem _ (List.mem_cons_of_mem _ (List.mem_cons_of_mem _ List.mem_cons_self)))))).cell 0
  have q99 := (Q93.out.box (w.heap.size, 30, [.int .i64 (f 0), .int .i64 (f 1), .int .i64 (f 2), .int .i64 (f 3), .int .i64 (f 4), .int .i64 (f 5), .int .i64 s1, .slice a1 n1 c1, .int .i64 1, .slice b1 m1 d1]) (List.mem_cons_of_mem _ (List.mem_cons_of_mem _ (List.mem_cons_of_mem _ (List.mem_cons_of_mem _ (List.mem_cons_of_mem _ List.mem_cons_self)))))).cell 1
  have q100 := (Q93.out.box (w.heap.size, 30, [.int .i64 (f 0), .int .i64 (f 1), .int .i64 (f 2), .int .i64 (f 3), .int .i64 (f 4), .int .i64 (f 5), .int .i64 s1, .slice a1 n1 c1, .int .i64 1, .slice b1 m1 d1]) (List.mem_cons_of_mem _ (List.mem_cons_of_mem _ (List.mem_cons_of_mem _ (List.mem_cons_of_mem _ (List.mem_cons_of_mem _ List.mem_cons_self)))))).cell 2
  have q101 := (Q93.out.box (w.heap.size, 30, [.int .i64 (f 0), .int .i64 (f 1), .int .i64 (f 2), .int .i64 (f 3), .int .i64 (f 4), .int .i64 (f 5), .int .i64 s1, .slice a1 n1 c1, .int .i64 1, .slice b1 m1 d1]) (List.mem_cons_of_mem _ (List.mem_cons_of_mem _ (List.mem_cons_of_mem _ (List.mem_cons_of_mem _ (List.mem_cons_of_mem _ List.mem_cons_self)))))).cell 3
  have q102 := (Q93.out.box (w.heap.size, 30, [.int .i64 (f 0), .int .i64 (f 1), .int .i64 (f 2), .int .i64 (f 3), .int .i64 (f 4), .int .i64 (f 5), .int .i64 s1, .slice a1 n1 c1, .int .i64 1, .slice b1 m1 d1]) (List.mem_cons_of_mem _ (List.mem_cons_of_mem _ (List.mem_cons_of_mem _ (List.mem_cons_of_mem _ (List.mem_cons_of_mem _ List.mem_cons_self)))))).cell 4
  have q103 := (Q93.out.box (w.heap.size, 30, [.int .i64 (f 0), .int .i64 (f 1), .int .i64 (f 2), .int .i64 (f 3), .int .i64 (f 4), .int .i64 (f 5), .int .i64 s1, .slice a1 n1 c1, .int .i64 1, .slice b1 m1 d1]) (List.mem_cons_of_mem _ (List.mem_cons_of_mem _ (List.mem_cons_of_mem _ (List.mem_cons_of_mem _ (List.mem_cons_of_mem _ List.mem_cons_self)))))).cell 5
  have q104 := (Q93.out.box (w.heap.size, 30, [.int .i64 (f 0), .int .i64 (f 1), .int .i64 (f 2), .int .i64 (f 3), .int .i64 (f 4), .int .i64 (f 5), .int .i64 s1, .slice a1 n1 c1, .int .i64 1, .slice b1 m1 d1]) (List.mem_cons_of_mem _ (List.mem_cons_of_mem _ (List.mem_cons_of_mem _ (List.mem_cons_of_mem _ (List.mem_cons_of_mem _ List.mem_cons_self)))))).cell 6
  have q105 := (Q93.out.box (w.heap.size, 30, [.int .i64 (f 0), .int .i64 (f 1), .int .i64 (f 2), .int .i64 (f 3), .int .i64 (f 4), .int .i64 (f 5), .int .i64 s1, .slice a1 n1 c1, .int .i64 1, .slice b1 m1 d1]) (List.mem_cons_of_mem _ (List.mem_cons_of_mem _ (List.mem_cons_of_mem _ (List.mem_cons_of_mem _ (List.mem_cons_of_mem _ List.mem_cons_self)))))).cell 7
  have q106 := (Q93.out.box (w.heap.size, 30, [.int .i64 (f 0), .int .i64 (f 1), .int .i64 (f 2), .int .i64 (f 3), .int .i64 (f 4), .int .i64 (f 5), .int .i64 s1, .slice a1 n1 c1, .int .i64 1, .slice b1 m1 d1]) (List.mem_cons_of_mem _ (List.mem_cons_of_mem _ (List.mem_cons_of_mem _ (List.mem_cons_of_mem _ (List.mem_cons_of_mem _ List.mem_cons_self)))))).cell 8
  have q107 := (Q93.out.box (w.heap.size, 30, [.int .i64 (f 0), .int .i64 (f 1), .int .i64 (f 2), .int .i64 (f 3), .int .i64 (f 4), .int .i64 (f 5), .int .i64 s1, .slice a1 n1 c1, .int .i64 1, .slice b1 m1 d1]) (List.mem_cons_of_mem _ (List.mem_cons_of_mem _ (List.mem_cons_of_mem _ (List.mem_cons_of_mem _ (List.mem_cons_of_mem _ List.mem_cons_self)))))).cell 9
  simp only [List.getElem?_cons_succ, List.getElem?_cons_zero] at q98 q99 q100 q101 q102 q103 q104 q105 q106 q107
  go_wp2_with (first | refine wpList_store_row rfl _ _ _ rfl _ #[.int .i64 sx10, .slice ax10 nx10 cx10, .int .i64 1, .slice bx10 mx10 dx10] rfl rfl _ _ (P93.out.box _ List.mem_cons_self) (by kernel_rfl) rfl (by simp [Value.oneCell']) ?_)
  clear q94 q95 q96 q97 q98 q99 q100 q101 q102 q103 q104 q105 q106 q107
  refine (ufrom_k (Q93.out.fr (v := .slice ax10 nx10 cx10) (u := .slice bx10 mx10 dx10) (r := Q) List.mem_cons_self (List.mem_cons_of_mem _ List.mem_cons_self) E10.out) (Q93.out.fr (v := .slice a1 n1 c1) (u := .slice b1 m1 d1) (r := x) (List.mem_cons_of_mem _ (List.mem_cons_of_mem _ (List.mem_cons_of_mem _ (List.mem_cons_of_mem _ (List.mem_cons_of_mem _ (List.mem_cons_of_mem _ (List.mem_cons_of_mem _ (List.mem_cons_of_mem _ (List.mem_cons_of_mem _ (List.mem_cons_of_mem _ List.mem_cons_self)))))))))) (List.mem_cons_of_mem _ (List.mem_cons_of_mem _ (List.mem_cons_of_mem _ (List.mem_cons_of_mem _ (List.mem_cons_of_mem _ (List.mem_cons_of_mem _ (List.mem_cons_of_mem _ (List.mem_cons_of_mem _ (List.mem_cons_of_mem _ (List.mem_cons_of_mem _ (List.mem_cons_of_mem _ List.mem_cons_self))))))))))) E1.out) LQ.out L1.out O1.out P1_.out HQ2.out).mono ?_
  rintro e w11 ⟨sx11, ax11, nx11, cx11, bx11, mx11, dx11, rfl, hr, hb, hf, hg⟩
  have E11 := Lib.hid hr.1.1
  have R11 := Lib.hid (Q93.out.ret2 hb hr.1.2 hf hr.2.2 hg)
  have FF11 := Lib.hid (hf.mono Q93.out.below.size)
  have FG11 := Lib.hid (hg.mono Q93.out.below.size)
  clear hr hb hf hg
  have P108 := Lib.hid (R11.out.put [.int .i64 0, .slice none 0 0, .int .i64 0, .slice none 0 0] 28)
  have Q108 := Lib.hid (Sf.row (pre := []) P108.out [.int .i64 sx11, .slice ax11 nx11 cx11, .int .i64 1, .slice bx11 mx11 dx11])
  have q109 := (Q108.out.box (w8.heap.size, 28, [.int .i64 sx8, .slice ax8 nx8 cx8, .int .i64 1, .slice bx8 mx8 dx8]) (List.mem_cons_of_mem _ (List.mem_cons_of_mem _ (List.mem_cons_of_mem _ List.mem_cons_self)))).cell 0
  have q110 := (Q108.out.box (w8.heap.size, 28, [.int .i64 sx8, .slice ax8 nx8 cx8, .int .i64 1, .slice bx8 mx8 dx8]) (List.mem_cons_of_mem _ (List.mem_cons_of_mem _ (List.mem_cons_of_mem _ List.mem_cons_self)))).cell 1
  have q111 := (Q108.out.box (w8.heap.size, 28, [.int .i64 sx8, .slice ax8 nx8 cx8, .int .i64 1, .slice bx8 mx8 dx8]) (List.mem_cons_of_mem _ (List.mem_cons_of_mem _ (List.mem_cons_of_mem _ List.mem_cons_self)))).cell 2
  have q112 := (Q108.out.box (w8.heap.size, 28, [.int .i64 sx8, .slice ax8 nx8 cx8, .int .i64 1, .slice bx8 mx8 dx8]) (List.mem_cons_of_mem _ (List.mem_cons_of_mem _ (List.mem_cons_of_mem _ List.mem_cons_self)))).cell 3
  simp only [List.getElem?_cons_succ, List.getElem?_cons_zero] at q109 q110 q111 q112
  have q113 := (Q108.out.box (w.heap.size + 1, 30, [.int .i64 (g 0), .int .i64 (g 1), .int .i64 (g 2), .int .i64 (g 3), .int .i64 (g 4), .int .i64 (g 5), .int .i64 s2, .slice a2 n2 c2, .int .i64 1, .slice b2 m2 d2]) (List.mem_cons_of_mem _ (List.mem_cons_of_mem _ (List.mem_cons_of_mem _ (List.mem_cons_of_mem _ (List.mem_cons_of_mem _ List.mem_cons_self)))))).cell 0
  have q114 := (Q108.out.box (w.heap.size + 1, 30, [.int .i64 (g 0), .int .i64 (g 1), .int .i64 (g 2), .int .i64 (g 3), .int .i64 (g 4), .int .i64 (g 5), .int .i64 s2, .slice a2 n2 c2, .int .i64 1, .slice b2 m2 d2]) (List.mem_cons_of_mem _ (List.mem_cons_of_mem _ (List.mem_cons_of_mem _ (List.mem_cons_of_mem _ (List.mem_cons_of_mem _ List.mem_cons_self)))))).cell 1
  have q115 := (Q108.out.box (w.heap.size + 1, 30, [.int .i64 (g 0), .int .i64 (g 1), .int .i64 (g 2), .int .i64 (g 3), .int .i64 (g 4), .int .i64 (g 5), .int .i64 s2, .slice a2 n2 c2, .int .i64 1, .slice b2 m2 d2]) (List.mem_cons_of_mem _ (List.mem_cons_of_mem _ (List.mem_cons_of_mem _ (List.mem_cons_of_mem _ (List.mem_cons_of_mem _ List.mem_cons_self)))))).cell 2
  have q116 := (Q108.out.box (w.heap.size + 1, 30, [.int .i64 (g 0), .int .i64 (g 1), .int .i64 (g 2), .int .i64 (g 3), .int .i64 (g 4), .int .i64 (g 5), .int .i64 s2, .slice a2 n2 c2, .int .i64 1, .slice b2 m2 d2]) (List.mem_cons_of_mem _ (List.mem_cons_of_mem _ (List.mem_cons_of_mem _ (List.mem_cons_of_mem _ (List.mem_cons_of_mem _ List.mem_cons_self)))))).cell 3
  have q117 := (Q108.out.box (w.heap.size + 1, 30, [.int .i64 (g 0), .int .i64 (g 1), .int .i64 (g 2), .int .i64 (g 3), .int .i64 (g 4), .int .i64 (g 5), .int .i64 s2, .slice a2 n2 c2, .int .i64 1, .slice b2 m2 d2]) (List.mem_cons_of_mem _ (List.mem_cons_of_mem _ (List.mem_cons_of_mem _ (List.mem_cons_of_mem _ (List.mem_cons_of_mem _ List.mem_cons_self)))))).cell 4
  have q118 := (Q108.out.box (w.heap.size + 1, 30, [.int .i64 (g 0), .int .i64 (g 1), .int .i64 (g 2), .int .i64 (g 3), .int .i64 (g 4), .int .i64 (g 5), .int .i64 s2, .slice a2 n2 c2, .int .i64 1, .slice b2 m2 d2]) (List.mem_cons_of_mem _ (List.mem_cons_of_mem _ (List.mem_cons_of_mem _ (List.mem_cons_of_mem _ (List.mem_cons_of_mem _ List.mem_cons_self)))))).cell 5
  have q119 := (Q108.out.box (w.heap.size + 1, 30, [.int .i64 (g 0), .int .i64 (g 1), .int .i64 (g 2), .int .i64 (g 3), .int .i64 (g 4), .int .i64 (g 5), .int .i64 s2, .slice a2 n2 c2, .int .i64 1, .slice b2 m2 d2]) (List.mem_cons_of_mem _ (List.mem_cons_of_mem _ (List.mem_cons_of_mem _ (List.mem_cons_of_mem _ (List.mem_cons_of_mem _ List.mem_cons_self)))))).cell 6
  have q120 := (Q108.out.box (w.heap.size + 1, 30, [.int .i64 (g 0), .int .i64 (g 1), .int .i64 (g 2), .int .i64 (g 3), .int .i64 (g 4), .int .i64 (g 5), .int .i64 s2, .slice a2 n2 c2, .int .i64 1, .slice b2 m2 d2]) (List.mem_cons_of_mem _ (List.mem_cons_of_mem _ (List.mem_cons_of_mem _ (List.mem_cons_of_mem _ (List.mem_cons_of_mem _ List.mem_cons_self)))))).cell 7
  have q121 := (Q108.out.box (w.heap.size + 1, 30, [.int .i64 (g 0), .int .i64 (g 1), .int .i64 (g 2), .int .i64 (g 3), .int .i64 (g 4), .int .i64 (g 5), .int .i64 s2, .slice a2 n2 c2, .int .i64 1, .slice b2 m2 d2]) (List.mem_cons_of_mem _ (List.mem_cons_of_mem _ (List.mem_cons_of_mem _ (List.mem_cons_of_mem _ (List.mem_cons_of_mem _ List.mem_cons_self)))))).cell 8
  have q122 := (Q108.out.box (w.heap.size + 1, 30, [.int .i64 (g 0), .int .i64 (g 1), .int .i64 (g 2), .int .i64 (g 3), .int .i64 (g 4), .int .i64 (g 5), .int .i64 s2, .slice a2 n2 c2, .int .i64 1, .slice b2 m2 d2]) (List.mem_cons_of_mem _ (List.mem_cons_of_mem _ (List.mem_cons_of_mem _ (List.mem_cons_of_mem _ (List.mem_cons_of_mem _ List.mem_cons_self)))))).cell 9
  simp only [List.getElem?_cons_succ, List.getElem?_cons_zero] at q113 q114 q115 q116 q117 q118 q119 q120 q121 q122
  go_wp2_with (first | refine wpList_store_row rfl _ _ _ rfl _ #[.int .i64 sx11, .slice ax11 nx11 cx11, .int .i64 1, .slice bx11 mx11 dx11] rfl rfl _ _ (P108.out.box _ List.mem_cons_self) (by kernel_rfl) rfl (by simp [Value.oneCell']) ?_)
  clear q109 q110 q111 q112 q113 q114 q115 q116 q117 q118 q119 q120 q121 q122
  refine (uto_k (Q108.out.fr (v := .slice ax8 nx8 cx8) (u := .slice bx8 mx8 dx8) (r := V) (List.mem_cons_of_mem _ (List.mem_cons_of_mem _ (List.mem_cons_of_mem _ (List.mem_cons_of_mem _ (List.mem_cons_of_mem _ (List.mem_cons_of_mem _ List.mem_cons_self)))))) (List.mem_cons_of_mem _ (List.mem_cons_of_mem _ (List.mem_cons_of_mem _ (List.mem_cons_of_mem _ (List.mem_cons_of_mem _ (List.mem_cons_of_mem _ (List.mem_cons_of_mem _ List.mem_cons_self))))))) E8.out) (Q108.out.fr (v := .slice a2 n2 c2) (u := .slice b2 m2 d2) (r := y) (List.mem_cons_of_mem _ (List.mem_cons_of_mem _ (List.mem_cons_of_mem _ (List.mem_cons_of_mem _ (List.mem_cons_of_mem _ (List.mem_cons_of_mem _ (List.mem_cons_of_mem _ (List.mem_cons_of_mem _ (List.mem_cons_of_mem _ (List.mem_cons_of_mem _ List.mem_cons_self)))))))))) (List.mem_cons_of_mem _ (List.mem_cons_of_mem _ (List.mem_cons_of_mem _ (List.mem_cons_of_mem _ (List.mem_cons_of_mem _ (List.mem_cons_of_mem _ (List.mem_cons_of_mem _ (List.mem_cons_of_mem _ (List.mem_cons_of_mem _ (List.mem_cons_of_mem _ (List.mem_cons_of_mem _ List.mem_cons_self))))))))))) E2.out) LV.out L2.out O2.out P2_.out NZ2.out HO.out).mono ?_
  rintro e w12 ⟨sx12, ax12, nx12, cx12, bx12, mx12, dx12, rfl, hr, hb, hf, hg⟩
  have E12 := Lib.hid hr.1.1
  have R12 := Lib.hid (Q108.out.ret2 hb hr.1.2 hf hr.2.2 hg)
  have FF12 := Lib.hid (hf.mono Q108.out.below.size)
  have FG12 := Lib.hid (hg.mono Q108.out.below.size)
  clear hr hb hf hg
  have P123 := Lib.hid (R12.out.put [.int .i64 0, .slice none 0 0, .int .i64 0, .slice none 0 0] 28)
  have Q123 := Lib.hid (Sf.row (pre := []) P123.out [.int .i64 sx12, .slice ax12 nx12 cx12, .int .i64 1, .slice bx12 mx12 dx12])
  have q124 := (Q123.out.box (w12.heap.size, 28, [.int .i64 sx12, .slice ax12 nx12 cx12, .int .i64 1, .slice bx12 mx12 dx12]) List.mem_cons_self).cell 0
  have q125 := (Q123.out.box (w12.heap.size, 28, [.int .i64 sx12, .slice ax12 nx12 cx12, .int .i64 1, .slice bx12 mx12 dx12]) List.mem_cons_self).cell 1
  have q126 := (Q123.out.box (w12.heap.size, 28, [.int .i64 sx12, .slice ax12 nx12 cx12, .int .i64 1, .slice bx12 mx12 dx12]) List.mem_cons_self).cell 2
  have q127 := (Q123.out.box (w12.heap.size, 28, [.int .i64 sx12, .slice ax12 nx12 cx12, .int .i64 1, .slice bx12 mx12 dx12]) List.mem_cons_self).cell 3
  simp only [List.getElem?_cons_succ, List.getElem?_cons_zero] at q124 q125 q126 q127
  have q128 := (Q123.out.box (w.heap.size + 1, 30, [.int .i64 (g 0), .int .i64 (g 1), .int .i64 (g 2), .int .i64 (g 3), .int .i64 (g 4), .int .i64 (g 5), .int .i64 s2, .slice a2 n2 c2, .int .i64 1, .slice b2 m2 d2]) (List.mem_cons_of_mem _ (List.mem_cons_of_mem _ (List.mem_cons_of_mem _ (List.mem_cons_of_mem _ (List.mem_cons_of_mem _ (List.mem_cons_of_mem _ List.mem_cons_self))))))).cell 0
  have q129 := (Q123.out.box (w.heap.size + 1, 30, [.int .i64 (g 0), .int .i64 (g 1), .int .i64 (g 2), .int .i64 (g 3), .int .i64 (g 4), .int .i64 (g 5), .int .i64 s2, .slice a2 n2 c2, .int .i64 1, .slice b2 m2 d2]) (List.mem_cons_of_mem _ (List.mem_cons_of_mem _ (List.mem_cons_of_mem _ (List.mem_cons_of_mem _ (List.mem_cons_of_mem _ (List.mem_cons_of_mem _ List.mem_cons_self))))))).cell 1
  have q130 := (Q123.out.box (w.heap.size + 1, 30, [.int .i64 (g 0), .int .i64 (g 1), .int .i64 (g 2), .int .i64 (g 3), .int .i64 (g 4), .int .i64 (g 5), .int .i64 s2, .slice a2 n2 c2, .int .i64 1, .slice b2 m2 d2]) (List.mem_cons_of_mem _ (List.mem_cons_of_mem _ (List.mem_cons_of_mem _ (List.mem_cons_of_mem _ (List.mem_cons_of_mem _ (List.mem_cons_of_mem _ List.mem_cons_self))))))).cell 2
  have q131 := (Q123.out.box (w.heap.size + 1, 30, [.int .i64 (g 0), .int .i64 (g 1), .int .i64 (g 2), .int .i64 (g 3), .int .i64 (g 4), .int .i64 (g 5), .int .i64 s2, .slice a2 n2 c2, .int .i64 1, .slice b2 m2 d2]) (List.mem_cons_of_mem _ (List.mem_cons_of_mem _ (List.mem_cons_of_mem _ (List.mem_cons_of_mem _ (List.mem_cons_of_mem _ (List.mem_cons_of_mem _ List.mem_cons_self))))))).cell 3
  have q132 := (Q123.out.box (w.heap.size + 1, 30, [.int .i64 (g 0), .int .i64 (g 1), .int .i64 (g 2), .int .i64 (g 3), .int .i64 (g 4), .int .i64 (g 5), .int .i64 s2, .slice a2 n2 c2, .int .i64 1, .slice b2 m2 d2]) (List.mem_cons_of_mem _ (List.mem_cons_of_mem _ (List.mem_cons_of_mem _ (List.mem_cons_of_mem _ (List.mem_cons_of_mem _ (List.mem_cons_of_mem _ List.mem_cons_self))))))).cell 4
  have q133 := (Q123.out.box (w.heap.size + 1, 30, [.int .i64 (g 0), .int .i64 (g 1), .int .i64 (g 2), .int .i64 (g 3), .int .i64 (g 4), .int .i64 (g 5), .int .i64 s2, .slice a2 n2 c2, .int .i64 1, .slice b2 m2 d2]) (List.mem_cons_of_mem _ (List.mem_cons_of_mem _ (List.mem_cons_of_mem _ (List.mem_cons_of_mem _ (List.mem_cons_of_mem _ (List.mem_cons_of_mem _ List.mem_cons_self))))))).cell 5
  have q134 := (Q123.out.box (w.heap.size + 1, 30, [.int .i64 (g 0), .int .i64 (g 1), .int .i64 (g 2), .int .i64 (g 3), .int .i64 (g 4), .int .i64 (g 5), .int .i64 s2, .slice a2 n2 c2, .int .i64 1, .slice b2 m2 d2]) (List.mem_cons_of_mem _ (List.mem_cons_of_mem _ (List.mem_cons_of_mem _ (List.mem_cons_of_mem _ (List.mem_cons_of_mem _ (List.mem_cons_of_mem _ List.mem_cons_self))))))).cell 6
  have q135 := (Q123.out.box (w.heap.size + 1, 30, [.int .i64 (g 0), .int .i64 (g 1), .int .i64 (g 2), .int .i64 (g 3), .int .i64 (g 4), .int .i64 (g 5), .int .i64 s2, .slice a2 n2 c2, .int .i64 1, .slice b2 m2 d2]) (List.mem_cons_of_mem _ (List.mem_cons_of_mem _ (List.mem_cons_of_mem _ (List.mem_cons_of_mem _ (List.mem_cons_of_mem _ (List.mem_cons_of_mem _ List.mem_cons_self))))))).cell 7
  have q136 := (Q123.out.box (w.heap.size + 1, 30, [.int .i64 (g 0), .int .i64 (g 1), .int .i64 (g 2), .int .i64 (g 3), .int .i64 (g 4), .int .i64 (g 5), .int .i64 s2, .slice a2 n2 c2, .int .i64 1, .slice b2 m2 d2]) (List.mem_cons_of_mem _ (List.mem_cons_of_mem _ (List.mem_cons_of_mem _ (List.mem_cons_of_mem _ (List.mem_cons_of_mem _ (List.mem_cons_of_mem _ List.mem_cons_self))))))).cell 8
  have q137 := (Q123.out.box (w.heap.size + 1, 30, [.int .i64 (g 0), .int .i64 (g 1), .int .i64 (g 2), .int .i64 (g 3), .int .i64 (g 4), .int .i64 (g 5), .int .i64 s2, .slice a2 n2 c2, .int .i64 1, .slice b2 m2 d2]) (List.mem_cons_of_mem _ (List.mem_cons_of_mem _ (List.mem_cons_of_mem _ (List.mem_cons_of_mem _ (List.mem_cons_of_mem _ (List.mem_cons_of_mem _ List.mem_cons_self))))))).cell 9
  simp only [List.getElem?_cons_succ, List.getElem?_cons_zero] at q128 q129 q130 q131 q132 q133 q134 q135 q136 q137
  go_wp2_with (first | refine wpList_store_row rfl _ _ _ rfl _ #[.int .i64 sx12, .slice ax12 nx12 cx12, .int .i64 1, .slice bx12 mx12 dx12] rfl rfl _ _ (P123.out.box _ List.mem_cons_self) (by kernel_rfl) rfl (by simp [Value.oneCell']) ?_)
  clear q124 q125 q126 q127 q128 q129 q130 q131 q132 q133 q134 q135 q136 q137
  refine (ufrom_k (Q123.out.fr (v := .slice ax12 nx12 cx12) (u := .slice bx12 mx12 dx12) (r := O) List.mem_cons_self (List.mem_cons_of_mem _ List.mem_cons_self) E12.out) (Q123.out.fr (v := .slice a2 n2 c2) (u := .slice b2 m2 d2) (r := y) (List.mem_cons_of_mem _ (List.mem_cons_of_mem _ (List.mem_cons_of_mem _ (List.mem_cons_of_mem _ (List.mem_cons_of_mem _ (List.mem_cons_of_mem _ (List.mem_cons_of_mem _ (List.mem_cons_of_mem _ (List.mem_cons_of_mem _ (List.mem_cons_of_mem _ (List.mem_cons_of_mem _ (List.mem_cons_of_mem _ List.mem_cons_self)))))))))))) (List.mem_cons_of_mem _ (List.mem_cons_of_mem _ (List.mem_cons_of_mem _ (List.mem_cons_of_mem _ (List.mem_cons_of_mem _ (List.mem_cons_of_mem _ (List.mem_cons_of_mem _ (List.mem_cons_of_mem _ (List.mem_cons_of_mem _ (List.mem_cons_of_mem _ (List.mem_cons_of_mem _ (List.mem_cons_of_mem _ (List.mem_cons_of_mem _ List.mem_cons_self))))))))))))) E2.out) LO.out L2.out O2.out P2_.out HO2.out).mono ?_
  rintro e w13 ⟨sx13, ax13, nx13, cx13, bx13, mx13, dx13, rfl, hr, hb, hf, hg⟩
  have E13 := Lib.hid hr.1.1
  have R13 := Lib.hid (Q123.out.ret2 hb hr.1.2 hf hr.2.2 hg)
  have FF13 := Lib.hid (hf.mono Q123.out.below.size)
  have FG13 := Lib.hid (hg.mono Q123.out.below.size)
  clear hr hb hf hg
  have P138 := Lib.hid (R13.out.put [.int .i64 0, .slice none 0 0, .int .i64 0, .slice none 0 0] 28)
  have Q138 := Lib.hid (Sf.row (pre := []) P138.out [.int .i64 sx13, .slice ax13 nx13 cx13, .int .i64 1, .slice bx13 mx13 dx13])
  have q139 := (Q138.out.box (w9.heap.size, 28, [.int .i64 sx9, .slice ax9 nx9 cx9, .int .i64 1, .slice bx9 mx9 dx9]) (List.mem_cons_of_mem _ (List.mem_cons_of_mem _ (List.mem_cons_of_mem _ (List.mem_cons_of_mem _ List.mem_cons_self))))).cell 0
  have q140 := (Q138.out.box (w9.heap.size, 28, [.int .i64 sx9, .slice ax9 nx9 cx9, .int .i64 1, .slice bx9 mx9 dx9]) (List.mem_cons_of_mem _ (List.mem_cons_of_mem _ (List.mem_cons_of_mem _ (List.mem_cons_of_mem _ List.mem_cons_self))))).cell 1
  have q141 := (Q138.out.box (w9.heap.size, 28, [.int .i64 sx9, .slice ax9 nx9 cx9, .int .i64 1, .slice bx9 mx9 dx9]) (List.mem_cons_of_mem _ (List.mem_cons_of_mem _ (List.mem_cons_of_mem _ (List.mem_cons_of_mem _ List.mem_cons_self))))).cell 2
  have q142 := (Q138.out.box (w9.heap.size, 28, [.int .i64 sx9, .slice ax9 nx9 cx9, .int .i64 1, .slice bx9 mx9 dx9]) (List.mem_cons_of_mem _ (List.mem_cons_of_mem _ (List.mem_cons_of_mem _ (List.mem_cons_of_mem _ List.mem_cons_self))))).cell 3
  simp only [List.getElem?_cons_succ, List.getElem?_cons_zero] at q139 q140 q141 q142
  have q143 := (Q138.out.box (w.heap.size + 1 + 1, 28, [.int .i64 s3, .slice a3 n3 c3, .int .i64 1, .slice b3 m3 d3]) (List.mem_cons_of_mem _ (List.mem_cons_of_mem _ (List.mem_cons_of_mem _ (List.mem_cons_of_mem _ (List.mem_cons_of_mem _ (List.mem_cons_of_mem _ List.mem_cons_self))))))).cell 0
  have q144 := (Q138.out.box (w.heap.size + 1 + 1, 28, [.int .i64 s3, .slice a3 n3 c3, .int .i64 1, .slice b3 m3 d3]) (List.mem_cons_of_mem _ (List.mem_cons_of_mem _ (List.mem_cons_of_mem _ (List.mem_cons_of_mem _ (List.mem_cons_of_mem _ (List.mem_cons_of_mem _ List.mem_cons_self))))))).cell 1
  have q145 := (Q138.out.box (w.heap.size + 1 + 1, 28, [.int .i64 s3, .slice a3 n3 c3, .int .i64 1, .slice b3 m3 d3]) (List.mem_cons_of_mem _ (List.mem_cons_of_mem _ (List.mem_cons_of_mem _ (List.mem_cons_of_mem _ (List.mem_cons_of_mem _ (List.mem_cons_of_mem _ List.mem_cons_self))))))).cell 2
  have q146 := (Q138.out.box (w.heap.size + 1 + 1, 28, [.int .i64 s3, .slice a3 n3 c3, .int .i64 1, .slice b3 m3 d3]) (List.mem_cons_of_mem _ (List.mem_cons_of_mem _ (List.mem_cons_of_mem _ (List.mem_cons_of_mem _ (List.mem_cons_of_mem _ (List.mem_cons_of_mem _ List.mem_cons_self))))))).cell 3
  simp only [List.getElem?_cons_succ, List.getElem?_cons_zero] at q143 q144 q145 q146
  go_wp2_with (first | refine wpList_store_row rfl _ _ _ rfl _ #[.int .i64 sx13, .slice ax13 nx13 cx13, .int .i64 1, .slice bx13 mx13 dx13] rfl rfl _ _ (P138.out.box _ List.mem_cons_self) (by kernel_rfl) rfl (by simp [Value.oneCell']) ?_)
  clear q139 q140 q141 q142 q143 q144 q145 q146
  refine (rfsame_t (Q138.out.fr (v := .slice ax9 nx9 cx9) (u := .slice bx9 mx9 dx9) (r := v) (List.mem_cons_of_mem _ (List.mem_cons_of_mem _ (List.mem_cons_of_mem _ (List.mem_cons_of_mem _ (List.mem_cons_of_mem _ (List.mem_cons_of_mem _ (List.mem_cons_of_mem _ (List.mem_cons_of_mem _ List.mem_cons_self)))))))) (List.mem_cons_of_mem _ (List.mem_cons_of_mem _ (List.mem_cons_of_mem _ (List.mem_cons_of_mem _ (List.mem_cons_of_mem _ (List.mem_cons_of_mem _ (List.mem_cons_of_mem _ (List.mem_cons_of_mem _ (List.mem_cons_of_mem _ List.mem_cons_self))))))))) E9.out) (Q138.out.fr (v := .slice a3 n3 c3) (u := .slice b3 m3 d3) (r := v) (List.mem_cons_of_mem _ (List.mem_cons_of_mem _ (List.mem_cons_of_mem _ (List.mem_cons_of_mem _ (List.mem_cons_of_mem _ (List.mem_cons_of_mem _ (List.mem_cons_of_mem _ (List.mem_cons_of_mem _ (List.mem_cons_of_mem _ (List.mem_cons_of_mem _ (List.mem_cons_of_mem _ (List.mem_cons_of_mem _ List.mem_cons_self)))))))))))) (List.mem_cons_of_mem _ (List.mem_cons_of_mem _ (List.mem_cons_of_mem _ (List.mem_cons_of_mem _ (List.mem_cons_of_mem _ (List.mem_cons_of_mem _ (List.mem_cons_of_mem _ (List.mem_cons_of_mem _ (List.mem_cons_of_mem _ (List.mem_cons_of_mem _ (List.mem_cons_of_mem _ (List.mem_cons_of_mem _ (List.mem_cons_of_mem _ List.mem_cons_self))))))))))))) E3.out) rfl).mono ?_
  rintro e w14 ⟨rfl, hb⟩
  have R14 := Lib.hid (Q138.out.later hb)
  clear hb
  have q147 := (R14.out.box (w11.heap.size, 28, [.int .i64 sx11, .slice ax11 nx11 cx11, .int .i64 1, .slice bx11 mx11 dx11]) (List.mem_cons_of_mem _ (List.mem_cons_of_mem _ List.mem_cons_self))).cell 0
  have q148 := (R14.out.box (w11.heap.size, 28, [.int .i64 sx11, .slice ax11 nx11 cx11, .int .i64 1, .slice bx11 mx11 dx11]) (List.mem_cons_of_mem _ (List.mem_cons_of_mem _ List.mem_cons_self))).cell 1
  have q149 := (R14.out.box (w11.heap.size, 28, [.int .i64 sx11, .slice ax11 nx11 cx11, .int .i64 1, .slice bx11 mx11 dx11]) (List.mem_cons_of_mem _ (List.mem_cons_of_mem _ List.mem_cons_self))).cell 2
  have q150 := (R14.out.box (w11.heap.size, 28, [.int .i64 sx11, .slice ax11 nx11 cx11, .int .i64 1, .slice bx11 mx11 dx11]) (List.mem_cons_of_mem _ (List.mem_cons_of_mem _ List.mem_cons_self))).cell 3
  simp only [List.getElem?_cons_succ, List.getElem?_cons_zero] at q147 q148 q149 q150
  have q151 := (R14.out.box (w.heap.size + 1 + 1, 28, [.int .i64 s3, .slice a3 n3 c3, .int .i64 1, .slice b3 m3 d3]) (List.mem_cons_of_mem _ (List.mem_cons_of_mem _ (List.mem_cons_of_mem _ (List.mem_cons_of_mem _ (List.mem_cons_of_mem _ (List.mem_cons_of_mem _ List.mem_cons_self))))))).cell 0
  have q152 := (R14.out.box (w.heap.size + 1 + 1, 28, [.int .i64 s3, .slice a3 n3 c3, .int .i64 1, .slice b3 m3 d3]) (List.mem_cons_of_mem _ (List.mem_cons_of_mem _ (List.mem_cons_of_mem _ (List.mem_cons_of_mem _ (List.mem_cons_of_mem _ (List.mem_cons_of_mem _ List.mem_cons_self))))))).cell 1
  have q153 := (R14.out.box (w.heap.size + 1 + 1, 28, [.int .i64 s3, .slice a3 n3 c3, .int .i64 1, .slice b3 m3 d3]) (List.mem_cons_of_mem _ (List.mem_cons_of_mem _ (List.mem_cons_of_mem _ (List.mem_cons_of_mem _ (List.mem_cons_of_mem _ (List.mem_cons_of_mem _ List.mem_cons_self))))))).cell 2
  have q154 := (R14.out.box (w.heap.size + 1 + 1, 28, [.int .i64 s3, .slice a3 n3 c3, .int .i64 1, .slice b3 m3 d3]) (List.mem_cons_of_mem _ (List.mem_cons_of_mem _ (List.mem_cons_of_mem _ (List.mem_cons_of_mem _ (List.mem_cons_of_mem _ (List.mem_cons_of_mem _ List.mem_cons_self))))))).cell 3
  simp only [List.getElem?_cons_succ, List.getElem?_cons_zero] at q151 q152 q153 q154
  go_wp2_with fail
  clear q147 q148 q149 q150 q151 q152 q153 q154
  refine (rfsame_t (R14.out.fr (v := .slice ax11 nx11 cx11) (u := .slice bx11 mx11 dx11) (r := v) (List.mem_cons_of_mem _ (List.mem_cons_of_mem _ (List.mem_cons_of_mem _ (List.mem_cons_of_mem _ List.mem_cons_self)))) (List.mem_cons_of_mem _ (List.mem_cons_of_mem _ (List.mem_cons_of_mem _ (List.mem_cons_of_mem _ (List.mem_cons_of_mem _ List.mem_cons_self))))) E11.out) (R14.out.fr (v := .slice a3 n3 c3) (u := .slice b3 m3 d3) (r := v) (List.mem_cons_of_mem _ (List.mem_cons_of_mem _ (List.mem_cons_of_mem _ (List.mem_cons_of_mem _ (List.mem_cons_of_mem _ (List.mem_cons_of_mem _ (List.mem_cons_of_mem _ (List.mem_cons_of_mem _ (List.mem_cons_of_mem _ (List.mem_cons_of_mem _ (List.mem_cons_of_mem _ (List.mem_cons_of_mem _ List.mem_cons_self)))))))))))) (List.mem_cons_of_mem _ (List.mem_cons_of_mem _ (List.mem_cons_of_mem _ (List.mem_cons_of_mem _ (List.mem_cons_of_mem _ (List.mem_cons_of_mem _ (List.mem_cons_of_mem _ (List.mem_cons_of_mem _ (List.mem_cons_of_mem _ (List.mem_cons_of_mem _ (List.mem_cons_of_mem _ (List.mem_cons_of_mem _ (List.mem_cons_of_mem _ List.mem_cons_self))))))))))))) E3.out) rfl).mono ?_
  rintro e w15 ⟨rfl, hb⟩
  have R15 := Lib.hid (R14.out.later hb)
  clear hb
  have q155 := (R15.out.box (w13.heap.size, 28, [.int .i64 sx13, .slice ax13 nx13 cx13, .int .i64 1, .slice bx13 mx13 dx13]) List.mem_cons_self).cell 0
  have q156 := (R15.out.box (w13.heap.size, 28, [.int .i64 sx13, .slice ax13 nx13 cx13, .int .i64 1, .slice bx13 mx13 dx13]) List.mem_cons_self).cell 1
  have q157 := (R15.out.box (w13.heap.size, 28, [.int .i64 sx13, .slice ax13 nx13 cx13, .int .i64 1, .slice bx13 mx13 dx13]) List.mem_cons_self).cell 2
  have q158 := (R15.out.box (w13.heap.size, 28, [.int .i64 sx13, .slice ax13 nx13 cx13, .int .i64 1, .slice bx13 mx13 dx13]) List.mem_cons_self).cell 3
  simp only [List.getElem?_cons_succ, List.getElem?_cons_zero] at q155 q156 q157 q158
  have q159 := (R15.out.box (w8.heap.size, 28, [.int .i64 sx8, .slice ax8 nx8 cx8, .int .i64 1, .slice bx8 mx8 dx8]) (List.mem_cons_of_mem _ (List.mem_cons_of_mem _ (List.mem_cons_of_mem _ (List.mem_cons_of_mem _ (List.mem_cons_of_mem _ List.mem_cons_self)))))).cell 0
  have q160 := (R15.out.box (w8.heap.size, 28, [.int .i64 sx8, .slice ax8 nx8 cx8, .int .i64 1, .slice bx8 mx8 dx8]) (List.mem_cons_of_mem _ (List.mem_cons_of_mem _ (List.mem_cons_of_mem _ (List.mem_cons_of_mem _ (List.mem_cons_of_mem _ List.mem_cons_self)))))).cell 1
  have q161 := (R15.out.box (w8.heap.size, 28, [.int .i64 sx8, .slice ax8 nx8 cx8, .int .i64 1, .slice bx8 mx8 dx8]) (List.mem_cons_of_mem _ (List.mem_cons_of_mem _ (List.mem_cons_of_mem _ (List.mem_cons_of_mem _ (List.mem_cons_of_mem _ List.mem_cons_self)))))).cell 2
  have q162 := (R15.out.box (w8.heap.size, 28, [.int .i64 sx8, .slice ax8 nx8 cx8, .int .i64 1, .slice bx8 mx8 dx8]) (List.mem_cons_of_mem _ (List.mem_cons_of_mem _ (List.mem_cons_of_mem _ (List.mem_cons_of_mem _ (List.mem_cons_of_mem _ List.mem_cons_self)))))).cell 3
  simp only [List.getElem?_cons_succ, List.getElem?_cons_zero] at q159 q160 q161 q162
  go_wp2_with fail
  clear q155 q156 q157 q158 q159 q160 q161 q162
  refine (rfsame_t (R15.out.fr (v := .slice ax13 nx13 cx13) (u := .slice bx13 mx13 dx13) (r := V) List.mem_cons_self (List.mem_cons_of_mem _ List.mem_cons_self) E13.out) (R15.out.fr (v := .slice ax8 nx8 cx8) (u := .slice bx8 mx8 dx8) (r := V) (List.mem_cons_of_mem _ (List.mem_cons_of_mem _ (List.mem_cons_of_mem _ (List.mem_cons_of_mem _ (List.mem_cons_of_mem _ (List.mem_cons_of_mem _ (List.mem_cons_of_mem _ (List.mem_cons_of_mem _ (List.mem_cons_of_mem _ (List.mem_cons_of_mem _ List.mem_cons_self)))))))))) (List.mem_cons_of_mem _ (List.mem_cons_of_mem _ (List.mem_cons_of_mem _ (List.mem_cons_of_mem _ (List.mem_cons_of_mem _ (List.mem_cons_of_mem _ (List.mem_cons_of_mem _ (List.mem_cons_of_mem _ (List.mem_cons_of_mem _ (List.mem_cons_of_mem _ (List.mem_cons_of_mem _ List.mem_cons_self))))))))))) E8.out) rfl).mono ?_
  rintro e w16 ⟨rfl, hb⟩
  have R16 := Lib.hid (R15.out.later hb)
  clear hb
  go_wp2_with fail
  go_ret
  exact ⟨rfl, R16.out.below⟩

theorem back_all {w : World} {f g : Nat → Int} {s1 t1 : Int} {a1 b1 : Option Addr} {c1 d1 : Nat} {l1 k1 : List Int} {s2 t2 : Int} {a2 b2 : Option Addr} {c2 d2 : Nat} {l2 k2 : List Int} {s3 t3 : Int} {a3 b3 : Option Addr} {c3 d3 : Nat} {l3 k3 : List Int} (he : EnvU w) (y1 : l1.length ≤ 9223372036854775807) (z1 : k1.length ≤ 9223372036854775807) (i1 : l1.length ≤ 1000000000 → Ints w (.slice a1 l1.length c1) l1) (j1 : k1.length ≤ 1000000000 → Ints w (.slice b1 k1.length d1) k1) (y2 : l2.length ≤ 9223372036854775807) (z2 : k2.length ≤ 9223372036854775807) (i2 : l2.length ≤ 1000000000 → Ints w (.slice a2 l2.length c2) l2) (j2 : k2.length ≤ 1000000000 → Ints w (.slice b2 k2.length d2) k2) (y3 : l3.length ≤ 9223372036854775807) (z3 : k3.length ≤ 9223372036854775807) (i3 : l3.length ≤ 1000000000 → Ints w (.slice a3 l3.length c3) l3) (j3 : k3.length ≤ 1000000000 → Ints w (.slice b3 k3.length d3) k3) :
    Calls Tryd.prog 3 #[.agg #[.int .i64 (f 0), .int .i64 (f 1), .int .i64 (f 2), .int .i64 (f 3), .int .i64 (f 4), .int .i64 (f 5), .int .i64 s1, .slice a1 l1.length c1, .int .i64 t1, .slice b1 k1.length d1], .agg #[.int .i64 (g 0), .int .i64 (g 1), .int .i64 (g 2), .int .i64 (g 3), .int .i64 (g 4), .int .i64 (g 5), .int .i64 s2, .slice a2 l2.length c2, .int .i64 t2, .slice b2 k2.length d2], .agg #[.int .i64 s3, .slice a3 l3.length c3, .int .i64 t3, .slice b3 k3.length d3]] w fun e w' => e = .returned (.bool true) ∧ RowKit.Below w.heap.size w w' := by
  rcases hq : ((decide ((l1.length : Int) ≤ 12) && decide ((k1.length : Int) ≤ 12)) && ((decide ((l2.length : Int) ≤ 12) && decide ((k2.length : Int) ≤ 12)) && (decide ((l3.length : Int) ≤ 6) && decide ((k3.length : Int) ≤ 6)))) with _ | _
  · exact back_no he y1 z1 y2 z2 y3 z3 hq
  · simp only [Bool.and_eq_true, decide_eq_true_eq] at hq
    have q1 : l1.length ≤ 12 := by omega
    have p1 : k1.length ≤ 12 := by omega
    have I1 := i1 (by omega)
    have J1 := j1 (by omega)
    have q2 : l2.length ≤ 12 := by omega
    have p2 : k2.length ≤ 12 := by omega
    have I2 := i2 (by omega)
    have J2 := j2 (by omega)
    have q3 : l3.length ≤ 6 := by omega
    have p3 : k3.length ≤ 6 := by omega
    have I3 := i3 (by omega)
    have J3 := j3 (by omega)
    rcases hv : (uR f s1 l1 t1 k1 && (uR g s2 l2 t2 k2 && fRightB s3 l3 t3 k3)) with _ | _
    · exact back_bad he I1 J1 q1 p1 rfl rfl I2 J2 q2 p2 rfl rfl I3 J3 q3 p3 rfl rfl hv
    · simp only [Bool.and_eq_true] at hv
      obtain ⟨v1, v2, v3⟩ := hv
      clear hq y1 z1 i1 j1 y2 z2 i2 j2 y3 z3 i3 j3
      obtain ⟨o1, x, rfl, rfl, rfl, rfl, g1⟩ := uR_good v1
      have F1 : Fr w _ _ _ x := ⟨⟨rfl, I1⟩, ⟨(den_sign x).symm, J1⟩⟩
      have Z1 : FSz 12 x := ⟨Sz.of q1, Sz.of p1⟩
      obtain ⟨o2, y, rfl, rfl, rfl, rfl, g2⟩ := uR_good v2
      have F2 : Fr w _ _ _ y := ⟨⟨rfl, I2⟩, ⟨(den_sign y).symm, J2⟩⟩
      have Z2 : FSz 12 y := ⟨Sz.of q2, Sz.of p2⟩
      obtain ⟨v, rfl, rfl, rfl, rfl⟩ := fright_of v3
      have F3 : Fr w _ _ _ v := ⟨⟨rfl, I3⟩, ⟨(den_sign v).symm, J3⟩⟩
      have Z3 : FSz 6 v := ⟨Sz.of q3, Sz.of p3⟩
      exact back_good he F1 Z1 q1 p1 o1 g1 F2 Z2 q2 p2 o2 g2 F3 Z3 q3 p3
end Go.Proofs.YtmhdhabgdlefjaaDoor.Un
