/- The contracts of unit: Right, Mul, Div, To, From, for any arguments; those of its reference at arguments that are not valid. -/
import Derived.Test.YtmhdhabgdlefjaaGreatDoorPTells25
import Derived.Test.YtmhdhabgdlefjaaGreatDoorPTells21
set_option maxRecDepth 100000
namespace Go.Proofs.YtmhdhabgdlefjaaGreatDoor.Un
open Go.RowKit Bi Dm

/-- A unit's Right, for any cells. -/
def uR (f : Nat → Int) (s : Int) (l : List Int) (t : Int) (k : List Int) : Bool := ok f && (fRightB s l t k && decide (0 < s))
theorem uR_is {f : Nat → Int} {r : Rat} : uR f r.num.sign (digs r.num.natAbs) 1 (digs (r.den : Int).natAbs) = (ok f && decide (0 < r.num.sign)) := by
  unfold uR; rw [fright_is, Bool.true_and]
theorem fsign_any {w : World} {s t : Int} {a b : Option Addr} {n c m d : Nat} {l k : List Int} (hl : Ints w (.slice a n c) l) (hk : Ints w (.slice b m d) k) (ll : l.length ≤ 1000) (lk : k.length ≤ 1000) :
    Calls Tryz.prog 50 #[.agg #[.int .i64 s, .slice a n c, .int .i64 t, .slice b m d]] w fun e w' => e = .returned (.int .i64 (if fRightB s l t k then s else 0)) ∧ RowKit.Below w.heap.size w w' := by
  rcases h : fRightB s l t k with _ | _
  · exact fsign_bad s a n c l t b m d k w hl hk (by omega) (by omega) h
  · obtain ⟨r, rfl, rfl, rfl, rfl⟩ := fright_of h
    exact fsign_k (⟨⟨rfl, hl⟩, ⟨(den_sign r).symm, hk⟩⟩ : Fr w _ _ _ r) ⟨Sz.of ll, Sz.of lk⟩
theorem rfsign_any {w : World} {s t : Int} {a b : Option Addr} {n c m d : Nat} {l k : List Int} (hl : Ints w (.slice a n c) l) (hk : Ints w (.slice b m d) k) (ll : l.length ≤ 1000) (lk : k.length ≤ 1000) :
    Calls Tryz.prog 51 #[.agg #[.int .i64 s, .slice a n c, .int .i64 t, .slice b m d]] w fun e w' => e = .returned (.int .i64 (if fRightB s l t k then s else 0)) ∧ RowKit.Below w.heap.size w w' := by
  rcases h : fRightB s l t k with _ | _
  · exact rfsign_bad s a n c l t b m d k w hl hk (by omega) (by omega) h
  · obtain ⟨r, rfl, rfl, rfl, rfl⟩ := fright_of h
    exact rfsign_k (⟨⟨rfl, hl⟩, ⟨(den_sign r).symm, hk⟩⟩ : Fr w _ _ _ r) ⟨Sz.of ll, Sz.of lk⟩

set_option maxHeartbeats 8000000 in
theorem uright_raw {w : World} {f : Nat → Int} {s1 t1 : Int} {a1 b1 : Option Addr} {n1 c1 m1 d1 : Nat} {l1 k1 : List Int} (hl1 : Ints w (.slice a1 n1 c1) l1) (hk1 : Ints w (.slice b1 m1 d1) k1) (ll1 : l1.length ≤ 1000) (lk1 : k1.length ≤ 1000) {r : Bool} (hr : uR f s1 l1 t1 k1 = r) :
    Calls Tryz.prog 22 #[.agg #[.int .i64 (f 0), .int .i64 (f 1), .int .i64 (f 2), .int .i64 (f 3), .int .i64 (f 4), .int .i64 (f 5), .int .i64 s1, .slice a1 n1 c1, .int .i64 t1, .slice b1 m1 d1]] w fun e w' => e = .returned (.bool r) ∧ RowKit.Below w.heap.size w w' := by
  have HD := Lib.hid (fun W => rightG f W)
  unfold uR at hr
  rcases ho : ok f with _ | _
  · rw [ho] at HD hr
    have LL1 := Lib.hid ll1
    have LK1 := Lib.hid lk1
    obtain rfl : false = r := hr
    have s0 := ((((Sf.start w).arg hk1).arg hl1).put [.int .i64 (f 0), .int .i64 (f 1), .int .i64 (f 2), .int .i64 (f 3), .int .i64 (f 4), .int .i64 (f 5), .int .i64 s1, .slice a1 n1 c1, .int .i64 t1, .slice b1 m1 d1] 30)
    try simp only [World.size_alloc] at s0
    have S0 := Lib.hid s0
    clear s0
    clear hl1 hk1 ll1 lk1 ho
    go_enter Tryz.func22, Tryz.ntmps22
    go_wp2_with fail
    refine (HD.out _).mono ?_
    rintro e w1 ⟨rfl, hb⟩
    have R1 := Lib.hid (S0.out.later hb)
    clear hb
    go_wp2_with fail
    go_ret
    exact ⟨rfl, R1.out.below⟩
  · rw [ho] at HD hr
    rcases hq : fRightB s1 l1 t1 k1 with _ | _
    · rw [hq] at hr
      have LL1 := Lib.hid ll1
      have LK1 := Lib.hid lk1
      have HQ := Lib.hid hq
      obtain rfl : false = r := hr
      have s0 := ((((Sf.start w).arg hk1).arg hl1).put [.int .i64 (f 0), .int .i64 (f 1), .int .i64 (f 2), .int .i64 (f 3), .int .i64 (f 4), .int .i64 (f 5), .int .i64 s1, .slice a1 n1 c1, .int .i64 t1, .slice b1 m1 d1] 30)
      try simp only [World.size_alloc] at s0
      have S0 := Lib.hid s0
      clear s0
      clear hl1 hk1 ll1 lk1 ho hq
      have HS : Hid (∀ W, RowKit.Below w.heap.size w W → Ints W (.slice a1 n1 c1) l1 → Ints W (.slice b1 m1 d1) k1 → Calls Tryz.prog 50 #[.agg #[.int .i64 s1, .slice a1 n1 c1, .int .i64 t1, .slice b1 m1 d1]] W fun e w' => e = .returned (.int .i64 0) ∧ RowKit.Below W.heap.size W w') := Lib.hid (fun W _ h1 h2 => by
        have := fsign_any (w := W) (s := s1) (t := t1) h1 h2 LL1.out LK1.out
        rw [HQ.out] at this; exact this)
      go_enter Tryz.func22, Tryz.ntmps22
      go_wp2_with fail
      refine (HD.out _).mono ?_
      rintro e w1 ⟨rfl, hb⟩
      have R1 := Lib.hid (S0.out.later hb)
      clear hb
      obtain ⟨q1, q2, q3, q4, q5, q6, q7, q8, q9, q10⟩ := Fb.cells10 (R1.out.box (w.heap.size, 30, [.int .i64 (f 0), .int .i64 (f 1), .int .i64 (f 2), .int .i64 (f 3), .int .i64 (f 4), .int .i64 (f 5), .int .i64 s1, .slice a1 n1 c1, .int .i64 t1, .slice b1 m1 d1]) mq0)
      go_wp2_with fail
      clear q1 q2 q3 q4 q5 q6 q7 q8 q9 q10
      refine (HS.out _ R1.out.below (R1.out.ints (.slice a1 n1 c1, l1) mq0) (R1.out.ints (.slice b1 m1 d1, k1) mq1)).mono ?_
      rintro e w2 ⟨rfl, hb⟩
      have R2 := Lib.hid (R1.out.later hb)
      clear hb
      go_wp2_with fail
      go_ret
      exact ⟨rfl, R2.out.below⟩
    · rw [hq] at hr
      have LL1 := Lib.hid ll1
      have LK1 := Lib.hid lk1
      have HQ := Lib.hid hq
      obtain rfl : decide (0 < s1) = r := by simpa using hr
      have s0 := ((((Sf.start w).arg hk1).arg hl1).put [.int .i64 (f 0), .int .i64 (f 1), .int .i64 (f 2), .int .i64 (f 3), .int .i64 (f 4), .int .i64 (f 5), .int .i64 s1, .slice a1 n1 c1, .int .i64 t1, .slice b1 m1 d1] 30)
      try simp only [World.size_alloc] at s0
      have S0 := Lib.hid s0
      clear s0
      clear hl1 hk1 ll1 lk1 ho hq
      have HS : Hid (∀ W, RowKit.Below w.heap.size w W → Ints W (.slice a1 n1 c1) l1 → Ints W (.slice b1 m1 d1) k1 → Calls Tryz.prog 50 #[.agg #[.int .i64 s1, .slice a1 n1 c1, .int .i64 t1, .slice b1 m1 d1]] W fun e w' => e = .returned (.int .i64 s1) ∧ RowKit.Below W.heap.size W w') := Lib.hid (fun W _ h1 h2 => by
        have := fsign_any (w := W) (s := s1) (t := t1) h1 h2 LL1.out LK1.out
        rw [HQ.out] at this; exact this)
      go_enter Tryz.func22, Tryz.ntmps22
      go_wp2_with fail
      refine (HD.out _).mono ?_
      rintro e w1 ⟨rfl, hb⟩
      have R1 := Lib.hid (S0.out.later hb)
      clear hb
      obtain ⟨q1, q2, q3, q4, q5, q6, q7, q8, q9, q10⟩ := Fb.cells10 (R1.out.box (w.heap.size, 30, [.int .i64 (f 0), .int .i64 (f 1), .int .i64 (f 2), .int .i64 (f 3), .int .i64 (f 4), .int .i64 (f 5), .int .i64 s1, .slice a1 n1 c1, .int .i64 t1, .slice b1 m1 d1]) mq0)
      go_wp2_with fail
      clear q1 q2 q3 q4 q5 q6 q7 q8 q9 q10
      refine (HS.out _ R1.out.below (R1.out.ints (.slice a1 n1 c1, l1) mq0) (R1.out.ints (.slice b1 m1 d1, k1) mq1)).mono ?_
      rintro e w2 ⟨rfl, hb⟩
      have R2 := Lib.hid (R1.out.later hb)
      clear hb
      go_wp2_with fail
      go_ret
      exact ⟨rfl, R2.out.below⟩
theorem uright_v {w : World} {f : Nat → Int} {s : Int} {aa ba : Option Addr} {na ca ma da : Nat} {r : Rat} (hf : ok f = true) (h : Fr w s (.slice aa na ca) (.slice ba ma da) r) (l : FSz 1000 r) {b : Bool} (hb : decide (0 < r.num.sign) = b) :
    Calls Tryz.prog 22 #[.agg (uc f s (.slice aa na ca) 1 (.slice ba ma da))] w fun e w' => e = .returned (.bool b) ∧ RowKit.Below w.heap.size w w' := by
  obtain ⟨⟨rfl, h1⟩, ⟨_, h2⟩⟩ := h
  exact uright_raw h1 h2 (digs_le l.1) (digs_le l.2) (by rw [uR_is, hf, hb]; rfl)

set_option maxHeartbeats 8000000 in
theorem u9rightR_raw {w : World} {f : Nat → Int} {s1 t1 : Int} {a1 b1 : Option Addr} {n1 c1 m1 d1 : Nat} {l1 k1 : List Int} (hl1 : Ints w (.slice a1 n1 c1) l1) (hk1 : Ints w (.slice b1 m1 d1) k1) (ll1 : l1.length ≤ 1000) (lk1 : k1.length ≤ 1000) {r : Bool} (hr : uR f s1 l1 t1 k1 = r) :
    Calls Tryz.prog 23 #[.agg #[.int .i64 (f 0), .int .i64 (f 1), .int .i64 (f 2), .int .i64 (f 3), .int .i64 (f 4), .int .i64 (f 5), .int .i64 s1, .slice a1 n1 c1, .int .i64 t1, .slice b1 m1 d1]] w fun e w' => e = .returned (.bool r) ∧ RowKit.Below w.heap.size w w' := by
  have HD := Lib.hid (fun W => r8right_any f W)
  unfold uR at hr
  rcases ho : ok f with _ | _
  · rw [ho] at HD hr
    have LL1 := Lib.hid ll1
    have LK1 := Lib.hid lk1
    obtain rfl : false = r := hr
    have s0 := ((((Sf.start w).arg hk1).arg hl1).put [.int .i64 (f 0), .int .i64 (f 1), .int .i64 (f 2), .int .i64 (f 3), .int .i64 (f 4), .int .i64 (f 5), .int .i64 s1, .slice a1 n1 c1, .int .i64 t1, .slice b1 m1 d1] 30)
    try simp only [World.size_alloc] at s0
    have S0 := Lib.hid s0
    clear s0
    clear hl1 hk1 ll1 lk1 ho
    go_enter Tryz.func23, Tryz.ntmps23
    go_wp2_with fail
    refine (HD.out _).mono ?_
    rintro e w1 ⟨rfl, hb⟩
    have R1 := Lib.hid (S0.out.later hb)
    clear hb
    go_wp2_with fail
    go_ret
    exact ⟨rfl, R1.out.below⟩
  · rw [ho] at HD hr
    rcases hq : fRightB s1 l1 t1 k1 with _ | _
    · rw [hq] at hr
      have LL1 := Lib.hid ll1
      have LK1 := Lib.hid lk1
      have HQ := Lib.hid hq
      obtain rfl : false = r := hr
      have s0 := ((((Sf.start w).arg hk1).arg hl1).put [.int .i64 (f 0), .int .i64 (f 1), .int .i64 (f 2), .int .i64 (f 3), .int .i64 (f 4), .int .i64 (f 5), .int .i64 s1, .slice a1 n1 c1, .int .i64 t1, .slice b1 m1 d1] 30)
      try simp only [World.size_alloc] at s0
      have S0 := Lib.hid s0
      clear s0
      clear hl1 hk1 ll1 lk1 ho hq
      have HS : Hid (∀ W, RowKit.Below w.heap.size w W → Ints W (.slice a1 n1 c1) l1 → Ints W (.slice b1 m1 d1) k1 → Calls Tryz.prog 51 #[.agg #[.int .i64 s1, .slice a1 n1 c1, .int .i64 t1, .slice b1 m1 d1]] W fun e w' => e = .returned (.int .i64 0) ∧ RowKit.Below W.heap.size W w') := Lib.hid (fun W _ h1 h2 => by
        have := rfsign_any (w := W) (s := s1) (t := t1) h1 h2 LL1.out LK1.out
        rw [HQ.out] at this; exact this)
      go_enter Tryz.func23, Tryz.ntmps23
      go_wp2_with fail
      refine (HD.out _).mono ?_
      rintro e w1 ⟨rfl, hb⟩
      have R1 := Lib.hid (S0.out.later hb)
      clear hb
      obtain ⟨q1, q2, q3, q4, q5, q6, q7, q8, q9, q10⟩ := Fb.cells10 (R1.out.box (w.heap.size, 30, [.int .i64 (f 0), .int .i64 (f 1), .int .i64 (f 2), .int .i64 (f 3), .int .i64 (f 4), .int .i64 (f 5), .int .i64 s1, .slice a1 n1 c1, .int .i64 t1, .slice b1 m1 d1]) mq0)
      go_wp2_with fail
      clear q1 q2 q3 q4 q5 q6 q7 q8 q9 q10
      refine (rfright_any s1 a1 n1 c1 l1 t1 b1 m1 d1 k1 _ (R1.out.ints (.slice a1 n1 c1, l1) mq0) (R1.out.ints (.slice b1 m1 d1, k1) mq1) (Nat.le_trans LL1.out (by decide)) (Nat.le_trans LK1.out (by decide)) _ HQ.out).mono ?_
      rintro e w2 ⟨rfl, hb⟩
      have R2 := Lib.hid (R1.out.later hb)
      clear hb
      go_wp2_with fail
      go_ret
      exact ⟨rfl, R2.out.below⟩
    · rw [hq] at hr
      have LL1 := Lib.hid ll1
      have LK1 := Lib.hid lk1
      have HQ := Lib.hid hq
      obtain rfl : decide (0 < s1) = r := by simpa using hr
      have s0 := ((((Sf.start w).arg hk1).arg hl1).put [.int .i64 (f 0), .int .i64 (f 1), .int .i64 (f 2), .int .i64 (f 3), .int .i64 (f 4), .int .i64 (f 5), .int .i64 s1, .slice a1 n1 c1, .int .i64 t1, .slice b1 m1 d1] 30)
      try simp only [World.size_alloc] at s0
      have S0 := Lib.hid s0
      clear s0
      clear hl1 hk1 ll1 lk1 ho hq
      have HS : Hid (∀ W, RowKit.Below w.heap.size w W → Ints W (.slice a1 n1 c1) l1 → Ints W (.slice b1 m1 d1) k1 → Calls Tryz.prog 51 #[.agg #[.int .i64 s1, .slice a1 n1 c1, .int .i64 t1, .slice b1 m1 d1]] W fun e w' => e = .returned (.int .i64 s1) ∧ RowKit.Below W.heap.size W w') := Lib.hid (fun W _ h1 h2 => by
        have := rfsign_any (w := W) (s := s1) (t := t1) h1 h2 LL1.out LK1.out
        rw [HQ.out] at this; exact this)
      go_enter Tryz.func23, Tryz.ntmps23
      go_wp2_with fail
      refine (HD.out _).mono ?_
      rintro e w1 ⟨rfl, hb⟩
      have R1 := Lib.hid (S0.out.later hb)
      clear hb
      obtain ⟨q1, q2, q3, q4, q5, q6, q7, q8, q9, q10⟩ := Fb.cells10 (R1.out.box (w.heap.size, 30, [.int .i64 (f 0), .int .i64 (f 1), .int .i64 (f 2), .int .i64 (f 3), .int .i64 (f 4), .int .i64 (f 5), .int .i64 s1, .slice a1 n1 c1, .int .i64 t1, .slice b1 m1 d1]) mq0)
      go_wp2_with fail
      clear q1 q2 q3 q4 q5 q6 q7 q8 q9 q10
      refine (rfright_any s1 a1 n1 c1 l1 t1 b1 m1 d1 k1 _ (R1.out.ints (.slice a1 n1 c1, l1) mq0) (R1.out.ints (.slice b1 m1 d1, k1) mq1) (Nat.le_trans LL1.out (by decide)) (Nat.le_trans LK1.out (by decide)) _ HQ.out).mono ?_
      rintro e w2 ⟨rfl, hb⟩
      have R2 := Lib.hid (R1.out.later hb)
      clear hb
      obtain ⟨q11, q12, q13, q14, q15, q16, q17, q18, q19, q20⟩ := Fb.cells10 (R2.out.box (w.heap.size, 30, [.int .i64 (f 0), .int .i64 (f 1), .int .i64 (f 2), .int .i64 (f 3), .int .i64 (f 4), .int .i64 (f 5), .int .i64 s1, .slice a1 n1 c1, .int .i64 t1, .slice b1 m1 d1]) mq0)
      go_wp2_with fail
      clear q11 q12 q13 q14 q15 q16 q17 q18 q19 q20
      refine (HS.out _ R2.out.below (R2.out.ints (.slice a1 n1 c1, l1) mq0) (R2.out.ints (.slice b1 m1 d1, k1) mq1)).mono ?_
      rintro e w3 ⟨rfl, hb⟩
      have R3 := Lib.hid (R2.out.later hb)
      clear hb
      go_wp2_with fail
      go_ret
      exact ⟨rfl, R3.out.below⟩
set_option maxHeartbeats 8000000 in
theorem umul_k {w : World} {f g V : Nat → Int} {s1 : Int} {a1 b1 : Option Addr} {n1 c1 m1 d1 : Nat} {x : Rat} {s2 : Int} {a2 b2 : Option Addr} {n2 c2 m2 d2 : Nat} {y : Rat} (hx : Fr w s1 (.slice a1 n1 c1) (.slice b1 m1 d1) x) (hy : Fr w s2 (.slice a2 n2 c2) (.slice b2 m2 d2) y) (lx : FSz 1000 x) (ly : FSz 1000 y) (hf : ok f = true) (hg : ok g = true) (px : decide (0 < x.num.sign) = true) (py : decide (0 < y.num.sign) = true) {r : Rat} (hr : x * y = r)
    (hv : mulR f g = DE V 0) :
    Calls Tryz.prog 12 #[.agg (uc f s1 (.slice a1 n1 c1) 1 (.slice b1 m1 d1)), .agg (uc g s2 (.slice a2 n2 c2) 1 (.slice b2 m2 d2))] w (UVE V r 0 w) := by
  have Ex := Lib.hid hx.1.1
  have Lx := Lib.hid lx
  have Ey := Lib.hid hy.1.1
  have Ly := Lib.hid ly
  have Of := Lib.hid hf
  have Og := Lib.hid hg
  have Px := Lib.hid px
  have Py := Lib.hid py
  have HRR := Lib.hid hr
  have HV := Lib.hid hv
  have s0 := ((((((((Sf.start w).arg hx.2.2).arg hx.1.2).arg hy.2.2).arg hy.1.2).put [.int .i64 (f 0), .int .i64 (f 1), .int .i64 (f 2), .int .i64 (f 3), .int .i64 (f 4), .int .i64 (f 5), .int .i64 s1, .slice a1 n1 c1, .int .i64 1, .slice b1 m1 d1] 30).put [.int .i64 (g 0), .int .i64 (g 1), .int .i64 (g 2), .int .i64 (g 3), .int .i64 (g 4), .int .i64 (g 5), .int .i64 s2, .slice a2 n2 c2, .int .i64 1, .slice b2 m2 d2] 30).put [.int .i64 0, .int .i64 0, .int .i64 0, .int .i64 0, .int .i64 0, .int .i64 0, .int .i64 0, .slice none 0 0, .int .i64 0, .slice none 0 0] 30)
  try simp only [World.size_alloc] at s0
  have S0 := Lib.hid s0
  clear s0
  have HD : Hid (∀ W, Calls Tryz.prog 26 #[.agg (cl f), .agg (cl g)] W (Gives (DE V 0) W)) := Lib.hid (fun W => by have := mul_any f g W; rwa [hv] at this)
  clear hx hy lx ly hf hg px py hr hv
  unfold uc
  unfold DE cl at HD
  go_enter Tryz.func12, Tryz.ntmps12
  go_wp2_with fail
  refine (uright_v Of.out (S0.out.fr (v := .slice a1 n1 c1) (u := .slice b1 m1 d1) (r := x) mq2 mq3 Ex.out) Lx.out Px.out).mono ?_
  rintro e w1 ⟨rfl, hb⟩
  have R1 := Lib.hid (S0.out.later hb)
  clear hb
  obtain ⟨q1, q2, q3, q4, q5, q6, q7, q8, q9, q10⟩ := Fb.cells10 (R1.out.box (w.heap.size + 1, 30, [.int .i64 (g 0), .int .i64 (g 1), .int .i64 (g 2), .int .i64 (g 3), .int .i64 (g 4), .int .i64 (g 5), .int .i64 s2, .slice a2 n2 c2, .int .i64 1, .slice b2 m2 d2]) mq1)
  go_wp2_with fail
  clear q1 q2 q3 q4 q5 q6 q7 q8 q9 q10
  refine (uright_v Og.out (R1.out.fr (v := .slice a2 n2 c2) (u := .slice b2 m2 d2) (r := y) mq0 mq1 Ey.out) Ly.out Py.out).mono ?_
  rintro e w2 ⟨rfl, hb⟩
  have R2 := Lib.hid (R1.out.later hb)
  clear hb
  obtain ⟨q11, q12, q13, q14, q15, q16, q17, q18, q19, q20⟩ := Fb.cells10 (R2.out.box (w.heap.size, 30, [.int .i64 (f 0), .int .i64 (f 1), .int .i64 (f 2), .int .i64 (f 3), .int .i64 (f 4), .int .i64 (f 5), .int .i64 s1, .slice a1 n1 c1, .int .i64 1, .slice b1 m1 d1]) mq2)
  obtain ⟨q21, q22, q23, q24, q25, q26, q27, q28, q29, q30⟩ := Fb.cells10 (R2.out.box (w.heap.size + 1, 30, [.int .i64 (g 0), .int .i64 (g 1), .int .i64 (g 2), .int .i64 (g 3), .int .i64 (g 4), .int .i64 (g 5), .int .i64 s2, .slice a2 n2 c2, .int .i64 1, .slice b2 m2 d2]) mq1)
  go_wp2_with fail
  clear q11 q12 q13 q14 q15 q16 q17 q18 q19 q20 q21 q22 q23 q24 q25 q26 q27 q28 q29 q30
  refine (HD.out _).mono ?_
  rintro e w3 ⟨rfl, hb⟩
  have R3 := Lib.hid (R2.out.later hb)
  clear hb
  have P31 := Lib.hid (R3.out.put [.int .i64 0, .int .i64 0, .int .i64 0, .int .i64 0, .int .i64 0, .int .i64 0] 23)
  have Q31 := Lib.hid (Sf.row (pre := []) P31.out [.int .i64 (V 0), .int .i64 (V 1), .int .i64 (V 2), .int .i64 (V 3), .int .i64 (V 4), .int .i64 (V 5)])
  obtain ⟨q32, q33, q34, q35, q36, q37, q38, q39, q40, q41⟩ := Fb.cells10 (Q31.out.box (w.heap.size, 30, [.int .i64 (f 0), .int .i64 (f 1), .int .i64 (f 2), .int .i64 (f 3), .int .i64 (f 4), .int .i64 (f 5), .int .i64 s1, .slice a1 n1 c1, .int .i64 1, .slice b1 m1 d1]) mq3)
  obtain ⟨q42, q43, q44, q45, q46, q47, q48, q49, q50, q51⟩ := Fb.cells10 (Q31.out.box (w.heap.size + 1, 30, [.int .i64 (g 0), .int .i64 (g 1), .int .i64 (g 2), .int .i64 (g 3), .int .i64 (g 4), .int .i64 (g 5), .int .i64 s2, .slice a2 n2 c2, .int .i64 1, .slice b2 m2 d2]) mq2)
  go_wp2_with (first | refine wpList_store_row rfl _ _ _ rfl _ #[.int .i64 (V 0), .int .i64 (V 1), .int .i64 (V 2), .int .i64 (V 3), .int .i64 (V 4), .int .i64 (V 5)] rfl rfl _ _ (P31.out.box _ List.mem_cons_self) (by kernel_rfl) rfl (by simp [Value.oneCell']) ?_)
  clear q32 q33 q34 q35 q36 q37 q38 q39 q40 q41 q42 q43 q44 q45 q46 q47 q48 q49 q50 q51
  refine (fmul_r (Q31.out.fr (v := .slice a1 n1 c1) (u := .slice b1 m1 d1) (r := x) mq2 mq3 Ex.out) (Q31.out.fr (v := .slice a2 n2 c2) (u := .slice b2 m2 d2) (r := y) mq0 mq1 Ey.out) Lx.out Ly.out HRR.out).mono ?_
  rintro e w4 ⟨sx4, ax4, nx4, cx4, bx4, mx4, dx4, rfl, hr, hb, hf, hg⟩
  have E4 := Lib.hid hr.1.1
  have R4 := Lib.hid (Q31.out.ret2 hb hr.1.2 hf hr.2.2 hg)
  have FF4 := Lib.hid (hf.mono Q31.out.below.size)
  have FG4 := Lib.hid (hg.mono Q31.out.below.size)
  clear hr hb hf hg
  have P52 := Lib.hid (R4.out.put [.int .i64 0, .slice none 0 0, .int .i64 0, .slice none 0 0] 28)
  have Q52 := Lib.hid (Sf.row (pre := []) P52.out [.int .i64 sx4, .slice ax4 nx4 cx4, .int .i64 1, .slice bx4 mx4 dx4])
  obtain ⟨q53, q54, q55, q56⟩ := Fb.cells4 (Q52.out.box (w4.heap.size, 28, [.int .i64 sx4, .slice ax4 nx4 cx4, .int .i64 1, .slice bx4 mx4 dx4]) mq0)
  obtain ⟨q57, q58, q59, q60, q61, q62⟩ := Fb.cells6 (Q52.out.box (w3.heap.size, 23, [.int .i64 (V 0), .int .i64 (V 1), .int .i64 (V 2), .int .i64 (V 3), .int .i64 (V 4), .int .i64 (V 5)]) mq1)
  have Q63 := Lib.hid (Sf.row (pre := [(w4.heap.size, 28, [.int .i64 sx4, .slice ax4 nx4 cx4, .int .i64 1, .slice bx4 mx4 dx4]), (w3.heap.size, 23, [.int .i64 (V 0), .int .i64 (V 1), .int .i64 (V 2), .int .i64 (V 3), .int .i64 (V 4), .int .i64 (V 5)])]) Q52.out [.int .i64 (V 0), .int .i64 (V 1), .int .i64 (V 2), .int .i64 (V 3), .int .i64 (V 4), .int .i64 (V 5), .int .i64 sx4, .slice ax4 nx4 cx4, .int .i64 1, .slice bx4 mx4 dx4])
  go_wp2_with (first | refine wpList_store_row rfl _ _ _ rfl _ #[.int .i64 sx4, .slice ax4 nx4 cx4, .int .i64 1, .slice bx4 mx4 dx4] rfl rfl _ _ (P52.out.box _ List.mem_cons_self) (by kernel_rfl) rfl (by simp [Value.oneCell']) ?_ | refine wpList_store_row rfl _ _ _ rfl _ #[.int .i64 (V 0), .int .i64 (V 1), .int .i64 (V 2), .int .i64 (V 3), .int .i64 (V 4), .int .i64 (V 5), .int .i64 sx4, .slice ax4 nx4 cx4, .int .i64 1, .slice bx4 mx4 dx4] rfl rfl _ _ (Q52.out.box _ mq2) (by kernel_rfl) rfl (by simp [Value.oneCell']) ?_)
  clear q53 q54 q55 q56 q57 q58 q59 q60 q61 q62
  refine bodyPost_ret (ret_row rfl _ _ _ _ rfl (run_loadVar_row _ _ _ _ _ (0, 0) _ (Q63.out.box _ mq2) Tryz.underlying30 rfl (by kernel_rfl))) rfl ⟨_, _, _, _, _, _, _, rfl, (Q63.out.fr (v := .slice ax4 nx4 cx4) (u := .slice bx4 mx4 dx4) (r := r) mq0 mq1 E4.out), Q63.out.below, FF4.out, FG4.out⟩

set_option maxHeartbeats 8000000 in
theorem umul_far {w : World} {f g : Nat → Int} {s1 : Int} {a1 b1 : Option Addr} {n1 c1 m1 d1 : Nat} {x : Rat} {s2 : Int} {a2 b2 : Option Addr} {n2 c2 m2 d2 : Nat} {y : Rat} (hx : Fr w s1 (.slice a1 n1 c1) (.slice b1 m1 d1) x) (hy : Fr w s2 (.slice a2 n2 c2) (.slice b2 m2 d2) y) (lx : FSz 1000 x) (ly : FSz 1000 y) (hf : ok f = true) (hg : ok g = true) (px : decide (0 < x.num.sign) = true) (py : decide (0 < y.num.sign) = true) {r : Rat} (hr : x * y = r)
    (hv : mulR f g = DE zf 3) :
    Calls Tryz.prog 12 #[.agg (uc f s1 (.slice a1 n1 c1) 1 (.slice b1 m1 d1)), .agg (uc g s2 (.slice a2 n2 c2) 1 (.slice b2 m2 d2))] w (UZE 3 w) := by
  have Ex := Lib.hid hx.1.1
  have Lx := Lib.hid lx
  have Ey := Lib.hid hy.1.1
  have Ly := Lib.hid ly
  have Of := Lib.hid hf
  have Og := Lib.hid hg
  have Px := Lib.hid px
  have Py := Lib.hid py
  have HRR := Lib.hid hr
  have HV := Lib.hid hv
  have s0 := ((((((((Sf.start w).arg hx.2.2).arg hx.1.2).arg hy.2.2).arg hy.1.2).put [.int .i64 (f 0), .int .i64 (f 1), .int .i64 (f 2), .int .i64 (f 3), .int .i64 (f 4), .int .i64 (f 5), .int .i64 s1, .slice a1 n1 c1, .int .i64 1, .slice b1 m1 d1] 30).put [.int .i64 (g 0), .int .i64 (g 1), .int .i64 (g 2), .int .i64 (g 3), .int .i64 (g 4), .int .i64 (g 5), .int .i64 s2, .slice a2 n2 c2, .int .i64 1, .slice b2 m2 d2] 30).put [.int .i64 0, .int .i64 0, .int .i64 0, .int .i64 0, .int .i64 0, .int .i64 0, .int .i64 0, .slice none 0 0, .int .i64 0, .slice none 0 0] 30)
  try simp only [World.size_alloc] at s0
  have S0 := Lib.hid s0
  clear s0
  have HD : Hid (∀ W, Calls Tryz.prog 26 #[.agg (cl f), .agg (cl g)] W (Gives (DE zf 3) W)) := Lib.hid (fun W => by have := mul_any f g W; rwa [hv] at this)
  clear hx hy lx ly hf hg px py hr hv
  unfold uc
  unfold DE cl at HD
  go_enter Tryz.func12, Tryz.ntmps12
  go_wp2_with fail
  refine (uright_v Of.out (S0.out.fr (v := .slice a1 n1 c1) (u := .slice b1 m1 d1) (r := x) mq2 mq3 Ex.out) Lx.out Px.out).mono ?_
  rintro e w1 ⟨rfl, hb⟩
  have R1 := Lib.hid (S0.out.later hb)
  clear hb
  obtain ⟨q1, q2, q3, q4, q5, q6, q7, q8, q9, q10⟩ := Fb.cells10 (R1.out.box (w.heap.size + 1, 30, [.int .i64 (g 0), .int .i64 (g 1), .int .i64 (g 2), .int .i64 (g 3), .int .i64 (g 4), .int .i64 (g 5), .int .i64 s2, .slice a2 n2 c2, .int .i64 1, .slice b2 m2 d2]) mq1)
  go_wp2_with fail
  clear q1 q2 q3 q4 q5 q6 q7 q8 q9 q10
  refine (uright_v Og.out (R1.out.fr (v := .slice a2 n2 c2) (u := .slice b2 m2 d2) (r := y) mq0 mq1 Ey.out) Ly.out Py.out).mono ?_
  rintro e w2 ⟨rfl, hb⟩
  have R2 := Lib.hid (R1.out.later hb)
  clear hb
  obtain ⟨q11, q12, q13, q14, q15, q16, q17, q18, q19, q20⟩ := Fb.cells10 (R2.out.box (w.heap.size, 30, [.int .i64 (f 0), .int .i64 (f 1), .int .i64 (f 2), .int .i64 (f 3), .int .i64 (f 4), .int .i64 (f 5), .int .i64 s1, .slice a1 n1 c1, .int .i64 1, .slice b1 m1 d1]) mq2)
  obtain ⟨q21, q22, q23, q24, q25, q26, q27, q28, q29, q30⟩ := Fb.cells10 (R2.out.box (w.heap.size + 1, 30, [.int .i64 (g 0), .int .i64 (g 1), .int .i64 (g 2), .int .i64 (g 3), .int .i64 (g 4), .int .i64 (g 5), .int .i64 s2, .slice a2 n2 c2, .int .i64 1, .slice b2 m2 d2]) mq1)
  go_wp2_with fail
  clear q11 q12 q13 q14 q15 q16 q17 q18 q19 q20 q21 q22 q23 q24 q25 q26 q27 q28 q29 q30
  refine (HD.out _).mono ?_
  rintro e w3 ⟨rfl, hb⟩
  have R3 := Lib.hid (R2.out.later hb)
  clear hb
  have P31 := Lib.hid (R3.out.put [.int .i64 0, .int .i64 0, .int .i64 0, .int .i64 0, .int .i64 0, .int .i64 0] 23)
  have Q31 := Lib.hid (Sf.row (pre := []) P31.out [.int .i64 (zf 0), .int .i64 (zf 1), .int .i64 (zf 2), .int .i64 (zf 3), .int .i64 (zf 4), .int .i64 (zf 5)])
  have Q32 := Lib.hid (Sf.row (pre := [(w3.heap.size, 23, [.int .i64 (zf 0), .int .i64 (zf 1), .int .i64 (zf 2), .int .i64 (zf 3), .int .i64 (zf 4), .int .i64 (zf 5)])]) Q31.out [.int .i64 0, .int .i64 0, .int .i64 0, .int .i64 0, .int .i64 0, .int .i64 0, .int .i64 0, .slice none 0 0, .int .i64 0, .slice none 0 0])
  go_wp2_with (first | refine wpList_store_row rfl _ _ _ rfl _ #[.int .i64 (zf 0), .int .i64 (zf 1), .int .i64 (zf 2), .int .i64 (zf 3), .int .i64 (zf 4), .int .i64 (zf 5)] rfl rfl _ _ (P31.out.box _ List.mem_cons_self) (by kernel_rfl) rfl (by simp [Value.oneCell']) ?_ | refine wpList_store_row rfl _ _ _ rfl _ #[.int .i64 0, .int .i64 0, .int .i64 0, .int .i64 0, .int .i64 0, .int .i64 0, .int .i64 0, .slice none 0 0, .int .i64 0, .slice none 0 0] rfl rfl _ _ (Q31.out.box _ mq1) (by kernel_rfl) rfl (by simp [Value.oneCell']) ?_)
  refine bodyPost_ret (ret_row rfl _ _ _ _ rfl (run_loadVar_row _ _ _ _ _ (0, 0) _ (Q32.out.box _ mq1) Tryz.underlying30 rfl (by kernel_rfl))) rfl ⟨rfl, Q32.out.below⟩

set_option maxHeartbeats 8000000 in
theorem udiv_k {w : World} {f g V : Nat → Int} {s1 : Int} {a1 b1 : Option Addr} {n1 c1 m1 d1 : Nat} {x : Rat} {s2 : Int} {a2 b2 : Option Addr} {n2 c2 m2 d2 : Nat} {y : Rat} (hx : Fr w s1 (.slice a1 n1 c1) (.slice b1 m1 d1) x) (hy : Fr w s2 (.slice a2 n2 c2) (.slice b2 m2 d2) y) (lx : FSz 1000 x) (ly : FSz 1000 y) (hf : ok f = true) (hg : ok g = true) (px : decide (0 < x.num.sign) = true) (py : decide (0 < y.num.sign) = true) (y0 : y ≠ 0) {r : Rat} (hr : x / y = r)
    (hv : divR f g = DE V 0) :
    Calls Tryz.prog 14 #[.agg (uc f s1 (.slice a1 n1 c1) 1 (.slice b1 m1 d1)), .agg (uc g s2 (.slice a2 n2 c2) 1 (.slice b2 m2 d2))] w (UVE V r 0 w) := by
  have Ex := Lib.hid hx.1.1
  have Lx := Lib.hid lx
  have Ey := Lib.hid hy.1.1
  have Ly := Lib.hid ly
  have Of := Lib.hid hf
  have Og := Lib.hid hg
  have Px := Lib.hid px
  have Py := Lib.hid py
  have HRR := Lib.hid hr
  have HV := Lib.hid hv
  have Y0 := Lib.hid y0
  have s0 := ((((((((Sf.start w).arg hx.2.2).arg hx.1.2).arg hy.2.2).arg hy.1.2).put [.int .i64 (f 0), .int .i64 (f 1), .int .i64 (f 2), .int .i64 (f 3), .int .i64 (f 4), .int .i64 (f 5), .int .i64 s1, .slice a1 n1 c1, .int .i64 1, .slice b1 m1 d1] 30).put [.int .i64 (g 0), .int .i64 (g 1), .int .i64 (g 2), .int .i64 (g 3), .int .i64 (g 4), .int .i64 (g 5), .int .i64 s2, .slice a2 n2 c2, .int .i64 1, .slice b2 m2 d2] 30).put [.int .i64 0, .int .i64 0, .int .i64 0, .int .i64 0, .int .i64 0, .int .i64 0, .int .i64 0, .slice none 0 0, .int .i64 0, .slice none 0 0] 30)
  try simp only [World.size_alloc] at s0
  have S0 := Lib.hid s0
  clear s0
  have HD : Hid (∀ W, Calls Tryz.prog 44 #[.agg (cl f), .agg (cl g)] W (Gives (DE V 0) W)) := Lib.hid (fun W => by have := div_any f g W; rwa [hv] at this)
  clear hx hy lx ly hf hg px py hr hv y0
  unfold uc
  unfold DE cl at HD
  go_enter Tryz.func14, Tryz.ntmps14
  go_wp2_with fail
  refine (uright_v Of.out (S0.out.fr (v := .slice a1 n1 c1) (u := .slice b1 m1 d1) (r := x) mq2 mq3 Ex.out) Lx.out Px.out).mono ?_
  rintro e w1 ⟨rfl, hb⟩
  have R1 := Lib.hid (S0.out.later hb)
  clear hb
  obtain ⟨q1, q2, q3, q4, q5, q6, q7, q8, q9, q10⟩ := Fb.cells10 (R1.out.box (w.heap.size + 1, 30, [.int .i64 (g 0), .int .i64 (g 1), .int .i64 (g 2), .int .i64 (g 3), .int .i64 (g 4), .int .i64 (g 5), .int .i64 s2, .slice a2 n2 c2, .int .i64 1, .slice b2 m2 d2]) mq1)
  go_wp2_with fail
  clear q1 q2 q3 q4 q5 q6 q7 q8 q9 q10
  refine (uright_v Og.out (R1.out.fr (v := .slice a2 n2 c2) (u := .slice b2 m2 d2) (r := y) mq0 mq1 Ey.out) Ly.out Py.out).mono ?_
  rintro e w2 ⟨rfl, hb⟩
  have R2 := Lib.hid (R1.out.later hb)
  clear hb
  obtain ⟨q11, q12, q13, q14, q15, q16, q17, q18, q19, q20⟩ := Fb.cells10 (R2.out.box (w.heap.size, 30, [.int .i64 (f 0), .int .i64 (f 1), .int .i64 (f 2), .int .i64 (f 3), .int .i64 (f 4), .int .i64 (f 5), .int .i64 s1, .slice a1 n1 c1, .int .i64 1, .slice b1 m1 d1]) mq2)
  obtain ⟨q21, q22, q23, q24, q25, q26, q27, q28, q29, q30⟩ := Fb.cells10 (R2.out.box (w.heap.size + 1, 30, [.int .i64 (g 0), .int .i64 (g 1), .int .i64 (g 2), .int .i64 (g 3), .int .i64 (g 4), .int .i64 (g 5), .int .i64 s2, .slice a2 n2 c2, .int .i64 1, .slice b2 m2 d2]) mq1)
  go_wp2_with fail
  clear q11 q12 q13 q14 q15 q16 q17 q18 q19 q20 q21 q22 q23 q24 q25 q26 q27 q28 q29 q30
  refine (HD.out _).mono ?_
  rintro e w3 ⟨rfl, hb⟩
  have R3 := Lib.hid (R2.out.later hb)
  clear hb
  have P31 := Lib.hid (R3.out.put [.int .i64 0, .int .i64 0, .int .i64 0, .int .i64 0, .int .i64 0, .int .i64 0] 23)
  have Q31 := Lib.hid (Sf.row (pre := []) P31.out [.int .i64 (V 0), .int .i64 (V 1), .int .i64 (V 2), .int .i64 (V 3), .int .i64 (V 4), .int .i64 (V 5)])
  obtain ⟨q32, q33, q34, q35, q36, q37, q38, q39, q40, q41⟩ := Fb.cells10 (Q31.out.box (w.heap.size, 30, [.int .i64 (f 0), .int .i64 (f 1), .int .i64 (f 2), .int .i64 (f 3), .int .i64 (f 4), .int .i64 (f 5), .int .i64 s1, .slice a1 n1 c1, .int .i64 1, .slice b1 m1 d1]) mq3)
  obtain ⟨q42, q43, q44, q45, q46, q47, q48, q49, q50, q51⟩ := Fb.cells10 (Q31.out.box (w.heap.size + 1, 30, [.int .i64 (g 0), .int .i64 (g 1), .int .i64 (g 2), .int .i64 (g 3), .int .i64 (g 4), .int .i64 (g 5), .int .i64 s2, .slice a2 n2 c2, .int .i64 1, .slice b2 m2 d2]) mq2)
  go_wp2_with (first | refine wpList_store_row rfl _ _ _ rfl _ #[.int .i64 (V 0), .int .i64 (V 1), .int .i64 (V 2), .int .i64 (V 3), .int .i64 (V 4), .int .i64 (V 5)] rfl rfl _ _ (P31.out.box _ List.mem_cons_self) (by kernel_rfl) rfl (by simp [Value.oneCell']) ?_)
  clear q32 q33 q34 q35 q36 q37 q38 q39 q40 q41 q42 q43 q44 q45 q46 q47 q48 q49 q50 q51
  refine (fdiv_r (Q31.out.fr (v := .slice a1 n1 c1) (u := .slice b1 m1 d1) (r := x) mq2 mq3 Ex.out) (Q31.out.fr (v := .slice a2 n2 c2) (u := .slice b2 m2 d2) (r := y) mq0 mq1 Ey.out) Lx.out Ly.out Y0.out HRR.out).mono ?_
  rintro e w4 ⟨sx4, ax4, nx4, cx4, bx4, mx4, dx4, rfl, hr, hb, hf, hg⟩
  have E4 := Lib.hid hr.1.1
  have R4 := Lib.hid (Q31.out.ret2 hb hr.1.2 hf hr.2.2 hg)
  have FF4 := Lib.hid (hf.mono Q31.out.below.size)
  have FG4 := Lib.hid (hg.mono Q31.out.below.size)
  clear hr hb hf hg
  have P52 := Lib.hid (R4.out.put [.int .i64 0, .slice none 0 0, .int .i64 0, .slice none 0 0] 28)
  have Q52 := Lib.hid (Sf.row (pre := []) P52.out [.int .i64 sx4, .slice ax4 nx4 cx4, .int .i64 1, .slice bx4 mx4 dx4])
  obtain ⟨q53, q54, q55, q56⟩ := Fb.cells4 (Q52.out.box (w4.heap.size, 28, [.int .i64 sx4, .slice ax4 nx4 cx4, .int .i64 1, .slice bx4 mx4 dx4]) mq0)
  obtain ⟨q57, q58, q59, q60, q61, q62⟩ := Fb.cells6 (Q52.out.box (w3.heap.size, 23, [.int .i64 (V 0), .int .i64 (V 1), .int .i64 (V 2), .int .i64 (V 3), .int .i64 (V 4), .int .i64 (V 5)]) mq1)
  have Q63 := Lib.hid (Sf.row (pre := [(w4.heap.size, 28, [.int .i64 sx4, .slice ax4 nx4 cx4, .int .i64 1, .slice bx4 mx4 dx4]), (w3.heap.size, 23, [.int .i64 (V 0), .int .i64 (V 1), .int .i64 (V 2), .int .i64 (V 3), .int .i64 (V 4), .int .i64 (V 5)])]) Q52.out [.int .i64 (V 0), .int .i64 (V 1), .int .i64 (V 2), .int .i64 (V 3), .int .i64 (V 4), .int .i64 (V 5), .int .i64 sx4, .slice ax4 nx4 cx4, .int .i64 1, .slice bx4 mx4 dx4])
  go_wp2_with (first | refine wpList_store_row rfl _ _ _ rfl _ #[.int .i64 sx4, .slice ax4 nx4 cx4, .int .i64 1, .slice bx4 mx4 dx4] rfl rfl _ _ (P52.out.box _ List.mem_cons_self) (by kernel_rfl) rfl (by simp [Value.oneCell']) ?_ | refine wpList_store_row rfl _ _ _ rfl _ #[.int .i64 (V 0), .int .i64 (V 1), .int .i64 (V 2), .int .i64 (V 3), .int .i64 (V 4), .int .i64 (V 5), .int .i64 sx4, .slice ax4 nx4 cx4, .int .i64 1, .slice bx4 mx4 dx4] rfl rfl _ _ (Q52.out.box _ mq2) (by kernel_rfl) rfl (by simp [Value.oneCell']) ?_)
  clear q53 q54 q55 q56 q57 q58 q59 q60 q61 q62
  refine bodyPost_ret (ret_row rfl _ _ _ _ rfl (run_loadVar_row _ _ _ _ _ (0, 0) _ (Q63.out.box _ mq2) Tryz.underlying30 rfl (by kernel_rfl))) rfl ⟨_, _, _, _, _, _, _, rfl, (Q63.out.fr (v := .slice ax4 nx4 cx4) (u := .slice bx4 mx4 dx4) (r := r) mq0 mq1 E4.out), Q63.out.below, FF4.out, FG4.out⟩

set_option maxHeartbeats 8000000 in
theorem udiv_far {w : World} {f g : Nat → Int} {s1 : Int} {a1 b1 : Option Addr} {n1 c1 m1 d1 : Nat} {x : Rat} {s2 : Int} {a2 b2 : Option Addr} {n2 c2 m2 d2 : Nat} {y : Rat} (hx : Fr w s1 (.slice a1 n1 c1) (.slice b1 m1 d1) x) (hy : Fr w s2 (.slice a2 n2 c2) (.slice b2 m2 d2) y) (lx : FSz 1000 x) (ly : FSz 1000 y) (hf : ok f = true) (hg : ok g = true) (px : decide (0 < x.num.sign) = true) (py : decide (0 < y.num.sign) = true) (y0 : y ≠ 0) {r : Rat} (hr : x / y = r)
    (hv : divR f g = DE zf 3) :
    Calls Tryz.prog 14 #[.agg (uc f s1 (.slice a1 n1 c1) 1 (.slice b1 m1 d1)), .agg (uc g s2 (.slice a2 n2 c2) 1 (.slice b2 m2 d2))] w (UZE 3 w) := by
  have Ex := Lib.hid hx.1.1
  have Lx := Lib.hid lx
  have Ey := Lib.hid hy.1.1
  have Ly := Lib.hid ly
  have Of := Lib.hid hf
  have Og := Lib.hid hg
  have Px := Lib.hid px
  have Py := Lib.hid py
  have HRR := Lib.hid hr
  have HV := Lib.hid hv
  have Y0 := Lib.hid y0
  have s0 := ((((((((Sf.start w).arg hx.2.2).arg hx.1.2).arg hy.2.2).arg hy.1.2).put [.int .i64 (f 0), .int .i64 (f 1), .int .i64 (f 2), .int .i64 (f 3), .int .i64 (f 4), .int .i64 (f 5), .int .i64 s1, .slice a1 n1 c1, .int .i64 1, .slice b1 m1 d1] 30).put [.int .i64 (g 0), .int .i64 (g 1), .int .i64 (g 2), .int .i64 (g 3), .int .i64 (g 4), .int .i64 (g 5), .int .i64 s2, .slice a2 n2 c2, .int .i64 1, .slice b2 m2 d2] 30).put [.int .i64 0, .int .i64 0, .int .i64 0, .int .i64 0, .int .i64 0, .int .i64 0, .int .i64 0, .slice none 0 0, .int .i64 0, .slice none 0 0] 30)
  try simp only [World.size_alloc] at s0
  have S0 := Lib.hid s0
  clear s0
  have HD : Hid (∀ W, Calls Tryz.prog 44 #[.agg (cl f), .agg (cl g)] W (Gives (DE zf 3) W)) := Lib.hid (fun W => by have := div_any f g W; rwa [hv] at this)
  clear hx hy lx ly hf hg px py hr hv y0
  unfold uc
  unfold DE cl at HD
  go_enter Tryz.func14, Tryz.ntmps14
  go_wp2_with fail
  refine (uright_v Of.out (S0.out.fr (v := .slice a1 n1 c1) (u := .slice b1 m1 d1) (r := x) mq2 mq3 Ex.out) Lx.out Px.out).mono ?_
  rintro e w1 ⟨rfl, hb⟩
  have R1 := Lib.hid (S0.out.later hb)
  clear hb
  obtain ⟨q1, q2, q3, q4, q5, q6, q7, q8, q9, q10⟩ := Fb.cells10 (R1.out.box (w.heap.size + 1, 30, [.int .i64 (g 0), .int .i64 (g 1), .int .i64 (g 2), .int .i64 (g 3), .int .i64 (g 4), .int .i64 (g 5), .int .i64 s2, .slice a2 n2 c2, .int .i64 1, .slice b2 m2 d2]) mq1)
  go_wp2_with fail
  clear q1 q2 q3 q4 q5 q6 q7 q8 q9 q10
  refine (uright_v Og.out (R1.out.fr (v := .slice a2 n2 c2) (u := .slice b2 m2 d2) (r := y) mq0 mq1 Ey.out) Ly.out Py.out).mono ?_
  rintro e w2 ⟨rfl, hb⟩
  have R2 := Lib.hid (R1.out.later hb)
  clear hb
  obtain ⟨q11, q12, q13, q14, q15, q16, q17, q18, q19, q20⟩ := Fb.cells10 (R2.out.box (w.heap.size, 30, [.int .i64 (f 0), .int .i64 (f 1), .int .i64 (f 2), .int .i64 (f 3), .int .i64 (f 4), .int .i64 (f 5), .int .i64 s1, .slice a1 n1 c1, .int .i64 1, .slice b1 m1 d1]) mq2)
  obtain ⟨q21, q22, q23, q24, q25, q26, q27, q28, q29, q30⟩ := Fb.cells10 (R2.out.box (w.heap.size + 1, 30, [.int .i64 (g 0), .int .i64 (g 1), .int .i64 (g 2), .int .i64 (g 3), .int .i64 (g 4), .int .i64 (g 5), .int .i64 s2, .slice a2 n2 c2, .int .i64 1, .slice b2 m2 d2]) mq1)
  go_wp2_with fail
  clear q11 q12 q13 q14 q15 q16 q17 q18 q19 q20 q21 q22 q23 q24 q25 q26 q27 q28 q29 q30
  refine (HD.out _).mono ?_
  rintro e w3 ⟨rfl, hb⟩
  have R3 := Lib.hid (R2.out.later hb)
  clear hb
  have P31 := Lib.hid (R3.out.put [.int .i64 0, .int .i64 0, .int .i64 0, .int .i64 0, .int .i64 0, .int .i64 0] 23)
  have Q31 := Lib.hid (Sf.row (pre := []) P31.out [.int .i64 (zf 0), .int .i64 (zf 1), .int .i64 (zf 2), .int .i64 (zf 3), .int .i64 (zf 4), .int .i64 (zf 5)])
  have Q32 := Lib.hid (Sf.row (pre := [(w3.heap.size, 23, [.int .i64 (zf 0), .int .i64 (zf 1), .int .i64 (zf 2), .int .i64 (zf 3), .int .i64 (zf 4), .int .i64 (zf 5)])]) Q31.out [.int .i64 0, .int .i64 0, .int .i64 0, .int .i64 0, .int .i64 0, .int .i64 0, .int .i64 0, .slice none 0 0, .int .i64 0, .slice none 0 0])
  go_wp2_with (first | refine wpList_store_row rfl _ _ _ rfl _ #[.int .i64 (zf 0), .int .i64 (zf 1), .int .i64 (zf 2), .int .i64 (zf 3), .int .i64 (zf 4), .int .i64 (zf 5)] rfl rfl _ _ (P31.out.box _ List.mem_cons_self) (by kernel_rfl) rfl (by simp [Value.oneCell']) ?_ | refine wpList_store_row rfl _ _ _ rfl _ #[.int .i64 0, .int .i64 0, .int .i64 0, .int .i64 0, .int .i64 0, .int .i64 0, .int .i64 0, .slice none 0 0, .int .i64 0, .slice none 0 0] rfl rfl _ _ (Q31.out.box _ mq1) (by kernel_rfl) rfl (by simp [Value.oneCell']) ?_)
  refine bodyPost_ret (ret_row rfl _ _ _ _ rfl (run_loadVar_row _ _ _ _ _ (0, 0) _ (Q32.out.box _ mq1) Tryz.underlying30 rfl (by kernel_rfl))) rfl ⟨rfl, Q32.out.below⟩

set_option maxHeartbeats 8000000 in
theorem uto_k {w : World} {f : Nat → Int} {s3 : Int} {a3 b3 : Option Addr} {n3 c3 m3 d3 : Nat} {v : Rat} {s1 : Int} {a1 b1 : Option Addr} {n1 c1 m1 d1 : Nat} {x : Rat} (hv : Fr w s3 (.slice a3 n3 c3) (.slice b3 m3 d3) v) (hx : Fr w s1 (.slice a1 n1 c1) (.slice b1 m1 d1) x) (lv : FSz 1000 v) (lx : FSz 1000 x) (hf : ok f = true) (px : decide (0 < x.num.sign) = true) (x0 : x ≠ 0) {r : Rat} (hr : v / x = r) :
    Calls Tryz.prog 17 #[.agg #[.int .i64 s3, .slice a3 n3 c3, .int .i64 1, .slice b3 m3 d3], .agg (uc f s1 (.slice a1 n1 c1) 1 (.slice b1 m1 d1))] w (FVE r 0 w) := by
  have Ev := Lib.hid hv.1.1
  have Lv := Lib.hid lv
  have Ex := Lib.hid hx.1.1
  have Lx := Lib.hid lx
  have Of := Lib.hid hf
  have Px := Lib.hid px
  have HRR := Lib.hid hr
  have X0 := Lib.hid x0
  have s0 := ((((((((Sf.start w).arg hv.2.2).arg hv.1.2).arg hx.2.2).arg hx.1.2).put [.int .i64 s3, .slice a3 n3 c3, .int .i64 1, .slice b3 m3 d3] 28).put [.int .i64 (f 0), .int .i64 (f 1), .int .i64 (f 2), .int .i64 (f 3), .int .i64 (f 4), .int .i64 (f 5), .int .i64 s1, .slice a1 n1 c1, .int .i64 1, .slice b1 m1 d1] 30).put [.int .i64 0, .slice none 0 0, .int .i64 0, .slice none 0 0] 28)
  try simp only [World.size_alloc] at s0
  have S0 := Lib.hid s0
  clear s0
  clear hv hx lv lx hf px hr x0
  unfold uc
  go_enter Tryz.func17, Tryz.ntmps17
  go_wp2_with fail
  refine (uright_v Of.out (S0.out.fr (v := .slice a1 n1 c1) (u := .slice b1 m1 d1) (r := x) mq0 mq1 Ex.out) Lx.out Px.out).mono ?_
  rintro e w1 ⟨rfl, hb⟩
  have R1 := Lib.hid (S0.out.later hb)
  clear hb
  obtain ⟨q1, q2, q3, q4⟩ := Fb.cells4 (R1.out.box (w.heap.size, 28, [.int .i64 s3, .slice a3 n3 c3, .int .i64 1, .slice b3 m3 d3]) mq2)
  obtain ⟨q5, q6, q7, q8, q9, q10, q11, q12, q13, q14⟩ := Fb.cells10 (R1.out.box (w.heap.size + 1, 30, [.int .i64 (f 0), .int .i64 (f 1), .int .i64 (f 2), .int .i64 (f 3), .int .i64 (f 4), .int .i64 (f 5), .int .i64 s1, .slice a1 n1 c1, .int .i64 1, .slice b1 m1 d1]) mq1)
  go_wp2_with fail
  clear q1 q2 q3 q4 q5 q6 q7 q8 q9 q10 q11 q12 q13 q14
  refine (fdiv_r (R1.out.fr (v := .slice a3 n3 c3) (u := .slice b3 m3 d3) (r := v) mq2 mq3 Ev.out) (R1.out.fr (v := .slice a1 n1 c1) (u := .slice b1 m1 d1) (r := x) mq0 mq1 Ex.out) Lv.out Lx.out X0.out HRR.out).mono ?_
  rintro e w2 ⟨sx2, ax2, nx2, cx2, bx2, mx2, dx2, rfl, hr, hb, hf, hg⟩
  have E2 := Lib.hid hr.1.1
  have R2 := Lib.hid (R1.out.ret2 hb hr.1.2 hf hr.2.2 hg)
  have FF2 := Lib.hid (hf.mono R1.out.below.size)
  have FG2 := Lib.hid (hg.mono R1.out.below.size)
  clear hr hb hf hg
  have Q15 := Lib.hid (Sf.row (pre := []) R2.out [.int .i64 sx2, .slice ax2 nx2 cx2, .int .i64 1, .slice bx2 mx2 dx2])
  go_wp2_with (first | refine wpList_store_row rfl _ _ _ rfl _ #[.int .i64 sx2, .slice ax2 nx2 cx2, .int .i64 1, .slice bx2 mx2 dx2] rfl rfl _ _ (R2.out.box _ mq0) (by kernel_rfl) rfl (by simp [Value.oneCell']) ?_)
  refine bodyPost_ret (ret_row rfl _ _ _ _ rfl (run_loadVar_row _ _ _ _ _ (0, 0) _ (Q15.out.box _ mq0) Tryz.underlying28 rfl (by kernel_rfl))) rfl ⟨_, _, _, _, _, _, _, rfl, (Q15.out.fr (v := .slice ax2 nx2 cx2) (u := .slice bx2 mx2 dx2) (r := r) mq0 mq1 E2.out), Q15.out.below, FF2.out, FG2.out⟩

set_option maxHeartbeats 8000000 in
theorem ufrom_k {w : World} {f : Nat → Int} {s3 : Int} {a3 b3 : Option Addr} {n3 c3 m3 d3 : Nat} {v : Rat} {s1 : Int} {a1 b1 : Option Addr} {n1 c1 m1 d1 : Nat} {x : Rat} (hv : Fr w s3 (.slice a3 n3 c3) (.slice b3 m3 d3) v) (hx : Fr w s1 (.slice a1 n1 c1) (.slice b1 m1 d1) x) (lv : FSz 1000 v) (lx : FSz 1000 x) (hf : ok f = true) (px : decide (0 < x.num.sign) = true) {r : Rat} (hr : v * x = r) :
    Calls Tryz.prog 19 #[.agg #[.int .i64 s3, .slice a3 n3 c3, .int .i64 1, .slice b3 m3 d3], .agg (uc f s1 (.slice a1 n1 c1) 1 (.slice b1 m1 d1))] w (FVE r 0 w) := by
  have Ev := Lib.hid hv.1.1
  have Lv := Lib.hid lv
  have Ex := Lib.hid hx.1.1
  have Lx := Lib.hid lx
  have Of := Lib.hid hf
  have Px := Lib.hid px
  have HRR := Lib.hid hr
  have s0 := ((((((((Sf.start w).arg hv.2.2).arg hv.1.2).arg hx.2.2).arg hx.1.2).put [.int .i64 s3, .slice a3 n3 c3, .int .i64 1, .slice b3 m3 d3] 28).put [.int .i64 (f 0), .int .i64 (f 1), .int .i64 (f 2), .int .i64 (f 3), .int .i64 (f 4), .int .i64 (f 5), .int .i64 s1, .slice a1 n1 c1, .int .i64 1, .slice b1 m1 d1] 30).put [.int .i64 0, .slice none 0 0, .int .i64 0, .slice none 0 0] 28)
  try simp only [World.size_alloc] at s0
  have S0 := Lib.hid s0
  clear s0
  clear hv hx lv lx hf px hr
  unfold uc
  go_enter Tryz.func19, Tryz.ntmps19
  go_wp2_with fail
  refine (uright_v Of.out (S0.out.fr (v := .slice a1 n1 c1) (u := .slice b1 m1 d1) (r := x) mq0 mq1 Ex.out) Lx.out Px.out).mono ?_
  rintro e w1 ⟨rfl, hb⟩
  have R1 := Lib.hid (S0.out.later hb)
  clear hb
  obtain ⟨q1, q2, q3, q4⟩ := Fb.cells4 (R1.out.box (w.heap.size, 28, [.int .i64 s3, .slice a3 n3 c3, .int .i64 1, .slice b3 m3 d3]) mq2)
  obtain ⟨q5, q6, q7, q8, q9, q10, q11, q12, q13, q14⟩ := Fb.cells10 (R1.out.box (w.heap.size + 1, 30, [.int .i64 (f 0), .int .i64 (f 1), .int .i64 (f 2), .int .i64 (f 3), .int .i64 (f 4), .int .i64 (f 5), .int .i64 s1, .slice a1 n1 c1, .int .i64 1, .slice b1 m1 d1]) mq1)
  go_wp2_with fail
  clear q1 q2 q3 q4 q5 q6 q7 q8 q9 q10 q11 q12 q13 q14
  refine (fmul_r (R1.out.fr (v := .slice a3 n3 c3) (u := .slice b3 m3 d3) (r := v) mq2 mq3 Ev.out) (R1.out.fr (v := .slice a1 n1 c1) (u := .slice b1 m1 d1) (r := x) mq0 mq1 Ex.out) Lv.out Lx.out HRR.out).mono ?_
  rintro e w2 ⟨sx2, ax2, nx2, cx2, bx2, mx2, dx2, rfl, hr, hb, hf, hg⟩
  have E2 := Lib.hid hr.1.1
  have R2 := Lib.hid (R1.out.ret2 hb hr.1.2 hf hr.2.2 hg)
  have FF2 := Lib.hid (hf.mono R1.out.below.size)
  have FG2 := Lib.hid (hg.mono R1.out.below.size)
  clear hr hb hf hg
  have Q15 := Lib.hid (Sf.row (pre := []) R2.out [.int .i64 sx2, .slice ax2 nx2 cx2, .int .i64 1, .slice bx2 mx2 dx2])
  go_wp2_with (first | refine wpList_store_row rfl _ _ _ rfl _ #[.int .i64 sx2, .slice ax2 nx2 cx2, .int .i64 1, .slice bx2 mx2 dx2] rfl rfl _ _ (R2.out.box _ mq0) (by kernel_rfl) rfl (by simp [Value.oneCell']) ?_)
  refine bodyPost_ret (ret_row rfl _ _ _ _ rfl (run_loadVar_row _ _ _ _ _ (0, 0) _ (Q15.out.box _ mq0) Tryz.underlying28 rfl (by kernel_rfl))) rfl ⟨_, _, _, _, _, _, _, rfl, (Q15.out.fr (v := .slice ax2 nx2 cx2) (u := .slice bx2 mx2 dx2) (r := r) mq0 mq1 E2.out), Q15.out.below, FF2.out, FG2.out⟩

set_option maxHeartbeats 8000000 in
theorem umul_bad {w : World} {f g : Nat → Int} {s1 t1 : Int} {a1 b1 : Option Addr} {n1 c1 m1 d1 : Nat} {l1 k1 : List Int} {s2 t2 : Int} {a2 b2 : Option Addr} {n2 c2 m2 d2 : Nat} {l2 k2 : List Int} (hl1 : Ints w (.slice a1 n1 c1) l1) (hk1 : Ints w (.slice b1 m1 d1) k1) (ll1 : l1.length ≤ 1000) (lk1 : k1.length ≤ 1000) (hl2 : Ints w (.slice a2 n2 c2) l2) (hk2 : Ints w (.slice b2 m2 d2) k2) (ll2 : l2.length ≤ 1000) (lk2 : k2.length ≤ 1000) (hr : (uR f s1 l1 t1 k1 && uR g s2 l2 t2 k2) = false) :
    Calls Tryz.prog 12 #[.agg #[.int .i64 (f 0), .int .i64 (f 1), .int .i64 (f 2), .int .i64 (f 3), .int .i64 (f 4), .int .i64 (f 5), .int .i64 s1, .slice a1 n1 c1, .int .i64 t1, .slice b1 m1 d1], .agg #[.int .i64 (g 0), .int .i64 (g 1), .int .i64 (g 2), .int .i64 (g 3), .int .i64 (g 4), .int .i64 (g 5), .int .i64 s2, .slice a2 n2 c2, .int .i64 t2, .slice b2 m2 d2]] w (UZE 1 w) := by
  unfold UZE uc
  rcases ea : uR f s1 l1 t1 k1 with _ | _
  · skip
    have LL1 := Lib.hid ll1
    have LK1 := Lib.hid lk1
    have LL2 := Lib.hid ll2
    have LK2 := Lib.hid lk2
    have EA := Lib.hid ea
    have s0 := ((((((((Sf.start w).arg hk1).arg hl1).arg hk2).arg hl2).put [.int .i64 (f 0), .int .i64 (f 1), .int .i64 (f 2), .int .i64 (f 3), .int .i64 (f 4), .int .i64 (f 5), .int .i64 s1, .slice a1 n1 c1, .int .i64 t1, .slice b1 m1 d1] 30).put [.int .i64 (g 0), .int .i64 (g 1), .int .i64 (g 2), .int .i64 (g 3), .int .i64 (g 4), .int .i64 (g 5), .int .i64 s2, .slice a2 n2 c2, .int .i64 t2, .slice b2 m2 d2] 30).put [.int .i64 0, .int .i64 0, .int .i64 0, .int .i64 0, .int .i64 0, .int .i64 0, .int .i64 0, .slice none 0 0, .int .i64 0, .slice none 0 0] 30)
    try simp only [World.size_alloc] at s0
    have S0 := Lib.hid s0
    clear s0
    clear hr ea hl1 hk1 ll1 lk1 hl2 hk2 ll2 lk2
    go_enter Tryz.func12, Tryz.ntmps12
    go_wp2_with fail
    refine (uright_raw (S0.out.ints (.slice a1 n1 c1, l1) mq2) (S0.out.ints (.slice b1 m1 d1, k1) mq3) LL1.out LK1.out EA.out).mono ?_
    rintro e w1 ⟨rfl, hb⟩
    have R1 := Lib.hid (S0.out.later hb)
    clear hb
    have Q1 := Lib.hid (Sf.row (pre := []) R1.out [.int .i64 0, .int .i64 0, .int .i64 0, .int .i64 0, .int .i64 0, .int .i64 0, .int .i64 0, .slice none 0 0, .int .i64 0, .slice none 0 0])
    go_wp2_with (first | refine wpList_store_row rfl _ _ _ rfl _ #[.int .i64 0, .int .i64 0, .int .i64 0, .int .i64 0, .int .i64 0, .int .i64 0, .int .i64 0, .slice none 0 0, .int .i64 0, .slice none 0 0] rfl rfl _ _ (R1.out.box _ mq0) (by kernel_rfl) rfl (by simp [Value.oneCell']) ?_)
    refine bodyPost_ret (ret_row rfl _ _ _ _ rfl (run_loadVar_row _ _ _ _ _ (0, 0) _ (Q1.out.box _ mq0) Tryz.underlying30 rfl (by kernel_rfl))) rfl ⟨rfl, Q1.out.below⟩
  · have eb : uR g s2 l2 t2 k2 = false := by rw [ea] at hr; simpa using hr
    have LL1 := Lib.hid ll1
    have LK1 := Lib.hid lk1
    have LL2 := Lib.hid ll2
    have LK2 := Lib.hid lk2
    have EA := Lib.hid ea
    have EB := Lib.hid eb
    have s0 := ((((((((Sf.start w).arg hk1).arg hl1).arg hk2).arg hl2).put [.int .i64 (f 0), .int .i64 (f 1), .int .i64 (f 2), .int .i64 (f 3), .int .i64 (f 4), .int .i64 (f 5), .int .i64 s1, .slice a1 n1 c1, .int .i64 t1, .slice b1 m1 d1] 30).put [.int .i64 (g 0), .int .i64 (g 1), .int .i64 (g 2), .int .i64 (g 3), .int .i64 (g 4), .int .i64 (g 5), .int .i64 s2, .slice a2 n2 c2, .int .i64 t2, .slice b2 m2 d2] 30).put [.int .i64 0, .int .i64 0, .int .i64 0, .int .i64 0, .int .i64 0, .int .i64 0, .int .i64 0, .slice none 0 0, .int .i64 0, .slice none 0 0] 30)
    try simp only [World.size_alloc] at s0
    have S0 := Lib.hid s0
    clear s0
    clear hr ea hl1 hk1 ll1 lk1 hl2 hk2 ll2 lk2 eb
    go_enter Tryz.func12, Tryz.ntmps12
    go_wp2_with fail
    refine (uright_raw (S0.out.ints (.slice a1 n1 c1, l1) mq2) (S0.out.ints (.slice b1 m1 d1, k1) mq3) LL1.out LK1.out EA.out).mono ?_
    rintro e w1 ⟨rfl, hb⟩
    have R1 := Lib.hid (S0.out.later hb)
    clear hb
    obtain ⟨q1, q2, q3, q4, q5, q6, q7, q8, q9, q10⟩ := Fb.cells10 (R1.out.box (w.heap.size + 1, 30, [.int .i64 (g 0), .int .i64 (g 1), .int .i64 (g 2), .int .i64 (g 3), .int .i64 (g 4), .int .i64 (g 5), .int .i64 s2, .slice a2 n2 c2, .int .i64 t2, .slice b2 m2 d2]) mq1)
    go_wp2_with fail
    clear q1 q2 q3 q4 q5 q6 q7 q8 q9 q10
    refine (uright_raw (R1.out.ints (.slice a2 n2 c2, l2) mq0) (R1.out.ints (.slice b2 m2 d2, k2) mq1) LL2.out LK2.out EB.out).mono ?_
    rintro e w2 ⟨rfl, hb⟩
    have R2 := Lib.hid (R1.out.later hb)
    clear hb
    have Q11 := Lib.hid (Sf.row (pre := []) R2.out [.int .i64 0, .int .i64 0, .int .i64 0, .int .i64 0, .int .i64 0, .int .i64 0, .int .i64 0, .slice none 0 0, .int .i64 0, .slice none 0 0])
    go_wp2_with (first | refine wpList_store_row rfl _ _ _ rfl _ #[.int .i64 0, .int .i64 0, .int .i64 0, .int .i64 0, .int .i64 0, .int .i64 0, .int .i64 0, .slice none 0 0, .int .i64 0, .slice none 0 0] rfl rfl _ _ (R2.out.box _ mq0) (by kernel_rfl) rfl (by simp [Value.oneCell']) ?_)
    refine bodyPost_ret (ret_row rfl _ _ _ _ rfl (run_loadVar_row _ _ _ _ _ (0, 0) _ (Q11.out.box _ mq0) Tryz.underlying30 rfl (by kernel_rfl))) rfl ⟨rfl, Q11.out.below⟩

set_option maxHeartbeats 8000000 in
theorem udiv_bad {w : World} {f g : Nat → Int} {s1 t1 : Int} {a1 b1 : Option Addr} {n1 c1 m1 d1 : Nat} {l1 k1 : List Int} {s2 t2 : Int} {a2 b2 : Option Addr} {n2 c2 m2 d2 : Nat} {l2 k2 : List Int} (hl1 : Ints w (.slice a1 n1 c1) l1) (hk1 : Ints w (.slice b1 m1 d1) k1) (ll1 : l1.length ≤ 1000) (lk1 : k1.length ≤ 1000) (hl2 : Ints w (.slice a2 n2 c2) l2) (hk2 : Ints w (.slice b2 m2 d2) k2) (ll2 : l2.length ≤ 1000) (lk2 : k2.length ≤ 1000) (hr : (uR f s1 l1 t1 k1 && uR g s2 l2 t2 k2) = false) :
    Calls Tryz.prog 14 #[.agg #[.int .i64 (f 0), .int .i64 (f 1), .int .i64 (f 2), .int .i64 (f 3), .int .i64 (f 4), .int .i64 (f 5), .int .i64 s1, .slice a1 n1 c1, .int .i64 t1, .slice b1 m1 d1], .agg #[.int .i64 (g 0), .int .i64 (g 1), .int .i64 (g 2), .int .i64 (g 3), .int .i64 (g 4), .int .i64 (g 5), .int .i64 s2, .slice a2 n2 c2, .int .i64 t2, .slice b2 m2 d2]] w (UZE 1 w) := by
  unfold UZE uc
  rcases ea : uR f s1 l1 t1 k1 with _ | _
  · skip
    have LL1 := Lib.hid ll1
    have LK1 := Lib.hid lk1
    have LL2 := Lib.hid ll2
    have LK2 := Lib.hid lk2
    have EA := Lib.hid ea
    have s0 := ((((((((Sf.start w).arg hk1).arg hl1).arg hk2).arg hl2).put [.int .i64 (f 0), .int .i64 (f 1), .int .i64 (f 2), .int .i64 (f 3), .int .i64 (f 4), .int .i64 (f 5), .int .i64 s1, .slice a1 n1 c1, .int .i64 t1, .slice b1 m1 d1] 30).put [.int .i64 (g 0), .int .i64 (g 1), .int .i64 (g 2), .int .i64 (g 3), .int .i64 (g 4), .int .i64 (g 5), .int .i64 s2, .slice a2 n2 c2, .int .i64 t2, .slice b2 m2 d2] 30).put [.int .i64 0, .int .i64 0, .int .i64 0, .int .i64 0, .int .i64 0, .int .i64 0, .int .i64 0, .slice none 0 0, .int .i64 0, .slice none 0 0] 30)
    try simp only [World.size_alloc] at s0
    have S0 := Lib.hid s0
    clear s0
    clear hr ea hl1 hk1 ll1 lk1 hl2 hk2 ll2 lk2
    go_enter Tryz.func14, Tryz.ntmps14
    go_wp2_with fail
    refine (uright_raw (S0.out.ints (.slice a1 n1 c1, l1) mq2) (S0.out.ints (.slice b1 m1 d1, k1) mq3) LL1.out LK1.out EA.out).mono ?_
    rintro e w1 ⟨rfl, hb⟩
    have R1 := Lib.hid (S0.out.later hb)
    clear hb
    have Q1 := Lib.hid (Sf.row (pre := []) R1.out [.int .i64 0, .int .i64 0, .int .i64 0, .int .i64 0, .int .i64 0, .int .i64 0, .int .i64 0, .slice none 0 0, .int .i64 0, .slice none 0 0])
    go_wp2_with (first | refine wpList_store_row rfl _ _ _ rfl _ #[.int .i64 0, .int .i64 0, .int .i64 0, .int .i64 0, .int .i64 0, .int .i64 0, .int .i64 0, .slice none 0 0, .int .i64 0, .slice none 0 0] rfl rfl _ _ (R1.out.box _ mq0) (by kernel_rfl) rfl (by simp [Value.oneCell']) ?_)
    refine bodyPost_ret (ret_row rfl _ _ _ _ rfl (run_loadVar_row _ _ _ _ _ (0, 0) _ (Q1.out.box _ mq0) Tryz.underlying30 rfl (by kernel_rfl))) rfl ⟨rfl, Q1.out.below⟩
  · have eb : uR g s2 l2 t2 k2 = false := by rw [ea] at hr; simpa using hr
    have LL1 := Lib.hid ll1
    have LK1 := Lib.hid lk1
    have LL2 := Lib.hid ll2
    have LK2 := Lib.hid lk2
    have EA := Lib.hid ea
    have EB := Lib.hid eb
    have s0 := ((((((((Sf.start w).arg hk1).arg hl1).arg hk2).arg hl2).put [.int .i64 (f 0), .int .i64 (f 1), .int .i64 (f 2), .int .i64 (f 3), .int .i64 (f 4), .int .i64 (f 5), .int .i64 s1, .slice a1 n1 c1, .int .i64 t1, .slice b1 m1 d1] 30).put [.int .i64 (g 0), .int .i64 (g 1), .int .i64 (g 2), .int .i64 (g 3), .int .i64 (g 4), .int .i64 (g 5), .int .i64 s2, .slice a2 n2 c2, .int .i64 t2, .slice b2 m2 d2] 30).put [.int .i64 0, .int .i64 0, .int .i64 0, .int .i64 0, .int .i64 0, .int .i64 0, .int .i64 0, .slice none 0 0, .int .i64 0, .slice none 0 0] 30)
    try simp only [World.size_alloc] at s0
    have S0 := Lib.hid s0
    clear s0
    clear hr ea hl1 hk1 ll1 lk1 hl2 hk2 ll2 lk2 eb
    go_enter Tryz.func14, Tryz.ntmps14
    go_wp2_with fail
    refine (uright_raw (S0.out.ints (.slice a1 n1 c1, l1) mq2) (S0.out.ints (.slice b1 m1 d1, k1) mq3) LL1.out LK1.out EA.out).mono ?_
    rintro e w1 ⟨rfl, hb⟩
    have R1 := Lib.hid (S0.out.later hb)
    clear hb
    obtain ⟨q1, q2, q3, q4, q5, q6, q7, q8, q9, q10⟩ := Fb.cells10 (R1.out.box (w.heap.size + 1, 30, [.int .i64 (g 0), .int .i64 (g 1), .int .i64 (g 2), .int .i64 (g 3), .int .i64 (g 4), .int .i64 (g 5), .int .i64 s2, .slice a2 n2 c2, .int .i64 t2, .slice b2 m2 d2]) mq1)
    go_wp2_with fail
    clear q1 q2 q3 q4 q5 q6 q7 q8 q9 q10
    refine (uright_raw (R1.out.ints (.slice a2 n2 c2, l2) mq0) (R1.out.ints (.slice b2 m2 d2, k2) mq1) LL2.out LK2.out EB.out).mono ?_
    rintro e w2 ⟨rfl, hb⟩
    have R2 := Lib.hid (R1.out.later hb)
    clear hb
    have Q11 := Lib.hid (Sf.row (pre := []) R2.out [.int .i64 0, .int .i64 0, .int .i64 0, .int .i64 0, .int .i64 0, .int .i64 0, .int .i64 0, .slice none 0 0, .int .i64 0, .slice none 0 0])
    go_wp2_with (first | refine wpList_store_row rfl _ _ _ rfl _ #[.int .i64 0, .int .i64 0, .int .i64 0, .int .i64 0, .int .i64 0, .int .i64 0, .int .i64 0, .slice none 0 0, .int .i64 0, .slice none 0 0] rfl rfl _ _ (R2.out.box _ mq0) (by kernel_rfl) rfl (by simp [Value.oneCell']) ?_)
    refine bodyPost_ret (ret_row rfl _ _ _ _ rfl (run_loadVar_row _ _ _ _ _ (0, 0) _ (Q11.out.box _ mq0) Tryz.underlying30 rfl (by kernel_rfl))) rfl ⟨rfl, Q11.out.below⟩

set_option maxHeartbeats 8000000 in
theorem u9mul_bad {w : World} {f g : Nat → Int} {s1 t1 : Int} {a1 b1 : Option Addr} {n1 c1 m1 d1 : Nat} {l1 k1 : List Int} {s2 t2 : Int} {a2 b2 : Option Addr} {n2 c2 m2 d2 : Nat} {l2 k2 : List Int} (hl1 : Ints w (.slice a1 n1 c1) l1) (hk1 : Ints w (.slice b1 m1 d1) k1) (ll1 : l1.length ≤ 1000) (lk1 : k1.length ≤ 1000) (hl2 : Ints w (.slice a2 n2 c2) l2) (hk2 : Ints w (.slice b2 m2 d2) k2) (ll2 : l2.length ≤ 1000) (lk2 : k2.length ≤ 1000) (hr : (uR f s1 l1 t1 k1 && uR g s2 l2 t2 k2) = false) :
    Calls Tryz.prog 13 #[.agg #[.int .i64 (f 0), .int .i64 (f 1), .int .i64 (f 2), .int .i64 (f 3), .int .i64 (f 4), .int .i64 (f 5), .int .i64 s1, .slice a1 n1 c1, .int .i64 t1, .slice b1 m1 d1], .agg #[.int .i64 (g 0), .int .i64 (g 1), .int .i64 (g 2), .int .i64 (g 3), .int .i64 (g 4), .int .i64 (g 5), .int .i64 s2, .slice a2 n2 c2, .int .i64 t2, .slice b2 m2 d2]] w (UZE 1 w) := by
  unfold UZE uc
  rcases ea : uR f s1 l1 t1 k1 with _ | _
  · skip
    have LL1 := Lib.hid ll1
    have LK1 := Lib.hid lk1
    have LL2 := Lib.hid ll2
    have LK2 := Lib.hid lk2
    have EA := Lib.hid ea
    have s0 := ((((((((Sf.start w).arg hk1).arg hl1).arg hk2).arg hl2).put [.int .i64 (f 0), .int .i64 (f 1), .int .i64 (f 2), .int .i64 (f 3), .int .i64 (f 4), .int .i64 (f 5), .int .i64 s1, .slice a1 n1 c1, .int .i64 t1, .slice b1 m1 d1] 30).put [.int .i64 (g 0), .int .i64 (g 1), .int .i64 (g 2), .int .i64 (g 3), .int .i64 (g 4), .int .i64 (g 5), .int .i64 s2, .slice a2 n2 c2, .int .i64 t2, .slice b2 m2 d2] 30).put [.int .i64 0, .int .i64 0, .int .i64 0, .int .i64 0, .int .i64 0, .int .i64 0, .int .i64 0, .slice none 0 0, .int .i64 0, .slice none 0 0] 30)
    try simp only [World.size_alloc] at s0
    have S0 := Lib.hid s0
    clear s0
    clear hr ea hl1 hk1 ll1 lk1 hl2 hk2 ll2 lk2
    go_enter Tryz.func13, Tryz.ntmps13
    go_wp2_with fail
    refine (u9rightR_raw (S0.out.ints (.slice a1 n1 c1, l1) mq2) (S0.out.ints (.slice b1 m1 d1, k1) mq3) LL1.out LK1.out EA.out).mono ?_
    rintro e w1 ⟨rfl, hb⟩
    have R1 := Lib.hid (S0.out.later hb)
    clear hb
    have Q1 := Lib.hid (Sf.row (pre := []) R1.out [.int .i64 0, .int .i64 0, .int .i64 0, .int .i64 0, .int .i64 0, .int .i64 0, .int .i64 0, .slice none 0 0, .int .i64 0, .slice none 0 0])
    go_wp2_with (first | refine wpList_store_row rfl _ _ _ rfl _ #[.int .i64 0, .int .i64 0, .int .i64 0, .int .i64 0, .int .i64 0, .int .i64 0, .int .i64 0, .slice none 0 0, .int .i64 0, .slice none 0 0] rfl rfl _ _ (R1.out.box _ mq0) (by kernel_rfl) rfl (by simp [Value.oneCell']) ?_)
    refine bodyPost_ret (ret_row rfl _ _ _ _ rfl (run_loadVar_row _ _ _ _ _ (0, 0) _ (Q1.out.box _ mq0) Tryz.underlying30 rfl (by kernel_rfl))) rfl ⟨rfl, Q1.out.below⟩
  · have eb : uR g s2 l2 t2 k2 = false := by rw [ea] at hr; simpa using hr
    have LL1 := Lib.hid ll1
    have LK1 := Lib.hid lk1
    have LL2 := Lib.hid ll2
    have LK2 := Lib.hid lk2
    have EA := Lib.hid ea
    have EB := Lib.hid eb
    have s0 := ((((((((Sf.start w).arg hk1).arg hl1).arg hk2).arg hl2).put [.int .i64 (f 0), .int .i64 (f 1), .int .i64 (f 2), .int .i64 (f 3), .int .i64 (f 4), .int .i64 (f 5), .int .i64 s1, .slice a1 n1 c1, .int .i64 t1, .slice b1 m1 d1] 30).put [.int .i64 (g 0), .int .i64 (g 1), .int .i64 (g 2), .int .i64 (g 3), .int .i64 (g 4), .int .i64 (g 5), .int .i64 s2, .slice a2 n2 c2, .int .i64 t2, .slice b2 m2 d2] 30).put [.int .i64 0, .int .i64 0, .int .i64 0, .int .i64 0, .int .i64 0, .int .i64 0, .int .i64 0, .slice none 0 0, .int .i64 0, .slice none 0 0] 30)
    try simp only [World.size_alloc] at s0
    have S0 := Lib.hid s0
    clear s0
    clear hr ea hl1 hk1 ll1 lk1 hl2 hk2 ll2 lk2 eb
    go_enter Tryz.func13, Tryz.ntmps13
    go_wp2_with fail
    refine (u9rightR_raw (S0.out.ints (.slice a1 n1 c1, l1) mq2) (S0.out.ints (.slice b1 m1 d1, k1) mq3) LL1.out LK1.out EA.out).mono ?_
    rintro e w1 ⟨rfl, hb⟩
    have R1 := Lib.hid (S0.out.later hb)
    clear hb
    obtain ⟨q1, q2, q3, q4, q5, q6, q7, q8, q9, q10⟩ := Fb.cells10 (R1.out.box (w.heap.size + 1, 30, [.int .i64 (g 0), .int .i64 (g 1), .int .i64 (g 2), .int .i64 (g 3), .int .i64 (g 4), .int .i64 (g 5), .int .i64 s2, .slice a2 n2 c2, .int .i64 t2, .slice b2 m2 d2]) mq1)
    go_wp2_with fail
    clear q1 q2 q3 q4 q5 q6 q7 q8 q9 q10
    refine (u9rightR_raw (R1.out.ints (.slice a2 n2 c2, l2) mq0) (R1.out.ints (.slice b2 m2 d2, k2) mq1) LL2.out LK2.out EB.out).mono ?_
    rintro e w2 ⟨rfl, hb⟩
    have R2 := Lib.hid (R1.out.later hb)
    clear hb
    have Q11 := Lib.hid (Sf.row (pre := []) R2.out [.int .i64 0, .int .i64 0, .int .i64 0, .int .i64 0, .int .i64 0, .int .i64 0, .int .i64 0, .slice none 0 0, .int .i64 0, .slice none 0 0])
    go_wp2_with (first | refine wpList_store_row rfl _ _ _ rfl _ #[.int .i64 0, .int .i64 0, .int .i64 0, .int .i64 0, .int .i64 0, .int .i64 0, .int .i64 0, .slice none 0 0, .int .i64 0, .slice none 0 0] rfl rfl _ _ (R2.out.box _ mq0) (by kernel_rfl) rfl (by simp [Value.oneCell']) ?_)
    refine bodyPost_ret (ret_row rfl _ _ _ _ rfl (run_loadVar_row _ _ _ _ _ (0, 0) _ (Q11.out.box _ mq0) Tryz.underlying30 rfl (by kernel_rfl))) rfl ⟨rfl, Q11.out.below⟩

set_option maxHeartbeats 8000000 in
theorem u9div_bad {w : World} {f g : Nat → Int} {s1 t1 : Int} {a1 b1 : Option Addr} {n1 c1 m1 d1 : Nat} {l1 k1 : List Int} {s2 t2 : Int} {a2 b2 : Option Addr} {n2 c2 m2 d2 : Nat} {l2 k2 : List Int} (hl1 : Ints w (.slice a1 n1 c1) l1) (hk1 : Ints w (.slice b1 m1 d1) k1) (ll1 : l1.length ≤ 1000) (lk1 : k1.length ≤ 1000) (hl2 : Ints w (.slice a2 n2 c2) l2) (hk2 : Ints w (.slice b2 m2 d2) k2) (ll2 : l2.length ≤ 1000) (lk2 : k2.length ≤ 1000) (hr : (uR f s1 l1 t1 k1 && uR g s2 l2 t2 k2) = false) :
    Calls Tryz.prog 15 #[.agg #[.int .i64 (f 0), .int .i64 (f 1), .int .i64 (f 2), .int .i64 (f 3), .int .i64 (f 4), .int .i64 (f 5), .int .i64 s1, .slice a1 n1 c1, .int .i64 t1, .slice b1 m1 d1], .agg #[.int .i64 (g 0), .int .i64 (g 1), .int .i64 (g 2), .int .i64 (g 3), .int .i64 (g 4), .int .i64 (g 5), .int .i64 s2, .slice a2 n2 c2, .int .i64 t2, .slice b2 m2 d2]] w (UZE 1 w) := by
  unfold UZE uc
  rcases ea : uR f s1 l1 t1 k1 with _ | _
  · skip
    have LL1 := Lib.hid ll1
    have LK1 := Lib.hid lk1
    have LL2 := Lib.hid ll2
    have LK2 := Lib.hid lk2
    have EA := Lib.hid ea
    have s0 := ((((((((Sf.start w).arg hk1).arg hl1).arg hk2).arg hl2).put [.int .i64 (f 0), .int .i64 (f 1), .int .i64 (f 2), .int .i64 (f 3), .int .i64 (f 4), .int .i64 (f 5), .int .i64 s1, .slice a1 n1 c1, .int .i64 t1, .slice b1 m1 d1] 30).put [.int .i64 (g 0), .int .i64 (g 1), .int .i64 (g 2), .int .i64 (g 3), .int .i64 (g 4), .int .i64 (g 5), .int .i64 s2, .slice a2 n2 c2, .int .i64 t2, .slice b2 m2 d2] 30).put [.int .i64 0, .int .i64 0, .int .i64 0, .int .i64 0, .int .i64 0, .int .i64 0, .int .i64 0, .slice none 0 0, .int .i64 0, .slice none 0 0] 30)
    try simp only [World.size_alloc] at s0
    have S0 := Lib.hid s0
    clear s0
    clear hr ea hl1 hk1 ll1 lk1 hl2 hk2 ll2 lk2
    go_enter Tryz.func15, Tryz.ntmps15
    go_wp2_with fail
    refine (u9rightR_raw (S0.out.ints (.slice a1 n1 c1, l1) mq2) (S0.out.ints (.slice b1 m1 d1, k1) mq3) LL1.out LK1.out EA.out).mono ?_
    rintro e w1 ⟨rfl, hb⟩
    have R1 := Lib.hid (S0.out.later hb)
    clear hb
    have Q1 := Lib.hid (Sf.row (pre := []) R1.out [.int .i64 0, .int .i64 0, .int .i64 0, .int .i64 0, .int .i64 0, .int .i64 0, .int .i64 0, .slice none 0 0, .int .i64 0, .slice none 0 0])
    go_wp2_with (first | refine wpList_store_row rfl _ _ _ rfl _ #[.int .i64 0, .int .i64 0, .int .i64 0, .int .i64 0, .int .i64 0, .int .i64 0, .int .i64 0, .slice none 0 0, .int .i64 0, .slice none 0 0] rfl rfl _ _ (R1.out.box _ mq0) (by kernel_rfl) rfl (by simp [Value.oneCell']) ?_)
    refine bodyPost_ret (ret_row rfl _ _ _ _ rfl (run_loadVar_row _ _ _ _ _ (0, 0) _ (Q1.out.box _ mq0) Tryz.underlying30 rfl (by kernel_rfl))) rfl ⟨rfl, Q1.out.below⟩
  · have eb : uR g s2 l2 t2 k2 = false := by rw [ea] at hr; simpa using hr
    have LL1 := Lib.hid ll1
    have LK1 := Lib.hid lk1
    have LL2 := Lib.hid ll2
    have LK2 := Lib.hid lk2
    have EA := Lib.hid ea
    have EB := Lib.hid eb
    have s0 := ((((((((Sf.start w).arg hk1).arg hl1).arg hk2).arg hl2).put [.int .i64 (f 0), .int .i64 (f 1), .int .i64 (f 2), .int .i64 (f 3), .int .i64 (f 4), .int .i64 (f 5), .int .i64 s1, .slice a1 n1 c1, .int .i64 t1, .slice b1 m1 d1] 30).put [.int .i64 (g 0), .int .i64 (g 1), .int .i64 (g 2), .int .i64 (g 3), .int .i64 (g 4), .int .i64 (g 5), .int .i64 s2, .slice a2 n2 c2, .int .i64 t2, .slice b2 m2 d2] 30).put [.int .i64 0, .int .i64 0, .int .i64 0, .int .i64 0, .int .i64 0, .int .i64 0, .int .i64 0, .slice none 0 0, .int .i64 0, .slice none 0 0] 30)
    try simp only [World.size_alloc] at s0
    have S0 := Lib.hid s0
    clear s0
    clear hr ea hl1 hk1 ll1 lk1 hl2 hk2 ll2 lk2 eb
    go_enter Tryz.func15, Tryz.ntmps15
    go_wp2_with fail
    refine (u9rightR_raw (S0.out.ints (.slice a1 n1 c1, l1) mq2) (S0.out.ints (.slice b1 m1 d1, k1) mq3) LL1.out LK1.out EA.out).mono ?_
    rintro e w1 ⟨rfl, hb⟩
    have R1 := Lib.hid (S0.out.later hb)
    clear hb
    obtain ⟨q1, q2, q3, q4, q5, q6, q7, q8, q9, q10⟩ := Fb.cells10 (R1.out.box (w.heap.size + 1, 30, [.int .i64 (g 0), .int .i64 (g 1), .int .i64 (g 2), .int .i64 (g 3), .int .i64 (g 4), .int .i64 (g 5), .int .i64 s2, .slice a2 n2 c2, .int .i64 t2, .slice b2 m2 d2]) mq1)
    go_wp2_with fail
    clear q1 q2 q3 q4 q5 q6 q7 q8 q9 q10
    refine (u9rightR_raw (R1.out.ints (.slice a2 n2 c2, l2) mq0) (R1.out.ints (.slice b2 m2 d2, k2) mq1) LL2.out LK2.out EB.out).mono ?_
    rintro e w2 ⟨rfl, hb⟩
    have R2 := Lib.hid (R1.out.later hb)
    clear hb
    have Q11 := Lib.hid (Sf.row (pre := []) R2.out [.int .i64 0, .int .i64 0, .int .i64 0, .int .i64 0, .int .i64 0, .int .i64 0, .int .i64 0, .slice none 0 0, .int .i64 0, .slice none 0 0])
    go_wp2_with (first | refine wpList_store_row rfl _ _ _ rfl _ #[.int .i64 0, .int .i64 0, .int .i64 0, .int .i64 0, .int .i64 0, .int .i64 0, .int .i64 0, .slice none 0 0, .int .i64 0, .slice none 0 0] rfl rfl _ _ (R2.out.box _ mq0) (by kernel_rfl) rfl (by simp [Value.oneCell']) ?_)
    refine bodyPost_ret (ret_row rfl _ _ _ _ rfl (run_loadVar_row _ _ _ _ _ (0, 0) _ (Q11.out.box _ mq0) Tryz.underlying30 rfl (by kernel_rfl))) rfl ⟨rfl, Q11.out.below⟩

set_option maxHeartbeats 8000000 in
theorem uto_bad {w : World} {f : Nat → Int} {s3 t3 : Int} {a3 b3 : Option Addr} {n3 c3 m3 d3 : Nat} {l3 k3 : List Int} {s1 t1 : Int} {a1 b1 : Option Addr} {n1 c1 m1 d1 : Nat} {l1 k1 : List Int} (hl3 : Ints w (.slice a3 n3 c3) l3) (hk3 : Ints w (.slice b3 m3 d3) k3) (ll3 : l3.length ≤ 1000) (lk3 : k3.length ≤ 1000) (hl1 : Ints w (.slice a1 n1 c1) l1) (hk1 : Ints w (.slice b1 m1 d1) k1) (ll1 : l1.length ≤ 1000) (lk1 : k1.length ≤ 1000) (hr : (uR f s1 l1 t1 k1 && fRightB s3 l3 t3 k3) = false) :
    Calls Tryz.prog 17 #[.agg #[.int .i64 s3, .slice a3 n3 c3, .int .i64 t3, .slice b3 m3 d3], .agg #[.int .i64 (f 0), .int .i64 (f 1), .int .i64 (f 2), .int .i64 (f 3), .int .i64 (f 4), .int .i64 (f 5), .int .i64 s1, .slice a1 n1 c1, .int .i64 t1, .slice b1 m1 d1]] w (FZE 1 w) := by
  unfold FZE
  rcases ea : uR f s1 l1 t1 k1 with _ | _
  · skip
    have LL3 := Lib.hid ll3
    have LK3 := Lib.hid lk3
    have LL1 := Lib.hid ll1
    have LK1 := Lib.hid lk1
    have EA := Lib.hid ea
    have s0 := ((((((((Sf.start w).arg hk3).arg hl3).arg hk1).arg hl1).put [.int .i64 s3, .slice a3 n3 c3, .int .i64 t3, .slice b3 m3 d3] 28).put [.int .i64 (f 0), .int .i64 (f 1), .int .i64 (f 2), .int .i64 (f 3), .int .i64 (f 4), .int .i64 (f 5), .int .i64 s1, .slice a1 n1 c1, .int .i64 t1, .slice b1 m1 d1] 30).put [.int .i64 0, .slice none 0 0, .int .i64 0, .slice none 0 0] 28)
    try simp only [World.size_alloc] at s0
    have S0 := Lib.hid s0
    clear s0
    clear hr ea hl3 hk3 ll3 lk3 hl1 hk1 ll1 lk1
    go_enter Tryz.func17, Tryz.ntmps17
    go_wp2_with fail
    refine (uright_raw (S0.out.ints (.slice a1 n1 c1, l1) mq0) (S0.out.ints (.slice b1 m1 d1, k1) mq1) LL1.out LK1.out EA.out).mono ?_
    rintro e w1 ⟨rfl, hb⟩
    have R1 := Lib.hid (S0.out.later hb)
    clear hb
    have Q1 := Lib.hid (Sf.row (pre := []) R1.out [.int .i64 0, .slice none 0 0, .int .i64 0, .slice none 0 0])
    go_wp2_with (first | refine wpList_store_row rfl _ _ _ rfl _ #[.int .i64 0, .slice none 0 0, .int .i64 0, .slice none 0 0] rfl rfl _ _ (R1.out.box _ mq0) (by kernel_rfl) rfl (by simp [Value.oneCell']) ?_)
    refine bodyPost_ret (ret_row rfl _ _ _ _ rfl (run_loadVar_row _ _ _ _ _ (0, 0) _ (Q1.out.box _ mq0) Tryz.underlying28 rfl (by kernel_rfl))) rfl ⟨rfl, Q1.out.below⟩
  · have eb : fRightB s3 l3 t3 k3 = false := by rw [ea] at hr; simpa using hr
    have LL3 := Lib.hid ll3
    have LK3 := Lib.hid lk3
    have LL1 := Lib.hid ll1
    have LK1 := Lib.hid lk1
    have EA := Lib.hid ea
    have EB := Lib.hid eb
    have EAB : Hid ((fRightB s3 l3 t3 k3 && fRightB s1 l1 t1 k1) = false) := Lib.hid (by rw [eb]; rfl)
    have s0 := ((((((((Sf.start w).arg hk3).arg hl3).arg hk1).arg hl1).put [.int .i64 s3, .slice a3 n3 c3, .int .i64 t3, .slice b3 m3 d3] 28).put [.int .i64 (f 0), .int .i64 (f 1), .int .i64 (f 2), .int .i64 (f 3), .int .i64 (f 4), .int .i64 (f 5), .int .i64 s1, .slice a1 n1 c1, .int .i64 t1, .slice b1 m1 d1] 30).put [.int .i64 0, .slice none 0 0, .int .i64 0, .slice none 0 0] 28)
    try simp only [World.size_alloc] at s0
    have S0 := Lib.hid s0
    clear s0
    clear hr ea hl3 hk3 ll3 lk3 hl1 hk1 ll1 lk1 eb
    go_enter Tryz.func17, Tryz.ntmps17
    go_wp2_with fail
    refine (uright_raw (S0.out.ints (.slice a1 n1 c1, l1) mq0) (S0.out.ints (.slice b1 m1 d1, k1) mq1) LL1.out LK1.out EA.out).mono ?_
    rintro e w1 ⟨rfl, hb⟩
    have R1 := Lib.hid (S0.out.later hb)
    clear hb
    obtain ⟨q1, q2, q3, q4⟩ := Fb.cells4 (R1.out.box (w.heap.size, 28, [.int .i64 s3, .slice a3 n3 c3, .int .i64 t3, .slice b3 m3 d3]) mq2)
    obtain ⟨q5, q6, q7, q8, q9, q10, q11, q12, q13, q14⟩ := Fb.cells10 (R1.out.box (w.heap.size + 1, 30, [.int .i64 (f 0), .int .i64 (f 1), .int .i64 (f 2), .int .i64 (f 3), .int .i64 (f 4), .int .i64 (f 5), .int .i64 s1, .slice a1 n1 c1, .int .i64 t1, .slice b1 m1 d1]) mq1)
    go_wp2_with fail
    clear q1 q2 q3 q4 q5 q6 q7 q8 q9 q10 q11 q12 q13 q14
    refine (fdiv_bad s3 a3 n3 c3 l3 t3 b3 m3 d3 k3 s1 a1 n1 c1 l1 t1 b1 m1 d1 k1 _ (R1.out.ints (.slice a3 n3 c3, l3) mq2) (R1.out.ints (.slice b3 m3 d3, k3) mq3) (Nat.le_trans LL3.out (by decide)) (Nat.le_trans LK3.out (by decide)) (R1.out.ints (.slice a1 n1 c1, l1) mq0) (R1.out.ints (.slice b1 m1 d1, k1) mq1) (Nat.le_trans LL1.out (by decide)) (Nat.le_trans LK1.out (by decide)) EAB.out).mono ?_
    rintro e w2 ⟨rfl, hb⟩
    have R2 := Lib.hid (R1.out.later hb)
    clear hb
    have Q15 := Lib.hid (Sf.row (pre := []) R2.out [.int .i64 0, .slice none 0 0, .int .i64 0, .slice none 0 0])
    go_wp2_with (first | refine wpList_store_row rfl _ _ _ rfl _ #[.int .i64 0, .slice none 0 0, .int .i64 0, .slice none 0 0] rfl rfl _ _ (R2.out.box _ mq0) (by kernel_rfl) rfl (by simp [Value.oneCell']) ?_)
    refine bodyPost_ret (ret_row rfl _ _ _ _ rfl (run_loadVar_row _ _ _ _ _ (0, 0) _ (Q15.out.box _ mq0) Tryz.underlying28 rfl (by kernel_rfl))) rfl ⟨rfl, Q15.out.below⟩

set_option maxHeartbeats 8000000 in
theorem ufrom_bad {w : World} {f : Nat → Int} {s3 t3 : Int} {a3 b3 : Option Addr} {n3 c3 m3 d3 : Nat} {l3 k3 : List Int} {s1 t1 : Int} {a1 b1 : Option Addr} {n1 c1 m1 d1 : Nat} {l1 k1 : List Int} (hl3 : Ints w (.slice a3 n3 c3) l3) (hk3 : Ints w (.slice b3 m3 d3) k3) (ll3 : l3.length ≤ 1000) (lk3 : k3.length ≤ 1000) (hl1 : Ints w (.slice a1 n1 c1) l1) (hk1 : Ints w (.slice b1 m1 d1) k1) (ll1 : l1.length ≤ 1000) (lk1 : k1.length ≤ 1000) (hr : (uR f s1 l1 t1 k1 && fRightB s3 l3 t3 k3) = false) :
    Calls Tryz.prog 19 #[.agg #[.int .i64 s3, .slice a3 n3 c3, .int .i64 t3, .slice b3 m3 d3], .agg #[.int .i64 (f 0), .int .i64 (f 1), .int .i64 (f 2), .int .i64 (f 3), .int .i64 (f 4), .int .i64 (f 5), .int .i64 s1, .slice a1 n1 c1, .int .i64 t1, .slice b1 m1 d1]] w (FZE 1 w) := by
  unfold FZE
  rcases ea : uR f s1 l1 t1 k1 with _ | _
  · skip
    have LL3 := Lib.hid ll3
    have LK3 := Lib.hid lk3
    have LL1 := Lib.hid ll1
    have LK1 := Lib.hid lk1
    have EA := Lib.hid ea
    have s0 := ((((((((Sf.start w).arg hk3).arg hl3).arg hk1).arg hl1).put [.int .i64 s3, .slice a3 n3 c3, .int .i64 t3, .slice b3 m3 d3] 28).put [.int .i64 (f 0), .int .i64 (f 1), .int .i64 (f 2), .int .i64 (f 3), .int .i64 (f 4), .int .i64 (f 5), .int .i64 s1, .slice a1 n1 c1, .int .i64 t1, .slice b1 m1 d1] 30).put [.int .i64 0, .slice none 0 0, .int .i64 0, .slice none 0 0] 28)
    try simp only [World.size_alloc] at s0
    have S0 := Lib.hid s0
    clear s0
    clear hr ea hl3 hk3 ll3 lk3 hl1 hk1 ll1 lk1
    go_enter Tryz.func19, Tryz.ntmps19
    go_wp2_with fail
    refine (uright_raw (S0.out.ints (.slice a1 n1 c1, l1) mq0) (S0.out.ints (.slice b1 m1 d1, k1) mq1) LL1.out LK1.out EA.out).mono ?_
    rintro e w1 ⟨rfl, hb⟩
    have R1 := Lib.hid (S0.out.later hb)
    clear hb
    have Q1 := Lib.hid (Sf.row (pre := []) R1.out [.int .i64 0, .slice none 0 0, .int .i64 0, .slice none 0 0])
    go_wp2_with (first | refine wpList_store_row rfl _ _ _ rfl _ #[.int .i64 0, .slice none 0 0, .int .i64 0, .slice none 0 0] rfl rfl _ _ (R1.out.box _ mq0) (by kernel_rfl) rfl (by simp [Value.oneCell']) ?_)
    refine bodyPost_ret (ret_row rfl _ _ _ _ rfl (run_loadVar_row _ _ _ _ _ (0, 0) _ (Q1.out.box _ mq0) Tryz.underlying28 rfl (by kernel_rfl))) rfl ⟨rfl, Q1.out.below⟩
  · have eb : fRightB s3 l3 t3 k3 = false := by rw [ea] at hr; simpa using hr
    have LL3 := Lib.hid ll3
    have LK3 := Lib.hid lk3
    have LL1 := Lib.hid ll1
    have LK1 := Lib.hid lk1
    have EA := Lib.hid ea
    have EB := Lib.hid eb
    have EAB : Hid ((fRightB s3 l3 t3 k3 && fRightB s1 l1 t1 k1) = false) := Lib.hid (by rw [eb]; rfl)
    have s0 := ((((((((Sf.start w).arg hk3).arg hl3).arg hk1).arg hl1).put [.int .i64 s3, .slice a3 n3 c3, .int .i64 t3, .slice b3 m3 d3] 28).put [.int .i64 (f 0), .int .i64 (f 1), .int .i64 (f 2), .int .i64 (f 3), .int .i64 (f 4), .int .i64 (f 5), .int .i64 s1, .slice a1 n1 c1, .int .i64 t1, .slice b1 m1 d1] 30).put [.int .i64 0, .slice none 0 0, .int .i64 0, .slice none 0 0] 28)
    try simp only [World.size_alloc] at s0
    have S0 := Lib.hid s0
    clear s0
    clear hr ea hl3 hk3 ll3 lk3 hl1 hk1 ll1 lk1 eb
    go_enter Tryz.func19, Tryz.ntmps19
    go_wp2_with fail
    refine (uright_raw (S0.out.ints (.slice a1 n1 c1, l1) mq0) (S0.out.ints (.slice b1 m1 d1, k1) mq1) LL1.out LK1.out EA.out).mono ?_
    rintro e w1 ⟨rfl, hb⟩
    have R1 := Lib.hid (S0.out.later hb)
    clear hb
    obtain ⟨q1, q2, q3, q4⟩ := Fb.cells4 (R1.out.box (w.heap.size, 28, [.int .i64 s3, .slice a3 n3 c3, .int .i64 t3, .slice b3 m3 d3]) mq2)
    obtain ⟨q5, q6, q7, q8, q9, q10, q11, q12, q13, q14⟩ := Fb.cells10 (R1.out.box (w.heap.size + 1, 30, [.int .i64 (f 0), .int .i64 (f 1), .int .i64 (f 2), .int .i64 (f 3), .int .i64 (f 4), .int .i64 (f 5), .int .i64 s1, .slice a1 n1 c1, .int .i64 t1, .slice b1 m1 d1]) mq1)
    go_wp2_with fail
    clear q1 q2 q3 q4 q5 q6 q7 q8 q9 q10 q11 q12 q13 q14
    refine (fmul_bad s3 a3 n3 c3 l3 t3 b3 m3 d3 k3 s1 a1 n1 c1 l1 t1 b1 m1 d1 k1 _ (R1.out.ints (.slice a3 n3 c3, l3) mq2) (R1.out.ints (.slice b3 m3 d3, k3) mq3) (Nat.le_trans LL3.out (by decide)) (Nat.le_trans LK3.out (by decide)) (R1.out.ints (.slice a1 n1 c1, l1) mq0) (R1.out.ints (.slice b1 m1 d1, k1) mq1) (Nat.le_trans LL1.out (by decide)) (Nat.le_trans LK1.out (by decide)) EAB.out).mono ?_
    rintro e w2 ⟨rfl, hb⟩
    have R2 := Lib.hid (R1.out.later hb)
    clear hb
    have Q15 := Lib.hid (Sf.row (pre := []) R2.out [.int .i64 0, .slice none 0 0, .int .i64 0, .slice none 0 0])
    go_wp2_with (first | refine wpList_store_row rfl _ _ _ rfl _ #[.int .i64 0, .slice none 0 0, .int .i64 0, .slice none 0 0] rfl rfl _ _ (R2.out.box _ mq0) (by kernel_rfl) rfl (by simp [Value.oneCell']) ?_)
    refine bodyPost_ret (ret_row rfl _ _ _ _ rfl (run_loadVar_row _ _ _ _ _ (0, 0) _ (Q15.out.box _ mq0) Tryz.underlying28 rfl (by kernel_rfl))) rfl ⟨rfl, Q15.out.below⟩

set_option maxHeartbeats 8000000 in
theorem u9to_bad {w : World} {f : Nat → Int} {s3 t3 : Int} {a3 b3 : Option Addr} {n3 c3 m3 d3 : Nat} {l3 k3 : List Int} {s1 t1 : Int} {a1 b1 : Option Addr} {n1 c1 m1 d1 : Nat} {l1 k1 : List Int} (hl3 : Ints w (.slice a3 n3 c3) l3) (hk3 : Ints w (.slice b3 m3 d3) k3) (ll3 : l3.length ≤ 1000) (lk3 : k3.length ≤ 1000) (hl1 : Ints w (.slice a1 n1 c1) l1) (hk1 : Ints w (.slice b1 m1 d1) k1) (ll1 : l1.length ≤ 1000) (lk1 : k1.length ≤ 1000) (hr : (uR f s1 l1 t1 k1 && fRightB s3 l3 t3 k3) = false) :
    Calls Tryz.prog 18 #[.agg #[.int .i64 s3, .slice a3 n3 c3, .int .i64 t3, .slice b3 m3 d3], .agg #[.int .i64 (f 0), .int .i64 (f 1), .int .i64 (f 2), .int .i64 (f 3), .int .i64 (f 4), .int .i64 (f 5), .int .i64 s1, .slice a1 n1 c1, .int .i64 t1, .slice b1 m1 d1]] w (FZE 1 w) := by
  unfold FZE
  rcases ea : uR f s1 l1 t1 k1 with _ | _
  · skip
    have LL3 := Lib.hid ll3
    have LK3 := Lib.hid lk3
    have LL1 := Lib.hid ll1
    have LK1 := Lib.hid lk1
    have EA := Lib.hid ea
    have s0 := ((((((((Sf.start w).arg hk3).arg hl3).arg hk1).arg hl1).put [.int .i64 s3, .slice a3 n3 c3, .int .i64 t3, .slice b3 m3 d3] 28).put [.int .i64 (f 0), .int .i64 (f 1), .int .i64 (f 2), .int .i64 (f 3), .int .i64 (f 4), .int .i64 (f 5), .int .i64 s1, .slice a1 n1 c1, .int .i64 t1, .slice b1 m1 d1] 30).put [.int .i64 0, .slice none 0 0, .int .i64 0, .slice none 0 0] 28)
    try simp only [World.size_alloc] at s0
    have S0 := Lib.hid s0
    clear s0
    clear hr ea hl3 hk3 ll3 lk3 hl1 hk1 ll1 lk1
    go_enter Tryz.func18, Tryz.ntmps18
    go_wp2_with fail
    refine (u9rightR_raw (S0.out.ints (.slice a1 n1 c1, l1) mq0) (S0.out.ints (.slice b1 m1 d1, k1) mq1) LL1.out LK1.out EA.out).mono ?_
    rintro e w1 ⟨rfl, hb⟩
    have R1 := Lib.hid (S0.out.later hb)
    clear hb
    have Q1 := Lib.hid (Sf.row (pre := []) R1.out [.int .i64 0, .slice none 0 0, .int .i64 0, .slice none 0 0])
    go_wp2_with (first | refine wpList_store_row rfl _ _ _ rfl _ #[.int .i64 0, .slice none 0 0, .int .i64 0, .slice none 0 0] rfl rfl _ _ (R1.out.box _ mq0) (by kernel_rfl) rfl (by simp [Value.oneCell']) ?_)
    refine bodyPost_ret (ret_row rfl _ _ _ _ rfl (run_loadVar_row _ _ _ _ _ (0, 0) _ (Q1.out.box _ mq0) Tryz.underlying28 rfl (by kernel_rfl))) rfl ⟨rfl, Q1.out.below⟩
  · have eb : fRightB s3 l3 t3 k3 = false := by rw [ea] at hr; simpa using hr
    have LL3 := Lib.hid ll3
    have LK3 := Lib.hid lk3
    have LL1 := Lib.hid ll1
    have LK1 := Lib.hid lk1
    have EA := Lib.hid ea
    have EB := Lib.hid eb
    have EAB : Hid ((fRightB s3 l3 t3 k3 && fRightB s1 l1 t1 k1) = false) := Lib.hid (by rw [eb]; rfl)
    have s0 := ((((((((Sf.start w).arg hk3).arg hl3).arg hk1).arg hl1).put [.int .i64 s3, .slice a3 n3 c3, .int .i64 t3, .slice b3 m3 d3] 28).put [.int .i64 (f 0), .int .i64 (f 1), .int .i64 (f 2), .int .i64 (f 3), .int .i64 (f 4), .int .i64 (f 5), .int .i64 s1, .slice a1 n1 c1, .int .i64 t1, .slice b1 m1 d1] 30).put [.int .i64 0, .slice none 0 0, .int .i64 0, .slice none 0 0] 28)
    try simp only [World.size_alloc] at s0
    have S0 := Lib.hid s0
    clear s0
    clear hr ea hl3 hk3 ll3 lk3 hl1 hk1 ll1 lk1 eb
    go_enter Tryz.func18, Tryz.ntmps18
    go_wp2_with fail
    refine (u9rightR_raw (S0.out.ints (.slice a1 n1 c1, l1) mq0) (S0.out.ints (.slice b1 m1 d1, k1) mq1) LL1.out LK1.out EA.out).mono ?_
    rintro e w1 ⟨rfl, hb⟩
    have R1 := Lib.hid (S0.out.later hb)
    clear hb
    obtain ⟨q1, q2, q3, q4⟩ := Fb.cells4 (R1.out.box (w.heap.size, 28, [.int .i64 s3, .slice a3 n3 c3, .int .i64 t3, .slice b3 m3 d3]) mq2)
    go_wp2_with fail
    clear q1 q2 q3 q4
    refine (rfright_any s3 a3 n3 c3 l3 t3 b3 m3 d3 k3 _ (R1.out.ints (.slice a3 n3 c3, l3) mq2) (R1.out.ints (.slice b3 m3 d3, k3) mq3) (Nat.le_trans LL3.out (by decide)) (Nat.le_trans LK3.out (by decide)) _ EB.out).mono ?_
    rintro e w2 ⟨rfl, hb⟩
    have R2 := Lib.hid (R1.out.later hb)
    clear hb
    have Q5 := Lib.hid (Sf.row (pre := []) R2.out [.int .i64 0, .slice none 0 0, .int .i64 0, .slice none 0 0])
    go_wp2_with (first | refine wpList_store_row rfl _ _ _ rfl _ #[.int .i64 0, .slice none 0 0, .int .i64 0, .slice none 0 0] rfl rfl _ _ (R2.out.box _ mq0) (by kernel_rfl) rfl (by simp [Value.oneCell']) ?_)
    refine bodyPost_ret (ret_row rfl _ _ _ _ rfl (run_loadVar_row _ _ _ _ _ (0, 0) _ (Q5.out.box _ mq0) Tryz.underlying28 rfl (by kernel_rfl))) rfl ⟨rfl, Q5.out.below⟩

set_option maxHeartbeats 8000000 in
theorem u9from_bad {w : World} {f : Nat → Int} {s3 t3 : Int} {a3 b3 : Option Addr} {n3 c3 m3 d3 : Nat} {l3 k3 : List Int} {s1 t1 : Int} {a1 b1 : Option Addr} {n1 c1 m1 d1 : Nat} {l1 k1 : List Int} (hl3 : Ints w (.slice a3 n3 c3) l3) (hk3 : Ints w (.slice b3 m3 d3) k3) (ll3 : l3.length ≤ 1000) (lk3 : k3.length ≤ 1000) (hl1 : Ints w (.slice a1 n1 c1) l1) (hk1 : Ints w (.slice b1 m1 d1) k1) (ll1 : l1.length ≤ 1000) (lk1 : k1.length ≤ 1000) (hr : (uR f s1 l1 t1 k1 && fRightB s3 l3 t3 k3) = false) :
    Calls Tryz.prog 20 #[.agg #[.int .i64 s3, .slice a3 n3 c3, .int .i64 t3, .slice b3 m3 d3], .agg #[.int .i64 (f 0), .int .i64 (f 1), .int .i64 (f 2), .int .i64 (f 3), .int .i64 (f 4), .int .i64 (f 5), .int .i64 s1, .slice a1 n1 c1, .int .i64 t1, .slice b1 m1 d1]] w (FZE 1 w) := by
  unfold FZE
  rcases ea : uR f s1 l1 t1 k1 with _ | _
  · skip
    have LL3 := Lib.hid ll3
    have LK3 := Lib.hid lk3
    have LL1 := Lib.hid ll1
    have LK1 := Lib.hid lk1
    have EA := Lib.hid ea
    have s0 := ((((((((Sf.start w).arg hk3).arg hl3).arg hk1).arg hl1).put [.int .i64 s3, .slice a3 n3 c3, .int .i64 t3, .slice b3 m3 d3] 28).put [.int .i64 (f 0), .int .i64 (f 1), .int .i64 (f 2), .int .i64 (f 3), .int .i64 (f 4), .int .i64 (f 5), .int .i64 s1, .slice a1 n1 c1, .int .i64 t1, .slice b1 m1 d1] 30).put [.int .i64 0, .slice none 0 0, .int .i64 0, .slice none 0 0] 28)
    try simp only [World.size_alloc] at s0
    have S0 := Lib.hid s0
    clear s0
    clear hr ea hl3 hk3 ll3 lk3 hl1 hk1 ll1 lk1
    go_enter Tryz.func20, Tryz.ntmps20
    go_wp2_with fail
    refine (u9rightR_raw (S0.out.ints (.slice a1 n1 c1, l1) mq0) (S0.out.ints (.slice b1 m1 d1, k1) mq1) LL1.out LK1.out EA.out).mono ?_
    rintro e w1 ⟨rfl, hb⟩
    have R1 := Lib.hid (S0.out.later hb)
    clear hb
    have Q1 := Lib.hid (Sf.row (pre := []) R1.out [.int .i64 0, .slice none 0 0, .int .i64 0, .slice none 0 0])
    go_wp2_with (first | refine wpList_store_row rfl _ _ _ rfl _ #[.int .i64 0, .slice none 0 0, .int .i64 0, .slice none 0 0] rfl rfl _ _ (R1.out.box _ mq0) (by kernel_rfl) rfl (by simp [Value.oneCell']) ?_)
    refine bodyPost_ret (ret_row rfl _ _ _ _ rfl (run_loadVar_row _ _ _ _ _ (0, 0) _ (Q1.out.box _ mq0) Tryz.underlying28 rfl (by kernel_rfl))) rfl ⟨rfl, Q1.out.below⟩
  · have eb : fRightB s3 l3 t3 k3 = false := by rw [ea] at hr; simpa using hr
    have LL3 := Lib.hid ll3
    have LK3 := Lib.hid lk3
    have LL1 := Lib.hid ll1
    have LK1 := Lib.hid lk1
    have EA := Lib.hid ea
    have EB := Lib.hid eb
    have EAB : Hid ((fRightB s3 l3 t3 k3 && fRightB s1 l1 t1 k1) = false) := Lib.hid (by rw [eb]; rfl)
    have s0 := ((((((((Sf.start w).arg hk3).arg hl3).arg hk1).arg hl1).put [.int .i64 s3, .slice a3 n3 c3, .int .i64 t3, .slice b3 m3 d3] 28).put [.int .i64 (f 0), .int .i64 (f 1), .int .i64 (f 2), .int .i64 (f 3), .int .i64 (f 4), .int .i64 (f 5), .int .i64 s1, .slice a1 n1 c1, .int .i64 t1, .slice b1 m1 d1] 30).put [.int .i64 0, .slice none 0 0, .int .i64 0, .slice none 0 0] 28)
    try simp only [World.size_alloc] at s0
    have S0 := Lib.hid s0
    clear s0
    clear hr ea hl3 hk3 ll3 lk3 hl1 hk1 ll1 lk1 eb
    go_enter Tryz.func20, Tryz.ntmps20
    go_wp2_with fail
    refine (u9rightR_raw (S0.out.ints (.slice a1 n1 c1, l1) mq0) (S0.out.ints (.slice b1 m1 d1, k1) mq1) LL1.out LK1.out EA.out).mono ?_
    rintro e w1 ⟨rfl, hb⟩
    have R1 := Lib.hid (S0.out.later hb)
    clear hb
    obtain ⟨q1, q2, q3, q4⟩ := Fb.cells4 (R1.out.box (w.heap.size, 28, [.int .i64 s3, .slice a3 n3 c3, .int .i64 t3, .slice b3 m3 d3]) mq2)
    go_wp2_with fail
    clear q1 q2 q3 q4
    refine (rfright_any s3 a3 n3 c3 l3 t3 b3 m3 d3 k3 _ (R1.out.ints (.slice a3 n3 c3, l3) mq2) (R1.out.ints (.slice b3 m3 d3, k3) mq3) (Nat.le_trans LL3.out (by decide)) (Nat.le_trans LK3.out (by decide)) _ EB.out).mono ?_
    rintro e w2 ⟨rfl, hb⟩
    have R2 := Lib.hid (R1.out.later hb)
    clear hb
    have Q5 := Lib.hid (Sf.row (pre := []) R2.out [.int .i64 0, .slice none 0 0, .int .i64 0, .slice none 0 0])
    go_wp2_with (first | refine wpList_store_row rfl _ _ _ rfl _ #[.int .i64 0, .slice none 0 0, .int .i64 0, .slice none 0 0] rfl rfl _ _ (R2.out.box _ mq0) (by kernel_rfl) rfl (by simp [Value.oneCell']) ?_)
    refine bodyPost_ret (ret_row rfl _ _ _ _ rfl (run_loadVar_row _ _ _ _ _ (0, 0) _ (Q5.out.box _ mq0) Tryz.underlying28 rfl (by kernel_rfl))) rfl ⟨rfl, Q5.out.below⟩
end Go.Proofs.YtmhdhabgdlefjaaGreatDoor.Un
