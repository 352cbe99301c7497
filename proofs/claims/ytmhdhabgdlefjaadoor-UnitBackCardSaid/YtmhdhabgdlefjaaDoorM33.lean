/- The contracts of unit: Right, Mul, Div, To, From, for any arguments; those of its reference at arguments that are not valid. -/
import Derived.Test.YtmhdhabgdlefjaaDoorM28
import Derived.Test.YtmhdhabgdlefjaaDoorM22
set_option maxRecDepth 100000
namespace Go.Proofs.YtmhdhabgdlefjaaDoor.Un
open Go.RowKit Bi Dm

/-- A unit's Right, for any cells. -/
def uR (f : Nat → Int) (s : Int) (l : List Int) (t : Int) (k : List Int) : Bool := ok f && (fRightB s l t k && decide (0 < s))
theorem uR_dim {f : Nat → Int} {s t : Int} {l k : List Int} (h : ok f = false) : uR f s l t k = false := by unfold uR; rw [h]; rfl
theorem uR_is {f : Nat → Int} {r : Rat} : uR f r.num.sign (digs r.num.natAbs) 1 (digs (r.den : Int).natAbs) = (ok f && decide (0 < r.num.sign)) := by
  unfold uR; rw [fright_is, Bool.true_and]
theorem fsign_any {w : World} {s t : Int} {a b : Option Addr} {n c m d : Nat} {l k : List Int} (hl : Ints w (.slice a n c) l) (hk : Ints w (.slice b m d) k) (ll : l.length ≤ 1000) (lk : k.length ≤ 1000) :
    Calls Tryd.prog 18 #[.agg #[.int .i64 s, .slice a n c, .int .i64 t, .slice b m d]] w fun e w' => e = .returned (.int .i64 (if fRightB s l t k then s else 0)) ∧ RowKit.Below w.heap.size w w' := by
  rcases h : fRightB s l t k with _ | _
  · exact fsign_bad s a n c l t b m d k w hl hk (by omega) (by omega) h
  · obtain ⟨r, rfl, rfl, rfl, rfl⟩ := fright_of h
    exact fsign_k (⟨⟨rfl, hl⟩, ⟨(den_sign r).symm, hk⟩⟩ : Fr w _ _ _ r) ⟨Sz.of ll, Sz.of lk⟩
set_option maxHeartbeats 8000000 in
theorem uright_raw {w : World} {f : Nat → Int} {s1 t1 : Int} {a1 b1 : Option Addr} {n1 c1 m1 d1 : Nat} {l1 k1 : List Int} (hl1 : Ints w (.slice a1 n1 c1) l1) (hk1 : Ints w (.slice b1 m1 d1) k1) (ll1 : l1.length ≤ 1000) (lk1 : k1.length ≤ 1000) {r : Bool} (hr : uR f s1 l1 t1 k1 = r) :
    Calls Tryd.prog 7 #[.agg #[.int .i64 (f 0), .int .i64 (f 1), .int .i64 (f 2), .int .i64 (f 3), .int .i64 (f 4), .int .i64 (f 5), .int .i64 s1, .slice a1 n1 c1, .int .i64 t1, .slice b1 m1 d1]] w fun e w' => e = .returned (.bool r) ∧ RowKit.Below w.heap.size w w' := by
  have HD := Lib.hid (fun W => rightG f W)
  unfold uR at hr
  rcases ho : ok f with _ | _
  · rw [ho] at HD hr
    have LL1 := Lib.hid ll1
    have LK1 := Lib.hid lk1
    obtain rfl : false = r := hr
    have s0 := ((((Sf.start w).arg hk1).arg hl1).put [.int .i64 (f 0), .int .i64 (f 1), .int .i64 (f 2), .int .i64 (f 3), .int .i64 (f 4), .int .i64 (f 5), .int .i64 s1, .slice a1 n1 c1, .int .i64 t1, .slice b1 m1 d1] 30)
    try simp only [World.size_alloc] at s0
    have S0 := Lib.hid s0
    clear s0
    clear hl1 hk1 ll1 lk1 ho
    go_enter Tryd.func7, Tryd.ntmps7
    go_wp2_with fail
    refine (HD.out _).mono ?_
    rintro e w1 ⟨rfl, hb⟩
    have R1 := Lib.hid (S0.out.later hb)
    clear hb
    go_wp2_with fail
    go_ret
    exact ⟨rfl, R1.out.below⟩
  · rw [ho] at HD hr
    rcases hq : fRightB s1 l1 t1 k1 with _ | _
    · rw [hq] at hr
      have LL1 := Lib.hid ll1
      have LK1 := Lib.hid lk1
      have HQ := Lib.hid hq
      obtain rfl : false = r := hr
      have s0 := ((((Sf.start w).arg hk1).arg hl1).put [.int .i64 (f 0), .int .i64 (f 1), .int .i64 (f 2), .int .i64 (f 3), .int .i64 (f 4), .int .i64 (f 5), .int .i64 s1, .slice a1 n1 c1, .int .i64 t1, .slice b1 m1 d1] 30)
      try simp only [World.size_alloc] at s0
      have S0 := Lib.hid s0
      clear s0
      clear hl1 hk1 ll1 lk1 ho hq
      have HS : Hid (∀ W, RowKit.Below w.heap.size w W → Ints W (.slice a1 n1 c1) l1 → Ints W (.slice b1 m1 d1) k1 → Calls Tryd.prog 18 #[.agg #[.int .i64 s1, .slice a1 n1 c1, .int .i64 t1, .slice b1 m1 d1]] W fun e w' => e = .returned (.int .i64 0) ∧ RowKit.Below W.heap.size W w') := Lib.hid (fun W _ h1 h2 => by
        have := fsign_any (w := W) (s := s1) (t := t1) h1 h2 LL1.out LK1.out
        rw [HQ.out] at this; exact this)
      go_enter Tryd.func7, Tryd.ntmps7
      go_wp2_with fail
      refine (HD.out _).mono ?_
      rintro e w1 ⟨rfl, hb⟩
      have R1 := Lib.hid (S0.out.later hb)
      clear hb
      have q1 := (R1.out.box (w.heap.size, 30, [.int .i64 (f 0), .int .i64 (f 1), .int .i64 (f 2), .int .i64 (f 3), .int .i64 (f 4), .int .i64 (f 5), .int .i64 s1, .slice a1 n1 c1, .int .i64 t1, .slice b1 m1 d1]) List.mem_cons_self).cell 0
      have q2 := (R1.out.box (w.heap.size, 30, [.int .i64 (f 0), .int .i64 (f 1), .int .i64 (f 2), .int .i64 (f 3), .int .i64 (f 4), .int .i64 (f 5), .int .i64 s1, .slice a1 n1 c1, .int .i64 t1, .slice b1 m1 d1]) List.mem_cons_self).cell 1
      have q3 := (R1.out.box (w.heap.size, 30, [.int .i64 (f 0), .int .i64 (f 1), .int .i64 (f 2), .int .i64 (f 3), .int .i64 (f 4), .int .i64 (f 5), .int .i64 s1, .slice a1 n1 c1, .int .i64 t1, .slice b1 m1 d1]) List.mem_cons_self).cell 2
      have q4 := (R1.out.box (w.heap.size, 30, [.int .i64 (f 0), .int .i64 (f 1), .int .i64 (f 2), .int .i64 (f 3), .int .i64 (f 4), .int .i64 (f 5), .int .i64 s1, .slice a1 n1 c1, .int .i64 t1, .slice b1 m1 d1]) List.mem_cons_self).cell 3
      have q5 := (R1.out.box (w.heap.size, 30, [.int .i64 (f 0), .int .i64 (f 1), .int .i64 (f 2), .int .i64 (f 3), .int .i64 (f 4), .int .i64 (f 5), .int .i64 s1, .slice a1 n1 c1, .int .i64 t1, .slice b1 m1 d1]) List.mem_cons_self).cell 4
      have q6 := (R1.out.box (w.heap.size, 30, [.int .i64 (f 0), .int .i64 (f 1), .int .i64 (f 2), .int .i64 (f 3), .int .i64 (f 4), .int .i64 (f 5), .int .i64 s1, .slice a1 n1 c1, .int .i64 t1, .slice b1 m1 d1]) List.mem_cons_self).cell 5
      have q7 := (R1.out.box (w.heap.size, 30, [.int .i64 (f 0), .int .i64 (f 1), .int .i64 (f 2), .int .i64 (f 3), .int .i64 (f 4), .int .i64 (f 5), .int .i64 s1, .slice a1 n1 c1, .int .i64 t1, .slice b1 m1 d1]) List.mem_cons_self).cell 6
      have q8 := (R1.out.box (w.heap.size, 30, [.int .i64 (f 0), .int .i64 (f 1), .int .i64 (f 2), .int .i64 (f 3), .int .i64 (f 4), .int .i64 (f 5), .int .i64 s1, .slice a1 n1 c1, .int .i64 t1, .slice b1 m1 d1]) List.mem_cons_self).cell 7
      have q9 := (R1.out.box (w.heap.size, 30, [.int .i64 (f 0), .int .i64 (f 1), .int .i64 (f 2), .int .i64 (f 3), .int .i64 (f 4), .int .i64 (f 5), .int .i64 s1, .slice a1 n1 c1, .int .i64 t1, .slice b1 m1 d1]) List.mem_cons_self).cell 8
      have q10 := (R1.out.box (w.heap.size, 30, [.int .i64 (f 0), .int .i64 (f 1), .int .i64 (f 2), .int .i64 (f 3), .int .i64 (f 4), .int .i64 (f 5), .int .i64 s1, .slice a1 n1 c1, .int .i64 t1, .slice b1 m1 d1]) List.mem_cons_self).cell 9
      simp only [List.getElem?_cons_succ, List.getElem?_cons_zero] at q1 q2 q3 q4 q5 q6 q7 q8 q9 q10
      go_wp2_with fail
      clear q1 q2 q3 q4 q5 q6 q7 q8 q9 q10
      refine (HS.out _ R1.out.below (R1.out.ints (.slice a1 n1 c1, l1) List.mem_cons_self) (R1.out.ints (.slice b1 m1 d1, k1) (List.mem_cons_of_mem _ List.mem_cons_self))).mono ?_
      rintro e w2 ⟨rfl, hb⟩
      have R2 := Lib.hid (R1.out.later hb)
      clear hb
      go_wp2_with fail
      go_ret
      exact ⟨rfl, R2.out.below⟩
    · rw [hq] at hr
      have LL1 := Lib.hid ll1
      have LK1 := Lib.hid lk1
      have HQ := Lib.hid hq
      obtain rfl : decide (0 < s1) = r := by simpa using hr
      have s0 := ((((Sf.start w).arg hk1).arg hl1).put [.int .i64 (f 0), .int .i64 (f 1), .int .i64 (f 2), .int .i64 (f 3), .int .i64 (f 4), .int .i64 (f 5), .int .i64 s1, .slice a1 n1 c1, .int .i64 t1, .slice b1 m1 d1] 30)
      try simp only [World.size_alloc] at s0
      have S0 := Lib.hid s0
      clear s0
      clear hl1 hk1 ll1 lk1 ho hq
      have HS : Hid (∀ W, RowKit.Below w.heap.size w W → Ints W (.slice a1 n1 c1) l1 → Ints W (.slice b1 m1 d1) k1 → Calls Tryd.prog 18 #[.agg #[.int .i64 s1, .slice a1 n1 c1, .int .i64 t1, .slice b1 m1 d1]] W fun e w' => e = .returned (.int .i64 s1) ∧ RowKit.Below W.heap.size W w') := Lib.hid (fun W _ h1 h2 => by
        have := fsign_any (w := W) (s := s1) (t := t1) h1 h2 LL1.out LK1.out
        rw [HQ.out] at this; exact this)
      go_enter Tryd.func7, Tryd.ntmps7
      go_wp2_with fail
      refine (HD.out _).mono ?_
      rintro e w1 ⟨rfl, hb⟩
      have R1 := Lib.hid (S0.out.later hb)
      clear hb
      have q1 := (R1.out.box (w.heap.size, 30, [.int .i64 (f 0), .int .i64 (f 1), .int .i64 (f 2), .int .i64 (f 3), .int .i64 (f 4), .int .i64 (f 5), .int .i64 s1, .slice a1 n1 c1, .int .i64 t1, .slice b1 m1 d1]) List.mem_cons_self).cell 0
      have q2 := (R1.out.box (w.heap.size, 30, [.int .i64 (f 0), .int .i64 (f 1), .int .i64 (f 2), .int .i64 (f 3), .int .i64 (f 4), .int .i64 (f 5), .int .i64 s1, .slice a1 n1 c1, .int .i64 t1, .slice b1 m1 d1]) List.mem_cons_self).cell 1
      have q3 := (R1.out.box (w.heap.size, 30, [.int .i64 (f 0), .int .i64 (f 1), .int .i64 (f 2), .int .i64 (f 3), .int .i64 (f 4), .int .i64 (f 5), .int .i64 s1, .slice a1 n1 c1, .int .i64 t1, .slice b1 m1 d1]) List.mem_cons_self).cell 2
      have q4 := (R1.out.box (w.heap.size, 30, [.int .i64 (f 0), .int .i64 (f 1), .int .i64 (f 2), .int .i64 (f 3), .int .i64 (f 4), .int .i64 (f 5), .int .i64 s1, .slice a1 n1 c1, .int .i64 t1, .slice b1 m1 d1]) List.mem_cons_self).cell 3
      have q5 := (R1.out.box (w.heap.size, 30, [.int .i64 (f 0), .int .i64 (f 1), .int .i64 (f 2), .int .i64 (f 3), .int .i64 (f 4), .int .i64 (f 5), .int .i64 s1, .slice a1 n1 c1, .int .i64 t1, .slice b1 m1 d1]) List.mem_cons_self).cell 4
      have q6 := (R1.out.box (w.heap.size, 30, [.int .i64 (f 0), .int .i64 (f 1), .int .i64 (f 2), .int .i64 (f 3), .int .i64 (f 4), .int .i64 (f 5), .int .i64 s1, .slice a1 n1 c1, .int .i64 t1, .slice b1 m1 d1]) List.mem_cons_self).cell 5
      have q7 := (R1.out.box (w.heap.size, 30, [.int .i64 (f 0), .int .i64 (f 1), .int .i64 (f 2), .int .i64 (f 3), .int .i64 (f 4), .int .i64 (f 5), .int .i64 s1, .slice a1 n1 c1, .int .i64 t1, .slice b1 m1 d1]) List.mem_cons_self).cell 6
      have q8 := (R1.out.box (w.heap.size, 30, [.int .i64 (f 0), .int .i64 (f 1), .int .i64 (f 2), .int .i64 (f 3), .int .i64 (f 4), .int .i64 (f 5), .int .i64 s1, .slice a1 n1 c1, .int .i64 t1, .slice b1 m1 d1]) List.mem_cons_self).cell 7
      have q9 := (R1.out.box (w.heap.size, 30, [.int .i64 (f 0), .int .i64 (f 1), .int .i64 (f 2), .int .i64 (f 3), .int .i64 (f 4), .int .i64 (f 5), .int .i64 s1, .slice a1 n1 c1, .int .i64 t1, .slice b1 m1 d1]) List.mem_cons_self).cell 8
      have q10 := (R1.out.box (w.heap.size, 30, [.int .i64 (f 0), .int .i64 (f 1), .int .i64 (f 2), .int .i64 (f 3), .int .i64 (f 4), .int .i64 (f 5), .int .i64 s1, .slice a1 n1 c1, .int .i64 t1, .slice b1 m1 d1]) List.mem_cons_self).cell 9
      simp only [List.getElem?_cons_succ, List.getElem?_cons_zero] at q1 q2 q3 q4 q5 q6 q7 q8 q9 q10
      go_wp2_with fail
      clear q1 q2 q3 q4 q5 q6 q7 q8 q9 q10
      refine (HS.out _ R1.out.below (R1.out.ints (.slice a1 n1 c1, l1) List.mem_cons_self) (R1.out.ints (.slice b1 m1 d1, k1) (List.mem_cons_of_mem _ List.mem_cons_self))).mono ?_
      rintro e w2 ⟨rfl, hb⟩
      have R2 := Lib.hid (R1.out.later hb)
      clear hb
      go_wp2_with fail
      go_ret
      exact ⟨rfl, R2.out.below⟩
theorem uright_v {w : World} {f : Nat → Int} {s : Int} {aa ba : Option Addr} {na ca ma da : Nat} {r : Rat} (hf : ok f = true) (h : Fr w s (.slice aa na ca) (.slice ba ma da) r) (l : FSz 1000 r) {b : Bool} (hb : decide (0 < r.num.sign) = b) :
    Calls Tryd.prog 7 #[.agg (uc f s (.slice aa na ca) 1 (.slice ba ma da))] w fun e w' => e = .returned (.bool b) ∧ RowKit.Below w.heap.size w w' := by
  obtain ⟨⟨rfl, h1⟩, ⟨_, h2⟩⟩ := h
  exact uright_raw h1 h2 (digs_le l.1) (digs_le l.2) (by rw [uR_is, hf, hb]; rfl)

set_option maxHeartbeats 8000000 in
theorem uto_k {w : World} {f : Nat → Int} {s3 : Int} {a3 b3 : Option Addr} {n3 c3 m3 d3 : Nat} {v : Rat} {s1 : Int} {a1 b1 : Option Addr} {n1 c1 m1 d1 : Nat} {x : Rat} (hv : Fr w s3 (.slice a3 n3 c3) (.slice b3 m3 d3) v) (hx : Fr w s1 (.slice a1 n1 c1) (.slice b1 m1 d1) x) (lv : FSz 1000 v) (lx : FSz 1000 x) (hf : ok f = true) (px : decide (0 < x.num.sign) = true) (x0 : x ≠ 0) {r : Rat} (hr : v / x = r) :
    Calls Tryd.prog 10 #[.agg #[.int .i64 s3, .slice a3 n3 c3, .int .i64 1, .slice b3 m3 d3], .agg (uc f s1 (.slice a1 n1 c1) 1 (.slice b1 m1 d1))] w (FVE r 0 w) := by
  have Ev := Lib.hid hv.1.1
  have Lv := Lib.hid lv
  have Ex := Lib.hid hx.1.1
  have Lx := Lib.hid lx
  have Of := Lib.hid hf
  have Px := Lib.hid px
  have HRR := Lib.hid hr
  have X0 := Lib.hid x0
  have s0 := ((((((((Sf.start w).arg hv.2.2).arg hv.1.2).arg hx.2.2).arg hx.1.2).put [.int .i64 s3, .slice a3 n3 c3, .int .i64 1, .slice b3 m3 d3] 28).put [.int .i64 (f 0), .int .i64 (f 1), .int .i64 (f 2), .int .i64 (f 3), .int .i64 (f 4), .int .i64 (f 5), .int .i64 s1, .slice a1 n1 c1, .int .i64 1, .slice b1 m1 d1] 30).put [.int .i64 0, .slice none 0 0, .int .i64 0, .slice none 0 0] 28)
  try simp only [World.size_alloc] at s0
  have S0 := Lib.hid s0
  clear s0
  clear hv hx lv lx hf px hr x0
  unfold uc
  go_enter Tryd.func10, Tryd.ntmps10
  go_wp2_with fail
  refine (uright_v Of.out (S0.out.fr (v := .slice a1 n1 c1) (u := .slice b1 m1 d1) (r := x) List.mem_cons_self (List.mem_cons_of_mem _ List.mem_cons_self) Ex.out) Lx.out Px.out).mono ?_
  rintro e w1 ⟨rfl, hb⟩
  have R1 := Lib.hid (S0.out.later hb)
  clear hb
  have q1 := (R1.out.box (w.heap.size, 28, [.int .i64 s3, .slice a3 n3 c3, .int .i64 1, .slice b3 m3 d3]) (List.mem_cons_of_mem _ (List.mem_cons_of_mem _ List.mem_cons_self))).cell 0
  have q2 := (R1.out.box (w.heap.size, 28, [.int .i64 s3, .slice a3 n3 c3, .int .i64 1, .slice b3 m3 d3]) (List.mem_cons_of_mem _ (List.mem_cons_of_mem _ List.mem_cons_self))).cell 1
  have q3 := (R1.out.box (w.heap.size, 28, [.int .i64 s3, .slice a3 n3 c3, .int .i64 1, .slice b3 m3 d3]) (List.mem_cons_of_mem _ (List.mem_cons_of_mem _ List.mem_cons_self))).cell 2
  have q4 := (R1.out.box (w.heap.size, 28, [.int .i64 s3, .slice a3 n3 c3, .int .i64 1, .slice b3 m3 d3]) (List.mem_cons_of_mem _ (List.mem_cons_of_mem _ List.mem_cons_self))).cell 3
  simp only [List.getElem?_cons_succ, List.getElem?_cons_zero] at q1 q2 q3 q4
  have q5 := (R1.out.box (w.heap.size + 1, 30, [.int .i64 (f 0), .int .i64 (f 1), .int .i64 (f 2), .int .i64 (f 3), .int .i64 (f 4), .int .i64 (f 5), .int .i64 s1, .slice a1 n1 c1, .int .i64 1, .slice b1 m1 d1]) (List.mem_cons_of_mem _ List.mem_cons_self)).cell 0
  have q6 := (R1.out.box (w.heap.size + 1, 30, [.int .i64 (f 0), .int .i64 (f 1), .int .i64 (f 2), .int .i64 (f 3), .int .i64 (f 4), .int .i64 (f 5), .int .i64 s1, .slice a1 n1 c1, .int .i64 1, .slice b1 m1 d1]) (List.mem_cons_of_mem _ List.mem_cons_self)).cell 1
  have q7 := (R1.out.box (w.heap.size + 1, 30, [.int .i64 (f 0), .int .i64 (f 1), .int .i64 (f 2), .int .i64 (f 3), .int .i64 (f 4), .int .i64 (f 5), .int .i64 s1, .slice a1 n1 c1, .int .i64 1, .slice b1 m1 d1]) (List.mem_cons_of_mem _ List.mem_cons_self)).cell 2
  have q8 := (R1.out.box (w.heap.size + 1, 30, [.int .i64 (f 0), .int .i64 (f 1), .int .i64 (f 2), .int .i64 (f 3), .int .i64 (f 4), .int .i64 (f 5), .int .i64 s1, .slice a1 n1 c1, .int .i64 1, .slice b1 m1 d1]) (List.mem_cons_of_mem _ List.mem_cons_self)).cell 3
  have q9 := (R1.out.box (w.heap.size + 1, 30, [.int .i64 (f 0), .int .i64 (f 1), .int .i64 (f 2), .int .i64 (f 3), .int .i64 (f 4), .int .i64 (f 5), .int .i64 s1, .slice a1 n1 c1, .int .i64 1, .slice b1 m1 d1]) (List.mem_cons_of_mem _ List.mem_cons_self)).cell 4
  have q10 := (R1.out.box (w.heap.size + 1, 30, [.int .i64 (f 0), .int .i64 (f 1), .int .i64 (f 2), .int .i64 (f 3), .int .i64 (f 4), .int .i64 (f 5), .int .i64 s1, .slice a1 n1 c1, .int .i64 1, .slice b1 m1 d1]) (List.mem_cons_of_mem _ List.mem_cons_self)).cell 5
  have q11 := (R1.out.box (w.heap.size + 1, 30, [.int .i64 (f 0), .int .i64 (f 1), .int .i64 (f 2), .int .i64 (f 3), .int .i64 (f 4), .int .i64 (f 5), .int .i64 s1, .slice a1 n1 c1, .int .i64 1, .slice b1 m1 d1]) (List.mem_cons_of_mem _ List.mem_cons_self)).cell 6
  have q12 := (R1.out.box (w.heap.size + 1, 30, [.int .i64 (f 0), .int .i64 (f 1), .int .i64 (f 2), .int .i64 (f 3), .int .i64 (f 4), .int .i64 (f 5), .int .i64 s1, .slice a1 n1 c1, .int .i64 1, .slice b1 m1 d1]) (List.mem_cons_of_mem _ List.mem_cons_self)).cell 7
  have q13 := (R1.out.box (w.heap.size + 1, 30, [.int .i64 (f 0), .int .i64 (f 1), .int .i64 (f 2), .int .i64 (f 3), .int .i64 (f 4), .int .i64 (f 5), .int .i64 s1, .slice a1 n1 c1, .int .i64 1, .slice b1 m1 d1]) (List.mem_cons_of_mem _ List.mem_cons_self)).cell 8
  have q14 := (R1.out.box (w.heap.size + 1, 30, [.int .i64 (f 0), .int .i64 (f 1), .int .i64 (f 2), .int .i64 (f 3), .int .i64 (f 4), .int .i64 (f 5), .int .i64 s1, .slice a1 n1 c1, .int .i64 1, .slice b1 m1 d1]) (List.mem_cons_of_mem _ List.mem_cons_self)).cell 9
  simp only [List.getElem?_cons_succ, List.getElem?_cons_zero] at q5 q6 q7 q8 q9 q10 q11 q12 q13 q14
  go_wp2_with fail
  clear q1 q2 q3 q4 q5 q6 q7 q8 q9 q10 q11 q12 q13 q14
  refine (fdiv_r (R1.out.fr (v := .slice a3 n3 c3) (u := .slice b3 m3 d3) (r := v) (List.mem_cons_of_mem _ (List.mem_cons_of_mem _ List.mem_cons_self)) (List.mem_cons_of_mem _ (List.mem_cons_of_mem _ (List.mem_cons_of_mem _ List.mem_cons_self))) Ev.out) (R1.out.fr (v := .slice a1 n1 c1) (u := .slice b1 m1 d1) (r := x) List.mem_cons_self (List.mem_cons_of_mem _ List.mem_cons_self) Ex.out) Lv.out Lx.out X0.out HRR.out).mono ?_
  rintro e w2 ⟨sx2, ax2, nx2, cx2, bx2, mx2, dx2, rfl, hr, hb, hf, hg⟩
  have E2 := Lib.hid hr.1.1
  have R2 := Lib.hid (R1.out.ret2 hb hr.1.2 hf hr.2.2 hg)
  have FF2 := Lib.hid (hf.mono R1.out.below.size)
  have FG2 := Lib.hid (hg.mono R1.out.below.size)
  clear hr hb hf hg
  have Q15 := Lib.hid (Sf.row (pre := []) R2.out [.int .i64 sx2, .slice ax2 nx2 cx2, .int .i64 1, .slice bx2 mx2 dx2])
  go_wp2_with (first | refine wpList_store_row rfl _ _ _ rfl _ #[.int .i64 sx2, .slice ax2 nx2 cx2, .int .i64 1, .slice bx2 mx2 dx2] rfl rfl _ _ (R2.out.box _ List.mem_cons_self) (by kernel_rfl) rfl (by simp [Value.oneCell']) ?_)
  refine bodyPost_ret (ret_row rfl _ _ _ _ rfl (run_loadVar_row _ _ _ _ _ (0, 0) _ (Q15.out.box _ List.mem_cons_self) Tryd.underlying28 rfl (by kernel_rfl))) rfl ⟨_, _, _, _, _, _, _, rfl, (Q15.out.fr (v := .slice ax2 nx2 cx2) (u := .slice bx2 mx2 dx2) (r := r) List.mem_cons_self (List.mem_cons_of_mem _ List.mem_cons_self) E2.out), Q15.out.below, FF2.out, FG2.out⟩

set_option maxHeartbeats 8000000 in
theorem ufrom_k {w : World} {f : Nat → Int} {s3 : Int} {a3 b3 : Option Addr} {n3 c3 m3 d3 : Nat} {v : Rat} {s1 : Int} {a1 b1 : Option Addr} {n1 c1 m1 d1 : Nat} {x : Rat} (hv : Fr w s3 (.slice a3 n3 c3) (.slice b3 m3 d3) v) (hx : Fr w s1 (.slice a1 n1 c1) (.slice b1 m1 d1) x) (lv : FSz 1000 v) (lx : FSz 1000 x) (hf : ok f = true) (px : decide (0 < x.num.sign) = true) {r : Rat} (hr : v * x = r) :
    Calls Tryd.prog 9 #[.agg #[.int .i64 s3, .slice a3 n3 c3, .int .i64 1, .slice b3 m3 d3], .agg (uc f s1 (.slice a1 n1 c1) 1 (.slice b1 m1 d1))] w (FVE r 0 w) := by
  have Ev := Lib.hid hv.1.1
  have Lv := Lib.hid lv
  have Ex := Lib.hid hx.1.1
  have Lx := Lib.hid lx
  have Of := Lib.hid hf
  have Px := Lib.hid px
  have HRR := Lib.hid hr
  have s0 := ((((((((Sf.start w).arg hv.2.2).arg hv.1.2).arg hx.2.2).arg hx.1.2).put [.int .i64 s3, .slice a3 n3 c3, .int .i64 1, .slice b3 m3 d3] 28).put [.int .i64 (f 0), .int .i64 (f 1), .int .i64 (f 2), .int .i64 (f 3), .int .i64 (f 4), .int .i64 (f 5), .int .i64 s1, .slice a1 n1 c1, .int .i64 1, .slice b1 m1 d1] 30).put [.int .i64 0, .slice none 0 0, .int .i64 0, .slice none 0 0] 28)
  try simp only [World.size_alloc] at s0
  have S0 := Lib.hid s0
  clear s0
  clear hv hx lv lx hf px hr
  unfold uc
  go_enter Tryd.func9, Tryd.ntmps9
  go_wp2_with fail
  refine (uright_v Of.out (S0.out.fr (v := .slice a1 n1 c1) (u := .slice b1 m1 d1) (r := x) List.mem_cons_self (List.mem_cons_of_mem _ List.mem_cons_self) Ex.out) Lx.out Px.out).mono ?_
  rintro e w1 ⟨rfl, hb⟩
  have R1 := Lib.hid (S0.out.later hb)
  clear hb
  have q1 := (R1.out.box (w.heap.size, 28, [.int .i64 s3, .slice a3 n3 c3, .int .i64 1, .slice b3 m3 d3]) (List.mem_cons_of_mem _ (List.mem_cons_of_mem _ List.mem_cons_self))).cell 0
  have q2 := (R1.out.box (w.heap.size, 28, [.int .i64 s3, .slice a3 n3 c3, .int .i64 1, .slice b3 m3 d3]) (List.mem_cons_of_mem _ (List.mem_cons_of_mem _ List.mem_cons_self))).cell 1
  have q3 := (R1.out.box (w.heap.size, 28, [.int .i64 s3, .slice a3 n3 c3, .int .i64 1, .slice b3 m3 d3]) (List.mem_cons_of_mem _ (List.mem_cons_of_mem _ List.mem_cons_self))).cell 2
  have q4 := (R1.out.box (w.heap.size, 28, [.int .i64 s3, .slice a3 n3 c3, .int .i64 1, .slice b3 m3 d3]) (List.mem_cons_of_mem _ (List.mem_cons_of_mem _ List.mem_cons_self))).cell 3
  simp only [List.getElem?_cons_succ, List.getElem?_cons_zero] at q1 q2 q3 q4
  have q5 := (R1.out.box (w.heap.size + 1, 30, [.int .i64 (f 0), .int .i64 (f 1), .int .i64 (f 2), .int .i64 (f 3), .int .i64 (f 4), .int .i64 (f 5), .int .i64 s1, .slice a1 n1 c1, .int .i64 1, .slice b1 m1 d1]) (List.mem_cons_of_mem _ List.mem_cons_self)).cell 0
  have q6 := (R1.out.box (w.heap.size + 1, 30, [.int .i64 (f 0), .int .i64 (f 1), .int .i64 (f 2), .int .i64 (f 3), .int .i64 (f 4), .int .i64 (f 5), .int .i64 s1, .slice a1 n1 c1, .int .i64 1, .slice b1 m1 d1]) (List.mem_cons_of_mem _ List.mem_cons_self)).cell 1
  have q7 := (R1.out.box (w.heap.size + 1, 30, [.int .i64 (f 0), .int .i64 (f 1), .int .i64 (f 2), .int .i64 (f 3), .int .i64 (f 4), .int .i64 (f 5), .int .i64 s1, .slice a1 n1 c1, .int .i64 1, .slice b1 m1 d1]) (List.mem_cons_of_mem _ List.mem_cons_self)).cell 2
  have q8 := (R1.out.box (w.heap.size + 1, 30, [.int .i64 (f 0), .int .i64 (f 1), .int .i64 (f 2), .int .i64 (f 3), .int .i64 (f 4), .int .i64 (f 5), .int .i64 s1, .slice a1 n1 c1, .int .i64 1, .slice b1 m1 d1]) (List.mem_cons_of_mem _ List.mem_cons_self)).cell 3
  have q9 := (R1.out.box (w.heap.size + 1, 30, [.int .i64 (f 0), .int .i64 (f 1), .int .i64 (f 2), .int .i64 (f 3), .int .i64 (f 4), .int .i64 (f 5), .int .i64 s1, .slice a1 n1 c1, .int .i64 1, .slice b1 m1 d1]) (List.mem_cons_of_mem _ List.mem_cons_self)).cell 4
  have q10 := (R1.out.box (w.heap.size + 1, 30, [.int .i64 (f 0), .int .i64 (f 1), .int .i64 (f 2), .int .i64 (f 3), .int .i64 (f 4), .int .i64 (f 5), .int .i64 s1, .slice a1 n1 c1, .int .i64 1, .slice b1 m1 d1]) (List.mem_cons_of_mem _ List.mem_cons_self)).cell 5
  have q11 := (R1.out.box (w.heap.size + 1, 30, [.int .i64 (f 0), .int .i64 (f 1), .int .i64 (f 2), .int .i64 (f 3), .int .i64 (f 4), .int .i64 (f 5), .int .i64 s1, .slice a1 n1 c1, .int .i64 1, .slice b1 m1 d1]) (List.mem_cons_of_mem _ List.mem_cons_self)).cell 6
  have q12 := (R1.out.box (w.heap.size + 1, 30, [.int .i64 (f 0), .int .i64 (f 1), .int .i64 (f 2), .int .i64 (f 3), .int .i64 (f 4), .int .i64 (f 5), .int .i64 s1, .slice a1 n1 c1, .int .i64 1, .slice b1 m1 d1]) (List.mem_cons_of_mem _ List.mem_cons_self)).cell 7
  have q13 := (R1.out.box (w.heap.size + 1, 30, [.int .i64 (f 0), .int .i64 (f 1), .int .i64 (f 2), .int .i64 (f 3), .int .i64 (f 4), .int .i64 (f 5), .int .i64 s1, .slice a1 n1 c1, .int .i64 1, .slice b1 m1 d1]) (List.mem_cons_of_mem _ List.mem_cons_self)).cell 8
  have q14 := (R1.out.box (w.heap.size + 1, 30, [.int .i64 (f 0), .int .i64 (f 1), .int .i64 (f 2), .int .i64 (f 3), .int .i64 (f 4), .int .i64 (f 5), .int .i64 s1, .slice a1 n1 c1, .int .i64 1, .slice b1 m1 d1]) (List.mem_cons_of_mem _ List.mem_cons_self)).cell 9
  simp only [List.getElem?_cons_succ, List.getElem?_cons_zero] at q5 q6 q7 q8 q9 q10 q11 q12 q13 q14
  go_wp2_with fail
  clear q1 q2 q3 q4 q5 q6 q7 q8 q9 q10 q11 q12 q13 q14
  refine (fmul_r (R1.out.fr (v := .slice a3 n3 c3) (u := .slice b3 m3 d3) (r := v) (List.mem_cons_of_mem _ (List.mem_cons_of_mem _ List.mem_cons_self)) (List.mem_cons_of_mem _ (List.mem_cons_of_mem _ (List.mem_cons_of_mem _ List.mem_cons_self))) Ev.out) (R1.out.fr (v := .slice a1 n1 c1) (u := .slice b1 m1 d1) (r := x) List.mem_cons_self (List.mem_cons_of_mem _ List.mem_cons_self) Ex.out) Lv.out Lx.out HRR.out).mono ?_
  rintro e w2 ⟨sx2, ax2, nx2, cx2, bx2, mx2, dx2, rfl, hr, hb, hf, hg⟩
  have E2 := Lib.hid hr.1.1
  have R2 := Lib.hid (R1.out.ret2 hb hr.1.2 hf hr.2.2 hg)
  have FF2 := Lib.hid (hf.mono R1.out.below.size)
  have FG2 := Lib.hid (hg.mono R1.out.below.size)
  clear hr hb hf hg
  have Q15 := Lib.hid (Sf.row (pre := []) R2.out [.int .i64 sx2, .slice ax2 nx2 cx2, .int .i64 1, .slice bx2 mx2 dx2])
  go_wp2_with (first | refine wpList_store_row rfl _ _ _ rfl _ #[.int .i64 sx2, .slice ax2 nx2 cx2, .int .i64 1, .slice bx2 mx2 dx2] rfl rfl _ _ (R2.out.box _ List.mem_cons_self) (by kernel_rfl) rfl (by simp [Value.oneCell']) ?_)
  refine bodyPost_ret (ret_row rfl _ _ _ _ rfl (run_loadVar_row _ _ _ _ _ (0, 0) _ (Q15.out.box _ List.mem_cons_self) Tryd.underlying28 rfl (by kernel_rfl))) rfl ⟨_, _, _, _, _, _, _, rfl, (Q15.out.fr (v := .slice ax2 nx2 cx2) (u := .slice bx2 mx2 dx2) (r := r) List.mem_cons_self (List.mem_cons_of_mem _ List.mem_cons_self) E2.out), Q15.out.below, FF2.out, FG2.out⟩

set_option maxHeartbeats 8000000 in
theorem uto_bad {w : World} {f : Nat → Int} {s3 t3 : Int} {a3 b3 : Option Addr} {n3 c3 m3 d3 : Nat} {l3 k3 : List Int} {s1 t1 : Int} {a1 b1 : Option Addr} {n1 c1 m1 d1 : Nat} {l1 k1 : List Int} (hl3 : Ints w (.slice a3 n3 c3) l3) (hk3 : Ints w (.slice b3 m3 d3) k3) (ll3 : l3.length ≤ 1000) (lk3 : k3.length ≤ 1000) (hl1 : Ints w (.slice a1 n1 c1) l1) (hk1 : Ints w (.slice b1 m1 d1) k1) (ll1 : l1.length ≤ 1000) (lk1 : k1.length ≤ 1000) (hr : (uR f s1 l1 t1 k1 && fRightB s3 l3 t3 k3) = false) :
    Calls Tryd.prog 10 #[.agg #[.int .i64 s3, .slice a3 n3 c3, .int .i64 t3, .slice b3 m3 d3], .agg #[.int .i64 (f 0), .int .i64 (f 1), .int .i64 (f 2), .int .i64 (f 3), .int .i64 (f 4), .int .i64 (f 5), .int .i64 s1, .slice a1 n1 c1, .int .i64 t1, .slice b1 m1 d1]] w (FZE 1 w) := by
  unfold FZE
  rcases ea : uR f s1 l1 t1 k1 with _ | _
  · skip
    have LL3 := Lib.hid ll3
    have LK3 := Lib.hid lk3
    have LL1 := Lib.hid ll1
    have LK1 := Lib.hid lk1
    have EA := Lib.hid ea
    have s0 := ((((((((Sf.start w).arg hk3).arg hl3).arg hk1).arg hl1).put [.int .i64 s3, .slice a3 n3 c3, .int .i64 t3, .slice b3 m3 d3] 28).put [.int .i64 (f 0), .int .i64 (f 1), .int .i64 (f 2), .int .i64 (f 3), .int .i64 (f 4), .int .i64 (f 5), .int .i64 s1, .slice a1 n1 c1, .int .i64 t1, .slice b1 m1 d1] 30).put [.int .i64 0, .slice none 0 0, .int .i64 0, .slice none 0 0] 28)
    try simp only [World.size_alloc] at s0
    have S0 := Lib.hid s0
    clear s0
    clear hr ea hl3 hk3 ll3 lk3 hl1 hk1 ll1 lk1
    go_enter Tryd.func10, Tryd.ntmps10
    go_wp2_with fail
    refine (uright_raw (S0.out.ints (.slice a1 n1 c1, l1) List.mem_cons_self) (S0.out.ints (.slice b1 m1 d1, k1) (List.mem_cons_of_mem _ List.mem_cons_self)) LL1.out LK1.out EA.out).mono ?_
    rintro e w1 ⟨rfl, hb⟩
    have R1 := Lib.hid (S0.out.later hb)
    clear hb
    have Q1 := Lib.hid (Sf.row (pre := []) R1.out [.int .i64 0, .slice none 0 0, .int .i64 0, .slice none 0 0])
    go_wp2_with (first | refine wpList_store_row rfl _ _ _ rfl _ #[.int .i64 0, .slice none 0 0, .int .i64 0, .slice none 0 0] rfl rfl _ _ (R1.out.box _ List.mem_cons_self) (by kernel_rfl) rfl (by simp [Value.oneCell']) ?_)
    refine bodyPost_ret (ret_row rfl _ _ _ _ rfl (run_loadVar_row _ _ _ _ _ (0, 0) _ (Q1.out.box _ List.mem_cons_self) Tryd.underlying28 rfl (by kernel_rfl))) rfl ⟨rfl, Q1.out.below⟩
  · have eb : fRightB s3 l3 t3 k3 = false := by rw [ea] at hr; simpa using hr
    have LL3 := Lib.hid ll3
    have LK3 := Lib.hid lk3
    have LL1 := Lib.hid ll1
    have LK1 := Lib.hid lk1
    have EA := Lib.hid ea
    have EB := Lib.hid eb
    have EAB : Hid ((fRightB s3 l3 t3 k3 && fRightB s1 l1 t1 k1) = false) := Lib.hid (by rw [eb]; rfl)
    have s0 := ((((((((Sf.start w).arg hk3).arg hl3).arg hk1).arg hl1).put [.int .i64 s3, .slice a3 n3 c3, .int .i64 t3, .slice b3 m3 d3] 28).put [.int .i64 (f 0), .int .i64 (f 1), .int .i64 (f 2), .int .i64 (f 3), .int .i64 (f 4), .int .i64 (f 5), .int .i64 s1, .slice a1 n1 c1, .int .i64 t1, .slice b1 m1 d1] 30).put [.int .i64 0, .slice none 0 0, .int .i64 0, .slice none 0 0] 28)
    try simp only [World.size_alloc] at s0
    have S0 := Lib.hid s0
    clear s0
    clear hr ea hl3 hk3 ll3 lk3 hl1 hk1 ll1 lk1 eb
    go_enter Tryd.func10, Tryd.ntmps10
    go_wp2_with fail
    refine (uright_raw (S0.out.ints (.slice a1 n1 c1, l1) List.mem_cons_self) (S0.out.ints (.slice b1 m1 d1, k1) (List.mem_cons_of_mem _ List.mem_cons_self)) LL1.out LK1.out EA.out).mono ?_
    rintro e w1 ⟨rfl, hb⟩
    have R1 := Lib.hid (S0.out.later hb)
    clear hb
    have q1 := (R1.out.box (w.heap.size, 28, [.int .i64 s3, .slice a3 n3 c3, .int .i64 t3, .slice b3 m3 d3]) (List.mem_cons_of_mem _ (List.mem_cons_of_mem _ List.mem_cons_self))).cell 0
    have q2 := (R1.out.box (w.heap.size, 28, [.int .i64 s3, .slice a3 n3 c3, .int .i64 t3, .slice b3 m3 d3]) (List.mem_cons_of_mem _ (List.mem_cons_of_mem _ List.mem_cons_self))).cell 1
    have q3 := (R1.out.box (w.heap.size, 28, [.int .i64 s3, .slice a3 n3 c3, .int .i64 t3, .slice b3 m3 d3]) (List.mem_cons_of_mem _ (List.mem_cons_of_mem _ List.mem_cons_self))).cell 2
    have q4 := (R1.out.box (w.heap.size, 28, [.int .i64 s3, .slice a3 n3 c3, .int .i64 t3, .slice b3 m3 d3]) (List.mem_cons_of_mem _ (List.mem_cons_of_mem _ List.mem_cons_self))).cell 3
    simp only [List.getElem?_cons_succ, List.getElem?_cons_zero] at q1 q2 q3 q4
    have q5 := (R1.out.box (w.heap.size + 1, 30, [.int .i64 (f 0), .int .i64 (f 1), .int .i64 (f 2), .int .i64 (f 3), .int .i64 (f 4), .int .i64 (f 5), .int .i64 s1, .slice a1 n1 c1, .int .i64 t1, .slice b1 m1 d1]) (List.mem_cons_of_mem _ List.mem_cons_self)).cell 0
    have q6 := (R1.out.box (w.heap.size + 1, 30, [.int .i64 (f 0), .int .i64 (f 1), .int .i64 (f 2), .int .i64 (f 3), .int .i64 (f 4), .int .i64 (f 5), .int .i64 s1, .slice a1 n1 c1, .int .i64 t1, .slice b1 m1 d1]) (List.mem_cons_of_mem _ List.mem_cons_self)).cell 1
    have q7 := (R1.out.box (w.heap.size + 1, 30, [.int .i64 (f 0), .int .i64 (f 1), .int .i64 (f 2), .int .i64 (f 3), .int .i64 (f 4), .int .i64 (f 5), .int .i64 s1, .slice a1 n1 c1, .int .i64 t1, .slice b1 m1 d1]) (List.mem_cons_of_mem _ List.mem_cons_self)).cell 2
    have q8 := (R1.out.box (w.heap.size + 1, 30, [.int .i64 (f 0), .int .i64 (f 1), .int .i64 (f 2), .int .i64 (f 3), .int .i64 (f 4), .int .i64 (f 5), .int .i64 s1, .slice a1 n1 c1, .int .i64 t1, .slice b1 m1 d1]) (List.mem_cons_of_mem _ List.mem_cons_self)).cell 3
    have q9 := (R1.out.box (w.heap.size + 1, 30, [.int .i64 (f 0), .int .i64 (f 1), .int .i64 (f 2), .int .i64 (f 3), .int .i64 (f 4), .int .i64 (f 5), .int .i64 s1, .slice a1 n1 c1, .int .i64 t1, .slice b1 m1 d1]) (List.mem_cons_of_mem _ List.mem_cons_self)).cell 4
    have q10 := (R1.out.box (w.heap.size + 1, 30, [.int .i64 (f 0), .int .i64 (f 1), .int .i64 (f 2), .int .i64 (f 3), .int .i64 (f 4), .int .i64 (f 5), .int .i64 s1, .slice a1 n1 c1, .int .i64 t1, .slice b1 m1 d1]) (List.mem_cons_of_mem _ List.mem_cons_self)).cell 5
    have q11 := (R1.out.box (w.heap.size + 1, 30, [.int .i64 (f 0), .int .i64 (f 1), .int .i64 (f 2), .int .i64 (f 3), .int .i64 (f 4), .int .i64 (f 5), .int .i64 s1, .slice a1 n1 c1, .int .i64 t1, .slice b1 m1 d1]) (List.mem_cons_of_mem _ List.mem_cons_self)).cell 6
    have q12 := (R1.out.box (w.heap.size + 1, 30, [.int .i64 (f 0), .int .i64 (f 1), .int .i64 (f 2), .int .i64 (f 3), .int .i64 (f 4), .int .i64 (f 5), .int .i64 s1, .slice a1 n1 c1, .int .i64 t1, .slice b1 m1 d1]) (List.mem_cons_of_mem _ List.mem_cons_self)).cell 7
    have q13 := (R1.out.box (w.heap.size + 1, 30, [.int .i64 (f 0), .int .i64 (f 1), .int .i64 (f 2), .int .i64 (f 3), .int .i64 (f 4), .int .i64 (f 5), .int .i64 s1, .slice a1 n1 c1, .int .i64 t1, .slice b1 m1 d1]) (List.mem_cons_of_mem _ List.mem_cons_self)).cell 8
    have q14 := (R1.out.box (w.heap.size + 1, 30, [.int .i64 (f 0), .int .i64 (f 1), .int .i64 (f 2), .int .i64 (f 3), .int .i64 (f 4), .int .i64 (f 5), .int .i64 s1, .slice a1 n1 c1, .int .i64 t1, .slice b1 m1 d1]) (List.mem_cons_of_mem _ List.mem_cons_self)).cell 9
    simp only [List.getElem?_cons_succ, List.getElem?_cons_zero] at q5 q6 q7 q8 q9 q10 q11 q12 q13 q14
    go_wp2_with fail
    clear q1 q2 q3 q4 q5 q6 q7 q8 q9 q10 q11 q12 q13 q14
    refine (fdiv_bad s3 a3 n3 c3 l3 t3 b3 m3 d3 k3 s1 a1 n1 c1 l1 t1 b1 m1 d1 k1 _ (R1.out.ints (.slice a3 n3 c3, l3) (List.mem_cons_of_mem _ (List.mem_cons_of_mem _ List.mem_cons_self))) (R1.out.ints (.slice b3 m3 d3, k3) (List.mem_cons_of_mem _ (List.mem_cons_of_mem _ (List.mem_cons_of_mem _ List.mem_cons_self)))) (Nat.le_trans LL3.out (by decide)) (Nat.le_trans LK3.out (by decide)) (R1.out.ints (.slice a1 n1 c1, l1) List.mem_cons_self) (R1.out.ints (.slice b1 m1 d1, k1) (List.mem_cons_of_mem _ List.mem_cons_self)) (Nat.le_trans LL1.out (by decide)) (Nat.le_trans LK1.out (by decide)) EAB.out).mono ?_
    rintro e w2 ⟨rfl, hb⟩
    have R2 := Lib.hid (R1.out.later hb)
    clear hb
    have Q15 := Lib.hid (Sf.row (pre := []) R2.out [.int .i64 0, .slice none 0 0, .int .i64 0, .slice none 0 0])
    go_wp2_with (first | refine wpList_store_row rfl _ _ _ rfl _ #[.int .i64 0, .slice none 0 0, .int .i64 0, .slice none 0 0] rfl rfl _ _ (R2.out.box _ List.mem_cons_self) (by kernel_rfl) rfl (by simp [Value.oneCell']) ?_)
    refine bodyPost_ret (ret_row rfl _ _ _ _ rfl (run_loadVar_row _ _ _ _ _ (0, 0) _ (Q15.out.box _ List.mem_cons_self) Tryd.underlying28 rfl (by kernel_rfl))) rfl ⟨rfl, Q15.out.below⟩

set_option maxHeartbeats 8000000 in
theorem ufrom_bad {w : World} {f : Nat → Int} {s3 t3 : Int} {a3 b3 : Option Addr} {n3 c3 m3 d3 : Nat} {l3 k3 : List Int} {s1 t1 : Int} {a1 b1 : Option Addr} {n1 c1 m1 d1 : Nat} {l1 k1 : List Int} (hl3 : Ints w (.slice a3 n3 c3) l3) (hk3 : Ints w (.slice b3 m3 d3) k3) (ll3 : l3.length ≤ 1000) (lk3 : k3.length ≤ 1000) (hl1 : Ints w (.slice a1 n1 c1) l1) (hk1 : Ints w (.slice b1 m1 d1) k1) (ll1 : l1.length ≤ 1000) (lk1 : k1.length ≤ 1000) (hr : (uR f s1 l1 t1 k1 && fRightB s3 l3 t3 k3) = false) :
    Calls Tryd.prog 9 #[.agg #[.int .i64 s3, .slice a3 n3 c3, .int .i64 t3, .slice b3 m3 d3], .agg #[.int .i64 (f 0), .int .i64 (f 1), .int .i64 (f 2), .int .i64 (f 3), .int .i64 (f 4), .int .i64 (f 5), .int .i64 s1, .slice a1 n1 c1, .int .i64 t1, .slice b1 m1 d1]] w (FZE 1 w) := by
  unfold FZE
  rcases ea : uR f s1 l1 t1 k1 with _ | _
  · skip
    have LL3 := Lib.hid ll3
    have LK3 := Lib.hid lk3
    have LL1 := Lib.hid ll1
    have LK1 := Lib.hid lk1
    have EA := Lib.hid ea
    have s0 := ((((((((Sf.start w).arg hk3).arg hl3).arg hk1).arg hl1).put [.int .i64 s3, .slice a3 n3 c3, .int .i64 t3, .slice b3 m3 d3] 28).put [.int .i64 (f 0), .int .i64 (f 1), .int .i64 (f 2), .int .i64 (f 3), .int .i64 (f 4), .int .i64 (f 5), .int .i64 s1, .slice a1 n1 c1, .int .i64 t1, .slice b1 m1 d1] 30).put [.int .i64 0, .slice none 0 0, .int .i64 0, .slice none 0 0] 28)
    try simp only [World.size_alloc] at s0
    have S0 := Lib.hid s0
    clear s0
    clear hr ea hl3 hk3 ll3 lk3 hl1 hk1 ll1 lk1
    go_enter Tryd.func9, Tryd.ntmps9
    go_wp2_with fail
    refine (uright_raw (S0.out.ints (.slice a1 n1 c1, l1) List.mem_cons_self) (S0.out.ints (.slice b1 m1 d1, k1) (List.mem_cons_of_mem _ List.mem_cons_self)) LL1.out LK1.out EA.out).mono ?_
    rintro e w1 ⟨rfl, hb⟩
    have R1 := Lib.hid (S0.out.later hb)
    clear hb
    have Q1 := Lib.hid (Sf.row (pre := []) R1.out [.int .i64 0, .slice none 0 0, .int .i64 0, .slice none 0 0])
    go_wp2_with (first | refine wpList_store_row rfl _ _ _ rfl _ #[.int .i64 0, .slice none 0 0, .int .i64 0, .slice none 0 0] rfl rfl _ _ (R1.out.box _ List.mem_cons_self) (by kernel_rfl) rfl (by simp [Value.oneCell']) ?_)
    refine bodyPost_ret (ret_row rfl _ _ _ _ rfl (run_loadVar_row _ _ _ _ _ (0, 0) _ (Q1.out.box _ List.mem_cons_self) Tryd.underlying28 rfl (by kernel_rfl))) rfl ⟨rfl, Q1.out.below⟩
  · have eb : fRightB s3 l3 t3 k3 = false := by rw [ea] at hr; simpa using hr
    have LL3 := Lib.hid ll3
    have LK3 := Lib.hid lk3
    have LL1 := Lib.hid ll1
    have LK1 := Lib.hid lk1
    have EA := Lib.hid ea
    have EB := Lib.hid eb
    have EAB : Hid ((fRightB s3 l3 t3 k3 && fRightB s1 l1 t1 k1) = false) := Lib.hid (by rw [eb]; rfl)
    have s0 := ((((((((Sf.start w).arg hk3).arg hl3).arg hk1).arg hl1).put [.int .i64 s3, .slice a3 n3 c3, .int .i64 t3, .slice b3 m3 d3] 28).put [.int .i64 (f 0), .int .i64 (f 1), .int .i64 (f 2), .int .i64 (f 3), .int .i64 (f 4), .int .i64 (f 5), .int .i64 s1, .slice a1 n1 c1, .int .i64 t1, .slice b1 m1 d1] 30).put [.int .i64 0, .slice none 0 0, .int .i64 0, .slice none 0 0] 28)
    try simp only [World.size_alloc] at s0
    have S0 := Lib.hid s0
    clear s0
    clear hr ea hl3 hk3 ll3 lk3 hl1 hk1 ll1 lk1 eb
    go_enter Tryd.func9, Tryd.ntmps9
    go_wp2_with fail
    refine (uright_raw (S0.out.ints (.slice a1 n1 c1, l1) List.mem_cons_self) (S0.out.ints (.slice b1 m1 d1, k1) (List.mem_cons_of_mem _ List.mem_cons_self)) LL1.out LK1.out EA.out).mono ?_
    rintro e w1 ⟨rfl, hb⟩
    have R1 := Lib.hid (S0.out.later hb)
    clear hb
    have q1 := (R1.out.box (w.heap.size, 28, [.int .i64 s3, .slice a3 n3 c3, .int .i64 t3, .slice b3 m3 d3]) (List.mem_cons_of_mem _ (List.mem_cons_of_mem _ List.mem_cons_self))).cell 0
    have q2 := (R1.out.box (w.heap.size, 28, [.int .i64 s3, .slice a3 n3 c3, .int .i64 t3, .slice b3 m3 d3]) (List.mem_cons_of_mem _ (List.mem_cons_of_mem _ List.mem_cons_self))).cell 1
    have q3 := (R1.out.box (w.heap.size, 28, [.int .i64 s3, .slice a3 n3 c3, .int .i64 t3, .slice b3 m3 d3]) (List.mem_cons_of_mem _ (List.mem_cons_of_mem _ List.mem_cons_self))).cell 2
    have q4 := (R1.out.box (w.heap.size, 28, [.int .i64 s3, .slice a3 n3 c3, .int .i64 t3, .slice b3 m3 d3]) (List.mem_cons_of_mem _ (List.mem_cons_of_mem _ List.mem_cons_self))).cell 3
    simp only [List.getElem?_cons_succ, List.getElem?_cons_zero] at q1 q2 q3 q4
    have q5 := (R1.out.box (w.heap.size + 1, 30, [.int .i64 (f 0), .int .i64 (f 1), .int .i64 (f 2), .int .i64 (f 3), .int .i64 (f 4), .int .i64 (f 5), .int .i64 s1, .slice a1 n1 c1, .int .i64 t1, .slice b1 m1 d1]) (List.mem_cons_of_mem _ List.mem_cons_self)).cell 0
    have q6 := (R1.out.box (w.heap.size + 1, 30, [.int .i64 (f 0), .int .i64 (f 1), .int .i64 (f 2), .int .i64 (f 3), .int .i64 (f 4), .int .i64 (f 5), .int .i64 s1, .slice a1 n1 c1, .int .i64 t1, .slice b1 m1 d1]) (List.mem_cons_of_mem _ List.mem_cons_self)).cell 1
    have q7 := (R1.out.box (w.heap.size + 1, 30, [.int .i64 (f 0), .int .i64 (f 1), .int .i64 (f 2), .int .i64 (f 3), .int .i64 (f 4), .int .i64 (f 5), .int .i64 s1, .slice a1 n1 c1, .int .i64 t1, .slice b1 m1 d1]) (List.mem_cons_of_mem _ List.mem_cons_self)).cell 2
    have q8 := (R1.out.box (w.heap.size + 1, 30, [.int .i64 (f 0), .int .i64 (f 1), .int .i64 (f 2), .int .i64 (f 3), .int .i64 (f 4), .int .i64 (f 5), .int .i64 s1, .slice a1 n1 c1, .int .i64 t1, .slice b1 m1 d1]) (List.mem_cons_of_mem _ List.mem_cons_self)).cell 3
    have q9 := (R1.out.box (w.heap.size + 1, 30, [.int .i64 (f 0), .int .i64 (f 1), .int .i64 (f 2), .int .i64 (f 3), .int .i64 (f 4), .int .i64 (f 5), .int .i64 s1, .slice a1 n1 c1, .int .i64 t1, .slice b1 m1 d1]) (List.mem_cons_of_mem _ List.mem_cons_self)).cell 4
    have q10 := (R1.out.box (w.heap.size + 1, 30, [.int .i64 (f 0), .int .i64 (f 1), .int .i64 (f 2), .int .i64 (f 3), .int .i64 (f 4), .int .i64 (f 5), .int .i64 s1, .slice a1 n1 c1, .int .i64 t1, .slice b1 m1 d1]) (List.mem_cons_of_mem _ List.mem_cons_self)).cell 5
    have q11 := (R1.out.box (w.heap.size + 1, 30, [.int .i64 (f 0), .int .i64 (f 1), .int .i64 (f 2), .int .i64 (f 3), .int .i64 (f 4), .int .i64 (f 5), .int .i64 s1, .slice a1 n1 c1, .int .i64 t1, .slice b1 m1 d1]) (List.mem_cons_of_mem _ List.mem_cons_self)).cell 6
    have q12 := (R1.out.box (w.heap.size + 1, 30, [.int .i64 (f 0), .int .i64 (f 1), .int .i64 (f 2), .int .i64 (f 3), .int .i64 (f 4), .int .i64 (f 5), .int .i64 s1, .slice a1 n1 c1, .int .i64 t1, .slice b1 m1 d1]) (List.mem_cons_of_mem _ List.mem_cons_self)).cell 7
    have q13 := (R1.out.box (w.heap.size + 1, 30, [.int .i64 (f 0), .int .i64 (f 1), .int .i64 (f 2), .int .i64 (f 3), .int .i64 (f 4), .int .i64 (f 5), .int .i64 s1, .slice a1 n1 c1, .int .i64 t1, .slice b1 m1 d1]) (List.mem_cons_of_mem _ List.mem_cons_self)).cell 8
    have q14 := (R1.out.box (w.heap.size + 1, 30, [.int .i64 (f 0), .int .i64 (f 1), .int .i64 (f 2), .int .i64 (f 3), .int .i64 (f 4), .int .i64 (f 5), .int .i64 s1, .slice a1 n1 c1, .int .i64 t1, .slice b1 m1 d1]) (List.mem_cons_of_mem _ List.mem_cons_self)).cell 9
    simp only [List.getElem?_cons_succ, List.getElem?_cons_zero] at q5 q6 q7 q8 q9 q10 q11 q12 q13 q14
    go_wp2_with fail
    clear q1 q2 q3 q4 q5 q6 q7 q8 q9 q10 q11 q12 q13 q14
    refine (fmul_bad s3 a3 n3 c3 l3 t3 b3 m3 d3 k3 s1 a1 n1 c1 l1 t1 b1 m1 d1 k1 _ (R1.out.ints (.slice a3 n3 c3, l3) (List.mem_cons_of_mem _ (List.mem_cons_of_mem _ List.mem_cons_self))) (R1.out.ints (.slice b3 m3 d3, k3) (List.mem_cons_of_mem _ (List.mem_cons_of_mem _ (List.mem_cons_of_mem _ List.mem_cons_self)))) (Nat.le_trans LL3.out (by decide)) (Nat.le_trans LK3.out (by decide)) (R1.out.ints (.slice a1 n1 c1, l1) List.mem_cons_self) (R1.out.ints (.slice b1 m1 d1, k1) (List.mem_cons_of_mem _ List.mem_cons_self)) (Nat.le_trans LL1.out (by decide)) (Nat.le_trans LK1.out (by decide)) EAB.out).mono ?_
    rintro e w2 ⟨rfl, hb⟩
    have R2 := Lib.hid (R1.out.later hb)
    clear hb
    have Q15 := Lib.hid (Sf.row (pre := []) R2.out [.int .i64 0, .slice none 0 0, .int .i64 0, .slice none 0 0])
    go_wp2_with (first | refine wpList_store_row rfl _ _ _ rfl _ #[.int .i64 0, .slice none 0 0, .int .i64 0, .slice none 0 0] rfl rfl _ _ (R2.out.box _ List.mem_cons_self) (by kernel_rfl) rfl (by simp [Value.oneCell']) ?_)
    refine bodyPost_ret (ret_row rfl _ _ _ _ rfl (run_loadVar_row _ _ _ _ _ (0, 0) _ (Q15.out.box _ List.mem_cons_self) Tryd.underlying28 rfl (by kernel_rfl))) rfl ⟨rfl, Q15.out.below⟩

end Go.Proofs.YtmhdhabgdlefjaaDoor.Un
