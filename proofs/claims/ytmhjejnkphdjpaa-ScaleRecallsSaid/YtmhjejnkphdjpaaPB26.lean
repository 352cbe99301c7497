/- The error of a reading and the interval, as scale returns them: the mathematics; Error. Interval of scale. -/
import Derived.Laws.ResultCell
import Derived.Deep.RegionWith
import Derived.Test.YtmhjejnkphdjpaaPB25
set_option maxRecDepth 100000
namespace Go.Proofs.Ytmhjejnkphdjpaa.Sc
open Go.RowKit Bi

/-- A fraction's signs and digits, valid or not. -/
structure RF where
  (s : Int) (l : List Int) (t : Int) (k : List Int)
def rz : RF := ⟨0, [], 0, []⟩
def rf (r : Rat) : RF := ⟨r.num.sign, digs r.num.natAbs, 1, digs (r.den : Int).natAbs⟩
/-- A call that returns a fraction that holds D, and a bool, in new memory. -/
def Gf (D : RF) (ok : Bool) (w : World) (e : Ending) (w' : World) : Prop := ∃ a n c b m d, e = .returned (.tuple #[.agg #[.int .i64 D.s, .slice a n c, .int .i64 D.t, .slice b m d], .bool ok]) ∧
  Ints w' (.slice a n c) D.l ∧ Ints w' (.slice b m d) D.k ∧ RowKit.Below w.heap.size w w' ∧ Fresh w.heap.size (.slice a n c) ∧ Fresh w.heap.size (.slice b m d)
/-- .. two fractions and a bool. -/
def G2 (D E : RF) (ok : Bool) (w : World) (e : Ending) (w' : World) : Prop := ∃ a n c b m d a2 n2 c2 b2 m2 d2, e = .returned (.tuple #[.agg #[.int .i64 D.s, .slice a n c, .int .i64 D.t, .slice b m d], .agg #[.int .i64 E.s, .slice a2 n2 c2, .int .i64 E.t, .slice b2 m2 d2], .bool ok]) ∧
  Ints w' (.slice a n c) D.l ∧ Ints w' (.slice b m d) D.k ∧ Ints w' (.slice a2 n2 c2) E.l ∧ Ints w' (.slice b2 m2 d2) E.k ∧ RowKit.Below w.heap.size w w' ∧ Fresh w.heap.size (.slice a n c) ∧ Fresh w.heap.size (.slice b m d) ∧ Fresh w.heap.size (.slice a2 n2 c2) ∧ Fresh w.heap.size (.slice b2 m2 d2)
/-- .. valid ones. -/
def Gt (r : Rat) (w : World) (e : Ending) (w' : World) : Prop := ∃ s a n c b m d, e = .returned (.tuple #[.agg #[.int .i64 s, .slice a n c, .int .i64 1, .slice b m d], .bool true]) ∧ Fr w' s (.slice a n c) (.slice b m d) r ∧ RowKit.Below w.heap.size w w' ∧ Fresh w.heap.size (.slice a n c) ∧ Fresh w.heap.size (.slice b m d)
def Gz (w : World) (e : Ending) (w' : World) : Prop := e = .returned (.tuple #[.agg #[.int .i64 0, .slice none 0 0, .int .i64 0, .slice none 0 0], .bool false]) ∧ RowKit.Below w.heap.size w w'
def It (r q : Rat) (w : World) (e : Ending) (w' : World) : Prop := ∃ s a n c b m d s2 a2 n2 c2 b2 m2 d2, e = .returned (.tuple #[.agg #[.int .i64 s, .slice a n c, .int .i64 1, .slice b m d], .agg #[.int .i64 s2, .slice a2 n2 c2, .int .i64 1, .slice b2 m2 d2], .bool true]) ∧
  Fr w' s (.slice a n c) (.slice b m d) r ∧ Fr w' s2 (.slice a2 n2 c2) (.slice b2 m2 d2) q ∧ RowKit.Below w.heap.size w w' ∧ Fresh w.heap.size (.slice a n c) ∧ Fresh w.heap.size (.slice b m d) ∧ Fresh w.heap.size (.slice a2 n2 c2) ∧ Fresh w.heap.size (.slice b2 m2 d2)
def Iz (w : World) (e : Ending) (w' : World) : Prop := e = .returned (.tuple #[.agg #[.int .i64 0, .slice none 0 0, .int .i64 0, .slice none 0 0], .agg #[.int .i64 0, .slice none 0 0, .int .i64 0, .slice none 0 0], .bool false]) ∧ RowKit.Below w.heap.size w w'
theorem fresh_nil (B : Nat) : Fresh B (.slice none 0 0) := fun g _ => off_nil g 0 0
theorem Gt.raw {r : Rat} {w w' : World} {e : Ending} (h : Gt r w e w') : Gf (rf r) true w e w' := by
  obtain ⟨s, a, n, c, b, m, d, rfl, hr, hb, hf, hg⟩ := h
  obtain rfl := hr.1.1
  exact ⟨a, n, c, b, m, d, rfl, hr.1.2, hr.2.2, hb, hf, hg⟩
theorem Gz.raw {w w' : World} {e : Ending} (h : Gz w e w') : Gf rz false w e w' := by
  obtain ⟨rfl, hb⟩ := h
  exact ⟨none, 0, 0, none, 0, 0, rfl, Ints.nil w', Ints.nil w', hb, fresh_nil _, fresh_nil _⟩
theorem It.raw {r q : Rat} {w w' : World} {e : Ending} (h : It r q w e w') : G2 (rf r) (rf q) true w e w' := by
  obtain ⟨s, a, n, c, b, m, d, s2, a2, n2, c2, b2, m2, d2, rfl, hr, hq, hb, h1, h2, h3, h4⟩ := h
  obtain rfl := hr.1.1
  obtain rfl := hq.1.1
  exact ⟨a, n, c, b, m, d, a2, n2, c2, b2, m2, d2, rfl, hr.1.2, hr.2.2, hq.1.2, hq.2.2, hb, h1, h2, h3, h4⟩
theorem Iz.raw {w w' : World} {e : Ending} (h : Iz w e w') : G2 rz rz false w e w' := by
  obtain ⟨rfl, hb⟩ := h
  exact ⟨none, 0, 0, none, 0, 0, none, 0, 0, none, 0, 0, rfl, Ints.nil w', Ints.nil w', Ints.nil w', Ints.nil w', hb, fresh_nil _, fresh_nil _, fresh_nil _, fresh_nil _⟩
theorem Sf.ret4 {w W W' : World} {L : List FBox} {F : List (Value × List Int)} (h : Sf w L F W) (hb : RowKit.Below W.heap.size W W') {v u x y : Value} {l m p q : List Int} (h1 : Ints W' v l) (f1 : Fresh W.heap.size v) (h2 : Ints W' u m) (f2 : Fresh W.heap.size u) (h3 : Ints W' x p) (f3 : Fresh W.heap.size x) (h4 : Ints W' y q) (f4 : Fresh W.heap.size y) :
    Sf w L ((v, l) :: (u, m) :: (x, p) :: (y, q) :: F) W' := by
  have h' := h.ret2 hb h3 f3 h4 f4
  refine ⟨h'.below, h'.le, h'.box, fun f hf' => ?_, fun f hf' z hz => ?_, h'.pw⟩
  · rcases List.mem_cons.1 hf' with rfl | hf'
    · exact h1
    rcases List.mem_cons.1 hf' with rfl | hf'
    · exact h2
    · exact h'.ints f hf'
  · rcases List.mem_cons.1 hf' with rfl | hf'
    · exact f1 z.1 (h.lt z hz)
    rcases List.mem_cons.1 hf' with rfl | hf'
    · exact f2 z.1 (h.lt z hz)
    · exact h'.off f hf' z hz
theorem ret_row3 {fn : Func} {p q u : Tmp} {ty : TypeId} (h : fn.results = #[.cell p ty, .cell q ty, .tmp u]) (tmps : Array Value) (w : World) (b g : Nat) (cs ds : Array Value) (hp : tmps.getD p undef = .pointer (some ⟨b, 0, none⟩)) (hq : tmps.getD q undef = .pointer (some ⟨g, 0, none⟩)) (hl : (loadVar ty ⟨b, 0, none⟩).run Try.prog w = .ok (.agg cs) w) (hm : (loadVar ty ⟨g, 0, none⟩).run Try.prog w = .ok (.agg ds) w) :
    (results fn tmps).run Try.prog w = .ok (.tuple #[.agg cs, .agg ds, tmps.getD u undef]) w := by
  have e : (results fn tmps).run Try.prog w = ((asAddr (tmps.getD p undef)).run Try.prog w).andThen fun a w₁ => ((loadVar ty a).run Try.prog w₁).andThen fun v w₂ => ((asAddr (tmps.getD q undef)).run Try.prog w₂).andThen fun a' w₃ => ((loadVar ty a').run Try.prog w₃).andThen fun v' w₄ => .ok (.tuple #[v, v', tmps.getD u undef]) w₄ := by
    simp only [results, h]
    simp [Sem.run_bind, Result.andThen]
  rw [e, hp, hq]
  simp [asAddr, Result.andThen, hl, hm]
/-! ## The mathematics -/
def inR (r : Int) : Bool := decide (0 ≤ r) && decide (r ≤ 1099511627776)
def inD (c : Ct) (d : Int) : Bool := decide (c.fr ≤ d) && decide (d ≤ c.un)
structure Good (c : Ct) (r d : Int) : Prop where
  fr0 : 0 ≤ c.fr
  un0 : c.un ≤ 100000
  ut0 : 0 ≤ c.ut
  ut1 : c.ut ≤ 1099511627776
  pm0 : 0 ≤ c.pm
  pm1 : c.pm ≤ 1000
  dr0 : 0 ≤ c.dr
  dr1 : c.dr ≤ 10000000
  r0 : 0 ≤ r
  r1 : r ≤ 1099511627776
  d0 : c.fr ≤ d
  d1 : d ≤ c.un
theorem good_of {c : Ct} {r d : Int} (h1 : c.ok = true) (h2 : inR r = true) (h3 : inD c d = true) : Good c r d := by
  unfold Ct.ok at h1
  unfold inR at h2
  unfold inD at h3
  simp only [Bool.and_eq_true, decide_eq_true_eq] at h1 h2 h3
  obtain ⟨_, a2, _, a4, ⟨a5, a6⟩, ⟨a7, a8⟩, a9, a10⟩ := h1
  exact ⟨a2, a4, a5, a6, a7, a8, a9, a10, h2.1, h2.2, h3.1, h3.2⟩
theorem Good.prod {c : Ct} {r d : Int} (h : Good c r d) : 0 ≤ c.dr * (d - c.fr) ∧ c.dr * (d - c.fr) ≤ 1000000000000 ∧ 0 ≤ c.pm * r ∧ c.pm * r ≤ 1099511627776000 := by
  have b1 : 0 ≤ d - c.fr := by have := h.d0; omega
  have b2 : d - c.fr ≤ 100000 := by have := h.d1; have := h.un0; have := h.fr0; omega
  refine ⟨Int.mul_nonneg h.dr0 b1, ?_, Int.mul_nonneg h.pm0 h.r0, ?_⟩
  · exact Int.le_trans (Int.mul_le_mul h.dr1 b2 b1 (by decide)) (by decide)
  · exact Int.le_trans (Int.mul_le_mul h.pm1 h.r1 h.r0 (by decide)) (by decide)
theorem errR_one (c : Ct) (r d : Int) : Rat.divInt (1000 * (c.ut + c.dr * (d - c.fr)) + c.pm * r) 1000 = errR c r d := by
  unfold errR
  have h2 : ((1000 : Int) : Rat) = 1000 := rfl
  rw [Rat.divInt_eq_div, Rat.divInt_eq_div, h2, Rat.intCast_add, Rat.intCast_mul, h2]
  grind
theorem Good.err_sz {c : Ct} {r d : Int} (h : Good c r d) : FSz 4 (errR c r d) := by
  have hp := h.prod
  have h1 := h.ut0
  have h2 := h.ut1
  refine .mk' (errR_one c r d) (by decide) (Sz.small ?_) (Sz.small (by decide))
  omega
theorem int_sz {z : Int} (h : z.natAbs < 18446744073709551616) : FSz 4 (z : Rat) := ⟨by rw [Rat.num_intCast]; exact Sz.small h, by rw [Rat.den_intCast]; exact Sz.small (by decide)⟩
theorem Good.int {c : Ct} {r d : Int} (h : Good c r d) : FSz 4 (r : Rat) := int_sz (by have := h.r0; have := h.r1; omega)
theorem Good.nonneg {c : Ct} {r d : Int} (h : Good c r d) : 0 ≤ errR c r d := errR_nonneg h.ut0 h.dr0 h.pm0 h.r0 h.d0
theorem low_is (c : Ct) (r d : Int) : rmax ((r : Rat) - errR c r d) ((0 : Int) : Rat) = lowR c r d := rfl
theorem Good.high_sz {c : Ct} {r d : Int} (h : Good c r d) : FSz 9 (highR c r d) := FSz.add h.int h.err_sz
theorem Good.sub_sz {c : Ct} {r d : Int} (h : Good c r d) : FSz 9 ((r : Rat) - errR c r d) := FSz.sub h.int h.err_sz
theorem zero_sz : FSz 4 ((0 : Int) : Rat) := int_sz (by decide)
theorem Good.low_sz {c : Ct} {r d : Int} (h : Good c r d) : FSz 9 (lowR c r d) := by
  rw [← low_is]
  unfold rmax
  split
  · exact zero_sz.mono
  · exact h.sub_sz
theorem pof_r {r : Rat} (p q : Int) (hp : -9223372036854775808 ≤ p ∧ p ≤ 9223372036854775807) (hq : -9223372036854775808 ≤ q ∧ q ≤ 9223372036854775807) (h0 : q ≠ 0) (h : Rat.divInt p q = r) (w : World) : Calls Try.prog 31 #[.int .i64 p, .int .i64 q] w (FVE r 0 w) := by subst h; exact fof_k p q hp hq h0 w

set_option maxHeartbeats 4000000 in
theorem error_ok {c : Ct} {r d : Int} {w : World} (h1 : c.ok = false) : Calls Try.prog 12 #[.agg #[.int .i64 c.sc, .int .i64 c.fr, .int .i64 c.un, .int .i64 c.ut, .int .i64 c.pm, .int .i64 c.dr], .int .i64 r, .int .i64 d] w (Gz w) := by
  have H1 := Lib.hid h1
  have s0 := (((Sf.start w).put [.int .i64 c.sc, .int .i64 c.fr, .int .i64 c.un, .int .i64 c.ut, .int .i64 c.pm, .int .i64 c.dr] 25).put [.int .i64 0, .slice none 0 0, .int .i64 0, .slice none 0 0] 34)
  try simp only [World.size_alloc] at s0
  have S0 := Lib.hid s0
  clear s0
  clear h1
  go_enter Try.func12, Try.ntmps12
  obtain ⟨q1, q2, q3, q4, q5, q6⟩ := Fb.cells6 (S0.out.box (w.heap.size, 25, [.int .i64 c.sc, .int .i64 c.fr, .int .i64 c.un, .int .i64 c.ut, .int .i64 c.pm, .int .i64 c.dr]) mq1)
  go_wp2_with fail
  clear q1 q2 q3 q4 q5 q6
  refine (right_any H1.out).mono ?_
  rintro e w1 ⟨rfl, hb⟩
  have R1 := Lib.hid (S0.out.later hb)
  clear hb
  have Q7 := Lib.hid (Sf.row (pre := []) R1.out [.int .i64 0, .slice none 0 0, .int .i64 0, .slice none 0 0])
  go_wp2_with (first | refine wpList_store_row rfl _ _ _ rfl _ #[.int .i64 0, .slice none 0 0, .int .i64 0, .slice none 0 0] rfl rfl _ _ (R1.out.box _ mq0) (by kernel_rfl) rfl (by simp [Value.oneCell']) ?_)
  refine bodyPost_ret (ret_row rfl _ _ _ _ rfl (run_loadVar_row _ _ _ _ _ (0, 0) _ (Q7.out.box _ mq0) Try.underlying34 rfl (by kernel_rfl))) rfl ⟨rfl, Q7.out.below⟩

set_option maxHeartbeats 4000000 in
theorem error_inr {c : Ct} {r d : Int} {w : World} (h1 : c.ok = true) (h2 : inR r = false) : Calls Try.prog 12 #[.agg #[.int .i64 c.sc, .int .i64 c.fr, .int .i64 c.un, .int .i64 c.ut, .int .i64 c.pm, .int .i64 c.dr], .int .i64 r, .int .i64 d] w (Gz w) := by
  have H1 := Lib.hid h1
  have H2 := Lib.hid h2
  have s0 := (((Sf.start w).put [.int .i64 c.sc, .int .i64 c.fr, .int .i64 c.un, .int .i64 c.ut, .int .i64 c.pm, .int .i64 c.dr] 25).put [.int .i64 0, .slice none 0 0, .int .i64 0, .slice none 0 0] 34)
  try simp only [World.size_alloc] at s0
  have S0 := Lib.hid s0
  clear s0
  clear h1 h2
  go_enter Try.func12, Try.ntmps12
  obtain ⟨q1, q2, q3, q4, q5, q6⟩ := Fb.cells6 (S0.out.box (w.heap.size, 25, [.int .i64 c.sc, .int .i64 c.fr, .int .i64 c.un, .int .i64 c.ut, .int .i64 c.pm, .int .i64 c.dr]) mq1)
  go_wp2_with fail
  clear q1 q2 q3 q4 q5 q6
  refine (right_any H1.out).mono ?_
  rintro e w1 ⟨rfl, hb⟩
  have R1 := Lib.hid (S0.out.later hb)
  clear hb
  go_wp2_with fail
  refine (possible_any H2.out).mono ?_
  rintro e w2 ⟨rfl, rfl⟩
  have Q7 := Lib.hid (Sf.row (pre := []) R1.out [.int .i64 0, .slice none 0 0, .int .i64 0, .slice none 0 0])
  go_wp2_with (first | refine wpList_store_row rfl _ _ _ rfl _ #[.int .i64 0, .slice none 0 0, .int .i64 0, .slice none 0 0] rfl rfl _ _ (R1.out.box _ mq0) (by kernel_rfl) rfl (by simp [Value.oneCell']) ?_)
  refine bodyPost_ret (ret_row rfl _ _ _ _ rfl (run_loadVar_row _ _ _ _ _ (0, 0) _ (Q7.out.box _ mq0) Try.underlying34 rfl (by kernel_rfl))) rfl ⟨rfl, Q7.out.below⟩

set_option maxHeartbeats 4000000 in
theorem error_ind {c : Ct} {r d : Int} {w : World} (h1 : c.ok = true) (h2 : inR r = true) (h3 : inD c d = false) : Calls Try.prog 12 #[.agg #[.int .i64 c.sc, .int .i64 c.fr, .int .i64 c.un, .int .i64 c.ut, .int .i64 c.pm, .int .i64 c.dr], .int .i64 r, .int .i64 d] w (Gz w) := by
  have H1 := Lib.hid h1
  have H2 := Lib.hid h2
  have H3 := Lib.hid h3
  have s0 := (((Sf.start w).put [.int .i64 c.sc, .int .i64 c.fr, .int .i64 c.un, .int .i64 c.ut, .int .i64 c.pm, .int .i64 c.dr] 25).put [.int .i64 0, .slice none 0 0, .int .i64 0, .slice none 0 0] 34)
  try simp only [World.size_alloc] at s0
  have S0 := Lib.hid s0
  clear s0
  clear h1 h2 h3
  go_enter Try.func12, Try.ntmps12
  obtain ⟨q1, q2, q3, q4, q5, q6⟩ := Fb.cells6 (S0.out.box (w.heap.size, 25, [.int .i64 c.sc, .int .i64 c.fr, .int .i64 c.un, .int .i64 c.ut, .int .i64 c.pm, .int .i64 c.dr]) mq1)
  go_wp2_with fail
  clear q1 q2 q3 q4 q5 q6
  refine (right_any H1.out).mono ?_
  rintro e w1 ⟨rfl, hb⟩
  have R1 := Lib.hid (S0.out.later hb)
  clear hb
  go_wp2_with fail
  refine (possible_any H2.out).mono ?_
  rintro e w2 ⟨rfl, rfl⟩
  obtain ⟨q7, q8, q9, q10, q11, q12⟩ := Fb.cells6 (R1.out.box (w.heap.size, 25, [.int .i64 c.sc, .int .i64 c.fr, .int .i64 c.un, .int .i64 c.ut, .int .i64 c.pm, .int .i64 c.dr]) mq1)
  go_wp2_with fail
  clear q7 q8 q9 q10 q11 q12
  refine (within_any H3.out).mono ?_
  rintro e w3 ⟨rfl, hb⟩
  have R3 := Lib.hid (R1.out.later hb)
  clear hb
  have Q13 := Lib.hid (Sf.row (pre := []) R3.out [.int .i64 0, .slice none 0 0, .int .i64 0, .slice none 0 0])
  go_wp2_with (first | refine wpList_store_row rfl _ _ _ rfl _ #[.int .i64 0, .slice none 0 0, .int .i64 0, .slice none 0 0] rfl rfl _ _ (R3.out.box _ mq0) (by kernel_rfl) rfl (by simp [Value.oneCell']) ?_)
  refine bodyPost_ret (ret_row rfl _ _ _ _ rfl (run_loadVar_row _ _ _ _ _ (0, 0) _ (Q13.out.box _ mq0) Try.underlying34 rfl (by kernel_rfl))) rfl ⟨rfl, Q13.out.below⟩

set_option maxHeartbeats 8000000 in
theorem error_some {c : Ct} {r d : Int} {w : World} (h1 : c.ok = true) (h2 : inR r = true) (h3 : inD c d = true) : Calls Try.prog 12 #[.agg #[.int .i64 c.sc, .int .i64 c.fr, .int .i64 c.un, .int .i64 c.ut, .int .i64 c.pm, .int .i64 c.dr], .int .i64 r, .int .i64 d] w (Gt (errR c r d) w) := by
  have G := good_of h1 h2 h3
  have H1 := Lib.hid h1
  have H2 := Lib.hid h2
  have H3 := Lib.hid h3
  have hp := G.prod
  have hr1 := errR_one c r d
  have u0 := G.ut0
  have u1 := G.ut1
  have d0 := G.d0
  have d1 := G.d1
  have f0 := G.fr0
  have e0 := G.un0
  obtain ⟨x1, hx1⟩ : ∃ x, d - c.fr = x := ⟨_, rfl⟩
  rw [hx1] at hp hr1
  obtain ⟨x2, hx2⟩ : ∃ x, c.dr * x1 = x := ⟨_, rfl⟩
  rw [hx2] at hp hr1
  obtain ⟨x3, hx3⟩ : ∃ x, c.ut + x2 = x := ⟨_, rfl⟩
  rw [hx3] at hr1
  obtain ⟨x4, hx4⟩ : ∃ x, 1000 * x3 = x := ⟨_, rfl⟩
  rw [hx4] at hr1
  obtain ⟨x5, hx5⟩ : ∃ x, c.pm * r = x := ⟨_, rfl⟩
  rw [hx5] at hp hr1
  obtain ⟨x6, hx6⟩ : ∃ x, x4 + x5 = x := ⟨_, rfl⟩
  rw [hx6] at hr1
  have hw1 : IntKind.i64.wrap (d - c.fr) = x1 := by rw [hx1]; exact IntWalk.i64_in _ (by omega)
  have hw2 : IntKind.i64.wrap (c.dr * x1) = x2 := by rw [hx2]; exact IntWalk.i64_in _ (by omega)
  have hw3 : IntKind.i64.wrap (c.ut + x2) = x3 := by rw [hx3]; exact IntWalk.i64_in _ (by omega)
  have hw4 : IntKind.i64.wrap (1000 * x3) = x4 := by rw [hx4]; exact IntWalk.i64_in _ (by omega)
  have hw5 : IntKind.i64.wrap (c.pm * r) = x5 := by rw [hx5]; exact IntWalk.i64_in _ (by omega)
  have hw6 : IntKind.i64.wrap (x4 + x5) = x6 := by rw [hx6]; exact IntWalk.i64_in _ (by omega)
  have HX : Hid (-9223372036854775808 ≤ x6 ∧ x6 ≤ 9223372036854775807) := Lib.hid (by omega)
  have HR := Lib.hid hr1
  obtain ⟨E, hE⟩ : ∃ E, errR c r d = E := ⟨_, rfl⟩
  rw [hE] at HR ⊢
  clear hp hr1 u0 u1 d0 d1 f0 e0 hx1 hx2 hx3 hx4 hx5 hx6 hE G
  have s0 := (((Sf.start w).put [.int .i64 c.sc, .int .i64 c.fr, .int .i64 c.un, .int .i64 c.ut, .int .i64 c.pm, .int .i64 c.dr] 25).put [.int .i64 0, .slice none 0 0, .int .i64 0, .slice none 0 0] 34)
  try simp only [World.size_alloc] at s0
  have S0 := Lib.hid s0
  clear s0
  clear h1 h2 h3
  go_enter Try.func12, Try.ntmps12
  obtain ⟨q1, q2, q3, q4, q5, q6⟩ := Fb.cells6 (S0.out.box (w.heap.size, 25, [.int .i64 c.sc, .int .i64 c.fr, .int .i64 c.un, .int .i64 c.ut, .int .i64 c.pm, .int .i64 c.dr]) mq1)
  go_wp2_with fail
  clear q1 q2 q3 q4 q5 q6
  refine (right_any H1.out).mono ?_
  rintro e w1 ⟨rfl, hb⟩
  have R1 := Lib.hid (S0.out.later hb)
  clear hb
  go_wp2_with fail
  refine (possible_any H2.out).mono ?_
  rintro e w2 ⟨rfl, rfl⟩
  obtain ⟨q7, q8, q9, q10, q11, q12⟩ := Fb.cells6 (R1.out.box (w.heap.size, 25, [.int .i64 c.sc, .int .i64 c.fr, .int .i64 c.un, .int .i64 c.ut, .int .i64 c.pm, .int .i64 c.dr]) mq1)
  go_wp2_with fail
  clear q7 q8 q9 q10 q11 q12
  refine (within_any H3.out).mono ?_
  rintro e w3 ⟨rfl, hb⟩
  have R3 := Lib.hid (R1.out.later hb)
  clear hb
  obtain ⟨q13, q14, q15, q16, q17, q18⟩ := Fb.cells6 (R3.out.box (w.heap.size, 25, [.int .i64 c.sc, .int .i64 c.fr, .int .i64 c.un, .int .i64 c.ut, .int .i64 c.pm, .int .i64 c.dr]) mq1)
  go_wp2_with fail
  clear q13 q14 q15 q16 q17 q18
  refine (pof_r x6 1000 HX.out (by decide) (by decide) HR.out _).mono ?_
  rintro e w4 ⟨sx4, ax4, nx4, cx4, bx4, mx4, dx4, rfl, hr, hb, hf, hg⟩
  have E4 := Lib.hid hr.1.1
  have R4 := Lib.hid (R3.out.ret2 hb hr.1.2 hf hr.2.2 hg)
  have FF4 := Lib.hid (hf.mono R3.out.below.size)
  have FG4 := Lib.hid (hg.mono R3.out.below.size)
  clear hr hb hf hg
  have P19 := Lib.hid (R4.out.put [.int .i64 0, .slice none 0 0, .int .i64 0, .slice none 0 0] 34)
  have Q19 := Lib.hid (Sf.row (pre := []) P19.out [.int .i64 sx4, .slice ax4 nx4 cx4, .int .i64 1, .slice bx4 mx4 dx4])
  obtain ⟨q20, q21, q22, q23⟩ := Fb.cells4 (Q19.out.box (w4.heap.size, 34, [.int .i64 sx4, .slice ax4 nx4 cx4, .int .i64 1, .slice bx4 mx4 dx4]) mq0)
  have Q24 := Lib.hid (Sf.row (pre := [(w4.heap.size, 34, [.int .i64 sx4, .slice ax4 nx4 cx4, .int .i64 1, .slice bx4 mx4 dx4])]) Q19.out [.int .i64 sx4, .slice ax4 nx4 cx4, .int .i64 1, .slice bx4 mx4 dx4])
  go_wp2_with (first | refine wpList_store_row rfl _ _ _ rfl _ #[.int .i64 sx4, .slice ax4 nx4 cx4, .int .i64 1, .slice bx4 mx4 dx4] rfl rfl _ _ (P19.out.box _ List.mem_cons_self) (by kernel_rfl) rfl (by simp [Value.oneCell']) ?_ | refine wpList_store_row rfl _ _ _ rfl _ #[.int .i64 sx4, .slice ax4 nx4 cx4, .int .i64 1, .slice bx4 mx4 dx4] rfl rfl _ _ (Q19.out.box _ mq1) (by kernel_rfl) rfl (by simp [Value.oneCell']) ?_)
  clear q20 q21 q22 q23
  refine bodyPost_ret (ret_row rfl _ _ _ _ rfl (run_loadVar_row _ _ _ _ _ (0, 0) _ (Q24.out.box _ mq1) Try.underlying34 rfl (by kernel_rfl))) rfl ⟨_, _, _, _, _, _, _, rfl, (Q24.out.fr (v := .slice ax4 nx4 cx4) (u := .slice bx4 mx4 dx4) (r := E) mq0 mq1 E4.out), Q24.out.below, FF4.out, FG4.out⟩
end Go.Proofs.Ytmhjejnkphdjpaa.Sc

namespace Go.Proofs.Ytmhjejnkphdjpaa.Sc
open Go.RowKit Bi

theorem found_of {s d : Int} {l : List Ct} (h : fB s d l = true) : ∃ i c, fnd s d l = some (i, c) ∧ fI s d l = i ∧ l[i]? = some c ∧ c.cov s d = true := by
  unfold fB at h
  obtain ⟨⟨i, c⟩, hj⟩ := Option.isSome_iff_exists.1 h
  exact ⟨i, c, hj, by unfold fI; rw [hj], fnd_some _ hj⟩
theorem cov_ok {c : Ct} {s d : Int} (h : c.cov s d = true) : c.ok = true ∧ inD c d = true := by
  unfold Ct.cov at h
  simp only [Bool.and_eq_true] at h
  exact ⟨h.1, by unfold inD; rw [h.2.2.1, h.2.2.2]; rfl⟩
theorem not_found {s d : Int} {l : List Ct} (h : fB s d l = false) : fI s d l = 0 := by
  unfold fB at h
  have : fnd s d l = none := by simpa using h
  unfold fI; rw [this]

set_option maxHeartbeats 4000000 in
theorem ivl_nf {a a2 : Option Addr} {n cap m cap2 : Nat} {l : List Ct} {rl : List (Int × Int)} {s r d : Int} {w : World} (hc : Cs w a l) (hn : l.length = n) (hl : n ≤ 1000000) (hr : Rs w a2 rl) (hm : rl.length = m) (hl2 : m ≤ 1000000) (h1 : fB s d l = false) : Calls Try.prog 14 #[.slice a n cap, .slice a2 m cap2, .int .i64 s, .int .i64 r, .int .i64 d] w (Iz w) := by
  obtain ⟨i, hfi⟩ : ∃ i, fI s d l = i := ⟨_, rfl⟩
  have HC := Lib.hid hc
  have HN := Lib.hid hn
  have HL := Lib.hid hl
  have HR := Lib.hid hr
  have HM := Lib.hid hm
  have HL2 := Lib.hid hl2
  have HFI := Lib.hid hfi
  have HFB := Lib.hid h1
  have s0 := (((Sf.start w).put [.int .i64 0, .slice none 0 0, .int .i64 0, .slice none 0 0] 34).put [.int .i64 0, .slice none 0 0, .int .i64 0, .slice none 0 0] 34)
  try simp only [World.size_alloc] at s0
  have S0 := Lib.hid s0
  clear s0
  clear hc hn hl hr hm hl2 hfi h1
  go_enter Try.func14, Try.ntmps14
  go_wp2_with fail
  refine (find_any (HC.out.later S0.out.below) HN.out HL.out HFI.out HFB.out).mono ?_
  rintro e w1 ⟨rfl, hb⟩
  have R1 := Lib.hid (S0.out.later hb)
  clear hb
  have Q1 := Lib.hid (Sf.row (pre := [(w.heap.size + 1, 34, [.int .i64 0, .slice none 0 0, .int .i64 0, .slice none 0 0])]) R1.out [.int .i64 0, .slice none 0 0, .int .i64 0, .slice none 0 0])
  have Q2 := Lib.hid (Sf.row (pre := []) Q1.out [.int .i64 0, .slice none 0 0, .int .i64 0, .slice none 0 0])
  go_wp2_with (first | refine wpList_store_row rfl _ _ _ rfl _ #[.int .i64 0, .slice none 0 0, .int .i64 0, .slice none 0 0] rfl rfl _ _ (R1.out.box _ mq1) (by kernel_rfl) rfl (by simp [Value.oneCell']) ?_ | refine wpList_store_row rfl _ _ _ rfl _ #[.int .i64 0, .slice none 0 0, .int .i64 0, .slice none 0 0] rfl rfl _ _ (Q1.out.box _ mq0) (by kernel_rfl) rfl (by simp [Value.oneCell']) ?_)
  refine bodyPost_ret (ret_row3 rfl _ _ _ _ _ _ rfl rfl (run_loadVar_row _ _ _ _ _ (0, 0) _ (Q2.out.box (w.heap.size, 34, [.int .i64 0, .slice none 0 0, .int .i64 0, .slice none 0 0]) mq1) Try.underlying34 rfl (by kernel_rfl)) (run_loadVar_row _ _ _ _ _ (0, 0) _ (Q2.out.box (w.heap.size + 1, 34, [.int .i64 0, .slice none 0 0, .int .i64 0, .slice none 0 0]) mq0) Try.underlying34 rfl (by kernel_rfl))) rfl ⟨rfl, Q2.out.below⟩

set_option maxHeartbeats 4000000 in
theorem ivl_rec {a a2 : Option Addr} {n cap m cap2 : Nat} {l : List Ct} {rl : List (Int × Int)} {s r d : Int} {w : World} (hc : Cs w a l) (hn : l.length = n) (hl : n ≤ 1000000) (hr : Rs w a2 rl) (hm : rl.length = m) (hl2 : m ≤ 1000000) (h1 : fB s d l = true) (h2 : recB s d rl = true) : Calls Try.prog 14 #[.slice a n cap, .slice a2 m cap2, .int .i64 s, .int .i64 r, .int .i64 d] w (Iz w) := by
  obtain ⟨i, hfi⟩ : ∃ i, fI s d l = i := ⟨_, rfl⟩
  have HC := Lib.hid hc
  have HN := Lib.hid hn
  have HL := Lib.hid hl
  have HR := Lib.hid hr
  have HM := Lib.hid hm
  have HL2 := Lib.hid hl2
  have HFI := Lib.hid hfi
  have HFB := Lib.hid h1
  have HRB := Lib.hid h2
  have s0 := (((Sf.start w).put [.int .i64 0, .slice none 0 0, .int .i64 0, .slice none 0 0] 34).put [.int .i64 0, .slice none 0 0, .int .i64 0, .slice none 0 0] 34)
  try simp only [World.size_alloc] at s0
  have S0 := Lib.hid s0
  clear s0
  clear hc hn hl hr hm hl2 hfi h1 h2
  go_enter Try.func14, Try.ntmps14
  go_wp2_with fail
  refine (find_any (HC.out.later S0.out.below) HN.out HL.out HFI.out HFB.out).mono ?_
  rintro e w1 ⟨rfl, hb⟩
  have R1 := Lib.hid (S0.out.later hb)
  clear hb
  go_wp2_with fail
  refine (recalled_any (HR.out.later R1.out.below) HM.out HL2.out HRB.out).mono ?_
  rintro e w2 ⟨rfl, hb⟩
  have R2 := Lib.hid (R1.out.later hb)
  clear hb
  have Q1 := Lib.hid (Sf.row (pre := [(w.heap.size + 1, 34, [.int .i64 0, .slice none 0 0, .int .i64 0, .slice none 0 0])]) R2.out [.int .i64 0, .slice none 0 0, .int .i64 0, .slice none 0 0])
  have Q2 := Lib.hid (Sf.row (pre := []) Q1.out [.int .i64 0, .slice none 0 0, .int .i64 0, .slice none 0 0])
  go_wp2_with (first | refine wpList_store_row rfl _ _ _ rfl _ #[.int .i64 0, .slice none 0 0, .int .i64 0, .slice none 0 0] rfl rfl _ _ (R2.out.box _ mq1) (by kernel_rfl) rfl (by simp [Value.oneCell']) ?_ | refine wpList_store_row rfl _ _ _ rfl _ #[.int .i64 0, .slice none 0 0, .int .i64 0, .slice none 0 0] rfl rfl _ _ (Q1.out.box _ mq0) (by kernel_rfl) rfl (by simp [Value.oneCell']) ?_)
  refine bodyPost_ret (ret_row3 rfl _ _ _ _ _ _ rfl rfl (run_loadVar_row _ _ _ _ _ (0, 0) _ (Q2.out.box (w.heap.size, 34, [.int .i64 0, .slice none 0 0, .int .i64 0, .slice none 0 0]) mq1) Try.underlying34 rfl (by kernel_rfl)) (run_loadVar_row _ _ _ _ _ (0, 0) _ (Q2.out.box (w.heap.size + 1, 34, [.int .i64 0, .slice none 0 0, .int .i64 0, .slice none 0 0]) mq0) Try.underlying34 rfl (by kernel_rfl))) rfl ⟨rfl, Q2.out.below⟩

set_option maxHeartbeats 4000000 in
theorem ivl_inr {a a2 : Option Addr} {n cap m cap2 : Nat} {l : List Ct} {rl : List (Int × Int)} {s r d : Int} {w : World} (hc : Cs w a l) (hn : l.length = n) (hl : n ≤ 1000000) (hr : Rs w a2 rl) (hm : rl.length = m) (hl2 : m ≤ 1000000) (h1 : fB s d l = true) (h2 : recB s d rl = false) (h3 : inR r = false) : Calls Try.prog 14 #[.slice a n cap, .slice a2 m cap2, .int .i64 s, .int .i64 r, .int .i64 d] w (Iz w) := by
  obtain ⟨i, c, _, hfi, hci, hcv⟩ := found_of h1
  obtain ⟨h4, h5⟩ := cov_ok hcv
  have H3 := Lib.hid h3
  have H4 := Lib.hid h4
  obtain ⟨b, o, rfl, hb, hcells⟩ := hc.at hci
  have HX := Lib.hid hcells
  have hin : i < n := by rw [← hn]; exact (List.getElem?_eq_some_iff.1 hci).1
  have hat := fun W => cert_at b o n cap i hin W
  have HC := Lib.hid hc
  have HN := Lib.hid hn
  have HL := Lib.hid hl
  have HR := Lib.hid hr
  have HM := Lib.hid hm
  have HL2 := Lib.hid hl2
  have HFI := Lib.hid hfi
  have HFB := Lib.hid h1
  clear hci hcv h4 h5 hcells hb
  have HRB := Lib.hid h2
  have s0 := (((Sf.start w).put [.int .i64 0, .slice none 0 0, .int .i64 0, .slice none 0 0] 34).put [.int .i64 0, .slice none 0 0, .int .i64 0, .slice none 0 0] 34)
  try simp only [World.size_alloc] at s0
  have S0 := Lib.hid s0
  clear s0
  clear hc hn hl hr hm hl2 hfi h1 h2 h3 hin
  go_enter Try.func14, Try.ntmps14
  go_wp2_with fail
  refine (find_any (HC.out.later S0.out.below) HN.out HL.out HFI.out HFB.out).mono ?_
  rintro e w1 ⟨rfl, hb⟩
  have R1 := Lib.hid (S0.out.later hb)
  clear hb
  go_wp2_with fail
  refine (recalled_any (HR.out.later R1.out.below) HM.out HL2.out HRB.out).mono ?_
  rintro e w2 ⟨rfl, hb⟩
  have R2 := Lib.hid (R1.out.later hb)
  clear hb
  obtain ⟨x0, x1, x2, x3, x4, x5⟩ := HX.out _ R2.out.below
  go_wp2_with fail
  clear x0 x1 x2 x3 x4 x5
  refine (error_inr H4.out H3.out).mono ?_
  rintro e w3 ⟨rfl, hb⟩
  have R3 := Lib.hid (R2.out.later hb)
  clear hb
  have P1 := Lib.hid (R3.out.put [.int .i64 0, .slice none 0 0, .int .i64 0, .slice none 0 0] 34)
  have Q1 := Lib.hid (Sf.row (pre := []) P1.out [.int .i64 0, .slice none 0 0, .int .i64 0, .slice none 0 0])
  have Q2 := Lib.hid (Sf.row (pre := [(w3.heap.size, 34, [.int .i64 0, .slice none 0 0, .int .i64 0, .slice none 0 0]), (w.heap.size + 1, 34, [.int .i64 0, .slice none 0 0, .int .i64 0, .slice none 0 0])]) Q1.out [.int .i64 0, .slice none 0 0, .int .i64 0, .slice none 0 0])
  have Q3 := Lib.hid (Sf.row (pre := [(w3.heap.size, 34, [.int .i64 0, .slice none 0 0, .int .i64 0, .slice none 0 0])]) Q2.out [.int .i64 0, .slice none 0 0, .int .i64 0, .slice none 0 0])
  go_wp2_with (first | refine wpList_store_row rfl _ _ _ rfl _ #[.int .i64 0, .slice none 0 0, .int .i64 0, .slice none 0 0] rfl rfl _ _ (P1.out.box _ List.mem_cons_self) (by kernel_rfl) rfl (by simp [Value.oneCell']) ?_ | refine wpList_store_row rfl _ _ _ rfl _ #[.int .i64 0, .slice none 0 0, .int .i64 0, .slice none 0 0] rfl rfl _ _ (Q1.out.box _ mq2) (by kernel_rfl) rfl (by simp [Value.oneCell']) ?_ | refine wpList_store_row rfl _ _ _ rfl _ #[.int .i64 0, .slice none 0 0, .int .i64 0, .slice none 0 0] rfl rfl _ _ (Q2.out.box _ mq1) (by kernel_rfl) rfl (by simp [Value.oneCell']) ?_)
  refine bodyPost_ret (ret_row3 rfl _ _ _ _ _ _ rfl rfl (run_loadVar_row _ _ _ _ _ (0, 0) _ (Q3.out.box (w.heap.size, 34, [.int .i64 0, .slice none 0 0, .int .i64 0, .slice none 0 0]) mq2) Try.underlying34 rfl (by kernel_rfl)) (run_loadVar_row _ _ _ _ _ (0, 0) _ (Q3.out.box (w.heap.size + 1, 34, [.int .i64 0, .slice none 0 0, .int .i64 0, .slice none 0 0]) mq1) Try.underlying34 rfl (by kernel_rfl))) rfl ⟨rfl, Q3.out.below⟩

set_option maxHeartbeats 16000000 in
theorem ivl_some {a a2 : Option Addr} {n cap m cap2 : Nat} {l : List Ct} {rl : List (Int × Int)} {s r d : Int} {w : World} (hc : Cs w a l) (hn : l.length = n) (hl : n ≤ 1000000) (hr : Rs w a2 rl) (hm : rl.length = m) (hl2 : m ≤ 1000000) {i : Nat} {c : Ct} (h0 : fnd s d l = some (i, c)) (h2 : recB s d rl = false) (h3 : inR r = true) : Calls Try.prog 14 #[.slice a n cap, .slice a2 m cap2, .int .i64 s, .int .i64 r, .int .i64 d] w (It (lowR c r d) (highR c r d) w) := by
  have hci := (fnd_some _ h0).1
  have hcv := (fnd_some _ h0).2
  have h1 : fB s d l = true := by unfold fB; rw [h0]; rfl
  have hfi : fI s d l = i := by unfold fI; rw [h0]
  obtain ⟨h4, h5⟩ := cov_ok hcv
  have G := good_of h4 h3 h5
  have H3 := Lib.hid h3
  have H4 := Lib.hid h4
  have H5 := Lib.hid h5
  obtain ⟨b, o, rfl, hb, hcells⟩ := hc.at hci
  have HX := Lib.hid hcells
  have hin : i < n := by rw [← hn]; exact (List.getElem?_eq_some_iff.1 hci).1
  have hat := fun W => cert_at b o n cap i hin W
  have HC := Lib.hid hc
  have HN := Lib.hid hn
  have HL := Lib.hid hl
  have HR := Lib.hid hr
  have HM := Lib.hid hm
  have HL2 := Lib.hid hl2
  have HFI := Lib.hid hfi
  have HFB := Lib.hid h1
  have HRB := Lib.hid h2
  have LE := Lib.hid (G.err_sz.mono (j := 1000))
  have LR := Lib.hid (G.int.mono (j := 1000))
  have LS := Lib.hid (G.sub_sz.mono (j := 1000))
  have LZ := Lib.hid (zero_sz.mono (j := 1000))
  have HRI : Hid (-9223372036854775808 ≤ r ∧ r ≤ 9223372036854775807) := Lib.hid (by have := G.r0; have := G.r1; omega)
  have e1 := low_is c r d
  have e2 : (r : Rat) + errR c r d = highR c r d := rfl
  obtain ⟨E, hE⟩ : ∃ E, errR c r d = E := ⟨_, rfl⟩
  obtain ⟨RR, hRR⟩ : ∃ q, ((r : Int) : Rat) = q := ⟨_, rfl⟩
  obtain ⟨ZZ, hZZ⟩ : ∃ q, ((0 : Int) : Rat) = q := ⟨_, rfl⟩
  rw [hE, hRR] at e1 e2 LS
  rw [hZZ] at e1 LZ
  rw [hE] at LE
  rw [hRR] at LR
  obtain ⟨X, hX⟩ : ∃ q, RR - E = q := ⟨_, rfl⟩
  rw [hX] at e1 LS
  obtain ⟨LO, hLO⟩ : ∃ q, lowR c r d = q := ⟨_, rfl⟩
  obtain ⟨UP, hUP⟩ : ∃ q, highR c r d = q := ⟨_, rfl⟩
  rw [hLO] at e1
  rw [hUP] at e2
  rw [hLO, hUP]
  have HE1 := Lib.hid e1
  have HE2 := Lib.hid e2
  have HX1 := Lib.hid hX
  have HRR := Lib.hid hRR
  have HZZ := Lib.hid hZZ
  have HEE : Hid (∀ W, Calls Try.prog 12 #[.agg #[.int .i64 c.sc, .int .i64 c.fr, .int .i64 c.un, .int .i64 c.ut, .int .i64 c.pm, .int .i64 c.dr], .int .i64 r, .int .i64 d] W (Gt E W)) := Lib.hid (fun W => by rw [← hE]; exact error_some H4.out H3.out H5.out)
  clear hci hcv h4 h5 hcells hb e1 e2 hE hRR hZZ hX hLO hUP G h0 h1 h2 h3 H3 H4 H5 hfi
  have s0 := (((Sf.start w).put [.int .i64 0, .slice none 0 0, .int .i64 0, .slice none 0 0] 34).put [.int .i64 0, .slice none 0 0, .int .i64 0, .slice none 0 0] 34)
  try simp only [World.size_alloc] at s0
  have S0 := Lib.hid s0
  clear s0
  clear hc hn hl hr hm hl2 hin
  go_enter Try.func14, Try.ntmps14
  go_wp2_with fail
  refine (find_any (HC.out.later S0.out.below) HN.out HL.out HFI.out HFB.out).mono ?_
  rintro e w1 ⟨rfl, hb⟩
  have R1 := Lib.hid (S0.out.later hb)
  clear hb
  go_wp2_with fail
  refine (recalled_any (HR.out.later R1.out.below) HM.out HL2.out HRB.out).mono ?_
  rintro e w2 ⟨rfl, hb⟩
  have R2 := Lib.hid (R1.out.later hb)
  clear hb
  obtain ⟨x0, x1, x2, x3, x4, x5⟩ := HX.out _ R2.out.below
  go_wp2_with fail
  clear x0 x1 x2 x3 x4 x5
  refine (HEE.out _).mono ?_
  rintro e w3 ⟨sx3, ax3, nx3, cx3, bx3, mx3, dx3, rfl, hr, hb, hf, hg⟩
  have E3 := Lib.hid hr.1.1
  have R3 := Lib.hid (R2.out.ret2 hb hr.1.2 hf hr.2.2 hg)
  have FF3 := Lib.hid (hf.mono R2.out.below.size)
  have FG3 := Lib.hid (hg.mono R2.out.below.size)
  clear hr hb hf hg
  have P1 := Lib.hid (R3.out.put [.int .i64 0, .slice none 0 0, .int .i64 0, .slice none 0 0] 34)
  have Q1 := Lib.hid (Sf.row (pre := []) P1.out [.int .i64 sx3, .slice ax3 nx3 cx3, .int .i64 1, .slice bx3 mx3 dx3])
  go_upto_region 7 with (first | refine wpList_store_row rfl _ _ _ rfl _ #[.int .i64 sx3, .slice ax3 nx3 cx3, .int .i64 1, .slice bx3 mx3 dx3] rfl rfl _ _ (P1.out.box _ List.mem_cons_self) (by kernel_rfl) rfl (by simp [Value.oneCell']) ?_)
  go_cut [53] from 47 to 53 (fun u wx => u = .int .i64 0 ∧ Hid (∃ sq aq nq cq bq mq dq, sq = (X).num.sign ∧ Fresh w.heap.size (.slice aq nq cq) ∧ Fresh w.heap.size (.slice bq mq dq) ∧ Sf w [(w3.heap.size, 34, [.int .i64 sx3, .slice ax3 nx3 cx3, .int .i64 1, .slice bx3 mx3 dx3]), (w.heap.size + 1, 34, [.int .i64 0, .slice none 0 0, .int .i64 0, .slice none 0 0]), (w.heap.size, 34, [.int .i64 sq, .slice aq nq cq, .int .i64 1, .slice bq mq dq])] ((.slice aq nq cq, digs (X).num.natAbs) :: (.slice bq mq dq, digs (((X).den : Int)).natAbs) :: [(.slice ax3 nx3 cx3, digs (E).num.natAbs), (.slice bx3 mx3 dx3, digs (((E).den : Int)).natAbs)]) wx))
  case first =>
    have N0 := Lib.hid Q1.out.drew
    clear Q1
    obtain ⟨q2, q3, q4, q5⟩ := Fb.cells4 (N0.out.box (w3.heap.size, 34, [.int .i64 sx3, .slice ax3 nx3 cx3, .int .i64 1, .slice bx3 mx3 dx3]) mq0)
    go_region_with (first
      | (go_at_call 22; (with_reducible refine (fsub_r (N1.out.fr (v := .slice ax4_0 nx4_0 cx4_0) (u := .slice bx4_0 mx4_0 dx4_0) (r := RR) mq0 mq1 E4_0.out) (N1.out.fr (v := .slice ax3 nx3 cx3) (u := .slice bx3 mx3 dx3) (r := E) mq2 mq3 E3.out) LR.out LE.out HX1.out).mono ?_); rintro e y1 ⟨sx4_1, ax4_1, nx4_1, cx4_1, bx4_1, mx4_1, dx4_1, rfl, hr, hb, hf, hg⟩; have E4_1 := Lib.hid hr.1.1; have N2 := Lib.hid (N1.out.ret2 hb hr.1.2 hf hr.2.2 hg); have FM := Lib.hid (hf.mono N1.out.below.size); have GM := Lib.hid (hg.mono N1.out.below.size); clear hr hb hf hg; obtain ⟨z1_0, z1_1, z1_2, z1_3⟩ := Fb.cells4 (N2.out.box (w.heap.size, 34, [.int .i64 0, .slice none 0 0, .int .i64 0, .slice none 0 0]) mq2); obtain ⟨g1_0, g1_1, g1_2, g1_3⟩ := Fb.free4 (N2.out.box (w.heap.size, 34, [.int .i64 0, .slice none 0 0, .int .i64 0, .slice none 0 0]) mq2))
      | (go_at_call 33; (with_reducible refine (fint_r HRI.out HRR.out _).mono ?_); rintro e y0 ⟨sx4_0, ax4_0, nx4_0, cx4_0, bx4_0, mx4_0, dx4_0, rfl, hr, hb, hf, hg⟩; have E4_0 := Lib.hid hr.1.1; have N1 := Lib.hid (N0.out.ret2 hb hr.1.2 hf hr.2.2 hg); clear hr hb hf hg; obtain ⟨u0_0_0, u0_0_1, u0_0_2, u0_0_3⟩ := Fb.cells4 (N1.out.box (w3.heap.size, 34, [.int .i64 sx3, .slice ax3 nx3 cx3, .int .i64 1, .slice bx3 mx3 dx3]) mq0)))
    all_goals (go_wp2_with fail; go_meet; exact ⟨rfl, Lib.hid ⟨_, _, _, _, _, _, _, E4_1.out, FM.out, GM.out, Sf.facts (Sf.set4 (pre := [(w3.heap.size, 34, [.int .i64 sx3, .slice ax3 nx3 cx3, .int .i64 1, .slice bx3 mx3 dx3]), (w.heap.size + 1, 34, [.int .i64 0, .slice none 0 0, .int .i64 0, .slice none 0 0])]) N2.out (.int .i64 sx4_1) (.slice ax4_1 nx4_1 cx4_1) (.int .i64 1) (.slice bx4_1 mx4_1 dx4_1)) (by simp)⟩⟩)
  case rest =>
  obtain ⟨rfl, hq⟩ := hcut
  obtain ⟨sx4, ax4, nx4, cx4, bx4, mx4, dx4, esx4, ffx4, fgx4, hsx4⟩ := hq.out
  obtain ⟨w4, rfl⟩ : ∃ W, W = wc := ⟨_, rfl⟩
  have R4 := Lib.hid hsx4
  have E4 := Lib.hid esx4
  have FF4 := Lib.hid ffx4
  have FG4 := Lib.hid fgx4
  clear hq esx4 ffx4 fgx4 hsx4 Q1
  go_upto_region 8 with fail
  go_cut [59] from 54 to 59 (fun u wx => u = .int .i64 0 ∧ Hid (∃ sq aq nq cq bq mq dq, sq = (LO).num.sign ∧ Fresh w.heap.size (.slice aq nq cq) ∧ Fresh w.heap.size (.slice bq mq dq) ∧ Sf w [(w3.heap.size, 34, [.int .i64 sx3, .slice ax3 nx3 cx3, .int .i64 1, .slice bx3 mx3 dx3]), (w.heap.size + 1, 34, [.int .i64 0, .slice none 0 0, .int .i64 0, .slice none 0 0]), (w.heap.size, 34, [.int .i64 sq, .slice aq nq cq, .int .i64 1, .slice bq mq dq])] ((.slice aq nq cq, digs (LO).num.natAbs) :: (.slice bq mq dq, digs (((LO).den : Int)).natAbs) :: [(.slice ax4 nx4 cx4, digs (X).num.natAbs), (.slice bx4 mx4 dx4, digs (((X).den : Int)).natAbs), (.slice ax3 nx3 cx3, digs (E).num.natAbs), (.slice bx3 mx3 dx3, digs (((E).den : Int)).natAbs)]) wx))
  case first =>
    have N0 := Lib.hid R4.out.drew
    clear R4
    obtain ⟨q6, q7, q8, q9⟩ := Fb.cells4 (N0.out.box (w.heap.size, 34, [.int .i64 sx4, .slice ax4 nx4 cx4, .int .i64 1, .slice bx4 mx4 dx4]) mq2)
    go_region_with (first
      | (go_at_call 34; (with_reducible refine (fmax_r (N1.out.fr (v := .slice ax4 nx4 cx4) (u := .slice bx4 mx4 dx4) (r := X) mq2 mq3 E4.out) (N1.out.fr (v := .slice ax5_0 nx5_0 cx5_0) (u := .slice bx5_0 mx5_0 dx5_0) (r := ZZ) mq0 mq1 E5_0.out) LS.out LZ.out HE1.out).mono ?_); rintro e y1 ⟨sx5_1, ax5_1, nx5_1, cx5_1, bx5_1, mx5_1, dx5_1, rfl, hr, hb, hf, hg⟩; have E5_1 := Lib.hid hr.1.1; have N2 := Lib.hid (N1.out.ret2 hb hr.1.2 hf hr.2.2 hg); have FM := Lib.hid (hf.mono N1.out.below.size); have GM := Lib.hid (hg.mono N1.out.below.size); clear hr hb hf hg; obtain ⟨z1_0, z1_1, z1_2, z1_3⟩ := Fb.cells4 (N2.out.box (w.heap.size, 34, [.int .i64 sx4, .slice ax4 nx4 cx4, .int .i64 1, .slice bx4 mx4 dx4]) mq2); obtain ⟨g1_0, g1_1, g1_2, g1_3⟩ := Fb.free4 (N2.out.box (w.heap.size, 34, [.int .i64 sx4, .slice ax4 nx4 cx4, .int .i64 1, .slice bx4 mx4 dx4]) mq2))
      | (go_at_call 33; (with_reducible refine (fint_r (by decide) HZZ.out _).mono ?_); rintro e y0 ⟨sx5_0, ax5_0, nx5_0, cx5_0, bx5_0, mx5_0, dx5_0, rfl, hr, hb, hf, hg⟩; have E5_0 := Lib.hid hr.1.1; have N1 := Lib.hid (N0.out.ret2 hb hr.1.2 hf hr.2.2 hg); clear hr hb hf hg; obtain ⟨u0_2_0, u0_2_1, u0_2_2, u0_2_3⟩ := Fb.cells4 (N1.out.box (w.heap.size, 34, [.int .i64 sx4, .slice ax4 nx4 cx4, .int .i64 1, .slice bx4 mx4 dx4]) mq2)))
    all_goals (go_wp2_with fail; go_meet; exact ⟨rfl, Lib.hid ⟨_, _, _, _, _, _, _, E5_1.out, FM.out, GM.out, Sf.facts (Sf.set4 (pre := [(w3.heap.size, 34, [.int .i64 sx3, .slice ax3 nx3 cx3, .int .i64 1, .slice bx3 mx3 dx3]), (w.heap.size + 1, 34, [.int .i64 0, .slice none 0 0, .int .i64 0, .slice none 0 0])]) N2.out (.int .i64 sx5_1) (.slice ax5_1 nx5_1 cx5_1) (.int .i64 1) (.slice bx5_1 mx5_1 dx5_1)) (by simp)⟩⟩)
  case rest =>
  obtain ⟨rfl, hq⟩ := hcut
  obtain ⟨sx5, ax5, nx5, cx5, bx5, mx5, dx5, esx5, ffx5, fgx5, hsx5⟩ := hq.out
  obtain ⟨w5, rfl⟩ : ∃ W, W = wc := ⟨_, rfl⟩
  have R5 := Lib.hid hsx5
  have E5 := Lib.hid esx5
  have FF5 := Lib.hid ffx5
  have FG5 := Lib.hid fgx5
  clear hq esx5 ffx5 fgx5 hsx5 R4
  go_upto_region 9 with fail
  go_cut [66] from 60 to 66 (fun u wx => u = .int .i64 0 ∧ Hid (∃ sq aq nq cq bq mq dq, sq = (UP).num.sign ∧ Fresh w.heap.size (.slice aq nq cq) ∧ Fresh w.heap.size (.slice bq mq dq) ∧ Sf w [(w3.heap.size, 34, [.int .i64 sx3, .slice ax3 nx3 cx3, .int .i64 1, .slice bx3 mx3 dx3]), (w.heap.size + 1, 34, [.int .i64 sq, .slice aq nq cq, .int .i64 1, .slice bq mq dq]), (w.heap.size, 34, [.int .i64 sx5, .slice ax5 nx5 cx5, .int .i64 1, .slice bx5 mx5 dx5])] ((.slice aq nq cq, digs (UP).num.natAbs) :: (.slice bq mq dq, digs (((UP).den : Int)).natAbs) :: [(.slice ax5 nx5 cx5, digs (LO).num.natAbs), (.slice bx5 mx5 dx5, digs (((LO).den : Int)).natAbs), (.slice ax4 nx4 cx4, digs (X).num.natAbs), (.slice bx4 mx4 dx4, digs (((X).den : Int)).natAbs), (.slice ax3 nx3 cx3, digs (E).num.natAbs), (.slice bx3 mx3 dx3, digs (((E).den : Int)).natAbs)]) wx))
  case first =>
    have N0 := Lib.hid R5.out.drew
    clear R5
    obtain ⟨q10, q11, q12, q13⟩ := Fb.cells4 (N0.out.box (w3.heap.size, 34, [.int .i64 sx3, .slice ax3 nx3 cx3, .int .i64 1, .slice bx3 mx3 dx3]) mq0)
    go_region_with (first
      | (go_at_call 35; (with_reducible refine (fadd_r (N1.out.fr (v := .slice ax6_0 nx6_0 cx6_0) (u := .slice bx6_0 mx6_0 dx6_0) (r := RR) mq0 mq1 E6_0.out) (N1.out.fr (v := .slice ax3 nx3 cx3) (u := .slice bx3 mx3 dx3) (r := E) mq6 mq7 E3.out) LR.out LE.out HE2.out).mono ?_); rintro e y1 ⟨sx6_1, ax6_1, nx6_1, cx6_1, bx6_1, mx6_1, dx6_1, rfl, hr, hb, hf, hg⟩; have E6_1 := Lib.hid hr.1.1; have N2 := Lib.hid (N1.out.ret2 hb hr.1.2 hf hr.2.2 hg); have FM := Lib.hid (hf.mono N1.out.below.size); have GM := Lib.hid (hg.mono N1.out.below.size); clear hr hb hf hg; obtain ⟨z1_0, z1_1, z1_2, z1_3⟩ := Fb.cells4 (N2.out.box (w.heap.size + 1, 34, [.int .i64 0, .slice none 0 0, .int .i64 0, .slice none 0 0]) mq1); obtain ⟨g1_0, g1_1, g1_2, g1_3⟩ := Fb.free4 (N2.out.box (w.heap.size + 1, 34, [.int .i64 0, .slice none 0 0, .int .i64 0, .slice none 0 0]) mq1))
      | (go_at_call 33; (with_reducible refine (fint_r HRI.out HRR.out _).mono ?_); rintro e y0 ⟨sx6_0, ax6_0, nx6_0, cx6_0, bx6_0, mx6_0, dx6_0, rfl, hr, hb, hf, hg⟩; have E6_0 := Lib.hid hr.1.1; have N1 := Lib.hid (N0.out.ret2 hb hr.1.2 hf hr.2.2 hg); clear hr hb hf hg; obtain ⟨u0_0_0, u0_0_1, u0_0_2, u0_0_3⟩ := Fb.cells4 (N1.out.box (w3.heap.size, 34, [.int .i64 sx3, .slice ax3 nx3 cx3, .int .i64 1, .slice bx3 mx3 dx3]) mq0)))
    all_goals (go_wp2_with fail; go_meet; exact ⟨rfl, Lib.hid ⟨_, _, _, _, _, _, _, E6_1.out, FM.out, GM.out, Sf.facts (Sf.set4 (pre := [(w3.heap.size, 34, [.int .i64 sx3, .slice ax3 nx3 cx3, .int .i64 1, .slice bx3 mx3 dx3])]) N2.out (.int .i64 sx6_1) (.slice ax6_1 nx6_1 cx6_1) (.int .i64 1) (.slice bx6_1 mx6_1 dx6_1)) (by simp)⟩⟩)
  case rest =>
  obtain ⟨rfl, hq⟩ := hcut
  obtain ⟨sx6, ax6, nx6, cx6, bx6, mx6, dx6, esx6, ffx6, fgx6, hsx6⟩ := hq.out
  obtain ⟨w6, rfl⟩ : ∃ W, W = wc := ⟨_, rfl⟩
  have R6 := Lib.hid hsx6
  have E6 := Lib.hid esx6
  have FF6 := Lib.hid ffx6
  have FG6 := Lib.hid fgx6
  clear hq esx6 ffx6 fgx6 hsx6 R5
  go_upto_region 10 with fail
  go_cut [12] from 67 to 68 (fun u wx => u = .bool true ∧ Hid (Sf w [(w3.heap.size, 34, [.int .i64 sx3, .slice ax3 nx3 cx3, .int .i64 1, .slice bx3 mx3 dx3]), (w.heap.size + 1, 34, [.int .i64 sx6, .slice ax6 nx6 cx6, .int .i64 1, .slice bx6 mx6 dx6]), (w.heap.size, 34, [.int .i64 sx5, .slice ax5 nx5 cx5, .int .i64 1, .slice bx5 mx5 dx5])] [(.slice ax6 nx6 cx6, digs (UP).num.natAbs), (.slice bx6 mx6 dx6, digs (((UP).den : Int)).natAbs), (.slice ax5 nx5 cx5, digs (LO).num.natAbs), (.slice bx5 mx5 dx5, digs (((LO).den : Int)).natAbs), (.slice ax4 nx4 cx4, digs (X).num.natAbs), (.slice bx4 mx4 dx4, digs (((X).den : Int)).natAbs), (.slice ax3 nx3 cx3, digs (E).num.natAbs), (.slice bx3 mx3 dx3, digs (((E).den : Int)).natAbs)] wx))
  case first =>
    have S9 := R6
    obtain ⟨q14, q15, q16, q17⟩ := Fb.cells4 (R6.out.box (w.heap.size + 1, 34, [.int .i64 sx6, .slice ax6 nx6 cx6, .int .i64 1, .slice bx6 mx6 dx6]) mq1)
    obtain ⟨q18, q19, q20, q21⟩ := Fb.cells4 (R6.out.box (w.heap.size, 34, [.int .i64 sx5, .slice ax5 nx5 cx5, .int .i64 1, .slice bx5 mx5 dx5]) mq2)
    obtain ⟨e10, e11, e12, e13⟩ := Fb.free4 (R6.out.box (w.heap.size + 1, 34, [.int .i64 sx6, .slice ax6 nx6 cx6, .int .i64 1, .slice bx6 mx6 dx6]) mq1)
    obtain ⟨e20, e21, e22, e23⟩ := Fb.free4 (R6.out.box (w.heap.size, 34, [.int .i64 sx5, .slice ax5 nx5 cx5, .int .i64 1, .slice bx5 mx5 dx5]) mq2)
    have N0 := Lib.hid R6.out.drew
    clear R6
    obtain ⟨q22, q23, q24, q25⟩ := Fb.cells4 (N0.out.box (w.heap.size + 1, 34, [.int .i64 sx6, .slice ax6 nx6 cx6, .int .i64 1, .slice bx6 mx6 dx6]) mq1)
    obtain ⟨q26, q27, q28, q29⟩ := Fb.cells4 (N0.out.box (w.heap.size, 34, [.int .i64 sx5, .slice ax5 nx5 cx5, .int .i64 1, .slice bx5 mx5 dx5]) mq2)
    obtain ⟨f10, f11, f12, f13⟩ := Fb.free4 (N0.out.box (w.heap.size + 1, 34, [.int .i64 sx6, .slice ax6 nx6 cx6, .int .i64 1, .slice bx6 mx6 dx6]) mq1)
    obtain ⟨f20, f21, f22, f23⟩ := Fb.free4 (N0.out.box (w.heap.size, 34, [.int .i64 sx5, .slice ax5 nx5 cx5, .int .i64 1, .slice bx5 mx5 dx5]) mq2)
    go_region
    all_goals (go_wp2_with fail; go_meet; refine ⟨rfl, ?_⟩; first | (with_reducible exact Lib.hid (Sf.set4 (pre := [(w3.heap.size, 34, [.int .i64 sx3, .slice ax3 nx3 cx3, .int .i64 1, .slice bx3 mx3 dx3])]) (Sf.set4 (pre := [(w3.heap.size, 34, [.int .i64 sx3, .slice ax3 nx3 cx3, .int .i64 1, .slice bx3 mx3 dx3]), (w.heap.size + 1, 34, [.int .i64 sx6, .slice ax6 nx6 cx6, .int .i64 1, .slice bx6 mx6 dx6])]) S9.out (.int .i64 sx5) (.slice ax5 nx5 cx5) (.int .i64 1) (.slice bx5 mx5 dx5)) (.int .i64 sx6) (.slice ax6 nx6 cx6) (.int .i64 1) (.slice bx6 mx6 dx6)).drew) | (with_reducible exact Lib.hid (Sf.set4 (pre := [(w3.heap.size, 34, [.int .i64 sx3, .slice ax3 nx3 cx3, .int .i64 1, .slice bx3 mx3 dx3]), (w.heap.size + 1, 34, [.int .i64 sx6, .slice ax6 nx6 cx6, .int .i64 1, .slice bx6 mx6 dx6])]) (Sf.set4 (pre := [(w3.heap.size, 34, [.int .i64 sx3, .slice ax3 nx3 cx3, .int .i64 1, .slice bx3 mx3 dx3])]) S9.out (.int .i64 sx6) (.slice ax6 nx6 cx6) (.int .i64 1) (.slice bx6 mx6 dx6)) (.int .i64 sx5) (.slice ax5 nx5 cx5) (.int .i64 1) (.slice bx5 mx5 dx5)).drew))
  case rest =>
  obtain ⟨rfl, hq⟩ := hcut
  obtain ⟨w7, rfl⟩ : ∃ W, W = wc := ⟨_, rfl⟩
  have R7 := Lib.hid hq.out
  clear hq R6
  go_wp2_with fail
  refine bodyPost_ret (ret_row3 rfl _ _ _ _ _ _ rfl rfl (run_loadVar_row _ _ _ _ _ (0, 0) _ (R7.out.box (w.heap.size, 34, [.int .i64 sx5, .slice ax5 nx5 cx5, .int .i64 1, .slice bx5 mx5 dx5]) mq2) Try.underlying34 rfl (by kernel_rfl)) (run_loadVar_row _ _ _ _ _ (0, 0) _ (R7.out.box (w.heap.size + 1, 34, [.int .i64 sx6, .slice ax6 nx6 cx6, .int .i64 1, .slice bx6 mx6 dx6]) mq1) Try.underlying34 rfl (by kernel_rfl))) rfl ⟨_, _, _, _, _, _, _, _, _, _, _, _, _, _, rfl, (R7.out.fr (v := .slice ax5 nx5 cx5) (u := .slice bx5 mx5 dx5) (r := LO) mq2 mq3 E5.out), (R7.out.fr (v := .slice ax6 nx6 cx6) (u := .slice bx6 mx6 dx6) (r := UP) mq0 mq1 E6.out), R7.out.below, FF5.out, FG5.out, FF6.out, FG6.out⟩
end Go.Proofs.Ytmhjejnkphdjpaa.Sc
