/- Error and Interval of scale's reference. Error and Interval for any arguments; whole; lists of one certificate; slices of records that grow. -/
import Derived.Test.YtmhjejnkphdjpaaPB26
set_option maxRecDepth 100000
namespace Go.Proofs.Ytmhjejnkphdjpaa.Sc
open Go.RowKit Bi

section
variable {w : World} {sa : Int} {aa ba : Option Addr} {na ca ma da : Nat} {sb : Int} {ab bb : Option Addr} {nb cb mb db : Nat} {a b r : Rat}
theorem qadd_r (ha : Fr w sa (.slice aa na ca) (.slice ba ma da) a) (hb : Fr w sb (.slice ab nb cb) (.slice bb mb db) b) (La : FSz 1000 a) (Lb : FSz 1000 b) (h : a + b = r) : Calls Try.prog 32 #[.agg #[.int .i64 sa, .slice aa na ca, .int .i64 1, .slice ba ma da], .agg #[.int .i64 sb, .slice ab nb cb, .int .i64 1, .slice bb mb db]] w (FVE r 0 w) := by subst h; exact rfadd_k ha hb La Lb
theorem qsub_r (ha : Fr w sa (.slice aa na ca) (.slice ba ma da) a) (hb : Fr w sb (.slice ab nb cb) (.slice bb mb db) b) (La : FSz 1000 a) (Lb : FSz 1000 b) (h : a - b = r) : Calls Try.prog 36 #[.agg #[.int .i64 sa, .slice aa na ca, .int .i64 1, .slice ba ma da], .agg #[.int .i64 sb, .slice ab nb cb, .int .i64 1, .slice bb mb db]] w (FVE r 0 w) := by subst h; exact rfsub_k ha hb La Lb
theorem qint_r {z : Int} (hz : -9223372036854775808 ≤ z ∧ z ≤ 9223372036854775807) (h : (z : Rat) = r) (w : World) : Calls Try.prog 21 #[.int .i64 z] w (FV r w) := by subst h; exact rfint_k z hz w
theorem qsign_r {k : Int} (ha : Fr w sa (.slice aa na ca) (.slice ba ma da) a) (La : FSz 1000 a) (h : a.num.sign = k) : Calls Try.prog 24 #[.agg #[.int .i64 sa, .slice aa na ca, .int .i64 1, .slice ba ma da]] w fun e w' => e = .returned (.int .i64 k) ∧ RowKit.Below w.heap.size w w' := by subst h; exact rfsign_k ha La
end
theorem qint_s {z : Int} {w W : World} {L : List FBox} {F : List (Value × List Int)} {r : Rat} (_h : Sf w L F W) (hz : -9223372036854775808 ≤ z ∧ z ≤ 9223372036854775807) (h : (z : Rat) = r) : Calls Try.prog 21 #[.int .i64 z] W (FV r W) := qint_r hz h W
theorem sign_neg (a : Rat) : decide (a.num.sign < 0) = decide (a < 0) := by
  rw [decide_eq_decide, Int.sign_neg_iff]
  have := Rat.num_nonneg (q := a)
  rw [← Rat.not_le, ← this]
  omega
theorem low_if {c : Ct} {r d : Int} : (if decide (((r : Rat) - errR c r d).num.sign < 0) = true then ((0 : Int) : Rat) else (r : Rat) - errR c r d) = lowR c r d := by
  unfold lowR
  rw [sign_neg]
  by_cases h : (r : Rat) - errR c r d < 0
  · rw [if_pos (decide_eq_true h), if_pos h]; rfl
  · rw [if_neg (by simpa using h), if_neg h]

set_option maxHeartbeats 4000000 in
theorem rerror_ok {c : Ct} {r d : Int} {w : World} (h1 : c.ok = false) : Calls Try.prog 13 #[.agg #[.int .i64 c.sc, .int .i64 c.fr, .int .i64 c.un, .int .i64 c.ut, .int .i64 c.pm, .int .i64 c.dr], .int .i64 r, .int .i64 d] w (Gz w) := by
  have H1 := Lib.hid h1
  have s0 := (((Sf.start w).put [.int .i64 c.sc, .int .i64 c.fr, .int .i64 c.un, .int .i64 c.ut, .int .i64 c.pm, .int .i64 c.dr] 25).put [.int .i64 0, .slice none 0 0, .int .i64 0, .slice none 0 0] 34)
  try simp only [World.size_alloc] at s0
  have S0 := Lib.hid s0
  clear s0
  clear h1
  go_enter Try.func13, Try.ntmps13
  obtain ⟨q1, q2, q3, q4, q5, q6⟩ := Fb.cells6 (S0.out.box (w.heap.size, 25, [.int .i64 c.sc, .int .i64 c.fr, .int .i64 c.un, .int .i64 c.ut, .int .i64 c.pm, .int .i64 c.dr]) mq1)
  go_wp2_with fail
  clear q1 q2 q3 q4 q5 q6
  refine (rright_any H1.out).mono ?_
  rintro e w1 ⟨rfl, hb⟩
  have R1 := Lib.hid (S0.out.later hb)
  clear hb
  have Q7 := Lib.hid (Sf.row (pre := []) R1.out [.int .i64 0, .slice none 0 0, .int .i64 0, .slice none 0 0])
  go_wp2_with (first | refine wpList_store_row rfl _ _ _ rfl _ #[.int .i64 0, .slice none 0 0, .int .i64 0, .slice none 0 0] rfl rfl _ _ (R1.out.box _ mq0) (by kernel_rfl) rfl (by simp [Value.oneCell']) ?_)
  refine bodyPost_ret (ret_row rfl _ _ _ _ rfl (run_loadVar_row _ _ _ _ _ (0, 0) _ (Q7.out.box _ mq0) Try.underlying34 rfl (by kernel_rfl))) rfl ⟨rfl, Q7.out.below⟩

set_option maxHeartbeats 4000000 in
theorem rerror_inr {c : Ct} {r d : Int} {w : World} (h1 : c.ok = true) (h2 : inR r = false) : Calls Try.prog 13 #[.agg #[.int .i64 c.sc, .int .i64 c.fr, .int .i64 c.un, .int .i64 c.ut, .int .i64 c.pm, .int .i64 c.dr], .int .i64 r, .int .i64 d] w (Gz w) := by
  have H1 := Lib.hid h1
  have H2 := Lib.hid h2
  have s0 := (((Sf.start w).put [.int .i64 c.sc, .int .i64 c.fr, .int .i64 c.un, .int .i64 c.ut, .int .i64 c.pm, .int .i64 c.dr] 25).put [.int .i64 0, .slice none 0 0, .int .i64 0, .slice none 0 0] 34)
  try simp only [World.size_alloc] at s0
  have S0 := Lib.hid s0
  clear s0
  clear h1 h2
  go_enter Try.func13, Try.ntmps13
  obtain ⟨q1, q2, q3, q4, q5, q6⟩ := Fb.cells6 (S0.out.box (w.heap.size, 25, [.int .i64 c.sc, .int .i64 c.fr, .int .i64 c.un, .int .i64 c.ut, .int .i64 c.pm, .int .i64 c.dr]) mq1)
  go_wp2_with fail
  clear q1 q2 q3 q4 q5 q6
  refine (rright_any H1.out).mono ?_
  rintro e w1 ⟨rfl, hb⟩
  have R1 := Lib.hid (S0.out.later hb)
  clear hb
  go_wp2_with fail
  refine (rin_any H2.out).mono ?_
  rintro e w2 ⟨rfl, rfl⟩
  have Q7 := Lib.hid (Sf.row (pre := []) R1.out [.int .i64 0, .slice none 0 0, .int .i64 0, .slice none 0 0])
  go_wp2_with (first | refine wpList_store_row rfl _ _ _ rfl _ #[.int .i64 0, .slice none 0 0, .int .i64 0, .slice none 0 0] rfl rfl _ _ (R1.out.box _ mq0) (by kernel_rfl) rfl (by simp [Value.oneCell']) ?_)
  refine bodyPost_ret (ret_row rfl _ _ _ _ rfl (run_loadVar_row _ _ _ _ _ (0, 0) _ (Q7.out.box _ mq0) Try.underlying34 rfl (by kernel_rfl))) rfl ⟨rfl, Q7.out.below⟩

set_option maxHeartbeats 4000000 in
theorem rerror_ind {c : Ct} {r d : Int} {w : World} (h1 : c.ok = true) (h2 : inR r = true) (h3 : inD c d = false) : Calls Try.prog 13 #[.agg #[.int .i64 c.sc, .int .i64 c.fr, .int .i64 c.un, .int .i64 c.ut, .int .i64 c.pm, .int .i64 c.dr], .int .i64 r, .int .i64 d] w (Gz w) := by
  have H1 := Lib.hid h1
  have H2 := Lib.hid h2
  have H3 := Lib.hid h3
  have s0 := (((Sf.start w).put [.int .i64 c.sc, .int .i64 c.fr, .int .i64 c.un, .int .i64 c.ut, .int .i64 c.pm, .int .i64 c.dr] 25).put [.int .i64 0, .slice none 0 0, .int .i64 0, .slice none 0 0] 34)
  try simp only [World.size_alloc] at s0
  have S0 := Lib.hid s0
  clear s0
  clear h1 h2 h3
  go_enter Try.func13, Try.ntmps13
  obtain ⟨q1, q2, q3, q4, q5, q6⟩ := Fb.cells6 (S0.out.box (w.heap.size, 25, [.int .i64 c.sc, .int .i64 c.fr, .int .i64 c.un, .int .i64 c.ut, .int .i64 c.pm, .int .i64 c.dr]) mq1)
  go_wp2_with fail
  clear q1 q2 q3 q4 q5 q6
  refine (rright_any H1.out).mono ?_
  rintro e w1 ⟨rfl, hb⟩
  have R1 := Lib.hid (S0.out.later hb)
  clear hb
  go_wp2_with fail
  refine (rin_any H2.out).mono ?_
  rintro e w2 ⟨rfl, rfl⟩
  obtain ⟨q7, q8, q9, q10, q11, q12⟩ := Fb.cells6 (R1.out.box (w.heap.size, 25, [.int .i64 c.sc, .int .i64 c.fr, .int .i64 c.un, .int .i64 c.ut, .int .i64 c.pm, .int .i64 c.dr]) mq1)
  go_wp2_with fail
  clear q7 q8 q9 q10 q11 q12
  refine (rin_any H3.out).mono ?_
  rintro e w3 ⟨rfl, rfl⟩
  have Q13 := Lib.hid (Sf.row (pre := []) R1.out [.int .i64 0, .slice none 0 0, .int .i64 0, .slice none 0 0])
  go_wp2_with (first | refine wpList_store_row rfl _ _ _ rfl _ #[.int .i64 0, .slice none 0 0, .int .i64 0, .slice none 0 0] rfl rfl _ _ (R1.out.box _ mq0) (by kernel_rfl) rfl (by simp [Value.oneCell']) ?_)
  refine bodyPost_ret (ret_row rfl _ _ _ _ rfl (run_loadVar_row _ _ _ _ _ (0, 0) _ (Q13.out.box _ mq0) Try.underlying34 rfl (by kernel_rfl))) rfl ⟨rfl, Q13.out.below⟩

set_option maxHeartbeats 16000000 in
theorem rerror_some {c : Ct} {r d : Int} {w : World} (h1 : c.ok = true) (h2 : inR r = true) (h3 : inD c d = true) : Calls Try.prog 13 #[.agg #[.int .i64 c.sc, .int .i64 c.fr, .int .i64 c.un, .int .i64 c.ut, .int .i64 c.pm, .int .i64 c.dr], .int .i64 r, .int .i64 d] w (Gt (errR c r d) w) := by
  have G := good_of h1 h2 h3
  have H1 := Lib.hid h1
  have H2 := Lib.hid h2
  have H3 := Lib.hid h3
  have hp := G.prod
  have u0 := G.ut0
  have u1 := G.ut1
  have d0 := G.d0
  have d1 := G.d1
  have f0 := G.fr0
  have e0 := G.un0
  obtain ⟨E, hE⟩ : ∃ E, errR c r d = E := ⟨_, rfl⟩
  have hr1 := hE
  unfold errR at hr1
  obtain ⟨x1, hx1⟩ : ∃ x, d - c.fr = x := ⟨_, rfl⟩
  rw [hx1] at hp hr1
  obtain ⟨x2, hx2⟩ : ∃ x, c.dr * x1 = x := ⟨_, rfl⟩
  rw [hx2] at hp hr1
  obtain ⟨x3, hx3⟩ : ∃ x, c.ut + x2 = x := ⟨_, rfl⟩
  rw [hx3] at hr1
  obtain ⟨x5, hx5⟩ : ∃ x, c.pm * r = x := ⟨_, rfl⟩
  rw [hx5] at hp hr1
  have hw1 : IntKind.i64.wrap (d - c.fr) = x1 := by rw [hx1]; exact IntWalk.i64_in _ (by omega)
  have hw2 : IntKind.i64.wrap (c.dr * x1) = x2 := by rw [hx2]; exact IntWalk.i64_in _ (by omega)
  have hw3 : IntKind.i64.wrap (c.ut + x2) = x3 := by rw [hx3]; exact IntWalk.i64_in _ (by omega)
  have hw5 : IntKind.i64.wrap (c.pm * r) = x5 := by rw [hx5]; exact IntWalk.i64_in _ (by omega)
  have HX : Hid (-9223372036854775808 ≤ x5 ∧ x5 ≤ 9223372036854775807) := Lib.hid (by omega)
  have HX3 : Hid (-9223372036854775808 ≤ x3 ∧ x3 ≤ 9223372036854775807) := Lib.hid (by omega)
  obtain ⟨SH, hSH⟩ : ∃ q, Rat.divInt x5 1000 = q := ⟨_, rfl⟩
  obtain ⟨I3, hI3⟩ : ∃ q, ((x3 : Int) : Rat) = q := ⟨_, rfl⟩
  rw [hSH, hI3] at hr1
  have LI := Lib.hid ((by rw [← hI3]; exact int_sz (by omega) : FSz 4 I3).mono (j := 1000))
  have LS := Lib.hid ((FSz.mk' hSH (by decide) (Sz.small (by omega)) (Sz.small (by decide)) : FSz 4 SH).mono (j := 1000))
  have HR := Lib.hid hr1
  have HSH := Lib.hid hSH
  have HI3 := Lib.hid hI3
  rw [hE]
  clear hp hr1 u0 u1 d0 d1 f0 e0 hx1 hx2 hx3 hx5 hE G hSH hI3
  have s0 := (((Sf.start w).put [.int .i64 c.sc, .int .i64 c.fr, .int .i64 c.un, .int .i64 c.ut, .int .i64 c.pm, .int .i64 c.dr] 25).put [.int .i64 0, .slice none 0 0, .int .i64 0, .slice none 0 0] 34)
  try simp only [World.size_alloc] at s0
  have S0 := Lib.hid s0
  clear s0
  clear h1 h2 h3
  go_enter Try.func13, Try.ntmps13
  obtain ⟨q1, q2, q3, q4, q5, q6⟩ := Fb.cells6 (S0.out.box (w.heap.size, 25, [.int .i64 c.sc, .int .i64 c.fr, .int .i64 c.un, .int .i64 c.ut, .int .i64 c.pm, .int .i64 c.dr]) mq1)
  go_wp2_with fail
  clear q1 q2 q3 q4 q5 q6
  refine (rright_any H1.out).mono ?_
  rintro e w1 ⟨rfl, hb⟩
  have R1 := Lib.hid (S0.out.later hb)
  clear hb
  go_wp2_with fail
  refine (rin_any H2.out).mono ?_
  rintro e w2 ⟨rfl, rfl⟩
  obtain ⟨q7, q8, q9, q10, q11, q12⟩ := Fb.cells6 (R1.out.box (w.heap.size, 25, [.int .i64 c.sc, .int .i64 c.fr, .int .i64 c.un, .int .i64 c.ut, .int .i64 c.pm, .int .i64 c.dr]) mq1)
  go_wp2_with fail
  clear q7 q8 q9 q10 q11 q12
  refine (rin_any H3.out).mono ?_
  rintro e w3 ⟨rfl, rfl⟩
  obtain ⟨q13, q14, q15, q16, q17, q18⟩ := Fb.cells6 (R1.out.box (w.heap.size, 25, [.int .i64 c.sc, .int .i64 c.fr, .int .i64 c.un, .int .i64 c.ut, .int .i64 c.pm, .int .i64 c.dr]) mq1)
  go_wp2_with fail
  clear q13 q14 q15 q16 q17 q18
  refine (rfof_r x5 1000 HX.out (by decide) (by decide) HSH.out _).mono ?_
  rintro e w4 ⟨sx4, ax4, nx4, cx4, bx4, mx4, dx4, rfl, hr, hb, hf, hg⟩
  have E4 := Lib.hid hr.1.1
  have R4 := Lib.hid (R1.out.ret2 hb hr.1.2 hf hr.2.2 hg)
  have FF4 := Lib.hid (hf.mono R1.out.below.size)
  have FG4 := Lib.hid (hg.mono R1.out.below.size)
  clear hr hb hf hg
  have P19 := Lib.hid (R4.out.put [.int .i64 0, .slice none 0 0, .int .i64 0, .slice none 0 0] 34)
  have Q19 := Lib.hid (Sf.row (pre := []) P19.out [.int .i64 sx4, .slice ax4 nx4 cx4, .int .i64 1, .slice bx4 mx4 dx4])
  go_upto_region 4 with (first | refine wpList_store_row rfl _ _ _ rfl _ #[.int .i64 sx4, .slice ax4 nx4 cx4, .int .i64 1, .slice bx4 mx4 dx4] rfl rfl _ _ (P19.out.box _ List.mem_cons_self) (by kernel_rfl) rfl (by simp [Value.oneCell']) ?_)
  obtain ⟨VA, hVA⟩ : ∃ W, ((w4.alloc (.cells #[.int .i64 0, .slice none 0 0, .int .i64 0, .slice none 0 0] 34)).setRow w4.heap.size #[.int .i64 sx4, .slice ax4 nx4 cx4, .int .i64 1, .slice bx4 mx4 dx4]) = W := ⟨_, rfl⟩
  rw [hVA] at Q19 ⊢
  clear hVA
  go_cut [10, 11] from 38 to 53 (fun u v wx => v = .int .i64 0 ∧ Hid (∃ gq sq aq nq cq bq mq dq, u = .pointer (some ⟨gq, 0, none⟩) ∧ sq = (E).num.sign ∧ Fresh w.heap.size (.slice aq nq cq) ∧ Fresh w.heap.size (.slice bq mq dq) ∧ Sf w ((gq, 34, [.int .i64 sq, .slice aq nq cq, .int .i64 1, .slice bq mq dq]) :: [(w4.heap.size, 34, [.int .i64 sx4, .slice ax4 nx4 cx4, .int .i64 1, .slice bx4 mx4 dx4]), (w.heap.size + 1, 34, [.int .i64 0, .slice none 0 0, .int .i64 0, .slice none 0 0]), (w.heap.size, 25, [.int .i64 c.sc, .int .i64 c.fr, .int .i64 c.un, .int .i64 c.ut, .int .i64 c.pm, .int .i64 c.dr])]) ((.slice aq nq cq, digs (E).num.natAbs) :: (.slice bq mq dq, digs (((E).den : Int)).natAbs) :: [(.slice ax4 nx4 cx4, digs (SH).num.natAbs), (.slice bx4 mx4 dx4, digs (((SH).den : Int)).natAbs)]) wx))
  case first =>
    have K0 : ∀ W F, Sf w [(w4.heap.size, 34, [.int .i64 sx4, .slice ax4 nx4 cx4, .int .i64 1, .slice bx4 mx4 dx4]), (w.heap.size + 1, 34, [.int .i64 0, .slice none 0 0, .int .i64 0, .slice none 0 0]), (w.heap.size, 25, [.int .i64 c.sc, .int .i64 c.fr, .int .i64 c.un, .int .i64 c.ut, .int .i64 c.pm, .int .i64 c.dr])] F W → W.cell? ⟨w4.heap.size, 0, none⟩ = some (.int .i64 sx4) ∧ W.cell? ⟨w4.heap.size, 1, none⟩ = some (.slice ax4 nx4 cx4) ∧ W.cell? ⟨w4.heap.size, 2, none⟩ = some (.int .i64 1) ∧ W.cell? ⟨w4.heap.size, 3, none⟩ = some (.slice bx4 mx4 dx4) ∧ W.cell? ⟨w.heap.size, 0, none⟩ = some (.int .i64 c.sc) ∧ W.cell? ⟨w.heap.size, 1, none⟩ = some (.int .i64 c.fr) ∧ W.cell? ⟨w.heap.size, 2, none⟩ = some (.int .i64 c.un) ∧ W.cell? ⟨w.heap.size, 3, none⟩ = some (.int .i64 c.ut) ∧ W.cell? ⟨w.heap.size, 4, none⟩ = some (.int .i64 c.pm) ∧ W.cell? ⟨w.heap.size, 5, none⟩ = some (.int .i64 c.dr) := fun W F h => ⟨(h.box (w4.heap.size, 34, [.int .i64 sx4, .slice ax4 nx4 cx4, .int .i64 1, .slice bx4 mx4 dx4]) mq0).cell 0, (h.box (w4.heap.size, 34, [.int .i64 sx4, .slice ax4 nx4 cx4, .int .i64 1, .slice bx4 mx4 dx4]) mq0).cell 1, (h.box (w4.heap.size, 34, [.int .i64 sx4, .slice ax4 nx4 cx4, .int .i64 1, .slice bx4 mx4 dx4]) mq0).cell 2, (h.box (w4.heap.size, 34, [.int .i64 sx4, .slice ax4 nx4 cx4, .int .i64 1, .slice bx4 mx4 dx4]) mq0).cell 3, (h.box (w.heap.size, 25, [.int .i64 c.sc, .int .i64 c.fr, .int .i64 c.un, .int .i64 c.ut, .int .i64 c.pm, .int .i64 c.dr]) mq2).cell 0, (h.box (w.heap.size, 25, [.int .i64 c.sc, .int .i64 c.fr, .int .i64 c.un, .int .i64 c.ut, .int .i64 c.pm, .int .i64 c.dr]) mq2).cell 1, (h.box (w.heap.size, 25, [.int .i64 c.sc, .int .i64 c.fr, .int .i64 c.un, .int .i64 c.ut, .int .i64 c.pm, .int .i64 c.dr]) mq2).cell 2, (h.box (w.heap.size, 25, [.int .i64 c.sc, .int .i64 c.fr, .int .i64 c.un, .int .i64 c.ut, .int .i64 c.pm, .int .i64 c.dr]) mq2).cell 3, (h.box (w.heap.size, 25, [.int .i64 c.sc, .int .i64 c.fr, .int .i64 c.un, .int .i64 c.ut, .int .i64 c.pm, .int .i64 c.dr]) mq2).cell 4, (h.box (w.heap.size, 25, [.int .i64 c.sc, .int .i64 c.fr, .int .i64 c.un, .int .i64 c.ut, .int .i64 c.pm, .int .i64 c.dr]) mq2).cell 5⟩
    have KK := Lib.hid K0
    clear K0
    have K0 : ∀ W F x, Sf w (x :: [(w4.heap.size, 34, [.int .i64 sx4, .slice ax4 nx4 cx4, .int .i64 1, .slice bx4 mx4 dx4]), (w.heap.size + 1, 34, [.int .i64 0, .slice none 0 0, .int .i64 0, .slice none 0 0]), (w.heap.size, 25, [.int .i64 c.sc, .int .i64 c.fr, .int .i64 c.un, .int .i64 c.ut, .int .i64 c.pm, .int .i64 c.dr])]) F W → W.cell? ⟨w4.heap.size, 0, none⟩ = some (.int .i64 sx4) ∧ W.cell? ⟨w4.heap.size, 1, none⟩ = some (.slice ax4 nx4 cx4) ∧ W.cell? ⟨w4.heap.size, 2, none⟩ = some (.int .i64 1) ∧ W.cell? ⟨w4.heap.size, 3, none⟩ = some (.slice bx4 mx4 dx4) ∧ W.cell? ⟨w.heap.size, 0, none⟩ = some (.int .i64 c.sc) ∧ W.cell? ⟨w.heap.size, 1, none⟩ = some (.int .i64 c.fr) ∧ W.cell? ⟨w.heap.size, 2, none⟩ = some (.int .i64 c.un) ∧ W.cell? ⟨w.heap.size, 3, none⟩ = some (.int .i64 c.ut) ∧ W.cell? ⟨w.heap.size, 4, none⟩ = some (.int .i64 c.pm) ∧ W.cell? ⟨w.heap.size, 5, none⟩ = some (.int .i64 c.dr) := fun W F x h => ⟨(h.box (w4.heap.size, 34, [.int .i64 sx4, .slice ax4 nx4 cx4, .int .i64 1, .slice bx4 mx4 dx4]) mq1).cell 0, (h.box (w4.heap.size, 34, [.int .i64 sx4, .slice ax4 nx4 cx4, .int .i64 1, .slice bx4 mx4 dx4]) mq1).cell 1, (h.box (w4.heap.size, 34, [.int .i64 sx4, .slice ax4 nx4 cx4, .int .i64 1, .slice bx4 mx4 dx4]) mq1).cell 2, (h.box (w4.heap.size, 34, [.int .i64 sx4, .slice ax4 nx4 cx4, .int .i64 1, .slice bx4 mx4 dx4]) mq1).cell 3, (h.box (w.heap.size, 25, [.int .i64 c.sc, .int .i64 c.fr, .int .i64 c.un, .int .i64 c.ut, .int .i64 c.pm, .int .i64 c.dr]) mq3).cell 0, (h.box (w.heap.size, 25, [.int .i64 c.sc, .int .i64 c.fr, .int .i64 c.un, .int .i64 c.ut, .int .i64 c.pm, .int .i64 c.dr]) mq3).cell 1, (h.box (w.heap.size, 25, [.int .i64 c.sc, .int .i64 c.fr, .int .i64 c.un, .int .i64 c.ut, .int .i64 c.pm, .int .i64 c.dr]) mq3).cell 2, (h.box (w.heap.size, 25, [.int .i64 c.sc, .int .i64 c.fr, .int .i64 c.un, .int .i64 c.ut, .int .i64 c.pm, .int .i64 c.dr]) mq3).cell 3, (h.box (w.heap.size, 25, [.int .i64 c.sc, .int .i64 c.fr, .int .i64 c.un, .int .i64 c.ut, .int .i64 c.pm, .int .i64 c.dr]) mq3).cell 4, (h.box (w.heap.size, 25, [.int .i64 c.sc, .int .i64 c.fr, .int .i64 c.un, .int .i64 c.ut, .int .i64 c.pm, .int .i64 c.dr]) mq3).cell 5⟩
    have KU := Lib.hid K0
    clear K0
    have N0 := Lib.hid Q19.out.drew
    have Z0 := Lib.hid (Q19.out.put [.int .i64 0, .slice none 0 0, .int .i64 0, .slice none 0 0] 34).drew
    clear Q19
    have eN0 := KK.out _ _ N0.out
    have eZ0 := KU.out _ _ _ Z0.out
    have CN0 := Lib.hid (qint_s N0.out HX3.out HI3.out)
    have CZ0 := Lib.hid (qint_s Z0.out HX3.out HI3.out)
    go_region_held3 (fun W => W.cell? ⟨w4.heap.size, 0, none⟩ = some (.int .i64 sx4) ∧ W.cell? ⟨w4.heap.size, 1, none⟩ = some (.slice ax4 nx4 cx4) ∧ W.cell? ⟨w4.heap.size, 2, none⟩ = some (.int .i64 1) ∧ W.cell? ⟨w4.heap.size, 3, none⟩ = some (.slice bx4 mx4 dx4) ∧ W.cell? ⟨w.heap.size, 0, none⟩ = some (.int .i64 c.sc) ∧ W.cell? ⟨w.heap.size, 1, none⟩ = some (.int .i64 c.fr) ∧ W.cell? ⟨w.heap.size, 2, none⟩ = some (.int .i64 c.un) ∧ W.cell? ⟨w.heap.size, 3, none⟩ = some (.int .i64 c.ut) ∧ W.cell? ⟨w.heap.size, 4, none⟩ = some (.int .i64 c.pm) ∧ W.cell? ⟨w.heap.size, 5, none⟩ = some (.int .i64 c.dr))
      (first | (with_reducible exact eN0) | (with_reducible exact eZ0) | (with_reducible exact eN1) | (with_reducible exact eZ1) | (with_reducible exact eB0_1) | (with_reducible exact eN2) | (with_reducible exact eZ2) | (with_reducible exact eRN) | (with_reducible exact eB1_2) | (with_reducible exact eRB) | (with_reducible exact eB0_2) | go_keep)
      (((first | go_at_call 32 | go_at_call 21 | (rw [if_pos (by rfl)]; go_simp) | skip); (first
          | (have hG := B0_1; clear hG; go_at_call 32; (with_reducible refine (CB0_1.out).mono ?_); rintro e yx5_1 ⟨sx5_1, ax5_1, nx5_1, cx5_1, bx5_1, mx5_1, dx5_1, rfl, hr, hb, hf, hg⟩; have E5_1 := Lib.hid hr.1.1; have B0_2 := Lib.hid (B0_1.out.ret2 hb hr.1.2 hf hr.2.2 hg); have FM := Lib.hid (hf.mono B0_1.out.below.size); have GM := Lib.hid (hg.mono B0_1.out.below.size); clear hr hb hf hg; have eB0_2 := KU.out _ _ _ B0_2.out; obtain ⟨z0, z1, z2, z3⟩ := Fb.cells4 (B0_2.out.box (VA.heap.size, 34, [.int .i64 0, .slice none 0 0, .int .i64 0, .slice none 0 0]) mq0); have u0 := (B0_2.out.box (VA.heap.size, 34, [.int .i64 0, .slice none 0 0, .int .i64 0, .slice none 0 0]) mq0).free 0; have u1 := (B0_2.out.box (VA.heap.size, 34, [.int .i64 0, .slice none 0 0, .int .i64 0, .slice none 0 0]) mq0).free 1; have u2 := (B0_2.out.box (VA.heap.size, 34, [.int .i64 0, .slice none 0 0, .int .i64 0, .slice none 0 0]) mq0).free 2; have u3 := (B0_2.out.box (VA.heap.size, 34, [.int .i64 0, .slice none 0 0, .int .i64 0, .slice none 0 0]) mq0).free 3; have RB := Lib.hid (Sf.set4 (pre := []) B0_2.out (.int .i64 sx5_1) (.slice ax5_1 nx5_1 cx5_1) (.int .i64 1) (.slice bx5_1 mx5_1 dx5_1)); have eRB := KU.out _ _ _ RB.out)
          | (have hG := Z1; clear hG; go_at_call 32; (with_reducible refine (CZ1.out).mono ?_); rintro e yx5_1 ⟨sx5_1, ax5_1, nx5_1, cx5_1, bx5_1, mx5_1, dx5_1, rfl, hr, hb, hf, hg⟩; have E5_1 := Lib.hid hr.1.1; have B1_2 := Lib.hid (Z1.out.ret2 hb hr.1.2 hf hr.2.2 hg); have FM := Lib.hid (hf.mono Z1.out.below.size); have GM := Lib.hid (hg.mono Z1.out.below.size); clear hr hb hf hg; have eB1_2 := KU.out _ _ _ B1_2.out; obtain ⟨z0, z1, z2, z3⟩ := Fb.cells4 (B1_2.out.box (yx5_0.heap.size, 34, [.int .i64 0, .slice none 0 0, .int .i64 0, .slice none 0 0]) mq0); have u0 := (B1_2.out.box (yx5_0.heap.size, 34, [.int .i64 0, .slice none 0 0, .int .i64 0, .slice none 0 0]) mq0).free 0; have u1 := (B1_2.out.box (yx5_0.heap.size, 34, [.int .i64 0, .slice none 0 0, .int .i64 0, .slice none 0 0]) mq0).free 1; have u2 := (B1_2.out.box (yx5_0.heap.size, 34, [.int .i64 0, .slice none 0 0, .int .i64 0, .slice none 0 0]) mq0).free 2; have u3 := (B1_2.out.box (yx5_0.heap.size, 34, [.int .i64 0, .slice none 0 0, .int .i64 0, .slice none 0 0]) mq0).free 3; have RB := Lib.hid (Sf.set4 (pre := []) B1_2.out (.int .i64 sx5_1) (.slice ax5_1 nx5_1 cx5_1) (.int .i64 1) (.slice bx5_1 mx5_1 dx5_1)); have eRB := KU.out _ _ _ RB.out)
          | (have hG := N1; clear hG; go_at_call 32; (with_reducible refine (CN1.out).mono ?_); rintro e yx5_1 ⟨sx5_1, ax5_1, nx5_1, cx5_1, bx5_1, mx5_1, dx5_1, rfl, hr, hb, hf, hg⟩; have E5_1 := Lib.hid hr.1.1; have N2 := Lib.hid (N1.out.ret2 hb hr.1.2 hf hr.2.2 hg); have FM := Lib.hid (hf.mono N1.out.below.size); have GM := Lib.hid (hg.mono N1.out.below.size); clear hr hb hf hg; have eN2 := KK.out _ _ N2.out; have Z2 := Lib.hid (N2.out.put [.int .i64 0, .slice none 0 0, .int .i64 0, .slice none 0 0] 34); have eZ2 := KU.out _ _ _ Z2.out; have RN := Lib.hid (N2.out.put [.int .i64 sx5_1, .slice ax5_1 nx5_1 cx5_1, .int .i64 1, .slice bx5_1 mx5_1 dx5_1] 34); have eRN := KU.out _ _ _ RN.out)
          | (have hG := Z0; clear hG; go_at_call 21; (with_reducible refine (CZ0.out).mono ?_); rintro e yx5_0 ⟨sx5_0, ax5_0, nx5_0, cx5_0, bx5_0, mx5_0, dx5_0, rfl, hr, hb, hf, hg⟩; have E5_0 := Lib.hid hr.1.1; have B0_1 := Lib.hid (Z0.out.ret2 hb hr.1.2 hf hr.2.2 hg); clear hr hb hf hg; have eB0_1 := KU.out _ _ _ B0_1.out; have CB0_1 := Lib.hid (qadd_r (B0_1.out.fr (v := .slice ax5_0 nx5_0 cx5_0) (u := .slice bx5_0 mx5_0 dx5_0) (r := I3) mq0 mq1 E5_0.out) (B0_1.out.fr (v := .slice ax4 nx4 cx4) (u := .slice bx4 mx4 dx4) (r := SH) mq2 mq3 E4.out) LI.out LS.out HR.out))
          | (have hG := N0; clear hG; go_at_call 21; (with_reducible refine (CN0.out).mono ?_); rintro e yx5_0 ⟨sx5_0, ax5_0, nx5_0, cx5_0, bx5_0, mx5_0, dx5_0, rfl, hr, hb, hf, hg⟩; have E5_0 := Lib.hid hr.1.1; have N1 := Lib.hid (N0.out.ret2 hb hr.1.2 hf hr.2.2 hg); clear hr hb hf hg; have eN1 := KK.out _ _ N1.out; have Z1 := Lib.hid (N1.out.put [.int .i64 0, .slice none 0 0, .int .i64 0, .slice none 0 0] 34); have eZ1 := KU.out _ _ _ Z1.out; have CN1 := Lib.hid (qadd_r (N1.out.fr (v := .slice ax5_0 nx5_0 cx5_0) (u := .slice bx5_0 mx5_0 dx5_0) (r := I3) mq0 mq1 E5_0.out) (N1.out.fr (v := .slice ax4 nx4 cx4) (u := .slice bx4 mx4 dx4) (r := SH) mq2 mq3 E4.out) LI.out LS.out HR.out); have CZ1 := Lib.hid (qadd_r (Z1.out.fr (v := .slice ax5_0 nx5_0 cx5_0) (u := .slice bx5_0 mx5_0 dx5_0) (r := I3) mq0 mq1 E5_0.out) (Z1.out.fr (v := .slice ax4 nx4 cx4) (u := .slice bx4 mx4 dx4) (r := SH) mq2 mq3 E4.out) LI.out LS.out HR.out))); (try dsimp only)))
    all_goals (go_wp2_with fail; go_meet; refine ⟨rfl, ?_⟩; first | exact Lib.hid ⟨_, _, _, _, _, _, _, _, rfl, E5_1.out, FM.out, GM.out, Sf.facts RN.out (by simp)⟩ | exact Lib.hid ⟨_, _, _, _, _, _, _, _, rfl, E5_1.out, FM.out, GM.out, Sf.facts RB.out (by simp)⟩)
  case rest =>
  obtain ⟨rfl, hq⟩ := hcut
  obtain ⟨gx5, sx5, ax5, nx5, cx5, bx5, mx5, dx5, rfl, esx5, ffx5, fgx5, hsx5⟩ := hq.out
  obtain ⟨w5, rfl⟩ : ∃ W, W = wc := ⟨_, rfl⟩
  have R5 := Lib.hid hsx5
  have E5 := Lib.hid esx5
  have FF5 := Lib.hid ffx5
  have FG5 := Lib.hid fgx5
  clear hq esx5 ffx5 fgx5 hsx5 Q19
  obtain ⟨q20, q21, q22, q23⟩ := Fb.cells4 (R5.out.box (gx5, 34, [.int .i64 sx5, .slice ax5 nx5 cx5, .int .i64 1, .slice bx5 mx5 dx5]) mq0)
  have Q24 := Lib.hid (Sf.row (pre := [(gx5, 34, [.int .i64 sx5, .slice ax5 nx5 cx5, .int .i64 1, .slice bx5 mx5 dx5]), (w4.heap.size, 34, [.int .i64 sx4, .slice ax4 nx4 cx4, .int .i64 1, .slice bx4 mx4 dx4])]) R5.out [.int .i64 sx5, .slice ax5 nx5 cx5, .int .i64 1, .slice bx5 mx5 dx5])
  go_wp2_with (first | refine wpList_store_row rfl _ _ _ rfl _ #[.int .i64 sx5, .slice ax5 nx5 cx5, .int .i64 1, .slice bx5 mx5 dx5] rfl rfl _ _ (R5.out.box _ mq2) (by kernel_rfl) rfl (by simp [Value.oneCell']) ?_)
  clear q20 q21 q22 q23
  refine bodyPost_ret (ret_row rfl _ _ _ _ rfl (run_loadVar_row _ _ _ _ _ (0, 0) _ (Q24.out.box _ mq2) Try.underlying34 rfl (by kernel_rfl))) rfl ⟨_, _, _, _, _, _, _, rfl, (Q24.out.fr (v := .slice ax5 nx5 cx5) (u := .slice bx5 mx5 dx5) (r := E) mq0 mq1 E5.out), Q24.out.below, FF5.out, FG5.out⟩

set_option maxHeartbeats 4000000 in
theorem rivl_nf {a a2 : Option Addr} {n cap m cap2 : Nat} {l : List Ct} {rl : List (Int × Int)} {s r d : Int} {w : World} (hc : Cs w a l) (hn : l.length = n) (hl : n ≤ 1000000) (hr : Rs w a2 rl) (hm : rl.length = m) (hl2 : m ≤ 1000000) (h1 : fB s d l = false) : Calls Try.prog 15 #[.slice a n cap, .slice a2 m cap2, .int .i64 s, .int .i64 r, .int .i64 d] w (Iz w) := by
  obtain ⟨i, hfi⟩ : ∃ i, fI s d l = i := ⟨_, rfl⟩
  have HC := Lib.hid hc
  have HN := Lib.hid hn
  have HL := Lib.hid hl
  have HR := Lib.hid hr
  have HM := Lib.hid hm
  have HL2 := Lib.hid hl2
  have HFI := Lib.hid hfi
  have HFB := Lib.hid h1
  have HFZ : Hid (i = 0) := Lib.hid (by rw [← hfi]; exact not_found h1)
  have s0 := (((Sf.start w).put [.int .i64 0, .slice none 0 0, .int .i64 0, .slice none 0 0] 34).put [.int .i64 0, .slice none 0 0, .int .i64 0, .slice none 0 0] 34)
  try simp only [World.size_alloc] at s0
  have S0 := Lib.hid s0
  clear s0
  clear hc hn hl hr hm hl2 hfi h1
  go_enter Try.func15, Try.ntmps15
  go_wp2_with fail
  refine (rfind_any (HC.out.later S0.out.below) HN.out HL.out HFI.out HFB.out (.inr HFZ.out)).mono ?_
  rintro e w1 ⟨rfl, hb⟩
  have R1 := Lib.hid (S0.out.later hb)
  clear hb
  have Q1 := Lib.hid (Sf.row (pre := [(w.heap.size + 1, 34, [.int .i64 0, .slice none 0 0, .int .i64 0, .slice none 0 0])]) R1.out [.int .i64 0, .slice none 0 0, .int .i64 0, .slice none 0 0])
  have Q2 := Lib.hid (Sf.row (pre := []) Q1.out [.int .i64 0, .slice none 0 0, .int .i64 0, .slice none 0 0])
  go_wp2_with (first | refine wpList_store_row rfl _ _ _ rfl _ #[.int .i64 0, .slice none 0 0, .int .i64 0, .slice none 0 0] rfl rfl _ _ (R1.out.box _ mq1) (by kernel_rfl) rfl (by simp [Value.oneCell']) ?_ | refine wpList_store_row rfl _ _ _ rfl _ #[.int .i64 0, .slice none 0 0, .int .i64 0, .slice none 0 0] rfl rfl _ _ (Q1.out.box _ mq0) (by kernel_rfl) rfl (by simp [Value.oneCell']) ?_)
  refine bodyPost_ret (ret_row3 rfl _ _ _ _ _ _ rfl rfl (run_loadVar_row _ _ _ _ _ (0, 0) _ (Q2.out.box (w.heap.size, 34, [.int .i64 0, .slice none 0 0, .int .i64 0, .slice none 0 0]) mq1) Try.underlying34 rfl (by kernel_rfl)) (run_loadVar_row _ _ _ _ _ (0, 0) _ (Q2.out.box (w.heap.size + 1, 34, [.int .i64 0, .slice none 0 0, .int .i64 0, .slice none 0 0]) mq0) Try.underlying34 rfl (by kernel_rfl))) rfl ⟨rfl, Q2.out.below⟩

set_option maxHeartbeats 4000000 in
theorem rivl_rec {a a2 : Option Addr} {n cap m cap2 : Nat} {l : List Ct} {rl : List (Int × Int)} {s r d : Int} {w : World} (hc : Cs w a l) (hn : l.length = n) (hl : n ≤ 1000000) (hr : Rs w a2 rl) (hm : rl.length = m) (hl2 : m ≤ 1000000) (h1 : fB s d l = true) (h2 : recB s d rl = true) : Calls Try.prog 15 #[.slice a n cap, .slice a2 m cap2, .int .i64 s, .int .i64 r, .int .i64 d] w (Iz w) := by
  obtain ⟨i, hfi⟩ : ∃ i, fI s d l = i := ⟨_, rfl⟩
  have HC := Lib.hid hc
  have HN := Lib.hid hn
  have HL := Lib.hid hl
  have HR := Lib.hid hr
  have HM := Lib.hid hm
  have HL2 := Lib.hid hl2
  have HFI := Lib.hid hfi
  have HFB := Lib.hid h1
  have HRB := Lib.hid h2
  have s0 := (((Sf.start w).put [.int .i64 0, .slice none 0 0, .int .i64 0, .slice none 0 0] 34).put [.int .i64 0, .slice none 0 0, .int .i64 0, .slice none 0 0] 34)
  try simp only [World.size_alloc] at s0
  have S0 := Lib.hid s0
  clear s0
  clear hc hn hl hr hm hl2 hfi h1 h2
  go_enter Try.func15, Try.ntmps15
  go_wp2_with fail
  refine (rfind_any (HC.out.later S0.out.below) HN.out HL.out HFI.out HFB.out (.inl rfl)).mono ?_
  rintro e w1 ⟨rfl, hb⟩
  have R1 := Lib.hid (S0.out.later hb)
  clear hb
  go_wp2_with fail
  refine (rrecalled_any (HR.out.later R1.out.below) HM.out HL2.out HRB.out).mono ?_
  rintro e w2 ⟨rfl, hb⟩
  have R2 := Lib.hid (R1.out.later hb)
  clear hb
  have Q1 := Lib.hid (Sf.row (pre := [(w.heap.size + 1, 34, [.int .i64 0, .slice none 0 0, .int .i64 0, .slice none 0 0])]) R2.out [.int .i64 0, .slice none 0 0, .int .i64 0, .slice none 0 0])
  have Q2 := Lib.hid (Sf.row (pre := []) Q1.out [.int .i64 0, .slice none 0 0, .int .i64 0, .slice none 0 0])
  go_wp2_with (first | refine wpList_store_row rfl _ _ _ rfl _ #[.int .i64 0, .slice none 0 0, .int .i64 0, .slice none 0 0] rfl rfl _ _ (R2.out.box _ mq1) (by kernel_rfl) rfl (by simp [Value.oneCell']) ?_ | refine wpList_store_row rfl _ _ _ rfl _ #[.int .i64 0, .slice none 0 0, .int .i64 0, .slice none 0 0] rfl rfl _ _ (Q1.out.box _ mq0) (by kernel_rfl) rfl (by simp [Value.oneCell']) ?_)
  refine bodyPost_ret (ret_row3 rfl _ _ _ _ _ _ rfl rfl (run_loadVar_row _ _ _ _ _ (0, 0) _ (Q2.out.box (w.heap.size, 34, [.int .i64 0, .slice none 0 0, .int .i64 0, .slice none 0 0]) mq1) Try.underlying34 rfl (by kernel_rfl)) (run_loadVar_row _ _ _ _ _ (0, 0) _ (Q2.out.box (w.heap.size + 1, 34, [.int .i64 0, .slice none 0 0, .int .i64 0, .slice none 0 0]) mq0) Try.underlying34 rfl (by kernel_rfl))) rfl ⟨rfl, Q2.out.below⟩

set_option maxHeartbeats 4000000 in
theorem rivl_inr {a a2 : Option Addr} {n cap m cap2 : Nat} {l : List Ct} {rl : List (Int × Int)} {s r d : Int} {w : World} (hc : Cs w a l) (hn : l.length = n) (hl : n ≤ 1000000) (hr : Rs w a2 rl) (hm : rl.length = m) (hl2 : m ≤ 1000000) (h1 : fB s d l = true) (h2 : recB s d rl = false) (h3 : inR r = false) : Calls Try.prog 15 #[.slice a n cap, .slice a2 m cap2, .int .i64 s, .int .i64 r, .int .i64 d] w (Iz w) := by
  obtain ⟨i, c, _, hfi, hci, hcv⟩ := found_of h1
  obtain ⟨h4, h5⟩ := cov_ok hcv
  have H3 := Lib.hid h3
  have H4 := Lib.hid h4
  obtain ⟨b, o, rfl, hb, hcells⟩ := hc.at hci
  have HX := Lib.hid hcells
  have hin : i < n := by rw [← hn]; exact (List.getElem?_eq_some_iff.1 hci).1
  have hat := fun W => cert_at b o n cap i hin W
  have HC := Lib.hid hc
  have HN := Lib.hid hn
  have HL := Lib.hid hl
  have HR := Lib.hid hr
  have HM := Lib.hid hm
  have HL2 := Lib.hid hl2
  have HFI := Lib.hid hfi
  have HFB := Lib.hid h1
  clear hci hcv h4 h5 hcells hb
  have HRB := Lib.hid h2
  have s0 := (((Sf.start w).put [.int .i64 0, .slice none 0 0, .int .i64 0, .slice none 0 0] 34).put [.int .i64 0, .slice none 0 0, .int .i64 0, .slice none 0 0] 34)
  try simp only [World.size_alloc] at s0
  have S0 := Lib.hid s0
  clear s0
  clear hc hn hl hr hm hl2 hfi h1 h2 h3 hin
  go_enter Try.func15, Try.ntmps15
  go_wp2_with fail
  refine (rfind_any (HC.out.later S0.out.below) HN.out HL.out HFI.out HFB.out (.inl rfl)).mono ?_
  rintro e w1 ⟨rfl, hb⟩
  have R1 := Lib.hid (S0.out.later hb)
  clear hb
  go_wp2_with fail
  refine (rrecalled_any (HR.out.later R1.out.below) HM.out HL2.out HRB.out).mono ?_
  rintro e w2 ⟨rfl, hb⟩
  have R2 := Lib.hid (R1.out.later hb)
  clear hb
  go_wp2_with fail
  refine (rin_any H3.out).mono ?_
  rintro e w3 ⟨rfl, rfl⟩
  have Q1 := Lib.hid (Sf.row (pre := [(w.heap.size + 1, 34, [.int .i64 0, .slice none 0 0, .int .i64 0, .slice none 0 0])]) R2.out [.int .i64 0, .slice none 0 0, .int .i64 0, .slice none 0 0])
  have Q2 := Lib.hid (Sf.row (pre := []) Q1.out [.int .i64 0, .slice none 0 0, .int .i64 0, .slice none 0 0])
  go_wp2_with (first | refine wpList_store_row rfl _ _ _ rfl _ #[.int .i64 0, .slice none 0 0, .int .i64 0, .slice none 0 0] rfl rfl _ _ (R2.out.box _ mq1) (by kernel_rfl) rfl (by simp [Value.oneCell']) ?_ | refine wpList_store_row rfl _ _ _ rfl _ #[.int .i64 0, .slice none 0 0, .int .i64 0, .slice none 0 0] rfl rfl _ _ (Q1.out.box _ mq0) (by kernel_rfl) rfl (by simp [Value.oneCell']) ?_)
  refine bodyPost_ret (ret_row3 rfl _ _ _ _ _ _ rfl rfl (run_loadVar_row _ _ _ _ _ (0, 0) _ (Q2.out.box (w.heap.size, 34, [.int .i64 0, .slice none 0 0, .int .i64 0, .slice none 0 0]) mq1) Try.underlying34 rfl (by kernel_rfl)) (run_loadVar_row _ _ _ _ _ (0, 0) _ (Q2.out.box (w.heap.size + 1, 34, [.int .i64 0, .slice none 0 0, .int .i64 0, .slice none 0 0]) mq0) Try.underlying34 rfl (by kernel_rfl))) rfl ⟨rfl, Q2.out.below⟩

set_option maxHeartbeats 32000000 in
theorem rivl_some {a a2 : Option Addr} {n cap m cap2 : Nat} {l : List Ct} {rl : List (Int × Int)} {s r d : Int} {w : World} (hc : Cs w a l) (hn : l.length = n) (hl : n ≤ 1000000) (hr : Rs w a2 rl) (hm : rl.length = m) (hl2 : m ≤ 1000000) {i : Nat} {c : Ct} (h0 : fnd s d l = some (i, c)) (h2 : recB s d rl = false) (h3 : inR r = true) : Calls Try.prog 15 #[.slice a n cap, .slice a2 m cap2, .int .i64 s, .int .i64 r, .int .i64 d] w (It (lowR c r d) (highR c r d) w) := by
  have hci := (fnd_some _ h0).1
  have hcv := (fnd_some _ h0).2
  have h1 : fB s d l = true := by unfold fB; rw [h0]; rfl
  have hfi : fI s d l = i := by unfold fI; rw [h0]
  obtain ⟨h4, h5⟩ := cov_ok hcv
  have G := good_of h4 h3 h5
  have H3 := Lib.hid h3
  have H4 := Lib.hid h4
  have H5 := Lib.hid h5
  obtain ⟨b, o, rfl, hb, hcells⟩ := hc.at hci
  have HX := Lib.hid hcells
  have hin : i < n := by rw [← hn]; exact (List.getElem?_eq_some_iff.1 hci).1
  have hat := fun W => cert_at b o n cap i hin W
  have HC := Lib.hid hc
  have HN := Lib.hid hn
  have HL := Lib.hid hl
  have HR := Lib.hid hr
  have HM := Lib.hid hm
  have HL2 := Lib.hid hl2
  have HFI := Lib.hid hfi
  have HFB := Lib.hid h1
  have HRB := Lib.hid h2
  have LE := Lib.hid (G.err_sz.mono (j := 1000))
  have LR := Lib.hid (G.int.mono (j := 1000))
  have LS := Lib.hid (G.sub_sz.mono (j := 1000))
  have HRI : Hid (-9223372036854775808 ≤ r ∧ r ≤ 9223372036854775807) := Lib.hid (by have := G.r0; have := G.r1; omega)
  have e1 := low_if (c := c) (r := r) (d := d)
  have e2 : (r : Rat) + errR c r d = highR c r d := rfl
  have HEE : Hid (∀ W, Calls Try.prog 13 #[.agg #[.int .i64 c.sc, .int .i64 c.fr, .int .i64 c.un, .int .i64 c.ut, .int .i64 c.pm, .int .i64 c.dr], .int .i64 r, .int .i64 d] W (Gt (errR c r d) W)) := Lib.hid (fun W => rerror_some H4.out H3.out H5.out)
  obtain ⟨E, hE⟩ : ∃ E, errR c r d = E := ⟨_, rfl⟩
  obtain ⟨RR, hRR⟩ : ∃ q, ((r : Int) : Rat) = q := ⟨_, rfl⟩
  obtain ⟨ZZ, hZZ⟩ : ∃ q, ((0 : Int) : Rat) = q := ⟨_, rfl⟩
  rw [hE, hRR] at e1 e2 LS
  rw [hZZ] at e1
  rw [hE] at LE HEE
  rw [hRR] at LR
  obtain ⟨X, hX⟩ : ∃ q, RR - E = q := ⟨_, rfl⟩
  rw [hX] at e1 LS
  obtain ⟨LO, hLO⟩ : ∃ q, lowR c r d = q := ⟨_, rfl⟩
  obtain ⟨UP, hUP⟩ : ∃ q, highR c r d = q := ⟨_, rfl⟩
  rw [hLO] at e1
  rw [hUP] at e2
  rw [hLO, hUP]
  obtain ⟨sg, hsg⟩ : ∃ k, X.num.sign = k := ⟨_, rfl⟩
  rw [hsg] at e1
  have HSG := Lib.hid hsg
  have HE2 := Lib.hid e2
  have HX1 := Lib.hid hX
  have HRR := Lib.hid hRR
  have HZZ := Lib.hid hZZ
  obtain ⟨neg, hneg⟩ : ∃ k, decide (sg < 0) = k := ⟨_, rfl⟩
  rw [hneg] at e1
  have HE1 := Lib.hid e1
  clear hci hcv h4 h5 hcells hb e1 e2 hE hRR hZZ hX hLO hUP G h0 h1 h2 h3 H4 H5 hfi hsg
  have s0 := (((Sf.start w).put [.int .i64 0, .slice none 0 0, .int .i64 0, .slice none 0 0] 34).put [.int .i64 0, .slice none 0 0, .int .i64 0, .slice none 0 0] 34)
  try simp only [World.size_alloc] at s0
  have S0 := Lib.hid s0
  clear s0
  clear hc hn hl hr hm hl2 hin
  go_enter Try.func15, Try.ntmps15
  go_wp2_with fail
  refine (rfind_any (HC.out.later S0.out.below) HN.out HL.out HFI.out HFB.out (.inl rfl)).mono ?_
  rintro e w1 ⟨rfl, hb⟩
  have R1 := Lib.hid (S0.out.later hb)
  clear hb
  go_wp2_with fail
  refine (rrecalled_any (HR.out.later R1.out.below) HM.out HL2.out HRB.out).mono ?_
  rintro e w2 ⟨rfl, hb⟩
  have R2 := Lib.hid (R1.out.later hb)
  clear hb
  go_wp2_with fail
  refine (rin_any H3.out).mono ?_
  rintro e w3 ⟨rfl, rfl⟩
  obtain ⟨x0, x1, x2, x3, x4, x5⟩ := HX.out _ R2.out.below
  go_wp2_with fail
  clear x0 x1 x2 x3 x4 x5
  refine (HEE.out _).mono ?_
  rintro e w4 ⟨sx4, ax4, nx4, cx4, bx4, mx4, dx4, rfl, hr, hb, hf, hg⟩
  have E4 := Lib.hid hr.1.1
  have R4 := Lib.hid (R2.out.ret2 hb hr.1.2 hf hr.2.2 hg)
  have FF4 := Lib.hid (hf.mono R2.out.below.size)
  have FG4 := Lib.hid (hg.mono R2.out.below.size)
  clear hr hb hf hg
  have P1 := Lib.hid (R4.out.put [.int .i64 0, .slice none 0 0, .int .i64 0, .slice none 0 0] 34)
  have Q1 := Lib.hid (Sf.row (pre := []) P1.out [.int .i64 sx4, .slice ax4 nx4 cx4, .int .i64 1, .slice bx4 mx4 dx4])
  go_upto_region 5 with (first | refine wpList_store_row rfl _ _ _ rfl _ #[.int .i64 sx4, .slice ax4 nx4 cx4, .int .i64 1, .slice bx4 mx4 dx4] rfl rfl _ _ (P1.out.box _ List.mem_cons_self) (by kernel_rfl) rfl (by simp [Value.oneCell']) ?_)
  obtain ⟨VA, hVA⟩ : ∃ W, ((w4.alloc (.cells #[.int .i64 0, .slice none 0 0, .int .i64 0, .slice none 0 0] 34)).setRow w4.heap.size #[.int .i64 sx4, .slice ax4 nx4 cx4, .int .i64 1, .slice bx4 mx4 dx4]) = W := ⟨_, rfl⟩
  rw [hVA] at Q1 ⊢
  clear hVA
  go_cut [17, 18] from 53 to 59 (fun u v wx => v = .int .i64 0 ∧ Hid (∃ gq sq aq nq cq bq mq dq, u = .pointer (some ⟨gq, 0, none⟩) ∧ sq = (X).num.sign ∧ Fresh w.heap.size (.slice aq nq cq) ∧ Fresh w.heap.size (.slice bq mq dq) ∧ Sf w ((gq, 34, [.int .i64 sq, .slice aq nq cq, .int .i64 1, .slice bq mq dq]) :: [(w4.heap.size, 34, [.int .i64 sx4, .slice ax4 nx4 cx4, .int .i64 1, .slice bx4 mx4 dx4]), (w.heap.size + 1, 34, [.int .i64 0, .slice none 0 0, .int .i64 0, .slice none 0 0]), (w.heap.size, 34, [.int .i64 0, .slice none 0 0, .int .i64 0, .slice none 0 0])]) ((.slice aq nq cq, digs (X).num.natAbs) :: (.slice bq mq dq, digs (((X).den : Int)).natAbs) :: [(.slice ax4 nx4 cx4, digs (E).num.natAbs), (.slice bx4 mx4 dx4, digs (((E).den : Int)).natAbs)]) wx))
  case first =>
    have K0 : ∀ W F, Sf w [(w4.heap.size, 34, [.int .i64 sx4, .slice ax4 nx4 cx4, .int .i64 1, .slice bx4 mx4 dx4]), (w.heap.size + 1, 34, [.int .i64 0, .slice none 0 0, .int .i64 0, .slice none 0 0]), (w.heap.size, 34, [.int .i64 0, .slice none 0 0, .int .i64 0, .slice none 0 0])] F W → W.cell? ⟨w4.heap.size, 0, none⟩ = some (.int .i64 sx4) ∧ W.cell? ⟨w4.heap.size, 1, none⟩ = some (.slice ax4 nx4 cx4) ∧ W.cell? ⟨w4.heap.size, 2, none⟩ = some (.int .i64 1) ∧ W.cell? ⟨w4.heap.size, 3, none⟩ = some (.slice bx4 mx4 dx4) := fun W F h => ⟨(h.box (w4.heap.size, 34, [.int .i64 sx4, .slice ax4 nx4 cx4, .int .i64 1, .slice bx4 mx4 dx4]) mq0).cell 0, (h.box (w4.heap.size, 34, [.int .i64 sx4, .slice ax4 nx4 cx4, .int .i64 1, .slice bx4 mx4 dx4]) mq0).cell 1, (h.box (w4.heap.size, 34, [.int .i64 sx4, .slice ax4 nx4 cx4, .int .i64 1, .slice bx4 mx4 dx4]) mq0).cell 2, (h.box (w4.heap.size, 34, [.int .i64 sx4, .slice ax4 nx4 cx4, .int .i64 1, .slice bx4 mx4 dx4]) mq0).cell 3⟩
    have KK := Lib.hid K0
    clear K0
    have K0 : ∀ W F x, Sf w (x :: [(w4.heap.size, 34, [.int .i64 sx4, .slice ax4 nx4 cx4, .int .i64 1, .slice bx4 mx4 dx4]), (w.heap.size + 1, 34, [.int .i64 0, .slice none 0 0, .int .i64 0, .slice none 0 0]), (w.heap.size, 34, [.int .i64 0, .slice none 0 0, .int .i64 0, .slice none 0 0])]) F W → W.cell? ⟨w4.heap.size, 0, none⟩ = some (.int .i64 sx4) ∧ W.cell? ⟨w4.heap.size, 1, none⟩ = some (.slice ax4 nx4 cx4) ∧ W.cell? ⟨w4.heap.size, 2, none⟩ = some (.int .i64 1) ∧ W.cell? ⟨w4.heap.size, 3, none⟩ = some (.slice bx4 mx4 dx4) := fun W F x h => ⟨(h.box (w4.heap.size, 34, [.int .i64 sx4, .slice ax4 nx4 cx4, .int .i64 1, .slice bx4 mx4 dx4]) mq1).cell 0, (h.box (w4.heap.size, 34, [.int .i64 sx4, .slice ax4 nx4 cx4, .int .i64 1, .slice bx4 mx4 dx4]) mq1).cell 1, (h.box (w4.heap.size, 34, [.int .i64 sx4, .slice ax4 nx4 cx4, .int .i64 1, .slice bx4 mx4 dx4]) mq1).cell 2, (h.box (w4.heap.size, 34, [.int .i64 sx4, .slice ax4 nx4 cx4, .int .i64 1, .slice bx4 mx4 dx4]) mq1).cell 3⟩
    have KU := Lib.hid K0
    clear K0
    have N0 := Lib.hid Q1.out.drew
    have Z0 := Lib.hid (Q1.out.put [.int .i64 0, .slice none 0 0, .int .i64 0, .slice none 0 0] 34).drew
    clear Q1
    have eN0 := KK.out _ _ N0.out
    have eZ0 := KU.out _ _ _ Z0.out
    have CN0 := Lib.hid (qint_s N0.out HRI.out HRR.out)
    have CZ0 := Lib.hid (qint_s Z0.out HRI.out HRR.out)
    go_region_held3 (fun W => W.cell? ⟨w4.heap.size, 0, none⟩ = some (.int .i64 sx4) ∧ W.cell? ⟨w4.heap.size, 1, none⟩ = some (.slice ax4 nx4 cx4) ∧ W.cell? ⟨w4.heap.size, 2, none⟩ = some (.int .i64 1) ∧ W.cell? ⟨w4.heap.size, 3, none⟩ = some (.slice bx4 mx4 dx4))
      (first | (with_reducible exact eN0) | (with_reducible exact eZ0) | (with_reducible exact eN1) | (with_reducible exact eZ1) | (with_reducible exact eB0_1) | (with_reducible exact eN2) | (with_reducible exact eZ2) | (with_reducible exact eRN) | (with_reducible exact eB1_2) | (with_reducible exact eRB) | (with_reducible exact eB0_2) | go_keep)
      (((first | go_at_call 21 | go_at_call 36 | (rw [if_pos (by rfl)]; go_simp) | skip); (first
          | (have hG := B0_1; clear hG; go_at_call 36; (with_reducible refine (CB0_1.out).mono ?_); rintro e yx5_1 ⟨sx5_1, ax5_1, nx5_1, cx5_1, bx5_1, mx5_1, dx5_1, rfl, hr, hb, hf, hg⟩; have E5_1 := Lib.hid hr.1.1; have B0_2 := Lib.hid (B0_1.out.ret2 hb hr.1.2 hf hr.2.2 hg); have FM := Lib.hid (hf.mono B0_1.out.below.size); have GM := Lib.hid (hg.mono B0_1.out.below.size); clear hr hb hf hg; have eB0_2 := KU.out _ _ _ B0_2.out; obtain ⟨z0, z1, z2, z3⟩ := Fb.cells4 (B0_2.out.box (VA.heap.size, 34, [.int .i64 0, .slice none 0 0, .int .i64 0, .slice none 0 0]) mq0); have u0 := (B0_2.out.box (VA.heap.size, 34, [.int .i64 0, .slice none 0 0, .int .i64 0, .slice none 0 0]) mq0).free 0; have u1 := (B0_2.out.box (VA.heap.size, 34, [.int .i64 0, .slice none 0 0, .int .i64 0, .slice none 0 0]) mq0).free 1; have u2 := (B0_2.out.box (VA.heap.size, 34, [.int .i64 0, .slice none 0 0, .int .i64 0, .slice none 0 0]) mq0).free 2; have u3 := (B0_2.out.box (VA.heap.size, 34, [.int .i64 0, .slice none 0 0, .int .i64 0, .slice none 0 0]) mq0).free 3; have RB := Lib.hid (Sf.set4 (pre := []) B0_2.out (.int .i64 sx5_1) (.slice ax5_1 nx5_1 cx5_1) (.int .i64 1) (.slice bx5_1 mx5_1 dx5_1)); have eRB := KU.out _ _ _ RB.out)
          | (have hG := Z1; clear hG; go_at_call 36; (with_reducible refine (CZ1.out).mono ?_); rintro e yx5_1 ⟨sx5_1, ax5_1, nx5_1, cx5_1, bx5_1, mx5_1, dx5_1, rfl, hr, hb, hf, hg⟩; have E5_1 := Lib.hid hr.1.1; have B1_2 := Lib.hid (Z1.out.ret2 hb hr.1.2 hf hr.2.2 hg); have FM := Lib.hid (hf.mono Z1.out.below.size); have GM := Lib.hid (hg.mono Z1.out.below.size); clear hr hb hf hg; have eB1_2 := KU.out _ _ _ B1_2.out; obtain ⟨z0, z1, z2, z3⟩ := Fb.cells4 (B1_2.out.box (yx5_0.heap.size, 34, [.int .i64 0, .slice none 0 0, .int .i64 0, .slice none 0 0]) mq0); have u0 := (B1_2.out.box (yx5_0.heap.size, 34, [.int .i64 0, .slice none 0 0, .int .i64 0, .slice none 0 0]) mq0).free 0; have u1 := (B1_2.out.box (yx5_0.heap.size, 34, [.int .i64 0, .slice none 0 0, .int .i64 0, .slice none 0 0]) mq0).free 1; have u2 := (B1_2.out.box (yx5_0.heap.size, 34, [.int .i64 0, .slice none 0 0, .int .i64 0, .slice none 0 0]) mq0).free 2; have u3 := (B1_2.out.box (yx5_0.heap.size, 34, [.int .i64 0, .slice none 0 0, .int .i64 0, .slice none 0 0]) mq0).free 3; have RB := Lib.hid (Sf.set4 (pre := []) B1_2.out (.int .i64 sx5_1) (.slice ax5_1 nx5_1 cx5_1) (.int .i64 1) (.slice bx5_1 mx5_1 dx5_1)); have eRB := KU.out _ _ _ RB.out)
          | (have hG := N1; clear hG; go_at_call 36; (with_reducible refine (CN1.out).mono ?_); rintro e yx5_1 ⟨sx5_1, ax5_1, nx5_1, cx5_1, bx5_1, mx5_1, dx5_1, rfl, hr, hb, hf, hg⟩; have E5_1 := Lib.hid hr.1.1; have N2 := Lib.hid (N1.out.ret2 hb hr.1.2 hf hr.2.2 hg); have FM := Lib.hid (hf.mono N1.out.below.size); have GM := Lib.hid (hg.mono N1.out.below.size); clear hr hb hf hg; have eN2 := KK.out _ _ N2.out; have Z2 := Lib.hid (N2.out.put [.int .i64 0, .slice none 0 0, .int .i64 0, .slice none 0 0] 34); have eZ2 := KU.out _ _ _ Z2.out; have RN := Lib.hid (N2.out.put [.int .i64 sx5_1, .slice ax5_1 nx5_1 cx5_1, .int .i64 1, .slice bx5_1 mx5_1 dx5_1] 34); have eRN := KU.out _ _ _ RN.out)
          | (have hG := Z0; clear hG; go_at_call 21; (with_reducible refine (CZ0.out).mono ?_); rintro e yx5_0 ⟨sx5_0, ax5_0, nx5_0, cx5_0, bx5_0, mx5_0, dx5_0, rfl, hr, hb, hf, hg⟩; have E5_0 := Lib.hid hr.1.1; have B0_1 := Lib.hid (Z0.out.ret2 hb hr.1.2 hf hr.2.2 hg); clear hr hb hf hg; have eB0_1 := KU.out _ _ _ B0_1.out; have CB0_1 := Lib.hid (qsub_r (B0_1.out.fr (v := .slice ax5_0 nx5_0 cx5_0) (u := .slice bx5_0 mx5_0 dx5_0) (r := RR) mq0 mq1 E5_0.out) (B0_1.out.fr (v := .slice ax4 nx4 cx4) (u := .slice bx4 mx4 dx4) (r := E) mq2 mq3 E4.out) LR.out LE.out HX1.out))
          | (have hG := N0; clear hG; go_at_call 21; (with_reducible refine (CN0.out).mono ?_); rintro e yx5_0 ⟨sx5_0, ax5_0, nx5_0, cx5_0, bx5_0, mx5_0, dx5_0, rfl, hr, hb, hf, hg⟩; have E5_0 := Lib.hid hr.1.1; have N1 := Lib.hid (N0.out.ret2 hb hr.1.2 hf hr.2.2 hg); clear hr hb hf hg; have eN1 := KK.out _ _ N1.out; have Z1 := Lib.hid (N1.out.put [.int .i64 0, .slice none 0 0, .int .i64 0, .slice none 0 0] 34); have eZ1 := KU.out _ _ _ Z1.out; have CN1 := Lib.hid (qsub_r (N1.out.fr (v := .slice ax5_0 nx5_0 cx5_0) (u := .slice bx5_0 mx5_0 dx5_0) (r := RR) mq0 mq1 E5_0.out) (N1.out.fr (v := .slice ax4 nx4 cx4) (u := .slice bx4 mx4 dx4) (r := E) mq2 mq3 E4.out) LR.out LE.out HX1.out); have CZ1 := Lib.hid (qsub_r (Z1.out.fr (v := .slice ax5_0 nx5_0 cx5_0) (u := .slice bx5_0 mx5_0 dx5_0) (r := RR) mq0 mq1 E5_0.out) (Z1.out.fr (v := .slice ax4 nx4 cx4) (u := .slice bx4 mx4 dx4) (r := E) mq2 mq3 E4.out) LR.out LE.out HX1.out))); (try dsimp only)))
    all_goals (go_wp2_with fail; go_meet; refine ⟨rfl, ?_⟩; first | exact Lib.hid ⟨_, _, _, _, _, _, _, _, rfl, E5_1.out, FM.out, GM.out, Sf.facts RN.out (by simp)⟩ | exact Lib.hid ⟨_, _, _, _, _, _, _, _, rfl, E5_1.out, FM.out, GM.out, Sf.facts RB.out (by simp)⟩)
  case rest =>
  obtain ⟨rfl, hq⟩ := hcut
  obtain ⟨gx5, sx5, ax5, nx5, cx5, bx5, mx5, dx5, rfl, esx5, ffx5, fgx5, hsx5⟩ := hq.out
  obtain ⟨w5, rfl⟩ : ∃ W, W = wc := ⟨_, rfl⟩
  have R5 := Lib.hid hsx5
  have E5 := Lib.hid esx5
  have FF5 := Lib.hid ffx5
  have FG5 := Lib.hid fgx5
  clear hq esx5 ffx5 fgx5 hsx5 Q1
  go_upto_region 6 with fail
  go_cut [19, 20] from 60 to 66 (fun u v wx => v = .int .i64 0 ∧ Hid (∃ gq sq aq nq cq bq mq dq, u = .pointer (some ⟨gq, 0, none⟩) ∧ sq = (UP).num.sign ∧ Fresh w.heap.size (.slice aq nq cq) ∧ Fresh w.heap.size (.slice bq mq dq) ∧ Sf w ((gq, 34, [.int .i64 sq, .slice aq nq cq, .int .i64 1, .slice bq mq dq]) :: [(gx5, 34, [.int .i64 sx5, .slice ax5 nx5 cx5, .int .i64 1, .slice bx5 mx5 dx5]), (w4.heap.size, 34, [.int .i64 sx4, .slice ax4 nx4 cx4, .int .i64 1, .slice bx4 mx4 dx4]), (w.heap.size + 1, 34, [.int .i64 0, .slice none 0 0, .int .i64 0, .slice none 0 0]), (w.heap.size, 34, [.int .i64 0, .slice none 0 0, .int .i64 0, .slice none 0 0])]) ((.slice aq nq cq, digs (UP).num.natAbs) :: (.slice bq mq dq, digs (((UP).den : Int)).natAbs) :: [(.slice ax5 nx5 cx5, digs (X).num.natAbs), (.slice bx5 mx5 dx5, digs (((X).den : Int)).natAbs), (.slice ax4 nx4 cx4, digs (E).num.natAbs), (.slice bx4 mx4 dx4, digs (((E).den : Int)).natAbs)]) wx))
  case first =>
    have K0 : ∀ W F, Sf w [(gx5, 34, [.int .i64 sx5, .slice ax5 nx5 cx5, .int .i64 1, .slice bx5 mx5 dx5]), (w4.heap.size, 34, [.int .i64 sx4, .slice ax4 nx4 cx4, .int .i64 1, .slice bx4 mx4 dx4]), (w.heap.size + 1, 34, [.int .i64 0, .slice none 0 0, .int .i64 0, .slice none 0 0]), (w.heap.size, 34, [.int .i64 0, .slice none 0 0, .int .i64 0, .slice none 0 0])] F W → W.cell? ⟨w4.heap.size, 0, none⟩ = some (.int .i64 sx4) ∧ W.cell? ⟨w4.heap.size, 1, none⟩ = some (.slice ax4 nx4 cx4) ∧ W.cell? ⟨w4.heap.size, 2, none⟩ = some (.int .i64 1) ∧ W.cell? ⟨w4.heap.size, 3, none⟩ = some (.slice bx4 mx4 dx4) := fun W F h => ⟨(h.box (w4.heap.size, 34, [.int .i64 sx4, .slice ax4 nx4 cx4, .int .i64 1, .slice bx4 mx4 dx4]) mq1).cell 0, (h.box (w4.heap.size, 34, [.int .i64 sx4, .slice ax4 nx4 cx4, .int .i64 1, .slice bx4 mx4 dx4]) mq1).cell 1, (h.box (w4.heap.size, 34, [.int .i64 sx4, .slice ax4 nx4 cx4, .int .i64 1, .slice bx4 mx4 dx4]) mq1).cell 2, (h.box (w4.heap.size, 34, [.int .i64 sx4, .slice ax4 nx4 cx4, .int .i64 1, .slice bx4 mx4 dx4]) mq1).cell 3⟩
    have KK := Lib.hid K0
    clear K0
    have K0 : ∀ W F x, Sf w (x :: [(gx5, 34, [.int .i64 sx5, .slice ax5 nx5 cx5, .int .i64 1, .slice bx5 mx5 dx5]), (w4.heap.size, 34, [.int .i64 sx4, .slice ax4 nx4 cx4, .int .i64 1, .slice bx4 mx4 dx4]), (w.heap.size + 1, 34, [.int .i64 0, .slice none 0 0, .int .i64 0, .slice none 0 0]), (w.heap.size, 34, [.int .i64 0, .slice none 0 0, .int .i64 0, .slice none 0 0])]) F W → W.cell? ⟨w4.heap.size, 0, none⟩ = some (.int .i64 sx4) ∧ W.cell? ⟨w4.heap.size, 1, none⟩ = some (.slice ax4 nx4 cx4) ∧ W.cell? ⟨w4.heap.size, 2, none⟩ = some (.int .i64 1) ∧ W.cell? ⟨w4.heap.size, 3, none⟩ = some (.slice bx4 mx4 dx4) := fun W F x h => ⟨(h.box (w4.heap.size, 34, [.int .i64 sx4, .slice ax4 nx4 cx4, .int .i64 1, .slice bx4 mx4 dx4]) mq2).cell 0, (h.box (w4.heap.size, 34, [.int .i64 sx4, .slice ax4 nx4 cx4, .int .i64 1, .slice bx4 mx4 dx4]) mq2).cell 1, (h.box (w4.heap.size, 34, [.int .i64 sx4, .slice ax4 nx4 cx4, .int .i64 1, .slice bx4 mx4 dx4]) mq2).cell 2, (h.box (w4.heap.size, 34, [.int .i64 sx4, .slice ax4 nx4 cx4, .int .i64 1, .slice bx4 mx4 dx4]) mq2).cell 3⟩
    have KU := Lib.hid K0
    clear K0
    have N0 := Lib.hid R5.out.drew
    have Z0 := Lib.hid (R5.out.put [.int .i64 0, .slice none 0 0, .int .i64 0, .slice none 0 0] 34).drew
    clear R5
    have eN0 := KK.out _ _ N0.out
    have eZ0 := KU.out _ _ _ Z0.out
    have CN0 := Lib.hid (qint_s N0.out HRI.out HRR.out)
    have CZ0 := Lib.hid (qint_s Z0.out HRI.out HRR.out)
    go_region_held3 (fun W => W.cell? ⟨w4.heap.size, 0, none⟩ = some (.int .i64 sx4) ∧ W.cell? ⟨w4.heap.size, 1, none⟩ = some (.slice ax4 nx4 cx4) ∧ W.cell? ⟨w4.heap.size, 2, none⟩ = some (.int .i64 1) ∧ W.cell? ⟨w4.heap.size, 3, none⟩ = some (.slice bx4 mx4 dx4))
      (first | (with_reducible exact eN0) | (with_reducible exact eZ0) | (with_reducible exact eN1) | (with_reducible exact eZ1) | (with_reducible exact eB0_1) | (with_reducible exact eN2) | (with_reducible exact eZ2) | (with_reducible exact eRN) | (with_reducible exact eB1_2) | (with_reducible exact eRB) | (with_reducible exact eB0_2) | go_keep)
      (((first | go_at_call 32 | go_at_call 21 | (rw [if_pos (by rfl)]; go_simp) | skip); (first
          | (have hG := B0_1; clear hG; go_at_call 32; (with_reducible refine (CB0_1.out).mono ?_); rintro e yx6_1 ⟨sx6_1, ax6_1, nx6_1, cx6_1, bx6_1, mx6_1, dx6_1, rfl, hr, hb, hf, hg⟩; have E6_1 := Lib.hid hr.1.1; have B0_2 := Lib.hid (B0_1.out.ret2 hb hr.1.2 hf hr.2.2 hg); have FM := Lib.hid (hf.mono B0_1.out.below.size); have GM := Lib.hid (hg.mono B0_1.out.below.size); clear hr hb hf hg; have eB0_2 := KU.out _ _ _ B0_2.out; obtain ⟨z0, z1, z2, z3⟩ := Fb.cells4 (B0_2.out.box (w5.heap.size, 34, [.int .i64 0, .slice none 0 0, .int .i64 0, .slice none 0 0]) mq0); have u0 := (B0_2.out.box (w5.heap.size, 34, [.int .i64 0, .slice none 0 0, .int .i64 0, .slice none 0 0]) mq0).free 0; have u1 := (B0_2.out.box (w5.heap.size, 34, [.int .i64 0, .slice none 0 0, .int .i64 0, .slice none 0 0]) mq0).free 1; have u2 := (B0_2.out.box (w5.heap.size, 34, [.int .i64 0, .slice none 0 0, .int .i64 0, .slice none 0 0]) mq0).free 2; have u3 := (B0_2.out.box (w5.heap.size, 34, [.int .i64 0, .slice none 0 0, .int .i64 0, .slice none 0 0]) mq0).free 3; have RB := Lib.hid (Sf.set4 (pre := []) B0_2.out (.int .i64 sx6_1) (.slice ax6_1 nx6_1 cx6_1) (.int .i64 1) (.slice bx6_1 mx6_1 dx6_1)); have eRB := KU.out _ _ _ RB.out)
          | (have hG := Z1; clear hG; go_at_call 32; (with_reducible refine (CZ1.out).mono ?_); rintro e yx6_1 ⟨sx6_1, ax6_1, nx6_1, cx6_1, bx6_1, mx6_1, dx6_1, rfl, hr, hb, hf, hg⟩; have E6_1 := Lib.hid hr.1.1; have B1_2 := Lib.hid (Z1.out.ret2 hb hr.1.2 hf hr.2.2 hg); have FM := Lib.hid (hf.mono Z1.out.below.size); have GM := Lib.hid (hg.mono Z1.out.below.size); clear hr hb hf hg; have eB1_2 := KU.out _ _ _ B1_2.out; obtain ⟨z0, z1, z2, z3⟩ := Fb.cells4 (B1_2.out.box (yx6_0.heap.size, 34, [.int .i64 0, .slice none 0 0, .int .i64 0, .slice none 0 0]) mq0); have u0 := (B1_2.out.box (yx6_0.heap.size, 34, [.int .i64 0, .slice none 0 0, .int .i64 0, .slice none 0 0]) mq0).free 0; have u1 := (B1_2.out.box (yx6_0.heap.size, 34, [.int .i64 0, .slice none 0 0, .int .i64 0, .slice none 0 0]) mq0).free 1; have u2 := (B1_2.out.box (yx6_0.heap.size, 34, [.int .i64 0, .slice none 0 0, .int .i64 0, .slice none 0 0]) mq0).free 2; have u3 := (B1_2.out.box (yx6_0.heap.size, 34, [.int .i64 0, .slice none 0 0, .int .i64 0, .slice none 0 0]) mq0).free 3; have RB := Lib.hid (Sf.set4 (pre := []) B1_2.out (.int .i64 sx6_1) (.slice ax6_1 nx6_1 cx6_1) (.int .i64 1) (.slice bx6_1 mx6_1 dx6_1)); have eRB := KU.out _ _ _ RB.out)
          | (have hG := N1; clear hG; go_at_call 32; (with_reducible refine (CN1.out).mono ?_); rintro e yx6_1 ⟨sx6_1, ax6_1, nx6_1, cx6_1, bx6_1, mx6_1, dx6_1, rfl, hr, hb, hf, hg⟩; have E6_1 := Lib.hid hr.1.1; have N2 := Lib.hid (N1.out.ret2 hb hr.1.2 hf hr.2.2 hg); have FM := Lib.hid (hf.mono N1.out.below.size); have GM := Lib.hid (hg.mono N1.out.below.size); clear hr hb hf hg; have eN2 := KK.out _ _ N2.out; have Z2 := Lib.hid (N2.out.put [.int .i64 0, .slice none 0 0, .int .i64 0, .slice none 0 0] 34); have eZ2 := KU.out _ _ _ Z2.out; have RN := Lib.hid (N2.out.put [.int .i64 sx6_1, .slice ax6_1 nx6_1 cx6_1, .int .i64 1, .slice bx6_1 mx6_1 dx6_1] 34); have eRN := KU.out _ _ _ RN.out)
          | (have hG := Z0; clear hG; go_at_call 21; (with_reducible refine (CZ0.out).mono ?_); rintro e yx6_0 ⟨sx6_0, ax6_0, nx6_0, cx6_0, bx6_0, mx6_0, dx6_0, rfl, hr, hb, hf, hg⟩; have E6_0 := Lib.hid hr.1.1; have B0_1 := Lib.hid (Z0.out.ret2 hb hr.1.2 hf hr.2.2 hg); clear hr hb hf hg; have eB0_1 := KU.out _ _ _ B0_1.out; have CB0_1 := Lib.hid (qadd_r (B0_1.out.fr (v := .slice ax6_0 nx6_0 cx6_0) (u := .slice bx6_0 mx6_0 dx6_0) (r := RR) mq0 mq1 E6_0.out) (B0_1.out.fr (v := .slice ax4 nx4 cx4) (u := .slice bx4 mx4 dx4) (r := E) mq4 mq5 E4.out) LR.out LE.out HE2.out))
          | (have hG := N0; clear hG; go_at_call 21; (with_reducible refine (CN0.out).mono ?_); rintro e yx6_0 ⟨sx6_0, ax6_0, nx6_0, cx6_0, bx6_0, mx6_0, dx6_0, rfl, hr, hb, hf, hg⟩; have E6_0 := Lib.hid hr.1.1; have N1 := Lib.hid (N0.out.ret2 hb hr.1.2 hf hr.2.2 hg); clear hr hb hf hg; have eN1 := KK.out _ _ N1.out; have Z1 := Lib.hid (N1.out.put [.int .i64 0, .slice none 0 0, .int .i64 0, .slice none 0 0] 34); have eZ1 := KU.out _ _ _ Z1.out; have CN1 := Lib.hid (qadd_r (N1.out.fr (v := .slice ax6_0 nx6_0 cx6_0) (u := .slice bx6_0 mx6_0 dx6_0) (r := RR) mq0 mq1 E6_0.out) (N1.out.fr (v := .slice ax4 nx4 cx4) (u := .slice bx4 mx4 dx4) (r := E) mq4 mq5 E4.out) LR.out LE.out HE2.out); have CZ1 := Lib.hid (qadd_r (Z1.out.fr (v := .slice ax6_0 nx6_0 cx6_0) (u := .slice bx6_0 mx6_0 dx6_0) (r := RR) mq0 mq1 E6_0.out) (Z1.out.fr (v := .slice ax4 nx4 cx4) (u := .slice bx4 mx4 dx4) (r := E) mq4 mq5 E4.out) LR.out LE.out HE2.out))); (try dsimp only)))
    all_goals (go_wp2_with fail; go_meet; refine ⟨rfl, ?_⟩; first | exact Lib.hid ⟨_, _, _, _, _, _, _, _, rfl, E6_1.out, FM.out, GM.out, Sf.facts RN.out (by simp)⟩ | exact Lib.hid ⟨_, _, _, _, _, _, _, _, rfl, E6_1.out, FM.out, GM.out, Sf.facts RB.out (by simp)⟩)
  case rest =>
  obtain ⟨rfl, hq⟩ := hcut
  obtain ⟨gx6, sx6, ax6, nx6, cx6, bx6, mx6, dx6, rfl, esx6, ffx6, fgx6, hsx6⟩ := hq.out
  obtain ⟨w6, rfl⟩ : ∃ W, W = wc := ⟨_, rfl⟩
  have R6 := Lib.hid hsx6
  have E6 := Lib.hid esx6
  have FF6 := Lib.hid ffx6
  have FG6 := Lib.hid fgx6
  clear hq esx6 ffx6 fgx6 hsx6 R5
  obtain ⟨q2, q3, q4, q5⟩ := Fb.cells4 (R6.out.box (gx5, 34, [.int .i64 sx5, .slice ax5 nx5 cx5, .int .i64 1, .slice bx5 mx5 dx5]) mq1)
  go_wp2_with fail
  clear q2 q3 q4 q5
  refine (qsign_r (R6.out.fr (v := .slice ax5 nx5 cx5) (u := .slice bx5 mx5 dx5) (r := X) mq2 mq3 E5.out) LS.out HSG.out).mono ?_
  rintro e w7 ⟨rfl, hb⟩
  have R7 := Lib.hid (R6.out.later hb)
  clear hb
  cases neg
  case true =>
    have HE3 : Hid (ZZ = LO) := Lib.hid (by have := HE1.out; rwa [if_pos rfl] at this)
    go_wp2_with fail
    refine (qint_r (by decide) HZZ.out _).mono ?_
    rintro e w8 ⟨sx8, ax8, nx8, cx8, bx8, mx8, dx8, rfl, hr, hb, hf, hg⟩
    have E8 := Lib.hid hr.1.1
    have R8 := Lib.hid (R7.out.ret2 hb hr.1.2 hf hr.2.2 hg)
    have FF8 := Lib.hid (hf.mono R7.out.below.size)
    have FG8 := Lib.hid (hg.mono R7.out.below.size)
    clear hr hb hf hg
    have Q6 := Lib.hid (Sf.row (pre := [(gx6, 34, [.int .i64 sx6, .slice ax6 nx6 cx6, .int .i64 1, .slice bx6 mx6 dx6])]) R8.out [.int .i64 sx8, .slice ax8 nx8 cx8, .int .i64 1, .slice bx8 mx8 dx8])
    go_upto_region 9 with (first | refine wpList_store_row rfl _ _ _ rfl _ #[.int .i64 sx8, .slice ax8 nx8 cx8, .int .i64 1, .slice bx8 mx8 dx8] rfl rfl _ _ (R8.out.box _ mq1) (by kernel_rfl) rfl (by simp [Value.oneCell']) ?_)
    try dsimp only [Act.put]
    go_cut [12] from 71 to 72 (fun u wx => u = .bool true ∧ Hid (Sf w [(gx6, 34, [.int .i64 sx6, .slice ax6 nx6 cx6, .int .i64 1, .slice bx6 mx6 dx6]), (gx5, 34, [.int .i64 sx8, .slice ax8 nx8 cx8, .int .i64 1, .slice bx8 mx8 dx8]), (w4.heap.size, 34, [.int .i64 sx4, .slice ax4 nx4 cx4, .int .i64 1, .slice bx4 mx4 dx4]), (w.heap.size + 1, 34, [.int .i64 sx6, .slice ax6 nx6 cx6, .int .i64 1, .slice bx6 mx6 dx6]), (w.heap.size, 34, [.int .i64 sx8, .slice ax8 nx8 cx8, .int .i64 1, .slice bx8 mx8 dx8])] [(.slice ax8 nx8 cx8, digs (ZZ).num.natAbs), (.slice bx8 mx8 dx8, digs (((ZZ).den : Int)).natAbs), (.slice ax6 nx6 cx6, digs (UP).num.natAbs), (.slice bx6 mx6 dx6, digs (((UP).den : Int)).natAbs), (.slice ax5 nx5 cx5, digs (X).num.natAbs), (.slice bx5 mx5 dx5, digs (((X).den : Int)).natAbs), (.slice ax4 nx4 cx4, digs (E).num.natAbs), (.slice bx4 mx4 dx4, digs (((E).den : Int)).natAbs)] wx))
    case first =>
      have S9 := Q6
      have pw := List.pairwise_cons.1 Q6.out.pw
      have pw2 := List.pairwise_cons.1 pw.2
      have n3 := pw.1 (w.heap.size + 1, 34, [.int .i64 0, .slice none 0 0, .int .i64 0, .slice none 0 0]) mq2
      have n4 := pw.1 (w.heap.size, 34, [.int .i64 0, .slice none 0 0, .int .i64 0, .slice none 0 0]) mq3
      have m3 := pw2.1 (w.heap.size + 1, 34, [.int .i64 0, .slice none 0 0, .int .i64 0, .slice none 0 0]) mq1
      have m4 := pw2.1 (w.heap.size, 34, [.int .i64 0, .slice none 0 0, .int .i64 0, .slice none 0 0]) mq2
      dsimp only at n3 n4 m3 m4
      have n3a : ¬ gx6 = w.heap.size + 1 := by omega
      have n3b : ¬ w.heap.size + 1 = gx6 := by omega
      have n4a : ¬ gx6 = w.heap.size := by omega
      have n4b : ¬ w.heap.size = gx6 := by omega
      have m3a : ¬ gx5 = w.heap.size + 1 := by omega
      have m3b : ¬ w.heap.size + 1 = gx5 := by omega
      have m4a : ¬ gx5 = w.heap.size := by omega
      have m4b : ¬ w.heap.size = gx5 := by omega
      clear pw pw2 n3 n4 m3 m4
      obtain ⟨q7, q8, q9, q10⟩ := Fb.cells4 (Q6.out.box (gx6, 34, [.int .i64 sx6, .slice ax6 nx6 cx6, .int .i64 1, .slice bx6 mx6 dx6]) mq0)
      obtain ⟨q11, q12, q13, q14⟩ := Fb.cells4 (Q6.out.box (gx5, 34, [.int .i64 sx8, .slice ax8 nx8 cx8, .int .i64 1, .slice bx8 mx8 dx8]) mq1)
      obtain ⟨q15, q16, q17, q18⟩ := Fb.cells4 (Q6.out.box (w.heap.size + 1, 34, [.int .i64 0, .slice none 0 0, .int .i64 0, .slice none 0 0]) mq3)
      obtain ⟨q19, q20, q21, q22⟩ := Fb.cells4 (Q6.out.box (w.heap.size, 34, [.int .i64 0, .slice none 0 0, .int .i64 0, .slice none 0 0]) mq4)
      obtain ⟨e30, e31, e32, e33⟩ := Fb.free4 (Q6.out.box (w.heap.size + 1, 34, [.int .i64 0, .slice none 0 0, .int .i64 0, .slice none 0 0]) mq3)
      obtain ⟨e40, e41, e42, e43⟩ := Fb.free4 (Q6.out.box (w.heap.size, 34, [.int .i64 0, .slice none 0 0, .int .i64 0, .slice none 0 0]) mq4)
      have N0 := Lib.hid Q6.out.drew
      clear Q6
      obtain ⟨q23, q24, q25, q26⟩ := Fb.cells4 (N0.out.box (gx6, 34, [.int .i64 sx6, .slice ax6 nx6 cx6, .int .i64 1, .slice bx6 mx6 dx6]) mq0)
      obtain ⟨q27, q28, q29, q30⟩ := Fb.cells4 (N0.out.box (gx5, 34, [.int .i64 sx8, .slice ax8 nx8 cx8, .int .i64 1, .slice bx8 mx8 dx8]) mq1)
      obtain ⟨q31, q32, q33, q34⟩ := Fb.cells4 (N0.out.box (w.heap.size + 1, 34, [.int .i64 0, .slice none 0 0, .int .i64 0, .slice none 0 0]) mq3)
      obtain ⟨q35, q36, q37, q38⟩ := Fb.cells4 (N0.out.box (w.heap.size, 34, [.int .i64 0, .slice none 0 0, .int .i64 0, .slice none 0 0]) mq4)
      obtain ⟨f30, f31, f32, f33⟩ := Fb.free4 (N0.out.box (w.heap.size + 1, 34, [.int .i64 0, .slice none 0 0, .int .i64 0, .slice none 0 0]) mq3)
      obtain ⟨f40, f41, f42, f43⟩ := Fb.free4 (N0.out.box (w.heap.size, 34, [.int .i64 0, .slice none 0 0, .int .i64 0, .slice none 0 0]) mq4)
      go_region
      all_goals (go_wp2_with fail; go_meet; refine ⟨rfl, ?_⟩; first | (with_reducible exact Lib.hid (Sf.set4 (pre := [(gx6, 34, [.int .i64 sx6, .slice ax6 nx6 cx6, .int .i64 1, .slice bx6 mx6 dx6]), (gx5, 34, [.int .i64 sx8, .slice ax8 nx8 cx8, .int .i64 1, .slice bx8 mx8 dx8]), (w4.heap.size, 34, [.int .i64 sx4, .slice ax4 nx4 cx4, .int .i64 1, .slice bx4 mx4 dx4])]) (Sf.set4 (pre := [(gx6, 34, [.int .i64 sx6, .slice ax6 nx6 cx6, .int .i64 1, .slice bx6 mx6 dx6]), (gx5, 34, [.int .i64 sx8, .slice ax8 nx8 cx8, .int .i64 1, .slice bx8 mx8 dx8]), (w4.heap.size, 34, [.int .i64 sx4, .slice ax4 nx4 cx4, .int .i64 1, .slice bx4 mx4 dx4]), (w.heap.size + 1, 34, [.int .i64 0, .slice none 0 0, .int .i64 0, .slice none 0 0])]) S9.out (.int .i64 sx8) (.slice ax8 nx8 cx8) (.int .i64 1) (.slice bx8 mx8 dx8)) (.int .i64 sx6) (.slice ax6 nx6 cx6) (.int .i64 1) (.slice bx6 mx6 dx6)).drew) | (with_reducible exact Lib.hid (Sf.set4 (pre := [(gx6, 34, [.int .i64 sx6, .slice ax6 nx6 cx6, .int .i64 1, .slice bx6 mx6 dx6]), (gx5, 34, [.int .i64 sx8, .slice ax8 nx8 cx8, .int .i64 1, .slice bx8 mx8 dx8]), (w4.heap.size, 34, [.int .i64 sx4, .slice ax4 nx4 cx4, .int .i64 1, .slice bx4 mx4 dx4]), (w.heap.size + 1, 34, [.int .i64 sx6, .slice ax6 nx6 cx6, .int .i64 1, .slice bx6 mx6 dx6])]) (Sf.set4 (pre := [(gx6, 34, [.int .i64 sx6, .slice ax6 nx6 cx6, .int .i64 1, .slice bx6 mx6 dx6]), (gx5, 34, [.int .i64 sx8, .slice ax8 nx8 cx8, .int .i64 1, .slice bx8 mx8 dx8]), (w4.heap.size, 34, [.int .i64 sx4, .slice ax4 nx4 cx4, .int .i64 1, .slice bx4 mx4 dx4])]) S9.out (.int .i64 sx6) (.slice ax6 nx6 cx6) (.int .i64 1) (.slice bx6 mx6 dx6)) (.int .i64 sx8) (.slice ax8 nx8 cx8) (.int .i64 1) (.slice bx8 mx8 dx8)).drew))
    case rest =>
    obtain ⟨rfl, hq⟩ := hcut
    obtain ⟨w9, rfl⟩ : ∃ W, W = wc := ⟨_, rfl⟩
    have R9 := Lib.hid hq.out
    clear hq Q6
    go_wp2_with fail
    have HLO := HE3.out
    rw [← HLO]
    refine bodyPost_ret (ret_row3 rfl _ _ _ _ _ _ rfl rfl (run_loadVar_row _ _ _ _ _ (0, 0) _ (R9.out.box (w.heap.size, 34, [.int .i64 sx8, .slice ax8 nx8 cx8, .int .i64 1, .slice bx8 mx8 dx8]) mq4) Try.underlying34 rfl (by kernel_rfl)) (run_loadVar_row _ _ _ _ _ (0, 0) _ (R9.out.box (w.heap.size + 1, 34, [.int .i64 sx6, .slice ax6 nx6 cx6, .int .i64 1, .slice bx6 mx6 dx6]) mq3) Try.underlying34 rfl (by kernel_rfl))) rfl ⟨_, _, _, _, _, _, _, _, _, _, _, _, _, _, rfl, (R9.out.fr (v := .slice ax8 nx8 cx8) (u := .slice bx8 mx8 dx8) (r := ZZ) mq0 mq1 E8.out), (R9.out.fr (v := .slice ax6 nx6 cx6) (u := .slice bx6 mx6 dx6) (r := UP) mq2 mq3 E6.out), R9.out.below, FF8.out, FG8.out, FF6.out, FG6.out⟩
  case false =>
    have HE3 : Hid (X = LO) := Lib.hid (by have := HE1.out; rwa [if_neg (by simp)] at this)
    go_upto_region 9 with fail
    go_cut [12] from 71 to 72 (fun u wx => u = .bool true ∧ Hid (Sf w [(gx6, 34, [.int .i64 sx6, .slice ax6 nx6 cx6, .int .i64 1, .slice bx6 mx6 dx6]), (gx5, 34, [.int .i64 sx5, .slice ax5 nx5 cx5, .int .i64 1, .slice bx5 mx5 dx5]), (w4.heap.size, 34, [.int .i64 sx4, .slice ax4 nx4 cx4, .int .i64 1, .slice bx4 mx4 dx4]), (w.heap.size + 1, 34, [.int .i64 sx6, .slice ax6 nx6 cx6, .int .i64 1, .slice bx6 mx6 dx6]), (w.heap.size, 34, [.int .i64 sx5, .slice ax5 nx5 cx5, .int .i64 1, .slice bx5 mx5 dx5])] [(.slice ax6 nx6 cx6, digs (UP).num.natAbs), (.slice bx6 mx6 dx6, digs (((UP).den : Int)).natAbs), (.slice ax5 nx5 cx5, digs (X).num.natAbs), (.slice bx5 mx5 dx5, digs (((X).den : Int)).natAbs), (.slice ax4 nx4 cx4, digs (E).num.natAbs), (.slice bx4 mx4 dx4, digs (((E).den : Int)).natAbs)] wx))
    case first =>
      have S9 := R7
      have pw := List.pairwise_cons.1 R7.out.pw
      have pw2 := List.pairwise_cons.1 pw.2
      have n3 := pw.1 (w.heap.size + 1, 34, [.int .i64 0, .slice none 0 0, .int .i64 0, .slice none 0 0]) mq2
      have n4 := pw.1 (w.heap.size, 34, [.int .i64 0, .slice none 0 0, .int .i64 0, .slice none 0 0]) mq3
      have m3 := pw2.1 (w.heap.size + 1, 34, [.int .i64 0, .slice none 0 0, .int .i64 0, .slice none 0 0]) mq1
      have m4 := pw2.1 (w.heap.size, 34, [.int .i64 0, .slice none 0 0, .int .i64 0, .slice none 0 0]) mq2
      dsimp only at n3 n4 m3 m4
      have n3a : ¬ gx6 = w.heap.size + 1 := by omega
      have n3b : ¬ w.heap.size + 1 = gx6 := by omega
      have n4a : ¬ gx6 = w.heap.size := by omega
      have n4b : ¬ w.heap.size = gx6 := by omega
      have m3a : ¬ gx5 = w.heap.size + 1 := by omega
      have m3b : ¬ w.heap.size + 1 = gx5 := by omega
      have m4a : ¬ gx5 = w.heap.size := by omega
      have m4b : ¬ w.heap.size = gx5 := by omega
      clear pw pw2 n3 n4 m3 m4
      obtain ⟨q6, q7, q8, q9⟩ := Fb.cells4 (R7.out.box (gx6, 34, [.int .i64 sx6, .slice ax6 nx6 cx6, .int .i64 1, .slice bx6 mx6 dx6]) mq0)
      obtain ⟨q10, q11, q12, q13⟩ := Fb.cells4 (R7.out.box (gx5, 34, [.int .i64 sx5, .slice ax5 nx5 cx5, .int .i64 1, .slice bx5 mx5 dx5]) mq1)
      obtain ⟨q14, q15, q16, q17⟩ := Fb.cells4 (R7.out.box (w.heap.size + 1, 34, [.int .i64 0, .slice none 0 0, .int .i64 0, .slice none 0 0]) mq3)
      obtain ⟨q18, q19, q20, q21⟩ := Fb.cells4 (R7.out.box (w.heap.size, 34, [.int .i64 0, .slice none 0 0, .int .i64 0, .slice none 0 0]) mq4)
      obtain ⟨e30, e31, e32, e33⟩ := Fb.free4 (R7.out.box (w.heap.size + 1, 34, [.int .i64 0, .slice none 0 0, .int .i64 0, .slice none 0 0]) mq3)
      obtain ⟨e40, e41, e42, e43⟩ := Fb.free4 (R7.out.box (w.heap.size, 34, [.int .i64 0, .slice none 0 0, .int .i64 0, .slice none 0 0]) mq4)
      have N0 := Lib.hid R7.out.drew
      clear R7
      obtain ⟨q22, q23, q24, q25⟩ := Fb.cells4 (N0.out.box (gx6, 34, [.int .i64 sx6, .slice ax6 nx6 cx6, .int .i64 1, .slice bx6 mx6 dx6]) mq0)
      obtain ⟨q26, q27, q28, q29⟩ := Fb.cells4 (N0.out.box (gx5, 34, [.int .i64 sx5, .slice ax5 nx5 cx5, .int .i64 1, .slice bx5 mx5 dx5]) mq1)
      obtain ⟨q30, q31, q32, q33⟩ := Fb.cells4 (N0.out.box (w.heap.size + 1, 34, [.int .i64 0, .slice none 0 0, .int .i64 0, .slice none 0 0]) mq3)
      obtain ⟨q34, q35, q36, q37⟩ := Fb.cells4 (N0.out.box (w.heap.size, 34, [.int .i64 0, .slice none 0 0, .int .i64 0, .slice none 0 0]) mq4)
      obtain ⟨f30, f31, f32, f33⟩ := Fb.free4 (N0.out.box (w.heap.size + 1, 34, [.int .i64 0, .slice none 0 0, .int .i64 0, .slice none 0 0]) mq3)
      obtain ⟨f40, f41, f42, f43⟩ := Fb.free4 (N0.out.box (w.heap.size, 34, [.int .i64 0, .slice none 0 0, .int .i64 0, .slice none 0 0]) mq4)
      go_region
      all_goals (go_wp2_with fail; go_meet; refine ⟨rfl, ?_⟩; first | (with_reducible exact Lib.hid (Sf.set4 (pre := [(gx6, 34, [.int .i64 sx6, .slice ax6 nx6 cx6, .int .i64 1, .slice bx6 mx6 dx6]), (gx5, 34, [.int .i64 sx5, .slice ax5 nx5 cx5, .int .i64 1, .slice bx5 mx5 dx5]), (w4.heap.size, 34, [.int .i64 sx4, .slice ax4 nx4 cx4, .int .i64 1, .slice bx4 mx4 dx4])]) (Sf.set4 (pre := [(gx6, 34, [.int .i64 sx6, .slice ax6 nx6 cx6, .int .i64 1, .slice bx6 mx6 dx6]), (gx5, 34, [.int .i64 sx5, .slice ax5 nx5 cx5, .int .i64 1, .slice bx5 mx5 dx5]), (w4.heap.size, 34, [.int .i64 sx4, .slice ax4 nx4 cx4, .int .i64 1, .slice bx4 mx4 dx4]), (w.heap.size + 1, 34, [.int .i64 0, .slice none 0 0, .int .i64 0, .slice none 0 0])]) S9.out (.int .i64 sx5) (.slice ax5 nx5 cx5) (.int .i64 1) (.slice bx5 mx5 dx5)) (.int .i64 sx6) (.slice ax6 nx6 cx6) (.int .i64 1) (.slice bx6 mx6 dx6)).drew) | (with_reducible exact Lib.hid (Sf.set4 (pre := [(gx6, 34, [.int .i64 sx6, .slice ax6 nx6 cx6, .int .i64 1, .slice bx6 mx6 dx6]), (gx5, 34, [.int .i64 sx5, .slice ax5 nx5 cx5, .int .i64 1, .slice bx5 mx5 dx5]), (w4.heap.size, 34, [.int .i64 sx4, .slice ax4 nx4 cx4, .int .i64 1, .slice bx4 mx4 dx4]), (w.heap.size + 1, 34, [.int .i64 sx6, .slice ax6 nx6 cx6, .int .i64 1, .slice bx6 mx6 dx6])]) (Sf.set4 (pre := [(gx6, 34, [.int .i64 sx6, .slice ax6 nx6 cx6, .int .i64 1, .slice bx6 mx6 dx6]), (gx5, 34, [.int .i64 sx5, .slice ax5 nx5 cx5, .int .i64 1, .slice bx5 mx5 dx5]), (w4.heap.size, 34, [.int .i64 sx4, .slice ax4 nx4 cx4, .int .i64 1, .slice bx4 mx4 dx4])]) S9.out (.int .i64 sx6) (.slice ax6 nx6 cx6) (.int .i64 1) (.slice bx6 mx6 dx6)) (.int .i64 sx5) (.slice ax5 nx5 cx5) (.int .i64 1) (.slice bx5 mx5 dx5)).drew))
    case rest =>
    obtain ⟨rfl, hq⟩ := hcut
    obtain ⟨w8, rfl⟩ : ∃ W, W = wc := ⟨_, rfl⟩
    have R8 := Lib.hid hq.out
    clear hq R7
    go_wp2_with fail
    have HLO := HE3.out
    rw [← HLO]
    refine bodyPost_ret (ret_row3 rfl _ _ _ _ _ _ rfl rfl (run_loadVar_row _ _ _ _ _ (0, 0) _ (R8.out.box (w.heap.size, 34, [.int .i64 sx5, .slice ax5 nx5 cx5, .int .i64 1, .slice bx5 mx5 dx5]) mq4) Try.underlying34 rfl (by kernel_rfl)) (run_loadVar_row _ _ _ _ _ (0, 0) _ (R8.out.box (w.heap.size + 1, 34, [.int .i64 sx6, .slice ax6 nx6 cx6, .int .i64 1, .slice bx6 mx6 dx6]) mq3) Try.underlying34 rfl (by kernel_rfl))) rfl ⟨_, _, _, _, _, _, _, _, _, _, _, _, _, _, rfl, (R8.out.fr (v := .slice ax5 nx5 cx5) (u := .slice bx5 mx5 dx5) (r := X) mq2 mq3 E5.out), (R8.out.fr (v := .slice ax6 nx6 cx6) (u := .slice bx6 mx6 dx6) (r := UP) mq0 mq1 E6.out), R8.out.below, FF5.out, FG5.out, FF6.out, FG6.out⟩
end Go.Proofs.Ytmhjejnkphdjpaa.Sc

namespace Go.Proofs.Ytmhjejnkphdjpaa.Sc
open Go.RowKit Bi

def errB (c : Ct) (r d : Int) : Bool := c.ok && (inR r && inD c d)
def errF (c : Ct) (r d : Int) : RF := if errB c r d = true then rf (errR c r d) else rz
def fC (s d : Int) (l : List Ct) : Ct := match fnd s d l with | none => ⟨0, 0, 0, 0, 0, 0⟩ | some x => x.2
def ivB (s r d : Int) (l : List Ct) (rl : List (Int × Int)) : Bool := fB s d l && (!recB s d rl && inR r)
def ivL (s r d : Int) (l : List Ct) (rl : List (Int × Int)) : RF := if ivB s r d l rl = true then rf (lowR (fC s d l) r d) else rz
def ivH (s r d : Int) (l : List Ct) (rl : List (Int × Int)) : RF := if ivB s r d l rl = true then rf (highR (fC s d l) r d) else rz
theorem found_c {s d : Int} {l : List Ct} (h : fB s d l = true) : fnd s d l = some (fI s d l, fC s d l) := by
  unfold fB at h
  obtain ⟨⟨i, c⟩, hj⟩ := Option.isSome_iff_exists.1 h
  unfold fI fC; rw [hj]
theorem error_raw {c : Ct} {r d : Int} {w : World} {D : RF} {k : Bool} (hD : errF c r d = D) (hk : errB c r d = k) : Calls Try.prog 12 #[.agg #[.int .i64 c.sc, .int .i64 c.fr, .int .i64 c.un, .int .i64 c.ut, .int .i64 c.pm, .int .i64 c.dr], .int .i64 r, .int .i64 d] w (Gf D k w) := by
  rcases h1 : c.ok with _ | _
  · have e : errB c r d = false := by unfold errB; rw [h1]; rfl
    unfold errF at hD
    rw [e] at hk hD
    subst hk hD
    exact (error_ok h1).mono fun _ _ h => h.raw
  rcases h2 : inR r with _ | _
  · have e : errB c r d = false := by unfold errB; rw [h1, h2]; rfl
    unfold errF at hD
    rw [e] at hk hD
    subst hk hD
    exact (error_inr h1 h2).mono fun _ _ h => h.raw
  rcases h3 : inD c d with _ | _
  · have e : errB c r d = false := by unfold errB; rw [h1, h2, h3]; rfl
    unfold errF at hD
    rw [e] at hk hD
    subst hk hD
    exact (error_ind h1 h2 h3).mono fun _ _ h => h.raw
  · have e : errB c r d = true := by unfold errB; rw [h1, h2, h3]; rfl
    unfold errF at hD
    rw [e] at hk hD
    subst hk hD
    exact (error_some h1 h2 h3).mono fun _ _ h => h.raw
theorem ivl_raw {a a2 : Option Addr} {n cap m cap2 : Nat} {l : List Ct} {rl : List (Int × Int)} {s r d : Int} {w : World} (hc : Cs w a l) (hn : l.length = n) (hl : n ≤ 1000000) (hr : Rs w a2 rl) (hm : rl.length = m) (hl2 : m ≤ 1000000) {D E : RF} {k : Bool} (hD : ivL s r d l rl = D) (hE : ivH s r d l rl = E) (hk : ivB s r d l rl = k) : Calls Try.prog 14 #[.slice a n cap, .slice a2 m cap2, .int .i64 s, .int .i64 r, .int .i64 d] w (G2 D E k w) := by
  rcases h1 : fB s d l with _ | _
  · have e : ivB s r d l rl = false := by unfold ivB; rw [h1]; rfl
    unfold ivL at hD
    unfold ivH at hE
    rw [e] at hk hD hE
    subst hk hD hE
    exact (ivl_nf hc hn hl hr hm hl2 h1).mono fun _ _ h => h.raw
  rcases h2 : recB s d rl with _ | _
  · rcases h3 : inR r with _ | _
    · have e : ivB s r d l rl = false := by unfold ivB; rw [h1, h2, h3]; rfl
      unfold ivL at hD
      unfold ivH at hE
      rw [e] at hk hD hE
      subst hk hD hE
      exact (ivl_inr hc hn hl hr hm hl2 h1 h2 h3).mono fun _ _ h => h.raw
    · have e : ivB s r d l rl = true := by unfold ivB; rw [h1, h2, h3]; rfl
      unfold ivL at hD
      unfold ivH at hE
      rw [e] at hk hD hE
      subst hk hD hE
      exact (ivl_some hc hn hl hr hm hl2 (found_c h1) h2 h3).mono fun _ _ h => h.raw
  · have e : ivB s r d l rl = false := by unfold ivB; rw [h1, h2]; rfl
    unfold ivL at hD
    unfold ivH at hE
    rw [e] at hk hD hE
    subst hk hD hE
    exact (ivl_rec hc hn hl hr hm hl2 h1 h2).mono fun _ _ h => h.raw
theorem rerror_raw {c : Ct} {r d : Int} {w : World} {D : RF} {k : Bool} (hD : errF c r d = D) (hk : errB c r d = k) : Calls Try.prog 13 #[.agg #[.int .i64 c.sc, .int .i64 c.fr, .int .i64 c.un, .int .i64 c.ut, .int .i64 c.pm, .int .i64 c.dr], .int .i64 r, .int .i64 d] w (Gf D k w) := by
  rcases h1 : c.ok with _ | _
  · have e : errB c r d = false := by unfold errB; rw [h1]; rfl
    unfold errF at hD
    rw [e] at hk hD
    subst hk hD
    exact (rerror_ok h1).mono fun _ _ h => h.raw
  rcases h2 : inR r with _ | _
  · have e : errB c r d = false := by unfold errB; rw [h1, h2]; rfl
    unfold errF at hD
    rw [e] at hk hD
    subst hk hD
    exact (rerror_inr h1 h2).mono fun _ _ h => h.raw
  rcases h3 : inD c d with _ | _
  · have e : errB c r d = false := by unfold errB; rw [h1, h2, h3]; rfl
    unfold errF at hD
    rw [e] at hk hD
    subst hk hD
    exact (rerror_ind h1 h2 h3).mono fun _ _ h => h.raw
  · have e : errB c r d = true := by unfold errB; rw [h1, h2, h3]; rfl
    unfold errF at hD
    rw [e] at hk hD
    subst hk hD
    exact (rerror_some h1 h2 h3).mono fun _ _ h => h.raw
theorem rivl_raw {a a2 : Option Addr} {n cap m cap2 : Nat} {l : List Ct} {rl : List (Int × Int)} {s r d : Int} {w : World} (hc : Cs w a l) (hn : l.length = n) (hl : n ≤ 1000000) (hr : Rs w a2 rl) (hm : rl.length = m) (hl2 : m ≤ 1000000) {D E : RF} {k : Bool} (hD : ivL s r d l rl = D) (hE : ivH s r d l rl = E) (hk : ivB s r d l rl = k) : Calls Try.prog 15 #[.slice a n cap, .slice a2 m cap2, .int .i64 s, .int .i64 r, .int .i64 d] w (G2 D E k w) := by
  rcases h1 : fB s d l with _ | _
  · have e : ivB s r d l rl = false := by unfold ivB; rw [h1]; rfl
    unfold ivL at hD
    unfold ivH at hE
    rw [e] at hk hD hE
    subst hk hD hE
    exact (rivl_nf hc hn hl hr hm hl2 h1).mono fun _ _ h => h.raw
  rcases h2 : recB s d rl with _ | _
  · rcases h3 : inR r with _ | _
    · have e : ivB s r d l rl = false := by unfold ivB; rw [h1, h2, h3]; rfl
      unfold ivL at hD
      unfold ivH at hE
      rw [e] at hk hD hE
      subst hk hD hE
      exact (rivl_inr hc hn hl hr hm hl2 h1 h2 h3).mono fun _ _ h => h.raw
    · have e : ivB s r d l rl = true := by unfold ivB; rw [h1, h2, h3]; rfl
      unfold ivL at hD
      unfold ivH at hE
      rw [e] at hk hD hE
      subst hk hD hE
      exact (rivl_some hc hn hl hr hm hl2 (found_c h1) h2 h3).mono fun _ _ h => h.raw
  · have e : ivB s r d l rl = false := by unfold ivB; rw [h1, h2]; rfl
    unfold ivL at hD
    unfold ivH at hE
    rw [e] at hk hD hE
    subst hk hD hE
    exact (rivl_rec hc hn hl hr hm hl2 h1 h2).mono fun _ _ h => h.raw
/-- One certificate in a box of its own. -/
theorem Cs.one {W : World} {b : Nat} {ty : TypeId} {c : Ct} (h : Fb (b, ty, [.int .i64 c.sc, .int .i64 c.fr, .int .i64 c.un, .int .i64 c.ut, .int .i64 c.pm, .int .i64 c.dr]) W) : Cs W (some ⟨b, 0, none⟩) [c] := by
  refine .inr ⟨b, 0, rfl, (Array.getElem?_eq_some_iff.1 h).1, fun i hi j hj => ?_⟩
  obtain rfl : i = 0 := by simpa using hi
  rw [show 0 + 0 * 6 + j = j by omega, h.cell j]
  rcases j with _ | _ | _ | _ | _ | _ | j
  all_goals first | rfl | omega
theorem Rs.one {W : World} {b : Nat} {ty : TypeId} {x y : Int} (h : Fb (b, ty, [.int .i64 x, .int .i64 y]) W) : Rs W (some ⟨b, 0, none⟩) [(x, y)] := by
  refine .inr ⟨b, 0, rfl, (Array.getElem?_eq_some_iff.1 h).1, fun i hi j hj => ?_⟩
  obtain rfl : i = 0 := by simpa using hi
  rw [show 0 + 0 * 2 + j = j by omega, h.cell j]
  rcases j with _ | _ | j
  all_goals first | rfl | omega
theorem Rs.nil (W : World) (a : Option Addr) : Rs W a [] := .inl rfl
theorem Cs.nil (W : World) (a : Option Addr) : Cs W a [] := .inl rfl
/-! ## Records as cells -/
def rowc (n : Nat) (f : Nat → Int) : List Value := (List.range n).map fun j => .int .i64 (f j)
def flat (n : Nat) (l : List (Nat → Int)) : List Value := l.flatMap (rowc n)
theorem flat_len (n : Nat) : ∀ l : List (Nat → Int), (flat n l).length = l.length * n
  | [] => by simp [flat]
  | f :: l => by
    have := flat_len n l
    unfold flat at this ⊢
    rw [List.flatMap_cons, List.length_append, this, List.length_cons, Nat.add_mul]
    unfold rowc
    simp; omega
theorem flat_get (n : Nat) : ∀ (l : List (Nat → Int)) (i : Nat) (hi : i < l.length) (j : Nat), j < n → (flat n l)[i * n + j]? = some (.int .i64 (l[i] j))
  | f :: l, 0, _, j, hj => by
    unfold flat
    rw [List.flatMap_cons, List.getElem?_append_left (by unfold rowc; simp; omega)]
    unfold rowc
    simp [hj]
  | f :: l, i + 1, hi, j, hj => by
    have := flat_get n l i (by simpa using hi) j hj
    unfold flat at this ⊢
    rw [List.flatMap_cons, List.getElem?_append_right (by unfold rowc; simp [Nat.add_mul]; omega)]
    have e : (i + 1) * n + j - (rowc n f).length = i * n + j := by unfold rowc; simp [Nat.add_mul]; omega
    rw [e, this]
    simp
theorem flat_app (n : Nat) (l m : List (Nat → Int)) : flat n (l ++ m) = flat n l ++ flat n m := by unfold flat; simp
theorem flat_inv (n : Nat) (h0 : 0 < n) (l : List (Nat → Int)) {k : Nat} {u : Value} (h : (flat n l)[k]? = some u) : ∃ i, ∃ hi : i < l.length, ∃ j, j < n ∧ k = i * n + j ∧ u = .int .i64 (l[i] j) := by
  have hk : k < l.length * n := by have := (List.getElem?_eq_some_iff.1 h).1; rwa [flat_len] at this
  have h1 : k / n < l.length := Nat.div_lt_of_lt_mul (by rw [Nat.mul_comm]; exact hk)
  have h2 : k % n < n := Nat.mod_lt _ h0
  have h3 : k = k / n * n + k % n := by rw [Nat.mul_comm]; exact (Nat.div_add_mod k n).symm
  refine ⟨k / n, h1, k % n, h2, h3, ?_⟩
  have := flat_get n l (k / n) h1 (k % n) h2
  rw [← h3, h] at this
  exact Option.some.inj this
/-- The slice v holds the records l, at the head of a block of its own. -/
def OwnR (w : World) (e n : Nat) (v : Value) (l : List (Nat → Int)) : Prop := Dm.Own w e n v l.length (flat n l)
theorem OwnR.recs {w : World} {e n : Nat} {a : Option Addr} {cap : Nat} {l : List (Nat → Int)} (h : OwnR w e n (.slice a l.length cap) l) : Rc.Recs n w a l := by
  rcases h.2 with ⟨a', hv, hn⟩ | ⟨g, cap', cur, hv, hg, hnc, hc0, hcm, hcs, ht⟩
  · left; exact List.eq_nil_of_length_eq_zero hn
  · cases hv
    refine .inr ⟨g, 0, rfl, (Array.getElem?_eq_some_iff.1 hg).1, fun i hi j hj => ?_⟩
    have hlt : i * n + j < l.length * n := by
      have : (i + 1) * n ≤ l.length * n := Nat.mul_le_mul_right n hi
      rw [Nat.add_mul] at this; omega
    have h1 : (cur.toList.take (l.length * n))[i * n + j]? = (flat n l)[i * n + j]? := by rw [ht]
    rw [List.getElem?_take, if_pos hlt, flat_get n l i hi j hj, Array.getElem?_toList] at h1
    rw [show 0 + i * n + j = i * n + j by omega, cell_of_row w g (i * n + j) cur e (0, 0) hg]
    exact h1
theorem OwnR.nil (w : World) (e n : Nat) (a : Option Addr) : OwnR w e n (.slice a 0 0) [] := ⟨by simp [flat], .inl ⟨a, rfl, rfl⟩⟩
theorem OwnR.later {w w' : World} {e n : Nat} {v : Value} {l : List (Nat → Int)} (h : OwnR w e n v l) (hb : RowKit.Below w.heap.size w w') : OwnR w' e n v l := Dm.Own.kept h fun b e => hb.block b (Dm.Own.lt h b e)
theorem rec_src {P : Program} {w : World} {n : Nat} {tx e' : TypeId} (hk : P.underlying tx = some (.slice e')) (h0 : 0 < n) {a : Option Addr} {l : List (Nat → Int)} {cap : Nat} (h : Rc.Recs n w a l) (hz : l = [] → a = none ∨ ∃ b, a = some b) : Src P n tx (.slice a l.length cap) l.length (flat n l) w := by
  rcases h with rfl | ⟨b, o, rfl, hlt, hc⟩
  · rcases hz rfl with rfl | ⟨b, rfl⟩
    · exact Src.ofNil w hk cap
    · exact Src.ofSlice w hk b 0 cap [] (by simp) (fun j u hu => by simp at hu) (fun u hu => by cases hu)
  · refine Src.ofSlice w hk ⟨b, o, none⟩ l.length cap (flat n l) (flat_len n l) (fun k u hu => ?_) (fun u hu => ?_)
    · obtain ⟨i, hi, j, hj, rfl, rfl⟩ := flat_inv n h0 l hu
      have : (⟨b, o, none⟩ : Addr).add (i * n + j) = ⟨b, o + i * n + j, none⟩ := by unfold Addr.add; simp [Nat.add_assoc]
      rw [this]
      exact hc i hi j hj
    · obtain ⟨k, hk⟩ := List.getElem?_of_mem hu
      obtain ⟨i, hi, j, hj, _, rfl⟩ := flat_inv n h0 l hk
      rfl
theorem Ints.on {w w' : World} {v : Value} {l : List Int} {row : Option Nat} (h : Ints w v l) (ho : ∀ g, row = some g → Off v g) (hg : w.grownBy w' row) : Ints w' v l := by
  cases row with
  | none => exact h.later ⟨hg.os, hg.tape, hg.output, hg.size, fun k hk => hg.block k hk (by simp)⟩
  | some g => exact h.grown (ho g rfl) hg
theorem Sf.on {w W W' : World} {L : List FBox} {F : List (Value × List Int)} {row : Option Nat} (h : Sf w L F W) (hg : W.grownBy W' row) (hr : ∀ g, row = some g → w.heap.size ≤ g ∧ (∀ x ∈ L, x.1 ≠ g) ∧ ∀ f ∈ F, Off f.1 g) : Sf w L F W' := by
  refine ⟨⟨hg.os.trans h.below.os, hg.tape.trans h.below.tape, hg.output.trans h.below.output, Nat.le_trans h.below.size hg.size, fun k hk => ?_⟩, h.le, fun x hx => ?_, fun f hf => Ints.on (h.ints f hf) (fun g e => (hr g e).2.2 f hf) hg, h.off, h.pw⟩
  · rw [hg.block k (Nat.lt_of_lt_of_le hk h.below.size) (fun e => by have := (hr k e.symm).1; omega)]
    exact h.below.block k hk
  · have hq := h.box x hx
    show W'.heap[x.1]? = _
    rw [hg.block x.1 (h.lt x hx) (fun e => (hr x.1 e.symm).2.1 x hx rfl)]
    exact hq
theorem infoC3 : (Try.prog.info? 25).map (fun i => (i.zero.map (fun z => z.cells.size), i.size, decide (i.bytes ≤ 1000))) = some (some 6, 6, true) := by kernel_rfl
theorem infoR3 : (Try.prog.info? 52).map (fun i => (i.zero.map (fun z => z.cells.size), i.size, decide (i.bytes ≤ 1000))) = some (some 2, 2, true) := by kernel_rfl
theorem info_parts3 {e : TypeId} {n : Nat} (h : (Try.prog.info? e).map (fun i => (i.zero.map (fun z => z.cells.size), i.size, decide (i.bytes ≤ 1000))) = some (some n, n, true)) : ∃ i z, Try.prog.info? e = some i ∧ i.zero = some z ∧ z.cells.size = n ∧ i.size = n ∧ i.bytes ≤ 1000 := by
  cases hi : Try.prog.info? e with
  | none => rw [hi] at h; cases h
  | some i =>
    rw [hi] at h
    simp only [Option.map_some, Option.some.injEq, Prod.mk.injEq, decide_eq_true_eq] at h
    obtain ⟨h1, h2, h3⟩ := h
    cases hz : i.zero with
    | none => rw [hz] at h1; cases h1
    | some z =>
      rw [hz] at h1
      simp only [Option.map_some, Option.some.injEq] at h1
      exact ⟨i, z, rfl, hz, h1, h2, h3⟩
/-- Records are appended onto such a slice. -/
theorem OwnR.app {w : World} {e n t tx : TypeId} {v x : Value} {l m : List (Nat → Int)} (h : OwnR w e n v l) (ht : Try.prog.underlying t = some (.slice e)) (hi : (Try.prog.info? e).map (fun i => (i.zero.map (fun z => z.cells.size), i.size, decide (i.bytes ≤ 1000))) = some (some n, n, true))
    (hs : Src Try.prog n tx x m.length (flat n m) w) (hl : l.length + m.length ≤ 1000000) :
    ∃ a cap w', (∀ ty, (Builtin.append_ #[t, tx] ty #[v, x]).run Try.prog w = .ok (.slice a (l ++ m).length cap) w') ∧ OwnR w' e n (.slice a (l ++ m).length cap) (l ++ m) ∧ w.grownBy w' (Dm.blk v) ∧ (Dm.blk (.slice a (l ++ m).length cap) = none ∨ Dm.blk (.slice a (l ++ m).length cap) = Dm.blk v ∨ Dm.blk (.slice a (l ++ m).length cap) = some w.heap.size) := by
  obtain ⟨i0, z, hi0, hz0, hzs, hsz, hby⟩ := info_parts3 hi
  obtain ⟨v', w', hr, g1, g2, g3⟩ := Dm.own_append (P := Try.prog) (t := t) (tx := tx) (ty := 0) ht hi0 hz0 hsz rfl hzs h hs (by unfold maxLen; omega) (by
    have := Nat.mul_le_mul (show l.length + m.length ≤ 1000000 by omega) hby
    omega)
  rw [← List.length_append] at g1
  obtain ⟨a, cap, rfl, _, _⟩ := g1.shape
  refine ⟨a, cap, w', fun ty => hr, ?_, g2, g3⟩
  unfold OwnR
  rw [flat_app]
  exact g1

set_option maxHeartbeats 4000000 in
theorem whole_k {w : World} {s1 : Int} {a1 b1 : Option Addr} {n1 c1 m1 d1 : Nat} {x : Rat} {z : Int} (h1 : Fr w s1 (.slice a1 n1 c1) (.slice b1 m1 d1) x) (hz : -9223372036854775808 ≤ z ∧ z ≤ 9223372036854775807) (hx : x = ((z : Int) : Rat)) : Calls Try.prog 26 #[.agg #[.int .i64 s1, .slice a1 n1 c1, .int .i64 1, .slice b1 m1 d1], .int .i64 z] w (Gv (.bool true) w) := by
  obtain ⟨q, hq⟩ : ∃ q, ((z : Int) : Rat) = q := ⟨_, rfl⟩
  have HQ := Lib.hid hq
  have HXQ : Hid (x = q) := Lib.hid (hx.trans hq)
  have HZ := Lib.hid hz
  have E1 := Lib.hid h1.1.1
  have s0 := ((((Sf.start w).arg h1.2.2).arg h1.1.2).put [.int .i64 s1, .slice a1 n1 c1, .int .i64 1, .slice b1 m1 d1] 34)
  try simp only [World.size_alloc] at s0
  have S0 := Lib.hid s0
  clear s0
  clear h1 hz hx hq
  go_enter Try.func26, Try.ntmps26
  go_upto_region 1 with fail
  go_cut [4] from 5 to 8 (fun u wx => u = .bool true ∧ Hid (Sf w [(w.heap.size, 34, [.int .i64 s1, .slice a1 n1 c1, .int .i64 1, .slice b1 m1 d1])] [(.slice a1 n1 c1, digs (x).num.natAbs), (.slice b1 m1 d1, digs (((x).den : Int)).natAbs)] wx))
  case first =>
    have K0 : ∀ W F, Sf w [(w.heap.size, 34, [.int .i64 s1, .slice a1 n1 c1, .int .i64 1, .slice b1 m1 d1])] F W → W.cell? ⟨w.heap.size, 0, none⟩ = some (.int .i64 s1) ∧ W.cell? ⟨w.heap.size, 1, none⟩ = some (.slice a1 n1 c1) ∧ W.cell? ⟨w.heap.size, 2, none⟩ = some (.int .i64 1) ∧ W.cell? ⟨w.heap.size, 3, none⟩ = some (.slice b1 m1 d1) := fun W F h => ⟨(h.box (w.heap.size, 34, [.int .i64 s1, .slice a1 n1 c1, .int .i64 1, .slice b1 m1 d1]) mq0).cell 0, (h.box (w.heap.size, 34, [.int .i64 s1, .slice a1 n1 c1, .int .i64 1, .slice b1 m1 d1]) mq0).cell 1, (h.box (w.heap.size, 34, [.int .i64 s1, .slice a1 n1 c1, .int .i64 1, .slice b1 m1 d1]) mq0).cell 2, (h.box (w.heap.size, 34, [.int .i64 s1, .slice a1 n1 c1, .int .i64 1, .slice b1 m1 d1]) mq0).cell 3⟩
    have KK := Lib.hid K0
    clear K0
    have N0 := Lib.hid S0.out.drew
    clear S0
    have e0 := KK.out _ _ N0.out
    go_region_held3 (fun W => W.cell? ⟨w.heap.size, 0, none⟩ = some (.int .i64 s1) ∧ W.cell? ⟨w.heap.size, 1, none⟩ = some (.slice a1 n1 c1) ∧ W.cell? ⟨w.heap.size, 2, none⟩ = some (.int .i64 1) ∧ W.cell? ⟨w.heap.size, 3, none⟩ = some (.slice b1 m1 d1))
      (first | (with_reducible exact e0) | (with_reducible exact e1) | (with_reducible exact e2))
      (((first | go_at_call 21 | go_at_call 16 | (rw [if_pos (by rfl)]; go_simp) | skip); (first
          | (have hG := N1; clear hG; go_at_call 16; (with_reducible refine (rfsame_t PN1_1.out PN1_2.out HXQ.out).mono ?_); rintro e y1_1 ⟨rfl, hb⟩; have N2 := Lib.hid (N1.out.later hb); clear hb; have e2 := KK.out _ _ N2.out)
          | (have hG := N0; clear hG; go_at_call 21; (with_reducible refine (qint_r HZ.out HQ.out _).mono ?_); rintro e y1_0 ⟨sx1_0, ax1_0, nx1_0, cx1_0, bx1_0, mx1_0, dx1_0, rfl, hr, hb, hf, hg⟩; have E1_0 := Lib.hid hr.1.1; have N1 := Lib.hid (N0.out.ret2 hb hr.1.2 hf hr.2.2 hg); clear hr hb hf hg; have e1 := KK.out _ _ N1.out; have PN1_1 := Lib.hid (N1.out.fr (v := .slice a1 n1 c1) (u := .slice b1 m1 d1) (r := x) mq2 mq3 E1.out); have PN1_2 := Lib.hid (N1.out.fr (v := .slice ax1_0 nx1_0 cx1_0) (u := .slice bx1_0 mx1_0 dx1_0) (r := q) mq0 mq1 E1_0.out))); (try dsimp only)))
    all_goals (go_wp2_with fail; go_meet; exact ⟨rfl, Lib.hid (Sf.facts N2.out (by simp))⟩)
  case rest =>
  obtain ⟨rfl, hq⟩ := hcut
  obtain ⟨w1, rfl⟩ : ∃ W, W = wc := ⟨_, rfl⟩
  have R1 := Lib.hid hq.out
  clear hq S0
  go_wp2_with fail
  go_ret
  exact ⟨rfl, R1.out.below⟩
end Go.Proofs.Ytmhjejnkphdjpaa.Sc
