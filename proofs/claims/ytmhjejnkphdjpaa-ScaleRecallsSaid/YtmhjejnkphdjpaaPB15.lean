/- kitbagref04: Add. kitbagref04: Neg, Sub. kitbagref04: Div. WRITTEN by big/gen_rdiv.py. kitbagref04: Gcd. kitbagref04: Compare. kitbagref04: Of. kitbagref04: Int (all but arguments below the least int). -/
import Derived.Test.YtmhjejnkphdjpaaPB14
set_option maxRecDepth 100000
namespace Go.Proofs.Ytmhjejnkphdjpaa.Bi
open Go.RowKit

set_option maxHeartbeats 8000000 in
theorem radd_zz (aa ab : Option Addr) (na nb ca cb : Nat) (a b : Int) (w : World) (ha : IsB w (.agg #[.int .i64 0, .slice aa na ca]) a) (hb : IsB w (.agg #[.int .i64 0, .slice ab nb cb]) b) (hia : Ints w (.slice aa na ca) (digs a.natAbs)) (hib : Ints w (.slice ab nb cb) (digs b.natAbs)) (hla : (digs a.natAbs).length ≤ 100000) (hlb : (digs b.natAbs).length ≤ 100000) (hsa : a.sign = 0) (hsb : b.sign = 0) :
    Calls Try.prog 48 #[.agg #[.int .i64 0, .slice aa na ca], .agg #[.int .i64 0, .slice ab nb cb]] w (Ans (a + b) 0 w) := by
  have HA := Lib.hid ha
  have HB := Lib.hid hb
  have HIA := Lib.hid hia
  have HIB := Lib.hid hib
  have h1 := sgn_is a
  have h2 := sgn_is b
  have h3 := sgn_is (a + b)
  have hpn : (a + b).natAbs = a.natAbs + b.natAbs := by omega
  have hlp : (digs (a.natAbs + b.natAbs)).length ≤ 1000000 := by
    have := Sz.add ((Sz.of hla).mono (j := 100000) (by omega)) ((Sz.of hlb).mono (j := 100000) (by omega))
    unfold Sz at this
    rw [hpn] at this
    exact Nat.le_trans (digs_le this) (by omega)
  have hps : a + b ≠ 0 → (0 : Int) = (a + b).sign := by omega
  obtain ⟨p, ep⟩ : ∃ p, a + b = p := ⟨_, rfl⟩
  rw [ep] at hpn hps ⊢
  have HPN := Lib.hid hpn
  have HLP := Lib.hid hlp
  have HPS := Lib.hid hps
  have hx := Bx.start w 0 (.slice aa na ca) 0 (.slice ab nb cb)
  have HX0 := Lib.hid hx
  have hor : bits .or .i64 0 0 = 0 := by kernel_rfl
  clear ha hb hia hib hx hpn hlp hps ep h1 h2 h3 hsa hsb
  go_enter Try.func48, Try.ntmps48
  go_wp2_with fail
  refine (risb_any (HA.out.later HX0.out.below)).mono ?_
  rintro e w1 ⟨rfl, hb1⟩
  have HX1 := Lib.hid (HX0.out.later hb1)
  obtain ⟨c00, c01, c10, c11⟩ := HX1.out.cells
  clear hb1
  go_wp2_with fail
  refine (risb_any (HB.out.later HX1.out.below)).mono ?_
  rintro e w2 ⟨rfl, hb2⟩
  have HX2 := Lib.hid (HX1.out.later hb2)
  obtain ⟨d00, d01, d10, d11⟩ := HX2.out.cells
  clear hb2 c00 c01 c10 c11
  go_wp2_with fail
  have HXD := Lib.hid (HX2.out.heap (W' := w2.drew) rfl rfl rfl rfl)
  have e2 := HXD.out.cells
  clear d00 d01 d10 d11
  go_region_held3 (fun W => W.cell? ⟨w.heap.size, 0, none⟩ = some (.int .i64 0) ∧ W.cell? ⟨w.heap.size, 1, none⟩ = some (.slice aa na ca) ∧ W.cell? ⟨w.heap.size + 1, 0, none⟩ = some (.int .i64 0) ∧ W.cell? ⟨w.heap.size + 1, 1, none⟩ = some (.slice ab nb cb))
    (first | exact e2 | exact x3 | exact x4 | exact HX4.out.stays _ _)
    (first
      | (go_at_call 67; (with_reducible refine (rplus_n _ _ a.natAbs b.natAbs _ ?_ ?_ (Nat.le_trans hla (by decide)) (Nat.le_trans hlb (by decide))).mono ?_); (focus exact HIA.out.later HXD.out.below); (focus exact HIB.out.later HXD.out.below); rintro e w3 ⟨v3, rfl, ho3, hb3, hf3⟩; obtain ⟨ax, cx, rfl⟩ := ho3.fit; have HX3 := Lib.hid (HXD.out.later hb3); have x3 := HX3.out.cells; have HI3 := Lib.hid (ho3.ints (Nat.le_trans HLP.out (by decide))); clear ho3 hb3 hf3)
      | (go_at_call 60; (with_reducible refine (rmade_n _ ax cx _ p HPN.out HPS.out _ HI3.out (Nat.le_trans HLP.out (by decide))).mono ?_); rintro e w4 ⟨s4, rfl, hi4, hb4, ho4⟩; obtain ⟨a5, c5, rfl, hi5⟩ := hi4.open; have HO4 := Lib.hid (ho4.mono HX3.out.below.size); have HZ4 := Lib.hid (ho4.mono HX3.out.size); have HX4 := Lib.hid (HX3.out.later hb4); have x4 := HX4.out.cells; have HI5 := Lib.hid hi5; clear hi4 hi5 hb4 ho4; obtain ⟨r0, r1, f0, f1⟩ := HX4.out.rcells))
  go_wp2_with fail
  have hoff := HZ4.out (w.heap.size + 1 + 1) (by simp)
  exact bodyPost_ret (v := .tuple #[.agg #[.int .i64 p.sign, .slice a5 (digs p.natAbs).length c5], .int .i64 0]) (by simp [results, Try.results48, go_sem, r0, r1]) rfl
    ⟨_, rfl, (HI5.out.set hoff 0 _).set hoff 1 _, HX4.out.put _ _, HO4.out⟩

set_option maxHeartbeats 8000000 in
theorem radd_zp (aa ab : Option Addr) (na nb ca cb : Nat) (a b : Int) (w : World) (ha : IsB w (.agg #[.int .i64 0, .slice aa na ca]) a) (hb : IsB w (.agg #[.int .i64 1, .slice ab nb cb]) b) (hia : Ints w (.slice aa na ca) (digs a.natAbs)) (hib : Ints w (.slice ab nb cb) (digs b.natAbs)) (hla : (digs a.natAbs).length ≤ 100000) (hlb : (digs b.natAbs).length ≤ 100000) (hsa : a.sign = 0) (hsb : b.sign = 1) :
    Calls Try.prog 48 #[.agg #[.int .i64 0, .slice aa na ca], .agg #[.int .i64 1, .slice ab nb cb]] w (Ans (a + b) 0 w) := by
  have HA := Lib.hid ha
  have HB := Lib.hid hb
  have HIA := Lib.hid hia
  have HIB := Lib.hid hib
  have h1 := sgn_is a
  have h2 := sgn_is b
  have h3 := sgn_is (a + b)
  have hpn : (a + b).natAbs = a.natAbs + b.natAbs := by omega
  have hlp : (digs (a.natAbs + b.natAbs)).length ≤ 1000000 := by
    have := Sz.add ((Sz.of hla).mono (j := 100000) (by omega)) ((Sz.of hlb).mono (j := 100000) (by omega))
    unfold Sz at this
    rw [hpn] at this
    exact Nat.le_trans (digs_le this) (by omega)
  have hps : a + b ≠ 0 → (1 : Int) = (a + b).sign := by omega
  obtain ⟨p, ep⟩ : ∃ p, a + b = p := ⟨_, rfl⟩
  rw [ep] at hpn hps ⊢
  have HPN := Lib.hid hpn
  have HLP := Lib.hid hlp
  have HPS := Lib.hid hps
  have hx := Bx.start w 0 (.slice aa na ca) 1 (.slice ab nb cb)
  have HX0 := Lib.hid hx
  have hor : bits .or .i64 0 1 = 1 := by kernel_rfl
  clear ha hb hia hib hx hpn hlp hps ep h1 h2 h3 hsa hsb
  go_enter Try.func48, Try.ntmps48
  go_wp2_with fail
  refine (risb_any (HA.out.later HX0.out.below)).mono ?_
  rintro e w1 ⟨rfl, hb1⟩
  have HX1 := Lib.hid (HX0.out.later hb1)
  obtain ⟨c00, c01, c10, c11⟩ := HX1.out.cells
  clear hb1
  go_wp2_with fail
  refine (risb_any (HB.out.later HX1.out.below)).mono ?_
  rintro e w2 ⟨rfl, hb2⟩
  have HX2 := Lib.hid (HX1.out.later hb2)
  obtain ⟨d00, d01, d10, d11⟩ := HX2.out.cells
  clear hb2 c00 c01 c10 c11
  go_wp2_with fail
  have HXD := Lib.hid (HX2.out.heap (W' := w2.drew) rfl rfl rfl rfl)
  have e2 := HXD.out.cells
  clear d00 d01 d10 d11
  go_region_held3 (fun W => W.cell? ⟨w.heap.size, 0, none⟩ = some (.int .i64 0) ∧ W.cell? ⟨w.heap.size, 1, none⟩ = some (.slice aa na ca) ∧ W.cell? ⟨w.heap.size + 1, 0, none⟩ = some (.int .i64 1) ∧ W.cell? ⟨w.heap.size + 1, 1, none⟩ = some (.slice ab nb cb))
    (first | exact e2 | exact x3 | exact x4 | exact HX4.out.stays _ _)
    (first
      | (go_at_call 67; (with_reducible refine (rplus_n _ _ a.natAbs b.natAbs _ ?_ ?_ (Nat.le_trans hla (by decide)) (Nat.le_trans hlb (by decide))).mono ?_); (focus exact HIA.out.later HXD.out.below); (focus exact HIB.out.later HXD.out.below); rintro e w3 ⟨v3, rfl, ho3, hb3, hf3⟩; obtain ⟨ax, cx, rfl⟩ := ho3.fit; have HX3 := Lib.hid (HXD.out.later hb3); have x3 := HX3.out.cells; have HI3 := Lib.hid (ho3.ints (Nat.le_trans HLP.out (by decide))); clear ho3 hb3 hf3)
      | (go_at_call 60; (with_reducible refine (rmade_n _ ax cx _ p HPN.out HPS.out _ HI3.out (Nat.le_trans HLP.out (by decide))).mono ?_); rintro e w4 ⟨s4, rfl, hi4, hb4, ho4⟩; obtain ⟨a5, c5, rfl, hi5⟩ := hi4.open; have HO4 := Lib.hid (ho4.mono HX3.out.below.size); have HZ4 := Lib.hid (ho4.mono HX3.out.size); have HX4 := Lib.hid (HX3.out.later hb4); have x4 := HX4.out.cells; have HI5 := Lib.hid hi5; clear hi4 hi5 hb4 ho4; obtain ⟨r0, r1, f0, f1⟩ := HX4.out.rcells))
  go_wp2_with fail
  have hoff := HZ4.out (w.heap.size + 1 + 1) (by simp)
  exact bodyPost_ret (v := .tuple #[.agg #[.int .i64 p.sign, .slice a5 (digs p.natAbs).length c5], .int .i64 0]) (by simp [results, Try.results48, go_sem, r0, r1]) rfl
    ⟨_, rfl, (HI5.out.set hoff 0 _).set hoff 1 _, HX4.out.put _ _, HO4.out⟩

set_option maxHeartbeats 8000000 in
theorem radd_zm (aa ab : Option Addr) (na nb ca cb : Nat) (a b : Int) (w : World) (ha : IsB w (.agg #[.int .i64 0, .slice aa na ca]) a) (hb : IsB w (.agg #[.int .i64 (-1), .slice ab nb cb]) b) (hia : Ints w (.slice aa na ca) (digs a.natAbs)) (hib : Ints w (.slice ab nb cb) (digs b.natAbs)) (hla : (digs a.natAbs).length ≤ 100000) (hlb : (digs b.natAbs).length ≤ 100000) (hsa : a.sign = 0) (hsb : b.sign = -1) :
    Calls Try.prog 48 #[.agg #[.int .i64 0, .slice aa na ca], .agg #[.int .i64 (-1), .slice ab nb cb]] w (Ans (a + b) 0 w) := by
  have HA := Lib.hid ha
  have HB := Lib.hid hb
  have HIA := Lib.hid hia
  have HIB := Lib.hid hib
  have h1 := sgn_is a
  have h2 := sgn_is b
  have h3 := sgn_is (a + b)
  have hpn : (a + b).natAbs = a.natAbs + b.natAbs := by omega
  have hlp : (digs (a.natAbs + b.natAbs)).length ≤ 1000000 := by
    have := Sz.add ((Sz.of hla).mono (j := 100000) (by omega)) ((Sz.of hlb).mono (j := 100000) (by omega))
    unfold Sz at this
    rw [hpn] at this
    exact Nat.le_trans (digs_le this) (by omega)
  have hps : a + b ≠ 0 → ((-1) : Int) = (a + b).sign := by omega
  obtain ⟨p, ep⟩ : ∃ p, a + b = p := ⟨_, rfl⟩
  rw [ep] at hpn hps ⊢
  have HPN := Lib.hid hpn
  have HLP := Lib.hid hlp
  have HPS := Lib.hid hps
  have hx := Bx.start w 0 (.slice aa na ca) (-1) (.slice ab nb cb)
  have HX0 := Lib.hid hx
  have hor : bits .or .i64 0 (-1) = (-1) := by kernel_rfl
  clear ha hb hia hib hx hpn hlp hps ep h1 h2 h3 hsa hsb
  go_enter Try.func48, Try.ntmps48
  go_wp2_with fail
  refine (risb_any (HA.out.later HX0.out.below)).mono ?_
  rintro e w1 ⟨rfl, hb1⟩
  have HX1 := Lib.hid (HX0.out.later hb1)
  obtain ⟨c00, c01, c10, c11⟩ := HX1.out.cells
  clear hb1
  go_wp2_with fail
  refine (risb_any (HB.out.later HX1.out.below)).mono ?_
  rintro e w2 ⟨rfl, hb2⟩
  have HX2 := Lib.hid (HX1.out.later hb2)
  obtain ⟨d00, d01, d10, d11⟩ := HX2.out.cells
  clear hb2 c00 c01 c10 c11
  go_wp2_with fail
  have HXD := Lib.hid (HX2.out.heap (W' := w2.drew) rfl rfl rfl rfl)
  have e2 := HXD.out.cells
  clear d00 d01 d10 d11
  go_region_held3 (fun W => W.cell? ⟨w.heap.size, 0, none⟩ = some (.int .i64 0) ∧ W.cell? ⟨w.heap.size, 1, none⟩ = some (.slice aa na ca) ∧ W.cell? ⟨w.heap.size + 1, 0, none⟩ = some (.int .i64 (-1)) ∧ W.cell? ⟨w.heap.size + 1, 1, none⟩ = some (.slice ab nb cb))
    (first | exact e2 | exact x3 | exact x4 | exact HX4.out.stays _ _)
    (first
      | (go_at_call 67; (with_reducible refine (rplus_n _ _ a.natAbs b.natAbs _ ?_ ?_ (Nat.le_trans hla (by decide)) (Nat.le_trans hlb (by decide))).mono ?_); (focus exact HIA.out.later HXD.out.below); (focus exact HIB.out.later HXD.out.below); rintro e w3 ⟨v3, rfl, ho3, hb3, hf3⟩; obtain ⟨ax, cx, rfl⟩ := ho3.fit; have HX3 := Lib.hid (HXD.out.later hb3); have x3 := HX3.out.cells; have HI3 := Lib.hid (ho3.ints (Nat.le_trans HLP.out (by decide))); clear ho3 hb3 hf3)
      | (go_at_call 60; (with_reducible refine (rmade_n _ ax cx _ p HPN.out HPS.out _ HI3.out (Nat.le_trans HLP.out (by decide))).mono ?_); rintro e w4 ⟨s4, rfl, hi4, hb4, ho4⟩; obtain ⟨a5, c5, rfl, hi5⟩ := hi4.open; have HO4 := Lib.hid (ho4.mono HX3.out.below.size); have HZ4 := Lib.hid (ho4.mono HX3.out.size); have HX4 := Lib.hid (HX3.out.later hb4); have x4 := HX4.out.cells; have HI5 := Lib.hid hi5; clear hi4 hi5 hb4 ho4; obtain ⟨r0, r1, f0, f1⟩ := HX4.out.rcells))
  go_wp2_with fail
  have hoff := HZ4.out (w.heap.size + 1 + 1) (by simp)
  exact bodyPost_ret (v := .tuple #[.agg #[.int .i64 p.sign, .slice a5 (digs p.natAbs).length c5], .int .i64 0]) (by simp [results, Try.results48, go_sem, r0, r1]) rfl
    ⟨_, rfl, (HI5.out.set hoff 0 _).set hoff 1 _, HX4.out.put _ _, HO4.out⟩

set_option maxHeartbeats 8000000 in
theorem radd_pz (aa ab : Option Addr) (na nb ca cb : Nat) (a b : Int) (w : World) (ha : IsB w (.agg #[.int .i64 1, .slice aa na ca]) a) (hb : IsB w (.agg #[.int .i64 0, .slice ab nb cb]) b) (hia : Ints w (.slice aa na ca) (digs a.natAbs)) (hib : Ints w (.slice ab nb cb) (digs b.natAbs)) (hla : (digs a.natAbs).length ≤ 100000) (hlb : (digs b.natAbs).length ≤ 100000) (hsa : a.sign = 1) (hsb : b.sign = 0) :
    Calls Try.prog 48 #[.agg #[.int .i64 1, .slice aa na ca], .agg #[.int .i64 0, .slice ab nb cb]] w (Ans (a + b) 0 w) := by
  have HA := Lib.hid ha
  have HB := Lib.hid hb
  have HIA := Lib.hid hia
  have HIB := Lib.hid hib
  have h1 := sgn_is a
  have h2 := sgn_is b
  have h3 := sgn_is (a + b)
  have hpn : (a + b).natAbs = a.natAbs + b.natAbs := by omega
  have hlp : (digs (a.natAbs + b.natAbs)).length ≤ 1000000 := by
    have := Sz.add ((Sz.of hla).mono (j := 100000) (by omega)) ((Sz.of hlb).mono (j := 100000) (by omega))
    unfold Sz at this
    rw [hpn] at this
    exact Nat.le_trans (digs_le this) (by omega)
  have hps : a + b ≠ 0 → (1 : Int) = (a + b).sign := by omega
  obtain ⟨p, ep⟩ : ∃ p, a + b = p := ⟨_, rfl⟩
  rw [ep] at hpn hps ⊢
  have HPN := Lib.hid hpn
  have HLP := Lib.hid hlp
  have HPS := Lib.hid hps
  have hx := Bx.start w 1 (.slice aa na ca) 0 (.slice ab nb cb)
  have HX0 := Lib.hid hx
  have hor : bits .or .i64 1 0 = 1 := by kernel_rfl
  clear ha hb hia hib hx hpn hlp hps ep h1 h2 h3 hsa hsb
  go_enter Try.func48, Try.ntmps48
  go_wp2_with fail
  refine (risb_any (HA.out.later HX0.out.below)).mono ?_
  rintro e w1 ⟨rfl, hb1⟩
  have HX1 := Lib.hid (HX0.out.later hb1)
  obtain ⟨c00, c01, c10, c11⟩ := HX1.out.cells
  clear hb1
  go_wp2_with fail
  refine (risb_any (HB.out.later HX1.out.below)).mono ?_
  rintro e w2 ⟨rfl, hb2⟩
  have HX2 := Lib.hid (HX1.out.later hb2)
  obtain ⟨d00, d01, d10, d11⟩ := HX2.out.cells
  clear hb2 c00 c01 c10 c11
  go_wp2_with fail
  have HXD := Lib.hid (HX2.out.heap (W' := w2.drew) rfl rfl rfl rfl)
  have e2 := HXD.out.cells
  clear d00 d01 d10 d11
  go_region_held3 (fun W => W.cell? ⟨w.heap.size, 0, none⟩ = some (.int .i64 1) ∧ W.cell? ⟨w.heap.size, 1, none⟩ = some (.slice aa na ca) ∧ W.cell? ⟨w.heap.size + 1, 0, none⟩ = some (.int .i64 0) ∧ W.cell? ⟨w.heap.size + 1, 1, none⟩ = some (.slice ab nb cb))
    (first | exact e2 | exact x3 | exact x4 | exact HX4.out.stays _ _)
    (first
      | (go_at_call 67; (with_reducible refine (rplus_n _ _ a.natAbs b.natAbs _ ?_ ?_ (Nat.le_trans hla (by decide)) (Nat.le_trans hlb (by decide))).mono ?_); (focus exact HIA.out.later HXD.out.below); (focus exact HIB.out.later HXD.out.below); rintro e w3 ⟨v3, rfl, ho3, hb3, hf3⟩; obtain ⟨ax, cx, rfl⟩ := ho3.fit; have HX3 := Lib.hid (HXD.out.later hb3); have x3 := HX3.out.cells; have HI3 := Lib.hid (ho3.ints (Nat.le_trans HLP.out (by decide))); clear ho3 hb3 hf3)
      | (go_at_call 60; (with_reducible refine (rmade_n _ ax cx _ p HPN.out HPS.out _ HI3.out (Nat.le_trans HLP.out (by decide))).mono ?_); rintro e w4 ⟨s4, rfl, hi4, hb4, ho4⟩; obtain ⟨a5, c5, rfl, hi5⟩ := hi4.open; have HO4 := Lib.hid (ho4.mono HX3.out.below.size); have HZ4 := Lib.hid (ho4.mono HX3.out.size); have HX4 := Lib.hid (HX3.out.later hb4); have x4 := HX4.out.cells; have HI5 := Lib.hid hi5; clear hi4 hi5 hb4 ho4; obtain ⟨r0, r1, f0, f1⟩ := HX4.out.rcells))
  go_wp2_with fail
  have hoff := HZ4.out (w.heap.size + 1 + 1) (by simp)
  exact bodyPost_ret (v := .tuple #[.agg #[.int .i64 p.sign, .slice a5 (digs p.natAbs).length c5], .int .i64 0]) (by simp [results, Try.results48, go_sem, r0, r1]) rfl
    ⟨_, rfl, (HI5.out.set hoff 0 _).set hoff 1 _, HX4.out.put _ _, HO4.out⟩

set_option maxHeartbeats 8000000 in
theorem radd_mz (aa ab : Option Addr) (na nb ca cb : Nat) (a b : Int) (w : World) (ha : IsB w (.agg #[.int .i64 (-1), .slice aa na ca]) a) (hb : IsB w (.agg #[.int .i64 0, .slice ab nb cb]) b) (hia : Ints w (.slice aa na ca) (digs a.natAbs)) (hib : Ints w (.slice ab nb cb) (digs b.natAbs)) (hla : (digs a.natAbs).length ≤ 100000) (hlb : (digs b.natAbs).length ≤ 100000) (hsa : a.sign = -1) (hsb : b.sign = 0) :
    Calls Try.prog 48 #[.agg #[.int .i64 (-1), .slice aa na ca], .agg #[.int .i64 0, .slice ab nb cb]] w (Ans (a + b) 0 w) := by
  have HA := Lib.hid ha
  have HB := Lib.hid hb
  have HIA := Lib.hid hia
  have HIB := Lib.hid hib
  have h1 := sgn_is a
  have h2 := sgn_is b
  have h3 := sgn_is (a + b)
  have hpn : (a + b).natAbs = a.natAbs + b.natAbs := by omega
  have hlp : (digs (a.natAbs + b.natAbs)).length ≤ 1000000 := by
    have := Sz.add ((Sz.of hla).mono (j := 100000) (by omega)) ((Sz.of hlb).mono (j := 100000) (by omega))
    unfold Sz at this
    rw [hpn] at this
    exact Nat.le_trans (digs_le this) (by omega)
  have hps : a + b ≠ 0 → ((-1) : Int) = (a + b).sign := by omega
  obtain ⟨p, ep⟩ : ∃ p, a + b = p := ⟨_, rfl⟩
  rw [ep] at hpn hps ⊢
  have HPN := Lib.hid hpn
  have HLP := Lib.hid hlp
  have HPS := Lib.hid hps
  have hx := Bx.start w (-1) (.slice aa na ca) 0 (.slice ab nb cb)
  have HX0 := Lib.hid hx
  have hor : bits .or .i64 (-1) 0 = (-1) := by kernel_rfl
  clear ha hb hia hib hx hpn hlp hps ep h1 h2 h3 hsa hsb
  go_enter Try.func48, Try.ntmps48
  go_wp2_with fail
  refine (risb_any (HA.out.later HX0.out.below)).mono ?_
  rintro e w1 ⟨rfl, hb1⟩
  have HX1 := Lib.hid (HX0.out.later hb1)
  obtain ⟨c00, c01, c10, c11⟩ := HX1.out.cells
  clear hb1
  go_wp2_with fail
  refine (risb_any (HB.out.later HX1.out.below)).mono ?_
  rintro e w2 ⟨rfl, hb2⟩
  have HX2 := Lib.hid (HX1.out.later hb2)
  obtain ⟨d00, d01, d10, d11⟩ := HX2.out.cells
  clear hb2 c00 c01 c10 c11
  go_wp2_with fail
  have HXD := Lib.hid (HX2.out.heap (W' := w2.drew) rfl rfl rfl rfl)
  have e2 := HXD.out.cells
  clear d00 d01 d10 d11
  go_region_held3 (fun W => W.cell? ⟨w.heap.size, 0, none⟩ = some (.int .i64 (-1)) ∧ W.cell? ⟨w.heap.size, 1, none⟩ = some (.slice aa na ca) ∧ W.cell? ⟨w.heap.size + 1, 0, none⟩ = some (.int .i64 0) ∧ W.cell? ⟨w.heap.size + 1, 1, none⟩ = some (.slice ab nb cb))
    (first | exact e2 | exact x3 | exact x4 | exact HX4.out.stays _ _)
    (first
      | (go_at_call 67; (with_reducible refine (rplus_n _ _ a.natAbs b.natAbs _ ?_ ?_ (Nat.le_trans hla (by decide)) (Nat.le_trans hlb (by decide))).mono ?_); (focus exact HIA.out.later HXD.out.below); (focus exact HIB.out.later HXD.out.below); rintro e w3 ⟨v3, rfl, ho3, hb3, hf3⟩; obtain ⟨ax, cx, rfl⟩ := ho3.fit; have HX3 := Lib.hid (HXD.out.later hb3); have x3 := HX3.out.cells; have HI3 := Lib.hid (ho3.ints (Nat.le_trans HLP.out (by decide))); clear ho3 hb3 hf3)
      | (go_at_call 60; (with_reducible refine (rmade_n _ ax cx _ p HPN.out HPS.out _ HI3.out (Nat.le_trans HLP.out (by decide))).mono ?_); rintro e w4 ⟨s4, rfl, hi4, hb4, ho4⟩; obtain ⟨a5, c5, rfl, hi5⟩ := hi4.open; have HO4 := Lib.hid (ho4.mono HX3.out.below.size); have HZ4 := Lib.hid (ho4.mono HX3.out.size); have HX4 := Lib.hid (HX3.out.later hb4); have x4 := HX4.out.cells; have HI5 := Lib.hid hi5; clear hi4 hi5 hb4 ho4; obtain ⟨r0, r1, f0, f1⟩ := HX4.out.rcells))
  go_wp2_with fail
  have hoff := HZ4.out (w.heap.size + 1 + 1) (by simp)
  exact bodyPost_ret (v := .tuple #[.agg #[.int .i64 p.sign, .slice a5 (digs p.natAbs).length c5], .int .i64 0]) (by simp [results, Try.results48, go_sem, r0, r1]) rfl
    ⟨_, rfl, (HI5.out.set hoff 0 _).set hoff 1 _, HX4.out.put _ _, HO4.out⟩

set_option maxHeartbeats 8000000 in
theorem radd_pp (aa ab : Option Addr) (na nb ca cb : Nat) (a b : Int) (w : World) (ha : IsB w (.agg #[.int .i64 1, .slice aa na ca]) a) (hb : IsB w (.agg #[.int .i64 1, .slice ab nb cb]) b) (hia : Ints w (.slice aa na ca) (digs a.natAbs)) (hib : Ints w (.slice ab nb cb) (digs b.natAbs)) (hla : (digs a.natAbs).length ≤ 100000) (hlb : (digs b.natAbs).length ≤ 100000) (hsa : a.sign = 1) (hsb : b.sign = 1) :
    Calls Try.prog 48 #[.agg #[.int .i64 1, .slice aa na ca], .agg #[.int .i64 1, .slice ab nb cb]] w (Ans (a + b) 0 w) := by
  have HA := Lib.hid ha
  have HB := Lib.hid hb
  have HIA := Lib.hid hia
  have HIB := Lib.hid hib
  have h1 := sgn_is a
  have h2 := sgn_is b
  have h3 := sgn_is (a + b)
  have hpn : (a + b).natAbs = a.natAbs + b.natAbs := by omega
  have hlp : (digs (a.natAbs + b.natAbs)).length ≤ 1000000 := by
    have := Sz.add ((Sz.of hla).mono (j := 100000) (by omega)) ((Sz.of hlb).mono (j := 100000) (by omega))
    unfold Sz at this
    rw [hpn] at this
    exact Nat.le_trans (digs_le this) (by omega)
  have hps : a + b ≠ 0 → (1 : Int) = (a + b).sign := by omega
  obtain ⟨p, ep⟩ : ∃ p, a + b = p := ⟨_, rfl⟩
  rw [ep] at hpn hps ⊢
  have HPN := Lib.hid hpn
  have HLP := Lib.hid hlp
  have HPS := Lib.hid hps
  have hx := Bx.start w 1 (.slice aa na ca) 1 (.slice ab nb cb)
  have HX0 := Lib.hid hx
  have hor : bits .or .i64 1 1 = 1 := by kernel_rfl
  clear ha hb hia hib hx hpn hlp hps ep h1 h2 h3 hsa hsb
  go_enter Try.func48, Try.ntmps48
  go_wp2_with fail
  refine (risb_any (HA.out.later HX0.out.below)).mono ?_
  rintro e w1 ⟨rfl, hb1⟩
  have HX1 := Lib.hid (HX0.out.later hb1)
  obtain ⟨c00, c01, c10, c11⟩ := HX1.out.cells
  clear hb1
  go_wp2_with fail
  refine (risb_any (HB.out.later HX1.out.below)).mono ?_
  rintro e w2 ⟨rfl, hb2⟩
  have HX2 := Lib.hid (HX1.out.later hb2)
  obtain ⟨d00, d01, d10, d11⟩ := HX2.out.cells
  clear hb2 c00 c01 c10 c11
  go_wp2_with fail
  have HXD := Lib.hid (HX2.out.heap (W' := w2.drew) rfl rfl rfl rfl)
  have e2 := HXD.out.cells
  clear d00 d01 d10 d11
  go_region_held3 (fun W => W.cell? ⟨w.heap.size, 0, none⟩ = some (.int .i64 1) ∧ W.cell? ⟨w.heap.size, 1, none⟩ = some (.slice aa na ca) ∧ W.cell? ⟨w.heap.size + 1, 0, none⟩ = some (.int .i64 1) ∧ W.cell? ⟨w.heap.size + 1, 1, none⟩ = some (.slice ab nb cb))
    (first | exact e2 | exact x3 | exact x4 | exact HX4.out.stays _ _)
    (first
      | (go_at_call 67; (with_reducible refine (rplus_n _ _ a.natAbs b.natAbs _ ?_ ?_ (Nat.le_trans hla (by decide)) (Nat.le_trans hlb (by decide))).mono ?_); (focus exact HIA.out.later HXD.out.below); (focus exact HIB.out.later HXD.out.below); rintro e w3 ⟨v3, rfl, ho3, hb3, hf3⟩; obtain ⟨ax, cx, rfl⟩ := ho3.fit; have HX3 := Lib.hid (HXD.out.later hb3); have x3 := HX3.out.cells; have HI3 := Lib.hid (ho3.ints (Nat.le_trans HLP.out (by decide))); clear ho3 hb3 hf3)
      | (go_at_call 60; (with_reducible refine (rmade_n _ ax cx _ p HPN.out HPS.out _ HI3.out (Nat.le_trans HLP.out (by decide))).mono ?_); rintro e w4 ⟨s4, rfl, hi4, hb4, ho4⟩; obtain ⟨a5, c5, rfl, hi5⟩ := hi4.open; have HO4 := Lib.hid (ho4.mono HX3.out.below.size); have HZ4 := Lib.hid (ho4.mono HX3.out.size); have HX4 := Lib.hid (HX3.out.later hb4); have x4 := HX4.out.cells; have HI5 := Lib.hid hi5; clear hi4 hi5 hb4 ho4; obtain ⟨r0, r1, f0, f1⟩ := HX4.out.rcells))
  go_wp2_with fail
  have hoff := HZ4.out (w.heap.size + 1 + 1) (by simp)
  exact bodyPost_ret (v := .tuple #[.agg #[.int .i64 p.sign, .slice a5 (digs p.natAbs).length c5], .int .i64 0]) (by simp [results, Try.results48, go_sem, r0, r1]) rfl
    ⟨_, rfl, (HI5.out.set hoff 0 _).set hoff 1 _, HX4.out.put _ _, HO4.out⟩

set_option maxHeartbeats 8000000 in
theorem radd_mm (aa ab : Option Addr) (na nb ca cb : Nat) (a b : Int) (w : World) (ha : IsB w (.agg #[.int .i64 (-1), .slice aa na ca]) a) (hb : IsB w (.agg #[.int .i64 (-1), .slice ab nb cb]) b) (hia : Ints w (.slice aa na ca) (digs a.natAbs)) (hib : Ints w (.slice ab nb cb) (digs b.natAbs)) (hla : (digs a.natAbs).length ≤ 100000) (hlb : (digs b.natAbs).length ≤ 100000) (hsa : a.sign = -1) (hsb : b.sign = -1) :
    Calls Try.prog 48 #[.agg #[.int .i64 (-1), .slice aa na ca], .agg #[.int .i64 (-1), .slice ab nb cb]] w (Ans (a + b) 0 w) := by
  have HA := Lib.hid ha
  have HB := Lib.hid hb
  have HIA := Lib.hid hia
  have HIB := Lib.hid hib
  have h1 := sgn_is a
  have h2 := sgn_is b
  have h3 := sgn_is (a + b)
  have hpn : (a + b).natAbs = a.natAbs + b.natAbs := by omega
  have hlp : (digs (a.natAbs + b.natAbs)).length ≤ 1000000 := by
    have := Sz.add ((Sz.of hla).mono (j := 100000) (by omega)) ((Sz.of hlb).mono (j := 100000) (by omega))
    unfold Sz at this
    rw [hpn] at this
    exact Nat.le_trans (digs_le this) (by omega)
  have hps : a + b ≠ 0 → ((-1) : Int) = (a + b).sign := by omega
  obtain ⟨p, ep⟩ : ∃ p, a + b = p := ⟨_, rfl⟩
  rw [ep] at hpn hps ⊢
  have HPN := Lib.hid hpn
  have HLP := Lib.hid hlp
  have HPS := Lib.hid hps
  have hx := Bx.start w (-1) (.slice aa na ca) (-1) (.slice ab nb cb)
  have HX0 := Lib.hid hx
  have hor : bits .or .i64 (-1) (-1) = (-1) := by kernel_rfl
  clear ha hb hia hib hx hpn hlp hps ep h1 h2 h3 hsa hsb
  go_enter Try.func48, Try.ntmps48
  go_wp2_with fail
  refine (risb_any (HA.out.later HX0.out.below)).mono ?_
  rintro e w1 ⟨rfl, hb1⟩
  have HX1 := Lib.hid (HX0.out.later hb1)
  obtain ⟨c00, c01, c10, c11⟩ := HX1.out.cells
  clear hb1
  go_wp2_with fail
  refine (risb_any (HB.out.later HX1.out.below)).mono ?_
  rintro e w2 ⟨rfl, hb2⟩
  have HX2 := Lib.hid (HX1.out.later hb2)
  obtain ⟨d00, d01, d10, d11⟩ := HX2.out.cells
  clear hb2 c00 c01 c10 c11
  go_wp2_with fail
  have HXD := Lib.hid (HX2.out.heap (W' := w2.drew) rfl rfl rfl rfl)
  have e2 := HXD.out.cells
  clear d00 d01 d10 d11
  go_region_held3 (fun W => W.cell? ⟨w.heap.size, 0, none⟩ = some (.int .i64 (-1)) ∧ W.cell? ⟨w.heap.size, 1, none⟩ = some (.slice aa na ca) ∧ W.cell? ⟨w.heap.size + 1, 0, none⟩ = some (.int .i64 (-1)) ∧ W.cell? ⟨w.heap.size + 1, 1, none⟩ = some (.slice ab nb cb))
    (first | exact e2 | exact x3 | exact x4 | exact HX4.out.stays _ _)
    (first
      | (go_at_call 67; (with_reducible refine (rplus_n _ _ a.natAbs b.natAbs _ ?_ ?_ (Nat.le_trans hla (by decide)) (Nat.le_trans hlb (by decide))).mono ?_); (focus exact HIA.out.later HXD.out.below); (focus exact HIB.out.later HXD.out.below); rintro e w3 ⟨v3, rfl, ho3, hb3, hf3⟩; obtain ⟨ax, cx, rfl⟩ := ho3.fit; have HX3 := Lib.hid (HXD.out.later hb3); have x3 := HX3.out.cells; have HI3 := Lib.hid (ho3.ints (Nat.le_trans HLP.out (by decide))); clear ho3 hb3 hf3)
      | (go_at_call 60; (with_reducible refine (rmade_n _ ax cx _ p HPN.out HPS.out _ HI3.out (Nat.le_trans HLP.out (by decide))).mono ?_); rintro e w4 ⟨s4, rfl, hi4, hb4, ho4⟩; obtain ⟨a5, c5, rfl, hi5⟩ := hi4.open; have HO4 := Lib.hid (ho4.mono HX3.out.below.size); have HZ4 := Lib.hid (ho4.mono HX3.out.size); have HX4 := Lib.hid (HX3.out.later hb4); have x4 := HX4.out.cells; have HI5 := Lib.hid hi5; clear hi4 hi5 hb4 ho4; obtain ⟨r0, r1, f0, f1⟩ := HX4.out.rcells))
  go_wp2_with fail
  have hoff := HZ4.out (w.heap.size + 1 + 1) (by simp)
  exact bodyPost_ret (v := .tuple #[.agg #[.int .i64 p.sign, .slice a5 (digs p.natAbs).length c5], .int .i64 0]) (by simp [results, Try.results48, go_sem, r0, r1]) rfl
    ⟨_, rfl, (HI5.out.set hoff 0 _).set hoff 1 _, HX4.out.put _ _, HO4.out⟩

set_option maxHeartbeats 8000000 in
theorem radd_pm (aa ab : Option Addr) (na nb ca cb : Nat) (a b : Int) (w : World) (ha : IsB w (.agg #[.int .i64 1, .slice aa na ca]) a) (hb : IsB w (.agg #[.int .i64 (-1), .slice ab nb cb]) b) (hia : Ints w (.slice aa na ca) (digs a.natAbs)) (hib : Ints w (.slice ab nb cb) (digs b.natAbs)) (hla : (digs a.natAbs).length ≤ 100000) (hlb : (digs b.natAbs).length ≤ 100000) (hsa : a.sign = 1) (hsb : b.sign = -1) :
    Calls Try.prog 48 #[.agg #[.int .i64 1, .slice aa na ca], .agg #[.int .i64 (-1), .slice ab nb cb]] w (Ans (a + b) 0 w) := by
  have HA := Lib.hid ha
  have HB := Lib.hid hb
  have HIA := Lib.hid hia
  have HIB := Lib.hid hib
  have h1 := sgn_is a
  have h2 := sgn_is b
  have h3 := sgn_is (a + b)
  have hx := Bx.start w 1 (.slice aa na ca) (-1) (.slice ab nb cb)
  have HX0 := Lib.hid hx
  have hlp : ∀ n m : Nat, (digs n).length ≤ 100000 → (digs (n - m)).length ≤ 1000000 := fun n m h => by
    have h1 := digs_lt n
    have h2 := P_le h
    exact Nat.le_trans (digs_le (k := 100000) (by omega)) (by omega)
  by_cases hlt : a.natAbs < b.natAbs
  · have hdt : decide (a.natAbs < b.natAbs) = true := by simpa using hlt
    have hpn : (a + b).natAbs = b.natAbs - a.natAbs := by omega
    have hps : a + b ≠ 0 → ((-1) : Int) = (a + b).sign := by omega
    have HLP := Lib.hid (hlp b.natAbs a.natAbs hlb)
    obtain ⟨p, ep⟩ : ∃ p, a + b = p := ⟨_, rfl⟩
    rw [ep] at hpn hps ⊢
    have HPN := Lib.hid hpn
    have HPS := Lib.hid hps
    have HLE := Lib.hid (Nat.le_of_lt hlt)
    have HLESS := fun W h1 h2 => rless_n (.slice aa na ca) (.slice ab nb cb) a.natAbs b.natAbs W h1 h2
    rw [hdt] at HLESS
    have HLS := Lib.hid HLESS
    clear ha hb hia hib hx hpn hlp hps ep h1 h2 h3 hsa hsb hlt hdt HLESS
    go_enter Try.func48, Try.ntmps48
    go_wp2_with fail
    refine (risb_any (HA.out.later HX0.out.below)).mono ?_
    rintro e w1 ⟨rfl, hb1⟩
    have HX1 := Lib.hid (HX0.out.later hb1)
    obtain ⟨c00, c01, c10, c11⟩ := HX1.out.cells
    clear hb1
    go_wp2_with fail
    refine (risb_any (HB.out.later HX1.out.below)).mono ?_
    rintro e w2 ⟨rfl, hb2⟩
    have HX2 := Lib.hid (HX1.out.later hb2)
    obtain ⟨d00, d01, d10, d11⟩ := HX2.out.cells
    clear hb2 c00 c01 c10 c11
    go_wp2_with fail
    refine (HLS.out _ (HIA.out.later HX2.out.below) (HIB.out.later HX2.out.below)).mono ?_
    rintro e w2' ⟨rfl, rfl⟩
    go_wp2_with fail
    have HXD := Lib.hid (HX2.out.heap (W' := w2.drew) rfl rfl rfl rfl)
    have e2 := HXD.out.cells
    clear d00 d01 d10 d11
    go_region_held3 (fun W => W.cell? ⟨w.heap.size, 0, none⟩ = some (.int .i64 1) ∧ W.cell? ⟨w.heap.size, 1, none⟩ = some (.slice aa na ca) ∧ W.cell? ⟨w.heap.size + 1, 0, none⟩ = some (.int .i64 (-1)) ∧ W.cell? ⟨w.heap.size + 1, 1, none⟩ = some (.slice ab nb cb))
      (first | exact e2 | exact x3 | exact x4 | exact HX4.out.stays _ _)
      (first
        | (go_at_call 68; (with_reducible refine (rminus_n _ _ b.natAbs a.natAbs HLE.out _ ?_ ?_ (Nat.le_trans hlb (by decide))).mono ?_); (focus exact HIB.out.later HXD.out.below); (focus exact HIA.out.later HXD.out.below); rintro e w3 ⟨v3, rfl, ho3, hb3, hf3⟩; obtain ⟨ax, cx, rfl⟩ := ho3.fit; have HX3 := Lib.hid (HXD.out.later hb3); have x3 := HX3.out.cells; have HI3 := Lib.hid (ho3.ints (Nat.le_trans HLP.out (by decide))); clear ho3 hb3 hf3)
        | (go_at_call 60; (with_reducible refine (rmade_n _ ax cx _ p HPN.out HPS.out _ HI3.out (Nat.le_trans HLP.out (by decide))).mono ?_); rintro e w4 ⟨s4, rfl, hi4, hb4, ho4⟩; obtain ⟨a5, c5, rfl, hi5⟩ := hi4.open; have HO4 := Lib.hid (ho4.mono HX3.out.below.size); have HZ4 := Lib.hid (ho4.mono HX3.out.size); have HX4 := Lib.hid (HX3.out.later hb4); have x4 := HX4.out.cells; have HI5 := Lib.hid hi5; clear hi4 hi5 hb4 ho4; obtain ⟨r0, r1, f0, f1⟩ := HX4.out.rcells))
    go_wp2_with fail
    have hoff := HZ4.out (w.heap.size + 1 + 1) (by simp)
    exact bodyPost_ret (v := .tuple #[.agg #[.int .i64 p.sign, .slice a5 (digs p.natAbs).length c5], .int .i64 0]) (by simp [results, Try.results48, go_sem, r0, r1]) rfl
      ⟨_, rfl, (HI5.out.set hoff 0 _).set hoff 1 _, HX4.out.put _ _, HO4.out⟩
  · have hdt : decide (a.natAbs < b.natAbs) = false := by simpa using hlt
    have hpn : (a + b).natAbs = a.natAbs - b.natAbs := by omega
    have hps : a + b ≠ 0 → (1 : Int) = (a + b).sign := by omega
    have HLP := Lib.hid (hlp a.natAbs b.natAbs hla)
    obtain ⟨p, ep⟩ : ∃ p, a + b = p := ⟨_, rfl⟩
    rw [ep] at hpn hps ⊢
    have HPN := Lib.hid hpn
    have HPS := Lib.hid hps
    have HLE := Lib.hid (Nat.le_of_not_lt hlt)
    have HLESS := fun W h1 h2 => rless_n (.slice aa na ca) (.slice ab nb cb) a.natAbs b.natAbs W h1 h2
    rw [hdt] at HLESS
    have HLS := Lib.hid HLESS
    clear ha hb hia hib hx hpn hlp hps ep h1 h2 h3 hsa hsb hlt hdt HLESS
    go_enter Try.func48, Try.ntmps48
    go_wp2_with fail
    refine (risb_any (HA.out.later HX0.out.below)).mono ?_
    rintro e w1 ⟨rfl, hb1⟩
    have HX1 := Lib.hid (HX0.out.later hb1)
    obtain ⟨c00, c01, c10, c11⟩ := HX1.out.cells
    clear hb1
    go_wp2_with fail
    refine (risb_any (HB.out.later HX1.out.below)).mono ?_
    rintro e w2 ⟨rfl, hb2⟩
    have HX2 := Lib.hid (HX1.out.later hb2)
    obtain ⟨d00, d01, d10, d11⟩ := HX2.out.cells
    clear hb2 c00 c01 c10 c11
    go_wp2_with fail
    refine (HLS.out _ (HIA.out.later HX2.out.below) (HIB.out.later HX2.out.below)).mono ?_
    rintro e w2' ⟨rfl, rfl⟩
    go_wp2_with fail
    have HXD := Lib.hid (HX2.out.heap (W' := w2.drew) rfl rfl rfl rfl)
    have e2 := HXD.out.cells
    clear d00 d01 d10 d11
    go_region_held3 (fun W => W.cell? ⟨w.heap.size, 0, none⟩ = some (.int .i64 1) ∧ W.cell? ⟨w.heap.size, 1, none⟩ = some (.slice aa na ca) ∧ W.cell? ⟨w.heap.size + 1, 0, none⟩ = some (.int .i64 (-1)) ∧ W.cell? ⟨w.heap.size + 1, 1, none⟩ = some (.slice ab nb cb))
      (first | exact e2 | exact x3 | exact x4 | exact HX4.out.stays _ _)
      (first
        | (go_at_call 68; (with_reducible refine (rminus_n _ _ a.natAbs b.natAbs HLE.out _ ?_ ?_ (Nat.le_trans hla (by decide))).mono ?_); (focus exact HIA.out.later HXD.out.below); (focus exact HIB.out.later HXD.out.below); rintro e w3 ⟨v3, rfl, ho3, hb3, hf3⟩; obtain ⟨ax, cx, rfl⟩ := ho3.fit; have HX3 := Lib.hid (HXD.out.later hb3); have x3 := HX3.out.cells; have HI3 := Lib.hid (ho3.ints (Nat.le_trans HLP.out (by decide))); clear ho3 hb3 hf3)
        | (go_at_call 60; (with_reducible refine (rmade_n _ ax cx _ p HPN.out HPS.out _ HI3.out (Nat.le_trans HLP.out (by decide))).mono ?_); rintro e w4 ⟨s4, rfl, hi4, hb4, ho4⟩; obtain ⟨a5, c5, rfl, hi5⟩ := hi4.open; have HO4 := Lib.hid (ho4.mono HX3.out.below.size); have HZ4 := Lib.hid (ho4.mono HX3.out.size); have HX4 := Lib.hid (HX3.out.later hb4); have x4 := HX4.out.cells; have HI5 := Lib.hid hi5; clear hi4 hi5 hb4 ho4; obtain ⟨r0, r1, f0, f1⟩ := HX4.out.rcells))
    go_wp2_with fail
    have hoff := HZ4.out (w.heap.size + 1 + 1) (by simp)
    exact bodyPost_ret (v := .tuple #[.agg #[.int .i64 p.sign, .slice a5 (digs p.natAbs).length c5], .int .i64 0]) (by simp [results, Try.results48, go_sem, r0, r1]) rfl
      ⟨_, rfl, (HI5.out.set hoff 0 _).set hoff 1 _, HX4.out.put _ _, HO4.out⟩

set_option maxHeartbeats 8000000 in
theorem radd_mp (aa ab : Option Addr) (na nb ca cb : Nat) (a b : Int) (w : World) (ha : IsB w (.agg #[.int .i64 (-1), .slice aa na ca]) a) (hb : IsB w (.agg #[.int .i64 1, .slice ab nb cb]) b) (hia : Ints w (.slice aa na ca) (digs a.natAbs)) (hib : Ints w (.slice ab nb cb) (digs b.natAbs)) (hla : (digs a.natAbs).length ≤ 100000) (hlb : (digs b.natAbs).length ≤ 100000) (hsa : a.sign = -1) (hsb : b.sign = 1) :
    Calls Try.prog 48 #[.agg #[.int .i64 (-1), .slice aa na ca], .agg #[.int .i64 1, .slice ab nb cb]] w (Ans (a + b) 0 w) := by
  have HA := Lib.hid ha
  have HB := Lib.hid hb
  have HIA := Lib.hid hia
  have HIB := Lib.hid hib
  have h1 := sgn_is a
  have h2 := sgn_is b
  have h3 := sgn_is (a + b)
  have hx := Bx.start w (-1) (.slice aa na ca) 1 (.slice ab nb cb)
  have HX0 := Lib.hid hx
  have hlp : ∀ n m : Nat, (digs n).length ≤ 100000 → (digs (n - m)).length ≤ 1000000 := fun n m h => by
    have h1 := digs_lt n
    have h2 := P_le h
    exact Nat.le_trans (digs_le (k := 100000) (by omega)) (by omega)
  by_cases hlt : a.natAbs < b.natAbs
  · have hdt : decide (a.natAbs < b.natAbs) = true := by simpa using hlt
    have hpn : (a + b).natAbs = b.natAbs - a.natAbs := by omega
    have hps : a + b ≠ 0 → (1 : Int) = (a + b).sign := by omega
    have HLP := Lib.hid (hlp b.natAbs a.natAbs hlb)
    obtain ⟨p, ep⟩ : ∃ p, a + b = p := ⟨_, rfl⟩
    rw [ep] at hpn hps ⊢
    have HPN := Lib.hid hpn
    have HPS := Lib.hid hps
    have HLE := Lib.hid (Nat.le_of_lt hlt)
    have HLESS := fun W h1 h2 => rless_n (.slice aa na ca) (.slice ab nb cb) a.natAbs b.natAbs W h1 h2
    rw [hdt] at HLESS
    have HLS := Lib.hid HLESS
    clear ha hb hia hib hx hpn hlp hps ep h1 h2 h3 hsa hsb hlt hdt HLESS
    go_enter Try.func48, Try.ntmps48
    go_wp2_with fail
    refine (risb_any (HA.out.later HX0.out.below)).mono ?_
    rintro e w1 ⟨rfl, hb1⟩
    have HX1 := Lib.hid (HX0.out.later hb1)
    obtain ⟨c00, c01, c10, c11⟩ := HX1.out.cells
    clear hb1
    go_wp2_with fail
    refine (risb_any (HB.out.later HX1.out.below)).mono ?_
    rintro e w2 ⟨rfl, hb2⟩
    have HX2 := Lib.hid (HX1.out.later hb2)
    obtain ⟨d00, d01, d10, d11⟩ := HX2.out.cells
    clear hb2 c00 c01 c10 c11
    go_wp2_with fail
    refine (HLS.out _ (HIA.out.later HX2.out.below) (HIB.out.later HX2.out.below)).mono ?_
    rintro e w2' ⟨rfl, rfl⟩
    go_wp2_with fail
    have HXD := Lib.hid (HX2.out.heap (W' := w2.drew) rfl rfl rfl rfl)
    have e2 := HXD.out.cells
    clear d00 d01 d10 d11
    go_region_held3 (fun W => W.cell? ⟨w.heap.size, 0, none⟩ = some (.int .i64 (-1)) ∧ W.cell? ⟨w.heap.size, 1, none⟩ = some (.slice aa na ca) ∧ W.cell? ⟨w.heap.size + 1, 0, none⟩ = some (.int .i64 1) ∧ W.cell? ⟨w.heap.size + 1, 1, none⟩ = some (.slice ab nb cb))
      (first | exact e2 | exact x3 | exact x4 | exact HX4.out.stays _ _)
      (first
        | (go_at_call 68; (with_reducible refine (rminus_n _ _ b.natAbs a.natAbs HLE.out _ ?_ ?_ (Nat.le_trans hlb (by decide))).mono ?_); (focus exact HIB.out.later HXD.out.below); (focus exact HIA.out.later HXD.out.below); rintro e w3 ⟨v3, rfl, ho3, hb3, hf3⟩; obtain ⟨ax, cx, rfl⟩ := ho3.fit; have HX3 := Lib.hid (HXD.out.later hb3); have x3 := HX3.out.cells; have HI3 := Lib.hid (ho3.ints (Nat.le_trans HLP.out (by decide))); clear ho3 hb3 hf3)
        | (go_at_call 60; (with_reducible refine (rmade_n _ ax cx _ p HPN.out HPS.out _ HI3.out (Nat.le_trans HLP.out (by decide))).mono ?_); rintro e w4 ⟨s4, rfl, hi4, hb4, ho4⟩; obtain ⟨a5, c5, rfl, hi5⟩ := hi4.open; have HO4 := Lib.hid (ho4.mono HX3.out.below.size); have HZ4 := Lib.hid (ho4.mono HX3.out.size); have HX4 := Lib.hid (HX3.out.later hb4); have x4 := HX4.out.cells; have HI5 := Lib.hid hi5; clear hi4 hi5 hb4 ho4; obtain ⟨r0, r1, f0, f1⟩ := HX4.out.rcells))
    go_wp2_with fail
    have hoff := HZ4.out (w.heap.size + 1 + 1) (by simp)
    exact bodyPost_ret (v := .tuple #[.agg #[.int .i64 p.sign, .slice a5 (digs p.natAbs).length c5], .int .i64 0]) (by simp [results, Try.results48, go_sem, r0, r1]) rfl
      ⟨_, rfl, (HI5.out.set hoff 0 _).set hoff 1 _, HX4.out.put _ _, HO4.out⟩
  · have hdt : decide (a.natAbs < b.natAbs) = false := by simpa using hlt
    have hpn : (a + b).natAbs = a.natAbs - b.natAbs := by omega
    have hps : a + b ≠ 0 → ((-1) : Int) = (a + b).sign := by omega
    have HLP := Lib.hid (hlp a.natAbs b.natAbs hla)
    obtain ⟨p, ep⟩ : ∃ p, a + b = p := ⟨_, rfl⟩
    rw [ep] at hpn hps ⊢
    have HPN := Lib.hid hpn
    have HPS := Lib.hid hps
    have HLE := Lib.hid (Nat.le_of_not_lt hlt)
    have HLESS := fun W h1 h2 => rless_n (.slice aa na ca) (.slice ab nb cb) a.natAbs b.natAbs W h1 h2
    rw [hdt] at HLESS
    have HLS := Lib.hid HLESS
    clear ha hb hia hib hx hpn hlp hps ep h1 h2 h3 hsa hsb hlt hdt HLESS
    go_enter Try.func48, Try.ntmps48
    go_wp2_with fail
    refine (risb_any (HA.out.later HX0.out.below)).mono ?_
    rintro e w1 ⟨rfl, hb1⟩
    have HX1 := Lib.hid (HX0.out.later hb1)
    obtain ⟨c00, c01, c10, c11⟩ := HX1.out.cells
    clear hb1
    go_wp2_with fail
    refine (risb_any (HB.out.later HX1.out.below)).mono ?_
    rintro e w2 ⟨rfl, hb2⟩
    have HX2 := Lib.hid (HX1.out.later hb2)
    obtain ⟨d00, d01, d10, d11⟩ := HX2.out.cells
    clear hb2 c00 c01 c10 c11
    go_wp2_with fail
    refine (HLS.out _ (HIA.out.later HX2.out.below) (HIB.out.later HX2.out.below)).mono ?_
    rintro e w2' ⟨rfl, rfl⟩
    go_wp2_with fail
    have HXD := Lib.hid (HX2.out.heap (W' := w2.drew) rfl rfl rfl rfl)
    have e2 := HXD.out.cells
    clear d00 d01 d10 d11
    go_region_held3 (fun W => W.cell? ⟨w.heap.size, 0, none⟩ = some (.int .i64 (-1)) ∧ W.cell? ⟨w.heap.size, 1, none⟩ = some (.slice aa na ca) ∧ W.cell? ⟨w.heap.size + 1, 0, none⟩ = some (.int .i64 1) ∧ W.cell? ⟨w.heap.size + 1, 1, none⟩ = some (.slice ab nb cb))
      (first | exact e2 | exact x3 | exact x4 | exact HX4.out.stays _ _)
      (first
        | (go_at_call 68; (with_reducible refine (rminus_n _ _ a.natAbs b.natAbs HLE.out _ ?_ ?_ (Nat.le_trans hla (by decide))).mono ?_); (focus exact HIA.out.later HXD.out.below); (focus exact HIB.out.later HXD.out.below); rintro e w3 ⟨v3, rfl, ho3, hb3, hf3⟩; obtain ⟨ax, cx, rfl⟩ := ho3.fit; have HX3 := Lib.hid (HXD.out.later hb3); have x3 := HX3.out.cells; have HI3 := Lib.hid (ho3.ints (Nat.le_trans HLP.out (by decide))); clear ho3 hb3 hf3)
        | (go_at_call 60; (with_reducible refine (rmade_n _ ax cx _ p HPN.out HPS.out _ HI3.out (Nat.le_trans HLP.out (by decide))).mono ?_); rintro e w4 ⟨s4, rfl, hi4, hb4, ho4⟩; obtain ⟨a5, c5, rfl, hi5⟩ := hi4.open; have HO4 := Lib.hid (ho4.mono HX3.out.below.size); have HZ4 := Lib.hid (ho4.mono HX3.out.size); have HX4 := Lib.hid (HX3.out.later hb4); have x4 := HX4.out.cells; have HI5 := Lib.hid hi5; clear hi4 hi5 hb4 ho4; obtain ⟨r0, r1, f0, f1⟩ := HX4.out.rcells))
    go_wp2_with fail
    have hoff := HZ4.out (w.heap.size + 1 + 1) (by simp)
    exact bodyPost_ret (v := .tuple #[.agg #[.int .i64 p.sign, .slice a5 (digs p.natAbs).length c5], .int .i64 0]) (by simp [results, Try.results48, go_sem, r0, r1]) rfl
      ⟨_, rfl, (HI5.out.set hoff 0 _).set hoff 1 _, HX4.out.put _ _, HO4.out⟩

theorem radd_ok (va vb : Value) (a b : Int) (w : World) (ha : IsB w va a) (hb : IsB w vb b) (hla : (digs a.natAbs).length ≤ 100000) (hlb : (digs b.natAbs).length ≤ 100000) :
    Calls Try.prog 48 #[va, vb] w (Ans (a + b) 0 w) := by
  obtain ⟨sa, rfl, hia⟩ := id ha
  obtain ⟨sb, rfl, hib⟩ := id hb
  obtain ⟨aa, na, ca, rfl⟩ : ∃ aa na ca, sa = .slice aa na ca := by obtain ⟨x, y, z, _⟩ := hia; exact ⟨_, _, _, z⟩
  obtain ⟨ab, nb, cb, rfl⟩ : ∃ aa na ca, sb = .slice aa na ca := by obtain ⟨x, y, z, _⟩ := hib; exact ⟨_, _, _, z⟩
  rcases sgn_is a with ⟨_, h1⟩ | ⟨_, h1⟩ | ⟨_, h1⟩ <;> rcases sgn_is b with ⟨_, h2⟩ | ⟨_, h2⟩ | ⟨_, h2⟩ <;> rw [h1] at ha ⊢ <;> rw [h2] at hb ⊢
  · exact radd_mm aa ab na nb ca cb a b w ha hb hia hib hla hlb h1 h2
  · exact radd_mz aa ab na nb ca cb a b w ha hb hia hib hla hlb h1 h2
  · exact radd_mp aa ab na nb ca cb a b w ha hb hia hib hla hlb h1 h2
  · exact radd_zm aa ab na nb ca cb a b w ha hb hia hib hla hlb h1 h2
  · exact radd_zz aa ab na nb ca cb a b w ha hb hia hib hla hlb h1 h2
  · exact radd_zp aa ab na nb ca cb a b w ha hb hia hib hla hlb h1 h2
  · exact radd_pm aa ab na nb ca cb a b w ha hb hia hib hla hlb h1 h2
  · exact radd_pz aa ab na nb ca cb a b w ha hb hia hib hla hlb h1 h2
  · exact radd_pp aa ab na nb ca cb a b w ha hb hia hib hla hlb h1 h2
end Go.Proofs.Ytmhjejnkphdjpaa.Bi

namespace Go.Proofs.Ytmhjejnkphdjpaa.Bi
open Go.RowKit

set_option maxHeartbeats 2000000 in
theorem rneg_ok (va : Value) (a : Int) (w : World) (ha : IsB w va a) (hl : (digs a.natAbs).length ≤ 1000000) :
    Calls Try.prog 64 #[va] w (AnsB (-a) w) := by
  obtain ⟨va', rfl, hia⟩ := id ha
  obtain ⟨aa, na, ca, rfl⟩ : ∃ aa na ca, va' = .slice aa na ca := by obtain ⟨x, y, z, _⟩ := hia; exact ⟨_, _, _, z⟩
  have hna : na = (digs a.natAbs).length := by obtain ⟨x, y, z, _⟩ := hia; injection z
  obtain ⟨x, ex⟩ : ∃ x, a.sign = x := ⟨_, rfl⟩
  have hxb : -1 ≤ x ∧ x ≤ 1 := by rw [← ex]; exact sgn_bd a
  have hsg : -a ≠ 0 → -x = (-a).sign := fun _ => by rw [Int.sign_neg, ex]
  rw [ex] at ha ⊢
  have HA := Lib.hid ha
  have HIA := Lib.hid hia
  have HSG := Lib.hid hsg
  have HLN : Hid ((digs a.natAbs).length ≤ 1000000) := hl
  have HNA := Lib.hid hna
  have HPN : Hid ((-a).natAbs = a.natAbs) := Int.natAbs_neg a
  have hx := B1.start w x (.slice aa na ca)
  have HX0 := Lib.hid hx
  have hw : IntKind.i64.wrap (-x) = -x := IntWalk.i64_in _ (by omega)
  clear ha hia hx ex hsg hl hna
  go_enter Try.func64, Try.ntmps64
  go_wp2_with fail
  refine (risb_any (HA.out.later HX0.out.below)).mono ?_
  rintro e w1 ⟨rfl, hb1⟩
  have HX1 := Lib.hid (HX0.out.later hb1)
  clear hb1
  obtain ⟨q0, q1⟩ := HX1.out.cells
  go_wp2_with fail
  have hm := fun W h => rmade_n (-x) aa ca a.natAbs (-a) HPN.out HSG.out W h (Nat.le_trans HLN.out (by decide))
  rw [← HNA.out] at hm
  have HM := Lib.hid hm
  clear hm
  refine (HM.out _ (HIA.out.later HX1.out.below)).mono ?_
  rintro e w3 ⟨s3, rfl, hi3, hb3, hf3⟩
  obtain ⟨a3, c3, rfl, hi4⟩ := hi3.open
  have HX3 := Lib.hid (HX1.out.later hb3)
  have HI3 := Lib.hid hi4
  have HF3 := Lib.hid hf3
  obtain ⟨r0, r1, f0, f1⟩ := HX3.out.rcells
  clear hi3 hi4 hb3 hf3 q0 q1
  obtain ⟨p, ep⟩ : ∃ p, -a = p := ⟨_, rfl⟩
  rw [ep] at HI3 HF3 ⊢
  go_wp2_with fail
  have hoff := HF3.out (w.heap.size + 1) HX1.out.size
  rw [ep]
  exact bodyPost_ret (v := .agg #[.int .i64 p.sign, .slice a3 (digs p.natAbs).length c3]) (by simp [results, Try.results64, go_sem, r0, r1]) rfl
    ⟨_, rfl, (HI3.out.set hoff 0 _).set hoff 1 _, (HX3.out.below.setCell (by simp) _).setCell (by simp) _, HF3.out.mono HX1.out.below.size⟩

theorem four_alloc {W : World} {a b c d : Addr} {x y z u : Value} (h : W.cell? a = some x ∧ W.cell? b = some y ∧ W.cell? c = some z ∧ W.cell? d = some u) (O : Obj) : (W.alloc O).cell? a = some x ∧ (W.alloc O).cell? b = some y ∧ (W.alloc O).cell? c = some z ∧ (W.alloc O).cell? d = some u :=
  ⟨keepB h.1 O, keepB h.2.1 O, keepB h.2.2.1 O, keepB h.2.2.2 O⟩
theorem four_set {w W : World} {g : Nat} {x y z u p q : Value} (h : W.cell? ⟨w.heap.size, 0, none⟩ = some x ∧ W.cell? ⟨w.heap.size, 1, none⟩ = some y ∧ W.cell? ⟨w.heap.size + 1, 0, none⟩ = some z ∧ W.cell? ⟨w.heap.size + 1, 1, none⟩ = some u) (hg : w.heap.size + 1 + 1 < g) :
    let W' := (W.setCell ⟨g, 0, none⟩ p).setCell ⟨g, 1, none⟩ q
    W'.cell? ⟨w.heap.size, 0, none⟩ = some x ∧ W'.cell? ⟨w.heap.size, 1, none⟩ = some y ∧ W'.cell? ⟨w.heap.size + 1, 0, none⟩ = some z ∧ W'.cell? ⟨w.heap.size + 1, 1, none⟩ = some u := by
  intro W'
  have hc : ∀ b o, b ≠ g → W'.cell? ⟨b, o, none⟩ = W.cell? ⟨b, o, none⟩ := fun b o hb =>
    World.cell?_of_block (w := W) ((Below.heap_setCell _ _ _ _ hb).trans (Below.heap_setCell _ _ _ _ hb))
  exact ⟨(hc _ _ (by omega)).trans h.1, (hc _ _ (by omega)).trans h.2.1, (hc _ _ (by omega)).trans h.2.2.1, (hc _ _ (by omega)).trans h.2.2.2⟩
theorem IsB.alloc {w : World} {v : Value} {z : Int} (h : IsB w v z) (O : Obj) : IsB (w.alloc O) v z := h.later (below_alloc w O)
theorem Bx.alloc {w W : World} {sa sb : Int} {va vb : Value} (h : Bx w sa va sb vb W) (O : Obj) : Bx w sa va sb vb (W.alloc O) := h.later (below_alloc W O)
theorem Bx.alloc_drew {w W : World} {sa sb : Int} {va vb : Value} (h : Bx w sa va sb vb W) (O : Obj) : Bx w sa va sb vb (W.alloc O).drew := (h.alloc O).heap rfl rfl rfl rfl
/-- Block g is a variable's box, as it was made. -/
def IsBox (g : Nat) (W : World) : Prop := W.heap[g]? = some (.cells #[.int .i64 0, .slice none 0 0] 32 (0, 0))
theorem IsBox.new (W : World) : IsBox W.heap.size (W.alloc (.cells #[.int .i64 0, .slice none 0 0] 32)) := alloc_at W _
theorem IsBox.lt {g : Nat} {W : World} (h : IsBox g W) : g < W.heap.size := (Array.getElem?_eq_some_iff.1 h).1
theorem IsBox.later {g : Nat} {W W' : World} (h : IsBox g W) (hb : RowKit.Below W.heap.size W W') : IsBox g W' := (hb.block _ h.lt).trans h
theorem IsBox.facts {g : Nat} {W : World} (h : IsBox g W) : W.cell? ⟨g, 0, none⟩ = some (.int .i64 0) ∧ W.cell? ⟨g, 1, none⟩ = some (.slice none 0 0) ∧ W.frozen? ⟨g, 0, none⟩ = false ∧ W.frozen? ⟨g, 1, none⟩ = false :=
  ⟨by rw [cell_of_row _ _ _ _ _ _ h]; rfl, by rw [cell_of_row _ _ _ _ _ _ h]; rfl, by simp [World.frozen?, show W.heap[g]? = _ from h], by simp [World.frozen?, show W.heap[g]? = _ from h]⟩
theorem box_facts {w W : World} {g : Nat} {sa sb : Int} {va vb : Value} (hy : IsBox g W) (hx : Bx w sa va sb vb W) (hg : w.heap.size + 1 + 1 < g) :
    (∀ p q, ((W.setCell ⟨g, 0, none⟩ p).setCell ⟨g, 1, none⟩ q).cell? ⟨g, 0, none⟩ = some p) ∧ (∀ p q, ((W.setCell ⟨g, 0, none⟩ p).setCell ⟨g, 1, none⟩ q).cell? ⟨g, 1, none⟩ = some q) ∧
    (∀ p q, ((W.setCell ⟨g, 0, none⟩ p).setCell ⟨g, 1, none⟩ q).cell? ⟨w.heap.size + 1 + 1, 0, none⟩ = some (.int .i64 0)) ∧ (∀ p q, ((W.setCell ⟨g, 0, none⟩ p).setCell ⟨g, 1, none⟩ q).cell? ⟨w.heap.size + 1 + 1, 1, none⟩ = some (.slice none 0 0)) ∧
    (∀ p q, ((W.setCell ⟨g, 0, none⟩ p).setCell ⟨g, 1, none⟩ q).frozen? ⟨w.heap.size + 1 + 1, 0, none⟩ = false) ∧ (∀ p q, ((W.setCell ⟨g, 0, none⟩ p).setCell ⟨g, 1, none⟩ q).frozen? ⟨w.heap.size + 1 + 1, 1, none⟩ = false) := by
  obtain ⟨y0, y1, y2, y3⟩ := hy.facts
  obtain ⟨r0, r1, f0, f1⟩ := hx.rcells
  have hh : ∀ p q, ((W.setCell ⟨g, 0, none⟩ p).setCell ⟨g, 1, none⟩ q).heap[w.heap.size + 1 + 1]? = W.heap[w.heap.size + 1 + 1]? := fun p q =>
    (Below.heap_setCell _ _ _ _ (by simp; omega)).trans (Below.heap_setCell _ _ _ _ (by simp; omega))
  have h1 : ∀ p, (W.setCell ⟨g, 0, none⟩ p).cell? ⟨g, 1, none⟩ = some (.slice none 0 0) := fun p => by rw [World.cell?_setCell_other _ _ _ _ (by simp)]; exact y1
  refine ⟨fun p q => ?_, fun p q => World.cell?_setCell_same _ _ _ (h1 p), fun p q => (World.cell?_of_block (hh p q)).trans r0, fun p q => (World.cell?_of_block (hh p q)).trans r1, fun p q => (World.frozen?_of_block (hh p q)).trans f0, fun p q => (World.frozen?_of_block (hh p q)).trans f1⟩
  rw [World.cell?_setCell_other _ _ _ _ (by simp)]
  exact World.cell?_setCell_same _ _ _ y0
theorem frozen_alloc {w : World} {a : Addr} (h : w.frozen? a = false) : ∀ c t, (w.alloc (.cells c t)).frozen? a = false := fun c t => (frozen?_alloc_cells w c t a).trans h
set_option maxHeartbeats 8000000 in
theorem rsub_any (va vb : Value) (sa : Int) (la : List Int) (b p er : Int) (w : World) (ha : Arg w va sa la) (hb : IsB w vb b) (hlb : (digs b.natAbs).length ≤ 100000)
    (hadd : ∀ (W : World) (v : Value), Arg W va sa la → IsB W v (-b) → Calls Try.prog 48 #[va, v] W (Ans p er W)) :
    Calls Try.prog 51 #[va, vb] w (Ans p er w) := by
  obtain ⟨va', rfl, hia⟩ := id ha
  obtain ⟨vb', rfl, hib⟩ := id hb
  obtain ⟨aa, na, ca, rfl⟩ : ∃ aa na ca, va' = .slice aa na ca := by obtain ⟨x, y, z, _⟩ := hia; exact ⟨_, _, _, z⟩
  obtain ⟨ab, nb, cb, rfl⟩ : ∃ aa na ca, vb' = .slice aa na ca := by obtain ⟨x, y, z, _⟩ := hib; exact ⟨_, _, _, z⟩
  have HA := Lib.hid ha
  have HB := Lib.hid hb
  have hneg := fun W h => rneg_ok (.agg #[.int .i64 b.sign, .slice ab nb cb]) b W h (Nat.le_trans hlb (by omega))
  obtain ⟨m, em⟩ : ∃ m, -b = m := ⟨_, rfl⟩
  rw [em] at hadd hneg
  have HADD := Lib.hid hadd
  have HNEG := Lib.hid hneg
  have hx := Bx.start w sa (.slice aa na ca) b.sign (.slice ab nb cb)
  have HX0 := Lib.hid hx
  clear ha hb hia hib hx hadd hneg em hlb
  go_enter Try.func51, Try.ntmps51
  go_wp2_with fail
  refine (risb_any (HB.out.later HX0.out.below)).mono ?_
  rintro e w1 ⟨rfl, hb1⟩
  have HX1 := Lib.hid (HX0.out.later hb1)
  obtain ⟨c00, c01, c10, c11⟩ := HX1.out.cells
  clear hb1
  go_wp2_with fail
  have HXD := Lib.hid (HX1.out.heap (W' := w1.drew) rfl rfl rfl rfl)
  have e2 := HXD.out.cells
  clear c00 c01 c10 c11
  have HISB := Lib.hid (HB.out.later HXD.out.below)
  have HARG := Lib.hid (HA.out.later HXD.out.below)
  go_region_held3 (fun W => W.cell? ⟨w.heap.size, 0, none⟩ = some (.int .i64 sa) ∧ W.cell? ⟨w.heap.size, 1, none⟩ = some (.slice aa na ca) ∧ W.cell? ⟨w.heap.size + 1, 0, none⟩ = some (.int .i64 b.sign) ∧ W.cell? ⟨w.heap.size + 1, 1, none⟩ = some (.slice ab nb cb))
    (first | (with_reducible exact e2) | (with_reducible exact x3) | (with_reducible exact x5) | exact four_alloc e2 _ | exact four_alloc x3 _ | exact four_alloc x5 _ | exact four_set x5 HX1.out.size | exact four_set x5 HX3.out.size | exact four_set (four_alloc x5 _) HX5.out.size)
    (first
      | (go_at_call 64; (with_reducible refine (HNEG.out _ ?_).mono ?_); (focus exact HISB.out); rintro e w3 ⟨s3, rfl, hi3, hb3, hf3⟩; obtain ⟨a3, c3, rfl, hi4⟩ := hi3.open; have HX3 := Lib.hid (HXD.out.later hb3); have x3 := HX3.out.cells; have HI3 : Hid (IsB w3 (.agg #[.int .i64 m.sign, .slice a3 (digs m.natAbs).length c3]) m) := ⟨_, rfl, hi4⟩; clear hi3 hi4 hb3 hf3)
      | (go_at_call 64; (with_reducible refine (HNEG.out _ ?_).mono ?_); (focus exact HB.out.later (HX1.out.alloc_drew _).below); rintro e w3 ⟨s3, rfl, hi3, hb3, hf3⟩; obtain ⟨a3, c3, rfl, hi4⟩ := hi3.open; have HX3 := Lib.hid ((HX1.out.alloc_drew _).later hb3); have x3 := HX3.out.cells; have HI3 : Hid (IsB w3 (.agg #[.int .i64 m.sign, .slice a3 (digs m.natAbs).length c3]) m) := ⟨_, rfl, hi4⟩; have Y3 : Hid (IsBox w1.heap.size w3) := (IsBox.later (W := (w1.alloc (.cells #[.int .i64 0, .slice none 0 0] 32)).drew) (IsBox.new w1) hb3); obtain ⟨y0, y1, y2, y3⟩ := Y3.out.facts; clear hi3 hi4 hb3 hf3)
      | (go_at_call 48; (with_reducible refine (HADD.out _ _ ?_ ?_).mono ?_); (focus exact HA.out.later HX3.out.below); (focus exact HI3.out); rintro e w5 ⟨s5, rfl, hi5, hb5, hf5⟩; obtain ⟨a5, c5, rfl, hi6⟩ := hi5.open; have HX5 := Lib.hid (HX3.out.later hb5); have HF5 := Lib.hid hf5; have HH : Hid (w3.heap.size ≤ w5.heap.size) := hb5.size; have hk0 := keepB (HX5.out.rcells).1; have hk1 := keepB (HX5.out.rcells).2.1; have hk2 := frozen_alloc (HX5.out.rcells).2.2.1; have hk3 := frozen_alloc (HX5.out.rcells).2.2.2; have x5 := HX5.out.cells; have HI6 := Lib.hid hi6; obtain ⟨r0, r1, f0, f1⟩ := HX5.out.rcells; (first | (have Y5 := Lib.hid (Y3.out.later hb5); clear y0 y1 y2 y3; obtain ⟨y0, y1, y2, y3⟩ := Y5.out.facts; have HBF := box_facts Y5.out HX5.out HX1.out.size; obtain ⟨bf0, bf1, bf2, bf3, bf4, bf5⟩ := HBF; have HG5 := Lib.hid (HF5.out _ Y3.out.lt); have HG7 := Lib.hid HX1.out.size) | skip); clear hi5 hi6 hb5 hf5)
      | (go_at_call 48; (with_reducible refine (HADD.out _ _ ?_ ?_).mono ?_); (focus exact HA.out.later (HX3.out.alloc _).below); (focus exact HI3.out.alloc _); rintro e w5 ⟨s5, rfl, hi5, hb5, hf5⟩; obtain ⟨a5, c5, rfl, hi6⟩ := hi5.open; have HX5 := Lib.hid ((HX3.out.alloc _).later hb5); have HF5 := Lib.hid (hf5.mono (B' := w3.heap.size) (by simp)); have HG5 := Lib.hid (hf5 w3.heap.size (by simp)); have HG7 := Lib.hid HX3.out.size; have x5 := HX5.out.cells; have HI6 := Lib.hid hi6; obtain ⟨r0, r1, f0, f1⟩ := HX5.out.rcells; have Y5 := Lib.hid ((IsBox.new _).later hb5); obtain ⟨y0, y1, y2, y3⟩ := Y5.out.facts; obtain ⟨bf0, bf1, bf2, bf3, bf4, bf5⟩ := box_facts Y5.out HX5.out HX3.out.size; clear hi5 hi6 hb5 hf5))
  all_goals
    go_wp2_with fail
    have hoff := HF5.out (w.heap.size + 1 + 1) HX3.out.size
    have hge := HX1.out.size
    have hge3 := HX3.out.size
    first
      | (have HI7 := ((HI6.out.set HG5.out 0 (.int .i64 p.sign)).set HG5.out 1 (.slice a5 (digs p.natAbs).length c5)); have HB7 := ((HX5.out.below.setCell (p := ⟨_, 0, none⟩) (Nat.le_of_lt (Nat.lt_of_le_of_lt (Nat.le_add_right _ 2) HG7.out)) (.int .i64 p.sign)).setCell (p := ⟨_, 1, none⟩) (Nat.le_of_lt (Nat.lt_of_le_of_lt (Nat.le_add_right _ 2) HG7.out)) (.slice a5 (digs p.natAbs).length c5))
         refine bodyPost_ret (v := .tuple #[.agg #[.int .i64 p.sign, .slice a5 (digs p.natAbs).length c5], .int .i64 er]) ?_ rfl ?_
         · simp [results, Try.results51, go_sem, bf2, bf3]
         · exact ⟨_, rfl, (HI7.set hoff 0 _).set hoff 1 _, (HB7.setCell (by simp; omega) _).setCell (by simp; omega) _, HF5.out.mono HX3.out.below.size⟩)
      | (have HI7 := HI6.out.later (below_alloc w5 (.cells #[.int .i64 p.sign, .slice a5 (digs p.natAbs).length c5] 32))
         refine bodyPost_ret (v := .tuple #[.agg #[.int .i64 p.sign, .slice a5 (digs p.natAbs).length c5], .int .i64 er]) ?_ rfl ?_
         · simp [results, Try.results51, go_sem, hk0, hk1]
         · exact ⟨_, rfl, (HI7.set hoff 0 _).set hoff 1 _, (HX5.out.alloc _).put _ _, HF5.out.mono HX3.out.below.size⟩)
end Go.Proofs.Ytmhjejnkphdjpaa.Bi

namespace Go.Proofs.Ytmhjejnkphdjpaa.Bi
open Go.RowKit

theorem digs_one : digs 1 = [1] := by rw [digs_pos (by decide), show 1 / 1048576 = 0 from rfl, digs_zero]; rfl
theorem rsg_plain {a b : Int} {r0 : Nat} (hb : b ≠ 0) (h0 : a = 0 → r0 = 0) (h : 0 ≤ a.sign * b.sign ∨ r0 = 0) : a.sign = b.sign ∨ (r0 : Int) = 0 := by
  rcases h with h | h
  · rcases sgn_is a with ⟨k, k'⟩ | ⟨k, k'⟩ | ⟨k, k'⟩ <;> rcases sgn_is b with ⟨l, l'⟩ | ⟨l, l'⟩ | ⟨l, l'⟩ <;> rw [k', l'] at h <;> first | (exfalso; omega) | exact .inl (k'.trans l'.symm) | exact .inr (by have := h0 (by omega); omega)
  · exact .inr (by omega)
theorem ints_digs1 (W : World) : Ints ((W.alloc (.cells #[.int .i64 1] 3)).drew) (.slice (some ⟨W.heap.size, 0, none⟩) 1 1) (digs 1) := by rw [digs_one]; exact ints_one W 1

set_option maxHeartbeats 4000000 in
theorem rdiv_plain (va vb : Value) (a b : Int) (w : World) (ha : IsB w va a) (hb : IsB w vb b) (hla : (digs a.natAbs).length ≤ 500000) (hlb : (digs b.natAbs).length ≤ 500000) (h0 : b ≠ 0) (hc : 0 ≤ a.sign * b.sign) :
    Calls Try.prog 65 #[va, vb] w (AnsD (a.fdiv b) (a.fmod b) 0 w) := by
  obtain ⟨sa, rfl, hia⟩ := id ha
  obtain ⟨sb, rfl, hib⟩ := id hb
  have HA := Lib.hid ha
  have HB := Lib.hid hb
  have HIA := Lib.hid hia
  have HIB := Lib.hid hib
  obtain ⟨aa, ca, rfl, _⟩ := hia.open
  obtain ⟨ab, cb, rfl, _⟩ := hib.open
  obtain ⟨na, ena⟩ : ∃ n, (digs a.natAbs).length = n := ⟨_, rfl⟩
  obtain ⟨nb, enb⟩ : ∃ n, (digs b.natAbs).length = n := ⟨_, rfl⟩
  rw [ena] at HA HIA ⊢
  rw [enb] at HB HIB ⊢
  have hm : (a.natAbs : Int) = (b.natAbs : Int) * ((a.natAbs / b.natAbs : Nat) : Int) + ((a.natAbs % b.natAbs : Nat) : Int) := by exact_mod_cast (Nat.div_add_mod a.natAbs b.natAbs).symm
  have hm1 : a.natAbs % b.natAbs < b.natAbs := Nat.mod_lt _ (by omega)
  have hlq : a.natAbs / b.natAbs ≤ a.natAbs := Nat.div_le_self _ _
  have hcc := rsg_plain (a := a) (b := b) (r0 := a.natAbs % b.natAbs) h0 (by rintro rfl; simp) (.inl hc)
  have hF := fl_plain h0 hm (Int.natCast_nonneg _) (Int.ofNat_lt.2 hm1) (Int.natCast_nonneg _) hcc
  have HZ : Hid ((b.sign == 0) = false) := by unfold Hid; simpa using h0
  have hsp := sign_bd a b
  obtain ⟨q, eq⟩ : ∃ q, a.fdiv b = q := ⟨_, rfl⟩
  obtain ⟨r, er⟩ : ∃ r, a.fmod b = r := ⟨_, rfl⟩
  have HDV : Hid (∀ W, Ints W (.slice aa na ca) (digs a.natAbs) → Ints W (.slice ab nb cb) (digs b.natAbs) → Calls Try.prog 82 #[.slice aa na ca, .slice ab nb cb] W (OverN a.natAbs b.natAbs W)) :=
    fun W h1 h2 => rover_n _ _ _ _ W h1 h2 (by omega) (by omega) (by omega)
  obtain ⟨q0, eq0⟩ : ∃ q0, a.natAbs / b.natAbs = q0 := ⟨_, rfl⟩
  obtain ⟨r0, er0⟩ : ∃ r0, a.natAbs % b.natAbs = r0 := ⟨_, rfl⟩
  rw [eq, er] at hF ⊢
  rw [eq0, er0] at hF
  rw [er0] at hm1
  rw [eq0] at hlq
  have HOV : Hid (∀ W e w', OverN a.natAbs b.natAbs W e w' → ∃ aq cq ar cr, e = .returned (.tuple #[.slice aq (digs q0).length cq, .slice ar (digs r0).length cr]) ∧ Ints w' (.slice aq (digs q0).length cq) (digs q0) ∧ Ints w' (.slice ar (digs r0).length cr) (digs r0) ∧ RowKit.Below W.heap.size W w') := by
    rintro W e w' ⟨vq, vr, h1, h2, h3, h4, _, _⟩
    rw [eq0] at h2
    rw [er0] at h3
    obtain ⟨aq, cq, rfl⟩ := h2.fit
    obtain ⟨ar, cr, rfl⟩ := h3.fit
    have k1 := digs_mono hlq
    have k2 := digs_mono (Nat.le_of_lt hm1)
    exact ⟨aq, cq, ar, cr, h1, h2.ints (by omega), h3.ints (by omega), h4⟩
  have HLQ : Hid ((digs q0).length ≤ 500000) := Nat.le_trans (digs_mono hlq) hla
  have HLR : Hid ((digs r0).length ≤ 500000) := Nat.le_trans (digs_mono (Nat.le_of_lt hm1)) hlb
  obtain ⟨hF1, hF2, hF3, hF4⟩ := hF
  have hsr : r ≠ 0 → a.sign = r.sign := by
    intro h
    rw [er0] at hcc
    rcases hcc with h1 | h1
    · rw [h1]; exact hF4 h
    · exact absurd hF3 (by omega)
  have hqn : q.natAbs = q0 := by omega
  have hrn : r.natAbs = r0 := by omega
  have HSQ : Hid (∀ W A C, Ints W (.slice A (digs q0).length C) (digs q0) → Calls Try.prog 60 #[.int .i64 (a.sign * b.sign), .slice A (digs q0).length C] W (AnsB q W)) := fun W A C hW => rmade_n (a.sign * b.sign) A C q0 q hqn hF2 W hW (by have := HLQ.out; omega)
  have HSR : Hid (∀ W A C, Ints W (.slice A (digs r0).length C) (digs r0) → Calls Try.prog 60 #[.int .i64 a.sign, .slice A (digs r0).length C] W (AnsB r W)) := fun W A C hW => rmade_n a.sign A C r0 r hrn hsr W hW (by have := HLR.out; omega)
  obtain ⟨sp, esp⟩ : ∃ sp, a.sign * b.sign = sp := ⟨_, rfl⟩
  have HW : Hid (IntKind.i64.wrap (a.sign * b.sign) = sp) := by unfold Hid; rw [esp] at hsp ⊢; exact IntWalk.i64_in _ (by omega)
  have HG : Hid (decide (sp ≥ 0) = true) := by unfold Hid; rw [esp] at hc; exact decide_eq_true hc
  rw [esp] at HSQ
  obtain ⟨lq, elq⟩ : ∃ lq, (digs q0).length = lq := ⟨_, rfl⟩
  obtain ⟨lr, elr⟩ : ∃ lr, (digs r0).length = lr := ⟨_, rfl⟩
  rw [elq] at HOV HSQ
  rw [elr] at HOV HSR
  have hx := Bx2.start w a.sign (.slice aa na ca) b.sign (.slice ab nb cb)
  have HX0 := Lib.hid hx
  clear ha hb hia hib hx ena enb hla hlb h0 hc hsp eq er eq0 er0 hF1 hF2 hF3 hF4 hm hm1 hlq hcc hsr hqn hrn esp elq elr
  go_enter Try.func65, Try.ntmps65
  go_wp2_with fail
  refine (risb_any (HA.out.later HX0.out.below)).mono ?_
  rintro e w1 ⟨rfl, hb1⟩
  have HX1 := Lib.hid (HX0.out.later hb1)
  obtain ⟨c00, c01, c10, c11⟩ := HX1.out.cells
  clear hb1
  go_wp2_with fail
  refine (risb_any (HB.out.later HX1.out.below)).mono ?_
  rintro e w2 ⟨rfl, hb2⟩
  have HX2 := Lib.hid (HX1.out.later hb2)
  obtain ⟨d00, d01, d10, d11⟩ := HX2.out.cells
  clear hb2 c00 c01 c10 c11
  have hz := HZ.out
  go_wp2_with fail
  refine (HDV.out _ (HIA.out.later HX2.out.below) (HIB.out.later HX2.out.below)).mono ?_
  rintro e w3 ho
  obtain ⟨aq, cq, ar, cr, rfl, hiq, hir, hb3⟩ := HOV.out _ _ _ ho
  have HX3 := Lib.hid (HX2.out.later hb3)
  have HIQ := Lib.hid hiq
  have HIR := Lib.hid hir
  obtain ⟨c0, c1, c2, c3⟩ := HX3.out.cells
  clear ho hiq hir hb3 d00 d01 d10 d11 hz
  have hw := HW.out
  have hg := HG.out
  go_wp2_with fail
  clear c0 c1 c2 c3
  have HXD := Lib.hid (HX3.out.heap (W' := w3.drew) rfl rfl rfl rfl)
  have e2 := HXD.out.cells
  go_region_held3 (fun W => W.cell? ⟨w.heap.size, 0, none⟩ = some (.int .i64 a.sign) ∧ W.cell? ⟨w.heap.size, 1, none⟩ = some (.slice aa na ca) ∧ W.cell? ⟨w.heap.size + 1, 0, none⟩ = some (.int .i64 b.sign) ∧ W.cell? ⟨w.heap.size + 1, 1, none⟩ = some (.slice ab nb cb))
    (first | (with_reducible exact e2) | (with_reducible exact x4) | (with_reducible exact x5) | (with_reducible exact HX5.out.stay1 _ _) | (with_reducible exact HX5.out.stay2 _ _ _ _))
    (first
      | (go_at_call 60; (with_reducible refine (HSQ.out _ _ _ ?_).mono ?_); (focus exact Ints.drew HIQ.out); rintro e w4 ⟨s4, rfl, hi4, hb4, ho4⟩; obtain ⟨a4, c4, rfl, hj4⟩ := hi4.open; have HO4 := Lib.hid ho4; have HX4 := Lib.hid (HXD.out.later hb4); have HB4 := Lib.hid hb4; have x4 := HX4.out.cells; have HI4 := Lib.hid hj4; clear hi4 hj4 hb4 ho4)
      | (go_at_call 60; (with_reducible refine (HSR.out _ _ _ ?_).mono ?_); (focus exact (Ints.drew HIR.out).later HB4.out); rintro e w5 ⟨s5, rfl, hi5, hb5, ho5⟩; obtain ⟨a5, c5, rfl, hj5⟩ := hi5.open; have HO5 := Lib.hid ho5; have HX5 := Lib.hid (HX4.out.later hb5); have x5 := HX5.out.cells; have HI5 := Lib.hid hj5; have HI6 := Lib.hid (HI4.out.later hb5); clear hi5 hj5 hb5 ho5; obtain ⟨⟨r0', r1, f0, f1⟩, t0, t1, g0, g1⟩ := HX5.out.rcells))
  go_wp2_with fail
  have hsz := HX2.out.size
  have o41 := HO4.out (w.heap.size + 1 + 1) (by have := HX3.out.size; simp; omega)
  have o42 := HO4.out (w.heap.size + 1 + 1 + 1) (by have := HX3.out.size; simp; omega)
  have o51 := HO5.out (w.heap.size + 1 + 1) (by have := HX4.out.size; omega)
  have o52 := HO5.out (w.heap.size + 1 + 1 + 1) (by have := HX4.out.size; omega)
  exact bodyPost_ret (v := .tuple #[.agg #[.int .i64 q.sign, .slice a4 (digs q.natAbs).length c4], .agg #[.int .i64 r.sign, .slice a5 (digs r.natAbs).length c5], .int .i64 0]) (by simp [results, Try.results65, go_sem, r0', r1, t0, t1]) rfl
    ⟨_, _, rfl, (((HI6.out.set o41 0 _).set o41 1 _).set o42 0 _).set o42 1 _, (((HI5.out.set o51 0 _).set o51 1 _).set o52 0 _).set o52 1 _,
      (((HX5.out.below.setCell (by simp; omega) _).setCell (by simp; omega) _).setCell (by simp; omega) _).setCell (by simp; omega) _,
      fun g hg => HO4.out g (by have := HX3.out.size; simp; omega), fun g hg => HO5.out g (by have := HX4.out.size; omega)⟩

set_option maxHeartbeats 4000000 in
theorem rdiv_zeror (va vb : Value) (a b : Int) (w : World) (ha : IsB w va a) (hb : IsB w vb b) (hla : (digs a.natAbs).length ≤ 500000) (hlb : (digs b.natAbs).length ≤ 500000) (h0 : b ≠ 0) (hc : a.sign * b.sign < 0) (hk : a.natAbs % b.natAbs = 0) :
    Calls Try.prog 65 #[va, vb] w (AnsD (a.fdiv b) (a.fmod b) 0 w) := by
  obtain ⟨sa, rfl, hia⟩ := id ha
  obtain ⟨sb, rfl, hib⟩ := id hb
  have HA := Lib.hid ha
  have HB := Lib.hid hb
  have HIA := Lib.hid hia
  have HIB := Lib.hid hib
  obtain ⟨aa, ca, rfl, _⟩ := hia.open
  obtain ⟨ab, cb, rfl, _⟩ := hib.open
  obtain ⟨na, ena⟩ : ∃ n, (digs a.natAbs).length = n := ⟨_, rfl⟩
  obtain ⟨nb, enb⟩ : ∃ n, (digs b.natAbs).length = n := ⟨_, rfl⟩
  rw [ena] at HA HIA ⊢
  rw [enb] at HB HIB ⊢
  have hm : (a.natAbs : Int) = (b.natAbs : Int) * ((a.natAbs / b.natAbs : Nat) : Int) + ((a.natAbs % b.natAbs : Nat) : Int) := by exact_mod_cast (Nat.div_add_mod a.natAbs b.natAbs).symm
  have hm1 : a.natAbs % b.natAbs < b.natAbs := Nat.mod_lt _ (by omega)
  have hlq : a.natAbs / b.natAbs ≤ a.natAbs := Nat.div_le_self _ _
  have hcc := rsg_plain (a := a) (b := b) (r0 := a.natAbs % b.natAbs) h0 (by rintro rfl; simp) (.inr hk)
  have hF := fl_plain h0 hm (Int.natCast_nonneg _) (Int.ofNat_lt.2 hm1) (Int.natCast_nonneg _) hcc
  have HZ : Hid ((b.sign == 0) = false) := by unfold Hid; simpa using h0
  have hsp := sign_bd a b
  obtain ⟨q, eq⟩ : ∃ q, a.fdiv b = q := ⟨_, rfl⟩
  obtain ⟨r, er⟩ : ∃ r, a.fmod b = r := ⟨_, rfl⟩
  have HDV : Hid (∀ W, Ints W (.slice aa na ca) (digs a.natAbs) → Ints W (.slice ab nb cb) (digs b.natAbs) → Calls Try.prog 82 #[.slice aa na ca, .slice ab nb cb] W (OverN a.natAbs b.natAbs W)) :=
    fun W h1 h2 => rover_n _ _ _ _ W h1 h2 (by omega) (by omega) (by omega)
  obtain ⟨q0, eq0⟩ : ∃ q0, a.natAbs / b.natAbs = q0 := ⟨_, rfl⟩
  obtain ⟨r0, er0⟩ : ∃ r0, a.natAbs % b.natAbs = r0 := ⟨_, rfl⟩
  rw [eq, er] at hF ⊢
  rw [eq0, er0] at hF
  rw [er0] at hm1
  rw [eq0] at hlq
  have HOV : Hid (∀ W e w', OverN a.natAbs b.natAbs W e w' → ∃ aq cq ar cr, e = .returned (.tuple #[.slice aq (digs q0).length cq, .slice ar (digs r0).length cr]) ∧ Ints w' (.slice aq (digs q0).length cq) (digs q0) ∧ Ints w' (.slice ar (digs r0).length cr) (digs r0) ∧ RowKit.Below W.heap.size W w') := by
    rintro W e w' ⟨vq, vr, h1, h2, h3, h4, _, _⟩
    rw [eq0] at h2
    rw [er0] at h3
    obtain ⟨aq, cq, rfl⟩ := h2.fit
    obtain ⟨ar, cr, rfl⟩ := h3.fit
    have k1 := digs_mono hlq
    have k2 := digs_mono (Nat.le_of_lt hm1)
    exact ⟨aq, cq, ar, cr, h1, h2.ints (by omega), h3.ints (by omega), h4⟩
  have HLQ : Hid ((digs q0).length ≤ 500000) := Nat.le_trans (digs_mono hlq) hla
  have HLR : Hid ((digs r0).length ≤ 500000) := Nat.le_trans (digs_mono (Nat.le_of_lt hm1)) hlb
  obtain ⟨hF1, hF2, hF3, hF4⟩ := hF
  have hsr : r ≠ 0 → a.sign = r.sign := by
    intro h
    rw [er0] at hcc
    rcases hcc with h1 | h1
    · rw [h1]; exact hF4 h
    · exact absurd hF3 (by omega)
  have hqn : q.natAbs = q0 := by omega
  have hrn : r.natAbs = r0 := by omega
  have HSQ : Hid (∀ W A C, Ints W (.slice A (digs q0).length C) (digs q0) → Calls Try.prog 60 #[.int .i64 (a.sign * b.sign), .slice A (digs q0).length C] W (AnsB q W)) := fun W A C hW => rmade_n (a.sign * b.sign) A C q0 q hqn hF2 W hW (by have := HLQ.out; omega)
  have HSR : Hid (∀ W A C, Ints W (.slice A (digs r0).length C) (digs r0) → Calls Try.prog 60 #[.int .i64 a.sign, .slice A (digs r0).length C] W (AnsB r W)) := fun W A C hW => rmade_n a.sign A C r0 r hrn hsr W hW (by have := HLR.out; omega)
  obtain ⟨sp, esp⟩ : ∃ sp, a.sign * b.sign = sp := ⟨_, rfl⟩
  have HW : Hid (IntKind.i64.wrap (a.sign * b.sign) = sp) := by unfold Hid; rw [esp] at hsp ⊢; exact IntWalk.i64_in _ (by omega)
  have HG : Hid (decide (sp ≥ 0) = false) := by unfold Hid; rw [esp] at hc; exact decide_eq_false (by omega)
  rw [esp] at HSQ
  obtain ⟨lq, elq⟩ : ∃ lq, (digs q0).length = lq := ⟨_, rfl⟩
  obtain ⟨lr, elr⟩ : ∃ lr, (digs r0).length = lr := ⟨_, rfl⟩
  have hlr0 : lr = 0 := by rw [← elr, ← er0, hk, digs_zero]; rfl
  subst hlr0
  rw [elq] at HOV HSQ
  rw [elr] at HOV HSR
  have hx := Bx2.start w a.sign (.slice aa na ca) b.sign (.slice ab nb cb)
  have HX0 := Lib.hid hx
  clear ha hb hia hib hx ena enb hla hlb h0 hc hsp eq er eq0 er0 hF1 hF2 hF3 hF4 hm hm1 hlq hcc hsr hqn hrn esp elq elr hk
  go_enter Try.func65, Try.ntmps65
  go_wp2_with fail
  refine (risb_any (HA.out.later HX0.out.below)).mono ?_
  rintro e w1 ⟨rfl, hb1⟩
  have HX1 := Lib.hid (HX0.out.later hb1)
  obtain ⟨c00, c01, c10, c11⟩ := HX1.out.cells
  clear hb1
  go_wp2_with fail
  refine (risb_any (HB.out.later HX1.out.below)).mono ?_
  rintro e w2 ⟨rfl, hb2⟩
  have HX2 := Lib.hid (HX1.out.later hb2)
  obtain ⟨d00, d01, d10, d11⟩ := HX2.out.cells
  clear hb2 c00 c01 c10 c11
  have hz := HZ.out
  go_wp2_with fail
  refine (HDV.out _ (HIA.out.later HX2.out.below) (HIB.out.later HX2.out.below)).mono ?_
  rintro e w3 ho
  obtain ⟨aq, cq, ar, cr, rfl, hiq, hir, hb3⟩ := HOV.out _ _ _ ho
  have HX3 := Lib.hid (HX2.out.later hb3)
  have HIQ := Lib.hid hiq
  have HIR := Lib.hid hir
  obtain ⟨c0, c1, c2, c3⟩ := HX3.out.cells
  clear ho hiq hir hb3 d00 d01 d10 d11 hz
  have hw := HW.out
  have hg := HG.out
  go_wp2_with fail
  clear c0 c1 c2 c3
  have HXD := Lib.hid (HX3.out.heap (W' := w3.drew) rfl rfl rfl rfl)
  have e2 := HXD.out.cells
  go_region_held3 (fun W => W.cell? ⟨w.heap.size, 0, none⟩ = some (.int .i64 a.sign) ∧ W.cell? ⟨w.heap.size, 1, none⟩ = some (.slice aa na ca) ∧ W.cell? ⟨w.heap.size + 1, 0, none⟩ = some (.int .i64 b.sign) ∧ W.cell? ⟨w.heap.size + 1, 1, none⟩ = some (.slice ab nb cb))
    (first | (with_reducible exact e2) | (with_reducible exact x4) | (with_reducible exact x5) | (with_reducible exact HX5.out.stay1 _ _) | (with_reducible exact HX5.out.stay2 _ _ _ _))
    (first
      | (go_at_call 60; (with_reducible refine (HSQ.out _ _ _ ?_).mono ?_); (focus exact Ints.drew HIQ.out); rintro e w4 ⟨s4, rfl, hi4, hb4, ho4⟩; obtain ⟨a4, c4, rfl, hj4⟩ := hi4.open; have HO4 := Lib.hid ho4; have HX4 := Lib.hid (HXD.out.later hb4); have HB4 := Lib.hid hb4; have x4 := HX4.out.cells; have HI4 := Lib.hid hj4; clear hi4 hj4 hb4 ho4)
      | (go_at_call 60; (with_reducible refine (HSR.out _ _ _ ?_).mono ?_); (focus exact (Ints.drew HIR.out).later HB4.out); rintro e w5 ⟨s5, rfl, hi5, hb5, ho5⟩; obtain ⟨a5, c5, rfl, hj5⟩ := hi5.open; have HO5 := Lib.hid ho5; have HX5 := Lib.hid (HX4.out.later hb5); have x5 := HX5.out.cells; have HI5 := Lib.hid hj5; have HI6 := Lib.hid (HI4.out.later hb5); clear hi5 hj5 hb5 ho5; obtain ⟨⟨r0', r1, f0, f1⟩, t0, t1, g0, g1⟩ := HX5.out.rcells))
  go_wp2_with fail
  have hsz := HX2.out.size
  have o41 := HO4.out (w.heap.size + 1 + 1) (by have := HX3.out.size; simp; omega)
  have o42 := HO4.out (w.heap.size + 1 + 1 + 1) (by have := HX3.out.size; simp; omega)
  have o51 := HO5.out (w.heap.size + 1 + 1) (by have := HX4.out.size; omega)
  have o52 := HO5.out (w.heap.size + 1 + 1 + 1) (by have := HX4.out.size; omega)
  exact bodyPost_ret (v := .tuple #[.agg #[.int .i64 q.sign, .slice a4 (digs q.natAbs).length c4], .agg #[.int .i64 r.sign, .slice a5 (digs r.natAbs).length c5], .int .i64 0]) (by simp [results, Try.results65, go_sem, r0', r1, t0, t1]) rfl
    ⟨_, _, rfl, (((HI6.out.set o41 0 _).set o41 1 _).set o42 0 _).set o42 1 _, (((HI5.out.set o51 0 _).set o51 1 _).set o52 0 _).set o52 1 _,
      (((HX5.out.below.setCell (by simp; omega) _).setCell (by simp; omega) _).setCell (by simp; omega) _).setCell (by simp; omega) _,
      fun g hg => HO4.out g (by have := HX3.out.size; simp; omega), fun g hg => HO5.out g (by have := HX4.out.size; omega)⟩

set_option maxHeartbeats 4000000 in
theorem rdiv_turn (va vb : Value) (a b : Int) (w : World) (ha : IsB w va a) (hb : IsB w vb b) (hla : (digs a.natAbs).length ≤ 500000) (hlb : (digs b.natAbs).length ≤ 500000) (h0 : b ≠ 0) (hc : a.sign * b.sign < 0) (hk : a.natAbs % b.natAbs ≠ 0) :
    Calls Try.prog 65 #[va, vb] w (AnsD (a.fdiv b) (a.fmod b) 0 w) := by
  obtain ⟨sa, rfl, hia⟩ := id ha
  obtain ⟨sb, rfl, hib⟩ := id hb
  have HA := Lib.hid ha
  have HB := Lib.hid hb
  have HIA := Lib.hid hia
  have HIB := Lib.hid hib
  obtain ⟨aa, ca, rfl, _⟩ := hia.open
  obtain ⟨ab, cb, rfl, _⟩ := hib.open
  obtain ⟨na, ena⟩ : ∃ n, (digs a.natAbs).length = n := ⟨_, rfl⟩
  obtain ⟨nb, enb⟩ : ∃ n, (digs b.natAbs).length = n := ⟨_, rfl⟩
  rw [ena] at HA HIA ⊢
  rw [enb] at HB HIB ⊢
  have hm : (a.natAbs : Int) = (b.natAbs : Int) * ((a.natAbs / b.natAbs : Nat) : Int) + ((a.natAbs % b.natAbs : Nat) : Int) := by exact_mod_cast (Nat.div_add_mod a.natAbs b.natAbs).symm
  have hm1 : a.natAbs % b.natAbs < b.natAbs := Nat.mod_lt _ (by omega)
  have hlq : a.natAbs / b.natAbs ≤ a.natAbs := Nat.div_le_self _ _
  have hcc : a.sign ≠ b.sign := by intro h; rw [h] at hc; rcases sgn_is b with ⟨l, l'⟩ | ⟨l, l'⟩ | ⟨l, l'⟩ <;> rw [l'] at hc <;> omega
  have hF := fl_adj h0 hm (Int.ofNat_lt.2 (Nat.pos_of_ne_zero hk)) (Int.ofNat_lt.2 hm1) (Int.natCast_nonneg _) hcc
  have HZ : Hid ((b.sign == 0) = false) := by unfold Hid; simpa using h0
  have hsp := sign_bd a b
  obtain ⟨q, eq⟩ : ∃ q, a.fdiv b = q := ⟨_, rfl⟩
  obtain ⟨r, er⟩ : ∃ r, a.fmod b = r := ⟨_, rfl⟩
  have HDV : Hid (∀ W, Ints W (.slice aa na ca) (digs a.natAbs) → Ints W (.slice ab nb cb) (digs b.natAbs) → Calls Try.prog 82 #[.slice aa na ca, .slice ab nb cb] W (OverN a.natAbs b.natAbs W)) :=
    fun W h1 h2 => rover_n _ _ _ _ W h1 h2 (by omega) (by omega) (by omega)
  obtain ⟨q0, eq0⟩ : ∃ q0, a.natAbs / b.natAbs = q0 := ⟨_, rfl⟩
  obtain ⟨r0, er0⟩ : ∃ r0, a.natAbs % b.natAbs = r0 := ⟨_, rfl⟩
  rw [eq, er] at hF ⊢
  rw [eq0, er0] at hF
  rw [er0] at hm1
  rw [eq0] at hlq
  have HOV : Hid (∀ W e w', OverN a.natAbs b.natAbs W e w' → ∃ aq cq ar cr, e = .returned (.tuple #[.slice aq (digs q0).length cq, .slice ar (digs r0).length cr]) ∧ Ints w' (.slice aq (digs q0).length cq) (digs q0) ∧ Ints w' (.slice ar (digs r0).length cr) (digs r0) ∧ RowKit.Below W.heap.size W w') := by
    rintro W e w' ⟨vq, vr, h1, h2, h3, h4, _, _⟩
    rw [eq0] at h2
    rw [er0] at h3
    obtain ⟨aq, cq, rfl⟩ := h2.fit
    obtain ⟨ar, cr, rfl⟩ := h3.fit
    have k1 := digs_mono hlq
    have k2 := digs_mono (Nat.le_of_lt hm1)
    exact ⟨aq, cq, ar, cr, h1, h2.ints (by omega), h3.ints (by omega), h4⟩
  have HLQ : Hid ((digs q0).length ≤ 500000) := Nat.le_trans (digs_mono hlq) hla
  have HLR : Hid ((digs r0).length ≤ 500000) := Nat.le_trans (digs_mono (Nat.le_of_lt hm1)) hlb
  obtain ⟨hF1, hF2, hF3, hF4⟩ := hF
  have hqn : q.natAbs = q0 + 1 := by omega
  have hrn : r.natAbs = b.natAbs - r0 := by omega
  have hq1 : (digs (q0 + 1)).length ≤ 500001 := by
    have h1 := digs_lt q0
    have h2 := P_pos (digs q0).length
    have h3 := digs_le (n := q0 + 1) (k := (digs q0).length + 1) (by rw [P_succ]; omega)
    have h4 := HLQ.out
    omega
  have hr1 : (digs (b.natAbs - r0)).length ≤ 500000 := Nat.le_trans (digs_mono (Nat.sub_le _ _)) hlb
  have hsq : q ≠ 0 → (-1 : Int) = q.sign := fun _ => by rw [← hF2]; omega
  have hsr : r ≠ 0 → b.sign = r.sign := fun _ => hF4
  have HSQ : Hid (∀ W A C, Ints W (.slice A (digs (q0 + 1)).length C) (digs (q0 + 1)) → Calls Try.prog 60 #[.int .i64 (-1), .slice A (digs (q0 + 1)).length C] W (AnsB q W)) := fun W A C hW => rmade_n (-1) A C (q0 + 1) q hqn hsq W hW (by omega)
  have HSR : Hid (∀ W A C, Ints W (.slice A (digs (b.natAbs - r0)).length C) (digs (b.natAbs - r0)) → Calls Try.prog 60 #[.int .i64 b.sign, .slice A (digs (b.natAbs - r0)).length C] W (AnsB r W)) := fun W A C hW => rmade_n b.sign A C (b.natAbs - r0) r hrn hsr W hW (by omega)
  have HPL : Hid (∀ W A C v, Ints W (.slice A (digs q0).length C) (digs q0) → Ints W v (digs 1) → Calls Try.prog 67 #[.slice A (digs q0).length C, v] W (Copy (digs (q0 + 1)) W)) := fun W A C v h1 h2 => rplus_n _ v q0 1 W h1 h2 (by have := HLQ.out; omega) (by rw [digs_one]; simp)
  have HMI : Hid (∀ W A C, Ints W (.slice ab nb cb) (digs b.natAbs) → Ints W (.slice A (digs r0).length C) (digs r0) → Calls Try.prog 68 #[.slice ab nb cb, .slice A (digs r0).length C] W (Copy (digs (b.natAbs - r0)) W)) := fun W A C h1 h2 => rminus_n _ _ b.natAbs r0 (Nat.le_of_lt hm1) W h1 h2 (by omega)
  have HL6 := Lib.hid hq1
  have HL7 := Lib.hid hr1
  obtain ⟨sp, esp⟩ : ∃ sp, a.sign * b.sign = sp := ⟨_, rfl⟩
  have HW : Hid (IntKind.i64.wrap (a.sign * b.sign) = sp) := by unfold Hid; rw [esp] at hsp ⊢; exact IntWalk.i64_in _ (by omega)
  have HG : Hid (decide (sp ≥ 0) = false) := by unfold Hid; rw [esp] at hc; exact decide_eq_false (by omega)
  obtain ⟨lq, elq⟩ : ∃ lq, (digs q0).length = lq := ⟨_, rfl⟩
  obtain ⟨lr, elr⟩ : ∃ lr, (digs r0).length = lr := ⟨_, rfl⟩
  have HK : Hid (((lr : Int) == 0) = false) := by
    unfold Hid
    have := digs_pos_len (n := r0) (by omega)
    rw [elr] at this
    simp; omega
  have HK2 : Hid (lr ≠ 0) := by
    unfold Hid
    have := digs_pos_len (n := r0) (by omega)
    omega
  rw [elq] at HOV HPL
  rw [elr] at HOV HMI
  have hx := Bx2.start w a.sign (.slice aa na ca) b.sign (.slice ab nb cb)
  have HX0 := Lib.hid hx
  clear ha hb hia hib hx ena enb hla hlb h0 hc hsp eq er eq0 er0 hF1 hF2 hF3 hF4 hm hm1 hlq hcc hsr hsq hqn hrn esp elq elr hk hq1 hr1
  go_enter Try.func65, Try.ntmps65
  go_wp2_with fail
  refine (risb_any (HA.out.later HX0.out.below)).mono ?_
  rintro e w1 ⟨rfl, hb1⟩
  have HX1 := Lib.hid (HX0.out.later hb1)
  obtain ⟨c00, c01, c10, c11⟩ := HX1.out.cells
  clear hb1
  go_wp2_with fail
  refine (risb_any (HB.out.later HX1.out.below)).mono ?_
  rintro e w2 ⟨rfl, hb2⟩
  have HX2 := Lib.hid (HX1.out.later hb2)
  obtain ⟨d00, d01, d10, d11⟩ := HX2.out.cells
  clear hb2 c00 c01 c10 c11
  have hz := HZ.out
  go_wp2_with fail
  refine (HDV.out _ (HIA.out.later HX2.out.below) (HIB.out.later HX2.out.below)).mono ?_
  rintro e w3 ho
  obtain ⟨aq, cq, ar, cr, rfl, hiq, hir, hb3⟩ := HOV.out _ _ _ ho
  have HX3 := Lib.hid (HX2.out.later hb3)
  have HIQ := Lib.hid hiq
  have HIR := Lib.hid hir
  obtain ⟨c0, c1, c2, c3⟩ := HX3.out.cells
  clear ho hiq hir hb3 d00 d01 d10 d11 hz
  have hw := HW.out
  have hg := HG.out
  have hk := HK.out
  have hk2 := HK2.out
  go_wp2_with fail
  clear c0 c1 c2 c3
  have HXB := Lib.hid (HX3.out.heap (W' := w3.drew) rfl rfl rfl rfl)
  have e3 := HXB.out.cells
  have HXA := Lib.hid ((HX3.out.later (below_alloc w3 (.cells #[.int .i64 1] 3))).heap (W' := (w3.alloc (.cells #[.int .i64 1] 3)).drew) rfl rfl rfl rfl)
  have e4 := HXA.out.cells
  have HAL : Hid (RowKit.Below w3.heap.size w3 (w3.alloc (.cells #[.int .i64 1] 3)).drew) := (below_alloc w3 _).drew
  go_region_held3 (fun W => W.cell? ⟨w.heap.size, 0, none⟩ = some (.int .i64 a.sign) ∧ W.cell? ⟨w.heap.size, 1, none⟩ = some (.slice aa na ca) ∧ W.cell? ⟨w.heap.size + 1, 0, none⟩ = some (.int .i64 b.sign) ∧ W.cell? ⟨w.heap.size + 1, 1, none⟩ = some (.slice ab nb cb))
    (first | (with_reducible exact e3) | (with_reducible exact e4) | (with_reducible exact x4) | (with_reducible exact x5) | (with_reducible exact x6) | (with_reducible exact x7) | (with_reducible exact HX5.out.stay1 _ _) | (with_reducible exact HX5.out.stay2 _ _ _ _))
    (first
      | (go_at_call 67; (with_reducible refine (HPL.out _ _ _ _ ?_ ?_).mono ?_); (focus exact HIQ.out.later HAL.out); (focus exact ints_digs1 _); rintro e w6 ⟨v6, rfl, ho6, hb6, _⟩; obtain ⟨a6, c6, rfl⟩ := ho6.fit; have HX6 := Lib.hid (HXA.out.later hb6); have x6 := HX6.out.cells; have HI6 := Lib.hid (ho6.ints (by have := HL6.out; omega)); have HR6 := Lib.hid ((HIR.out.later HAL.out).later hb6); clear ho6 hb6)
      | (go_at_call 60; (with_reducible refine (HSQ.out _ _ _ ?_).mono ?_); (focus exact HI6.out); rintro e w4 ⟨s4, rfl, hi4, hb4, ho4⟩; obtain ⟨a4, c4, rfl, hj4⟩ := hi4.open; have HO4 := Lib.hid (ho4.mono HX6.out.size); have HF4 := Lib.hid (ho4.mono HX6.out.below.size); have HX4 := Lib.hid (HX6.out.later hb4); have HR4 := Lib.hid (HR6.out.later hb4); have x4 := HX4.out.cells; have HI4 := Lib.hid hj4; clear hi4 hj4 hb4 ho4)
      | (go_at_call 68; (with_reducible refine (HMI.out _ _ _ ?_ ?_).mono ?_); (focus exact HIB.out.later HX4.out.below); (focus exact HR4.out); rintro e w7 ⟨v7, rfl, ho7, hb7, _⟩; obtain ⟨a7, c7, rfl⟩ := ho7.fit; have HX7 := Lib.hid (HX4.out.later hb7); have x7 := HX7.out.cells; have HI7 := Lib.hid (ho7.ints (by have := HL7.out; omega)); have HI8 := Lib.hid (HI4.out.later hb7); clear ho7 hb7)
      | (go_at_call 60; (with_reducible refine (HSR.out _ _ _ ?_).mono ?_); (focus exact HI7.out); rintro e w5 ⟨s5, rfl, hi5, hb5, ho5⟩; obtain ⟨a5, c5, rfl, hj5⟩ := hi5.open; have HO5 := Lib.hid (ho5.mono HX7.out.size); have HF5 := Lib.hid (ho5.mono HX7.out.below.size); have HX5 := Lib.hid (HX7.out.later hb5); have x5 := HX5.out.cells; have HI5 := Lib.hid hj5; have HI9 := Lib.hid (HI8.out.later hb5); clear hi5 hj5 hb5 ho5; obtain ⟨⟨r0', r1, f0, f1⟩, t0, t1, g0, g1⟩ := HX5.out.rcells))
  go_wp2_with fail
  have o41 := HO4.out (w.heap.size + 1 + 1) (by simp)
  have o42 := HO4.out (w.heap.size + 1 + 1 + 1) (by simp)
  have o51 := HO5.out (w.heap.size + 1 + 1) (by simp)
  have o52 := HO5.out (w.heap.size + 1 + 1 + 1) (by simp)
  exact bodyPost_ret (v := .tuple #[.agg #[.int .i64 q.sign, .slice a4 (digs q.natAbs).length c4], .agg #[.int .i64 r.sign, .slice a5 (digs r.natAbs).length c5], .int .i64 0]) (by simp [results, Try.results65, go_sem, r0', r1, t0, t1]) rfl
    ⟨_, _, rfl, (((HI9.out.set o41 0 _).set o41 1 _).set o42 0 _).set o42 1 _, (((HI5.out.set o51 0 _).set o51 1 _).set o52 0 _).set o52 1 _,
      (((HX5.out.below.setCell (by simp; omega) _).setCell (by simp; omega) _).setCell (by simp; omega) _).setCell (by simp; omega) _, HF4.out, HF5.out⟩

theorem rdiv_ok (va vb : Value) (a b : Int) (w : World) (ha : IsB w va a) (hb : IsB w vb b) (hla : (digs a.natAbs).length ≤ 500000) (hlb : (digs b.natAbs).length ≤ 500000) (h0 : b ≠ 0) :
    Calls Try.prog 65 #[va, vb] w (AnsD (a.fdiv b) (a.fmod b) 0 w) := by
  by_cases h : 0 ≤ a.sign * b.sign
  · exact rdiv_plain va vb a b w ha hb hla hlb h0 h
  · by_cases k : a.natAbs % b.natAbs = 0
    · exact rdiv_zeror va vb a b w ha hb hla hlb h0 (by omega) k
    · exact rdiv_turn va vb a b w ha hb hla hlb h0 (by omega) k
end Go.Proofs.Ytmhjejnkphdjpaa.Bi

namespace Go.Proofs.Ytmhjejnkphdjpaa.Bi
open Go.RowKit

set_option maxHeartbeats 8000000 in
theorem rgcd_ok (va vb : Value) (a b : Int) (w : World) (ha : IsB w va a) (hb : IsB w vb b) (hla : (digs a.natAbs).length ≤ 500000) (hlb : (digs b.natAbs).length ≤ 500000) :
    Calls Try.prog 59 #[va, vb] w (Ans (Nat.gcd a.natAbs b.natAbs : Nat) 0 w) := by
  obtain ⟨sa, rfl, hia⟩ := id ha
  obtain ⟨sb, rfl, hib⟩ := id hb
  have HA := Lib.hid ha
  have HB := Lib.hid hb
  have HIA := Lib.hid hia
  have HIB := Lib.hid hib
  obtain ⟨aa, ca, rfl, _⟩ := hia.open
  obtain ⟨ab, cb, rfl, _⟩ := hib.open
  have HLA := Lib.hid hla
  have HLB := Lib.hid hlb
  obtain ⟨na, ena⟩ : ∃ n, (digs a.natAbs).length = n := ⟨_, rfl⟩
  obtain ⟨nb, enb⟩ : ∃ n, (digs b.natAbs).length = n := ⟨_, rfl⟩
  rw [ena] at HA HIA ⊢
  rw [enb] at HB HIB ⊢
  have hx := Bx.start w a.sign (.slice aa na ca) b.sign (.slice ab nb cb)
  have HX0 := Lib.hid hx
  obtain ⟨G, eG⟩ : ∃ G, Nat.gcd a.natAbs b.natAbs = G := ⟨_, rfl⟩
  have HG := Lib.hid eG
  rw [eG]
  clear ha hb hia hib hx ena enb hla hlb eG
  go_enter Try.func59, Try.ntmps59
  go_wp2_with fail
  refine (risb_any (HA.out.later HX0.out.below)).mono ?_
  rintro e w1 ⟨rfl, hb1⟩
  have HX1 := Lib.hid (HX0.out.later hb1)
  obtain ⟨c00, c01, c10, c11⟩ := HX1.out.cells
  clear hb1
  go_wp2_with fail
  refine (risb_any (HB.out.later HX1.out.below)).mono ?_
  rintro e w2 ⟨rfl, hb2⟩
  have HX2 := Lib.hid (HX1.out.later hb2)
  obtain ⟨d00, d01, d10, d11⟩ := HX2.out.cells
  clear hb2 c00 c01 c10 c11
  go_wp2_with fail
  clear d00 d01 d10 d11
  go_loopw [6, 7] (fun x y wr => ∃ X Y : Nat, Ints wr x (digs X) ∧ Ints wr y (digs Y) ∧ Nat.gcd X Y = G ∧ (digs X).length ≤ 500000 ∧ (digs Y).length ≤ 500000 ∧ Bx w a.sign (.slice aa na ca) b.sign (.slice ab nb cb) wr) (fun _ y wr => numOf y wr)
  case atStart => exact ⟨a.natAbs, b.natAbs, HIA.out.later HX2.out.below, HIB.out.later HX2.out.below, HG.out, HLA.out, HLB.out, HX2.out⟩
  case round =>
    obtain ⟨X, Y, hX, hY, hg, hlX, hlY, hB⟩ := hrel
    have hnum := numOf_eq hY
    obtain ⟨ax, cx, rfl, hX2⟩ := hX.open
    obtain ⟨ay, cy, rfl, hY2⟩ := hY.open
    have HX := Lib.hid hX2
    have HY := Lib.hid hY2
    have HGG := Lib.hid hg
    have HLEN := Lib.hid hlX
    have HLEM := Lib.hid hlY
    have HBX := Lib.hid hB
    have HNUM := Lib.hid hnum
    clear hX hY hX2 hY2 hg hlX hlY hB hnum
    by_cases hy0 : 0 < Y
    · have hcall := rover_n _ _ X Y wr HX.out HY.out (Nat.le_trans HLEN.out (by decide)) (Nat.le_trans HLEM.out (by decide)) hy0
      have hpos := digs_pos_len hy0
      have hmod := Nat.mod_lt X hy0
      have HMOD := Lib.hid hmod
      have HL2 : Hid ((digs (X % Y)).length ≤ 500000) := Nat.le_trans (digs_mono (Nat.le_of_lt hmod)) HLEM.out
      have HCALL := Lib.hid hcall
      obtain ⟨lx, elx⟩ : ∃ l, (digs X).length = l := ⟨_, rfl⟩
      obtain ⟨ly, ely⟩ : ∃ l, (digs Y).length = l := ⟨_, rfl⟩
      rw [elx] at HX HCALL ⊢
      rw [ely] at HY HCALL HNUM hpos ⊢
      have HEY := Lib.hid ely
      clear hcall hmod hy0 elx ely
      go_wp2_with fail
      refine HCALL.out.mono ?_
      rintro e w6 ⟨vq, vr, rfl, hoq, hor, hb6, _, _⟩
      obtain ⟨aq, cq, rfl⟩ := hoq.fit
      obtain ⟨ar, cr, rfl⟩ := hor.fit
      have hir := hor.ints (Nat.le_trans HL2.out (by decide))
      have hm := numOf_eq hir
      have HF : Hid (∃ X1 Y1 : Nat, Ints w6 (.slice ay ly cy) (digs X1) ∧ Ints w6 (.slice ar (digs (X % Y)).length cr) (digs Y1) ∧ Nat.gcd X1 Y1 = G ∧ (digs X1).length ≤ 500000 ∧ (digs Y1).length ≤ 500000 ∧ Bx w a.sign (.slice aa na ca) b.sign (.slice ab nb cb) w6) :=
        ⟨Y, X % Y, HY.out.later hb6, hir, by rw [← HGG.out, Nat.gcd_comm Y, ← Nat.gcd_rec, Nat.gcd_comm], HLEM.out, HL2.out, HBX.out.later hb6⟩
      have HM := Lib.hid hm
      obtain ⟨lq, elq⟩ : ∃ l, (digs (X / Y)).length = l := ⟨_, rfl⟩
      obtain ⟨lr, elr⟩ : ∃ l, (digs (X % Y)).length = l := ⟨_, rfl⟩
      rw [elr] at HF HM
      rw [elq, elr]
      clear hoq hor hb6 hir hm elq elr
      go_wp2_with fail
      go_roundw
      case rel => exact HF.out
      case measure =>
        show numOf (.slice ar lr cr) w6 < numOf (.slice ay ly cy) wr
        rw [HM.out, HNUM.out]; exact HMOD.out
    · obtain rfl : Y = 0 := by omega
      have hXG : X = G := by
        have h := HGG.out
        rw [Nat.gcd_zero_right] at h; exact h
      subst hXG
      rw [show (digs 0).length = 0 by rw [digs_zero]; rfl]
      have hm := fun W h => rmade_n 1 ax cx X (X : Int) (by simp) (fun hne => by rw [Int.sign_eq_one_of_pos (by omega)]) W h (Nat.le_trans HLEN.out (by decide))
      have HM := Lib.hid hm
      obtain ⟨lx, elx⟩ : ∃ l, (digs X).length = l := ⟨_, rfl⟩
      rw [elx] at HM HX ⊢
      clear hm elx
      go_wp2_with fail
      refine (HM.out _ HX.out).mono ?_
      rintro e w7 ⟨s7, rfl, hi7, hb7, ho7⟩
      obtain ⟨a7, c7, rfl, hj7⟩ := hi7.open
      have HO7 := Lib.hid ho7
      have HX7 := Lib.hid (HBX.out.later hb7)
      have HI7 := Lib.hid hj7
      clear hi7 hj7 hb7 ho7
      obtain ⟨r0, r1, f0, f1⟩ := HX7.out.rcells
      obtain ⟨sg, esg⟩ : ∃ sg, (X : Int).sign = sg := ⟨_, rfl⟩
      obtain ⟨lg, elg⟩ : ∃ lg, (digs (X : Int).natAbs).length = lg := ⟨_, rfl⟩
      rw [elg] at HI7 HO7
      rw [esg, elg]
      have HSG := Lib.hid esg
      clear esg elg
      go_wp2_with fail
      have hoff := HO7.out (w.heap.size + 1 + 1) HBX.out.size
      exact bodyPost_ret (v := .tuple #[.agg #[.int .i64 sg, .slice a7 lg c7], .int .i64 0]) (by simp [results, Try.results59, go_sem, r0, r1]) rfl
        ⟨_, by rw [HSG.out], (HI7.out.set hoff 0 _).set hoff 1 _, HX7.out.put _ _, fun g hg => HO7.out g (by have := HBX.out.size; omega)⟩
end Go.Proofs.Ytmhjejnkphdjpaa.Bi

namespace Go.Proofs.Ytmhjejnkphdjpaa.Bi
open Go.RowKit

set_option maxHeartbeats 4000000 in
theorem rcompare_ok (va vb : Value) (a b : Int) (w : World) (ha : IsB w va a) (hb : IsB w vb b) :
    Calls Try.prog 44 #[va, vb] w fun e w' => e = .returned (.int .i64 (cmpI a b)) ∧ RowKit.Below w.heap.size w w' := by
  have hsame := fun W (h : IsB W va a) (k : IsB W vb b) => rsame_any va vb a.sign b.sign (digs a.natAbs) (digs b.natAbs) W h.arg k.arg
  obtain ⟨K, eK⟩ : ∃ K, decide (a.sign = b.sign ∧ digs a.natAbs = digs b.natAbs) = K := ⟨_, rfl⟩
  rw [eK] at hsame
  have hK : K = decide (a = b) := by rw [← eK]; exact decide_eq_decide.2 num_eq
  obtain ⟨sa, rfl, hia⟩ := id ha
  obtain ⟨sb, rfl, hib⟩ := id hb
  have HA := Lib.hid ha
  have HB := Lib.hid hb
  have HIA := Lib.hid hia
  have HIB := Lib.hid hib
  obtain ⟨aa, ca, rfl, _⟩ := hia.open
  obtain ⟨ab, cb, rfl, _⟩ := hib.open
  have hless := fun W h k => rless_n (.slice aa (digs a.natAbs).length ca) (.slice ab (digs b.natAbs).length cb) a.natAbs b.natAbs W h k
  obtain ⟨L, eL⟩ : ∃ L, decide (a.natAbs < b.natAbs) = L := ⟨_, rfl⟩
  rw [eL] at hless
  obtain ⟨r, er⟩ : ∃ r, cmpI a b = r := ⟨_, rfl⟩
  have HS1 : Hid (a ≠ b → a.sign = b.sign → a.sign = 1 ∧ r = (if L then -1 else 1) ∨ a.sign = -1 ∧ r = (if L then 1 else -1)) := by
    unfold Hid
    intro hn hs
    subst er
    cases L
    · have hL := of_decide_eq_false eL
      rcases sgn_is a with ⟨k, k'⟩ | ⟨k, k'⟩ | ⟨k, k'⟩ <;> rcases sgn_is b with ⟨l, l'⟩ | ⟨l, l'⟩ | ⟨l, l'⟩ <;> rw [k', l'] at hs <;> first | (exfalso; omega) | (left; refine ⟨k', ?_⟩; rw [cmpI_gt (by omega)]; rfl) | (right; refine ⟨k', ?_⟩; rw [cmpI_lt (by omega)]; rfl)
    · have hL := of_decide_eq_true eL
      rcases sgn_is a with ⟨k, k'⟩ | ⟨k, k'⟩ | ⟨k, k'⟩ <;> rcases sgn_is b with ⟨l, l'⟩ | ⟨l, l'⟩ | ⟨l, l'⟩ <;> rw [k', l'] at hs <;> first | (exfalso; omega) | (left; refine ⟨k', ?_⟩; rw [cmpI_lt (by omega)]; rfl) | (right; refine ⟨k', ?_⟩; rw [cmpI_gt (by omega)]; rfl)
  have HS2 : Hid (a.sign ≠ b.sign → cmpI a.sign b.sign = r) := by rw [← er]; exact cmp_signs'
  have HEQ : Hid (a = b → r = 0) := by unfold Hid; rintro rfl; rw [← er]; exact cmpI_eq _
  obtain ⟨na, ena⟩ : ∃ n, (digs a.natAbs).length = n := ⟨_, rfl⟩
  obtain ⟨nb, enb⟩ : ∃ n, (digs b.natAbs).length = n := ⟨_, rfl⟩
  rw [ena] at HA HIA hless hsame ⊢
  rw [enb] at HB HIB hless hsame ⊢
  have hx := Bo.start w a.sign (.slice aa na ca) b.sign (.slice ab nb cb)
  have HX0 := Lib.hid hx
  have HSAME := Lib.hid hsame
  have HLESS := Lib.hid hless
  rw [er]
  have HK := Lib.hid hK
  clear ha hb hia hib hx ena enb er eL eK hsame hless hK
  by_cases hab : a = b
  · obtain rfl : r = 0 := HEQ.out hab
    have hKt : K = true := by rw [HK.out]; exact decide_eq_true hab
    subst hKt
    clear hab HS1 HS2 HEQ HK
    go_enter Try.func44, Try.ntmps44
    go_wp2_with fail
    refine (risb_any (HA.out.later HX0.out.below)).mono ?_
    rintro e w1 ⟨rfl, hb1⟩
    have HX1 := Lib.hid (HX0.out.later hb1)
    obtain ⟨c00, c01, c10, c11⟩ := HX1.out.cells
    clear hb1
    go_wp2_with fail
    refine (risb_any (HB.out.later HX1.out.below)).mono ?_
    rintro e w2 ⟨rfl, hb2⟩
    have HX2 := Lib.hid (HX1.out.later hb2)
    obtain ⟨d00, d01, d10, d11⟩ := HX2.out.cells
    clear hb2 c00 c01 c10 c11
    go_wp2_with fail
    refine (HSAME.out _ (HA.out.later HX2.out.below) (HB.out.later HX2.out.below)).mono ?_
    rintro e w3 ⟨rfl, hb3⟩
    have HX3 := Lib.hid (HX2.out.later hb3)
    obtain ⟨c00, c01, c10, c11⟩ := HX3.out.cells
    clear hb3 d00 d01 d10 d11
    go_wp2_with fail
    go_ret
    exact ⟨rfl, HX3.out.below⟩
  · have hKt : K = false := by rw [HK.out]; exact decide_eq_false hab
    subst hKt
    have HS3 := Lib.hid (HS1.out hab)
    clear HS1 HEQ HK
    obtain ⟨x, ex⟩ : ∃ x, a.sign = x := ⟨_, rfl⟩
    obtain ⟨y, ey⟩ : ∃ y, b.sign = y := ⟨_, rfl⟩
    have hxb := sgn_bd a
    have hyb := sgn_bd b
    rw [ex] at hxb HS2 HS3 HX0 HA HSAME ⊢
    rw [ey] at hyb HS2 HS3 HX0 HB HSAME ⊢
    clear ex ey hab
    by_cases hxy : x = y
    · subst hxy
      have H4 := Lib.hid (HS3.out rfl)
      clear HS2 HS3 hyb
      go_enter Try.func44, Try.ntmps44
      go_wp2_with fail
      refine (risb_any (HA.out.later HX0.out.below)).mono ?_
      rintro e w1 ⟨rfl, hb1⟩
      have HX1 := Lib.hid (HX0.out.later hb1)
      obtain ⟨c00, c01, c10, c11⟩ := HX1.out.cells
      clear hb1
      go_wp2_with fail
      refine (risb_any (HB.out.later HX1.out.below)).mono ?_
      rintro e w2 ⟨rfl, hb2⟩
      have HX2 := Lib.hid (HX1.out.later hb2)
      obtain ⟨d00, d01, d10, d11⟩ := HX2.out.cells
      clear hb2 c00 c01 c10 c11
      go_wp2_with fail
      refine (HSAME.out _ (HA.out.later HX2.out.below) (HB.out.later HX2.out.below)).mono ?_
      rintro e w3 ⟨rfl, hb3⟩
      have HX3 := Lib.hid (HX2.out.later hb3)
      obtain ⟨c00, c01, c10, c11⟩ := HX3.out.cells
      clear hb3 d00 d01 d10 d11
      have HI1 := Lib.hid (HIA.out.later HX3.out.below)
      have HI2 := Lib.hid (HIB.out.later HX3.out.below)
      rcases H4.out with ⟨rfl, e4⟩ | ⟨rfl, e4⟩ <;> cases L <;> simp only [Bool.false_eq_true, ↓reduceIte] at e4 <;> subst e4
      all_goals
        clear H4
        go_wp2_with fail
        go_quiet ((go_at_call 63; exact Calls.quiet_of ((HLESS.out _ (HI1.out.drewN _) (HI2.out.drewN _)).mono fun _ _ h => ⟨h.1, 0, h.2.symm⟩)))
        go_wp2_with fail
        go_ret
        exact ⟨rfl, HX3.out.below.trans ((below_drewN' nq).mono HX3.out.below.size)⟩
    · have HC := Lib.hid (HS2.out hxy)
      clear HS2 HS3
      rcases Int.lt_or_gt_of_ne hxy with hlt | hlt
      · obtain rfl : r = -1 := by rw [← HC.out]; exact cmpI_lt hlt
        clear HC
        go_enter Try.func44, Try.ntmps44
        go_wp2_with fail
        refine (risb_any (HA.out.later HX0.out.below)).mono ?_
        rintro e w1 ⟨rfl, hb1⟩
        have HX1 := Lib.hid (HX0.out.later hb1)
        obtain ⟨c00, c01, c10, c11⟩ := HX1.out.cells
        clear hb1
        go_wp2_with fail
        refine (risb_any (HB.out.later HX1.out.below)).mono ?_
        rintro e w2 ⟨rfl, hb2⟩
        have HX2 := Lib.hid (HX1.out.later hb2)
        obtain ⟨d00, d01, d10, d11⟩ := HX2.out.cells
        clear hb2 c00 c01 c10 c11
        go_wp2_with fail
        refine (HSAME.out _ (HA.out.later HX2.out.below) (HB.out.later HX2.out.below)).mono ?_
        rintro e w3 ⟨rfl, hb3⟩
        have HX3 := Lib.hid (HX2.out.later hb3)
        obtain ⟨c00, c01, c10, c11⟩ := HX3.out.cells
        clear hb3 d00 d01 d10 d11
        have hq : (x != y) = true := by simpa using hxy
        have hq2 : decide (x < y) = true := decide_eq_true hlt
        go_wp2_with fail
        go_ret
        exact ⟨rfl, HX3.out.below⟩
      · obtain rfl : r = 1 := by rw [← HC.out]; exact cmpI_gt hlt
        clear HC
        go_enter Try.func44, Try.ntmps44
        go_wp2_with fail
        refine (risb_any (HA.out.later HX0.out.below)).mono ?_
        rintro e w1 ⟨rfl, hb1⟩
        have HX1 := Lib.hid (HX0.out.later hb1)
        obtain ⟨c00, c01, c10, c11⟩ := HX1.out.cells
        clear hb1
        go_wp2_with fail
        refine (risb_any (HB.out.later HX1.out.below)).mono ?_
        rintro e w2 ⟨rfl, hb2⟩
        have HX2 := Lib.hid (HX1.out.later hb2)
        obtain ⟨d00, d01, d10, d11⟩ := HX2.out.cells
        clear hb2 c00 c01 c10 c11
        go_wp2_with fail
        refine (HSAME.out _ (HA.out.later HX2.out.below) (HB.out.later HX2.out.below)).mono ?_
        rintro e w3 ⟨rfl, hb3⟩
        have HX3 := Lib.hid (HX2.out.later hb3)
        obtain ⟨c00, c01, c10, c11⟩ := HX3.out.cells
        clear hb3 d00 d01 d10 d11
        have hq : (x != y) = true := by simpa using hxy
        have hq2 : decide (x < y) = false := decide_eq_false (by omega)
        go_wp2_with fail
        go_ret
        exact ⟨rfl, HX3.out.below⟩
end Go.Proofs.Ytmhjejnkphdjpaa.Bi

namespace Go.Proofs.Ytmhjejnkphdjpaa.Bi
open Go.RowKit

set_option maxHeartbeats 2000000 in
theorem rof_zero (w : World) : Calls Try.prog 46 #[.int .i64 0] w (AnsB 0 w) := by
  have HR : Hid (Res w (w.alloc (.cells #[.int .i64 0, .slice none 0 0] 32))) := alloc_at _ _
  obtain ⟨r0, r1, f0, f1⟩ := HR.out.cells
  go_enter Try.func46, Try.ntmps46
  go_wp2_with fail
  exact bodyPost_ret (v := .agg #[.int .i64 0, .slice none 0 0]) (by simp [results, Try.results46, go_sem]) rfl
    ⟨_, rfl, by rw [show (0 : Int).natAbs = 0 from rfl, digs_zero]; exact Ints.nil _, below_alloc _ _, fun g _ => off_nil g 0 0⟩

set_option maxHeartbeats 4000000 in
theorem rof_pos (n : Int) (h0 : -9223372036854775808 ≤ n) (h1 : n ≤ 9223372036854775807) (hn : 0 < n) (w : World) :
    Calls Try.prog 46 #[.int .i64 n] w (AnsB n w) := by
  have hR : OfR w n (.slice none 0 0) [] n.natAbs (w.alloc (.cells #[.int .i64 0, .slice none 0 0] 32)) :=
    ⟨OwnI.nil _, by simp, below_alloc _ _, alloc_at _ _, fun b hb => by simp [blk] at hb, by omega⟩
  have HR := Lib.hid hR
  have HN : Hid (n.natAbs ≤ 9223372036854775808) := by unfold Hid; omega
  have HM : Hid (∀ W A C, Ints W (.slice A (digs n.natAbs).length C) (digs n.natAbs) → Calls Try.prog 60 #[.int .i64 (1), .slice A (digs n.natAbs).length C] W (AnsB n W)) := fun W A C hW => rmade_n (1) A C n.natAbs n rfl (fun _ => by rw [Int.sign_eq_one_of_pos hn]) W hW (Nat.le_trans (digs_len4 (by omega)) (by decide))
  clear hR
  have hz : (n == 0) = false := by simp; omega
  have hl : decide (n < 0) = false := by simp; omega
  have HRN : Hid (∃ R : Nat, n = (R : Int) ∧ n.natAbs = R) := ⟨n.natAbs, by omega, rfl⟩
  go_enter Try.func46, Try.ntmps46
  go_wp2_with fail
  clear hz hl
  go_loopw [0, 4] (fun r v wr => ∃ (R : Nat) (l : List Int) (ρ : Int), r = .int .i64 ρ ∧ ρ = (R : Int) ∧ R ≤ 9223372036854775808 ∧ OfR w n v l R wr) (fun r _ _ => (intOf r).natAbs)
  case atStart =>
    obtain ⟨R, e1, e2⟩ := HRN.out
    exact ⟨R, [], n, rfl, e1, by have := HN.out; omega, by rw [← e2]; exact HR.out⟩
  case round =>
    obtain ⟨R, l, ρ, rfl, hρ, hle, hO⟩ := hrel
    obtain ⟨a0, c0, rfl, _, _⟩ := hO.own.shape
    by_cases hR0 : R = 0
    · subst hR0
      obtain rfl : ρ = 0 := by omega
      have hl4 := hO.len HN.out
      have he := hO.eq
      rw [digs_zero, List.append_nil] at he
      have hi := hO.own.ints (by omega)
      rw [← he] at hi
      have HI := Lib.hid hi
      have HO := Lib.hid hO
      rw [← he] at HO ⊢
      clear hO hi hl4 he hρ hle
      go_wp2_with fail
      refine (HM.out _ _ _ HI.out).mono ?_
      rintro e w7 ⟨s7, rfl, hi7, hb7, ho7⟩
      obtain ⟨a7, c7, rfl, hj7⟩ := hi7.open
      have HRES : Hid (Res w w7) := by
        have hres := HO.out.res
        have hsz : w.heap.size < wr.heap.size := (Array.getElem?_eq_some_iff.1 hres).1
        exact (hb7.block _ hsz).trans hres
      have HB7 := Lib.hid (HO.out.below.trans (hb7.mono HO.out.below.size))
      have HI7 := Lib.hid hj7
      have HO7 := Lib.hid ho7
      obtain ⟨r0, r1, f0, f1⟩ := HRES.out.cells
      clear hi7 hj7 hb7 ho7
      go_wp2_with fail
      have hsz : w.heap.size < wr.heap.size := (Array.getElem?_eq_some_iff.1 HO.out.res).1
      have hoff := HO7.out w.heap.size hsz
      exact bodyPost_ret (v := .agg #[.int .i64 n.sign, .slice a7 (digs n.natAbs).length c7]) (by simp [results, Try.results46, go_sem, r0, r1]) rfl
        ⟨_, rfl, (HI7.out.set hoff 0 _).set hoff 1 _, (HB7.out.setCell (Nat.le_refl _) _).setCell (Nat.le_refl _) _, HO7.out.mono (Nat.le_of_lt hsz)⟩
    · have hpos : 0 < R := by omega
      obtain ⟨a, c, w', hrun, hO'⟩ := hO.next HN.out hpos
      obtain ⟨y, ey⟩ : ∃ y : Nat, R % 1048576 = y := ⟨_, rfl⟩
      obtain ⟨q, eq⟩ : ∃ q : Nat, R / 1048576 = q := ⟨_, rfl⟩
      rw [ey] at hrun hO'
      rw [eq] at hO'
      obtain ⟨t, et⟩ : ∃ t, (y : Int) = t := ⟨_, rfl⟩
      obtain ⟨u, eu⟩ : ∃ u, (q : Int) = u := ⟨_, rfl⟩
      have hmod : Int.tmod ρ 1048576 = t := by rw [hρ, ← et, Int.tmod_eq_emod_of_nonneg (by omega)]; omega
      have hdiv : Int.tdiv ρ 1048576 = u := by rw [hρ, ← eu, Int.tdiv_eq_ediv_of_nonneg (by omega)]; omega
      have hw1 : IntKind.i64.wrap t = t := IntWalk.i64_in _ (by omega)
      have hw2 : IntKind.i64.wrap u = u := IntWalk.i64_in _ (by omega)
      have hw3 : IntKind.i64.wrap (-t) = -t := IntWalk.i64_in _ (by omega)
      have hne : (ρ != 0) = true := by simp; omega
      have hun : u.natAbs < ρ.natAbs := by omega
      have HU := Lib.hid hun
      have HQL : Hid (q ≤ 9223372036854775808) := by unfold Hid; omega
      have HO' := Lib.hid hO'
      have HEU : Hid (u = (q : Int)) := eu.symm
      obtain ⟨Y, eY⟩ : ∃ Y : Int, (y : Int) = Y := ⟨_, rfl⟩
      rw [eY] at hrun HO'
      have hd : decide (t < 0) = false := decide_eq_false (by omega)
      obtain rfl : Y = t := by omega
      clear hO ey eq et eu hρ hle hR0 hpos eY hun hw3
      go_wp2_with (at_builtin; refine Lib.wpList_append_run _ rfl _ _ _ _ rfl _ _ rfl rfl _ _ (hrun _) ?_)
      go_roundw
      case rel => exact ⟨q, _, _, rfl, HEU.out, HQL.out, HO'.out⟩
      case measure => exact HU.out

set_option maxHeartbeats 4000000 in
theorem rof_neg (n : Int) (h0 : -9223372036854775808 ≤ n) (h1 : n ≤ 9223372036854775807) (hn : n < 0) (w : World) :
    Calls Try.prog 46 #[.int .i64 n] w (AnsB n w) := by
  have hR : OfR w n (.slice none 0 0) [] n.natAbs (w.alloc (.cells #[.int .i64 0, .slice none 0 0] 32)) :=
    ⟨OwnI.nil _, by simp, below_alloc _ _, alloc_at _ _, fun b hb => by simp [blk] at hb, by omega⟩
  have HR := Lib.hid hR
  have HN : Hid (n.natAbs ≤ 9223372036854775808) := by unfold Hid; omega
  have HM : Hid (∀ W A C, Ints W (.slice A (digs n.natAbs).length C) (digs n.natAbs) → Calls Try.prog 60 #[.int .i64 (-1), .slice A (digs n.natAbs).length C] W (AnsB n W)) := fun W A C hW => rmade_n (-1) A C n.natAbs n rfl (fun _ => by rw [Int.sign_eq_neg_one_of_neg hn]) W hW (Nat.le_trans (digs_len4 (by omega)) (by decide))
  clear hR
  have hz : (n == 0) = false := by simp; omega
  have hl : decide (n < 0) = true := by simp; omega
  have HRN : Hid (∃ R : Nat, n = -(R : Int) ∧ n.natAbs = R) := ⟨n.natAbs, by omega, rfl⟩
  go_enter Try.func46, Try.ntmps46
  go_wp2_with fail
  clear hz hl
  go_loopw [0, 4] (fun r v wr => ∃ (R : Nat) (l : List Int) (ρ : Int), r = .int .i64 ρ ∧ ρ = -(R : Int) ∧ R ≤ 9223372036854775808 ∧ OfR w n v l R wr) (fun r _ _ => (intOf r).natAbs)
  case atStart =>
    obtain ⟨R, e1, e2⟩ := HRN.out
    exact ⟨R, [], n, rfl, e1, by have := HN.out; omega, by rw [← e2]; exact HR.out⟩
  case round =>
    obtain ⟨R, l, ρ, rfl, hρ, hle, hO⟩ := hrel
    obtain ⟨a0, c0, rfl, _, _⟩ := hO.own.shape
    by_cases hR0 : R = 0
    · subst hR0
      obtain rfl : ρ = 0 := by omega
      have hl4 := hO.len HN.out
      have he := hO.eq
      rw [digs_zero, List.append_nil] at he
      have hi := hO.own.ints (by omega)
      rw [← he] at hi
      have HI := Lib.hid hi
      have HO := Lib.hid hO
      rw [← he] at HO ⊢
      clear hO hi hl4 he hρ hle
      go_wp2_with fail
      refine (HM.out _ _ _ HI.out).mono ?_
      rintro e w7 ⟨s7, rfl, hi7, hb7, ho7⟩
      obtain ⟨a7, c7, rfl, hj7⟩ := hi7.open
      have HRES : Hid (Res w w7) := by
        have hres := HO.out.res
        have hsz : w.heap.size < wr.heap.size := (Array.getElem?_eq_some_iff.1 hres).1
        exact (hb7.block _ hsz).trans hres
      have HB7 := Lib.hid (HO.out.below.trans (hb7.mono HO.out.below.size))
      have HI7 := Lib.hid hj7
      have HO7 := Lib.hid ho7
      obtain ⟨r0, r1, f0, f1⟩ := HRES.out.cells
      clear hi7 hj7 hb7 ho7
      go_wp2_with fail
      have hsz : w.heap.size < wr.heap.size := (Array.getElem?_eq_some_iff.1 HO.out.res).1
      have hoff := HO7.out w.heap.size hsz
      exact bodyPost_ret (v := .agg #[.int .i64 n.sign, .slice a7 (digs n.natAbs).length c7]) (by simp [results, Try.results46, go_sem, r0, r1]) rfl
        ⟨_, rfl, (HI7.out.set hoff 0 _).set hoff 1 _, (HB7.out.setCell (Nat.le_refl _) _).setCell (Nat.le_refl _) _, HO7.out.mono (Nat.le_of_lt hsz)⟩
    · have hpos : 0 < R := by omega
      obtain ⟨a, c, w', hrun, hO'⟩ := hO.next HN.out hpos
      obtain ⟨y, ey⟩ : ∃ y : Nat, R % 1048576 = y := ⟨_, rfl⟩
      obtain ⟨q, eq⟩ : ∃ q : Nat, R / 1048576 = q := ⟨_, rfl⟩
      rw [ey] at hrun hO'
      rw [eq] at hO'
      obtain ⟨t, et⟩ : ∃ t, -(y : Int) = t := ⟨_, rfl⟩
      obtain ⟨u, eu⟩ : ∃ u, -(q : Int) = u := ⟨_, rfl⟩
      have hmod : Int.tmod ρ 1048576 = t := by rw [hρ, ← et, Int.neg_tmod, Int.tmod_eq_emod_of_nonneg (by omega)]; omega
      have hdiv : Int.tdiv ρ 1048576 = u := by rw [hρ, ← eu, Int.neg_tdiv, Int.tdiv_eq_ediv_of_nonneg (by omega)]; omega
      have hw1 : IntKind.i64.wrap t = t := IntWalk.i64_in _ (by omega)
      have hw2 : IntKind.i64.wrap u = u := IntWalk.i64_in _ (by omega)
      have hw3 : IntKind.i64.wrap (-t) = -t := IntWalk.i64_in _ (by omega)
      have hne : (ρ != 0) = true := by simp; omega
      have hun : u.natAbs < ρ.natAbs := by omega
      have HU := Lib.hid hun
      have HQL : Hid (q ≤ 9223372036854775808) := by unfold Hid; omega
      have HO' := Lib.hid hO'
      have HEU : Hid (u = -(q : Int)) := eu.symm
      obtain ⟨Y, eY⟩ : ∃ Y : Int, (y : Int) = Y := ⟨_, rfl⟩
      rw [eY] at hrun HO'
      by_cases ht : t < 0
      · have hd : decide (t < 0) = true := decide_eq_true ht
        obtain rfl : Y = -t := by omega
        clear hO ey eq et eu hρ hle hR0 hpos eY hun
        go_wp2_with (at_builtin; refine Lib.wpList_append_run _ rfl _ _ _ _ rfl _ _ rfl rfl _ _ (hrun _) ?_)
        go_roundw
        case rel => exact ⟨q, _, _, rfl, HEU.out, HQL.out, HO'.out⟩
        case measure => exact HU.out
      · have hd : decide (t < 0) = false := decide_eq_false ht
        obtain rfl : Y = t := by omega
        clear hO ey eq et eu hρ hle hR0 hpos eY hun hw3
        go_wp2_with (at_builtin; refine Lib.wpList_append_run _ rfl _ _ _ _ rfl _ _ rfl rfl _ _ (hrun _) ?_)
        go_roundw
        case rel => exact ⟨q, _, _, rfl, HEU.out, HQL.out, HO'.out⟩
        case measure => exact HU.out

theorem rof_any (n : Int) (h0 : -9223372036854775808 ≤ n) (h1 : n ≤ 9223372036854775807) (w : World) :
    Calls Try.prog 46 #[.int .i64 n] w (AnsB n w) := by
  rcases Int.lt_trichotomy n 0 with h | h | h
  · exact rof_neg n h0 h1 h w
  · subst h; exact rof_zero w
  · exact rof_pos n h0 h1 h w
end Go.Proofs.Ytmhjejnkphdjpaa.Bi

namespace Go.Proofs.Ytmhjejnkphdjpaa.Bi
open Go.RowKit

/-- The box of one argument. -/
structure Bu (w : World) (sa : Int) (va : Value) (W : World) : Prop where
  cells : W.cell? ⟨w.heap.size, 0, none⟩ = some (.int .i64 sa) ∧ W.cell? ⟨w.heap.size, 1, none⟩ = some va
  below : RowKit.Below w.heap.size w W
  size : w.heap.size < W.heap.size
theorem Bu.start (w : World) (sa : Int) (va : Value) : Bu w sa va (w.alloc (.cells #[.int .i64 sa, va] 32)) := by
  have h' := alloc_at w (.cells #[.int .i64 sa, va] 32)
  exact ⟨⟨by rw [cell_of_row _ _ _ _ _ _ h']; rfl, by rw [cell_of_row _ _ _ _ _ _ h']; rfl⟩, below_alloc _ _, by simp⟩
theorem Bu.later {w W W' : World} {sa : Int} {va : Value} (h : Bu w sa va W) (hb : RowKit.Below W.heap.size W W') : Bu w sa va W' := by
  have hz := h.size
  obtain ⟨c0, c1⟩ := h.cells
  have hc : ∀ b o, b < W.heap.size → W'.cell? ⟨b, o, none⟩ = W.cell? ⟨b, o, none⟩ := fun b o hb' => hb.cell (p := ⟨b, o, none⟩) hb'
  exact ⟨⟨(hc _ _ (by omega)).trans c0, (hc _ _ (by omega)).trans c1⟩, h.below.trans (hb.mono h.below.size), Nat.lt_of_lt_of_le hz hb.size⟩
theorem Bu.heap {w W W' : World} {sa : Int} {va : Value} (h : Bu w sa va W) (hb : W'.heap = W.heap) (h1 : W'.os = W.os) (h2 : W'.tape = W.tape) (h3 : W'.output = W.output) : Bu w sa va W' :=
  h.later ⟨h1, h2, h3, by rw [hb]; exact Nat.le_refl _, fun k _ => by rw [hb]⟩

end Go.Proofs.Ytmhjejnkphdjpaa.Bi
