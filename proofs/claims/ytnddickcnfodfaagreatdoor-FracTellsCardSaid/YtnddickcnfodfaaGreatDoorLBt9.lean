/- kitbagref04: Add. -/
import Derived.Test.YtnddickcnfodfaaGreatDoorLBt8
set_option maxRecDepth 100000
namespace Go.Proofs.YtnddickcnfodfaaGreatDoor.Bi
open Go.RowKit

set_option maxHeartbeats 8000000 in
theorem radd_zz (aa ab : Option Addr) (na nb ca cb : Nat) (a b : Int) (w : World) (ha : IsB w (.agg #[.int .i64 0, .slice aa na ca]) a) (hb : IsB w (.agg #[.int .i64 0, .slice ab nb cb]) b) (hia : Ints w (.slice aa na ca) (digs a.natAbs)) (hib : Ints w (.slice ab nb cb) (digs b.natAbs)) (hla : (digs a.natAbs).length ≤ 100000) (hlb : (digs b.natAbs).length ≤ 100000) (hsa : a.sign = 0) (hsb : b.sign = 0) :
    Calls Tryz.prog 47 #[.agg #[.int .i64 0, .slice aa na ca], .agg #[.int .i64 0, .slice ab nb cb]] w (Ans (a + b) 0 w) := by
  have HA := Lib.hid ha
  have HB := Lib.hid hb
  have HIA := Lib.hid hia
  have HIB := Lib.hid hib
  have h1 := sgn_is a
  have h2 := sgn_is b
  have h3 := sgn_is (a + b)
  have hpn : (a + b).natAbs = a.natAbs + b.natAbs := by omega
  have hlp : (digs (a.natAbs + b.natAbs)).length ≤ 1000000 := by
    have := Sz.add ((Sz.of hla).mono (j := 100000) (by omega)) ((Sz.of hlb).mono (j := 100000) (by omega))
    unfold Sz at this
    rw [hpn] at this
    exact Nat.le_trans (digs_le this) (by omega)
  have hps : a + b ≠ 0 → (0 : Int) = (a + b).sign := by omega
  obtain ⟨p, ep⟩ : ∃ p, a + b = p := ⟨_, rfl⟩
  rw [ep] at hpn hps ⊢
  have HPN := Lib.hid hpn
  have HLP := Lib.hid hlp
  have HPS := Lib.hid hps
  have hx := Bx.start w 0 (.slice aa na ca) 0 (.slice ab nb cb)
  have HX0 := Lib.hid hx
  have hor : bits .or .i64 0 0 = 0 := by kernel_rfl
  clear ha hb hia hib hx hpn hlp hps ep h1 h2 h3 hsa hsb
  go_enter Tryz.func47, Tryz.ntmps47
  go_wp2_with fail
  refine (risb_any (HA.out.later HX0.out.below)).mono ?_
  rintro e w1 ⟨rfl, hb1⟩
  have HX1 := Lib.hid (HX0.out.later hb1)
  obtain ⟨c00, c01, c10, c11⟩ := HX1.out.cells
  clear hb1
  go_wp2_with fail
  refine (risb_any (HB.out.later HX1.out.below)).mono ?_
  rintro e w2 ⟨rfl, hb2⟩
  have HX2 := Lib.hid (HX1.out.later hb2)
  obtain ⟨d00, d01, d10, d11⟩ := HX2.out.cells
  clear hb2 c00 c01 c10 c11
  go_wp2_with fail
  have HXD := Lib.hid (HX2.out.heap (W' := w2.drew) rfl rfl rfl rfl)
  have e2 := HXD.out.cells
  clear d00 d01 d10 d11
  go_region_held3 (fun W => W.cell? ⟨w.heap.size, 0, none⟩ = some (.int .i64 0) ∧ W.cell? ⟨w.heap.size, 1, none⟩ = some (.slice aa na ca) ∧ W.cell? ⟨w.heap.size + 1, 0, none⟩ = some (.int .i64 0) ∧ W.cell? ⟨w.heap.size + 1, 1, none⟩ = some (.slice ab nb cb))
    (first | exact e2 | exact x3 | exact x4 | exact HX4.out.stays _ _)
    (first
      | (go_at_call 73; (with_reducible refine (rplus_n _ _ a.natAbs b.natAbs _ ?_ ?_ (Nat.le_trans hla (by decide)) (Nat.le_trans hlb (by decide))).mono ?_); (focus exact HIA.out.later HXD.out.below); (focus exact HIB.out.later HXD.out.below); rintro e w3 ⟨v3, rfl, ho3, hb3, hf3⟩; obtain ⟨ax, cx, rfl⟩ := ho3.fit; have HX3 := Lib.hid (HXD.out.later hb3); have x3 := HX3.out.cells; have HI3 := Lib.hid (ho3.ints (Nat.le_trans HLP.out (by decide))); clear ho3 hb3 hf3)
      | (go_at_call 71; (with_reducible refine (rmade_n _ ax cx _ p HPN.out HPS.out _ HI3.out (Nat.le_trans HLP.out (by decide))).mono ?_); rintro e w4 ⟨s4, rfl, hi4, hb4, ho4⟩; obtain ⟨a5, c5, rfl, hi5⟩ := hi4.open; have HO4 := Lib.hid (ho4.mono HX3.out.below.size); have HZ4 := Lib.hid (ho4.mono HX3.out.size); have HX4 := Lib.hid (HX3.out.later hb4); have x4 := HX4.out.cells; have HI5 := Lib.hid hi5; clear hi4 hi5 hb4 ho4; obtain ⟨r0, r1, f0, f1⟩ := HX4.out.rcells))
  go_wp2_with fail
  have hoff := HZ4.out (w.heap.size + 1 + 1) (by simp)
  exact bodyPost_ret (v := .tuple #[.agg #[.int .i64 p.sign, .slice a5 (digs p.natAbs).length c5], .int .i64 0]) (by simp [results, Tryz.results47, go_sem, r0, r1]) rfl
    ⟨_, rfl, (HI5.out.set hoff 0 _).set hoff 1 _, HX4.out.put _ _, HO4.out⟩

set_option maxHeartbeats 8000000 in
theorem radd_zp (aa ab : Option Addr) (na nb ca cb : Nat) (a b : Int) (w : World) (ha : IsB w (.agg #[.int .i64 0, .slice aa na ca]) a) (hb : IsB w (.agg #[.int .i64 1, .slice ab nb cb]) b) (hia : Ints w (.slice aa na ca) (digs a.natAbs)) (hib : Ints w (.slice ab nb cb) (digs b.natAbs)) (hla : (digs a.natAbs).length ≤ 100000) (hlb : (digs b.natAbs).length ≤ 100000) (hsa : a.sign = 0) (hsb : b.sign = 1) :
    Calls Tryz.prog 47 #[.agg #[.int .i64 0, .slice aa na ca], .agg #[.int .i64 1, .slice ab nb cb]] w (Ans (a + b) 0 w) := by
  have HA := Lib.hid ha
  have HB := Lib.hid hb
  have HIA := Lib.hid hia
  have HIB := Lib.hid hib
  have h1 := sgn_is a
  have h2 := sgn_is b
  have h3 := sgn_is (a + b)
  have hpn : (a + b).natAbs = a.natAbs + b.natAbs := by omega
  have hlp : (digs (a.natAbs + b.natAbs)).length ≤ 1000000 := by
    have := Sz.add ((Sz.of hla).mono (j := 100000) (by omega)) ((Sz.of hlb).mono (j := 100000) (by omega))
    unfold Sz at this
    rw [hpn] at this
    exact Nat.le_trans (digs_le this) (by omega)
  have hps : a + b ≠ 0 → (1 : Int) = (a + b).sign := by omega
  obtain ⟨p, ep⟩ : ∃ p, a + b = p := ⟨_, rfl⟩
  rw [ep] at hpn hps ⊢
  have HPN := Lib.hid hpn
  have HLP := Lib.hid hlp
  have HPS := Lib.hid hps
  have hx := Bx.start w 0 (.slice aa na ca) 1 (.slice ab nb cb)
  have HX0 := Lib.hid hx
  have hor : bits .or .i64 0 1 = 1 := by kernel_rfl
  clear ha hb hia hib hx hpn hlp hps ep h1 h2 h3 hsa hsb
  go_enter Tryz.func47, Tryz.ntmps47
  go_wp2_with fail
  refine (risb_any (HA.out.later HX0.out.below)).mono ?_
  rintro e w1 ⟨rfl, hb1⟩
  have HX1 := Lib.hid (HX0.out.later hb1)
  obtain ⟨c00, c01, c10, c11⟩ := HX1.out.cells
  clear hb1
  go_wp2_with fail
  refine (risb_any (HB.out.later HX1.out.below)).mono ?_
  rintro e w2 ⟨rfl, hb2⟩
  have HX2 := Lib.hid (HX1.out.later hb2)
  obtain ⟨d00, d01, d10, d11⟩ := HX2.out.cells
  clear hb2 c00 c01 c10 c11
  go_wp2_with fail
  have HXD := Lib.hid (HX2.out.heap (W' := w2.drew) rfl rfl rfl rfl)
  have e2 := HXD.out.cells
  clear d00 d01 d10 d11
  go_region_held3 (fun W => W.cell? ⟨w.heap.size, 0, none⟩ = some (.int .i64 0) ∧ W.cell? ⟨w.heap.size, 1, none⟩ = some (.slice aa na ca) ∧ W.cell? ⟨w.heap.size + 1, 0, none⟩ = some (.int .i64 1) ∧ W.cell? ⟨w.heap.size + 1, 1, none⟩ = some (.slice ab nb cb))
    (first | exact e2 | exact x3 | exact x4 | exact HX4.out.stays _ _)
    (first
      | (go_at_call 73; (with_reducible refine (rplus_n _ _ a.natAbs b.natAbs _ ?_ ?_ (Nat.le_trans hla (by decide)) (Nat.le_trans hlb (by decide))).mono ?_); (focus exact HIA.out.later HXD.out.below); (focus exact HIB.out.later HXD.out.below); rintro e w3 ⟨v3, rfl, ho3, hb3, hf3⟩; obtain ⟨ax, cx, rfl⟩ := ho3.fit; have HX3 := Lib.hid (HXD.out.later hb3); have x3 := HX3.out.cells; have HI3 := Lib.hid (ho3.ints (Nat.le_trans HLP.out (by decide))); clear ho3 hb3 hf3)
      | (go_at_call 71; (with_reducible refine (rmade_n _ ax cx _ p HPN.out HPS.out _ HI3.out (Nat.le_trans HLP.out (by decide))).mono ?_); rintro e w4 ⟨s4, rfl, hi4, hb4, ho4⟩; obtain ⟨a5, c5, rfl, hi5⟩ := hi4.open; have HO4 := Lib.hid (ho4.mono HX3.out.below.size); have HZ4 := Lib.hid (ho4.mono HX3.out.size); have HX4 := Lib.hid (HX3.out.later hb4); have x4 := HX4.out.cells; have HI5 := Lib.hid hi5; clear hi4 hi5 hb4 ho4; obtain ⟨r0, r1, f0, f1⟩ := HX4.out.rcells))
  go_wp2_with fail
  have hoff := HZ4.out (w.heap.size + 1 + 1) (by simp)
  exact bodyPost_ret (v := .tuple #[.agg #[.int .i64 p.sign, .slice a5 (digs p.natAbs).length c5], .int .i64 0]) (by simp [results, Tryz.results47, go_sem, r0, r1]) rfl
    ⟨_, rfl, (HI5.out.set hoff 0 _).set hoff 1 _, HX4.out.put _ _, HO4.out⟩

set_option maxHeartbeats 8000000 in
theorem radd_zm (aa ab : Option Addr) (na nb ca cb : Nat) (a b : Int) (w : World) (ha : IsB w (.agg #[.int .i64 0, .slice aa na ca]) a) (hb : IsB w (.agg #[.int .i64 (-1), .slice ab nb cb]) b) (hia : Ints w (.slice aa na ca) (digs a.natAbs)) (hib : Ints w (.slice ab nb cb) (digs b.natAbs)) (hla : (digs a.natAbs).length ≤ 100000) (hlb : (digs b.natAbs).length ≤ 100000) (hsa : a.sign = 0) (hsb : b.sign = -1) :
    Calls Tryz.prog 47 #[.agg #[.int .i64 0, .slice aa na ca], .agg #[.int .i64 (-1), .slice ab nb cb]] w (Ans (a + b) 0 w) := by
  have HA := Lib.hid ha
  have HB := Lib.hid hb
  have HIA := Lib.hid hia
  have HIB := Lib.hid hib
  have h1 := sgn_is a
  have h2 := sgn_is b
  have h3 := sgn_is (a + b)
  have hpn : (a + b).natAbs = a.natAbs + b.natAbs := by omega
  have hlp : (digs (a.natAbs + b.natAbs)).length ≤ 1000000 := by
    have := Sz.add ((Sz.of hla).mono (j := 100000) (by omega)) ((Sz.of hlb).mono (j := 100000) (by omega))
    unfold Sz at this
    rw [hpn] at this
    exact Nat.le_trans (digs_le this) (by omega)
  have hps : a + b ≠ 0 → ((-1) : Int) = (a + b).sign := by omega
  obtain ⟨p, ep⟩ : ∃ p, a + b = p := ⟨_, rfl⟩
  rw [ep] at hpn hps ⊢
  have HPN := Lib.hid hpn
  have HLP := Lib.hid hlp
  have HPS := Lib.hid hps
  have hx := Bx.start w 0 (.slice aa na ca) (-1) (.slice ab nb cb)
  have HX0 := Lib.hid hx
  have hor : bits .or .i64 0 (-1) = (-1) := by kernel_rfl
  clear ha hb hia hib hx hpn hlp hps ep h1 h2 h3 hsa hsb
  go_enter Tryz.func47, Tryz.ntmps47
  go_wp2_with fail
  refine (risb_any (HA.out.later HX0.out.below)).mono ?_
  rintro e w1 ⟨rfl, hb1⟩
  have HX1 := Lib.hid (HX0.out.later hb1)
  obtain ⟨c00, c01, c10, c11⟩ := HX1.out.cells
  clear hb1
  go_wp2_with fail
  refine (risb_any (HB.out.later HX1.out.below)).mono ?_
  rintro e w2 ⟨rfl, hb2⟩
  have HX2 := Lib.hid (HX1.out.later hb2)
  obtain ⟨d00, d01, d10, d11⟩ := HX2.out.cells
  clear hb2 c00 c01 c10 c11
  go_wp2_with fail
  have HXD := Lib.hid (HX2.out.heap (W' := w2.drew) rfl rfl rfl rfl)
  have e2 := HXD.out.cells
  clear d00 d01 d10 d11
  go_region_held3 (fun W => W.cell? ⟨w.heap.size, 0, none⟩ = some (.int .i64 0) ∧ W.cell? ⟨w.heap.size, 1, none⟩ = some (.slice aa na ca) ∧ W.cell? ⟨w.heap.size + 1, 0, none⟩ = some (.int .i64 (-1)) ∧ W.cell? ⟨w.heap.size + 1, 1, none⟩ = some (.slice ab nb cb))
    (first | exact e2 | exact x3 | exact x4 | exact HX4.out.stays _ _)
    (first
      | (go_at_call 73; (with_reducible refine (rplus_n _ _ a.natAbs b.natAbs _ ?_ ?_ (Nat.le_trans hla (by decide)) (Nat.le_trans hlb (by decide))).mono ?_); (focus exact HIA.out.later HXD.out.below); (focus exact HIB.out.later HXD.out.below); rintro e w3 ⟨v3, rfl, ho3, hb3, hf3⟩; obtain ⟨ax, cx, rfl⟩ := ho3.fit; have HX3 := Lib.hid (HXD.out.later hb3); have x3 := HX3.out.cells; have HI3 := Lib.hid (ho3.ints (Nat.le_trans HLP.out (by decide))); clear ho3 hb3 hf3)
      | (go_at_call 71; (with_reducible refine (rmade_n _ ax cx _ p HPN.out HPS.out _ HI3.out (Nat.le_trans HLP.out (by decide))).mono ?_); rintro e w4 ⟨s4, rfl, hi4, hb4, ho4⟩; obtain ⟨a5, c5, rfl, hi5⟩ := hi4.open; have HO4 := Lib.hid (ho4.mono HX3.out.below.size); have HZ4 := Lib.hid (ho4.mono HX3.out.size); have HX4 := Lib.hid (HX3.out.later hb4); have x4 := HX4.out.cells; have HI5 := Lib.hid hi5; clear hi4 hi5 hb4 ho4; obtain ⟨r0, r1, f0, f1⟩ := HX4.out.rcells))
  go_wp2_with fail
  have hoff := HZ4.out (w.heap.size + 1 + 1) (by simp)
  exact bodyPost_ret (v := .tuple #[.agg #[.int .i64 p.sign, .slice a5 (digs p.natAbs).length c5], .int .i64 0]) (by simp [results, Tryz.results47, go_sem, r0, r1]) rfl
    ⟨_, rfl, (HI5.out.set hoff 0 _).set hoff 1 _, HX4.out.put _ _, HO4.out⟩

set_option maxHeartbeats 8000000 in
theorem radd_pz (aa ab : Option Addr) (na nb ca cb : Nat) (a b : Int) (w : World) (ha : IsB w (.agg #[.int .i64 1, .slice aa na ca]) a) (hb : IsB w (.agg #[.int .i64 0, .slice ab nb cb]) b) (hia : Ints w (.slice aa na ca) (digs a.natAbs)) (hib : Ints w (.slice ab nb cb) (digs b.natAbs)) (hla : (digs a.natAbs).length ≤ 100000) (hlb : (digs b.natAbs).length ≤ 100000) (hsa : a.sign = 1) (hsb : b.sign = 0) :
    Calls Tryz.prog 47 #[.agg #[.int .i64 1, .slice aa na ca], .agg #[.int .i64 0, .slice ab nb cb]] w (Ans (a + b) 0 w) := by
  have HA := Lib.hid ha
  have HB := Lib.hid hb
  have HIA := Lib.hid hia
  have HIB := Lib.hid hib
  have h1 := sgn_is a
  have h2 := sgn_is b
  have h3 := sgn_is (a + b)
  have hpn : (a + b).natAbs = a.natAbs + b.natAbs := by omega
  have hlp : (digs (a.natAbs + b.natAbs)).length ≤ 1000000 := by
    have := Sz.add ((Sz.of hla).mono (j := 100000) (by omega)) ((Sz.of hlb).mono (j := 100000) (by omega))
    unfold Sz at this
    rw [hpn] at this
    exact Nat.le_trans (digs_le this) (by omega)
  have hps : a + b ≠ 0 → (1 : Int) = (a + b).sign := by omega
  obtain ⟨p, ep⟩ : ∃ p, a + b = p := ⟨_, rfl⟩
  rw [ep] at hpn hps ⊢
  have HPN := Lib.hid hpn
  have HLP := Lib.hid hlp
  have HPS := Lib.hid hps
  have hx := Bx.start w 1 (.slice aa na ca) 0 (.slice ab nb cb)
  have HX0 := Lib.hid hx
  have hor : bits .or .i64 1 0 = 1 := by kernel_rfl
  clear ha hb hia hib hx hpn hlp hps ep h1 h2 h3 hsa hsb
  go_enter Tryz.func47, Tryz.ntmps47
  go_wp2_with fail
  refine (risb_any (HA.out.later HX0.out.below)).mono ?_
  rintro e w1 ⟨rfl, hb1⟩
  have HX1 := Lib.hid (HX0.out.later hb1)
  obtain ⟨c00, c01, c10, c11⟩ := HX1.out.cells
  clear hb1
  go_wp2_with fail
  refine (risb_any (HB.out.later HX1.out.below)).mono ?_
  rintro e w2 ⟨rfl, hb2⟩
  have HX2 := Lib.hid (HX1.out.later hb2)
  obtain ⟨d00, d01, d10, d11⟩ := HX2.out.cells
  clear hb2 c00 c01 c10 c11
  go_wp2_with fail
  have HXD := Lib.hid (HX2.out.heap (W' := w2.drew) rfl rfl rfl rfl)
  have e2 := HXD.out.cells
  clear d00 d01 d10 d11
  go_region_held3 (fun W => W.cell? ⟨w.heap.size, 0, none⟩ = some (.int .i64 1) ∧ W.cell? ⟨w.heap.size, 1, none⟩ = some (.slice aa na ca) ∧ W.cell? ⟨w.heap.size + 1, 0, none⟩ = some (.int .i64 0) ∧ W.cell? ⟨w.heap.size + 1, 1, none⟩ = some (.slice ab nb cb))
    (first | exact e2 | exact x3 | exact x4 | exact HX4.out.stays _ _)
    (first
      | (go_at_call 73; (with_reducible refine (rplus_n _ _ a.natAbs b.natAbs _ ?_ ?_ (Nat.le_trans hla (by decide)) (Nat.le_trans hlb (by decide))).mono ?_); (focus exact HIA.out.later HXD.out.below); (focus exact HIB.out.later HXD.out.below); rintro e w3 ⟨v3, rfl, ho3, hb3, hf3⟩; obtain ⟨ax, cx, rfl⟩ := ho3.fit; have HX3 := Lib.hid (HXD.out.later hb3); have x3 := HX3.out.cells; have HI3 := Lib.hid (ho3.ints (Nat.le_trans HLP.out (by decide))); clear ho3 hb3 hf3)
      | (go_at_call 71; (with_reducible refine (rmade_n _ ax cx _ p HPN.out HPS.out _ HI3.out (Nat.le_trans HLP.out (by decide))).mono ?_); rintro e w4 ⟨s4, rfl, hi4, hb4, ho4⟩; obtain ⟨a5, c5, rfl, hi5⟩ := hi4.open; have HO4 := Lib.hid (ho4.mono HX3.out.below.size); have HZ4 := Lib.hid (ho4.mono HX3.out.size); have HX4 := Lib.hid (HX3.out.later hb4); have x4 := HX4.out.cells; have HI5 := Lib.hid hi5; clear hi4 hi5 hb4 ho4; obtain ⟨r0, r1, f0, f1⟩ := HX4.out.rcells))
  go_wp2_with fail
  have hoff := HZ4.out (w.heap.size + 1 + 1) (by simp)
  exact bodyPost_ret (v := .tuple #[.agg #[.int .i64 p.sign, .slice a5 (digs p.natAbs).length c5], .int .i64 0]) (by simp [results, Tryz.results47, go_sem, r0, r1]) rfl
    ⟨_, rfl, (HI5.out.set hoff 0 _).set hoff 1 _, HX4.out.put _ _, HO4.out⟩

set_option maxHeartbeats 8000000 in
theorem radd_mz (aa ab : Option Addr) (na nb ca cb : Nat) (a b : Int) (w : World) (ha : IsB w (.agg #[.int .i64 (-1), .slice aa na ca]) a) (hb : IsB w (.agg #[.int .i64 0, .slice ab nb cb]) b) (hia : Ints w (.slice aa na ca) (digs a.natAbs)) (hib : Ints w (.slice ab nb cb) (digs b.natAbs)) (hla : (digs a.natAbs).length ≤ 100000) (hlb : (digs b.natAbs).length ≤ 100000) (hsa : a.sign = -1) (hsb : b.sign = 0) :
    Calls Tryz.prog 47 #[.agg #[.int .i64 (-1), .slice aa na ca], .agg #[.int .i64 0, .slice ab nb cb]] w (Ans (a + b) 0 w) := by
  have HA := Lib.hid ha
  have HB := Lib.hid hb
  have HIA := Lib.hid hia
  have HIB := Lib.hid hib
  have h1 := sgn_is a
  have h2 := sgn_is b
  have h3 := sgn_is (a + b)
  have hpn : (a + b).natAbs = a.natAbs + b.natAbs := by omega
  have hlp : (digs (a.natAbs + b.natAbs)).length ≤ 1000000 := by
    have := Sz.add ((Sz.of hla).mono (j := 100000) (by omega)) ((Sz.of hlb).mono (j := 100000) (by omega))
    unfold Sz at this
    rw [hpn] at this
    exact Nat.le_trans (digs_le this) (by omega)
  have hps : a + b ≠ 0 → ((-1) : Int) = (a + b).sign := by omega
  obtain ⟨p, ep⟩ : ∃ p, a + b = p := ⟨_, rfl⟩
  rw [ep] at hpn hps ⊢
  have HPN := Lib.hid hpn
  have HLP := Lib.hid hlp
  have HPS := Lib.hid hps
  have hx := Bx.start w (-1) (.slice aa na ca) 0 (.slice ab nb cb)
  have HX0 := Lib.hid hx
  have hor : bits .or .i64 (-1) 0 = (-1) := by kernel_rfl
  clear ha hb hia hib hx hpn hlp hps ep h1 h2 h3 hsa hsb
  go_enter Tryz.func47, Tryz.ntmps47
  go_wp2_with fail
  refine (risb_any (HA.out.later HX0.out.below)).mono ?_
  rintro e w1 ⟨rfl, hb1⟩
  have HX1 := Lib.hid (HX0.out.later hb1)
  obtain ⟨c00, c01, c10, c11⟩ := HX1.out.cells
  clear hb1
  go_wp2_with fail
  refine (risb_any (HB.out.later HX1.out.below)).mono ?_
  rintro e w2 ⟨rfl, hb2⟩
  have HX2 := Lib.hid (HX1.out.later hb2)
  obtain ⟨d00, d01, d10, d11⟩ := HX2.out.cells
  clear hb2 c00 c01 c10 c11
  go_wp2_with fail
  have HXD := Lib.hid (HX2.out.heap (W' := w2.drew) rfl rfl rfl rfl)
  have e2 := HXD.out.cells
  clear d00 d01 d10 d11
  go_region_held3 (fun W => W.cell? ⟨w.heap.size, 0, none⟩ = some (.int .i64 (-1)) ∧ W.cell? ⟨w.heap.size, 1, none⟩ = some (.slice aa na ca) ∧ W.cell? ⟨w.heap.size + 1, 0, none⟩ = some (.int .i64 0) ∧ W.cell? ⟨w.heap.size + 1, 1, none⟩ = some (.slice ab nb cb))
    (first | exact e2 | exact x3 | exact x4 | exact HX4.out.stays _ _)
    (first
      | (go_at_call 73; (with_reducible refine (rplus_n _ _ a.natAbs b.natAbs _ ?_ ?_ (Nat.le_trans hla (by decide)) (Nat.le_trans hlb (by decide))).mono ?_); (focus exact HIA.out.later HXD.out.below); (focus exact HIB.out.later HXD.out.below); rintro e w3 ⟨v3, rfl, ho3, hb3, hf3⟩; obtain ⟨ax, cx, rfl⟩ := ho3.fit; have HX3 := Lib.hid (HXD.out.later hb3); have x3 := HX3.out.cells; have HI3 := Lib.hid (ho3.ints (Nat.le_trans HLP.out (by decide))); clear ho3 hb3 hf3)
      | (go_at_call 71; (with_reducible refine (rmade_n _ ax cx _ p HPN.out HPS.out _ HI3.out (Nat.le_trans HLP.out (by decide))).mono ?_); rintro e w4 ⟨s4, rfl, hi4, hb4, ho4⟩; obtain ⟨a5, c5, rfl, hi5⟩ := hi4.open; have HO4 := Lib.hid (ho4.mono HX3.out.below.size); have HZ4 := Lib.hid (ho4.mono HX3.out.size); have HX4 := Lib.hid (HX3.out.later hb4); have x4 := HX4.out.cells; have HI5 := Lib.hid hi5; clear hi4 hi5 hb4 ho4; obtain ⟨r0, r1, f0, f1⟩ := HX4.out.rcells))
  go_wp2_with fail
  have hoff := HZ4.out (w.heap.size + 1 + 1) (by simp)
  exact bodyPost_ret (v := .tuple #[.agg #[.int .i64 p.sign, .slice a5 (digs p.natAbs).length c5], .int .i64 0]) (by simp [results, Tryz.results47, go_sem, r0, r1]) rfl
    ⟨_, rfl, (HI5.out.set hoff 0 _).set hoff 1 _, HX4.out.put _ _, HO4.out⟩

set_option maxHeartbeats 8000000 in
theorem radd_pp (aa ab : Option Addr) (na nb ca cb : Nat) (a b : Int) (w : World) (ha : IsB w (.agg #[.int .i64 1, .slice aa na ca]) a) (hb : IsB w (.agg #[.int .i64 1, .slice ab nb cb]) b) (hia : Ints w (.slice aa na ca) (digs a.natAbs)) (hib : Ints w (.slice ab nb cb) (digs b.natAbs)) (hla : (digs a.natAbs).length ≤ 100000) (hlb : (digs b.natAbs).length ≤ 100000) (hsa : a.sign = 1) (hsb : b.sign = 1) :
    Calls Tryz.prog 47 #[.agg #[.int .i64 1, .slice aa na ca], .agg #[.int .i64 1, .slice ab nb cb]] w (Ans (a + b) 0 w) := by
  have HA := Lib.hid ha
  have HB := Lib.hid hb
  have HIA := Lib.hid hia
  have HIB := Lib.hid hib
  have h1 := sgn_is a
  have h2 := sgn_is b
  have h3 := sgn_is (a + b)
  have hpn : (a + b).natAbs = a.natAbs + b.natAbs := by omega
  have hlp : (digs (a.natAbs + b.natAbs)).length ≤ 1000000 := by
    have := Sz.add ((Sz.of hla).mono (j := 100000) (by omega)) ((Sz.of hlb).mono (j := 100000) (by omega))
    unfold Sz at this
    rw [hpn] at this
    exact Nat.le_trans (digs_le this) (by omega)
  have hps : a + b ≠ 0 → (1 : Int) = (a + b).sign := by omega
  obtain ⟨p, ep⟩ : ∃ p, a + b = p := ⟨_, rfl⟩
  rw [ep] at hpn hps ⊢
  have HPN := Lib.hid hpn
  have HLP := Lib.hid hlp
  have HPS := Lib.hid hps
  have hx := Bx.start w 1 (.slice aa na ca) 1 (.slice ab nb cb)
  have HX0 := Lib.hid hx
  have hor : bits .or .i64 1 1 = 1 := by kernel_rfl
  clear ha hb hia hib hx hpn hlp hps ep h1 h2 h3 hsa hsb
  go_enter Tryz.func47, Tryz.ntmps47
  go_wp2_with fail
  refine (risb_any (HA.out.later HX0.out.below)).mono ?_
  rintro e w1 ⟨rfl, hb1⟩
  have HX1 := Lib.hid (HX0.out.later hb1)
  obtain ⟨c00, c01, c10, c11⟩ := HX1.out.cells
  clear hb1
  go_wp2_with fail
  refine (risb_any (HB.out.later HX1.out.below)).mono ?_
  rintro e w2 ⟨rfl, hb2⟩
  have HX2 := Lib.hid (HX1.out.later hb2)
  obtain ⟨d00, d01, d10, d11⟩ := HX2.out.cells
  clear hb2 c00 c01 c10 c11
  go_wp2_with fail
  have HXD := Lib.hid (HX2.out.heap (W' := w2.drew) rfl rfl rfl rfl)
  have e2 := HXD.out.cells
  clear d00 d01 d10 d11
  go_region_held3 (fun W => W.cell? ⟨w.heap.size, 0, none⟩ = some (.int .i64 1) ∧ W.cell? ⟨w.heap.size, 1, none⟩ = some (.slice aa na ca) ∧ W.cell? ⟨w.heap.size + 1, 0, none⟩ = some (.int .i64 1) ∧ W.cell? ⟨w.heap.size + 1, 1, none⟩ = some (.slice ab nb cb))
    (first | exact e2 | exact x3 | exact x4 | exact HX4.out.stays _ _)
    (first
      | (go_at_call 73; (with_reducible refine (rplus_n _ _ a.natAbs b.natAbs _ ?_ ?_ (Nat.le_trans hla (by decide)) (Nat.le_trans hlb (by decide))).mono ?_); (focus exact HIA.out.later HXD.out.below); (focus exact HIB.out.later HXD.out.below); rintro e w3 ⟨v3, rfl, ho3, hb3, hf3⟩; obtain ⟨ax, cx, rfl⟩ := ho3.fit; have HX3 := Lib.hid (HXD.out.later hb3); have x3 := HX3.out.cells; have HI3 := Lib.hid (ho3.ints (Nat.le_trans HLP.out (by decide))); clear ho3 hb3 hf3)
      | (go_at_call 71; (with_reducible refine (rmade_n _ ax cx _ p HPN.out HPS.out _ HI3.out (Nat.le_trans HLP.out (by decide))).mono ?_); rintro e w4 ⟨s4, rfl, hi4, hb4, ho4⟩; obtain ⟨a5, c5, rfl, hi5⟩ := hi4.open; have HO4 := Lib.hid (ho4.mono HX3.out.below.size); have HZ4 := Lib.hid (ho4.mono HX3.out.size); have HX4 := Lib.hid (HX3.out.later hb4); have x4 := HX4.out.cells; have HI5 := Lib.hid hi5; clear hi4 hi5 hb4 ho4; obtain ⟨r0, r1, f0, f1⟩ := HX4.out.rcells))
  go_wp2_with fail
  have hoff := HZ4.out (w.heap.size + 1 + 1) (by simp)
  exact bodyPost_ret (v := .tuple #[.agg #[.int .i64 p.sign, .slice a5 (digs p.natAbs).length c5], .int .i64 0]) (by simp [results, Tryz.results47, go_sem, r0, r1]) rfl
    ⟨_, rfl, (HI5.out.set hoff 0 _).set hoff 1 _, HX4.out.put _ _, HO4.out⟩

set_option maxHeartbeats 8000000 in
theorem radd_mm (aa ab : Option Addr) (na nb ca cb : Nat) (a b : Int) (w : World) (ha : IsB w (.agg #[.int .i64 (-1), .slice aa na ca]) a) (hb : IsB w (.agg #[.int .i64 (-1), .slice ab nb cb]) b) (hia : Ints w (.slice aa na ca) (digs a.natAbs)) (hib : Ints w (.slice ab nb cb) (digs b.natAbs)) (hla : (digs a.natAbs).length ≤ 100000) (hlb : (digs b.natAbs).length ≤ 100000) (hsa : a.sign = -1) (hsb : b.sign = -1) :
    Calls Tryz.prog 47 #[.agg #[.int .i64 (-1), .slice aa na ca], .agg #[.int .i64 (-1), .slice ab nb cb]] w (Ans (a + b) 0 w) := by
  have HA := Lib.hid ha
  have HB := Lib.hid hb
  have HIA := Lib.hid hia
  have HIB := Lib.hid hib
  have h1 := sgn_is a
  have h2 := sgn_is b
  have h3 := sgn_is (a + b)
  have hpn : (a + b).natAbs = a.natAbs + b.natAbs := by omega
  have hlp : (digs (a.natAbs + b.natAbs)).length ≤ 1000000 := by
    have := Sz.add ((Sz.of hla).mono (j := 100000) (by omega)) ((Sz.of hlb).mono (j := 100000) (by omega))
    unfold Sz at this
    rw [hpn] at this
    exact Nat.le_trans (digs_le this) (by omega)
  have hps : a + b ≠ 0 → ((-1) : Int) = (a + b).sign := by omega
  obtain ⟨p, ep⟩ : ∃ p, a + b = p := ⟨_, rfl⟩
  rw [ep] at hpn hps ⊢
  have HPN := Lib.hid hpn
  have HLP := Lib.hid hlp
  have HPS := Lib.hid hps
  have hx := Bx.start w (-1) (.slice aa na ca) (-1) (.slice ab nb cb)
  have HX0 := Lib.hid hx
  have hor : bits .or .i64 (-1) (-1) = (-1) := by kernel_rfl
  clear ha hb hia hib hx hpn hlp hps ep h1 h2 h3 hsa hsb
  go_enter Tryz.func47, Tryz.ntmps47
  go_wp2_with fail
  refine (risb_any (HA.out.later HX0.out.below)).mono ?_
  rintro e w1 ⟨rfl, hb1⟩
  have HX1 := Lib.hid (HX0.out.later hb1)
  obtain ⟨c00, c01, c10, c11⟩ := HX1.out.cells
  clear hb1
  go_wp2_with fail
  refine (risb_any (HB.out.later HX1.out.below)).mono ?_
  rintro e w2 ⟨rfl, hb2⟩
  have HX2 := Lib.hid (HX1.out.later hb2)
  obtain ⟨d00, d01, d10, d11⟩ := HX2.out.cells
  clear hb2 c00 c01 c10 c11
  go_wp2_with fail
  have HXD := Lib.hid (HX2.out.heap (W' := w2.drew) rfl rfl rfl rfl)
  have e2 := HXD.out.cells
  clear d00 d01 d10 d11
  go_region_held3 (fun W => W.cell? ⟨w.heap.size, 0, none⟩ = some (.int .i64 (-1)) ∧ W.cell? ⟨w.heap.size, 1, none⟩ = some (.slice aa na ca) ∧ W.cell? ⟨w.heap.size + 1, 0, none⟩ = some (.int .i64 (-1)) ∧ W.cell? ⟨w.heap.size + 1, 1, none⟩ = some (.slice ab nb cb))
    (first | exact e2 | exact x3 | exact x4 | exact HX4.out.stays _ _)
    (first
      | (go_at_call 73; (with_reducible refine (rplus_n _ _ a.natAbs b.natAbs _ ?_ ?_ (Nat.le_trans hla (by decide)) (Nat.le_trans hlb (by decide))).mono ?_); (focus exact HIA.out.later HXD.out.below); (focus exact HIB.out.later HXD.out.below); rintro e w3 ⟨v3, rfl, ho3, hb3, hf3⟩; obtain ⟨ax, cx, rfl⟩ := ho3.fit; have HX3 := Lib.hid (HXD.out.later hb3); have x3 := HX3.out.cells; have HI3 := Lib.hid (ho3.ints (Nat.le_trans HLP.out (by decide))); clear ho3 hb3 hf3)
      | (go_at_call 71; (with_reducible refine (rmade_n _ ax cx _ p HPN.out HPS.out _ HI3.out (Nat.le_trans HLP.out (by decide))).mono ?_); rintro e w4 ⟨s4, rfl, hi4, hb4, ho4⟩; obtain ⟨a5, c5, rfl, hi5⟩ := hi4.open; have HO4 := Lib.hid (ho4.mono HX3.out.below.size); have HZ4 := Lib.hid (ho4.mono HX3.out.size); have HX4 := Lib.hid (HX3.out.later hb4); have x4 := HX4.out.cells; have HI5 := Lib.hid hi5; clear hi4 hi5 hb4 ho4; obtain ⟨r0, r1, f0, f1⟩ := HX4.out.rcells))
  go_wp2_with fail
  have hoff := HZ4.out (w.heap.size + 1 + 1) (by simp)
  exact bodyPost_ret (v := .tuple #[.agg #[.int .i64 p.sign, .slice a5 (digs p.natAbs).length c5], .int .i64 0]) (by simp [results, Tryz.results47, go_sem, r0, r1]) rfl
    ⟨_, rfl, (HI5.out.set hoff 0 _).set hoff 1 _, HX4.out.put _ _, HO4.out⟩

set_option maxHeartbeats 8000000 in
theorem radd_pm (aa ab : Option Addr) (na nb ca cb : Nat) (a b : Int) (w : World) (ha : IsB w (.agg #[.int .i64 1, .slice aa na ca]) a) (hb : IsB w (.agg #[.int .i64 (-1), .slice ab nb cb]) b) (hia : Ints w (.slice aa na ca) (digs a.natAbs)) (hib : Ints w (.slice ab nb cb) (digs b.natAbs)) (hla : (digs a.natAbs).length ≤ 100000) (hlb : (digs b.natAbs).length ≤ 100000) (hsa : a.sign = 1) (hsb : b.sign = -1) :
    Calls Tryz.prog 47 #[.agg #[.int .i64 1, .slice aa na ca], .agg #[.int .i64 (-1), .slice ab nb cb]] w (Ans (a + b) 0 w) := by
  have HA := Lib.hid ha
  have HB := Lib.hid hb
  have HIA := Lib.hid hia
  have HIB := Lib.hid hib
  have h1 := sgn_is a
  have h2 := sgn_is b
  have h3 := sgn_is (a + b)
  have hx := Bx.start w 1 (.slice aa na ca) (-1) (.slice ab nb cb)
  have HX0 := Lib.hid hx
  have hlp : ∀ n m : Nat, (digs n).length ≤ 100000 → (digs (n - m)).length ≤ 1000000 := fun n m h => by
    have h1 := digs_lt n
    have h2 := P_le h
    exact Nat.le_trans (digs_le (k := 100000) (by omega)) (by omega)
  by_cases hlt : a.natAbs < b.natAbs
  · have hdt : decide (a.natAbs < b.natAbs) = true := by simpa using hlt
    have hpn : (a + b).natAbs = b.natAbs - a.natAbs := by omega
    have hps : a + b ≠ 0 → ((-1) : Int) = (a + b).sign := by omega
    have HLP := Lib.hid (hlp b.natAbs a.natAbs hlb)
    obtain ⟨p, ep⟩ : ∃ p, a + b = p := ⟨_, rfl⟩
    rw [ep] at hpn hps ⊢
    have HPN := Lib.hid hpn
    have HPS := Lib.hid hps
    have HLE := Lib.hid (Nat.le_of_lt hlt)
    have HLESS := fun W h1 h2 => rless_n (.slice aa na ca) (.slice ab nb cb) a.natAbs b.natAbs W h1 h2
    rw [hdt] at HLESS
    have HLS := Lib.hid HLESS
    clear ha hb hia hib hx hpn hlp hps ep h1 h2 h3 hsa hsb hlt hdt HLESS
    go_enter Tryz.func47, Tryz.ntmps47
    go_wp2_with fail
    refine (risb_any (HA.out.later HX0.out.below)).mono ?_
    rintro e w1 ⟨rfl, hb1⟩
    have HX1 := Lib.hid (HX0.out.later hb1)
    obtain ⟨c00, c01, c10, c11⟩ := HX1.out.cells
    clear hb1
    go_wp2_with fail
    refine (risb_any (HB.out.later HX1.out.below)).mono ?_
    rintro e w2 ⟨rfl, hb2⟩
    have HX2 := Lib.hid (HX1.out.later hb2)
    obtain ⟨d00, d01, d10, d11⟩ := HX2.out.cells
    clear hb2 c00 c01 c10 c11
    go_wp2_with fail
    refine (HLS.out _ (HIA.out.later HX2.out.below) (HIB.out.later HX2.out.below)).mono ?_
    rintro e w2' ⟨rfl, rfl⟩
    go_wp2_with fail
    have HXD := Lib.hid (HX2.out.heap (W' := w2.drew) rfl rfl rfl rfl)
    have e2 := HXD.out.cells
    clear d00 d01 d10 d11
    go_region_held3 (fun W => W.cell? ⟨w.heap.size, 0, none⟩ = some (.int .i64 1) ∧ W.cell? ⟨w.heap.size, 1, none⟩ = some (.slice aa na ca) ∧ W.cell? ⟨w.heap.size + 1, 0, none⟩ = some (.int .i64 (-1)) ∧ W.cell? ⟨w.heap.size + 1, 1, none⟩ = some (.slice ab nb cb))
      (first | exact e2 | exact x3 | exact x4 | exact HX4.out.stays _ _)
      (first
        | (go_at_call 75; (with_reducible refine (rminus_n _ _ b.natAbs a.natAbs HLE.out _ ?_ ?_ (Nat.le_trans hlb (by decide))).mono ?_); (focus exact HIB.out.later HXD.out.below); (focus exact HIA.out.later HXD.out.below); rintro e w3 ⟨v3, rfl, ho3, hb3, hf3⟩; obtain ⟨ax, cx, rfl⟩ := ho3.fit; have HX3 := Lib.hid (HXD.out.later hb3); have x3 := HX3.out.cells; have HI3 := Lib.hid (ho3.ints (Nat.le_trans HLP.out (by decide))); clear ho3 hb3 hf3)
        | (go_at_call 71; (with_reducible refine (rmade_n _ ax cx _ p HPN.out HPS.out _ HI3.out (Nat.le_trans HLP.out (by decide))).mono ?_); rintro e w4 ⟨s4, rfl, hi4, hb4, ho4⟩; obtain ⟨a5, c5, rfl, hi5⟩ := hi4.open; have HO4 := Lib.hid (ho4.mono HX3.out.below.size); have HZ4 := Lib.hid (ho4.mono HX3.out.size); have HX4 := Lib.hid (HX3.out.later hb4); have x4 := HX4.out.cells; have HI5 := Lib.hid hi5; clear hi4 hi5 hb4 ho4; obtain ⟨r0, r1, f0, f1⟩ := HX4.out.rcells))
    go_wp2_with fail
    have hoff := HZ4.out (w.heap.size + 1 + 1) (by simp)
    exact bodyPost_ret (v := .tuple #[.agg #[.int .i64 p.sign, .slice a5 (digs p.natAbs).length c5], .int .i64 0]) (by simp [results, Tryz.results47, go_sem, r0, r1]) rfl
      ⟨_, rfl, (HI5.out.set hoff 0 _).set hoff 1 _, HX4.out.put _ _, HO4.out⟩
  · have hdt : decide (a.natAbs < b.natAbs) = false := by simpa using hlt
    have hpn : (a + b).natAbs = a.natAbs - b.natAbs := by omega
    have hps : a + b ≠ 0 → (1 : Int) = (a + b).sign := by omega
    have HLP := Lib.hid (hlp a.natAbs b.natAbs hla)
    obtain ⟨p, ep⟩ : ∃ p, a + b = p := ⟨_, rfl⟩
    rw [ep] at hpn hps ⊢
    have HPN := Lib.hid hpn
    have HPS := Lib.hid hps
    have HLE := Lib.hid (Nat.le_of_not_lt hlt)
    have HLESS := fun W h1 h2 => rless_n (.slice aa na ca) (.slice ab nb cb) a.natAbs b.natAbs W h1 h2
    rw [hdt] at HLESS
    have HLS := Lib.hid HLESS
    clear ha hb hia hib hx hpn hlp hps ep h1 h2 h3 hsa hsb hlt hdt HLESS
    go_enter Tryz.func47, Tryz.ntmps47
    go_wp2_with fail
    refine (risb_any (HA.out.later HX0.out.below)).mono ?_
    rintro e w1 ⟨rfl, hb1⟩
    have HX1 := Lib.hid (HX0.out.later hb1)
    obtain ⟨c00, c01, c10, c11⟩ := HX1.out.cells
    clear hb1
    go_wp2_with fail
    refine (risb_any (HB.out.later HX1.out.below)).mono ?_
    rintro e w2 ⟨rfl, hb2⟩
    have HX2 := Lib.hid (HX1.out.later hb2)
    obtain ⟨d00, d01, d10, d11⟩ := HX2.out.cells
    clear hb2 c00 c01 c10 c11
    go_wp2_with fail
    refine (HLS.out _ (HIA.out.later HX2.out.below) (HIB.out.later HX2.out.below)).mono ?_
    rintro e w2' ⟨rfl, rfl⟩
    go_wp2_with fail
    have HXD := Lib.hid (HX2.out.heap (W' := w2.drew) rfl rfl rfl rfl)
    have e2 := HXD.out.cells
    clear d00 d01 d10 d11
    go_region_held3 (fun W => W.cell? ⟨w.heap.size, 0, none⟩ = some (.int .i64 1) ∧ W.cell? ⟨w.heap.size, 1, none⟩ = some (.slice aa na ca) ∧ W.cell? ⟨w.heap.size + 1, 0, none⟩ = some (.int .i64 (-1)) ∧ W.cell? ⟨w.heap.size + 1, 1, none⟩ = some (.slice ab nb cb))
      (first | exact e2 | exact x3 | exact x4 | exact HX4.out.stays _ _)
      (first
        | (go_at_call 75; (with_reducible refine (rminus_n _ _ a.natAbs b.natAbs HLE.out _ ?_ ?_ (Nat.le_trans hla (by decide))).mono ?_); (focus exact HIA.out.later HXD.out.below); (focus exact HIB.out.later HXD.out.below); rintro e w3 ⟨v3, rfl, ho3, hb3, hf3⟩; obtain ⟨ax, cx, rfl⟩ := ho3.fit; have HX3 := Lib.hid (HXD.out.later hb3); have x3 := HX3.out.cells; have HI3 := Lib.hid (ho3.ints (Nat.le_trans HLP.out (by decide))); clear ho3 hb3 hf3)
        | (go_at_call 71; (with_reducible refine (rmade_n _ ax cx _ p HPN.out HPS.out _ HI3.out (Nat.le_trans HLP.out (by decide))).mono ?_); rintro e w4 ⟨s4, rfl, hi4, hb4, ho4⟩; obtain ⟨a5, c5, rfl, hi5⟩ := hi4.open; have HO4 := Lib.hid (ho4.mono HX3.out.below.size); have HZ4 := Lib.hid (ho4.mono HX3.out.size); have HX4 := Lib.hid (HX3.out.later hb4); have x4 := HX4.out.cells; have HI5 := Lib.hid hi5; clear hi4 hi5 hb4 ho4; obtain ⟨r0, r1, f0, f1⟩ := HX4.out.rcells))
    go_wp2_with fail
    have hoff := HZ4.out (w.heap.size + 1 + 1) (by simp)
    exact bodyPost_ret (v := .tuple #[.agg #[.int .i64 p.sign, .slice a5 (digs p.natAbs).length c5], .int .i64 0]) (by simp [results, Tryz.results47, go_sem, r0, r1]) rfl
      ⟨_, rfl, (HI5.out.set hoff 0 _).set hoff 1 _, HX4.out.put _ _, HO4.out⟩

set_option maxHeartbeats 8000000 in
theorem radd_mp (aa ab : Option Addr) (na nb ca cb : Nat) (a b : Int) (w : World) (ha : IsB w (.agg #[.int .i64 (-1), .slice aa na ca]) a) (hb : IsB w (.agg #[.int .i64 1, .slice ab nb cb]) b) (hia : Ints w (.slice aa na ca) (digs a.natAbs)) (hib : Ints w (.slice ab nb cb) (digs b.natAbs)) (hla : (digs a.natAbs).length ≤ 100000) (hlb : (digs b.natAbs).length ≤ 100000) (hsa : a.sign = -1) (hsb : b.sign = 1) :
    Calls Tryz.prog 47 #[.agg #[.int .i64 (-1), .slice aa na ca], .agg #[.int .i64 1, .slice ab nb cb]] w (Ans (a + b) 0 w) := by
  have HA := Lib.hid ha
  have HB := Lib.hid hb
  have HIA := Lib.hid hia
  have HIB := Lib.hid hib
  have h1 := sgn_is a
  have h2 := sgn_is b
  have h3 := sgn_is (a + b)
  have hx := Bx.start w (-1) (.slice aa na ca) 1 (.slice ab nb cb)
  have HX0 := Lib.hid hx
  have hlp : ∀ n m : Nat, (digs n).length ≤ 100000 → (digs (n - m)).length ≤ 1000000 := fun n m h => by
    have h1 := digs_lt n
    have h2 := P_le h
    exact Nat.le_trans (digs_le (k := 100000) (by omega)) (by omega)
  by_cases hlt : a.natAbs < b.natAbs
  · have hdt : decide (a.natAbs < b.natAbs) = true := by simpa using hlt
    have hpn : (a + b).natAbs = b.natAbs - a.natAbs := by omega
    have hps : a + b ≠ 0 → (1 : Int) = (a + b).sign := by omega
    have HLP := Lib.hid (hlp b.natAbs a.natAbs hlb)
    obtain ⟨p, ep⟩ : ∃ p, a + b = p := ⟨_, rfl⟩
    rw [ep] at hpn hps ⊢
    have HPN := Lib.hid hpn
    have HPS := Lib.hid hps
    have HLE := Lib.hid (Nat.le_of_lt hlt)
    have HLESS := fun W h1 h2 => rless_n (.slice aa na ca) (.slice ab nb cb) a.natAbs b.natAbs W h1 h2
    rw [hdt] at HLESS
    have HLS := Lib.hid HLESS
    clear ha hb hia hib hx hpn hlp hps ep h1 h2 h3 hsa hsb hlt hdt HLESS
    go_enter Tryz.func47, Tryz.ntmps47
    go_wp2_with fail
    refine (risb_any (HA.out.later HX0.out.below)).mono ?_
    rintro e w1 ⟨rfl, hb1⟩
    have HX1 := Lib.hid (HX0.out.later hb1)
    obtain ⟨c00, c01, c10, c11⟩ := HX1.out.cells
    clear hb1
    go_wp2_with fail
    refine (risb_any (HB.out.later HX1.out.below)).mono ?_
    rintro e w2 ⟨rfl, hb2⟩
    have HX2 := Lib.hid (HX1.out.later hb2)
    obtain ⟨d00, d01, d10, d11⟩ := HX2.out.cells
    clear hb2 c00 c01 c10 c11
    go_wp2_with fail
    refine (HLS.out _ (HIA.out.later HX2.out.below) (HIB.out.later HX2.out.below)).mono ?_
    rintro e w2' ⟨rfl, rfl⟩
    go_wp2_with fail
    have HXD := Lib.hid (HX2.out.heap (W' := w2.drew) rfl rfl rfl rfl)
    have e2 := HXD.out.cells
    clear d00 d01 d10 d11
    go_region_held3 (fun W => W.cell? ⟨w.heap.size, 0, none⟩ = some (.int .i64 (-1)) ∧ W.cell? ⟨w.heap.size, 1, none⟩ = some (.slice aa na ca) ∧ W.cell? ⟨w.heap.size + 1, 0, none⟩ = some (.int .i64 1) ∧ W.cell? ⟨w.heap.size + 1, 1, none⟩ = some (.slice ab nb cb))
      (first | exact e2 | exact x3 | exact x4 | exact HX4.out.stays _ _)
      (first
        | (go_at_call 75; (with_reducible refine (rminus_n _ _ b.natAbs a.natAbs HLE.out _ ?_ ?_ (Nat.le_trans hlb (by decide))).mono ?_); (focus exact HIB.out.later HXD.out.below); (focus exact HIA.out.later HXD.out.below); rintro e w3 ⟨v3, rfl, ho3, hb3, hf3⟩; obtain ⟨ax, cx, rfl⟩ := ho3.fit; have HX3 := Lib.hid (HXD.out.later hb3); have x3 := HX3.out.cells; have HI3 := Lib.hid (ho3.ints (Nat.le_trans HLP.out (by decide))); clear ho3 hb3 hf3)
        | (go_at_call 71; (with_reducible refine (rmade_n _ ax cx _ p HPN.out HPS.out _ HI3.out (Nat.le_trans HLP.out (by decide))).mono ?_); rintro e w4 ⟨s4, rfl, hi4, hb4, ho4⟩; obtain ⟨a5, c5, rfl, hi5⟩ := hi4.open; have HO4 := Lib.hid (ho4.mono HX3.out.below.size); have HZ4 := Lib.hid (ho4.mono HX3.out.size); have HX4 := Lib.hid (HX3.out.later hb4); have x4 := HX4.out.cells; have HI5 := Lib.hid hi5; clear hi4 hi5 hb4 ho4; obtain ⟨r0, r1, f0, f1⟩ := HX4.out.rcells))
    go_wp2_with fail
    have hoff := HZ4.out (w.heap.size + 1 + 1) (by simp)
    exact bodyPost_ret (v := .tuple #[.agg #[.int .i64 p.sign, .slice a5 (digs p.natAbs).length c5], .int .i64 0]) (by simp [results, Tryz.results47, go_sem, r0, r1]) rfl
      ⟨_, rfl, (HI5.out.set hoff 0 _).set hoff 1 _, HX4.out.put _ _, HO4.out⟩
  · have hdt : decide (a.natAbs < b.natAbs) = false := by simpa using hlt
    have hpn : (a + b).natAbs = a.natAbs - b.natAbs := by omega
    have hps : a + b ≠ 0 → ((-1) : Int) = (a + b).sign := by omega
    have HLP := Lib.hid (hlp a.natAbs b.natAbs hla)
    obtain ⟨p, ep⟩ : ∃ p, a + b = p := ⟨_, rfl⟩
    rw [ep] at hpn hps ⊢
    have HPN := Lib.hid hpn
    have HPS := Lib.hid hps
    have HLE := Lib.hid (Nat.le_of_not_lt hlt)
    have HLESS := fun W h1 h2 => rless_n (.slice aa na ca) (.slice ab nb cb) a.natAbs b.natAbs W h1 h2
    rw [hdt] at HLESS
    have HLS := Lib.hid HLESS
    clear ha hb hia hib hx hpn hlp hps ep h1 h2 h3 hsa hsb hlt hdt HLESS
    go_enter Tryz.func47, Tryz.ntmps47
    go_wp2_with fail
    refine (risb_any (HA.out.later HX0.out.below)).mono ?_
    rintro e w1 ⟨rfl, hb1⟩
    have HX1 := Lib.hid (HX0.out.later hb1)
    obtain ⟨c00, c01, c10, c11⟩ := HX1.out.cells
    clear hb1
    go_wp2_with fail
    refine (risb_any (HB.out.later HX1.out.below)).mono ?_
    rintro e w2 ⟨rfl, hb2⟩
    have HX2 := Lib.hid (HX1.out.later hb2)
    obtain ⟨d00, d01, d10, d11⟩ := HX2.out.cells
    clear hb2 c00 c01 c10 c11
    go_wp2_with fail
    refine (HLS.out _ (HIA.out.later HX2.out.below) (HIB.out.later HX2.out.below)).mono ?_
    rintro e w2' ⟨rfl, rfl⟩
    go_wp2_with fail
    have HXD := Lib.hid (HX2.out.heap (W' := w2.drew) rfl rfl rfl rfl)
    have e2 := HXD.out.cells
    clear d00 d01 d10 d11
    go_region_held3 (fun W => W.cell? ⟨w.heap.size, 0, none⟩ = some (.int .i64 (-1)) ∧ W.cell? ⟨w.heap.size, 1, none⟩ = some (.slice aa na ca) ∧ W.cell? ⟨w.heap.size + 1, 0, none⟩ = some (.int .i64 1) ∧ W.cell? ⟨w.heap.size + 1, 1, none⟩ = some (.slice ab nb cb))
      (first | exact e2 | exact x3 | exact x4 | exact HX4.out.stays _ _)
      (first
        | (go_at_call 75; (with_reducible refine (rminus_n _ _ a.natAbs b.natAbs HLE.out _ ?_ ?_ (Nat.le_trans hla (by decide))).mono ?_); (focus exact HIA.out.later HXD.out.below); (focus exact HIB.out.later HXD.out.below); rintro e w3 ⟨v3, rfl, ho3, hb3, hf3⟩; obtain ⟨ax, cx, rfl⟩ := ho3.fit; have HX3 := Lib.hid (HXD.out.later hb3); have x3 := HX3.out.cells; have HI3 := Lib.hid (ho3.ints (Nat.le_trans HLP.out (by decide))); clear ho3 hb3 hf3)
        | (go_at_call 71; (with_reducible refine (rmade_n _ ax cx _ p HPN.out HPS.out _ HI3.out (Nat.le_trans HLP.out (by decide))).mono ?_); rintro e w4 ⟨s4, rfl, hi4, hb4, ho4⟩; obtain ⟨a5, c5, rfl, hi5⟩ := hi4.open; have HO4 := Lib.hid (ho4.mono HX3.out.below.size); have HZ4 := Lib.hid (ho4.mono HX3.out.size); have HX4 := Lib.hid (HX3.out.later hb4); have x4 := HX4.out.cells; have HI5 := Lib.hid hi5; clear hi4 hi5 hb4 ho4; obtain ⟨r0, r1, f0, f1⟩ := HX4.out.rcells))
    go_wp2_with fail
    have hoff := HZ4.out (w.heap.size + 1 + 1) (by simp)
    exact bodyPost_ret (v := .tuple #[.agg #[.int .i64 p.sign, .slice a5 (digs p.natAbs).length c5], .int .i64 0]) (by simp [results, Tryz.results47, go_sem, r0, r1]) rfl
      ⟨_, rfl, (HI5.out.set hoff 0 _).set hoff 1 _, HX4.out.put _ _, HO4.out⟩

theorem radd_ok (va vb : Value) (a b : Int) (w : World) (ha : IsB w va a) (hb : IsB w vb b) (hla : (digs a.natAbs).length ≤ 100000) (hlb : (digs b.natAbs).length ≤ 100000) :
    Calls Tryz.prog 47 #[va, vb] w (Ans (a + b) 0 w) := by
  obtain ⟨sa, rfl, hia⟩ := id ha
  obtain ⟨sb, rfl, hib⟩ := id hb
  obtain ⟨aa, na, ca, rfl⟩ : ∃ aa na ca, sa = .slice aa na ca := by obtain ⟨x, y, z, _⟩ := hia; exact ⟨_, _, _, z⟩
  obtain ⟨ab, nb, cb, rfl⟩ : ∃ aa na ca, sb = .slice aa na ca := by obtain ⟨x, y, z, _⟩ := hib; exact ⟨_, _, _, z⟩
  rcases sgn_is a with ⟨_, h1⟩ | ⟨_, h1⟩ | ⟨_, h1⟩ <;> rcases sgn_is b with ⟨_, h2⟩ | ⟨_, h2⟩ | ⟨_, h2⟩ <;> rw [h1] at ha ⊢ <;> rw [h2] at hb ⊢
  · exact radd_mm aa ab na nb ca cb a b w ha hb hia hib hla hlb h1 h2
  · exact radd_mz aa ab na nb ca cb a b w ha hb hia hib hla hlb h1 h2
  · exact radd_mp aa ab na nb ca cb a b w ha hb hia hib hla hlb h1 h2
  · exact radd_zm aa ab na nb ca cb a b w ha hb hia hib hla hlb h1 h2
  · exact radd_zz aa ab na nb ca cb a b w ha hb hia hib hla hlb h1 h2
  · exact radd_zp aa ab na nb ca cb a b w ha hb hia hib hla hlb h1 h2
  · exact radd_pm aa ab na nb ca cb a b w ha hb hia hib hla hlb h1 h2
  · exact radd_pz aa ab na nb ca cb a b w ha hb hia hib hla hlb h1 h2
  · exact radd_pp aa ab na nb ca cb a b w ha hb hia hib hla hlb h1 h2
end Go.Proofs.YtnddickcnfodfaaGreatDoor.Bi
