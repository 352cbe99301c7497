/- The contracts of Neg, Sign, compare, Compare, extreme, Min, Max, Floor of frac, at valid fractions. The contracts of Same, Int, Of of frac, and of the laws' own Same, Few, right, of. -/
import Derived.Test.YtmhjejnkphdjpaaPB11
set_option maxRecDepth 100000
namespace Go.Proofs.Ytmhjejnkphdjpaa.Bi
open Go.RowKit

/-- -1, 0 or 1 by the order. -/
def cmpR (a b : Rat) : Int := if a < b then -1 else if a = b then 0 else 1
theorem cmp_cross (a b : Rat) : cmpI (a.num * b.den) (b.num * a.den) = cmpR a b := by
  unfold cmpI cmpR
  simp only [Rat.lt_iff a b, rat_cross a b]
theorem cmpR_bd (a b : Rat) : -1 ≤ cmpR a b ∧ cmpR a b ≤ 1 := by unfold cmpR; split; omega; split <;> omega
theorem cmpR_lt {a b : Rat} : cmpR a b = -1 ↔ a < b := by
  unfold cmpR; split
  · rename_i h; exact ⟨fun _ => h, fun _ => rfl⟩
  · rename_i h; split <;> exact ⟨fun e => absurd e (by omega), fun e => absurd e h⟩
theorem cmpR_gt {a b : Rat} : cmpR a b = 1 ↔ b < a := by
  unfold cmpR; split
  · rename_i h; exact ⟨fun e => absurd e (by omega), fun e => absurd (Rat.le_of_lt h) (Rat.not_le.2 e)⟩
  · rename_i h; split
    · rename_i h2; subst h2; exact ⟨fun e => absurd e (by omega), fun e => absurd e h⟩
    · rename_i h2
      exact ⟨fun _ => Rat.lt_of_le_of_ne (Rat.not_lt.1 h) (fun e => h2 e.symm), fun _ => rfl⟩
def rmax (a b : Rat) : Rat := if a < b then b else a

set_option maxHeartbeats 2000000 in
theorem fcompare_k {w : World} {sa : Int} {aa ba : Option Addr} {na ca ma da : Nat} {sb : Int} {ab bb : Option Addr} {nb cb mb db : Nat} {a b : Rat} (ha : Fr w sa (.slice aa na ca) (.slice ba ma da) a) (hb : Fr w sb (.slice ab nb cb) (.slice bb mb db) b) (La : FSz 1000 a) (Lb : FSz 1000 b) :
    Calls Try.prog 69 #[.agg #[.int .i64 sa, .slice aa na ca, .int .i64 1, .slice ba ma da], .agg #[.int .i64 sb, .slice ab nb cb, .int .i64 1, .slice bb mb db]] w fun e w' => e = .returned (.int .i64 (cmpR a b)) ∧ RowKit.Below w.heap.size w w' := by
  have HC := Lib.hid (cmp_cross a b)
  have LX0 : Hid (Len 100000 a.num) := Sz.len La.1
  have LY0 : Hid (Len 100000 (b.den : Int)) := Sz.len Lb.2
  have LX1 : Hid (Len 100000 b.num) := Sz.len Lb.1
  have LY1 : Hid (Len 100000 (a.den : Int)) := Sz.len La.2
  have HA := Lib.hid ha
  have HB := Lib.hid hb
  have HLA := Lib.hid La
  have HLB := Lib.hid Lb
  have HaP := Lib.hid ha.1
  have HaQ := Lib.hid ha.2
  have HbP := Lib.hid hb.1
  have HbQ := Lib.hid hb.2
  have S0 := Lib.hid (((Sf.start w).put [.int .i64 sa, .slice aa na ca, .int .i64 1, .slice ba ma da] 34).put' (n := w.heap.size + 1) (by simp) [.int .i64 sb, .slice ab nb cb, .int .i64 1, .slice bb mb db] 34)
  clear ha hb La Lb
  go_enter Try.func69, Try.ntmps69
  go_wp2_with fail
  have T0 := Lib.hid S0.out.drew
  have K0 : ∀ W F, Sf w [(w.heap.size + 1, 34, [.int .i64 sb, .slice ab nb cb, .int .i64 1, .slice bb mb db]), (w.heap.size, 34, [.int .i64 sa, .slice aa na ca, .int .i64 1, .slice ba ma da])] F W → W.cell? ⟨w.heap.size, 0, none⟩ = some (.int .i64 sa) ∧ W.cell? ⟨w.heap.size, 1, none⟩ = some (.slice aa na ca) ∧ W.cell? ⟨w.heap.size, 2, none⟩ = some (.int .i64 1) ∧ W.cell? ⟨w.heap.size, 3, none⟩ = some (.slice ba ma da) ∧ W.cell? ⟨w.heap.size + 1, 0, none⟩ = some (.int .i64 sb) ∧ W.cell? ⟨w.heap.size + 1, 1, none⟩ = some (.slice ab nb cb) ∧ W.cell? ⟨w.heap.size + 1, 2, none⟩ = some (.int .i64 1) ∧ W.cell? ⟨w.heap.size + 1, 3, none⟩ = some (.slice bb mb db) := fun W F h => ⟨(h.box _ (List.mem_cons_of_mem _ List.mem_cons_self) : Fb _ _).cells4.1, (h.box _ (List.mem_cons_of_mem _ List.mem_cons_self) : Fb _ _).cells4.2.1, (h.box _ (List.mem_cons_of_mem _ List.mem_cons_self) : Fb _ _).cells4.2.2.1, (h.box _ (List.mem_cons_of_mem _ List.mem_cons_self) : Fb _ _).cells4.2.2.2, (h.box _ List.mem_cons_self : Fb _ _).cells4⟩
  have KK := Lib.hid K0
  clear K0 S0
  have e0 := KK.out _ _ T0.out
  have X0 := Lib.hid (HaP.out.later T0.out.below)
  have Y0 := Lib.hid (HbQ.out.later T0.out.below)
  go_region_held3 (fun W => W.cell? ⟨w.heap.size, 0, none⟩ = some (.int .i64 sa) ∧ W.cell? ⟨w.heap.size, 1, none⟩ = some (.slice aa na ca) ∧ W.cell? ⟨w.heap.size, 2, none⟩ = some (.int .i64 1) ∧ W.cell? ⟨w.heap.size, 3, none⟩ = some (.slice ba ma da) ∧ W.cell? ⟨w.heap.size + 1, 0, none⟩ = some (.int .i64 sb) ∧ W.cell? ⟨w.heap.size + 1, 1, none⟩ = some (.slice ab nb cb) ∧ W.cell? ⟨w.heap.size + 1, 2, none⟩ = some (.int .i64 1) ∧ W.cell? ⟨w.heap.size + 1, 3, none⟩ = some (.slice bb mb db))
    (first | (with_reducible exact e0) | (with_reducible exact e1) | (with_reducible exact e2) | (with_reducible exact e3))
    (first
      | (go_at_call 86; (with_reducible refine (cmp_t X2.out Y2.out HC.out).mono ?_); rintro e v2 ⟨rfl, hb⟩; have T3 := Lib.hid (T2.out.later hb); have e3 := KK.out _ _ T3.out; clear hb)
      | (go_at_call 41; (with_reducible refine (product_k X1.out Y1.out LX1.out LY1.out).mono ?_); rintro e v1 ⟨g1, p1, k1, j1, rfl, hn, hb, hf⟩; have T2 := Lib.hid (T1.out.ret hb hn.2 hf); have E1 := Lib.hid hn.1; have e2 := KK.out _ _ T2.out; have X2 := Lib.hid (T2.out.num (v := .slice p0 k0 j0) (z := a.num * (b.den : Int)) (List.mem_cons_of_mem _ List.mem_cons_self) E0.out); have Y2 := Lib.hid (T2.out.num (v := .slice p1 k1 j1) (z := b.num * (a.den : Int)) List.mem_cons_self E1.out); clear hn hb hf)
      | (go_at_call 41; (with_reducible refine (product_k X0.out Y0.out LX0.out LY0.out).mono ?_); rintro e v0 ⟨g0, p0, k0, j0, rfl, hn, hb, hf⟩; have T1 := Lib.hid (T0.out.ret hb hn.2 hf); have E0 := Lib.hid hn.1; have e1 := KK.out _ _ T1.out; have X1 := Lib.hid (HbP.out.later T1.out.below); have Y1 := Lib.hid (HaQ.out.later T1.out.below); clear hn hb hf))
  go_wp2_with fail
  go_ret
  exact ⟨rfl, T3.out.below⟩

set_option maxHeartbeats 2000000 in
theorem fext_b {w : World} {sa : Int} {aa ba : Option Addr} {na ca ma da : Nat} {sb : Int} {ab bb : Option Addr} {nb cb mb db : Nat} {a b : Rat} (ha : Fr w sa (.slice aa na ca) (.slice ba ma da) a) (hb : Fr w sb (.slice ab nb cb) (.slice bb mb db) b) (La : FSz 1000 a) (Lb : FSz 1000 b) (side : Int) (_hs : -1 ≤ side ∧ side ≤ 1) (h : cmpR b a = side) :
    Calls Try.prog 49 #[.agg #[.int .i64 sa, .slice aa na ca, .int .i64 1, .slice ba ma da], .agg #[.int .i64 sb, .slice ab nb cb, .int .i64 1, .slice bb mb db], .int .i64 side] w (FVE b 0 w) := by
  obtain ⟨k, hk⟩ : ∃ k, cmpR b a = k := ⟨_, rfl⟩
  have hkb := cmpR_bd b a
  rw [hk] at h hkb
  have HK := Lib.hid hk
  have LX0 : Hid (Len 100000 b.num) := Sz.len Lb.1
  have LX1 : Hid (Len 100000 (b.den : Int)) := Sz.len Lb.2
  have HA := Lib.hid ha
  have HB := Lib.hid hb
  have HLA := Lib.hid La
  have HLB := Lib.hid Lb
  have HaP := Lib.hid ha.1
  have HaQ := Lib.hid ha.2
  have HbP := Lib.hid hb.1
  have HbQ := Lib.hid hb.2
  have S0 := Lib.hid ((((Sf.start w).put [.int .i64 sa, .slice aa na ca, .int .i64 1, .slice ba ma da] 34).put' (n := w.heap.size + 1) (by simp) [.int .i64 sb, .slice ab nb cb, .int .i64 1, .slice bb mb db] 34).put' (n := w.heap.size + 1 + 1) (by simp) [.int .i64 0, .slice none 0 0, .int .i64 0, .slice none 0 0] 34)
  clear ha hb La Lb hk
  subst h
  have hq : (k == k) = true := by simp
  go_enter Try.func49, Try.ntmps49
  go_wp2_with fail
  refine (fright_k (HA.out.later S0.out.below) HLA.out).mono ?_
  rintro e w1 ⟨rfl, hb⟩
  have S1 := Lib.hid (S0.out.later hb)
  obtain ⟨q0, q1, q2, q3⟩ := (S1.out.box _ (List.mem_cons_of_mem _ List.mem_cons_self) : Fb (w.heap.size + 1, 34, [.int .i64 sb, .slice ab nb cb, .int .i64 1, .slice bb mb db]) _).cells4
  clear hb S0
  go_wp2_with fail
  refine (fright_k (HB.out.later S1.out.below) HLB.out).mono ?_
  rintro e w2 ⟨rfl, hb⟩
  have S2 := Lib.hid (S1.out.later hb)
  clear hb S1 q0 q1 q2 q3
  obtain ⟨q0, q1, q2, q3⟩ := (S2.out.box _ (List.mem_cons_of_mem _ List.mem_cons_self) : Fb (w.heap.size + 1, 34, [.int .i64 sb, .slice ab nb cb, .int .i64 1, .slice bb mb db]) _).cells4
  obtain ⟨t0, t1, t2, t3⟩ := (S2.out.box _ (List.mem_cons_of_mem _ (List.mem_cons_of_mem _ List.mem_cons_self)) : Fb (w.heap.size, 34, [.int .i64 sa, .slice aa na ca, .int .i64 1, .slice ba ma da]) _).cells4
  go_wp2_with fail
  refine (fcompare_k (HB.out.later S2.out.below) (HA.out.later S2.out.below) HLB.out HLA.out).mono ?_
  rintro e w3 ⟨rfl, hb⟩
  rw [HK.out]
  have S3 := Lib.hid (S2.out.later hb)
  clear hb S2 q0 q1 q2 q3 t0 t1 t2 t3
  obtain ⟨q0, q1, q2, q3⟩ := (S3.out.box _ (List.mem_cons_of_mem _ List.mem_cons_self) : Fb (w.heap.size + 1, 34, [.int .i64 sb, .slice ab nb cb, .int .i64 1, .slice bb mb db]) _).cells4
  obtain ⟨t0, t1, t2, t3⟩ := (S3.out.box _ (List.mem_cons_of_mem _ (List.mem_cons_of_mem _ List.mem_cons_self)) : Fb (w.heap.size, 34, [.int .i64 sa, .slice aa na ca, .int .i64 1, .slice ba ma da]) _).cells4
  obtain ⟨u0, u1, u2, u3⟩ := (S3.out.box _ (List.mem_cons_of_mem _ (List.mem_cons_of_mem _ List.mem_cons_self)) : Fb (w.heap.size, 34, [.int .i64 sa, .slice aa na ca, .int .i64 1, .slice ba ma da]) _).free4
  go_wp2_with fail
  have T0 := Lib.hid (S3.out.set4 (pre := [_, _]) (.int .i64 sb) (.slice ab nb cb) (.int .i64 1) (.slice bb mb db)).drew
  clear S3 q0 q1 q2 q3 t0 t1 t2 t3 u0 u1 u2 u3
  have K0 : ∀ W F (r0 r1 r2 r3 : Value), Sf w [(w.heap.size + 1 + 1, 34, [r0, r1, r2, r3]), (w.heap.size + 1, 34, [.int .i64 sb, .slice ab nb cb, .int .i64 1, .slice bb mb db]), (w.heap.size, 34, [.int .i64 sb, .slice ab nb cb, .int .i64 1, .slice bb mb db])] F W → W.cell? ⟨w.heap.size, 0, none⟩ = some (.int .i64 sb) ∧ W.cell? ⟨w.heap.size, 1, none⟩ = some (.slice ab nb cb) ∧ W.cell? ⟨w.heap.size, 2, none⟩ = some (.int .i64 1) ∧ W.cell? ⟨w.heap.size, 3, none⟩ = some (.slice bb mb db) := fun W F r0 r1 r2 r3 h => (h.box _ (List.mem_cons_of_mem _ (List.mem_cons_of_mem _ List.mem_cons_self)) : Fb _ _).cells4
  have KK := Lib.hid K0
  clear K0
  have e0 := KK.out _ _ _ _ _ _ T0.out
  have X0 := Lib.hid (HbP.out.later T0.out.below)
  go_region_held3 (fun W => W.cell? ⟨w.heap.size, 0, none⟩ = some (.int .i64 sb) ∧ W.cell? ⟨w.heap.size, 1, none⟩ = some (.slice ab nb cb) ∧ W.cell? ⟨w.heap.size, 2, none⟩ = some (.int .i64 1) ∧ W.cell? ⟨w.heap.size, 3, none⟩ = some (.slice bb mb db))
    (first | (with_reducible exact e0) | (with_reducible exact e1) | (with_reducible exact e2) | (with_reducible exact e3))
    (first
      | (go_at_call 70; (with_reducible refine (fclone_k X1.out LX1.out).mono ?_); rintro e v1 ⟨g1, p1, k1, j1, rfl, hn, hb, hf⟩; have T2 := Lib.hid (T1.out.ret hb hn.2 hf); have E1 := Lib.hid hn.1; have F1 := Lib.hid (hf.mono T1.out.below.size); have e2 := KK.out _ _ _ _ _ _ T2.out; have yr : Fb (w.heap.size + 1 + 1, 34, [.int .i64 0, .slice none 0 0, .int .i64 0, .slice none 0 0]) _ := T2.out.box _ List.mem_cons_self; obtain ⟨r0, r1, r2, r3⟩ := yr.cells4; obtain ⟨f0, f1, f2, f3⟩ := yr.free4; have T3 := Lib.hid (T2.out.set4 (pre := []) (.int .i64 g0) (.slice p0 k0 j0) (.int .i64 g1) (.slice p1 k1 j1)); have e3 := KK.out _ _ _ _ _ _ T3.out; clear hn hb hf yr)
      | (go_at_call 70; (with_reducible refine (fclone_k X0.out LX0.out).mono ?_); rintro e v0 ⟨g0, p0, k0, j0, rfl, hn, hb, hf⟩; have T1 := Lib.hid (T0.out.ret hb hn.2 hf); have E0 := Lib.hid hn.1; have F0 := Lib.hid (hf.mono T0.out.below.size); have e1 := KK.out _ _ _ _ _ _ T1.out; have X1 := Lib.hid (HbQ.out.later T1.out.below); clear hn hb hf))
  go_wp2_with fail
  obtain rfl : g1 = 1 := E1.out.trans (den_sign _)
  exact bodyPost_ret (v := .tuple #[.agg #[.int .i64 g0, .slice p0 k0 j0, .int .i64 1, .slice p1 k1 j1], .int .i64 0]) (by simp [results, Try.results49, go_sem, r0, r1, r2, r3]) rfl
    ⟨_, _, _, _, _, _, _, rfl, ⟨T3.out.num (v := .slice p0 k0 j0) (z := b.num) (List.mem_cons_of_mem _ List.mem_cons_self) E0.out, T3.out.num (v := .slice p1 k1 j1) (z := (b.den : Int)) List.mem_cons_self E1.out⟩, T3.out.below, F0.out, F1.out⟩

set_option maxHeartbeats 2000000 in
theorem fext_a {w : World} {sa : Int} {aa ba : Option Addr} {na ca ma da : Nat} {sb : Int} {ab bb : Option Addr} {nb cb mb db : Nat} {a b : Rat} (ha : Fr w sa (.slice aa na ca) (.slice ba ma da) a) (hb : Fr w sb (.slice ab nb cb) (.slice bb mb db) b) (La : FSz 1000 a) (Lb : FSz 1000 b) (side : Int) (_hs : -1 ≤ side ∧ side ≤ 1) (h : cmpR b a ≠ side) :
    Calls Try.prog 49 #[.agg #[.int .i64 sa, .slice aa na ca, .int .i64 1, .slice ba ma da], .agg #[.int .i64 sb, .slice ab nb cb, .int .i64 1, .slice bb mb db], .int .i64 side] w (FVE a 0 w) := by
  obtain ⟨k, hk⟩ : ∃ k, cmpR b a = k := ⟨_, rfl⟩
  have hkb := cmpR_bd b a
  rw [hk] at h hkb
  have HK := Lib.hid hk
  have LX0 : Hid (Len 100000 a.num) := Sz.len La.1
  have LX1 : Hid (Len 100000 (a.den : Int)) := Sz.len La.2
  have HA := Lib.hid ha
  have HB := Lib.hid hb
  have HLA := Lib.hid La
  have HLB := Lib.hid Lb
  have HaP := Lib.hid ha.1
  have HaQ := Lib.hid ha.2
  have HbP := Lib.hid hb.1
  have HbQ := Lib.hid hb.2
  have S0 := Lib.hid ((((Sf.start w).put [.int .i64 sa, .slice aa na ca, .int .i64 1, .slice ba ma da] 34).put' (n := w.heap.size + 1) (by simp) [.int .i64 sb, .slice ab nb cb, .int .i64 1, .slice bb mb db] 34).put' (n := w.heap.size + 1 + 1) (by simp) [.int .i64 0, .slice none 0 0, .int .i64 0, .slice none 0 0] 34)
  clear ha hb La Lb hk
  have hq : (k == side) = false := by simpa using h
  clear h
  go_enter Try.func49, Try.ntmps49
  go_wp2_with fail
  refine (fright_k (HA.out.later S0.out.below) HLA.out).mono ?_
  rintro e w1 ⟨rfl, hb⟩
  have S1 := Lib.hid (S0.out.later hb)
  obtain ⟨q0, q1, q2, q3⟩ := (S1.out.box _ (List.mem_cons_of_mem _ List.mem_cons_self) : Fb (w.heap.size + 1, 34, [.int .i64 sb, .slice ab nb cb, .int .i64 1, .slice bb mb db]) _).cells4
  clear hb S0
  go_wp2_with fail
  refine (fright_k (HB.out.later S1.out.below) HLB.out).mono ?_
  rintro e w2 ⟨rfl, hb⟩
  have S2 := Lib.hid (S1.out.later hb)
  clear hb S1 q0 q1 q2 q3
  obtain ⟨q0, q1, q2, q3⟩ := (S2.out.box _ (List.mem_cons_of_mem _ List.mem_cons_self) : Fb (w.heap.size + 1, 34, [.int .i64 sb, .slice ab nb cb, .int .i64 1, .slice bb mb db]) _).cells4
  obtain ⟨t0, t1, t2, t3⟩ := (S2.out.box _ (List.mem_cons_of_mem _ (List.mem_cons_of_mem _ List.mem_cons_self)) : Fb (w.heap.size, 34, [.int .i64 sa, .slice aa na ca, .int .i64 1, .slice ba ma da]) _).cells4
  go_wp2_with fail
  refine (fcompare_k (HB.out.later S2.out.below) (HA.out.later S2.out.below) HLB.out HLA.out).mono ?_
  rintro e w3 ⟨rfl, hb⟩
  rw [HK.out]
  have S3 := Lib.hid (S2.out.later hb)
  clear hb S2 q0 q1 q2 q3 t0 t1 t2 t3
  go_wp2_with fail
  have T0 := Lib.hid S3.out.drew
  clear S3
  have K0 : ∀ W F (r0 r1 r2 r3 : Value), Sf w [(w.heap.size + 1 + 1, 34, [r0, r1, r2, r3]), (w.heap.size + 1, 34, [.int .i64 sb, .slice ab nb cb, .int .i64 1, .slice bb mb db]), (w.heap.size, 34, [.int .i64 sa, .slice aa na ca, .int .i64 1, .slice ba ma da])] F W → W.cell? ⟨w.heap.size, 0, none⟩ = some (.int .i64 sa) ∧ W.cell? ⟨w.heap.size, 1, none⟩ = some (.slice aa na ca) ∧ W.cell? ⟨w.heap.size, 2, none⟩ = some (.int .i64 1) ∧ W.cell? ⟨w.heap.size, 3, none⟩ = some (.slice ba ma da) := fun W F r0 r1 r2 r3 h => (h.box _ (List.mem_cons_of_mem _ (List.mem_cons_of_mem _ List.mem_cons_self)) : Fb _ _).cells4
  have KK := Lib.hid K0
  clear K0
  have e0 := KK.out _ _ _ _ _ _ T0.out
  have X0 := Lib.hid (HaP.out.later T0.out.below)
  go_region_held3 (fun W => W.cell? ⟨w.heap.size, 0, none⟩ = some (.int .i64 sa) ∧ W.cell? ⟨w.heap.size, 1, none⟩ = some (.slice aa na ca) ∧ W.cell? ⟨w.heap.size, 2, none⟩ = some (.int .i64 1) ∧ W.cell? ⟨w.heap.size, 3, none⟩ = some (.slice ba ma da))
    (first | (with_reducible exact e0) | (with_reducible exact e1) | (with_reducible exact e2) | (with_reducible exact e3))
    (first
      | (go_at_call 70; (with_reducible refine (fclone_k X1.out LX1.out).mono ?_); rintro e v1 ⟨g1, p1, k1, j1, rfl, hn, hb, hf⟩; have T2 := Lib.hid (T1.out.ret hb hn.2 hf); have E1 := Lib.hid hn.1; have F1 := Lib.hid (hf.mono T1.out.below.size); have e2 := KK.out _ _ _ _ _ _ T2.out; have yr : Fb (w.heap.size + 1 + 1, 34, [.int .i64 0, .slice none 0 0, .int .i64 0, .slice none 0 0]) _ := T2.out.box _ List.mem_cons_self; obtain ⟨r0, r1, r2, r3⟩ := yr.cells4; obtain ⟨f0, f1, f2, f3⟩ := yr.free4; have T3 := Lib.hid (T2.out.set4 (pre := []) (.int .i64 g0) (.slice p0 k0 j0) (.int .i64 g1) (.slice p1 k1 j1)); have e3 := KK.out _ _ _ _ _ _ T3.out; clear hn hb hf yr)
      | (go_at_call 70; (with_reducible refine (fclone_k X0.out LX0.out).mono ?_); rintro e v0 ⟨g0, p0, k0, j0, rfl, hn, hb, hf⟩; have T1 := Lib.hid (T0.out.ret hb hn.2 hf); have E0 := Lib.hid hn.1; have F0 := Lib.hid (hf.mono T0.out.below.size); have e1 := KK.out _ _ _ _ _ _ T1.out; have X1 := Lib.hid (HaQ.out.later T1.out.below); clear hn hb hf))
  go_wp2_with fail
  obtain rfl : g1 = 1 := E1.out.trans (den_sign _)
  exact bodyPost_ret (v := .tuple #[.agg #[.int .i64 g0, .slice p0 k0 j0, .int .i64 1, .slice p1 k1 j1], .int .i64 0]) (by simp [results, Try.results49, go_sem, r0, r1, r2, r3]) rfl
    ⟨_, _, _, _, _, _, _, rfl, ⟨T3.out.num (v := .slice p0 k0 j0) (z := a.num) (List.mem_cons_of_mem _ List.mem_cons_self) E0.out, T3.out.num (v := .slice p1 k1 j1) (z := (a.den : Int)) List.mem_cons_self E1.out⟩, T3.out.below, F0.out, F1.out⟩

theorem fext_k {w : World} {sa : Int} {aa ba : Option Addr} {na ca ma da : Nat} {sb : Int} {ab bb : Option Addr} {nb cb mb db : Nat} {a b : Rat} (ha : Fr w sa (.slice aa na ca) (.slice ba ma da) a) (hb : Fr w sb (.slice ab nb cb) (.slice bb mb db) b) (La : FSz 1000 a) (Lb : FSz 1000 b) (side : Int) (hs : -1 ≤ side ∧ side ≤ 1) : Calls Try.prog 49 #[.agg #[.int .i64 sa, .slice aa na ca, .int .i64 1, .slice ba ma da], .agg #[.int .i64 sb, .slice ab nb cb, .int .i64 1, .slice bb mb db], .int .i64 side] w (FVE (if cmpR b a = side then b else a) 0 w) := by
  by_cases h : cmpR b a = side
  · rw [if_pos h]; exact fext_b ha hb La Lb side hs h
  · rw [if_neg h]; exact fext_a ha hb La Lb side hs h

set_option maxHeartbeats 1000000 in
theorem fmax_k {w : World} {sa : Int} {aa ba : Option Addr} {na ca ma da : Nat} {sb : Int} {ab bb : Option Addr} {nb cb mb db : Nat} {a b : Rat} (ha : Fr w sa (.slice aa na ca) (.slice ba ma da) a) (hb : Fr w sb (.slice ab nb cb) (.slice bb mb db) b) (La : FSz 1000 a) (Lb : FSz 1000 b) :
    Calls Try.prog 34 #[.agg #[.int .i64 sa, .slice aa na ca, .int .i64 1, .slice ba ma da], .agg #[.int .i64 sb, .slice ab nb cb, .int .i64 1, .slice bb mb db]] w (FVE (rmax a b) 0 w) := by
  have HR : Hid ((if cmpR b a = 1 then b else a) = rmax a b) := by show _ = _; unfold rmax; simp only [cmpR_gt]
  have HA := Lib.hid ha
  have HB := Lib.hid hb
  have HLA := Lib.hid La
  have HLB := Lib.hid Lb
  have S0 := Lib.hid ((((Sf.start w).put [.int .i64 sa, .slice aa na ca, .int .i64 1, .slice ba ma da] 34).put' (n := w.heap.size + 1) (by simp) [.int .i64 sb, .slice ab nb cb, .int .i64 1, .slice bb mb db] 34).put' (n := w.heap.size + 1 + 1) (by simp) [.int .i64 0, .slice none 0 0, .int .i64 0, .slice none 0 0] 34)
  clear ha hb La Lb
  go_enter Try.func34, Try.ntmps34
  go_wp2_with fail
  refine (fext_k (HA.out.later S0.out.below) (HB.out.later S0.out.below) HLA.out HLB.out 1 (by omega)).mono ?_
  rw [HR.out]
  rintro e w1 ⟨s9, a9, n9, c9, b9, m9, d9, rfl, hr, hb, hf, hg⟩
  have T1 := Lib.hid (S0.out.ret2 hb hr.1.2 hf hr.2.2 hg)
  have E9 := Lib.hid hr.1.1
  have F9 := Lib.hid (hf.mono S0.out.below.size)
  have G9 := Lib.hid (hg.mono S0.out.below.size)
  clear hr hb hf hg S0
  have yr : Fb (w.heap.size + 1 + 1, 34, [.int .i64 0, .slice none 0 0, .int .i64 0, .slice none 0 0]) _ := T1.out.box _ List.mem_cons_self
  obtain ⟨r0, r1, r2, r3⟩ := yr.cells4
  obtain ⟨f0, f1, f2, f3⟩ := yr.free4
  clear yr
  go_wp2_with fail
  have T2 := Lib.hid (T1.out.set4 (pre := []) (.int .i64 s9) (.slice a9 n9 c9) (.int .i64 1) (.slice b9 m9 d9))
  exact bodyPost_ret (v := .tuple #[.agg #[.int .i64 s9, .slice a9 n9 c9, .int .i64 1, .slice b9 m9 d9], .int .i64 0]) (by simp [results, Try.results34, go_sem, r0, r1, r2, r3]) rfl
    ⟨_, _, _, _, _, _, _, rfl, ⟨T2.out.num (v := .slice a9 n9 c9) (z := (rmax a b).num) List.mem_cons_self E9.out, T2.out.num (v := .slice b9 m9 d9) (z := ((rmax a b).den : Int)) (List.mem_cons_of_mem _ List.mem_cons_self) (den_sign _).symm⟩, T2.out.below, F9.out, G9.out⟩

end Go.Proofs.Ytmhjejnkphdjpaa.Bi

namespace Go.Proofs.Ytmhjejnkphdjpaa.Bi
open Go.RowKit

set_option maxHeartbeats 2000000 in
theorem rsb_any (va vb : Value) (s t : Int) (l m : List Int) (w : World) (ha : Arg w va s l) (hb : Arg w vb t m) :
    Calls Try.prog 37 #[va, vb] w fun e w' => e = .returned (.bool (decide (s = t ∧ l = m))) ∧ RowKit.Below w.heap.size w w' := by
  obtain ⟨va', rfl, hia⟩ := id ha
  obtain ⟨vb', rfl, hib⟩ := id hb
  obtain ⟨aa, ca, rfl, ha1, ha2, ha3⟩ := id hia
  obtain ⟨ab, cb, rfl, hb1, hb2, hb3⟩ := id hib
  obtain ⟨na, ena⟩ : ∃ n, l.length = n := ⟨_, rfl⟩
  obtain ⟨nb, enb⟩ : ∃ n, m.length = n := ⟨_, rfl⟩
  have HCA : Hid (∀ k, k < na → ∃ b o, aa = some ⟨b, o, none⟩ ∧ ∀ A B q, (((w.alloc A).alloc B).drewN q).cell? ⟨b, o + k, none⟩ = some (.int .i64 (l.getD k 0))) := by
    intro k hk
    obtain ⟨b, o, e, hlt, hr⟩ := ha3.resolve_left (fun e => by rw [e] at ena; simp at ena; omega)
    exact ⟨b, o, e, fun A B q => ((two_alloc w A B).cell (p := ⟨b, o + k, none⟩) hlt).trans (hr k (by omega))⟩
  have HCB : Hid (∀ k, k < nb → ∃ b o, ab = some ⟨b, o, none⟩ ∧ ∀ A B q, (((w.alloc A).alloc B).drewN q).cell? ⟨b, o + k, none⟩ = some (.int .i64 (m.getD k 0))) := by
    intro k hk
    obtain ⟨b, o, e, hlt, hr⟩ := hb3.resolve_left (fun e => by rw [e] at enb; simp at enb; omega)
    exact ⟨b, o, e, fun A B q => ((two_alloc w A B).cell (p := ⟨b, o + k, none⟩) hlt).trans (hr k (by omega))⟩
  have HLA := Lib.hid ena
  have HLB := Lib.hid enb
  rw [ena] at ha1 ha2 ⊢
  rw [enb] at hb1 hb2 ⊢
  by_cases hst : s = t
  · subst hst
    by_cases hl : na = nb
    · subst hl
      have hd : decide (s = s ∧ l = m) = decide (l = m) := by simp
      rw [hd]
      clear ha hb hia hib ha3 hb3 ena enb hd
      go_enter Try.func37, Try.ntmps37
      go_wp2_with fail
      go_loopw [5] (fun t wr => ∃ k q : Nat, k ≤ na ∧ t = .int .i64 k ∧ l.take k = m.take k ∧ wr = ((w.alloc (.cells #[.int .i64 s, .slice aa na ca] 32)).alloc (.cells #[.int .i64 s, .slice ab na cb] 32)).drewN q) (fun t _ => na - (intOf t).toNat)
      case atStart => exact ⟨0, 0, Nat.zero_le _, rfl, rfl, rfl⟩
      case round =>
        obtain ⟨k, q, hk, rfl, htk, rfl⟩ := hrel
        have HT := Lib.hid htk
        clear htk
        by_cases hlt : k < na
        · obtain ⟨b, o, rfl, hcx0⟩ := HCA.out k hlt
          obtain ⟨b', o', rfl, hcy0⟩ := HCB.out k hlt
          have hcx := hcx0 (.cells #[.int .i64 s, .slice (some ⟨b, o, none⟩) na ca] 32) (.cells #[.int .i64 s, .slice (some ⟨b', o', none⟩) na cb] 32) q
          have hcy := hcy0 (.cells #[.int .i64 s, .slice (some ⟨b, o, none⟩) na ca] 32) (.cells #[.int .i64 s, .slice (some ⟨b', o', none⟩) na cb] 32) q
          clear hcx0 hcy0
          simp only [World.cell?_drewN] at hcx hcy
          obtain ⟨x, ex⟩ : ∃ x, l.getD k 0 = x := ⟨_, rfl⟩
          obtain ⟨y, ey⟩ : ∃ y, m.getD k 0 = y := ⟨_, rfl⟩
          rw [ex] at hcx
          rw [ey] at hcy
          have HX := Lib.hid ex
          have HY := Lib.hid ey
          have hki : (k : Int) < na := by omega
          clear ex ey
          have hs1 := fun h1 : k < l.length => List.take_succ_eq_append_getElem h1
          have hs2 := fun h1 : k < m.length => List.take_succ_eq_append_getElem h1
          have HS1 := Lib.hid hs1
          have HS2 := Lib.hid hs2
          clear hs1 hs2
          by_cases hxy : x = y
          · subst hxy
            have hq : (x != x) = false := by simp
            go_wp2_with fail
            go_quiet (fail)
            go_wp2_with fail
            go_roundw
            case rel =>
              refine ⟨k + 1, _, by omega, by go_num, ?_, rfl⟩
              have h1 : k < l.length := by rw [HLA.out]; exact hlt
              have h2 : k < m.length := by rw [HLB.out]; exact hlt
              rw [HS1.out h1, HS2.out h2, HT.out]
              have e1 : l[k] = x := by have := HX.out; rw [List.getD_eq_getElem?_getD, List.getElem?_eq_getElem h1] at this; exact this
              have e2 : m[k] = x := by have := HY.out; rw [List.getD_eq_getElem?_getD, List.getElem?_eq_getElem h2] at this; exact this
              rw [e1, e2]
            case measure => simp [intOf]; omega
          · have hq : (x != y) = true := by simpa using hxy
            have hne : decide (l = m) = false := by
              simp; intro e
              have h1 := HX.out
              rw [e, HY.out] at h1
              exact hxy h1.symm
            have HNE := Lib.hid hne
            clear hxy hne
            go_wp2_with fail
            go_quiet (fail)
            go_wp2_with fail
            go_ret
            rw [HNE.out]
            exact ⟨rfl, (two_alloc _ _ _).trans (⟨rfl, rfl, rfl, Nat.le_refl _, fun _ _ => rfl⟩)⟩
        · obtain rfl : k = na := by omega
          have heq : decide (l = m) = true := by
            have h := HT.out
            rw [List.take_of_length_le (by rw [HLA.out]; omega), List.take_of_length_le (by rw [HLB.out]; omega)] at h
            simpa using h
          have HEQ := Lib.hid heq
          clear heq
          go_wp2_with fail
          go_ret
          rw [HEQ.out]
          exact ⟨rfl, (two_alloc _ _ _).trans (⟨rfl, rfl, rfl, Nat.le_refl _, fun _ _ => rfl⟩)⟩
    · have hd : decide (s = s ∧ l = m) = false := by
        simp; intro e
        rw [e] at HLA
        exact hl (HLA.out.symm.trans HLB.out)
      rw [hd]
      have hq : ((na : Int) != nb) = true := by simp; omega
      clear ha hb hia hib ha3 hb3 ena enb hd hl
      go_enter Try.func37, Try.ntmps37
      go_wp2_with fail
      go_ret
      exact ⟨rfl, two_alloc _ _ _⟩
  · have hd : decide (s = t ∧ l = m) = false := by simp [hst]
    rw [hd]
    have hq : (s != t) = true := by simpa using hst
    clear ha hb hia hib ha3 hb3 ena enb hd hst
    go_enter Try.func37, Try.ntmps37
    go_wp2_with fail
    go_ret
    exact ⟨rfl, two_alloc _ _ _⟩


set_option maxHeartbeats 2000000 in
theorem rfsame_raw (sp : Int) (ap : Option Addr) (np cp : Nat) (lp : List Int) (sq : Int) (aq : Option Addr) (nq cq : Nat) (lq : List Int) (tp : Int) (bp : Option Addr) (mp dp : Nat) (kp : List Int) (tq : Int) (bq : Option Addr) (mq dq : Nat) (kq : List Int) (w : World) (hp : Ints w (.slice ap np cp) lp) (hq : Ints w (.slice aq nq cq) lq) (jp : Ints w (.slice bp mp dp) kp) (jq : Ints w (.slice bq mq dq) kq) :
    Calls Try.prog 16 #[.agg #[.int .i64 sp, .slice ap np cp, .int .i64 sq, .slice aq nq cq], .agg #[.int .i64 tp, .slice bp mp dp, .int .i64 tq, .slice bq mq dq]] w fun e w' => e = .returned (.bool (decide (sp = tp ∧ lp = kp) && decide (sq = tq ∧ lq = kq))) ∧ RowKit.Below w.heap.size w w' := by
  have HP : Hid (Arg w (.agg #[.int .i64 sp, .slice ap np cp]) sp lp) := ⟨_, rfl, hp⟩
  have HQ : Hid (Arg w (.agg #[.int .i64 sq, .slice aq nq cq]) sq lq) := ⟨_, rfl, hq⟩
  have JP : Hid (Arg w (.agg #[.int .i64 tp, .slice bp mp dp]) tp kp) := ⟨_, rfl, jp⟩
  have JQ : Hid (Arg w (.agg #[.int .i64 tq, .slice bq mq dq]) tq kq) := ⟨_, rfl, jq⟩
  obtain ⟨d1, h1⟩ : ∃ d, decide (sp = tp ∧ lp = kp) = d := ⟨_, rfl⟩
  obtain ⟨d2, h2⟩ : ∃ d, decide (sq = tq ∧ lq = kq) = d := ⟨_, rfl⟩
  rw [h1, h2]
  have H1 := Lib.hid h1
  have H2 := Lib.hid h2
  have S0 := Lib.hid (((Sf.start w).put [.int .i64 sp, .slice ap np cp, .int .i64 sq, .slice aq nq cq] 34).put' (n := w.heap.size + 1) (by simp) [.int .i64 tp, .slice bp mp dp, .int .i64 tq, .slice bq mq dq] 34)
  clear hp hq jp jq h1 h2
  go_enter Try.func16, Try.ntmps16
  go_wp2_with fail
  refine (rsb_any _ _ sp tp lp kp _ (HP.out.later S0.out.below) (JP.out.later S0.out.below)).mono ?_
  rintro e w1 ⟨rfl, hb⟩
  rw [H1.out]
  have S1 := Lib.hid (S0.out.later hb)
  clear hb S0
  cases d1
  · go_wp2_with fail
    go_ret
    exact ⟨rfl, S1.out.below⟩
  · obtain ⟨q0, q1, q2, q3⟩ := (S1.out.box _ List.mem_cons_self : Fb (w.heap.size + 1, 34, [.int .i64 tp, .slice bp mp dp, .int .i64 tq, .slice bq mq dq]) _).cells4
    obtain ⟨t0, t1, t2, t3⟩ := (S1.out.box _ (List.mem_cons_of_mem _ List.mem_cons_self) : Fb (w.heap.size, 34, [.int .i64 sp, .slice ap np cp, .int .i64 sq, .slice aq nq cq]) _).cells4
    go_wp2_with fail
    refine (rsb_any _ _ sq tq lq kq _ (HQ.out.later S1.out.below) (JQ.out.later S1.out.below)).mono ?_
    rintro e w2 ⟨rfl, hb⟩
    rw [H2.out]
    have S2 := Lib.hid (S1.out.later hb)
    clear hb S1 q0 q1 q2 q3 t0 t1 t2 t3
    go_wp2_with fail
    go_ret
    exact ⟨by simp, S2.out.below⟩

theorem same_dec (a b : Rat) : (decide (a.num.sign = b.num.sign ∧ digs a.num.natAbs = digs b.num.natAbs) && decide ((1 : Int) = 1 ∧ digs (a.den : Int).natAbs = digs (b.den : Int).natAbs)) = decide (a = b) := by
  have h1 := num_eq (a := a.num) (b := b.num)
  have h2 := num_eq (a := (a.den : Int)) (b := (b.den : Int))
  rw [den_sign, den_sign] at h2
  rw [decide_eq_decide.2 h1, decide_eq_decide.2 h2]
  by_cases e : a = b
  · subst e; simp
  · rw [decide_eq_false e]
    cases h : (decide (a.num = b.num) && decide ((a.den : Int) = (b.den : Int)))
    · rfl
    · rw [Bool.and_eq_true, decide_eq_true_eq, decide_eq_true_eq] at h
      exact absurd (rat_eq.1 h) e
section
variable {w : World} {sa : Int} {aa ba : Option Addr} {na ca ma da : Nat} {sb : Int} {ab bb : Option Addr} {nb cb mb db : Nat} {a b : Rat}
theorem rfsame_k (ha : Fr w sa (.slice aa na ca) (.slice ba ma da) a) (hb : Fr w sb (.slice ab nb cb) (.slice bb mb db) b) {k : Bool} (h : decide (a = b) = k) : Calls Try.prog 16 #[.agg #[.int .i64 sa, .slice aa na ca, .int .i64 1, .slice ba ma da], .agg #[.int .i64 sb, .slice ab nb cb, .int .i64 1, .slice bb mb db]] w fun e w' => e = .returned (.bool k) ∧ RowKit.Below w.heap.size w w' := by
  obtain ⟨⟨rfl, h1⟩, _, h2⟩ := ha
  obtain ⟨⟨rfl, h3⟩, _, h4⟩ := hb
  have := rfsame_raw a.num.sign _ _ _ _ 1 _ _ _ _ b.num.sign _ _ _ _ 1 _ _ _ _ w h1 h2 h3 h4
  rwa [same_dec, h] at this
theorem rfsame_t (ha : Fr w sa (.slice aa na ca) (.slice ba ma da) a) (hb : Fr w sb (.slice ab nb cb) (.slice bb mb db) b) (h : a = b) : Calls Try.prog 16 #[.agg #[.int .i64 sa, .slice aa na ca, .int .i64 1, .slice ba ma da], .agg #[.int .i64 sb, .slice ab nb cb, .int .i64 1, .slice bb mb db]] w fun e w' => e = .returned (.bool true) ∧ RowKit.Below w.heap.size w w' := rfsame_k ha hb (decide_eq_true h)
end

set_option maxHeartbeats 1000000 in
theorem fint_k (z : Int) (h : -9223372036854775808 ≤ z ∧ z ≤ 9223372036854775807) (w : World) : Calls Try.prog 33 #[.int .i64 z] w (FV (z : Rat) w) := by
  have H := Lib.hid h
  have H1 : Hid (-9223372036854775808 ≤ (1 : Int) ∧ (1 : Int) ≤ 9223372036854775807) := ⟨by omega, by omega⟩
  have S0 := Lib.hid ((Sf.start w).put [.int .i64 0, .slice none 0 0, .int .i64 0, .slice none 0 0] 34)
  clear h
  go_enter Try.func33, Try.ntmps33
  go_wp2_with fail
  refine (of_k z H.out _).mono ?_
  rintro e w1 ⟨g0, p0, k0, j0, rfl, hn, hb, hf⟩
  have T1 := Lib.hid (S0.out.ret hb hn.2 hf)
  have E0 := Lib.hid hn.1
  have F0 := Lib.hid (hf.mono S0.out.below.size)
  clear hn hb hf S0
  go_wp2_with fail
  refine (of_k 1 H1.out _).mono ?_
  rintro e w2 ⟨g1, p1, k1, j1, rfl, hn, hb, hf⟩
  have T2 := Lib.hid (T1.out.ret hb hn.2 hf)
  have E1 := Lib.hid hn.1
  have F1 := Lib.hid (hf.mono T1.out.below.size)
  clear hn hb hf T1
  have yr : Fb (w.heap.size, 34, [.int .i64 0, .slice none 0 0, .int .i64 0, .slice none 0 0]) _ := T2.out.box _ List.mem_cons_self
  obtain ⟨r0, r1, r2, r3⟩ := yr.cells4
  obtain ⟨f0, f1, f2, f3⟩ := yr.free4
  clear yr
  go_wp2_with fail
  obtain rfl : g1 = 1 := E1.out
  have T3 := Lib.hid (T2.out.set4 (pre := []) (.int .i64 g0) (.slice p0 k0 j0) (.int .i64 1) (.slice p1 k1 j1))
  exact bodyPost_ret (v := .agg #[.int .i64 g0, .slice p0 k0 j0, .int .i64 1, .slice p1 k1 j1]) (by simp [results, Try.results33, go_sem, r0, r1, r2, r3]) rfl
    ⟨_, _, _, _, _, _, _, rfl, ⟨T3.out.num (v := .slice p0 k0 j0) (z := (z : Rat).num) (List.mem_cons_of_mem _ List.mem_cons_self) E0.out, T3.out.num (v := .slice p1 k1 j1) (z := ((z : Rat).den : Int)) List.mem_cons_self E1.out⟩, T3.out.below, F0.out, F1.out⟩

set_option maxHeartbeats 1000000 in
theorem fof_k (p q : Int) (hp : -9223372036854775808 ≤ p ∧ p ≤ 9223372036854775807) (hq : -9223372036854775808 ≤ q ∧ q ≤ 9223372036854775807) (h0 : q ≠ 0) (w : World) : Calls Try.prog 31 #[.int .i64 p, .int .i64 q] w (FVE (Rat.divInt p q) 0 w) := by
  have HP := Lib.hid hp
  have HQ := Lib.hid hq
  have H0 := Lib.hid h0
  have LP : Hid (Len 100000 p) := Len.of (by omega)
  have LQ : Hid (Len 100000 q) := Len.of (by omega)
  have S0 := Lib.hid ((Sf.start w).put [.int .i64 0, .slice none 0 0, .int .i64 0, .slice none 0 0] 34)
  clear hp hq h0
  go_enter Try.func31, Try.ntmps31
  go_wp2_with fail
  refine (of_k p HP.out _).mono ?_
  rintro e w1 ⟨g0, p0, k0, j0, rfl, hn, hb, hf⟩
  have T1 := Lib.hid (S0.out.ret hb hn.2 hf)
  have E0 := Lib.hid hn.1
  clear hn hb hf S0
  go_wp2_with fail
  refine (of_k q HQ.out _).mono ?_
  rintro e w1' ⟨g1, p1, k1, j1, rfl, hn, hb, hf⟩
  have T1' := Lib.hid (T1.out.ret hb hn.2 hf)
  have E1 := Lib.hid hn.1
  clear hn hb hf T1
  go_wp2_with fail
  refine (new_k (T1'.out.num (v := .slice p0 k0 j0) (z := p) (List.mem_cons_of_mem _ List.mem_cons_self) E0.out) (T1'.out.num (v := .slice p1 k1 j1) (z := q) List.mem_cons_self E1.out) LP.out LQ.out H0.out).mono ?_
  rintro e w2 ⟨s9, a9, n9, c9, b9, m9, d9, rfl, hr, hb, hf, hg⟩
  have T2 := Lib.hid (T1'.out.ret2 hb hr.1.2 hf hr.2.2 hg)
  have E9 := Lib.hid hr.1.1
  have F9 := Lib.hid (hf.mono T1'.out.below.size)
  have G9 := Lib.hid (hg.mono T1'.out.below.size)
  clear hr hb hf hg T1'
  have yr : Fb (w.heap.size, 34, [.int .i64 0, .slice none 0 0, .int .i64 0, .slice none 0 0]) _ := T2.out.box _ List.mem_cons_self
  obtain ⟨r0, r1, r2, r3⟩ := yr.cells4
  obtain ⟨f0, f1, f2, f3⟩ := yr.free4
  clear yr
  go_wp2_with fail
  have T3 := Lib.hid (T2.out.set4 (pre := []) (.int .i64 s9) (.slice a9 n9 c9) (.int .i64 1) (.slice b9 m9 d9))
  exact bodyPost_ret (v := .tuple #[.agg #[.int .i64 s9, .slice a9 n9 c9, .int .i64 1, .slice b9 m9 d9], .int .i64 0]) (by simp [results, Try.results31, go_sem, r0, r1, r2, r3]) rfl
    ⟨_, _, _, _, _, _, _, rfl, ⟨T3.out.num (v := .slice a9 n9 c9) (z := (Rat.divInt p q).num) List.mem_cons_self E9.out, T3.out.num (v := .slice b9 m9 d9) (z := ((Rat.divInt p q).den : Int)) (List.mem_cons_of_mem _ List.mem_cons_self) (den_sign _).symm⟩, T3.out.below, F9.out, G9.out⟩

end Go.Proofs.Ytmhjejnkphdjpaa.Bi
