/- Neg, Sign, Floor, Text, Min, Max, Of, Int of kitbagref05. WRITTEN by frac/gen_ft.py. -/
import Derived.Test.YtnddickcnfodfaaGreatDoorLFt3
set_option maxRecDepth 100000
namespace Go.Proofs.YtnddickcnfodfaaGreatDoor.Bi
open Go.RowKit

theorem rfsign_k {w : World} {sa : Int} {aa ba : Option Addr} {na ca ma da : Nat} {a : Rat} (ha : Fr w sa (.slice aa na ca) (.slice ba ma da) a) (La : FSz 1000 a) :
    Calls Tryz.prog 33 #[.agg #[.int .i64 sa, .slice aa na ca, .int .i64 1, .slice ba ma da]] w fun e w' => e = .returned (.int .i64 a.num.sign) ∧ RowKit.Below w.heap.size w w' := by
  have HA := Lib.hid ha
  have HLA := Lib.hid La
  have HaP := Lib.hid ha.1
  have HaQ := Lib.hid ha.2
  have LaP : Hid (Len 100000 a.num) := Sz.len La.1
  have LaQ : Hid (Len 100000 (a.den : Int)) := Sz.len La.2
  have S0 := Lib.hid (((Sf.start w).put [.int .i64 sa, .slice aa na ca, .int .i64 1, .slice ba ma da] 26))
  clear ha La
  go_enter Tryz.func33, Tryz.ntmps33
  go_wp2_with fail
  refine (rfright_k (HA.out.later S0.out.below) HLA.out).mono ?_
  rintro e w1 ⟨rfl, hb⟩
  have S1 := Lib.hid (S0.out.later hb)
  clear hb S0
  obtain ⟨q0, q1, q2, q3⟩ := (S1.out.box _ List.mem_cons_self : Fb (w.heap.size, 26, [.int .i64 sa, .slice aa na ca, .int .i64 1, .slice ba ma da]) _).cells4
  go_wp2_with fail
  go_ret
  have hs := HaP.out.1
  subst hs
  exact ⟨rfl, S1.out.below⟩

set_option maxHeartbeats 2000000 in
theorem rftext_k {w : World} {sa : Int} {aa ba : Option Addr} {na ca ma da : Nat} {a : Rat} (ha : Fr w sa (.slice aa na ca) (.slice ba ma da) a) (La : FSz 1000 a) :
    Calls Tryz.prog 37 #[.agg #[.int .i64 sa, .slice aa na ca, .int .i64 1, .slice ba ma da]] w fun e w' => e = .returned (.string ⟨(fTextL a).toArray⟩) ∧ RowKit.Below w.heap.size w w' := by
  have HA := Lib.hid ha
  have HLA := Lib.hid La
  have HaP := Lib.hid ha.1
  have HaQ := Lib.hid ha.2
  have LaP : Hid (Len 100000 a.num) := Sz.len La.1
  have LaQ : Hid (Len 100000 (a.den : Int)) := Sz.len La.2
  obtain ⟨x, hx⟩ : ∃ x, Go.Lib.itoa a.num = x := ⟨_, rfl⟩
  obtain ⟨y, hy⟩ : ∃ y, Go.Lib.itoa (a.den : Int) = y := ⟨_, rfl⟩
  have hlx := itoa_len La.1 (by omega)
  have hly := itoa_len La.2 (by omega)
  rw [hx] at hlx
  rw [hy] at hly
  have ha1 : ∀ W : World, (Op.stringOp .add ⟨x.toArray⟩ ⟨#[47]⟩).run Tryz.prog W = .ok (.string (⟨x.toArray⟩ ++ ⟨#[47]⟩)) W := fun W => run_string_add_sum W _ _ (by rw [size_mk]; show x.length + 1 ≤ _; omega)
  have ha2 : ∀ W : World, (Op.stringOp .add (⟨x.toArray⟩ ++ ⟨#[47]⟩) ⟨y.toArray⟩).run Tryz.prog W = .ok (.string (⟨x.toArray⟩ ++ ⟨#[47]⟩ ++ ⟨y.toArray⟩)) W := fun W => run_string_add_sum W _ _ (by rw [ByteArray.size_append, size_mk, size_mk]; show x.length + 1 + y.length ≤ _; omega)
  have HX := Lib.hid hx
  have HY := Lib.hid hy
  have S0 := Lib.hid ((Sf.start w).put [.int .i64 sa, .slice aa na ca, .int .i64 1, .slice ba ma da] 26)
  clear ha La hx hy hlx hly
  go_enter Tryz.func37, Tryz.ntmps37
  go_wp2_with fail
  refine (rfright_k (HA.out.later S0.out.below) HLA.out).mono ?_
  rintro e w1 ⟨rfl, hb⟩
  have S1 := Lib.hid (S0.out.later hb)
  clear hb S0
  go_wp2_with fail
  have T0 := Lib.hid S1.out.drew
  have K0 : ∀ W F, Sf w [(w.heap.size, 26, [.int .i64 sa, .slice aa na ca, .int .i64 1, .slice ba ma da])] F W → W.cell? ⟨w.heap.size, 0, none⟩ = some (.int .i64 sa) ∧ W.cell? ⟨w.heap.size, 1, none⟩ = some (.slice aa na ca) ∧ W.cell? ⟨w.heap.size, 2, none⟩ = some (.int .i64 1) ∧ W.cell? ⟨w.heap.size, 3, none⟩ = some (.slice ba ma da) := fun W F h => (h.box _ List.mem_cons_self : Fb _ _).cells4
  have KK := Lib.hid K0
  clear K0 S1
  have e0 := KK.out _ _ T0.out
  have X0 := Lib.hid (HaP.out.later T0.out.below)
  go_region_held3 (fun W => W.cell? ⟨w.heap.size, 0, none⟩ = some (.int .i64 sa) ∧ W.cell? ⟨w.heap.size, 1, none⟩ = some (.slice aa na ca) ∧ W.cell? ⟨w.heap.size, 2, none⟩ = some (.int .i64 1) ∧ W.cell? ⟨w.heap.size, 3, none⟩ = some (.slice ba ma da))
    (first | (with_reducible exact e0) | (with_reducible exact e1) | (with_reducible exact e2))
    (first
      | (go_at_call 67; (with_reducible refine (rtext_k X1.out LaQ.out).mono ?_); rintro e v1 ⟨rfl, hb⟩; rw [HY.out]; have T2 := Lib.hid (T1.out.later hb); have e2 := KK.out _ _ T2.out; clear hb)
      | (go_at_call 67; (with_reducible refine (rtext_k X0.out LaP.out).mono ?_); rintro e v0 ⟨rfl, hb⟩; rw [HX.out]; have T1 := Lib.hid (T0.out.later hb); have e1 := KK.out _ _ T1.out; have X1 := Lib.hid (HaQ.out.later T1.out.below); clear hb))
  all_goals
    go_wp2_with fail
    go_ret
    refine ⟨?_, T2.out.below⟩
    unfold fTextL
    rw [HX.out, HY.out, ← text_cat]
    rfl

set_option maxHeartbeats 2000000 in
theorem rffloor_k {w : World} {sa : Int} {aa ba : Option Addr} {na ca ma da : Nat} {a : Rat} (ha : Fr w sa (.slice aa na ca) (.slice ba ma da) a) (La : FSz 1000 a) :
    Calls Tryz.prog 40 #[.agg #[.int .i64 sa, .slice aa na ca, .int .i64 1, .slice ba ma da]] w (BV a.floor w) := by
  have HA := Lib.hid ha
  have HLA := Lib.hid La
  have HaP := Lib.hid ha.1
  have HaQ := Lib.hid ha.2
  have LaP : Hid (Len 100000 a.num) := Sz.len La.1
  have LaQ : Hid (Len 100000 (a.den : Int)) := Sz.len La.2
  have S0 := Lib.hid ((((Sf.start w)).put [.int .i64 sa, .slice aa na ca, .int .i64 1, .slice ba ma da] 26).put' (n := w.heap.size + 1) (by simp) [.int .i64 0, .slice none 0 0] 24)
  clear ha La
  go_enter Tryz.func40, Tryz.ntmps40
  go_wp2_with fail
  refine (rfright_k (HA.out.later S0.out.below) HLA.out).mono ?_
  rintro e w1 ⟨rfl, hb⟩
  have S2 := Lib.hid (S0.out.later hb)
  clear hb S0
  obtain ⟨t1_0, t1_1, t1_2, t1_3⟩ := (S2.out.box _ (List.mem_cons_of_mem _ List.mem_cons_self) : Fb (w.heap.size, 26, [.int .i64 sa, .slice aa na ca, .int .i64 1, .slice ba ma da]) _).cells4
  go_wp2_with fail
  clear t1_0 t1_1 t1_2 t1_3
  refine (rdiv_r (HaP.out.later S2.out.below) (HaQ.out.later S2.out.below) LaP.out LaQ.out (den_ne a) (rat_floor a)).mono ?_
  rintro e w3 ⟨s3, a3, n3, c3, x3, y3, z3, o3, rfl, hn, hm, hb, hf, hg⟩
  have E3 := Lib.hid hn.1
  have F3 : Hid (Fresh w.heap.size (.slice a3 n3 c3)) := hf.mono S2.out.below.size
  have S4 := Lib.hid (((S2.out.ret hb hn.2 hf).put [.int .i64 s3, .slice a3 n3 c3] 24).put' (n := w3.heap.size + 1) (by simp) [.int .i64 x3, .slice y3 z3 o3] 24)
  clear hn hm hb hf hg S2
  obtain ⟨t2_0, t2_1⟩ := (S4.out.box _ (List.mem_cons_of_mem _ List.mem_cons_self) : Fb (w3.heap.size, 24, [.int .i64 s3, .slice a3 n3 c3]) _).cells2
  obtain ⟨r0, r1⟩ := (S4.out.box _ (List.mem_cons_of_mem _ (List.mem_cons_of_mem _ List.mem_cons_self)) : Fb (w.heap.size + 1, 24, [.int .i64 0, .slice none 0 0]) _).cells2
  obtain ⟨f0, f1⟩ := (S4.out.box _ (List.mem_cons_of_mem _ (List.mem_cons_of_mem _ List.mem_cons_self)) : Fb (w.heap.size + 1, 24, [.int .i64 0, .slice none 0 0]) _).free2
  go_wp2_with fail
  clear t2_0 t2_1
  have ZZ := Lib.hid (S4.out.set2 (pre := [_, _]) (.int .i64 s3) (.slice a3 n3 c3))
  exact bodyPost_ret (v := .agg #[.int .i64 s3, .slice a3 n3 c3]) (by simp [results, Tryz.results40, go_sem, r0, r1]) rfl ⟨_, _, _, _, rfl, ZZ.out.num (v := .slice a3 n3 c3) (z := a.floor) List.mem_cons_self E3.out, ZZ.out.below, F3.out⟩

set_option maxHeartbeats 2000000 in
theorem rfneg_k {w : World} {sa : Int} {aa ba : Option Addr} {na ca ma da : Nat} {a : Rat} (ha : Fr w sa (.slice aa na ca) (.slice ba ma da) a) (La : FSz 1000 a) :
    Calls Tryz.prog 31 #[.agg #[.int .i64 sa, .slice aa na ca, .int .i64 1, .slice ba ma da]] w (fun e w' => ∃ s p k j, e = .returned (.agg #[.int .i64 s, .slice p k j, .int .i64 1, .slice ba ma da]) ∧ Num w' s (.slice p k j) (-a.num) ∧ RowKit.Below w.heap.size w w' ∧ Fresh w.heap.size (.slice p k j)) := by
  have HA := Lib.hid ha
  have HLA := Lib.hid La
  have HaP := Lib.hid ha.1
  have HaQ := Lib.hid ha.2
  have LaP : Hid (Len 100000 a.num) := Sz.len La.1
  have LaQ : Hid (Len 100000 (a.den : Int)) := Sz.len La.2
  have S0 := Lib.hid ((((Sf.start w)).put [.int .i64 sa, .slice aa na ca, .int .i64 1, .slice ba ma da] 26).put' (n := w.heap.size + 1) (by simp) [.int .i64 0, .slice none 0 0, .int .i64 0, .slice none 0 0] 26)
  clear ha La
  go_enter Tryz.func31, Tryz.ntmps31
  go_wp2_with fail
  refine (rfright_k (HA.out.later S0.out.below) HLA.out).mono ?_
  rintro e w1 ⟨rfl, hb⟩
  have S2 := Lib.hid (S0.out.later hb)
  clear hb S0
  go_wp2_with fail
  have T0 := Lib.hid S2.out.drew
  have K0 : ∀ W F (r0 r1 r2 r3 : Value), Sf w [(w.heap.size + 1, 26, [r0, r1, r2, r3]), (w.heap.size, 26, [.int .i64 sa, .slice aa na ca, .int .i64 1, .slice ba ma da])] F W → W.cell? ⟨w.heap.size, 0, none⟩ = some (.int .i64 sa) ∧ W.cell? ⟨w.heap.size, 1, none⟩ = some (.slice aa na ca) ∧ W.cell? ⟨w.heap.size, 2, none⟩ = some (.int .i64 1) ∧ W.cell? ⟨w.heap.size, 3, none⟩ = some (.slice ba ma da) := fun W F r0 r1 r2 r3 h => (h.box _ (List.mem_cons_of_mem _ List.mem_cons_self) : Fb _ _).cells4
  have KK := Lib.hid K0
  clear K0
  have e0 := KK.out _ _ _ _ _ _ T0.out
  have X0 := Lib.hid (HaP.out.later T0.out.below)
  clear S2
  go_region_held3 (fun W => W.cell? ⟨w.heap.size, 0, none⟩ = some (.int .i64 sa) ∧ W.cell? ⟨w.heap.size, 1, none⟩ = some (.slice aa na ca) ∧ W.cell? ⟨w.heap.size, 2, none⟩ = some (.int .i64 1) ∧ W.cell? ⟨w.heap.size, 3, none⟩ = some (.slice ba ma da))
    (first | (with_reducible exact e0) | (with_reducible exact e1) | (with_reducible exact e2))
    (first
      | (go_at_call 58; (with_reducible refine (rneg_k X0.out LaP.out).mono ?_); rintro e v0 ⟨g0, p0, k0, j0, rfl, hn, hb, hf⟩; have T1 := Lib.hid (T0.out.ret hb hn.2 hf); have E0 := Lib.hid hn.1; have F0 := Lib.hid (hf.mono T0.out.below.size); have e1 := KK.out _ _ _ _ _ _ T1.out; have yr : Fb (w.heap.size + 1, 26, [.int .i64 0, .slice none 0 0, .int .i64 0, .slice none 0 0]) _ := T1.out.box _ List.mem_cons_self; obtain ⟨r0, r1, r2, r3⟩ := yr.cells4; obtain ⟨f0, f1, f2, f3⟩ := yr.free4; have T2 := Lib.hid (T1.out.set4 (pre := []) (.int .i64 g0) (.slice p0 k0 j0) (.int .i64 1) (.slice ba ma da)); have e2 := KK.out _ _ _ _ _ _ T2.out; clear hn hb hf yr))
  go_wp2_with fail
  exact bodyPost_ret (v := .agg #[.int .i64 g0, .slice p0 k0 j0, .int .i64 1, .slice ba ma da]) (by simp [results, Tryz.results31, go_sem, r0, r1, r2, r3]) rfl
    ⟨_, _, _, _, rfl, T2.out.num (v := .slice p0 k0 j0) (z := -a.num) List.mem_cons_self E0.out, T2.out.below, F0.out⟩
  

theorem rfcmp_r {w : World} {sa : Int} {aa ba : Option Addr} {na ca ma da : Nat} {sb : Int} {ab bb : Option Addr} {nb cb mb db : Nat} {a b : Rat} {k : Int} (ha : Fr w sa (.slice aa na ca) (.slice ba ma da) a) (hb : Fr w sb (.slice ab nb cb) (.slice bb mb db) b) (La : FSz 1000 a) (Lb : FSz 1000 b) (h : cmpR a b = k) :
    Calls Tryz.prog 24 #[.agg #[.int .i64 sa, .slice aa na ca, .int .i64 1, .slice ba ma da], .agg #[.int .i64 sb, .slice ab nb cb, .int .i64 1, .slice bb mb db]] w (fun e w' => e = .returned (.int .i64 k) ∧ RowKit.Below w.heap.size w w') := by subst h; exact rfcmp_k ha hb La Lb

set_option maxHeartbeats 2000000 in
theorem rfmin_a {w : World} {sa : Int} {aa ba : Option Addr} {na ca ma da : Nat} {sb : Int} {ab bb : Option Addr} {nb cb mb db : Nat} {a b : Rat} (ha : Fr w sa (.slice aa na ca) (.slice ba ma da) a) (hb : Fr w sb (.slice ab nb cb) (.slice bb mb db) b) (La : FSz 1000 a) (Lb : FSz 1000 b) (h : cmpR a b ≤ 0) :
    Calls Tryz.prog 27 #[.agg #[.int .i64 sa, .slice aa na ca, .int .i64 1, .slice ba ma da], .agg #[.int .i64 sb, .slice ab nb cb, .int .i64 1, .slice bb mb db]] w (fun e w' => e = .returned (.tuple #[.agg #[.int .i64 sa, .slice aa na ca, .int .i64 1, .slice ba ma da], .int .i64 0]) ∧ RowKit.Below w.heap.size w w') := by
  obtain ⟨K, hK⟩ : ∃ K, cmpR a b = K := ⟨_, rfl⟩
  rw [hK] at h
  have gk : decide (K ≤ 0) = true := by simp; omega
  have HK := Lib.hid hK
  have HA := Lib.hid ha
  have HB := Lib.hid hb
  have HLA := Lib.hid La
  have HLB := Lib.hid Lb
  have HaP := Lib.hid ha.1
  have HaQ := Lib.hid ha.2
  have HbP := Lib.hid hb.1
  have HbQ := Lib.hid hb.2
  have S0 := Lib.hid (((((Sf.start w)).put [.int .i64 sa, .slice aa na ca, .int .i64 1, .slice ba ma da] 26).put' (n := w.heap.size + 1) (by simp) [.int .i64 sb, .slice ab nb cb, .int .i64 1, .slice bb mb db] 26).put' (n := w.heap.size + 1 + 1) (by simp) [.int .i64 0, .slice none 0 0, .int .i64 0, .slice none 0 0] 26)
  clear ha hb La Lb h hK
  go_enter Tryz.func27, Tryz.ntmps27
  go_wp2_with fail
  refine (rfright_k (HA.out.later S0.out.below) HLA.out).mono ?_
  rintro e w1 ⟨rfl, hb⟩
  have S2 := Lib.hid (S0.out.later hb)
  clear hb S0
  obtain ⟨t1_0, t1_1, t1_2, t1_3⟩ := (S2.out.box _ (List.mem_cons_of_mem _ List.mem_cons_self) : Fb (w.heap.size + 1, 26, [.int .i64 sb, .slice ab nb cb, .int .i64 1, .slice bb mb db]) _).cells4
  go_wp2_with fail
  clear t1_0 t1_1 t1_2 t1_3
  refine (rfright_k (HB.out.later S2.out.below) HLB.out).mono ?_
  rintro e w3 ⟨rfl, hb⟩
  have S4 := Lib.hid (S2.out.later hb)
  clear hb S2
  obtain ⟨t2_0, t2_1, t2_2, t2_3⟩ := (S4.out.box _ (List.mem_cons_of_mem _ (List.mem_cons_of_mem _ List.mem_cons_self)) : Fb (w.heap.size, 26, [.int .i64 sa, .slice aa na ca, .int .i64 1, .slice ba ma da]) _).cells4
  obtain ⟨t3_0, t3_1, t3_2, t3_3⟩ := (S4.out.box _ (List.mem_cons_of_mem _ List.mem_cons_self) : Fb (w.heap.size + 1, 26, [.int .i64 sb, .slice ab nb cb, .int .i64 1, .slice bb mb db]) _).cells4
  go_wp2_with fail
  clear t2_0 t2_1 t2_2 t2_3 t3_0 t3_1 t3_2 t3_3
  refine (rfcmp_r (HA.out.later S4.out.below) (HB.out.later S4.out.below) HLA.out HLB.out HK.out).mono ?_
  rintro e w5 ⟨rfl, hb⟩
  have S6 := Lib.hid (S4.out.later hb)
  clear hb S4
  obtain ⟨t4_0, t4_1, t4_2, t4_3⟩ := (S6.out.box _ (List.mem_cons_of_mem _ (List.mem_cons_of_mem _ List.mem_cons_self)) : Fb (w.heap.size, 26, [.int .i64 sa, .slice aa na ca, .int .i64 1, .slice ba ma da]) _).cells4
  obtain ⟨r0, r1, r2, r3⟩ := (S6.out.box _ List.mem_cons_self : Fb (w.heap.size + 1 + 1, 26, [.int .i64 0, .slice none 0 0, .int .i64 0, .slice none 0 0]) _).cells4
  obtain ⟨f0, f1, f2, f3⟩ := (S6.out.box _ List.mem_cons_self : Fb (w.heap.size + 1 + 1, 26, [.int .i64 0, .slice none 0 0, .int .i64 0, .slice none 0 0]) _).free4
  go_wp2_with fail
  clear t4_0 t4_1 t4_2 t4_3
  have ZZ := Lib.hid (S6.out.set4 (pre := []) (.int .i64 sa) (.slice aa na ca) (.int .i64 1) (.slice ba ma da))
  exact bodyPost_ret (v := .tuple #[.agg #[.int .i64 sa, .slice aa na ca, .int .i64 1, .slice ba ma da], .int .i64 0]) (by simp [results, Tryz.results27, go_sem, r0, r1, r2, r3]) rfl ⟨rfl, ZZ.out.below⟩

set_option maxHeartbeats 2000000 in
theorem rfmin_b {w : World} {sa : Int} {aa ba : Option Addr} {na ca ma da : Nat} {sb : Int} {ab bb : Option Addr} {nb cb mb db : Nat} {a b : Rat} (ha : Fr w sa (.slice aa na ca) (.slice ba ma da) a) (hb : Fr w sb (.slice ab nb cb) (.slice bb mb db) b) (La : FSz 1000 a) (Lb : FSz 1000 b) (h : 0 < cmpR a b) :
    Calls Tryz.prog 27 #[.agg #[.int .i64 sa, .slice aa na ca, .int .i64 1, .slice ba ma da], .agg #[.int .i64 sb, .slice ab nb cb, .int .i64 1, .slice bb mb db]] w (fun e w' => e = .returned (.tuple #[.agg #[.int .i64 sb, .slice ab nb cb, .int .i64 1, .slice bb mb db], .int .i64 0]) ∧ RowKit.Below w.heap.size w w') := by
  obtain ⟨K, hK⟩ : ∃ K, cmpR a b = K := ⟨_, rfl⟩
  rw [hK] at h
  have gk : decide (K ≤ 0) = false := by simp; omega
  have HK := Lib.hid hK
  have HA := Lib.hid ha
  have HB := Lib.hid hb
  have HLA := Lib.hid La
  have HLB := Lib.hid Lb
  have HaP := Lib.hid ha.1
  have HaQ := Lib.hid ha.2
  have HbP := Lib.hid hb.1
  have HbQ := Lib.hid hb.2
  have S0 := Lib.hid (((((Sf.start w)).put [.int .i64 sa, .slice aa na ca, .int .i64 1, .slice ba ma da] 26).put' (n := w.heap.size + 1) (by simp) [.int .i64 sb, .slice ab nb cb, .int .i64 1, .slice bb mb db] 26).put' (n := w.heap.size + 1 + 1) (by simp) [.int .i64 0, .slice none 0 0, .int .i64 0, .slice none 0 0] 26)
  clear ha hb La Lb h hK
  go_enter Tryz.func27, Tryz.ntmps27
  go_wp2_with fail
  refine (rfright_k (HA.out.later S0.out.below) HLA.out).mono ?_
  rintro e w1 ⟨rfl, hb⟩
  have S2 := Lib.hid (S0.out.later hb)
  clear hb S0
  obtain ⟨t1_0, t1_1, t1_2, t1_3⟩ := (S2.out.box _ (List.mem_cons_of_mem _ List.mem_cons_self) : Fb (w.heap.size + 1, 26, [.int .i64 sb, .slice ab nb cb, .int .i64 1, .slice bb mb db]) _).cells4
  go_wp2_with fail
  clear t1_0 t1_1 t1_2 t1_3
  refine (rfright_k (HB.out.later S2.out.below) HLB.out).mono ?_
  rintro e w3 ⟨rfl, hb⟩
  have S4 := Lib.hid (S2.out.later hb)
  clear hb S2
  obtain ⟨t2_0, t2_1, t2_2, t2_3⟩ := (S4.out.box _ (List.mem_cons_of_mem _ (List.mem_cons_of_mem _ List.mem_cons_self)) : Fb (w.heap.size, 26, [.int .i64 sa, .slice aa na ca, .int .i64 1, .slice ba ma da]) _).cells4
  obtain ⟨t3_0, t3_1, t3_2, t3_3⟩ := (S4.out.box _ (List.mem_cons_of_mem _ List.mem_cons_self) : Fb (w.heap.size + 1, 26, [.int .i64 sb, .slice ab nb cb, .int .i64 1, .slice bb mb db]) _).cells4
  go_wp2_with fail
  clear t2_0 t2_1 t2_2 t2_3 t3_0 t3_1 t3_2 t3_3
  refine (rfcmp_r (HA.out.later S4.out.below) (HB.out.later S4.out.below) HLA.out HLB.out HK.out).mono ?_
  rintro e w5 ⟨rfl, hb⟩
  have S6 := Lib.hid (S4.out.later hb)
  clear hb S4
  obtain ⟨t4_0, t4_1, t4_2, t4_3⟩ := (S6.out.box _ (List.mem_cons_of_mem _ List.mem_cons_self) : Fb (w.heap.size + 1, 26, [.int .i64 sb, .slice ab nb cb, .int .i64 1, .slice bb mb db]) _).cells4
  obtain ⟨r0, r1, r2, r3⟩ := (S6.out.box _ List.mem_cons_self : Fb (w.heap.size + 1 + 1, 26, [.int .i64 0, .slice none 0 0, .int .i64 0, .slice none 0 0]) _).cells4
  obtain ⟨f0, f1, f2, f3⟩ := (S6.out.box _ List.mem_cons_self : Fb (w.heap.size + 1 + 1, 26, [.int .i64 0, .slice none 0 0, .int .i64 0, .slice none 0 0]) _).free4
  go_wp2_with fail
  clear t4_0 t4_1 t4_2 t4_3
  have ZZ := Lib.hid (S6.out.set4 (pre := []) (.int .i64 sb) (.slice ab nb cb) (.int .i64 1) (.slice bb mb db))
  exact bodyPost_ret (v := .tuple #[.agg #[.int .i64 sb, .slice ab nb cb, .int .i64 1, .slice bb mb db], .int .i64 0]) (by simp [results, Tryz.results27, go_sem, r0, r1, r2, r3]) rfl ⟨rfl, ZZ.out.below⟩

set_option maxHeartbeats 2000000 in
theorem rfmax_a {w : World} {sa : Int} {aa ba : Option Addr} {na ca ma da : Nat} {sb : Int} {ab bb : Option Addr} {nb cb mb db : Nat} {a b : Rat} (ha : Fr w sa (.slice aa na ca) (.slice ba ma da) a) (hb : Fr w sb (.slice ab nb cb) (.slice bb mb db) b) (La : FSz 1000 a) (Lb : FSz 1000 b) (h : 0 ≤ cmpR a b) :
    Calls Tryz.prog 29 #[.agg #[.int .i64 sa, .slice aa na ca, .int .i64 1, .slice ba ma da], .agg #[.int .i64 sb, .slice ab nb cb, .int .i64 1, .slice bb mb db]] w (fun e w' => e = .returned (.tuple #[.agg #[.int .i64 sa, .slice aa na ca, .int .i64 1, .slice ba ma da], .int .i64 0]) ∧ RowKit.Below w.heap.size w w') := by
  obtain ⟨K, hK⟩ : ∃ K, cmpR a b = K := ⟨_, rfl⟩
  rw [hK] at h
  have gk : decide (0 ≤ K) = true := by simp; omega
  have HK := Lib.hid hK
  have HA := Lib.hid ha
  have HB := Lib.hid hb
  have HLA := Lib.hid La
  have HLB := Lib.hid Lb
  have HaP := Lib.hid ha.1
  have HaQ := Lib.hid ha.2
  have HbP := Lib.hid hb.1
  have HbQ := Lib.hid hb.2
  have S0 := Lib.hid (((((Sf.start w)).put [.int .i64 sa, .slice aa na ca, .int .i64 1, .slice ba ma da] 26).put' (n := w.heap.size + 1) (by simp) [.int .i64 sb, .slice ab nb cb, .int .i64 1, .slice bb mb db] 26).put' (n := w.heap.size + 1 + 1) (by simp) [.int .i64 0, .slice none 0 0, .int .i64 0, .slice none 0 0] 26)
  clear ha hb La Lb h hK
  go_enter Tryz.func29, Tryz.ntmps29
  go_wp2_with fail
  refine (rfright_k (HA.out.later S0.out.below) HLA.out).mono ?_
  rintro e w1 ⟨rfl, hb⟩
  have S2 := Lib.hid (S0.out.later hb)
  clear hb S0
  obtain ⟨t1_0, t1_1, t1_2, t1_3⟩ := (S2.out.box _ (List.mem_cons_of_mem _ List.mem_cons_self) : Fb (w.heap.size + 1, 26, [.int .i64 sb, .slice ab nb cb, .int .i64 1, .slice bb mb db]) _).cells4
  go_wp2_with fail
  clear t1_0 t1_1 t1_2 t1_3
  refine (rfright_k (HB.out.later S2.out.below) HLB.out).mono ?_
  rintro e w3 ⟨rfl, hb⟩
  have S4 := Lib.hid (S2.out.later hb)
  clear hb S2
  obtain ⟨t2_0, t2_1, t2_2, t2_3⟩ := (S4.out.box _ (List.mem_cons_of_mem _ (List.mem_cons_of_mem _ List.mem_cons_self)) : Fb (w.heap.size, 26, [.int .i64 sa, .slice aa na ca, .int .i64 1, .slice ba ma da]) _).cells4
  obtain ⟨t3_0, t3_1, t3_2, t3_3⟩ := (S4.out.box _ (List.mem_cons_of_mem _ List.mem_cons_self) : Fb (w.heap.size + 1, 26, [.int .i64 sb, .slice ab nb cb, .int .i64 1, .slice bb mb db]) _).cells4
  go_wp2_with fail
  clear t2_0 t2_1 t2_2 t2_3 t3_0 t3_1 t3_2 t3_3
  refine (rfcmp_r (HA.out.later S4.out.below) (HB.out.later S4.out.below) HLA.out HLB.out HK.out).mono ?_
  rintro e w5 ⟨rfl, hb⟩
  have S6 := Lib.hid (S4.out.later hb)
  clear hb S4
  obtain ⟨t4_0, t4_1, t4_2, t4_3⟩ := (S6.out.box _ (List.mem_cons_of_mem _ (List.mem_cons_of_mem _ List.mem_cons_self)) : Fb (w.heap.size, 26, [.int .i64 sa, .slice aa na ca, .int .i64 1, .slice ba ma da]) _).cells4
  obtain ⟨r0, r1, r2, r3⟩ := (S6.out.box _ List.mem_cons_self : Fb (w.heap.size + 1 + 1, 26, [.int .i64 0, .slice none 0 0, .int .i64 0, .slice none 0 0]) _).cells4
  obtain ⟨f0, f1, f2, f3⟩ := (S6.out.box _ List.mem_cons_self : Fb (w.heap.size + 1 + 1, 26, [.int .i64 0, .slice none 0 0, .int .i64 0, .slice none 0 0]) _).free4
  go_wp2_with fail
  clear t4_0 t4_1 t4_2 t4_3
  have ZZ := Lib.hid (S6.out.set4 (pre := []) (.int .i64 sa) (.slice aa na ca) (.int .i64 1) (.slice ba ma da))
  exact bodyPost_ret (v := .tuple #[.agg #[.int .i64 sa, .slice aa na ca, .int .i64 1, .slice ba ma da], .int .i64 0]) (by simp [results, Tryz.results29, go_sem, r0, r1, r2, r3]) rfl ⟨rfl, ZZ.out.below⟩

set_option maxHeartbeats 2000000 in
theorem rfmax_b {w : World} {sa : Int} {aa ba : Option Addr} {na ca ma da : Nat} {sb : Int} {ab bb : Option Addr} {nb cb mb db : Nat} {a b : Rat} (ha : Fr w sa (.slice aa na ca) (.slice ba ma da) a) (hb : Fr w sb (.slice ab nb cb) (.slice bb mb db) b) (La : FSz 1000 a) (Lb : FSz 1000 b) (h : cmpR a b < 0) :
    Calls Tryz.prog 29 #[.agg #[.int .i64 sa, .slice aa na ca, .int .i64 1, .slice ba ma da], .agg #[.int .i64 sb, .slice ab nb cb, .int .i64 1, .slice bb mb db]] w (fun e w' => e = .returned (.tuple #[.agg #[.int .i64 sb, .slice ab nb cb, .int .i64 1, .slice bb mb db], .int .i64 0]) ∧ RowKit.Below w.heap.size w w') := by
  obtain ⟨K, hK⟩ : ∃ K, cmpR a b = K := ⟨_, rfl⟩
  rw [hK] at h
  have gk : decide (0 ≤ K) = false := by simp; omega
  have HK := Lib.hid hK
  have HA := Lib.hid ha
  have HB := Lib.hid hb
  have HLA := Lib.hid La
  have HLB := Lib.hid Lb
  have HaP := Lib.hid ha.1
  have HaQ := Lib.hid ha.2
  have HbP := Lib.hid hb.1
  have HbQ := Lib.hid hb.2
  have S0 := Lib.hid (((((Sf.start w)).put [.int .i64 sa, .slice aa na ca, .int .i64 1, .slice ba ma da] 26).put' (n := w.heap.size + 1) (by simp) [.int .i64 sb, .slice ab nb cb, .int .i64 1, .slice bb mb db] 26).put' (n := w.heap.size + 1 + 1) (by simp) [.int .i64 0, .slice none 0 0, .int .i64 0, .slice none 0 0] 26)
  clear ha hb La Lb h hK
  go_enter Tryz.func29, Tryz.ntmps29
  go_wp2_with fail
  refine (rfright_k (HA.out.later S0.out.below) HLA.out).mono ?_
  rintro e w1 ⟨rfl, hb⟩
  have S2 := Lib.hid (S0.out.later hb)
  clear hb S0
  obtain ⟨t1_0, t1_1, t1_2, t1_3⟩ := (S2.out.box _ (List.mem_cons_of_mem _ List.mem_cons_self) : Fb (w.heap.size + 1, 26, [.int .i64 sb, .slice ab nb cb, .int .i64 1, .slice bb mb db]) _).cells4
  go_wp2_with fail
  clear t1_0 t1_1 t1_2 t1_3
  refine (rfright_k (HB.out.later S2.out.below) HLB.out).mono ?_
  rintro e w3 ⟨rfl, hb⟩
  have S4 := Lib.hid (S2.out.later hb)
  clear hb S2
  obtain ⟨t2_0, t2_1, t2_2, t2_3⟩ := (S4.out.box _ (List.mem_cons_of_mem _ (List.mem_cons_of_mem _ List.mem_cons_self)) : Fb (w.heap.size, 26, [.int .i64 sa, .slice aa na ca, .int .i64 1, .slice ba ma da]) _).cells4
  obtain ⟨t3_0, t3_1, t3_2, t3_3⟩ := (S4.out.box _ (List.mem_cons_of_mem _ List.mem_cons_self) : Fb (w.heap.size + 1, 26, [.int .i64 sb, .slice ab nb cb, .int .i64 1, .slice bb mb db]) _).cells4
  go_wp2_with fail
  clear t2_0 t2_1 t2_2 t2_3 t3_0 t3_1 t3_2 t3_3
  refine (rfcmp_r (HA.out.later S4.out.below) (HB.out.later S4.out.below) HLA.out HLB.out HK.out).mono ?_
  rintro e w5 ⟨rfl, hb⟩
  have S6 := Lib.hid (S4.out.later hb)
  clear hb S4
  obtain ⟨t4_0, t4_1, t4_2, t4_3⟩ := (S6.out.box _ (List.mem_cons_of_mem _ List.mem_cons_self) : Fb (w.heap.size + 1, 26, [.int .i64 sb, .slice ab nb cb, .int .i64 1, .slice bb mb db]) _).cells4
  obtain ⟨r0, r1, r2, r3⟩ := (S6.out.box _ List.mem_cons_self : Fb (w.heap.size + 1 + 1, 26, [.int .i64 0, .slice none 0 0, .int .i64 0, .slice none 0 0]) _).cells4
  obtain ⟨f0, f1, f2, f3⟩ := (S6.out.box _ List.mem_cons_self : Fb (w.heap.size + 1 + 1, 26, [.int .i64 0, .slice none 0 0, .int .i64 0, .slice none 0 0]) _).free4
  go_wp2_with fail
  clear t4_0 t4_1 t4_2 t4_3
  have ZZ := Lib.hid (S6.out.set4 (pre := []) (.int .i64 sb) (.slice ab nb cb) (.int .i64 1) (.slice bb mb db))
  exact bodyPost_ret (v := .tuple #[.agg #[.int .i64 sb, .slice ab nb cb, .int .i64 1, .slice bb mb db], .int .i64 0]) (by simp [results, Tryz.results29, go_sem, r0, r1, r2, r3]) rfl ⟨rfl, ZZ.out.below⟩

set_option maxHeartbeats 1000000 in
theorem rfof_zero (p q : Int) (hp : -9223372036854775808 ≤ p ∧ p ≤ 9223372036854775807) (hq : -9223372036854775808 ≤ q ∧ q ≤ 9223372036854775807) (h0 : q = 0) (w : World) : Calls Tryz.prog 16 #[.int .i64 p, .int .i64 q] w (FZE 15 w) := by
  have HP := Lib.hid hp
  have HQ := Lib.hid hq
  have H0 := Lib.hid h0
  have LP : Hid (Len 100000 p) := Len.of (by omega)
  have LQ : Hid (Len 100000 q) := Len.of (by omega)
  have S0 := Lib.hid ((Sf.start w).put [.int .i64 0, .slice none 0 0, .int .i64 0, .slice none 0 0] 26)
  clear hp hq h0
  go_enter Tryz.func16, Tryz.ntmps16
  go_wp2_with fail
  refine (rof_k p HP.out _).mono ?_
  rintro e w1 ⟨g0, p0, k0, j0, rfl, hn, hb, hf⟩
  have T1 := Lib.hid (S0.out.ret hb hn.2 hf)
  have E0 := Lib.hid hn.1
  clear hn hb hf S0
  go_wp2_with fail
  refine (rof_k q HQ.out _).mono ?_
  rintro e w1' ⟨g1, p1, k1, j1, rfl, hn, hb, hf⟩
  have T1' := Lib.hid (T1.out.ret hb hn.2 hf)
  have E1 := Lib.hid hn.1
  clear hn hb hf T1
  go_wp2_with fail
  refine (rfnew_zero (T1'.out.num (v := .slice p0 k0 j0) (z := p) (List.mem_cons_of_mem _ List.mem_cons_self) E0.out) (T1'.out.num (v := .slice p1 k1 j1) (z := q) List.mem_cons_self E1.out) LP.out LQ.out H0.out).mono ?_
  rintro e w2 ⟨rfl, hb⟩
  have T2 := Lib.hid (T1'.out.later hb)
  clear hb T1'
  have yr : Fb (w.heap.size, 26, [.int .i64 0, .slice none 0 0, .int .i64 0, .slice none 0 0]) _ := T2.out.box _ List.mem_cons_self
  obtain ⟨r0, r1, r2, r3⟩ := yr.cells4
  obtain ⟨f0, f1, f2, f3⟩ := yr.free4
  clear yr
  go_wp2_with fail
  have T3 := Lib.hid (T2.out.set4 (pre := []) (.int .i64 0) (.slice none 0 0) (.int .i64 0) (.slice none 0 0))
  exact bodyPost_ret (v := .tuple #[.agg #[.int .i64 0, .slice none 0 0, .int .i64 0, .slice none 0 0], .int .i64 15]) (by simp [results, Tryz.results16, go_sem, r0, r1, r2, r3]) rfl ⟨rfl, T3.out.below⟩

set_option maxHeartbeats 1000000 in
theorem rfof_k (p q : Int) (hp : -9223372036854775808 ≤ p ∧ p ≤ 9223372036854775807) (hq : -9223372036854775808 ≤ q ∧ q ≤ 9223372036854775807) (h0 : q ≠ 0) (w : World) : Calls Tryz.prog 16 #[.int .i64 p, .int .i64 q] w (FVE (Rat.divInt p q) 0 w) := by
  have HP := Lib.hid hp
  have HQ := Lib.hid hq
  have H0 := Lib.hid h0
  have LP : Hid (Len 100000 p) := Len.of (by omega)
  have LQ : Hid (Len 100000 q) := Len.of (by omega)
  have S0 := Lib.hid ((Sf.start w).put [.int .i64 0, .slice none 0 0, .int .i64 0, .slice none 0 0] 26)
  clear hp hq h0
  go_enter Tryz.func16, Tryz.ntmps16
  go_wp2_with fail
  refine (rof_k p HP.out _).mono ?_
  rintro e w1 ⟨g0, p0, k0, j0, rfl, hn, hb, hf⟩
  have T1 := Lib.hid (S0.out.ret hb hn.2 hf)
  have E0 := Lib.hid hn.1
  clear hn hb hf S0
  go_wp2_with fail
  refine (rof_k q HQ.out _).mono ?_
  rintro e w1' ⟨g1, p1, k1, j1, rfl, hn, hb, hf⟩
  have T1' := Lib.hid (T1.out.ret hb hn.2 hf)
  have E1 := Lib.hid hn.1
  clear hn hb hf T1
  go_wp2_with fail
  refine (rfnew_r (T1'.out.num (v := .slice p0 k0 j0) (z := p) (List.mem_cons_of_mem _ List.mem_cons_self) E0.out) (T1'.out.num (v := .slice p1 k1 j1) (z := q) List.mem_cons_self E1.out) LP.out LQ.out H0.out rfl).mono ?_
  rintro e w2 ⟨s9, a9, n9, c9, b9, m9, d9, rfl, hr, hb, hf, hg⟩
  have T2 := Lib.hid (T1'.out.ret2 hb hr.1.2 hf hr.2.2 hg)
  have E9 := Lib.hid hr.1.1
  have F9 := Lib.hid (hf.mono T1'.out.below.size)
  have G9 := Lib.hid (hg.mono T1'.out.below.size)
  clear hr hb hf hg T1'
  have yr : Fb (w.heap.size, 26, [.int .i64 0, .slice none 0 0, .int .i64 0, .slice none 0 0]) _ := T2.out.box _ List.mem_cons_self
  obtain ⟨r0, r1, r2, r3⟩ := yr.cells4
  obtain ⟨f0, f1, f2, f3⟩ := yr.free4
  clear yr
  go_wp2_with fail
  have T3 := Lib.hid (T2.out.set4 (pre := []) (.int .i64 s9) (.slice a9 n9 c9) (.int .i64 1) (.slice b9 m9 d9))
  exact bodyPost_ret (v := .tuple #[.agg #[.int .i64 s9, .slice a9 n9 c9, .int .i64 1, .slice b9 m9 d9], .int .i64 0]) (by simp [results, Tryz.results16, go_sem, r0, r1, r2, r3]) rfl
    ⟨_, _, _, _, _, _, _, rfl, ⟨T3.out.num (v := .slice a9 n9 c9) (z := (Rat.divInt p q).num) List.mem_cons_self E9.out, T3.out.num (v := .slice b9 m9 d9) (z := ((Rat.divInt p q).den : Int)) (List.mem_cons_of_mem _ List.mem_cons_self) (den_sign _).symm⟩, T3.out.below, F9.out, G9.out⟩

theorem rfof_r {r : Rat} (p q : Int) (hp : -9223372036854775808 ≤ p ∧ p ≤ 9223372036854775807) (hq : -9223372036854775808 ≤ q ∧ q ≤ 9223372036854775807) (h0 : q ≠ 0) (h : Rat.divInt p q = r) (w : World) : Calls Tryz.prog 16 #[.int .i64 p, .int .i64 q] w (FVE r 0 w) := by subst h; exact rfof_k p q hp hq h0 w

set_option maxHeartbeats 2000000 in
theorem rfint_k (z : Int) (h : -9223372036854775808 ≤ z ∧ z ≤ 9223372036854775807) (w : World) : Calls Tryz.prog 35 #[.int .i64 z] w (FV (z : Rat) w) := by
  have H := Lib.hid h
  have H1 : Hid (-9223372036854775808 ≤ (1 : Int) ∧ (1 : Int) ≤ 9223372036854775807) := ⟨by omega, by omega⟩
  have H2 : Hid ((1 : Int) ≠ 0) := Lib.hid (by omega)
  have S0 := Lib.hid (((Sf.start w)).put [.int .i64 0, .slice none 0 0, .int .i64 0, .slice none 0 0] 26)
  clear h
  go_enter Tryz.func35, Tryz.ntmps35
  go_wp2_with fail
  refine (rfof_r z 1 H.out H1.out H2.out (rat_int z) _).mono ?_
  rintro e w1 ⟨s1, a1, n1, c1, b1, m1, d1, rfl, hr, hb, hf, hg⟩
  have E1 := Lib.hid hr.1.1
  have HFR : Hid (Fresh w.heap.size (.slice a1 n1 c1) ∧ Fresh w.heap.size (.slice b1 m1 d1)) := ⟨hf.mono S0.out.below.size, hg.mono S0.out.below.size⟩
  have S2 := Lib.hid ((S0.out.ret2 hb hr.1.2 hf hr.2.2 hg).put [.int .i64 s1, .slice a1 n1 c1, .int .i64 1, .slice b1 m1 d1] 26)
  clear hr hb hf hg S0
  obtain ⟨t1_0, t1_1, t1_2, t1_3⟩ := (S2.out.box _ List.mem_cons_self : Fb (w1.heap.size, 26, [.int .i64 s1, .slice a1 n1 c1, .int .i64 1, .slice b1 m1 d1]) _).cells4
  obtain ⟨r0, r1, r2, r3⟩ := (S2.out.box _ (List.mem_cons_of_mem _ List.mem_cons_self) : Fb (w.heap.size, 26, [.int .i64 0, .slice none 0 0, .int .i64 0, .slice none 0 0]) _).cells4
  obtain ⟨f0, f1, f2, f3⟩ := (S2.out.box _ (List.mem_cons_of_mem _ List.mem_cons_self) : Fb (w.heap.size, 26, [.int .i64 0, .slice none 0 0, .int .i64 0, .slice none 0 0]) _).free4
  go_wp2_with fail
  clear t1_0 t1_1 t1_2 t1_3
  have ZZ := Lib.hid (S2.out.set4 (pre := [_]) (.int .i64 s1) (.slice a1 n1 c1) (.int .i64 1) (.slice b1 m1 d1))
  exact bodyPost_ret (v := .agg #[.int .i64 s1, .slice a1 n1 c1, .int .i64 1, .slice b1 m1 d1]) (by simp [results, Tryz.results35, go_sem, r0, r1, r2, r3]) rfl ⟨_, _, _, _, _, _, _, rfl, ⟨ZZ.out.num (v := .slice a1 n1 c1) (z := ((z : Rat)).num) List.mem_cons_self E1.out, ZZ.out.num (v := .slice b1 m1 d1) (z := (((z : Rat)).den : Int)) (List.mem_cons_of_mem _ List.mem_cons_self) (den_sign _).symm⟩, ZZ.out.below, HFR.out.1, HFR.out.2⟩

end Go.Proofs.YtnddickcnfodfaaGreatDoor.Bi
