/- The law UnitProducts. -/
import Derived.Test.YtmhdhabgdlefjaaGreatDoorPProducts30
import Derived.Test.YtmhdhabgdlefjaaGreatDoorPProducts28
set_option maxRecDepth 100000
namespace Go.Proofs.YtmhdhabgdlefjaaGreatDoor.Un
open Go.RowKit Bi Dm

set_option maxHeartbeats 4000000 in
theorem products_out (s t : ByteArray) (hs : s.size ≤ 9223372036854775807) (ht : t.size ≤ 9223372036854775807) (w : World) (he : EnvU w) (h : 40 < s.size ∨ 40 < t.size ∨ s.size = 0 ∨ t.size = 0) : Calls Tryz.prog 4 #[.string s, .string t] w fun e w' => e = .returned (.bool true) ∧ RowKit.Below w.heap.size w w' := by
  have HE := Lib.hid he
  have S0 := Lib.hid (Sf.start w)
  clear he
  by_cases h1 : 40 < s.size
  · have g1 : decide (40 < (s.size : Int)) = true := by simp; omega
    have g1' : decide (40 < s.size) = true := by simp; omega
    go_enter Tryz.func4, Tryz.ntmps4
    go_wp2_with fail
    refine (sane_t _ HE.out).mono ?_
    rintro e w1 ⟨rfl, hb⟩
    have R1 := Lib.hid (S0.out.later hb)
    clear hb
    go_wp2_with fail
    go_ret
    exact ⟨rfl, R1.out.below⟩
  have g1 : decide (40 < (s.size : Int)) = false := by simp; omega
  have g1' : decide (40 < s.size) = false := by simp; omega
  by_cases h2 : 40 < t.size
  · have g2 : decide (40 < (t.size : Int)) = true := by simp; omega
    have g2' : decide (40 < t.size) = true := by simp; omega
    go_enter Tryz.func4, Tryz.ntmps4
    go_wp2_with fail
    refine (sane_t _ HE.out).mono ?_
    rintro e w1 ⟨rfl, hb⟩
    have R1 := Lib.hid (S0.out.later hb)
    clear hb
    go_wp2_with fail
    go_ret
    exact ⟨rfl, R1.out.below⟩
  have g2 : decide (40 < (t.size : Int)) = false := by simp; omega
  have g2' : decide (40 < t.size) = false := by simp; omega
  by_cases h3 : s.size = 0
  · obtain ⟨m1, m2, m3, m4, m5⟩ := str_empty s true false (by rw [decide_eq_true_eq]; exact List.eq_nil_of_length_eq_zero (by rw [sizeL]; exact h3)) rfl
    go_enter Tryz.func4, Tryz.ntmps4
    go_wp2_with fail
    refine (sane_t _ HE.out).mono ?_
    rintro e w1 ⟨rfl, hb⟩
    have R1 := Lib.hid (S0.out.later hb)
    clear hb
    go_wp2_with fail
    go_ret
    exact ⟨rfl, R1.out.below⟩
  obtain ⟨m1, m2, m3, m4, m5⟩ := str_empty s false true (by rw [decide_eq_false_iff_not]; intro e; exact h3 (by rw [← sizeL, e]; rfl)) rfl
  obtain ⟨o1, o2, o3, o4, o5⟩ := str_empty t true false (by rw [decide_eq_true_eq]; exact List.eq_nil_of_length_eq_zero (by rw [sizeL]; omega)) rfl
  go_enter Tryz.func4, Tryz.ntmps4
  go_wp2_with fail
  refine (sane_t _ HE.out).mono ?_
  rintro e w1 ⟨rfl, hb⟩
  have R1 := Lib.hid (S0.out.later hb)
  clear hb
  go_wp2_with fail
  go_ret
  exact ⟨rfl, R1.out.below⟩

set_option maxHeartbeats 8000000 in
theorem products_skip (s t : ByteArray) (hs0 : 0 < s.size) (ht0 : 0 < t.size) (hs : s.size ≤ 40) (ht : t.size ≤ 40) (w : World) (he : EnvU w) (h : failsI s.data.toList ≠ 0 ∨ failsI t.data.toList ≠ 0 ∨ 39 < s.size + t.size ∨ t[0] = 49) : Calls Tryz.prog 4 #[.string s, .string t] w fun e w' => e = .returned (.bool true) ∧ RowKit.Below w.heap.size w w' := by
  have HE := Lib.hid he
  have S0 := Lib.hid (Sf.start w)
  have g1 : decide (40 < (s.size : Int)) = false := by simp; omega
  have g1' : decide (40 < s.size) = false := by simp; omega
  have g2 : decide (40 < (t.size : Int)) = false := by simp; omega
  have g2' : decide (40 < t.size) = false := by simp; omega
  obtain ⟨m1, m2, m3, m4, m5⟩ := str_empty s false true (by rw [decide_eq_false_iff_not]; intro e; have := sizeL s; rw [e] at this; simp at this; omega) rfl
  obtain ⟨o1, o2, o3, o4, o5⟩ := str_empty t false true (by rw [decide_eq_false_iff_not]; intro e; have := sizeL t; rw [e] at this; simp at this; omega) rfl
  have HR1 := Lib.hid (fun W he => (uread_any s W he).mono fun _ _ g => read_anyU g)
  have HR2 := Lib.hid (fun W he => (uread_any t W he).mono fun _ _ g => read_anyU g)
  have HIT := Lib.hid (fun W => (items9_any t W).mono fun _ _ g => items_anyU g)
  obtain ⟨z1, hz1⟩ : ∃ z, failsI s.data.toList = z := ⟨_, rfl⟩
  obtain ⟨z2, hz2⟩ : ∃ z, failsI t.data.toList = z := ⟨_, rfl⟩
  rw [hz1] at HR1 h
  rw [hz2] at HR2 h
  have hw1 : IntKind.i64.wrap ((s.size : Int) + (t.size : Int)) = (s.size : Int) + (t.size : Int) := IntWalk.i64_in _ (by omega)
  unfold AnyU uc at HR1 HR2
  clear he hz1 hz2
  by_cases h1 : z1 = 0
  · have q1 : (z1 == 0) = true := by rw [beq_iff_eq]; exact h1
    have q1' : (z1 != 0) = false := by simp only [bne, q1]; rfl
    by_cases h2 : z2 = 0
    · have q2 : (z2 == 0) = true := by rw [beq_iff_eq]; exact h2
      have q2' : (z2 != 0) = false := by simp only [bne, q2]; rfl
      by_cases h3 : 39 < s.size + t.size
      · have q3 : decide (39 < (s.size : Int) + (t.size : Int)) = true := by simp; omega
        clear h h1 h2
        go_enter Tryz.func4, Tryz.ntmps4
        go_wp2_with fail
        refine (sane_t _ HE.out).mono ?_
        rintro e w1 ⟨rfl, hb⟩
        have R1 := Lib.hid (S0.out.later hb)
        clear hb
        go_wp2_with fail
        refine (HR1.out _ (HE.out.below R1.out.below)).mono ?_
        rintro e w2 ⟨f1, s1, a1, n1, c1, t1, b1, m1, d1, rfl, hb⟩
        have R2 := Lib.hid (R1.out.later hb)
        clear hb
        have P1 := Lib.hid (R2.out.put [.int .i64 0, .int .i64 0, .int .i64 0, .int .i64 0, .int .i64 0, .int .i64 0, .int .i64 0, .slice none 0 0, .int .i64 0, .slice none 0 0] 30)
        have Q1 := Lib.hid (Sf.row (pre := []) P1.out [.int .i64 (f1 0), .int .i64 (f1 1), .int .i64 (f1 2), .int .i64 (f1 3), .int .i64 (f1 4), .int .i64 (f1 5), .int .i64 s1, .slice a1 n1 c1, .int .i64 t1, .slice b1 m1 d1])
        go_wp2_with (first | refine wpList_store_row rfl _ _ _ rfl _ #[.int .i64 (f1 0), .int .i64 (f1 1), .int .i64 (f1 2), .int .i64 (f1 3), .int .i64 (f1 4), .int .i64 (f1 5), .int .i64 s1, .slice a1 n1 c1, .int .i64 t1, .slice b1 m1 d1] rfl rfl _ _ (P1.out.box _ List.mem_cons_self) (by kernel_rfl) rfl (by simp [Value.oneCell']) ?_)
        refine (HR2.out _ (HE.out.below Q1.out.below)).mono ?_
        rintro e w3 ⟨f2, s2, a2, n2, c2, t2, b2, m2, d2, rfl, hb⟩
        have R3 := Lib.hid (Q1.out.later hb)
        clear hb
        have P2 := Lib.hid (R3.out.put [.int .i64 0, .int .i64 0, .int .i64 0, .int .i64 0, .int .i64 0, .int .i64 0, .int .i64 0, .slice none 0 0, .int .i64 0, .slice none 0 0] 30)
        have Q2 := Lib.hid (Sf.row (pre := []) P2.out [.int .i64 (f2 0), .int .i64 (f2 1), .int .i64 (f2 2), .int .i64 (f2 3), .int .i64 (f2 4), .int .i64 (f2 5), .int .i64 s2, .slice a2 n2 c2, .int .i64 t2, .slice b2 m2 d2])
        go_wp2_with (first | refine wpList_store_row rfl _ _ _ rfl _ #[.int .i64 (f2 0), .int .i64 (f2 1), .int .i64 (f2 2), .int .i64 (f2 3), .int .i64 (f2 4), .int .i64 (f2 5), .int .i64 s2, .slice a2 n2 c2, .int .i64 t2, .slice b2 m2 d2] rfl rfl _ _ (P2.out.box _ List.mem_cons_self) (by kernel_rfl) rfl (by simp [Value.oneCell']) ?_)
        refine (HIT.out _).mono ?_
        rintro e w9 ⟨ai, ni, ci, ki, rfl, hb⟩
        have R9 := Lib.hid (Q2.out.later hb)
        clear hb
        go_wp2_with fail
        go_ret
        exact ⟨rfl, R9.out.below⟩
      · have q3 : decide (39 < (s.size : Int) + (t.size : Int)) = false := by simp; omega
        have h49 : t[0] = 49 := by
          rcases h with h | h | h | h
          · exact absurd h1 h
          · exact absurd h2 h
          · exact absurd h h3
          · exact h
        have q4 : ((t[0].toNat : Int) == 49) = true := by rw [h49]; decide
        clear h h1 h2 h49
        go_enter Tryz.func4, Tryz.ntmps4
        go_wp2_with fail
        refine (sane_t _ HE.out).mono ?_
        rintro e w1 ⟨rfl, hb⟩
        have R1 := Lib.hid (S0.out.later hb)
        clear hb
        go_wp2_with fail
        refine (HR1.out _ (HE.out.below R1.out.below)).mono ?_
        rintro e w2 ⟨f1, s1, a1, n1, c1, t1, b1, m1, d1, rfl, hb⟩
        have R2 := Lib.hid (R1.out.later hb)
        clear hb
        have P1 := Lib.hid (R2.out.put [.int .i64 0, .int .i64 0, .int .i64 0, .int .i64 0, .int .i64 0, .int .i64 0, .int .i64 0, .slice none 0 0, .int .i64 0, .slice none 0 0] 30)
        have Q1 := Lib.hid (Sf.row (pre := []) P1.out [.int .i64 (f1 0), .int .i64 (f1 1), .int .i64 (f1 2), .int .i64 (f1 3), .int .i64 (f1 4), .int .i64 (f1 5), .int .i64 s1, .slice a1 n1 c1, .int .i64 t1, .slice b1 m1 d1])
        go_wp2_with (first | refine wpList_store_row rfl _ _ _ rfl _ #[.int .i64 (f1 0), .int .i64 (f1 1), .int .i64 (f1 2), .int .i64 (f1 3), .int .i64 (f1 4), .int .i64 (f1 5), .int .i64 s1, .slice a1 n1 c1, .int .i64 t1, .slice b1 m1 d1] rfl rfl _ _ (P1.out.box _ List.mem_cons_self) (by kernel_rfl) rfl (by simp [Value.oneCell']) ?_)
        refine (HR2.out _ (HE.out.below Q1.out.below)).mono ?_
        rintro e w3 ⟨f2, s2, a2, n2, c2, t2, b2, m2, d2, rfl, hb⟩
        have R3 := Lib.hid (Q1.out.later hb)
        clear hb
        have P2 := Lib.hid (R3.out.put [.int .i64 0, .int .i64 0, .int .i64 0, .int .i64 0, .int .i64 0, .int .i64 0, .int .i64 0, .slice none 0 0, .int .i64 0, .slice none 0 0] 30)
        have Q2 := Lib.hid (Sf.row (pre := []) P2.out [.int .i64 (f2 0), .int .i64 (f2 1), .int .i64 (f2 2), .int .i64 (f2 3), .int .i64 (f2 4), .int .i64 (f2 5), .int .i64 s2, .slice a2 n2 c2, .int .i64 t2, .slice b2 m2 d2])
        go_wp2_with (first | refine wpList_store_row rfl _ _ _ rfl _ #[.int .i64 (f2 0), .int .i64 (f2 1), .int .i64 (f2 2), .int .i64 (f2 3), .int .i64 (f2 4), .int .i64 (f2 5), .int .i64 s2, .slice a2 n2 c2, .int .i64 t2, .slice b2 m2 d2] rfl rfl _ _ (P2.out.box _ List.mem_cons_self) (by kernel_rfl) rfl (by simp [Value.oneCell']) ?_)
        refine (HIT.out _).mono ?_
        rintro e w9 ⟨ai, ni, ci, ki, rfl, hb⟩
        have R9 := Lib.hid (Q2.out.later hb)
        clear hb
        go_wp2_with fail
        go_ret
        exact ⟨rfl, R9.out.below⟩
    · have q2 : (z2 == 0) = false := by rw [beq_eq_false_iff_ne]; exact h2
      have q2' : (z2 != 0) = true := by simp only [bne, q2]; rfl
      clear h
      go_enter Tryz.func4, Tryz.ntmps4
      go_wp2_with fail
      refine (sane_t _ HE.out).mono ?_
      rintro e w1 ⟨rfl, hb⟩
      have R1 := Lib.hid (S0.out.later hb)
      clear hb
      go_wp2_with fail
      refine (HR1.out _ (HE.out.below R1.out.below)).mono ?_
      rintro e w2 ⟨f1, s1, a1, n1, c1, t1, b1, m1, d1, rfl, hb⟩
      have R2 := Lib.hid (R1.out.later hb)
      clear hb
      have P1 := Lib.hid (R2.out.put [.int .i64 0, .int .i64 0, .int .i64 0, .int .i64 0, .int .i64 0, .int .i64 0, .int .i64 0, .slice none 0 0, .int .i64 0, .slice none 0 0] 30)
      have Q1 := Lib.hid (Sf.row (pre := []) P1.out [.int .i64 (f1 0), .int .i64 (f1 1), .int .i64 (f1 2), .int .i64 (f1 3), .int .i64 (f1 4), .int .i64 (f1 5), .int .i64 s1, .slice a1 n1 c1, .int .i64 t1, .slice b1 m1 d1])
      go_wp2_with (first | refine wpList_store_row rfl _ _ _ rfl _ #[.int .i64 (f1 0), .int .i64 (f1 1), .int .i64 (f1 2), .int .i64 (f1 3), .int .i64 (f1 4), .int .i64 (f1 5), .int .i64 s1, .slice a1 n1 c1, .int .i64 t1, .slice b1 m1 d1] rfl rfl _ _ (P1.out.box _ List.mem_cons_self) (by kernel_rfl) rfl (by simp [Value.oneCell']) ?_)
      refine (HR2.out _ (HE.out.below Q1.out.below)).mono ?_
      rintro e w3 ⟨f2, s2, a2, n2, c2, t2, b2, m2, d2, rfl, hb⟩
      have R3 := Lib.hid (Q1.out.later hb)
      clear hb
      have P2 := Lib.hid (R3.out.put [.int .i64 0, .int .i64 0, .int .i64 0, .int .i64 0, .int .i64 0, .int .i64 0, .int .i64 0, .slice none 0 0, .int .i64 0, .slice none 0 0] 30)
      have Q2 := Lib.hid (Sf.row (pre := []) P2.out [.int .i64 (f2 0), .int .i64 (f2 1), .int .i64 (f2 2), .int .i64 (f2 3), .int .i64 (f2 4), .int .i64 (f2 5), .int .i64 s2, .slice a2 n2 c2, .int .i64 t2, .slice b2 m2 d2])
      go_wp2_with (first | refine wpList_store_row rfl _ _ _ rfl _ #[.int .i64 (f2 0), .int .i64 (f2 1), .int .i64 (f2 2), .int .i64 (f2 3), .int .i64 (f2 4), .int .i64 (f2 5), .int .i64 s2, .slice a2 n2 c2, .int .i64 t2, .slice b2 m2 d2] rfl rfl _ _ (P2.out.box _ List.mem_cons_self) (by kernel_rfl) rfl (by simp [Value.oneCell']) ?_)
      refine (HIT.out _).mono ?_
      rintro e w9 ⟨ai, ni, ci, ki, rfl, hb⟩
      have R9 := Lib.hid (Q2.out.later hb)
      clear hb
      go_wp2_with fail
      go_ret
      exact ⟨rfl, R9.out.below⟩
  · have q1 : (z1 == 0) = false := by rw [beq_eq_false_iff_ne]; exact h1
    have q1' : (z1 != 0) = true := by simp only [bne, q1]; rfl
    clear h
    go_enter Tryz.func4, Tryz.ntmps4
    go_wp2_with fail
    refine (sane_t _ HE.out).mono ?_
    rintro e w1 ⟨rfl, hb⟩
    have R1 := Lib.hid (S0.out.later hb)
    clear hb
    go_wp2_with fail
    refine (HR1.out _ (HE.out.below R1.out.below)).mono ?_
    rintro e w2 ⟨f1, s1, a1, n1, c1, t1, b1, m1, d1, rfl, hb⟩
    have R2 := Lib.hid (R1.out.later hb)
    clear hb
    have P1 := Lib.hid (R2.out.put [.int .i64 0, .int .i64 0, .int .i64 0, .int .i64 0, .int .i64 0, .int .i64 0, .int .i64 0, .slice none 0 0, .int .i64 0, .slice none 0 0] 30)
    have Q1 := Lib.hid (Sf.row (pre := []) P1.out [.int .i64 (f1 0), .int .i64 (f1 1), .int .i64 (f1 2), .int .i64 (f1 3), .int .i64 (f1 4), .int .i64 (f1 5), .int .i64 s1, .slice a1 n1 c1, .int .i64 t1, .slice b1 m1 d1])
    go_wp2_with (first | refine wpList_store_row rfl _ _ _ rfl _ #[.int .i64 (f1 0), .int .i64 (f1 1), .int .i64 (f1 2), .int .i64 (f1 3), .int .i64 (f1 4), .int .i64 (f1 5), .int .i64 s1, .slice a1 n1 c1, .int .i64 t1, .slice b1 m1 d1] rfl rfl _ _ (P1.out.box _ List.mem_cons_self) (by kernel_rfl) rfl (by simp [Value.oneCell']) ?_)
    refine (HR2.out _ (HE.out.below Q1.out.below)).mono ?_
    rintro e w3 ⟨f2, s2, a2, n2, c2, t2, b2, m2, d2, rfl, hb⟩
    have R3 := Lib.hid (Q1.out.later hb)
    clear hb
    have P2 := Lib.hid (R3.out.put [.int .i64 0, .int .i64 0, .int .i64 0, .int .i64 0, .int .i64 0, .int .i64 0, .int .i64 0, .slice none 0 0, .int .i64 0, .slice none 0 0] 30)
    have Q2 := Lib.hid (Sf.row (pre := []) P2.out [.int .i64 (f2 0), .int .i64 (f2 1), .int .i64 (f2 2), .int .i64 (f2 3), .int .i64 (f2 4), .int .i64 (f2 5), .int .i64 s2, .slice a2 n2 c2, .int .i64 t2, .slice b2 m2 d2])
    go_wp2_with (first | refine wpList_store_row rfl _ _ _ rfl _ #[.int .i64 (f2 0), .int .i64 (f2 1), .int .i64 (f2 2), .int .i64 (f2 3), .int .i64 (f2 4), .int .i64 (f2 5), .int .i64 s2, .slice a2 n2 c2, .int .i64 t2, .slice b2 m2 d2] rfl rfl _ _ (P2.out.box _ List.mem_cons_self) (by kernel_rfl) rfl (by simp [Value.oneCell']) ?_)
    refine (HIT.out _).mono ?_
    rintro e w9 ⟨ai, ni, ci, ki, rfl, hb⟩
    have R9 := Lib.hid (Q2.out.later hb)
    clear hb
    go_wp2_with fail
    go_ret
    exact ⟨rfl, R9.out.below⟩

set_option maxHeartbeats 8000000 in
theorem products_near_more (s t : ByteArray) (hs0 : 0 < s.size) (ht0 : 0 < t.size) (hs : s.size ≤ 40) (ht : t.size ≤ 40) (w : World) (he : EnvU w) (hsum : s.size + t.size ≤ 39) (h49 : t[0] ≠ 49) {l m : List (List UInt8 × Int)} {f g : Nat → Int} {x y : Rat} (i1 : itemsL s.data.toList = some l) (i2 : itemsL t.data.toList = some m) (e1 : evL l zf 1 = some (f, x)) (e2 : evL m zf 1 = some (g, y)) (k1 : ok f = true) (k2 : ok g = true)
    (hm : ok (sumF f g) = true) (hlen : 1 < m.length) : Calls Tryz.prog 4 #[.string s, .string t] w fun e w' => e = .returned (.bool true) ∧ RowKit.Below w.heap.size w w' := by
  have HE := Lib.hid he
  have S0 := Lib.hid (Sf.start w)
  have g1 : decide (40 < (s.size : Int)) = false := by simp; omega
  have g1' : decide (40 < s.size) = false := by simp; omega
  have g2 : decide (40 < (t.size : Int)) = false := by simp; omega
  have g2' : decide (40 < t.size) = false := by simp; omega
  obtain ⟨m1, m2, m3, m4, m5⟩ := str_empty s false true (by rw [decide_eq_false_iff_not]; intro e; have := sizeL s; rw [e] at this; simp at this; omega) rfl
  obtain ⟨o1, o2, o3, o4, o5⟩ := str_empty t false true (by rw [decide_eq_false_iff_not]; intro e; have := sizeL t; rw [e] at this; simp at this; omega) rfl
  have hl1 := sizeL s
  have hl2 := sizeL t
  obtain ⟨hb1, hb2⟩ := bytes_head t ht0
  have hb3 : s.data.toList ≠ [] := fun e => by rw [e] at hl1; simp at hl1; omega
  obtain ⟨st1, st2, st3⟩ := read_star hb3 hb2 (fun e => h49 (hb1.2 e)) (by omega) i1 i2 e1 e2
  have HR1 := Lib.hid (fun W he => (uread_any s W he).mono fun _ _ g => read_gives i1 e1 k1 g)
  have HR2 := Lib.hid (fun W he => (uread_any t W he).mono fun _ _ g => read_gives i2 e2 k2 g)
  have HIT : Hid (∀ W, Calls Tryz.prog 24 #[.string t] W fun e w' => ∃ a c, e = .returned (.tuple #[.slice a m.length c, .bool true]) ∧ RowKit.Below W.heap.size W w') := Lib.hid (fun W => (items9_any t W).mono fun _ _ g => by
    unfold ItemsEnd at g; rw [i2] at g
    obtain ⟨a, c, e1, _, hb, _⟩ := g
    exact ⟨a, c, e1, hb⟩)
  have LX := Lib.hid ((ev_size i1 e1).mono (j := 1000))
  have LY := Lib.hid ((ev_size i2 e2).mono (j := 1000))
  have PX := Lib.hid (ev_sign e1)
  have PY := Lib.hid (ev_sign e2)
  have Y0 := Lib.hid (sign_ne PY.out)
  have K1 := Lib.hid k1
  have K2 := Lib.hid k2
  have hw1 : IntKind.i64.wrap ((s.size : Int) + (t.size : Int)) = (s.size : Int) + (t.size : Int) := IntWalk.i64_in _ (by omega)
  have q3 : decide (39 < (s.size : Int) + (t.size : Int)) = false := by simp; omega
  have q4 : ((t[0].toNat : Int) == 49) = false := by
    rw [beq_eq_false_iff_ne]; intro h; exact h49 (UInt8.toNat_inj.1 (show (t[0]).toNat = (49 : UInt8).toNat by have h2 : (t[0]).toNat = 49 := (by omega); exact h2))
  have ad1 : ∀ W : World, (Op.stringOp .add s ⟨#[42]⟩).run Tryz.prog W = .ok (.string ⟨(s.data.toList ++ [42]).toArray⟩) W := fun W => by
    have := run_string_add_lists (P := Tryz.prog) (w := W) s.data.toList [42] (by omega) (by decide)
    rwa [show (⟨s.data.toList.toArray⟩ : ByteArray) = s by apply ByteArray.ext; simp] at this
  have ad2 : ∀ W : World, (Op.stringOp .add ⟨(s.data.toList ++ [42]).toArray⟩ t).run Tryz.prog W = .ok (.string ⟨(s.data.toList ++ 42 :: t.data.toList).toArray⟩) W := fun W => by
    have := run_string_add_lists (P := Tryz.prog) (w := W) (s.data.toList ++ [42]) t.data.toList (by simp; omega) (by omega)
    rw [show (⟨t.data.toList.toArray⟩ : ByteArray) = t by apply ByteArray.ext; simp] at this
    rw [this]; simp
  have HR3 : Hid (∀ W, EnvU W → Calls Tryz.prog 10 #[.string ⟨(s.data.toList ++ 42 :: t.data.toList).toArray⟩] W (UVE (sumF f g) (x * y) 0 W)) := Lib.hid (fun W he => (uread_any ⟨(s.data.toList ++ 42 :: t.data.toList).toArray⟩ W he).mono fun _ _ g => read_gives st1 st2 hm g)
  have HV := Lib.hid (mulR_is k1 k2 hm)
  obtain ⟨C, hC⟩ : ∃ C, x * y = C := ⟨_, rfl⟩
  have HC := Lib.hid hC
  obtain ⟨G, hG⟩ : ∃ G, sumF f g = G := ⟨_, rfl⟩
  rw [hC, hG] at HR3
  rw [hG] at HV
  obtain ⟨T1, hT1⟩ : ∃ T : ByteArray, ⟨(s.data.toList ++ 42 :: t.data.toList).toArray⟩ = T := ⟨_, rfl⟩
  rw [hT1] at ad2 HR3
  have z0 : ((m.length : Int) == 0) = false := by
    rw [beq_eq_false_iff_ne]; omega
  have z1 : decide (1 < (m.length : Int)) = true := by simp; omega
  have z1' : decide (1 < m.length) = true := by simp; omega
  have z2 : decide (m.length = 0) = false := by simp; omega
  go_enter Tryz.func4, Tryz.ntmps4
  go_wp2_with fail
  refine (sane_t _ HE.out).mono ?_
  rintro e w1 ⟨rfl, hb⟩
  have R1 := Lib.hid (S0.out.later hb)
  clear hb
  clear he i1 i2 e1 e2 k1 k2 hm hl1 hl2 hb1 hb2 hb3 st1 st2 st3 hC hT1 hG
  go_wp2_with fail
  refine (HR1.out _ (HE.out.below R1.out.below)).mono ?_
  rintro e w2 ⟨sx2, ax2, nx2, cx2, bx2, mx2, dx2, rfl, hr, hb, hf, hg⟩
  have E2 := Lib.hid hr.1.1
  have R2 := Lib.hid (R1.out.ret2 hb hr.1.2 hf hr.2.2 hg)
  have FF2 := Lib.hid (hf.mono R1.out.below.size)
  have FG2 := Lib.hid (hg.mono R1.out.below.size)
  clear hr hb hf hg
  have P1 := Lib.hid (R2.out.put [.int .i64 0, .int .i64 0, .int .i64 0, .int .i64 0, .int .i64 0, .int .i64 0, .int .i64 0, .slice none 0 0, .int .i64 0, .slice none 0 0] 30)
  have Q1 := Lib.hid (Sf.row (pre := []) P1.out [.int .i64 (f 0), .int .i64 (f 1), .int .i64 (f 2), .int .i64 (f 3), .int .i64 (f 4), .int .i64 (f 5), .int .i64 sx2, .slice ax2 nx2 cx2, .int .i64 1, .slice bx2 mx2 dx2])
  go_wp2_with (first | refine wpList_store_row rfl _ _ _ rfl _ #[.int .i64 (f 0), .int .i64 (f 1), .int .i64 (f 2), .int .i64 (f 3), .int .i64 (f 4), .int .i64 (f 5), .int .i64 sx2, .slice ax2 nx2 cx2, .int .i64 1, .slice bx2 mx2 dx2] rfl rfl _ _ (P1.out.box _ List.mem_cons_self) (by kernel_rfl) rfl (by simp [Value.oneCell']) ?_)
  refine (HR2.out _ (HE.out.below Q1.out.below)).mono ?_
  rintro e w3 ⟨sx3, ax3, nx3, cx3, bx3, mx3, dx3, rfl, hr, hb, hf, hg⟩
  have E3 := Lib.hid hr.1.1
  have R3 := Lib.hid (Q1.out.ret2 hb hr.1.2 hf hr.2.2 hg)
  have FF3 := Lib.hid (hf.mono Q1.out.below.size)
  have FG3 := Lib.hid (hg.mono Q1.out.below.size)
  clear hr hb hf hg
  have P2 := Lib.hid (R3.out.put [.int .i64 0, .int .i64 0, .int .i64 0, .int .i64 0, .int .i64 0, .int .i64 0, .int .i64 0, .slice none 0 0, .int .i64 0, .slice none 0 0] 30)
  have Q2 := Lib.hid (Sf.row (pre := []) P2.out [.int .i64 (g 0), .int .i64 (g 1), .int .i64 (g 2), .int .i64 (g 3), .int .i64 (g 4), .int .i64 (g 5), .int .i64 sx3, .slice ax3 nx3 cx3, .int .i64 1, .slice bx3 mx3 dx3])
  go_wp2_with (first | refine wpList_store_row rfl _ _ _ rfl _ #[.int .i64 (g 0), .int .i64 (g 1), .int .i64 (g 2), .int .i64 (g 3), .int .i64 (g 4), .int .i64 (g 5), .int .i64 sx3, .slice ax3 nx3 cx3, .int .i64 1, .slice bx3 mx3 dx3] rfl rfl _ _ (P2.out.box _ List.mem_cons_self) (by kernel_rfl) rfl (by simp [Value.oneCell']) ?_)
  refine (HIT.out _).mono ?_
  rintro e w9 ⟨ai, ci, rfl, hb⟩
  have R9 := Lib.hid (Q2.out.later hb)
  clear hb
  obtain ⟨q3, q4, q5, q6, q7, q8, q9, q10, q11, q12⟩ := Fb.cells10 (R9.out.box (w2.heap.size, 30, [.int .i64 (f 0), .int .i64 (f 1), .int .i64 (f 2), .int .i64 (f 3), .int .i64 (f 4), .int .i64 (f 5), .int .i64 sx2, .slice ax2 nx2 cx2, .int .i64 1, .slice bx2 mx2 dx2]) mq1)
  obtain ⟨q13, q14, q15, q16, q17, q18, q19, q20, q21, q22⟩ := Fb.cells10 (R9.out.box (w3.heap.size, 30, [.int .i64 (g 0), .int .i64 (g 1), .int .i64 (g 2), .int .i64 (g 3), .int .i64 (g 4), .int .i64 (g 5), .int .i64 sx3, .slice ax3 nx3 cx3, .int .i64 1, .slice bx3 mx3 dx3]) mq0)
  go_wp2_with fail
  clear q3 q4 q5 q6 q7 q8 q9 q10 q11 q12 q13 q14 q15 q16 q17 q18 q19 q20 q21 q22
  refine (umul_k (V := G) (R9.out.fr (v := .slice ax2 nx2 cx2) (u := .slice bx2 mx2 dx2) (r := x) mq2 mq3 E2.out) (R9.out.fr (v := .slice ax3 nx3 cx3) (u := .slice bx3 mx3 dx3) (r := y) mq0 mq1 E3.out) LX.out LY.out K1.out K2.out PX.out PY.out HC.out HV.out).mono ?_
  rintro e w10 ⟨sx10, ax10, nx10, cx10, bx10, mx10, dx10, rfl, hr, hb, hf, hg⟩
  have E10 := Lib.hid hr.1.1
  have R10 := Lib.hid (R9.out.ret2 hb hr.1.2 hf hr.2.2 hg)
  have FF10 := Lib.hid (hf.mono R9.out.below.size)
  have FG10 := Lib.hid (hg.mono R9.out.below.size)
  clear hr hb hf hg
  have P23 := Lib.hid (R10.out.put [.int .i64 0, .int .i64 0, .int .i64 0, .int .i64 0, .int .i64 0, .int .i64 0, .int .i64 0, .slice none 0 0, .int .i64 0, .slice none 0 0] 30)
  have Q23 := Lib.hid (Sf.row (pre := []) P23.out [.int .i64 (G 0), .int .i64 (G 1), .int .i64 (G 2), .int .i64 (G 3), .int .i64 (G 4), .int .i64 (G 5), .int .i64 sx10, .slice ax10 nx10 cx10, .int .i64 1, .slice bx10 mx10 dx10])
  go_wp2_with (first | refine wpList_store_row rfl _ _ _ rfl _ #[.int .i64 (G 0), .int .i64 (G 1), .int .i64 (G 2), .int .i64 (G 3), .int .i64 (G 4), .int .i64 (G 5), .int .i64 sx10, .slice ax10 nx10 cx10, .int .i64 1, .slice bx10 mx10 dx10] rfl rfl _ _ (P23.out.box _ List.mem_cons_self) (by kernel_rfl) rfl (by simp [Value.oneCell']) ?_)
  refine (HR3.out _ (HE.out.below Q23.out.below)).mono ?_
  rintro e w11 ⟨sx11, ax11, nx11, cx11, bx11, mx11, dx11, rfl, hr, hb, hf, hg⟩
  have E11 := Lib.hid hr.1.1
  have R11 := Lib.hid (Q23.out.ret2 hb hr.1.2 hf hr.2.2 hg)
  have FF11 := Lib.hid (hf.mono Q23.out.below.size)
  have FG11 := Lib.hid (hg.mono Q23.out.below.size)
  clear hr hb hf hg
  have P24 := Lib.hid (R11.out.put [.int .i64 0, .int .i64 0, .int .i64 0, .int .i64 0, .int .i64 0, .int .i64 0, .int .i64 0, .slice none 0 0, .int .i64 0, .slice none 0 0] 30)
  have Q24 := Lib.hid (Sf.row (pre := []) P24.out [.int .i64 (G 0), .int .i64 (G 1), .int .i64 (G 2), .int .i64 (G 3), .int .i64 (G 4), .int .i64 (G 5), .int .i64 sx11, .slice ax11 nx11 cx11, .int .i64 1, .slice bx11 mx11 dx11])
  obtain ⟨q25, q26, q27, q28, q29, q30, q31, q32, q33, q34⟩ := Fb.cells10 (Q24.out.box (w10.heap.size, 30, [.int .i64 (G 0), .int .i64 (G 1), .int .i64 (G 2), .int .i64 (G 3), .int .i64 (G 4), .int .i64 (G 5), .int .i64 sx10, .slice ax10 nx10 cx10, .int .i64 1, .slice bx10 mx10 dx10]) mq1)
  obtain ⟨q35, q36, q37, q38, q39, q40, q41, q42, q43, q44⟩ := Fb.cells10 (Q24.out.box (w11.heap.size, 30, [.int .i64 (G 0), .int .i64 (G 1), .int .i64 (G 2), .int .i64 (G 3), .int .i64 (G 4), .int .i64 (G 5), .int .i64 sx11, .slice ax11 nx11 cx11, .int .i64 1, .slice bx11 mx11 dx11]) mq0)
  go_wp2_with (first | refine wpList_store_row rfl _ _ _ rfl _ #[.int .i64 (G 0), .int .i64 (G 1), .int .i64 (G 2), .int .i64 (G 3), .int .i64 (G 4), .int .i64 (G 5), .int .i64 sx11, .slice ax11 nx11 cx11, .int .i64 1, .slice bx11 mx11 dx11] rfl rfl _ _ (P24.out.box _ List.mem_cons_self) (by kernel_rfl) rfl (by simp [Value.oneCell']) ?_)
  clear q25 q26 q27 q28 q29 q30 q31 q32 q33 q34 q35 q36 q37 q38 q39 q40 q41 q42 q43 q44
  refine (u9same_k (Q24.out.fr (v := .slice ax10 nx10 cx10) (u := .slice bx10 mx10 dx10) (r := C) mq2 mq3 E10.out) (Q24.out.fr (v := .slice ax11 nx11 cx11) (u := .slice bx11 mx11 dx11) (r := C) mq0 mq1 E11.out) (eqB_refl G) (k := true) (by simp)).mono ?_
  rintro e w12 ⟨rfl, hb⟩
  have R12 := Lib.hid (Q24.out.later hb)
  clear hb
  go_wp2_with fail
  go_ret
  exact ⟨rfl, R12.out.below⟩

set_option maxHeartbeats 8000000 in
theorem products_near_near (s t : ByteArray) (hs0 : 0 < s.size) (ht0 : 0 < t.size) (hs : s.size ≤ 40) (ht : t.size ≤ 40) (w : World) (he : EnvU w) (hsum : s.size + t.size ≤ 39) (h49 : t[0] ≠ 49) {l m : List (List UInt8 × Int)} {f g : Nat → Int} {x y : Rat} (i1 : itemsL s.data.toList = some l) (i2 : itemsL t.data.toList = some m) (e1 : evL l zf 1 = some (f, x)) (e2 : evL m zf 1 = some (g, y)) (k1 : ok f = true) (k2 : ok g = true)
    (hm : ok (sumF f g) = true) (hlen : m.length = 1) (hd : ok (difF f g) = true) : Calls Tryz.prog 4 #[.string s, .string t] w fun e w' => e = .returned (.bool true) ∧ RowKit.Below w.heap.size w w' := by
  have HE := Lib.hid he
  have S0 := Lib.hid (Sf.start w)
  have g1 : decide (40 < (s.size : Int)) = false := by simp; omega
  have g1' : decide (40 < s.size) = false := by simp; omega
  have g2 : decide (40 < (t.size : Int)) = false := by simp; omega
  have g2' : decide (40 < t.size) = false := by simp; omega
  obtain ⟨m1, m2, m3, m4, m5⟩ := str_empty s false true (by rw [decide_eq_false_iff_not]; intro e; have := sizeL s; rw [e] at this; simp at this; omega) rfl
  obtain ⟨o1, o2, o3, o4, o5⟩ := str_empty t false true (by rw [decide_eq_false_iff_not]; intro e; have := sizeL t; rw [e] at this; simp at this; omega) rfl
  have hl1 := sizeL s
  have hl2 := sizeL t
  obtain ⟨hb1, hb2⟩ := bytes_head t ht0
  have hb3 : s.data.toList ≠ [] := fun e => by rw [e] at hl1; simp at hl1; omega
  obtain ⟨st1, st2, st3⟩ := read_star hb3 hb2 (fun e => h49 (hb1.2 e)) (by omega) i1 i2 e1 e2
  have HR1 := Lib.hid (fun W he => (uread_any s W he).mono fun _ _ g => read_gives i1 e1 k1 g)
  have HR2 := Lib.hid (fun W he => (uread_any t W he).mono fun _ _ g => read_gives i2 e2 k2 g)
  have HIT : Hid (∀ W, Calls Tryz.prog 24 #[.string t] W fun e w' => ∃ a c, e = .returned (.tuple #[.slice a m.length c, .bool true]) ∧ RowKit.Below W.heap.size W w') := Lib.hid (fun W => (items9_any t W).mono fun _ _ g => by
    unfold ItemsEnd at g; rw [i2] at g
    obtain ⟨a, c, e1, _, hb, _⟩ := g
    exact ⟨a, c, e1, hb⟩)
  have LX := Lib.hid ((ev_size i1 e1).mono (j := 1000))
  have LY := Lib.hid ((ev_size i2 e2).mono (j := 1000))
  have PX := Lib.hid (ev_sign e1)
  have PY := Lib.hid (ev_sign e2)
  have Y0 := Lib.hid (sign_ne PY.out)
  have K1 := Lib.hid k1
  have K2 := Lib.hid k2
  have hw1 : IntKind.i64.wrap ((s.size : Int) + (t.size : Int)) = (s.size : Int) + (t.size : Int) := IntWalk.i64_in _ (by omega)
  have q3 : decide (39 < (s.size : Int) + (t.size : Int)) = false := by simp; omega
  have q4 : ((t[0].toNat : Int) == 49) = false := by
    rw [beq_eq_false_iff_ne]; intro h; exact h49 (UInt8.toNat_inj.1 (show (t[0]).toNat = (49 : UInt8).toNat by have h2 : (t[0]).toNat = 49 := (by omega); exact h2))
  have ad1 : ∀ W : World, (Op.stringOp .add s ⟨#[42]⟩).run Tryz.prog W = .ok (.string ⟨(s.data.toList ++ [42]).toArray⟩) W := fun W => by
    have := run_string_add_lists (P := Tryz.prog) (w := W) s.data.toList [42] (by omega) (by decide)
    rwa [show (⟨s.data.toList.toArray⟩ : ByteArray) = s by apply ByteArray.ext; simp] at this
  have ad2 : ∀ W : World, (Op.stringOp .add ⟨(s.data.toList ++ [42]).toArray⟩ t).run Tryz.prog W = .ok (.string ⟨(s.data.toList ++ 42 :: t.data.toList).toArray⟩) W := fun W => by
    have := run_string_add_lists (P := Tryz.prog) (w := W) (s.data.toList ++ [42]) t.data.toList (by simp; omega) (by omega)
    rw [show (⟨t.data.toList.toArray⟩ : ByteArray) = t by apply ByteArray.ext; simp] at this
    rw [this]; simp
  have HR3 : Hid (∀ W, EnvU W → Calls Tryz.prog 10 #[.string ⟨(s.data.toList ++ 42 :: t.data.toList).toArray⟩] W (UVE (sumF f g) (x * y) 0 W)) := Lib.hid (fun W he => (uread_any ⟨(s.data.toList ++ 42 :: t.data.toList).toArray⟩ W he).mono fun _ _ g => read_gives st1 st2 hm g)
  have HV := Lib.hid (mulR_is k1 k2 hm)
  have ad3 : ∀ W : World, (Op.stringOp .add s ⟨#[47]⟩).run Tryz.prog W = .ok (.string ⟨(s.data.toList ++ [47]).toArray⟩) W := fun W => by
    have := run_string_add_lists (P := Tryz.prog) (w := W) s.data.toList [47] (by omega) (by decide)
    rwa [show (⟨s.data.toList.toArray⟩ : ByteArray) = s by apply ByteArray.ext; simp] at this
  have ad4 : ∀ W : World, (Op.stringOp .add ⟨(s.data.toList ++ [47]).toArray⟩ t).run Tryz.prog W = .ok (.string ⟨(s.data.toList ++ 47 :: t.data.toList).toArray⟩) W := fun W => by
    have := run_string_add_lists (P := Tryz.prog) (w := W) (s.data.toList ++ [47]) t.data.toList (by simp; omega) (by omega)
    rw [show (⟨t.data.toList.toArray⟩ : ByteArray) = t by apply ByteArray.ext; simp] at this
    rw [this]; simp
  obtain ⟨⟨wd, nn⟩, hwn⟩ := List.length_eq_one_iff.1 hlen
  rw [hwn] at i2 e2
  obtain ⟨sl1, sl2⟩ := read_slash hb3 hb2 (fun e => h49 (hb1.2 e)) (by omega) i1 i2 e1 e2
  have HR4 : Hid (∀ W, EnvU W → Calls Tryz.prog 10 #[.string ⟨(s.data.toList ++ 47 :: t.data.toList).toArray⟩] W (UVE (difF f g) (x / y) 0 W)) := Lib.hid (fun W he => (uread_any ⟨(s.data.toList ++ 47 :: t.data.toList).toArray⟩ W he).mono fun _ _ g => read_gives sl1 sl2 hd g)
  have HV2 := Lib.hid (divR_is k1 k2 hd)
  obtain ⟨C, hC⟩ : ∃ C, x * y = C := ⟨_, rfl⟩
  have HC := Lib.hid hC
  obtain ⟨G, hG⟩ : ∃ G, sumF f g = G := ⟨_, rfl⟩
  rw [hC, hG] at HR3
  rw [hG] at HV
  obtain ⟨D, hD⟩ : ∃ D, x / y = D := ⟨_, rfl⟩
  have HD := Lib.hid hD
  obtain ⟨K, hK⟩ : ∃ K, difF f g = K := ⟨_, rfl⟩
  rw [hD, hK] at HR4
  rw [hK] at HV2
  obtain ⟨T1, hT1⟩ : ∃ T : ByteArray, ⟨(s.data.toList ++ 42 :: t.data.toList).toArray⟩ = T := ⟨_, rfl⟩
  rw [hT1] at ad2 HR3
  obtain ⟨T2, hT2⟩ : ∃ T : ByteArray, ⟨(s.data.toList ++ 47 :: t.data.toList).toArray⟩ = T := ⟨_, rfl⟩
  rw [hT2] at ad4 HR4
  have z0 : ((m.length : Int) == 0) = false := by
    rw [beq_eq_false_iff_ne]; omega
  have z1 : decide (1 < (m.length : Int)) = false := by simp; omega
  have z1' : decide (1 < m.length) = false := by simp; omega
  have z2 : decide (m.length = 0) = false := by simp; omega
  go_enter Tryz.func4, Tryz.ntmps4
  go_wp2_with fail
  refine (sane_t _ HE.out).mono ?_
  rintro e w1 ⟨rfl, hb⟩
  have R1 := Lib.hid (S0.out.later hb)
  clear hb
  clear he i1 i2 e1 e2 k1 k2 hm hl1 hl2 hb1 hb2 hb3 st1 st2 st3 hC hT1 hG hd hwn sl1 sl2 hD hT2 hK
  go_wp2_with fail
  refine (HR1.out _ (HE.out.below R1.out.below)).mono ?_
  rintro e w2 ⟨sx2, ax2, nx2, cx2, bx2, mx2, dx2, rfl, hr, hb, hf, hg⟩
  have E2 := Lib.hid hr.1.1
  have R2 := Lib.hid (R1.out.ret2 hb hr.1.2 hf hr.2.2 hg)
  have FF2 := Lib.hid (hf.mono R1.out.below.size)
  have FG2 := Lib.hid (hg.mono R1.out.below.size)
  clear hr hb hf hg
  have P1 := Lib.hid (R2.out.put [.int .i64 0, .int .i64 0, .int .i64 0, .int .i64 0, .int .i64 0, .int .i64 0, .int .i64 0, .slice none 0 0, .int .i64 0, .slice none 0 0] 30)
  have Q1 := Lib.hid (Sf.row (pre := []) P1.out [.int .i64 (f 0), .int .i64 (f 1), .int .i64 (f 2), .int .i64 (f 3), .int .i64 (f 4), .int .i64 (f 5), .int .i64 sx2, .slice ax2 nx2 cx2, .int .i64 1, .slice bx2 mx2 dx2])
  go_wp2_with (first | refine wpList_store_row rfl _ _ _ rfl _ #[.int .i64 (f 0), .int .i64 (f 1), .int .i64 (f 2), .int .i64 (f 3), .int .i64 (f 4), .int .i64 (f 5), .int .i64 sx2, .slice ax2 nx2 cx2, .int .i64 1, .slice bx2 mx2 dx2] rfl rfl _ _ (P1.out.box _ List.mem_cons_self) (by kernel_rfl) rfl (by simp [Value.oneCell']) ?_)
  refine (HR2.out _ (HE.out.below Q1.out.below)).mono ?_
  rintro e w3 ⟨sx3, ax3, nx3, cx3, bx3, mx3, dx3, rfl, hr, hb, hf, hg⟩
  have E3 := Lib.hid hr.1.1
  have R3 := Lib.hid (Q1.out.ret2 hb hr.1.2 hf hr.2.2 hg)
  have FF3 := Lib.hid (hf.mono Q1.out.below.size)
  have FG3 := Lib.hid (hg.mono Q1.out.below.size)
  clear hr hb hf hg
  have P2 := Lib.hid (R3.out.put [.int .i64 0, .int .i64 0, .int .i64 0, .int .i64 0, .int .i64 0, .int .i64 0, .int .i64 0, .slice none 0 0, .int .i64 0, .slice none 0 0] 30)
  have Q2 := Lib.hid (Sf.row (pre := []) P2.out [.int .i64 (g 0), .int .i64 (g 1), .int .i64 (g 2), .int .i64 (g 3), .int .i64 (g 4), .int .i64 (g 5), .int .i64 sx3, .slice ax3 nx3 cx3, .int .i64 1, .slice bx3 mx3 dx3])
  go_wp2_with (first | refine wpList_store_row rfl _ _ _ rfl _ #[.int .i64 (g 0), .int .i64 (g 1), .int .i64 (g 2), .int .i64 (g 3), .int .i64 (g 4), .int .i64 (g 5), .int .i64 sx3, .slice ax3 nx3 cx3, .int .i64 1, .slice bx3 mx3 dx3] rfl rfl _ _ (P2.out.box _ List.mem_cons_self) (by kernel_rfl) rfl (by simp [Value.oneCell']) ?_)
  refine (HIT.out _).mono ?_
  rintro e w9 ⟨ai, ci, rfl, hb⟩
  have R9 := Lib.hid (Q2.out.later hb)
  clear hb
  obtain ⟨q3, q4, q5, q6, q7, q8, q9, q10, q11, q12⟩ := Fb.cells10 (R9.out.box (w2.heap.size, 30, [.int .i64 (f 0), .int .i64 (f 1), .int .i64 (f 2), .int .i64 (f 3), .int .i64 (f 4), .int .i64 (f 5), .int .i64 sx2, .slice ax2 nx2 cx2, .int .i64 1, .slice bx2 mx2 dx2]) mq1)
  obtain ⟨q13, q14, q15, q16, q17, q18, q19, q20, q21, q22⟩ := Fb.cells10 (R9.out.box (w3.heap.size, 30, [.int .i64 (g 0), .int .i64 (g 1), .int .i64 (g 2), .int .i64 (g 3), .int .i64 (g 4), .int .i64 (g 5), .int .i64 sx3, .slice ax3 nx3 cx3, .int .i64 1, .slice bx3 mx3 dx3]) mq0)
  go_wp2_with fail
  clear q3 q4 q5 q6 q7 q8 q9 q10 q11 q12 q13 q14 q15 q16 q17 q18 q19 q20 q21 q22
  refine (umul_k (V := G) (R9.out.fr (v := .slice ax2 nx2 cx2) (u := .slice bx2 mx2 dx2) (r := x) mq2 mq3 E2.out) (R9.out.fr (v := .slice ax3 nx3 cx3) (u := .slice bx3 mx3 dx3) (r := y) mq0 mq1 E3.out) LX.out LY.out K1.out K2.out PX.out PY.out HC.out HV.out).mono ?_
  rintro e w10 ⟨sx10, ax10, nx10, cx10, bx10, mx10, dx10, rfl, hr, hb, hf, hg⟩
  have E10 := Lib.hid hr.1.1
  have R10 := Lib.hid (R9.out.ret2 hb hr.1.2 hf hr.2.2 hg)
  have FF10 := Lib.hid (hf.mono R9.out.below.size)
  have FG10 := Lib.hid (hg.mono R9.out.below.size)
  clear hr hb hf hg
  have P23 := Lib.hid (R10.out.put [.int .i64 0, .int .i64 0, .int .i64 0, .int .i64 0, .int .i64 0, .int .i64 0, .int .i64 0, .slice none 0 0, .int .i64 0, .slice none 0 0] 30)
  have Q23 := Lib.hid (Sf.row (pre := []) P23.out [.int .i64 (G 0), .int .i64 (G 1), .int .i64 (G 2), .int .i64 (G 3), .int .i64 (G 4), .int .i64 (G 5), .int .i64 sx10, .slice ax10 nx10 cx10, .int .i64 1, .slice bx10 mx10 dx10])
  go_wp2_with (first | refine wpList_store_row rfl _ _ _ rfl _ #[.int .i64 (G 0), .int .i64 (G 1), .int .i64 (G 2), .int .i64 (G 3), .int .i64 (G 4), .int .i64 (G 5), .int .i64 sx10, .slice ax10 nx10 cx10, .int .i64 1, .slice bx10 mx10 dx10] rfl rfl _ _ (P23.out.box _ List.mem_cons_self) (by kernel_rfl) rfl (by simp [Value.oneCell']) ?_)
  refine (HR3.out _ (HE.out.below Q23.out.below)).mono ?_
  rintro e w11 ⟨sx11, ax11, nx11, cx11, bx11, mx11, dx11, rfl, hr, hb, hf, hg⟩
  have E11 := Lib.hid hr.1.1
  have R11 := Lib.hid (Q23.out.ret2 hb hr.1.2 hf hr.2.2 hg)
  have FF11 := Lib.hid (hf.mono Q23.out.below.size)
  have FG11 := Lib.hid (hg.mono Q23.out.below.size)
  clear hr hb hf hg
  have P24 := Lib.hid (R11.out.put [.int .i64 0, .int .i64 0, .int .i64 0, .int .i64 0, .int .i64 0, .int .i64 0, .int .i64 0, .slice none 0 0, .int .i64 0, .slice none 0 0] 30)
  have Q24 := Lib.hid (Sf.row (pre := []) P24.out [.int .i64 (G 0), .int .i64 (G 1), .int .i64 (G 2), .int .i64 (G 3), .int .i64 (G 4), .int .i64 (G 5), .int .i64 sx11, .slice ax11 nx11 cx11, .int .i64 1, .slice bx11 mx11 dx11])
  obtain ⟨q25, q26, q27, q28, q29, q30, q31, q32, q33, q34⟩ := Fb.cells10 (Q24.out.box (w10.heap.size, 30, [.int .i64 (G 0), .int .i64 (G 1), .int .i64 (G 2), .int .i64 (G 3), .int .i64 (G 4), .int .i64 (G 5), .int .i64 sx10, .slice ax10 nx10 cx10, .int .i64 1, .slice bx10 mx10 dx10]) mq1)
  obtain ⟨q35, q36, q37, q38, q39, q40, q41, q42, q43, q44⟩ := Fb.cells10 (Q24.out.box (w11.heap.size, 30, [.int .i64 (G 0), .int .i64 (G 1), .int .i64 (G 2), .int .i64 (G 3), .int .i64 (G 4), .int .i64 (G 5), .int .i64 sx11, .slice ax11 nx11 cx11, .int .i64 1, .slice bx11 mx11 dx11]) mq0)
  go_wp2_with (first | refine wpList_store_row rfl _ _ _ rfl _ #[.int .i64 (G 0), .int .i64 (G 1), .int .i64 (G 2), .int .i64 (G 3), .int .i64 (G 4), .int .i64 (G 5), .int .i64 sx11, .slice ax11 nx11 cx11, .int .i64 1, .slice bx11 mx11 dx11] rfl rfl _ _ (P24.out.box _ List.mem_cons_self) (by kernel_rfl) rfl (by simp [Value.oneCell']) ?_)
  clear q25 q26 q27 q28 q29 q30 q31 q32 q33 q34 q35 q36 q37 q38 q39 q40 q41 q42 q43 q44
  refine (u9same_k (Q24.out.fr (v := .slice ax10 nx10 cx10) (u := .slice bx10 mx10 dx10) (r := C) mq2 mq3 E10.out) (Q24.out.fr (v := .slice ax11 nx11 cx11) (u := .slice bx11 mx11 dx11) (r := C) mq0 mq1 E11.out) (eqB_refl G) (k := true) (by simp)).mono ?_
  rintro e w12 ⟨rfl, hb⟩
  have R12 := Lib.hid (Q24.out.later hb)
  clear hb
  obtain ⟨q45, q46, q47, q48, q49, q50, q51, q52, q53, q54⟩ := Fb.cells10 (R12.out.box (w2.heap.size, 30, [.int .i64 (f 0), .int .i64 (f 1), .int .i64 (f 2), .int .i64 (f 3), .int .i64 (f 4), .int .i64 (f 5), .int .i64 sx2, .slice ax2 nx2 cx2, .int .i64 1, .slice bx2 mx2 dx2]) mq3)
  obtain ⟨q55, q56, q57, q58, q59, q60, q61, q62, q63, q64⟩ := Fb.cells10 (R12.out.box (w3.heap.size, 30, [.int .i64 (g 0), .int .i64 (g 1), .int .i64 (g 2), .int .i64 (g 3), .int .i64 (g 4), .int .i64 (g 5), .int .i64 sx3, .slice ax3 nx3 cx3, .int .i64 1, .slice bx3 mx3 dx3]) mq2)
  go_wp2_with fail
  clear q45 q46 q47 q48 q49 q50 q51 q52 q53 q54 q55 q56 q57 q58 q59 q60 q61 q62 q63 q64
  refine (udiv_k (V := K) (R12.out.fr (v := .slice ax2 nx2 cx2) (u := .slice bx2 mx2 dx2) (r := x) mq6 mq7 E2.out) (R12.out.fr (v := .slice ax3 nx3 cx3) (u := .slice bx3 mx3 dx3) (r := y) mq4 mq5 E3.out) LX.out LY.out K1.out K2.out PX.out PY.out Y0.out HD.out HV2.out).mono ?_
  rintro e w13 ⟨sx13, ax13, nx13, cx13, bx13, mx13, dx13, rfl, hr, hb, hf, hg⟩
  have E13 := Lib.hid hr.1.1
  have R13 := Lib.hid (R12.out.ret2 hb hr.1.2 hf hr.2.2 hg)
  have FF13 := Lib.hid (hf.mono R12.out.below.size)
  have FG13 := Lib.hid (hg.mono R12.out.below.size)
  clear hr hb hf hg
  have Q65 := Lib.hid (Sf.row (pre := [(w11.heap.size, 30, [.int .i64 (G 0), .int .i64 (G 1), .int .i64 (G 2), .int .i64 (G 3), .int .i64 (G 4), .int .i64 (G 5), .int .i64 sx11, .slice ax11 nx11 cx11, .int .i64 1, .slice bx11 mx11 dx11])]) R13.out [.int .i64 (K 0), .int .i64 (K 1), .int .i64 (K 2), .int .i64 (K 3), .int .i64 (K 4), .int .i64 (K 5), .int .i64 sx13, .slice ax13 nx13 cx13, .int .i64 1, .slice bx13 mx13 dx13])
  go_wp2_with (first | refine wpList_store_row rfl _ _ _ rfl _ #[.int .i64 (K 0), .int .i64 (K 1), .int .i64 (K 2), .int .i64 (K 3), .int .i64 (K 4), .int .i64 (K 5), .int .i64 sx13, .slice ax13 nx13 cx13, .int .i64 1, .slice bx13 mx13 dx13] rfl rfl _ _ (R13.out.box _ mq1) (by kernel_rfl) rfl (by simp [Value.oneCell']) ?_)
  refine (HR4.out _ (HE.out.below Q65.out.below)).mono ?_
  rintro e w14 ⟨sx14, ax14, nx14, cx14, bx14, mx14, dx14, rfl, hr, hb, hf, hg⟩
  have E14 := Lib.hid hr.1.1
  have R14 := Lib.hid (Q65.out.ret2 hb hr.1.2 hf hr.2.2 hg)
  have FF14 := Lib.hid (hf.mono Q65.out.below.size)
  have FG14 := Lib.hid (hg.mono Q65.out.below.size)
  clear hr hb hf hg
  have Q66 := Lib.hid (Sf.row (pre := []) R14.out [.int .i64 (K 0), .int .i64 (K 1), .int .i64 (K 2), .int .i64 (K 3), .int .i64 (K 4), .int .i64 (K 5), .int .i64 sx14, .slice ax14 nx14 cx14, .int .i64 1, .slice bx14 mx14 dx14])
  obtain ⟨q67, q68, q69, q70, q71, q72, q73, q74, q75, q76⟩ := Fb.cells10 (Q66.out.box (w10.heap.size, 30, [.int .i64 (K 0), .int .i64 (K 1), .int .i64 (K 2), .int .i64 (K 3), .int .i64 (K 4), .int .i64 (K 5), .int .i64 sx13, .slice ax13 nx13 cx13, .int .i64 1, .slice bx13 mx13 dx13]) mq1)
  obtain ⟨q77, q78, q79, q80, q81, q82, q83, q84, q85, q86⟩ := Fb.cells10 (Q66.out.box (w11.heap.size, 30, [.int .i64 (K 0), .int .i64 (K 1), .int .i64 (K 2), .int .i64 (K 3), .int .i64 (K 4), .int .i64 (K 5), .int .i64 sx14, .slice ax14 nx14 cx14, .int .i64 1, .slice bx14 mx14 dx14]) mq0)
  go_wp2_with (first | refine wpList_store_row rfl _ _ _ rfl _ #[.int .i64 (K 0), .int .i64 (K 1), .int .i64 (K 2), .int .i64 (K 3), .int .i64 (K 4), .int .i64 (K 5), .int .i64 sx14, .slice ax14 nx14 cx14, .int .i64 1, .slice bx14 mx14 dx14] rfl rfl _ _ (R14.out.box _ mq0) (by kernel_rfl) rfl (by simp [Value.oneCell']) ?_)
  clear q67 q68 q69 q70 q71 q72 q73 q74 q75 q76 q77 q78 q79 q80 q81 q82 q83 q84 q85 q86
  refine (u9same_k (Q66.out.fr (v := .slice ax13 nx13 cx13) (u := .slice bx13 mx13 dx13) (r := D) mq2 mq3 E13.out) (Q66.out.fr (v := .slice ax14 nx14 cx14) (u := .slice bx14 mx14 dx14) (r := D) mq0 mq1 E14.out) (eqB_refl K) (k := true) (by simp)).mono ?_
  rintro e w15 ⟨rfl, hb⟩
  have R15 := Lib.hid (Q66.out.later hb)
  clear hb
  go_wp2_with fail
  go_ret
  exact ⟨rfl, R15.out.below⟩

set_option maxHeartbeats 8000000 in
theorem products_near_far (s t : ByteArray) (hs0 : 0 < s.size) (ht0 : 0 < t.size) (hs : s.size ≤ 40) (ht : t.size ≤ 40) (w : World) (he : EnvU w) (hsum : s.size + t.size ≤ 39) (h49 : t[0] ≠ 49) {l m : List (List UInt8 × Int)} {f g : Nat → Int} {x y : Rat} (i1 : itemsL s.data.toList = some l) (i2 : itemsL t.data.toList = some m) (e1 : evL l zf 1 = some (f, x)) (e2 : evL m zf 1 = some (g, y)) (k1 : ok f = true) (k2 : ok g = true)
    (hm : ok (sumF f g) = true) (hlen : m.length = 1) (hd : ok (difF f g) = false) : Calls Tryz.prog 4 #[.string s, .string t] w fun e w' => e = .returned (.bool true) ∧ RowKit.Below w.heap.size w w' := by
  have HE := Lib.hid he
  have S0 := Lib.hid (Sf.start w)
  have g1 : decide (40 < (s.size : Int)) = false := by simp; omega
  have g1' : decide (40 < s.size) = false := by simp; omega
  have g2 : decide (40 < (t.size : Int)) = false := by simp; omega
  have g2' : decide (40 < t.size) = false := by simp; omega
  obtain ⟨m1, m2, m3, m4, m5⟩ := str_empty s false true (by rw [decide_eq_false_iff_not]; intro e; have := sizeL s; rw [e] at this; simp at this; omega) rfl
  obtain ⟨o1, o2, o3, o4, o5⟩ := str_empty t false true (by rw [decide_eq_false_iff_not]; intro e; have := sizeL t; rw [e] at this; simp at this; omega) rfl
  have hl1 := sizeL s
  have hl2 := sizeL t
  obtain ⟨hb1, hb2⟩ := bytes_head t ht0
  have hb3 : s.data.toList ≠ [] := fun e => by rw [e] at hl1; simp at hl1; omega
  obtain ⟨st1, st2, st3⟩ := read_star hb3 hb2 (fun e => h49 (hb1.2 e)) (by omega) i1 i2 e1 e2
  have HR1 := Lib.hid (fun W he => (uread_any s W he).mono fun _ _ g => read_gives i1 e1 k1 g)
  have HR2 := Lib.hid (fun W he => (uread_any t W he).mono fun _ _ g => read_gives i2 e2 k2 g)
  have HIT : Hid (∀ W, Calls Tryz.prog 24 #[.string t] W fun e w' => ∃ a c, e = .returned (.tuple #[.slice a m.length c, .bool true]) ∧ RowKit.Below W.heap.size W w') := Lib.hid (fun W => (items9_any t W).mono fun _ _ g => by
    unfold ItemsEnd at g; rw [i2] at g
    obtain ⟨a, c, e1, _, hb, _⟩ := g
    exact ⟨a, c, e1, hb⟩)
  have LX := Lib.hid ((ev_size i1 e1).mono (j := 1000))
  have LY := Lib.hid ((ev_size i2 e2).mono (j := 1000))
  have PX := Lib.hid (ev_sign e1)
  have PY := Lib.hid (ev_sign e2)
  have Y0 := Lib.hid (sign_ne PY.out)
  have K1 := Lib.hid k1
  have K2 := Lib.hid k2
  have hw1 : IntKind.i64.wrap ((s.size : Int) + (t.size : Int)) = (s.size : Int) + (t.size : Int) := IntWalk.i64_in _ (by omega)
  have q3 : decide (39 < (s.size : Int) + (t.size : Int)) = false := by simp; omega
  have q4 : ((t[0].toNat : Int) == 49) = false := by
    rw [beq_eq_false_iff_ne]; intro h; exact h49 (UInt8.toNat_inj.1 (show (t[0]).toNat = (49 : UInt8).toNat by have h2 : (t[0]).toNat = 49 := (by omega); exact h2))
  have ad1 : ∀ W : World, (Op.stringOp .add s ⟨#[42]⟩).run Tryz.prog W = .ok (.string ⟨(s.data.toList ++ [42]).toArray⟩) W := fun W => by
    have := run_string_add_lists (P := Tryz.prog) (w := W) s.data.toList [42] (by omega) (by decide)
    rwa [show (⟨s.data.toList.toArray⟩ : ByteArray) = s by apply ByteArray.ext; simp] at this
  have ad2 : ∀ W : World, (Op.stringOp .add ⟨(s.data.toList ++ [42]).toArray⟩ t).run Tryz.prog W = .ok (.string ⟨(s.data.toList ++ 42 :: t.data.toList).toArray⟩) W := fun W => by
    have := run_string_add_lists (P := Tryz.prog) (w := W) (s.data.toList ++ [42]) t.data.toList (by simp; omega) (by omega)
    rw [show (⟨t.data.toList.toArray⟩ : ByteArray) = t by apply ByteArray.ext; simp] at this
    rw [this]; simp
  have HR3 : Hid (∀ W, EnvU W → Calls Tryz.prog 10 #[.string ⟨(s.data.toList ++ 42 :: t.data.toList).toArray⟩] W (UVE (sumF f g) (x * y) 0 W)) := Lib.hid (fun W he => (uread_any ⟨(s.data.toList ++ 42 :: t.data.toList).toArray⟩ W he).mono fun _ _ g => read_gives st1 st2 hm g)
  have HV := Lib.hid (mulR_is k1 k2 hm)
  have ad3 : ∀ W : World, (Op.stringOp .add s ⟨#[47]⟩).run Tryz.prog W = .ok (.string ⟨(s.data.toList ++ [47]).toArray⟩) W := fun W => by
    have := run_string_add_lists (P := Tryz.prog) (w := W) s.data.toList [47] (by omega) (by decide)
    rwa [show (⟨s.data.toList.toArray⟩ : ByteArray) = s by apply ByteArray.ext; simp] at this
  have ad4 : ∀ W : World, (Op.stringOp .add ⟨(s.data.toList ++ [47]).toArray⟩ t).run Tryz.prog W = .ok (.string ⟨(s.data.toList ++ 47 :: t.data.toList).toArray⟩) W := fun W => by
    have := run_string_add_lists (P := Tryz.prog) (w := W) (s.data.toList ++ [47]) t.data.toList (by simp; omega) (by omega)
    rw [show (⟨t.data.toList.toArray⟩ : ByteArray) = t by apply ByteArray.ext; simp] at this
    rw [this]; simp
  obtain ⟨⟨wd, nn⟩, hwn⟩ := List.length_eq_one_iff.1 hlen
  rw [hwn] at i2 e2
  obtain ⟨sl1, sl2⟩ := read_slash hb3 hb2 (fun e => h49 (hb1.2 e)) (by omega) i1 i2 e1 e2
  have HR4 : Hid (∀ W, EnvU W → Calls Tryz.prog 10 #[.string ⟨(s.data.toList ++ 47 :: t.data.toList).toArray⟩] W (UZE 3 W)) := Lib.hid (fun W he => (uread_any ⟨(s.data.toList ++ 47 :: t.data.toList).toArray⟩ W he).mono fun _ _ g => read_fails (by show failsI (s.data.toList ++ 47 :: t.data.toList) = 3; unfold failsI; rw [sl1]; dsimp only; rw [sl2]; dsimp only; rw [hd]; rfl) (by decide) g)
  have HV2 := Lib.hid (divR_far k1 k2 hd)
  obtain ⟨C, hC⟩ : ∃ C, x * y = C := ⟨_, rfl⟩
  have HC := Lib.hid hC
  obtain ⟨G, hG⟩ : ∃ G, sumF f g = G := ⟨_, rfl⟩
  rw [hC, hG] at HR3
  rw [hG] at HV
  obtain ⟨D, hD⟩ : ∃ D, x / y = D := ⟨_, rfl⟩
  have HD := Lib.hid hD
  obtain ⟨T1, hT1⟩ : ∃ T : ByteArray, ⟨(s.data.toList ++ 42 :: t.data.toList).toArray⟩ = T := ⟨_, rfl⟩
  rw [hT1] at ad2 HR3
  obtain ⟨T2, hT2⟩ : ∃ T : ByteArray, ⟨(s.data.toList ++ 47 :: t.data.toList).toArray⟩ = T := ⟨_, rfl⟩
  rw [hT2] at ad4 HR4
  have z0 : ((m.length : Int) == 0) = false := by
    rw [beq_eq_false_iff_ne]; omega
  have z1 : decide (1 < (m.length : Int)) = false := by simp; omega
  have z1' : decide (1 < m.length) = false := by simp; omega
  have z2 : decide (m.length = 0) = false := by simp; omega
  unfold UZE uc at HR4
  go_enter Tryz.func4, Tryz.ntmps4
  go_wp2_with fail
  refine (sane_t _ HE.out).mono ?_
  rintro e w1 ⟨rfl, hb⟩
  have R1 := Lib.hid (S0.out.later hb)
  clear hb
  clear he i1 i2 e1 e2 k1 k2 hm hl1 hl2 hb1 hb2 hb3 st1 st2 st3 hC hT1 hG hd hwn sl1 sl2 hD hT2
  go_wp2_with fail
  refine (HR1.out _ (HE.out.below R1.out.below)).mono ?_
  rintro e w2 ⟨sx2, ax2, nx2, cx2, bx2, mx2, dx2, rfl, hr, hb, hf, hg⟩
  have E2 := Lib.hid hr.1.1
  have R2 := Lib.hid (R1.out.ret2 hb hr.1.2 hf hr.2.2 hg)
  have FF2 := Lib.hid (hf.mono R1.out.below.size)
  have FG2 := Lib.hid (hg.mono R1.out.below.size)
  clear hr hb hf hg
  have P1 := Lib.hid (R2.out.put [.int .i64 0, .int .i64 0, .int .i64 0, .int .i64 0, .int .i64 0, .int .i64 0, .int .i64 0, .slice none 0 0, .int .i64 0, .slice none 0 0] 30)
  have Q1 := Lib.hid (Sf.row (pre := []) P1.out [.int .i64 (f 0), .int .i64 (f 1), .int .i64 (f 2), .int .i64 (f 3), .int .i64 (f 4), .int .i64 (f 5), .int .i64 sx2, .slice ax2 nx2 cx2, .int .i64 1, .slice bx2 mx2 dx2])
  go_wp2_with (first | refine wpList_store_row rfl _ _ _ rfl _ #[.int .i64 (f 0), .int .i64 (f 1), .int .i64 (f 2), .int .i64 (f 3), .int .i64 (f 4), .int .i64 (f 5), .int .i64 sx2, .slice ax2 nx2 cx2, .int .i64 1, .slice bx2 mx2 dx2] rfl rfl _ _ (P1.out.box _ List.mem_cons_self) (by kernel_rfl) rfl (by simp [Value.oneCell']) ?_)
  refine (HR2.out _ (HE.out.below Q1.out.below)).mono ?_
  rintro e w3 ⟨sx3, ax3, nx3, cx3, bx3, mx3, dx3, rfl, hr, hb, hf, hg⟩
  have E3 := Lib.hid hr.1.1
  have R3 := Lib.hid (Q1.out.ret2 hb hr.1.2 hf hr.2.2 hg)
  have FF3 := Lib.hid (hf.mono Q1.out.below.size)
  have FG3 := Lib.hid (hg.mono Q1.out.below.size)
  clear hr hb hf hg
  have P2 := Lib.hid (R3.out.put [.int .i64 0, .int .i64 0, .int .i64 0, .int .i64 0, .int .i64 0, .int .i64 0, .int .i64 0, .slice none 0 0, .int .i64 0, .slice none 0 0] 30)
  have Q2 := Lib.hid (Sf.row (pre := []) P2.out [.int .i64 (g 0), .int .i64 (g 1), .int .i64 (g 2), .int .i64 (g 3), .int .i64 (g 4), .int .i64 (g 5), .int .i64 sx3, .slice ax3 nx3 cx3, .int .i64 1, .slice bx3 mx3 dx3])
  go_wp2_with (first | refine wpList_store_row rfl _ _ _ rfl _ #[.int .i64 (g 0), .int .i64 (g 1), .int .i64 (g 2), .int .i64 (g 3), .int .i64 (g 4), .int .i64 (g 5), .int .i64 sx3, .slice ax3 nx3 cx3, .int .i64 1, .slice bx3 mx3 dx3] rfl rfl _ _ (P2.out.box _ List.mem_cons_self) (by kernel_rfl) rfl (by simp [Value.oneCell']) ?_)
  refine (HIT.out _).mono ?_
  rintro e w9 ⟨ai, ci, rfl, hb⟩
  have R9 := Lib.hid (Q2.out.later hb)
  clear hb
  obtain ⟨q3, q4, q5, q6, q7, q8, q9, q10, q11, q12⟩ := Fb.cells10 (R9.out.box (w2.heap.size, 30, [.int .i64 (f 0), .int .i64 (f 1), .int .i64 (f 2), .int .i64 (f 3), .int .i64 (f 4), .int .i64 (f 5), .int .i64 sx2, .slice ax2 nx2 cx2, .int .i64 1, .slice bx2 mx2 dx2]) mq1)
  obtain ⟨q13, q14, q15, q16, q17, q18, q19, q20, q21, q22⟩ := Fb.cells10 (R9.out.box (w3.heap.size, 30, [.int .i64 (g 0), .int .i64 (g 1), .int .i64 (g 2), .int .i64 (g 3), .int .i64 (g 4), .int .i64 (g 5), .int .i64 sx3, .slice ax3 nx3 cx3, .int .i64 1, .slice bx3 mx3 dx3]) mq0)
  go_wp2_with fail
  clear q3 q4 q5 q6 q7 q8 q9 q10 q11 q12 q13 q14 q15 q16 q17 q18 q19 q20 q21 q22
  refine (umul_k (V := G) (R9.out.fr (v := .slice ax2 nx2 cx2) (u := .slice bx2 mx2 dx2) (r := x) mq2 mq3 E2.out) (R9.out.fr (v := .slice ax3 nx3 cx3) (u := .slice bx3 mx3 dx3) (r := y) mq0 mq1 E3.out) LX.out LY.out K1.out K2.out PX.out PY.out HC.out HV.out).mono ?_
  rintro e w10 ⟨sx10, ax10, nx10, cx10, bx10, mx10, dx10, rfl, hr, hb, hf, hg⟩
  have E10 := Lib.hid hr.1.1
  have R10 := Lib.hid (R9.out.ret2 hb hr.1.2 hf hr.2.2 hg)
  have FF10 := Lib.hid (hf.mono R9.out.below.size)
  have FG10 := Lib.hid (hg.mono R9.out.below.size)
  clear hr hb hf hg
  have P23 := Lib.hid (R10.out.put [.int .i64 0, .int .i64 0, .int .i64 0, .int .i64 0, .int .i64 0, .int .i64 0, .int .i64 0, .slice none 0 0, .int .i64 0, .slice none 0 0] 30)
  have Q23 := Lib.hid (Sf.row (pre := []) P23.out [.int .i64 (G 0), .int .i64 (G 1), .int .i64 (G 2), .int .i64 (G 3), .int .i64 (G 4), .int .i64 (G 5), .int .i64 sx10, .slice ax10 nx10 cx10, .int .i64 1, .slice bx10 mx10 dx10])
  go_wp2_with (first | refine wpList_store_row rfl _ _ _ rfl _ #[.int .i64 (G 0), .int .i64 (G 1), .int .i64 (G 2), .int .i64 (G 3), .int .i64 (G 4), .int .i64 (G 5), .int .i64 sx10, .slice ax10 nx10 cx10, .int .i64 1, .slice bx10 mx10 dx10] rfl rfl _ _ (P23.out.box _ List.mem_cons_self) (by kernel_rfl) rfl (by simp [Value.oneCell']) ?_)
  refine (HR3.out _ (HE.out.below Q23.out.below)).mono ?_
  rintro e w11 ⟨sx11, ax11, nx11, cx11, bx11, mx11, dx11, rfl, hr, hb, hf, hg⟩
  have E11 := Lib.hid hr.1.1
  have R11 := Lib.hid (Q23.out.ret2 hb hr.1.2 hf hr.2.2 hg)
  have FF11 := Lib.hid (hf.mono Q23.out.below.size)
  have FG11 := Lib.hid (hg.mono Q23.out.below.size)
  clear hr hb hf hg
  have P24 := Lib.hid (R11.out.put [.int .i64 0, .int .i64 0, .int .i64 0, .int .i64 0, .int .i64 0, .int .i64 0, .int .i64 0, .slice none 0 0, .int .i64 0, .slice none 0 0] 30)
  have Q24 := Lib.hid (Sf.row (pre := []) P24.out [.int .i64 (G 0), .int .i64 (G 1), .int .i64 (G 2), .int .i64 (G 3), .int .i64 (G 4), .int .i64 (G 5), .int .i64 sx11, .slice ax11 nx11 cx11, .int .i64 1, .slice bx11 mx11 dx11])
  obtain ⟨q25, q26, q27, q28, q29, q30, q31, q32, q33, q34⟩ := Fb.cells10 (Q24.out.box (w10.heap.size, 30, [.int .i64 (G 0), .int .i64 (G 1), .int .i64 (G 2), .int .i64 (G 3), .int .i64 (G 4), .int .i64 (G 5), .int .i64 sx10, .slice ax10 nx10 cx10, .int .i64 1, .slice bx10 mx10 dx10]) mq1)
  obtain ⟨q35, q36, q37, q38, q39, q40, q41, q42, q43, q44⟩ := Fb.cells10 (Q24.out.box (w11.heap.size, 30, [.int .i64 (G 0), .int .i64 (G 1), .int .i64 (G 2), .int .i64 (G 3), .int .i64 (G 4), .int .i64 (G 5), .int .i64 sx11, .slice ax11 nx11 cx11, .int .i64 1, .slice bx11 mx11 dx11]) mq0)
  go_wp2_with (first | refine wpList_store_row rfl _ _ _ rfl _ #[.int .i64 (G 0), .int .i64 (G 1), .int .i64 (G 2), .int .i64 (G 3), .int .i64 (G 4), .int .i64 (G 5), .int .i64 sx11, .slice ax11 nx11 cx11, .int .i64 1, .slice bx11 mx11 dx11] rfl rfl _ _ (P24.out.box _ List.mem_cons_self) (by kernel_rfl) rfl (by simp [Value.oneCell']) ?_)
  clear q25 q26 q27 q28 q29 q30 q31 q32 q33 q34 q35 q36 q37 q38 q39 q40 q41 q42 q43 q44
  refine (u9same_k (Q24.out.fr (v := .slice ax10 nx10 cx10) (u := .slice bx10 mx10 dx10) (r := C) mq2 mq3 E10.out) (Q24.out.fr (v := .slice ax11 nx11 cx11) (u := .slice bx11 mx11 dx11) (r := C) mq0 mq1 E11.out) (eqB_refl G) (k := true) (by simp)).mono ?_
  rintro e w12 ⟨rfl, hb⟩
  have R12 := Lib.hid (Q24.out.later hb)
  clear hb
  obtain ⟨q45, q46, q47, q48, q49, q50, q51, q52, q53, q54⟩ := Fb.cells10 (R12.out.box (w2.heap.size, 30, [.int .i64 (f 0), .int .i64 (f 1), .int .i64 (f 2), .int .i64 (f 3), .int .i64 (f 4), .int .i64 (f 5), .int .i64 sx2, .slice ax2 nx2 cx2, .int .i64 1, .slice bx2 mx2 dx2]) mq3)
  obtain ⟨q55, q56, q57, q58, q59, q60, q61, q62, q63, q64⟩ := Fb.cells10 (R12.out.box (w3.heap.size, 30, [.int .i64 (g 0), .int .i64 (g 1), .int .i64 (g 2), .int .i64 (g 3), .int .i64 (g 4), .int .i64 (g 5), .int .i64 sx3, .slice ax3 nx3 cx3, .int .i64 1, .slice bx3 mx3 dx3]) mq2)
  go_wp2_with fail
  clear q45 q46 q47 q48 q49 q50 q51 q52 q53 q54 q55 q56 q57 q58 q59 q60 q61 q62 q63 q64
  refine (udiv_far (R12.out.fr (v := .slice ax2 nx2 cx2) (u := .slice bx2 mx2 dx2) (r := x) mq6 mq7 E2.out) (R12.out.fr (v := .slice ax3 nx3 cx3) (u := .slice bx3 mx3 dx3) (r := y) mq4 mq5 E3.out) LX.out LY.out K1.out K2.out PX.out PY.out Y0.out HD.out HV2.out).mono ?_
  rintro e w13 ⟨rfl, hb⟩
  have R13 := Lib.hid (R12.out.later hb)
  clear hb
  have Q65 := Lib.hid (Sf.row (pre := [(w11.heap.size, 30, [.int .i64 (G 0), .int .i64 (G 1), .int .i64 (G 2), .int .i64 (G 3), .int .i64 (G 4), .int .i64 (G 5), .int .i64 sx11, .slice ax11 nx11 cx11, .int .i64 1, .slice bx11 mx11 dx11])]) R13.out [.int .i64 (zf 0), .int .i64 (zf 1), .int .i64 (zf 2), .int .i64 (zf 3), .int .i64 (zf 4), .int .i64 (zf 5), .int .i64 0, .slice none 0 0, .int .i64 0, .slice none 0 0])
  go_wp2_with (first | refine wpList_store_row rfl _ _ _ rfl _ #[.int .i64 (zf 0), .int .i64 (zf 1), .int .i64 (zf 2), .int .i64 (zf 3), .int .i64 (zf 4), .int .i64 (zf 5), .int .i64 0, .slice none 0 0, .int .i64 0, .slice none 0 0] rfl rfl _ _ (R13.out.box _ mq1) (by kernel_rfl) rfl (by simp [Value.oneCell']) ?_)
  refine (HR4.out _ (HE.out.below Q65.out.below)).mono ?_
  rintro e w14 ⟨rfl, hb⟩
  have R14 := Lib.hid (Q65.out.later hb)
  clear hb
  have Q66 := Lib.hid (Sf.row (pre := []) R14.out [.int .i64 (zf 0), .int .i64 (zf 1), .int .i64 (zf 2), .int .i64 (zf 3), .int .i64 (zf 4), .int .i64 (zf 5), .int .i64 0, .slice none 0 0, .int .i64 0, .slice none 0 0])
  obtain ⟨q67, q68, q69, q70, q71, q72, q73, q74, q75, q76⟩ := Fb.cells10 (Q66.out.box (w10.heap.size, 30, [.int .i64 (zf 0), .int .i64 (zf 1), .int .i64 (zf 2), .int .i64 (zf 3), .int .i64 (zf 4), .int .i64 (zf 5), .int .i64 0, .slice none 0 0, .int .i64 0, .slice none 0 0]) mq1)
  obtain ⟨q77, q78, q79, q80, q81, q82, q83, q84, q85, q86⟩ := Fb.cells10 (Q66.out.box (w11.heap.size, 30, [.int .i64 (zf 0), .int .i64 (zf 1), .int .i64 (zf 2), .int .i64 (zf 3), .int .i64 (zf 4), .int .i64 (zf 5), .int .i64 0, .slice none 0 0, .int .i64 0, .slice none 0 0]) mq0)
  go_wp2_with (first | refine wpList_store_row rfl _ _ _ rfl _ #[.int .i64 (zf 0), .int .i64 (zf 1), .int .i64 (zf 2), .int .i64 (zf 3), .int .i64 (zf 4), .int .i64 (zf 5), .int .i64 0, .slice none 0 0, .int .i64 0, .slice none 0 0] rfl rfl _ _ (R14.out.box _ mq0) (by kernel_rfl) rfl (by simp [Value.oneCell']) ?_)
  clear q67 q68 q69 q70 q71 q72 q73 q74 q75 q76 q77 q78 q79 q80 q81 q82 q83 q84 q85 q86
  refine (u9same_zz zf _).mono ?_
  rintro e w15 ⟨rfl, hb⟩
  have R15 := Lib.hid (Q66.out.later hb)
  clear hb
  go_wp2_with fail
  go_ret
  exact ⟨rfl, R15.out.below⟩

set_option maxHeartbeats 8000000 in
theorem products_far_more (s t : ByteArray) (hs0 : 0 < s.size) (ht0 : 0 < t.size) (hs : s.size ≤ 40) (ht : t.size ≤ 40) (w : World) (he : EnvU w) (hsum : s.size + t.size ≤ 39) (h49 : t[0] ≠ 49) {l m : List (List UInt8 × Int)} {f g : Nat → Int} {x y : Rat} (i1 : itemsL s.data.toList = some l) (i2 : itemsL t.data.toList = some m) (e1 : evL l zf 1 = some (f, x)) (e2 : evL m zf 1 = some (g, y)) (k1 : ok f = true) (k2 : ok g = true)
    (hm : ok (sumF f g) = false) (hlen : 1 < m.length) : Calls Tryz.prog 4 #[.string s, .string t] w fun e w' => e = .returned (.bool true) ∧ RowKit.Below w.heap.size w w' := by
  have HE := Lib.hid he
  have S0 := Lib.hid (Sf.start w)
  have g1 : decide (40 < (s.size : Int)) = false := by simp; omega
  have g1' : decide (40 < s.size) = false := by simp; omega
  have g2 : decide (40 < (t.size : Int)) = false := by simp; omega
  have g2' : decide (40 < t.size) = false := by simp; omega
  obtain ⟨m1, m2, m3, m4, m5⟩ := str_empty s false true (by rw [decide_eq_false_iff_not]; intro e; have := sizeL s; rw [e] at this; simp at this; omega) rfl
  obtain ⟨o1, o2, o3, o4, o5⟩ := str_empty t false true (by rw [decide_eq_false_iff_not]; intro e; have := sizeL t; rw [e] at this; simp at this; omega) rfl
  have hl1 := sizeL s
  have hl2 := sizeL t
  obtain ⟨hb1, hb2⟩ := bytes_head t ht0
  have hb3 : s.data.toList ≠ [] := fun e => by rw [e] at hl1; simp at hl1; omega
  obtain ⟨st1, st2, st3⟩ := read_star hb3 hb2 (fun e => h49 (hb1.2 e)) (by omega) i1 i2 e1 e2
  have HR1 := Lib.hid (fun W he => (uread_any s W he).mono fun _ _ g => read_gives i1 e1 k1 g)
  have HR2 := Lib.hid (fun W he => (uread_any t W he).mono fun _ _ g => read_gives i2 e2 k2 g)
  have HIT : Hid (∀ W, Calls Tryz.prog 24 #[.string t] W fun e w' => ∃ a c, e = .returned (.tuple #[.slice a m.length c, .bool true]) ∧ RowKit.Below W.heap.size W w') := Lib.hid (fun W => (items9_any t W).mono fun _ _ g => by
    unfold ItemsEnd at g; rw [i2] at g
    obtain ⟨a, c, e1, _, hb, _⟩ := g
    exact ⟨a, c, e1, hb⟩)
  have LX := Lib.hid ((ev_size i1 e1).mono (j := 1000))
  have LY := Lib.hid ((ev_size i2 e2).mono (j := 1000))
  have PX := Lib.hid (ev_sign e1)
  have PY := Lib.hid (ev_sign e2)
  have Y0 := Lib.hid (sign_ne PY.out)
  have K1 := Lib.hid k1
  have K2 := Lib.hid k2
  have hw1 : IntKind.i64.wrap ((s.size : Int) + (t.size : Int)) = (s.size : Int) + (t.size : Int) := IntWalk.i64_in _ (by omega)
  have q3 : decide (39 < (s.size : Int) + (t.size : Int)) = false := by simp; omega
  have q4 : ((t[0].toNat : Int) == 49) = false := by
    rw [beq_eq_false_iff_ne]; intro h; exact h49 (UInt8.toNat_inj.1 (show (t[0]).toNat = (49 : UInt8).toNat by have h2 : (t[0]).toNat = 49 := (by omega); exact h2))
  have ad1 : ∀ W : World, (Op.stringOp .add s ⟨#[42]⟩).run Tryz.prog W = .ok (.string ⟨(s.data.toList ++ [42]).toArray⟩) W := fun W => by
    have := run_string_add_lists (P := Tryz.prog) (w := W) s.data.toList [42] (by omega) (by decide)
    rwa [show (⟨s.data.toList.toArray⟩ : ByteArray) = s by apply ByteArray.ext; simp] at this
  have ad2 : ∀ W : World, (Op.stringOp .add ⟨(s.data.toList ++ [42]).toArray⟩ t).run Tryz.prog W = .ok (.string ⟨(s.data.toList ++ 42 :: t.data.toList).toArray⟩) W := fun W => by
    have := run_string_add_lists (P := Tryz.prog) (w := W) (s.data.toList ++ [42]) t.data.toList (by simp; omega) (by omega)
    rw [show (⟨t.data.toList.toArray⟩ : ByteArray) = t by apply ByteArray.ext; simp] at this
    rw [this]; simp
  have HR3 : Hid (∀ W, EnvU W → Calls Tryz.prog 10 #[.string ⟨(s.data.toList ++ 42 :: t.data.toList).toArray⟩] W (UZE 3 W)) := Lib.hid (fun W he => (uread_any ⟨(s.data.toList ++ 42 :: t.data.toList).toArray⟩ W he).mono fun _ _ g => read_fails (by show failsI (s.data.toList ++ 42 :: t.data.toList) = 3; unfold failsI; rw [st1]; dsimp only; rw [st2]; dsimp only; rw [hm]; rfl) (by decide) g)
  have HV := Lib.hid (mulR_far k1 k2 hm)
  obtain ⟨C, hC⟩ : ∃ C, x * y = C := ⟨_, rfl⟩
  have HC := Lib.hid hC
  obtain ⟨T1, hT1⟩ : ∃ T : ByteArray, ⟨(s.data.toList ++ 42 :: t.data.toList).toArray⟩ = T := ⟨_, rfl⟩
  rw [hT1] at ad2 HR3
  have z0 : ((m.length : Int) == 0) = false := by
    rw [beq_eq_false_iff_ne]; omega
  have z1 : decide (1 < (m.length : Int)) = true := by simp; omega
  have z1' : decide (1 < m.length) = true := by simp; omega
  have z2 : decide (m.length = 0) = false := by simp; omega
  unfold UZE uc at HR3
  go_enter Tryz.func4, Tryz.ntmps4
  go_wp2_with fail
  refine (sane_t _ HE.out).mono ?_
  rintro e w1 ⟨rfl, hb⟩
  have R1 := Lib.hid (S0.out.later hb)
  clear hb
  clear he i1 i2 e1 e2 k1 k2 hm hl1 hl2 hb1 hb2 hb3 st1 st2 st3 hC hT1
  go_wp2_with fail
  refine (HR1.out _ (HE.out.below R1.out.below)).mono ?_
  rintro e w2 ⟨sx2, ax2, nx2, cx2, bx2, mx2, dx2, rfl, hr, hb, hf, hg⟩
  have E2 := Lib.hid hr.1.1
  have R2 := Lib.hid (R1.out.ret2 hb hr.1.2 hf hr.2.2 hg)
  have FF2 := Lib.hid (hf.mono R1.out.below.size)
  have FG2 := Lib.hid (hg.mono R1.out.below.size)
  clear hr hb hf hg
  have P1 := Lib.hid (R2.out.put [.int .i64 0, .int .i64 0, .int .i64 0, .int .i64 0, .int .i64 0, .int .i64 0, .int .i64 0, .slice none 0 0, .int .i64 0, .slice none 0 0] 30)
  have Q1 := Lib.hid (Sf.row (pre := []) P1.out [.int .i64 (f 0), .int .i64 (f 1), .int .i64 (f 2), .int .i64 (f 3), .int .i64 (f 4), .int .i64 (f 5), .int .i64 sx2, .slice ax2 nx2 cx2, .int .i64 1, .slice bx2 mx2 dx2])
  go_wp2_with (first | refine wpList_store_row rfl _ _ _ rfl _ #[.int .i64 (f 0), .int .i64 (f 1), .int .i64 (f 2), .int .i64 (f 3), .int .i64 (f 4), .int .i64 (f 5), .int .i64 sx2, .slice ax2 nx2 cx2, .int .i64 1, .slice bx2 mx2 dx2] rfl rfl _ _ (P1.out.box _ List.mem_cons_self) (by kernel_rfl) rfl (by simp [Value.oneCell']) ?_)
  refine (HR2.out _ (HE.out.below Q1.out.below)).mono ?_
  rintro e w3 ⟨sx3, ax3, nx3, cx3, bx3, mx3, dx3, rfl, hr, hb, hf, hg⟩
  have E3 := Lib.hid hr.1.1
  have R3 := Lib.hid (Q1.out.ret2 hb hr.1.2 hf hr.2.2 hg)
  have FF3 := Lib.hid (hf.mono Q1.out.below.size)
  have FG3 := Lib.hid (hg.mono Q1.out.below.size)
  clear hr hb hf hg
  have P2 := Lib.hid (R3.out.put [.int .i64 0, .int .i64 0, .int .i64 0, .int .i64 0, .int .i64 0, .int .i64 0, .int .i64 0, .slice none 0 0, .int .i64 0, .slice none 0 0] 30)
  have Q2 := Lib.hid (Sf.row (pre := []) P2.out [.int .i64 (g 0), .int .i64 (g 1), .int .i64 (g 2), .int .i64 (g 3), .int .i64 (g 4), .int .i64 (g 5), .int .i64 sx3, .slice ax3 nx3 cx3, .int .i64 1, .slice bx3 mx3 dx3])
  go_wp2_with (first | refine wpList_store_row rfl _ _ _ rfl _ #[.int .i64 (g 0), .int .i64 (g 1), .int .i64 (g 2), .int .i64 (g 3), .int .i64 (g 4), .int .i64 (g 5), .int .i64 sx3, .slice ax3 nx3 cx3, .int .i64 1, .slice bx3 mx3 dx3] rfl rfl _ _ (P2.out.box _ List.mem_cons_self) (by kernel_rfl) rfl (by simp [Value.oneCell']) ?_)
  refine (HIT.out _).mono ?_
  rintro e w9 ⟨ai, ci, rfl, hb⟩
  have R9 := Lib.hid (Q2.out.later hb)
  clear hb
  obtain ⟨q3, q4, q5, q6, q7, q8, q9, q10, q11, q12⟩ := Fb.cells10 (R9.out.box (w2.heap.size, 30, [.int .i64 (f 0), .int .i64 (f 1), .int .i64 (f 2), .int .i64 (f 3), .int .i64 (f 4), .int .i64 (f 5), .int .i64 sx2, .slice ax2 nx2 cx2, .int .i64 1, .slice bx2 mx2 dx2]) mq1)
  obtain ⟨q13, q14, q15, q16, q17, q18, q19, q20, q21, q22⟩ := Fb.cells10 (R9.out.box (w3.heap.size, 30, [.int .i64 (g 0), .int .i64 (g 1), .int .i64 (g 2), .int .i64 (g 3), .int .i64 (g 4), .int .i64 (g 5), .int .i64 sx3, .slice ax3 nx3 cx3, .int .i64 1, .slice bx3 mx3 dx3]) mq0)
  go_wp2_with fail
  clear q3 q4 q5 q6 q7 q8 q9 q10 q11 q12 q13 q14 q15 q16 q17 q18 q19 q20 q21 q22
  refine (umul_far (R9.out.fr (v := .slice ax2 nx2 cx2) (u := .slice bx2 mx2 dx2) (r := x) mq2 mq3 E2.out) (R9.out.fr (v := .slice ax3 nx3 cx3) (u := .slice bx3 mx3 dx3) (r := y) mq0 mq1 E3.out) LX.out LY.out K1.out K2.out PX.out PY.out HC.out HV.out).mono ?_
  rintro e w10 ⟨rfl, hb⟩
  have R10 := Lib.hid (R9.out.later hb)
  clear hb
  have P23 := Lib.hid (R10.out.put [.int .i64 0, .int .i64 0, .int .i64 0, .int .i64 0, .int .i64 0, .int .i64 0, .int .i64 0, .slice none 0 0, .int .i64 0, .slice none 0 0] 30)
  have Q23 := Lib.hid (Sf.row (pre := []) P23.out [.int .i64 (zf 0), .int .i64 (zf 1), .int .i64 (zf 2), .int .i64 (zf 3), .int .i64 (zf 4), .int .i64 (zf 5), .int .i64 0, .slice none 0 0, .int .i64 0, .slice none 0 0])
  go_wp2_with (first | refine wpList_store_row rfl _ _ _ rfl _ #[.int .i64 (zf 0), .int .i64 (zf 1), .int .i64 (zf 2), .int .i64 (zf 3), .int .i64 (zf 4), .int .i64 (zf 5), .int .i64 0, .slice none 0 0, .int .i64 0, .slice none 0 0] rfl rfl _ _ (P23.out.box _ List.mem_cons_self) (by kernel_rfl) rfl (by simp [Value.oneCell']) ?_)
  refine (HR3.out _ (HE.out.below Q23.out.below)).mono ?_
  rintro e w11 ⟨rfl, hb⟩
  have R11 := Lib.hid (Q23.out.later hb)
  clear hb
  have P24 := Lib.hid (R11.out.put [.int .i64 0, .int .i64 0, .int .i64 0, .int .i64 0, .int .i64 0, .int .i64 0, .int .i64 0, .slice none 0 0, .int .i64 0, .slice none 0 0] 30)
  have Q24 := Lib.hid (Sf.row (pre := []) P24.out [.int .i64 (zf 0), .int .i64 (zf 1), .int .i64 (zf 2), .int .i64 (zf 3), .int .i64 (zf 4), .int .i64 (zf 5), .int .i64 0, .slice none 0 0, .int .i64 0, .slice none 0 0])
  obtain ⟨q25, q26, q27, q28, q29, q30, q31, q32, q33, q34⟩ := Fb.cells10 (Q24.out.box (w10.heap.size, 30, [.int .i64 (zf 0), .int .i64 (zf 1), .int .i64 (zf 2), .int .i64 (zf 3), .int .i64 (zf 4), .int .i64 (zf 5), .int .i64 0, .slice none 0 0, .int .i64 0, .slice none 0 0]) mq1)
  obtain ⟨q35, q36, q37, q38, q39, q40, q41, q42, q43, q44⟩ := Fb.cells10 (Q24.out.box (w11.heap.size, 30, [.int .i64 (zf 0), .int .i64 (zf 1), .int .i64 (zf 2), .int .i64 (zf 3), .int .i64 (zf 4), .int .i64 (zf 5), .int .i64 0, .slice none 0 0, .int .i64 0, .slice none 0 0]) mq0)
  go_wp2_with (first | refine wpList_store_row rfl _ _ _ rfl _ #[.int .i64 (zf 0), .int .i64 (zf 1), .int .i64 (zf 2), .int .i64 (zf 3), .int .i64 (zf 4), .int .i64 (zf 5), .int .i64 0, .slice none 0 0, .int .i64 0, .slice none 0 0] rfl rfl _ _ (P24.out.box _ List.mem_cons_self) (by kernel_rfl) rfl (by simp [Value.oneCell']) ?_)
  clear q25 q26 q27 q28 q29 q30 q31 q32 q33 q34 q35 q36 q37 q38 q39 q40 q41 q42 q43 q44
  refine (u9same_zz zf _).mono ?_
  rintro e w12 ⟨rfl, hb⟩
  have R12 := Lib.hid (Q24.out.later hb)
  clear hb
  go_wp2_with fail
  go_ret
  exact ⟨rfl, R12.out.below⟩

set_option maxHeartbeats 8000000 in
theorem products_far_near (s t : ByteArray) (hs0 : 0 < s.size) (ht0 : 0 < t.size) (hs : s.size ≤ 40) (ht : t.size ≤ 40) (w : World) (he : EnvU w) (hsum : s.size + t.size ≤ 39) (h49 : t[0] ≠ 49) {l m : List (List UInt8 × Int)} {f g : Nat → Int} {x y : Rat} (i1 : itemsL s.data.toList = some l) (i2 : itemsL t.data.toList = some m) (e1 : evL l zf 1 = some (f, x)) (e2 : evL m zf 1 = some (g, y)) (k1 : ok f = true) (k2 : ok g = true)
    (hm : ok (sumF f g) = false) (hlen : m.length = 1) (hd : ok (difF f g) = true) : Calls Tryz.prog 4 #[.string s, .string t] w fun e w' => e = .returned (.bool true) ∧ RowKit.Below w.heap.size w w' := by
  have HE := Lib.hid he
  have S0 := Lib.hid (Sf.start w)
  have g1 : decide (40 < (s.size : Int)) = false := by simp; omega
  have g1' : decide (40 < s.size) = false := by simp; omega
  have g2 : decide (40 < (t.size : Int)) = false := by simp; omega
  have g2' : decide (40 < t.size) = false := by simp; omega
  obtain ⟨m1, m2, m3, m4, m5⟩ := str_empty s false true (by rw [decide_eq_false_iff_not]; intro e; have := sizeL s; rw [e] at this; simp at this; omega) rfl
  obtain ⟨o1, o2, o3, o4, o5⟩ := str_empty t false true (by rw [decide_eq_false_iff_not]; intro e; have := sizeL t; rw [e] at this; simp at this; omega) rfl
  have hl1 := sizeL s
  have hl2 := sizeL t
  obtain ⟨hb1, hb2⟩ := bytes_head t ht0
  have hb3 : s.data.toList ≠ [] := fun e => by rw [e] at hl1; simp at hl1; omega
  obtain ⟨st1, st2, st3⟩ := read_star hb3 hb2 (fun e => h49 (hb1.2 e)) (by omega) i1 i2 e1 e2
  have HR1 := Lib.hid (fun W he => (uread_any s W he).mono fun _ _ g => read_gives i1 e1 k1 g)
  have HR2 := Lib.hid (fun W he => (uread_any t W he).mono fun _ _ g => read_gives i2 e2 k2 g)
  have HIT : Hid (∀ W, Calls Tryz.prog 24 #[.string t] W fun e w' => ∃ a c, e = .returned (.tuple #[.slice a m.length c, .bool true]) ∧ RowKit.Below W.heap.size W w') := Lib.hid (fun W => (items9_any t W).mono fun _ _ g => by
    unfold ItemsEnd at g; rw [i2] at g
    obtain ⟨a, c, e1, _, hb, _⟩ := g
    exact ⟨a, c, e1, hb⟩)
  have LX := Lib.hid ((ev_size i1 e1).mono (j := 1000))
  have LY := Lib.hid ((ev_size i2 e2).mono (j := 1000))
  have PX := Lib.hid (ev_sign e1)
  have PY := Lib.hid (ev_sign e2)
  have Y0 := Lib.hid (sign_ne PY.out)
  have K1 := Lib.hid k1
  have K2 := Lib.hid k2
  have hw1 : IntKind.i64.wrap ((s.size : Int) + (t.size : Int)) = (s.size : Int) + (t.size : Int) := IntWalk.i64_in _ (by omega)
  have q3 : decide (39 < (s.size : Int) + (t.size : Int)) = false := by simp; omega
  have q4 : ((t[0].toNat : Int) == 49) = false := by
    rw [beq_eq_false_iff_ne]; intro h; exact h49 (UInt8.toNat_inj.1 (show (t[0]).toNat = (49 : UInt8).toNat by have h2 : (t[0]).toNat = 49 := (by omega); exact h2))
  have ad1 : ∀ W : World, (Op.stringOp .add s ⟨#[42]⟩).run Tryz.prog W = .ok (.string ⟨(s.data.toList ++ [42]).toArray⟩) W := fun W => by
    have := run_string_add_lists (P := Tryz.prog) (w := W) s.data.toList [42] (by omega) (by decide)
    rwa [show (⟨s.data.toList.toArray⟩ : ByteArray) = s by apply ByteArray.ext; simp] at this
  have ad2 : ∀ W : World, (Op.stringOp .add ⟨(s.data.toList ++ [42]).toArray⟩ t).run Tryz.prog W = .ok (.string ⟨(s.data.toList ++ 42 :: t.data.toList).toArray⟩) W := fun W => by
    have := run_string_add_lists (P := Tryz.prog) (w := W) (s.data.toList ++ [42]) t.data.toList (by simp; omega) (by omega)
    rw [show (⟨t.data.toList.toArray⟩ : ByteArray) = t by apply ByteArray.ext; simp] at this
    rw [this]; simp
  have HR3 : Hid (∀ W, EnvU W → Calls Tryz.prog 10 #[.string ⟨(s.data.toList ++ 42 :: t.data.toList).toArray⟩] W (UZE 3 W)) := Lib.hid (fun W he => (uread_any ⟨(s.data.toList ++ 42 :: t.data.toList).toArray⟩ W he).mono fun _ _ g => read_fails (by show failsI (s.data.toList ++ 42 :: t.data.toList) = 3; unfold failsI; rw [st1]; dsimp only; rw [st2]; dsimp only; rw [hm]; rfl) (by decide) g)
  have HV := Lib.hid (mulR_far k1 k2 hm)
  have ad3 : ∀ W : World, (Op.stringOp .add s ⟨#[47]⟩).run Tryz.prog W = .ok (.string ⟨(s.data.toList ++ [47]).toArray⟩) W := fun W => by
    have := run_string_add_lists (P := Tryz.prog) (w := W) s.data.toList [47] (by omega) (by decide)
    rwa [show (⟨s.data.toList.toArray⟩ : ByteArray) = s by apply ByteArray.ext; simp] at this
  have ad4 : ∀ W : World, (Op.stringOp .add ⟨(s.data.toList ++ [47]).toArray⟩ t).run Tryz.prog W = .ok (.string ⟨(s.data.toList ++ 47 :: t.data.toList).toArray⟩) W := fun W => by
    have := run_string_add_lists (P := Tryz.prog) (w := W) (s.data.toList ++ [47]) t.data.toList (by simp; omega) (by omega)
    rw [show (⟨t.data.toList.toArray⟩ : ByteArray) = t by apply ByteArray.ext; simp] at this
    rw [this]; simp
  obtain ⟨⟨wd, nn⟩, hwn⟩ := List.length_eq_one_iff.1 hlen
  rw [hwn] at i2 e2
  obtain ⟨sl1, sl2⟩ := read_slash hb3 hb2 (fun e => h49 (hb1.2 e)) (by omega) i1 i2 e1 e2
  have HR4 : Hid (∀ W, EnvU W → Calls Tryz.prog 10 #[.string ⟨(s.data.toList ++ 47 :: t.data.toList).toArray⟩] W (UVE (difF f g) (x / y) 0 W)) := Lib.hid (fun W he => (uread_any ⟨(s.data.toList ++ 47 :: t.data.toList).toArray⟩ W he).mono fun _ _ g => read_gives sl1 sl2 hd g)
  have HV2 := Lib.hid (divR_is k1 k2 hd)
  obtain ⟨C, hC⟩ : ∃ C, x * y = C := ⟨_, rfl⟩
  have HC := Lib.hid hC
  obtain ⟨D, hD⟩ : ∃ D, x / y = D := ⟨_, rfl⟩
  have HD := Lib.hid hD
  obtain ⟨K, hK⟩ : ∃ K, difF f g = K := ⟨_, rfl⟩
  rw [hD, hK] at HR4
  rw [hK] at HV2
  obtain ⟨T1, hT1⟩ : ∃ T : ByteArray, ⟨(s.data.toList ++ 42 :: t.data.toList).toArray⟩ = T := ⟨_, rfl⟩
  rw [hT1] at ad2 HR3
  obtain ⟨T2, hT2⟩ : ∃ T : ByteArray, ⟨(s.data.toList ++ 47 :: t.data.toList).toArray⟩ = T := ⟨_, rfl⟩
  rw [hT2] at ad4 HR4
  have z0 : ((m.length : Int) == 0) = false := by
    rw [beq_eq_false_iff_ne]; omega
  have z1 : decide (1 < (m.length : Int)) = false := by simp; omega
  have z1' : decide (1 < m.length) = false := by simp; omega
  have z2 : decide (m.length = 0) = false := by simp; omega
  unfold UZE uc at HR3
  go_enter Tryz.func4, Tryz.ntmps4
  go_wp2_with fail
  refine (sane_t _ HE.out).mono ?_
  rintro e w1 ⟨rfl, hb⟩
  have R1 := Lib.hid (S0.out.later hb)
  clear hb
  clear he i1 i2 e1 e2 k1 k2 hm hl1 hl2 hb1 hb2 hb3 st1 st2 st3 hC hT1 hd hwn sl1 sl2 hD hT2 hK
  go_wp2_with fail
  refine (HR1.out _ (HE.out.below R1.out.below)).mono ?_
  rintro e w2 ⟨sx2, ax2, nx2, cx2, bx2, mx2, dx2, rfl, hr, hb, hf, hg⟩
  have E2 := Lib.hid hr.1.1
  have R2 := Lib.hid (R1.out.ret2 hb hr.1.2 hf hr.2.2 hg)
  have FF2 := Lib.hid (hf.mono R1.out.below.size)
  have FG2 := Lib.hid (hg.mono R1.out.below.size)
  clear hr hb hf hg
  have P1 := Lib.hid (R2.out.put [.int .i64 0, .int .i64 0, .int .i64 0, .int .i64 0, .int .i64 0, .int .i64 0, .int .i64 0, .slice none 0 0, .int .i64 0, .slice none 0 0] 30)
  have Q1 := Lib.hid (Sf.row (pre := []) P1.out [.int .i64 (f 0), .int .i64 (f 1), .int .i64 (f 2), .int .i64 (f 3), .int .i64 (f 4), .int .i64 (f 5), .int .i64 sx2, .slice ax2 nx2 cx2, .int .i64 1, .slice bx2 mx2 dx2])
  go_wp2_with (first | refine wpList_store_row rfl _ _ _ rfl _ #[.int .i64 (f 0), .int .i64 (f 1), .int .i64 (f 2), .int .i64 (f 3), .int .i64 (f 4), .int .i64 (f 5), .int .i64 sx2, .slice ax2 nx2 cx2, .int .i64 1, .slice bx2 mx2 dx2] rfl rfl _ _ (P1.out.box _ List.mem_cons_self) (by kernel_rfl) rfl (by simp [Value.oneCell']) ?_)
  refine (HR2.out _ (HE.out.below Q1.out.below)).mono ?_
  rintro e w3 ⟨sx3, ax3, nx3, cx3, bx3, mx3, dx3, rfl, hr, hb, hf, hg⟩
  have E3 := Lib.hid hr.1.1
  have R3 := Lib.hid (Q1.out.ret2 hb hr.1.2 hf hr.2.2 hg)
  have FF3 := Lib.hid (hf.mono Q1.out.below.size)
  have FG3 := Lib.hid (hg.mono Q1.out.below.size)
  clear hr hb hf hg
  have P2 := Lib.hid (R3.out.put [.int .i64 0, .int .i64 0, .int .i64 0, .int .i64 0, .int .i64 0, .int .i64 0, .int .i64 0, .slice none 0 0, .int .i64 0, .slice none 0 0] 30)
  have Q2 := Lib.hid (Sf.row (pre := []) P2.out [.int .i64 (g 0), .int .i64 (g 1), .int .i64 (g 2), .int .i64 (g 3), .int .i64 (g 4), .int .i64 (g 5), .int .i64 sx3, .slice ax3 nx3 cx3, .int .i64 1, .slice bx3 mx3 dx3])
  go_wp2_with (first | refine wpList_store_row rfl _ _ _ rfl _ #[.int .i64 (g 0), .int .i64 (g 1), .int .i64 (g 2), .int .i64 (g 3), .int .i64 (g 4), .int .i64 (g 5), .int .i64 sx3, .slice ax3 nx3 cx3, .int .i64 1, .slice bx3 mx3 dx3] rfl rfl _ _ (P2.out.box _ List.mem_cons_self) (by kernel_rfl) rfl (by simp [Value.oneCell']) ?_)
  refine (HIT.out _).mono ?_
  rintro e w9 ⟨ai, ci, rfl, hb⟩
  have R9 := Lib.hid (Q2.out.later hb)
  clear hb
  obtain ⟨q3, q4, q5, q6, q7, q8, q9, q10, q11, q12⟩ := Fb.cells10 (R9.out.box (w2.heap.size, 30, [.int .i64 (f 0), .int .i64 (f 1), .int .i64 (f 2), .int .i64 (f 3), .int .i64 (f 4), .int .i64 (f 5), .int .i64 sx2, .slice ax2 nx2 cx2, .int .i64 1, .slice bx2 mx2 dx2]) mq1)
  obtain ⟨q13, q14, q15, q16, q17, q18, q19, q20, q21, q22⟩ := Fb.cells10 (R9.out.box (w3.heap.size, 30, [.int .i64 (g 0), .int .i64 (g 1), .int .i64 (g 2), .int .i64 (g 3), .int .i64 (g 4), .int .i64 (g 5), .int .i64 sx3, .slice ax3 nx3 cx3, .int .i64 1, .slice bx3 mx3 dx3]) mq0)
  go_wp2_with fail
  clear q3 q4 q5 q6 q7 q8 q9 q10 q11 q12 q13 q14 q15 q16 q17 q18 q19 q20 q21 q22
  refine (umul_far (R9.out.fr (v := .slice ax2 nx2 cx2) (u := .slice bx2 mx2 dx2) (r := x) mq2 mq3 E2.out) (R9.out.fr (v := .slice ax3 nx3 cx3) (u := .slice bx3 mx3 dx3) (r := y) mq0 mq1 E3.out) LX.out LY.out K1.out K2.out PX.out PY.out HC.out HV.out).mono ?_
  rintro e w10 ⟨rfl, hb⟩
  have R10 := Lib.hid (R9.out.later hb)
  clear hb
  have P23 := Lib.hid (R10.out.put [.int .i64 0, .int .i64 0, .int .i64 0, .int .i64 0, .int .i64 0, .int .i64 0, .int .i64 0, .slice none 0 0, .int .i64 0, .slice none 0 0] 30)
  have Q23 := Lib.hid (Sf.row (pre := []) P23.out [.int .i64 (zf 0), .int .i64 (zf 1), .int .i64 (zf 2), .int .i64 (zf 3), .int .i64 (zf 4), .int .i64 (zf 5), .int .i64 0, .slice none 0 0, .int .i64 0, .slice none 0 0])
  go_wp2_with (first | refine wpList_store_row rfl _ _ _ rfl _ #[.int .i64 (zf 0), .int .i64 (zf 1), .int .i64 (zf 2), .int .i64 (zf 3), .int .i64 (zf 4), .int .i64 (zf 5), .int .i64 0, .slice none 0 0, .int .i64 0, .slice none 0 0] rfl rfl _ _ (P23.out.box _ List.mem_cons_self) (by kernel_rfl) rfl (by simp [Value.oneCell']) ?_)
  refine (HR3.out _ (HE.out.below Q23.out.below)).mono ?_
  rintro e w11 ⟨rfl, hb⟩
  have R11 := Lib.hid (Q23.out.later hb)
  clear hb
  have P24 := Lib.hid (R11.out.put [.int .i64 0, .int .i64 0, .int .i64 0, .int .i64 0, .int .i64 0, .int .i64 0, .int .i64 0, .slice none 0 0, .int .i64 0, .slice none 0 0] 30)
  have Q24 := Lib.hid (Sf.row (pre := []) P24.out [.int .i64 (zf 0), .int .i64 (zf 1), .int .i64 (zf 2), .int .i64 (zf 3), .int .i64 (zf 4), .int .i64 (zf 5), .int .i64 0, .slice none 0 0, .int .i64 0, .slice none 0 0])
  obtain ⟨q25, q26, q27, q28, q29, q30, q31, q32, q33, q34⟩ := Fb.cells10 (Q24.out.box (w10.heap.size, 30, [.int .i64 (zf 0), .int .i64 (zf 1), .int .i64 (zf 2), .int .i64 (zf 3), .int .i64 (zf 4), .int .i64 (zf 5), .int .i64 0, .slice none 0 0, .int .i64 0, .slice none 0 0]) mq1)
  obtain ⟨q35, q36, q37, q38, q39, q40, q41, q42, q43, q44⟩ := Fb.cells10 (Q24.out.box (w11.heap.size, 30, [.int .i64 (zf 0), .int .i64 (zf 1), .int .i64 (zf 2), .int .i64 (zf 3), .int .i64 (zf 4), .int .i64 (zf 5), .int .i64 0, .slice none 0 0, .int .i64 0, .slice none 0 0]) mq0)
  go_wp2_with (first | refine wpList_store_row rfl _ _ _ rfl _ #[.int .i64 (zf 0), .int .i64 (zf 1), .int .i64 (zf 2), .int .i64 (zf 3), .int .i64 (zf 4), .int .i64 (zf 5), .int .i64 0, .slice none 0 0, .int .i64 0, .slice none 0 0] rfl rfl _ _ (P24.out.box _ List.mem_cons_self) (by kernel_rfl) rfl (by simp [Value.oneCell']) ?_)
  clear q25 q26 q27 q28 q29 q30 q31 q32 q33 q34 q35 q36 q37 q38 q39 q40 q41 q42 q43 q44
  refine (u9same_zz zf _).mono ?_
  rintro e w12 ⟨rfl, hb⟩
  have R12 := Lib.hid (Q24.out.later hb)
  clear hb
  obtain ⟨q45, q46, q47, q48, q49, q50, q51, q52, q53, q54⟩ := Fb.cells10 (R12.out.box (w2.heap.size, 30, [.int .i64 (f 0), .int .i64 (f 1), .int .i64 (f 2), .int .i64 (f 3), .int .i64 (f 4), .int .i64 (f 5), .int .i64 sx2, .slice ax2 nx2 cx2, .int .i64 1, .slice bx2 mx2 dx2]) mq3)
  obtain ⟨q55, q56, q57, q58, q59, q60, q61, q62, q63, q64⟩ := Fb.cells10 (R12.out.box (w3.heap.size, 30, [.int .i64 (g 0), .int .i64 (g 1), .int .i64 (g 2), .int .i64 (g 3), .int .i64 (g 4), .int .i64 (g 5), .int .i64 sx3, .slice ax3 nx3 cx3, .int .i64 1, .slice bx3 mx3 dx3]) mq2)
  go_wp2_with fail
  clear q45 q46 q47 q48 q49 q50 q51 q52 q53 q54 q55 q56 q57 q58 q59 q60 q61 q62 q63 q64
  refine (udiv_k (V := K) (R12.out.fr (v := .slice ax2 nx2 cx2) (u := .slice bx2 mx2 dx2) (r := x) mq2 mq3 E2.out) (R12.out.fr (v := .slice ax3 nx3 cx3) (u := .slice bx3 mx3 dx3) (r := y) mq0 mq1 E3.out) LX.out LY.out K1.out K2.out PX.out PY.out Y0.out HD.out HV2.out).mono ?_
  rintro e w13 ⟨sx13, ax13, nx13, cx13, bx13, mx13, dx13, rfl, hr, hb, hf, hg⟩
  have E13 := Lib.hid hr.1.1
  have R13 := Lib.hid (R12.out.ret2 hb hr.1.2 hf hr.2.2 hg)
  have FF13 := Lib.hid (hf.mono R12.out.below.size)
  have FG13 := Lib.hid (hg.mono R12.out.below.size)
  clear hr hb hf hg
  have Q65 := Lib.hid (Sf.row (pre := [(w11.heap.size, 30, [.int .i64 (zf 0), .int .i64 (zf 1), .int .i64 (zf 2), .int .i64 (zf 3), .int .i64 (zf 4), .int .i64 (zf 5), .int .i64 0, .slice none 0 0, .int .i64 0, .slice none 0 0])]) R13.out [.int .i64 (K 0), .int .i64 (K 1), .int .i64 (K 2), .int .i64 (K 3), .int .i64 (K 4), .int .i64 (K 5), .int .i64 sx13, .slice ax13 nx13 cx13, .int .i64 1, .slice bx13 mx13 dx13])
  go_wp2_with (first | refine wpList_store_row rfl _ _ _ rfl _ #[.int .i64 (K 0), .int .i64 (K 1), .int .i64 (K 2), .int .i64 (K 3), .int .i64 (K 4), .int .i64 (K 5), .int .i64 sx13, .slice ax13 nx13 cx13, .int .i64 1, .slice bx13 mx13 dx13] rfl rfl _ _ (R13.out.box _ mq1) (by kernel_rfl) rfl (by simp [Value.oneCell']) ?_)
  refine (HR4.out _ (HE.out.below Q65.out.below)).mono ?_
  rintro e w14 ⟨sx14, ax14, nx14, cx14, bx14, mx14, dx14, rfl, hr, hb, hf, hg⟩
  have E14 := Lib.hid hr.1.1
  have R14 := Lib.hid (Q65.out.ret2 hb hr.1.2 hf hr.2.2 hg)
  have FF14 := Lib.hid (hf.mono Q65.out.below.size)
  have FG14 := Lib.hid (hg.mono Q65.out.below.size)
  clear hr hb hf hg
  have Q66 := Lib.hid (Sf.row (pre := []) R14.out [.int .i64 (K 0), .int .i64 (K 1), .int .i64 (K 2), .int .i64 (K 3), .int .i64 (K 4), .int .i64 (K 5), .int .i64 sx14, .slice ax14 nx14 cx14, .int .i64 1, .slice bx14 mx14 dx14])
  obtain ⟨q67, q68, q69, q70, q71, q72, q73, q74, q75, q76⟩ := Fb.cells10 (Q66.out.box (w10.heap.size, 30, [.int .i64 (K 0), .int .i64 (K 1), .int .i64 (K 2), .int .i64 (K 3), .int .i64 (K 4), .int .i64 (K 5), .int .i64 sx13, .slice ax13 nx13 cx13, .int .i64 1, .slice bx13 mx13 dx13]) mq1)
  obtain ⟨q77, q78, q79, q80, q81, q82, q83, q84, q85, q86⟩ := Fb.cells10 (Q66.out.box (w11.heap.size, 30, [.int .i64 (K 0), .int .i64 (K 1), .int .i64 (K 2), .int .i64 (K 3), .int .i64 (K 4), .int .i64 (K 5), .int .i64 sx14, .slice ax14 nx14 cx14, .int .i64 1, .slice bx14 mx14 dx14]) mq0)
  go_wp2_with (first | refine wpList_store_row rfl _ _ _ rfl _ #[.int .i64 (K 0), .int .i64 (K 1), .int .i64 (K 2), .int .i64 (K 3), .int .i64 (K 4), .int .i64 (K 5), .int .i64 sx14, .slice ax14 nx14 cx14, .int .i64 1, .slice bx14 mx14 dx14] rfl rfl _ _ (R14.out.box _ mq0) (by kernel_rfl) rfl (by simp [Value.oneCell']) ?_)
  clear q67 q68 q69 q70 q71 q72 q73 q74 q75 q76 q77 q78 q79 q80 q81 q82 q83 q84 q85 q86
  refine (u9same_k (Q66.out.fr (v := .slice ax13 nx13 cx13) (u := .slice bx13 mx13 dx13) (r := D) mq2 mq3 E13.out) (Q66.out.fr (v := .slice ax14 nx14 cx14) (u := .slice bx14 mx14 dx14) (r := D) mq0 mq1 E14.out) (eqB_refl K) (k := true) (by simp)).mono ?_
  rintro e w15 ⟨rfl, hb⟩
  have R15 := Lib.hid (Q66.out.later hb)
  clear hb
  go_wp2_with fail
  go_ret
  exact ⟨rfl, R15.out.below⟩

set_option maxHeartbeats 8000000 in
theorem products_far_far (s t : ByteArray) (hs0 : 0 < s.size) (ht0 : 0 < t.size) (hs : s.size ≤ 40) (ht : t.size ≤ 40) (w : World) (he : EnvU w) (hsum : s.size + t.size ≤ 39) (h49 : t[0] ≠ 49) {l m : List (List UInt8 × Int)} {f g : Nat → Int} {x y : Rat} (i1 : itemsL s.data.toList = some l) (i2 : itemsL t.data.toList = some m) (e1 : evL l zf 1 = some (f, x)) (e2 : evL m zf 1 = some (g, y)) (k1 : ok f = true) (k2 : ok g = true)
    (hm : ok (sumF f g) = false) (hlen : m.length = 1) (hd : ok (difF f g) = false) : Calls Tryz.prog 4 #[.string s, .string t] w fun e w' => e = .returned (.bool true) ∧ RowKit.Below w.heap.size w w' := by
  have HE := Lib.hid he
  have S0 := Lib.hid (Sf.start w)
  have g1 : decide (40 < (s.size : Int)) = false := by simp; omega
  have g1' : decide (40 < s.size) = false := by simp; omega
  have g2 : decide (40 < (t.size : Int)) = false := by simp; omega
  have g2' : decide (40 < t.size) = false := by simp; omega
  obtain ⟨m1, m2, m3, m4, m5⟩ := str_empty s false true (by rw [decide_eq_false_iff_not]; intro e; have := sizeL s; rw [e] at this; simp at this; omega) rfl
  obtain ⟨o1, o2, o3, o4, o5⟩ := str_empty t false true (by rw [decide_eq_false_iff_not]; intro e; have := sizeL t; rw [e] at this; simp at this; omega) rfl
  have hl1 := sizeL s
  have hl2 := sizeL t
  obtain ⟨hb1, hb2⟩ := bytes_head t ht0
  have hb3 : s.data.toList ≠ [] := fun e => by rw [e] at hl1; simp at hl1; omega
  obtain ⟨st1, st2, st3⟩ := read_star hb3 hb2 (fun e => h49 (hb1.2 e)) (by omega) i1 i2 e1 e2
  have HR1 := Lib.hid (fun W he => (uread_any s W he).mono fun _ _ g => read_gives i1 e1 k1 g)
  have HR2 := Lib.hid (fun W he => (uread_any t W he).mono fun _ _ g => read_gives i2 e2 k2 g)
  have HIT : Hid (∀ W, Calls Tryz.prog 24 #[.string t] W fun e w' => ∃ a c, e = .returned (.tuple #[.slice a m.length c, .bool true]) ∧ RowKit.Below W.heap.size W w') := Lib.hid (fun W => (items9_any t W).mono fun _ _ g => by
    unfold ItemsEnd at g; rw [i2] at g
    obtain ⟨a, c, e1, _, hb, _⟩ := g
    exact ⟨a, c, e1, hb⟩)
  have LX := Lib.hid ((ev_size i1 e1).mono (j := 1000))
  have LY := Lib.hid ((ev_size i2 e2).mono (j := 1000))
  have PX := Lib.hid (ev_sign e1)
  have PY := Lib.hid (ev_sign e2)
  have Y0 := Lib.hid (sign_ne PY.out)
  have K1 := Lib.hid k1
  have K2 := Lib.hid k2
  have hw1 : IntKind.i64.wrap ((s.size : Int) + (t.size : Int)) = (s.size : Int) + (t.size : Int) := IntWalk.i64_in _ (by omega)
  have q3 : decide (39 < (s.size : Int) + (t.size : Int)) = false := by simp; omega
  have q4 : ((t[0].toNat : Int) == 49) = false := by
    rw [beq_eq_false_iff_ne]; intro h; exact h49 (UInt8.toNat_inj.1 (show (t[0]).toNat = (49 : UInt8).toNat by have h2 : (t[0]).toNat = 49 := (by omega); exact h2))
  have ad1 : ∀ W : World, (Op.stringOp .add s ⟨#[42]⟩).run Tryz.prog W = .ok (.string ⟨(s.data.toList ++ [42]).toArray⟩) W := fun W => by
    have := run_string_add_lists (P := Tryz.prog) (w := W) s.data.toList [42] (by omega) (by decide)
    rwa [show (⟨s.data.toList.toArray⟩ : ByteArray) = s by apply ByteArray.ext; simp] at this
  have ad2 : ∀ W : World, (Op.stringOp .add ⟨(s.data.toList ++ [42]).toArray⟩ t).run Tryz.prog W = .ok (.string ⟨(s.data.toList ++ 42 :: t.data.toList).toArray⟩) W := fun W => by
    have := run_string_add_lists (P := Tryz.prog) (w := W) (s.data.toList ++ [42]) t.data.toList (by simp; omega) (by omega)
    rw [show (⟨t.data.toList.toArray⟩ : ByteArray) = t by apply ByteArray.ext; simp] at this
    rw [this]; simp
  have HR3 : Hid (∀ W, EnvU W → Calls Tryz.prog 10 #[.string ⟨(s.data.toList ++ 42 :: t.data.toList).toArray⟩] W (UZE 3 W)) := Lib.hid (fun W he => (uread_any ⟨(s.data.toList ++ 42 :: t.data.toList).toArray⟩ W he).mono fun _ _ g => read_fails (by show failsI (s.data.toList ++ 42 :: t.data.toList) = 3; unfold failsI; rw [st1]; dsimp only; rw [st2]; dsimp only; rw [hm]; rfl) (by decide) g)
  have HV := Lib.hid (mulR_far k1 k2 hm)
  have ad3 : ∀ W : World, (Op.stringOp .add s ⟨#[47]⟩).run Tryz.prog W = .ok (.string ⟨(s.data.toList ++ [47]).toArray⟩) W := fun W => by
    have := run_string_add_lists (P := Tryz.prog) (w := W) s.data.toList [47] (by omega) (by decide)
    rwa [show (⟨s.data.toList.toArray⟩ : ByteArray) = s by apply ByteArray.ext; simp] at this
  have ad4 : ∀ W : World, (Op.stringOp .add ⟨(s.data.toList ++ [47]).toArray⟩ t).run Tryz.prog W = .ok (.string ⟨(s.data.toList ++ 47 :: t.data.toList).toArray⟩) W := fun W => by
    have := run_string_add_lists (P := Tryz.prog) (w := W) (s.data.toList ++ [47]) t.data.toList (by simp; omega) (by omega)
    rw [show (⟨t.data.toList.toArray⟩ : ByteArray) = t by apply ByteArray.ext; simp] at this
    rw [this]; simp
  obtain ⟨⟨wd, nn⟩, hwn⟩ := List.length_eq_one_iff.1 hlen
  rw [hwn] at i2 e2
  obtain ⟨sl1, sl2⟩ := read_slash hb3 hb2 (fun e => h49 (hb1.2 e)) (by omega) i1 i2 e1 e2
  have HR4 : Hid (∀ W, EnvU W → Calls Tryz.prog 10 #[.string ⟨(s.data.toList ++ 47 :: t.data.toList).toArray⟩] W (UZE 3 W)) := Lib.hid (fun W he => (uread_any ⟨(s.data.toList ++ 47 :: t.data.toList).toArray⟩ W he).mono fun _ _ g => read_fails (by show failsI (s.data.toList ++ 47 :: t.data.toList) = 3; unfold failsI; rw [sl1]; dsimp only; rw [sl2]; dsimp only; rw [hd]; rfl) (by decide) g)
  have HV2 := Lib.hid (divR_far k1 k2 hd)
  obtain ⟨C, hC⟩ : ∃ C, x * y = C := ⟨_, rfl⟩
  have HC := Lib.hid hC
  obtain ⟨D, hD⟩ : ∃ D, x / y = D := ⟨_, rfl⟩
  have HD := Lib.hid hD
  obtain ⟨T1, hT1⟩ : ∃ T : ByteArray, ⟨(s.data.toList ++ 42 :: t.data.toList).toArray⟩ = T := ⟨_, rfl⟩
  rw [hT1] at ad2 HR3
  obtain ⟨T2, hT2⟩ : ∃ T : ByteArray, ⟨(s.data.toList ++ 47 :: t.data.toList).toArray⟩ = T := ⟨_, rfl⟩
  rw [hT2] at ad4 HR4
  have z0 : ((m.length : Int) == 0) = false := by
    rw [beq_eq_false_iff_ne]; omega
  have z1 : decide (1 < (m.length : Int)) = false := by simp; omega
  have z1' : decide (1 < m.length) = false := by simp; omega
  have z2 : decide (m.length = 0) = false := by simp; omega
  unfold UZE uc at HR3 HR4
  go_enter Tryz.func4, Tryz.ntmps4
  go_wp2_with fail
  refine (sane_t _ HE.out).mono ?_
  rintro e w1 ⟨rfl, hb⟩
  have R1 := Lib.hid (S0.out.later hb)
  clear hb
  clear he i1 i2 e1 e2 k1 k2 hm hl1 hl2 hb1 hb2 hb3 st1 st2 st3 hC hT1 hd hwn sl1 sl2 hD hT2
  go_wp2_with fail
  refine (HR1.out _ (HE.out.below R1.out.below)).mono ?_
  rintro e w2 ⟨sx2, ax2, nx2, cx2, bx2, mx2, dx2, rfl, hr, hb, hf, hg⟩
  have E2 := Lib.hid hr.1.1
  have R2 := Lib.hid (R1.out.ret2 hb hr.1.2 hf hr.2.2 hg)
  have FF2 := Lib.hid (hf.mono R1.out.below.size)
  have FG2 := Lib.hid (hg.mono R1.out.below.size)
  clear hr hb hf hg
  have P1 := Lib.hid (R2.out.put [.int .i64 0, .int .i64 0, .int .i64 0, .int .i64 0, .int .i64 0, .int .i64 0, .int .i64 0, .slice none 0 0, .int .i64 0, .slice none 0 0] 30)
  have Q1 := Lib.hid (Sf.row (pre := []) P1.out [.int .i64 (f 0), .int .i64 (f 1), .int .i64 (f 2), .int .i64 (f 3), .int .i64 (f 4), .int .i64 (f 5), .int .i64 sx2, .slice ax2 nx2 cx2, .int .i64 1, .slice bx2 mx2 dx2])
  go_wp2_with (first | refine wpList_store_row rfl _ _ _ rfl _ #[.int .i64 (f 0), .int .i64 (f 1), .int .i64 (f 2), .int .i64 (f 3), .int .i64 (f 4), .int .i64 (f 5), .int .i64 sx2, .slice ax2 nx2 cx2, .int .i64 1, .slice bx2 mx2 dx2] rfl rfl _ _ (P1.out.box _ List.mem_cons_self) (by kernel_rfl) rfl (by simp [Value.oneCell']) ?_)
  refine (HR2.out _ (HE.out.below Q1.out.below)).mono ?_
  rintro e w3 ⟨sx3, ax3, nx3, cx3, bx3, mx3, dx3, rfl, hr, hb, hf, hg⟩
  have E3 := Lib.hid hr.1.1
  have R3 := Lib.hid (Q1.out.ret2 hb hr.1.2 hf hr.2.2 hg)
  have FF3 := Lib.hid (hf.mono Q1.out.below.size)
  have FG3 := Lib.hid (hg.mono Q1.out.below.size)
  clear hr hb hf hg
  have P2 := Lib.hid (R3.out.put [.int .i64 0, .int .i64 0, .int .i64 0, .int .i64 0, .int .i64 0, .int .i64 0, .int .i64 0, .slice none 0 0, .int .i64 0, .slice none 0 0] 30)
  have Q2 := Lib.hid (Sf.row (pre := []) P2.out [.int .i64 (g 0), .int .i64 (g 1), .int .i64 (g 2), .int .i64 (g 3), .int .i64 (g 4), .int .i64 (g 5), .int .i64 sx3, .slice ax3 nx3 cx3, .int .i64 1, .slice bx3 mx3 dx3])
  go_wp2_with (first | refine wpList_store_row rfl _ _ _ rfl _ #[.int .i64 (g 0), .int .i64 (g 1), .int .i64 (g 2), .int .i64 (g 3), .int .i64 (g 4), .int .i64 (g 5), .int .i64 sx3, .slice ax3 nx3 cx3, .int .i64 1, .slice bx3 mx3 dx3] rfl rfl _ _ (P2.out.box _ List.mem_cons_self) (by kernel_rfl) rfl (by simp [Value.oneCell']) ?_)
  refine (HIT.out _).mono ?_
  rintro e w9 ⟨ai, ci, rfl, hb⟩
  have R9 := Lib.hid (Q2.out.later hb)
  clear hb
  obtain ⟨q3, q4, q5, q6, q7, q8, q9, q10, q11, q12⟩ := Fb.cells10 (R9.out.box (w2.heap.size, 30, [.int .i64 (f 0), .int .i64 (f 1), .int .i64 (f 2), .int .i64 (f 3), .int .i64 (f 4), .int .i64 (f 5), .int .i64 sx2, .slice ax2 nx2 cx2, .int .i64 1, .slice bx2 mx2 dx2]) mq1)
  obtain ⟨q13, q14, q15, q16, q17, q18, q19, q20, q21, q22⟩ := Fb.cells10 (R9.out.box (w3.heap.size, 30, [.int .i64 (g 0), .int .i64 (g 1), .int .i64 (g 2), .int .i64 (g 3), .int .i64 (g 4), .int .i64 (g 5), .int .i64 sx3, .slice ax3 nx3 cx3, .int .i64 1, .slice bx3 mx3 dx3]) mq0)
  go_wp2_with fail
  clear q3 q4 q5 q6 q7 q8 q9 q10 q11 q12 q13 q14 q15 q16 q17 q18 q19 q20 q21 q22
  refine (umul_far (R9.out.fr (v := .slice ax2 nx2 cx2) (u := .slice bx2 mx2 dx2) (r := x) mq2 mq3 E2.out) (R9.out.fr (v := .slice ax3 nx3 cx3) (u := .slice bx3 mx3 dx3) (r := y) mq0 mq1 E3.out) LX.out LY.out K1.out K2.out PX.out PY.out HC.out HV.out).mono ?_
  rintro e w10 ⟨rfl, hb⟩
  have R10 := Lib.hid (R9.out.later hb)
  clear hb
  have P23 := Lib.hid (R10.out.put [.int .i64 0, .int .i64 0, .int .i64 0, .int .i64 0, .int .i64 0, .int .i64 0, .int .i64 0, .slice none 0 0, .int .i64 0, .slice none 0 0] 30)
  have Q23 := Lib.hid (Sf.row (pre := []) P23.out [.int .i64 (zf 0), .int .i64 (zf 1), .int .i64 (zf 2), .int .i64 (zf 3), .int .i64 (zf 4), .int .i64 (zf 5), .int .i64 0, .slice none 0 0, .int .i64 0, .slice none 0 0])
  go_wp2_with (first | refine wpList_store_row rfl _ _ _ rfl _ #[.int .i64 (zf 0), .int .i64 (zf 1), .int .i64 (zf 2), .int .i64 (zf 3), .int .i64 (zf 4), .int .i64 (zf 5), .int .i64 0, .slice none 0 0, .int .i64 0, .slice none 0 0] rfl rfl _ _ (P23.out.box _ List.mem_cons_self) (by kernel_rfl) rfl (by simp [Value.oneCell']) ?_)
  refine (HR3.out _ (HE.out.below Q23.out.below)).mono ?_
  rintro e w11 ⟨rfl, hb⟩
  have R11 := Lib.hid (Q23.out.later hb)
  clear hb
  have P24 := Lib.hid (R11.out.put [.int .i64 0, .int .i64 0, .int .i64 0, .int .i64 0, .int .i64 0, .int .i64 0, .int .i64 0, .slice none 0 0, .int .i64 0, .slice none 0 0] 30)
  have Q24 := Lib.hid (Sf.row (pre := []) P24.out [.int .i64 (zf 0), .int .i64 (zf 1), .int .i64 (zf 2), .int .i64 (zf 3), .int .i64 (zf 4), .int .i64 (zf 5), .int .i64 0, .slice none 0 0, .int .i64 0, .slice none 0 0])
  obtain ⟨q25, q26, q27, q28, q29, q30, q31, q32, q33, q34⟩ := Fb.cells10 (Q24.out.box (w10.heap.size, 30, [.int .i64 (zf 0), .int .i64 (zf 1), .int .i64 (zf 2), .int .i64 (zf 3), .int .i64 (zf 4), .int .i64 (zf 5), .int .i64 0, .slice none 0 0, .int .i64 0, .slice none 0 0]) mq1)
  obtain ⟨q35, q36, q37, q38, q39, q40, q41, q42, q43, q44⟩ := Fb.cells10 (Q24.out.box (w11.heap.size, 30, [.int .i64 (zf 0), .int .i64 (zf 1), .int .i64 (zf 2), .int .i64 (zf 3), .int .i64 (zf 4), .int .i64 (zf 5), .int .i64 0, .slice none 0 0, .int .i64 0, .slice none 0 0]) mq0)
  go_wp2_with (first | refine wpList_store_row rfl _ _ _ rfl _ #[.int .i64 (zf 0), .int .i64 (zf 1), .int .i64 (zf 2), .int .i64 (zf 3), .int .i64 (zf 4), .int .i64 (zf 5), .int .i64 0, .slice none 0 0, .int .i64 0, .slice none 0 0] rfl rfl _ _ (P24.out.box _ List.mem_cons_self) (by kernel_rfl) rfl (by simp [Value.oneCell']) ?_)
  clear q25 q26 q27 q28 q29 q30 q31 q32 q33 q34 q35 q36 q37 q38 q39 q40 q41 q42 q43 q44
  refine (u9same_zz zf _).mono ?_
  rintro e w12 ⟨rfl, hb⟩
  have R12 := Lib.hid (Q24.out.later hb)
  clear hb
  obtain ⟨q45, q46, q47, q48, q49, q50, q51, q52, q53, q54⟩ := Fb.cells10 (R12.out.box (w2.heap.size, 30, [.int .i64 (f 0), .int .i64 (f 1), .int .i64 (f 2), .int .i64 (f 3), .int .i64 (f 4), .int .i64 (f 5), .int .i64 sx2, .slice ax2 nx2 cx2, .int .i64 1, .slice bx2 mx2 dx2]) mq3)
  obtain ⟨q55, q56, q57, q58, q59, q60, q61, q62, q63, q64⟩ := Fb.cells10 (R12.out.box (w3.heap.size, 30, [.int .i64 (g 0), .int .i64 (g 1), .int .i64 (g 2), .int .i64 (g 3), .int .i64 (g 4), .int .i64 (g 5), .int .i64 sx3, .slice ax3 nx3 cx3, .int .i64 1, .slice bx3 mx3 dx3]) mq2)
  go_wp2_with fail
  clear q45 q46 q47 q48 q49 q50 q51 q52 q53 q54 q55 q56 q57 q58 q59 q60 q61 q62 q63 q64
  refine (udiv_far (R12.out.fr (v := .slice ax2 nx2 cx2) (u := .slice bx2 mx2 dx2) (r := x) mq2 mq3 E2.out) (R12.out.fr (v := .slice ax3 nx3 cx3) (u := .slice bx3 mx3 dx3) (r := y) mq0 mq1 E3.out) LX.out LY.out K1.out K2.out PX.out PY.out Y0.out HD.out HV2.out).mono ?_
  rintro e w13 ⟨rfl, hb⟩
  have R13 := Lib.hid (R12.out.later hb)
  clear hb
  have Q65 := Lib.hid (Sf.row (pre := [(w11.heap.size, 30, [.int .i64 (zf 0), .int .i64 (zf 1), .int .i64 (zf 2), .int .i64 (zf 3), .int .i64 (zf 4), .int .i64 (zf 5), .int .i64 0, .slice none 0 0, .int .i64 0, .slice none 0 0])]) R13.out [.int .i64 (zf 0), .int .i64 (zf 1), .int .i64 (zf 2), .int .i64 (zf 3), .int .i64 (zf 4), .int .i64 (zf 5), .int .i64 0, .slice none 0 0, .int .i64 0, .slice none 0 0])
  go_wp2_with (first | refine wpList_store_row rfl _ _ _ rfl _ #[.int .i64 (zf 0), .int .i64 (zf 1), .int .i64 (zf 2), .int .i64 (zf 3), .int .i64 (zf 4), .int .i64 (zf 5), .int .i64 0, .slice none 0 0, .int .i64 0, .slice none 0 0] rfl rfl _ _ (R13.out.box _ mq1) (by kernel_rfl) rfl (by simp [Value.oneCell']) ?_)
  refine (HR4.out _ (HE.out.below Q65.out.below)).mono ?_
  rintro e w14 ⟨rfl, hb⟩
  have R14 := Lib.hid (Q65.out.later hb)
  clear hb
  have Q66 := Lib.hid (Sf.row (pre := []) R14.out [.int .i64 (zf 0), .int .i64 (zf 1), .int .i64 (zf 2), .int .i64 (zf 3), .int .i64 (zf 4), .int .i64 (zf 5), .int .i64 0, .slice none 0 0, .int .i64 0, .slice none 0 0])
  obtain ⟨q67, q68, q69, q70, q71, q72, q73, q74, q75, q76⟩ := Fb.cells10 (Q66.out.box (w10.heap.size, 30, [.int .i64 (zf 0), .int .i64 (zf 1), .int .i64 (zf 2), .int .i64 (zf 3), .int .i64 (zf 4), .int .i64 (zf 5), .int .i64 0, .slice none 0 0, .int .i64 0, .slice none 0 0]) mq1)
  obtain ⟨q77, q78, q79, q80, q81, q82, q83, q84, q85, q86⟩ := Fb.cells10 (Q66.out.box (w11.heap.size, 30, [.int .i64 (zf 0), .int .i64 (zf 1), .int .i64 (zf 2), .int .i64 (zf 3), .int .i64 (zf 4), .int .i64 (zf 5), .int .i64 0, .slice none 0 0, .int .i64 0, .slice none 0 0]) mq0)
  go_wp2_with (first | refine wpList_store_row rfl _ _ _ rfl _ #[.int .i64 (zf 0), .int .i64 (zf 1), .int .i64 (zf 2), .int .i64 (zf 3), .int .i64 (zf 4), .int .i64 (zf 5), .int .i64 0, .slice none 0 0, .int .i64 0, .slice none 0 0] rfl rfl _ _ (R14.out.box _ mq0) (by kernel_rfl) rfl (by simp [Value.oneCell']) ?_)
  clear q67 q68 q69 q70 q71 q72 q73 q74 q75 q76 q77 q78 q79 q80 q81 q82 q83 q84 q85 q86
  refine (u9same_zz zf _).mono ?_
  rintro e w15 ⟨rfl, hb⟩
  have R15 := Lib.hid (Q66.out.later hb)
  clear hb
  go_wp2_with fail
  go_ret
  exact ⟨rfl, R15.out.below⟩
theorem products_any (s t : ByteArray) (w : World) (he : EnvU w) (hs : s.size ≤ 9223372036854775807) (ht : t.size ≤ 9223372036854775807) : Calls Tryz.prog 4 #[.string s, .string t] w fun e w' => e = .returned (.bool true) ∧ RowKit.Below w.heap.size w w' := by
  by_cases h : 40 < s.size ∨ 40 < t.size ∨ s.size = 0 ∨ t.size = 0
  · exact products_out s t hs ht w he h
  · have hs0 : 0 < s.size := by omega
    have ht0 : 0 < t.size := by omega
    by_cases h2 : failsI s.data.toList ≠ 0 ∨ failsI t.data.toList ≠ 0 ∨ 39 < s.size + t.size ∨ t[0] = 49
    · exact products_skip s t hs0 ht0 (by omega) (by omega) w he h2
    · obtain ⟨a1, h2⟩ := not_or.1 h2
      obtain ⟨a2, h2⟩ := not_or.1 h2
      obtain ⟨a3, a4⟩ := not_or.1 h2
      obtain ⟨l, f, x, i1, e1, k1⟩ := fails_zero (Decidable.not_not.1 a1)
      obtain ⟨m, g, y, i2, e2, k2⟩ := fails_zero (Decidable.not_not.1 a2)
      obtain ⟨hb1, hb2⟩ := bytes_head t ht0
      have hl1 := sizeL s
      have hl2 := sizeL t
      have hm0 : m ≠ [] := (read_star (s := s.data.toList) (fun e => by rw [e] at hl1; simp at hl1; omega) hb2 (fun e => a4 (hb1.2 e)) (by omega) i1 i2 e1 e2).2.2
      have hm1 : 0 < m.length := List.length_pos_iff.2 hm0
      rcases c1 : ok (sumF f g) with _ | _
      · by_cases c2 : 1 < m.length
        · exact products_far_more s t hs0 ht0 (by omega) (by omega) w he (by omega) a4 i1 i2 e1 e2 k1 k2 c1 c2
        · rcases c3 : ok (difF f g) with _ | _
          · exact products_far_far s t hs0 ht0 (by omega) (by omega) w he (by omega) a4 i1 i2 e1 e2 k1 k2 c1 (by omega) c3
          · exact products_far_near s t hs0 ht0 (by omega) (by omega) w he (by omega) a4 i1 i2 e1 e2 k1 k2 c1 (by omega) c3
      · by_cases c2 : 1 < m.length
        · exact products_near_more s t hs0 ht0 (by omega) (by omega) w he (by omega) a4 i1 i2 e1 e2 k1 k2 c1 c2
        · rcases c3 : ok (difF f g) with _ | _
          · exact products_near_far s t hs0 ht0 (by omega) (by omega) w he (by omega) a4 i1 i2 e1 e2 k1 k2 c1 (by omega) c3
          · exact products_near_near s t hs0 ht0 (by omega) (by omega) w he (by omega) a4 i1 i2 e1 e2 k1 k2 c1 (by omega) c3
end Go.Proofs.YtmhdhabgdlefjaaGreatDoor.Un
