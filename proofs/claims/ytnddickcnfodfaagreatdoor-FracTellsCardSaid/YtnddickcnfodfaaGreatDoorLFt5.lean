/- Read of kitbagref05. WRITTEN by frac/gen_ft.py. -/
import Derived.Test.YtnddickcnfodfaaGreatDoorLFt4
set_option maxRecDepth 100000
namespace Go.Proofs.YtnddickcnfodfaaGreatDoor.Bi
open Go.RowKit

theorem fextL (s : ByteArray) (a b : Nat) : (s.extract a b).data.toList = (s.data.toList.drop a).take (b - a) := by
  rw [ByteArray.data_extract, Array.toList_extract]
theorem fdropB (s : ByteArray) (k : Nat) (h : k < s.size) : s.data.toList.drop k = s[k] :: s.data.toList.drop (k + 1) := List.drop_eq_getElem_cons (by rw [sizeB]; exact h)
theorem rread_is {s : ByteArray} {z : Int} (h : readS s.data.toList = some z) (hs : s.size ≤ 100000) (w : World) : Calls Tryz.prog 53 #[.string s] w (BVE z 0 w) := by
  have := rread_any s hs w
  rw [h] at this
  exact this.mono fun _ _ h => h.bve
theorem rread_not {s : ByteArray} (h : readS s.data.toList = none) (hs : s.size ≤ 100000) (w : World) : Calls Tryz.prog 53 #[.string s] w (BVE 0 2 w) := by
  have := rread_any s hs w
  rw [h] at this
  exact this.mono fun _ _ h => h.bve
theorem rread_some (s : ByteArray) (hs : s.size ≤ 100000) : ∃ z er : Int, ∀ w : World, Calls Tryz.prog 53 #[.string s] w (BVE z er w) := by
  cases h : readS s.data.toList with
  | none => exact ⟨0, 2, rread_not h hs⟩
  | some z => exact ⟨z, 0, rread_is h hs⟩
/-- A text with a stroke in it: what lies before the first one, and behind it. -/
structure Cut2 (s : ByteArray) (K : Nat) (T1 T2 : ByteArray) : Prop where
  lt : K < s.size
  ne : ∀ j, (h : j < s.size) → j < K → s[j] ≠ 47
  at_ : (h : K < s.size) → s[K] = 47
  r1 : ∀ W, (Instr.slice 9 (.string s) none (some (.int .i64 (K : Int))) none).run Tryz.prog W = .ok (.string T1) W
  r2 : ∀ W, (Instr.slice 9 (.string s) (some (.int .i64 ((K : Int) + 1))) none none).run Tryz.prog W = .ok (.string T2) W
  s1 : T1.size ≤ 100000
  s2 : T2.size ≤ 100000
theorem cut2_of (s : ByteArray) (hs : s.size ≤ 100000) (d e : List UInt8) (hL : s.data.toList = d ++ 47 :: e) (hd : (47 : UInt8) ∉ d) : ∃ K T1 T2, Cut2 s K T1 T2 ∧ T1.data.toList = d ∧ T2.data.toList = e := by
  have hlen : s.size = d.length + 1 + e.length := by rw [← sizeB, hL]; simp; omega
  have h1 : (s.extract 0 d.length).data.toList = d := by rw [fextL, hL]; simp
  have h2 : (s.extract (d.length + 1) s.size).data.toList = e := by
    rw [fextL, hL, hlen, List.drop_append, List.drop_of_length_le (by omega), show d.length + 1 - d.length = 1 by omega]
    simp
  refine ⟨d.length, s.extract 0 d.length, s.extract (d.length + 1) s.size, ⟨by omega, fun j h hj => ?_, fun h => ?_, fun W => ?_, fun W => ?_, by rw [← sizeB, h1]; omega, by rw [← sizeB, h2]; omega⟩, h1, h2⟩
  · have h3 := fdropB s j h
    rw [hL, List.drop_append, List.drop_eq_getElem_cons hj, List.cons_append] at h3
    injection h3 with h4 _
    rw [← h4]
    intro h5
    exact hd (h5 ▸ List.getElem_mem _)
  · have h3 := fdropB s d.length h
    rw [hL, List.drop_append, List.drop_of_length_le (Nat.le_refl _), Nat.sub_self] at h3
    simp only [List.nil_append, List.drop_zero] at h3
    injection h3 with h4 _
    exact h4.symm
  · rw [run_slice_string_h (w := W) (t := 9) (s := s) Tryz.underlying9 .i64 (d.length : Int) (by omega) (by omega)]
    congr 2
  · rw [run_slice_string_l (w := W) (t := 9) (s := s) Tryz.underlying9 .i64 ((d.length : Int) + 1) (by omega) (by omega)]
    congr 2
set_option maxHeartbeats 4000000 in
theorem rfread_a (s T1 T2 : ByteArray) (K : Nat) (hs : s.size ≤ 100000) (hc : Cut2 s K T1 T2) (h1 : readS T1.data.toList = none) (w : World) : Calls Tryz.prog 18 #[.string s] w (FZE 2 w) := by
  obtain ⟨z2, e2, hz⟩ := rread_some T2 hc.s2
  have HR2 := Lib.hid hz
  have HR1 := Lib.hid (rread_not h1 hc.s1)
  clear hz h1
  have HS := Lib.hid hs
  have HC := Lib.hid hc
  have S0 := Lib.hid (((Sf.start w)).put [.int .i64 0, .slice none 0 0, .int .i64 0, .slice none 0 0] 26)
  clear hs hc
  go_enter Tryz.func18, Tryz.ntmps18
  go_wp2_with fail
  go_loop [4] (fun i => ∃ j : Nat, j ≤ K ∧ i = .int .i64 (j : Nat)) (fun i => K - (intOf i).toNat)
  case atStart => exact ⟨0, by omega, rfl⟩
  case round =>
    obtain ⟨j, hj, rfl⟩ := hrel
    have hK := HC.out.lt
    have hjs : j < s.size := by omega
    have gl : decide (j < s.size) = true := by simp; omega
    have gl' : decide ((j : Int) < (s.size : Int)) = true := by simp; omega
    by_cases hlt : j < K
    · obtain ⟨x, hx⟩ : ∃ x, s[j] = x := ⟨_, rfl⟩
      have hne := HC.out.ne j hjs hlt
      rw [hx] at hne
      have gx : ((x.toNat : Int) != 47) = true := by rw [bne_iff_ne]; intro h; exact hne (by rw [← UInt8.toNat_inj]; show x.toNat = 47; omega)
      have HJ : Hid (j + 1 ≤ K ∧ K - (j + 1) < K - j) := Lib.hid (by omega)
      have bj : j ≤ 100000 := by have := HS.out; omega
      clear hne hlt hj hK
      go_wp2_with fail
      go_round
      case rel => exact ⟨j + 1, HJ.out.1, (by first | rfl | (congr 1; omega))⟩
      case measure => have := HJ.out.2; simp [intOf]; omega
    · obtain rfl : j = K := by omega
      obtain ⟨x, hx⟩ : ∃ x, s[j] = x := ⟨_, rfl⟩
      have hxe := HC.out.at_ hjs
      rw [hx] at hxe
      subst hxe
      have ge : ((j : Int) == (s.size : Int)) = false := by rw [beq_eq_false_iff_ne]; omega
      have ge' : (j == s.size) = false := by rw [beq_eq_false_iff_ne]; omega
      have hr1 := HC.out.r1
      have hr2 := HC.out.r2
      have bj : j ≤ 100000 := by have := HS.out; omega
      clear hlt hj
      go_wp2_with fail
      refine (HR1.out _).mono ?_
      rintro e w1 ⟨s1, a1, n1, c1, rfl, hn, hb, hf⟩
      have E1 := Lib.hid hn.1
      have S2 := Lib.hid ((S0.out.ret hb hn.2 hf).put [.int .i64 s1, .slice a1 n1 c1] 24)
      clear hn hb hf S0
      go_wp2_with fail
      refine (HR2.out _).mono ?_
      rintro e w3 ⟨s3, a3, n3, c3, rfl, hn, hb, hf⟩
      have E3 := Lib.hid hn.1
      have S4 := Lib.hid ((S2.out.ret hb hn.2 hf).put [.int .i64 s3, .slice a3 n3 c3] 24)
      clear hn hb hf S2
      obtain ⟨t1_0, t1_1⟩ := (S4.out.box _ (List.mem_cons_of_mem _ List.mem_cons_self) : Fb (w1.heap.size, 24, [.int .i64 s1, .slice a1 n1 c1]) _).cells2
      obtain ⟨t2_0, t2_1⟩ := (S4.out.box _ List.mem_cons_self : Fb (w3.heap.size, 24, [.int .i64 s3, .slice a3 n3 c3]) _).cells2
      have S9 := Lib.hid (S4.out.put' (n := w3.heap.size + 1) (by simp) [.int .i64 s1, .slice a1 n1 c1, .int .i64 s3, .slice a3 n3 c3] 26)
      go_upto_region 10 with fail
      obtain ⟨r0, r1, r2, r3⟩ := (S9.out.box _ (List.mem_cons_of_mem _ (List.mem_cons_of_mem _ (List.mem_cons_of_mem _ List.mem_cons_self))) : Fb (w.heap.size, 26, [.int .i64 0, .slice none 0 0, .int .i64 0, .slice none 0 0]) _).cells4
      obtain ⟨f0, f1, f2, f3⟩ := (S9.out.box _ (List.mem_cons_of_mem _ (List.mem_cons_of_mem _ (List.mem_cons_of_mem _ List.mem_cons_self))) : Fb (w.heap.size, 26, [.int .i64 0, .slice none 0 0, .int .i64 0, .slice none 0 0]) _).free4
      go_wp2_with fail
      have ZZ := Lib.hid (S9.out.set4 (pre := [_, _, _]) (.int .i64 0) (.slice none 0 0) (.int .i64 0) (.slice none 0 0))
      exact bodyPost_ret (v := .tuple #[.agg #[.int .i64 0, .slice none 0 0, .int .i64 0, .slice none 0 0], .int .i64 2]) (by simp [results, Tryz.results18, go_sem, r0, r1, r2, r3]) rfl ⟨rfl, ZZ.out.below⟩

set_option maxHeartbeats 4000000 in
theorem rfread_b (s T1 T2 : ByteArray) (K : Nat) (hs : s.size ≤ 100000) (hc : Cut2 s K T1 T2) {z1 : Int} (h1 : readS T1.data.toList = some z1) (h2 : readS T2.data.toList = none) (w : World) : Calls Tryz.prog 18 #[.string s] w (FZE 2 w) := by
  have HR2 := Lib.hid (rread_not h2 hc.s2)
  have HR1 := Lib.hid (rread_is h1 hc.s1)
  clear h1 h2
  have HS := Lib.hid hs
  have HC := Lib.hid hc
  have S0 := Lib.hid (((Sf.start w)).put [.int .i64 0, .slice none 0 0, .int .i64 0, .slice none 0 0] 26)
  clear hs hc
  go_enter Tryz.func18, Tryz.ntmps18
  go_wp2_with fail
  go_loop [4] (fun i => ∃ j : Nat, j ≤ K ∧ i = .int .i64 (j : Nat)) (fun i => K - (intOf i).toNat)
  case atStart => exact ⟨0, by omega, rfl⟩
  case round =>
    obtain ⟨j, hj, rfl⟩ := hrel
    have hK := HC.out.lt
    have hjs : j < s.size := by omega
    have gl : decide (j < s.size) = true := by simp; omega
    have gl' : decide ((j : Int) < (s.size : Int)) = true := by simp; omega
    by_cases hlt : j < K
    · obtain ⟨x, hx⟩ : ∃ x, s[j] = x := ⟨_, rfl⟩
      have hne := HC.out.ne j hjs hlt
      rw [hx] at hne
      have gx : ((x.toNat : Int) != 47) = true := by rw [bne_iff_ne]; intro h; exact hne (by rw [← UInt8.toNat_inj]; show x.toNat = 47; omega)
      have HJ : Hid (j + 1 ≤ K ∧ K - (j + 1) < K - j) := Lib.hid (by omega)
      have bj : j ≤ 100000 := by have := HS.out; omega
      clear hne hlt hj hK
      go_wp2_with fail
      go_round
      case rel => exact ⟨j + 1, HJ.out.1, (by first | rfl | (congr 1; omega))⟩
      case measure => have := HJ.out.2; simp [intOf]; omega
    · obtain rfl : j = K := by omega
      obtain ⟨x, hx⟩ : ∃ x, s[j] = x := ⟨_, rfl⟩
      have hxe := HC.out.at_ hjs
      rw [hx] at hxe
      subst hxe
      have ge : ((j : Int) == (s.size : Int)) = false := by rw [beq_eq_false_iff_ne]; omega
      have ge' : (j == s.size) = false := by rw [beq_eq_false_iff_ne]; omega
      have hr1 := HC.out.r1
      have hr2 := HC.out.r2
      have bj : j ≤ 100000 := by have := HS.out; omega
      clear hlt hj
      go_wp2_with fail
      refine (HR1.out _).mono ?_
      rintro e w1 ⟨s1, a1, n1, c1, rfl, hn, hb, hf⟩
      have E1 := Lib.hid hn.1
      have S2 := Lib.hid ((S0.out.ret hb hn.2 hf).put [.int .i64 s1, .slice a1 n1 c1] 24)
      clear hn hb hf S0
      go_wp2_with fail
      refine (HR2.out _).mono ?_
      rintro e w3 ⟨s3, a3, n3, c3, rfl, hn, hb, hf⟩
      have E3 := Lib.hid hn.1
      have S4 := Lib.hid ((S2.out.ret hb hn.2 hf).put [.int .i64 s3, .slice a3 n3 c3] 24)
      clear hn hb hf S2
      obtain ⟨t1_0, t1_1⟩ := (S4.out.box _ (List.mem_cons_of_mem _ List.mem_cons_self) : Fb (w1.heap.size, 24, [.int .i64 s1, .slice a1 n1 c1]) _).cells2
      obtain ⟨t2_0, t2_1⟩ := (S4.out.box _ List.mem_cons_self : Fb (w3.heap.size, 24, [.int .i64 s3, .slice a3 n3 c3]) _).cells2
      have S9 := Lib.hid (S4.out.put' (n := w3.heap.size + 1) (by simp) [.int .i64 s1, .slice a1 n1 c1, .int .i64 s3, .slice a3 n3 c3] 26)
      go_upto_region 10 with fail
      obtain ⟨r0, r1, r2, r3⟩ := (S9.out.box _ (List.mem_cons_of_mem _ (List.mem_cons_of_mem _ (List.mem_cons_of_mem _ List.mem_cons_self))) : Fb (w.heap.size, 26, [.int .i64 0, .slice none 0 0, .int .i64 0, .slice none 0 0]) _).cells4
      obtain ⟨f0, f1, f2, f3⟩ := (S9.out.box _ (List.mem_cons_of_mem _ (List.mem_cons_of_mem _ (List.mem_cons_of_mem _ List.mem_cons_self))) : Fb (w.heap.size, 26, [.int .i64 0, .slice none 0 0, .int .i64 0, .slice none 0 0]) _).free4
      go_wp2_with fail
      have ZZ := Lib.hid (S9.out.set4 (pre := [_, _, _]) (.int .i64 0) (.slice none 0 0) (.int .i64 0) (.slice none 0 0))
      exact bodyPost_ret (v := .tuple #[.agg #[.int .i64 0, .slice none 0 0, .int .i64 0, .slice none 0 0], .int .i64 2]) (by simp [results, Tryz.results18, go_sem, r0, r1, r2, r3]) rfl ⟨rfl, ZZ.out.below⟩

set_option maxHeartbeats 4000000 in
theorem rfread_c (s T1 T2 : ByteArray) (K : Nat) (hs : s.size ≤ 100000) (hc : Cut2 s K T1 T2) {z1 z2 : Int} (h1 : readS T1.data.toList = some z1) (h2 : readS T2.data.toList = some z2) (hb : fRightB z1.sign (digs z1.natAbs) z2.sign (digs z2.natAbs) = false) (w : World) : Calls Tryz.prog 18 #[.string s] w (FZE 2 w) := by
  have HR2 := Lib.hid (rread_is h2 hc.s2)
  have HR1 := Lib.hid (rread_is h1 hc.s1)
  have HB := Lib.hid hb
  have HL : Hid ((digs z1.natAbs).length ≤ 100000 ∧ (digs z2.natAbs).length ≤ 100000) := Lib.hid ⟨Sz.len ((Sz.readL h1).mono (by rw [sizeB]; exact hc.s1)), Sz.len ((Sz.readL h2).mono (by rw [sizeB]; exact hc.s2))⟩
  have gs : (([] : List UInt8) == s.toList) = false := by
    rw [Lib.toList_data]
    cases hl : s.data.toList with
    | nil => have h8 := sizeB s; have h9 := hc.lt; rw [hl] at h8; simp at h8; omega
    | cons a m => rfl
  clear h1 h2 hb
  have HS := Lib.hid hs
  have HC := Lib.hid hc
  have S0 := Lib.hid (((Sf.start w)).put [.int .i64 0, .slice none 0 0, .int .i64 0, .slice none 0 0] 26)
  clear hs hc
  go_enter Tryz.func18, Tryz.ntmps18
  go_wp2_with fail
  go_loop [4] (fun i => ∃ j : Nat, j ≤ K ∧ i = .int .i64 (j : Nat)) (fun i => K - (intOf i).toNat)
  case atStart => exact ⟨0, by omega, rfl⟩
  case round =>
    obtain ⟨j, hj, rfl⟩ := hrel
    have hK := HC.out.lt
    have hjs : j < s.size := by omega
    have gl : decide (j < s.size) = true := by simp; omega
    have gl' : decide ((j : Int) < (s.size : Int)) = true := by simp; omega
    by_cases hlt : j < K
    · obtain ⟨x, hx⟩ : ∃ x, s[j] = x := ⟨_, rfl⟩
      have hne := HC.out.ne j hjs hlt
      rw [hx] at hne
      have gx : ((x.toNat : Int) != 47) = true := by rw [bne_iff_ne]; intro h; exact hne (by rw [← UInt8.toNat_inj]; show x.toNat = 47; omega)
      have HJ : Hid (j + 1 ≤ K ∧ K - (j + 1) < K - j) := Lib.hid (by omega)
      have bj : j ≤ 100000 := by have := HS.out; omega
      clear hne hlt hj hK
      go_wp2_with fail
      go_round
      case rel => exact ⟨j + 1, HJ.out.1, (by first | rfl | (congr 1; omega))⟩
      case measure => have := HJ.out.2; simp [intOf]; omega
    · obtain rfl : j = K := by omega
      obtain ⟨x, hx⟩ : ∃ x, s[j] = x := ⟨_, rfl⟩
      have hxe := HC.out.at_ hjs
      rw [hx] at hxe
      subst hxe
      have ge : ((j : Int) == (s.size : Int)) = false := by rw [beq_eq_false_iff_ne]; omega
      have ge' : (j == s.size) = false := by rw [beq_eq_false_iff_ne]; omega
      have hr1 := HC.out.r1
      have hr2 := HC.out.r2
      have bj : j ≤ 100000 := by have := HS.out; omega
      clear hlt hj
      go_wp2_with fail
      refine (HR1.out _).mono ?_
      rintro e w1 ⟨s1, a1, n1, c1, rfl, hn, hb, hf⟩
      have E1 := Lib.hid hn.1
      have S2 := Lib.hid ((S0.out.ret hb hn.2 hf).put [.int .i64 s1, .slice a1 n1 c1] 24)
      clear hn hb hf S0
      go_wp2_with fail
      refine (HR2.out _).mono ?_
      rintro e w3 ⟨s3, a3, n3, c3, rfl, hn, hb, hf⟩
      have E3 := Lib.hid hn.1
      have S4 := Lib.hid ((S2.out.ret hb hn.2 hf).put [.int .i64 s3, .slice a3 n3 c3] 24)
      clear hn hb hf S2
      obtain ⟨t1_0, t1_1⟩ := (S4.out.box _ (List.mem_cons_of_mem _ List.mem_cons_self) : Fb (w1.heap.size, 24, [.int .i64 s1, .slice a1 n1 c1]) _).cells2
      obtain ⟨t2_0, t2_1⟩ := (S4.out.box _ List.mem_cons_self : Fb (w3.heap.size, 24, [.int .i64 s3, .slice a3 n3 c3]) _).cells2
      go_wp2_with fail
      clear t1_0 t1_1 t2_0 t2_1
      have S9 := Lib.hid (S4.out.put' (n := w3.heap.size + 1) (by simp) [.int .i64 s1, .slice a1 n1 c1, .int .i64 s3, .slice a3 n3 c3] 26)
      clear S4
      have EE : Hid (s1 = z1.sign ∧ s3 = z2.sign) := ⟨E1.out, E3.out⟩
      refine (rftext_bad s1 a1 n1 c1 _ s3 a3 n3 c3 _ _ (S9.out.ints (.slice a1 n1 c1, digs (z1 : Int).natAbs) (List.mem_cons_of_mem _ List.mem_cons_self)) (S9.out.ints (.slice a3 n3 c3, digs (z2 : Int).natAbs) List.mem_cons_self) HL.out.1 HL.out.2 (by rw [EE.out.1, EE.out.2]; exact HB.out)).mono ?_
      rintro e w5 ⟨rfl, hb⟩
      have S6 := Lib.hid (S9.out.later hb)
      clear hb S9
      obtain ⟨r0, r1, r2, r3⟩ := (S6.out.box _ (List.mem_cons_of_mem _ (List.mem_cons_of_mem _ (List.mem_cons_of_mem _ List.mem_cons_self))) : Fb (w.heap.size, 26, [.int .i64 0, .slice none 0 0, .int .i64 0, .slice none 0 0]) _).cells4
      obtain ⟨f0, f1, f2, f3⟩ := (S6.out.box _ (List.mem_cons_of_mem _ (List.mem_cons_of_mem _ (List.mem_cons_of_mem _ List.mem_cons_self))) : Fb (w.heap.size, 26, [.int .i64 0, .slice none 0 0, .int .i64 0, .slice none 0 0]) _).free4
      go_wp2_with fail
      have ZZ := Lib.hid (S6.out.set4 (pre := [_, _, _]) (.int .i64 0) (.slice none 0 0) (.int .i64 0) (.slice none 0 0))
      exact bodyPost_ret (v := .tuple #[.agg #[.int .i64 0, .slice none 0 0, .int .i64 0, .slice none 0 0], .int .i64 2]) (by simp [results, Tryz.results18, go_sem, r0, r1, r2, r3]) rfl ⟨rfl, ZZ.out.below⟩

theorem rftext_s {w : World} {sa : Int} {aa ba : Option Addr} {na ca ma da : Nat} {a : Rat} {s : ByteArray} (ha : Fr w sa (.slice aa na ca) (.slice ba ma da) a) (La : FSz 1000 a) (h : (⟨(fTextL a).toArray⟩ : ByteArray) = s) :
    Calls Tryz.prog 37 #[.agg #[.int .i64 sa, .slice aa na ca, .int .i64 1, .slice ba ma da]] w fun e w' => e = .returned (.string s) ∧ RowKit.Below w.heap.size w w' := by subst h; exact rftext_k ha La

set_option maxHeartbeats 4000000 in
theorem rfread_d (s T1 T2 : ByteArray) (K : Nat) (hs : s.size ≤ 100000) (hc : Cut2 s K T1 T2) {r : Rat} (hl : FSz 1000 r) (h1 : readS T1.data.toList = some r.num) (h2 : readS T2.data.toList = some (r.den : Int)) (ht : (⟨(fTextL r).toArray⟩ : ByteArray) = s) (w : World) : Calls Tryz.prog 18 #[.string s] w (FVE r 0 w) := by
  have HR2 := Lib.hid (rread_is h2 hc.s2)
  have HR1 := Lib.hid (rread_is h1 hc.s1)
  have HT := Lib.hid ht
  have HFS := Lib.hid hl
  clear h1 h2 ht hl
  have HS := Lib.hid hs
  have HC := Lib.hid hc
  have S0 := Lib.hid (((Sf.start w)).put [.int .i64 0, .slice none 0 0, .int .i64 0, .slice none 0 0] 26)
  clear hs hc
  go_enter Tryz.func18, Tryz.ntmps18
  go_wp2_with fail
  go_loop [4] (fun i => ∃ j : Nat, j ≤ K ∧ i = .int .i64 (j : Nat)) (fun i => K - (intOf i).toNat)
  case atStart => exact ⟨0, by omega, rfl⟩
  case round =>
    obtain ⟨j, hj, rfl⟩ := hrel
    have hK := HC.out.lt
    have hjs : j < s.size := by omega
    have gl : decide (j < s.size) = true := by simp; omega
    have gl' : decide ((j : Int) < (s.size : Int)) = true := by simp; omega
    by_cases hlt : j < K
    · obtain ⟨x, hx⟩ : ∃ x, s[j] = x := ⟨_, rfl⟩
      have hne := HC.out.ne j hjs hlt
      rw [hx] at hne
      have gx : ((x.toNat : Int) != 47) = true := by rw [bne_iff_ne]; intro h; exact hne (by rw [← UInt8.toNat_inj]; show x.toNat = 47; omega)
      have HJ : Hid (j + 1 ≤ K ∧ K - (j + 1) < K - j) := Lib.hid (by omega)
      have bj : j ≤ 100000 := by have := HS.out; omega
      clear hne hlt hj hK
      go_wp2_with fail
      go_round
      case rel => exact ⟨j + 1, HJ.out.1, (by first | rfl | (congr 1; omega))⟩
      case measure => have := HJ.out.2; simp [intOf]; omega
    · obtain rfl : j = K := by omega
      obtain ⟨x, hx⟩ : ∃ x, s[j] = x := ⟨_, rfl⟩
      have hxe := HC.out.at_ hjs
      rw [hx] at hxe
      subst hxe
      have ge : ((j : Int) == (s.size : Int)) = false := by rw [beq_eq_false_iff_ne]; omega
      have ge' : (j == s.size) = false := by rw [beq_eq_false_iff_ne]; omega
      have hr1 := HC.out.r1
      have hr2 := HC.out.r2
      have bj : j ≤ 100000 := by have := HS.out; omega
      clear hlt hj
      go_wp2_with fail
      refine (HR1.out _).mono ?_
      rintro e w1 ⟨s1, a1, n1, c1, rfl, hn, hb, hf⟩
      have E1 := Lib.hid hn.1
      have HF1 : Hid (Fresh w.heap.size (.slice a1 n1 c1)) := hf.mono S0.out.below.size
      have S2 := Lib.hid ((S0.out.ret hb hn.2 hf).put [.int .i64 s1, .slice a1 n1 c1] 24)
      clear hn hb hf S0
      go_wp2_with fail
      refine (HR2.out _).mono ?_
      rintro e w3 ⟨s3, a3, n3, c3, rfl, hn, hb, hf⟩
      have E3 := Lib.hid hn.1
      have HF2 : Hid (Fresh w.heap.size (.slice a3 n3 c3)) := hf.mono S2.out.below.size
      have S4 := Lib.hid ((S2.out.ret hb hn.2 hf).put [.int .i64 s3, .slice a3 n3 c3] 24)
      clear hn hb hf S2
      obtain rfl : s3 = 1 := E3.out.trans (den_sign _)
      obtain ⟨t1_0, t1_1⟩ := (S4.out.box _ (List.mem_cons_of_mem _ List.mem_cons_self) : Fb (w1.heap.size, 24, [.int .i64 s1, .slice a1 n1 c1]) _).cells2
      obtain ⟨t2_0, t2_1⟩ := (S4.out.box _ List.mem_cons_self : Fb (w3.heap.size, 24, [.int .i64 1, .slice a3 n3 c3]) _).cells2
      go_wp2_with fail
      clear t1_0 t1_1 t2_0 t2_1
      have S9 := Lib.hid (S4.out.put' (n := w3.heap.size + 1) (by simp) [.int .i64 s1, .slice a1 n1 c1, .int .i64 1, .slice a3 n3 c3] 26)
      clear S4
      refine (rftext_s ⟨(S9.out.num (v := .slice a1 n1 c1) (z := r.num) (List.mem_cons_of_mem _ List.mem_cons_self) E1.out), ⟨(den_sign r).symm, (S9.out.ints (.slice a3 n3 c3, digs ((r.den : Int) : Int).natAbs) List.mem_cons_self)⟩⟩ HFS.out HT.out).mono ?_
      rintro e w5 ⟨rfl, hb⟩
      have S6 := Lib.hid (S9.out.later hb)
      clear hb S9
      obtain ⟨t3_0, t3_1, t3_2, t3_3⟩ := (S6.out.box _ List.mem_cons_self : Fb (w3.heap.size + 1, 26, [.int .i64 s1, .slice a1 n1 c1, .int .i64 1, .slice a3 n3 c3]) _).cells4
      obtain ⟨r0, r1, r2, r3⟩ := (S6.out.box _ (List.mem_cons_of_mem _ (List.mem_cons_of_mem _ (List.mem_cons_of_mem _ List.mem_cons_self))) : Fb (w.heap.size, 26, [.int .i64 0, .slice none 0 0, .int .i64 0, .slice none 0 0]) _).cells4
      obtain ⟨f0, f1, f2, f3⟩ := (S6.out.box _ (List.mem_cons_of_mem _ (List.mem_cons_of_mem _ (List.mem_cons_of_mem _ List.mem_cons_self))) : Fb (w.heap.size, 26, [.int .i64 0, .slice none 0 0, .int .i64 0, .slice none 0 0]) _).free4
      go_wp2_with fail
      have ZZ := Lib.hid (S6.out.set4 (pre := [_, _, _]) (.int .i64 s1) (.slice a1 n1 c1) (.int .i64 1) (.slice a3 n3 c3))
      exact bodyPost_ret (v := .tuple #[.agg #[.int .i64 s1, .slice a1 n1 c1, .int .i64 1, .slice a3 n3 c3], .int .i64 0]) (by simp [results, Tryz.results18, go_sem, r0, r1, r2, r3]) rfl ⟨_, _, _, _, _, _, _, rfl, ⟨ZZ.out.num (v := .slice a1 n1 c1) (z := r.num) (List.mem_cons_of_mem _ List.mem_cons_self) E1.out, ZZ.out.num (v := .slice a3 n3 c3) (z := (r.den : Int)) List.mem_cons_self (den_sign _).symm⟩, ZZ.out.below, HF1.out, HF2.out⟩

set_option maxHeartbeats 2000000 in
theorem rfread_e (s : ByteArray) (hs : s.size ≤ 100000) (hne : ∀ j, (h : j < s.size) → s[j] ≠ 47) (w : World) : Calls Tryz.prog 18 #[.string s] w (FZE 2 w) := by
  have HS := Lib.hid hs
  have HNE := Lib.hid hne
  have S0 := Lib.hid (((Sf.start w)).put [.int .i64 0, .slice none 0 0, .int .i64 0, .slice none 0 0] 26)
  clear hs hne
  go_enter Tryz.func18, Tryz.ntmps18
  go_wp2_with fail
  go_loop [4] (fun i => ∃ j : Nat, j ≤ s.size ∧ i = .int .i64 (j : Nat)) (fun i => s.size - (intOf i).toNat)
  case atStart => exact ⟨0, by omega, rfl⟩
  case round =>
    obtain ⟨j, hj, rfl⟩ := hrel
    have bj : j ≤ 100000 := by have := HS.out; omega
    by_cases hjs : j < s.size
    · have gl : decide (j < s.size) = true := by simp; omega
      have gl' : decide ((j : Int) < (s.size : Int)) = true := by simp; omega
      obtain ⟨x, hx⟩ : ∃ x, s[j] = x := ⟨_, rfl⟩
      have hne := HNE.out j hjs
      rw [hx] at hne
      have gx : ((x.toNat : Int) != 47) = true := by rw [bne_iff_ne]; intro h; exact hne (by rw [← UInt8.toNat_inj]; show x.toNat = 47; omega)
      have HJ : Hid (j + 1 ≤ s.size ∧ s.size - (j + 1) < s.size - j) := Lib.hid (by omega)
      clear hne hj
      go_wp2_with fail
      go_round
      case rel => exact ⟨j + 1, HJ.out.1, (by first | rfl | (congr 1; omega))⟩
      case measure => have := HJ.out.2; simp [intOf]; omega
    · obtain rfl : j = s.size := by omega
      have gl : decide (s.size < s.size) = false := by simp
      have gl' : decide ((s.size : Int) < (s.size : Int)) = false := by simp
      clear hjs hj
      obtain ⟨r0, r1, r2, r3⟩ := (S0.out.box _ List.mem_cons_self : Fb (w.heap.size, 26, [.int .i64 0, .slice none 0 0, .int .i64 0, .slice none 0 0]) _).cells4
      obtain ⟨f0, f1, f2, f3⟩ := (S0.out.box _ List.mem_cons_self : Fb (w.heap.size, 26, [.int .i64 0, .slice none 0 0, .int .i64 0, .slice none 0 0]) _).free4
      go_wp2_with fail
      have ZZ := Lib.hid (S0.out.set4 (pre := []) (.int .i64 0) (.slice none 0 0) (.int .i64 0) (.slice none 0 0))
      exact bodyPost_ret (v := .tuple #[.agg #[.int .i64 0, .slice none 0 0, .int .i64 0, .slice none 0 0], .int .i64 2]) (by simp [results, Tryz.results18, go_sem, r0, r1, r2, r3]) rfl ⟨rfl, S0.out.below⟩

theorem rfread_yes (s : ByteArray) (hs : s.size ≤ 3000) (w : World) (r : Rat) (h : s.data.toList = fTextL r) : Calls Tryz.prog 18 #[.string s] w (FVE r 0 w) := by
  obtain ⟨K, T1, T2, hc, e1, e2⟩ := cut2_of s (by omega) (Go.Lib.itoa r.num) (Go.Lib.itoa (r.den : Int)) h (itoa_no47 _)
  have h1 : readS T1.data.toList = some r.num := by rw [e1]; exact read_itoa _
  have h2 : readS T2.data.toList = some (r.den : Int) := by rw [e2]; exact read_itoa _
  have hl : s.data.toList.length = s.size := sizeB s
  have hl2 : (Go.Lib.itoa r.num).length + (Go.Lib.itoa (r.den : Int)).length + 1 = s.size := by rw [← hl, h]; unfold fTextL; simp; omega
  refine rfread_d s T1 T2 K (by omega) hc ⟨?_, ?_⟩ h1 h2 ?_ w
  · exact (Sz.read6 (k := 1000) h1 (by rw [e1]; omega))
  · exact (Sz.read6 (k := 1000) h2 (by rw [e2]; omega))
  · rw [← h]
theorem rfread_no (s : ByteArray) (hs : s.size ≤ 3000) (w : World) (h : ∀ r, s.data.toList ≠ fTextL r) : Calls Tryz.prog 18 #[.string s] w (FZE 2 w) := by
  obtain ⟨d, e, b, hcut⟩ : ∃ d e b, Go.Lib.cut s.data.toList [47] = (d, e, b) := ⟨_, _, _, rfl⟩
  cases b
  · obtain ⟨_, hn⟩ := cut_miss 47 _ _ _ hcut
    refine rfread_e s (by omega) (fun j hj hx => hn ?_) w
    have := fdropB s j hj
    rw [hx] at this
    exact List.mem_of_mem_drop (this ▸ List.mem_cons_self)
  · obtain ⟨hL, hd⟩ := cut_hit 47 _ _ _ hcut
    obtain ⟨K, T1, T2, hc, e1, e2⟩ := cut2_of s (by omega) d e hL hd
    rcases h1 : readS T1.data.toList with _ | p
    · exact rfread_a s T1 T2 K (by omega) hc h1 w
    · rcases h2 : readS T2.data.toList with _ | q
      · exact rfread_b s T1 T2 K (by omega) hc h1 h2 w
      · cases hb : fRightB p.sign (digs p.natAbs) q.sign (digs q.natAbs)
        · exact rfread_c s T1 T2 K (by omega) hc h1 h2 hb w
        · exfalso
          unfold fRightB at hb
          simp only [Bool.and_eq_true, decide_eq_true_eq] at hb
          obtain ⟨h0, _, h3⟩ := hb
          rw [digs_val, digs_val, Int.toNat_natCast, Int.toNat_natCast] at h3
          obtain ⟨r, rfl, rfl⟩ := rat_of (Int.sign_pos_iff.1 h0) h3
          refine h r ?_
          rw [hL]
          unfold fTextL
          rw [itoa_read h1, itoa_read h2, e1, e2]
end Go.Proofs.YtnddickcnfodfaaGreatDoor.Bi
