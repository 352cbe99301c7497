/- The contract of small. -/
import Derived.Test.YtpcagodnlbdclaaDoorBi27
set_option maxRecDepth 100000
namespace Go.Proofs.YtpcagodnlbdclaaDoor.Bi
open Go.RowKit

/-- Block b is a box of the number z, with the sign sg and the slice v. -/
def Bk (b : Nat) (sg : Int) (v : Value) (z : Int) (W : World) : Prop := W.heap[b]? = some (.cells #[.int .i64 sg, v] 24 (0, 0)) ∧ Num W sg v z
theorem Bk.later {b : Nat} {sg : Int} {v : Value} {z : Int} {W W' : World} (h : Bk b sg v z W) (hb : RowKit.Below W.heap.size W W') : Bk b sg v z W' :=
  ⟨(hb.block b (Array.getElem?_eq_some_iff.1 h.1).1).trans h.1, h.2.later hb⟩
theorem Bk.cells {b : Nat} {sg : Int} {v : Value} {z : Int} {W : World} (h : Bk b sg v z W) : W.cell? ⟨b, 0, none⟩ = some (.int .i64 sg) ∧ W.cell? ⟨b, 1, none⟩ = some v :=
  ⟨by rw [cell_of_row _ _ _ _ _ _ h.1]; rfl, by rw [cell_of_row _ _ _ _ _ _ h.1]; rfl⟩
/-- Since w nothing old has turned, and the boxes of L stand. -/
structure St (w : World) (L : List (Nat × Int × Value × Int)) (W : World) : Prop where
  below : RowKit.Below w.heap.size w W
  box : ∀ x ∈ L, Bk x.1 x.2.1 x.2.2.1 x.2.2.2 W
theorem St.start (w : World) : St w [] w := ⟨Below.refl _ _, fun x hx => by cases hx⟩
theorem St.later {w W W' : World} {L : List (Nat × Int × Value × Int)} (h : St w L W) (hb : RowKit.Below W.heap.size W W') : St w L W' :=
  ⟨h.below.trans (hb.mono h.below.size), fun x hx => (h.box x hx).later hb⟩
theorem St.put {w W : World} {L : List (Nat × Int × Value × Int)} (h : St w L W) {sg : Int} {v : Value} {z : Int} (hn : Num W sg v z) :
    St w ((W.heap.size, sg, v, z) :: L) (W.alloc (.cells #[.int .i64 sg, v] 24)) := by
  have h' := h.later (below_alloc W (.cells #[.int .i64 sg, v] 24))
  refine ⟨h'.below, fun x hx => ?_⟩
  rcases List.mem_cons.1 hx with rfl | hx
  · exact ⟨alloc_at W _, hn.later (below_alloc W _)⟩
  · exact h'.box x hx
theorem St.env {w W : World} {L : List (Nat × Int × Value × Int)} (h : St w L W) (he : Env w) : Env W := he.later h.below
theorem ints_lit (W : World) (l : List Int) (h : l.length ≤ 1000) : Ints (W.alloc (.cells (l.map (Value.int .i64 ·)).toArray 3)) (.slice (some ⟨W.heap.size, 0, none⟩) l.length l.length) l := by
  refine ⟨_, _, rfl, Nat.le_refl _, by omega, .inr ⟨W.heap.size, 0, rfl, by simp, fun i hi => ?_⟩⟩
  rw [cell_of_row _ _ _ _ _ _ (alloc_at W _), Nat.zero_add, List.getElem?_toArray, map_getD l i hi]
theorem digs_63 : digs (9223372036854775808 : Int).natAbs = [0, 0, 0, 8] := by
  have e : [0, 0, 0, 8] = digs (val [0, 0, 0, 8]).toNat := dig_eq (by intro d hd; simp at hd; omega) (.inr (by decide))
  rw [e]; rfl
theorem digs_11 : digs (1048577 : Int).natAbs = [1, 1] := by
  have e : [1, 1] = digs (val [1, 1]).toNat := dig_eq (by intro d hd; simp at hd; omega) (.inr (by decide))
  rw [e]; rfl
theorem dec_step {n : Nat} (h : 10 ≤ n) : Go.Lib.decDigits n = Go.Lib.decDigits (n / 10) ++ [ch (n % 10)] := dec_big (by omega)
theorem itoa_p : Go.Lib.itoa (-99999999999 * 99999999999) = [45, 57, 57, 57, 57, 57, 57, 57, 57, 57, 57, 56, 48, 48, 48, 48, 48, 48, 48, 48, 48, 48, 49] := by
  have h : readS [45, 57, 57, 57, 57, 57, 57, 57, 57, 57, 57, 56, 48, 48, 48, 48, 48, 48, 48, 48, 48, 48, 49] = some (-99999999999 * 99999999999) := by decide +kernel
  exact itoa_read h
theorem len_p : Len 100000 (-99999999999 * 99999999999) := by
  have : (digs (-99999999999 * 99999999999 : Int).natAbs).length ≤ 5 := digs_le (by decide +kernel)
  exact Nat.le_trans this (by omega)
theorem read_no {s : ByteArray} (h : readS s.data.toList = none) (hs : s.size ≤ 100000) (w : World) : Calls Tryd.prog 23 #[.string s] w (BVE 0 2 w) := by
  have := read_any s hs w
  rw [h] at this
  exact this.mono fun _ _ h => h.bve

set_option maxHeartbeats 8000000 in
theorem small_any (w : World) (he : Env w) : Calls Tryd.prog 10 #[] w fun e w' => e = .returned (.bool true) ∧ RowKit.Below w.heap.size w w' := by
  have HE := Lib.hid he
  have S0 := Lib.hid (St.start w)
  clear he
  go_enter Tryd.func10, Tryd.ntmps10
  go_wp2_with fail
  refine (of_k 1048577 (by omega) _).mono ?_
  rintro e w1 ⟨s1, a1, n1, c1, rfl, hn, hb, _⟩
  have S1 := Lib.hid (S0.out.later hb)
  have N1 := Lib.hid hn
  clear hb hn
  have S2 := Lib.hid (S1.out.put N1.out)
  go_wp2_with fail
  refine (of_k (-99999999999) (by omega) _).mono ?_
  rintro e w2 ⟨s2, a2, n2, c2, rfl, hn, hb, _⟩
  have S3 := Lib.hid (S2.out.later hb)
  have N2 := Lib.hid hn
  clear hb hn
  go_wp2_with fail
  refine (of_k 99999999999 (by omega) _).mono ?_
  rintro e w3 ⟨s3, a3, n3, c3, rfl, hn, hb, _⟩
  have S4 := Lib.hid (S3.out.later hb)
  have N2_4 := Lib.hid (N2.out.later hb)
  have N3 := Lib.hid hn
  clear hb hn
  go_wp2_with fail
  refine (mul_k N2_4.out N3.out (Len.of (by decide)) (Len.of (by decide))).mono ?_
  rintro e w4 ⟨s4, a4, n4, c4, rfl, hn, hb, _⟩
  have S5 := Lib.hid (S4.out.later hb)
  have N2_4_5 := Lib.hid (N2_4.out.later hb)
  have N3_5 := Lib.hid (N3.out.later hb)
  have N4 := Lib.hid hn
  clear hb hn
  have S6 := Lib.hid (S5.out.put N4.out)
  go_wp2_with fail
  refine (of_k (-7) (by omega) _).mono ?_
  rintro e w5 ⟨s5, a5, n5, c5, rfl, hn, hb, _⟩
  have S7 := Lib.hid (S6.out.later hb)
  have N5 := Lib.hid hn
  clear hb hn
  go_wp2_with fail
  refine (of_k 2 (by omega) _).mono ?_
  rintro e w6 ⟨s6, a6, n6, c6, rfl, hn, hb, _⟩
  have S8 := Lib.hid (S7.out.later hb)
  have N5_8 := Lib.hid (N5.out.later hb)
  have N6 := Lib.hid hn
  clear hb hn
  go_wp2_with fail
  refine (div_k N5_8.out N6.out (Len.of (by decide)) (Len.of (by decide)) (by decide)).mono ?_
  rintro e w7 ⟨s7, a7, n7, c7, t7, b7, m7, d7, rfl, hn, hm, hb, _, _⟩
  have S9 := Lib.hid (S8.out.later hb)
  have N5_8_9 := Lib.hid (N5_8.out.later hb)
  have N6_9 := Lib.hid (N6.out.later hb)
  have N7 := Lib.hid hn
  have M7 := Lib.hid hm
  clear hb hn hm
  rw [show (((-7) : Int)).fdiv (2) = -4 by decide] at N7
  rw [show (((-7) : Int)).fmod (2) = 1 by decide] at M7
  have S10 := Lib.hid (S9.out.put N7.out)
  have M7b := Lib.hid (M7.out.later (below_alloc _ (.cells #[.int .i64 s7, .slice a7 n7 c7] 24)))
  have S11 := Lib.hid (S10.out.put M7b.out)
  go_wp2_with fail
  refine (of_k 7 (by omega) _).mono ?_
  rintro e w8 ⟨s8, a8, n8, c8, rfl, hn, hb, _⟩
  have S12 := Lib.hid (S11.out.later hb)
  have N8 := Lib.hid hn
  clear hb hn
  go_wp2_with fail
  refine (of_k (-2) (by omega) _).mono ?_
  rintro e w9 ⟨s9, a9, n9, c9, rfl, hn, hb, _⟩
  have S13 := Lib.hid (S12.out.later hb)
  have N8_13 := Lib.hid (N8.out.later hb)
  have N9 := Lib.hid hn
  clear hb hn
  go_wp2_with fail
  refine (div_k N8_13.out N9.out (Len.of (by decide)) (Len.of (by decide)) (by decide)).mono ?_
  rintro e w10 ⟨s10, a10, n10, c10, t10, b10, m10, d10, rfl, hn, hm, hb, _, _⟩
  have S14 := Lib.hid (S13.out.later hb)
  have N8_13_14 := Lib.hid (N8_13.out.later hb)
  have N9_14 := Lib.hid (N9.out.later hb)
  have N10 := Lib.hid hn
  have M10 := Lib.hid hm
  clear hb hn hm
  rw [show ((7 : Int)).fdiv ((-2)) = -4 by decide] at N10
  rw [show ((7 : Int)).fmod ((-2)) = -1 by decide] at M10
  have S15 := Lib.hid (S14.out.put N10.out)
  have M10b := Lib.hid (M10.out.later (below_alloc _ (.cells #[.int .i64 s10, .slice a10 n10 c10] 24)))
  have S16 := Lib.hid (S15.out.put M10b.out)
  go_wp2_with fail
  refine (of_k (-7) (by omega) _).mono ?_
  rintro e w11 ⟨s11, a11, n11, c11, rfl, hn, hb, _⟩
  have S17 := Lib.hid (S16.out.later hb)
  have N11 := Lib.hid hn
  clear hb hn
  go_wp2_with fail
  refine (of_k (-2) (by omega) _).mono ?_
  rintro e w12 ⟨s12, a12, n12, c12, rfl, hn, hb, _⟩
  have S18 := Lib.hid (S17.out.later hb)
  have N11_18 := Lib.hid (N11.out.later hb)
  have N12 := Lib.hid hn
  clear hb hn
  go_wp2_with fail
  refine (div_k N11_18.out N12.out (Len.of (by decide)) (Len.of (by decide)) (by decide)).mono ?_
  rintro e w13 ⟨s13, a13, n13, c13, t13, b13, m13, d13, rfl, hn, hm, hb, _, _⟩
  have S19 := Lib.hid (S18.out.later hb)
  have N11_18_19 := Lib.hid (N11_18.out.later hb)
  have N12_19 := Lib.hid (N12.out.later hb)
  have N13 := Lib.hid hn
  have M13 := Lib.hid hm
  clear hb hn hm
  rw [show (((-7) : Int)).fdiv ((-2)) = 3 by decide] at N13
  rw [show (((-7) : Int)).fmod ((-2)) = -1 by decide] at M13
  have S20 := Lib.hid (S19.out.put N13.out)
  have M13b := Lib.hid (M13.out.later (below_alloc _ (.cells #[.int .i64 s13, .slice a13 n13 c13] 24)))
  have S21 := Lib.hid (S20.out.put M13b.out)
  go_wp2_with fail
  refine (of_k (-12) (by omega) _).mono ?_
  rintro e w14 ⟨s14, a14, n14, c14, rfl, hn, hb, _⟩
  have S22 := Lib.hid (S21.out.later hb)
  have N14 := Lib.hid hn
  clear hb hn
  go_wp2_with fail
  refine (of_k 18 (by omega) _).mono ?_
  rintro e w15 ⟨s15, a15, n15, c15, rfl, hn, hb, _⟩
  have S23 := Lib.hid (S22.out.later hb)
  have N14_23 := Lib.hid (N14.out.later hb)
  have N15 := Lib.hid hn
  clear hb hn
  go_wp2_with fail
  refine (gcd_s N14_23.out N15.out (digs_le (by decide)) (digs_le (by decide))).mono ?_
  rintro e w16 ⟨s16, a16, n16, c16, rfl, hn, hb, _⟩
  have S24 := Lib.hid (S23.out.later hb)
  have N14_23_24 := Lib.hid (N14_23.out.later hb)
  have N15_24 := Lib.hid (N15.out.later hb)
  have N16 := Lib.hid hn
  clear hb hn
  rw [show ((Nat.gcd ((-12) : Int).natAbs (18 : Int).natAbs : Nat) : Int) = 6 by decide] at N16
  have S25 := Lib.hid (S24.out.put N16.out)
  go_wp2_with fail
  refine (of_k 0 (by omega) _).mono ?_
  rintro e w17 ⟨s17, a17, n17, c17, rfl, hn, hb, _⟩
  have S26 := Lib.hid (S25.out.later hb)
  have N17 := Lib.hid hn
  clear hb hn
  go_wp2_with fail
  refine (of_k (-5) (by omega) _).mono ?_
  rintro e w18 ⟨s18, a18, n18, c18, rfl, hn, hb, _⟩
  have S27 := Lib.hid (S26.out.later hb)
  have N17_27 := Lib.hid (N17.out.later hb)
  have N18 := Lib.hid hn
  clear hb hn
  go_wp2_with fail
  refine (gcd_s N17_27.out N18.out (digs_le (by decide)) (digs_le (by decide))).mono ?_
  rintro e w19 ⟨s19, a19, n19, c19, rfl, hn, hb, _⟩
  have S28 := Lib.hid (S27.out.later hb)
  have N17_27_28 := Lib.hid (N17_27.out.later hb)
  have N18_28 := Lib.hid (N18.out.later hb)
  have N19 := Lib.hid hn
  clear hb hn
  rw [show ((Nat.gcd (0 : Int).natAbs ((-5) : Int).natAbs : Nat) : Int) = 5 by decide] at N19
  have S29 := Lib.hid (S28.out.put N19.out)
  go_wp2_with fail
  refine (read_no (s := ⟨#[48, 48, 55]⟩) (by decide +kernel) (by decide) _).mono ?_
  rintro e w20 ⟨s20, a20, n20, c20, rfl, hn, hb, _⟩
  have S30 := Lib.hid (S29.out.later hb)
  have N20 := Lib.hid hn
  clear hb hn
  have S31 := Lib.hid (S30.out.put N20.out)
  go_wp2_with fail
  refine (read_no (s := ⟨#[45, 48]⟩) (by decide +kernel) (by decide) _).mono ?_
  rintro e w21 ⟨s21, a21, n21, c21, rfl, hn, hb, _⟩
  have S32 := Lib.hid (S31.out.later hb)
  have N21 := Lib.hid hn
  clear hb hn
  have S33 := Lib.hid (S32.out.put N21.out)
  go_wp2_with fail
  refine (read_no (s := ⟨#[]⟩) (by decide +kernel) (by decide) _).mono ?_
  rintro e w22 ⟨s22, a22, n22, c22, rfl, hn, hb, _⟩
  have S34 := Lib.hid (S33.out.later hb)
  have N22 := Lib.hid hn
  clear hb hn
  have S35 := Lib.hid (S34.out.put N22.out)
  have NT : Hid (Num (((w22.alloc (.cells #[.int .i64 s22, .slice a22 n22 c22] 24)).alloc (.cells #[.int .i64 0, .int .i64 0, .int .i64 0, .int .i64 8] 3)).alloc (.cells #[.int .i64 1, (.slice (some ⟨w22.heap.size + 1, 0, none⟩) 4 4)] 24)) 1 (.slice (some ⟨w22.heap.size + 1, 0, none⟩) 4 4) 9223372036854775808) := by
    have h := ints_lit (w22.alloc (.cells #[.int .i64 s22, .slice a22 n22 c22] 24)) [0, 0, 0, 8] (by simp)
    rw [show (w22.alloc (.cells #[.int .i64 s22, .slice a22 n22 c22] 24)).heap.size = w22.heap.size + 1 by simp] at h
    exact ⟨rfl, by rw [digs_63]; exact h.later (below_alloc _ _)⟩
  have BT : Hid (Bk (w22.heap.size + 1 + 1) 1 (.slice (some ⟨w22.heap.size + 1, 0, none⟩) 4 4) 9223372036854775808 (((w22.alloc (.cells #[.int .i64 s22, .slice a22 n22 c22] 24)).alloc (.cells #[.int .i64 0, .int .i64 0, .int .i64 0, .int .i64 8] 3)).alloc (.cells #[.int .i64 1, (.slice (some ⟨w22.heap.size + 1, 0, none⟩) 4 4)] 24))) := ⟨by have h := alloc_at ((w22.alloc (.cells #[.int .i64 s22, .slice a22 n22 c22] 24)).alloc (.cells #[.int .i64 0, .int .i64 0, .int .i64 0, .int .i64 8] 3)) (.cells #[.int .i64 1, (.slice (some ⟨w22.heap.size + 1, 0, none⟩) 4 4)] 24); simpa using h, NT.out⟩
  have ST := Lib.hid ((S35.out.later (below_alloc _ (.cells #[.int .i64 0, .int .i64 0, .int .i64 0, .int .i64 8] 3))).later (below_alloc _ (.cells #[.int .i64 1, (.slice (some ⟨w22.heap.size + 1, 0, none⟩) 4 4)] 24)))
  clear NT
  go_wp2_with fail
  refine (int_k BT.out.2).mono ?_
  rintro e w23 ⟨rfl, hb⟩
  have S36 := Lib.hid (ST.out.later hb)
  have BT_36 := Lib.hid (BT.out.later hb)
  clear hb
  rw [intS_out (by omega)]
  obtain ⟨t0, t1⟩ := BT_36.out.cells
  go_wp2_with fail
  clear t0 t1
  refine (neg_k BT_36.out.2 (Len.of (by decide))).mono ?_
  rintro e w24 ⟨s24, a24, n24, c24, rfl, hn, hb, _⟩
  have S37 := Lib.hid (S36.out.later hb)
  have BT_36_37 := Lib.hid (BT_36.out.later hb)
  have N24 := Lib.hid hn
  clear hb hn
  go_wp2_with fail
  refine (int_k N24.out).mono ?_
  rintro e w25 ⟨rfl, hb⟩
  have S38 := Lib.hid (S37.out.later hb)
  have N24_38 := Lib.hid (N24.out.later hb)
  clear hb
  rw [intS_in (by omega)]
  have KX : Hid (Bk w1.heap.size s1 (.slice a1 n1 c1) (1048577) _) := S38.out.box (w1.heap.size, s1, (.slice a1 n1 c1), 1048577) (by simp)
  obtain ⟨t0, t1⟩ := KX.out.cells
  go_wp2_with fail
  clear t0 t1
  have NL : Hid (Num (w25.alloc (.cells #[.int .i64 1, .int .i64 1] 3)) 1 (.slice (some ⟨w25.heap.size, 0, none⟩) 2 2) 1048577) := ⟨rfl, by rw [digs_11]; exact ints_lit w25 [1, 1] (by simp)⟩
  have S39 := Lib.hid (S38.out.later (below_alloc _ (.cells #[.int .i64 1, .int .i64 1] 3)))
  refine (rsame_t (KX.out.2.later (below_alloc _ (.cells #[.int .i64 1, .int .i64 1] 3))) NL.out rfl).mono ?_
  rintro e w26 ⟨rfl, hb⟩
  have S40 := Lib.hid (S39.out.later hb)
  clear hb
  have KP : Hid (Bk w4.heap.size s4 (.slice a4 n4 c4) (-99999999999 * 99999999999) _) := S40.out.box (w4.heap.size, s4, (.slice a4 n4 c4), -99999999999 * 99999999999) (by simp)
  obtain ⟨t0, t1⟩ := KP.out.cells
  go_wp2_with fail
  clear t0 t1
  refine (text_k KP.out.2 len_p (S40.out.env HE.out)).mono ?_
  rintro e w27 ⟨rfl, hb⟩
  have S41 := Lib.hid (S40.out.later hb)
  clear hb
  rw [itoa_p]
  have KQ0 : Hid (Bk w7.heap.size s7 (.slice a7 n7 c7) (-4) _) := S41.out.box (w7.heap.size, s7, (.slice a7 n7 c7), -4) (by simp)
  have KR0 : Hid (Bk (w7.alloc (.cells #[.int .i64 s7, (.slice a7 n7 c7)] 24)).heap.size t7 (.slice b7 m7 d7) (1) _) := S41.out.box ((w7.alloc (.cells #[.int .i64 s7, (.slice a7 n7 c7)] 24)).heap.size, t7, (.slice b7 m7 d7), 1) (by simp)
  obtain ⟨t0, t1⟩ := KQ0.out.cells
  obtain ⟨u0, u1⟩ := KR0.out.cells
  rw [show (w7.alloc (.cells #[.int .i64 s7, (.slice a7 n7 c7)] 24)).heap.size = w7.heap.size + 1 by simp] at u0 u1
  go_wp2_with fail
  clear t0 t1 u0 u1
  refine (pair_t s7 a7 n7 c7 t7 b7 m7 d7 (-4) (1) (by omega) (by omega) _ KQ0.out.2 KR0.out.2).mono ?_
  rintro e w28 ⟨rfl, hb⟩
  have S42 := Lib.hid (S41.out.later hb)
  clear hb
  have KQ1 : Hid (Bk w10.heap.size s10 (.slice a10 n10 c10) (-4) _) := S42.out.box (w10.heap.size, s10, (.slice a10 n10 c10), -4) (by simp)
  have KR1 : Hid (Bk (w10.alloc (.cells #[.int .i64 s10, (.slice a10 n10 c10)] 24)).heap.size t10 (.slice b10 m10 d10) (-1) _) := S42.out.box ((w10.alloc (.cells #[.int .i64 s10, (.slice a10 n10 c10)] 24)).heap.size, t10, (.slice b10 m10 d10), -1) (by simp)
  obtain ⟨t0, t1⟩ := KQ1.out.cells
  obtain ⟨u0, u1⟩ := KR1.out.cells
  rw [show (w10.alloc (.cells #[.int .i64 s10, (.slice a10 n10 c10)] 24)).heap.size = w10.heap.size + 1 by simp] at u0 u1
  go_wp2_with fail
  clear t0 t1 u0 u1
  refine (pair_t s10 a10 n10 c10 t10 b10 m10 d10 (-4) (-1) (by omega) (by omega) _ KQ1.out.2 KR1.out.2).mono ?_
  rintro e w29 ⟨rfl, hb⟩
  have S43 := Lib.hid (S42.out.later hb)
  clear hb
  have KQ2 : Hid (Bk w13.heap.size s13 (.slice a13 n13 c13) (3) _) := S43.out.box (w13.heap.size, s13, (.slice a13 n13 c13), 3) (by simp)
  have KR2 : Hid (Bk (w13.alloc (.cells #[.int .i64 s13, (.slice a13 n13 c13)] 24)).heap.size t13 (.slice b13 m13 d13) (-1) _) := S43.out.box ((w13.alloc (.cells #[.int .i64 s13, (.slice a13 n13 c13)] 24)).heap.size, t13, (.slice b13 m13 d13), -1) (by simp)
  obtain ⟨t0, t1⟩ := KQ2.out.cells
  obtain ⟨u0, u1⟩ := KR2.out.cells
  rw [show (w13.alloc (.cells #[.int .i64 s13, (.slice a13 n13 c13)] 24)).heap.size = w13.heap.size + 1 by simp] at u0 u1
  go_wp2_with fail
  clear t0 t1 u0 u1
  refine (pair_t s13 a13 n13 c13 t13 b13 m13 d13 (3) (-1) (by omega) (by omega) _ KQ2.out.2 KR2.out.2).mono ?_
  rintro e w30 ⟨rfl, hb⟩
  have S44 := Lib.hid (S43.out.later hb)
  clear hb
  go_wp2_with fail
  have KG : Hid (Bk w16.heap.size s16 (.slice a16 n16 c16) (6) _) := S44.out.box (w16.heap.size, s16, (.slice a16 n16 c16), 6) (by simp)
  have KM : Hid (Bk w19.heap.size s19 (.slice a19 n19 c19) (5) _) := S44.out.box (w19.heap.size, s19, (.slice a19 n19 c19), 5) (by simp)
  have HG : Hid (Bk w16.heap.size s16 (.slice a16 n16 c16) 6 w30.drew ∧ Bk w19.heap.size s19 (.slice a19 n19 c19) 5 w30.drew) := ⟨KG.out.later ⟨rfl, rfl, rfl, Nat.le_refl _, fun _ _ => rfl⟩, KM.out.later ⟨rfl, rfl, rfl, Nat.le_refl _, fun _ _ => rfl⟩⟩
  have SD := Lib.hid (S44.out.later (W' := w30.drew) ⟨rfl, rfl, rfl, Nat.le_refl _, fun _ _ => rfl⟩)
  have e2 : (w30.drew.cell? ⟨w16.heap.size, 0, none⟩ = some (.int .i64 s16) ∧ w30.drew.cell? ⟨w16.heap.size, 1, none⟩ = some (.slice a16 n16 c16)) ∧ w30.drew.cell? ⟨w19.heap.size, 0, none⟩ = some (.int .i64 s19) ∧ w30.drew.cell? ⟨w19.heap.size, 1, none⟩ = some (.slice a19 n19 c19) := ⟨HG.out.1.cells, HG.out.2.cells⟩
  have HB6 : Hid (-9223372036854775808 ≤ (6 : Int) ∧ (6 : Int) ≤ 9223372036854775807) := ⟨by omega, by omega⟩
  have HB5 : Hid (-9223372036854775808 ≤ (5 : Int) ∧ (5 : Int) ≤ 9223372036854775807) := ⟨by omega, by omega⟩
  go_region_held3 (fun W => (W.cell? ⟨w16.heap.size, 0, none⟩ = some (.int .i64 s16) ∧ W.cell? ⟨w16.heap.size, 1, none⟩ = some (.slice a16 n16 c16)) ∧ W.cell? ⟨w19.heap.size, 0, none⟩ = some (.int .i64 s19) ∧ W.cell? ⟨w19.heap.size, 1, none⟩ = some (.slice a19 n19 c19))
    (first | (with_reducible exact e2) | (with_reducible exact x3) | (with_reducible exact x4) | (with_reducible exact x5) | (with_reducible exact x6))
    (first
      | (go_at_call 36; (with_reducible refine (of_k 6 HB6.out _).mono ?_); rintro e w3 ⟨s3, a3, n3, c3, rfl, hn3, hb3, _⟩; have HX3 := Lib.hid (And.intro (HG.out.1.later hb3) (HG.out.2.later hb3)); have x3 := And.intro HX3.out.1.cells HX3.out.2.cells; have SX3 := Lib.hid (SD.out.later hb3); have HN3 := Lib.hid hn3; have HK3 := Lib.hid HX3.out.1.2; clear hn3 hb3)
      | (go_at_call 36; (with_reducible refine (of_k 5 HB5.out _).mono ?_); rintro e w5 ⟨s5, a5, n5, c5, rfl, hn5, hb5, _⟩; have HX5 := Lib.hid (And.intro (HX4.out.1.later hb5) (HX4.out.2.later hb5)); have x5 := And.intro HX5.out.1.cells HX5.out.2.cells; have SX5 := Lib.hid (SX4.out.later hb5); have HN5 := Lib.hid hn5; have HK5 := Lib.hid HX5.out.2.2; clear hn5 hb5)
      | (go_at_call 31; (with_reducible refine (same_t HK3.out HN3.out rfl).mono ?_); rintro e w4 ⟨rfl, hb4⟩; have HX4 := Lib.hid (And.intro (HX3.out.1.later hb4) (HX3.out.2.later hb4)); have x4 := And.intro HX4.out.1.cells HX4.out.2.cells; have SX4 := Lib.hid (SX3.out.later hb4); clear hb4)
      | (go_at_call 31; (with_reducible refine (same_t HK5.out HN5.out rfl).mono ?_); rintro e w6 ⟨rfl, hb6⟩; have HX6 := Lib.hid (And.intro (HX5.out.1.later hb6) (HX5.out.2.later hb6)); have x6 := And.intro HX6.out.1.cells HX6.out.2.cells; have SX6 := Lib.hid (SX5.out.later hb6); clear hb6))
  go_wp2_with fail
  go_ret
  exact ⟨rfl, SX6.out.below⟩
end Go.Proofs.YtpcagodnlbdclaaDoor.Bi
