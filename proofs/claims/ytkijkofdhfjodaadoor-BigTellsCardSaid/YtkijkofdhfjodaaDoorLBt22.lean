/- BigTells. WRITTEN by big/gen_tells.py. -/
import Derived.Test.YtkijkofdhfjodaaDoorLBt21
set_option maxRecDepth 100000
namespace Go.Proofs.YtkijkofdhfjodaaDoor.Bi
open Go.RowKit

set_option maxHeartbeats 16000000 in
theorem BigTells_any (sa : Int) (aa : Option Addr) (na ca : Nat) (la : List Int) (sb : Int) (ab : Option Addr) (nb cb : Nat) (lb : List Int) (n : Int) (s : ByteArray) (hn : -9223372036854775808 ≤ n ∧ n ≤ 9223372036854775807) (w : World) (he : Env w) (ha : Ints w (.slice aa na ca) la) (hb : Ints w (.slice ab nb cb) lb) :
    Calls Tryd.prog 3 #[.agg #[.int .i64 sa, .slice aa na ca], .agg #[.int .i64 sb, .slice ab nb cb], .int .i64 n, .string s] w fun e w' => e = .returned (.bool true) ∧ RowKit.Below w.heap.size w w' := by
  have HE := Lib.hid he
  have HNN := Lib.hid hn
  have S0 := Lib.hid (two (sa := sa) (sb := sb) ha hb)
  obtain ⟨fa, hfa⟩ : ∃ b, decide ((la.length : Int) ≤ 62) = b := ⟨_, rfl⟩
  have Fa := Lib.hid hfa
  obtain ⟨ga, hga⟩ : ∃ b, decide ((la.length : Int) ≤ 16) = b := ⟨_, rfl⟩
  have Ga := Lib.hid hga
  obtain ⟨fb, hfb⟩ : ∃ b, decide ((lb.length : Int) ≤ 62) = b := ⟨_, rfl⟩
  have Fb := Lib.hid hfb
  obtain ⟨gb, hgb⟩ : ∃ b, decide ((lb.length : Int) ≤ 16) = b := ⟨_, rfl⟩
  have Gb := Lib.hid hgb
  clear ha hb hfa hfb hga hgb he hn
  go_enter Tryd.func3, Tryd.ntmps3
  go_wp2_with fail
  refine (small_any _ (S0.out.env HE.out)).mono ?_
  rintro e w1 ⟨rfl, hb⟩
  have S2 := Lib.hid (S0.out.later hb)
  clear S0
  clear hb
  obtain ⟨t1, u1⟩ := (S2.out.box (w.heap.size, sa, .slice aa na ca, la) (List.mem_cons_of_mem _ List.mem_cons_self)).cells
  go_wp2_with fail
  clear t1 u1
  refine (few_any sa _ la 62 _ (S2.out.box (w.heap.size, sa, .slice aa na ca, la) (List.mem_cons_of_mem _ List.mem_cons_self)).2 fa Fa.out).mono ?_
  rintro e w3 ⟨rfl, hb⟩
  have S4 := Lib.hid (S2.out.later hb)
  clear S2
  clear hb
  cases fa
  case false =>
    go_wp2_with fail
    go_ret
    exact ⟨rfl, S4.out.below⟩
  obtain ⟨t2, u2⟩ := (S4.out.box (w.heap.size + 1, sb, .slice ab nb cb, lb) List.mem_cons_self).cells
  go_wp2_with fail
  clear t2 u2
  refine (few_any sb _ lb 62 _ (S4.out.box (w.heap.size + 1, sb, .slice ab nb cb, lb) List.mem_cons_self).2 fb Fb.out).mono ?_
  rintro e w5 ⟨rfl, hb⟩
  have S6 := Lib.hid (S4.out.later hb)
  clear S4
  clear hb
  cases fb
  case false =>
    go_wp2_with fail
    go_ret
    exact ⟨rfl, S6.out.below⟩
  by_cases hs4 : 400 < s.size
  · have hd4 : decide ((400 : Int) < (s.size : Int)) = true := decide_eq_true (by omega)
    clear hs4
    go_wp2_with fail
    go_ret
    exact ⟨rfl, S6.out.below⟩
  have hd4 : decide ((400 : Int) < (s.size : Int)) = false := decide_eq_false (by omega)
  have hla : la.length ≤ 62 := by have := of_decide_eq_true Fa.out; omega
  have hlb : lb.length ≤ 62 := by have := of_decide_eq_true Fb.out; omega
  obtain ⟨z1, e1, h⟩ := add_pair sa sb la lb hla hlb
  have HADD := Lib.hid h
  clear h
  obtain ⟨z2, e2, h⟩ := sub_pair sa sb la lb hla hlb
  have HSUB := Lib.hid h
  clear h
  obtain ⟨z3, e3, h⟩ := mul_pair sa sb la lb hla hlb
  have HMUL := Lib.hid h
  clear h
  obtain ⟨z7, e7, h⟩ := gcd_pair sa sb la lb hla hlb
  have HGCD := Lib.hid h
  clear h
  obtain ⟨z4, z5, e4, h⟩ := div_pair sa sb la lb hla hlb
  have HDIV := Lib.hid h
  clear h
  obtain ⟨cc, h⟩ := cmp_pair sa sb la lb
  have HCMP := Lib.hid h
  clear h
  obtain ⟨m1, k1, h⟩ := int_pair sa la
  have HINT := Lib.hid h
  clear h
  obtain ⟨z6, e6, h⟩ := read_pair s (by omega)
  have HREAD := Lib.hid h
  clear h
  obtain ⟨tx, h⟩ := text_pair sa la hla
  have HTEXT := Lib.hid h
  clear h
  obtain ⟨z8, h⟩ := neg_pair sa la hla
  have HNEG := Lib.hid h
  clear h
  clear hla hlb hs4 Fa Fb
  obtain ⟨t3, u3⟩ := (S6.out.box (w.heap.size, sa, .slice aa na ca, la) (List.mem_cons_of_mem _ List.mem_cons_self)).cells
  obtain ⟨t4, u4⟩ := (S6.out.box (w.heap.size + 1, sb, .slice ab nb cb, lb) List.mem_cons_self).cells
  go_wp2_with fail
  clear t3 u3 t4 u4
  clear hd4
  refine ((HADD.out _ _ _ ⟨_, rfl, (S6.out.box (w.heap.size, sa, .slice aa na ca, la) (List.mem_cons_of_mem _ List.mem_cons_self)).2⟩ ⟨_, rfl, (S6.out.box (w.heap.size + 1, sb, .slice ab nb cb, lb) List.mem_cons_self).2⟩).1).mono ?_
  rintro e w7 ⟨s7, rfl, hi, hb, hf⟩
  obtain ⟨a7, c7, rfl, hj⟩ := hi.open
  have S7 := Lib.hid (S6.out.ret (sg := z1.sign) hb hj hf)
  clear hi hj hb hf S6
  obtain ⟨t5, u5⟩ := (S7.out.box (w.heap.size, sa, .slice aa na ca, la) (List.mem_cons_of_mem _ (List.mem_cons_of_mem _ List.mem_cons_self))).cells
  obtain ⟨t6, u6⟩ := (S7.out.box (w.heap.size + 1, sb, .slice ab nb cb, lb) (List.mem_cons_of_mem _ List.mem_cons_self)).cells
  go_wp2_with fail
  clear t5 u5 t6 u6
  refine ((HADD.out _ _ _ ⟨_, rfl, (S7.out.box (w.heap.size, sa, .slice aa na ca, la) (List.mem_cons_of_mem _ (List.mem_cons_of_mem _ List.mem_cons_self))).2⟩ ⟨_, rfl, (S7.out.box (w.heap.size + 1, sb, .slice ab nb cb, lb) (List.mem_cons_of_mem _ List.mem_cons_self)).2⟩).2).mono ?_
  rintro e w8 ⟨s8, rfl, hi, hb, hf⟩
  obtain ⟨a8, c8, rfl, hj⟩ := hi.open
  have S8 := Lib.hid (S7.out.ret (sg := z1.sign) hb hj hf)
  clear hi hj hb hf S7
  obtain ⟨t7, u7⟩ := (S8.out.box (w.heap.size, sa, .slice aa na ca, la) (List.mem_cons_of_mem _ (List.mem_cons_of_mem _ (List.mem_cons_of_mem _ List.mem_cons_self)))).cells
  obtain ⟨t8, u8⟩ := (S8.out.box (w.heap.size + 1, sb, .slice ab nb cb, lb) (List.mem_cons_of_mem _ (List.mem_cons_of_mem _ List.mem_cons_self))).cells
  go_wp2_with fail
  clear t7 u7 t8 u8
  refine ((HSUB.out _ _ _ ⟨_, rfl, (S8.out.box (w.heap.size, sa, .slice aa na ca, la) (List.mem_cons_of_mem _ (List.mem_cons_of_mem _ (List.mem_cons_of_mem _ List.mem_cons_self)))).2⟩ ⟨_, rfl, (S8.out.box (w.heap.size + 1, sb, .slice ab nb cb, lb) (List.mem_cons_of_mem _ (List.mem_cons_of_mem _ List.mem_cons_self))).2⟩).1).mono ?_
  rintro e w9 ⟨s9, rfl, hi, hb, hf⟩
  obtain ⟨a9, c9, rfl, hj⟩ := hi.open
  have S9 := Lib.hid (S8.out.ret (sg := z2.sign) hb hj hf)
  clear hi hj hb hf S8
  obtain ⟨t9, u9⟩ := (S9.out.box (w.heap.size, sa, .slice aa na ca, la) (List.mem_cons_of_mem _ (List.mem_cons_of_mem _ (List.mem_cons_of_mem _ (List.mem_cons_of_mem _ List.mem_cons_self))))).cells
  obtain ⟨t10, u10⟩ := (S9.out.box (w.heap.size + 1, sb, .slice ab nb cb, lb) (List.mem_cons_of_mem _ (List.mem_cons_of_mem _ (List.mem_cons_of_mem _ List.mem_cons_self)))).cells
  go_wp2_with fail
  clear t9 u9 t10 u10
  refine ((HSUB.out _ _ _ ⟨_, rfl, (S9.out.box (w.heap.size, sa, .slice aa na ca, la) (List.mem_cons_of_mem _ (List.mem_cons_of_mem _ (List.mem_cons_of_mem _ (List.mem_cons_of_mem _ List.mem_cons_self))))).2⟩ ⟨_, rfl, (S9.out.box (w.heap.size + 1, sb, .slice ab nb cb, lb) (List.mem_cons_of_mem _ (List.mem_cons_of_mem _ (List.mem_cons_of_mem _ List.mem_cons_self)))).2⟩).2).mono ?_
  rintro e w10 ⟨s10, rfl, hi, hb, hf⟩
  obtain ⟨a10, c10, rfl, hj⟩ := hi.open
  have S10 := Lib.hid (S9.out.ret (sg := z2.sign) hb hj hf)
  clear hi hj hb hf S9
  obtain ⟨t11, u11⟩ := (S10.out.box (w.heap.size, sa, .slice aa na ca, la) (List.mem_cons_of_mem _ (List.mem_cons_of_mem _ (List.mem_cons_of_mem _ (List.mem_cons_of_mem _ (List.mem_cons_of_mem _ List.mem_cons_self)))))).cells
  obtain ⟨t12, u12⟩ := (S10.out.box (w.heap.size + 1, sb, .slice ab nb cb, lb) (List.mem_cons_of_mem _ (List.mem_cons_of_mem _ (List.mem_cons_of_mem _ (List.mem_cons_of_mem _ List.mem_cons_self))))).cells
  go_wp2_with fail
  clear t11 u11 t12 u12
  refine ((HMUL.out _ _ _ ⟨_, rfl, (S10.out.box (w.heap.size, sa, .slice aa na ca, la) (List.mem_cons_of_mem _ (List.mem_cons_of_mem _ (List.mem_cons_of_mem _ (List.mem_cons_of_mem _ (List.mem_cons_of_mem _ List.mem_cons_self)))))).2⟩ ⟨_, rfl, (S10.out.box (w.heap.size + 1, sb, .slice ab nb cb, lb) (List.mem_cons_of_mem _ (List.mem_cons_of_mem _ (List.mem_cons_of_mem _ (List.mem_cons_of_mem _ List.mem_cons_self))))).2⟩).1).mono ?_
  rintro e w11 ⟨s11, rfl, hi, hb, hf⟩
  obtain ⟨a11, c11, rfl, hj⟩ := hi.open
  have S11 := Lib.hid (S10.out.ret (sg := z3.sign) hb hj hf)
  clear hi hj hb hf S10
  obtain ⟨t13, u13⟩ := (S11.out.box (w.heap.size, sa, .slice aa na ca, la) (List.mem_cons_of_mem _ (List.mem_cons_of_mem _ (List.mem_cons_of_mem _ (List.mem_cons_of_mem _ (List.mem_cons_of_mem _ (List.mem_cons_of_mem _ List.mem_cons_self))))))).cells
  obtain ⟨t14, u14⟩ := (S11.out.box (w.heap.size + 1, sb, .slice ab nb cb, lb) (List.mem_cons_of_mem _ (List.mem_cons_of_mem _ (List.mem_cons_of_mem _ (List.mem_cons_of_mem _ (List.mem_cons_of_mem _ List.mem_cons_self)))))).cells
  go_wp2_with fail
  clear t13 u13 t14 u14
  refine ((HMUL.out _ _ _ ⟨_, rfl, (S11.out.box (w.heap.size, sa, .slice aa na ca, la) (List.mem_cons_of_mem _ (List.mem_cons_of_mem _ (List.mem_cons_of_mem _ (List.mem_cons_of_mem _ (List.mem_cons_of_mem _ (List.mem_cons_of_mem _ List.mem_cons_self))))))).2⟩ ⟨_, rfl, (S11.out.box (w.heap.size + 1, sb, .slice ab nb cb, lb) (List.mem_cons_of_mem _ (List.mem_cons_of_mem _ (List.mem_cons_of_mem _ (List.mem_cons_of_mem _ (List.mem_cons_of_mem _ List.mem_cons_self)))))).2⟩).2).mono ?_
  rintro e w12 ⟨s12, rfl, hi, hb, hf⟩
  obtain ⟨a12, c12, rfl, hj⟩ := hi.open
  have S12 := Lib.hid (S11.out.ret (sg := z3.sign) hb hj hf)
  clear hi hj hb hf S11
  obtain ⟨t15, u15⟩ := (S12.out.box (w7.heap.size, z1.sign, .slice a7 (digs z1.natAbs).length c7, digs z1.natAbs) (List.mem_cons_of_mem _ (List.mem_cons_of_mem _ (List.mem_cons_of_mem _ (List.mem_cons_of_mem _ (List.mem_cons_of_mem _ List.mem_cons_self)))))).cells
  obtain ⟨t16, u16⟩ := (S12.out.box (w8.heap.size, z1.sign, .slice a8 (digs z1.natAbs).length c8, digs z1.natAbs) (List.mem_cons_of_mem _ (List.mem_cons_of_mem _ (List.mem_cons_of_mem _ (List.mem_cons_of_mem _ List.mem_cons_self))))).cells
  go_wp2_with fail
  clear t15 u15 t16 u16
  refine (rsame_self ⟨_, rfl, (S12.out.box (w7.heap.size, z1.sign, .slice a7 (digs z1.natAbs).length c7, digs z1.natAbs) (List.mem_cons_of_mem _ (List.mem_cons_of_mem _ (List.mem_cons_of_mem _ (List.mem_cons_of_mem _ (List.mem_cons_of_mem _ List.mem_cons_self)))))).2⟩ ⟨_, rfl, (S12.out.box (w8.heap.size, z1.sign, .slice a8 (digs z1.natAbs).length c8, digs z1.natAbs) (List.mem_cons_of_mem _ (List.mem_cons_of_mem _ (List.mem_cons_of_mem _ (List.mem_cons_of_mem _ List.mem_cons_self))))).2⟩).mono ?_
  rintro e w13 ⟨rfl, hb⟩
  have S14 := Lib.hid (S12.out.later hb)
  clear S12
  clear hb
  obtain ⟨t17, u17⟩ := (S14.out.box (w9.heap.size, z2.sign, .slice a9 (digs z2.natAbs).length c9, digs z2.natAbs) (List.mem_cons_of_mem _ (List.mem_cons_of_mem _ (List.mem_cons_of_mem _ List.mem_cons_self)))).cells
  obtain ⟨t18, u18⟩ := (S14.out.box (w10.heap.size, z2.sign, .slice a10 (digs z2.natAbs).length c10, digs z2.natAbs) (List.mem_cons_of_mem _ (List.mem_cons_of_mem _ List.mem_cons_self))).cells
  go_wp2_with fail
  clear t17 u17 t18 u18
  refine (rsame_self ⟨_, rfl, (S14.out.box (w9.heap.size, z2.sign, .slice a9 (digs z2.natAbs).length c9, digs z2.natAbs) (List.mem_cons_of_mem _ (List.mem_cons_of_mem _ (List.mem_cons_of_mem _ List.mem_cons_self)))).2⟩ ⟨_, rfl, (S14.out.box (w10.heap.size, z2.sign, .slice a10 (digs z2.natAbs).length c10, digs z2.natAbs) (List.mem_cons_of_mem _ (List.mem_cons_of_mem _ List.mem_cons_self))).2⟩).mono ?_
  rintro e w15 ⟨rfl, hb⟩
  have S16 := Lib.hid (S14.out.later hb)
  clear S14
  clear hb
  obtain ⟨t19, u19⟩ := (S16.out.box (w11.heap.size, z3.sign, .slice a11 (digs z3.natAbs).length c11, digs z3.natAbs) (List.mem_cons_of_mem _ List.mem_cons_self)).cells
  obtain ⟨t20, u20⟩ := (S16.out.box (w12.heap.size, z3.sign, .slice a12 (digs z3.natAbs).length c12, digs z3.natAbs) List.mem_cons_self).cells
  go_wp2_with fail
  clear t19 u19 t20 u20
  refine (rsame_self ⟨_, rfl, (S16.out.box (w11.heap.size, z3.sign, .slice a11 (digs z3.natAbs).length c11, digs z3.natAbs) (List.mem_cons_of_mem _ List.mem_cons_self)).2⟩ ⟨_, rfl, (S16.out.box (w12.heap.size, z3.sign, .slice a12 (digs z3.natAbs).length c12, digs z3.natAbs) List.mem_cons_self).2⟩).mono ?_
  rintro e w17 ⟨rfl, hb⟩
  have S18 := Lib.hid (S16.out.later hb)
  clear S16
  clear hb
  obtain ⟨t21, u21⟩ := (S18.out.box (w.heap.size, sa, .slice aa na ca, la) (List.mem_cons_of_mem _ (List.mem_cons_of_mem _ (List.mem_cons_of_mem _ (List.mem_cons_of_mem _ (List.mem_cons_of_mem _ (List.mem_cons_of_mem _ (List.mem_cons_of_mem _ List.mem_cons_self)))))))).cells
  obtain ⟨t22, u22⟩ := (S18.out.box (w.heap.size + 1, sb, .slice ab nb cb, lb) (List.mem_cons_of_mem _ (List.mem_cons_of_mem _ (List.mem_cons_of_mem _ (List.mem_cons_of_mem _ (List.mem_cons_of_mem _ (List.mem_cons_of_mem _ List.mem_cons_self))))))).cells
  go_wp2_with fail
  clear t21 u21 t22 u22
  refine ((HDIV.out _ _ _ ⟨_, rfl, (S18.out.box (w.heap.size, sa, .slice aa na ca, la) (List.mem_cons_of_mem _ (List.mem_cons_of_mem _ (List.mem_cons_of_mem _ (List.mem_cons_of_mem _ (List.mem_cons_of_mem _ (List.mem_cons_of_mem _ (List.mem_cons_of_mem _ List.mem_cons_self)))))))).2⟩ ⟨_, rfl, (S18.out.box (w.heap.size + 1, sb, .slice ab nb cb, lb) (List.mem_cons_of_mem _ (List.mem_cons_of_mem _ (List.mem_cons_of_mem _ (List.mem_cons_of_mem _ (List.mem_cons_of_mem _ (List.mem_cons_of_mem _ List.mem_cons_self))))))).2⟩).1).mono ?_
  rintro e w19 ⟨s19, t19, rfl, hi, hj, hb, hf, hg⟩
  obtain ⟨a19, c19, rfl, hi2⟩ := hi.open
  obtain ⟨q19, d19, rfl, hj2⟩ := hj.open
  have SL := S18.out.later hb
  have F19 := Lib.hid (SL.box (w7.heap.size, z1.sign, .slice a7 (digs z1.natAbs).length c7, digs z1.natAbs) (List.mem_cons_of_mem _ (List.mem_cons_of_mem _ (List.mem_cons_of_mem _ (List.mem_cons_of_mem _ (List.mem_cons_of_mem _ List.mem_cons_self))))))
  have U19 := Lib.hid (SL.box (w8.heap.size, z1.sign, .slice a8 (digs z1.natAbs).length c8, digs z1.natAbs) (List.mem_cons_of_mem _ (List.mem_cons_of_mem _ (List.mem_cons_of_mem _ (List.mem_cons_of_mem _ List.mem_cons_self)))))
  have SM := Sq.seto (pre := [(w12.heap.size, z3.sign, .slice a12 (digs z3.natAbs).length c12, digs z3.natAbs), (w11.heap.size, z3.sign, .slice a11 (digs z3.natAbs).length c11, digs z3.natAbs), (w10.heap.size, z2.sign, .slice a10 (digs z2.natAbs).length c10, digs z2.natAbs), (w9.heap.size, z2.sign, .slice a9 (digs z2.natAbs).length c9, digs z2.natAbs), (w8.heap.size, z1.sign, .slice a8 (digs z1.natAbs).length c8, digs z1.natAbs)]) (post := [(w.heap.size + 1, sb, .slice ab nb cb, lb), (w.heap.size, sa, .slice aa na ca, la)]) SL (sg' := z4.sign) hi2 (fun x hx => hf x.1 (S18.out.lt x hx))
  have oj := hg (w7.heap.size) (S18.out.lt (w7.heap.size, z1.sign, .slice a7 (digs z1.natAbs).length c7, digs z1.natAbs) (List.mem_cons_of_mem _ (List.mem_cons_of_mem _ (List.mem_cons_of_mem _ (List.mem_cons_of_mem _ (List.mem_cons_of_mem _ List.mem_cons_self))))))
  have S19 : Hid (Sq w [(w12.heap.size, z3.sign, .slice a12 (digs z3.natAbs).length c12, digs z3.natAbs), (w11.heap.size, z3.sign, .slice a11 (digs z3.natAbs).length c11, digs z3.natAbs), (w10.heap.size, z2.sign, .slice a10 (digs z2.natAbs).length c10, digs z2.natAbs), (w9.heap.size, z2.sign, .slice a9 (digs z2.natAbs).length c9, digs z2.natAbs), (w8.heap.size, z5.sign, .slice q19 (digs z5.natAbs).length d19, digs z5.natAbs), (w7.heap.size, z4.sign, .slice a19 (digs z4.natAbs).length c19, digs z4.natAbs), (w.heap.size + 1, sb, .slice ab nb cb, lb), (w.heap.size, sa, .slice aa na ca, la)] _) := Lib.hid (Sq.seto (pre := [(w12.heap.size, z3.sign, .slice a12 (digs z3.natAbs).length c12, digs z3.natAbs), (w11.heap.size, z3.sign, .slice a11 (digs z3.natAbs).length c11, digs z3.natAbs), (w10.heap.size, z2.sign, .slice a10 (digs z2.natAbs).length c10, digs z2.natAbs), (w9.heap.size, z2.sign, .slice a9 (digs z2.natAbs).length c9, digs z2.natAbs)]) (post := [(w7.heap.size, z4.sign, .slice a19 (digs z4.natAbs).length c19, digs z4.natAbs), (w.heap.size + 1, sb, .slice ab nb cb, lb), (w.heap.size, sa, .slice aa na ca, la)]) SM (sg' := z5.sign) ((hj2.set oj 0 _).set oj 1 _) (fun x hx => hg x.1 (S18.out.lts (L' := [(w12.heap.size, z3.sign, .slice a12 (digs z3.natAbs).length c12, digs z3.natAbs), (w11.heap.size, z3.sign, .slice a11 (digs z3.natAbs).length c11, digs z3.natAbs), (w10.heap.size, z2.sign, .slice a10 (digs z2.natAbs).length c10, digs z2.natAbs), (w9.heap.size, z2.sign, .slice a9 (digs z2.natAbs).length c9, digs z2.natAbs), (w8.heap.size, z1.sign, .slice a8 (digs z1.natAbs).length c8, digs z1.natAbs), (w7.heap.size, z4.sign, .slice a19 (digs z4.natAbs).length c19, digs z4.natAbs), (w.heap.size + 1, sb, .slice ab nb cb, lb), (w.heap.size, sa, .slice aa na ca, la)]) rfl x hx)))
  have U219 := Lib.hid (SM.box (w8.heap.size, z1.sign, .slice a8 (digs z1.natAbs).length c8, digs z1.natAbs) (by simp))
  clear hi hj hi2 hj2 hb hf hg SL SM oj S18
  obtain ⟨p1, p2⟩ := F19.out.cells
  obtain ⟨p3, p4⟩ := F19.out.free
  obtain ⟨p5, p6⟩ := U19.out.cells
  obtain ⟨p7, p8⟩ := U19.out.free
  obtain ⟨p9, p10⟩ := U219.out.cells
  obtain ⟨p11, p12⟩ := U219.out.free
  obtain ⟨t23, u23⟩ := (S19.out.box (w.heap.size, sa, .slice aa na ca, la) (List.mem_cons_of_mem _ (List.mem_cons_of_mem _ (List.mem_cons_of_mem _ (List.mem_cons_of_mem _ (List.mem_cons_of_mem _ (List.mem_cons_of_mem _ (List.mem_cons_of_mem _ List.mem_cons_self)))))))).cells
  obtain ⟨t24, u24⟩ := (S19.out.box (w.heap.size + 1, sb, .slice ab nb cb, lb) (List.mem_cons_of_mem _ (List.mem_cons_of_mem _ (List.mem_cons_of_mem _ (List.mem_cons_of_mem _ (List.mem_cons_of_mem _ (List.mem_cons_of_mem _ List.mem_cons_self))))))).cells
  go_wp2_with fail
  clear p1 p2 p3 p4 p5 p6 p7 p8 p9 p10 p11 p12 t23 u23 t24 u24
  refine ((HDIV.out _ _ _ ⟨_, rfl, (S19.out.box (w.heap.size, sa, .slice aa na ca, la) (List.mem_cons_of_mem _ (List.mem_cons_of_mem _ (List.mem_cons_of_mem _ (List.mem_cons_of_mem _ (List.mem_cons_of_mem _ (List.mem_cons_of_mem _ (List.mem_cons_of_mem _ List.mem_cons_self)))))))).2⟩ ⟨_, rfl, (S19.out.box (w.heap.size + 1, sb, .slice ab nb cb, lb) (List.mem_cons_of_mem _ (List.mem_cons_of_mem _ (List.mem_cons_of_mem _ (List.mem_cons_of_mem _ (List.mem_cons_of_mem _ (List.mem_cons_of_mem _ List.mem_cons_self))))))).2⟩).2).mono ?_
  rintro e w20 ⟨s20, t20, rfl, hi, hj, hb, hf, hg⟩
  obtain ⟨a20, c20, rfl, hi2⟩ := hi.open
  obtain ⟨q20, d20, rfl, hj2⟩ := hj.open
  have SL := S19.out.later hb
  have F20 := Lib.hid (SL.box (w9.heap.size, z2.sign, .slice a9 (digs z2.natAbs).length c9, digs z2.natAbs) (List.mem_cons_of_mem _ (List.mem_cons_of_mem _ (List.mem_cons_of_mem _ List.mem_cons_self))))
  have U20 := Lib.hid (SL.box (w10.heap.size, z2.sign, .slice a10 (digs z2.natAbs).length c10, digs z2.natAbs) (List.mem_cons_of_mem _ (List.mem_cons_of_mem _ List.mem_cons_self)))
  have SM := Sq.seto (pre := [(w12.heap.size, z3.sign, .slice a12 (digs z3.natAbs).length c12, digs z3.natAbs), (w11.heap.size, z3.sign, .slice a11 (digs z3.natAbs).length c11, digs z3.natAbs), (w10.heap.size, z2.sign, .slice a10 (digs z2.natAbs).length c10, digs z2.natAbs)]) (post := [(w8.heap.size, z5.sign, .slice q19 (digs z5.natAbs).length d19, digs z5.natAbs), (w7.heap.size, z4.sign, .slice a19 (digs z4.natAbs).length c19, digs z4.natAbs), (w.heap.size + 1, sb, .slice ab nb cb, lb), (w.heap.size, sa, .slice aa na ca, la)]) SL (sg' := z4.sign) hi2 (fun x hx => hf x.1 (S19.out.lt x hx))
  have oj := hg (w9.heap.size) (S19.out.lt (w9.heap.size, z2.sign, .slice a9 (digs z2.natAbs).length c9, digs z2.natAbs) (List.mem_cons_of_mem _ (List.mem_cons_of_mem _ (List.mem_cons_of_mem _ List.mem_cons_self))))
  have S20 : Hid (Sq w [(w12.heap.size, z3.sign, .slice a12 (digs z3.natAbs).length c12, digs z3.natAbs), (w11.heap.size, z3.sign, .slice a11 (digs z3.natAbs).length c11, digs z3.natAbs), (w10.heap.size, z5.sign, .slice q20 (digs z5.natAbs).length d20, digs z5.natAbs), (w9.heap.size, z4.sign, .slice a20 (digs z4.natAbs).length c20, digs z4.natAbs), (w8.heap.size, z5.sign, .slice q19 (digs z5.natAbs).length d19, digs z5.natAbs), (w7.heap.size, z4.sign, .slice a19 (digs z4.natAbs).length c19, digs z4.natAbs), (w.heap.size + 1, sb, .slice ab nb cb, lb), (w.heap.size, sa, .slice aa na ca, la)] _) := Lib.hid (Sq.seto (pre := [(w12.heap.size, z3.sign, .slice a12 (digs z3.natAbs).length c12, digs z3.natAbs), (w11.heap.size, z3.sign, .slice a11 (digs z3.natAbs).length c11, digs z3.natAbs)]) (post := [(w9.heap.size, z4.sign, .slice a20 (digs z4.natAbs).length c20, digs z4.natAbs), (w8.heap.size, z5.sign, .slice q19 (digs z5.natAbs).length d19, digs z5.natAbs), (w7.heap.size, z4.sign, .slice a19 (digs z4.natAbs).length c19, digs z4.natAbs), (w.heap.size + 1, sb, .slice ab nb cb, lb), (w.heap.size, sa, .slice aa na ca, la)]) SM (sg' := z5.sign) ((hj2.set oj 0 _).set oj 1 _) (fun x hx => hg x.1 (S19.out.lts (L' := [(w12.heap.size, z3.sign, .slice a12 (digs z3.natAbs).length c12, digs z3.natAbs), (w11.heap.size, z3.sign, .slice a11 (digs z3.natAbs).length c11, digs z3.natAbs), (w10.heap.size, z2.sign, .slice a10 (digs z2.natAbs).length c10, digs z2.natAbs), (w9.heap.size, z4.sign, .slice a20 (digs z4.natAbs).length c20, digs z4.natAbs), (w8.heap.size, z5.sign, .slice q19 (digs z5.natAbs).length d19, digs z5.natAbs), (w7.heap.size, z4.sign, .slice a19 (digs z4.natAbs).length c19, digs z4.natAbs), (w.heap.size + 1, sb, .slice ab nb cb, lb), (w.heap.size, sa, .slice aa na ca, la)]) rfl x hx)))
  have U220 := Lib.hid (SM.box (w10.heap.size, z2.sign, .slice a10 (digs z2.natAbs).length c10, digs z2.natAbs) (by simp))
  clear hi hj hi2 hj2 hb hf hg SL SM oj S19
  obtain ⟨p1, p2⟩ := F20.out.cells
  obtain ⟨p3, p4⟩ := F20.out.free
  obtain ⟨p5, p6⟩ := U20.out.cells
  obtain ⟨p7, p8⟩ := U20.out.free
  obtain ⟨p9, p10⟩ := U220.out.cells
  obtain ⟨p11, p12⟩ := U220.out.free
  obtain ⟨t25, u25⟩ := (S20.out.box (w.heap.size, sa, .slice aa na ca, la) (List.mem_cons_of_mem _ (List.mem_cons_of_mem _ (List.mem_cons_of_mem _ (List.mem_cons_of_mem _ (List.mem_cons_of_mem _ (List.mem_cons_of_mem _ (List.mem_cons_of_mem _ List.mem_cons_self)))))))).cells
  go_wp2_with fail
  clear p1 p2 p3 p4 p5 p6 p7 p8 p9 p10 p11 p12 t25 u25
  refine ((HINT.out _ _ ⟨_, rfl, (S20.out.box (w.heap.size, sa, .slice aa na ca, la) (List.mem_cons_of_mem _ (List.mem_cons_of_mem _ (List.mem_cons_of_mem _ (List.mem_cons_of_mem _ (List.mem_cons_of_mem _ (List.mem_cons_of_mem _ (List.mem_cons_of_mem _ List.mem_cons_self)))))))).2⟩).1).mono ?_
  rintro e w21 ⟨rfl, hb⟩
  have S22 := Lib.hid (S20.out.later hb)
  clear S20
  clear hb
  obtain ⟨t26, u26⟩ := (S22.out.box (w.heap.size, sa, .slice aa na ca, la) (List.mem_cons_of_mem _ (List.mem_cons_of_mem _ (List.mem_cons_of_mem _ (List.mem_cons_of_mem _ (List.mem_cons_of_mem _ (List.mem_cons_of_mem _ (List.mem_cons_of_mem _ List.mem_cons_self)))))))).cells
  go_wp2_with fail
  clear t26 u26
  refine ((HINT.out _ _ ⟨_, rfl, (S22.out.box (w.heap.size, sa, .slice aa na ca, la) (List.mem_cons_of_mem _ (List.mem_cons_of_mem _ (List.mem_cons_of_mem _ (List.mem_cons_of_mem _ (List.mem_cons_of_mem _ (List.mem_cons_of_mem _ (List.mem_cons_of_mem _ List.mem_cons_self)))))))).2⟩).2).mono ?_
  rintro e w23 ⟨rfl, hb⟩
  have S24 := Lib.hid (S22.out.later hb)
  clear S22
  clear hb
  go_wp2_with fail
  refine ((HREAD.out _).1).mono ?_
  rintro e w25 ⟨s25, rfl, hi, hb, hf⟩
  obtain ⟨a25, c25, rfl, hj⟩ := hi.open
  have S25 := Lib.hid (S24.out.ret (sg := z6.sign) hb hj hf)
  clear hi hj hb hf S24
  go_wp2_with fail
  refine ((HREAD.out _).2).mono ?_
  rintro e w26 ⟨s26, rfl, hi, hb, hf⟩
  obtain ⟨a26, c26, rfl, hj⟩ := hi.open
  have S26 := Lib.hid (S25.out.ret (sg := z6.sign) hb hj hf)
  clear hi hj hb hf S25
  obtain ⟨t27, u27⟩ := (S26.out.box (w7.heap.size, z4.sign, .slice a19 (digs z4.natAbs).length c19, digs z4.natAbs) (List.mem_cons_of_mem _ (List.mem_cons_of_mem _ (List.mem_cons_of_mem _ (List.mem_cons_of_mem _ (List.mem_cons_of_mem _ (List.mem_cons_of_mem _ (List.mem_cons_of_mem _ List.mem_cons_self)))))))).cells
  obtain ⟨t28, u28⟩ := (S26.out.box (w9.heap.size, z4.sign, .slice a20 (digs z4.natAbs).length c20, digs z4.natAbs) (List.mem_cons_of_mem _ (List.mem_cons_of_mem _ (List.mem_cons_of_mem _ (List.mem_cons_of_mem _ (List.mem_cons_of_mem _ List.mem_cons_self)))))).cells
  go_wp2_with fail
  clear t27 u27 t28 u28
  refine (rsame_self ⟨_, rfl, (S26.out.box (w7.heap.size, z4.sign, .slice a19 (digs z4.natAbs).length c19, digs z4.natAbs) (List.mem_cons_of_mem _ (List.mem_cons_of_mem _ (List.mem_cons_of_mem _ (List.mem_cons_of_mem _ (List.mem_cons_of_mem _ (List.mem_cons_of_mem _ (List.mem_cons_of_mem _ List.mem_cons_self)))))))).2⟩ ⟨_, rfl, (S26.out.box (w9.heap.size, z4.sign, .slice a20 (digs z4.natAbs).length c20, digs z4.natAbs) (List.mem_cons_of_mem _ (List.mem_cons_of_mem _ (List.mem_cons_of_mem _ (List.mem_cons_of_mem _ (List.mem_cons_of_mem _ List.mem_cons_self)))))).2⟩).mono ?_
  rintro e w27 ⟨rfl, hb⟩
  have S28 := Lib.hid (S26.out.later hb)
  clear S26
  clear hb
  obtain ⟨t29, u29⟩ := (S28.out.box (w8.heap.size, z5.sign, .slice q19 (digs z5.natAbs).length d19, digs z5.natAbs) (List.mem_cons_of_mem _ (List.mem_cons_of_mem _ (List.mem_cons_of_mem _ (List.mem_cons_of_mem _ (List.mem_cons_of_mem _ (List.mem_cons_of_mem _ List.mem_cons_self))))))).cells
  obtain ⟨t30, u30⟩ := (S28.out.box (w10.heap.size, z5.sign, .slice q20 (digs z5.natAbs).length d20, digs z5.natAbs) (List.mem_cons_of_mem _ (List.mem_cons_of_mem _ (List.mem_cons_of_mem _ (List.mem_cons_of_mem _ List.mem_cons_self))))).cells
  go_wp2_with fail
  clear t29 u29 t30 u30
  refine (rsame_self ⟨_, rfl, (S28.out.box (w8.heap.size, z5.sign, .slice q19 (digs z5.natAbs).length d19, digs z5.natAbs) (List.mem_cons_of_mem _ (List.mem_cons_of_mem _ (List.mem_cons_of_mem _ (List.mem_cons_of_mem _ (List.mem_cons_of_mem _ (List.mem_cons_of_mem _ List.mem_cons_self))))))).2⟩ ⟨_, rfl, (S28.out.box (w10.heap.size, z5.sign, .slice q20 (digs z5.natAbs).length d20, digs z5.natAbs) (List.mem_cons_of_mem _ (List.mem_cons_of_mem _ (List.mem_cons_of_mem _ (List.mem_cons_of_mem _ List.mem_cons_self))))).2⟩).mono ?_
  rintro e w29 ⟨rfl, hb⟩
  have S30 := Lib.hid (S28.out.later hb)
  clear S28
  clear hb
  obtain ⟨t31, u31⟩ := (S30.out.box (w25.heap.size, z6.sign, .slice a25 (digs z6.natAbs).length c25, digs z6.natAbs) (List.mem_cons_of_mem _ List.mem_cons_self)).cells
  obtain ⟨t32, u32⟩ := (S30.out.box (w26.heap.size, z6.sign, .slice a26 (digs z6.natAbs).length c26, digs z6.natAbs) List.mem_cons_self).cells
  go_wp2_with fail
  clear t31 u31 t32 u32
  refine (rsame_self ⟨_, rfl, (S30.out.box (w25.heap.size, z6.sign, .slice a25 (digs z6.natAbs).length c25, digs z6.natAbs) (List.mem_cons_of_mem _ List.mem_cons_self)).2⟩ ⟨_, rfl, (S30.out.box (w26.heap.size, z6.sign, .slice a26 (digs z6.natAbs).length c26, digs z6.natAbs) List.mem_cons_self).2⟩).mono ?_
  rintro e w31 ⟨rfl, hb⟩
  have S32 := Lib.hid (S30.out.later hb)
  clear S30
  clear hb
  obtain ⟨t33, u33⟩ := (S32.out.box (w.heap.size, sa, .slice aa na ca, la) (List.mem_cons_of_mem _ (List.mem_cons_of_mem _ (List.mem_cons_of_mem _ (List.mem_cons_of_mem _ (List.mem_cons_of_mem _ (List.mem_cons_of_mem _ (List.mem_cons_of_mem _ (List.mem_cons_of_mem _ (List.mem_cons_of_mem _ List.mem_cons_self)))))))))).cells
  go_wp2_with fail
  clear t33 u33
  refine (few_any sa _ la 16 _ (S32.out.box (w.heap.size, sa, .slice aa na ca, la) (List.mem_cons_of_mem _ (List.mem_cons_of_mem _ (List.mem_cons_of_mem _ (List.mem_cons_of_mem _ (List.mem_cons_of_mem _ (List.mem_cons_of_mem _ (List.mem_cons_of_mem _ (List.mem_cons_of_mem _ (List.mem_cons_of_mem _ List.mem_cons_self)))))))))).2 ga Ga.out).mono ?_
  rintro e w33 ⟨rfl, hb⟩
  have S34 := Lib.hid (S32.out.later hb)
  clear S32
  clear hb
  cases ga
  case false =>
    go_wp2_with fail
    have TD := Lib.hid S34.out.drew
    clear S34
    have KK : Hid (∀ W, Sq w [(w26.heap.size, z6.sign, .slice a26 (digs z6.natAbs).length c26, digs z6.natAbs), (w25.heap.size, z6.sign, .slice a25 (digs z6.natAbs).length c25, digs z6.natAbs), (w12.heap.size, z3.sign, .slice a12 (digs z3.natAbs).length c12, digs z3.natAbs), (w11.heap.size, z3.sign, .slice a11 (digs z3.natAbs).length c11, digs z3.natAbs), (w10.heap.size, z5.sign, .slice q20 (digs z5.natAbs).length d20, digs z5.natAbs), (w9.heap.size, z4.sign, .slice a20 (digs z4.natAbs).length c20, digs z4.natAbs), (w8.heap.size, z5.sign, .slice q19 (digs z5.natAbs).length d19, digs z5.natAbs), (w7.heap.size, z4.sign, .slice a19 (digs z4.natAbs).length c19, digs z4.natAbs), (w.heap.size + 1, sb, .slice ab nb cb, lb), (w.heap.size, sa, .slice aa na ca, la)] W → (W.cell? ⟨w.heap.size, 0, none⟩ = some (.int .i64 sa) ∧ W.cell? ⟨w.heap.size, 1, none⟩ = some (.slice aa na ca)) ∧ W.cell? ⟨w.heap.size + 1, 0, none⟩ = some (.int .i64 sb) ∧ W.cell? ⟨w.heap.size + 1, 1, none⟩ = some (.slice ab nb cb)) := fun W h => ⟨(h.box (w.heap.size, sa, .slice aa na ca, la) (List.mem_cons_of_mem _ (List.mem_cons_of_mem _ (List.mem_cons_of_mem _ (List.mem_cons_of_mem _ (List.mem_cons_of_mem _ (List.mem_cons_of_mem _ (List.mem_cons_of_mem _ (List.mem_cons_of_mem _ (List.mem_cons_of_mem _ List.mem_cons_self)))))))))).cells, (h.box (w.heap.size + 1, sb, .slice ab nb cb, lb) (List.mem_cons_of_mem _ (List.mem_cons_of_mem _ (List.mem_cons_of_mem _ (List.mem_cons_of_mem _ (List.mem_cons_of_mem _ (List.mem_cons_of_mem _ (List.mem_cons_of_mem _ (List.mem_cons_of_mem _ List.mem_cons_self))))))))).cells⟩
    have KA : Hid (∀ W, Sq w [(w26.heap.size, z6.sign, .slice a26 (digs z6.natAbs).length c26, digs z6.natAbs), (w25.heap.size, z6.sign, .slice a25 (digs z6.natAbs).length c25, digs z6.natAbs), (w12.heap.size, z3.sign, .slice a12 (digs z3.natAbs).length c12, digs z3.natAbs), (w11.heap.size, z3.sign, .slice a11 (digs z3.natAbs).length c11, digs z3.natAbs), (w10.heap.size, z5.sign, .slice q20 (digs z5.natAbs).length d20, digs z5.natAbs), (w9.heap.size, z4.sign, .slice a20 (digs z4.natAbs).length c20, digs z4.natAbs), (w8.heap.size, z5.sign, .slice q19 (digs z5.natAbs).length d19, digs z5.natAbs), (w7.heap.size, z4.sign, .slice a19 (digs z4.natAbs).length c19, digs z4.natAbs), (w.heap.size + 1, sb, .slice ab nb cb, lb), (w.heap.size, sa, .slice aa na ca, la)] W → Arg W (.agg #[.int .i64 sa, .slice aa na ca]) sa la) := fun W h => ⟨_, rfl, (h.box (w.heap.size, sa, .slice aa na ca, la) (List.mem_cons_of_mem _ (List.mem_cons_of_mem _ (List.mem_cons_of_mem _ (List.mem_cons_of_mem _ (List.mem_cons_of_mem _ (List.mem_cons_of_mem _ (List.mem_cons_of_mem _ (List.mem_cons_of_mem _ (List.mem_cons_of_mem _ List.mem_cons_self)))))))))).2⟩
    have KB : Hid (∀ W, Sq w [(w26.heap.size, z6.sign, .slice a26 (digs z6.natAbs).length c26, digs z6.natAbs), (w25.heap.size, z6.sign, .slice a25 (digs z6.natAbs).length c25, digs z6.natAbs), (w12.heap.size, z3.sign, .slice a12 (digs z3.natAbs).length c12, digs z3.natAbs), (w11.heap.size, z3.sign, .slice a11 (digs z3.natAbs).length c11, digs z3.natAbs), (w10.heap.size, z5.sign, .slice q20 (digs z5.natAbs).length d20, digs z5.natAbs), (w9.heap.size, z4.sign, .slice a20 (digs z4.natAbs).length c20, digs z4.natAbs), (w8.heap.size, z5.sign, .slice q19 (digs z5.natAbs).length d19, digs z5.natAbs), (w7.heap.size, z4.sign, .slice a19 (digs z4.natAbs).length c19, digs z4.natAbs), (w.heap.size + 1, sb, .slice ab nb cb, lb), (w.heap.size, sa, .slice aa na ca, la)] W → Arg W (.agg #[.int .i64 sb, .slice ab nb cb]) sb lb) := fun W h => ⟨_, rfl, (h.box (w.heap.size + 1, sb, .slice ab nb cb, lb) (List.mem_cons_of_mem _ (List.mem_cons_of_mem _ (List.mem_cons_of_mem _ (List.mem_cons_of_mem _ (List.mem_cons_of_mem _ (List.mem_cons_of_mem _ (List.mem_cons_of_mem _ (List.mem_cons_of_mem _ List.mem_cons_self))))))))).2⟩
    have KE : Hid (∀ W, Sq w [(w26.heap.size, z6.sign, .slice a26 (digs z6.natAbs).length c26, digs z6.natAbs), (w25.heap.size, z6.sign, .slice a25 (digs z6.natAbs).length c25, digs z6.natAbs), (w12.heap.size, z3.sign, .slice a12 (digs z3.natAbs).length c12, digs z3.natAbs), (w11.heap.size, z3.sign, .slice a11 (digs z3.natAbs).length c11, digs z3.natAbs), (w10.heap.size, z5.sign, .slice q20 (digs z5.natAbs).length d20, digs z5.natAbs), (w9.heap.size, z4.sign, .slice a20 (digs z4.natAbs).length c20, digs z4.natAbs), (w8.heap.size, z5.sign, .slice q19 (digs z5.natAbs).length d19, digs z5.natAbs), (w7.heap.size, z4.sign, .slice a19 (digs z4.natAbs).length c19, digs z4.natAbs), (w.heap.size + 1, sb, .slice ab nb cb, lb), (w.heap.size, sa, .slice aa na ca, la)] W → Env W) := fun W h => h.env HE.out
    have k0 := KK.out _ TD.out
    go_region_held3 (fun W => (W.cell? ⟨w.heap.size, 0, none⟩ = some (.int .i64 sa) ∧ W.cell? ⟨w.heap.size, 1, none⟩ = some (.slice aa na ca)) ∧ W.cell? ⟨w.heap.size + 1, 0, none⟩ = some (.int .i64 sb) ∧ W.cell? ⟨w.heap.size + 1, 1, none⟩ = some (.slice ab nb cb))
      (first | (with_reducible exact k0) | (with_reducible exact k1) | (with_reducible exact k2) | (with_reducible exact k3) | (with_reducible exact k4) | (with_reducible exact k5) | (with_reducible exact k6) | (with_reducible exact k7) | (with_reducible exact k8))
      (first
        | (go_at_call 21; (with_reducible refine (right_any _ sa la _ (KA.out _ TD.out)).mono ?_); rintro e vv ⟨rfl, hb⟩; have KT1 := Lib.hid (TD.out.later hb); have k1 := KK.out _ KT1.out; clear hb)
        | (go_at_call 22; (with_reducible refine (rright_any _ sa la _ (KA.out _ KT1.out)).mono ?_); rintro e vv ⟨rfl, hb⟩; have KT2 := Lib.hid (KT1.out.later hb); have k2 := KK.out _ KT2.out; clear hb)
        | (go_at_call 23; (with_reducible refine ((HCMP.out _ _ _ (KA.out _ KT2.out) (KB.out _ KT2.out)).1).mono ?_); rintro e vv ⟨rfl, hb⟩; have KT3 := Lib.hid (KT2.out.later hb); have k3 := KK.out _ KT3.out; clear hb)
        | (go_at_call 24; (with_reducible refine ((HCMP.out _ _ _ (KA.out _ KT3.out) (KB.out _ KT3.out)).2).mono ?_); rintro e vv ⟨rfl, hb⟩; have KT4 := Lib.hid (KT3.out.later hb); have k4 := KK.out _ KT4.out; clear hb)
        | (go_at_call 25; (with_reducible refine (same_any _ _ sa sb la lb _ (KA.out _ KT4.out) (KB.out _ KT4.out)).mono ?_); rintro e vv ⟨rfl, hb⟩; have KT5 := Lib.hid (KT4.out.later hb); have k5 := KK.out _ KT5.out; clear hb)
        | (go_at_call 12; (with_reducible refine (rsame_any _ _ sa sb la lb _ (KA.out _ KT5.out) (KB.out _ KT5.out)).mono ?_); rintro e vv ⟨rfl, hb⟩; have KT6 := Lib.hid (KT5.out.later hb); have k6 := KK.out _ KT6.out; clear hb)
        | (go_at_call 26; (with_reducible refine ((HTEXT.out _ _ (KE.out _ KT6.out) (KA.out _ KT6.out)).1).mono ?_); rintro e vv ⟨rfl, hb⟩; have KT7 := Lib.hid (KT6.out.later hb); have k7 := KK.out _ KT7.out; clear hb)
        | (go_at_call 27; (with_reducible refine ((HTEXT.out _ _ (KE.out _ KT7.out) (KA.out _ KT7.out)).2).mono ?_); rintro e vv ⟨rfl, hb⟩; have KT8 := Lib.hid (KT7.out.later hb); have k8 := KK.out _ KT8.out; clear hb))
    go_wp2_with fail
    have TE := Lib.hid KT8.out.drew
    clear KT8
    have j0 := KK.out _ TE.out
    go_region_held3 (fun W => (W.cell? ⟨w.heap.size, 0, none⟩ = some (.int .i64 sa) ∧ W.cell? ⟨w.heap.size, 1, none⟩ = some (.slice aa na ca)) ∧ W.cell? ⟨w.heap.size + 1, 0, none⟩ = some (.int .i64 sb) ∧ W.cell? ⟨w.heap.size + 1, 1, none⟩ = some (.slice ab nb cb))
      (first | (with_reducible exact j0) | (with_reducible exact j1) | (with_reducible exact j2) | (with_reducible exact j3) | (with_reducible exact j4) | (with_reducible exact j5) | (with_reducible exact j6))
      (first
        | (go_at_call 28; (with_reducible refine ((HNEG.out _ _ (KA.out _ TE.out)).1).mono ?_); rintro e vv ⟨sv1, rfl, hi, hb, _⟩; obtain ⟨av1, cv1, rfl, hj⟩ := hi.open; have I1 : Hid (Arg _ (.agg #[.int .i64 z8.sign, .slice av1 (digs z8.natAbs).length cv1]) z8.sign (digs z8.natAbs)) := Lib.hid ⟨_, rfl, hj⟩; clear hi hj; have JT1 := Lib.hid (TE.out.later hb); have j1 := KK.out _ JT1.out; clear hb)
        | (go_at_call 29; (with_reducible refine ((HNEG.out _ _ (KA.out _ JT1.out)).2).mono ?_); rintro e vv ⟨sv2, rfl, hi, hb, _⟩; obtain ⟨av2, cv2, rfl, hj⟩ := hi.open; have I2 : Hid (Arg _ (.agg #[.int .i64 z8.sign, .slice av2 (digs z8.natAbs).length cv2]) z8.sign (digs z8.natAbs)) := Lib.hid ⟨_, rfl, hj⟩; clear hi hj; have I1 := Lib.hid (argl I1.out hb); have JT2 := Lib.hid (JT1.out.later hb); have j2 := KK.out _ JT2.out; clear hb)
        | (go_at_call 12; (with_reducible refine (rsame_self I1.out I2.out).mono ?_); rintro e vv ⟨rfl, hb⟩; have JT3 := Lib.hid (JT2.out.later hb); have j3 := KK.out _ JT3.out; clear hb)
        | (go_at_call 30; (with_reducible refine (of_any n HNN.out.1 HNN.out.2 _).mono ?_); rintro e vv ⟨sv3, rfl, hi, hb, _⟩; obtain ⟨av3, cv3, rfl, hj⟩ := hi.open; have I3 : Hid (Arg _ (.agg #[.int .i64 n.sign, .slice av3 (digs n.natAbs).length cv3]) n.sign (digs n.natAbs)) := Lib.hid ⟨_, rfl, hj⟩; clear hi hj; have JT4 := Lib.hid (JT3.out.later hb); have j4 := KK.out _ JT4.out; clear hb)
        | (go_at_call 31; (with_reducible refine (rof_any n HNN.out.1 HNN.out.2 _).mono ?_); rintro e vv ⟨sv4, rfl, hi, hb, _⟩; obtain ⟨av4, cv4, rfl, hj⟩ := hi.open; have I4 : Hid (Arg _ (.agg #[.int .i64 n.sign, .slice av4 (digs n.natAbs).length cv4]) n.sign (digs n.natAbs)) := Lib.hid ⟨_, rfl, hj⟩; clear hi hj; have I3 := Lib.hid (argl I3.out hb); have JT5 := Lib.hid (JT4.out.later hb); have j5 := KK.out _ JT5.out; clear hb)
        | (go_at_call 12; (with_reducible refine (rsame_self I3.out I4.out).mono ?_); rintro e vv ⟨rfl, hb⟩; have JT6 := Lib.hid (JT5.out.later hb); have j6 := KK.out _ JT6.out; clear hb))
    go_wp2_with fail
    go_ret
    exact ⟨rfl, JT6.out.below⟩
  obtain ⟨t34, u34⟩ := (S34.out.box (w.heap.size + 1, sb, .slice ab nb cb, lb) (List.mem_cons_of_mem _ (List.mem_cons_of_mem _ (List.mem_cons_of_mem _ (List.mem_cons_of_mem _ (List.mem_cons_of_mem _ (List.mem_cons_of_mem _ (List.mem_cons_of_mem _ (List.mem_cons_of_mem _ List.mem_cons_self))))))))).cells
  go_wp2_with fail
  clear t34 u34
  refine (few_any sb _ lb 16 _ (S34.out.box (w.heap.size + 1, sb, .slice ab nb cb, lb) (List.mem_cons_of_mem _ (List.mem_cons_of_mem _ (List.mem_cons_of_mem _ (List.mem_cons_of_mem _ (List.mem_cons_of_mem _ (List.mem_cons_of_mem _ (List.mem_cons_of_mem _ (List.mem_cons_of_mem _ List.mem_cons_self))))))))).2 gb Gb.out).mono ?_
  rintro e w35 ⟨rfl, hb⟩
  have S36 := Lib.hid (S34.out.later hb)
  clear S34
  clear hb
  cases gb
  case false =>
    go_wp2_with fail
    have TD := Lib.hid S36.out.drew
    clear S36
    have KK : Hid (∀ W, Sq w [(w26.heap.size, z6.sign, .slice a26 (digs z6.natAbs).length c26, digs z6.natAbs), (w25.heap.size, z6.sign, .slice a25 (digs z6.natAbs).length c25, digs z6.natAbs), (w12.heap.size, z3.sign, .slice a12 (digs z3.natAbs).length c12, digs z3.natAbs), (w11.heap.size, z3.sign, .slice a11 (digs z3.natAbs).length c11, digs z3.natAbs), (w10.heap.size, z5.sign, .slice q20 (digs z5.natAbs).length d20, digs z5.natAbs), (w9.heap.size, z4.sign, .slice a20 (digs z4.natAbs).length c20, digs z4.natAbs), (w8.heap.size, z5.sign, .slice q19 (digs z5.natAbs).length d19, digs z5.natAbs), (w7.heap.size, z4.sign, .slice a19 (digs z4.natAbs).length c19, digs z4.natAbs), (w.heap.size + 1, sb, .slice ab nb cb, lb), (w.heap.size, sa, .slice aa na ca, la)] W → (W.cell? ⟨w.heap.size, 0, none⟩ = some (.int .i64 sa) ∧ W.cell? ⟨w.heap.size, 1, none⟩ = some (.slice aa na ca)) ∧ W.cell? ⟨w.heap.size + 1, 0, none⟩ = some (.int .i64 sb) ∧ W.cell? ⟨w.heap.size + 1, 1, none⟩ = some (.slice ab nb cb)) := fun W h => ⟨(h.box (w.heap.size, sa, .slice aa na ca, la) (List.mem_cons_of_mem _ (List.mem_cons_of_mem _ (List.mem_cons_of_mem _ (List.mem_cons_of_mem _ (List.mem_cons_of_mem _ (List.mem_cons_of_mem _ (List.mem_cons_of_mem _ (List.mem_cons_of_mem _ (List.mem_cons_of_mem _ List.mem_cons_self)))))))))).cells, (h.box (w.heap.size + 1, sb, .slice ab nb cb, lb) (List.mem_cons_of_mem _ (List.mem_cons_of_mem _ (List.mem_cons_of_mem _ (List.mem_cons_of_mem _ (List.mem_cons_of_mem _ (List.mem_cons_of_mem _ (List.mem_cons_of_mem _ (List.mem_cons_of_mem _ List.mem_cons_self))))))))).cells⟩
    have KA : Hid (∀ W, Sq w [(w26.heap.size, z6.sign, .slice a26 (digs z6.natAbs).length c26, digs z6.natAbs), (w25.heap.size, z6.sign, .slice a25 (digs z6.natAbs).length c25, digs z6.natAbs), (w12.heap.size, z3.sign, .slice a12 (digs z3.natAbs).length c12, digs z3.natAbs), (w11.heap.size, z3.sign, .slice a11 (digs z3.natAbs).length c11, digs z3.natAbs), (w10.heap.size, z5.sign, .slice q20 (digs z5.natAbs).length d20, digs z5.natAbs), (w9.heap.size, z4.sign, .slice a20 (digs z4.natAbs).length c20, digs z4.natAbs), (w8.heap.size, z5.sign, .slice q19 (digs z5.natAbs).length d19, digs z5.natAbs), (w7.heap.size, z4.sign, .slice a19 (digs z4.natAbs).length c19, digs z4.natAbs), (w.heap.size + 1, sb, .slice ab nb cb, lb), (w.heap.size, sa, .slice aa na ca, la)] W → Arg W (.agg #[.int .i64 sa, .slice aa na ca]) sa la) := fun W h => ⟨_, rfl, (h.box (w.heap.size, sa, .slice aa na ca, la) (List.mem_cons_of_mem _ (List.mem_cons_of_mem _ (List.mem_cons_of_mem _ (List.mem_cons_of_mem _ (List.mem_cons_of_mem _ (List.mem_cons_of_mem _ (List.mem_cons_of_mem _ (List.mem_cons_of_mem _ (List.mem_cons_of_mem _ List.mem_cons_self)))))))))).2⟩
    have KB : Hid (∀ W, Sq w [(w26.heap.size, z6.sign, .slice a26 (digs z6.natAbs).length c26, digs z6.natAbs), (w25.heap.size, z6.sign, .slice a25 (digs z6.natAbs).length c25, digs z6.natAbs), (w12.heap.size, z3.sign, .slice a12 (digs z3.natAbs).length c12, digs z3.natAbs), (w11.heap.size, z3.sign, .slice a11 (digs z3.natAbs).length c11, digs z3.natAbs), (w10.heap.size, z5.sign, .slice q20 (digs z5.natAbs).length d20, digs z5.natAbs), (w9.heap.size, z4.sign, .slice a20 (digs z4.natAbs).length c20, digs z4.natAbs), (w8.heap.size, z5.sign, .slice q19 (digs z5.natAbs).length d19, digs z5.natAbs), (w7.heap.size, z4.sign, .slice a19 (digs z4.natAbs).length c19, digs z4.natAbs), (w.heap.size + 1, sb, .slice ab nb cb, lb), (w.heap.size, sa, .slice aa na ca, la)] W → Arg W (.agg #[.int .i64 sb, .slice ab nb cb]) sb lb) := fun W h => ⟨_, rfl, (h.box (w.heap.size + 1, sb, .slice ab nb cb, lb) (List.mem_cons_of_mem _ (List.mem_cons_of_mem _ (List.mem_cons_of_mem _ (List.mem_cons_of_mem _ (List.mem_cons_of_mem _ (List.mem_cons_of_mem _ (List.mem_cons_of_mem _ (List.mem_cons_of_mem _ List.mem_cons_self))))))))).2⟩
    have KE : Hid (∀ W, Sq w [(w26.heap.size, z6.sign, .slice a26 (digs z6.natAbs).length c26, digs z6.natAbs), (w25.heap.size, z6.sign, .slice a25 (digs z6.natAbs).length c25, digs z6.natAbs), (w12.heap.size, z3.sign, .slice a12 (digs z3.natAbs).length c12, digs z3.natAbs), (w11.heap.size, z3.sign, .slice a11 (digs z3.natAbs).length c11, digs z3.natAbs), (w10.heap.size, z5.sign, .slice q20 (digs z5.natAbs).length d20, digs z5.natAbs), (w9.heap.size, z4.sign, .slice a20 (digs z4.natAbs).length c20, digs z4.natAbs), (w8.heap.size, z5.sign, .slice q19 (digs z5.natAbs).length d19, digs z5.natAbs), (w7.heap.size, z4.sign, .slice a19 (digs z4.natAbs).length c19, digs z4.natAbs), (w.heap.size + 1, sb, .slice ab nb cb, lb), (w.heap.size, sa, .slice aa na ca, la)] W → Env W) := fun W h => h.env HE.out
    have k0 := KK.out _ TD.out
    go_region_held3 (fun W => (W.cell? ⟨w.heap.size, 0, none⟩ = some (.int .i64 sa) ∧ W.cell? ⟨w.heap.size, 1, none⟩ = some (.slice aa na ca)) ∧ W.cell? ⟨w.heap.size + 1, 0, none⟩ = some (.int .i64 sb) ∧ W.cell? ⟨w.heap.size + 1, 1, none⟩ = some (.slice ab nb cb))
      (first | (with_reducible exact k0) | (with_reducible exact k1) | (with_reducible exact k2) | (with_reducible exact k3) | (with_reducible exact k4) | (with_reducible exact k5) | (with_reducible exact k6) | (with_reducible exact k7) | (with_reducible exact k8))
      (first
        | (go_at_call 21; (with_reducible refine (right_any _ sa la _ (KA.out _ TD.out)).mono ?_); rintro e vv ⟨rfl, hb⟩; have KT1 := Lib.hid (TD.out.later hb); have k1 := KK.out _ KT1.out; clear hb)
        | (go_at_call 22; (with_reducible refine (rright_any _ sa la _ (KA.out _ KT1.out)).mono ?_); rintro e vv ⟨rfl, hb⟩; have KT2 := Lib.hid (KT1.out.later hb); have k2 := KK.out _ KT2.out; clear hb)
        | (go_at_call 23; (with_reducible refine ((HCMP.out _ _ _ (KA.out _ KT2.out) (KB.out _ KT2.out)).1).mono ?_); rintro e vv ⟨rfl, hb⟩; have KT3 := Lib.hid (KT2.out.later hb); have k3 := KK.out _ KT3.out; clear hb)
        | (go_at_call 24; (with_reducible refine ((HCMP.out _ _ _ (KA.out _ KT3.out) (KB.out _ KT3.out)).2).mono ?_); rintro e vv ⟨rfl, hb⟩; have KT4 := Lib.hid (KT3.out.later hb); have k4 := KK.out _ KT4.out; clear hb)
        | (go_at_call 25; (with_reducible refine (same_any _ _ sa sb la lb _ (KA.out _ KT4.out) (KB.out _ KT4.out)).mono ?_); rintro e vv ⟨rfl, hb⟩; have KT5 := Lib.hid (KT4.out.later hb); have k5 := KK.out _ KT5.out; clear hb)
        | (go_at_call 12; (with_reducible refine (rsame_any _ _ sa sb la lb _ (KA.out _ KT5.out) (KB.out _ KT5.out)).mono ?_); rintro e vv ⟨rfl, hb⟩; have KT6 := Lib.hid (KT5.out.later hb); have k6 := KK.out _ KT6.out; clear hb)
        | (go_at_call 26; (with_reducible refine ((HTEXT.out _ _ (KE.out _ KT6.out) (KA.out _ KT6.out)).1).mono ?_); rintro e vv ⟨rfl, hb⟩; have KT7 := Lib.hid (KT6.out.later hb); have k7 := KK.out _ KT7.out; clear hb)
        | (go_at_call 27; (with_reducible refine ((HTEXT.out _ _ (KE.out _ KT7.out) (KA.out _ KT7.out)).2).mono ?_); rintro e vv ⟨rfl, hb⟩; have KT8 := Lib.hid (KT7.out.later hb); have k8 := KK.out _ KT8.out; clear hb))
    go_wp2_with fail
    have TE := Lib.hid KT8.out.drew
    clear KT8
    have j0 := KK.out _ TE.out
    go_region_held3 (fun W => (W.cell? ⟨w.heap.size, 0, none⟩ = some (.int .i64 sa) ∧ W.cell? ⟨w.heap.size, 1, none⟩ = some (.slice aa na ca)) ∧ W.cell? ⟨w.heap.size + 1, 0, none⟩ = some (.int .i64 sb) ∧ W.cell? ⟨w.heap.size + 1, 1, none⟩ = some (.slice ab nb cb))
      (first | (with_reducible exact j0) | (with_reducible exact j1) | (with_reducible exact j2) | (with_reducible exact j3) | (with_reducible exact j4) | (with_reducible exact j5) | (with_reducible exact j6))
      (first
        | (go_at_call 28; (with_reducible refine ((HNEG.out _ _ (KA.out _ TE.out)).1).mono ?_); rintro e vv ⟨sv1, rfl, hi, hb, _⟩; obtain ⟨av1, cv1, rfl, hj⟩ := hi.open; have I1 : Hid (Arg _ (.agg #[.int .i64 z8.sign, .slice av1 (digs z8.natAbs).length cv1]) z8.sign (digs z8.natAbs)) := Lib.hid ⟨_, rfl, hj⟩; clear hi hj; have JT1 := Lib.hid (TE.out.later hb); have j1 := KK.out _ JT1.out; clear hb)
        | (go_at_call 29; (with_reducible refine ((HNEG.out _ _ (KA.out _ JT1.out)).2).mono ?_); rintro e vv ⟨sv2, rfl, hi, hb, _⟩; obtain ⟨av2, cv2, rfl, hj⟩ := hi.open; have I2 : Hid (Arg _ (.agg #[.int .i64 z8.sign, .slice av2 (digs z8.natAbs).length cv2]) z8.sign (digs z8.natAbs)) := Lib.hid ⟨_, rfl, hj⟩; clear hi hj; have I1 := Lib.hid (argl I1.out hb); have JT2 := Lib.hid (JT1.out.later hb); have j2 := KK.out _ JT2.out; clear hb)
        | (go_at_call 12; (with_reducible refine (rsame_self I1.out I2.out).mono ?_); rintro e vv ⟨rfl, hb⟩; have JT3 := Lib.hid (JT2.out.later hb); have j3 := KK.out _ JT3.out; clear hb)
        | (go_at_call 30; (with_reducible refine (of_any n HNN.out.1 HNN.out.2 _).mono ?_); rintro e vv ⟨sv3, rfl, hi, hb, _⟩; obtain ⟨av3, cv3, rfl, hj⟩ := hi.open; have I3 : Hid (Arg _ (.agg #[.int .i64 n.sign, .slice av3 (digs n.natAbs).length cv3]) n.sign (digs n.natAbs)) := Lib.hid ⟨_, rfl, hj⟩; clear hi hj; have JT4 := Lib.hid (JT3.out.later hb); have j4 := KK.out _ JT4.out; clear hb)
        | (go_at_call 31; (with_reducible refine (rof_any n HNN.out.1 HNN.out.2 _).mono ?_); rintro e vv ⟨sv4, rfl, hi, hb, _⟩; obtain ⟨av4, cv4, rfl, hj⟩ := hi.open; have I4 : Hid (Arg _ (.agg #[.int .i64 n.sign, .slice av4 (digs n.natAbs).length cv4]) n.sign (digs n.natAbs)) := Lib.hid ⟨_, rfl, hj⟩; clear hi hj; have I3 := Lib.hid (argl I3.out hb); have JT5 := Lib.hid (JT4.out.later hb); have j5 := KK.out _ JT5.out; clear hb)
        | (go_at_call 12; (with_reducible refine (rsame_self I3.out I4.out).mono ?_); rintro e vv ⟨rfl, hb⟩; have JT6 := Lib.hid (JT5.out.later hb); have j6 := KK.out _ JT6.out; clear hb))
    go_wp2_with fail
    go_ret
    exact ⟨rfl, JT6.out.below⟩
  obtain ⟨t35, u35⟩ := (S36.out.box (w.heap.size, sa, .slice aa na ca, la) (List.mem_cons_of_mem _ (List.mem_cons_of_mem _ (List.mem_cons_of_mem _ (List.mem_cons_of_mem _ (List.mem_cons_of_mem _ (List.mem_cons_of_mem _ (List.mem_cons_of_mem _ (List.mem_cons_of_mem _ (List.mem_cons_of_mem _ List.mem_cons_self)))))))))).cells
  obtain ⟨t36, u36⟩ := (S36.out.box (w.heap.size + 1, sb, .slice ab nb cb, lb) (List.mem_cons_of_mem _ (List.mem_cons_of_mem _ (List.mem_cons_of_mem _ (List.mem_cons_of_mem _ (List.mem_cons_of_mem _ (List.mem_cons_of_mem _ (List.mem_cons_of_mem _ (List.mem_cons_of_mem _ List.mem_cons_self))))))))).cells
  go_wp2_with fail
  clear t35 u35 t36 u36
  refine ((HGCD.out _ _ _ ⟨_, rfl, (S36.out.box (w.heap.size, sa, .slice aa na ca, la) (List.mem_cons_of_mem _ (List.mem_cons_of_mem _ (List.mem_cons_of_mem _ (List.mem_cons_of_mem _ (List.mem_cons_of_mem _ (List.mem_cons_of_mem _ (List.mem_cons_of_mem _ (List.mem_cons_of_mem _ (List.mem_cons_of_mem _ List.mem_cons_self)))))))))).2⟩ ⟨_, rfl, (S36.out.box (w.heap.size + 1, sb, .slice ab nb cb, lb) (List.mem_cons_of_mem _ (List.mem_cons_of_mem _ (List.mem_cons_of_mem _ (List.mem_cons_of_mem _ (List.mem_cons_of_mem _ (List.mem_cons_of_mem _ (List.mem_cons_of_mem _ (List.mem_cons_of_mem _ List.mem_cons_self))))))))).2⟩).1).mono ?_
  rintro e w37 ⟨s37, rfl, hi, hb, hf⟩
  obtain ⟨a37, c37, rfl, hj⟩ := hi.open
  have S37 := Lib.hid (S36.out.ret (sg := z7.sign) hb hj hf)
  clear hi hj hb hf S36
  obtain ⟨t37, u37⟩ := (S37.out.box (w.heap.size, sa, .slice aa na ca, la) (List.mem_cons_of_mem _ (List.mem_cons_of_mem _ (List.mem_cons_of_mem _ (List.mem_cons_of_mem _ (List.mem_cons_of_mem _ (List.mem_cons_of_mem _ (List.mem_cons_of_mem _ (List.mem_cons_of_mem _ (List.mem_cons_of_mem _ (List.mem_cons_of_mem _ List.mem_cons_self))))))))))).cells
  obtain ⟨t38, u38⟩ := (S37.out.box (w.heap.size + 1, sb, .slice ab nb cb, lb) (List.mem_cons_of_mem _ (List.mem_cons_of_mem _ (List.mem_cons_of_mem _ (List.mem_cons_of_mem _ (List.mem_cons_of_mem _ (List.mem_cons_of_mem _ (List.mem_cons_of_mem _ (List.mem_cons_of_mem _ (List.mem_cons_of_mem _ List.mem_cons_self)))))))))).cells
  go_wp2_with fail
  clear t37 u37 t38 u38
  refine ((HGCD.out _ _ _ ⟨_, rfl, (S37.out.box (w.heap.size, sa, .slice aa na ca, la) (List.mem_cons_of_mem _ (List.mem_cons_of_mem _ (List.mem_cons_of_mem _ (List.mem_cons_of_mem _ (List.mem_cons_of_mem _ (List.mem_cons_of_mem _ (List.mem_cons_of_mem _ (List.mem_cons_of_mem _ (List.mem_cons_of_mem _ (List.mem_cons_of_mem _ List.mem_cons_self))))))))))).2⟩ ⟨_, rfl, (S37.out.box (w.heap.size + 1, sb, .slice ab nb cb, lb) (List.mem_cons_of_mem _ (List.mem_cons_of_mem _ (List.mem_cons_of_mem _ (List.mem_cons_of_mem _ (List.mem_cons_of_mem _ (List.mem_cons_of_mem _ (List.mem_cons_of_mem _ (List.mem_cons_of_mem _ (List.mem_cons_of_mem _ List.mem_cons_self)))))))))).2⟩).2).mono ?_
  rintro e w38 ⟨s38, rfl, hi, hb, hf⟩
  obtain ⟨a38, c38, rfl, hj⟩ := hi.open
  have S38 := Lib.hid (S37.out.ret (sg := z7.sign) hb hj hf)
  clear hi hj hb hf S37
  obtain ⟨t39, u39⟩ := (S38.out.box (w37.heap.size, z7.sign, .slice a37 (digs z7.natAbs).length c37, digs z7.natAbs) (List.mem_cons_of_mem _ List.mem_cons_self)).cells
  obtain ⟨t40, u40⟩ := (S38.out.box (w38.heap.size, z7.sign, .slice a38 (digs z7.natAbs).length c38, digs z7.natAbs) List.mem_cons_self).cells
  go_wp2_with fail
  clear t39 u39 t40 u40
  refine (rsame_self ⟨_, rfl, (S38.out.box (w37.heap.size, z7.sign, .slice a37 (digs z7.natAbs).length c37, digs z7.natAbs) (List.mem_cons_of_mem _ List.mem_cons_self)).2⟩ ⟨_, rfl, (S38.out.box (w38.heap.size, z7.sign, .slice a38 (digs z7.natAbs).length c38, digs z7.natAbs) List.mem_cons_self).2⟩).mono ?_
  rintro e w39 ⟨rfl, hb⟩
  have S40 := Lib.hid (S38.out.later hb)
  clear S38
  clear hb
  go_wp2_with fail
  have TD := Lib.hid S40.out.drew
  clear S40
  have KK : Hid (∀ W, Sq w [(w38.heap.size, z7.sign, .slice a38 (digs z7.natAbs).length c38, digs z7.natAbs), (w37.heap.size, z7.sign, .slice a37 (digs z7.natAbs).length c37, digs z7.natAbs), (w26.heap.size, z6.sign, .slice a26 (digs z6.natAbs).length c26, digs z6.natAbs), (w25.heap.size, z6.sign, .slice a25 (digs z6.natAbs).length c25, digs z6.natAbs), (w12.heap.size, z3.sign, .slice a12 (digs z3.natAbs).length c12, digs z3.natAbs), (w11.heap.size, z3.sign, .slice a11 (digs z3.natAbs).length c11, digs z3.natAbs), (w10.heap.size, z5.sign, .slice q20 (digs z5.natAbs).length d20, digs z5.natAbs), (w9.heap.size, z4.sign, .slice a20 (digs z4.natAbs).length c20, digs z4.natAbs), (w8.heap.size, z5.sign, .slice q19 (digs z5.natAbs).length d19, digs z5.natAbs), (w7.heap.size, z4.sign, .slice a19 (digs z4.natAbs).length c19, digs z4.natAbs), (w.heap.size + 1, sb, .slice ab nb cb, lb), (w.heap.size, sa, .slice aa na ca, la)] W → (W.cell? ⟨w.heap.size, 0, none⟩ = some (.int .i64 sa) ∧ W.cell? ⟨w.heap.size, 1, none⟩ = some (.slice aa na ca)) ∧ W.cell? ⟨w.heap.size + 1, 0, none⟩ = some (.int .i64 sb) ∧ W.cell? ⟨w.heap.size + 1, 1, none⟩ = some (.slice ab nb cb)) := fun W h => ⟨(h.box (w.heap.size, sa, .slice aa na ca, la) (List.mem_cons_of_mem _ (List.mem_cons_of_mem _ (List.mem_cons_of_mem _ (List.mem_cons_of_mem _ (List.mem_cons_of_mem _ (List.mem_cons_of_mem _ (List.mem_cons_of_mem _ (List.mem_cons_of_mem _ (List.mem_cons_of_mem _ (List.mem_cons_of_mem _ (List.mem_cons_of_mem _ List.mem_cons_self)))))))))))).cells, (h.box (w.heap.size + 1, sb, .slice ab nb cb, lb) (List.mem_cons_of_mem _ (List.mem_cons_of_mem _ (List.mem_cons_of_mem _ (List.mem_cons_of_mem _ (List.mem_cons_of_mem _ (List.mem_cons_of_mem _ (List.mem_cons_of_mem _ (List.mem_cons_of_mem _ (List.mem_cons_of_mem _ (List.mem_cons_of_mem _ List.mem_cons_self))))))))))).cells⟩
  have KA : Hid (∀ W, Sq w [(w38.heap.size, z7.sign, .slice a38 (digs z7.natAbs).length c38, digs z7.natAbs), (w37.heap.size, z7.sign, .slice a37 (digs z7.natAbs).length c37, digs z7.natAbs), (w26.heap.size, z6.sign, .slice a26 (digs z6.natAbs).length c26, digs z6.natAbs), (w25.heap.size, z6.sign, .slice a25 (digs z6.natAbs).length c25, digs z6.natAbs), (w12.heap.size, z3.sign, .slice a12 (digs z3.natAbs).length c12, digs z3.natAbs), (w11.heap.size, z3.sign, .slice a11 (digs z3.natAbs).length c11, digs z3.natAbs), (w10.heap.size, z5.sign, .slice q20 (digs z5.natAbs).length d20, digs z5.natAbs), (w9.heap.size, z4.sign, .slice a20 (digs z4.natAbs).length c20, digs z4.natAbs), (w8.heap.size, z5.sign, .slice q19 (digs z5.natAbs).length d19, digs z5.natAbs), (w7.heap.size, z4.sign, .slice a19 (digs z4.natAbs).length c19, digs z4.natAbs), (w.heap.size + 1, sb, .slice ab nb cb, lb), (w.heap.size, sa, .slice aa na ca, la)] W → Arg W (.agg #[.int .i64 sa, .slice aa na ca]) sa la) := fun W h => ⟨_, rfl, (h.box (w.heap.size, sa, .slice aa na ca, la) (List.mem_cons_of_mem _ (List.mem_cons_of_mem _ (List.mem_cons_of_mem _ (List.mem_cons_of_mem _ (List.mem_cons_of_mem _ (List.mem_cons_of_mem _ (List.mem_cons_of_mem _ (List.mem_cons_of_mem _ (List.mem_cons_of_mem _ (List.mem_cons_of_mem _ (List.mem_cons_of_mem _ List.mem_cons_self)))))))))))).2⟩
  have KB : Hid (∀ W, Sq w [(w38.heap.size, z7.sign, .slice a38 (digs z7.natAbs).length c38, digs z7.natAbs), (w37.heap.size, z7.sign, .slice a37 (digs z7.natAbs).length c37, digs z7.natAbs), (w26.heap.size, z6.sign, .slice a26 (digs z6.natAbs).length c26, digs z6.natAbs), (w25.heap.size, z6.sign, .slice a25 (digs z6.natAbs).length c25, digs z6.natAbs), (w12.heap.size, z3.sign, .slice a12 (digs z3.natAbs).length c12, digs z3.natAbs), (w11.heap.size, z3.sign, .slice a11 (digs z3.natAbs).length c11, digs z3.natAbs), (w10.heap.size, z5.sign, .slice q20 (digs z5.natAbs).length d20, digs z5.natAbs), (w9.heap.size, z4.sign, .slice a20 (digs z4.natAbs).length c20, digs z4.natAbs), (w8.heap.size, z5.sign, .slice q19 (digs z5.natAbs).length d19, digs z5.natAbs), (w7.heap.size, z4.sign, .slice a19 (digs z4.natAbs).length c19, digs z4.natAbs), (w.heap.size + 1, sb, .slice ab nb cb, lb), (w.heap.size, sa, .slice aa na ca, la)] W → Arg W (.agg #[.int .i64 sb, .slice ab nb cb]) sb lb) := fun W h => ⟨_, rfl, (h.box (w.heap.size + 1, sb, .slice ab nb cb, lb) (List.mem_cons_of_mem _ (List.mem_cons_of_mem _ (List.mem_cons_of_mem _ (List.mem_cons_of_mem _ (List.mem_cons_of_mem _ (List.mem_cons_of_mem _ (List.mem_cons_of_mem _ (List.mem_cons_of_mem _ (List.mem_cons_of_mem _ (List.mem_cons_of_mem _ List.mem_cons_self))))))))))).2⟩
  have KE : Hid (∀ W, Sq w [(w38.heap.size, z7.sign, .slice a38 (digs z7.natAbs).length c38, digs z7.natAbs), (w37.heap.size, z7.sign, .slice a37 (digs z7.natAbs).length c37, digs z7.natAbs), (w26.heap.size, z6.sign, .slice a26 (digs z6.natAbs).length c26, digs z6.natAbs), (w25.heap.size, z6.sign, .slice a25 (digs z6.natAbs).length c25, digs z6.natAbs), (w12.heap.size, z3.sign, .slice a12 (digs z3.natAbs).length c12, digs z3.natAbs), (w11.heap.size, z3.sign, .slice a11 (digs z3.natAbs).length c11, digs z3.natAbs), (w10.heap.size, z5.sign, .slice q20 (digs z5.natAbs).length d20, digs z5.natAbs), (w9.heap.size, z4.sign, .slice a20 (digs z4.natAbs).length c20, digs z4.natAbs), (w8.heap.size, z5.sign, .slice q19 (digs z5.natAbs).length d19, digs z5.natAbs), (w7.heap.size, z4.sign, .slice a19 (digs z4.natAbs).length c19, digs z4.natAbs), (w.heap.size + 1, sb, .slice ab nb cb, lb), (w.heap.size, sa, .slice aa na ca, la)] W → Env W) := fun W h => h.env HE.out
  have k0 := KK.out _ TD.out
  go_region_held3 (fun W => (W.cell? ⟨w.heap.size, 0, none⟩ = some (.int .i64 sa) ∧ W.cell? ⟨w.heap.size, 1, none⟩ = some (.slice aa na ca)) ∧ W.cell? ⟨w.heap.size + 1, 0, none⟩ = some (.int .i64 sb) ∧ W.cell? ⟨w.heap.size + 1, 1, none⟩ = some (.slice ab nb cb))
    (first | (with_reducible exact k0) | (with_reducible exact k1) | (with_reducible exact k2) | (with_reducible exact k3) | (with_reducible exact k4) | (with_reducible exact k5) | (with_reducible exact k6) | (with_reducible exact k7) | (with_reducible exact k8))
    (first
      | (go_at_call 21; (with_reducible refine (right_any _ sa la _ (KA.out _ TD.out)).mono ?_); rintro e vv ⟨rfl, hb⟩; have KT1 := Lib.hid (TD.out.later hb); have k1 := KK.out _ KT1.out; clear hb)
      | (go_at_call 22; (with_reducible refine (rright_any _ sa la _ (KA.out _ KT1.out)).mono ?_); rintro e vv ⟨rfl, hb⟩; have KT2 := Lib.hid (KT1.out.later hb); have k2 := KK.out _ KT2.out; clear hb)
      | (go_at_call 23; (with_reducible refine ((HCMP.out _ _ _ (KA.out _ KT2.out) (KB.out _ KT2.out)).1).mono ?_); rintro e vv ⟨rfl, hb⟩; have KT3 := Lib.hid (KT2.out.later hb); have k3 := KK.out _ KT3.out; clear hb)
      | (go_at_call 24; (with_reducible refine ((HCMP.out _ _ _ (KA.out _ KT3.out) (KB.out _ KT3.out)).2).mono ?_); rintro e vv ⟨rfl, hb⟩; have KT4 := Lib.hid (KT3.out.later hb); have k4 := KK.out _ KT4.out; clear hb)
      | (go_at_call 25; (with_reducible refine (same_any _ _ sa sb la lb _ (KA.out _ KT4.out) (KB.out _ KT4.out)).mono ?_); rintro e vv ⟨rfl, hb⟩; have KT5 := Lib.hid (KT4.out.later hb); have k5 := KK.out _ KT5.out; clear hb)
      | (go_at_call 12; (with_reducible refine (rsame_any _ _ sa sb la lb _ (KA.out _ KT5.out) (KB.out _ KT5.out)).mono ?_); rintro e vv ⟨rfl, hb⟩; have KT6 := Lib.hid (KT5.out.later hb); have k6 := KK.out _ KT6.out; clear hb)
      | (go_at_call 26; (with_reducible refine ((HTEXT.out _ _ (KE.out _ KT6.out) (KA.out _ KT6.out)).1).mono ?_); rintro e vv ⟨rfl, hb⟩; have KT7 := Lib.hid (KT6.out.later hb); have k7 := KK.out _ KT7.out; clear hb)
      | (go_at_call 27; (with_reducible refine ((HTEXT.out _ _ (KE.out _ KT7.out) (KA.out _ KT7.out)).2).mono ?_); rintro e vv ⟨rfl, hb⟩; have KT8 := Lib.hid (KT7.out.later hb); have k8 := KK.out _ KT8.out; clear hb))
  go_wp2_with fail
  have TE := Lib.hid KT8.out.drew
  clear KT8
  have j0 := KK.out _ TE.out
  go_region_held3 (fun W => (W.cell? ⟨w.heap.size, 0, none⟩ = some (.int .i64 sa) ∧ W.cell? ⟨w.heap.size, 1, none⟩ = some (.slice aa na ca)) ∧ W.cell? ⟨w.heap.size + 1, 0, none⟩ = some (.int .i64 sb) ∧ W.cell? ⟨w.heap.size + 1, 1, none⟩ = some (.slice ab nb cb))
    (first | (with_reducible exact j0) | (with_reducible exact j1) | (with_reducible exact j2) | (with_reducible exact j3) | (with_reducible exact j4) | (with_reducible exact j5) | (with_reducible exact j6))
    (first
      | (go_at_call 28; (with_reducible refine ((HNEG.out _ _ (KA.out _ TE.out)).1).mono ?_); rintro e vv ⟨sv1, rfl, hi, hb, _⟩; obtain ⟨av1, cv1, rfl, hj⟩ := hi.open; have I1 : Hid (Arg _ (.agg #[.int .i64 z8.sign, .slice av1 (digs z8.natAbs).length cv1]) z8.sign (digs z8.natAbs)) := Lib.hid ⟨_, rfl, hj⟩; clear hi hj; have JT1 := Lib.hid (TE.out.later hb); have j1 := KK.out _ JT1.out; clear hb)
      | (go_at_call 29; (with_reducible refine ((HNEG.out _ _ (KA.out _ JT1.out)).2).mono ?_); rintro e vv ⟨sv2, rfl, hi, hb, _⟩; obtain ⟨av2, cv2, rfl, hj⟩ := hi.open; have I2 : Hid (Arg _ (.agg #[.int .i64 z8.sign, .slice av2 (digs z8.natAbs).length cv2]) z8.sign (digs z8.natAbs)) := Lib.hid ⟨_, rfl, hj⟩; clear hi hj; have I1 := Lib.hid (argl I1.out hb); have JT2 := Lib.hid (JT1.out.later hb); have j2 := KK.out _ JT2.out; clear hb)
      | (go_at_call 12; (with_reducible refine (rsame_self I1.out I2.out).mono ?_); rintro e vv ⟨rfl, hb⟩; have JT3 := Lib.hid (JT2.out.later hb); have j3 := KK.out _ JT3.out; clear hb)
      | (go_at_call 30; (with_reducible refine (of_any n HNN.out.1 HNN.out.2 _).mono ?_); rintro e vv ⟨sv3, rfl, hi, hb, _⟩; obtain ⟨av3, cv3, rfl, hj⟩ := hi.open; have I3 : Hid (Arg _ (.agg #[.int .i64 n.sign, .slice av3 (digs n.natAbs).length cv3]) n.sign (digs n.natAbs)) := Lib.hid ⟨_, rfl, hj⟩; clear hi hj; have JT4 := Lib.hid (JT3.out.later hb); have j4 := KK.out _ JT4.out; clear hb)
      | (go_at_call 31; (with_reducible refine (rof_any n HNN.out.1 HNN.out.2 _).mono ?_); rintro e vv ⟨sv4, rfl, hi, hb, _⟩; obtain ⟨av4, cv4, rfl, hj⟩ := hi.open; have I4 : Hid (Arg _ (.agg #[.int .i64 n.sign, .slice av4 (digs n.natAbs).length cv4]) n.sign (digs n.natAbs)) := Lib.hid ⟨_, rfl, hj⟩; clear hi hj; have I3 := Lib.hid (argl I3.out hb); have JT5 := Lib.hid (JT4.out.later hb); have j5 := KK.out _ JT5.out; clear hb)
      | (go_at_call 12; (with_reducible refine (rsame_self I3.out I4.out).mono ?_); rintro e vv ⟨rfl, hb⟩; have JT6 := Lib.hid (JT5.out.later hb); have j6 := KK.out _ JT6.out; clear hb))
  go_wp2_with fail
  go_ret
  exact ⟨rfl, JT6.out.below⟩
end Go.Proofs.YtkijkofdhfjodaaDoor.Bi
