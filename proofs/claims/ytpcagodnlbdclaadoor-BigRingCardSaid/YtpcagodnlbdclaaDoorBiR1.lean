/- The contract of BigRing. -/
import Derived.Test.YtpcagodnlbdclaaDoorBi30
set_option maxRecDepth 100000
namespace Go.Proofs.YtpcagodnlbdclaaDoor.Bi
open Go.RowKit

set_option maxHeartbeats 8000000 in
theorem BigRing_any (sa : Int) (aa : Option Addr) (na ca : Nat) (la : List Int) (sb : Int) (ab : Option Addr) (nb cb : Nat) (lb : List Int) (sc : Int) (ac : Option Addr) (nc cc : Nat) (lc : List Int) (w : World) (he : Env w) (ha : Ints w (.slice aa na ca) la) (hb : Ints w (.slice ab nb cb) lb) (hc : Ints w (.slice ac nc cc) lc) :
    Calls Tryd.prog 4 #[.agg #[.int .i64 sa, .slice aa na ca], .agg #[.int .i64 sb, .slice ab nb cb], .agg #[.int .i64 sc, .slice ac nc cc]] w fun e w' => e = .returned (.bool true) ∧ RowKit.Below w.heap.size w w' := by
  have HE := Lib.hid he
  have S0 := Lib.hid (three (sa := sa) (sb := sb) (sc := sc) ha hb hc)
  obtain ⟨fa, hfa⟩ : ∃ b, decide ((la.length : Int) ≤ 25) = b := ⟨_, rfl⟩
  obtain ⟨ra, hra⟩ : ∃ b, rightB sa la = b := ⟨_, rfl⟩
  have Fa := Lib.hid hfa
  have Ra := Lib.hid hra
  clear ha hfa hra
  obtain ⟨fb, hfb⟩ : ∃ b, decide ((lb.length : Int) ≤ 25) = b := ⟨_, rfl⟩
  obtain ⟨rb, hrb⟩ : ∃ b, rightB sb lb = b := ⟨_, rfl⟩
  have Fb := Lib.hid hfb
  have Rb := Lib.hid hrb
  clear hb hfb hrb
  obtain ⟨fc, hfc⟩ : ∃ b, decide ((lc.length : Int) ≤ 25) = b := ⟨_, rfl⟩
  obtain ⟨rc, hrc⟩ : ∃ b, rightB sc lc = b := ⟨_, rfl⟩
  have Fc := Lib.hid hfc
  have Rc := Lib.hid hrc
  clear hc hfc hrc
  clear he
  go_enter Tryd.func4, Tryd.ntmps4
  go_wp2_with fail
  refine (small_any _ (S0.out.env HE.out)).mono ?_
  rintro e w1 ⟨rfl, hb⟩
  have S2 := Lib.hid (S0.out.later hb)
  clear S0
  clear hb
  obtain ⟨t1, u1⟩ := (S2.out.box (w.heap.size, sa, .slice aa na ca, la) (List.mem_cons_of_mem _ (List.mem_cons_of_mem _ List.mem_cons_self))).cells
  go_wp2_with fail
  clear t1 u1
  refine (few_any sa _ la 25 _ (S2.out.box (w.heap.size, sa, .slice aa na ca, la) (List.mem_cons_of_mem _ (List.mem_cons_of_mem _ List.mem_cons_self))).2 fa Fa.out).mono ?_
  rintro e w3 ⟨rfl, hb⟩
  have S4 := Lib.hid (S2.out.later hb)
  clear S2
  clear hb
  cases fa
  case false =>
    go_wp2_with fail
    go_ret
    exact ⟨rfl, S4.out.below⟩
  obtain ⟨t2, u2⟩ := (S4.out.box (w.heap.size + 1, sb, .slice ab nb cb, lb) (List.mem_cons_of_mem _ List.mem_cons_self)).cells
  go_wp2_with fail
  clear t2 u2
  refine (few_any sb _ lb 25 _ (S4.out.box (w.heap.size + 1, sb, .slice ab nb cb, lb) (List.mem_cons_of_mem _ List.mem_cons_self)).2 fb Fb.out).mono ?_
  rintro e w5 ⟨rfl, hb⟩
  have S6 := Lib.hid (S4.out.later hb)
  clear S4
  clear hb
  cases fb
  case false =>
    go_wp2_with fail
    go_ret
    exact ⟨rfl, S6.out.below⟩
  obtain ⟨t3, u3⟩ := (S6.out.box (w.heap.size + 1 + 1, sc, .slice ac nc cc, lc) List.mem_cons_self).cells
  go_wp2_with fail
  clear t3 u3
  refine (few_any sc _ lc 25 _ (S6.out.box (w.heap.size + 1 + 1, sc, .slice ac nc cc, lc) List.mem_cons_self).2 fc Fc.out).mono ?_
  rintro e w7 ⟨rfl, hb⟩
  have S8 := Lib.hid (S6.out.later hb)
  clear S6
  clear hb
  cases fc
  case false =>
    go_wp2_with fail
    go_ret
    exact ⟨rfl, S8.out.below⟩
  obtain ⟨t4, u4⟩ := (S8.out.box (w.heap.size, sa, .slice aa na ca, la) (List.mem_cons_of_mem _ (List.mem_cons_of_mem _ List.mem_cons_self))).cells
  go_wp2_with fail
  clear t4 u4
  refine (right_b ⟨_, rfl, (S8.out.box (w.heap.size, sa, .slice aa na ca, la) (List.mem_cons_of_mem _ (List.mem_cons_of_mem _ List.mem_cons_self))).2⟩ Ra.out).mono ?_
  rintro e w9 ⟨rfl, hb⟩
  have S10 := Lib.hid (S8.out.later hb)
  clear S8
  clear hb
  cases ra
  case false =>
    go_wp2_with fail
    go_ret
    exact ⟨rfl, S10.out.below⟩
  obtain ⟨t5, u5⟩ := (S10.out.box (w.heap.size + 1, sb, .slice ab nb cb, lb) (List.mem_cons_of_mem _ List.mem_cons_self)).cells
  go_wp2_with fail
  clear t5 u5
  refine (right_b ⟨_, rfl, (S10.out.box (w.heap.size + 1, sb, .slice ab nb cb, lb) (List.mem_cons_of_mem _ List.mem_cons_self)).2⟩ Rb.out).mono ?_
  rintro e w11 ⟨rfl, hb⟩
  have S12 := Lib.hid (S10.out.later hb)
  clear S10
  clear hb
  cases rb
  case false =>
    go_wp2_with fail
    go_ret
    exact ⟨rfl, S12.out.below⟩
  obtain ⟨t6, u6⟩ := (S12.out.box (w.heap.size + 1 + 1, sc, .slice ac nc cc, lc) List.mem_cons_self).cells
  go_wp2_with fail
  clear t6 u6
  refine (right_b ⟨_, rfl, (S12.out.box (w.heap.size + 1 + 1, sc, .slice ac nc cc, lc) List.mem_cons_self).2⟩ Rc.out).mono ?_
  rintro e w13 ⟨rfl, hb⟩
  have S14 := Lib.hid (S12.out.later hb)
  clear S12
  clear hb
  cases rc
  case false =>
    go_wp2_with fail
    go_ret
    exact ⟨rfl, S14.out.below⟩
  obtain ⟨za, ea, rfl⟩ := right_of Ra.out
  have Ea := Lib.hid ea
  have Za : Hid (Sz 25 za) := Sz.fits Fa.out rfl rfl
  clear ea Fa Ra
  obtain ⟨zb, eb, rfl⟩ := right_of Rb.out
  have Eb := Lib.hid eb
  have Zb : Hid (Sz 25 zb) := Sz.fits Fb.out rfl rfl
  clear eb Fb Rb
  obtain ⟨zc, ec, rfl⟩ := right_of Rc.out
  have Ec := Lib.hid ec
  have Zc : Hid (Sz 25 zc) := Sz.fits Fc.out rfl rfl
  clear ec Fc Rc
  obtain ⟨t7, u7⟩ := (S14.out.box (w.heap.size, sa, .slice aa na ca, digs (za : Int).natAbs) (List.mem_cons_of_mem _ (List.mem_cons_of_mem _ List.mem_cons_self))).cells
  obtain ⟨t8, u8⟩ := (S14.out.box (w.heap.size + 1, sb, .slice ab nb cb, digs (zb : Int).natAbs) (List.mem_cons_of_mem _ List.mem_cons_self)).cells
  go_wp2_with fail
  clear t7 u7 t8 u8
  refine (add_k ((S14.out.box (w.heap.size, sa, .slice aa na ca, digs (za : Int).natAbs) (List.mem_cons_of_mem _ (List.mem_cons_of_mem _ List.mem_cons_self))).num Ea.out) ((S14.out.box (w.heap.size + 1, sb, .slice ab nb cb, digs (zb : Int).natAbs) (List.mem_cons_of_mem _ List.mem_cons_self)).num Eb.out) (Sz.len Za.out) (Sz.len Zb.out)).mono ?_
  rintro e w15 ⟨s15, a15, n15, c15, rfl, hn, hb, hf⟩
  have S15 := Lib.hid (S14.out.ret (sg := s15) hb hn.2 hf)
  have E15 := Lib.hid hn.1
  clear hn hb hf S14
  obtain ⟨t9, u9⟩ := (S15.out.box (w.heap.size + 1, sb, .slice ab nb cb, digs (zb : Int).natAbs) (List.mem_cons_of_mem _ (List.mem_cons_of_mem _ List.mem_cons_self))).cells
  obtain ⟨t10, u10⟩ := (S15.out.box (w.heap.size, sa, .slice aa na ca, digs (za : Int).natAbs) (List.mem_cons_of_mem _ (List.mem_cons_of_mem _ (List.mem_cons_of_mem _ List.mem_cons_self)))).cells
  go_wp2_with fail
  clear t9 u9 t10 u10
  refine (add_k ((S15.out.box (w.heap.size + 1, sb, .slice ab nb cb, digs (zb : Int).natAbs) (List.mem_cons_of_mem _ (List.mem_cons_of_mem _ List.mem_cons_self))).num Eb.out) ((S15.out.box (w.heap.size, sa, .slice aa na ca, digs (za : Int).natAbs) (List.mem_cons_of_mem _ (List.mem_cons_of_mem _ (List.mem_cons_of_mem _ List.mem_cons_self)))).num Ea.out) (Sz.len Zb.out) (Sz.len Za.out)).mono ?_
  rintro e w16 ⟨s16, a16, n16, c16, rfl, hn, hb, hf⟩
  have S16 := Lib.hid (S15.out.ret (sg := s16) hb hn.2 hf)
  have E16 := Lib.hid hn.1
  clear hn hb hf S15
  obtain ⟨t11, u11⟩ := (S16.out.box (w.heap.size + 1, sb, .slice ab nb cb, digs (zb : Int).natAbs) (List.mem_cons_of_mem _ (List.mem_cons_of_mem _ (List.mem_cons_of_mem _ List.mem_cons_self)))).cells
  obtain ⟨t12, u12⟩ := (S16.out.box (w.heap.size + 1 + 1, sc, .slice ac nc cc, digs (zc : Int).natAbs) (List.mem_cons_of_mem _ (List.mem_cons_of_mem _ List.mem_cons_self))).cells
  go_wp2_with fail
  clear t11 u11 t12 u12
  refine (add_k ((S16.out.box (w.heap.size + 1, sb, .slice ab nb cb, digs (zb : Int).natAbs) (List.mem_cons_of_mem _ (List.mem_cons_of_mem _ (List.mem_cons_of_mem _ List.mem_cons_self)))).num Eb.out) ((S16.out.box (w.heap.size + 1 + 1, sc, .slice ac nc cc, digs (zc : Int).natAbs) (List.mem_cons_of_mem _ (List.mem_cons_of_mem _ List.mem_cons_self))).num Ec.out) (Sz.len Zb.out) (Sz.len Zc.out)).mono ?_
  rintro e w17 ⟨s17, a17, n17, c17, rfl, hn, hb, hf⟩
  have S17 := Lib.hid (S16.out.ret (sg := s17) hb hn.2 hf)
  have E17 := Lib.hid hn.1
  clear hn hb hf S16
  obtain ⟨t13, u13⟩ := (S17.out.box (w15.heap.size, s15, .slice a15 n15 c15, digs ((za + zb) : Int).natAbs) (List.mem_cons_of_mem _ (List.mem_cons_of_mem _ List.mem_cons_self))).cells
  obtain ⟨t14, u14⟩ := (S17.out.box (w.heap.size + 1 + 1, sc, .slice ac nc cc, digs (zc : Int).natAbs) (List.mem_cons_of_mem _ (List.mem_cons_of_mem _ (List.mem_cons_of_mem _ List.mem_cons_self)))).cells
  go_wp2_with fail
  clear t13 u13 t14 u14
  refine (add_k ((S17.out.box (w15.heap.size, s15, .slice a15 n15 c15, digs ((za + zb) : Int).natAbs) (List.mem_cons_of_mem _ (List.mem_cons_of_mem _ List.mem_cons_self))).num E15.out) ((S17.out.box (w.heap.size + 1 + 1, sc, .slice ac nc cc, digs (zc : Int).natAbs) (List.mem_cons_of_mem _ (List.mem_cons_of_mem _ (List.mem_cons_of_mem _ List.mem_cons_self)))).num Ec.out) (Sz.len (Sz.add Za.out Zb.out)) (Sz.len Zc.out)).mono ?_
  rintro e w18 ⟨s18, a18, n18, c18, rfl, hn, hb, hf⟩
  have S18 := Lib.hid (S17.out.ret (sg := s18) hb hn.2 hf)
  have E18 := Lib.hid hn.1
  clear hn hb hf S17
  obtain ⟨t15, u15⟩ := (S18.out.box (w.heap.size, sa, .slice aa na ca, digs (za : Int).natAbs) (List.mem_cons_of_mem _ (List.mem_cons_of_mem _ (List.mem_cons_of_mem _ (List.mem_cons_of_mem _ (List.mem_cons_of_mem _ (List.mem_cons_of_mem _ List.mem_cons_self))))))).cells
  obtain ⟨t16, u16⟩ := (S18.out.box (w17.heap.size, s17, .slice a17 n17 c17, digs ((zb + zc) : Int).natAbs) (List.mem_cons_of_mem _ List.mem_cons_self)).cells
  go_wp2_with fail
  clear t15 u15 t16 u16
  refine (add_k ((S18.out.box (w.heap.size, sa, .slice aa na ca, digs (za : Int).natAbs) (List.mem_cons_of_mem _ (List.mem_cons_of_mem _ (List.mem_cons_of_mem _ (List.mem_cons_of_mem _ (List.mem_cons_of_mem _ (List.mem_cons_of_mem _ List.mem_cons_self))))))).num Ea.out) ((S18.out.box (w17.heap.size, s17, .slice a17 n17 c17, digs ((zb + zc) : Int).natAbs) (List.mem_cons_of_mem _ List.mem_cons_self)).num E17.out) (Sz.len Za.out) (Sz.len (Sz.add Zb.out Zc.out))).mono ?_
  rintro e w19 ⟨s19, a19, n19, c19, rfl, hn, hb, hf⟩
  have S19 := Lib.hid (S18.out.ret (sg := s19) hb hn.2 hf)
  have E19 := Lib.hid hn.1
  clear hn hb hf S18
  obtain ⟨t17, u17⟩ := (S19.out.box (w15.heap.size, s15, .slice a15 n15 c15, digs ((za + zb) : Int).natAbs) (List.mem_cons_of_mem _ (List.mem_cons_of_mem _ (List.mem_cons_of_mem _ (List.mem_cons_of_mem _ List.mem_cons_self))))).cells
  obtain ⟨t18, u18⟩ := (S19.out.box (w16.heap.size, s16, .slice a16 n16 c16, digs ((zb + za) : Int).natAbs) (List.mem_cons_of_mem _ (List.mem_cons_of_mem _ (List.mem_cons_of_mem _ List.mem_cons_self)))).cells
  go_wp2_with fail
  clear t17 u17 t18 u18
  refine (rsame_t ((S19.out.box (w15.heap.size, s15, .slice a15 n15 c15, digs ((za + zb) : Int).natAbs) (List.mem_cons_of_mem _ (List.mem_cons_of_mem _ (List.mem_cons_of_mem _ (List.mem_cons_of_mem _ List.mem_cons_self))))).num E15.out) ((S19.out.box (w16.heap.size, s16, .slice a16 n16 c16, digs ((zb + za) : Int).natAbs) (List.mem_cons_of_mem _ (List.mem_cons_of_mem _ (List.mem_cons_of_mem _ List.mem_cons_self)))).num E16.out) (Int.add_comm _ _)).mono ?_
  rintro e w20 ⟨rfl, hb⟩
  have S21 := Lib.hid (S19.out.later hb)
  clear S19
  clear hb
  obtain ⟨t19, u19⟩ := (S21.out.box (w18.heap.size, s18, .slice a18 n18 c18, digs (((za + zb) + zc) : Int).natAbs) (List.mem_cons_of_mem _ List.mem_cons_self)).cells
  obtain ⟨t20, u20⟩ := (S21.out.box (w19.heap.size, s19, .slice a19 n19 c19, digs ((za + (zb + zc)) : Int).natAbs) List.mem_cons_self).cells
  go_wp2_with fail
  clear t19 u19 t20 u20
  refine (rsame_t ((S21.out.box (w18.heap.size, s18, .slice a18 n18 c18, digs (((za + zb) + zc) : Int).natAbs) (List.mem_cons_of_mem _ List.mem_cons_self)).num E18.out) ((S21.out.box (w19.heap.size, s19, .slice a19 n19 c19, digs ((za + (zb + zc)) : Int).natAbs) List.mem_cons_self).num E19.out) (Int.add_assoc _ _ _)).mono ?_
  rintro e w22 ⟨rfl, hb⟩
  have S23 := Lib.hid (S21.out.later hb)
  clear S21
  clear hb
  obtain ⟨t21, u21⟩ := (S23.out.box (w.heap.size, sa, .slice aa na ca, digs (za : Int).natAbs) (List.mem_cons_of_mem _ (List.mem_cons_of_mem _ (List.mem_cons_of_mem _ (List.mem_cons_of_mem _ (List.mem_cons_of_mem _ (List.mem_cons_of_mem _ (List.mem_cons_of_mem _ List.mem_cons_self)))))))).cells
  obtain ⟨t22, u22⟩ := (S23.out.box (w.heap.size + 1, sb, .slice ab nb cb, digs (zb : Int).natAbs) (List.mem_cons_of_mem _ (List.mem_cons_of_mem _ (List.mem_cons_of_mem _ (List.mem_cons_of_mem _ (List.mem_cons_of_mem _ (List.mem_cons_of_mem _ List.mem_cons_self))))))).cells
  go_wp2_with fail
  clear t21 u21 t22 u22
  refine (mul_k ((S23.out.box (w.heap.size, sa, .slice aa na ca, digs (za : Int).natAbs) (List.mem_cons_of_mem _ (List.mem_cons_of_mem _ (List.mem_cons_of_mem _ (List.mem_cons_of_mem _ (List.mem_cons_of_mem _ (List.mem_cons_of_mem _ (List.mem_cons_of_mem _ List.mem_cons_self)))))))).num Ea.out) ((S23.out.box (w.heap.size + 1, sb, .slice ab nb cb, digs (zb : Int).natAbs) (List.mem_cons_of_mem _ (List.mem_cons_of_mem _ (List.mem_cons_of_mem _ (List.mem_cons_of_mem _ (List.mem_cons_of_mem _ (List.mem_cons_of_mem _ List.mem_cons_self))))))).num Eb.out) (Sz.len Za.out) (Sz.len Zb.out)).mono ?_
  rintro e w24 ⟨s24, a24, n24, c24, rfl, hn, hb, hf⟩
  have S24 := Lib.hid (S23.out.ret (sg := s24) hb hn.2 hf)
  have E24 := Lib.hid hn.1
  clear hn hb hf S23
  obtain ⟨t23, u23⟩ := (S24.out.box (w.heap.size + 1, sb, .slice ab nb cb, digs (zb : Int).natAbs) (List.mem_cons_of_mem _ (List.mem_cons_of_mem _ (List.mem_cons_of_mem _ (List.mem_cons_of_mem _ (List.mem_cons_of_mem _ (List.mem_cons_of_mem _ (List.mem_cons_of_mem _ List.mem_cons_self)))))))).cells
  obtain ⟨t24, u24⟩ := (S24.out.box (w.heap.size, sa, .slice aa na ca, digs (za : Int).natAbs) (List.mem_cons_of_mem _ (List.mem_cons_of_mem _ (List.mem_cons_of_mem _ (List.mem_cons_of_mem _ (List.mem_cons_of_mem _ (List.mem_cons_of_mem _ (List.mem_cons_of_mem _ (List.mem_cons_of_mem _ List.mem_cons_self))))))))).cells
  go_wp2_with fail
  clear t23 u23 t24 u24
  refine (mul_k ((S24.out.box (w.heap.size + 1, sb, .slice ab nb cb, digs (zb : Int).natAbs) (List.mem_cons_of_mem _ (List.mem_cons_of_mem _ (List.mem_cons_of_mem _ (List.mem_cons_of_mem _ (List.mem_cons_of_mem _ (List.mem_cons_of_mem _ (List.mem_cons_of_mem _ List.mem_cons_self)))))))).num Eb.out) ((S24.out.box (w.heap.size, sa, .slice aa na ca, digs (za : Int).natAbs) (List.mem_cons_of_mem _ (List.mem_cons_of_mem _ (List.mem_cons_of_mem _ (List.mem_cons_of_mem _ (List.mem_cons_of_mem _ (List.mem_cons_of_mem _ (List.mem_cons_of_mem _ (List.mem_cons_of_mem _ List.mem_cons_self))))))))).num Ea.out) (Sz.len Zb.out) (Sz.len Za.out)).mono ?_
  rintro e w25 ⟨s25, a25, n25, c25, rfl, hn, hb, hf⟩
  have S25 := Lib.hid (S24.out.ret (sg := s25) hb hn.2 hf)
  have E25 := Lib.hid hn.1
  clear hn hb hf S24
  obtain ⟨t25, u25⟩ := (S25.out.box (w.heap.size + 1, sb, .slice ab nb cb, digs (zb : Int).natAbs) (List.mem_cons_of_mem _ (List.mem_cons_of_mem _ (List.mem_cons_of_mem _ (List.mem_cons_of_mem _ (List.mem_cons_of_mem _ (List.mem_cons_of_mem _ (List.mem_cons_of_mem _ (List.mem_cons_of_mem _ List.mem_cons_self))))))))).cells
  obtain ⟨t26, u26⟩ := (S25.out.box (w.heap.size + 1 + 1, sc, .slice ac nc cc, digs (zc : Int).natAbs) (List.mem_cons_of_mem _ (List.mem_cons_of_mem _ (List.mem_cons_of_mem _ (List.mem_cons_of_mem _ (List.mem_cons_of_mem _ (List.mem_cons_of_mem _ (List.mem_cons_of_mem _ List.mem_cons_self)))))))).cells
  go_wp2_with fail
  clear t25 u25 t26 u26
  refine (mul_k ((S25.out.box (w.heap.size + 1, sb, .slice ab nb cb, digs (zb : Int).natAbs) (List.mem_cons_of_mem _ (List.mem_cons_of_mem _ (List.mem_cons_of_mem _ (List.mem_cons_of_mem _ (List.mem_cons_of_mem _ (List.mem_cons_of_mem _ (List.mem_cons_of_mem _ (List.mem_cons_of_mem _ List.mem_cons_self))))))))).num Eb.out) ((S25.out.box (w.heap.size + 1 + 1, sc, .slice ac nc cc, digs (zc : Int).natAbs) (List.mem_cons_of_mem _ (List.mem_cons_of_mem _ (List.mem_cons_of_mem _ (List.mem_cons_of_mem _ (List.mem_cons_of_mem _ (List.mem_cons_of_mem _ (List.mem_cons_of_mem _ List.mem_cons_self)))))))).num Ec.out) (Sz.len Zb.out) (Sz.len Zc.out)).mono ?_
  rintro e w26 ⟨s26, a26, n26, c26, rfl, hn, hb, hf⟩
  have S26 := Lib.hid (S25.out.ret (sg := s26) hb hn.2 hf)
  have E26 := Lib.hid hn.1
  clear hn hb hf S25
  obtain ⟨t27, u27⟩ := (S26.out.box (w24.heap.size, s24, .slice a24 n24 c24, digs ((za * zb) : Int).natAbs) (List.mem_cons_of_mem _ (List.mem_cons_of_mem _ List.mem_cons_self))).cells
  obtain ⟨t28, u28⟩ := (S26.out.box (w.heap.size + 1 + 1, sc, .slice ac nc cc, digs (zc : Int).natAbs) (List.mem_cons_of_mem _ (List.mem_cons_of_mem _ (List.mem_cons_of_mem _ (List.mem_cons_of_mem _ (List.mem_cons_of_mem _ (List.mem_cons_of_mem _ (List.mem_cons_of_mem _ (List.mem_cons_of_mem _ List.mem_cons_self))))))))).cells
  go_wp2_with fail
  clear t27 u27 t28 u28
  refine (mul_k ((S26.out.box (w24.heap.size, s24, .slice a24 n24 c24, digs ((za * zb) : Int).natAbs) (List.mem_cons_of_mem _ (List.mem_cons_of_mem _ List.mem_cons_self))).num E24.out) ((S26.out.box (w.heap.size + 1 + 1, sc, .slice ac nc cc, digs (zc : Int).natAbs) (List.mem_cons_of_mem _ (List.mem_cons_of_mem _ (List.mem_cons_of_mem _ (List.mem_cons_of_mem _ (List.mem_cons_of_mem _ (List.mem_cons_of_mem _ (List.mem_cons_of_mem _ (List.mem_cons_of_mem _ List.mem_cons_self))))))))).num Ec.out) (Sz.len (Sz.mul Za.out Zb.out)) (Sz.len Zc.out)).mono ?_
  rintro e w27 ⟨s27, a27, n27, c27, rfl, hn, hb, hf⟩
  have F27 := Lib.hid ((S26.out.later hb).box (w18.heap.size, s18, .slice a18 n18 c18, digs (((za + zb) + zc) : Int).natAbs) (List.mem_cons_of_mem _ (List.mem_cons_of_mem _ (List.mem_cons_of_mem _ (List.mem_cons_of_mem _ List.mem_cons_self)))))
  have S27 : Hid (Sq w [(w26.heap.size, s26, .slice a26 n26 c26, digs ((zb * zc) : Int).natAbs), (w25.heap.size, s25, .slice a25 n25 c25, digs ((zb * za) : Int).natAbs), (w24.heap.size, s24, .slice a24 n24 c24, digs ((za * zb) : Int).natAbs), (w19.heap.size, s19, .slice a19 n19 c19, digs ((za + (zb + zc)) : Int).natAbs), (w18.heap.size, s27, .slice a27 n27 c27, digs (((za * zb) * zc) : Int).natAbs), (w17.heap.size, s17, .slice a17 n17 c17, digs ((zb + zc) : Int).natAbs), (w16.heap.size, s16, .slice a16 n16 c16, digs ((zb + za) : Int).natAbs), (w15.heap.size, s15, .slice a15 n15 c15, digs ((za + zb) : Int).natAbs), (w.heap.size + 1 + 1, sc, .slice ac nc cc, digs (zc : Int).natAbs), (w.heap.size + 1, sb, .slice ab nb cb, digs (zb : Int).natAbs), (w.heap.size, sa, .slice aa na ca, digs (za : Int).natAbs)] _) := Lib.hid (Sq.setb (pre := [(w26.heap.size, s26, .slice a26 n26 c26, digs ((zb * zc) : Int).natAbs), (w25.heap.size, s25, .slice a25 n25 c25, digs ((zb * za) : Int).natAbs), (w24.heap.size, s24, .slice a24 n24 c24, digs ((za * zb) : Int).natAbs), (w19.heap.size, s19, .slice a19 n19 c19, digs ((za + (zb + zc)) : Int).natAbs)]) (post := [(w17.heap.size, s17, .slice a17 n17 c17, digs ((zb + zc) : Int).natAbs), (w16.heap.size, s16, .slice a16 n16 c16, digs ((zb + za) : Int).natAbs), (w15.heap.size, s15, .slice a15 n15 c15, digs ((za + zb) : Int).natAbs), (w.heap.size + 1 + 1, sc, .slice ac nc cc, digs (zc : Int).natAbs), (w.heap.size + 1, sb, .slice ab nb cb, digs (zb : Int).natAbs), (w.heap.size, sa, .slice aa na ca, digs (za : Int).natAbs)]) S26.out hb (sg' := s27) hn.2 hf)
  have E27 := Lib.hid hn.1
  clear hn hb hf S26
  obtain ⟨fa, fb⟩ := F27.out.free
  obtain ⟨fc, fd⟩ := F27.out.cells
  clear F27
  obtain ⟨t29, u29⟩ := (S27.out.box (w.heap.size, sa, .slice aa na ca, digs (za : Int).natAbs) (List.mem_cons_of_mem _ (List.mem_cons_of_mem _ (List.mem_cons_of_mem _ (List.mem_cons_of_mem _ (List.mem_cons_of_mem _ (List.mem_cons_of_mem _ (List.mem_cons_of_mem _ (List.mem_cons_of_mem _ (List.mem_cons_of_mem _ (List.mem_cons_of_mem _ List.mem_cons_self))))))))))).cells
  obtain ⟨t30, u30⟩ := (S27.out.box (w26.heap.size, s26, .slice a26 n26 c26, digs ((zb * zc) : Int).natAbs) List.mem_cons_self).cells
  go_wp2_with fail
  clear fa fb fc fd t29 u29 t30 u30
  refine (mul_k ((S27.out.box (w.heap.size, sa, .slice aa na ca, digs (za : Int).natAbs) (List.mem_cons_of_mem _ (List.mem_cons_of_mem _ (List.mem_cons_of_mem _ (List.mem_cons_of_mem _ (List.mem_cons_of_mem _ (List.mem_cons_of_mem _ (List.mem_cons_of_mem _ (List.mem_cons_of_mem _ (List.mem_cons_of_mem _ (List.mem_cons_of_mem _ List.mem_cons_self))))))))))).num Ea.out) ((S27.out.box (w26.heap.size, s26, .slice a26 n26 c26, digs ((zb * zc) : Int).natAbs) List.mem_cons_self).num E26.out) (Sz.len Za.out) (Sz.len (Sz.mul Zb.out Zc.out))).mono ?_
  rintro e w28 ⟨s28, a28, n28, c28, rfl, hn, hb, hf⟩
  have F28 := Lib.hid ((S27.out.later hb).box (w19.heap.size, s19, .slice a19 n19 c19, digs ((za + (zb + zc)) : Int).natAbs) (List.mem_cons_of_mem _ (List.mem_cons_of_mem _ (List.mem_cons_of_mem _ List.mem_cons_self))))
  have S28 : Hid (Sq w [(w26.heap.size, s26, .slice a26 n26 c26, digs ((zb * zc) : Int).natAbs), (w25.heap.size, s25, .slice a25 n25 c25, digs ((zb * za) : Int).natAbs), (w24.heap.size, s24, .slice a24 n24 c24, digs ((za * zb) : Int).natAbs), (w19.heap.size, s28, .slice a28 n28 c28, digs ((za * (zb * zc)) : Int).natAbs), (w18.heap.size, s27, .slice a27 n27 c27, digs (((za * zb) * zc) : Int).natAbs), (w17.heap.size, s17, .slice a17 n17 c17, digs ((zb + zc) : Int).natAbs), (w16.heap.size, s16, .slice a16 n16 c16, digs ((zb + za) : Int).natAbs), (w15.heap.size, s15, .slice a15 n15 c15, digs ((za + zb) : Int).natAbs), (w.heap.size + 1 + 1, sc, .slice ac nc cc, digs (zc : Int).natAbs), (w.heap.size + 1, sb, .slice ab nb cb, digs (zb : Int).natAbs), (w.heap.size, sa, .slice aa na ca, digs (za : Int).natAbs)] _) := Lib.hid (Sq.setb (pre := [(w26.heap.size, s26, .slice a26 n26 c26, digs ((zb * zc) : Int).natAbs), (w25.heap.size, s25, .slice a25 n25 c25, digs ((zb * za) : Int).natAbs), (w24.heap.size, s24, .slice a24 n24 c24, digs ((za * zb) : Int).natAbs)]) (post := [(w18.heap.size, s27, .slice a27 n27 c27, digs (((za * zb) * zc) : Int).natAbs), (w17.heap.size, s17, .slice a17 n17 c17, digs ((zb + zc) : Int).natAbs), (w16.heap.size, s16, .slice a16 n16 c16, digs ((zb + za) : Int).natAbs), (w15.heap.size, s15, .slice a15 n15 c15, digs ((za + zb) : Int).natAbs), (w.heap.size + 1 + 1, sc, .slice ac nc cc, digs (zc : Int).natAbs), (w.heap.size + 1, sb, .slice ab nb cb, digs (zb : Int).natAbs), (w.heap.size, sa, .slice aa na ca, digs (za : Int).natAbs)]) S27.out hb (sg' := s28) hn.2 hf)
  have E28 := Lib.hid hn.1
  clear hn hb hf S27
  obtain ⟨fa, fb⟩ := F28.out.free
  obtain ⟨fc, fd⟩ := F28.out.cells
  clear F28
  obtain ⟨t31, u31⟩ := (S28.out.box (w24.heap.size, s24, .slice a24 n24 c24, digs ((za * zb) : Int).natAbs) (List.mem_cons_of_mem _ (List.mem_cons_of_mem _ List.mem_cons_self))).cells
  obtain ⟨t32, u32⟩ := (S28.out.box (w25.heap.size, s25, .slice a25 n25 c25, digs ((zb * za) : Int).natAbs) (List.mem_cons_of_mem _ List.mem_cons_self)).cells
  go_wp2_with fail
  clear fa fb fc fd t31 u31 t32 u32
  refine (rsame_t ((S28.out.box (w24.heap.size, s24, .slice a24 n24 c24, digs ((za * zb) : Int).natAbs) (List.mem_cons_of_mem _ (List.mem_cons_of_mem _ List.mem_cons_self))).num E24.out) ((S28.out.box (w25.heap.size, s25, .slice a25 n25 c25, digs ((zb * za) : Int).natAbs) (List.mem_cons_of_mem _ List.mem_cons_self)).num E25.out) (Int.mul_comm _ _)).mono ?_
  rintro e w29 ⟨rfl, hb⟩
  have S30 := Lib.hid (S28.out.later hb)
  clear S28
  clear hb
  obtain ⟨t33, u33⟩ := (S30.out.box (w18.heap.size, s27, .slice a27 n27 c27, digs (((za * zb) * zc) : Int).natAbs) (List.mem_cons_of_mem _ (List.mem_cons_of_mem _ (List.mem_cons_of_mem _ (List.mem_cons_of_mem _ List.mem_cons_self))))).cells
  obtain ⟨t34, u34⟩ := (S30.out.box (w19.heap.size, s28, .slice a28 n28 c28, digs ((za * (zb * zc)) : Int).natAbs) (List.mem_cons_of_mem _ (List.mem_cons_of_mem _ (List.mem_cons_of_mem _ List.mem_cons_self)))).cells
  go_wp2_with fail
  clear t33 u33 t34 u34
  refine (rsame_t ((S30.out.box (w18.heap.size, s27, .slice a27 n27 c27, digs (((za * zb) * zc) : Int).natAbs) (List.mem_cons_of_mem _ (List.mem_cons_of_mem _ (List.mem_cons_of_mem _ (List.mem_cons_of_mem _ List.mem_cons_self))))).num E27.out) ((S30.out.box (w19.heap.size, s28, .slice a28 n28 c28, digs ((za * (zb * zc)) : Int).natAbs) (List.mem_cons_of_mem _ (List.mem_cons_of_mem _ (List.mem_cons_of_mem _ List.mem_cons_self)))).num E28.out) (Int.mul_assoc _ _ _)).mono ?_
  rintro e w31 ⟨rfl, hb⟩
  have S32 := Lib.hid (S30.out.later hb)
  clear S30
  clear hb
  obtain ⟨t35, u35⟩ := (S32.out.box (w.heap.size, sa, .slice aa na ca, digs (za : Int).natAbs) (List.mem_cons_of_mem _ (List.mem_cons_of_mem _ (List.mem_cons_of_mem _ (List.mem_cons_of_mem _ (List.mem_cons_of_mem _ (List.mem_cons_of_mem _ (List.mem_cons_of_mem _ (List.mem_cons_of_mem _ (List.mem_cons_of_mem _ (List.mem_cons_of_mem _ List.mem_cons_self))))))))))).cells
  obtain ⟨t36, u36⟩ := (S32.out.box (w17.heap.size, s17, .slice a17 n17 c17, digs ((zb + zc) : Int).natAbs) (List.mem_cons_of_mem _ (List.mem_cons_of_mem _ (List.mem_cons_of_mem _ (List.mem_cons_of_mem _ (List.mem_cons_of_mem _ List.mem_cons_self)))))).cells
  go_wp2_with fail
  clear t35 u35 t36 u36
  refine (mul_k ((S32.out.box (w.heap.size, sa, .slice aa na ca, digs (za : Int).natAbs) (List.mem_cons_of_mem _ (List.mem_cons_of_mem _ (List.mem_cons_of_mem _ (List.mem_cons_of_mem _ (List.mem_cons_of_mem _ (List.mem_cons_of_mem _ (List.mem_cons_of_mem _ (List.mem_cons_of_mem _ (List.mem_cons_of_mem _ (List.mem_cons_of_mem _ List.mem_cons_self))))))))))).num Ea.out) ((S32.out.box (w17.heap.size, s17, .slice a17 n17 c17, digs ((zb + zc) : Int).natAbs) (List.mem_cons_of_mem _ (List.mem_cons_of_mem _ (List.mem_cons_of_mem _ (List.mem_cons_of_mem _ (List.mem_cons_of_mem _ List.mem_cons_self)))))).num E17.out) (Sz.len Za.out) (Sz.len (Sz.add Zb.out Zc.out))).mono ?_
  rintro e w33 ⟨s33, a33, n33, c33, rfl, hn, hb, hf⟩
  have S33 := Lib.hid (S32.out.ret (sg := s33) hb hn.2 hf)
  have E33 := Lib.hid hn.1
  clear hn hb hf S32
  obtain ⟨t37, u37⟩ := (S33.out.box (w.heap.size, sa, .slice aa na ca, digs (za : Int).natAbs) (List.mem_cons_of_mem _ (List.mem_cons_of_mem _ (List.mem_cons_of_mem _ (List.mem_cons_of_mem _ (List.mem_cons_of_mem _ (List.mem_cons_of_mem _ (List.mem_cons_of_mem _ (List.mem_cons_of_mem _ (List.mem_cons_of_mem _ (List.mem_cons_of_mem _ (List.mem_cons_of_mem _ List.mem_cons_self)))))))))))).cells
  obtain ⟨t38, u38⟩ := (S33.out.box (w.heap.size + 1 + 1, sc, .slice ac nc cc, digs (zc : Int).natAbs) (List.mem_cons_of_mem _ (List.mem_cons_of_mem _ (List.mem_cons_of_mem _ (List.mem_cons_of_mem _ (List.mem_cons_of_mem _ (List.mem_cons_of_mem _ (List.mem_cons_of_mem _ (List.mem_cons_of_mem _ (List.mem_cons_of_mem _ List.mem_cons_self)))))))))).cells
  go_wp2_with fail
  clear t37 u37 t38 u38
  refine (mul_k ((S33.out.box (w.heap.size, sa, .slice aa na ca, digs (za : Int).natAbs) (List.mem_cons_of_mem _ (List.mem_cons_of_mem _ (List.mem_cons_of_mem _ (List.mem_cons_of_mem _ (List.mem_cons_of_mem _ (List.mem_cons_of_mem _ (List.mem_cons_of_mem _ (List.mem_cons_of_mem _ (List.mem_cons_of_mem _ (List.mem_cons_of_mem _ (List.mem_cons_of_mem _ List.mem_cons_self)))))))))))).num Ea.out) ((S33.out.box (w.heap.size + 1 + 1, sc, .slice ac nc cc, digs (zc : Int).natAbs) (List.mem_cons_of_mem _ (List.mem_cons_of_mem _ (List.mem_cons_of_mem _ (List.mem_cons_of_mem _ (List.mem_cons_of_mem _ (List.mem_cons_of_mem _ (List.mem_cons_of_mem _ (List.mem_cons_of_mem _ (List.mem_cons_of_mem _ List.mem_cons_self)))))))))).num Ec.out) (Sz.len Za.out) (Sz.len Zc.out)).mono ?_
  rintro e w34 ⟨s34, a34, n34, c34, rfl, hn, hb, hf⟩
  have S34 := Lib.hid (S33.out.ret (sg := s34) hb hn.2 hf)
  have E34 := Lib.hid hn.1
  clear hn hb hf S33
  obtain ⟨t39, u39⟩ := (S34.out.box (w24.heap.size, s24, .slice a24 n24 c24, digs ((za * zb) : Int).natAbs) (List.mem_cons_of_mem _ (List.mem_cons_of_mem _ (List.mem_cons_of_mem _ (List.mem_cons_of_mem _ List.mem_cons_self))))).cells
  obtain ⟨t40, u40⟩ := (S34.out.box (w34.heap.size, s34, .slice a34 n34 c34, digs ((za * zc) : Int).natAbs) List.mem_cons_self).cells
  go_wp2_with fail
  clear t39 u39 t40 u40
  refine (add_k ((S34.out.box (w24.heap.size, s24, .slice a24 n24 c24, digs ((za * zb) : Int).natAbs) (List.mem_cons_of_mem _ (List.mem_cons_of_mem _ (List.mem_cons_of_mem _ (List.mem_cons_of_mem _ List.mem_cons_self))))).num E24.out) ((S34.out.box (w34.heap.size, s34, .slice a34 n34 c34, digs ((za * zc) : Int).natAbs) List.mem_cons_self).num E34.out) (Sz.len (Sz.mul Za.out Zb.out)) (Sz.len (Sz.mul Za.out Zc.out))).mono ?_
  rintro e w35 ⟨s35, a35, n35, c35, rfl, hn, hb, hf⟩
  have S35 := Lib.hid (S34.out.ret (sg := s35) hb hn.2 hf)
  have E35 := Lib.hid hn.1
  clear hn hb hf S34
  obtain ⟨t41, u41⟩ := (S35.out.box (w.heap.size, sa, .slice aa na ca, digs (za : Int).natAbs) (List.mem_cons_of_mem _ (List.mem_cons_of_mem _ (List.mem_cons_of_mem _ (List.mem_cons_of_mem _ (List.mem_cons_of_mem _ (List.mem_cons_of_mem _ (List.mem_cons_of_mem _ (List.mem_cons_of_mem _ (List.mem_cons_of_mem _ (List.mem_cons_of_mem _ (List.mem_cons_of_mem _ (List.mem_cons_of_mem _ (List.mem_cons_of_mem _ List.mem_cons_self)))))))))))))).cells
  obtain ⟨t42, u42⟩ := (S35.out.box (w.heap.size + 1, sb, .slice ab nb cb, digs (zb : Int).natAbs) (List.mem_cons_of_mem _ (List.mem_cons_of_mem _ (List.mem_cons_of_mem _ (List.mem_cons_of_mem _ (List.mem_cons_of_mem _ (List.mem_cons_of_mem _ (List.mem_cons_of_mem _ (List.mem_cons_of_mem _ (List.mem_cons_of_mem _ (List.mem_cons_of_mem _ (List.mem_cons_of_mem _ (List.mem_cons_of_mem _ List.mem_cons_self))))))))))))).cells
  go_wp2_with fail
  clear t41 u41 t42 u42
  refine (sub_k ((S35.out.box (w.heap.size, sa, .slice aa na ca, digs (za : Int).natAbs) (List.mem_cons_of_mem _ (List.mem_cons_of_mem _ (List.mem_cons_of_mem _ (List.mem_cons_of_mem _ (List.mem_cons_of_mem _ (List.mem_cons_of_mem _ (List.mem_cons_of_mem _ (List.mem_cons_of_mem _ (List.mem_cons_of_mem _ (List.mem_cons_of_mem _ (List.mem_cons_of_mem _ (List.mem_cons_of_mem _ (List.mem_cons_of_mem _ List.mem_cons_self)))))))))))))).num Ea.out) ((S35.out.box (w.heap.size + 1, sb, .slice ab nb cb, digs (zb : Int).natAbs) (List.mem_cons_of_mem _ (List.mem_cons_of_mem _ (List.mem_cons_of_mem _ (List.mem_cons_of_mem _ (List.mem_cons_of_mem _ (List.mem_cons_of_mem _ (List.mem_cons_of_mem _ (List.mem_cons_of_mem _ (List.mem_cons_of_mem _ (List.mem_cons_of_mem _ (List.mem_cons_of_mem _ (List.mem_cons_of_mem _ List.mem_cons_self))))))))))))).num Eb.out) (Sz.len Za.out) (Sz.len Zb.out)).mono ?_
  rintro e w36 ⟨s36, a36, n36, c36, rfl, hn, hb, hf⟩
  have S36 := Lib.hid (S35.out.ret (sg := s36) hb hn.2 hf)
  have E36 := Lib.hid hn.1
  clear hn hb hf S35
  obtain ⟨t43, u43⟩ := (S36.out.box (w36.heap.size, s36, .slice a36 n36 c36, digs ((za - zb) : Int).natAbs) List.mem_cons_self).cells
  obtain ⟨t44, u44⟩ := (S36.out.box (w.heap.size + 1, sb, .slice ab nb cb, digs (zb : Int).natAbs) (List.mem_cons_of_mem _ (List.mem_cons_of_mem _ (List.mem_cons_of_mem _ (List.mem_cons_of_mem _ (List.mem_cons_of_mem _ (List.mem_cons_of_mem _ (List.mem_cons_of_mem _ (List.mem_cons_of_mem _ (List.mem_cons_of_mem _ (List.mem_cons_of_mem _ (List.mem_cons_of_mem _ (List.mem_cons_of_mem _ (List.mem_cons_of_mem _ List.mem_cons_self)))))))))))))).cells
  go_wp2_with fail
  clear t43 u43 t44 u44
  refine (add_k ((S36.out.box (w36.heap.size, s36, .slice a36 n36 c36, digs ((za - zb) : Int).natAbs) List.mem_cons_self).num E36.out) ((S36.out.box (w.heap.size + 1, sb, .slice ab nb cb, digs (zb : Int).natAbs) (List.mem_cons_of_mem _ (List.mem_cons_of_mem _ (List.mem_cons_of_mem _ (List.mem_cons_of_mem _ (List.mem_cons_of_mem _ (List.mem_cons_of_mem _ (List.mem_cons_of_mem _ (List.mem_cons_of_mem _ (List.mem_cons_of_mem _ (List.mem_cons_of_mem _ (List.mem_cons_of_mem _ (List.mem_cons_of_mem _ (List.mem_cons_of_mem _ List.mem_cons_self)))))))))))))).num Eb.out) (Sz.len (Sz.sub Za.out Zb.out)) (Sz.len Zb.out)).mono ?_
  rintro e w37 ⟨s37, a37, n37, c37, rfl, hn, hb, hf⟩
  have S37 := Lib.hid (S36.out.ret (sg := s37) hb hn.2 hf)
  have E37 := Lib.hid hn.1
  clear hn hb hf S36
  obtain ⟨t45, u45⟩ := (S37.out.box (w33.heap.size, s33, .slice a33 n33 c33, digs ((za * (zb + zc)) : Int).natAbs) (List.mem_cons_of_mem _ (List.mem_cons_of_mem _ (List.mem_cons_of_mem _ (List.mem_cons_of_mem _ List.mem_cons_self))))).cells
  obtain ⟨t46, u46⟩ := (S37.out.box (w35.heap.size, s35, .slice a35 n35 c35, digs (((za * zb) + (za * zc)) : Int).natAbs) (List.mem_cons_of_mem _ (List.mem_cons_of_mem _ List.mem_cons_self))).cells
  go_wp2_with fail
  clear t45 u45 t46 u46
  refine (rsame_t ((S37.out.box (w33.heap.size, s33, .slice a33 n33 c33, digs ((za * (zb + zc)) : Int).natAbs) (List.mem_cons_of_mem _ (List.mem_cons_of_mem _ (List.mem_cons_of_mem _ (List.mem_cons_of_mem _ List.mem_cons_self))))).num E33.out) ((S37.out.box (w35.heap.size, s35, .slice a35 n35 c35, digs (((za * zb) + (za * zc)) : Int).natAbs) (List.mem_cons_of_mem _ (List.mem_cons_of_mem _ List.mem_cons_self))).num E35.out) (Int.mul_add _ _ _)).mono ?_
  rintro e w38 ⟨rfl, hb⟩
  have S39 := Lib.hid (S37.out.later hb)
  clear S37
  clear hb
  obtain ⟨t47, u47⟩ := (S39.out.box (w37.heap.size, s37, .slice a37 n37 c37, digs (((za - zb) + zb) : Int).natAbs) List.mem_cons_self).cells
  obtain ⟨t48, u48⟩ := (S39.out.box (w.heap.size, sa, .slice aa na ca, digs (za : Int).natAbs) (List.mem_cons_of_mem _ (List.mem_cons_of_mem _ (List.mem_cons_of_mem _ (List.mem_cons_of_mem _ (List.mem_cons_of_mem _ (List.mem_cons_of_mem _ (List.mem_cons_of_mem _ (List.mem_cons_of_mem _ (List.mem_cons_of_mem _ (List.mem_cons_of_mem _ (List.mem_cons_of_mem _ (List.mem_cons_of_mem _ (List.mem_cons_of_mem _ (List.mem_cons_of_mem _ (List.mem_cons_of_mem _ List.mem_cons_self)))))))))))))))).cells
  go_wp2_with fail
  clear t47 u47 t48 u48
  refine (rsame_t ((S39.out.box (w37.heap.size, s37, .slice a37 n37 c37, digs (((za - zb) + zb) : Int).natAbs) List.mem_cons_self).num E37.out) ((S39.out.box (w.heap.size, sa, .slice aa na ca, digs (za : Int).natAbs) (List.mem_cons_of_mem _ (List.mem_cons_of_mem _ (List.mem_cons_of_mem _ (List.mem_cons_of_mem _ (List.mem_cons_of_mem _ (List.mem_cons_of_mem _ (List.mem_cons_of_mem _ (List.mem_cons_of_mem _ (List.mem_cons_of_mem _ (List.mem_cons_of_mem _ (List.mem_cons_of_mem _ (List.mem_cons_of_mem _ (List.mem_cons_of_mem _ (List.mem_cons_of_mem _ (List.mem_cons_of_mem _ List.mem_cons_self)))))))))))))))).num Ea.out) (by omega)).mono ?_
  rintro e w40 ⟨rfl, hb⟩
  have S41 := Lib.hid (S39.out.later hb)
  clear S39
  clear hb
  go_upto_region 25 with fail
  go_cut [26, 9] from 239 to 244 (fun u v wx => v = .int .i64 0 ∧ Hid (∃ g s a n c, u = .pointer (some ⟨g, 0, none⟩) ∧ s = ((za + 0) : Int).sign ∧ Sq w ((g, s, .slice a n c, digs ((za + 0) : Int).natAbs) :: [(w37.heap.size, s37, .slice a37 n37 c37, digs (((za - zb) + zb) : Int).natAbs), (w36.heap.size, s36, .slice a36 n36 c36, digs ((za - zb) : Int).natAbs), (w35.heap.size, s35, .slice a35 n35 c35, digs (((za * zb) + (za * zc)) : Int).natAbs), (w34.heap.size, s34, .slice a34 n34 c34, digs ((za * zc) : Int).natAbs), (w33.heap.size, s33, .slice a33 n33 c33, digs ((za * (zb + zc)) : Int).natAbs), (w26.heap.size, s26, .slice a26 n26 c26, digs ((zb * zc) : Int).natAbs), (w25.heap.size, s25, .slice a25 n25 c25, digs ((zb * za) : Int).natAbs), (w24.heap.size, s24, .slice a24 n24 c24, digs ((za * zb) : Int).natAbs), (w19.heap.size, s28, .slice a28 n28 c28, digs ((za * (zb * zc)) : Int).natAbs), (w18.heap.size, s27, .slice a27 n27 c27, digs (((za * zb) * zc) : Int).natAbs), (w17.heap.size, s17, .slice a17 n17 c17, digs ((zb + zc) : Int).natAbs), (w16.heap.size, s16, .slice a16 n16 c16, digs ((zb + za) : Int).natAbs), (w15.heap.size, s15, .slice a15 n15 c15, digs ((za + zb) : Int).natAbs), (w.heap.size + 1 + 1, sc, .slice ac nc cc, digs (zc : Int).natAbs), (w.heap.size + 1, sb, .slice ab nb cb, digs (zb : Int).natAbs), (w.heap.size, sa, .slice aa na ca, digs (za : Int).natAbs)]) wx))
  case first =>
    have SD := Lib.hid S41.out.drew
    have SZ := Lib.hid S41.out.zero.drew
    have ex := (SD.out.box (w.heap.size, sa, .slice aa na ca, digs (za : Int).natAbs) (List.mem_cons_of_mem _ (List.mem_cons_of_mem _ (List.mem_cons_of_mem _ (List.mem_cons_of_mem _ (List.mem_cons_of_mem _ (List.mem_cons_of_mem _ (List.mem_cons_of_mem _ (List.mem_cons_of_mem _ (List.mem_cons_of_mem _ (List.mem_cons_of_mem _ (List.mem_cons_of_mem _ (List.mem_cons_of_mem _ (List.mem_cons_of_mem _ (List.mem_cons_of_mem _ (List.mem_cons_of_mem _ List.mem_cons_self)))))))))))))))).cells
    have ez := (SZ.out.box (w.heap.size, sa, .slice aa na ca, digs (za : Int).natAbs) (List.mem_cons_of_mem _ (List.mem_cons_of_mem _ (List.mem_cons_of_mem _ (List.mem_cons_of_mem _ (List.mem_cons_of_mem _ (List.mem_cons_of_mem _ (List.mem_cons_of_mem _ (List.mem_cons_of_mem _ (List.mem_cons_of_mem _ (List.mem_cons_of_mem _ (List.mem_cons_of_mem _ (List.mem_cons_of_mem _ (List.mem_cons_of_mem _ (List.mem_cons_of_mem _ (List.mem_cons_of_mem _ (List.mem_cons_of_mem _ List.mem_cons_self))))))))))))))))).cells
    have HB : Hid (-9223372036854775808 ≤ (0 : Int) ∧ (0 : Int) ≤ 9223372036854775807) := ⟨by omega, by omega⟩
    have HK : Hid (Len 100000 0) := Len.of (by decide)
    have HX : Hid (Len 100000 za) := Sz.len Za.out
    clear S41
    go_region_held3 (fun W => W.cell? ⟨w.heap.size, 0, none⟩ = some (.int .i64 sa) ∧ W.cell? ⟨w.heap.size, 1, none⟩ = some (.slice aa na ca))
      (first | (with_reducible exact ex) | (with_reducible exact ez) | (with_reducible exact xa) | (with_reducible exact xaz) | (with_reducible exact xb) | (with_reducible exact xc) | (with_reducible exact xcz) | (with_reducible exact xcr) | (with_reducible exact xd) | (with_reducible exact xds) | (with_reducible exact xe) | (with_reducible exact xes) | go_keep)
      (first
        | (go_at_call 36; (with_reducible refine (of_k 0 HB.out _).mono ?_); rintro e wa ⟨sk, ak, nk, ck, rfl, hn, hb, hf⟩; have SA := Lib.hid (SD.out.later hb); have xa := (SA.out.box (w.heap.size, sa, .slice aa na ca, digs (za : Int).natAbs) (List.mem_cons_of_mem _ (List.mem_cons_of_mem _ (List.mem_cons_of_mem _ (List.mem_cons_of_mem _ (List.mem_cons_of_mem _ (List.mem_cons_of_mem _ (List.mem_cons_of_mem _ (List.mem_cons_of_mem _ (List.mem_cons_of_mem _ (List.mem_cons_of_mem _ (List.mem_cons_of_mem _ (List.mem_cons_of_mem _ (List.mem_cons_of_mem _ (List.mem_cons_of_mem _ (List.mem_cons_of_mem _ List.mem_cons_self)))))))))))))))).cells; have SAZ := Lib.hid SA.out.zero; have xaz := (SAZ.out.box (w.heap.size, sa, .slice aa na ca, digs (za : Int).natAbs) (List.mem_cons_of_mem _ (List.mem_cons_of_mem _ (List.mem_cons_of_mem _ (List.mem_cons_of_mem _ (List.mem_cons_of_mem _ (List.mem_cons_of_mem _ (List.mem_cons_of_mem _ (List.mem_cons_of_mem _ (List.mem_cons_of_mem _ (List.mem_cons_of_mem _ (List.mem_cons_of_mem _ (List.mem_cons_of_mem _ (List.mem_cons_of_mem _ (List.mem_cons_of_mem _ (List.mem_cons_of_mem _ (List.mem_cons_of_mem _ List.mem_cons_self))))))))))))))))).cells; have NA := Lib.hid hn; clear hn hb hf)
        | (go_at_call 36; (with_reducible refine (of_k 0 HB.out _).mono ?_); rintro e wb ⟨sk, ak, nk, ck, rfl, hn, hb, hf⟩; have SB := Lib.hid (SZ.out.later hb); have xb := (SB.out.box (w.heap.size, sa, .slice aa na ca, digs (za : Int).natAbs) (List.mem_cons_of_mem _ (List.mem_cons_of_mem _ (List.mem_cons_of_mem _ (List.mem_cons_of_mem _ (List.mem_cons_of_mem _ (List.mem_cons_of_mem _ (List.mem_cons_of_mem _ (List.mem_cons_of_mem _ (List.mem_cons_of_mem _ (List.mem_cons_of_mem _ (List.mem_cons_of_mem _ (List.mem_cons_of_mem _ (List.mem_cons_of_mem _ (List.mem_cons_of_mem _ (List.mem_cons_of_mem _ (List.mem_cons_of_mem _ List.mem_cons_self))))))))))))))))).cells; have NB := Lib.hid hn; clear hn hb hf)
        | (go_at_call 12; (with_reducible refine (add_k ((SA.out.box (w.heap.size, sa, .slice aa na ca, digs (za : Int).natAbs) (List.mem_cons_of_mem _ (List.mem_cons_of_mem _ (List.mem_cons_of_mem _ (List.mem_cons_of_mem _ (List.mem_cons_of_mem _ (List.mem_cons_of_mem _ (List.mem_cons_of_mem _ (List.mem_cons_of_mem _ (List.mem_cons_of_mem _ (List.mem_cons_of_mem _ (List.mem_cons_of_mem _ (List.mem_cons_of_mem _ (List.mem_cons_of_mem _ (List.mem_cons_of_mem _ (List.mem_cons_of_mem _ List.mem_cons_self)))))))))))))))).num Ea.out) NA.out HX.out HK.out).mono ?_); rintro e wc1 ⟨sr, ar, nr, cr, rfl, hn, hb, hf⟩; have SC := Lib.hid (SA.out.later hb); have xc := (SC.out.box (w.heap.size, sa, .slice aa na ca, digs (za : Int).natAbs) (List.mem_cons_of_mem _ (List.mem_cons_of_mem _ (List.mem_cons_of_mem _ (List.mem_cons_of_mem _ (List.mem_cons_of_mem _ (List.mem_cons_of_mem _ (List.mem_cons_of_mem _ (List.mem_cons_of_mem _ (List.mem_cons_of_mem _ (List.mem_cons_of_mem _ (List.mem_cons_of_mem _ (List.mem_cons_of_mem _ (List.mem_cons_of_mem _ (List.mem_cons_of_mem _ (List.mem_cons_of_mem _ List.mem_cons_self)))))))))))))))).cells; have xcz := (SC.out.zero.box (w.heap.size, sa, .slice aa na ca, digs (za : Int).natAbs) (List.mem_cons_of_mem _ (List.mem_cons_of_mem _ (List.mem_cons_of_mem _ (List.mem_cons_of_mem _ (List.mem_cons_of_mem _ (List.mem_cons_of_mem _ (List.mem_cons_of_mem _ (List.mem_cons_of_mem _ (List.mem_cons_of_mem _ (List.mem_cons_of_mem _ (List.mem_cons_of_mem _ (List.mem_cons_of_mem _ (List.mem_cons_of_mem _ (List.mem_cons_of_mem _ (List.mem_cons_of_mem _ (List.mem_cons_of_mem _ List.mem_cons_self))))))))))))))))).cells; have RC := Lib.hid (SA.out.ret (sg := sr) hb hn.2 hf); have xcr := (RC.out.box (w.heap.size, sa, .slice aa na ca, digs (za : Int).natAbs) (List.mem_cons_of_mem _ (List.mem_cons_of_mem _ (List.mem_cons_of_mem _ (List.mem_cons_of_mem _ (List.mem_cons_of_mem _ (List.mem_cons_of_mem _ (List.mem_cons_of_mem _ (List.mem_cons_of_mem _ (List.mem_cons_of_mem _ (List.mem_cons_of_mem _ (List.mem_cons_of_mem _ (List.mem_cons_of_mem _ (List.mem_cons_of_mem _ (List.mem_cons_of_mem _ (List.mem_cons_of_mem _ (List.mem_cons_of_mem _ List.mem_cons_self))))))))))))))))).cells; have EC := Lib.hid hn.1; clear hn hb hf)
        | (go_at_call 12; (with_reducible refine (add_k ((SAZ.out.box (w.heap.size, sa, .slice aa na ca, digs (za : Int).natAbs) (List.mem_cons_of_mem _ (List.mem_cons_of_mem _ (List.mem_cons_of_mem _ (List.mem_cons_of_mem _ (List.mem_cons_of_mem _ (List.mem_cons_of_mem _ (List.mem_cons_of_mem _ (List.mem_cons_of_mem _ (List.mem_cons_of_mem _ (List.mem_cons_of_mem _ (List.mem_cons_of_mem _ (List.mem_cons_of_mem _ (List.mem_cons_of_mem _ (List.mem_cons_of_mem _ (List.mem_cons_of_mem _ (List.mem_cons_of_mem _ List.mem_cons_self))))))))))))))))).num Ea.out) (NA.out.later (below_alloc _ _)) HX.out HK.out).mono ?_); rintro e wd ⟨sr, ar, nr, cr, rfl, hn, hb, hf⟩; have xx := ((SAZ.out.later hb).box (w.heap.size, sa, .slice aa na ca, digs (za : Int).natAbs) (List.mem_cons_of_mem _ (List.mem_cons_of_mem _ (List.mem_cons_of_mem _ (List.mem_cons_of_mem _ (List.mem_cons_of_mem _ (List.mem_cons_of_mem _ (List.mem_cons_of_mem _ (List.mem_cons_of_mem _ (List.mem_cons_of_mem _ (List.mem_cons_of_mem _ (List.mem_cons_of_mem _ (List.mem_cons_of_mem _ (List.mem_cons_of_mem _ (List.mem_cons_of_mem _ (List.mem_cons_of_mem _ (List.mem_cons_of_mem _ List.mem_cons_self))))))))))))))))).cells; obtain ⟨z1, z2⟩ := ((SAZ.out.later hb).box (wa.heap.size, 0, .slice none 0 0, []) List.mem_cons_self).cells; obtain ⟨z3, z4⟩ := ((SAZ.out.later hb).box (wa.heap.size, 0, .slice none 0 0, []) List.mem_cons_self).free; have Rd : Hid (Sq w ((wa.heap.size, sr, .slice ar nr cr, digs ((za + 0) : Int).natAbs) :: [(w37.heap.size, s37, .slice a37 n37 c37, digs (((za - zb) + zb) : Int).natAbs), (w36.heap.size, s36, .slice a36 n36 c36, digs ((za - zb) : Int).natAbs), (w35.heap.size, s35, .slice a35 n35 c35, digs (((za * zb) + (za * zc)) : Int).natAbs), (w34.heap.size, s34, .slice a34 n34 c34, digs ((za * zc) : Int).natAbs), (w33.heap.size, s33, .slice a33 n33 c33, digs ((za * (zb + zc)) : Int).natAbs), (w26.heap.size, s26, .slice a26 n26 c26, digs ((zb * zc) : Int).natAbs), (w25.heap.size, s25, .slice a25 n25 c25, digs ((zb * za) : Int).natAbs), (w24.heap.size, s24, .slice a24 n24 c24, digs ((za * zb) : Int).natAbs), (w19.heap.size, s28, .slice a28 n28 c28, digs ((za * (zb * zc)) : Int).natAbs), (w18.heap.size, s27, .slice a27 n27 c27, digs (((za * zb) * zc) : Int).natAbs), (w17.heap.size, s17, .slice a17 n17 c17, digs ((zb + zc) : Int).natAbs), (w16.heap.size, s16, .slice a16 n16 c16, digs ((zb + za) : Int).natAbs), (w15.heap.size, s15, .slice a15 n15 c15, digs ((za + zb) : Int).natAbs), (w.heap.size + 1 + 1, sc, .slice ac nc cc, digs (zc : Int).natAbs), (w.heap.size + 1, sb, .slice ab nb cb, digs (zb : Int).natAbs), (w.heap.size, sa, .slice aa na ca, digs (za : Int).natAbs)]) _) := Lib.hid (Sq.setb (b := wa.heap.size) (pre := []) SAZ.out hb (sg' := sr) hn.2 hf); have xds := (Rd.out.box (w.heap.size, sa, .slice aa na ca, digs (za : Int).natAbs) (List.mem_cons_of_mem _ (List.mem_cons_of_mem _ (List.mem_cons_of_mem _ (List.mem_cons_of_mem _ (List.mem_cons_of_mem _ (List.mem_cons_of_mem _ (List.mem_cons_of_mem _ (List.mem_cons_of_mem _ (List.mem_cons_of_mem _ (List.mem_cons_of_mem _ (List.mem_cons_of_mem _ (List.mem_cons_of_mem _ (List.mem_cons_of_mem _ (List.mem_cons_of_mem _ (List.mem_cons_of_mem _ (List.mem_cons_of_mem _ List.mem_cons_self))))))))))))))))).cells; have xd := xx; have ED := Lib.hid hn.1; clear hn hb hf xx)
        | (go_at_call 12; (with_reducible refine (add_k ((SB.out.box (w.heap.size, sa, .slice aa na ca, digs (za : Int).natAbs) (List.mem_cons_of_mem _ (List.mem_cons_of_mem _ (List.mem_cons_of_mem _ (List.mem_cons_of_mem _ (List.mem_cons_of_mem _ (List.mem_cons_of_mem _ (List.mem_cons_of_mem _ (List.mem_cons_of_mem _ (List.mem_cons_of_mem _ (List.mem_cons_of_mem _ (List.mem_cons_of_mem _ (List.mem_cons_of_mem _ (List.mem_cons_of_mem _ (List.mem_cons_of_mem _ (List.mem_cons_of_mem _ (List.mem_cons_of_mem _ List.mem_cons_self))))))))))))))))).num Ea.out) NB.out HX.out HK.out).mono ?_); rintro e we ⟨sr, ar, nr, cr, rfl, hn, hb, hf⟩; have xx := ((SB.out.later hb).box (w.heap.size, sa, .slice aa na ca, digs (za : Int).natAbs) (List.mem_cons_of_mem _ (List.mem_cons_of_mem _ (List.mem_cons_of_mem _ (List.mem_cons_of_mem _ (List.mem_cons_of_mem _ (List.mem_cons_of_mem _ (List.mem_cons_of_mem _ (List.mem_cons_of_mem _ (List.mem_cons_of_mem _ (List.mem_cons_of_mem _ (List.mem_cons_of_mem _ (List.mem_cons_of_mem _ (List.mem_cons_of_mem _ (List.mem_cons_of_mem _ (List.mem_cons_of_mem _ (List.mem_cons_of_mem _ List.mem_cons_self))))))))))))))))).cells; obtain ⟨z1, z2⟩ := ((SB.out.later hb).box (w40.heap.size, 0, .slice none 0 0, []) List.mem_cons_self).cells; obtain ⟨z3, z4⟩ := ((SB.out.later hb).box (w40.heap.size, 0, .slice none 0 0, []) List.mem_cons_self).free; have Re : Hid (Sq w ((w40.heap.size, sr, .slice ar nr cr, digs ((za + 0) : Int).natAbs) :: [(w37.heap.size, s37, .slice a37 n37 c37, digs (((za - zb) + zb) : Int).natAbs), (w36.heap.size, s36, .slice a36 n36 c36, digs ((za - zb) : Int).natAbs), (w35.heap.size, s35, .slice a35 n35 c35, digs (((za * zb) + (za * zc)) : Int).natAbs), (w34.heap.size, s34, .slice a34 n34 c34, digs ((za * zc) : Int).natAbs), (w33.heap.size, s33, .slice a33 n33 c33, digs ((za * (zb + zc)) : Int).natAbs), (w26.heap.size, s26, .slice a26 n26 c26, digs ((zb * zc) : Int).natAbs), (w25.heap.size, s25, .slice a25 n25 c25, digs ((zb * za) : Int).natAbs), (w24.heap.size, s24, .slice a24 n24 c24, digs ((za * zb) : Int).natAbs), (w19.heap.size, s28, .slice a28 n28 c28, digs ((za * (zb * zc)) : Int).natAbs), (w18.heap.size, s27, .slice a27 n27 c27, digs (((za * zb) * zc) : Int).natAbs), (w17.heap.size, s17, .slice a17 n17 c17, digs ((zb + zc) : Int).natAbs), (w16.heap.size, s16, .slice a16 n16 c16, digs ((zb + za) : Int).natAbs), (w15.heap.size, s15, .slice a15 n15 c15, digs ((za + zb) : Int).natAbs), (w.heap.size + 1 + 1, sc, .slice ac nc cc, digs (zc : Int).natAbs), (w.heap.size + 1, sb, .slice ab nb cb, digs (zb : Int).natAbs), (w.heap.size, sa, .slice aa na ca, digs (za : Int).natAbs)]) _) := Lib.hid (Sq.setb (b := w40.heap.size) (pre := []) SB.out hb (sg' := sr) hn.2 hf); have xes := (Re.out.box (w.heap.size, sa, .slice aa na ca, digs (za : Int).natAbs) (List.mem_cons_of_mem _ (List.mem_cons_of_mem _ (List.mem_cons_of_mem _ (List.mem_cons_of_mem _ (List.mem_cons_of_mem _ (List.mem_cons_of_mem _ (List.mem_cons_of_mem _ (List.mem_cons_of_mem _ (List.mem_cons_of_mem _ (List.mem_cons_of_mem _ (List.mem_cons_of_mem _ (List.mem_cons_of_mem _ (List.mem_cons_of_mem _ (List.mem_cons_of_mem _ (List.mem_cons_of_mem _ (List.mem_cons_of_mem _ List.mem_cons_self))))))))))))))))).cells; have xe := xx; have EE := Lib.hid hn.1; clear hn hb hf xx))
    all_goals (go_wp2_with fail; go_meet; refine ⟨rfl, ?_⟩; first | exact ⟨_, _, _, _, _, rfl, EC.out, RC.out⟩ | exact ⟨_, _, _, _, _, rfl, ED.out, Rd.out⟩ | exact ⟨_, _, _, _, _, rfl, EE.out, Re.out⟩)
  case rest =>
  obtain ⟨rfl, hq⟩ := hcut
  obtain ⟨g42, s42, a42, n42, c42, rfl, e42, h42⟩ := hq.out
  obtain ⟨w42, rfl⟩ : ∃ W, W = wc := ⟨_, rfl⟩
  have S42 := Lib.hid h42
  have E42 := Lib.hid e42
  clear hq e42 h42 S41
  go_upto_region 26 with fail
  go_cut [27, 11] from 245 to 250 (fun u v wx => v = .int .i64 0 ∧ Hid (∃ g s a n c, u = .pointer (some ⟨g, 0, none⟩) ∧ s = ((za * 1) : Int).sign ∧ Sq w ((g, s, .slice a n c, digs ((za * 1) : Int).natAbs) :: [(g42, s42, .slice a42 n42 c42, digs ((za + 0) : Int).natAbs), (w37.heap.size, s37, .slice a37 n37 c37, digs (((za - zb) + zb) : Int).natAbs), (w36.heap.size, s36, .slice a36 n36 c36, digs ((za - zb) : Int).natAbs), (w35.heap.size, s35, .slice a35 n35 c35, digs (((za * zb) + (za * zc)) : Int).natAbs), (w34.heap.size, s34, .slice a34 n34 c34, digs ((za * zc) : Int).natAbs), (w33.heap.size, s33, .slice a33 n33 c33, digs ((za * (zb + zc)) : Int).natAbs), (w26.heap.size, s26, .slice a26 n26 c26, digs ((zb * zc) : Int).natAbs), (w25.heap.size, s25, .slice a25 n25 c25, digs ((zb * za) : Int).natAbs), (w24.heap.size, s24, .slice a24 n24 c24, digs ((za * zb) : Int).natAbs), (w19.heap.size, s28, .slice a28 n28 c28, digs ((za * (zb * zc)) : Int).natAbs), (w18.heap.size, s27, .slice a27 n27 c27, digs (((za * zb) * zc) : Int).natAbs), (w17.heap.size, s17, .slice a17 n17 c17, digs ((zb + zc) : Int).natAbs), (w16.heap.size, s16, .slice a16 n16 c16, digs ((zb + za) : Int).natAbs), (w15.heap.size, s15, .slice a15 n15 c15, digs ((za + zb) : Int).natAbs), (w.heap.size + 1 + 1, sc, .slice ac nc cc, digs (zc : Int).natAbs), (w.heap.size + 1, sb, .slice ab nb cb, digs (zb : Int).natAbs), (w.heap.size, sa, .slice aa na ca, digs (za : Int).natAbs)]) wx))
  case first =>
    have SD := Lib.hid S42.out.drew
    have SZ := Lib.hid S42.out.zero.drew
    have ex := (SD.out.box (w.heap.size, sa, .slice aa na ca, digs (za : Int).natAbs) (List.mem_cons_of_mem _ (List.mem_cons_of_mem _ (List.mem_cons_of_mem _ (List.mem_cons_of_mem _ (List.mem_cons_of_mem _ (List.mem_cons_of_mem _ (List.mem_cons_of_mem _ (List.mem_cons_of_mem _ (List.mem_cons_of_mem _ (List.mem_cons_of_mem _ (List.mem_cons_of_mem _ (List.mem_cons_of_mem _ (List.mem_cons_of_mem _ (List.mem_cons_of_mem _ (List.mem_cons_of_mem _ (List.mem_cons_of_mem _ List.mem_cons_self))))))))))))))))).cells
    have ez := (SZ.out.box (w.heap.size, sa, .slice aa na ca, digs (za : Int).natAbs) (List.mem_cons_of_mem _ (List.mem_cons_of_mem _ (List.mem_cons_of_mem _ (List.mem_cons_of_mem _ (List.mem_cons_of_mem _ (List.mem_cons_of_mem _ (List.mem_cons_of_mem _ (List.mem_cons_of_mem _ (List.mem_cons_of_mem _ (List.mem_cons_of_mem _ (List.mem_cons_of_mem _ (List.mem_cons_of_mem _ (List.mem_cons_of_mem _ (List.mem_cons_of_mem _ (List.mem_cons_of_mem _ (List.mem_cons_of_mem _ (List.mem_cons_of_mem _ List.mem_cons_self)))))))))))))))))).cells
    have HB : Hid (-9223372036854775808 ≤ (1 : Int) ∧ (1 : Int) ≤ 9223372036854775807) := ⟨by omega, by omega⟩
    have HK : Hid (Len 100000 1) := Len.of (by decide)
    have HX : Hid (Len 100000 za) := Sz.len Za.out
    clear S42
    go_region_held3 (fun W => W.cell? ⟨w.heap.size, 0, none⟩ = some (.int .i64 sa) ∧ W.cell? ⟨w.heap.size, 1, none⟩ = some (.slice aa na ca))
      (first | (with_reducible exact ex) | (with_reducible exact ez) | (with_reducible exact xa) | (with_reducible exact xaz) | (with_reducible exact xb) | (with_reducible exact xc) | (with_reducible exact xcz) | (with_reducible exact xcr) | (with_reducible exact xd) | (with_reducible exact xds) | (with_reducible exact xe) | (with_reducible exact xes) | go_keep)
      (first
        | (go_at_call 36; (with_reducible refine (of_k 1 HB.out _).mono ?_); rintro e wa ⟨sk, ak, nk, ck, rfl, hn, hb, hf⟩; have SA := Lib.hid (SD.out.later hb); have xa := (SA.out.box (w.heap.size, sa, .slice aa na ca, digs (za : Int).natAbs) (List.mem_cons_of_mem _ (List.mem_cons_of_mem _ (List.mem_cons_of_mem _ (List.mem_cons_of_mem _ (List.mem_cons_of_mem _ (List.mem_cons_of_mem _ (List.mem_cons_of_mem _ (List.mem_cons_of_mem _ (List.mem_cons_of_mem _ (List.mem_cons_of_mem _ (List.mem_cons_of_mem _ (List.mem_cons_of_mem _ (List.mem_cons_of_mem _ (List.mem_cons_of_mem _ (List.mem_cons_of_mem _ (List.mem_cons_of_mem _ List.mem_cons_self))))))))))))))))).cells; have SAZ := Lib.hid SA.out.zero; have xaz := (SAZ.out.box (w.heap.size, sa, .slice aa na ca, digs (za : Int).natAbs) (List.mem_cons_of_mem _ (List.mem_cons_of_mem _ (List.mem_cons_of_mem _ (List.mem_cons_of_mem _ (List.mem_cons_of_mem _ (List.mem_cons_of_mem _ (List.mem_cons_of_mem _ (List.mem_cons_of_mem _ (List.mem_cons_of_mem _ (List.mem_cons_of_mem _ (List.mem_cons_of_mem _ (List.mem_cons_of_mem _ (List.mem_cons_of_mem _ (List.mem_cons_of_mem _ (List.mem_cons_of_mem _ (List.mem_cons_of_mem _ (List.mem_cons_of_mem _ List.mem_cons_self)))))))))))))))))).cells; have NA := Lib.hid hn; clear hn hb hf)
        | (go_at_call 36; (with_reducible refine (of_k 1 HB.out _).mono ?_); rintro e wb ⟨sk, ak, nk, ck, rfl, hn, hb, hf⟩; have SB := Lib.hid (SZ.out.later hb); have xb := (SB.out.box (w.heap.size, sa, .slice aa na ca, digs (za : Int).natAbs) (List.mem_cons_of_mem _ (List.mem_cons_of_mem _ (List.mem_cons_of_mem _ (List.mem_cons_of_mem _ (List.mem_cons_of_mem _ (List.mem_cons_of_mem _ (List.mem_cons_of_mem _ (List.mem_cons_of_mem _ (List.mem_cons_of_mem _ (List.mem_cons_of_mem _ (List.mem_cons_of_mem _ (List.mem_cons_of_mem _ (List.mem_cons_of_mem _ (List.mem_cons_of_mem _ (List.mem_cons_of_mem _ (List.mem_cons_of_mem _ (List.mem_cons_of_mem _ List.mem_cons_self)))))))))))))))))).cells; have NB := Lib.hid hn; clear hn hb hf)
        | (go_at_call 16; (with_reducible refine (mul_k ((SA.out.box (w.heap.size, sa, .slice aa na ca, digs (za : Int).natAbs) (List.mem_cons_of_mem _ (List.mem_cons_of_mem _ (List.mem_cons_of_mem _ (List.mem_cons_of_mem _ (List.mem_cons_of_mem _ (List.mem_cons_of_mem _ (List.mem_cons_of_mem _ (List.mem_cons_of_mem _ (List.mem_cons_of_mem _ (List.mem_cons_of_mem _ (List.mem_cons_of_mem _ (List.mem_cons_of_mem _ (List.mem_cons_of_mem _ (List.mem_cons_of_mem _ (List.mem_cons_of_mem _ (List.mem_cons_of_mem _ List.mem_cons_self))))))))))))))))).num Ea.out) NA.out HX.out HK.out).mono ?_); rintro e wc1 ⟨sr, ar, nr, cr, rfl, hn, hb, hf⟩; have SC := Lib.hid (SA.out.later hb); have xc := (SC.out.box (w.heap.size, sa, .slice aa na ca, digs (za : Int).natAbs) (List.mem_cons_of_mem _ (List.mem_cons_of_mem _ (List.mem_cons_of_mem _ (List.mem_cons_of_mem _ (List.mem_cons_of_mem _ (List.mem_cons_of_mem _ (List.mem_cons_of_mem _ (List.mem_cons_of_mem _ (List.mem_cons_of_mem _ (List.mem_cons_of_mem _ (List.mem_cons_of_mem _ (List.mem_cons_of_mem _ (List.mem_cons_of_mem _ (List.mem_cons_of_mem _ (List.mem_cons_of_mem _ (List.mem_cons_of_mem _ List.mem_cons_self))))))))))))))))).cells; have xcz := (SC.out.zero.box (w.heap.size, sa, .slice aa na ca, digs (za : Int).natAbs) (List.mem_cons_of_mem _ (List.mem_cons_of_mem _ (List.mem_cons_of_mem _ (List.mem_cons_of_mem _ (List.mem_cons_of_mem _ (List.mem_cons_of_mem _ (List.mem_cons_of_mem _ (List.mem_cons_of_mem _ (List.mem_cons_of_mem _ (List.mem_cons_of_mem _ (List.mem_cons_of_mem _ (List.mem_cons_of_mem _ (List.mem_cons_of_mem _ (List.mem_cons_of_mem _ (List.mem_cons_of_mem _ (List.mem_cons_of_mem _ (List.mem_cons_of_mem _ List.mem_cons_self)))))))))))))))))).cells; have RC := Lib.hid (SA.out.ret (sg := sr) hb hn.2 hf); have xcr := (RC.out.box (w.heap.size, sa, .slice aa na ca, digs (za : Int).natAbs) (List.mem_cons_of_mem _ (List.mem_cons_of_mem _ (List.mem_cons_of_mem _ (List.mem_cons_of_mem _ (List.mem_cons_of_mem _ (List.mem_cons_of_mem _ (List.mem_cons_of_mem _ (List.mem_cons_of_mem _ (List.mem_cons_of_mem _ (List.mem_cons_of_mem _ (List.mem_cons_of_mem _ (List.mem_cons_of_mem _ (List.mem_cons_of_mem _ (List.mem_cons_of_mem _ (List.mem_cons_of_mem _ (List.mem_cons_of_mem _ (List.mem_cons_of_mem _ List.mem_cons_self)))))))))))))))))).cells; have EC := Lib.hid hn.1; clear hn hb hf)
        | (go_at_call 16; (with_reducible refine (mul_k ((SAZ.out.box (w.heap.size, sa, .slice aa na ca, digs (za : Int).natAbs) (List.mem_cons_of_mem _ (List.mem_cons_of_mem _ (List.mem_cons_of_mem _ (List.mem_cons_of_mem _ (List.mem_cons_of_mem _ (List.mem_cons_of_mem _ (List.mem_cons_of_mem _ (List.mem_cons_of_mem _ (List.mem_cons_of_mem _ (List.mem_cons_of_mem _ (List.mem_cons_of_mem _ (List.mem_cons_of_mem _ (List.mem_cons_of_mem _ (List.mem_cons_of_mem _ (List.mem_cons_of_mem _ (List.mem_cons_of_mem _ (List.mem_cons_of_mem _ List.mem_cons_self)))))))))))))))))).num Ea.out) (NA.out.later (below_alloc _ _)) HX.out HK.out).mono ?_); rintro e wd ⟨sr, ar, nr, cr, rfl, hn, hb, hf⟩; have xx := ((SAZ.out.later hb).box (w.heap.size, sa, .slice aa na ca, digs (za : Int).natAbs) (List.mem_cons_of_mem _ (List.mem_cons_of_mem _ (List.mem_cons_of_mem _ (List.mem_cons_of_mem _ (List.mem_cons_of_mem _ (List.mem_cons_of_mem _ (List.mem_cons_of_mem _ (List.mem_cons_of_mem _ (List.mem_cons_of_mem _ (List.mem_cons_of_mem _ (List.mem_cons_of_mem _ (List.mem_cons_of_mem _ (List.mem_cons_of_mem _ (List.mem_cons_of_mem _ (List.mem_cons_of_mem _ (List.mem_cons_of_mem _ (List.mem_cons_of_mem _ List.mem_cons_self)))))))))))))))))).cells; obtain ⟨z1, z2⟩ := ((SAZ.out.later hb).box (wa.heap.size, 0, .slice none 0 0, []) List.mem_cons_self).cells; obtain ⟨z3, z4⟩ := ((SAZ.out.later hb).box (wa.heap.size, 0, .slice none 0 0, []) List.mem_cons_self).free; have Rd : Hid (Sq w ((wa.heap.size, sr, .slice ar nr cr, digs ((za * 1) : Int).natAbs) :: [(g42, s42, .slice a42 n42 c42, digs ((za + 0) : Int).natAbs), (w37.heap.size, s37, .slice a37 n37 c37, digs (((za - zb) + zb) : Int).natAbs), (w36.heap.size, s36, .slice a36 n36 c36, digs ((za - zb) : Int).natAbs), (w35.heap.size, s35, .slice a35 n35 c35, digs (((za * zb) + (za * zc)) : Int).natAbs), (w34.heap.size, s34, .slice a34 n34 c34, digs ((za * zc) : Int).natAbs), (w33.heap.size, s33, .slice a33 n33 c33, digs ((za * (zb + zc)) : Int).natAbs), (w26.heap.size, s26, .slice a26 n26 c26, digs ((zb * zc) : Int).natAbs), (w25.heap.size, s25, .slice a25 n25 c25, digs ((zb * za) : Int).natAbs), (w24.heap.size, s24, .slice a24 n24 c24, digs ((za * zb) : Int).natAbs), (w19.heap.size, s28, .slice a28 n28 c28, digs ((za * (zb * zc)) : Int).natAbs), (w18.heap.size, s27, .slice a27 n27 c27, digs (((za * zb) * zc) : Int).natAbs), (w17.heap.size, s17, .slice a17 n17 c17, digs ((zb + zc) : Int).natAbs), (w16.heap.size, s16, .slice a16 n16 c16, digs ((zb + za) : Int).natAbs), (w15.heap.size, s15, .slice a15 n15 c15, digs ((za + zb) : Int).natAbs), (w.heap.size + 1 + 1, sc, .slice ac nc cc, digs (zc : Int).natAbs), (w.heap.size + 1, sb, .slice ab nb cb, digs (zb : Int).natAbs), (w.heap.size, sa, .slice aa na ca, digs (za : Int).natAbs)]) _) := Lib.hid (Sq.setb (b := wa.heap.size) (pre := []) SAZ.out hb (sg' := sr) hn.2 hf); have xds := (Rd.out.box (w.heap.size, sa, .slice aa na ca, digs (za : Int).natAbs) (List.mem_cons_of_mem _ (List.mem_cons_of_mem _ (List.mem_cons_of_mem _ (List.mem_cons_of_mem _ (List.mem_cons_of_mem _ (List.mem_cons_of_mem _ (List.mem_cons_of_mem _ (List.mem_cons_of_mem _ (List.mem_cons_of_mem _ (List.mem_cons_of_mem _ (List.mem_cons_of_mem _ (List.mem_cons_of_mem _ (List.mem_cons_of_mem _ (List.mem_cons_of_mem _ (List.mem_cons_of_mem _ (List.mem_cons_of_mem _ (List.mem_cons_of_mem _ List.mem_cons_self)))))))))))))))))).cells; have xd := xx; have ED := Lib.hid hn.1; clear hn hb hf xx)
        | (go_at_call 16; (with_reducible refine (mul_k ((SB.out.box (w.heap.size, sa, .slice aa na ca, digs (za : Int).natAbs) (List.mem_cons_of_mem _ (List.mem_cons_of_mem _ (List.mem_cons_of_mem _ (List.mem_cons_of_mem _ (List.mem_cons_of_mem _ (List.mem_cons_of_mem _ (List.mem_cons_of_mem _ (List.mem_cons_of_mem _ (List.mem_cons_of_mem _ (List.mem_cons_of_mem _ (List.mem_cons_of_mem _ (List.mem_cons_of_mem _ (List.mem_cons_of_mem _ (List.mem_cons_of_mem _ (List.mem_cons_of_mem _ (List.mem_cons_of_mem _ (List.mem_cons_of_mem _ List.mem_cons_self)))))))))))))))))).num Ea.out) NB.out HX.out HK.out).mono ?_); rintro e we ⟨sr, ar, nr, cr, rfl, hn, hb, hf⟩; have xx := ((SB.out.later hb).box (w.heap.size, sa, .slice aa na ca, digs (za : Int).natAbs) (List.mem_cons_of_mem _ (List.mem_cons_of_mem _ (List.mem_cons_of_mem _ (List.mem_cons_of_mem _ (List.mem_cons_of_mem _ (List.mem_cons_of_mem _ (List.mem_cons_of_mem _ (List.mem_cons_of_mem _ (List.mem_cons_of_mem _ (List.mem_cons_of_mem _ (List.mem_cons_of_mem _ (List.mem_cons_of_mem _ (List.mem_cons_of_mem _ (List.mem_cons_of_mem _ (List.mem_cons_of_mem _ (List.mem_cons_of_mem _ (List.mem_cons_of_mem _ List.mem_cons_self)))))))))))))))))).cells; obtain ⟨z1, z2⟩ := ((SB.out.later hb).box (w42.heap.size, 0, .slice none 0 0, []) List.mem_cons_self).cells; obtain ⟨z3, z4⟩ := ((SB.out.later hb).box (w42.heap.size, 0, .slice none 0 0, []) List.mem_cons_self).free; have Re : Hid (Sq w ((w42.heap.size, sr, .slice ar nr cr, digs ((za * 1) : Int).natAbs) :: [(g42, s42, .slice a42 n42 c42, digs ((za + 0) : Int).natAbs), (w37.heap.size, s37, .slice a37 n37 c37, digs (((za - zb) + zb) : Int).natAbs), (w36.heap.size, s36, .slice a36 n36 c36, digs ((za - zb) : Int).natAbs), (w35.heap.size, s35, .slice a35 n35 c35, digs (((za * zb) + (za * zc)) : Int).natAbs), (w34.heap.size, s34, .slice a34 n34 c34, digs ((za * zc) : Int).natAbs), (w33.heap.size, s33, .slice a33 n33 c33, digs ((za * (zb + zc)) : Int).natAbs), (w26.heap.size, s26, .slice a26 n26 c26, digs ((zb * zc) : Int).natAbs), (w25.heap.size, s25, .slice a25 n25 c25, digs ((zb * za) : Int).natAbs), (w24.heap.size, s24, .slice a24 n24 c24, digs ((za * zb) : Int).natAbs), (w19.heap.size, s28, .slice a28 n28 c28, digs ((za * (zb * zc)) : Int).natAbs), (w18.heap.size, s27, .slice a27 n27 c27, digs (((za * zb) * zc) : Int).natAbs), (w17.heap.size, s17, .slice a17 n17 c17, digs ((zb + zc) : Int).natAbs), (w16.heap.size, s16, .slice a16 n16 c16, digs ((zb + za) : Int).natAbs), (w15.heap.size, s15, .slice a15 n15 c15, digs ((za + zb) : Int).natAbs), (w.heap.size + 1 + 1, sc, .slice ac nc cc, digs (zc : Int).natAbs), (w.heap.size + 1, sb, .slice ab nb cb, digs (zb : Int).natAbs), (w.heap.size, sa, .slice aa na ca, digs (za : Int).natAbs)]) _) := Lib.hid (Sq.setb (b := w42.heap.size) (pre := []) SB.out hb (sg' := sr) hn.2 hf); have xes := (Re.out.box (w.heap.size, sa, .slice aa na ca, digs (za : Int).natAbs) (List.mem_cons_of_mem _ (List.mem_cons_of_mem _ (List.mem_cons_of_mem _ (List.mem_cons_of_mem _ (List.mem_cons_of_mem _ (List.mem_cons_of_mem _ (List.mem_cons_of_mem _ (List.mem_cons_of_mem _ (List.mem_cons_of_mem _ (List.mem_cons_of_mem _ (List.mem_cons_of_mem _ (List.mem_cons_of_mem _ (List.mem_cons_of_mem _ (List.mem_cons_of_mem _ (List.mem_cons_of_mem _ (List.mem_cons_of_mem _ (List.mem_cons_of_mem _ List.mem_cons_self)))))))))))))))))).cells; have xe := xx; have EE := Lib.hid hn.1; clear hn hb hf xx))
    all_goals (go_wp2_with fail; go_meet; refine ⟨rfl, ?_⟩; first | exact ⟨_, _, _, _, _, rfl, EC.out, RC.out⟩ | exact ⟨_, _, _, _, _, rfl, ED.out, Rd.out⟩ | exact ⟨_, _, _, _, _, rfl, EE.out, Re.out⟩)
  case rest =>
  obtain ⟨rfl, hq⟩ := hcut
  obtain ⟨g43, s43, a43, n43, c43, rfl, e43, h43⟩ := hq.out
  obtain ⟨w43, rfl⟩ : ∃ W, W = wc := ⟨_, rfl⟩
  have S43 := Lib.hid h43
  have E43 := Lib.hid e43
  clear hq e43 h43 S42
  go_upto_region 27 with fail
  go_cut [28, 13] from 251 to 256 (fun u v wx => v = .int .i64 0 ∧ Hid (∃ g s a n c, u = .pointer (some ⟨g, 0, none⟩) ∧ s = ((za * 0) : Int).sign ∧ Sq w ((g, s, .slice a n c, digs ((za * 0) : Int).natAbs) :: [(g43, s43, .slice a43 n43 c43, digs ((za * 1) : Int).natAbs), (g42, s42, .slice a42 n42 c42, digs ((za + 0) : Int).natAbs), (w37.heap.size, s37, .slice a37 n37 c37, digs (((za - zb) + zb) : Int).natAbs), (w36.heap.size, s36, .slice a36 n36 c36, digs ((za - zb) : Int).natAbs), (w35.heap.size, s35, .slice a35 n35 c35, digs (((za * zb) + (za * zc)) : Int).natAbs), (w34.heap.size, s34, .slice a34 n34 c34, digs ((za * zc) : Int).natAbs), (w33.heap.size, s33, .slice a33 n33 c33, digs ((za * (zb + zc)) : Int).natAbs), (w26.heap.size, s26, .slice a26 n26 c26, digs ((zb * zc) : Int).natAbs), (w25.heap.size, s25, .slice a25 n25 c25, digs ((zb * za) : Int).natAbs), (w24.heap.size, s24, .slice a24 n24 c24, digs ((za * zb) : Int).natAbs), (w19.heap.size, s28, .slice a28 n28 c28, digs ((za * (zb * zc)) : Int).natAbs), (w18.heap.size, s27, .slice a27 n27 c27, digs (((za * zb) * zc) : Int).natAbs), (w17.heap.size, s17, .slice a17 n17 c17, digs ((zb + zc) : Int).natAbs), (w16.heap.size, s16, .slice a16 n16 c16, digs ((zb + za) : Int).natAbs), (w15.heap.size, s15, .slice a15 n15 c15, digs ((za + zb) : Int).natAbs), (w.heap.size + 1 + 1, sc, .slice ac nc cc, digs (zc : Int).natAbs), (w.heap.size + 1, sb, .slice ab nb cb, digs (zb : Int).natAbs), (w.heap.size, sa, .slice aa na ca, digs (za : Int).natAbs)]) wx))
  case first =>
    have SD := Lib.hid S43.out.drew
    have SZ := Lib.hid S43.out.zero.drew
    have ex := (SD.out.box (w.heap.size, sa, .slice aa na ca, digs (za : Int).natAbs) (List.mem_cons_of_mem _ (List.mem_cons_of_mem _ (List.mem_cons_of_mem _ (List.mem_cons_of_mem _ (List.mem_cons_of_mem _ (List.mem_cons_of_mem _ (List.mem_cons_of_mem _ (List.mem_cons_of_mem _ (List.mem_cons_of_mem _ (List.mem_cons_of_mem _ (List.mem_cons_of_mem _ (List.mem_cons_of_mem _ (List.mem_cons_of_mem _ (List.mem_cons_of_mem _ (List.mem_cons_of_mem _ (List.mem_cons_of_mem _ (List.mem_cons_of_mem _ List.mem_cons_self)))))))))))))))))).cells
    have ez := (SZ.out.box (w.heap.size, sa, .slice aa na ca, digs (za : Int).natAbs) (List.mem_cons_of_mem _ (List.mem_cons_of_mem _ (List.mem_cons_of_mem _ (List.mem_cons_of_mem _ (List.mem_cons_of_mem _ (List.mem_cons_of_mem _ (List.mem_cons_of_mem _ (List.mem_cons_of_mem _ (List.mem_cons_of_mem _ (List.mem_cons_of_mem _ (List.mem_cons_of_mem _ (List.mem_cons_of_mem _ (List.mem_cons_of_mem _ (List.mem_cons_of_mem _ (List.mem_cons_of_mem _ (List.mem_cons_of_mem _ (List.mem_cons_of_mem _ (List.mem_cons_of_mem _ List.mem_cons_self))))))))))))))))))).cells
    have HB : Hid (-9223372036854775808 ≤ (0 : Int) ∧ (0 : Int) ≤ 9223372036854775807) := ⟨by omega, by omega⟩
    have HK : Hid (Len 100000 0) := Len.of (by decide)
    have HX : Hid (Len 100000 za) := Sz.len Za.out
    clear S43
    go_region_held3 (fun W => W.cell? ⟨w.heap.size, 0, none⟩ = some (.int .i64 sa) ∧ W.cell? ⟨w.heap.size, 1, none⟩ = some (.slice aa na ca))
      (first | (with_reducible exact ex) | (with_reducible exact ez) | (with_reducible exact xa) | (with_reducible exact xaz) | (with_reducible exact xb) | (with_reducible exact xc) | (with_reducible exact xcz) | (with_reducible exact xcr) | (with_reducible exact xd) | (with_reducible exact xds) | (with_reducible exact xe) | (with_reducible exact xes) | go_keep)
      (first
        | (go_at_call 36; (with_reducible refine (of_k 0 HB.out _).mono ?_); rintro e wa ⟨sk, ak, nk, ck, rfl, hn, hb, hf⟩; have SA := Lib.hid (SD.out.later hb); have xa := (SA.out.box (w.heap.size, sa, .slice aa na ca, digs (za : Int).natAbs) (List.mem_cons_of_mem _ (List.mem_cons_of_mem _ (List.mem_cons_of_mem _ (List.mem_cons_of_mem _ (List.mem_cons_of_mem _ (List.mem_cons_of_mem _ (List.mem_cons_of_mem _ (List.mem_cons_of_mem _ (List.mem_cons_of_mem _ (List.mem_cons_of_mem _ (List.mem_cons_of_mem _ (List.mem_cons_of_mem _ (List.mem_cons_of_mem _ (List.mem_cons_of_mem _ (List.mem_cons_of_mem _ (List.mem_cons_of_mem _ (List.mem_cons_of_mem _ List.mem_cons_self)))))))))))))))))).cells; have SAZ := Lib.hid SA.out.zero; have xaz := (SAZ.out.box (w.heap.size, sa, .slice aa na ca, digs (za : Int).natAbs) (List.mem_cons_of_mem _ (List.mem_cons_of_mem _ (List.mem_cons_of_mem _ (List.mem_cons_of_mem _ (List.mem_cons_of_mem _ (List.mem_cons_of_mem _ (List.mem_cons_of_mem _ (List.mem_cons_of_mem _ (List.mem_cons_of_mem _ (List.mem_cons_of_mem _ (List.mem_cons_of_mem _ (List.mem_cons_of_mem _ (List.mem_cons_of_mem _ (List.mem_cons_of_mem _ (List.mem_cons_of_mem _ (List.mem_cons_of_mem _ (List.mem_cons_of_mem _ (List.mem_cons_of_mem _ List.mem_cons_self))))))))))))))))))).cells; have NA := Lib.hid hn; clear hn hb hf)
        | (go_at_call 36; (with_reducible refine (of_k 0 HB.out _).mono ?_); rintro e wb ⟨sk, ak, nk, ck, rfl, hn, hb, hf⟩; have SB := Lib.hid (SZ.out.later hb); have xb := (SB.out.box (w.heap.size, sa, .slice aa na ca, digs (za : Int).natAbs) (List.mem_cons_of_mem _ (List.mem_cons_of_mem _ (List.mem_cons_of_mem _ (List.mem_cons_of_mem _ (List.mem_cons_of_mem _ (List.mem_cons_of_mem _ (List.mem_cons_of_mem _ (List.mem_cons_of_mem _ (List.mem_cons_of_mem _ (List.mem_cons_of_mem _ (List.mem_cons_of_mem _ (List.mem_cons_of_mem _ (List.mem_cons_of_mem _ (List.mem_cons_of_mem _ (List.mem_cons_of_mem _ (List.mem_cons_of_mem _ (List.mem_cons_of_mem _ (List.mem_cons_of_mem _ List.mem_cons_self))))))))))))))))))).cells; have NB := Lib.hid hn; clear hn hb hf)
        | (go_at_call 16; (with_reducible refine (mul_k ((SA.out.box (w.heap.size, sa, .slice aa na ca, digs (za : Int).natAbs) (List.mem_cons_of_mem _ (List.mem_cons_of_mem _ (List.mem_cons_of_mem _ (List.mem_cons_of_mem _ (List.mem_cons_of_mem _ (List.mem_cons_of_mem _ (List.mem_cons_of_mem _ (List.mem_cons_of_mem _ (List.mem_cons_of_mem _ (List.mem_cons_of_mem _ (List.mem_cons_of_mem _ (List.mem_cons_of_mem _ (List.mem_cons_of_mem _ (List.mem_cons_of_mem _ (List.mem_cons_of_mem _ (List.mem_cons_of_mem _ (List.mem_cons_of_mem _ List.mem_cons_self)))))))))))))))))).num Ea.out) NA.out HX.out HK.out).mono ?_); rintro e wc1 ⟨sr, ar, nr, cr, rfl, hn, hb, hf⟩; have SC := Lib.hid (SA.out.later hb); have xc := (SC.out.box (w.heap.size, sa, .slice aa na ca, digs (za : Int).natAbs) (List.mem_cons_of_mem _ (List.mem_cons_of_mem _ (List.mem_cons_of_mem _ (List.mem_cons_of_mem _ (List.mem_cons_of_mem _ (List.mem_cons_of_mem _ (List.mem_cons_of_mem _ (List.mem_cons_of_mem _ (List.mem_cons_of_mem _ (List.mem_cons_of_mem _ (List.mem_cons_of_mem _ (List.mem_cons_of_mem _ (List.mem_cons_of_mem _ (List.mem_cons_of_mem _ (List.mem_cons_of_mem _ (List.mem_cons_of_mem _ (List.mem_cons_of_mem _ List.mem_cons_self)))))))))))))))))).cells; have xcz := (SC.out.zero.box (w.heap.size, sa, .slice aa na ca, digs (za : Int).natAbs) (List.mem_cons_of_mem _ (List.mem_cons_of_mem _ (List.mem_cons_of_mem _ (List.mem_cons_of_mem _ (List.mem_cons_of_mem _ (List.mem_cons_of_mem _ (List.mem_cons_of_mem _ (List.mem_cons_of_mem _ (List.mem_cons_of_mem _ (List.mem_cons_of_mem _ (List.mem_cons_of_mem _ (List.mem_cons_of_mem _ (List.mem_cons_of_mem _ (List.mem_cons_of_mem _ (List.mem_cons_of_mem _ (List.mem_cons_of_mem _ (List.mem_cons_of_mem _ (List.mem_cons_of_mem _ List.mem_cons_self))))))))))))))))))).cells; have RC := Lib.hid (SA.out.ret (sg := sr) hb hn.2 hf); have xcr := (RC.out.box (w.heap.size, sa, .slice aa na ca, digs (za : Int).natAbs) (List.mem_cons_of_mem _ (List.mem_cons_of_mem _ (List.mem_cons_of_mem _ (List.mem_cons_of_mem _ (List.mem_cons_of_mem _ (List.mem_cons_of_mem _ (List.mem_cons_of_mem _ (List.mem_cons_of_mem _ (List.mem_cons_of_mem _ (List.mem_cons_of_mem _ (List.mem_cons_of_mem _ (List.mem_cons_of_mem _ (List.mem_cons_of_mem _ (List.mem_cons_of_mem _ (List.mem_cons_of_mem _ (List.mem_cons_of_mem _ (List.mem_cons_of_mem _ (List.mem_cons_of_mem _ List.mem_cons_self))))))))))))))))))).cells; have EC := Lib.hid hn.1; clear hn hb hf)
        | (go_at_call 16; (with_reducible refine (mul_k ((SAZ.out.box (w.heap.size, sa, .slice aa na ca, digs (za : Int).natAbs) (List.mem_cons_of_mem _ (List.mem_cons_of_mem _ (List.mem_cons_of_mem _ (List.mem_cons_of_mem _ (List.mem_cons_of_mem _ (List.mem_cons_of_mem _ (List.mem_cons_of_mem _ (List.mem_cons_of_mem _ (List.mem_cons_of_mem _ (List.mem_cons_of_mem _ (List.mem_cons_of_mem _ (List.mem_cons_of_mem _ (List.mem_cons_of_mem _ (List.mem_cons_of_mem _ (List.mem_cons_of_mem _ (List.mem_cons_of_mem _ (List.mem_cons_of_mem _ (List.mem_cons_of_mem _ List.mem_cons_self))))))))))))))))))).num Ea.out) (NA.out.later (below_alloc _ _)) HX.out HK.out).mono ?_); rintro e wd ⟨sr, ar, nr, cr, rfl, hn, hb, hf⟩; have xx := ((SAZ.out.later hb).box (w.heap.size, sa, .slice aa na ca, digs (za : Int).natAbs) (List.mem_cons_of_mem _ (List.mem_cons_of_mem _ (List.mem_cons_of_mem _ (List.mem_cons_of_mem _ (List.mem_cons_of_mem _ (List.mem_cons_of_mem _ (List.mem_cons_of_mem _ (List.mem_cons_of_mem _ (List.mem_cons_of_mem _ (List.mem_cons_of_mem _ (List.mem_cons_of_mem _ (List.mem_cons_of_mem _ (List.mem_cons_of_mem _ (List.mem_cons_of_mem _ (List.mem_cons_of_mem _ (List.mem_cons_of_mem _ (List.mem_cons_of_mem _ (List.mem_cons_of_mem _ List.mem_cons_self))))))))))))))))))).cells; obtain ⟨z1, z2⟩ := ((SAZ.out.later hb).box (wa.heap.size, 0, .slice none 0 0, []) List.mem_cons_self).cells; obtain ⟨z3, z4⟩ := ((SAZ.out.later hb).box (wa.heap.size, 0, .slice none 0 0, []) List.mem_cons_self).free; have Rd : Hid (Sq w ((wa.heap.size, sr, .slice ar nr cr, digs ((za * 0) : Int).natAbs) :: [(g43, s43, .slice a43 n43 c43, digs ((za * 1) : Int).natAbs), (g42, s42, .slice a42 n42 c42, digs ((za + 0) : Int).natAbs), (w37.heap.size, s37, .slice a37 n37 c37, digs (((za - zb) + zb) : Int).natAbs), (w36.heap.size, s36, .slice a36 n36 c36, digs ((za - zb) : Int).natAbs), (w35.heap.size, s35, .slice a35 n35 c35, digs (((za * zb) + (za * zc)) : Int).natAbs), (w34.heap.size, s34, .slice a34 n34 c34, digs ((za * zc) : Int).natAbs), (w33.heap.size, s33, .slice a33 n33 c33, digs ((za * (zb + zc)) : Int).natAbs), (w26.heap.size, s26, .slice a26 n26 c26, digs ((zb * zc) : Int).natAbs), (w25.heap.size, s25, .slice a25 n25 c25, digs ((zb * za) : Int).natAbs), (w24.heap.size, s24, .slice a24 n24 c24, digs ((za * zb) : Int).natAbs), (w19.heap.size, s28, .slice a28 n28 c28, digs ((za * (zb * zc)) : Int).natAbs), (w18.heap.size, s27, .slice a27 n27 c27, digs (((za * zb) * zc) : Int).natAbs), (w17.heap.size, s17, .slice a17 n17 c17, digs ((zb + zc) : Int).natAbs), (w16.heap.size, s16, .slice a16 n16 c16, digs ((zb + za) : Int).natAbs), (w15.heap.size, s15, .slice a15 n15 c15, digs ((za + zb) : Int).natAbs), (w.heap.size + 1 + 1, sc, .slice ac nc cc, digs (zc : Int).natAbs), (w.heap.size + 1, sb, .slice ab nb cb, digs (zb : Int).natAbs), (w.heap.size, sa, .slice aa na ca, digs (za : Int).natAbs)]) _) := Lib.hid (Sq.setb (b := wa.heap.size) (pre := []) SAZ.out hb (sg' := sr) hn.2 hf); have xds := (Rd.out.box (w.heap.size, sa, .slice aa na ca, digs (za : Int).natAbs) (List.mem_cons_of_mem _ (List.mem_cons_of_mem _ (List.mem_cons_of_mem _ (List.mem_cons_of_mem _ (List.mem_cons_of_mem _ (List.mem_cons_of_mem _ (List.mem_cons_of_mem _ (List.mem_cons_of_mem _ (List.mem_cons_of_mem _ (List.mem_cons_of_mem _ (List.mem_cons_of_mem _ (List.mem_cons_of_mem _ (List.mem_cons_of_mem _ (List.mem_cons_of_mem _ (List.mem_cons_of_mem _ (List.mem_cons_of_mem _ (List.mem_cons_of_mem _ (List.mem_cons_of_mem _ List.mem_cons_self))))))))))))))))))).cells; have xd := xx; have ED := Lib.hid hn.1; clear hn hb hf xx)
        | (go_at_call 16; (with_reducible refine (mul_k ((SB.out.box (w.heap.size, sa, .slice aa na ca, digs (za : Int).natAbs) (List.mem_cons_of_mem _ (List.mem_cons_of_mem _ (List.mem_cons_of_mem _ (List.mem_cons_of_mem _ (List.mem_cons_of_mem _ (List.mem_cons_of_mem _ (List.mem_cons_of_mem _ (List.mem_cons_of_mem _ (List.mem_cons_of_mem _ (List.mem_cons_of_mem _ (List.mem_cons_of_mem _ (List.mem_cons_of_mem _ (List.mem_cons_of_mem _ (List.mem_cons_of_mem _ (List.mem_cons_of_mem _ (List.mem_cons_of_mem _ (List.mem_cons_of_mem _ (List.mem_cons_of_mem _ List.mem_cons_self))))))))))))))))))).num Ea.out) NB.out HX.out HK.out).mono ?_); rintro e we ⟨sr, ar, nr, cr, rfl, hn, hb, hf⟩; have xx := ((SB.out.later hb).box (w.heap.size, sa, .slice aa na ca, digs (za : Int).natAbs) (List.mem_cons_of_mem _ (List.mem_cons_of_mem _ (List.mem_cons_of_mem _ (List.mem_cons_of_mem _ (List.mem_cons_of_mem _ (List.mem_cons_of_mem _ (List.mem_cons_of_mem _ (List.mem_cons_of_mem _ (List.mem_cons_of_mem _ (List.mem_cons_of_mem _ (List.mem_cons_of_mem _ (List.mem_cons_of_mem _ (List.mem_cons_of_mem _ (List.mem_cons_of_mem _ (List.mem_cons_of_mem _ (List.mem_cons_of_mem _ (List.mem_cons_of_mem _ (List.mem_cons_of_mem _ List.mem_cons_self))))))))))))))))))).cells; obtain ⟨z1, z2⟩ := ((SB.out.later hb).box (w43.heap.size, 0, .slice none 0 0, []) List.mem_cons_self).cells; obtain ⟨z3, z4⟩ := ((SB.out.later hb).box (w43.heap.size, 0, .slice none 0 0, []) List.mem_cons_self).free; have Re : Hid (Sq w ((w43.heap.size, sr, .slice ar nr cr, digs ((za * 0) : Int).natAbs) :: [(g43, s43, .slice a43 n43 c43, digs ((za * 1) : Int).natAbs), (g42, s42, .slice a42 n42 c42, digs ((za + 0) : Int).natAbs), (w37.heap.size, s37, .slice a37 n37 c37, digs (((za - zb) + zb) : Int).natAbs), (w36.heap.size, s36, .slice a36 n36 c36, digs ((za - zb) : Int).natAbs), (w35.heap.size, s35, .slice a35 n35 c35, digs (((za * zb) + (za * zc)) : Int).natAbs), (w34.heap.size, s34, .slice a34 n34 c34, digs ((za * zc) : Int).natAbs), (w33.heap.size, s33, .slice a33 n33 c33, digs ((za * (zb + zc)) : Int).natAbs), (w26.heap.size, s26, .slice a26 n26 c26, digs ((zb * zc) : Int).natAbs), (w25.heap.size, s25, .slice a25 n25 c25, digs ((zb * za) : Int).natAbs), (w24.heap.size, s24, .slice a24 n24 c24, digs ((za * zb) : Int).natAbs), (w19.heap.size, s28, .slice a28 n28 c28, digs ((za * (zb * zc)) : Int).natAbs), (w18.heap.size, s27, .slice a27 n27 c27, digs (((za * zb) * zc) : Int).natAbs), (w17.heap.size, s17, .slice a17 n17 c17, digs ((zb + zc) : Int).natAbs), (w16.heap.size, s16, .slice a16 n16 c16, digs ((zb + za) : Int).natAbs), (w15.heap.size, s15, .slice a15 n15 c15, digs ((za + zb) : Int).natAbs), (w.heap.size + 1 + 1, sc, .slice ac nc cc, digs (zc : Int).natAbs), (w.heap.size + 1, sb, .slice ab nb cb, digs (zb : Int).natAbs), (w.heap.size, sa, .slice aa na ca, digs (za : Int).natAbs)]) _) := Lib.hid (Sq.setb (b := w43.heap.size) (pre := []) SB.out hb (sg' := sr) hn.2 hf); have xes := (Re.out.box (w.heap.size, sa, .slice aa na ca, digs (za : Int).natAbs) (List.mem_cons_of_mem _ (List.mem_cons_of_mem _ (List.mem_cons_of_mem _ (List.mem_cons_of_mem _ (List.mem_cons_of_mem _ (List.mem_cons_of_mem _ (List.mem_cons_of_mem _ (List.mem_cons_of_mem _ (List.mem_cons_of_mem _ (List.mem_cons_of_mem _ (List.mem_cons_of_mem _ (List.mem_cons_of_mem _ (List.mem_cons_of_mem _ (List.mem_cons_of_mem _ (List.mem_cons_of_mem _ (List.mem_cons_of_mem _ (List.mem_cons_of_mem _ (List.mem_cons_of_mem _ List.mem_cons_self))))))))))))))))))).cells; have xe := xx; have EE := Lib.hid hn.1; clear hn hb hf xx))
    all_goals (go_wp2_with fail; go_meet; refine ⟨rfl, ?_⟩; first | exact ⟨_, _, _, _, _, rfl, EC.out, RC.out⟩ | exact ⟨_, _, _, _, _, rfl, ED.out, Rd.out⟩ | exact ⟨_, _, _, _, _, rfl, EE.out, Re.out⟩)
  case rest =>
  obtain ⟨rfl, hq⟩ := hcut
  obtain ⟨g44, s44, a44, n44, c44, rfl, e44, h44⟩ := hq.out
  obtain ⟨w44, rfl⟩ : ∃ W, W = wc := ⟨_, rfl⟩
  have S44 := Lib.hid h44
  have E44 := Lib.hid e44
  clear hq e44 h44 S43
  obtain ⟨t49, u49⟩ := (S44.out.box (g42, s42, .slice a42 n42 c42, digs ((za + 0) : Int).natAbs) (List.mem_cons_of_mem _ (List.mem_cons_of_mem _ List.mem_cons_self))).cells
  obtain ⟨t50, u50⟩ := (S44.out.box (w.heap.size, sa, .slice aa na ca, digs (za : Int).natAbs) (List.mem_cons_of_mem _ (List.mem_cons_of_mem _ (List.mem_cons_of_mem _ (List.mem_cons_of_mem _ (List.mem_cons_of_mem _ (List.mem_cons_of_mem _ (List.mem_cons_of_mem _ (List.mem_cons_of_mem _ (List.mem_cons_of_mem _ (List.mem_cons_of_mem _ (List.mem_cons_of_mem _ (List.mem_cons_of_mem _ (List.mem_cons_of_mem _ (List.mem_cons_of_mem _ (List.mem_cons_of_mem _ (List.mem_cons_of_mem _ (List.mem_cons_of_mem _ (List.mem_cons_of_mem _ List.mem_cons_self))))))))))))))))))).cells
  go_wp2_with fail
  clear t49 u49 t50 u50
  refine (rsame_t ((S44.out.box (g42, s42, .slice a42 n42 c42, digs ((za + 0) : Int).natAbs) (List.mem_cons_of_mem _ (List.mem_cons_of_mem _ List.mem_cons_self))).num E42.out) ((S44.out.box (w.heap.size, sa, .slice aa na ca, digs (za : Int).natAbs) (List.mem_cons_of_mem _ (List.mem_cons_of_mem _ (List.mem_cons_of_mem _ (List.mem_cons_of_mem _ (List.mem_cons_of_mem _ (List.mem_cons_of_mem _ (List.mem_cons_of_mem _ (List.mem_cons_of_mem _ (List.mem_cons_of_mem _ (List.mem_cons_of_mem _ (List.mem_cons_of_mem _ (List.mem_cons_of_mem _ (List.mem_cons_of_mem _ (List.mem_cons_of_mem _ (List.mem_cons_of_mem _ (List.mem_cons_of_mem _ (List.mem_cons_of_mem _ (List.mem_cons_of_mem _ List.mem_cons_self))))))))))))))))))).num Ea.out) (Int.add_zero _)).mono ?_
  rintro e w45 ⟨rfl, hb⟩
  have S46 := Lib.hid (S44.out.later hb)
  clear S44
  clear hb
  obtain ⟨t51, u51⟩ := (S46.out.box (g43, s43, .slice a43 n43 c43, digs ((za * 1) : Int).natAbs) (List.mem_cons_of_mem _ List.mem_cons_self)).cells
  obtain ⟨t52, u52⟩ := (S46.out.box (w.heap.size, sa, .slice aa na ca, digs (za : Int).natAbs) (List.mem_cons_of_mem _ (List.mem_cons_of_mem _ (List.mem_cons_of_mem _ (List.mem_cons_of_mem _ (List.mem_cons_of_mem _ (List.mem_cons_of_mem _ (List.mem_cons_of_mem _ (List.mem_cons_of_mem _ (List.mem_cons_of_mem _ (List.mem_cons_of_mem _ (List.mem_cons_of_mem _ (List.mem_cons_of_mem _ (List.mem_cons_of_mem _ (List.mem_cons_of_mem _ (List.mem_cons_of_mem _ (List.mem_cons_of_mem _ (List.mem_cons_of_mem _ (List.mem_cons_of_mem _ List.mem_cons_self))))))))))))))))))).cells
  go_wp2_with fail
  clear t51 u51 t52 u52
  refine (rsame_t ((S46.out.box (g43, s43, .slice a43 n43 c43, digs ((za * 1) : Int).natAbs) (List.mem_cons_of_mem _ List.mem_cons_self)).num E43.out) ((S46.out.box (w.heap.size, sa, .slice aa na ca, digs (za : Int).natAbs) (List.mem_cons_of_mem _ (List.mem_cons_of_mem _ (List.mem_cons_of_mem _ (List.mem_cons_of_mem _ (List.mem_cons_of_mem _ (List.mem_cons_of_mem _ (List.mem_cons_of_mem _ (List.mem_cons_of_mem _ (List.mem_cons_of_mem _ (List.mem_cons_of_mem _ (List.mem_cons_of_mem _ (List.mem_cons_of_mem _ (List.mem_cons_of_mem _ (List.mem_cons_of_mem _ (List.mem_cons_of_mem _ (List.mem_cons_of_mem _ (List.mem_cons_of_mem _ (List.mem_cons_of_mem _ List.mem_cons_self))))))))))))))))))).num Ea.out) (Int.mul_one _)).mono ?_
  rintro e w47 ⟨rfl, hb⟩
  have S48 := Lib.hid (S46.out.later hb)
  clear S46
  clear hb
  obtain ⟨t53, u53⟩ := (S48.out.box (g44, s44, .slice a44 n44 c44, digs ((za * 0) : Int).natAbs) List.mem_cons_self).cells
  go_wp2_with fail
  clear t53 u53
  refine (rsame_t ((S48.out.box (g44, s44, .slice a44 n44 c44, digs ((za * 0) : Int).natAbs) List.mem_cons_self).num E44.out) (num_nil _) (Int.mul_zero _)).mono ?_
  rintro e w49 ⟨rfl, hb⟩
  have S50 := Lib.hid (S48.out.later hb)
  clear S48
  clear hb
  go_wp2_with fail
  go_ret
  exact ⟨rfl, S50.out.below⟩
set_option maxHeartbeats 4000000 in
theorem BigRing_long (sa : Int) (aa : Option Addr) (na ca : Nat) (sb : Int) (ab : Option Addr) (nb cb : Nat) (sc : Int) (ac : Option Addr) (nc cc : Nat) (w : World) (he : Env w) (ha : na ≤ 9223372036854775807) (hb : nb ≤ 9223372036854775807) (hc : nc ≤ 9223372036854775807) (hno : ¬ (na ≤ 25 ∧ nb ≤ 25 ∧ nc ≤ 25)) :
    Calls Tryd.prog 4 #[.agg #[.int .i64 sa, .slice aa na ca], .agg #[.int .i64 sb, .slice ab nb cb], .agg #[.int .i64 sc, .slice ac nc cc]] w fun e w' => e = .returned (.bool true) ∧ RowKit.Below w.heap.size w w' := by
  have HE := Lib.hid he
  have HNO := Lib.hid hno
  have Ha := Lib.hid ha
  obtain ⟨fa, hfa⟩ : ∃ b, decide ((na : Int) ≤ 25) = b := ⟨_, rfl⟩
  have Fa := Lib.hid hfa
  clear ha hfa
  have Hb := Lib.hid hb
  obtain ⟨fb, hfb⟩ : ∃ b, decide ((nb : Int) ≤ 25) = b := ⟨_, rfl⟩
  have Fb := Lib.hid hfb
  clear hb hfb
  have Hc := Lib.hid hc
  obtain ⟨fc, hfc⟩ : ∃ b, decide ((nc : Int) ≤ 25) = b := ⟨_, rfl⟩
  have Fc := Lib.hid hfc
  clear hc hfc
  have S0 := Lib.hid (Sk.three w sa sb sc (.slice aa na ca) (.slice ab nb cb) (.slice ac nc cc))
  clear he hno
  go_enter Tryd.func4, Tryd.ntmps4
  go_wp2_with fail
  refine (small_any _ (S0.out.env HE.out)).mono ?_
  rintro e w0 ⟨rfl, hb⟩
  have S1 := Lib.hid (S0.out.later hb)
  clear hb S0
  obtain ⟨t, u⟩ := S1.out.cells (b := w.heap.size) (sg := sa) (v := .slice aa na ca) (List.mem_cons_of_mem _ (List.mem_cons_of_mem _ List.mem_cons_self))
  go_wp2_with fail
  clear t u
  refine (few_len sa aa na ca 25 _ Ha.out fa Fa.out).mono ?_
  rintro e w1 ⟨rfl, hb⟩
  have S2 := Lib.hid (S1.out.later hb)
  clear hb S1
  cases fa
  case false =>
    go_wp2_with fail
    go_ret
    exact ⟨rfl, S2.out.below⟩
  obtain ⟨t, u⟩ := S2.out.cells (b := w.heap.size + 1) (sg := sb) (v := .slice ab nb cb) (List.mem_cons_of_mem _ List.mem_cons_self)
  go_wp2_with fail
  clear t u
  refine (few_len sb ab nb cb 25 _ Hb.out fb Fb.out).mono ?_
  rintro e w2 ⟨rfl, hb⟩
  have S3 := Lib.hid (S2.out.later hb)
  clear hb S2
  cases fb
  case false =>
    go_wp2_with fail
    go_ret
    exact ⟨rfl, S3.out.below⟩
  obtain ⟨t, u⟩ := S3.out.cells (b := w.heap.size + 1 + 1) (sg := sc) (v := .slice ac nc cc) List.mem_cons_self
  go_wp2_with fail
  clear t u
  refine (few_len sc ac nc cc 25 _ Hc.out fc Fc.out).mono ?_
  rintro e w3 ⟨rfl, hb⟩
  have S4 := Lib.hid (S3.out.later hb)
  clear hb S3
  cases fc
  case false =>
    go_wp2_with fail
    go_ret
    exact ⟨rfl, S4.out.below⟩
  exact absurd ⟨by have := Fa.out; simp at this; omega, by have := Fb.out; simp at this; omega, by have := Fc.out; simp at this; omega⟩ HNO.out
end Go.Proofs.YtpcagodnlbdclaaDoor.Bi
