/- The contract of BigDivides. -/
import Derived.Test.YtpcagodnlbdclaaDoorBi31
set_option maxRecDepth 100000
namespace Go.Proofs.YtpcagodnlbdclaaDoor.Bi
open Go.RowKit

set_option maxHeartbeats 8000000 in
theorem BigDivides_any (sa : Int) (aa : Option Addr) (na ca : Nat) (la : List Int) (sb : Int) (ab : Option Addr) (nb cb : Nat) (lb : List Int) (w : World) (he : Env w) (ha : Ints w (.slice aa na ca) la) (hb : Ints w (.slice ab nb cb) lb) :
    Calls Tryd.prog 6 #[.agg #[.int .i64 sa, .slice aa na ca], .agg #[.int .i64 sb, .slice ab nb cb]] w fun e w' => e = .returned (.bool true) ∧ RowKit.Below w.heap.size w w' := by
  have HE := Lib.hid he
  have S0 := Lib.hid (two (sa := sa) (sb := sb) ha hb)
  obtain ⟨fa, hfa⟩ : ∃ b, decide ((la.length : Int) ≤ 40) = b := ⟨_, rfl⟩
  obtain ⟨ra, hra⟩ : ∃ b, rightB sa la = b := ⟨_, rfl⟩
  have Fa := Lib.hid hfa
  have Ra := Lib.hid hra
  clear ha hfa hra
  obtain ⟨fb, hfb⟩ : ∃ b, decide ((lb.length : Int) ≤ 40) = b := ⟨_, rfl⟩
  obtain ⟨rb, hrb⟩ : ∃ b, rightB sb lb = b := ⟨_, rfl⟩
  have Fb := Lib.hid hfb
  have Rb := Lib.hid hrb
  clear hb hfb hrb
  clear he
  go_enter Tryd.func6, Tryd.ntmps6
  go_wp2_with fail
  refine (small_any _ (S0.out.env HE.out)).mono ?_
  rintro e w1 ⟨rfl, hb⟩
  have S2 := Lib.hid (S0.out.later hb)
  clear S0
  clear hb
  obtain ⟨t1, u1⟩ := (S2.out.box (w.heap.size, sa, .slice aa na ca, la) (List.mem_cons_of_mem _ List.mem_cons_self)).cells
  go_wp2_with fail
  clear t1 u1
  refine (few_any sa _ la 40 _ (S2.out.box (w.heap.size, sa, .slice aa na ca, la) (List.mem_cons_of_mem _ List.mem_cons_self)).2 fa Fa.out).mono ?_
  rintro e w3 ⟨rfl, hb⟩
  have S4 := Lib.hid (S2.out.later hb)
  clear S2
  clear hb
  cases fa
  case false =>
    go_wp2_with fail
    go_ret
    exact ⟨rfl, S4.out.below⟩
  obtain ⟨t2, u2⟩ := (S4.out.box (w.heap.size + 1, sb, .slice ab nb cb, lb) List.mem_cons_self).cells
  go_wp2_with fail
  clear t2 u2
  refine (few_any sb _ lb 40 _ (S4.out.box (w.heap.size + 1, sb, .slice ab nb cb, lb) List.mem_cons_self).2 fb Fb.out).mono ?_
  rintro e w5 ⟨rfl, hb⟩
  have S6 := Lib.hid (S4.out.later hb)
  clear S4
  clear hb
  cases fb
  case false =>
    go_wp2_with fail
    go_ret
    exact ⟨rfl, S6.out.below⟩
  obtain ⟨t3, u3⟩ := (S6.out.box (w.heap.size, sa, .slice aa na ca, la) (List.mem_cons_of_mem _ List.mem_cons_self)).cells
  go_wp2_with fail
  clear t3 u3
  refine (right_b ⟨_, rfl, (S6.out.box (w.heap.size, sa, .slice aa na ca, la) (List.mem_cons_of_mem _ List.mem_cons_self)).2⟩ Ra.out).mono ?_
  rintro e w7 ⟨rfl, hb⟩
  have S8 := Lib.hid (S6.out.later hb)
  clear S6
  clear hb
  cases ra
  case false =>
    go_wp2_with fail
    go_ret
    exact ⟨rfl, S8.out.below⟩
  obtain ⟨t4, u4⟩ := (S8.out.box (w.heap.size + 1, sb, .slice ab nb cb, lb) List.mem_cons_self).cells
  go_wp2_with fail
  clear t4 u4
  refine (right_b ⟨_, rfl, (S8.out.box (w.heap.size + 1, sb, .slice ab nb cb, lb) List.mem_cons_self).2⟩ Rb.out).mono ?_
  rintro e w9 ⟨rfl, hb⟩
  have S10 := Lib.hid (S8.out.later hb)
  clear S8
  clear hb
  cases rb
  case false =>
    go_wp2_with fail
    go_ret
    exact ⟨rfl, S10.out.below⟩
  obtain ⟨za, ea, rfl⟩ := right_of Ra.out
  have Ea := Lib.hid ea
  have Za : Hid (Sz 40 za) := Sz.fits Fa.out rfl rfl
  clear ea Fa Ra
  obtain ⟨zb, eb, rfl⟩ := right_of Rb.out
  have Eb := Lib.hid eb
  have Zb : Hid (Sz 40 zb) := Sz.fits Fb.out rfl rfl
  clear eb Fb Rb
  have hz := Int.lt_trichotomy zb 0
  rcases hz with hz | hz | hz
  case inl =>
    have HZ := Lib.hid hz
    have HN : Hid (zb ≠ 0) := by have := HZ.out; show zb ≠ 0; omega
    clear hz
    obtain rfl : sb = -1 := Eb.out.trans (Int.sign_eq_neg_one_of_neg HZ.out)
    obtain ⟨t5, u5⟩ := (S10.out.box (w.heap.size, sa, .slice aa na ca, digs (za : Int).natAbs) (List.mem_cons_of_mem _ List.mem_cons_self)).cells
    obtain ⟨t6, u6⟩ := (S10.out.box (w.heap.size + 1, (-1), .slice ab nb cb, digs (zb : Int).natAbs) List.mem_cons_self).cells
    go_wp2_with fail
    clear t5 u5 t6 u6
    refine (div_k ((S10.out.box (w.heap.size, sa, .slice aa na ca, digs (za : Int).natAbs) (List.mem_cons_of_mem _ List.mem_cons_self)).num Ea.out) ((S10.out.box (w.heap.size + 1, (-1), .slice ab nb cb, digs (zb : Int).natAbs) List.mem_cons_self).num Eb.out) (Sz.len Za.out) (Sz.len Zb.out) HN.out).mono ?_
    rintro e w11 ⟨s11, a11, n11, c11, t11, b11, m11, d11, rfl, hn, hm, hb, hf, hg⟩
    have S11 := Lib.hid (S10.out.ret2 (sg := s11) (tg := t11) hb hn.2 hf hm.2 hg)
    have E11 := Lib.hid hn.1
    have D11 := Lib.hid hm.1
    clear hn hm hb hf hg S10
    obtain ⟨t7, u7⟩ := (S11.out.box (w.heap.size + 1, (-1), .slice ab nb cb, digs (zb : Int).natAbs) (List.mem_cons_of_mem _ (List.mem_cons_of_mem _ List.mem_cons_self))).cells
    obtain ⟨t8, u8⟩ := (S11.out.box (w11.heap.size, s11, .slice a11 n11 c11, digs ((za.fdiv zb) : Int).natAbs) (List.mem_cons_of_mem _ List.mem_cons_self)).cells
    go_wp2_with fail
    clear t7 u7 t8 u8
    refine (mul_k ((S11.out.box (w11.heap.size, s11, .slice a11 n11 c11, digs ((za.fdiv zb) : Int).natAbs) (List.mem_cons_of_mem _ List.mem_cons_self)).num E11.out) ((S11.out.box (w.heap.size + 1, (-1), .slice ab nb cb, digs (zb : Int).natAbs) (List.mem_cons_of_mem _ (List.mem_cons_of_mem _ List.mem_cons_self))).num Eb.out) (Sz.len (Sz.fdiv Za.out)) (Sz.len Zb.out)).mono ?_
    rintro e w12 ⟨s12, a12, n12, c12, rfl, hn, hb, hf⟩
    have S12 := Lib.hid (S11.out.ret (sg := s12) hb hn.2 hf)
    have E12 := Lib.hid hn.1
    clear hn hb hf S11
    obtain ⟨t9, u9⟩ := (S12.out.box (w12.heap.size, s12, .slice a12 n12 c12, digs ((za.fdiv zb * zb) : Int).natAbs) List.mem_cons_self).cells
    obtain ⟨t10, u10⟩ := (S12.out.box (w11.heap.size + 1, t11, .slice b11 m11 d11, digs ((za.fmod zb) : Int).natAbs) (List.mem_cons_of_mem _ List.mem_cons_self)).cells
    go_wp2_with fail
    clear t9 u9 t10 u10
    refine (add_k ((S12.out.box (w12.heap.size, s12, .slice a12 n12 c12, digs ((za.fdiv zb * zb) : Int).natAbs) List.mem_cons_self).num E12.out) ((S12.out.box (w11.heap.size + 1, t11, .slice b11 m11 d11, digs ((za.fmod zb) : Int).natAbs) (List.mem_cons_of_mem _ List.mem_cons_self)).num D11.out) (Sz.len (Sz.mul (Sz.fdiv Za.out) Zb.out)) (Sz.len (Sz.fmod Zb.out HN.out))).mono ?_
    rintro e w13 ⟨s13, a13, n13, c13, rfl, hn, hb, hf⟩
    have S13 := Lib.hid (S12.out.ret (sg := s13) hb hn.2 hf)
    have E13 := Lib.hid hn.1
    clear hn hb hf S12
    obtain ⟨t11, u11⟩ := (S13.out.box (w11.heap.size, s11, .slice a11 n11 c11, digs ((za.fdiv zb) : Int).natAbs) (List.mem_cons_of_mem _ (List.mem_cons_of_mem _ (List.mem_cons_of_mem _ List.mem_cons_self)))).cells
    go_wp2_with fail
    clear t11 u11
    refine (right_k ((S13.out.box (w11.heap.size, s11, .slice a11 n11 c11, digs ((za.fdiv zb) : Int).natAbs) (List.mem_cons_of_mem _ (List.mem_cons_of_mem _ (List.mem_cons_of_mem _ List.mem_cons_self)))).num E11.out)).mono ?_
    rintro e w14 ⟨rfl, hb⟩
    have S15 := Lib.hid (S13.out.later hb)
    clear S13
    clear hb
    obtain ⟨t12, u12⟩ := (S15.out.box (w11.heap.size + 1, t11, .slice b11 m11 d11, digs ((za.fmod zb) : Int).natAbs) (List.mem_cons_of_mem _ (List.mem_cons_of_mem _ List.mem_cons_self))).cells
    go_wp2_with fail
    clear t12 u12
    refine (right_k ((S15.out.box (w11.heap.size + 1, t11, .slice b11 m11 d11, digs ((za.fmod zb) : Int).natAbs) (List.mem_cons_of_mem _ (List.mem_cons_of_mem _ List.mem_cons_self))).num D11.out)).mono ?_
    rintro e w16 ⟨rfl, hb⟩
    have S17 := Lib.hid (S15.out.later hb)
    clear S15
    clear hb
    obtain ⟨t13, u13⟩ := (S17.out.box (w13.heap.size, s13, .slice a13 n13 c13, digs ((za.fdiv zb * zb + za.fmod zb) : Int).natAbs) List.mem_cons_self).cells
    obtain ⟨t14, u14⟩ := (S17.out.box (w.heap.size, sa, .slice aa na ca, digs (za : Int).natAbs) (List.mem_cons_of_mem _ (List.mem_cons_of_mem _ (List.mem_cons_of_mem _ (List.mem_cons_of_mem _ (List.mem_cons_of_mem _ List.mem_cons_self)))))).cells
    go_wp2_with fail
    clear t13 u13 t14 u14
    refine (same_t ((S17.out.box (w13.heap.size, s13, .slice a13 n13 c13, digs ((za.fdiv zb * zb + za.fmod zb) : Int).natAbs) List.mem_cons_self).num E13.out) ((S17.out.box (w.heap.size, sa, .slice aa na ca, digs (za : Int).natAbs) (List.mem_cons_of_mem _ (List.mem_cons_of_mem _ (List.mem_cons_of_mem _ (List.mem_cons_of_mem _ (List.mem_cons_of_mem _ List.mem_cons_self)))))).num Ea.out) (Int.fdiv_mul_add_fmod _ _)).mono ?_
    rintro e w18 ⟨rfl, hb⟩
    have S19 := Lib.hid (S17.out.later hb)
    clear S17
    clear hb
    obtain ⟨t15, u15⟩ := (S19.out.box (w11.heap.size + 1, t11, .slice b11 m11 d11, digs ((za.fmod zb) : Int).natAbs) (List.mem_cons_of_mem _ (List.mem_cons_of_mem _ List.mem_cons_self))).cells
    obtain ⟨t16, u16⟩ := (S19.out.box (w.heap.size + 1, (-1), .slice ab nb cb, digs (zb : Int).natAbs) (List.mem_cons_of_mem _ (List.mem_cons_of_mem _ (List.mem_cons_of_mem _ (List.mem_cons_of_mem _ List.mem_cons_self))))).cells
    go_wp2_with fail
    clear t15 u15 t16 u16
    refine (cmp_t ((S19.out.box (w11.heap.size + 1, t11, .slice b11 m11 d11, digs ((za.fmod zb) : Int).natAbs) (List.mem_cons_of_mem _ (List.mem_cons_of_mem _ List.mem_cons_self))).num D11.out) ((S19.out.box (w.heap.size + 1, (-1), .slice ab nb cb, digs (zb : Int).natAbs) (List.mem_cons_of_mem _ (List.mem_cons_of_mem _ (List.mem_cons_of_mem _ (List.mem_cons_of_mem _ List.mem_cons_self))))).num Eb.out) (cmpI_gt (fmod_neg za HZ.out).1)).mono ?_
    rintro e w20 ⟨rfl, hb⟩
    have S21 := Lib.hid (S19.out.later hb)
    clear S19
    clear hb
    obtain ⟨t17, u17⟩ := (S21.out.box (w11.heap.size + 1, t11, .slice b11 m11 d11, digs ((za.fmod zb) : Int).natAbs) (List.mem_cons_of_mem _ (List.mem_cons_of_mem _ List.mem_cons_self))).cells
    obtain ⟨t18, u18⟩ := (S21.out.box (w.heap.size + 1, (-1), .slice ab nb cb, digs (zb : Int).natAbs) (List.mem_cons_of_mem _ (List.mem_cons_of_mem _ (List.mem_cons_of_mem _ (List.mem_cons_of_mem _ List.mem_cons_self))))).cells
    go_wp2_with fail
    clear t17 u17 t18 u18
    refine (cmp_t ((S21.out.box (w11.heap.size + 1, t11, .slice b11 m11 d11, digs ((za.fmod zb) : Int).natAbs) (List.mem_cons_of_mem _ (List.mem_cons_of_mem _ List.mem_cons_self))).num D11.out) ((S21.out.box (w.heap.size + 1, (-1), .slice ab nb cb, digs (zb : Int).natAbs) (List.mem_cons_of_mem _ (List.mem_cons_of_mem _ (List.mem_cons_of_mem _ (List.mem_cons_of_mem _ List.mem_cons_self))))).num Eb.out) (cmpI_gt (fmod_neg za HZ.out).1)).mono ?_
    rintro e w22 ⟨rfl, hb⟩
    have S23 := Lib.hid (S21.out.later hb)
    clear S21
    clear hb
    by_cases hr : za.fmod zb = 0
    case pos =>
      obtain rfl : t11 = 0 := by rw [D11.out, hr]; rfl
      clear hr
      obtain ⟨t19, u19⟩ := (S23.out.box (w11.heap.size + 1, 0, .slice b11 m11 d11, digs ((za.fmod zb) : Int).natAbs) (List.mem_cons_of_mem _ (List.mem_cons_of_mem _ List.mem_cons_self))).cells
      obtain ⟨t20, u20⟩ := (S23.out.box (w.heap.size + 1, (-1), .slice ab nb cb, digs (zb : Int).natAbs) (List.mem_cons_of_mem _ (List.mem_cons_of_mem _ (List.mem_cons_of_mem _ (List.mem_cons_of_mem _ List.mem_cons_self))))).cells
      go_wp2_with fail
      clear t19 u19 t20 u20
      go_ret
      exact ⟨rfl, S23.out.below⟩
    case neg =>
      have hs : (za.fmod zb).sign = -1 := Int.sign_eq_neg_one_of_neg (by have := fmod_neg za HZ.out; omega)
      obtain rfl : t11 = -1 := D11.out.trans hs
      clear hs
      clear hr
      obtain ⟨t21, u21⟩ := (S23.out.box (w11.heap.size + 1, (-1), .slice b11 m11 d11, digs ((za.fmod zb) : Int).natAbs) (List.mem_cons_of_mem _ (List.mem_cons_of_mem _ List.mem_cons_self))).cells
      obtain ⟨t22, u22⟩ := (S23.out.box (w.heap.size + 1, (-1), .slice ab nb cb, digs (zb : Int).natAbs) (List.mem_cons_of_mem _ (List.mem_cons_of_mem _ (List.mem_cons_of_mem _ (List.mem_cons_of_mem _ List.mem_cons_self))))).cells
      go_wp2_with fail
      clear t21 u21 t22 u22
      go_ret
      exact ⟨rfl, S23.out.below⟩
  case inr.inl =>
    subst hz
    obtain rfl : sb = 0 := Eb.out
    obtain ⟨t23, u23⟩ := (S10.out.box (w.heap.size, sa, .slice aa na ca, digs (za : Int).natAbs) (List.mem_cons_of_mem _ List.mem_cons_self)).cells
    obtain ⟨t24, u24⟩ := (S10.out.box (w.heap.size + 1, 0, .slice ab nb cb, digs (0 : Int).natAbs) List.mem_cons_self).cells
    go_wp2_with fail
    clear t23 u23 t24 u24
    refine (div0_k ((S10.out.box (w.heap.size, sa, .slice aa na ca, digs (za : Int).natAbs) (List.mem_cons_of_mem _ List.mem_cons_self)).num Ea.out) ((S10.out.box (w.heap.size + 1, 0, .slice ab nb cb, digs (0 : Int).natAbs) List.mem_cons_self).num Eb.out) rfl).mono ?_
    rintro e w24 ⟨s24, a24, n24, c24, t24, b24, m24, d24, rfl, hn, hm, hb, hf, hg⟩
    have S24 := Lib.hid (S10.out.ret2 (sg := s24) (tg := t24) hb hn.2 hf hm.2 hg)
    have E24 := Lib.hid hn.1
    have D24 := Lib.hid hm.1
    clear hn hm hb hf hg S10
    obtain ⟨t25, u25⟩ := (S24.out.box (w.heap.size + 1, 0, .slice ab nb cb, digs (0 : Int).natAbs) (List.mem_cons_of_mem _ (List.mem_cons_of_mem _ List.mem_cons_self))).cells
    obtain ⟨t26, u26⟩ := (S24.out.box (w24.heap.size, s24, .slice a24 n24 c24, digs (0 : Int).natAbs) (List.mem_cons_of_mem _ List.mem_cons_self)).cells
    go_wp2_with fail
    clear t25 u25 t26 u26
    refine (same_t ((S24.out.box (w24.heap.size, s24, .slice a24 n24 c24, digs (0 : Int).natAbs) (List.mem_cons_of_mem _ List.mem_cons_self)).num E24.out) (num_nil _) rfl).mono ?_
    rintro e w25 ⟨rfl, hb⟩
    have S26 := Lib.hid (S24.out.later hb)
    clear S24
    clear hb
    obtain ⟨t27, u27⟩ := (S26.out.box (w24.heap.size + 1, t24, .slice b24 m24 d24, digs (0 : Int).natAbs) List.mem_cons_self).cells
    go_wp2_with fail
    clear t27 u27
    refine (same_t ((S26.out.box (w24.heap.size + 1, t24, .slice b24 m24 d24, digs (0 : Int).natAbs) List.mem_cons_self).num D24.out) (num_nil _) rfl).mono ?_
    rintro e w27 ⟨rfl, hb⟩
    have S28 := Lib.hid (S26.out.later hb)
    clear S26
    clear hb
    go_wp2_with fail
    go_ret
    exact ⟨rfl, S28.out.below⟩
  case inr.inr =>
    have HZ := Lib.hid hz
    have HN : Hid (zb ≠ 0) := by have := HZ.out; show zb ≠ 0; omega
    clear hz
    obtain rfl : sb = 1 := Eb.out.trans (Int.sign_eq_one_of_pos HZ.out)
    obtain ⟨t28, u28⟩ := (S10.out.box (w.heap.size, sa, .slice aa na ca, digs (za : Int).natAbs) (List.mem_cons_of_mem _ List.mem_cons_self)).cells
    obtain ⟨t29, u29⟩ := (S10.out.box (w.heap.size + 1, (1), .slice ab nb cb, digs (zb : Int).natAbs) List.mem_cons_self).cells
    go_wp2_with fail
    clear t28 u28 t29 u29
    refine (div_k ((S10.out.box (w.heap.size, sa, .slice aa na ca, digs (za : Int).natAbs) (List.mem_cons_of_mem _ List.mem_cons_self)).num Ea.out) ((S10.out.box (w.heap.size + 1, (1), .slice ab nb cb, digs (zb : Int).natAbs) List.mem_cons_self).num Eb.out) (Sz.len Za.out) (Sz.len Zb.out) HN.out).mono ?_
    rintro e w29 ⟨s29, a29, n29, c29, t29, b29, m29, d29, rfl, hn, hm, hb, hf, hg⟩
    have S29 := Lib.hid (S10.out.ret2 (sg := s29) (tg := t29) hb hn.2 hf hm.2 hg)
    have E29 := Lib.hid hn.1
    have D29 := Lib.hid hm.1
    clear hn hm hb hf hg S10
    obtain ⟨t30, u30⟩ := (S29.out.box (w.heap.size + 1, (1), .slice ab nb cb, digs (zb : Int).natAbs) (List.mem_cons_of_mem _ (List.mem_cons_of_mem _ List.mem_cons_self))).cells
    obtain ⟨t31, u31⟩ := (S29.out.box (w29.heap.size, s29, .slice a29 n29 c29, digs ((za.fdiv zb) : Int).natAbs) (List.mem_cons_of_mem _ List.mem_cons_self)).cells
    go_wp2_with fail
    clear t30 u30 t31 u31
    refine (mul_k ((S29.out.box (w29.heap.size, s29, .slice a29 n29 c29, digs ((za.fdiv zb) : Int).natAbs) (List.mem_cons_of_mem _ List.mem_cons_self)).num E29.out) ((S29.out.box (w.heap.size + 1, (1), .slice ab nb cb, digs (zb : Int).natAbs) (List.mem_cons_of_mem _ (List.mem_cons_of_mem _ List.mem_cons_self))).num Eb.out) (Sz.len (Sz.fdiv Za.out)) (Sz.len Zb.out)).mono ?_
    rintro e w30 ⟨s30, a30, n30, c30, rfl, hn, hb, hf⟩
    have S30 := Lib.hid (S29.out.ret (sg := s30) hb hn.2 hf)
    have E30 := Lib.hid hn.1
    clear hn hb hf S29
    obtain ⟨t32, u32⟩ := (S30.out.box (w30.heap.size, s30, .slice a30 n30 c30, digs ((za.fdiv zb * zb) : Int).natAbs) List.mem_cons_self).cells
    obtain ⟨t33, u33⟩ := (S30.out.box (w29.heap.size + 1, t29, .slice b29 m29 d29, digs ((za.fmod zb) : Int).natAbs) (List.mem_cons_of_mem _ List.mem_cons_self)).cells
    go_wp2_with fail
    clear t32 u32 t33 u33
    refine (add_k ((S30.out.box (w30.heap.size, s30, .slice a30 n30 c30, digs ((za.fdiv zb * zb) : Int).natAbs) List.mem_cons_self).num E30.out) ((S30.out.box (w29.heap.size + 1, t29, .slice b29 m29 d29, digs ((za.fmod zb) : Int).natAbs) (List.mem_cons_of_mem _ List.mem_cons_self)).num D29.out) (Sz.len (Sz.mul (Sz.fdiv Za.out) Zb.out)) (Sz.len (Sz.fmod Zb.out HN.out))).mono ?_
    rintro e w31 ⟨s31, a31, n31, c31, rfl, hn, hb, hf⟩
    have S31 := Lib.hid (S30.out.ret (sg := s31) hb hn.2 hf)
    have E31 := Lib.hid hn.1
    clear hn hb hf S30
    obtain ⟨t34, u34⟩ := (S31.out.box (w29.heap.size, s29, .slice a29 n29 c29, digs ((za.fdiv zb) : Int).natAbs) (List.mem_cons_of_mem _ (List.mem_cons_of_mem _ (List.mem_cons_of_mem _ List.mem_cons_self)))).cells
    go_wp2_with fail
    clear t34 u34
    refine (right_k ((S31.out.box (w29.heap.size, s29, .slice a29 n29 c29, digs ((za.fdiv zb) : Int).natAbs) (List.mem_cons_of_mem _ (List.mem_cons_of_mem _ (List.mem_cons_of_mem _ List.mem_cons_self)))).num E29.out)).mono ?_
    rintro e w32 ⟨rfl, hb⟩
    have S33 := Lib.hid (S31.out.later hb)
    clear S31
    clear hb
    obtain ⟨t35, u35⟩ := (S33.out.box (w29.heap.size + 1, t29, .slice b29 m29 d29, digs ((za.fmod zb) : Int).natAbs) (List.mem_cons_of_mem _ (List.mem_cons_of_mem _ List.mem_cons_self))).cells
    go_wp2_with fail
    clear t35 u35
    refine (right_k ((S33.out.box (w29.heap.size + 1, t29, .slice b29 m29 d29, digs ((za.fmod zb) : Int).natAbs) (List.mem_cons_of_mem _ (List.mem_cons_of_mem _ List.mem_cons_self))).num D29.out)).mono ?_
    rintro e w34 ⟨rfl, hb⟩
    have S35 := Lib.hid (S33.out.later hb)
    clear S33
    clear hb
    obtain ⟨t36, u36⟩ := (S35.out.box (w31.heap.size, s31, .slice a31 n31 c31, digs ((za.fdiv zb * zb + za.fmod zb) : Int).natAbs) List.mem_cons_self).cells
    obtain ⟨t37, u37⟩ := (S35.out.box (w.heap.size, sa, .slice aa na ca, digs (za : Int).natAbs) (List.mem_cons_of_mem _ (List.mem_cons_of_mem _ (List.mem_cons_of_mem _ (List.mem_cons_of_mem _ (List.mem_cons_of_mem _ List.mem_cons_self)))))).cells
    go_wp2_with fail
    clear t36 u36 t37 u37
    refine (same_t ((S35.out.box (w31.heap.size, s31, .slice a31 n31 c31, digs ((za.fdiv zb * zb + za.fmod zb) : Int).natAbs) List.mem_cons_self).num E31.out) ((S35.out.box (w.heap.size, sa, .slice aa na ca, digs (za : Int).natAbs) (List.mem_cons_of_mem _ (List.mem_cons_of_mem _ (List.mem_cons_of_mem _ (List.mem_cons_of_mem _ (List.mem_cons_of_mem _ List.mem_cons_self)))))).num Ea.out) (Int.fdiv_mul_add_fmod _ _)).mono ?_
    rintro e w36 ⟨rfl, hb⟩
    have S37 := Lib.hid (S35.out.later hb)
    clear S35
    clear hb
    obtain ⟨t38, u38⟩ := (S37.out.box (w29.heap.size + 1, t29, .slice b29 m29 d29, digs ((za.fmod zb) : Int).natAbs) (List.mem_cons_of_mem _ (List.mem_cons_of_mem _ List.mem_cons_self))).cells
    obtain ⟨t39, u39⟩ := (S37.out.box (w.heap.size + 1, (1), .slice ab nb cb, digs (zb : Int).natAbs) (List.mem_cons_of_mem _ (List.mem_cons_of_mem _ (List.mem_cons_of_mem _ (List.mem_cons_of_mem _ List.mem_cons_self))))).cells
    go_wp2_with fail
    clear t38 u38 t39 u39
    refine (cmp_t ((S37.out.box (w29.heap.size + 1, t29, .slice b29 m29 d29, digs ((za.fmod zb) : Int).natAbs) (List.mem_cons_of_mem _ (List.mem_cons_of_mem _ List.mem_cons_self))).num D29.out) ((S37.out.box (w.heap.size + 1, (1), .slice ab nb cb, digs (zb : Int).natAbs) (List.mem_cons_of_mem _ (List.mem_cons_of_mem _ (List.mem_cons_of_mem _ (List.mem_cons_of_mem _ List.mem_cons_self))))).num Eb.out) (cmpI_lt (fmod_pos za HZ.out).2)).mono ?_
    rintro e w38 ⟨rfl, hb⟩
    have S39 := Lib.hid (S37.out.later hb)
    clear S37
    clear hb
    by_cases hr : za.fmod zb = 0
    case pos =>
      obtain rfl : t29 = 0 := by rw [D29.out, hr]; rfl
      clear hr
      obtain ⟨t40, u40⟩ := (S39.out.box (w.heap.size + 1, (1), .slice ab nb cb, digs (zb : Int).natAbs) (List.mem_cons_of_mem _ (List.mem_cons_of_mem _ (List.mem_cons_of_mem _ (List.mem_cons_of_mem _ List.mem_cons_self))))).cells
      obtain ⟨t41, u41⟩ := (S39.out.box (w29.heap.size + 1, 0, .slice b29 m29 d29, digs ((za.fmod zb) : Int).natAbs) (List.mem_cons_of_mem _ (List.mem_cons_of_mem _ List.mem_cons_self))).cells
      go_wp2_with fail
      clear t40 u40 t41 u41
      go_ret
      exact ⟨rfl, S39.out.below⟩
    case neg =>
      have hs : (za.fmod zb).sign = 1 := Int.sign_eq_one_of_pos (by have := fmod_pos za HZ.out; omega)
      obtain rfl : t29 = 1 := D29.out.trans hs
      clear hs
      clear hr
      obtain ⟨t42, u42⟩ := (S39.out.box (w.heap.size + 1, (1), .slice ab nb cb, digs (zb : Int).natAbs) (List.mem_cons_of_mem _ (List.mem_cons_of_mem _ (List.mem_cons_of_mem _ (List.mem_cons_of_mem _ List.mem_cons_self))))).cells
      obtain ⟨t43, u43⟩ := (S39.out.box (w29.heap.size + 1, (1), .slice b29 m29 d29, digs ((za.fmod zb) : Int).natAbs) (List.mem_cons_of_mem _ (List.mem_cons_of_mem _ List.mem_cons_self))).cells
      go_wp2_with fail
      clear t42 u42 t43 u43
      go_ret
      exact ⟨rfl, S39.out.below⟩
set_option maxHeartbeats 4000000 in
theorem BigDivides_long (sa : Int) (aa : Option Addr) (na ca : Nat) (sb : Int) (ab : Option Addr) (nb cb : Nat) (w : World) (he : Env w) (ha : na ≤ 9223372036854775807) (hb : nb ≤ 9223372036854775807) (hno : ¬ (na ≤ 40 ∧ nb ≤ 40)) :
    Calls Tryd.prog 6 #[.agg #[.int .i64 sa, .slice aa na ca], .agg #[.int .i64 sb, .slice ab nb cb]] w fun e w' => e = .returned (.bool true) ∧ RowKit.Below w.heap.size w w' := by
  have HE := Lib.hid he
  have HNO := Lib.hid hno
  have Ha := Lib.hid ha
  obtain ⟨fa, hfa⟩ : ∃ b, decide ((na : Int) ≤ 40) = b := ⟨_, rfl⟩
  have Fa := Lib.hid hfa
  clear ha hfa
  have Hb := Lib.hid hb
  obtain ⟨fb, hfb⟩ : ∃ b, decide ((nb : Int) ≤ 40) = b := ⟨_, rfl⟩
  have Fb := Lib.hid hfb
  clear hb hfb
  have S0 := Lib.hid (Sk.two w sa sb (.slice aa na ca) (.slice ab nb cb))
  clear he hno
  go_enter Tryd.func6, Tryd.ntmps6
  go_wp2_with fail
  refine (small_any _ (S0.out.env HE.out)).mono ?_
  rintro e w0 ⟨rfl, hb⟩
  have S1 := Lib.hid (S0.out.later hb)
  clear hb S0
  obtain ⟨t, u⟩ := S1.out.cells (b := w.heap.size) (sg := sa) (v := .slice aa na ca) (List.mem_cons_of_mem _ List.mem_cons_self)
  go_wp2_with fail
  clear t u
  refine (few_len sa aa na ca 40 _ Ha.out fa Fa.out).mono ?_
  rintro e w1 ⟨rfl, hb⟩
  have S2 := Lib.hid (S1.out.later hb)
  clear hb S1
  cases fa
  case false =>
    go_wp2_with fail
    go_ret
    exact ⟨rfl, S2.out.below⟩
  obtain ⟨t, u⟩ := S2.out.cells (b := w.heap.size + 1) (sg := sb) (v := .slice ab nb cb) List.mem_cons_self
  go_wp2_with fail
  clear t u
  refine (few_len sb ab nb cb 40 _ Hb.out fb Fb.out).mono ?_
  rintro e w2 ⟨rfl, hb⟩
  have S3 := Lib.hid (S2.out.later hb)
  clear hb S2
  cases fb
  case false =>
    go_wp2_with fail
    go_ret
    exact ⟨rfl, S3.out.below⟩
  exact absurd ⟨by have := Fa.out; simp at this; omega, by have := Fb.out; simp at this; omega⟩ HNO.out
end Go.Proofs.YtpcagodnlbdclaaDoor.Bi
