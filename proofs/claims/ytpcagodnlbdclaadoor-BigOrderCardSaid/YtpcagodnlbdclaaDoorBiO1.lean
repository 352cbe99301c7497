/- The contract of BigOrder. -/
import Derived.Test.YtpcagodnlbdclaaDoorBi31
set_option maxRecDepth 100000
namespace Go.Proofs.YtpcagodnlbdclaaDoor.Bi
open Go.RowKit

set_option maxHeartbeats 8000000 in
theorem BigOrder_any (sa : Int) (aa : Option Addr) (na ca : Nat) (la : List Int) (sb : Int) (ab : Option Addr) (nb cb : Nat) (lb : List Int) (sc : Int) (ac : Option Addr) (nc cc : Nat) (lc : List Int) (w : World) (he : Env w) (ha : Ints w (.slice aa na ca) la) (hb : Ints w (.slice ab nb cb) lb) (hc : Ints w (.slice ac nc cc) lc) :
    Calls Tryd.prog 5 #[.agg #[.int .i64 sa, .slice aa na ca], .agg #[.int .i64 sb, .slice ab nb cb], .agg #[.int .i64 sc, .slice ac nc cc]] w fun e w' => e = .returned (.bool true) ∧ RowKit.Below w.heap.size w w' := by
  have HE := Lib.hid he
  have S0 := Lib.hid (three (sa := sa) (sb := sb) (sc := sc) ha hb hc)
  obtain ⟨fa, hfa⟩ : ∃ b, decide ((la.length : Int) ≤ 25) = b := ⟨_, rfl⟩
  obtain ⟨ra, hra⟩ : ∃ b, rightB sa la = b := ⟨_, rfl⟩
  have Fa := Lib.hid hfa
  have Ra := Lib.hid hra
  clear ha hfa hra
  obtain ⟨fb, hfb⟩ : ∃ b, decide ((lb.length : Int) ≤ 25) = b := ⟨_, rfl⟩
  obtain ⟨rb, hrb⟩ : ∃ b, rightB sb lb = b := ⟨_, rfl⟩
  have Fb := Lib.hid hfb
  have Rb := Lib.hid hrb
  clear hb hfb hrb
  obtain ⟨fc, hfc⟩ : ∃ b, decide ((lc.length : Int) ≤ 25) = b := ⟨_, rfl⟩
  obtain ⟨rc, hrc⟩ : ∃ b, rightB sc lc = b := ⟨_, rfl⟩
  have Fc := Lib.hid hfc
  have Rc := Lib.hid hrc
  clear hc hfc hrc
  clear he
  go_enter Tryd.func5, Tryd.ntmps5
  go_wp2_with fail
  refine (small_any _ (S0.out.env HE.out)).mono ?_
  rintro e w1 ⟨rfl, hb⟩
  have S2 := Lib.hid (S0.out.later hb)
  clear S0
  clear hb
  obtain ⟨t1, u1⟩ := (S2.out.box (w.heap.size, sa, .slice aa na ca, la) (List.mem_cons_of_mem _ (List.mem_cons_of_mem _ List.mem_cons_self))).cells
  go_wp2_with fail
  clear t1 u1
  refine (few_any sa _ la 25 _ (S2.out.box (w.heap.size, sa, .slice aa na ca, la) (List.mem_cons_of_mem _ (List.mem_cons_of_mem _ List.mem_cons_self))).2 fa Fa.out).mono ?_
  rintro e w3 ⟨rfl, hb⟩
  have S4 := Lib.hid (S2.out.later hb)
  clear S2
  clear hb
  cases fa
  case false =>
    go_wp2_with fail
    go_ret
    exact ⟨rfl, S4.out.below⟩
  obtain ⟨t2, u2⟩ := (S4.out.box (w.heap.size + 1, sb, .slice ab nb cb, lb) (List.mem_cons_of_mem _ List.mem_cons_self)).cells
  go_wp2_with fail
  clear t2 u2
  refine (few_any sb _ lb 25 _ (S4.out.box (w.heap.size + 1, sb, .slice ab nb cb, lb) (List.mem_cons_of_mem _ List.mem_cons_self)).2 fb Fb.out).mono ?_
  rintro e w5 ⟨rfl, hb⟩
  have S6 := Lib.hid (S4.out.later hb)
  clear S4
  clear hb
  cases fb
  case false =>
    go_wp2_with fail
    go_ret
    exact ⟨rfl, S6.out.below⟩
  obtain ⟨t3, u3⟩ := (S6.out.box (w.heap.size + 1 + 1, sc, .slice ac nc cc, lc) List.mem_cons_self).cells
  go_wp2_with fail
  clear t3 u3
  refine (few_any sc _ lc 25 _ (S6.out.box (w.heap.size + 1 + 1, sc, .slice ac nc cc, lc) List.mem_cons_self).2 fc Fc.out).mono ?_
  rintro e w7 ⟨rfl, hb⟩
  have S8 := Lib.hid (S6.out.later hb)
  clear S6
  clear hb
  cases fc
  case false =>
    go_wp2_with fail
    go_ret
    exact ⟨rfl, S8.out.below⟩
  obtain ⟨t4, u4⟩ := (S8.out.box (w.heap.size, sa, .slice aa na ca, la) (List.mem_cons_of_mem _ (List.mem_cons_of_mem _ List.mem_cons_self))).cells
  go_wp2_with fail
  clear t4 u4
  refine (right_b ⟨_, rfl, (S8.out.box (w.heap.size, sa, .slice aa na ca, la) (List.mem_cons_of_mem _ (List.mem_cons_of_mem _ List.mem_cons_self))).2⟩ Ra.out).mono ?_
  rintro e w9 ⟨rfl, hb⟩
  have S10 := Lib.hid (S8.out.later hb)
  clear S8
  clear hb
  cases ra
  case false =>
    go_wp2_with fail
    go_ret
    exact ⟨rfl, S10.out.below⟩
  obtain ⟨t5, u5⟩ := (S10.out.box (w.heap.size + 1, sb, .slice ab nb cb, lb) (List.mem_cons_of_mem _ List.mem_cons_self)).cells
  go_wp2_with fail
  clear t5 u5
  refine (right_b ⟨_, rfl, (S10.out.box (w.heap.size + 1, sb, .slice ab nb cb, lb) (List.mem_cons_of_mem _ List.mem_cons_self)).2⟩ Rb.out).mono ?_
  rintro e w11 ⟨rfl, hb⟩
  have S12 := Lib.hid (S10.out.later hb)
  clear S10
  clear hb
  cases rb
  case false =>
    go_wp2_with fail
    go_ret
    exact ⟨rfl, S12.out.below⟩
  obtain ⟨t6, u6⟩ := (S12.out.box (w.heap.size + 1 + 1, sc, .slice ac nc cc, lc) List.mem_cons_self).cells
  go_wp2_with fail
  clear t6 u6
  refine (right_b ⟨_, rfl, (S12.out.box (w.heap.size + 1 + 1, sc, .slice ac nc cc, lc) List.mem_cons_self).2⟩ Rc.out).mono ?_
  rintro e w13 ⟨rfl, hb⟩
  have S14 := Lib.hid (S12.out.later hb)
  clear S12
  clear hb
  cases rc
  case false =>
    go_wp2_with fail
    go_ret
    exact ⟨rfl, S14.out.below⟩
  obtain ⟨za, ea, rfl⟩ := right_of Ra.out
  have Ea := Lib.hid ea
  have Za : Hid (Sz 25 za) := Sz.fits Fa.out rfl rfl
  clear ea Fa Ra
  obtain ⟨zb, eb, rfl⟩ := right_of Rb.out
  have Eb := Lib.hid eb
  have Zb : Hid (Sz 25 zb) := Sz.fits Fb.out rfl rfl
  clear eb Fb Rb
  obtain ⟨zc, ec, rfl⟩ := right_of Rc.out
  have Ec := Lib.hid ec
  have Zc : Hid (Sz 25 zc) := Sz.fits Fc.out rfl rfl
  clear ec Fc Rc
  have hk := Int.lt_trichotomy za zb
  rcases hk with hk | hk | hk
  case inl =>
    have HC : Hid (cmpI za zb = -1) := cmpI_lt hk
    have HK : Hid (za < zb) := hk
    clear hk
    obtain ⟨t7, u7⟩ := (S14.out.box (w.heap.size, sa, .slice aa na ca, digs (za : Int).natAbs) (List.mem_cons_of_mem _ (List.mem_cons_of_mem _ List.mem_cons_self))).cells
    obtain ⟨t8, u8⟩ := (S14.out.box (w.heap.size + 1, sb, .slice ab nb cb, digs (zb : Int).natAbs) (List.mem_cons_of_mem _ List.mem_cons_self)).cells
    go_wp2_with fail
    clear t7 u7 t8 u8
    refine (cmp_t ((S14.out.box (w.heap.size, sa, .slice aa na ca, digs (za : Int).natAbs) (List.mem_cons_of_mem _ (List.mem_cons_of_mem _ List.mem_cons_self))).num Ea.out) ((S14.out.box (w.heap.size + 1, sb, .slice ab nb cb, digs (zb : Int).natAbs) (List.mem_cons_of_mem _ List.mem_cons_self)).num Eb.out) HC.out).mono ?_
    rintro e w15 ⟨rfl, hb⟩
    have S16 := Lib.hid (S14.out.later hb)
    clear S14
    clear hb
    obtain ⟨t9, u9⟩ := (S16.out.box (w.heap.size, sa, .slice aa na ca, digs (za : Int).natAbs) (List.mem_cons_of_mem _ (List.mem_cons_of_mem _ List.mem_cons_self))).cells
    obtain ⟨t10, u10⟩ := (S16.out.box (w.heap.size + 1, sb, .slice ab nb cb, digs (zb : Int).natAbs) (List.mem_cons_of_mem _ List.mem_cons_self)).cells
    go_wp2_with fail
    clear t9 u9 t10 u10
    refine (sub_k ((S16.out.box (w.heap.size, sa, .slice aa na ca, digs (za : Int).natAbs) (List.mem_cons_of_mem _ (List.mem_cons_of_mem _ List.mem_cons_self))).num Ea.out) ((S16.out.box (w.heap.size + 1, sb, .slice ab nb cb, digs (zb : Int).natAbs) (List.mem_cons_of_mem _ List.mem_cons_self)).num Eb.out) (Sz.len Za.out) (Sz.len Zb.out)).mono ?_
    rintro e w17 ⟨s17, a17, n17, c17, rfl, hn, hb, hf⟩
    have S17 := Lib.hid (S16.out.ret (sg := s17) hb hn.2 hf)
    have E17 := Lib.hid hn.1
    clear hn hb hf S16
    obtain ⟨t11, u11⟩ := (S17.out.box (w.heap.size, sa, .slice aa na ca, digs (za : Int).natAbs) (List.mem_cons_of_mem _ (List.mem_cons_of_mem _ (List.mem_cons_of_mem _ List.mem_cons_self)))).cells
    obtain ⟨t12, u12⟩ := (S17.out.box (w.heap.size + 1 + 1, sc, .slice ac nc cc, digs (zc : Int).natAbs) (List.mem_cons_of_mem _ List.mem_cons_self)).cells
    go_wp2_with fail
    clear t11 u11 t12 u12
    refine (add_k ((S17.out.box (w.heap.size, sa, .slice aa na ca, digs (za : Int).natAbs) (List.mem_cons_of_mem _ (List.mem_cons_of_mem _ (List.mem_cons_of_mem _ List.mem_cons_self)))).num Ea.out) ((S17.out.box (w.heap.size + 1 + 1, sc, .slice ac nc cc, digs (zc : Int).natAbs) (List.mem_cons_of_mem _ List.mem_cons_self)).num Ec.out) (Sz.len Za.out) (Sz.len Zc.out)).mono ?_
    rintro e w18 ⟨s18, a18, n18, c18, rfl, hn, hb, hf⟩
    have S18 := Lib.hid (S17.out.ret (sg := s18) hb hn.2 hf)
    have E18 := Lib.hid hn.1
    clear hn hb hf S17
    obtain ⟨t13, u13⟩ := (S18.out.box (w.heap.size + 1, sb, .slice ab nb cb, digs (zb : Int).natAbs) (List.mem_cons_of_mem _ (List.mem_cons_of_mem _ (List.mem_cons_of_mem _ List.mem_cons_self)))).cells
    obtain ⟨t14, u14⟩ := (S18.out.box (w.heap.size + 1 + 1, sc, .slice ac nc cc, digs (zc : Int).natAbs) (List.mem_cons_of_mem _ (List.mem_cons_of_mem _ List.mem_cons_self))).cells
    go_wp2_with fail
    clear t13 u13 t14 u14
    refine (add_k ((S18.out.box (w.heap.size + 1, sb, .slice ab nb cb, digs (zb : Int).natAbs) (List.mem_cons_of_mem _ (List.mem_cons_of_mem _ (List.mem_cons_of_mem _ List.mem_cons_self)))).num Eb.out) ((S18.out.box (w.heap.size + 1 + 1, sc, .slice ac nc cc, digs (zc : Int).natAbs) (List.mem_cons_of_mem _ (List.mem_cons_of_mem _ List.mem_cons_self))).num Ec.out) (Sz.len Zb.out) (Sz.len Zc.out)).mono ?_
    rintro e w19 ⟨s19, a19, n19, c19, rfl, hn, hb, hf⟩
    have S19 := Lib.hid (S18.out.ret (sg := s19) hb hn.2 hf)
    have E19 := Lib.hid hn.1
    clear hn hb hf S18
    obtain ⟨t15, u15⟩ := (S19.out.box (w.heap.size, sa, .slice aa na ca, digs (za : Int).natAbs) (List.mem_cons_of_mem _ (List.mem_cons_of_mem _ (List.mem_cons_of_mem _ (List.mem_cons_of_mem _ (List.mem_cons_of_mem _ List.mem_cons_self)))))).cells
    obtain ⟨t16, u16⟩ := (S19.out.box (w.heap.size + 1 + 1, sc, .slice ac nc cc, digs (zc : Int).natAbs) (List.mem_cons_of_mem _ (List.mem_cons_of_mem _ (List.mem_cons_of_mem _ List.mem_cons_self)))).cells
    go_wp2_with fail
    clear t15 u15 t16 u16
    refine (mul_k ((S19.out.box (w.heap.size, sa, .slice aa na ca, digs (za : Int).natAbs) (List.mem_cons_of_mem _ (List.mem_cons_of_mem _ (List.mem_cons_of_mem _ (List.mem_cons_of_mem _ (List.mem_cons_of_mem _ List.mem_cons_self)))))).num Ea.out) ((S19.out.box (w.heap.size + 1 + 1, sc, .slice ac nc cc, digs (zc : Int).natAbs) (List.mem_cons_of_mem _ (List.mem_cons_of_mem _ (List.mem_cons_of_mem _ List.mem_cons_self)))).num Ec.out) (Sz.len Za.out) (Sz.len Zc.out)).mono ?_
    rintro e w20 ⟨s20, a20, n20, c20, rfl, hn, hb, hf⟩
    have S20 := Lib.hid (S19.out.ret (sg := s20) hb hn.2 hf)
    have E20 := Lib.hid hn.1
    clear hn hb hf S19
    obtain ⟨t17, u17⟩ := (S20.out.box (w.heap.size + 1, sb, .slice ab nb cb, digs (zb : Int).natAbs) (List.mem_cons_of_mem _ (List.mem_cons_of_mem _ (List.mem_cons_of_mem _ (List.mem_cons_of_mem _ (List.mem_cons_of_mem _ List.mem_cons_self)))))).cells
    obtain ⟨t18, u18⟩ := (S20.out.box (w.heap.size + 1 + 1, sc, .slice ac nc cc, digs (zc : Int).natAbs) (List.mem_cons_of_mem _ (List.mem_cons_of_mem _ (List.mem_cons_of_mem _ (List.mem_cons_of_mem _ List.mem_cons_self))))).cells
    go_wp2_with fail
    clear t17 u17 t18 u18
    refine (mul_k ((S20.out.box (w.heap.size + 1, sb, .slice ab nb cb, digs (zb : Int).natAbs) (List.mem_cons_of_mem _ (List.mem_cons_of_mem _ (List.mem_cons_of_mem _ (List.mem_cons_of_mem _ (List.mem_cons_of_mem _ List.mem_cons_self)))))).num Eb.out) ((S20.out.box (w.heap.size + 1 + 1, sc, .slice ac nc cc, digs (zc : Int).natAbs) (List.mem_cons_of_mem _ (List.mem_cons_of_mem _ (List.mem_cons_of_mem _ (List.mem_cons_of_mem _ List.mem_cons_self))))).num Ec.out) (Sz.len Zb.out) (Sz.len Zc.out)).mono ?_
    rintro e w21 ⟨s21, a21, n21, c21, rfl, hn, hb, hf⟩
    have S21 := Lib.hid (S20.out.ret (sg := s21) hb hn.2 hf)
    have E21 := Lib.hid hn.1
    clear hn hb hf S20
    obtain rfl : s17 = -1 := E17.out.trans ((cmpI_subs za zb).trans HC.out)
    go_upto_region 12 with fail
    go_cut [136] from 100 to 136 (fun u wx => u = .bool false ∧ Hid (Sq w [(w21.heap.size, s21, .slice a21 n21 c21, digs ((zb * zc) : Int).natAbs), (w20.heap.size, s20, .slice a20 n20 c20, digs ((za * zc) : Int).natAbs), (w19.heap.size, s19, .slice a19 n19 c19, digs ((zb + zc) : Int).natAbs), (w18.heap.size, s18, .slice a18 n18 c18, digs ((za + zc) : Int).natAbs), (w17.heap.size, (-1), .slice a17 n17 c17, digs ((za - zb) : Int).natAbs), (w.heap.size + 1 + 1, sc, .slice ac nc cc, digs (zc : Int).natAbs), (w.heap.size + 1, sb, .slice ab nb cb, digs (zb : Int).natAbs), (w.heap.size, sa, .slice aa na ca, digs (za : Int).natAbs)] wx))
    case first =>
      have hs := Int.lt_trichotomy zc 0
      rcases hs with hs | hs | hs
      case inl =>
        obtain rfl : sc = -1 := Ec.out.trans (Int.sign_eq_neg_one_of_neg hs)
        have HS : Hid (zc.sign = -1) := Ec.out.symm
        clear hs
        have SD := Lib.hid S21.out.drew
        clear S21
        have K0 : ∀ W, Sq w [(w21.heap.size, s21, .slice a21 n21 c21, digs ((zb * zc) : Int).natAbs), (w20.heap.size, s20, .slice a20 n20 c20, digs ((za * zc) : Int).natAbs), (w19.heap.size, s19, .slice a19 n19 c19, digs ((zb + zc) : Int).natAbs), (w18.heap.size, s18, .slice a18 n18 c18, digs ((za + zc) : Int).natAbs), (w17.heap.size, (-1), .slice a17 n17 c17, digs ((za - zb) : Int).natAbs), (w.heap.size + 1 + 1, (-1), .slice ac nc cc, digs (zc : Int).natAbs), (w.heap.size + 1, sb, .slice ab nb cb, digs (zb : Int).natAbs), (w.heap.size, sa, .slice aa na ca, digs (za : Int).natAbs)] W → W.cell? ⟨w.heap.size, 0, none⟩ = some (.int .i64 sa) ∧ W.cell? ⟨w.heap.size, 1, none⟩ = some (.slice aa na ca) ∧ W.cell? ⟨w.heap.size + 1, 0, none⟩ = some (.int .i64 sb) ∧ W.cell? ⟨w.heap.size + 1, 1, none⟩ = some (.slice ab nb cb) ∧ W.cell? ⟨w18.heap.size, 0, none⟩ = some (.int .i64 s18) ∧ W.cell? ⟨w18.heap.size, 1, none⟩ = some (.slice a18 n18 c18) ∧ W.cell? ⟨w19.heap.size, 0, none⟩ = some (.int .i64 s19) ∧ W.cell? ⟨w19.heap.size, 1, none⟩ = some (.slice a19 n19 c19) ∧ W.cell? ⟨w20.heap.size, 0, none⟩ = some (.int .i64 s20) ∧ W.cell? ⟨w20.heap.size, 1, none⟩ = some (.slice a20 n20 c20) ∧ W.cell? ⟨w21.heap.size, 0, none⟩ = some (.int .i64 s21) ∧ W.cell? ⟨w21.heap.size, 1, none⟩ = some (.slice a21 n21 c21) ∧ W.cell? ⟨w.heap.size + 1 + 1, 0, none⟩ = some (.int .i64 (-1)) ∧ W.cell? ⟨w17.heap.size, 0, none⟩ = some (.int .i64 (-1)) := fun W h => ⟨(h.box (w.heap.size, sa, .slice aa na ca, digs (za : Int).natAbs) (List.mem_cons_of_mem _ (List.mem_cons_of_mem _ (List.mem_cons_of_mem _ (List.mem_cons_of_mem _ (List.mem_cons_of_mem _ (List.mem_cons_of_mem _ (List.mem_cons_of_mem _ List.mem_cons_self)))))))).cells.1, (h.box (w.heap.size, sa, .slice aa na ca, digs (za : Int).natAbs) (List.mem_cons_of_mem _ (List.mem_cons_of_mem _ (List.mem_cons_of_mem _ (List.mem_cons_of_mem _ (List.mem_cons_of_mem _ (List.mem_cons_of_mem _ (List.mem_cons_of_mem _ List.mem_cons_self)))))))).cells.2, (h.box (w.heap.size + 1, sb, .slice ab nb cb, digs (zb : Int).natAbs) (List.mem_cons_of_mem _ (List.mem_cons_of_mem _ (List.mem_cons_of_mem _ (List.mem_cons_of_mem _ (List.mem_cons_of_mem _ (List.mem_cons_of_mem _ List.mem_cons_self))))))).cells.1, (h.box (w.heap.size + 1, sb, .slice ab nb cb, digs (zb : Int).natAbs) (List.mem_cons_of_mem _ (List.mem_cons_of_mem _ (List.mem_cons_of_mem _ (List.mem_cons_of_mem _ (List.mem_cons_of_mem _ (List.mem_cons_of_mem _ List.mem_cons_self))))))).cells.2, (h.box (w18.heap.size, s18, .slice a18 n18 c18, digs ((za + zc) : Int).natAbs) (List.mem_cons_of_mem _ (List.mem_cons_of_mem _ (List.mem_cons_of_mem _ List.mem_cons_self)))).cells.1, (h.box (w18.heap.size, s18, .slice a18 n18 c18, digs ((za + zc) : Int).natAbs) (List.mem_cons_of_mem _ (List.mem_cons_of_mem _ (List.mem_cons_of_mem _ List.mem_cons_self)))).cells.2, (h.box (w19.heap.size, s19, .slice a19 n19 c19, digs ((zb + zc) : Int).natAbs) (List.mem_cons_of_mem _ (List.mem_cons_of_mem _ List.mem_cons_self))).cells.1, (h.box (w19.heap.size, s19, .slice a19 n19 c19, digs ((zb + zc) : Int).natAbs) (List.mem_cons_of_mem _ (List.mem_cons_of_mem _ List.mem_cons_self))).cells.2, (h.box (w20.heap.size, s20, .slice a20 n20 c20, digs ((za * zc) : Int).natAbs) (List.mem_cons_of_mem _ List.mem_cons_self)).cells.1, (h.box (w20.heap.size, s20, .slice a20 n20 c20, digs ((za * zc) : Int).natAbs) (List.mem_cons_of_mem _ List.mem_cons_self)).cells.2, (h.box (w21.heap.size, s21, .slice a21 n21 c21, digs ((zb * zc) : Int).natAbs) List.mem_cons_self).cells.1, (h.box (w21.heap.size, s21, .slice a21 n21 c21, digs ((zb * zc) : Int).natAbs) List.mem_cons_self).cells.2, (h.box (w.heap.size + 1 + 1, (-1), .slice ac nc cc, digs (zc : Int).natAbs) (List.mem_cons_of_mem _ (List.mem_cons_of_mem _ (List.mem_cons_of_mem _ (List.mem_cons_of_mem _ (List.mem_cons_of_mem _ List.mem_cons_self)))))).cells.1, (h.box (w17.heap.size, (-1), .slice a17 n17 c17, digs ((za - zb) : Int).natAbs) (List.mem_cons_of_mem _ (List.mem_cons_of_mem _ (List.mem_cons_of_mem _ (List.mem_cons_of_mem _ List.mem_cons_self))))).cells.1⟩
        have KK := Lib.hid K0
        clear K0
        have e0 := Lib.hid (KK.out _ SD.out)
        have H1 : Hid (decide (za = zb) = false) := decide_eq_false (by have := HK.out; omega)
        have H2 : Hid (cmpI zb za = 1) := (cmpI_swap za zb).trans (by have := HC.out; omega)
        have H3 : Hid (cmpI (za + zc) (zb + zc) = -1) := (cmpI_add za zb zc).trans HC.out
        have H4 : Hid (cmpI (za * zc) (zb * zc) = 1) := (cmpI_mul za zb zc).trans (by rw [HC.out, HS.out]; rfl)
        go_region_held3 (fun W => W.cell? ⟨w.heap.size, 0, none⟩ = some (.int .i64 sa) ∧ W.cell? ⟨w.heap.size, 1, none⟩ = some (.slice aa na ca) ∧ W.cell? ⟨w.heap.size + 1, 0, none⟩ = some (.int .i64 sb) ∧ W.cell? ⟨w.heap.size + 1, 1, none⟩ = some (.slice ab nb cb) ∧ W.cell? ⟨w18.heap.size, 0, none⟩ = some (.int .i64 s18) ∧ W.cell? ⟨w18.heap.size, 1, none⟩ = some (.slice a18 n18 c18) ∧ W.cell? ⟨w19.heap.size, 0, none⟩ = some (.int .i64 s19) ∧ W.cell? ⟨w19.heap.size, 1, none⟩ = some (.slice a19 n19 c19) ∧ W.cell? ⟨w20.heap.size, 0, none⟩ = some (.int .i64 s20) ∧ W.cell? ⟨w20.heap.size, 1, none⟩ = some (.slice a20 n20 c20) ∧ W.cell? ⟨w21.heap.size, 0, none⟩ = some (.int .i64 s21) ∧ W.cell? ⟨w21.heap.size, 1, none⟩ = some (.slice a21 n21 c21) ∧ W.cell? ⟨w.heap.size + 1 + 1, 0, none⟩ = some (.int .i64 (-1)) ∧ W.cell? ⟨w17.heap.size, 0, none⟩ = some (.int .i64 (-1)))
          (first | (with_reducible exact e0.out) | (with_reducible exact e1.out) | (with_reducible exact e2.out) | (with_reducible exact e3.out) | (with_reducible exact e4.out))
          (((first | go_at_call 31 | go_at_call 29 | (rw [if_pos (by rfl)]; go_simp)); (first
            | (go_at_call 31; (with_reducible refine (same_b ((SD.out.box (w.heap.size, sa, .slice aa na ca, digs (za : Int).natAbs) (List.mem_cons_of_mem _ (List.mem_cons_of_mem _ (List.mem_cons_of_mem _ (List.mem_cons_of_mem _ (List.mem_cons_of_mem _ (List.mem_cons_of_mem _ (List.mem_cons_of_mem _ List.mem_cons_self)))))))).num Ea.out) ((SD.out.box (w.heap.size + 1, sb, .slice ab nb cb, digs (zb : Int).natAbs) (List.mem_cons_of_mem _ (List.mem_cons_of_mem _ (List.mem_cons_of_mem _ (List.mem_cons_of_mem _ (List.mem_cons_of_mem _ (List.mem_cons_of_mem _ List.mem_cons_self))))))).num Eb.out) H1.out).mono ?_); rintro e w1 ⟨rfl, hb⟩; have T1 := Lib.hid (SD.out.later hb); have e1 := Lib.hid (KK.out _ T1.out); clear hb)
            | (go_at_call 29; (with_reducible refine (cmp_t ((T3.out.box (w20.heap.size, s20, .slice a20 n20 c20, digs ((za * zc) : Int).natAbs) (List.mem_cons_of_mem _ List.mem_cons_self)).num E20.out) ((T3.out.box (w21.heap.size, s21, .slice a21 n21 c21, digs ((zb * zc) : Int).natAbs) List.mem_cons_self).num E21.out) H4.out).mono ?_); rintro e w4 ⟨rfl, hb⟩; have T4 := Lib.hid (T3.out.later hb); have e4 := Lib.hid (KK.out _ T4.out); clear hb)
            | (go_at_call 29; (with_reducible refine (cmp_t ((T2.out.box (w18.heap.size, s18, .slice a18 n18 c18, digs ((za + zc) : Int).natAbs) (List.mem_cons_of_mem _ (List.mem_cons_of_mem _ (List.mem_cons_of_mem _ List.mem_cons_self)))).num E18.out) ((T2.out.box (w19.heap.size, s19, .slice a19 n19 c19, digs ((zb + zc) : Int).natAbs) (List.mem_cons_of_mem _ (List.mem_cons_of_mem _ List.mem_cons_self))).num E19.out) H3.out).mono ?_); rintro e w3 ⟨rfl, hb⟩; have T3 := Lib.hid (T2.out.later hb); have e3 := Lib.hid (KK.out _ T3.out); clear hb)
            | (go_at_call 29; (with_reducible refine (cmp_t ((T1.out.box (w.heap.size + 1, sb, .slice ab nb cb, digs (zb : Int).natAbs) (List.mem_cons_of_mem _ (List.mem_cons_of_mem _ (List.mem_cons_of_mem _ (List.mem_cons_of_mem _ (List.mem_cons_of_mem _ (List.mem_cons_of_mem _ List.mem_cons_self))))))).num Eb.out) ((T1.out.box (w.heap.size, sa, .slice aa na ca, digs (za : Int).natAbs) (List.mem_cons_of_mem _ (List.mem_cons_of_mem _ (List.mem_cons_of_mem _ (List.mem_cons_of_mem _ (List.mem_cons_of_mem _ (List.mem_cons_of_mem _ (List.mem_cons_of_mem _ List.mem_cons_self)))))))).num Ea.out) H2.out).mono ?_); rintro e w2 ⟨rfl, hb⟩; have T2 := Lib.hid (T1.out.later hb); have e2 := Lib.hid (KK.out _ T2.out); clear hb)); (try dsimp only)))
        all_goals (go_wp2_with fail; go_meet; exact ⟨rfl, T4⟩)
      case inr.inl =>
        obtain rfl : sc = 0 := Ec.out.trans (by rw [hs]; rfl)
        have HS : Hid (zc.sign = 0) := Ec.out.symm
        clear hs
        have SD := Lib.hid S21.out.drew
        clear S21
        have K0 : ∀ W, Sq w [(w21.heap.size, s21, .slice a21 n21 c21, digs ((zb * zc) : Int).natAbs), (w20.heap.size, s20, .slice a20 n20 c20, digs ((za * zc) : Int).natAbs), (w19.heap.size, s19, .slice a19 n19 c19, digs ((zb + zc) : Int).natAbs), (w18.heap.size, s18, .slice a18 n18 c18, digs ((za + zc) : Int).natAbs), (w17.heap.size, (-1), .slice a17 n17 c17, digs ((za - zb) : Int).natAbs), (w.heap.size + 1 + 1, (0), .slice ac nc cc, digs (zc : Int).natAbs), (w.heap.size + 1, sb, .slice ab nb cb, digs (zb : Int).natAbs), (w.heap.size, sa, .slice aa na ca, digs (za : Int).natAbs)] W → W.cell? ⟨w.heap.size, 0, none⟩ = some (.int .i64 sa) ∧ W.cell? ⟨w.heap.size, 1, none⟩ = some (.slice aa na ca) ∧ W.cell? ⟨w.heap.size + 1, 0, none⟩ = some (.int .i64 sb) ∧ W.cell? ⟨w.heap.size + 1, 1, none⟩ = some (.slice ab nb cb) ∧ W.cell? ⟨w18.heap.size, 0, none⟩ = some (.int .i64 s18) ∧ W.cell? ⟨w18.heap.size, 1, none⟩ = some (.slice a18 n18 c18) ∧ W.cell? ⟨w19.heap.size, 0, none⟩ = some (.int .i64 s19) ∧ W.cell? ⟨w19.heap.size, 1, none⟩ = some (.slice a19 n19 c19) ∧ W.cell? ⟨w20.heap.size, 0, none⟩ = some (.int .i64 s20) ∧ W.cell? ⟨w20.heap.size, 1, none⟩ = some (.slice a20 n20 c20) ∧ W.cell? ⟨w21.heap.size, 0, none⟩ = some (.int .i64 s21) ∧ W.cell? ⟨w21.heap.size, 1, none⟩ = some (.slice a21 n21 c21) ∧ W.cell? ⟨w.heap.size + 1 + 1, 0, none⟩ = some (.int .i64 (0)) ∧ W.cell? ⟨w17.heap.size, 0, none⟩ = some (.int .i64 (-1)) := fun W h => ⟨(h.box (w.heap.size, sa, .slice aa na ca, digs (za : Int).natAbs) (List.mem_cons_of_mem _ (List.mem_cons_of_mem _ (List.mem_cons_of_mem _ (List.mem_cons_of_mem _ (List.mem_cons_of_mem _ (List.mem_cons_of_mem _ (List.mem_cons_of_mem _ List.mem_cons_self)))))))).cells.1, (h.box (w.heap.size, sa, .slice aa na ca, digs (za : Int).natAbs) (List.mem_cons_of_mem _ (List.mem_cons_of_mem _ (List.mem_cons_of_mem _ (List.mem_cons_of_mem _ (List.mem_cons_of_mem _ (List.mem_cons_of_mem _ (List.mem_cons_of_mem _ List.mem_cons_self)))))))).cells.2, (h.box (w.heap.size + 1, sb, .slice ab nb cb, digs (zb : Int).natAbs) (List.mem_cons_of_mem _ (List.mem_cons_of_mem _ (List.mem_cons_of_mem _ (List.mem_cons_of_mem _ (List.mem_cons_of_mem _ (List.mem_cons_of_mem _ List.mem_cons_self))))))).cells.1, (h.box (w.heap.size + 1, sb, .slice ab nb cb, digs (zb : Int).natAbs) (List.mem_cons_of_mem _ (List.mem_cons_of_mem _ (List.mem_cons_of_mem _ (List.mem_cons_of_mem _ (List.mem_cons_of_mem _ (List.mem_cons_of_mem _ List.mem_cons_self))))))).cells.2, (h.box (w18.heap.size, s18, .slice a18 n18 c18, digs ((za + zc) : Int).natAbs) (List.mem_cons_of_mem _ (List.mem_cons_of_mem _ (List.mem_cons_of_mem _ List.mem_cons_self)))).cells.1, (h.box (w18.heap.size, s18, .slice a18 n18 c18, digs ((za + zc) : Int).natAbs) (List.mem_cons_of_mem _ (List.mem_cons_of_mem _ (List.mem_cons_of_mem _ List.mem_cons_self)))).cells.2, (h.box (w19.heap.size, s19, .slice a19 n19 c19, digs ((zb + zc) : Int).natAbs) (List.mem_cons_of_mem _ (List.mem_cons_of_mem _ List.mem_cons_self))).cells.1, (h.box (w19.heap.size, s19, .slice a19 n19 c19, digs ((zb + zc) : Int).natAbs) (List.mem_cons_of_mem _ (List.mem_cons_of_mem _ List.mem_cons_self))).cells.2, (h.box (w20.heap.size, s20, .slice a20 n20 c20, digs ((za * zc) : Int).natAbs) (List.mem_cons_of_mem _ List.mem_cons_self)).cells.1, (h.box (w20.heap.size, s20, .slice a20 n20 c20, digs ((za * zc) : Int).natAbs) (List.mem_cons_of_mem _ List.mem_cons_self)).cells.2, (h.box (w21.heap.size, s21, .slice a21 n21 c21, digs ((zb * zc) : Int).natAbs) List.mem_cons_self).cells.1, (h.box (w21.heap.size, s21, .slice a21 n21 c21, digs ((zb * zc) : Int).natAbs) List.mem_cons_self).cells.2, (h.box (w.heap.size + 1 + 1, (0), .slice ac nc cc, digs (zc : Int).natAbs) (List.mem_cons_of_mem _ (List.mem_cons_of_mem _ (List.mem_cons_of_mem _ (List.mem_cons_of_mem _ (List.mem_cons_of_mem _ List.mem_cons_self)))))).cells.1, (h.box (w17.heap.size, (-1), .slice a17 n17 c17, digs ((za - zb) : Int).natAbs) (List.mem_cons_of_mem _ (List.mem_cons_of_mem _ (List.mem_cons_of_mem _ (List.mem_cons_of_mem _ List.mem_cons_self))))).cells.1⟩
        have KK := Lib.hid K0
        clear K0
        have e0 := Lib.hid (KK.out _ SD.out)
        have H1 : Hid (decide (za = zb) = false) := decide_eq_false (by have := HK.out; omega)
        have H2 : Hid (cmpI zb za = 1) := (cmpI_swap za zb).trans (by have := HC.out; omega)
        have H3 : Hid (cmpI (za + zc) (zb + zc) = -1) := (cmpI_add za zb zc).trans HC.out
        have H4 : Hid (cmpI (za * zc) (zb * zc) = 0) := (cmpI_mul za zb zc).trans (by rw [HC.out, HS.out]; rfl)
        go_region_held3 (fun W => W.cell? ⟨w.heap.size, 0, none⟩ = some (.int .i64 sa) ∧ W.cell? ⟨w.heap.size, 1, none⟩ = some (.slice aa na ca) ∧ W.cell? ⟨w.heap.size + 1, 0, none⟩ = some (.int .i64 sb) ∧ W.cell? ⟨w.heap.size + 1, 1, none⟩ = some (.slice ab nb cb) ∧ W.cell? ⟨w18.heap.size, 0, none⟩ = some (.int .i64 s18) ∧ W.cell? ⟨w18.heap.size, 1, none⟩ = some (.slice a18 n18 c18) ∧ W.cell? ⟨w19.heap.size, 0, none⟩ = some (.int .i64 s19) ∧ W.cell? ⟨w19.heap.size, 1, none⟩ = some (.slice a19 n19 c19) ∧ W.cell? ⟨w20.heap.size, 0, none⟩ = some (.int .i64 s20) ∧ W.cell? ⟨w20.heap.size, 1, none⟩ = some (.slice a20 n20 c20) ∧ W.cell? ⟨w21.heap.size, 0, none⟩ = some (.int .i64 s21) ∧ W.cell? ⟨w21.heap.size, 1, none⟩ = some (.slice a21 n21 c21) ∧ W.cell? ⟨w.heap.size + 1 + 1, 0, none⟩ = some (.int .i64 (0)) ∧ W.cell? ⟨w17.heap.size, 0, none⟩ = some (.int .i64 (-1)))
          (first | (with_reducible exact e0.out) | (with_reducible exact e1.out) | (with_reducible exact e2.out) | (with_reducible exact e3.out) | (with_reducible exact e4.out))
          (((first | go_at_call 31 | go_at_call 29 | (rw [if_pos (by rfl)]; go_simp)); (first
            | (go_at_call 31; (with_reducible refine (same_b ((SD.out.box (w.heap.size, sa, .slice aa na ca, digs (za : Int).natAbs) (List.mem_cons_of_mem _ (List.mem_cons_of_mem _ (List.mem_cons_of_mem _ (List.mem_cons_of_mem _ (List.mem_cons_of_mem _ (List.mem_cons_of_mem _ (List.mem_cons_of_mem _ List.mem_cons_self)))))))).num Ea.out) ((SD.out.box (w.heap.size + 1, sb, .slice ab nb cb, digs (zb : Int).natAbs) (List.mem_cons_of_mem _ (List.mem_cons_of_mem _ (List.mem_cons_of_mem _ (List.mem_cons_of_mem _ (List.mem_cons_of_mem _ (List.mem_cons_of_mem _ List.mem_cons_self))))))).num Eb.out) H1.out).mono ?_); rintro e w1 ⟨rfl, hb⟩; have T1 := Lib.hid (SD.out.later hb); have e1 := Lib.hid (KK.out _ T1.out); clear hb)
            | (go_at_call 29; (with_reducible refine (cmp_t ((T3.out.box (w20.heap.size, s20, .slice a20 n20 c20, digs ((za * zc) : Int).natAbs) (List.mem_cons_of_mem _ List.mem_cons_self)).num E20.out) ((T3.out.box (w21.heap.size, s21, .slice a21 n21 c21, digs ((zb * zc) : Int).natAbs) List.mem_cons_self).num E21.out) H4.out).mono ?_); rintro e w4 ⟨rfl, hb⟩; have T4 := Lib.hid (T3.out.later hb); have e4 := Lib.hid (KK.out _ T4.out); clear hb)
            | (go_at_call 29; (with_reducible refine (cmp_t ((T2.out.box (w18.heap.size, s18, .slice a18 n18 c18, digs ((za + zc) : Int).natAbs) (List.mem_cons_of_mem _ (List.mem_cons_of_mem _ (List.mem_cons_of_mem _ List.mem_cons_self)))).num E18.out) ((T2.out.box (w19.heap.size, s19, .slice a19 n19 c19, digs ((zb + zc) : Int).natAbs) (List.mem_cons_of_mem _ (List.mem_cons_of_mem _ List.mem_cons_self))).num E19.out) H3.out).mono ?_); rintro e w3 ⟨rfl, hb⟩; have T3 := Lib.hid (T2.out.later hb); have e3 := Lib.hid (KK.out _ T3.out); clear hb)
            | (go_at_call 29; (with_reducible refine (cmp_t ((T1.out.box (w.heap.size + 1, sb, .slice ab nb cb, digs (zb : Int).natAbs) (List.mem_cons_of_mem _ (List.mem_cons_of_mem _ (List.mem_cons_of_mem _ (List.mem_cons_of_mem _ (List.mem_cons_of_mem _ (List.mem_cons_of_mem _ List.mem_cons_self))))))).num Eb.out) ((T1.out.box (w.heap.size, sa, .slice aa na ca, digs (za : Int).natAbs) (List.mem_cons_of_mem _ (List.mem_cons_of_mem _ (List.mem_cons_of_mem _ (List.mem_cons_of_mem _ (List.mem_cons_of_mem _ (List.mem_cons_of_mem _ (List.mem_cons_of_mem _ List.mem_cons_self)))))))).num Ea.out) H2.out).mono ?_); rintro e w2 ⟨rfl, hb⟩; have T2 := Lib.hid (T1.out.later hb); have e2 := Lib.hid (KK.out _ T2.out); clear hb)); (try dsimp only)))
        all_goals (go_wp2_with fail; go_meet; exact ⟨rfl, T4⟩)
      case inr.inr =>
        obtain rfl : sc = 1 := Ec.out.trans (Int.sign_eq_one_of_pos hs)
        have HS : Hid (zc.sign = 1) := Ec.out.symm
        clear hs
        have SD := Lib.hid S21.out.drew
        clear S21
        have K0 : ∀ W, Sq w [(w21.heap.size, s21, .slice a21 n21 c21, digs ((zb * zc) : Int).natAbs), (w20.heap.size, s20, .slice a20 n20 c20, digs ((za * zc) : Int).natAbs), (w19.heap.size, s19, .slice a19 n19 c19, digs ((zb + zc) : Int).natAbs), (w18.heap.size, s18, .slice a18 n18 c18, digs ((za + zc) : Int).natAbs), (w17.heap.size, (-1), .slice a17 n17 c17, digs ((za - zb) : Int).natAbs), (w.heap.size + 1 + 1, (1), .slice ac nc cc, digs (zc : Int).natAbs), (w.heap.size + 1, sb, .slice ab nb cb, digs (zb : Int).natAbs), (w.heap.size, sa, .slice aa na ca, digs (za : Int).natAbs)] W → W.cell? ⟨w.heap.size, 0, none⟩ = some (.int .i64 sa) ∧ W.cell? ⟨w.heap.size, 1, none⟩ = some (.slice aa na ca) ∧ W.cell? ⟨w.heap.size + 1, 0, none⟩ = some (.int .i64 sb) ∧ W.cell? ⟨w.heap.size + 1, 1, none⟩ = some (.slice ab nb cb) ∧ W.cell? ⟨w18.heap.size, 0, none⟩ = some (.int .i64 s18) ∧ W.cell? ⟨w18.heap.size, 1, none⟩ = some (.slice a18 n18 c18) ∧ W.cell? ⟨w19.heap.size, 0, none⟩ = some (.int .i64 s19) ∧ W.cell? ⟨w19.heap.size, 1, none⟩ = some (.slice a19 n19 c19) ∧ W.cell? ⟨w20.heap.size, 0, none⟩ = some (.int .i64 s20) ∧ W.cell? ⟨w20.heap.size, 1, none⟩ = some (.slice a20 n20 c20) ∧ W.cell? ⟨w21.heap.size, 0, none⟩ = some (.int .i64 s21) ∧ W.cell? ⟨w21.heap.size, 1, none⟩ = some (.slice a21 n21 c21) ∧ W.cell? ⟨w.heap.size + 1 + 1, 0, none⟩ = some (.int .i64 (1)) ∧ W.cell? ⟨w17.heap.size, 0, none⟩ = some (.int .i64 (-1)) := fun W h => ⟨(h.box (w.heap.size, sa, .slice aa na ca, digs (za : Int).natAbs) (List.mem_cons_of_mem _ (List.mem_cons_of_mem _ (List.mem_cons_of_mem _ (List.mem_cons_of_mem _ (List.mem_cons_of_mem _ (List.mem_cons_of_mem _ (List.mem_cons_of_mem _ List.mem_cons_self)))))))).cells.1, (h.box (w.heap.size, sa, .slice aa na ca, digs (za : Int).natAbs) (List.mem_cons_of_mem _ (List.mem_cons_of_mem _ (List.mem_cons_of_mem _ (List.mem_cons_of_mem _ (List.mem_cons_of_mem _ (List.mem_cons_of_mem _ (List.mem_cons_of_mem _ List.mem_cons_self)))))))).cells.2, (h.box (w.heap.size + 1, sb, .slice ab nb cb, digs (zb : Int).natAbs) (List.mem_cons_of_mem _ (List.mem_cons_of_mem _ (List.mem_cons_of_mem _ (List.mem_cons_of_mem _ (List.mem_cons_of_mem _ (List.mem_cons_of_mem _ List.mem_cons_self))))))).cells.1, (h.box (w.heap.size + 1, sb, .slice ab nb cb, digs (zb : Int).natAbs) (List.mem_cons_of_mem _ (List.mem_cons_of_mem _ (List.mem_cons_of_mem _ (List.mem_cons_of_mem _ (List.mem_cons_of_mem _ (List.mem_cons_of_mem _ List.mem_cons_self))))))).cells.2, (h.box (w18.heap.size, s18, .slice a18 n18 c18, digs ((za + zc) : Int).natAbs) (List.mem_cons_of_mem _ (List.mem_cons_of_mem _ (List.mem_cons_of_mem _ List.mem_cons_self)))).cells.1, (h.box (w18.heap.size, s18, .slice a18 n18 c18, digs ((za + zc) : Int).natAbs) (List.mem_cons_of_mem _ (List.mem_cons_of_mem _ (List.mem_cons_of_mem _ List.mem_cons_self)))).cells.2, (h.box (w19.heap.size, s19, .slice a19 n19 c19, digs ((zb + zc) : Int).natAbs) (List.mem_cons_of_mem _ (List.mem_cons_of_mem _ List.mem_cons_self))).cells.1, (h.box (w19.heap.size, s19, .slice a19 n19 c19, digs ((zb + zc) : Int).natAbs) (List.mem_cons_of_mem _ (List.mem_cons_of_mem _ List.mem_cons_self))).cells.2, (h.box (w20.heap.size, s20, .slice a20 n20 c20, digs ((za * zc) : Int).natAbs) (List.mem_cons_of_mem _ List.mem_cons_self)).cells.1, (h.box (w20.heap.size, s20, .slice a20 n20 c20, digs ((za * zc) : Int).natAbs) (List.mem_cons_of_mem _ List.mem_cons_self)).cells.2, (h.box (w21.heap.size, s21, .slice a21 n21 c21, digs ((zb * zc) : Int).natAbs) List.mem_cons_self).cells.1, (h.box (w21.heap.size, s21, .slice a21 n21 c21, digs ((zb * zc) : Int).natAbs) List.mem_cons_self).cells.2, (h.box (w.heap.size + 1 + 1, (1), .slice ac nc cc, digs (zc : Int).natAbs) (List.mem_cons_of_mem _ (List.mem_cons_of_mem _ (List.mem_cons_of_mem _ (List.mem_cons_of_mem _ (List.mem_cons_of_mem _ List.mem_cons_self)))))).cells.1, (h.box (w17.heap.size, (-1), .slice a17 n17 c17, digs ((za - zb) : Int).natAbs) (List.mem_cons_of_mem _ (List.mem_cons_of_mem _ (List.mem_cons_of_mem _ (List.mem_cons_of_mem _ List.mem_cons_self))))).cells.1⟩
        have KK := Lib.hid K0
        clear K0
        have e0 := Lib.hid (KK.out _ SD.out)
        have H1 : Hid (decide (za = zb) = false) := decide_eq_false (by have := HK.out; omega)
        have H2 : Hid (cmpI zb za = 1) := (cmpI_swap za zb).trans (by have := HC.out; omega)
        have H3 : Hid (cmpI (za + zc) (zb + zc) = -1) := (cmpI_add za zb zc).trans HC.out
        have H4 : Hid (cmpI (za * zc) (zb * zc) = -1) := (cmpI_mul za zb zc).trans (by rw [HC.out, HS.out]; rfl)
        go_region_held3 (fun W => W.cell? ⟨w.heap.size, 0, none⟩ = some (.int .i64 sa) ∧ W.cell? ⟨w.heap.size, 1, none⟩ = some (.slice aa na ca) ∧ W.cell? ⟨w.heap.size + 1, 0, none⟩ = some (.int .i64 sb) ∧ W.cell? ⟨w.heap.size + 1, 1, none⟩ = some (.slice ab nb cb) ∧ W.cell? ⟨w18.heap.size, 0, none⟩ = some (.int .i64 s18) ∧ W.cell? ⟨w18.heap.size, 1, none⟩ = some (.slice a18 n18 c18) ∧ W.cell? ⟨w19.heap.size, 0, none⟩ = some (.int .i64 s19) ∧ W.cell? ⟨w19.heap.size, 1, none⟩ = some (.slice a19 n19 c19) ∧ W.cell? ⟨w20.heap.size, 0, none⟩ = some (.int .i64 s20) ∧ W.cell? ⟨w20.heap.size, 1, none⟩ = some (.slice a20 n20 c20) ∧ W.cell? ⟨w21.heap.size, 0, none⟩ = some (.int .i64 s21) ∧ W.cell? ⟨w21.heap.size, 1, none⟩ = some (.slice a21 n21 c21) ∧ W.cell? ⟨w.heap.size + 1 + 1, 0, none⟩ = some (.int .i64 (1)) ∧ W.cell? ⟨w17.heap.size, 0, none⟩ = some (.int .i64 (-1)))
          (first | (with_reducible exact e0.out) | (with_reducible exact e1.out) | (with_reducible exact e2.out) | (with_reducible exact e3.out) | (with_reducible exact e4.out))
          (((first | go_at_call 31 | go_at_call 29 | (rw [if_pos (by rfl)]; go_simp)); (first
            | (go_at_call 31; (with_reducible refine (same_b ((SD.out.box (w.heap.size, sa, .slice aa na ca, digs (za : Int).natAbs) (List.mem_cons_of_mem _ (List.mem_cons_of_mem _ (List.mem_cons_of_mem _ (List.mem_cons_of_mem _ (List.mem_cons_of_mem _ (List.mem_cons_of_mem _ (List.mem_cons_of_mem _ List.mem_cons_self)))))))).num Ea.out) ((SD.out.box (w.heap.size + 1, sb, .slice ab nb cb, digs (zb : Int).natAbs) (List.mem_cons_of_mem _ (List.mem_cons_of_mem _ (List.mem_cons_of_mem _ (List.mem_cons_of_mem _ (List.mem_cons_of_mem _ (List.mem_cons_of_mem _ List.mem_cons_self))))))).num Eb.out) H1.out).mono ?_); rintro e w1 ⟨rfl, hb⟩; have T1 := Lib.hid (SD.out.later hb); have e1 := Lib.hid (KK.out _ T1.out); clear hb)
            | (go_at_call 29; (with_reducible refine (cmp_t ((T3.out.box (w20.heap.size, s20, .slice a20 n20 c20, digs ((za * zc) : Int).natAbs) (List.mem_cons_of_mem _ List.mem_cons_self)).num E20.out) ((T3.out.box (w21.heap.size, s21, .slice a21 n21 c21, digs ((zb * zc) : Int).natAbs) List.mem_cons_self).num E21.out) H4.out).mono ?_); rintro e w4 ⟨rfl, hb⟩; have T4 := Lib.hid (T3.out.later hb); have e4 := Lib.hid (KK.out _ T4.out); clear hb)
            | (go_at_call 29; (with_reducible refine (cmp_t ((T2.out.box (w18.heap.size, s18, .slice a18 n18 c18, digs ((za + zc) : Int).natAbs) (List.mem_cons_of_mem _ (List.mem_cons_of_mem _ (List.mem_cons_of_mem _ List.mem_cons_self)))).num E18.out) ((T2.out.box (w19.heap.size, s19, .slice a19 n19 c19, digs ((zb + zc) : Int).natAbs) (List.mem_cons_of_mem _ (List.mem_cons_of_mem _ List.mem_cons_self))).num E19.out) H3.out).mono ?_); rintro e w3 ⟨rfl, hb⟩; have T3 := Lib.hid (T2.out.later hb); have e3 := Lib.hid (KK.out _ T3.out); clear hb)
            | (go_at_call 29; (with_reducible refine (cmp_t ((T1.out.box (w.heap.size + 1, sb, .slice ab nb cb, digs (zb : Int).natAbs) (List.mem_cons_of_mem _ (List.mem_cons_of_mem _ (List.mem_cons_of_mem _ (List.mem_cons_of_mem _ (List.mem_cons_of_mem _ (List.mem_cons_of_mem _ List.mem_cons_self))))))).num Eb.out) ((T1.out.box (w.heap.size, sa, .slice aa na ca, digs (za : Int).natAbs) (List.mem_cons_of_mem _ (List.mem_cons_of_mem _ (List.mem_cons_of_mem _ (List.mem_cons_of_mem _ (List.mem_cons_of_mem _ (List.mem_cons_of_mem _ (List.mem_cons_of_mem _ List.mem_cons_self)))))))).num Ea.out) H2.out).mono ?_); rintro e w2 ⟨rfl, hb⟩; have T2 := Lib.hid (T1.out.later hb); have e2 := Lib.hid (KK.out _ T2.out); clear hb)); (try dsimp only)))
        all_goals (go_wp2_with fail; go_meet; exact ⟨rfl, T4⟩)
    case rest =>
      obtain ⟨rfl, SW⟩ := hcut
      clear S21
      have hq := Int.lt_trichotomy zb zc
      rcases hq with hq | hq | hq
      case inl =>
        have HQ : Hid (zb < zc) := hq
        clear hq
        obtain ⟨t19, u19⟩ := (SW.out.box (w.heap.size + 1, sb, .slice ab nb cb, digs (zb : Int).natAbs) (List.mem_cons_of_mem _ (List.mem_cons_of_mem _ (List.mem_cons_of_mem _ (List.mem_cons_of_mem _ (List.mem_cons_of_mem _ (List.mem_cons_of_mem _ List.mem_cons_self))))))).cells
        obtain ⟨t20, u20⟩ := (SW.out.box (w.heap.size + 1 + 1, sc, .slice ac nc cc, digs (zc : Int).natAbs) (List.mem_cons_of_mem _ (List.mem_cons_of_mem _ (List.mem_cons_of_mem _ (List.mem_cons_of_mem _ (List.mem_cons_of_mem _ List.mem_cons_self)))))).cells
        go_wp2_with fail
        clear t19 u19 t20 u20
        refine (cmp_t (k := -1) ((SW.out.box (w.heap.size + 1, sb, .slice ab nb cb, digs (zb : Int).natAbs) (List.mem_cons_of_mem _ (List.mem_cons_of_mem _ (List.mem_cons_of_mem _ (List.mem_cons_of_mem _ (List.mem_cons_of_mem _ (List.mem_cons_of_mem _ List.mem_cons_self))))))).num Eb.out) ((SW.out.box (w.heap.size + 1 + 1, sc, .slice ac nc cc, digs (zc : Int).natAbs) (List.mem_cons_of_mem _ (List.mem_cons_of_mem _ (List.mem_cons_of_mem _ (List.mem_cons_of_mem _ (List.mem_cons_of_mem _ List.mem_cons_self)))))).num Ec.out) (cmpI_lt HQ.out)).mono ?_
        rintro e w22 ⟨rfl, hb⟩
        have S23 := Lib.hid (SW.out.later hb)
        clear SW
        clear hb
        obtain ⟨t21, u21⟩ := (S23.out.box (w.heap.size, sa, .slice aa na ca, digs (za : Int).natAbs) (List.mem_cons_of_mem _ (List.mem_cons_of_mem _ (List.mem_cons_of_mem _ (List.mem_cons_of_mem _ (List.mem_cons_of_mem _ (List.mem_cons_of_mem _ (List.mem_cons_of_mem _ List.mem_cons_self)))))))).cells
        obtain ⟨t22, u22⟩ := (S23.out.box (w.heap.size + 1 + 1, sc, .slice ac nc cc, digs (zc : Int).natAbs) (List.mem_cons_of_mem _ (List.mem_cons_of_mem _ (List.mem_cons_of_mem _ (List.mem_cons_of_mem _ (List.mem_cons_of_mem _ List.mem_cons_self)))))).cells
        go_wp2_with fail
        clear t21 u21 t22 u22
        refine (cmp_t (k := -1) ((S23.out.box (w.heap.size, sa, .slice aa na ca, digs (za : Int).natAbs) (List.mem_cons_of_mem _ (List.mem_cons_of_mem _ (List.mem_cons_of_mem _ (List.mem_cons_of_mem _ (List.mem_cons_of_mem _ (List.mem_cons_of_mem _ (List.mem_cons_of_mem _ List.mem_cons_self)))))))).num Ea.out) ((S23.out.box (w.heap.size + 1 + 1, sc, .slice ac nc cc, digs (zc : Int).natAbs) (List.mem_cons_of_mem _ (List.mem_cons_of_mem _ (List.mem_cons_of_mem _ (List.mem_cons_of_mem _ (List.mem_cons_of_mem _ List.mem_cons_self)))))).num Ec.out) (cmpI_lt (by have h1 := HK.out; have h2 := HQ.out; omega))).mono ?_
        rintro e w24 ⟨rfl, hb⟩
        have S25 := Lib.hid (S23.out.later hb)
        clear S23
        clear hb
        go_wp2_with fail
        go_ret
        exact ⟨rfl, S25.out.below⟩
      case inr.inl =>
        have HQ : Hid (zb = zc) := hq
        clear hq
        obtain ⟨t23, u23⟩ := (SW.out.box (w.heap.size + 1, sb, .slice ab nb cb, digs (zb : Int).natAbs) (List.mem_cons_of_mem _ (List.mem_cons_of_mem _ (List.mem_cons_of_mem _ (List.mem_cons_of_mem _ (List.mem_cons_of_mem _ (List.mem_cons_of_mem _ List.mem_cons_self))))))).cells
        obtain ⟨t24, u24⟩ := (SW.out.box (w.heap.size + 1 + 1, sc, .slice ac nc cc, digs (zc : Int).natAbs) (List.mem_cons_of_mem _ (List.mem_cons_of_mem _ (List.mem_cons_of_mem _ (List.mem_cons_of_mem _ (List.mem_cons_of_mem _ List.mem_cons_self)))))).cells
        go_wp2_with fail
        clear t23 u23 t24 u24
        refine (cmp_t (k := 0) ((SW.out.box (w.heap.size + 1, sb, .slice ab nb cb, digs (zb : Int).natAbs) (List.mem_cons_of_mem _ (List.mem_cons_of_mem _ (List.mem_cons_of_mem _ (List.mem_cons_of_mem _ (List.mem_cons_of_mem _ (List.mem_cons_of_mem _ List.mem_cons_self))))))).num Eb.out) ((SW.out.box (w.heap.size + 1 + 1, sc, .slice ac nc cc, digs (zc : Int).natAbs) (List.mem_cons_of_mem _ (List.mem_cons_of_mem _ (List.mem_cons_of_mem _ (List.mem_cons_of_mem _ (List.mem_cons_of_mem _ List.mem_cons_self)))))).num Ec.out) (by rw [HQ.out]; exact cmpI_eq _)).mono ?_
        rintro e w26 ⟨rfl, hb⟩
        have S27 := Lib.hid (SW.out.later hb)
        clear SW
        clear hb
        obtain ⟨t25, u25⟩ := (S27.out.box (w.heap.size, sa, .slice aa na ca, digs (za : Int).natAbs) (List.mem_cons_of_mem _ (List.mem_cons_of_mem _ (List.mem_cons_of_mem _ (List.mem_cons_of_mem _ (List.mem_cons_of_mem _ (List.mem_cons_of_mem _ (List.mem_cons_of_mem _ List.mem_cons_self)))))))).cells
        obtain ⟨t26, u26⟩ := (S27.out.box (w.heap.size + 1 + 1, sc, .slice ac nc cc, digs (zc : Int).natAbs) (List.mem_cons_of_mem _ (List.mem_cons_of_mem _ (List.mem_cons_of_mem _ (List.mem_cons_of_mem _ (List.mem_cons_of_mem _ List.mem_cons_self)))))).cells
        go_wp2_with fail
        clear t25 u25 t26 u26
        refine (cmp_t (k := -1) ((S27.out.box (w.heap.size, sa, .slice aa na ca, digs (za : Int).natAbs) (List.mem_cons_of_mem _ (List.mem_cons_of_mem _ (List.mem_cons_of_mem _ (List.mem_cons_of_mem _ (List.mem_cons_of_mem _ (List.mem_cons_of_mem _ (List.mem_cons_of_mem _ List.mem_cons_self)))))))).num Ea.out) ((S27.out.box (w.heap.size + 1 + 1, sc, .slice ac nc cc, digs (zc : Int).natAbs) (List.mem_cons_of_mem _ (List.mem_cons_of_mem _ (List.mem_cons_of_mem _ (List.mem_cons_of_mem _ (List.mem_cons_of_mem _ List.mem_cons_self)))))).num Ec.out) (cmpI_lt (by have h1 := HK.out; have h2 := HQ.out; omega))).mono ?_
        rintro e w28 ⟨rfl, hb⟩
        have S29 := Lib.hid (S27.out.later hb)
        clear S27
        clear hb
        go_wp2_with fail
        go_ret
        exact ⟨rfl, S29.out.below⟩
      case inr.inr =>
        have HQ : Hid (zc < zb) := hq
        clear hq
        obtain ⟨t27, u27⟩ := (SW.out.box (w.heap.size + 1, sb, .slice ab nb cb, digs (zb : Int).natAbs) (List.mem_cons_of_mem _ (List.mem_cons_of_mem _ (List.mem_cons_of_mem _ (List.mem_cons_of_mem _ (List.mem_cons_of_mem _ (List.mem_cons_of_mem _ List.mem_cons_self))))))).cells
        obtain ⟨t28, u28⟩ := (SW.out.box (w.heap.size + 1 + 1, sc, .slice ac nc cc, digs (zc : Int).natAbs) (List.mem_cons_of_mem _ (List.mem_cons_of_mem _ (List.mem_cons_of_mem _ (List.mem_cons_of_mem _ (List.mem_cons_of_mem _ List.mem_cons_self)))))).cells
        go_wp2_with fail
        clear t27 u27 t28 u28
        refine (cmp_t (k := 1) ((SW.out.box (w.heap.size + 1, sb, .slice ab nb cb, digs (zb : Int).natAbs) (List.mem_cons_of_mem _ (List.mem_cons_of_mem _ (List.mem_cons_of_mem _ (List.mem_cons_of_mem _ (List.mem_cons_of_mem _ (List.mem_cons_of_mem _ List.mem_cons_self))))))).num Eb.out) ((SW.out.box (w.heap.size + 1 + 1, sc, .slice ac nc cc, digs (zc : Int).natAbs) (List.mem_cons_of_mem _ (List.mem_cons_of_mem _ (List.mem_cons_of_mem _ (List.mem_cons_of_mem _ (List.mem_cons_of_mem _ List.mem_cons_self)))))).num Ec.out) (cmpI_gt HQ.out)).mono ?_
        rintro e w30 ⟨rfl, hb⟩
        have S31 := Lib.hid (SW.out.later hb)
        clear SW
        clear hb
        go_wp2_with fail
        go_ret
        exact ⟨rfl, S31.out.below⟩
  case inr.inl =>
    have HC : Hid (cmpI za zb = 0) := by rw [hk]; exact cmpI_eq _
    have HK : Hid (za = zb) := hk
    clear hk
    obtain ⟨t29, u29⟩ := (S14.out.box (w.heap.size, sa, .slice aa na ca, digs (za : Int).natAbs) (List.mem_cons_of_mem _ (List.mem_cons_of_mem _ List.mem_cons_self))).cells
    obtain ⟨t30, u30⟩ := (S14.out.box (w.heap.size + 1, sb, .slice ab nb cb, digs (zb : Int).natAbs) (List.mem_cons_of_mem _ List.mem_cons_self)).cells
    go_wp2_with fail
    clear t29 u29 t30 u30
    refine (cmp_t ((S14.out.box (w.heap.size, sa, .slice aa na ca, digs (za : Int).natAbs) (List.mem_cons_of_mem _ (List.mem_cons_of_mem _ List.mem_cons_self))).num Ea.out) ((S14.out.box (w.heap.size + 1, sb, .slice ab nb cb, digs (zb : Int).natAbs) (List.mem_cons_of_mem _ List.mem_cons_self)).num Eb.out) HC.out).mono ?_
    rintro e w32 ⟨rfl, hb⟩
    have S33 := Lib.hid (S14.out.later hb)
    clear S14
    clear hb
    obtain ⟨t31, u31⟩ := (S33.out.box (w.heap.size, sa, .slice aa na ca, digs (za : Int).natAbs) (List.mem_cons_of_mem _ (List.mem_cons_of_mem _ List.mem_cons_self))).cells
    obtain ⟨t32, u32⟩ := (S33.out.box (w.heap.size + 1, sb, .slice ab nb cb, digs (zb : Int).natAbs) (List.mem_cons_of_mem _ List.mem_cons_self)).cells
    go_wp2_with fail
    clear t31 u31 t32 u32
    refine (sub_k ((S33.out.box (w.heap.size, sa, .slice aa na ca, digs (za : Int).natAbs) (List.mem_cons_of_mem _ (List.mem_cons_of_mem _ List.mem_cons_self))).num Ea.out) ((S33.out.box (w.heap.size + 1, sb, .slice ab nb cb, digs (zb : Int).natAbs) (List.mem_cons_of_mem _ List.mem_cons_self)).num Eb.out) (Sz.len Za.out) (Sz.len Zb.out)).mono ?_
    rintro e w34 ⟨s34, a34, n34, c34, rfl, hn, hb, hf⟩
    have S34 := Lib.hid (S33.out.ret (sg := s34) hb hn.2 hf)
    have E34 := Lib.hid hn.1
    clear hn hb hf S33
    obtain ⟨t33, u33⟩ := (S34.out.box (w.heap.size, sa, .slice aa na ca, digs (za : Int).natAbs) (List.mem_cons_of_mem _ (List.mem_cons_of_mem _ (List.mem_cons_of_mem _ List.mem_cons_self)))).cells
    obtain ⟨t34, u34⟩ := (S34.out.box (w.heap.size + 1 + 1, sc, .slice ac nc cc, digs (zc : Int).natAbs) (List.mem_cons_of_mem _ List.mem_cons_self)).cells
    go_wp2_with fail
    clear t33 u33 t34 u34
    refine (add_k ((S34.out.box (w.heap.size, sa, .slice aa na ca, digs (za : Int).natAbs) (List.mem_cons_of_mem _ (List.mem_cons_of_mem _ (List.mem_cons_of_mem _ List.mem_cons_self)))).num Ea.out) ((S34.out.box (w.heap.size + 1 + 1, sc, .slice ac nc cc, digs (zc : Int).natAbs) (List.mem_cons_of_mem _ List.mem_cons_self)).num Ec.out) (Sz.len Za.out) (Sz.len Zc.out)).mono ?_
    rintro e w35 ⟨s35, a35, n35, c35, rfl, hn, hb, hf⟩
    have S35 := Lib.hid (S34.out.ret (sg := s35) hb hn.2 hf)
    have E35 := Lib.hid hn.1
    clear hn hb hf S34
    obtain ⟨t35, u35⟩ := (S35.out.box (w.heap.size + 1, sb, .slice ab nb cb, digs (zb : Int).natAbs) (List.mem_cons_of_mem _ (List.mem_cons_of_mem _ (List.mem_cons_of_mem _ List.mem_cons_self)))).cells
    obtain ⟨t36, u36⟩ := (S35.out.box (w.heap.size + 1 + 1, sc, .slice ac nc cc, digs (zc : Int).natAbs) (List.mem_cons_of_mem _ (List.mem_cons_of_mem _ List.mem_cons_self))).cells
    go_wp2_with fail
    clear t35 u35 t36 u36
    refine (add_k ((S35.out.box (w.heap.size + 1, sb, .slice ab nb cb, digs (zb : Int).natAbs) (List.mem_cons_of_mem _ (List.mem_cons_of_mem _ (List.mem_cons_of_mem _ List.mem_cons_self)))).num Eb.out) ((S35.out.box (w.heap.size + 1 + 1, sc, .slice ac nc cc, digs (zc : Int).natAbs) (List.mem_cons_of_mem _ (List.mem_cons_of_mem _ List.mem_cons_self))).num Ec.out) (Sz.len Zb.out) (Sz.len Zc.out)).mono ?_
    rintro e w36 ⟨s36, a36, n36, c36, rfl, hn, hb, hf⟩
    have S36 := Lib.hid (S35.out.ret (sg := s36) hb hn.2 hf)
    have E36 := Lib.hid hn.1
    clear hn hb hf S35
    obtain ⟨t37, u37⟩ := (S36.out.box (w.heap.size, sa, .slice aa na ca, digs (za : Int).natAbs) (List.mem_cons_of_mem _ (List.mem_cons_of_mem _ (List.mem_cons_of_mem _ (List.mem_cons_of_mem _ (List.mem_cons_of_mem _ List.mem_cons_self)))))).cells
    obtain ⟨t38, u38⟩ := (S36.out.box (w.heap.size + 1 + 1, sc, .slice ac nc cc, digs (zc : Int).natAbs) (List.mem_cons_of_mem _ (List.mem_cons_of_mem _ (List.mem_cons_of_mem _ List.mem_cons_self)))).cells
    go_wp2_with fail
    clear t37 u37 t38 u38
    refine (mul_k ((S36.out.box (w.heap.size, sa, .slice aa na ca, digs (za : Int).natAbs) (List.mem_cons_of_mem _ (List.mem_cons_of_mem _ (List.mem_cons_of_mem _ (List.mem_cons_of_mem _ (List.mem_cons_of_mem _ List.mem_cons_self)))))).num Ea.out) ((S36.out.box (w.heap.size + 1 + 1, sc, .slice ac nc cc, digs (zc : Int).natAbs) (List.mem_cons_of_mem _ (List.mem_cons_of_mem _ (List.mem_cons_of_mem _ List.mem_cons_self)))).num Ec.out) (Sz.len Za.out) (Sz.len Zc.out)).mono ?_
    rintro e w37 ⟨s37, a37, n37, c37, rfl, hn, hb, hf⟩
    have S37 := Lib.hid (S36.out.ret (sg := s37) hb hn.2 hf)
    have E37 := Lib.hid hn.1
    clear hn hb hf S36
    obtain ⟨t39, u39⟩ := (S37.out.box (w.heap.size + 1, sb, .slice ab nb cb, digs (zb : Int).natAbs) (List.mem_cons_of_mem _ (List.mem_cons_of_mem _ (List.mem_cons_of_mem _ (List.mem_cons_of_mem _ (List.mem_cons_of_mem _ List.mem_cons_self)))))).cells
    obtain ⟨t40, u40⟩ := (S37.out.box (w.heap.size + 1 + 1, sc, .slice ac nc cc, digs (zc : Int).natAbs) (List.mem_cons_of_mem _ (List.mem_cons_of_mem _ (List.mem_cons_of_mem _ (List.mem_cons_of_mem _ List.mem_cons_self))))).cells
    go_wp2_with fail
    clear t39 u39 t40 u40
    refine (mul_k ((S37.out.box (w.heap.size + 1, sb, .slice ab nb cb, digs (zb : Int).natAbs) (List.mem_cons_of_mem _ (List.mem_cons_of_mem _ (List.mem_cons_of_mem _ (List.mem_cons_of_mem _ (List.mem_cons_of_mem _ List.mem_cons_self)))))).num Eb.out) ((S37.out.box (w.heap.size + 1 + 1, sc, .slice ac nc cc, digs (zc : Int).natAbs) (List.mem_cons_of_mem _ (List.mem_cons_of_mem _ (List.mem_cons_of_mem _ (List.mem_cons_of_mem _ List.mem_cons_self))))).num Ec.out) (Sz.len Zb.out) (Sz.len Zc.out)).mono ?_
    rintro e w38 ⟨s38, a38, n38, c38, rfl, hn, hb, hf⟩
    have S38 := Lib.hid (S37.out.ret (sg := s38) hb hn.2 hf)
    have E38 := Lib.hid hn.1
    clear hn hb hf S37
    obtain rfl : s34 = 0 := E34.out.trans ((cmpI_subs za zb).trans HC.out)
    go_upto_region 12 with fail
    go_cut [136] from 100 to 136 (fun u wx => u = .bool false ∧ Hid (Sq w [(w38.heap.size, s38, .slice a38 n38 c38, digs ((zb * zc) : Int).natAbs), (w37.heap.size, s37, .slice a37 n37 c37, digs ((za * zc) : Int).natAbs), (w36.heap.size, s36, .slice a36 n36 c36, digs ((zb + zc) : Int).natAbs), (w35.heap.size, s35, .slice a35 n35 c35, digs ((za + zc) : Int).natAbs), (w34.heap.size, (0), .slice a34 n34 c34, digs ((za - zb) : Int).natAbs), (w.heap.size + 1 + 1, sc, .slice ac nc cc, digs (zc : Int).natAbs), (w.heap.size + 1, sb, .slice ab nb cb, digs (zb : Int).natAbs), (w.heap.size, sa, .slice aa na ca, digs (za : Int).natAbs)] wx))
    case first =>
      have hs := Int.lt_trichotomy zc 0
      rcases hs with hs | hs | hs
      case inl =>
        obtain rfl : sc = -1 := Ec.out.trans (Int.sign_eq_neg_one_of_neg hs)
        have HS : Hid (zc.sign = -1) := Ec.out.symm
        clear hs
        have SD := Lib.hid S38.out.drew
        clear S38
        have K0 : ∀ W, Sq w [(w38.heap.size, s38, .slice a38 n38 c38, digs ((zb * zc) : Int).natAbs), (w37.heap.size, s37, .slice a37 n37 c37, digs ((za * zc) : Int).natAbs), (w36.heap.size, s36, .slice a36 n36 c36, digs ((zb + zc) : Int).natAbs), (w35.heap.size, s35, .slice a35 n35 c35, digs ((za + zc) : Int).natAbs), (w34.heap.size, (0), .slice a34 n34 c34, digs ((za - zb) : Int).natAbs), (w.heap.size + 1 + 1, (-1), .slice ac nc cc, digs (zc : Int).natAbs), (w.heap.size + 1, sb, .slice ab nb cb, digs (zb : Int).natAbs), (w.heap.size, sa, .slice aa na ca, digs (za : Int).natAbs)] W → W.cell? ⟨w.heap.size, 0, none⟩ = some (.int .i64 sa) ∧ W.cell? ⟨w.heap.size, 1, none⟩ = some (.slice aa na ca) ∧ W.cell? ⟨w.heap.size + 1, 0, none⟩ = some (.int .i64 sb) ∧ W.cell? ⟨w.heap.size + 1, 1, none⟩ = some (.slice ab nb cb) ∧ W.cell? ⟨w35.heap.size, 0, none⟩ = some (.int .i64 s35) ∧ W.cell? ⟨w35.heap.size, 1, none⟩ = some (.slice a35 n35 c35) ∧ W.cell? ⟨w36.heap.size, 0, none⟩ = some (.int .i64 s36) ∧ W.cell? ⟨w36.heap.size, 1, none⟩ = some (.slice a36 n36 c36) ∧ W.cell? ⟨w37.heap.size, 0, none⟩ = some (.int .i64 s37) ∧ W.cell? ⟨w37.heap.size, 1, none⟩ = some (.slice a37 n37 c37) ∧ W.cell? ⟨w38.heap.size, 0, none⟩ = some (.int .i64 s38) ∧ W.cell? ⟨w38.heap.size, 1, none⟩ = some (.slice a38 n38 c38) ∧ W.cell? ⟨w.heap.size + 1 + 1, 0, none⟩ = some (.int .i64 (-1)) ∧ W.cell? ⟨w34.heap.size, 0, none⟩ = some (.int .i64 (0)) := fun W h => ⟨(h.box (w.heap.size, sa, .slice aa na ca, digs (za : Int).natAbs) (List.mem_cons_of_mem _ (List.mem_cons_of_mem _ (List.mem_cons_of_mem _ (List.mem_cons_of_mem _ (List.mem_cons_of_mem _ (List.mem_cons_of_mem _ (List.mem_cons_of_mem _ List.mem_cons_self)))))))).cells.1, (h.box (w.heap.size, sa, .slice aa na ca, digs (za : Int).natAbs) (List.mem_cons_of_mem _ (List.mem_cons_of_mem _ (List.mem_cons_of_mem _ (List.mem_cons_of_mem _ (List.mem_cons_of_mem _ (List.mem_cons_of_mem _ (List.mem_cons_of_mem _ List.mem_cons_self)))))))).cells.2, (h.box (w.heap.size + 1, sb, .slice ab nb cb, digs (zb : Int).natAbs) (List.mem_cons_of_mem _ (List.mem_cons_of_mem _ (List.mem_cons_of_mem _ (List.mem_cons_of_mem _ (List.mem_cons_of_mem _ (List.mem_cons_of_mem _ List.mem_cons_self))))))).cells.1, (h.box (w.heap.size + 1, sb, .slice ab nb cb, digs (zb : Int).natAbs) (List.mem_cons_of_mem _ (List.mem_cons_of_mem _ (List.mem_cons_of_mem _ (List.mem_cons_of_mem _ (List.mem_cons_of_mem _ (List.mem_cons_of_mem _ List.mem_cons_self))))))).cells.2, (h.box (w35.heap.size, s35, .slice a35 n35 c35, digs ((za + zc) : Int).natAbs) (List.mem_cons_of_mem _ (List.mem_cons_of_mem _ (List.mem_cons_of_mem _ List.mem_cons_self)))).cells.1, (h.box (w35.heap.size, s35, .slice a35 n35 c35, digs ((za + zc) : Int).natAbs) (List.mem_cons_of_mem _ (List.mem_cons_of_mem _ (List.mem_cons_of_mem _ List.mem_cons_self)))).cells.2, (h.box (w36.heap.size, s36, .slice a36 n36 c36, digs ((zb + zc) : Int).natAbs) (List.mem_cons_of_mem _ (List.mem_cons_of_mem _ List.mem_cons_self))).cells.1, (h.box (w36.heap.size, s36, .slice a36 n36 c36, digs ((zb + zc) : Int).natAbs) (List.mem_cons_of_mem _ (List.mem_cons_of_mem _ List.mem_cons_self))).cells.2, (h.box (w37.heap.size, s37, .slice a37 n37 c37, digs ((za * zc) : Int).natAbs) (List.mem_cons_of_mem _ List.mem_cons_self)).cells.1, (h.box (w37.heap.size, s37, .slice a37 n37 c37, digs ((za * zc) : Int).natAbs) (List.mem_cons_of_mem _ List.mem_cons_self)).cells.2, (h.box (w38.heap.size, s38, .slice a38 n38 c38, digs ((zb * zc) : Int).natAbs) List.mem_cons_self).cells.1, (h.box (w38.heap.size, s38, .slice a38 n38 c38, digs ((zb * zc) : Int).natAbs) List.mem_cons_self).cells.2, (h.box (w.heap.size + 1 + 1, (-1), .slice ac nc cc, digs (zc : Int).natAbs) (List.mem_cons_of_mem _ (List.mem_cons_of_mem _ (List.mem_cons_of_mem _ (List.mem_cons_of_mem _ (List.mem_cons_of_mem _ List.mem_cons_self)))))).cells.1, (h.box (w34.heap.size, (0), .slice a34 n34 c34, digs ((za - zb) : Int).natAbs) (List.mem_cons_of_mem _ (List.mem_cons_of_mem _ (List.mem_cons_of_mem _ (List.mem_cons_of_mem _ List.mem_cons_self))))).cells.1⟩
        have KK := Lib.hid K0
        clear K0
        have e0 := Lib.hid (KK.out _ SD.out)
        have H1 : Hid (decide (za = zb) = true) := decide_eq_true HK.out
        have H2 : Hid (cmpI zb za = 0) := (cmpI_swap za zb).trans (by have := HC.out; omega)
        have H3 : Hid (cmpI (za + zc) (zb + zc) = 0) := (cmpI_add za zb zc).trans HC.out
        have H4 : Hid (cmpI (za * zc) (zb * zc) = 0) := (cmpI_mul za zb zc).trans (by rw [HC.out, HS.out]; rfl)
        go_region_held3 (fun W => W.cell? ⟨w.heap.size, 0, none⟩ = some (.int .i64 sa) ∧ W.cell? ⟨w.heap.size, 1, none⟩ = some (.slice aa na ca) ∧ W.cell? ⟨w.heap.size + 1, 0, none⟩ = some (.int .i64 sb) ∧ W.cell? ⟨w.heap.size + 1, 1, none⟩ = some (.slice ab nb cb) ∧ W.cell? ⟨w35.heap.size, 0, none⟩ = some (.int .i64 s35) ∧ W.cell? ⟨w35.heap.size, 1, none⟩ = some (.slice a35 n35 c35) ∧ W.cell? ⟨w36.heap.size, 0, none⟩ = some (.int .i64 s36) ∧ W.cell? ⟨w36.heap.size, 1, none⟩ = some (.slice a36 n36 c36) ∧ W.cell? ⟨w37.heap.size, 0, none⟩ = some (.int .i64 s37) ∧ W.cell? ⟨w37.heap.size, 1, none⟩ = some (.slice a37 n37 c37) ∧ W.cell? ⟨w38.heap.size, 0, none⟩ = some (.int .i64 s38) ∧ W.cell? ⟨w38.heap.size, 1, none⟩ = some (.slice a38 n38 c38) ∧ W.cell? ⟨w.heap.size + 1 + 1, 0, none⟩ = some (.int .i64 (-1)) ∧ W.cell? ⟨w34.heap.size, 0, none⟩ = some (.int .i64 (0)))
          (first | (with_reducible exact e0.out) | (with_reducible exact e1.out) | (with_reducible exact e2.out) | (with_reducible exact e3.out) | (with_reducible exact e4.out))
          (((first | go_at_call 31 | go_at_call 29 | (rw [if_pos (by rfl)]; go_simp)); (first
            | (go_at_call 31; (with_reducible refine (same_b ((SD.out.box (w.heap.size, sa, .slice aa na ca, digs (za : Int).natAbs) (List.mem_cons_of_mem _ (List.mem_cons_of_mem _ (List.mem_cons_of_mem _ (List.mem_cons_of_mem _ (List.mem_cons_of_mem _ (List.mem_cons_of_mem _ (List.mem_cons_of_mem _ List.mem_cons_self)))))))).num Ea.out) ((SD.out.box (w.heap.size + 1, sb, .slice ab nb cb, digs (zb : Int).natAbs) (List.mem_cons_of_mem _ (List.mem_cons_of_mem _ (List.mem_cons_of_mem _ (List.mem_cons_of_mem _ (List.mem_cons_of_mem _ (List.mem_cons_of_mem _ List.mem_cons_self))))))).num Eb.out) H1.out).mono ?_); rintro e w1 ⟨rfl, hb⟩; have T1 := Lib.hid (SD.out.later hb); have e1 := Lib.hid (KK.out _ T1.out); clear hb)
            | (go_at_call 29; (with_reducible refine (cmp_t ((T3.out.box (w37.heap.size, s37, .slice a37 n37 c37, digs ((za * zc) : Int).natAbs) (List.mem_cons_of_mem _ List.mem_cons_self)).num E37.out) ((T3.out.box (w38.heap.size, s38, .slice a38 n38 c38, digs ((zb * zc) : Int).natAbs) List.mem_cons_self).num E38.out) H4.out).mono ?_); rintro e w4 ⟨rfl, hb⟩; have T4 := Lib.hid (T3.out.later hb); have e4 := Lib.hid (KK.out _ T4.out); clear hb)
            | (go_at_call 29; (with_reducible refine (cmp_t ((T2.out.box (w35.heap.size, s35, .slice a35 n35 c35, digs ((za + zc) : Int).natAbs) (List.mem_cons_of_mem _ (List.mem_cons_of_mem _ (List.mem_cons_of_mem _ List.mem_cons_self)))).num E35.out) ((T2.out.box (w36.heap.size, s36, .slice a36 n36 c36, digs ((zb + zc) : Int).natAbs) (List.mem_cons_of_mem _ (List.mem_cons_of_mem _ List.mem_cons_self))).num E36.out) H3.out).mono ?_); rintro e w3 ⟨rfl, hb⟩; have T3 := Lib.hid (T2.out.later hb); have e3 := Lib.hid (KK.out _ T3.out); clear hb)
            | (go_at_call 29; (with_reducible refine (cmp_t ((T1.out.box (w.heap.size + 1, sb, .slice ab nb cb, digs (zb : Int).natAbs) (List.mem_cons_of_mem _ (List.mem_cons_of_mem _ (List.mem_cons_of_mem _ (List.mem_cons_of_mem _ (List.mem_cons_of_mem _ (List.mem_cons_of_mem _ List.mem_cons_self))))))).num Eb.out) ((T1.out.box (w.heap.size, sa, .slice aa na ca, digs (za : Int).natAbs) (List.mem_cons_of_mem _ (List.mem_cons_of_mem _ (List.mem_cons_of_mem _ (List.mem_cons_of_mem _ (List.mem_cons_of_mem _ (List.mem_cons_of_mem _ (List.mem_cons_of_mem _ List.mem_cons_self)))))))).num Ea.out) H2.out).mono ?_); rintro e w2 ⟨rfl, hb⟩; have T2 := Lib.hid (T1.out.later hb); have e2 := Lib.hid (KK.out _ T2.out); clear hb)); (try dsimp only)))
        all_goals (go_wp2_with fail; go_meet; exact ⟨rfl, T4⟩)
      case inr.inl =>
        obtain rfl : sc = 0 := Ec.out.trans (by rw [hs]; rfl)
        have HS : Hid (zc.sign = 0) := Ec.out.symm
        clear hs
        have SD := Lib.hid S38.out.drew
        clear S38
        have K0 : ∀ W, Sq w [(w38.heap.size, s38, .slice a38 n38 c38, digs ((zb * zc) : Int).natAbs), (w37.heap.size, s37, .slice a37 n37 c37, digs ((za * zc) : Int).natAbs), (w36.heap.size, s36, .slice a36 n36 c36, digs ((zb + zc) : Int).natAbs), (w35.heap.size, s35, .slice a35 n35 c35, digs ((za + zc) : Int).natAbs), (w34.heap.size, (0), .slice a34 n34 c34, digs ((za - zb) : Int).natAbs), (w.heap.size + 1 + 1, (0), .slice ac nc cc, digs (zc : Int).natAbs), (w.heap.size + 1, sb, .slice ab nb cb, digs (zb : Int).natAbs), (w.heap.size, sa, .slice aa na ca, digs (za : Int).natAbs)] W → W.cell? ⟨w.heap.size, 0, none⟩ = some (.int .i64 sa) ∧ W.cell? ⟨w.heap.size, 1, none⟩ = some (.slice aa na ca) ∧ W.cell? ⟨w.heap.size + 1, 0, none⟩ = some (.int .i64 sb) ∧ W.cell? ⟨w.heap.size + 1, 1, none⟩ = some (.slice ab nb cb) ∧ W.cell? ⟨w35.heap.size, 0, none⟩ = some (.int .i64 s35) ∧ W.cell? ⟨w35.heap.size, 1, none⟩ = some (.slice a35 n35 c35) ∧ W.cell? ⟨w36.heap.size, 0, none⟩ = some (.int .i64 s36) ∧ W.cell? ⟨w36.heap.size, 1, none⟩ = some (.slice a36 n36 c36) ∧ W.cell? ⟨w37.heap.size, 0, none⟩ = some (.int .i64 s37) ∧ W.cell? ⟨w37.heap.size, 1, none⟩ = some (.slice a37 n37 c37) ∧ W.cell? ⟨w38.heap.size, 0, none⟩ = some (.int .i64 s38) ∧ W.cell? ⟨w38.heap.size, 1, none⟩ = some (.slice a38 n38 c38) ∧ W.cell? ⟨w.heap.size + 1 + 1, 0, none⟩ = some (.int .i64 (0)) ∧ W.cell? ⟨w34.heap.size, 0, none⟩ = some (.int .i64 (0)) := fun W h => ⟨(h.box (w.heap.size, sa, .slice aa na ca, digs (za : Int).natAbs) (List.mem_cons_of_mem _ (List.mem_cons_of_mem _ (List.mem_cons_of_mem _ (List.mem_cons_of_mem _ (List.mem_cons_of_mem _ (List.mem_cons_of_mem _ (List.mem_cons_of_mem _ List.mem_cons_self)))))))).cells.1, (h.box (w.heap.size, sa, .slice aa na ca, digs (za : Int).natAbs) (List.mem_cons_of_mem _ (List.mem_cons_of_mem _ (List.mem_cons_of_mem _ (List.mem_cons_of_mem _ (List.mem_cons_of_mem _ (List.mem_cons_of_mem _ (List.mem_cons_of_mem _ List.mem_cons_self)))))))).cells.2, (h.box (w.heap.size + 1, sb, .slice ab nb cb, digs (zb : Int).natAbs) (List.mem_cons_of_mem _ (List.mem_cons_of_mem _ (List.mem_cons_of_mem _ (List.mem_cons_of_mem _ (List.mem_cons_of_mem _ (List.mem_cons_of_mem _ List.mem_cons_self))))))).cells.1, (h.box (w.heap.size + 1, sb, .slice ab nb cb, digs (zb : Int).natAbs) (List.mem_cons_of_mem _ (List.mem_cons_of_mem _ (List.mem_cons_of_mem _ (List.mem_cons_of_mem _ (List.mem_cons_of_mem _ (List.mem_cons_of_mem _ List.mem_cons_self))))))).cells.2, (h.box (w35.heap.size, s35, .slice a35 n35 c35, digs ((za + zc) : Int).natAbs) (List.mem_cons_of_mem _ (List.mem_cons_of_mem _ (List.mem_cons_of_mem _ List.mem_cons_self)))).cells.1, (h.box (w35.heap.size, s35, .slice a35 n35 c35, digs ((za + zc) : Int).natAbs) (List.mem_cons_of_mem _ (List.mem_cons_of_mem _ (List.mem_cons_of_mem _ List.mem_cons_self)))).cells.2, (h.box (w36.heap.size, s36, .slice a36 n36 c36, digs ((zb + zc) : Int).natAbs) (List.mem_cons_of_mem _ (List.mem_cons_of_mem _ List.mem_cons_self))).cells.1, (h.box (w36.heap.size, s36, .slice a36 n36 c36, digs ((zb + zc) : Int).natAbs) (List.mem_cons_of_mem _ (List.mem_cons_of_mem _ List.mem_cons_self))).cells.2, (h.box (w37.heap.size, s37, .slice a37 n37 c37, digs ((za * zc) : Int).natAbs) (List.mem_cons_of_mem _ List.mem_cons_self)).cells.1, (h.box (w37.heap.size, s37, .slice a37 n37 c37, digs ((za * zc) : Int).natAbs) (List.mem_cons_of_mem _ List.mem_cons_self)).cells.2, (h.box (w38.heap.size, s38, .slice a38 n38 c38, digs ((zb * zc) : Int).natAbs) List.mem_cons_self).cells.1, (h.box (w38.heap.size, s38, .slice a38 n38 c38, digs ((zb * zc) : Int).natAbs) List.mem_cons_self).cells.2, (h.box (w.heap.size + 1 + 1, (0), .slice ac nc cc, digs (zc : Int).natAbs) (List.mem_cons_of_mem _ (List.mem_cons_of_mem _ (List.mem_cons_of_mem _ (List.mem_cons_of_mem _ (List.mem_cons_of_mem _ List.mem_cons_self)))))).cells.1, (h.box (w34.heap.size, (0), .slice a34 n34 c34, digs ((za - zb) : Int).natAbs) (List.mem_cons_of_mem _ (List.mem_cons_of_mem _ (List.mem_cons_of_mem _ (List.mem_cons_of_mem _ List.mem_cons_self))))).cells.1⟩
        have KK := Lib.hid K0
        clear K0
        have e0 := Lib.hid (KK.out _ SD.out)
        have H1 : Hid (decide (za = zb) = true) := decide_eq_true HK.out
        have H2 : Hid (cmpI zb za = 0) := (cmpI_swap za zb).trans (by have := HC.out; omega)
        have H3 : Hid (cmpI (za + zc) (zb + zc) = 0) := (cmpI_add za zb zc).trans HC.out
        have H4 : Hid (cmpI (za * zc) (zb * zc) = 0) := (cmpI_mul za zb zc).trans (by rw [HC.out, HS.out]; rfl)
        go_region_held3 (fun W => W.cell? ⟨w.heap.size, 0, none⟩ = some (.int .i64 sa) ∧ W.cell? ⟨w.heap.size, 1, none⟩ = some (.slice aa na ca) ∧ W.cell? ⟨w.heap.size + 1, 0, none⟩ = some (.int .i64 sb) ∧ W.cell? ⟨w.heap.size + 1, 1, none⟩ = some (.slice ab nb cb) ∧ W.cell? ⟨w35.heap.size, 0, none⟩ = some (.int .i64 s35) ∧ W.cell? ⟨w35.heap.size, 1, none⟩ = some (.slice a35 n35 c35) ∧ W.cell? ⟨w36.heap.size, 0, none⟩ = some (.int .i64 s36) ∧ W.cell? ⟨w36.heap.size, 1, none⟩ = some (.slice a36 n36 c36) ∧ W.cell? ⟨w37.heap.size, 0, none⟩ = some (.int .i64 s37) ∧ W.cell? ⟨w37.heap.size, 1, none⟩ = some (.slice a37 n37 c37) ∧ W.cell? ⟨w38.heap.size, 0, none⟩ = some (.int .i64 s38) ∧ W.cell? ⟨w38.heap.size, 1, none⟩ = some (.slice a38 n38 c38) ∧ W.cell? ⟨w.heap.size + 1 + 1, 0, none⟩ = some (.int .i64 (0)) ∧ W.cell? ⟨w34.heap.size, 0, none⟩ = some (.int .i64 (0)))
          (first | (with_reducible exact e0.out) | (with_reducible exact e1.out) | (with_reducible exact e2.out) | (with_reducible exact e3.out) | (with_reducible exact e4.out))
          (((first | go_at_call 31 | go_at_call 29 | (rw [if_pos (by rfl)]; go_simp)); (first
            | (go_at_call 31; (with_reducible refine (same_b ((SD.out.box (w.heap.size, sa, .slice aa na ca, digs (za : Int).natAbs) (List.mem_cons_of_mem _ (List.mem_cons_of_mem _ (List.mem_cons_of_mem _ (List.mem_cons_of_mem _ (List.mem_cons_of_mem _ (List.mem_cons_of_mem _ (List.mem_cons_of_mem _ List.mem_cons_self)))))))).num Ea.out) ((SD.out.box (w.heap.size + 1, sb, .slice ab nb cb, digs (zb : Int).natAbs) (List.mem_cons_of_mem _ (List.mem_cons_of_mem _ (List.mem_cons_of_mem _ (List.mem_cons_of_mem _ (List.mem_cons_of_mem _ (List.mem_cons_of_mem _ List.mem_cons_self))))))).num Eb.out) H1.out).mono ?_); rintro e w1 ⟨rfl, hb⟩; have T1 := Lib.hid (SD.out.later hb); have e1 := Lib.hid (KK.out _ T1.out); clear hb)
            | (go_at_call 29; (with_reducible refine (cmp_t ((T3.out.box (w37.heap.size, s37, .slice a37 n37 c37, digs ((za * zc) : Int).natAbs) (List.mem_cons_of_mem _ List.mem_cons_self)).num E37.out) ((T3.out.box (w38.heap.size, s38, .slice a38 n38 c38, digs ((zb * zc) : Int).natAbs) List.mem_cons_self).num E38.out) H4.out).mono ?_); rintro e w4 ⟨rfl, hb⟩; have T4 := Lib.hid (T3.out.later hb); have e4 := Lib.hid (KK.out _ T4.out); clear hb)
            | (go_at_call 29; (with_reducible refine (cmp_t ((T2.out.box (w35.heap.size, s35, .slice a35 n35 c35, digs ((za + zc) : Int).natAbs) (List.mem_cons_of_mem _ (List.mem_cons_of_mem _ (List.mem_cons_of_mem _ List.mem_cons_self)))).num E35.out) ((T2.out.box (w36.heap.size, s36, .slice a36 n36 c36, digs ((zb + zc) : Int).natAbs) (List.mem_cons_of_mem _ (List.mem_cons_of_mem _ List.mem_cons_self))).num E36.out) H3.out).mono ?_); rintro e w3 ⟨rfl, hb⟩; have T3 := Lib.hid (T2.out.later hb); have e3 := Lib.hid (KK.out _ T3.out); clear hb)
            | (go_at_call 29; (with_reducible refine (cmp_t ((T1.out.box (w.heap.size + 1, sb, .slice ab nb cb, digs (zb : Int).natAbs) (List.mem_cons_of_mem _ (List.mem_cons_of_mem _ (List.mem_cons_of_mem _ (List.mem_cons_of_mem _ (List.mem_cons_of_mem _ (List.mem_cons_of_mem _ List.mem_cons_self))))))).num Eb.out) ((T1.out.box (w.heap.size, sa, .slice aa na ca, digs (za : Int).natAbs) (List.mem_cons_of_mem _ (List.mem_cons_of_mem _ (List.mem_cons_of_mem _ (List.mem_cons_of_mem _ (List.mem_cons_of_mem _ (List.mem_cons_of_mem _ (List.mem_cons_of_mem _ List.mem_cons_self)))))))).num Ea.out) H2.out).mono ?_); rintro e w2 ⟨rfl, hb⟩; have T2 := Lib.hid (T1.out.later hb); have e2 := Lib.hid (KK.out _ T2.out); clear hb)); (try dsimp only)))
        all_goals (go_wp2_with fail; go_meet; exact ⟨rfl, T4⟩)
      case inr.inr =>
        obtain rfl : sc = 1 := Ec.out.trans (Int.sign_eq_one_of_pos hs)
        have HS : Hid (zc.sign = 1) := Ec.out.symm
        clear hs
        have SD := Lib.hid S38.out.drew
        clear S38
        have K0 : ∀ W, Sq w [(w38.heap.size, s38, .slice a38 n38 c38, digs ((zb * zc) : Int).natAbs), (w37.heap.size, s37, .slice a37 n37 c37, digs ((za * zc) : Int).natAbs), (w36.heap.size, s36, .slice a36 n36 c36, digs ((zb + zc) : Int).natAbs), (w35.heap.size, s35, .slice a35 n35 c35, digs ((za + zc) : Int).natAbs), (w34.heap.size, (0), .slice a34 n34 c34, digs ((za - zb) : Int).natAbs), (w.heap.size + 1 + 1, (1), .slice ac nc cc, digs (zc : Int).natAbs), (w.heap.size + 1, sb, .slice ab nb cb, digs (zb : Int).natAbs), (w.heap.size, sa, .slice aa na ca, digs (za : Int).natAbs)] W → W.cell? ⟨w.heap.size, 0, none⟩ = some (.int .i64 sa) ∧ W.cell? ⟨w.heap.size, 1, none⟩ = some (.slice aa na ca) ∧ W.cell? ⟨w.heap.size + 1, 0, none⟩ = some (.int .i64 sb) ∧ W.cell? ⟨w.heap.size + 1, 1, none⟩ = some (.slice ab nb cb) ∧ W.cell? ⟨w35.heap.size, 0, none⟩ = some (.int .i64 s35) ∧ W.cell? ⟨w35.heap.size, 1, none⟩ = some (.slice a35 n35 c35) ∧ W.cell? ⟨w36.heap.size, 0, none⟩ = some (.int .i64 s36) ∧ W.cell? ⟨w36.heap.size, 1, none⟩ = some (.slice a36 n36 c36) ∧ W.cell? ⟨w37.heap.size, 0, none⟩ = some (.int .i64 s37) ∧ W.cell? ⟨w37.heap.size, 1, none⟩ = some (.slice a37 n37 c37) ∧ W.cell? ⟨w38.heap.size, 0, none⟩ = some (.int .i64 s38) ∧ W.cell? ⟨w38.heap.size, 1, none⟩ = some (.slice a38 n38 c38) ∧ W.cell? ⟨w.heap.size + 1 + 1, 0, none⟩ = some (.int .i64 (1)) ∧ W.cell? ⟨w34.heap.size, 0, none⟩ = some (.int .i64 (0)) := fun W h => ⟨(h.box (w.heap.size, sa, .slice aa na ca, digs (za : Int).natAbs) (List.mem_cons_of_mem _ (List.mem_cons_of_mem _ (List.mem_cons_of_mem _ (List.mem_cons_of_mem _ (List.mem_cons_of_mem _ (List.mem_cons_of_mem _ (List.mem_cons_of_mem _ List.mem_cons_self)))))))).cells.1, (h.box (w.heap.size, sa, .slice aa na ca, digs (za : Int).natAbs) (List.mem_cons_of_mem _ (List.mem_cons_of_mem _ (List.mem_cons_of_mem _ (List.mem_cons_of_mem _ (List.mem_cons_of_mem _ (List.mem_cons_of_mem _ (List.mem_cons_of_mem _ List.mem_cons_self)))))))).cells.2, (h.box (w.heap.size + 1, sb, .slice ab nb cb, digs (zb : Int).natAbs) (List.mem_cons_of_mem _ (List.mem_cons_of_mem _ (List.mem_cons_of_mem _ (List.mem_cons_of_mem _ (List.mem_cons_of_mem _ (List.mem_cons_of_mem _ List.mem_cons_self))))))).cells.1, (h.box (w.heap.size + 1, sb, .slice ab nb cb, digs (zb : Int).natAbs) (List.mem_cons_of_mem _ (List.mem_cons_of_mem _ (List.mem_cons_of_mem _ (List.mem_cons_of_mem _ (List.mem_cons_of_mem _ (List.mem_cons_of_mem _ List.mem_cons_self))))))).cells.2, (h.box (w35.heap.size, s35, .slice a35 n35 c35, digs ((za + zc) : Int).natAbs) (List.mem_cons_of_mem _ (List.mem_cons_of_mem _ (List.mem_cons_of_mem _ List.mem_cons_self)))).cells.1, (h.box (w35.heap.size, s35, .slice a35 n35 c35, digs ((za + zc) : Int).natAbs) (List.mem_cons_of_mem _ (List.mem_cons_of_mem _ (List.mem_cons_of_mem _ List.mem_cons_self)))).cells.2, (h.box (w36.heap.size, s36, .slice a36 n36 c36, digs ((zb + zc) : Int).natAbs) (List.mem_cons_of_mem _ (List.mem_cons_of_mem _ List.mem_cons_self))).cells.1, (h.box (w36.heap.size, s36, .slice a36 n36 c36, digs ((zb + zc) : Int).natAbs) (List.mem_cons_of_mem _ (List.mem_cons_of_mem _ List.mem_cons_self))).cells.2, (h.box (w37.heap.size, s37, .slice a37 n37 c37, digs ((za * zc) : Int).natAbs) (List.mem_cons_of_mem _ List.mem_cons_self)).cells.1, (h.box (w37.heap.size, s37, .slice a37 n37 c37, digs ((za * zc) : Int).natAbs) (List.mem_cons_of_mem _ List.mem_cons_self)).cells.2, (h.box (w38.heap.size, s38, .slice a38 n38 c38, digs ((zb * zc) : Int).natAbs) List.mem_cons_self).cells.1, (h.box (w38.heap.size, s38, .slice a38 n38 c38, digs ((zb * zc) : Int).natAbs) List.mem_cons_self).cells.2, (h.box (w.heap.size + 1 + 1, (1), .slice ac nc cc, digs (zc : Int).natAbs) (List.mem_cons_of_mem _ (List.mem_cons_of_mem _ (List.mem_cons_of_mem _ (List.mem_cons_of_mem _ (List.mem_cons_of_mem _ List.mem_cons_self)))))).cells.1, (h.box (w34.heap.size, (0), .slice a34 n34 c34, digs ((za - zb) : Int).natAbs) (List.mem_cons_of_mem _ (List.mem_cons_of_mem _ (List.mem_cons_of_mem _ (List.mem_cons_of_mem _ List.mem_cons_self))))).cells.1⟩
        have KK := Lib.hid K0
        clear K0
        have e0 := Lib.hid (KK.out _ SD.out)
        have H1 : Hid (decide (za = zb) = true) := decide_eq_true HK.out
        have H2 : Hid (cmpI zb za = 0) := (cmpI_swap za zb).trans (by have := HC.out; omega)
        have H3 : Hid (cmpI (za + zc) (zb + zc) = 0) := (cmpI_add za zb zc).trans HC.out
        have H4 : Hid (cmpI (za * zc) (zb * zc) = 0) := (cmpI_mul za zb zc).trans (by rw [HC.out, HS.out]; rfl)
        go_region_held3 (fun W => W.cell? ⟨w.heap.size, 0, none⟩ = some (.int .i64 sa) ∧ W.cell? ⟨w.heap.size, 1, none⟩ = some (.slice aa na ca) ∧ W.cell? ⟨w.heap.size + 1, 0, none⟩ = some (.int .i64 sb) ∧ W.cell? ⟨w.heap.size + 1, 1, none⟩ = some (.slice ab nb cb) ∧ W.cell? ⟨w35.heap.size, 0, none⟩ = some (.int .i64 s35) ∧ W.cell? ⟨w35.heap.size, 1, none⟩ = some (.slice a35 n35 c35) ∧ W.cell? ⟨w36.heap.size, 0, none⟩ = some (.int .i64 s36) ∧ W.cell? ⟨w36.heap.size, 1, none⟩ = some (.slice a36 n36 c36) ∧ W.cell? ⟨w37.heap.size, 0, none⟩ = some (.int .i64 s37) ∧ W.cell? ⟨w37.heap.size, 1, none⟩ = some (.slice a37 n37 c37) ∧ W.cell? ⟨w38.heap.size, 0, none⟩ = some (.int .i64 s38) ∧ W.cell? ⟨w38.heap.size, 1, none⟩ = some (.slice a38 n38 c38) ∧ W.cell? ⟨w.heap.size + 1 + 1, 0, none⟩ = some (.int .i64 (1)) ∧ W.cell? ⟨w34.heap.size, 0, none⟩ = some (.int .i64 (0)))
          (first | (with_reducible exact e0.out) | (with_reducible exact e1.out) | (with_reducible exact e2.out) | (with_reducible exact e3.out) | (with_reducible exact e4.out))
          (((first | go_at_call 31 | go_at_call 29 | (rw [if_pos (by rfl)]; go_simp)); (first
            | (go_at_call 31; (with_reducible refine (same_b ((SD.out.box (w.heap.size, sa, .slice aa na ca, digs (za : Int).natAbs) (List.mem_cons_of_mem _ (List.mem_cons_of_mem _ (List.mem_cons_of_mem _ (List.mem_cons_of_mem _ (List.mem_cons_of_mem _ (List.mem_cons_of_mem _ (List.mem_cons_of_mem _ List.mem_cons_self)))))))).num Ea.out) ((SD.out.box (w.heap.size + 1, sb, .slice ab nb cb, digs (zb : Int).natAbs) (List.mem_cons_of_mem _ (List.mem_cons_of_mem _ (List.mem_cons_of_mem _ (List.mem_cons_of_mem _ (List.mem_cons_of_mem _ (List.mem_cons_of_mem _ List.mem_cons_self))))))).num Eb.out) H1.out).mono ?_); rintro e w1 ⟨rfl, hb⟩; have T1 := Lib.hid (SD.out.later hb); have e1 := Lib.hid (KK.out _ T1.out); clear hb)
            | (go_at_call 29; (with_reducible refine (cmp_t ((T3.out.box (w37.heap.size, s37, .slice a37 n37 c37, digs ((za * zc) : Int).natAbs) (List.mem_cons_of_mem _ List.mem_cons_self)).num E37.out) ((T3.out.box (w38.heap.size, s38, .slice a38 n38 c38, digs ((zb * zc) : Int).natAbs) List.mem_cons_self).num E38.out) H4.out).mono ?_); rintro e w4 ⟨rfl, hb⟩; have T4 := Lib.hid (T3.out.later hb); have e4 := Lib.hid (KK.out _ T4.out); clear hb)
            | (go_at_call 29; (with_reducible refine (cmp_t ((T2.out.box (w35.heap.size, s35, .slice a35 n35 c35, digs ((za + zc) : Int).natAbs) (List.mem_cons_of_mem _ (List.mem_cons_of_mem _ (List.mem_cons_of_mem _ List.mem_cons_self)))).num E35.out) ((T2.out.box (w36.heap.size, s36, .slice a36 n36 c36, digs ((zb + zc) : Int).natAbs) (List.mem_cons_of_mem _ (List.mem_cons_of_mem _ List.mem_cons_self))).num E36.out) H3.out).mono ?_); rintro e w3 ⟨rfl, hb⟩; have T3 := Lib.hid (T2.out.later hb); have e3 := Lib.hid (KK.out _ T3.out); clear hb)
            | (go_at_call 29; (with_reducible refine (cmp_t ((T1.out.box (w.heap.size + 1, sb, .slice ab nb cb, digs (zb : Int).natAbs) (List.mem_cons_of_mem _ (List.mem_cons_of_mem _ (List.mem_cons_of_mem _ (List.mem_cons_of_mem _ (List.mem_cons_of_mem _ (List.mem_cons_of_mem _ List.mem_cons_self))))))).num Eb.out) ((T1.out.box (w.heap.size, sa, .slice aa na ca, digs (za : Int).natAbs) (List.mem_cons_of_mem _ (List.mem_cons_of_mem _ (List.mem_cons_of_mem _ (List.mem_cons_of_mem _ (List.mem_cons_of_mem _ (List.mem_cons_of_mem _ (List.mem_cons_of_mem _ List.mem_cons_self)))))))).num Ea.out) H2.out).mono ?_); rintro e w2 ⟨rfl, hb⟩; have T2 := Lib.hid (T1.out.later hb); have e2 := Lib.hid (KK.out _ T2.out); clear hb)); (try dsimp only)))
        all_goals (go_wp2_with fail; go_meet; exact ⟨rfl, T4⟩)
    case rest =>
      obtain ⟨rfl, SW⟩ := hcut
      clear S38
      have hq := Int.lt_trichotomy zb zc
      rcases hq with hq | hq | hq
      case inl =>
        have HQ : Hid (zb < zc) := hq
        clear hq
        obtain ⟨t41, u41⟩ := (SW.out.box (w.heap.size + 1, sb, .slice ab nb cb, digs (zb : Int).natAbs) (List.mem_cons_of_mem _ (List.mem_cons_of_mem _ (List.mem_cons_of_mem _ (List.mem_cons_of_mem _ (List.mem_cons_of_mem _ (List.mem_cons_of_mem _ List.mem_cons_self))))))).cells
        obtain ⟨t42, u42⟩ := (SW.out.box (w.heap.size + 1 + 1, sc, .slice ac nc cc, digs (zc : Int).natAbs) (List.mem_cons_of_mem _ (List.mem_cons_of_mem _ (List.mem_cons_of_mem _ (List.mem_cons_of_mem _ (List.mem_cons_of_mem _ List.mem_cons_self)))))).cells
        go_wp2_with fail
        clear t41 u41 t42 u42
        refine (cmp_t (k := -1) ((SW.out.box (w.heap.size + 1, sb, .slice ab nb cb, digs (zb : Int).natAbs) (List.mem_cons_of_mem _ (List.mem_cons_of_mem _ (List.mem_cons_of_mem _ (List.mem_cons_of_mem _ (List.mem_cons_of_mem _ (List.mem_cons_of_mem _ List.mem_cons_self))))))).num Eb.out) ((SW.out.box (w.heap.size + 1 + 1, sc, .slice ac nc cc, digs (zc : Int).natAbs) (List.mem_cons_of_mem _ (List.mem_cons_of_mem _ (List.mem_cons_of_mem _ (List.mem_cons_of_mem _ (List.mem_cons_of_mem _ List.mem_cons_self)))))).num Ec.out) (cmpI_lt HQ.out)).mono ?_
        rintro e w39 ⟨rfl, hb⟩
        have S40 := Lib.hid (SW.out.later hb)
        clear SW
        clear hb
        obtain ⟨t43, u43⟩ := (S40.out.box (w.heap.size, sa, .slice aa na ca, digs (za : Int).natAbs) (List.mem_cons_of_mem _ (List.mem_cons_of_mem _ (List.mem_cons_of_mem _ (List.mem_cons_of_mem _ (List.mem_cons_of_mem _ (List.mem_cons_of_mem _ (List.mem_cons_of_mem _ List.mem_cons_self)))))))).cells
        obtain ⟨t44, u44⟩ := (S40.out.box (w.heap.size + 1 + 1, sc, .slice ac nc cc, digs (zc : Int).natAbs) (List.mem_cons_of_mem _ (List.mem_cons_of_mem _ (List.mem_cons_of_mem _ (List.mem_cons_of_mem _ (List.mem_cons_of_mem _ List.mem_cons_self)))))).cells
        go_wp2_with fail
        clear t43 u43 t44 u44
        refine (cmp_t (k := -1) ((S40.out.box (w.heap.size, sa, .slice aa na ca, digs (za : Int).natAbs) (List.mem_cons_of_mem _ (List.mem_cons_of_mem _ (List.mem_cons_of_mem _ (List.mem_cons_of_mem _ (List.mem_cons_of_mem _ (List.mem_cons_of_mem _ (List.mem_cons_of_mem _ List.mem_cons_self)))))))).num Ea.out) ((S40.out.box (w.heap.size + 1 + 1, sc, .slice ac nc cc, digs (zc : Int).natAbs) (List.mem_cons_of_mem _ (List.mem_cons_of_mem _ (List.mem_cons_of_mem _ (List.mem_cons_of_mem _ (List.mem_cons_of_mem _ List.mem_cons_self)))))).num Ec.out) (cmpI_lt (by have h1 := HK.out; have h2 := HQ.out; omega))).mono ?_
        rintro e w41 ⟨rfl, hb⟩
        have S42 := Lib.hid (S40.out.later hb)
        clear S40
        clear hb
        go_wp2_with fail
        go_ret
        exact ⟨rfl, S42.out.below⟩
      case inr.inl =>
        have HQ : Hid (zb = zc) := hq
        clear hq
        obtain ⟨t45, u45⟩ := (SW.out.box (w.heap.size + 1, sb, .slice ab nb cb, digs (zb : Int).natAbs) (List.mem_cons_of_mem _ (List.mem_cons_of_mem _ (List.mem_cons_of_mem _ (List.mem_cons_of_mem _ (List.mem_cons_of_mem _ (List.mem_cons_of_mem _ List.mem_cons_self))))))).cells
        obtain ⟨t46, u46⟩ := (SW.out.box (w.heap.size + 1 + 1, sc, .slice ac nc cc, digs (zc : Int).natAbs) (List.mem_cons_of_mem _ (List.mem_cons_of_mem _ (List.mem_cons_of_mem _ (List.mem_cons_of_mem _ (List.mem_cons_of_mem _ List.mem_cons_self)))))).cells
        go_wp2_with fail
        clear t45 u45 t46 u46
        refine (cmp_t (k := 0) ((SW.out.box (w.heap.size + 1, sb, .slice ab nb cb, digs (zb : Int).natAbs) (List.mem_cons_of_mem _ (List.mem_cons_of_mem _ (List.mem_cons_of_mem _ (List.mem_cons_of_mem _ (List.mem_cons_of_mem _ (List.mem_cons_of_mem _ List.mem_cons_self))))))).num Eb.out) ((SW.out.box (w.heap.size + 1 + 1, sc, .slice ac nc cc, digs (zc : Int).natAbs) (List.mem_cons_of_mem _ (List.mem_cons_of_mem _ (List.mem_cons_of_mem _ (List.mem_cons_of_mem _ (List.mem_cons_of_mem _ List.mem_cons_self)))))).num Ec.out) (by rw [HQ.out]; exact cmpI_eq _)).mono ?_
        rintro e w43 ⟨rfl, hb⟩
        have S44 := Lib.hid (SW.out.later hb)
        clear SW
        clear hb
        obtain ⟨t47, u47⟩ := (S44.out.box (w.heap.size, sa, .slice aa na ca, digs (za : Int).natAbs) (List.mem_cons_of_mem _ (List.mem_cons_of_mem _ (List.mem_cons_of_mem _ (List.mem_cons_of_mem _ (List.mem_cons_of_mem _ (List.mem_cons_of_mem _ (List.mem_cons_of_mem _ List.mem_cons_self)))))))).cells
        obtain ⟨t48, u48⟩ := (S44.out.box (w.heap.size + 1 + 1, sc, .slice ac nc cc, digs (zc : Int).natAbs) (List.mem_cons_of_mem _ (List.mem_cons_of_mem _ (List.mem_cons_of_mem _ (List.mem_cons_of_mem _ (List.mem_cons_of_mem _ List.mem_cons_self)))))).cells
        go_wp2_with fail
        clear t47 u47 t48 u48
        refine (cmp_t (k := 0) ((S44.out.box (w.heap.size, sa, .slice aa na ca, digs (za : Int).natAbs) (List.mem_cons_of_mem _ (List.mem_cons_of_mem _ (List.mem_cons_of_mem _ (List.mem_cons_of_mem _ (List.mem_cons_of_mem _ (List.mem_cons_of_mem _ (List.mem_cons_of_mem _ List.mem_cons_self)))))))).num Ea.out) ((S44.out.box (w.heap.size + 1 + 1, sc, .slice ac nc cc, digs (zc : Int).natAbs) (List.mem_cons_of_mem _ (List.mem_cons_of_mem _ (List.mem_cons_of_mem _ (List.mem_cons_of_mem _ (List.mem_cons_of_mem _ List.mem_cons_self)))))).num Ec.out) (by rw [HK.out, HQ.out]; exact cmpI_eq _)).mono ?_
        rintro e w45 ⟨rfl, hb⟩
        have S46 := Lib.hid (S44.out.later hb)
        clear S44
        clear hb
        go_wp2_with fail
        go_ret
        exact ⟨rfl, S46.out.below⟩
      case inr.inr =>
        have HQ : Hid (zc < zb) := hq
        clear hq
        obtain ⟨t49, u49⟩ := (SW.out.box (w.heap.size + 1, sb, .slice ab nb cb, digs (zb : Int).natAbs) (List.mem_cons_of_mem _ (List.mem_cons_of_mem _ (List.mem_cons_of_mem _ (List.mem_cons_of_mem _ (List.mem_cons_of_mem _ (List.mem_cons_of_mem _ List.mem_cons_self))))))).cells
        obtain ⟨t50, u50⟩ := (SW.out.box (w.heap.size + 1 + 1, sc, .slice ac nc cc, digs (zc : Int).natAbs) (List.mem_cons_of_mem _ (List.mem_cons_of_mem _ (List.mem_cons_of_mem _ (List.mem_cons_of_mem _ (List.mem_cons_of_mem _ List.mem_cons_self)))))).cells
        go_wp2_with fail
        clear t49 u49 t50 u50
        refine (cmp_t (k := 1) ((SW.out.box (w.heap.size + 1, sb, .slice ab nb cb, digs (zb : Int).natAbs) (List.mem_cons_of_mem _ (List.mem_cons_of_mem _ (List.mem_cons_of_mem _ (List.mem_cons_of_mem _ (List.mem_cons_of_mem _ (List.mem_cons_of_mem _ List.mem_cons_self))))))).num Eb.out) ((SW.out.box (w.heap.size + 1 + 1, sc, .slice ac nc cc, digs (zc : Int).natAbs) (List.mem_cons_of_mem _ (List.mem_cons_of_mem _ (List.mem_cons_of_mem _ (List.mem_cons_of_mem _ (List.mem_cons_of_mem _ List.mem_cons_self)))))).num Ec.out) (cmpI_gt HQ.out)).mono ?_
        rintro e w47 ⟨rfl, hb⟩
        have S48 := Lib.hid (SW.out.later hb)
        clear SW
        clear hb
        go_wp2_with fail
        go_ret
        exact ⟨rfl, S48.out.below⟩
  case inr.inr =>
    have HC : Hid (cmpI za zb = 1) := cmpI_gt hk
    have HK : Hid (zb < za) := hk
    clear hk
    obtain ⟨t51, u51⟩ := (S14.out.box (w.heap.size, sa, .slice aa na ca, digs (za : Int).natAbs) (List.mem_cons_of_mem _ (List.mem_cons_of_mem _ List.mem_cons_self))).cells
    obtain ⟨t52, u52⟩ := (S14.out.box (w.heap.size + 1, sb, .slice ab nb cb, digs (zb : Int).natAbs) (List.mem_cons_of_mem _ List.mem_cons_self)).cells
    go_wp2_with fail
    clear t51 u51 t52 u52
    refine (cmp_t ((S14.out.box (w.heap.size, sa, .slice aa na ca, digs (za : Int).natAbs) (List.mem_cons_of_mem _ (List.mem_cons_of_mem _ List.mem_cons_self))).num Ea.out) ((S14.out.box (w.heap.size + 1, sb, .slice ab nb cb, digs (zb : Int).natAbs) (List.mem_cons_of_mem _ List.mem_cons_self)).num Eb.out) HC.out).mono ?_
    rintro e w49 ⟨rfl, hb⟩
    have S50 := Lib.hid (S14.out.later hb)
    clear S14
    clear hb
    obtain ⟨t53, u53⟩ := (S50.out.box (w.heap.size, sa, .slice aa na ca, digs (za : Int).natAbs) (List.mem_cons_of_mem _ (List.mem_cons_of_mem _ List.mem_cons_self))).cells
    obtain ⟨t54, u54⟩ := (S50.out.box (w.heap.size + 1, sb, .slice ab nb cb, digs (zb : Int).natAbs) (List.mem_cons_of_mem _ List.mem_cons_self)).cells
    go_wp2_with fail
    clear t53 u53 t54 u54
    refine (sub_k ((S50.out.box (w.heap.size, sa, .slice aa na ca, digs (za : Int).natAbs) (List.mem_cons_of_mem _ (List.mem_cons_of_mem _ List.mem_cons_self))).num Ea.out) ((S50.out.box (w.heap.size + 1, sb, .slice ab nb cb, digs (zb : Int).natAbs) (List.mem_cons_of_mem _ List.mem_cons_self)).num Eb.out) (Sz.len Za.out) (Sz.len Zb.out)).mono ?_
    rintro e w51 ⟨s51, a51, n51, c51, rfl, hn, hb, hf⟩
    have S51 := Lib.hid (S50.out.ret (sg := s51) hb hn.2 hf)
    have E51 := Lib.hid hn.1
    clear hn hb hf S50
    obtain ⟨t55, u55⟩ := (S51.out.box (w.heap.size, sa, .slice aa na ca, digs (za : Int).natAbs) (List.mem_cons_of_mem _ (List.mem_cons_of_mem _ (List.mem_cons_of_mem _ List.mem_cons_self)))).cells
    obtain ⟨t56, u56⟩ := (S51.out.box (w.heap.size + 1 + 1, sc, .slice ac nc cc, digs (zc : Int).natAbs) (List.mem_cons_of_mem _ List.mem_cons_self)).cells
    go_wp2_with fail
    clear t55 u55 t56 u56
    refine (add_k ((S51.out.box (w.heap.size, sa, .slice aa na ca, digs (za : Int).natAbs) (List.mem_cons_of_mem _ (List.mem_cons_of_mem _ (List.mem_cons_of_mem _ List.mem_cons_self)))).num Ea.out) ((S51.out.box (w.heap.size + 1 + 1, sc, .slice ac nc cc, digs (zc : Int).natAbs) (List.mem_cons_of_mem _ List.mem_cons_self)).num Ec.out) (Sz.len Za.out) (Sz.len Zc.out)).mono ?_
    rintro e w52 ⟨s52, a52, n52, c52, rfl, hn, hb, hf⟩
    have S52 := Lib.hid (S51.out.ret (sg := s52) hb hn.2 hf)
    have E52 := Lib.hid hn.1
    clear hn hb hf S51
    obtain ⟨t57, u57⟩ := (S52.out.box (w.heap.size + 1, sb, .slice ab nb cb, digs (zb : Int).natAbs) (List.mem_cons_of_mem _ (List.mem_cons_of_mem _ (List.mem_cons_of_mem _ List.mem_cons_self)))).cells
    obtain ⟨t58, u58⟩ := (S52.out.box (w.heap.size + 1 + 1, sc, .slice ac nc cc, digs (zc : Int).natAbs) (List.mem_cons_of_mem _ (List.mem_cons_of_mem _ List.mem_cons_self))).cells
    go_wp2_with fail
    clear t57 u57 t58 u58
    refine (add_k ((S52.out.box (w.heap.size + 1, sb, .slice ab nb cb, digs (zb : Int).natAbs) (List.mem_cons_of_mem _ (List.mem_cons_of_mem _ (List.mem_cons_of_mem _ List.mem_cons_self)))).num Eb.out) ((S52.out.box (w.heap.size + 1 + 1, sc, .slice ac nc cc, digs (zc : Int).natAbs) (List.mem_cons_of_mem _ (List.mem_cons_of_mem _ List.mem_cons_self))).num Ec.out) (Sz.len Zb.out) (Sz.len Zc.out)).mono ?_
    rintro e w53 ⟨s53, a53, n53, c53, rfl, hn, hb, hf⟩
    have S53 := Lib.hid (S52.out.ret (sg := s53) hb hn.2 hf)
    have E53 := Lib.hid hn.1
    clear hn hb hf S52
    obtain ⟨t59, u59⟩ := (S53.out.box (w.heap.size, sa, .slice aa na ca, digs (za : Int).natAbs) (List.mem_cons_of_mem _ (List.mem_cons_of_mem _ (List.mem_cons_of_mem _ (List.mem_cons_of_mem _ (List.mem_cons_of_mem _ List.mem_cons_self)))))).cells
    obtain ⟨t60, u60⟩ := (S53.out.box (w.heap.size + 1 + 1, sc, .slice ac nc cc, digs (zc : Int).natAbs) (List.mem_cons_of_mem _ (List.mem_cons_of_mem _ (List.mem_cons_of_mem _ List.mem_cons_self)))).cells
    go_wp2_with fail
    clear t59 u59 t60 u60
    refine (mul_k ((S53.out.box (w.heap.size, sa, .slice aa na ca, digs (za : Int).natAbs) (List.mem_cons_of_mem _ (List.mem_cons_of_mem _ (List.mem_cons_of_mem _ (List.mem_cons_of_mem _ (List.mem_cons_of_mem _ List.mem_cons_self)))))).num Ea.out) ((S53.out.box (w.heap.size + 1 + 1, sc, .slice ac nc cc, digs (zc : Int).natAbs) (List.mem_cons_of_mem _ (List.mem_cons_of_mem _ (List.mem_cons_of_mem _ List.mem_cons_self)))).num Ec.out) (Sz.len Za.out) (Sz.len Zc.out)).mono ?_
    rintro e w54 ⟨s54, a54, n54, c54, rfl, hn, hb, hf⟩
    have S54 := Lib.hid (S53.out.ret (sg := s54) hb hn.2 hf)
    have E54 := Lib.hid hn.1
    clear hn hb hf S53
    obtain ⟨t61, u61⟩ := (S54.out.box (w.heap.size + 1, sb, .slice ab nb cb, digs (zb : Int).natAbs) (List.mem_cons_of_mem _ (List.mem_cons_of_mem _ (List.mem_cons_of_mem _ (List.mem_cons_of_mem _ (List.mem_cons_of_mem _ List.mem_cons_self)))))).cells
    obtain ⟨t62, u62⟩ := (S54.out.box (w.heap.size + 1 + 1, sc, .slice ac nc cc, digs (zc : Int).natAbs) (List.mem_cons_of_mem _ (List.mem_cons_of_mem _ (List.mem_cons_of_mem _ (List.mem_cons_of_mem _ List.mem_cons_self))))).cells
    go_wp2_with fail
    clear t61 u61 t62 u62
    refine (mul_k ((S54.out.box (w.heap.size + 1, sb, .slice ab nb cb, digs (zb : Int).natAbs) (List.mem_cons_of_mem _ (List.mem_cons_of_mem _ (List.mem_cons_of_mem _ (List.mem_cons_of_mem _ (List.mem_cons_of_mem _ List.mem_cons_self)))))).num Eb.out) ((S54.out.box (w.heap.size + 1 + 1, sc, .slice ac nc cc, digs (zc : Int).natAbs) (List.mem_cons_of_mem _ (List.mem_cons_of_mem _ (List.mem_cons_of_mem _ (List.mem_cons_of_mem _ List.mem_cons_self))))).num Ec.out) (Sz.len Zb.out) (Sz.len Zc.out)).mono ?_
    rintro e w55 ⟨s55, a55, n55, c55, rfl, hn, hb, hf⟩
    have S55 := Lib.hid (S54.out.ret (sg := s55) hb hn.2 hf)
    have E55 := Lib.hid hn.1
    clear hn hb hf S54
    obtain rfl : s51 = 1 := E51.out.trans ((cmpI_subs za zb).trans HC.out)
    go_upto_region 12 with fail
    go_cut [136] from 100 to 136 (fun u wx => u = .bool false ∧ Hid (Sq w [(w55.heap.size, s55, .slice a55 n55 c55, digs ((zb * zc) : Int).natAbs), (w54.heap.size, s54, .slice a54 n54 c54, digs ((za * zc) : Int).natAbs), (w53.heap.size, s53, .slice a53 n53 c53, digs ((zb + zc) : Int).natAbs), (w52.heap.size, s52, .slice a52 n52 c52, digs ((za + zc) : Int).natAbs), (w51.heap.size, (1), .slice a51 n51 c51, digs ((za - zb) : Int).natAbs), (w.heap.size + 1 + 1, sc, .slice ac nc cc, digs (zc : Int).natAbs), (w.heap.size + 1, sb, .slice ab nb cb, digs (zb : Int).natAbs), (w.heap.size, sa, .slice aa na ca, digs (za : Int).natAbs)] wx))
    case first =>
      have hs := Int.lt_trichotomy zc 0
      rcases hs with hs | hs | hs
      case inl =>
        obtain rfl : sc = -1 := Ec.out.trans (Int.sign_eq_neg_one_of_neg hs)
        have HS : Hid (zc.sign = -1) := Ec.out.symm
        clear hs
        have SD := Lib.hid S55.out.drew
        clear S55
        have K0 : ∀ W, Sq w [(w55.heap.size, s55, .slice a55 n55 c55, digs ((zb * zc) : Int).natAbs), (w54.heap.size, s54, .slice a54 n54 c54, digs ((za * zc) : Int).natAbs), (w53.heap.size, s53, .slice a53 n53 c53, digs ((zb + zc) : Int).natAbs), (w52.heap.size, s52, .slice a52 n52 c52, digs ((za + zc) : Int).natAbs), (w51.heap.size, (1), .slice a51 n51 c51, digs ((za - zb) : Int).natAbs), (w.heap.size + 1 + 1, (-1), .slice ac nc cc, digs (zc : Int).natAbs), (w.heap.size + 1, sb, .slice ab nb cb, digs (zb : Int).natAbs), (w.heap.size, sa, .slice aa na ca, digs (za : Int).natAbs)] W → W.cell? ⟨w.heap.size, 0, none⟩ = some (.int .i64 sa) ∧ W.cell? ⟨w.heap.size, 1, none⟩ = some (.slice aa na ca) ∧ W.cell? ⟨w.heap.size + 1, 0, none⟩ = some (.int .i64 sb) ∧ W.cell? ⟨w.heap.size + 1, 1, none⟩ = some (.slice ab nb cb) ∧ W.cell? ⟨w52.heap.size, 0, none⟩ = some (.int .i64 s52) ∧ W.cell? ⟨w52.heap.size, 1, none⟩ = some (.slice a52 n52 c52) ∧ W.cell? ⟨w53.heap.size, 0, none⟩ = some (.int .i64 s53) ∧ W.cell? ⟨w53.heap.size, 1, none⟩ = some (.slice a53 n53 c53) ∧ W.cell? ⟨w54.heap.size, 0, none⟩ = some (.int .i64 s54) ∧ W.cell? ⟨w54.heap.size, 1, none⟩ = some (.slice a54 n54 c54) ∧ W.cell? ⟨w55.heap.size, 0, none⟩ = some (.int .i64 s55) ∧ W.cell? ⟨w55.heap.size, 1, none⟩ = some (.slice a55 n55 c55) ∧ W.cell? ⟨w.heap.size + 1 + 1, 0, none⟩ = some (.int .i64 (-1)) ∧ W.cell? ⟨w51.heap.size, 0, none⟩ = some (.int .i64 (1)) := fun W h => ⟨(h.box (w.heap.size, sa, .slice aa na ca, digs (za : Int).natAbs) (List.mem_cons_of_mem _ (List.mem_cons_of_mem _ (List.mem_cons_of_mem _ (List.mem_cons_of_mem _ (List.mem_cons_of_mem _ (List.mem_cons_of_mem _ (List.mem_cons_of_mem _ List.mem_cons_self)))))))).cells.1, (h.box (w.heap.size, sa, .slice aa na ca, digs (za : Int).natAbs) (List.mem_cons_of_mem _ (List.mem_cons_of_mem _ (List.mem_cons_of_mem _ (List.mem_cons_of_mem _ (List.mem_cons_of_mem _ (List.mem_cons_of_mem _ (List.mem_cons_of_mem _ List.mem_cons_self)))))))).cells.2, (h.box (w.heap.size + 1, sb, .slice ab nb cb, digs (zb : Int).natAbs) (List.mem_cons_of_mem _ (List.mem_cons_of_mem _ (List.mem_cons_of_mem _ (List.mem_cons_of_mem _ (List.mem_cons_of_mem _ (List.mem_cons_of_mem _ List.mem_cons_self))))))).cells.1, (h.box (w.heap.size + 1, sb, .slice ab nb cb, digs (zb : Int).natAbs) (List.mem_cons_of_mem _ (List.mem_cons_of_mem _ (List.mem_cons_of_mem _ (List.mem_cons_of_mem _ (List.mem_cons_of_mem _ (List.mem_cons_of_mem _ List.mem_cons_self))))))).cells.2, (h.box (w52.heap.size, s52, .slice a52 n52 c52, digs ((za + zc) : Int).natAbs) (List.mem_cons_of_mem _ (List.mem_cons_of_mem _ (List.mem_cons_of_mem _ List.mem_cons_self)))).cells.1, (h.box (w52.heap.size, s52, .slice a52 n52 c52, digs ((za + zc) : Int).natAbs) (List.mem_cons_of_mem _ (List.mem_cons_of_mem _ (List.mem_cons_of_mem _ List.mem_cons_self)))).cells.2, (h.box (w53.heap.size, s53, .slice a53 n53 c53, digs ((zb + zc) : Int).natAbs) (List.mem_cons_of_mem _ (List.mem_cons_of_mem _ List.mem_cons_self))).cells.1, (h.box (w53.heap.size, s53, .slice a53 n53 c53, digs ((zb + zc) : Int).natAbs) (List.mem_cons_of_mem _ (List.mem_cons_of_mem _ List.mem_cons_self))).cells.2, (h.box (w54.heap.size, s54, .slice a54 n54 c54, digs ((za * zc) : Int).natAbs) (List.mem_cons_of_mem _ List.mem_cons_self)).cells.1, (h.box (w54.heap.size, s54, .slice a54 n54 c54, digs ((za * zc) : Int).natAbs) (List.mem_cons_of_mem _ List.mem_cons_self)).cells.2, (h.box (w55.heap.size, s55, .slice a55 n55 c55, digs ((zb * zc) : Int).natAbs) List.mem_cons_self).cells.1, (h.box (w55.heap.size, s55, .slice a55 n55 c55, digs ((zb * zc) : Int).natAbs) List.mem_cons_self).cells.2, (h.box (w.heap.size + 1 + 1, (-1), .slice ac nc cc, digs (zc : Int).natAbs) (List.mem_cons_of_mem _ (List.mem_cons_of_mem _ (List.mem_cons_of_mem _ (List.mem_cons_of_mem _ (List.mem_cons_of_mem _ List.mem_cons_self)))))).cells.1, (h.box (w51.heap.size, (1), .slice a51 n51 c51, digs ((za - zb) : Int).natAbs) (List.mem_cons_of_mem _ (List.mem_cons_of_mem _ (List.mem_cons_of_mem _ (List.mem_cons_of_mem _ List.mem_cons_self))))).cells.1⟩
        have KK := Lib.hid K0
        clear K0
        have e0 := Lib.hid (KK.out _ SD.out)
        have H1 : Hid (decide (za = zb) = false) := decide_eq_false (by have := HK.out; omega)
        have H2 : Hid (cmpI zb za = -1) := (cmpI_swap za zb).trans (by have := HC.out; omega)
        have H3 : Hid (cmpI (za + zc) (zb + zc) = 1) := (cmpI_add za zb zc).trans HC.out
        have H4 : Hid (cmpI (za * zc) (zb * zc) = -1) := (cmpI_mul za zb zc).trans (by rw [HC.out, HS.out]; rfl)
        go_region_held3 (fun W => W.cell? ⟨w.heap.size, 0, none⟩ = some (.int .i64 sa) ∧ W.cell? ⟨w.heap.size, 1, none⟩ = some (.slice aa na ca) ∧ W.cell? ⟨w.heap.size + 1, 0, none⟩ = some (.int .i64 sb) ∧ W.cell? ⟨w.heap.size + 1, 1, none⟩ = some (.slice ab nb cb) ∧ W.cell? ⟨w52.heap.size, 0, none⟩ = some (.int .i64 s52) ∧ W.cell? ⟨w52.heap.size, 1, none⟩ = some (.slice a52 n52 c52) ∧ W.cell? ⟨w53.heap.size, 0, none⟩ = some (.int .i64 s53) ∧ W.cell? ⟨w53.heap.size, 1, none⟩ = some (.slice a53 n53 c53) ∧ W.cell? ⟨w54.heap.size, 0, none⟩ = some (.int .i64 s54) ∧ W.cell? ⟨w54.heap.size, 1, none⟩ = some (.slice a54 n54 c54) ∧ W.cell? ⟨w55.heap.size, 0, none⟩ = some (.int .i64 s55) ∧ W.cell? ⟨w55.heap.size, 1, none⟩ = some (.slice a55 n55 c55) ∧ W.cell? ⟨w.heap.size + 1 + 1, 0, none⟩ = some (.int .i64 (-1)) ∧ W.cell? ⟨w51.heap.size, 0, none⟩ = some (.int .i64 (1)))
          (first | (with_reducible exact e0.out) | (with_reducible exact e1.out) | (with_reducible exact e2.out) | (with_reducible exact e3.out) | (with_reducible exact e4.out))
          (((first | go_at_call 31 | go_at_call 29 | (rw [if_pos (by rfl)]; go_simp)); (first
            | (go_at_call 31; (with_reducible refine (same_b ((SD.out.box (w.heap.size, sa, .slice aa na ca, digs (za : Int).natAbs) (List.mem_cons_of_mem _ (List.mem_cons_of_mem _ (List.mem_cons_of_mem _ (List.mem_cons_of_mem _ (List.mem_cons_of_mem _ (List.mem_cons_of_mem _ (List.mem_cons_of_mem _ List.mem_cons_self)))))))).num Ea.out) ((SD.out.box (w.heap.size + 1, sb, .slice ab nb cb, digs (zb : Int).natAbs) (List.mem_cons_of_mem _ (List.mem_cons_of_mem _ (List.mem_cons_of_mem _ (List.mem_cons_of_mem _ (List.mem_cons_of_mem _ (List.mem_cons_of_mem _ List.mem_cons_self))))))).num Eb.out) H1.out).mono ?_); rintro e w1 ⟨rfl, hb⟩; have T1 := Lib.hid (SD.out.later hb); have e1 := Lib.hid (KK.out _ T1.out); clear hb)
            | (go_at_call 29; (with_reducible refine (cmp_t ((T3.out.box (w54.heap.size, s54, .slice a54 n54 c54, digs ((za * zc) : Int).natAbs) (List.mem_cons_of_mem _ List.mem_cons_self)).num E54.out) ((T3.out.box (w55.heap.size, s55, .slice a55 n55 c55, digs ((zb * zc) : Int).natAbs) List.mem_cons_self).num E55.out) H4.out).mono ?_); rintro e w4 ⟨rfl, hb⟩; have T4 := Lib.hid (T3.out.later hb); have e4 := Lib.hid (KK.out _ T4.out); clear hb)
            | (go_at_call 29; (with_reducible refine (cmp_t ((T2.out.box (w52.heap.size, s52, .slice a52 n52 c52, digs ((za + zc) : Int).natAbs) (List.mem_cons_of_mem _ (List.mem_cons_of_mem _ (List.mem_cons_of_mem _ List.mem_cons_self)))).num E52.out) ((T2.out.box (w53.heap.size, s53, .slice a53 n53 c53, digs ((zb + zc) : Int).natAbs) (List.mem_cons_of_mem _ (List.mem_cons_of_mem _ List.mem_cons_self))).num E53.out) H3.out).mono ?_); rintro e w3 ⟨rfl, hb⟩; have T3 := Lib.hid (T2.out.later hb); have e3 := Lib.hid (KK.out _ T3.out); clear hb)
            | (go_at_call 29; (with_reducible refine (cmp_t ((T1.out.box (w.heap.size + 1, sb, .slice ab nb cb, digs (zb : Int).natAbs) (List.mem_cons_of_mem _ (List.mem_cons_of_mem _ (List.mem_cons_of_mem _ (List.mem_cons_of_mem _ (List.mem_cons_of_mem _ (List.mem_cons_of_mem _ List.mem_cons_self))))))).num Eb.out) ((T1.out.box (w.heap.size, sa, .slice aa na ca, digs (za : Int).natAbs) (List.mem_cons_of_mem _ (List.mem_cons_of_mem _ (List.mem_cons_of_mem _ (List.mem_cons_of_mem _ (List.mem_cons_of_mem _ (List.mem_cons_of_mem _ (List.mem_cons_of_mem _ List.mem_cons_self)))))))).num Ea.out) H2.out).mono ?_); rintro e w2 ⟨rfl, hb⟩; have T2 := Lib.hid (T1.out.later hb); have e2 := Lib.hid (KK.out _ T2.out); clear hb)); (try dsimp only)))
        all_goals (go_wp2_with fail; go_meet; exact ⟨rfl, T4⟩)
      case inr.inl =>
        obtain rfl : sc = 0 := Ec.out.trans (by rw [hs]; rfl)
        have HS : Hid (zc.sign = 0) := Ec.out.symm
        clear hs
        have SD := Lib.hid S55.out.drew
        clear S55
        have K0 : ∀ W, Sq w [(w55.heap.size, s55, .slice a55 n55 c55, digs ((zb * zc) : Int).natAbs), (w54.heap.size, s54, .slice a54 n54 c54, digs ((za * zc) : Int).natAbs), (w53.heap.size, s53, .slice a53 n53 c53, digs ((zb + zc) : Int).natAbs), (w52.heap.size, s52, .slice a52 n52 c52, digs ((za + zc) : Int).natAbs), (w51.heap.size, (1), .slice a51 n51 c51, digs ((za - zb) : Int).natAbs), (w.heap.size + 1 + 1, (0), .slice ac nc cc, digs (zc : Int).natAbs), (w.heap.size + 1, sb, .slice ab nb cb, digs (zb : Int).natAbs), (w.heap.size, sa, .slice aa na ca, digs (za : Int).natAbs)] W → W.cell? ⟨w.heap.size, 0, none⟩ = some (.int .i64 sa) ∧ W.cell? ⟨w.heap.size, 1, none⟩ = some (.slice aa na ca) ∧ W.cell? ⟨w.heap.size + 1, 0, none⟩ = some (.int .i64 sb) ∧ W.cell? ⟨w.heap.size + 1, 1, none⟩ = some (.slice ab nb cb) ∧ W.cell? ⟨w52.heap.size, 0, none⟩ = some (.int .i64 s52) ∧ W.cell? ⟨w52.heap.size, 1, none⟩ = some (.slice a52 n52 c52) ∧ W.cell? ⟨w53.heap.size, 0, none⟩ = some (.int .i64 s53) ∧ W.cell? ⟨w53.heap.size, 1, none⟩ = some (.slice a53 n53 c53) ∧ W.cell? ⟨w54.heap.size, 0, none⟩ = some (.int .i64 s54) ∧ W.cell? ⟨w54.heap.size, 1, none⟩ = some (.slice a54 n54 c54) ∧ W.cell? ⟨w55.heap.size, 0, none⟩ = some (.int .i64 s55) ∧ W.cell? ⟨w55.heap.size, 1, none⟩ = some (.slice a55 n55 c55) ∧ W.cell? ⟨w.heap.size + 1 + 1, 0, none⟩ = some (.int .i64 (0)) ∧ W.cell? ⟨w51.heap.size, 0, none⟩ = some (.int .i64 (1)) := fun W h => ⟨(h.box (w.heap.size, sa, .slice aa na ca, digs (za : Int).natAbs) (List.mem_cons_of_mem _ (List.mem_cons_of_mem _ (List.mem_cons_of_mem _ (List.mem_cons_of_mem _ (List.mem_cons_of_mem _ (List.mem_cons_of_mem _ (List.mem_cons_of_mem _ List.mem_cons_self)))))))).cells.1, (h.box (w.heap.size, sa, .slice aa na ca, digs (za : Int).natAbs) (List.mem_cons_of_mem _ (List.mem_cons_of_mem _ (List.mem_cons_of_mem _ (List.mem_cons_of_mem _ (List.mem_cons_of_mem _ (List.mem_cons_of_mem _ (List.mem_cons_of_mem _ List.mem_cons_self)))))))).cells.2, (h.box (w.heap.size + 1, sb, .slice ab nb cb, digs (zb : Int).natAbs) (List.mem_cons_of_mem _ (List.mem_cons_of_mem _ (List.mem_cons_of_mem _ (List.mem_cons_of_mem _ (List.mem_cons_of_mem _ (List.mem_cons_of_mem _ List.mem_cons_self))))))).cells.1, (h.box (w.heap.size + 1, sb, .slice ab nb cb, digs (zb : Int).natAbs) (List.mem_cons_of_mem _ (List.mem_cons_of_mem _ (List.mem_cons_of_mem _ (List.mem_cons_of_mem _ (List.mem_cons_of_mem _ (List.mem_cons_of_mem _ List.mem_cons_self))))))).cells.2, (h.box (w52.heap.size, s52, .slice a52 n52 c52, digs ((za + zc) : Int).natAbs) (List.mem_cons_of_mem _ (List.mem_cons_of_mem _ (List.mem_cons_of_mem _ List.mem_cons_self)))).cells.1, (h.box (w52.heap.size, s52, .slice a52 n52 c52, digs ((za + zc) : Int).natAbs) (List.mem_cons_of_mem _ (List.mem_cons_of_mem _ (List.mem_cons_of_mem _ List.mem_cons_self)))).cells.2, (h.box (w53.heap.size, s53, .slice a53 n53 c53, digs ((zb + zc) : Int).natAbs) (List.mem_cons_of_mem _ (List.mem_cons_of_mem _ List.mem_cons_self))).cells.1, (h.box (w53.heap.size, s53, .slice a53 n53 c53, digs ((zb + zc) : Int).natAbs) (List.mem_cons_of_mem _ (List.mem_cons_of_mem _ List.mem_cons_self))).cells.2, (h.box (w54.heap.size, s54, .slice a54 n54 c54, digs ((za * zc) : Int).natAbs) (List.mem_cons_of_mem _ List.mem_cons_self)).cells.1, (h.box (w54.heap.size, s54, .slice a54 n54 c54, digs ((za * zc) : Int).natAbs) (List.mem_cons_of_mem _ List.mem_cons_self)).cells.2, (h.box (w55.heap.size, s55, .slice a55 n55 c55, digs ((zb * zc) : Int).natAbs) List.mem_cons_self).cells.1, (h.box (w55.heap.size, s55, .slice a55 n55 c55, digs ((zb * zc) : Int).natAbs) List.mem_cons_self).cells.2, (h.box (w.heap.size + 1 + 1, (0), .slice ac nc cc, digs (zc : Int).natAbs) (List.mem_cons_of_mem _ (List.mem_cons_of_mem _ (List.mem_cons_of_mem _ (List.mem_cons_of_mem _ (List.mem_cons_of_mem _ List.mem_cons_self)))))).cells.1, (h.box (w51.heap.size, (1), .slice a51 n51 c51, digs ((za - zb) : Int).natAbs) (List.mem_cons_of_mem _ (List.mem_cons_of_mem _ (List.mem_cons_of_mem _ (List.mem_cons_of_mem _ List.mem_cons_self))))).cells.1⟩
        have KK := Lib.hid K0
        clear K0
        have e0 := Lib.hid (KK.out _ SD.out)
        have H1 : Hid (decide (za = zb) = false) := decide_eq_false (by have := HK.out; omega)
        have H2 : Hid (cmpI zb za = -1) := (cmpI_swap za zb).trans (by have := HC.out; omega)
        have H3 : Hid (cmpI (za + zc) (zb + zc) = 1) := (cmpI_add za zb zc).trans HC.out
        have H4 : Hid (cmpI (za * zc) (zb * zc) = 0) := (cmpI_mul za zb zc).trans (by rw [HC.out, HS.out]; rfl)
        go_region_held3 (fun W => W.cell? ⟨w.heap.size, 0, none⟩ = some (.int .i64 sa) ∧ W.cell? ⟨w.heap.size, 1, none⟩ = some (.slice aa na ca) ∧ W.cell? ⟨w.heap.size + 1, 0, none⟩ = some (.int .i64 sb) ∧ W.cell? ⟨w.heap.size + 1, 1, none⟩ = some (.slice ab nb cb) ∧ W.cell? ⟨w52.heap.size, 0, none⟩ = some (.int .i64 s52) ∧ W.cell? ⟨w52.heap.size, 1, none⟩ = some (.slice a52 n52 c52) ∧ W.cell? ⟨w53.heap.size, 0, none⟩ = some (.int .i64 s53) ∧ W.cell? ⟨w53.heap.size, 1, none⟩ = some (.slice a53 n53 c53) ∧ W.cell? ⟨w54.heap.size, 0, none⟩ = some (.int .i64 s54) ∧ W.cell? ⟨w54.heap.size, 1, none⟩ = some (.slice a54 n54 c54) ∧ W.cell? ⟨w55.heap.size, 0, none⟩ = some (.int .i64 s55) ∧ W.cell? ⟨w55.heap.size, 1, none⟩ = some (.slice a55 n55 c55) ∧ W.cell? ⟨w.heap.size + 1 + 1, 0, none⟩ = some (.int .i64 (0)) ∧ W.cell? ⟨w51.heap.size, 0, none⟩ = some (.int .i64 (1)))
          (first | (with_reducible exact e0.out) | (with_reducible exact e1.out) | (with_reducible exact e2.out) | (with_reducible exact e3.out) | (with_reducible exact e4.out))
          (((first | go_at_call 31 | go_at_call 29 | (rw [if_pos (by rfl)]; go_simp)); (first
            | (go_at_call 31; (with_reducible refine (same_b ((SD.out.box (w.heap.size, sa, .slice aa na ca, digs (za : Int).natAbs) (List.mem_cons_of_mem _ (List.mem_cons_of_mem _ (List.mem_cons_of_mem _ (List.mem_cons_of_mem _ (List.mem_cons_of_mem _ (List.mem_cons_of_mem _ (List.mem_cons_of_mem _ List.mem_cons_self)))))))).num Ea.out) ((SD.out.box (w.heap.size + 1, sb, .slice ab nb cb, digs (zb : Int).natAbs) (List.mem_cons_of_mem _ (List.mem_cons_of_mem _ (List.mem_cons_of_mem _ (List.mem_cons_of_mem _ (List.mem_cons_of_mem _ (List.mem_cons_of_mem _ List.mem_cons_self))))))).num Eb.out) H1.out).mono ?_); rintro e w1 ⟨rfl, hb⟩; have T1 := Lib.hid (SD.out.later hb); have e1 := Lib.hid (KK.out _ T1.out); clear hb)
            | (go_at_call 29; (with_reducible refine (cmp_t ((T3.out.box (w54.heap.size, s54, .slice a54 n54 c54, digs ((za * zc) : Int).natAbs) (List.mem_cons_of_mem _ List.mem_cons_self)).num E54.out) ((T3.out.box (w55.heap.size, s55, .slice a55 n55 c55, digs ((zb * zc) : Int).natAbs) List.mem_cons_self).num E55.out) H4.out).mono ?_); rintro e w4 ⟨rfl, hb⟩; have T4 := Lib.hid (T3.out.later hb); have e4 := Lib.hid (KK.out _ T4.out); clear hb)
            | (go_at_call 29; (with_reducible refine (cmp_t ((T2.out.box (w52.heap.size, s52, .slice a52 n52 c52, digs ((za + zc) : Int).natAbs) (List.mem_cons_of_mem _ (List.mem_cons_of_mem _ (List.mem_cons_of_mem _ List.mem_cons_self)))).num E52.out) ((T2.out.box (w53.heap.size, s53, .slice a53 n53 c53, digs ((zb + zc) : Int).natAbs) (List.mem_cons_of_mem _ (List.mem_cons_of_mem _ List.mem_cons_self))).num E53.out) H3.out).mono ?_); rintro e w3 ⟨rfl, hb⟩; have T3 := Lib.hid (T2.out.later hb); have e3 := Lib.hid (KK.out _ T3.out); clear hb)
            | (go_at_call 29; (with_reducible refine (cmp_t ((T1.out.box (w.heap.size + 1, sb, .slice ab nb cb, digs (zb : Int).natAbs) (List.mem_cons_of_mem _ (List.mem_cons_of_mem _ (List.mem_cons_of_mem _ (List.mem_cons_of_mem _ (List.mem_cons_of_mem _ (List.mem_cons_of_mem _ List.mem_cons_self))))))).num Eb.out) ((T1.out.box (w.heap.size, sa, .slice aa na ca, digs (za : Int).natAbs) (List.mem_cons_of_mem _ (List.mem_cons_of_mem _ (List.mem_cons_of_mem _ (List.mem_cons_of_mem _ (List.mem_cons_of_mem _ (List.mem_cons_of_mem _ (List.mem_cons_of_mem _ List.mem_cons_self)))))))).num Ea.out) H2.out).mono ?_); rintro e w2 ⟨rfl, hb⟩; have T2 := Lib.hid (T1.out.later hb); have e2 := Lib.hid (KK.out _ T2.out); clear hb)); (try dsimp only)))
        all_goals (go_wp2_with fail; go_meet; exact ⟨rfl, T4⟩)
      case inr.inr =>
        obtain rfl : sc = 1 := Ec.out.trans (Int.sign_eq_one_of_pos hs)
        have HS : Hid (zc.sign = 1) := Ec.out.symm
        clear hs
        have SD := Lib.hid S55.out.drew
        clear S55
        have K0 : ∀ W, Sq w [(w55.heap.size, s55, .slice a55 n55 c55, digs ((zb * zc) : Int).natAbs), (w54.heap.size, s54, .slice a54 n54 c54, digs ((za * zc) : Int).natAbs), (w53.heap.size, s53, .slice a53 n53 c53, digs ((zb + zc) : Int).natAbs), (w52.heap.size, s52, .slice a52 n52 c52, digs ((za + zc) : Int).natAbs), (w51.heap.size, (1), .slice a51 n51 c51, digs ((za - zb) : Int).natAbs), (w.heap.size + 1 + 1, (1), .slice ac nc cc, digs (zc : Int).natAbs), (w.heap.size + 1, sb, .slice ab nb cb, digs (zb : Int).natAbs), (w.heap.size, sa, .slice aa na ca, digs (za : Int).natAbs)] W → W.cell? ⟨w.heap.size, 0, none⟩ = some (.int .i64 sa) ∧ W.cell? ⟨w.heap.size, 1, none⟩ = some (.slice aa na ca) ∧ W.cell? ⟨w.heap.size + 1, 0, none⟩ = some (.int .i64 sb) ∧ W.cell? ⟨w.heap.size + 1, 1, none⟩ = some (.slice ab nb cb) ∧ W.cell? ⟨w52.heap.size, 0, none⟩ = some (.int .i64 s52) ∧ W.cell? ⟨w52.heap.size, 1, none⟩ = some (.slice a52 n52 c52) ∧ W.cell? ⟨w53.heap.size, 0, none⟩ = some (.int .i64 s53) ∧ W.cell? ⟨w53.heap.size, 1, none⟩ = some (.slice a53 n53 c53) ∧ W.cell? ⟨w54.heap.size, 0, none⟩ = some (.int .i64 s54) ∧ W.cell? ⟨w54.heap.size, 1, none⟩ = some (.slice a54 n54 c54) ∧ W.cell? ⟨w55.heap.size, 0, none⟩ = some (.int .i64 s55) ∧ W.cell? ⟨w55.heap.size, 1, none⟩ = some (.slice a55 n55 c55) ∧ W.cell? ⟨w.heap.size + 1 + 1, 0, none⟩ = some (.int .i64 (1)) ∧ W.cell? ⟨w51.heap.size, 0, none⟩ = some (.int .i64 (1)) := fun W h => ⟨(h.box (w.heap.size, sa, .slice aa na ca, digs (za : Int).natAbs) (List.mem_cons_of_mem _ (List.mem_cons_of_mem _ (List.mem_cons_of_mem _ (List.mem_cons_of_mem _ (List.mem_cons_of_mem _ (List.mem_cons_of_mem _ (List.mem_cons_of_mem _ List.mem_cons_self)))))))).cells.1, (h.box (w.heap.size, sa, .slice aa na ca, digs (za : Int).natAbs) (List.mem_cons_of_mem _ (List.mem_cons_of_mem _ (List.mem_cons_of_mem _ (List.mem_cons_of_mem _ (List.mem_cons_of_mem _ (List.mem_cons_of_mem _ (List.mem_cons_of_mem _ List.mem_cons_self)))))))).cells.2, (h.box (w.heap.size + 1, sb, .slice ab nb cb, digs (zb : Int).natAbs) (List.mem_cons_of_mem _ (List.mem_cons_of_mem _ (List.mem_cons_of_mem _ (List.mem_cons_of_mem _ (List.mem_cons_of_mem _ (List.mem_cons_of_mem _ List.mem_cons_self))))))).cells.1, (h.box (w.heap.size + 1, sb, .slice ab nb cb, digs (zb : Int).natAbs) (List.mem_cons_of_mem _ (List.mem_cons_of_mem _ (List.mem_cons_of_mem _ (List.mem_cons_of_mem _ (List.mem_cons_of_mem _ (List.mem_cons_of_mem _ List.mem_cons_self))))))).cells.2, (h.box (w52.heap.size, s52, .slice a52 n52 c52, digs ((za + zc) : Int).natAbs) (List.mem_cons_of_mem _ (List.mem_cons_of_mem _ (List.mem_cons_of_mem _ List.mem_cons_self)))).cells.1, (h.box (w52.heap.size, s52, .slice a52 n52 c52, digs ((za + zc) : Int).natAbs) (List.mem_cons_of_mem _ (List.mem_cons_of_mem _ (List.mem_cons_of_mem _ List.mem_cons_self)))).cells.2, (h.box (w53.heap.size, s53, .slice a53 n53 c53, digs ((zb + zc) : Int).natAbs) (List.mem_cons_of_mem _ (List.mem_cons_of_mem _ List.mem_cons_self))).cells.1, (h.box (w53.heap.size, s53, .slice a53 n53 c53, digs ((zb + zc) : Int).natAbs) (List.mem_cons_of_mem _ (List.mem_cons_of_mem _ List.mem_cons_self))).cells.2, (h.box (w54.heap.size, s54, .slice a54 n54 c54, digs ((za * zc) : Int).natAbs) (List.mem_cons_of_mem _ List.mem_cons_self)).cells.1, (h.box (w54.heap.size, s54, .slice a54 n54 c54, digs ((za * zc) : Int).natAbs) (List.mem_cons_of_mem _ List.mem_cons_self)).cells.2, (h.box (w55.heap.size, s55, .slice a55 n55 c55, digs ((zb * zc) : Int).natAbs) List.mem_cons_self).cells.1, (h.box (w55.heap.size, s55, .slice a55 n55 c55, digs ((zb * zc) : Int).natAbs) List.mem_cons_self).cells.2, (h.box (w.heap.size + 1 + 1, (1), .slice ac nc cc, digs (zc : Int).natAbs) (List.mem_cons_of_mem _ (List.mem_cons_of_mem _ (List.mem_cons_of_mem _ (List.mem_cons_of_mem _ (List.mem_cons_of_mem _ List.mem_cons_self)))))).cells.1, (h.box (w51.heap.size, (1), .slice a51 n51 c51, digs ((za - zb) : Int).natAbs) (List.mem_cons_of_mem _ (List.mem_cons_of_mem _ (List.mem_cons_of_mem _ (List.mem_cons_of_mem _ List.mem_cons_self))))).cells.1⟩
        have KK := Lib.hid K0
        clear K0
        have e0 := Lib.hid (KK.out _ SD.out)
        have H1 : Hid (decide (za = zb) = false) := decide_eq_false (by have := HK.out; omega)
        have H2 : Hid (cmpI zb za = -1) := (cmpI_swap za zb).trans (by have := HC.out; omega)
        have H3 : Hid (cmpI (za + zc) (zb + zc) = 1) := (cmpI_add za zb zc).trans HC.out
        have H4 : Hid (cmpI (za * zc) (zb * zc) = 1) := (cmpI_mul za zb zc).trans (by rw [HC.out, HS.out]; rfl)
        go_region_held3 (fun W => W.cell? ⟨w.heap.size, 0, none⟩ = some (.int .i64 sa) ∧ W.cell? ⟨w.heap.size, 1, none⟩ = some (.slice aa na ca) ∧ W.cell? ⟨w.heap.size + 1, 0, none⟩ = some (.int .i64 sb) ∧ W.cell? ⟨w.heap.size + 1, 1, none⟩ = some (.slice ab nb cb) ∧ W.cell? ⟨w52.heap.size, 0, none⟩ = some (.int .i64 s52) ∧ W.cell? ⟨w52.heap.size, 1, none⟩ = some (.slice a52 n52 c52) ∧ W.cell? ⟨w53.heap.size, 0, none⟩ = some (.int .i64 s53) ∧ W.cell? ⟨w53.heap.size, 1, none⟩ = some (.slice a53 n53 c53) ∧ W.cell? ⟨w54.heap.size, 0, none⟩ = some (.int .i64 s54) ∧ W.cell? ⟨w54.heap.size, 1, none⟩ = some (.slice a54 n54 c54) ∧ W.cell? ⟨w55.heap.size, 0, none⟩ = some (.int .i64 s55) ∧ W.cell? ⟨w55.heap.size, 1, none⟩ = some (.slice a55 n55 c55) ∧ W.cell? ⟨w.heap.size + 1 + 1, 0, none⟩ = some (.int .i64 (1)) ∧ W.cell? ⟨w51.heap.size, 0, none⟩ = some (.int .i64 (1)))
          (first | (with_reducible exact e0.out) | (with_reducible exact e1.out) | (with_reducible exact e2.out) | (with_reducible exact e3.out) | (with_reducible exact e4.out))
          (((first | go_at_call 31 | go_at_call 29 | (rw [if_pos (by rfl)]; go_simp)); (first
            | (go_at_call 31; (with_reducible refine (same_b ((SD.out.box (w.heap.size, sa, .slice aa na ca, digs (za : Int).natAbs) (List.mem_cons_of_mem _ (List.mem_cons_of_mem _ (List.mem_cons_of_mem _ (List.mem_cons_of_mem _ (List.mem_cons_of_mem _ (List.mem_cons_of_mem _ (List.mem_cons_of_mem _ List.mem_cons_self)))))))).num Ea.out) ((SD.out.box (w.heap.size + 1, sb, .slice ab nb cb, digs (zb : Int).natAbs) (List.mem_cons_of_mem _ (List.mem_cons_of_mem _ (List.mem_cons_of_mem _ (List.mem_cons_of_mem _ (List.mem_cons_of_mem _ (List.mem_cons_of_mem _ List.mem_cons_self))))))).num Eb.out) H1.out).mono ?_); rintro e w1 ⟨rfl, hb⟩; have T1 := Lib.hid (SD.out.later hb); have e1 := Lib.hid (KK.out _ T1.out); clear hb)
            | (go_at_call 29; (with_reducible refine (cmp_t ((T3.out.box (w54.heap.size, s54, .slice a54 n54 c54, digs ((za * zc) : Int).natAbs) (List.mem_cons_of_mem _ List.mem_cons_self)).num E54.out) ((T3.out.box (w55.heap.size, s55, .slice a55 n55 c55, digs ((zb * zc) : Int).natAbs) List.mem_cons_self).num E55.out) H4.out).mono ?_); rintro e w4 ⟨rfl, hb⟩; have T4 := Lib.hid (T3.out.later hb); have e4 := Lib.hid (KK.out _ T4.out); clear hb)
            | (go_at_call 29; (with_reducible refine (cmp_t ((T2.out.box (w52.heap.size, s52, .slice a52 n52 c52, digs ((za + zc) : Int).natAbs) (List.mem_cons_of_mem _ (List.mem_cons_of_mem _ (List.mem_cons_of_mem _ List.mem_cons_self)))).num E52.out) ((T2.out.box (w53.heap.size, s53, .slice a53 n53 c53, digs ((zb + zc) : Int).natAbs) (List.mem_cons_of_mem _ (List.mem_cons_of_mem _ List.mem_cons_self))).num E53.out) H3.out).mono ?_); rintro e w3 ⟨rfl, hb⟩; have T3 := Lib.hid (T2.out.later hb); have e3 := Lib.hid (KK.out _ T3.out); clear hb)
            | (go_at_call 29; (with_reducible refine (cmp_t ((T1.out.box (w.heap.size + 1, sb, .slice ab nb cb, digs (zb : Int).natAbs) (List.mem_cons_of_mem _ (List.mem_cons_of_mem _ (List.mem_cons_of_mem _ (List.mem_cons_of_mem _ (List.mem_cons_of_mem _ (List.mem_cons_of_mem _ List.mem_cons_self))))))).num Eb.out) ((T1.out.box (w.heap.size, sa, .slice aa na ca, digs (za : Int).natAbs) (List.mem_cons_of_mem _ (List.mem_cons_of_mem _ (List.mem_cons_of_mem _ (List.mem_cons_of_mem _ (List.mem_cons_of_mem _ (List.mem_cons_of_mem _ (List.mem_cons_of_mem _ List.mem_cons_self)))))))).num Ea.out) H2.out).mono ?_); rintro e w2 ⟨rfl, hb⟩; have T2 := Lib.hid (T1.out.later hb); have e2 := Lib.hid (KK.out _ T2.out); clear hb)); (try dsimp only)))
        all_goals (go_wp2_with fail; go_meet; exact ⟨rfl, T4⟩)
    case rest =>
      obtain ⟨rfl, SW⟩ := hcut
      clear S55
      go_wp2_with fail
      go_ret
      exact ⟨rfl, SW.out.below⟩
set_option maxHeartbeats 4000000 in
theorem BigOrder_long (sa : Int) (aa : Option Addr) (na ca : Nat) (sb : Int) (ab : Option Addr) (nb cb : Nat) (sc : Int) (ac : Option Addr) (nc cc : Nat) (w : World) (he : Env w) (ha : na ≤ 9223372036854775807) (hb : nb ≤ 9223372036854775807) (hc : nc ≤ 9223372036854775807) (hno : ¬ (na ≤ 25 ∧ nb ≤ 25 ∧ nc ≤ 25)) :
    Calls Tryd.prog 5 #[.agg #[.int .i64 sa, .slice aa na ca], .agg #[.int .i64 sb, .slice ab nb cb], .agg #[.int .i64 sc, .slice ac nc cc]] w fun e w' => e = .returned (.bool true) ∧ RowKit.Below w.heap.size w w' := by
  have HE := Lib.hid he
  have HNO := Lib.hid hno
  have Ha := Lib.hid ha
  obtain ⟨fa, hfa⟩ : ∃ b, decide ((na : Int) ≤ 25) = b := ⟨_, rfl⟩
  have Fa := Lib.hid hfa
  clear ha hfa
  have Hb := Lib.hid hb
  obtain ⟨fb, hfb⟩ : ∃ b, decide ((nb : Int) ≤ 25) = b := ⟨_, rfl⟩
  have Fb := Lib.hid hfb
  clear hb hfb
  have Hc := Lib.hid hc
  obtain ⟨fc, hfc⟩ : ∃ b, decide ((nc : Int) ≤ 25) = b := ⟨_, rfl⟩
  have Fc := Lib.hid hfc
  clear hc hfc
  have S0 := Lib.hid (Sk.three w sa sb sc (.slice aa na ca) (.slice ab nb cb) (.slice ac nc cc))
  clear he hno
  go_enter Tryd.func5, Tryd.ntmps5
  go_wp2_with fail
  refine (small_any _ (S0.out.env HE.out)).mono ?_
  rintro e w0 ⟨rfl, hb⟩
  have S1 := Lib.hid (S0.out.later hb)
  clear hb S0
  obtain ⟨t, u⟩ := S1.out.cells (b := w.heap.size) (sg := sa) (v := .slice aa na ca) (List.mem_cons_of_mem _ (List.mem_cons_of_mem _ List.mem_cons_self))
  go_wp2_with fail
  clear t u
  refine (few_len sa aa na ca 25 _ Ha.out fa Fa.out).mono ?_
  rintro e w1 ⟨rfl, hb⟩
  have S2 := Lib.hid (S1.out.later hb)
  clear hb S1
  cases fa
  case false =>
    go_wp2_with fail
    go_ret
    exact ⟨rfl, S2.out.below⟩
  obtain ⟨t, u⟩ := S2.out.cells (b := w.heap.size + 1) (sg := sb) (v := .slice ab nb cb) (List.mem_cons_of_mem _ List.mem_cons_self)
  go_wp2_with fail
  clear t u
  refine (few_len sb ab nb cb 25 _ Hb.out fb Fb.out).mono ?_
  rintro e w2 ⟨rfl, hb⟩
  have S3 := Lib.hid (S2.out.later hb)
  clear hb S2
  cases fb
  case false =>
    go_wp2_with fail
    go_ret
    exact ⟨rfl, S3.out.below⟩
  obtain ⟨t, u⟩ := S3.out.cells (b := w.heap.size + 1 + 1) (sg := sc) (v := .slice ac nc cc) List.mem_cons_self
  go_wp2_with fail
  clear t u
  refine (few_len sc ac nc cc 25 _ Hc.out fc Fc.out).mono ?_
  rintro e w3 ⟨rfl, hb⟩
  have S4 := Lib.hid (S3.out.later hb)
  clear hb S3
  cases fc
  case false =>
    go_wp2_with fail
    go_ret
    exact ⟨rfl, S4.out.below⟩
  exact absurd ⟨by have := Fa.out; simp at this; omega, by have := Fb.out; simp at this; omega, by have := Fc.out; simp at this; omega⟩ HNO.out
end Go.Proofs.YtpcagodnlbdclaaDoor.Bi
