/- The contract of BigGcd. -/
import Derived.Test.YtbbjogkapcakpaaDoorM11
set_option maxRecDepth 100000
namespace Go.Proofs.YtbbjogkapcakpaaDoor.Bi
open Go.RowKit

set_option maxHeartbeats 8000000 in
theorem BigGcd_any (sa : Int) (aa : Option Addr) (na ca : Nat) (la : List Int) (sb : Int) (ab : Option Addr) (nb cb : Nat) (lb : List Int) (sc : Int) (ac : Option Addr) (nc cc : Nat) (lc : List Int) (w : World) (he : Env w) (ha : Ints w (.slice aa na ca) la) (hb : Ints w (.slice ab nb cb) lb) (hc : Ints w (.slice ac nc cc) lc) :
    Calls Tryd.prog 4 #[.agg #[.int .i64 sa, .slice aa na ca], .agg #[.int .i64 sb, .slice ab nb cb], .agg #[.int .i64 sc, .slice ac nc cc]] w fun e w' => e = .returned (.bool true) ∧ RowKit.Below w.heap.size w w' := by
  have HE := Lib.hid he
  have S0 := Lib.hid (three (sa := sa) (sb := sb) (sc := sc) ha hb hc)
  obtain ⟨fa, hfa⟩ : ∃ b, decide ((la.length : Int) ≤ 12) = b := ⟨_, rfl⟩
  obtain ⟨ra, hra⟩ : ∃ b, rightB sa la = b := ⟨_, rfl⟩
  have Fa := Lib.hid hfa
  have Ra := Lib.hid hra
  clear ha hfa hra
  obtain ⟨fb, hfb⟩ : ∃ b, decide ((lb.length : Int) ≤ 12) = b := ⟨_, rfl⟩
  obtain ⟨rb, hrb⟩ : ∃ b, rightB sb lb = b := ⟨_, rfl⟩
  have Fb := Lib.hid hfb
  have Rb := Lib.hid hrb
  clear hb hfb hrb
  obtain ⟨fc, hfc⟩ : ∃ b, decide ((lc.length : Int) ≤ 4) = b := ⟨_, rfl⟩
  obtain ⟨rc, hrc⟩ : ∃ b, rightB sc lc = b := ⟨_, rfl⟩
  have Fc := Lib.hid hfc
  have Rc := Lib.hid hrc
  clear hc hfc hrc
  clear he
  go_enter Tryd.func4, Tryd.ntmps4
  go_wp2_with fail
  refine (small_any _ (S0.out.env HE.out)).mono ?_
  rintro e w1 ⟨rfl, hb⟩
  have S2 := Lib.hid (S0.out.later hb)
  clear S0
  clear hb
  obtain ⟨t1, u1⟩ := (S2.out.box (w.heap.size, sa, .slice aa na ca, la) (List.mem_cons_of_mem _ (List.mem_cons_of_mem _ List.mem_cons_self))).cells
  go_wp2_with fail
  clear t1 u1
  refine (few_any sa _ la 12 _ (S2.out.box (w.heap.size, sa, .slice aa na ca, la) (List.mem_cons_of_mem _ (List.mem_cons_of_mem _ List.mem_cons_self))).2 fa Fa.out).mono ?_
  rintro e w3 ⟨rfl, hb⟩
  have S4 := Lib.hid (S2.out.later hb)
  clear S2
  clear hb
  cases fa
  case false =>
    go_wp2_with fail
    go_ret
    exact ⟨rfl, S4.out.below⟩
  obtain ⟨t2, u2⟩ := (S4.out.box (w.heap.size + 1, sb, .slice ab nb cb, lb) (List.mem_cons_of_mem _ List.mem_cons_self)).cells
  go_wp2_with fail
  clear t2 u2
  refine (few_any sb _ lb 12 _ (S4.out.box (w.heap.size + 1, sb, .slice ab nb cb, lb) (List.mem_cons_of_mem _ List.mem_cons_self)).2 fb Fb.out).mono ?_
  rintro e w5 ⟨rfl, hb⟩
  have S6 := Lib.hid (S4.out.later hb)
  clear S4
  clear hb
  cases fb
  case false =>
    go_wp2_with fail
    go_ret
    exact ⟨rfl, S6.out.below⟩
  obtain ⟨t3, u3⟩ := (S6.out.box (w.heap.size + 1 + 1, sc, .slice ac nc cc, lc) List.mem_cons_self).cells
  go_wp2_with fail
  clear t3 u3
  refine (few_any sc _ lc 4 _ (S6.out.box (w.heap.size + 1 + 1, sc, .slice ac nc cc, lc) List.mem_cons_self).2 fc Fc.out).mono ?_
  rintro e w7 ⟨rfl, hb⟩
  have S8 := Lib.hid (S6.out.later hb)
  clear S6
  clear hb
  cases fc
  case false =>
    go_wp2_with fail
    go_ret
    exact ⟨rfl, S8.out.below⟩
  obtain ⟨t4, u4⟩ := (S8.out.box (w.heap.size, sa, .slice aa na ca, la) (List.mem_cons_of_mem _ (List.mem_cons_of_mem _ List.mem_cons_self))).cells
  go_wp2_with fail
  clear t4 u4
  refine (right_b ⟨_, rfl, (S8.out.box (w.heap.size, sa, .slice aa na ca, la) (List.mem_cons_of_mem _ (List.mem_cons_of_mem _ List.mem_cons_self))).2⟩ Ra.out).mono ?_
  rintro e w9 ⟨rfl, hb⟩
  have S10 := Lib.hid (S8.out.later hb)
  clear S8
  clear hb
  cases ra
  case false =>
    go_wp2_with fail
    go_ret
    exact ⟨rfl, S10.out.below⟩
  obtain ⟨t5, u5⟩ := (S10.out.box (w.heap.size + 1, sb, .slice ab nb cb, lb) (List.mem_cons_of_mem _ List.mem_cons_self)).cells
  go_wp2_with fail
  clear t5 u5
  refine (right_b ⟨_, rfl, (S10.out.box (w.heap.size + 1, sb, .slice ab nb cb, lb) (List.mem_cons_of_mem _ List.mem_cons_self)).2⟩ Rb.out).mono ?_
  rintro e w11 ⟨rfl, hb⟩
  have S12 := Lib.hid (S10.out.later hb)
  clear S10
  clear hb
  cases rb
  case false =>
    go_wp2_with fail
    go_ret
    exact ⟨rfl, S12.out.below⟩
  obtain ⟨t6, u6⟩ := (S12.out.box (w.heap.size + 1 + 1, sc, .slice ac nc cc, lc) List.mem_cons_self).cells
  go_wp2_with fail
  clear t6 u6
  refine (right_b ⟨_, rfl, (S12.out.box (w.heap.size + 1 + 1, sc, .slice ac nc cc, lc) List.mem_cons_self).2⟩ Rc.out).mono ?_
  rintro e w13 ⟨rfl, hb⟩
  have S14 := Lib.hid (S12.out.later hb)
  clear S12
  clear hb
  cases rc
  case false =>
    go_wp2_with fail
    go_ret
    exact ⟨rfl, S14.out.below⟩
  obtain ⟨za, ea, rfl⟩ := right_of Ra.out
  have Ea := Lib.hid ea
  have Za : Hid (Sz 12 za) := Sz.fits Fa.out rfl rfl
  clear ea Fa Ra
  obtain ⟨zb, eb, rfl⟩ := right_of Rb.out
  have Eb := Lib.hid eb
  have Zb : Hid (Sz 12 zb) := Sz.fits Fb.out rfl rfl
  clear eb Fb Rb
  obtain ⟨zc, ec, rfl⟩ := right_of Rc.out
  have Ec := Lib.hid ec
  have Zc : Hid (Sz 4 zc) := Sz.fits Fc.out rfl rfl
  clear ec Fc Rc
  obtain ⟨zg, hzg⟩ : ∃ z : Int, ((Nat.gcd (za : Int).natAbs (zb : Int).natAbs : Nat) : Int) = z := ⟨_, rfl⟩
  have Hzg := Lib.hid hzg
  clear hzg
  obtain ⟨t7, u7⟩ := (S14.out.box (w.heap.size, sa, .slice aa na ca, digs (za : Int).natAbs) (List.mem_cons_of_mem _ (List.mem_cons_of_mem _ List.mem_cons_self))).cells
  obtain ⟨t8, u8⟩ := (S14.out.box (w.heap.size + 1, sb, .slice ab nb cb, digs (zb : Int).natAbs) (List.mem_cons_of_mem _ List.mem_cons_self)).cells
  go_wp2_with fail
  clear t7 u7 t8 u8
  refine (gcd_z ((S14.out.box (w.heap.size, sa, .slice aa na ca, digs (za : Int).natAbs) (List.mem_cons_of_mem _ (List.mem_cons_of_mem _ List.mem_cons_self))).num Ea.out) ((S14.out.box (w.heap.size + 1, sb, .slice ab nb cb, digs (zb : Int).natAbs) (List.mem_cons_of_mem _ List.mem_cons_self)).num Eb.out) (Sz.len Za.out) (Sz.len Zb.out) Hzg.out).mono ?_
  rintro e w15 ⟨s15, a15, n15, c15, rfl, hn, hb, hf⟩
  have S15 := Lib.hid (S14.out.ret (sg := s15) hb hn.2 hf)
  have E15 := Lib.hid hn.1
  clear hn hb hf S14
  have HGP : Hid (0 ≤ zg) := by have := Hzg.out; show 0 ≤ zg; omega
  have HNG : Hid (((Nat.gcd (-zb).natAbs za.natAbs : Nat) : Int) = zg) := by have := Hzg.out; show _ = zg; rw [← this, Int.natAbs_neg, Nat.gcd_comm]
  go_upto_region 5 with fail
  generalize (w15.alloc (.cells #[.int .i64 s15, .slice a15 n15 c15] 24)) = wz at S15 ⊢
  go_cut [10, 11] from 67 to 73 (fun u v wx => v = .int .i64 0 ∧ Hid (∃ g s a n c, u = .pointer (some ⟨g, 0, none⟩) ∧ s = (zg : Int).sign ∧ Sq w ((g, s, .slice a n c, digs (zg : Int).natAbs) :: [(w15.heap.size, s15, .slice a15 n15 c15, digs (zg : Int).natAbs), (w.heap.size + 1 + 1, sc, .slice ac nc cc, digs (zc : Int).natAbs), (w.heap.size + 1, sb, .slice ab nb cb, digs (zb : Int).natAbs), (w.heap.size, sa, .slice aa na ca, digs (za : Int).natAbs)]) wx))
  case first =>
    have SD := Lib.hid S15.out.drew
    have SZ := Lib.hid S15.out.zero.drew
    have HX : Hid (Len 100000 zb) := Sz.len Zb.out
    have HY : Hid (Len 100000 (-zb)) := by have := HX.out; unfold Len at this ⊢; show Hid (_ ≤ _); unfold Hid; rwa [Int.natAbs_neg]
    have HW : Hid (Len 100000 za) := Sz.len Za.out
    have K0 : ∀ W, Sq w [(w15.heap.size, s15, .slice a15 n15 c15, digs (zg : Int).natAbs), (w.heap.size + 1 + 1, sc, .slice ac nc cc, digs (zc : Int).natAbs), (w.heap.size + 1, sb, .slice ab nb cb, digs (zb : Int).natAbs), (w.heap.size, sa, .slice aa na ca, digs (za : Int).natAbs)] W → W.cell? ⟨w.heap.size + 1, 0, none⟩ = some (.int .i64 sb) ∧ W.cell? ⟨w.heap.size + 1, 1, none⟩ = some (.slice ab nb cb) ∧ W.cell? ⟨w.heap.size, 0, none⟩ = some (.int .i64 sa) ∧ W.cell? ⟨w.heap.size, 1, none⟩ = some (.slice aa na ca) := fun W h => ⟨(h.box (w.heap.size + 1, sb, .slice ab nb cb, digs (zb : Int).natAbs) (List.mem_cons_of_mem _ (List.mem_cons_of_mem _ List.mem_cons_self))).cells.1, (h.box (w.heap.size + 1, sb, .slice ab nb cb, digs (zb : Int).natAbs) (List.mem_cons_of_mem _ (List.mem_cons_of_mem _ List.mem_cons_self))).cells.2, (h.box (w.heap.size, sa, .slice aa na ca, digs (za : Int).natAbs) (List.mem_cons_of_mem _ (List.mem_cons_of_mem _ (List.mem_cons_of_mem _ List.mem_cons_self)))).cells.1, (h.box (w.heap.size, sa, .slice aa na ca, digs (za : Int).natAbs) (List.mem_cons_of_mem _ (List.mem_cons_of_mem _ (List.mem_cons_of_mem _ List.mem_cons_self)))).cells.2⟩
    have KK := Lib.hid K0
    clear K0
    have K0 : ∀ W x, Sq w (x :: [(w15.heap.size, s15, .slice a15 n15 c15, digs (zg : Int).natAbs), (w.heap.size + 1 + 1, sc, .slice ac nc cc, digs (zc : Int).natAbs), (w.heap.size + 1, sb, .slice ab nb cb, digs (zb : Int).natAbs), (w.heap.size, sa, .slice aa na ca, digs (za : Int).natAbs)]) W → W.cell? ⟨w.heap.size + 1, 0, none⟩ = some (.int .i64 sb) ∧ W.cell? ⟨w.heap.size + 1, 1, none⟩ = some (.slice ab nb cb) ∧ W.cell? ⟨w.heap.size, 0, none⟩ = some (.int .i64 sa) ∧ W.cell? ⟨w.heap.size, 1, none⟩ = some (.slice aa na ca) := fun W x h => ⟨(h.box (w.heap.size + 1, sb, .slice ab nb cb, digs (zb : Int).natAbs) (List.mem_cons_of_mem _ (List.mem_cons_of_mem _ (List.mem_cons_of_mem _ List.mem_cons_self)))).cells.1, (h.box (w.heap.size + 1, sb, .slice ab nb cb, digs (zb : Int).natAbs) (List.mem_cons_of_mem _ (List.mem_cons_of_mem _ (List.mem_cons_of_mem _ List.mem_cons_self)))).cells.2, (h.box (w.heap.size, sa, .slice aa na ca, digs (za : Int).natAbs) (List.mem_cons_of_mem _ (List.mem_cons_of_mem _ (List.mem_cons_of_mem _ (List.mem_cons_of_mem _ List.mem_cons_self))))).cells.1, (h.box (w.heap.size, sa, .slice aa na ca, digs (za : Int).natAbs) (List.mem_cons_of_mem _ (List.mem_cons_of_mem _ (List.mem_cons_of_mem _ (List.mem_cons_of_mem _ List.mem_cons_self))))).cells.2⟩
    have KU := Lib.hid K0
    clear K0
    have ex := KK.out _ SD.out
    have ez := KU.out _ _ SZ.out
    clear S15
    go_region_held3 (fun W => W.cell? ⟨w.heap.size + 1, 0, none⟩ = some (.int .i64 sb) ∧ W.cell? ⟨w.heap.size + 1, 1, none⟩ = some (.slice ab nb cb) ∧ W.cell? ⟨w.heap.size, 0, none⟩ = some (.int .i64 sa) ∧ W.cell? ⟨w.heap.size, 1, none⟩ = some (.slice aa na ca))
      (first | (with_reducible exact ex) | (with_reducible exact ez) | (with_reducible exact xa) | (with_reducible exact xaz) | (with_reducible exact xb) | (with_reducible exact xc) | (with_reducible exact xcz) | (with_reducible exact xcr) | (with_reducible exact xd) | (with_reducible exact xds) | (with_reducible exact xe) | (with_reducible exact xes) | go_keep)
      (first
        | (go_at_call 31; (with_reducible refine (neg_k ((SD.out.box (w.heap.size + 1, sb, .slice ab nb cb, digs (zb : Int).natAbs) (List.mem_cons_of_mem _ (List.mem_cons_of_mem _ List.mem_cons_self))).num Eb.out) HX.out).mono ?_); rintro e wa ⟨sk, ak, nk, ck, rfl, hn, hb, hf⟩; have SA := Lib.hid (SD.out.later hb); have xa := KK.out _ SA.out; have SAZ := Lib.hid SA.out.zero; have xaz := KU.out _ _ SAZ.out; have NA := Lib.hid hn; clear hn hb hf)
        | (go_at_call 31; (with_reducible refine (neg_k ((SZ.out.box (w.heap.size + 1, sb, .slice ab nb cb, digs (zb : Int).natAbs) (List.mem_cons_of_mem _ (List.mem_cons_of_mem _ (List.mem_cons_of_mem _ List.mem_cons_self)))).num Eb.out) HX.out).mono ?_); rintro e wb ⟨sk, ak, nk, ck, rfl, hn, hb, hf⟩; have SB := Lib.hid (SZ.out.later hb); have xb := KU.out _ _ SB.out; have NB := Lib.hid hn; clear hn hb hf)
        | (go_at_call 22; (with_reducible refine (gcd_z NA.out ((SA.out.box (w.heap.size, sa, .slice aa na ca, digs (za : Int).natAbs) (List.mem_cons_of_mem _ (List.mem_cons_of_mem _ (List.mem_cons_of_mem _ List.mem_cons_self)))).num Ea.out) HY.out HW.out HNG.out).mono ?_); rintro e wc1 ⟨sr, ar, nr, cr, rfl, hn, hb, hf⟩; have SC := Lib.hid (SA.out.later hb); have xc := KK.out _ SC.out; have xcz := KU.out _ _ SC.out.zero; have RC := Lib.hid (SA.out.ret (sg := sr) hb hn.2 hf); have xcr := KU.out _ _ RC.out; have EC := Lib.hid hn.1; clear hn hb hf)
        | (go_at_call 22; (with_reducible refine (gcd_z (NA.out.later (below_alloc _ _)) ((SAZ.out.box (w.heap.size, sa, .slice aa na ca, digs (za : Int).natAbs) (List.mem_cons_of_mem _ (List.mem_cons_of_mem _ (List.mem_cons_of_mem _ (List.mem_cons_of_mem _ List.mem_cons_self))))).num Ea.out) HY.out HW.out HNG.out).mono ?_); rintro e wd ⟨sr, ar, nr, cr, rfl, hn, hb, hf⟩; have xx := KU.out _ _ (SAZ.out.later hb); obtain ⟨z1, z2⟩ := ((SAZ.out.later hb).box (wa.heap.size, 0, .slice none 0 0, []) List.mem_cons_self).cells; obtain ⟨z3, z4⟩ := ((SAZ.out.later hb).box (wa.heap.size, 0, .slice none 0 0, []) List.mem_cons_self).free; have Rd : Hid (Sq w ((wa.heap.size, sr, .slice ar nr cr, digs (zg : Int).natAbs) :: [(w15.heap.size, s15, .slice a15 n15 c15, digs (zg : Int).natAbs), (w.heap.size + 1 + 1, sc, .slice ac nc cc, digs (zc : Int).natAbs), (w.heap.size + 1, sb, .slice ab nb cb, digs (zb : Int).natAbs), (w.heap.size, sa, .slice aa na ca, digs (za : Int).natAbs)]) _) := Lib.hid (Sq.setb (b := wa.heap.size) (pre := []) SAZ.out hb (sg' := sr) hn.2 hf); have xds := KU.out _ _ Rd.out; have xd := xx; have ED := Lib.hid hn.1; clear hn hb hf xx)
        | (go_at_call 22; (with_reducible refine (gcd_z NB.out ((SB.out.box (w.heap.size, sa, .slice aa na ca, digs (za : Int).natAbs) (List.mem_cons_of_mem _ (List.mem_cons_of_mem _ (List.mem_cons_of_mem _ (List.mem_cons_of_mem _ List.mem_cons_self))))).num Ea.out) HY.out HW.out HNG.out).mono ?_); rintro e we ⟨sr, ar, nr, cr, rfl, hn, hb, hf⟩; have xx := KU.out _ _ (SB.out.later hb); obtain ⟨z1, z2⟩ := ((SB.out.later hb).box (wz.heap.size, 0, .slice none 0 0, []) List.mem_cons_self).cells; obtain ⟨z3, z4⟩ := ((SB.out.later hb).box (wz.heap.size, 0, .slice none 0 0, []) List.mem_cons_self).free; have Re : Hid (Sq w ((wz.heap.size, sr, .slice ar nr cr, digs (zg : Int).natAbs) :: [(w15.heap.size, s15, .slice a15 n15 c15, digs (zg : Int).natAbs), (w.heap.size + 1 + 1, sc, .slice ac nc cc, digs (zc : Int).natAbs), (w.heap.size + 1, sb, .slice ab nb cb, digs (zb : Int).natAbs), (w.heap.size, sa, .slice aa na ca, digs (za : Int).natAbs)]) _) := Lib.hid (Sq.setb (b := wz.heap.size) (pre := []) SB.out hb (sg' := sr) hn.2 hf); have xes := KU.out _ _ Re.out; have xe := xx; have EE := Lib.hid hn.1; clear hn hb hf xx))
    all_goals (go_wp2_with fail; go_meet; refine ⟨rfl, ?_⟩; first | exact ⟨_, _, _, _, _, rfl, EC.out, RC.out⟩ | exact ⟨_, _, _, _, _, rfl, ED.out, Rd.out⟩ | exact ⟨_, _, _, _, _, rfl, EE.out, Re.out⟩)
  case rest =>
  obtain ⟨rfl, hq⟩ := hcut
  obtain ⟨g16, s16, a16, n16, c16, rfl, e16, h16⟩ := hq.out
  obtain ⟨w16, rfl⟩ : ∃ W, W = wc := ⟨_, rfl⟩
  have S16 := Lib.hid h16
  have E16 := Lib.hid e16
  clear hq e16 h16 S15
  have hz : (zg = 0 ∧ za = 0 ∧ zb = 0) ∨ (0 < zg ∧ za = 0 ∧ zb ≠ 0) ∨ (0 < zg ∧ za ≠ 0 ∧ zb = 0) ∨ (0 < zg ∧ za ≠ 0 ∧ zb ≠ 0) := gcd_cases Hzg.out
  rcases hz with ⟨k0, k1, k2⟩ | ⟨k0, k1, k2⟩ | ⟨k0, k1, k2⟩ | ⟨k0, k1, k2⟩
  case inl =>
    subst k1
    obtain rfl : sa = 0 := Ea.out
    subst k2
    obtain rfl : sb = 0 := Eb.out
    have KG := Lib.hid k0
    clear k0
    obtain rfl : s15 = 0 := E15.out.trans (by rw [KG.out]; rfl)
    obtain rfl : s16 = 0 := E16.out.trans (by rw [KG.out]; rfl)
    obtain ⟨t9, u9⟩ := (S16.out.box (w15.heap.size, 0, .slice a15 n15 c15, digs (zg : Int).natAbs) (List.mem_cons_of_mem _ List.mem_cons_self)).cells
    obtain ⟨t10, u10⟩ := (S16.out.box (g16, 0, .slice a16 n16 c16, digs (zg : Int).natAbs) List.mem_cons_self).cells
    go_wp2_with fail
    clear t9 u9 t10 u10
    refine (same_t ((S16.out.box (w15.heap.size, 0, .slice a15 n15 c15, digs (zg : Int).natAbs) (List.mem_cons_of_mem _ List.mem_cons_self)).num E15.out) ((S16.out.box (g16, 0, .slice a16 n16 c16, digs (zg : Int).natAbs) List.mem_cons_self).num E16.out) rfl).mono ?_
    rintro e w17 ⟨rfl, hb⟩
    have S18 := Lib.hid (S16.out.later hb)
    clear S16
    clear hb
    obtain ⟨t11, u11⟩ := (S18.out.box (w.heap.size, 0, .slice aa na ca, digs (0 : Int).natAbs) (List.mem_cons_of_mem _ (List.mem_cons_of_mem _ (List.mem_cons_of_mem _ (List.mem_cons_of_mem _ List.mem_cons_self))))).cells
    obtain ⟨t12, u12⟩ := (S18.out.box (w.heap.size + 1 + 1, sc, .slice ac nc cc, digs (zc : Int).natAbs) (List.mem_cons_of_mem _ (List.mem_cons_of_mem _ List.mem_cons_self))).cells
    obtain ⟨t13, u13⟩ := (S18.out.box (w15.heap.size, 0, .slice a15 n15 c15, digs (zg : Int).natAbs) (List.mem_cons_of_mem _ List.mem_cons_self)).cells
    obtain ⟨t14, u14⟩ := (S18.out.box (w.heap.size + 1, 0, .slice ab nb cb, digs (0 : Int).natAbs) (List.mem_cons_of_mem _ (List.mem_cons_of_mem _ (List.mem_cons_of_mem _ List.mem_cons_self)))).cells
    go_wp2_with fail
    clear t11 u11 t12 u12 t13 u13 t14 u14
    refine (mul_k ((S18.out.box (w.heap.size, 0, .slice aa na ca, digs (0 : Int).natAbs) (List.mem_cons_of_mem _ (List.mem_cons_of_mem _ (List.mem_cons_of_mem _ (List.mem_cons_of_mem _ List.mem_cons_self))))).num Ea.out) ((S18.out.box (w.heap.size + 1 + 1, sc, .slice ac nc cc, digs (zc : Int).natAbs) (List.mem_cons_of_mem _ (List.mem_cons_of_mem _ List.mem_cons_self))).num Ec.out) (Sz.len Za.out) (Sz.len Zc.out)).mono ?_
    rintro e w19 ⟨s19, a19, n19, c19, rfl, hn, hb, hf⟩
    have S19 := Lib.hid (S18.out.ret (sg := s19) hb hn.2 hf)
    have E19 := Lib.hid hn.1
    clear hn hb hf S18
    obtain ⟨t15, u15⟩ := (S19.out.box (w.heap.size + 1, 0, .slice ab nb cb, digs (0 : Int).natAbs) (List.mem_cons_of_mem _ (List.mem_cons_of_mem _ (List.mem_cons_of_mem _ (List.mem_cons_of_mem _ List.mem_cons_self))))).cells
    obtain ⟨t16, u16⟩ := (S19.out.box (w.heap.size + 1 + 1, sc, .slice ac nc cc, digs (zc : Int).natAbs) (List.mem_cons_of_mem _ (List.mem_cons_of_mem _ (List.mem_cons_of_mem _ List.mem_cons_self)))).cells
    go_wp2_with fail
    clear t15 u15 t16 u16
    refine (mul_k ((S19.out.box (w.heap.size + 1, 0, .slice ab nb cb, digs (0 : Int).natAbs) (List.mem_cons_of_mem _ (List.mem_cons_of_mem _ (List.mem_cons_of_mem _ (List.mem_cons_of_mem _ List.mem_cons_self))))).num Eb.out) ((S19.out.box (w.heap.size + 1 + 1, sc, .slice ac nc cc, digs (zc : Int).natAbs) (List.mem_cons_of_mem _ (List.mem_cons_of_mem _ (List.mem_cons_of_mem _ List.mem_cons_self)))).num Ec.out) (Sz.len Zb.out) (Sz.len Zc.out)).mono ?_
    rintro e w20 ⟨s20, a20, n20, c20, rfl, hn, hb, hf⟩
    have S20 := Lib.hid (S19.out.ret (sg := s20) hb hn.2 hf)
    have E20 := Lib.hid hn.1
    clear hn hb hf S19
    obtain ⟨zk, hzk⟩ : ∃ z : Int, ((Nat.gcd ((0 * zc) : Int).natAbs ((0 * zc) : Int).natAbs : Nat) : Int) = z := ⟨_, rfl⟩
    have Hzk := Lib.hid hzk
    clear hzk
    obtain ⟨t17, u17⟩ := (S20.out.box (w19.heap.size, s19, .slice a19 n19 c19, digs ((0 * zc) : Int).natAbs) (List.mem_cons_of_mem _ List.mem_cons_self)).cells
    obtain ⟨t18, u18⟩ := (S20.out.box (w20.heap.size, s20, .slice a20 n20 c20, digs ((0 * zc) : Int).natAbs) List.mem_cons_self).cells
    go_wp2_with fail
    clear t17 u17 t18 u18
    refine (gcd_z ((S20.out.box (w19.heap.size, s19, .slice a19 n19 c19, digs ((0 * zc) : Int).natAbs) (List.mem_cons_of_mem _ List.mem_cons_self)).num E19.out) ((S20.out.box (w20.heap.size, s20, .slice a20 n20 c20, digs ((0 * zc) : Int).natAbs) List.mem_cons_self).num E20.out) (Sz.len (Sz.mul Za.out Zc.out)) (Sz.len (Sz.mul Zb.out Zc.out)) Hzk.out).mono ?_
    rintro e w21 ⟨s21, a21, n21, c21, rfl, hn, hb, hf⟩
    have S21 := Lib.hid (S20.out.ret (sg := s21) hb hn.2 hf)
    have E21 := Lib.hid hn.1
    clear hn hb hf S20
    obtain ⟨t19, u19⟩ := (S21.out.box (w15.heap.size, 0, .slice a15 n15 c15, digs (zg : Int).natAbs) (List.mem_cons_of_mem _ (List.mem_cons_of_mem _ (List.mem_cons_of_mem _ (List.mem_cons_of_mem _ List.mem_cons_self))))).cells
    obtain ⟨t20, u20⟩ := (S21.out.box (w.heap.size + 1 + 1, sc, .slice ac nc cc, digs (zc : Int).natAbs) (List.mem_cons_of_mem _ (List.mem_cons_of_mem _ (List.mem_cons_of_mem _ (List.mem_cons_of_mem _ (List.mem_cons_of_mem _ List.mem_cons_self)))))).cells
    go_wp2_with fail
    clear t19 u19 t20 u20
    refine (mul_k ((S21.out.box (w15.heap.size, 0, .slice a15 n15 c15, digs (zg : Int).natAbs) (List.mem_cons_of_mem _ (List.mem_cons_of_mem _ (List.mem_cons_of_mem _ (List.mem_cons_of_mem _ List.mem_cons_self))))).num E15.out) ((S21.out.box (w.heap.size + 1 + 1, sc, .slice ac nc cc, digs (zc : Int).natAbs) (List.mem_cons_of_mem _ (List.mem_cons_of_mem _ (List.mem_cons_of_mem _ (List.mem_cons_of_mem _ (List.mem_cons_of_mem _ List.mem_cons_self)))))).num Ec.out) (Sz.len (Sz.gcd Za.out Zb.out Hzg.out)) (Sz.len Zc.out)).mono ?_
    rintro e w22 ⟨s22, a22, n22, c22, rfl, hn, hb, hf⟩
    have S22 := Lib.hid (S21.out.ret (sg := s22) hb hn.2 hf)
    have E22 := Lib.hid hn.1
    clear hn hb hf S21
    have HK : Hid (zk = zg * (zc.natAbs : Int)) := by have h1 := Hzk.out; have h2 := Hzg.out; show _ = _; rw [← h1, ← h2]; exact gcd_mulc _ _ _
    have hc := Int.lt_or_le zc 0
    rcases hc with hc | hc
    case inl =>
      obtain rfl : sc = -1 := Ec.out.trans (Int.sign_eq_neg_one_of_neg hc)
      have HS : Hid (zk = -(zg * zc)) := by have := HK.out; show _ = _; rw [this, show (zc.natAbs : Int) = -zc by omega, Int.mul_neg]
      clear hc
      obtain ⟨t21, u21⟩ := (S22.out.box (w.heap.size + 1 + 1, (-1), .slice ac nc cc, digs (zc : Int).natAbs) (List.mem_cons_of_mem _ (List.mem_cons_of_mem _ (List.mem_cons_of_mem _ (List.mem_cons_of_mem _ (List.mem_cons_of_mem _ (List.mem_cons_of_mem _ List.mem_cons_self))))))).cells
      obtain ⟨t22, u22⟩ := (S22.out.box (w22.heap.size, s22, .slice a22 n22 c22, digs ((zg * zc) : Int).natAbs) List.mem_cons_self).cells
      go_wp2_with fail
      clear t21 u21 t22 u22
      refine (neg_k ((S22.out.box (w22.heap.size, s22, .slice a22 n22 c22, digs ((zg * zc) : Int).natAbs) List.mem_cons_self).num E22.out) (Sz.len (Sz.mul (Sz.gcd Za.out Zb.out Hzg.out) Zc.out))).mono ?_
      rintro e w23 ⟨s23, a23, n23, c23, rfl, hn, hb, hf⟩
      have F23 := Lib.hid ((S22.out.later hb).box (w22.heap.size, s22, .slice a22 n22 c22, digs ((zg * zc) : Int).natAbs) List.mem_cons_self)
      have S23 : Hid (Sq w [(w22.heap.size, s23, .slice a23 n23 c23, digs ((-(zg * zc)) : Int).natAbs), (w21.heap.size, s21, .slice a21 n21 c21, digs (zk : Int).natAbs), (w20.heap.size, s20, .slice a20 n20 c20, digs ((0 * zc) : Int).natAbs), (w19.heap.size, s19, .slice a19 n19 c19, digs ((0 * zc) : Int).natAbs), (g16, 0, .slice a16 n16 c16, digs (zg : Int).natAbs), (w15.heap.size, 0, .slice a15 n15 c15, digs (zg : Int).natAbs), (w.heap.size + 1 + 1, (-1), .slice ac nc cc, digs (zc : Int).natAbs), (w.heap.size + 1, 0, .slice ab nb cb, digs (0 : Int).natAbs), (w.heap.size, 0, .slice aa na ca, digs (0 : Int).natAbs)] _) := Lib.hid (Sq.setb (pre := []) (post := [(w21.heap.size, s21, .slice a21 n21 c21, digs (zk : Int).natAbs), (w20.heap.size, s20, .slice a20 n20 c20, digs ((0 * zc) : Int).natAbs), (w19.heap.size, s19, .slice a19 n19 c19, digs ((0 * zc) : Int).natAbs), (g16, 0, .slice a16 n16 c16, digs (zg : Int).natAbs), (w15.heap.size, 0, .slice a15 n15 c15, digs (zg : Int).natAbs), (w.heap.size + 1 + 1, (-1), .slice ac nc cc, digs (zc : Int).natAbs), (w.heap.size + 1, 0, .slice ab nb cb, digs (0 : Int).natAbs), (w.heap.size, 0, .slice aa na ca, digs (0 : Int).natAbs)]) S22.out hb (sg' := s23) hn.2 hf)
      have E23 := Lib.hid hn.1
      clear hn hb hf S22
      obtain ⟨fa, fb⟩ := F23.out.free
      obtain ⟨fc, fd⟩ := F23.out.cells
      clear F23
      obtain ⟨t23, u23⟩ := (S23.out.box (w21.heap.size, s21, .slice a21 n21 c21, digs (zk : Int).natAbs) (List.mem_cons_of_mem _ List.mem_cons_self)).cells
      obtain ⟨t24, u24⟩ := (S23.out.box (w22.heap.size, s23, .slice a23 n23 c23, digs ((-(zg * zc)) : Int).natAbs) List.mem_cons_self).cells
      go_wp2_with fail
      clear fa fb fc fd t23 u23 t24 u24
      refine (same_t ((S23.out.box (w21.heap.size, s21, .slice a21 n21 c21, digs (zk : Int).natAbs) (List.mem_cons_of_mem _ List.mem_cons_self)).num E21.out) ((S23.out.box (w22.heap.size, s23, .slice a23 n23 c23, digs ((-(zg * zc)) : Int).natAbs) List.mem_cons_self).num E23.out) HS.out).mono ?_
      rintro e w24 ⟨rfl, hb⟩
      have S25 := Lib.hid (S23.out.later hb)
      clear S23
      clear hb
      go_wp2_with fail
      go_ret
      exact ⟨rfl, S25.out.below⟩
    case inr =>
      have HS : Hid (zk = zg * zc) := by have := HK.out; show _ = _; rw [this, show (zc.natAbs : Int) = zc by omega]
      have hn : (zc.sign = 0 ∨ zc.sign = 1) := by rcases Int.lt_or_le 0 zc with h | h; (right; exact Int.sign_eq_one_of_pos h); (left; rw [show zc = 0 by omega]; rfl)
      have hsc : decide (sc < 0) = false := decide_eq_false (by have := Ec.out; rw [this]; omega)
      clear hc hn
      obtain ⟨t25, u25⟩ := (S22.out.box (w.heap.size + 1 + 1, sc, .slice ac nc cc, digs (zc : Int).natAbs) (List.mem_cons_of_mem _ (List.mem_cons_of_mem _ (List.mem_cons_of_mem _ (List.mem_cons_of_mem _ (List.mem_cons_of_mem _ (List.mem_cons_of_mem _ List.mem_cons_self))))))).cells
      obtain ⟨t26, u26⟩ := (S22.out.box (w21.heap.size, s21, .slice a21 n21 c21, digs (zk : Int).natAbs) (List.mem_cons_of_mem _ List.mem_cons_self)).cells
      obtain ⟨t27, u27⟩ := (S22.out.box (w22.heap.size, s22, .slice a22 n22 c22, digs ((zg * zc) : Int).natAbs) List.mem_cons_self).cells
      go_wp2_with fail
      clear hsc t25 u25 t26 u26 t27 u27
      refine (same_t ((S22.out.box (w21.heap.size, s21, .slice a21 n21 c21, digs (zk : Int).natAbs) (List.mem_cons_of_mem _ List.mem_cons_self)).num E21.out) ((S22.out.box (w22.heap.size, s22, .slice a22 n22 c22, digs ((zg * zc) : Int).natAbs) List.mem_cons_self).num E22.out) HS.out).mono ?_
      rintro e w26 ⟨rfl, hb⟩
      have S27 := Lib.hid (S22.out.later hb)
      clear S22
      clear hb
      go_wp2_with fail
      go_ret
      exact ⟨rfl, S27.out.below⟩
  case inr.inl =>
    subst k1
    obtain rfl : sa = 0 := Ea.out
    have KB := Lib.hid k2
    clear k2
    have kb : (sb == 0) = false := by have h : sb ≠ 0 := (by rw [Eb.out]; exact fun h => KB.out (Int.sign_eq_zero_iff_zero.1 h)); simpa using h
    have KG := Lib.hid k0
    clear k0
    obtain rfl : s15 = 1 := E15.out.trans (Int.sign_eq_one_of_pos KG.out)
    obtain rfl : s16 = 1 := E16.out.trans (Int.sign_eq_one_of_pos KG.out)
    have KN : Hid (zg ≠ 0) := by have := KG.out; show zg ≠ 0; omega
    obtain ⟨t28, u28⟩ := (S16.out.box (w15.heap.size, 1, .slice a15 n15 c15, digs (zg : Int).natAbs) (List.mem_cons_of_mem _ List.mem_cons_self)).cells
    obtain ⟨t29, u29⟩ := (S16.out.box (g16, 1, .slice a16 n16 c16, digs (zg : Int).natAbs) List.mem_cons_self).cells
    go_wp2_with fail
    clear t28 u28 t29 u29
    refine (same_t ((S16.out.box (w15.heap.size, 1, .slice a15 n15 c15, digs (zg : Int).natAbs) (List.mem_cons_of_mem _ List.mem_cons_self)).num E15.out) ((S16.out.box (g16, 1, .slice a16 n16 c16, digs (zg : Int).natAbs) List.mem_cons_self).num E16.out) rfl).mono ?_
    rintro e w28 ⟨rfl, hb⟩
    have S29 := Lib.hid (S16.out.later hb)
    clear S16
    clear hb
    obtain ⟨t30, u30⟩ := (S29.out.box (w15.heap.size, 1, .slice a15 n15 c15, digs (zg : Int).natAbs) (List.mem_cons_of_mem _ List.mem_cons_self)).cells
    obtain ⟨t31, u31⟩ := (S29.out.box (w.heap.size, 0, .slice aa na ca, digs (0 : Int).natAbs) (List.mem_cons_of_mem _ (List.mem_cons_of_mem _ (List.mem_cons_of_mem _ (List.mem_cons_of_mem _ List.mem_cons_self))))).cells
    obtain ⟨t32, u32⟩ := (S29.out.box (w.heap.size + 1, sb, .slice ab nb cb, digs (zb : Int).natAbs) (List.mem_cons_of_mem _ (List.mem_cons_of_mem _ (List.mem_cons_of_mem _ List.mem_cons_self)))).cells
    go_wp2_with fail
    clear t30 u30 t31 u31 t32 u32
    refine (div_k ((S29.out.box (w.heap.size, 0, .slice aa na ca, digs (0 : Int).natAbs) (List.mem_cons_of_mem _ (List.mem_cons_of_mem _ (List.mem_cons_of_mem _ (List.mem_cons_of_mem _ List.mem_cons_self))))).num Ea.out) ((S29.out.box (w15.heap.size, 1, .slice a15 n15 c15, digs (zg : Int).natAbs) (List.mem_cons_of_mem _ List.mem_cons_self)).num E15.out) (Sz.len Za.out) (Sz.len (Sz.gcd Za.out Zb.out Hzg.out)) KN.out).mono ?_
    rintro e w30 ⟨s30, a30, n30, c30, t30, b30, m30, d30, rfl, hn, hm, hb, hf, hg⟩
    have S30 := Lib.hid (S29.out.ret2 (sg := s30) (tg := t30) hb hn.2 hf hm.2 hg)
    have E30 := Lib.hid hn.1
    have D30 := Lib.hid hm.1
    clear hn hm hb hf hg S29
    obtain ⟨t33, u33⟩ := (S30.out.box (w.heap.size + 1, sb, .slice ab nb cb, digs (zb : Int).natAbs) (List.mem_cons_of_mem _ (List.mem_cons_of_mem _ (List.mem_cons_of_mem _ (List.mem_cons_of_mem _ (List.mem_cons_of_mem _ List.mem_cons_self)))))).cells
    obtain ⟨t34, u34⟩ := (S30.out.box (w15.heap.size, 1, .slice a15 n15 c15, digs (zg : Int).natAbs) (List.mem_cons_of_mem _ (List.mem_cons_of_mem _ (List.mem_cons_of_mem _ List.mem_cons_self)))).cells
    go_wp2_with fail
    clear t33 u33 t34 u34
    refine (div_k ((S30.out.box (w.heap.size + 1, sb, .slice ab nb cb, digs (zb : Int).natAbs) (List.mem_cons_of_mem _ (List.mem_cons_of_mem _ (List.mem_cons_of_mem _ (List.mem_cons_of_mem _ (List.mem_cons_of_mem _ List.mem_cons_self)))))).num Eb.out) ((S30.out.box (w15.heap.size, 1, .slice a15 n15 c15, digs (zg : Int).natAbs) (List.mem_cons_of_mem _ (List.mem_cons_of_mem _ (List.mem_cons_of_mem _ List.mem_cons_self)))).num E15.out) (Sz.len Zb.out) (Sz.len (Sz.gcd Za.out Zb.out Hzg.out)) KN.out).mono ?_
    rintro e w31 ⟨s31, a31, n31, c31, t31, b31, m31, d31, rfl, hn, hm, hb, hf, hg⟩
    have S31 := Lib.hid (S30.out.ret2 (sg := s31) (tg := t31) hb hn.2 hf hm.2 hg)
    have E31 := Lib.hid hn.1
    have D31 := Lib.hid hm.1
    clear hn hm hb hf hg S30
    have hd := gcd_fm Hzg.out KN.out
    obtain rfl : t30 = 0 := D30.out.trans (by rw [hd.1]; rfl)
    obtain rfl : t31 = 0 := D31.out.trans (by rw [hd.2]; rfl)
    clear hd
    obtain ⟨t35, u35⟩ := (S31.out.box (w.heap.size, 0, .slice aa na ca, digs (0 : Int).natAbs) (List.mem_cons_of_mem _ (List.mem_cons_of_mem _ (List.mem_cons_of_mem _ (List.mem_cons_of_mem _ (List.mem_cons_of_mem _ (List.mem_cons_of_mem _ (List.mem_cons_of_mem _ (List.mem_cons_of_mem _ List.mem_cons_self))))))))).cells
    obtain ⟨t36, u36⟩ := (S31.out.box (w.heap.size + 1 + 1, sc, .slice ac nc cc, digs (zc : Int).natAbs) (List.mem_cons_of_mem _ (List.mem_cons_of_mem _ (List.mem_cons_of_mem _ (List.mem_cons_of_mem _ (List.mem_cons_of_mem _ (List.mem_cons_of_mem _ List.mem_cons_self))))))).cells
    obtain ⟨t37, u37⟩ := (S31.out.box (w30.heap.size + 1, 0, .slice b30 m30 d30, digs (((0 : Int).fmod zg) : Int).natAbs) (List.mem_cons_of_mem _ (List.mem_cons_of_mem _ List.mem_cons_self))).cells
    obtain ⟨t38, u38⟩ := (S31.out.box (w31.heap.size + 1, 0, .slice b31 m31 d31, digs (((zb : Int).fmod zg) : Int).natAbs) List.mem_cons_self).cells
    go_wp2_with fail
    clear t35 u35 t36 u36 t37 u37 t38 u38
    refine (mul_k ((S31.out.box (w.heap.size, 0, .slice aa na ca, digs (0 : Int).natAbs) (List.mem_cons_of_mem _ (List.mem_cons_of_mem _ (List.mem_cons_of_mem _ (List.mem_cons_of_mem _ (List.mem_cons_of_mem _ (List.mem_cons_of_mem _ (List.mem_cons_of_mem _ (List.mem_cons_of_mem _ List.mem_cons_self))))))))).num Ea.out) ((S31.out.box (w.heap.size + 1 + 1, sc, .slice ac nc cc, digs (zc : Int).natAbs) (List.mem_cons_of_mem _ (List.mem_cons_of_mem _ (List.mem_cons_of_mem _ (List.mem_cons_of_mem _ (List.mem_cons_of_mem _ (List.mem_cons_of_mem _ List.mem_cons_self))))))).num Ec.out) (Sz.len Za.out) (Sz.len Zc.out)).mono ?_
    rintro e w32 ⟨s32, a32, n32, c32, rfl, hn, hb, hf⟩
    have S32 := Lib.hid (S31.out.ret (sg := s32) hb hn.2 hf)
    have E32 := Lib.hid hn.1
    clear hn hb hf S31
    obtain ⟨t39, u39⟩ := (S32.out.box (w.heap.size + 1, sb, .slice ab nb cb, digs (zb : Int).natAbs) (List.mem_cons_of_mem _ (List.mem_cons_of_mem _ (List.mem_cons_of_mem _ (List.mem_cons_of_mem _ (List.mem_cons_of_mem _ (List.mem_cons_of_mem _ (List.mem_cons_of_mem _ (List.mem_cons_of_mem _ List.mem_cons_self))))))))).cells
    obtain ⟨t40, u40⟩ := (S32.out.box (w.heap.size + 1 + 1, sc, .slice ac nc cc, digs (zc : Int).natAbs) (List.mem_cons_of_mem _ (List.mem_cons_of_mem _ (List.mem_cons_of_mem _ (List.mem_cons_of_mem _ (List.mem_cons_of_mem _ (List.mem_cons_of_mem _ (List.mem_cons_of_mem _ List.mem_cons_self)))))))).cells
    go_wp2_with fail
    clear t39 u39 t40 u40
    refine (mul_k ((S32.out.box (w.heap.size + 1, sb, .slice ab nb cb, digs (zb : Int).natAbs) (List.mem_cons_of_mem _ (List.mem_cons_of_mem _ (List.mem_cons_of_mem _ (List.mem_cons_of_mem _ (List.mem_cons_of_mem _ (List.mem_cons_of_mem _ (List.mem_cons_of_mem _ (List.mem_cons_of_mem _ List.mem_cons_self))))))))).num Eb.out) ((S32.out.box (w.heap.size + 1 + 1, sc, .slice ac nc cc, digs (zc : Int).natAbs) (List.mem_cons_of_mem _ (List.mem_cons_of_mem _ (List.mem_cons_of_mem _ (List.mem_cons_of_mem _ (List.mem_cons_of_mem _ (List.mem_cons_of_mem _ (List.mem_cons_of_mem _ List.mem_cons_self)))))))).num Ec.out) (Sz.len Zb.out) (Sz.len Zc.out)).mono ?_
    rintro e w33 ⟨s33, a33, n33, c33, rfl, hn, hb, hf⟩
    have S33 := Lib.hid (S32.out.ret (sg := s33) hb hn.2 hf)
    have E33 := Lib.hid hn.1
    clear hn hb hf S32
    obtain ⟨zk, hzk⟩ : ∃ z : Int, ((Nat.gcd ((0 * zc) : Int).natAbs ((zb * zc) : Int).natAbs : Nat) : Int) = z := ⟨_, rfl⟩
    have Hzk := Lib.hid hzk
    clear hzk
    obtain ⟨t41, u41⟩ := (S33.out.box (w32.heap.size, s32, .slice a32 n32 c32, digs ((0 * zc) : Int).natAbs) (List.mem_cons_of_mem _ List.mem_cons_self)).cells
    obtain ⟨t42, u42⟩ := (S33.out.box (w33.heap.size, s33, .slice a33 n33 c33, digs ((zb * zc) : Int).natAbs) List.mem_cons_self).cells
    go_wp2_with fail
    clear t41 u41 t42 u42
    refine (gcd_z ((S33.out.box (w32.heap.size, s32, .slice a32 n32 c32, digs ((0 * zc) : Int).natAbs) (List.mem_cons_of_mem _ List.mem_cons_self)).num E32.out) ((S33.out.box (w33.heap.size, s33, .slice a33 n33 c33, digs ((zb * zc) : Int).natAbs) List.mem_cons_self).num E33.out) (Sz.len (Sz.mul Za.out Zc.out)) (Sz.len (Sz.mul Zb.out Zc.out)) Hzk.out).mono ?_
    rintro e w34 ⟨s34, a34, n34, c34, rfl, hn, hb, hf⟩
    have S34 := Lib.hid (S33.out.ret (sg := s34) hb hn.2 hf)
    have E34 := Lib.hid hn.1
    clear hn hb hf S33
    obtain ⟨t43, u43⟩ := (S34.out.box (w15.heap.size, 1, .slice a15 n15 c15, digs (zg : Int).natAbs) (List.mem_cons_of_mem _ (List.mem_cons_of_mem _ (List.mem_cons_of_mem _ (List.mem_cons_of_mem _ (List.mem_cons_of_mem _ (List.mem_cons_of_mem _ (List.mem_cons_of_mem _ (List.mem_cons_of_mem _ List.mem_cons_self))))))))).cells
    obtain ⟨t44, u44⟩ := (S34.out.box (w.heap.size + 1 + 1, sc, .slice ac nc cc, digs (zc : Int).natAbs) (List.mem_cons_of_mem _ (List.mem_cons_of_mem _ (List.mem_cons_of_mem _ (List.mem_cons_of_mem _ (List.mem_cons_of_mem _ (List.mem_cons_of_mem _ (List.mem_cons_of_mem _ (List.mem_cons_of_mem _ (List.mem_cons_of_mem _ List.mem_cons_self)))))))))).cells
    go_wp2_with fail
    clear t43 u43 t44 u44
    refine (mul_k ((S34.out.box (w15.heap.size, 1, .slice a15 n15 c15, digs (zg : Int).natAbs) (List.mem_cons_of_mem _ (List.mem_cons_of_mem _ (List.mem_cons_of_mem _ (List.mem_cons_of_mem _ (List.mem_cons_of_mem _ (List.mem_cons_of_mem _ (List.mem_cons_of_mem _ (List.mem_cons_of_mem _ List.mem_cons_self))))))))).num E15.out) ((S34.out.box (w.heap.size + 1 + 1, sc, .slice ac nc cc, digs (zc : Int).natAbs) (List.mem_cons_of_mem _ (List.mem_cons_of_mem _ (List.mem_cons_of_mem _ (List.mem_cons_of_mem _ (List.mem_cons_of_mem _ (List.mem_cons_of_mem _ (List.mem_cons_of_mem _ (List.mem_cons_of_mem _ (List.mem_cons_of_mem _ List.mem_cons_self)))))))))).num Ec.out) (Sz.len (Sz.gcd Za.out Zb.out Hzg.out)) (Sz.len Zc.out)).mono ?_
    rintro e w35 ⟨s35, a35, n35, c35, rfl, hn, hb, hf⟩
    have S35 := Lib.hid (S34.out.ret (sg := s35) hb hn.2 hf)
    have E35 := Lib.hid hn.1
    clear hn hb hf S34
    have HK : Hid (zk = zg * (zc.natAbs : Int)) := by have h1 := Hzk.out; have h2 := Hzg.out; show _ = _; rw [← h1, ← h2]; exact gcd_mulc _ _ _
    have hc := Int.lt_or_le zc 0
    rcases hc with hc | hc
    case inl =>
      obtain rfl : sc = -1 := Ec.out.trans (Int.sign_eq_neg_one_of_neg hc)
      have HS : Hid (zk = -(zg * zc)) := by have := HK.out; show _ = _; rw [this, show (zc.natAbs : Int) = -zc by omega, Int.mul_neg]
      clear hc
      obtain ⟨t45, u45⟩ := (S35.out.box (w.heap.size + 1 + 1, (-1), .slice ac nc cc, digs (zc : Int).natAbs) (List.mem_cons_of_mem _ (List.mem_cons_of_mem _ (List.mem_cons_of_mem _ (List.mem_cons_of_mem _ (List.mem_cons_of_mem _ (List.mem_cons_of_mem _ (List.mem_cons_of_mem _ (List.mem_cons_of_mem _ (List.mem_cons_of_mem _ (List.mem_cons_of_mem _ List.mem_cons_self))))))))))).cells
      obtain ⟨t46, u46⟩ := (S35.out.box (w35.heap.size, s35, .slice a35 n35 c35, digs ((zg * zc) : Int).natAbs) List.mem_cons_self).cells
      go_wp2_with fail
      clear t45 u45 t46 u46
      refine (neg_k ((S35.out.box (w35.heap.size, s35, .slice a35 n35 c35, digs ((zg * zc) : Int).natAbs) List.mem_cons_self).num E35.out) (Sz.len (Sz.mul (Sz.gcd Za.out Zb.out Hzg.out) Zc.out))).mono ?_
      rintro e w36 ⟨s36, a36, n36, c36, rfl, hn, hb, hf⟩
      have F36 := Lib.hid ((S35.out.later hb).box (w35.heap.size, s35, .slice a35 n35 c35, digs ((zg * zc) : Int).natAbs) List.mem_cons_self)
      have S36 : Hid (Sq w [(w35.heap.size, s36, .slice a36 n36 c36, digs ((-(zg * zc)) : Int).natAbs), (w34.heap.size, s34, .slice a34 n34 c34, digs (zk : Int).natAbs), (w33.heap.size, s33, .slice a33 n33 c33, digs ((zb * zc) : Int).natAbs), (w32.heap.size, s32, .slice a32 n32 c32, digs ((0 * zc) : Int).natAbs), (w31.heap.size + 1, 0, .slice b31 m31 d31, digs (((zb : Int).fmod zg) : Int).natAbs), (w31.heap.size, s31, .slice a31 n31 c31, digs (((zb : Int).fdiv zg) : Int).natAbs), (w30.heap.size + 1, 0, .slice b30 m30 d30, digs (((0 : Int).fmod zg) : Int).natAbs), (w30.heap.size, s30, .slice a30 n30 c30, digs (((0 : Int).fdiv zg) : Int).natAbs), (g16, 1, .slice a16 n16 c16, digs (zg : Int).natAbs), (w15.heap.size, 1, .slice a15 n15 c15, digs (zg : Int).natAbs), (w.heap.size + 1 + 1, (-1), .slice ac nc cc, digs (zc : Int).natAbs), (w.heap.size + 1, sb, .slice ab nb cb, digs (zb : Int).natAbs), (w.heap.size, 0, .slice aa na ca, digs (0 : Int).natAbs)] _) := Lib.hid (Sq.setb (pre := []) (post := [(w34.heap.size, s34, .slice a34 n34 c34, digs (zk : Int).natAbs), (w33.heap.size, s33, .slice a33 n33 c33, digs ((zb * zc) : Int).natAbs), (w32.heap.size, s32, .slice a32 n32 c32, digs ((0 * zc) : Int).natAbs), (w31.heap.size + 1, 0, .slice b31 m31 d31, digs (((zb : Int).fmod zg) : Int).natAbs), (w31.heap.size, s31, .slice a31 n31 c31, digs (((zb : Int).fdiv zg) : Int).natAbs), (w30.heap.size + 1, 0, .slice b30 m30 d30, digs (((0 : Int).fmod zg) : Int).natAbs), (w30.heap.size, s30, .slice a30 n30 c30, digs (((0 : Int).fdiv zg) : Int).natAbs), (g16, 1, .slice a16 n16 c16, digs (zg : Int).natAbs), (w15.heap.size, 1, .slice a15 n15 c15, digs (zg : Int).natAbs), (w.heap.size + 1 + 1, (-1), .slice ac nc cc, digs (zc : Int).natAbs), (w.heap.size + 1, sb, .slice ab nb cb, digs (zb : Int).natAbs), (w.heap.size, 0, .slice aa na ca, digs (0 : Int).natAbs)]) S35.out hb (sg' := s36) hn.2 hf)
      have E36 := Lib.hid hn.1
      clear hn hb hf S35
      obtain ⟨fa, fb⟩ := F36.out.free
      obtain ⟨fc, fd⟩ := F36.out.cells
      clear F36
      obtain ⟨t47, u47⟩ := (S36.out.box (w34.heap.size, s34, .slice a34 n34 c34, digs (zk : Int).natAbs) (List.mem_cons_of_mem _ List.mem_cons_self)).cells
      obtain ⟨t48, u48⟩ := (S36.out.box (w35.heap.size, s36, .slice a36 n36 c36, digs ((-(zg * zc)) : Int).natAbs) List.mem_cons_self).cells
      go_wp2_with fail
      clear fa fb fc fd t47 u47 t48 u48
      refine (same_t ((S36.out.box (w34.heap.size, s34, .slice a34 n34 c34, digs (zk : Int).natAbs) (List.mem_cons_of_mem _ List.mem_cons_self)).num E34.out) ((S36.out.box (w35.heap.size, s36, .slice a36 n36 c36, digs ((-(zg * zc)) : Int).natAbs) List.mem_cons_self).num E36.out) HS.out).mono ?_
      rintro e w37 ⟨rfl, hb⟩
      have S38 := Lib.hid (S36.out.later hb)
      clear S36
      clear hb
      go_wp2_with fail
      go_ret
      exact ⟨rfl, S38.out.below⟩
    case inr =>
      have HS : Hid (zk = zg * zc) := by have := HK.out; show _ = _; rw [this, show (zc.natAbs : Int) = zc by omega]
      have hn : (zc.sign = 0 ∨ zc.sign = 1) := by rcases Int.lt_or_le 0 zc with h | h; (right; exact Int.sign_eq_one_of_pos h); (left; rw [show zc = 0 by omega]; rfl)
      have hsc : decide (sc < 0) = false := decide_eq_false (by have := Ec.out; rw [this]; omega)
      clear hc hn
      obtain ⟨t49, u49⟩ := (S35.out.box (w.heap.size + 1 + 1, sc, .slice ac nc cc, digs (zc : Int).natAbs) (List.mem_cons_of_mem _ (List.mem_cons_of_mem _ (List.mem_cons_of_mem _ (List.mem_cons_of_mem _ (List.mem_cons_of_mem _ (List.mem_cons_of_mem _ (List.mem_cons_of_mem _ (List.mem_cons_of_mem _ (List.mem_cons_of_mem _ (List.mem_cons_of_mem _ List.mem_cons_self))))))))))).cells
      obtain ⟨t50, u50⟩ := (S35.out.box (w34.heap.size, s34, .slice a34 n34 c34, digs (zk : Int).natAbs) (List.mem_cons_of_mem _ List.mem_cons_self)).cells
      obtain ⟨t51, u51⟩ := (S35.out.box (w35.heap.size, s35, .slice a35 n35 c35, digs ((zg * zc) : Int).natAbs) List.mem_cons_self).cells
      go_wp2_with fail
      clear hsc t49 u49 t50 u50 t51 u51
      refine (same_t ((S35.out.box (w34.heap.size, s34, .slice a34 n34 c34, digs (zk : Int).natAbs) (List.mem_cons_of_mem _ List.mem_cons_self)).num E34.out) ((S35.out.box (w35.heap.size, s35, .slice a35 n35 c35, digs ((zg * zc) : Int).natAbs) List.mem_cons_self).num E35.out) HS.out).mono ?_
      rintro e w39 ⟨rfl, hb⟩
      have S40 := Lib.hid (S35.out.later hb)
      clear S35
      clear hb
      go_wp2_with fail
      go_ret
      exact ⟨rfl, S40.out.below⟩
  case inr.inr.inl =>
    have KA := Lib.hid k1
    clear k1
    have ka : (sa == 0) = false := by have h : sa ≠ 0 := (by rw [Ea.out]; exact fun h => KA.out (Int.sign_eq_zero_iff_zero.1 h)); simpa using h
    have ka2 : (sa != 0) = true := by simp [ka, bne]
    subst k2
    obtain rfl : sb = 0 := Eb.out
    have KG := Lib.hid k0
    clear k0
    obtain rfl : s15 = 1 := E15.out.trans (Int.sign_eq_one_of_pos KG.out)
    obtain rfl : s16 = 1 := E16.out.trans (Int.sign_eq_one_of_pos KG.out)
    have KN : Hid (zg ≠ 0) := by have := KG.out; show zg ≠ 0; omega
    obtain ⟨t52, u52⟩ := (S16.out.box (w15.heap.size, 1, .slice a15 n15 c15, digs (zg : Int).natAbs) (List.mem_cons_of_mem _ List.mem_cons_self)).cells
    obtain ⟨t53, u53⟩ := (S16.out.box (g16, 1, .slice a16 n16 c16, digs (zg : Int).natAbs) List.mem_cons_self).cells
    go_wp2_with fail
    clear t52 u52 t53 u53
    refine (same_t ((S16.out.box (w15.heap.size, 1, .slice a15 n15 c15, digs (zg : Int).natAbs) (List.mem_cons_of_mem _ List.mem_cons_self)).num E15.out) ((S16.out.box (g16, 1, .slice a16 n16 c16, digs (zg : Int).natAbs) List.mem_cons_self).num E16.out) rfl).mono ?_
    rintro e w41 ⟨rfl, hb⟩
    have S42 := Lib.hid (S16.out.later hb)
    clear S16
    clear hb
    obtain ⟨t54, u54⟩ := (S42.out.box (w15.heap.size, 1, .slice a15 n15 c15, digs (zg : Int).natAbs) (List.mem_cons_of_mem _ List.mem_cons_self)).cells
    obtain ⟨t55, u55⟩ := (S42.out.box (w.heap.size, sa, .slice aa na ca, digs (za : Int).natAbs) (List.mem_cons_of_mem _ (List.mem_cons_of_mem _ (List.mem_cons_of_mem _ (List.mem_cons_of_mem _ List.mem_cons_self))))).cells
    obtain ⟨t56, u56⟩ := (S42.out.box (w.heap.size + 1, 0, .slice ab nb cb, digs (0 : Int).natAbs) (List.mem_cons_of_mem _ (List.mem_cons_of_mem _ (List.mem_cons_of_mem _ List.mem_cons_self)))).cells
    go_wp2_with fail
    clear t54 u54 t55 u55 t56 u56
    refine (div_k ((S42.out.box (w.heap.size, sa, .slice aa na ca, digs (za : Int).natAbs) (List.mem_cons_of_mem _ (List.mem_cons_of_mem _ (List.mem_cons_of_mem _ (List.mem_cons_of_mem _ List.mem_cons_self))))).num Ea.out) ((S42.out.box (w15.heap.size, 1, .slice a15 n15 c15, digs (zg : Int).natAbs) (List.mem_cons_of_mem _ List.mem_cons_self)).num E15.out) (Sz.len Za.out) (Sz.len (Sz.gcd Za.out Zb.out Hzg.out)) KN.out).mono ?_
    rintro e w43 ⟨s43, a43, n43, c43, t43, b43, m43, d43, rfl, hn, hm, hb, hf, hg⟩
    have S43 := Lib.hid (S42.out.ret2 (sg := s43) (tg := t43) hb hn.2 hf hm.2 hg)
    have E43 := Lib.hid hn.1
    have D43 := Lib.hid hm.1
    clear hn hm hb hf hg S42
    obtain ⟨t57, u57⟩ := (S43.out.box (w.heap.size + 1, 0, .slice ab nb cb, digs (0 : Int).natAbs) (List.mem_cons_of_mem _ (List.mem_cons_of_mem _ (List.mem_cons_of_mem _ (List.mem_cons_of_mem _ (List.mem_cons_of_mem _ List.mem_cons_self)))))).cells
    obtain ⟨t58, u58⟩ := (S43.out.box (w15.heap.size, 1, .slice a15 n15 c15, digs (zg : Int).natAbs) (List.mem_cons_of_mem _ (List.mem_cons_of_mem _ (List.mem_cons_of_mem _ List.mem_cons_self)))).cells
    go_wp2_with fail
    clear t57 u57 t58 u58
    refine (div_k ((S43.out.box (w.heap.size + 1, 0, .slice ab nb cb, digs (0 : Int).natAbs) (List.mem_cons_of_mem _ (List.mem_cons_of_mem _ (List.mem_cons_of_mem _ (List.mem_cons_of_mem _ (List.mem_cons_of_mem _ List.mem_cons_self)))))).num Eb.out) ((S43.out.box (w15.heap.size, 1, .slice a15 n15 c15, digs (zg : Int).natAbs) (List.mem_cons_of_mem _ (List.mem_cons_of_mem _ (List.mem_cons_of_mem _ List.mem_cons_self)))).num E15.out) (Sz.len Zb.out) (Sz.len (Sz.gcd Za.out Zb.out Hzg.out)) KN.out).mono ?_
    rintro e w44 ⟨s44, a44, n44, c44, t44, b44, m44, d44, rfl, hn, hm, hb, hf, hg⟩
    have S44 := Lib.hid (S43.out.ret2 (sg := s44) (tg := t44) hb hn.2 hf hm.2 hg)
    have E44 := Lib.hid hn.1
    have D44 := Lib.hid hm.1
    clear hn hm hb hf hg S43
    have hd := gcd_fm Hzg.out KN.out
    obtain rfl : t43 = 0 := D43.out.trans (by rw [hd.1]; rfl)
    obtain rfl : t44 = 0 := D44.out.trans (by rw [hd.2]; rfl)
    clear hd
    obtain ⟨t59, u59⟩ := (S44.out.box (w.heap.size + 1, 0, .slice ab nb cb, digs (0 : Int).natAbs) (List.mem_cons_of_mem _ (List.mem_cons_of_mem _ (List.mem_cons_of_mem _ (List.mem_cons_of_mem _ (List.mem_cons_of_mem _ (List.mem_cons_of_mem _ (List.mem_cons_of_mem _ List.mem_cons_self)))))))).cells
    obtain ⟨t60, u60⟩ := (S44.out.box (w.heap.size, sa, .slice aa na ca, digs (za : Int).natAbs) (List.mem_cons_of_mem _ (List.mem_cons_of_mem _ (List.mem_cons_of_mem _ (List.mem_cons_of_mem _ (List.mem_cons_of_mem _ (List.mem_cons_of_mem _ (List.mem_cons_of_mem _ (List.mem_cons_of_mem _ List.mem_cons_self))))))))).cells
    obtain ⟨t61, u61⟩ := (S44.out.box (w43.heap.size + 1, 0, .slice b43 m43 d43, digs (((za : Int).fmod zg) : Int).natAbs) (List.mem_cons_of_mem _ (List.mem_cons_of_mem _ List.mem_cons_self))).cells
    obtain ⟨t62, u62⟩ := (S44.out.box (w44.heap.size + 1, 0, .slice b44 m44 d44, digs (((0 : Int).fmod zg) : Int).natAbs) List.mem_cons_self).cells
    go_wp2_with fail
    clear t59 u59 t60 u60 t61 u61 t62 u62
    refine (div_k ((S44.out.box (w.heap.size + 1, 0, .slice ab nb cb, digs (0 : Int).natAbs) (List.mem_cons_of_mem _ (List.mem_cons_of_mem _ (List.mem_cons_of_mem _ (List.mem_cons_of_mem _ (List.mem_cons_of_mem _ (List.mem_cons_of_mem _ (List.mem_cons_of_mem _ List.mem_cons_self)))))))).num Eb.out) ((S44.out.box (w.heap.size, sa, .slice aa na ca, digs (za : Int).natAbs) (List.mem_cons_of_mem _ (List.mem_cons_of_mem _ (List.mem_cons_of_mem _ (List.mem_cons_of_mem _ (List.mem_cons_of_mem _ (List.mem_cons_of_mem _ (List.mem_cons_of_mem _ (List.mem_cons_of_mem _ List.mem_cons_self))))))))).num Ea.out) (Sz.len Zb.out) (Sz.len Za.out) KA.out).mono ?_
    rintro e w45 ⟨s45, a45, n45, c45, t45, b45, m45, d45, rfl, hn, hm, hb, hf, hg⟩
    have S45 := Lib.hid (S44.out.ret2 (sg := s45) (tg := t45) hb hn.2 hf hm.2 hg)
    have E45 := Lib.hid hn.1
    have D45 := Lib.hid hm.1
    clear hn hm hb hf hg S44
    have HR : Hid (((Nat.gcd (za : Int).natAbs (((0 : Int).fmod za) : Int).natAbs : Nat) : Int) = zg) := by have := Hzg.out; show _ = _; rw [← this, gcd_fmod]
    obtain ⟨t63, u63⟩ := (S45.out.box (w.heap.size, sa, .slice aa na ca, digs (za : Int).natAbs) (List.mem_cons_of_mem _ (List.mem_cons_of_mem _ (List.mem_cons_of_mem _ (List.mem_cons_of_mem _ (List.mem_cons_of_mem _ (List.mem_cons_of_mem _ (List.mem_cons_of_mem _ (List.mem_cons_of_mem _ (List.mem_cons_of_mem _ (List.mem_cons_of_mem _ List.mem_cons_self))))))))))).cells
    obtain ⟨t64, u64⟩ := (S45.out.box (w45.heap.size + 1, t45, .slice b45 m45 d45, digs (((0 : Int).fmod za) : Int).natAbs) List.mem_cons_self).cells
    go_wp2_with fail
    clear t63 u63 t64 u64
    refine (gcd_z ((S45.out.box (w.heap.size, sa, .slice aa na ca, digs (za : Int).natAbs) (List.mem_cons_of_mem _ (List.mem_cons_of_mem _ (List.mem_cons_of_mem _ (List.mem_cons_of_mem _ (List.mem_cons_of_mem _ (List.mem_cons_of_mem _ (List.mem_cons_of_mem _ (List.mem_cons_of_mem _ (List.mem_cons_of_mem _ (List.mem_cons_of_mem _ List.mem_cons_self))))))))))).num Ea.out) ((S45.out.box (w45.heap.size + 1, t45, .slice b45 m45 d45, digs (((0 : Int).fmod za) : Int).natAbs) List.mem_cons_self).num D45.out) (Sz.len Za.out) (Sz.len (Sz.fmod Za.out KA.out)) HR.out).mono ?_
    rintro e w46 ⟨s46, a46, n46, c46, rfl, hn, hb, hf⟩
    have S46 := Lib.hid (S45.out.ret (sg := s46) hb hn.2 hf)
    have E46 := Lib.hid hn.1
    clear hn hb hf S45
    obtain ⟨t65, u65⟩ := (S46.out.box (w46.heap.size, s46, .slice a46 n46 c46, digs (zg : Int).natAbs) List.mem_cons_self).cells
    obtain ⟨t66, u66⟩ := (S46.out.box (w15.heap.size, 1, .slice a15 n15 c15, digs (zg : Int).natAbs) (List.mem_cons_of_mem _ (List.mem_cons_of_mem _ (List.mem_cons_of_mem _ (List.mem_cons_of_mem _ (List.mem_cons_of_mem _ (List.mem_cons_of_mem _ (List.mem_cons_of_mem _ (List.mem_cons_of_mem _ List.mem_cons_self))))))))).cells
    go_wp2_with fail
    clear t65 u65 t66 u66
    refine (same_t ((S46.out.box (w46.heap.size, s46, .slice a46 n46 c46, digs (zg : Int).natAbs) List.mem_cons_self).num E46.out) ((S46.out.box (w15.heap.size, 1, .slice a15 n15 c15, digs (zg : Int).natAbs) (List.mem_cons_of_mem _ (List.mem_cons_of_mem _ (List.mem_cons_of_mem _ (List.mem_cons_of_mem _ (List.mem_cons_of_mem _ (List.mem_cons_of_mem _ (List.mem_cons_of_mem _ (List.mem_cons_of_mem _ List.mem_cons_self))))))))).num E15.out) rfl).mono ?_
    rintro e w47 ⟨rfl, hb⟩
    have S48 := Lib.hid (S46.out.later hb)
    clear S46
    clear hb
    obtain ⟨t67, u67⟩ := (S48.out.box (w.heap.size, sa, .slice aa na ca, digs (za : Int).natAbs) (List.mem_cons_of_mem _ (List.mem_cons_of_mem _ (List.mem_cons_of_mem _ (List.mem_cons_of_mem _ (List.mem_cons_of_mem _ (List.mem_cons_of_mem _ (List.mem_cons_of_mem _ (List.mem_cons_of_mem _ (List.mem_cons_of_mem _ (List.mem_cons_of_mem _ (List.mem_cons_of_mem _ List.mem_cons_self)))))))))))).cells
    obtain ⟨t68, u68⟩ := (S48.out.box (w.heap.size + 1 + 1, sc, .slice ac nc cc, digs (zc : Int).natAbs) (List.mem_cons_of_mem _ (List.mem_cons_of_mem _ (List.mem_cons_of_mem _ (List.mem_cons_of_mem _ (List.mem_cons_of_mem _ (List.mem_cons_of_mem _ (List.mem_cons_of_mem _ (List.mem_cons_of_mem _ (List.mem_cons_of_mem _ List.mem_cons_self)))))))))).cells
    go_wp2_with fail
    clear t67 u67 t68 u68
    refine (mul_k ((S48.out.box (w.heap.size, sa, .slice aa na ca, digs (za : Int).natAbs) (List.mem_cons_of_mem _ (List.mem_cons_of_mem _ (List.mem_cons_of_mem _ (List.mem_cons_of_mem _ (List.mem_cons_of_mem _ (List.mem_cons_of_mem _ (List.mem_cons_of_mem _ (List.mem_cons_of_mem _ (List.mem_cons_of_mem _ (List.mem_cons_of_mem _ (List.mem_cons_of_mem _ List.mem_cons_self)))))))))))).num Ea.out) ((S48.out.box (w.heap.size + 1 + 1, sc, .slice ac nc cc, digs (zc : Int).natAbs) (List.mem_cons_of_mem _ (List.mem_cons_of_mem _ (List.mem_cons_of_mem _ (List.mem_cons_of_mem _ (List.mem_cons_of_mem _ (List.mem_cons_of_mem _ (List.mem_cons_of_mem _ (List.mem_cons_of_mem _ (List.mem_cons_of_mem _ List.mem_cons_self)))))))))).num Ec.out) (Sz.len Za.out) (Sz.len Zc.out)).mono ?_
    rintro e w49 ⟨s49, a49, n49, c49, rfl, hn, hb, hf⟩
    have S49 := Lib.hid (S48.out.ret (sg := s49) hb hn.2 hf)
    have E49 := Lib.hid hn.1
    clear hn hb hf S48
    obtain ⟨t69, u69⟩ := (S49.out.box (w.heap.size + 1, 0, .slice ab nb cb, digs (0 : Int).natAbs) (List.mem_cons_of_mem _ (List.mem_cons_of_mem _ (List.mem_cons_of_mem _ (List.mem_cons_of_mem _ (List.mem_cons_of_mem _ (List.mem_cons_of_mem _ (List.mem_cons_of_mem _ (List.mem_cons_of_mem _ (List.mem_cons_of_mem _ (List.mem_cons_of_mem _ (List.mem_cons_of_mem _ List.mem_cons_self)))))))))))).cells
    obtain ⟨t70, u70⟩ := (S49.out.box (w.heap.size + 1 + 1, sc, .slice ac nc cc, digs (zc : Int).natAbs) (List.mem_cons_of_mem _ (List.mem_cons_of_mem _ (List.mem_cons_of_mem _ (List.mem_cons_of_mem _ (List.mem_cons_of_mem _ (List.mem_cons_of_mem _ (List.mem_cons_of_mem _ (List.mem_cons_of_mem _ (List.mem_cons_of_mem _ (List.mem_cons_of_mem _ List.mem_cons_self))))))))))).cells
    go_wp2_with fail
    clear t69 u69 t70 u70
    refine (mul_k ((S49.out.box (w.heap.size + 1, 0, .slice ab nb cb, digs (0 : Int).natAbs) (List.mem_cons_of_mem _ (List.mem_cons_of_mem _ (List.mem_cons_of_mem _ (List.mem_cons_of_mem _ (List.mem_cons_of_mem _ (List.mem_cons_of_mem _ (List.mem_cons_of_mem _ (List.mem_cons_of_mem _ (List.mem_cons_of_mem _ (List.mem_cons_of_mem _ (List.mem_cons_of_mem _ List.mem_cons_self)))))))))))).num Eb.out) ((S49.out.box (w.heap.size + 1 + 1, sc, .slice ac nc cc, digs (zc : Int).natAbs) (List.mem_cons_of_mem _ (List.mem_cons_of_mem _ (List.mem_cons_of_mem _ (List.mem_cons_of_mem _ (List.mem_cons_of_mem _ (List.mem_cons_of_mem _ (List.mem_cons_of_mem _ (List.mem_cons_of_mem _ (List.mem_cons_of_mem _ (List.mem_cons_of_mem _ List.mem_cons_self))))))))))).num Ec.out) (Sz.len Zb.out) (Sz.len Zc.out)).mono ?_
    rintro e w50 ⟨s50, a50, n50, c50, rfl, hn, hb, hf⟩
    have S50 := Lib.hid (S49.out.ret (sg := s50) hb hn.2 hf)
    have E50 := Lib.hid hn.1
    clear hn hb hf S49
    obtain ⟨zk, hzk⟩ : ∃ z : Int, ((Nat.gcd ((za * zc) : Int).natAbs ((0 * zc) : Int).natAbs : Nat) : Int) = z := ⟨_, rfl⟩
    have Hzk := Lib.hid hzk
    clear hzk
    obtain ⟨t71, u71⟩ := (S50.out.box (w49.heap.size, s49, .slice a49 n49 c49, digs ((za * zc) : Int).natAbs) (List.mem_cons_of_mem _ List.mem_cons_self)).cells
    obtain ⟨t72, u72⟩ := (S50.out.box (w50.heap.size, s50, .slice a50 n50 c50, digs ((0 * zc) : Int).natAbs) List.mem_cons_self).cells
    go_wp2_with fail
    clear t71 u71 t72 u72
    refine (gcd_z ((S50.out.box (w49.heap.size, s49, .slice a49 n49 c49, digs ((za * zc) : Int).natAbs) (List.mem_cons_of_mem _ List.mem_cons_self)).num E49.out) ((S50.out.box (w50.heap.size, s50, .slice a50 n50 c50, digs ((0 * zc) : Int).natAbs) List.mem_cons_self).num E50.out) (Sz.len (Sz.mul Za.out Zc.out)) (Sz.len (Sz.mul Zb.out Zc.out)) Hzk.out).mono ?_
    rintro e w51 ⟨s51, a51, n51, c51, rfl, hn, hb, hf⟩
    have S51 := Lib.hid (S50.out.ret (sg := s51) hb hn.2 hf)
    have E51 := Lib.hid hn.1
    clear hn hb hf S50
    obtain ⟨t73, u73⟩ := (S51.out.box (w15.heap.size, 1, .slice a15 n15 c15, digs (zg : Int).natAbs) (List.mem_cons_of_mem _ (List.mem_cons_of_mem _ (List.mem_cons_of_mem _ (List.mem_cons_of_mem _ (List.mem_cons_of_mem _ (List.mem_cons_of_mem _ (List.mem_cons_of_mem _ (List.mem_cons_of_mem _ (List.mem_cons_of_mem _ (List.mem_cons_of_mem _ (List.mem_cons_of_mem _ List.mem_cons_self)))))))))))).cells
    obtain ⟨t74, u74⟩ := (S51.out.box (w.heap.size + 1 + 1, sc, .slice ac nc cc, digs (zc : Int).natAbs) (List.mem_cons_of_mem _ (List.mem_cons_of_mem _ (List.mem_cons_of_mem _ (List.mem_cons_of_mem _ (List.mem_cons_of_mem _ (List.mem_cons_of_mem _ (List.mem_cons_of_mem _ (List.mem_cons_of_mem _ (List.mem_cons_of_mem _ (List.mem_cons_of_mem _ (List.mem_cons_of_mem _ (List.mem_cons_of_mem _ List.mem_cons_self))))))))))))).cells
    go_wp2_with fail
    clear t73 u73 t74 u74
    refine (mul_k ((S51.out.box (w15.heap.size, 1, .slice a15 n15 c15, digs (zg : Int).natAbs) (List.mem_cons_of_mem _ (List.mem_cons_of_mem _ (List.mem_cons_of_mem _ (List.mem_cons_of_mem _ (List.mem_cons_of_mem _ (List.mem_cons_of_mem _ (List.mem_cons_of_mem _ (List.mem_cons_of_mem _ (List.mem_cons_of_mem _ (List.mem_cons_of_mem _ (List.mem_cons_of_mem _ List.mem_cons_self)))))))))))).num E15.out) ((S51.out.box (w.heap.size + 1 + 1, sc, .slice ac nc cc, digs (zc : Int).natAbs) (List.mem_cons_of_mem _ (List.mem_cons_of_mem _ (List.mem_cons_of_mem _ (List.mem_cons_of_mem _ (List.mem_cons_of_mem _ (List.mem_cons_of_mem _ (List.mem_cons_of_mem _ (List.mem_cons_of_mem _ (List.mem_cons_of_mem _ (List.mem_cons_of_mem _ (List.mem_cons_of_mem _ (List.mem_cons_of_mem _ List.mem_cons_self))))))))))))).num Ec.out) (Sz.len (Sz.gcd Za.out Zb.out Hzg.out)) (Sz.len Zc.out)).mono ?_
    rintro e w52 ⟨s52, a52, n52, c52, rfl, hn, hb, hf⟩
    have S52 := Lib.hid (S51.out.ret (sg := s52) hb hn.2 hf)
    have E52 := Lib.hid hn.1
    clear hn hb hf S51
    have HK : Hid (zk = zg * (zc.natAbs : Int)) := by have h1 := Hzk.out; have h2 := Hzg.out; show _ = _; rw [← h1, ← h2]; exact gcd_mulc _ _ _
    have hc := Int.lt_or_le zc 0
    rcases hc with hc | hc
    case inl =>
      obtain rfl : sc = -1 := Ec.out.trans (Int.sign_eq_neg_one_of_neg hc)
      have HS : Hid (zk = -(zg * zc)) := by have := HK.out; show _ = _; rw [this, show (zc.natAbs : Int) = -zc by omega, Int.mul_neg]
      clear hc
      obtain ⟨t75, u75⟩ := (S52.out.box (w.heap.size + 1 + 1, (-1), .slice ac nc cc, digs (zc : Int).natAbs) (List.mem_cons_of_mem _ (List.mem_cons_of_mem _ (List.mem_cons_of_mem _ (List.mem_cons_of_mem _ (List.mem_cons_of_mem _ (List.mem_cons_of_mem _ (List.mem_cons_of_mem _ (List.mem_cons_of_mem _ (List.mem_cons_of_mem _ (List.mem_cons_of_mem _ (List.mem_cons_of_mem _ (List.mem_cons_of_mem _ (List.mem_cons_of_mem _ List.mem_cons_self)))))))))))))).cells
      obtain ⟨t76, u76⟩ := (S52.out.box (w52.heap.size, s52, .slice a52 n52 c52, digs ((zg * zc) : Int).natAbs) List.mem_cons_self).cells
      go_wp2_with fail
      clear t75 u75 t76 u76
      refine (neg_k ((S52.out.box (w52.heap.size, s52, .slice a52 n52 c52, digs ((zg * zc) : Int).natAbs) List.mem_cons_self).num E52.out) (Sz.len (Sz.mul (Sz.gcd Za.out Zb.out Hzg.out) Zc.out))).mono ?_
      rintro e w53 ⟨s53, a53, n53, c53, rfl, hn, hb, hf⟩
      have F53 := Lib.hid ((S52.out.later hb).box (w52.heap.size, s52, .slice a52 n52 c52, digs ((zg * zc) : Int).natAbs) List.mem_cons_self)
      have S53 : Hid (Sq w [(w52.heap.size, s53, .slice a53 n53 c53, digs ((-(zg * zc)) : Int).natAbs), (w51.heap.size, s51, .slice a51 n51 c51, digs (zk : Int).natAbs), (w50.heap.size, s50, .slice a50 n50 c50, digs ((0 * zc) : Int).natAbs), (w49.heap.size, s49, .slice a49 n49 c49, digs ((za * zc) : Int).natAbs), (w46.heap.size, s46, .slice a46 n46 c46, digs (zg : Int).natAbs), (w45.heap.size + 1, t45, .slice b45 m45 d45, digs (((0 : Int).fmod za) : Int).natAbs), (w45.heap.size, s45, .slice a45 n45 c45, digs (((0 : Int).fdiv za) : Int).natAbs), (w44.heap.size + 1, 0, .slice b44 m44 d44, digs (((0 : Int).fmod zg) : Int).natAbs), (w44.heap.size, s44, .slice a44 n44 c44, digs (((0 : Int).fdiv zg) : Int).natAbs), (w43.heap.size + 1, 0, .slice b43 m43 d43, digs (((za : Int).fmod zg) : Int).natAbs), (w43.heap.size, s43, .slice a43 n43 c43, digs (((za : Int).fdiv zg) : Int).natAbs), (g16, 1, .slice a16 n16 c16, digs (zg : Int).natAbs), (w15.heap.size, 1, .slice a15 n15 c15, digs (zg : Int).natAbs), (w.heap.size + 1 + 1, (-1), .slice ac nc cc, digs (zc : Int).natAbs), (w.heap.size + 1, 0, .slice ab nb cb, digs (0 : Int).natAbs), (w.heap.size, sa, .slice aa na ca, digs (za : Int).natAbs)] _) := Lib.hid (Sq.setb (pre := []) (post := [(w51.heap.size, s51, .slice a51 n51 c51, digs (zk : Int).natAbs), (w50.heap.size, s50, .slice a50 n50 c50, digs ((0 * zc) : Int).natAbs), (w49.heap.size, s49, .slice a49 n49 c49, digs ((za * zc) : Int).natAbs), (w46.heap.size, s46, .slice a46 n46 c46, digs (zg : Int).natAbs), (w45.heap.size + 1, t45, .slice b45 m45 d45, digs (((0 : Int).fmod za) : Int).natAbs), (w45.heap.size, s45, .slice a45 n45 c45, digs (((0 : Int).fdiv za) : Int).natAbs), (w44.heap.size + 1, 0, .slice b44 m44 d44, digs (((0 : Int).fmod zg) : Int).natAbs), (w44.heap.size, s44, .slice a44 n44 c44, digs (((0 : Int).fdiv zg) : Int).natAbs), (w43.heap.size + 1, 0, .slice b43 m43 d43, digs (((za : Int).fmod zg) : Int).natAbs), (w43.heap.size, s43, .slice a43 n43 c43, digs (((za : Int).fdiv zg) : Int).natAbs), (g16, 1, .slice a16 n16 c16, digs (zg : Int).natAbs), (w15.heap.size, 1, .slice a15 n15 c15, digs (zg : Int).natAbs), (w.heap.size + 1 + 1, (-1), .slice ac nc cc, digs (zc : Int).natAbs), (w.heap.size + 1, 0, .slice ab nb cb, digs (0 : Int).natAbs), (w.heap.size, sa, .slice aa na ca, digs (za : Int).natAbs)]) S52.out hb (sg' := s53) hn.2 hf)
      have E53 := Lib.hid hn.1
      clear hn hb hf S52
      obtain ⟨fa, fb⟩ := F53.out.free
      obtain ⟨fc, fd⟩ := F53.out.cells
      clear F53
      obtain ⟨t77, u77⟩ := (S53.out.box (w51.heap.size, s51, .slice a51 n51 c51, digs (zk : Int).natAbs) (List.mem_cons_of_mem _ List.mem_cons_self)).cells
      obtain ⟨t78, u78⟩ := (S53.out.box (w52.heap.size, s53, .slice a53 n53 c53, digs ((-(zg * zc)) : Int).natAbs) List.mem_cons_self).cells
      go_wp2_with fail
      clear fa fb fc fd t77 u77 t78 u78
      refine (same_t ((S53.out.box (w51.heap.size, s51, .slice a51 n51 c51, digs (zk : Int).natAbs) (List.mem_cons_of_mem _ List.mem_cons_self)).num E51.out) ((S53.out.box (w52.heap.size, s53, .slice a53 n53 c53, digs ((-(zg * zc)) : Int).natAbs) List.mem_cons_self).num E53.out) HS.out).mono ?_
      rintro e w54 ⟨rfl, hb⟩
      have S55 := Lib.hid (S53.out.later hb)
      clear S53
      clear hb
      go_wp2_with fail
      go_ret
      exact ⟨rfl, S55.out.below⟩
    case inr =>
      have HS : Hid (zk = zg * zc) := by have := HK.out; show _ = _; rw [this, show (zc.natAbs : Int) = zc by omega]
      have hn : (zc.sign = 0 ∨ zc.sign = 1) := by rcases Int.lt_or_le 0 zc with h | h; (right; exact Int.sign_eq_one_of_pos h); (left; rw [show zc = 0 by omega]; rfl)
      have hsc : decide (sc < 0) = false := decide_eq_false (by have := Ec.out; rw [this]; omega)
      clear hc hn
      obtain ⟨t79, u79⟩ := (S52.out.box (w.heap.size + 1 + 1, sc, .slice ac nc cc, digs (zc : Int).natAbs) (List.mem_cons_of_mem _ (List.mem_cons_of_mem _ (List.mem_cons_of_mem _ (List.mem_cons_of_mem _ (List.mem_cons_of_mem _ (List.mem_cons_of_mem _ (List.mem_cons_of_mem _ (List.mem_cons_of_mem _ (List.mem_cons_of_mem _ (List.mem_cons_of_mem _ (List.mem_cons_of_mem _ (List.mem_cons_of_mem _ (List.mem_cons_of_mem _ List.mem_cons_self)))))))))))))).cells
      obtain ⟨t80, u80⟩ := (S52.out.box (w51.heap.size, s51, .slice a51 n51 c51, digs (zk : Int).natAbs) (List.mem_cons_of_mem _ List.mem_cons_self)).cells
      obtain ⟨t81, u81⟩ := (S52.out.box (w52.heap.size, s52, .slice a52 n52 c52, digs ((zg * zc) : Int).natAbs) List.mem_cons_self).cells
      go_wp2_with fail
      clear hsc t79 u79 t80 u80 t81 u81
      refine (same_t ((S52.out.box (w51.heap.size, s51, .slice a51 n51 c51, digs (zk : Int).natAbs) (List.mem_cons_of_mem _ List.mem_cons_self)).num E51.out) ((S52.out.box (w52.heap.size, s52, .slice a52 n52 c52, digs ((zg * zc) : Int).natAbs) List.mem_cons_self).num E52.out) HS.out).mono ?_
      rintro e w56 ⟨rfl, hb⟩
      have S57 := Lib.hid (S52.out.later hb)
      clear S52
      clear hb
      go_wp2_with fail
      go_ret
      exact ⟨rfl, S57.out.below⟩
  case inr.inr.inr =>
    have KA := Lib.hid k1
    clear k1
    have ka : (sa == 0) = false := by have h : sa ≠ 0 := (by rw [Ea.out]; exact fun h => KA.out (Int.sign_eq_zero_iff_zero.1 h)); simpa using h
    have ka2 : (sa != 0) = true := by simp [ka, bne]
    have KB := Lib.hid k2
    clear k2
    have kb : (sb == 0) = false := by have h : sb ≠ 0 := (by rw [Eb.out]; exact fun h => KB.out (Int.sign_eq_zero_iff_zero.1 h)); simpa using h
    have KG := Lib.hid k0
    clear k0
    obtain rfl : s15 = 1 := E15.out.trans (Int.sign_eq_one_of_pos KG.out)
    obtain rfl : s16 = 1 := E16.out.trans (Int.sign_eq_one_of_pos KG.out)
    have KN : Hid (zg ≠ 0) := by have := KG.out; show zg ≠ 0; omega
    obtain ⟨t82, u82⟩ := (S16.out.box (w15.heap.size, 1, .slice a15 n15 c15, digs (zg : Int).natAbs) (List.mem_cons_of_mem _ List.mem_cons_self)).cells
    obtain ⟨t83, u83⟩ := (S16.out.box (g16, 1, .slice a16 n16 c16, digs (zg : Int).natAbs) List.mem_cons_self).cells
    go_wp2_with fail
    clear t82 u82 t83 u83
    refine (same_t ((S16.out.box (w15.heap.size, 1, .slice a15 n15 c15, digs (zg : Int).natAbs) (List.mem_cons_of_mem _ List.mem_cons_self)).num E15.out) ((S16.out.box (g16, 1, .slice a16 n16 c16, digs (zg : Int).natAbs) List.mem_cons_self).num E16.out) rfl).mono ?_
    rintro e w58 ⟨rfl, hb⟩
    have S59 := Lib.hid (S16.out.later hb)
    clear S16
    clear hb
    obtain ⟨t84, u84⟩ := (S59.out.box (w15.heap.size, 1, .slice a15 n15 c15, digs (zg : Int).natAbs) (List.mem_cons_of_mem _ List.mem_cons_self)).cells
    obtain ⟨t85, u85⟩ := (S59.out.box (w.heap.size, sa, .slice aa na ca, digs (za : Int).natAbs) (List.mem_cons_of_mem _ (List.mem_cons_of_mem _ (List.mem_cons_of_mem _ (List.mem_cons_of_mem _ List.mem_cons_self))))).cells
    obtain ⟨t86, u86⟩ := (S59.out.box (w.heap.size + 1, sb, .slice ab nb cb, digs (zb : Int).natAbs) (List.mem_cons_of_mem _ (List.mem_cons_of_mem _ (List.mem_cons_of_mem _ List.mem_cons_self)))).cells
    go_wp2_with fail
    clear t84 u84 t85 u85 t86 u86
    refine (div_k ((S59.out.box (w.heap.size, sa, .slice aa na ca, digs (za : Int).natAbs) (List.mem_cons_of_mem _ (List.mem_cons_of_mem _ (List.mem_cons_of_mem _ (List.mem_cons_of_mem _ List.mem_cons_self))))).num Ea.out) ((S59.out.box (w15.heap.size, 1, .slice a15 n15 c15, digs (zg : Int).natAbs) (List.mem_cons_of_mem _ List.mem_cons_self)).num E15.out) (Sz.len Za.out) (Sz.len (Sz.gcd Za.out Zb.out Hzg.out)) KN.out).mono ?_
    rintro e w60 ⟨s60, a60, n60, c60, t60, b60, m60, d60, rfl, hn, hm, hb, hf, hg⟩
    have S60 := Lib.hid (S59.out.ret2 (sg := s60) (tg := t60) hb hn.2 hf hm.2 hg)
    have E60 := Lib.hid hn.1
    have D60 := Lib.hid hm.1
    clear hn hm hb hf hg S59
    obtain ⟨t87, u87⟩ := (S60.out.box (w.heap.size + 1, sb, .slice ab nb cb, digs (zb : Int).natAbs) (List.mem_cons_of_mem _ (List.mem_cons_of_mem _ (List.mem_cons_of_mem _ (List.mem_cons_of_mem _ (List.mem_cons_of_mem _ List.mem_cons_self)))))).cells
    obtain ⟨t88, u88⟩ := (S60.out.box (w15.heap.size, 1, .slice a15 n15 c15, digs (zg : Int).natAbs) (List.mem_cons_of_mem _ (List.mem_cons_of_mem _ (List.mem_cons_of_mem _ List.mem_cons_self)))).cells
    go_wp2_with fail
    clear t87 u87 t88 u88
    refine (div_k ((S60.out.box (w.heap.size + 1, sb, .slice ab nb cb, digs (zb : Int).natAbs) (List.mem_cons_of_mem _ (List.mem_cons_of_mem _ (List.mem_cons_of_mem _ (List.mem_cons_of_mem _ (List.mem_cons_of_mem _ List.mem_cons_self)))))).num Eb.out) ((S60.out.box (w15.heap.size, 1, .slice a15 n15 c15, digs (zg : Int).natAbs) (List.mem_cons_of_mem _ (List.mem_cons_of_mem _ (List.mem_cons_of_mem _ List.mem_cons_self)))).num E15.out) (Sz.len Zb.out) (Sz.len (Sz.gcd Za.out Zb.out Hzg.out)) KN.out).mono ?_
    rintro e w61 ⟨s61, a61, n61, c61, t61, b61, m61, d61, rfl, hn, hm, hb, hf, hg⟩
    have S61 := Lib.hid (S60.out.ret2 (sg := s61) (tg := t61) hb hn.2 hf hm.2 hg)
    have E61 := Lib.hid hn.1
    have D61 := Lib.hid hm.1
    clear hn hm hb hf hg S60
    have hd := gcd_fm Hzg.out KN.out
    obtain rfl : t60 = 0 := D60.out.trans (by rw [hd.1]; rfl)
    obtain rfl : t61 = 0 := D61.out.trans (by rw [hd.2]; rfl)
    clear hd
    obtain ⟨t89, u89⟩ := (S61.out.box (w.heap.size + 1, sb, .slice ab nb cb, digs (zb : Int).natAbs) (List.mem_cons_of_mem _ (List.mem_cons_of_mem _ (List.mem_cons_of_mem _ (List.mem_cons_of_mem _ (List.mem_cons_of_mem _ (List.mem_cons_of_mem _ (List.mem_cons_of_mem _ List.mem_cons_self)))))))).cells
    obtain ⟨t90, u90⟩ := (S61.out.box (w.heap.size, sa, .slice aa na ca, digs (za : Int).natAbs) (List.mem_cons_of_mem _ (List.mem_cons_of_mem _ (List.mem_cons_of_mem _ (List.mem_cons_of_mem _ (List.mem_cons_of_mem _ (List.mem_cons_of_mem _ (List.mem_cons_of_mem _ (List.mem_cons_of_mem _ List.mem_cons_self))))))))).cells
    obtain ⟨t91, u91⟩ := (S61.out.box (w60.heap.size + 1, 0, .slice b60 m60 d60, digs (((za : Int).fmod zg) : Int).natAbs) (List.mem_cons_of_mem _ (List.mem_cons_of_mem _ List.mem_cons_self))).cells
    obtain ⟨t92, u92⟩ := (S61.out.box (w61.heap.size + 1, 0, .slice b61 m61 d61, digs (((zb : Int).fmod zg) : Int).natAbs) List.mem_cons_self).cells
    go_wp2_with fail
    clear t89 u89 t90 u90 t91 u91 t92 u92
    refine (div_k ((S61.out.box (w.heap.size + 1, sb, .slice ab nb cb, digs (zb : Int).natAbs) (List.mem_cons_of_mem _ (List.mem_cons_of_mem _ (List.mem_cons_of_mem _ (List.mem_cons_of_mem _ (List.mem_cons_of_mem _ (List.mem_cons_of_mem _ (List.mem_cons_of_mem _ List.mem_cons_self)))))))).num Eb.out) ((S61.out.box (w.heap.size, sa, .slice aa na ca, digs (za : Int).natAbs) (List.mem_cons_of_mem _ (List.mem_cons_of_mem _ (List.mem_cons_of_mem _ (List.mem_cons_of_mem _ (List.mem_cons_of_mem _ (List.mem_cons_of_mem _ (List.mem_cons_of_mem _ (List.mem_cons_of_mem _ List.mem_cons_self))))))))).num Ea.out) (Sz.len Zb.out) (Sz.len Za.out) KA.out).mono ?_
    rintro e w62 ⟨s62, a62, n62, c62, t62, b62, m62, d62, rfl, hn, hm, hb, hf, hg⟩
    have S62 := Lib.hid (S61.out.ret2 (sg := s62) (tg := t62) hb hn.2 hf hm.2 hg)
    have E62 := Lib.hid hn.1
    have D62 := Lib.hid hm.1
    clear hn hm hb hf hg S61
    have HR : Hid (((Nat.gcd (za : Int).natAbs (((zb : Int).fmod za) : Int).natAbs : Nat) : Int) = zg) := by have := Hzg.out; show _ = _; rw [← this, gcd_fmod]
    obtain ⟨t93, u93⟩ := (S62.out.box (w.heap.size, sa, .slice aa na ca, digs (za : Int).natAbs) (List.mem_cons_of_mem _ (List.mem_cons_of_mem _ (List.mem_cons_of_mem _ (List.mem_cons_of_mem _ (List.mem_cons_of_mem _ (List.mem_cons_of_mem _ (List.mem_cons_of_mem _ (List.mem_cons_of_mem _ (List.mem_cons_of_mem _ (List.mem_cons_of_mem _ List.mem_cons_self))))))))))).cells
    obtain ⟨t94, u94⟩ := (S62.out.box (w62.heap.size + 1, t62, .slice b62 m62 d62, digs (((zb : Int).fmod za) : Int).natAbs) List.mem_cons_self).cells
    go_wp2_with fail
    clear t93 u93 t94 u94
    refine (gcd_z ((S62.out.box (w.heap.size, sa, .slice aa na ca, digs (za : Int).natAbs) (List.mem_cons_of_mem _ (List.mem_cons_of_mem _ (List.mem_cons_of_mem _ (List.mem_cons_of_mem _ (List.mem_cons_of_mem _ (List.mem_cons_of_mem _ (List.mem_cons_of_mem _ (List.mem_cons_of_mem _ (List.mem_cons_of_mem _ (List.mem_cons_of_mem _ List.mem_cons_self))))))))))).num Ea.out) ((S62.out.box (w62.heap.size + 1, t62, .slice b62 m62 d62, digs (((zb : Int).fmod za) : Int).natAbs) List.mem_cons_self).num D62.out) (Sz.len Za.out) (Sz.len (Sz.fmod Za.out KA.out)) HR.out).mono ?_
    rintro e w63 ⟨s63, a63, n63, c63, rfl, hn, hb, hf⟩
    have S63 := Lib.hid (S62.out.ret (sg := s63) hb hn.2 hf)
    have E63 := Lib.hid hn.1
    clear hn hb hf S62
    obtain ⟨t95, u95⟩ := (S63.out.box (w63.heap.size, s63, .slice a63 n63 c63, digs (zg : Int).natAbs) List.mem_cons_self).cells
    obtain ⟨t96, u96⟩ := (S63.out.box (w15.heap.size, 1, .slice a15 n15 c15, digs (zg : Int).natAbs) (List.mem_cons_of_mem _ (List.mem_cons_of_mem _ (List.mem_cons_of_mem _ (List.mem_cons_of_mem _ (List.mem_cons_of_mem _ (List.mem_cons_of_mem _ (List.mem_cons_of_mem _ (List.mem_cons_of_mem _ List.mem_cons_self))))))))).cells
    go_wp2_with fail
    clear t95 u95 t96 u96
    refine (same_t ((S63.out.box (w63.heap.size, s63, .slice a63 n63 c63, digs (zg : Int).natAbs) List.mem_cons_self).num E63.out) ((S63.out.box (w15.heap.size, 1, .slice a15 n15 c15, digs (zg : Int).natAbs) (List.mem_cons_of_mem _ (List.mem_cons_of_mem _ (List.mem_cons_of_mem _ (List.mem_cons_of_mem _ (List.mem_cons_of_mem _ (List.mem_cons_of_mem _ (List.mem_cons_of_mem _ (List.mem_cons_of_mem _ List.mem_cons_self))))))))).num E15.out) rfl).mono ?_
    rintro e w64 ⟨rfl, hb⟩
    have S65 := Lib.hid (S63.out.later hb)
    clear S63
    clear hb
    obtain ⟨t97, u97⟩ := (S65.out.box (w.heap.size, sa, .slice aa na ca, digs (za : Int).natAbs) (List.mem_cons_of_mem _ (List.mem_cons_of_mem _ (List.mem_cons_of_mem _ (List.mem_cons_of_mem _ (List.mem_cons_of_mem _ (List.mem_cons_of_mem _ (List.mem_cons_of_mem _ (List.mem_cons_of_mem _ (List.mem_cons_of_mem _ (List.mem_cons_of_mem _ (List.mem_cons_of_mem _ List.mem_cons_self)))))))))))).cells
    obtain ⟨t98, u98⟩ := (S65.out.box (w.heap.size + 1 + 1, sc, .slice ac nc cc, digs (zc : Int).natAbs) (List.mem_cons_of_mem _ (List.mem_cons_of_mem _ (List.mem_cons_of_mem _ (List.mem_cons_of_mem _ (List.mem_cons_of_mem _ (List.mem_cons_of_mem _ (List.mem_cons_of_mem _ (List.mem_cons_of_mem _ (List.mem_cons_of_mem _ List.mem_cons_self)))))))))).cells
    go_wp2_with fail
    clear t97 u97 t98 u98
    refine (mul_k ((S65.out.box (w.heap.size, sa, .slice aa na ca, digs (za : Int).natAbs) (List.mem_cons_of_mem _ (List.mem_cons_of_mem _ (List.mem_cons_of_mem _ (List.mem_cons_of_mem _ (List.mem_cons_of_mem _ (List.mem_cons_of_mem _ (List.mem_cons_of_mem _ (List.mem_cons_of_mem _ (List.mem_cons_of_mem _ (List.mem_cons_of_mem _ (List.mem_cons_of_mem _ List.mem_cons_self)))))))))))).num Ea.out) ((S65.out.box (w.heap.size + 1 + 1, sc, .slice ac nc cc, digs (zc : Int).natAbs) (List.mem_cons_of_mem _ (List.mem_cons_of_mem _ (List.mem_cons_of_mem _ (List.mem_cons_of_mem _ (List.mem_cons_of_mem _ (List.mem_cons_of_mem _ (List.mem_cons_of_mem _ (List.mem_cons_of_mem _ (List.mem_cons_of_mem _ List.mem_cons_self)))))))))).num Ec.out) (Sz.len Za.out) (Sz.len Zc.out)).mono ?_
    rintro e w66 ⟨s66, a66, n66, c66, rfl, hn, hb, hf⟩
    have S66 := Lib.hid (S65.out.ret (sg := s66) hb hn.2 hf)
    have E66 := Lib.hid hn.1
    clear hn hb hf S65
    obtain ⟨t99, u99⟩ := (S66.out.box (w.heap.size + 1, sb, .slice ab nb cb, digs (zb : Int).natAbs) (List.mem_cons_of_mem _ (List.mem_cons_of_mem _ (List.mem_cons_of_mem _ (List.mem_cons_of_mem _ (List.mem_cons_of_mem _ (List.mem_cons_of_mem _ (List.mem_cons_of_mem _ (List.mem_cons_of_mem _ (List.mem_cons_of_mem _ (List.mem_cons_of_mem _ (List.mem_cons_of_mem _ List.mem_cons_self)))))))))))).cells
    obtain ⟨t100, u100⟩ := (S66.out.box (w.heap.size + 1 + 1, sc, .slice ac nc cc, digs (zc : Int).natAbs) (List.mem_cons_of_mem _ (List.mem_cons_of_mem _ (List.mem_cons_of_mem _ (List.mem_cons_of_mem _ (List.mem_cons_of_mem _ (List.mem_cons_of_mem _ (List.mem_cons_of_mem _ (List.mem_cons_of_mem _ (List.mem_cons_of_mem _ (List.mem_cons_of_mem _ List.mem_cons_self))))))))))).cells
    go_wp2_with fail
    clear t99 u99 t100 u100
    refine (mul_k ((S66.out.box (w.heap.size + 1, sb, .slice ab nb cb, digs (zb : Int).natAbs) (List.mem_cons_of_mem _ (List.mem_cons_of_mem _ (List.mem_cons_of_mem _ (List.mem_cons_of_mem _ (List.mem_cons_of_mem _ (List.mem_cons_of_mem _ (List.mem_cons_of_mem _ (List.mem_cons_of_mem _ (List.mem_cons_of_mem _ (List.mem_cons_of_mem _ (List.mem_cons_of_mem _ List.mem_cons_self)))))))))))).num Eb.out) ((S66.out.box (w.heap.size + 1 + 1, sc, .slice ac nc cc, digs (zc : Int).natAbs) (List.mem_cons_of_mem _ (List.mem_cons_of_mem _ (List.mem_cons_of_mem _ (List.mem_cons_of_mem _ (List.mem_cons_of_mem _ (List.mem_cons_of_mem _ (List.mem_cons_of_mem _ (List.mem_cons_of_mem _ (List.mem_cons_of_mem _ (List.mem_cons_of_mem _ List.mem_cons_self))))))))))).num Ec.out) (Sz.len Zb.out) (Sz.len Zc.out)).mono ?_
    rintro e w67 ⟨s67, a67, n67, c67, rfl, hn, hb, hf⟩
    have S67 := Lib.hid (S66.out.ret (sg := s67) hb hn.2 hf)
    have E67 := Lib.hid hn.1
    clear hn hb hf S66
    obtain ⟨zk, hzk⟩ : ∃ z : Int, ((Nat.gcd ((za * zc) : Int).natAbs ((zb * zc) : Int).natAbs : Nat) : Int) = z := ⟨_, rfl⟩
    have Hzk := Lib.hid hzk
    clear hzk
    obtain ⟨t101, u101⟩ := (S67.out.box (w66.heap.size, s66, .slice a66 n66 c66, digs ((za * zc) : Int).natAbs) (List.mem_cons_of_mem _ List.mem_cons_self)).cells
    obtain ⟨t102, u102⟩ := (S67.out.box (w67.heap.size, s67, .slice a67 n67 c67, digs ((zb * zc) : Int).natAbs) List.mem_cons_self).cells
    go_wp2_with fail
    clear t101 u101 t102 u102
    refine (gcd_z ((S67.out.box (w66.heap.size, s66, .slice a66 n66 c66, digs ((za * zc) : Int).natAbs) (List.mem_cons_of_mem _ List.mem_cons_self)).num E66.out) ((S67.out.box (w67.heap.size, s67, .slice a67 n67 c67, digs ((zb * zc) : Int).natAbs) List.mem_cons_self).num E67.out) (Sz.len (Sz.mul Za.out Zc.out)) (Sz.len (Sz.mul Zb.out Zc.out)) Hzk.out).mono ?_
    rintro e w68 ⟨s68, a68, n68, c68, rfl, hn, hb, hf⟩
    have S68 := Lib.hid (S67.out.ret (sg := s68) hb hn.2 hf)
    have E68 := Lib.hid hn.1
    clear hn hb hf S67
    obtain ⟨t103, u103⟩ := (S68.out.box (w15.heap.size, 1, .slice a15 n15 c15, digs (zg : Int).natAbs) (List.mem_cons_of_mem _ (List.mem_cons_of_mem _ (List.mem_cons_of_mem _ (List.mem_cons_of_mem _ (List.mem_cons_of_mem _ (List.mem_cons_of_mem _ (List.mem_cons_of_mem _ (List.mem_cons_of_mem _ (List.mem_cons_of_mem _ (List.mem_cons_of_mem _ (List.mem_cons_of_mem _ List.mem_cons_self)))))))))))).cells
    obtain ⟨t104, u104⟩ := (S68.out.box (w.heap.size + 1 + 1, sc, .slice ac nc cc, digs (zc : Int).natAbs) (List.mem_cons_of_mem _ (List.mem_cons_of_mem _ (List.mem_cons_of_mem _ (List.mem_cons_of_mem _ (List.mem_cons_of_mem _ (List.mem_cons_of_mem _ (List.mem_cons_of_mem _ (List.mem_cons_of_mem _ (List.mem_cons_of_mem _ (List.mem_cons_of_mem _ (List.mem_cons_of_mem _ (List.mem_cons_of_mem _ List.mem_cons_self))))))))))))).cells
    go_wp2_with fail
    clear t103 u103 t104 u104
    refine (mul_k ((S68.out.box (w15.heap.size, 1, .slice a15 n15 c15, digs (zg : Int).natAbs) (List.mem_cons_of_mem _ (List.mem_cons_of_mem _ (List.mem_cons_of_mem _ (List.mem_cons_of_mem _ (List.mem_cons_of_mem _ (List.mem_cons_of_mem _ (List.mem_cons_of_mem _ (List.mem_cons_of_mem _ (List.mem_cons_of_mem _ (List.mem_cons_of_mem _ (List.mem_cons_of_mem _ List.mem_cons_self)))))))))))).num E15.out) ((S68.out.box (w.heap.size + 1 + 1, sc, .slice ac nc cc, digs (zc : Int).natAbs) (List.mem_cons_of_mem _ (List.mem_cons_of_mem _ (List.mem_cons_of_mem _ (List.mem_cons_of_mem _ (List.mem_cons_of_mem _ (List.mem_cons_of_mem _ (List.mem_cons_of_mem _ (List.mem_cons_of_mem _ (List.mem_cons_of_mem _ (List.mem_cons_of_mem _ (List.mem_cons_of_mem _ (List.mem_cons_of_mem _ List.mem_cons_self))))))))))))).num Ec.out) (Sz.len (Sz.gcd Za.out Zb.out Hzg.out)) (Sz.len Zc.out)).mono ?_
    rintro e w69 ⟨s69, a69, n69, c69, rfl, hn, hb, hf⟩
    have S69 := Lib.hid (S68.out.ret (sg := s69) hb hn.2 hf)
    have E69 := Lib.hid hn.1
    clear hn hb hf S68
    have HK : Hid (zk = zg * (zc.natAbs : Int)) := by have h1 := Hzk.out; have h2 := Hzg.out; show _ = _; rw [← h1, ← h2]; exact gcd_mulc _ _ _
    have hc := Int.lt_or_le zc 0
    rcases hc with hc | hc
    case inl =>
      obtain rfl : sc = -1 := Ec.out.trans (Int.sign_eq_neg_one_of_neg hc)
      have HS : Hid (zk = -(zg * zc)) := by have := HK.out; show _ = _; rw [this, show (zc.natAbs : Int) = -zc by omega, Int.mul_neg]
      clear hc
      obtain ⟨t105, u105⟩ := (S69.out.box (w.heap.size + 1 + 1, (-1), .slice ac nc cc, digs (zc : Int).natAbs) (List.mem_cons_of_mem _ (List.mem_cons_of_mem _ (List.mem_cons_of_mem _ (List.mem_cons_of_mem _ (List.mem_cons_of_mem _ (List.mem_cons_of_mem _ (List.mem_cons_of_mem _ (List.mem_cons_of_mem _ (List.mem_cons_of_mem _ (List.mem_cons_of_mem _ (List.mem_cons_of_mem _ (List.mem_cons_of_mem _ (List.mem_cons_of_mem _ List.mem_cons_self)))))))))))))).cells
      obtain ⟨t106, u106⟩ := (S69.out.box (w69.heap.size, s69, .slice a69 n69 c69, digs ((zg * zc) : Int).natAbs) List.mem_cons_self).cells
      go_wp2_with fail
      clear t105 u105 t106 u106
      refine (neg_k ((S69.out.box (w69.heap.size, s69, .slice a69 n69 c69, digs ((zg * zc) : Int).natAbs) List.mem_cons_self).num E69.out) (Sz.len (Sz.mul (Sz.gcd Za.out Zb.out Hzg.out) Zc.out))).mono ?_
      rintro e w70 ⟨s70, a70, n70, c70, rfl, hn, hb, hf⟩
      have F70 := Lib.hid ((S69.out.later hb).box (w69.heap.size, s69, .slice a69 n69 c69, digs ((zg * zc) : Int).natAbs) List.mem_cons_self)
      have S70 : Hid (Sq w [(w69.heap.size, s70, .slice a70 n70 c70, digs ((-(zg * zc)) : Int).natAbs), (w68.heap.size, s68, .slice a68 n68 c68, digs (zk : Int).natAbs), (w67.heap.size, s67, .slice a67 n67 c67, digs ((zb * zc) : Int).natAbs), (w66.heap.size, s66, .slice a66 n66 c66, digs ((za * zc) : Int).natAbs), (w63.heap.size, s63, .slice a63 n63 c63, digs (zg : Int).natAbs), (w62.heap.size + 1, t62, .slice b62 m62 d62, digs (((zb : Int).fmod za) : Int).natAbs), (w62.heap.size, s62, .slice a62 n62 c62, digs (((zb : Int).fdiv za) : Int).natAbs), (w61.heap.size + 1, 0, .slice b61 m61 d61, digs (((zb : Int).fmod zg) : Int).natAbs), (w61.heap.size, s61, .slice a61 n61 c61, digs (((zb : Int).fdiv zg) : Int).natAbs), (w60.heap.size + 1, 0, .slice b60 m60 d60, digs (((za : Int).fmod zg) : Int).natAbs), (w60.heap.size, s60, .slice a60 n60 c60, digs (((za : Int).fdiv zg) : Int).natAbs), (g16, 1, .slice a16 n16 c16, digs (zg : Int).natAbs), (w15.heap.size, 1, .slice a15 n15 c15, digs (zg : Int).natAbs), (w.heap.size + 1 + 1, (-1), .slice ac nc cc, digs (zc : Int).natAbs), (w.heap.size + 1, sb, .slice ab nb cb, digs (zb : Int).natAbs), (w.heap.size, sa, .slice aa na ca, digs (za : Int).natAbs)] _) := Lib.hid (Sq.setb (pre := []) (post := [(w68.heap.size, s68, .slice a68 n68 c68, digs (zk : Int).natAbs), (w67.heap.size, s67, .slice a67 n67 c67, digs ((zb * zc) : Int).natAbs), (w66.heap.size, s66, .slice a66 n66 c66, digs ((za * zc) : Int).natAbs), (w63.heap.size, s63, .slice a63 n63 c63, digs (zg : Int).natAbs), (w62.heap.size + 1, t62, .slice b62 m62 d62, digs (((zb : Int).fmod za) : Int).natAbs), (w62.heap.size, s62, .slice a62 n62 c62, digs (((zb : Int).fdiv za) : Int).natAbs), (w61.heap.size + 1, 0, .slice b61 m61 d61, digs (((zb : Int).fmod zg) : Int).natAbs), (w61.heap.size, s61, .slice a61 n61 c61, digs (((zb : Int).fdiv zg) : Int).natAbs), (w60.heap.size + 1, 0, .slice b60 m60 d60, digs (((za : Int).fmod zg) : Int).natAbs), (w60.heap.size, s60, .slice a60 n60 c60, digs (((za : Int).fdiv zg) : Int).natAbs), (g16, 1, .slice a16 n16 c16, digs (zg : Int).natAbs), (w15.heap.size, 1, .slice a15 n15 c15, digs (zg : Int).natAbs), (w.heap.size + 1 + 1, (-1), .slice ac nc cc, digs (zc : Int).natAbs), (w.heap.size + 1, sb, .slice ab nb cb, digs (zb : Int).natAbs), (w.heap.size, sa, .slice aa na ca, digs (za : Int).natAbs)]) S69.out hb (sg' := s70) hn.2 hf)
      have E70 := Lib.hid hn.1
      clear hn hb hf S69
      obtain ⟨fa, fb⟩ := F70.out.free
      obtain ⟨fc, fd⟩ := F70.out.cells
      clear F70
      obtain ⟨t107, u107⟩ := (S70.out.box (w68.heap.size, s68, .slice a68 n68 c68, digs (zk : Int).natAbs) (List.mem_cons_of_mem _ List.mem_cons_self)).cells
      obtain ⟨t108, u108⟩ := (S70.out.box (w69.heap.size, s70, .slice a70 n70 c70, digs ((-(zg * zc)) : Int).natAbs) List.mem_cons_self).cells
      go_wp2_with fail
      clear fa fb fc fd t107 u107 t108 u108
      refine (same_t ((S70.out.box (w68.heap.size, s68, .slice a68 n68 c68, digs (zk : Int).natAbs) (List.mem_cons_of_mem _ List.mem_cons_self)).num E68.out) ((S70.out.box (w69.heap.size, s70, .slice a70 n70 c70, digs ((-(zg * zc)) : Int).natAbs) List.mem_cons_self).num E70.out) HS.out).mono ?_
      rintro e w71 ⟨rfl, hb⟩
      have S72 := Lib.hid (S70.out.later hb)
      clear S70
      clear hb
      go_wp2_with fail
      go_ret
      exact ⟨rfl, S72.out.below⟩
    case inr =>
      have HS : Hid (zk = zg * zc) := by have := HK.out; show _ = _; rw [this, show (zc.natAbs : Int) = zc by omega]
      have hn : (zc.sign = 0 ∨ zc.sign = 1) := by rcases Int.lt_or_le 0 zc with h | h; (right; exact Int.sign_eq_one_of_pos h); (left; rw [show zc = 0 by omega]; rfl)
      have hsc : decide (sc < 0) = false := decide_eq_false (by have := Ec.out; rw [this]; omega)
      clear hc hn
      obtain ⟨t109, u109⟩ := (S69.out.box (w.heap.size + 1 + 1, sc, .slice ac nc cc, digs (zc : Int).natAbs) (List.mem_cons_of_mem _ (List.mem_cons_of_mem _ (List.mem_cons_of_mem _ (List.mem_cons_of_mem _ (List.mem_cons_of_mem _ (List.mem_cons_of_mem _ (List.mem_cons_of_mem _ (List.mem_cons_of_mem _ (List.mem_cons_of_mem _ (List.mem_cons_of_mem _ (List.mem_cons_of_mem _ (List.mem_cons_of_mem _ (List.mem_cons_of_mem _ List.mem_cons_self)))))))))))))).cells
      obtain ⟨t110, u110⟩ := (S69.out.box (w68.heap.size, s68, .slice a68 n68 c68, digs (zk : Int).natAbs) (List.mem_cons_of_mem _ List.mem_cons_self)).cells
      obtain ⟨t111, u111⟩ := (S69.out.box (w69.heap.size, s69, .slice a69 n69 c69, digs ((zg * zc) : Int).natAbs) List.mem_cons_self).cells
      go_wp2_with fail
      clear hsc t109 u109 t110 u110 t111 u111
      refine (same_t ((S69.out.box (w68.heap.size, s68, .slice a68 n68 c68, digs (zk : Int).natAbs) (List.mem_cons_of_mem _ List.mem_cons_self)).num E68.out) ((S69.out.box (w69.heap.size, s69, .slice a69 n69 c69, digs ((zg * zc) : Int).natAbs) List.mem_cons_self).num E69.out) HS.out).mono ?_
      rintro e w73 ⟨rfl, hb⟩
      have S74 := Lib.hid (S69.out.later hb)
      clear S69
      clear hb
      go_wp2_with fail
      go_ret
      exact ⟨rfl, S74.out.below⟩
set_option maxHeartbeats 4000000 in
theorem BigGcd_long (sa : Int) (aa : Option Addr) (na ca : Nat) (sb : Int) (ab : Option Addr) (nb cb : Nat) (sc : Int) (ac : Option Addr) (nc cc : Nat) (w : World) (he : Env w) (ha : na ≤ 9223372036854775807) (hb : nb ≤ 9223372036854775807) (hc : nc ≤ 9223372036854775807) (hno : ¬ (na ≤ 12 ∧ nb ≤ 12 ∧ nc ≤ 4)) :
    Calls Tryd.prog 4 #[.agg #[.int .i64 sa, .slice aa na ca], .agg #[.int .i64 sb, .slice ab nb cb], .agg #[.int .i64 sc, .slice ac nc cc]] w fun e w' => e = .returned (.bool true) ∧ RowKit.Below w.heap.size w w' := by
  have HE := Lib.hid he
  have HNO := Lib.hid hno
  have Ha := Lib.hid ha
  obtain ⟨fa, hfa⟩ : ∃ b, decide ((na : Int) ≤ 12) = b := ⟨_, rfl⟩
  have Fa := Lib.hid hfa
  clear ha hfa
  have Hb := Lib.hid hb
  obtain ⟨fb, hfb⟩ : ∃ b, decide ((nb : Int) ≤ 12) = b := ⟨_, rfl⟩
  have Fb := Lib.hid hfb
  clear hb hfb
  have Hc := Lib.hid hc
  obtain ⟨fc, hfc⟩ : ∃ b, decide ((nc : Int) ≤ 4) = b := ⟨_, rfl⟩
  have Fc := Lib.hid hfc
  clear hc hfc
  have S0 := Lib.hid (Sk.three w sa sb sc (.slice aa na ca) (.slice ab nb cb) (.slice ac nc cc))
  clear he hno
  go_enter Tryd.func4, Tryd.ntmps4
  go_wp2_with fail
  refine (small_any _ (S0.out.env HE.out)).mono ?_
  rintro e w0 ⟨rfl, hb⟩
  have S1 := Lib.hid (S0.out.later hb)
  clear hb S0
  obtain ⟨t, u⟩ := S1.out.cells (b := w.heap.size) (sg := sa) (v := .slice aa na ca) (List.mem_cons_of_mem _ (List.mem_cons_of_mem _ List.mem_cons_self))
  go_wp2_with fail
  clear t u
  refine (few_len sa aa na ca 12 _ Ha.out fa Fa.out).mono ?_
  rintro e w1 ⟨rfl, hb⟩
  have S2 := Lib.hid (S1.out.later hb)
  clear hb S1
  cases fa
  case false =>
    go_wp2_with fail
    go_ret
    exact ⟨rfl, S2.out.below⟩
  obtain ⟨t, u⟩ := S2.out.cells (b := w.heap.size + 1) (sg := sb) (v := .slice ab nb cb) (List.mem_cons_of_mem _ List.mem_cons_self)
  go_wp2_with fail
  clear t u
  refine (few_len sb ab nb cb 12 _ Hb.out fb Fb.out).mono ?_
  rintro e w2 ⟨rfl, hb⟩
  have S3 := Lib.hid (S2.out.later hb)
  clear hb S2
  cases fb
  case false =>
    go_wp2_with fail
    go_ret
    exact ⟨rfl, S3.out.below⟩
  obtain ⟨t, u⟩ := S3.out.cells (b := w.heap.size + 1 + 1) (sg := sc) (v := .slice ac nc cc) List.mem_cons_self
  go_wp2_with fail
  clear t u
  refine (few_len sc ac nc cc 4 _ Hc.out fc Fc.out).mono ?_
  rintro e w3 ⟨rfl, hb⟩
  have S4 := Lib.hid (S3.out.later hb)
  clear hb S3
  cases fc
  case false =>
    go_wp2_with fail
    go_ret
    exact ⟨rfl, S4.out.below⟩
  exact absurd ⟨by have := Fa.out; simp at this; omega, by have := Fb.out; simp at this; omega, by have := Fc.out; simp at this; omega⟩ HNO.out
end Go.Proofs.YtbbjogkapcakpaaDoor.Bi
