/- The contract of FracFloor. -/
import Derived.Test.YtbbjogkapcakpaaGreatDoorLFr15
set_option maxRecDepth 100000
namespace Go.Proofs.YtbbjogkapcakpaaGreatDoor.Bi
open Go.RowKit

set_option maxHeartbeats 8000000 in
theorem FracFloor_any (sf : Int) (af : Option Addr) (nf cf : Nat) (lf : List Int) (tf : Int) (bf : Option Addr) (mf df : Nat) (kf : List Int) (iv : Int) (w : World) (he : EnvF w) (hf : Ints w (.slice af nf cf) lf) (gf : Ints w (.slice bf mf df) kf) (hiv : -9223372036854775808 ≤ iv ∧ iv ≤ 9223372036854775807) :
    Calls Tryz.prog 7 #[.agg #[.int .i64 sf, .slice af nf cf, .int .i64 tf, .slice bf mf df], .int .i64 iv] w fun e w' => e = .returned (.bool true) ∧ RowKit.Below w.heap.size w w' := by
  have HE := Lib.hid he
  have HN := Lib.hid he.env
  have S0 := Lib.hid (((((Sf.start w)).arg gf).arg hf).put [.int .i64 sf, .slice af nf cf, .int .i64 tf, .slice bf mf df] 26)
  obtain ⟨ff, hff⟩ : ∃ b, (decide ((lf.length : Int) ≤ 30) && decide ((kf.length : Int) ≤ 30)) = b := ⟨_, rfl⟩
  obtain ⟨rf, hrf⟩ : ∃ b, fRightB sf lf tf kf = b := ⟨_, rfl⟩
  have FWf := Lib.hid hff
  have RWf := Lib.hid hrf
  clear hf gf hff hrf
  have HIv := Lib.hid hiv
  clear he hiv
  go_enter Tryz.func7, Tryz.ntmps7
  go_wp2_with fail
  refine (lsmall_k _ (S0.out.envF HE.out)).mono ?_
  rintro e w1 ⟨rfl, hb⟩
  have S2 := Lib.hid (S0.out.later hb)
  clear hb S0
  obtain ⟨t1_0, t1_1, t1_2, t1_3⟩ := (S2.out.box _ List.mem_cons_self : Fb (w.heap.size, 26, [.int .i64 sf, .slice af nf cf, .int .i64 tf, .slice bf mf df]) _).cells4
  go_wp2_with fail
  clear t1_0 t1_1 t1_2 t1_3
  refine (ffew_any sf af nf cf _ tf bf mf df _ 30 _ (S2.out.ints (.slice af nf cf, lf) List.mem_cons_self) (S2.out.ints (.slice bf mf df, kf) (List.mem_cons_of_mem _ List.mem_cons_self)) ff FWf.out).mono ?_
  rintro e w3 ⟨rfl, hb⟩
  have S4 := Lib.hid (S2.out.later hb)
  clear hb S2
  cases ff
  case false =>
    go_wp2_with fail
    go_ret
    exact ⟨rfl, S4.out.below⟩
  obtain ⟨t2_0, t2_1, t2_2, t2_3⟩ := (S4.out.box _ List.mem_cons_self : Fb (w.heap.size, 26, [.int .i64 sf, .slice af nf cf, .int .i64 tf, .slice bf mf df]) _).cells4
  go_wp2_with fail
  clear t2_0 t2_1 t2_2 t2_3
  have hl := few_lens FWf.out (by decide)
  refine (fright_any sf af nf cf _ tf bf mf df _ _ (S4.out.ints (.slice af nf cf, lf) List.mem_cons_self) (S4.out.ints (.slice bf mf df, kf) (List.mem_cons_of_mem _ List.mem_cons_self)) hl.1 hl.2 rf RWf.out).mono ?_
  rintro e w5 ⟨rfl, hb⟩
  have S6 := Lib.hid (S4.out.later hb)
  clear hb S4
  clear hl
  cases rf
  case false =>
    go_wp2_with fail
    go_ret
    exact ⟨rfl, S6.out.below⟩
  obtain ⟨qf, ef, rfl, rfl, rfl⟩ := fright_of RWf.out
  have Ef := Lib.hid ef
  have Zf : Hid (FSz 30 qf) := FSz.fits FWf.out
  clear ef FWf RWf
  obtain ⟨za, hza⟩ : ∃ z : Int, qf.floor = z := ⟨_, rfl⟩
  have Va := Lib.hid hza
  have Zfl : Hid (Sz 30 za) := by subst hza; exact floor_sz Zf.out
  have Zf1 : Hid (Sz 31 (za + 1)) := Sz.add Zfl.out (Sz.mono (j := 30) (Sz.small (z := 1) (by decide)))
  clear hza
  have B1 : Hid (-9223372036854775808 ≤ (1 : Int) ∧ (1 : Int) ≤ 9223372036854775807) := ⟨by omega, by omega⟩
  have O1 : Hid ((1 : Int) ≠ 0) := by show (1 : Int) ≠ 0; omega
  have L1 : Hid (Len 100000 1) := Len.of (by decide)
  have LA : Hid (Len 100000 za) := Sz.len Zfl.out
  have LB : Hid (Len 100000 (za + 1)) := Sz.len Zf1.out
  obtain ⟨qx, hqx⟩ : ∃ r : Rat, Rat.divInt za 1 = r := ⟨_, rfl⟩
  obtain ⟨qy, hqy⟩ : ∃ r : Rat, Rat.divInt (za + 1) 1 = r := ⟨_, rfl⟩
  have Vx := Lib.hid hqx
  have Vy := Lib.hid hqy
  have Zx : Hid (FSz 30 qx) := by subst hqx; exact int_fsz Zfl.out (by omega)
  have Zy : Hid (FSz 31 qy) := by subst hqy; exact int_fsz Zf1.out (by omega)
  clear hqx hqy
  have WF : Hid (FSz 1000 qf) := FSz.mono Zf.out
  have WX : Hid (FSz 1000 qx) := FSz.mono Zx.out
  have WY : Hid (FSz 1000 qy) := FSz.mono Zy.out
  have WNF : Hid (FSz 1000 (-qf)) := FSz.neg WF.out
  have LP : Hid (Len 100000 qf.num) := Sz.len Zf.out.1
  obtain ⟨t3_0, t3_1, t3_2, t3_3⟩ := (S6.out.box _ List.mem_cons_self : Fb (w.heap.size, 26, [.int .i64 sf, .slice af nf cf, .int .i64 1, .slice bf mf df]) _).cells4
  go_wp2_with fail
  clear t3_0 t3_1 t3_2 t3_3
  refine (ffloor_r (S6.out.fr (v := .slice af nf cf) (u := .slice bf mf df) (r := qf) List.mem_cons_self (List.mem_cons_of_mem _ List.mem_cons_self) Ef.out) WF.out Va.out).mono ?_
  rintro e w7 ⟨s7, a7, n7, c7, rfl, hn, hb, hf⟩
  have E7 := Lib.hid hn.1
  have S8 := Lib.hid ((S6.out.ret hb hn.2 hf).put [.int .i64 s7, .slice a7 n7 c7] 24)
  clear hn hb hf S6
  obtain ⟨t4_0, t4_1⟩ := (S8.out.box _ List.mem_cons_self : Fb (w7.heap.size, 24, [.int .i64 s7, .slice a7 n7 c7]) _).cells2
  go_upto_region 5 with fail
  clear t4_0 t4_1
  generalize (w7.alloc (.cells #[.int .i64 s7, .slice a7 n7 c7] 24)) = wz9 at S8 ⊢
  go_cut [7, 8] from 28 to 33 (fun u v wx => v = .int .i64 0 ∧ Hid (∃ g s a n c, u = .pointer (some ⟨g, 0, none⟩) ∧ s = ((za + 1) : Int).sign ∧ Sf w ((g, 24, [.int .i64 s, .slice a n c]) :: [(w7.heap.size, 24, [.int .i64 s7, .slice a7 n7 c7]), (w.heap.size, 26, [.int .i64 sf, .slice af nf cf, .int .i64 1, .slice bf mf df])]) ((.slice a n c, digs ((za + 1) : Int).natAbs) :: [(.slice a7 n7 c7, digs (za : Int).natAbs), (.slice af nf cf, digs qf.num.natAbs), (.slice bf mf df, digs (qf.den : Int).natAbs)]) wx))
  case first =>
    have K0 : ∀ W F, Sf w [(w7.heap.size, 24, [.int .i64 s7, .slice a7 n7 c7]), (w.heap.size, 26, [.int .i64 sf, .slice af nf cf, .int .i64 1, .slice bf mf df])] F W → W.cell? ⟨w7.heap.size, 0, none⟩ = some (.int .i64 s7) ∧ W.cell? ⟨w7.heap.size, 1, none⟩ = some (.slice a7 n7 c7) := fun W F h => ⟨(h.box _ List.mem_cons_self : Fb (w7.heap.size, 24, [.int .i64 s7, .slice a7 n7 c7]) _).cells2.1, (h.box _ List.mem_cons_self : Fb (w7.heap.size, 24, [.int .i64 s7, .slice a7 n7 c7]) _).cells2.2⟩
    have KK := Lib.hid K0
    clear K0
    have K0 : ∀ W F x, Sf w (x :: [(w7.heap.size, 24, [.int .i64 s7, .slice a7 n7 c7]), (w.heap.size, 26, [.int .i64 sf, .slice af nf cf, .int .i64 1, .slice bf mf df])]) F W → W.cell? ⟨w7.heap.size, 0, none⟩ = some (.int .i64 s7) ∧ W.cell? ⟨w7.heap.size, 1, none⟩ = some (.slice a7 n7 c7) := fun W F x h => ⟨(h.box _ (List.mem_cons_of_mem _ List.mem_cons_self) : Fb (w7.heap.size, 24, [.int .i64 s7, .slice a7 n7 c7]) _).cells2.1, (h.box _ (List.mem_cons_of_mem _ List.mem_cons_self) : Fb (w7.heap.size, 24, [.int .i64 s7, .slice a7 n7 c7]) _).cells2.2⟩
    have KU := Lib.hid K0
    clear K0
    have N0 := Lib.hid S8.out.drew
    have A0_0 := Lib.hid (S8.out.put [.int .i64 0, .slice none 0 0] 24).drew
    clear S8
    have e0 := KK.out _ _ N0.out
    have f0 := KU.out _ _ _ A0_0.out
    go_region_held3 (fun W => W.cell? ⟨w7.heap.size, 0, none⟩ = some (.int .i64 s7) ∧ W.cell? ⟨w7.heap.size, 1, none⟩ = some (.slice a7 n7 c7))
      (first | (with_reducible exact e0) | (with_reducible exact f0) | (with_reducible exact k9_1) | (with_reducible exact l9_1) | (with_reducible exact k9_2) | (with_reducible exact k9_3) | (with_reducible exact l9_3) | (with_reducible exact q9_3) | (with_reducible exact k9_4) | (with_reducible exact q9_4) | (with_reducible exact k9_5) | (with_reducible exact q9_5) | go_keep)
      (first
          | (have hG := A1_0; clear hG; go_at_call 49; (with_reducible refine (add_k PA1_0_1.out PA1_0_2.out LA.out L1.out).mono ?_); rintro e y9_5 ⟨sx9_5, ax9_5, nx9_5, cx9_5, rfl, hn, hb, hf⟩; have E9_5 := Lib.hid hn.1; have A2_0 := Lib.hid (A1_0.out.ret hb hn.2 hf); clear hn hb hf; have k9_5 := KU.out _ _ _ A2_0.out; obtain ⟨z0, z1⟩ := (A2_0.out.box _ List.mem_cons_self : Fb (wz9.heap.size, 24, [.int .i64 0, .slice none 0 0]) _).cells2; obtain ⟨u0, u1⟩ := (A2_0.out.box _ List.mem_cons_self : Fb (wz9.heap.size, 24, [.int .i64 0, .slice none 0 0]) _).free2; have R9_5 := Lib.hid (A2_0.out.set2 (pre := []) (.int .i64 sx9_5) (.slice ax9_5 nx9_5 cx9_5)); have q9_5 := KU.out _ _ _ R9_5.out)
          | (have hG := A1_1; clear hG; go_at_call 49; (with_reducible refine (add_k PA1_1_1.out PA1_1_2.out LA.out L1.out).mono ?_); rintro e y9_4 ⟨sx9_4, ax9_4, nx9_4, cx9_4, rfl, hn, hb, hf⟩; have E9_4 := Lib.hid hn.1; have A2_1 := Lib.hid (A1_1.out.ret hb hn.2 hf); clear hn hb hf; have k9_4 := KU.out _ _ _ A2_1.out; obtain ⟨z0, z1⟩ := (A2_1.out.box _ List.mem_cons_self : Fb (y9_1.heap.size, 24, [.int .i64 0, .slice none 0 0]) _).cells2; obtain ⟨u0, u1⟩ := (A2_1.out.box _ List.mem_cons_self : Fb (y9_1.heap.size, 24, [.int .i64 0, .slice none 0 0]) _).free2; have R9_4 := Lib.hid (A2_1.out.set2 (pre := []) (.int .i64 sx9_4) (.slice ax9_4 nx9_4 cx9_4)); have q9_4 := KU.out _ _ _ R9_4.out)
          | (have hG := N1; clear hG; go_at_call 49; (with_reducible refine (add_k PN1_1.out PN1_2.out LA.out L1.out).mono ?_); rintro e y9_3 ⟨sx9_3, ax9_3, nx9_3, cx9_3, rfl, hn, hb, hf⟩; have E9_3 := Lib.hid hn.1; have N2 := Lib.hid (N1.out.ret hb hn.2 hf); clear hn hb hf; have k9_3 := KK.out _ _ N2.out; have Z9 := Lib.hid (N2.out.put [.int .i64 0, .slice none 0 0] 24); have l9_3 := KU.out _ _ _ Z9.out; have R9_3 := Lib.hid (N2.out.put [.int .i64 sx9_3, .slice ax9_3 nx9_3 cx9_3] 24); have q9_3 := KU.out _ _ _ R9_3.out)
          | (have hG := A0_0; clear hG; go_at_call 48; (with_reducible refine (of_k 1 B1.out _).mono ?_); rintro e y9_2 ⟨sx9_2, ax9_2, nx9_2, cx9_2, rfl, hn, hb, hf⟩; have E9_2 := Lib.hid hn.1; have A1_0 := Lib.hid (A0_0.out.ret hb hn.2 hf); clear hn hb hf; have k9_2 := KU.out _ _ _ A1_0.out; have PA1_0_1 := Lib.hid (A1_0.out.num (v := .slice a7 n7 c7) (z := za) (List.mem_cons_of_mem _ List.mem_cons_self) E7.out); have PA1_0_2 := Lib.hid (A1_0.out.num (v := .slice ax9_2 nx9_2 cx9_2) (z := 1) List.mem_cons_self E9_2.out))
          | (have hG := N0; clear hG; go_at_call 48; (with_reducible refine (of_k 1 B1.out _).mono ?_); rintro e y9_1 ⟨sx9_1, ax9_1, nx9_1, cx9_1, rfl, hn, hb, hf⟩; have E9_1 := Lib.hid hn.1; have N1 := Lib.hid (N0.out.ret hb hn.2 hf); clear hn hb hf; have k9_1 := KK.out _ _ N1.out; have A1_1 := Lib.hid (N1.out.put [.int .i64 0, .slice none 0 0] 24); have l9_1 := KU.out _ _ _ A1_1.out; have PN1_1 := Lib.hid (N1.out.num (v := .slice a7 n7 c7) (z := za) (List.mem_cons_of_mem _ List.mem_cons_self) E7.out); have PN1_2 := Lib.hid (N1.out.num (v := .slice ax9_1 nx9_1 cx9_1) (z := 1) List.mem_cons_self E9_1.out); have PA1_1_1 := Lib.hid (A1_1.out.num (v := .slice a7 n7 c7) (z := za) (List.mem_cons_of_mem _ List.mem_cons_self) E7.out); have PA1_1_2 := Lib.hid (A1_1.out.num (v := .slice ax9_1 nx9_1 cx9_1) (z := 1) List.mem_cons_self E9_1.out)))
    all_goals (go_wp2_with fail; go_meet; refine ⟨rfl, ?_⟩; first | exact ⟨_, _, _, _, _, rfl, E9_3.out, (Sf.cut (pre := [(.slice ax9_3 nx9_3 cx9_3, digs ((za + 1) : Int).natAbs)]) (mid := [(.slice ax9_1 nx9_1 cx9_1, digs (1 : Int).natAbs)]) R9_3.out)⟩ | exact ⟨_, _, _, _, _, rfl, E9_4.out, (Sf.cut (pre := [(.slice ax9_4 nx9_4 cx9_4, digs ((za + 1) : Int).natAbs)]) (mid := [(.slice ax9_1 nx9_1 cx9_1, digs (1 : Int).natAbs)]) R9_4.out)⟩ | exact ⟨_, _, _, _, _, rfl, E9_5.out, (Sf.cut (pre := [(.slice ax9_5 nx9_5 cx9_5, digs ((za + 1) : Int).natAbs)]) (mid := [(.slice ax9_2 nx9_2 cx9_2, digs (1 : Int).natAbs)]) R9_5.out)⟩)
  case rest =>
  obtain ⟨rfl, hq⟩ := hcut
  obtain ⟨g9, s9, a9, n9, c9, rfl, e9, h9⟩ := hq.out
  obtain ⟨w9, rfl⟩ : ∃ W, W = wc := ⟨_, rfl⟩
  have S9 := Lib.hid h9
  have E9 := Lib.hid e9
  clear hq e9 h9 S8
  obtain ⟨t5_0, t5_1⟩ := (S9.out.box _ (List.mem_cons_of_mem _ List.mem_cons_self) : Fb (w7.heap.size, 24, [.int .i64 s7, .slice a7 n7 c7]) _).cells2
  go_upto_region 6 with fail
  clear t5_0 t5_1
  go_cut [9, 10] from 34 to 39 (fun u v wx => v = .int .i64 0 ∧ Hid (∃ g s a n c b m d, u = .pointer (some ⟨g, 0, none⟩) ∧ s = (qx : Rat).num.sign ∧ Sf w ((g, 26, [.int .i64 s, .slice a n c, .int .i64 1, .slice b m d]) :: [(g9, 24, [.int .i64 s9, .slice a9 n9 c9]), (w7.heap.size, 24, [.int .i64 s7, .slice a7 n7 c7]), (w.heap.size, 26, [.int .i64 sf, .slice af nf cf, .int .i64 1, .slice bf mf df])]) ((.slice a n c, digs (qx : Rat).num.natAbs) :: (.slice b m d, digs ((qx : Rat).den : Int).natAbs) :: [(.slice a9 n9 c9, digs ((za + 1) : Int).natAbs), (.slice a7 n7 c7, digs (za : Int).natAbs), (.slice af nf cf, digs qf.num.natAbs), (.slice bf mf df, digs (qf.den : Int).natAbs)]) wx))
  case first =>
    have K0 : ∀ W F, Sf w [(g9, 24, [.int .i64 s9, .slice a9 n9 c9]), (w7.heap.size, 24, [.int .i64 s7, .slice a7 n7 c7]), (w.heap.size, 26, [.int .i64 sf, .slice af nf cf, .int .i64 1, .slice bf mf df])] F W → W.cell? ⟨w7.heap.size, 0, none⟩ = some (.int .i64 s7) ∧ W.cell? ⟨w7.heap.size, 1, none⟩ = some (.slice a7 n7 c7) := fun W F h => ⟨(h.box _ (List.mem_cons_of_mem _ List.mem_cons_self) : Fb (w7.heap.size, 24, [.int .i64 s7, .slice a7 n7 c7]) _).cells2.1, (h.box _ (List.mem_cons_of_mem _ List.mem_cons_self) : Fb (w7.heap.size, 24, [.int .i64 s7, .slice a7 n7 c7]) _).cells2.2⟩
    have KK := Lib.hid K0
    clear K0
    have K0 : ∀ W F x, Sf w (x :: [(g9, 24, [.int .i64 s9, .slice a9 n9 c9]), (w7.heap.size, 24, [.int .i64 s7, .slice a7 n7 c7]), (w.heap.size, 26, [.int .i64 sf, .slice af nf cf, .int .i64 1, .slice bf mf df])]) F W → W.cell? ⟨w7.heap.size, 0, none⟩ = some (.int .i64 s7) ∧ W.cell? ⟨w7.heap.size, 1, none⟩ = some (.slice a7 n7 c7) := fun W F x h => ⟨(h.box _ (List.mem_cons_of_mem _ (List.mem_cons_of_mem _ List.mem_cons_self)) : Fb (w7.heap.size, 24, [.int .i64 s7, .slice a7 n7 c7]) _).cells2.1, (h.box _ (List.mem_cons_of_mem _ (List.mem_cons_of_mem _ List.mem_cons_self)) : Fb (w7.heap.size, 24, [.int .i64 s7, .slice a7 n7 c7]) _).cells2.2⟩
    have KU := Lib.hid K0
    clear K0
    have N0 := Lib.hid S9.out.drew
    have A0_0 := Lib.hid (S9.out.put [.int .i64 0, .slice none 0 0, .int .i64 0, .slice none 0 0] 26).drew
    clear S9
    have e0 := KK.out _ _ N0.out
    have f0 := KU.out _ _ _ A0_0.out
    go_region_held3 (fun W => W.cell? ⟨w7.heap.size, 0, none⟩ = some (.int .i64 s7) ∧ W.cell? ⟨w7.heap.size, 1, none⟩ = some (.slice a7 n7 c7))
      (first | (with_reducible exact e0) | (with_reducible exact f0) | (with_reducible exact k10_1) | (with_reducible exact l10_1) | (with_reducible exact k10_2) | (with_reducible exact k10_3) | (with_reducible exact l10_3) | (with_reducible exact q10_3) | (with_reducible exact k10_4) | (with_reducible exact q10_4) | (with_reducible exact k10_5) | (with_reducible exact q10_5) | go_keep)
      (first
          | (have hG := A1_0; clear hG; go_at_call 23; (with_reducible refine (new_r PA1_0_1.out PA1_0_2.out LA.out L1.out O1.out Vx.out).mono ?_); rintro e y10_5 ⟨sx10_5, ax10_5, nx10_5, cx10_5, bx10_5, mx10_5, dx10_5, rfl, hr, hb, hf, hg⟩; have E10_5 := Lib.hid hr.1.1; have A2_0 := Lib.hid (A1_0.out.ret2 hb hr.1.2 hf hr.2.2 hg); clear hr hb hf hg; have k10_5 := KU.out _ _ _ A2_0.out; obtain ⟨z0, z1, z2, z3⟩ := (A2_0.out.box _ List.mem_cons_self : Fb (w9.heap.size, 26, [.int .i64 0, .slice none 0 0, .int .i64 0, .slice none 0 0]) _).cells4; obtain ⟨u0, u1, u2, u3⟩ := (A2_0.out.box _ List.mem_cons_self : Fb (w9.heap.size, 26, [.int .i64 0, .slice none 0 0, .int .i64 0, .slice none 0 0]) _).free4; have R10_5 := Lib.hid (A2_0.out.set4 (pre := []) (.int .i64 sx10_5) (.slice ax10_5 nx10_5 cx10_5) (.int .i64 1) (.slice bx10_5 mx10_5 dx10_5)); have q10_5 := KU.out _ _ _ R10_5.out)
          | (have hG := A1_1; clear hG; go_at_call 23; (with_reducible refine (new_r PA1_1_1.out PA1_1_2.out LA.out L1.out O1.out Vx.out).mono ?_); rintro e y10_4 ⟨sx10_4, ax10_4, nx10_4, cx10_4, bx10_4, mx10_4, dx10_4, rfl, hr, hb, hf, hg⟩; have E10_4 := Lib.hid hr.1.1; have A2_1 := Lib.hid (A1_1.out.ret2 hb hr.1.2 hf hr.2.2 hg); clear hr hb hf hg; have k10_4 := KU.out _ _ _ A2_1.out; obtain ⟨z0, z1, z2, z3⟩ := (A2_1.out.box _ List.mem_cons_self : Fb (y10_1.heap.size, 26, [.int .i64 0, .slice none 0 0, .int .i64 0, .slice none 0 0]) _).cells4; obtain ⟨u0, u1, u2, u3⟩ := (A2_1.out.box _ List.mem_cons_self : Fb (y10_1.heap.size, 26, [.int .i64 0, .slice none 0 0, .int .i64 0, .slice none 0 0]) _).free4; have R10_4 := Lib.hid (A2_1.out.set4 (pre := []) (.int .i64 sx10_4) (.slice ax10_4 nx10_4 cx10_4) (.int .i64 1) (.slice bx10_4 mx10_4 dx10_4)); have q10_4 := KU.out _ _ _ R10_4.out)
          | (have hG := N1; clear hG; go_at_call 23; (with_reducible refine (new_r PN1_1.out PN1_2.out LA.out L1.out O1.out Vx.out).mono ?_); rintro e y10_3 ⟨sx10_3, ax10_3, nx10_3, cx10_3, bx10_3, mx10_3, dx10_3, rfl, hr, hb, hf, hg⟩; have E10_3 := Lib.hid hr.1.1; have N2 := Lib.hid (N1.out.ret2 hb hr.1.2 hf hr.2.2 hg); clear hr hb hf hg; have k10_3 := KK.out _ _ N2.out; have Z10 := Lib.hid (N2.out.put [.int .i64 0, .slice none 0 0, .int .i64 0, .slice none 0 0] 26); have l10_3 := KU.out _ _ _ Z10.out; have R10_3 := Lib.hid (N2.out.put [.int .i64 sx10_3, .slice ax10_3 nx10_3 cx10_3, .int .i64 1, .slice bx10_3 mx10_3 dx10_3] 26); have q10_3 := KU.out _ _ _ R10_3.out)
          | (have hG := A0_0; clear hG; go_at_call 48; (with_reducible refine (of_k 1 B1.out _).mono ?_); rintro e y10_2 ⟨sx10_2, ax10_2, nx10_2, cx10_2, rfl, hn, hb, hf⟩; have E10_2 := Lib.hid hn.1; have A1_0 := Lib.hid (A0_0.out.ret hb hn.2 hf); clear hn hb hf; have k10_2 := KU.out _ _ _ A1_0.out; have PA1_0_1 := Lib.hid (A1_0.out.num (v := .slice a7 n7 c7) (z := za) (List.mem_cons_of_mem _ (List.mem_cons_of_mem _ List.mem_cons_self)) E7.out); have PA1_0_2 := Lib.hid (A1_0.out.num (v := .slice ax10_2 nx10_2 cx10_2) (z := 1) List.mem_cons_self E10_2.out))
          | (have hG := N0; clear hG; go_at_call 48; (with_reducible refine (of_k 1 B1.out _).mono ?_); rintro e y10_1 ⟨sx10_1, ax10_1, nx10_1, cx10_1, rfl, hn, hb, hf⟩; have E10_1 := Lib.hid hn.1; have N1 := Lib.hid (N0.out.ret hb hn.2 hf); clear hn hb hf; have k10_1 := KK.out _ _ N1.out; have A1_1 := Lib.hid (N1.out.put [.int .i64 0, .slice none 0 0, .int .i64 0, .slice none 0 0] 26); have l10_1 := KU.out _ _ _ A1_1.out; have PN1_1 := Lib.hid (N1.out.num (v := .slice a7 n7 c7) (z := za) (List.mem_cons_of_mem _ (List.mem_cons_of_mem _ List.mem_cons_self)) E7.out); have PN1_2 := Lib.hid (N1.out.num (v := .slice ax10_1 nx10_1 cx10_1) (z := 1) List.mem_cons_self E10_1.out); have PA1_1_1 := Lib.hid (A1_1.out.num (v := .slice a7 n7 c7) (z := za) (List.mem_cons_of_mem _ (List.mem_cons_of_mem _ List.mem_cons_self)) E7.out); have PA1_1_2 := Lib.hid (A1_1.out.num (v := .slice ax10_1 nx10_1 cx10_1) (z := 1) List.mem_cons_self E10_1.out)))
    all_goals (go_wp2_with fail; go_meet; refine ⟨rfl, ?_⟩; first | exact ⟨_, _, _, _, _, _, _, _, rfl, E10_3.out, (Sf.cut (pre := [(.slice ax10_3 nx10_3 cx10_3, digs (qx : Rat).num.natAbs), (.slice bx10_3 mx10_3 dx10_3, digs ((qx : Rat).den : Int).natAbs)]) (mid := [(.slice ax10_1 nx10_1 cx10_1, digs (1 : Int).natAbs)]) R10_3.out)⟩ | exact ⟨_, _, _, _, _, _, _, _, rfl, E10_4.out, (Sf.cut (pre := [(.slice ax10_4 nx10_4 cx10_4, digs (qx : Rat).num.natAbs), (.slice bx10_4 mx10_4 dx10_4, digs ((qx : Rat).den : Int).natAbs)]) (mid := [(.slice ax10_1 nx10_1 cx10_1, digs (1 : Int).natAbs)]) R10_4.out)⟩ | exact ⟨_, _, _, _, _, _, _, _, rfl, E10_5.out, (Sf.cut (pre := [(.slice ax10_5 nx10_5 cx10_5, digs (qx : Rat).num.natAbs), (.slice bx10_5 mx10_5 dx10_5, digs ((qx : Rat).den : Int).natAbs)]) (mid := [(.slice ax10_2 nx10_2 cx10_2, digs (1 : Int).natAbs)]) R10_5.out)⟩)
  case rest =>
  obtain ⟨rfl, hq⟩ := hcut
  obtain ⟨g10, s10, a10, n10, c10, b10, m10, d10, rfl, e10, h10⟩ := hq.out
  obtain ⟨w10, rfl⟩ : ∃ W, W = wc := ⟨_, rfl⟩
  have S10 := Lib.hid h10
  have E10 := Lib.hid e10
  clear hq e10 h10 S9
  obtain ⟨t6_0, t6_1⟩ := (S10.out.box _ (List.mem_cons_of_mem _ List.mem_cons_self) : Fb (g9, 24, [.int .i64 s9, .slice a9 n9 c9]) _).cells2
  go_upto_region 7 with fail
  clear t6_0 t6_1
  go_cut [11, 12] from 40 to 45 (fun u v wx => v = .int .i64 0 ∧ Hid (∃ g s a n c b m d, u = .pointer (some ⟨g, 0, none⟩) ∧ s = (qy : Rat).num.sign ∧ Sf w ((g, 26, [.int .i64 s, .slice a n c, .int .i64 1, .slice b m d]) :: [(g10, 26, [.int .i64 s10, .slice a10 n10 c10, .int .i64 1, .slice b10 m10 d10]), (g9, 24, [.int .i64 s9, .slice a9 n9 c9]), (w7.heap.size, 24, [.int .i64 s7, .slice a7 n7 c7]), (w.heap.size, 26, [.int .i64 sf, .slice af nf cf, .int .i64 1, .slice bf mf df])]) ((.slice a n c, digs (qy : Rat).num.natAbs) :: (.slice b m d, digs ((qy : Rat).den : Int).natAbs) :: [(.slice a10 n10 c10, digs (qx : Rat).num.natAbs), (.slice b10 m10 d10, digs ((qx : Rat).den : Int).natAbs), (.slice a9 n9 c9, digs ((za + 1) : Int).natAbs), (.slice a7 n7 c7, digs (za : Int).natAbs), (.slice af nf cf, digs qf.num.natAbs), (.slice bf mf df, digs (qf.den : Int).natAbs)]) wx))
  case first =>
    have K0 : ∀ W F, Sf w [(g10, 26, [.int .i64 s10, .slice a10 n10 c10, .int .i64 1, .slice b10 m10 d10]), (g9, 24, [.int .i64 s9, .slice a9 n9 c9]), (w7.heap.size, 24, [.int .i64 s7, .slice a7 n7 c7]), (w.heap.size, 26, [.int .i64 sf, .slice af nf cf, .int .i64 1, .slice bf mf df])] F W → W.cell? ⟨g9, 0, none⟩ = some (.int .i64 s9) ∧ W.cell? ⟨g9, 1, none⟩ = some (.slice a9 n9 c9) := fun W F h => ⟨(h.box _ (List.mem_cons_of_mem _ List.mem_cons_self) : Fb (g9, 24, [.int .i64 s9, .slice a9 n9 c9]) _).cells2.1, (h.box _ (List.mem_cons_of_mem _ List.mem_cons_self) : Fb (g9, 24, [.int .i64 s9, .slice a9 n9 c9]) _).cells2.2⟩
    have KK := Lib.hid K0
    clear K0
    have K0 : ∀ W F x, Sf w (x :: [(g10, 26, [.int .i64 s10, .slice a10 n10 c10, .int .i64 1, .slice b10 m10 d10]), (g9, 24, [.int .i64 s9, .slice a9 n9 c9]), (w7.heap.size, 24, [.int .i64 s7, .slice a7 n7 c7]), (w.heap.size, 26, [.int .i64 sf, .slice af nf cf, .int .i64 1, .slice bf mf df])]) F W → W.cell? ⟨g9, 0, none⟩ = some (.int .i64 s9) ∧ W.cell? ⟨g9, 1, none⟩ = some (.slice a9 n9 c9) := fun W F x h => ⟨(h.box _ (List.mem_cons_of_mem _ (List.mem_cons_of_mem _ List.mem_cons_self)) : Fb (g9, 24, [.int .i64 s9, .slice a9 n9 c9]) _).cells2.1, (h.box _ (List.mem_cons_of_mem _ (List.mem_cons_of_mem _ List.mem_cons_self)) : Fb (g9, 24, [.int .i64 s9, .slice a9 n9 c9]) _).cells2.2⟩
    have KU := Lib.hid K0
    clear K0
    have N0 := Lib.hid S10.out.drew
    have A0_0 := Lib.hid (S10.out.put [.int .i64 0, .slice none 0 0, .int .i64 0, .slice none 0 0] 26).drew
    clear S10
    have e0 := KK.out _ _ N0.out
    have f0 := KU.out _ _ _ A0_0.out
    go_region_held3 (fun W => W.cell? ⟨g9, 0, none⟩ = some (.int .i64 s9) ∧ W.cell? ⟨g9, 1, none⟩ = some (.slice a9 n9 c9))
      (first | (with_reducible exact e0) | (with_reducible exact f0) | (with_reducible exact k11_1) | (with_reducible exact l11_1) | (with_reducible exact k11_2) | (with_reducible exact k11_3) | (with_reducible exact l11_3) | (with_reducible exact q11_3) | (with_reducible exact k11_4) | (with_reducible exact q11_4) | (with_reducible exact k11_5) | (with_reducible exact q11_5) | go_keep)
      (first
          | (have hG := A1_0; clear hG; go_at_call 23; (with_reducible refine (new_r PA1_0_1.out PA1_0_2.out LB.out L1.out O1.out Vy.out).mono ?_); rintro e y11_5 ⟨sx11_5, ax11_5, nx11_5, cx11_5, bx11_5, mx11_5, dx11_5, rfl, hr, hb, hf, hg⟩; have E11_5 := Lib.hid hr.1.1; have A2_0 := Lib.hid (A1_0.out.ret2 hb hr.1.2 hf hr.2.2 hg); clear hr hb hf hg; have k11_5 := KU.out _ _ _ A2_0.out; obtain ⟨z0, z1, z2, z3⟩ := (A2_0.out.box _ List.mem_cons_self : Fb (w10.heap.size, 26, [.int .i64 0, .slice none 0 0, .int .i64 0, .slice none 0 0]) _).cells4; obtain ⟨u0, u1, u2, u3⟩ := (A2_0.out.box _ List.mem_cons_self : Fb (w10.heap.size, 26, [.int .i64 0, .slice none 0 0, .int .i64 0, .slice none 0 0]) _).free4; have R11_5 := Lib.hid (A2_0.out.set4 (pre := []) (.int .i64 sx11_5) (.slice ax11_5 nx11_5 cx11_5) (.int .i64 1) (.slice bx11_5 mx11_5 dx11_5)); have q11_5 := KU.out _ _ _ R11_5.out)
          | (have hG := A1_1; clear hG; go_at_call 23; (with_reducible refine (new_r PA1_1_1.out PA1_1_2.out LB.out L1.out O1.out Vy.out).mono ?_); rintro e y11_4 ⟨sx11_4, ax11_4, nx11_4, cx11_4, bx11_4, mx11_4, dx11_4, rfl, hr, hb, hf, hg⟩; have E11_4 := Lib.hid hr.1.1; have A2_1 := Lib.hid (A1_1.out.ret2 hb hr.1.2 hf hr.2.2 hg); clear hr hb hf hg; have k11_4 := KU.out _ _ _ A2_1.out; obtain ⟨z0, z1, z2, z3⟩ := (A2_1.out.box _ List.mem_cons_self : Fb (y11_1.heap.size, 26, [.int .i64 0, .slice none 0 0, .int .i64 0, .slice none 0 0]) _).cells4; obtain ⟨u0, u1, u2, u3⟩ := (A2_1.out.box _ List.mem_cons_self : Fb (y11_1.heap.size, 26, [.int .i64 0, .slice none 0 0, .int .i64 0, .slice none 0 0]) _).free4; have R11_4 := Lib.hid (A2_1.out.set4 (pre := []) (.int .i64 sx11_4) (.slice ax11_4 nx11_4 cx11_4) (.int .i64 1) (.slice bx11_4 mx11_4 dx11_4)); have q11_4 := KU.out _ _ _ R11_4.out)
          | (have hG := N1; clear hG; go_at_call 23; (with_reducible refine (new_r PN1_1.out PN1_2.out LB.out L1.out O1.out Vy.out).mono ?_); rintro e y11_3 ⟨sx11_3, ax11_3, nx11_3, cx11_3, bx11_3, mx11_3, dx11_3, rfl, hr, hb, hf, hg⟩; have E11_3 := Lib.hid hr.1.1; have N2 := Lib.hid (N1.out.ret2 hb hr.1.2 hf hr.2.2 hg); clear hr hb hf hg; have k11_3 := KK.out _ _ N2.out; have Z11 := Lib.hid (N2.out.put [.int .i64 0, .slice none 0 0, .int .i64 0, .slice none 0 0] 26); have l11_3 := KU.out _ _ _ Z11.out; have R11_3 := Lib.hid (N2.out.put [.int .i64 sx11_3, .slice ax11_3 nx11_3 cx11_3, .int .i64 1, .slice bx11_3 mx11_3 dx11_3] 26); have q11_3 := KU.out _ _ _ R11_3.out)
          | (have hG := A0_0; clear hG; go_at_call 48; (with_reducible refine (of_k 1 B1.out _).mono ?_); rintro e y11_2 ⟨sx11_2, ax11_2, nx11_2, cx11_2, rfl, hn, hb, hf⟩; have E11_2 := Lib.hid hn.1; have A1_0 := Lib.hid (A0_0.out.ret hb hn.2 hf); clear hn hb hf; have k11_2 := KU.out _ _ _ A1_0.out; have PA1_0_1 := Lib.hid (A1_0.out.num (v := .slice a9 n9 c9) (z := (za + 1)) (List.mem_cons_of_mem _ (List.mem_cons_of_mem _ (List.mem_cons_of_mem _ List.mem_cons_self))) E9.out); have PA1_0_2 := Lib.hid (A1_0.out.num (v := .slice ax11_2 nx11_2 cx11_2) (z := 1) List.mem_cons_self E11_2.out))
          | (have hG := N0; clear hG; go_at_call 48; (with_reducible refine (of_k 1 B1.out _).mono ?_); rintro e y11_1 ⟨sx11_1, ax11_1, nx11_1, cx11_1, rfl, hn, hb, hf⟩; have E11_1 := Lib.hid hn.1; have N1 := Lib.hid (N0.out.ret hb hn.2 hf); clear hn hb hf; have k11_1 := KK.out _ _ N1.out; have A1_1 := Lib.hid (N1.out.put [.int .i64 0, .slice none 0 0, .int .i64 0, .slice none 0 0] 26); have l11_1 := KU.out _ _ _ A1_1.out; have PN1_1 := Lib.hid (N1.out.num (v := .slice a9 n9 c9) (z := (za + 1)) (List.mem_cons_of_mem _ (List.mem_cons_of_mem _ (List.mem_cons_of_mem _ List.mem_cons_self))) E9.out); have PN1_2 := Lib.hid (N1.out.num (v := .slice ax11_1 nx11_1 cx11_1) (z := 1) List.mem_cons_self E11_1.out); have PA1_1_1 := Lib.hid (A1_1.out.num (v := .slice a9 n9 c9) (z := (za + 1)) (List.mem_cons_of_mem _ (List.mem_cons_of_mem _ (List.mem_cons_of_mem _ List.mem_cons_self))) E9.out); have PA1_1_2 := Lib.hid (A1_1.out.num (v := .slice ax11_1 nx11_1 cx11_1) (z := 1) List.mem_cons_self E11_1.out)))
    all_goals (go_wp2_with fail; go_meet; refine ⟨rfl, ?_⟩; first | exact ⟨_, _, _, _, _, _, _, _, rfl, E11_3.out, (Sf.cut (pre := [(.slice ax11_3 nx11_3 cx11_3, digs (qy : Rat).num.natAbs), (.slice bx11_3 mx11_3 dx11_3, digs ((qy : Rat).den : Int).natAbs)]) (mid := [(.slice ax11_1 nx11_1 cx11_1, digs (1 : Int).natAbs)]) R11_3.out)⟩ | exact ⟨_, _, _, _, _, _, _, _, rfl, E11_4.out, (Sf.cut (pre := [(.slice ax11_4 nx11_4 cx11_4, digs (qy : Rat).num.natAbs), (.slice bx11_4 mx11_4 dx11_4, digs ((qy : Rat).den : Int).natAbs)]) (mid := [(.slice ax11_1 nx11_1 cx11_1, digs (1 : Int).natAbs)]) R11_4.out)⟩ | exact ⟨_, _, _, _, _, _, _, _, rfl, E11_5.out, (Sf.cut (pre := [(.slice ax11_5 nx11_5 cx11_5, digs (qy : Rat).num.natAbs), (.slice bx11_5 mx11_5 dx11_5, digs ((qy : Rat).den : Int).natAbs)]) (mid := [(.slice ax11_2 nx11_2 cx11_2, digs (1 : Int).natAbs)]) R11_5.out)⟩)
  case rest =>
  obtain ⟨rfl, hq⟩ := hcut
  obtain ⟨g11, s11, a11, n11, c11, b11, m11, d11, rfl, e11, h11⟩ := hq.out
  obtain ⟨w11, rfl⟩ : ∃ W, W = wc := ⟨_, rfl⟩
  have S11 := Lib.hid h11
  have E11 := Lib.hid e11
  clear hq e11 h11 S10
  have hw : qx = qf ∨ qx ≠ qf := Classical.em _
  rcases hw with hw | hw
  case inl =>
    have HW := Lib.hid hw
    clear hw
    have C1 : Hid (cmpR qx qf = 0) := cmpR_eq.2 HW.out
    have C2 : Hid (cmpR qy qf = 1) := cmpR_gt.2 (floor_gt Va.out Vy.out)
    have HD : Hid (decide (qx = qf) = true) := decide_eq_true HW.out
    have C3 : Hid ((-qf).floor = (-za)) := floor_neg_whole Vx.out HW.out
    obtain ⟨t7_0, t7_1, t7_2, t7_3⟩ := (S11.out.box _ (List.mem_cons_of_mem _ List.mem_cons_self) : Fb (g10, 26, [.int .i64 s10, .slice a10 n10 c10, .int .i64 1, .slice b10 m10 d10]) _).cells4
    obtain ⟨t8_0, t8_1, t8_2, t8_3⟩ := (S11.out.box _ (List.mem_cons_of_mem _ (List.mem_cons_of_mem _ (List.mem_cons_of_mem _ (List.mem_cons_of_mem _ List.mem_cons_self)))) : Fb (w.heap.size, 26, [.int .i64 sf, .slice af nf cf, .int .i64 1, .slice bf mf df]) _).cells4
    go_wp2_with fail
    clear t7_0 t7_1 t7_2 t7_3 t8_0 t8_1 t8_2 t8_3
    refine (fcmp_r (S11.out.fr (v := .slice a10 n10 c10) (u := .slice b10 m10 d10) (r := qx) (List.mem_cons_of_mem _ (List.mem_cons_of_mem _ List.mem_cons_self)) (List.mem_cons_of_mem _ (List.mem_cons_of_mem _ (List.mem_cons_of_mem _ List.mem_cons_self))) E10.out) (S11.out.fr (v := .slice af nf cf) (u := .slice bf mf df) (r := qf) (List.mem_cons_of_mem _ (List.mem_cons_of_mem _ (List.mem_cons_of_mem _ (List.mem_cons_of_mem _ (List.mem_cons_of_mem _ (List.mem_cons_of_mem _ List.mem_cons_self)))))) (List.mem_cons_of_mem _ (List.mem_cons_of_mem _ (List.mem_cons_of_mem _ (List.mem_cons_of_mem _ (List.mem_cons_of_mem _ (List.mem_cons_of_mem _ (List.mem_cons_of_mem _ List.mem_cons_self))))))) Ef.out) WX.out WF.out C1.out).mono ?_
    rintro e w12 ⟨rfl, hb⟩
    have S13 := Lib.hid (S11.out.later hb)
    clear hb S11
    obtain ⟨t9_0, t9_1, t9_2, t9_3⟩ := (S13.out.box _ List.mem_cons_self : Fb (g11, 26, [.int .i64 s11, .slice a11 n11 c11, .int .i64 1, .slice b11 m11 d11]) _).cells4
    obtain ⟨t10_0, t10_1, t10_2, t10_3⟩ := (S13.out.box _ (List.mem_cons_of_mem _ (List.mem_cons_of_mem _ (List.mem_cons_of_mem _ (List.mem_cons_of_mem _ List.mem_cons_self)))) : Fb (w.heap.size, 26, [.int .i64 sf, .slice af nf cf, .int .i64 1, .slice bf mf df]) _).cells4
    go_wp2_with fail
    clear t9_0 t9_1 t9_2 t9_3 t10_0 t10_1 t10_2 t10_3
    refine (fcmp_r (S13.out.fr (v := .slice a11 n11 c11) (u := .slice b11 m11 d11) (r := qy) List.mem_cons_self (List.mem_cons_of_mem _ List.mem_cons_self) E11.out) (S13.out.fr (v := .slice af nf cf) (u := .slice bf mf df) (r := qf) (List.mem_cons_of_mem _ (List.mem_cons_of_mem _ (List.mem_cons_of_mem _ (List.mem_cons_of_mem _ (List.mem_cons_of_mem _ (List.mem_cons_of_mem _ List.mem_cons_self)))))) (List.mem_cons_of_mem _ (List.mem_cons_of_mem _ (List.mem_cons_of_mem _ (List.mem_cons_of_mem _ (List.mem_cons_of_mem _ (List.mem_cons_of_mem _ (List.mem_cons_of_mem _ List.mem_cons_self))))))) Ef.out) WY.out WF.out C2.out).mono ?_
    rintro e w14 ⟨rfl, hb⟩
    have S15 := Lib.hid (S13.out.later hb)
    clear hb S13
    obtain ⟨t11_0, t11_1, t11_2, t11_3⟩ := (S15.out.box _ (List.mem_cons_of_mem _ (List.mem_cons_of_mem _ (List.mem_cons_of_mem _ (List.mem_cons_of_mem _ List.mem_cons_self)))) : Fb (w.heap.size, 26, [.int .i64 sf, .slice af nf cf, .int .i64 1, .slice bf mf df]) _).cells4
    go_upto_region 10 with fail
    clear t11_0 t11_1 t11_2 t11_3
    go_cut [13] from 68 to 74 (fun u wx => Hid (∃ g s a n c, u = .pointer (some ⟨g, 0, none⟩) ∧ s = ((-za) : Int).sign ∧ Sf w ((g, 24, [.int .i64 s, .slice a n c]) :: [(g11, 26, [.int .i64 s11, .slice a11 n11 c11, .int .i64 1, .slice b11 m11 d11]), (g10, 26, [.int .i64 s10, .slice a10 n10 c10, .int .i64 1, .slice b10 m10 d10]), (g9, 24, [.int .i64 s9, .slice a9 n9 c9]), (w7.heap.size, 24, [.int .i64 s7, .slice a7 n7 c7]), (w.heap.size, 26, [.int .i64 sf, .slice af nf cf, .int .i64 1, .slice bf mf df])]) ((.slice a n c, digs ((-za) : Int).natAbs) :: [(.slice a11 n11 c11, digs (qy : Rat).num.natAbs), (.slice b11 m11 d11, digs ((qy : Rat).den : Int).natAbs), (.slice a10 n10 c10, digs (qx : Rat).num.natAbs), (.slice b10 m10 d10, digs ((qx : Rat).den : Int).natAbs), (.slice a9 n9 c9, digs ((za + 1) : Int).natAbs), (.slice a7 n7 c7, digs (za : Int).natAbs), (.slice af nf cf, digs qf.num.natAbs), (.slice bf mf df, digs (qf.den : Int).natAbs)]) wx))
    case first =>
      have K0 : ∀ W F, Sf w [(g11, 26, [.int .i64 s11, .slice a11 n11 c11, .int .i64 1, .slice b11 m11 d11]), (g10, 26, [.int .i64 s10, .slice a10 n10 c10, .int .i64 1, .slice b10 m10 d10]), (g9, 24, [.int .i64 s9, .slice a9 n9 c9]), (w7.heap.size, 24, [.int .i64 s7, .slice a7 n7 c7]), (w.heap.size, 26, [.int .i64 sf, .slice af nf cf, .int .i64 1, .slice bf mf df])] F W → W.cell? ⟨w.heap.size, 0, none⟩ = some (.int .i64 sf) ∧ W.cell? ⟨w.heap.size, 1, none⟩ = some (.slice af nf cf) ∧ W.cell? ⟨w.heap.size, 2, none⟩ = some (.int .i64 1) ∧ W.cell? ⟨w.heap.size, 3, none⟩ = some (.slice bf mf df) := fun W F h => ⟨(h.box _ (List.mem_cons_of_mem _ (List.mem_cons_of_mem _ (List.mem_cons_of_mem _ (List.mem_cons_of_mem _ List.mem_cons_self)))) : Fb (w.heap.size, 26, [.int .i64 sf, .slice af nf cf, .int .i64 1, .slice bf mf df]) _).cells4.1, (h.box _ (List.mem_cons_of_mem _ (List.mem_cons_of_mem _ (List.mem_cons_of_mem _ (List.mem_cons_of_mem _ List.mem_cons_self)))) : Fb (w.heap.size, 26, [.int .i64 sf, .slice af nf cf, .int .i64 1, .slice bf mf df]) _).cells4.2.1, (h.box _ (List.mem_cons_of_mem _ (List.mem_cons_of_mem _ (List.mem_cons_of_mem _ (List.mem_cons_of_mem _ List.mem_cons_self)))) : Fb (w.heap.size, 26, [.int .i64 sf, .slice af nf cf, .int .i64 1, .slice bf mf df]) _).cells4.2.2.1, (h.box _ (List.mem_cons_of_mem _ (List.mem_cons_of_mem _ (List.mem_cons_of_mem _ (List.mem_cons_of_mem _ List.mem_cons_self)))) : Fb (w.heap.size, 26, [.int .i64 sf, .slice af nf cf, .int .i64 1, .slice bf mf df]) _).cells4.2.2.2⟩
      have KK := Lib.hid K0
      clear K0
      have K0 : ∀ W F x, Sf w (x :: [(g11, 26, [.int .i64 s11, .slice a11 n11 c11, .int .i64 1, .slice b11 m11 d11]), (g10, 26, [.int .i64 s10, .slice a10 n10 c10, .int .i64 1, .slice b10 m10 d10]), (g9, 24, [.int .i64 s9, .slice a9 n9 c9]), (w7.heap.size, 24, [.int .i64 s7, .slice a7 n7 c7]), (w.heap.size, 26, [.int .i64 sf, .slice af nf cf, .int .i64 1, .slice bf mf df])]) F W → W.cell? ⟨w.heap.size, 0, none⟩ = some (.int .i64 sf) ∧ W.cell? ⟨w.heap.size, 1, none⟩ = some (.slice af nf cf) ∧ W.cell? ⟨w.heap.size, 2, none⟩ = some (.int .i64 1) ∧ W.cell? ⟨w.heap.size, 3, none⟩ = some (.slice bf mf df) := fun W F x h => ⟨(h.box _ (List.mem_cons_of_mem _ (List.mem_cons_of_mem _ (List.mem_cons_of_mem _ (List.mem_cons_of_mem _ (List.mem_cons_of_mem _ List.mem_cons_self))))) : Fb (w.heap.size, 26, [.int .i64 sf, .slice af nf cf, .int .i64 1, .slice bf mf df]) _).cells4.1, (h.box _ (List.mem_cons_of_mem _ (List.mem_cons_of_mem _ (List.mem_cons_of_mem _ (List.mem_cons_of_mem _ (List.mem_cons_of_mem _ List.mem_cons_self))))) : Fb (w.heap.size, 26, [.int .i64 sf, .slice af nf cf, .int .i64 1, .slice bf mf df]) _).cells4.2.1, (h.box _ (List.mem_cons_of_mem _ (List.mem_cons_of_mem _ (List.mem_cons_of_mem _ (List.mem_cons_of_mem _ (List.mem_cons_of_mem _ List.mem_cons_self))))) : Fb (w.heap.size, 26, [.int .i64 sf, .slice af nf cf, .int .i64 1, .slice bf mf df]) _).cells4.2.2.1, (h.box _ (List.mem_cons_of_mem _ (List.mem_cons_of_mem _ (List.mem_cons_of_mem _ (List.mem_cons_of_mem _ (List.mem_cons_of_mem _ List.mem_cons_self))))) : Fb (w.heap.size, 26, [.int .i64 sf, .slice af nf cf, .int .i64 1, .slice bf mf df]) _).cells4.2.2.2⟩
      have KU := Lib.hid K0
      clear K0
      have N0 := Lib.hid S15.out.drew
      have A0_0 := Lib.hid (S15.out.put [.int .i64 0, .slice none 0 0] 24).drew
      clear S15
      have PN0_1 := Lib.hid (N0.out.num (v := .slice af nf cf) (z := qf.num) (List.mem_cons_of_mem _ (List.mem_cons_of_mem _ (List.mem_cons_of_mem _ (List.mem_cons_of_mem _ (List.mem_cons_of_mem _ (List.mem_cons_of_mem _ List.mem_cons_self)))))) Ef.out)
      have PA0_0_1 := Lib.hid (A0_0.out.num (v := .slice af nf cf) (z := qf.num) (List.mem_cons_of_mem _ (List.mem_cons_of_mem _ (List.mem_cons_of_mem _ (List.mem_cons_of_mem _ (List.mem_cons_of_mem _ (List.mem_cons_of_mem _ List.mem_cons_self)))))) Ef.out)
      have e0 := KK.out _ _ N0.out
      have f0 := KU.out _ _ _ A0_0.out
      go_region_held3 (fun W => W.cell? ⟨w.heap.size, 0, none⟩ = some (.int .i64 sf) ∧ W.cell? ⟨w.heap.size, 1, none⟩ = some (.slice af nf cf) ∧ W.cell? ⟨w.heap.size, 2, none⟩ = some (.int .i64 1) ∧ W.cell? ⟨w.heap.size, 3, none⟩ = some (.slice bf mf df))
        (first | (with_reducible exact e0) | (with_reducible exact f0) | (with_reducible exact k16_1) | (with_reducible exact l16_1) | (with_reducible exact k16_2) | (with_reducible exact k16_3) | (with_reducible exact l16_3) | (with_reducible exact q16_3) | (with_reducible exact k16_4) | (with_reducible exact q16_4) | (with_reducible exact k16_5) | (with_reducible exact q16_5) | go_keep)
        (first
            | (have hG := A1_0; clear hG; go_at_call 43; (with_reducible refine (ffloor_r PA1_0_1.out WNF.out C3.out).mono ?_); rintro e y16_5 ⟨sx16_5, ax16_5, nx16_5, cx16_5, rfl, hn, hb, hf⟩; have E16_5 := Lib.hid hn.1; have A2_0 := Lib.hid (A1_0.out.ret hb hn.2 hf); clear hn hb hf; have k16_5 := KU.out _ _ _ A2_0.out; obtain ⟨z0, z1⟩ := (A2_0.out.box _ List.mem_cons_self : Fb (w14.heap.size, 24, [.int .i64 0, .slice none 0 0]) _).cells2; obtain ⟨u0, u1⟩ := (A2_0.out.box _ List.mem_cons_self : Fb (w14.heap.size, 24, [.int .i64 0, .slice none 0 0]) _).free2; have R16_5 := Lib.hid (A2_0.out.set2 (pre := []) (.int .i64 sx16_5) (.slice ax16_5 nx16_5 cx16_5)); have q16_5 := KU.out _ _ _ R16_5.out)
            | (have hG := A1_1; clear hG; go_at_call 43; (with_reducible refine (ffloor_r PA1_1_1.out WNF.out C3.out).mono ?_); rintro e y16_4 ⟨sx16_4, ax16_4, nx16_4, cx16_4, rfl, hn, hb, hf⟩; have E16_4 := Lib.hid hn.1; have A2_1 := Lib.hid (A1_1.out.ret hb hn.2 hf); clear hn hb hf; have k16_4 := KU.out _ _ _ A2_1.out; obtain ⟨z0, z1⟩ := (A2_1.out.box _ List.mem_cons_self : Fb (y16_1.heap.size, 24, [.int .i64 0, .slice none 0 0]) _).cells2; obtain ⟨u0, u1⟩ := (A2_1.out.box _ List.mem_cons_self : Fb (y16_1.heap.size, 24, [.int .i64 0, .slice none 0 0]) _).free2; have R16_4 := Lib.hid (A2_1.out.set2 (pre := []) (.int .i64 sx16_4) (.slice ax16_4 nx16_4 cx16_4)); have q16_4 := KU.out _ _ _ R16_4.out)
            | (have hG := N1; clear hG; go_at_call 43; (with_reducible refine (ffloor_r PN1_1.out WNF.out C3.out).mono ?_); rintro e y16_3 ⟨sx16_3, ax16_3, nx16_3, cx16_3, rfl, hn, hb, hf⟩; have E16_3 := Lib.hid hn.1; have N2 := Lib.hid (N1.out.ret hb hn.2 hf); clear hn hb hf; have k16_3 := KK.out _ _ N2.out; have Z16 := Lib.hid (N2.out.put [.int .i64 0, .slice none 0 0] 24); have l16_3 := KU.out _ _ _ Z16.out; have R16_3 := Lib.hid (N2.out.put [.int .i64 sx16_3, .slice ax16_3 nx16_3 cx16_3] 24); have q16_3 := KU.out _ _ _ R16_3.out)
            | (have hG := A0_0; clear hG; go_at_call 50; (with_reducible refine (neg_k PA0_0_1.out LP.out).mono ?_); rintro e y16_2 ⟨sx16_2, ax16_2, nx16_2, cx16_2, rfl, hn, hb, hf⟩; have E16_2 := Lib.hid hn.1; have A1_0 := Lib.hid (A0_0.out.ret hb hn.2 hf); clear hn hb hf; have k16_2 := KU.out _ _ _ A1_0.out; have PA1_0_1 := Lib.hid (Sf.frneg (v := .slice ax16_2 nx16_2 cx16_2) (u := .slice bf mf df) (r := qf) A1_0.out List.mem_cons_self (List.mem_cons_of_mem _ (List.mem_cons_of_mem _ (List.mem_cons_of_mem _ (List.mem_cons_of_mem _ (List.mem_cons_of_mem _ (List.mem_cons_of_mem _ (List.mem_cons_of_mem _ (List.mem_cons_of_mem _ List.mem_cons_self)))))))) E16_2.out))
            | (have hG := N0; clear hG; go_at_call 50; (with_reducible refine (neg_k PN0_1.out LP.out).mono ?_); rintro e y16_1 ⟨sx16_1, ax16_1, nx16_1, cx16_1, rfl, hn, hb, hf⟩; have E16_1 := Lib.hid hn.1; have N1 := Lib.hid (N0.out.ret hb hn.2 hf); clear hn hb hf; have k16_1 := KK.out _ _ N1.out; have A1_1 := Lib.hid (N1.out.put [.int .i64 0, .slice none 0 0] 24); have l16_1 := KU.out _ _ _ A1_1.out; have PN1_1 := Lib.hid (Sf.frneg (v := .slice ax16_1 nx16_1 cx16_1) (u := .slice bf mf df) (r := qf) N1.out List.mem_cons_self (List.mem_cons_of_mem _ (List.mem_cons_of_mem _ (List.mem_cons_of_mem _ (List.mem_cons_of_mem _ (List.mem_cons_of_mem _ (List.mem_cons_of_mem _ (List.mem_cons_of_mem _ (List.mem_cons_of_mem _ List.mem_cons_self)))))))) E16_1.out); have PA1_1_1 := Lib.hid (Sf.frneg (v := .slice ax16_1 nx16_1 cx16_1) (u := .slice bf mf df) (r := qf) A1_1.out List.mem_cons_self (List.mem_cons_of_mem _ (List.mem_cons_of_mem _ (List.mem_cons_of_mem _ (List.mem_cons_of_mem _ (List.mem_cons_of_mem _ (List.mem_cons_of_mem _ (List.mem_cons_of_mem _ (List.mem_cons_of_mem _ List.mem_cons_self)))))))) E16_1.out)))
      all_goals (go_wp2_with fail; go_meet; first | exact ⟨_, _, _, _, _, rfl, E16_3.out, (Sf.cut (pre := [(.slice ax16_3 nx16_3 cx16_3, digs ((-za) : Int).natAbs)]) (mid := [(.slice ax16_1 nx16_1 cx16_1, digs ((-qf.num) : Int).natAbs)]) R16_3.out)⟩ | exact ⟨_, _, _, _, _, rfl, E16_4.out, (Sf.cut (pre := [(.slice ax16_4 nx16_4 cx16_4, digs ((-za) : Int).natAbs)]) (mid := [(.slice ax16_1 nx16_1 cx16_1, digs ((-qf.num) : Int).natAbs)]) R16_4.out)⟩ | exact ⟨_, _, _, _, _, rfl, E16_5.out, (Sf.cut (pre := [(.slice ax16_5 nx16_5 cx16_5, digs ((-za) : Int).natAbs)]) (mid := [(.slice ax16_2 nx16_2 cx16_2, digs ((-qf.num) : Int).natAbs)]) R16_5.out)⟩)
    case rest =>
    have hq := hcut
    clear hcut
    obtain ⟨g16, s16, a16, n16, c16, rfl, e16, h16⟩ := hq.out
    obtain ⟨w16, rfl⟩ : ∃ W, W = wc := ⟨_, rfl⟩
    have S16 := Lib.hid h16
    have E16 := Lib.hid e16
    clear hq e16 h16 S15
    obtain ⟨t12_0, t12_1, t12_2, t12_3⟩ := (S16.out.box _ (List.mem_cons_of_mem _ (List.mem_cons_of_mem _ List.mem_cons_self)) : Fb (g10, 26, [.int .i64 s10, .slice a10 n10 c10, .int .i64 1, .slice b10 m10 d10]) _).cells4
    obtain ⟨t13_0, t13_1, t13_2, t13_3⟩ := (S16.out.box _ (List.mem_cons_of_mem _ (List.mem_cons_of_mem _ (List.mem_cons_of_mem _ (List.mem_cons_of_mem _ (List.mem_cons_of_mem _ List.mem_cons_self))))) : Fb (w.heap.size, 26, [.int .i64 sf, .slice af nf cf, .int .i64 1, .slice bf mf df]) _).cells4
    go_wp2_with fail
    clear t12_0 t12_1 t12_2 t12_3 t13_0 t13_1 t13_2 t13_3
    refine (rfsame_k (S16.out.fr (v := .slice a10 n10 c10) (u := .slice b10 m10 d10) (r := qx) (List.mem_cons_of_mem _ (List.mem_cons_of_mem _ (List.mem_cons_of_mem _ List.mem_cons_self))) (List.mem_cons_of_mem _ (List.mem_cons_of_mem _ (List.mem_cons_of_mem _ (List.mem_cons_of_mem _ List.mem_cons_self)))) E10.out) (S16.out.fr (v := .slice af nf cf) (u := .slice bf mf df) (r := qf) (List.mem_cons_of_mem _ (List.mem_cons_of_mem _ (List.mem_cons_of_mem _ (List.mem_cons_of_mem _ (List.mem_cons_of_mem _ (List.mem_cons_of_mem _ (List.mem_cons_of_mem _ List.mem_cons_self))))))) (List.mem_cons_of_mem _ (List.mem_cons_of_mem _ (List.mem_cons_of_mem _ (List.mem_cons_of_mem _ (List.mem_cons_of_mem _ (List.mem_cons_of_mem _ (List.mem_cons_of_mem _ (List.mem_cons_of_mem _ List.mem_cons_self)))))))) Ef.out) HD.out).mono ?_
    rintro e w17 ⟨rfl, hb⟩
    have S18 := Lib.hid (S16.out.later hb)
    clear hb S16
    obtain ⟨t14_0, t14_1⟩ := (S18.out.box _ (List.mem_cons_of_mem _ (List.mem_cons_of_mem _ (List.mem_cons_of_mem _ List.mem_cons_self))) : Fb (g9, 24, [.int .i64 s9, .slice a9 n9 c9]) _).cells2
    go_wp2_with fail
    clear t14_0 t14_1
    refine (neg_k (S18.out.num (v := .slice a9 n9 c9) (z := (za + 1)) (List.mem_cons_of_mem _ (List.mem_cons_of_mem _ (List.mem_cons_of_mem _ (List.mem_cons_of_mem _ (List.mem_cons_of_mem _ List.mem_cons_self))))) E9.out) LB.out).mono ?_
    rintro e w19 ⟨s19, a19, n19, c19, rfl, hn, hb, hf⟩
    have E19 := Lib.hid hn.1
    have S20 := Lib.hid ((S18.out.ret hb hn.2 hf).put [.int .i64 s19, .slice a19 n19 c19] 24)
    clear hn hb hf S18
    obtain ⟨t15_0, t15_1⟩ := (S20.out.box _ (List.mem_cons_of_mem _ (List.mem_cons_of_mem _ (List.mem_cons_of_mem _ (List.mem_cons_of_mem _ (List.mem_cons_of_mem _ List.mem_cons_self))))) : Fb (w7.heap.size, 24, [.int .i64 s7, .slice a7 n7 c7]) _).cells2
    go_wp2_with fail
    clear t15_0 t15_1
    refine (neg_k (S20.out.num (v := .slice a7 n7 c7) (z := za) (List.mem_cons_of_mem _ (List.mem_cons_of_mem _ (List.mem_cons_of_mem _ (List.mem_cons_of_mem _ (List.mem_cons_of_mem _ (List.mem_cons_of_mem _ (List.mem_cons_of_mem _ List.mem_cons_self))))))) E7.out) LA.out).mono ?_
    rintro e w21 ⟨s21, a21, n21, c21, rfl, hn, hb, hf⟩
    have E21 := Lib.hid hn.1
    have S22 := Lib.hid (S20.out.ret hb hn.2 hf)
    clear hn hb hf S20
    obtain ⟨t16_0, t16_1⟩ := (S22.out.box _ List.mem_cons_self : Fb (w19.heap.size, 24, [.int .i64 s19, .slice a19 n19 c19]) _).cells2
    obtain ⟨u17_0, u17_1⟩ := (S22.out.box _ List.mem_cons_self : Fb (w19.heap.size, 24, [.int .i64 s19, .slice a19 n19 c19]) _).free2
    have S23 := Lib.hid (S22.out.set2 (pre := []) (.int .i64 s21) (.slice a21 n21 c21))
    clear S22
    obtain ⟨t18_0, t18_1⟩ := (S23.out.box _ (List.mem_cons_of_mem _ List.mem_cons_self) : Fb (g16, 24, [.int .i64 s16, .slice a16 n16 c16]) _).cells2
    obtain ⟨t19_0, t19_1⟩ := (S23.out.box _ List.mem_cons_self : Fb (w19.heap.size, 24, [.int .i64 s21, .slice a21 n21 c21]) _).cells2
    go_wp2_with fail
    clear t16_0 t16_1 u17_0 u17_1 t18_0 t18_1 t19_0 t19_1
    refine (rsb_t (S23.out.num (v := .slice a16 n16 c16) (z := (-za)) (List.mem_cons_of_mem _ (List.mem_cons_of_mem _ List.mem_cons_self)) E16.out) (S23.out.num (v := .slice a21 n21 c21) (z := (-za)) List.mem_cons_self E21.out) rfl).mono ?_
    rintro e w24 ⟨rfl, hb⟩
    have S25 := Lib.hid (S23.out.later hb)
    clear hb S23
    obtain ⟨qn, hqn⟩ : ∃ r : Rat, Rat.divInt iv 1 = r := ⟨_, rfl⟩
    have Vn := Lib.hid hqn
    have Zn : Hid (FSz 4 qn) := by subst hqn; exact int_fsz (Sz.small (by have := HIv.out; omega)) (by omega)
    have Wn : Hid (FSz 1000 qn) := FSz.mono Zn.out
    have Cn : Hid (qn.floor = iv) := Lib.hid (show qn.floor = iv by rw [← hqn, rat_int, Rat.floor_intCast])
    clear hqn
    go_wp2_with fail
    refine (lof_r (r := qn) Vn.out HIv.out B1.out O1.out _).mono ?_
    rintro e w26 ⟨s26, a26, n26, c26, b26, m26, d26, rfl, hr, hb, hf, hg⟩
    have E26 := Lib.hid hr.1.1
    have S27 := Lib.hid (S25.out.ret2 hb hr.1.2 hf hr.2.2 hg)
    clear hr hb hf hg S25
    go_wp2_with fail
    refine (ffloor_r (S27.out.fr (v := .slice a26 n26 c26) (u := .slice b26 m26 d26) (r := qn) List.mem_cons_self (List.mem_cons_of_mem _ List.mem_cons_self) E26.out) Wn.out Cn.out).mono ?_
    rintro e w28 ⟨s28, a28, n28, c28, rfl, hn, hb, hf⟩
    have E28 := Lib.hid hn.1
    have S29 := Lib.hid (S27.out.ret hb hn.2 hf)
    clear hn hb hf S27
    go_wp2_with fail
    refine (of_k iv HIv.out _).mono ?_
    rintro e w30 ⟨s30, a30, n30, c30, rfl, hn, hb, hf⟩
    have E30 := Lib.hid hn.1
    have S31 := Lib.hid (S29.out.ret hb hn.2 hf)
    clear hn hb hf S29
    go_wp2_with fail
    refine (rsb_t (S31.out.num (v := .slice a28 n28 c28) (z := iv) (List.mem_cons_of_mem _ List.mem_cons_self) E28.out) (S31.out.num (v := .slice a30 n30 c30) (z := iv) List.mem_cons_self E30.out) rfl).mono ?_
    rintro e w32 ⟨rfl, hb⟩
    have S33 := Lib.hid (S31.out.later hb)
    clear hb S31
    go_wp2_with fail
    go_ret
    exact ⟨rfl, S33.out.below⟩
  case inr =>
    have HW := Lib.hid hw
    clear hw
    have C1 : Hid (cmpR qx qf = -1) := cmpR_lt.2 (floor_lt Va.out Vx.out HW.out)
    have C2 : Hid (cmpR qy qf = 1) := cmpR_gt.2 (floor_gt Va.out Vy.out)
    have HD : Hid (decide (qx = qf) = false) := decide_eq_false HW.out
    have C3 : Hid ((-qf).floor = (-(za + 1))) := floor_neg_part Va.out Vx.out HW.out
    obtain ⟨t20_0, t20_1, t20_2, t20_3⟩ := (S11.out.box _ (List.mem_cons_of_mem _ List.mem_cons_self) : Fb (g10, 26, [.int .i64 s10, .slice a10 n10 c10, .int .i64 1, .slice b10 m10 d10]) _).cells4
    obtain ⟨t21_0, t21_1, t21_2, t21_3⟩ := (S11.out.box _ (List.mem_cons_of_mem _ (List.mem_cons_of_mem _ (List.mem_cons_of_mem _ (List.mem_cons_of_mem _ List.mem_cons_self)))) : Fb (w.heap.size, 26, [.int .i64 sf, .slice af nf cf, .int .i64 1, .slice bf mf df]) _).cells4
    go_wp2_with fail
    clear t20_0 t20_1 t20_2 t20_3 t21_0 t21_1 t21_2 t21_3
    refine (fcmp_r (S11.out.fr (v := .slice a10 n10 c10) (u := .slice b10 m10 d10) (r := qx) (List.mem_cons_of_mem _ (List.mem_cons_of_mem _ List.mem_cons_self)) (List.mem_cons_of_mem _ (List.mem_cons_of_mem _ (List.mem_cons_of_mem _ List.mem_cons_self))) E10.out) (S11.out.fr (v := .slice af nf cf) (u := .slice bf mf df) (r := qf) (List.mem_cons_of_mem _ (List.mem_cons_of_mem _ (List.mem_cons_of_mem _ (List.mem_cons_of_mem _ (List.mem_cons_of_mem _ (List.mem_cons_of_mem _ List.mem_cons_self)))))) (List.mem_cons_of_mem _ (List.mem_cons_of_mem _ (List.mem_cons_of_mem _ (List.mem_cons_of_mem _ (List.mem_cons_of_mem _ (List.mem_cons_of_mem _ (List.mem_cons_of_mem _ List.mem_cons_self))))))) Ef.out) WX.out WF.out C1.out).mono ?_
    rintro e w34 ⟨rfl, hb⟩
    have S35 := Lib.hid (S11.out.later hb)
    clear hb S11
    obtain ⟨t22_0, t22_1, t22_2, t22_3⟩ := (S35.out.box _ List.mem_cons_self : Fb (g11, 26, [.int .i64 s11, .slice a11 n11 c11, .int .i64 1, .slice b11 m11 d11]) _).cells4
    obtain ⟨t23_0, t23_1, t23_2, t23_3⟩ := (S35.out.box _ (List.mem_cons_of_mem _ (List.mem_cons_of_mem _ (List.mem_cons_of_mem _ (List.mem_cons_of_mem _ List.mem_cons_self)))) : Fb (w.heap.size, 26, [.int .i64 sf, .slice af nf cf, .int .i64 1, .slice bf mf df]) _).cells4
    go_wp2_with fail
    clear t22_0 t22_1 t22_2 t22_3 t23_0 t23_1 t23_2 t23_3
    refine (fcmp_r (S35.out.fr (v := .slice a11 n11 c11) (u := .slice b11 m11 d11) (r := qy) List.mem_cons_self (List.mem_cons_of_mem _ List.mem_cons_self) E11.out) (S35.out.fr (v := .slice af nf cf) (u := .slice bf mf df) (r := qf) (List.mem_cons_of_mem _ (List.mem_cons_of_mem _ (List.mem_cons_of_mem _ (List.mem_cons_of_mem _ (List.mem_cons_of_mem _ (List.mem_cons_of_mem _ List.mem_cons_self)))))) (List.mem_cons_of_mem _ (List.mem_cons_of_mem _ (List.mem_cons_of_mem _ (List.mem_cons_of_mem _ (List.mem_cons_of_mem _ (List.mem_cons_of_mem _ (List.mem_cons_of_mem _ List.mem_cons_self))))))) Ef.out) WY.out WF.out C2.out).mono ?_
    rintro e w36 ⟨rfl, hb⟩
    have S37 := Lib.hid (S35.out.later hb)
    clear hb S35
    obtain ⟨t24_0, t24_1, t24_2, t24_3⟩ := (S37.out.box _ (List.mem_cons_of_mem _ (List.mem_cons_of_mem _ (List.mem_cons_of_mem _ (List.mem_cons_of_mem _ List.mem_cons_self)))) : Fb (w.heap.size, 26, [.int .i64 sf, .slice af nf cf, .int .i64 1, .slice bf mf df]) _).cells4
    go_upto_region 10 with fail
    clear t24_0 t24_1 t24_2 t24_3
    go_cut [13] from 68 to 74 (fun u wx => Hid (∃ g s a n c, u = .pointer (some ⟨g, 0, none⟩) ∧ s = ((-(za + 1)) : Int).sign ∧ Sf w ((g, 24, [.int .i64 s, .slice a n c]) :: [(g11, 26, [.int .i64 s11, .slice a11 n11 c11, .int .i64 1, .slice b11 m11 d11]), (g10, 26, [.int .i64 s10, .slice a10 n10 c10, .int .i64 1, .slice b10 m10 d10]), (g9, 24, [.int .i64 s9, .slice a9 n9 c9]), (w7.heap.size, 24, [.int .i64 s7, .slice a7 n7 c7]), (w.heap.size, 26, [.int .i64 sf, .slice af nf cf, .int .i64 1, .slice bf mf df])]) ((.slice a n c, digs ((-(za + 1)) : Int).natAbs) :: [(.slice a11 n11 c11, digs (qy : Rat).num.natAbs), (.slice b11 m11 d11, digs ((qy : Rat).den : Int).natAbs), (.slice a10 n10 c10, digs (qx : Rat).num.natAbs), (.slice b10 m10 d10, digs ((qx : Rat).den : Int).natAbs), (.slice a9 n9 c9, digs ((za + 1) : Int).natAbs), (.slice a7 n7 c7, digs (za : Int).natAbs), (.slice af nf cf, digs qf.num.natAbs), (.slice bf mf df, digs (qf.den : Int).natAbs)]) wx))
    case first =>
      have K0 : ∀ W F, Sf w [(g11, 26, [.int .i64 s11, .slice a11 n11 c11, .int .i64 1, .slice b11 m11 d11]), (g10, 26, [.int .i64 s10, .slice a10 n10 c10, .int .i64 1, .slice b10 m10 d10]), (g9, 24, [.int .i64 s9, .slice a9 n9 c9]), (w7.heap.size, 24, [.int .i64 s7, .slice a7 n7 c7]), (w.heap.size, 26, [.int .i64 sf, .slice af nf cf, .int .i64 1, .slice bf mf df])] F W → W.cell? ⟨w.heap.size, 0, none⟩ = some (.int .i64 sf) ∧ W.cell? ⟨w.heap.size, 1, none⟩ = some (.slice af nf cf) ∧ W.cell? ⟨w.heap.size, 2, none⟩ = some (.int .i64 1) ∧ W.cell? ⟨w.heap.size, 3, none⟩ = some (.slice bf mf df) := fun W F h => ⟨(h.box _ (List.mem_cons_of_mem _ (List.mem_cons_of_mem _ (List.mem_cons_of_mem _ (List.mem_cons_of_mem _ List.mem_cons_self)))) : Fb (w.heap.size, 26, [.int .i64 sf, .slice af nf cf, .int .i64 1, .slice bf mf df]) _).cells4.1, (h.box _ (List.mem_cons_of_mem _ (List.mem_cons_of_mem _ (List.mem_cons_of_mem _ (List.mem_cons_of_mem _ List.mem_cons_self)))) : Fb (w.heap.size, 26, [.int .i64 sf, .slice af nf cf, .int .i64 1, .slice bf mf df]) _).cells4.2.1, (h.box _ (List.mem_cons_of_mem _ (List.mem_cons_of_mem _ (List.mem_cons_of_mem _ (List.mem_cons_of_mem _ List.mem_cons_self)))) : Fb (w.heap.size, 26, [.int .i64 sf, .slice af nf cf, .int .i64 1, .slice bf mf df]) _).cells4.2.2.1, (h.box _ (List.mem_cons_of_mem _ (List.mem_cons_of_mem _ (List.mem_cons_of_mem _ (List.mem_cons_of_mem _ List.mem_cons_self)))) : Fb (w.heap.size, 26, [.int .i64 sf, .slice af nf cf, .int .i64 1, .slice bf mf df]) _).cells4.2.2.2⟩
      have KK := Lib.hid K0
      clear K0
      have K0 : ∀ W F x, Sf w (x :: [(g11, 26, [.int .i64 s11, .slice a11 n11 c11, .int .i64 1, .slice b11 m11 d11]), (g10, 26, [.int .i64 s10, .slice a10 n10 c10, .int .i64 1, .slice b10 m10 d10]), (g9, 24, [.int .i64 s9, .slice a9 n9 c9]), (w7.heap.size, 24, [.int .i64 s7, .slice a7 n7 c7]), (w.heap.size, 26, [.int .i64 sf, .slice af nf cf, .int .i64 1, .slice bf mf df])]) F W → W.cell? ⟨w.heap.size, 0, none⟩ = some (.int .i64 sf) ∧ W.cell? ⟨w.heap.size, 1, none⟩ = some (.slice af nf cf) ∧ W.cell? ⟨w.heap.size, 2, none⟩ = some (.int .i64 1) ∧ W.cell? ⟨w.heap.size, 3, none⟩ = some (.slice bf mf df) := fun W F x h => ⟨(h.box _ (List.mem_cons_of_mem _ (List.mem_cons_of_mem _ (List.mem_cons_of_mem _ (List.mem_cons_of_mem _ (List.mem_cons_of_mem _ List.mem_cons_self))))) : Fb (w.heap.size, 26, [.int .i64 sf, .slice af nf cf, .int .i64 1, .slice bf mf df]) _).cells4.1, (h.box _ (List.mem_cons_of_mem _ (List.mem_cons_of_mem _ (List.mem_cons_of_mem _ (List.mem_cons_of_mem _ (List.mem_cons_of_mem _ List.mem_cons_self))))) : Fb (w.heap.size, 26, [.int .i64 sf, .slice af nf cf, .int .i64 1, .slice bf mf df]) _).cells4.2.1, (h.box _ (List.mem_cons_of_mem _ (List.mem_cons_of_mem _ (List.mem_cons_of_mem _ (List.mem_cons_of_mem _ (List.mem_cons_of_mem _ List.mem_cons_self))))) : Fb (w.heap.size, 26, [.int .i64 sf, .slice af nf cf, .int .i64 1, .slice bf mf df]) _).cells4.2.2.1, (h.box _ (List.mem_cons_of_mem _ (List.mem_cons_of_mem _ (List.mem_cons_of_mem _ (List.mem_cons_of_mem _ (List.mem_cons_of_mem _ List.mem_cons_self))))) : Fb (w.heap.size, 26, [.int .i64 sf, .slice af nf cf, .int .i64 1, .slice bf mf df]) _).cells4.2.2.2⟩
      have KU := Lib.hid K0
      clear K0
      have N0 := Lib.hid S37.out.drew
      have A0_0 := Lib.hid (S37.out.put [.int .i64 0, .slice none 0 0] 24).drew
      clear S37
      have PN0_1 := Lib.hid (N0.out.num (v := .slice af nf cf) (z := qf.num) (List.mem_cons_of_mem _ (List.mem_cons_of_mem _ (List.mem_cons_of_mem _ (List.mem_cons_of_mem _ (List.mem_cons_of_mem _ (List.mem_cons_of_mem _ List.mem_cons_self)))))) Ef.out)
      have PA0_0_1 := Lib.hid (A0_0.out.num (v := .slice af nf cf) (z := qf.num) (List.mem_cons_of_mem _ (List.mem_cons_of_mem _ (List.mem_cons_of_mem _ (List.mem_cons_of_mem _ (List.mem_cons_of_mem _ (List.mem_cons_of_mem _ List.mem_cons_self)))))) Ef.out)
      have e0 := KK.out _ _ N0.out
      have f0 := KU.out _ _ _ A0_0.out
      go_region_held3 (fun W => W.cell? ⟨w.heap.size, 0, none⟩ = some (.int .i64 sf) ∧ W.cell? ⟨w.heap.size, 1, none⟩ = some (.slice af nf cf) ∧ W.cell? ⟨w.heap.size, 2, none⟩ = some (.int .i64 1) ∧ W.cell? ⟨w.heap.size, 3, none⟩ = some (.slice bf mf df))
        (first | (with_reducible exact e0) | (with_reducible exact f0) | (with_reducible exact k38_1) | (with_reducible exact l38_1) | (with_reducible exact k38_2) | (with_reducible exact k38_3) | (with_reducible exact l38_3) | (with_reducible exact q38_3) | (with_reducible exact k38_4) | (with_reducible exact q38_4) | (with_reducible exact k38_5) | (with_reducible exact q38_5) | go_keep)
        (first
            | (have hG := A1_0; clear hG; go_at_call 43; (with_reducible refine (ffloor_r PA1_0_1.out WNF.out C3.out).mono ?_); rintro e y38_5 ⟨sx38_5, ax38_5, nx38_5, cx38_5, rfl, hn, hb, hf⟩; have E38_5 := Lib.hid hn.1; have A2_0 := Lib.hid (A1_0.out.ret hb hn.2 hf); clear hn hb hf; have k38_5 := KU.out _ _ _ A2_0.out; obtain ⟨z0, z1⟩ := (A2_0.out.box _ List.mem_cons_self : Fb (w36.heap.size, 24, [.int .i64 0, .slice none 0 0]) _).cells2; obtain ⟨u0, u1⟩ := (A2_0.out.box _ List.mem_cons_self : Fb (w36.heap.size, 24, [.int .i64 0, .slice none 0 0]) _).free2; have R38_5 := Lib.hid (A2_0.out.set2 (pre := []) (.int .i64 sx38_5) (.slice ax38_5 nx38_5 cx38_5)); have q38_5 := KU.out _ _ _ R38_5.out)
            | (have hG := A1_1; clear hG; go_at_call 43; (with_reducible refine (ffloor_r PA1_1_1.out WNF.out C3.out).mono ?_); rintro e y38_4 ⟨sx38_4, ax38_4, nx38_4, cx38_4, rfl, hn, hb, hf⟩; have E38_4 := Lib.hid hn.1; have A2_1 := Lib.hid (A1_1.out.ret hb hn.2 hf); clear hn hb hf; have k38_4 := KU.out _ _ _ A2_1.out; obtain ⟨z0, z1⟩ := (A2_1.out.box _ List.mem_cons_self : Fb (y38_1.heap.size, 24, [.int .i64 0, .slice none 0 0]) _).cells2; obtain ⟨u0, u1⟩ := (A2_1.out.box _ List.mem_cons_self : Fb (y38_1.heap.size, 24, [.int .i64 0, .slice none 0 0]) _).free2; have R38_4 := Lib.hid (A2_1.out.set2 (pre := []) (.int .i64 sx38_4) (.slice ax38_4 nx38_4 cx38_4)); have q38_4 := KU.out _ _ _ R38_4.out)
            | (have hG := N1; clear hG; go_at_call 43; (with_reducible refine (ffloor_r PN1_1.out WNF.out C3.out).mono ?_); rintro e y38_3 ⟨sx38_3, ax38_3, nx38_3, cx38_3, rfl, hn, hb, hf⟩; have E38_3 := Lib.hid hn.1; have N2 := Lib.hid (N1.out.ret hb hn.2 hf); clear hn hb hf; have k38_3 := KK.out _ _ N2.out; have Z38 := Lib.hid (N2.out.put [.int .i64 0, .slice none 0 0] 24); have l38_3 := KU.out _ _ _ Z38.out; have R38_3 := Lib.hid (N2.out.put [.int .i64 sx38_3, .slice ax38_3 nx38_3 cx38_3] 24); have q38_3 := KU.out _ _ _ R38_3.out)
            | (have hG := A0_0; clear hG; go_at_call 50; (with_reducible refine (neg_k PA0_0_1.out LP.out).mono ?_); rintro e y38_2 ⟨sx38_2, ax38_2, nx38_2, cx38_2, rfl, hn, hb, hf⟩; have E38_2 := Lib.hid hn.1; have A1_0 := Lib.hid (A0_0.out.ret hb hn.2 hf); clear hn hb hf; have k38_2 := KU.out _ _ _ A1_0.out; have PA1_0_1 := Lib.hid (Sf.frneg (v := .slice ax38_2 nx38_2 cx38_2) (u := .slice bf mf df) (r := qf) A1_0.out List.mem_cons_self (List.mem_cons_of_mem _ (List.mem_cons_of_mem _ (List.mem_cons_of_mem _ (List.mem_cons_of_mem _ (List.mem_cons_of_mem _ (List.mem_cons_of_mem _ (List.mem_cons_of_mem _ (List.mem_cons_of_mem _ List.mem_cons_self)))))))) E38_2.out))
            | (have hG := N0; clear hG; go_at_call 50; (with_reducible refine (neg_k PN0_1.out LP.out).mono ?_); rintro e y38_1 ⟨sx38_1, ax38_1, nx38_1, cx38_1, rfl, hn, hb, hf⟩; have E38_1 := Lib.hid hn.1; have N1 := Lib.hid (N0.out.ret hb hn.2 hf); clear hn hb hf; have k38_1 := KK.out _ _ N1.out; have A1_1 := Lib.hid (N1.out.put [.int .i64 0, .slice none 0 0] 24); have l38_1 := KU.out _ _ _ A1_1.out; have PN1_1 := Lib.hid (Sf.frneg (v := .slice ax38_1 nx38_1 cx38_1) (u := .slice bf mf df) (r := qf) N1.out List.mem_cons_self (List.mem_cons_of_mem _ (List.mem_cons_of_mem _ (List.mem_cons_of_mem _ (List.mem_cons_of_mem _ (List.mem_cons_of_mem _ (List.mem_cons_of_mem _ (List.mem_cons_of_mem _ (List.mem_cons_of_mem _ List.mem_cons_self)))))))) E38_1.out); have PA1_1_1 := Lib.hid (Sf.frneg (v := .slice ax38_1 nx38_1 cx38_1) (u := .slice bf mf df) (r := qf) A1_1.out List.mem_cons_self (List.mem_cons_of_mem _ (List.mem_cons_of_mem _ (List.mem_cons_of_mem _ (List.mem_cons_of_mem _ (List.mem_cons_of_mem _ (List.mem_cons_of_mem _ (List.mem_cons_of_mem _ (List.mem_cons_of_mem _ List.mem_cons_self)))))))) E38_1.out)))
      all_goals (go_wp2_with fail; go_meet; first | exact ⟨_, _, _, _, _, rfl, E38_3.out, (Sf.cut (pre := [(.slice ax38_3 nx38_3 cx38_3, digs ((-(za + 1)) : Int).natAbs)]) (mid := [(.slice ax38_1 nx38_1 cx38_1, digs ((-qf.num) : Int).natAbs)]) R38_3.out)⟩ | exact ⟨_, _, _, _, _, rfl, E38_4.out, (Sf.cut (pre := [(.slice ax38_4 nx38_4 cx38_4, digs ((-(za + 1)) : Int).natAbs)]) (mid := [(.slice ax38_1 nx38_1 cx38_1, digs ((-qf.num) : Int).natAbs)]) R38_4.out)⟩ | exact ⟨_, _, _, _, _, rfl, E38_5.out, (Sf.cut (pre := [(.slice ax38_5 nx38_5 cx38_5, digs ((-(za + 1)) : Int).natAbs)]) (mid := [(.slice ax38_2 nx38_2 cx38_2, digs ((-qf.num) : Int).natAbs)]) R38_5.out)⟩)
    case rest =>
    have hq := hcut
    clear hcut
    obtain ⟨g38, s38, a38, n38, c38, rfl, e38, h38⟩ := hq.out
    obtain ⟨w38, rfl⟩ : ∃ W, W = wc := ⟨_, rfl⟩
    have S38 := Lib.hid h38
    have E38 := Lib.hid e38
    clear hq e38 h38 S37
    obtain ⟨t25_0, t25_1, t25_2, t25_3⟩ := (S38.out.box _ (List.mem_cons_of_mem _ (List.mem_cons_of_mem _ List.mem_cons_self)) : Fb (g10, 26, [.int .i64 s10, .slice a10 n10 c10, .int .i64 1, .slice b10 m10 d10]) _).cells4
    obtain ⟨t26_0, t26_1, t26_2, t26_3⟩ := (S38.out.box _ (List.mem_cons_of_mem _ (List.mem_cons_of_mem _ (List.mem_cons_of_mem _ (List.mem_cons_of_mem _ (List.mem_cons_of_mem _ List.mem_cons_self))))) : Fb (w.heap.size, 26, [.int .i64 sf, .slice af nf cf, .int .i64 1, .slice bf mf df]) _).cells4
    go_wp2_with fail
    clear t25_0 t25_1 t25_2 t25_3 t26_0 t26_1 t26_2 t26_3
    refine (rfsame_k (S38.out.fr (v := .slice a10 n10 c10) (u := .slice b10 m10 d10) (r := qx) (List.mem_cons_of_mem _ (List.mem_cons_of_mem _ (List.mem_cons_of_mem _ List.mem_cons_self))) (List.mem_cons_of_mem _ (List.mem_cons_of_mem _ (List.mem_cons_of_mem _ (List.mem_cons_of_mem _ List.mem_cons_self)))) E10.out) (S38.out.fr (v := .slice af nf cf) (u := .slice bf mf df) (r := qf) (List.mem_cons_of_mem _ (List.mem_cons_of_mem _ (List.mem_cons_of_mem _ (List.mem_cons_of_mem _ (List.mem_cons_of_mem _ (List.mem_cons_of_mem _ (List.mem_cons_of_mem _ List.mem_cons_self))))))) (List.mem_cons_of_mem _ (List.mem_cons_of_mem _ (List.mem_cons_of_mem _ (List.mem_cons_of_mem _ (List.mem_cons_of_mem _ (List.mem_cons_of_mem _ (List.mem_cons_of_mem _ (List.mem_cons_of_mem _ List.mem_cons_self)))))))) Ef.out) HD.out).mono ?_
    rintro e w39 ⟨rfl, hb⟩
    have S40 := Lib.hid (S38.out.later hb)
    clear hb S38
    obtain ⟨t27_0, t27_1⟩ := (S40.out.box _ (List.mem_cons_of_mem _ (List.mem_cons_of_mem _ (List.mem_cons_of_mem _ List.mem_cons_self))) : Fb (g9, 24, [.int .i64 s9, .slice a9 n9 c9]) _).cells2
    go_wp2_with fail
    clear t27_0 t27_1
    refine (neg_k (S40.out.num (v := .slice a9 n9 c9) (z := (za + 1)) (List.mem_cons_of_mem _ (List.mem_cons_of_mem _ (List.mem_cons_of_mem _ (List.mem_cons_of_mem _ (List.mem_cons_of_mem _ List.mem_cons_self))))) E9.out) LB.out).mono ?_
    rintro e w41 ⟨s41, a41, n41, c41, rfl, hn, hb, hf⟩
    have E41 := Lib.hid hn.1
    have S42 := Lib.hid ((S40.out.ret hb hn.2 hf).put [.int .i64 s41, .slice a41 n41 c41] 24)
    clear hn hb hf S40
    obtain ⟨t28_0, t28_1⟩ := (S42.out.box _ (List.mem_cons_of_mem _ List.mem_cons_self) : Fb (g38, 24, [.int .i64 s38, .slice a38 n38 c38]) _).cells2
    obtain ⟨t29_0, t29_1⟩ := (S42.out.box _ List.mem_cons_self : Fb (w41.heap.size, 24, [.int .i64 s41, .slice a41 n41 c41]) _).cells2
    go_wp2_with fail
    clear t28_0 t28_1 t29_0 t29_1
    refine (rsb_t (S42.out.num (v := .slice a38 n38 c38) (z := (-(za + 1))) (List.mem_cons_of_mem _ List.mem_cons_self) E38.out) (S42.out.num (v := .slice a41 n41 c41) (z := (-(za + 1))) List.mem_cons_self E41.out) rfl).mono ?_
    rintro e w43 ⟨rfl, hb⟩
    have S44 := Lib.hid (S42.out.later hb)
    clear hb S42
    obtain ⟨qn, hqn⟩ : ∃ r : Rat, Rat.divInt iv 1 = r := ⟨_, rfl⟩
    have Vn := Lib.hid hqn
    have Zn : Hid (FSz 4 qn) := by subst hqn; exact int_fsz (Sz.small (by have := HIv.out; omega)) (by omega)
    have Wn : Hid (FSz 1000 qn) := FSz.mono Zn.out
    have Cn : Hid (qn.floor = iv) := Lib.hid (show qn.floor = iv by rw [← hqn, rat_int, Rat.floor_intCast])
    clear hqn
    go_wp2_with fail
    refine (lof_r (r := qn) Vn.out HIv.out B1.out O1.out _).mono ?_
    rintro e w45 ⟨s45, a45, n45, c45, b45, m45, d45, rfl, hr, hb, hf, hg⟩
    have E45 := Lib.hid hr.1.1
    have S46 := Lib.hid (S44.out.ret2 hb hr.1.2 hf hr.2.2 hg)
    clear hr hb hf hg S44
    go_wp2_with fail
    refine (ffloor_r (S46.out.fr (v := .slice a45 n45 c45) (u := .slice b45 m45 d45) (r := qn) List.mem_cons_self (List.mem_cons_of_mem _ List.mem_cons_self) E45.out) Wn.out Cn.out).mono ?_
    rintro e w47 ⟨s47, a47, n47, c47, rfl, hn, hb, hf⟩
    have E47 := Lib.hid hn.1
    have S48 := Lib.hid (S46.out.ret hb hn.2 hf)
    clear hn hb hf S46
    go_wp2_with fail
    refine (of_k iv HIv.out _).mono ?_
    rintro e w49 ⟨s49, a49, n49, c49, rfl, hn, hb, hf⟩
    have E49 := Lib.hid hn.1
    have S50 := Lib.hid (S48.out.ret hb hn.2 hf)
    clear hn hb hf S48
    go_wp2_with fail
    refine (rsb_t (S50.out.num (v := .slice a47 n47 c47) (z := iv) (List.mem_cons_of_mem _ List.mem_cons_self) E47.out) (S50.out.num (v := .slice a49 n49 c49) (z := iv) List.mem_cons_self E49.out) rfl).mono ?_
    rintro e w51 ⟨rfl, hb⟩
    have S52 := Lib.hid (S50.out.later hb)
    clear hb S50
    go_wp2_with fail
    go_ret
    exact ⟨rfl, S52.out.below⟩

set_option maxHeartbeats 4000000 in
theorem FracFloor_long (sf : Int) (af : Option Addr) (nf cf : Nat) (tf : Int) (bf : Option Addr) (mf df : Nat) (iv : Int) (w : World) (he : EnvF w) (hf : nf ≤ 9223372036854775807) (gf : mf ≤ 9223372036854775807) (hno : ¬ ((nf ≤ 30 ∧ mf ≤ 30))) :
    Calls Tryz.prog 7 #[.agg #[.int .i64 sf, .slice af nf cf, .int .i64 tf, .slice bf mf df], .int .i64 iv] w fun e w' => e = .returned (.bool true) ∧ RowKit.Below w.heap.size w w' := by
  have HE := Lib.hid he
  have HNO := Lib.hid hno
  have Hf := Lib.hid hf
  have Gf := Lib.hid gf
  obtain ⟨ff, hff⟩ : ∃ b, (decide ((nf : Int) ≤ 30) && decide ((mf : Int) ≤ 30)) = b := ⟨_, rfl⟩
  have FWf := Lib.hid hff
  clear hf gf hff
  have S0 := Lib.hid (((Sf.start w)).put [.int .i64 sf, .slice af nf cf, .int .i64 tf, .slice bf mf df] 26)
  clear he hno
  go_enter Tryz.func7, Tryz.ntmps7
  go_wp2_with fail
  refine (lsmall_k _ (S0.out.envF HE.out)).mono ?_
  rintro e w1 ⟨rfl, hb⟩
  have S2 := Lib.hid (S0.out.later hb)
  clear hb S0
  obtain ⟨t1_0, t1_1, t1_2, t1_3⟩ := (S2.out.box _ List.mem_cons_self : Fb (w.heap.size, 26, [.int .i64 sf, .slice af nf cf, .int .i64 tf, .slice bf mf df]) _).cells4
  go_wp2_with fail
  clear t1_0 t1_1 t1_2 t1_3
  refine (ffew_len sf af nf cf tf bf mf df 30 _ Hf.out Gf.out ff FWf.out).mono ?_
  rintro e w3 ⟨rfl, hb⟩
  have S4 := Lib.hid (S2.out.later hb)
  clear hb S2
  cases ff
  case false =>
    go_wp2_with fail
    go_ret
    exact ⟨rfl, S4.out.below⟩
  exact absurd (few_nat FWf.out) HNO.out

end Go.Proofs.YtbbjogkapcakpaaGreatDoor.Bi
