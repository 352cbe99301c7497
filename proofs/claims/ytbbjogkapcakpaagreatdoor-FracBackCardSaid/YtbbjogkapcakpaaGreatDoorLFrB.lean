/- The contract of FracBack. -/
import Derived.Test.YtbbjogkapcakpaaGreatDoorLFr16
set_option maxRecDepth 100000
namespace Go.Proofs.YtbbjogkapcakpaaGreatDoor.Bi
open Go.RowKit

set_option maxHeartbeats 8000000 in
theorem FracBack_any (sf : Int) (af : Option Addr) (nf cf : Nat) (lf : List Int) (tf : Int) (bf : Option Addr) (mf df : Nat) (kf : List Int) (iv : Int) (zs : ByteArray) (w : World) (he : EnvF w) (hf : Ints w (.slice af nf cf) lf) (gf : Ints w (.slice bf mf df) kf) (hiv : -9223372036854775808 ≤ iv ∧ iv ≤ 9223372036854775807) (hzs : zs.size ≤ 9223372036854775807) :
    Calls Tryz.prog 6 #[.agg #[.int .i64 sf, .slice af nf cf, .int .i64 tf, .slice bf mf df], .int .i64 iv, .string zs] w fun e w' => e = .returned (.bool true) ∧ RowKit.Below w.heap.size w w' := by
  have HE := Lib.hid he
  have HN := Lib.hid he.env
  have S0 := Lib.hid (((((Sf.start w)).arg gf).arg hf).put [.int .i64 sf, .slice af nf cf, .int .i64 tf, .slice bf mf df] 26)
  obtain ⟨ff, hff⟩ : ∃ b, (decide ((lf.length : Int) ≤ 40) && decide ((kf.length : Int) ≤ 40)) = b := ⟨_, rfl⟩
  obtain ⟨rf, hrf⟩ : ∃ b, fRightB sf lf tf kf = b := ⟨_, rfl⟩
  have FWf := Lib.hid hff
  have RWf := Lib.hid hrf
  clear hf gf hff hrf
  have HIv := Lib.hid hiv
  clear he hiv
  go_enter Tryz.func6, Tryz.ntmps6
  go_wp2_with fail
  refine (lsmall_k _ (S0.out.envF HE.out)).mono ?_
  rintro e w1 ⟨rfl, hb⟩
  have S2 := Lib.hid (S0.out.later hb)
  clear hb S0
  obtain ⟨t1_0, t1_1, t1_2, t1_3⟩ := (S2.out.box _ List.mem_cons_self : Fb (w.heap.size, 26, [.int .i64 sf, .slice af nf cf, .int .i64 tf, .slice bf mf df]) _).cells4
  go_wp2_with fail
  clear t1_0 t1_1 t1_2 t1_3
  refine (ffew_any sf af nf cf _ tf bf mf df _ 40 _ (S2.out.ints (.slice af nf cf, lf) List.mem_cons_self) (S2.out.ints (.slice bf mf df, kf) (List.mem_cons_of_mem _ List.mem_cons_self)) ff FWf.out).mono ?_
  rintro e w3 ⟨rfl, hb⟩
  have S4 := Lib.hid (S2.out.later hb)
  clear hb S2
  cases ff
  case false =>
    go_wp2_with fail
    go_ret
    exact ⟨rfl, S4.out.below⟩
  by_cases h3 : zs.size ≤ 300
  case neg =>
    go_wp2_with fail
    go_ret
    exact ⟨rfl, S4.out.below⟩
  case pos =>
    have HS3 := Lib.hid h3
    have hlz : zs.data.toList.length = zs.size := Array.length_toList
    have HLZ := Lib.hid hlz
    clear hlz
    by_cases hr : ∃ r, zs.data.toList = fTextL r
    case pos =>
      obtain ⟨rg, hrg⟩ := hr
      have HRG := Lib.hid hrg
      have Zg : Hid (FSz 300 rg) := ftext_sz (by rw [← hrg]; have := HLZ.out; have := HS3.out; omega)
      have WG : Hid (FSz 1000 rg) := FSz.mono Zg.out
      clear hrg
      go_wp2_with fail
      refine (fread_yes zs (by have := HS3.out; omega) _ (S4.out.envF HE.out) rg HRG.out).mono ?_
      rintro e w5 ⟨s5, a5, n5, c5, b5, m5, d5, rfl, hr, hb, hf, hg⟩
      have E5 := Lib.hid hr.1.1
      have S6 := Lib.hid ((S4.out.ret2 hb hr.1.2 hf hr.2.2 hg).put [.int .i64 s5, .slice a5 n5 c5, .int .i64 1, .slice b5 m5 d5] 26)
      clear hr hb hf hg S4
      obtain ⟨t2_0, t2_1, t2_2, t2_3⟩ := (S6.out.box _ List.mem_cons_self : Fb (w5.heap.size, 26, [.int .i64 s5, .slice a5 n5 c5, .int .i64 1, .slice b5 m5 d5]) _).cells4
      go_wp2_with fail
      clear t2_0 t2_1 t2_2 t2_3
      refine (fright_k (S6.out.fr (v := .slice a5 n5 c5) (u := .slice b5 m5 d5) (r := rg) List.mem_cons_self (List.mem_cons_of_mem _ List.mem_cons_self) E5.out) WG.out).mono ?_
      rintro e w7 ⟨rfl, hb⟩
      have S8 := Lib.hid (S6.out.later hb)
      clear hb S6
      obtain ⟨t3_0, t3_1, t3_2, t3_3⟩ := (S8.out.box _ List.mem_cons_self : Fb (w5.heap.size, 26, [.int .i64 s5, .slice a5 n5 c5, .int .i64 1, .slice b5 m5 d5]) _).cells4
      go_wp2_with fail
      clear t3_0 t3_1 t3_2 t3_3
      refine (ftext_s (S8.out.fr (v := .slice a5 n5 c5) (u := .slice b5 m5 d5) (r := rg) List.mem_cons_self (List.mem_cons_of_mem _ List.mem_cons_self) E5.out) WG.out (S8.out.env HN.out) HRG.out.symm).mono ?_
      rintro e w9 ⟨rfl, hb⟩
      have S10 := Lib.hid (S8.out.later hb)
      clear hb S8
      obtain ⟨t4_0, t4_1, t4_2, t4_3⟩ := (S10.out.box _ (List.mem_cons_of_mem _ List.mem_cons_self) : Fb (w.heap.size, 26, [.int .i64 sf, .slice af nf cf, .int .i64 tf, .slice bf mf df]) _).cells4
      go_wp2_with fail
      clear t4_0 t4_1 t4_2 t4_3
      cases rf
      case false =>
        have hl := few_lens FWf.out (by decide)
        refine (ftext_bad sf af nf cf _ tf bf mf df _ _ (S10.out.ints (.slice af nf cf, lf) (List.mem_cons_of_mem _ (List.mem_cons_of_mem _ List.mem_cons_self))) (S10.out.ints (.slice bf mf df, kf) (List.mem_cons_of_mem _ (List.mem_cons_of_mem _ (List.mem_cons_of_mem _ List.mem_cons_self)))) hl.1 hl.2 RWf.out).mono ?_
        rintro e w11 ⟨rfl, hb⟩
        have S12 := Lib.hid (S10.out.later hb)
        clear hb S10
        clear hl
        obtain ⟨t5_0, t5_1, t5_2, t5_3⟩ := (S12.out.box _ (List.mem_cons_of_mem _ List.mem_cons_self) : Fb (w.heap.size, 26, [.int .i64 sf, .slice af nf cf, .int .i64 tf, .slice bf mf df]) _).cells4
        go_wp2_with fail
        clear t5_0 t5_1 t5_2 t5_3
        have hl := few_lens FWf.out (by decide)
        refine (fright_any sf af nf cf _ tf bf mf df _ _ (S12.out.ints (.slice af nf cf, lf) (List.mem_cons_of_mem _ (List.mem_cons_of_mem _ List.mem_cons_self))) (S12.out.ints (.slice bf mf df, kf) (List.mem_cons_of_mem _ (List.mem_cons_of_mem _ (List.mem_cons_of_mem _ List.mem_cons_self)))) hl.1 hl.2 false RWf.out).mono ?_
        rintro e w13 ⟨rfl, hb⟩
        have S14 := Lib.hid (S12.out.later hb)
        clear hb S12
        clear hl
        go_wp2_with fail
        go_ret
        exact ⟨rfl, S14.out.below⟩
      case true =>
        obtain ⟨qf, ef, rfl, rfl, rfl⟩ := fright_of RWf.out
        have Ef := Lib.hid ef
        have Zf : Hid (FSz 40 qf) := FSz.fits FWf.out
        clear ef FWf RWf
        obtain ⟨t, ht⟩ : ∃ t : ByteArray, t = ⟨(fTextL qf).toArray⟩ := ⟨_, rfl⟩
        have ht1 : fTextL qf = t.data.toList := by rw [ht]
        have hsz : t.size ≤ 563 := by rw [ht, size_mk]; exact FSz.text Zf.out (by omega)
        have T1 := Lib.hid ht1
        have HSZ : Hid (t.size ≤ 100000) := Nat.le_trans hsz (by omega)
        clear ht ht1 hsz
        have WF : Hid (FSz 1000 qf) := FSz.mono Zf.out
        have ED : Hid ((1 : Int) = (qf.den : Int).sign) := (den_sign qf).symm
        have LP : Hid (Len 100000 qf.num) := Sz.len Zf.out.1
        have LQ : Hid (Len 100000 (qf.den : Int)) := Sz.len Zf.out.2
        have OQ : Hid ((qf.den : Int) ≠ 0) := den_ne qf
        have RS := Lib.hid (rat_self qf)
        have Sv : Hid (Sz 4 iv) := Sz.small (by have := HIv.out; omega)
        have LV : Hid (Len 100000 iv) := Sz.len Sv.out
        have LPV : Hid (Len 100000 (qf.num * iv)) := Sz.len (Sz.mul Zf.out.1 Sv.out)
        have LQV : Hid (Len 100000 ((qf.den : Int) * iv)) := Sz.len (Sz.mul Zf.out.2 Sv.out)
        refine (ftext_s (S10.out.fr (v := .slice af nf cf) (u := .slice bf mf df) (r := qf) (List.mem_cons_of_mem _ (List.mem_cons_of_mem _ List.mem_cons_self)) (List.mem_cons_of_mem _ (List.mem_cons_of_mem _ (List.mem_cons_of_mem _ List.mem_cons_self))) Ef.out) WF.out (S10.out.env HN.out) T1.out).mono ?_
        rintro e w15 ⟨rfl, hb⟩
        have S16 := Lib.hid (S10.out.later hb)
        clear hb S10
        obtain ⟨t6_0, t6_1, t6_2, t6_3⟩ := (S16.out.box _ (List.mem_cons_of_mem _ List.mem_cons_self) : Fb (w.heap.size, 26, [.int .i64 sf, .slice af nf cf, .int .i64 1, .slice bf mf df]) _).cells4
        go_wp2_with fail
        clear t6_0 t6_1 t6_2 t6_3
        refine (fright_k (S16.out.fr (v := .slice af nf cf) (u := .slice bf mf df) (r := qf) (List.mem_cons_of_mem _ (List.mem_cons_of_mem _ List.mem_cons_self)) (List.mem_cons_of_mem _ (List.mem_cons_of_mem _ (List.mem_cons_of_mem _ List.mem_cons_self))) Ef.out) WF.out).mono ?_
        rintro e w17 ⟨rfl, hb⟩
        have S18 := Lib.hid (S16.out.later hb)
        clear hb S16
        go_wp2_with fail
        refine (fread_yes t HSZ.out _ (S18.out.envF HE.out) qf T1.out.symm).mono ?_
        rintro e w19 ⟨s19, a19, n19, c19, b19, m19, d19, rfl, hr, hb, hf, hg⟩
        have E19 := Lib.hid hr.1.1
        have S20 := Lib.hid ((S18.out.ret2 hb hr.1.2 hf hr.2.2 hg).put [.int .i64 s19, .slice a19 n19 c19, .int .i64 1, .slice b19 m19 d19] 26)
        clear hr hb hf hg S18
        obtain ⟨t7_0, t7_1, t7_2, t7_3⟩ := (S20.out.box _ (List.mem_cons_of_mem _ (List.mem_cons_of_mem _ List.mem_cons_self)) : Fb (w.heap.size, 26, [.int .i64 sf, .slice af nf cf, .int .i64 1, .slice bf mf df]) _).cells4
        go_wp2_with fail
        clear t7_0 t7_1 t7_2 t7_3
        refine (new_r (S20.out.num (v := .slice af nf cf) (z := qf.num) (List.mem_cons_of_mem _ (List.mem_cons_of_mem _ (List.mem_cons_of_mem _ (List.mem_cons_of_mem _ List.mem_cons_self)))) Ef.out) (S20.out.num (v := .slice bf mf df) (z := (qf.den : Int)) (List.mem_cons_of_mem _ (List.mem_cons_of_mem _ (List.mem_cons_of_mem _ (List.mem_cons_of_mem _ (List.mem_cons_of_mem _ List.mem_cons_self))))) ED.out) LP.out LQ.out OQ.out RS.out).mono ?_
        rintro e w21 ⟨s21, a21, n21, c21, b21, m21, d21, rfl, hr, hb, hf, hg⟩
        have E21 := Lib.hid hr.1.1
        have S22 := Lib.hid ((S20.out.ret2 hb hr.1.2 hf hr.2.2 hg).put [.int .i64 s21, .slice a21 n21 c21, .int .i64 1, .slice b21 m21 d21] 26)
        clear hr hb hf hg S20
        obtain ⟨t8_0, t8_1, t8_2, t8_3⟩ := (S22.out.box _ (List.mem_cons_of_mem _ (List.mem_cons_of_mem _ (List.mem_cons_of_mem _ List.mem_cons_self))) : Fb (w.heap.size, 26, [.int .i64 sf, .slice af nf cf, .int .i64 1, .slice bf mf df]) _).cells4
        go_upto_region 12 with fail
        clear t8_0 t8_1 t8_2 t8_3
        generalize (w21.alloc (.cells #[.int .i64 s21, .slice a21 n21 c21, .int .i64 1, .slice b21 m21 d21] 26)) = wz23 at S22 ⊢
        go_cut [15, 16] from 86 to 93 (fun u v wx => v = .int .i64 0 ∧ Hid (∃ g s a n c, u = .pointer (some ⟨g, 0, none⟩) ∧ s = ((qf.num * iv) : Int).sign ∧ Sf w ((g, 24, [.int .i64 s, .slice a n c]) :: [(w21.heap.size, 26, [.int .i64 s21, .slice a21 n21 c21, .int .i64 1, .slice b21 m21 d21]), (w19.heap.size, 26, [.int .i64 s19, .slice a19 n19 c19, .int .i64 1, .slice b19 m19 d19]), (w5.heap.size, 26, [.int .i64 s5, .slice a5 n5 c5, .int .i64 1, .slice b5 m5 d5]), (w.heap.size, 26, [.int .i64 sf, .slice af nf cf, .int .i64 1, .slice bf mf df])]) ((.slice a n c, digs ((qf.num * iv) : Int).natAbs) :: [(.slice a21 n21 c21, digs (qf : Rat).num.natAbs), (.slice b21 m21 d21, digs ((qf : Rat).den : Int).natAbs), (.slice a19 n19 c19, digs (qf : Rat).num.natAbs), (.slice b19 m19 d19, digs ((qf : Rat).den : Int).natAbs), (.slice a5 n5 c5, digs (rg : Rat).num.natAbs), (.slice b5 m5 d5, digs ((rg : Rat).den : Int).natAbs), (.slice af nf cf, digs qf.num.natAbs), (.slice bf mf df, digs (qf.den : Int).natAbs)]) wx))
        case first =>
          have K0 : ∀ W F, Sf w [(w21.heap.size, 26, [.int .i64 s21, .slice a21 n21 c21, .int .i64 1, .slice b21 m21 d21]), (w19.heap.size, 26, [.int .i64 s19, .slice a19 n19 c19, .int .i64 1, .slice b19 m19 d19]), (w5.heap.size, 26, [.int .i64 s5, .slice a5 n5 c5, .int .i64 1, .slice b5 m5 d5]), (w.heap.size, 26, [.int .i64 sf, .slice af nf cf, .int .i64 1, .slice bf mf df])] F W → W.cell? ⟨w.heap.size, 0, none⟩ = some (.int .i64 sf) ∧ W.cell? ⟨w.heap.size, 1, none⟩ = some (.slice af nf cf) ∧ W.cell? ⟨w.heap.size, 2, none⟩ = some (.int .i64 1) ∧ W.cell? ⟨w.heap.size, 3, none⟩ = some (.slice bf mf df) := fun W F h => ⟨(h.box _ (List.mem_cons_of_mem _ (List.mem_cons_of_mem _ (List.mem_cons_of_mem _ List.mem_cons_self))) : Fb (w.heap.size, 26, [.int .i64 sf, .slice af nf cf, .int .i64 1, .slice bf mf df]) _).cells4.1, (h.box _ (List.mem_cons_of_mem _ (List.mem_cons_of_mem _ (List.mem_cons_of_mem _ List.mem_cons_self))) : Fb (w.heap.size, 26, [.int .i64 sf, .slice af nf cf, .int .i64 1, .slice bf mf df]) _).cells4.2.1, (h.box _ (List.mem_cons_of_mem _ (List.mem_cons_of_mem _ (List.mem_cons_of_mem _ List.mem_cons_self))) : Fb (w.heap.size, 26, [.int .i64 sf, .slice af nf cf, .int .i64 1, .slice bf mf df]) _).cells4.2.2.1, (h.box _ (List.mem_cons_of_mem _ (List.mem_cons_of_mem _ (List.mem_cons_of_mem _ List.mem_cons_self))) : Fb (w.heap.size, 26, [.int .i64 sf, .slice af nf cf, .int .i64 1, .slice bf mf df]) _).cells4.2.2.2⟩
          have KK := Lib.hid K0
          clear K0
          have K0 : ∀ W F x, Sf w (x :: [(w21.heap.size, 26, [.int .i64 s21, .slice a21 n21 c21, .int .i64 1, .slice b21 m21 d21]), (w19.heap.size, 26, [.int .i64 s19, .slice a19 n19 c19, .int .i64 1, .slice b19 m19 d19]), (w5.heap.size, 26, [.int .i64 s5, .slice a5 n5 c5, .int .i64 1, .slice b5 m5 d5]), (w.heap.size, 26, [.int .i64 sf, .slice af nf cf, .int .i64 1, .slice bf mf df])]) F W → W.cell? ⟨w.heap.size, 0, none⟩ = some (.int .i64 sf) ∧ W.cell? ⟨w.heap.size, 1, none⟩ = some (.slice af nf cf) ∧ W.cell? ⟨w.heap.size, 2, none⟩ = some (.int .i64 1) ∧ W.cell? ⟨w.heap.size, 3, none⟩ = some (.slice bf mf df) := fun W F x h => ⟨(h.box _ (List.mem_cons_of_mem _ (List.mem_cons_of_mem _ (List.mem_cons_of_mem _ (List.mem_cons_of_mem _ List.mem_cons_self)))) : Fb (w.heap.size, 26, [.int .i64 sf, .slice af nf cf, .int .i64 1, .slice bf mf df]) _).cells4.1, (h.box _ (List.mem_cons_of_mem _ (List.mem_cons_of_mem _ (List.mem_cons_of_mem _ (List.mem_cons_of_mem _ List.mem_cons_self)))) : Fb (w.heap.size, 26, [.int .i64 sf, .slice af nf cf, .int .i64 1, .slice bf mf df]) _).cells4.2.1, (h.box _ (List.mem_cons_of_mem _ (List.mem_cons_of_mem _ (List.mem_cons_of_mem _ (List.mem_cons_of_mem _ List.mem_cons_self)))) : Fb (w.heap.size, 26, [.int .i64 sf, .slice af nf cf, .int .i64 1, .slice bf mf df]) _).cells4.2.2.1, (h.box _ (List.mem_cons_of_mem _ (List.mem_cons_of_mem _ (List.mem_cons_of_mem _ (List.mem_cons_of_mem _ List.mem_cons_self)))) : Fb (w.heap.size, 26, [.int .i64 sf, .slice af nf cf, .int .i64 1, .slice bf mf df]) _).cells4.2.2.2⟩
          have KU := Lib.hid K0
          clear K0
          have N0 := Lib.hid S22.out.drew
          have A0_0 := Lib.hid (S22.out.put [.int .i64 0, .slice none 0 0] 24).drew
          clear S22
          have e0 := KK.out _ _ N0.out
          have f0 := KU.out _ _ _ A0_0.out
          go_region_held3 (fun W => W.cell? ⟨w.heap.size, 0, none⟩ = some (.int .i64 sf) ∧ W.cell? ⟨w.heap.size, 1, none⟩ = some (.slice af nf cf) ∧ W.cell? ⟨w.heap.size, 2, none⟩ = some (.int .i64 1) ∧ W.cell? ⟨w.heap.size, 3, none⟩ = some (.slice bf mf df))
            (first | (with_reducible exact e0) | (with_reducible exact f0) | (with_reducible exact k23_1) | (with_reducible exact l23_1) | (with_reducible exact k23_2) | (with_reducible exact k23_3) | (with_reducible exact l23_3) | (with_reducible exact q23_3) | (with_reducible exact k23_4) | (with_reducible exact q23_4) | (with_reducible exact k23_5) | (with_reducible exact q23_5) | go_keep)
            (first
                | (have hG := A1_0; clear hG; go_at_call 47; (with_reducible refine (mul_k PA1_0_1.out PA1_0_2.out LP.out LV.out).mono ?_); rintro e y23_5 ⟨sx23_5, ax23_5, nx23_5, cx23_5, rfl, hn, hb, hf⟩; have E23_5 := Lib.hid hn.1; have A2_0 := Lib.hid (A1_0.out.ret hb hn.2 hf); clear hn hb hf; have k23_5 := KU.out _ _ _ A2_0.out; obtain ⟨z0, z1⟩ := (A2_0.out.box _ List.mem_cons_self : Fb (wz23.heap.size, 24, [.int .i64 0, .slice none 0 0]) _).cells2; obtain ⟨u0, u1⟩ := (A2_0.out.box _ List.mem_cons_self : Fb (wz23.heap.size, 24, [.int .i64 0, .slice none 0 0]) _).free2; have R23_5 := Lib.hid (A2_0.out.set2 (pre := []) (.int .i64 sx23_5) (.slice ax23_5 nx23_5 cx23_5)); have q23_5 := KU.out _ _ _ R23_5.out)
                | (have hG := A1_1; clear hG; go_at_call 47; (with_reducible refine (mul_k PA1_1_1.out PA1_1_2.out LP.out LV.out).mono ?_); rintro e y23_4 ⟨sx23_4, ax23_4, nx23_4, cx23_4, rfl, hn, hb, hf⟩; have E23_4 := Lib.hid hn.1; have A2_1 := Lib.hid (A1_1.out.ret hb hn.2 hf); clear hn hb hf; have k23_4 := KU.out _ _ _ A2_1.out; obtain ⟨z0, z1⟩ := (A2_1.out.box _ List.mem_cons_self : Fb (y23_1.heap.size, 24, [.int .i64 0, .slice none 0 0]) _).cells2; obtain ⟨u0, u1⟩ := (A2_1.out.box _ List.mem_cons_self : Fb (y23_1.heap.size, 24, [.int .i64 0, .slice none 0 0]) _).free2; have R23_4 := Lib.hid (A2_1.out.set2 (pre := []) (.int .i64 sx23_4) (.slice ax23_4 nx23_4 cx23_4)); have q23_4 := KU.out _ _ _ R23_4.out)
                | (have hG := N1; clear hG; go_at_call 47; (with_reducible refine (mul_k PN1_1.out PN1_2.out LP.out LV.out).mono ?_); rintro e y23_3 ⟨sx23_3, ax23_3, nx23_3, cx23_3, rfl, hn, hb, hf⟩; have E23_3 := Lib.hid hn.1; have N2 := Lib.hid (N1.out.ret hb hn.2 hf); clear hn hb hf; have k23_3 := KK.out _ _ N2.out; have Z23 := Lib.hid (N2.out.put [.int .i64 0, .slice none 0 0] 24); have l23_3 := KU.out _ _ _ Z23.out; have R23_3 := Lib.hid (N2.out.put [.int .i64 sx23_3, .slice ax23_3 nx23_3 cx23_3] 24); have q23_3 := KU.out _ _ _ R23_3.out)
                | (have hG := A0_0; clear hG; go_at_call 48; (with_reducible refine (of_k iv HIv.out _).mono ?_); rintro e y23_2 ⟨sx23_2, ax23_2, nx23_2, cx23_2, rfl, hn, hb, hf⟩; have E23_2 := Lib.hid hn.1; have A1_0 := Lib.hid (A0_0.out.ret hb hn.2 hf); clear hn hb hf; have k23_2 := KU.out _ _ _ A1_0.out; have PA1_0_1 := Lib.hid (A1_0.out.num (v := .slice af nf cf) (z := qf.num) (List.mem_cons_of_mem _ (List.mem_cons_of_mem _ (List.mem_cons_of_mem _ (List.mem_cons_of_mem _ (List.mem_cons_of_mem _ (List.mem_cons_of_mem _ (List.mem_cons_of_mem _ List.mem_cons_self))))))) Ef.out); have PA1_0_2 := Lib.hid (A1_0.out.num (v := .slice ax23_2 nx23_2 cx23_2) (z := iv) List.mem_cons_self E23_2.out))
                | (have hG := N0; clear hG; go_at_call 48; (with_reducible refine (of_k iv HIv.out _).mono ?_); rintro e y23_1 ⟨sx23_1, ax23_1, nx23_1, cx23_1, rfl, hn, hb, hf⟩; have E23_1 := Lib.hid hn.1; have N1 := Lib.hid (N0.out.ret hb hn.2 hf); clear hn hb hf; have k23_1 := KK.out _ _ N1.out; have A1_1 := Lib.hid (N1.out.put [.int .i64 0, .slice none 0 0] 24); have l23_1 := KU.out _ _ _ A1_1.out; have PN1_1 := Lib.hid (N1.out.num (v := .slice af nf cf) (z := qf.num) (List.mem_cons_of_mem _ (List.mem_cons_of_mem _ (List.mem_cons_of_mem _ (List.mem_cons_of_mem _ (List.mem_cons_of_mem _ (List.mem_cons_of_mem _ (List.mem_cons_of_mem _ List.mem_cons_self))))))) Ef.out); have PN1_2 := Lib.hid (N1.out.num (v := .slice ax23_1 nx23_1 cx23_1) (z := iv) List.mem_cons_self E23_1.out); have PA1_1_1 := Lib.hid (A1_1.out.num (v := .slice af nf cf) (z := qf.num) (List.mem_cons_of_mem _ (List.mem_cons_of_mem _ (List.mem_cons_of_mem _ (List.mem_cons_of_mem _ (List.mem_cons_of_mem _ (List.mem_cons_of_mem _ (List.mem_cons_of_mem _ List.mem_cons_self))))))) Ef.out); have PA1_1_2 := Lib.hid (A1_1.out.num (v := .slice ax23_1 nx23_1 cx23_1) (z := iv) List.mem_cons_self E23_1.out)))
          all_goals (go_wp2_with fail; go_meet; refine ⟨rfl, ?_⟩; first | exact ⟨_, _, _, _, _, rfl, E23_3.out, (Sf.cut (pre := [(.slice ax23_3 nx23_3 cx23_3, digs ((qf.num * iv) : Int).natAbs)]) (mid := [(.slice ax23_1 nx23_1 cx23_1, digs (iv : Int).natAbs)]) R23_3.out)⟩ | exact ⟨_, _, _, _, _, rfl, E23_4.out, (Sf.cut (pre := [(.slice ax23_4 nx23_4 cx23_4, digs ((qf.num * iv) : Int).natAbs)]) (mid := [(.slice ax23_1 nx23_1 cx23_1, digs (iv : Int).natAbs)]) R23_4.out)⟩ | exact ⟨_, _, _, _, _, rfl, E23_5.out, (Sf.cut (pre := [(.slice ax23_5 nx23_5 cx23_5, digs ((qf.num * iv) : Int).natAbs)]) (mid := [(.slice ax23_2 nx23_2 cx23_2, digs (iv : Int).natAbs)]) R23_5.out)⟩)
        case rest =>
        obtain ⟨rfl, hq⟩ := hcut
        obtain ⟨g23, s23, a23, n23, c23, rfl, e23, h23⟩ := hq.out
        obtain ⟨w23, rfl⟩ : ∃ W, W = wc := ⟨_, rfl⟩
        have S23 := Lib.hid h23
        have E23 := Lib.hid e23
        clear hq e23 h23 S22
        obtain ⟨t9_0, t9_1, t9_2, t9_3⟩ := (S23.out.box _ (List.mem_cons_of_mem _ (List.mem_cons_of_mem _ (List.mem_cons_of_mem _ (List.mem_cons_of_mem _ List.mem_cons_self)))) : Fb (w.heap.size, 26, [.int .i64 sf, .slice af nf cf, .int .i64 1, .slice bf mf df]) _).cells4
        go_upto_region 13 with fail
        clear t9_0 t9_1 t9_2 t9_3
        go_cut [17, 18] from 94 to 101 (fun u v wx => v = .int .i64 0 ∧ Hid (∃ g s a n c, u = .pointer (some ⟨g, 0, none⟩) ∧ s = (((qf.den : Int) * iv) : Int).sign ∧ Sf w ((g, 24, [.int .i64 s, .slice a n c]) :: [(g23, 24, [.int .i64 s23, .slice a23 n23 c23]), (w21.heap.size, 26, [.int .i64 s21, .slice a21 n21 c21, .int .i64 1, .slice b21 m21 d21]), (w19.heap.size, 26, [.int .i64 s19, .slice a19 n19 c19, .int .i64 1, .slice b19 m19 d19]), (w5.heap.size, 26, [.int .i64 s5, .slice a5 n5 c5, .int .i64 1, .slice b5 m5 d5]), (w.heap.size, 26, [.int .i64 sf, .slice af nf cf, .int .i64 1, .slice bf mf df])]) ((.slice a n c, digs (((qf.den : Int) * iv) : Int).natAbs) :: [(.slice a23 n23 c23, digs ((qf.num * iv) : Int).natAbs), (.slice a21 n21 c21, digs (qf : Rat).num.natAbs), (.slice b21 m21 d21, digs ((qf : Rat).den : Int).natAbs), (.slice a19 n19 c19, digs (qf : Rat).num.natAbs), (.slice b19 m19 d19, digs ((qf : Rat).den : Int).natAbs), (.slice a5 n5 c5, digs (rg : Rat).num.natAbs), (.slice b5 m5 d5, digs ((rg : Rat).den : Int).natAbs), (.slice af nf cf, digs qf.num.natAbs), (.slice bf mf df, digs (qf.den : Int).natAbs)]) wx))
        case first =>
          have K0 : ∀ W F, Sf w [(g23, 24, [.int .i64 s23, .slice a23 n23 c23]), (w21.heap.size, 26, [.int .i64 s21, .slice a21 n21 c21, .int .i64 1, .slice b21 m21 d21]), (w19.heap.size, 26, [.int .i64 s19, .slice a19 n19 c19, .int .i64 1, .slice b19 m19 d19]), (w5.heap.size, 26, [.int .i64 s5, .slice a5 n5 c5, .int .i64 1, .slice b5 m5 d5]), (w.heap.size, 26, [.int .i64 sf, .slice af nf cf, .int .i64 1, .slice bf mf df])] F W → W.cell? ⟨w.heap.size, 0, none⟩ = some (.int .i64 sf) ∧ W.cell? ⟨w.heap.size, 1, none⟩ = some (.slice af nf cf) ∧ W.cell? ⟨w.heap.size, 2, none⟩ = some (.int .i64 1) ∧ W.cell? ⟨w.heap.size, 3, none⟩ = some (.slice bf mf df) := fun W F h => ⟨(h.box _ (List.mem_cons_of_mem _ (List.mem_cons_of_mem _ (List.mem_cons_of_mem _ (List.mem_cons_of_mem _ List.mem_cons_self)))) : Fb (w.heap.size, 26, [.int .i64 sf, .slice af nf cf, .int .i64 1, .slice bf mf df]) _).cells4.1, (h.box _ (List.mem_cons_of_mem _ (List.mem_cons_of_mem _ (List.mem_cons_of_mem _ (List.mem_cons_of_mem _ List.mem_cons_self)))) : Fb (w.heap.size, 26, [.int .i64 sf, .slice af nf cf, .int .i64 1, .slice bf mf df]) _).cells4.2.1, (h.box _ (List.mem_cons_of_mem _ (List.mem_cons_of_mem _ (List.mem_cons_of_mem _ (List.mem_cons_of_mem _ List.mem_cons_self)))) : Fb (w.heap.size, 26, [.int .i64 sf, .slice af nf cf, .int .i64 1, .slice bf mf df]) _).cells4.2.2.1, (h.box _ (List.mem_cons_of_mem _ (List.mem_cons_of_mem _ (List.mem_cons_of_mem _ (List.mem_cons_of_mem _ List.mem_cons_self)))) : Fb (w.heap.size, 26, [.int .i64 sf, .slice af nf cf, .int .i64 1, .slice bf mf df]) _).cells4.2.2.2⟩
          have KK := Lib.hid K0
          clear K0
          have K0 : ∀ W F x, Sf w (x :: [(g23, 24, [.int .i64 s23, .slice a23 n23 c23]), (w21.heap.size, 26, [.int .i64 s21, .slice a21 n21 c21, .int .i64 1, .slice b21 m21 d21]), (w19.heap.size, 26, [.int .i64 s19, .slice a19 n19 c19, .int .i64 1, .slice b19 m19 d19]), (w5.heap.size, 26, [.int .i64 s5, .slice a5 n5 c5, .int .i64 1, .slice b5 m5 d5]), (w.heap.size, 26, [.int .i64 sf, .slice af nf cf, .int .i64 1, .slice bf mf df])]) F W → W.cell? ⟨w.heap.size, 0, none⟩ = some (.int .i64 sf) ∧ W.cell? ⟨w.heap.size, 1, none⟩ = some (.slice af nf cf) ∧ W.cell? ⟨w.heap.size, 2, none⟩ = some (.int .i64 1) ∧ W.cell? ⟨w.heap.size, 3, none⟩ = some (.slice bf mf df) := fun W F x h => ⟨(h.box _ (List.mem_cons_of_mem _ (List.mem_cons_of_mem _ (List.mem_cons_of_mem _ (List.mem_cons_of_mem _ (List.mem_cons_of_mem _ List.mem_cons_self))))) : Fb (w.heap.size, 26, [.int .i64 sf, .slice af nf cf, .int .i64 1, .slice bf mf df]) _).cells4.1, (h.box _ (List.mem_cons_of_mem _ (List.mem_cons_of_mem _ (List.mem_cons_of_mem _ (List.mem_cons_of_mem _ (List.mem_cons_of_mem _ List.mem_cons_self))))) : Fb (w.heap.size, 26, [.int .i64 sf, .slice af nf cf, .int .i64 1, .slice bf mf df]) _).cells4.2.1, (h.box _ (List.mem_cons_of_mem _ (List.mem_cons_of_mem _ (List.mem_cons_of_mem _ (List.mem_cons_of_mem _ (List.mem_cons_of_mem _ List.mem_cons_self))))) : Fb (w.heap.size, 26, [.int .i64 sf, .slice af nf cf, .int .i64 1, .slice bf mf df]) _).cells4.2.2.1, (h.box _ (List.mem_cons_of_mem _ (List.mem_cons_of_mem _ (List.mem_cons_of_mem _ (List.mem_cons_of_mem _ (List.mem_cons_of_mem _ List.mem_cons_self))))) : Fb (w.heap.size, 26, [.int .i64 sf, .slice af nf cf, .int .i64 1, .slice bf mf df]) _).cells4.2.2.2⟩
          have KU := Lib.hid K0
          clear K0
          have N0 := Lib.hid S23.out.drew
          have A0_0 := Lib.hid (S23.out.put [.int .i64 0, .slice none 0 0] 24).drew
          clear S23
          have e0 := KK.out _ _ N0.out
          have f0 := KU.out _ _ _ A0_0.out
          go_region_held3 (fun W => W.cell? ⟨w.heap.size, 0, none⟩ = some (.int .i64 sf) ∧ W.cell? ⟨w.heap.size, 1, none⟩ = some (.slice af nf cf) ∧ W.cell? ⟨w.heap.size, 2, none⟩ = some (.int .i64 1) ∧ W.cell? ⟨w.heap.size, 3, none⟩ = some (.slice bf mf df))
            (first | (with_reducible exact e0) | (with_reducible exact f0) | (with_reducible exact k24_1) | (with_reducible exact l24_1) | (with_reducible exact k24_2) | (with_reducible exact k24_3) | (with_reducible exact l24_3) | (with_reducible exact q24_3) | (with_reducible exact k24_4) | (with_reducible exact q24_4) | (with_reducible exact k24_5) | (with_reducible exact q24_5) | go_keep)
            (first
                | (have hG := A1_0; clear hG; go_at_call 47; (with_reducible refine (mul_k PA1_0_1.out PA1_0_2.out LQ.out LV.out).mono ?_); rintro e y24_5 ⟨sx24_5, ax24_5, nx24_5, cx24_5, rfl, hn, hb, hf⟩; have E24_5 := Lib.hid hn.1; have A2_0 := Lib.hid (A1_0.out.ret hb hn.2 hf); clear hn hb hf; have k24_5 := KU.out _ _ _ A2_0.out; obtain ⟨z0, z1⟩ := (A2_0.out.box _ List.mem_cons_self : Fb (w23.heap.size, 24, [.int .i64 0, .slice none 0 0]) _).cells2; obtain ⟨u0, u1⟩ := (A2_0.out.box _ List.mem_cons_self : Fb (w23.heap.size, 24, [.int .i64 0, .slice none 0 0]) _).free2; have R24_5 := Lib.hid (A2_0.out.set2 (pre := []) (.int .i64 sx24_5) (.slice ax24_5 nx24_5 cx24_5)); have q24_5 := KU.out _ _ _ R24_5.out)
                | (have hG := A1_1; clear hG; go_at_call 47; (with_reducible refine (mul_k PA1_1_1.out PA1_1_2.out LQ.out LV.out).mono ?_); rintro e y24_4 ⟨sx24_4, ax24_4, nx24_4, cx24_4, rfl, hn, hb, hf⟩; have E24_4 := Lib.hid hn.1; have A2_1 := Lib.hid (A1_1.out.ret hb hn.2 hf); clear hn hb hf; have k24_4 := KU.out _ _ _ A2_1.out; obtain ⟨z0, z1⟩ := (A2_1.out.box _ List.mem_cons_self : Fb (y24_1.heap.size, 24, [.int .i64 0, .slice none 0 0]) _).cells2; obtain ⟨u0, u1⟩ := (A2_1.out.box _ List.mem_cons_self : Fb (y24_1.heap.size, 24, [.int .i64 0, .slice none 0 0]) _).free2; have R24_4 := Lib.hid (A2_1.out.set2 (pre := []) (.int .i64 sx24_4) (.slice ax24_4 nx24_4 cx24_4)); have q24_4 := KU.out _ _ _ R24_4.out)
                | (have hG := N1; clear hG; go_at_call 47; (with_reducible refine (mul_k PN1_1.out PN1_2.out LQ.out LV.out).mono ?_); rintro e y24_3 ⟨sx24_3, ax24_3, nx24_3, cx24_3, rfl, hn, hb, hf⟩; have E24_3 := Lib.hid hn.1; have N2 := Lib.hid (N1.out.ret hb hn.2 hf); clear hn hb hf; have k24_3 := KK.out _ _ N2.out; have Z24 := Lib.hid (N2.out.put [.int .i64 0, .slice none 0 0] 24); have l24_3 := KU.out _ _ _ Z24.out; have R24_3 := Lib.hid (N2.out.put [.int .i64 sx24_3, .slice ax24_3 nx24_3 cx24_3] 24); have q24_3 := KU.out _ _ _ R24_3.out)
                | (have hG := A0_0; clear hG; go_at_call 48; (with_reducible refine (of_k iv HIv.out _).mono ?_); rintro e y24_2 ⟨sx24_2, ax24_2, nx24_2, cx24_2, rfl, hn, hb, hf⟩; have E24_2 := Lib.hid hn.1; have A1_0 := Lib.hid (A0_0.out.ret hb hn.2 hf); clear hn hb hf; have k24_2 := KU.out _ _ _ A1_0.out; have PA1_0_1 := Lib.hid (A1_0.out.num (v := .slice bf mf df) (z := (qf.den : Int)) (List.mem_cons_of_mem _ (List.mem_cons_of_mem _ (List.mem_cons_of_mem _ (List.mem_cons_of_mem _ (List.mem_cons_of_mem _ (List.mem_cons_of_mem _ (List.mem_cons_of_mem _ (List.mem_cons_of_mem _ (List.mem_cons_of_mem _ List.mem_cons_self))))))))) ED.out); have PA1_0_2 := Lib.hid (A1_0.out.num (v := .slice ax24_2 nx24_2 cx24_2) (z := iv) List.mem_cons_self E24_2.out))
                | (have hG := N0; clear hG; go_at_call 48; (with_reducible refine (of_k iv HIv.out _).mono ?_); rintro e y24_1 ⟨sx24_1, ax24_1, nx24_1, cx24_1, rfl, hn, hb, hf⟩; have E24_1 := Lib.hid hn.1; have N1 := Lib.hid (N0.out.ret hb hn.2 hf); clear hn hb hf; have k24_1 := KK.out _ _ N1.out; have A1_1 := Lib.hid (N1.out.put [.int .i64 0, .slice none 0 0] 24); have l24_1 := KU.out _ _ _ A1_1.out; have PN1_1 := Lib.hid (N1.out.num (v := .slice bf mf df) (z := (qf.den : Int)) (List.mem_cons_of_mem _ (List.mem_cons_of_mem _ (List.mem_cons_of_mem _ (List.mem_cons_of_mem _ (List.mem_cons_of_mem _ (List.mem_cons_of_mem _ (List.mem_cons_of_mem _ (List.mem_cons_of_mem _ (List.mem_cons_of_mem _ List.mem_cons_self))))))))) ED.out); have PN1_2 := Lib.hid (N1.out.num (v := .slice ax24_1 nx24_1 cx24_1) (z := iv) List.mem_cons_self E24_1.out); have PA1_1_1 := Lib.hid (A1_1.out.num (v := .slice bf mf df) (z := (qf.den : Int)) (List.mem_cons_of_mem _ (List.mem_cons_of_mem _ (List.mem_cons_of_mem _ (List.mem_cons_of_mem _ (List.mem_cons_of_mem _ (List.mem_cons_of_mem _ (List.mem_cons_of_mem _ (List.mem_cons_of_mem _ (List.mem_cons_of_mem _ List.mem_cons_self))))))))) ED.out); have PA1_1_2 := Lib.hid (A1_1.out.num (v := .slice ax24_1 nx24_1 cx24_1) (z := iv) List.mem_cons_self E24_1.out)))
          all_goals (go_wp2_with fail; go_meet; refine ⟨rfl, ?_⟩; first | exact ⟨_, _, _, _, _, rfl, E24_3.out, (Sf.cut (pre := [(.slice ax24_3 nx24_3 cx24_3, digs (((qf.den : Int) * iv) : Int).natAbs)]) (mid := [(.slice ax24_1 nx24_1 cx24_1, digs (iv : Int).natAbs)]) R24_3.out)⟩ | exact ⟨_, _, _, _, _, rfl, E24_4.out, (Sf.cut (pre := [(.slice ax24_4 nx24_4 cx24_4, digs (((qf.den : Int) * iv) : Int).natAbs)]) (mid := [(.slice ax24_1 nx24_1 cx24_1, digs (iv : Int).natAbs)]) R24_4.out)⟩ | exact ⟨_, _, _, _, _, rfl, E24_5.out, (Sf.cut (pre := [(.slice ax24_5 nx24_5 cx24_5, digs (((qf.den : Int) * iv) : Int).natAbs)]) (mid := [(.slice ax24_2 nx24_2 cx24_2, digs (iv : Int).natAbs)]) R24_5.out)⟩)
        case rest =>
        obtain ⟨rfl, hq⟩ := hcut
        obtain ⟨g24, s24, a24, n24, c24, rfl, e24, h24⟩ := hq.out
        obtain ⟨w24, rfl⟩ : ∃ W, W = wc := ⟨_, rfl⟩
        have S24 := Lib.hid h24
        have E24 := Lib.hid e24
        clear hq e24 h24 S23
        have hv : iv = 0 ∨ iv ≠ 0 := Classical.em _
        rcases hv with hv | hv
        case inl =>
          have HV := Lib.hid hv
          clear hv
          obtain ⟨t10_0, t10_1⟩ := (S24.out.box _ (List.mem_cons_of_mem _ List.mem_cons_self) : Fb (g23, 24, [.int .i64 s23, .slice a23 n23 c23]) _).cells2
          obtain ⟨t11_0, t11_1⟩ := (S24.out.box _ List.mem_cons_self : Fb (g24, 24, [.int .i64 s24, .slice a24 n24 c24]) _).cells2
          go_wp2_with fail
          clear t10_0 t10_1 t11_0 t11_1
          refine (new_zero (S24.out.num (v := .slice a23 n23 c23) (z := (qf.num * iv)) (List.mem_cons_of_mem _ List.mem_cons_self) E23.out) (S24.out.num (v := .slice a24 n24 c24) (z := ((qf.den : Int) * iv)) List.mem_cons_self E24.out) LPV.out (by rw [HV.out]; exact Int.mul_zero _)).mono ?_
          rintro e w25 ⟨rfl, hb⟩
          have S26 := Lib.hid ((S24.out.later hb).put [.int .i64 0, .slice none 0 0, .int .i64 0, .slice none 0 0] 26)
          clear hb S24
          have hv1 : (iv == 0) = true := by simpa using HV.out
          have hv2 : (iv != 0) = false := by simpa using HV.out
          obtain ⟨t12_0, t12_1, t12_2, t12_3⟩ := (S26.out.box _ (List.mem_cons_of_mem _ (List.mem_cons_of_mem _ (List.mem_cons_of_mem _ (List.mem_cons_of_mem _ List.mem_cons_self)))) : Fb (w19.heap.size, 26, [.int .i64 s19, .slice a19 n19 c19, .int .i64 1, .slice b19 m19 d19]) _).cells4
          obtain ⟨t13_0, t13_1, t13_2, t13_3⟩ := (S26.out.box _ (List.mem_cons_of_mem _ (List.mem_cons_of_mem _ (List.mem_cons_of_mem _ (List.mem_cons_of_mem _ (List.mem_cons_of_mem _ (List.mem_cons_of_mem _ List.mem_cons_self)))))) : Fb (w.heap.size, 26, [.int .i64 sf, .slice af nf cf, .int .i64 1, .slice bf mf df]) _).cells4
          go_wp2_with fail
          clear t12_0 t12_1 t12_2 t12_3 t13_0 t13_1 t13_2 t13_3
          refine (rfsame_t (S26.out.fr (v := .slice a19 n19 c19) (u := .slice b19 m19 d19) (r := qf) (List.mem_cons_of_mem _ (List.mem_cons_of_mem _ (List.mem_cons_of_mem _ (List.mem_cons_of_mem _ List.mem_cons_self)))) (List.mem_cons_of_mem _ (List.mem_cons_of_mem _ (List.mem_cons_of_mem _ (List.mem_cons_of_mem _ (List.mem_cons_of_mem _ List.mem_cons_self))))) E19.out) (S26.out.fr (v := .slice af nf cf) (u := .slice bf mf df) (r := qf) (List.mem_cons_of_mem _ (List.mem_cons_of_mem _ (List.mem_cons_of_mem _ (List.mem_cons_of_mem _ (List.mem_cons_of_mem _ (List.mem_cons_of_mem _ (List.mem_cons_of_mem _ (List.mem_cons_of_mem _ List.mem_cons_self)))))))) (List.mem_cons_of_mem _ (List.mem_cons_of_mem _ (List.mem_cons_of_mem _ (List.mem_cons_of_mem _ (List.mem_cons_of_mem _ (List.mem_cons_of_mem _ (List.mem_cons_of_mem _ (List.mem_cons_of_mem _ (List.mem_cons_of_mem _ List.mem_cons_self))))))))) Ef.out) rfl).mono ?_
          rintro e w27 ⟨rfl, hb⟩
          have S28 := Lib.hid (S26.out.later hb)
          clear hb S26
          obtain ⟨t14_0, t14_1, t14_2, t14_3⟩ := (S28.out.box _ (List.mem_cons_of_mem _ (List.mem_cons_of_mem _ (List.mem_cons_of_mem _ List.mem_cons_self))) : Fb (w21.heap.size, 26, [.int .i64 s21, .slice a21 n21 c21, .int .i64 1, .slice b21 m21 d21]) _).cells4
          obtain ⟨t15_0, t15_1, t15_2, t15_3⟩ := (S28.out.box _ (List.mem_cons_of_mem _ (List.mem_cons_of_mem _ (List.mem_cons_of_mem _ (List.mem_cons_of_mem _ (List.mem_cons_of_mem _ (List.mem_cons_of_mem _ List.mem_cons_self)))))) : Fb (w.heap.size, 26, [.int .i64 sf, .slice af nf cf, .int .i64 1, .slice bf mf df]) _).cells4
          go_wp2_with fail
          clear t14_0 t14_1 t14_2 t14_3 t15_0 t15_1 t15_2 t15_3
          refine (rfsame_t (S28.out.fr (v := .slice a21 n21 c21) (u := .slice b21 m21 d21) (r := qf) (List.mem_cons_of_mem _ (List.mem_cons_of_mem _ List.mem_cons_self)) (List.mem_cons_of_mem _ (List.mem_cons_of_mem _ (List.mem_cons_of_mem _ List.mem_cons_self))) E21.out) (S28.out.fr (v := .slice af nf cf) (u := .slice bf mf df) (r := qf) (List.mem_cons_of_mem _ (List.mem_cons_of_mem _ (List.mem_cons_of_mem _ (List.mem_cons_of_mem _ (List.mem_cons_of_mem _ (List.mem_cons_of_mem _ (List.mem_cons_of_mem _ (List.mem_cons_of_mem _ List.mem_cons_self)))))))) (List.mem_cons_of_mem _ (List.mem_cons_of_mem _ (List.mem_cons_of_mem _ (List.mem_cons_of_mem _ (List.mem_cons_of_mem _ (List.mem_cons_of_mem _ (List.mem_cons_of_mem _ (List.mem_cons_of_mem _ (List.mem_cons_of_mem _ List.mem_cons_self))))))))) Ef.out) rfl).mono ?_
          rintro e w29 ⟨rfl, hb⟩
          have S30 := Lib.hid (S28.out.later hb)
          clear hb S28
          go_wp2_with fail
          go_ret
          exact ⟨rfl, S30.out.below⟩
        case inr =>
          have HV := Lib.hid hv
          clear hv
          obtain ⟨t16_0, t16_1⟩ := (S24.out.box _ (List.mem_cons_of_mem _ List.mem_cons_self) : Fb (g23, 24, [.int .i64 s23, .slice a23 n23 c23]) _).cells2
          obtain ⟨t17_0, t17_1⟩ := (S24.out.box _ List.mem_cons_self : Fb (g24, 24, [.int .i64 s24, .slice a24 n24 c24]) _).cells2
          go_wp2_with fail
          clear t16_0 t16_1 t17_0 t17_1
          refine (new_r (S24.out.num (v := .slice a23 n23 c23) (z := (qf.num * iv)) (List.mem_cons_of_mem _ List.mem_cons_self) E23.out) (S24.out.num (v := .slice a24 n24 c24) (z := ((qf.den : Int) * iv)) List.mem_cons_self E24.out) LPV.out LQV.out (Int.mul_ne_zero OQ.out HV.out) (times_self qf HV.out)).mono ?_
          rintro e w31 ⟨s31, a31, n31, c31, b31, m31, d31, rfl, hr, hb, hf, hg⟩
          have E31 := Lib.hid hr.1.1
          have S32 := Lib.hid ((S24.out.ret2 hb hr.1.2 hf hr.2.2 hg).put [.int .i64 s31, .slice a31 n31 c31, .int .i64 1, .slice b31 m31 d31] 26)
          clear hr hb hf hg S24
          have hv1 : (iv == 0) = false := by simpa using HV.out
          have hv2 : (iv != 0) = true := by simpa using HV.out
          obtain ⟨t18_0, t18_1, t18_2, t18_3⟩ := (S32.out.box _ (List.mem_cons_of_mem _ (List.mem_cons_of_mem _ (List.mem_cons_of_mem _ (List.mem_cons_of_mem _ List.mem_cons_self)))) : Fb (w19.heap.size, 26, [.int .i64 s19, .slice a19 n19 c19, .int .i64 1, .slice b19 m19 d19]) _).cells4
          obtain ⟨t19_0, t19_1, t19_2, t19_3⟩ := (S32.out.box _ (List.mem_cons_of_mem _ (List.mem_cons_of_mem _ (List.mem_cons_of_mem _ (List.mem_cons_of_mem _ (List.mem_cons_of_mem _ (List.mem_cons_of_mem _ List.mem_cons_self)))))) : Fb (w.heap.size, 26, [.int .i64 sf, .slice af nf cf, .int .i64 1, .slice bf mf df]) _).cells4
          go_wp2_with fail
          clear t18_0 t18_1 t18_2 t18_3 t19_0 t19_1 t19_2 t19_3
          refine (rfsame_t (S32.out.fr (v := .slice a19 n19 c19) (u := .slice b19 m19 d19) (r := qf) (List.mem_cons_of_mem _ (List.mem_cons_of_mem _ (List.mem_cons_of_mem _ (List.mem_cons_of_mem _ (List.mem_cons_of_mem _ (List.mem_cons_of_mem _ List.mem_cons_self)))))) (List.mem_cons_of_mem _ (List.mem_cons_of_mem _ (List.mem_cons_of_mem _ (List.mem_cons_of_mem _ (List.mem_cons_of_mem _ (List.mem_cons_of_mem _ (List.mem_cons_of_mem _ List.mem_cons_self))))))) E19.out) (S32.out.fr (v := .slice af nf cf) (u := .slice bf mf df) (r := qf) (List.mem_cons_of_mem _ (List.mem_cons_of_mem _ (List.mem_cons_of_mem _ (List.mem_cons_of_mem _ (List.mem_cons_of_mem _ (List.mem_cons_of_mem _ (List.mem_cons_of_mem _ (List.mem_cons_of_mem _ (List.mem_cons_of_mem _ (List.mem_cons_of_mem _ List.mem_cons_self)))))))))) (List.mem_cons_of_mem _ (List.mem_cons_of_mem _ (List.mem_cons_of_mem _ (List.mem_cons_of_mem _ (List.mem_cons_of_mem _ (List.mem_cons_of_mem _ (List.mem_cons_of_mem _ (List.mem_cons_of_mem _ (List.mem_cons_of_mem _ (List.mem_cons_of_mem _ (List.mem_cons_of_mem _ List.mem_cons_self))))))))))) Ef.out) rfl).mono ?_
          rintro e w33 ⟨rfl, hb⟩
          have S34 := Lib.hid (S32.out.later hb)
          clear hb S32
          obtain ⟨t20_0, t20_1, t20_2, t20_3⟩ := (S34.out.box _ (List.mem_cons_of_mem _ (List.mem_cons_of_mem _ (List.mem_cons_of_mem _ List.mem_cons_self))) : Fb (w21.heap.size, 26, [.int .i64 s21, .slice a21 n21 c21, .int .i64 1, .slice b21 m21 d21]) _).cells4
          obtain ⟨t21_0, t21_1, t21_2, t21_3⟩ := (S34.out.box _ (List.mem_cons_of_mem _ (List.mem_cons_of_mem _ (List.mem_cons_of_mem _ (List.mem_cons_of_mem _ (List.mem_cons_of_mem _ (List.mem_cons_of_mem _ List.mem_cons_self)))))) : Fb (w.heap.size, 26, [.int .i64 sf, .slice af nf cf, .int .i64 1, .slice bf mf df]) _).cells4
          go_wp2_with fail
          clear t20_0 t20_1 t20_2 t20_3 t21_0 t21_1 t21_2 t21_3
          refine (rfsame_t (S34.out.fr (v := .slice a21 n21 c21) (u := .slice b21 m21 d21) (r := qf) (List.mem_cons_of_mem _ (List.mem_cons_of_mem _ (List.mem_cons_of_mem _ (List.mem_cons_of_mem _ List.mem_cons_self)))) (List.mem_cons_of_mem _ (List.mem_cons_of_mem _ (List.mem_cons_of_mem _ (List.mem_cons_of_mem _ (List.mem_cons_of_mem _ List.mem_cons_self))))) E21.out) (S34.out.fr (v := .slice af nf cf) (u := .slice bf mf df) (r := qf) (List.mem_cons_of_mem _ (List.mem_cons_of_mem _ (List.mem_cons_of_mem _ (List.mem_cons_of_mem _ (List.mem_cons_of_mem _ (List.mem_cons_of_mem _ (List.mem_cons_of_mem _ (List.mem_cons_of_mem _ (List.mem_cons_of_mem _ (List.mem_cons_of_mem _ List.mem_cons_self)))))))))) (List.mem_cons_of_mem _ (List.mem_cons_of_mem _ (List.mem_cons_of_mem _ (List.mem_cons_of_mem _ (List.mem_cons_of_mem _ (List.mem_cons_of_mem _ (List.mem_cons_of_mem _ (List.mem_cons_of_mem _ (List.mem_cons_of_mem _ (List.mem_cons_of_mem _ (List.mem_cons_of_mem _ List.mem_cons_self))))))))))) Ef.out) rfl).mono ?_
          rintro e w35 ⟨rfl, hb⟩
          have S36 := Lib.hid (S34.out.later hb)
          clear hb S34
          obtain ⟨t22_0, t22_1, t22_2, t22_3⟩ := (S36.out.box _ List.mem_cons_self : Fb (w31.heap.size, 26, [.int .i64 s31, .slice a31 n31 c31, .int .i64 1, .slice b31 m31 d31]) _).cells4
          obtain ⟨t23_0, t23_1, t23_2, t23_3⟩ := (S36.out.box _ (List.mem_cons_of_mem _ (List.mem_cons_of_mem _ (List.mem_cons_of_mem _ (List.mem_cons_of_mem _ (List.mem_cons_of_mem _ (List.mem_cons_of_mem _ List.mem_cons_self)))))) : Fb (w.heap.size, 26, [.int .i64 sf, .slice af nf cf, .int .i64 1, .slice bf mf df]) _).cells4
          go_wp2_with fail
          clear t22_0 t22_1 t22_2 t22_3 t23_0 t23_1 t23_2 t23_3
          refine (rfsame_t (S36.out.fr (v := .slice a31 n31 c31) (u := .slice b31 m31 d31) (r := qf) List.mem_cons_self (List.mem_cons_of_mem _ List.mem_cons_self) E31.out) (S36.out.fr (v := .slice af nf cf) (u := .slice bf mf df) (r := qf) (List.mem_cons_of_mem _ (List.mem_cons_of_mem _ (List.mem_cons_of_mem _ (List.mem_cons_of_mem _ (List.mem_cons_of_mem _ (List.mem_cons_of_mem _ (List.mem_cons_of_mem _ (List.mem_cons_of_mem _ (List.mem_cons_of_mem _ (List.mem_cons_of_mem _ List.mem_cons_self)))))))))) (List.mem_cons_of_mem _ (List.mem_cons_of_mem _ (List.mem_cons_of_mem _ (List.mem_cons_of_mem _ (List.mem_cons_of_mem _ (List.mem_cons_of_mem _ (List.mem_cons_of_mem _ (List.mem_cons_of_mem _ (List.mem_cons_of_mem _ (List.mem_cons_of_mem _ (List.mem_cons_of_mem _ List.mem_cons_self))))))))))) Ef.out) rfl).mono ?_
          rintro e w37 ⟨rfl, hb⟩
          have S38 := Lib.hid (S36.out.later hb)
          clear hb S36
          go_wp2_with fail
          go_ret
          exact ⟨rfl, S38.out.below⟩
    case neg =>
      have HRN : Hid (∀ r, zs.data.toList ≠ fTextL r) := fun r h => hr ⟨r, h⟩
      clear hr
      go_wp2_with fail
      refine (fread_no zs (by have := HS3.out; omega) _ (S4.out.envF HE.out) HRN.out).mono ?_
      rintro e w39 ⟨rfl, hb⟩
      have S40 := Lib.hid ((S4.out.later hb).put [.int .i64 0, .slice none 0 0, .int .i64 0, .slice none 0 0] 26)
      clear hb S4
      obtain ⟨t24_0, t24_1, t24_2, t24_3⟩ := (S40.out.box _ List.mem_cons_self : Fb (w39.heap.size, 26, [.int .i64 0, .slice none 0 0, .int .i64 0, .slice none 0 0]) _).cells4
      go_wp2_with fail
      clear t24_0 t24_1 t24_2 t24_3
      refine (rfsame_zz _).mono ?_
      rintro e w41 ⟨rfl, hb⟩
      have S42 := Lib.hid (S40.out.later hb)
      clear hb S40
      obtain ⟨t25_0, t25_1, t25_2, t25_3⟩ := (S42.out.box _ (List.mem_cons_of_mem _ List.mem_cons_self) : Fb (w.heap.size, 26, [.int .i64 sf, .slice af nf cf, .int .i64 tf, .slice bf mf df]) _).cells4
      go_wp2_with fail
      clear t25_0 t25_1 t25_2 t25_3
      cases rf
      case false =>
        have hl := few_lens FWf.out (by decide)
        refine (ftext_bad sf af nf cf _ tf bf mf df _ _ (S42.out.ints (.slice af nf cf, lf) List.mem_cons_self) (S42.out.ints (.slice bf mf df, kf) (List.mem_cons_of_mem _ List.mem_cons_self)) hl.1 hl.2 RWf.out).mono ?_
        rintro e w43 ⟨rfl, hb⟩
        have S44 := Lib.hid (S42.out.later hb)
        clear hb S42
        clear hl
        obtain ⟨t26_0, t26_1, t26_2, t26_3⟩ := (S44.out.box _ (List.mem_cons_of_mem _ List.mem_cons_self) : Fb (w.heap.size, 26, [.int .i64 sf, .slice af nf cf, .int .i64 tf, .slice bf mf df]) _).cells4
        go_wp2_with fail
        clear t26_0 t26_1 t26_2 t26_3
        have hl := few_lens FWf.out (by decide)
        refine (fright_any sf af nf cf _ tf bf mf df _ _ (S44.out.ints (.slice af nf cf, lf) List.mem_cons_self) (S44.out.ints (.slice bf mf df, kf) (List.mem_cons_of_mem _ List.mem_cons_self)) hl.1 hl.2 false RWf.out).mono ?_
        rintro e w45 ⟨rfl, hb⟩
        have S46 := Lib.hid (S44.out.later hb)
        clear hb S44
        clear hl
        go_wp2_with fail
        go_ret
        exact ⟨rfl, S46.out.below⟩
      case true =>
        obtain ⟨qf, ef, rfl, rfl, rfl⟩ := fright_of RWf.out
        have Ef := Lib.hid ef
        have Zf : Hid (FSz 40 qf) := FSz.fits FWf.out
        clear ef FWf RWf
        obtain ⟨t, ht⟩ : ∃ t : ByteArray, t = ⟨(fTextL qf).toArray⟩ := ⟨_, rfl⟩
        have ht1 : fTextL qf = t.data.toList := by rw [ht]
        have hsz : t.size ≤ 563 := by rw [ht, size_mk]; exact FSz.text Zf.out (by omega)
        have T1 := Lib.hid ht1
        have HSZ : Hid (t.size ≤ 100000) := Nat.le_trans hsz (by omega)
        clear ht ht1 hsz
        have WF : Hid (FSz 1000 qf) := FSz.mono Zf.out
        have ED : Hid ((1 : Int) = (qf.den : Int).sign) := (den_sign qf).symm
        have LP : Hid (Len 100000 qf.num) := Sz.len Zf.out.1
        have LQ : Hid (Len 100000 (qf.den : Int)) := Sz.len Zf.out.2
        have OQ : Hid ((qf.den : Int) ≠ 0) := den_ne qf
        have RS := Lib.hid (rat_self qf)
        have Sv : Hid (Sz 4 iv) := Sz.small (by have := HIv.out; omega)
        have LV : Hid (Len 100000 iv) := Sz.len Sv.out
        have LPV : Hid (Len 100000 (qf.num * iv)) := Sz.len (Sz.mul Zf.out.1 Sv.out)
        have LQV : Hid (Len 100000 ((qf.den : Int) * iv)) := Sz.len (Sz.mul Zf.out.2 Sv.out)
        refine (ftext_s (S42.out.fr (v := .slice af nf cf) (u := .slice bf mf df) (r := qf) List.mem_cons_self (List.mem_cons_of_mem _ List.mem_cons_self) Ef.out) WF.out (S42.out.env HN.out) T1.out).mono ?_
        rintro e w47 ⟨rfl, hb⟩
        have S48 := Lib.hid (S42.out.later hb)
        clear hb S42
        obtain ⟨t27_0, t27_1, t27_2, t27_3⟩ := (S48.out.box _ (List.mem_cons_of_mem _ List.mem_cons_self) : Fb (w.heap.size, 26, [.int .i64 sf, .slice af nf cf, .int .i64 1, .slice bf mf df]) _).cells4
        go_wp2_with fail
        clear t27_0 t27_1 t27_2 t27_3
        refine (fright_k (S48.out.fr (v := .slice af nf cf) (u := .slice bf mf df) (r := qf) List.mem_cons_self (List.mem_cons_of_mem _ List.mem_cons_self) Ef.out) WF.out).mono ?_
        rintro e w49 ⟨rfl, hb⟩
        have S50 := Lib.hid (S48.out.later hb)
        clear hb S48
        go_wp2_with fail
        refine (fread_yes t HSZ.out _ (S50.out.envF HE.out) qf T1.out.symm).mono ?_
        rintro e w51 ⟨s51, a51, n51, c51, b51, m51, d51, rfl, hr, hb, hf, hg⟩
        have E51 := Lib.hid hr.1.1
        have S52 := Lib.hid ((S50.out.ret2 hb hr.1.2 hf hr.2.2 hg).put [.int .i64 s51, .slice a51 n51 c51, .int .i64 1, .slice b51 m51 d51] 26)
        clear hr hb hf hg S50
        obtain ⟨t28_0, t28_1, t28_2, t28_3⟩ := (S52.out.box _ (List.mem_cons_of_mem _ (List.mem_cons_of_mem _ List.mem_cons_self)) : Fb (w.heap.size, 26, [.int .i64 sf, .slice af nf cf, .int .i64 1, .slice bf mf df]) _).cells4
        go_wp2_with fail
        clear t28_0 t28_1 t28_2 t28_3
        refine (new_r (S52.out.num (v := .slice af nf cf) (z := qf.num) (List.mem_cons_of_mem _ (List.mem_cons_of_mem _ List.mem_cons_self)) Ef.out) (S52.out.num (v := .slice bf mf df) (z := (qf.den : Int)) (List.mem_cons_of_mem _ (List.mem_cons_of_mem _ (List.mem_cons_of_mem _ List.mem_cons_self))) ED.out) LP.out LQ.out OQ.out RS.out).mono ?_
        rintro e w53 ⟨s53, a53, n53, c53, b53, m53, d53, rfl, hr, hb, hf, hg⟩
        have E53 := Lib.hid hr.1.1
        have S54 := Lib.hid ((S52.out.ret2 hb hr.1.2 hf hr.2.2 hg).put [.int .i64 s53, .slice a53 n53 c53, .int .i64 1, .slice b53 m53 d53] 26)
        clear hr hb hf hg S52
        obtain ⟨t29_0, t29_1, t29_2, t29_3⟩ := (S54.out.box _ (List.mem_cons_of_mem _ (List.mem_cons_of_mem _ (List.mem_cons_of_mem _ List.mem_cons_self))) : Fb (w.heap.size, 26, [.int .i64 sf, .slice af nf cf, .int .i64 1, .slice bf mf df]) _).cells4
        go_upto_region 12 with fail
        clear t29_0 t29_1 t29_2 t29_3
        generalize (w53.alloc (.cells #[.int .i64 s53, .slice a53 n53 c53, .int .i64 1, .slice b53 m53 d53] 26)) = wz55 at S54 ⊢
        go_cut [15, 16] from 86 to 93 (fun u v wx => v = .int .i64 0 ∧ Hid (∃ g s a n c, u = .pointer (some ⟨g, 0, none⟩) ∧ s = ((qf.num * iv) : Int).sign ∧ Sf w ((g, 24, [.int .i64 s, .slice a n c]) :: [(w53.heap.size, 26, [.int .i64 s53, .slice a53 n53 c53, .int .i64 1, .slice b53 m53 d53]), (w51.heap.size, 26, [.int .i64 s51, .slice a51 n51 c51, .int .i64 1, .slice b51 m51 d51]), (w39.heap.size, 26, [.int .i64 0, .slice none 0 0, .int .i64 0, .slice none 0 0]), (w.heap.size, 26, [.int .i64 sf, .slice af nf cf, .int .i64 1, .slice bf mf df])]) ((.slice a n c, digs ((qf.num * iv) : Int).natAbs) :: [(.slice a53 n53 c53, digs (qf : Rat).num.natAbs), (.slice b53 m53 d53, digs ((qf : Rat).den : Int).natAbs), (.slice a51 n51 c51, digs (qf : Rat).num.natAbs), (.slice b51 m51 d51, digs ((qf : Rat).den : Int).natAbs), (.slice af nf cf, digs qf.num.natAbs), (.slice bf mf df, digs (qf.den : Int).natAbs)]) wx))
        case first =>
          have K0 : ∀ W F, Sf w [(w53.heap.size, 26, [.int .i64 s53, .slice a53 n53 c53, .int .i64 1, .slice b53 m53 d53]), (w51.heap.size, 26, [.int .i64 s51, .slice a51 n51 c51, .int .i64 1, .slice b51 m51 d51]), (w39.heap.size, 26, [.int .i64 0, .slice none 0 0, .int .i64 0, .slice none 0 0]), (w.heap.size, 26, [.int .i64 sf, .slice af nf cf, .int .i64 1, .slice bf mf df])] F W → W.cell? ⟨w.heap.size, 0, none⟩ = some (.int .i64 sf) ∧ W.cell? ⟨w.heap.size, 1, none⟩ = some (.slice af nf cf) ∧ W.cell? ⟨w.heap.size, 2, none⟩ = some (.int .i64 1) ∧ W.cell? ⟨w.heap.size, 3, none⟩ = some (.slice bf mf df) := fun W F h => ⟨(h.box _ (List.mem_cons_of_mem _ (List.mem_cons_of_mem _ (List.mem_cons_of_mem _ List.mem_cons_self))) : Fb (w.heap.size, 26, [.int .i64 sf, .slice af nf cf, .int .i64 1, .slice bf mf df]) _).cells4.1, (h.box _ (List.mem_cons_of_mem _ (List.mem_cons_of_mem _ (List.mem_cons_of_mem _ List.mem_cons_self))) : Fb (w.heap.size, 26, [.int .i64 sf, .slice af nf cf, .int .i64 1, .slice bf mf df]) _).cells4.2.1, (h.box _ (List.mem_cons_of_mem _ (List.mem_cons_of_mem _ (List.mem_cons_of_mem _ List.mem_cons_self))) : Fb (w.heap.size, 26, [.int .i64 sf, .slice af nf cf, .int .i64 1, .slice bf mf df]) _).cells4.2.2.1, (h.box _ (List.mem_cons_of_mem _ (List.mem_cons_of_mem _ (List.mem_cons_of_mem _ List.mem_cons_self))) : Fb (w.heap.size, 26, [.int .i64 sf, .slice af nf cf, .int .i64 1, .slice bf mf df]) _).cells4.2.2.2⟩
          have KK := Lib.hid K0
          clear K0
          have K0 : ∀ W F x, Sf w (x :: [(w53.heap.size, 26, [.int .i64 s53, .slice a53 n53 c53, .int .i64 1, .slice b53 m53 d53]), (w51.heap.size, 26, [.int .i64 s51, .slice a51 n51 c51, .int .i64 1, .slice b51 m51 d51]), (w39.heap.size, 26, [.int .i64 0, .slice none 0 0, .int .i64 0, .slice none 0 0]), (w.heap.size, 26, [.int .i64 sf, .slice af nf cf, .int .i64 1, .slice bf mf df])]) F W → W.cell? ⟨w.heap.size, 0, none⟩ = some (.int .i64 sf) ∧ W.cell? ⟨w.heap.size, 1, none⟩ = some (.slice af nf cf) ∧ W.cell? ⟨w.heap.size, 2, none⟩ = some (.int .i64 1) ∧ W.cell? ⟨w.heap.size, 3, none⟩ = some (.slice bf mf df) := fun W F x h => ⟨(h.box _ (List.mem_cons_of_mem _ (List.mem_cons_of_mem _ (List.mem_cons_of_mem _ (List.mem_cons_of_mem _ List.mem_cons_self)))) : Fb (w.heap.size, 26, [.int .i64 sf, .slice af nf cf, .int .i64 1, .slice bf mf df]) _).cells4.1, (h.box _ (List.mem_cons_of_mem _ (List.mem_cons_of_mem _ (List.mem_cons_of_mem _ (List.mem_cons_of_mem _ List.mem_cons_self)))) : Fb (w.heap.size, 26, [.int .i64 sf, .slice af nf cf, .int .i64 1, .slice bf mf df]) _).cells4.2.1, (h.box _ (List.mem_cons_of_mem _ (List.mem_cons_of_mem _ (List.mem_cons_of_mem _ (List.mem_cons_of_mem _ List.mem_cons_self)))) : Fb (w.heap.size, 26, [.int .i64 sf, .slice af nf cf, .int .i64 1, .slice bf mf df]) _).cells4.2.2.1, (h.box _ (List.mem_cons_of_mem _ (List.mem_cons_of_mem _ (List.mem_cons_of_mem _ (List.mem_cons_of_mem _ List.mem_cons_self)))) : Fb (w.heap.size, 26, [.int .i64 sf, .slice af nf cf, .int .i64 1, .slice bf mf df]) _).cells4.2.2.2⟩
          have KU := Lib.hid K0
          clear K0
          have N0 := Lib.hid S54.out.drew
          have A0_0 := Lib.hid (S54.out.put [.int .i64 0, .slice none 0 0] 24).drew
          clear S54
          have e0 := KK.out _ _ N0.out
          have f0 := KU.out _ _ _ A0_0.out
          go_region_held3 (fun W => W.cell? ⟨w.heap.size, 0, none⟩ = some (.int .i64 sf) ∧ W.cell? ⟨w.heap.size, 1, none⟩ = some (.slice af nf cf) ∧ W.cell? ⟨w.heap.size, 2, none⟩ = some (.int .i64 1) ∧ W.cell? ⟨w.heap.size, 3, none⟩ = some (.slice bf mf df))
            (first | (with_reducible exact e0) | (with_reducible exact f0) | (with_reducible exact k55_1) | (with_reducible exact l55_1) | (with_reducible exact k55_2) | (with_reducible exact k55_3) | (with_reducible exact l55_3) | (with_reducible exact q55_3) | (with_reducible exact k55_4) | (with_reducible exact q55_4) | (with_reducible exact k55_5) | (with_reducible exact q55_5) | go_keep)
            (first
                | (have hG := A1_0; clear hG; go_at_call 47; (with_reducible refine (mul_k PA1_0_1.out PA1_0_2.out LP.out LV.out).mono ?_); rintro e y55_5 ⟨sx55_5, ax55_5, nx55_5, cx55_5, rfl, hn, hb, hf⟩; have E55_5 := Lib.hid hn.1; have A2_0 := Lib.hid (A1_0.out.ret hb hn.2 hf); clear hn hb hf; have k55_5 := KU.out _ _ _ A2_0.out; obtain ⟨z0, z1⟩ := (A2_0.out.box _ List.mem_cons_self : Fb (wz55.heap.size, 24, [.int .i64 0, .slice none 0 0]) _).cells2; obtain ⟨u0, u1⟩ := (A2_0.out.box _ List.mem_cons_self : Fb (wz55.heap.size, 24, [.int .i64 0, .slice none 0 0]) _).free2; have R55_5 := Lib.hid (A2_0.out.set2 (pre := []) (.int .i64 sx55_5) (.slice ax55_5 nx55_5 cx55_5)); have q55_5 := KU.out _ _ _ R55_5.out)
                | (have hG := A1_1; clear hG; go_at_call 47; (with_reducible refine (mul_k PA1_1_1.out PA1_1_2.out LP.out LV.out).mono ?_); rintro e y55_4 ⟨sx55_4, ax55_4, nx55_4, cx55_4, rfl, hn, hb, hf⟩; have E55_4 := Lib.hid hn.1; have A2_1 := Lib.hid (A1_1.out.ret hb hn.2 hf); clear hn hb hf; have k55_4 := KU.out _ _ _ A2_1.out; obtain ⟨z0, z1⟩ := (A2_1.out.box _ List.mem_cons_self : Fb (y55_1.heap.size, 24, [.int .i64 0, .slice none 0 0]) _).cells2; obtain ⟨u0, u1⟩ := (A2_1.out.box _ List.mem_cons_self : Fb (y55_1.heap.size, 24, [.int .i64 0, .slice none 0 0]) _).free2; have R55_4 := Lib.hid (A2_1.out.set2 (pre := []) (.int .i64 sx55_4) (.slice ax55_4 nx55_4 cx55_4)); have q55_4 := KU.out _ _ _ R55_4.out)
                | (have hG := N1; clear hG; go_at_call 47; (with_reducible refine (mul_k PN1_1.out PN1_2.out LP.out LV.out).mono ?_); rintro e y55_3 ⟨sx55_3, ax55_3, nx55_3, cx55_3, rfl, hn, hb, hf⟩; have E55_3 := Lib.hid hn.1; have N2 := Lib.hid (N1.out.ret hb hn.2 hf); clear hn hb hf; have k55_3 := KK.out _ _ N2.out; have Z55 := Lib.hid (N2.out.put [.int .i64 0, .slice none 0 0] 24); have l55_3 := KU.out _ _ _ Z55.out; have R55_3 := Lib.hid (N2.out.put [.int .i64 sx55_3, .slice ax55_3 nx55_3 cx55_3] 24); have q55_3 := KU.out _ _ _ R55_3.out)
                | (have hG := A0_0; clear hG; go_at_call 48; (with_reducible refine (of_k iv HIv.out _).mono ?_); rintro e y55_2 ⟨sx55_2, ax55_2, nx55_2, cx55_2, rfl, hn, hb, hf⟩; have E55_2 := Lib.hid hn.1; have A1_0 := Lib.hid (A0_0.out.ret hb hn.2 hf); clear hn hb hf; have k55_2 := KU.out _ _ _ A1_0.out; have PA1_0_1 := Lib.hid (A1_0.out.num (v := .slice af nf cf) (z := qf.num) (List.mem_cons_of_mem _ (List.mem_cons_of_mem _ (List.mem_cons_of_mem _ (List.mem_cons_of_mem _ (List.mem_cons_of_mem _ List.mem_cons_self))))) Ef.out); have PA1_0_2 := Lib.hid (A1_0.out.num (v := .slice ax55_2 nx55_2 cx55_2) (z := iv) List.mem_cons_self E55_2.out))
                | (have hG := N0; clear hG; go_at_call 48; (with_reducible refine (of_k iv HIv.out _).mono ?_); rintro e y55_1 ⟨sx55_1, ax55_1, nx55_1, cx55_1, rfl, hn, hb, hf⟩; have E55_1 := Lib.hid hn.1; have N1 := Lib.hid (N0.out.ret hb hn.2 hf); clear hn hb hf; have k55_1 := KK.out _ _ N1.out; have A1_1 := Lib.hid (N1.out.put [.int .i64 0, .slice none 0 0] 24); have l55_1 := KU.out _ _ _ A1_1.out; have PN1_1 := Lib.hid (N1.out.num (v := .slice af nf cf) (z := qf.num) (List.mem_cons_of_mem _ (List.mem_cons_of_mem _ (List.mem_cons_of_mem _ (List.mem_cons_of_mem _ (List.mem_cons_of_mem _ List.mem_cons_self))))) Ef.out); have PN1_2 := Lib.hid (N1.out.num (v := .slice ax55_1 nx55_1 cx55_1) (z := iv) List.mem_cons_self E55_1.out); have PA1_1_1 := Lib.hid (A1_1.out.num (v := .slice af nf cf) (z := qf.num) (List.mem_cons_of_mem _ (List.mem_cons_of_mem _ (List.mem_cons_of_mem _ (List.mem_cons_of_mem _ (List.mem_cons_of_mem _ List.mem_cons_self))))) Ef.out); have PA1_1_2 := Lib.hid (A1_1.out.num (v := .slice ax55_1 nx55_1 cx55_1) (z := iv) List.mem_cons_self E55_1.out)))
          all_goals (go_wp2_with fail; go_meet; refine ⟨rfl, ?_⟩; first | exact ⟨_, _, _, _, _, rfl, E55_3.out, (Sf.cut (pre := [(.slice ax55_3 nx55_3 cx55_3, digs ((qf.num * iv) : Int).natAbs)]) (mid := [(.slice ax55_1 nx55_1 cx55_1, digs (iv : Int).natAbs)]) R55_3.out)⟩ | exact ⟨_, _, _, _, _, rfl, E55_4.out, (Sf.cut (pre := [(.slice ax55_4 nx55_4 cx55_4, digs ((qf.num * iv) : Int).natAbs)]) (mid := [(.slice ax55_1 nx55_1 cx55_1, digs (iv : Int).natAbs)]) R55_4.out)⟩ | exact ⟨_, _, _, _, _, rfl, E55_5.out, (Sf.cut (pre := [(.slice ax55_5 nx55_5 cx55_5, digs ((qf.num * iv) : Int).natAbs)]) (mid := [(.slice ax55_2 nx55_2 cx55_2, digs (iv : Int).natAbs)]) R55_5.out)⟩)
        case rest =>
        obtain ⟨rfl, hq⟩ := hcut
        obtain ⟨g55, s55, a55, n55, c55, rfl, e55, h55⟩ := hq.out
        obtain ⟨w55, rfl⟩ : ∃ W, W = wc := ⟨_, rfl⟩
        have S55 := Lib.hid h55
        have E55 := Lib.hid e55
        clear hq e55 h55 S54
        obtain ⟨t30_0, t30_1, t30_2, t30_3⟩ := (S55.out.box _ (List.mem_cons_of_mem _ (List.mem_cons_of_mem _ (List.mem_cons_of_mem _ (List.mem_cons_of_mem _ List.mem_cons_self)))) : Fb (w.heap.size, 26, [.int .i64 sf, .slice af nf cf, .int .i64 1, .slice bf mf df]) _).cells4
        go_upto_region 13 with fail
        clear t30_0 t30_1 t30_2 t30_3
        go_cut [17, 18] from 94 to 101 (fun u v wx => v = .int .i64 0 ∧ Hid (∃ g s a n c, u = .pointer (some ⟨g, 0, none⟩) ∧ s = (((qf.den : Int) * iv) : Int).sign ∧ Sf w ((g, 24, [.int .i64 s, .slice a n c]) :: [(g55, 24, [.int .i64 s55, .slice a55 n55 c55]), (w53.heap.size, 26, [.int .i64 s53, .slice a53 n53 c53, .int .i64 1, .slice b53 m53 d53]), (w51.heap.size, 26, [.int .i64 s51, .slice a51 n51 c51, .int .i64 1, .slice b51 m51 d51]), (w39.heap.size, 26, [.int .i64 0, .slice none 0 0, .int .i64 0, .slice none 0 0]), (w.heap.size, 26, [.int .i64 sf, .slice af nf cf, .int .i64 1, .slice bf mf df])]) ((.slice a n c, digs (((qf.den : Int) * iv) : Int).natAbs) :: [(.slice a55 n55 c55, digs ((qf.num * iv) : Int).natAbs), (.slice a53 n53 c53, digs (qf : Rat).num.natAbs), (.slice b53 m53 d53, digs ((qf : Rat).den : Int).natAbs), (.slice a51 n51 c51, digs (qf : Rat).num.natAbs), (.slice b51 m51 d51, digs ((qf : Rat).den : Int).natAbs), (.slice af nf cf, digs qf.num.natAbs), (.slice bf mf df, digs (qf.den : Int).natAbs)]) wx))
        case first =>
          have K0 : ∀ W F, Sf w [(g55, 24, [.int .i64 s55, .slice a55 n55 c55]), (w53.heap.size, 26, [.int .i64 s53, .slice a53 n53 c53, .int .i64 1, .slice b53 m53 d53]), (w51.heap.size, 26, [.int .i64 s51, .slice a51 n51 c51, .int .i64 1, .slice b51 m51 d51]), (w39.heap.size, 26, [.int .i64 0, .slice none 0 0, .int .i64 0, .slice none 0 0]), (w.heap.size, 26, [.int .i64 sf, .slice af nf cf, .int .i64 1, .slice bf mf df])] F W → W.cell? ⟨w.heap.size, 0, none⟩ = some (.int .i64 sf) ∧ W.cell? ⟨w.heap.size, 1, none⟩ = some (.slice af nf cf) ∧ W.cell? ⟨w.heap.size, 2, none⟩ = some (.int .i64 1) ∧ W.cell? ⟨w.heap.size, 3, none⟩ = some (.slice bf mf df) := fun W F h => ⟨(h.box _ (List.mem_cons_of_mem _ (List.mem_cons_of_mem _ (List.mem_cons_of_mem _ (List.mem_cons_of_mem _ List.mem_cons_self)))) : Fb (w.heap.size, 26, [.int .i64 sf, .slice af nf cf, .int .i64 1, .slice bf mf df]) _).cells4.1, (h.box _ (List.mem_cons_of_mem _ (List.mem_cons_of_mem _ (List.mem_cons_of_mem _ (List.mem_cons_of_mem _ List.mem_cons_self)))) : Fb (w.heap.size, 26, [.int .i64 sf, .slice af nf cf, .int .i64 1, .slice bf mf df]) _).cells4.2.1, (h.box _ (List.mem_cons_of_mem _ (List.mem_cons_of_mem _ (List.mem_cons_of_mem _ (List.mem_cons_of_mem _ List.mem_cons_self)))) : Fb (w.heap.size, 26, [.int .i64 sf, .slice af nf cf, .int .i64 1, .slice bf mf df]) _).cells4.2.2.1, (h.box _ (List.mem_cons_of_mem _ (List.mem_cons_of_mem _ (List.mem_cons_of_mem _ (List.mem_cons_of_mem _ List.mem_cons_self)))) : Fb (w.heap.size, 26, [.int .i64 sf, .slice af nf cf, .int .i64 1, .slice bf mf df]) _).cells4.2.2.2⟩
          have KK := Lib.hid K0
          clear K0
          have K0 : ∀ W F x, Sf w (x :: [(g55, 24, [.int .i64 s55, .slice a55 n55 c55]), (w53.heap.size, 26, [.int .i64 s53, .slice a53 n53 c53, .int .i64 1, .slice b53 m53 d53]), (w51.heap.size, 26, [.int .i64 s51, .slice a51 n51 c51, .int .i64 1, .slice b51 m51 d51]), (w39.heap.size, 26, [.int .i64 0, .slice none 0 0, .int .i64 0, .slice none 0 0]), (w.heap.size, 26, [.int .i64 sf, .slice af nf cf, .int .i64 1, .slice bf mf df])]) F W → W.cell? ⟨w.heap.size, 0, none⟩ = some (.int .i64 sf) ∧ W.cell? ⟨w.heap.size, 1, none⟩ = some (.slice af nf cf) ∧ W.cell? ⟨w.heap.size, 2, none⟩ = some (.int .i64 1) ∧ W.cell? ⟨w.heap.size, 3, none⟩ = some (.slice bf mf df) := fun W F x h => ⟨(h.box _ (List.mem_cons_of_mem _ (List.mem_cons_of_mem _ (List.mem_cons_of_mem _ (List.mem_cons_of_mem _ (List.mem_cons_of_mem _ List.mem_cons_self))))) : Fb (w.heap.size, 26, [.int .i64 sf, .slice af nf cf, .int .i64 1, .slice bf mf df]) _).cells4.1, (h.box _ (List.mem_cons_of_mem _ (List.mem_cons_of_mem _ (List.mem_cons_of_mem _ (List.mem_cons_of_mem _ (List.mem_cons_of_mem _ List.mem_cons_self))))) : Fb (w.heap.size, 26, [.int .i64 sf, .slice af nf cf, .int .i64 1, .slice bf mf df]) _).cells4.2.1, (h.box _ (List.mem_cons_of_mem _ (List.mem_cons_of_mem _ (List.mem_cons_of_mem _ (List.mem_cons_of_mem _ (List.mem_cons_of_mem _ List.mem_cons_self))))) : Fb (w.heap.size, 26, [.int .i64 sf, .slice af nf cf, .int .i64 1, .slice bf mf df]) _).cells4.2.2.1, (h.box _ (List.mem_cons_of_mem _ (List.mem_cons_of_mem _ (List.mem_cons_of_mem _ (List.mem_cons_of_mem _ (List.mem_cons_of_mem _ List.mem_cons_self))))) : Fb (w.heap.size, 26, [.int .i64 sf, .slice af nf cf, .int .i64 1, .slice bf mf df]) _).cells4.2.2.2⟩
          have KU := Lib.hid K0
          clear K0
          have N0 := Lib.hid S55.out.drew
          have A0_0 := Lib.hid (S55.out.put [.int .i64 0, .slice none 0 0] 24).drew
          clear S55
          have e0 := KK.out _ _ N0.out
          have f0 := KU.out _ _ _ A0_0.out
          go_region_held3 (fun W => W.cell? ⟨w.heap.size, 0, none⟩ = some (.int .i64 sf) ∧ W.cell? ⟨w.heap.size, 1, none⟩ = some (.slice af nf cf) ∧ W.cell? ⟨w.heap.size, 2, none⟩ = some (.int .i64 1) ∧ W.cell? ⟨w.heap.size, 3, none⟩ = some (.slice bf mf df))
            (first | (with_reducible exact e0) | (with_reducible exact f0) | (with_reducible exact k56_1) | (with_reducible exact l56_1) | (with_reducible exact k56_2) | (with_reducible exact k56_3) | (with_reducible exact l56_3) | (with_reducible exact q56_3) | (with_reducible exact k56_4) | (with_reducible exact q56_4) | (with_reducible exact k56_5) | (with_reducible exact q56_5) | go_keep)
            (first
                | (have hG := A1_0; clear hG; go_at_call 47; (with_reducible refine (mul_k PA1_0_1.out PA1_0_2.out LQ.out LV.out).mono ?_); rintro e y56_5 ⟨sx56_5, ax56_5, nx56_5, cx56_5, rfl, hn, hb, hf⟩; have E56_5 := Lib.hid hn.1; have A2_0 := Lib.hid (A1_0.out.ret hb hn.2 hf); clear hn hb hf; have k56_5 := KU.out _ _ _ A2_0.out; obtain ⟨z0, z1⟩ := (A2_0.out.box _ List.mem_cons_self : Fb (w55.heap.size, 24, [.int .i64 0, .slice none 0 0]) _).cells2; obtain ⟨u0, u1⟩ := (A2_0.out.box _ List.mem_cons_self : Fb (w55.heap.size, 24, [.int .i64 0, .slice none 0 0]) _).free2; have R56_5 := Lib.hid (A2_0.out.set2 (pre := []) (.int .i64 sx56_5) (.slice ax56_5 nx56_5 cx56_5)); have q56_5 := KU.out _ _ _ R56_5.out)
                | (have hG := A1_1; clear hG; go_at_call 47; (with_reducible refine (mul_k PA1_1_1.out PA1_1_2.out LQ.out LV.out).mono ?_); rintro e y56_4 ⟨sx56_4, ax56_4, nx56_4, cx56_4, rfl, hn, hb, hf⟩; have E56_4 := Lib.hid hn.1; have A2_1 := Lib.hid (A1_1.out.ret hb hn.2 hf); clear hn hb hf; have k56_4 := KU.out _ _ _ A2_1.out; obtain ⟨z0, z1⟩ := (A2_1.out.box _ List.mem_cons_self : Fb (y56_1.heap.size, 24, [.int .i64 0, .slice none 0 0]) _).cells2; obtain ⟨u0, u1⟩ := (A2_1.out.box _ List.mem_cons_self : Fb (y56_1.heap.size, 24, [.int .i64 0, .slice none 0 0]) _).free2; have R56_4 := Lib.hid (A2_1.out.set2 (pre := []) (.int .i64 sx56_4) (.slice ax56_4 nx56_4 cx56_4)); have q56_4 := KU.out _ _ _ R56_4.out)
                | (have hG := N1; clear hG; go_at_call 47; (with_reducible refine (mul_k PN1_1.out PN1_2.out LQ.out LV.out).mono ?_); rintro e y56_3 ⟨sx56_3, ax56_3, nx56_3, cx56_3, rfl, hn, hb, hf⟩; have E56_3 := Lib.hid hn.1; have N2 := Lib.hid (N1.out.ret hb hn.2 hf); clear hn hb hf; have k56_3 := KK.out _ _ N2.out; have Z56 := Lib.hid (N2.out.put [.int .i64 0, .slice none 0 0] 24); have l56_3 := KU.out _ _ _ Z56.out; have R56_3 := Lib.hid (N2.out.put [.int .i64 sx56_3, .slice ax56_3 nx56_3 cx56_3] 24); have q56_3 := KU.out _ _ _ R56_3.out)
                | (have hG := A0_0; clear hG; go_at_call 48; (with_reducible refine (of_k iv HIv.out _).mono ?_); rintro e y56_2 ⟨sx56_2, ax56_2, nx56_2, cx56_2, rfl, hn, hb, hf⟩; have E56_2 := Lib.hid hn.1; have A1_0 := Lib.hid (A0_0.out.ret hb hn.2 hf); clear hn hb hf; have k56_2 := KU.out _ _ _ A1_0.out; have PA1_0_1 := Lib.hid (A1_0.out.num (v := .slice bf mf df) (z := (qf.den : Int)) (List.mem_cons_of_mem _ (List.mem_cons_of_mem _ (List.mem_cons_of_mem _ (List.mem_cons_of_mem _ (List.mem_cons_of_mem _ (List.mem_cons_of_mem _ (List.mem_cons_of_mem _ List.mem_cons_self))))))) ED.out); have PA1_0_2 := Lib.hid (A1_0.out.num (v := .slice ax56_2 nx56_2 cx56_2) (z := iv) List.mem_cons_self E56_2.out))
                | (have hG := N0; clear hG; go_at_call 48; (with_reducible refine (of_k iv HIv.out _).mono ?_); rintro e y56_1 ⟨sx56_1, ax56_1, nx56_1, cx56_1, rfl, hn, hb, hf⟩; have E56_1 := Lib.hid hn.1; have N1 := Lib.hid (N0.out.ret hb hn.2 hf); clear hn hb hf; have k56_1 := KK.out _ _ N1.out; have A1_1 := Lib.hid (N1.out.put [.int .i64 0, .slice none 0 0] 24); have l56_1 := KU.out _ _ _ A1_1.out; have PN1_1 := Lib.hid (N1.out.num (v := .slice bf mf df) (z := (qf.den : Int)) (List.mem_cons_of_mem _ (List.mem_cons_of_mem _ (List.mem_cons_of_mem _ (List.mem_cons_of_mem _ (List.mem_cons_of_mem _ (List.mem_cons_of_mem _ (List.mem_cons_of_mem _ List.mem_cons_self))))))) ED.out); have PN1_2 := Lib.hid (N1.out.num (v := .slice ax56_1 nx56_1 cx56_1) (z := iv) List.mem_cons_self E56_1.out); have PA1_1_1 := Lib.hid (A1_1.out.num (v := .slice bf mf df) (z := (qf.den : Int)) (List.mem_cons_of_mem _ (List.mem_cons_of_mem _ (List.mem_cons_of_mem _ (List.mem_cons_of_mem _ (List.mem_cons_of_mem _ (List.mem_cons_of_mem _ (List.mem_cons_of_mem _ List.mem_cons_self))))))) ED.out); have PA1_1_2 := Lib.hid (A1_1.out.num (v := .slice ax56_1 nx56_1 cx56_1) (z := iv) List.mem_cons_self E56_1.out)))
          all_goals (go_wp2_with fail; go_meet; refine ⟨rfl, ?_⟩; first | exact ⟨_, _, _, _, _, rfl, E56_3.out, (Sf.cut (pre := [(.slice ax56_3 nx56_3 cx56_3, digs (((qf.den : Int) * iv) : Int).natAbs)]) (mid := [(.slice ax56_1 nx56_1 cx56_1, digs (iv : Int).natAbs)]) R56_3.out)⟩ | exact ⟨_, _, _, _, _, rfl, E56_4.out, (Sf.cut (pre := [(.slice ax56_4 nx56_4 cx56_4, digs (((qf.den : Int) * iv) : Int).natAbs)]) (mid := [(.slice ax56_1 nx56_1 cx56_1, digs (iv : Int).natAbs)]) R56_4.out)⟩ | exact ⟨_, _, _, _, _, rfl, E56_5.out, (Sf.cut (pre := [(.slice ax56_5 nx56_5 cx56_5, digs (((qf.den : Int) * iv) : Int).natAbs)]) (mid := [(.slice ax56_2 nx56_2 cx56_2, digs (iv : Int).natAbs)]) R56_5.out)⟩)
        case rest =>
        obtain ⟨rfl, hq⟩ := hcut
        obtain ⟨g56, s56, a56, n56, c56, rfl, e56, h56⟩ := hq.out
        obtain ⟨w56, rfl⟩ : ∃ W, W = wc := ⟨_, rfl⟩
        have S56 := Lib.hid h56
        have E56 := Lib.hid e56
        clear hq e56 h56 S55
        have hv : iv = 0 ∨ iv ≠ 0 := Classical.em _
        rcases hv with hv | hv
        case inl =>
          have HV := Lib.hid hv
          clear hv
          obtain ⟨t31_0, t31_1⟩ := (S56.out.box _ (List.mem_cons_of_mem _ List.mem_cons_self) : Fb (g55, 24, [.int .i64 s55, .slice a55 n55 c55]) _).cells2
          obtain ⟨t32_0, t32_1⟩ := (S56.out.box _ List.mem_cons_self : Fb (g56, 24, [.int .i64 s56, .slice a56 n56 c56]) _).cells2
          go_wp2_with fail
          clear t31_0 t31_1 t32_0 t32_1
          refine (new_zero (S56.out.num (v := .slice a55 n55 c55) (z := (qf.num * iv)) (List.mem_cons_of_mem _ List.mem_cons_self) E55.out) (S56.out.num (v := .slice a56 n56 c56) (z := ((qf.den : Int) * iv)) List.mem_cons_self E56.out) LPV.out (by rw [HV.out]; exact Int.mul_zero _)).mono ?_
          rintro e w57 ⟨rfl, hb⟩
          have S58 := Lib.hid ((S56.out.later hb).put [.int .i64 0, .slice none 0 0, .int .i64 0, .slice none 0 0] 26)
          clear hb S56
          have hv1 : (iv == 0) = true := by simpa using HV.out
          have hv2 : (iv != 0) = false := by simpa using HV.out
          obtain ⟨t33_0, t33_1, t33_2, t33_3⟩ := (S58.out.box _ (List.mem_cons_of_mem _ (List.mem_cons_of_mem _ (List.mem_cons_of_mem _ (List.mem_cons_of_mem _ List.mem_cons_self)))) : Fb (w51.heap.size, 26, [.int .i64 s51, .slice a51 n51 c51, .int .i64 1, .slice b51 m51 d51]) _).cells4
          obtain ⟨t34_0, t34_1, t34_2, t34_3⟩ := (S58.out.box _ (List.mem_cons_of_mem _ (List.mem_cons_of_mem _ (List.mem_cons_of_mem _ (List.mem_cons_of_mem _ (List.mem_cons_of_mem _ (List.mem_cons_of_mem _ List.mem_cons_self)))))) : Fb (w.heap.size, 26, [.int .i64 sf, .slice af nf cf, .int .i64 1, .slice bf mf df]) _).cells4
          go_wp2_with fail
          clear t33_0 t33_1 t33_2 t33_3 t34_0 t34_1 t34_2 t34_3
          refine (rfsame_t (S58.out.fr (v := .slice a51 n51 c51) (u := .slice b51 m51 d51) (r := qf) (List.mem_cons_of_mem _ (List.mem_cons_of_mem _ (List.mem_cons_of_mem _ (List.mem_cons_of_mem _ List.mem_cons_self)))) (List.mem_cons_of_mem _ (List.mem_cons_of_mem _ (List.mem_cons_of_mem _ (List.mem_cons_of_mem _ (List.mem_cons_of_mem _ List.mem_cons_self))))) E51.out) (S58.out.fr (v := .slice af nf cf) (u := .slice bf mf df) (r := qf) (List.mem_cons_of_mem _ (List.mem_cons_of_mem _ (List.mem_cons_of_mem _ (List.mem_cons_of_mem _ (List.mem_cons_of_mem _ (List.mem_cons_of_mem _ List.mem_cons_self)))))) (List.mem_cons_of_mem _ (List.mem_cons_of_mem _ (List.mem_cons_of_mem _ (List.mem_cons_of_mem _ (List.mem_cons_of_mem _ (List.mem_cons_of_mem _ (List.mem_cons_of_mem _ List.mem_cons_self))))))) Ef.out) rfl).mono ?_
          rintro e w59 ⟨rfl, hb⟩
          have S60 := Lib.hid (S58.out.later hb)
          clear hb S58
          obtain ⟨t35_0, t35_1, t35_2, t35_3⟩ := (S60.out.box _ (List.mem_cons_of_mem _ (List.mem_cons_of_mem _ (List.mem_cons_of_mem _ List.mem_cons_self))) : Fb (w53.heap.size, 26, [.int .i64 s53, .slice a53 n53 c53, .int .i64 1, .slice b53 m53 d53]) _).cells4
          obtain ⟨t36_0, t36_1, t36_2, t36_3⟩ := (S60.out.box _ (List.mem_cons_of_mem _ (List.mem_cons_of_mem _ (List.mem_cons_of_mem _ (List.mem_cons_of_mem _ (List.mem_cons_of_mem _ (List.mem_cons_of_mem _ List.mem_cons_self)))))) : Fb (w.heap.size, 26, [.int .i64 sf, .slice af nf cf, .int .i64 1, .slice bf mf df]) _).cells4
          go_wp2_with fail
          clear t35_0 t35_1 t35_2 t35_3 t36_0 t36_1 t36_2 t36_3
          refine (rfsame_t (S60.out.fr (v := .slice a53 n53 c53) (u := .slice b53 m53 d53) (r := qf) (List.mem_cons_of_mem _ (List.mem_cons_of_mem _ List.mem_cons_self)) (List.mem_cons_of_mem _ (List.mem_cons_of_mem _ (List.mem_cons_of_mem _ List.mem_cons_self))) E53.out) (S60.out.fr (v := .slice af nf cf) (u := .slice bf mf df) (r := qf) (List.mem_cons_of_mem _ (List.mem_cons_of_mem _ (List.mem_cons_of_mem _ (List.mem_cons_of_mem _ (List.mem_cons_of_mem _ (List.mem_cons_of_mem _ List.mem_cons_self)))))) (List.mem_cons_of_mem _ (List.mem_cons_of_mem _ (List.mem_cons_of_mem _ (List.mem_cons_of_mem _ (List.mem_cons_of_mem _ (List.mem_cons_of_mem _ (List.mem_cons_of_mem _ List.mem_cons_self))))))) Ef.out) rfl).mono ?_
          rintro e w61 ⟨rfl, hb⟩
          have S62 := Lib.hid (S60.out.later hb)
          clear hb S60
          go_wp2_with fail
          go_ret
          exact ⟨rfl, S62.out.below⟩
        case inr =>
          have HV := Lib.hid hv
          clear hv
          obtain ⟨t37_0, t37_1⟩ := (S56.out.box _ (List.mem_cons_of_mem _ List.mem_cons_self) : Fb (g55, 24, [.int .i64 s55, .slice a55 n55 c55]) _).cells2
          obtain ⟨t38_0, t38_1⟩ := (S56.out.box _ List.mem_cons_self : Fb (g56, 24, [.int .i64 s56, .slice a56 n56 c56]) _).cells2
          go_wp2_with fail
          clear t37_0 t37_1 t38_0 t38_1
          refine (new_r (S56.out.num (v := .slice a55 n55 c55) (z := (qf.num * iv)) (List.mem_cons_of_mem _ List.mem_cons_self) E55.out) (S56.out.num (v := .slice a56 n56 c56) (z := ((qf.den : Int) * iv)) List.mem_cons_self E56.out) LPV.out LQV.out (Int.mul_ne_zero OQ.out HV.out) (times_self qf HV.out)).mono ?_
          rintro e w63 ⟨s63, a63, n63, c63, b63, m63, d63, rfl, hr, hb, hf, hg⟩
          have E63 := Lib.hid hr.1.1
          have S64 := Lib.hid ((S56.out.ret2 hb hr.1.2 hf hr.2.2 hg).put [.int .i64 s63, .slice a63 n63 c63, .int .i64 1, .slice b63 m63 d63] 26)
          clear hr hb hf hg S56
          have hv1 : (iv == 0) = false := by simpa using HV.out
          have hv2 : (iv != 0) = true := by simpa using HV.out
          obtain ⟨t39_0, t39_1, t39_2, t39_3⟩ := (S64.out.box _ (List.mem_cons_of_mem _ (List.mem_cons_of_mem _ (List.mem_cons_of_mem _ (List.mem_cons_of_mem _ List.mem_cons_self)))) : Fb (w51.heap.size, 26, [.int .i64 s51, .slice a51 n51 c51, .int .i64 1, .slice b51 m51 d51]) _).cells4
          obtain ⟨t40_0, t40_1, t40_2, t40_3⟩ := (S64.out.box _ (List.mem_cons_of_mem _ (List.mem_cons_of_mem _ (List.mem_cons_of_mem _ (List.mem_cons_of_mem _ (List.mem_cons_of_mem _ (List.mem_cons_of_mem _ List.mem_cons_self)))))) : Fb (w.heap.size, 26, [.int .i64 sf, .slice af nf cf, .int .i64 1, .slice bf mf df]) _).cells4
          go_wp2_with fail
          clear t39_0 t39_1 t39_2 t39_3 t40_0 t40_1 t40_2 t40_3
          refine (rfsame_t (S64.out.fr (v := .slice a51 n51 c51) (u := .slice b51 m51 d51) (r := qf) (List.mem_cons_of_mem _ (List.mem_cons_of_mem _ (List.mem_cons_of_mem _ (List.mem_cons_of_mem _ (List.mem_cons_of_mem _ (List.mem_cons_of_mem _ List.mem_cons_self)))))) (List.mem_cons_of_mem _ (List.mem_cons_of_mem _ (List.mem_cons_of_mem _ (List.mem_cons_of_mem _ (List.mem_cons_of_mem _ (List.mem_cons_of_mem _ (List.mem_cons_of_mem _ List.mem_cons_self))))))) E51.out) (S64.out.fr (v := .slice af nf cf) (u := .slice bf mf df) (r := qf) (List.mem_cons_of_mem _ (List.mem_cons_of_mem _ (List.mem_cons_of_mem _ (List.mem_cons_of_mem _ (List.mem_cons_of_mem _ (List.mem_cons_of_mem _ (List.mem_cons_of_mem _ (List.mem_cons_of_mem _ List.mem_cons_self)))))))) (List.mem_cons_of_mem _ (List.mem_cons_of_mem _ (List.mem_cons_of_mem _ (List.mem_cons_of_mem _ (List.mem_cons_of_mem _ (List.mem_cons_of_mem _ (List.mem_cons_of_mem _ (List.mem_cons_of_mem _ (List.mem_cons_of_mem _ List.mem_cons_self))))))))) Ef.out) rfl).mono ?_
          rintro e w65 ⟨rfl, hb⟩
          have S66 := Lib.hid (S64.out.later hb)
          clear hb S64
          obtain ⟨t41_0, t41_1, t41_2, t41_3⟩ := (S66.out.box _ (List.mem_cons_of_mem _ (List.mem_cons_of_mem _ (List.mem_cons_of_mem _ List.mem_cons_self))) : Fb (w53.heap.size, 26, [.int .i64 s53, .slice a53 n53 c53, .int .i64 1, .slice b53 m53 d53]) _).cells4
          obtain ⟨t42_0, t42_1, t42_2, t42_3⟩ := (S66.out.box _ (List.mem_cons_of_mem _ (List.mem_cons_of_mem _ (List.mem_cons_of_mem _ (List.mem_cons_of_mem _ (List.mem_cons_of_mem _ (List.mem_cons_of_mem _ List.mem_cons_self)))))) : Fb (w.heap.size, 26, [.int .i64 sf, .slice af nf cf, .int .i64 1, .slice bf mf df]) _).cells4
          go_wp2_with fail
          clear t41_0 t41_1 t41_2 t41_3 t42_0 t42_1 t42_2 t42_3
          refine (rfsame_t (S66.out.fr (v := .slice a53 n53 c53) (u := .slice b53 m53 d53) (r := qf) (List.mem_cons_of_mem _ (List.mem_cons_of_mem _ (List.mem_cons_of_mem _ (List.mem_cons_of_mem _ List.mem_cons_self)))) (List.mem_cons_of_mem _ (List.mem_cons_of_mem _ (List.mem_cons_of_mem _ (List.mem_cons_of_mem _ (List.mem_cons_of_mem _ List.mem_cons_self))))) E53.out) (S66.out.fr (v := .slice af nf cf) (u := .slice bf mf df) (r := qf) (List.mem_cons_of_mem _ (List.mem_cons_of_mem _ (List.mem_cons_of_mem _ (List.mem_cons_of_mem _ (List.mem_cons_of_mem _ (List.mem_cons_of_mem _ (List.mem_cons_of_mem _ (List.mem_cons_of_mem _ List.mem_cons_self)))))))) (List.mem_cons_of_mem _ (List.mem_cons_of_mem _ (List.mem_cons_of_mem _ (List.mem_cons_of_mem _ (List.mem_cons_of_mem _ (List.mem_cons_of_mem _ (List.mem_cons_of_mem _ (List.mem_cons_of_mem _ (List.mem_cons_of_mem _ List.mem_cons_self))))))))) Ef.out) rfl).mono ?_
          rintro e w67 ⟨rfl, hb⟩
          have S68 := Lib.hid (S66.out.later hb)
          clear hb S66
          obtain ⟨t43_0, t43_1, t43_2, t43_3⟩ := (S68.out.box _ List.mem_cons_self : Fb (w63.heap.size, 26, [.int .i64 s63, .slice a63 n63 c63, .int .i64 1, .slice b63 m63 d63]) _).cells4
          obtain ⟨t44_0, t44_1, t44_2, t44_3⟩ := (S68.out.box _ (List.mem_cons_of_mem _ (List.mem_cons_of_mem _ (List.mem_cons_of_mem _ (List.mem_cons_of_mem _ (List.mem_cons_of_mem _ (List.mem_cons_of_mem _ List.mem_cons_self)))))) : Fb (w.heap.size, 26, [.int .i64 sf, .slice af nf cf, .int .i64 1, .slice bf mf df]) _).cells4
          go_wp2_with fail
          clear t43_0 t43_1 t43_2 t43_3 t44_0 t44_1 t44_2 t44_3
          refine (rfsame_t (S68.out.fr (v := .slice a63 n63 c63) (u := .slice b63 m63 d63) (r := qf) List.mem_cons_self (List.mem_cons_of_mem _ List.mem_cons_self) E63.out) (S68.out.fr (v := .slice af nf cf) (u := .slice bf mf df) (r := qf) (List.mem_cons_of_mem _ (List.mem_cons_of_mem _ (List.mem_cons_of_mem _ (List.mem_cons_of_mem _ (List.mem_cons_of_mem _ (List.mem_cons_of_mem _ (List.mem_cons_of_mem _ (List.mem_cons_of_mem _ List.mem_cons_self)))))))) (List.mem_cons_of_mem _ (List.mem_cons_of_mem _ (List.mem_cons_of_mem _ (List.mem_cons_of_mem _ (List.mem_cons_of_mem _ (List.mem_cons_of_mem _ (List.mem_cons_of_mem _ (List.mem_cons_of_mem _ (List.mem_cons_of_mem _ List.mem_cons_self))))))))) Ef.out) rfl).mono ?_
          rintro e w69 ⟨rfl, hb⟩
          have S70 := Lib.hid (S68.out.later hb)
          clear hb S68
          go_wp2_with fail
          go_ret
          exact ⟨rfl, S70.out.below⟩

set_option maxHeartbeats 4000000 in
theorem FracBack_long (sf : Int) (af : Option Addr) (nf cf : Nat) (tf : Int) (bf : Option Addr) (mf df : Nat) (iv : Int) (zs : ByteArray) (w : World) (he : EnvF w) (hf : nf ≤ 9223372036854775807) (gf : mf ≤ 9223372036854775807) (_hzs : zs.size ≤ 9223372036854775807) (hno : ¬ ((nf ≤ 40 ∧ mf ≤ 40))) :
    Calls Tryz.prog 6 #[.agg #[.int .i64 sf, .slice af nf cf, .int .i64 tf, .slice bf mf df], .int .i64 iv, .string zs] w fun e w' => e = .returned (.bool true) ∧ RowKit.Below w.heap.size w w' := by
  have HE := Lib.hid he
  have HNO := Lib.hid hno
  have Hf := Lib.hid hf
  have Gf := Lib.hid gf
  obtain ⟨ff, hff⟩ : ∃ b, (decide ((nf : Int) ≤ 40) && decide ((mf : Int) ≤ 40)) = b := ⟨_, rfl⟩
  have FWf := Lib.hid hff
  clear hf gf hff
  have S0 := Lib.hid (((Sf.start w)).put [.int .i64 sf, .slice af nf cf, .int .i64 tf, .slice bf mf df] 26)
  clear he hno
  go_enter Tryz.func6, Tryz.ntmps6
  go_wp2_with fail
  refine (lsmall_k _ (S0.out.envF HE.out)).mono ?_
  rintro e w1 ⟨rfl, hb⟩
  have S2 := Lib.hid (S0.out.later hb)
  clear hb S0
  obtain ⟨t1_0, t1_1, t1_2, t1_3⟩ := (S2.out.box _ List.mem_cons_self : Fb (w.heap.size, 26, [.int .i64 sf, .slice af nf cf, .int .i64 tf, .slice bf mf df]) _).cells4
  go_wp2_with fail
  clear t1_0 t1_1 t1_2 t1_3
  refine (ffew_len sf af nf cf tf bf mf df 40 _ Hf.out Gf.out ff FWf.out).mono ?_
  rintro e w3 ⟨rfl, hb⟩
  have S4 := Lib.hid (S2.out.later hb)
  clear hb S2
  cases ff
  case false =>
    go_wp2_with fail
    go_ret
    exact ⟨rfl, S4.out.below⟩
  exact absurd (few_nat FWf.out) HNO.out

end Go.Proofs.YtbbjogkapcakpaaGreatDoor.Bi
