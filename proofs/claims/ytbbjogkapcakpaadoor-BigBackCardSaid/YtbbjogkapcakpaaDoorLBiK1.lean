/- The contract of BigBack. -/
import Derived.Test.YtbbjogkapcakpaaDoorLBi36
set_option maxRecDepth 100000
namespace Go.Proofs.YtbbjogkapcakpaaDoor.Bi
open Go.RowKit

set_option maxHeartbeats 8000000 in
theorem BigBack_any (sa : Int) (aa : Option Addr) (na ca : Nat) (la : List Int) (s : ByteArray) (w : World) (he : Env w) (ha : Ints w (.slice aa na ca) la) (hs : s.size ≤ 9223372036854775807) :
    Calls Tryd.prog 6 #[.agg #[.int .i64 sa, .slice aa na ca], .string s] w fun e w' => e = .returned (.bool true) ∧ RowKit.Below w.heap.size w w' := by
  have HE := Lib.hid he
  have S0 := Lib.hid ((Sq.start w).arg (sg := sa) ha)
  obtain ⟨fa, hfa⟩ : ∃ b, decide ((la.length : Int) ≤ 60) = b := ⟨_, rfl⟩
  obtain ⟨ra, hra⟩ : ∃ b, rightB sa la = b := ⟨_, rfl⟩
  have Fa := Lib.hid hfa
  have Ra := Lib.hid hra
  clear he ha hfa hra
  by_cases h4 : s.size ≤ 400
  case neg =>
    go_enter Tryd.func6, Tryd.ntmps6
    go_wp2_with fail
    refine (small_any _ (S0.out.env HE.out)).mono ?_
    rintro e w1 ⟨rfl, hb⟩
    have S2 := Lib.hid (S0.out.later hb)
    clear S0
    clear hb
    go_wp2_with fail
    go_ret
    exact ⟨rfl, S2.out.below⟩
  case pos =>
    have HS4 := Lib.hid h4
    go_enter Tryd.func6, Tryd.ntmps6
    go_wp2_with fail
    refine (small_any _ (S0.out.env HE.out)).mono ?_
    rintro e w3 ⟨rfl, hb⟩
    have S4 := Lib.hid (S0.out.later hb)
    clear S0
    clear hb
    obtain ⟨t1, u1⟩ := (S4.out.box (w.heap.size, sa, .slice aa na ca, la) List.mem_cons_self).cells
    go_wp2_with fail
    clear t1 u1
    refine (few_any sa _ la 60 _ (S4.out.box (w.heap.size, sa, .slice aa na ca, la) List.mem_cons_self).2 fa Fa.out).mono ?_
    rintro e w5 ⟨rfl, hb⟩
    have S6 := Lib.hid (S4.out.later hb)
    clear S4
    clear hb
    cases fa
    case false =>
      go_wp2_with fail
      go_ret
      exact ⟨rfl, S6.out.below⟩
    rcases hr : readS s.data.toList with _ | zb
    case none =>
      have HR := Lib.hid hr
      clear hr
      go_wp2_with fail
      refine (read_no HR.out (by have := HS4.out; omega) _).mono ?_
      rintro e w7 ⟨s7, a7, n7, c7, rfl, hn, hb, hf⟩
      have S7 := Lib.hid (S6.out.ret (sg := s7) hb hn.2 hf)
      have E7 := Lib.hid hn.1
      clear hn hb hf S6
      obtain ⟨t2, u2⟩ := (S7.out.box (w7.heap.size, s7, .slice a7 n7 c7, digs (0 : Int).natAbs) List.mem_cons_self).cells
      go_wp2_with fail
      clear t2 u2
      refine (same_t ((S7.out.box (w7.heap.size, s7, .slice a7 n7 c7, digs (0 : Int).natAbs) List.mem_cons_self).num E7.out) (num_nil _) rfl).mono ?_
      rintro e w8 ⟨rfl, hb⟩
      have S9 := Lib.hid (S7.out.later hb)
      clear S7
      clear hb
      obtain ⟨t3, u3⟩ := (S9.out.box (w.heap.size, sa, .slice aa na ca, la) (List.mem_cons_of_mem _ List.mem_cons_self)).cells
      go_wp2_with fail
      clear t3 u3
      refine (right_b ⟨_, rfl, (S9.out.box (w.heap.size, sa, .slice aa na ca, la) (List.mem_cons_of_mem _ List.mem_cons_self)).2⟩ Ra.out).mono ?_
      rintro e w10 ⟨rfl, hb⟩
      have S11 := Lib.hid (S9.out.later hb)
      clear S9
      clear hb
      cases ra
      case false =>
        obtain ⟨t4, u4⟩ := (S11.out.box (w.heap.size, sa, .slice aa na ca, la) (List.mem_cons_of_mem _ List.mem_cons_self)).cells
        go_wp2_with fail
        clear t4 u4
        refine (text_bad _ sa la _ ⟨_, rfl, (S11.out.box (w.heap.size, sa, .slice aa na ca, la) (List.mem_cons_of_mem _ List.mem_cons_self)).2⟩ Ra.out).mono ?_
        rintro e w12 ⟨rfl, hb⟩
        have S13 := Lib.hid (S11.out.later hb)
        clear S11
        clear hb
        go_wp2_with fail
        go_ret
        exact ⟨rfl, S13.out.below⟩
      case true =>
        obtain ⟨za, ea, rfl⟩ := right_of Ra.out
        have Ea := Lib.hid ea
        have Za : Hid (Sz 60 za) := Sz.fits Fa.out rfl rfl
        clear ea Fa Ra
        obtain ⟨t, ht⟩ : ∃ t : ByteArray, t = ⟨(Go.Lib.itoa za).toArray⟩ := ⟨_, rfl⟩
        have ht1 : Go.Lib.itoa za = t.data.toList := by rw [ht]
        have hlen := itoa_size Za.out (by omega)
        have hsz : t.size ≤ 421 := by rw [ht, size_of]; exact hlen
        have T1 := Lib.hid ht1
        have TR : Hid (readS t.data.toList = some za) := Lib.hid (show readS t.data.toList = some za by rw [← ht1]; exact read_itoa _)
        have HT := Lib.hid ht
        have HSZ : Hid (t.size ≤ 100000) := Nat.le_trans hsz (by omega)
        have HSZ1 := Lib.hid hsz
        clear ht ht1 hlen hsz
        obtain ⟨t5, u5⟩ := (S11.out.box (w.heap.size, sa, .slice aa na ca, digs (za : Int).natAbs) (List.mem_cons_of_mem _ List.mem_cons_self)).cells
        go_wp2_with fail
        clear t5 u5
        refine (text_s ((S11.out.box (w.heap.size, sa, .slice aa na ca, digs (za : Int).natAbs) (List.mem_cons_of_mem _ List.mem_cons_self)).num Ea.out) (Sz.len Za.out) (S11.out.env HE.out) T1.out).mono ?_
        rintro e w14 ⟨rfl, hb⟩
        have S15 := Lib.hid (S11.out.later hb)
        clear S11
        clear hb
        go_wp2_with fail
        refine (read_s TR.out HSZ.out _).mono ?_
        rintro e w16 ⟨s16, a16, n16, c16, rfl, hn, hb, hf⟩
        have S16 := Lib.hid (S15.out.ret (sg := s16) hb hn.2 hf)
        have E16 := Lib.hid hn.1
        clear hn hb hf S15
        obtain ⟨t6, u6⟩ := (S16.out.box (w16.heap.size, s16, .slice a16 n16 c16, digs (za : Int).natAbs) List.mem_cons_self).cells
        obtain ⟨t7, u7⟩ := (S16.out.box (w.heap.size, sa, .slice aa na ca, digs (za : Int).natAbs) (List.mem_cons_of_mem _ (List.mem_cons_of_mem _ List.mem_cons_self))).cells
        go_wp2_with fail
        clear t6 u6 t7 u7
        refine (same_t ((S16.out.box (w16.heap.size, s16, .slice a16 n16 c16, digs (za : Int).natAbs) List.mem_cons_self).num E16.out) ((S16.out.box (w.heap.size, sa, .slice aa na ca, digs (za : Int).natAbs) (List.mem_cons_of_mem _ (List.mem_cons_of_mem _ List.mem_cons_self))).num Ea.out) rfl).mono ?_
        rintro e w17 ⟨rfl, hb⟩
        have S18 := Lib.hid (S16.out.later hb)
        clear S16
        clear hb
        have hz := Int.lt_trichotomy za 0
        rcases hz with hz | hz | hz
        case inl =>
          have HZ := Lib.hid hz
          have HN : Hid (za ≠ 0) := by have := HZ.out; show za ≠ 0; omega
          obtain rfl : sa = -1 := Ea.out.trans (Int.sign_eq_neg_one_of_neg HZ.out)
          clear hz
          have hcat : ∀ W : World, (Op.stringOp .add t ⟨#[55]⟩).run Tryd.prog W = .ok (.string (t ++ ⟨#[55]⟩)) W := fun W => run_string_add_sum W _ _ (by have := HSZ1.out; show t.size + 1 ≤ _; omega)
          have R7 : Hid (readS (t ++ ⟨#[55]⟩ : ByteArray).data.toList = some (za * 10 + -7)) := Lib.hid (show _ = _ by have h := read_seven HN.out; rw [show za.sign = -1 from Int.sign_eq_neg_one_of_neg HZ.out] at h; rw [T1.out] at h; rw [ByteArray.data_append, Array.toList_append]; exact h)
          have L7 : Hid ((t ++ ⟨#[55]⟩ : ByteArray).size ≤ 100000) := Lib.hid (show _ ≤ _ by have := HSZ1.out; rw [ByteArray.size_append]; show t.size + 1 ≤ _; omega)
          obtain ⟨t8, u8⟩ := (S18.out.box (w.heap.size, (-1 : Int), .slice aa na ca, digs (za : Int).natAbs) (List.mem_cons_of_mem _ (List.mem_cons_of_mem _ List.mem_cons_self))).cells
          go_upto_region 15 with fail
          clear t8 u8
          go_cut [11, 12] from 91 to 96 (fun u v wx => v = .int .i64 0 ∧ Hid (∃ g s a n c, u = .pointer (some ⟨g, 0, none⟩) ∧ s = ((za * 10) : Int).sign ∧ Sq w ((g, s, .slice a n c, digs ((za * 10) : Int).natAbs) :: [(w16.heap.size, s16, .slice a16 n16 c16, digs (za : Int).natAbs), (w7.heap.size, s7, .slice a7 n7 c7, digs (0 : Int).natAbs), (w.heap.size, (-1 : Int), .slice aa na ca, digs (za : Int).natAbs)]) wx))
          case first =>
            have SD := Lib.hid S18.out.drew
            have SZ := Lib.hid S18.out.zero.drew
            have ex := (SD.out.box (w.heap.size, (-1 : Int), .slice aa na ca, digs (za : Int).natAbs) (List.mem_cons_of_mem _ (List.mem_cons_of_mem _ List.mem_cons_self))).cells
            have ez := (SZ.out.box (w.heap.size, (-1 : Int), .slice aa na ca, digs (za : Int).natAbs) (List.mem_cons_of_mem _ (List.mem_cons_of_mem _ (List.mem_cons_of_mem _ List.mem_cons_self)))).cells
            have HB : Hid (-9223372036854775808 ≤ (10 : Int) ∧ (10 : Int) ≤ 9223372036854775807) := ⟨by omega, by omega⟩
            have HK : Hid (Len 100000 10) := Len.of (by decide)
            have HX : Hid (Len 100000 za) := Sz.len Za.out
            clear S18
            go_region_held3 (fun W => W.cell? ⟨w.heap.size, 0, none⟩ = some (.int .i64 (-1 : Int)) ∧ W.cell? ⟨w.heap.size, 1, none⟩ = some (.slice aa na ca))
              (first | (with_reducible exact ex) | (with_reducible exact ez) | (with_reducible exact xa) | (with_reducible exact xaz) | (with_reducible exact xb) | (with_reducible exact xc) | (with_reducible exact xcz) | (with_reducible exact xcr) | (with_reducible exact xd) | (with_reducible exact xds) | (with_reducible exact xe) | (with_reducible exact xes) | go_keep)
              (first
                | (go_at_call 33; (with_reducible refine (of_k 10 HB.out _).mono ?_); rintro e wa ⟨sk, ak, nk, ck, rfl, hn, hb, hf⟩; have SA := Lib.hid (SD.out.later hb); have xa := (SA.out.box (w.heap.size, (-1 : Int), .slice aa na ca, digs (za : Int).natAbs) (List.mem_cons_of_mem _ (List.mem_cons_of_mem _ List.mem_cons_self))).cells; have SAZ := Lib.hid SA.out.zero; have xaz := (SAZ.out.box (w.heap.size, (-1 : Int), .slice aa na ca, digs (za : Int).natAbs) (List.mem_cons_of_mem _ (List.mem_cons_of_mem _ (List.mem_cons_of_mem _ List.mem_cons_self)))).cells; have NA := Lib.hid hn; clear hn hb hf)
                | (go_at_call 33; (with_reducible refine (of_k 10 HB.out _).mono ?_); rintro e wb ⟨sk, ak, nk, ck, rfl, hn, hb, hf⟩; have SB := Lib.hid (SZ.out.later hb); have xb := (SB.out.box (w.heap.size, (-1 : Int), .slice aa na ca, digs (za : Int).natAbs) (List.mem_cons_of_mem _ (List.mem_cons_of_mem _ (List.mem_cons_of_mem _ List.mem_cons_self)))).cells; have NB := Lib.hid hn; clear hn hb hf)
                | (go_at_call 13; (with_reducible refine (mul_k ((SA.out.box (w.heap.size, (-1 : Int), .slice aa na ca, digs (za : Int).natAbs) (List.mem_cons_of_mem _ (List.mem_cons_of_mem _ List.mem_cons_self))).num Ea.out) NA.out HX.out HK.out).mono ?_); rintro e wc1 ⟨sr, ar, nr, cr, rfl, hn, hb, hf⟩; have SC := Lib.hid (SA.out.later hb); have xc := (SC.out.box (w.heap.size, (-1 : Int), .slice aa na ca, digs (za : Int).natAbs) (List.mem_cons_of_mem _ (List.mem_cons_of_mem _ List.mem_cons_self))).cells; have xcz := (SC.out.zero.box (w.heap.size, (-1 : Int), .slice aa na ca, digs (za : Int).natAbs) (List.mem_cons_of_mem _ (List.mem_cons_of_mem _ (List.mem_cons_of_mem _ List.mem_cons_self)))).cells; have RC := Lib.hid (SA.out.ret (sg := sr) hb hn.2 hf); have xcr := (RC.out.box (w.heap.size, (-1 : Int), .slice aa na ca, digs (za : Int).natAbs) (List.mem_cons_of_mem _ (List.mem_cons_of_mem _ (List.mem_cons_of_mem _ List.mem_cons_self)))).cells; have EC := Lib.hid hn.1; clear hn hb hf)
                | (go_at_call 13; (with_reducible refine (mul_k ((SAZ.out.box (w.heap.size, (-1 : Int), .slice aa na ca, digs (za : Int).natAbs) (List.mem_cons_of_mem _ (List.mem_cons_of_mem _ (List.mem_cons_of_mem _ List.mem_cons_self)))).num Ea.out) (NA.out.later (below_alloc _ _)) HX.out HK.out).mono ?_); rintro e wd ⟨sr, ar, nr, cr, rfl, hn, hb, hf⟩; have xx := ((SAZ.out.later hb).box (w.heap.size, (-1 : Int), .slice aa na ca, digs (za : Int).natAbs) (List.mem_cons_of_mem _ (List.mem_cons_of_mem _ (List.mem_cons_of_mem _ List.mem_cons_self)))).cells; obtain ⟨z1, z2⟩ := ((SAZ.out.later hb).box (wa.heap.size, 0, .slice none 0 0, []) List.mem_cons_self).cells; obtain ⟨z3, z4⟩ := ((SAZ.out.later hb).box (wa.heap.size, 0, .slice none 0 0, []) List.mem_cons_self).free; have Rd : Hid (Sq w ((wa.heap.size, sr, .slice ar nr cr, digs ((za * 10) : Int).natAbs) :: [(w16.heap.size, s16, .slice a16 n16 c16, digs (za : Int).natAbs), (w7.heap.size, s7, .slice a7 n7 c7, digs (0 : Int).natAbs), (w.heap.size, (-1 : Int), .slice aa na ca, digs (za : Int).natAbs)]) _) := Lib.hid (Sq.setb (b := wa.heap.size) (pre := []) SAZ.out hb (sg' := sr) hn.2 hf); have xds := (Rd.out.box (w.heap.size, (-1 : Int), .slice aa na ca, digs (za : Int).natAbs) (List.mem_cons_of_mem _ (List.mem_cons_of_mem _ (List.mem_cons_of_mem _ List.mem_cons_self)))).cells; have xd := xx; have ED := Lib.hid hn.1; clear hn hb hf xx)
                | (go_at_call 13; (with_reducible refine (mul_k ((SB.out.box (w.heap.size, (-1 : Int), .slice aa na ca, digs (za : Int).natAbs) (List.mem_cons_of_mem _ (List.mem_cons_of_mem _ (List.mem_cons_of_mem _ List.mem_cons_self)))).num Ea.out) NB.out HX.out HK.out).mono ?_); rintro e we ⟨sr, ar, nr, cr, rfl, hn, hb, hf⟩; have xx := ((SB.out.later hb).box (w.heap.size, (-1 : Int), .slice aa na ca, digs (za : Int).natAbs) (List.mem_cons_of_mem _ (List.mem_cons_of_mem _ (List.mem_cons_of_mem _ List.mem_cons_self)))).cells; obtain ⟨z1, z2⟩ := ((SB.out.later hb).box (w17.heap.size, 0, .slice none 0 0, []) List.mem_cons_self).cells; obtain ⟨z3, z4⟩ := ((SB.out.later hb).box (w17.heap.size, 0, .slice none 0 0, []) List.mem_cons_self).free; have Re : Hid (Sq w ((w17.heap.size, sr, .slice ar nr cr, digs ((za * 10) : Int).natAbs) :: [(w16.heap.size, s16, .slice a16 n16 c16, digs (za : Int).natAbs), (w7.heap.size, s7, .slice a7 n7 c7, digs (0 : Int).natAbs), (w.heap.size, (-1 : Int), .slice aa na ca, digs (za : Int).natAbs)]) _) := Lib.hid (Sq.setb (b := w17.heap.size) (pre := []) SB.out hb (sg' := sr) hn.2 hf); have xes := (Re.out.box (w.heap.size, (-1 : Int), .slice aa na ca, digs (za : Int).natAbs) (List.mem_cons_of_mem _ (List.mem_cons_of_mem _ (List.mem_cons_of_mem _ List.mem_cons_self)))).cells; have xe := xx; have EE := Lib.hid hn.1; clear hn hb hf xx))
            all_goals (go_wp2_with fail; go_meet; refine ⟨rfl, ?_⟩; first | exact ⟨_, _, _, _, _, rfl, EC.out, RC.out⟩ | exact ⟨_, _, _, _, _, rfl, ED.out, Rd.out⟩ | exact ⟨_, _, _, _, _, rfl, EE.out, Re.out⟩)
          case rest =>
          obtain ⟨rfl, hq⟩ := hcut
          obtain ⟨g19, s19, a19, n19, c19, rfl, e19, h19⟩ := hq.out
          obtain ⟨w19, rfl⟩ : ∃ W, W = wc := ⟨_, rfl⟩
          have S19 := Lib.hid h19
          have E19 := Lib.hid e19
          clear hq e19 h19 S18
          obtain ⟨t9, u9⟩ := (S19.out.box (g19, s19, .slice a19 n19 c19, digs ((za * 10) : Int).natAbs) List.mem_cons_self).cells
          obtain ⟨t10, u10⟩ := (S19.out.box (w.heap.size, (-1 : Int), .slice aa na ca, digs (za : Int).natAbs) (List.mem_cons_of_mem _ (List.mem_cons_of_mem _ (List.mem_cons_of_mem _ List.mem_cons_self)))).cells
          go_upto_region 16 with fail
          clear t9 u9 t10 u10
          go_cut [13, 14] from 97 to 105 (fun u v wx => v = .int .i64 0 ∧ Hid (∃ g s a n c, u = .pointer (some ⟨g, 0, none⟩) ∧ s = ((za * 10 + -7) : Int).sign ∧ Sq w ((g, s, .slice a n c, digs ((za * 10 + -7) : Int).natAbs) :: [(g19, s19, .slice a19 n19 c19, digs ((za * 10) : Int).natAbs), (w16.heap.size, s16, .slice a16 n16 c16, digs (za : Int).natAbs), (w7.heap.size, s7, .slice a7 n7 c7, digs (0 : Int).natAbs), (w.heap.size, (-1 : Int), .slice aa na ca, digs (za : Int).natAbs)]) wx))
          case first =>
            have SD := Lib.hid S19.out.drew
            have SZ := Lib.hid S19.out.zero.drew
            have HB7 : Hid (-9223372036854775808 ≤ (-7 : Int) ∧ (-7 : Int) ≤ 9223372036854775807) := ⟨by omega, by omega⟩
            have HX7 : Hid (Len 100000 (za * 10)) := Sz.len (Sz.mul Za.out (Sz.small (z := 10) (by decide)))
            have HKS : Hid (Len 100000 (-7)) := Len.of (by decide)
            have K0 : ∀ W, Sq w [(g19, s19, .slice a19 n19 c19, digs ((za * 10) : Int).natAbs), (w16.heap.size, s16, .slice a16 n16 c16, digs (za : Int).natAbs), (w7.heap.size, s7, .slice a7 n7 c7, digs (0 : Int).natAbs), (w.heap.size, (-1 : Int), .slice aa na ca, digs (za : Int).natAbs)] W → W.cell? ⟨g19, 0, none⟩ = some (.int .i64 s19) ∧ W.cell? ⟨g19, 1, none⟩ = some (.slice a19 n19 c19) ∧ W.cell? ⟨w.heap.size, 0, none⟩ = some (.int .i64 (-1 : Int)) ∧ W.cell? ⟨w.heap.size, 1, none⟩ = some (.slice aa na ca) := fun W h => ⟨(h.box (g19, s19, .slice a19 n19 c19, digs ((za * 10) : Int).natAbs) List.mem_cons_self).cells.1, (h.box (g19, s19, .slice a19 n19 c19, digs ((za * 10) : Int).natAbs) List.mem_cons_self).cells.2, (h.box (w.heap.size, (-1 : Int), .slice aa na ca, digs (za : Int).natAbs) (List.mem_cons_of_mem _ (List.mem_cons_of_mem _ (List.mem_cons_of_mem _ List.mem_cons_self)))).cells.1, (h.box (w.heap.size, (-1 : Int), .slice aa na ca, digs (za : Int).natAbs) (List.mem_cons_of_mem _ (List.mem_cons_of_mem _ (List.mem_cons_of_mem _ List.mem_cons_self)))).cells.2⟩
            have KK := Lib.hid K0
            clear K0
            have K0 : ∀ W x, Sq w (x :: [(g19, s19, .slice a19 n19 c19, digs ((za * 10) : Int).natAbs), (w16.heap.size, s16, .slice a16 n16 c16, digs (za : Int).natAbs), (w7.heap.size, s7, .slice a7 n7 c7, digs (0 : Int).natAbs), (w.heap.size, (-1 : Int), .slice aa na ca, digs (za : Int).natAbs)]) W → W.cell? ⟨g19, 0, none⟩ = some (.int .i64 s19) ∧ W.cell? ⟨g19, 1, none⟩ = some (.slice a19 n19 c19) ∧ W.cell? ⟨w.heap.size, 0, none⟩ = some (.int .i64 (-1 : Int)) ∧ W.cell? ⟨w.heap.size, 1, none⟩ = some (.slice aa na ca) := fun W x h => ⟨(h.box (g19, s19, .slice a19 n19 c19, digs ((za * 10) : Int).natAbs) (List.mem_cons_of_mem _ List.mem_cons_self)).cells.1, (h.box (g19, s19, .slice a19 n19 c19, digs ((za * 10) : Int).natAbs) (List.mem_cons_of_mem _ List.mem_cons_self)).cells.2, (h.box (w.heap.size, (-1 : Int), .slice aa na ca, digs (za : Int).natAbs) (List.mem_cons_of_mem _ (List.mem_cons_of_mem _ (List.mem_cons_of_mem _ (List.mem_cons_of_mem _ List.mem_cons_self))))).cells.1, (h.box (w.heap.size, (-1 : Int), .slice aa na ca, digs (za : Int).natAbs) (List.mem_cons_of_mem _ (List.mem_cons_of_mem _ (List.mem_cons_of_mem _ (List.mem_cons_of_mem _ List.mem_cons_self))))).cells.2⟩
            have KU := Lib.hid K0
            clear K0
            have ex := KK.out _ SD.out
            have ez := KU.out _ _ SZ.out
            clear S19
            go_region_held3 (fun W => W.cell? ⟨g19, 0, none⟩ = some (.int .i64 s19) ∧ W.cell? ⟨g19, 1, none⟩ = some (.slice a19 n19 c19) ∧ W.cell? ⟨w.heap.size, 0, none⟩ = some (.int .i64 (-1 : Int)) ∧ W.cell? ⟨w.heap.size, 1, none⟩ = some (.slice aa na ca))
              (first | (with_reducible exact ex) | (with_reducible exact ez) | (with_reducible exact xa) | (with_reducible exact xaz) | (with_reducible exact xb) | (with_reducible exact xc) | (with_reducible exact xcz) | (with_reducible exact xcr) | (with_reducible exact xd) | (with_reducible exact xds) | (with_reducible exact xe) | (with_reducible exact xes) | go_keep)
              (first
                | (go_at_call 33; (with_reducible refine (of_v (z := -7) ?_ HB7.out _).mono ?_); (focus (decide +kernel)); rintro e wa ⟨sk, ak, nk, ck, rfl, hn, hb, hf⟩; have SA := Lib.hid (SD.out.later hb); have xa := KK.out _ SA.out; have SAZ := Lib.hid SA.out.zero; have xaz := KU.out _ _ SAZ.out; have NA := Lib.hid hn; clear hn hb hf)
                | (go_at_call 33; (with_reducible refine (of_v (z := -7) ?_ HB7.out _).mono ?_); (focus (decide +kernel)); rintro e wb ⟨sk, ak, nk, ck, rfl, hn, hb, hf⟩; have SB := Lib.hid (SZ.out.later hb); have xb := KU.out _ _ SB.out; have NB := Lib.hid hn; clear hn hb hf)
                | (go_at_call 9; (with_reducible refine (add_k ((SA.out.box (g19, s19, .slice a19 n19 c19, digs ((za * 10) : Int).natAbs) List.mem_cons_self).num E19.out) NA.out HX7.out HKS.out).mono ?_); rintro e wc1 ⟨sr, ar, nr, cr, rfl, hn, hb, hf⟩; have SC := Lib.hid (SA.out.later hb); have xc := KK.out _ SC.out; have xcz := KU.out _ _ SC.out.zero; have RC := Lib.hid (SA.out.ret (sg := sr) hb hn.2 hf); have xcr := KU.out _ _ RC.out; have EC := Lib.hid hn.1; clear hn hb hf)
                | (go_at_call 9; (with_reducible refine (add_k ((SAZ.out.box (g19, s19, .slice a19 n19 c19, digs ((za * 10) : Int).natAbs) (List.mem_cons_of_mem _ List.mem_cons_self)).num E19.out) (NA.out.later (below_alloc _ _)) HX7.out HKS.out).mono ?_); rintro e wd ⟨sr, ar, nr, cr, rfl, hn, hb, hf⟩; have xx := KU.out _ _ (SAZ.out.later hb); obtain ⟨z1, z2⟩ := ((SAZ.out.later hb).box (wa.heap.size, 0, .slice none 0 0, []) List.mem_cons_self).cells; obtain ⟨z3, z4⟩ := ((SAZ.out.later hb).box (wa.heap.size, 0, .slice none 0 0, []) List.mem_cons_self).free; have Rd : Hid (Sq w ((wa.heap.size, sr, .slice ar nr cr, digs ((za * 10 + -7) : Int).natAbs) :: [(g19, s19, .slice a19 n19 c19, digs ((za * 10) : Int).natAbs), (w16.heap.size, s16, .slice a16 n16 c16, digs (za : Int).natAbs), (w7.heap.size, s7, .slice a7 n7 c7, digs (0 : Int).natAbs), (w.heap.size, (-1 : Int), .slice aa na ca, digs (za : Int).natAbs)]) _) := Lib.hid (Sq.setb (b := wa.heap.size) (pre := []) SAZ.out hb (sg' := sr) hn.2 hf); have xds := KU.out _ _ Rd.out; have xd := xx; have ED := Lib.hid hn.1; clear hn hb hf xx)
                | (go_at_call 9; (with_reducible refine (add_k ((SB.out.box (g19, s19, .slice a19 n19 c19, digs ((za * 10) : Int).natAbs) (List.mem_cons_of_mem _ List.mem_cons_self)).num E19.out) NB.out HX7.out HKS.out).mono ?_); rintro e we ⟨sr, ar, nr, cr, rfl, hn, hb, hf⟩; have xx := KU.out _ _ (SB.out.later hb); obtain ⟨z1, z2⟩ := ((SB.out.later hb).box (w19.heap.size, 0, .slice none 0 0, []) List.mem_cons_self).cells; obtain ⟨z3, z4⟩ := ((SB.out.later hb).box (w19.heap.size, 0, .slice none 0 0, []) List.mem_cons_self).free; have Re : Hid (Sq w ((w19.heap.size, sr, .slice ar nr cr, digs ((za * 10 + -7) : Int).natAbs) :: [(g19, s19, .slice a19 n19 c19, digs ((za * 10) : Int).natAbs), (w16.heap.size, s16, .slice a16 n16 c16, digs (za : Int).natAbs), (w7.heap.size, s7, .slice a7 n7 c7, digs (0 : Int).natAbs), (w.heap.size, (-1 : Int), .slice aa na ca, digs (za : Int).natAbs)]) _) := Lib.hid (Sq.setb (b := w19.heap.size) (pre := []) SB.out hb (sg' := sr) hn.2 hf); have xes := KU.out _ _ Re.out; have xe := xx; have EE := Lib.hid hn.1; clear hn hb hf xx))
            all_goals (go_wp2_with fail; go_meet; refine ⟨rfl, ?_⟩; first | exact ⟨_, _, _, _, _, rfl, EC.out, RC.out⟩ | exact ⟨_, _, _, _, _, rfl, ED.out, Rd.out⟩ | exact ⟨_, _, _, _, _, rfl, EE.out, Re.out⟩)
          case rest =>
          obtain ⟨rfl, hq⟩ := hcut
          obtain ⟨g20, s20, a20, n20, c20, rfl, e20, h20⟩ := hq.out
          obtain ⟨w20, rfl⟩ : ∃ W, W = wc := ⟨_, rfl⟩
          have S20 := Lib.hid h20
          have E20 := Lib.hid e20
          clear hq e20 h20 S19
          go_wp2_with fail
          refine (read_s R7.out L7.out _).mono ?_
          rintro e w21 ⟨s21, a21, n21, c21, rfl, hn, hb, hf⟩
          have S21 := Lib.hid (S20.out.ret (sg := s21) hb hn.2 hf)
          have E21 := Lib.hid hn.1
          clear hn hb hf S20
          obtain ⟨t11, u11⟩ := (S21.out.box (w21.heap.size, s21, .slice a21 n21 c21, digs ((za * 10 + -7) : Int).natAbs) List.mem_cons_self).cells
          obtain ⟨t12, u12⟩ := (S21.out.box (g20, s20, .slice a20 n20 c20, digs ((za * 10 + -7) : Int).natAbs) (List.mem_cons_of_mem _ List.mem_cons_self)).cells
          go_wp2_with fail
          clear t11 u11 t12 u12
          refine (same_t ((S21.out.box (w21.heap.size, s21, .slice a21 n21 c21, digs ((za * 10 + -7) : Int).natAbs) List.mem_cons_self).num E21.out) ((S21.out.box (g20, s20, .slice a20 n20 c20, digs ((za * 10 + -7) : Int).natAbs) (List.mem_cons_of_mem _ List.mem_cons_self)).num E20.out) rfl).mono ?_
          rintro e w22 ⟨rfl, hb⟩
          have S23 := Lib.hid (S21.out.later hb)
          clear S21
          clear hb
          go_wp2_with fail
          go_ret
          exact ⟨rfl, S23.out.below⟩
        case inr.inl =>
          subst hz
          obtain rfl : sa = 0 := Ea.out
          obtain rfl : t = ⟨#[48]⟩ := HT.out.trans (by decide +kernel)
          obtain ⟨t13, u13⟩ := (S18.out.box (w.heap.size, 0, .slice aa na ca, digs (0 : Int).natAbs) (List.mem_cons_of_mem _ (List.mem_cons_of_mem _ List.mem_cons_self))).cells
          go_wp2_with fail
          clear t13 u13
          go_ret
          exact ⟨rfl, S18.out.below⟩
        case inr.inr =>
          have HZ := Lib.hid hz
          have HN : Hid (za ≠ 0) := by have := HZ.out; show za ≠ 0; omega
          obtain rfl : sa = 1 := Ea.out.trans (Int.sign_eq_one_of_pos HZ.out)
          clear hz
          have hcat : ∀ W : World, (Op.stringOp .add t ⟨#[55]⟩).run Tryd.prog W = .ok (.string (t ++ ⟨#[55]⟩)) W := fun W => run_string_add_sum W _ _ (by have := HSZ1.out; show t.size + 1 ≤ _; omega)
          have R7 : Hid (readS (t ++ ⟨#[55]⟩ : ByteArray).data.toList = some (za * 10 + 7)) := Lib.hid (show _ = _ by have h := read_seven HN.out; rw [show za.sign = 1 from Int.sign_eq_one_of_pos HZ.out] at h; rw [T1.out] at h; rw [ByteArray.data_append, Array.toList_append]; exact h)
          have L7 : Hid ((t ++ ⟨#[55]⟩ : ByteArray).size ≤ 100000) := Lib.hid (show _ ≤ _ by have := HSZ1.out; rw [ByteArray.size_append]; show t.size + 1 ≤ _; omega)
          obtain ⟨t14, u14⟩ := (S18.out.box (w.heap.size, (1 : Int), .slice aa na ca, digs (za : Int).natAbs) (List.mem_cons_of_mem _ (List.mem_cons_of_mem _ List.mem_cons_self))).cells
          go_upto_region 15 with fail
          clear t14 u14
          go_cut [11, 12] from 91 to 96 (fun u v wx => v = .int .i64 0 ∧ Hid (∃ g s a n c, u = .pointer (some ⟨g, 0, none⟩) ∧ s = ((za * 10) : Int).sign ∧ Sq w ((g, s, .slice a n c, digs ((za * 10) : Int).natAbs) :: [(w16.heap.size, s16, .slice a16 n16 c16, digs (za : Int).natAbs), (w7.heap.size, s7, .slice a7 n7 c7, digs (0 : Int).natAbs), (w.heap.size, (1 : Int), .slice aa na ca, digs (za : Int).natAbs)]) wx))
          case first =>
            have SD := Lib.hid S18.out.drew
            have SZ := Lib.hid S18.out.zero.drew
            have ex := (SD.out.box (w.heap.size, (1 : Int), .slice aa na ca, digs (za : Int).natAbs) (List.mem_cons_of_mem _ (List.mem_cons_of_mem _ List.mem_cons_self))).cells
            have ez := (SZ.out.box (w.heap.size, (1 : Int), .slice aa na ca, digs (za : Int).natAbs) (List.mem_cons_of_mem _ (List.mem_cons_of_mem _ (List.mem_cons_of_mem _ List.mem_cons_self)))).cells
            have HB : Hid (-9223372036854775808 ≤ (10 : Int) ∧ (10 : Int) ≤ 9223372036854775807) := ⟨by omega, by omega⟩
            have HK : Hid (Len 100000 10) := Len.of (by decide)
            have HX : Hid (Len 100000 za) := Sz.len Za.out
            clear S18
            go_region_held3 (fun W => W.cell? ⟨w.heap.size, 0, none⟩ = some (.int .i64 (1 : Int)) ∧ W.cell? ⟨w.heap.size, 1, none⟩ = some (.slice aa na ca))
              (first | (with_reducible exact ex) | (with_reducible exact ez) | (with_reducible exact xa) | (with_reducible exact xaz) | (with_reducible exact xb) | (with_reducible exact xc) | (with_reducible exact xcz) | (with_reducible exact xcr) | (with_reducible exact xd) | (with_reducible exact xds) | (with_reducible exact xe) | (with_reducible exact xes) | go_keep)
              (first
                | (go_at_call 33; (with_reducible refine (of_k 10 HB.out _).mono ?_); rintro e wa ⟨sk, ak, nk, ck, rfl, hn, hb, hf⟩; have SA := Lib.hid (SD.out.later hb); have xa := (SA.out.box (w.heap.size, (1 : Int), .slice aa na ca, digs (za : Int).natAbs) (List.mem_cons_of_mem _ (List.mem_cons_of_mem _ List.mem_cons_self))).cells; have SAZ := Lib.hid SA.out.zero; have xaz := (SAZ.out.box (w.heap.size, (1 : Int), .slice aa na ca, digs (za : Int).natAbs) (List.mem_cons_of_mem _ (List.mem_cons_of_mem _ (List.mem_cons_of_mem _ List.mem_cons_self)))).cells; have NA := Lib.hid hn; clear hn hb hf)
                | (go_at_call 33; (with_reducible refine (of_k 10 HB.out _).mono ?_); rintro e wb ⟨sk, ak, nk, ck, rfl, hn, hb, hf⟩; have SB := Lib.hid (SZ.out.later hb); have xb := (SB.out.box (w.heap.size, (1 : Int), .slice aa na ca, digs (za : Int).natAbs) (List.mem_cons_of_mem _ (List.mem_cons_of_mem _ (List.mem_cons_of_mem _ List.mem_cons_self)))).cells; have NB := Lib.hid hn; clear hn hb hf)
                | (go_at_call 13; (with_reducible refine (mul_k ((SA.out.box (w.heap.size, (1 : Int), .slice aa na ca, digs (za : Int).natAbs) (List.mem_cons_of_mem _ (List.mem_cons_of_mem _ List.mem_cons_self))).num Ea.out) NA.out HX.out HK.out).mono ?_); rintro e wc1 ⟨sr, ar, nr, cr, rfl, hn, hb, hf⟩; have SC := Lib.hid (SA.out.later hb); have xc := (SC.out.box (w.heap.size, (1 : Int), .slice aa na ca, digs (za : Int).natAbs) (List.mem_cons_of_mem _ (List.mem_cons_of_mem _ List.mem_cons_self))).cells; have xcz := (SC.out.zero.box (w.heap.size, (1 : Int), .slice aa na ca, digs (za : Int).natAbs) (List.mem_cons_of_mem _ (List.mem_cons_of_mem _ (List.mem_cons_of_mem _ List.mem_cons_self)))).cells; have RC := Lib.hid (SA.out.ret (sg := sr) hb hn.2 hf); have xcr := (RC.out.box (w.heap.size, (1 : Int), .slice aa na ca, digs (za : Int).natAbs) (List.mem_cons_of_mem _ (List.mem_cons_of_mem _ (List.mem_cons_of_mem _ List.mem_cons_self)))).cells; have EC := Lib.hid hn.1; clear hn hb hf)
                | (go_at_call 13; (with_reducible refine (mul_k ((SAZ.out.box (w.heap.size, (1 : Int), .slice aa na ca, digs (za : Int).natAbs) (List.mem_cons_of_mem _ (List.mem_cons_of_mem _ (List.mem_cons_of_mem _ List.mem_cons_self)))).num Ea.out) (NA.out.later (below_alloc _ _)) HX.out HK.out).mono ?_); rintro e wd ⟨sr, ar, nr, cr, rfl, hn, hb, hf⟩; have xx := ((SAZ.out.later hb).box (w.heap.size, (1 : Int), .slice aa na ca, digs (za : Int).natAbs) (List.mem_cons_of_mem _ (List.mem_cons_of_mem _ (List.mem_cons_of_mem _ List.mem_cons_self)))).cells; obtain ⟨z1, z2⟩ := ((SAZ.out.later hb).box (wa.heap.size, 0, .slice none 0 0, []) List.mem_cons_self).cells; obtain ⟨z3, z4⟩ := ((SAZ.out.later hb).box (wa.heap.size, 0, .slice none 0 0, []) List.mem_cons_self).free; have Rd : Hid (Sq w ((wa.heap.size, sr, .slice ar nr cr, digs ((za * 10) : Int).natAbs) :: [(w16.heap.size, s16, .slice a16 n16 c16, digs (za : Int).natAbs), (w7.heap.size, s7, .slice a7 n7 c7, digs (0 : Int).natAbs), (w.heap.size, (1 : Int), .slice aa na ca, digs (za : Int).natAbs)]) _) := Lib.hid (Sq.setb (b := wa.heap.size) (pre := []) SAZ.out hb (sg' := sr) hn.2 hf); have xds := (Rd.out.box (w.heap.size, (1 : Int), .slice aa na ca, digs (za : Int).natAbs) (List.mem_cons_of_mem _ (List.mem_cons_of_mem _ (List.mem_cons_of_mem _ List.mem_cons_self)))).cells; have xd := xx; have ED := Lib.hid hn.1; clear hn hb hf xx)
                | (go_at_call 13; (with_reducible refine (mul_k ((SB.out.box (w.heap.size, (1 : Int), .slice aa na ca, digs (za : Int).natAbs) (List.mem_cons_of_mem _ (List.mem_cons_of_mem _ (List.mem_cons_of_mem _ List.mem_cons_self)))).num Ea.out) NB.out HX.out HK.out).mono ?_); rintro e we ⟨sr, ar, nr, cr, rfl, hn, hb, hf⟩; have xx := ((SB.out.later hb).box (w.heap.size, (1 : Int), .slice aa na ca, digs (za : Int).natAbs) (List.mem_cons_of_mem _ (List.mem_cons_of_mem _ (List.mem_cons_of_mem _ List.mem_cons_self)))).cells; obtain ⟨z1, z2⟩ := ((SB.out.later hb).box (w17.heap.size, 0, .slice none 0 0, []) List.mem_cons_self).cells; obtain ⟨z3, z4⟩ := ((SB.out.later hb).box (w17.heap.size, 0, .slice none 0 0, []) List.mem_cons_self).free; have Re : Hid (Sq w ((w17.heap.size, sr, .slice ar nr cr, digs ((za * 10) : Int).natAbs) :: [(w16.heap.size, s16, .slice a16 n16 c16, digs (za : Int).natAbs), (w7.heap.size, s7, .slice a7 n7 c7, digs (0 : Int).natAbs), (w.heap.size, (1 : Int), .slice aa na ca, digs (za : Int).natAbs)]) _) := Lib.hid (Sq.setb (b := w17.heap.size) (pre := []) SB.out hb (sg' := sr) hn.2 hf); have xes := (Re.out.box (w.heap.size, (1 : Int), .slice aa na ca, digs (za : Int).natAbs) (List.mem_cons_of_mem _ (List.mem_cons_of_mem _ (List.mem_cons_of_mem _ List.mem_cons_self)))).cells; have xe := xx; have EE := Lib.hid hn.1; clear hn hb hf xx))
            all_goals (go_wp2_with fail; go_meet; refine ⟨rfl, ?_⟩; first | exact ⟨_, _, _, _, _, rfl, EC.out, RC.out⟩ | exact ⟨_, _, _, _, _, rfl, ED.out, Rd.out⟩ | exact ⟨_, _, _, _, _, rfl, EE.out, Re.out⟩)
          case rest =>
          obtain ⟨rfl, hq⟩ := hcut
          obtain ⟨g24, s24, a24, n24, c24, rfl, e24, h24⟩ := hq.out
          obtain ⟨w24, rfl⟩ : ∃ W, W = wc := ⟨_, rfl⟩
          have S24 := Lib.hid h24
          have E24 := Lib.hid e24
          clear hq e24 h24 S18
          obtain ⟨t15, u15⟩ := (S24.out.box (g24, s24, .slice a24 n24 c24, digs ((za * 10) : Int).natAbs) List.mem_cons_self).cells
          obtain ⟨t16, u16⟩ := (S24.out.box (w.heap.size, (1 : Int), .slice aa na ca, digs (za : Int).natAbs) (List.mem_cons_of_mem _ (List.mem_cons_of_mem _ (List.mem_cons_of_mem _ List.mem_cons_self)))).cells
          go_upto_region 16 with fail
          clear t15 u15 t16 u16
          go_cut [13, 14] from 97 to 105 (fun u v wx => v = .int .i64 0 ∧ Hid (∃ g s a n c, u = .pointer (some ⟨g, 0, none⟩) ∧ s = ((za * 10 + 7) : Int).sign ∧ Sq w ((g, s, .slice a n c, digs ((za * 10 + 7) : Int).natAbs) :: [(g24, s24, .slice a24 n24 c24, digs ((za * 10) : Int).natAbs), (w16.heap.size, s16, .slice a16 n16 c16, digs (za : Int).natAbs), (w7.heap.size, s7, .slice a7 n7 c7, digs (0 : Int).natAbs), (w.heap.size, (1 : Int), .slice aa na ca, digs (za : Int).natAbs)]) wx))
          case first =>
            have SD := Lib.hid S24.out.drew
            have SZ := Lib.hid S24.out.zero.drew
            have HB7 : Hid (-9223372036854775808 ≤ (7 : Int) ∧ (7 : Int) ≤ 9223372036854775807) := ⟨by omega, by omega⟩
            have HX7 : Hid (Len 100000 (za * 10)) := Sz.len (Sz.mul Za.out (Sz.small (z := 10) (by decide)))
            have HKS : Hid (Len 100000 (7)) := Len.of (by decide)
            have K0 : ∀ W, Sq w [(g24, s24, .slice a24 n24 c24, digs ((za * 10) : Int).natAbs), (w16.heap.size, s16, .slice a16 n16 c16, digs (za : Int).natAbs), (w7.heap.size, s7, .slice a7 n7 c7, digs (0 : Int).natAbs), (w.heap.size, (1 : Int), .slice aa na ca, digs (za : Int).natAbs)] W → W.cell? ⟨g24, 0, none⟩ = some (.int .i64 s24) ∧ W.cell? ⟨g24, 1, none⟩ = some (.slice a24 n24 c24) ∧ W.cell? ⟨w.heap.size, 0, none⟩ = some (.int .i64 (1 : Int)) ∧ W.cell? ⟨w.heap.size, 1, none⟩ = some (.slice aa na ca) := fun W h => ⟨(h.box (g24, s24, .slice a24 n24 c24, digs ((za * 10) : Int).natAbs) List.mem_cons_self).cells.1, (h.box (g24, s24, .slice a24 n24 c24, digs ((za * 10) : Int).natAbs) List.mem_cons_self).cells.2, (h.box (w.heap.size, (1 : Int), .slice aa na ca, digs (za : Int).natAbs) (List.mem_cons_of_mem _ (List.mem_cons_of_mem _ (List.mem_cons_of_mem _ List.mem_cons_self)))).cells.1, (h.box (w.heap.size, (1 : Int), .slice aa na ca, digs (za : Int).natAbs) (List.mem_cons_of_mem _ (List.mem_cons_of_mem _ (List.mem_cons_of_mem _ List.mem_cons_self)))).cells.2⟩
            have KK := Lib.hid K0
            clear K0
            have K0 : ∀ W x, Sq w (x :: [(g24, s24, .slice a24 n24 c24, digs ((za * 10) : Int).natAbs), (w16.heap.size, s16, .slice a16 n16 c16, digs (za : Int).natAbs), (w7.heap.size, s7, .slice a7 n7 c7, digs (0 : Int).natAbs), (w.heap.size, (1 : Int), .slice aa na ca, digs (za : Int).natAbs)]) W → W.cell? ⟨g24, 0, none⟩ = some (.int .i64 s24) ∧ W.cell? ⟨g24, 1, none⟩ = some (.slice a24 n24 c24) ∧ W.cell? ⟨w.heap.size, 0, none⟩ = some (.int .i64 (1 : Int)) ∧ W.cell? ⟨w.heap.size, 1, none⟩ = some (.slice aa na ca) := fun W x h => ⟨(h.box (g24, s24, .slice a24 n24 c24, digs ((za * 10) : Int).natAbs) (List.mem_cons_of_mem _ List.mem_cons_self)).cells.1, (h.box (g24, s24, .slice a24 n24 c24, digs ((za * 10) : Int).natAbs) (List.mem_cons_of_mem _ List.mem_cons_self)).cells.2, (h.box (w.heap.size, (1 : Int), .slice aa na ca, digs (za : Int).natAbs) (List.mem_cons_of_mem _ (List.mem_cons_of_mem _ (List.mem_cons_of_mem _ (List.mem_cons_of_mem _ List.mem_cons_self))))).cells.1, (h.box (w.heap.size, (1 : Int), .slice aa na ca, digs (za : Int).natAbs) (List.mem_cons_of_mem _ (List.mem_cons_of_mem _ (List.mem_cons_of_mem _ (List.mem_cons_of_mem _ List.mem_cons_self))))).cells.2⟩
            have KU := Lib.hid K0
            clear K0
            have ex := KK.out _ SD.out
            have ez := KU.out _ _ SZ.out
            clear S24
            go_region_held3 (fun W => W.cell? ⟨g24, 0, none⟩ = some (.int .i64 s24) ∧ W.cell? ⟨g24, 1, none⟩ = some (.slice a24 n24 c24) ∧ W.cell? ⟨w.heap.size, 0, none⟩ = some (.int .i64 (1 : Int)) ∧ W.cell? ⟨w.heap.size, 1, none⟩ = some (.slice aa na ca))
              (first | (with_reducible exact ex) | (with_reducible exact ez) | (with_reducible exact xa) | (with_reducible exact xaz) | (with_reducible exact xb) | (with_reducible exact xc) | (with_reducible exact xcz) | (with_reducible exact xcr) | (with_reducible exact xd) | (with_reducible exact xds) | (with_reducible exact xe) | (with_reducible exact xes) | go_keep)
              (first
                | (go_at_call 33; (with_reducible refine (of_v (z := 7) ?_ HB7.out _).mono ?_); (focus (decide +kernel)); rintro e wa ⟨sk, ak, nk, ck, rfl, hn, hb, hf⟩; have SA := Lib.hid (SD.out.later hb); have xa := KK.out _ SA.out; have SAZ := Lib.hid SA.out.zero; have xaz := KU.out _ _ SAZ.out; have NA := Lib.hid hn; clear hn hb hf)
                | (go_at_call 33; (with_reducible refine (of_v (z := 7) ?_ HB7.out _).mono ?_); (focus (decide +kernel)); rintro e wb ⟨sk, ak, nk, ck, rfl, hn, hb, hf⟩; have SB := Lib.hid (SZ.out.later hb); have xb := KU.out _ _ SB.out; have NB := Lib.hid hn; clear hn hb hf)
                | (go_at_call 9; (with_reducible refine (add_k ((SA.out.box (g24, s24, .slice a24 n24 c24, digs ((za * 10) : Int).natAbs) List.mem_cons_self).num E24.out) NA.out HX7.out HKS.out).mono ?_); rintro e wc1 ⟨sr, ar, nr, cr, rfl, hn, hb, hf⟩; have SC := Lib.hid (SA.out.later hb); have xc := KK.out _ SC.out; have xcz := KU.out _ _ SC.out.zero; have RC := Lib.hid (SA.out.ret (sg := sr) hb hn.2 hf); have xcr := KU.out _ _ RC.out; have EC := Lib.hid hn.1; clear hn hb hf)
                | (go_at_call 9; (with_reducible refine (add_k ((SAZ.out.box (g24, s24, .slice a24 n24 c24, digs ((za * 10) : Int).natAbs) (List.mem_cons_of_mem _ List.mem_cons_self)).num E24.out) (NA.out.later (below_alloc _ _)) HX7.out HKS.out).mono ?_); rintro e wd ⟨sr, ar, nr, cr, rfl, hn, hb, hf⟩; have xx := KU.out _ _ (SAZ.out.later hb); obtain ⟨z1, z2⟩ := ((SAZ.out.later hb).box (wa.heap.size, 0, .slice none 0 0, []) List.mem_cons_self).cells; obtain ⟨z3, z4⟩ := ((SAZ.out.later hb).box (wa.heap.size, 0, .slice none 0 0, []) List.mem_cons_self).free; have Rd : Hid (Sq w ((wa.heap.size, sr, .slice ar nr cr, digs ((za * 10 + 7) : Int).natAbs) :: [(g24, s24, .slice a24 n24 c24, digs ((za * 10) : Int).natAbs), (w16.heap.size, s16, .slice a16 n16 c16, digs (za : Int).natAbs), (w7.heap.size, s7, .slice a7 n7 c7, digs (0 : Int).natAbs), (w.heap.size, (1 : Int), .slice aa na ca, digs (za : Int).natAbs)]) _) := Lib.hid (Sq.setb (b := wa.heap.size) (pre := []) SAZ.out hb (sg' := sr) hn.2 hf); have xds := KU.out _ _ Rd.out; have xd := xx; have ED := Lib.hid hn.1; clear hn hb hf xx)
                | (go_at_call 9; (with_reducible refine (add_k ((SB.out.box (g24, s24, .slice a24 n24 c24, digs ((za * 10) : Int).natAbs) (List.mem_cons_of_mem _ List.mem_cons_self)).num E24.out) NB.out HX7.out HKS.out).mono ?_); rintro e we ⟨sr, ar, nr, cr, rfl, hn, hb, hf⟩; have xx := KU.out _ _ (SB.out.later hb); obtain ⟨z1, z2⟩ := ((SB.out.later hb).box (w24.heap.size, 0, .slice none 0 0, []) List.mem_cons_self).cells; obtain ⟨z3, z4⟩ := ((SB.out.later hb).box (w24.heap.size, 0, .slice none 0 0, []) List.mem_cons_self).free; have Re : Hid (Sq w ((w24.heap.size, sr, .slice ar nr cr, digs ((za * 10 + 7) : Int).natAbs) :: [(g24, s24, .slice a24 n24 c24, digs ((za * 10) : Int).natAbs), (w16.heap.size, s16, .slice a16 n16 c16, digs (za : Int).natAbs), (w7.heap.size, s7, .slice a7 n7 c7, digs (0 : Int).natAbs), (w.heap.size, (1 : Int), .slice aa na ca, digs (za : Int).natAbs)]) _) := Lib.hid (Sq.setb (b := w24.heap.size) (pre := []) SB.out hb (sg' := sr) hn.2 hf); have xes := KU.out _ _ Re.out; have xe := xx; have EE := Lib.hid hn.1; clear hn hb hf xx))
            all_goals (go_wp2_with fail; go_meet; refine ⟨rfl, ?_⟩; first | exact ⟨_, _, _, _, _, rfl, EC.out, RC.out⟩ | exact ⟨_, _, _, _, _, rfl, ED.out, Rd.out⟩ | exact ⟨_, _, _, _, _, rfl, EE.out, Re.out⟩)
          case rest =>
          obtain ⟨rfl, hq⟩ := hcut
          obtain ⟨g25, s25, a25, n25, c25, rfl, e25, h25⟩ := hq.out
          obtain ⟨w25, rfl⟩ : ∃ W, W = wc := ⟨_, rfl⟩
          have S25 := Lib.hid h25
          have E25 := Lib.hid e25
          clear hq e25 h25 S24
          go_wp2_with fail
          refine (read_s R7.out L7.out _).mono ?_
          rintro e w26 ⟨s26, a26, n26, c26, rfl, hn, hb, hf⟩
          have S26 := Lib.hid (S25.out.ret (sg := s26) hb hn.2 hf)
          have E26 := Lib.hid hn.1
          clear hn hb hf S25
          obtain ⟨t17, u17⟩ := (S26.out.box (w26.heap.size, s26, .slice a26 n26 c26, digs ((za * 10 + 7) : Int).natAbs) List.mem_cons_self).cells
          obtain ⟨t18, u18⟩ := (S26.out.box (g25, s25, .slice a25 n25 c25, digs ((za * 10 + 7) : Int).natAbs) (List.mem_cons_of_mem _ List.mem_cons_self)).cells
          go_wp2_with fail
          clear t17 u17 t18 u18
          refine (same_t ((S26.out.box (w26.heap.size, s26, .slice a26 n26 c26, digs ((za * 10 + 7) : Int).natAbs) List.mem_cons_self).num E26.out) ((S26.out.box (g25, s25, .slice a25 n25 c25, digs ((za * 10 + 7) : Int).natAbs) (List.mem_cons_of_mem _ List.mem_cons_self)).num E25.out) rfl).mono ?_
          rintro e w27 ⟨rfl, hb⟩
          have S28 := Lib.hid (S26.out.later hb)
          clear S26
          clear hb
          go_wp2_with fail
          go_ret
          exact ⟨rfl, S28.out.below⟩
    case some =>
      have HR := Lib.hid hr
      have HI := Lib.hid (itoa_read hr)
      have Zb : Hid (Len 100000 zb) := Sz.len (Sz.read hr (by have h1 : s.data.toList.length = s.size := Array.length_toList; have := HS4.out; omega))
      clear hr
      go_wp2_with fail
      refine (read_s HR.out (by have := HS4.out; omega) _).mono ?_
      rintro e w29 ⟨s29, a29, n29, c29, rfl, hn, hb, hf⟩
      have S29 := Lib.hid (S6.out.ret (sg := s29) hb hn.2 hf)
      have E29 := Lib.hid hn.1
      clear hn hb hf S6
      obtain ⟨t19, u19⟩ := (S29.out.box (w29.heap.size, s29, .slice a29 n29 c29, digs (zb : Int).natAbs) List.mem_cons_self).cells
      go_wp2_with fail
      clear t19 u19
      refine (right_k ((S29.out.box (w29.heap.size, s29, .slice a29 n29 c29, digs (zb : Int).natAbs) List.mem_cons_self).num E29.out)).mono ?_
      rintro e w30 ⟨rfl, hb⟩
      have S31 := Lib.hid (S29.out.later hb)
      clear S29
      clear hb
      obtain ⟨t20, u20⟩ := (S31.out.box (w29.heap.size, s29, .slice a29 n29 c29, digs (zb : Int).natAbs) List.mem_cons_self).cells
      go_wp2_with fail
      clear t20 u20
      refine (text_s ((S31.out.box (w29.heap.size, s29, .slice a29 n29 c29, digs (zb : Int).natAbs) List.mem_cons_self).num E29.out) Zb.out (S31.out.env HE.out) HI.out).mono ?_
      rintro e w32 ⟨rfl, hb⟩
      have S33 := Lib.hid (S31.out.later hb)
      clear S31
      clear hb
      obtain ⟨t21, u21⟩ := (S33.out.box (w.heap.size, sa, .slice aa na ca, la) (List.mem_cons_of_mem _ List.mem_cons_self)).cells
      go_wp2_with fail
      clear t21 u21
      refine (right_b ⟨_, rfl, (S33.out.box (w.heap.size, sa, .slice aa na ca, la) (List.mem_cons_of_mem _ List.mem_cons_self)).2⟩ Ra.out).mono ?_
      rintro e w34 ⟨rfl, hb⟩
      have S35 := Lib.hid (S33.out.later hb)
      clear S33
      clear hb
      cases ra
      case false =>
        obtain ⟨t22, u22⟩ := (S35.out.box (w.heap.size, sa, .slice aa na ca, la) (List.mem_cons_of_mem _ List.mem_cons_self)).cells
        go_wp2_with fail
        clear t22 u22
        refine (text_bad _ sa la _ ⟨_, rfl, (S35.out.box (w.heap.size, sa, .slice aa na ca, la) (List.mem_cons_of_mem _ List.mem_cons_self)).2⟩ Ra.out).mono ?_
        rintro e w36 ⟨rfl, hb⟩
        have S37 := Lib.hid (S35.out.later hb)
        clear S35
        clear hb
        go_wp2_with fail
        go_ret
        exact ⟨rfl, S37.out.below⟩
      case true =>
        obtain ⟨za, ea, rfl⟩ := right_of Ra.out
        have Ea := Lib.hid ea
        have Za : Hid (Sz 60 za) := Sz.fits Fa.out rfl rfl
        clear ea Fa Ra
        obtain ⟨t, ht⟩ : ∃ t : ByteArray, t = ⟨(Go.Lib.itoa za).toArray⟩ := ⟨_, rfl⟩
        have ht1 : Go.Lib.itoa za = t.data.toList := by rw [ht]
        have hlen := itoa_size Za.out (by omega)
        have hsz : t.size ≤ 421 := by rw [ht, size_of]; exact hlen
        have T1 := Lib.hid ht1
        have TR : Hid (readS t.data.toList = some za) := Lib.hid (show readS t.data.toList = some za by rw [← ht1]; exact read_itoa _)
        have HT := Lib.hid ht
        have HSZ : Hid (t.size ≤ 100000) := Nat.le_trans hsz (by omega)
        have HSZ1 := Lib.hid hsz
        clear ht ht1 hlen hsz
        obtain ⟨t23, u23⟩ := (S35.out.box (w.heap.size, sa, .slice aa na ca, digs (za : Int).natAbs) (List.mem_cons_of_mem _ List.mem_cons_self)).cells
        go_wp2_with fail
        clear t23 u23
        refine (text_s ((S35.out.box (w.heap.size, sa, .slice aa na ca, digs (za : Int).natAbs) (List.mem_cons_of_mem _ List.mem_cons_self)).num Ea.out) (Sz.len Za.out) (S35.out.env HE.out) T1.out).mono ?_
        rintro e w38 ⟨rfl, hb⟩
        have S39 := Lib.hid (S35.out.later hb)
        clear S35
        clear hb
        go_wp2_with fail
        refine (read_s TR.out HSZ.out _).mono ?_
        rintro e w40 ⟨s40, a40, n40, c40, rfl, hn, hb, hf⟩
        have S40 := Lib.hid (S39.out.ret (sg := s40) hb hn.2 hf)
        have E40 := Lib.hid hn.1
        clear hn hb hf S39
        obtain ⟨t24, u24⟩ := (S40.out.box (w40.heap.size, s40, .slice a40 n40 c40, digs (za : Int).natAbs) List.mem_cons_self).cells
        obtain ⟨t25, u25⟩ := (S40.out.box (w.heap.size, sa, .slice aa na ca, digs (za : Int).natAbs) (List.mem_cons_of_mem _ (List.mem_cons_of_mem _ List.mem_cons_self))).cells
        go_wp2_with fail
        clear t24 u24 t25 u25
        refine (same_t ((S40.out.box (w40.heap.size, s40, .slice a40 n40 c40, digs (za : Int).natAbs) List.mem_cons_self).num E40.out) ((S40.out.box (w.heap.size, sa, .slice aa na ca, digs (za : Int).natAbs) (List.mem_cons_of_mem _ (List.mem_cons_of_mem _ List.mem_cons_self))).num Ea.out) rfl).mono ?_
        rintro e w41 ⟨rfl, hb⟩
        have S42 := Lib.hid (S40.out.later hb)
        clear S40
        clear hb
        have hz := Int.lt_trichotomy za 0
        rcases hz with hz | hz | hz
        case inl =>
          have HZ := Lib.hid hz
          have HN : Hid (za ≠ 0) := by have := HZ.out; show za ≠ 0; omega
          obtain rfl : sa = -1 := Ea.out.trans (Int.sign_eq_neg_one_of_neg HZ.out)
          clear hz
          have hcat : ∀ W : World, (Op.stringOp .add t ⟨#[55]⟩).run Tryd.prog W = .ok (.string (t ++ ⟨#[55]⟩)) W := fun W => run_string_add_sum W _ _ (by have := HSZ1.out; show t.size + 1 ≤ _; omega)
          have R7 : Hid (readS (t ++ ⟨#[55]⟩ : ByteArray).data.toList = some (za * 10 + -7)) := Lib.hid (show _ = _ by have h := read_seven HN.out; rw [show za.sign = -1 from Int.sign_eq_neg_one_of_neg HZ.out] at h; rw [T1.out] at h; rw [ByteArray.data_append, Array.toList_append]; exact h)
          have L7 : Hid ((t ++ ⟨#[55]⟩ : ByteArray).size ≤ 100000) := Lib.hid (show _ ≤ _ by have := HSZ1.out; rw [ByteArray.size_append]; show t.size + 1 ≤ _; omega)
          obtain ⟨t26, u26⟩ := (S42.out.box (w.heap.size, (-1 : Int), .slice aa na ca, digs (za : Int).natAbs) (List.mem_cons_of_mem _ (List.mem_cons_of_mem _ List.mem_cons_self))).cells
          go_upto_region 15 with fail
          clear t26 u26
          go_cut [11, 12] from 91 to 96 (fun u v wx => v = .int .i64 0 ∧ Hid (∃ g s a n c, u = .pointer (some ⟨g, 0, none⟩) ∧ s = ((za * 10) : Int).sign ∧ Sq w ((g, s, .slice a n c, digs ((za * 10) : Int).natAbs) :: [(w40.heap.size, s40, .slice a40 n40 c40, digs (za : Int).natAbs), (w29.heap.size, s29, .slice a29 n29 c29, digs (zb : Int).natAbs), (w.heap.size, (-1 : Int), .slice aa na ca, digs (za : Int).natAbs)]) wx))
          case first =>
            have SD := Lib.hid S42.out.drew
            have SZ := Lib.hid S42.out.zero.drew
            have ex := (SD.out.box (w.heap.size, (-1 : Int), .slice aa na ca, digs (za : Int).natAbs) (List.mem_cons_of_mem _ (List.mem_cons_of_mem _ List.mem_cons_self))).cells
            have ez := (SZ.out.box (w.heap.size, (-1 : Int), .slice aa na ca, digs (za : Int).natAbs) (List.mem_cons_of_mem _ (List.mem_cons_of_mem _ (List.mem_cons_of_mem _ List.mem_cons_self)))).cells
            have HB : Hid (-9223372036854775808 ≤ (10 : Int) ∧ (10 : Int) ≤ 9223372036854775807) := ⟨by omega, by omega⟩
            have HK : Hid (Len 100000 10) := Len.of (by decide)
            have HX : Hid (Len 100000 za) := Sz.len Za.out
            clear S42
            go_region_held3 (fun W => W.cell? ⟨w.heap.size, 0, none⟩ = some (.int .i64 (-1 : Int)) ∧ W.cell? ⟨w.heap.size, 1, none⟩ = some (.slice aa na ca))
              (first | (with_reducible exact ex) | (with_reducible exact ez) | (with_reducible exact xa) | (with_reducible exact xaz) | (with_reducible exact xb) | (with_reducible exact xc) | (with_reducible exact xcz) | (with_reducible exact xcr) | (with_reducible exact xd) | (with_reducible exact xds) | (with_reducible exact xe) | (with_reducible exact xes) | go_keep)
              (first
                | (go_at_call 33; (with_reducible refine (of_k 10 HB.out _).mono ?_); rintro e wa ⟨sk, ak, nk, ck, rfl, hn, hb, hf⟩; have SA := Lib.hid (SD.out.later hb); have xa := (SA.out.box (w.heap.size, (-1 : Int), .slice aa na ca, digs (za : Int).natAbs) (List.mem_cons_of_mem _ (List.mem_cons_of_mem _ List.mem_cons_self))).cells; have SAZ := Lib.hid SA.out.zero; have xaz := (SAZ.out.box (w.heap.size, (-1 : Int), .slice aa na ca, digs (za : Int).natAbs) (List.mem_cons_of_mem _ (List.mem_cons_of_mem _ (List.mem_cons_of_mem _ List.mem_cons_self)))).cells; have NA := Lib.hid hn; clear hn hb hf)
                | (go_at_call 33; (with_reducible refine (of_k 10 HB.out _).mono ?_); rintro e wb ⟨sk, ak, nk, ck, rfl, hn, hb, hf⟩; have SB := Lib.hid (SZ.out.later hb); have xb := (SB.out.box (w.heap.size, (-1 : Int), .slice aa na ca, digs (za : Int).natAbs) (List.mem_cons_of_mem _ (List.mem_cons_of_mem _ (List.mem_cons_of_mem _ List.mem_cons_self)))).cells; have NB := Lib.hid hn; clear hn hb hf)
                | (go_at_call 13; (with_reducible refine (mul_k ((SA.out.box (w.heap.size, (-1 : Int), .slice aa na ca, digs (za : Int).natAbs) (List.mem_cons_of_mem _ (List.mem_cons_of_mem _ List.mem_cons_self))).num Ea.out) NA.out HX.out HK.out).mono ?_); rintro e wc1 ⟨sr, ar, nr, cr, rfl, hn, hb, hf⟩; have SC := Lib.hid (SA.out.later hb); have xc := (SC.out.box (w.heap.size, (-1 : Int), .slice aa na ca, digs (za : Int).natAbs) (List.mem_cons_of_mem _ (List.mem_cons_of_mem _ List.mem_cons_self))).cells; have xcz := (SC.out.zero.box (w.heap.size, (-1 : Int), .slice aa na ca, digs (za : Int).natAbs) (List.mem_cons_of_mem _ (List.mem_cons_of_mem _ (List.mem_cons_of_mem _ List.mem_cons_self)))).cells; have RC := Lib.hid (SA.out.ret (sg := sr) hb hn.2 hf); have xcr := (RC.out.box (w.heap.size, (-1 : Int), .slice aa na ca, digs (za : Int).natAbs) (List.mem_cons_of_mem _ (List.mem_cons_of_mem _ (List.mem_cons_of_mem _ List.mem_cons_self)))).cells; have EC := Lib.hid hn.1; clear hn hb hf)
                | (go_at_call 13; (with_reducible refine (mul_k ((SAZ.out.box (w.heap.size, (-1 : Int), .slice aa na ca, digs (za : Int).natAbs) (List.mem_cons_of_mem _ (List.mem_cons_of_mem _ (List.mem_cons_of_mem _ List.mem_cons_self)))).num Ea.out) (NA.out.later (below_alloc _ _)) HX.out HK.out).mono ?_); rintro e wd ⟨sr, ar, nr, cr, rfl, hn, hb, hf⟩; have xx := ((SAZ.out.later hb).box (w.heap.size, (-1 : Int), .slice aa na ca, digs (za : Int).natAbs) (List.mem_cons_of_mem _ (List.mem_cons_of_mem _ (List.mem_cons_of_mem _ List.mem_cons_self)))).cells; obtain ⟨z1, z2⟩ := ((SAZ.out.later hb).box (wa.heap.size, 0, .slice none 0 0, []) List.mem_cons_self).cells; obtain ⟨z3, z4⟩ := ((SAZ.out.later hb).box (wa.heap.size, 0, .slice none 0 0, []) List.mem_cons_self).free; have Rd : Hid (Sq w ((wa.heap.size, sr, .slice ar nr cr, digs ((za * 10) : Int).natAbs) :: [(w40.heap.size, s40, .slice a40 n40 c40, digs (za : Int).natAbs), (w29.heap.size, s29, .slice a29 n29 c29, digs (zb : Int).natAbs), (w.heap.size, (-1 : Int), .slice aa na ca, digs (za : Int).natAbs)]) _) := Lib.hid (Sq.setb (b := wa.heap.size) (pre := []) SAZ.out hb (sg' := sr) hn.2 hf); have xds := (Rd.out.box (w.heap.size, (-1 : Int), .slice aa na ca, digs (za : Int).natAbs) (List.mem_cons_of_mem _ (List.mem_cons_of_mem _ (List.mem_cons_of_mem _ List.mem_cons_self)))).cells; have xd := xx; have ED := Lib.hid hn.1; clear hn hb hf xx)
                | (go_at_call 13; (with_reducible refine (mul_k ((SB.out.box (w.heap.size, (-1 : Int), .slice aa na ca, digs (za : Int).natAbs) (List.mem_cons_of_mem _ (List.mem_cons_of_mem _ (List.mem_cons_of_mem _ List.mem_cons_self)))).num Ea.out) NB.out HX.out HK.out).mono ?_); rintro e we ⟨sr, ar, nr, cr, rfl, hn, hb, hf⟩; have xx := ((SB.out.later hb).box (w.heap.size, (-1 : Int), .slice aa na ca, digs (za : Int).natAbs) (List.mem_cons_of_mem _ (List.mem_cons_of_mem _ (List.mem_cons_of_mem _ List.mem_cons_self)))).cells; obtain ⟨z1, z2⟩ := ((SB.out.later hb).box (w41.heap.size, 0, .slice none 0 0, []) List.mem_cons_self).cells; obtain ⟨z3, z4⟩ := ((SB.out.later hb).box (w41.heap.size, 0, .slice none 0 0, []) List.mem_cons_self).free; have Re : Hid (Sq w ((w41.heap.size, sr, .slice ar nr cr, digs ((za * 10) : Int).natAbs) :: [(w40.heap.size, s40, .slice a40 n40 c40, digs (za : Int).natAbs), (w29.heap.size, s29, .slice a29 n29 c29, digs (zb : Int).natAbs), (w.heap.size, (-1 : Int), .slice aa na ca, digs (za : Int).natAbs)]) _) := Lib.hid (Sq.setb (b := w41.heap.size) (pre := []) SB.out hb (sg' := sr) hn.2 hf); have xes := (Re.out.box (w.heap.size, (-1 : Int), .slice aa na ca, digs (za : Int).natAbs) (List.mem_cons_of_mem _ (List.mem_cons_of_mem _ (List.mem_cons_of_mem _ List.mem_cons_self)))).cells; have xe := xx; have EE := Lib.hid hn.1; clear hn hb hf xx))
            all_goals (go_wp2_with fail; go_meet; refine ⟨rfl, ?_⟩; first | exact ⟨_, _, _, _, _, rfl, EC.out, RC.out⟩ | exact ⟨_, _, _, _, _, rfl, ED.out, Rd.out⟩ | exact ⟨_, _, _, _, _, rfl, EE.out, Re.out⟩)
          case rest =>
          obtain ⟨rfl, hq⟩ := hcut
          obtain ⟨g43, s43, a43, n43, c43, rfl, e43, h43⟩ := hq.out
          obtain ⟨w43, rfl⟩ : ∃ W, W = wc := ⟨_, rfl⟩
          have S43 := Lib.hid h43
          have E43 := Lib.hid e43
          clear hq e43 h43 S42
          obtain ⟨t27, u27⟩ := (S43.out.box (g43, s43, .slice a43 n43 c43, digs ((za * 10) : Int).natAbs) List.mem_cons_self).cells
          obtain ⟨t28, u28⟩ := (S43.out.box (w.heap.size, (-1 : Int), .slice aa na ca, digs (za : Int).natAbs) (List.mem_cons_of_mem _ (List.mem_cons_of_mem _ (List.mem_cons_of_mem _ List.mem_cons_self)))).cells
          go_upto_region 16 with fail
          clear t27 u27 t28 u28
          go_cut [13, 14] from 97 to 105 (fun u v wx => v = .int .i64 0 ∧ Hid (∃ g s a n c, u = .pointer (some ⟨g, 0, none⟩) ∧ s = ((za * 10 + -7) : Int).sign ∧ Sq w ((g, s, .slice a n c, digs ((za * 10 + -7) : Int).natAbs) :: [(g43, s43, .slice a43 n43 c43, digs ((za * 10) : Int).natAbs), (w40.heap.size, s40, .slice a40 n40 c40, digs (za : Int).natAbs), (w29.heap.size, s29, .slice a29 n29 c29, digs (zb : Int).natAbs), (w.heap.size, (-1 : Int), .slice aa na ca, digs (za : Int).natAbs)]) wx))
          case first =>
            have SD := Lib.hid S43.out.drew
            have SZ := Lib.hid S43.out.zero.drew
            have HB7 : Hid (-9223372036854775808 ≤ (-7 : Int) ∧ (-7 : Int) ≤ 9223372036854775807) := ⟨by omega, by omega⟩
            have HX7 : Hid (Len 100000 (za * 10)) := Sz.len (Sz.mul Za.out (Sz.small (z := 10) (by decide)))
            have HKS : Hid (Len 100000 (-7)) := Len.of (by decide)
            have K0 : ∀ W, Sq w [(g43, s43, .slice a43 n43 c43, digs ((za * 10) : Int).natAbs), (w40.heap.size, s40, .slice a40 n40 c40, digs (za : Int).natAbs), (w29.heap.size, s29, .slice a29 n29 c29, digs (zb : Int).natAbs), (w.heap.size, (-1 : Int), .slice aa na ca, digs (za : Int).natAbs)] W → W.cell? ⟨g43, 0, none⟩ = some (.int .i64 s43) ∧ W.cell? ⟨g43, 1, none⟩ = some (.slice a43 n43 c43) ∧ W.cell? ⟨w.heap.size, 0, none⟩ = some (.int .i64 (-1 : Int)) ∧ W.cell? ⟨w.heap.size, 1, none⟩ = some (.slice aa na ca) := fun W h => ⟨(h.box (g43, s43, .slice a43 n43 c43, digs ((za * 10) : Int).natAbs) List.mem_cons_self).cells.1, (h.box (g43, s43, .slice a43 n43 c43, digs ((za * 10) : Int).natAbs) List.mem_cons_self).cells.2, (h.box (w.heap.size, (-1 : Int), .slice aa na ca, digs (za : Int).natAbs) (List.mem_cons_of_mem _ (List.mem_cons_of_mem _ (List.mem_cons_of_mem _ List.mem_cons_self)))).cells.1, (h.box (w.heap.size, (-1 : Int), .slice aa na ca, digs (za : Int).natAbs) (List.mem_cons_of_mem _ (List.mem_cons_of_mem _ (List.mem_cons_of_mem _ List.mem_cons_self)))).cells.2⟩
            have KK := Lib.hid K0
            clear K0
            have K0 : ∀ W x, Sq w (x :: [(g43, s43, .slice a43 n43 c43, digs ((za * 10) : Int).natAbs), (w40.heap.size, s40, .slice a40 n40 c40, digs (za : Int).natAbs), (w29.heap.size, s29, .slice a29 n29 c29, digs (zb : Int).natAbs), (w.heap.size, (-1 : Int), .slice aa na ca, digs (za : Int).natAbs)]) W → W.cell? ⟨g43, 0, none⟩ = some (.int .i64 s43) ∧ W.cell? ⟨g43, 1, none⟩ = some (.slice a43 n43 c43) ∧ W.cell? ⟨w.heap.size, 0, none⟩ = some (.int .i64 (-1 : Int)) ∧ W.cell? ⟨w.heap.size, 1, none⟩ = some (.slice aa na ca) := fun W x h => ⟨(h.box (g43, s43, .slice a43 n43 c43, digs ((za * 10) : Int).natAbs) (List.mem_cons_of_mem _ List.mem_cons_self)).cells.1, (h.box (g43, s43, .slice a43 n43 c43, digs ((za * 10) : Int).natAbs) (List.mem_cons_of_mem _ List.mem_cons_self)).cells.2, (h.box (w.heap.size, (-1 : Int), .slice aa na ca, digs (za : Int).natAbs) (List.mem_cons_of_mem _ (List.mem_cons_of_mem _ (List.mem_cons_of_mem _ (List.mem_cons_of_mem _ List.mem_cons_self))))).cells.1, (h.box (w.heap.size, (-1 : Int), .slice aa na ca, digs (za : Int).natAbs) (List.mem_cons_of_mem _ (List.mem_cons_of_mem _ (List.mem_cons_of_mem _ (List.mem_cons_of_mem _ List.mem_cons_self))))).cells.2⟩
            have KU := Lib.hid K0
            clear K0
            have ex := KK.out _ SD.out
            have ez := KU.out _ _ SZ.out
            clear S43
            go_region_held3 (fun W => W.cell? ⟨g43, 0, none⟩ = some (.int .i64 s43) ∧ W.cell? ⟨g43, 1, none⟩ = some (.slice a43 n43 c43) ∧ W.cell? ⟨w.heap.size, 0, none⟩ = some (.int .i64 (-1 : Int)) ∧ W.cell? ⟨w.heap.size, 1, none⟩ = some (.slice aa na ca))
              (first | (with_reducible exact ex) | (with_reducible exact ez) | (with_reducible exact xa) | (with_reducible exact xaz) | (with_reducible exact xb) | (with_reducible exact xc) | (with_reducible exact xcz) | (with_reducible exact xcr) | (with_reducible exact xd) | (with_reducible exact xds) | (with_reducible exact xe) | (with_reducible exact xes) | go_keep)
              (first
                | (go_at_call 33; (with_reducible refine (of_v (z := -7) ?_ HB7.out _).mono ?_); (focus (decide +kernel)); rintro e wa ⟨sk, ak, nk, ck, rfl, hn, hb, hf⟩; have SA := Lib.hid (SD.out.later hb); have xa := KK.out _ SA.out; have SAZ := Lib.hid SA.out.zero; have xaz := KU.out _ _ SAZ.out; have NA := Lib.hid hn; clear hn hb hf)
                | (go_at_call 33; (with_reducible refine (of_v (z := -7) ?_ HB7.out _).mono ?_); (focus (decide +kernel)); rintro e wb ⟨sk, ak, nk, ck, rfl, hn, hb, hf⟩; have SB := Lib.hid (SZ.out.later hb); have xb := KU.out _ _ SB.out; have NB := Lib.hid hn; clear hn hb hf)
                | (go_at_call 9; (with_reducible refine (add_k ((SA.out.box (g43, s43, .slice a43 n43 c43, digs ((za * 10) : Int).natAbs) List.mem_cons_self).num E43.out) NA.out HX7.out HKS.out).mono ?_); rintro e wc1 ⟨sr, ar, nr, cr, rfl, hn, hb, hf⟩; have SC := Lib.hid (SA.out.later hb); have xc := KK.out _ SC.out; have xcz := KU.out _ _ SC.out.zero; have RC := Lib.hid (SA.out.ret (sg := sr) hb hn.2 hf); have xcr := KU.out _ _ RC.out; have EC := Lib.hid hn.1; clear hn hb hf)
                | (go_at_call 9; (with_reducible refine (add_k ((SAZ.out.box (g43, s43, .slice a43 n43 c43, digs ((za * 10) : Int).natAbs) (List.mem_cons_of_mem _ List.mem_cons_self)).num E43.out) (NA.out.later (below_alloc _ _)) HX7.out HKS.out).mono ?_); rintro e wd ⟨sr, ar, nr, cr, rfl, hn, hb, hf⟩; have xx := KU.out _ _ (SAZ.out.later hb); obtain ⟨z1, z2⟩ := ((SAZ.out.later hb).box (wa.heap.size, 0, .slice none 0 0, []) List.mem_cons_self).cells; obtain ⟨z3, z4⟩ := ((SAZ.out.later hb).box (wa.heap.size, 0, .slice none 0 0, []) List.mem_cons_self).free; have Rd : Hid (Sq w ((wa.heap.size, sr, .slice ar nr cr, digs ((za * 10 + -7) : Int).natAbs) :: [(g43, s43, .slice a43 n43 c43, digs ((za * 10) : Int).natAbs), (w40.heap.size, s40, .slice a40 n40 c40, digs (za : Int).natAbs), (w29.heap.size, s29, .slice a29 n29 c29, digs (zb : Int).natAbs), (w.heap.size, (-1 : Int), .slice aa na ca, digs (za : Int).natAbs)]) _) := Lib.hid (Sq.setb (b := wa.heap.size) (pre := []) SAZ.out hb (sg' := sr) hn.2 hf); have xds := KU.out _ _ Rd.out; have xd := xx; have ED := Lib.hid hn.1; clear hn hb hf xx)
                | (go_at_call 9; (with_reducible refine (add_k ((SB.out.box (g43, s43, .slice a43 n43 c43, digs ((za * 10) : Int).natAbs) (List.mem_cons_of_mem _ List.mem_cons_self)).num E43.out) NB.out HX7.out HKS.out).mono ?_); rintro e we ⟨sr, ar, nr, cr, rfl, hn, hb, hf⟩; have xx := KU.out _ _ (SB.out.later hb); obtain ⟨z1, z2⟩ := ((SB.out.later hb).box (w43.heap.size, 0, .slice none 0 0, []) List.mem_cons_self).cells; obtain ⟨z3, z4⟩ := ((SB.out.later hb).box (w43.heap.size, 0, .slice none 0 0, []) List.mem_cons_self).free; have Re : Hid (Sq w ((w43.heap.size, sr, .slice ar nr cr, digs ((za * 10 + -7) : Int).natAbs) :: [(g43, s43, .slice a43 n43 c43, digs ((za * 10) : Int).natAbs), (w40.heap.size, s40, .slice a40 n40 c40, digs (za : Int).natAbs), (w29.heap.size, s29, .slice a29 n29 c29, digs (zb : Int).natAbs), (w.heap.size, (-1 : Int), .slice aa na ca, digs (za : Int).natAbs)]) _) := Lib.hid (Sq.setb (b := w43.heap.size) (pre := []) SB.out hb (sg' := sr) hn.2 hf); have xes := KU.out _ _ Re.out; have xe := xx; have EE := Lib.hid hn.1; clear hn hb hf xx))
            all_goals (go_wp2_with fail; go_meet; refine ⟨rfl, ?_⟩; first | exact ⟨_, _, _, _, _, rfl, EC.out, RC.out⟩ | exact ⟨_, _, _, _, _, rfl, ED.out, Rd.out⟩ | exact ⟨_, _, _, _, _, rfl, EE.out, Re.out⟩)
          case rest =>
          obtain ⟨rfl, hq⟩ := hcut
          obtain ⟨g44, s44, a44, n44, c44, rfl, e44, h44⟩ := hq.out
          obtain ⟨w44, rfl⟩ : ∃ W, W = wc := ⟨_, rfl⟩
          have S44 := Lib.hid h44
          have E44 := Lib.hid e44
          clear hq e44 h44 S43
          go_wp2_with fail
          refine (read_s R7.out L7.out _).mono ?_
          rintro e w45 ⟨s45, a45, n45, c45, rfl, hn, hb, hf⟩
          have S45 := Lib.hid (S44.out.ret (sg := s45) hb hn.2 hf)
          have E45 := Lib.hid hn.1
          clear hn hb hf S44
          obtain ⟨t29, u29⟩ := (S45.out.box (w45.heap.size, s45, .slice a45 n45 c45, digs ((za * 10 + -7) : Int).natAbs) List.mem_cons_self).cells
          obtain ⟨t30, u30⟩ := (S45.out.box (g44, s44, .slice a44 n44 c44, digs ((za * 10 + -7) : Int).natAbs) (List.mem_cons_of_mem _ List.mem_cons_self)).cells
          go_wp2_with fail
          clear t29 u29 t30 u30
          refine (same_t ((S45.out.box (w45.heap.size, s45, .slice a45 n45 c45, digs ((za * 10 + -7) : Int).natAbs) List.mem_cons_self).num E45.out) ((S45.out.box (g44, s44, .slice a44 n44 c44, digs ((za * 10 + -7) : Int).natAbs) (List.mem_cons_of_mem _ List.mem_cons_self)).num E44.out) rfl).mono ?_
          rintro e w46 ⟨rfl, hb⟩
          have S47 := Lib.hid (S45.out.later hb)
          clear S45
          clear hb
          go_wp2_with fail
          go_ret
          exact ⟨rfl, S47.out.below⟩
        case inr.inl =>
          subst hz
          obtain rfl : sa = 0 := Ea.out
          obtain rfl : t = ⟨#[48]⟩ := HT.out.trans (by decide +kernel)
          obtain ⟨t31, u31⟩ := (S42.out.box (w.heap.size, 0, .slice aa na ca, digs (0 : Int).natAbs) (List.mem_cons_of_mem _ (List.mem_cons_of_mem _ List.mem_cons_self))).cells
          go_wp2_with fail
          clear t31 u31
          go_ret
          exact ⟨rfl, S42.out.below⟩
        case inr.inr =>
          have HZ := Lib.hid hz
          have HN : Hid (za ≠ 0) := by have := HZ.out; show za ≠ 0; omega
          obtain rfl : sa = 1 := Ea.out.trans (Int.sign_eq_one_of_pos HZ.out)
          clear hz
          have hcat : ∀ W : World, (Op.stringOp .add t ⟨#[55]⟩).run Tryd.prog W = .ok (.string (t ++ ⟨#[55]⟩)) W := fun W => run_string_add_sum W _ _ (by have := HSZ1.out; show t.size + 1 ≤ _; omega)
          have R7 : Hid (readS (t ++ ⟨#[55]⟩ : ByteArray).data.toList = some (za * 10 + 7)) := Lib.hid (show _ = _ by have h := read_seven HN.out; rw [show za.sign = 1 from Int.sign_eq_one_of_pos HZ.out] at h; rw [T1.out] at h; rw [ByteArray.data_append, Array.toList_append]; exact h)
          have L7 : Hid ((t ++ ⟨#[55]⟩ : ByteArray).size ≤ 100000) := Lib.hid (show _ ≤ _ by have := HSZ1.out; rw [ByteArray.size_append]; show t.size + 1 ≤ _; omega)
          obtain ⟨t32, u32⟩ := (S42.out.box (w.heap.size, (1 : Int), .slice aa na ca, digs (za : Int).natAbs) (List.mem_cons_of_mem _ (List.mem_cons_of_mem _ List.mem_cons_self))).cells
          go_upto_region 15 with fail
          clear t32 u32
          go_cut [11, 12] from 91 to 96 (fun u v wx => v = .int .i64 0 ∧ Hid (∃ g s a n c, u = .pointer (some ⟨g, 0, none⟩) ∧ s = ((za * 10) : Int).sign ∧ Sq w ((g, s, .slice a n c, digs ((za * 10) : Int).natAbs) :: [(w40.heap.size, s40, .slice a40 n40 c40, digs (za : Int).natAbs), (w29.heap.size, s29, .slice a29 n29 c29, digs (zb : Int).natAbs), (w.heap.size, (1 : Int), .slice aa na ca, digs (za : Int).natAbs)]) wx))
          case first =>
            have SD := Lib.hid S42.out.drew
            have SZ := Lib.hid S42.out.zero.drew
            have ex := (SD.out.box (w.heap.size, (1 : Int), .slice aa na ca, digs (za : Int).natAbs) (List.mem_cons_of_mem _ (List.mem_cons_of_mem _ List.mem_cons_self))).cells
            have ez := (SZ.out.box (w.heap.size, (1 : Int), .slice aa na ca, digs (za : Int).natAbs) (List.mem_cons_of_mem _ (List.mem_cons_of_mem _ (List.mem_cons_of_mem _ List.mem_cons_self)))).cells
            have HB : Hid (-9223372036854775808 ≤ (10 : Int) ∧ (10 : Int) ≤ 9223372036854775807) := ⟨by omega, by omega⟩
            have HK : Hid (Len 100000 10) := Len.of (by decide)
            have HX : Hid (Len 100000 za) := Sz.len Za.out
            clear S42
            go_region_held3 (fun W => W.cell? ⟨w.heap.size, 0, none⟩ = some (.int .i64 (1 : Int)) ∧ W.cell? ⟨w.heap.size, 1, none⟩ = some (.slice aa na ca))
              (first | (with_reducible exact ex) | (with_reducible exact ez) | (with_reducible exact xa) | (with_reducible exact xaz) | (with_reducible exact xb) | (with_reducible exact xc) | (with_reducible exact xcz) | (with_reducible exact xcr) | (with_reducible exact xd) | (with_reducible exact xds) | (with_reducible exact xe) | (with_reducible exact xes) | go_keep)
              (first
                | (go_at_call 33; (with_reducible refine (of_k 10 HB.out _).mono ?_); rintro e wa ⟨sk, ak, nk, ck, rfl, hn, hb, hf⟩; have SA := Lib.hid (SD.out.later hb); have xa := (SA.out.box (w.heap.size, (1 : Int), .slice aa na ca, digs (za : Int).natAbs) (List.mem_cons_of_mem _ (List.mem_cons_of_mem _ List.mem_cons_self))).cells; have SAZ := Lib.hid SA.out.zero; have xaz := (SAZ.out.box (w.heap.size, (1 : Int), .slice aa na ca, digs (za : Int).natAbs) (List.mem_cons_of_mem _ (List.mem_cons_of_mem _ (List.mem_cons_of_mem _ List.mem_cons_self)))).cells; have NA := Lib.hid hn; clear hn hb hf)
                | (go_at_call 33; (with_reducible refine (of_k 10 HB.out _).mono ?_); rintro e wb ⟨sk, ak, nk, ck, rfl, hn, hb, hf⟩; have SB := Lib.hid (SZ.out.later hb); have xb := (SB.out.box (w.heap.size, (1 : Int), .slice aa na ca, digs (za : Int).natAbs) (List.mem_cons_of_mem _ (List.mem_cons_of_mem _ (List.mem_cons_of_mem _ List.mem_cons_self)))).cells; have NB := Lib.hid hn; clear hn hb hf)
                | (go_at_call 13; (with_reducible refine (mul_k ((SA.out.box (w.heap.size, (1 : Int), .slice aa na ca, digs (za : Int).natAbs) (List.mem_cons_of_mem _ (List.mem_cons_of_mem _ List.mem_cons_self))).num Ea.out) NA.out HX.out HK.out).mono ?_); rintro e wc1 ⟨sr, ar, nr, cr, rfl, hn, hb, hf⟩; have SC := Lib.hid (SA.out.later hb); have xc := (SC.out.box (w.heap.size, (1 : Int), .slice aa na ca, digs (za : Int).natAbs) (List.mem_cons_of_mem _ (List.mem_cons_of_mem _ List.mem_cons_self))).cells; have xcz := (SC.out.zero.box (w.heap.size, (1 : Int), .slice aa na ca, digs (za : Int).natAbs) (List.mem_cons_of_mem _ (List.mem_cons_of_mem _ (List.mem_cons_of_mem _ List.mem_cons_self)))).cells; have RC := Lib.hid (SA.out.ret (sg := sr) hb hn.2 hf); have xcr := (RC.out.box (w.heap.size, (1 : Int), .slice aa na ca, digs (za : Int).natAbs) (List.mem_cons_of_mem _ (List.mem_cons_of_mem _ (List.mem_cons_of_mem _ List.mem_cons_self)))).cells; have EC := Lib.hid hn.1; clear hn hb hf)
                | (go_at_call 13; (with_reducible refine (mul_k ((SAZ.out.box (w.heap.size, (1 : Int), .slice aa na ca, digs (za : Int).natAbs) (List.mem_cons_of_mem _ (List.mem_cons_of_mem _ (List.mem_cons_of_mem _ List.mem_cons_self)))).num Ea.out) (NA.out.later (below_alloc _ _)) HX.out HK.out).mono ?_); rintro e wd ⟨sr, ar, nr, cr, rfl, hn, hb, hf⟩; have xx := ((SAZ.out.later hb).box (w.heap.size, (1 : Int), .slice aa na ca, digs (za : Int).natAbs) (List.mem_cons_of_mem _ (List.mem_cons_of_mem _ (List.mem_cons_of_mem _ List.mem_cons_self)))).cells; obtain ⟨z1, z2⟩ := ((SAZ.out.later hb).box (wa.heap.size, 0, .slice none 0 0, []) List.mem_cons_self).cells; obtain ⟨z3, z4⟩ := ((SAZ.out.later hb).box (wa.heap.size, 0, .slice none 0 0, []) List.mem_cons_self).free; have Rd : Hid (Sq w ((wa.heap.size, sr, .slice ar nr cr, digs ((za * 10) : Int).natAbs) :: [(w40.heap.size, s40, .slice a40 n40 c40, digs (za : Int).natAbs), (w29.heap.size, s29, .slice a29 n29 c29, digs (zb : Int).natAbs), (w.heap.size, (1 : Int), .slice aa na ca, digs (za : Int).natAbs)]) _) := Lib.hid (Sq.setb (b := wa.heap.size) (pre := []) SAZ.out hb (sg' := sr) hn.2 hf); have xds := (Rd.out.box (w.heap.size, (1 : Int), .slice aa na ca, digs (za : Int).natAbs) (List.mem_cons_of_mem _ (List.mem_cons_of_mem _ (List.mem_cons_of_mem _ List.mem_cons_self)))).cells; have xd := xx; have ED := Lib.hid hn.1; clear hn hb hf xx)
                | (go_at_call 13; (with_reducible refine (mul_k ((SB.out.box (w.heap.size, (1 : Int), .slice aa na ca, digs (za : Int).natAbs) (List.mem_cons_of_mem _ (List.mem_cons_of_mem _ (List.mem_cons_of_mem _ List.mem_cons_self)))).num Ea.out) NB.out HX.out HK.out).mono ?_); rintro e we ⟨sr, ar, nr, cr, rfl, hn, hb, hf⟩; have xx := ((SB.out.later hb).box (w.heap.size, (1 : Int), .slice aa na ca, digs (za : Int).natAbs) (List.mem_cons_of_mem _ (List.mem_cons_of_mem _ (List.mem_cons_of_mem _ List.mem_cons_self)))).cells; obtain ⟨z1, z2⟩ := ((SB.out.later hb).box (w41.heap.size, 0, .slice none 0 0, []) List.mem_cons_self).cells; obtain ⟨z3, z4⟩ := ((SB.out.later hb).box (w41.heap.size, 0, .slice none 0 0, []) List.mem_cons_self).free; have Re : Hid (Sq w ((w41.heap.size, sr, .slice ar nr cr, digs ((za * 10) : Int).natAbs) :: [(w40.heap.size, s40, .slice a40 n40 c40, digs (za : Int).natAbs), (w29.heap.size, s29, .slice a29 n29 c29, digs (zb : Int).natAbs), (w.heap.size, (1 : Int), .slice aa na ca, digs (za : Int).natAbs)]) _) := Lib.hid (Sq.setb (b := w41.heap.size) (pre := []) SB.out hb (sg' := sr) hn.2 hf); have xes := (Re.out.box (w.heap.size, (1 : Int), .slice aa na ca, digs (za : Int).natAbs) (List.mem_cons_of_mem _ (List.mem_cons_of_mem _ (List.mem_cons_of_mem _ List.mem_cons_self)))).cells; have xe := xx; have EE := Lib.hid hn.1; clear hn hb hf xx))
            all_goals (go_wp2_with fail; go_meet; refine ⟨rfl, ?_⟩; first | exact ⟨_, _, _, _, _, rfl, EC.out, RC.out⟩ | exact ⟨_, _, _, _, _, rfl, ED.out, Rd.out⟩ | exact ⟨_, _, _, _, _, rfl, EE.out, Re.out⟩)
          case rest =>
          obtain ⟨rfl, hq⟩ := hcut
          obtain ⟨g48, s48, a48, n48, c48, rfl, e48, h48⟩ := hq.out
          obtain ⟨w48, rfl⟩ : ∃ W, W = wc := ⟨_, rfl⟩
          have S48 := Lib.hid h48
          have E48 := Lib.hid e48
          clear hq e48 h48 S42
          obtain ⟨t33, u33⟩ := (S48.out.box (g48, s48, .slice a48 n48 c48, digs ((za * 10) : Int).natAbs) List.mem_cons_self).cells
          obtain ⟨t34, u34⟩ := (S48.out.box (w.heap.size, (1 : Int), .slice aa na ca, digs (za : Int).natAbs) (List.mem_cons_of_mem _ (List.mem_cons_of_mem _ (List.mem_cons_of_mem _ List.mem_cons_self)))).cells
          go_upto_region 16 with fail
          clear t33 u33 t34 u34
          go_cut [13, 14] from 97 to 105 (fun u v wx => v = .int .i64 0 ∧ Hid (∃ g s a n c, u = .pointer (some ⟨g, 0, none⟩) ∧ s = ((za * 10 + 7) : Int).sign ∧ Sq w ((g, s, .slice a n c, digs ((za * 10 + 7) : Int).natAbs) :: [(g48, s48, .slice a48 n48 c48, digs ((za * 10) : Int).natAbs), (w40.heap.size, s40, .slice a40 n40 c40, digs (za : Int).natAbs), (w29.heap.size, s29, .slice a29 n29 c29, digs (zb : Int).natAbs), (w.heap.size, (1 : Int), .slice aa na ca, digs (za : Int).natAbs)]) wx))
          case first =>
            have SD := Lib.hid S48.out.drew
            have SZ := Lib.hid S48.out.zero.drew
            have HB7 : Hid (-9223372036854775808 ≤ (7 : Int) ∧ (7 : Int) ≤ 9223372036854775807) := ⟨by omega, by omega⟩
            have HX7 : Hid (Len 100000 (za * 10)) := Sz.len (Sz.mul Za.out (Sz.small (z := 10) (by decide)))
            have HKS : Hid (Len 100000 (7)) := Len.of (by decide)
            have K0 : ∀ W, Sq w [(g48, s48, .slice a48 n48 c48, digs ((za * 10) : Int).natAbs), (w40.heap.size, s40, .slice a40 n40 c40, digs (za : Int).natAbs), (w29.heap.size, s29, .slice a29 n29 c29, digs (zb : Int).natAbs), (w.heap.size, (1 : Int), .slice aa na ca, digs (za : Int).natAbs)] W → W.cell? ⟨g48, 0, none⟩ = some (.int .i64 s48) ∧ W.cell? ⟨g48, 1, none⟩ = some (.slice a48 n48 c48) ∧ W.cell? ⟨w.heap.size, 0, none⟩ = some (.int .i64 (1 : Int)) ∧ W.cell? ⟨w.heap.size, 1, none⟩ = some (.slice aa na ca) := fun W h => ⟨(h.box (g48, s48, .slice a48 n48 c48, digs ((za * 10) : Int).natAbs) List.mem_cons_self).cells.1, (h.box (g48, s48, .slice a48 n48 c48, digs ((za * 10) : Int).natAbs) List.mem_cons_self).cells.2, (h.box (w.heap.size, (1 : Int), .slice aa na ca, digs (za : Int).natAbs) (List.mem_cons_of_mem _ (List.mem_cons_of_mem _ (List.mem_cons_of_mem _ List.mem_cons_self)))).cells.1, (h.box (w.heap.size, (1 : Int), .slice aa na ca, digs (za : Int).natAbs) (List.mem_cons_of_mem _ (List.mem_cons_of_mem _ (List.mem_cons_of_mem _ List.mem_cons_self)))).cells.2⟩
            have KK := Lib.hid K0
            clear K0
            have K0 : ∀ W x, Sq w (x :: [(g48, s48, .slice a48 n48 c48, digs ((za * 10) : Int).natAbs), (w40.heap.size, s40, .slice a40 n40 c40, digs (za : Int).natAbs), (w29.heap.size, s29, .slice a29 n29 c29, digs (zb : Int).natAbs), (w.heap.size, (1 : Int), .slice aa na ca, digs (za : Int).natAbs)]) W → W.cell? ⟨g48, 0, none⟩ = some (.int .i64 s48) ∧ W.cell? ⟨g48, 1, none⟩ = some (.slice a48 n48 c48) ∧ W.cell? ⟨w.heap.size, 0, none⟩ = some (.int .i64 (1 : Int)) ∧ W.cell? ⟨w.heap.size, 1, none⟩ = some (.slice aa na ca) := fun W x h => ⟨(h.box (g48, s48, .slice a48 n48 c48, digs ((za * 10) : Int).natAbs) (List.mem_cons_of_mem _ List.mem_cons_self)).cells.1, (h.box (g48, s48, .slice a48 n48 c48, digs ((za * 10) : Int).natAbs) (List.mem_cons_of_mem _ List.mem_cons_self)).cells.2, (h.box (w.heap.size, (1 : Int), .slice aa na ca, digs (za : Int).natAbs) (List.mem_cons_of_mem _ (List.mem_cons_of_mem _ (List.mem_cons_of_mem _ (List.mem_cons_of_mem _ List.mem_cons_self))))).cells.1, (h.box (w.heap.size, (1 : Int), .slice aa na ca, digs (za : Int).natAbs) (List.mem_cons_of_mem _ (List.mem_cons_of_mem _ (List.mem_cons_of_mem _ (List.mem_cons_of_mem _ List.mem_cons_self))))).cells.2⟩
            have KU := Lib.hid K0
            clear K0
            have ex := KK.out _ SD.out
            have ez := KU.out _ _ SZ.out
            clear S48
            go_region_held3 (fun W => W.cell? ⟨g48, 0, none⟩ = some (.int .i64 s48) ∧ W.cell? ⟨g48, 1, none⟩ = some (.slice a48 n48 c48) ∧ W.cell? ⟨w.heap.size, 0, none⟩ = some (.int .i64 (1 : Int)) ∧ W.cell? ⟨w.heap.size, 1, none⟩ = some (.slice aa na ca))
              (first | (with_reducible exact ex) | (with_reducible exact ez) | (with_reducible exact xa) | (with_reducible exact xaz) | (with_reducible exact xb) | (with_reducible exact xc) | (with_reducible exact xcz) | (with_reducible exact xcr) | (with_reducible exact xd) | (with_reducible exact xds) | (with_reducible exact xe) | (with_reducible exact xes) | go_keep)
              (first
                | (go_at_call 33; (with_reducible refine (of_v (z := 7) ?_ HB7.out _).mono ?_); (focus (decide +kernel)); rintro e wa ⟨sk, ak, nk, ck, rfl, hn, hb, hf⟩; have SA := Lib.hid (SD.out.later hb); have xa := KK.out _ SA.out; have SAZ := Lib.hid SA.out.zero; have xaz := KU.out _ _ SAZ.out; have NA := Lib.hid hn; clear hn hb hf)
                | (go_at_call 33; (with_reducible refine (of_v (z := 7) ?_ HB7.out _).mono ?_); (focus (decide +kernel)); rintro e wb ⟨sk, ak, nk, ck, rfl, hn, hb, hf⟩; have SB := Lib.hid (SZ.out.later hb); have xb := KU.out _ _ SB.out; have NB := Lib.hid hn; clear hn hb hf)
                | (go_at_call 9; (with_reducible refine (add_k ((SA.out.box (g48, s48, .slice a48 n48 c48, digs ((za * 10) : Int).natAbs) List.mem_cons_self).num E48.out) NA.out HX7.out HKS.out).mono ?_); rintro e wc1 ⟨sr, ar, nr, cr, rfl, hn, hb, hf⟩; have SC := Lib.hid (SA.out.later hb); have xc := KK.out _ SC.out; have xcz := KU.out _ _ SC.out.zero; have RC := Lib.hid (SA.out.ret (sg := sr) hb hn.2 hf); have xcr := KU.out _ _ RC.out; have EC := Lib.hid hn.1; clear hn hb hf)
                | (go_at_call 9; (with_reducible refine (add_k ((SAZ.out.box (g48, s48, .slice a48 n48 c48, digs ((za * 10) : Int).natAbs) (List.mem_cons_of_mem _ List.mem_cons_self)).num E48.out) (NA.out.later (below_alloc _ _)) HX7.out HKS.out).mono ?_); rintro e wd ⟨sr, ar, nr, cr, rfl, hn, hb, hf⟩; have xx := KU.out _ _ (SAZ.out.later hb); obtain ⟨z1, z2⟩ := ((SAZ.out.later hb).box (wa.heap.size, 0, .slice none 0 0, []) List.mem_cons_self).cells; obtain ⟨z3, z4⟩ := ((SAZ.out.later hb).box (wa.heap.size, 0, .slice none 0 0, []) List.mem_cons_self).free; have Rd : Hid (Sq w ((wa.heap.size, sr, .slice ar nr cr, digs ((za * 10 + 7) : Int).natAbs) :: [(g48, s48, .slice a48 n48 c48, digs ((za * 10) : Int).natAbs), (w40.heap.size, s40, .slice a40 n40 c40, digs (za : Int).natAbs), (w29.heap.size, s29, .slice a29 n29 c29, digs (zb : Int).natAbs), (w.heap.size, (1 : Int), .slice aa na ca, digs (za : Int).natAbs)]) _) := Lib.hid (Sq.setb (b := wa.heap.size) (pre := []) SAZ.out hb (sg' := sr) hn.2 hf); have xds := KU.out _ _ Rd.out; have xd := xx; have ED := Lib.hid hn.1; clear hn hb hf xx)
                | (go_at_call 9; (with_reducible refine (add_k ((SB.out.box (g48, s48, .slice a48 n48 c48, digs ((za * 10) : Int).natAbs) (List.mem_cons_of_mem _ List.mem_cons_self)).num E48.out) NB.out HX7.out HKS.out).mono ?_); rintro e we ⟨sr, ar, nr, cr, rfl, hn, hb, hf⟩; have xx := KU.out _ _ (SB.out.later hb); obtain ⟨z1, z2⟩ := ((SB.out.later hb).box (w48.heap.size, 0, .slice none 0 0, []) List.mem_cons_self).cells; obtain ⟨z3, z4⟩ := ((SB.out.later hb).box (w48.heap.size, 0, .slice none 0 0, []) List.mem_cons_self).free; have Re : Hid (Sq w ((w48.heap.size, sr, .slice ar nr cr, digs ((za * 10 + 7) : Int).natAbs) :: [(g48, s48, .slice a48 n48 c48, digs ((za * 10) : Int).natAbs), (w40.heap.size, s40, .slice a40 n40 c40, digs (za : Int).natAbs), (w29.heap.size, s29, .slice a29 n29 c29, digs (zb : Int).natAbs), (w.heap.size, (1 : Int), .slice aa na ca, digs (za : Int).natAbs)]) _) := Lib.hid (Sq.setb (b := w48.heap.size) (pre := []) SB.out hb (sg' := sr) hn.2 hf); have xes := KU.out _ _ Re.out; have xe := xx; have EE := Lib.hid hn.1; clear hn hb hf xx))
            all_goals (go_wp2_with fail; go_meet; refine ⟨rfl, ?_⟩; first | exact ⟨_, _, _, _, _, rfl, EC.out, RC.out⟩ | exact ⟨_, _, _, _, _, rfl, ED.out, Rd.out⟩ | exact ⟨_, _, _, _, _, rfl, EE.out, Re.out⟩)
          case rest =>
          obtain ⟨rfl, hq⟩ := hcut
          obtain ⟨g49, s49, a49, n49, c49, rfl, e49, h49⟩ := hq.out
          obtain ⟨w49, rfl⟩ : ∃ W, W = wc := ⟨_, rfl⟩
          have S49 := Lib.hid h49
          have E49 := Lib.hid e49
          clear hq e49 h49 S48
          go_wp2_with fail
          refine (read_s R7.out L7.out _).mono ?_
          rintro e w50 ⟨s50, a50, n50, c50, rfl, hn, hb, hf⟩
          have S50 := Lib.hid (S49.out.ret (sg := s50) hb hn.2 hf)
          have E50 := Lib.hid hn.1
          clear hn hb hf S49
          obtain ⟨t35, u35⟩ := (S50.out.box (w50.heap.size, s50, .slice a50 n50 c50, digs ((za * 10 + 7) : Int).natAbs) List.mem_cons_self).cells
          obtain ⟨t36, u36⟩ := (S50.out.box (g49, s49, .slice a49 n49 c49, digs ((za * 10 + 7) : Int).natAbs) (List.mem_cons_of_mem _ List.mem_cons_self)).cells
          go_wp2_with fail
          clear t35 u35 t36 u36
          refine (same_t ((S50.out.box (w50.heap.size, s50, .slice a50 n50 c50, digs ((za * 10 + 7) : Int).natAbs) List.mem_cons_self).num E50.out) ((S50.out.box (g49, s49, .slice a49 n49 c49, digs ((za * 10 + 7) : Int).natAbs) (List.mem_cons_of_mem _ List.mem_cons_self)).num E49.out) rfl).mono ?_
          rintro e w51 ⟨rfl, hb⟩
          have S52 := Lib.hid (S50.out.later hb)
          clear S50
          clear hb
          go_wp2_with fail
          go_ret
          exact ⟨rfl, S52.out.below⟩

set_option maxHeartbeats 4000000 in
theorem BigBack_long (sa : Int) (aa : Option Addr) (na ca : Nat) (s : ByteArray) (w : World) (he : Env w) (ha : na ≤ 9223372036854775807) (hs : s.size ≤ 9223372036854775807) (hno : ¬ na ≤ 60) :
    Calls Tryd.prog 6 #[.agg #[.int .i64 sa, .slice aa na ca], .string s] w fun e w' => e = .returned (.bool true) ∧ RowKit.Below w.heap.size w w' := by
  have HE := Lib.hid he
  have HA := Lib.hid ha
  have HNO := Lib.hid hno
  have S0 := Lib.hid ((⟨Below.refl _ _, fun x hx => by cases hx⟩ : Sk w [] w).put sa (.slice aa na ca))
  clear he ha hno
  by_cases h4 : s.size ≤ 400
  · go_enter Tryd.func6, Tryd.ntmps6
    go_wp2_with fail
    refine (small_any _ (S0.out.env HE.out)).mono ?_
    rintro e w0 ⟨rfl, hb⟩
    have S1 := Lib.hid (S0.out.later hb)
    clear hb S0
    obtain ⟨t, u⟩ := S1.out.cells (b := w.heap.size) (sg := sa) (v := .slice aa na ca) List.mem_cons_self
    go_wp2_with fail
    clear t u
    refine (few_len sa aa na ca 60 _ HA.out false (decide_eq_false (by have := HNO.out; omega))).mono ?_
    rintro e w1 ⟨rfl, hb⟩
    have S2 := Lib.hid (S1.out.later hb)
    clear hb S1
    go_wp2_with fail
    go_ret
    exact ⟨rfl, S2.out.below⟩
  · go_enter Tryd.func6, Tryd.ntmps6
    go_wp2_with fail
    refine (small_any _ (S0.out.env HE.out)).mono ?_
    rintro e w0 ⟨rfl, hb⟩
    have S1 := Lib.hid (S0.out.later hb)
    clear hb S0
    go_wp2_with fail
    go_ret
    exact ⟨rfl, S1.out.below⟩
end Go.Proofs.YtbbjogkapcakpaaDoor.Bi
