/- kitbagref04: Read. WRITTEN by big/gen_rread.py. -/
import Derived.Test.YtnddickcnfodfaaGreatDoorLBt18
set_option maxRecDepth 100000
namespace Go.Proofs.YtnddickcnfodfaaGreatDoor.Bi
open Go.RowKit

/-- What Read leaves. -/
def ReadP (rs : Option Int) (w : World) (e : Ending) (w' : World) : Prop := match rs with | some z => Ans z 0 w e w' | none => Ans 0 2 w e w'
theorem ReadP.nope {rs : Option Int} {w W : World} (h : rs = Option.none) (hb : RowKit.Below w.heap.size w W) (u v : Value) : ReadP rs w (.returned (.tuple #[.agg #[.int .i64 0, .slice none 0 0], .int .i64 2])) ((W.setCell ⟨w.heap.size, 0, none⟩ u).setCell ⟨w.heap.size, 1, none⟩ v) := by
  subst h; exact Ans.none hb u v
theorem ReadP.nope0 {rs : Option Int} {w W : World} (h : rs = Option.none) (hb : RowKit.Below w.heap.size w W) : ReadP rs w (.returned (.tuple #[.agg #[.int .i64 0, .slice none 0 0], .int .i64 2])) W := by
  subst h; exact ⟨_, rfl, by rw [show (0 : Int).natAbs = 0 from rfl, digs_zero]; exact Ints.nil _, hb, fun g _ => off_nil g 0 0⟩
theorem ReadP.some {rs : Option Int} {z : Int} {w w' : World} {e : Ending} (h : rs = Option.some z) (ha : Ans z 0 w e w') : ReadP rs w e w' := by subst h; exact ha
theorem ten_le_P : ∀ k : Nat, ((10 ^ k : Nat) : Int) ≤ P k
  | 0 => by simp [P]
  | k + 1 => by
    have h := ten_le_P k
    rw [P_succ, Nat.pow_succ]
    have e : ((10 ^ k * 10 : Nat) : Int) = ((10 ^ k : Nat) : Int) * 10 := by rw [Int.natCast_mul]; rfl
    rw [e]
    have h0 := P_pos k
    omega
theorem numB_digs {l : List UInt8} (h : ∀ c ∈ l, dgt c = true) : (digs (numB l)).length ≤ l.length := by
  have h1 := numB_lt _ l rfl h
  have h2 := ten_le_P l.length
  exact digs_le (by omega)
theorem readS_nil {l : List UInt8} (h : bodyB l = []) : readS l = none := by unfold readS; rw [h, if_neg]; rintro ⟨h1, _⟩; cases h1
theorem readS_zero {l : List UInt8} (h : (bodyB l).head? = some 48) (h1 : l ≠ [48]) : readS l = none := by unfold readS; rw [if_neg]; rintro ⟨_, h2⟩; exact h2 ⟨h, h1⟩
theorem readS_bad {l : List UInt8} {c : UInt8} (h : c ∈ bodyB l) (h1 : dgt c = false) : readS l = none := by
  unfold readS; rw [if_neg]
  rintro ⟨h2, _⟩
  simp only [decB, Bool.and_eq_true] at h2
  have := List.all_eq_true.1 h2.2 c h
  rw [h1] at this; cases this
theorem readS_good {l : List UInt8} (h0 : bodyB l ≠ []) (h : (bodyB l).all dgt = true) (h1 : ¬ ((bodyB l).head? = some 48 ∧ l ≠ [48])) : readS l = some (if negB l then -(numB (bodyB l) : Int) else numB (bodyB l)) := by
  unfold readS; rw [if_pos]
  refine ⟨?_, h1⟩
  unfold decB
  rw [h, Bool.and_true]
  cases hb : bodyB l with
  | nil => exact absurd hb h0
  | cons a m => rfl
theorem digs_ten : digs 10 = [10] := by rw [digs_pos (by decide), show 10 / 1048576 = 0 from rfl, digs_zero]; rfl
theorem ten_a (W : World) : Ints ((W.alloc (.cells #[.int .i64 10] 3)).drew) (.slice (some ⟨W.heap.size, 0, none⟩) 1 1) (digs 10) := by rw [digs_ten]; exact ints_one W 10
theorem ten_b (W : World) (B : Obj) : Ints (((W.alloc (.cells #[.int .i64 10] 3)).alloc B).drew) (.slice (some ⟨W.heap.size, 0, none⟩) 1 1) (digs 10) := by
  rw [digs_ten]; exact (one_ints W 10).later ((below_alloc _ B).drew)
theorem ten_c (W : World) (x : Int) : Ints (((W.alloc (.cells #[.int .i64 x] 3)).alloc (.cells #[.int .i64 10] 3)).drew) (.slice (some ⟨W.heap.size + 1, 0, none⟩) 1 1) (digs 10) := by
  have := ten_a (W.alloc (.cells #[.int .i64 x] 3))
  simpa using this
theorem last_b (W : World) (x d : Int) : Ints (((W.alloc (.cells #[.int .i64 x] 3)).alloc (.cells #[.int .i64 d] 3)).drew) (.slice (some ⟨W.heap.size + 1, 0, none⟩) 1 1) [d] := by
  have := ints_one (W.alloc (.cells #[.int .i64 x] 3)) d
  simpa using this

set_option maxHeartbeats 8000000 in
theorem rread_pos (s T : ByteArray) (hs : s.size ≤ 100000) (h0 : 0 < s.size) (h45 : ((s[0].toNat : Int) == 45) = false) (hT : T.data.toList = bodyB s.data.toList) (hng : negB s.data.toList = false) (hts : T.size ≤ s.size)
    (hTs : T = s) (w : World) :
    Calls Tryz.prog 53 #[.string s] w (ReadP (readS s.data.toList) w) := by
  have HR := Lib.hid (Res.start w)
  obtain ⟨rs, ers⟩ : ∃ rs, readS s.data.toList = rs := ⟨_, rfl⟩
  have HRS := Lib.hid ers
  rw [ers]
  have HT := Lib.hid hT
  have HNG := Lib.hid hng
  have HTS : Hid (T.size ≤ 100000) := by unfold Hid; omega
  have HB0 := Lib.hid (below_alloc w (.cells #[.int .i64 0, .slice none 0 0] 24))
  subst hTs
  clear ers hT hng hts hs
  by_cases hT0 : T.size = 0
  · exact absurd hT0 (by omega)
  · have hTp : 0 < T.size := by omega
    have hemp : (T.toList == []) = false := by
      rw [Lib.toList_data]
      cases hl : T.data.toList with
      | nil => have := sizeB T; rw [hl] at this; simp at this; omega
      | cons a m => rfl
    have HNE : Hid (bodyB T.data.toList ≠ []) := by
      unfold Hid; intro h
      have := sizeB T
      rw [HT.out, h] at this; simp at this; omega
    by_cases hz : T[0] = 48 ∧ T.data.toList ≠ [48]
    · have hz2 : ((T[0].toNat : Int) == 48) = true := by rw [hz.1]; rfl
      have hs2 : ¬ T.toList = [48] := by rw [Lib.toList_data]; exact hz.2
      have hs3 : (!T.toList == [48]) = true := by simpa using hs2
      have HN : Hid (rs = none) := by
        unfold Hid; rw [← HRS.out]
        refine readS_zero ?_ hz.2
        rw [← HT.out, head_get hTp, hz.1]
      obtain ⟨r0, r1, f0, f1⟩ := HR.out.cells
      clear hT0 hz hs2
      go_enter Tryz.func53, Tryz.ntmps53
      go_wp2_with fail
      exact bodyPost_ret (v := .tuple #[.agg #[.int .i64 0, .slice none 0 0], .int .i64 2]) (by simp [results, Tryz.results53, go_sem, r0, r1]) rfl (ReadP.nope0 HN.out HB0.out)
    · have HZ : Hid (¬ ((bodyB T.data.toList).head? = some 48 ∧ T.data.toList ≠ [48])) := by
        unfold Hid; rw [← HT.out, head_get hTp]
        rintro ⟨h1, h2⟩
        exact hz ⟨Option.some.inj h1, h2⟩
      have hcase : ((T[0].toNat : Int) == 48) = false ∨ (((T[0].toNat : Int) == 48) = true ∧ (!T.toList == [48]) = false) := by
        by_cases hz0 : T[0] = 48
        · right
          have h1 : T.data.toList = [48] := Classical.byContradiction fun hne => hz ⟨hz0, hne⟩
          exact ⟨by rw [hz0]; rfl, by rw [Lib.toList_data, h1]; rfl⟩
        · left
          have : T[0].toNat ≠ 48 := fun e => hz0 (by rw [← UInt8.toNat_inj]; exact e)
          simp; omega
      clear hT0 hz
      rcases hcase with hc1 | ⟨hc1, hc2⟩
      all_goals
        go_enter Tryz.func53, Tryz.ntmps53
        go_wp2_with fail
        clear h45 hemp 
        first | clear hc2 hc1 | clear hc1
        go_loop [6] (fun i => ∃ k : Nat, k ≤ T.size ∧ i = .int .i64 k ∧ (T.data.toList.take k).all dgt = true) (fun i => T.size - (intOf i).toNat)
        case atStart => exact ⟨0, Nat.zero_le _, rfl, by simp⟩
        case round =>
          obtain ⟨k, hk, rfl, hall⟩ := hrel
          have HALL := Lib.hid hall
          clear hall
          have hts := HTS.out
          by_cases hlt : k < T.size
          · have hmem := memB T k hlt
            rw [HT.out] at hmem
            obtain ⟨c, ec⟩ : ∃ c : Nat, T[k].toNat = c := ⟨_, rfl⟩
            by_cases h1 : c < 48
            · have HN : Hid (rs = none) := by
                unfold Hid; rw [← HRS.out]
                exact readS_bad hmem (by unfold dgt; rw [ec, decide_eq_false (by omega)]; rfl)
              have hd1 : decide ((T[k].toNat : Int) < 48) = true := decide_eq_true (by omega)
              obtain ⟨r0, r1, f0, f1⟩ := HR.out.cells
              clear hmem ec h1
              go_wp2_with fail
              exact bodyPost_ret (v := .tuple #[.agg #[.int .i64 0, .slice none 0 0], .int .i64 2]) (by simp [results, Tryz.results53, go_sem, r0, r1]) rfl (ReadP.nope0 HN.out HB0.out)
            · by_cases h2 : 57 < c
              · have HN : Hid (rs = none) := by
                  unfold Hid; rw [← HRS.out]
                  exact readS_bad hmem (by unfold dgt; rw [ec, decide_eq_false (show ¬ c ≤ 57 by omega), Bool.and_false])
                have hd1 : decide ((T[k].toNat : Int) < 48) = false := decide_eq_false (by omega)
                have hd2 : decide (57 < (T[k].toNat : Int)) = true := decide_eq_true (by omega)
                obtain ⟨r0, r1, f0, f1⟩ := HR.out.cells
                clear hmem ec h1 h2
                go_wp2_with fail
                exact bodyPost_ret (v := .tuple #[.agg #[.int .i64 0, .slice none 0 0], .int .i64 2]) (by simp [results, Tryz.results53, go_sem, r0, r1]) rfl (ReadP.nope0 HN.out HB0.out)
              · have hd1 : decide ((T[k].toNat : Int) < 48) = false := decide_eq_false (by omega)
                have hd2 : decide (57 < (T[k].toNat : Int)) = false := decide_eq_false (by omega)
                have HS : Hid ((T.data.toList.take (k + 1)).all dgt = true) := by
                  unfold Hid
                  rw [take_snocB T k hlt, List.all_append, HALL.out, Bool.true_and]
                  simp only [List.all_cons, List.all_nil, Bool.and_true]
                  unfold dgt
                  rw [ec, decide_eq_true (show 48 ≤ c by omega), decide_eq_true (show c ≤ 57 by omega)]; rfl
                clear hmem ec h1 h2
                go_wp2_with fail
                go_round
                case rel => exact ⟨k + 1, by omega, by go_num, HS.out⟩
                case measure => simp [intOf]; omega
          · obtain rfl : k = T.size := by omega
            have hall : T.data.toList.all dgt = true := by have := HALL.out; rwa [List.take_of_length_le (by rw [sizeB]; exact Nat.le_refl _)] at this
            have HD : Hid (∀ c ∈ T.data.toList, dgt c = true) := List.all_eq_true.1 hall
            have HGOOD : Hid (rs = some ((numB T.data.toList : Int))) := by
              unfold Hid; rw [← HRS.out, readS_good HNE.out (by rw [← HT.out]; exact hall) HZ.out, HNG.out, ← HT.out]; rfl
            clear hall HALL hlt hk hts
            go_wp2_with fail
            go_loopw [7, 8] (fun l i wr => ∃ (k : Nat) (a : Option Addr) (c : Nat), k ≤ T.size ∧ i = .int .i64 k ∧ l = .slice a (digs (numB (T.data.toList.take k))).length c ∧ Ints wr l (digs (numB (T.data.toList.take k))) ∧ Res w wr ∧ RowKit.Below w.heap.size w wr) (fun _ i _ => T.size - (intOf i).toNat)
            case atStart => exact ⟨0, none, 0, Nat.zero_le _, rfl, by rw [List.take_zero, show numB [] = 0 from rfl, digs_zero]; rfl, by rw [List.take_zero, show numB [] = 0 from rfl, digs_zero]; exact Ints.nil _, HR.out, HB0.out⟩
            case round =>
              obtain ⟨k, a0, c0, hk, rfl, rfl, hi, hres, hbel⟩ := hrel
              have HI := Lib.hid hi
              have HRES := Lib.hid hres
              have HBE := Lib.hid hbel
              have hlen := numB_digs (l := T.data.toList.take k) (fun c hc => HD.out c (List.mem_of_mem_take hc))
              rw [List.length_take, sizeB] at hlen
              have HLEN : Hid ((digs (numB (T.data.toList.take k))).length ≤ 100000) := by unfold Hid; have := HTS.out; omega
              clear hi hres hbel hlen
              have hts := HTS.out
              by_cases hlt : k < T.size
              · have hdg := dgt_of (HD.out _ (memB T k hlt))
                have HN : Hid (numB (T.data.toList.take (k + 1)) = numB (T.data.toList.take k) * 10 + (T[k].toNat - 48)) := by unfold Hid; rw [take_snocB T k hlt, numB_snoc]
                have hl2 := numB_digs (l := T.data.toList.take (k + 1)) (fun c hc => HD.out c (List.mem_of_mem_take hc))
                rw [List.length_take, sizeB] at hl2
                have HL2 : Hid ((digs (numB (T.data.toList.take (k + 1)))).length ≤ 100000) := by unfold Hid; have := HTS.out; omega
                clear hl2
                obtain ⟨M, eM⟩ : ∃ M, numB (T.data.toList.take k) = M := ⟨_, rfl⟩
                obtain ⟨M', eM'⟩ : ∃ M, numB (T.data.toList.take (k + 1)) = M := ⟨_, rfl⟩
                have HEM' := Lib.hid eM'
                rw [eM] at HN HI HLEN ⊢
                rw [eM'] at HN HL2
                obtain ⟨d, ed⟩ : ∃ d : Int, (T[k].toNat : Int) - 48 = d := ⟨_, rfl⟩
                have hd : 0 ≤ d ∧ d ≤ 9 := by omega
                have h48 : IntKind.u8.wrap ((T[k].toNat : Int) - 48) = d := by rw [ed]; exact IntWalk.u8_in _ (by omega)
                have hcv : IntKind.i64.wrap d = d := IntWalk.i64_in _ (by omega)
                have HNN : Hid (M' = M * 10 + d.toNat) := by unfold Hid; rw [HN.out]; omega
                have HDD := Lib.hid hd
                have HTI : Hid (∀ W A C v, Ints W (.slice A (digs M).length C) (digs M) → Ints W v (digs 10) → Calls Tryz.prog 72 #[.slice A (digs M).length C, v] W (Copy (digs (M * 10)) W)) := fun W A C v h1 h2 => rtimes_n _ v M 10 W h1 h2 (by have := HLEN.out; omega) (by rw [digs_ten]; simp)
                have HTR : Hid (∀ W g, Ints W (.slice (some ⟨g, 0, none⟩) 1 1) [d] → Calls Tryz.prog 83 #[.slice (some ⟨g, 0, none⟩) 1 1] W (Copy (digs d.toNat) W)) := by
                  intro W g h1
                  have := rtrim_any (some ⟨g, 0, none⟩) 1 [d] (one_dig HDD.out.1 (by have := HDD.out; omega)) W h1 (by simp)
                  rwa [one_val] at this
                have HPL : Hid (∀ W vx vy, Ints W vx (digs (M * 10)) → Ints W vy (digs d.toNat) → Calls Tryz.prog 73 #[vx, vy] W (Copy (digs M') W)) := by
                  intro W vx vy h1 h2
                  rw [HNN.out]
                  exact rplus_n vx vy (M * 10) d.toNat W h1 h2 (by have := digs_mono (m := M * 10) (n := M') (by have := HNN.out; omega); have := HL2.out; omega) (by have := digs_mono (m := d.toNat) (n := M') (by have := HNN.out; omega); have := HL2.out; omega)
                have HLM : Hid ((digs (M * 10)).length ≤ 100000) := Nat.le_trans (digs_mono (by have := HNN.out; omega)) HL2.out
                have HLD : Hid ((digs d.toNat).length ≤ 100000) := Nat.le_trans (digs_mono (by have := HNN.out; omega)) HL2.out
                obtain ⟨lm, elm⟩ : ∃ l, (digs M).length = l := ⟨_, rfl⟩
                rw [elm] at HTI HI ⊢
                clear hdg eM eM' ed hd elm
                go_wp2_with fail
                go_region_held3 (fun _ => True) (exact trivial)
                  (first
                    | (go_at_call 72; (with_reducible refine (HTI.out _ _ _ _ ?_ ?_).mono ?_); (focus exact HI.out.later ((below_alloc wr _).drew)); (focus exact ten_a wr); rintro e w3 ⟨v3, rfl, ho3, hb3, _⟩; have HI3 := Lib.hid (ho3.ints (Nat.le_trans HLM.out (by decide))); have HB3 : Hid (RowKit.Below wr.heap.size wr w3) := ((below_alloc wr _).drew).trans (hb3.mono (by simp)); clear ho3 hb3)
                    | (go_at_call 72; (with_reducible refine (HTI.out _ _ _ _ ?_ ?_).mono ?_); (focus exact HI.out.later ((two_alloc wr _ _).drew)); (focus exact ten_b wr _); rintro e w3 ⟨v3, rfl, ho3, hb3, _⟩; have HI3 := Lib.hid (ho3.ints (Nat.le_trans HLM.out (by decide))); have HB3 : Hid (RowKit.Below wr.heap.size wr w3) := ((two_alloc wr _ _).drew).trans (hb3.mono (by simp; omega)); have HID := Lib.hid ((last_b wr 10 d).later hb3); clear ho3 hb3)
                    | (go_at_call 72; (with_reducible refine (HTI.out _ _ _ _ ?_ ?_).mono ?_); (focus exact HI.out.later ((two_alloc wr _ _).drew)); (focus exact ten_c wr d); rintro e w3 ⟨v3, rfl, ho3, hb3, _⟩; have HI3 := Lib.hid (ho3.ints (Nat.le_trans HLM.out (by decide))); have HB3 : Hid (RowKit.Below wr.heap.size wr w3) := ((two_alloc wr _ _).drew).trans (hb3.mono (by simp; omega)); have HID := Lib.hid (((one_ints wr d).later ((below_alloc _ (.cells #[.int .i64 10] 3)).drew)).later hb3); clear ho3 hb3)
                    | (go_at_call 83; (with_reducible refine (HTR.out _ _ ?_).mono ?_); (focus exact HID.out); rintro e w4 ⟨v4, rfl, ho4, hb4, _⟩; have HI4 := Lib.hid (ho4.ints (Nat.le_trans HLD.out (by decide))); have HI34 := Lib.hid (HI3.out.later hb4); have HB4 := Lib.hid (HB3.out.trans (hb4.mono HB3.out.size)); clear ho4 hb4)
                    | (go_at_call 83; (with_reducible refine (HTR.out _ _ ?_).mono ?_); (focus exact one_ints w3 d); rintro e w4 ⟨v4, rfl, ho4, hb4, _⟩; have HI4 := Lib.hid (ho4.ints (Nat.le_trans HLD.out (by decide))); have HI34 := Lib.hid ((HI3.out.later (below_alloc w3 _)).later hb4); have HB4 := Lib.hid ((HB3.out.trans ((below_alloc w3 _).mono HB3.out.size)).trans (hb4.mono (by have := HB3.out.size; simp; omega))); clear ho4 hb4)
                    | (go_at_call 73; (with_reducible refine (HPL.out _ _ _ ?_ ?_).mono ?_); (focus exact HI34.out); (focus exact HI4.out); rintro e w5 ⟨v5, rfl, ho5, hb5, _⟩; have HI5 := Lib.hid (ho5.ints (Nat.le_trans HL2.out (by decide))); obtain ⟨a5, c5, rfl⟩ := ho5.fit; have HB5 := Lib.hid (HB4.out.trans (hb5.mono HB4.out.size)); clear ho5 hb5))
                all_goals
                  obtain ⟨l5, el5⟩ : ∃ l, (digs M').length = l := ⟨_, rfl⟩
                  have HEL := Lib.hid el5
                  rw [el5] at HI5 ⊢
                  clear el5
                  go_wp2_with fail
                  go_roundw
                  case rel => exact ⟨k + 1, a5, c5, by omega, by go_num, by rw [HEM'.out, HEL.out], by rw [HEM'.out]; exact HI5.out, HRES.out.later HB5.out, HBE.out.trans (HB5.out.mono HBE.out.size)⟩
                  case measure => simp [intOf]; omega
              · obtain rfl : k = T.size := by omega
                have eT : T.data.toList.take T.size = T.data.toList := List.take_of_length_le (by rw [sizeB]; exact Nat.le_refl _)
                rw [eT] at HI HLEN ⊢
                obtain ⟨M, eM⟩ : ∃ M, numB T.data.toList = M := ⟨_, rfl⟩
                rw [eM] at HI HLEN HGOOD ⊢
                obtain ⟨z, ez⟩ : ∃ z : Int, (M : Int) = z := ⟨_, rfl⟩
                have HM : Hid (∀ W A C, Ints W (.slice A (digs M).length C) (digs M) → Calls Tryz.prog 71 #[.int .i64 1, .slice A (digs M).length C] W (AnsB z W)) := fun W A C hW => rmade_n 1 A C M z (by omega) (fun hne => by rw [Int.sign_eq_one_of_pos (by omega)]) W hW (Nat.le_trans HLEN.out (by decide))
                rw [ez] at HGOOD
                obtain ⟨lm, elm⟩ : ∃ l, (digs M).length = l := ⟨_, rfl⟩
                rw [elm] at HM HI ⊢
                clear hk hlt eT eM ez elm
                go_wp2_with fail
                refine (HM.out _ _ _ HI.out).mono ?_
                rintro e w5 ⟨s5, rfl, hi5, hb5, ho5⟩
                obtain ⟨a5, c5, rfl, hi6⟩ := hi5.open
                have HO5 := Lib.hid ho5
                have HI6 := Lib.hid hi6
                have HB5 := Lib.hid (HBE.out.trans (hb5.mono HBE.out.size))
                have hres := HRES.out.later hb5
                obtain ⟨r0, r1, f0, f1⟩ := hres.cells
                clear hi5 hi6 hb5 ho5 hres
                go_wp2_with fail
                have hsz : w.heap.size < wr.heap.size := (Array.getElem?_eq_some_iff.1 HRES.out).1
                have hoff := HO5.out w.heap.size hsz
                exact bodyPost_ret (v := .tuple #[.agg #[.int .i64 z.sign, .slice a5 (digs z.natAbs).length c5], .int .i64 0]) (by simp [results, Tryz.results53, go_sem, r0, r1]) rfl
                  (ReadP.some HGOOD.out ⟨_, rfl, (HI6.out.set hoff 0 _).set hoff 1 _, (HB5.out.setCell (Nat.le_refl _) _).setCell (Nat.le_refl _) _, fun g hg => HO5.out g (by omega)⟩)

set_option maxHeartbeats 8000000 in
theorem rread_neg (s T : ByteArray) (hs : s.size ≤ 100000) (h0 : 0 < s.size) (h45 : ((s[0].toNat : Int) == 45) = true) (hT : T.data.toList = bodyB s.data.toList) (hng : negB s.data.toList = true) (hts : T.size ≤ s.size)
    (hcut : ∀ W, (Instr.slice 9 (.string s) (some (.int .i64 1)) none none).run Tryz.prog W = .ok (.string T) W) (w : World) :
    Calls Tryz.prog 53 #[.string s] w (ReadP (readS s.data.toList) w) := by
  have HR := Lib.hid (Res.start w)
  obtain ⟨rs, ers⟩ : ∃ rs, readS s.data.toList = rs := ⟨_, rfl⟩
  have HRS := Lib.hid ers
  rw [ers]
  have HT := Lib.hid hT
  have HNG := Lib.hid hng
  have HTS : Hid (T.size ≤ 100000) := by unfold Hid; omega
  have HB0 := Lib.hid (below_alloc w (.cells #[.int .i64 0, .slice none 0 0] 24))
  clear ers hT hng hts hs
  by_cases hT0 : T.size = 0
  · have hT1 : T = ⟨#[]⟩ := by
      apply ByteArray.ext
      exact Array.eq_empty_of_size_eq_zero hT0
    have HN : Hid (rs = none) := by
      unfold Hid; rw [← HRS.out]
      exact readS_nil (by rw [← HT.out, hT1])
    subst hT1
    obtain ⟨r0, r1, f0, f1⟩ := HR.out.cells
    clear hT0
    go_enter Tryz.func53, Tryz.ntmps53
    go_wp2_with fail
    exact bodyPost_ret (v := .tuple #[.agg #[.int .i64 0, .slice none 0 0], .int .i64 2]) (by simp [results, Tryz.results53, go_sem, r0, r1]) rfl (ReadP.nope0 HN.out HB0.out)
  · have hTp : 0 < T.size := by omega
    have hemp : (T.toList == []) = false := by
      rw [Lib.toList_data]
      cases hl : T.data.toList with
      | nil => have := sizeB T; rw [hl] at this; simp at this; omega
      | cons a m => rfl
    have HNE : Hid (bodyB s.data.toList ≠ []) := by
      unfold Hid; intro h
      have := sizeB T
      rw [HT.out, h] at this; simp at this; omega
    by_cases hz : T[0] = 48 ∧ s.data.toList ≠ [48]
    · have hz2 : ((T[0].toNat : Int) == 48) = true := by rw [hz.1]; rfl
      have hs2 : ¬ s.toList = [48] := by rw [Lib.toList_data]; exact hz.2
      have hs3 : (!s.toList == [48]) = true := by simpa using hs2
      have HN : Hid (rs = none) := by
        unfold Hid; rw [← HRS.out]
        refine readS_zero ?_ hz.2
        rw [← HT.out, head_get hTp, hz.1]
      obtain ⟨r0, r1, f0, f1⟩ := HR.out.cells
      clear hT0 hz hs2
      go_enter Tryz.func53, Tryz.ntmps53
      go_wp2_with fail
      exact bodyPost_ret (v := .tuple #[.agg #[.int .i64 0, .slice none 0 0], .int .i64 2]) (by simp [results, Tryz.results53, go_sem, r0, r1]) rfl (ReadP.nope0 HN.out HB0.out)
    · have HZ : Hid (¬ ((bodyB s.data.toList).head? = some 48 ∧ s.data.toList ≠ [48])) := by
        unfold Hid; rw [← HT.out, head_get hTp]
        rintro ⟨h1, h2⟩
        exact hz ⟨Option.some.inj h1, h2⟩
      have hcase : ((T[0].toNat : Int) == 48) = false ∨ (((T[0].toNat : Int) == 48) = true ∧ (!s.toList == [48]) = false) := by
        by_cases hz0 : T[0] = 48
        · right
          have h1 : s.data.toList = [48] := Classical.byContradiction fun hne => hz ⟨hz0, hne⟩
          exact ⟨by rw [hz0]; rfl, by rw [Lib.toList_data, h1]; rfl⟩
        · left
          have : T[0].toNat ≠ 48 := fun e => hz0 (by rw [← UInt8.toNat_inj]; exact e)
          simp; omega
      clear hT0 hz
      rcases hcase with hc1 | ⟨hc1, hc2⟩
      all_goals
        go_enter Tryz.func53, Tryz.ntmps53
        go_wp2_with fail
        clear h45 hemp hcut
        first | clear hc2 hc1 | clear hc1
        go_loop [6] (fun i => ∃ k : Nat, k ≤ T.size ∧ i = .int .i64 k ∧ (T.data.toList.take k).all dgt = true) (fun i => T.size - (intOf i).toNat)
        case atStart => exact ⟨0, Nat.zero_le _, rfl, by simp⟩
        case round =>
          obtain ⟨k, hk, rfl, hall⟩ := hrel
          have HALL := Lib.hid hall
          clear hall
          have hts := HTS.out
          by_cases hlt : k < T.size
          · have hmem := memB T k hlt
            rw [HT.out] at hmem
            obtain ⟨c, ec⟩ : ∃ c : Nat, T[k].toNat = c := ⟨_, rfl⟩
            by_cases h1 : c < 48
            · have HN : Hid (rs = none) := by
                unfold Hid; rw [← HRS.out]
                exact readS_bad hmem (by unfold dgt; rw [ec, decide_eq_false (by omega)]; rfl)
              have hd1 : decide ((T[k].toNat : Int) < 48) = true := decide_eq_true (by omega)
              obtain ⟨r0, r1, f0, f1⟩ := HR.out.cells
              clear hmem ec h1
              go_wp2_with fail
              exact bodyPost_ret (v := .tuple #[.agg #[.int .i64 0, .slice none 0 0], .int .i64 2]) (by simp [results, Tryz.results53, go_sem, r0, r1]) rfl (ReadP.nope0 HN.out HB0.out)
            · by_cases h2 : 57 < c
              · have HN : Hid (rs = none) := by
                  unfold Hid; rw [← HRS.out]
                  exact readS_bad hmem (by unfold dgt; rw [ec, decide_eq_false (show ¬ c ≤ 57 by omega), Bool.and_false])
                have hd1 : decide ((T[k].toNat : Int) < 48) = false := decide_eq_false (by omega)
                have hd2 : decide (57 < (T[k].toNat : Int)) = true := decide_eq_true (by omega)
                obtain ⟨r0, r1, f0, f1⟩ := HR.out.cells
                clear hmem ec h1 h2
                go_wp2_with fail
                exact bodyPost_ret (v := .tuple #[.agg #[.int .i64 0, .slice none 0 0], .int .i64 2]) (by simp [results, Tryz.results53, go_sem, r0, r1]) rfl (ReadP.nope0 HN.out HB0.out)
              · have hd1 : decide ((T[k].toNat : Int) < 48) = false := decide_eq_false (by omega)
                have hd2 : decide (57 < (T[k].toNat : Int)) = false := decide_eq_false (by omega)
                have HS : Hid ((T.data.toList.take (k + 1)).all dgt = true) := by
                  unfold Hid
                  rw [take_snocB T k hlt, List.all_append, HALL.out, Bool.true_and]
                  simp only [List.all_cons, List.all_nil, Bool.and_true]
                  unfold dgt
                  rw [ec, decide_eq_true (show 48 ≤ c by omega), decide_eq_true (show c ≤ 57 by omega)]; rfl
                clear hmem ec h1 h2
                go_wp2_with fail
                go_round
                case rel => exact ⟨k + 1, by omega, by go_num, HS.out⟩
                case measure => simp [intOf]; omega
          · obtain rfl : k = T.size := by omega
            have hall : T.data.toList.all dgt = true := by have := HALL.out; rwa [List.take_of_length_le (by rw [sizeB]; exact Nat.le_refl _)] at this
            have HD : Hid (∀ c ∈ T.data.toList, dgt c = true) := List.all_eq_true.1 hall
            have HGOOD : Hid (rs = some (-(numB T.data.toList : Int))) := by
              unfold Hid; rw [← HRS.out, readS_good HNE.out (by rw [← HT.out]; exact hall) HZ.out, HNG.out, ← HT.out]; rfl
            clear hall HALL hlt hk hts
            go_wp2_with fail
            go_loopw [7, 8] (fun l i wr => ∃ (k : Nat) (a : Option Addr) (c : Nat), k ≤ T.size ∧ i = .int .i64 k ∧ l = .slice a (digs (numB (T.data.toList.take k))).length c ∧ Ints wr l (digs (numB (T.data.toList.take k))) ∧ Res w wr ∧ RowKit.Below w.heap.size w wr) (fun _ i _ => T.size - (intOf i).toNat)
            case atStart => exact ⟨0, none, 0, Nat.zero_le _, rfl, by rw [List.take_zero, show numB [] = 0 from rfl, digs_zero]; rfl, by rw [List.take_zero, show numB [] = 0 from rfl, digs_zero]; exact Ints.nil _, HR.out, HB0.out⟩
            case round =>
              obtain ⟨k, a0, c0, hk, rfl, rfl, hi, hres, hbel⟩ := hrel
              have HI := Lib.hid hi
              have HRES := Lib.hid hres
              have HBE := Lib.hid hbel
              have hlen := numB_digs (l := T.data.toList.take k) (fun c hc => HD.out c (List.mem_of_mem_take hc))
              rw [List.length_take, sizeB] at hlen
              have HLEN : Hid ((digs (numB (T.data.toList.take k))).length ≤ 100000) := by unfold Hid; have := HTS.out; omega
              clear hi hres hbel hlen
              have hts := HTS.out
              by_cases hlt : k < T.size
              · have hdg := dgt_of (HD.out _ (memB T k hlt))
                have HN : Hid (numB (T.data.toList.take (k + 1)) = numB (T.data.toList.take k) * 10 + (T[k].toNat - 48)) := by unfold Hid; rw [take_snocB T k hlt, numB_snoc]
                have hl2 := numB_digs (l := T.data.toList.take (k + 1)) (fun c hc => HD.out c (List.mem_of_mem_take hc))
                rw [List.length_take, sizeB] at hl2
                have HL2 : Hid ((digs (numB (T.data.toList.take (k + 1)))).length ≤ 100000) := by unfold Hid; have := HTS.out; omega
                clear hl2
                obtain ⟨M, eM⟩ : ∃ M, numB (T.data.toList.take k) = M := ⟨_, rfl⟩
                obtain ⟨M', eM'⟩ : ∃ M, numB (T.data.toList.take (k + 1)) = M := ⟨_, rfl⟩
                have HEM' := Lib.hid eM'
                rw [eM] at HN HI HLEN ⊢
                rw [eM'] at HN HL2
                obtain ⟨d, ed⟩ : ∃ d : Int, (T[k].toNat : Int) - 48 = d := ⟨_, rfl⟩
                have hd : 0 ≤ d ∧ d ≤ 9 := by omega
                have h48 : IntKind.u8.wrap ((T[k].toNat : Int) - 48) = d := by rw [ed]; exact IntWalk.u8_in _ (by omega)
                have hcv : IntKind.i64.wrap d = d := IntWalk.i64_in _ (by omega)
                have HNN : Hid (M' = M * 10 + d.toNat) := by unfold Hid; rw [HN.out]; omega
                have HDD := Lib.hid hd
                have HTI : Hid (∀ W A C v, Ints W (.slice A (digs M).length C) (digs M) → Ints W v (digs 10) → Calls Tryz.prog 72 #[.slice A (digs M).length C, v] W (Copy (digs (M * 10)) W)) := fun W A C v h1 h2 => rtimes_n _ v M 10 W h1 h2 (by have := HLEN.out; omega) (by rw [digs_ten]; simp)
                have HTR : Hid (∀ W g, Ints W (.slice (some ⟨g, 0, none⟩) 1 1) [d] → Calls Tryz.prog 83 #[.slice (some ⟨g, 0, none⟩) 1 1] W (Copy (digs d.toNat) W)) := by
                  intro W g h1
                  have := rtrim_any (some ⟨g, 0, none⟩) 1 [d] (one_dig HDD.out.1 (by have := HDD.out; omega)) W h1 (by simp)
                  rwa [one_val] at this
                have HPL : Hid (∀ W vx vy, Ints W vx (digs (M * 10)) → Ints W vy (digs d.toNat) → Calls Tryz.prog 73 #[vx, vy] W (Copy (digs M') W)) := by
                  intro W vx vy h1 h2
                  rw [HNN.out]
                  exact rplus_n vx vy (M * 10) d.toNat W h1 h2 (by have := digs_mono (m := M * 10) (n := M') (by have := HNN.out; omega); have := HL2.out; omega) (by have := digs_mono (m := d.toNat) (n := M') (by have := HNN.out; omega); have := HL2.out; omega)
                have HLM : Hid ((digs (M * 10)).length ≤ 100000) := Nat.le_trans (digs_mono (by have := HNN.out; omega)) HL2.out
                have HLD : Hid ((digs d.toNat).length ≤ 100000) := Nat.le_trans (digs_mono (by have := HNN.out; omega)) HL2.out
                obtain ⟨lm, elm⟩ : ∃ l, (digs M).length = l := ⟨_, rfl⟩
                rw [elm] at HTI HI ⊢
                clear hdg eM eM' ed hd elm
                go_wp2_with fail
                go_region_held3 (fun _ => True) (exact trivial)
                  (first
                    | (go_at_call 72; (with_reducible refine (HTI.out _ _ _ _ ?_ ?_).mono ?_); (focus exact HI.out.later ((below_alloc wr _).drew)); (focus exact ten_a wr); rintro e w3 ⟨v3, rfl, ho3, hb3, _⟩; have HI3 := Lib.hid (ho3.ints (Nat.le_trans HLM.out (by decide))); have HB3 : Hid (RowKit.Below wr.heap.size wr w3) := ((below_alloc wr _).drew).trans (hb3.mono (by simp)); clear ho3 hb3)
                    | (go_at_call 72; (with_reducible refine (HTI.out _ _ _ _ ?_ ?_).mono ?_); (focus exact HI.out.later ((two_alloc wr _ _).drew)); (focus exact ten_b wr _); rintro e w3 ⟨v3, rfl, ho3, hb3, _⟩; have HI3 := Lib.hid (ho3.ints (Nat.le_trans HLM.out (by decide))); have HB3 : Hid (RowKit.Below wr.heap.size wr w3) := ((two_alloc wr _ _).drew).trans (hb3.mono (by simp; omega)); have HID := Lib.hid ((last_b wr 10 d).later hb3); clear ho3 hb3)
                    | (go_at_call 72; (with_reducible refine (HTI.out _ _ _ _ ?_ ?_).mono ?_); (focus exact HI.out.later ((two_alloc wr _ _).drew)); (focus exact ten_c wr d); rintro e w3 ⟨v3, rfl, ho3, hb3, _⟩; have HI3 := Lib.hid (ho3.ints (Nat.le_trans HLM.out (by decide))); have HB3 : Hid (RowKit.Below wr.heap.size wr w3) := ((two_alloc wr _ _).drew).trans (hb3.mono (by simp; omega)); have HID := Lib.hid (((one_ints wr d).later ((below_alloc _ (.cells #[.int .i64 10] 3)).drew)).later hb3); clear ho3 hb3)
                    | (go_at_call 83; (with_reducible refine (HTR.out _ _ ?_).mono ?_); (focus exact HID.out); rintro e w4 ⟨v4, rfl, ho4, hb4, _⟩; have HI4 := Lib.hid (ho4.ints (Nat.le_trans HLD.out (by decide))); have HI34 := Lib.hid (HI3.out.later hb4); have HB4 := Lib.hid (HB3.out.trans (hb4.mono HB3.out.size)); clear ho4 hb4)
                    | (go_at_call 83; (with_reducible refine (HTR.out _ _ ?_).mono ?_); (focus exact one_ints w3 d); rintro e w4 ⟨v4, rfl, ho4, hb4, _⟩; have HI4 := Lib.hid (ho4.ints (Nat.le_trans HLD.out (by decide))); have HI34 := Lib.hid ((HI3.out.later (below_alloc w3 _)).later hb4); have HB4 := Lib.hid ((HB3.out.trans ((below_alloc w3 _).mono HB3.out.size)).trans (hb4.mono (by have := HB3.out.size; simp; omega))); clear ho4 hb4)
                    | (go_at_call 73; (with_reducible refine (HPL.out _ _ _ ?_ ?_).mono ?_); (focus exact HI34.out); (focus exact HI4.out); rintro e w5 ⟨v5, rfl, ho5, hb5, _⟩; have HI5 := Lib.hid (ho5.ints (Nat.le_trans HL2.out (by decide))); obtain ⟨a5, c5, rfl⟩ := ho5.fit; have HB5 := Lib.hid (HB4.out.trans (hb5.mono HB4.out.size)); clear ho5 hb5))
                all_goals
                  obtain ⟨l5, el5⟩ : ∃ l, (digs M').length = l := ⟨_, rfl⟩
                  have HEL := Lib.hid el5
                  rw [el5] at HI5 ⊢
                  clear el5
                  go_wp2_with fail
                  go_roundw
                  case rel => exact ⟨k + 1, a5, c5, by omega, by go_num, by rw [HEM'.out, HEL.out], by rw [HEM'.out]; exact HI5.out, HRES.out.later HB5.out, HBE.out.trans (HB5.out.mono HBE.out.size)⟩
                  case measure => simp [intOf]; omega
              · obtain rfl : k = T.size := by omega
                have eT : T.data.toList.take T.size = T.data.toList := List.take_of_length_le (by rw [sizeB]; exact Nat.le_refl _)
                rw [eT] at HI HLEN ⊢
                obtain ⟨M, eM⟩ : ∃ M, numB T.data.toList = M := ⟨_, rfl⟩
                rw [eM] at HI HLEN HGOOD ⊢
                obtain ⟨z, ez⟩ : ∃ z : Int, -(M : Int) = z := ⟨_, rfl⟩
                have HM : Hid (∀ W A C, Ints W (.slice A (digs M).length C) (digs M) → Calls Tryz.prog 71 #[.int .i64 (-1), .slice A (digs M).length C] W (AnsB z W)) := fun W A C hW => rmade_n (-1) A C M z (by omega) (fun hne => by rw [Int.sign_eq_neg_one_of_neg (by omega)]) W hW (Nat.le_trans HLEN.out (by decide))
                rw [ez] at HGOOD
                obtain ⟨lm, elm⟩ : ∃ l, (digs M).length = l := ⟨_, rfl⟩
                rw [elm] at HM HI ⊢
                clear hk hlt eT eM ez elm
                go_wp2_with fail
                refine (HM.out _ _ _ HI.out).mono ?_
                rintro e w5 ⟨s5, rfl, hi5, hb5, ho5⟩
                obtain ⟨a5, c5, rfl, hi6⟩ := hi5.open
                have HO5 := Lib.hid ho5
                have HI6 := Lib.hid hi6
                have HB5 := Lib.hid (HBE.out.trans (hb5.mono HBE.out.size))
                have hres := HRES.out.later hb5
                obtain ⟨r0, r1, f0, f1⟩ := hres.cells
                clear hi5 hi6 hb5 ho5 hres
                go_wp2_with fail
                have hsz : w.heap.size < wr.heap.size := (Array.getElem?_eq_some_iff.1 HRES.out).1
                have hoff := HO5.out w.heap.size hsz
                exact bodyPost_ret (v := .tuple #[.agg #[.int .i64 z.sign, .slice a5 (digs z.natAbs).length c5], .int .i64 0]) (by simp [results, Tryz.results53, go_sem, r0, r1]) rfl
                  (ReadP.some HGOOD.out ⟨_, rfl, (HI6.out.set hoff 0 _).set hoff 1 _, (HB5.out.setCell (Nat.le_refl _) _).setCell (Nat.le_refl _) _, fun g hg => HO5.out g (by omega)⟩)

set_option maxHeartbeats 2000000 in
theorem rread_none (w : World) : Calls Tryz.prog 53 #[.string ⟨#[]⟩] w (ReadP none w) := by
  have HR := Lib.hid (Res.start w)
  have HB0 := Lib.hid (below_alloc w (.cells #[.int .i64 0, .slice none 0 0] 24))
  obtain ⟨r0, r1, f0, f1⟩ := HR.out.cells
  go_enter Tryz.func53, Tryz.ntmps53
  go_wp2_with fail
  exact bodyPost_ret (v := .tuple #[.agg #[.int .i64 0, .slice none 0 0], .int .i64 2]) (by simp [results, Tryz.results53, go_sem, r0, r1]) rfl (ReadP.nope0 rfl HB0.out)
theorem rread_any (s : ByteArray) (hs : s.size ≤ 100000) (w : World) : Calls Tryz.prog 53 #[.string s] w (match readS s.data.toList with | some z => Ans z 0 w | none => Ans 0 2 w) := by
  have key : Calls Tryz.prog 53 #[.string s] w (ReadP (readS s.data.toList) w) := by
    by_cases h0 : s.size = 0
    · have h1 : s = ⟨#[]⟩ := by
        apply ByteArray.ext
        exact Array.eq_empty_of_size_eq_zero h0
      subst h1
      exact rread_none w
    · have hp : 0 < s.size := by omega
      have hh := head_get hp
      by_cases h45 : s[0] = 45
      · obtain ⟨l, hl⟩ : ∃ l, s.data.toList = 45 :: l := by
          cases hl : s.data.toList with
          | nil => rw [hl] at hh; cases hh
          | cons a m => rw [hl, h45] at hh; exact ⟨m, by rw [Option.some.inj hh]⟩
        have hn := neg_cons l
        rw [← hl] at hn
        have hT : (s.extract 1 s.size).data.toList = l := by
          rw [ext_drop, hl]; rfl
        have hsz : (s.extract 1 s.size).size ≤ s.size := by
          have h1 := sizeB (s.extract 1 s.size)
          have h2 := sizeB s
          rw [hT] at h1
          rw [hl, List.length_cons] at h2
          omega
        refine rread_neg s (s.extract 1 s.size) hs hp (by rw [h45]; rfl) (by rw [hT, hn.2]) hn.1 hsz (fun W => ?_) w
        exact run_slice_string_l W 9 s Tryz.underlying9 .i64 1 (by omega) (by omega)
      · have hn := neg_not (l := s.data.toList) (by rw [hh]; intro e; exact h45 (Option.some.inj e))
        have h45' : s[0].toNat ≠ 45 := fun e => h45 (by rw [← UInt8.toNat_inj]; exact e)
        exact rread_pos s s hs hp (by simp; omega) hn.2.symm hn.1 (Nat.le_refl _) rfl w
  refine key.mono fun e w' h => ?_
  unfold ReadP at h
  cases hr : readS s.data.toList with
  | none => rw [hr] at h; exact h
  | some z => rw [hr] at h; exact h
end Go.Proofs.YtnddickcnfodfaaGreatDoor.Bi
