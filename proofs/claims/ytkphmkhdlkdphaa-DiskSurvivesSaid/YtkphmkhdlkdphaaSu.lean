/- DiskSurvives, walked. -/
import Derived.Test.YtkphmkhdlkdphaaV
namespace Go.Proofs.Ytkphmkhdlkdphaa
open Go.RowKit Go.ChangeShapes Go.WideShapes

set_option maxRecDepth 100000 in
set_option maxHeartbeats 4000000 in
theorem surv_out (a a3 : Option Addr) (cap cap3 : Nat) (vs : List Ac) (ks : List Int) (f : Int) (w : World) (hv : ACells w a vs) (hl : vs.length ≤ 9223372036854775807) (hl3 : ks.length ≤ 9223372036854775807)
    (hx : few vs = false ∨ 60 < ks.length) :
    Calls Try.prog 4 #[.slice a vs.length cap, .int .i64 f, .slice a3 ks.length cap3] w (Gives (.bool true) w) := by
  obtain ⟨b, hb⟩ : ∃ b, few vs = b := ⟨_, rfl⟩
  rw [hb] at hx
  have HF := Lib.hid (fun w1 (hw : Ov w.heap.size w w1) => few_later (cap := cap) hv hl hw hb)
  clear hb hv
  cases b
  · clear hx
    go_enter Try.func4, Try.ntmps4
    go_wp2_with fail
    refine (small_any w).mono ?_
    rintro e w1 ⟨rfl, h1⟩
    have H1 := Lib.hid h1
    clear h1
    go_wp2_with fail
    refine (HF.out _ H1.out).mono ?_
    rintro e w2 ⟨rfl, rfl⟩
    go_wp2_with fail
    go_ret
    exact gives_ov H1.out
  · have h60 : 60 < ks.length := by rcases hx with h | h <;> first | (cases h; done) | exact h
    clear hx
    go_enter Try.func4, Try.ntmps4
    go_wp2_with fail
    refine (small_any w).mono ?_
    rintro e w1 ⟨rfl, h1⟩
    have H1 := Lib.hid h1
    clear h1
    go_wp2_with fail
    refine (HF.out _ H1.out).mono ?_
    rintro e w2 ⟨rfl, rfl⟩
    go_wp2_with fail
    go_ret
    exact gives_ov H1.out

set_option maxRecDepth 100000 in
set_option maxHeartbeats 4000000 in
theorem surv_skip (a a3 : Option Addr) (cap cap3 : Nat) (vs : List Ac) (ks : List Int) (f : Int) (w : World) (hv : ACells w a vs) (hl : vs.length ≤ 9223372036854775807) (hl3 : ks.length ≤ 60)
    (hb : few vs = true) (hf : -9223372036854775808 ≤ f ∧ f ≤ 9223372036854775807) (hx : (runs vs St.new).down = true ∨ f < 0 ∨ 15 < f ∨ 100000 < ((runs vs St.new).now f).length) :
    Calls Try.prog 4 #[.slice a vs.length cap, .int .i64 f, .slice a3 ks.length cap3] w (Gives (.bool true) w) := by
  have HF := Lib.hid (fun w1 (hw : Ov w.heap.size w w1) => few_later (cap := cap) hv hl hw hb)
  have HP := Lib.hid (fun w1 (hw : Ov w.heap.size w w1) => played_later (cap := cap) hv hb hw)
  obtain ⟨st, hst⟩ : ∃ st, runs vs St.new = st := ⟨_, rfl⟩
  rw [hst] at HP hx
  obtain ⟨n, hn⟩ : ∃ n, (st.now f).length = n := ⟨_, rfl⟩
  rw [hn] at hx
  have HN := Lib.hid hn
  have hx' : st.down = true ∨ (st.down = false ∧ f < 0) ∨ (st.down = false ∧ ¬ f < 0 ∧ 15 < f) ∨ (st.down = false ∧ ¬ f < 0 ∧ ¬ 15 < f ∧ 100000 < n) := by
    by_cases hd : st.down = true
    · exact .inl hd
    · have hd' : st.down = false := by simpa using hd
      have := hx.resolve_left hd
      by_cases h0 : f < 0
      · exact .inr (.inl ⟨hd', h0⟩)
      · by_cases h1 : 15 < f
        · exact .inr (.inr (.inl ⟨hd', h0, h1⟩))
        · exact .inr (.inr (.inr ⟨hd', h0, h1, by omega⟩))
  clear hst hb hv hx hn
  rcases hx' with hd | ⟨hd, g⟩ | ⟨hd, g1, g2⟩ | ⟨hd, g1, g2, g3⟩
  all_goals
    have HD := Lib.hid hd
    clear hd
    go_enter Try.func4, Try.ntmps4
    go_wp2_with fail
    refine (small_any w).mono ?_
    rintro e w1 ⟨rfl, h1⟩
    have H1 := Lib.hid h1
    clear h1
    go_wp2_with fail
    refine (HF.out _ H1.out).mono ?_
    rintro e w2 ⟨rfl, rfl⟩
    go_wp2_with fail
    refine (HP.out _ H1.out).mono ?_
    rintro e w2 ⟨r, rfl, h2, hb2⟩
    have HO : Hid (Ov w.heap.size w w2) := H1.out.trans hb2
    have HS := Lib.hid (size_one h2 f hf (n := (n : Int)) (by rw [HN.out]))
    have HN := Lib.hid (down_one h2 (b := _) HD.out)
    clear h2 hb2 H1
    go_wp2_with fail
    refine HN.out.mono ?_
    clear HN
    rintro e w' ⟨rfl, rfl⟩
    go_wp2_with (go_at_call 16; refine HS.out.mono ?_; rintro e w' ⟨rfl, rfl⟩)
    go_ret
    exact gives_ov HO.out

set_option maxRecDepth 100000 in
set_option maxHeartbeats 8000000 in
theorem surv_main (a a3 : Option Addr) (cap cap3 : Nat) (vs : List Ac) (ks : List Int) (f : Int) (w : World) (hv : ACells w a vs) (hl : vs.length ≤ 9223372036854775807) (hl3 : ks.length ≤ 60)
    (hk : Ints w (.slice a3 ks.length cap3) ks) (hkb : ∀ x ∈ ks, -9223372036854775808 ≤ x ∧ x ≤ 9223372036854775807) (hb : few vs = true) (hd : (runs vs St.new).down = false) (hf0 : 0 ≤ f) (hf1 : f ≤ 15) (hn : ((runs vs St.new).now f).length ≤ 100000) :
    Calls Try.prog 4 #[.slice a vs.length cap, .int .i64 f, .slice a3 ks.length cap3] w (Gives (.bool true) w) := by
  have HF := Lib.hid (fun w1 (hw : Ov w.heap.size w w1) => few_later (cap := cap) hv hl hw hb)
  have HP := Lib.hid (fun w1 (hw : Ov w.heap.size w w1) => played_later (cap := cap) hv hb hw)
  have hinv := runs_inv vs St.new new_inv
  have hF := isF_yes hf0 hf1
  obtain ⟨st, hst⟩ : ∃ st, runs vs St.new = st := ⟨_, rfl⟩
  rw [hst] at HP hd hn hinv
  obtain ⟨A, hA⟩ : ∃ A : ByteArray, A.data.toList = st.now f := ⟨⟨(st.now f).toArray⟩, rfl⟩
  obtain ⟨D, hD⟩ : ∃ D : ByteArray, D.data.toList = (crash st []).now f := ⟨⟨((crash st []).now f).toArray⟩, rfl⟩
  obtain ⟨Sm, hS⟩ : ∃ Sm : ByteArray, Sm.data.toList = (crash st ks).now f := ⟨⟨((crash st ks).now f).toArray⟩, rfl⟩
  have hAs : A.size = (st.now f).length := by rw [← hA]; exact Lib.size_eq A
  have hDs : D.size = ((crash st []).now f).length := by rw [← hD]; exact Lib.size_eq D
  have hSs : Sm.size = ((crash st ks).now f).length := by rw [← hS]; exact Lib.size_eq Sm
  have hcd : (crash st []).now f = st.dur f := by rw [crash_nil hd]
  have HFACT : Hid (∀ {w1 : World} {r : Nat}, One w.heap.size r st w1 → (D.size ≤ Sm.size ∧ Sm.size ≤ A.size) ∧ (crash st [1]).now f = st.now f ∧
      ∀ n, (∀ j, j / 64 = n → Sm.data.toList.getD j 0 = A.data.toList.getD j 0) ∨ (∀ j, j / 64 = n → Sm.data.toList.getD j 0 = D.data.toList.getD j 0)) := by
    intro w1 r h
    have hw := h.wf
    obtain ⟨s1, s2, s3⟩ := some_now hw hd ks f
    refine ⟨⟨by rw [hDs, hSs, hcd]; exact s1, by rw [hSs, hAs]; exact s2⟩, all_now hw hinv hd f, fun n => ?_⟩
    rw [hS, hA, hD, hcd]
    exact s3 n
  have HA := Lib.hid hA
  have HD := Lib.hid hD
  have HS := Lib.hid hS
  have HDN := Lib.hid hd
  have HISF := Lib.hid hF
  have HK := Lib.hid hk
  have HKB := Lib.hid hkb
  have hA5 : A.size ≤ 100000 := by omega
  have HNL : Hid (((st.now f).length : Int) = (A.size : Int)) := by unfold Hid; rw [hAs]
  clear hb hv hst hd hA hD hS hAs hDs hSs hcd hinv hF hk hkb hn
  go_enter Try.func4, Try.ntmps4
  go_wp2_with fail
  refine (small_any w).mono ?_
  rintro e w1 ⟨rfl, h1⟩
  have H1 := Lib.hid h1
  clear h1
  go_wp2_with fail
  refine (HF.out _ H1.out).mono ?_
  rintro e w2 ⟨rfl, rfl⟩
  go_wp2_with fail
  refine (HP.out _ H1.out).mono ?_
  rintro e w2 ⟨r, rfl, h2, hb2⟩
  have hz : w.heap.size ≤ w2.heap.size := (H1.out.trans hb2).size
  have HO : Hid (Ov w.heap.size w w2) := H1.out.trans hb2
  obtain ⟨⟨z1, z2⟩, hall, hsec⟩ := HFACT.out h2
  have HALL := Lib.hid hall
  have HSEC := Lib.hid hsec
  have HSZ := Lib.hid (size_one h2 f (by omega) HNL.out)
  have HDW := Lib.hid (down_one h2 HDN.out)
  have hrd := readS_whole h2.wf HDN.out HISF.out
  have HRD := Lib.hid (read_one h2 f 0 16777216 (by omega) (by omega) (by omega) (hrd.1.trans HA.out.symm) hrd.2)
  have H2 := Lib.hid h2
  clear h2 hb2 H1 hall hsec hrd HFACT HF HP
  go_wp2_with fail
  refine HDW.out.mono ?_
  clear HDW
  rintro e w' ⟨rfl, rfl⟩
  go_wp2_with fail
  refine HSZ.out.mono ?_
  clear HSZ
  rintro e w' ⟨rfl, rfl⟩
  go_wp2_with fail
  refine HRD.out.mono ?_
  clear HRD
  rintro e w3 ⟨rfl, hb3⟩
  have h3 := H2.out.keep0 hb3
  have HO3 : Hid (Ov w.heap.size w w3) := HO.out.trans (Ov.nothing hb3)
  have hcr := crash_read h3.wf HISF.out []
  have HN := Lib.hid (after_one h3 f (by omega) (.slice none 0 0) [] (nil_ints w3) (by simp) (hcr.1.trans HD.out.symm) hcr.2)
  have H3 := Lib.hid h3
  clear h3 hb3 hcr H2 HO
  go_wp2_with fail
  refine HN.out.mono ?_
  clear HN
  rintro e w4 ⟨rfl, hg4⟩
  have h4 := H3.out.grown hg4
  have HO4 : Hid (Ov w.heap.size w w4) := HO3.out.trans (Ov.grown hg4)
  have hga : w4.grownBy (w4.alloc (.cells #[.int .i64 1] 3)) none := World.grownBy_alloc _ _ _
  have h4a := h4.grown hga
  have hcr := crash_read h4.wf HISF.out [1]
  have HN := Lib.hid (after_one h4a f (by omega) _ [1] (ints1 w4 1) (by simp) (hcr.1.trans (HALL.out.trans HA.out.symm)) hcr.2)
  have H4a := Lib.hid h4a
  have HG4 := Lib.hid hga
  clear h4 h4a hg4 hcr H3 HO3 hga
  go_wp2_with fail
  refine HN.out.mono ?_
  clear HN
  rintro e w5 ⟨rfl, hg5⟩
  have h5 := H4a.out.grown hg5
  have HO5 : Hid (Ov w.heap.size w w5) := (HO4.out.trans (Ov.grown HG4.out)).trans (Ov.grown hg5)
  have hcr := crash_read h5.wf HISF.out ks
  have HN := Lib.hid (after_one h5 f (by omega) _ ks (HK.out.kept fun b _ hlt => HO5.out.block b hlt (by omega)) ⟨by omega, HKB.out⟩ (hcr.1.trans HS.out.symm) hcr.2)
  clear h5 hg5 hcr HO4 H4a HG4
  go_wp2_with fail
  refine HN.out.mono ?_
  clear HN
  rintro e w6 ⟨rfl, hg6⟩
  have HO6 : Hid (Ov w.heap.size w w6) := HO5.out.trans (Ov.grown hg6)
  clear hg6 HO5
  have hD16 : D.size ≤ 16777216 := by omega
  have y1 : ¬ ((Sm.size : Int) < D.size) := by omega
  have y2 : ¬ ((A.size : Int) < Sm.size) := by omega
  have y3 : ¬ (Sm.size < D.size) := by omega
  have y4 : ¬ (A.size < Sm.size) := by omega
  go_wp2_with fail
  go_loopw [17] (fun i wr => ∃ k : Nat, k ≤ 1600 ∧ i = .int .i64 k ∧ Hid (Ov w.heap.size w wr)) (fun i _ => 1600 - (RowKit.intOf i).toNat)
  case atStart => exact ⟨0, by omega, rfl, HO6⟩
  case round =>
    clear HO6
    obtain ⟨k, hk, rfl, hat⟩ := hrel
    by_cases hlt : 64 * k < Sm.size
    · rcases HSEC.out k with hnew | hold
      · have HNEW : Hid (∀ m (_ : m / 64 = k) (h1 : m < Sm.size) (h2 : m < A.size), Sm[m]'h1 = A[m]'h2) := fun m hm h1 h2 => by
          have := hnew m hm
          rw [getD_ba Sm m h1, getD_ba A m h2] at this
          exact this
        clear hnew
        obtain ⟨hk1, hk2⟩ : 64 * k < Sm.size ∧ k ≤ 1600 := by omega
        go_wp2_with fail
        go_loopw [18, 19, 20] (fun nw od i wr => ∃ (m : Nat) (b : Bool), 64 * k ≤ m ∧ m ≤ 64 * k + 64 ∧ nw = .bool true ∧ od = .bool b ∧ i = .int .i64 m ∧ Hid (Ov w.heap.size w wr)) (fun _ _ i _ => 64 * k + 64 - (RowKit.intOf i).toNat)
        case atStart => exact ⟨64 * k, true, by omega, by omega, by first | rfl | exact ⟨rfl, rfl⟩, by first | rfl | exact ⟨rfl, rfl⟩, by go_num, hat⟩
        case round =>
          clear hat
          obtain ⟨m, b, hm1, hm2, rfl, rfl, rfl, hat⟩ := hrel
          by_cases hin : m < 64 * k + 64 ∧ m < Sm.size
          · obtain ⟨hi1, hi2⟩ := hin
            have hA : m < A.size := by omega
            have hj : m / 64 = k := by omega
            have hmi : (m : Int) < 64 * k + 64 := by omega
            have hbyte : (Sm[m]'hi2).toNat = (A[m]'hA).toNat := by rw [HNEW.out m hj hi2 hA]
            have HBY : Hid (∀ w', Calls Try.prog 24 #[.string D, .int .i64 m] w' fun e w2 => e = .returned (.int .u8 ((D.data.toList.getD m 0).toNat : Int)) ∧ w2 = w') := fun w' => (byteAt_any D m hD16 w' rfl).mono fun _ _ ⟨h1, h2⟩ => ⟨h1, h2.symm⟩
            obtain ⟨y, hy⟩ : ∃ y : Int, ((D.data.toList.getD m 0).toNat : Int) = y := ⟨_, rfl⟩
            rw [hy] at HBY
            clear hy hj
            cases b
            all_goals
              go_wp2_with fail
              go_quiet (fail)
              have HQ1 : Hid (Ov w.heap.size w (wr.drewN nq)) := hat.out.trans (Ov.nothing (but_drewN wr nq))
              generalize wr.drewN nq = wq at *
              go_wp2_with fail
              go_quiet ((go_at_call 24; exact Calls.quiet_of_same (HBY.out _)))
              have HQ2 : Hid (Ov w.heap.size w (wq.drewN nq)) := HQ1.out.trans (Ov.nothing (but_drewN wq nq))
              generalize wq.drewN nq = wq2 at *
              go_wp2_with fail
              go_roundw
              case rel => exact ⟨m + 1, _, by omega, by omega, rfl, rfl, by go_num, HQ2⟩
              case measure => simp [RowKit.intOf]; omega
          · have hin' : (¬ m < 64 * k + 64) ∨ (m < 64 * k + 64 ∧ ¬ m < Sm.size) := by omega
            clear hin
            rcases hin' with h | ⟨h, h'⟩
            all_goals
              have hmi : ((m : Int) < 64 * k + 64) ∨ ¬ ((m : Int) < 64 * k + 64) := by omega
              cases b
              all_goals
                go_wp2_with fail
                go_roundw
                case rel => exact ⟨k + 1, by omega, by go_num, hat⟩
                case measure => simp [RowKit.intOf]; omega
      · have HOLD : Hid (∀ m (_ : m / 64 = k) (h1 : m < Sm.size), ((D.data.toList.getD m 0).toNat : Int) = ((Sm[m]'h1).toNat : Int)) := fun m hm h1 => by
          have := hold m hm
          rw [getD_ba Sm m h1] at this
          rw [this]
        clear hold
        obtain ⟨hk1, hk2⟩ : 64 * k < Sm.size ∧ k ≤ 1600 := by omega
        go_wp2_with fail
        go_loopw [18, 19, 20] (fun nw od i wr => ∃ (m : Nat) (b : Bool), 64 * k ≤ m ∧ m ≤ 64 * k + 64 ∧ nw = .bool b ∧ od = .bool true ∧ i = .int .i64 m ∧ Hid (Ov w.heap.size w wr)) (fun _ _ i _ => 64 * k + 64 - (RowKit.intOf i).toNat)
        case atStart => exact ⟨64 * k, true, by omega, by omega, by first | rfl | exact ⟨rfl, rfl⟩, by first | rfl | exact ⟨rfl, rfl⟩, by go_num, hat⟩
        case round =>
          clear hat
          obtain ⟨m, b, hm1, hm2, rfl, rfl, rfl, hat⟩ := hrel
          by_cases hin : m < 64 * k + 64 ∧ m < Sm.size
          · obtain ⟨hi1, hi2⟩ := hin
            have hA : m < A.size := by omega
            have hj : m / 64 = k := by omega
            have hmi : (m : Int) < 64 * k + 64 := by omega
            have HBY : Hid (∀ w', Calls Try.prog 24 #[.string D, .int .i64 m] w' fun e w2 => e = .returned (.int .u8 ((Sm[m]'hi2).toNat : Int)) ∧ w2 = w') := fun w' => (byteAt_any D m hD16 w' (HOLD.out m hj hi2)).mono fun _ _ ⟨h1, h2⟩ => ⟨h1, h2.symm⟩
            clear hj
            cases b
            all_goals
              go_wp2_with fail
              go_quiet (fail)
              have HQ1 : Hid (Ov w.heap.size w (wr.drewN nq)) := hat.out.trans (Ov.nothing (but_drewN wr nq))
              generalize wr.drewN nq = wq at *
              go_wp2_with fail
              go_quiet ((go_at_call 24; exact Calls.quiet_of_same (HBY.out _)))
              have HQ2 : Hid (Ov w.heap.size w (wq.drewN nq)) := HQ1.out.trans (Ov.nothing (but_drewN wq nq))
              generalize wq.drewN nq = wq2 at *
              go_wp2_with fail
              go_roundw
              case rel => exact ⟨m + 1, _, by omega, by omega, rfl, rfl, by go_num, HQ2⟩
              case measure => simp [RowKit.intOf]; omega
          · have hin' : (¬ m < 64 * k + 64) ∨ (m < 64 * k + 64 ∧ ¬ m < Sm.size) := by omega
            clear hin
            rcases hin' with h | ⟨h, h'⟩
            all_goals
              have hmi : ((m : Int) < 64 * k + 64) ∨ ¬ ((m : Int) < 64 * k + 64) := by omega
              cases b
              all_goals
                go_wp2_with fail
                go_roundw
                case rel => exact ⟨k + 1, by omega, by go_num, hat⟩
                case measure => simp [RowKit.intOf]; omega
    · go_wp2_with fail
      go_ret
      exact gives_ov hat.out
end Go.Proofs.Ytkphmkhdlkdphaa
