/- The law JournalTells, walked: it returns true, and turns nothing that was there. -/
import Derived.Test.YtejddacjncpneaaGreatDoorJoTe
import Derived.Deep.RegionWith
import Derived.Deep.RegionHeld3
import Derived.Deep.QuietTactic
import Derived.BigQuiet
import Derived.Deep.CutBlock
import Derived.Deep.CutRange
set_option maxRecDepth 100000
namespace Go.Proofs.YtejddacjncpneaaGreatDoor.Jo
open Go.RowKit Go.WideShapes Go.ChangeShapes Di
open Wi (StrCells)

set_option maxHeartbeats 1000000 in
theorem tells_out (a : Option Addr) (cap : Nat) (vs : List Opn) (w : World) (he : Wi.Env w)
    (hv : OCells w a vs) (hvl : vs.length ≤ 9223372036854775807) (h : few vs = false) :
    Calls Tryz.prog 3 #[.slice a vs.length cap] w (Gives (.bool true) w) := by
  go_enter Tryz.func3, Tryz.ntmps3
  go_wp2_with fail
  refine (small_any w he).mono ?_
  rintro e w1 ⟨rfl, ho⟩
  have HF := Lib.hid (few_any vs a cap w1 (hv.later (Nat.le_refl _) ho) hvl)
  have HO := Lib.hid ho
  clear ho hv he
  rw [h] at HF
  clear h
  go_wp2_with fail
  refine HF.out.mono ?_
  rintro e w2 ⟨rfl, rfl⟩
  go_wp2_with fail
  go_ret
  exact ⟨rfl, HO.out.below (Nat.le_refl _)⟩

set_option maxHeartbeats 60000000 in
theorem tells_in (a : Option Addr) (cap : Nat) (vs : List Opn) (w : World) (he : Wi.Env w)
    (hv : OCells w a vs) (hfew : few vs = true) :
    Calls Tryz.prog 3 #[.slice a vs.length cap] w (Gives (.bool true) w) := by
  have h6 := he.size
  have HE0 := Lib.hid he
  obtain ⟨hfl, hvl⟩ := few_iff.1 hfew
  have HFW := Lib.hid hfl
  have HV := Lib.hid hv
  have HFC : Hid (∀ w1, Ov w.heap.size w w1 → Calls Tryz.prog 5 #[.slice a vs.length cap] w1 fun e w' => e = .returned (.bool true) ∧ w1 = w') := fun w1 ho => by
    have := few_any vs a cap w1 (hv.later (Nat.le_refl _) ho) (by omega)
    rwa [hfew] at this
  clear he hv hfew hfl
  go_enter Tryz.func3, Tryz.ntmps3
  go_wp2_with fail
  refine (small_any w HE0.out).mono ?_
  rintro e w1 ⟨rfl, ho1⟩
  have HF := Lib.hid (HFC.out w1 ho1)
  have HO1 := Lib.hid ho1
  clear ho1 HFC
  go_wp2_with fail
  refine HF.out.mono ?_
  rintro e w2 ⟨rfl, rfl⟩
  clear HF
  go_wp2_with fail
  refine (new_any w1).mono ?_
  rintro e w2 ⟨r, rfl, hdk, hg⟩
  have HK := Lib.hid ((new_dk hdk).lower HO1.out.size)
  have HO2 : Hid (Ov w.heap.size w w2) := HO1.out.trans (Ov.grown hg)
  clear hdk hg HO1
  go_wp2_with fail
  refine (rnew_any w2).mono ?_
  rintro e w3 ⟨q, rfl, hrf, hg⟩
  have HO3 : Hid (Ov w.heap.size w w3) := HO2.out.trans (Ov.grown hg)
  have hz3 := HO3.out.size
  have hbn : Bn w.heap.size r q St.new St.new Nn Tt w3 :=
    ⟨fun b => w2.heap.size ≤ b ∧ b < w3.heap.size, ⟨fun b hb => Nat.le_trans HO2.out.size hb.1, fun _ _ he => he, nn_keeps⟩, HK.out.swap (same_grown hg) (fun b hb => hb.elim (fun h => ⟨.inr h.1, h.2⟩) (fun h => h.elim)) ((keeps_rd ⟨_, hrf, new_relJ⟩).and (nn_keeps _ trivial))⟩
  have HE := Lib.hid (env_ov HE0.out HO3.out h6)
  have HN := Lib.hid (hbn.opens hz3 h6 HE.out)
  clear hrf hg hbn HK HO2
  go_wp2_with fail
  refine HN.out.mono ?_
  clear HN
  rintro e w4 ⟨ho, ⟨hc, _, _⟩ | ⟨hc, jb, rfl, hbh⟩⟩
  · exact absurd g1 hc
  have HO4 : Hid (Ov w.heap.size w w4) := HO3.out.trans ho
  have hz4 := HO4.out.size
  have HN := Lib.hid (hbh.ropens hz4 hc)
  clear ho hbh hc HO3 hz3 HE
  go_wp2_with fail
  refine HN.out.mono ?_
  clear HN
  rintro e w5 ⟨ho, kb, rfl, hbj⟩
  have HO5 : Hid (Ov w.heap.size w w5) := HO4.out.trans ho
  have hji : JI (opS St.new 3) 3 [] [] := new_sx3.op (by intro x hx; cases hx)
  have HL5 : Hid (LT w.heap.size r q 0 (opS St.new 3) (.pointer (some ⟨jb, 0, none⟩)) (.pointer (some ⟨kb, 0, none⟩)) [] [] w5) := by
    rw [g1R] at hbj
    exact ⟨.inr ⟨jb, kb, [], false, rfl, rfl, hbj, fun _ => ⟨rfl, by decide +kernel⟩, List.prefix_refl _⟩, hji, (by intro x hx; cases hx), Nat.le_refl _, (by intro x hx; cases hx)⟩
  clear hbj ho HO4 hz4 hji
  go_wp2_with fail
  go_loopw [6, 7, 8, 9, 10] (fun j e kk f i wr => ∃ (k : Nat) (c : Int), k ≤ vs.length ∧ i = .int .i64 k ∧ e = .int .i64 c ∧ f = .int .i64 c ∧ Hid (Ov w.heap.size w wr) ∧ Hid (∃ st S A, LT w.heap.size r q k st j kk S A wr)) (fun _ _ _ _ i _ => vs.length - (RowKit.intOf i).toNat)
  case atStart => exact ⟨0, 0, by omega, rfl, rfl, rfl, HO5.out, _, _, _, HL5.out⟩
  case round =>
    clear HO5 HL5
    obtain ⟨k, c, hk, rfl, rfl, rfl, HO, HL⟩ := hrel
    obtain ⟨st, S, A, hlw⟩ := HL.out
    have HLW := Lib.hid hlw
    clear HL
    have hz : w.heap.size ≤ wr.heap.size := HO.out.size
    by_cases hlt : k < vs.length
    · obtain ⟨b, off, rfl⟩ := ocells_box HV.out hlt
      obtain ⟨hck, hok0, hok⟩ := ocell HV.out (Nat.le_refl _) HO.out hlt
      obtain ⟨v, hvk⟩ : ∃ v, vs[k] = v := ⟨_, rfl⟩
      have hmem : v ∈ vs := by rw [← hvk]; exact List.getElem_mem hlt
      obtain ⟨hvs, hvk2⟩ := fewO_iff.1 (HFW.out v hmem)
      rw [hvk] at hck hok hok0
      have f0 : wr.cell? ⟨b, off + k * 4, none⟩ = some (.int .i64 v.kd) := hck 0 _ rfl
      have f1 : wr.cell? ⟨b, off + k * 4 + 1, none⟩ = some (.string v.s) := hck 1 _ rfl
      have f2 : wr.cell? ⟨b, off + k * 4 + 2, none⟩ = some (.int .i64 v.n) := hck 2 _ rfl
      have f3 : wr.cell? ⟨b, off + k * 4 + 3, none⟩ = some (.slice v.ka v.k.length v.kc) := hck 3 _ rfl
      have hkb := hok.kb
      have hnb := hok.nb
      have HOK0 := Lib.hid hok0
      have hbm := hlw.bm.enter #[.int .i64 v.kd, .string v.s, .int .i64 v.n, .slice v.ka v.k.length v.kc] 38
      have HO1 : Hid (Ov w.heap.size w (wr.alloc (.cells #[.int .i64 v.kd, .string v.s, .int .i64 v.n, .slice v.ka v.k.length v.kc] 38))) := HO.out.trans (Ov.grown (World.grownBy_alloc _ _ _))
      have HBM := Lib.hid hbm
      have HS1 : Hid (∀ W, Calls Tryz.prog 10 #[.string v.s] W fun e w' => e = .returned (.int .i64 (sumB v.s.data.toList)) ∧ w' = W) := fun W => (sum_any v.s (by omega) W).mono fun _ _ ⟨h1, h2⟩ => ⟨h1, h2.symm⟩
      have HS2 : Hid (∀ W, Calls Tryz.prog 11 #[.string v.s] W fun e w' => e = .returned (.int .i64 (sumB v.s.data.toList)) ∧ w' = W) := fun W => (sumK v.s (by omega) W).mono fun _ _ ⟨h1, h2⟩ => ⟨h1, h2.symm⟩
      clear hck hok0 hok hvk hmem hlw hbm
      go_upto_region 14 with fail
      go_cut [51] from 45 to 51 (fun u wx => u = .bool false ∧ Hid ((wr.alloc (.cells #[.int .i64 v.kd, .string v.s, .int .i64 v.n, .slice v.ka v.k.length v.kc] 38)).grownBy wx none))
      case first =>
        clear HBM HO1 HLW HOK0
        go_quiet (first | (go_at_call 10; exact Calls.quiet_of_same (HS1.out _)) | (go_at_call 11; exact Calls.quiet_of_same (HS2.out _)))
        go_wp2_with fail
        go_meet
        exact ⟨rfl, by repeat' first | exact gR _ | apply gA | apply gD | apply gDN⟩
      case rest =>
        obtain ⟨rfl, hgx⟩ := hcut
        have HBX := Lib.hid (HBM.out.sameO (same_grown hgx))
        have HOX : Hid (Ov w.heap.size w wc) := HO1.out.trans (Ov.grown hgx)
        clear hgx HBM HO1 HO HS1 HS2 f0 f1 f2 f3 hz
        have hkd : v.kd = 0 ∨ v.kd = 1 ∨ v.kd = 2 ∨ v.kd = 3 ∨ v.kd = 4 ∨ v.kd = 5 ∨ ((v.kd == 0) = false ∧ (v.kd == 1) = false ∧ (v.kd == 2) = false ∧ (v.kd == 3) = false ∧ (v.kd == 4) = false ∧ (v.kd == 5) = false) := by
          simp only [beq_eq_false_iff_ne]
          omega
        rcases hkd with h0 | h1 | h2 | h3 | h4 | h5 | ⟨h0, h1, h2, h3, h4, h5⟩
        · rw [h0] at HBX
          clear hkb h0
          obtain ⟨x0, x1, _, _⟩ := xo_cells HBX.out.x
          rcases HBX.out with ⟨rfl, rfl, _⟩ | ⟨jb, kb, R, bad, rfl, rfl, hbj, hr⟩
          · have HF : Hid (∃ st' S' A', LT w.heap.size r q (k + 1) st' (.pointer none) (.pointer none) S' A' wc) :=
              ⟨_, _, _, HBX.out.leave, HLW.out.ji, HLW.out.sz, by have := HLW.out.len; omega, HLW.out.sm⟩
            clear HLW HBX
            go_wp2_with fail
            go_roundw
            case rel => exact ⟨k + 1, c, by omega, by go_num, rfl, rfl, HOX, HF⟩
            case measure => simp [RowKit.intOf]; omega
          · have hlen := HLW.out.len
            have hrl := hr.pre.length_le
            have hfl := forms_len200 R (fun x hx => HLW.out.sz x (hr.pre.subset hx))
            have hfx := form_len200 hvs
            have hzx := HOX.out.size
            have HE := Lib.hid (env_ov HE0.out HOX.out h6)
            have HSR : Hid (Small R) := fun x hx => by have := HLW.out.sz x (hr.pre.subset hx); omega
            have HN := Lib.hid (hbj.app hzx HE.out v.s (by omega) (by omega))
            obtain ⟨q1, q2⟩ := app_ji (bad := bad) HLW.out.ji hr (show isF 3 = true by decide) hvs HLW.out.sz (by omega)
            have HAL : Hid ((∀ x ∈ allA A (appC st 3 R bad v.s) v.s, x.size ≤ 200) ∧ (allA A (appC st 3 R bad v.s) v.s).length ≤ k + 1) := by
              unfold allA
              split
              · exact ⟨fun z hz => (List.mem_append.1 hz).elim (HLW.out.sz z) (fun h => by rw [List.mem_singleton.1 h]; exact hvs), by simp; omega⟩
              · exact ⟨HLW.out.sz, by omega⟩
            have HQ1 := Lib.hid q1
            have HQ2 := Lib.hid q2
            clear hbj hr q1 q2 HBX HE
            go_wp2_with fail
            refine HN.out.mono ?_
            clear HN
            rintro e w4 ⟨rfl, hbj4, ho⟩
            have HO4 : Hid (Ov w.heap.size w w4) := HOX.out.trans ho
            have hz4 := HO4.out.size
            have HN := Lib.hid (hbj4.rapp hz4 v.s (by omega) (by omega) HSR.out)
            obtain ⟨y0, y1, _, _⟩ := xo_cells hbj4.x
            clear hbj4 ho x0 x1 HOX hzx
            go_wp2_with fail
            refine HN.out.mono ?_
            clear HN
            rintro e w5 ⟨rfl, hbj5, ho⟩
            have HO5 : Hid (Ov w.heap.size w w5) := HO4.out.trans ho
            have HB := Lib.hid hbj5
            obtain ⟨c', hc'⟩ : ∃ c', appC st 3 R bad v.s = c' := ⟨_, rfl⟩
            obtain ⟨R', hR'⟩ : ∃ R', appR st 3 R bad v.s = R' := ⟨_, rfl⟩
            obtain ⟨b', hb'⟩ : ∃ b', appB st 3 R bad v.s = b' := ⟨_, rfl⟩
            obtain ⟨st', hst'⟩ : ∃ st', appS st 3 R bad v.s = st' := ⟨_, rfl⟩
            rw [hc'] at HQ1 HQ2 HAL ⊢
            obtain ⟨A', hA'⟩ : ∃ A', allA A c' v.s = A' := ⟨_, rfl⟩
            rw [hA'] at HQ1 HQ2 HAL
            rw [hst'] at HQ1 HQ2 HB
            rw [hR', hb'] at HQ2 HB
            have HSM := Lib.hid HLW.out.sm
            clear hc' hR' hb' hst' hA' hbj5 ho y0 y1 hz4 HO4 HLW HSR
            have hlen' : A'.length ≤ k + 1 := HAL.out.2
            have hrl' : R'.length ≤ A'.length := HQ2.out.pre.length_le
            obtain ⟨U, v', lv, hu, hj⟩ := id HB.out
            have hrj := hj.keeps.self.1
            obtain ⟨la, lc, hlv, _, _⟩ := hrj.ik.2.shape
            subst hlv
            have HCL : Hid (∀ W, Hid (w5.grownBy W none) → Calls Tryz.prog 25 #[.pointer (some ⟨jb, 0, none⟩)] W fun e w' => ∃ xa xc, e = .returned (.slice xa R'.length xc) ∧ Hid (w5.grownBy w' none) ∧ Hid (StrCells w' xa R')) := fun W hW => by
              refine (all_any (hj.same (same_grown hW)) (by omega)).mono ?_
              rintro e w' hl
              obtain ⟨ya, yc, rfl, hy, _, _, hb⟩ := hl.open
              exact ⟨ya, yc, rfl, World.grownBy.trans hW (grown_below' hb), hy⟩
            have HSE : Hid (∀ W xa xc, Hid (w5.grownBy W none) → Hid (StrCells W xa R') → Calls Tryz.prog 24 #[.slice xa R'.length xc, .slice la R'.length lc] W fun e w' => e = .returned (.bool true) ∧ Hid (w5.grownBy w' none)) := fun W xa xc hW hx => by
              obtain ⟨_, _, e1, hs⟩ := own_strsK (hrj.same (same_grown hW)).ik.2
              cases e1
              have := same_any xa la xc lc R' R' (by omega) (by omega) W hx hs
              rw [decide_eq_true rfl] at this
              exact this.mono fun e w' ⟨e1, e2⟩ => ⟨e1, World.grownBy.trans hW (grown_below' e2)⟩
            have HD2 : Hid (∀ W, Hid (w5.grownBy W none) → W.cell? ⟨kb, 2, none⟩ = some (.slice la R'.length lc)) := fun W hW => (hrj.same (same_grown hW)).ik.cells.2.2.1
            have HG0 : Hid (w5.grownBy w5 none) := gR _
            have HG1 : Hid (w5.grownBy w5.drew none) := grown_drew _
            have d0 := HD2.out _ HG0
            clear hu hj hrj
            go_upto_region 44 with fail
            go_cut [160] from 145 to 160 (fun u wx => u = .bool false ∧ Hid (w5.grownBy wx none))
            case first =>
              clear HB HQ1 HQ2 HAL HSM HO5
              go_wp2_with fail
              go_region_held3 (fun W => W.cell? ⟨kb, 2, none⟩ = some (.slice la R'.length lc))
                (first | exact d0 | exact x2 | exact x3)
                (first
                  | (go_at_call 25; (with_reducible refine (HCL.out _ ?_).mono ?_); (focus (first | exact HG1 | exact HG0)); rintro e w6 ⟨xa, xc, rfl, hA6, hS6⟩; have x2 := HD2.out w6 hA6)
                  | (go_at_call 24; (with_reducible refine (HSE.out _ _ _ ?_ ?_).mono ?_); (focus assumption); (focus assumption); rintro e w7 ⟨rfl, hA7⟩; have x3 := HD2.out w7 hA7))
              all_goals (go_wp2_with fail; go_meet; exact ⟨rfl, hA7⟩)
            case rest =>
              obtain ⟨rfl, hgx⟩ := hcut
              have HF : Hid (∃ st' S' A', LT w.heap.size r q (k + 1) st' (.pointer (some ⟨jb, 0, none⟩)) (.pointer (some ⟨kb, 0, none⟩)) S' A' wc) :=
                ⟨_, _, _, ((Bm.sameO (.inr ⟨jb, kb, _, _, rfl, rfl, HB.out, HQ2.out⟩) (same_grown hgx)).leave), HQ1.out, HAL.out.1, HAL.out.2, HSM.out⟩
              have HO9 : Hid (Ov w.heap.size w wc) := HO5.out.trans (Ov.grown hgx)
              clear hgx HB HQ1 HQ2 HAL HSM HCL HSE HD2 HG0 HG1 HO5 d0
              go_wp2_with fail
              go_roundw
              case rel => exact ⟨k + 1, _, by omega, by go_num, rfl, rfl, HO9, HF⟩
              case measure => simp [RowKit.intOf]; omega
        · rw [h1] at HBX
          clear hkb h1
          obtain ⟨x0, _, _, _⟩ := xo_cells HBX.out.x
          rcases HBX.out with ⟨rfl, rfl, _⟩ | ⟨jb, kb, R, bad, rfl, rfl, hbj, hr⟩
          · have HF : Hid (∃ st' S' A', LT w.heap.size r q (k + 1) st' (.pointer none) (.pointer none) S' A' wc) :=
              ⟨_, _, _, HBX.out.leave, HLW.out.ji, HLW.out.sz, by have := HLW.out.len; omega, HLW.out.sm⟩
            clear HLW HBX
            go_wp2_with fail
            go_roundw
            case rel => exact ⟨k + 1, c, by omega, by go_num, rfl, rfl, HOX, HF⟩
            case measure => simp [RowKit.intOf]; omega
          · have hzx := HOX.out.size
            have HN := Lib.hid (hbj.sync hzx)
            obtain ⟨q1, q2⟩ := sy_ji (bad := bad) HLW.out.ji hr
            have HQ : Hid (∃ S', JI (syS st 3 bad) 3 S' A ∧ Small S' ∧ JR (syS st 3 bad) 3 R (syB st 3 bad) A) := by
              by_cases h0 : syC st 3 bad = 0
              · exact ⟨R, (q1 h0).1, fun x hx => by have := HLW.out.sz x (hr.pre.subset hx); omega, (q1 h0).2⟩
              · exact ⟨S, (q2 h0).1, HLW.out.sm, (q2 h0).2⟩
            clear hbj hr q1 q2 HBX
            go_wp2_with fail
            refine HN.out.mono ?_
            clear HN
            rintro e w4 ⟨rfl, hbj4, ho⟩
            have HO4 : Hid (Ov w.heap.size w w4) := HOX.out.trans ho
            have hz4 := HO4.out.size
            have HN := Lib.hid (hbj4.rsync hz4)
            obtain ⟨y0, _, _, _⟩ := xo_cells hbj4.x
            clear hbj4 ho x0 HOX hzx
            go_wp2_with fail
            refine HN.out.mono ?_
            clear HN
            rintro e w5 ⟨rfl, hbj5, ho⟩
            have HO5 : Hid (Ov w.heap.size w w5) := HO4.out.trans ho
            have HB := Lib.hid hbj5
            obtain ⟨S', hq1, hs', hq2⟩ := HQ.out
            obtain ⟨c', hc'⟩ : ∃ c', syC st 3 bad = c' := ⟨_, rfl⟩
            obtain ⟨b', hb'⟩ : ∃ b', syB st 3 bad = b' := ⟨_, rfl⟩
            obtain ⟨st', hst'⟩ : ∃ st', syS st 3 bad = st' := ⟨_, rfl⟩
            rw [hc']
            rw [hst'] at hq1 hq2 HB
            rw [hb'] at hq2 HB
            have HQ1 := Lib.hid hq1
            have HQ2 := Lib.hid hq2
            have HSM := Lib.hid hs'
            have HAL : Hid ((∀ x ∈ A, x.size ≤ 200) ∧ A.length ≤ k + 1) := ⟨HLW.out.sz, by have := HLW.out.len; omega⟩
            clear hc' hb' hst' hbj5 ho y0 hz4 HO4 HLW HQ hq1 hq2 hs'
            have hlen' : A.length ≤ k + 1 := HAL.out.2
            have hrl' : R.length ≤ A.length := HQ2.out.pre.length_le
            obtain ⟨U, v', lv, hu, hj⟩ := id HB.out
            have hrj := hj.keeps.self.1
            obtain ⟨la, lc, hlv, _, _⟩ := hrj.ik.2.shape
            subst hlv
            have HCL : Hid (∀ W, Hid (w5.grownBy W none) → Calls Tryz.prog 25 #[.pointer (some ⟨jb, 0, none⟩)] W fun e w' => ∃ xa xc, e = .returned (.slice xa R.length xc) ∧ Hid (w5.grownBy w' none) ∧ Hid (StrCells w' xa R)) := fun W hW => by
              refine (all_any (hj.same (same_grown hW)) (by omega)).mono ?_
              rintro e w' hl
              obtain ⟨ya, yc, rfl, hy, _, _, hb⟩ := hl.open
              exact ⟨ya, yc, rfl, World.grownBy.trans hW (grown_below' hb), hy⟩
            have HSE : Hid (∀ W xa xc, Hid (w5.grownBy W none) → Hid (StrCells W xa R) → Calls Tryz.prog 24 #[.slice xa R.length xc, .slice la R.length lc] W fun e w' => e = .returned (.bool true) ∧ Hid (w5.grownBy w' none)) := fun W xa xc hW hx => by
              obtain ⟨_, _, e1, hs⟩ := own_strsK (hrj.same (same_grown hW)).ik.2
              cases e1
              have := same_any xa la xc lc R R (by omega) (by omega) W hx hs
              rw [decide_eq_true rfl] at this
              exact this.mono fun e w' ⟨e1, e2⟩ => ⟨e1, World.grownBy.trans hW (grown_below' e2)⟩
            have HD2 : Hid (∀ W, Hid (w5.grownBy W none) → W.cell? ⟨kb, 2, none⟩ = some (.slice la R.length lc)) := fun W hW => (hrj.same (same_grown hW)).ik.cells.2.2.1
            have HG0 : Hid (w5.grownBy w5 none) := gR _
            have HG1 : Hid (w5.grownBy w5.drew none) := grown_drew _
            have d0 := HD2.out _ HG0
            clear hu hj hrj
            go_upto_region 44 with fail
            go_cut [160] from 145 to 160 (fun u wx => u = .bool false ∧ Hid (w5.grownBy wx none))
            case first =>
              clear HB HQ1 HQ2 HAL HSM HO5
              go_wp2_with fail
              go_region_held3 (fun W => W.cell? ⟨kb, 2, none⟩ = some (.slice la R.length lc))
                (first | exact d0 | exact x2 | exact x3)
                (first
                  | (go_at_call 25; (with_reducible refine (HCL.out _ ?_).mono ?_); (focus (first | exact HG1 | exact HG0)); rintro e w6 ⟨xa, xc, rfl, hA6, hS6⟩; have x2 := HD2.out w6 hA6)
                  | (go_at_call 24; (with_reducible refine (HSE.out _ _ _ ?_ ?_).mono ?_); (focus assumption); (focus assumption); rintro e w7 ⟨rfl, hA7⟩; have x3 := HD2.out w7 hA7))
              all_goals (go_wp2_with fail; go_meet; exact ⟨rfl, hA7⟩)
            case rest =>
              obtain ⟨rfl, hgx⟩ := hcut
              have HF : Hid (∃ st' S' A', LT w.heap.size r q (k + 1) st' (.pointer (some ⟨jb, 0, none⟩)) (.pointer (some ⟨kb, 0, none⟩)) S' A' wc) :=
                ⟨_, _, _, ((Bm.sameO (.inr ⟨jb, kb, _, _, rfl, rfl, HB.out, HQ2.out⟩) (same_grown hgx)).leave), HQ1.out, HAL.out.1, HAL.out.2, HSM.out⟩
              have HO9 : Hid (Ov w.heap.size w wc) := HO5.out.trans (Ov.grown hgx)
              clear hgx HB HQ1 HQ2 HAL HSM HCL HSE HD2 HG0 HG1 HO5 d0
              go_wp2_with fail
              go_roundw
              case rel => exact ⟨k + 1, _, by omega, by go_num, rfl, rfl, HO9, HF⟩
              case measure => simp [RowKit.intOf]; omega
        · rw [h2] at HBX
          clear hkb h2
          obtain ⟨x0, _, x2, x3⟩ := xo_cells HBX.out.x
          have hzx := HOX.out.size
          have HX := Lib.hid (HLW.out.ji.lose (n := v.n) hnb.2)
          rcases HBX.out with ⟨rfl, rfl, hbn⟩ | ⟨jb, kb, R, bad, rfl, rfl, hbj, hr⟩
          · have HN := Lib.hid (hbn.lose hzx v.n hnb)
            clear hbn HBX
            go_wp2_with fail
            refine HN.out.mono ?_
            clear HN
            rintro e w4 ⟨rfl, hb4, ho⟩
            have HO4 : Hid (Ov w.heap.size w w4) := HOX.out.trans ho
            have hz4 := HO4.out.size
            obtain ⟨_, _, y2, y3⟩ := xo_cells hb4.x
            have HN := Lib.hid (hb4.rlose hz4 v.n hnb)
            clear hb4 ho x0 x2 x3 HOX hzx
            go_wp2_with fail
            refine HN.out.mono ?_
            clear HN
            rintro e w5 ⟨rfl, hb5, ho⟩
            have HO5 : Hid (Ov w.heap.size w w5) := HO4.out.trans ho
            have HB := Lib.hid hb5
            clear hb5 ho y2 y3 hz4 HO4
            have HG0 : Hid (w5.grownBy w5 none) := gR _
            go_upto_region 44 with fail
            go_cut [160] from 145 to 160 (fun u wx => u = .bool false ∧ Hid (w5.grownBy wx none))
            case first =>
              clear HB HX HLW HO5
              go_wp2_with fail
              go_quiet (fail)
              go_wp2_with fail
              go_meet
              exact ⟨rfl, by repeat' first | exact gR _ | apply gA | apply gD | apply gDN⟩
            case rest =>
              obtain ⟨rfl, hgx⟩ := hcut
              have HF : Hid (∃ st' S' A', LT w.heap.size r q (k + 1) st' (.pointer none) (.pointer none) S' A' wc) :=
                ⟨_, S, A, (Bm.sameO (.inl ⟨rfl, rfl, HB.out⟩) (same_grown hgx)).leave, HX.out, HLW.out.sz, by have := HLW.out.len; omega, HLW.out.sm⟩
              have HO9 : Hid (Ov w.heap.size w wc) := HO5.out.trans (Ov.grown hgx)
              clear hgx HB HX HLW HG0 HO5
              go_wp2_with fail
              go_roundw
              case rel => exact ⟨k + 1, _, by omega, by go_num, rfl, rfl, HO9, HF⟩
              case measure => simp [RowKit.intOf]; omega
          · have HN := Lib.hid (hbj.lose hzx v.n hnb)
            clear hbj HBX
            go_wp2_with fail
            refine HN.out.mono ?_
            clear HN
            rintro e w4 ⟨rfl, hb4, ho⟩
            have HO4 : Hid (Ov w.heap.size w w4) := HOX.out.trans ho
            have hz4 := HO4.out.size
            obtain ⟨_, _, y2, y3⟩ := xo_cells hb4.x
            have HN := Lib.hid (hb4.rlose hz4 v.n hnb)
            clear hb4 ho x0 x2 x3 HOX hzx
            go_wp2_with fail
            refine HN.out.mono ?_
            clear HN
            rintro e w5 ⟨rfl, hb5, ho⟩
            have HO5 : Hid (Ov w.heap.size w w5) := HO4.out.trans ho
            have HB := Lib.hid hb5
            clear hb5 ho y2 y3 hz4 HO4
            have HQ1 := Lib.hid HX.out
            have HQ2 := Lib.hid (hr.of (st' := Di.lose st v.n) rfl)
            have HAL : Hid ((∀ x ∈ A, x.size ≤ 200) ∧ A.length ≤ k + 1) := ⟨HLW.out.sz, by have := HLW.out.len; omega⟩
            have HSM := Lib.hid HLW.out.sm
            clear HX HLW hr
            have hlen' : A.length ≤ k + 1 := HAL.out.2
            have hrl' : R.length ≤ A.length := HQ2.out.pre.length_le
            obtain ⟨U, v', lv, hu, hj⟩ := id HB.out
            have hrj := hj.keeps.self.1
            obtain ⟨la, lc, hlv, _, _⟩ := hrj.ik.2.shape
            subst hlv
            have HCL : Hid (∀ W, Hid (w5.grownBy W none) → Calls Tryz.prog 25 #[.pointer (some ⟨jb, 0, none⟩)] W fun e w' => ∃ xa xc, e = .returned (.slice xa R.length xc) ∧ Hid (w5.grownBy w' none) ∧ Hid (StrCells w' xa R)) := fun W hW => by
              refine (all_any (hj.same (same_grown hW)) (by omega)).mono ?_
              rintro e w' hl
              obtain ⟨ya, yc, rfl, hy, _, _, hb⟩ := hl.open
              exact ⟨ya, yc, rfl, World.grownBy.trans hW (grown_below' hb), hy⟩
            have HSE : Hid (∀ W xa xc, Hid (w5.grownBy W none) → Hid (StrCells W xa R) → Calls Tryz.prog 24 #[.slice xa R.length xc, .slice la R.length lc] W fun e w' => e = .returned (.bool true) ∧ Hid (w5.grownBy w' none)) := fun W xa xc hW hx => by
              obtain ⟨_, _, e1, hs⟩ := own_strsK (hrj.same (same_grown hW)).ik.2
              cases e1
              have := same_any xa la xc lc R R (by omega) (by omega) W hx hs
              rw [decide_eq_true rfl] at this
              exact this.mono fun e w' ⟨e1, e2⟩ => ⟨e1, World.grownBy.trans hW (grown_below' e2)⟩
            have HD2 : Hid (∀ W, Hid (w5.grownBy W none) → W.cell? ⟨kb, 2, none⟩ = some (.slice la R.length lc)) := fun W hW => (hrj.same (same_grown hW)).ik.cells.2.2.1
            have HG0 : Hid (w5.grownBy w5 none) := gR _
            have HG1 : Hid (w5.grownBy w5.drew none) := grown_drew _
            have d0 := HD2.out _ HG0
            clear hu hj hrj
            go_upto_region 44 with fail
            go_cut [160] from 145 to 160 (fun u wx => u = .bool false ∧ Hid (w5.grownBy wx none))
            case first =>
              clear HB HQ1 HQ2 HAL HSM HO5
              go_wp2_with fail
              go_region_held3 (fun W => W.cell? ⟨kb, 2, none⟩ = some (.slice la R.length lc))
                (first | exact d0 | exact x2 | exact x3)
                (first
                  | (go_at_call 25; (with_reducible refine (HCL.out _ ?_).mono ?_); (focus (first | exact HG1 | exact HG0)); rintro e w6 ⟨xa, xc, rfl, hA6, hS6⟩; have x2 := HD2.out w6 hA6)
                  | (go_at_call 24; (with_reducible refine (HSE.out _ _ _ ?_ ?_).mono ?_); (focus assumption); (focus assumption); rintro e w7 ⟨rfl, hA7⟩; have x3 := HD2.out w7 hA7))
              all_goals (go_wp2_with fail; go_meet; exact ⟨rfl, hA7⟩)
            case rest =>
              obtain ⟨rfl, hgx⟩ := hcut
              have HF : Hid (∃ st' S' A', LT w.heap.size r q (k + 1) st' (.pointer (some ⟨jb, 0, none⟩)) (.pointer (some ⟨kb, 0, none⟩)) S' A' wc) :=
                ⟨_, _, _, ((Bm.sameO (.inr ⟨jb, kb, _, _, rfl, rfl, HB.out, HQ2.out⟩) (same_grown hgx)).leave), HQ1.out, HAL.out.1, HAL.out.2, HSM.out⟩
              have HO9 : Hid (Ov w.heap.size w wc) := HO5.out.trans (Ov.grown hgx)
              clear hgx HB HQ1 HQ2 HAL HSM HCL HSE HD2 HG0 HG1 HO5 d0
              go_wp2_with fail
              go_roundw
              case rel => exact ⟨k + 1, _, by omega, by go_num, rfl, rfl, HO9, HF⟩
              case measure => simp [RowKit.intOf]; omega
        · rw [h3] at HBX
          clear hkb h3
          obtain ⟨x0, _, x2, x3⟩ := xo_cells HBX.out.x
          have hzx := HOX.out.size
          have hkk : v.k.length ≤ 1000000000 ∧ ∀ x ∈ v.k, -9223372036854775808 ≤ x ∧ x ≤ 9223372036854775807 := ⟨by omega, HOK0.out.ib⟩
          have hok := HOK0.out.later (Nat.le_refl _) HOX.out
          have HX := Lib.hid (HLW.out.ji.arm (n := v.n) hnb.2 hkk)
          rcases HBX.out with ⟨rfl, rfl, hbn⟩ | ⟨jb, kb, R, bad, rfl, rfl, hbj, hr⟩
          · have HN := Lib.hid (hbn.arm hzx v.n hnb (.slice v.ka v.k.length v.kc) v.k hok.ints hkk)
            clear hbn HBX hok
            go_wp2_with fail
            refine HN.out.mono ?_
            clear HN
            rintro e w4 ⟨rfl, hb4, ho⟩
            have HO4 : Hid (Ov w.heap.size w w4) := HOX.out.trans ho
            have hz4 := HO4.out.size
            obtain ⟨_, _, y2, y3⟩ := xo_cells hb4.x
            have hok := HOK0.out.later (Nat.le_refl _) HO4.out
            have HN := Lib.hid (hb4.rarm hz4 v.n hnb (.slice v.ka v.k.length v.kc) v.k hok.ints (fun b hb => HOK0.out.ints.off_lt hb) hkk)
            clear hb4 ho x0 x2 x3 HOX hzx hok
            go_wp2_with fail
            refine HN.out.mono ?_
            clear HN
            rintro e w5 ⟨rfl, hb5, ho⟩
            have HO5 : Hid (Ov w.heap.size w w5) := HO4.out.trans ho
            have HB := Lib.hid hb5
            clear hb5 ho y2 y3 hz4 HO4
            have HG0 : Hid (w5.grownBy w5 none) := gR _
            go_upto_region 44 with fail
            go_cut [160] from 145 to 160 (fun u wx => u = .bool false ∧ Hid (w5.grownBy wx none))
            case first =>
              clear HB HX HLW HO5
              go_wp2_with fail
              go_quiet (fail)
              go_wp2_with fail
              go_meet
              exact ⟨rfl, by repeat' first | exact gR _ | apply gA | apply gD | apply gDN⟩
            case rest =>
              obtain ⟨rfl, hgx⟩ := hcut
              have HF : Hid (∃ st' S' A', LT w.heap.size r q (k + 1) st' (.pointer none) (.pointer none) S' A' wc) :=
                ⟨_, S, A, (Bm.sameO (.inl ⟨rfl, rfl, HB.out⟩) (same_grown hgx)).leave, HX.out, HLW.out.sz, by have := HLW.out.len; omega, HLW.out.sm⟩
              have HO9 : Hid (Ov w.heap.size w wc) := HO5.out.trans (Ov.grown hgx)
              clear hgx HB HX HLW HG0 HO5
              go_wp2_with fail
              go_roundw
              case rel => exact ⟨k + 1, _, by omega, by go_num, rfl, rfl, HO9, HF⟩
              case measure => simp [RowKit.intOf]; omega
          · have HN := Lib.hid (hbj.arm hzx v.n hnb (.slice v.ka v.k.length v.kc) v.k hok.ints hkk)
            clear hbj HBX hok
            go_wp2_with fail
            refine HN.out.mono ?_
            clear HN
            rintro e w4 ⟨rfl, hb4, ho⟩
            have HO4 : Hid (Ov w.heap.size w w4) := HOX.out.trans ho
            have hz4 := HO4.out.size
            obtain ⟨_, _, y2, y3⟩ := xo_cells hb4.x
            have hok := HOK0.out.later (Nat.le_refl _) HO4.out
            have HN := Lib.hid (hb4.rarm hz4 v.n hnb (.slice v.ka v.k.length v.kc) v.k hok.ints (fun b hb => HOK0.out.ints.off_lt hb) hkk)
            clear hb4 ho x0 x2 x3 HOX hzx hok
            go_wp2_with fail
            refine HN.out.mono ?_
            clear HN
            rintro e w5 ⟨rfl, hb5, ho⟩
            have HO5 : Hid (Ov w.heap.size w w5) := HO4.out.trans ho
            have HB := Lib.hid hb5
            clear hb5 ho y2 y3 hz4 HO4
            have HQ1 := Lib.hid HX.out
            have HQ2 := Lib.hid (hr.of (st' := Di.arm st v.n v.k) rfl)
            have HAL : Hid ((∀ x ∈ A, x.size ≤ 200) ∧ A.length ≤ k + 1) := ⟨HLW.out.sz, by have := HLW.out.len; omega⟩
            have HSM := Lib.hid HLW.out.sm
            clear HX HLW hr
            have hlen' : A.length ≤ k + 1 := HAL.out.2
            have hrl' : R.length ≤ A.length := HQ2.out.pre.length_le
            obtain ⟨U, v', lv, hu, hj⟩ := id HB.out
            have hrj := hj.keeps.self.1
            obtain ⟨la, lc, hlv, _, _⟩ := hrj.ik.2.shape
            subst hlv
            have HCL : Hid (∀ W, Hid (w5.grownBy W none) → Calls Tryz.prog 25 #[.pointer (some ⟨jb, 0, none⟩)] W fun e w' => ∃ xa xc, e = .returned (.slice xa R.length xc) ∧ Hid (w5.grownBy w' none) ∧ Hid (StrCells w' xa R)) := fun W hW => by
              refine (all_any (hj.same (same_grown hW)) (by omega)).mono ?_
              rintro e w' hl
              obtain ⟨ya, yc, rfl, hy, _, _, hb⟩ := hl.open
              exact ⟨ya, yc, rfl, World.grownBy.trans hW (grown_below' hb), hy⟩
            have HSE : Hid (∀ W xa xc, Hid (w5.grownBy W none) → Hid (StrCells W xa R) → Calls Tryz.prog 24 #[.slice xa R.length xc, .slice la R.length lc] W fun e w' => e = .returned (.bool true) ∧ Hid (w5.grownBy w' none)) := fun W xa xc hW hx => by
              obtain ⟨_, _, e1, hs⟩ := own_strsK (hrj.same (same_grown hW)).ik.2
              cases e1
              have := same_any xa la xc lc R R (by omega) (by omega) W hx hs
              rw [decide_eq_true rfl] at this
              exact this.mono fun e w' ⟨e1, e2⟩ => ⟨e1, World.grownBy.trans hW (grown_below' e2)⟩
            have HD2 : Hid (∀ W, Hid (w5.grownBy W none) → W.cell? ⟨kb, 2, none⟩ = some (.slice la R.length lc)) := fun W hW => (hrj.same (same_grown hW)).ik.cells.2.2.1
            have HG0 : Hid (w5.grownBy w5 none) := gR _
            have HG1 : Hid (w5.grownBy w5.drew none) := grown_drew _
            have d0 := HD2.out _ HG0
            clear hu hj hrj
            go_upto_region 44 with fail
            go_cut [160] from 145 to 160 (fun u wx => u = .bool false ∧ Hid (w5.grownBy wx none))
            case first =>
              clear HB HQ1 HQ2 HAL HSM HO5
              go_wp2_with fail
              go_region_held3 (fun W => W.cell? ⟨kb, 2, none⟩ = some (.slice la R.length lc))
                (first | exact d0 | exact x2 | exact x3)
                (first
                  | (go_at_call 25; (with_reducible refine (HCL.out _ ?_).mono ?_); (focus (first | exact HG1 | exact HG0)); rintro e w6 ⟨xa, xc, rfl, hA6, hS6⟩; have x2 := HD2.out w6 hA6)
                  | (go_at_call 24; (with_reducible refine (HSE.out _ _ _ ?_ ?_).mono ?_); (focus assumption); (focus assumption); rintro e w7 ⟨rfl, hA7⟩; have x3 := HD2.out w7 hA7))
              all_goals (go_wp2_with fail; go_meet; exact ⟨rfl, hA7⟩)
            case rest =>
              obtain ⟨rfl, hgx⟩ := hcut
              have HF : Hid (∃ st' S' A', LT w.heap.size r q (k + 1) st' (.pointer (some ⟨jb, 0, none⟩)) (.pointer (some ⟨kb, 0, none⟩)) S' A' wc) :=
                ⟨_, _, _, ((Bm.sameO (.inr ⟨jb, kb, _, _, rfl, rfl, HB.out, HQ2.out⟩) (same_grown hgx)).leave), HQ1.out, HAL.out.1, HAL.out.2, HSM.out⟩
              have HO9 : Hid (Ov w.heap.size w wc) := HO5.out.trans (Ov.grown hgx)
              clear hgx HB HQ1 HQ2 HAL HSM HCL HSE HD2 HG0 HG1 HO5 d0
              go_wp2_with fail
              go_roundw
              case rel => exact ⟨k + 1, _, by omega, by go_num, rfl, rfl, HO9, HF⟩
              case measure => simp [RowKit.intOf]; omega
        · rw [h4] at HBX
          clear hkb h4
          obtain ⟨x0, _, _, x3⟩ := xo_cells HBX.out.x
          have hzx := HOX.out.size
          have hkk : v.k.length ≤ 1000000000 ∧ ∀ x ∈ v.k, -9223372036854775808 ≤ x ∧ x ≤ 9223372036854775807 := ⟨by omega, HOK0.out.ib⟩
          have hok := HOK0.out.later (Nat.le_refl _) HOX.out
          have HN := Lib.hid (HBX.out.bn.crash hzx (.slice v.ka v.k.length v.kc) v.k hok.ints (fun b hb => HOK0.out.ints.off_lt hb) hkk)
          have HX := Lib.hid (HLW.out.ji.crash v.k)
          clear HBX hok
          go_wp2_with fail
          refine HN.out.mono ?_
          clear HN
          rintro e w4 ⟨rfl, hb4, ho⟩
          have HO4 : Hid (Ov w.heap.size w w4) := HOX.out.trans ho
          have hz4 := HO4.out.size
          obtain ⟨_, _, _, y3⟩ := xo_cells hb4.x
          have hok := HOK0.out.later (Nat.le_refl _) HO4.out
          have HN := Lib.hid (hb4.rcrash hz4 (.slice v.ka v.k.length v.kc) v.k hok.ints (fun b hb => HOK0.out.ints.off_lt hb) hkk)
          clear hb4 ho x0 x3 HOX hzx hok
          go_wp2_with fail
          refine HN.out.mono ?_
          clear HN
          rintro e w5 ⟨rfl, hb5, ho⟩
          have HO5 : Hid (Ov w.heap.size w w5) := HO4.out.trans ho
          have HB := Lib.hid hb5
          obtain ⟨st4, hst⟩ : ∃ s, Di.crash st v.k = s := ⟨_, rfl⟩
          rw [hst] at HX HB
          clear hb5 ho y3 hz4 HO4 hst hkk
          have hza := HO5.out.size
          have HN := Lib.hid (HB.out.start hza)
          clear HB
          go_wp2_with fail
          refine HN.out.mono ?_
          clear HN
          rintro e wa ⟨rfl, hba, ho⟩
          have HOA : Hid (Ov w.heap.size w wa) := HO5.out.trans ho
          have hzb := HOA.out.size
          have HN := Lib.hid (hba.rstart hzb)
          have HX5 := Lib.hid HX.out.start
          obtain ⟨st5, hst5⟩ : ∃ s, Di.start st4 = s := ⟨_, rfl⟩
          rw [hst5] at HN HX5
          clear hba ho hza HX hst5 HO5
          go_wp2_with fail
          refine HN.out.mono ?_
          clear HN
          rintro e wb ⟨rfl, hbb, ho⟩
          have HOB : Hid (Ov w.heap.size w wb) := HOA.out.trans ho
          have hzc := HOB.out.size
          have HE := Lib.hid (env_ov HE0.out HOB.out h6)
          have HN := Lib.hid (hbb.opens hzc h6 HE.out)
          clear hbb ho HOA hzb
          go_wp2_with fail
          refine HN.out.mono ?_
          clear HN
          rintro e we ⟨ho, ⟨hc, rfl, hbe⟩ | ⟨hc, jb, rfl, hbe⟩⟩
          · have HOE : Hid (Ov w.heap.size w we) := HOB.out.trans ho
            have hze := HOE.out.size
            have HN := Lib.hid (hbe.ropens hze hc)
            have HX := Lib.hid (HX5.out.op HLW.out.sm)
            clear hbe ho HOB hzc HE HX5
            go_wp2_with fail
            refine HN.out.mono ?_
            clear HN
            rintro e wf ⟨ho, rfl, hbf⟩
            have HOF : Hid (Ov w.heap.size w wf) := HOE.out.trans ho
            have HB := Lib.hid hbf
            obtain ⟨c', hc'⟩ : ∃ c', opC st5 3 = c' := ⟨_, rfl⟩
            obtain ⟨st', hst'⟩ : ∃ s, opS st5 3 = s := ⟨_, rfl⟩
            rw [hc']
            rw [hst'] at HB HX
            clear hbf ho HOE hze hc hc' hst'
            have HG0 : Hid (wf.grownBy wf none) := gR _
            go_upto_region 44 with fail
            go_cut [160] from 145 to 160 (fun u wx => u = .bool false ∧ Hid (wf.grownBy wx none))
            case first =>
              clear HB HX HLW HOF
              go_wp2_with fail
              go_quiet (fail)
              go_wp2_with fail
              go_meet
              exact ⟨rfl, by repeat' first | exact gR _ | apply gA | apply gD | apply gDN⟩
            case rest =>
              obtain ⟨rfl, hgx⟩ := hcut
              have HF : Hid (∃ st' S' A', LT w.heap.size r q (k + 1) st' (.pointer none) (.pointer none) S' A' wc) :=
                ⟨_, S, A, (Bm.sameO (.inl ⟨rfl, rfl, HB.out⟩) (same_grown hgx)).leave, HX.out, HLW.out.sz, by have := HLW.out.len; omega, HLW.out.sm⟩
              have HO9 : Hid (Ov w.heap.size w wc) := HOF.out.trans (Ov.grown hgx)
              clear hgx HB HX HLW HG0 HOF
              go_wp2_with fail
              go_roundw
              case rel => exact ⟨k + 1, _, by omega, by go_num, rfl, rfl, HO9, HF⟩
              case measure => simp [RowKit.intOf]; omega
          · have HOE : Hid (Ov w.heap.size w we) := HOB.out.trans ho
            have hze := HOE.out.size
            have HN := Lib.hid (hbe.ropens hze hc)
            have hji := op_solid hc (opS_wf HX5.out.wf)
            have hra := HX5.out.op_all HLW.out.sz
            have hop := (op_ok hc).2.1
            obtain ⟨R', hR'⟩ : ∃ R', opR st5 3 = R' := ⟨_, rfl⟩
            obtain ⟨st', hst'⟩ : ∃ s, opS st5 3 = s := ⟨_, rfl⟩
            rw [hR', hst'] at hji hop HN
            rw [hR'] at hra
            have HQ1 := Lib.hid hji
            have HQ2 : Hid (JR st' 3 R' false R') := ⟨fun _ => ⟨rfl, hop⟩, List.prefix_refl _⟩
            have HAL : Hid ((∀ x ∈ R', x.size ≤ 200) ∧ R'.length ≤ k + 1) := ⟨fun x hx => HLW.out.sz x (hra.subset hx), by have h1 := hra.length_le; have h2 := HLW.out.len; omega⟩
            have HSM : Hid (Small R') := fun x hx => by have := HLW.out.sz x (hra.subset hx); omega
            clear hbe ho HOB hzc HE HX5 hji hra hop hR' hst' HLW
            go_wp2_with fail
            refine HN.out.mono ?_
            clear HN
            rintro e wf ⟨ho, kb, rfl, hbf⟩
            have HOF : Hid (Ov w.heap.size w wf) := HOE.out.trans ho
            have HB := Lib.hid hbf
            clear hbf ho HOE hze hc
            have hlen' : R'.length ≤ k + 1 := HAL.out.2
            have hrl' : R'.length ≤ R'.length := HQ2.out.pre.length_le
            obtain ⟨U, v', lv, hu, hj⟩ := id HB.out
            have hrj := hj.keeps.self.1
            obtain ⟨la, lc, hlv, _, _⟩ := hrj.ik.2.shape
            subst hlv
            have HCL : Hid (∀ W, Hid (wf.grownBy W none) → Calls Tryz.prog 25 #[.pointer (some ⟨jb, 0, none⟩)] W fun e w' => ∃ xa xc, e = .returned (.slice xa R'.length xc) ∧ Hid (wf.grownBy w' none) ∧ Hid (StrCells w' xa R')) := fun W hW => by
              refine (all_any (hj.same (same_grown hW)) (by omega)).mono ?_
              rintro e w' hl
              obtain ⟨ya, yc, rfl, hy, _, _, hb⟩ := hl.open
              exact ⟨ya, yc, rfl, World.grownBy.trans hW (grown_below' hb), hy⟩
            have HSE : Hid (∀ W xa xc, Hid (wf.grownBy W none) → Hid (StrCells W xa R') → Calls Tryz.prog 24 #[.slice xa R'.length xc, .slice la R'.length lc] W fun e w' => e = .returned (.bool true) ∧ Hid (wf.grownBy w' none)) := fun W xa xc hW hx => by
              obtain ⟨_, _, e1, hs⟩ := own_strsK (hrj.same (same_grown hW)).ik.2
              cases e1
              have := same_any xa la xc lc R' R' (by omega) (by omega) W hx hs
              rw [decide_eq_true rfl] at this
              exact this.mono fun e w' ⟨e1, e2⟩ => ⟨e1, World.grownBy.trans hW (grown_below' e2)⟩
            have HD2 : Hid (∀ W, Hid (wf.grownBy W none) → W.cell? ⟨kb, 2, none⟩ = some (.slice la R'.length lc)) := fun W hW => (hrj.same (same_grown hW)).ik.cells.2.2.1
            have HG0 : Hid (wf.grownBy wf none) := gR _
            have HG1 : Hid (wf.grownBy wf.drew none) := grown_drew _
            have d0 := HD2.out _ HG0
            clear hu hj hrj
            go_upto_region 44 with fail
            go_cut [160] from 145 to 160 (fun u wx => u = .bool false ∧ Hid (wf.grownBy wx none))
            case first =>
              clear HB HQ1 HQ2 HAL HSM HOF
              go_wp2_with fail
              go_region_held3 (fun W => W.cell? ⟨kb, 2, none⟩ = some (.slice la R'.length lc))
                (first | exact d0 | exact x2 | exact x3)
                (first
                  | (go_at_call 25; (with_reducible refine (HCL.out _ ?_).mono ?_); (focus (first | exact HG1 | exact HG0)); rintro e w6 ⟨xa, xc, rfl, hA6, hS6⟩; have x2 := HD2.out w6 hA6)
                  | (go_at_call 24; (with_reducible refine (HSE.out _ _ _ ?_ ?_).mono ?_); (focus assumption); (focus assumption); rintro e w7 ⟨rfl, hA7⟩; have x3 := HD2.out w7 hA7))
              all_goals (go_wp2_with fail; go_meet; exact ⟨rfl, hA7⟩)
            case rest =>
              obtain ⟨rfl, hgx⟩ := hcut
              have HF : Hid (∃ st' S' A', LT w.heap.size r q (k + 1) st' (.pointer (some ⟨jb, 0, none⟩)) (.pointer (some ⟨kb, 0, none⟩)) S' A' wc) :=
                ⟨_, _, _, ((Bm.sameO (.inr ⟨jb, kb, _, _, rfl, rfl, HB.out, HQ2.out⟩) (same_grown hgx)).leave), HQ1.out, HAL.out.1, HAL.out.2, HSM.out⟩
              have HO9 : Hid (Ov w.heap.size w wc) := HOF.out.trans (Ov.grown hgx)
              clear hgx HB HQ1 HQ2 HAL HSM HCL HSE HD2 HG0 HG1 HOF d0
              go_wp2_with fail
              go_roundw
              case rel => exact ⟨k + 1, _, by omega, by go_num, rfl, rfl, HO9, HF⟩
              case measure => simp [RowKit.intOf]; omega
        · rw [h5] at HBX
          clear hkb h5
          obtain ⟨x0, _, _, _⟩ := xo_cells HBX.out.x
          have HB := Lib.hid HBX.out.bn
          have HX := Lib.hid HLW.out.ji
          obtain ⟨st4, hst⟩ : ∃ s, st = s := ⟨_, rfl⟩
          rw [hst] at HX HB
          clear HBX
          have hza := HOX.out.size
          have HN := Lib.hid (HB.out.start hza)
          clear HB
          go_wp2_with fail
          refine HN.out.mono ?_
          clear HN
          rintro e wa ⟨rfl, hba, ho⟩
          have HOA : Hid (Ov w.heap.size w wa) := HOX.out.trans ho
          have hzb := HOA.out.size
          have HN := Lib.hid (hba.rstart hzb)
          have HX5 := Lib.hid HX.out.start
          obtain ⟨st5, hst5⟩ : ∃ s, Di.start st4 = s := ⟨_, rfl⟩
          rw [hst5] at HN HX5
          clear hba ho hza HX hst5 HOX
          go_wp2_with fail
          refine HN.out.mono ?_
          clear HN
          rintro e wb ⟨rfl, hbb, ho⟩
          have HOB : Hid (Ov w.heap.size w wb) := HOA.out.trans ho
          have hzc := HOB.out.size
          have HE := Lib.hid (env_ov HE0.out HOB.out h6)
          have HN := Lib.hid (hbb.opens hzc h6 HE.out)
          clear hbb ho HOA hzb
          go_wp2_with fail
          refine HN.out.mono ?_
          clear HN
          rintro e we ⟨ho, ⟨hc, rfl, hbe⟩ | ⟨hc, jb, rfl, hbe⟩⟩
          · have HOE : Hid (Ov w.heap.size w we) := HOB.out.trans ho
            have hze := HOE.out.size
            have HN := Lib.hid (hbe.ropens hze hc)
            have HX := Lib.hid (HX5.out.op HLW.out.sm)
            clear hbe ho HOB hzc HE HX5
            go_wp2_with fail
            refine HN.out.mono ?_
            clear HN
            rintro e wf ⟨ho, rfl, hbf⟩
            have HOF : Hid (Ov w.heap.size w wf) := HOE.out.trans ho
            have HB := Lib.hid hbf
            obtain ⟨c', hc'⟩ : ∃ c', opC st5 3 = c' := ⟨_, rfl⟩
            obtain ⟨st', hst'⟩ : ∃ s, opS st5 3 = s := ⟨_, rfl⟩
            rw [hc']
            rw [hst'] at HB HX
            clear hbf ho HOE hze hc hc' hst'
            have HG0 : Hid (wf.grownBy wf none) := gR _
            go_upto_region 44 with fail
            go_cut [160] from 145 to 160 (fun u wx => u = .bool false ∧ Hid (wf.grownBy wx none))
            case first =>
              clear HB HX HLW HOF
              go_wp2_with fail
              go_quiet (fail)
              go_wp2_with fail
              go_meet
              exact ⟨rfl, by repeat' first | exact gR _ | apply gA | apply gD | apply gDN⟩
            case rest =>
              obtain ⟨rfl, hgx⟩ := hcut
              have HF : Hid (∃ st' S' A', LT w.heap.size r q (k + 1) st' (.pointer none) (.pointer none) S' A' wc) :=
                ⟨_, S, A, (Bm.sameO (.inl ⟨rfl, rfl, HB.out⟩) (same_grown hgx)).leave, HX.out, HLW.out.sz, by have := HLW.out.len; omega, HLW.out.sm⟩
              have HO9 : Hid (Ov w.heap.size w wc) := HOF.out.trans (Ov.grown hgx)
              clear hgx HB HX HLW HG0 HOF
              go_wp2_with fail
              go_roundw
              case rel => exact ⟨k + 1, _, by omega, by go_num, rfl, rfl, HO9, HF⟩
              case measure => simp [RowKit.intOf]; omega
          · have HOE : Hid (Ov w.heap.size w we) := HOB.out.trans ho
            have hze := HOE.out.size
            have HN := Lib.hid (hbe.ropens hze hc)
            have hji := op_solid hc (opS_wf HX5.out.wf)
            have hra := HX5.out.op_all HLW.out.sz
            have hop := (op_ok hc).2.1
            obtain ⟨R', hR'⟩ : ∃ R', opR st5 3 = R' := ⟨_, rfl⟩
            obtain ⟨st', hst'⟩ : ∃ s, opS st5 3 = s := ⟨_, rfl⟩
            rw [hR', hst'] at hji hop HN
            rw [hR'] at hra
            have HQ1 := Lib.hid hji
            have HQ2 : Hid (JR st' 3 R' false R') := ⟨fun _ => ⟨rfl, hop⟩, List.prefix_refl _⟩
            have HAL : Hid ((∀ x ∈ R', x.size ≤ 200) ∧ R'.length ≤ k + 1) := ⟨fun x hx => HLW.out.sz x (hra.subset hx), by have h1 := hra.length_le; have h2 := HLW.out.len; omega⟩
            have HSM : Hid (Small R') := fun x hx => by have := HLW.out.sz x (hra.subset hx); omega
            clear hbe ho HOB hzc HE HX5 hji hra hop hR' hst' HLW
            go_wp2_with fail
            refine HN.out.mono ?_
            clear HN
            rintro e wf ⟨ho, kb, rfl, hbf⟩
            have HOF : Hid (Ov w.heap.size w wf) := HOE.out.trans ho
            have HB := Lib.hid hbf
            clear hbf ho HOE hze hc
            have hlen' : R'.length ≤ k + 1 := HAL.out.2
            have hrl' : R'.length ≤ R'.length := HQ2.out.pre.length_le
            obtain ⟨U, v', lv, hu, hj⟩ := id HB.out
            have hrj := hj.keeps.self.1
            obtain ⟨la, lc, hlv, _, _⟩ := hrj.ik.2.shape
            subst hlv
            have HCL : Hid (∀ W, Hid (wf.grownBy W none) → Calls Tryz.prog 25 #[.pointer (some ⟨jb, 0, none⟩)] W fun e w' => ∃ xa xc, e = .returned (.slice xa R'.length xc) ∧ Hid (wf.grownBy w' none) ∧ Hid (StrCells w' xa R')) := fun W hW => by
              refine (all_any (hj.same (same_grown hW)) (by omega)).mono ?_
              rintro e w' hl
              obtain ⟨ya, yc, rfl, hy, _, _, hb⟩ := hl.open
              exact ⟨ya, yc, rfl, World.grownBy.trans hW (grown_below' hb), hy⟩
            have HSE : Hid (∀ W xa xc, Hid (wf.grownBy W none) → Hid (StrCells W xa R') → Calls Tryz.prog 24 #[.slice xa R'.length xc, .slice la R'.length lc] W fun e w' => e = .returned (.bool true) ∧ Hid (wf.grownBy w' none)) := fun W xa xc hW hx => by
              obtain ⟨_, _, e1, hs⟩ := own_strsK (hrj.same (same_grown hW)).ik.2
              cases e1
              have := same_any xa la xc lc R' R' (by omega) (by omega) W hx hs
              rw [decide_eq_true rfl] at this
              exact this.mono fun e w' ⟨e1, e2⟩ => ⟨e1, World.grownBy.trans hW (grown_below' e2)⟩
            have HD2 : Hid (∀ W, Hid (wf.grownBy W none) → W.cell? ⟨kb, 2, none⟩ = some (.slice la R'.length lc)) := fun W hW => (hrj.same (same_grown hW)).ik.cells.2.2.1
            have HG0 : Hid (wf.grownBy wf none) := gR _
            have HG1 : Hid (wf.grownBy wf.drew none) := grown_drew _
            have d0 := HD2.out _ HG0
            clear hu hj hrj
            go_upto_region 44 with fail
            go_cut [160] from 145 to 160 (fun u wx => u = .bool false ∧ Hid (wf.grownBy wx none))
            case first =>
              clear HB HQ1 HQ2 HAL HSM HOF
              go_wp2_with fail
              go_region_held3 (fun W => W.cell? ⟨kb, 2, none⟩ = some (.slice la R'.length lc))
                (first | exact d0 | exact x2 | exact x3)
                (first
                  | (go_at_call 25; (with_reducible refine (HCL.out _ ?_).mono ?_); (focus (first | exact HG1 | exact HG0)); rintro e w6 ⟨xa, xc, rfl, hA6, hS6⟩; have x2 := HD2.out w6 hA6)
                  | (go_at_call 24; (with_reducible refine (HSE.out _ _ _ ?_ ?_).mono ?_); (focus assumption); (focus assumption); rintro e w7 ⟨rfl, hA7⟩; have x3 := HD2.out w7 hA7))
              all_goals (go_wp2_with fail; go_meet; exact ⟨rfl, hA7⟩)
            case rest =>
              obtain ⟨rfl, hgx⟩ := hcut
              have HF : Hid (∃ st' S' A', LT w.heap.size r q (k + 1) st' (.pointer (some ⟨jb, 0, none⟩)) (.pointer (some ⟨kb, 0, none⟩)) S' A' wc) :=
                ⟨_, _, _, ((Bm.sameO (.inr ⟨jb, kb, _, _, rfl, rfl, HB.out, HQ2.out⟩) (same_grown hgx)).leave), HQ1.out, HAL.out.1, HAL.out.2, HSM.out⟩
              have HO9 : Hid (Ov w.heap.size w wc) := HOF.out.trans (Ov.grown hgx)
              clear hgx HB HQ1 HQ2 HAL HSM HCL HSE HD2 HG0 HG1 HOF d0
              go_wp2_with fail
              go_roundw
              case rel => exact ⟨k + 1, _, by omega, by go_num, rfl, rfl, HO9, HF⟩
              case measure => simp [RowKit.intOf]; omega
        · have HX := Lib.hid HLW.out.ji
          obtain ⟨x0, _, _, _⟩ := xo_cells HBX.out.x
          rcases HBX.out with ⟨rfl, rfl, hbn⟩ | ⟨jb, kb, R, bad, rfl, rfl, hbj, hr⟩
          · have HB := Lib.hid hbn
            clear hbn HBX hkb
            have HG0 : Hid (wc.grownBy wc none) := gR _
            go_upto_region 44 with fail
            go_cut [160] from 145 to 160 (fun u wx => u = .bool false ∧ Hid (wc.grownBy wx none))
            case first =>
              clear HB HX HLW HOX
              go_wp2_with fail
              go_quiet (fail)
              go_wp2_with fail
              go_meet
              exact ⟨rfl, by repeat' first | exact gR _ | apply gA | apply gD | apply gDN⟩
            case rest =>
              obtain ⟨rfl, hgx⟩ := hcut
              have HF : Hid (∃ st' S' A', LT w.heap.size r q (k + 1) st' (.pointer none) (.pointer none) S' A' wc) :=
                ⟨_, S, A, (Bm.sameO (.inl ⟨rfl, rfl, HB.out⟩) (same_grown hgx)).leave, HX.out, HLW.out.sz, by have := HLW.out.len; omega, HLW.out.sm⟩
              have HO9 : Hid (Ov w.heap.size w wc) := HOX.out.trans (Ov.grown hgx)
              clear hgx HB HX HLW HG0 HOX
              go_wp2_with fail
              go_roundw
              case rel => exact ⟨k + 1, _, by omega, by go_num, rfl, rfl, HO9, HF⟩
              case measure => simp [RowKit.intOf]; omega
          · have HB := Lib.hid hbj
            have HQ1 := Lib.hid HX.out
            have HQ2 := Lib.hid hr
            have HAL : Hid ((∀ x ∈ A, x.size ≤ 200) ∧ A.length ≤ k + 1) := ⟨HLW.out.sz, by have := HLW.out.len; omega⟩
            have HSM := Lib.hid HLW.out.sm
            clear hbj hr HBX hkb HX HLW
            have hlen' : A.length ≤ k + 1 := HAL.out.2
            have hrl' : R.length ≤ A.length := HQ2.out.pre.length_le
            obtain ⟨U, v', lv, hu, hj⟩ := id HB.out
            have hrj := hj.keeps.self.1
            obtain ⟨la, lc, hlv, _, _⟩ := hrj.ik.2.shape
            subst hlv
            have HCL : Hid (∀ W, Hid (wc.grownBy W none) → Calls Tryz.prog 25 #[.pointer (some ⟨jb, 0, none⟩)] W fun e w' => ∃ xa xc, e = .returned (.slice xa R.length xc) ∧ Hid (wc.grownBy w' none) ∧ Hid (StrCells w' xa R)) := fun W hW => by
              refine (all_any (hj.same (same_grown hW)) (by omega)).mono ?_
              rintro e w' hl
              obtain ⟨ya, yc, rfl, hy, _, _, hb⟩ := hl.open
              exact ⟨ya, yc, rfl, World.grownBy.trans hW (grown_below' hb), hy⟩
            have HSE : Hid (∀ W xa xc, Hid (wc.grownBy W none) → Hid (StrCells W xa R) → Calls Tryz.prog 24 #[.slice xa R.length xc, .slice la R.length lc] W fun e w' => e = .returned (.bool true) ∧ Hid (wc.grownBy w' none)) := fun W xa xc hW hx => by
              obtain ⟨_, _, e1, hs⟩ := own_strsK (hrj.same (same_grown hW)).ik.2
              cases e1
              have := same_any xa la xc lc R R (by omega) (by omega) W hx hs
              rw [decide_eq_true rfl] at this
              exact this.mono fun e w' ⟨e1, e2⟩ => ⟨e1, World.grownBy.trans hW (grown_below' e2)⟩
            have HD2 : Hid (∀ W, Hid (wc.grownBy W none) → W.cell? ⟨kb, 2, none⟩ = some (.slice la R.length lc)) := fun W hW => (hrj.same (same_grown hW)).ik.cells.2.2.1
            have HG0 : Hid (wc.grownBy wc none) := gR _
            have HG1 : Hid (wc.grownBy wc.drew none) := grown_drew _
            have d0 := HD2.out _ HG0
            clear hu hj hrj
            go_upto_region 44 with fail
            go_cut [160] from 145 to 160 (fun u wx => u = .bool false ∧ Hid (wc.grownBy wx none))
            case first =>
              clear HB HQ1 HQ2 HAL HSM HOX
              go_wp2_with fail
              go_region_held3 (fun W => W.cell? ⟨kb, 2, none⟩ = some (.slice la R.length lc))
                (first | exact d0 | exact x2 | exact x3)
                (first
                  | (go_at_call 25; (with_reducible refine (HCL.out _ ?_).mono ?_); (focus (first | exact HG1 | exact HG0)); rintro e w6 ⟨xa, xc, rfl, hA6, hS6⟩; have x2 := HD2.out w6 hA6)
                  | (go_at_call 24; (with_reducible refine (HSE.out _ _ _ ?_ ?_).mono ?_); (focus assumption); (focus assumption); rintro e w7 ⟨rfl, hA7⟩; have x3 := HD2.out w7 hA7))
              all_goals (go_wp2_with fail; go_meet; exact ⟨rfl, hA7⟩)
            case rest =>
              obtain ⟨rfl, hgx⟩ := hcut
              have HF : Hid (∃ st' S' A', LT w.heap.size r q (k + 1) st' (.pointer (some ⟨jb, 0, none⟩)) (.pointer (some ⟨kb, 0, none⟩)) S' A' wc) :=
                ⟨_, _, _, ((Bm.sameO (.inr ⟨jb, kb, _, _, rfl, rfl, HB.out, HQ2.out⟩) (same_grown hgx)).leave), HQ1.out, HAL.out.1, HAL.out.2, HSM.out⟩
              have HO9 : Hid (Ov w.heap.size w wc) := HOX.out.trans (Ov.grown hgx)
              clear hgx HB HQ1 HQ2 HAL HSM HCL HSE HD2 HG0 HG1 HOX d0
              go_wp2_with fail
              go_roundw
              case rel => exact ⟨k + 1, _, by omega, by go_num, rfl, rfl, HO9, HF⟩
              case measure => simp [RowKit.intOf]; omega
    · have HN := Lib.hid (HLW.out.bm.bn.start hz)
      clear HLW
      go_wp2_with fail
      refine HN.out.mono ?_
      clear HN
      rintro e wa ⟨rfl, hba, ho⟩
      have HOA : Hid (Ov w.heap.size w wa) := HO.out.trans ho
      have hza := HOA.out.size
      have HN := Lib.hid (hba.rstart hza)
      clear hba ho HO hz
      go_wp2_with fail
      refine HN.out.mono ?_
      clear HN
      rintro e wb ⟨rfl, hbb, ho⟩
      have HOB : Hid (Ov w.heap.size w wb) := HOA.out.trans ho
      obtain ⟨U, _, hd⟩ := hbb
      have hdn : (Di.start st).down = false := rfl
      obtain ⟨st6, hst6⟩ : ∃ s, Di.start st = s := ⟨_, rfl⟩
      rw [hst6] at hd hdn
      have HSz := Lib.hid (hd.size (f := 3) (by omega))
      have HRd := Lib.hid (hd.readAll (f := 3) hdn (by decide))
      have hln := hd.wf.len 3
      have HD := Lib.hid hd
      obtain ⟨s, hs⟩ : ∃ s, st6.now 3 = s := ⟨_, rfl⟩
      rw [hs] at HSz HRd hln
      have HNW := Lib.hid hs
      have HRA : Hid (readS st6 3 0 s.length = (⟨s.toArray⟩ : ByteArray).data.toList ∧ readR st6 3 0 s.length = 0) := by
        refine ⟨?_, ?_⟩
        · unfold readS; rw [if_neg (by simp [hdn, show isF 3 = true by decide]), hs]; simp
        · unfold readR; rw [if_neg (by simp [hdn]), if_neg (by simp [show isF 3 = true by decide])]
      clear hd ho HOA hza hst6 hs hdn
      go_wp2_with fail
      refine HSz.out.mono ?_
      clear HSz
      rintro e we ⟨rfl, rfl⟩
      go_wp2_with fail
      refine HRd.out.mono ?_
      clear HRd
      rintro e we ⟨rfl, hbe⟩
      have hk := (HD.out.kept.1).same (same_nothing hbe)
      have HK := Lib.hid hk
      have HZ := Lib.hid (hk.see (Q := fun e w' => e = .returned (.int .i64 s.length) ∧ we.grownBy w' none) fun fv qv kv a k1 k2 => (rsize_any k1 3).mono fun e w' ⟨e1, e2⟩ => ⟨by rw [e1, k2.fl.nowsz 3, HNW.out], e2⟩)
      have HOE : Hid (Ov w.heap.size w we) := HOB.out.trans (Ov.nothing hbe)
      clear hbe hk HD HOB
      go_wp2_with fail
      refine HZ.out.mono ?_
      clear HZ
      rintro e wg ⟨rfl, hgg⟩
      have HR2 := Lib.hid ((HK.out.same (same_grown hgg)).see fun fv qv kv a k1 k2 => rread_any k1 k2 3 0 s.length (by omega) (by omega) (s := ⟨s.toArray⟩) HRA.out.1 HRA.out.2)
      have HOG : Hid (Ov w.heap.size w wg) := HOE.out.trans (Ov.grown hgg)
      clear hgg HOE HK HRA
      go_wp2_with fail
      refine HR2.out.mono ?_
      clear HR2
      rintro e wf ⟨rfl, hgf⟩
      have HOF : Hid (Ov w.heap.size w wf) := HOG.out.trans (Ov.grown hgf)
      clear hgf HOG
      go_wp2_with fail
      go_ret
      exact ⟨rfl, HOF.out.below (Nat.le_refl _)⟩
theorem tells_any (a : Option Addr) (cap : Nat) (vs : List Opn) (w : World) (he : Wi.Env w) (hv : OCells w a vs) (hvl : vs.length ≤ 9223372036854775807) :
    Calls Tryz.prog 3 #[.slice a vs.length cap] w (Gives (.bool true) w) := by
  by_cases h1 : few vs = true
  · exact tells_in a cap vs w he hv h1
  · exact tells_out a cap vs w he hv hvl (by simpa using h1)
end Go.Proofs.YtejddacjncpneaaGreatDoor.Jo
