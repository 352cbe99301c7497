/- The law JournalLasts, walked within its limits. -/
import Derived.Test.YtejddacjncpneaaDoorJoL
set_option maxRecDepth 100000
namespace Go.Proofs.YtejddacjncpneaaDoor.Jo
open Go.RowKit Go.WideShapes Go.ChangeShapes Di
open Wi (StrCells)

set_option maxHeartbeats 60000000 in
theorem lasts_in (a a2 : Option Addr) (cap cap2 : Nat) (vs : List Opn) (o : List Int) (w : World) (he : Wi.Env w)
    (hv : OCells w a vs) (hfew : few vs = true) (hi1 : Ints w (.slice a2 o.length cap2) o)
    (hk1 : o.length ≤ 50 ∧ ∀ x ∈ o, -9223372036854775808 ≤ x ∧ x ≤ 9223372036854775807) :
    Calls Tryd.prog 3 #[.slice a vs.length cap, .slice a2 o.length cap2] w (Gives (.bool true) w) := by
  have h6 := he.size
  have HE0 := Lib.hid he
  obtain ⟨hfl, hvl⟩ := few_iff.1 hfew
  have HFW := Lib.hid hfl
  have HV := Lib.hid hv
  have HI1 := Lib.hid hi1
  have HK1 := Lib.hid hk1
  obtain ⟨hl1, _⟩ := hk1
  have HFC : Hid (∀ w1, Ov w.heap.size w w1 → Calls Tryd.prog 7 #[.slice a vs.length cap] w1 fun e w' => e = .returned (.bool true) ∧ w1 = w') := fun w1 ho => by
    have := few_any vs a cap w1 (hv.later (Nat.le_refl _) ho) (by omega)
    rwa [hfew] at this
  clear he hv hfew hi1 hfl
  go_enter Tryd.func3, Tryd.ntmps3
  go_wp2_with fail
  refine (small_any w HE0.out).mono ?_
  rintro e w1 ⟨rfl, ho1⟩
  have HF := Lib.hid (HFC.out w1 ho1)
  have HO1 := Lib.hid ho1
  clear ho1 HFC
  go_wp2_with fail
  refine HF.out.mono ?_
  rintro e w2 ⟨rfl, rfl⟩
  clear HF
  go_wp2_with fail
  refine (new_any w1).mono ?_
  rintro e w2 ⟨r, rfl, hdk, hg⟩
  have hk := (new_dk hdk).lower HO1.out.size
  have HO2 : Hid (Ov w.heap.size w w2) := HO1.out.trans (Ov.grown hg)
  have hz2 : w.heap.size ≤ w2.heap.size := HO2.out.size
  have HE := Lib.hid (env_ov HE0.out HO2.out h6)
  have HN := Lib.hid (open_any hk hz2 h6 HE.out (f := 3) (by omega))
  clear hdk hg hk HO1
  go_wp2_with fail
  refine HN.out.mono ?_
  clear HN
  rintro e w3 hp
  obtain ⟨jb, v, rfl, hj, ho⟩ := hp.ok (R := []) (by decide +kernel) (by decide +kernel)
  have HO3 : Hid (Ov w.heap.size w w3) := HO2.out.trans ho
  have hji : JI (opS St.new 3) 3 [] [] := new_sx3.op (by intro x hx; cases hx)
  have HL3 : Hid (LW w.heap.size r 0 (opS St.new 3) (.pointer (some ⟨jb, 0, none⟩)) (.slice none 0 0) (.slice none 0 0) [] [] w3) :=
    ⟨.inr ⟨jb, [], false, v, rfl, hj.swap ⟨Nat.le_refl _, fun _ _ => rfl⟩ (fun b hb => by rcases hb with h | h <;> cases h) (fun w' _ => ⟨Own.nil _ _ _, Own.nil _ _ _⟩), fun _ => ⟨rfl, by decide +kernel⟩, List.prefix_refl _⟩,
      hji, (by intro x hx; cases hx), Nat.le_refl _, (by intro x hx; cases hx), fun b hb => by rcases hb with h | h <;> cases h⟩
  clear hp hj ho HO2 hz2 HE hji
  go_wp2_with fail
  go_loopw [7, 9, 10, 11] (fun j al su i wr => ∃ k : Nat, k ≤ vs.length + 1 ∧ i = .int .i64 k ∧ Hid (Ov w.heap.size w wr) ∧ Hid (∃ st A S, LW w.heap.size r k st j al su A S wr)) (fun _ _ _ i _ => vs.length + 1 - (RowKit.intOf i).toNat)
  case atStart => exact ⟨0, by omega, rfl, HO3.out, _, _, _, HL3.out⟩
  case round =>
    clear HO3 HL3
    obtain ⟨k, hk, rfl, HO, HL⟩ := hrel
    obtain ⟨st, A, S, hlw⟩ := HL.out
    obtain ⟨la, lc, rfl, _, _⟩ := hlw.dj.keeps.self.1.shape
    obtain ⟨sa, sc, rfl, _, _⟩ := hlw.dj.keeps.self.2.shape
    have HLW := Lib.hid hlw
    clear HL
    have hz : w.heap.size ≤ wr.heap.size := HO.out.size
    have HE := Lib.hid (env_ov HE0.out HO.out h6)
    by_cases hlt : k < vs.length
    · obtain ⟨b, off, rfl⟩ := ocells_box HV.out hlt
      obtain ⟨hck, hok0, hok⟩ := ocell HV.out (Nat.le_refl _) HO.out hlt
      obtain ⟨v, hvk⟩ : ∃ v, vs[k] = v := ⟨_, rfl⟩
      have hmem : v ∈ vs := by rw [← hvk]; exact List.getElem_mem hlt
      obtain ⟨hvs, hvk2⟩ := fewO_iff.1 (HFW.out v hmem)
      rw [hvk] at hck hok hok0
      have f0 : wr.cell? ⟨b, off + k * 4, none⟩ = some (.int .i64 v.kd) := hck 0 _ rfl
      have f1 : wr.cell? ⟨b, off + k * 4 + 1, none⟩ = some (.string v.s) := hck 1 _ rfl
      have f2 : wr.cell? ⟨b, off + k * 4 + 2, none⟩ = some (.int .i64 v.n) := hck 2 _ rfl
      have f3 : wr.cell? ⟨b, off + k * 4 + 3, none⟩ = some (.slice v.ka v.k.length v.kc) := hck 3 _ rfl
      have hkb := hok.kb
      have hnb := hok.nb
      have HOK0 := Lib.hid hok0
      obtain ⟨w1, hw1⟩ : ∃ w1, wr.alloc (.cells #[.int .i64 4, .string ⟨#[]⟩, .int .i64 0, .slice a2 o.length cap2] 34) = w1 := ⟨_, rfl⟩
      have hblt : b < wr.heap.size := World.block_lt_of_cell? _ _ f0
      have hsm : w1.heap[b]? = wr.heap[b]? := by rw [← hw1]; exact (same_grown (World.grownBy_alloc _ _ _)).2 b hblt
      have g0 := cell_same hsm _ f0
      have g1 := cell_same hsm _ f1
      have g2 := cell_same hsm _ f2
      have g3 := cell_same hsm _ f3
      rw [← hw1] at g0 g1 g2 g3
      clear hck hok0 hok hvk hmem f0 f1 f2 f3 hsm
      have hdj := hlw.enter #[.int .i64 v.kd, .string v.s, .int .i64 v.n, .slice v.ka v.k.length v.kc] 34
      have HO1 : Hid (Ov w.heap.size w (wr.alloc (.cells #[.int .i64 v.kd, .string v.s, .int .i64 v.n, .slice v.ka v.k.length v.kc] 34))) := HO.out.trans (Ov.grown (World.grownBy_alloc _ _ _))
      have HDJ := Lib.hid hdj
      have hkd : v.kd = 0 ∨ v.kd = 1 ∨ v.kd = 2 ∨ v.kd = 3 ∨ v.kd = 4 ∨ v.kd = 5 ∨ ((v.kd == 0) = false ∧ (v.kd == 1) = false ∧ (v.kd == 2) = false ∧ (v.kd == 3) = false ∧ (v.kd == 4) = false ∧ (v.kd == 5) = false) := by
        simp only [beq_eq_false_iff_ne]
        omega
      clear hw1 w1 hlw hdj
      rcases hkd with h0 | h1 | h2 | h3 | h4 | h5 | ⟨h0, h1, h2, h3, h4, h5⟩
      · rw [h0] at g0 HDJ HO1
        clear hkb h0
        have hlen := HLW.out.len
        rcases HDJ.out with ⟨rfl, _⟩ | ⟨jb, R, bad, u, rfl, hj, hr⟩
        · have HF : Hid (∃ st' A' S', LW w.heap.size r (k + 1) st' (.pointer none) (.slice la A.length lc) (.slice sa S.length sc) A' S' (wr.alloc (.cells #[.int .i64 0, .string v.s, .int .i64 v.n, .slice v.ka v.k.length v.kc] 34))) :=
            ⟨_, _, _, HDJ.out.leave, HLW.out.ji, HLW.out.sz, by omega, HLW.out.sm, HLW.out.tb⟩
          clear HLW HDJ
          go_wp2_with fail
          go_roundw
          case rel => exact ⟨k + 1, by omega, by go_num, HO1, HF⟩
          case measure => simp [RowKit.intOf]; omega
        · have hrl : R.length ≤ A.length := hr.pre.length_le
          have HN := Lib.hid (all_any hj (by omega))
          have HJ := Lib.hid hj
          have HR := Lib.hid hr
          clear hj hr HDJ
          go_wp2_with fail
          refine HN.out.mono ?_
          clear HN
          rintro e w4 ⟨x4, rfl, hrow, hb4⟩
          obtain ⟨hown, hbl⟩ := own_of_row hrow
          have hj4 := HJ.out.withRow (same_below hb4) hown hbl
          obtain ⟨xa, xc, hx4, _, _⟩ := hown.shape
          subst hx4
          have HO4 : Hid (Ov w.heap.size w w4) := HO1.out.trans (ovBelow hb4)
          have hz4 := HO4.out.size
          have HE4 := Lib.hid (env_ov HE0.out HO4.out h6)
          have HXB : Hid (∀ b, blk (.slice xa R.length xc) = some b → w.heap.size ≤ b) := fun b e => Nat.le_trans HO1.out.size (hbl b e)
          have HXN : Hid (∀ b, blk (.slice xa R.length xc) = some b → (wr.alloc (.cells #[.int .i64 0, .string v.s, .int .i64 v.n, .slice v.ka v.k.length v.kc] 34)).heap.size ≤ b) := hbl
          have HXM4 : Hid (∀ b, blk (.slice xa R.length xc) = some b → b < w4.heap.size) := fun b e => hown.lt b e
          obtain ⟨c40, c41, _, _⟩ := ki_cells hj4.keeps.self.1
          have hfl := forms_len200 R (fun x hx => HLW.out.sz x (HR.out.pre.subset hx))
          have HN := Lib.hid (append_any hj4 hz4 HE4.out v.s (by omega) (by omega) (by omega))
          have HCS := Lib.hid (app_cases (st := st) (bad := bad) HR.out (show isF 3 = true by decide) hvs HLW.out.sz (by omega))
          obtain ⟨q1, q2⟩ := app_ji (bad := bad) HLW.out.ji HR.out (show isF 3 = true by decide) hvs HLW.out.sz (by omega)
          have HQ1 := Lib.hid q1
          have HQ2 := Lib.hid q2
          clear hrow hown hbl hb4 hj4 HJ HR q1 q2 c40
          go_wp2_with fail
          refine HN.out.mono ?_
          clear HN
          rintro e w5 ⟨rfl, ⟨u', hj5⟩, ho⟩
          have HO5 : Hid (Ov w.heap.size w w5) := HO4.out.trans ho
          have HXM : Hid (∀ b, blk (.slice xa R.length xc) = some b → b < w5.heap.size) := fun b e => Nat.lt_of_lt_of_le (HXM4.out b e) ho.size
          clear HXM4
          have hz5 := HO5.out.size
          have hr2 : (appR st 3 R bad v.s).length ≤ 200 := by have := HCS.out; rcases this with ⟨_, h⟩ | ⟨_, h⟩ | ⟨_, h⟩ <;> rw [h] <;> simp <;> omega
          have HN := Lib.hid (all_any hj5 (by omega))
          have HJ5 := Lib.hid hj5
          clear hj5 ho HO4 hz4 HE4 c41
          go_wp2_with fail
          refine HN.out.mono ?_
          clear HN
          rintro e w6 ⟨y6, rfl, hrow6, hb6⟩
          obtain ⟨hown6, hbl6⟩ := own_of_row hrow6
          obtain ⟨ya, yc, hy6, _, _⟩ := hown6.shape
          subst hy6
          have hj6 := HJ5.out.withRow (same_below hb6) hown6 hbl6
          have HO6 : Hid (Ov w.heap.size w w6) := HO5.out.trans (ovBelow hb6)
          have HJ6 := Lib.hid hj6
          obtain ⟨c60, c61, _, _⟩ := ki_cells hj6.keeps.self.1.1
          have HXL : Hid (∀ b, blk (.slice xa R.length xc) = some b → (wr.alloc (.cells #[.int .i64 0, .string v.s, .int .i64 v.n, .slice v.ka v.k.length v.kc] 34)).heap.size ≤ b ∧ b < w5.heap.size) := fun b e => ⟨HXN.out b e, HXM.out b e⟩
          have HZ56 : Hid (w5.heap.size ≤ w6.heap.size) := hb6.size
          have HYL : Hid (∀ b, blk (.slice ya (appR st 3 R bad v.s).length yc) = some b → w5.heap.size ≤ b) := hbl6
          have HSL : Hid (∀ b, blk (.slice sa S.length sc) = some b → b < wr.heap.size) := fun b e => HLW.out.dj.T_lt (.inr e)
          clear hrow6 hown6 hbl6 hb6 hj6 HJ5 HO5 hz5 c60 HXN HXM
          rcases HCS.out with ⟨hc, hR⟩ | ⟨hc, hR⟩ | ⟨hc, hR⟩
          · rw [hc] at HQ1 HQ2 ⊢
            rw [hR] at HQ2 HJ6 HYL ⊢
            clear HCS hc hR
            obtain ⟨i0, hi, hz0, hz1, hz2⟩ := info_parts infoStr
            have hal := HJ6.out.keeps.self.1.1.1.1
            have HSRC : Hid (∀ W, w6.grownBy W none → Src Tryd.prog 1 32 (.slice la A.length lc) A.length (A.map Value.string) W) := fun W hg =>
              (hal.grown hg (by cases blk (.slice la A.length lc) <;> simp)).src Tryd.underlying32 (by intro u hu; obtain ⟨y, _, rfl⟩ := List.mem_map.1 hu; rfl)
            have HC : Hid (∀ W, w6.grownBy W none → W.cell? ⟨wr.heap.size, 1, none⟩ = some (.string v.s)) := fun W hg => (ki_cells (HJ6.out.same (same_grown hg)).keeps.self.1.1).2.1
            clear hal
            go_upto_region 27 with fail
            go_cut [9] from 78 to 84 (fun x wx => Hid (RP w6 (A ++ [v.s]) x wx))
            case first =>
              clear HJ6 HXB HQ1 HQ2 HLW HXL HYL HSL
              have ca := HC.out (w6.alloc (.cells #[] 9)).drew (by repeat' first | exact gR _ | apply gA | apply gD | apply gDN)
              have cb := HC.out w6.drew (by repeat' first | exact gR _ | apply gA | apply gD | apply gDN)
              go_wp2_with fail
              go_region_law? (first
                | (refine step_own_append (by rfl) (.tmp 78) (.tmp 79) 32 32 (by rfl) Tryd.underlying32 hi hz0 hz1 hz2 rfl (by rfl) (⟨rfl, .inl ⟨_, rfl, rfl⟩⟩ : Own _ 9 1 _ 0 []) _ (by rfl) (HSRC.out _ (by repeat' first | exact gR _ | apply gA | apply gD | apply gDN)) (by unfold maxLen; omega) (by omega) ?_; intro a' c' w7 hown7 hgr7 hbl7; have hg7 : w6.grownBy w7 none := World.grownBy.trans (by repeat' first | exact gR _ | apply gA | apply gD | apply gDN) hgr7; have c7 := HC.out w7 hg7; rw [blk_zero] at hgr7; simp only [Nat.zero_add, List.nil_append, blk_zero] at hown7 hbl7)
                | (refine step_own_append (by rfl) (.tmp 80) (.tmp 83) 32 32 (by rfl) Tryd.underlying32 hi hz0 hz1 hz2 rfl (by rfl) (hown7.grown0 (by repeat' first | exact gR _ | apply gA | apply gD | apply gDN)) _ (by rfl) (srcB Tryd.underlying32 (by first | exact heap_alloc_new _ _ | exact heap_alloc_at (by simp) | exact (hgr7.block _ (by first | (simp; done) | (simp; omega)) (by simp)).trans (heap_alloc_at (by simp)) | exact (hgr7.block _ (by first | (simp; done) | (simp; omega)) (by simp)).trans (heap_drew_of (heap_alloc_lt (by first | (simp; done) | (simp; omega)) (heap_alloc_at (by simp)))) | exact (hgr7.block _ (by first | (simp; done) | (simp; omega)) (by simp)).trans (heap_alloc_lt (by first | (simp; done) | (simp; omega)) (heap_alloc_at (by simp))))) (by unfold maxLen; omega) (by omega) ?_; intro a8 c8 w8 hown8 hgr8 hbl8))
              all_goals
                go_wp2_with fail
                go_meet
                exact rp_fin hg7 (by repeat' first | exact gR _ | apply gA | apply gD | apply gDN) hown8 hgr8 hbl8 (ge_of hbl7 (World.grownBy.size (by repeat' first | exact gR _ | apply gA | apply gD | apply gDN)))
            case rest =>
              obtain ⟨hx, hgx, hbx⟩ := hcut.out
              clear hcut
              obtain ⟨qa, qc, hqx, _, _⟩ := hx.shape
              subst hqx
              have HQL : Hid (∀ b, blk (.slice qa (A ++ [v.s]).length qc) = some b → w6.heap.size ≤ b) := hbx
              have HJ7 := Lib.hid (HJ6.out.withRow (same_grown hgx) hx hbx)
              have cx := HC.out wc hgx
              clear HJ6 HSRC HC
              go_wp2_with (at_builtin; refine wpList_append_OwnG (by rfl) _ _ _ _ (by rfl) Tryd.underlying32 hi hz0 hz1 hz2 rfl (by rfl) (HJ7.out.keeps.self.1.1.2.grown (World.grownBy_alloc _ (.cells #[.string v.s] 9) none) (by cases blk (.slice xa R.length xc) <;> simp)) _ (by rfl) (srcB Tryd.underlying32 (heap_alloc_new _ _)) (by unfold maxLen; omega) (by omega) ?_)
              intro x8 w8 hown8 hgr8 hbl8
              have hall : wc.grownBy w8 (blk (.slice xa R.length xc)) := (World.grownBy_alloc _ _ _).trans hgr8
              have hown8' : Own w8 9 1 x8 (R ++ [v.s]).length ((R ++ [v.s]).map Value.string) := by simpa using hown8
              have hk7 := HJ7.out.keeps.self
              have hj8 := HJ7.out.turn (w' := w8) hall.size (fun b hb hn => hall.block b hb (fun e => hn (.inl (.inl (.inr e.symm))))) (T' := T2 (.slice qa (A ++ [v.s]).length qc) (.slice sa S.length sc)) (K' := K2 (.slice qa (A ++ [v.s]).length qc) (A ++ [v.s]) (.slice sa S.length sc) S)
                (fun b hb => ⟨.inl (hb.elim (fun e => .inr e) (fun e => .inl (.inl (.inl (.inl (.inr e)))))), Nat.lt_of_lt_of_le (HJ7.out.T_lt (hb.elim (fun e => .inr e) (fun e => .inl (.inl (.inl (.inl (.inr e))))))) hall.size⟩)
                ((keeps_own (hk7.2.kept fun b e => hall.block b (hk7.2.lt b e) (fun e' => by have h1 := HQL.out b e; have h2 := (HXL.out b e'.symm).2; have h3 := HZ56.out; omega))).and (keeps_own (hk7.1.1.1.1.2.kept fun b e => hall.block b (hk7.1.1.1.1.2.lt b e) (fun e' => by have h1 := HSL.out b e; have h2 := (HXL.out b e'.symm).1; simp at h2; omega))))
              have hy8 : Own w8 9 1 (.slice ya (R ++ [v.s]).length yc) (R ++ [v.s]).length ((R ++ [v.s]).map Value.string) := hk7.1.2.kept fun b e => hall.block b (hk7.1.2.lt b e) (fun e' => by have h1 := HYL.out b e; have h2 := (HXL.out b e'.symm).2; omega)
              have HO8 : Hid (Ov w.heap.size w w8) := (HO6.out.trans (Ov.grown hgx)).trans (But.of hall fun b e _ => HXB.out b e)
              obtain ⟨xa8, cx8, hx8, _, _⟩ := hown8'.shape
              subst hx8
              obtain ⟨_, _, e1, hs1⟩ := own_strs' hy8
              cases e1
              obtain ⟨_, _, e1, hs2⟩ := own_strs' hown8'
              cases e1
              have HN := Lib.hid (same_any ya xa8 yc cx8 (R ++ [v.s]) (R ++ [v.s]) (by simp; omega) (by simp; omega) w8 hs1 hs2)
              rw [decide_eq_true (rfl : R ++ [v.s] = R ++ [v.s])] at HN
              rw [show (R ++ [v.s]).length = R.length + 1 from by simp] at HN
              have HFF : Hid (LW w.heap.size r (k + 1) _ (.pointer (some ⟨jb, 0, none⟩)) (.slice qa (A ++ [v.s]).length qc) (.slice sa S.length sc) (A ++ [v.s]) S w8) :=
                ⟨.inr ⟨jb, _, _, _, rfl, hj8, by simpa [allA] using HQ2.out⟩, by simpa [allA] using HQ1.out, fun z hz => (List.mem_append.1 hz).elim (HLW.out.sz z) (fun h => by rw [List.mem_singleton.1 h]; exact hvs), by simp; omega, HLW.out.sm,
                  fun b hb => hb.elim (fun e => by have h1 := HQL.out b e; have h2 := HO6.out.size; omega) (fun e => HLW.out.tb b (.inr e))⟩
              clear hown8 hgr8 hbl8 hall hown8' hk7 hj8 hy8 hs1 hs2 HJ7 HQL HXL HYL HSL HXB HO6 hx hgx hbx HLW HQ1 HQ2 cx
              go_wp2_with fail
              refine HN.out.mono ?_
              clear HN
              rintro e w9 ⟨rfl, hb9⟩
              have HO9 : Hid (Ov w.heap.size w w9) := HO8.out.trans (ovBelow hb9)
              have HF : Hid (∃ st' A' S', LW w.heap.size r (k + 1) st' _ _ _ A' S' w9) := ⟨_, _, _, HFF.out.same (same_below hb9)⟩
              clear HFF hb9 HO8
              go_wp2_with fail
              go_roundw
              case rel => exact ⟨k + 1, by omega, by go_num, HO9, by simpa using HF⟩
              case measure => simp [RowKit.intOf]; omega
          · rw [hc] at HQ1 HQ2 ⊢
            rw [hR] at HQ2 HJ6 HYL ⊢
            clear HCS hc hR
            have HD := Lib.hid (disky_any 8 w6)
            rw [show decide ((8 : Int) = 8 ∨ (8 : Int) = 9) = true from by decide] at HD
            go_wp2_with fail
            refine HD.out.mono ?_
            clear HD
            rintro e wd ⟨rfl, rfl⟩
            obtain ⟨i0, hi, hz0, hz1, hz2⟩ := info_parts infoStr
            have hal := HJ6.out.keeps.self.1.1.1.1
            have HSRC : Hid (∀ W, w6.grownBy W none → Src Tryd.prog 1 32 (.slice la A.length lc) A.length (A.map Value.string) W) := fun W hg =>
              (hal.grown hg (by cases blk (.slice la A.length lc) <;> simp)).src Tryd.underlying32 (by intro u hu; obtain ⟨y, _, rfl⟩ := List.mem_map.1 hu; rfl)
            have HC : Hid (∀ W, w6.grownBy W none → W.cell? ⟨wr.heap.size, 1, none⟩ = some (.string v.s)) := fun W hg => (ki_cells (HJ6.out.same (same_grown hg)).keeps.self.1.1).2.1
            clear hal
            go_upto_region 27 with fail
            go_cut [9] from 78 to 84 (fun x wx => Hid (RP w6 (A ++ [v.s]) x wx))
            case first =>
              clear HJ6 HXB HQ1 HQ2 HLW HXL HYL HSL
              have ca := HC.out (w6.alloc (.cells #[] 9)).drew (by repeat' first | exact gR _ | apply gA | apply gD | apply gDN)
              have cb := HC.out w6.drew (by repeat' first | exact gR _ | apply gA | apply gD | apply gDN)
              go_wp2_with fail
              go_region_law? (first
                | (refine step_own_append (by rfl) (.tmp 78) (.tmp 79) 32 32 (by rfl) Tryd.underlying32 hi hz0 hz1 hz2 rfl (by rfl) (⟨rfl, .inl ⟨_, rfl, rfl⟩⟩ : Own _ 9 1 _ 0 []) _ (by rfl) (HSRC.out _ (by repeat' first | exact gR _ | apply gA | apply gD | apply gDN)) (by unfold maxLen; omega) (by omega) ?_; intro a' c' w7 hown7 hgr7 hbl7; have hg7 : w6.grownBy w7 none := World.grownBy.trans (by repeat' first | exact gR _ | apply gA | apply gD | apply gDN) hgr7; have c7 := HC.out w7 hg7; rw [blk_zero] at hgr7; simp only [Nat.zero_add, List.nil_append, blk_zero] at hown7 hbl7)
                | (refine step_own_append (by rfl) (.tmp 80) (.tmp 83) 32 32 (by rfl) Tryd.underlying32 hi hz0 hz1 hz2 rfl (by rfl) (hown7.grown0 (by repeat' first | exact gR _ | apply gA | apply gD | apply gDN)) _ (by rfl) (srcB Tryd.underlying32 (by first | exact heap_alloc_new _ _ | exact heap_alloc_at (by simp) | exact (hgr7.block _ (by first | (simp; done) | (simp; omega)) (by simp)).trans (heap_alloc_at (by simp)) | exact (hgr7.block _ (by first | (simp; done) | (simp; omega)) (by simp)).trans (heap_drew_of (heap_alloc_lt (by first | (simp; done) | (simp; omega)) (heap_alloc_at (by simp)))) | exact (hgr7.block _ (by first | (simp; done) | (simp; omega)) (by simp)).trans (heap_alloc_lt (by first | (simp; done) | (simp; omega)) (heap_alloc_at (by simp))))) (by unfold maxLen; omega) (by omega) ?_; intro a8 c8 w8 hown8 hgr8 hbl8))
              all_goals
                go_wp2_with fail
                go_meet
                exact rp_fin hg7 (by repeat' first | exact gR _ | apply gA | apply gD | apply gDN) hown8 hgr8 hbl8 (ge_of hbl7 (World.grownBy.size (by repeat' first | exact gR _ | apply gA | apply gD | apply gDN)))
            case rest =>
              obtain ⟨hx, hgx, hbx⟩ := hcut.out
              clear hcut
              obtain ⟨qa, qc, hqx, _, _⟩ := hx.shape
              subst hqx
              have HQL : Hid (∀ b, blk (.slice qa (A ++ [v.s]).length qc) = some b → w6.heap.size ≤ b) := hbx
              have HJ7 := Lib.hid (HJ6.out.withRow (same_grown hgx) hx hbx)
              have hk7 := HJ7.out.keeps.self
              clear HJ6 HSRC HC
              obtain ⟨_, _, e1, hs1⟩ := own_strs' hk7.1.2
              cases e1
              obtain ⟨_, _, e1, hs2⟩ := own_strs' hk7.1.1.2
              cases e1
              have HN := Lib.hid (same_any ya xa yc xc R R (by omega) (by omega) wc hs1 hs2)
              rw [decide_eq_true (rfl : R = R)] at HN
              have hj8 := HJ7.out.swap ⟨Nat.le_refl _, fun _ _ => rfl⟩ (T' := T2 (.slice qa (A ++ [v.s]).length qc) (.slice sa S.length sc)) (K' := K2 (.slice qa (A ++ [v.s]).length qc) (A ++ [v.s]) (.slice sa S.length sc) S)
                (fun b hb => ⟨.inl (hb.elim (fun e => .inr e) (fun e => .inl (.inl (.inl (.inl (.inr e)))))), HJ7.out.T_lt (hb.elim (fun e => .inr e) (fun e => .inl (.inl (.inl (.inl (.inr e))))))⟩) ((keeps_own hk7.2).and (keeps_own hk7.1.1.1.1.2))
              have HO8 : Hid (Ov w.heap.size w wc) := HO6.out.trans (Ov.grown hgx)
              have HFF : Hid (LW w.heap.size r (k + 1) _ (.pointer (some ⟨jb, 0, none⟩)) (.slice qa (A ++ [v.s]).length qc) (.slice sa S.length sc) (A ++ [v.s]) S wc) :=
                ⟨.inr ⟨jb, _, _, _, rfl, hj8, by simpa [allA] using HQ2.out⟩, by simpa [allA] using HQ1.out, fun z hz => (List.mem_append.1 hz).elim (HLW.out.sz z) (fun h => by rw [List.mem_singleton.1 h]; exact hvs), by simp; omega, HLW.out.sm,
                  fun b hb => hb.elim (fun e => by have h1 := HQL.out b e; have h2 := HO6.out.size; omega) (fun e => HLW.out.tb b (.inr e))⟩
              clear hk7 hj8 hs1 hs2 HJ7 HQL HXL HYL HSL HXB HO6 hx hgx hbx HLW HQ1 HQ2
              go_wp2_with fail
              refine HN.out.mono ?_
              clear HN
              rintro e w9 ⟨rfl, hb9⟩
              have HO9 : Hid (Ov w.heap.size w w9) := HO8.out.trans (ovBelow hb9)
              have HF : Hid (∃ st' A' S', LW w.heap.size r (k + 1) st' _ _ _ A' S' w9) := ⟨_, _, _, HFF.out.same (same_below hb9)⟩
              clear HFF hb9 HO8
              go_wp2_with fail
              go_roundw
              case rel => exact ⟨k + 1, by omega, by go_num, HO9, by simpa using HF⟩
              case measure => simp [RowKit.intOf]; omega
          · rw [hc] at HQ1 HQ2 ⊢
            rw [hR] at HQ2 HJ6 HYL ⊢
            clear HCS hc hR
            have HD := Lib.hid (disky_any 7 w6)
            rw [show decide ((7 : Int) = 8 ∨ (7 : Int) = 9) = false from by decide] at HD
            have hk6 := HJ6.out.keeps.self
            obtain ⟨_, _, e1, hs1⟩ := own_strs' hk6.2
            cases e1
            obtain ⟨_, _, e1, hs2⟩ := own_strs' hk6.1.2
            cases e1
            have HN := Lib.hid (same_any ya xa yc xc R R (by omega) (by omega) w6 hs1 hs2)
            rw [decide_eq_true (rfl : R = R)] at HN
            have hj8 := HJ6.out.swap ⟨Nat.le_refl _, fun _ _ => rfl⟩ (T' := T2 (.slice la A.length lc) (.slice sa S.length sc)) (K' := K2 (.slice la A.length lc) A (.slice sa S.length sc) S)
              (fun b hb => ⟨.inl (.inl (.inl (.inl hb))), HJ6.out.T_lt (.inl (.inl (.inl hb)))⟩) ((keeps_own hk6.1.1.1.1).and (keeps_own hk6.1.1.1.2))
            have HFF : Hid (LW w.heap.size r (k + 1) _ (.pointer (some ⟨jb, 0, none⟩)) (.slice la A.length lc) (.slice sa S.length sc) A S w6) :=
              ⟨.inr ⟨jb, _, _, _, rfl, hj8, by simpa [allA] using HQ2.out⟩, by simpa [allA] using HQ1.out, HLW.out.sz, by omega, HLW.out.sm, HLW.out.tb⟩
            clear hk6 hj8 hs1 hs2 HJ6 HXL HYL HSL HXB HLW HQ1 HQ2
            go_wp2_with fail
            refine HD.out.mono ?_
            clear HD
            rintro e wd ⟨rfl, rfl⟩
            go_wp2_with fail
            refine HN.out.mono ?_
            clear HN
            rintro e w9 ⟨rfl, hb9⟩
            have HO9 : Hid (Ov w.heap.size w w9) := HO6.out.trans (ovBelow hb9)
            have HF : Hid (∃ st' A' S', LW w.heap.size r (k + 1) st' _ _ _ A' S' w9) := ⟨_, _, _, HFF.out.same (same_below hb9)⟩
            clear HFF hb9 HO6
            go_wp2_with fail
            go_roundw
            case rel => exact ⟨k + 1, by omega, by go_num, HO9, by simpa using HF⟩
            case measure => simp [RowKit.intOf]; omega
      · rw [h1] at g0 HDJ HO1
        clear hkb h1
        rcases HDJ.out with ⟨rfl, _⟩ | ⟨jb, R, bad, u, rfl, hj, hr⟩
        · have HF : Hid (∃ st' A' S', LW w.heap.size r (k + 1) st' (.pointer none) (.slice la A.length lc) (.slice sa S.length sc) A' S' (wr.alloc (.cells #[.int .i64 1, .string v.s, .int .i64 v.n, .slice v.ka v.k.length v.kc] 34))) :=
            ⟨_, _, _, HDJ.out.leave, HLW.out.ji, HLW.out.sz, by have := HLW.out.len; omega, HLW.out.sm, HLW.out.tb⟩
          clear HLW HDJ
          go_wp2_with fail
          go_roundw
          case rel => exact ⟨k + 1, by omega, by go_num, HO1, HF⟩
          case measure => simp [RowKit.intOf]; omega
        · have hrl : R.length ≤ A.length := hr.pre.length_le
          have hlen := HLW.out.len
          have hz1 := HO1.out.size
          obtain ⟨q1, q2⟩ := sy_ji (bad := bad) HLW.out.ji hr
          have HN := Lib.hid (sync_any' hj hz1 (by omega))
          have HRP := Lib.hid hr.pre
          obtain ⟨c, hc⟩ : ∃ c, syC st 3 bad = c := ⟨_, rfl⟩
          rw [hc] at q1 q2
          clear hj hr HDJ
          by_cases hc0 : c = 0
          · subst hc0
            obtain ⟨q1, q3⟩ := q1 rfl
            have HQ1 := Lib.hid q1
            have HQ3 := Lib.hid q3
            clear q1 q2 q3
            go_wp2_with fail
            refine HN.out.mono ?_
            clear HN
            rintro e w4 ⟨rfl, hj4, ho⟩
            rw [hc]
            have HO4 : Hid (Ov w.heap.size w w4) := HO1.out.trans ho
            have HN := Lib.hid (all_any hj4 (by omega))
            have HJ4 := Lib.hid hj4
            clear hj4 ho hc
            go_wp2_with fail
            refine HN.out.mono ?_
            clear HN
            rintro e w5 ⟨x5, rfl, hrow, hb5⟩
            obtain ⟨hown, hbl⟩ := own_of_row hrow
            have HO5 : Hid (Ov w.heap.size w w5) := HO4.out.trans (ovBelow hb5)
            have hj5 := HJ4.out.withRow (same_below hb5) hown hbl
            have hz4 := HO4.out.size
            have HF : Hid (∃ st' A' S', LW w.heap.size r (k + 1) st' (.pointer (some ⟨jb, 0, none⟩)) (.slice la A.length lc) x5 A' S' w5) :=
              ⟨_, _, _, .inr ⟨jb, _, _, _, rfl, hj5.swap ⟨Nat.le_refl _, fun _ _ => rfl⟩ (fun b hb => by
                  have h2 : (TI (.slice la A.length lc) (.slice sa S.length sc) wr.heap.size b ∨ blk x5 = some b) := hb.elim (fun h => .inl (.inl (.inl h))) .inr
                  exact ⟨.inl h2, hj5.T_lt h2⟩) (fun w' hb => ⟨hj5.keeps.self.1.1.1.kept fun b e => hb b (.inl e), hown.kept fun b e => hb b (.inr e)⟩), HQ3.out⟩,
                HQ1.out, HLW.out.sz, by omega, fun x hx => by have := HLW.out.sz x (HRP.out.subset hx); omega, fun b hb => hb.elim (fun h => HLW.out.tb b (.inl h)) (fun h => Nat.le_trans hz4 (hbl b h))⟩
            clear hj5 hrow hown hbl hb5 HJ4 HQ1 HQ3 HLW HRP HO4 hz4
            go_wp2_with fail
            go_roundw
            case rel => exact ⟨k + 1, by omega, by go_num, HO5, HF⟩
            case measure => simp [RowKit.intOf]; omega
          · obtain ⟨q1, q3⟩ := q2 hc0
            have HQ1 := Lib.hid q1
            have HQ3 := Lib.hid q3
            have hc1 : (c == 0) = false := by simpa using hc0
            clear q1 q2 q3
            go_wp2_with fail
            refine HN.out.mono ?_
            clear HN
            rintro e w4 ⟨rfl, hj4, ho⟩
            rw [hc]
            have HO4 : Hid (Ov w.heap.size w w4) := HO1.out.trans ho
            have HF : Hid (∃ st' A' S', LW w.heap.size r (k + 1) st' (.pointer (some ⟨jb, 0, none⟩)) (.slice la A.length lc) (.slice sa S.length sc) A' S' w4) :=
              ⟨_, _, _, DJ.leave (.inr ⟨jb, _, _, _, rfl, hj4, HQ3.out⟩), HQ1.out, HLW.out.sz, by omega, HLW.out.sm, HLW.out.tb⟩
            clear hj4 ho hc HQ1 HQ3 HLW HRP
            go_wp2_with fail
            go_roundw
            case rel => exact ⟨k + 1, by omega, by go_num, HO4, HF⟩
            case measure => simp [RowKit.intOf]; omega
      · rw [h2] at g0 HDJ HO1
        clear hkb h2
        have hz1 := HO1.out.size
        have HN := Lib.hid (HDJ.out.lose hz1 v.n hnb)
        clear HDJ
        go_wp2_with fail
        refine HN.out.mono ?_
        clear HN
        rintro e w4 ⟨rfl, hj4, ho⟩
        have HO4 : Hid (Ov w.heap.size w w4) := HO1.out.trans ho
        have HF : Hid (∃ st' A' S', LW w.heap.size r (k + 1) st' u7 (.slice la A.length lc) (.slice sa S.length sc) A' S' w4) :=
          ⟨_, _, _, hj4.leave, HLW.out.ji.lose hnb.2, HLW.out.sz, by have := HLW.out.len; omega, HLW.out.sm, HLW.out.tb⟩
        clear hj4 ho HLW
        go_wp2_with fail
        go_roundw
        case rel => exact ⟨k + 1, by omega, by go_num, HO4, HF⟩
        case measure => simp [RowKit.intOf]; omega
      · rw [h3] at g0 HDJ HO1
        clear hkb h3
        have hz1 := HO1.out.size
        have hok := HOK0.out.later (Nat.le_refl _) HO1.out
        have hkk : v.k.length ≤ 1000000000 ∧ ∀ x ∈ v.k, -9223372036854775808 ≤ x ∧ x ≤ 9223372036854775807 := ⟨by omega, hok.ib⟩
        have HN := Lib.hid (HDJ.out.arm hz1 v.n hnb _ _ hok.ints hkk)
        have HX := Lib.hid (HLW.out.ji.arm hnb.2 hkk)
        clear HDJ hok hkk
        go_wp2_with fail
        refine HN.out.mono ?_
        clear HN
        rintro e w4 ⟨rfl, hj4, ho⟩
        have HO4 : Hid (Ov w.heap.size w w4) := HO1.out.trans ho
        have HF : Hid (∃ st' A' S', LW w.heap.size r (k + 1) st' u7 (.slice la A.length lc) (.slice sa S.length sc) A' S' w4) :=
          ⟨_, _, _, hj4.leave, HX.out, HLW.out.sz, by have := HLW.out.len; omega, HLW.out.sm, HLW.out.tb⟩
        clear hj4 ho HLW HX
        go_wp2_with fail
        go_roundw
        case rel => exact ⟨k + 1, by omega, by go_num, HO4, HF⟩
        case measure => simp [RowKit.intOf]; omega
      · rw [h4] at g0 HDJ HO1
        clear hkb h4
        have hz1 := HO1.out.size
        have hok := HOK0.out.later (Nat.le_refl _) HO1.out
        have HN := Lib.hid (HDJ.out.dk.crash hz1 (.slice v.ka v.k.length v.kc) v.k hok.ints (fun b hb => HOK0.out.ints.off_lt hb) ⟨by omega, hok.ib⟩)
        have HX := Lib.hid (HLW.out.ji.crash v.k)
        clear HDJ hok
        go_wp2_with fail
        refine HN.out.mono ?_
        clear HN
        rintro e w4 ⟨rfl, hk4, ho⟩
        have HO4 : Hid (Ov w.heap.size w w4) := HO1.out.trans ho
        have HK4 := Lib.hid hk4
        obtain ⟨st4, hst⟩ : ∃ s, Di.crash st v.k = s := ⟨_, rfl⟩
        rw [hst] at HX HK4
        clear hk4 ho hst HO1 hz1
        have hz4 := HO4.out.size
        have HN := Lib.hid (HK4.out.start hz4)
        have HX5 := Lib.hid HX.out.start
        obtain ⟨st5, hst5⟩ : ∃ s, Di.start st4 = s := ⟨_, rfl⟩
        rw [hst5] at HN HX5
        clear HK4 HX hst5 hz4
        go_wp2_with fail
        refine HN.out.mono ?_
        clear HN
        rintro e w5 ⟨rfl, hk5, ho⟩
        have HO5 : Hid (Ov w.heap.size w w5) := HO4.out.trans ho
        have hz5 := HO5.out.size
        have HE5 := Lib.hid (env_ov HE0.out HO5.out h6)
        have HN := Lib.hid (open_any hk5 hz5 h6 HE5.out (f := 3) (by omega))
        clear hk5 ho HO4
        go_wp2_with fail
        refine HN.out.mono ?_
        clear HN
        rintro e w6 ⟨ho, ⟨hc, rfl, hk6⟩ | ⟨hc, jb, v6, rfl, hj6⟩⟩
        · have HO6 : Hid (Ov w.heap.size w w6) := HO5.out.trans ho
          have he := op_err (st := st5) (show isF 3 = true by decide) hc
          have HF : Hid (∃ st' A' S', LW w.heap.size r (k + 1) st' (.pointer none) (.slice la A.length lc) (.slice sa S.length sc) A' S' w6) :=
            ⟨_, _, _, DJ.leave (.inl ⟨rfl, hk6⟩), HX5.out.op HLW.out.sm, HLW.out.sz, by have := HLW.out.len; omega, HLW.out.sm, HLW.out.tb⟩
          obtain ⟨c, hcc⟩ : ∃ c, opC st5 3 = c := ⟨_, rfl⟩
          have HD := Lib.hid (disky_any c w6)
          rw [hcc] at he ⊢
          rw [show decide (c = 8 ∨ c = 9) = true by simpa using he] at HD
          have hkl : ((k : Int) == (vs.length : Int)) = false := by simp; omega
          clear hk6 ho hc he hcc HX5 HLW HO5 hz5 HE5
          go_wp2_with fail
          refine HD.out.mono ?_
          clear HD
          rintro e w7 ⟨rfl, rfl⟩
          go_wp2_with fail
          go_roundw
          case rel => exact ⟨k + 1, by omega, by go_num, HO6, HF⟩
          case measure => simp [RowKit.intOf]; omega
        · have HO6 : Hid (Ov w.heap.size w w6) := HO5.out.trans ho
          have HRA := Lib.hid (HX5.out.op_all HLW.out.sz)
          have HSR := Lib.hid (HX5.out.sure_op HLW.out.sm)
          have HJI := Lib.hid (op_solid hc (opS_wf HX5.out.wf))
          have HOP := Lib.hid (op_ok hc).2.1
          obtain ⟨R, hR⟩ : ∃ R, opR st5 3 = R := ⟨_, rfl⟩
          rw [hR] at HRA HSR HJI HOP hj6
          have hrl : R.length ≤ A.length := HRA.out.length_le
          have hsl : S.length ≤ R.length := HSR.out.length_le
          have hlen := HLW.out.len
          have HN := Lib.hid (all_any hj6 (by omega))
          have HJ6 := Lib.hid hj6
          clear hc hR hj6 ho HX5 HO5 hz5 HE5
          go_wp2_with fail
          refine HN.out.mono ?_
          clear HN
          rintro e w7 ⟨x7, rfl, hrow, hb7⟩
          obtain ⟨hown, hbl⟩ := own_of_row hrow
          have HO7 : Hid (Ov w.heap.size w w7) := HO6.out.trans (ovBelow hb7)
          have hj7 := HJ6.out.withRow (same_below hb7) hown hbl
          have hz6 := HO6.out.size
          obtain ⟨xa, xc, hx7, hx1, hx2⟩ := hown.shape
          subst hx7
          have HJ7 := Lib.hid hj7
          have HXB : Hid (∀ b, blk (.slice xa R.length xc) = some b → w.heap.size ≤ b) := fun b e => Nat.le_trans hz6 (hbl b e)
          obtain ⟨_, _, hla, hl1, hl2⟩ := hj7.keeps.self.1.1.1.shape
          cases hla
          obtain ⟨_, _, e1, hs1⟩ := own_strs' hj7.keeps.self.1.1.1
          cases e1
          obtain ⟨_, _, e1, hs2⟩ := own_strs' hown
          cases e1
          have HN := Lib.hid (begins_any la xa lc xc A R (by omega) (by omega) hl1 (by rw [← maxLen_eq]; exact hl2) w7 hs1 hs2)
          rw [decide_eq_true HRA.out] at HN
          clear hrow hown hbl hb7 hj7 HJ6 HO6 hz6 hs1 hs2 hx1 hx2 hl1 hl2
          go_wp2_with fail
          refine HN.out.mono ?_
          clear HN
          rintro e w8 ⟨rfl, hb8⟩
          have hj8 := HJ7.out.same (same_below hb8)
          have HO8 : Hid (Ov w.heap.size w w8) := HO7.out.trans (ovBelow hb8)
          obtain ⟨_, _, hla, hl1, hl2⟩ := hj8.keeps.self.2.shape
          cases hla
          obtain ⟨_, _, e1, hs1⟩ := own_strs' hj8.keeps.self.2
          cases e1
          obtain ⟨_, _, e1, hs2⟩ := own_strs' hj8.keeps.self.1.1.2
          cases e1
          have HN := Lib.hid (begins_any xa sa xc sc R S (by omega) (by omega) hl1 (by rw [← maxLen_eq]; exact hl2) w8 hs1 hs2)
          rw [decide_eq_true HSR.out] at HN
          have HJ8 := Lib.hid hj8
          clear hb8 hj8 HJ7 HO7 hs1 hs2 hl1 hl2
          go_wp2_with fail
          refine HN.out.mono ?_
          clear HN
          rintro e w9 ⟨rfl, hb9⟩
          have hj9 := HJ8.out.same (same_below hb9)
          have HO9 : Hid (Ov w.heap.size w w9) := HO8.out.trans (ovBelow hb9)
          have HF : Hid (∃ st' A' S', LW w.heap.size r (k + 1) st' (.pointer (some ⟨jb, 0, none⟩)) (.slice xa R.length xc) (.slice xa R.length xc) A' S' w9) :=
            ⟨_, _, _, .inr ⟨jb, _, _, _, rfl, hj9.swap ⟨Nat.le_refl _, fun _ _ => rfl⟩ (fun b hb => by
                have h2 : (TI (.slice la A.length lc) (.slice sa S.length sc) wr.heap.size b ∨ blk (.slice xa R.length xc) = some b) := .inr (hb.elim id id)
                exact ⟨.inl h2, hj9.T_lt h2⟩) (fun w' hb => ⟨hj9.keeps.self.2.kept fun b e => hb b (.inl e), hj9.keeps.self.2.kept fun b e => hb b (.inl e)⟩), fun _ => ⟨rfl, HOP.out⟩, List.prefix_refl _⟩,
              HJI.out, fun x hx => HLW.out.sz x (HRA.out.subset hx), by omega, fun x hx => by have := HLW.out.sz x (HRA.out.subset hx); omega, fun b hb => HXB.out b (hb.elim id id)⟩
          clear hb9 hj9 HJ8 HO8 HLW HRA HSR HJI HOP HXB
          go_wp2_with fail
          go_roundw
          case rel => exact ⟨k + 1, by omega, by go_num, HO9, HF⟩
          case measure => simp [RowKit.intOf]; omega
      · rw [h5] at g0 HDJ HO1
        clear hkb h5
        have HX := Lib.hid HLW.out.ji
        have HK4 := Lib.hid HDJ.out.dk
        obtain ⟨st4, hst⟩ : ∃ s, st = s := ⟨_, rfl⟩
        rw [hst] at HX HK4
        clear HDJ
        have hz4 := HO1.out.size
        have HN := Lib.hid (HK4.out.start hz4)
        have HX5 := Lib.hid HX.out.start
        obtain ⟨st5, hst5⟩ : ∃ s, Di.start st4 = s := ⟨_, rfl⟩
        rw [hst5] at HN HX5
        clear HK4 HX hst5 hz4
        go_wp2_with fail
        refine HN.out.mono ?_
        clear HN
        rintro e w5 ⟨rfl, hk5, ho⟩
        have HO5 : Hid (Ov w.heap.size w w5) := HO1.out.trans ho
        have hz5 := HO5.out.size
        have HE5 := Lib.hid (env_ov HE0.out HO5.out h6)
        have HN := Lib.hid (open_any hk5 hz5 h6 HE5.out (f := 3) (by omega))
        clear hk5 ho HO1
        go_wp2_with fail
        refine HN.out.mono ?_
        clear HN
        rintro e w6 ⟨ho, ⟨hc, rfl, hk6⟩ | ⟨hc, jb, v6, rfl, hj6⟩⟩
        · have HO6 : Hid (Ov w.heap.size w w6) := HO5.out.trans ho
          have he := op_err (st := st5) (show isF 3 = true by decide) hc
          have HF : Hid (∃ st' A' S', LW w.heap.size r (k + 1) st' (.pointer none) (.slice la A.length lc) (.slice sa S.length sc) A' S' w6) :=
            ⟨_, _, _, DJ.leave (.inl ⟨rfl, hk6⟩), HX5.out.op HLW.out.sm, HLW.out.sz, by have := HLW.out.len; omega, HLW.out.sm, HLW.out.tb⟩
          obtain ⟨c, hcc⟩ : ∃ c, opC st5 3 = c := ⟨_, rfl⟩
          have HD := Lib.hid (disky_any c w6)
          rw [hcc] at he ⊢
          rw [show decide (c = 8 ∨ c = 9) = true by simpa using he] at HD
          have hkl : ((k : Int) == (vs.length : Int)) = false := by simp; omega
          clear hk6 ho hc he hcc HX5 HLW HO5 hz5 HE5
          go_wp2_with fail
          refine HD.out.mono ?_
          clear HD
          rintro e w7 ⟨rfl, rfl⟩
          go_wp2_with fail
          go_roundw
          case rel => exact ⟨k + 1, by omega, by go_num, HO6, HF⟩
          case measure => simp [RowKit.intOf]; omega
        · have HO6 : Hid (Ov w.heap.size w w6) := HO5.out.trans ho
          have HRA := Lib.hid (HX5.out.op_all HLW.out.sz)
          have HSR := Lib.hid (HX5.out.sure_op HLW.out.sm)
          have HJI := Lib.hid (op_solid hc (opS_wf HX5.out.wf))
          have HOP := Lib.hid (op_ok hc).2.1
          obtain ⟨R, hR⟩ : ∃ R, opR st5 3 = R := ⟨_, rfl⟩
          rw [hR] at HRA HSR HJI HOP hj6
          have hrl : R.length ≤ A.length := HRA.out.length_le
          have hsl : S.length ≤ R.length := HSR.out.length_le
          have hlen := HLW.out.len
          have HN := Lib.hid (all_any hj6 (by omega))
          have HJ6 := Lib.hid hj6
          clear hc hR hj6 ho HX5 HO5 hz5 HE5
          go_wp2_with fail
          refine HN.out.mono ?_
          clear HN
          rintro e w7 ⟨x7, rfl, hrow, hb7⟩
          obtain ⟨hown, hbl⟩ := own_of_row hrow
          have HO7 : Hid (Ov w.heap.size w w7) := HO6.out.trans (ovBelow hb7)
          have hj7 := HJ6.out.withRow (same_below hb7) hown hbl
          have hz6 := HO6.out.size
          obtain ⟨xa, xc, hx7, hx1, hx2⟩ := hown.shape
          subst hx7
          have HJ7 := Lib.hid hj7
          have HXB : Hid (∀ b, blk (.slice xa R.length xc) = some b → w.heap.size ≤ b) := fun b e => Nat.le_trans hz6 (hbl b e)
          obtain ⟨_, _, hla, hl1, hl2⟩ := hj7.keeps.self.1.1.1.shape
          cases hla
          obtain ⟨_, _, e1, hs1⟩ := own_strs' hj7.keeps.self.1.1.1
          cases e1
          obtain ⟨_, _, e1, hs2⟩ := own_strs' hown
          cases e1
          have HN := Lib.hid (begins_any la xa lc xc A R (by omega) (by omega) hl1 (by rw [← maxLen_eq]; exact hl2) w7 hs1 hs2)
          rw [decide_eq_true HRA.out] at HN
          clear hrow hown hbl hb7 hj7 HJ6 HO6 hz6 hs1 hs2 hx1 hx2 hl1 hl2
          go_wp2_with fail
          refine HN.out.mono ?_
          clear HN
          rintro e w8 ⟨rfl, hb8⟩
          have hj8 := HJ7.out.same (same_below hb8)
          have HO8 : Hid (Ov w.heap.size w w8) := HO7.out.trans (ovBelow hb8)
          obtain ⟨_, _, hla, hl1, hl2⟩ := hj8.keeps.self.2.shape
          cases hla
          obtain ⟨_, _, e1, hs1⟩ := own_strs' hj8.keeps.self.2
          cases e1
          obtain ⟨_, _, e1, hs2⟩ := own_strs' hj8.keeps.self.1.1.2
          cases e1
          have HN := Lib.hid (begins_any xa sa xc sc R S (by omega) (by omega) hl1 (by rw [← maxLen_eq]; exact hl2) w8 hs1 hs2)
          rw [decide_eq_true HSR.out] at HN
          have HJ8 := Lib.hid hj8
          clear hb8 hj8 HJ7 HO7 hs1 hs2 hl1 hl2
          go_wp2_with fail
          refine HN.out.mono ?_
          clear HN
          rintro e w9 ⟨rfl, hb9⟩
          have hj9 := HJ8.out.same (same_below hb9)
          have HO9 : Hid (Ov w.heap.size w w9) := HO8.out.trans (ovBelow hb9)
          have HF : Hid (∃ st' A' S', LW w.heap.size r (k + 1) st' (.pointer (some ⟨jb, 0, none⟩)) (.slice xa R.length xc) (.slice xa R.length xc) A' S' w9) :=
            ⟨_, _, _, .inr ⟨jb, _, _, _, rfl, hj9.swap ⟨Nat.le_refl _, fun _ _ => rfl⟩ (fun b hb => by
                have h2 : (TI (.slice la A.length lc) (.slice sa S.length sc) wr.heap.size b ∨ blk (.slice xa R.length xc) = some b) := .inr (hb.elim id id)
                exact ⟨.inl h2, hj9.T_lt h2⟩) (fun w' hb => ⟨hj9.keeps.self.2.kept fun b e => hb b (.inl e), hj9.keeps.self.2.kept fun b e => hb b (.inl e)⟩), fun _ => ⟨rfl, HOP.out⟩, List.prefix_refl _⟩,
              HJI.out, fun x hx => HLW.out.sz x (HRA.out.subset hx), by omega, fun x hx => by have := HLW.out.sz x (HRA.out.subset hx); omega, fun b hb => HXB.out b (hb.elim id id)⟩
          clear hb9 hj9 HJ8 HO8 HLW HRA HSR HJI HOP HXB
          go_wp2_with fail
          go_roundw
          case rel => exact ⟨k + 1, by omega, by go_num, HO9, HF⟩
          case measure => simp [RowKit.intOf]; omega
      · clear hkb
        have HF : Hid (∃ st' A' S', LW w.heap.size r (k + 1) st' u7 (.slice la A.length lc) (.slice sa S.length sc) A' S' (wr.alloc (.cells #[.int .i64 v.kd, .string v.s, .int .i64 v.n, .slice v.ka v.k.length v.kc] 34))) :=
          ⟨_, _, _, HDJ.out.leave, HLW.out.ji, HLW.out.sz, by have := HLW.out.len; omega, HLW.out.sm, HLW.out.tb⟩
        clear HLW HDJ
        go_wp2_with fail
        go_roundw
        case rel => exact ⟨k + 1, by omega, by go_num, HO1, HF⟩
        case measure => simp [RowKit.intOf]; omega
    · by_cases hkl : k = vs.length
      · have hdj := HLW.out.enter #[.int .i64 4, .string ⟨#[]⟩, .int .i64 0, .slice a2 o.length cap2] 34
        have HO1 : Hid (Ov w.heap.size w (wr.alloc (.cells #[.int .i64 4, .string ⟨#[]⟩, .int .i64 0, .slice a2 o.length cap2] 34))) := HO.out.trans (Ov.grown (World.grownBy_alloc _ _ _))
        have hz1 := HO1.out.size
        have HN := Lib.hid (hdj.lose hz1 0 (by omega))
        clear hdj
        go_wp2_with fail
        refine HN.out.mono ?_
        clear HN
        rintro e w2 ⟨rfl, hdj2, ho⟩
        have HO2 : Hid (Ov w.heap.size w w2) := HO1.out.trans ho
        have hz2 := HO2.out.size
        have HN := Lib.hid (hdj2.arm hz2 0 (by omega) (.slice none 0 0) [] ⟨none, 0, rfl, Nat.le_refl _, .inl rfl⟩ ⟨by simp, by simp⟩)
        clear hdj2 ho HO1 hz1
        go_wp2_with fail
        refine HN.out.mono ?_
        clear HN
        rintro e w3 ⟨rfl, hdj3, ho⟩
        have HO3 : Hid (Ov w.heap.size w w3) := HO2.out.trans ho
        have hz3 := HO3.out.size
        obtain ⟨c0, _, _, c3⟩ := ki_cells hdj3.keeps.self
        have hi3 : Ints w3 (.slice a2 o.length cap2) o := HI1.out.kept fun b _ hlt => HO3.out.block b hlt (by omega)
        have HN := Lib.hid (hdj3.dk.crash hz3 (.slice a2 o.length cap2) o hi3 (fun b hb => HI1.out.off_lt hb) ⟨by omega, HK1.out.2⟩)
        have HX := Lib.hid (((HLW.out.ji.lose (n := 0) (by omega)).arm (n := 0) (by omega) (ks := []) ⟨by simp, by simp⟩).crash o)
        have h5 : (Di.start (Di.crash (Di.arm (Di.lose st 0) 0 []) o)).down = false ∧ (Di.start (Di.crash (Di.arm (Di.lose st 0) 0 []) o)).lost = 0 ∧ (Di.start (Di.crash (Di.arm (Di.lose st 0) 0 []) o)).calls = 0 :=
          ⟨rfl, (crash_lost _ o).trans rfl, crash_calls (show (Di.arm (Di.lose st 0) 0 []).calls = 0 from rfl) o⟩
        have H5 := Lib.hid h5
        clear hdj3 ho HO2 hz2 hi3 h5
        go_wp2_with fail
        refine HN.out.mono ?_
        clear HN
        rintro e w4 ⟨rfl, hk4, ho⟩
        have HO4 : Hid (Ov w.heap.size w w4) := HO3.out.trans ho
        have hz4 := HO4.out.size
        have HN := Lib.hid (hk4.start hz4)
        have HX5 := Lib.hid HX.out.start
        obtain ⟨st5, hst5⟩ : ∃ s, Di.start (Di.crash (Di.arm (Di.lose st 0) 0 []) o) = s := ⟨_, rfl⟩
        rw [hst5] at HN HX5 H5
        have HOP0 : Hid (opC st5 3 = 0) := (op_last (show isF 3 = true by decide) H5.out.1 H5.out.2.1 H5.out.2.2).1
        clear hk4 HX H5 hst5 HO3 hz3 ho c0 c3
        go_wp2_with fail
        refine HN.out.mono ?_
        clear HN
        rintro e w5 ⟨rfl, hk5, ho⟩
        have HO5 : Hid (Ov w.heap.size w w5) := HO4.out.trans ho
        have hz5 := HO5.out.size
        have HE5 := Lib.hid (env_ov HE0.out HO5.out h6)
        have HN := Lib.hid (open_any hk5 hz5 h6 HE5.out (f := 3) (by omega))
        clear hk5 ho HO4 hz4
        go_wp2_with fail
        refine HN.out.mono ?_
        clear HN
        rintro e w6 ⟨ho, ⟨hc, _, _⟩ | ⟨hc, jb, v6, rfl, hj6⟩⟩
        · exact absurd HOP0.out hc
        · clear HOP0
          have HO6 : Hid (Ov w.heap.size w w6) := HO5.out.trans ho
          have HRA := Lib.hid (HX5.out.op_all HLW.out.sz)
          have HSR := Lib.hid (HX5.out.sure_op HLW.out.sm)
          have HJI := Lib.hid (op_solid hc (opS_wf HX5.out.wf))
          have HOP := Lib.hid (op_ok hc).2.1
          obtain ⟨R, hR⟩ : ∃ R, opR st5 3 = R := ⟨_, rfl⟩
          rw [hR] at HRA HSR HJI HOP hj6
          have hrl : R.length ≤ A.length := HRA.out.length_le
          have hsl : S.length ≤ R.length := HSR.out.length_le
          have hlen := HLW.out.len
          have HN := Lib.hid (all_any hj6 (by omega))
          have HJ6 := Lib.hid hj6
          clear hc hR hj6 ho HX5 HO5 hz5 HE5
          go_wp2_with fail
          refine HN.out.mono ?_
          clear HN
          rintro e w7 ⟨x7, rfl, hrow, hb7⟩
          obtain ⟨hown, hbl⟩ := own_of_row hrow
          have HO7 : Hid (Ov w.heap.size w w7) := HO6.out.trans (ovBelow hb7)
          have hj7 := HJ6.out.withRow (same_below hb7) hown hbl
          have hz6 := HO6.out.size
          obtain ⟨xa, xc, hx7, hx1, hx2⟩ := hown.shape
          subst hx7
          have HJ7 := Lib.hid hj7
          have HXB : Hid (∀ b, blk (.slice xa R.length xc) = some b → w.heap.size ≤ b) := fun b e => Nat.le_trans hz6 (hbl b e)
          obtain ⟨_, _, hla, hl1, hl2⟩ := hj7.keeps.self.1.1.1.shape
          cases hla
          obtain ⟨_, _, e1, hs1⟩ := own_strs' hj7.keeps.self.1.1.1
          cases e1
          obtain ⟨_, _, e1, hs2⟩ := own_strs' hown
          cases e1
          have HN := Lib.hid (begins_any la xa lc xc A R (by omega) (by omega) hl1 (by rw [← maxLen_eq]; exact hl2) w7 hs1 hs2)
          rw [decide_eq_true HRA.out] at HN
          clear hrow hown hbl hb7 hj7 HJ6 HO6 hz6 hs1 hs2 hx1 hx2 hl1 hl2
          go_wp2_with fail
          refine HN.out.mono ?_
          clear HN
          rintro e w8 ⟨rfl, hb8⟩
          have hj8 := HJ7.out.same (same_below hb8)
          have HO8 : Hid (Ov w.heap.size w w8) := HO7.out.trans (ovBelow hb8)
          obtain ⟨_, _, hla, hl1, hl2⟩ := hj8.keeps.self.2.shape
          cases hla
          obtain ⟨_, _, e1, hs1⟩ := own_strs' hj8.keeps.self.2
          cases e1
          obtain ⟨_, _, e1, hs2⟩ := own_strs' hj8.keeps.self.1.1.2
          cases e1
          have HN := Lib.hid (begins_any xa sa xc sc R S (by omega) (by omega) hl1 (by rw [← maxLen_eq]; exact hl2) w8 hs1 hs2)
          rw [decide_eq_true HSR.out] at HN
          have HJ8 := Lib.hid hj8
          clear hb8 hj8 HJ7 HO7 hs1 hs2 hl1 hl2
          go_wp2_with fail
          refine HN.out.mono ?_
          clear HN
          rintro e w9 ⟨rfl, hb9⟩
          have hj9 := HJ8.out.same (same_below hb9)
          have HO9 : Hid (Ov w.heap.size w w9) := HO8.out.trans (ovBelow hb9)
          have HF : Hid (∃ st' A' S', LW w.heap.size r (k + 1) st' (.pointer (some ⟨jb, 0, none⟩)) (.slice xa R.length xc) (.slice xa R.length xc) A' S' w9) :=
            ⟨_, _, _, .inr ⟨jb, _, _, _, rfl, hj9.swap ⟨Nat.le_refl _, fun _ _ => rfl⟩ (fun b hb => by
                have h2 : (TI (.slice la A.length lc) (.slice sa S.length sc) wr.heap.size b ∨ blk (.slice xa R.length xc) = some b) := .inr (hb.elim id id)
                exact ⟨.inl h2, hj9.T_lt h2⟩) (fun w' hb => ⟨hj9.keeps.self.2.kept fun b e => hb b (.inl e), hj9.keeps.self.2.kept fun b e => hb b (.inl e)⟩), fun _ => ⟨rfl, HOP.out⟩, List.prefix_refl _⟩,
              HJI.out, fun x hx => HLW.out.sz x (HRA.out.subset hx), by omega, fun x hx => by have := HLW.out.sz x (HRA.out.subset hx); omega, fun b hb => HXB.out b (hb.elim id id)⟩
          clear hb9 hj9 HJ8 HO8 HLW HRA HSR HJI HOP HXB
          go_wp2_with fail
          go_roundw
          case rel => exact ⟨k + 1, by omega, by go_num, HO9, HF⟩
          case measure => simp [RowKit.intOf]; omega
      · go_wp2_with fail
        go_ret
        exact ⟨rfl, HO.out.below (Nat.le_refl _)⟩
theorem lasts_any (a a2 : Option Addr) (cap cap2 : Nat) (vs : List Opn) (o : List Int) (w : World) (he : Wi.Env w)
    (hv : OCells w a vs) (hvl : vs.length ≤ 9223372036854775807) (hi1 : Ints w (.slice a2 o.length cap2) o) (hk1 : ∀ x ∈ o, -9223372036854775808 ≤ x ∧ x ≤ 9223372036854775807) :
    Calls Tryd.prog 3 #[.slice a vs.length cap, .slice a2 o.length cap2] w (Gives (.bool true) w) := by
  by_cases h1 : few vs = true
  · by_cases h2 : o.length ≤ 50
    · exact lasts_in a a2 cap cap2 vs o w he hv h1 hi1 ⟨h2, hk1⟩
    · exact lasts_out a a2 cap cap2 vs o w he hv hvl (.inr ⟨h1, by omega⟩)
  · exact lasts_out a a2 cap cap2 vs o w he hv hvl (.inl (by simpa using h1))
end Go.Proofs.YtejddacjncpneaaDoor.Jo
