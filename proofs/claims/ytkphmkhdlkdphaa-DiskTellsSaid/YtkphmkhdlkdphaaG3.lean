/- The contract of settle. -/
import Derived.Test.YtkphmkhdlkdphaaG2
namespace Go.Proofs.Ytkphmkhdlkdphaa
open Go.RowKit Go.ChangeShapes Go.WideShapes
attribute [local go_sem ↓] Go.wp_at_zero Go.wp_at_succ

set_option maxRecDepth 100000 in
set_option maxHeartbeats 4000000 in
theorem settle_any {S : Nat → Prop} {p : Rep} {st : St} {w : World} (h : IsC S p st w) (f : Int) (hf : isF f = true) (hq : st.q.length ≤ 4194304) (hl : (st.now f).length ≤ 16777216)
    (hk : ∀ s ∈ st.q, isF s.1 = true ∧ s.2 ≤ 16777216) (hnd : st.q.Nodup) :
    Calls Try.prog 46 #[.pointer (some ⟨p.r, 0, none⟩), .int .i64 f] w fun e w' => e = .returned (.tuple #[]) ∧ ∃ p', p'.r = p.r ∧ IsC (Grew S w w') p' (settle st f) w' ∧ But S w w' := by
  have hfr := isF_t.1 hf
  obtain ⟨c0, c1, c2, c3, c4, c5, c6, c7⟩ := h.cell
  obtain ⟨fa, fc, hlf, hof, hbf, hc1, hc2⟩ := h.lookF f (by omega)
  obtain ⟨da, dc, hld, hod, hbd, hd1, hd2⟩ := h.lookD f (by omega)
  obtain ⟨i0, hi, hz0, hz1, hz2⟩ := info_parts infoB
  have hod0 : Own w.drew 5 1 (.slice da 0 dc) 0 [] := by have := (Own.take hod (m := 0) (Nat.zero_le _)).grown0 (grown_drew w); simpa using this
  have hsrc : Src Try.prog 1 62 (.slice fa (st.now f).length fc) (st.now f).length (Lib.byteCells (st.now f)) w.drew := Own.src (hof.grown0 (grown_drew w)) Try.underlying62 (Lib.byteCells_one _)
  have hbd0 : blk (.slice da 0 dc) = p.at (.d f) := by rw [← hbd]; cases da <;> cases dc <;> rfl
  have hDP : ∀ a' c' w3, Own w3 5 1 (.slice a' (0 + (st.now f).length) c') (0 + (st.now f).length) ([] ++ Lib.byteCells (st.now f)) → w.drew.grownBy w3 (blk (.slice da 0 dc)) →
      (blk (.slice a' (0 + (st.now f).length) c') = none ∨ blk (.slice a' (0 + (st.now f).length) c') = blk (.slice da 0 dc) ∨ blk (.slice a' (0 + (st.now f).length) c') = some w.drew.heap.size) →
      (w3.cell? ⟨p.r, 0, none⟩ = some (.map (some p.fm)) ∧ w3.cell? ⟨p.r, 1, none⟩ = some (.map (some p.dm))) ∧
      ∃ w4, (Instr.mapUpdate 52 (.map (some p.dm)) (.int .i64 f) (.slice a' (st.now f).length c')).run Try.prog w3 = .ok () w4 ∧ (w4.cell? ⟨p.r, 0, none⟩ = some (.map (some p.fm)) ∧ w4.cell? ⟨p.r, 1, none⟩ = some (.map (some p.dm))) ∧
        IsC (Grew S w w4) { p with dv := upd p.dv f (some (.slice a' (st.now f).length c')) } { st with dur := upd st.dur f (st.now f) } w4 ∧ But S w w4 := by
    intro a' c' w3 h1 h2 h3
    rw [Nat.zero_add, List.nil_append] at h1
    rw [Nat.zero_add] at h3
    rw [hbd0] at h2 h3
    have hg : w.grownBy w3 (p.at (.d f)) := ((grown_drew w).but _).trans h2
    have hlr := h.lt (s := .r) rfl
    have ner : p.at (.d f) ≠ some p.r := fun e => by have := h.inj (.d f) .r p.r e rfl; cases this
    have nedr : p.dm ≠ p.r := fun e => by have := h.inj .dm .r p.dm rfl (by rw [e]; rfl); cases this
    have k3 := hg.block p.r hlr (Ne.symm ner)
    obtain ⟨w4, hup, hc4, hb4, hg4, hs4⟩ := h.dput f (by omega) hg h1 (h3.imp id (fun h => h.imp id (fun h => ⟨_, h, by show w.heap.size ≤ w.drew.heap.size; exact Nat.le_refl _⟩)))
    have hsz := hg.size
    have k4 := hg4.block p.r (by omega) (fun e => nedr (Option.some.inj e).symm)
    have cc : ∀ w' : World, w'.heap[p.r]? = w.heap[p.r]? → w'.cell? ⟨p.r, 0, none⟩ = some (.map (some p.fm)) ∧ w'.cell? ⟨p.r, 1, none⟩ = some (.map (some p.dm)) := fun w' e =>
      ⟨(World.cell?_of_block (a := ⟨p.r, 0, none⟩) e).trans c0, (World.cell?_of_block (a := ⟨p.r, 1, none⟩) e).trans c1⟩
    refine ⟨cc w3 k3, w4, hup, cc w4 (k4.trans k3), hc4, hb4.mono ?_⟩
    rintro i ⟨s, _, hs⟩
    exact h.inS s i hs
  have hlF := hlf w.drew rfl
  have hlD := hld w.drew rfl
  obtain ⟨fl, hfl⟩ : ∃ fl, (st.now f).length = fl := ⟨_, rfl⟩
  obtain ⟨bc, hbc⟩ : ∃ bc, Lib.byteCells (st.now f) = bc := ⟨_, rfl⟩
  obtain ⟨dl, hdl⟩ : ∃ dl, (st.dur f).length = dl := ⟨_, rfl⟩
  rw [hfl] at hl hDP hsrc hlF hc1
  rw [hbc] at hDP hsrc
  rw [hdl] at hlD hd1
  have HDP := Lib.hid hDP
  have HSRC := Lib.hid hsrc
  have HOD := Lib.hid hod0
  have HQ := Lib.hid hq
  have HK := Lib.hid hk
  have HND := Lib.hid hnd
  have HF := Lib.hid hf
  have hs0 : w.cell? ⟨p.r, 0, none⟩ = some (.map (some p.fm)) ∧ w.cell? ⟨p.r, 1, none⟩ = some (.map (some p.dm)) := ⟨c0, c1⟩
  clear h c2 c3 c4 c5 c6 c7 hof hod hbf hbd hod0 hsrc hbd0 hDP hfl hbc hlf hld hdl hq hk hnd hf c0 c1
  go_enter Try.func46, Try.ntmps46
  go_wp2_with fail
  go_region_held3 (fun w' => w'.cell? ⟨p.r, 0, none⟩ = some (.map (some p.fm)) ∧ w'.cell? ⟨p.r, 1, none⟩ = some (.map (some p.dm)))
    (first | exact hs0 | exact hs3 | exact hs4)
    ((refine step_own_append (by rfl) _ _ _ _ (by rfl) Try.underlying62 hi hz0 hz1 hz2 rfl (by rfl) HOD.out _ (by rfl) HSRC.out (by unfold maxLen; omega) (by omega) ?_; intro a' c' w3 hown3 hgr3 hbl3; obtain ⟨hs3, w4, hup, hs4, hc4, hb4⟩ := HDP.out a' c' w3 hown3 hgr3 hbl3; rw [Nat.zero_add]))
  all_goals
    have HC4 := Lib.hid hc4
    have HB4 := Lib.hid hb4
    have hown : Own w4 69 2 p.pv st.q.length (cellsQ st.q) := hc4.holds .pv
    obtain ⟨pa, pc, hpv, hpc, _⟩ := hown.shape
    have c2 : w4.cell? ⟨p.r, 2, none⟩ = some p.pv := hc4.cell.2.2.1
    have hlr4 : p.r < w4.heap.size := hc4.lt (s := .r) rfl
    rw [hpv] at c2
    have HPV := Lib.hid hpv
    obtain ⟨ql, hql⟩ : ∃ ql, st.q.length = ql := ⟨_, rfl⟩
    have HQL := Lib.hid hql
    rw [hql] at c2 hpc
    have hqb : ql ≤ 4194304 := by rw [← hql]; exact HQ.out
    have H0 : Hid (SetAt p st.q f w4 0 (.slice none 0 0) w4) := by
      refine ⟨But.refl _ _, ?_, ?_, fun b hb => by cases hb⟩
      · rw [listedAt_zero]; exact hc4.holds .lm
      · have : keptAt st.q f 0 = [] := by simp [keptAt]
        rw [this]; exact Own.nil _ _ _
    clear hc4 hb4 hup hs4 hs3 hown3 hgr3 hbl3 hown hpv hql hs0 hlF hlD hi hz0 hz1 hz2
    go_wp2_with fail
    go_loopw [4, 31] (fun ov i wr => ∃ k : Nat, k ≤ ql ∧ i = .int .i64 k ∧ SetAt p st.q f w4 k ov wr) (fun _ i _ => ql - (RowKit.intOf i).toNat)
    case atStart => exact ⟨0, Nat.zero_le _, rfl, H0.out⟩
    case round =>
      clear c2
      obtain ⟨k, hkq, rfl, hat⟩ := hrel
      have HA := Lib.hid hat
      clear hat
      by_cases hlt : k < ql
      · have hkq' : k < st.q.length := by rw [HQL.out]; exact hlt
        obtain ⟨s, hs⟩ : ∃ s, st.q[k] = s := ⟨_, rfl⟩
        have hsm : s ∈ st.q := by rw [← hs]; exact List.getElem_mem _
        have hsq := HK.out s hsm
        have hsf := isF_t.1 hsq.1
        obtain ⟨hb1, hm1, ho1, hn1⟩ := HA.out
        have npl : blk p.pv ≠ some p.lm := fun e => by have := HC4.out.inj .pv .lm p.lm e rfl; cases this
        have nrl : p.r ≠ p.lm := fun e => by have := HC4.out.inj .r .lm p.r rfl (by rw [e]; rfl); cases this
        have hown : Own wr 69 2 (.slice pa st.q.length pc) st.q.length (cellsQ st.q) := by
          rw [← HPV.out]
          have h4 : Own w4 69 2 p.pv st.q.length (cellsQ st.q) := HC4.out.holds .pv
          exact h4.kept fun b hb => hb1.block b (h4.lt b hb) (fun e => npl (by rw [hb, e]))
        have hcq := cellsQ_get st.q k hkq'
        rw [hs] at hcq
        obtain ⟨g, hpa, hq0⟩ := hown.cell hcq.1
        obtain ⟨g2, hpa2, hq1⟩ := hown.cell hcq.2
        obtain rfl : g = g2 := by rw [hpa] at hpa2; simpa using hpa2
        subst hpa
        obtain ⟨kl, hkl⟩ := keyS_of s hsq.1 hsq.2
        have hkr := hb1.block p.r hlr4 nrl
        have c3 : wr.cell? ⟨p.r, 3, none⟩ = some (.map (some p.lm)) := (World.cell?_of_block (a := ⟨p.r, 3, none⟩) hkr).trans HC4.out.cell.2.2.2.1
        have hlr : p.r < wr.heap.size := Nat.lt_of_lt_of_le hlr4 hb1.size
        have hgl := World.block_lt_of_cell? wr _ hq0
        have hgw : wr.grownBy (wr.alloc (.cells #[.int .i64 s.1, .int .i64 s.2] 69)) none := World.grownBy_alloc _ _ _
        have HA1 := Lib.hid (HA.out.grown hgw)
        by_cases hsf1 : s.1 = f
        · obtain ⟨w6, hdel, hm6, hg6, hs6⟩ := (hm1.kept (w' := (wr.alloc (.cells #[.int .i64 s.1, .int .i64 s.2] 69)).drew) ((MapKept.heap_alloc wr _).2 _ hm1.lt)).delete (ty := 0) lawS Try.underlying53 hkl (by rw [← hs]; exact listedAt_no hkq' (by rw [hs]; exact hsf1) HND.out)
          have H6 : Hid (∀ ov, SetAt p st.q f w4 k ov wr → SetAt p st.q f w4 (k + 1) ov w6) := by
            intro ov ⟨hb1, hm1, ho1, hn1⟩
            refine ⟨(hb1.trans (S' := fun _ => False) (But.of (hgw.trans (grown_drew _)) fun b e _ => by cases e) (fun _ _ h => h.elim)).trans (S' := fun b => b = p.lm) (But.of hg6 fun b e _ => by cases e; rfl) (fun _ _ h => h), hm6, ?_, hn1⟩
            rw [keptAt_no hkq' (by rw [hs]; exact hsf1)]
            exact (ho1.grown0 (hgw.trans (grown_drew _))).grown hg6 (.inr (Own.ne_map (ho1.grown0 (hgw.trans (grown_drew _))) (hm1.kept ((MapKept.heap_alloc wr _).2 _ hm1.lt))))
          have HDEL := Lib.hid hdel
          clear hb1 hm1 ho1 hn1 hown hcq hkl hm6 hg6 hs6 hs hsm hsq hkq' hpa2 hkr hgw hdel
          rcases s with ⟨sf, sn⟩
          simp only at *
          subst hsf1
          go_wp2_with fail
          go_region_law ((refine step_delete (by rfl) _ _ _ _ (by rfl) _ _ (by rfl) (by rfl) HDEL.out ?_))
          all_goals
            go_wp2_with fail
            go_roundw
            case rel => exact ⟨k + 1, by omega, by go_num, H6.out _ HA.out⟩
            case measure => simp [RowKit.intOf]; omega
        · obtain ⟨a9, n9, c9, w9, hrun9, hat9⟩ := HA.out.push hkq' hs hsf1 HQ.out
          have H9 := Lib.hid hat9
          have hsf0 : (s.1 == f) = false := by simpa using hsf1
          have hsf2 : decide (s.1 = f) = false := by simpa using hsf1
          clear hb1 hm1 ho1 hn1 hown hcq hkl hs hsm hsq hkq' hpa2 hkr hgw hat9 hsf1
          rcases s with ⟨sf, sn⟩
          simp only at *
          go_wp2_with (at_builtin; refine Lib.wpList_append_run _ rfl _ _ _ _ rfl _ _ rfl rfl _ _ hrun9 ?_)
          go_roundw
          case rel => exact ⟨k + 1, by omega, by go_num, H9.out⟩
          case measure => simp [RowKit.intOf]; omega
      · have hkl : k = ql := by omega
        have HKL := Lib.hid hkl
        have nrl : p.r ≠ p.lm := fun e => by have := HC4.out.inj .r .lm p.r rfl (by rw [e]; rfl); cases this
        have hkr := HA.out.1.block p.r hlr4 nrl
        have c2 : wr.cell? ⟨p.r, 2, none⟩ = some p.pv := (World.cell?_of_block (a := ⟨p.r, 2, none⟩) hkr).trans HC4.out.cell.2.2.1
        have f2 : wr.frozen? ⟨p.r, 2, none⟩ = false := (World.frozen?_of_block (a := ⟨p.r, 2, none⟩) hkr).trans (HC4.out.froz 2)
        have hown9 := HA.out.2.2.1
        obtain ⟨a9, c9, hov9, _, _⟩ := hown9.shape
        subst hov9
        have HEND := Lib.hid (settle_end HC4.out (by rw [HQL.out, hkl]; exact Nat.le_refl _) HA.out)
        clear hkr hkl hown9
        go_wp2_with fail
        go_end0
        refine ⟨rfl, _, ?_, HEND.out.1.mono fun b hb => ?_, HB4.out.trans HEND.out.2 fun i hi hb => ?_⟩
        · rfl
        · have := HEND.out.2.size
          have := HB4.out.size
          rcases hb with (hb | ⟨h1, h2⟩) | ⟨h1, h2⟩
          · exact .inl hb
          · exact .inr ⟨h1, by omega⟩
          · exact .inr ⟨by omega, h2⟩
        · rcases hb with hb | ⟨h1, h2⟩
          · exact hb
          · omega
end Go.Proofs.Ytkphmkhdlkdphaa
