/- The reference's Crash. -/
import Derived.Test.YtejddacjncpneaaGreatDoorDiE10
set_option maxRecDepth 100000
namespace Go.Proofs.YtejddacjncpneaaGreatDoor.Di
open Go.RowKit Go.ChangeShapes Go.WideShapes

theorem RIs.nums' {S : Nat → Prop} {r : Nat} {fv qv kv : Value} {a : RS} {w w' : World} (h : RIs S r fv qv kv a w) {lost calls : Int} {down : Bool} (hg : w.grownBy w' (some r)) (hd : w'.heap[r]? = some (.cells #[fv, qv, .int .i64 lost, .bool down, .int .i64 calls, kv] 64 (0, 0))) :
    RIs (Grew S w w') r fv qv kv { a with lost := lost, down := down, calls := calls } w' :=
  RIs.mono (S := S) ⟨hd, h.fo.grown hg (.inr h.rf), h.qo.grown hg (.inr h.rq), h.ko.grown hg (.inr h.rk), h.rf, h.rq, h.rk, h.fq, h.fk, h.qk, h.sr, h.sf, h.sq, h.sk⟩ fun _ hb => .inl hb

/-- append at a step of a region that draws its order, its run known. -/
theorem step_append_run {P : Program} {w w' : World} {v' : Value} {ops : Array Oper} {o : Oper} {a : Act} {K : Act → World → Prop} {Q : Exit → Act → World → Prop} {E : Prop} (hgd : o.guard = none) (m x : Operand) (t kt : TypeId)
    (ho : o.op = .call { callee := .builtin .append, args := #[m, x], argTypes := #[t, kt] }) (vm vx : Value) (hm : a.eval m = vm) (hx : a.eval x = vx) (hr : (Builtin.append_ #[t, kt] o.type #[vm, vx]).run P w = .ok v' w')
    (hk : K (a.put o.dst v') w') : if Region.wanted o (yielded ops a.tmps) = true then Oper.wp P o a w K Q else E := by
  have hw : Region.wanted o (yielded ops a.tmps) = true := by simp [Region.wanted, hgd]
  rw [if_pos hw]
  unfold Oper.wp execOp
  simp only [ho, resolve, invoke, builtin, Sem.run_bind, Sem.run_pure, Result.andThen_ok, List.map_toArray, List.map_cons, List.map_nil, hm, hx, hr]
  exact hk

set_option maxRecDepth 100000 in
set_option maxHeartbeats 8000000 in
theorem rcrash_any {S : Nat → Prop} {r : Nat} {fv qv kv : Value} {a : RS} {st : St} {w : World} (h : RIs S r fv qv kv a w) (hr : Rel a st) (v : Value) (ks : List Int) (hv : Ints w v ks) (hk : ks.length ≤ 1000000000 ∧ ∀ x ∈ ks, -9223372036854775808 ≤ x ∧ x ≤ 9223372036854775807)
    (hoff : ∀ b, Ints.off v b → b ≠ r) : Calls Tryz.prog 21 #[.pointer (some ⟨r, 0, none⟩), v] w (RPost S r (crash st ks) w (.tuple #[])) := by
  obtain ⟨_, _, _, c3, c4, _⟩ := h.cell
  by_cases hd : st.down = true
  · have e : crash st ks = st := by unfold crash; rw [if_pos hd]
    have HF : Hid (RPost S r (crash st ks) w (.tuple #[]) (.returned (.tuple #[])) w) := by rw [e]; exact ⟨rfl, a, h.raf, hr⟩
    rw [hr.down, hd] at c3
    clear h hr hv hk hoff hd e
    go_enter Tryz.func21, Tryz.ntmps21
    go_wp2_with fail
    refine bodyPost_ret (results_none rfl _ _ _) rfl HF.out
  · have hd' : st.down = false := by simpa using hd
    have f3 := h.froz 3
    have f4 := h.froz 4
    obtain ⟨va, vc, rfl, hvc, hvk⟩ := hv
    have hs1 := Lib.heap_setCell_same (i := 4) (Lib.heap_setCell_same (i := 3) h.hd (.bool true)) (.int .i64 0)
    have hg1 : w.grownBy ((w.setCell ⟨r, 3, none⟩ (.bool true)).setCell ⟨r, 4, none⟩ (.int .i64 0)) (some r) := (grownBy_setCell' _ _ _ _).trans (grownBy_setCell' _ _ _ _)
    have h1 := h.nums' (w' := (w.setCell ⟨r, 3, none⟩ (.bool true)).setCell ⟨r, 4, none⟩ (.int .i64 0)) (lost := a.lost) (down := true) (calls := 0) hg1 hs1
    have hb1 : But (fun b => b = r) w ((w.setCell ⟨r, 3, none⟩ (.bool true)).setCell ⟨r, 4, none⟩ (.int .i64 0)) := But.of hg1 fun b e _ => by cases e; rfl
    have hc4 : (w.setCell ⟨r, 3, none⟩ (.bool true)).cell? ⟨r, 4, none⟩ = some (.int .i64 a.calls) := by
      have := Lib.heap_setCell_same (i := 3) h.hd (.bool true)
      simp [World.cell?, this]
    have hf4 : (w.setCell ⟨r, 3, none⟩ (.bool true)).frozen? ⟨r, 4, none⟩ = false := by
      have := Lib.heap_setCell_same (i := 3) h.hd (.bool true)
      simp [World.frozen?, this]
    rw [hr.down, hd'] at c3
    have H := Lib.hid h
    have HR := Lib.hid hr
    have HB1 := Lib.hid hb1
    have HDD := Lib.hid hd'
    obtain ⟨ql, hql⟩ : ∃ ql, st.q.length = ql := ⟨_, rfl⟩
    have HQL := Lib.hid hql
    have hqb : ql ≤ 4194304 := by rw [← hql]; exact hr.wf.qlen
    have HV : Hid (∀ wr : World, But (fun b => b = r) w wr → ∀ i (hi : i < ks.length), ∃ b o, va = some ⟨b, o, none⟩ ∧ wr.cell? ⟨b, o + i, none⟩ = some (.int .i64 ks[i])) := fun wr hb i hi => by
      rcases hvk with rfl | ⟨b, o, rfl, hc⟩
      · simp at hi
      · have hci := hc i hi
        refine ⟨b, o, rfl, cell_sameE (hb.block b (World.block_lt_of_cell? w _ hci) (hoff b ⟨o, ks.length - 1, vc, ?_⟩)) _ hci⟩
        congr 1; omega
    have HK := Lib.hid hk
    obtain ⟨kn, hkn⟩ : ∃ kn, ks.length = kn := ⟨_, rfl⟩
    have HKN := Lib.hid hkn
    have hkb : kn ≤ 1000000000 := by rw [← hkn]; exact hk.1
    obtain ⟨w1, hw1⟩ : ∃ w1, (w.setCell ⟨r, 3, none⟩ (.bool true)).setCell ⟨r, 4, none⟩ (.int .i64 0) = w1 := ⟨_, rfl⟩
    rw [hw1] at h1 HB1
    have h1' : RIs (Grew S w w1) r fv qv kv { a with down := true, calls := 0 } w1 := h1
    have H1 := Lib.hid h1'
    have H0 : Hid (SurvAt (Grew S w w1) r { a with down := true, calls := 0 } st ks 0 w1 w1) := ⟨a.fl, HR.out.fl, ⟨⟨fv, qv, kv, h1'.mono fun _ hb => .inl hb⟩, But.refl _ _⟩⟩
    have HVS : Hid (va = none → ks = []) := fun e => by
      rcases hvk with h | ⟨b, o, h, _⟩
      · exact h
      · rw [e] at h; cases h
    have hvkn : kn ≤ vc := by omega
    rw [hkn]
    clear h hr hd hd' hs1 hg1 h1 h1' hb1 hvk hvc hk hql hoff hkn
    go_enter Tryz.func21, Tryz.ntmps21
    go_wp2_with fail
    clear hw1 c3 c4 f3 f4 hc4 hf4
    go_loopw [4] (fun i wr => ∃ k : Nat, k ≤ ql ∧ i = .int .i64 k ∧ Hid (SurvAt (Grew S w w1) r { a with down := true, calls := 0 } st ks k w1 wr)) (fun i _ => ql - (RowKit.intOf i).toNat)
    case atStart => exact ⟨0, by omega, rfl, H0⟩
    case round =>
      clear H0
      obtain ⟨k, hkq, rfl, hat⟩ := hrel
      obtain ⟨fl', hrl, hras⟩ := hat.out
      obtain ⟨⟨fv1, qv1, kv1, hri⟩, hbut⟩ := id hras
      have c1 := hri.cell.2.1
      obtain ⟨qa, qc, hqv, hqc, _⟩ := hri.qo.shape
      have hqe : ({ a with down := true, calls := 0, fl := fl' } : RS).q.length = ql := by show a.q.length = ql; rw [HR.out.q, HQL.out]
      have hqv' : qv1 = .slice qa ql qc := by rw [hqv, hqe]
      rw [hqv'] at c1
      have hbw : But (fun b => b = r) w wr := HB1.out.trans hbut fun _ _ h => h
      by_cases hgo : k < ql ∧ 0 < kn
      · obtain ⟨hlt, hkp⟩ := hgo
        have hkl : k < st.q.length := by rw [HQL.out]; exact hlt
        have hm : k % kn < ks.length := by rw [HKN.out]; exact Nat.mod_lt _ hkp
        have hmk : k % kn < kn := Nat.mod_lt _ hkp
        obtain ⟨b, o, rfl, hci⟩ := HV.out wr hbw (k % kn) hm
        obtain ⟨y, hy⟩ : ∃ y, ks[k % kn] = y := ⟨_, rfl⟩
        rw [hy] at hci
        have hyb := HK.out.2 y (by rw [← hy]; exact List.getElem_mem _)
        have hsv := surv_bits ks k (by omega)
        rw [HKN.out, List.getD_eq_getElem?_getD, List.getElem?_eq_getElem hm, Option.getD_some, hy] at hsv
        obtain ⟨bt, hbt⟩ : ∃ bt, bits BinOp.and IntKind.i64 y 1 = bt := ⟨_, rfl⟩
        rw [hbt] at hsv
        have hqo := hri.qo
        have hqo' : Own wr 84 2 (.slice qa ql qc) ql (cellsQ st.q) := by
          rw [hqv', hqe] at hqo
          have : cellsQ ({ a with down := true, calls := 0, fl := fl' } : RS).q = cellsQ st.q := by show cellsQ a.q = _; rw [HR.out.q]
          rw [this] at hqo
          exact hqo
        obtain ⟨g, rfl, y0, y1⟩ := qcells hqo' k hkl
        obtain ⟨s, hs⟩ : ∃ s, st.q[k] = s := ⟨_, rfl⟩
        rw [hs] at y0 y1
        have hsm : s ∈ st.q := by rw [← hs]; exact List.getElem_mem _
        have hsq := HR.out.wf.q s hsm
        have e1 : st.q.take (k + 1) = st.q.take k ++ [s] := by rw [List.take_succ_eq_append_getElem hkl, hs]
        have hdu : durs st.now ks 0 (st.q.take (k + 1)) st.dur = keepOne st.now ks (durs st.now ks 0 (st.q.take k) st.dur) k s := by
          rw [e1, durs_snoc]
          congr 1
          rw [List.length_take]
          omega
        have hlen := HR.out.wf.len s.1
        have hdw := (durs_wf HR.out.wf ks k)
        have hds : (look fl' s.1).last.size ≤ 16777216 := by
          rw [hrl.dursz]
          have a1 := hdw.dl s.1
          have a2 := hdw.len s.1
          exact Nat.le_trans a1 a2
        by_cases hsurv : surv k ks = true
        · rw [hsurv] at hsv
          have hbt1 : bt = 1 := by simpa using hsv.symm
          have hss := survive_any (S := Grew (Grew S w w1) w1 wr) hri s.1 s.2 (by have := hrl.ok.len; show fl'.length ≤ _; omega) (by omega) (by show (look fl' s.1).now.size ≤ _; rw [hrl.nowsz]; omega) hds
          have HSS := Lib.hid hss
          have HN : Hid (∀ w2, RAs (Grew (Grew S w w1) w1 wr) r (surviveR { a with down := true, calls := 0, fl := fl' } s) wr w2 → SurvAt (Grew S w w1) r { a with down := true, calls := 0 } st ks (k + 1) w1 w2) := fun w2 h2 => by
            refine ⟨(surviveR { a with down := true, calls := 0, fl := fl' } s).fl, ?_, hras.trans h2⟩
            rw [hdu]
            unfold keepOne
            rw [if_pos hsurv]
            exact survive_rel (a := { a with down := true, calls := 0, fl := fl' }) hrl hsq.1 hsq.2
          subst hbt1
          clear hsv hsurv hdu e1 hsm hs hqo hqo' hri hras hrl hbut hbw hy hqe hqv hdw hds hlen
          go_wp2_with fail
          refine HSS.out.mono ?_
          rintro e w2 ⟨rfl, h2⟩
          have H2 : Hid (SurvAt (Grew S w w1) r { a with down := true, calls := 0 } st ks (k + 1) w1 w2) := HN.out _ h2
          clear h2
          go_wp2_with fail
          go_roundw
          case rel => exact ⟨k + 1, by omega, by go_num, H2⟩
          case measure => simp [RowKit.intOf]; omega
        · have hsv' : surv k ks = false := by simpa using hsurv
          rw [hsv'] at hsv
          have hb1 : (bt == 1) = false := hsv.symm
          have hb2 : decide (bt = 1) = false := by simpa using hb1
          have H2 : Hid (SurvAt (Grew S w w1) r { a with down := true, calls := 0 } st ks (k + 1) w1 wr) := by
            refine ⟨fl', ?_, hras⟩
            rw [hdu]
            unfold keepOne
            rw [if_neg hsurv]
            exact hrl
          clear hsv hsv' hsurv hdu e1 hsm hs hqo hqo' hri hras hrl hbut hbw hy hqe hqv hdw hds hlen
          go_wp2_with fail
          go_roundw
          case rel => exact ⟨k + 1, by omega, by go_num, H2⟩
          case measure => simp [RowKit.intOf]; omega
      · have hfull : durs st.now ks 0 (st.q.take k) st.dur = durs st.now ks 0 st.q st.dur := by
          by_cases h0 : ks = []
          · rw [h0, durs_nil, durs_nil]
          · have : 0 < kn := by rw [← HKN.out]; cases ks with | nil => exact absurd rfl h0 | cons => simp
            rw [List.take_of_length_le (by rw [HQL.out]; omega)]
        rw [hfull] at hrl
        have HRL := Lib.hid hrl
        have HRAS := Lib.hid hras
        have HRI := Lib.hid hri
        have hgo' : (¬ k < ql) ∨ (k < ql ∧ kn = 0) := by omega
        clear hfull hrl hras hbut hbw hqe hqv hgo hri
        rcases hgo' with hgo | ⟨hgo, rfl⟩
        all_goals
          rename World => w2
          obtain ⟨fa, fc, hfv, hfc1, hfc2⟩ := HRI.out.fo.shape
          obtain ⟨n, hn⟩ : ∃ n, fl'.length = n := ⟨_, rfl⟩
          have hfv' : fv1 = .slice fa n fc := by rw [hfv]; show Value.slice fa fl'.length fc = _; rw [hn]
          have hfc1' : n ≤ fc := by rw [← hn]; exact hfc1
          have hn16 : n ≤ 16 := by rw [← hn]; exact HRL.out.ok.len
          unfold maxLen at hfc2
          have HN := Lib.hid hn
          have HFV := Lib.hid hfv'
          have KR : Hid (∀ wq : World, w2.grownBy wq none → wq.cell? ⟨r, 0, none⟩ = some (.slice fa n fc) ∧ Own wq 86 3 (.slice fa n fc) n (cellsR fl')) := fun wq hg => by
            have h2 := (HRI.out.grown hg)
            have c0 := h2.cell.1
            have ho := h2.fo
            rw [HFV.out] at c0 ho
            have e : ({ a with down := true, calls := 0, fl := fl' } : RS).fl.length = n := HN.out
            rw [e] at ho
            exact ⟨c0, ho⟩
          have G0 : Hid (OutF w2 w2 (.slice none 0 0) (fallL (fl'.take 0))) := ⟨by simp [fallL, cellsR]; exact Own.nil _ _ _, fun b hb => (by cases hb), ⟨rfl, rfl, rfl, Nat.le_refl _, fun _ _ _ => rfl⟩⟩
          clear hfv hfv' hn hfc1
          go_wp2_with fail
          go_loopw [5, 6] (fun ov i wq => ∃ j : Nat, j ≤ n ∧ i = .int .i64 j ∧ Hid (OutF w2 wq ov (fallL (fl'.take j)))) (fun _ i _ => n - (RowKit.intOf i).toNat)
          case atStart => exact ⟨0, by omega, rfl, G0⟩
          case round =>
            clear G0 c1
            obtain ⟨j, hj, rfl, hat2⟩ := hrel
            obtain ⟨c0, hfo⟩ := KR.out _ hat2.out.grown
            obtain ⟨oa, oc, rfl, _, _⟩ := hat2.out.own.shape
            obtain ⟨ol, hol⟩ : ∃ ol, (fallL (fl'.take j)).length = ol := ⟨_, rfl⟩
            rw [hol] at hat2
            have hol2 : ol ≤ 1000000 := by rw [← hol]; unfold fallL; simp; have := HN.out; omega
            have HOL := Lib.hid hol
            rw [hol]
            clear hol
            by_cases hjn : j < n
            · have hjl : j < fl'.length := by rw [HN.out]; exact hjn
              obtain ⟨g2, rfl, z0, z1, z2⟩ := fcells hfo j hjl
              obtain ⟨y, hy⟩ : ∃ y, fl'[j] = y := ⟨_, rfl⟩
              rw [hy] at z0 z1 z2
              have HSN : Hid (fallL (fl'.take (j + 1)) = fallL (fl'.take j) ++ [⟨y.n, y.last, y.last⟩]) := by unfold Hid; rw [fallL_snoc fl' j hjl, hy]
              obtain ⟨i0, hi, hz0, hz1, hz2⟩ := info_parts infoF
              have hod : OutF w2 wr.drew (.slice oa ol oc) (fallL (fl'.take j)) := ⟨hat2.out.own.grown0 (grown_drew wr), hat2.out.new, hat2.out.grown.trans (grown_drew wr)⟩
              obtain ⟨a', n', c', w', hrun0, hout⟩ := hod.push ⟨y.n, y.last, y.last⟩ (by rw [HOL.out]; exact hol2)
              have hrun : (Builtin.append_ #[61, 61] 61 #[.slice oa ol oc, .slice (some ⟨wr.heap.size, 0, none⟩) 1 1]).run Tryz.prog (wr.drew.alloc (.cells #[.int .i64 y.n, .string y.last, .string y.last] 86)) = .ok (.slice a' n' c') w' := hrun0
              have hgw : w2.grownBy w' none := hout.grown
              have HGR : Hid (w2.grownBy wr none) := hat2.out.grown
              have H2 : Hid (OutF w2 w' (.slice a' n' c') (fallL (fl'.take (j + 1)))) := by unfold Hid; rw [HSN.out]; exact hout
              have hc : wr.cell? ⟨r, 0, none⟩ = some (.slice (some ⟨g2, 0, none⟩) n fc) ∧ wr.cell? ⟨g2, j * 3, none⟩ = some (.int .i64 y.n) ∧ wr.cell? ⟨g2, j * 3 + 2, none⟩ = some (.string y.last) := ⟨c0, z0, z2⟩
              have HKP : Hid (∀ W : World, w2.grownBy W none → W.cell? ⟨r, 0, none⟩ = some (.slice (some ⟨g2, 0, none⟩) n fc) ∧ W.cell? ⟨g2, j * 3, none⟩ = some (.int .i64 y.n) ∧ W.cell? ⟨g2, j * 3 + 2, none⟩ = some (.string y.last)) := fun W hg => by
                obtain ⟨u0, u1⟩ := KR.out W hg
                obtain ⟨g3, e3, u2, u3, u4⟩ := fcells u1 j hjl
                injection e3 with e3
                injection e3 with e3
                subst e3
                rw [hy] at u2 u4
                exact ⟨u0, u2, u4⟩
              have hc9 := HKP.out w' hgw
              clear hy hfo hrun0 hout hod hat2 c0 z0 z1 z2 hgw hi hz0 hz1 hz2
              go_wp2_with fail
              go_region_held3 (fun W => W.cell? ⟨r, 0, none⟩ = some (.slice (some ⟨g2, 0, none⟩) n fc) ∧ W.cell? ⟨g2, j * 3, none⟩ = some (.int .i64 y.n) ∧ W.cell? ⟨g2, j * 3 + 2, none⟩ = some (.string y.last))
                (first | exact hc | exact hc9 | exact HKP.out _ (HGR.out.trans (World.grownBy_alloc _ _ none)) | exact HKP.out _ (HGR.out.trans ((grown_drew wr).trans (World.grownBy_alloc _ _ none))) | exact HKP.out _ (HGR.out.trans ((grown_drewN wr _).trans (World.grownBy_alloc _ _ none))))
                ((refine step_append_run (by rfl) _ _ _ _ (by rfl) _ _ (by rfl) (by rfl) hrun ?_))
              go_wp2_with fail
              go_roundw
              case rel => exact ⟨j + 1, by omega, by go_num, H2⟩
              case measure => simp [RowKit.intOf]; omega
            · have hjj : fl'.take j = fl' := List.take_of_length_le (by have := HN.out; omega)
              have hout := hat2.out
              rw [hjj] at hout
              have hri2 := HRI.out.grown hout.grown
              have F0 := hri2.froz 0
              have hown := hout.own
              rw [← hjj, HOL.out] at hown
              have hfi := HRI.out.files (w1 := wr) (fv' := .slice oa ol oc) (fl' := fallL fl') hout.grown (by rw [← hjj, HOL.out]; exact hown) hout.new
              obtain ⟨⟨fv3, qv3, kv3, hr3⟩, hbut3⟩ := id hfi
              have F1 := hr3.froz 1
              have C1 := hr3.cell.2.1
              have hq3 := hr3.queue (w1 := wr.setCell ⟨r, 0, none⟩ (.slice oa ol oc)) (qv' := .slice none 0 0) (q' := []) ⟨rfl, rfl, rfl, Nat.le_refl _, fun _ _ _ => rfl⟩ (Own.nil _ _ _) fun b hb => by cases hb
              have HFIN : Hid (RPost S r (crash st ks) w (.tuple #[]) (.returned (.tuple #[])) ((wr.setCell ⟨r, 0, none⟩ (.slice oa ol oc)).setCell ⟨r, 1, none⟩ (.slice none 0 0))) := by
                have hb1 : RAf S r { a with down := true, calls := 0 } w w1 := ⟨⟨_, _, _, H1.out⟩, HB1.out.mono fun b e => by rw [e]; exact H.out.sr⟩
                refine ⟨rfl, _, hb1.trans ((HRAS.out.raf H1.out.sr).trans (hfi.trans hq3)), ?_⟩
                have hcr : crash st ks = { now := durs st.now ks 0 st.q st.dur, dur := durs st.now ks 0 st.q st.dur, q := [], down := true, lost := st.lost, calls := 0, keep := [] } := by
                  unfold crash; rw [if_neg (by simp [HDD.out])]
                have hw := crash_wf HR.out.wf ks
                rw [hcr] at hw ⊢
                exact ⟨HRL.out.fall, rfl, HR.out.lost, rfl, rfl, fun h => absurd rfl h, HR.out.kb, hw⟩
              clear hjj hout hri2 hown hfi hr3 hbut3 hq3 hfo
              go_wp2_with fail
              go_end0
              exact HFIN.out
end Go.Proofs.YtejddacjncpneaaGreatDoor.Di
