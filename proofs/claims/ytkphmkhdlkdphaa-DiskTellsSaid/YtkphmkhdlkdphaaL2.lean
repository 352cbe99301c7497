/- The contract of list, walked. -/
import Derived.Test.YtkphmkhdlkdphaaL
import Derived.Deep.DrawnRows
namespace Go.Proofs.Ytkphmkhdlkdphaa
open Go.RowKit Go.ChangeShapes Go.WideShapes
attribute [local go_sem ↓] Go.wp_at_zero Go.wp_at_succ

theorem secs_wf {st : St} (h : WF st) {f : Int} {a n : Nat} (hf : isF f = true) (hn : 0 < n) (hb : a + n ≤ (st.now f).length) (k : Nat) : WF (withQ st (addQ st.q ((secs f a n).take k))) :=
  addQ_wf h hf fun x hx => by
    obtain ⟨h1, h2, h3⟩ := mem_secs (List.mem_of_mem_take hx) hn
    exact ⟨h1, by omega⟩
theorem Af.then {S : Nat → Prop} {r : Nat} {st st' : St} {a b c : World} (h : Af S r st a b) {p : Rep} (hp : p.r = r) (hd : IsD (Grew (Grew S a b) b c) p st' c) (hb : But (Grew S a b) b c) : Af S r st' a c := h.trans ⟨⟨p, hp, hd⟩, hb⟩

set_option maxRecDepth 100000 in
set_option maxHeartbeats 2000000 in
theorem list_any {S : Nat → Prop} {p : Rep} {st : St} {w : World} (h : IsD S p st w) (f : Int) (a n : Nat) (hf : isF f = true) (hn : 0 < n) (hb : a + n ≤ (st.now f).length) :
    Calls Try.prog 52 #[.pointer (some ⟨p.r, 0, none⟩), .int .i64 f, .int .i64 a, .int .i64 n] w fun e w' => e = .returned (.tuple #[]) ∧ Af S p.r (withQ st (addQ st.q (secs f a n))) w w' := by
  have hlen := h.wf.len f
  have hfr := isF_t.1 hf
  obtain ⟨C, hC⟩ : ∃ C, (a + n + 63) / 64 - a / 64 = C := ⟨_, rfl⟩
  obtain ⟨r, hr⟩ : ∃ r, p.r = r := ⟨_, rfl⟩
  have h0 : Af S r (withQ st (addQ st.q ((secs f a n).take 0))) w w := ⟨⟨p, hr, h.mono fun b hb => .inl hb⟩, But.refl _ _⟩
  have H0 := Lib.hid h0
  have HW0 := Lib.hid h.wf
  have HB := Lib.hid hb
  have HF := Lib.hid hf
  rw [hr]
  clear h h0 hr hb hf
  have hab : a + n ≤ 16777216 := by have := HB.out; omega
  obtain ⟨k0, hk0⟩ : ∃ k0, a / 64 = k0 := ⟨_, rfl⟩
  have HC : Hid (k0 + C = (a + n + 63) / 64 ∧ a / 64 = k0 ∧ (a + n + 63) / 64 - a / 64 = C) := ⟨by omega, hk0, hC⟩
  have hc1 : k0 + C ≤ 300000 := by omega
  have hat : ((a : Int) / 64) = ((k0 : Nat) : Int) := by omega
  clear hC hk0
  go_enter Try.func52, Try.ntmps52
  go_wp2_with fail
  go_loopw [8] (fun i wr => ∃ j : Nat, k0 ≤ j ∧ j ≤ k0 + C ∧ i = .int .i64 (j : Int) ∧ Af S r (withQ st (addQ st.q ((secs f a n).take (j - k0)))) w wr) (fun i _ => k0 + C - (RowKit.intOf i).toNat)
  case atStart => exact ⟨k0, Nat.le_refl _, by omega, by first | rfl | simp [hat], by rw [Nat.sub_self]; exact H0.out⟩
  case round =>
    clear hat
    obtain ⟨j, hj0, hj, rfl, haf⟩ := hrel
    have HA := Lib.hid haf
    clear haf
    by_cases hlt : j < k0 + C
    · obtain ⟨⟨p1, hp1, h1⟩, hbut⟩ := HA.out
      have H1 := Lib.hid h1
      obtain ⟨c0, c1, c2, c3, c4, c5, c6, c7⟩ := h1.cell
      rw [hp1] at c2 c3
      have hs64 : 64 * j < a + n := by have := HC.out; omega
      obtain ⟨kl, hkl⟩ := keyS_of (f, j) HF.out (by simp; omega)
      clear c0 c1 c4 c5 c6 c7 hbut
      have hwr := World.grownBy_alloc wr (.cells #[.int .i64 f, .int .i64 (j : Int)] 69) none
      have hlk : r < wr.heap.size := by rw [← hp1]; exact h1.lt (s := .r) rfl
      by_cases hin : (f, j) ∈ addQ st.q ((secs f a n).take (j - k0))
      · have hlook : ∀ m, (Instr.lookup 53 (.map (some p1.lm)) (.agg #[.int .i64 f, .int .i64 (j : Int)]) false).run Try.prog ((wr.alloc (.cells #[.int .i64 f, .int .i64 (j : Int)] 69)).drewN m) = .ok (.bool true) ((wr.alloc (.cells #[.int .i64 f, .int .i64 (j : Int)] 69)).drewN m) := by
          intro m
          have := (h1.grown hwr).lookL hkl ((wr.alloc (.cells #[.int .i64 f, .int .i64 (j : Int)] 69)).drewN m) rfl
          rw [show decide ((f, j) ∈ (withQ st (addQ st.q ((secs f a n).take (j - k0)))).q) = true from decide_eq_true hin] at this
          exact this
        have HI := Lib.hid hin
        clear h1 hkl hin hp1
        go_wp2_with fail
        go_quiet (fail)
        go_wp2_with fail
        go_roundw
        case rel =>
          refine ⟨j + 1, by omega, by omega, by go_num, ?_⟩
          have e1 : j + 1 - k0 = (j - k0) + 1 := by omega
          have e2 := secs_take f a n (j - k0) (by rw [HC.out.2.2]; omega)
          rw [HC.out.2.1, show k0 + (j - k0) = j by omega] at e2
          rw [e1, e2, addQ_snoc, addS, if_pos HI.out]
          exact (HA.out.grown hwr).grown (grown_drewN _ _)
        case measure => simp [RowKit.intOf]; omega
      · have hlook : ∀ m, (Instr.lookup 53 (.map (some p1.lm)) (.agg #[.int .i64 f, .int .i64 (j : Int)]) false).run Try.prog ((wr.alloc (.cells #[.int .i64 f, .int .i64 (j : Int)] 69)).drewN m) = .ok (.bool false) ((wr.alloc (.cells #[.int .i64 f, .int .i64 (j : Int)] 69)).drewN m) := by
          intro m
          have := (h1.grown hwr).lookL hkl ((wr.alloc (.cells #[.int .i64 f, .int .i64 (j : Int)] 69)).drewN m) rfl
          rw [show decide ((f, j) ∈ (withQ st (addQ st.q ((secs f a n).take (j - k0)))).q) = false from decide_eq_false hin] at this
          exact this
        have HE : Hid (addQ st.q ((secs f a n).take (j + 1 - k0)) = addQ st.q ((secs f a n).take (j - k0)) ++ [(f, j)]) := by
          have e1 : j + 1 - k0 = (j - k0) + 1 := by omega
          have e2 := secs_take f a n (j - k0) (by rw [HC.out.2.2]; omega)
          rw [HC.out.2.1, show k0 + (j - k0) = j by omega] at e2
          unfold Hid
          rw [e1, e2, addQ_snoc, addS, if_neg hin]
        have HK := Lib.hid hkl
        have HP := Lib.hid hp1
        clear h1 hkl hin hp1
        go_wp2_with fail
        go_quiet (fail)
        clear hlook c2 c3
        have hg2 : wr.grownBy ((wr.alloc (.cells #[.int .i64 f, .int .i64 (j : Int)] 69)).drewN nq) none := hwr.trans (grown_drewN _ _)
        have hB : ((wr.alloc (.cells #[.int .i64 f, .int .i64 (j : Int)] 69)).drewN nq).heap[wr.heap.size]? = some (.cells #[.int .i64 f, .int .i64 (j : Int)] 69 (0, 0)) := (MapKept.heap_alloc wr _).1
        generalize (wr.alloc (.cells #[.int .i64 f, .int .i64 (j : Int)] 69)).drewN nq = w2 at *
        have h2 := H1.out.grown hg2
        have H2 := Lib.hid h2
        have HWF : Hid (WF (withQ (withQ st (addQ st.q ((secs f a n).take (j - k0)))) ((withQ st (addQ st.q ((secs f a n).take (j - k0)))).q ++ [(f, j)]))) := by
          have := secs_wf HW0.out HF.out hn HB.out (j + 1 - k0)
          rw [HE.out] at this
          exact this
        obtain ⟨i0, hi, hz0, hz1, hz2⟩ := info_parts infoS
        have hq := h2.wf.qlen
        have hown : Own w2 69 2 p1.pv _ _ := h2.holds .pv
        obtain ⟨pa, pc, hpv, hpc, hpm⟩ := hown.shape
        obtain ⟨c0, c1, c2, c3, c4, c5, c6, c7⟩ := h2.cell
        have f2 := h2.froz 2
        rw [HP.out] at c2 c3 f2
        have hne : blk p1.pv ≠ some r := fun e => by have := h2.inj .pv .r r e (by rw [← HP.out]; rfl); cases this
        rw [hpv] at c2 hown hne
        obtain ⟨ql, hql⟩ : ∃ ql, (withQ st (addQ st.q ((secs f a n).take (j - k0)))).q.length = ql := ⟨_, rfl⟩
        obtain ⟨qc, hqc⟩ : ∃ qc, cellsQ (withQ st (addQ st.q ((secs f a n).take (j - k0)))).q = qc := ⟨_, rfl⟩
        rw [hql] at hown hq hpc c2 hne
        rw [hqc] at hown
        have hlk2 : r < w2.heap.size := Nat.lt_of_lt_of_le hlk hg2.size
        have hB0 : w2.cell? ⟨wr.heap.size, 0, none⟩ = some (.int .i64 f) := by simp [World.cell?, hB]
        have hB1 : w2.cell? ⟨wr.heap.size, 1, none⟩ = some (.int .i64 (j : Int)) := by simp [World.cell?, hB]
        have hBl : wr.heap.size < w2.heap.size := (Array.getElem?_eq_some_iff.1 hB).1
        have HQL := Lib.hid hql
        have HQC := Lib.hid hqc
        have HPV := Lib.hid hpv
        have HOW := Lib.hid hown
        have HBB := Lib.hid hB
        have HG2 := Lib.hid hg2
        have hsrc : Src Try.prog 2 54 (.slice (some ⟨w2.heap.size, 0, none⟩) 1 1) 1 [.int .i64 f, .int .i64 (j : Int)] (w2.drew.alloc (.cells #[.int .i64 f, .int .i64 (j : Int)] 69)) :=
          Src.ofSlice _ Try.underlying54 _ 1 1 _ (by simp) (World.news_of_block (cs := #[.int .i64 f, .int .i64 (j : Int)]) (t := 69) (fr := (0, 0)) (heap_alloc_new w2.drew _)) (by simp [Value.oneCell'])
        have HSR := Lib.hid hsrc
        clear h2 c0 c1 c4 c5 c6 c7 hql hqc hpv hown hB hg2 hwr hsrc
        go_wp2_with fail
        go_region_law ((refine step_own_append (by rfl) _ _ _ _ (by rfl) Try.underlying54 hi hz0 hz1 hz2 rfl (by rfl) ((HOW.out.kept (w' := w2.drew) (fun _ _ => rfl)).grown (World.grownBy_alloc _ (.cells #[.int .i64 f, .int .i64 (j : Int)] 69) none) (by cases blk (.slice pa ql pc) <;> simp)) _ (by rfl) HSR.out (by unfold maxLen; omega) (by omega) ?_; intro a' c' w3 hown3 hgr3 hbl3; have hall : w2.grownBy w3 (blk (.slice pa ql pc)) := ((grown_drew w2).but _).trans ((World.grownBy_alloc _ _ _).trans hgr3); have hc3 := (hall.cell_far ⟨r, 2, none⟩ hlk2 (Ne.symm hne)).trans c2; have hf3 := (hall.frozen_far ⟨r, 2, none⟩ hlk2 (Ne.symm hne)).trans f2))
        all_goals
          obtain ⟨hc4, hoth, w5, hrun5, hd5, hb5, hc5, hoth5⟩ := list_mid (s := (f, j)) (a' := a') (c' := c') H2.out HK.out HWF.out (by rw [HPV.out, HQL.out]; exact hall) (by rw [HQL.out, HQC.out]; exact hown3) (by rw [HPV.out, HQL.out]; exact hbl3.imp id (fun h => h.imp id (fun h => ⟨_, h, by simp⟩)))
          rw [HP.out, HQL.out] at hc4 hoth hrun5
          have HOT5 := Lib.hid hoth5
          have HD5 := Lib.hid hd5
          have HB5 := Lib.hid hb5
          have hBn : ∀ s, p1.at s ≠ some wr.heap.size := fun s e => by have := H1.out.lt e; omega
          have hB4 := (hoth _ hBl hBn).trans HBB.out
          clear hoth hoth5 hd5 hb5 hc3 hf3 hall hown3 hgr3 hbl3 hc5 hB0 hB1 c2 c3
          generalize w3.setCell ⟨r, 2, none⟩ (.slice a' (ql + 1) c') = w4 at *
          have hB0 : w4.cell? ⟨wr.heap.size, 0, none⟩ = some (.int .i64 f) := by simp [World.cell?, hB4]
          have hB1 : w4.cell? ⟨wr.heap.size, 1, none⟩ = some (.int .i64 (j : Int)) := by simp [World.cell?, hB4]
          clear hB4 hBn
          go_wp2_with fail
          go_region
          go_wp2_with fail
          go_roundw
          case rel =>
            refine ⟨j + 1, by omega, by omega, by go_num, ?_⟩
            rw [HE.out]
            exact (HA.out.grown HG2.out).then (by exact HP.out) (HD5.out.mono (fun b hb => hb.imp (fun hb => hb.imp id (fun h => ⟨h.1, by have := HG2.out.size; omega⟩)) id)) (HB5.out.mono fun b hb => hb.imp id (fun h => ⟨h.1, by have := HG2.out.size; omega⟩))
          case measure => simp [RowKit.intOf]; omega
    · have hje : j = k0 + C := by omega
      have hs64 : ¬ 64 * j < a + n := by have := HC.out; omega
      have HJ := Lib.hid hje
      clear hje
      go_wp2_with fail
      go_end0
      refine ⟨rfl, ?_⟩
      have := HA.out
      have e : (secs f a n).take (j - k0) = secs f a n := List.take_of_length_le (by unfold secs; rw [List.length_map, List.length_range, HC.out.2.2, HJ.out]; omega)
      rw [e] at this
      exact this
end Go.Proofs.Ytkphmkhdlkdphaa
