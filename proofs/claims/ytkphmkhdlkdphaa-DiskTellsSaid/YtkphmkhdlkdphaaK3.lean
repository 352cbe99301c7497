/- The contract of Crash. -/
import Derived.Test.YtkphmkhdlkdphaaK2
import Derived.Deep.CutRange
import Derived.IntWalk
namespace Go.Proofs.Ytkphmkhdlkdphaa
open Go.RowKit Go.ChangeShapes Go.WideShapes
attribute [local go_sem ↓] Go.wp_at_zero Go.wp_at_succ

theorem survives_I (v : Value) (ks : List Int) (i : Nat) (w : World) (hv : Ints w v ks) (hi : i ≤ 1000000000) (hk : ks.length ≤ 1000000000 ∧ ∀ x ∈ ks, -9223372036854775808 ≤ x ∧ x ≤ 9223372036854775807) :
    Calls Try.prog 48 #[.int .i64 i, v] w fun e w' => e = .returned (.bool (surv i ks)) ∧ w = w' := by
  obtain ⟨a, c, rfl, _, h⟩ := hv
  by_cases h0 : ks.length = 0
  · obtain rfl : ks = [] := List.eq_nil_of_length_eq_zero h0
    exact survives_nil a c i w
  · rcases h with h | ⟨b, o, rfl, h⟩
    · rw [h] at h0; exact absurd rfl h0
    · exact survives_any b o ks c i hi hk.1 (by omega) w hk.2 h
theorem cellsQ_get : ∀ (q : List (Int × Nat)) (k : Nat) (h : k < q.length), (cellsQ q)[k * 2]? = some (.int .i64 q[k].1) ∧ (cellsQ q)[k * 2 + 1]? = some (.int .i64 q[k].2)
  | [], k, h => by simp at h
  | s :: r, 0, h => by simp [cellsQ]
  | s :: r, k + 1, h => by
    have ih := cellsQ_get r k (by simpa using h)
    have e1 : (k + 1) * 2 = k * 2 + 2 := by omega
    have e2 : cellsQ (s :: r) = .int .i64 s.1 :: .int .i64 s.2 :: cellsQ r := by simp [cellsQ]
    rw [e1, e2]
    exact ⟨by simpa using ih.1, by simpa using ih.2⟩

/-- What holds at the head of a round. -/
def CrashAt (S : Nat → Prop) (p : Rep) (st : St) (ks : List Int) (w : World) (k : Nat) (wr : World) : Prop :=
  ∃ dv', IsD (Grew S w wr) { p with dv := dv' } (withD st (durs st.now ks 0 (st.q.take k) st.dur)) wr ∧ But (fun b => b = p.dm ∨ ∃ n, p.at (.d n) = some b) w wr ∧ ∀ n b, (dv' n).bind blk = some b → p.at (.d n) = some b ∨ w.heap.size ≤ b

/-- What the loads of the statement read. -/
def Seen (p : Rep) (B : Nat) (sf : Int) (sn : Nat) (w' : World) : Prop :=
  w'.cell? ⟨p.r, 1, none⟩ = some (.map (some p.dm)) ∧ w'.cell? ⟨B, 0, none⟩ = some (.int .i64 sf) ∧ w'.cell? ⟨B, 1, none⟩ = some (.int .i64 (sn : Int))

theorem crash_round {S : Nat → Prop} {p : Rep} {st : St} {ks : List Int} {w wr w2 : World} {k : Nat} {dv' : Int → Option Value} {sf : Int} {sn B : Nat} {D : Int → List UInt8} (H : IsD S p st w) (hd : IsD (Grew S w wr) { p with dv := dv' } (withD st D) wr)
    (hb : But (fun b => b = p.dm ∨ ∃ n, p.at (.d n) = some b) w wr) (hdv : ∀ n b, (dv' n).bind blk = some b → p.at (.d n) = some b ∨ w.heap.size ≤ b) (hg : wr.grownBy w2 none) (hB : w2.heap[B]? = some (.cells #[.int .i64 sf, .int .i64 (sn : Int)] 69 (0, 0)))
    (hBwr : wr.heap.size ≤ B) (hf : isF sf = true) (hn : 64 * sn < (st.now sf).length) (hdu : durs st.now ks 0 (st.q.take (k + 1)) st.dur = upd D sf (putL (D sf) (64 * sn) (chunk (st.now sf) sn))) :
    ∃ da dl dc bs, (Instr.lookup 52 (.map (some p.dm)) (.int .i64 sf) false).run Try.prog w2.drew = .ok (.slice da dl dc) w2.drew ∧ Seen p B sf sn w2.drew ∧
      Calls Try.prog 50 #[.pointer (some ⟨p.r, 0, none⟩), .agg #[.int .i64 sf, .int .i64 (sn : Int)]] w2.drew (fun e w3 => e = .returned (.string bs) ∧ w2.grownBy w3 none ∧ (Instr.lookup 52 (.map (some p.dm)) (.int .i64 sf) false).run Try.prog w3 = .ok (.slice da dl dc) w3 ∧ Seen p B sf sn w3) ∧
      ∀ w3, w2.grownBy w3 none → Calls Try.prog 49 #[.slice da dl dc, .int .i64 ((sn : Int) * 64), .string bs] w3 (fun e w4 => ∃ a4 n4 c4 w5, e = .returned (.slice a4 n4 c4) ∧ Seen p B sf sn w4 ∧ (Instr.mapUpdate 52 (.map (some p.dm)) (.int .i64 sf) (.slice a4 n4 c4)).run Try.prog w4 = .ok () w5 ∧ Seen p B sf sn w5 ∧ CrashAt S p st ks w (k + 1) w5) := by
  have hfr := isF_t.1 hf
  have hlen := hd.wf.len sf
  have hdl := hd.wf.dl sf
  have hbr : w2.heap[p.r]? = wr.heap[p.r]? := hg.block _ (hd.lt (s := .r) rfl) (by simp)
  have hBlt := (Array.getElem?_eq_some_iff.1 hB).1
  have h2 := hd.grown hg
  have seen : ∀ w', w'.heap[p.r]? = w2.heap[p.r]? → w'.heap[B]? = w2.heap[B]? → Seen p B sf sn w' := fun w' e1 e2 => by
    have hr := h2.holds .r
    refine ⟨?_, ?_, ?_⟩
    · have : w2.cell? ⟨p.r, 1, none⟩ = some (.map (some p.dm)) := h2.cell.2.1
      rw [World.cell?_of_block (a := ⟨p.r, 1, none⟩) e1]; exact this
    · simp [World.cell?, e2, hB]
    · simp [World.cell?, e2, hB]
  have hlr2 : p.r < w2.heap.size := h2.lt (s := .r) rfl
  obtain ⟨da, dc, hl, ho, hbl, hc1, hc2⟩ := h2.lookD sf (by omega)
  refine ⟨da, _, dc, ⟨(chunk (st.now sf) sn).toArray⟩, hl _ rfl, seen _ rfl rfl, ?_, ?_⟩
  · refine (bytes_any (p := { p with dv := dv' }) (h2.grown (grown_drew w2)) sf sn hf hn).mono ?_
    rintro e w3 ⟨he, hbel⟩
    have hg3 : w2.grownBy w3 none := ⟨hbel.os, hbel.tape, hbel.output, hbel.size, fun i hi _ => hbel.block i hi⟩
    refine ⟨he, hg3, ?_, seen _ (hg3.block _ hlr2 (by simp)) (hg3.block _ hBlt (by simp))⟩
    have hm : MapIs Try.prog 3 w3 p.dm (mapF dv') := ((h2.grown hg3).holds .dm)
    have h1 := hm.lookup lawI Try.underlying52 (zero62 w3) (Maps.keyOf_int_mk Try.underlying3 (wf_i64 (a := sf) (by omega)))
    have hm2 : MapIs Try.prog 3 w2 p.dm (mapF dv') := h2.holds .dm
    have h0 := hm2.lookup lawI Try.underlying52 (zero62 w2) (Maps.keyOf_int_mk Try.underlying3 (wf_i64 (a := sf) (by omega)))
    rw [hl w2 rfl] at h0
    have e0 : Value.slice da ((withD st D).dur sf).length dc = (mapF dv' (.int .i64 sf)).getD (.slice none 0 0) := by simpa using h0
    rw [h1, ← e0]
  · intro w3 hg3
    have h3 := h2.grown hg3
    have ho3 : OwnB w3 (.slice da (D sf).length dc) (D sf) := Own.grown0 ho hg3
    have hchl : (chunk (st.now sf) sn).length = min 64 ((st.now sf).length - 64 * sn) := by simp [chunk]
    have hnow : (withD st D).now sf = st.now sf := rfl
    have hdur : (withD st D).dur sf = D sf := rfl
    rw [hnow] at hlen hdl
    rw [hdur] at hdl
    have hput := put_any (.slice da (D sf).length dc) (D sf) (64 * sn) ⟨(chunk (st.now sf) sn).toArray⟩ w3 ho3 (by show 0 < (chunk (st.now sf) sn).toArray.size; simp only [List.size_toArray]; omega) (by omega) (by show _ + (chunk (st.now sf) sn).toArray.size ≤ _; simp only [List.size_toArray]; omega)
    have e64 : ((64 * sn : Nat) : Int) = (sn : Int) * 64 := by omega
    rw [e64] at hput
    refine hput.mono ?_
    rintro e w4 ⟨v4, rfl, ho4, hg4, hb4⟩
    obtain ⟨a4, c4, rfl, _, _⟩ := ho4.shape
    have hbl' : blk (.slice da (D sf).length dc) = Rep.at { p with dv := dv' } (.d sf) := hbl
    rw [hbl'] at hg4 hb4
    simp only at ho4
    obtain ⟨w5, hup, hc5, hbut5, hg5, hs5⟩ := (h3.core).dput sf (by omega) hg4 ho4 (by
      rcases hb4 with e | ⟨g, e1, e2⟩
      · exact .inr (.inl e)
      · exact .inr (.inr ⟨g, e1, e2⟩))
    have hlt3 := hg3.size
    have ner : Rep.at { p with dv := dv' } (.d sf) ≠ some p.r := fun e => by have := hd.inj (.d sf) .r p.r e rfl; cases this
    have neB : ∀ s, Rep.at { p with dv := dv' } s ≠ some B := fun s e => by have := hd.lt e; omega
    have k4r := hg4.block p.r (by omega) (Ne.symm ner)
    have k4B := hg4.block B (by omega) (Ne.symm (neB _))
    have hs4 := hg4.size
    have nedr : p.dm ≠ p.r := fun e => by have := H.inj .dm .r p.dm rfl (by rw [e]; rfl); cases this
    have nedB : p.dm ≠ B := fun e => neB .dm (by rw [← e]; rfl)
    have k5r := hg5.block p.r (by omega) (fun e => nedr (Option.some.inj e).symm)
    have k5B := hg5.block B (by omega) (fun e => nedB (Option.some.inj e).symm)
    have k3r := hg3.block p.r hlr2 (by simp)
    have k3B := hg3.block B hBlt (by simp)
    refine ⟨a4, _, c4, w5, rfl, seen _ (k4r.trans k3r) (k4B.trans k3B), hup, seen _ (k5r.trans (k4r.trans k3r)) (k5B.trans (k4B.trans k3B)), ?_⟩
    have hszr := hb.size
    have hszg := hg.size
    have hs5' := hg5.size
    refine ⟨upd dv' sf (some (.slice a4 (putL (D sf) (64 * sn) (chunk (st.now sf) sn)).length c4)), ?_, ?_, ?_⟩
    · have hwf := durs_wf H.wf ks (k + 1)
      rw [hdu] at hwf ⊢
      refine (IsC.full ?_ hwf)
      refine IsC.mono hc5 fun b hb' => ?_
      rcases hb' with (hb' | ⟨h1, h2⟩) | ⟨h1, h2⟩
      · exact .inl hb'
      · exact .inr ⟨h1, by omega⟩
      · exact .inr ⟨by omega, h2⟩
    · have b1 : But (fun b => b = p.dm ∨ ∃ n, p.at (.d n) = some b) w w3 := (hb.trans (S' := fun _ => False) (But.of hg fun b e _ => by cases e) (fun _ _ h => h.elim)).trans (S' := fun _ => False) (But.of hg3 fun b e _ => by cases e) (fun _ _ h => h.elim)
      refine b1.trans hbut5 ?_
      rintro i hi ⟨s, rfl | rfl, h⟩
      · exact .inl (Option.some.inj h).symm
      · rcases hdv sf i h with h1 | h1
        · exact .inr ⟨sf, h1⟩
        · omega
    · intro n b hb'
      by_cases e : n = sf
      · subst e
        rw [upd_same] at hb'
        have hb'' : blk (.slice a4 (putL (D n) (64 * sn) (chunk (st.now n) sn)).length c4) = some b := hb'
        rcases hb4 with e | ⟨g, e1, e2⟩
        · rw [e] at hb''
          exact hdv n b hb''
        · rw [e1] at hb''
          cases hb''
          exact .inr (by omega)
      · rw [upd_other _ _ e] at hb'
        exact hdv n b hb'

set_option maxRecDepth 100000 in
set_option maxHeartbeats 4000000 in
theorem crash_any {S : Nat → Prop} {p : Rep} {st : St} {w : World} (h : IsD S p st w) (v : Value) (ks : List Int) (hv : Ints w v ks) (hk : ks.length ≤ 1000000000 ∧ ∀ x ∈ ks, -9223372036854775808 ≤ x ∧ x ≤ 9223372036854775807)
    (hoff : ∀ b, Ints.off v b → ∀ s, p.at s = some b → s = .kv) :
    Calls Try.prog 25 #[.pointer (some ⟨p.r, 0, none⟩), v] w fun e w' => e = .returned (.tuple #[]) ∧ Af S p.r (crash st ks) w w' := by
  obtain ⟨c0, c1, c2, c3, c4, c5, c6, c7⟩ := h.cell
  by_cases hd : st.down = true
  · have e : crash st ks = st := by unfold crash; rw [if_pos hd]
    have HF : Hid (Af S p.r (crash st ks) w w) := by rw [e]; exact ⟨⟨p, rfl, h.mono fun b hb => .inl hb⟩, But.refl _ _⟩
    rw [hd] at c4
    clear h c0 c1 c2 c3 c5 c6 c7 e hd hv hk hoff
    go_enter Try.func25, Try.ntmps25
    go_wp2_with fail
    refine bodyPost_ret (results_none rfl _ _ _) rfl ⟨rfl, HF.out⟩
  · have hd' : st.down = false := by simpa using hd
    have HE := Lib.hid (crash_eq hd' ks)
    have h0 : CrashAt S p st ks w 0 w := ⟨p.dv, h.mono fun b hb => .inl hb, But.refl _ _, fun n b hb => .inl hb⟩
    have H0 := Lib.hid h0
    have H := Lib.hid h
    have HV := Lib.hid hv
    have HK := Lib.hid hk
    have HO := Lib.hid hoff
    have hown : Own w 69 2 p.pv st.q.length (cellsQ st.q) := h.holds .pv
    obtain ⟨pa, pc, hpv, hpc, _⟩ := hown.shape
    have hql := h.wf.qlen
    rw [hd'] at c4
    rw [hpv] at c2 hown
    have HPV := Lib.hid hpv
    obtain ⟨ql, hq⟩ : ∃ ql, st.q.length = ql := ⟨_, rfl⟩
    have HQ := Lib.hid hq
    have HOWN := Lib.hid hown
    rw [hq] at hql hpc c2
    clear c0 c3 c5 c6 c7 h hv hk hoff h0 hd hd' hpv hq hown
    go_enter Try.func25, Try.ntmps25
    go_wp2_with fail
    go_loopw [15] (fun i wr => ∃ k : Nat, k ≤ ql ∧ i = .int .i64 k ∧ CrashAt S p st ks w k wr) (fun i _ => ql - (RowKit.intOf i).toNat)
    case atStart => exact ⟨0, Nat.zero_le _, rfl, H0.out⟩
    case round =>
      clear c1 c2 c4
      obtain ⟨k, hkq, rfl, hat⟩ := hrel
      have HA := Lib.hid hat
      clear hat
      by_cases hlt : k < ql
      · obtain ⟨dv', hd, hb, hdv⟩ := HA.out
        have hkq' : k < st.q.length := by rw [HQ.out]; exact hlt
        obtain ⟨s, hs⟩ : ∃ s, st.q[k] = s := ⟨_, rfl⟩
        have hsm : s ∈ st.q := by rw [← hs]; exact List.getElem_mem _
        have hsq := H.out.wf.q s hsm
        have hsf := isF_t.1 hsq.1
        have hsl := H.out.wf.len s.1
        have hown : Own wr 69 2 (.slice pa st.q.length pc) st.q.length (cellsQ st.q) := by rw [← HPV.out]; exact hd.holds .pv
        have hcq := cellsQ_get st.q k hkq'
        rw [hs] at hcq
        obtain ⟨g, hpa, hq0⟩ := hown.cell hcq.1
        obtain ⟨g2, hpa2, hq1⟩ := hown.cell hcq.2
        obtain rfl : g = g2 := by rw [hpa] at hpa2; simpa using hpa2
        subst hpa
        have hsurv : Ints wr v ks := HV.out.kept fun b hob hlt => hb.block b hlt (by
          rintro (rfl | ⟨n, hn⟩)
          · have := HO.out _ hob .dm rfl; cases this
          · have := HO.out _ hob _ hn; cases this)
        have hgw : wr.grownBy (wr.alloc (.cells #[.int .i64 s.1, .int .i64 s.2] 69)) none := World.grownBy_alloc _ _ _
        have HSV := Lib.hid (hsurv.alloc (.cells #[.int .i64 s.1, .int .i64 s.2] 69))
        have hgl := World.block_lt_of_cell? wr _ hq0
        have HD := Lib.hid hd
        have HB := Lib.hid hb
        have HDV := Lib.hid hdv
        have HSQ := Lib.hid hsq
        have e1 : st.q.take (k + 1) = st.q.take k ++ [s] := by rw [List.take_succ_eq_append_getElem hkq', hs]
        have HDU : Hid (durs st.now ks 0 (st.q.take (k + 1)) st.dur = keepOne st.now ks (durs st.now ks 0 (st.q.take k) st.dur) k s) := by
          unfold Hid
          rw [e1, durs_snoc]
          congr 1
          rw [List.length_take]
          omega
        obtain ⟨sf, hsf'⟩ : ∃ sf, s.1 = sf := ⟨_, rfl⟩
        obtain ⟨sn, hsn'⟩ : ∃ sn, s.2 = sn := ⟨_, rfl⟩
        obtain rfl : s = (sf, sn) := by rw [← hsf', ← hsn']
        clear hd hb hdv hs hsm hsq hown hcq hsurv e1 hkq' hsf' hsn' hpa2
        simp only at *
        by_cases hsv : surv k ks = true
        · have HSF := Lib.hid hsv
          have hB : (wr.alloc (.cells #[.int .i64 sf, .int .i64 (sn : Int)] 69)).heap[wr.heap.size]? = some (.cells #[.int .i64 sf, .int .i64 (sn : Int)] 69 (0, 0)) := (MapKept.heap_alloc wr _).1
          have hdu := HDU.out
          unfold keepOne at hdu
          rw [if_pos hsv] at hdu
          have HCR := Lib.hid (crash_round H.out HD.out HB.out HDV.out hgw hB (Nat.le_refl _) HSQ.out.1 HSQ.out.2 hdu)
          clear hsv hB hdu
          go_wp2_with fail
          refine (survives_I v ks k _ HSV.out (by omega) HK.out).mono ?_
          rintro e w2 ⟨rfl, rfl⟩
          rw [HSF.out]
          go_wp2_with fail
          generalize wr.alloc (.cells #[.int .i64 sf, .int .i64 (sn : Int)] 69) = w2 at *
          obtain ⟨da, dl, dc, bs, hl2, hs2, hby, hpu⟩ := HCR.out
          have hwrap : IntKind.i64.wrap ((sn : Int) * 64) = (sn : Int) * 64 := IntWalk.i64_in _ (by have := HSQ.out.2; omega)
          have HBY := Lib.hid hby
          have HPU := Lib.hid hpu
          unfold Seen at hs2
          clear hby hpu hq0 hq1 hgw
          go_wp2_with fail
          go_region_held3 (fun w' => w'.cell? ⟨p.r, 1, none⟩ = some (.map (some p.dm)) ∧ w'.cell? ⟨wr.heap.size, 0, none⟩ = some (.int .i64 sf) ∧ w'.cell? ⟨wr.heap.size, 1, none⟩ = some (.int .i64 (sn : Int)))
            (first | exact hs2 | exact hs3 | exact hs4 | exact hs5)
            (first
              | (go_at_call 50; refine HBY.out.mono ?_; rintro e w3 ⟨rfl, hg3, hl3, hs3⟩)
              | (go_at_call 49; refine (HPU.out _ (by first | exact hg3 | assumption)).mono ?_; rintro e w4 ⟨a4, n4, c4, w5, rfl, hs4, hup, hs5, hat5⟩))
          all_goals
            have HAT := Lib.hid hat5
            clear hat5 hup hs5 hs4 hs2 hl2 hwrap
            go_wp2_with fail
            go_roundw
            case rel => exact ⟨k + 1, by omega, by go_num, HAT.out⟩
            case measure => simp [RowKit.intOf]; omega
        · have hsv' : surv k ks = false := by simpa using hsv
          have HSF := Lib.hid hsv'
          clear hsv hsv'
          go_wp2_with fail
          refine (survives_I v ks k _ HSV.out (by omega) HK.out).mono ?_
          rintro e w2 ⟨rfl, rfl⟩
          rw [HSF.out]
          go_wp2_with fail
          go_roundw
          case rel =>
            refine ⟨k + 1, by omega, by go_num, ?_⟩
            have e : durs st.now ks 0 (st.q.take (k + 1)) st.dur = durs st.now ks 0 (st.q.take k) st.dur := by
              rw [HDU.out]; unfold keepOne; rw [if_neg (by rw [HSF.out]; simp)]
            refine ⟨dv', ?_, HB.out.trans (S' := fun _ => False) (But.of hgw fun b e _ => by cases e) (fun _ _ h => h.elim), HDV.out⟩
            rw [e]
            refine (HD.out.grown hgw).mono fun b hb => ?_
            rcases hb with hb | ⟨h1, h2⟩
            · exact .inl hb
            · exact .inr ⟨h1, Nat.lt_of_lt_of_le h2 hgw.size⟩
          case measure => simp [RowKit.intOf]; omega
      · have hkl : k = ql := by omega
        have HKL := Lib.hid hkl
        obtain ⟨dv', hd, hb, hdv⟩ := HA.out
        have e0 : st.q.take k = st.q := List.take_of_length_le (by rw [HQ.out, hkl]; exact Nat.le_refl _)
        rw [e0] at hd
        have HD := Lib.hid hd
        have HB := Lib.hid hb
        have c1 : wr.cell? ⟨p.r, 1, none⟩ = some (.map (some p.dm)) := hd.cell.2.1
        have hlr : p.r < wr.heap.size := hd.lt (s := .r) rfl
        clear hdv hd hb e0 hkl
        go_wp2_with fail
        refine (copyFiles_any p.dm dv' (durs st.now ks 0 st.q st.dur) wr (HD.out.holds .dm) (fun n => HD.out.holds (.d n)) (fun n => Nat.le_trans (HD.out.wf.dl n) (HD.out.wf.len n))).mono ?_
        rintro e w1 ⟨m, g', rfl, h1, h2, h3, h4, h5, h6⟩
        have hc : ∀ i u, wr.cell? ⟨p.r, i, none⟩ = some u → w1.cell? ⟨p.r, i, none⟩ = some u := fun i u hu => h6.cell hu (by simp)
        have hfr : ∀ i, w1.frozen? ⟨p.r, i, none⟩ = false := fun i => (h6.frozen_far ⟨p.r, i, none⟩ hlr (by simp)).trans (HD.out.froz i)
        have hlr1 : p.r < w1.heap.size := Nat.lt_of_lt_of_le hlr h6.size
        have d0 := hc 0 _ HD.out.cell.1
        have d2 := hc 2 _ HD.out.cell.2.2.1
        have d3 := hc 3 _ HD.out.cell.2.2.2.1
        have d4 := hc 4 _ HD.out.cell.2.2.2.2.1
        have f0 := hfr 0
        have f2 := hfr 2
        have f3 := hfr 3
        have f4 := hfr 4
        have HT := Lib.hid (crash_tail HD.out h1 h2 h3 h4 h5 h6)
        have hmm := @run_makeMap Try.prog
        clear h1 h2 h3 h4 h5 h6 c1 hc hfr
        go_wp2_with fail
        refine (arm_any HT.out.1 0 (by omega) (.slice none 0 0) [] ⟨none, 0, rfl, Nat.le_refl _, .inl rfl⟩ (by simp)).mono ?_
        rintro e w7 ⟨rfl, haf⟩
        have HAF := Lib.hid haf
        clear haf
        go_wp2_with fail
        go_end0
        refine ⟨rfl, ?_⟩
        rw [HE.out]
        have a1 : Af S p.r (withD st (durs st.now ks 0 st.q st.dur)) w wr := ⟨⟨{ p with dv := dv' }, rfl, HD.out⟩, HB.out.mono (fun i hi => by
          rcases hi with rfl | ⟨n, hn⟩
          · exact H.out.inS .dm _ rfl
          · exact H.out.inS (.d n) _ hn)⟩
        have a2 : Af (Grew S w wr) p.r (fallen (withD st (durs st.now ks 0 st.q st.dur))) wr _ := ⟨by refine ⟨_, ?_, HT.out.1⟩; rfl, HT.out.2⟩
        exact a1.trans (a2.trans HAF.out)
end Go.Proofs.Ytkphmkhdlkdphaa
