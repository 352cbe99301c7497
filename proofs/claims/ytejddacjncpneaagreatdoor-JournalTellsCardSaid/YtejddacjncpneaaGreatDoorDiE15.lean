/- The reference's Write, Arm, Read and the others, told of a state. -/
import Derived.Test.YtejddacjncpneaaGreatDoorDiE13
set_option maxRecDepth 100000
namespace Go.Proofs.YtejddacjncpneaaGreatDoor.Di
open Go.RowKit Go.ChangeShapes Go.WideShapes

theorem chk_may {st : St} {f k : Int} {n : Nat} : (mayC st f ≠ 0 → chk st f k n = mayC st f) ∧ (mayC st f = 0 → k < 0 → chk st f k n = 1) ∧ (mayC st f = 0 → 0 ≤ k → ¬ (0 ≤ k ∧ k ≤ 16777216 ∧ k + n ≤ 16777216) → chk st f k n = 6) ∧ (mayC st f = 0 → (0 ≤ k ∧ k ≤ 16777216 ∧ k + n ≤ 16777216) → chk st f k n = 0) := by
  unfold mayC chk
  by_cases hd : st.down = true
  · simp [hd]
  · simp only [if_neg hd]
    by_cases hf : isF f = false
    · simp [hf]
    · simp only [if_neg hf]
      refine ⟨fun h => absurd rfl h, fun _ h => by rw [if_pos (.inr h)], fun _ h1 h2 => ?_, fun _ h => ?_⟩
      · rw [if_neg (fun h => h.elim hf (by omega)), if_pos (by omega)]
      · rw [if_neg (fun h => h.elim hf (by omega)), if_neg (by omega)]

set_option maxHeartbeats 2000000 in
theorem rwrite_any {S : Nat → Prop} {r : Nat} {fv qv kv : Value} {a : RS} {st : St} {w : World} (h : RIs S r fv qv kv a w) (hr : Rel a st) (f k : Int) (s : ByteArray) (hs : s.size ≤ 4611686018427387904) :
    Calls Tryz.prog 42 #[.pointer (some ⟨r, 0, none⟩), .int .i64 f, .int .i64 k, .string s] w (RPost S r (write st f k s.data.toList) w (.int .i64 (writeR st f k s.data.toList))) := by
  have HC := Lib.hid (comes_any h hr f k s hs)
  have hwc := write_comes st f k s.data.toList
  have hsz : s.data.toList.length = s.size := (Lib.size_eq s).symm
  rw [hsz] at hwc
  obtain ⟨st1, hst1⟩ : ∃ x, comesS st f k s.data.toList = x := ⟨_, rfl⟩
  rw [hst1] at HC hwc
  have HW := Lib.hid hwc
  obtain ⟨c, hc⟩ : ∃ c, mayC st1 f = c := ⟨_, rfl⟩
  have HMC := Lib.hid hc
  clear h hr hst1 hwc hsz
  by_cases hc0 : c = 0
  · subst hc0
    have HUP := Lib.hid (may_zero hc)
    obtain ⟨hW1, hW2⟩ := HW.out.2 HUP.out.1
    have hck := chk_may (st := st1) (f := f) (k := k) (n := s.size)
    have HCK := Lib.hid hck
    have HW1 := Lib.hid hW1
    have HW2 := Lib.hid hW2
    clear hc hW1 hW2 hck
    by_cases hk : k < 0
    · have HR : Hid (writeR st f k s.data.toList = 1 ∧ write st f k s.data.toList = st1) := by
        have e := HCK.out.2.1 HMC.out hk
        exact ⟨HW1.out.trans e, by rw [HW2.out, if_neg (by rw [e]; decide)]⟩
      go_enter Tryz.func42, Tryz.ntmps42
      go_wp2_with fail
      refine HC.out.mono ?_
      rintro e w1 ⟨rfl, a1, h1, hr1⟩
      obtain ⟨⟨fv1, qv1, kv1, hri⟩, hb1⟩ := id h1
      have HM := Lib.hid (rmay hri hr1 f HMC.out)
      have HF : Hid (RPost S r st1 w (.int .i64 1) (.returned (.int .i64 1)) w1) := ⟨rfl, a1, h1, hr1⟩
      clear h1 hr1 hri hb1
      go_wp2_with fail
      refine HM.out.mono ?_
      rintro e w' ⟨rfl, rfl⟩
      go_wp2_with fail
      go_ret
      rw [HR.out.1, HR.out.2]
      exact HF.out
    · by_cases hft : 0 ≤ k ∧ k ≤ 16777216 ∧ k + s.size ≤ 16777216
      · obtain ⟨m, rfl⟩ : ∃ m : Nat, k = m := ⟨k.toNat, by omega⟩
        have HR : Hid (writeR st f m s.data.toList = 0 ∧ write st f m s.data.toList = wr st1 f m s.data.toList) := by
          have e := HCK.out.2.2.2 HMC.out hft
          exact ⟨HW1.out.trans e, by rw [HW2.out, if_pos e]; rfl⟩
        have HFT := Lib.hid (fun w => fits_any (m : Int) s hs w (b := true) (by simp; omega))
        have hms : m + s.size ≤ 16777216 := by omega
        clear hft
        go_enter Tryz.func42, Tryz.ntmps42
        go_wp2_with fail
        refine HC.out.mono ?_
        rintro e w1 ⟨rfl, a1, h1, hr1⟩
        obtain ⟨⟨fv1, qv1, kv1, hri⟩, hb1⟩ := id h1
        have HM := Lib.hid (rmay hri hr1 f HMC.out)
        have HAD := Lib.hid (radd2_any hri hr1 f m s HUP.out.2 hms)
        have HA1 := Lib.hid h1
        clear h1 hr1 hri hb1
        go_wp2_with fail
        refine HM.out.mono ?_
        rintro e w' ⟨rfl, rfl⟩
        go_wp2_with fail
        refine (HFT.out _).mono ?_
        rintro e w' ⟨rfl, rfl⟩
        go_wp2_with fail
        refine HAD.out.mono ?_
        rintro e w2 ⟨rfl, a2, h2, hr2, _, _⟩
        have HF : Hid (RPost S r (wr st1 f m s.data.toList) w (.int .i64 0) (.returned (.int .i64 0)) w2) := ⟨rfl, a2, HA1.out.trans h2, hr2⟩
        clear h2 hr2
        go_wp2_with fail
        go_ret
        rw [HR.out.1, HR.out.2]
        exact HF.out
      · have HR : Hid (writeR st f k s.data.toList = 6 ∧ write st f k s.data.toList = st1) := by
          have e := HCK.out.2.2.1 HMC.out (by omega) hft
          exact ⟨HW1.out.trans e, by rw [HW2.out, if_neg (by rw [e]; decide)]⟩
        have HFT := Lib.hid (fun w => fits_any k s hs w (b := false) (by simpa using hft))
        clear hft
        go_enter Tryz.func42, Tryz.ntmps42
        go_wp2_with fail
        refine HC.out.mono ?_
        rintro e w1 ⟨rfl, a1, h1, hr1⟩
        obtain ⟨⟨fv1, qv1, kv1, hri⟩, hb1⟩ := id h1
        have HM := Lib.hid (rmay hri hr1 f HMC.out)
        have HF : Hid (RPost S r st1 w (.int .i64 6) (.returned (.int .i64 6)) w1) := ⟨rfl, a1, h1, hr1⟩
        clear h1 hr1 hri hb1
        go_wp2_with fail
        refine HM.out.mono ?_
        rintro e w' ⟨rfl, rfl⟩
        go_wp2_with fail
        refine (HFT.out _).mono ?_
        rintro e w' ⟨rfl, rfl⟩
        go_wp2_with fail
        go_ret
        rw [HR.out.1, HR.out.2]
        exact HF.out
  · have HR : Hid (writeR st f k s.data.toList = c ∧ write st f k s.data.toList = st1) := by
      by_cases hd : st1.down = true
      · obtain ⟨e1, e2⟩ := HW.out.1 hd
        refine ⟨e1.trans ?_, e2⟩
        rw [← hc]; unfold mayC; rw [if_pos hd]
      · obtain ⟨e1, e2⟩ := HW.out.2 (by simpa using hd)
        have e := (chk_may (st := st1) (f := f) (k := k) (n := s.size)).1 (by rw [hc]; exact hc0)
        rw [hc] at e
        exact ⟨e1.trans e, by rw [e2, if_neg (by rw [e]; exact hc0)]⟩
    have g1 : (c == 0) = false := by simpa using hc0
    have g2 : decide (c = 0) = false := by simpa using hc0
    have g3 : (c != 0) = true := by simpa using hc0
    clear hc hc0
    go_enter Tryz.func42, Tryz.ntmps42
    go_wp2_with fail
    refine HC.out.mono ?_
    rintro e w1 ⟨rfl, a1, h1, hr1⟩
    obtain ⟨⟨fv1, qv1, kv1, hri⟩, hb1⟩ := id h1
    have HM := Lib.hid (rmay hri hr1 f HMC.out)
    have HF : Hid (RPost S r st1 w (.int .i64 c) (.returned (.int .i64 c)) w1) := ⟨rfl, a1, h1, hr1⟩
    clear h1 hr1 hri hb1
    go_wp2_with fail
    refine HM.out.mono ?_
    rintro e w' ⟨rfl, rfl⟩
    go_wp2_with fail
    go_ret
    rw [HR.out.1, HR.out.2]
    exact HF.out

theorem rstart2_any {S : Nat → Prop} {r : Nat} {fv qv kv : Value} {a : RS} {st : St} {w : World} (h : RIs S r fv qv kv a w) (hr : Rel a st) :
    Calls Tryz.prog 23 #[.pointer (some ⟨r, 0, none⟩)] w (RPost S r (start st) w (.tuple #[])) :=
  (rstart_any h).mono fun _ _ ⟨h1, h2⟩ => ⟨h1, _, h2, hr.fl, hr.q, hr.lost, rfl, hr.calls, hr.kl, hr.kb, start_wf hr.wf⟩
theorem rlose2_any {S : Nat → Prop} {r : Nat} {fv qv kv : Value} {a : RS} {st : St} {w : World} (h : RIs S r fv qv kv a w) (hr : Rel a st) (n : Int) (hn : -9223372036854775808 ≤ n ∧ n ≤ 9223372036854775807) :
    Calls Tryz.prog 17 #[.pointer (some ⟨r, 0, none⟩), .int .i64 n] w (RPost S r (lose st n) w (.tuple #[])) :=
  (rlose_any h n hn).mono fun _ _ ⟨h1, h2⟩ => ⟨h1, _, h2, hr.fl, hr.q, rfl, hr.down, hr.calls, hr.kl, hr.kb, lose_wf hr.wf hn.2⟩

theorem RIs.keep5 {S : Nat → Prop} {r : Nat} {fv qv kv : Value} {a : RS} {w : World} (h : RIs S r fv qv kv a w) {w1 : World} {kv' : Value} {kl' : List Int} (hg : w.grownBy w1 none) (ho : Own w1 3 1 kv' kl'.length (kl'.map (Value.int .i64 ·))) (hn : ∀ b, blk kv' = some b → w.heap.size ≤ b) :
    RAf S r { a with kl := kl' } w (w1.setCell ⟨r, 5, none⟩ kv') := by
  have h1 := h.grown hg
  have hs : w1.grownBy (w1.setCell ⟨r, 5, none⟩ kv') (some r) := grownBy_setCell' _ _ _ _
  have hz := hg.size
  have hz2 := hs.size
  have hlt := h.lt
  have nr : blk kv' ≠ some r := fun e => by have := hn r e; omega
  refine ⟨⟨fv, qv, kv', ?_⟩, ((But.of hg fun b e _ => by cases e) : But S w w1).trans (S' := fun b => b = r) (But.of hs fun b e _ => by cases e; rfl) fun i _ e => by rw [e]; exact h.sr⟩
  refine ⟨?_, h1.fo.grown hs (.inr h.rf), h1.qo.grown hs (.inr h.rq), ho.grown hs (.inr nr), h.rf, h.rq, nr, h.fq, fun b e e2 => ?_, fun b e e2 => ?_, .inl h.sr, fun b e => .inl (h.sf b e), fun b e => .inl (h.sq b e), fun b e => .inr ⟨hn b e, ?_⟩⟩
  · exact Lib.heap_setCell_same (i := 5) h1.hd kv'
  · have := hn b e2; have := h.fo.lt b e; omega
  · have := hn b e2; have := h.qo.lt b e; omega
  · have := ho.lt b e; omega

set_option maxHeartbeats 2000000 in
theorem rarm_any {S : Nat → Prop} {r : Nat} {fv qv kv : Value} {a : RS} {st : St} {w : World} (h : RIs S r fv qv kv a w) (hr : Rel a st) (n : Int) (hn : -9223372036854775808 ≤ n ∧ n ≤ 9223372036854775807) (v : Value) (ks : List Int) (hv : Ints w v ks) (hk : ks.length ≤ 1000000000 ∧ ∀ x ∈ ks, -9223372036854775808 ≤ x ∧ x ≤ 9223372036854775807) (hoff : ∀ b, Ints.off v b → b ≠ r) :
    Calls Tryz.prog 19 #[.pointer (some ⟨r, 0, none⟩), .int .i64 n, v] w (RPost S r (arm st n ks) w (.tuple #[])) := by
  obtain ⟨_, _, _, _, c4, c5⟩ := h.cell
  have f4 := h.froz 4
  obtain ⟨va, vc, rfl, _⟩ := hv.shape
  obtain ⟨m, hm⟩ : ∃ m, max n 0 = m := ⟨_, rfl⟩
  have hs1 := Lib.heap_setCell_same (i := 4) h.hd (.int .i64 m)
  have hri := h.nums' (lost := a.lost) (down := a.down) (calls := m) (grownBy_setCell' w r 4 (.int .i64 m)) hs1
  have hraf : RAf S r { a with calls := m } w (w.setCell ⟨r, 4, none⟩ (.int .i64 m)) := h.nums (grownBy_setCell' w r 4 (.int .i64 m)) hs1
  have hg4 := grownBy_setCell' w r 4 (.int .i64 m)
  have hv1 : Ints (w.setCell ⟨r, 4, none⟩ (.int .i64 m)) (.slice va ks.length vc) ks := hv.kept fun b hb hlt => hg4.block b hlt (by intro e; cases e; exact hoff _ hb rfl)
  obtain ⟨w1, hw1⟩ : ∃ w1, w.setCell ⟨r, 4, none⟩ (.int .i64 m) = w1 := ⟨_, rfl⟩
  rw [hw1] at hri hraf hv1
  obtain ⟨i0, hi, hz0, hz1, hz2⟩ := info_parts infoI
  have hga : w1.grownBy (w1.alloc (.cells #[] 3)) none := World.grownBy_alloc _ _ _
  have hown : Own (w1.alloc (.cells #[] 3)) 3 1 (.slice (some ⟨w1.heap.size, 0, none⟩) 0 0) 0 [] := ⟨by simp, .inl ⟨_, rfl, rfl⟩⟩
  have hsrc := (hv1.alloc (.cells #[] 3)).src.2
  obtain ⟨v', w', hrun, hown', hg, hb⟩ := own_append (P := Tryz.prog) (t := 36) (tx := 36) (ty := 36) Tryz.underlying36 hi hz0 hz1 hz2 rfl hown hsrc (by unfold maxLen; omega) (by omega)
  obtain ⟨a', c', rfl, _, _⟩ := hown'.shape
  simp only [Nat.zero_add, List.nil_append] at hown' hrun
  have hgw : w1.grownBy w' none := hga.trans hg
  have hri1 : RIs (Grew S w w1) r fv qv kv { a with calls := m } w1 := hri
  have hnew : ∀ b, blk (.slice a' ks.length c') = some b → w1.heap.size ≤ b := fun b hb' => by
    simp only [Nat.zero_add] at hb
    rcases hb with e | e | e
    · rw [e] at hb'; cases hb'
    · rw [e] at hb'; cases hb'
    · rw [e] at hb'; cases hb'; simp
  have hk5 := hri1.keep5 hgw hown' hnew
  have hri2 := hri1.grown hgw
  have x5 := hri2.cell.2.2.2.2.2
  have z5 := hri2.froz 5
  have HF : Hid (RPost S r (arm st n ks) w (.tuple #[]) (.returned (.tuple #[])) (w'.setCell ⟨r, 5, none⟩ (.slice a' ks.length c'))) :=
    ⟨rfl, _, hraf.trans hk5, hr.fl, hr.q, hr.lost, hr.down, hm.symm, fun _ => rfl, hk, arm_wf hr.wf hn.2 hk⟩
  clear h hr hv hk hoff hs1 hri hraf hg4 hv1 hga hown hsrc hown' hg hb hgw hri1 hnew hk5 hri2 hi hz0 hz1 hz2
  by_cases h0 : 0 ≤ n
  · obtain rfl : m = n := by omega
    clear hm
    go_enter Tryz.func19, Tryz.ntmps19
    go_wp2_with (at_builtin; refine Lib.wpList_append_run _ rfl _ _ _ _ rfl _ _ rfl rfl _ _ hrun ?_)
    go_end0
    exact HF.out
  · obtain rfl : m = 0 := by omega
    clear hm
    go_enter Tryz.func19, Tryz.ntmps19
    go_wp2_with (at_builtin; refine Lib.wpList_append_run _ rfl _ _ _ _ rfl _ _ rfl rfl _ _ hrun ?_)
    go_end0
    exact HF.out

set_option maxHeartbeats 2000000 in
theorem rread_any {S : Nat → Prop} {r : Nat} {fv qv kv : Value} {a : RS} {st : St} {w : World} (h : RIs S r fv qv kv a w) (hr : Rel a st) (f k n : Int) (hk : -9223372036854775808 ≤ k ∧ k ≤ 9223372036854775807) (hn : -9223372036854775808 ≤ n ∧ n ≤ 9223372036854775807) {s : ByteArray} {c : Int} (h1 : readS st f k n = s.data.toList) (h2 : readR st f k n = c) :
    Calls Tryz.prog 28 #[.pointer (some ⟨r, 0, none⟩), .int .i64 f, .int .i64 k, .int .i64 n] w fun e w' => e = .returned (.tuple #[.string s, .int .i64 c]) ∧ w.grownBy w' none := by
  obtain ⟨m, hm⟩ : ∃ m, mayC st f = m := ⟨_, rfl⟩
  have HM := Lib.hid (rmay h hr f hm)
  have hg0 : w.grownBy w none := ⟨rfl, rfl, rfl, Nat.le_refl _, fun _ _ _ => rfl⟩
  by_cases hm0 : m = 0
  · subst hm0
    obtain ⟨hd, hf⟩ := may_zero hm
    by_cases hx : k < 0 ∨ n < 0
    · have hcond : st.down = true ∨ isF f = false ∨ k < 0 ∨ n < 0 := .inr (.inr hx)
      have hse : s = ⟨#[]⟩ := ba_ext (by rw [← h1]; unfold readS; rw [if_pos hcond])
      have hce : c = 1 := by rw [← h2]; unfold readR; rw [if_neg (by simp [hd]), if_pos (.inr hx)]
      subst hse hce
      have hx2 : k < 0 ∨ (¬ k < 0 ∧ n < 0) := by omega
      have HG0 := Lib.hid hg0
      clear h hr hm hd hf hx hcond h1 h2 hg0
      rcases hx2 with hx | ⟨hx, hx2⟩
      all_goals
        go_enter Tryz.func28, Tryz.ntmps28
        go_wp2_with fail
        refine HM.out.mono ?_
        rintro e w' ⟨rfl, rfl⟩
        go_wp2_with fail
        go_ret2
        exact ⟨rfl, HG0.out⟩
    · obtain ⟨i, rfl⟩ : ∃ i : Nat, k = i := ⟨k.toNat, by omega⟩
      obtain ⟨j, rfl⟩ : ∃ j : Nat, n = j := ⟨n.toNat, by omega⟩
      obtain ⟨e1, e2⟩ := readS_up (st := st) (f := f) (a := (i : Int)) (n := (j : Int)) hd hf (by omega) (by omega)
      have hce : c = 0 := by rw [← h2, e2]
      subst hce
      rw [e1, Int.toNat_natCast, Int.toNat_natCast] at h1
      have HG := Lib.hid (get_any h f)
      unfold GetPost at HG
      obtain ⟨A, hA⟩ : ∃ A, (look a.fl f).now = A := ⟨_, rfl⟩
      obtain ⟨D, hD⟩ : ∃ D, (look a.fl f).last = D := ⟨_, rfl⟩
      rw [hA, hD] at HG
      have hAe : A.data.toList = st.now f := by rw [← hA]; exact hr.fl.now f
      have hAs : A.size = (st.now f).length := by rw [← hAe]; exact Lib.size_eq A
      have hA16 : A.size ≤ 16777216 := by rw [hAs]; exact hr.wf.len f
      by_cases hge : A.size ≤ i
      · have hse : s = ⟨#[]⟩ := ba_ext (by rw [← h1, List.drop_of_length_le (by omega)]; simp)
        subst hse
        have q1 : (A.size : Int) ≤ i := by omega
        clear h hr hm hd hf hx e1 e2 h1 h2 hg0 hA hD hAe hAs
        go_enter Tryz.func28, Tryz.ntmps28
        go_wp2_with fail
        refine HM.out.mono ?_
        rintro e w' ⟨rfl, rfl⟩
        go_wp2_with fail
        refine HG.out.mono ?_
        rintro e w2 ⟨rfl, hg2⟩
        have hfd := field1 f A D w2
        have HF := Lib.hid hg2
        clear hg2
        go_wp2_with fail
        go_ret2
        exact ⟨rfl, HF.out⟩
      · have HRUN : Hid (∀ (w' : World) (x y : Int), x = (i : Int) → y = ((i + min j (A.size - i) : Nat) : Int) → (Instr.slice 9 (.string A) (some (.int .i64 x)) (some (.int .i64 y)) none).run Tryz.prog w' = .ok (.string s) w') := by
          rintro w' x y rfl rfl
          rw [run_slice_string w' 9 A .i64 .i64 _ _ Tryz.underlying9 (by omega) (by omega) (by omega), Int.toNat_natCast, Int.toNat_natCast, piece A s i j i (by omega) (by rw [hAe]; exact h1.symm)]
        have q1 : ¬ (A.size : Int) ≤ i := by omega
        clear h hr hm hd hf hx e1 e2 h1 h2 hg0 hA hD hAe hAs
        by_cases hcs : j ≤ A.size - i
        · have q2 : (j : Int) ≤ (A.size : Int) - i := by omega
          go_enter Tryz.func28, Tryz.ntmps28
          go_wp2_with fail
          refine HM.out.mono ?_
          rintro e w' ⟨rfl, rfl⟩
          go_wp2_with fail
          refine HG.out.mono ?_
          rintro e w2 ⟨rfl, hg2⟩
          have hfd := field1 f A D w2
          have HF := Lib.hid hg2
          clear hg2
          go_wp2_with fail
          rw [HRUN.out _ _ _ (by omega) (by omega)]
          simp only [Result.andThen]
          rw [Oper.upon_value]
          go_wp2_with fail
          go_ret2
          exact ⟨rfl, HF.out⟩
        · have q2 : ¬ (j : Int) ≤ (A.size : Int) - i := by omega
          go_enter Tryz.func28, Tryz.ntmps28
          go_wp2_with fail
          refine HM.out.mono ?_
          rintro e w' ⟨rfl, rfl⟩
          go_wp2_with fail
          refine HG.out.mono ?_
          rintro e w2 ⟨rfl, hg2⟩
          have hfd := field1 f A D w2
          have HF := Lib.hid hg2
          clear hg2
          go_wp2_with fail
          rw [HRUN.out _ _ _ (by omega) (by omega)]
          simp only [Result.andThen]
          rw [Oper.upon_value]
          go_wp2_with fail
          go_ret2
          exact ⟨rfl, HF.out⟩
  · have hcond : (st.down = true ∧ m = 8) ∨ (st.down = false ∧ isF f = false ∧ m = 1) := by
      unfold mayC at hm
      split at hm
      · rename_i h'; exact .inl ⟨h', hm.symm⟩
      · rename_i h'
        split at hm
        · rename_i h''; exact .inr ⟨by simpa using h', h'', hm.symm⟩
        · exact absurd hm.symm hm0
    have hse : s = ⟨#[]⟩ := ba_ext (by
      rw [← h1]
      unfold readS
      rcases hcond with ⟨h', _⟩ | ⟨_, h', _⟩
      · rw [if_pos (.inl h')]
      · rw [if_pos (.inr (.inl h'))])
    have hce : c = m := by
      rw [← h2]
      unfold readR
      rcases hcond with ⟨h', e⟩ | ⟨h0, h', e⟩
      · rw [if_pos h', e]
      · rw [if_neg (by simp [h0]), if_pos (.inl h'), e]
    subst hse hce
    have g1 : (c == 0) = false := by simpa using hm0
    have g2 : decide (c = 0) = false := by simpa using hm0
    have g3 : (c != 0) = true := by simpa using hm0
    have HG0 := Lib.hid hg0
    clear h hr hm hm0 hcond h1 h2 hg0
    go_enter Tryz.func28, Tryz.ntmps28
    go_wp2_with fail
    refine HM.out.mono ?_
    rintro e w' ⟨rfl, rfl⟩
    go_wp2_with fail
    go_ret2
    exact ⟨rfl, HG0.out⟩
end Go.Proofs.YtejddacjncpneaaGreatDoor.Di
/- The contract of tell. -/
namespace Go.Proofs.YtejddacjncpneaaGreatDoor.Di
open Go.RowKit Go.ChangeShapes Go.WideShapes

end Go.Proofs.YtejddacjncpneaaGreatDoor.Di
