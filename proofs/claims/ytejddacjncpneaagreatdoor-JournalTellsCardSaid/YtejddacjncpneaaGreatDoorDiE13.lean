/- The reference's Sync, Truncate, Write. -/
import Derived.Test.YtejddacjncpneaaGreatDoorDiE12
set_option maxRecDepth 100000
namespace Go.Proofs.YtejddacjncpneaaGreatDoor.Di
open Go.RowKit Go.ChangeShapes Go.WideShapes

theorem comes_goes (st : St) : comesS st 0 0 [] = goes st := by
  unfold comesS goes
  split
  · rfl
  · split
    · first
        | rfl
        | (congr 1; done)
        | (congr 1; split <;> first | rfl | (unfold wr; rw [if_pos rfl]))
    · rfl
theorem settle_rel' {a : RS} {st : St} (h : Rel a st) (f : Int) (hf : isF f = true) (l : ByteArray) (hw : WF (settle { st with now := upd st.now f l.data.toList } f)) : Rel (settleR a f l) (settle { st with now := upd st.now f l.data.toList } f) := by
  have hl := h.fl.set ⟨f, l, l⟩ hf
  simp only at hl
  refine ⟨?_, by show a.q.filter (notF f) = st.q.filter _; rw [h.q]; rfl, h.lost, h.down, h.calls, h.kl, h.kb, hw⟩
  have e : (settle { st with now := upd st.now f l.data.toList } f).dur = upd st.dur f l.data.toList := by
    show upd st.dur f ((upd st.now f l.data.toList) f) = _
    rw [upd_same]
  rw [e]
  exact hl
theorem rsettle2_any {S : Nat → Prop} {r : Nat} {fv qv kv : Value} {a : RS} {st : St} {w : World} (h : RIs S r fv qv kv a w) (hr : Rel a st) (f : Int) (s : ByteArray) (hf : isF f = true) (hw : WF (settle { st with now := upd st.now f s.data.toList } f)) :
    Calls Tryz.prog 63 #[.pointer (some ⟨r, 0, none⟩), .int .i64 f, .string s] w (RPost S r (settle { st with now := upd st.now f s.data.toList } f) w (.tuple #[])) :=
  (rsettle_any h f s (by have := hr.fl.ok.len; omega) (by rw [hr.q]; have := hr.wf.qlen; omega)).mono fun _ _ ⟨h1, h2⟩ => ⟨h1, _, h2, settle_rel' hr f hf s hw⟩

def mayC (st : St) (f : Int) : Int := if st.down = true then 8 else if isF f = false then 1 else 0
theorem rmay {S : Nat → Prop} {r : Nat} {fv qv kv : Value} {a : RS} {st : St} {w : World} (h : RIs S r fv qv kv a w) (hr : Rel a st) (f : Int) {c : Int} (hc : mayC st f = c) :
    Calls Tryz.prog 51 #[.pointer (some ⟨r, 0, none⟩), .int .i64 f] w fun e w' => e = .returned (.int .i64 c) ∧ w = w' := may_any h f (by rw [hr.down]; exact hc)
theorem rcomes0 {S : Nat → Prop} {r : Nat} {fv qv kv : Value} {a : RS} {st : St} {w : World} (h : RIs S r fv qv kv a w) (hr : Rel a st) :
    Calls Tryz.prog 62 #[.pointer (some ⟨r, 0, none⟩), .int .i64 0, .int .i64 0, .string ⟨#[]⟩] w (RPost S r (goes st) w (.tuple #[])) := by
  have := comes_any h hr 0 0 ⟨#[]⟩ (by simp [ByteArray.size])
  have e : (ByteArray.mk #[]).data.toList = [] := rfl
  rw [e, comes_goes] at this
  exact this
theorem RAf.grow {S : Nat → Prop} {r : Nat} {a : RS} {u v x : World} (h : RAf S r a u v) (hg : v.grownBy x none) : RAf S r a u x := by
  obtain ⟨⟨fv, qv, kv, hri⟩, hb⟩ := h
  exact RAf.trans (a := a) ⟨⟨fv, qv, kv, hri⟩, hb⟩ (hri.rafg hg)

set_option maxHeartbeats 2000000 in
theorem rsync_any {S : Nat → Prop} {r : Nat} {fv qv kv : Value} {a : RS} {st : St} {w : World} (h : RIs S r fv qv kv a w) (hr : Rel a st) (f : Int) :
    Calls Tryz.prog 36 #[.pointer (some ⟨r, 0, none⟩), .int .i64 f] w (RPost S r (sync st f) w (.int .i64 (syncR st f))) := by
  have HC := Lib.hid (rcomes0 h hr)
  obtain ⟨st1, hst1⟩ : ∃ x, goes st = x := ⟨_, rfl⟩
  rw [hst1] at HC
  have HE := Lib.hid hst1
  obtain ⟨c, hc⟩ : ∃ c, mayC st1 f = c := ⟨_, rfl⟩
  have HMC := Lib.hid hc
  clear h hr hst1
  by_cases hc0 : c = 0
  · subst hc0
    have hup : st1.down = false ∧ isF f = true := by
      unfold mayC at hc
      split at hc
      · cases hc
      · rename_i h1
        split at hc
        · cases hc
        · rename_i h2
          exact ⟨by simpa using h1, by simpa using h2⟩
    have HUP := Lib.hid hup
    clear hc hup
    by_cases hl : st1.lost > 0
    · have HR : Hid (syncR st f = 9 ∧ sync st f = { st1 with lost := st1.lost - 1 }) := by
        unfold Hid syncR sync
        rw [HE.out, if_neg (by simp [HUP.out.1]), if_neg (by simp [HUP.out.2]), if_pos hl, if_neg (by simp [HUP.out.1, HUP.out.2]), if_pos hl]
        exact ⟨rfl, rfl⟩
      obtain ⟨n, hn⟩ : ∃ n, st1.lost = n := ⟨_, rfl⟩
      have HN := Lib.hid hn
      rw [hn] at hl
      clear hn
      go_enter Tryz.func36, Tryz.ntmps36
      go_wp2_with fail
      refine HC.out.mono ?_
      rintro e w1 ⟨rfl, a1, h1, hr1⟩
      obtain ⟨⟨fv1, qv1, kv1, hri⟩, hb1⟩ := id h1
      have HM := Lib.hid (rmay hri hr1 f HMC.out)
      have c2 := hri.cell.2.2.1
      have f2 := hri.froz 2
      rw [hr1.lost, HN.out] at c2
      have hlb := hr1.wf.lost
      rw [HN.out] at hlb
      have HF : Hid (RPost S r { st1 with lost := st1.lost - 1 } w (.int .i64 9) (.returned (.int .i64 9)) (w1.setCell ⟨r, 2, none⟩ (.int .i64 (n - 1)))) := by
        refine ⟨rfl, { a1 with lost := n - 1 }, h1.trans (hri.nums (grownBy_setCell' _ _ _ _) (Lib.heap_setCell_same (i := 2) hri.hd _)), hr1.fl, hr1.q, by rw [HN.out], hr1.down, hr1.calls, hr1.kl, hr1.kb, ?_⟩
        have q1 := hr1.wf.lost
        have q2 := HN.out
        exact ⟨hr1.wf.nf, hr1.wf.len, hr1.wf.dl, hr1.wf.q, hr1.wf.nd, ⟨by show 0 ≤ st1.lost - 1; omega, by show st1.lost - 1 ≤ _; omega⟩, hr1.wf.calls, hr1.wf.keep⟩
      clear h1 hr1 hri hb1
      go_wp2_with fail
      refine HM.out.mono ?_
      rintro e w' ⟨rfl, rfl⟩
      go_wp2_with fail
      go_ret
      rw [HR.out.1, HR.out.2]
      exact HF.out
    · have HR : Hid (syncR st f = 0 ∧ sync st f = settle st1 f) := by
        unfold Hid syncR sync
        rw [HE.out, if_neg (by simp [HUP.out.1]), if_neg (by simp [HUP.out.2]), if_neg hl, if_neg (by simp [HUP.out.1, HUP.out.2]), if_neg hl]
        exact ⟨rfl, rfl⟩
      obtain ⟨n, hn⟩ : ∃ n, st1.lost = n := ⟨_, rfl⟩
      have HN := Lib.hid hn
      rw [hn] at hl
      clear hn
      go_enter Tryz.func36, Tryz.ntmps36
      go_wp2_with fail
      refine HC.out.mono ?_
      rintro e w1 ⟨rfl, a1, h1, hr1⟩
      obtain ⟨⟨fv1, qv1, kv1, hri⟩, hb1⟩ := id h1
      have HM := Lib.hid (rmay hri hr1 f HMC.out)
      have c2 := hri.cell.2.2.1
      rw [hr1.lost, HN.out] at c2
      have hl2 : decide (0 < n) = false := by simp; omega
      have HG := Lib.hid (get_any hri f)
      unfold GetPost at HG
      obtain ⟨A, hA⟩ : ∃ A, (look a1.fl f).now = A := ⟨_, rfl⟩
      obtain ⟨D, hD⟩ : ∃ D, (look a1.fl f).last = D := ⟨_, rfl⟩
      rw [hA, hD] at HG
      have hAe : A.data.toList = st1.now f := by rw [← hA]; exact hr1.fl.now f
      have hse : settle { st1 with now := upd st1.now f A.data.toList } f = settle st1 f := by rw [hAe, upd_id]
      have HST : Hid (∀ w2, w1.grownBy w2 none → Calls Tryz.prog 63 #[.pointer (some ⟨r, 0, none⟩), .int .i64 f, .string A] w2 (fun e w3 => e = .returned (.tuple #[]) ∧ ∃ a3, RAf S r a3 w w3 ∧ Rel a3 (settle st1 f))) := fun w2 hg => by
        have hri2 := (hri.grown hg).mono (S' := Grew S w w2) fun b hb => by
          rcases hb with hb | ⟨q1, q2⟩
          · exact .inl hb
          · exact .inr ⟨q1, Nat.lt_of_lt_of_le q2 hg.size⟩
        refine (rsettle2_any hri2 hr1 f A HUP.out.2 (by rw [hse]; exact settle_wf hr1.wf HUP.out.2)).mono ?_
        rintro e w3 ⟨he, a3, h3, hr3⟩
        rw [hse] at hr3
        exact ⟨he, a3, (h1.grow hg).trans h3, hr3⟩
      clear h1 hr1 hri hb1 hA hD hAe hse
      go_wp2_with fail
      refine HM.out.mono ?_
      rintro e w' ⟨rfl, rfl⟩
      go_wp2_with fail
      refine HG.out.mono ?_
      rintro e w2 ⟨rfl, hg2⟩
      have HS2 := Lib.hid (HST.out w2 hg2)
      have hfd := field1 f A D w2
      clear hg2
      go_wp2_with fail
      refine HS2.out.mono ?_
      rintro e w3 ⟨rfl, a3, h3, hr3⟩
      have HF : Hid (RPost S r (settle st1 f) w (.int .i64 0) (.returned (.int .i64 0)) w3) := ⟨rfl, a3, h3, hr3⟩
      clear h3 hr3
      go_wp2_with fail
      go_ret
      rw [HR.out.1, HR.out.2]
      exact HF.out
  · have HR : Hid (syncR st f = c ∧ sync st f = st1) := by
      unfold Hid syncR sync
      rw [HE.out]
      unfold mayC at hc
      split at hc
      · rename_i h1
        rw [if_pos h1, if_pos (.inl h1)]
        exact ⟨hc, rfl⟩
      · rename_i h1
        split at hc
        · rename_i h2
          rw [if_neg h1, if_pos h2, if_pos (.inr h2)]
          exact ⟨hc, rfl⟩
        · exact absurd hc.symm hc0
    have g1 : (c == 0) = false := by simpa using hc0
    have g2 : decide (c = 0) = false := by simpa using hc0
    have g3 : (c != 0) = true := by simpa using hc0
    clear hc hc0
    go_enter Tryz.func36, Tryz.ntmps36
    go_wp2_with fail
    refine HC.out.mono ?_
    rintro e w1 ⟨rfl, a1, h1, hr1⟩
    obtain ⟨⟨fv1, qv1, kv1, hri⟩, hb1⟩ := id h1
    have HM := Lib.hid (rmay hri hr1 f HMC.out)
    have HF : Hid (RPost S r st1 w (.int .i64 c) (.returned (.int .i64 c)) w1) := ⟨rfl, a1, h1, hr1⟩
    clear h1 hr1 hri hb1
    go_wp2_with fail
    refine HM.out.mono ?_
    rintro e w' ⟨rfl, rfl⟩
    go_wp2_with fail
    go_ret
    rw [HR.out.1, HR.out.2]
    exact HF.out
end Go.Proofs.YtejddacjncpneaaGreatDoor.Di
/- The reference's Truncate and Write. -/
namespace Go.Proofs.YtejddacjncpneaaGreatDoor.Di
open Go.RowKit Go.ChangeShapes Go.WideShapes

theorem may_zero {st : St} {f : Int} (h : mayC st f = 0) : st.down = false ∧ isF f = true := by
  unfold mayC at h
  split at h
  · cases h
  · rename_i h1
    split at h
    · cases h
    · rename_i h2
      exact ⟨by simpa using h1, by simpa using h2⟩
theorem trunc_may {st : St} {f n : Int} {c : Int} (hc : mayC (goes st) f = c) (h0 : c ≠ 0) : truncR st f n = c ∧ trunc st f n = goes st := by
  unfold mayC at hc
  unfold truncR trunc
  split at hc
  · rename_i h1
    rw [if_pos h1, if_pos (.inl h1)]
    exact ⟨hc, rfl⟩
  · rename_i h1
    split at hc
    · rename_i h2
      rw [if_neg h1, if_pos (.inl h2), if_pos (.inr (.inl h2))]
      exact ⟨hc, rfl⟩
    · exact absurd hc.symm h0

set_option maxHeartbeats 2000000 in
theorem rtrunc_any {S : Nat → Prop} {r : Nat} {fv qv kv : Value} {a : RS} {st : St} {w : World} (h : RIs S r fv qv kv a w) (hr : Rel a st) (f n : Int) (hnb : -9223372036854775808 ≤ n ∧ n ≤ 9223372036854775807) :
    Calls Tryz.prog 39 #[.pointer (some ⟨r, 0, none⟩), .int .i64 f, .int .i64 n] w (RPost S r (trunc st f n) w (.int .i64 (truncR st f n))) := by
  have HC := Lib.hid (rcomes0 h hr)
  obtain ⟨c, hc⟩ : ∃ c, mayC (goes st) f = c := ⟨_, rfl⟩
  have HMC := Lib.hid hc
  clear h hr
  by_cases hc0 : c = 0
  · subst hc0
    have HUP := Lib.hid (may_zero hc)
    clear hc
    go_enter Tryz.func39, Tryz.ntmps39
    go_wp2_with fail
    refine HC.out.mono ?_
    rintro e w1 ⟨rfl, a1, h1, hr1⟩
    obtain ⟨⟨fv1, qv1, kv1, hri⟩, hb1⟩ := id h1
    have HM := Lib.hid (rmay hri hr1 f HMC.out)
    have HG := Lib.hid (get_any hri f)
    unfold GetPost at HG
    obtain ⟨A, hA⟩ : ∃ A, (look a1.fl f).now = A := ⟨_, rfl⟩
    obtain ⟨D, hD⟩ : ∃ D, (look a1.fl f).last = D := ⟨_, rfl⟩
    rw [hA, hD] at HG
    have hAe : A.data.toList = (goes st).now f := by rw [← hA]; exact hr1.fl.now f
    have hAs : A.size = ((goes st).now f).length := by rw [← hAe]; exact Lib.size_eq A
    by_cases hx : n < 0 ∨ (A.size : Int) < n
    · have HR : Hid (truncR st f n = 1 ∧ trunc st f n = goes st) := by
        have hx' : n < 0 ∨ n > ((goes st).now f).length := by rw [← hAs]; exact hx
        unfold Hid truncR trunc
        rw [if_neg (by simp [HUP.out.1]), if_pos (.inr hx'), if_pos (.inr (.inr hx'))]
        exact ⟨rfl, rfl⟩
      have HK : Hid (∀ w2, w1.grownBy w2 none → RPost S r (goes st) w (.int .i64 1) (.returned (.int .i64 1)) w2) := fun w2 hg => ⟨rfl, a1, h1.grow hg, hr1⟩
      have hx2 : n < 0 ∨ (¬ n < 0 ∧ (A.size : Int) < n) := by omega
      clear h1 hr1 hri hb1 hA hD hAe hAs hx
      rcases hx2 with hx | ⟨hx, hx2⟩
      all_goals
        go_wp2_with fail
        refine HM.out.mono ?_
        rintro e w' ⟨rfl, rfl⟩
        go_wp2_with fail
        refine HG.out.mono ?_
        rintro e w2 ⟨rfl, hg2⟩
        have hfd := field1 f A D w2
        have HF := Lib.hid (HK.out w2 hg2)
        clear hg2
        go_wp2_with fail
        go_ret
        rw [HR.out.1, HR.out.2]
        exact HF.out
    · obtain ⟨m, rfl⟩ : ∃ m : Nat, n = m := ⟨n.toNat, by omega⟩
      have hm : m ≤ A.size := by omega
      obtain ⟨B, hB⟩ : ∃ B, A.extract 0 m = B := ⟨_, rfl⟩
      have hBe : B.data.toList = ((goes st).now f).take m := by rw [← hB, ba_extract, hAe]; simp
      have hse : settle { goes st with now := upd (goes st).now f B.data.toList } f = cut (goes st) f m := by rw [hBe]; rfl
      have HR : Hid (truncR st f m = 0 ∧ trunc st f m = cut (goes st) f m) := by
        have h2 : ¬ (isF f = false ∨ (m : Int) < 0 ∨ (m : Int) > ((goes st).now f).length) := by
          rintro (h | h | h)
          · rw [HUP.out.2] at h; cases h
          · omega
          · omega
        unfold Hid truncR trunc
        rw [if_neg (by simp [HUP.out.1]), if_neg h2, if_neg (fun h => h.elim (by simp [HUP.out.1]) h2)]
        exact ⟨rfl, rfl⟩
      have HST : Hid (∀ w2, w1.grownBy w2 none → Calls Tryz.prog 63 #[.pointer (some ⟨r, 0, none⟩), .int .i64 f, .string B] w2 (fun e w3 => e = .returned (.tuple #[]) ∧ ∃ a3, RAf S r a3 w w3 ∧ Rel a3 (cut (goes st) f m))) := fun w2 hg => by
        have hri2 := (hri.grown hg).mono (S' := Grew S w w2) fun b hb => by
          rcases hb with hb | ⟨q1, q2⟩
          · exact .inl hb
          · exact .inr ⟨q1, Nat.lt_of_lt_of_le q2 hg.size⟩
        refine (rsettle2_any hri2 hr1 f B HUP.out.2 (by rw [hse]; exact cut_wf hr1.wf HUP.out.2)).mono ?_
        rintro e w3 ⟨he, a3, h3, hr3⟩
        rw [hse] at hr3
        exact ⟨he, a3, (h1.grow hg).trans h3, hr3⟩
      have HB := Lib.hid hB
      have hmm : ¬ ((A.size : Int) < (m : Int)) := by omega
      have hA16 : A.size ≤ 16777216 := by rw [hAs]; exact hr1.wf.len f
      clear h1 hr1 hri hb1 hA hD hAe hse hAs hx hB hBe
      go_wp2_with fail
      refine HM.out.mono ?_
      rintro e w' ⟨rfl, rfl⟩
      go_wp2_with fail
      refine HG.out.mono ?_
      rintro e w2 ⟨rfl, hg2⟩
      have HS2 := Lib.hid (HST.out w2 hg2)
      have hfd := field1 f A D w2
      have hex := HB.out
      clear hg2
      go_wp2_with fail
      refine HS2.out.mono ?_
      rintro e w3 ⟨rfl, a3, h3, hr3⟩
      have HF : Hid (RPost S r (cut (goes st) f m) w (.int .i64 0) (.returned (.int .i64 0)) w3) := ⟨rfl, a3, h3, hr3⟩
      clear h3 hr3
      go_wp2_with fail
      go_ret
      rw [HR.out.1, HR.out.2]
      exact HF.out
  · have HR := Lib.hid (trunc_may (n := n) hc hc0)
    have g1 : (c == 0) = false := by simpa using hc0
    have g2 : decide (c = 0) = false := by simpa using hc0
    have g3 : (c != 0) = true := by simpa using hc0
    clear hc hc0
    go_enter Tryz.func39, Tryz.ntmps39
    go_wp2_with fail
    refine HC.out.mono ?_
    rintro e w1 ⟨rfl, a1, h1, hr1⟩
    obtain ⟨⟨fv1, qv1, kv1, hri⟩, hb1⟩ := id h1
    have HM := Lib.hid (rmay hri hr1 f HMC.out)
    have HF : Hid (RPost S r (goes st) w (.int .i64 c) (.returned (.int .i64 c)) w1) := ⟨rfl, a1, h1, hr1⟩
    clear h1 hr1 hri hb1
    go_wp2_with fail
    refine HM.out.mono ?_
    rintro e w' ⟨rfl, rfl⟩
    go_wp2_with fail
    go_ret
    rw [HR.out.1, HR.out.2]
    exact HF.out

/-- What a Write is, told by what comes first. -/
theorem write_comes (st : St) (f k : Int) (s : List UInt8) :
    ((comesS st f k s).down = true → writeR st f k s = 8 ∧ write st f k s = comesS st f k s) ∧
    ((comesS st f k s).down = false → writeR st f k s = chk (comesS st f k s) f k s.length ∧ write st f k s = if chk (comesS st f k s) f k s.length = 0 then wr (comesS st f k s) f k.toNat s else comesS st f k s) := by
  by_cases hd : st.down = true
  · have e : comesS st f k s = st := by unfold comesS; rw [if_pos (.inl hd)]
    rw [e]
    obtain ⟨h1, h2⟩ := write_dn hd f k s
    exact ⟨fun _ => ⟨h2, h1⟩, fun h => by rw [hd] at h; cases h⟩
  · have hd' : st.down = false := by simpa using hd
    obtain ⟨p1, p2⟩ := perf_same st f k s
    by_cases h0 : st.calls = 0
    · have e : comesS st f k s = st := by unfold comesS; rw [if_pos (.inr h0)]
      have hw : write st f k s = perf st f k s := by rw [write_perf]; exact goes_zero (p2.trans h0)
      rw [e]
      refine ⟨fun h => absurd h hd, fun _ => ⟨?_, hw⟩⟩
      unfold writeR
      rw [hw, if_neg (by rw [p1, hd']; simp)]
    · by_cases h1 : st.calls = 1
      · have hp : (if isF f = true ∧ 0 ≤ k ∧ k ≤ 16777216 ∧ k + s.length ≤ 16777216 then wr st f k.toNat s else st) = perf st f k s := by
          unfold perf
          by_cases hz : chk st f k s.length = 0
          · obtain ⟨z1, z2, z3, z4⟩ := chk_zero.1 hz
            rw [if_pos hz, if_pos ⟨z2, z3, by omega, z4⟩]
          · rw [if_neg hz, if_neg (fun ⟨z2, z3, _, z4⟩ => hz (chk_zero.2 ⟨hd', z2, z3, z4⟩))]
        have e : comesS st f k s = crash (perf st f k s) st.keep := by unfold comesS; rw [if_neg (fun h => h.elim hd h0), if_pos h1, hp]
        have hk : (perf st f k s).keep = st.keep := by
          unfold perf; split
          · unfold wr; split <;> rfl
          · rfl
        have hw : write st f k s = crash (perf st f k s) st.keep := by
          rw [write_perf]
          unfold goes
          rw [if_neg (fun h => h.elim (by rw [p1, hd']; simp) (by rw [p2]; omega)), if_pos (p2.trans h1), hk]
        rw [e, hw]
        refine ⟨fun _ => ⟨?_, rfl⟩, fun h => by rw [crash_down] at h; cases h⟩
        unfold writeR
        rw [hw, if_pos (crash_down _ _)]
      · have e : comesS st f k s = { st with calls := st.calls - 1 } := by unfold comesS; rw [if_neg (fun h => h.elim hd h0), if_neg h1]
        have hw : write st f k s = { perf st f k s with calls := st.calls - 1 } := by
          rw [write_perf]
          unfold goes
          rw [if_neg (fun h => h.elim (by rw [p1, hd']; simp) (by rw [p2]; omega)), if_neg (by rw [p2]; omega), p2]
        rw [e]
        refine ⟨fun h => absurd h hd, fun _ => ⟨?_, ?_⟩⟩
        · unfold writeR
          rw [hw, if_neg (show ¬ (perf st f k s).down = true by rw [p1, hd']; simp)]
          rfl
        · rw [hw]
          show _ = if chk st f k s.length = 0 then wr { st with calls := st.calls - 1 } f k.toNat s else { st with calls := st.calls - 1 }
          by_cases hz : chk st f k s.length = 0
          · rw [if_pos hz, wr_calls]; unfold perf; rw [if_pos hz]
          · rw [if_neg hz]; unfold perf; rw [if_neg hz]
end Go.Proofs.YtejddacjncpneaaGreatDoor.Di
