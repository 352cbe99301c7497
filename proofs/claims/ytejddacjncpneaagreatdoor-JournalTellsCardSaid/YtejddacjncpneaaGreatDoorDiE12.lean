/- The reference's comes. -/
import Derived.Test.YtejddacjncpneaaGreatDoorDiE11
set_option maxRecDepth 100000
namespace Go.Proofs.YtejddacjncpneaaGreatDoor.Di
open Go.RowKit Go.ChangeShapes Go.WideShapes

theorem add_rel {a : RS} {st : St} (h : Rel a st) (f : Int) (k : Nat) (s : ByteArray) (hf : isF f = true) (h0 : 0 < s.size) (hb : k + s.size ≤ 16777216) : Rel (addR a f k s) (wr st f k s.data.toList) := by
  have hsz : s.data.toList.length = s.size := (Lib.size_eq s).symm
  have hne : s.data.toList ≠ [] := fun e => by rw [e] at hsz; simp at hsz; omega
  have hw := wr_wf h.wf hf (a := k) (s := s.data.toList) (by rw [hsz]; exact hb)
  unfold wr at hw ⊢
  rw [if_neg hne] at hw ⊢
  have hl := h.fl.set ⟨f, putB (look a.fl f).now k s, (look a.fl f).last⟩ hf
  have e1 : (putB (look a.fl f).now k s).data.toList = putL (st.now f) k s.data.toList := by
    show putL (look a.fl f).now.data.toList k s.data.toList = _
    rw [h.fl.now f]
  simp only at hl
  rw [e1, h.fl.dur f, upd_id] at hl
  exact ⟨hl, by show addQ a.q (secs f k s.size) = addQ st.q (secs f k s.data.toList.length); rw [h.q, hsz], h.lost, h.down, h.calls, h.kl, h.kb, hw⟩

theorem radd_any {S : Nat → Prop} {r : Nat} {fv qv kv : Value} {a : RS} {st : St} {w : World} (h : RIs S r fv qv kv a w) (hr : Rel a st) (f : Int) (k : Nat) (s : ByteArray) (hf : isF f = true) (h0 : 0 < s.size) (hb : k + s.size ≤ 16777216) :
    Calls Tryz.prog 73 #[.pointer (some ⟨r, 0, none⟩), .int .i64 f, .int .i64 k, .string s] w fun e w' => e = .returned (.tuple #[]) ∧ RAf S r (addR a f k s) w w' ∧ Rel (addR a f k s) (wr st f k s.data.toList) :=
  (add_any h f k s h0 hb (by have := hr.fl.ok.len; omega) (by rw [hr.q]; have := hr.wf.qlen; omega) (by rw [hr.fl.nowsz]; exact hr.wf.len f)).mono fun _ _ ⟨h1, h2⟩ => ⟨h1, h2, add_rel hr f k s hf h0 hb⟩
theorem add_nil (r : Nat) (f k : Int) (w : World) : Calls Tryz.prog 73 #[.pointer (some ⟨r, 0, none⟩), .int .i64 f, .int .i64 k, .string ⟨#[]⟩] w fun e w' => e = .returned (.tuple #[]) ∧ w = w' := by
  go_enter Tryz.func73, Tryz.ntmps73
  go_wp2_with fail
  refine bodyPost_ret (results_none rfl _ _ _) rfl ⟨rfl, rfl⟩

/-- add, whatever is written. -/
theorem radd2_any {S : Nat → Prop} {r : Nat} {fv qv kv : Value} {a : RS} {st : St} {w : World} (h : RIs S r fv qv kv a w) (hr : Rel a st) (f : Int) (k : Nat) (s : ByteArray) (hf : isF f = true) (hb : k + s.size ≤ 16777216) :
    Calls Tryz.prog 73 #[.pointer (some ⟨r, 0, none⟩), .int .i64 f, .int .i64 k, .string s] w fun e w' => e = .returned (.tuple #[]) ∧ ∃ a', RAf S r a' w w' ∧ Rel a' (wr st f k s.data.toList) ∧ a'.kl = a.kl ∧ a'.calls = a.calls := by
  by_cases h0 : 0 < s.size
  · exact (radd_any h hr f k s hf h0 hb).mono fun _ _ ⟨h1, h2, h3⟩ => ⟨h1, _, h2, h3, rfl, rfl⟩
  · have hse : s = ⟨#[]⟩ := by
      have : s.data.size = 0 := by have : s.data.size = s.size := rfl; omega
      cases s; congr; exact Array.eq_empty_of_size_eq_zero this
    subst hse
    refine (add_nil r f k w).mono ?_
    rintro e w' ⟨h1, rfl⟩
    refine ⟨h1, a, h.raf, ?_, rfl, rfl⟩
    unfold wr
    rw [if_pos rfl]
    exact hr

def comesS (st : St) (f a : Int) (s : List UInt8) : St :=
  if st.down = true ∨ st.calls = 0 then st else if st.calls = 1 then crash (if isF f = true ∧ 0 ≤ a ∧ a ≤ 16777216 ∧ a + s.length ≤ 16777216 then wr st f a.toNat s else st) st.keep else { st with calls := st.calls - 1 }

theorem crash_calls (X : St) (m : Int) (ks : List Int) (hd : X.down = false) : crash { X with calls := m } ks = crash X ks := by
  unfold crash
  have e : ({ X with calls := m } : St).down = false := hd
  rw [if_neg (show ¬ ({ X with calls := m } : St).down = true by rw [e]; simp), if_neg (show ¬ X.down = true by rw [hd]; simp)]
theorem wr_calls (X : St) (m : Int) (f : Int) (k : Nat) (s : List UInt8) : wr { X with calls := m } f k s = { wr X f k s with calls := m } := by
  unfold wr; split <;> rfl

set_option maxRecDepth 100000 in
set_option maxHeartbeats 4000000 in
theorem comes_any {S : Nat → Prop} {r : Nat} {fv qv kv : Value} {a : RS} {st : St} {w : World} (h : RIs S r fv qv kv a w) (hr : Rel a st) (f k : Int) (s : ByteArray) (hs : s.size ≤ 4611686018427387904) :
    Calls Tryz.prog 62 #[.pointer (some ⟨r, 0, none⟩), .int .i64 f, .int .i64 k, .string s] w (RPost S r (comesS st f k s.data.toList) w (.tuple #[])) := by
  obtain ⟨_, _, _, c3, c4, _⟩ := h.cell
  have hcb := hr.wf.calls
  rw [hr.down] at c3
  rw [hr.calls] at c4
  by_cases hd : st.down = true
  · have e : comesS st f k s.data.toList = st := by unfold comesS; rw [if_pos (.inl hd)]
    have HF : Hid (RPost S r (comesS st f k s.data.toList) w (.tuple #[]) (.returned (.tuple #[])) w) := by rw [e]; exact ⟨rfl, a, h.raf, hr⟩
    rw [hd] at c3
    clear h hr hd e
    go_enter Tryz.func62, Tryz.ntmps62
    go_wp2_with fail
    refine bodyPost_ret (results_none rfl _ _ _) rfl HF.out
  have hd' : st.down = false := by simpa using hd
  rw [hd'] at c3
  by_cases h0 : st.calls = 0
  · have e : comesS st f k s.data.toList = st := by unfold comesS; rw [if_pos (.inr h0)]
    have HF : Hid (RPost S r (comesS st f k s.data.toList) w (.tuple #[]) (.returned (.tuple #[])) w) := by rw [e]; exact ⟨rfl, a, h.raf, hr⟩
    rw [h0] at c4
    clear h hr hd hd' h0 hcb e
    go_enter Tryz.func62, Tryz.ntmps62
    go_wp2_with fail
    refine bodyPost_ret (results_none rfl _ _ _) rfl HF.out
  have f4 := h.froz 4
  have hno : ¬ (st.down = true ∨ st.calls = 0) := fun e => e.elim hd h0
  by_cases h1 : st.calls = 1
  · have hs1 := Lib.heap_setCell_same (i := 4) h.hd (.int .i64 0)
    have hri := h.nums' (lost := a.lost) (down := a.down) (calls := 0) (grownBy_setCell' w r 4 (.int .i64 0)) hs1
    have hraf : RAf S r { a with calls := 0 } w (w.setCell ⟨r, 4, none⟩ (.int .i64 0)) := h.nums (grownBy_setCell' w r 4 (.int .i64 0)) hs1
    have hwf1 : WF { st with calls := 0 } := ⟨hr.wf.nf, hr.wf.len, hr.wf.dl, hr.wf.q, hr.wf.nd, hr.wf.lost, by simp, hr.wf.keep⟩
    have hrel1 : Rel { a with calls := 0 } { st with calls := 0 } := ⟨hr.fl, hr.q, hr.lost, hr.down, rfl, fun h => absurd rfl h, hr.kb, hwf1⟩
    have hkl : a.kl = st.keep := hr.kl (by omega)
    have y4 : (w.setCell ⟨r, 4, none⟩ (.int .i64 0)).cell? ⟨r, 4, none⟩ = some (.int .i64 0) := by simp [World.cell?, hs1]
    rw [h1] at c4
    obtain ⟨w1, hw1⟩ : ∃ w1, w.setCell ⟨r, 4, none⟩ (.int .i64 0) = w1 := ⟨_, rfl⟩
    rw [hw1] at hraf hri y4
    have HRAF := Lib.hid hraf
    have HRI : Hid (RIs (Grew S w w1) r fv qv kv { a with calls := 0 } w1) := hri
    have HREL := Lib.hid hrel1
    have HKL := Lib.hid hkl
    have HKB := Lib.hid hr.kb
    have HCS : Hid (comesS st f k s.data.toList = crash (if isF f = true ∧ 0 ≤ k ∧ k ≤ 16777216 ∧ k + s.data.toList.length ≤ 16777216 then wr st f k.toNat s.data.toList else st) st.keep) := by
      unfold Hid comesS; rw [if_neg hno, if_pos h1]
    have hsz : s.data.toList.length = s.size := (Lib.size_eq s).symm
    have HSZ := Lib.hid hsz
    have HDD := Lib.hid hd'
    -- the crash at the end, from a world in which the list is as it was
    have HEND : Hid (∀ (a' : RS) (X : St) (w2 : World), RAf (Grew S w w1) r a' w1 w2 → Rel a' { X with calls := 0 } → a'.kl = a.kl → X.down = false → crash X st.keep = comesS st f k s.data.toList →
        ∃ kv', w2.cell? ⟨r, 5, none⟩ = some kv' ∧ (∃ ka kn kc, kv' = .slice ka kn kc) ∧ Calls Tryz.prog 21 #[.pointer (some ⟨r, 0, none⟩), kv'] w2 (fun e w3 => RPost S r (comesS st f k s.data.toList) w (.tuple #[]) e w3)) := by
      intro a' X w2 h2 hrel2 hk2 hXd hXe
      obtain ⟨⟨fv2, qv2, kv2, hri2⟩, hbut2⟩ := id h2
      have ho := hri2.ko
      obtain ⟨ka, kc, hkv, _, _⟩ := ho.shape
      refine ⟨kv2, hri2.cell.2.2.2.2.2, ⟨_, _, _, hkv⟩, ?_⟩
      have hi := Own.ints ho
      refine (rcrash_any hri2 hrel2 kv2 a'.kl hi.1 (by rw [hk2]; exact HKB.out) fun b hb e => hri2.rk (by rw [hi.2 b hb, e])).mono ?_
      rintro e w3 ⟨he, a3, h3, hrel3⟩
      refine ⟨he, a3, HRAF.out.trans (h2.trans h3), ?_⟩
      rw [crash_calls _ _ _ hXd, hk2, HKL.out, hXe] at hrel3
      exact hrel3
    clear h hr hd hd' h0 h1 hno hcb hs1 hri hraf hwf1 hrel1 hkl hsz
    by_cases hfit : isF f = true ∧ 0 ≤ k ∧ k ≤ 16777216 ∧ k + s.size ≤ 16777216
    · obtain ⟨hf, hk0, hk1, hk2⟩ := hfit
      have hfr := isF_t.1 hf
      obtain ⟨m, rfl⟩ : ∃ m : Nat, k = m := ⟨k.toNat, by omega⟩
      have HFT := Lib.hid (fun w => fits_any (m : Int) s hs w (b := true) (by simp; omega))
      have HAD := Lib.hid (radd2_any HRI.out HREL.out f m s hf (by omega))
      have HE2 : Hid (crash (wr st f m s.data.toList) st.keep = comesS st f m s.data.toList) := by
        unfold Hid; rw [HCS.out, if_pos ⟨hf, by omega, by omega, by rw [HSZ.out]; omega⟩]; rfl
      have g1 : ¬ f < 0 := by omega
      have g2 : ¬ 15 < f := by omega
      have g3 : f ≤ 15 := by omega
      have HF := Lib.hid hf
      clear hf
      go_enter Tryz.func62, Tryz.ntmps62
      go_wp2_with fail
      refine (HFT.out _).mono ?_
      rintro e w' ⟨rfl, rfl⟩
      go_wp2_with fail
      refine HAD.out.mono ?_
      rintro e w2 ⟨rfl, a', h2, hrel2, hk2', hc2'⟩
      have hrel2' : Rel a' { wr st f m s.data.toList with calls := 0 } := by rw [← wr_calls]; exact hrel2
      obtain ⟨kv', k5, ⟨ka, kn, kc, rfl⟩, hcr⟩ := HEND.out a' (wr st f m s.data.toList) w2 h2 hrel2' hk2' ((wr_same st f m s.data.toList).1.trans HDD.out) HE2.out
      have HCR := Lib.hid hcr
      clear h2 hrel2 hrel2' hk2' hc2' hcr
      go_wp2_with fail
      refine HCR.out.mono ?_
      rintro e w3 ⟨rfl, a3, h3, hrel3⟩
      have HFIN : Hid (RPost S r (comesS st f m s.data.toList) w (.tuple #[]) (.returned (.tuple #[])) w3) := ⟨rfl, a3, h3, hrel3⟩
      clear h3 hrel3
      go_wp2_with fail
      go_end0
      exact HFIN.out
    · have HE2 : Hid (crash st st.keep = comesS st f k s.data.toList) := by
        unfold Hid; rw [HCS.out, if_neg (by rw [HSZ.out]; exact hfit)]
      obtain ⟨kv', k5, ⟨ka, kn, kc, rfl⟩, hcr⟩ := HEND.out { a with calls := 0 } st w1 HRI.out.raf HREL.out rfl HDD.out HE2.out
      have HCR := Lib.hid hcr
      have hx : f < 0 ∨ (0 ≤ f ∧ 15 < f) ∨ ((0 ≤ f ∧ f ≤ 15) ∧ ¬ (0 ≤ k ∧ k ≤ 16777216 ∧ k + s.size ≤ 16777216)) := by
        by_cases e : isF f = true
        · have := isF_t.1 e
          exact .inr (.inr ⟨by omega, fun h => hfit ⟨e, h⟩⟩)
        · have := isF_f.1 (by simpa using e : isF f = false)
          omega
      clear hcr hfit
      rcases hx with hx | ⟨hx, hx2⟩ | ⟨⟨hx, hx2⟩, hx3⟩
      · go_enter Tryz.func62, Tryz.ntmps62
        go_wp2_with fail
        refine HCR.out.mono ?_
        rintro e w3 ⟨rfl, a3, h3, hrel3⟩
        have HFIN : Hid (RPost S r (comesS st f k s.data.toList) w (.tuple #[]) (.returned (.tuple #[])) w3) := ⟨rfl, a3, h3, hrel3⟩
        clear h3 hrel3
        go_wp2_with fail
        go_end0
        exact HFIN.out
      · go_enter Tryz.func62, Tryz.ntmps62
        go_wp2_with fail
        refine HCR.out.mono ?_
        rintro e w3 ⟨rfl, a3, h3, hrel3⟩
        have HFIN : Hid (RPost S r (comesS st f k s.data.toList) w (.tuple #[]) (.returned (.tuple #[])) w3) := ⟨rfl, a3, h3, hrel3⟩
        clear h3 hrel3
        go_wp2_with fail
        go_end0
        exact HFIN.out
      · have HFT := Lib.hid (fun w => fits_any k s hs w (b := false) (by simpa using hx3))
        clear hx3
        go_enter Tryz.func62, Tryz.ntmps62
        go_wp2_with fail
        refine (HFT.out _).mono ?_
        rintro e w' ⟨rfl, rfl⟩
        go_wp2_with fail
        refine HCR.out.mono ?_
        rintro e w3 ⟨rfl, a3, h3, hrel3⟩
        have HFIN : Hid (RPost S r (comesS st f k s.data.toList) w (.tuple #[]) (.returned (.tuple #[])) w3) := ⟨rfl, a3, h3, hrel3⟩
        clear h3 hrel3
        go_wp2_with fail
        go_end0
        exact HFIN.out
  · obtain ⟨n, hn⟩ : ∃ n, st.calls = n := ⟨_, rfl⟩
    have e : comesS st f k s.data.toList = { st with calls := n - 1 } := by unfold comesS; rw [if_neg hno, if_neg h1, hn]
    have hs1 := Lib.heap_setCell_same (i := 4) h.hd (.int .i64 (n - 1))
    have HF : Hid (RPost S r (comesS st f k s.data.toList) w (.tuple #[]) (.returned (.tuple #[])) (w.setCell ⟨r, 4, none⟩ (.int .i64 (n - 1)))) := by
      rw [e]
      refine ⟨rfl, { a with calls := n - 1 }, h.nums (grownBy_setCell' _ _ _ _) hs1, hr.fl, hr.q, hr.lost, hr.down, rfl, fun _ => hr.kl h0, hr.kb, ?_⟩
      exact ⟨hr.wf.nf, hr.wf.len, hr.wf.dl, hr.wf.q, hr.wf.nd, hr.wf.lost, by rw [← hn]; have := hr.wf.calls; simp; omega, hr.wf.keep⟩
    have y4 : (w.setCell ⟨r, 4, none⟩ (.int .i64 (n - 1))).cell? ⟨r, 4, none⟩ = some (.int .i64 (n - 1)) := by simp [World.cell?, hs1]
    rw [hn] at c4 h0 h1 hcb
    have g0 : (n == 0) = false := by simpa using h0
    have g1 : decide (n = 0) = false := by simpa using h0
    have hn2 : 0 < n - 1 := by omega
    clear h hr hd hd' h0 h1 hno e hs1 hn
    go_enter Tryz.func62, Tryz.ntmps62
    go_wp2_with fail
    go_end0
    exact HF.out
end Go.Proofs.YtejddacjncpneaaGreatDoor.Di
