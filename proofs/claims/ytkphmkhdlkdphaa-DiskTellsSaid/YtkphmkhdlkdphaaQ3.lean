/- Plain mathematics of DiskArms. -/
import Derived.Test.YtkphmkhdlkdphaaQ2
namespace Go.Proofs.Ytkphmkhdlkdphaa

def armed (st : St) (m : Int) (ks : List Int) : St := { st with calls := m, keep := ks }
theorem crash_armed {X : St} (m : Int) (ks ls : List Int) (hd : X.down = false) : crash (armed X m ks) ls = crash X ls := by
  unfold crash
  have e : (armed X m ks).down = false := hd
  rw [if_neg (by simp [e]), if_neg (by simp [hd])]
  rfl
theorem armed_more {X : St} {m : Int} {ks : List Int} (hd : X.down = false) (hm : 2 ≤ m) : goes (armed X m ks) = armed X (m - 1) ks := by
  unfold goes
  have h1 : ¬ ((armed X m ks).down = true ∨ (armed X m ks).calls = 0) := by
    rintro (h | h)
    · have : (armed X m ks).down = X.down := rfl
      rw [this, hd] at h; cases h
    · have : (armed X m ks).calls = m := rfl
      omega
  have h2 : ¬ (armed X m ks).calls = 1 := by
    have : (armed X m ks).calls = m := rfl
    omega
  rw [if_neg h1, if_neg h2]
  rfl
theorem armed_one {X : St} {ks : List Int} (hd : X.down = false) : goes (armed X 1 ks) = crash X ks := by
  unfold goes
  have h1 : ¬ ((armed X 1 ks).down = true ∨ (armed X 1 ks).calls = 0) := by
    rintro (h | h)
    · have : (armed X 1 ks).down = X.down := rfl
      rw [this, hd] at h; cases h
    · have : (armed X 1 ks).calls = 1 := rfl
      omega
  rw [if_neg h1, if_pos (show (armed X 1 ks).calls = 1 from rfl)]
  exact crash_armed _ _ _ hd
theorem crash_down (X : St) (ks : List Int) : (crash X ks).down = true := by
  unfold crash
  split
  · assumption
  · rfl
theorem armed_chk (X : St) (m : Int) (ks : List Int) (f a : Int) (n : Nat) : chk (armed X m ks) f a n = chk X f a n := rfl
theorem armed_wr (X : St) (m : Int) (ks : List Int) (f : Int) (a : Nat) (s : List UInt8) : wr (armed X m ks) f a s = armed (wr X f a s) m ks := by
  unfold wr; split <;> rfl
def perf (X : St) (f a : Int) (s : List UInt8) : St := if chk X f a s.length = 0 then wr X f a.toNat s else X
theorem write_perf (X : St) (f a : Int) (s : List UInt8) : write X f a s = goes (perf X f a s) := rfl
theorem perf_same (X : St) (f a : Int) (s : List UInt8) : (perf X f a s).down = X.down ∧ (perf X f a s).calls = X.calls := by
  unfold perf; split
  · exact ⟨(wr_same _ _ _ _).1, (wr_same _ _ _ _).2.1⟩
  · exact ⟨rfl, rfl⟩
theorem perf_armed (X : St) (m : Int) (ks : List Int) (f a : Int) (s : List UInt8) : perf (armed X m ks) f a s = armed (perf X f a s) m ks := by
  unfold perf
  rw [armed_chk]
  split
  · exact armed_wr _ _ _ _ _ _
  · rfl
theorem write_more {X : St} {m : Int} {ks : List Int} (hc : X.calls = 0) (hd : X.down = false) (hm : 2 ≤ m) (f a : Int) (s : List UInt8) :
    write (armed X m ks) f a s = armed (write X f a s) (m - 1) ks ∧ writeR (armed X m ks) f a s = writeR X f a s ∧ (write X f a s).calls = 0 ∧ (write X f a s).down = false := by
  obtain ⟨p1, p2⟩ := perf_same X f a s
  have e0 : write X f a s = perf X f a s := by rw [write_perf]; exact goes_zero (p2.trans hc)
  have e1 : write (armed X m ks) f a s = armed (write X f a s) (m - 1) ks := by
    rw [write_perf, perf_armed, armed_more (p1.trans hd) hm, e0]
  refine ⟨e1, ?_, by rw [e0]; exact p2.trans hc, by rw [e0]; exact p1.trans hd⟩
  unfold writeR
  rw [e1]
  rfl
theorem write_one' {X : St} {ks : List Int} (hc : X.calls = 0) (hd : X.down = false) (f a : Int) (s : List UInt8) :
    write (armed X 1 ks) f a s = crash (write X f a s) ks ∧ writeR (armed X 1 ks) f a s = 8 := by
  obtain ⟨p1, p2⟩ := perf_same X f a s
  have e0 : write X f a s = perf X f a s := by rw [write_perf]; exact goes_zero (p2.trans hc)
  have e1 : write (armed X 1 ks) f a s = crash (write X f a s) ks := by
    rw [write_perf, perf_armed, armed_one (p1.trans hd), e0]
  refine ⟨e1, ?_⟩
  unfold writeR
  rw [e1, if_pos (crash_down _ _)]
theorem sync_more {X : St} {m : Int} {ks : List Int} (hc : X.calls = 0) (hd : X.down = false) (hm : 2 ≤ m) (f : Int) :
    sync (armed X m ks) f = armed (sync X f) (m - 1) ks ∧ syncR (armed X m ks) f = syncR X f ∧ (sync X f).calls = 0 ∧ (sync X f).down = false := by
  have g0 := goes_zero hc
  have g1 := armed_more (ks := ks) hd hm
  unfold sync syncR
  rw [g0, g1]
  have d1 : (armed X (m - 1) ks).down = X.down := rfl
  have d2 : (armed X (m - 1) ks).lost = X.lost := rfl
  rw [d1, d2]
  refine ⟨?_, rfl, ?_, ?_⟩
  · split
    · rfl
    · split <;> rfl
  · split
    · exact hc
    · split
      · exact hc
      · exact hc
  · split
    · exact hd
    · split
      · exact hd
      · exact hd
theorem sync_one' {X : St} {ks : List Int} (hd : X.down = false) (f : Int) : sync (armed X 1 ks) f = crash X ks ∧ syncR (armed X 1 ks) f = 8 := by
  have g1 := armed_one (ks := ks) hd
  unfold sync syncR
  rw [g1, if_pos (.inl (crash_down _ _)), if_pos (crash_down _ _)]
  exact ⟨rfl, rfl⟩
theorem trunc_more {X : St} {m : Int} {ks : List Int} (hc : X.calls = 0) (hd : X.down = false) (hm : 2 ≤ m) (f n : Int) :
    trunc (armed X m ks) f n = armed (trunc X f n) (m - 1) ks ∧ truncR (armed X m ks) f n = truncR X f n ∧ (trunc X f n).calls = 0 ∧ (trunc X f n).down = false := by
  have g0 := goes_zero hc
  have g1 := armed_more (ks := ks) hd hm
  unfold trunc truncR
  rw [g0, g1]
  have d1 : (armed X (m - 1) ks).down = X.down := rfl
  have d2 : (armed X (m - 1) ks).now = X.now := rfl
  rw [d1, d2]
  refine ⟨?_, rfl, ?_, ?_⟩
  · split <;> rfl
  · split <;> exact hc
  · split <;> exact hd
theorem trunc_one' {X : St} {ks : List Int} (hd : X.down = false) (f n : Int) : trunc (armed X 1 ks) f n = crash X ks ∧ truncR (armed X 1 ks) f n = 8 := by
  have g1 := armed_one (ks := ks) hd
  unfold trunc truncR
  rw [g1, if_pos (.inl (crash_down _ _)), if_pos (crash_down _ _)]
  exact ⟨rfl, rfl⟩
theorem goes_dn {X : St} (h : X.down = true) : goes X = X := by unfold goes; rw [if_pos (.inl h)]
theorem write_dn {X : St} (h : X.down = true) (f a : Int) (s : List UInt8) : write X f a s = X ∧ writeR X f a s = 8 := by
  have hk : ¬ chk X f a s.length = 0 := by unfold chk; rw [if_pos h]; decide
  have e : write X f a s = X := by unfold write; rw [if_neg hk]; exact goes_dn h
  refine ⟨e, ?_⟩
  unfold writeR
  rw [e, if_pos h]
theorem sync_dn {X : St} (h : X.down = true) (f : Int) : sync X f = X ∧ syncR X f = 8 := by
  unfold sync syncR
  rw [goes_dn h, if_pos (.inl h), if_pos h]
  exact ⟨rfl, rfl⟩
theorem trunc_dn {X : St} (h : X.down = true) (f n : Int) : trunc X f n = X ∧ truncR X f n = 8 := by
  unfold trunc truncR
  rw [goes_dn h, if_pos (.inl h), if_pos h]
  exact ⟨rfl, rfl⟩
end Go.Proofs.Ytkphmkhdlkdphaa
