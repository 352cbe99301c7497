/- The contract of Read. -/
import Derived.Test.YtkphmkhdlkdphaaD4
namespace Go.Proofs.Ytkphmkhdlkdphaa
open Go.RowKit

def Nothing : Nat → Prop := fun _ => False
theorem but_drewN (w : World) (n : Nat) : But Nothing w (w.drewN n) := ⟨rfl, rfl, rfl, Nat.le_refl _, fun _ _ _ => rfl⟩

/-- What a call of Read returns. -/
def Reads (w : World) (s : List UInt8) (r : Int) (e : Ending) (w' : World) : Prop := e = .returned (.tuple #[.string ⟨s.toArray⟩, .int .i64 r]) ∧ But Nothing w w'

theorem read_err {S : Nat → Prop} {p : Rep} {st : St} {w : World} (h : IsD S p st w) (f a n : Int) (_hf : -9223372036854775808 ≤ f ∧ f ≤ 9223372036854775807) (ha : -9223372036854775808 ≤ a ∧ a ≤ 9223372036854775807) (_hn : -9223372036854775808 ≤ n ∧ n ≤ 9223372036854775807)
    (hx : st.down = true ∨ isF f = false ∨ a < 0 ∨ n < 0) :
    Calls Try.prog 20 #[.pointer (some ⟨p.r, 0, none⟩), .int .i64 f, .int .i64 a, .int .i64 n] w (Reads w (readS st f a n) (readR st f a n)) := by
  obtain ⟨c0, c1, c2, c3, c4, c5, c6, c7⟩ := h.cell
  have HS : Hid (readS st f a n = []) := by unfold Hid readS; rw [if_pos hx]
  clear c0 c1 c2 c3 c5 c6 c7 h
  by_cases hd : st.down = true
  · have HC : Hid (readR st f a n = 8) := by unfold Hid readR; rw [if_pos hd]
    rw [hd] at c4
    clear hd hx
    go_enter Try.func20, Try.ntmps20
    go_wp2
    go_ret2
    unfold Reads
    rw [HC.out, HS.out]
    exact ⟨rfl, But.refl _ _⟩
  · have hd' : st.down = false := by simpa using hd
    have HC : Hid (readR st f a n = 1) := by
      unfold Hid readR
      rw [if_neg hd, if_pos]
      rcases hx with h | h | h
      · exact absurd h hd
      · exact .inl h
      · exact .inr h
    by_cases h1 : isF f = false
    · have HF := Lib.hid h1
      rw [hd'] at c4
      clear hd hd' h1 hx
      go_enter Try.func20, Try.ntmps20
      go_wp2_with (go_at_call 45; refine (isFile_f f HF.out _).mono ?_; rintro e w' ⟨rfl, rfl⟩)
      go_ret2
      unfold Reads
      rw [HC.out, HS.out]
      exact ⟨rfl, But.refl _ _⟩
    · have h1' : isF f = true := by simpa using h1
      have HF := Lib.hid h1'
      by_cases h2 : a < 0
      · rw [hd'] at c4
        clear hd hd' h1 h1' hx
        go_enter Try.func20, Try.ntmps20
        go_wp2_with (go_at_call 45; refine (isFile_t f HF.out _).mono ?_; rintro e w' ⟨rfl, rfl⟩)
        go_ret2
        unfold Reads
        rw [HC.out, HS.out]
        exact ⟨rfl, But.refl _ _⟩
      · have h2' : decide (a < 0) = false := by simpa using h2
        have h20 : 0 ≤ a := by omega
        have h3 : n < 0 := by
          rcases hx with h | h | h | h
          · exact absurd h hd
          · exact absurd h h1
          · exact absurd h h2
          · exact h
        rw [hd'] at c4
        clear hd hd' h1 h1' hx h2
        go_enter Try.func20, Try.ntmps20
        go_wp2_with (go_at_call 45; refine (isFile_t f HF.out _).mono ?_; rintro e w' ⟨rfl, rfl⟩)
        go_ret2
        unfold Reads
        rw [HC.out, HS.out]
        exact ⟨rfl, But.refl _ _⟩

theorem read_ok {S : Nat → Prop} {p : Rep} {st : St} {w : World} (h : IsD S p st w) (f : Int) (a n : Nat) (hd : st.down = false) (hf : isF f = true) (ha : (a : Int) ≤ 9223372036854775807) (hn : (n : Int) ≤ 9223372036854775807) :
    Calls Try.prog 20 #[.pointer (some ⟨p.r, 0, none⟩), .int .i64 f, .int .i64 a, .int .i64 n] w (Reads w (((st.now f).drop a).take n) 0) := by
  obtain ⟨c0, c1, c2, c3, c4, c5, c6, c7⟩ := h.cell
  have hfr := isF_t.1 hf
  have hlen := h.wf.len f
  obtain ⟨ad, cap, h1, ho, hbl, hc1, hc2⟩ := h.lookF f (by omega)
  have hsz : ∀ m, Calls Try.prog 16 #[.pointer (some ⟨p.r, 0, none⟩), .int .i64 f] (w.drewN m) fun e w' => e = .returned (.int .i64 (st.now f).length) ∧ w' = w.drewN m := fun m =>
    (size_any (h.kept (w' := w.drewN m) fun _ _ _ => rfl) f (by omega)).mono fun _ _ ⟨h1, h2⟩ => ⟨h1, h2.symm⟩
  have hrun : ∀ m, (Instr.lookup 52 (.map (some p.fm)) (.int .i64 f) false).run Try.prog (w.drewN m) = .ok (.slice ad (st.now f).length cap) (w.drewN m) := fun m => h1 _ rfl
  have HF := Lib.hid hf
  rw [hd] at c4
  have hcv : ∀ q k m c, k + m ≤ (st.now f).length → (convert 62 9 (.slice (if cap = k then ad else ad.map (·.add (k * 1))) m c)).run Try.prog (w.drewN q) = .ok (.string ⟨(((st.now f).drop k).take m).toArray⟩) (w.drewN q) := by
    intro q k m c hkm
    have hd : OwnB (w.drewN q) (.slice ad (st.now f).length cap) (st.now f) := ho.kept fun _ _ => rfl
    exact own_string (P := Try.prog) (ts := 5) (tb := 62) (td := 9) Try.underlying62 Try.underlying5 Try.underlying9 hd k m c hkm
  obtain ⟨l, hl⟩ : ∃ l, (st.now f).length = l := ⟨_, rfl⟩
  have HL := Lib.hid hl
  rw [hl] at hlen hc1 hrun hsz hcv
  have HSZ := Lib.hid hsz
  have HV := Lib.hid hcv
  clear c1 c2 c3 c5 c6 c7 h hd hf h1 hsz hcv hbl ho hl
  by_cases hal : a ≤ l
  · obtain ⟨m, hm⟩ : ∃ m, min n (l - a) = m := ⟨_, rfl⟩
    have hs : ((st.now f).drop a).take n = ((st.now f).drop a).take m := by
      by_cases h2 : n ≤ l - a
      · rw [← hm, Nat.min_eq_left h2]
      · rw [← hm, Nat.min_eq_right (by omega), List.take_of_length_le (by rw [List.length_drop, HL.out]; omega), List.take_of_length_le (by rw [List.length_drop, HL.out]; omega)]
    rw [hs]
    clear hs
    by_cases hcap : cap = a
    · subst hcap
      by_cases h2 : n ≤ l - cap
      · obtain rfl : n = m := by omega
        have hcv : ∀ q, (convert 62 9 (.slice ad n 0)).run Try.prog (w.drewN q) = .ok (.string ⟨(((st.now f).drop cap).take n).toArray⟩) (w.drewN q) := fun q => by have := HV.out q cap n 0 (by omega); rwa [if_pos rfl] at this
        clear hm
        go_enter Try.func20, Try.ntmps20
        go_wp2_with (go_at_call 45; refine (isFile_t f HF.out _).mono ?_; rintro e w' ⟨rfl, rfl⟩)
        go_quiet ((go_at_call 16; exact Calls.quiet_of_same (HSZ.out _)))
        go_wp2_with fail
        go_ret2
        exact ⟨rfl, but_drewN _ _⟩
      · obtain rfl : l - cap = m := by omega
        have hcv : ∀ q, (convert 62 9 (.slice ad 0 0)).run Try.prog (w.drewN q) = .ok (.string ⟨(((st.now f).drop cap).take (l - cap)).toArray⟩) (w.drewN q) := fun q => by have := HV.out q cap (l - cap) 0 (by omega); rw [if_pos rfl, show l - cap = 0 by omega] at this; rw [show l - cap = 0 by omega]; exact this
        clear hm
        rw [show ((st.now f).drop cap).take (l - cap) = [] from by rw [show l - cap = 0 by omega, List.take_zero]]
        go_enter Try.func20, Try.ntmps20
        go_wp2_with (go_at_call 45; refine (isFile_t f HF.out _).mono ?_; rintro e w' ⟨rfl, rfl⟩)
        go_quiet ((go_at_call 16; exact Calls.quiet_of_same (HSZ.out _)))
        go_wp2_with fail
        go_ret2
        exact ⟨rfl, but_drewN _ _⟩
    · by_cases h2 : n ≤ l - a
      · obtain rfl : n = m := by omega
        have hcv : ∀ q, (convert 62 9 (.slice (Option.map ((fun x => x) ∘ fun x => x.add a) ad) n (cap - a))).run Try.prog (w.drewN q) = .ok (.string ⟨(((st.now f).drop a).take n).toArray⟩) (w.drewN q) := fun q => by have := HV.out q a n (cap - a) (by omega); rw [if_neg hcap, Nat.mul_one] at this; exact this
        clear hm
        go_enter Try.func20, Try.ntmps20
        go_wp2_with (go_at_call 45; refine (isFile_t f HF.out _).mono ?_; rintro e w' ⟨rfl, rfl⟩)
        go_quiet ((go_at_call 16; exact Calls.quiet_of_same (HSZ.out _)))
        go_wp2_with fail
        go_ret2
        exact ⟨rfl, but_drewN _ _⟩
      · obtain rfl : l - a = m := by omega
        have hcv : ∀ q, (convert 62 9 (.slice (Option.map ((fun x => x) ∘ fun x => x.add a) ad) (l - a) (cap - a))).run Try.prog (w.drewN q) = .ok (.string ⟨(((st.now f).drop a).take (l - a)).toArray⟩) (w.drewN q) := fun q => by have := HV.out q a (l - a) (cap - a) (by omega); rw [if_neg hcap, Nat.mul_one] at this; exact this
        clear hm
        go_enter Try.func20, Try.ntmps20
        go_wp2_with (go_at_call 45; refine (isFile_t f HF.out _).mono ?_; rintro e w' ⟨rfl, rfl⟩)
        go_quiet ((go_at_call 16; exact Calls.quiet_of_same (HSZ.out _)))
        go_wp2_with fail
        go_ret2
        exact ⟨rfl, but_drewN _ _⟩
  · have hs : ((st.now f).drop a).take n = ((st.now f).drop l).take 0 := by
      rw [List.take_zero, List.drop_eq_nil_of_le (by rw [HL.out]; omega), List.take_nil]
    rw [hs]
    clear hs
    rcases Nat.eq_zero_or_pos n with rfl | hn0
    all_goals
      by_cases hcap : cap = l
      · subst hcap
        have hcv : ∀ q, (convert 62 9 (.slice ad 0 0)).run Try.prog (w.drewN q) = .ok (.string ⟨(((st.now f).drop cap).take 0).toArray⟩) (w.drewN q) := fun q => by have := HV.out q cap 0 0 (by omega); rwa [if_pos rfl] at this
        go_enter Try.func20, Try.ntmps20
        go_wp2_with (go_at_call 45; refine (isFile_t f HF.out _).mono ?_; rintro e w' ⟨rfl, rfl⟩)
        go_quiet ((go_at_call 16; exact Calls.quiet_of_same (HSZ.out _)))
        go_wp2_with fail
        all_goals
          go_ret2
          exact ⟨rfl, but_drewN _ _⟩
      · have hcv : ∀ q, (convert 62 9 (.slice (Option.map ((fun x => x) ∘ fun x => x.add l) ad) 0 (cap - l))).run Try.prog (w.drewN q) = .ok (.string ⟨(((st.now f).drop l).take 0).toArray⟩) (w.drewN q) := fun q => by have := HV.out q l 0 (cap - l) (by omega); rw [if_neg hcap, Nat.mul_one] at this; exact this
        go_enter Try.func20, Try.ntmps20
        go_wp2_with (go_at_call 45; refine (isFile_t f HF.out _).mono ?_; rintro e w' ⟨rfl, rfl⟩)
        go_quiet ((go_at_call 16; exact Calls.quiet_of_same (HSZ.out _)))
        go_wp2_with fail
        all_goals
          go_ret2
          exact ⟨rfl, but_drewN _ _⟩

theorem read_any {S : Nat → Prop} {p : Rep} {st : St} {w : World} (h : IsD S p st w) (f a n : Int) (hf : -9223372036854775808 ≤ f ∧ f ≤ 9223372036854775807) (ha : -9223372036854775808 ≤ a ∧ a ≤ 9223372036854775807) (hn : -9223372036854775808 ≤ n ∧ n ≤ 9223372036854775807) :
    Calls Try.prog 20 #[.pointer (some ⟨p.r, 0, none⟩), .int .i64 f, .int .i64 a, .int .i64 n] w (Reads w (readS st f a n) (readR st f a n)) := by
  by_cases hx : st.down = true ∨ isF f = false ∨ a < 0 ∨ n < 0
  · exact read_err h f a n hf ha hn hx
  · have h1 : st.down = false := by cases e : st.down <;> simp_all
    have h2 : isF f = true := by cases e : isF f <;> simp_all
    have h3 : 0 ≤ a ∧ 0 ≤ n := by
      have : ¬ a < 0 := fun e => hx (.inr (.inr (.inl e)))
      have : ¬ n < 0 := fun e => hx (.inr (.inr (.inr e)))
      omega
    obtain ⟨a, rfl⟩ : ∃ k : Nat, a = k := ⟨a.toNat, by omega⟩
    obtain ⟨n, rfl⟩ : ∃ k : Nat, n = k := ⟨n.toNat, by omega⟩
    have e1 : readS st f a n = ((st.now f).drop a).take n := by unfold readS; rw [if_neg hx]; simp
    have e2 : readR st f a n = 0 := by
      unfold readR
      rw [if_neg (by simp [h1]), if_neg (fun e => hx (.inr e))]
    rw [e1, e2]
    exact read_ok h f a n h1 h2 ha.2 hn.2
end Go.Proofs.Ytkphmkhdlkdphaa
