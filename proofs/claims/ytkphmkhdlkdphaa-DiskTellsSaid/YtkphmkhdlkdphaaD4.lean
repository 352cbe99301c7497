/- The contracts of checkWrite, bytes and Read. -/
import Derived.Test.YtkphmkhdlkdphaaD3
import Derived.Deep.RegionHeld3
import Derived.Deep.DrawnRows
namespace Go.Proofs.Ytkphmkhdlkdphaa
open Go.RowKit

theorem check_any {S : Nat → Prop} {p : Rep} {st : St} {w : World} (h : IsD S p st w) (f a : Int) (n : Nat) (_hf : -9223372036854775808 ≤ f ∧ f ≤ 9223372036854775807) (ha : -9223372036854775808 ≤ a ∧ a ≤ 9223372036854775807) (hn : n ≤ 4611686018427387904) :
    Calls Try.prog 51 #[.pointer (some ⟨p.r, 0, none⟩), .int .i64 f, .int .i64 a, .int .i64 n] w fun e w' => e = .returned (.int .i64 (chk st f a n)) ∧ w = w' := by
  obtain ⟨c0, c1, c2, c3, c4, c5, c6, c7⟩ := h.cell
  clear c0 c1 c2 c3 c5 c6 c7 h
  by_cases hd : st.down = true
  · have HC : Hid (chk st f a n = 8) := by unfold Hid chk; rw [if_pos hd]
    rw [hd] at c4
    clear hd
    go_enter Try.func51, Try.ntmps51
    go_wp2
    go_ret
    rw [HC.out]
    exact ⟨rfl, rfl⟩
  · have hd' : st.down = false := by simpa using hd
    by_cases h1 : isF f = false
    · have HC : Hid (chk st f a n = 1) := by unfold Hid chk; rw [if_neg hd, if_pos (.inl h1)]
      have HF := Lib.hid h1
      rw [hd'] at c4
      clear hd hd' h1
      go_enter Try.func51, Try.ntmps51
      go_wp2_with (go_at_call 45; refine (isFile_f f HF.out _).mono ?_; rintro e w' ⟨rfl, rfl⟩)
      go_ret
      rw [HC.out]
      exact ⟨rfl, rfl⟩
    · have h1' : isF f = true := by simpa using h1
      have HF := Lib.hid h1'
      by_cases h2 : a < 0
      · have HC : Hid (chk st f a n = 1) := by unfold Hid chk; rw [if_neg hd, if_pos (.inr h2)]
        rw [hd'] at c4
        clear hd hd' h1 h1'
        go_enter Try.func51, Try.ntmps51
        go_wp2_with (go_at_call 45; refine (isFile_t f HF.out _).mono ?_; rintro e w' ⟨rfl, rfl⟩)
        go_ret
        rw [HC.out]
        exact ⟨rfl, rfl⟩
      · have h2' : decide (a < 0) = false := by simpa using h2
        have h3 : ¬ (isF f = false ∨ a < 0) := by rintro (h | h) <;> contradiction
        have h20 : 0 ≤ a := by omega
        by_cases h4 : a > 16777216 - (n : Int)
        · have HC : Hid (chk st f a n = 6) := by unfold Hid chk; rw [if_neg hd, if_neg h3, if_pos h4]
          rw [hd'] at c4
          clear hd hd' h1 h1' h3 h2
          go_enter Try.func51, Try.ntmps51
          go_wp2_with (go_at_call 45; refine (isFile_t f HF.out _).mono ?_; rintro e w' ⟨rfl, rfl⟩)
          go_ret
          rw [HC.out]
          exact ⟨rfl, rfl⟩
        · have HC : Hid (chk st f a n = 0) := by unfold Hid chk; rw [if_neg hd, if_neg h3, if_neg h4]
          rw [hd'] at c4
          clear hd hd' h1 h1' h3 h2
          go_enter Try.func51, Try.ntmps51
          go_wp2_with (go_at_call 45; refine (isFile_t f HF.out _).mono ?_; rintro e w' ⟨rfl, rfl⟩)
          go_ret
          rw [HC.out]
          exact ⟨rfl, rfl⟩

/-- The bytes of a pending sector. -/
theorem bytes_any {S : Nat → Prop} {p : Rep} {st : St} {w : World} (h : IsD S p st w) (f : Int) (n : Nat) (hf : isF f = true) (hn : 64 * n < (st.now f).length) :
    Calls Try.prog 50 #[.pointer (some ⟨p.r, 0, none⟩), .agg #[.int .i64 f, .int .i64 n]] w fun e w' => e = .returned (.string ⟨(chunk (st.now f) n).toArray⟩) ∧ Below w.heap.size w w' := by
  obtain ⟨c0, c1, c2, c3, c4, c5, c6, c7⟩ := h.cell
  have hlt := h.lt (s := .r) rfl
  have hlen := h.wf.len f
  have hfr := isF_t.1 hf
  have hg1 : w.grownBy (w.alloc (.cells #[.int .i64 f, .int .i64 n] 69)) none := World.grownBy_alloc _ _ _
  obtain ⟨a, cap, h1, ho, hbl, hc1, hc2⟩ := (h.grown hg1).lookF f (by omega)
  have hrun : ∀ m, (Instr.lookup 52 (.map (some p.fm)) (.int .i64 f) false).run Try.prog ((w.alloc (.cells #[.int .i64 f, .int .i64 n] 69)).drewN m) = .ok (.slice a (st.now f).length cap) ((w.alloc (.cells #[.int .i64 f, .int .i64 n] 69)).drewN m) := fun m => h1 _ rfl
  have hcv : ∀ m k, 64 * n + k ≤ (st.now f).length → (convert 62 9 (.slice (Option.map ((fun x => x) ∘ fun x => x.add (n * 64)) a) k (cap - n * 64))).run Try.prog ((w.alloc (.cells #[.int .i64 f, .int .i64 n] 69)).drewN m) = .ok (.string ⟨(((st.now f).drop (64 * n)).take k).toArray⟩) ((w.alloc (.cells #[.int .i64 f, .int .i64 n] 69)).drewN m) := by
    intro m k hk
    have hd : OwnB ((w.alloc (.cells #[.int .i64 f, .int .i64 n] 69)).drewN m) (.slice a (st.now f).length cap) (st.now f) := ho.kept fun _ _ => rfl
    have := own_string (P := Try.prog) (ts := 5) (tb := 62) (td := 9) Try.underlying62 Try.underlying5 Try.underlying9 hd (64 * n) k (cap - n * 64) (by omega)
    rw [if_neg (by omega), Nat.mul_one, Nat.mul_comm 64 n] at this
    rw [Nat.mul_comm 64 n]
    exact this
  have hch : chunk (st.now f) n = ((st.now f).drop (64 * n)).take (min 64 ((st.now f).length - n * 64)) := by
    unfold chunk
    by_cases h64 : 64 ≤ (st.now f).length - n * 64
    · rw [Nat.min_eq_left h64]
    · rw [Nat.min_eq_right (by omega), List.take_of_length_le (by rw [List.length_drop]; omega), List.take_of_length_le (by rw [List.length_drop]; omega)]
  obtain ⟨l, hl⟩ : ∃ l, (st.now f).length = l := ⟨_, rfl⟩
  rw [hl] at hn hlen hc1 hrun hcv hch
  have HCH := Lib.hid hch
  clear c1 c2 c3 c4 c5 c6 c7 hbl ho hl hg1 h hf h1 hch
  by_cases h64 : 64 ≤ l - n * 64
  · have hc64 := fun m => hcv m 64 (by omega)
    rw [Nat.min_eq_left h64] at HCH
    clear hcv
    go_enter Try.func50, Try.ntmps50
    go_wp2_with fail
    go_quiet (fail)
    go_wp2_with fail
    go_ret
    rw [HCH.out]
    exact ⟨rfl, below_drewN ((Below.refl _ _).alloc (Nat.le_refl _) _)⟩
  · have hc64 := fun m => hcv m (l - n * 64) (by omega)
    rw [Nat.min_eq_right (by omega)] at HCH
    clear hcv
    go_enter Try.func50, Try.ntmps50
    go_wp2_with fail
    go_quiet (fail)
    go_wp2_with fail
    go_ret
    rw [HCH.out]
    exact ⟨rfl, below_drewN ((Below.refl _ _).alloc (Nat.le_refl _) _)⟩
end Go.Proofs.Ytkphmkhdlkdphaa
