/- The contracts of the reference's writers. -/
import Derived.Outline
import Derived.Laws.IdiomStrings
import Derived.Test.YtpcdogbioopdgaaDoorS
namespace Go.Proofs.YtpcdogbioopdgaaDoor
open Go.RowKit Go.Sort

theorem conv_digit (u : Nat) (c : UInt8) (e : (c.toNat : Int) = 48 + (u : Int) % 10) (w : World) : (convert 63 9 (.slice (some ⟨w.heap.size, 0, none⟩) 1 1)).run Tryd.prog (w.alloc (.cells #[.int .u8 (48 + (u : Int) % 10)] 5)) =
    .ok (.string ⟨#[c]⟩) (w.alloc (.cells #[.int .u8 (48 + (u : Int) % 10)] 5)) := by
  refine run_convert_bytes_back (w.alloc (.cells #[.int .u8 (48 + (u : Int) % 10)] 5)) 63 9 5 ⟨w.heap.size, 0, none⟩ 1 [c] Tryd.underlying63 Tryd.underlying5 Tryd.underlying9 (fun j hj => ?_)
  match j, hj with
  | 0, _ => simp only [List.getElem_cons_zero]; rw [e]; simp [Addr.add]
theorem digit_of (u : Nat) : ∃ c : UInt8, (c.toNat : Int) = 48 + (u : Int) % 10 ∧ UInt8.ofNat (48 + u % 10) = c := ⟨_, by simp; omega, rfl⟩

set_option maxRecDepth 100000 in
set_option maxHeartbeats 1000000 in
theorem digits_any (k : Nat) : ∀ (u : Nat) (w : World), u ≤ k → u ≤ 9223372036854775808 →
    Calls Tryd.prog 45 #[.int .i64 (-(u : Int))] w (Gives (.string ⟨(Lib.decDigits u).toArray⟩) w) := by
  induction k with
  | zero =>
    intro u w hk hu
    have h10 : u < 10 := by omega
    obtain ⟨c, hcn, hcu⟩ := digit_of u
    have hd : Hid (Lib.decDigits u = [c]) := by unfold Hid; rw [Lib.decDigits_one h10, ← hcu, Nat.mod_eq_of_lt h10]
    have hc := conv_digit u c hcn w
    clear hcn hcu
    go_enter Tryd.func45, Tryd.ntmps45
    go_wp2_with fail
    go_ret
    exact ⟨by rw [hd.out]; rfl, (Below.refl _ _).alloc (Nat.le_refl _) _⟩
  | succ k ih =>
    intro u w hk hu
    obtain ⟨c, hcn, hcu⟩ := digit_of u
    have hc := conv_digit u c hcn w
    by_cases h10 : u < 10
    · have hd : Hid (Lib.decDigits u = [c]) := by unfold Hid; rw [Lib.decDigits_one h10, ← hcu, Nat.mod_eq_of_lt h10]
      clear hcn hcu
      go_enter Tryd.func45, Tryd.ntmps45
      go_wp2_with fail
      go_ret
      exact ⟨by rw [hd.out]; rfl, (Below.refl _ _).alloc (Nat.le_refl _) _⟩
    · have hd : Hid (Lib.decDigits u = Lib.decDigits (u / 10) ++ [c]) := by unfold Hid; rw [Lib.decDigits, dif_neg h10, hcu]
      have hl : (Lib.decDigits (u / 10)).length ≤ 19 := by rw [Lib.decDigits_length]; exact nDigits_le 19 _ (by omega) (by omega)
      clear hcn hcu
      go_enter Tryd.func45, Tryd.ntmps45
      go_wp2_with fail
      refine (ih (u / 10) _ (by omega) (by omega)).mono ?_
      rintro e w1 ⟨rfl, hb⟩
      go_wp2_with fail
      go_ret
      exact ⟨by rw [hd.out]; simp [ba_app], ((Below.refl _ _).alloc (Nat.le_refl _) _).trans (hb.mono (by simp))⟩

theorem digs (n : Int) (h0 : n ≤ 0) (h1 : -9223372036854775808 ≤ n) (w : World) : Calls Tryd.prog 45 #[.int .i64 n] w (Gives (.string ⟨(Lib.itoa (-n)).toArray⟩) w) := by
  have h := digits_any n.natAbs n.natAbs w (Nat.le_refl _) (by omega)
  have e : -((n.natAbs : Nat) : Int) = n := by omega
  rw [e] at h
  have e2 : Lib.itoa (-n) = Lib.decDigits n.natAbs := by rw [show (-n : Int) = ((n.natAbs : Nat) : Int) by omega, Lib.itoa_nonneg]
  rw [e2]; exact h

theorem refInt (n : Int) (h0 : -9223372036854775808 ≤ n) (h1 : n ≤ 9223372036854775807) (w : World) : Calls Tryd.prog 14 #[.int .i64 n] w (Gives (.string ⟨(encInt n).toArray⟩) w) := by
  by_cases hn : n < 0
  · have hd : Hid (Lib.itoa n = 45 :: Lib.itoa (-n)) := by
      unfold Hid
      rw [show n = -((n.natAbs : Nat) : Int) by omega, Lib.itoa_neg _ (by omega), Int.neg_neg, Lib.itoa_nonneg]
    have hll : (Lib.itoa (-n)).length ≤ 20 := by
      rw [show -n = ((n.natAbs : Nat) : Int) by omega, Lib.itoa_nonneg, Lib.decDigits_length]
      have := nDigits_le 19 n.natAbs (by omega) (by omega); omega
    go_enter Tryd.func14, Tryd.ntmps14
    go_wp2_with fail
    refine (digs n (by omega) h0 _).mono ?_
    rintro e w1 ⟨rfl, hb⟩
    go_wp2_with fail
    go_ret
    exact ⟨by simp [encInt, hd.out, ba_app], hb⟩
  · have hll := itoa_len20 n h0 h1
    go_enter Tryd.func14, Tryd.ntmps14
    go_wp2_with fail
    refine (digs (-n) (by omega) (by omega) _).mono ?_
    rintro e w1 ⟨rfl, hb⟩
    rw [Int.neg_neg]
    go_wp2_with fail
    go_ret
    exact ⟨by simp [encInt, ba_app], hb⟩
theorem refNum_neg (n : Int) (h0 : n < 0) (w : World) : Calls Tryd.prog 12 #[.int .i64 n] w (Gives (.string ⟨#[]⟩) w) := by
  go_enter Tryd.func12, Tryd.ntmps12
  go_wp2_with fail
  go_ret
  exact ⟨rfl, Below.refl _ _⟩
theorem refNum (n : Int) (h0 : 0 ≤ n) (h1 : n ≤ 9223372036854775807) (w : World) : Calls Tryd.prog 12 #[.int .i64 n] w (Gives (.string ⟨(encInt n).toArray⟩) w) := by
  go_enter Tryd.func12, Tryd.ntmps12
  go_wp2_with fail
  refine (refInt n (by omega) h1 _).mono ?_
  rintro e w1 ⟨rfl, hb⟩
  go_wp2_with fail
  go_ret
  exact ⟨rfl, hb⟩
theorem refText (s : ByteArray) (h1 : s.size ≤ 1000000) (w : World) : Calls Tryd.prog 16 #[.string s] w (Gives (.string ⟨(encText s.data.toList).toArray⟩) w) := by
  have hll := itoa_len20 s.size (by omega) (by omega)
  go_enter Tryd.func16, Tryd.ntmps16
  go_wp2_with fail
  refine (digs (-(s.size : Int)) (by omega) (by omega) _).mono ?_
  rintro e w1 ⟨rfl, hb⟩
  rw [Int.neg_neg]
  go_wp2_with fail
  go_ret
  exact ⟨by simp [encText, ba_app], hb⟩
end Go.Proofs.YtpcdogbioopdgaaDoor
