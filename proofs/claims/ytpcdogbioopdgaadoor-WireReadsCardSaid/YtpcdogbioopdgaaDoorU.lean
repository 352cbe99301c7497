/- Plain facts on the digits that the reference reads. -/
import Derived.Test.YtpcdogbioopdgaaDoorP
namespace Go.Proofs.YtpcdogbioopdgaaDoor
open Go

def nat10 (a : Nat) (l : List UInt8) : Nat := l.foldl (fun a c => 10 * a + (c.toNat - 48)) a
theorem nat10_snoc (a : Nat) (l : List UInt8) (c : UInt8) : nat10 a (l ++ [c]) = 10 * nat10 a l + (c.toNat - 48) := by simp [nat10]
theorem nat10_app (a : Nat) (l m : List UInt8) : nat10 a (l ++ m) = nat10 (nat10 a l) m := by simp [nat10]
theorem nat10_ge (l : List UInt8) : ∀ a, a ≤ nat10 a l := by
  induction l with
  | nil => intro a; exact Nat.le_refl _
  | cons c l ih => intro a; have := ih (10 * a + (c.toNat - 48)); simp only [nat10, List.foldl_cons] at *; omega
theorem nat10_take (l : List UInt8) (j : Nat) : nat10 0 (l.take j) ≤ nat10 0 l := by
  conv => rhs; rw [← List.take_append_drop j l, nat10_app]
  exact nat10_ge _ _
theorem nat10_dec (u : Nat) : nat10 0 (Lib.decDigits u) = u := by
  induction u using Nat.strongRecOn with
  | _ u ih =>
    rw [Lib.decDigits]
    split
    · rename_i h
      have e : (UInt8.ofNat (48 + u)).toNat = 48 + u := by simp; omega
      show 10 * 0 + ((UInt8.ofNat (48 + u)).toNat - 48) = u
      rw [e]; omega
    · rename_i h
      have e : (UInt8.ofNat (48 + u % 10)).toNat = 48 + u % 10 := by simp; omega
      rw [nat10_snoc, ih (u / 10) (by omega), e]; omega
theorem nat10_step (l : List UInt8) (j : Nat) (h : j < l.length) : nat10 0 (l.take (j + 1)) = 10 * nat10 0 (l.take j) + (l[j].toNat - 48) := by
  rw [List.take_succ_eq_append_getElem h, nat10_snoc]

/-- The first place at which c stands. -/
theorem pInt_at (c : UInt8) (s : List UInt8) (k : Nat) (hk : k < s.length) (h20 : k ≤ 20) (hc : s[k] = c) (hno : ∀ i (h : i < s.length), i < k → s[i] ≠ c) :
    pInt c s = match Lib.atoiAll (s.take k) with
    | .ok n => if Lib.itoa n = s.take k then some (n, s.drop (k + 1)) else none
    | _ => none := by
  have e : s.take 21 = s.take k ++ c :: (s.drop (k + 1)).take (20 - k) := by
    conv => lhs; rw [← List.take_append_drop k s]
    rw [List.take_append, List.take_of_length_le (by rw [List.length_take]; omega), List.length_take, Nat.min_eq_left (by omega), List.drop_eq_getElem_cons hk, hc]
    rw [show 21 - k = (20 - k) + 1 by omega, List.take_succ_cons]
  have hn : c ∉ s.take k := by
    intro hm
    obtain ⟨i, hi, he⟩ := List.getElem_of_mem hm
    rw [List.length_take] at hi
    rw [List.getElem_take] at he
    exact hno i (by omega) (by omega) he
  have hcut := cut_of c (s.take k) ((s.drop (k + 1)).take (20 - k)) hn
  rw [← e] at hcut
  rw [pInt_eq hcut]
  have hl : (s.take k).length = k := by rw [List.length_take]; omega
  rw [if_pos rfl, hl]
  rfl
theorem pInt_miss (c : UInt8) (s : List UInt8) (hno : ∀ i (h : i < s.length), i < 21 → s[i] ≠ c) : pInt c s = none := by
  rcases hc : Lib.cut (s.take 21) [c] with ⟨d, r, f⟩
  cases f
  · rw [pInt_eq hc]; rfl
  · obtain ⟨h1, _⟩ := cut_hit c _ d r hc
    exfalso
    have hm : c ∈ s.take 21 := by rw [h1]; simp
    obtain ⟨i, hi, he⟩ := List.getElem_of_mem hm
    rw [List.length_take] at hi
    rw [List.getElem_take] at he
    exact hno i (by omega) (by omega) he
theorem pInt_at_some (c : UInt8) (s : List UInt8) (k : Nat) (hk : k < s.length) (h20 : k ≤ 20) (hc : s[k] = c) (hno : ∀ i (h : i < s.length), i < k → s[i] ≠ c)
    (n : Int) (h0 : -9223372036854775808 ≤ n) (h1 : n ≤ 9223372036854775807) (hn : Lib.itoa n = s.take k) : pInt c s = some (n, s.drop (k + 1)) := by
  rw [pInt_at c s k hk h20 hc hno, ← hn, atoi_itoa n h0 h1]; simp
theorem pInt_at_none (c : UInt8) (s : List UInt8) (k : Nat) (hk : k < s.length) (h20 : k ≤ 20) (hc : s[k] = c) (hno : ∀ i (h : i < s.length), i < k → s[i] ≠ c)
    (hn : ∀ n : Int, -9223372036854775808 ≤ n → n ≤ 9223372036854775807 → Lib.itoa n ≠ s.take k) : pInt c s = none := by
  rw [pInt_at c s k hk h20 hc hno]
  split
  · rename_i n hm
    rw [if_neg (hn n (atoi_bd _ n hm).1 (atoi_bd _ n hm).2)]
  · rfl
end Go.Proofs.YtpcdogbioopdgaaDoor
