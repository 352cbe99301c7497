/- The text of a fraction. -/
import Derived.Lib.CutLaws
import Derived.Lib.IndexBytes
import Derived.Laws.Concat
import Derived.Test.YtmhdhabgdlefjaaDoorM11
set_option maxRecDepth 100000
namespace Go.Proofs.YtmhdhabgdlefjaaDoor.Bi
open Go

theorem cut_nil (c : UInt8) : Lib.cut [] [c] = ([], [], false) := by
  unfold Lib.cut; rw [Lib.index_one]; rfl
theorem cut_cons (b c : UInt8) (l : List UInt8) : Lib.cut (b :: l) [c] = if b = c then ([], l, true) else (b :: (Lib.cut l [c]).1, (Lib.cut l [c]).2.1, (Lib.cut l [c]).2.2) := by
  unfold Lib.cut; rw [Lib.index_one, Lib.index_one]
  have hg := Lib.index_ge l [c]
  rw [Lib.index_one] at hg
  by_cases h : b = c
  · subst h; simp [Lib.indexByte]
  · have hb : (b == c) = false := by simpa using h
    rw [if_neg h, Lib.indexByte, hb]
    by_cases h2 : Lib.indexByte l c = -1
    · simp [h2]
    · have h3 : (Lib.indexByte l c == -1) = false := by simpa using h2
      simp only [h3, Bool.false_eq_true, if_false]
      rw [if_pos (by omega), if_pos (by omega)]
      have e : (Lib.indexByte l c + 1).toNat = (Lib.indexByte l c).toNat + 1 := by omega
      simp [e]
theorem cut_hit (c : UInt8) : ∀ (l d r : List UInt8), Lib.cut l [c] = (d, r, true) → l = d ++ c :: r ∧ c ∉ d
  | [], d, r, h => by rw [cut_nil] at h; simp at h
  | b :: l, d, r, h => by
    rw [cut_cons] at h
    split at h
    · simp at h; obtain ⟨rfl, rfl⟩ := h; simp_all
    · rcases hc : Lib.cut l [c] with ⟨d', r', f⟩
      rw [hc] at h; simp at h; obtain ⟨rfl, rfl, rfl⟩ := h
      obtain ⟨h1, h2⟩ := cut_hit c l d' r' hc
      exact ⟨by rw [h1]; rfl, by simp; exact ⟨fun e => ‹¬ b = c› e.symm, h2⟩⟩
theorem cut_miss (c : UInt8) : ∀ (l d r : List UInt8), Lib.cut l [c] = (d, r, false) → d = l ∧ c ∉ l
  | [], d, r, h => by rw [cut_nil] at h; simp at h; simp [h.1]
  | b :: l, d, r, h => by
    rw [cut_cons] at h
    split at h
    · simp at h
    · rcases hc : Lib.cut l [c] with ⟨d', r', f⟩
      rw [hc] at h; simp at h; obtain ⟨rfl, rfl, rfl⟩ := h
      obtain ⟨h1, h2⟩ := cut_miss c l d' r' hc
      exact ⟨by rw [h1], by simp; exact ⟨fun e => ‹¬ b = c› e.symm, h2⟩⟩
theorem cut_of (c : UInt8) (d r : List UInt8) (h : c ∉ d) : Lib.cut (d ++ c :: r) [c] = (d, r, true) := by
  induction d with
  | nil => rw [List.nil_append, cut_cons, if_pos rfl]
  | cons b d ih =>
    simp at h
    rw [List.cons_append, cut_cons, if_neg (fun e => h.1 e.symm), ih h.2]

/-- The text of a fraction: its numerator, a slash, its denominator. -/
def fTextL (a : Rat) : List UInt8 := Lib.itoa a.num ++ 47 :: Lib.itoa (a.den : Int)
theorem dec_no47 (n : Nat) : (47 : UInt8) ∉ Lib.decDigits n := fun h => by
  have := dec_dgt n 47 h
  revert this
  decide
theorem itoa_no47 (z : Int) : (47 : UInt8) ∉ Lib.itoa z := by
  unfold Lib.itoa
  split
  · intro h
    rcases List.mem_cons.1 h with h | h
    · revert h; decide
    · exact dec_no47 _ h
  · exact dec_no47 _
theorem cut_text (a : Rat) : Lib.cut (fTextL a) [47] = (Lib.itoa a.num, Lib.itoa (a.den : Int), true) := cut_of 47 _ _ (itoa_no47 _)
theorem cut_back {l : List UInt8} {p q : Int} (h1 : readS (Lib.cut l [47]).1 = some p) (h2 : readS (Lib.cut l [47]).2.1 = some q) : l = Lib.itoa p ++ 47 :: Lib.itoa q := by
  rcases hc : Lib.cut l [47] with ⟨d, r, f⟩
  rw [hc] at h1 h2
  have e1 := itoa_read h1
  have e2 := itoa_read h2
  cases f
  · exfalso
    unfold Lib.cut at hc
    split at hc
    · simp at hc
    · simp at hc
      have hr : r = [] := hc.2
      subst hr
      revert h2
      have : readS [] = none := by decide
      rw [this]; simp
  · rw [(cut_hit 47 l d r hc).1, e1, e2]
theorem ten_le : ∀ k, (10 : Int) ^ k ≤ P k
  | 0 => by simp [P]
  | k + 1 => by
    have := ten_le k
    have h2 := P_pos k
    rw [P_succ, Int.pow_succ]; omega
/-- What is read has at most as many digits as the text has bytes. -/
theorem Sz.readL {l : List UInt8} {z : Int} (h : readS l = some z) : Sz l.length z := by
  have e := itoa_read h
  have h1 := text_len z
  rw [e] at h1
  have h2 := Lib.lt_pow_nDigits z.natAbs
  have h3 : 10 ^ Lib.nDigits z.natAbs ≤ 10 ^ l.length := Nat.pow_le_pow_right (by omega) h1
  have h4 := ten_le l.length
  have h5 : ((10 ^ l.length : Nat) : Int) = (10 : Int) ^ l.length := by push_cast; rfl
  unfold Sz
  omega
theorem nDigits_le : ∀ (k u : Nat), u < 10 ^ (k + 1) → Lib.nDigits u ≤ k + 1
  | 0, u, h => by rw [Lib.nDigits_small (by simpa using h)]; omega
  | k + 1, u, h => by
    by_cases h10 : u < 10
    · rw [Lib.nDigits_small h10]; omega
    · rw [Lib.nDigits_big h10]
      have := nDigits_le k (u / 10) (by rw [Nat.pow_succ] at h; omega)
      omega
theorem P_ten : ∀ k, P k ≤ (10 : Int) ^ (7 * k)
  | 0 => by simp [P]
  | k + 1 => by
    have := P_ten k
    rw [P_succ, show 7 * (k + 1) = 7 * k + 7 by omega, Int.pow_add]
    have h2 : (10 : Int) ^ 7 = 10000000 := by decide
    rw [h2]
    have h3 := P_pos k
    omega
theorem itoa_len {k : Nat} {z : Int} (h : Sz k z) (hk : 1 ≤ k) : (Lib.itoa z).length ≤ 7 * k + 1 := by
  have h1 : z.natAbs < 10 ^ (7 * k) := by
    have h2 := P_ten k
    have h3 : ((10 ^ (7 * k) : Nat) : Int) = (10 : Int) ^ (7 * k) := by push_cast; rfl
    unfold Sz at h
    omega
  have h4 : Lib.nDigits z.natAbs ≤ 7 * k := by
    have := nDigits_le (7 * k - 1) z.natAbs (by rwa [show 7 * k - 1 + 1 = 7 * k by omega])
    omega
  unfold Lib.itoa
  split
  · rw [List.length_cons, Lib.decDigits_length]; omega
  · rw [Lib.decDigits_length, show z.toNat = z.natAbs by omega]; omega
theorem cut_lens (l : List UInt8) : (Lib.cut l [47]).1.length ≤ l.length ∧ (Lib.cut l [47]).2.1.length ≤ l.length := by
  unfold Lib.cut
  split
  · simp; omega
  · simp
end Go.Proofs.YtmhdhabgdlefjaaDoor.Bi
