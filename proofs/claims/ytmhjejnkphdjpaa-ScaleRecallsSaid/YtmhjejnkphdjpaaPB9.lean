/- Numbers as decimal texts: of no program. -/
import Derived.Lib.ItoaMem
import Derived.Test.YtmhjejnkphdjpaaPB8
set_option maxRecDepth 100000
namespace Go.Proofs.Ytmhjejnkphdjpaa.Bi
open Go.Lib (decDigits itoa)

def ch (d : Nat) : UInt8 := UInt8.ofNat (48 + d)
theorem ch_nat {d : Nat} (h : d < 10) : (ch d).toNat = 48 + d := by
  unfold ch
  rw [UInt8.toNat_ofNat']; omega
theorem ch_of {c : UInt8} (h : dgt c = true) : ch (c.toNat - 48) = c := by
  have := dgt_of h
  rw [← UInt8.toNat_inj, ch_nat (by omega)]; omega
theorem dec_small {n : Nat} (h : n < 10) : decDigits n = [ch n] := by rw [decDigits, dif_pos h]; rfl
theorem dec_big {n : Nat} (h : ¬ n < 10) : decDigits n = decDigits (n / 10) ++ [ch (n % 10)] := by rw [decDigits, dif_neg h]; rfl
theorem dec_snoc {x d : Nat} (hx : 0 < x) (hd : d < 10) : decDigits (x * 10 + d) = decDigits x ++ [ch d] := by
  rw [dec_big (by omega), show (x * 10 + d) / 10 = x by omega, show (x * 10 + d) % 10 = d by omega]
theorem head_app {M N : List UInt8} (h : M ≠ []) : (M ++ N).head? = M.head? := by
  cases M with
  | nil => exact absurd rfl h
  | cons => rfl
theorem dec_of_numB : ∀ (k : Nat) (D : List UInt8), D.length = k + 1 → (∀ c ∈ D, dgt c = true) → (k = 0 ∨ D.head? ≠ some 48) → decDigits (numB D) = D ∧ (D.head? ≠ some 48 → 0 < numB D) := by
  intro k
  induction k with
  | zero =>
    intro D hl hd _
    match D, hl with
    | [c], _ =>
      have hc := hd c (by simp)
      have hc' := dgt_of hc
      have e : numB [c] = c.toNat - 48 := by simp [numB]
      rw [e, dec_small (by omega), ch_of hc]
      refine ⟨rfl, fun hne => ?_⟩
      have : c.toNat ≠ 48 := fun e => hne (by simp; rw [← UInt8.toNat_inj]; exact e)
      omega
  | succ k ih =>
    intro D hl hd hh
    have hh' : D.head? ≠ some 48 := hh.resolve_left (by omega)
    obtain ⟨M, c, rfl⟩ : ∃ M c, D = M ++ [c] := by
      rcases List.eq_nil_or_concat D with rfl | ⟨M, c, rfl⟩
      · simp at hl
      · exact ⟨M, c, by simp⟩
    have hM : M ≠ [] := fun e => by rw [e] at hl; simp at hl
    rw [head_app hM] at hh'
    obtain ⟨h1, h2⟩ := ih M (by simp at hl; omega) (fun c' h => hd c' (by simp [h])) (.inr hh')
    have hc := hd c (by simp)
    have hc' := dgt_of hc
    have h3 := h2 hh'
    rw [numB_snoc, dec_snoc h3 (by omega), h1, ch_of hc]
    exact ⟨rfl, fun _ => by omega⟩

theorem neg_cons (l : List UInt8) : negB (45 :: l) = true ∧ bodyB (45 :: l) = l := by
  have : Go.Lib.hasPrefix (45 :: l) [45] = true := by simp [Go.Lib.hasPrefix, List.isPrefixOf]
  exact ⟨this, by unfold bodyB Go.Lib.trimPrefix; rw [this]; simp⟩
theorem neg_not {l : List UInt8} (h : l.head? ≠ some 45) : negB l = false ∧ bodyB l = l := by
  have : Go.Lib.hasPrefix l [45] = false := by
    cases l with
    | nil => rfl
    | cons c l =>
      have hc : c ≠ 45 := fun e => h (by rw [e]; rfl)
      have hc' : ¬ 45 = c := fun e => hc e.symm
      simp [Go.Lib.hasPrefix, List.isPrefixOf, hc']
  exact ⟨this, by unfold bodyB Go.Lib.trimPrefix; rw [this]; rfl⟩
theorem neg_cases (l : List UInt8) : (∃ D, l = 45 :: D) ∨ l.head? ≠ some 45 := by
  cases l with
  | nil => right; simp
  | cons c D =>
    by_cases h : c = 45
    · left; exact ⟨D, by rw [h]⟩
    · right; simpa using h
theorem dec_split {D : List UInt8} (h : decB D = true) : (∀ c ∈ D, dgt c = true) ∧ ∃ k, D.length = k + 1 := by
  simp only [decB, Bool.and_eq_true] at h
  refine ⟨List.all_eq_true.1 h.2, ?_⟩
  cases D with
  | nil => simp at h
  | cons c D => exact ⟨D.length, rfl⟩
theorem itoa_read {l : List UInt8} {z : Int} (h : readS l = some z) : itoa z = l := by
  unfold readS at h
  split at h
  · rename_i hc
    obtain ⟨hd, k, hk⟩ := dec_split hc.1
    have h' := Option.some.inj h
    rcases neg_cases l with ⟨D, rfl⟩ | hn
    · obtain ⟨e1, e2⟩ := neg_cons D
      rw [e1, e2, if_pos rfl] at h'
      rw [e2] at hc hd hk
      have hh : D.head? ≠ some 48 := fun e => hc.2 ⟨e, by simp⟩
      obtain ⟨h1, h2⟩ := dec_of_numB k D hk hd (.inr hh)
      have := h2 hh
      unfold itoa
      rw [if_pos (by omega), show z.natAbs = numB D by omega, h1]
    · obtain ⟨e1, e2⟩ := neg_not hn
      rw [e1, e2] at h'
      rw [e2] at hc hd hk
      simp at h'
      unfold itoa
      rw [if_neg (by omega), show z.toNat = numB l by omega]
      by_cases hh : l.head? = some 48
      · have : l = [48] := Classical.byContradiction fun hne => hc.2 ⟨hh, hne⟩
        rw [this]
        have : numB [48] = 0 := by simp [numB]
        rw [this, dec_small (by omega)]; rfl
      · exact (dec_of_numB k l hk hd (.inr hh)).1
  · cases h
def hval : List Nat → Nat → Nat
  | [], a => a
  | g :: r, a => hval r (a * 1000000000000 + g)
/-- The value of groups, the lowest first. -/
def lval : List Nat → Nat
  | [] => 0
  | g :: r => g + 1000000000000 * lval r
theorem lval_app (a : List Nat) (g : Nat) : lval (a ++ [g]) = lval a + 1000000000000 ^ a.length * g := by
  induction a with
  | nil => simp [lval]
  | cons x a ih => rw [List.cons_append, lval, ih, lval, List.length_cons, Nat.pow_succ]; grind
end Go.Proofs.Ytmhjejnkphdjpaa.Bi
