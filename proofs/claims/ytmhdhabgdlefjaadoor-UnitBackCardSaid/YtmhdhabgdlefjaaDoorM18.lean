/- Plain facts on the encoding. Plain facts on what the readers read: numbers and strings. No program. -/
import Derived.Lib.CutLaws
import Derived.Lib.IndexBytes
import Derived.Lib.ItoaLen
import Derived.Lib.AtoiAll
set_option maxRecDepth 100000
namespace Go.Proofs.YtmhdhabgdlefjaaDoor.Wi
open Go

theorem cut_nil (c : UInt8) : Lib.cut [] [c] = ([], [], false) := by
  unfold Lib.cut; rw [Lib.index_one]; rfl
theorem cut_cons (b c : UInt8) (l : List UInt8) : Lib.cut (b :: l) [c] = if b = c then ([], l, true) else (b :: (Lib.cut l [c]).1, (Lib.cut l [c]).2.1, (Lib.cut l [c]).2.2) := by
  unfold Lib.cut; rw [Lib.index_one, Lib.index_one]
  have hg := Lib.index_ge l [c]
  rw [Lib.index_one] at hg
  by_cases h : b = c
  · subst h; simp [Lib.indexByte]
  · have hb : (b == c) = false := by simpa using h
    rw [if_neg h, Lib.indexByte, hb]
    by_cases h2 : Lib.indexByte l c = -1
    · simp [h2]
    · have h3 : (Lib.indexByte l c == -1) = false := by simpa using h2
      simp only [h3, Bool.false_eq_true, if_false]
      rw [if_pos (by omega), if_pos (by omega)]
      have e : (Lib.indexByte l c + 1).toNat = (Lib.indexByte l c).toNat + 1 := by omega
      simp [e]
theorem cut_hit (c : UInt8) : ∀ (l d r : List UInt8), Lib.cut l [c] = (d, r, true) → l = d ++ c :: r ∧ c ∉ d
  | [], d, r, h => by rw [cut_nil] at h; simp at h
  | b :: l, d, r, h => by
    rw [cut_cons] at h
    split at h
    · simp at h; obtain ⟨rfl, rfl⟩ := h; simp_all
    · rcases hc : Lib.cut l [c] with ⟨d', r', f⟩
      rw [hc] at h; simp at h; obtain ⟨rfl, rfl, rfl⟩ := h
      obtain ⟨h1, h2⟩ := cut_hit c l d' r' hc
      exact ⟨by rw [h1]; rfl, by simp; exact ⟨fun e => ‹¬ b = c› e.symm, h2⟩⟩
theorem cut_miss (c : UInt8) : ∀ (l d r : List UInt8), Lib.cut l [c] = (d, r, false) → d = l ∧ c ∉ l
  | [], d, r, h => by rw [cut_nil] at h; simp at h; simp [h.1]
  | b :: l, d, r, h => by
    rw [cut_cons] at h
    split at h
    · simp at h
    · rcases hc : Lib.cut l [c] with ⟨d', r', f⟩
      rw [hc] at h; simp at h; obtain ⟨rfl, rfl, rfl⟩ := h
      obtain ⟨h1, h2⟩ := cut_miss c l d' r' hc
      exact ⟨by rw [h1], by simp; exact ⟨fun e => ‹¬ b = c› e.symm, h2⟩⟩
theorem cut_of (c : UInt8) (d r : List UInt8) (h : c ∉ d) : Lib.cut (d ++ c :: r) [c] = (d, r, true) := by
  induction d with
  | nil => rw [List.nil_append, cut_cons, if_pos rfl]
  | cons b d ih =>
    simp at h
    rw [List.cons_append, cut_cons, if_neg (fun e => h.1 e.symm), ih h.2]

theorem nDigits_le : ∀ (k u : Nat), 1 ≤ k → u < 10 ^ k → Lib.nDigits u ≤ k
  | 0, _, h, _ => by omega
  | 1, u, _, h => by rw [Lib.nDigits_small (by simpa using h)]; omega
  | k + 2, u, _, h => by
    by_cases h1 : u < 10
    · rw [Lib.nDigits_small h1]; omega
    · rw [Lib.nDigits_big h1]
      have := nDigits_le (k + 1) (u / 10) (by omega) (by rw [Nat.pow_succ] at h; omega)
      omega
theorem itoa_len20 (n : Int) (h0 : -9223372036854775808 ≤ n) (h1 : n ≤ 9223372036854775807) : (Lib.itoa n).length ≤ 20 := by
  unfold Lib.itoa
  split
  · rw [List.length_cons, Lib.decDigits_length]
    have := nDigits_le 19 n.natAbs (by omega) (by omega)
    omega
  · rw [Lib.decDigits_length]
    have := nDigits_le 19 n.toNat (by omega) (by omega)
    omega
theorem decDigits_range (u : Nat) : ∀ c ∈ Lib.decDigits u, 48 ≤ c.toNat ∧ c.toNat ≤ 57 := by
  induction u using Nat.strongRecOn with
  | _ u ih =>
    rw [Lib.decDigits]
    split
    · intro c hc; simp at hc; subst hc; simp; omega
    · intro c hc
      rw [List.mem_append] at hc
      rcases hc with hc | hc
      · exact ih (u / 10) (by omega) c hc
      · simp at hc; subst hc; simp; omega
theorem decDigits_ne (u : Nat) : Lib.decDigits u ≠ [] := by
  intro h; have := Lib.decDigits_length u; have h2 := Lib.nDigits_pos u; rw [h] at this; simp at this; omega
theorem itoa_range (n : Int) : ∀ c ∈ Lib.itoa n, c.toNat = 45 ∨ (48 ≤ c.toNat ∧ c.toNat ≤ 57) := by
  intro c hc; unfold Lib.itoa at hc
  split at hc
  · rw [List.mem_cons] at hc
    rcases hc with rfl | hc
    · exact .inl rfl
    · exact .inr (decDigits_range _ c hc)
  · exact .inr (decDigits_range _ c hc)
theorem itoa_not (n : Int) (c : UInt8) (h : c.toNat ≠ 45 ∧ 57 < c.toNat) : c ∉ Lib.itoa n := by
  intro hc; have := itoa_range n c hc; omega
theorem parse_app : ∀ (l m : List UInt8) (a b : Nat), Lib.parseUint10 a l = .ok b → Lib.parseUint10 a (l ++ m) = Lib.parseUint10 b m
  | [], m, a, b, h => by simp only [Lib.parseUint10] at h; injection h with h; subst h; rfl
  | c :: l, m, a, b, h => by
    rw [Lib.parseUint10] at h
    rw [List.cons_append, Lib.parseUint10]
    split at h
    · rename_i h1
      rw [if_pos h1]
      split at h
      · cases h
      · rename_i h2
        rw [if_neg h2]
        split at h
        · cases h
        · rename_i h3
          rw [if_neg h3]
          exact parse_app l m _ b h
    · cases h
theorem parse_dec (u : Nat) (h : u < 18446744073709551616) : Lib.parseUint10 0 (Lib.decDigits u) = .ok u := by
  induction u using Nat.strongRecOn with
  | _ u ih =>
    rw [Lib.decDigits]
    split
    · rename_i h1
      have e : (UInt8.ofNat (48 + u)).toNat = 48 + u := by simp; omega
      rw [Lib.parseUint10, e, if_pos (by omega), if_neg (by omega), if_neg (by omega), Lib.parseUint10]
      congr 1; omega
    · rename_i h1
      have e : (UInt8.ofNat (48 + u % 10)).toNat = 48 + u % 10 := by simp; omega
      rw [parse_app _ _ _ _ (ih (u / 10) (by omega) (by omega))]
      rw [Lib.parseUint10, e, if_pos (by omega), if_neg (by omega), if_neg (by omega), Lib.parseUint10]
      congr 1; omega
theorem atoi_itoa (n : Int) (h0 : -9223372036854775808 ≤ n) (h1 : n ≤ 9223372036854775807) : Lib.atoiAll (Lib.itoa n) = .ok n := by
  unfold Lib.itoa
  split
  · have hp := parse_dec n.natAbs (by omega)
    simp only [Lib.atoiAll]
    have e : (45 : UInt8).toNat = 45 := rfl
    rw [if_pos (by omega), Lib.parseMag, if_neg (decDigits_ne _), hp]
    simp only [e, not_true_eq_false, false_and, if_false, true_and, if_true]
    rw [if_neg (by omega)]
    congr 1; omega
  · have hp := parse_dec n.toNat (by omega)
    cases hd : Lib.decDigits n.toNat with
    | nil => exact absurd hd (decDigits_ne _)
    | cons c r =>
      have hc := decDigits_range n.toNat c (by rw [hd]; simp)
      have hs : ¬ (c.toNat = 43 ∨ c.toNat = 45) := by omega
      simp only [Lib.atoiAll]
      rw [if_neg hs, Lib.parseMag, if_neg (by simp), ← hd, hp]
      have hneg : ¬ c.toNat = 45 := by omega
      simp only [hneg, not_false_eq_true, true_and, false_and, if_false]
      rw [if_neg (by omega)]
      congr 1; omega
theorem atoi_bd (d : List UInt8) (v : Int) (h : Lib.atoiAll d = .ok v) : -9223372036854775808 ≤ v ∧ v ≤ 9223372036854775807 := by
  unfold Lib.atoiAll at h
  split at h
  · cases h
  · dsimp only at h
    split at h
    · cases h
    · cases h
    · split at h
      · cases h
      · split at h
        · cases h
        · injection h with h; split at h <;> omega

def pInt (c : UInt8) (s : List UInt8) : Option (Int × List UInt8) :=
  if (Lib.cut (s.take 21) [c]).2.2 = true then
    match Lib.atoiAll (Lib.cut (s.take 21) [c]).1 with
    | .ok n => if Lib.itoa n = (Lib.cut (s.take 21) [c]).1 then some (n, s.drop ((Lib.cut (s.take 21) [c]).1.length + 1)) else none
    | _ => none
  else none
theorem pInt_eq {c : UInt8} {s d r1 : List UInt8} {fnd : Bool} (h : Lib.cut (s.take 21) [c] = (d, r1, fnd)) :
    pInt c s = if fnd = true then match Lib.atoiAll d with
    | .ok n => if Lib.itoa n = d then some (n, s.drop (d.length + 1)) else none
    | _ => none
  else none := by unfold pInt; rw [h]
theorem cut_len (c : UInt8) (l d r : List UInt8) (f : Bool) (h : Lib.cut l [c] = (d, r, f)) : d.length ≤ l.length ∧ (f = true → d.length + 1 ≤ l.length) := by
  cases f
  · obtain ⟨rfl, _⟩ := cut_miss c l d r h; simp
  · obtain ⟨rfl, _⟩ := cut_hit c l d r h; simp
theorem pInt_enc (c : UInt8) (n : Int) (r : List UInt8) (h0 : -9223372036854775808 ≤ n) (h1 : n ≤ 9223372036854775807) (hc : c.toNat ≠ 45 ∧ 57 < c.toNat) :
    pInt c (Lib.itoa n ++ c :: r) = some (n, r) := by
  have hl := itoa_len20 n h0 h1
  have e : (Lib.itoa n ++ c :: r).take 21 = Lib.itoa n ++ c :: r.take (20 - (Lib.itoa n).length) := by
    rw [List.take_append, List.take_of_length_le (by omega)]
    congr 1
    rw [show 21 - (Lib.itoa n).length = (20 - (Lib.itoa n).length) + 1 by omega, List.take_succ_cons]
  have hcut := cut_of c (Lib.itoa n) (r.take (20 - (Lib.itoa n).length)) (itoa_not n c hc)
  rw [← e] at hcut
  rw [pInt_eq hcut, atoi_itoa n h0 h1]
  simp
theorem pInt_some (c : UInt8) (s : List UInt8) (n : Int) (r : List UInt8) (h : pInt c s = some (n, r)) :
    s = Lib.itoa n ++ c :: r ∧ -9223372036854775808 ≤ n ∧ n ≤ 9223372036854775807 := by
  rcases hc : Lib.cut (s.take 21) [c] with ⟨d, r1, f⟩
  rw [pInt_eq hc] at h
  split at h
  · rename_i hf; subst hf
    split at h
    · rename_i m hm
      split at h
      · rename_i hi
        simp at h; obtain ⟨rfl, rfl⟩ := h
        have hb := atoi_bd d m hm
        obtain ⟨h1, _⟩ := cut_hit c _ d r1 hc
        refine ⟨?_, hb⟩
        rw [hi]
        have h2 : s = (d ++ [c]) ++ (r1 ++ s.drop 21) := by
          conv => lhs; rw [← List.take_append_drop 21 s, h1]
          simp
        have h3 : s.drop (d.length + 1) = r1 ++ s.drop 21 := by
          conv => lhs; rw [h2]
          exact List.drop_left' (by simp)
        rw [h3]; conv => lhs; rw [h2]
        simp
      · cases h
    · cases h
  · cases h
end Go.Proofs.YtmhdhabgdlefjaaDoor.Wi

namespace Go.Proofs.YtmhdhabgdlefjaaDoor.Wi
open Go

def encInt (n : Int) : List UInt8 := Lib.itoa n ++ [59]
def encText (s : List UInt8) : List UInt8 := Lib.itoa s.length ++ [58] ++ s ++ [44]
theorem ba_app (a b : ByteArray) : a ++ b = ⟨(a.data.toList ++ b.data.toList).toArray⟩ := by
  apply ByteArray.ext; simp

/-- A number: an int that is not negative. -/
def pNum (c : UInt8) (s : List UInt8) : Option (Int × List UInt8) :=
  match pInt c s with
  | some (n, r) => if n < 0 then none else some (n, r)
  | none => none
def pText (s : List UInt8) : Option (ByteArray × List UInt8) :=
  match pNum 58 s with
  | some (n, r) => if n.toNat < r.length ∧ r.getD n.toNat 0 = 44 then some (⟨(r.take n.toNat).toArray⟩, r.drop (n.toNat + 1)) else none
  | none => none
theorem pInt_len {c : UInt8} {s : List UInt8} {n : Int} {r : List UInt8} (h : pInt c s = some (n, r)) : r.length < s.length := by
  have := (pInt_some c s n r h).1
  rw [this]; simp; omega
theorem pNum_some {c : UInt8} {s : List UInt8} {n : Int} {r : List UInt8} (h : pNum c s = some (n, r)) : pInt c s = some (n, r) ∧ 0 ≤ n := by
  unfold pNum at h
  split at h
  · rename_i m r' hm
    split at h
    · cases h
    · simp at h; obtain ⟨rfl, rfl⟩ := h; exact ⟨hm, by omega⟩
  · cases h
theorem pInt_encInt (n : Int) (h : -9223372036854775808 ≤ n ∧ n ≤ 9223372036854775807) (r : List UInt8) : pInt 59 (encInt n ++ r) = some (n, r) := by
  have := pInt_enc 59 n r h.1 h.2 (by decide)
  simpa [encInt] using this
theorem pNum_enc (c : UInt8) (n : Int) (h0 : 0 ≤ n) (h1 : n ≤ 9223372036854775807) (hc : c.toNat ≠ 45 ∧ 57 < c.toNat) (r : List UInt8) : pNum c (Lib.itoa n ++ c :: r) = some (n, r) := by
  unfold pNum; rw [pInt_enc c n r (by omega) h1 hc]; simp; omega
theorem pNum_encInt (n : Int) (h0 : 0 ≤ n) (h1 : n ≤ 9223372036854775807) (r : List UInt8) : pNum 59 (encInt n ++ r) = some (n, r) := by
  have := pNum_enc 59 n h0 h1 (by decide) r
  simpa [encInt] using this
set_option maxRecDepth 100000 in
theorem pText_enc (s : ByteArray) (hs : s.size ≤ 9223372036854775807) (r : List UInt8) : pText (encText s.data.toList ++ r) = some (s, r) := by
  have hl : s.data.toList.length = s.size := by rw [Array.length_toList]; rfl
  have h := pNum_enc 58 (s.size : Int) (by omega) (by omega) (by decide) (s.data.toList ++ 44 :: r)
  unfold pText
  have e : encText s.data.toList ++ r = Lib.itoa (s.size : Int) ++ 58 :: (s.data.toList ++ 44 :: r) := by simp [encText, hl]
  rw [e, h]
  simp only [Int.toNat_natCast]
  rw [if_pos ⟨by simp [hl], by simp [hl]⟩]
  have e1 : (s.data.toList ++ 44 :: r).take s.size = s.data.toList := by rw [← hl]; simp
  have e2 : (s.data.toList ++ 44 :: r).drop (s.size + 1) = r := by rw [← hl, ← List.drop_drop, List.drop_left]; rfl
  rw [e1, e2]
theorem pText_some {s : List UInt8} {x : ByteArray} {r : List UInt8} (h : pText s = some (x, r)) : s = encText x.data.toList ++ r := by
  unfold pText at h
  split at h
  · rename_i n r0 hn
    split at h
    · rename_i hc
      simp at h; obtain ⟨rfl, rfl⟩ := h
      obtain ⟨hp, hn0⟩ := pNum_some hn
      have hs := (pInt_some _ _ _ _ hp).1
      obtain ⟨k, rfl⟩ : ∃ k : Nat, n = k := ⟨n.toNat, by omega⟩
      simp at hc
      have h44 : r0[k]'hc.1 = 44 := by have := hc.2; rw [List.getElem?_eq_getElem hc.1] at this; simpa using this
      have h0 : r0 = r0.take k ++ 44 :: r0.drop (k + 1) := by
        conv => lhs; rw [← List.take_append_drop k r0]
        rw [List.drop_eq_getElem_cons hc.1, h44]
      have hl : (r0.take k).length = k := by rw [List.length_take]; omega
      rw [hs]
      simp only [encText, Int.toNat_natCast, hl]
      conv => lhs; rw [h0]
      simp
    · cases h
  · cases h
theorem itoa_inj {a b : Int} (ha : -9223372036854775808 ≤ a ∧ a ≤ 9223372036854775807) (hb : -9223372036854775808 ≤ b ∧ b ≤ 9223372036854775807) (h : Lib.itoa a = Lib.itoa b) : a = b := by
  have h1 := atoi_itoa a ha.1 ha.2
  rw [h, atoi_itoa b hb.1 hb.2] at h1
  injection h1 with h1
  exact h1.symm
end Go.Proofs.YtmhdhabgdlefjaaDoor.Wi
