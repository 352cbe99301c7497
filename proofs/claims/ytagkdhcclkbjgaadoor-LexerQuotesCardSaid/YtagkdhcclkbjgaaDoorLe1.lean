/- Tokens of a text: plain functions on lists of bytes, and what they have in common. Of no program. -/
import Derived.Lib.ItoaMem
import Derived.Lib.ItoaLen
import Derived.Lib.AtoiAll
set_option maxRecDepth 100000
namespace Go.Proofs.YtagkdhcclkbjgaaDoor.Le
open Go

def letB (c : UInt8) : Bool := decide (97 ≤ c.toNat ∧ c.toNat ≤ 122 ∨ 65 ≤ c.toNat ∧ c.toNat ≤ 90)
def digB (c : UInt8) : Bool := decide (48 ≤ c.toNat ∧ c.toNat ≤ 57)
def nameB (c : UInt8) : Bool := letB c || digB c || decide (c.toNat = 95)
def plainB (c : UInt8) : Bool := decide (32 ≤ c.toNat ∧ c.toNat ≤ 126)
def escB (c : UInt8) : Bool := decide (c.toNat = 34 ∨ c.toNat = 92)
def blankB (c : UInt8) : Bool := decide (c.toNat = 9 ∨ c.toNat = 10 ∨ c.toNat = 32)
def signL : List UInt8 := [40, 41, 44, 59, 58, 61, 60, 43, 45, 42, 47, 123, 125]
def signB (c : UInt8) : Bool := signL.contains c

def valOk (v : List UInt8) : Bool := decide (v.length ≤ 400) && v.all plainB
def nameOk (s : List UInt8) : Bool := match s with
  | [] => false
  | c :: r => letB c && (r.all nameB && decide (r.length ≤ 19))
def val10 (l : List UInt8) : Nat := l.foldl (fun a c => 10 * a + (c.toNat - 48)) 0
def numL (s : List UInt8) : Option Nat := if s = Lib.decDigits (val10 s) ∧ val10 s ≤ 1099511627776 then some (val10 s) else none

/-- Bytes between quotes. -/
def esc : List UInt8 → List UInt8
  | [] => []
  | c :: r => if escB c then 92 :: c :: esc r else c :: esc r
def quo (v : List UInt8) : List UInt8 := 34 :: (esc v ++ [34])

/-- What stands behind a quote: the value, and how many bytes it takes with the other quote. -/
def strL : List UInt8 → Option (List UInt8 × Nat)
  | [] => none
  | [c] => if c.toNat = 34 then some ([], 1) else none
  | c :: d :: r => if c.toNat = 34 then some ([], 1) else
    if c.toNat = 92 then (if escB d then (strL r).map (fun p => (d :: p.1, p.2 + 2)) else none)
    else (strL (d :: r)).map (fun p => (c :: p.1, p.2 + 1))
theorem strL_nil : strL [] = none := by simp [strL]
theorem strL_34 {c : UInt8} {r : List UInt8} (h : c.toNat = 34) : strL (c :: r) = some ([], 1) := by
  cases r <;> simp [strL, h]
theorem strL_92n {c : UInt8} (h : c.toNat = 92) : strL [c] = none := by simp [strL, h]
theorem strL_92 {c d : UInt8} {r : List UInt8} (h : c.toNat = 92) : strL (c :: d :: r) = if escB d then (strL r).map (fun p => (d :: p.1, p.2 + 2)) else none := by
  simp [strL, h]
theorem strL_else {c : UInt8} {r : List UInt8} (h : c.toNat ≠ 34) (h2 : c.toNat ≠ 92) : strL (c :: r) = (strL r).map (fun p => (c :: p.1, p.2 + 1)) := by
  cases r <;> simp [strL, h, h2]

inductive T where
  | bad (e : Int)
  | tok (k : Int) (t : List UInt8) (n : Int) (z : Nat)

def tokS (r : List UInt8) : T := match strL r with
  | none => .bad 2
  | some (v, z) => if valOk v then .tok 2 v 0 (z + 1) else .bad 2
def tokN (t : List UInt8) : T := match numL t with
  | none => .bad 3
  | some n => .tok 1 t n t.length
def tokL (s : List UInt8) : T := match s with
  | [] => .bad 10
  | c :: r =>
    if letB c then (if (r.takeWhile nameB).length ≤ 19 then .tok 0 (c :: r.takeWhile nameB) 0 ((r.takeWhile nameB).length + 1) else .bad 3)
    else if digB c then tokN (c :: r.takeWhile digB)
    else if c.toNat = 34 then tokS r
    else if signB c then .tok 3 [c] 0 1
    else .bad 10

/-- The bytes of blanks and comments at the beginning; c: the text begins in a comment. -/
def skip : Bool → List UInt8 → Nat
  | _, [] => 0
  | c, b :: r => if b.toNat = 10 then skip false r + 1 else if c then skip true r + 1 else if blankB b then skip false r + 1 else if b.toNat = 35 then skip true r + 1 else 0

structure Tok where
  kind : Int
  text : List UInt8
  n : Int
  pos : Nat

inductive R where
  | ok (l : List Tok)
  | bad (at_ : Nat) (e : Int)
def R.pre (l : List Tok) : R → R
  | .ok m => .ok (l ++ m)
  | .bad p e => .bad p e
@[simp] theorem R.pre_nil (r : R) : R.pre [] r = r := by cases r <;> rfl
theorem R.pre_pre (l m : List Tok) (r : R) : R.pre l (R.pre m r) = R.pre (l ++ m) r := by cases r <;> simp [R.pre]

/-- The tokens of a text that begins at an offset. -/
def sc (c : Bool) (p : Nat) (s : List UInt8) : R :=
  match _h : s.drop (skip c s) with
  | [] => .ok []
  | d :: r => match tokL (d :: r) with
    | .bad e => .bad (p + skip c s) e
    | .tok k t n z => R.pre [⟨k, t, n, p + skip c s⟩] (sc false (p + skip c s + z) (r.drop (z - 1)))
termination_by s.length
decreasing_by
  have h2 := congrArg List.length _h
  simp only [List.length_drop, List.length_cons] at h2
  simp only [List.length_drop]
  omega

theorem sc_done {c : Bool} {p : Nat} {s : List UInt8} (h : s.drop (skip c s) = []) : sc c p s = .ok [] := by
  rw [sc]; split
  · rfl
  · rename_i d r h2; rw [h] at h2; cases h2
theorem sc_bad {c : Bool} {p : Nat} {s : List UInt8} {d : UInt8} {r : List UInt8} {e : Int} (h : s.drop (skip c s) = d :: r) (ht : tokL (d :: r) = .bad e) : sc c p s = .bad (p + skip c s) e := by
  rw [sc]; split
  · rename_i h2; rw [h] at h2; cases h2
  · rename_i d' r' h2
    rw [h] at h2
    obtain ⟨rfl, rfl⟩ := List.cons.inj h2
    rw [ht]
theorem sc_tok {c : Bool} {p : Nat} {s : List UInt8} {d : UInt8} {r : List UInt8} {k : Int} {t : List UInt8} {n : Int} {z : Nat} (h : s.drop (skip c s) = d :: r) (ht : tokL (d :: r) = .tok k t n z) :
    sc c p s = R.pre [⟨k, t, n, p + skip c s⟩] (sc false (p + skip c s + z) (r.drop (z - 1))) := by
  rw [sc]; split
  · rename_i h2; rw [h] at h2; cases h2
  · rename_i d' r' h2
    rw [h] at h2
    obtain ⟨rfl, rfl⟩ := List.cons.inj h2
    rw [ht]

/-! skip -/
theorem skip_le : ∀ (s : List UInt8) (c : Bool), skip c s ≤ s.length
  | [], _ => by simp [skip]
  | b :: r, c => by
    have h1 := skip_le r false
    have h2 := skip_le r true
    simp only [skip, List.length_cons]
    split
    · omega
    · split
      · omega
      · split
        · omega
        · split <;> omega
theorem skip_app_lt : ∀ (s m : List UInt8) (c : Bool), skip c s < s.length → skip c (s ++ m) = skip c s
  | [], _, _, h => by simp at h
  | b :: r, m, c, h => by
    have h1 := skip_app_lt r m false
    have h2 := skip_app_lt r m true
    simp only [skip, List.length_cons, List.cons_append] at *
    split
    · rename_i h0; rw [if_pos h0] at h; rw [h1 (by omega)]
    · rename_i h0; rw [if_neg h0] at h
      split
      · rename_i h3; rw [if_pos h3] at h; rw [h2 (by omega)]
      · rename_i h3; rw [if_neg h3] at h
        split
        · rename_i h4; rw [if_pos h4] at h; rw [h1 (by omega)]
        · rename_i h4; rw [if_neg h4] at h
          split
          · rename_i h5; rw [if_pos h5] at h; rw [h2 (by omega)]
          · rfl
theorem skip_app_all : ∀ (s m : List UInt8) (c : Bool), skip c s = s.length → ∃ c', skip c (s ++ m) = s.length + skip c' m ∧ (s = [] → c' = c) ∧ (∀ l, s = l ++ [10] → c' = false)
  | [], m, c, _ => ⟨c, by simp, fun _ => rfl, fun l h => by simp at h⟩
  | b :: r, m, c, h => by
    have h1 := skip_app_all r m false
    have h2 := skip_app_all r m true
    simp only [skip, List.length_cons, List.cons_append] at *
    have last : ∀ (x c' : Bool), (r = [] → c' = x) → (∀ l, r = l ++ [10] → c' = false) → (r = [] → b.toNat = 10 → x = false) → ∀ l, b :: r = l ++ [10] → c' = false := by
      intro x c' e1 e2 e3 l hl
      cases l with
      | nil => simp at hl; obtain ⟨rfl, rfl⟩ := hl; rw [e1 rfl, e3 rfl rfl]
      | cons a l => simp at hl; exact e2 l hl.2
    by_cases h0 : b.toNat = 10
    · rw [if_pos h0] at h ⊢
      obtain ⟨c', a1, a2, a3⟩ := h1 (by omega)
      exact ⟨c', by omega, ⟨(fun h => by cases h), last false c' a2 a3 (fun _ _ => rfl)⟩⟩
    · rw [if_neg h0] at h ⊢
      by_cases h3 : c = true
      · rw [if_pos h3] at h ⊢
        obtain ⟨c', a1, a2, a3⟩ := h2 (by omega)
        exact ⟨c', by omega, ⟨(fun h => by cases h), last true c' a2 a3 (fun _ h => absurd h h0)⟩⟩
      · rw [if_neg h3] at h ⊢
        by_cases h4 : blankB b = true
        · rw [if_pos h4] at h ⊢
          obtain ⟨c', a1, a2, a3⟩ := h1 (by omega)
          exact ⟨c', by omega, ⟨(fun h => by cases h), last false c' a2 a3 (fun _ _ => rfl)⟩⟩
        · rw [if_neg h4] at h ⊢
          by_cases h5 : b.toNat = 35
          · rw [if_pos h5] at h ⊢
            obtain ⟨c', a1, a2, a3⟩ := h2 (by omega)
            exact ⟨c', by omega, ⟨(fun h => by cases h), last true c' a2 a3 (fun _ h => absurd h h0)⟩⟩
          · rw [if_neg h5] at h; omega
theorem skip_nl (s m : List UInt8) (c : Bool) (h : skip c s = s.length) : skip c (s ++ 10 :: m) = s.length + 1 + skip false m := by
  obtain ⟨c', h1, _⟩ := skip_app_all s (10 :: m) c h
  rw [h1]
  have : skip c' (10 :: m) = skip false m + 1 := by simp [skip]
  omega
theorem skip_take : ∀ (s : List UInt8) (c : Bool) (g : Nat), g ≤ skip c s → skip c (s.take g) = (s.take g).length
  | [], c, g, h => by simp [skip]
  | b :: r, c, 0, h => by simp [skip]
  | b :: r, c, g + 1, h => by
    have h1 := skip_take r false g
    have h2 := skip_take r true g
    simp only [skip, List.take_succ_cons, List.length_cons] at *
    split
    · rename_i h0; rw [if_pos h0] at h; rw [h1 (by omega)]
    · rename_i h0; rw [if_neg h0] at h
      split
      · rename_i h3; rw [if_pos h3] at h; rw [h2 (by omega)]
      · rename_i h3; rw [if_neg h3] at h
        split
        · rename_i h4; rw [if_pos h4] at h; rw [h1 (by omega)]
        · rename_i h4; rw [if_neg h4] at h
          split
          · rename_i h5; rw [if_pos h5] at h; rw [h2 (by omega)]
          · rename_i h5; rw [if_neg h5] at h; omega
/-- Behind what is skipped nothing is skipped. -/
theorem skip_drop : ∀ (s : List UInt8) (c : Bool), skip false (s.drop (skip c s)) = 0
  | [], _ => by simp [skip]
  | b :: r, c => by
    have h1 := skip_drop r false
    have h2 := skip_drop r true
    simp only [skip]
    split
    · rw [List.drop_succ_cons]; exact h1
    · rename_i h0
      split
      · rw [List.drop_succ_cons]; exact h2
      · rename_i h3
        split
        · rw [List.drop_succ_cons]; exact h1
        · rename_i h4
          split
          · rw [List.drop_succ_cons]; exact h2
          · rename_i h5
            simp only [List.drop_zero, skip]
            rw [if_neg h0, if_neg (by simp), if_neg h4, if_neg h5]

/-! takeWhile -/
theorem tw_app_lt {p : UInt8 → Bool} : ∀ (r m : List UInt8), (r.takeWhile p).length < r.length → (r ++ m).takeWhile p = r.takeWhile p
  | [], _, h => by simp at h
  | b :: r, m, h => by
    have ih := tw_app_lt (p := p) r m
    simp only [List.takeWhile_cons, List.cons_append] at *
    split
    · rename_i h0; rw [if_pos h0] at h; simp at h; rw [ih h]
    · rfl
theorem tw_app_stop {p : UInt8 → Bool} (b : UInt8) (hb : p b = false) : ∀ (r m : List UInt8), (r ++ b :: m).takeWhile p = r.takeWhile p
  | [], m => by simp [hb]
  | a :: r, m => by
    have ih := tw_app_stop b hb r m
    simp only [List.takeWhile_cons, List.cons_append]
    split
    · rw [ih]
    · rfl
theorem tw_all {p : UInt8 → Bool} : ∀ (r : List UInt8), (r.takeWhile p).all p = true
  | [] => rfl
  | b :: r => by
    have ih := tw_all (p := p) r
    simp only [List.takeWhile_cons]
    split
    · rename_i h; rw [List.all_cons, h, ih]; rfl
    · rfl
theorem tw_take {p : UInt8 → Bool} : ∀ (r : List UInt8) (q : Nat), (r.takeWhile p).length ≤ q → (r.take q).takeWhile p = r.takeWhile p
  | [], q, _ => by simp
  | b :: r, 0, h => by
    have : (b :: r).takeWhile p = [] := List.eq_nil_of_length_eq_zero (by omega)
    rw [this]; rfl
  | b :: r, q + 1, h => by
    have ih := tw_take (p := p) r q
    simp only [List.takeWhile_cons, List.take_succ_cons] at *
    split
    · rename_i h0; rw [if_pos h0] at h; simp at h; rw [ih h]
    · rfl
theorem tw_of_all {p : UInt8 → Bool} (t : List UInt8) (h : t.all p = true) (m : List UInt8) (hm : m = [] ∨ ∃ b m', m = b :: m' ∧ p b = false) : (t ++ m).takeWhile p = t := by
  induction t with
  | nil =>
    rcases hm with rfl | ⟨b, m', rfl, hb⟩
    · rfl
    · simp [hb]
  | cons a t ih =>
    simp only [List.all_cons, Bool.and_eq_true] at h
    rw [List.cons_append, List.takeWhile_cons, if_pos h.1, ih h.2]
theorem tw_prefix {p : UInt8 → Bool} (r : List UInt8) : r.take (r.takeWhile p).length = r.takeWhile p := by
  have := List.takeWhile_append_dropWhile (p := p) (l := r)
  conv => lhs; arg 2; rw [← this]
  rw [List.take_append_of_le_length (Nat.le_refl _), List.take_length]
theorem tw_len {p : UInt8 → Bool} (r : List UInt8) : (r.takeWhile p).length ≤ r.length := by
  have := congrArg List.length (List.takeWhile_append_dropWhile (p := p) (l := r))
  rw [List.length_append] at this; omega

/-! strings -/
theorem strL_le : ∀ (k : Nat) (s : List UInt8) (_ : s.length ≤ k) (v : List UInt8) (z : Nat), strL s = some (v, z) → 1 ≤ z ∧ z ≤ s.length ∧ s.take z = esc v ++ [34]
  | _, [], _, v, z, h => by rw [strL_nil] at h; cases h
  | 0, c :: r, hk, v, z, h => by simp at hk
  | k + 1, c :: r, hk, v, z, h => by
    simp at hk
    by_cases h0 : c.toNat = 34
    · rw [strL_34 h0] at h
      have hc : c = 34 := by rw [← UInt8.toNat_inj]; exact h0
      simp at h; obtain ⟨rfl, rfl⟩ := h; simp [esc, hc]
    · by_cases h1 : c.toNat = 92
      · have hc : c = 92 := by rw [← UInt8.toNat_inj]; exact h1
        match r, h with
        | [], h => rw [strL_92n h1] at h; cases h
        | d :: r2, h =>
          rw [strL_92 h1] at h
          split at h
          · rename_i hd
            obtain ⟨⟨v', z'⟩, hs, he⟩ := Option.map_eq_some_iff.1 h
            obtain ⟨rfl, rfl⟩ := Prod.mk.inj he
            obtain ⟨h2, h3, h4⟩ := strL_le k r2 (by simp at hk; omega) v' z' hs
            refine ⟨by omega, by simp; omega, ?_⟩
            simp only at *
            rw [List.take_succ_cons, List.take_succ_cons, h4, esc, if_pos hd, hc]; rfl
          · cases h
      · rw [strL_else h0 h1] at h
        obtain ⟨⟨v', z'⟩, hs, he⟩ := Option.map_eq_some_iff.1 h
        obtain ⟨rfl, rfl⟩ := Prod.mk.inj he
        obtain ⟨h2, h3, h4⟩ := strL_le k r hk v' z' hs
        have hd : ¬ escB c = true := by unfold escB; simp; exact ⟨h0, h1⟩
        refine ⟨by omega, by simp; omega, ?_⟩
        rw [List.take_succ_cons, h4, esc, if_neg hd]; rfl
theorem strL_esc : ∀ (v m : List UInt8), strL (esc v ++ 34 :: m) = some (v, (esc v).length + 1)
  | [], m => by rw [esc, List.nil_append, strL_34 (by decide)]; rfl
  | c :: r, m => by
    have ih := strL_esc r m
    simp only [esc]
    split
    · rename_i h
      rw [List.cons_append, List.cons_append, strL_92 (by decide), if_pos h, ih]; rfl
    · rename_i h
      have hd : ¬ c.toNat = 34 ∧ ¬ c.toNat = 92 := by unfold escB at h; simpa using h
      rw [List.cons_append, strL_else hd.1 hd.2, ih]; rfl
theorem strL_app (s : List UInt8) (v : List UInt8) (z : Nat) (h : strL s = some (v, z)) (m : List UInt8) : strL (s ++ m) = some (v, z) := by
  obtain ⟨h1, h2, h3⟩ := strL_le _ s (Nat.le_refl _) v z h
  have e : s ++ m = esc v ++ 34 :: (s.drop z ++ m) := by
    conv => lhs; rw [← List.take_append_drop z s, h3]
    simp
  have hz : z = (esc v).length + 1 := by
    have := congrArg List.length h3
    rw [List.length_take, Nat.min_eq_left h2] at this; simpa using this
  rw [e, strL_esc, hz]
theorem strL_take (s : List UInt8) (v : List UInt8) (z : Nat) (h : strL s = some (v, z)) (q : Nat) (hq : z ≤ q) : strL (s.take q) = some (v, z) := by
  obtain ⟨h1, h2, h3⟩ := strL_le _ s (Nat.le_refl _) v z h
  have e : s.take q = esc v ++ 34 :: (s.drop z).take (q - z) := by
    conv => lhs; rw [← List.take_append_drop z s, List.take_append, List.take_of_length_le (by rw [List.length_take]; omega), List.length_take, Nat.min_eq_left h2, h3]
    simp
  have hz : z = (esc v).length + 1 := by
    have := congrArg List.length h3
    rw [List.length_take, Nat.min_eq_left h2] at this; simpa using this
  rw [e, strL_esc, hz]
/-- A string that is not closed, and goes on behind a line feed, has no valid value. -/
theorem strL_nl : ∀ (k : Nat) (s : List UInt8) (_ : s.length ≤ k) (m : List UInt8) (v : List UInt8) (z : Nat), strL s = none → strL (s ++ 10 :: m) = some (v, z) → 10 ∈ v
  | _, [], _, m, v, z, _, h => by
    rw [List.nil_append, strL_else (by decide) (by decide)] at h
    obtain ⟨⟨v', z'⟩, _, he⟩ := Option.map_eq_some_iff.1 h
    obtain ⟨rfl, rfl⟩ := Prod.mk.inj he
    simp
  | 0, c :: r, hk, m, v, z, hn, h => by simp at hk
  | k + 1, c :: r, hk, m, v, z, hn, h => by
    simp at hk
    rw [List.cons_append] at h
    by_cases h0 : c.toNat = 34
    · rw [strL_34 h0] at hn; cases hn
    · by_cases h1 : c.toNat = 92
      · match r, hn, h with
        | [], hn, h =>
          rw [List.nil_append, strL_92 h1, if_neg (by decide)] at h
          cases h
        | d :: r2, hn, h =>
          rw [List.cons_append, strL_92 h1] at h
          rw [strL_92 h1] at hn
          split at h
          · rename_i hd
            rw [if_pos hd] at hn
            obtain ⟨⟨v', z'⟩, hs, he⟩ := Option.map_eq_some_iff.1 h
            obtain ⟨rfl, rfl⟩ := Prod.mk.inj he
            have := strL_nl k r2 (by simp at hk; omega) m v' z' (by simpa using hn) hs
            simp [this]
          · cases h
      · rw [strL_else h0 h1] at h hn
        obtain ⟨⟨v', z'⟩, hs, he⟩ := Option.map_eq_some_iff.1 h
        obtain ⟨rfl, rfl⟩ := Prod.mk.inj he
        have := strL_nl k r hk m v' z' (by simpa using hn) hs
        simp [this]
theorem valOk_10 {v : List UInt8} (h : 10 ∈ v) : valOk v = false := by
  unfold valOk
  rw [Bool.and_eq_false_iff]
  right
  rw [Bool.eq_false_iff]
  intro ha
  have := List.all_eq_true.1 ha 10 h
  revert this; decide
theorem tokS_nl (r m : List UInt8) : tokS (r ++ 10 :: m) = tokS r := by
  unfold tokS
  rcases h : strL r with _ | ⟨v, z⟩
  · rcases h2 : strL (r ++ 10 :: m) with _ | ⟨v, z⟩
    · rfl
    · simp only
      rw [if_neg (by rw [valOk_10 (strL_nl _ r (Nat.le_refl _) m v z h h2)]; simp)]
  · rw [strL_app r v z h]

/-! tokens -/
theorem tokL_nl (d : UInt8) (r m : List UInt8) : tokL (d :: (r ++ 10 :: m)) = tokL (d :: r) := by
  simp only [tokL]
  rw [tw_app_stop 10 (by decide), tw_app_stop 10 (by decide), tokS_nl]

/-- The bytes of a token. -/
def enc (k : Int) (t : List UInt8) : List UInt8 := if k = 2 then quo t else t
/-- What is so of each token that a text has. -/
def okT (k : Int) (t : List UInt8) (n : Int) : Prop :=
  k = 0 ∧ nameOk t = true ∧ n = 0 ∨ k = 1 ∧ (∃ u : Nat, numL t = some u ∧ n = u) ∨ k = 2 ∧ valOk t = true ∧ n = 0 ∨ k = 3 ∧ (∃ c, t = [c] ∧ signB c = true) ∧ n = 0

theorem quo_len (v : List UInt8) : (quo v).length = (esc v).length + 2 := by simp [quo]
theorem digB_name {c : UInt8} (h : digB c = true) : nameB c = true := by simp [nameB, h]
theorem tokL_ok {d : UInt8} {r : List UInt8} {k : Int} {t : List UInt8} {n : Int} {z : Nat} (h : tokL (d :: r) = .tok k t n z) :
    okT k t n ∧ z = (enc k t).length ∧ 1 ≤ z ∧ z ≤ r.length + 1 ∧ (d :: r).take z = enc k t := by
  simp only [tokL] at h
  split at h
  · rename_i h0
    split at h
    · rename_i h1
      injection h with e1 e2 e3 e4
      subst e1 e2 e3 e4
      refine ⟨.inl ⟨rfl, ?_, rfl⟩, by simp [enc], by omega, by have := tw_len (p := nameB) r; omega, ?_⟩
      · simp only [nameOk, h0, tw_all, Bool.true_and, decide_eq_true_eq]; exact h1
      · rw [List.take_succ_cons, tw_prefix]; simp [enc]
    · cases h
  · split at h
    · unfold tokN at h
      rcases hn : numL (d :: r.takeWhile digB) with _ | u
      · rw [hn] at h; cases h
      · rw [hn] at h
        injection h with e1 e2 e3 e4
        subst e1 e2 e3 e4
        refine ⟨.inr (.inl ⟨rfl, _, hn, rfl⟩), by simp [enc], by simp, by have := tw_len (p := digB) r; simp; omega, ?_⟩
        rw [List.length_cons, List.take_succ_cons, tw_prefix]; simp [enc]
    · split at h
      · rename_i h34
        have hd : d = 34 := by rw [← UInt8.toNat_inj]; exact h34
        unfold tokS at h
        rcases hs : strL r with _ | ⟨v, y⟩
        · rw [hs] at h; cases h
        · rw [hs] at h
          simp only at h
          split at h
          · rename_i hv
            injection h with e1 e2 e3 e4
            subst e1 e2 e3 e4
            obtain ⟨h1, h2, h3⟩ := strL_le _ r (Nat.le_refl _) v y hs
            have hy : y = (esc v).length + 1 := by
              have := congrArg List.length h3
              rw [List.length_take, Nat.min_eq_left h2] at this; simpa using this
            refine ⟨.inr (.inr (.inl ⟨rfl, hv, rfl⟩)), by rw [enc, if_pos rfl, quo_len]; omega, by omega, by omega, ?_⟩
            rw [List.take_succ_cons, h3, hd]; simp [enc, quo]
          · cases h
      · split at h
        · rename_i hs
          injection h with e1 e2 e3 e4
          subst e1 e2 e3 e4
          exact ⟨.inr (.inr (.inr ⟨rfl, ⟨d, rfl, hs⟩, rfl⟩)), by simp [enc], by omega, by omega, by simp [enc]⟩
        · cases h
/-- A token read from the beginning of a text. -/
theorem tokL_take {d : UInt8} {r : List UInt8} {k : Int} {t : List UInt8} {n : Int} {z : Nat} (h : tokL (d :: r) = .tok k t n z) (q : Nat) (hq : z ≤ q + 1) : tokL (d :: r.take q) = .tok k t n z := by
  have hh := h
  simp only [tokL] at h ⊢
  split at h
  · rename_i h0
    rw [if_pos h0]
    split at h
    · rename_i h1
      injection h with e1 e2 e3 e4
      subst e1 e2 e3 e4
      rw [tw_take r q (by omega), if_pos h1]
    · cases h
  · rename_i h0
    rw [if_neg h0]
    split at h
    · rename_i h1
      rw [if_pos h1]
      have hl : (r.takeWhile digB).length ≤ q := by
        unfold tokN at h
        split at h
        · cases h
        · injection h with e1 e2 e3 e4
          rw [List.length_cons] at e4; omega
      rw [tw_take r q hl]; exact h
    · rename_i h1
      rw [if_neg h1]
      split at h
      · rename_i h2
        rw [if_pos h2]
        unfold tokS at h ⊢
        rcases hs : strL r with _ | ⟨v, y⟩
        · rw [hs] at h; cases h
        · rw [hs] at h
          simp only at h
          have hy : y ≤ q := by
            split at h
            · injection h with e1 e2 e3 e4; omega
            · cases h
          rw [strL_take r v y hs q hy]; exact h
      · rename_i h2
        rw [if_neg h2]
        exact h

theorem letB_dig {c : UInt8} (h : letB c = true) : digB c = false := by
  unfold letB at h; unfold digB; simp at *; omega
theorem letB_34 {c : UInt8} (h : letB c = true) : c.toNat ≠ 34 := by
  unfold letB at h; simp at *; omega
theorem digB_let {c : UInt8} (h : digB c = true) : letB c = false := by
  unfold digB at h; unfold letB; simp at *; omega
theorem signB_not {c : UInt8} (h : signB c = true) : letB c = false ∧ digB c = false ∧ c.toNat ≠ 34 ∧ blankB c = false ∧ c.toNat ≠ 35 := by
  unfold signB signL at h
  simp only [List.contains_iff_mem, List.mem_cons, List.not_mem_nil, or_false] at h
  rcases h with rfl | rfl | rfl | rfl | rfl | rfl | rfl | rfl | rfl | rfl | rfl | rfl | rfl <;> decide
theorem dec_all (u : Nat) : (Lib.decDigits u).all digB = true := by
  induction u using Nat.strongRecOn with
  | _ u ih =>
    rw [Lib.decDigits]
    split
    · have : (UInt8.ofNat (48 + u)).toNat = 48 + u := by simp; omega
      simp only [List.all_cons, List.all_nil, Bool.and_true, digB, this, decide_eq_true_eq]; omega
    · have : (UInt8.ofNat (48 + u % 10)).toNat = 48 + u % 10 := by simp; omega
      rw [List.all_append, ih (u / 10) (by omega)]
      simp only [List.all_cons, List.all_nil, Bool.and_true, digB, this, decide_eq_true_eq, Bool.true_and]; omega
theorem dec_ne (u : Nat) : Lib.decDigits u ≠ [] := by
  intro h; have := Lib.decDigits_length u; have h2 := Lib.nDigits_pos u; rw [h] at this; simp at this; omega
theorem val10_snoc (l : List UInt8) (c : UInt8) : val10 (l ++ [c]) = 10 * val10 l + (c.toNat - 48) := by simp [val10]
theorem val10_dec (u : Nat) : val10 (Lib.decDigits u) = u := by
  induction u using Nat.strongRecOn with
  | _ u ih =>
    rw [Lib.decDigits]
    split
    · have e : (UInt8.ofNat (48 + u)).toNat = 48 + u := by simp; omega
      show 10 * 0 + ((UInt8.ofNat (48 + u)).toNat - 48) = u
      rw [e]; omega
    · have e : (UInt8.ofNat (48 + u % 10)).toNat = 48 + u % 10 := by simp; omega
      rw [val10_snoc, ih (u / 10) (by omega), e]; omega
theorem numL_some {s : List UInt8} {u : Nat} (h : numL s = some u) : s = Lib.decDigits u ∧ u ≤ 1099511627776 := by
  unfold numL at h
  split at h
  · rename_i h1; injection h with h; subst h; exact h1
  · cases h
theorem numL_dec {u : Nat} (h : u ≤ 1099511627776) : numL (Lib.decDigits u) = some u := by
  unfold numL; rw [val10_dec, if_pos ⟨rfl, h⟩]

/-- A valid token, and behind it nothing or a blank. -/
theorem tokL_enc {k : Int} {t : List UInt8} {n : Int} (h : okT k t n) (m : List UInt8) (hm : m = [] ∨ ∃ m', m = 32 :: m') :
    ∃ d r, enc k t ++ m = d :: r ∧ tokL (d :: r) = .tok k t n (enc k t).length ∧ blankB d = false ∧ d.toNat ≠ 35 := by
  have hm1 : m = [] ∨ ∃ b m', m = b :: m' ∧ nameB b = false := by
    rcases hm with rfl | ⟨m', rfl⟩
    · exact .inl rfl
    · exact .inr ⟨32, m', rfl, by decide⟩
  have hm2 : m = [] ∨ ∃ b m', m = b :: m' ∧ digB b = false := by
    rcases hm with rfl | ⟨m', rfl⟩
    · exact .inl rfl
    · exact .inr ⟨32, m', rfl, by decide⟩
  rcases h with ⟨rfl, h, rfl⟩ | ⟨rfl, ⟨u, h, rfl⟩⟩ | ⟨rfl, h, rfl⟩ | ⟨rfl, ⟨c, rfl, h⟩, rfl⟩
  · match t, h with
    | c :: r, h =>
      simp only [nameOk, Bool.and_eq_true, decide_eq_true_eq] at h
      obtain ⟨h0, h1, h2⟩ := h
      refine ⟨c, r ++ m, by simp [enc], ?_, ?_, ?_⟩
      · simp only [tokL]
        rw [if_pos h0, tw_of_all r h1 m hm1, if_pos h2]
        simp [enc]
      · unfold letB at h0; unfold blankB; simp at *; omega
      · unfold letB at h0; simp at h0; omega
  · obtain ⟨e, hu⟩ := numL_some h
    match t, h, e with
    | [], _, e => exact absurd e.symm (dec_ne u)
    | c :: r, h, e =>
      have ha := dec_all u
      rw [← e, List.all_cons, Bool.and_eq_true] at ha
      obtain ⟨h0, h1⟩ := ha
      refine ⟨c, r ++ m, by simp [enc], ?_, ?_, ?_⟩
      · simp only [tokL]
        rw [if_neg (by rw [digB_let h0]; simp), if_pos h0, tw_of_all r h1 m hm2]
        unfold tokN
        rw [h]
        simp [enc]
      · unfold digB at h0; unfold blankB; simp at *; omega
      · unfold digB at h0; simp at h0; omega
  · refine ⟨34, esc t ++ [34] ++ m, by simp [enc, quo], ?_, by decide, by decide⟩
    simp only [tokL]
    rw [if_neg (by decide), if_neg (by decide), if_pos (by decide)]
    unfold tokS
    rw [List.append_assoc, show [34] ++ m = (34 : UInt8) :: m from rfl, strL_esc]
    simp only
    rw [if_pos h, enc, if_pos rfl, quo_len]
  · obtain ⟨h1, h2, h3, h4, h5⟩ := signB_not h
    refine ⟨c, m, by simp [enc], ?_, h4, h5⟩
    simp only [tokL]
    rw [if_neg (by rw [h1]; simp), if_neg (by rw [h2]; simp), if_neg h3, if_pos h]
    simp [enc]
end Go.Proofs.YtagkdhcclkbjgaaDoor.Le
