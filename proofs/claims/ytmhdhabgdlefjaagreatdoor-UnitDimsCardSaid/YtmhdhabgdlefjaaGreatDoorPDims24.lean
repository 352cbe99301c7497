/- The contracts of the reference of unit: Mul, Div, To, From, for valid arguments. Units: how their strings are read, plain mathematics. No program. A slice at the head of a block of its own: append; slices of strings. -/
import Derived.Test.YtmhdhabgdlefjaaGreatDoorPDims22
import Derived.Test.YtmhdhabgdlefjaaGreatDoorPDims23
import Derived.Test.YtmhdhabgdlefjaaGreatDoorPDims20
import Derived.Deep.AppendSrc
import Derived.Deep.AppendLies
import Derived.Lib.AppendZeros
import Derived.Lib.AppendIntMem
import Derived.Sort.OwnSorted
import Derived.Test.YtmhdhabgdlefjaaGreatDoorPDims19
set_option maxRecDepth 100000
namespace Go.Proofs.YtmhdhabgdlefjaaGreatDoor.Un
open Go.RowKit Bi Dm

/-- A unit and an error, as results. -/
def UVE (f : Nat → Int) (r : Rat) (er : Int) (w : World) (e : Ending) (w' : World) : Prop := ∃ s a n c b m d, e = .returned (.tuple #[.agg (uc f s (.slice a n c) 1 (.slice b m d)), .int .i64 er]) ∧ Fr w' s (.slice a n c) (.slice b m d) r ∧ RowKit.Below w.heap.size w w' ∧ Fresh w.heap.size (.slice a n c) ∧ Fresh w.heap.size (.slice b m d)
/-- The zero unit and an error. -/
def UZE (er : Int) (w : World) (e : Ending) (w' : World) : Prop := e = .returned (.tuple #[.agg (uc zf 0 (.slice none 0 0) 0 (.slice none 0 0)), .int .i64 er]) ∧ RowKit.Below w.heap.size w w'
end Go.Proofs.YtmhdhabgdlefjaaGreatDoor.Un

namespace Go.Proofs.YtmhdhabgdlefjaaGreatDoor.Un
open Go Dm

/-! ## Items -/
def letterB (c : UInt8) : Bool := (decide (97 ≤ c.toNat) && decide (c.toNat ≤ 122)) || (decide (65 ≤ c.toNat) && decide (c.toNat ≤ 90))
def digitB (c : UInt8) : Bool := decide (50 ≤ c.toNat) && decide (c.toNat ≤ 57)
def signB (c : UInt8) : Bool := decide (c = 42) || decide (c = 47)
/-- The exponent at the beginning, and what follows. -/
def expL : List UInt8 → Nat × List UInt8
  | [] => (1, [])
  | c :: r => if digitB c then (c.toNat - 48, r) else (1, c :: r)
/-- The item at the beginning, and what follows. -/
def itemL (s : List UInt8) : Option ((List UInt8 × Nat) × List UInt8) :=
  if s.takeWhile letterB = [] then none else some ((s.takeWhile letterB, (expL (s.dropWhile letterB)).1), (expL (s.dropWhile letterB)).2)
/-- Signs and items to the end. -/
def tailI : Nat → List UInt8 → Option (List (List UInt8 × Int))
  | _, [] => some []
  | 0, _ :: _ => none
  | k + 1, c :: r => if signB c then (match itemL r with
    | none => none
    | some ((w, n), r') => (tailI k r').map (fun l => (w, if c = 47 then -(n : Int) else (n : Int)) :: l)) else none
def tailL (s : List UInt8) : Option (List (List UInt8 × Int)) := tailI s.length s
def itemsL (s : List UInt8) : Option (List (List UInt8 × Int)) :=
  if 40 < s.length then none else match s with
    | [] => some []
    | c :: r => if c = 49 then tailL r else tailL (42 :: c :: r)

theorem expL_len (s : List UInt8) : (expL s).2.length ≤ s.length := by
  cases s with
  | nil => exact Nat.le_refl _
  | cons c r => rw [expL]; split <;> simp
theorem item_len {s r : List UInt8} {x : List UInt8 × Nat} (h : itemL s = some (x, r)) : r.length < s.length := by
  unfold itemL at h
  split at h
  · cases h
  · rename_i hne
    simp only [Option.some.injEq, Prod.mk.injEq] at h
    have h1 := expL_len (s.dropWhile letterB)
    rw [h.2] at h1
    have h2 : (s.takeWhile letterB).length + (s.dropWhile letterB).length = s.length := by rw [← List.length_append, List.takeWhile_append_dropWhile]
    have h3 : 0 < (s.takeWhile letterB).length := List.length_pos_iff.2 hne
    omega
theorem tailI_nil (k : Nat) : tailI k [] = some [] := by cases k <;> rfl
theorem tailI_any : ∀ (j k : Nat) (s : List UInt8), s.length ≤ j → s.length ≤ k → tailI j s = tailI k s := by
  intro j
  induction j with
  | zero =>
    intro k s hs _
    have : s = [] := List.eq_nil_of_length_eq_zero (by omega)
    subst this; rw [tailI_nil, tailI_nil]
  | succ j ih =>
    intro k s hs hk
    cases s with
    | nil => rw [tailI_nil, tailI_nil]
    | cons c r =>
      cases k with
      | zero => simp at hk
      | succ k =>
        rw [tailI, tailI]
        simp only [List.length_cons, Nat.add_le_add_iff_right] at hs hk
        rcases hi : itemL r with _ | ⟨⟨w, n⟩, r'⟩
        · rfl
        · have hl := item_len hi
          simp only
          rw [ih k r' (by omega) (by omega)]
theorem tailL_nil : tailL [] = some [] := rfl
theorem tailL_bad {c : UInt8} {r : List UInt8} (h : signB c = false) : tailL (c :: r) = none := by
  unfold tailL; rw [List.length_cons, tailI, h]; rfl
theorem tailL_none {c : UInt8} {r : List UInt8} (h : itemL r = none) : tailL (c :: r) = none := by
  unfold tailL; rw [List.length_cons, tailI, h]; split <;> rfl
theorem tailL_some {c : UInt8} {r r' w : List UInt8} {n : Nat} (hc : signB c = true) (h : itemL r = some ((w, n), r')) : tailL (c :: r) = (tailL r').map (fun l => (w, if c = 47 then -(n : Int) else (n : Int)) :: l) := by
  have hl := item_len h
  unfold tailL
  rw [List.length_cons, tailI, if_pos hc, h]
  simp only
  rw [tailI_any r.length r'.length r' (by omega) (Nat.le_refl _)]

/-! ## Concatenation -/
theorem sign_no {c : UInt8} (h : signB c = true) : letterB c = false ∧ digitB c = false := by
  unfold signB at h
  simp only [Bool.or_eq_true, decide_eq_true_eq] at h
  rcases h with rfl | rfl <;> decide
theorem take_app (c : UInt8) (h : letterB c = false) (t : List UInt8) : ∀ s : List UInt8, (s ++ c :: t).takeWhile letterB = s.takeWhile letterB ∧ (s ++ c :: t).dropWhile letterB = s.dropWhile letterB ++ c :: t
  | [] => by simp [h]
  | b :: s => by
    have ih := take_app c h t s
    by_cases hb : letterB b = true
    · simp [hb, ih.1, ih.2]
    · have hb' : letterB b = false := by simpa using hb
      simp [hb']
theorem exp_app (c : UInt8) (h : digitB c = false) (t : List UInt8) (s : List UInt8) : expL (s ++ c :: t) = ((expL s).1, (expL s).2 ++ c :: t) := by
  cases s with
  | nil =>
    show expL (c :: t) = (1, [] ++ c :: t)
    rw [expL, if_neg (by rw [h]; decide)]; rfl
  | cons b s =>
    rw [List.cons_append, expL, expL]
    split <;> rfl
theorem item_app {c : UInt8} (hc : signB c = true) (t : List UInt8) {s r : List UInt8} {x : List UInt8 × Nat} (h : itemL s = some (x, r)) : itemL (s ++ c :: t) = some (x, r ++ c :: t) := by
  obtain ⟨h1, h2⟩ := sign_no hc
  obtain ⟨h3, h4⟩ := take_app c h1 t s
  unfold itemL at h ⊢
  rw [h3, h4, exp_app c h2]
  split at h
  · cases h
  · rename_i hne
    rw [if_neg hne]
    simp only [Option.some.injEq, Prod.mk.injEq] at h ⊢
    exact ⟨h.1, by rw [h.2]⟩
theorem tail_app {c : UInt8} (hc : signB c = true) (t : List UInt8) : ∀ (k : Nat) (s : List UInt8) (l : List (List UInt8 × Int)), s.length ≤ k → tailL s = some l → tailL (s ++ c :: t) = (tailL (c :: t)).map (l ++ ·)
  | _, [], l, _, h => by
    rw [tailL_nil] at h
    injection h with h; subst h
    simp
  | 0, b :: s, _, hk, _ => by simp at hk
  | k + 1, b :: s, l, hk, h => by
    by_cases hb : signB b = true
    · rcases hi : itemL s with _ | ⟨⟨w, n⟩, r⟩
      · rw [tailL_none hi] at h; cases h
      · have hl := item_len hi
        rw [tailL_some hb hi] at h
        obtain ⟨m, hm, rfl⟩ := Option.map_eq_some_iff.1 h
        have ih := tail_app hc t k r m (by simp at hk; omega) hm
        rw [List.cons_append, tailL_some hb (item_app hc t hi), ih, Option.map_map]
        rfl
    · rw [tailL_bad (by simpa using hb)] at h; cases h
theorem items_star {t : List UInt8} (hl : t.length ≤ 40) (ht : t.head? ≠ some 49) (hn : t ≠ []) : itemsL t = tailL (42 :: t) := by
  unfold itemsL
  rw [if_neg (by omega)]
  cases t with
  | nil => exact absurd rfl hn
  | cons b t =>
    simp only
    rw [if_neg (fun e => ht (by rw [e]; rfl))]
theorem tail_one {t w : List UInt8} {n : Int} (h : tailL (42 :: t) = some [(w, n)]) : tailL (47 :: t) = some [(w, -n)] := by
  rcases hi : itemL t with _ | ⟨⟨v, m⟩, r⟩
  · rw [tailL_none hi] at h; cases h
  · rw [tailL_some (by decide) hi] at h ⊢
    rcases hr : tailL r with _ | l
    · rw [hr] at h; cases h
    · rw [hr] at h
      simp only [Option.map_some, Option.some.injEq, List.cons.injEq, Prod.mk.injEq] at h ⊢
      obtain ⟨⟨h1, h2⟩, h3⟩ := h
      refine ⟨⟨h1, ?_⟩, h3⟩
      rw [if_neg (by decide)] at h2
      rw [if_pos trivial, h2]

/-! ## Words -/
def symL (w : List UInt8) : Option (Nat × Int × Rat) :=
  if w = [103] then some (0, 1, 1) else if w = [116] then some (0, 1, 1000000) else if w = [109] then some (1, 1, 1)
  else if w = [108] then some (1, 3, 1 / 1000) else if w = [115] then some (2, 1, 1) else if w = [104] then some (2, 1, 3600)
  else if w = [100] then some (2, 1, 86400) else if w = [74] then some (3, 1, 1) else if w = [87, 104] then some (3, 1, 3600)
  else if w = [99, 101, 110, 116] then some (4, 1, 1) else if w = [101, 117, 114] then some (4, 1, 100) else if w = [112, 99] then some (5, 1, 1) else none
def preL (c : UInt8) : Option Rat := if c = 107 then some 1000 else if c = 77 then some 1000000 else if c = 71 then some 1000000000 else if c = 109 then some (1 / 1000) else none
def canP (w : List UInt8) : Bool := decide (w = [103]) || decide (w = [109]) || decide (w = [108]) || decide (w = [115]) || decide (w = [74]) || decide (w = [87, 104])
def wordL (w : List UInt8) : Option (Nat × Int × Rat) :=
  match symL w with
  | some u => some u
  | none => match w with
    | [] => none
    | c :: r => match preL c with
      | none => none
      | some p => if canP r then (symL r).map (fun u => (u.1, u.2.1, u.2.2 * p)) else none
def pwN (q : Rat) : Nat → Rat
  | 0 => 1
  | n + 1 => pwN q n * q
def pwZ (q : Rat) (n : Int) : Rat := if 0 ≤ n then pwN q n.toNat else 1 / pwN q (-n).toNat
/-- The items' dimensions and factors. -/
def evL : List (List UInt8 × Int) → (Nat → Int) → Rat → Option ((Nat → Int) × Rat)
  | [], f, r => some (f, r)
  | (w, n) :: l, f, r => match wordL w with
    | none => none
    | some (b, e, q) => evL l (fun i => f i + (if i = b then e * n else 0)) (r * pwZ q n)
theorem evL_app : ∀ (l m : List (List UInt8 × Int)) (f : Nat → Int) (r : Rat), evL (l ++ m) f r = (evL l f r).bind (fun x => evL m x.1 x.2)
  | [], m, f, r => rfl
  | (w, n) :: l, m, f, r => by
    rw [List.cons_append, evL, evL]
    rcases wordL w with _ | ⟨b, e, q⟩
    · rfl
    · exact evL_app l m _ _
theorem one_one : (1 : Rat) / 1 = 1 := by rw [Rat.div_def]; exact Rat.mul_inv_cancel 1 (by decide)
theorem pwN_ne {q : Rat} (h : q ≠ 0) : ∀ n, pwN q n ≠ 0
  | 0 => by unfold pwN; decide
  | n + 1 => by
    unfold pwN
    intro e
    rcases Rat.mul_eq_zero.1 e with e | e
    · exact pwN_ne h n e
    · exact h e
/-! ## The strings of dimensions are strings of units -/
/-- Signs and powers, as bytes. -/
def encI : List (Bool × Nat × Nat) → List UInt8
  | [] => []
  | (b, i, n) :: l => (if b then 47 else 42) :: (pw i n ++ encI l)
theorem encI_app : ∀ l m : List (Bool × Nat × Nat), encI (l ++ m) = encI l ++ encI m
  | [], m => rfl
  | (b, i, n) :: l, m => by rw [List.cons_append, encI, encI, encI_app l m]; simp
theorem encI_head (l : List (Bool × Nat × Nat)) : encI l = [] ∨ ∃ c t, encI l = c :: t ∧ signB c = true := by
  cases l with
  | nil => exact .inl rfl
  | cons x l =>
    obtain ⟨b, i, n⟩ := x
    refine .inr ⟨_, _, rfl, ?_⟩
    cases b <;> decide
theorem sy_letters (i : Nat) (h : i < 6) : ∀ c ∈ sy i, letterB c = true := by
  rcases lt6 h with rfl | rfl | rfl | rfl | rfl | rfl <;> decide
theorem take_all {p : UInt8 → Bool} {a b : List UInt8} (h : ∀ c ∈ a, p c = true) (hb : b = [] ∨ ∃ c t, b = c :: t ∧ p c = false) : (a ++ b).takeWhile p = a ∧ (a ++ b).dropWhile p = b := by
  induction a with
  | nil =>
    rcases hb with rfl | ⟨c, t, rfl, hc⟩
    · exact ⟨rfl, rfl⟩
    · simp [hc]
  | cons x a ih =>
    have hx := h x (by simp)
    have := ih (fun c hc => h c (by simp [hc]))
    simp [hx, this.1, this.2]
theorem dig9 {n : Nat} (h0 : 1 ≤ n) (h1 : n ≤ 9) : letterB (UInt8.ofNat (48 + n)) = false ∧ (n ≠ 1 → digitB (UInt8.ofNat (48 + n)) = true) ∧ (UInt8.ofNat (48 + n)).toNat = 48 + n := by
  have : n = 1 ∨ n = 2 ∨ n = 3 ∨ n = 4 ∨ n = 5 ∨ n = 6 ∨ n = 7 ∨ n = 8 ∨ n = 9 := by omega
  rcases this with rfl | rfl | rfl | rfl | rfl | rfl | rfl | rfl | rfl <;> decide
theorem item_pw {i n : Nat} (h : i < 6) (h0 : 1 ≤ n) (h1 : n ≤ 9) {t : List UInt8} (ht : t = [] ∨ ∃ c r, t = c :: r ∧ signB c = true) : itemL (pw i n ++ t) = some ((sy i, n), t) := by
  have hex : expL t = (1, t) := by
    rcases ht with rfl | ⟨c, r, rfl, hc⟩
    · rfl
    · rw [expL, (sign_no hc).2]; rfl
  have htl : t = [] ∨ ∃ c r, t = c :: r ∧ letterB c = false := by
    rcases ht with rfl | ⟨c, r, rfl, hc⟩
    · exact .inl rfl
    · exact .inr ⟨c, r, rfl, (sign_no hc).1⟩
  unfold itemL pw
  by_cases e : n = 1
  · subst e
    rw [if_pos rfl]
    obtain ⟨h3, h4⟩ := take_all (sy_letters i h) htl
    rw [h3, h4, if_neg (sy_ne i h), hex]
  · rw [if_neg e, List.append_assoc]
    obtain ⟨d1, d2, d3⟩ := dig9 h0 h1
    obtain ⟨h3, h4⟩ := take_all (b := [UInt8.ofNat (48 + n)] ++ t) (sy_letters i h) (.inr ⟨_, _, rfl, d1⟩)
    rw [h3, h4, if_neg (sy_ne i h)]
    show some ((sy i, (expL (UInt8.ofNat (48 + n) :: t)).1), _) = _
    rw [List.singleton_append, expL, if_pos (d2 e), d3]
    simp
def decI (l : List (Bool × Nat × Nat)) : List (List UInt8 × Int) := l.map (fun x => (sy x.2.1, if x.1 then -(x.2.2 : Int) else (x.2.2 : Int)))
theorem tail_enc : ∀ l : List (Bool × Nat × Nat), (∀ x ∈ l, x.2.1 < 6 ∧ 1 ≤ x.2.2 ∧ x.2.2 ≤ 9) → tailL (encI l) = some (decI l)
  | [], _ => rfl
  | (b, i, n) :: l, h => by
    obtain ⟨h1, h2, h3⟩ := h (b, i, n) (by simp)
    have ih := tail_enc l (fun x hx => h x (by simp [hx]))
    rw [encI, tailL_some (by cases b <;> decide) (item_pw h1 h2 h3 (encI_head l)), ih]
    cases b <;> rfl
def upL (f : Nat → Int) : Nat → List (Bool × Nat × Nat)
  | 0 => []
  | k + 1 => upL f k ++ (if 0 < f k then [(false, k, (f k).toNat)] else [])
def dnL (f : Nat → Int) : Nat → List (Bool × Nat × Nat)
  | 0 => []
  | k + 1 => dnL f k ++ (if f k < 0 then [(true, k, (-(f k)).toNat)] else [])
theorem enc_up (f : Nat → Int) : ∀ k, encI (upL f k) = Lib.joinTail [42] (ups f k)
  | 0 => rfl
  | k + 1 => by
    rw [upL, ups, encI_app, enc_up f k]
    split <;> simp [Lib.joinTail, encI]
theorem enc_dn (f : Nat → Int) : ∀ k, encI (dnL f k) = tail (dns f k)
  | 0 => rfl
  | k + 1 => by
    rw [dnL, dns, encI_app, enc_dn f k, Dm.tail_app]
    split <;> simp [tail, encI]
theorem up_in (f : Nat → Int) (hf : ok f = true) : ∀ k, k ≤ 6 → ∀ x ∈ upL f k, x.2.1 < 6 ∧ 1 ≤ x.2.2 ∧ x.2.2 ≤ 9
  | 0, _ => by intro x hx; simp [upL] at hx
  | k + 1, h => by
    have hb := (ok_iff f).1 hf k (by omega)
    intro x hx
    rw [upL] at hx
    rcases List.mem_append.1 hx with hx | hx
    · exact up_in f hf k (by omega) x hx
    · split at hx
      · simp only [List.mem_singleton] at hx; subst hx; exact ⟨by show k < 6; omega, by show 1 ≤ (f k).toNat; omega, by show (f k).toNat ≤ 9; omega⟩
      · simp at hx
theorem dn_in (f : Nat → Int) (hf : ok f = true) : ∀ k, k ≤ 6 → ∀ x ∈ dnL f k, x.2.1 < 6 ∧ 1 ≤ x.2.2 ∧ x.2.2 ≤ 9
  | 0, _ => by intro x hx; simp [dnL] at hx
  | k + 1, h => by
    have hb := (ok_iff f).1 hf k (by omega)
    intro x hx
    rw [dnL] at hx
    rcases List.mem_append.1 hx with hx | hx
    · exact dn_in f hf k (by omega) x hx
    · split at hx
      · simp only [List.mem_singleton] at hx; subst hx; exact ⟨by show k < 6; omega, by show 1 ≤ (-(f k)).toNat; omega, by show (-(f k)).toNat ≤ 9; omega⟩
      · simp at hx
/-- The items of a dimension's string. -/
theorem items_txt (f : Nat → Int) (hf : ok f = true) : itemsL (txt f) = some (decI (upL f 6 ++ dnL f 6)) := by
  have hall : ∀ x ∈ upL f 6 ++ dnL f 6, x.2.1 < 6 ∧ 1 ≤ x.2.2 ∧ x.2.2 ≤ 9 := fun x hx => by
    rcases List.mem_append.1 hx with h | h
    · exact up_in f hf 6 (by omega) x h
    · exact dn_in f hf 6 (by omega) x h
  have ht := tail_enc _ hall
  rw [encI_app, enc_up, enc_dn] at ht
  have hl := txt_len f
  unfold itemsL
  rw [if_neg (by omega)]
  unfold txt head
  have hu := ups_no f hf 6 (by omega)
  by_cases h : ups f 6 = []
  · rw [if_pos h]
    rw [h] at ht
    exact ht
  · rw [if_neg h]
    obtain ⟨p, l, e⟩ := List.exists_cons_of_ne_nil h
    rw [e] at hu ht ⊢
    obtain ⟨_, _, c, t, rfl, hc⟩ := hu p (by simp)
    rw [Lib.join_cons]
    have e2 : Lib.joinTail [42] ((c :: t) :: l) = 42 :: (c :: t) ++ Lib.joinTail [42] l := by simp [Lib.joinTail]
    rw [e2] at ht
    simp only [List.cons_append] at ht ⊢
    rw [if_neg hc]
    exact ht
theorem pwN_1 : ∀ n, pwN 1 n = 1
  | 0 => rfl
  | n + 1 => by rw [pwN, pwN_1 n, Rat.mul_one]
theorem pwZ_1 (n : Int) : pwZ 1 n = 1 := by
  unfold pwZ
  split
  · exact pwN_1 _
  · rw [pwN_1]; exact one_one
theorem word_sy (i : Nat) (h : i < 6) : wordL (sy i) = some (i, 1, 1) := by
  rcases lt6 h with rfl | rfl | rfl | rfl | rfl | rfl <;> rfl
def expO (l : List (Bool × Nat × Nat)) (j : Nat) : Int := (l.map (fun x => if j = x.2.1 then (if x.1 then -(x.2.2 : Int) else (x.2.2 : Int)) else 0)).sum
theorem ev_dec : ∀ (l : List (Bool × Nat × Nat)), (∀ x ∈ l, x.2.1 < 6) → ∀ f : Nat → Int, evL (decI l) f 1 = some (fun j => f j + expO l j, 1)
  | [], _, f => by
    show some (f, (1 : Rat)) = _
    simp only [Option.some.injEq, Prod.mk.injEq, and_true]
    funext j; simp [expO]
  | (b, i, n) :: l, h, f => by
    have hi := h (b, i, n) (by simp)
    show evL ((sy i, _) :: decI l) f 1 = _
    rw [evL, word_sy i hi]
    simp only
    rw [pwZ_1, Rat.mul_one, ev_dec l (fun x hx => h x (by simp [hx]))]
    simp only [Option.some.injEq, Prod.mk.injEq, and_true]
    funext j
    simp only [expO, List.map_cons, List.sum_cons, Int.one_mul]
    by_cases e : j = i <;> simp [e] <;> omega
theorem expO_app (l m : List (Bool × Nat × Nat)) (j : Nat) : expO (l ++ m) j = expO l j + expO m j := by simp [expO]
theorem expO_up (f : Nat → Int) (j : Nat) : ∀ k, expO (upL f k) j = if j < k ∧ 0 < f j then f j else 0
  | 0 => by simp [expO, upL]
  | k + 1 => by
    rw [upL, expO_app, expO_up f j k]
    by_cases e : j = k
    · subst e
      rw [if_neg (by omega)]
      by_cases h : 0 < f j
      · rw [if_pos h, if_pos ⟨by omega, h⟩]
        simp [expO]; omega
      · rw [if_neg h, if_neg (fun c => h c.2)]
        simp [expO]
    · have : expO (if 0 < f k then [(false, k, (f k).toNat)] else []) j = 0 := by
        split <;> simp [expO, e]
      rw [this]
      by_cases c : j < k ∧ 0 < f j
      · rw [if_pos c, if_pos ⟨by omega, c.2⟩]; omega
      · rw [if_neg c, if_neg (fun c' => c ⟨by omega, c'.2⟩)]; rfl
theorem expO_dn (f : Nat → Int) (j : Nat) : ∀ k, expO (dnL f k) j = if j < k ∧ f j < 0 then f j else 0
  | 0 => by simp [expO, dnL]
  | k + 1 => by
    rw [dnL, expO_app, expO_dn f j k]
    by_cases e : j = k
    · subst e
      rw [if_neg (by omega)]
      by_cases h : f j < 0
      · rw [if_pos h, if_pos ⟨by omega, h⟩]
        simp [expO]; omega
      · rw [if_neg h, if_neg (fun c => h c.2)]
        simp [expO]
    · have : expO (if f k < 0 then [(true, k, (-(f k)).toNat)] else []) j = 0 := by
        split <;> simp [expO, e]
      rw [this]
      by_cases c : j < k ∧ f j < 0
      · rw [if_pos c, if_pos ⟨by omega, c.2⟩]; omega
      · rw [if_neg c, if_neg (fun c' => c ⟨by omega, c'.2⟩)]; rfl
/-- What the items of a dimension's string denote. -/
theorem ev_txt (f : Nat → Int) (hf : ok f = true) : ∃ g, evL (decI (upL f 6 ++ dnL f 6)) zf 1 = some (g, 1) ∧ ∀ i, i < 6 → g i = f i := by
  refine ⟨_, ev_dec _ (fun x hx => ?_) zf, fun i hi => ?_⟩
  · rcases List.mem_append.1 hx with h | h
    · exact (up_in f hf 6 (by omega) x h).1
    · exact (dn_in f hf 6 (by omega) x h).1
  · rw [expO_app, expO_up, expO_dn]
    unfold zf
    by_cases h1 : 0 < f i
    · rw [if_pos ⟨hi, h1⟩, if_neg (by omega)]; omega
    · rw [if_neg (fun c => h1 c.2)]
      by_cases h2 : f i < 0
      · rw [if_pos ⟨hi, h2⟩]; omega
      · rw [if_neg (fun c => h2 c.2)]; omega
end Go.Proofs.YtmhdhabgdlefjaaGreatDoor.Un

namespace Go.Proofs.YtmhdhabgdlefjaaGreatDoor.Dm
open Go.RowKit

theorem alloc_at (w : World) (O : Obj) : (w.alloc O).heap[w.heap.size]? = some O := heap_alloc_new w O
theorem grownBy_none {w w' : World} (h : RowKit.Below w.heap.size w w') : w.grownBy w' none := ⟨h.os, h.tape, h.output, h.size, fun k hk _ => h.block k hk⟩
/-- The slice v has n elements, the cells xs; it lies at the head of a block of its own if it has room for any. -/
def Own (w : World) (e size : Nat) (v : Value) (n : Nat) (xs : List Value) : Prop :=
  xs.length = n * size ∧ ((∃ a, v = .slice a 0 0 ∧ n = 0) ∨ ∃ g cap cur, v = .slice (some ⟨g, 0, none⟩) n cap ∧ w.heap[g]? = some (.cells cur e (0, 0)) ∧ n ≤ cap ∧ 0 < cap ∧ cap ≤ maxLen ∧ cur.size = cap * size ∧ cur.toList.take (n * size) = xs)

/-- The block that it may write. -/
def blk : Value → Option Nat
  | .slice (some a) _ (_ + 1) => some a.block
  | _ => none

section
variable {w : World} {e size : Nat} {v : Value} {n : Nat} {xs : List Value}

theorem Own.nil (w : World) (e size : Nat) : Own w e size (.slice none 0 0) 0 [] := ⟨by simp, .inl ⟨none, rfl, rfl⟩⟩
theorem blk_zero (a : Option Addr) (n : Nat) : blk (.slice a n 0) = none := by cases a <;> rfl
theorem blk_pos {g n cap : Nat} (h : 0 < cap) : blk (.slice (some ⟨g, 0, none⟩) n cap) = some g := by
  cases cap with
  | zero => omega
  | succ c => rfl

theorem Own.shape (h : Own w e size v n xs) : ∃ a cap, v = .slice a n cap ∧ n ≤ cap ∧ cap ≤ maxLen := by
  rcases h.2 with ⟨a, rfl, rfl⟩ | ⟨g, cap, cur, rfl, _, h1, _, h2, _⟩
  · exact ⟨a, 0, rfl, Nat.le_refl _, Nat.zero_le _⟩
  · exact ⟨_, cap, rfl, h1, h2⟩
theorem Own.len (h : Own w e size v n xs) : n ≤ maxLen := by
  obtain ⟨a, cap, _, h1, h2⟩ := h.shape
  omega
theorem Own.lt (h : Own w e size v n xs) : ∀ b, blk v = some b → b < w.heap.size := by
  intro b hb
  rcases h.2 with ⟨a, rfl, rfl⟩ | ⟨g, cap, cur, rfl, hg, _, hc, _⟩
  · rw [blk_zero] at hb; cases hb
  · rw [blk_pos hc] at hb
    cases hb
    exact (Array.getElem?_eq_some_iff.1 hg).1
theorem Own.kept {w' : World} (h : Own w e size v n xs) (hg : ∀ b, blk v = some b → w'.heap[b]? = w.heap[b]?) : Own w' e size v n xs := by
  refine ⟨h.1, ?_⟩
  rcases h.2 with hn | ⟨g, cap, cur, rfl, hgg, h1, h2, rest⟩
  · exact .inl hn
  · exact .inr ⟨g, cap, cur, rfl, (hg g (blk_pos h2)).trans hgg, h1, h2, rest⟩
theorem Own.grown {w' : World} {row : Option Nat} (h : Own w e size v n xs) (hg : w.grownBy w' row) (hne : blk v = none ∨ blk v ≠ row) : Own w' e size v n xs :=
  h.kept fun b hb => hg.block b (h.lt b hb) (fun e => by
    rcases hne with h1 | h1
    · rw [h1] at hb; cases hb
    · exact h1 (by rw [hb, e]))
theorem Own.cell {a : Option Addr} {cap : Nat} (h : Own w e size (.slice a n cap) n xs) {j : Nat} {u : Value} (hu : xs[j]? = some u) : ∃ g, a = some ⟨g, 0, none⟩ ∧ w.cell? ⟨g, j, none⟩ = some u := by
  rcases h.2 with ⟨a', hv, rfl⟩ | ⟨g, cap', cur, hv, hgg, hn, hc, hm, hcs, ht⟩
  · have : xs = [] := List.eq_nil_of_length_eq_zero (by simpa using h.1)
    subst this
    cases hu
  · simp at hv
    obtain ⟨rfl, rfl⟩ := hv
    refine ⟨g, rfl, ?_⟩
    rw [cell_of_row w g j cur e (0, 0) hgg]
    rw [← ht, List.getElem?_take] at hu
    split at hu
    · simpa using hu
    · cases hu

/-- v[:m]. -/
theorem Own.take {a : Option Addr} {cap m : Nat} (h : Own w e size (.slice a n cap) n xs) (hm : m ≤ n) : Own w e size (.slice a m cap) m (xs.take (m * size)) := by
  have hmn : m * size ≤ n * size := Nat.mul_le_mul_right _ hm
  refine ⟨by rw [List.length_take, h.1]; omega, ?_⟩
  rcases h.2 with ⟨a', hv, rfl⟩ | ⟨g, cap', cur, hv, hgg, hn, hc, hm', hcs, ht⟩
  · simp at hv
    obtain ⟨rfl, rfl⟩ := hv
    obtain rfl : m = 0 := by omega
    exact .inl ⟨_, rfl, rfl⟩
  · simp at hv
    obtain ⟨rfl, rfl⟩ := hv
    refine .inr ⟨g, cap, cur, rfl, hgg, by omega, hc, hm', hcs, ?_⟩
    rw [← ht, List.take_take]
    congr 1
    omega

section
variable {P : Program}
/-- append, whatever is appended. -/
theorem own_append {t tx ty : TypeId} {i : TypeInfo} {z x : Value} {m bytes : Nat} {news : List Value} (ht : P.underlying t = some (.slice e)) (hi : P.info? e = some i) (hz : i.zero = some z)
    (hsize : i.size = size) (hby : i.bytes = bytes) (hzs : z.cells.size = size) (h : Own w e size v n xs) (hs : Src P size tx x m news w) (h63 : n + m ≤ maxLen) (hbytes : (n + m) * bytes ≤ 140737488355328) :
    ∃ v' w', (Builtin.append_ #[t, tx] ty #[v, x]).run P w = .ok v' w' ∧ Own w' e size v' (n + m) (xs ++ news) ∧ w.grownBy w' (blk v) ∧ (blk v' = none ∨ blk v' = blk v ∨ blk v' = some w.heap.size) := by
  subst hsize
  subst hby
  have hsmall : n + m ≤ 9223372036854775807 := by simp only [maxLen] at h63; omega
  have hlen : (xs ++ news).length = (n + m) * i.size := by rw [List.length_append, h.1, hs.newsLen, Nat.add_mul]
  have grown : ∀ (old : Nat), old < n + m → ∀ (row : Option Nat),
      Own (w.drew.alloc (.cells ((xs ++ news).toArray ++ Builtin.zeroCells z.cells (grownCap w (n + m) old e - (n + m))) e)) e i.size (.slice (some ⟨w.heap.size, 0, none⟩) (n + m) (grownCap w (n + m) old e)) (n + m) (xs ++ news) ∧
      w.grownBy (w.drew.alloc (.cells ((xs ++ news).toArray ++ Builtin.zeroCells z.cells (grownCap w (n + m) old e - (n + m))) e)) row ∧ blk (.slice (some ⟨w.heap.size, 0, none⟩) (n + m) (grownCap w (n + m) old e)) = some w.heap.size := by
    intro old ho row
    have hge := grownCap_ge w (n + m) old e
    have hcm : grownCap w (n + m) old e ≤ maxLen := grownCap_le_maxLen w (n + m) old e h63
    refine ⟨⟨hlen, .inr ⟨w.heap.size, _, _, rfl, heap_alloc_new w.drew _, hge, by omega, hcm, ?_, ?_⟩⟩, ⟨rfl, rfl, rfl, by simp, fun k hk _ => Below.heap_alloc w.drew _ k hk⟩, blk_pos (by omega)⟩
    · simp only [Array.size_append, List.size_toArray, size_zeroCells, hzs, hlen, ← Nat.add_mul]
      congr 1
      omega
    · simp only [Array.toList_append]
      rw [← hlen]
      exact List.take_left
  rcases h.2 with ⟨a, rfl, rfl⟩ | ⟨g, cap, cur, rfl, hg, hnc, hc0, hcm, hcs, htake⟩
  · have hx : xs = [] := List.eq_nil_of_length_eq_zero (by simpa using h.1)
    subst hx
    by_cases hm : m = 0
    · subst hm
      have hn : news = [] := List.eq_nil_of_length_eq_zero (by simpa using hs.newsLen)
      subst hn
      refine ⟨.slice a 0 0, w, ?_, ⟨by simp, .inl ⟨a, rfl, rfl⟩⟩, ⟨rfl, rfl, rfl, Nat.le_refl _, fun _ _ _ => rfl⟩, .inl (blk_zero _ _)⟩
      rcases hs.kind with ⟨e', hk⟩ | hk <;> cases a <;> simp [Builtin.append_, run_underlying ht, run_underlying hk, sizeOf, typeInfo, hi, hs.len, hs.cells, storeCells]
    · have hold : (Builtin.firstCells i.size 0 (.slice a 0 0)).run P w.drew = .ok ([] : List Value).toArray w.drew := by
        cases a <;> simp [Builtin.firstCells, loadCells, loadCellsFrom]
      have hr := run_append_grow_src w t tx ty e i z ht hi hz a 0 0 [] hold x m news hs (by omega) (by omega) (growslice_fits (by omega) (by simpa using hbytes))
      have hgr := grown 0 (by omega) (blk (.slice a 0 0))
      simp only [Nat.zero_add, List.nil_append] at hgr hr ⊢
      exact ⟨_, _, hr, hgr.1, hgr.2.1, .inr (.inr hgr.2.2)⟩
  · by_cases hroom : n + m ≤ cap
    · have hfit : n * i.size + news.length ≤ cur.size := by rw [hs.newsLen, hcs, ← Nat.add_mul]; exact Nat.mul_le_mul_right _ hroom
      have hst := run_storeCells_at P g (n * i.size) e news 0 cur w hg (by simpa using hfit) hs.one
      simp only [Nat.add_zero] at hst
      refine ⟨.slice (some ⟨g, 0, none⟩) (n + m) cap, w.setRow g (cur.toList.take (n * i.size) ++ news ++ cur.toList.drop (n * i.size + news.length)).toArray, ?_, ⟨hlen, .inr ⟨g, cap, _, rfl, setRow_heap w g cur _ e _ hg, hroom, hc0, hcm, ?_, ?_⟩⟩,
        ⟨rfl, rfl, rfl, by simp, fun k _ hk => setRow_other w g k _ (fun e => hk (by rw [blk_pos hc0, e]))⟩, .inr (.inl (by rw [blk_pos hc0, blk_pos hc0]))⟩
      · rcases hs.kind with ⟨e', hk⟩ | hk <;> simp [Builtin.append_, run_underlying ht, run_underlying hk, sizeOf, typeInfo, hi, hs.len, hroom, hs.cells, Addr.add_lit, hst]
      · simp only [List.size_toArray, List.length_append, List.length_take, List.length_drop, Array.length_toList]
        omega
      · rw [htake, ← hlen]
        exact List.take_left
    · have hold : (Builtin.firstCells i.size n (.slice (some ⟨g, 0, none⟩) n cap)).run P w.drew = .ok xs.toArray w.drew := by
        refine run_firstCells_some w.drew i.size n ⟨g, 0, none⟩ n cap xs h.1 (fun j u hu => ?_)
        have hadd : (⟨g, 0, none⟩ : Addr).add j = ⟨g, j, none⟩ := by unfold Addr.add; split <;> simp_all
        rw [hadd]
        show w.cell? _ = _
        rw [cell_of_row w g j cur e (0, 0) hg]
        rw [← htake, List.getElem?_take] at hu
        split at hu
        · simpa using hu
        · cases hu
      have hr := run_append_grow_src w t tx ty e i z ht hi hz (some ⟨g, 0, none⟩) n cap xs hold x m news hs (by omega) (by omega) (growslice_fits (by omega) hbytes)
      have hgr := grown cap (by omega) (blk (.slice (some ⟨g, 0, none⟩) n cap))
      exact ⟨_, _, hr, hgr.1, hgr.2.1, .inr (.inr hgr.2.2)⟩

end
end

/-- The slice v has the strings l, at the head of a block of its own if it has room for any. -/
def OwnS (w : World) (v : Value) (l : List (List UInt8)) : Prop := Own w 9 1 v l.length (l.map encStr)
theorem infoS : (Tryz.prog.info? 9).map (fun i => (i.zero, i.size, i.bytes)) = some (some (.string ⟨#[]⟩), 1, 16) := by kernel_rfl
theorem OwnS.snoc {w : World} {v : Value} {l : List (List UInt8)} (h : OwnS w v l) (hl : l.length ≤ 100000000) (x : List UInt8) :
    ∃ a c w', (∀ ty, (Builtin.append_ #[57, 57] ty #[v, .slice (some ⟨w.heap.size, 0, none⟩) 1 1]).run Tryz.prog (w.alloc (.cells #[encStr x] 9)) = .ok (.slice a (l.length + 1) c) w') ∧ OwnS w' (.slice a (l.length + 1) c) (l ++ [x]) ∧
      (w.alloc (.cells #[encStr x] 9)).grownBy w' (blk v) ∧ (blk (.slice a (l.length + 1) c) = none ∨ blk (.slice a (l.length + 1) c) = blk v ∨ blk (.slice a (l.length + 1) c) = some (w.heap.size + 1)) := by
  obtain ⟨i0, hi, hz0, hz1, hz2⟩ := info_parts infoS
  have hown : Own (w.alloc (.cells #[encStr x] 9)) 9 1 v l.length (l.map encStr) := Own.grown h (World.grownBy_alloc w _ none) (by cases hb : blk v <;> simp)
  have hsrc : Src Tryz.prog 1 57 (.slice (some ⟨w.heap.size, 0, none⟩) 1 1) 1 [encStr x] (w.alloc (.cells #[encStr x] 9)) :=
    Src.ofSlice _ Tryz.underlying57 _ 1 1 [encStr x] (by simp) (World.news_of_block (cs := #[encStr x]) (t := 9) (fr := (0, 0)) (alloc_at w _)) (by simp [Value.oneCell'])
  have hrun := fun ty => own_append (P := Tryz.prog) (t := 57) (tx := 57) (ty := ty) Tryz.underlying57 hi hz0 hz1 hz2 rfl hown hsrc (by unfold maxLen; omega) (by omega)
  obtain ⟨v', w', hr, h1, h2, h3⟩ := hrun 0
  obtain ⟨a, c, rfl, _, _⟩ := h1.shape
  refine ⟨a, c, w', fun ty => ?_, by unfold OwnS; simpa using h1, h2, by simpa using h3⟩
  have : Builtin.append_ #[57, 57] ty #[v, .slice (some ⟨w.heap.size, 0, none⟩) 1 1] = Builtin.append_ #[57, 57] 0 #[v, .slice (some ⟨w.heap.size, 0, none⟩) 1 1] := rfl
  rw [this]; exact hr
theorem OwnS.cell {w : World} {v : Value} {l : List (List UInt8)} (h : OwnS w v l) (h0 : 0 < l.length) : ∃ g c, v = .slice (some ⟨g, 0, none⟩) l.length c ∧ l.length ≤ c ∧ blk v = some g ∧ g < w.heap.size ∧ ∀ k (hk : k < l.length), w.cell? ⟨g, k, none⟩ = some (.string ⟨l[k].toArray⟩) := by
  rcases h.2 with ⟨a', hv, hn⟩ | ⟨g, cap, cur, hv, hg, hnc, hc0, hcm, hcs, ht⟩
  · omega
  · refine ⟨g, cap, hv, hnc, by rw [hv]; exact blk_pos hc0, (Array.getElem?_eq_some_iff.1 hg).1, fun k hk => ?_⟩
    have h1 : (cur.toList.take (l.length * 1))[k]? = (l.map encStr)[k]? := by rw [ht]
    rw [List.getElem?_take, if_pos (by omega), List.getElem?_map, List.getElem?_eq_getElem hk, Array.getElem?_toList] at h1
    rw [cell_of_row w g k cur 9 (0, 0) hg]
    exact h1
theorem OwnS.nil (w : World) : OwnS w (.slice none 0 0) [] := Own.nil w 9 1
end Go.Proofs.YtmhdhabgdlefjaaGreatDoor.Dm
