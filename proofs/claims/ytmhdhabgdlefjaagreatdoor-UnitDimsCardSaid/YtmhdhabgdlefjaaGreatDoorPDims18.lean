/- The strings of dimensions, and how they are read: plain mathematics. No program. -/
import Derived.Test.YtmhdhabgdlefjaaGreatDoorPDims17
import Derived.Lib.SplitLaws
import Derived.Lib.Join
import Derived.IntWalk
set_option maxRecDepth 100000
namespace Go.Proofs.YtmhdhabgdlefjaaGreatDoor.Dm
open Go

/-- The symbols of the base dimensions. -/
def sy : Nat → List UInt8
  | 0 => [103]
  | 1 => [109]
  | 2 => [115]
  | 3 => [74]
  | 4 => [99, 101, 110, 116]
  | 5 => [112, 99]
  | _ => []
/-- A base dimension with an exponent from 1 to 9, as text. -/
def pw (i n : Nat) : List UInt8 := if n = 1 then sy i else sy i ++ [UInt8.ofNat (48 + n)]
/-- A dimension's exponents are f 0 to f 5. -/
def ok (f : Nat → Int) : Bool := (List.range 6).all (fun i => decide (-9 ≤ f i) && decide (f i ≤ 9))
theorem ok_iff (f : Nat → Int) : ok f = true ↔ ∀ i, i < 6 → -9 ≤ f i ∧ f i ≤ 9 := by simp only [ok, List.all_eq_true, List.mem_range, Bool.and_eq_true, decide_eq_true_eq]
/-- The powers with positive exponents among the first k; those with negative ones. -/
def ups (f : Nat → Int) : Nat → List (List UInt8)
  | 0 => []
  | k + 1 => ups f k ++ (if 0 < f k then [pw k (f k).toNat] else [])
def dns (f : Nat → Int) : Nat → List (List UInt8)
  | 0 => []
  | k + 1 => dns f k ++ (if f k < 0 then [pw k (-(f k)).toNat] else [])
def tail (l : List (List UInt8)) : List UInt8 := l.flatMap (fun p => 47 :: p)
def head (f : Nat → Int) : List UInt8 := if ups f 6 = [] then [49] else Lib.join (ups f 6) [42]
def txt (f : Nat → Int) : List UInt8 := head f ++ tail (dns f 6)
/-- What Text returns. -/
def tx (f : Nat → Int) : List UInt8 := if ok f then txt f else []

theorem tail_app (l m : List (List UInt8)) : tail (l ++ m) = tail l ++ tail m := by simp [tail]
theorem tail_one (p : List UInt8) : tail [p] = 47 :: p := by simp [tail]

/-! ## One power -/
theorem lt6 {i : Nat} (h : i < 6) : i = 0 ∨ i = 1 ∨ i = 2 ∨ i = 3 ∨ i = 4 ∨ i = 5 := by omega
theorem sy_ne (i : Nat) (h : i < 6) : sy i ≠ [] := by
  rcases lt6 h with rfl | rfl | rfl | rfl | rfl | rfl <;> simp [sy]
theorem sy_no (i : Nat) (h : i < 6) : ∀ c ∈ sy i, c ≠ 47 ∧ c ≠ 42 ∧ c ≠ 49 := by
  rcases lt6 h with rfl | rfl | rfl | rfl | rfl | rfl <;> decide
theorem dig_no (n : Nat) (h0 : 1 ≤ n) (h1 : n ≤ 9) : UInt8.ofNat (48 + n) ≠ 47 ∧ UInt8.ofNat (48 + n) ≠ 42 := by
  have : n = 1 ∨ n = 2 ∨ n = 3 ∨ n = 4 ∨ n = 5 ∨ n = 6 ∨ n = 7 ∨ n = 8 ∨ n = 9 := by omega
  rcases this with rfl | rfl | rfl | rfl | rfl | rfl | rfl | rfl | rfl <;> decide
theorem pw_no (i n : Nat) (h : i < 6) (h0 : 1 ≤ n) (h1 : n ≤ 9) : 47 ∉ pw i n ∧ 42 ∉ pw i n := by
  have hd := dig_no n h0 h1
  have hs := sy_no i h
  unfold pw
  split
  · exact ⟨fun hm => (hs _ hm).1 rfl, fun hm => (hs _ hm).2.1 rfl⟩
  · constructor <;> intro hm <;> rcases List.mem_append.1 hm with hm | hm
    · exact (hs _ hm).1 rfl
    · simp only [List.mem_singleton] at hm; exact hd.1 hm.symm
    · exact (hs _ hm).2.1 rfl
    · simp only [List.mem_singleton] at hm; exact hd.2 hm.symm
theorem pw_head (i n : Nat) (h : i < 6) : ∃ c t, pw i n = c :: t ∧ c ≠ 49 := by
  have hs := sy_no i h
  obtain ⟨c, t, e⟩ := List.exists_cons_of_ne_nil (sy_ne i h)
  unfold pw
  rw [e] at hs ⊢
  split
  · exact ⟨c, t, rfl, (hs c (by simp)).2.2⟩
  · exact ⟨c, t ++ [UInt8.ofNat (48 + n)], rfl, (hs c (by simp)).2.2⟩
theorem pw_len (i n : Nat) : (pw i n).length ≤ (sy i).length + 1 := by
  unfold pw; split
  · omega
  · simp
/-- The first base dimension whose symbol s begins with. -/
def fst (s : List UInt8) : Option Nat := (List.range 6).find? (fun i => Lib.hasPrefix s (sy i))
/-- A base dimension with an exponent, read. -/
def rest (s : List UInt8) (i : Nat) : List UInt8 := s.drop (sy i).length
/-! ## Splitting at one byte -/
/-! ## Lists of powers, read -/
def up (f : Nat → Int) (i : Nat) (v : Int) : Nat → Int := fun j => if j = i then v else f j
theorem ups_no (f : Nat → Int) (hf : ok f = true) : ∀ k, k ≤ 6 → ∀ p ∈ ups f k, 47 ∉ p ∧ 42 ∉ p ∧ ∃ c t, p = c :: t ∧ c ≠ 49
  | 0, _ => by intro p hp; simp [ups] at hp
  | k + 1, h => by
    have hb := (ok_iff f).1 hf k (by omega)
    intro p hp
    rw [ups] at hp
    rcases List.mem_append.1 hp with hp | hp
    · exact ups_no f hf k (by omega) p hp
    · split at hp
      · simp only [List.mem_singleton] at hp
        subst hp
        have := pw_no k (f k).toNat (by omega) (by omega) (by omega)
        exact ⟨this.1, this.2, pw_head _ _ (by omega)⟩
      · simp at hp
/-! ## The whole string -/
def zf : Nat → Int := fun _ => 0
/-! ## Only f 0 to f 5 count; the length -/
theorem ok_eq {f g : Nat → Int} (h : ∀ i, i < 6 → f i = g i) : ok f = ok g := by
  rw [Bool.eq_iff_iff, ok_iff, ok_iff]
  exact ⟨fun a i hi => by rw [← h i hi]; exact a i hi, fun a i hi => by rw [h i hi]; exact a i hi⟩
def lens (l : List (List UInt8)) : Nat := (l.map (·.length + 1)).sum
theorem lens_app (l m : List (List UInt8)) : lens (l ++ m) = lens l + lens m := by simp [lens]
theorem lens_one (p : List UInt8) : lens [p] = p.length + 1 := by simp [lens]
theorem lens_join : ∀ l : List (List UInt8), (Lib.join l [42]).length ≤ lens l
  | [] => by simp [Lib.join_nil]
  | p :: l => by
    rw [Lib.join_cons]
    have : ∀ m : List (List UInt8), (Lib.joinTail [42] m).length = lens m := by
      intro m
      induction m with
      | nil => rfl
      | cons q m ih =>
        have h1 : Lib.joinTail [42] (q :: m) = 42 :: q ++ Lib.joinTail [42] m := by simp [Lib.joinTail]
        rw [h1, List.length_append, ih]
        show q.length + 1 + lens m = lens ([q] ++ m)
        rw [lens_app, lens_one]
    rw [List.length_append, this]
    show _ ≤ lens ([p] ++ l)
    rw [lens_app, lens_one]; omega
theorem tail_len : ∀ l : List (List UInt8), (tail l).length = lens l
  | [] => rfl
  | p :: l => by
    have : tail (p :: l) = tail [p] ++ tail l := tail_app [p] l
    rw [this, List.length_append, tail_len l, tail_one]
    show p.length + 1 + lens l = lens ([p] ++ l)
    rw [lens_app, lens_one]
def bnd : Nat → Nat
  | 0 => 0
  | k + 1 => bnd k + (sy k).length + 2
theorem lens_both (f : Nat → Int) : ∀ k, lens (ups f k) + lens (dns f k) ≤ bnd k
  | 0 => Nat.le_refl _
  | k + 1 => by
    have ih := lens_both f k
    have h1 := pw_len k (f k).toNat
    have h2 := pw_len k (-(f k)).toNat
    rw [ups, dns, lens_app, lens_app, bnd]
    by_cases h : 0 < f k
    · rw [if_pos h, if_neg (by omega), lens_one, show lens [] = 0 from rfl]
      omega
    · rw [if_neg h, show lens [] = 0 from rfl]
      by_cases h' : f k < 0
      · rw [if_pos h', lens_one]; omega
      · rw [if_neg h', show lens [] = 0 from rfl]; omega
theorem txt_len (f : Nat → Int) : (txt f).length ≤ 23 := by
  have h := lens_both f 6
  have hb : bnd 6 = 22 := rfl
  unfold txt head
  rw [List.length_append, tail_len]
  split
  · simp; omega
  · have := lens_join (ups f 6); omega
/-! ## What Read returns -/
end Go.Proofs.YtmhdhabgdlefjaaGreatDoor.Dm
