/- The strings of dimensions, and how they are read: plain mathematics. No program. -/
import Derived.Test.YtmhdhabgdlefjaaDoorM18
import Derived.Lib.SplitLaws
import Derived.Lib.Join
import Derived.IntWalk
set_option maxRecDepth 100000
namespace Go.Proofs.YtmhdhabgdlefjaaDoor.Dm
open Go

/-- The symbols of the base dimensions. -/
def sy : Nat → List UInt8
  | 0 => [103]
  | 1 => [109]
  | 2 => [115]
  | 3 => [74]
  | 4 => [99, 101, 110, 116]
  | 5 => [112, 99]
  | _ => []
/-- A base dimension with an exponent from 1 to 9, as text. -/
def pw (i n : Nat) : List UInt8 := if n = 1 then sy i else sy i ++ [UInt8.ofNat (48 + n)]
/-- A dimension's exponents are f 0 to f 5. -/
def ok (f : Nat → Int) : Bool := (List.range 6).all (fun i => decide (-9 ≤ f i) && decide (f i ≤ 9))
theorem ok_iff (f : Nat → Int) : ok f = true ↔ ∀ i, i < 6 → -9 ≤ f i ∧ f i ≤ 9 := by simp only [ok, List.all_eq_true, List.mem_range, Bool.and_eq_true, decide_eq_true_eq]
/-- The powers with positive exponents among the first k; those with negative ones. -/
def ups (f : Nat → Int) : Nat → List (List UInt8)
  | 0 => []
  | k + 1 => ups f k ++ (if 0 < f k then [pw k (f k).toNat] else [])
def dns (f : Nat → Int) : Nat → List (List UInt8)
  | 0 => []
  | k + 1 => dns f k ++ (if f k < 0 then [pw k (-(f k)).toNat] else [])
def tail (l : List (List UInt8)) : List UInt8 := l.flatMap (fun p => 47 :: p)
def head (f : Nat → Int) : List UInt8 := if ups f 6 = [] then [49] else Lib.join (ups f 6) [42]
def txt (f : Nat → Int) : List UInt8 := head f ++ tail (dns f 6)
/-- What Text returns. -/
def tx (f : Nat → Int) : List UInt8 := if ok f then txt f else []

theorem tail_app (l m : List (List UInt8)) : tail (l ++ m) = tail l ++ tail m := by simp [tail]
theorem tail_one (p : List UInt8) : tail [p] = 47 :: p := by simp [tail]

/-! ## One power -/
theorem lt6 {i : Nat} (h : i < 6) : i = 0 ∨ i = 1 ∨ i = 2 ∨ i = 3 ∨ i = 4 ∨ i = 5 := by omega
theorem sy_ne (i : Nat) (h : i < 6) : sy i ≠ [] := by
  rcases lt6 h with rfl | rfl | rfl | rfl | rfl | rfl <;> simp [sy]
theorem sy_no (i : Nat) (h : i < 6) : ∀ c ∈ sy i, c ≠ 47 ∧ c ≠ 42 ∧ c ≠ 49 := by
  rcases lt6 h with rfl | rfl | rfl | rfl | rfl | rfl <;> decide
theorem dig_no (n : Nat) (h0 : 1 ≤ n) (h1 : n ≤ 9) : UInt8.ofNat (48 + n) ≠ 47 ∧ UInt8.ofNat (48 + n) ≠ 42 := by
  have : n = 1 ∨ n = 2 ∨ n = 3 ∨ n = 4 ∨ n = 5 ∨ n = 6 ∨ n = 7 ∨ n = 8 ∨ n = 9 := by omega
  rcases this with rfl | rfl | rfl | rfl | rfl | rfl | rfl | rfl | rfl <;> decide
theorem pw_no (i n : Nat) (h : i < 6) (h0 : 1 ≤ n) (h1 : n ≤ 9) : 47 ∉ pw i n ∧ 42 ∉ pw i n := by
  have hd := dig_no n h0 h1
  have hs := sy_no i h
  unfold pw
  split
  · exact ⟨fun hm => (hs _ hm).1 rfl, fun hm => (hs _ hm).2.1 rfl⟩
  · constructor <;> intro hm <;> rcases List.mem_append.1 hm with hm | hm
    · exact (hs _ hm).1 rfl
    · simp only [List.mem_singleton] at hm; exact hd.1 hm.symm
    · exact (hs _ hm).2.1 rfl
    · simp only [List.mem_singleton] at hm; exact hd.2 hm.symm
theorem pw_head (i n : Nat) (h : i < 6) : ∃ c t, pw i n = c :: t ∧ c ≠ 49 := by
  have hs := sy_no i h
  obtain ⟨c, t, e⟩ := List.exists_cons_of_ne_nil (sy_ne i h)
  unfold pw
  rw [e] at hs ⊢
  split
  · exact ⟨c, t, rfl, (hs c (by simp)).2.2⟩
  · exact ⟨c, t ++ [UInt8.ofNat (48 + n)], rfl, (hs c (by simp)).2.2⟩
theorem pw_len (i n : Nat) : (pw i n).length ≤ (sy i).length + 1 := by
  unfold pw; split
  · omega
  · simp
theorem dig_itoa (n : Nat) (h1 : n ≤ 9) : Lib.itoa (n : Int) = [UInt8.ofNat (48 + n)] := by rw [Lib.itoa_nonneg, Lib.decDigits_one (by omega)]
theorem pw_itoa (i n : Nat) (h1 : n ≤ 9) : pw i n = if n = 1 then sy i else sy i ++ Lib.itoa (n : Int) := by rw [dig_itoa n h1]; rfl

/-- The first base dimension whose symbol s begins with. -/
def fst (s : List UInt8) : Option Nat := (List.range 6).find? (fun i => Lib.hasPrefix s (sy i))
theorem fst_none {s : List UInt8} (h : ∀ j, j < 6 → Lib.hasPrefix s (sy j) = false) : fst s = none := by
  unfold fst
  rw [List.find?_eq_none]
  intro j hj
  rw [List.mem_range] at hj
  simp [h j hj]
theorem fst_at {s : List UInt8} {k : Nat} (hk : k < 6) (h : ∀ j, j < k → Lib.hasPrefix s (sy j) = false) (hh : Lib.hasPrefix s (sy k) = true) : fst s = some k := by
  unfold fst
  rcases lt6 hk with rfl | rfl | rfl | rfl | rfl | rfl
  · simp [List.range, List.range.loop, hh]
  · simp [List.range, List.range.loop, List.find?, hh, h 0 (by omega)]
  · simp [List.range, List.range.loop, List.find?, hh, h 0 (by omega), h 1 (by omega)]
  · simp [List.range, List.range.loop, List.find?, hh, h 0 (by omega), h 1 (by omega), h 2 (by omega)]
  · simp [List.range, List.range.loop, List.find?, hh, h 0 (by omega), h 1 (by omega), h 2 (by omega), h 3 (by omega)]
  · simp [List.range, List.range.loop, List.find?, hh, h 0 (by omega), h 1 (by omega), h 2 (by omega), h 3 (by omega), h 4 (by omega)]
theorem fst_sy (i : Nat) (h : i < 6) (t : List UInt8) : fst (sy i ++ t) = some i := by
  rcases lt6 h with rfl | rfl | rfl | rfl | rfl | rfl <;> simp [fst, sy, Lib.hasPrefix, List.range, List.range.loop, List.find?, List.isPrefixOf]
/-- A base dimension with an exponent, read. -/
def rest (s : List UInt8) (i : Nat) : List UInt8 := s.drop (sy i).length
def rp (s : List UInt8) : Option (Nat × Int) :=
  match fst s with
  | none => none
  | some i => if rest s i = [] then some (i, 1) else match Lib.atoiAll (rest s i) with
    | .ok n => some (i, n)
    | _ => none
theorem rp_miss {s : List UInt8} (h : fst s = none) : rp s = none := by simp [rp, h]
theorem rp_bare {s : List UInt8} {i : Nat} (h : fst s = some i) (h1 : rest s i = []) : rp s = some (i, 1) := by simp [rp, h, h1]
theorem rp_ok {s : List UInt8} {i : Nat} {n : Int} (h : fst s = some i) (h1 : rest s i ≠ []) (h2 : Lib.atoiAll (rest s i) = .ok n) : rp s = some (i, n) := by simp [rp, h, h1, h2]
theorem rp_bad {s : List UInt8} {i : Nat} (h : fst s = some i) (h1 : rest s i ≠ []) (h2 : ∀ n, Lib.atoiAll (rest s i) ≠ .ok n) : rp s = none := by
  rcases hm : Lib.atoiAll (rest s i) with v | _ | _
  · exact absurd hm (h2 v)
  · simp [rp, h, h1, hm]
  · simp [rp, h, h1, hm]
theorem fst_lt {s : List UInt8} {i : Nat} (h : fst s = some i) : i < 6 := by
  unfold fst at h
  have := List.mem_of_find?_eq_some h
  rwa [List.mem_range] at this
theorem rp_lt {s : List UInt8} {i : Nat} {n : Int} (h : rp s = some (i, n)) : i < 6 := by
  unfold rp at h
  rcases hf : fst s with _ | j
  · rw [hf] at h; cases h
  · rw [hf] at h
    have := fst_lt hf
    simp only at h
    split at h
    · injection h with h; injection h with h3 h4; omega
    · split at h
      · injection h with h; injection h with h3 h4; omega
      · cases h
theorem rp_pw (i n : Nat) (h : i < 6) (h1 : n ≤ 9) : rp (pw i n) = some (i, (n : Int)) := by
  unfold pw
  split
  · rename_i e
    subst e
    have := fst_sy i h []
    rw [List.append_nil] at this
    exact rp_bare this (by simp [rest])
  · have hr : rest (sy i ++ [UInt8.ofNat (48 + n)]) i = [UInt8.ofNat (48 + n)] := by simp [rest]
    refine rp_ok (fst_sy i h _) (by rw [hr]; simp) ?_
    rw [hr, ← dig_itoa n h1]
    exact Wi.atoi_itoa (n : Int) (by omega) (by omega)

/-! ## Splitting at one byte -/
theorem index_none (c : UInt8) (l : List UInt8) (h : c ∉ l) : Lib.index l [c] = -1 := by
  rw [Lib.index_one]
  induction l with
  | nil => rfl
  | cons b l ih =>
    simp only [List.mem_cons, not_or] at h
    have hb : (b == c) = false := by simpa using fun e => h.1 e.symm
    simp [Lib.indexByte, hb, ih h.2]
theorem index_some (c : UInt8) (d r : List UInt8) (h : c ∉ d) : Lib.index (d ++ c :: r) [c] = (d.length : Nat) := by
  rw [Lib.index_one]
  induction d with
  | nil => simp [Lib.indexByte]
  | cons b d ih =>
    simp only [List.mem_cons, not_or] at h
    have hb : (b == c) = false := by simpa using fun e => h.1 e.symm
    have := ih h.2
    rw [List.cons_append, Lib.indexByte, hb, this]
    simp
theorem split_none (c : UInt8) (l : List UInt8) (h : c ∉ l) : Lib.split l [c] = [l] := by
  unfold Lib.split
  rw [Lib.count_one, List.count_eq_zero_of_not_mem h]
  rfl
theorem split_app (c : UInt8) (d r : List UInt8) (h : c ∉ d) : Lib.split (d ++ c :: r) [c] = d :: Lib.split r [c] := by
  unfold Lib.split
  rw [Lib.count_one, Lib.count_one, List.count_append, List.count_eq_zero_of_not_mem h, List.count_cons_self, Nat.zero_add]
  have hi := index_some c d r h
  rw [Lib.splitK, hi]
  have : (((d.length : Nat) : Int) == -1) = false := by simp
  rw [this]
  simp
theorem split_tail (d : List UInt8) (h : 47 ∉ d) : ∀ l : List (List UInt8), (∀ p ∈ l, 47 ∉ p) → Lib.split (d ++ tail l) [47] = d :: l
  | [], _ => by simp only [tail, List.flatMap_nil, List.append_nil]; exact split_none 47 d h
  | p :: l, hl => by
    have : tail (p :: l) = 47 :: (p ++ tail l) := by simp [tail]
    rw [this, split_app 47 d _ h, split_tail p (hl p (by simp)) l (fun q hq => hl q (by simp [hq]))]
theorem split_join (d : List UInt8) (h : 42 ∉ d) : ∀ l : List (List UInt8), (∀ p ∈ l, 42 ∉ p) → Lib.split (Lib.join (d :: l) [42]) [42] = d :: l
  | [], _ => by rw [Lib.join_one]; exact split_none 42 d h
  | p :: l, hl => by
    rw [Lib.join_cons]
    have e : Lib.joinTail [42] (p :: l) = 42 :: Lib.join (p :: l) [42] := by rw [Lib.join_cons]; simp [Lib.joinTail]
    rw [e, split_app 42 d _ h, split_join p (hl p (by simp)) l (fun q hq => hl q (by simp [hq]))]

/-! ## Lists of powers, read -/
def up (f : Nat → Int) (i : Nat) (v : Int) : Nat → Int := fun j => if j = i then v else f j
def rps (sg : Int) : List (List UInt8) → (Nat → Int) → (Nat → Int) × Bool
  | [], f => (f, true)
  | s :: l, f => match rp s with
    | none => (f, false)
    | some (i, n) => rps sg l (up f i (IntKind.i64.wrap (sg * n)))
theorem rps_none {sg : Int} {s : List UInt8} {l : List (List UInt8)} {f : Nat → Int} (h : rp s = none) : rps sg (s :: l) f = (f, false) := by simp [rps, h]
theorem rps_some {sg : Int} {s : List UInt8} {l : List (List UInt8)} {f : Nat → Int} {i : Nat} {n : Int} (h : rp s = some (i, n)) : rps sg (s :: l) f = rps sg l (up f i (IntKind.i64.wrap (sg * n))) := by simp [rps, h]
theorem rps_app (sg : Int) : ∀ (l m : List (List UInt8)) (f g : Nat → Int), rps sg l f = (g, true) → rps sg (l ++ m) f = rps sg m g
  | [], m, f, g, h => by simp only [rps, Prod.mk.injEq] at h; rw [h.1]; rfl
  | s :: l, m, f, g, h => by
    rcases hr : rp s with _ | ⟨i, n⟩
    · rw [rps_none hr] at h; simp at h
    · rw [rps_some hr] at h
      rw [List.cons_append, rps_some hr]
      exact rps_app sg l m _ g h
def pf (f : Nat → Int) (k : Nat) (g : Nat → Int) : Nat → Int := fun i => if i < k ∧ 0 < f i then f i else g i
def nf (f : Nat → Int) (k : Nat) (g : Nat → Int) : Nat → Int := fun i => if i < k ∧ f i < 0 then f i else g i
theorem pf_yes {f g : Nat → Int} {k : Nat} (h : 0 < f k) : up (pf f k g) k (f k) = pf f (k + 1) g := by
  funext j
  unfold up pf
  by_cases e : j = k
  · subst e; rw [if_pos rfl, if_pos ⟨by omega, h⟩]
  · rw [if_neg e]
    by_cases c : j < k ∧ 0 < f j
    · rw [if_pos c, if_pos ⟨by omega, c.2⟩]
    · rw [if_neg c, if_neg (fun c' => c ⟨by omega, c'.2⟩)]
theorem pf_no {f g : Nat → Int} {k : Nat} (h : ¬ 0 < f k) : pf f k g = pf f (k + 1) g := by
  funext j
  unfold pf
  by_cases c : j < k ∧ 0 < f j
  · rw [if_pos c, if_pos ⟨by omega, c.2⟩]
  · rw [if_neg c, if_neg (fun c' => c ⟨by
      have h2 := c'.2
      by_cases e : j = k
      · subst e; exact absurd h2 h
      · omega, c'.2⟩)]
theorem nf_yes {f g : Nat → Int} {k : Nat} (h : f k < 0) : up (nf f k g) k (f k) = nf f (k + 1) g := by
  funext j
  unfold up nf
  by_cases e : j = k
  · subst e; rw [if_pos rfl, if_pos ⟨by omega, h⟩]
  · rw [if_neg e]
    by_cases c : j < k ∧ f j < 0
    · rw [if_pos c, if_pos ⟨by omega, c.2⟩]
    · rw [if_neg c, if_neg (fun c' => c ⟨by omega, c'.2⟩)]
theorem nf_no {f g : Nat → Int} {k : Nat} (h : ¬ f k < 0) : nf f k g = nf f (k + 1) g := by
  funext j
  unfold nf
  by_cases c : j < k ∧ f j < 0
  · rw [if_pos c, if_pos ⟨by omega, c.2⟩]
  · rw [if_neg c, if_neg (fun c' => c ⟨by
      have h2 := c'.2
      by_cases e : j = k
      · subst e; exact absurd h2 h
      · omega, c'.2⟩)]
theorem rps_ups (f : Nat → Int) (hf : ok f = true) (g : Nat → Int) : ∀ k, k ≤ 6 → rps 1 (ups f k) g = (pf f k g, true)
  | 0, _ => by
    simp only [ups, rps, Prod.mk.injEq, and_true]
    funext i; simp [pf]
  | k + 1, h => by
    have ih := rps_ups f hf g k (by omega)
    have hb := (ok_iff f).1 hf k (by omega)
    rw [ups]
    by_cases h0 : 0 < f k
    · rw [if_pos h0, rps_app 1 _ _ _ _ ih]
      have hp := rp_pw k (f k).toNat (by omega) (by omega)
      rw [rps_some hp, show (((f k).toNat : Nat) : Int) = f k by omega, Int.one_mul, IntWalk.i64_in _ (by omega), pf_yes h0]
      rfl
    · rw [if_neg h0, List.append_nil, ih, pf_no h0]
theorem rps_dns (f : Nat → Int) (hf : ok f = true) (g : Nat → Int) : ∀ k, k ≤ 6 → rps (-1) (dns f k) g = (nf f k g, true)
  | 0, _ => by
    simp only [dns, rps, Prod.mk.injEq, and_true]
    funext i; simp [nf]
  | k + 1, h => by
    have ih := rps_dns f hf g k (by omega)
    have hb := (ok_iff f).1 hf k (by omega)
    rw [dns]
    by_cases h0 : f k < 0
    · rw [if_pos h0, rps_app (-1) _ _ _ _ ih]
      have hp := rp_pw k (-(f k)).toNat (by omega) (by omega)
      rw [rps_some hp, show -1 * (((-(f k)).toNat : Nat) : Int) = f k by omega, IntWalk.i64_in _ (by omega), nf_yes h0]
      rfl
    · rw [if_neg h0, List.append_nil, ih, nf_no h0]
theorem ups_no (f : Nat → Int) (hf : ok f = true) : ∀ k, k ≤ 6 → ∀ p ∈ ups f k, 47 ∉ p ∧ 42 ∉ p ∧ ∃ c t, p = c :: t ∧ c ≠ 49
  | 0, _ => by intro p hp; simp [ups] at hp
  | k + 1, h => by
    have hb := (ok_iff f).1 hf k (by omega)
    intro p hp
    rw [ups] at hp
    rcases List.mem_append.1 hp with hp | hp
    · exact ups_no f hf k (by omega) p hp
    · split at hp
      · simp only [List.mem_singleton] at hp
        subst hp
        have := pw_no k (f k).toNat (by omega) (by omega) (by omega)
        exact ⟨this.1, this.2, pw_head _ _ (by omega)⟩
      · simp at hp
theorem dns_no (f : Nat → Int) (hf : ok f = true) : ∀ k, k ≤ 6 → ∀ p ∈ dns f k, 47 ∉ p
  | 0, _ => by intro p hp; simp [dns] at hp
  | k + 1, h => by
    have hb := (ok_iff f).1 hf k (by omega)
    intro p hp
    rw [dns] at hp
    rcases List.mem_append.1 hp with hp | hp
    · exact dns_no f hf k (by omega) p hp
    · split at hp
      · simp only [List.mem_singleton] at hp
        subst hp
        exact (pw_no k (-(f k)).toNat (by omega) (by omega) (by omega)).1
      · simp at hp

/-! ## The whole string -/
def zf : Nat → Int := fun _ => 0
def readA (h : List UInt8) : (Nat → Int) × Bool := if h = [49] then (zf, true) else rps 1 (Lib.split h [42]) zf
def readB (t : List (List UInt8)) (a : (Nat → Int) × Bool) : (Nat → Int) × Bool := if a.2 then rps (-1) t a.1 else a
def readL (s : List UInt8) : (Nat → Int) × Bool := readB (Lib.split s [47]).tail (readA ((Lib.split s [47]).headD []))
theorem mem_join (c : UInt8) (sep : List UInt8) : ∀ l : List (List UInt8), c ∉ sep → (∀ p ∈ l, c ∉ p) → c ∉ Lib.join l sep
  | [], _, _ => by simp [Lib.join_nil]
  | p :: l, hs, hl => by
    rw [Lib.join_cons, List.mem_append, not_or]
    refine ⟨hl p (by simp), fun hm => ?_⟩
    unfold Lib.joinTail at hm
    rw [List.mem_flatten] at hm
    obtain ⟨q, hq, hc⟩ := hm
    rw [List.mem_map] at hq
    obtain ⟨r, hr, rfl⟩ := hq
    rcases List.mem_append.1 hc with h | h
    · exact hs h
    · exact hl r (by simp [hr]) h
theorem head_no (f : Nat → Int) (hf : ok f = true) : 47 ∉ head f := by
  have hu := ups_no f hf 6 (by omega)
  unfold head
  split
  · decide
  · exact mem_join 47 [42] _ (by decide) (fun p hp => (hu p hp).1)
theorem split_txt (f : Nat → Int) (hf : ok f = true) : Lib.split (txt f) [47] = head f :: dns f 6 :=
  split_tail _ (head_no f hf) _ (dns_no f hf 6 (by omega))
theorem readA_head (f : Nat → Int) (hf : ok f = true) : readA (head f) = (pf f 6 zf, true) := by
  have hu := ups_no f hf 6 (by omega)
  have hr := rps_ups f hf zf 6 (by omega)
  unfold head readA
  by_cases h : ups f 6 = []
  · rw [if_pos h, if_pos rfl]
    rw [h] at hr
    exact hr
  · rw [if_neg h]
    obtain ⟨p, l, e⟩ := List.exists_cons_of_ne_nil h
    rw [e] at hu hr ⊢
    obtain ⟨_, h2, c, t, rfl, h3⟩ := hu p (by simp)
    rw [if_neg (by rw [Lib.join_cons]; intro h'; rw [List.cons_append] at h'; injection h' with h4 _; exact h3 h4), split_join _ h2 l (fun q hq => (hu q (by simp [hq])).2.1)]
    exact hr
theorem readL_txt (f : Nat → Int) (hf : ok f = true) : readL (txt f) = (nf f 6 (pf f 6 zf), true) := by
  unfold readL
  rw [split_txt f hf]
  show readB (dns f 6) (readA (head f)) = _
  rw [readA_head f hf]
  exact rps_dns f hf _ 6 (by omega)
theorem nfpf (f : Nat → Int) (i : Nat) (h : i < 6) : nf f 6 (pf f 6 zf) i = f i := by
  unfold nf pf zf
  by_cases h1 : f i < 0
  · rw [if_pos ⟨h, h1⟩]
  · rw [if_neg (fun c => h1 c.2)]
    by_cases h2 : 0 < f i
    · rw [if_pos ⟨h, h2⟩]
    · rw [if_neg (fun c => h2 c.2)]; omega
theorem readL_nil : (readL []).2 = false := by
  have h1 : Lib.split ([] : List UInt8) [47] = [[]] := split_none 47 [] (by simp)
  have h2 : Lib.split ([] : List UInt8) [42] = [[]] := split_none 42 [] (by simp)
  have h3 : rp [] = none := rp_miss (by simp [fst, Lib.hasPrefix, sy, List.range, List.range.loop, List.find?])
  unfold readL
  rw [h1]
  show (readB [] (readA [])).2 = false
  unfold readA
  rw [if_neg (by simp), h2, rps_none h3]
  rfl

/-! ## Only f 0 to f 5 count; the length -/
theorem ups_eq {f g : Nat → Int} : ∀ k, (∀ i, i < k → f i = g i) → ups f k = ups g k
  | 0, _ => rfl
  | k + 1, h => by rw [ups, ups, ups_eq k (fun i hi => h i (by omega)), h k (by omega)]
theorem dns_eq {f g : Nat → Int} : ∀ k, (∀ i, i < k → f i = g i) → dns f k = dns g k
  | 0, _ => rfl
  | k + 1, h => by rw [dns, dns, dns_eq k (fun i hi => h i (by omega)), h k (by omega)]
theorem ok_eq {f g : Nat → Int} (h : ∀ i, i < 6 → f i = g i) : ok f = ok g := by
  rw [Bool.eq_iff_iff, ok_iff, ok_iff]
  exact ⟨fun a i hi => by rw [← h i hi]; exact a i hi, fun a i hi => by rw [h i hi]; exact a i hi⟩
theorem tx_eq {f g : Nat → Int} (h : ∀ i, i < 6 → f i = g i) : tx f = tx g := by
  unfold tx txt head
  rw [ok_eq h, ups_eq 6 h, dns_eq 6 h]
def lens (l : List (List UInt8)) : Nat := (l.map (·.length + 1)).sum
theorem lens_app (l m : List (List UInt8)) : lens (l ++ m) = lens l + lens m := by simp [lens]
theorem lens_one (p : List UInt8) : lens [p] = p.length + 1 := by simp [lens]
theorem lens_join : ∀ l : List (List UInt8), (Lib.join l [42]).length ≤ lens l
  | [] => by simp [Lib.join_nil]
  | p :: l => by
    rw [Lib.join_cons]
    have : ∀ m : List (List UInt8), (Lib.joinTail [42] m).length = lens m := by
      intro m
      induction m with
      | nil => rfl
      | cons q m ih =>
        have h1 : Lib.joinTail [42] (q :: m) = 42 :: q ++ Lib.joinTail [42] m := by simp [Lib.joinTail]
        rw [h1, List.length_append, ih]
        show q.length + 1 + lens m = lens ([q] ++ m)
        rw [lens_app, lens_one]
    rw [List.length_append, this]
    show _ ≤ lens ([p] ++ l)
    rw [lens_app, lens_one]; omega
theorem tail_len : ∀ l : List (List UInt8), (tail l).length = lens l
  | [] => rfl
  | p :: l => by
    have : tail (p :: l) = tail [p] ++ tail l := tail_app [p] l
    rw [this, List.length_append, tail_len l, tail_one]
    show p.length + 1 + lens l = lens ([p] ++ l)
    rw [lens_app, lens_one]
def bnd : Nat → Nat
  | 0 => 0
  | k + 1 => bnd k + (sy k).length + 2
theorem lens_both (f : Nat → Int) : ∀ k, lens (ups f k) + lens (dns f k) ≤ bnd k
  | 0 => Nat.le_refl _
  | k + 1 => by
    have ih := lens_both f k
    have h1 := pw_len k (f k).toNat
    have h2 := pw_len k (-(f k)).toNat
    rw [ups, dns, lens_app, lens_app, bnd]
    by_cases h : 0 < f k
    · rw [if_pos h, if_neg (by omega), lens_one, show lens [] = 0 from rfl]
      omega
    · rw [if_neg h, show lens [] = 0 from rfl]
      by_cases h' : f k < 0
      · rw [if_pos h', lens_one]; omega
      · rw [if_neg h', show lens [] = 0 from rfl]; omega
theorem txt_len (f : Nat → Int) : (txt f).length ≤ 23 := by
  have h := lens_both f 6
  have hb : bnd 6 = 22 := rfl
  unfold txt head
  rw [List.length_append, tail_len]
  split
  · simp; omega
  · have := lens_join (ups f 6); omega
theorem head_ne (f : Nat → Int) (hf : ok f = true) : head f ≠ [] := by
  have hu := ups_no f hf 6 (by omega)
  unfold head
  split
  · simp
  · rename_i h
    obtain ⟨p, l, e⟩ := List.exists_cons_of_ne_nil h
    rw [e] at hu ⊢
    obtain ⟨_, _, c, t, rfl, _⟩ := hu p (by simp)
    rw [Lib.join_cons]; simp
theorem tx_ne (f : Nat → Int) : (tx f ≠ []) ↔ ok f = true := by
  unfold tx
  by_cases h : ok f = true
  · rw [if_pos h]; exact ⟨fun _ => h, fun _ e => head_ne f h (List.append_eq_nil_iff.1 e).1⟩
  · rw [if_neg h]; simp [h]

/-! ## What Read returns -/
def rdB (s : List UInt8) : Bool := decide (s.length ≤ 23) && (readL s).2 && decide (tx (readL s).1 = s)
def rdF (s : List UInt8) : Nat → Int := if rdB s then (readL s).1 else zf
theorem rd_tx (f : Nat → Int) (hf : ok f = true) : rdB (tx f) = true ∧ ∀ i, i < 6 → rdF (tx f) i = f i := by
  have e : tx f = txt f := by unfold tx; rw [if_pos hf]
  have hr := readL_txt f hf
  have ht : tx (nf f 6 (pf f 6 zf)) = txt f := by rw [← e]; exact tx_eq (nfpf f)
  have hB : rdB (txt f) = true := by
    unfold rdB
    rw [hr]
    simp only [Bool.and_eq_true, decide_eq_true_eq]
    exact ⟨⟨txt_len f, trivial⟩, ht⟩
  rw [e]
  refine ⟨hB, fun i hi => ?_⟩
  unfold rdF
  rw [if_pos hB, hr]
  exact nfpf f i hi
theorem rd_some {s : List UInt8} (h : rdB s = true) : tx (rdF s) = s ∧ ok (rdF s) = true := by
  have e : rdF s = (readL s).1 := by unfold rdF; rw [if_pos h]
  unfold rdB at h
  simp only [Bool.and_eq_true, decide_eq_true_eq] at h
  rw [e]
  refine ⟨h.2, ?_⟩
  rw [← tx_ne, h.2]
  intro e'
  rw [e'] at h
  have := h.1.2
  rw [readL_nil] at this
  cases this
theorem rd_none {s : List UInt8} (h : rdB s = false) : rdF s = zf := by unfold rdF; rw [h]; rfl
end Go.Proofs.YtmhdhabgdlefjaaDoor.Dm
