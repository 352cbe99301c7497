/- The records of a string, and what a torn file still holds of them. No program. The contracts of Sum and form. The contract of recordsOf. -/
import Derived.Test.YtejddacjncpneaaGreatDoorWi1
import Derived.Test.YtejddacjncpneaaGreatDoorWi2
import Derived.WalkMore
set_option maxRecDepth 100000
namespace Go.Proofs.YtejddacjncpneaaGreatDoor.Jo
open Go Wi

def sumFrom : Nat → List UInt8 → Nat
  | _, [] => 0
  | k, c :: r => c.toNat * k + sumFrom (k + 1) r
def sumB (l : List UInt8) : Nat := sumFrom 1 l

theorem sumFrom_app (l m : List UInt8) : ∀ k, sumFrom k (l ++ m) = sumFrom k l + sumFrom (k + l.length) m := by
  induction l with
  | nil => intro k; simp [sumFrom]
  | cons c l ih =>
    intro k
    simp only [List.cons_append, sumFrom, ih (k + 1), List.length_cons]
    have e : k + 1 + l.length = k + (l.length + 1) := by omega
    rw [e]; omega
theorem sumB_snoc (l : List UInt8) (c : UInt8) : sumB (l ++ [c]) = sumB l + c.toNat * (l.length + 1) := by
  simp only [sumB, sumFrom_app, sumFrom]
  rw [Nat.add_comm 1 l.length]; omega
theorem sumB_take (l : List UInt8) (k : Nat) (h : k < l.length) : sumB (l.take (k + 1)) = sumB (l.take k) + l[k].toNat * (k + 1) := by
  rw [List.take_succ_eq_append_getElem h, sumB_snoc, List.length_take, Nat.min_eq_left (by omega)]
theorem sumFrom_le (l : List UInt8) : ∀ k, sumFrom k l ≤ 255 * (k + l.length) * l.length := by
  induction l with
  | nil => intro k; simp [sumFrom]
  | cons c l ih =>
    intro k
    have h1 := ih (k + 1)
    have h2 := c.toNat_lt
    have h3 : c.toNat * k ≤ 255 * k := Nat.mul_le_mul_right _ (by omega)
    have e : k + 1 + l.length = k + (l.length + 1) := by omega
    rw [e] at h1
    simp only [sumFrom, List.length_cons]
    have h4 : 255 * (k + (l.length + 1)) * (l.length + 1) = 255 * (k + (l.length + 1)) * l.length + 255 * (k + (l.length + 1)) := Nat.mul_succ _ _
    omega
theorem sumB_le (l : List UInt8) (m : Nat) (h : l.length ≤ m) : sumB l ≤ 255 * (1 + m) * m :=
  Nat.le_trans (sumFrom_le l 1) (Nat.mul_le_mul (Nat.mul_le_mul_left _ (by omega)) h)

/-- The form of a record. -/
def form (x : ByteArray) : List UInt8 := encText x.data.toList ++ encInt (sumB x.data.toList)
def forms (l : List ByteArray) : List UInt8 := l.flatMap form
theorem forms_nil : forms [] = [] := rfl
theorem forms_cons (x : ByteArray) (l : List ByteArray) : forms (x :: l) = form x ++ forms l := rfl
theorem forms_app (l m : List ByteArray) : forms (l ++ m) = forms l ++ forms m := by simp [forms]
theorem forms_snoc (l : List ByteArray) (x : ByteArray) : forms (l ++ [x]) = forms l ++ form x := by simp [forms]

theorem size_eq (x : ByteArray) : x.data.toList.length = x.size := by rw [Array.length_toList]; rfl
theorem ba_len_eq (x : ByteArray) : x = ⟨x.data.toList.toArray⟩ := by cases x; simp
theorem ba_inj {x y : ByteArray} (h : x.data.toList = y.data.toList) : x = y := by rw [ba_len_eq x, ba_len_eq y, h]
theorem sum_small {x : ByteArray} (h : x.size ≤ 20000) : sumB x.data.toList ≤ 102005100000 := by
  have := sumB_le x.data.toList 20000 (by rw [size_eq]; exact h)
  omega

theorem form_pos (x : ByteArray) : 0 < (form x).length := by simp [form, encText]; omega

/-- One record is read. -/
def rec1 (s : List UInt8) : Option (ByteArray × List UInt8) :=
  match pText s with
  | none => none
  | some (x, r) => match pNum 59 r with
    | none => none
    | some (n, r') => if x.size ≤ 20000 ∧ (sumB x.data.toList : Int) = n then some (x, r') else none

theorem rec1_form (x : ByteArray) (r : List UInt8) (h : x.size ≤ 20000) : rec1 (form x ++ r) = some (x, r) := by
  have hs := sum_small h
  unfold rec1 form
  rw [List.append_assoc, pText_enc x (by omega)]
  simp only
  rw [pNum_encInt _ (by omega) (by omega)]
  simp [h]
theorem rec1_some {s : List UInt8} {x : ByteArray} {r : List UInt8} (h : rec1 s = some (x, r)) : s = form x ++ r ∧ x.size ≤ 20000 := by
  unfold rec1 at h
  split at h
  · cases h
  · rename_i y r0 hy
    split at h
    · cases h
    · rename_i n r1 hn
      split at h
      · rename_i hc
        simp at h; obtain ⟨rfl, rfl⟩ := h
        obtain ⟨hp, _⟩ := pNum_some hn
        have h1 := (pInt_some _ _ _ _ hp).1
        have h2 := pText_some hy
        refine ⟨?_, hc.1⟩
        rw [h2, h1, ← hc.2]
        simp [form, encInt]
      · cases h

/-- The records of a string, with fuel. -/
def recsN : Nat → List UInt8 → List ByteArray
  | 0, _ => []
  | k + 1, s => match rec1 s with
    | none => []
    | some (x, r) => x :: recsN k r
def recs (s : List UInt8) : List ByteArray := recsN s.length s

theorem rec1_len {s : List UInt8} {x : ByteArray} {r : List UInt8} (h : rec1 s = some (x, r)) : r.length < s.length := by
  have h1 := (rec1_some h).1
  have h2 := form_pos x
  rw [h1, List.length_append]; omega
theorem recsN_more : ∀ (k : Nat) (s : List UInt8), s.length ≤ k → recsN k s = recs s := by
  intro k
  induction k using Nat.strongRecOn with
  | _ k ih =>
    intro s hs
    unfold recs
    match k, s with
    | 0, [] => rfl
    | 0, _ :: _ => simp at hs
    | k + 1, [] => simp [recsN, rec1, pText, pNum, pInt, cut_nil]
    | k + 1, c :: s =>
      simp only [List.length_cons, recsN]
      split
      · rfl
      · rename_i x r hx
        have hl := rec1_len hx
        simp at hl hs
        rw [ih k (by omega) r (by omega)]
        by_cases e : s.length < k + 1
        · rw [ih s.length (by omega) r (by omega)]
        · omega
theorem recs_none {s : List UInt8} (h : rec1 s = none) : recs s = [] := by
  unfold recs
  cases s with
  | nil => rfl
  | cons c s => simp only [List.length_cons, recsN, h]
theorem recs_some {s : List UInt8} {x : ByteArray} {r : List UInt8} (h : rec1 s = some (x, r)) : recs s = x :: recs r := by
  have hl := rec1_len h
  unfold recs
  cases s with
  | nil => simp at hl
  | cons c s =>
    simp only [List.length_cons, recsN, h]
    simp at hl
    rw [recsN_more s.length r (by omega)]
    rfl

def Small (l : List ByteArray) : Prop := ∀ x ∈ l, x.size ≤ 20000
theorem recs_forms : ∀ (l : List ByteArray) (r : List UInt8), Small l → recs (forms l ++ r) = l ++ recs r
  | [], r, _ => rfl
  | x :: l, r, h => by
    rw [forms_cons, List.append_assoc, recs_some (rec1_form x _ (h x (by simp))), recs_forms l r (fun y hy => h y (by simp [hy]))]
    rfl
theorem recs_nil : recs [] = [] := rfl
theorem recs_of_forms (l : List ByteArray) (h : Small l) : recs (forms l) = l := by
  have := recs_forms l [] h
  simpa [recs_nil] using this
/-- What is read, and what follows it. -/
theorem recs_split : ∀ (n : Nat) (s : List UInt8), s.length ≤ n → ∃ r, s = forms (recs s) ++ r ∧ rec1 r = none ∧ Small (recs s) := by
  intro n
  induction n with
  | zero =>
    intro s hs
    obtain rfl : s = [] := by cases s with | nil => rfl | cons => simp at hs
    exact ⟨[], rfl, rfl, by intro x hx; simp [recs_nil] at hx⟩
  | succ n ih =>
    intro s hs
    cases h : rec1 s with
    | none => exact ⟨s, by rw [recs_none h]; rfl, h, by rw [recs_none h]; intro x hx; simp at hx⟩
    | some p =>
      obtain ⟨x, r⟩ := p
      have hl := rec1_len h
      obtain ⟨r', h1, h2, h3⟩ := ih r (by omega)
      refine ⟨r', ?_, h2, ?_⟩
      · rw [recs_some h, forms_cons, List.append_assoc, ← h1]
        exact (rec1_some h).1
      · rw [recs_some h]
        intro y hy
        rcases List.mem_cons.1 hy with rfl | hy
        · exact (rec1_some h).2
        · exact h3 y hy
theorem recs_small (s : List UInt8) : Small (recs s) := by
  obtain ⟨_, _, _, h⟩ := recs_split s.length s (Nat.le_refl _)
  exact h
theorem recs_len (s : List UInt8) : (forms (recs s)).length ≤ s.length := by
  obtain ⟨r, h, _, _⟩ := recs_split s.length s (Nat.le_refl _)
  conv => rhs; rw [h]
  simp
theorem recs_take (s : List UInt8) : s.take (forms (recs s)).length = forms (recs s) := by
  obtain ⟨r, h, _, _⟩ := recs_split s.length s (Nat.le_refl _)
  conv => lhs; rhs; rw [h]
  simp
theorem recs_pre {l : List ByteArray} {s : List UInt8} (hl : Small l) (h : forms l <+: s) : l <+: recs s := by
  obtain ⟨r, rfl⟩ := h
  rw [recs_forms l r hl]
  exact ⟨_, rfl⟩

/-! ### torn files -/
/-- Of n some bytes at the end are missing, and some others are 0. -/
def Torn (x n : List UInt8) : Prop := x.length ≤ n.length ∧ ∀ i, i < x.length → x.getD i 0 = n.getD i 0 ∨ x.getD i 0 = 0

theorem Torn.refl (x : List UInt8) : Torn x x := ⟨Nat.le_refl _, fun _ _ => .inl rfl⟩
theorem Torn.more {x n : List UInt8} (h : Torn x n) (m : List UInt8) : Torn x (n ++ m) := by
  refine ⟨by rw [List.length_append]; have := h.1; omega, fun i hi => ?_⟩
  have h1 := h.1
  have e : (n ++ m).getD i 0 = n.getD i 0 := by simp [List.getD_eq_getElem?_getD, List.getElem?_append_left (show i < n.length by omega)]
  rw [e]
  exact h.2 i hi
theorem Torn.nil_of {x : List UInt8} (h : Torn x []) : x = [] := by
  have := h.1
  cases x with
  | nil => rfl
  | cons => simp at this
theorem Torn.cons_iff {a b : UInt8} {x n : List UInt8} : Torn (a :: x) (b :: n) ↔ (a = b ∨ a = 0) ∧ Torn x n := by
  constructor
  · rintro ⟨h1, h2⟩
    simp at h1
    refine ⟨by simpa using h2 0 (by simp), h1, fun i hi => ?_⟩
    simpa using h2 (i + 1) (by simp; omega)
  · rintro ⟨h0, h1, h2⟩
    refine ⟨by simp; omega, fun i hi => ?_⟩
    cases i with
    | zero => simpa using h0
    | succ i => simpa using h2 i (by simp at hi; omega)
/-- Bytes that are not 0 are the ones that were there. -/
theorem Torn.solid : ∀ {u x n : List UInt8}, (∀ c ∈ u, c ≠ 0) → Torn (u ++ x) n → ∃ m, n = u ++ m ∧ Torn x m
  | [], x, n, _, h => ⟨n, rfl, h⟩
  | c :: u, x, [], _, h => by have := h.1; simp at this
  | c :: u, x, d :: n, hc, h => by
    rw [List.cons_append, Torn.cons_iff] at h
    have h0 := hc c (by simp)
    obtain rfl : c = d := h.1.resolve_right h0
    obtain ⟨m, rfl, hm⟩ := Torn.solid (fun e he => hc e (by simp [he])) h.2
    exact ⟨m, rfl, hm⟩
theorem Torn.split : ∀ {r x a n : List UInt8}, r.length = a.length → Torn (r ++ x) (a ++ n) → Torn r a ∧ Torn x n
  | [], x, [], n, _, h => ⟨Torn.refl _, h⟩
  | [], _, _ :: _, _, hl, _ => by simp at hl
  | _ :: _, _, [], _, hl, _ => by simp at hl
  | c :: r, x, d :: a, n, hl, h => by
    rw [List.cons_append, List.cons_append, Torn.cons_iff] at h
    obtain ⟨h1, h2⟩ := Torn.split (by simpa using hl) h.2
    exact ⟨Torn.cons_iff.2 ⟨h.1, h1⟩, h2⟩
theorem Torn.sum : ∀ {r a : List UInt8} (k : Nat), 0 < k → r.length = a.length → Torn r a → sumFrom k r ≤ sumFrom k a ∧ (sumFrom k r = sumFrom k a → r = a)
  | [], [], _, _, _, _ => ⟨Nat.le_refl _, fun _ => rfl⟩
  | [], _ :: _, _, _, hl, _ => by simp at hl
  | _ :: _, [], _, _, hl, _ => by simp at hl
  | c :: r, d :: a, k, hk, hl, h => by
    rw [Torn.cons_iff] at h
    obtain ⟨h1, h2⟩ := Torn.sum (k + 1) (by omega) (by simpa using hl) h.2
    have hcd : c.toNat ≤ d.toNat := by
      rcases h.1 with rfl | rfl
      · exact Nat.le_refl _
      · simp
    have hm : c.toNat * k ≤ d.toNat * k := Nat.mul_le_mul_right _ hcd
    refine ⟨by simp only [sumFrom]; omega, fun e => ?_⟩
    simp only [sumFrom] at e
    obtain rfl := h2 (by omega)
    have e2 : c.toNat * k = d.toNat * k := by omega
    have e3 := Nat.eq_of_mul_eq_mul_right hk e2
    rw [UInt8.toNat_inj.1 e3]

theorem solid_itoa (n : Int) : ∀ c ∈ Lib.itoa n, c ≠ 0 := by
  rintro c hc rfl
  have := itoa_range n 0 hc
  simp at this
theorem app_at {a b : List UInt8} {c : UInt8} {m n : List UInt8} (ha : c ∉ a) (hb : c ∉ b) (h : a ++ c :: m = b ++ c :: n) : a = b ∧ m = n := by
  have h1 := cut_of c a m ha
  rw [h, cut_of c b n hb] at h1
  injection h1 with h1 h2
  injection h2 with h2 _
  exact ⟨h1.symm, h2.symm⟩

theorem torn_head {r a : ByteArray} {x n : List UInt8} (hr : r.size ≤ 20000) (ha : a.size ≤ 9000000000) (h : Torn (form r ++ x) (form a ++ n)) : r = a ∧ Torn x n := by
  have lr := size_eq r
  have la := size_eq a
  have sa := sumB_le a.data.toList 9000000000 (by omega)
  have sa' : sumB a.data.toList ≤ 20655000002295000000000 := sa
  have e1 : form r ++ x = (Lib.itoa r.size ++ [58]) ++ (r.data.toList ++ ([44] ++ Lib.itoa (sumB r.data.toList) ++ [59] ++ x)) := by
    simp [form, encText, encInt, lr]
  have e2 : form a ++ n = (Lib.itoa a.size ++ [58]) ++ (a.data.toList ++ ([44] ++ Lib.itoa (sumB a.data.toList) ++ [59] ++ n)) := by
    simp [form, encText, encInt, la]
  rw [e1, e2] at h
  have s1 : ∀ c ∈ Lib.itoa r.size ++ [58], c ≠ 0 := by
    intro c hc
    rcases List.mem_append.1 hc with hc | hc
    · exact solid_itoa _ c hc
    · simp at hc; subst hc; decide
  obtain ⟨m, hm, h⟩ := Torn.solid s1 h
  have k1 : (58 : UInt8).toNat ≠ 45 ∧ 57 < (58 : UInt8).toNat := by decide
  have k2 : (59 : UInt8).toNat ≠ 45 ∧ 57 < (59 : UInt8).toNat := by decide
  simp only [List.append_assoc, List.singleton_append] at hm
  obtain ⟨hi, hm⟩ := app_at (itoa_not _ 58 k1) (itoa_not _ 58 k1) hm
  have hz : a.size = r.size := by have := itoa_inj (by omega) (by omega) hi; omega
  rw [← hm] at h
  obtain ⟨h1, h2⟩ := Torn.split (by rw [lr, la, hz]) h
  have s2 : ∀ c ∈ [44] ++ Lib.itoa (sumB r.data.toList) ++ [59], c ≠ 0 := by
    intro c hc
    rcases List.mem_append.1 hc with hc | hc
    · rcases List.mem_append.1 hc with hc | hc
      · simp at hc; subst hc; decide
      · exact solid_itoa _ c hc
    · simp at hc; subst hc; decide
  obtain ⟨m2, hm2, h3⟩ := Torn.solid s2 (by simpa using h2)
  simp only [List.append_assoc, List.cons_append, List.nil_append] at hm2
  injection hm2 with _ hm2
  obtain ⟨hi2, hm3⟩ := app_at (itoa_not _ 59 k2) (itoa_not _ 59 k2) hm2
  have hsr := sum_small hr
  have hs2 := Torn.sum 1 (by omega) (by rw [lr, la, hz]) h1
  have sa3 := sumB_le a.data.toList 20000 (by omega)
  have e3 : (sumB a.data.toList : Int) = sumB r.data.toList := itoa_inj (by omega) (by omega) hi2
  refine ⟨ba_inj (hs2.2 ?_), hm3 ▸ h3⟩
  show sumB r.data.toList = sumB a.data.toList
  omega

/-- The records of a torn file are first records of the list. -/
theorem torn_recs : ∀ (l : List ByteArray) (x : List UInt8), (∀ a ∈ l, a.size ≤ 9000000000) → Torn x (forms l) → recs x <+: l
  | [], x, _, h => by
    obtain rfl := h.nil_of
    exact ⟨[], rfl⟩
  | a :: l, x, hl, h => by
    cases hx : rec1 x with
    | none => rw [recs_none hx]; exact ⟨a :: l, rfl⟩
    | some p =>
      obtain ⟨r, x'⟩ := p
      obtain ⟨e, hr⟩ := rec1_some hx
      rw [recs_some hx]
      subst e
      obtain ⟨rfl, h2⟩ := torn_head hr (hl a (by simp)) h
      obtain ⟨t, ht⟩ := torn_recs l x' (fun b hb => hl b (by simp [hb])) h2
      exact ⟨t, by rw [← ht]; rfl⟩
end Go.Proofs.YtejddacjncpneaaGreatDoor.Jo

namespace Go.Proofs.YtejddacjncpneaaGreatDoor.Jo
open Go.RowKit Go.Sort Wi

theorem byte_at (s : ByteArray) (k : Nat) (h : k < s.size) : (s[k]'h).toNat = (s.data.toList[k]'(by rw [size_eq]; exact h)).toNat := by
  congr 1

set_option maxHeartbeats 1000000 in
theorem sum_any (s : ByteArray) (h : s.size ≤ 20000) (w : World) :
    Calls Tryz.prog 10 #[.string s] w fun e w' => e = .returned (.int .i64 (sumB s.data.toList)) ∧ w = w' := by
  have hsum := sum_small h
  have HL := Lib.hid (size_eq s)
  go_enter Tryz.func10, Tryz.ntmps10
  go_wp2_with fail
  go_loop [3, 7] (fun n i => ∃ k : Nat, k ≤ s.size ∧ i = .int .i64 k ∧ n = .int .i64 (sumB (s.data.toList.take k))) (fun _ i => s.size - (RowKit.intOf i).toNat)
  case atStart => exact ⟨0, by omega, rfl, by simp [sumB, sumFrom]⟩
  case round =>
    obtain ⟨k, hk, rfl, rfl⟩ := hrel
    by_cases hlt : k < s.size
    · obtain ⟨m, hm⟩ : ∃ m, sumB (s.data.toList.take k) = m := ⟨_, rfl⟩
      obtain ⟨c, hc⟩ : ∃ c, (s[k]'hlt).toNat = c := ⟨_, rfl⟩
      have hb := byte_at s k hlt
      have hstep := sumB_take s.data.toList k (by rw [HL.out]; exact hlt)
      rw [← hb, hc, hm] at hstep
      have hcb : c < 256 := by rw [← hc]; exact (s[k]'hlt).toNat_lt
      have hmb : m ≤ 102005100000 := by rw [← hm]; exact Nat.le_trans (sumB_le _ 20000 (by rw [List.length_take, HL.out]; omega)) (by omega)
      have hp : c * (k + 1) ≤ 255 * 20001 := Nat.mul_le_mul (by omega) (by omega)
      have hpi : ((c : Int) * ((k : Int) + 1)) = ((c * (k + 1) : Nat) : Int) := by simp
      have HS := Lib.hid hstep
      have HP := Lib.hid hpi
      have HC := Lib.hid hc
      have hci : ((s[k]'hlt).toNat : Int) = (c : Int) := by rw [hc]
      clear hstep hb hpi hc
      rw [hm]
      go_wp2_with fail
      go_round
      case rel =>
        refine ⟨k + 1, by omega, by go_num, ?_⟩
        rw [HS.out, HP.out]
        obtain ⟨p, hpp⟩ : ∃ p, c * (k + 1) = p := ⟨_, rfl⟩
        rw [hpp] at hp ⊢
        rw [IntWalk.wrap64_in (p : Int) (by omega), IntWalk.wrap64_in ((m : Int) + p) (by omega)]
        go_num
      case measure => simp [RowKit.intOf]; omega
    · have HK : Hid (s.data.toList.take k = s.data.toList) := List.take_of_length_le (by rw [HL.out]; omega)
      go_wp2_with fail
      go_ret
      rw [HK.out]
      exact ⟨rfl, rfl⟩

theorem encInt_len (n : Nat) (_ : 0 ≤ n) (h1 : n ≤ 9223372036854775807) : (encInt n).length ≤ 21 := by
  have := itoa_len20 (n : Int) (by omega) (by omega)
  simp [encInt]; omega
theorem encText_len (s : ByteArray) : (encText s.data.toList).length ≤ s.size + (Lib.itoa s.size).length + 2 := by
  have := size_eq s
  simp [encText, this]; omega
theorem form_len (s : ByteArray) (h : s.size ≤ 20000) : (form s).length ≤ s.size + 43 := by
  have h1 := encText_len s
  have h2 := encInt_len (sumB s.data.toList) (by omega) (by have := sum_small h; omega)
  have h3 := itoa_len20 (s.size : Int) (by omega) (by omega)
  simp only [form, List.length_append]; omega

theorem form_any (s : ByteArray) (h : s.size ≤ 20000) (w : World) (he : Env w) :
    Calls Tryz.prog 40 #[.string s] w fun e w' => e = .returned (.string ⟨(form s).toArray⟩) ∧ RowKit.Below w.heap.size w w' := by
  have hs := sum_small h
  have HE := Lib.hid he
  have hl1 := encText_len s
  have hl3 := itoa_len20 (s.size : Int) (by omega) (by omega)
  have hl2 := encInt_len (sumB s.data.toList) (by omega) (by omega)
  clear he
  go_enter Tryz.func40, Tryz.ntmps40
  go_wp2_with fail
  refine (text_any s (by omega) w HE.out).mono ?_
  rintro e w1 ⟨rfl, h1⟩
  have H1 := Lib.hid h1
  clear h1
  go_wp2_with fail
  refine (sum_any s h w1).mono ?_
  rintro e w2 ⟨rfl, rfl⟩
  go_wp2_with fail
  refine (num_any _ (by omega) (by omega) w1 (HE.out.below H1.out HE.out.size)).mono ?_
  rintro e w2 ⟨rfl, h2⟩
  have H2 := Lib.hid h2
  clear h2
  go_wp2_with fail
  go_ret
  exact ⟨by simp [form, ba_app], H1.out.trans (H2.out.mono H1.out.size)⟩
end Go.Proofs.YtejddacjncpneaaGreatDoor.Jo

namespace Go.Proofs.YtejddacjncpneaaGreatDoor.Jo
open Go.RowKit Go.Sort Wi

/-- How recordsOf ends. -/
def RecsOf (s : List UInt8) (w : World) (e : Ending) (w' : World) : Prop :=
  ∃ v, e = .returned (.tuple #[v, .int .i64 (forms (recs s)).length]) ∧ w'.ownsRow w.heap.size 9 1 v (recs s).length ((recs s).map Value.string) ∧ Below w.heap.size w w'

/-- What holds at the head of a round. -/
def RL (s : List UInt8) (w : World) (v n : Value) (wr : World) : Prop :=
  ∃ done rest, s = forms done ++ rest ∧ Small done ∧ n = .int .i64 (forms done).length ∧ wr.ownsRow (w.heap.size + 1) 9 1 v done.length (done.map Value.string) ∧
    IsR w.heap.size rest false wr ∧ w.grownBy wr (some w.heap.size)

theorem own_base {w : World} {base base' e size n : Nat} {v : Value} {xs : List Value} (h : w.ownsRow base e size v n xs) (hb : base' ≤ base) : w.ownsRow base' e size v n xs := by
  refine ⟨h.1, ?_⟩
  rcases h.2 with h2 | ⟨g, cap, cur, h2, h3, h4⟩
  · exact .inl h2
  · exact .inr ⟨g, cap, cur, h2, by omega, h4⟩
theorem forms_ge (l : List ByteArray) : l.length ≤ (forms l).length := by
  induction l with
  | nil => simp
  | cons x l ih => have := form_pos x; rw [forms_cons, List.length_append, List.length_cons]; omega
theorem RL.fin {s : List UInt8} {w wr w' : World} {v : Value} {done : List ByteArray} {rest : List UInt8} (h1 : s = forms done ++ rest) (h2 : Small done)
    (h4 : wr.ownsRow (w.heap.size + 1) 9 1 v done.length (done.map Value.string)) (hg : wr.grownBy w' (some w.heap.size)) (h6 : w.grownBy w' (some w.heap.size)) (hn : rec1 rest = none) :
    RecsOf s w (.returned (.tuple #[v, .int .i64 (forms done).length])) w' := by
  have e : recs s = done := by rw [h1, recs_forms _ _ h2, recs_none hn, List.append_nil]
  refine ⟨v, by rw [e], by rw [e]; exact own_base (h4.kept hg (own_ne h4 (by omega))) (by omega), ⟨h6.os, h6.tape, h6.output, h6.size, fun k hk => h6.block k hk (by simp; omega)⟩⟩
theorem pNum_nil : pNum 59 [] = none := by simp [pNum, pInt, cut_nil]
theorem pText_shorter {s : List UInt8} {x : ByteArray} {r : List UInt8} (h : pText s = some (x, r)) : r.length < s.length ∧ x.size < s.length := by
  have h1 := pText_some h
  have h2 := size_eq x
  rw [h1]; simp [encText]; omega

set_option maxHeartbeats 4000000 in
theorem recordsOf_any (s : List UInt8) (hs : s.length ≤ 100000000) (w : World) (he : Env w) :
    Calls Tryz.prog 34 #[.string ⟨s.toArray⟩] w (RecsOf s w) := by
  obtain ⟨i0, hi, hz0, hz1, hz2⟩ := info_parts infoStr
  have HE := Lib.hid he
  have hz6 := he.size
  clear he
  go_enter Tryz.func34, Tryz.ntmps34
  go_wp2_with fail
  go_step3
  go_wp2_with fail
  refine (open_any _ w).mono ?_
  rintro e w1 ⟨rfl, rfl⟩
  have hst : RL s w (.slice none 0 0) (.int .i64 0) (w.alloc (.cells #[.string ⟨s.toArray⟩, .bool false] 106)) :=
    ⟨[], s, rfl, by intro x hx; simp at hx, rfl, World.ownsRow_nil _ _ _ _, fresh_R w s, on_grown (on_refl _ w) (World.grownBy_alloc _ _ none) (fun k hk => by cases hk)⟩
  have HS0 := Lib.hid hst
  clear hst
  go_wp2_with fail
  go_step3
  go_wp2_with fail
  go_loopw [2, 3] (fun v n wr => RL s w v n wr) (fun _ n _ => s.length - (RowKit.intOf n).toNat)
  case atStart => exact HS0.out
  case round =>
    clear HS0
    obtain ⟨done, rest, hsr, hsm, rfl, hown, hir, hgr⟩ := hrel
    have hrl : (forms done).length + rest.length = s.length := by rw [hsr, List.length_append]
    have hdl := forms_ge done
    have HSR := Lib.hid hsr
    have HSM := Lib.hid hsm
    have HO := Lib.hid hgr
    have HW := Lib.hid hown
    have HE1 := Lib.hid (HE.out.on hgr hz6)
    clear hsr hsm hown
    rcases hp : pText rest with _ | ⟨x, r1⟩
    · have HN : Hid (rec1 rest = none) := by unfold Hid rec1; rw [hp]
      have HP := Lib.hid hp
      clear hp hgr
      go_wp2_with fail
      refine (rtext_any _ rest false (by omega) _ hir HE1.out).mono ?_
      rintro e w2 hr2
      obtain ⟨ho2, rfl, hir2⟩ := hr2.none' HP.out
      have HO2 := Lib.hid ho2
      have HE2 := Lib.hid (HE.out.on (on_trans HO.out ho2) hz6)
      clear hr2 ho2 hir
      go_wp2_with fail
      refine (rnum_any _ [] true (by simp) _ hir2 HE2.out).mono ?_
      rintro e w3 hr3
      obtain ⟨ho3, rfl, hir3⟩ := hr3.none' pNum_nil
      have HO3 := Lib.hid (on_trans HO2.out ho3)
      clear hr3 ho3 hir2
      go_wp2_with fail
      refine (left_any _ [] true _ hir3).mono ?_
      rintro e w4 ⟨rfl, rfl⟩
      go_wp2_with fail
      refine (done_any _ [] true _ hir3).mono ?_
      rintro e w4 ⟨rfl, rfl⟩
      go_wp2_with fail
      go_ret2
      exact RL.fin HSR.out HSM.out HW.out HO3.out (on_trans HO.out HO3.out) HN.out
    · rcases hq : pNum 59 r1 with _ | ⟨n, r2⟩
      · have HN : Hid (rec1 rest = none) := by unfold Hid rec1; rw [hp]; simp only [hq]
        have hr1 := (pText_shorter hp).1
        have HP := Lib.hid hp
        have HQ := Lib.hid hq
        clear hp hq hgr
        go_wp2_with fail
        refine (rtext_any _ rest false (by omega) _ hir HE1.out).mono ?_
        rintro e w2 hr2
        obtain ⟨ho2, rfl, hir2⟩ := hr2.some' HP.out
        have HO2 := Lib.hid ho2
        have HE2 := Lib.hid (HE.out.on (on_trans HO.out ho2) hz6)
        clear hr2 ho2 hir
        go_wp2_with fail
        refine (rnum_any _ r1 false (by omega) _ hir2 HE2.out).mono ?_
        rintro e w3 hr3
        obtain ⟨ho3, rfl, hir3⟩ := hr3.none' HQ.out
        have HO3 := Lib.hid (on_trans HO2.out ho3)
        clear hr3 ho3 hir2
        go_wp2_with fail
        refine (left_any _ [] true _ hir3).mono ?_
        rintro e w4 ⟨rfl, rfl⟩
        go_wp2_with fail
        refine (done_any _ [] true _ hir3).mono ?_
        rintro e w4 ⟨rfl, rfl⟩
        go_wp2_with fail
        go_ret2
        exact RL.fin HSR.out HSM.out HW.out HO3.out (on_trans HO.out HO3.out) HN.out
      · have hr1 := pText_shorter hp
        have hnn := pNum_some hq
        have hr2l := pInt_len hnn.1
        have hnb := (pInt_some _ _ _ _ hnn.1).2
        have hn0 := hnn.2
        have HP := Lib.hid hp
        have HQ := Lib.hid hq
        clear hp hq hgr hnn
        go_wp2_with fail
        refine (rtext_any _ rest false (by omega) _ hir HE1.out).mono ?_
        rintro e w2 hr2
        obtain ⟨ho2, rfl, hir2⟩ := hr2.some' HP.out
        have HO2 := Lib.hid ho2
        have HE2 := Lib.hid (HE.out.on (on_trans HO.out ho2) hz6)
        clear hr2 ho2 hir
        go_wp2_with fail
        refine (rnum_any _ r1 false (by omega) _ hir2 HE2.out).mono ?_
        rintro e w3 hr3
        obtain ⟨ho3, rfl, hir3⟩ := hr3.some' HQ.out
        have HO3 := Lib.hid (on_trans HO2.out ho3)
        clear hr3 ho3 hir2
        have hcs : 20000 < x.size ∨ (x.size ≤ 20000 ∧ (sumB x.data.toList : Int) ≠ n) ∨ (x.size ≤ 20000 ∧ (sumB x.data.toList : Int) = n) := by omega
        have hlz : r2 = [] ∨ ((r2.length : Int) == 0) = false := by
          cases r2 with
          | nil => exact .inl rfl
          | cons => right; simp; omega
        rcases hcs with hbig | ⟨hsz, hne⟩ | ⟨hsz, heq⟩
        · have HN : Hid (rec1 rest = none) := by unfold Hid rec1; rw [HP.out]; simp only [HQ.out]; rw [if_neg (by omega)]
          rcases hlz with rfl | hlz
          · go_wp2_with fail
            refine (left_any _ [] false _ hir3).mono ?_
            rintro e w4 ⟨rfl, rfl⟩
            go_wp2_with fail
            refine (done_any _ [] false _ hir3).mono ?_
            rintro e w4 ⟨rfl, rfl⟩
            go_wp2_with fail
            go_ret2
            exact RL.fin HSR.out HSM.out HW.out HO3.out (on_trans HO.out HO3.out) HN.out
          · go_wp2_with fail
            refine (left_any _ r2 false _ hir3).mono ?_
            rintro e w4 ⟨rfl, rfl⟩
            go_wp2_with fail
            go_ret2
            exact RL.fin HSR.out HSM.out HW.out HO3.out (on_trans HO.out HO3.out) HN.out
        · have HN : Hid (rec1 rest = none) := by unfold Hid rec1; rw [HP.out]; simp only [HQ.out]; rw [if_neg (by omega)]
          have hne' : ((sumB x.data.toList : Int) != n) = true := by simpa using hne
          clear hne
          rcases hlz with rfl | hlz
          · go_wp2_with fail
            refine (left_any _ [] false _ hir3).mono ?_
            rintro e w4 ⟨rfl, rfl⟩
            go_wp2_with fail
            refine (done_any _ [] false _ hir3).mono ?_
            rintro e w4 ⟨rfl, rfl⟩
            go_wp2_with fail
            refine (sum_any x hsz _).mono ?_
            rintro e w4 ⟨rfl, rfl⟩
            go_wp2_with fail
            go_ret2
            exact RL.fin HSR.out HSM.out HW.out HO3.out (on_trans HO.out HO3.out) HN.out
          · go_wp2_with fail
            refine (left_any _ r2 false _ hir3).mono ?_
            rintro e w4 ⟨rfl, rfl⟩
            go_wp2_with fail
            refine (sum_any x hsz _).mono ?_
            rintro e w4 ⟨rfl, rfl⟩
            go_wp2_with fail
            go_ret2
            exact RL.fin HSR.out HSM.out HW.out HO3.out (on_trans HO.out HO3.out) HN.out
        · have HN : Hid (rec1 rest = some (x, r2)) := by unfold Hid rec1; rw [HP.out]; simp only [HQ.out]; rw [if_pos ⟨hsz, heq⟩]
          have hsum := sum_small hsz
          subst heq
          have hown3 := HW.out.kept HO3.out (own_ne HW.out (by omega))
          have hnew := (rec1_some HN.out).1
          have hfl : (forms (done ++ [x])).length + r2.length = s.length := by rw [HSR.out, hnew, forms_snoc]; simp; omega
          have hfp := form_pos x
          have hfe : (forms (done ++ [x])).length = (forms done).length + (form x).length := by rw [forms_snoc, List.length_append]
          have HNW : Hid (s = forms (done ++ [x]) ++ r2) := by unfold Hid; rw [forms_snoc, List.append_assoc, ← hnew]; exact HSR.out
          have HSM2 : Hid (Small (done ++ [x])) := fun y hy => by
            rcases List.mem_append.1 hy with hy | hy
            · exact HSM.out y hy
            · simp at hy; rw [hy]; exact hsz
          clear hnew
          rcases hlz with rfl | hlz
          all_goals
            go_wp2_with fail
            refine (left_any _ _ false _ hir3).mono ?_
            rintro e w4 ⟨rfl, rfl⟩
            first
              | (go_wp2_with fail
                 refine (done_any _ [] false _ hir3).mono ?_
                 rintro e w4 ⟨rfl, rfl⟩
                 go_wp2_with fail
                 refine (sum_any x hsz _).mono ?_)
              | (go_wp2_with fail
                 refine (sum_any x hsz _).mono ?_)
            rintro e w4 ⟨rfl, rfl⟩
            go_wp2_with (at_builtin; refine wpList_append_own _ rfl _ _ 46 rfl (w.heap.size + 1) 9 i0 (.string ⟨#[]⟩) 1 16 Tryz.underlying46 hi hz0 hz1 hz2 rfl (by decide) _ _ _ rfl (hown3.alloc _) ⟨w3.heap.size, 0, none⟩ 1 1 [.string x] rfl rfl ?c1 ?c2 ?c3 ?c4 ?c5 ?_)
            case c1 => exact new_cell _ _ _
            case c2 => intro u hu; simp at hu; subst hu; rfl
            case c3 => unfold maxLen; omega
            case c4 => omega
            case c5 => have := HO3.out.size; have := HO.out.size; simp; omega
            intro v' w5 hown5 hgrow _
            have hbl := own_block HW.out
            have HO5 := Lib.hid (on_grown (on_grown (on_trans HO.out HO3.out) (World.grownBy_alloc w3 (.cells #[.string x] 9) none) (fun k hk => by cases hk)) hgrow (fun k hk => by have := hbl k hk; omega))
            have hir5 := (hir3.grown (World.grownBy_alloc w3 (.cells #[.string x] 9) none) (by simp)).grown hgrow (fun e => by have := hbl _ e; omega)
            have HI5 := Lib.hid hir5
            have HW5 : Hid (w5.ownsRow (w.heap.size + 1) 9 1 v' (done ++ [x]).length ((done ++ [x]).map Value.string)) := by unfold Hid; simpa using hown5
            clear hbl hgrow hown5 hown3
            go_wp2_with fail
            refine (left_any _ _ false _ hir5).mono ?_
            rintro e w6 ⟨rfl, rfl⟩
            go_wp2_with fail
            go_roundw
            case rel =>
              refine ⟨done ++ [x], _, HNW.out, HSM2.out, ?_, HW5.out, HI5.out, HO5.out⟩
              have h9 := hfl
              try simp only [List.length_nil, Nat.add_zero] at h9
              refine congrArg _ ?_
              omega
            case measure => simp [RowKit.intOf]; omega
end Go.Proofs.YtejddacjncpneaaGreatDoor.Jo
