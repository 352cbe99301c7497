/- Numbers as lists of digits below 2^20, the lowest one first: their values, the list of a number, sums, products, quotients. No program. -/
import Derived.Laws.BitsLemmas
set_option maxRecDepth 100000
namespace Go.Proofs.Ytmhjejnkphdjpaa.Bi
open Go

theorem wraps_i64' (n : Int) (h₀ : 0 ≤ n) (h₁ : n < 2 ^ 63) : IntKind.i64.wrap n = n := by rw [IntKind.wrap_i64]; omega
theorem or40 (x y : Int) (h0 : 0 ≤ x) (h1 : x < 1048576) (h2 : 0 ≤ y) (h3 : y < 1048576) : bits .or .i64 (x * 1099511627776) (y * 1048576) = x * 1099511627776 + y * 1048576 :=
  bits_join .i64 63 (by decide) wraps_i64' 40 _ _ (by omega) (by omega) (by omega) (by omega) (by omega) (by omega)
theorem or20 (x y : Int) (h0 : 0 ≤ x) (h1 : x < 9223372036854775808) (hm : x % 1048576 = 0) (h2 : 0 ≤ y) (h3 : y < 1048576) : bits .or .i64 x y = x + y :=
  bits_join .i64 63 (by decide) wraps_i64' 20 _ _ (by omega) (by omega) (by omega) (by omega) (by omega) (by omega)
theorem mask20 (x : Int) : bits .and .i64 x 1048575 = x % 1048576 := by
  have hb : bits .and .i64 x 1048575 = IntKind.i64.wrap ((BitVec.ofInt 64 x &&& BitVec.ofInt 64 1048575).toNat : Int) := rfl
  rw [hb, BitVec.toNat_and]
  have e1 : (BitVec.ofInt 64 1048575).toNat = 2 ^ 20 - 1 := by decide
  rw [e1, Nat.and_two_pow_sub_one_eq_mod, BitVec.toNat_ofInt]
  have : (((x % ((2 ^ 64 : Nat) : Int)).toNat % 2 ^ 20 : Nat) : Int) = x % 1048576 := by omega
  rw [this]
  rw [IntKind.wrap_i64]; omega

/-- The value of a list of digits. -/
def val : List Int → Int
  | [] => 0
  | d :: r => d + 1048576 * val r
/-- The powers of the base. -/
def P : Nat → Int
  | 0 => 1
  | k + 1 => 1048576 * P k
def Dig (l : List Int) : Prop := ∀ d ∈ l, 0 ≤ d ∧ d < 1048576

theorem P_pos : ∀ k, 1 ≤ P k
  | 0 => by simp [P]
  | k + 1 => by have := P_pos k; simp only [P]; omega
theorem P_succ (k : Nat) : P (k + 1) = 1048576 * P k := rfl
theorem P_zero : P 0 = 1 := rfl
theorem P_add : ∀ i j, P (i + j) = P i * P j
  | 0, j => by simp [P]
  | i + 1, j => by rw [show i + 1 + j = (i + j) + 1 by omega, P_succ, P_add i j, P_succ, Int.mul_assoc]
theorem P_le {i j : Nat} (h : i ≤ j) : P i ≤ P j := by
  obtain ⟨k, rfl⟩ := Nat.exists_eq_add_of_le h
  induction k with
  | zero => exact Int.le_refl _
  | succ k ih =>
    have := ih (by omega)
    have h2 := P_pos (i + k)
    rw [show i + (k + 1) = (i + k) + 1 by omega, P_succ]; omega

theorem Dig.nil : Dig [] := by intro d h; cases h
theorem Dig.cons {d : Int} {l : List Int} (h0 : 0 ≤ d) (h1 : d < 1048576) (h : Dig l) : Dig (d :: l) := by
  intro x hx
  rcases List.mem_cons.1 hx with rfl | hx
  · exact ⟨h0, h1⟩
  · exact h x hx
theorem Dig.head {d : Int} {l : List Int} (h : Dig (d :: l)) : 0 ≤ d ∧ d < 1048576 := h d (by simp)
theorem Dig.tail {d : Int} {l : List Int} (h : Dig (d :: l)) : Dig l := fun x hx => h x (by simp [hx])
theorem Dig.app {l m : List Int} (h : Dig l) (k : Dig m) : Dig (l ++ m) := by
  intro x hx
  rcases List.mem_append.1 hx with hx | hx
  · exact h x hx
  · exact k x hx
theorem Dig.take {l : List Int} (h : Dig l) (k : Nat) : Dig (l.take k) := fun x hx => h x (List.mem_of_mem_take hx)
theorem Dig.drop {l : List Int} (h : Dig l) (k : Nat) : Dig (l.drop k) := fun x hx => h x (List.mem_of_mem_drop hx)
theorem Dig.zeros (n : Nat) : Dig (List.replicate n 0) := by
  intro x hx
  have := (List.mem_replicate.1 hx).2
  omega
theorem Dig.get {l : List Int} (h : Dig l) (i : Nat) : 0 ≤ l.getD i 0 ∧ l.getD i 0 < 1048576 := by
  rw [List.getD_eq_getElem?_getD]
  cases he : l[i]? with
  | none => simp
  | some d => simpa using h d (List.mem_of_getElem? he)
theorem dig_of_get {l : List Int} (h : ∀ i, i < l.length → 0 ≤ l.getD i 0 ∧ l.getD i 0 < 1048576) : Dig l := by
  intro d hd
  obtain ⟨i, hi, rfl⟩ := List.getElem_of_mem hd
  have := h i hi
  rw [List.getD_eq_getElem?_getD, List.getElem?_eq_getElem hi] at this
  exact this

theorem val_nil : val [] = 0 := rfl
theorem val_cons (d : Int) (l : List Int) : val (d :: l) = d + 1048576 * val l := rfl
theorem val_app : ∀ (l m : List Int), val (l ++ m) = val l + P l.length * val m
  | [], m => by simp [val, P]
  | d :: l, m => by
    rw [List.cons_append, val_cons, val_app l m, val_cons, List.length_cons, P_succ, Int.mul_add, Int.mul_assoc]; omega
theorem val_zeros : ∀ n : Nat, val (List.replicate n 0) = 0
  | 0 => rfl
  | n + 1 => by rw [List.replicate_succ, val_cons, val_zeros n]; rfl
theorem val_bd : ∀ {l : List Int}, Dig l → 0 ≤ val l ∧ val l < P l.length
  | [], _ => by simp [val, P]
  | d :: l, h => by
    have h1 := val_bd h.tail
    have h2 := h.head
    rw [val_cons, List.length_cons, P_succ]; omega
theorem val_split (l : List Int) (k : Nat) : val l = val (l.take k) + P (l.take k).length * val (l.drop k) := by
  conv => lhs; rw [← List.take_append_drop k l]
  exact val_app _ _
theorem val_split' (l : List Int) (k : Nat) (h : k ≤ l.length) : val l = val (l.take k) + P k * val (l.drop k) := by
  have := val_split l k
  rwa [List.length_take, Nat.min_eq_left h] at this
theorem drop_get {l : List Int} {k : Nat} (h : k < l.length) : l.drop k = l.getD k 0 :: l.drop (k + 1) := by
  rw [List.drop_eq_getElem_cons h, List.getD_eq_getElem?_getD, List.getElem?_eq_getElem h]; rfl
theorem val_drop (l : List Int) (k : Nat) : val (l.drop k) = l.getD k 0 + 1048576 * val (l.drop (k + 1)) := by
  by_cases h : k < l.length
  · rw [drop_get h, val_cons]
  · rw [List.drop_eq_nil_of_le (by omega), List.drop_eq_nil_of_le (by omega), List.getD_eq_getElem?_getD, List.getElem?_eq_none (by omega)]; rfl
theorem val_take (l : List Int) (k : Nat) : val (l.take (k + 1)) = val (l.take k) + P k * l.getD k 0 := by
  by_cases h : k < l.length
  · rw [List.take_succ_eq_append_getElem h, val_app, List.length_take, Nat.min_eq_left (by omega), List.getD_eq_getElem?_getD, List.getElem?_eq_getElem h]
    simp [val]
  · rw [List.take_of_length_le (by omega), List.take_of_length_le (by omega), List.getD_eq_getElem?_getD, List.getElem?_eq_none (by omega)]; simp
theorem val_take_all (l : List Int) {k : Nat} (h : l.length ≤ k) : val (l.take k) = val l := by rw [List.take_of_length_le h]
theorem getD_set_eq {l : List Int} {k : Nat} (h : k < l.length) (v : Int) : (l.set k v).getD k 0 = v := by
  rw [List.getD_eq_getElem?_getD, List.getElem?_set_self (by simpa using h)]; rfl
theorem getD_set_ne {l : List Int} {k j : Nat} (h : k ≠ j) (v : Int) : (l.set k v).getD j 0 = l.getD j 0 := by
  rw [List.getD_eq_getElem?_getD, List.getElem?_set_ne h, List.getD_eq_getElem?_getD]
theorem val_set : ∀ (l : List Int) (k : Nat) (v : Int), k < l.length → val (l.set k v) = val l + P k * (v - l.getD k 0)
  | [], k, v, h => by simp at h
  | d :: l, 0, v, _ => by simp [val, P]; omega
  | d :: l, k + 1, v, h => by
    rw [List.set_cons_succ, val_cons, val_set l k v (by simpa using h), val_cons, P_succ, List.getD_cons_succ, Int.mul_add, Int.mul_assoc]; omega

/-- The digits of a number. -/
def digs (n : Nat) : List Int := if h : n = 0 then [] else ((n % 1048576 : Nat) : Int) :: digs (n / 1048576)
termination_by n
decreasing_by omega
theorem digs_zero : digs 0 = [] := by rw [digs]; simp
theorem digs_pos {n : Nat} (h : 0 < n) : digs n = ((n % 1048576 : Nat) : Int) :: digs (n / 1048576) := by rw [digs]; rw [dif_neg (by omega)]
theorem digs_val (n : Nat) : val (digs n) = n := by
  induction n using Nat.strongRecOn with
  | _ n ih =>
    by_cases h : n = 0
    · subst h; rw [digs_zero]; rfl
    · rw [digs_pos (by omega), val_cons, ih (n / 1048576) (by omega)]; omega
theorem digs_dig (n : Nat) : Dig (digs n) := by
  induction n using Nat.strongRecOn with
  | _ n ih =>
    by_cases h : n = 0
    · subst h; rw [digs_zero]; exact Dig.nil
    · rw [digs_pos (by omega)]; exact Dig.cons (by omega) (by omega) (ih _ (by omega))
theorem digs_nil {n : Nat} : digs n = [] ↔ n = 0 := by
  constructor
  · intro h
    have := digs_val n
    rw [h] at this; simp [val] at this; omega
  · rintro rfl; exact digs_zero
theorem digs_len0 {n : Nat} : (digs n).length = 0 ↔ n = 0 := by rw [List.length_eq_zero_iff, digs_nil]
theorem digs_lt (n : Nat) : (n : Int) < P (digs n).length := by
  have := (val_bd (digs_dig n)).2
  rwa [digs_val] at this
theorem digs_ge {n : Nat} : ∀ {k : Nat}, (digs n).length = k + 1 → P k ≤ n := by
  induction n using Nat.strongRecOn with
  | _ n ih =>
    intro k hk
    by_cases h : n = 0
    · subst h; rw [digs_zero] at hk; simp at hk
    · rw [digs_pos (by omega), List.length_cons] at hk
      cases k with
      | zero => simp [P]; omega
      | succ k =>
        have := ih (n / 1048576) (by omega) (k := k) (by omega)
        rw [P_succ]; omega
theorem digs_ge' {n : Nat} (h : 0 < n) : P ((digs n).length - 1) ≤ n := by
  have h1 : (digs n).length ≠ 0 := fun e => by have := digs_len0.1 e; omega
  exact digs_ge (k := (digs n).length - 1) (by omega)
theorem digs_le {n k : Nat} (h : (n : Int) < P k) : (digs n).length ≤ k := by
  by_cases h0 : n = 0
  · subst h0; rw [digs_zero]; simp
  · have h1 := digs_ge' (n := n) (by omega)
    by_cases hk : (digs n).length ≤ k
    · exact hk
    · have := P_le (i := k) (j := (digs n).length - 1) (by omega)
      omega
/-- The last digit is not 0. -/
theorem digs_top {n : Nat} (h : 0 < n) : (digs n).getD ((digs n).length - 1) 0 ≠ 0 := by
  intro e
  have h1 : (digs n).length ≠ 0 := fun e => by have := digs_len0.1 e; omega
  have h2 := val_take (digs n) ((digs n).length - 1)
  rw [e, val_take_all _ (by omega), digs_val] at h2
  have h3 := (val_bd ((digs_dig n).take ((digs n).length - 1))).2
  rw [List.length_take, Nat.min_eq_left (by omega)] at h3
  have h4 := digs_ge' h
  rw [Int.mul_zero] at h2
  omega
/-- A list of digits has those of its value, and zeros behind them. -/
theorem dig_shape : ∀ {l : List Int}, Dig l → l = digs (val l).toNat ++ List.replicate (l.length - (digs (val l).toNat).length) 0
  | [], _ => by simp [val, digs_zero]
  | d :: l, h => by
    have h1 := dig_shape h.tail
    have h2 := (val_bd h.tail).1
    have h3 := h.head
    rw [val_cons]
    by_cases h0 : d + 1048576 * val l = 0
    · have e1 : d = 0 := by omega
      have e2 : val l = 0 := by omega
      rw [h0]
      rw [e2] at h1
      simp [digs_zero] at h1 ⊢
      rw [List.replicate_succ, e1, ← h1]
    · have e : (d + 1048576 * val l).toNat / 1048576 = (val l).toNat := by omega
      have e' : (((d + 1048576 * val l).toNat % 1048576 : Nat) : Int) = d := by omega
      rw [digs_pos (by omega), e, e', List.cons_append, List.length_cons, List.length_cons, Nat.add_sub_add_right, ← h1]
theorem dig_len {l : List Int} (h : Dig l) : (digs (val l).toNat).length ≤ l.length := by
  refine digs_le ?_
  have := val_bd h
  omega
theorem dig_take {l : List Int} (h : Dig l) : l.take (digs (val l).toNat).length = digs (val l).toNat := by
  have h1 := dig_shape h
  generalize digs (val l).toNat = D at h1 ⊢
  rw [h1]; simp
theorem dig_zero {l : List Int} (h : Dig l) {i : Nat} (hi : (digs (val l).toNat).length ≤ i) : l.getD i 0 = 0 := by
  have h1 := dig_shape h
  generalize digs (val l).toNat = D at h1 hi
  rw [h1, List.getD_eq_getElem?_getD, List.getElem?_append_right hi]
  cases he : (List.replicate (l.length - D.length) (0 : Int))[i - D.length]? with
  | none => rfl
  | some d => simpa using (List.mem_replicate.1 (List.mem_of_getElem? he)).2
theorem dig_eq {l : List Int} (h : Dig l) (ht : l = [] ∨ l.getD (l.length - 1) 0 ≠ 0) : l = digs (val l).toNat := by
  have h1 := dig_len h
  have h2 : (digs (val l).toNat).length = l.length := by
    rcases ht with rfl | ht
    · simp at h1 ⊢; exact h1
    · by_cases e : (digs (val l).toNat).length = l.length
      · exact e
      · exact absurd (dig_zero h (i := l.length - 1) (by omega)) ht
  have h3 := dig_take h
  rwa [h2, List.take_length] at h3
theorem digs_inj {m n : Nat} (h : digs m = digs n) : m = n := by
  have h1 := digs_val m
  rw [h, digs_val n] at h1
  omega

theorem digs_mono {m n : Nat} (h : m ≤ n) : (digs m).length ≤ (digs n).length := by
  refine digs_le ?_
  have := digs_lt n
  omega

theorem val_allz : ∀ {l : List Int}, (∀ j, l.getD j 0 = 0) → val l = 0
  | [], _ => rfl
  | d :: l, h => by
    have h0 := h 0
    have h1 := val_allz (l := l) (fun j => by have := h (j + 1); simpa using this)
    simp at h0
    rw [val_cons, h1, h0]; rfl
theorem getD_drop (l : List Int) (k j : Nat) : (l.drop k).getD j 0 = l.getD (k + j) 0 := by
  rw [List.getD_eq_getElem?_getD, List.getD_eq_getElem?_getD, List.getElem?_drop]
theorem getD_take (l : List Int) {k j : Nat} (h : j < k) : (l.take k).getD j 0 = l.getD j 0 := by
  rw [List.getD_eq_getElem?_getD, List.getD_eq_getElem?_getD, List.getElem?_take, if_pos h]
theorem dig_take_of {l : List Int} {m : Nat} (h : ∀ j, j < m → 0 ≤ l.getD j 0 ∧ l.getD j 0 < 1048576) : Dig (l.take m) := by
  refine dig_of_get fun i hi => ?_
  rw [List.length_take] at hi
  rw [getD_take l (by omega)]
  exact h i (by omega)
/-- The digit above digits, from the value. -/
theorem top_in {l : List Int} {m : Nat} (hm : m < l.length) (hlo : ∀ j, j < m → 0 ≤ l.getD j 0 ∧ l.getD j 0 < 1048576) (hhi : ∀ j, m < j → l.getD j 0 = 0) (h0 : 0 ≤ val l) (h1 : val l < P (m + 1)) : 0 ≤ l.getD m 0 ∧ l.getD m 0 < 1048576 := by
  have e1 := val_split' l m (by omega)
  have e2 := val_drop l m
  have e3 : val (l.drop (m + 1)) = 0 := val_allz fun j => by rw [getD_drop]; exact hhi _ (by omega)
  have e4 := val_bd (dig_take_of hlo)
  rw [List.length_take, Nat.min_eq_left (by omega)] at e4
  rw [e3] at e2
  rw [e2] at e1
  rw [P_succ] at h1
  have hp := P_pos m
  generalize l.getD m 0 = t at *
  constructor
  · rcases Int.lt_or_le t 0 with ht | ht
    · have : P m * (t + 1048576 * 0) ≤ P m * (-1) := Int.mul_le_mul_of_nonneg_left (by omega) (by omega)
      omega
    · exact ht
  · rcases Int.lt_or_le t 1048576 with ht | ht
    · exact ht
    · have : P m * 1048576 ≤ P m * (t + 1048576 * 0) := Int.mul_le_mul_of_nonneg_left (by omega) (by omega)
      omega
def dg (l : List Int) (i : Int) : Int := if i < 0 then 0 else l.getD i.toNat 0
theorem dg_bd {l : List Int} (h : Dig l) (i : Int) : 0 ≤ dg l i ∧ dg l i < 1048576 := by
  unfold dg; split
  · omega
  · exact h.get _
def top3 (l : List Int) (n : Int) : Int := dg l (n - 1) * 1099511627776 + dg l (n - 2) * 1048576 + dg l (n - 3)

theorem dg_nat (l : List Int) (k : Nat) : (if (k : Int) < 0 then 0 else l.getD (k : Int).toNat 0) = l.getD k 0 := by rw [if_neg (by omega), Int.toNat_natCast]
theorem dg_n (l : List Int) (k : Nat) : dg l k = l.getD k 0 := dg_nat l k
/-- The three highest digits, and what is below them. -/
theorem top3_val {l : List Int} (h : Dig l) : ∃ low, 0 ≤ low ∧ low < P l.length ∧ val l * P 3 = P l.length * top3 l l.length + low := by
  by_cases h3 : 3 ≤ l.length
  · obtain ⟨m, hm⟩ : ∃ m, l.length = m + 3 := ⟨l.length - 3, by omega⟩
    have e0 := val_bd (h.take m)
    rw [List.length_take, Nat.min_eq_left (by omega)] at e0
    refine ⟨val (l.take m) * P 3, Int.mul_nonneg e0.1 (by have := P_pos 3; omega), ?_, ?_⟩
    · rw [hm, P_add]
      exact Int.mul_lt_mul_of_pos_right e0.2 (by have := P_pos 3; omega)
    · have e1 := val_take l m
      have e2 := val_take l (m + 1)
      have e3 := val_take l (m + 2)
      rw [val_take_all l (by omega)] at e3
      have t1 : top3 l l.length = l.getD (m + 2) 0 * 1099511627776 + l.getD (m + 1) 0 * 1048576 + l.getD m 0 := by
        unfold top3
        rw [hm, show ((m + 3 : Nat) : Int) - 1 = ((m + 2 : Nat) : Int) by omega, show ((m + 3 : Nat) : Int) - 2 = ((m + 1 : Nat) : Int) by omega, show ((m + 3 : Nat) : Int) - 3 = (m : Int) by omega, dg_n, dg_n, dg_n]
      rw [t1, hm, P_add, e3, e2, e1]
      simp only [P_succ, P_zero]
      generalize P m = p
      grind
  · match l, h3 with
    | [], _ => exact ⟨0, by omega, by simp [P], by simp [val, top3, dg]⟩
    | [a], _ => exact ⟨0, by omega, by simp [P], by simp [val, top3, dg, P]; omega⟩
    | [a, b], _ => exact ⟨0, by omega, by simp [P], by simp [val, top3, dg, P]; omega⟩
    | _ :: _ :: _ :: _, h3 => simp at h3
/-- The quotient of the three highest digits by the two highest ones of the divisor is at most 1 too much. -/
theorem est {S T D T3 T2 l1 l2 : Int} (hD : 1 ≤ D) (hS : S = D * T3 + l1) (hT : T = D * T2 + l2) (h1 : 0 ≤ l1) (h1' : l1 < D) (h2 : 0 ≤ l2) (h2' : l2 < D) (hB : 1048576 ≤ T2) (h3 : 0 ≤ T3) (hST : S < 1048576 * T) :
    0 ≤ T3 / T2 ∧ T3 / T2 ≤ 1048576 ∧ (T3 / T2 - 1) * T ≤ S ∧ S < (T3 / T2 + 1) * T := by
  have q0 : 0 ≤ T3 / T2 := Int.ediv_nonneg h3 (by omega)
  have q1 : T3 / T2 * T2 ≤ T3 := Int.ediv_mul_le _ (by omega)
  have q2 : T3 < (T3 / T2 + 1) * T2 := Int.lt_ediv_add_one_mul_self _ (by omega)
  generalize T3 / T2 = q at *
  have a1 : D * (T3 + 1) ≤ D * ((q + 1) * T2) := Int.mul_le_mul_of_nonneg_left (by omega) (by omega)
  have a2 : (q + 1) * (D * T2) ≤ (q + 1) * T := Int.mul_le_mul_of_nonneg_left (by omega) (by omega)
  have a3 : D * ((q + 1) * T2) = (q + 1) * (D * T2) := by grind
  have a4 : D * (T3 + 1) = D * T3 + D := by grind
  have b : q ≤ 1048576 := by
    rcases Int.lt_or_le 1048576 q with hq | hq
    · exfalso
      have c1 : 1048577 * T2 ≤ q * T2 := Int.mul_le_mul_of_nonneg_right (by omega) (by omega)
      have c2 : D * (1048577 * T2) ≤ D * T3 := Int.mul_le_mul_of_nonneg_left (by omega) (by omega)
      have c3 : D * (1048577 * T2) = 1048577 * (D * T2) := by grind
      have c4 : D * 1048576 ≤ D * T2 := Int.mul_le_mul_of_nonneg_left hB (by omega)
      omega
    · exact hq
  refine ⟨q0, b, ?_, by omega⟩
  rcases Int.lt_or_le q 1 with hq | hq
  · obtain rfl : q = 0 := by omega
    have : 0 ≤ T3 * D := Int.mul_nonneg h3 (by omega)
    have c1 : 0 ≤ D * T2 := Int.mul_nonneg (by omega) (by omega)
    have c2 : D * T3 = T3 * D := Int.mul_comm _ _
    omega
  · have c1 : (q - 1) * l2 ≤ (q - 1) * D := Int.mul_le_mul_of_nonneg_left (by omega) (by omega)
    have c2 : (q - 1) * D ≤ T2 * D := Int.mul_le_mul_of_nonneg_right (by omega) (by omega)
    have c3 : D * (q * T2) ≤ D * T3 := Int.mul_le_mul_of_nonneg_left q1 (by omega)
    have c4 : (q - 1) * T = (q - 1) * (D * T2) + (q - 1) * l2 := by rw [hT]; grind
    have c5 : D * (q * T2) = (q - 1) * (D * T2) + T2 * D := by grind
    omega

theorem lt_of_mul_lt {a b c : Int} (h : a * c < b * c) (hc : 1 ≤ c) : a < b := Int.lt_of_mul_lt_mul_right h (by omega)
theorem top3_bd {l : List Int} (h : Dig l) (n : Int) : 0 ≤ top3 l n ∧ top3 l n < 1152921504606846976 := by
  have b1 := dg_bd h (n - 1)
  have b2 := dg_bd h (n - 2)
  have b3 := dg_bd h (n - 3)
  unfold top3; omega
theorem est_part {seg y : List Int} {n : Nat} (hs : Dig seg) (hy : Dig y) (ls : seg.length = n + 1) (ly : y.length = n) (h0 : 0 < n) (hY : P (n - 1) ≤ val y) (hST : val seg < 1048576 * val y) :
    1048576 ≤ top3 y n / 1048576 ∧ 0 ≤ top3 seg (n + 1) / (top3 y n / 1048576) ∧ top3 seg (n + 1) / (top3 y n / 1048576) ≤ 1048576 ∧
      (top3 seg (n + 1) / (top3 y n / 1048576) - 1) * val y ≤ val seg ∧ val seg < (top3 seg (n + 1) / (top3 y n / 1048576) + 1) * val y := by
  obtain ⟨l1, a1, a2, a3⟩ := top3_val hs
  obtain ⟨l2, b1, b2, b3⟩ := top3_val hy
  rw [ls] at a2 a3
  rw [ly] at b2 b3
  rw [show ((n + 1 : Nat) : Int) = (n : Int) + 1 by omega] at a3
  have hp3 : (1 : Int) ≤ P 3 := P_pos 3
  have tb := top3_bd hy n
  have ts := top3_bd hs (n + 1)
  generalize top3 seg (n + 1) = T3 at *
  have hd : top3 y n = 1048576 * (top3 y n / 1048576) + top3 y n % 1048576 := by omega
  have hd1 : 0 ≤ top3 y n % 1048576 ∧ top3 y n % 1048576 < 1048576 := by omega
  generalize top3 y n / 1048576 = T2 at *
  generalize top3 y n % 1048576 = d at *
  have hpn := P_pos n
  have hT : val y * P 3 = P (n + 1) * T2 + (P n * d + l2) := by
    rw [b3, hd, P_succ]; grind
  have hl2 : 0 ≤ P n * d + l2 := by
    have := Int.mul_nonneg (a := P n) (b := d) (by omega) hd1.1
    omega
  have hl2' : P n * d + l2 < P (n + 1) := by
    have : P n * d ≤ P n * 1048575 := Int.mul_le_mul_of_nonneg_left (by omega) (by omega)
    rw [P_succ]; omega
  have hB : 1048576 ≤ T2 := by
    have c1 : P (n - 1) * P 3 ≤ val y * P 3 := Int.mul_le_mul_of_nonneg_right hY (by omega)
    rw [← P_add, show n - 1 + 3 = (n + 1) + 1 by omega, P_succ, hT] at c1
    rcases Int.lt_or_le T2 1048576 with h | h
    · exfalso
      have c2 : P (n + 1) * T2 ≤ P (n + 1) * 1048575 := Int.mul_le_mul_of_nonneg_left (by omega) (by have := P_pos (n + 1); omega)
      omega
    · exact h
  have hST' : val seg * P 3 < 1048576 * (val y * P 3) := by
    have := Int.mul_lt_mul_of_pos_right hST (show 0 < P 3 by omega)
    rw [Int.mul_assoc] at this
    exact this
  obtain ⟨r1, r2, r3, r4⟩ := est (P_pos (n + 1)) a3 hT a1 a2 hl2 hl2' hB (by omega) hST'
  generalize T3 / T2 = q at *
  refine ⟨hB, r1, r2, ?_, ?_⟩
  · rcases Int.lt_or_le (val seg) ((q - 1) * val y) with h | h
    · exfalso
      have := Int.mul_lt_mul_of_pos_right h (show 0 < P 3 by omega)
      rw [Int.mul_assoc] at this
      omega
    · exact h
  · refine lt_of_mul_lt (c := P 3) ?_ hp3
    rw [Int.mul_assoc]
    exact r4

theorem take_same {l m : List Int} {k : Nat} (hl : l.length = m.length) (h : ∀ j, j < k → l.getD j 0 = m.getD j 0) : l.take k = m.take k := by
  apply List.ext_getElem?
  intro j
  rw [List.getElem?_take, List.getElem?_take]
  by_cases hj : j < k
  · rw [if_pos hj, if_pos hj]
    have := h j hj
    rw [List.getD_eq_getElem?_getD, List.getD_eq_getElem?_getD] at this
    by_cases hjl : j < l.length
    · rw [List.getElem?_eq_getElem hjl, List.getElem?_eq_getElem (by omega : j < m.length)] at this ⊢
      simpa using this
    · rw [List.getElem?_eq_none (by omega), List.getElem?_eq_none (by omega)]
  · rw [if_neg hj, if_neg hj]
theorem mul_cancel {p a b : Int} (hp : 1 ≤ p) (h : p * a = p * b) : a = b := Int.eq_of_mul_eq_mul_left (by omega) h
theorem drop_val {R R1 : List Int} {k : Nat} {V : Int} (hl : R1.length = R.length) (hk : k ≤ R.length) (h : ∀ j, j < k → R1.getD j 0 = R.getD j 0) (hv : val R1 = val R + P k * V) : val (R1.drop k) = val (R.drop k) + V := by
  have e1 := val_split' R k hk
  have e2 := val_split' R1 k (by omega)
  rw [take_same hl h, hv, e1] at e2
  refine mul_cancel (P_pos k) ?_
  rw [Int.mul_add]; omega
theorem val_hi {L : List Int} {m : Nat} (hm : m < L.length) (hhi : ∀ j, m < j → L.getD j 0 = 0) : val L = val (L.take m) + P m * L.getD m 0 := by
  have e1 := val_split' L m (by omega)
  have e2 := val_drop L m
  have e3 : val (L.drop (m + 1)) = 0 := val_allz fun j => by rw [getD_drop]; exact hhi _ (by omega)
  rw [e2, e3] at e1
  simpa using e1
theorem sign_top {L : List Int} {m : Nat} (hm : m < L.length) (hlo : ∀ j, j < m → 0 ≤ L.getD j 0 ∧ L.getD j 0 < 1048576) (hhi : ∀ j, m < j → L.getD j 0 = 0) :
    (0 ≤ val L → val L < P m → L.getD m 0 = 0) ∧ (-P m ≤ val L → val L < 0 → L.getD m 0 = -1) := by
  have e1 := val_hi hm hhi
  have e4 := val_bd (dig_take_of hlo)
  rw [List.length_take, Nat.min_eq_left (by omega)] at e4
  have hp := P_pos m
  generalize L.getD m 0 = t at *
  constructor
  · intro h0 h1
    rcases Int.lt_trichotomy t 0 with ht | ht | ht
    · have : P m * t ≤ P m * (-1) := Int.mul_le_mul_of_nonneg_left (by omega) (by omega)
      omega
    · exact ht
    · have : P m * 1 ≤ P m * t := Int.mul_le_mul_of_nonneg_left (by omega) (by omega)
      omega
  · intro h0 h1
    rcases Int.lt_trichotomy t (-1) with ht | ht | ht
    · have : P m * t ≤ P m * (-2) := Int.mul_le_mul_of_nonneg_left (by omega) (by omega)
      omega
    · exact ht
    · have : P m * 0 ≤ P m * t := Int.mul_le_mul_of_nonneg_left (by omega) (by omega)
      omega
theorem hi_zero {L : List Int} {m : Nat} (hd : Dig L) (h : val L < P m) : ∀ j, m ≤ j → L.getD j 0 = 0 := by
  intro j hj
  have h0 := (val_bd hd).1
  exact dig_zero hd (Nat.le_trans (digs_le (k := m) (by omega)) hj)
/-- What stands at a place of the division: the part, its value, its digits. -/
theorem part_facts {R : List Int} {k n : Nat} {Y : Int} (hR : Dig R) (hk : k + n + 1 ≤ R.length) (hlt : val (R.drop (k + 1)) < Y) (hY : Y < P n) :
    val ((R.drop k).take (n + 1)) = val (R.drop k) ∧ val (R.drop k) < 1048576 * Y ∧ (∀ j, k + n < j → R.getD j 0 = 0) ∧ ((R.drop k).take (n + 1)).length = n + 1 := by
  have e1 := val_drop R k
  have e2 := hR.get k
  have e3 : val (R.drop k) < 1048576 * Y := by omega
  have hz : ∀ j, n + 1 ≤ j → (R.drop k).getD j 0 = 0 := hi_zero (hR.drop k) (by rw [P_succ]; omega)
  refine ⟨?_, e3, fun j hj => ?_, by rw [List.length_take, List.length_drop]; omega⟩
  · have e4 := val_split' (R.drop k) (n + 1) (by rw [List.length_drop]; omega)
    have e5 : val ((R.drop k).drop (n + 1)) = 0 := val_allz fun j => by rw [getD_drop]; exact hz _ (by omega)
    rw [e5] at e4
    omega
  · have := hz (j - k) (by omega)
    rwa [getD_drop, show k + (j - k) = j by omega] at this

theorem Dig.set {l : List Int} (h : Dig l) (k : Nat) {v : Int} (h0 : 0 ≤ v) (h1 : v < 1048576) : Dig (l.set k v) := by
  intro d hd
  rcases List.mem_or_eq_of_mem_set hd with h' | rfl
  · exact h d h'
  · exact ⟨h0, h1⟩
theorem div_rel {X Y : Int} {LQ R R' : List Int} {j : Nat} {q : Int} (hj : j < LQ.length) (hz : LQ.getD j 0 = 0) (hval : X = val LQ * Y + val R) (hv : val R' = val R + P j * -(q * Y)) : X = val (LQ.set j q) * Y + val R' := by
  rw [val_set _ _ _ hj, hz, hv, hval]; grind
theorem dig_after {R R' : List Int} {j n : Nat} (hR : Dig R) (hout : ∀ i, i < j ∨ j + n < i → R'.getD i 0 = R.getD i 0) (hd : ∀ i, j ≤ i → i < j + n → 0 ≤ R'.getD i 0 ∧ R'.getD i 0 < 1048576) (ht : R'.getD (j + n) 0 = 0) : Dig R' := by
  refine dig_of_get fun i _ => ?_
  by_cases h1 : i < j
  · rw [hout i (.inl h1)]; exact hR.get i
  · by_cases h2 : i < j + n
    · exact hd i (by omega) h2
    · by_cases h3 : i = j + n
      · rw [h3, ht]; omega
      · rw [hout i (.inr (by omega))]; exact hR.get i

/-- -1, 0 or 1. -/
def cmpI (a b : Int) : Int := if a < b then -1 else if a = b then 0 else 1
theorem cmpI_lt {a b : Int} (h : a < b) : cmpI a b = -1 := by unfold cmpI; rw [if_pos h]
theorem cmpI_gt {a b : Int} (h : b < a) : cmpI a b = 1 := by unfold cmpI; rw [if_neg (by omega), if_neg (by omega)]
theorem cmpI_eq (a : Int) : cmpI a a = 0 := by unfold cmpI; rw [if_neg (by omega), if_pos rfl]
/-- The order is that of the first digits that differ, from above. -/
theorem cmp_at {x y : List Int} {k : Nat} (hx : Dig x) (hy : Dig y) (hl : x.length = y.length) (hk : k < x.length) (he : x.drop (k + 1) = y.drop (k + 1)) (hne : x.getD k 0 ≠ y.getD k 0) : cmpI (val x) (val y) = cmpI (x.getD k 0) (y.getD k 0) := by
  have e1 := val_split' x k (by omega)
  have e2 := val_split' y k (by omega)
  have d1 := val_drop x k
  have d2 := val_drop y k
  rw [← he] at d2
  have b1 := val_bd (hx.take k)
  have b2 := val_bd (hy.take k)
  rw [List.length_take, Nat.min_eq_left (by omega)] at b1 b2
  have hp := P_pos k
  generalize x.getD k 0 = a at *
  generalize y.getD k 0 = b at *
  generalize val (x.drop (k + 1)) = D at *
  rw [d1] at e1
  rw [d2] at e2
  rcases Int.lt_or_gt_of_ne hne with h | h
  · have : P k * (a + 1048576 * D) ≤ P k * (b + 1048576 * D - 1) := Int.mul_le_mul_of_nonneg_left (by omega) (by omega)
    rw [Int.mul_sub] at this
    rw [cmpI_lt h, cmpI_lt (by omega)]
  · have : P k * (b + 1048576 * D) ≤ P k * (a + 1048576 * D - 1) := Int.mul_le_mul_of_nonneg_left (by omega) (by omega)
    rw [Int.mul_sub] at this
    rw [cmpI_gt h, cmpI_gt (by omega)]
theorem cmp_len {m n : Nat} (h : (digs m).length < (digs n).length) : (m : Int) < n := by
  rcases Nat.lt_or_ge m n with h1 | h1
  · omega
  · have := digs_mono h1; omega

theorem sgn_is (a : Int) : (a < 0 ∧ a.sign = -1) ∨ (a = 0 ∧ a.sign = 0) ∨ (0 < a ∧ a.sign = 1) := by
  rcases Int.lt_trichotomy a 0 with h | h | h
  · exact .inl ⟨h, Int.sign_eq_neg_one_of_neg h⟩
  · exact .inr (.inl ⟨h, by rw [h]; rfl⟩)
  · exact .inr (.inr ⟨h, Int.sign_eq_one_of_pos h⟩)
/-- Division rounded down, from that of the absolute values. -/
theorem fl_plain {a b q0 r0 : Int} (hb : b ≠ 0) (h : (a.natAbs : Int) = (b.natAbs : Int) * q0 + r0) (h0 : 0 ≤ r0) (h1 : r0 < b.natAbs) (hq : 0 ≤ q0) (hc : a.sign = b.sign ∨ r0 = 0) :
    ((a.fdiv b).natAbs : Int) = q0 ∧ (a.fdiv b ≠ 0 → a.sign * b.sign = (a.fdiv b).sign) ∧ ((a.fmod b).natAbs : Int) = r0 ∧ (a.fmod b ≠ 0 → b.sign = (a.fmod b).sign) := by
  have key : a.fdiv b = a.sign * b.sign * q0 ∧ a.fmod b = b.sign * r0 := by
    rcases sgn_is b with ⟨k, k'⟩ | ⟨k, k'⟩ | ⟨k, k'⟩
    · rw [Int.fdiv_fmod_unique' k, k']
      rcases sgn_is a with ⟨l, l'⟩ | ⟨l, l'⟩ | ⟨l, l'⟩
      · rw [l']; rw [show (b.natAbs : Int) = -b by omega] at h; rw [show (a.natAbs : Int) = -a by omega] at h; refine ⟨by grind, by omega, by omega⟩
      · rw [l']; rw [show (b.natAbs : Int) = -b by omega] at h; rw [show (a.natAbs : Int) = 0 by omega] at h
        have hz : 0 ≤ -b * q0 := Int.mul_nonneg (by omega) hq
        refine ⟨by rw [show r0 = 0 by omega, l]; simp, by omega, by omega⟩
      · rw [l'] at hc ⊢; rw [show (b.natAbs : Int) = -b by omega] at h; rw [show (a.natAbs : Int) = a by omega] at h
        have hr : r0 = 0 := by rcases hc with hc | hc; (rw [k'] at hc; omega); exact hc
        subst hr
        refine ⟨by grind, by omega, by omega⟩
    · exact absurd k hb
    · rw [Int.fdiv_fmod_unique k, k']
      rcases sgn_is a with ⟨l, l'⟩ | ⟨l, l'⟩ | ⟨l, l'⟩
      · rw [l'] at hc ⊢; rw [show (b.natAbs : Int) = b by omega] at h; rw [show (a.natAbs : Int) = -a by omega] at h
        have hr : r0 = 0 := by rcases hc with hc | hc; (rw [k'] at hc; omega); exact hc
        subst hr
        refine ⟨by grind, by omega, by omega⟩
      · rw [l']; rw [show (b.natAbs : Int) = b by omega] at h; rw [show (a.natAbs : Int) = 0 by omega] at h
        have hz : 0 ≤ b * q0 := Int.mul_nonneg (by omega) hq
        refine ⟨by rw [show r0 = 0 by omega, l]; simp, by omega, by omega⟩
      · rw [l']; rw [show (b.natAbs : Int) = b by omega] at h; rw [show (a.natAbs : Int) = a by omega] at h; refine ⟨by grind, by omega, by omega⟩
  rw [key.1, key.2]
  have hz : a = 0 → q0 = 0 := by
    intro e
    rw [e] at h
    rcases Int.lt_or_le 0 q0 with hq1 | hq1
    · have : (b.natAbs : Int) * 1 ≤ (b.natAbs : Int) * q0 := Int.mul_le_mul_of_nonneg_left (by omega) (by omega)
      simp at h; omega
    · omega
  rcases sgn_is b with ⟨k, k'⟩ | ⟨k, k'⟩ | ⟨k, k'⟩
  · rcases sgn_is a with ⟨l, l'⟩ | ⟨l, l'⟩ | ⟨l, l'⟩
    · rw [k', l']; refine ⟨by omega, fun hn => ?_, by omega, fun hn => ?_⟩
      · rw [Int.sign_eq_one_of_pos (by omega)]; rfl
      · rw [Int.sign_eq_neg_one_of_neg (by omega)]
    · rw [k', l', hz l]; refine ⟨by omega, fun hn => ?_, by omega, fun hn => ?_⟩
      · omega
      · rw [Int.sign_eq_neg_one_of_neg (by omega)]
    · rw [k', l']; refine ⟨by omega, fun hn => ?_, by omega, fun hn => ?_⟩
      · rw [Int.sign_eq_neg_one_of_neg (by omega)]; rfl
      · rw [Int.sign_eq_neg_one_of_neg (by omega)]
  · exact absurd k hb
  · rcases sgn_is a with ⟨l, l'⟩ | ⟨l, l'⟩ | ⟨l, l'⟩
    · rw [k', l']; refine ⟨by omega, fun hn => ?_, by omega, fun hn => ?_⟩
      · rw [Int.sign_eq_neg_one_of_neg (by omega)]; rfl
      · rw [Int.sign_eq_one_of_pos (by omega)]
    · rw [k', l', hz l]; refine ⟨by omega, fun hn => ?_, by omega, fun hn => ?_⟩
      · omega
      · rw [Int.sign_eq_one_of_pos (by omega)]
    · rw [k', l']; refine ⟨by omega, fun hn => ?_, by omega, fun hn => ?_⟩
      · rw [Int.sign_eq_one_of_pos (by omega)]; rfl
      · rw [Int.sign_eq_one_of_pos (by omega)]
theorem fl_adj {a b q0 r0 : Int} (hb : b ≠ 0) (h : (a.natAbs : Int) = (b.natAbs : Int) * q0 + r0) (h0 : 0 < r0) (h1 : r0 < b.natAbs) (hq : 0 ≤ q0) (hc : a.sign ≠ b.sign) :
    ((a.fdiv b).natAbs : Int) = q0 + 1 ∧ a.sign * b.sign = (a.fdiv b).sign ∧ ((a.fmod b).natAbs : Int) = b.natAbs - r0 ∧ b.sign = (a.fmod b).sign := by
  rcases sgn_is b with ⟨k, k'⟩ | ⟨k, k'⟩ | ⟨k, k'⟩
  · rcases sgn_is a with ⟨l, l'⟩ | ⟨l, l'⟩ | ⟨l, l'⟩
    · rw [k', l'] at hc; omega
    · exfalso
      rw [l] at h
      have : 0 ≤ (b.natAbs : Int) * q0 := Int.mul_nonneg (by omega) hq
      simp at h; omega
    · have key : a.fdiv b = -(q0 + 1) ∧ a.fmod b = -((b.natAbs : Int) - r0) := by
        rw [Int.fdiv_fmod_unique' k]
        rw [show (b.natAbs : Int) = -b by omega] at h ⊢; rw [show (a.natAbs : Int) = a by omega] at h
        refine ⟨by grind, by omega, by omega⟩
      rw [key.1, key.2, k', l']
      refine ⟨by omega, ?_, by omega, ?_⟩
      · rw [Int.sign_eq_neg_one_of_neg (by omega)]; rfl
      · rw [Int.sign_eq_neg_one_of_neg (by omega)]
  · exact absurd k hb
  · rcases sgn_is a with ⟨l, l'⟩ | ⟨l, l'⟩ | ⟨l, l'⟩
    · have key : a.fdiv b = -(q0 + 1) ∧ a.fmod b = (b.natAbs : Int) - r0 := by
        rw [Int.fdiv_fmod_unique k]
        rw [show (b.natAbs : Int) = b by omega] at h ⊢; rw [show (a.natAbs : Int) = -a by omega] at h
        refine ⟨by grind, by omega, by omega⟩
      rw [key.1, key.2, k', l']
      refine ⟨by omega, ?_, by omega, ?_⟩
      · rw [Int.sign_eq_neg_one_of_neg (by omega)]; rfl
      · rw [Int.sign_eq_one_of_pos (by omega)]
    · exfalso
      rw [l] at h
      have : 0 ≤ (b.natAbs : Int) * q0 := Int.mul_nonneg (by omega) hq
      simp at h; omega
    · rw [k', l'] at hc; omega
end Go.Proofs.Ytmhjejnkphdjpaa.Bi
