/- Arguments that are too long; the listed variables; how an argument is read. Quotients, remainders and orders of the laws of big. One digit more: the text of ten times a number, and seven. Euclid's algorithm on the highest digits (Lehmer): what holds of the numbers and of their coefficients. No program. The contracts of steps and of euclid. The greatest common divisor as laws use it. Fractions in lowest terms as rational numbers. No program. Boxes of any kind, and what slices read as: what stands since a call began. The contracts of frac as laws use them: their shapes. The contracts of sum, difference, product, quotient, clone of frac. The contracts of quotient and clone of frac. The contract of Right of frac. The contract of New of frac, at valid integers. The contracts of Add, Sub, Mul, Div of frac, at valid fractions. -/
import Derived.Test.YtmhjejnkphdjpaaPB10
import Derived.OpenShut
import Derived.Deep.Slices
import Derived.ChangeArms
import Derived.Deep.DeepHandedRow
import Derived.Laws.BitsLemmas
set_option maxRecDepth 100000
namespace Go.Proofs.Ytmhjejnkphdjpaa.Bi
open Go.RowKit Go.WideShapes Go.ChangeShapes

/-- The boxes stand; of their digits nothing is said. -/
structure Sk (w : World) (L : List (Nat × Int × Value)) (W : World) : Prop where
  below : RowKit.Below w.heap.size w W
  box : ∀ x ∈ L, W.heap[x.1]? = some (.cells #[.int .i64 x.2.1, x.2.2] 32 (0, 0))
theorem Sk.later {w W W' : World} {L : List (Nat × Int × Value)} (h : Sk w L W) (hb : RowKit.Below W.heap.size W W') : Sk w L W' :=
  ⟨h.below.trans (hb.mono h.below.size), fun x hx => (hb.block x.1 (Array.getElem?_eq_some_iff.1 (h.box x hx)).1).trans (h.box x hx)⟩
theorem Sk.put {w W : World} {L : List (Nat × Int × Value)} (h : Sk w L W) (sg : Int) (v : Value) : Sk w ((W.heap.size, sg, v) :: L) (W.alloc (.cells #[.int .i64 sg, v] 32)) := by
  have h' := h.later (below_alloc W (.cells #[.int .i64 sg, v] 32))
  refine ⟨h'.below, fun x hx => ?_⟩
  rcases List.mem_cons.1 hx with rfl | hx
  · exact alloc_at W _
  · exact h'.box x hx
theorem Sk.cells {w W : World} {L : List (Nat × Int × Value)} (h : Sk w L W) {b : Nat} {sg : Int} {v : Value} (hx : (b, sg, v) ∈ L) : W.cell? ⟨b, 0, none⟩ = some (.int .i64 sg) ∧ W.cell? ⟨b, 1, none⟩ = some v := by
  have h1 := h.box _ hx
  exact ⟨by rw [cell_of_row _ _ _ _ _ _ h1]; rfl, by rw [cell_of_row _ _ _ _ _ _ h1]; rfl⟩
theorem Sk.two (w : World) (sa sb : Int) (va vb : Value) :
    Sk w [(w.heap.size + 1, sb, vb), (w.heap.size, sa, va)] ((w.alloc (.cells #[.int .i64 sa, va] 32)).alloc (.cells #[.int .i64 sb, vb] 32)) := by
  have h := ((⟨Below.refl _ _, fun x hx => by cases hx⟩ : Sk w [] w).put sa va).put sb vb
  rwa [show (w.alloc (.cells #[.int .i64 sa, va] 32)).heap.size = w.heap.size + 1 by simp] at h
theorem Sk.three (w : World) (sa sb sc : Int) (va vb vc : Value) :
    Sk w [(w.heap.size + 1 + 1, sc, vc), (w.heap.size + 1, sb, vb), (w.heap.size, sa, va)]
      (((w.alloc (.cells #[.int .i64 sa, va] 32)).alloc (.cells #[.int .i64 sb, vb] 32)).alloc (.cells #[.int .i64 sc, vc] 32)) := by
  have h := (Sk.two w sa sb va vb).put sc vc
  rwa [show ((w.alloc (.cells #[.int .i64 sa, va] 32)).alloc (.cells #[.int .i64 sb, vb] 32)).heap.size = w.heap.size + 1 + 1 by simp] at h

/-! ### how the arguments are read -/
theorem maxLen_eq : maxLen = 9223372036854775807 := rfl
section
variable {H : Type} {enc : TypeId × Value → H} {w : World} {base : Nat} {held : Bool}
end
end Go.Proofs.Ytmhjejnkphdjpaa.Bi

namespace Go.Proofs.Ytmhjejnkphdjpaa.Bi
open Go.RowKit

theorem fdiv_abs (a b : Int) : (a.fdiv b).natAbs ≤ a.natAbs := by
  rcases Int.lt_or_le b 0 with h | h
  · have e := Int.neg_fdiv_neg a b
    rw [← e, Int.fdiv_eq_ediv_of_nonneg _ (by omega)]
    have := Int.natAbs_ediv_le_natAbs (-a) (-b)
    rwa [Int.natAbs_neg a] at this
  · rw [Int.fdiv_eq_ediv_of_nonneg _ h]
    exact Int.natAbs_ediv_le_natAbs a b
theorem fmod_pos (a : Int) {b : Int} (h : 0 < b) : 0 ≤ a.fmod b ∧ a.fmod b < b := ⟨Int.fmod_nonneg_of_pos a h, Int.fmod_lt_of_pos a h⟩
theorem fmod_neg (a : Int) {b : Int} (h : b < 0) : b < a.fmod b ∧ a.fmod b ≤ 0 := by
  have e := Int.neg_fmod_neg a b
  have := fmod_pos (-a) (b := -b) (by omega)
  omega
theorem Sz.fdiv {k : Nat} {a b : Int} (h : Sz k a) : Sz k (a.fdiv b) := by
  have := fdiv_abs a b
  unfold Sz at *
  omega
theorem Sz.fmod {k : Nat} {a b : Int} (h : Sz k b) (h0 : b ≠ 0) : Sz k (a.fmod b) := by
  unfold Sz at *
  rcases Int.lt_or_gt_of_ne h0 with h1 | h1
  · have := fmod_neg a h1; omega
  · have := fmod_pos a h1; omega
section
variable {w : World} {sa sb : Int} {va vb : Value} {a b : Int}
theorem cmp_t (ha : Num w sa va a) (hb : Num w sb vb b) {k : Int} (h : cmpI a b = k) : Calls Try.prog 86 #[.agg #[.int .i64 sa, va], .agg #[.int .i64 sb, vb]] w fun e w' => e = .returned (.int .i64 k) ∧ RowKit.Below w.heap.size w w' := by
  have := cmp_k ha hb
  rwa [h] at this
theorem same_b (ha : Num w sa va a) (hb : Num w sb vb b) {k : Bool} (h : decide (a = b) = k) : Calls Try.prog 53 #[.agg #[.int .i64 sa, va], .agg #[.int .i64 sb, vb]] w fun e w' => e = .returned (.bool k) ∧ RowKit.Below w.heap.size w w' := by
  have := same_k ha hb
  rwa [h] at this
end
end Go.Proofs.Ytmhjejnkphdjpaa.Bi

namespace Go.Proofs.Ytmhjejnkphdjpaa.Bi
open Go.RowKit

theorem text_len (z : Int) : Go.Lib.nDigits z.natAbs ≤ (Go.Lib.itoa z).length := by
  unfold Go.Lib.itoa
  split
  · rw [List.length_cons, Go.Lib.decDigits_length]; omega
  · rw [Go.Lib.decDigits_length, show z.toNat = z.natAbs by omega]; exact Nat.le_refl _
theorem ten_cast (k : Nat) : ((10 ^ k : Nat) : Int) = (10 : Int) ^ k := by push_cast; rfl
theorem six_le : ∀ k, (10 : Int) ^ (6 * k) ≤ P k
  | 0 => by simp [P]
  | k + 1 => by
    have := six_le k
    have h2 := P_pos k
    have e : (10 : Int) ^ 6 = 1000000 := by decide
    rw [P_succ, show 6 * (k + 1) = 6 * k + 6 by omega, Int.pow_add, e]
    omega
theorem Sz.read6 {k : Nat} {l : List UInt8} {z : Int} (h : readS l = some z) (hl : l.length ≤ 6 * k) : Sz k z := by
  have e := itoa_read h
  have h1 := text_len z
  rw [e] at h1
  have h2 := Go.Lib.lt_pow_nDigits z.natAbs
  have h3 : 10 ^ Go.Lib.nDigits z.natAbs ≤ 10 ^ (6 * k) := Nat.pow_le_pow_right (by omega) (by omega)
  have h4 := six_le k
  have h5 := ten_cast (6 * k)
  unfold Sz
  omega
/-- What is read from a text of at most 401 bytes has at most 67 digits. -/
theorem Sz.read {l : List UInt8} {z : Int} (h : readS l = some z) (hl : l.length ≤ 401) : Sz 67 z := Sz.read6 (k := 67) h (by omega)
end Go.Proofs.Ytmhjejnkphdjpaa.Bi

namespace Go.Proofs.Ytmhjejnkphdjpaa.Bi
open Go

/-- x and y are what the coefficients make of the tops X0 and Y0; A and B what they make of the numbers. -/
structure Lm (X0 Y0 W XL YL x y a b c d : Int) : Prop where
  sg : (a * d - b * c = 1 ∧ 0 ≤ a ∧ b ≤ 0 ∧ c ≤ 0 ∧ 0 ≤ d) ∨ (a * d - b * c = -1 ∧ a ≤ 0 ∧ 0 ≤ b ∧ 0 ≤ c ∧ d ≤ 0)
  hx : x = a * X0 + b * Y0
  hy : y = c * X0 + d * Y0
  xa : 0 < x + a
  xb : 0 < x + b
  yc : 0 ≤ y + c
  yd : 0 ≤ y + d
  cx : -x ≤ c ∧ c ≤ x
  dx : -x ≤ d ∧ d ≤ x
  ab : -1073741824 ≤ a ∧ a ≤ 1073741824 ∧ -1073741824 ≤ b ∧ b ≤ 1073741824
  xy : 0 ≤ x ∧ x ≤ 1152921504606846976 ∧ 0 ≤ y ∧ y ≤ 1152921504606846976
  pos : 0 ≤ c * (X0 * W + XL) + d * (Y0 * W + YL)
  le : c * (X0 * W + XL) + d * (Y0 * W + YL) ≤ a * (X0 * W + XL) + b * (Y0 * W + YL)
  lex : a * (X0 * W + XL) + b * (Y0 * W + YL) ≤ X0 * W + XL
  ley : c * (X0 * W + XL) + d * (Y0 * W + YL) ≤ Y0 * W + YL
  lty : b = 0 ∨ c * (X0 * W + XL) + d * (Y0 * W + YL) < Y0 * W + YL

theorem Lm.start {X0 Y0 W XL YL : Int} (h0 : 0 < X0) (h1 : X0 < 1152921504606846976) (h2 : 0 ≤ Y0) (h3 : Y0 < 1152921504606846976) (hY : 0 ≤ Y0 * W + YL) (hle : Y0 * W + YL ≤ X0 * W + XL) : Lm X0 Y0 W XL YL X0 Y0 1 0 0 1 where
  sg := by omega
  hx := by omega
  hy := by omega
  xa := by omega
  xb := by omega
  yc := by omega
  yd := by omega
  cx := by omega
  dx := by omega
  ab := by omega
  xy := by omega
  pos := by omega
  le := by omega
  lex := by omega
  ley := by omega
  lty := .inl rfl

theorem sq_bd {d x X0 : Int} (h0 : 0 ≤ d) (h1 : d ≤ x) (h2 : d * x ≤ X0) (h3 : X0 < 1152921504606846976) : d ≤ 1073741824 := by
  rcases Int.lt_or_le 1073741824 d with h | h
  · exfalso
    have e1 : d * 1073741824 ≤ d * x := Int.mul_le_mul_of_nonneg_left (by omega) h0
    omega
  · exact h
theorem Lm.cd {X0 Y0 W XL YL x y a b c d : Int} (h : Lm X0 Y0 W XL YL x y a b c d) (h1 : X0 < 1152921504606846976) (h3 : Y0 < 1152921504606846976) : -1073741824 ≤ c ∧ c ≤ 1073741824 ∧ -1073741824 ≤ d ∧ d ≤ 1073741824 := by
  have hx := h.hx
  have hy := h.hy
  have hxy := h.xy
  have hcx := h.cx
  have hdx := h.dx
  rcases h.sg with ⟨det, a0, b0, c0, d0⟩ | ⟨det, a0, b0, c0, d0⟩
  · have e1 : d * x - b * y = X0 := by
      have : d * x - b * y = (a * d - b * c) * X0 := by rw [hx, hy]; grind
      rw [this, det]; omega
    have e2 : a * y - c * x = Y0 := by
      have : a * y - c * x = (a * d - b * c) * Y0 := by rw [hx, hy]; grind
      rw [this, det]; omega
    have p1 : 0 ≤ -b * y := Int.mul_nonneg (by omega) hxy.2.2.1
    have p2 : 0 ≤ a * y := Int.mul_nonneg a0 hxy.2.2.1
    have p3 : -b * y = -(b * y) := Int.neg_mul _ _
    have p4 : -c * x = -(c * x) := Int.neg_mul _ _
    have q1 := sq_bd (d := d) (x := x) (X0 := X0) d0 hdx.2 (by omega) h1
    have q2 := sq_bd (d := -c) (x := x) (X0 := Y0) (by omega) (by omega) (by omega) h3
    omega
  · have e1 : b * y - d * x = X0 := by
      have : b * y - d * x = -(a * d - b * c) * X0 := by rw [hx, hy]; grind
      rw [this, det]; omega
    have e2 : c * x - a * y = Y0 := by
      have : c * x - a * y = -(a * d - b * c) * Y0 := by rw [hx, hy]; grind
      rw [this, det]; omega
    have p1 : 0 ≤ b * y := Int.mul_nonneg (by omega) hxy.2.2.1
    have p2 : 0 ≤ -a * y := Int.mul_nonneg (by omega) hxy.2.2.1
    have p3 : -a * y = -(a * y) := Int.neg_mul _ _
    have p4 : -d * x = -(d * x) := Int.neg_mul _ _
    have q1 := sq_bd (d := -d) (x := x) (X0 := X0) (by omega) (by omega) (by omega) h1
    have q2 := sq_bd (d := c) (x := x) (X0 := Y0) (by omega) (by omega) (by omega) h3
    omega

theorem quot_bd {n m q : Int} (hm : 0 < m) (h : n / m = q) : q * m ≤ n ∧ n < q * m + m := by
  have h1 := Int.mul_ediv_add_emod n m
  have h2 := Int.emod_nonneg n (show m ≠ 0 by omega)
  have h3 := Int.emod_lt_of_pos n hm
  rw [h, Int.mul_comm] at h1
  omega

/-- A round: q is the quotient of both. -/
theorem Lm.step {X0 Y0 W XL YL x y a b c d q : Int} (h : Lm X0 Y0 W XL YL x y a b c d) (h1 : X0 < 1152921504606846976) (h3 : Y0 < 1152921504606846976) (hW : 0 < W) (hXL : 0 ≤ XL ∧ XL ≤ W) (hYL : 0 ≤ YL ∧ YL ≤ W)
    (yc : 0 < y + c) (yd : 0 < y + d) (q1 : (x + a) / (y + c) = q) (q2 : (x + b) / (y + d) = q) :
    Lm X0 Y0 W XL YL y (x - q * y) c d (a - q * c) (b - q * d) ∧ x - q * y < y ∧ (0 ≤ q ∧ q ≤ 2305843009213693952) ∧ (-2305843009213693952 ≤ q * c ∧ q * c ≤ 2305843009213693952) ∧ (-2305843009213693952 ≤ q * d ∧ q * d ≤ 2305843009213693952) ∧ (-2305843009213693952 ≤ q * y ∧ q * y ≤ 2305843009213693952) := by
  have hcd := h.cd h1 h3
  obtain ⟨k1, k2⟩ := quot_bd yc q1
  obtain ⟨k3, k4⟩ := quot_bd yd q2
  rw [Int.mul_add] at k1 k2 k3 k4
  have hab := h.ab
  have hxy := h.xy
  have hxa := h.xa
  have hxb := h.xb
  have hq0 : 0 ≤ q := by rw [← q1]; exact Int.ediv_nonneg (by omega) (by omega)
  have hq1 : q ≤ 2305843009213693952 := by
    rcases Int.lt_or_le 2305843009213693952 q with hh | hh
    · exfalso
      have : q * 1 ≤ q * (y + c) := Int.mul_le_mul_of_nonneg_left (by omega) hq0
      rw [Int.mul_add] at this
      omega
    · exact hh
  have hX : y = c * X0 + d * Y0 := h.hy
  have hY : x - q * y = (a - q * c) * X0 + (b - q * d) * Y0 := by rw [h.hx, h.hy]; grind
  have hB : (a - q * c) * (X0 * W + XL) + (b - q * d) * (Y0 * W + YL) = (x - q * y) * W + ((a - q * c) * XL + (b - q * d) * YL) := by rw [hY]; grind
  have hA : c * (X0 * W + XL) + d * (Y0 * W + YL) = y * W + (c * XL + d * YL) := by rw [hX]; grind
  have hdet : c * (b - q * d) - d * (a - q * c) = -(a * d - b * c) := by grind
  have hle := h.le
  have hlex := h.lex
  have hley := h.ley
  have key : (∀ m : Int, 0 ≤ m → 0 ≤ m * W) := fun m hm => Int.mul_nonneg hm (by omega)
  rcases h.sg with ⟨det, a0, b0, c0, d0⟩ | ⟨det, a0, b0, c0, d0⟩
  · have s1 : 0 ≤ q * -c := Int.mul_nonneg hq0 (by omega)
    have s2 : 0 ≤ q * d := Int.mul_nonneg hq0 d0
    have s3 : q * -c = -(q * c) := Int.mul_neg _ _
    have c1 : 0 ≤ a - q * c := by omega
    have d1 : b - q * d ≤ 0 := by omega
    have t1 : 0 ≤ (a - q * c) * XL := Int.mul_nonneg c1 hXL.1
    have t2 : -(b - q * d) * YL ≤ -(b - q * d) * W := Int.mul_le_mul_of_nonneg_left hYL.2 (by omega)
    have t3 := key (x - q * y + (b - q * d)) (by omega)
    have t4 : 0 ≤ (d - (b - q * d)) * YL := Int.mul_nonneg (by omega) hYL.1
    have t5 : (a - q * c - c) * XL ≤ (a - q * c - c) * W := Int.mul_le_mul_of_nonneg_left hXL.2 (by omega)
    have t6 := key (y + c - (x - q * y + (a - q * c)) - 1) (by omega)
    generalize ec : a - q * c = c' at *
    generalize ed : b - q * d = d' at *
    generalize ey : x - q * y = y' at *
    rw [Int.add_mul] at t3
    rw [Int.sub_mul, Int.sub_mul, Int.add_mul, Int.add_mul] at t6
    rw [Int.sub_mul] at t4
    rw [Int.sub_mul, Int.sub_mul] at t5
    rw [Int.neg_mul, Int.neg_mul] at t2
    refine ⟨⟨.inr ⟨by omega, c0, d0, c1, d1⟩, hX, hY, yc, yd, by omega, by omega, by omega, by omega, by omega, by omega, by omega, by omega, by omega, by omega, .inr (by omega)⟩, by omega, ⟨hq0, hq1⟩, by omega, by omega, by omega⟩
  · have s1 : 0 ≤ q * -d := Int.mul_nonneg hq0 (by omega)
    have s2 : 0 ≤ q * c := Int.mul_nonneg hq0 c0
    have s3 : q * -d = -(q * d) := Int.mul_neg _ _
    have c1 : a - q * c ≤ 0 := by omega
    have d1 : 0 ≤ b - q * d := by omega
    have t1 : 0 ≤ (b - q * d) * YL := Int.mul_nonneg d1 hYL.1
    have t2 : -(a - q * c) * XL ≤ -(a - q * c) * W := Int.mul_le_mul_of_nonneg_left hXL.2 (by omega)
    have t3 := key (x - q * y + (a - q * c)) (by omega)
    have t4 : 0 ≤ (c - (a - q * c)) * XL := Int.mul_nonneg (by omega) hXL.1
    have t5 : (b - q * d - d) * YL ≤ (b - q * d - d) * W := Int.mul_le_mul_of_nonneg_left hYL.2 (by omega)
    have t6 := key (y + d - (x - q * y + (b - q * d)) - 1) (by omega)
    generalize ec : a - q * c = c' at *
    generalize ed : b - q * d = d' at *
    generalize ey : x - q * y = y' at *
    rw [Int.add_mul] at t3
    rw [Int.sub_mul, Int.sub_mul, Int.add_mul, Int.add_mul] at t6
    rw [Int.sub_mul] at t4
    rw [Int.sub_mul, Int.sub_mul] at t5
    rw [Int.neg_mul, Int.neg_mul] at t2
    refine ⟨⟨.inl ⟨by omega, c0, d0, c1, d1⟩, hX, hY, yc, yd, by omega, by omega, by omega, by omega, by omega, by omega, by omega, by omega, by omega, by omega, .inr (by omega)⟩, by omega, ⟨hq0, hq1⟩, by omega, by omega, by omega⟩

/-- Coefficients of determinant 1 or -1 keep the greatest common divisor. -/
theorem gcd_comb {X Y A B a b c d : Int} (det : a * d - b * c = 1 ∨ a * d - b * c = -1) (hA : A = a * X + b * Y) (hB : B = c * X + d * Y) : Int.gcd A B = Int.gcd X Y := by
  apply Nat.dvd_antisymm
  · have h1 : (Int.gcd A B : Int) ∣ A := Int.gcd_dvd_left _ _
    have h2 : (Int.gcd A B : Int) ∣ B := Int.gcd_dvd_right _ _
    have e1 : X = (a * d - b * c) * (d * A - b * B) := by
      rcases det with h | h
      · rw [h, hA, hB]; have : d * (a * X + b * Y) - b * (c * X + d * Y) = (a * d - b * c) * X := by grind
        rw [this, h]; omega
      · rw [h, hA, hB]; have : d * (a * X + b * Y) - b * (c * X + d * Y) = (a * d - b * c) * X := by grind
        rw [this, h]; omega
    have e2 : Y = (a * d - b * c) * (a * B - c * A) := by
      rcases det with h | h
      · rw [h, hA, hB]; have : a * (c * X + d * Y) - c * (a * X + b * Y) = (a * d - b * c) * Y := by grind
        rw [this, h]; omega
      · rw [h, hA, hB]; have : a * (c * X + d * Y) - c * (a * X + b * Y) = (a * d - b * c) * Y := by grind
        rw [this, h]; omega
    refine Int.dvd_gcd ?_ ?_
    · rw [e1]
      exact Int.dvd_mul_of_dvd_right (Int.dvd_sub (Int.dvd_mul_of_dvd_right h1) (Int.dvd_mul_of_dvd_right h2))
    · rw [e2]
      exact Int.dvd_mul_of_dvd_right (Int.dvd_sub (Int.dvd_mul_of_dvd_right h2) (Int.dvd_mul_of_dvd_right h1))
  · have h1 : (Int.gcd X Y : Int) ∣ X := Int.gcd_dvd_left _ _
    have h2 : (Int.gcd X Y : Int) ∣ Y := Int.gcd_dvd_right _ _
    refine Int.dvd_gcd ?_ ?_
    · rw [hA]; exact Int.dvd_add (Int.dvd_mul_of_dvd_right h1) (Int.dvd_mul_of_dvd_right h2)
    · rw [hB]; exact Int.dvd_add (Int.dvd_mul_of_dvd_right h1) (Int.dvd_mul_of_dvd_right h2)
end Go.Proofs.Ytmhjejnkphdjpaa.Bi

namespace Go.Proofs.Ytmhjejnkphdjpaa.Bi
open Go.RowKit

set_option maxHeartbeats 4000000 in
theorem steps_any (X0 Y0 W XL YL : Int) (h0 : 0 < X0) (h1 : X0 < 1152921504606846976) (h2 : 0 ≤ Y0) (h3 : Y0 < 1152921504606846976) (hW : 0 < W) (hXL : 0 ≤ XL ∧ XL ≤ W) (hYL : 0 ≤ YL ∧ YL ≤ W) (hY : 0 ≤ Y0 * W + YL) (hle : Y0 * W + YL ≤ X0 * W + XL) (w : World) :
    Calls Try.prog 89 #[.int .i64 X0, .int .i64 Y0] w fun e w' => (∃ a b c d, e = .returned (.tuple #[.int .i64 a, .int .i64 b, .int .i64 c, .int .i64 d]) ∧ ∃ x y, Lm X0 Y0 W XL YL x y a b c d) ∧ w = w' := by
  have HS := Lib.hid (Lm.start (W := W) (XL := XL) (YL := YL) h0 h1 h2 h3 hY hle)
  have HW := Lib.hid hW
  have HXL := Lib.hid hXL
  have HYL := Lib.hid hYL
  clear hY hle hW hXL hYL
  go_enter Try.func89, Try.ntmps89
  go_wp2_with fail
  go_loopw [0, 1, 4, 5, 6, 7] (fun x y a b c d wr => ∃ xi yi ai bi ci di : Int, x = .int .i64 xi ∧ y = .int .i64 yi ∧ a = .int .i64 ai ∧ b = .int .i64 bi ∧ c = .int .i64 ci ∧ d = .int .i64 di ∧ Lm X0 Y0 W XL YL xi yi ai bi ci di ∧ wr = w) (fun _ y _ _ _ _ _ => (intOf y).toNat)
  case atStart => exact ⟨X0, Y0, 1, 0, 0, 1, rfl, rfl, rfl, rfl, rfl, rfl, HS.out, rfl⟩
  case round =>
    obtain ⟨x, y, a, b, c, d, rfl, rfl, rfl, rfl, rfl, rfl, hL, rfl⟩ := hrel
    have hxy := hL.xy
    have hab := hL.ab
    have hcd := hL.cd h1 h3
    have HL := Lib.hid hL
    have HH := Lib.hid (And.intro h1 h3)
    clear hL h0 h1 h2 h3
    by_cases hc : 0 < y + c
    · by_cases hd : 0 < y + d
      · have hxa := HL.out.xa
        have hxb := HL.out.xb
        obtain ⟨q, hq⟩ : ∃ q, (x + a) / (y + c) = q := ⟨_, rfl⟩
        have HQ := Lib.hid hq
        have hq0 : 0 ≤ q := by rw [← hq]; exact Int.ediv_nonneg (by omega) (by omega)
        obtain ⟨r, hr⟩ : ∃ r, (x + b) / (y + d) = r := ⟨_, rfl⟩
        have HR := Lib.hid hr
        have hr0 : 0 ≤ r := by rw [← hr]; exact Int.ediv_nonneg (by omega) (by omega)
        have hq1 : q ≤ 2305843009213693952 := by rw [← hq]; exact Int.le_trans (Int.ediv_le_self _ (by omega)) (by omega)
        have hr1 : r ≤ 2305843009213693952 := by rw [← hr]; exact Int.le_trans (Int.ediv_le_self _ (by omega)) (by omega)
        by_cases hqr : q = r
        · subst hqr
          obtain ⟨hL2, hlt, _, b1, b2, b3⟩ := HL.out.step HH.out.1 HH.out.2 HW.out HXL.out HYL.out hc hd HQ.out HR.out
          have hb := hL2.ab
          have hb2 := hL2.xy
          have hb3 := hL2.cd HH.out.1 HH.out.2
          have HL2 := Lib.hid hL2
          have HLT := Lib.hid hlt
          clear hL2 hlt
          go_wp2_with fail
          go_roundw
          case rel => exact ⟨y, x - q * y, c, d, a - q * c, b - q * d, rfl, by go_num, rfl, rfl, by go_num, by go_num, HL2.out, trivial⟩
          case measure => have := HLT.out; simp [intOf]; omega
        · go_wp2_with fail
          exact bodyPost_ret (v := .tuple #[.int .i64 a, .int .i64 b, .int .i64 c, .int .i64 d]) (by simp [results, Try.results89, go_sem]) rfl ⟨⟨a, b, c, d, rfl, x, y, HL.out⟩, rfl⟩
      · go_wp2_with fail
        exact bodyPost_ret (v := .tuple #[.int .i64 a, .int .i64 b, .int .i64 c, .int .i64 d]) (by simp [results, Try.results89, go_sem]) rfl ⟨⟨a, b, c, d, rfl, x, y, HL.out⟩, rfl⟩
    · by_cases hd : 0 < y + d <;>
      · go_wp2_with fail
        exact bodyPost_ret (v := .tuple #[.int .i64 a, .int .i64 b, .int .i64 c, .int .i64 d]) (by simp [results, Try.results89, go_sem]) rfl ⟨⟨a, b, c, d, rfl, x, y, HL.out⟩, rfl⟩
/-- The three digits below place n, and what is below them. -/
theorem top_split {l : List Int} (hd : Dig l) {n : Nat} (hl : l.length ≤ n) (h3 : 3 ≤ n) : ∃ low, 0 ≤ low ∧ low < P (n - 3) ∧ val l = top3 l n * P (n - 3) + low := by
  obtain ⟨m, rfl⟩ : ∃ m, n = m + 3 := ⟨n - 3, by omega⟩
  have e1 := val_take l m
  have e2 := val_take l (m + 1)
  have e3 := val_take l (m + 1 + 1)
  rw [val_take_all l (by omega : l.length ≤ m + 1 + 1 + 1)] at e3
  have hb := val_bd (hd.take m)
  have hp : P (l.take m).length ≤ P m := P_le (by rw [List.length_take]; omega)
  refine ⟨val (l.take m), hb.1, by rw [show m + 3 - 3 = m by omega]; omega, ?_⟩
  have g2 : dg l ((m + 3 : Nat) - 1) = l.getD (m + 1 + 1) 0 := by rw [show ((m + 3 : Nat) : Int) - 1 = ((m + 1 + 1 : Nat) : Int) by omega]; exact dg_n _ _
  have g1 : dg l ((m + 3 : Nat) - 2) = l.getD (m + 1) 0 := by rw [show ((m + 3 : Nat) : Int) - 2 = ((m + 1 : Nat) : Int) by omega]; exact dg_n _ _
  have g0 : dg l ((m + 3 : Nat) - 3) = l.getD m 0 := by rw [show ((m + 3 : Nat) : Int) - 3 = (m : Int) by omega]; exact dg_n _ _
  unfold top3
  rw [g2, g1, g0, show m + 3 - 3 = m by omega, e3, e2, e1, P_succ (m + 1), P_succ m]
  clear e1 e2 e3 g0 g1 g2 hb hp hl h3
  generalize l.getD (m + 1 + 1) 0 = x
  generalize l.getD (m + 1) 0 = y
  generalize l.getD m 0 = z
  generalize P m = p
  generalize val (l.take m) = v
  grind

set_option maxHeartbeats 4000000 in
theorem euclid_all : EucAll := by
  intro w vx vy X Y hX hY h3 hY0 hle hlen
  obtain ⟨ax, cx, rfl, hX2⟩ := hX.open
  obtain ⟨ay, cy, rfl, hY2⟩ := hY.open
  obtain ⟨n, en⟩ : ∃ n, (digs X).length = n := ⟨_, rfl⟩
  obtain ⟨m, em⟩ : ∃ m, (digs Y).length = m := ⟨_, rfl⟩
  have hmn : m ≤ n := by rw [← en, ← em]; exact digs_mono hle
  obtain ⟨XL, x0, x1, x2⟩ := top_split (digs_dig X) (n := n) (by omega) (by omega)
  obtain ⟨YL, y0, y1, y2⟩ := top_split (digs_dig Y) (n := n) (by omega) (by omega)
  have tx := top3_bd (digs_dig X) n
  have ty := top3_bd (digs_dig Y) n
  obtain ⟨X0, eX0⟩ : ∃ X0, top3 (digs X) n = X0 := ⟨_, rfl⟩
  obtain ⟨Y0, eY0⟩ : ∃ Y0, top3 (digs Y) n = Y0 := ⟨_, rfl⟩
  rw [eX0] at x2 tx
  rw [eY0] at y2 ty
  rw [digs_val] at x2 y2
  have hXpos : 0 < X0 := by
    have h1 := digs_ge' (n := X) (by omega)
    rw [en, show n - 1 = (n - 3) + 1 + 1 by omega, P_succ, P_succ] at h1
    have h2 := P_pos (n - 3)
    rcases Int.lt_or_le 0 X0 with h | h
    · exact h
    · have : X0 = 0 := by omega
      rw [this] at x2
      omega
  have hst := steps_any X0 Y0 (P (n - 3)) XL YL hXpos tx.2 ty.1 ty.2 (by have := P_pos (n - 3); omega) ⟨x0, by omega⟩ ⟨y0, by omega⟩ (by rw [← y2]; omega) (by rw [← x2, ← y2]; omega) w
  have hdv := divide_any _ _ (digs X) (digs Y) w hX2 hY2 (digs_dig X) (digs_dig Y) hlen (by omega) (by have := digs_len0 (n := Y); omega) (by rw [digs_val]; exact digs_ge' hY0)
  have hsum : ∀ a b : Int, -1099511627776 ≤ a ∧ a ≤ 1099511627776 → -1099511627776 ≤ b ∧ b ≤ 1099511627776 → 0 ≤ a * X + b * Y → a * X + b * Y ≤ X → ∀ w', RowKit.Below w.heap.size w w' →
      Calls Try.prog 91 #[.slice ax n cx, .slice ay m cy, .int .i64 a, .int .i64 b] w' (Gives (a * X + b * Y).toNat w') := by
    intro a b ha hb h0 h1 w' hB
    have := combine_any _ _ (digs X) (digs Y) a b w' (hX2.later hB) (hY2.later hB) (digs_dig X) (digs_dig Y) ha hb (by omega) (by omega) (by rw [digs_val, digs_val]; exact h0) (by
      rw [digs_val, digs_val]
      have g1 := digs_lt X
      have g2 := P_le (i := (digs X).length) (j := max (digs X).length (digs Y).length + 1) (by omega)
      omega)
    rw [digs_val, digs_val, en, em] at this
    exact this
  rw [digs_val, digs_val, en, em] at hdv
  rw [en] at hX2
  rw [em] at hY2
  have HX := Lib.hid hX2
  have HY := Lib.hid hY2
  have HEN := Lib.hid en
  have HEM := Lib.hid em
  have H0 := Lib.hid hY0
  have HLE := Lib.hid hle
  have HXE := Lib.hid x2
  have HYE := Lib.hid y2
  have HEX := Lib.hid eX0
  have HEY := Lib.hid eY0
  have HST := Lib.hid hst
  have HDV := Lib.hid hdv
  have HSUM := Lib.hid hsum
  have HTX := Lib.hid (And.intro tx.2 ty.2)
  have hn : n ≤ 1000000 := by omega
  rw [en, em]
  clear hX hY h3 hY0 hle hlen hX2 hY2 en em x0 x1 x2 y0 y1 y2 tx ty eX0 eY0 hXpos hst hdv hsum
  go_enter Try.func74, Try.ntmps74
  go_wp2_with fail
  refine (top_any _ (digs X) (n : Int) (digs_dig X) (by omega) (by omega) _ HX.out).mono ?_
  rintro e w' ⟨rfl, rfl⟩
  rw [HEX.out]
  go_wp2_with fail
  refine (top_any _ (digs Y) (n : Int) (digs_dig Y) (by omega) (by omega) _ HY.out).mono ?_
  rintro e w' ⟨rfl, rfl⟩
  rw [HEY.out]
  go_wp2_with fail
  refine HST.out.mono ?_
  rintro e w' ⟨⟨a, b, c, d, rfl, x, y, hL⟩, rfl⟩
  have HL := Lib.hid hL
  clear hL
  by_cases hb : b = 0
  · go_wp2_with fail
    refine HDV.out.mono ?_
    rintro e w2 ⟨aq, capq, LQ, vr, rfl, _, _, _, hr, hB, _, _, _⟩
    obtain ⟨ar, cr, rfl, hr2⟩ := hr.open
    have HR := Lib.hid hr2
    have HB := Lib.hid hB
    clear hr hr2 hB
    go_wp2_with fail
    go_ret2
    have hy := HYE.out
    have h0 := H0.out
    have hm : ((X : Int) % (Y : Int)).toNat = X % Y := by omega
    refine ⟨_, _, Y, X % Y, rfl, HY.out.later HB.out, by rw [← hm]; exact HR.out, ?_, Nat.le_of_lt (Nat.mod_lt _ h0), HLE.out, Nat.mod_lt _ h0, HB.out⟩
    rw [Nat.gcd_comm, ← Nat.gcd_rec, Nat.gcd_comm]
  · have hab := HL.out.ab
    have hcd := HL.out.cd HTX.out.1 HTX.out.2
    have h1 := HL.out.pos
    have h2 := HL.out.le
    have h3 := HL.out.lex
    have h4 := HL.out.lty
    rw [← HXE.out, ← HYE.out] at h1 h2 h3 h4
    have c1 := HSUM.out a b (by omega) (by omega) (by omega) h3
    have c2 := HSUM.out c d (by omega) (by omega) h1 (by omega)
    obtain ⟨A, eA⟩ : ∃ A : Nat, (A : Int) = a * X + b * Y := ⟨(a * X + b * Y).toNat, by omega⟩
    obtain ⟨B, eB⟩ : ∃ B : Nat, (B : Int) = c * X + d * Y := ⟨(c * X + d * Y).toNat, by omega⟩
    have hg : Nat.gcd A B = Nat.gcd X Y := by
      have := gcd_comb (X := X) (Y := Y) (A := A) (B := B) (by rcases HL.out.sg with h | h; exact .inl h.1; exact .inr h.1) eA eB
      exact this
    rw [← eA, Int.toNat_natCast] at c1
    rw [← eB, Int.toNat_natCast] at c2
    have HC1 := Lib.hid c1
    have HC2 := Lib.hid c2
    have HG := Lib.hid hg
    have HF : Hid (B ≤ A ∧ A ≤ X ∧ B < Y) := ⟨by omega, by omega, by rcases h4 with h | h; exact absurd h hb; omega⟩
    clear hab hcd h1 h2 h3 h4 c1 c2 hg eA eB
    go_wp2_with fail
    refine (HC1.out w (Below.refl _ _)).mono ?_
    rintro e w2 ⟨v2, rfl, hi2, hb2, _⟩
    obtain ⟨a2, k2, rfl, hj2⟩ := hi2.open
    have HI2 := Lib.hid hj2
    have HB2 := Lib.hid hb2
    clear hi2 hj2 hb2
    go_wp2_with fail
    refine (HC2.out w2 HB2.out).mono ?_
    rintro e w3 ⟨v3, rfl, hi3, hb3, _⟩
    obtain ⟨a3, k3, rfl, hj3⟩ := hi3.open
    have HI3 := Lib.hid hj3
    have HB3 := Lib.hid hb3
    clear hi3 hj3 hb3
    go_wp2_with fail
    go_ret2
    exact ⟨_, _, A, B, rfl, HI2.out.later HB3.out, HI3.out, HG.out, HF.out.1, HF.out.2.1, HF.out.2.2, HB2.out.trans (HB3.out.mono HB2.out.size)⟩
section
variable {w : World} {sa sb : Int} {va vb : Value} {a b : Int}
theorem gcd_k (ha : Num w sa va a) (hb : Num w sb vb b) (la : Len 100000 a) (lb : Len 100000 b) : Calls Try.prog 52 #[.agg #[.int .i64 sa, va], .agg #[.int .i64 sb, vb]] w (BVE (Nat.gcd a.natAbs b.natAbs : Nat) 0 w) :=
  (gcd_gen _ _ a b w ha.isb hb.isb (Nat.le_trans la (by omega)) (Nat.le_trans lb (by omega)) (.inl euclid_all)).mono fun _ _ h => h.bve
end
end Go.Proofs.Ytmhjejnkphdjpaa.Bi

namespace Go.Proofs.Ytmhjejnkphdjpaa.Bi
open Go.RowKit

section
variable {w : World} {sa sb : Int} {va vb : Value} {a b z : Int}
theorem gcd_z (ha : Num w sa va a) (hb : Num w sb vb b) (la : Len 100000 a) (lb : Len 100000 b) (h : ((Nat.gcd a.natAbs b.natAbs : Nat) : Int) = z) : Calls Try.prog 52 #[.agg #[.int .i64 sa, va], .agg #[.int .i64 sb, vb]] w (BVE z 0 w) := by
  subst h; exact gcd_k ha hb la lb
end
theorem Sz.gcd {k : Nat} {a b z : Int} (ha : Sz k a) (hb : Sz k b) (h : ((Nat.gcd a.natAbs b.natAbs : Nat) : Int) = z) : Sz k z := by
  subst h
  unfold Sz at *
  rcases Nat.eq_zero_or_pos a.natAbs with e | e
  · rw [e, Nat.gcd_zero_left]; omega
  · have := Nat.gcd_le_left b.natAbs e
    omega
end Go.Proofs.Ytmhjejnkphdjpaa.Bi

namespace Go.Proofs.Ytmhjejnkphdjpaa.Bi
open Go

theorem fdiv_exact {a g : Int} (hg : g ≠ 0) (h : g ∣ a) : a.fdiv g = a / g := by
  obtain ⟨k, rfl⟩ := h
  rw [Int.mul_fdiv_cancel_left k hg, Int.mul_ediv_cancel_left k hg]
/-- The divisor of New: the greatest common divisor, with the sign of q. -/
def newG (p q : Int) : Int := if q < 0 then -(Nat.gcd p.natAbs q.natAbs : Int) else (Nat.gcd p.natAbs q.natAbs : Int)
theorem newG_ne {p q : Int} (hq : q ≠ 0) : newG p q ≠ 0 := by
  have : 0 < Nat.gcd p.natAbs q.natAbs := Nat.gcd_pos_of_pos_right _ (by omega)
  unfold newG; split <;> omega
theorem newG_dvd (p q : Int) : newG p q ∣ p ∧ newG p q ∣ q := by
  have h1 : (Nat.gcd p.natAbs q.natAbs : Int) ∣ p := Int.ofNat_dvd_left.2 (Nat.gcd_dvd_left _ _)
  have h2 : (Nat.gcd p.natAbs q.natAbs : Int) ∣ q := Int.ofNat_dvd_left.2 (Nat.gcd_dvd_right _ _)
  unfold newG; split
  · exact ⟨Int.neg_dvd.2 h1, Int.neg_dvd.2 h2⟩
  · exact ⟨h1, h2⟩
theorem new_num {p q : Int} (hq : q ≠ 0) : p.fdiv (newG p q) = (Rat.divInt p q).num := by
  rw [fdiv_exact (newG_ne hq) (newG_dvd p q).1, Rat.num_divInt]
  have e : Int.gcd q p = Nat.gcd p.natAbs q.natAbs := by rw [Int.gcd_comm]; rfl
  rw [e]
  unfold newG
  split
  · rw [Int.sign_eq_neg_one_of_neg (by omega), Int.ediv_neg, Int.neg_mul, Int.one_mul, Int.neg_ediv_of_dvd (Int.ofNat_dvd_left.2 (Nat.gcd_dvd_left _ _))]
  · rw [Int.sign_eq_one_of_pos (by omega), Int.one_mul]
theorem new_den {p q : Int} (hq : q ≠ 0) : q.fdiv (newG p q) = ((Rat.divInt p q).den : Int) := by
  rw [fdiv_exact (newG_ne hq) (newG_dvd p q).2, Rat.den_divInt, if_neg hq]
  have e : Int.gcd q p = Nat.gcd p.natAbs q.natAbs := by rw [Int.gcd_comm]; rfl
  rw [e, Int.natCast_ediv]
  unfold newG
  split
  · rw [show (q.natAbs : Int) = -q by omega, Int.ediv_neg, Int.neg_ediv_of_dvd (Int.ofNat_dvd_left.2 (Nat.gcd_dvd_right _ _))]
  · rw [show (q.natAbs : Int) = q by omega]
theorem rat_den_pos (r : Rat) : (0 : Int) < r.den := by have := r.den_pos; omega
theorem rat_gcd (r : Rat) : Nat.gcd r.num.natAbs (r.den : Int).natAbs = 1 := r.reduced
theorem rat_eq {r s : Rat} : (r.num = s.num ∧ (r.den : Int) = s.den) ↔ r = s := by
  constructor
  · rintro ⟨h1, h2⟩; exact Rat.ext h1 (by omega)
  · rintro rfl; exact ⟨rfl, rfl⟩
theorem rat_add (a b : Rat) : Rat.divInt (a.num * b.den + b.num * a.den) (a.den * b.den) = a + b := by
  rw [Rat.add_def', ← Rat.divInt_ofNat]; rfl
theorem rat_sub (a b : Rat) : Rat.divInt (a.num * b.den - b.num * a.den) (a.den * b.den) = a - b := by
  rw [Rat.sub_def', ← Rat.divInt_ofNat]; rfl
theorem rat_mul (a b : Rat) : Rat.divInt (a.num * b.num) (a.den * b.den) = a * b := by
  rw [Rat.mul_def', ← Rat.divInt_ofNat]; rfl
theorem rat_int (n : Int) : Rat.divInt n 1 = (n : Rat) := by
  rw [show (1 : Int) = ((1 : Nat) : Int) from rfl, Rat.divInt_ofNat]
  have := Rat.mkRat_self (n : Rat)
  rwa [Rat.num_intCast, Rat.den_intCast] at this
theorem num_le (p q : Int) : (Rat.divInt p q).num.natAbs ≤ p.natAbs := by
  by_cases hq : q = 0
  · subst hq; simp
  · rw [← new_num hq]
    have e := fdiv_exact (newG_ne (p := p) hq) (newG_dvd p q).1
    rw [e]
    exact Int.natAbs_ediv_le_natAbs p _
theorem den_le {p q : Int} (hq : q ≠ 0) : ((Rat.divInt p q).den : Int).natAbs ≤ q.natAbs := by
  rw [← new_den hq]
  have e := fdiv_exact (newG_ne (p := p) hq) (newG_dvd p q).2
  rw [e]
  exact Int.natAbs_ediv_le_natAbs q _
theorem rat_cross (a b : Rat) : a = b ↔ a.num * b.den = b.num * a.den := Rat.eq_iff_mul_eq_mul
end Go.Proofs.Ytmhjejnkphdjpaa.Bi

namespace Go.Proofs.Ytmhjejnkphdjpaa.Bi
open Go.RowKit

/-- A box: its block, its type, its cells. -/
abbrev FBox := Nat × TypeId × List Value
def Fb (x : FBox) (W : World) : Prop := W.heap[x.1]? = some (.cells x.2.2.toArray x.2.1 (0, 0))
theorem Fb.later {x : FBox} {W W' : World} (h : Fb x W) (hb : RowKit.Below W.heap.size W W') : Fb x W' := (hb.block x.1 (Array.getElem?_eq_some_iff.1 h).1).trans h
/-- Since w nothing old has turned; the boxes of L stand, the newest first; the slices of F read as their lists, and lie in none of the boxes. -/
structure Sf (w : World) (L : List FBox) (F : List (Value × List Int)) (W : World) : Prop where
  below : RowKit.Below w.heap.size w W
  le : ∀ x ∈ L, w.heap.size ≤ x.1
  box : ∀ x ∈ L, Fb x W
  ints : ∀ f ∈ F, Ints W f.1 f.2
  off : ∀ f ∈ F, ∀ x ∈ L, Off f.1 x.1
  pw : L.Pairwise fun x y => y.1 < x.1
theorem Sf.start (w : World) : Sf w [] [] w := ⟨Below.refl _ _, fun x hx => (by cases hx), fun x hx => (by cases hx), fun x hx => (by cases hx), fun x hx => (by cases hx), List.Pairwise.nil⟩
theorem Sf.later {w W W' : World} {L : List FBox} {F : List (Value × List Int)} (h : Sf w L F W) (hb : RowKit.Below W.heap.size W W') : Sf w L F W' :=
  ⟨h.below.trans (hb.mono h.below.size), h.le, fun x hx => (h.box x hx).later hb, fun f hf => (h.ints f hf).later hb, h.off, h.pw⟩
theorem Sf.heap {w W W' : World} {L : List FBox} {F : List (Value × List Int)} (h : Sf w L F W) (hb : W'.heap = W.heap) (h1 : W'.os = W.os) (h2 : W'.tape = W.tape) (h3 : W'.output = W.output) : Sf w L F W' :=
  h.later ⟨h1, h2, h3, by rw [hb]; exact Nat.le_refl _, fun i _ => by rw [hb]⟩
theorem Sf.drew {w W : World} {L : List FBox} {F : List (Value × List Int)} (h : Sf w L F W) : Sf w L F W.drew := h.later ⟨rfl, rfl, rfl, Nat.le_refl _, fun _ _ => rfl⟩
theorem Sf.lt {w W : World} {L : List FBox} {F : List (Value × List Int)} (h : Sf w L F W) : ∀ x ∈ L, x.1 < W.heap.size := fun x hx => (Array.getElem?_eq_some_iff.1 (h.box x hx)).1
/-- A fact about an argument. -/
theorem Sf.arg {w : World} {F : List (Value × List Int)} (h : Sf w [] F w) {v : Value} {l : List Int} (hi : Ints w v l) : Sf w [] ((v, l) :: F) w :=
  ⟨h.below, h.le, h.box, fun f hf => (by rcases List.mem_cons.1 hf with rfl | hf; exact hi; exact h.ints f hf), fun f _ x hx => (by cases hx), h.pw⟩
/-- A new box. -/
theorem Sf.put {w W : World} {L : List FBox} {F : List (Value × List Int)} (h : Sf w L F W) (cs : List Value) (ty : TypeId) : Sf w ((W.heap.size, ty, cs) :: L) F (W.alloc (.cells cs.toArray ty)) := by
  have h' := h.later (below_alloc W (.cells cs.toArray ty))
  refine ⟨h'.below, fun x hx => ?_, fun x hx => ?_, h'.ints, fun f hf x hx => ?_, List.pairwise_cons.2 ⟨fun y hy => h.lt y hy, h.pw⟩⟩
  · rcases List.mem_cons.1 hx with rfl | hx
    · exact h.below.size
    · exact h.le x hx
  · rcases List.mem_cons.1 hx with rfl | hx
    · exact alloc_at W _
    · exact h'.box x hx
  · rcases List.mem_cons.1 hx with rfl | hx
    · exact (h.ints f hf).off (Nat.le_refl _)
    · exact h.off f hf x hx
/-- A call has returned a slice in new memory. -/
theorem Sf.ret {w W W' : World} {L : List FBox} {F : List (Value × List Int)} (h : Sf w L F W) (hb : RowKit.Below W.heap.size W W') {v : Value} {l : List Int} (hi : Ints W' v l) (hf : Fresh W.heap.size v) : Sf w L ((v, l) :: F) W' := by
  have h' := h.later hb
  refine ⟨h'.below, h'.le, h'.box, fun f hf' => ?_, fun f hf' x hx => ?_, h'.pw⟩
  · rcases List.mem_cons.1 hf' with rfl | hf'
    · exact hi
    · exact h'.ints f hf'
  · rcases List.mem_cons.1 hf' with rfl | hf'
    · exact hf x.1 (h.lt x hx)
    · exact h.off f hf' x hx
/-- .. two slices. -/
theorem Sf.ret2 {w W W' : World} {L : List FBox} {F : List (Value × List Int)} (h : Sf w L F W) (hb : RowKit.Below W.heap.size W W') {v u : Value} {l m : List Int} (hi : Ints W' v l) (hf : Fresh W.heap.size v) (hj : Ints W' u m) (hg : Fresh W.heap.size u) : Sf w L ((v, l) :: (u, m) :: F) W' := by
  have h' := h.ret hb hj hg
  refine ⟨h'.below, h'.le, h'.box, fun f hf' => ?_, fun f hf' x hx => ?_, h'.pw⟩
  · rcases List.mem_cons.1 hf' with rfl | hf'
    · exact hi
    · exact h'.ints f hf'
  · rcases List.mem_cons.1 hf' with rfl | hf'
    · exact hf x.1 (h.lt x hx)
    · exact h'.off f hf' x hx
/-- A cell is stored. -/
theorem Sf.set {w W : World} {pre post : List FBox} {F : List (Value × List Int)} {b : Nat} {ty : TypeId} {cs : List Value} (h : Sf w (pre ++ (b, ty, cs) :: post) F W) (i : Nat) (u : Value) :
    Sf w (pre ++ (b, ty, cs.set i u) :: post) F (W.setCell ⟨b, i, none⟩ u) := by
  have hm : (b, ty, cs) ∈ pre ++ (b, ty, cs) :: post := by simp
  have hwb : w.heap.size ≤ b := h.le _ hm
  have hbx := h.box _ hm
  have hne : ∀ x ∈ pre ++ (b, ty, cs.set i u) :: post, x = (b, ty, cs.set i u) ∨ (x ∈ pre ++ (b, ty, cs) :: post ∧ x.1 ≠ b) := by
    intro x hx
    have hp := h.pw
    rw [List.pairwise_append] at hp
    obtain ⟨_, p2, p3⟩ := hp
    rw [List.pairwise_cons] at p2
    rcases List.mem_append.1 hx with hx | hx
    · refine .inr ⟨List.mem_append_left _ hx, ?_⟩
      have := p3 x hx (b, ty, cs) (by simp)
      simp at this; omega
    · rcases List.mem_cons.1 hx with rfl | hx
      · exact .inl rfl
      · refine .inr ⟨List.mem_append_right _ (List.mem_cons_of_mem _ hx), ?_⟩
        have := p2.1 x hx
        simp at this; omega
  have hg : W.grownBy (W.setCell ⟨b, i, none⟩ u) (some b) := on_set (on_refl _ _) _ _
  have hbl : (W.setCell ⟨b, i, none⟩ u).heap[b]? = some (.cells (cs.set i u).toArray ty (0, 0)) := by
    have hbx' : W.heap[b]? = some (.cells cs.toArray ty (0, 0)) := hbx
    simp [World.setCell, Array.getElem?_modify, hbx']
  refine ⟨h.below.setCell hwb _, fun x hx => ?_, fun x hx => ?_, fun f hf => (h.ints f hf).grown (h.off f hf _ hm) hg, fun f hf x hx => ?_, ?_⟩
  · rcases hne x hx with rfl | ⟨hx, _⟩
    · exact hwb
    · exact h.le x hx
  · rcases hne x hx with rfl | ⟨hx, hn⟩
    · exact hbl
    · have hq := h.box x hx
      show (W.setCell ⟨b, i, none⟩ u).heap[x.1]? = _
      rw [hg.block x.1 (h.lt x hx) (fun e => hn (by simpa using e))]
      exact hq
  · rcases hne x hx with rfl | ⟨hx, _⟩
    · show Off f.1 b; exact h.off f hf (b, ty, cs) hm
    · exact h.off f hf x hx
  · have hp := h.pw
    rw [List.pairwise_append, List.pairwise_cons] at hp ⊢
    refine ⟨hp.1, ⟨fun y hy => hp.2.1.1 y hy, hp.2.1.2⟩, fun x hx y hy => ?_⟩
    rcases List.mem_cons.1 hy with rfl | hy
    · exact hp.2.2 x hx (b, ty, cs) (by simp)
    · exact hp.2.2 x hx y (List.mem_cons_of_mem _ hy)
/-- An integer is stored into its box. -/
theorem Sf.set2 {w W : World} {pre post : List FBox} {F : List (Value × List Int)} {b : Nat} {ty : TypeId} {x0 x1 : Value} (h : Sf w (pre ++ (b, ty, [x0, x1]) :: post) F W) (y0 y1 : Value) :
    Sf w (pre ++ (b, ty, [y0, y1]) :: post) F ((W.setCell ⟨b, 0, none⟩ y0).setCell ⟨b, 1, none⟩ y1) := (h.set 0 y0).set 1 y1
/-- A fraction is stored into its box. -/
theorem Sf.set4 {w W : World} {pre post : List FBox} {F : List (Value × List Int)} {b : Nat} {ty : TypeId} {x0 x1 x2 x3 : Value} (h : Sf w (pre ++ (b, ty, [x0, x1, x2, x3]) :: post) F W) (y0 y1 y2 y3 : Value) :
    Sf w (pre ++ (b, ty, [y0, y1, y2, y3]) :: post) F ((((W.setCell ⟨b, 0, none⟩ y0).setCell ⟨b, 1, none⟩ y1).setCell ⟨b, 2, none⟩ y2).setCell ⟨b, 3, none⟩ y3) := (((h.set 0 y0).set 1 y1).set 2 y2).set 3 y3
theorem Sf.drewN {w W : World} {L : List FBox} {F : List (Value × List Int)} (h : Sf w L F W) (n : Nat) : Sf w L F (W.drewN n) := h.heap rfl rfl rfl rfl
/-- A slice is the one of a number. -/
theorem Sf.num {w W : World} {L : List FBox} {F : List (Value × List Int)} (h : Sf w L F W) {v : Value} {z s : Int} (hm : (v, digs z.natAbs) ∈ F) (e : s = z.sign) : Num W s v z := ⟨e, h.ints _ hm⟩
theorem Fb.cell {b : Nat} {ty : TypeId} {cs : List Value} {W : World} (h : Fb (b, ty, cs) W) (i : Nat) : W.cell? ⟨b, i, none⟩ = cs[i]? := by
  have h1 : W.heap[b]? = some (.cells cs.toArray ty (0, 0)) := h
  rw [cell_of_row _ _ _ _ _ _ h1]; simp
theorem Fb.free {b : Nat} {ty : TypeId} {cs : List Value} {W : World} (h : Fb (b, ty, cs) W) (i : Nat) : W.frozen? ⟨b, i, none⟩ = false := by
  have h1 : W.heap[b]? = some (.cells cs.toArray ty (0, 0)) := h
  simp [World.frozen?, h1]
theorem Fb.cells2 {b : Nat} {ty : TypeId} {x0 x1 : Value} {W : World} (h : Fb (b, ty, [x0, x1]) W) : W.cell? ⟨b, 0, none⟩ = some x0 ∧ W.cell? ⟨b, 1, none⟩ = some x1 := ⟨h.cell 0, h.cell 1⟩
theorem Fb.free2 {b : Nat} {ty : TypeId} {x0 x1 : Value} {W : World} (h : Fb (b, ty, [x0, x1]) W) : W.frozen? ⟨b, 0, none⟩ = false ∧ W.frozen? ⟨b, 1, none⟩ = false := ⟨h.free 0, h.free 1⟩
theorem Fb.cells4 {b : Nat} {ty : TypeId} {x0 x1 x2 x3 : Value} {W : World} (h : Fb (b, ty, [x0, x1, x2, x3]) W) : W.cell? ⟨b, 0, none⟩ = some x0 ∧ W.cell? ⟨b, 1, none⟩ = some x1 ∧ W.cell? ⟨b, 2, none⟩ = some x2 ∧ W.cell? ⟨b, 3, none⟩ = some x3 := ⟨h.cell 0, h.cell 1, h.cell 2, h.cell 3⟩
theorem Fb.free4 {b : Nat} {ty : TypeId} {x0 x1 x2 x3 : Value} {W : World} (h : Fb (b, ty, [x0, x1, x2, x3]) W) : W.frozen? ⟨b, 0, none⟩ = false ∧ W.frozen? ⟨b, 1, none⟩ = false ∧ W.frozen? ⟨b, 2, none⟩ = false ∧ W.frozen? ⟨b, 3, none⟩ = false := ⟨h.free 0, h.free 1, h.free 2, h.free 3⟩

/-- The sign and the slices are those of the rational number r. -/
def Fr (w : World) (s : Int) (v u : Value) (r : Rat) : Prop := Num w s v r.num ∧ Num w 1 u (r.den : Int)
theorem Fr.later {w w' : World} {s : Int} {v u : Value} {r : Rat} (h : Fr w s v u r) (hb : RowKit.Below w.heap.size w w') : Fr w' s v u r := ⟨h.1.later hb, h.2.later hb⟩
theorem den_sign (r : Rat) : (r.den : Int).sign = 1 := Int.sign_eq_one_of_pos (rat_den_pos r)
/-- A call that returns the fraction r, in new memory. -/
def FV (r : Rat) (w : World) (e : Ending) (w' : World) : Prop := ∃ s a n c b m d, e = .returned (.agg #[.int .i64 s, .slice a n c, .int .i64 1, .slice b m d]) ∧ Fr w' s (.slice a n c) (.slice b m d) r ∧ RowKit.Below w.heap.size w w' ∧ Fresh w.heap.size (.slice a n c) ∧ Fresh w.heap.size (.slice b m d)
/-- .. with a code. -/
def FVE (r : Rat) (er : Int) (w : World) (e : Ending) (w' : World) : Prop := ∃ s a n c b m d, e = .returned (.tuple #[.agg #[.int .i64 s, .slice a n c, .int .i64 1, .slice b m d], .int .i64 er]) ∧ Fr w' s (.slice a n c) (.slice b m d) r ∧ RowKit.Below w.heap.size w w' ∧ Fresh w.heap.size (.slice a n c) ∧ Fresh w.heap.size (.slice b m d)
end Go.Proofs.Ytmhjejnkphdjpaa.Bi

namespace Go.Proofs.Ytmhjejnkphdjpaa.Bi
open Go.RowKit

theorem Sf.put' {w W : World} {L : List FBox} {F : List (Value × List Int)} (h : Sf w L F W) {n : Nat} (hn : W.heap.size = n) (cs : List Value) (ty : TypeId) : Sf w ((n, ty, cs) :: L) F (W.alloc (.cells cs.toArray ty)) := by
  subst hn; exact h.put cs ty

set_option maxHeartbeats 1000000 in
theorem sum_k {w : World} {sa sb : Int} {aa ab : Option Addr} {na ca nb cb : Nat} {a b : Int} (ha : Num w sa (.slice aa na ca) a) (hb : Num w sb (.slice ab nb cb) b) (la : Len 100000 a) (lb : Len 100000 b) :
    Calls Try.prog 50 #[.agg #[.int .i64 sa, .slice aa na ca], .agg #[.int .i64 sb, .slice ab nb cb]] w (BV (a + b) w) := by
  have HA := Lib.hid ha
  have HB := Lib.hid hb
  have HLA := Lib.hid la
  have HLB := Lib.hid lb
  have S0 := Lib.hid ((((Sf.start w).put [.int .i64 sa, .slice aa na ca] 32).put' (n := w.heap.size + 1) (by simp) [.int .i64 sb, .slice ab nb cb] 32).put' (n := w.heap.size + 1 + 1) (by simp) [.int .i64 0, .slice none 0 0] 32)
  clear ha hb la lb
  go_enter Try.func50, Try.ntmps50
  go_wp2_with fail
  refine (add_k (HA.out.later S0.out.below) (HB.out.later S0.out.below) HLA.out HLB.out).mono ?_
  rintro e w1 ⟨s1, a1, n1, c1, rfl, hn, hb, hf⟩
  have S1 := Lib.hid ((S0.out.ret hb hn.2 hf).put [.int .i64 s1, .slice a1 n1 c1] 32)
  have N1 := Lib.hid hn.1
  have F1 : Hid (Fresh w.heap.size (.slice a1 n1 c1)) := hf.mono S0.out.below.size
  clear hn hb hf S0
  have hr : Fb (w.heap.size + 1 + 1, 32, [.int .i64 0, .slice none 0 0]) _ := S1.out.box _ (List.mem_cons_of_mem _ List.mem_cons_self)
  obtain ⟨r0, r1⟩ := hr.cells2
  obtain ⟨f0, f1⟩ := hr.free2
  clear hr
  go_wp2_with fail
  have S2 := Lib.hid (S1.out.set2 (pre := [_]) (.int .i64 s1) (.slice a1 n1 c1))
  have hq := (S2.out.box (w.heap.size + 1 + 1, 32, [.int .i64 s1, .slice a1 n1 c1]) (List.mem_cons_of_mem _ List.mem_cons_self)).cells2
  exact bodyPost_ret (v := .agg #[.int .i64 s1, .slice a1 n1 c1]) (by simp [results, Try.results50, go_sem, r0, r1]) rfl ⟨_, _, _, _, rfl, ⟨N1.out, S2.out.ints (.slice a1 n1 c1, _) List.mem_cons_self⟩, S2.out.below, F1.out⟩

set_option maxHeartbeats 1000000 in
theorem difference_k {w : World} {sa sb : Int} {aa ab : Option Addr} {na ca nb cb : Nat} {a b : Int} (ha : Num w sa (.slice aa na ca) a) (hb : Num w sb (.slice ab nb cb) b) (la : Len 100000 a) (lb : Len 100000 b) :
    Calls Try.prog 40 #[.agg #[.int .i64 sa, .slice aa na ca], .agg #[.int .i64 sb, .slice ab nb cb]] w (BV (a - b) w) := by
  have HA := Lib.hid ha
  have HB := Lib.hid hb
  have HLA := Lib.hid la
  have HLB := Lib.hid lb
  have S0 := Lib.hid ((((Sf.start w).put [.int .i64 sa, .slice aa na ca] 32).put' (n := w.heap.size + 1) (by simp) [.int .i64 sb, .slice ab nb cb] 32).put' (n := w.heap.size + 1 + 1) (by simp) [.int .i64 0, .slice none 0 0] 32)
  clear ha hb la lb
  go_enter Try.func40, Try.ntmps40
  go_wp2_with fail
  refine (sub_k (HA.out.later S0.out.below) (HB.out.later S0.out.below) HLA.out HLB.out).mono ?_
  rintro e w1 ⟨s1, a1, n1, c1, rfl, hn, hb, hf⟩
  have S1 := Lib.hid ((S0.out.ret hb hn.2 hf).put [.int .i64 s1, .slice a1 n1 c1] 32)
  have N1 := Lib.hid hn.1
  have F1 : Hid (Fresh w.heap.size (.slice a1 n1 c1)) := hf.mono S0.out.below.size
  clear hn hb hf S0
  have hr : Fb (w.heap.size + 1 + 1, 32, [.int .i64 0, .slice none 0 0]) _ := S1.out.box _ (List.mem_cons_of_mem _ List.mem_cons_self)
  obtain ⟨r0, r1⟩ := hr.cells2
  obtain ⟨f0, f1⟩ := hr.free2
  clear hr
  go_wp2_with fail
  have S2 := Lib.hid (S1.out.set2 (pre := [_]) (.int .i64 s1) (.slice a1 n1 c1))
  have hq := (S2.out.box (w.heap.size + 1 + 1, 32, [.int .i64 s1, .slice a1 n1 c1]) (List.mem_cons_of_mem _ List.mem_cons_self)).cells2
  exact bodyPost_ret (v := .agg #[.int .i64 s1, .slice a1 n1 c1]) (by simp [results, Try.results40, go_sem, r0, r1]) rfl ⟨_, _, _, _, rfl, ⟨N1.out, S2.out.ints (.slice a1 n1 c1, _) List.mem_cons_self⟩, S2.out.below, F1.out⟩

set_option maxHeartbeats 1000000 in
theorem product_k {w : World} {sa sb : Int} {aa ab : Option Addr} {na ca nb cb : Nat} {a b : Int} (ha : Num w sa (.slice aa na ca) a) (hb : Num w sb (.slice ab nb cb) b) (la : Len 100000 a) (lb : Len 100000 b) :
    Calls Try.prog 41 #[.agg #[.int .i64 sa, .slice aa na ca], .agg #[.int .i64 sb, .slice ab nb cb]] w (BV (a * b) w) := by
  have HA := Lib.hid ha
  have HB := Lib.hid hb
  have HLA := Lib.hid la
  have HLB := Lib.hid lb
  have S0 := Lib.hid ((((Sf.start w).put [.int .i64 sa, .slice aa na ca] 32).put' (n := w.heap.size + 1) (by simp) [.int .i64 sb, .slice ab nb cb] 32).put' (n := w.heap.size + 1 + 1) (by simp) [.int .i64 0, .slice none 0 0] 32)
  clear ha hb la lb
  go_enter Try.func41, Try.ntmps41
  go_wp2_with fail
  refine (mul_k (HA.out.later S0.out.below) (HB.out.later S0.out.below) HLA.out HLB.out).mono ?_
  rintro e w1 ⟨s1, a1, n1, c1, rfl, hn, hb, hf⟩
  have S1 := Lib.hid ((S0.out.ret hb hn.2 hf).put [.int .i64 s1, .slice a1 n1 c1] 32)
  have N1 := Lib.hid hn.1
  have F1 : Hid (Fresh w.heap.size (.slice a1 n1 c1)) := hf.mono S0.out.below.size
  clear hn hb hf S0
  have hr : Fb (w.heap.size + 1 + 1, 32, [.int .i64 0, .slice none 0 0]) _ := S1.out.box _ (List.mem_cons_of_mem _ List.mem_cons_self)
  obtain ⟨r0, r1⟩ := hr.cells2
  obtain ⟨f0, f1⟩ := hr.free2
  clear hr
  go_wp2_with fail
  have S2 := Lib.hid (S1.out.set2 (pre := [_]) (.int .i64 s1) (.slice a1 n1 c1))
  have hq := (S2.out.box (w.heap.size + 1 + 1, 32, [.int .i64 s1, .slice a1 n1 c1]) (List.mem_cons_of_mem _ List.mem_cons_self)).cells2
  exact bodyPost_ret (v := .agg #[.int .i64 s1, .slice a1 n1 c1]) (by simp [results, Try.results41, go_sem, r0, r1]) rfl ⟨_, _, _, _, rfl, ⟨N1.out, S2.out.ints (.slice a1 n1 c1, _) List.mem_cons_self⟩, S2.out.below, F1.out⟩
end Go.Proofs.Ytmhjejnkphdjpaa.Bi

namespace Go.Proofs.Ytmhjejnkphdjpaa.Bi
open Go.RowKit

set_option maxHeartbeats 1000000 in
theorem quotient_k {w : World} {sa sb : Int} {aa ab : Option Addr} {na ca nb cb : Nat} {a b : Int} (ha : Num w sa (.slice aa na ca) a) (hb : Num w sb (.slice ab nb cb) b) (la : Len 100000 a) (lb : Len 100000 b) (h0 : b ≠ 0) :
    Calls Try.prog 55 #[.agg #[.int .i64 sa, .slice aa na ca], .agg #[.int .i64 sb, .slice ab nb cb]] w (BV (a.fdiv b) w) := by
  have HA := Lib.hid ha
  have HB := Lib.hid hb
  have HLA := Lib.hid la
  have HLB := Lib.hid lb
  have H0 := Lib.hid h0
  have S0 := Lib.hid ((((Sf.start w).put [.int .i64 sa, .slice aa na ca] 32).put' (n := w.heap.size + 1) (by simp) [.int .i64 sb, .slice ab nb cb] 32).put' (n := w.heap.size + 1 + 1) (by simp) [.int .i64 0, .slice none 0 0] 32)
  clear ha hb la lb h0
  go_enter Try.func55, Try.ntmps55
  go_wp2_with fail
  refine (div_k (HA.out.later S0.out.below) (HB.out.later S0.out.below) HLA.out HLB.out H0.out).mono ?_
  rintro e w1 ⟨s1, a1, n1, c1, s2, a2, n2, c2, rfl, hn, hm, hb, hf, hg⟩
  have S1 := Lib.hid (((S0.out.ret hb hn.2 hf).put [.int .i64 s1, .slice a1 n1 c1] 32).put' (n := w1.heap.size + 1) (by simp) [.int .i64 s2, .slice a2 n2 c2] 32)
  have N1 := Lib.hid hn.1
  have F1 : Hid (Fresh w.heap.size (.slice a1 n1 c1)) := hf.mono S0.out.below.size
  clear hn hm hb hf hg S0
  have hr : Fb (w.heap.size + 1 + 1, 32, [.int .i64 0, .slice none 0 0]) _ := S1.out.box _ (List.mem_cons_of_mem _ (List.mem_cons_of_mem _ List.mem_cons_self))
  obtain ⟨r0, r1⟩ := hr.cells2
  obtain ⟨f0, f1⟩ := hr.free2
  clear hr
  go_wp2_with fail
  have S2 := Lib.hid (S1.out.set2 (pre := [_, _]) (.int .i64 s1) (.slice a1 n1 c1))
  exact bodyPost_ret (v := .agg #[.int .i64 s1, .slice a1 n1 c1]) (by simp [results, Try.results55, go_sem, r0, r1]) rfl ⟨_, _, _, _, rfl, ⟨N1.out, S2.out.ints (.slice a1 n1 c1, _) List.mem_cons_self⟩, S2.out.below, F1.out⟩

theorem clone_r (v : Value) (l : List Int) (w : World) (h : Ints w v l) (hl : l.length ≤ 100000000) : Calls Try.prog 76 #[v] w fun e w' => ∃ a n c, e = .returned (.slice a n c) ∧ Ints w' (.slice a n c) l ∧ RowKit.Below w.heap.size w w' ∧ Fresh w.heap.size (.slice a n c) := by
  refine (clone_any v l w h hl).mono ?_
  rintro e w' ⟨v', rfl, ho, hb, hk⟩
  obtain ⟨a, c, rfl, _, _⟩ := ho.shape
  exact ⟨a, _, c, rfl, ho.ints (by omega), hb, blk_fresh ho hk⟩

set_option maxHeartbeats 1000000 in
theorem fclone_k {w : World} {sa : Int} {aa : Option Addr} {na ca : Nat} {a : Int} (ha : Num w sa (.slice aa na ca) a) (la : Len 100000 a) :
    Calls Try.prog 70 #[.agg #[.int .i64 sa, .slice aa na ca]] w (BV a w) := by
  have HA := Lib.hid ha
  have HLA : Hid ((digs a.natAbs).length ≤ 100000000) := Nat.le_trans la (by omega)
  have HI := Lib.hid ha.2
  have S0 := Lib.hid (((Sf.start w).put [.int .i64 sa, .slice aa na ca] 32).put' (n := w.heap.size + 1) (by simp) [.int .i64 0, .slice none 0 0] 32)
  clear ha la
  go_enter Try.func70, Try.ntmps70
  go_wp2_with fail
  have SD := Lib.hid S0.out.drew
  have hx : Fb (w.heap.size, 32, [.int .i64 sa, .slice aa na ca]) _ := SD.out.box _ (List.mem_cons_of_mem _ List.mem_cons_self)
  have e2 := hx.cells2
  clear S0 hx
  go_region_held3 (fun W => W.cell? ⟨w.heap.size, 0, none⟩ = some (.int .i64 sa) ∧ W.cell? ⟨w.heap.size, 1, none⟩ = some (.slice aa na ca))
    (first | (with_reducible exact e2) | (with_reducible exact x3) | (with_reducible exact x4))
    (first
      | (go_at_call 76; (with_reducible refine (clone_r _ _ _ (HI.out.later SD.out.below) HLA.out).mono ?_); rintro e w3 ⟨a3, n3, c3, rfl, hi, hb, hf⟩; have S3 := Lib.hid (SD.out.ret hb hi hf); have y3 : Fb (w.heap.size, 32, [.int .i64 sa, .slice aa na ca]) _ := S3.out.box _ (List.mem_cons_of_mem _ List.mem_cons_self); have x3 := y3.cells2; have yr : Fb (w.heap.size + 1, 32, [.int .i64 0, .slice none 0 0]) _ := S3.out.box _ List.mem_cons_self; obtain ⟨r0, r1⟩ := yr.cells2; obtain ⟨f0, f1⟩ := yr.free2; have S4 := Lib.hid (S3.out.set2 (pre := []) (.int .i64 sa) (.slice a3 n3 c3)); have y4 : Fb (w.heap.size, 32, [.int .i64 sa, .slice aa na ca]) _ := S4.out.box _ (List.mem_cons_of_mem _ List.mem_cons_self); have x4 := y4.cells2; have F3 : Hid (Fresh w.heap.size (.slice a3 n3 c3)) := hf.mono SD.out.below.size; clear hi hb hf y3 yr y4))
  go_wp2_with fail
  exact bodyPost_ret (v := .agg #[.int .i64 sa, .slice a3 n3 c3]) (by simp [results, Try.results70, go_sem, r0, r1]) rfl ⟨_, _, _, _, rfl, ⟨HA.out.1, S4.out.ints (.slice a3 n3 c3, _) List.mem_cons_self⟩, S4.out.below, F3.out⟩
end Go.Proofs.Ytmhjejnkphdjpaa.Bi

namespace Go.Proofs.Ytmhjejnkphdjpaa.Bi
open Go.RowKit

/-- Whether signs and digits are those of a valid fraction. -/
def fRightB (sp : Int) (lp : List Int) (sq : Int) (lq : List Int) : Bool := decide (0 < sq) && ((rightB sp lp && rightB sq lq) && decide (Nat.gcd (val lp).toNat (val lq).toNat = 1))
theorem fright_is (r : Rat) : fRightB r.num.sign (digs r.num.natAbs) 1 (digs (r.den : Int).natAbs) = true := by
  unfold fRightB
  simp only [Bool.and_eq_true, decide_eq_true_eq]
  have h := right_is (r.den : Int)
  rw [den_sign] at h
  refine ⟨by omega, ⟨right_is _, h⟩, ?_⟩
  rw [digs_val, digs_val, Int.toNat_natCast, Int.toNat_natCast]
  exact rat_gcd r

set_option maxHeartbeats 2000000 in
theorem fright_any (sp : Int) (ap : Option Addr) (np cp : Nat) (lp : List Int) (sq : Int) (aq : Option Addr) (nq cq : Nat) (lq : List Int) (w : World) (hp : Ints w (.slice ap np cp) lp) (hq : Ints w (.slice aq nq cq) lq) (llp : lp.length ≤ 100000) (llq : lq.length ≤ 100000) (bb : Bool) (hbb : fRightB sp lp sq lq = bb) :
    Calls Try.prog 38 #[.agg #[.int .i64 sp, .slice ap np cp, .int .i64 sq, .slice aq nq cq]] w fun e w' => e = .returned (.bool bb) ∧ RowKit.Below w.heap.size w w' := by
  have S0 := Lib.hid ((((Sf.start w).arg hp).arg hq).put [.int .i64 sp, .slice ap np cp, .int .i64 sq, .slice aq nq cq] 34)
  unfold fRightB at hbb
  by_cases h0 : 0 < sq
  · rw [decide_eq_true h0, Bool.true_and] at hbb
    cases hr : rightB sp lp && rightB sq lq
    · rw [hr, Bool.false_and] at hbb
      subst hbb
      have HP : Hid (Arg w (.agg #[.int .i64 sp, .slice ap np cp]) sp lp) := ⟨_, rfl, hp⟩
      have HQ : Hid (Arg w (.agg #[.int .i64 sq, .slice aq nq cq]) sq lq) := ⟨_, rfl, hq⟩
      have HR := Lib.hid hr
      clear hp hq llp llq hr
      go_enter Try.func38, Try.ntmps38
      go_wp2_with fail
      refine ((gcd_bad _ _ sp sq lp lq _ (HP.out.later S0.out.below) (HQ.out.later S0.out.below) HR.out).mono fun _ _ h => h.bve).mono ?_
      rintro e w1 ⟨s1, a1, n1, c1, rfl, hn, hb, hf⟩
      have S1 := Lib.hid ((S0.out.ret hb hn.2 hf).put [.int .i64 s1, .slice a1 n1 c1] 32)
      clear hn hb hf S0
      go_wp2_with fail
      go_quiet (fail)
      go_wp2_with fail
      go_ret
      exact ⟨rfl, (S1.out.drewN _).below⟩
    · rw [hr, Bool.true_and] at hbb
      rw [Bool.and_eq_true] at hr
      obtain ⟨p, e1, e2⟩ := right_of hr.1
      obtain ⟨q, e3, e4⟩ := right_of hr.2
      obtain ⟨G, hG⟩ : ∃ z : Int, ((Nat.gcd p.natAbs q.natAbs : Nat) : Int) = z := ⟨_, rfl⟩
      have hd : decide (G = 1) = bb := by
        rw [← hbb, e2, e4, digs_val, digs_val, Int.toNat_natCast, Int.toNat_natCast, ← hG]
        exact decide_eq_decide.2 (by omega)
      have HP : Hid (Num w sp (.slice ap np cp) p) := ⟨e1, by rw [← e2]; exact hp⟩
      have HQ : Hid (Num w sq (.slice aq nq cq) q) := ⟨e3, by rw [← e4]; exact hq⟩
      have HLP : Hid (Len 100000 p) := by rw [e2] at llp; exact llp
      have HLQ : Hid (Len 100000 q) := by rw [e4] at llq; exact llq
      have HG := Lib.hid hG
      have HD := Lib.hid hd
      have HB : Hid (-9223372036854775808 ≤ (1 : Int) ∧ (1 : Int) ≤ 9223372036854775807) := ⟨by omega, by omega⟩
      clear hp hq llp llq hr e1 e2 e3 e4 hG hd hbb
      go_enter Try.func38, Try.ntmps38
      go_wp2_with fail
      refine (gcd_z (HP.out.later S0.out.below) (HQ.out.later S0.out.below) HLP.out HLQ.out HG.out).mono ?_
      rintro e w1 ⟨s1, a1, n1, c1, rfl, hn, hb, hf⟩
      have S1 := Lib.hid ((S0.out.ret hb hn.2 hf).put [.int .i64 s1, .slice a1 n1 c1] 32)
      have E1 := Lib.hid hn.1
      clear hn hb hf S0
      go_wp2_with fail
      have SD := Lib.hid S1.out.drew
      have K0 : ∀ W, Sf w [(w1.heap.size, 32, [.int .i64 s1, .slice a1 n1 c1]), (w.heap.size, 34, [.int .i64 sp, .slice ap np cp, .int .i64 sq, .slice aq nq cq])] [(.slice a1 n1 c1, digs (G : Int).natAbs), (.slice aq nq cq, lq), (.slice ap np cp, lp)] W → W.cell? ⟨w1.heap.size, 0, none⟩ = some (.int .i64 s1) ∧ W.cell? ⟨w1.heap.size, 1, none⟩ = some (.slice a1 n1 c1) := fun W h => (h.box _ List.mem_cons_self : Fb _ _).cells2
      have KK := Lib.hid K0
      have e0 := KK.out _ SD.out
      clear K0 S1
      go_region_held3 (fun W => W.cell? ⟨w1.heap.size, 0, none⟩ = some (.int .i64 s1) ∧ W.cell? ⟨w1.heap.size, 1, none⟩ = some (.slice a1 n1 c1))
        (first | (with_reducible exact e0) | (with_reducible exact x2) | (with_reducible exact x3))
        (first
          | (go_at_call 53; (with_reducible refine (same_b M2.out N2.out HD.out).mono ?_); rintro e w3 ⟨rfl, hb⟩; have S3 := Lib.hid (S2.out.later hb); have x3 := KK.out _ S3.out; clear hb)
          | (go_at_call 47; (with_reducible refine (of_k 1 HB.out _).mono ?_); rintro e w2 ⟨s2, a2, n2, c2, rfl, hn, hb, _⟩; have S2 := Lib.hid (SD.out.later hb); have x2 := KK.out _ S2.out; have M2 := Lib.hid (S2.out.num (v := .slice a1 n1 c1) (z := G) List.mem_cons_self E1.out); have N2 := Lib.hid hn; clear hn hb))
      go_wp2_with fail
      go_ret
      exact ⟨rfl, S3.out.below⟩
  · rw [decide_eq_false h0, Bool.false_and] at hbb
    subst hbb
    clear hp hq llp llq
    go_enter Try.func38, Try.ntmps38
    go_wp2_with fail
    go_ret
    exact ⟨rfl, S0.out.below⟩
end Go.Proofs.Ytmhjejnkphdjpaa.Bi

namespace Go.Proofs.Ytmhjejnkphdjpaa.Bi
open Go.RowKit

theorem newG_neg {p q : Int} (h : q < 0) : newG p q = -((Nat.gcd p.natAbs q.natAbs : Nat) : Int) := by unfold newG; rw [if_pos h]
theorem newG_pos {p q : Int} (h : 0 ≤ q) : newG p q = ((Nat.gcd p.natAbs q.natAbs : Nat) : Int) := by unfold newG; rw [if_neg (by omega)]
theorem Len.gcd {k : Nat} {a b z : Int} (ha : Len k a) (hb : Len k b) (h : ((Nat.gcd a.natAbs b.natAbs : Nat) : Int) = z) : Len k z := by
  subst h
  unfold Len at *
  refine Nat.le_trans ?_ (Nat.max_le.2 ⟨ha, hb⟩)
  rcases Nat.eq_zero_or_pos a.natAbs with e | e
  · rw [e, Nat.gcd_zero_left, Int.natAbs_natCast]; omega
  · have h1 := digs_mono (Nat.gcd_le_left b.natAbs e)
    rw [Int.natAbs_natCast]; omega
theorem Len.neg {k : Nat} {a : Int} (h : Len k a) : Len k (-a) := by unfold Len at *; rwa [Int.natAbs_neg]

set_option maxHeartbeats 4000000 in
theorem new_neg {w : World} {sp sq : Int} {ap aq : Option Addr} {np cp nq cq : Nat} {p q : Int} (hp : Num w sp (.slice ap np cp) p) (hq : Num w sq (.slice aq nq cq) q) (lp : Len 100000 p) (lq : Len 100000 q) (h0 : q < 0) :
    Calls Try.prog 39 #[.agg #[.int .i64 sp, .slice ap np cp], .agg #[.int .i64 sq, .slice aq nq cq]] w (FVE (Rat.divInt p q) 0 w) := by
  obtain rfl : sq = (-1) := hq.1.trans (Int.sign_eq_neg_one_of_neg h0)
  have hq0 : q ≠ 0 := by omega
  obtain ⟨G, hG⟩ : ∃ z : Int, ((Nat.gcd p.natAbs q.natAbs : Nat) : Int) = z := ⟨_, rfl⟩
  have hGn : -G = newG p q := by rw [← hG, newG_neg h0]
  have HLG : Hid (Len 100000 (newG p q)) := by rw [← hGn]; exact (Len.gcd lp lq hG).neg
  have HLG1 : Hid (Len 100000 G) := Len.gcd lp lq hG
  have HE := Lib.hid hGn
  have HG := Lib.hid hG
  have HGN := Lib.hid (newG_ne (p := p) hq0)
  have HNU := Lib.hid (new_num (p := p) hq0)
  have HDE := Lib.hid (new_den (p := p) hq0)
  have HP := Lib.hid hp
  have HQ := Lib.hid hq
  have HLP := Lib.hid lp
  have HLQ := Lib.hid lq
  have S0 := Lib.hid ((((Sf.start w).put [.int .i64 sp, .slice ap np cp] 32).put' (n := w.heap.size + 1) (by simp) [.int .i64 (-1), .slice aq nq cq] 32).put' (n := w.heap.size + 1 + 1) (by simp) [.int .i64 0, .slice none 0 0, .int .i64 0, .slice none 0 0] 34)
  clear hp hq lp lq h0 hq0 hG hGn
  go_enter Try.func39, Try.ntmps39
  go_wp2_with fail
  refine (gcd_z (HP.out.later S0.out.below) (HQ.out.later S0.out.below) HLP.out HLQ.out HG.out).mono ?_
  rintro e w1 ⟨s1, a1, n1, c1, rfl, hn, hb, hf⟩
  have S1 := Lib.hid ((S0.out.ret hb hn.2 hf).put [.int .i64 s1, .slice a1 n1 c1] 32)
  have E1 := Lib.hid hn.1
  clear hn hb hf S0
  have hy : Fb (w.heap.size + 1, 32, [.int .i64 (-1), .slice aq nq cq]) _ := S1.out.box _ (List.mem_cons_of_mem _ (List.mem_cons_of_mem _ List.mem_cons_self))
  obtain ⟨q0, q1⟩ := hy.cells2
  clear hy
  go_wp2_with fail
  refine (neg_k (S1.out.num (v := .slice a1 n1 c1) (z := G) List.mem_cons_self E1.out) HLG1.out).mono ?_
  rintro e w2 ⟨s2, a2, n2, c2, rfl, hn, hb, hf⟩
  rw [HE.out] at hn
  have S2 := Lib.hid ((S1.out.ret hb hn.2 hf).set2 (pre := []) (.int .i64 s2) (.slice a2 n2 c2))
  have hz := Lib.hid (S1.out.later hb)
  have E2 := Lib.hid hn.1
  clear hn hb hf
  have hy : Fb (w1.heap.size, 32, [.int .i64 s1, .slice a1 n1 c1]) _ := hz.out.box _ List.mem_cons_self
  obtain ⟨y0, y1⟩ := hy.cells2
  obtain ⟨z0, z1⟩ := hy.free2
  clear hy hz S1 q0 q1
  go_wp2_with fail
  clear y0 y1 z0 z1
  have SD := Lib.hid S2.out.drew
  have K0 : ∀ W F, Sf w [(w1.heap.size, 32, [.int .i64 s2, .slice a2 n2 c2]), (w.heap.size + 1 + 1, 34, [.int .i64 0, .slice none 0 0, .int .i64 0, .slice none 0 0]), (w.heap.size + 1, 32, [.int .i64 (-1), .slice aq nq cq]), (w.heap.size, 32, [.int .i64 sp, .slice ap np cp])] F W → W.cell? ⟨w.heap.size, 0, none⟩ = some (.int .i64 sp) ∧ W.cell? ⟨w.heap.size, 1, none⟩ = some (.slice ap np cp) ∧ W.cell? ⟨w.heap.size + 1, 0, none⟩ = some (.int .i64 (-1)) ∧ W.cell? ⟨w.heap.size + 1, 1, none⟩ = some (.slice aq nq cq) ∧ W.cell? ⟨w1.heap.size, 0, none⟩ = some (.int .i64 s2) ∧ W.cell? ⟨w1.heap.size, 1, none⟩ = some (.slice a2 n2 c2) := fun W F h => ⟨(h.box _ (List.mem_cons_of_mem _ (List.mem_cons_of_mem _ (List.mem_cons_of_mem _ List.mem_cons_self))) : Fb _ _).cells2.1, (h.box _ (List.mem_cons_of_mem _ (List.mem_cons_of_mem _ (List.mem_cons_of_mem _ List.mem_cons_self))) : Fb _ _).cells2.2, (h.box _ (List.mem_cons_of_mem _ (List.mem_cons_of_mem _ List.mem_cons_self)) : Fb _ _).cells2.1, (h.box _ (List.mem_cons_of_mem _ (List.mem_cons_of_mem _ List.mem_cons_self)) : Fb _ _).cells2.2, (h.box _ List.mem_cons_self : Fb _ _).cells2⟩
  have KK := Lib.hid K0
  clear K0
  have K0 : ∀ W F (r0 r1 r2 r3 : Value), Sf w [(w1.heap.size, 32, [.int .i64 s2, .slice a2 n2 c2]), (w.heap.size + 1 + 1, 34, [r0, r1, r2, r3]), (w.heap.size + 1, 32, [.int .i64 (-1), .slice aq nq cq]), (w.heap.size, 32, [.int .i64 sp, .slice ap np cp])] F W → W.cell? ⟨w.heap.size, 0, none⟩ = some (.int .i64 sp) ∧ W.cell? ⟨w.heap.size, 1, none⟩ = some (.slice ap np cp) ∧ W.cell? ⟨w.heap.size + 1, 0, none⟩ = some (.int .i64 (-1)) ∧ W.cell? ⟨w.heap.size + 1, 1, none⟩ = some (.slice aq nq cq) ∧ W.cell? ⟨w1.heap.size, 0, none⟩ = some (.int .i64 s2) ∧ W.cell? ⟨w1.heap.size, 1, none⟩ = some (.slice a2 n2 c2) := fun W F r0 r1 r2 r3 h => ⟨(h.box _ (List.mem_cons_of_mem _ (List.mem_cons_of_mem _ (List.mem_cons_of_mem _ List.mem_cons_self))) : Fb _ _).cells2.1, (h.box _ (List.mem_cons_of_mem _ (List.mem_cons_of_mem _ (List.mem_cons_of_mem _ List.mem_cons_self))) : Fb _ _).cells2.2, (h.box _ (List.mem_cons_of_mem _ (List.mem_cons_of_mem _ List.mem_cons_self)) : Fb _ _).cells2.1, (h.box _ (List.mem_cons_of_mem _ (List.mem_cons_of_mem _ List.mem_cons_self)) : Fb _ _).cells2.2, (h.box _ List.mem_cons_self : Fb _ _).cells2⟩
  have KK5 := Lib.hid K0
  clear K0 S2
  have e0 := KK.out _ _ SD.out
  have MP := Lib.hid (HP.out.later SD.out.below)
  have MG := Lib.hid (SD.out.num (v := .slice a2 n2 c2) (z := newG p q) List.mem_cons_self E2.out)
  go_region_held3 (fun W => W.cell? ⟨w.heap.size, 0, none⟩ = some (.int .i64 sp) ∧ W.cell? ⟨w.heap.size, 1, none⟩ = some (.slice ap np cp) ∧ W.cell? ⟨w.heap.size + 1, 0, none⟩ = some (.int .i64 (-1)) ∧ W.cell? ⟨w.heap.size + 1, 1, none⟩ = some (.slice aq nq cq) ∧ W.cell? ⟨w1.heap.size, 0, none⟩ = some (.int .i64 s2) ∧ W.cell? ⟨w1.heap.size, 1, none⟩ = some (.slice a2 n2 c2))
    (first | (with_reducible exact e0) | (with_reducible exact x3) | (with_reducible exact x4) | (with_reducible exact x5))
    (first
      | (go_at_call 55; (with_reducible refine (quotient_k MQ.out MG2.out HLQ.out HLG.out HGN.out).mono ?_); rintro e w4 ⟨s4, a4, n4, c4, rfl, hn, hb, hf⟩; have S4 := Lib.hid (S3.out.ret hb hn.2 hf); have x4 := KK.out _ _ S4.out; have E4 := Lib.hid hn.1; have F4 := Lib.hid (hf.mono S3.out.below.size); have yr : Fb (w.heap.size + 1 + 1, 34, [.int .i64 0, .slice none 0 0, .int .i64 0, .slice none 0 0]) _ := S4.out.box _ (List.mem_cons_of_mem _ List.mem_cons_self); obtain ⟨r0, r1, r2, r3⟩ := yr.cells4; obtain ⟨f0, f1, f2, f3⟩ := yr.free4; have S5 := Lib.hid (S4.out.set4 (pre := [_]) (.int .i64 s3) (.slice a3 n3 c3) (.int .i64 s4) (.slice a4 n4 c4)); have x5 := KK5.out _ _ _ _ _ _ S5.out; clear hn hb hf yr)
      | (go_at_call 55; (with_reducible refine (quotient_k MP.out MG.out HLP.out HLG.out HGN.out).mono ?_); rintro e w3 ⟨s3, a3, n3, c3, rfl, hn, hb, hf⟩; have S3 := Lib.hid (SD.out.ret hb hn.2 hf); have x3 := KK.out _ _ S3.out; have E3 := Lib.hid hn.1; have F3 := Lib.hid (hf.mono SD.out.below.size); have MQ := Lib.hid (HQ.out.later S3.out.below); have MG2 := Lib.hid (MG.out.later hb); clear hn hb hf))
  go_wp2_with fail
  rw [HNU.out] at E3 S5
  rw [HDE.out] at E4 S5
  obtain rfl : s4 = 1 := E4.out.trans (den_sign _)
  exact bodyPost_ret (v := .tuple #[.agg #[.int .i64 s3, .slice a3 n3 c3, .int .i64 1, .slice a4 n4 c4], .int .i64 0]) (by simp [results, Try.results39, go_sem, r0, r1, r2, r3]) rfl
    ⟨_, _, _, _, _, _, _, rfl, ⟨S5.out.num (v := .slice a3 n3 c3) (z := (Rat.divInt p q).num) (List.mem_cons_of_mem _ List.mem_cons_self) E3.out, S5.out.num (v := .slice a4 n4 c4) (z := ((Rat.divInt p q).den : Int)) List.mem_cons_self E4.out⟩, S5.out.below, F3.out, F4.out⟩

set_option maxHeartbeats 4000000 in
theorem new_pos {w : World} {sp sq : Int} {ap aq : Option Addr} {np cp nq cq : Nat} {p q : Int} (hp : Num w sp (.slice ap np cp) p) (hq : Num w sq (.slice aq nq cq) q) (lp : Len 100000 p) (lq : Len 100000 q) (h0 : 0 < q) :
    Calls Try.prog 39 #[.agg #[.int .i64 sp, .slice ap np cp], .agg #[.int .i64 sq, .slice aq nq cq]] w (FVE (Rat.divInt p q) 0 w) := by
  obtain rfl : sq = 1 := hq.1.trans (Int.sign_eq_one_of_pos h0)
  have hq0 : q ≠ 0 := by omega
  obtain ⟨G, hG⟩ : ∃ z : Int, ((Nat.gcd p.natAbs q.natAbs : Nat) : Int) = z := ⟨_, rfl⟩
  have hGn : G = newG p q := by rw [← hG, newG_pos (by omega)]
  have HLG : Hid (Len 100000 (newG p q)) := by rw [← hGn]; exact Len.gcd lp lq hG
  have HLG1 : Hid (Len 100000 G) := Len.gcd lp lq hG
  have HE := Lib.hid hGn
  have HG := Lib.hid hG
  have HGN := Lib.hid (newG_ne (p := p) hq0)
  have HNU := Lib.hid (new_num (p := p) hq0)
  have HDE := Lib.hid (new_den (p := p) hq0)
  have HP := Lib.hid hp
  have HQ := Lib.hid hq
  have HLP := Lib.hid lp
  have HLQ := Lib.hid lq
  have S0 := Lib.hid ((((Sf.start w).put [.int .i64 sp, .slice ap np cp] 32).put' (n := w.heap.size + 1) (by simp) [.int .i64 1, .slice aq nq cq] 32).put' (n := w.heap.size + 1 + 1) (by simp) [.int .i64 0, .slice none 0 0, .int .i64 0, .slice none 0 0] 34)
  clear hp hq lp lq h0 hq0 hG hGn
  go_enter Try.func39, Try.ntmps39
  go_wp2_with fail
  refine (gcd_z (HP.out.later S0.out.below) (HQ.out.later S0.out.below) HLP.out HLQ.out HG.out).mono ?_
  rintro e w1 ⟨s1, a1, n1, c1, rfl, hn, hb, hf⟩
  rw [HE.out] at hn
  have S2 := Lib.hid ((S0.out.ret hb hn.2 hf).put [.int .i64 s1, .slice a1 n1 c1] 32)
  have E2 := Lib.hid hn.1
  clear hn hb hf S0
  have hy : Fb (w.heap.size + 1, 32, [.int .i64 1, .slice aq nq cq]) _ := S2.out.box _ (List.mem_cons_of_mem _ (List.mem_cons_of_mem _ List.mem_cons_self))
  obtain ⟨q0, q1⟩ := hy.cells2
  clear hy
  go_wp2_with fail
  clear q0 q1
  have SD := Lib.hid S2.out.drew
  have K0 : ∀ W F, Sf w [(w1.heap.size, 32, [.int .i64 s1, .slice a1 n1 c1]), (w.heap.size + 1 + 1, 34, [.int .i64 0, .slice none 0 0, .int .i64 0, .slice none 0 0]), (w.heap.size + 1, 32, [.int .i64 1, .slice aq nq cq]), (w.heap.size, 32, [.int .i64 sp, .slice ap np cp])] F W → W.cell? ⟨w.heap.size, 0, none⟩ = some (.int .i64 sp) ∧ W.cell? ⟨w.heap.size, 1, none⟩ = some (.slice ap np cp) ∧ W.cell? ⟨w.heap.size + 1, 0, none⟩ = some (.int .i64 1) ∧ W.cell? ⟨w.heap.size + 1, 1, none⟩ = some (.slice aq nq cq) ∧ W.cell? ⟨w1.heap.size, 0, none⟩ = some (.int .i64 s1) ∧ W.cell? ⟨w1.heap.size, 1, none⟩ = some (.slice a1 n1 c1) := fun W F h => ⟨(h.box _ (List.mem_cons_of_mem _ (List.mem_cons_of_mem _ (List.mem_cons_of_mem _ List.mem_cons_self))) : Fb _ _).cells2.1, (h.box _ (List.mem_cons_of_mem _ (List.mem_cons_of_mem _ (List.mem_cons_of_mem _ List.mem_cons_self))) : Fb _ _).cells2.2, (h.box _ (List.mem_cons_of_mem _ (List.mem_cons_of_mem _ List.mem_cons_self)) : Fb _ _).cells2.1, (h.box _ (List.mem_cons_of_mem _ (List.mem_cons_of_mem _ List.mem_cons_self)) : Fb _ _).cells2.2, (h.box _ List.mem_cons_self : Fb _ _).cells2⟩
  have KK := Lib.hid K0
  clear K0
  have K0 : ∀ W F (r0 r1 r2 r3 : Value), Sf w [(w1.heap.size, 32, [.int .i64 s1, .slice a1 n1 c1]), (w.heap.size + 1 + 1, 34, [r0, r1, r2, r3]), (w.heap.size + 1, 32, [.int .i64 1, .slice aq nq cq]), (w.heap.size, 32, [.int .i64 sp, .slice ap np cp])] F W → W.cell? ⟨w.heap.size, 0, none⟩ = some (.int .i64 sp) ∧ W.cell? ⟨w.heap.size, 1, none⟩ = some (.slice ap np cp) ∧ W.cell? ⟨w.heap.size + 1, 0, none⟩ = some (.int .i64 1) ∧ W.cell? ⟨w.heap.size + 1, 1, none⟩ = some (.slice aq nq cq) ∧ W.cell? ⟨w1.heap.size, 0, none⟩ = some (.int .i64 s1) ∧ W.cell? ⟨w1.heap.size, 1, none⟩ = some (.slice a1 n1 c1) := fun W F r0 r1 r2 r3 h => ⟨(h.box _ (List.mem_cons_of_mem _ (List.mem_cons_of_mem _ (List.mem_cons_of_mem _ List.mem_cons_self))) : Fb _ _).cells2.1, (h.box _ (List.mem_cons_of_mem _ (List.mem_cons_of_mem _ (List.mem_cons_of_mem _ List.mem_cons_self))) : Fb _ _).cells2.2, (h.box _ (List.mem_cons_of_mem _ (List.mem_cons_of_mem _ List.mem_cons_self)) : Fb _ _).cells2.1, (h.box _ (List.mem_cons_of_mem _ (List.mem_cons_of_mem _ List.mem_cons_self)) : Fb _ _).cells2.2, (h.box _ List.mem_cons_self : Fb _ _).cells2⟩
  have KK5 := Lib.hid K0
  clear K0 S2
  have e0 := KK.out _ _ SD.out
  have MP := Lib.hid (HP.out.later SD.out.below)
  have MG := Lib.hid (SD.out.num (v := .slice a1 n1 c1) (z := newG p q) List.mem_cons_self E2.out)
  go_region_held3 (fun W => W.cell? ⟨w.heap.size, 0, none⟩ = some (.int .i64 sp) ∧ W.cell? ⟨w.heap.size, 1, none⟩ = some (.slice ap np cp) ∧ W.cell? ⟨w.heap.size + 1, 0, none⟩ = some (.int .i64 1) ∧ W.cell? ⟨w.heap.size + 1, 1, none⟩ = some (.slice aq nq cq) ∧ W.cell? ⟨w1.heap.size, 0, none⟩ = some (.int .i64 s1) ∧ W.cell? ⟨w1.heap.size, 1, none⟩ = some (.slice a1 n1 c1))
    (first | (with_reducible exact e0) | (with_reducible exact x3) | (with_reducible exact x4) | (with_reducible exact x5))
    (first
      | (go_at_call 55; (with_reducible refine (quotient_k MQ.out MG2.out HLQ.out HLG.out HGN.out).mono ?_); rintro e w4 ⟨s4, a4, n4, c4, rfl, hn, hb, hf⟩; have S4 := Lib.hid (S3.out.ret hb hn.2 hf); have x4 := KK.out _ _ S4.out; have E4 := Lib.hid hn.1; have F4 := Lib.hid (hf.mono S3.out.below.size); have yr : Fb (w.heap.size + 1 + 1, 34, [.int .i64 0, .slice none 0 0, .int .i64 0, .slice none 0 0]) _ := S4.out.box _ (List.mem_cons_of_mem _ List.mem_cons_self); obtain ⟨r0, r1, r2, r3⟩ := yr.cells4; obtain ⟨f0, f1, f2, f3⟩ := yr.free4; have S5 := Lib.hid (S4.out.set4 (pre := [_]) (.int .i64 s3) (.slice a3 n3 c3) (.int .i64 s4) (.slice a4 n4 c4)); have x5 := KK5.out _ _ _ _ _ _ S5.out; clear hn hb hf yr)
      | (go_at_call 55; (with_reducible refine (quotient_k MP.out MG.out HLP.out HLG.out HGN.out).mono ?_); rintro e w3 ⟨s3, a3, n3, c3, rfl, hn, hb, hf⟩; have S3 := Lib.hid (SD.out.ret hb hn.2 hf); have x3 := KK.out _ _ S3.out; have E3 := Lib.hid hn.1; have F3 := Lib.hid (hf.mono SD.out.below.size); have MQ := Lib.hid (HQ.out.later S3.out.below); have MG2 := Lib.hid (MG.out.later hb); clear hn hb hf))
  go_wp2_with fail
  rw [HNU.out] at E3 S5
  rw [HDE.out] at E4 S5
  obtain rfl : s4 = 1 := E4.out.trans (den_sign _)
  exact bodyPost_ret (v := .tuple #[.agg #[.int .i64 s3, .slice a3 n3 c3, .int .i64 1, .slice a4 n4 c4], .int .i64 0]) (by simp [results, Try.results39, go_sem, r0, r1, r2, r3]) rfl
    ⟨_, _, _, _, _, _, _, rfl, ⟨S5.out.num (v := .slice a3 n3 c3) (z := (Rat.divInt p q).num) (List.mem_cons_of_mem _ List.mem_cons_self) E3.out, S5.out.num (v := .slice a4 n4 c4) (z := ((Rat.divInt p q).den : Int)) List.mem_cons_self E4.out⟩, S5.out.below, F3.out, F4.out⟩

theorem new_k {w : World} {sp sq : Int} {ap aq : Option Addr} {np cp nq cq : Nat} {p q : Int} (hp : Num w sp (.slice ap np cp) p) (hq : Num w sq (.slice aq nq cq) q) (lp : Len 100000 p) (lq : Len 100000 q) (h0 : q ≠ 0) :
    Calls Try.prog 39 #[.agg #[.int .i64 sp, .slice ap np cp], .agg #[.int .i64 sq, .slice aq nq cq]] w (FVE (Rat.divInt p q) 0 w) := by
  rcases Int.lt_or_gt_of_ne h0 with h | h
  · exact new_neg hp hq lp lq h
  · exact new_pos hp hq lp lq h
end Go.Proofs.Ytmhjejnkphdjpaa.Bi

namespace Go.Proofs.Ytmhjejnkphdjpaa.Bi
open Go.RowKit

/-- Both parts have at most k digits. -/
def FSz (k : Nat) (r : Rat) : Prop := Sz k r.num ∧ Sz k (r.den : Int)
theorem FSz.mono {i j : Nat} {r : Rat} (h : FSz i r) (hij : i ≤ j := by decide) : FSz j r := ⟨h.1.mono hij, h.2.mono hij⟩
theorem Sz.le {k : Nat} {a b : Int} (h : Sz k b) (hab : a.natAbs ≤ b.natAbs) : Sz k a := by unfold Sz at *; omega
theorem FSz.mk' {k : Nat} {p q : Int} {r : Rat} (e : Rat.divInt p q = r) (hq : q ≠ 0) (h1 : Sz k p) (h2 : Sz k q) : FSz k r := by
  subst e
  exact ⟨h1.le (num_le p q), h2.le (den_le hq)⟩
theorem den_ne (r : Rat) : (r.den : Int) ≠ 0 := by have := rat_den_pos r; omega
theorem FSz.add {i j k : Nat} {a b : Rat} (ha : FSz i a) (hb : FSz j b) (hk : i + j + 1 = k := by rfl) : FSz k (a + b) := by
  subst hk
  refine .mk' (rat_add a b) (Int.mul_ne_zero (den_ne a) (den_ne b)) (.add (ha.1.mul hb.2) ?_) ((ha.2.mul hb.2).mono (by omega))
  rw [Nat.add_comm i j]; exact hb.1.mul ha.2
theorem FSz.sub {i j k : Nat} {a b : Rat} (ha : FSz i a) (hb : FSz j b) (hk : i + j + 1 = k := by rfl) : FSz k (a - b) := by
  subst hk
  refine .mk' (rat_sub a b) (Int.mul_ne_zero (den_ne a) (den_ne b)) (.sub (ha.1.mul hb.2) ?_) ((ha.2.mul hb.2).mono (by omega))
  rw [Nat.add_comm i j]; exact hb.1.mul ha.2
theorem FSz.mul {i j k : Nat} {a b : Rat} (ha : FSz i a) (hb : FSz j b) (hk : i + j = k := by rfl) : FSz k (a * b) := by
  subst hk
  exact .mk' (rat_mul a b) (Int.mul_ne_zero (den_ne a) (den_ne b)) (ha.1.mul hb.1) (ha.2.mul hb.2)
theorem FSz.neg {k : Nat} {a : Rat} (ha : FSz k a) : FSz k (-a) := ⟨ha.1.le (by rw [Rat.neg_num, Int.natAbs_neg]; exact Nat.le_refl _), ha.2⟩

section
variable {w : World} {sa : Int} {aa ba : Option Addr} {na ca ma da : Nat} {a : Rat}
theorem fright_k (h : Fr w sa (.slice aa na ca) (.slice ba ma da) a) (l : FSz 1000 a) : Calls Try.prog 38 #[.agg #[.int .i64 sa, .slice aa na ca, .int .i64 1, .slice ba ma da]] w fun e w' => e = .returned (.bool true) ∧ RowKit.Below w.heap.size w w' := by
  obtain ⟨⟨rfl, h1⟩, _, h2⟩ := h
  exact fright_any _ _ _ _ _ _ _ _ _ _ w h1 h2 (Sz.len l.1) (Sz.len l.2) true (fright_is a)
theorem new_r {sp sq : Int} {ap aq : Option Addr} {np cp nq cq : Nat} {p q : Int} {r : Rat} (hp : Num w sp (.slice ap np cp) p) (hq : Num w sq (.slice aq nq cq) q) (lp : Len 100000 p) (lq : Len 100000 q) (h0 : q ≠ 0) (h : Rat.divInt p q = r) :
    Calls Try.prog 39 #[.agg #[.int .i64 sp, .slice ap np cp], .agg #[.int .i64 sq, .slice aq nq cq]] w (FVE r 0 w) := by
  subst h; exact new_k hp hq lp lq h0
end

set_option maxHeartbeats 4000000 in
theorem fadd_k {w : World} {sa : Int} {aa ba : Option Addr} {na ca ma da : Nat} {sb : Int} {ab bb : Option Addr} {nb cb mb db : Nat} {a b : Rat} (ha : Fr w sa (.slice aa na ca) (.slice ba ma da) a) (hb : Fr w sb (.slice ab nb cb) (.slice bb mb db) b) (La : FSz 1000 a) (Lb : FSz 1000 b) :
    Calls Try.prog 35 #[.agg #[.int .i64 sa, .slice aa na ca, .int .i64 1, .slice ba ma da], .agg #[.int .i64 sb, .slice ab nb cb, .int .i64 1, .slice bb mb db]] w (FVE (a + b) 0 w) := by
  have HRAT : Hid (Rat.divInt ((a.num * (b.den : Int)) + (b.num * (a.den : Int))) ((a.den : Int) * (b.den : Int)) = (a + b)) := rat_add a b
  have HQ0 : Hid (((a.den : Int) * (b.den : Int)) ≠ 0) := Int.mul_ne_zero (den_ne a) (den_ne b)
  have LX0 : Hid (Len 100000 a.num) := Sz.len La.1
  have LY0 : Hid (Len 100000 (b.den : Int)) := Sz.len Lb.2
  have LX1 : Hid (Len 100000 b.num) := Sz.len Lb.1
  have LY1 : Hid (Len 100000 (a.den : Int)) := Sz.len La.2
  have LX2 : Hid (Len 100000 (a.num * (b.den : Int))) := Sz.len (Sz.mul La.1 Lb.2)
  have LY2 : Hid (Len 100000 (b.num * (a.den : Int))) := Sz.len (Sz.mul Lb.1 La.2)
  have LX3 : Hid (Len 100000 (a.den : Int)) := Sz.len La.2
  have LY3 : Hid (Len 100000 (b.den : Int)) := Sz.len Lb.2
  have LX4 : Hid (Len 100000 ((a.num * (b.den : Int)) + (b.num * (a.den : Int)))) := Sz.len (Sz.add (Sz.mul La.1 Lb.2) (Sz.mul Lb.1 La.2))
  have LY4 : Hid (Len 100000 ((a.den : Int) * (b.den : Int))) := Sz.len (Sz.mul La.2 Lb.2)
  have HA := Lib.hid ha
  have HB := Lib.hid hb
  have HLA := Lib.hid La
  have HLB := Lib.hid Lb
  have HaP := Lib.hid ha.1
  have HaQ := Lib.hid ha.2
  have HbP := Lib.hid hb.1
  have HbQ := Lib.hid hb.2
  have S0 := Lib.hid ((((Sf.start w).put [.int .i64 sa, .slice aa na ca, .int .i64 1, .slice ba ma da] 34).put' (n := w.heap.size + 1) (by simp) [.int .i64 sb, .slice ab nb cb, .int .i64 1, .slice bb mb db] 34).put' (n := w.heap.size + 1 + 1) (by simp) [.int .i64 0, .slice none 0 0, .int .i64 0, .slice none 0 0] 34)
  clear ha hb La Lb
  go_enter Try.func35, Try.ntmps35
  go_wp2_with fail
  refine (fright_k (HA.out.later S0.out.below) HLA.out).mono ?_
  rintro e w1 ⟨rfl, hb⟩
  have S1 := Lib.hid (S0.out.later hb)
  have hy : Fb (w.heap.size + 1, 34, [.int .i64 sb, .slice ab nb cb, .int .i64 1, .slice bb mb db]) _ := S1.out.box _ (List.mem_cons_of_mem _ List.mem_cons_self)
  obtain ⟨q0, q1, q2, q3⟩ := hy.cells4
  clear hb hy S0
  go_wp2_with fail
  refine (fright_k (HB.out.later S1.out.below) HLB.out).mono ?_
  rintro e w2 ⟨rfl, hb⟩
  have S2 := Lib.hid (S1.out.later hb)
  clear hb S1 q0 q1 q2 q3
  go_wp2_with fail
  have T0 := Lib.hid S2.out.drew
  have K0 : ∀ W F (r0 r1 r2 r3 : Value), Sf w [(w.heap.size + 1 + 1, 34, [r0, r1, r2, r3]), (w.heap.size + 1, 34, [.int .i64 sb, .slice ab nb cb, .int .i64 1, .slice bb mb db]), (w.heap.size, 34, [.int .i64 sa, .slice aa na ca, .int .i64 1, .slice ba ma da])] F W → W.cell? ⟨w.heap.size, 0, none⟩ = some (.int .i64 sa) ∧ W.cell? ⟨w.heap.size, 1, none⟩ = some (.slice aa na ca) ∧ W.cell? ⟨w.heap.size, 2, none⟩ = some (.int .i64 1) ∧ W.cell? ⟨w.heap.size, 3, none⟩ = some (.slice ba ma da) ∧ W.cell? ⟨w.heap.size + 1, 0, none⟩ = some (.int .i64 sb) ∧ W.cell? ⟨w.heap.size + 1, 1, none⟩ = some (.slice ab nb cb) ∧ W.cell? ⟨w.heap.size + 1, 2, none⟩ = some (.int .i64 1) ∧ W.cell? ⟨w.heap.size + 1, 3, none⟩ = some (.slice bb mb db) := fun W F r0 r1 r2 r3 h => ⟨(h.box _ (List.mem_cons_of_mem _ (List.mem_cons_of_mem _ List.mem_cons_self)) : Fb _ _).cells4.1, (h.box _ (List.mem_cons_of_mem _ (List.mem_cons_of_mem _ List.mem_cons_self)) : Fb _ _).cells4.2.1, (h.box _ (List.mem_cons_of_mem _ (List.mem_cons_of_mem _ List.mem_cons_self)) : Fb _ _).cells4.2.2.1, (h.box _ (List.mem_cons_of_mem _ (List.mem_cons_of_mem _ List.mem_cons_self)) : Fb _ _).cells4.2.2.2, (h.box _ (List.mem_cons_of_mem _ List.mem_cons_self) : Fb _ _).cells4⟩
  have KK := Lib.hid K0
  clear K0 S2
  have e0 := KK.out _ _ _ _ _ _ T0.out
  have X0 := Lib.hid (HaP.out.later T0.out.below)
  have Y0 := Lib.hid (HbQ.out.later T0.out.below)
  go_region_held3 (fun W => W.cell? ⟨w.heap.size, 0, none⟩ = some (.int .i64 sa) ∧ W.cell? ⟨w.heap.size, 1, none⟩ = some (.slice aa na ca) ∧ W.cell? ⟨w.heap.size, 2, none⟩ = some (.int .i64 1) ∧ W.cell? ⟨w.heap.size, 3, none⟩ = some (.slice ba ma da) ∧ W.cell? ⟨w.heap.size + 1, 0, none⟩ = some (.int .i64 sb) ∧ W.cell? ⟨w.heap.size + 1, 1, none⟩ = some (.slice ab nb cb) ∧ W.cell? ⟨w.heap.size + 1, 2, none⟩ = some (.int .i64 1) ∧ W.cell? ⟨w.heap.size + 1, 3, none⟩ = some (.slice bb mb db))
    (first | (with_reducible exact e0) | (with_reducible exact e1) | (with_reducible exact e2) | (with_reducible exact e3) | (with_reducible exact e4) | (with_reducible exact e5) | (with_reducible exact e6))
    (first
      | (go_at_call 39; (with_reducible refine (new_r X4.out Y4.out LX4.out LY4.out HQ0.out HRAT.out).mono ?_); rintro e v4 ⟨s9, a9, n9, c9, b9, m9, d9, rfl, hr, hb, hf, hg⟩; have T5 := Lib.hid (T4.out.ret2 hb hr.1.2 hf hr.2.2 hg); have E9 := Lib.hid hr.1.1; have F9 := Lib.hid (hf.mono T4.out.below.size); have G9 := Lib.hid (hg.mono T4.out.below.size); have e5 := KK.out _ _ _ _ _ _ T5.out; have yr : Fb (w.heap.size + 1 + 1, 34, [.int .i64 0, .slice none 0 0, .int .i64 0, .slice none 0 0]) _ := T5.out.box _ List.mem_cons_self; obtain ⟨r0, r1, r2, r3⟩ := yr.cells4; obtain ⟨f0, f1, f2, f3⟩ := yr.free4; have T6 := Lib.hid (T5.out.set4 (pre := []) (.int .i64 s9) (.slice a9 n9 c9) (.int .i64 1) (.slice b9 m9 d9)); have e6 := KK.out _ _ _ _ _ _ T6.out; clear hr hb hf hg yr)
      | (go_at_call 41; (with_reducible refine (product_k X3.out Y3.out LX3.out LY3.out).mono ?_); rintro e v3 ⟨g3, p3, k3, j3, rfl, hn, hb, hf⟩; have T4 := Lib.hid (T3.out.ret hb hn.2 hf); have E3 := Lib.hid hn.1; have e4 := KK.out _ _ _ _ _ _ T4.out; have X4 := Lib.hid (T4.out.num (v := .slice p2 k2 j2) (z := ((a.num * (b.den : Int)) + (b.num * (a.den : Int)))) (List.mem_cons_of_mem _ List.mem_cons_self) E2.out); have Y4 := Lib.hid (T4.out.num (v := .slice p3 k3 j3) (z := ((a.den : Int) * (b.den : Int))) List.mem_cons_self E3.out); clear hn hb hf)
      | (go_at_call 50; (with_reducible refine (sum_k X2.out Y2.out LX2.out LY2.out).mono ?_); rintro e v2 ⟨g2, p2, k2, j2, rfl, hn, hb, hf⟩; have T3 := Lib.hid (T2.out.ret hb hn.2 hf); have E2 := Lib.hid hn.1; have e3 := KK.out _ _ _ _ _ _ T3.out; have X3 := Lib.hid (HaQ.out.later T3.out.below); have Y3 := Lib.hid (HbQ.out.later T3.out.below); clear hn hb hf)
      | (go_at_call 41; (with_reducible refine (product_k X1.out Y1.out LX1.out LY1.out).mono ?_); rintro e v1 ⟨g1, p1, k1, j1, rfl, hn, hb, hf⟩; have T2 := Lib.hid (T1.out.ret hb hn.2 hf); have E1 := Lib.hid hn.1; have e2 := KK.out _ _ _ _ _ _ T2.out; have X2 := Lib.hid (T2.out.num (v := .slice p0 k0 j0) (z := (a.num * (b.den : Int))) (List.mem_cons_of_mem _ List.mem_cons_self) E0.out); have Y2 := Lib.hid (T2.out.num (v := .slice p1 k1 j1) (z := (b.num * (a.den : Int))) List.mem_cons_self E1.out); clear hn hb hf)
      | (go_at_call 41; (with_reducible refine (product_k X0.out Y0.out LX0.out LY0.out).mono ?_); rintro e v0 ⟨g0, p0, k0, j0, rfl, hn, hb, hf⟩; have T1 := Lib.hid (T0.out.ret hb hn.2 hf); have E0 := Lib.hid hn.1; have e1 := KK.out _ _ _ _ _ _ T1.out; have X1 := Lib.hid (HbP.out.later T1.out.below); have Y1 := Lib.hid (HaQ.out.later T1.out.below); clear hn hb hf))
  go_wp2_with fail
  exact bodyPost_ret (v := .tuple #[.agg #[.int .i64 s9, .slice a9 n9 c9, .int .i64 1, .slice b9 m9 d9], .int .i64 0]) (by simp [results, Try.results35, go_sem, r0, r1, r2, r3]) rfl
    ⟨_, _, _, _, _, _, _, rfl, ⟨T6.out.num (v := .slice a9 n9 c9) (z := ((a + b)).num) List.mem_cons_self E9.out, T6.out.num (v := .slice b9 m9 d9) (z := (((a + b)).den : Int)) (List.mem_cons_of_mem _ List.mem_cons_self) (den_sign _).symm⟩, T6.out.below, F9.out, G9.out⟩

set_option maxHeartbeats 4000000 in
theorem fsub_k {w : World} {sa : Int} {aa ba : Option Addr} {na ca ma da : Nat} {sb : Int} {ab bb : Option Addr} {nb cb mb db : Nat} {a b : Rat} (ha : Fr w sa (.slice aa na ca) (.slice ba ma da) a) (hb : Fr w sb (.slice ab nb cb) (.slice bb mb db) b) (La : FSz 1000 a) (Lb : FSz 1000 b) :
    Calls Try.prog 22 #[.agg #[.int .i64 sa, .slice aa na ca, .int .i64 1, .slice ba ma da], .agg #[.int .i64 sb, .slice ab nb cb, .int .i64 1, .slice bb mb db]] w (FVE (a - b) 0 w) := by
  have HRAT : Hid (Rat.divInt ((a.num * (b.den : Int)) - (b.num * (a.den : Int))) ((a.den : Int) * (b.den : Int)) = (a - b)) := rat_sub a b
  have HQ0 : Hid (((a.den : Int) * (b.den : Int)) ≠ 0) := Int.mul_ne_zero (den_ne a) (den_ne b)
  have LX0 : Hid (Len 100000 a.num) := Sz.len La.1
  have LY0 : Hid (Len 100000 (b.den : Int)) := Sz.len Lb.2
  have LX1 : Hid (Len 100000 b.num) := Sz.len Lb.1
  have LY1 : Hid (Len 100000 (a.den : Int)) := Sz.len La.2
  have LX2 : Hid (Len 100000 (a.num * (b.den : Int))) := Sz.len (Sz.mul La.1 Lb.2)
  have LY2 : Hid (Len 100000 (b.num * (a.den : Int))) := Sz.len (Sz.mul Lb.1 La.2)
  have LX3 : Hid (Len 100000 (a.den : Int)) := Sz.len La.2
  have LY3 : Hid (Len 100000 (b.den : Int)) := Sz.len Lb.2
  have LX4 : Hid (Len 100000 ((a.num * (b.den : Int)) - (b.num * (a.den : Int)))) := Sz.len (Sz.sub (Sz.mul La.1 Lb.2) (Sz.mul Lb.1 La.2))
  have LY4 : Hid (Len 100000 ((a.den : Int) * (b.den : Int))) := Sz.len (Sz.mul La.2 Lb.2)
  have HA := Lib.hid ha
  have HB := Lib.hid hb
  have HLA := Lib.hid La
  have HLB := Lib.hid Lb
  have HaP := Lib.hid ha.1
  have HaQ := Lib.hid ha.2
  have HbP := Lib.hid hb.1
  have HbQ := Lib.hid hb.2
  have S0 := Lib.hid ((((Sf.start w).put [.int .i64 sa, .slice aa na ca, .int .i64 1, .slice ba ma da] 34).put' (n := w.heap.size + 1) (by simp) [.int .i64 sb, .slice ab nb cb, .int .i64 1, .slice bb mb db] 34).put' (n := w.heap.size + 1 + 1) (by simp) [.int .i64 0, .slice none 0 0, .int .i64 0, .slice none 0 0] 34)
  clear ha hb La Lb
  go_enter Try.func22, Try.ntmps22
  go_wp2_with fail
  refine (fright_k (HA.out.later S0.out.below) HLA.out).mono ?_
  rintro e w1 ⟨rfl, hb⟩
  have S1 := Lib.hid (S0.out.later hb)
  have hy : Fb (w.heap.size + 1, 34, [.int .i64 sb, .slice ab nb cb, .int .i64 1, .slice bb mb db]) _ := S1.out.box _ (List.mem_cons_of_mem _ List.mem_cons_self)
  obtain ⟨q0, q1, q2, q3⟩ := hy.cells4
  clear hb hy S0
  go_wp2_with fail
  refine (fright_k (HB.out.later S1.out.below) HLB.out).mono ?_
  rintro e w2 ⟨rfl, hb⟩
  have S2 := Lib.hid (S1.out.later hb)
  clear hb S1 q0 q1 q2 q3
  go_wp2_with fail
  have T0 := Lib.hid S2.out.drew
  have K0 : ∀ W F (r0 r1 r2 r3 : Value), Sf w [(w.heap.size + 1 + 1, 34, [r0, r1, r2, r3]), (w.heap.size + 1, 34, [.int .i64 sb, .slice ab nb cb, .int .i64 1, .slice bb mb db]), (w.heap.size, 34, [.int .i64 sa, .slice aa na ca, .int .i64 1, .slice ba ma da])] F W → W.cell? ⟨w.heap.size, 0, none⟩ = some (.int .i64 sa) ∧ W.cell? ⟨w.heap.size, 1, none⟩ = some (.slice aa na ca) ∧ W.cell? ⟨w.heap.size, 2, none⟩ = some (.int .i64 1) ∧ W.cell? ⟨w.heap.size, 3, none⟩ = some (.slice ba ma da) ∧ W.cell? ⟨w.heap.size + 1, 0, none⟩ = some (.int .i64 sb) ∧ W.cell? ⟨w.heap.size + 1, 1, none⟩ = some (.slice ab nb cb) ∧ W.cell? ⟨w.heap.size + 1, 2, none⟩ = some (.int .i64 1) ∧ W.cell? ⟨w.heap.size + 1, 3, none⟩ = some (.slice bb mb db) := fun W F r0 r1 r2 r3 h => ⟨(h.box _ (List.mem_cons_of_mem _ (List.mem_cons_of_mem _ List.mem_cons_self)) : Fb _ _).cells4.1, (h.box _ (List.mem_cons_of_mem _ (List.mem_cons_of_mem _ List.mem_cons_self)) : Fb _ _).cells4.2.1, (h.box _ (List.mem_cons_of_mem _ (List.mem_cons_of_mem _ List.mem_cons_self)) : Fb _ _).cells4.2.2.1, (h.box _ (List.mem_cons_of_mem _ (List.mem_cons_of_mem _ List.mem_cons_self)) : Fb _ _).cells4.2.2.2, (h.box _ (List.mem_cons_of_mem _ List.mem_cons_self) : Fb _ _).cells4⟩
  have KK := Lib.hid K0
  clear K0 S2
  have e0 := KK.out _ _ _ _ _ _ T0.out
  have X0 := Lib.hid (HaP.out.later T0.out.below)
  have Y0 := Lib.hid (HbQ.out.later T0.out.below)
  go_region_held3 (fun W => W.cell? ⟨w.heap.size, 0, none⟩ = some (.int .i64 sa) ∧ W.cell? ⟨w.heap.size, 1, none⟩ = some (.slice aa na ca) ∧ W.cell? ⟨w.heap.size, 2, none⟩ = some (.int .i64 1) ∧ W.cell? ⟨w.heap.size, 3, none⟩ = some (.slice ba ma da) ∧ W.cell? ⟨w.heap.size + 1, 0, none⟩ = some (.int .i64 sb) ∧ W.cell? ⟨w.heap.size + 1, 1, none⟩ = some (.slice ab nb cb) ∧ W.cell? ⟨w.heap.size + 1, 2, none⟩ = some (.int .i64 1) ∧ W.cell? ⟨w.heap.size + 1, 3, none⟩ = some (.slice bb mb db))
    (first | (with_reducible exact e0) | (with_reducible exact e1) | (with_reducible exact e2) | (with_reducible exact e3) | (with_reducible exact e4) | (with_reducible exact e5) | (with_reducible exact e6))
    (first
      | (go_at_call 39; (with_reducible refine (new_r X4.out Y4.out LX4.out LY4.out HQ0.out HRAT.out).mono ?_); rintro e v4 ⟨s9, a9, n9, c9, b9, m9, d9, rfl, hr, hb, hf, hg⟩; have T5 := Lib.hid (T4.out.ret2 hb hr.1.2 hf hr.2.2 hg); have E9 := Lib.hid hr.1.1; have F9 := Lib.hid (hf.mono T4.out.below.size); have G9 := Lib.hid (hg.mono T4.out.below.size); have e5 := KK.out _ _ _ _ _ _ T5.out; have yr : Fb (w.heap.size + 1 + 1, 34, [.int .i64 0, .slice none 0 0, .int .i64 0, .slice none 0 0]) _ := T5.out.box _ List.mem_cons_self; obtain ⟨r0, r1, r2, r3⟩ := yr.cells4; obtain ⟨f0, f1, f2, f3⟩ := yr.free4; have T6 := Lib.hid (T5.out.set4 (pre := []) (.int .i64 s9) (.slice a9 n9 c9) (.int .i64 1) (.slice b9 m9 d9)); have e6 := KK.out _ _ _ _ _ _ T6.out; clear hr hb hf hg yr)
      | (go_at_call 41; (with_reducible refine (product_k X3.out Y3.out LX3.out LY3.out).mono ?_); rintro e v3 ⟨g3, p3, k3, j3, rfl, hn, hb, hf⟩; have T4 := Lib.hid (T3.out.ret hb hn.2 hf); have E3 := Lib.hid hn.1; have e4 := KK.out _ _ _ _ _ _ T4.out; have X4 := Lib.hid (T4.out.num (v := .slice p2 k2 j2) (z := ((a.num * (b.den : Int)) - (b.num * (a.den : Int)))) (List.mem_cons_of_mem _ List.mem_cons_self) E2.out); have Y4 := Lib.hid (T4.out.num (v := .slice p3 k3 j3) (z := ((a.den : Int) * (b.den : Int))) List.mem_cons_self E3.out); clear hn hb hf)
      | (go_at_call 40; (with_reducible refine (difference_k X2.out Y2.out LX2.out LY2.out).mono ?_); rintro e v2 ⟨g2, p2, k2, j2, rfl, hn, hb, hf⟩; have T3 := Lib.hid (T2.out.ret hb hn.2 hf); have E2 := Lib.hid hn.1; have e3 := KK.out _ _ _ _ _ _ T3.out; have X3 := Lib.hid (HaQ.out.later T3.out.below); have Y3 := Lib.hid (HbQ.out.later T3.out.below); clear hn hb hf)
      | (go_at_call 41; (with_reducible refine (product_k X1.out Y1.out LX1.out LY1.out).mono ?_); rintro e v1 ⟨g1, p1, k1, j1, rfl, hn, hb, hf⟩; have T2 := Lib.hid (T1.out.ret hb hn.2 hf); have E1 := Lib.hid hn.1; have e2 := KK.out _ _ _ _ _ _ T2.out; have X2 := Lib.hid (T2.out.num (v := .slice p0 k0 j0) (z := (a.num * (b.den : Int))) (List.mem_cons_of_mem _ List.mem_cons_self) E0.out); have Y2 := Lib.hid (T2.out.num (v := .slice p1 k1 j1) (z := (b.num * (a.den : Int))) List.mem_cons_self E1.out); clear hn hb hf)
      | (go_at_call 41; (with_reducible refine (product_k X0.out Y0.out LX0.out LY0.out).mono ?_); rintro e v0 ⟨g0, p0, k0, j0, rfl, hn, hb, hf⟩; have T1 := Lib.hid (T0.out.ret hb hn.2 hf); have E0 := Lib.hid hn.1; have e1 := KK.out _ _ _ _ _ _ T1.out; have X1 := Lib.hid (HbP.out.later T1.out.below); have Y1 := Lib.hid (HaQ.out.later T1.out.below); clear hn hb hf))
  go_wp2_with fail
  exact bodyPost_ret (v := .tuple #[.agg #[.int .i64 s9, .slice a9 n9 c9, .int .i64 1, .slice b9 m9 d9], .int .i64 0]) (by simp [results, Try.results22, go_sem, r0, r1, r2, r3]) rfl
    ⟨_, _, _, _, _, _, _, rfl, ⟨T6.out.num (v := .slice a9 n9 c9) (z := ((a - b)).num) List.mem_cons_self E9.out, T6.out.num (v := .slice b9 m9 d9) (z := (((a - b)).den : Int)) (List.mem_cons_of_mem _ List.mem_cons_self) (den_sign _).symm⟩, T6.out.below, F9.out, G9.out⟩

end Go.Proofs.Ytmhjejnkphdjpaa.Bi
