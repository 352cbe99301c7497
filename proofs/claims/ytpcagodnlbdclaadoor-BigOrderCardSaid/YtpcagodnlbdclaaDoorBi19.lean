/- The contract of Int. -/
import Derived.Test.YtpcagodnlbdclaaDoorBi18
set_option maxRecDepth 100000
namespace Go.Proofs.YtpcagodnlbdclaaDoor.Bi
open Go.RowKit

def w64 (n : Int) : Int := IntKind.i64.wrap n
theorem w64_eq (n : Int) : w64 n = (n + 9223372036854775808) % 18446744073709551616 - 9223372036854775808 := IntKind.wrap_i64 n
theorem w64_bd (n : Int) : -9223372036854775808 ≤ w64 n ∧ w64 n ≤ 9223372036854775807 := by rw [w64_eq]; omega
theorem w64_in {n : Int} (h0 : -9223372036854775808 ≤ n) (h1 : n ≤ 9223372036854775807) : w64 n = n := by rw [w64_eq]; omega
theorem w64_mod (a b : Int) (h : a % 18446744073709551616 = b % 18446744073709551616) : w64 a = w64 b := by rw [w64_eq, w64_eq]; omega
theorem w64_self (n : Int) : w64 n % 18446744073709551616 = n % 18446744073709551616 := by rw [w64_eq]; omega
theorem w64_add (a b : Int) : w64 (w64 a + w64 b) = w64 (a + b) := by
  have h1 := w64_self a
  have h2 := w64_self b
  exact w64_mod _ _ (by omega)
theorem w64_mul (a s : Int) : w64 (w64 a * s) = w64 (a * s) := by
  refine w64_mod _ _ ?_
  rw [Int.mul_emod, w64_self, ← Int.mul_emod]

theorem w64_wrap (n : Int) : RowKit.wrap64 n = w64 n := (IntWalk.i64_left n).symm
theorem w64_step {l : List Int} {k : Nat} {C d c : Int} (hC : w64 (val (l.take k)) = C) (hd : l.getD k 0 = d) (hc : P k = c) : RowKit.wrap64 (C + RowKit.wrap64 (d * c)) = w64 (val (l.take (k + 1))) := by
  rw [w64_wrap, w64_wrap, ← hC, w64_add, val_take, hd, hc, Int.mul_comm]
theorem w64_step0 {l : List Int} {C d : Int} (hC : w64 (val (l.take 0)) = C) (hd : l.getD 0 0 = d) : RowKit.wrap64 (C + RowKit.wrap64 d) = w64 (val (l.take 1)) := by
  have := w64_step hC hd P_zero
  rwa [Int.mul_one] at this
def intS (s : Int) (l : List Int) : Int × Bool := if rightB s l = true ∧ -9223372036854775808 ≤ s * val l ∧ s * val l ≤ 9223372036854775807 then (s * val l, true) else (0, false)
/-- What has been reckoned with ints is the number if and only if this number is the argument. -/
theorem int_back {s : Int} {l : List Int} {N : Int} (hN : N = w64 (w64 (val (l.take 4)) * s)) : (N.sign = s ∧ digs N.natAbs = l → intS s l = (N, true)) ∧ (¬ (N.sign = s ∧ digs N.natAbs = l) → intS s l = (0, false)) := by
  have hb : -9223372036854775808 ≤ N ∧ N ≤ 9223372036854775807 := by rw [hN]; exact w64_bd _
  constructor
  · rintro ⟨rfl, rfl⟩
    have e : N.sign * val (digs N.natAbs) = N := by rw [digs_val]; exact Int.sign_mul_natAbs N
    unfold intS
    rw [if_pos ⟨right_is N, by rw [e]; exact hb.1, by rw [e]; exact hb.2⟩, e]
  · intro hne
    unfold intS
    rw [if_neg]
    rintro ⟨h1, h2, h3⟩
    obtain ⟨z, rfl, rfl⟩ := right_of h1
    have e : z.sign * val (digs z.natAbs) = z := by rw [digs_val]; exact Int.sign_mul_natAbs z
    rw [e] at h2 h3
    have hl := digs_len4 (n := z.natAbs) (by omega)
    rw [List.take_of_length_le hl, w64_mul, Int.mul_comm, e, w64_in h2 h3] at hN
    subst hN
    exact hne ⟨rfl, rfl⟩

theorem box_later {w W' : World} {x y : Value} {O : Obj} (h : (w.alloc O).drew.cell? ⟨w.heap.size, 0, none⟩ = some x ∧ (w.alloc O).drew.cell? ⟨w.heap.size, 1, none⟩ = some y) (hb : RowKit.Below (w.alloc O).drew.heap.size (w.alloc O).drew W') :
    W'.cell? ⟨w.heap.size, 0, none⟩ = some x ∧ W'.cell? ⟨w.heap.size, 1, none⟩ = some y :=
  ⟨(hb.cell (p := ⟨w.heap.size, 0, none⟩) (by simp)).trans h.1, (hb.cell (p := ⟨w.heap.size, 1, none⟩) (by simp)).trans h.2⟩
theorem box_keep {w W W' : World} {x y : Value} (h : W.cell? ⟨w.heap.size, 0, none⟩ = some x ∧ W.cell? ⟨w.heap.size, 1, none⟩ = some y) (hb : RowKit.Below W.heap.size W W') (_hB : RowKit.Below w.heap.size w W) :
    W'.cell? ⟨w.heap.size, 0, none⟩ = some x ∧ W'.cell? ⟨w.heap.size, 1, none⟩ = some y := by
  have hlt : w.heap.size < W.heap.size := by
    rcases Nat.lt_or_ge w.heap.size W.heap.size with h' | h'
    · exact h'
    · have := h.1
      simp [World.cell?, Array.getElem?_eq_none h'] at this
  exact ⟨(hb.cell (p := ⟨w.heap.size, 0, none⟩) hlt).trans h.1, (hb.cell (p := ⟨w.heap.size, 1, none⟩) hlt).trans h.2⟩

set_option maxHeartbeats 2000000 in
theorem int_any (va : Value) (s : Int) (l : List Int) (w : World) (ha : Arg w va s l) :
    Calls Tryd.prog 21 #[va] w fun e w' => e = .returned (.tuple #[.int .i64 (intS s l).1, .bool (intS s l).2]) ∧ RowKit.Below w.heap.size w w' := by
  obtain ⟨va', rfl, hia⟩ := id ha
  obtain ⟨aa, ca, rfl, _⟩ := hia.open
  obtain ⟨_, h1, h2, h3⟩ := hia.shape
  obtain ⟨na, ena⟩ : ∃ n, l.length = n := ⟨_, rfl⟩
  have HROW : Hid (∀ k, k < na → ∃ b o, aa = some ⟨b, o, none⟩ ∧ ∀ O, (w.alloc O).cell? ⟨b, o + k, none⟩ = some (.int .i64 (l.getD k 0))) := by
    intro k hk
    obtain ⟨b, o, e, hlt, hr⟩ := h3 (by omega)
    exact ⟨b, o, e, fun O => ((below_alloc w O).cell (p := ⟨b, o + k, none⟩) hlt).trans (hr k (by omega))⟩
  rw [ena] at ha h1 h2 ⊢
  have HA := Lib.hid ha
  have HL := Lib.hid ena
  clear ha hia h3 ena
  obtain ⟨m, em⟩ : ∃ m : Nat, min na 4 = m := ⟨_, rfl⟩
  have hm : min (na : Int) 4 = (m : Int) := by omega
  have hm4 : m ≤ 4 := by omega
  have hmn : m ≤ na := by omega
  have HM : Hid (m = 4 ∨ m = na) := by unfold Hid; omega
  clear em
  go_enter Tryd.func21, Tryd.ntmps21
  go_wp2_with fail
  go_loop [4, 10] (fun c t => ∃ k : Nat, k ≤ m ∧ t = .int .i64 k ∧ c = .int .i64 (w64 (val (l.take k)))) (fun _ t => m - (intOf t).toNat)
  case atStart => exact ⟨0, Nat.zero_le _, rfl, rfl⟩
  case round =>
    obtain ⟨k, hk, rfl, rfl⟩ := hrel
    obtain ⟨C, eC⟩ : ∃ C, w64 (val (l.take k)) = C := ⟨_, rfl⟩
    have hCb := w64_bd (val (l.take k))
    rw [eC] at hCb ⊢
    have HC := Lib.hid eC
    clear eC
    by_cases hlt : k < m
    · obtain ⟨b, o, rfl, hc⟩ := HROW.out k (by omega)
      obtain ⟨d, ed⟩ : ∃ d, l.getD k 0 = d := ⟨_, rfl⟩
      rw [ed] at hc
      have HD := Lib.hid ed
      clear ed
      have hcases : k = 0 ∨ k = 1 ∨ k = 2 ∨ k = 3 := by omega
      have HK := Lib.hid hcases
      clear hcases
      rcases HK.out with rfl | rfl | rfl | rfl
      · simp only [Nat.add_zero] at hc
        go_wp2_with fail
        go_round
        case rel =>
          exact ⟨1, by omega, by go_num, by rw [w64_step0 HC.out HD.out]⟩
        case measure => simp [intOf]; omega
      · go_wp2_with fail
        go_round
        case rel =>
          exact ⟨2, by omega, by go_num, by rw [w64_step HC.out HD.out (by simp [P])]⟩
        case measure => simp [intOf]; omega
      · go_wp2_with fail
        go_round
        case rel =>
          exact ⟨3, by omega, by go_num, by rw [w64_step HC.out HD.out (by simp [P])]⟩
        case measure => simp [intOf]; omega
      · go_wp2_with fail
        go_round
        case rel =>
          exact ⟨4, by omega, by go_num, by rw [w64_step HC.out HD.out (by simp [P])]⟩
        case measure => simp [intOf]; omega
    · obtain rfl : k = m := by omega
      obtain ⟨N, eN⟩ : ∃ N, RowKit.wrap64 (C * s) = N := ⟨_, rfl⟩
      have hNe : N = w64 (w64 (val (l.take 4)) * s) := by
        rw [← eN, w64_wrap, ← HC.out]
        rcases HM.out with h | h
        · rw [h]
        · rw [List.take_of_length_le (by rw [HL.out]; omega), List.take_of_length_le (by rw [HL.out]; omega)]
      have hN1 : -9223372036854775808 ≤ N ∧ N ≤ 9223372036854775807 := by rw [hNe]; exact w64_bd _
      have hback := int_back hNe
      obtain ⟨bb, ebb⟩ : ∃ bb : Bool, decide (N.sign = s ∧ digs N.natAbs = l) = bb := ⟨_, rfl⟩
      have hres : intS s l = if bb then (N, true) else (0, false) := by
        rw [← ebb]
        by_cases h : N.sign = s ∧ digs N.natAbs = l
        · rw [hback.1 h]; simp [h]
        · rw [hback.2 h]; simp [h]
      have HSM : Hid (∀ W va vb, Arg W va N.sign (digs N.natAbs) → Arg W vb s l → Calls Tryd.prog 31 #[va, vb] W fun e w' => e = .returned (.bool bb) ∧ RowKit.Below W.heap.size W w') := by
        intro W va vb h1 h2
        have := same_any va vb N.sign s (digs N.natAbs) l W h1 h2
        rwa [ebb] at this
      have HRES := Lib.hid hres
      have hAB : RowKit.Below w.heap.size w (w.alloc (.cells #[.int .i64 s, .slice aa na ca] 24)).drew := (below_alloc w _).drew
      have HAB := Lib.hid hAB
      clear hNe hback ebb hres hAB
      have eN' := eN
      go_wp2_with fail
      clear eN eN'
      have e2 : (w.alloc (.cells #[.int .i64 s, .slice aa na ca] 24)).drew.cell? ⟨w.heap.size, 0, none⟩ = some (.int .i64 s) ∧ (w.alloc (.cells #[.int .i64 s, .slice aa na ca] 24)).drew.cell? ⟨w.heap.size, 1, none⟩ = some (.slice aa na ca) := by
        have h : (w.alloc (.cells #[.int .i64 s, .slice aa na ca] 24)).drew.heap[w.heap.size]? = some (.cells #[.int .i64 s, .slice aa na ca] 24 (0, 0)) := alloc_at w _
        exact ⟨by rw [cell_of_row _ _ _ _ _ _ h]; rfl, by rw [cell_of_row _ _ _ _ _ _ h]; rfl⟩
      have HE2 := Lib.hid e2
      go_region_held3 (fun W => W.cell? ⟨w.heap.size, 0, none⟩ = some (.int .i64 s) ∧ W.cell? ⟨w.heap.size, 1, none⟩ = some (.slice aa na ca))
        (first | (with_reducible exact e2) | (with_reducible exact x3) | (with_reducible exact x4))
        (first
          | (go_at_call 36; (with_reducible refine (of_any N hN1.1 hN1.2 _).mono ?_); rintro e w3 ⟨s3, rfl, hi3, hb3, _⟩; obtain ⟨a3, c3, rfl, hi4⟩ := hi3.open; have x3 := box_later HE2.out hb3; have HX3 := Lib.hid x3; have HI4 := Lib.hid hi4; have HB3 := Lib.hid (HAB.out.trans (hb3.mono (by simp))); clear hi3 hi4 hb3)
          | (go_at_call 31; (with_reducible refine (HSM.out _ _ _ ?_ ?_).mono ?_); (focus exact ⟨_, rfl, HI4.out⟩); (focus exact HA.out.later HB3.out); rintro e w4 ⟨rfl, hb4⟩; have x4 := box_keep HX3.out hb4 HB3.out; have HB4 := Lib.hid (HB3.out.trans (hb4.mono HB3.out.size)); clear hb4))
      cases bb <;>
      · go_wp2_with fail
        go_ret2
        rw [HRES.out]
        exact ⟨rfl, HB4.out⟩
end Go.Proofs.YtpcagodnlbdclaaDoor.Bi
