/- The contracts of both functions Print. -/
import Derived.Test.YtagkdhcclkbjgaaDoorLe16
set_option maxRecDepth 100000
namespace Go.Proofs.YtagkdhcclkbjgaaDoor.Le
open Go.RowKit

def encK (x : Tk) : List UInt8 := if x.kind = 2 then quo x.text.data.toList else x.text.data.toList
def printK : List Tk → List UInt8
  | [] => []
  | x :: L => encK x ++ L.flatMap fun y => 32 :: encK y
theorem printK_snoc (L : List Tk) (x : Tk) : printK (L ++ [x]) = printK L ++ (if L.length = 0 then [] else [32]) ++ encK x := by
  cases L with
  | nil => simp [printK]
  | cons y L => simp [printK]
theorem encK_tk (x : Tok) : encK x.tk = enc x.kind x.text := by
  unfold encK enc Tok.tk; rfl
theorem printK_tk (L : List Tok) : printK (L.map Tok.tk) = printL L := by
  cases L with
  | nil => rfl
  | cons x L =>
    simp only [List.map_cons, printK, printL, withB, encK_tk]
    congr 1
    rw [List.flatMap_map]
    simp only [encK_tk]
/-- Tokens whose texts are not long. -/
def FewT (L : List Tk) : Prop := L.length ≤ 4000 ∧ ∀ x ∈ L, x.text.size ≤ 2000
theorem encK_le {x : Tk} (h : x.text.size ≤ 2000) : (encK x).length ≤ 4002 := by
  unfold encK
  split
  · rw [quo_len]; have := esc_le x.text.data.toList; rw [sizeB] at this; omega
  · rw [sizeB]; omega
theorem printK_le : ∀ (L : List Tk), (∀ x ∈ L, x.text.size ≤ 2000) → (printK L).length ≤ 4003 * L.length
  | [], _ => by simp [printK]
  | x :: L, h => by
    have h1 := encK_le (h x (by simp))
    have h2 : ∀ M : List Tk, (∀ x ∈ M, x.text.size ≤ 2000) → (M.flatMap fun y => 32 :: encK y).length ≤ 4003 * M.length := by
      intro M
      induction M with
      | nil => intro _; simp
      | cons y M ih =>
        intro hM
        have h3 := encK_le (hM y (by simp))
        have h4 := ih (fun z hz => hM z (by simp [hz]))
        simp only [List.flatMap_cons, List.length_append, List.length_cons]; omega
    have h5 := h2 L (fun z hz => h z (by simp [hz]))
    simp only [printK, List.length_append, List.length_cons]; omega

theorem wbk_any (w : World) (b : Nat) (l : List UInt8) (c : UInt8) (wr : World) (h : BuildAt w b l wr) (hl : l.length ≤ 100000000) :
    Calls Tryd.prog 39 #[.pointer (some ⟨b, 0, none⟩), .int .u8 c.toNat] wr fun e w' => e = .returned .nilIface ∧ BuildAt w b (l ++ [c]) w' ∧ Lib.OthersKept 5 (some b) wr w' := by
  refine (writeByte_k w.heap.size b _ _ wr h.1 (by rw [Lib.byteCells_length]; omega) h.2.size).mono ?_
  rintro e w' ⟨rfl, h1, h2, h3⟩
  exact ⟨rfl, ⟨Or.inr (by rw [Lib.byteCells_append]; exact h1), h.2.trans h2⟩, h3⟩
theorem wsk_any (w : World) (b : Nat) (l : List UInt8) (s : ByteArray) (wr : World) (h : BuildAt w b l wr) (hl : l.length ≤ 100000000) (hs : s.size ≤ 100000000) :
    Calls Tryd.prog 40 #[.pointer (some ⟨b, 0, none⟩), .string s] wr fun e w' => e = .returned (.tuple #[.int .i64 s.size, .nilIface]) ∧ BuildAt w b (l ++ s.data.toList) w' ∧ Lib.OthersKept 5 (some b) wr w' := by
  refine (writeString_k w.heap.size b _ _ wr h.1 (by rw [Lib.byteCells_length]; omega) h.2.size).mono ?_
  rintro e w' ⟨rfl, h1, h2, h3⟩
  exact ⟨rfl, ⟨Or.inr (by rw [Lib.byteCells_append]; exact h1), h.2.trans h2⟩, h3⟩
theorem IsT.kept {b : Nat} {k : Int} {t : ByteArray} {n p : Int} {w w' : World} {g : Nat} (h : IsT b k t n p w) (hk : Lib.OthersKept 5 (some g) w w') (hne : b ≠ g) : IsT b k t n p w' :=
  hk b _ h (fun e => hne (Option.some.inj e)) (fun c fz e => by injection e with _ e2; exact absurd e2 (by decide))
/-- The cells of one of the tokens. -/
theorem TCells.at {w : World} {a : Option Addr} {L : List Tk} (h : TCells w a L) (i : Nat) (hi : i < L.length) : ∃ b off, a = some ⟨b, off, none⟩ ∧ w.cell? ⟨b, off + i * 4, none⟩ = some (.int .i64 L[i].kind) ∧ w.cell? ⟨b, off + i * 4 + 1, none⟩ = some (.string L[i].text) ∧ w.cell? ⟨b, off + i * 4 + 2, none⟩ = some (.int .i64 L[i].n) ∧ w.cell? ⟨b, off + i * 4 + 3, none⟩ = some (.int .i64 L[i].pos) := by
  rcases h with h | ⟨b, off, h1, h2⟩
  · rw [h] at hi; simp at hi
  · exact ⟨b, off, h1, h2 i hi 0 _ rfl, h2 i hi 1 _ rfl, h2 i hi 2 _ rfl, h2 i hi 3 _ rfl⟩
theorem take_snocT (L : List Tk) (k : Nat) (h : k < L.length) : L.take (k + 1) = L.take k ++ [L[k]] := List.take_succ_eq_append_getElem h

set_option maxHeartbeats 4000000 in
theorem print_any (a : Option Addr) (cap : Nat) (L : List Tk) (hL : FewT L) (w : World) (hT : TCells w a L) : Calls Tryd.prog 20 #[.slice a L.length cap] w (Gives (.string ⟨(printK L).toArray⟩) w) := by
  have HT := Lib.hid hT
  have HF := Lib.hid hL
  have hn4 := hL.1
  obtain ⟨N, hN⟩ : ∃ N, L.length = N := ⟨_, rfl⟩
  have HN := Lib.hid hN
  rw [hN] at hn4 ⊢
  clear hT hL hN
  go_enter Tryd.func20, Tryd.ntmps20
  go_wp2_with fail
  go_loopw [8] (fun i wr => ∃ k : Nat, k ≤ N ∧ i = .int .i64 k ∧ BuildAt w w.heap.size (printK (L.take k)) wr) (fun i _ => N - (intOf i).toNat)
  case atStart => exact ⟨0, by omega, rfl, BuildAt.fresh w⟩
  case round =>
    obtain ⟨k, hk, rfl, hb⟩ := hrel
    have HB := Lib.hid hb
    clear hb
    have hpl : (printK (L.take k)).length ≤ 16020000 := by
      have := printK_le (L.take k) (fun x hx => HF.out.2 x (List.mem_of_mem_take hx))
      rw [List.length_take] at this; omega
    have HPL := Lib.hid hpl
    clear hpl
    by_cases hlt : k < N
    · have hkL : k < L.length := by rw [HN.out]; exact hlt
      obtain ⟨b, off, rfl, c0, c1, c2, c3⟩ := (HT.out.later HB.out.2).at k hkL
      have HSN := Lib.hid (take_snocT L k hkL)
      have hxs := HF.out.2 L[k] (List.getElem_mem _)
      obtain ⟨x, hx⟩ : ∃ x, L[k]'hkL = x := ⟨_, rfl⟩
      rw [hx] at c0 c1 c2 c3 HSN hxs
      obtain ⟨xk, xt, xn, xp⟩ := x
      simp only at c0 c1 c2 c3 hxs
      have HSNK : Hid (printK (L.take (k + 1)) = printK (L.take k) ++ (if k = 0 then [] else [32]) ++ encK ⟨xk, xt, xn, xp⟩) := Lib.hid (by
        rw [HSN.out, printK_snoc, List.length_take, Nat.min_eq_left (by omega)])
      clear hx HSN hkL
      have HB1 := Lib.hid (HB.out.later (below_box wr (.cells #[.int .i64 xk, .string xt, .int .i64 xn, .int .i64 xp] 25)))
      have HI1 := Lib.hid (IsT.fresh wr xk xt xn xp)
      have hne : wr.heap.size ≠ w.heap.size := by
        have h1 : w.heap.size < wr.heap.size := by
          rcases HB.out.1 with h | h <;> exact h.lt
        omega
      have HNE := Lib.hid hne
      clear hne
      have hekk : encK ⟨xk, xt, xn, xp⟩ = if xk = 2 then quo xt.data.toList else xt.data.toList := rfl
      by_cases h0 : k = 0
      · have hk0 : decide (0 < (k : Int)) = false := by simp; omega
        have hk1 : ¬ 0 < k := by omega
        have HIF : Hid ((if k = 0 then ([] : List UInt8) else [32]) = []) := Lib.hid (if_pos h0)
        clear h0
        by_cases h2 : xk = 2
        · have HEK : Hid (encK ⟨xk, xt, xn, xp⟩ = quo xt.data.toList) := Lib.hid (by rw [hekk, if_pos h2])
          have t2 : (xk == 2) = true := by simpa using h2
          clear h2 hekk
          go_wp2_with fail
          obtain ⟨r0, r1, r2, r3⟩ := HI1.out.cells
          with_reducible refine (quoted_any xt (by omega) _).mono ?_
          rintro e w3 ⟨rfl, hb⟩
          have HB3 := Lib.hid (HB1.out.later hb)
          clear hb r0 r1 r2 r3
          go_wp2_with fail
          with_reducible refine (wsk_any w _ _ _ _ HB3.out (by have := HPL.out; omega) (by have := esc_le xt.data.toList; rw [sizeB] at this; rw [← sizeB]; show (quo xt.data.toList).length ≤ _; rw [quo_len]; omega)).mono ?_
          rintro e w4 ⟨rfl, hb, _⟩
          have HB4 := Lib.hid hb
          clear hb
          go_wp2_with fail
          go_roundw
          case rel => exact ⟨k + 1, by omega, by go_num, by rw [HSNK.out, HIF.out, HEK.out]; simpa using HB4.out⟩
          case measure => simp [intOf]; omega
        · have HEK : Hid (encK ⟨xk, xt, xn, xp⟩ = xt.data.toList) := Lib.hid (by rw [hekk, if_neg h2])
          have t2 : (xk == 2) = false := by simpa using h2
          clear h2 hekk
          go_wp2_with fail
          obtain ⟨r0, r1, r2, r3⟩ := HI1.out.cells
          with_reducible refine (wsk_any w _ _ xt _ HB1.out (by have := HPL.out; omega) (by omega)).mono ?_
          rintro e w4 ⟨rfl, hb, _⟩
          have HB4 := Lib.hid hb
          clear hb
          clear r0 r1 r2 r3
          go_wp2_with fail
          go_roundw
          case rel => exact ⟨k + 1, by omega, by go_num, by rw [HSNK.out, HIF.out, HEK.out]; simpa using HB4.out⟩
          case measure => simp [intOf]; omega
      · have hk0 : decide (0 < (k : Int)) = true := by simp; omega
        have hk1 : 0 < k := by omega
        have HIF : Hid ((if k = 0 then ([] : List UInt8) else [32]) = [32]) := Lib.hid (if_neg h0)
        clear h0
        by_cases h2 : xk = 2
        · have HEK : Hid (encK ⟨xk, xt, xn, xp⟩ = quo xt.data.toList) := Lib.hid (by rw [hekk, if_pos h2])
          have t2 : (xk == 2) = true := by simpa using h2
          clear h2 hekk
          go_wp2_with fail
          refine (wbk_any w _ _ 32 _ HB1.out (by have := HPL.out; omega)).mono ?_
          rintro e w2 ⟨rfl, hb, hkp⟩
          have HB2 := Lib.hid hb
          have HI2 := Lib.hid (HI1.out.kept hkp HNE.out)
          clear hb hkp
          obtain ⟨r0, r1, r2, r3⟩ := HI2.out.cells
          go_wp2_with fail
          with_reducible refine (quoted_any xt (by omega) _).mono ?_
          rintro e w3 ⟨rfl, hb⟩
          have HB3 := Lib.hid (HB2.out.later hb)
          clear hb r0 r1 r2 r3
          go_wp2_with fail
          with_reducible refine (wsk_any w _ _ _ _ HB3.out (by have := HPL.out; simp; omega) (by have := esc_le xt.data.toList; rw [sizeB] at this; rw [← sizeB]; show (quo xt.data.toList).length ≤ _; rw [quo_len]; omega)).mono ?_
          rintro e w4 ⟨rfl, hb, _⟩
          have HB4 := Lib.hid hb
          clear hb
          go_wp2_with fail
          go_roundw
          case rel => exact ⟨k + 1, by omega, by go_num, by rw [HSNK.out, HIF.out, HEK.out]; simpa using HB4.out⟩
          case measure => simp [intOf]; omega
        · have HEK : Hid (encK ⟨xk, xt, xn, xp⟩ = xt.data.toList) := Lib.hid (by rw [hekk, if_neg h2])
          have t2 : (xk == 2) = false := by simpa using h2
          clear h2 hekk
          go_wp2_with fail
          refine (wbk_any w _ _ 32 _ HB1.out (by have := HPL.out; omega)).mono ?_
          rintro e w2 ⟨rfl, hb, hkp⟩
          have HB2 := Lib.hid hb
          have HI2 := Lib.hid (HI1.out.kept hkp HNE.out)
          clear hb hkp
          obtain ⟨r0, r1, r2, r3⟩ := HI2.out.cells
          go_wp2_with fail
          with_reducible refine (wsk_any w _ _ xt _ HB2.out (by have := HPL.out; simp; omega) (by omega)).mono ?_
          rintro e w4 ⟨rfl, hb, _⟩
          have HB4 := Lib.hid hb
          clear hb
          clear r0 r1 r2 r3
          go_wp2_with fail
          go_roundw
          case rel => exact ⟨k + 1, by omega, by go_num, by rw [HSNK.out, HIF.out, HEK.out]; simpa using HB4.out⟩
          case measure => simp [intOf]; omega
    · have HE : Hid (printK (L.take k) = printK L) := Lib.hid (by rw [List.take_of_length_le (by rw [HN.out]; omega)])
      go_wp2_with fail
      refine (str_any w _ _ _ HB.out).mono ?_
      rintro e w2 ⟨rfl, hb⟩
      rw [HE.out]
      go_wp2_with fail
      go_ret
      exact ⟨rfl, hb⟩

set_option maxHeartbeats 4000000 in
theorem rprint_any (a : Option Addr) (cap : Nat) (L : List Tk) (hL : FewT L) (w : World) (hT : TCells w a L) : Calls Tryd.prog 21 #[.slice a L.length cap] w fun e w' => e = .returned (.string ⟨(printK L).toArray⟩) ∧ w' = w := by
  have HT := Lib.hid hT
  have HF := Lib.hid hL
  have hn4 := hL.1
  obtain ⟨N, hN⟩ : ∃ N, L.length = N := ⟨_, rfl⟩
  have HN := Lib.hid hN
  rw [hN] at hn4 ⊢
  clear hT hL hN
  go_enter Tryd.func21, Tryd.ntmps21
  go_wp2_with fail
  go_loop [3, 4] (fun t i => ∃ (k : Nat) (B : ByteArray), k ≤ N ∧ i = .int .i64 k ∧ t = .string B ∧ B.data.toList = printK (L.take k)) (fun _ i => N - (intOf i).toNat)
  case atStart => exact ⟨0, _, by omega, rfl, rfl, rfl⟩
  case round =>
    obtain ⟨k, B, hk, rfl, rfl, hB⟩ := hrel
    have HB := Lib.hid hB
    have hpl : B.size ≤ 16020000 := by
      have := printK_le (L.take k) (fun x hx => HF.out.2 x (List.mem_of_mem_take hx))
      rw [List.length_take, ← hB, sizeB] at this; omega
    clear hB
    by_cases hlt : k < N
    · have hkL : k < L.length := by rw [HN.out]; exact hlt
      obtain ⟨b, off, rfl, c0, c1, c2, c3⟩ := HT.out.at k hkL
      have HSN := Lib.hid (take_snocT L k hkL)
      have hxs := HF.out.2 L[k] (List.getElem_mem _)
      obtain ⟨x, hx⟩ : ∃ x, L[k]'hkL = x := ⟨_, rfl⟩
      rw [hx] at c0 c1 c2 c3 HSN hxs
      obtain ⟨xk, xt, xn, xp⟩ := x
      simp only at c0 c1 c2 c3 hxs
      have HSNK : Hid (printK (L.take (k + 1)) = printK (L.take k) ++ (if k = 0 then [] else [32]) ++ encK ⟨xk, xt, xn, xp⟩) := Lib.hid (by
        rw [HSN.out, printK_snoc, List.length_take, Nat.min_eq_left (by omega)])
      clear hx HSN hkL
      have hekk : encK ⟨xk, xt, xn, xp⟩ = if xk = 2 then quo xt.data.toList else xt.data.toList := rfl
      have hqs : (⟨(quo xt.data.toList).toArray⟩ : ByteArray).size ≤ 4002 := by
        have := esc_le xt.data.toList; rw [sizeB] at this; rw [← sizeB]; show (quo xt.data.toList).length ≤ _; rw [quo_len]; omega
      have hcat32 := add_run (a := B) (b := ⟨#[32]⟩) (by show B.size + 1 ≤ _; omega)
      have hcatq := add_run (a := B) (b := ⟨(quo xt.data.toList).toArray⟩) (by omega)
      have hcatq2 := add_run (a := B ++ ⟨#[32]⟩) (b := ⟨(quo xt.data.toList).toArray⟩) (by rw [catS]; show B.size + 1 + _ ≤ _; omega)
      have hcatt := add_run (a := B) (b := xt) (by omega)
      have hcatt2 := add_run (a := B ++ ⟨#[32]⟩) (b := xt) (by rw [catS]; show B.size + 1 + _ ≤ _; omega)
      have HQ := Lib.hid (escaped_any xt (by omega))
      clear hqs
      by_cases h0 : k = 0
      · have hk0 : decide (0 < (k : Int)) = false := by simp; omega
        have hk1 : ¬ 0 < k := by omega
        have HIF : Hid ((if k = 0 then ([] : List UInt8) else [32]) = []) := Lib.hid (if_pos h0)
        clear h0
        by_cases h2 : xk = 2
        · have HEK : Hid (encK ⟨xk, xt, xn, xp⟩ = quo xt.data.toList) := Lib.hid (by rw [hekk, if_pos h2])
          have t2 : (xk == 2) = true := by simpa using h2
          clear h2 hekk hcat32 hcatq2 hcatt hcatt2
          go_wp2_with fail
          with_reducible refine (HQ.out _).mono ?_
          rintro e w3 ⟨rfl, rfl⟩
          go_wp2_with fail
          go_round
          case rel => exact ⟨k + 1, _, by omega, by go_num, rfl, by rw [HSNK.out, HIF.out, HEK.out, catB, HB.out]; simp⟩
          case measure => simp [intOf]; omega
        · have HEK : Hid (encK ⟨xk, xt, xn, xp⟩ = xt.data.toList) := Lib.hid (by rw [hekk, if_neg h2])
          have t2 : (xk == 2) = false := by simpa using h2
          clear h2 hekk hcat32 hcatq hcatq2 hcatt2
          go_wp2_with fail
          go_round
          case rel => exact ⟨k + 1, _, by omega, by go_num, rfl, by rw [HSNK.out, HIF.out, HEK.out, catB, HB.out]; simp⟩
          case measure => simp [intOf]; omega
      · have hk0 : decide (0 < (k : Int)) = true := by simp; omega
        have hk1 : 0 < k := by omega
        have HIF : Hid ((if k = 0 then ([] : List UInt8) else [32]) = [32]) := Lib.hid (if_neg h0)
        clear h0
        by_cases h2 : xk = 2
        · have HEK : Hid (encK ⟨xk, xt, xn, xp⟩ = quo xt.data.toList) := Lib.hid (by rw [hekk, if_pos h2])
          have t2 : (xk == 2) = true := by simpa using h2
          clear h2 hekk hcatq hcatt hcatt2
          go_wp2_with fail
          with_reducible refine (HQ.out _).mono ?_
          rintro e w3 ⟨rfl, rfl⟩
          go_wp2_with fail
          go_round
          case rel => exact ⟨k + 1, _, by omega, by go_num, rfl, by rw [HSNK.out, HIF.out, HEK.out, catB, catB, HB.out]⟩
          case measure => simp [intOf]; omega
        · have HEK : Hid (encK ⟨xk, xt, xn, xp⟩ = xt.data.toList) := Lib.hid (by rw [hekk, if_neg h2])
          have t2 : (xk == 2) = false := by simpa using h2
          clear h2 hekk hcatq hcatq2 hcatt
          go_wp2_with fail
          go_round
          case rel => exact ⟨k + 1, _, by omega, by go_num, rfl, by rw [HSNK.out, HIF.out, HEK.out, catB, catB, HB.out]⟩
          case measure => simp [intOf]; omega
    · have HE : Hid (B = ⟨(printK L).toArray⟩) := Lib.hid (ofList (by rw [HB.out, List.take_of_length_le (by rw [HN.out]; omega)]))
      go_wp2_with fail
      go_ret
      exact ⟨ret_str HE.out, rfl⟩
end Go.Proofs.YtagkdhcclkbjgaaDoor.Le
