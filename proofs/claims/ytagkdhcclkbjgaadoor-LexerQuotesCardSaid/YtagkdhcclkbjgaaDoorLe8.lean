/- The contracts of Name of the reference, and of both functions Number. -/
import Derived.Test.YtagkdhcclkbjgaaDoorLe7
import Derived.Test.YtagkdhcclkbjgaaDoorLeB
import Derived.Test.YtagkdhcclkbjgaaDoorWi1
set_option maxRecDepth 100000
namespace Go.Proofs.YtagkdhcclkbjgaaDoor.Le
open Go.RowKit

set_option maxHeartbeats 2000000 in
theorem rname_any (s : ByteArray) (hs : s.size ≤ 9223372036854775807) (w : World) : Calls Tryd.prog 19 #[.string s] w fun e w' => e = .returned (.bool (nameOk s.data.toList)) ∧ w' = w := by
  by_cases h0 : s.size = 0
  · have h1 := nil_of_size h0
    have hb : nameOk s.data.toList = false := by rw [h1]; rfl
    have h0' : decide ((s.size : Int) < 1) = true := by simp; omega
    rw [hb]
    clear h1 hb h0
    go_enter Tryd.func19, Tryd.ntmps19
    go_wp2_with fail
    go_ret
    exact ⟨rfl, rfl⟩
  · have hpos : 0 < s.size := by omega
    have h0' : decide ((s.size : Int) < 1) = false := by simp; omega
    have heq := nameOk_eq s hpos
    by_cases h20 : s.size ≤ 20
    · have h20' : decide (20 < (s.size : Int)) = false := by simp; omega
      have hlt := letter_any s[0]
      rcases hl : letB s[0] with _ | _
      · rw [hl] at hlt heq
        have HL := Lib.hid hlt
        have HE := Lib.hid heq
        clear hlt heq h0 hl
        go_enter Tryd.func19, Tryd.ntmps19
        go_wp2_with fail
        refine (HL.out _).mono ?_
        rintro e w1 ⟨rfl, rfl⟩
        go_wp2_with fail
        go_ret
        exact ⟨by rw [HE.out]; rfl, rfl⟩
      · rw [hl] at hlt heq
        have HL := Lib.hid hlt
        have hall := all_eq s hpos hl
        have HE : Hid (nameOk s.data.toList = s.data.toList.all nameB) := Lib.hid (by
          rw [heq, hall]
          have : decide ((s.data.toList.drop 1).length ≤ 19) = true := by rw [List.length_drop, sizeB]; simp; omega
          rw [this]; simp)
        have H1 : Hid ((s.data.toList.take 1).all nameB = true) := Lib.hid (by
          have e := dropB s 0 hpos
          rw [List.drop_zero] at e
          rw [e, List.take_succ_cons, List.take_zero, List.all_cons, letB_name hl]; rfl)
        clear hlt heq h0 hl hall
        go_enter Tryd.func19, Tryd.ntmps19
        go_wp2_with fail
        refine (HL.out _).mono ?_
        rintro e w1 ⟨rfl, rfl⟩
        go_wp2_with fail
        go_loop [3] (fun i => ∃ k : Nat, 1 ≤ k ∧ k ≤ s.size ∧ i = .int .i64 k ∧ (s.data.toList.take k).all nameB = true) (fun i => s.size - (intOf i).toNat)
        case atStart => exact ⟨1, by omega, by omega, rfl, H1.out⟩
        case round =>
          obtain ⟨k, hk1, hk, rfl, hall⟩ := hrel
          have HA := Lib.hid hall
          clear hall
          by_cases hlt : k < s.size
          · obtain ⟨x, hx⟩ : ∃ x, s[k] = x := ⟨_, rfl⟩
            have HX := Lib.hid hx
            have hc1 := letter_any x
            have hc2 := digit_any x
            rcases h1 : letB x with _ | _
            · rw [h1] at hc1
              rcases h2 : digB x with _ | _
              · rw [h2] at hc2
                by_cases h3 : x.toNat = 95
                · have hp : nameB x = true := by simp [nameB, h3]
                  have t3 : ((x.toNat : Int) != 95) = false := by simp; omega
                  have t3' : ((x.toNat : Int) == 95) = true := by simp; omega
                  have HP := Lib.hid hp
                  have HC1 := Lib.hid hc1
                  have HC2 := Lib.hid hc2
                  clear h1 h2 h3 hp hc1 hc2
                  go_wp2_with fail
                  refine (HC1.out _).mono ?_
                  rintro e w1 ⟨rfl, rfl⟩
                  go_wp2_with fail
                  refine (HC2.out _).mono ?_
                  rintro e w1 ⟨rfl, rfl⟩
                  go_wp2_with fail
                  go_round
                  case rel => exact ⟨k + 1, by omega, by omega, by go_num, all_snoc _ k (by rw [sizeB]; exact hlt) HA.out (by rw [getB s k hlt, HX.out]; exact HP.out)⟩
                  case measure => simp [intOf]; omega
                · have hp : nameB x = false := by simp [nameB, h1, h2, h3]
                  have t3 : ((x.toNat : Int) != 95) = true := by simp; omega
                  have t3' : ((x.toNat : Int) == 95) = false := by simp; omega
                  have HN : Hid (nameOk s.data.toList = false) := Lib.hid (by rw [HE.out]; exact not_all _ k (by rw [sizeB]; exact hlt) (by rw [getB s k hlt, HX.out]; exact hp))
                  have HC1 := Lib.hid hc1
                  have HC2 := Lib.hid hc2
                  clear h1 h2 h3 hp hc1 hc2
                  go_wp2_with fail
                  refine (HC1.out _).mono ?_
                  rintro e w1 ⟨rfl, rfl⟩
                  go_wp2_with fail
                  refine (HC2.out _).mono ?_
                  rintro e w1 ⟨rfl, rfl⟩
                  go_wp2_with fail
                  go_ret
                  exact ⟨by rw [HN.out]; rfl, rfl⟩
              · rw [h2] at hc2
                have HP : Hid (nameB x = true) := Lib.hid (by simp [nameB, h2])
                have HC1 := Lib.hid hc1
                have HC2 := Lib.hid hc2
                clear h1 h2 hc1 hc2
                go_wp2_with fail
                refine (HC1.out _).mono ?_
                rintro e w1 ⟨rfl, rfl⟩
                go_wp2_with fail
                refine (HC2.out _).mono ?_
                rintro e w1 ⟨rfl, rfl⟩
                go_wp2_with fail
                go_round
                case rel => exact ⟨k + 1, by omega, by omega, by go_num, all_snoc _ k (by rw [sizeB]; exact hlt) HA.out (by rw [getB s k hlt, HX.out]; exact HP.out)⟩
                case measure => simp [intOf]; omega
            · rw [h1] at hc1
              have HP : Hid (nameB x = true) := Lib.hid (letB_name h1)
              have HC1 := Lib.hid hc1
              clear h1 hc1 hc2
              go_wp2_with fail
              refine (HC1.out _).mono ?_
              rintro e w1 ⟨rfl, rfl⟩
              go_wp2_with fail
              go_round
              case rel => exact ⟨k + 1, by omega, by omega, by go_num, all_snoc _ k (by rw [sizeB]; exact hlt) HA.out (by rw [getB s k hlt, HX.out]; exact HP.out)⟩
              case measure => simp [intOf]; omega
          · have HN : Hid (nameOk s.data.toList = true) := Lib.hid (by rw [HE.out]; have := HA.out; rwa [List.take_of_length_le (by rw [sizeB]; omega)] at this)
            go_wp2_with fail
            go_ret
            exact ⟨by rw [HN.out]; rfl, rfl⟩
    · have h20' : decide (20 < (s.size : Int)) = true := by simp; omega
      have hb : nameOk s.data.toList = false := by
        rw [heq]
        have : decide ((s.data.toList.drop 1).length ≤ 19) = false := by rw [List.length_drop, sizeB]; simp; omega
        rw [this]; simp
      rw [hb]
      clear hb heq h0
      go_enter Tryd.func19, Tryd.ntmps19
      go_wp2_with fail
      go_ret
      exact ⟨rfl, rfl⟩

/-! numbers -/
theorem fold_ge (l : List UInt8) : ∀ a, a ≤ l.foldl (fun a c => 10 * a + (c.toNat - 48)) a := by
  induction l with
  | nil => intro a; exact Nat.le_refl _
  | cons c l ih => intro a; have := ih (10 * a + (c.toNat - 48)); simp only [List.foldl_cons] at *; omega
theorem val10_app (l m : List UInt8) : val10 l ≤ val10 (l ++ m) := by
  unfold val10; rw [List.foldl_append]; exact fold_ge _ _
theorem val10_take (l : List UInt8) (k : Nat) : val10 (l.take k) ≤ val10 l := by
  conv => rhs; rw [← List.take_append_drop k l]
  exact val10_app _ _
theorem val10_step (l : List UInt8) (k : Nat) (h : k < l.length) : val10 (l.take (k + 1)) = 10 * val10 (l.take k) + (l[k].toNat - 48) := by
  rw [List.take_succ_eq_append_getElem h, val10_snoc]
theorem digB_of {c : UInt8} (h : digB c = true) : 48 ≤ c.toNat ∧ c.toNat ≤ 57 := by simpa [digB] using h
theorem val10_pos {c : UInt8} {r : List UInt8} (h : digB c = true) (hc : c ≠ 48) : 0 < val10 (c :: r) := by
  have h1 := digB_of h
  have h2 : c.toNat ≠ 48 := fun e => hc (by rw [← UInt8.toNat_inj]; exact e)
  have := fold_ge r (10 * 0 + (c.toNat - 48))
  show 0 < r.foldl _ (10 * 0 + (c.toNat - 48))
  omega
theorem dec_small {u : Nat} (h : u < 10) : Lib.decDigits u = [UInt8.ofNat (48 + u)] := by rw [Lib.decDigits, dif_pos h]
theorem dec_big {u : Nat} (h : ¬ u < 10) : Lib.decDigits u = Lib.decDigits (u / 10) ++ [UInt8.ofNat (48 + u % 10)] := by rw [Lib.decDigits, dif_neg h]
theorem dec_val10 : ∀ (n : Nat) (l : List UInt8), l.length = n + 1 → l.all digB = true → (l.length = 1 ∨ l.head? ≠ some 48) → Lib.decDigits (val10 l) = l := by
  intro n
  induction n with
  | zero =>
    intro l hl ha _
    match l, hl with
    | [c], _ =>
      have hc := digB_of (by simpa using ha : digB c = true)
      have e : val10 [c] = c.toNat - 48 := by simp [val10]
      rw [e, dec_small (by omega)]
      congr 1
      rw [← UInt8.toNat_inj, UInt8.toNat_ofNat']; omega
  | succ n ih =>
    intro l hl ha hh
    obtain ⟨m, c, rfl⟩ : ∃ m c, l = m ++ [c] := by
      rcases List.eq_nil_or_concat l with rfl | ⟨m, c, rfl⟩
      · simp at hl
      · exact ⟨m, c, by simp⟩
    have hm : m.length = n + 1 := by simp at hl; omega
    rw [List.all_append, Bool.and_eq_true] at ha
    have hc := digB_of (by simpa using ha.2 : digB c = true)
    have hne : (m ++ [c]).head? ≠ some 48 := hh.resolve_left (by omega)
    have hd : m.head? ≠ some 48 := by
      match m, hm with
      | a :: m, _ => simpa using hne
    have hpos : 0 < val10 m := by
      match m, hm with
      | a :: m, _ => exact val10_pos (by have := ha.1; simp at this; exact this.1) (by simpa using hd)
    rw [val10_snoc, dec_big (by omega), show (10 * val10 m + (c.toNat - 48)) / 10 = val10 m by omega, show (10 * val10 m + (c.toNat - 48)) % 10 = c.toNat - 48 by omega, ih m hm ha.1 (.inr hd)]
    congr 2
    rw [← UInt8.toNat_inj, UInt8.toNat_ofNat']; omega
theorem dec_head (u : Nat) : 0 < u → (Lib.decDigits u).head? ≠ some 48 := by
  induction u using Nat.strongRecOn with
  | _ u ih =>
    intro h
    by_cases h1 : u < 10
    · rw [dec_small h1]
      intro e
      have := congrArg UInt8.toNat (Option.some.inj e)
      rw [UInt8.toNat_ofNat'] at this
      simp at this; omega
    · rw [dec_big h1]
      have h2 := ih (u / 10) (by omega) (by omega)
      have hne := dec_ne (u / 10)
      match hd : Lib.decDigits (u / 10), hne with
      | a :: r, _ => rw [hd] at h2; simpa using h2
theorem numL_none_dig {l : List UInt8} (h : l.all digB = false) : numL l = none := by
  unfold numL
  rw [if_neg]
  intro hh
  have := dec_all (val10 l)
  rw [← hh.1, h] at this; cases this
theorem numL_none_max {l : List UInt8} (h : 1099511627776 < val10 l) : numL l = none := by
  unfold numL; rw [if_neg (fun hh => by omega)]
theorem numL_none_nil : numL [] = none := by
  unfold numL; rw [if_neg]; intro hh; exact dec_ne _ hh.1.symm
theorem numL_none_zero {r : List UInt8} (h : 0 < r.length) : numL (48 :: r) = none := by
  unfold numL
  rw [if_neg]
  intro hh
  rcases Nat.eq_zero_or_pos (val10 (48 :: r)) with e | e
  · have h1 := hh.1
    rw [e, dec_small (by omega)] at h1
    simp at h1; rw [h1] at h; simp at h
  · exact dec_head _ e (by rw [← hh.1]; rfl)
theorem numL_of {l : List UInt8} (h0 : 0 < l.length) (h1 : l.all digB = true) (h2 : l.length = 1 ∨ l.head? ≠ some 48) (h3 : val10 l ≤ 1099511627776) : numL l = some (val10 l) := by
  unfold numL; rw [if_pos ⟨(dec_val10 (l.length - 1) l (by omega) h1 h2).symm, h3⟩]

/-- What Number returns. -/
def numV (l : List UInt8) : Value := match numL l with
  | some u => .tuple #[.int .i64 (u : Int), .bool true]
  | none => .tuple #[.int .i64 0, .bool false]
theorem ret_num {a : Int} {b : Bool} {v : Value} (h : .tuple #[.int .i64 a, .bool b] = v) : Ending.returned (.tuple #[.int .i64 a, .bool b]) = .returned v := by rw [h]

set_option maxHeartbeats 2000000 in
theorem rnumber_any (s : ByteArray) (hs : s.size ≤ 9223372036854775807) (w : World) : Calls Tryd.prog 14 #[.string s] w fun e w' => e = .returned (numV s.data.toList) ∧ w' = w := by
  go_enter Tryd.func14, Tryd.ntmps14
  go_wp2_with fail
  go_loop [4, 5] (fun n i => ∃ k v : Nat, k ≤ s.size ∧ i = .int .i64 k ∧ n = .int .i64 v ∧ v ≤ 10995116277769 ∧ v = val10 (s.data.toList.take k) ∧ (s.data.toList.take k).all digB = true) (fun _ i => s.size - (intOf i).toNat)
  case atStart => exact ⟨0, 0, by omega, rfl, rfl, by omega, rfl, rfl⟩
  case round =>
    obtain ⟨k, v, hk, rfl, rfl, hv, hval, hall⟩ := hrel
    have HA := Lib.hid hall
    have HV := Lib.hid hval
    clear hall hval
    by_cases hlt : k < s.size
    · obtain ⟨x, hx⟩ : ∃ x, s[k] = x := ⟨_, rfl⟩
      have HX := Lib.hid hx
      have hc := digit_any x
      rcases h1 : digB x with _ | _
      · rw [h1] at hc
        have HC := Lib.hid hc
        have HN : Hid (numV s.data.toList = .tuple #[.int .i64 0, .bool false]) := Lib.hid (by
          unfold numV; rw [numL_none_dig (not_all _ k (by rw [sizeB]; exact hlt) (by rw [getB s k hlt, HX.out]; exact h1))])
        clear h1 hc
        go_wp2_with fail
        refine (HC.out _).mono ?_
        rintro e w1 ⟨rfl, rfl⟩
        go_wp2_with fail
        go_ret2
        exact ⟨by rw [HN.out]; rfl, rfl⟩
      · rw [h1] at hc
        have HC := Lib.hid hc
        have hd := digB_of h1
        have HP := Lib.hid h1
        clear h1 hc
        by_cases hm : 1099511627776 < v
        · have hm' : decide (1099511627776 < (v : Int)) = true := by simp; omega
          have HN : Hid (numV s.data.toList = .tuple #[.int .i64 0, .bool false]) := Lib.hid (by
            unfold numV; rw [numL_none_max (by have := val10_take s.data.toList k; rw [← HV.out] at this; omega)])
          go_wp2_with fail
          refine (HC.out _).mono ?_
          rintro e w1 ⟨rfl, rfl⟩
          go_wp2_with fail
          go_ret2
          exact ⟨by rw [HN.out]; rfl, rfl⟩
        · have hm' : decide (1099511627776 < (v : Int)) = false := by simp; omega
          have HST : Hid (10 * v + (x.toNat - 48) = val10 (s.data.toList.take (k + 1))) := Lib.hid (by
            rw [val10_step _ k (by rw [sizeB]; exact hlt), ← HV.out, getB s k hlt, HX.out])
          go_wp2_with fail
          refine (HC.out _).mono ?_
          rintro e w1 ⟨rfl, rfl⟩
          go_wp2_with fail
          go_round
          case rel => exact ⟨k + 1, 10 * v + (x.toNat - 48), by omega, by go_num, by congr 1; omega, by omega, HST.out, all_snoc _ k (by rw [sizeB]; exact hlt) HA.out (by rw [getB s k hlt, HX.out]; exact HP.out)⟩
          case measure => simp [intOf]; omega
    · have hall : s.data.toList.all digB = true := by have := HA.out; rwa [List.take_of_length_le (by rw [sizeB]; omega)] at this
      have hval : v = val10 s.data.toList := by have := HV.out; rwa [List.take_of_length_le (by rw [sizeB]; omega)] at this
      by_cases h0 : s.size = 0
      · have HN : Hid (numV s.data.toList = .tuple #[.int .i64 0, .bool false]) := Lib.hid (by
          unfold numV; rw [nil_of_size h0, numL_none_nil])
        have h0' : decide ((s.size : Int) < 1) = true := by simp; omega
        clear hall hval h0
        go_wp2_with fail
        go_ret2
        exact ⟨by rw [HN.out]; rfl, rfl⟩
      · have hpos : 0 < s.size := by omega
        have h0' : decide ((s.size : Int) < 1) = false := by simp; omega
        have hdr := dropB s 0 hpos
        rw [List.drop_zero] at hdr
        have hl1 : (s.data.toList.drop 1).length = s.size - 1 := by rw [List.length_drop, sizeB]
        obtain ⟨y, hy⟩ : ∃ y, s[0] = y := ⟨_, rfl⟩
        rw [hy] at hdr
        by_cases h1 : 1 < s.size ∧ y.toNat = 48
        · have h1' : decide (1 < (s.size : Int)) = true := by simp; omega
          have h2' : ((y.toNat : Int) == 48) = true := by simp; omega
          have HN : Hid (numV s.data.toList = .tuple #[.int .i64 0, .bool false]) := Lib.hid (by
            unfold numV
            rw [hdr, show y = 48 by rw [← UInt8.toNat_inj]; exact h1.2, numL_none_zero (by rw [hl1]; omega)])
          clear hall hval h0 h1 hdr hl1
          go_wp2_with fail
          go_ret2
          exact ⟨by rw [HN.out]; rfl, rfl⟩
        · have hcond : s.data.toList.length = 1 ∨ s.data.toList.head? ≠ some 48 := by
            by_cases h2 : s.size = 1
            · left; rw [sizeB]; exact h2
            · right; rw [hdr]; simp
              intro e; apply h1; exact ⟨by omega, by rw [e]; rfl⟩
          have hsplit : decide (1 < (s.size : Int)) = false ∨ decide (1 < (s.size : Int)) = true ∧ ((y.toNat : Int) == 48) = false := by
            by_cases h2 : 1 < s.size
            · right; exact ⟨by simp; omega, by simp; intro e; apply h1; exact ⟨h2, by omega⟩⟩
            · left; simp; omega
          by_cases hm : 1099511627776 < v
          · have hm' : decide (1099511627776 < (v : Int)) = true := by simp; omega
            have HN : Hid (numV s.data.toList = .tuple #[.int .i64 0, .bool false]) := Lib.hid (by
              unfold numV; rw [numL_none_max (by omega)])
            have HSP := Lib.hid hsplit
            clear hall hval h0 h1 hdr hl1 hcond hsplit
            rcases HSP.out with h1 | ⟨h1, h2⟩
            all_goals
              go_wp2_with fail
              go_ret2
              exact ⟨by rw [HN.out]; rfl, rfl⟩
          · have hm' : decide (1099511627776 < (v : Int)) = false := by simp; omega
            have HN : Hid (.tuple #[.int .i64 (v : Int), .bool true] = numV s.data.toList) := Lib.hid (by
              unfold numV; rw [numL_of (by rw [sizeB]; exact hpos) hall hcond (by omega)]; simp only; rw [← hval])
            have HSP := Lib.hid hsplit
            clear hall hval h0 h1 hdr hl1 hcond hsplit
            rcases HSP.out with h1 | ⟨h1, h2⟩
            all_goals
              go_wp2_with fail
              go_ret2
              exact ⟨ret_num HN.out, rfl⟩
end Go.Proofs.YtagkdhcclkbjgaaDoor.Le
