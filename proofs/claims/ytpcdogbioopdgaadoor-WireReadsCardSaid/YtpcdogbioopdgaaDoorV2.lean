/- The reference's ahead, number, Num and Int. -/
import Derived.Test.YtpcdogbioopdgaaDoorV
import Derived.Test.YtpcdogbioopdgaaDoorR2
namespace Go.Proofs.YtpcdogbioopdgaaDoor
open Go.RowKit Go.Sort

theorem CloseQ.yes' {b : Nat} {c x : UInt8} {s r : List UInt8} {bad : Bool} {w : World} {e : Ending} {w' : World} (h : CloseQ b c s bad w e w') (hs : s = x :: r) (hx : x = c) : w.grownBy w' (some b) ∧ e = .returned (.bool true) ∧ IsQ b r bad w' := by
  subst hs
  obtain ⟨h1, h2⟩ := h
  have h3 : if x = c then e = .returned (.bool true) ∧ IsQ b r bad w' else e = .returned (.bool false) ∧ IsQ b [] true w' := h2
  rw [if_pos hx] at h3
  exact ⟨h1, h3⟩
theorem CloseQ.no' {b : Nat} {c : UInt8} {s : List UInt8} {bad : Bool} {w : World} {e : Ending} {w' : World} (h : CloseQ b c s bad w e w') (hx : ∀ r, s ≠ c :: r) : w.grownBy w' (some b) ∧ e = .returned (.bool false) ∧ IsQ b [] true w' := by
  cases s with
  | nil => exact h
  | cons x r =>
    obtain ⟨h1, h2⟩ := h
    have h3 : if x = c then e = .returned (.bool true) ∧ IsQ b r bad w' else e = .returned (.bool false) ∧ IsQ b [] true w' := h2
    rw [if_neg (fun e => hx r (by rw [e]))] at h3
    exact ⟨h1, h3⟩
theorem bne_u8 {x c : UInt8} (h : ¬ x = c) : (((x.toNat : Nat) : Int) != (c.toNat : Int)) = true := by
  rw [bne_iff_ne]; intro e; exact h (UInt8.toNat_inj.1 (by omega))
theorem bne_u8_no {x c : UInt8} (h : x = c) : (((x.toNat : Nat) : Int) != (c.toNat : Int)) = false := by rw [h]; simp

set_option maxRecDepth 100000 in
set_option maxHeartbeats 8000000 in
theorem aheadQ (b : Nat) (c : UInt8) (s : List UInt8) (bad : Bool) (hs : s.length ≤ 100000000) (w : World) (h : IsQ b s bad w) :
    Calls Tryd.prog 51 #[.pointer (some ⟨b, 0, none⟩), .int .u8 c.toNat] w (ReadsQ b (pInt c s) bad (.int .i64 0) (.int .i64) w) := by
  have c0 := h.c0
  have f0 := h.f0 0
  have HI := Lib.hid h
  clear h
  go_enter Tryd.func51, Tryd.ntmps51
  go_wp2_with fail
  go_loop [5] (fun i => ∃ k : Nat, k ≤ s.length ∧ k ≤ 21 ∧ i = .int .i64 k ∧ Hid (∀ i (h : i < s.length), i < k → s[i] ≠ c)) (fun i => 21 - (RowKit.intOf i).toNat)
  case atStart => exact ⟨0, by omega, by omega, rfl, fun i _ h => by omega⟩
  case round =>
    obtain ⟨k, hk, hk21, rfl, hno⟩ := hrel
    by_cases hlt : k < s.length
    · by_cases hx : s[k] = c
      · have hb : ((((⟨s.toArray⟩ : ByteArray)[k]'hlt).toNat : Int) != (c.toNat : Int)) = false := bne_u8_no hx
        have HX := Lib.hid hx
        clear hx
        by_cases h20 : k ≤ 20
        · by_cases hcan : ∃ n : Int, -9223372036854775808 ≤ n ∧ n ≤ 9223372036854775807 ∧ Lib.itoa n = s.take k
          · obtain ⟨n, n0, n1, hn⟩ := hcan
            have HP := Lib.hid (pInt_at_some c s k hlt h20 HX.out hno.out n n0 n1 hn)
            have HN := Lib.hid hn
            clear hn
            go_wp2_with fail
            rw [text_ext s k (by omega), ← HN.out]
            refine (back_yes n n0 n1 _).mono ?_
            rintro e w1 ⟨rfl, b1⟩
            have c1 := (HI.out.later b1).c0
            have f1 := (HI.out.later b1).f0 0
            go_wp2_with fail
            go_ret
            exact ReadsQ.mks HP.out (on_set (on_below b1) 0 _) rfl ((HI.out.later b1).drop _)
          · have hcan' : ∀ n : Int, -9223372036854775808 ≤ n → n ≤ 9223372036854775807 → Lib.itoa n ≠ s.take k := fun n a b e => hcan ⟨n, a, b, e⟩
            have HP := Lib.hid (pInt_at_none c s k hlt h20 HX.out hno.out hcan')
            have HC := Lib.hid hcan'
            clear hcan hcan'
            go_wp2_with fail
            rw [text_ext s k (by omega)]
            refine (back_no (s.take k) (by rw [List.length_take]; omega) HC.out _).mono ?_
            rintro e w1 ⟨v, rfl, b1⟩
            go_wp2_with fail
            refine (failQ b s bad _ (HI.out.later b1)).mono ?_
            rintro e w2 ⟨rfl, ho, hi⟩
            go_wp2_with fail
            go_ret
            exact ReadsQ.mkn HP.out (on_trans (on_below b1) ho) rfl hi
        · have HP : Hid (pInt c s = none) := pInt_miss c s (fun i h h2 => hno.out i h (by omega))
          have HC : Hid (∀ n : Int, -9223372036854775808 ≤ n → n ≤ 9223372036854775807 → Lib.itoa n ≠ s.take k) := by
            intro n a b e
            have h1 := itoa_len20 n a b
            rw [e, List.length_take] at h1; omega
          go_wp2_with fail
          rw [text_ext s k (by omega)]
          refine (back_no (s.take k) (by rw [List.length_take]; omega) HC.out _).mono ?_
          rintro e w1 ⟨v, rfl, b1⟩
          go_wp2_with fail
          refine (failQ b s bad _ (HI.out.later b1)).mono ?_
          rintro e w2 ⟨rfl, ho, hi⟩
          go_wp2_with fail
          go_ret
          exact ReadsQ.mkn HP.out (on_trans (on_below b1) ho) rfl hi
      · have hb : ((((⟨s.toArray⟩ : ByteArray)[k]'hlt).toNat : Int) != (c.toNat : Int)) = true := bne_u8 hx
        have HX := Lib.hid hx
        clear hx
        by_cases h21 : k < 21
        · have hno2 : Hid (∀ i (h : i < s.length), i < k + 1 → s[i] ≠ c) := by
            intro i h h2
            by_cases e : i = k
            · subst e; exact HX.out
            · exact hno.out i h (by omega)
          go_wp2_with fail
          go_round
          case rel => exact ⟨k + 1, by omega, by omega, by go_num, hno2⟩
          case measure => simp [RowKit.intOf]; omega
        · have HP : Hid (pInt c s = none) := pInt_miss c s (fun i h h2 => hno.out i h (by omega))
          go_wp2_with fail
          refine (failQ b s bad _ HI.out).mono ?_
          rintro e w2 ⟨rfl, ho, hi⟩
          go_wp2_with fail
          go_ret
          exact ReadsQ.mkn HP.out ho rfl hi
    · have HP : Hid (pInt c s = none) := pInt_miss c s (fun i h h2 => hno.out i h (by omega))
      go_wp2_with fail
      refine (failQ b s bad _ HI.out).mono ?_
      rintro e w2 ⟨rfl, ho, hi⟩
      go_wp2_with fail
      go_ret
      exact ReadsQ.mkn HP.out ho rfl hi

set_option maxRecDepth 100000 in
theorem numberQ (b : Nat) (c : UInt8) (s : List UInt8) (bad : Bool) (hs : s.length ≤ 100000000) (w : World) (h : IsQ b s bad w) :
    Calls Tryd.prog 49 #[.pointer (some ⟨b, 0, none⟩), .int .u8 c.toNat] w (ReadsQ b (pNum c s) bad (.int .i64 0) (.int .i64) w) := by
  rcases hp : pInt c s with _ | ⟨n, r⟩
  · have HP := Lib.hid hp
    have HQ : Hid (pNum c s = none) := by unfold Hid pNum; rw [hp]
    clear hp
    go_enter Tryd.func49, Tryd.ntmps49
    go_wp2_with fail
    refine (aheadQ b c s bad hs w h).mono ?_
    rintro e w1 hr
    obtain ⟨ho, rfl, hi⟩ := hr.none' HP.out
    clear hr
    go_wp2_with fail
    go_ret
    exact ReadsQ.mkn HQ.out ho rfl hi
  · have HP := Lib.hid hp
    by_cases hn : n < 0
    · have HQ : Hid (pNum c s = none) := by unfold Hid pNum; rw [hp]; simp [hn]
      clear hp
      go_enter Tryd.func49, Tryd.ntmps49
      go_wp2_with fail
      refine (aheadQ b c s bad hs w h).mono ?_
      rintro e w1 hr
      obtain ⟨ho, rfl, hi⟩ := hr.some' HP.out
      clear hr
      go_wp2_with fail
      refine (failQ b r bad _ hi).mono ?_
      rintro e w2 ⟨rfl, ho2, hi2⟩
      go_wp2_with fail
      go_ret
      exact ReadsQ.mkn HQ.out (on_trans ho ho2) rfl hi2
    · have HQ : Hid (pNum c s = some (n, r)) := by unfold Hid pNum; rw [hp]; simp [hn]
      clear hp
      go_enter Tryd.func49, Tryd.ntmps49
      go_wp2_with fail
      refine (aheadQ b c s bad hs w h).mono ?_
      rintro e w1 hr
      obtain ⟨ho, rfl, hi⟩ := hr.some' HP.out
      clear hr
      go_wp2_with fail
      go_ret
      exact ReadsQ.mks HQ.out ho rfl hi

theorem numQ (b : Nat) (s : List UInt8) (bad : Bool) (hs : s.length ≤ 100000000) (w : World) (h : IsQ b s bad w) :
    Calls Tryd.prog 25 #[.pointer (some ⟨b, 0, none⟩)] w (ReadsQ b (pNum 59 s) bad (.int .i64 0) (.int .i64) w) := by
  go_enter Tryd.func25, Tryd.ntmps25
  go_wp2_with fail
  refine (numberQ b 59 s bad hs w h).mono ?_
  rintro e w1 hr
  rcases hp : pNum 59 s with _ | ⟨n, r⟩
  · obtain ⟨ho, rfl, hi⟩ := hr.none' hp
    have HP := Lib.hid hp
    clear hr hp
    go_wp2_with fail
    go_ret
    exact ReadsQ.mkn HP.out ho rfl hi
  · obtain ⟨ho, rfl, hi⟩ := hr.some' hp
    have HP := Lib.hid hp
    clear hr hp
    go_wp2_with fail
    go_ret
    exact ReadsQ.mks HP.out ho rfl hi
theorem intQ (b : Nat) (s : List UInt8) (bad : Bool) (hs : s.length ≤ 100000000) (w : World) (h : IsQ b s bad w) :
    Calls Tryd.prog 27 #[.pointer (some ⟨b, 0, none⟩)] w (ReadsQ b (pInt 59 s) bad (.int .i64 0) (.int .i64) w) := by
  go_enter Tryd.func27, Tryd.ntmps27
  go_wp2_with fail
  refine (aheadQ b 59 s bad hs w h).mono ?_
  rintro e w1 hr
  rcases hp : pInt 59 s with _ | ⟨n, r⟩
  · obtain ⟨ho, rfl, hi⟩ := hr.none' hp
    have HP := Lib.hid hp
    clear hr hp
    go_wp2_with fail
    go_ret
    exact ReadsQ.mkn HP.out ho rfl hi
  · obtain ⟨ho, rfl, hi⟩ := hr.some' hp
    have HP := Lib.hid hp
    clear hr hp
    go_wp2_with fail
    go_ret
    exact ReadsQ.mks HP.out ho rfl hi
end Go.Proofs.YtpcdogbioopdgaaDoor
