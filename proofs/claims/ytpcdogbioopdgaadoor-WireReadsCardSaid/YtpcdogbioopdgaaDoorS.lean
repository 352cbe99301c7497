/- The contract of small. -/
import Derived.Test.YtpcdogbioopdgaaDoorM
namespace Go.Proofs.YtpcdogbioopdgaaDoor
open Go.RowKit Go.Sort

theorem d1 (u : Nat) (h : u < 10) : Lib.decDigits u = [UInt8.ofNat (48 + u)] := Lib.decDigits_one h
theorem itoa0 : Lib.itoa 0 = [48] := by rw [show (0 : Int) = ((0 : Nat) : Int) by rfl, Lib.itoa_nonneg, d1 0 (by omega)]; rfl
theorem itoa1 : Lib.itoa 1 = [49] := by rw [show (1 : Int) = ((1 : Nat) : Int) by rfl, Lib.itoa_nonneg, d1 1 (by omega)]; rfl
theorem itoa2 : Lib.itoa 2 = [50] := by rw [show (2 : Int) = ((2 : Nat) : Int) by rfl, Lib.itoa_nonneg, d1 2 (by omega)]; rfl
theorem itoa3 : Lib.itoa 3 = [51] := by rw [show (3 : Int) = ((3 : Nat) : Int) by rfl, Lib.itoa_nonneg, d1 3 (by omega)]; rfl
theorem itoa7 : Lib.itoa 7 = [55] := by rw [show (7 : Int) = ((7 : Nat) : Int) by rfl, Lib.itoa_nonneg, d1 7 (by omega)]; rfl
theorem itoam1 : Lib.itoa (-1) = [45, 49] := by rw [show (-1 : Int) = -((1 : Nat) : Int) by rfl, Lib.itoa_neg 1 (by omega), d1 1 (by omega)]; rfl
theorem itoam7 : Lib.itoa (-7) = [45, 55] := by rw [show (-7 : Int) = -((7 : Nat) : Int) by rfl, Lib.itoa_neg 7 (by omega), d1 7 (by omega)]; rfl
theorem itoa300 : Lib.itoa 300 = [51, 48, 48] := by
  rw [show (300 : Int) = ((300 : Nat) : Int) by rfl, Lib.itoa_nonneg, Lib.decDigits, dif_neg (by omega), Lib.decDigits_two (by omega) (by omega)]; rfl

/-- A call that returns v and turns nothing that was there. -/
def Gives (v : Value) (w : World) (e : Ending) (w' : World) : Prop := e = .returned v ∧ RowKit.Below w.heap.size w w'

theorem s_num0 (w : World) (he : Env w) : Calls Tryd.prog 11 #[.int .i64 0] w (Gives (.string ⟨#[48, 59]⟩) w) :=
  (num_any 0 (by omega) (by omega) w he).mono fun e w' h => ⟨by rw [h.1, encInt, itoa0]; rfl, h.2⟩
theorem s_num300 (w : World) (he : Env w) : Calls Tryd.prog 11 #[.int .i64 300] w (Gives (.string ⟨#[51, 48, 48, 59]⟩) w) :=
  (num_any 300 (by omega) (by omega) w he).mono fun e w' h => ⟨by rw [h.1, encInt, itoa300]; rfl, h.2⟩
theorem s_numm1 (w : World) : Calls Tryd.prog 11 #[.int .i64 (-1)] w (Gives (.string ⟨#[]⟩) w) :=
  (num_neg (-1) (by omega) w).mono fun e w' h => ⟨h.1, by rw [← h.2]; exact Below.refl _ _⟩
theorem s_intm7 (w : World) (he : Env w) : Calls Tryd.prog 13 #[.int .i64 (-7)] w (Gives (.string ⟨#[45, 55, 59]⟩) w) :=
  (int_any (-7) (by omega) (by omega) w he).mono fun e w' h => ⟨by rw [h.1, encInt, itoam7]; rfl, h.2⟩
theorem s_int7 (w : World) (he : Env w) : Calls Tryd.prog 13 #[.int .i64 7] w (Gives (.string ⟨#[55, 59]⟩) w) :=
  (int_any 7 (by omega) (by omega) w he).mono fun e w' h => ⟨by rw [h.1, encInt, itoa7]; rfl, h.2⟩
theorem s_text (w : World) (he : Env w) : Calls Tryd.prog 15 #[.string ⟨#[97, 44, 98]⟩] w (Gives (.string ⟨#[51, 58, 97, 44, 98, 44]⟩) w) :=
  (text_any ⟨#[97, 44, 98]⟩ (by decide) w he).mono fun e w' h => ⟨by rw [h.1]; simp only [encText]; rw [show ((([97, 44, 98] : List UInt8).length : Nat) : Int) = 3 by rfl, itoa3]; rfl, h.2⟩
theorem s_nums (b cap : Nat) (w : World) (he : Env w) (h0 : w.cell? ⟨b, 0, none⟩ = some (.int .i64 1)) (h1 : w.cell? ⟨b, 1, none⟩ = some (.int .i64 (-1))) :
    Calls Tryd.prog 17 #[.slice (some ⟨b, 0, none⟩) 2 cap] w (Gives (.string ⟨#[50, 91, 49, 59, 45, 49, 59, 93]⟩) w) :=
  (nums_any (some ⟨b, 0, none⟩) cap [1, -1] (by decide) w he (.inr ⟨b, 0, rfl, fun i hi => by
    match i, hi with
    | 0, _ => exact h0
    | 1, _ => exact h1⟩) (by intro z hz; simp at hz; omega)).mono fun e w' h => ⟨by rw [h.1]; simp only [encNums]; rw [show ((([1, -1] : List Int).length : Nat) : Int) = 2 by rfl, itoa2]; simp only [List.flatMap_cons, List.flatMap_nil, encInt, itoa1, itoam1]; rfl, h.2⟩
theorem s_texts (w : World) (he : Env w) : Calls Tryd.prog 19 #[.slice none 0 0] w (Gives (.string ⟨#[48, 91, 93]⟩) w) :=
  (texts_any none 0 [] 0 (by decide) (by decide) (by decide) w he (.inl rfl) (by simp)).mono fun e w' h => ⟨by rw [h.1]; simp only [encTexts]; rw [show ((([] : List ByteArray).length : Nat) : Int) = 0 by rfl, itoa0]; rfl, h.2⟩
theorem pnum007 : pNum 59 [48, 48, 55, 59] = none := by
  rcases h : pNum 59 [48, 48, 55, 59] with _ | ⟨n, r⟩
  · rfl
  · obtain ⟨hp, hn⟩ := pNum_some h
    obtain ⟨h1, h2, h3⟩ := pInt_some _ _ _ _ hp
    exfalso
    have hd : Lib.itoa n = [48, 48, 55] := by
      have hno : (59 : UInt8) ∉ Lib.itoa n := itoa_not n 59 (by decide)
      have hc := cut_of 59 (Lib.itoa n) r hno
      rw [← h1] at hc
      have hc2 := cut_of 59 [48, 48, 55] [] (by decide)
      rw [show ([48, 48, 55] ++ 59 :: [] : List UInt8) = [48, 48, 55, 59] by rfl, hc] at hc2
      simpa using congrArg (·.1) hc2
    have ha := atoi_itoa n h2 h3
    rw [hd] at ha
    have e : Lib.atoiAll [48, 48, 55] = .ok 7 := by decide
    rw [e] at ha; injection ha with ha; subst ha
    rw [itoa7] at hd; simp at hd

theorem fresh_R (w : World) (l : List UInt8) : IsR w.heap.size l false (w.alloc (.cells #[.string ⟨l.toArray⟩, .bool false] 54)) := by
  unfold IsR World.alloc; simp

set_option maxRecDepth 100000 in
set_option maxHeartbeats 4000000 in
theorem small_any (w : World) (he : Env w) : Calls Tryd.prog 9 #[] w (Gives (.bool true) w) := by
  have hz := he.size
  go_enter Tryd.func9, Tryd.ntmps9
  go_wp2_with fail
  refine (s_num0 _ he).mono ?_
  rintro e w1 ⟨rfl, b1⟩
  have B1 : RowKit.Below w.heap.size w w1 := b1
  go_wp2_with fail
  refine (s_num300 _ (he.below B1 hz)).mono ?_
  rintro e w2 ⟨rfl, b2⟩
  have B2 := B1.trans (b2.mono B1.size)
  go_wp2_with fail
  refine (s_numm1 _).mono ?_
  rintro e w3 ⟨rfl, b3⟩
  have B3 := B2.trans (b3.mono B2.size)
  go_wp2_with fail
  refine (s_intm7 _ (he.below B3 hz)).mono ?_
  rintro e w4 ⟨rfl, b4⟩
  have B4 := B3.trans (b4.mono B3.size)
  go_wp2_with fail
  refine (s_int7 _ (he.below B4 hz)).mono ?_
  rintro e w5 ⟨rfl, b5⟩
  have B5 := B4.trans (b5.mono B4.size)
  go_wp2_with fail
  refine (s_text _ (he.below B5 hz)).mono ?_
  rintro e w6 ⟨rfl, b6⟩
  have B6 := B5.trans (b6.mono B5.size)
  go_wp2_with fail
  refine (s_nums w6.heap.size 2 _ ((he.below B6 hz).below ((Below.refl w6.heap.size w6).alloc (Nat.le_refl _) _) (Nat.le_trans hz B6.size)) (by simp) (by simp)).mono ?_
  rintro e w7 ⟨rfl, b7⟩
  have B7 := (B6.alloc B6.size _).trans (b7.mono (Nat.le_trans B6.size (by simp)))
  go_wp2_with fail
  refine (s_texts _ (he.below B7 hz)).mono ?_
  rintro e w8 ⟨rfl, b8⟩
  have B8 := B7.trans (b8.mono B7.size)
  clear b1 b2 b3 b4 b5 b6 b7 b8 B1 B2 B3 B4 B5 B6 B7
  go_wp2_with fail
  refine (open_any _ _).mono ?_
  rintro e w9 ⟨rfl, h9⟩
  have B9 : RowKit.Below w.heap.size w w9 := by rw [h9]; exact B8.alloc B8.size _
  have I9 : IsR w8.heap.size [48, 48, 55, 59] false w9 := by rw [h9]; exact fresh_R _ _
  have hz8 := B8.size
  clear h9
  go_wp2_with fail
  refine (rnum_any _ _ _ (by simp) _ I9 (he.below B9 hz)).mono ?_
  rintro e w10 hr
  obtain ⟨ho, rfl, hi⟩ := hr.none' pnum007
  clear hr
  have B10 : RowKit.Below w.heap.size w w10 := ⟨ho.os.trans B9.os, ho.tape.trans B9.tape, ho.output.trans B9.output, Nat.le_trans B9.size ho.size, fun k hk => (ho.block k (Nat.lt_of_lt_of_le hk B9.size) (by simp; omega)).trans (B9.block k hk)⟩
  go_wp2_with fail
  refine (left_any _ _ _ _ hi).mono ?_
  rintro e w11 ⟨rfl, rfl⟩
  go_wp2_with fail
  refine (done_any _ _ _ _ hi).mono ?_
  rintro e w12 ⟨rfl, rfl⟩
  go_wp2_with fail
  go_ret
  exact ⟨rfl, B10⟩
end Go.Proofs.YtpcdogbioopdgaaDoor
