/- WireAgain. -/
import Derived.Test.YtpcdogbioopdgaaDoorS
namespace Go.Proofs.YtpcdogbioopdgaaDoor
open Go.RowKit Go.Sort

def kindOf (n : Int) : Int := if n.tmod 5 < 0 then n.tmod 5 + 5 else n.tmod 5
theorem kindOf_bd (n : Int) : 0 ≤ kindOf n ∧ kindOf n ≤ 4 := by
  unfold kindOf
  have h1 := Int.tmod_lt_of_pos n (b := 5) (by omega)
  have h2 : -5 < n.tmod 5 := by have := Int.lt_tmod_of_pos n (b := 5) (by omega); omega
  split <;> omega
theorem kind_any (n : Int) (c1 c2 c3 c4 : Value) (hn : -9223372036854775808 ≤ n ∧ n ≤ 9223372036854775807) (w : World) :
    Calls Tryd.prog 23 #[.agg #[.int .i64 n, c1, c2, c3, c4]] w (Gives (.int .i64 (kindOf n)) w) := by
  have hb := kindOf_bd n
  have H1 := Int.tmod_lt_of_pos n (b := 5) (by omega)
  have H2 : -5 < n.tmod 5 := by have := Int.lt_tmod_of_pos n (b := 5) (by omega); omega
  by_cases h : n.tmod 5 < 0
  · have HK : Hid (kindOf n = n.tmod 5 + 5) := by unfold Hid kindOf; rw [if_pos h]
    go_enter Tryd.func23, Tryd.ntmps23
    go_wp2
    go_ret
    exact ⟨by rw [HK.out]; rfl, (Below.refl _ _).alloc (Nat.le_refl _) _⟩
  · have HK : Hid (kindOf n = n.tmod 5) := by unfold Hid kindOf; rw [if_neg h]
    go_enter Tryd.func23, Tryd.ntmps23
    go_wp2
    go_ret
    exact ⟨by rw [HK.out]; rfl, (Below.refl _ _).alloc (Nat.le_refl _) _⟩
theorem eq_pre (enc r l : List UInt8) (h : l = enc ++ r) (k : Nat) (hk : k + r.length = l.length) : (enc == ((⟨l.toArray⟩ : ByteArray).extract 0 k).toList) = true := by
  have he : k = enc.length := by rw [h] at hk; simp at hk; omega
  rw [beq_iff_eq, ByteArray.toList_eq, text_ext l k (by omega), h, he]; simp
theorem ret_bool {a : Bool} (h : a = true) : Ending.returned (.bool a) = .returned (.bool true) := by rw [h]
theorem below_on {w w1 w2 : World} (h : RowKit.Below w.heap.size w w1) {b : Nat} (hb : w.heap.size ≤ b) (ho : w1.grownBy w2 (some b)) : RowKit.Below w.heap.size w w2 :=
  ⟨ho.os.trans h.os, ho.tape.trans h.tape, ho.output.trans h.output, Nat.le_trans h.size ho.size, fun k hk => (ho.block k (Nat.lt_of_lt_of_le hk h.size) (by simp; omega)).trans (h.block k hk)⟩

theorem s_int0 (w : World) (he : Env w) : Calls Tryd.prog 13 #[.int .i64 0] w (Gives (.string ⟨#[48, 59]⟩) w) :=
  (int_any 0 (by omega) (by omega) w he).mono fun e w' h => ⟨by rw [h.1, encInt, itoa0]; rfl, h.2⟩
theorem s_text0 (w : World) (he : Env w) : Calls Tryd.prog 15 #[.string ⟨#[]⟩] w (Gives (.string ⟨#[48, 58, 44]⟩) w) :=
  (text_any ⟨#[]⟩ (by decide) w he).mono fun e w' h => ⟨by rw [h.1]; simp only [encText]; rw [show ((([] : List UInt8).length : Nat) : Int) = 0 by rfl, itoa0]; rfl, h.2⟩
theorem s_nums0 (w : World) (he : Env w) : Calls Tryd.prog 17 #[.slice none 0 0] w (Gives (.string ⟨#[48, 91, 93]⟩) w) :=
  (nums_any none 0 [] (by decide) w he (.inl rfl) (by intro z hz; simp at hz)).mono fun e w' h => ⟨by rw [h.1]; simp only [encNums]; rw [show ((([] : List Int).length : Nat) : Int) = 0 by rfl, itoa0]; rfl, h.2⟩
theorem pText_some {s : List UInt8} {x : ByteArray} {r : List UInt8} (h : pText s = some (x, r)) : s = encText x.data.toList ++ r := by
  unfold pText at h
  split at h
  · rename_i n r0 hn
    split at h
    · rename_i hc
      simp at h; obtain ⟨rfl, rfl⟩ := h
      obtain ⟨hp, hn0⟩ := pNum_some hn
      have hs := (pInt_some _ _ _ _ hp).1
      obtain ⟨k, rfl⟩ : ∃ k : Nat, n = k := ⟨n.toNat, by omega⟩
      simp at hc
      have h44 : r0[k]'hc.1 = 44 := by have := hc.2; rw [List.getElem?_eq_getElem hc.1] at this; simpa using this
      have h0 : r0 = r0.take k ++ 44 :: r0.drop (k + 1) := by
        conv => lhs; rw [← List.take_append_drop k r0]
        rw [List.drop_eq_getElem_cons hc.1, h44]
      have hl : (r0.take k).length = k := by rw [List.length_take]; omega
      rw [hs]
      simp only [encText, Int.toNat_natCast, hl]
      conv => lhs; rw [h0]
      simp
    · cases h
  · cases h
theorem run_some {α : Type} (p : List UInt8 → Option (α × List UInt8)) (enc : α → List UInt8) (ok : α → Prop) (hp : ∀ s v r, p s = some (v, r) → s = enc v ++ r ∧ ok v) :
    ∀ (k : Nat) (s : List UInt8) (l : List α) (r : List UInt8), run p k s = some (l, r) → s = l.flatMap enc ++ r ∧ (∀ v ∈ l, ok v) ∧ l.length = k
  | 0, s, l, r, h => by simp [run] at h; obtain ⟨rfl, rfl⟩ := h; simp
  | k + 1, s, l, r, h => by
    simp only [run] at h
    split at h
    · cases h
    · rename_i l' r' hr
      split at h
      · cases h
      · rename_i v r'' hv
        simp at h; obtain ⟨rfl, rfl⟩ := h
        obtain ⟨h1, h2, h3⟩ := run_some p enc ok hp k s l' r' hr
        obtain ⟨h4, h5⟩ := hp r' v r'' hv
        refine ⟨by rw [h1, h4]; simp, fun z hz => ?_, by simp [h3]⟩
        rcases List.mem_append.1 hz with h | h
        · exact h2 z h
        · simp at h; subst h; exact h5
theorem pList_some {α : Type} (p : List UInt8 → Option (α × List UInt8)) (enc : α → List UInt8) (ok : α → Prop) (hp : ∀ s v r, p s = some (v, r) → s = enc v ++ r ∧ ok v)
    {s : List UInt8} {l : List α} {r : List UInt8} (h : pList p s = some (l, r)) : s = (Lib.itoa l.length ++ [91] ++ l.flatMap enc ++ [93]) ++ r ∧ ∀ v ∈ l, ok v := by
  unfold pList at h
  split at h
  · cases h
  · rename_i n r0 hn
    split at h
    · cases h
    · rename_i l' r' hr
      split at h
      · rename_i hpre
        simp at h; obtain ⟨rfl, rfl⟩ := h
        obtain ⟨hq, hn0⟩ := pNum_some hn
        have hs := (pInt_some _ _ _ _ hq).1
        obtain ⟨h1, h2, h3⟩ := run_some p enc ok hp _ _ _ _ hr
        have hn1 : n = (l'.length : Int) := by omega
        have h93 : r' = 93 :: r'.drop 1 := by
          cases r' with
          | nil => simp at hpre
          | cons a b => simp at hpre; subst hpre; rfl
        refine ⟨?_, h2⟩
        rw [hs, h1, hn1]
        conv => lhs; rw [h93]
        simp
      · cases h
theorem pNums_some {s : List UInt8} {x : List Int} {r : List UInt8} (h : pList (pInt 59) s = some (x, r)) : s = encNums x ++ r ∧ IntsOk x :=
  pList_some (pInt 59) encInt (fun z => -9223372036854775808 ≤ z ∧ z ≤ 9223372036854775807) (fun s v r h => by
    obtain ⟨h1, h2⟩ := pInt_some _ _ _ _ h
    exact ⟨by rw [h1]; simp [encInt], h2⟩) h
theorem pTexts_some {s : List UInt8} {x : List ByteArray} {r : List UInt8} (h : pList pText s = some (x, r)) : s = encTexts x ++ r :=
  (pList_some pText encS (fun _ => True) (fun s v r h => ⟨pText_some h, trivial⟩) h).1
theorem flat_ge {α β : Type} (f : α → List β) (l : List α) (h : ∀ z, 1 ≤ (f z).length) : l.length ≤ (l.flatMap f).length := by
  induction l with
  | nil => simp
  | cons x l ih => have := h x; simp only [List.flatMap_cons, List.length_append, List.length_cons]; omega
theorem flat_mem {α β : Type} (f : α → List β) (l : List α) (z : α) (hz : z ∈ l) : (f z).length ≤ (l.flatMap f).length := by
  induction l with
  | nil => simp at hz
  | cons x l ih =>
    simp only [List.flatMap_cons, List.length_append]
    rcases List.mem_cons.1 hz with rfl | h
    · omega
    · have := ih h; omega

set_option maxRecDepth 100000 in
set_option maxHeartbeats 4000000 in
theorem again_long (l : List UInt8) (what : Int) (w : World) (he : Env w) (hl : 400 < l.length) (hm : l.length ≤ 9223372036854775807) :
    Calls Tryd.prog 6 #[.string ⟨l.toArray⟩, .int .i64 what] w (Gives (.bool true) w) := by
  go_enter Tryd.func6, Tryd.ntmps6
  go_wp2_with fail
  refine (small_any w he).mono ?_
  rintro e w1 ⟨rfl, b1⟩
  go_wp2_with fail
  go_ret
  exact ⟨rfl, b1⟩

set_option maxRecDepth 100000 in
set_option maxHeartbeats 8000000 in
theorem again_0 (l : List UInt8) (what : Int) (hw : -9223372036854775808 ≤ what ∧ what ≤ 9223372036854775807) (hk : kindOf what = 0) (w : World) (he : Env w) (hl : l.length ≤ 400) :
    Calls Tryd.prog 6 #[.string ⟨l.toArray⟩, .int .i64 what] w (Gives (.bool true) w) := by
  have hz := he.size
  have HK := Lib.hid hk
  clear hk
  go_enter Tryd.func6, Tryd.ntmps6
  go_wp2_with fail
  refine (small_any w he).mono ?_
  rintro e w1 ⟨rfl, b1⟩
  go_wp2_with fail
  refine (open_any _ _).mono ?_
  rintro e w2 ⟨rfl, h2⟩
  have B2 : RowKit.Below w.heap.size w w2 := by rw [h2]; exact b1.alloc b1.size _
  have I2 : IsR w1.heap.size l false w2 := by rw [h2]; exact fresh_R _ _
  have hs1 := b1.size
  clear h2
  go_wp2_with fail
  refine (kind_any what _ _ _ _ hw _).mono ?_
  rintro e w3 ⟨rfl, b3⟩
  have B3 := B2.trans (b3.mono B2.size)
  have I3 := I2.later b3
  clear b3 I2
  rw [HK.out]
  go_wp2_with fail
  refine (rnum_any w1.heap.size l false (by omega) _ I3 (he.below B3 hz)).mono ?_
  rintro e w4 hr
  rcases hp : pNum 59 l with _ | ⟨n, r⟩
  · have HP := Lib.hid hp
    obtain ⟨ho, rfl, hi⟩ := hr.none' hp
    clear hr hp
    have B4 := below_on B3 hs1 ho
    go_wp2_with fail
    refine (s_num0 _ (he.below B4 hz)).mono ?_
    rintro e w5 ⟨rfl, b5⟩
    have BT := B4.trans (b5.mono B4.size)
    replace hi := hi.later b5
    clear b5 ho
    go_wp2_with fail
    refine (left_any _ _ _ _ hi).mono ?_
    rintro e w8 ⟨rfl, rfl⟩
    go_wp2_with fail
    refine (done_any _ _ _ _ hi).mono ?_
    rintro e w8 ⟨rfl, rfl⟩
    go_wp2_with fail
    go_ret
    exact ⟨rfl, BT⟩
  · have HP := Lib.hid hp
    obtain ⟨ho, rfl, hi⟩ := hr.some' hp
    clear hr hp
    have B4 := below_on B3 hs1 ho
    have hq : l = Lib.itoa n ++ 59 :: r ∧ (-9223372036854775808 ≤ n ∧ n ≤ 9223372036854775807) ∧ 0 ≤ n := ⟨(pInt_some _ _ _ _ (pNum_some HP.out).1).1, (pInt_some _ _ _ _ (pNum_some HP.out).1).2, (pNum_some HP.out).2⟩
    have HS : Hid (l = encInt n ++ r) := by unfold Hid; rw [hq.1]; simp [encInt]
    have hql : r.length < l.length := pInt_len (pNum_some HP.out).1
    replace hq := hq.2
    go_wp2_with fail
    refine (num_any n hq.2 hq.1.2 _ (he.below B4 hz)).mono ?_
    rintro e w5 ⟨rfl, b5⟩
    have BT := B4.trans (b5.mono B4.size)
    replace hi := hi.later b5
    clear b5 ho
    rcases hr0 : r with _ | ⟨r1, r2⟩
    · have HR0 := Lib.hid hr0; clear hr0
      have hi0 := hi; rw [HR0.out] at hi0
      go_wp2_with fail
      refine (left_any _ _ _ _ hi0).mono ?_
      rintro e w8 ⟨rfl, rfl⟩
      go_wp2_with fail
      refine (done_any _ _ _ _ hi0).mono ?_
      rintro e w8 ⟨rfl, rfl⟩
      go_wp2_with fail
      refine (left_any _ _ _ _ hi0).mono ?_
      rintro e w8 ⟨rfl, rfl⟩
      go_wp2_with fail
      go_ret
      exact ⟨ret_bool (eq_pre _ r l HS.out _ (by rw [HR0.out]; rfl)), BT⟩
    · have HR0 := Lib.hid hr0; clear hr0
      have hrp0 : 0 < r.length := by rw [HR0.out]; simp
      have hrp : ((r.length : Int) == 0) = false := beq_eq_false_iff_ne.2 (show (r.length : Int) ≠ 0 by omega)
      go_wp2_with fail
      refine (left_any _ _ _ _ hi).mono ?_
      rintro e w8 ⟨rfl, rfl⟩
      go_wp2_with fail
      refine (left_any _ _ _ _ hi).mono ?_
      rintro e w8 ⟨rfl, rfl⟩
      go_wp2_with fail
      go_ret
      exact ⟨ret_bool (eq_pre _ r l HS.out _ (by omega)), BT⟩

set_option maxRecDepth 100000 in
set_option maxHeartbeats 8000000 in
theorem again_1 (l : List UInt8) (what : Int) (hw : -9223372036854775808 ≤ what ∧ what ≤ 9223372036854775807) (hk : kindOf what = 1) (w : World) (he : Env w) (hl : l.length ≤ 400) :
    Calls Tryd.prog 6 #[.string ⟨l.toArray⟩, .int .i64 what] w (Gives (.bool true) w) := by
  have hz := he.size
  have HK := Lib.hid hk
  clear hk
  go_enter Tryd.func6, Tryd.ntmps6
  go_wp2_with fail
  refine (small_any w he).mono ?_
  rintro e w1 ⟨rfl, b1⟩
  go_wp2_with fail
  refine (open_any _ _).mono ?_
  rintro e w2 ⟨rfl, h2⟩
  have B2 : RowKit.Below w.heap.size w w2 := by rw [h2]; exact b1.alloc b1.size _
  have I2 : IsR w1.heap.size l false w2 := by rw [h2]; exact fresh_R _ _
  have hs1 := b1.size
  clear h2
  go_wp2_with fail
  refine (kind_any what _ _ _ _ hw _).mono ?_
  rintro e w3 ⟨rfl, b3⟩
  have B3 := B2.trans (b3.mono B2.size)
  have I3 := I2.later b3
  clear b3 I2
  rw [HK.out]
  go_wp2_with fail
  refine (rint_any w1.heap.size l false (by omega) _ I3 (he.below B3 hz)).mono ?_
  rintro e w4 hr
  rcases hp : pInt 59 l with _ | ⟨n, r⟩
  · have HP := Lib.hid hp
    obtain ⟨ho, rfl, hi⟩ := hr.none' hp
    clear hr hp
    have B4 := below_on B3 hs1 ho
    go_wp2_with fail
    refine (s_int0 _ (he.below B4 hz)).mono ?_
    rintro e w5 ⟨rfl, b5⟩
    have BT := B4.trans (b5.mono B4.size)
    replace hi := hi.later b5
    clear b5 ho
    go_wp2_with fail
    refine (left_any _ _ _ _ hi).mono ?_
    rintro e w8 ⟨rfl, rfl⟩
    go_wp2_with fail
    refine (done_any _ _ _ _ hi).mono ?_
    rintro e w8 ⟨rfl, rfl⟩
    go_wp2_with fail
    go_ret
    exact ⟨rfl, BT⟩
  · have HP := Lib.hid hp
    obtain ⟨ho, rfl, hi⟩ := hr.some' hp
    clear hr hp
    have B4 := below_on B3 hs1 ho
    have hq : l = Lib.itoa n ++ 59 :: r ∧ -9223372036854775808 ≤ n ∧ n ≤ 9223372036854775807 := pInt_some _ _ _ _ HP.out
    have HS : Hid (l = encInt n ++ r) := by unfold Hid; rw [hq.1]; simp [encInt]
    have hql : r.length < l.length := pInt_len HP.out
    replace hq := hq.2
    go_wp2_with fail
    refine (int_any n hq.1 hq.2 _ (he.below B4 hz)).mono ?_
    rintro e w5 ⟨rfl, b5⟩
    have BT := B4.trans (b5.mono B4.size)
    replace hi := hi.later b5
    clear b5 ho
    rcases hr0 : r with _ | ⟨r1, r2⟩
    · have HR0 := Lib.hid hr0; clear hr0
      have hi0 := hi; rw [HR0.out] at hi0
      go_wp2_with fail
      refine (left_any _ _ _ _ hi0).mono ?_
      rintro e w8 ⟨rfl, rfl⟩
      go_wp2_with fail
      refine (done_any _ _ _ _ hi0).mono ?_
      rintro e w8 ⟨rfl, rfl⟩
      go_wp2_with fail
      refine (left_any _ _ _ _ hi0).mono ?_
      rintro e w8 ⟨rfl, rfl⟩
      go_wp2_with fail
      go_ret
      exact ⟨ret_bool (eq_pre _ r l HS.out _ (by rw [HR0.out]; rfl)), BT⟩
    · have HR0 := Lib.hid hr0; clear hr0
      have hrp0 : 0 < r.length := by rw [HR0.out]; simp
      have hrp : ((r.length : Int) == 0) = false := beq_eq_false_iff_ne.2 (show (r.length : Int) ≠ 0 by omega)
      go_wp2_with fail
      refine (left_any _ _ _ _ hi).mono ?_
      rintro e w8 ⟨rfl, rfl⟩
      go_wp2_with fail
      refine (left_any _ _ _ _ hi).mono ?_
      rintro e w8 ⟨rfl, rfl⟩
      go_wp2_with fail
      go_ret
      exact ⟨ret_bool (eq_pre _ r l HS.out _ (by omega)), BT⟩

set_option maxRecDepth 100000 in
set_option maxHeartbeats 8000000 in
theorem again_2 (l : List UInt8) (what : Int) (hw : -9223372036854775808 ≤ what ∧ what ≤ 9223372036854775807) (hk : kindOf what = 2) (w : World) (he : Env w) (hl : l.length ≤ 400) :
    Calls Tryd.prog 6 #[.string ⟨l.toArray⟩, .int .i64 what] w (Gives (.bool true) w) := by
  have hz := he.size
  have HK := Lib.hid hk
  clear hk
  go_enter Tryd.func6, Tryd.ntmps6
  go_wp2_with fail
  refine (small_any w he).mono ?_
  rintro e w1 ⟨rfl, b1⟩
  go_wp2_with fail
  refine (open_any _ _).mono ?_
  rintro e w2 ⟨rfl, h2⟩
  have B2 : RowKit.Below w.heap.size w w2 := by rw [h2]; exact b1.alloc b1.size _
  have I2 : IsR w1.heap.size l false w2 := by rw [h2]; exact fresh_R _ _
  have hs1 := b1.size
  clear h2
  go_wp2_with fail
  refine (kind_any what _ _ _ _ hw _).mono ?_
  rintro e w3 ⟨rfl, b3⟩
  have B3 := B2.trans (b3.mono B2.size)
  have I3 := I2.later b3
  clear b3 I2
  rw [HK.out]
  go_wp2_with fail
  refine (rtext_any w1.heap.size l false (by omega) _ I3 (he.below B3 hz)).mono ?_
  rintro e w4 hr
  rcases hp : pText l with _ | ⟨n, r⟩
  · have HP := Lib.hid hp
    obtain ⟨ho, rfl, hi⟩ := hr.none' hp
    clear hr hp
    have B4 := below_on B3 hs1 ho
    go_wp2_with fail
    refine (s_text0 _ (he.below B4 hz)).mono ?_
    rintro e w5 ⟨rfl, b5⟩
    have BT := B4.trans (b5.mono B4.size)
    replace hi := hi.later b5
    clear b5 ho
    go_wp2_with fail
    refine (left_any _ _ _ _ hi).mono ?_
    rintro e w8 ⟨rfl, rfl⟩
    go_wp2_with fail
    refine (done_any _ _ _ _ hi).mono ?_
    rintro e w8 ⟨rfl, rfl⟩
    go_wp2_with fail
    go_ret
    exact ⟨rfl, BT⟩
  · have HP := Lib.hid hp
    obtain ⟨ho, rfl, hi⟩ := hr.some' hp
    clear hr hp
    have B4 := below_on B3 hs1 ho
    have HS : Hid (l = encText n.data.toList ++ r) := pText_some HP.out
    have hql : r.length < l.length := pText_len HP.out
    have hq : n.size ≤ 1000000 := by have := HS.out; have h2 := congrArg List.length this; simp [encText] at h2; have e : n.data.size = n.size := rfl; omega
    go_wp2_with fail
    refine (text_any n hq _ (he.below B4 hz)).mono ?_
    rintro e w5 ⟨rfl, b5⟩
    have BT := B4.trans (b5.mono B4.size)
    replace hi := hi.later b5
    clear b5 ho
    rcases hr0 : r with _ | ⟨r1, r2⟩
    · have HR0 := Lib.hid hr0; clear hr0
      have hi0 := hi; rw [HR0.out] at hi0
      go_wp2_with fail
      refine (left_any _ _ _ _ hi0).mono ?_
      rintro e w8 ⟨rfl, rfl⟩
      go_wp2_with fail
      refine (done_any _ _ _ _ hi0).mono ?_
      rintro e w8 ⟨rfl, rfl⟩
      go_wp2_with fail
      refine (left_any _ _ _ _ hi0).mono ?_
      rintro e w8 ⟨rfl, rfl⟩
      go_wp2_with fail
      go_ret
      exact ⟨ret_bool (eq_pre _ r l HS.out _ (by rw [HR0.out]; rfl)), BT⟩
    · have HR0 := Lib.hid hr0; clear hr0
      have hrp0 : 0 < r.length := by rw [HR0.out]; simp
      have hrp : ((r.length : Int) == 0) = false := beq_eq_false_iff_ne.2 (show (r.length : Int) ≠ 0 by omega)
      go_wp2_with fail
      refine (left_any _ _ _ _ hi).mono ?_
      rintro e w8 ⟨rfl, rfl⟩
      go_wp2_with fail
      refine (left_any _ _ _ _ hi).mono ?_
      rintro e w8 ⟨rfl, rfl⟩
      go_wp2_with fail
      go_ret
      exact ⟨ret_bool (eq_pre _ r l HS.out _ (by omega)), BT⟩

set_option maxRecDepth 100000 in
set_option maxHeartbeats 8000000 in
theorem again_3 (l : List UInt8) (what : Int) (hw : -9223372036854775808 ≤ what ∧ what ≤ 9223372036854775807) (hk : kindOf what = 3) (w : World) (he : Env w) (hl : l.length ≤ 400) :
    Calls Tryd.prog 6 #[.string ⟨l.toArray⟩, .int .i64 what] w (Gives (.bool true) w) := by
  have hz := he.size
  have HK := Lib.hid hk
  clear hk
  go_enter Tryd.func6, Tryd.ntmps6
  go_wp2_with fail
  refine (small_any w he).mono ?_
  rintro e w1 ⟨rfl, b1⟩
  go_wp2_with fail
  refine (open_any _ _).mono ?_
  rintro e w2 ⟨rfl, h2⟩
  have B2 : RowKit.Below w.heap.size w w2 := by rw [h2]; exact b1.alloc b1.size _
  have I2 : IsR w1.heap.size l false w2 := by rw [h2]; exact fresh_R _ _
  have hs1 := b1.size
  clear h2
  go_wp2_with fail
  refine (kind_any what _ _ _ _ hw _).mono ?_
  rintro e w3 ⟨rfl, b3⟩
  have B3 := B2.trans (b3.mono B2.size)
  have I3 := I2.later b3
  clear b3 I2
  rw [HK.out]
  go_wp2_with fail
  refine (rnums_any w1.heap.size l (by omega) _ I3 (he.below B3 hz) (Nat.le_trans hz hs1)).mono ?_
  rintro e w4 hr
  rcases hp : pList (pInt 59) l with _ | ⟨n, r⟩
  · have HP := Lib.hid hp
    unfold ReadsL at hr; rw [hp] at hr
    obtain ⟨ho, rfl, hi⟩ := hr
    clear hp
    have B4 := below_on B3 hs1 ho
    go_wp2_with fail
    refine (s_nums0 _ (he.below B4 hz)).mono ?_
    rintro e w5 ⟨rfl, b5⟩
    have BT := B4.trans (b5.mono B4.size)
    replace hi := hi.later b5
    clear b5 ho
    go_wp2_with fail
    refine (left_any _ _ _ _ hi).mono ?_
    rintro e w8 ⟨rfl, rfl⟩
    go_wp2_with fail
    refine (done_any _ _ _ _ hi).mono ?_
    rintro e w8 ⟨rfl, rfl⟩
    go_wp2_with fail
    go_ret
    exact ⟨rfl, BT⟩
  · have HP := Lib.hid hp
    unfold ReadsL at hr; rw [hp] at hr
    obtain ⟨ho, a, cap, rfl, hc, hi⟩ := hr
    have HC := Lib.hid hc
    clear hp hc
    have B4 := below_on B3 hs1 ho
    have HS : Hid (l = encNums n ++ r) := (pNums_some HP.out).1
    have HOK : Hid (IntsOk n) := (pNums_some HP.out).2
    have hq : n.length ≤ 100000 := by have := congrArg List.length HS.out; have h2 := flat_ge encInt n (fun z => by simp [encInt]); simp [encNums] at this; rw [List.length_flatMap] at h2; omega
    have hql : r.length < l.length := by have := congrArg List.length HS.out; simp [encNums] at this; omega
    go_wp2_with fail
    refine (nums_any a cap n hq _ (he.below B4 hz) HC.out HOK.out).mono ?_
    rintro e w5 ⟨rfl, b5⟩
    have BT := B4.trans (b5.mono B4.size)
    replace hi := hi.later b5
    clear b5 ho
    rcases hr0 : r with _ | ⟨r1, r2⟩
    · have HR0 := Lib.hid hr0; clear hr0
      have hi0 := hi; rw [HR0.out] at hi0
      go_wp2_with fail
      refine (left_any _ _ _ _ hi0).mono ?_
      rintro e w8 ⟨rfl, rfl⟩
      go_wp2_with fail
      refine (done_any _ _ _ _ hi0).mono ?_
      rintro e w8 ⟨rfl, rfl⟩
      go_wp2_with fail
      refine (left_any _ _ _ _ hi0).mono ?_
      rintro e w8 ⟨rfl, rfl⟩
      go_wp2_with fail
      go_ret
      exact ⟨ret_bool (eq_pre _ r l HS.out _ (by rw [HR0.out]; rfl)), BT⟩
    · have HR0 := Lib.hid hr0; clear hr0
      have hrp0 : 0 < r.length := by rw [HR0.out]; simp
      have hrp : ((r.length : Int) == 0) = false := beq_eq_false_iff_ne.2 (show (r.length : Int) ≠ 0 by omega)
      go_wp2_with fail
      refine (left_any _ _ _ _ hi).mono ?_
      rintro e w8 ⟨rfl, rfl⟩
      go_wp2_with fail
      refine (left_any _ _ _ _ hi).mono ?_
      rintro e w8 ⟨rfl, rfl⟩
      go_wp2_with fail
      go_ret
      exact ⟨ret_bool (eq_pre _ r l HS.out _ (by omega)), BT⟩

set_option maxRecDepth 100000 in
set_option maxHeartbeats 8000000 in
theorem again_4 (l : List UInt8) (what : Int) (hw : -9223372036854775808 ≤ what ∧ what ≤ 9223372036854775807) (hk : kindOf what = 4) (w : World) (he : Env w) (hl : l.length ≤ 400) :
    Calls Tryd.prog 6 #[.string ⟨l.toArray⟩, .int .i64 what] w (Gives (.bool true) w) := by
  have hz := he.size
  have HK := Lib.hid hk
  clear hk
  go_enter Tryd.func6, Tryd.ntmps6
  go_wp2_with fail
  refine (small_any w he).mono ?_
  rintro e w1 ⟨rfl, b1⟩
  go_wp2_with fail
  refine (open_any _ _).mono ?_
  rintro e w2 ⟨rfl, h2⟩
  have B2 : RowKit.Below w.heap.size w w2 := by rw [h2]; exact b1.alloc b1.size _
  have I2 : IsR w1.heap.size l false w2 := by rw [h2]; exact fresh_R _ _
  have hs1 := b1.size
  clear h2
  go_wp2_with fail
  refine (kind_any what _ _ _ _ hw _).mono ?_
  rintro e w3 ⟨rfl, b3⟩
  have B3 := B2.trans (b3.mono B2.size)
  have I3 := I2.later b3
  clear b3 I2
  rw [HK.out]
  go_wp2_with fail
  refine (rtexts_any w1.heap.size l (by omega) _ I3 (he.below B3 hz) (Nat.le_trans hz hs1)).mono ?_
  rintro e w4 hr
  rcases hp : pList pText l with _ | ⟨n, r⟩
  · have HP := Lib.hid hp
    unfold ReadsT at hr; rw [hp] at hr
    obtain ⟨ho, rfl, hi⟩ := hr
    clear hp
    have B4 := below_on B3 hs1 ho
    go_wp2_with fail
    refine (s_texts _ (he.below B4 hz)).mono ?_
    rintro e w5 ⟨rfl, b5⟩
    have BT := B4.trans (b5.mono B4.size)
    replace hi := hi.later b5
    clear b5 ho
    go_wp2_with fail
    refine (left_any _ _ _ _ hi).mono ?_
    rintro e w8 ⟨rfl, rfl⟩
    go_wp2_with fail
    refine (done_any _ _ _ _ hi).mono ?_
    rintro e w8 ⟨rfl, rfl⟩
    go_wp2_with fail
    go_ret
    exact ⟨rfl, BT⟩
  · have HP := Lib.hid hp
    unfold ReadsT at hr; rw [hp] at hr
    obtain ⟨ho, a, cap, rfl, hc, hi⟩ := hr
    have HC := Lib.hid hc
    clear hp hc
    have B4 := below_on B3 hs1 ho
    have HS : Hid (l = encTexts n ++ r) := pTexts_some HP.out
    have hq : n.length ≤ 400 := by have := congrArg List.length HS.out; have h2 := flat_ge encS n (fun z => by simp [encS, encText]; omega); simp [encTexts] at this; rw [List.length_flatMap] at h2; omega
    have HOK : Hid (∀ z ∈ n, z.size ≤ 400) := fun z hz => by
      have h1 := congrArg List.length HS.out
      have h2 := flat_mem encS n z hz
      have h3 : z.size ≤ (encS z).length := by simp only [encS, encText, List.length_append, Array.length_toList]; have e : z.data.size = z.size := rfl; omega
      simp only [encTexts, List.length_append] at h1; omega
    have hql : r.length < l.length := by have := congrArg List.length HS.out; simp [encTexts] at this; omega
    go_wp2_with fail
    refine (texts_any a cap n 400 (by omega) (by omega) (by omega) _ (he.below B4 hz) HC.out HOK.out).mono ?_
    rintro e w5 ⟨rfl, b5⟩
    have BT := B4.trans (b5.mono B4.size)
    replace hi := hi.later b5
    clear b5 ho
    rcases hr0 : r with _ | ⟨r1, r2⟩
    · have HR0 := Lib.hid hr0; clear hr0
      have hi0 := hi; rw [HR0.out] at hi0
      go_wp2_with fail
      refine (left_any _ _ _ _ hi0).mono ?_
      rintro e w8 ⟨rfl, rfl⟩
      go_wp2_with fail
      refine (done_any _ _ _ _ hi0).mono ?_
      rintro e w8 ⟨rfl, rfl⟩
      go_wp2_with fail
      refine (left_any _ _ _ _ hi0).mono ?_
      rintro e w8 ⟨rfl, rfl⟩
      go_wp2_with fail
      go_ret
      exact ⟨ret_bool (eq_pre _ r l HS.out _ (by rw [HR0.out]; rfl)), BT⟩
    · have HR0 := Lib.hid hr0; clear hr0
      have hrp0 : 0 < r.length := by rw [HR0.out]; simp
      have hrp : ((r.length : Int) == 0) = false := beq_eq_false_iff_ne.2 (show (r.length : Int) ≠ 0 by omega)
      go_wp2_with fail
      refine (left_any _ _ _ _ hi).mono ?_
      rintro e w8 ⟨rfl, rfl⟩
      go_wp2_with fail
      refine (left_any _ _ _ _ hi).mono ?_
      rintro e w8 ⟨rfl, rfl⟩
      go_wp2_with fail
      go_ret
      exact ⟨ret_bool (eq_pre _ r l HS.out _ (by omega)), BT⟩

end Go.Proofs.YtpcdogbioopdgaaDoor
