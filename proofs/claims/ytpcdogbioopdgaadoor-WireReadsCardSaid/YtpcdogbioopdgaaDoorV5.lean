/- WireReads. -/
import Derived.Test.YtpcdogbioopdgaaDoorV4
import Derived.Test.YtpcdogbioopdgaaDoorQ
namespace Go.Proofs.YtpcdogbioopdgaaDoor
open Go.RowKit Go.Sort

theorem rl_bad_int (b : Nat) (w : World) (h : IsR b [] true w) (he : Env w) :
    Calls Tryd.prog 55 #[.pointer (some ⟨b, 0, none⟩), .func (.func 26) #[.pointer (some ⟨b, 0, none⟩)] #[]] w fun e w' => e = .returned (.slice none 0 0) ∧ w.grownBy w' (some b) ∧ IsR b [] true w' := by
  go_enter Tryd.func55, Tryd.ntmps55
  go_wp2_with fail
  refine (number_any b 91 [] true (by simp) w h he).mono ?_
  rintro e w1 hr
  obtain ⟨ho, rfl, hir⟩ := hr.none' (pNum_nil 91)
  clear hr
  have c0 := hir.c0
  have c1 := hir.c1
  have HO := Lib.hid ho
  have HI := Lib.hid hir
  clear ho hir
  go_wp2_with fail
  go_loopw [7] (fun i wr => i = .int .i64 0 ∧ wr = w1) (fun _ _ => 0)
  case atStart => exact ⟨rfl, rfl⟩
  case round =>
    obtain ⟨rfl, rfl⟩ := hrel
    go_wp2_with fail
    refine (hasP [] false rfl _).mono ?_
    rintro e w3 ⟨rfl, rfl⟩
    go_wp2_with fail
    refine (fail_any b [] true _ HI.out).mono ?_
    rintro e w4 ⟨rfl, ho4, hir4⟩
    go_wp2_with fail
    go_ret
    exact ⟨rfl, on_trans HO.out ho4, hir4⟩

theorem rl_bad_str (b : Nat) (w : World) (h : IsR b [] true w) (he : Env w) :
    Calls Tryd.prog 56 #[.pointer (some ⟨b, 0, none⟩), .func (.func 28) #[.pointer (some ⟨b, 0, none⟩)] #[]] w fun e w' => e = .returned (.slice none 0 0) ∧ w.grownBy w' (some b) ∧ IsR b [] true w' := by
  go_enter Tryd.func56, Tryd.ntmps56
  go_wp2_with fail
  refine (number_any b 91 [] true (by simp) w h he).mono ?_
  rintro e w1 hr
  obtain ⟨ho, rfl, hir⟩ := hr.none' (pNum_nil 91)
  clear hr
  have c0 := hir.c0
  have c1 := hir.c1
  have HO := Lib.hid ho
  have HI := Lib.hid hir
  clear ho hir
  go_wp2_with fail
  go_loopw [7] (fun i wr => i = .int .i64 0 ∧ wr = w1) (fun _ _ => 0)
  case atStart => exact ⟨rfl, rfl⟩
  case round =>
    obtain ⟨rfl, rfl⟩ := hrel
    go_wp2_with fail
    refine (hasP [] false rfl _).mono ?_
    rintro e w3 ⟨rfl, rfl⟩
    go_wp2_with fail
    refine (fail_any b [] true _ HI.out).mono ?_
    rintro e w4 ⟨rfl, ho4, hir4⟩
    go_wp2_with fail
    go_ret
    exact ⟨rfl, on_trans HO.out ho4, hir4⟩
theorem rnums_bad (b : Nat) (w : World) (h : IsR b [] true w) (he : Env w) :
    Calls Tryd.prog 31 #[.pointer (some ⟨b, 0, none⟩)] w fun e w' => e = .returned (.slice none 0 0) ∧ w.grownBy w' (some b) ∧ IsR b [] true w' := by
  go_enter Tryd.func31, Tryd.ntmps31
  go_wp2_with fail
  refine (rl_bad_int b w h he).mono ?_
  rintro e w1 ⟨rfl, ho, hi⟩
  go_wp2_with fail
  go_ret
  exact ⟨rfl, ho, hi⟩
theorem rtexts_bad (b : Nat) (w : World) (h : IsR b [] true w) (he : Env w) :
    Calls Tryd.prog 34 #[.pointer (some ⟨b, 0, none⟩)] w fun e w' => e = .returned (.slice none 0 0) ∧ w.grownBy w' (some b) ∧ IsR b [] true w' := by
  go_enter Tryd.func34, Tryd.ntmps34
  go_wp2_with fail
  refine (rl_bad_str b w h he).mono ?_
  rintro e w1 ⟨rfl, ho, hi⟩
  go_wp2_with fail
  go_ret
  exact ⟨rfl, ho, hi⟩

/-- Both readers stand at the same place. -/
def Both (w0 : World) (b q : Nat) (l : List UInt8) (wr : World) : Prop :=
  ∃ st bad, Old w0 wr ∧ IsR b st bad wr ∧ IsQ q st bad wr ∧ (bad = true → st = []) ∧ st.length ≤ l.length
theorem pNum_len {c : UInt8} {s : List UInt8} {n : Int} {r : List UInt8} (h : pNum c s = some (n, r)) : r.length < s.length := pInt_len (pNum_some h).1
theorem pNums_len {s : List UInt8} {x : List Int} {r : List UInt8} (h : pList (pInt 59) s = some (x, r)) : x.length ≤ s.length ∧ r.length ≤ s.length := by
  have h1 := congrArg List.length (pNums_some h).1
  have h2 := flat_ge encInt x (fun z => by simp [encInt])
  simp only [encNums, List.length_append, List.length_cons, List.length_nil] at h1
  omega
theorem pTexts_len {s : List UInt8} {x : List ByteArray} {r : List UInt8} (h : pList pText s = some (x, r)) : x.length ≤ s.length ∧ r.length ≤ s.length := by
  have h1 := congrArg List.length (pTexts_some h)
  have h2 := flat_ge encS x (fun z => by simp [encS, encText]; omega)
  simp only [encTexts, List.length_append, List.length_cons, List.length_nil] at h1
  omega
theorem IsQ.on {q b : Nat} {s : List UInt8} {bad : Bool} {w w' : World} (h : IsQ q s bad w) (ho : w.grownBy w' (some b)) (hne : q ≠ b) : IsQ q s bad w' := by
  unfold IsQ; rw [ho.block q h.lt (by simp [hne])]; exact h
theorem IsQ.cellAt {q : Nat} {st : List UInt8} {bad : Bool} {w : World} (h : IsQ q st bad w) {o : Nat} {v : Value} (hv : w.cell? ⟨q, o, none⟩ = some v) : v = .string ⟨st.toArray⟩ ∨ v = .bool bad := by
  match o, hv with
  | 0, hv => rw [h.c0] at hv; left; exact (Option.some.inj hv).symm
  | 1, hv => rw [h.c1] at hv; right; exact (Option.some.inj hv).symm
  | n + 2, hv => simp [World.cell?, show w.heap[q]? = _ from h] at hv
theorem IntCells.onQ {w w' : World} {a : Option Addr} {x : List Int} {q : Nat} {st : List UInt8} {bad : Bool} (h : IntCells w a x) (hq : IsQ q st bad w) (ho : w.grownBy w' (some q)) : IntCells w' a x :=
  h.elim .inl (fun ⟨b, o, e, hc⟩ => .inr ⟨b, o, e, fun i hi => cell_on (hc i hi) ho (fun e => by
    subst e
    rcases hq.cellAt (hc i hi) with h | h <;> cases h)⟩)
theorem StrCells.onQ {w w' : World} {a : Option Addr} {x : List ByteArray} {q : Nat} {st : List UInt8} {bad : Bool} (h : StrCells w a x) (hq : IsQ q st bad w) (hx : ∀ z ∈ x, z.size < st.length) (ho : w.grownBy w' (some q)) : StrCells w' a x :=
  h.elim .inl (fun ⟨b, o, e, hc⟩ => .inr ⟨b, o, e, fun i hi => cell_on (hc i hi) ho (fun e => by
    subst e
    rcases hq.cellAt (hc i hi) with h | h
    · injection h with h
      have h1 := hx _ (List.getElem_mem hi)
      rw [h] at h1
      simp [ByteArray.size] at h1
    · cases h)⟩)
theorem pTexts_small {s : List UInt8} {x : List ByteArray} {r : List UInt8} (h : pList pText s = some (x, r)) : ∀ z ∈ x, z.size < s.length := by
  intro z hz
  have h1 := congrArg List.length (pTexts_some h)
  have h2 := flat_mem encS x z hz
  have h3 : z.size ≤ (encS z).length := by
    simp only [encS, encText, List.length_append, Array.length_toList]
    have e : z.data.size = z.size := rfl
    omega
  simp only [encTexts, List.length_append, List.length_cons, List.length_nil] at h1
  omega
theorem IsR.on {q b : Nat} {s : List UInt8} {bad : Bool} {w w' : World} (h : IsR b s bad w) (ho : w.grownBy w' (some q)) (hne : b ≠ q) : IsR b s bad w' := by
  unfold IsR; rw [ho.block b h.lt (by simp [hne])]; exact h

set_option maxRecDepth 100000 in
set_option maxHeartbeats 8000000 in
theorem reads_long (l : List UInt8) (a : Option Addr) (cap : Nat) (zs : List Int) (hm : l.length ≤ 9223372036854775807) (hzm : zs.length ≤ 9223372036854775807) (hl : ¬ (l.length ≤ 400 ∧ zs.length ≤ 20)) (w : World) (he : Env w) :
    Calls Tryd.prog 4 #[.string ⟨l.toArray⟩, .slice a zs.length cap] w (Gives (.bool true) w) := by
  by_cases h4 : l.length ≤ 400
  · have h20 : 20 < zs.length := by omega
    go_enter Tryd.func4, Tryd.ntmps4
    go_wp2_with fail
    refine (small_any _ he).mono ?_
    rintro e w1 ⟨rfl, b1⟩
    go_wp2_with fail
    go_ret
    exact ⟨rfl, b1⟩
  · have h401 : 400 < l.length := by omega
    go_enter Tryd.func4, Tryd.ntmps4
    go_wp2_with fail
    refine (small_any _ he).mono ?_
    rintro e w1 ⟨rfl, b1⟩
    go_wp2_with fail
    go_ret
    exact ⟨rfl, b1⟩

set_option maxRecDepth 100000 in
set_option maxHeartbeats 16000000 in
theorem reads_main (l : List UInt8) (a : Option Addr) (cap : Nat) (zs : List Int) (hl : l.length ≤ 400) (h20 : zs.length ≤ 20) (w : World) (he : Env w) (hcells : IntCells w a zs) (hok : IntsOk zs) :
    Calls Tryd.prog 4 #[.string ⟨l.toArray⟩, .slice a zs.length cap] w (Gives (.bool true) w) := by
  have hz := he.size
  have HE := Lib.hid he
  have HOK := Lib.hid hok
  clear hok
  rcases hcells with h0' | ⟨ba, off, rfl, hc⟩
  · have h0 := Lib.hid h0'; clear h0'
    go_enter Tryd.func4, Tryd.ntmps4
    go_wp2_with fail
    refine (small_any _ he).mono ?_
    rintro e w1 ⟨rfl, b1⟩
    go_wp2_with fail
    refine (open_any _ _).mono ?_
    rintro e w2 ⟨rfl, h2⟩
    have O2 : Old w w2 := by rw [h2]; exact RowKit.Below.alloc b1 b1.size _
    have I2 : IsR w1.heap.size l false w2 := by rw [h2]; exact fresh_R _ _
    have hsz2 : w2.heap.size = w1.heap.size + 1 := by rw [h2]; simp
    have hsb := b1.size
    clear h2
    go_wp2_with fail
    refine (openQ _ _).mono ?_
    rintro e w3 ⟨rfl, h3⟩
    have O3 : Old w w3 := by rw [h3]; exact RowKit.Below.alloc O2 O2.size _
    have Q3 : IsQ w2.heap.size l false w3 := by rw [h3]; exact fresh_Q _ _
    have I3 : IsR w1.heap.size l false w3 := I2.later (by rw [h3]; exact (Below.refl _ _).alloc (Nat.le_refl _) _)
    have hsq := O2.size
    obtain ⟨b, hb⟩ : ∃ b, b = w1.heap.size := ⟨_, rfl⟩
    obtain ⟨q, hq⟩ : ∃ q, q = w2.heap.size := ⟨_, rfl⟩
    have hne : b ≠ q := by omega
    rw [← hb] at I3 hsb
    rw [← hq] at Q3 hsq
    rw [← hb, ← hq]
    clear h3 I2 O2 hsz2 hb hq b1
    go_wp2_with fail
    go_loopw [8] (fun i wr => ∃ k : Nat, k ≤ zs.length ∧ i = .int .i64 k ∧ Both w b q l wr) (fun i _ => zs.length - (RowKit.intOf i).toNat)
    case atStart => exact ⟨0, by omega, rfl, l, false, O3, I3, Q3, fun h => (by cases h), Nat.le_refl _⟩
    case round =>
      clear O3 I3 Q3
      obtain ⟨k, hk, rfl, st, bad, O0, iR, iQ, hbad, hstl⟩ := hrel
      have HB := Lib.hid hbad
      clear hbad
      by_cases hlt : k < zs.length
      · exfalso; simp [h0.out] at hlt
      · go_wp2_with fail
        refine (rest_any _ _ _ _ iR).mono ?_
        rintro e w3 ⟨rfl, hoR, iR1⟩
        go_wp2_with fail
        refine (tailQ _ _ _ _ (iQ.on hoR hne.symm)).mono ?_
        rintro e w4 ⟨rfl, hoQ, iQ2⟩
        have iR2 := iR1.on hoQ hne
        have O2 := Old.on (Old.on O0 hsb hoR) hsq hoQ
        clear hoR hoQ iR1
        go_wp2_with fail
        refine (left_any _ _ _ _ iR2).mono ?_
        rintro e wx ⟨rfl, rfl⟩
        go_wp2_with fail
        refine (leftQ _ _ _ _ iQ2).mono ?_
        rintro e wx ⟨rfl, rfl⟩
        go_wp2_with fail
        refine (done_any _ _ _ _ iR2).mono ?_
        rintro e wx ⟨rfl, rfl⟩
        go_wp2_with fail
        refine (doneQ _ _ _ _ iQ2).mono ?_
        rintro e wx ⟨rfl, rfl⟩
        go_wp2_with fail
        go_ret
        exact ⟨rfl, O2⟩
  · go_enter Tryd.func4, Tryd.ntmps4
    go_wp2_with fail
    refine (small_any _ he).mono ?_
    rintro e w1 ⟨rfl, b1⟩
    go_wp2_with fail
    refine (open_any _ _).mono ?_
    rintro e w2 ⟨rfl, h2⟩
    have O2 : Old w w2 := by rw [h2]; exact RowKit.Below.alloc b1 b1.size _
    have I2 : IsR w1.heap.size l false w2 := by rw [h2]; exact fresh_R _ _
    have hsz2 : w2.heap.size = w1.heap.size + 1 := by rw [h2]; simp
    have hsb := b1.size
    clear h2
    go_wp2_with fail
    refine (openQ _ _).mono ?_
    rintro e w3 ⟨rfl, h3⟩
    have O3 : Old w w3 := by rw [h3]; exact RowKit.Below.alloc O2 O2.size _
    have Q3 : IsQ w2.heap.size l false w3 := by rw [h3]; exact fresh_Q _ _
    have I3 : IsR w1.heap.size l false w3 := I2.later (by rw [h3]; exact (Below.refl _ _).alloc (Nat.le_refl _) _)
    have hsq := O2.size
    obtain ⟨b, hb⟩ : ∃ b, b = w1.heap.size := ⟨_, rfl⟩
    obtain ⟨q, hq⟩ : ∃ q, q = w2.heap.size := ⟨_, rfl⟩
    have hne : b ≠ q := by omega
    rw [← hb] at I3 hsb
    rw [← hq] at Q3 hsq
    rw [← hb, ← hq]
    clear h3 I2 O2 hsz2 hb hq b1
    go_wp2_with fail
    go_loopw [8] (fun i wr => ∃ k : Nat, k ≤ zs.length ∧ i = .int .i64 k ∧ Both w b q l wr) (fun i _ => zs.length - (RowKit.intOf i).toNat)
    case atStart => exact ⟨0, by omega, rfl, l, false, O3, I3, Q3, fun h => (by cases h), Nat.le_refl _⟩
    case round =>
      clear O3 I3 Q3
      obtain ⟨k, hk, rfl, st, bad, O0, iR, iQ, hbad, hstl⟩ := hrel
      have HB := Lib.hid hbad
      clear hbad
      by_cases hlt : k < zs.length
      · have hck := cell_later (hc k hlt) O0
        have hzk := HOK.out _ (List.getElem_mem hlt)
        obtain ⟨z, hzz⟩ : ∃ z, z = zs[k] := ⟨_, rfl⟩
        have hck2 : wr.cell? ⟨ba, off + k, none⟩ = some (.int .i64 z) := by
          rw [hck, hzz]; simp [hlt]
        rw [← hzz] at hzk
        clear hck hc hzz
        go_wp2_with fail
        refine (kind_any z _ _ _ _ hzk _).mono ?_
        rintro e w2 ⟨rfl, b2⟩
        have O1 := O0.step b2
        replace iR := iR.later b2
        replace iQ := iQ.later b2
        have HEW := Lib.hid (HE.out.below O1 hz)
        clear b2 O0 hck2
        have hkk := kindOf_bd z
        obtain ⟨K, hK⟩ : ∃ K, K = kindOf z := ⟨_, rfl⟩
        rw [← hK] at hkk
        rw [← hK]
        clear hK
        have h5 : K = 0 ∨ K = 1 ∨ K = 2 ∨ K = 3 ∨ K = 4 := by omega
        rcases h5 with h | h | h | h | h
        all_goals
          subst h
          go_wp2_with fail
        · refine (rnum_any b st bad (by omega) _ iR HEW.out).mono ?_
          rintro e w3 hr
          rcases hp : pNum 59 st with _ | ⟨x, r⟩
          · obtain ⟨hoR, rfl, iR1⟩ := Reads.none' hr hp
            have HP := Lib.hid hp
            clear hr hp
            go_wp2_with fail
            refine (numQ q st bad (by omega) _ (iQ.on hoR hne.symm)).mono ?_
            rintro e w4 hr
            obtain ⟨hoQ, rfl, iQ2⟩ := ReadsQ.none' hr HP.out
            clear hr
            have O2 := Old.on (Old.on O1 hsb hoR) hsq hoQ
            have iR2 := iR1.on hoQ hne
            clear hoR hoQ iR1
            go_wp2_with fail
            refine (left_any _ _ _ _ iR2).mono ?_
            rintro e wx ⟨rfl, rfl⟩
            go_wp2_with fail
            refine (leftQ _ _ _ _ iQ2).mono ?_
            rintro e wx ⟨rfl, rfl⟩
            go_wp2_with fail
            refine (done_any _ _ _ _ iR2).mono ?_
            rintro e wx ⟨rfl, rfl⟩
            go_wp2_with fail
            refine (doneQ _ _ _ _ iQ2).mono ?_
            rintro e wx ⟨rfl, rfl⟩
            go_wp2_with fail
            go_roundw
            case rel => exact ⟨k + 1, by omega, by go_num, [], true, O2, iR2, iQ2, fun _ => rfl, by simp⟩
            case measure => simp [RowKit.intOf]; omega
          · obtain ⟨hoR, rfl, iR1⟩ := Reads.some' hr hp
            have hlen := pNum_len hp
            have HB2 : Hid (bad = true → r = []) := fun h => by have h2 := HB.out h; subst h2; simp at hlen
            have HP := Lib.hid hp
            clear hr hp
            go_wp2_with fail
            refine (numQ q st bad (by omega) _ (iQ.on hoR hne.symm)).mono ?_
            rintro e w4 hr
            obtain ⟨hoQ, rfl, iQ2⟩ := ReadsQ.some' hr HP.out
            clear hr
            have O2 := Old.on (Old.on O1 hsb hoR) hsq hoQ
            have iR2 := iR1.on hoQ hne
            clear hoR hoQ iR1
            go_wp2_with fail
            refine (left_any _ _ _ _ iR2).mono ?_
            rintro e wx ⟨rfl, rfl⟩
            go_wp2_with fail
            refine (leftQ _ _ _ _ iQ2).mono ?_
            rintro e wx ⟨rfl, rfl⟩
            go_wp2_with fail
            refine (done_any _ _ _ _ iR2).mono ?_
            rintro e wx ⟨rfl, rfl⟩
            go_wp2_with fail
            refine (doneQ _ _ _ _ iQ2).mono ?_
            rintro e wx ⟨rfl, rfl⟩
            go_wp2_with fail
            go_roundw
            case rel => exact ⟨k + 1, by omega, by go_num, r, bad, O2, iR2, iQ2, HB2.out, by omega⟩
            case measure => simp [RowKit.intOf]; omega
        · refine (rint_any b st bad (by omega) _ iR HEW.out).mono ?_
          rintro e w3 hr
          rcases hp : pInt 59 st with _ | ⟨x, r⟩
          · obtain ⟨hoR, rfl, iR1⟩ := Reads.none' hr hp
            have HP := Lib.hid hp
            clear hr hp
            go_wp2_with fail
            refine (intQ q st bad (by omega) _ (iQ.on hoR hne.symm)).mono ?_
            rintro e w4 hr
            obtain ⟨hoQ, rfl, iQ2⟩ := ReadsQ.none' hr HP.out
            clear hr
            have O2 := Old.on (Old.on O1 hsb hoR) hsq hoQ
            have iR2 := iR1.on hoQ hne
            clear hoR hoQ iR1
            go_wp2_with fail
            refine (left_any _ _ _ _ iR2).mono ?_
            rintro e wx ⟨rfl, rfl⟩
            go_wp2_with fail
            refine (leftQ _ _ _ _ iQ2).mono ?_
            rintro e wx ⟨rfl, rfl⟩
            go_wp2_with fail
            refine (done_any _ _ _ _ iR2).mono ?_
            rintro e wx ⟨rfl, rfl⟩
            go_wp2_with fail
            refine (doneQ _ _ _ _ iQ2).mono ?_
            rintro e wx ⟨rfl, rfl⟩
            go_wp2_with fail
            go_roundw
            case rel => exact ⟨k + 1, by omega, by go_num, [], true, O2, iR2, iQ2, fun _ => rfl, by simp⟩
            case measure => simp [RowKit.intOf]; omega
          · obtain ⟨hoR, rfl, iR1⟩ := Reads.some' hr hp
            have hlen := pInt_len hp
            have HB2 : Hid (bad = true → r = []) := fun h => by have h2 := HB.out h; subst h2; simp at hlen
            have HP := Lib.hid hp
            clear hr hp
            go_wp2_with fail
            refine (intQ q st bad (by omega) _ (iQ.on hoR hne.symm)).mono ?_
            rintro e w4 hr
            obtain ⟨hoQ, rfl, iQ2⟩ := ReadsQ.some' hr HP.out
            clear hr
            have O2 := Old.on (Old.on O1 hsb hoR) hsq hoQ
            have iR2 := iR1.on hoQ hne
            clear hoR hoQ iR1
            go_wp2_with fail
            refine (left_any _ _ _ _ iR2).mono ?_
            rintro e wx ⟨rfl, rfl⟩
            go_wp2_with fail
            refine (leftQ _ _ _ _ iQ2).mono ?_
            rintro e wx ⟨rfl, rfl⟩
            go_wp2_with fail
            refine (done_any _ _ _ _ iR2).mono ?_
            rintro e wx ⟨rfl, rfl⟩
            go_wp2_with fail
            refine (doneQ _ _ _ _ iQ2).mono ?_
            rintro e wx ⟨rfl, rfl⟩
            go_wp2_with fail
            go_roundw
            case rel => exact ⟨k + 1, by omega, by go_num, r, bad, O2, iR2, iQ2, HB2.out, by omega⟩
            case measure => simp [RowKit.intOf]; omega
        · refine (rtext_any b st bad (by omega) _ iR HEW.out).mono ?_
          rintro e w3 hr
          rcases hp : pText st with _ | ⟨x, r⟩
          · obtain ⟨hoR, rfl, iR1⟩ := Reads.none' hr hp
            have HP := Lib.hid hp
            clear hr hp
            go_wp2_with fail
            refine (textQ q st bad HB.out (by omega) _ (iQ.on hoR hne.symm)).mono ?_
            rintro e w4 hr
            obtain ⟨hoQ, rfl, iQ2⟩ := ReadsQ.none' hr HP.out
            clear hr
            have O2 := Old.on (Old.on O1 hsb hoR) hsq hoQ
            have iR2 := iR1.on hoQ hne
            clear hoR hoQ iR1
            go_wp2_with fail
            refine (left_any _ _ _ _ iR2).mono ?_
            rintro e wx ⟨rfl, rfl⟩
            go_wp2_with fail
            refine (leftQ _ _ _ _ iQ2).mono ?_
            rintro e wx ⟨rfl, rfl⟩
            go_wp2_with fail
            refine (done_any _ _ _ _ iR2).mono ?_
            rintro e wx ⟨rfl, rfl⟩
            go_wp2_with fail
            refine (doneQ _ _ _ _ iQ2).mono ?_
            rintro e wx ⟨rfl, rfl⟩
            go_wp2_with fail
            go_roundw
            case rel => exact ⟨k + 1, by omega, by go_num, [], true, O2, iR2, iQ2, fun _ => rfl, by simp⟩
            case measure => simp [RowKit.intOf]; omega
          · obtain ⟨hoR, rfl, iR1⟩ := Reads.some' hr hp
            have hlen := pText_len hp
            have HB2 : Hid (bad = true → r = []) := fun h => by have h2 := HB.out h; subst h2; simp at hlen
            have HP := Lib.hid hp
            clear hr hp
            go_wp2_with fail
            refine (textQ q st bad HB.out (by omega) _ (iQ.on hoR hne.symm)).mono ?_
            rintro e w4 hr
            obtain ⟨hoQ, rfl, iQ2⟩ := ReadsQ.some' hr HP.out
            clear hr
            have O2 := Old.on (Old.on O1 hsb hoR) hsq hoQ
            have iR2 := iR1.on hoQ hne
            clear hoR hoQ iR1
            go_wp2_with fail
            refine (left_any _ _ _ _ iR2).mono ?_
            rintro e wx ⟨rfl, rfl⟩
            go_wp2_with fail
            refine (leftQ _ _ _ _ iQ2).mono ?_
            rintro e wx ⟨rfl, rfl⟩
            go_wp2_with fail
            refine (done_any _ _ _ _ iR2).mono ?_
            rintro e wx ⟨rfl, rfl⟩
            go_wp2_with fail
            refine (doneQ _ _ _ _ iQ2).mono ?_
            rintro e wx ⟨rfl, rfl⟩
            go_wp2_with fail
            go_roundw
            case rel => exact ⟨k + 1, by omega, by go_num, r, bad, O2, iR2, iQ2, HB2.out, by omega⟩
            case measure => simp [RowKit.intOf]; omega
        · cases bad
          · refine (rnums_any b st (by omega) _ iR HEW.out (Nat.le_trans hz hsb)).mono ?_
            rintro e w3 hr
            rcases hp : pList (pInt 59) st with _ | ⟨x, r⟩
            · unfold ReadsL at hr; rw [hp] at hr
              obtain ⟨hoR, rfl, iR1⟩ := hr
              have HP := Lib.hid hp
              clear hp
              go_wp2_with fail
              refine (numsQ q st false (fun h => by cases h) (by omega) _ (iQ.on hoR hne.symm)).mono ?_
              rintro e w4 hr
              unfold ReadsLQ at hr; rw [HP.out] at hr
              obtain ⟨hoQ, rfl, iQ2⟩ := hr
              go_wp2_with fail
              refine (sameNums none none 0 0 [] (by simp) _ (.inl rfl) (.inl rfl)).mono ?_
              rintro e w5 ⟨rfl, b5⟩
              have O5 := (Old.on (Old.on O1 hsb hoR) hsq hoQ).step b5
              have iR2 := (iR1.on hoQ hne).later b5
              replace iQ2 := iQ2.later b5
              clear hoR hoQ iR1 b5
              go_wp2_with fail
              refine (left_any _ _ _ _ iR2).mono ?_
              rintro e wx ⟨rfl, rfl⟩
              go_wp2_with fail
              refine (leftQ _ _ _ _ iQ2).mono ?_
              rintro e wx ⟨rfl, rfl⟩
              go_wp2_with fail
              refine (done_any _ _ _ _ iR2).mono ?_
              rintro e wx ⟨rfl, rfl⟩
              go_wp2_with fail
              refine (doneQ _ _ _ _ iQ2).mono ?_
              rintro e wx ⟨rfl, rfl⟩
              go_wp2_with fail
              go_roundw
              case rel => exact ⟨k + 1, by omega, by go_num, [], true, O5, iR2, iQ2, fun _ => rfl, by simp⟩
              case measure => simp [RowKit.intOf]; omega
            · unfold ReadsL at hr; rw [hp] at hr
              obtain ⟨hoR, a1, cap1, rfl, hc1, iR1⟩ := hr
              have hsz := Lib.hid (pNums_len hp)
              have HP := Lib.hid hp
              have HC1 := Lib.hid hc1
              clear hp hc1
              go_wp2_with fail
              refine (numsQ q st false (fun h => by cases h) (by omega) _ (iQ.on hoR hne.symm)).mono ?_
              rintro e w4 hr
              unfold ReadsLQ at hr; rw [HP.out] at hr
              obtain ⟨hoQ, a2, cap2, rfl, hc2, iQ2⟩ := hr
              have HC2 := Lib.hid hc2
              clear hc2
              go_wp2_with fail
              refine (sameNums a1 a2 cap1 cap2 x (by have := hsz.out; omega) _ (HC1.out.onQ (iQ.on hoR hne.symm) hoQ) HC2.out).mono ?_
              rintro e w5 ⟨rfl, b5⟩
              have O5 := (Old.on (Old.on O1 hsb hoR) hsq hoQ).step b5
              have iR2 := (iR1.on hoQ hne).later b5
              replace iQ2 := iQ2.later b5
              have hlen := hsz.out
              clear hoR hoQ iR1 b5
              go_wp2_with fail
              refine (left_any _ _ _ _ iR2).mono ?_
              rintro e wx ⟨rfl, rfl⟩
              go_wp2_with fail
              refine (leftQ _ _ _ _ iQ2).mono ?_
              rintro e wx ⟨rfl, rfl⟩
              go_wp2_with fail
              refine (done_any _ _ _ _ iR2).mono ?_
              rintro e wx ⟨rfl, rfl⟩
              go_wp2_with fail
              refine (doneQ _ _ _ _ iQ2).mono ?_
              rintro e wx ⟨rfl, rfl⟩
              go_wp2_with fail
              go_roundw
              case rel => exact ⟨k + 1, by omega, by go_num, r, false, O5, iR2, iQ2, (fun h => by cases h), by omega⟩
              case measure => simp [RowKit.intOf]; omega
          · have hst := HB.out rfl
            subst hst
            refine (rnums_bad b _ iR HEW.out).mono ?_
            rintro e w3 ⟨rfl, hoR, iR1⟩
            have HP : Hid (pList (pInt 59) [] = none) := by unfold Hid pList; rw [pNum_nil]
            go_wp2_with fail
            refine (numsQ q [] true (fun _ => rfl) (by simp) _ (iQ.on hoR hne.symm)).mono ?_
            rintro e w4 hr
            unfold ReadsLQ at hr; rw [HP.out] at hr
            obtain ⟨hoQ, rfl, iQ2⟩ := hr
            go_wp2_with fail
            refine (sameNums none none 0 0 [] (by simp) _ (.inl rfl) (.inl rfl)).mono ?_
            rintro e w5 ⟨rfl, b5⟩
            have O5 := (Old.on (Old.on O1 hsb hoR) hsq hoQ).step b5
            have iR2 := (iR1.on hoQ hne).later b5
            replace iQ2 := iQ2.later b5
            clear hoR hoQ iR1 b5
            go_wp2_with fail
            refine (left_any _ _ _ _ iR2).mono ?_
            rintro e wx ⟨rfl, rfl⟩
            go_wp2_with fail
            refine (leftQ _ _ _ _ iQ2).mono ?_
            rintro e wx ⟨rfl, rfl⟩
            go_wp2_with fail
            refine (done_any _ _ _ _ iR2).mono ?_
            rintro e wx ⟨rfl, rfl⟩
            go_wp2_with fail
            refine (doneQ _ _ _ _ iQ2).mono ?_
            rintro e wx ⟨rfl, rfl⟩
            go_wp2_with fail
            go_roundw
            case rel => exact ⟨k + 1, by omega, by go_num, [], true, O5, iR2, iQ2, fun _ => rfl, by simp⟩
            case measure => simp [RowKit.intOf]; omega
        · cases bad
          · refine (rtexts_any b st (by omega) _ iR HEW.out (Nat.le_trans hz hsb)).mono ?_
            rintro e w3 hr
            rcases hp : pList pText st with _ | ⟨x, r⟩
            · unfold ReadsT at hr; rw [hp] at hr
              obtain ⟨hoR, rfl, iR1⟩ := hr
              have HP := Lib.hid hp
              clear hp
              go_wp2_with fail
              refine (textsQ q st false (fun h => by cases h) (by omega) _ (iQ.on hoR hne.symm)).mono ?_
              rintro e w4 hr
              unfold ReadsTQ at hr; rw [HP.out] at hr
              obtain ⟨hoQ, rfl, iQ2⟩ := hr
              go_wp2_with fail
              refine (sameTexts none none 0 0 [] (by simp) _ (.inl rfl) (.inl rfl)).mono ?_
              rintro e w5 ⟨rfl, b5⟩
              have O5 := (Old.on (Old.on O1 hsb hoR) hsq hoQ).step b5
              have iR2 := (iR1.on hoQ hne).later b5
              replace iQ2 := iQ2.later b5
              clear hoR hoQ iR1 b5
              go_wp2_with fail
              refine (left_any _ _ _ _ iR2).mono ?_
              rintro e wx ⟨rfl, rfl⟩
              go_wp2_with fail
              refine (leftQ _ _ _ _ iQ2).mono ?_
              rintro e wx ⟨rfl, rfl⟩
              go_wp2_with fail
              refine (done_any _ _ _ _ iR2).mono ?_
              rintro e wx ⟨rfl, rfl⟩
              go_wp2_with fail
              refine (doneQ _ _ _ _ iQ2).mono ?_
              rintro e wx ⟨rfl, rfl⟩
              go_wp2_with fail
              go_roundw
              case rel => exact ⟨k + 1, by omega, by go_num, [], true, O5, iR2, iQ2, fun _ => rfl, by simp⟩
              case measure => simp [RowKit.intOf]; omega
            · unfold ReadsT at hr; rw [hp] at hr
              obtain ⟨hoR, a1, cap1, rfl, hc1, iR1⟩ := hr
              have hsz := Lib.hid (pTexts_len hp)
              have HP := Lib.hid hp
              have HC1 := Lib.hid hc1
              clear hp hc1
              go_wp2_with fail
              refine (textsQ q st false (fun h => by cases h) (by omega) _ (iQ.on hoR hne.symm)).mono ?_
              rintro e w4 hr
              unfold ReadsTQ at hr; rw [HP.out] at hr
              obtain ⟨hoQ, a2, cap2, rfl, hc2, iQ2⟩ := hr
              have HC2 := Lib.hid hc2
              clear hc2
              go_wp2_with fail
              refine (sameTexts a1 a2 cap1 cap2 x (by have := hsz.out; omega) _ (HC1.out.onQ (iQ.on hoR hne.symm) (pTexts_small HP.out) hoQ) HC2.out).mono ?_
              rintro e w5 ⟨rfl, b5⟩
              have O5 := (Old.on (Old.on O1 hsb hoR) hsq hoQ).step b5
              have iR2 := (iR1.on hoQ hne).later b5
              replace iQ2 := iQ2.later b5
              have hlen := hsz.out
              clear hoR hoQ iR1 b5
              go_wp2_with fail
              refine (left_any _ _ _ _ iR2).mono ?_
              rintro e wx ⟨rfl, rfl⟩
              go_wp2_with fail
              refine (leftQ _ _ _ _ iQ2).mono ?_
              rintro e wx ⟨rfl, rfl⟩
              go_wp2_with fail
              refine (done_any _ _ _ _ iR2).mono ?_
              rintro e wx ⟨rfl, rfl⟩
              go_wp2_with fail
              refine (doneQ _ _ _ _ iQ2).mono ?_
              rintro e wx ⟨rfl, rfl⟩
              go_wp2_with fail
              go_roundw
              case rel => exact ⟨k + 1, by omega, by go_num, r, false, O5, iR2, iQ2, (fun h => by cases h), by omega⟩
              case measure => simp [RowKit.intOf]; omega
          · have hst := HB.out rfl
            subst hst
            refine (rtexts_bad b _ iR HEW.out).mono ?_
            rintro e w3 ⟨rfl, hoR, iR1⟩
            have HP : Hid (pList pText [] = none) := by unfold Hid pList; rw [pNum_nil]
            go_wp2_with fail
            refine (textsQ q [] true (fun _ => rfl) (by simp) _ (iQ.on hoR hne.symm)).mono ?_
            rintro e w4 hr
            unfold ReadsTQ at hr; rw [HP.out] at hr
            obtain ⟨hoQ, rfl, iQ2⟩ := hr
            go_wp2_with fail
            refine (sameTexts none none 0 0 [] (by simp) _ (.inl rfl) (.inl rfl)).mono ?_
            rintro e w5 ⟨rfl, b5⟩
            have O5 := (Old.on (Old.on O1 hsb hoR) hsq hoQ).step b5
            have iR2 := (iR1.on hoQ hne).later b5
            replace iQ2 := iQ2.later b5
            clear hoR hoQ iR1 b5
            go_wp2_with fail
            refine (left_any _ _ _ _ iR2).mono ?_
            rintro e wx ⟨rfl, rfl⟩
            go_wp2_with fail
            refine (leftQ _ _ _ _ iQ2).mono ?_
            rintro e wx ⟨rfl, rfl⟩
            go_wp2_with fail
            refine (done_any _ _ _ _ iR2).mono ?_
            rintro e wx ⟨rfl, rfl⟩
            go_wp2_with fail
            refine (doneQ _ _ _ _ iQ2).mono ?_
            rintro e wx ⟨rfl, rfl⟩
            go_wp2_with fail
            go_roundw
            case rel => exact ⟨k + 1, by omega, by go_num, [], true, O5, iR2, iQ2, fun _ => rfl, by simp⟩
            case measure => simp [RowKit.intOf]; omega
      · go_wp2_with fail
        refine (rest_any _ _ _ _ iR).mono ?_
        rintro e w3 ⟨rfl, hoR, iR1⟩
        go_wp2_with fail
        refine (tailQ _ _ _ _ (iQ.on hoR hne.symm)).mono ?_
        rintro e w4 ⟨rfl, hoQ, iQ2⟩
        have iR2 := iR1.on hoQ hne
        have O2 := Old.on (Old.on O0 hsb hoR) hsq hoQ
        clear hoR hoQ iR1
        go_wp2_with fail
        refine (left_any _ _ _ _ iR2).mono ?_
        rintro e wx ⟨rfl, rfl⟩
        go_wp2_with fail
        refine (leftQ _ _ _ _ iQ2).mono ?_
        rintro e wx ⟨rfl, rfl⟩
        go_wp2_with fail
        refine (done_any _ _ _ _ iR2).mono ?_
        rintro e wx ⟨rfl, rfl⟩
        go_wp2_with fail
        refine (doneQ _ _ _ _ iQ2).mono ?_
        rintro e wx ⟨rfl, rfl⟩
        go_wp2_with fail
        go_ret
        exact ⟨rfl, O2⟩
end Go.Proofs.YtpcdogbioopdgaaDoor
