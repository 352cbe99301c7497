/- The reference's Nums and Texts. -/
import Derived.Test.YtpcdogbioopdgaaDoorV3
namespace Go.Proofs.YtpcdogbioopdgaaDoor
open Go.RowKit Go.Sort

/-- What holds at the head of a round. -/
def RLQ (w : World) (b : Nat) (r0 : List UInt8) (n : Nat) (v i : Value) (wr : World) : Prop :=
  ∃ k : Nat, k ≤ n ∧ i = .int .i64 k ∧ w.grownBy wr (some b) ∧
    ((∃ l r, run (pInt 59) k r0 = some (l, r) ∧ IsQ b r false wr ∧ wr.ownsRow w.heap.size 3 1 v l.length (l.map (Value.int .i64)) ∧ l.length = k ∧ r.length + k ≤ r0.length)
    ∨ (run (pInt 59) n r0 = none ∧ IsQ b [] true wr))
/-- How the reading of a list ends. -/
def ReadsLQ (b : Nat) (p : Option (List Int × List UInt8)) (w : World) (e : Ending) (w' : World) : Prop :=
  w.grownBy w' (some b) ∧ match p with
    | some (l, r) => ∃ a cap, e = .returned (.slice a l.length cap) ∧ IntCells w' a l ∧ IsQ b r false w'
    | none => e = .returned (.slice none 0 0) ∧ IsQ b [] true w'
theorem ReadsLQ.mkn {b : Nat} {p : Option (List Int × List UInt8)} {w : World} {e : Ending} {w' : World} (hp : p = none) (h1 : w.grownBy w' (some b)) (h2 : e = .returned (.slice none 0 0)) (h3 : IsQ b [] true w') : ReadsLQ b p w e w' := by subst hp; exact ⟨h1, h2, h3⟩
theorem ReadsLQ.mks {b : Nat} {p : Option (List Int × List UInt8)} {w : World} {e : Ending} {w' : World} {l : List Int} {r : List UInt8} (hp : p = some (l, r)) (h1 : w.grownBy w' (some b)) (a : Option Addr) (cap : Nat) (h2 : e = .returned (.slice a l.length cap)) (h4 : IntCells w' a l) (h3 : IsQ b r false w') : ReadsLQ b p w e w' := by subst hp; exact ⟨h1, a, cap, h2, h4, h3⟩

set_option maxRecDepth 100000 in
set_option maxHeartbeats 4000000 in
theorem numsQ (b : Nat) (s : List UInt8) (bad : Bool) (hbad : bad = true → s = []) (hs : s.length ≤ 100000000) (w : World) (h : IsQ b s bad w) :
    Calls Tryd.prog 32 #[.pointer (some ⟨b, 0, none⟩)] w (ReadsLQ b (pList (pInt 59) s) w) := by
  obtain ⟨i0, hi, hz0, hz1, hz2⟩ := info_parts infoInt
  have hlt := h.lt
  rcases hp : pNum 91 s with _ | ⟨n, r0⟩
  · have HP := Lib.hid hp
    have HL : Hid (pList (pInt 59) s = none) := by unfold Hid pList; rw [hp]
    clear hp hbad
    go_enter Tryd.func32, Tryd.ntmps32
    go_wp2_with fail
    refine (numberQ b 91 s bad hs w h).mono ?_
    rintro e w1 hr
    obtain ⟨ho, rfl, hir⟩ := hr.none' HP.out
    clear hr
    have c0 := hir.c0
    have c1 := hir.c1
    have HO := Lib.hid ho
    have HI := Lib.hid hir
    clear ho hir
    go_wp2_with fail
    go_loopw [5] (fun i wr => i = .int .i64 0 ∧ wr = w1) (fun _ _ => 0)
    case atStart => exact ⟨rfl, rfl⟩
    case round =>
      obtain ⟨rfl, rfl⟩ := hrel
      go_wp2_with fail
      go_ret
      exact ReadsLQ.mkn HL.out HO.out rfl HI.out
  · obtain ⟨hpi, hn⟩ := pNum_some hp
    have hrl := pInt_len hpi
    have hnb := (pInt_some _ _ _ _ hpi).2
    obtain ⟨n, rfl⟩ : ∃ k : Nat, n = k := ⟨n.toNat, by omega⟩
    obtain rfl : bad = false := by
      cases bad
      · rfl
      · have := hbad rfl; subst this; simp at hrl
    have HP := Lib.hid hp
    clear hpi hp hbad
    go_enter Tryd.func32, Tryd.ntmps32
    go_wp2_with fail
    refine (numberQ b 91 s false hs w h).mono ?_
    rintro e w1 hr
    obtain ⟨ho, rfl, hir⟩ := hr.some' HP.out
    clear hr
    go_wp2_with fail
    go_loopw [4, 5] (fun v i wr => RLQ w b r0 n v i wr) (fun _ i _ => n - (RowKit.intOf i).toNat)
    case atStart => exact ⟨0, by omega, rfl, ho, .inl ⟨[], r0, rfl, hir, World.ownsRow_nil _ _ _ _, rfl, by omega⟩⟩
    case round =>
      clear ho hir
      obtain ⟨k, hk, rfl, ho, hst⟩ := hrel
      rcases hst with ⟨l, r, hrun, hir, hown, hlk, hrk⟩ | ⟨hrun, hir⟩
      · have HR := Lib.hid hrun
        clear hrun
        have c0 := hir.c0
        have c1 := hir.c1
        by_cases hkn : k < n
        · have HO := Lib.hid ho
          have HW := Lib.hid hown
          rcases hq : pInt 59 r with _ | ⟨x, r'⟩
          · have HQ := Lib.hid hq
            clear hq ho hown
            go_wp2_with fail
            refine (intQ b r false (by omega) _ hir).mono ?_
            rintro e w2 hr2
            obtain ⟨ho2, rfl, hir2⟩ := hr2.none' HQ.out
            clear hr2 c0 c1
            have hown2 := HW.out.kept ho2 (own_ne HW.out hlt)
            have HO2 := Lib.hid (on_trans HO.out ho2)
            clear ho2
            have c1 := hir2.c1
            go_wp2_with (at_builtin; refine wpList_append_own _ rfl _ _ 22 rfl w.heap.size 3 i0 (.int .i64 0) 1 8 Tryd.underlying22 hi hz0 hz1 hz2 rfl (by decide) _ _ _ rfl (hown2.alloc _) ⟨w2.heap.size, 0, none⟩ 1 1 [.int .i64 0] rfl rfl ?c1 ?c2 ?c3 ?c4 ?c5 ?_)
            case c1 => exact new_cell _ _ _
            case c2 => intro u hu; simp at hu; subst hu; rfl
            case c3 => unfold maxLen; omega
            case c4 => omega
            case c5 => have := HO2.out.size; simp; omega
            intro v' w3 hown3 hgrow _
            have hbl := own_block HW.out
            have HO3 := Lib.hid (on_grown (on_grown HO2.out (World.grownBy_alloc w2 (.cells #[.int .i64 0] 3) none) (fun k hk => by cases hk)) hgrow hbl)
            have HI3 := Lib.hid ((hir2.grown (World.grownBy_alloc w2 (.cells #[.int .i64 0] 3) none) (by simp)).grown hgrow (fun e => by have := hbl b e; omega))
            clear hbl hgrow
            clear hown3
            go_wp2_with fail
            go_roundw
            case rel => exact ⟨k + 1, by omega, by go_num, HO3.out, .inr ⟨run_none _ (k+1) _ (by simp only [run, HR.out, HQ.out]) n (by omega), HI3.out⟩⟩
            case measure => simp [RowKit.intOf]; omega
          · have HQ := Lib.hid hq
            have hql := pInt_len hq
            clear hq ho hown
            go_wp2_with fail
            refine (intQ b r false (by omega) _ hir).mono ?_
            rintro e w2 hr2
            obtain ⟨ho2, rfl, hir2⟩ := hr2.some' HQ.out
            clear hr2 c0 c1
            have hown2 := HW.out.kept ho2 (own_ne HW.out hlt)
            have HO2 := Lib.hid (on_trans HO.out ho2)
            clear ho2
            have c1 := hir2.c1
            go_wp2_with (at_builtin; refine wpList_append_own _ rfl _ _ 22 rfl w.heap.size 3 i0 (.int .i64 0) 1 8 Tryd.underlying22 hi hz0 hz1 hz2 rfl (by decide) _ _ _ rfl (hown2.alloc _) ⟨w2.heap.size, 0, none⟩ 1 1 [.int .i64 x] rfl rfl ?c1 ?c2 ?c3 ?c4 ?c5 ?_)
            case c1 => exact new_cell _ _ _
            case c2 => intro u hu; simp at hu; subst hu; rfl
            case c3 => unfold maxLen; omega
            case c4 => omega
            case c5 => have := HO2.out.size; simp; omega
            intro v' w3 hown3 hgrow _
            have hbl := own_block HW.out
            have HO3 := Lib.hid (on_grown (on_grown HO2.out (World.grownBy_alloc w2 (.cells #[.int .i64 x] 3) none) (fun k hk => by cases hk)) hgrow hbl)
            have HI3 := Lib.hid ((hir2.grown (World.grownBy_alloc w2 (.cells #[.int .i64 x] 3) none) (by simp)).grown hgrow (fun e => by have := hbl b e; omega))
            clear hbl hgrow
            have HW3 : Hid (w3.ownsRow w.heap.size 3 1 v' (l ++ [x]).length ((l ++ [x]).map (Value.int .i64))) := by
              unfold Hid; simpa [hlk] using hown3
            clear hown3
            go_wp2_with fail
            go_roundw
            case rel => exact ⟨k + 1, by omega, by go_num, HO3.out, .inl ⟨l ++ [x], r', by simp only [run, HR.out, HQ.out], HI3.out, HW3.out, by simp [hlk], by omega⟩⟩
            case measure => simp [RowKit.intOf]; omega
        · have hkk : n = k := by omega
          have HK := Lib.hid hkk
          clear hkk
          have HO := Lib.hid ho
          have HW := Lib.hid hown
          obtain ⟨a, cap, rfl, hcells⟩ := own_ints hown
          clear ho hown hcells
          by_cases hpre : ∃ r2, r = 93 :: r2
          · obtain ⟨r2, hr2⟩ := hpre
            have HR2 := Lib.hid hr2
            clear hr2
            have HL : Hid (pList (pInt 59) s = some (l, r2)) := by unfold Hid pList; rw [HP.out]; simp [HK.out, HR.out, HR2.out]
            go_wp2_with fail
            refine (closeQ b 93 r false (by omega) _ hir).mono ?_
            rintro e w2 hcl
            obtain ⟨ho2, rfl, hi2⟩ := hcl.yes' HR2.out rfl
            go_wp2_with fail
            go_ret
            exact ReadsLQ.mks HL.out (on_trans HO.out ho2) a cap (by rw [hlk]; rfl) (own_cells (HW.out.kept ho2 (own_ne HW.out hlt))) hi2
          · have HPR := Lib.hid hpre
            clear hpre
            have HL : Hid (pList (pInt 59) s = none) := by
              unfold Hid pList; rw [HP.out]
              simp only [Int.toNat_natCast, HK.out, HR.out]
              cases r with
              | nil => rfl
              | cons y r2 =>
                rw [if_neg]
                intro hc
                have : (93 : UInt8) = y := by simpa using hc
                exact HPR.out ⟨r2, by rw [← this]⟩
            go_wp2_with fail
            refine (closeQ b 93 r false (by omega) _ hir).mono ?_
            rintro e w2 hcl
            obtain ⟨ho2, rfl, hi2⟩ := hcl.no' (fun r2 e => HPR.out ⟨r2, e⟩)
            go_wp2_with fail
            go_ret
            exact ReadsLQ.mkn HL.out (on_trans HO.out ho2) rfl hi2
      · have HR := Lib.hid hrun
        have HO := Lib.hid ho
        clear hrun ho
        have c0 := hir.c0
        have c1 := hir.c1
        have HL : Hid (pList (pInt 59) s = none) := by unfold Hid pList; rw [HP.out]; simp [HR.out]
        by_cases hkn : k < n
        all_goals
          go_wp2_with fail
          go_ret
          exact ReadsLQ.mkn HL.out HO.out rfl hir

/-- What holds at the head of a round. -/
def RTQ (w : World) (b : Nat) (r0 : List UInt8) (n : Nat) (v i : Value) (wr : World) : Prop :=
  ∃ k : Nat, k ≤ n ∧ i = .int .i64 k ∧ w.grownBy wr (some b) ∧
    ((∃ l r, run pText k r0 = some (l, r) ∧ IsQ b r false wr ∧ wr.ownsRow w.heap.size 9 1 v l.length (l.map Value.string) ∧ l.length = k ∧ r.length + k ≤ r0.length)
    ∨ (run pText n r0 = none ∧ IsQ b [] true wr))
/-- How the reading of a list ends. -/
def ReadsTQ (b : Nat) (p : Option (List ByteArray × List UInt8)) (w : World) (e : Ending) (w' : World) : Prop :=
  w.grownBy w' (some b) ∧ match p with
    | some (l, r) => ∃ a cap, e = .returned (.slice a l.length cap) ∧ StrCells w' a l ∧ IsQ b r false w'
    | none => e = .returned (.slice none 0 0) ∧ IsQ b [] true w'
theorem ReadsTQ.mkn {b : Nat} {p : Option (List ByteArray × List UInt8)} {w : World} {e : Ending} {w' : World} (hp : p = none) (h1 : w.grownBy w' (some b)) (h2 : e = .returned (.slice none 0 0)) (h3 : IsQ b [] true w') : ReadsTQ b p w e w' := by subst hp; exact ⟨h1, h2, h3⟩
theorem ReadsTQ.mks {b : Nat} {p : Option (List ByteArray × List UInt8)} {w : World} {e : Ending} {w' : World} {l : List ByteArray} {r : List UInt8} (hp : p = some (l, r)) (h1 : w.grownBy w' (some b)) (a : Option Addr) (cap : Nat) (h2 : e = .returned (.slice a l.length cap)) (h4 : StrCells w' a l) (h3 : IsQ b r false w') : ReadsTQ b p w e w' := by subst hp; exact ⟨h1, a, cap, h2, h4, h3⟩

set_option maxRecDepth 100000 in
set_option maxHeartbeats 4000000 in
theorem textsQ (b : Nat) (s : List UInt8) (bad : Bool) (hbad : bad = true → s = []) (hs : s.length ≤ 100000000) (w : World) (h : IsQ b s bad w) :
    Calls Tryd.prog 35 #[.pointer (some ⟨b, 0, none⟩)] w (ReadsTQ b (pList pText s) w) := by
  obtain ⟨i0, hi, hz0, hz1, hz2⟩ := info_parts infoStr
  have hlt := h.lt
  rcases hp : pNum 91 s with _ | ⟨n, r0⟩
  · have HP := Lib.hid hp
    have HL : Hid (pList pText s = none) := by unfold Hid pList; rw [hp]
    clear hp hbad
    go_enter Tryd.func35, Tryd.ntmps35
    go_wp2_with fail
    refine (numberQ b 91 s bad hs w h).mono ?_
    rintro e w1 hr
    obtain ⟨ho, rfl, hir⟩ := hr.none' HP.out
    clear hr
    have c0 := hir.c0
    have c1 := hir.c1
    have HO := Lib.hid ho
    have HI := Lib.hid hir
    clear ho hir
    go_wp2_with fail
    go_loopw [5] (fun i wr => i = .int .i64 0 ∧ wr = w1) (fun _ _ => 0)
    case atStart => exact ⟨rfl, rfl⟩
    case round =>
      obtain ⟨rfl, rfl⟩ := hrel
      go_wp2_with fail
      go_ret
      exact ReadsTQ.mkn HL.out HO.out rfl HI.out
  · obtain ⟨hpi, hn⟩ := pNum_some hp
    have hrl := pInt_len hpi
    have hnb := (pInt_some _ _ _ _ hpi).2
    obtain ⟨n, rfl⟩ : ∃ k : Nat, n = k := ⟨n.toNat, by omega⟩
    obtain rfl : bad = false := by
      cases bad
      · rfl
      · have := hbad rfl; subst this; simp at hrl
    have HP := Lib.hid hp
    clear hpi hp hbad
    go_enter Tryd.func35, Tryd.ntmps35
    go_wp2_with fail
    refine (numberQ b 91 s false hs w h).mono ?_
    rintro e w1 hr
    obtain ⟨ho, rfl, hir⟩ := hr.some' HP.out
    clear hr
    go_wp2_with fail
    go_loopw [4, 5] (fun v i wr => RTQ w b r0 n v i wr) (fun _ i _ => n - (RowKit.intOf i).toNat)
    case atStart => exact ⟨0, by omega, rfl, ho, .inl ⟨[], r0, rfl, hir, World.ownsRow_nil _ _ _ _, rfl, by omega⟩⟩
    case round =>
      clear ho hir
      obtain ⟨k, hk, rfl, ho, hst⟩ := hrel
      rcases hst with ⟨l, r, hrun, hir, hown, hlk, hrk⟩ | ⟨hrun, hir⟩
      · have HR := Lib.hid hrun
        clear hrun
        have c0 := hir.c0
        have c1 := hir.c1
        by_cases hkn : k < n
        · have HO := Lib.hid ho
          have HW := Lib.hid hown
          rcases hq : pText r with _ | ⟨x, r'⟩
          · have HQ := Lib.hid hq
            clear hq ho hown
            go_wp2_with fail
            refine (textQ b r false (fun h => by cases h) (by omega) _ hir).mono ?_
            rintro e w2 hr2
            obtain ⟨ho2, rfl, hir2⟩ := hr2.none' HQ.out
            clear hr2 c0 c1
            have hown2 := HW.out.kept ho2 (own_ne HW.out hlt)
            have HO2 := Lib.hid (on_trans HO.out ho2)
            clear ho2
            have c1 := hir2.c1
            go_wp2_with (at_builtin; refine wpList_append_own _ rfl _ _ 23 rfl w.heap.size 9 i0 (.string ⟨#[]⟩) 1 16 Tryd.underlying23 hi hz0 hz1 hz2 rfl (by decide) _ _ _ rfl (hown2.alloc _) ⟨w2.heap.size, 0, none⟩ 1 1 [.string ⟨#[]⟩] rfl rfl ?c1 ?c2 ?c3 ?c4 ?c5 ?_)
            case c1 => exact new_cell _ _ _
            case c2 => intro u hu; simp at hu; subst hu; rfl
            case c3 => unfold maxLen; omega
            case c4 => omega
            case c5 => have := HO2.out.size; simp; omega
            intro v' w3 hown3 hgrow _
            have hbl := own_block HW.out
            have HO3 := Lib.hid (on_grown (on_grown HO2.out (World.grownBy_alloc w2 (.cells #[.string ⟨#[]⟩] 9) none) (fun k hk => by cases hk)) hgrow hbl)
            have HI3 := Lib.hid ((hir2.grown (World.grownBy_alloc w2 (.cells #[.string ⟨#[]⟩] 9) none) (by simp)).grown hgrow (fun e => by have := hbl b e; omega))
            clear hbl hgrow
            clear hown3
            go_wp2_with fail
            go_roundw
            case rel => exact ⟨k + 1, by omega, by go_num, HO3.out, .inr ⟨run_none _ (k+1) _ (by simp only [run, HR.out, HQ.out]) n (by omega), HI3.out⟩⟩
            case measure => simp [RowKit.intOf]; omega
          · have HQ := Lib.hid hq
            have hql := pText_len hq
            clear hq ho hown
            go_wp2_with fail
            refine (textQ b r false (fun h => by cases h) (by omega) _ hir).mono ?_
            rintro e w2 hr2
            obtain ⟨ho2, rfl, hir2⟩ := hr2.some' HQ.out
            clear hr2 c0 c1
            have hown2 := HW.out.kept ho2 (own_ne HW.out hlt)
            have HO2 := Lib.hid (on_trans HO.out ho2)
            clear ho2
            have c1 := hir2.c1
            go_wp2_with (at_builtin; refine wpList_append_own _ rfl _ _ 23 rfl w.heap.size 9 i0 (.string ⟨#[]⟩) 1 16 Tryd.underlying23 hi hz0 hz1 hz2 rfl (by decide) _ _ _ rfl (hown2.alloc _) ⟨w2.heap.size, 0, none⟩ 1 1 [.string x] rfl rfl ?c1 ?c2 ?c3 ?c4 ?c5 ?_)
            case c1 => exact new_cell _ _ _
            case c2 => intro u hu; simp at hu; subst hu; rfl
            case c3 => unfold maxLen; omega
            case c4 => omega
            case c5 => have := HO2.out.size; simp; omega
            intro v' w3 hown3 hgrow _
            have hbl := own_block HW.out
            have HO3 := Lib.hid (on_grown (on_grown HO2.out (World.grownBy_alloc w2 (.cells #[.string x] 9) none) (fun k hk => by cases hk)) hgrow hbl)
            have HI3 := Lib.hid ((hir2.grown (World.grownBy_alloc w2 (.cells #[.string x] 9) none) (by simp)).grown hgrow (fun e => by have := hbl b e; omega))
            clear hbl hgrow
            have HW3 : Hid (w3.ownsRow w.heap.size 9 1 v' (l ++ [x]).length ((l ++ [x]).map Value.string)) := by
              unfold Hid; simpa [hlk] using hown3
            clear hown3
            go_wp2_with fail
            go_roundw
            case rel => exact ⟨k + 1, by omega, by go_num, HO3.out, .inl ⟨l ++ [x], r', by simp only [run, HR.out, HQ.out], HI3.out, HW3.out, by simp [hlk], by omega⟩⟩
            case measure => simp [RowKit.intOf]; omega
        · have hkk : n = k := by omega
          have HK := Lib.hid hkk
          clear hkk
          have HO := Lib.hid ho
          have HW := Lib.hid hown
          obtain ⟨a, cap, rfl, hcells⟩ := own_strs hown
          clear ho hown hcells
          by_cases hpre : ∃ r2, r = 93 :: r2
          · obtain ⟨r2, hr2⟩ := hpre
            have HR2 := Lib.hid hr2
            clear hr2
            have HL : Hid (pList pText s = some (l, r2)) := by unfold Hid pList; rw [HP.out]; simp [HK.out, HR.out, HR2.out]
            go_wp2_with fail
            refine (closeQ b 93 r false (by omega) _ hir).mono ?_
            rintro e w2 hcl
            obtain ⟨ho2, rfl, hi2⟩ := hcl.yes' HR2.out rfl
            go_wp2_with fail
            go_ret
            exact ReadsTQ.mks HL.out (on_trans HO.out ho2) a cap (by rw [hlk]; rfl) (own_cellsS (HW.out.kept ho2 (own_ne HW.out hlt))) hi2
          · have HPR := Lib.hid hpre
            clear hpre
            have HL : Hid (pList pText s = none) := by
              unfold Hid pList; rw [HP.out]
              simp only [Int.toNat_natCast, HK.out, HR.out]
              cases r with
              | nil => rfl
              | cons y r2 =>
                rw [if_neg]
                intro hc
                have : (93 : UInt8) = y := by simpa using hc
                exact HPR.out ⟨r2, by rw [← this]⟩
            go_wp2_with fail
            refine (closeQ b 93 r false (by omega) _ hir).mono ?_
            rintro e w2 hcl
            obtain ⟨ho2, rfl, hi2⟩ := hcl.no' (fun r2 e => HPR.out ⟨r2, e⟩)
            go_wp2_with fail
            go_ret
            exact ReadsTQ.mkn HL.out (on_trans HO.out ho2) rfl hi2
      · have HR := Lib.hid hrun
        have HO := Lib.hid ho
        clear hrun ho
        have c0 := hir.c0
        have c1 := hir.c1
        have HL : Hid (pList pText s = none) := by unfold Hid pList; rw [HP.out]; simp [HR.out]
        by_cases hkn : k < n
        all_goals
          go_wp2_with fail
          go_ret
          exact ReadsTQ.mkn HL.out HO.out rfl hir
end Go.Proofs.YtpcdogbioopdgaaDoor
