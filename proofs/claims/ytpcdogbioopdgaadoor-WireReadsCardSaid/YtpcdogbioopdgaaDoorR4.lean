/- The contract of the reader of a list of strings, and of the methods of the reader. -/
import Derived.Test.YtpcdogbioopdgaaDoorR3
namespace Go.Proofs.YtpcdogbioopdgaaDoor
open Go.RowKit Go.Sort
theorem pText_len {s : List UInt8} {x : ByteArray} {r : List UInt8} (h : pText s = some (x, r)) : r.length < s.length := by
  unfold pText at h
  split at h
  · rename_i n r' hn
    split at h
    · rename_i hc
      simp at h; obtain ⟨_, rfl⟩ := h
      have := pInt_len (pNum_some hn).1
      simp; omega
    · cases h
  · cases h
theorem infoStr : (Tryd.prog.info? 9).map (fun i => (i.zero, i.size, i.bytes)) = some (some (.string ⟨#[]⟩), 1, 16) := by kernel_rfl

/-- What holds at the head of a round of readList. -/
def RLs (w : World) (b : Nat) (r0 : List UInt8) (n : Nat) (v i : Value) (wr : World) : Prop :=
  ∃ k : Nat, k ≤ n ∧ i = .int .i64 k ∧ w.grownBy wr (some b) ∧
    ((∃ l r, run pText k r0 = some (l, r) ∧ IsR b r false wr ∧ wr.ownsRow w.heap.size 9 1 v l.length (l.map Value.string) ∧ l.length = k ∧ r.length + k ≤ r0.length)
    ∨ (run pText n r0 = none ∧ IsR b [] true wr))

/-- How the reading of a list ends. -/
def ReadsT (b : Nat) (p : Option (List ByteArray × List UInt8)) (w : World) (e : Ending) (w' : World) : Prop :=
  w.grownBy w' (some b) ∧ match p with
    | some (l, r) => ∃ a cap, e = .returned (.slice a l.length cap) ∧ StrCells w' a l ∧ IsR b r false w'
    | none => e = .returned (.slice none 0 0) ∧ IsR b [] true w'
theorem ReadsT.mkn {b : Nat} {p : Option (List ByteArray × List UInt8)} {w : World} {e : Ending} {w' : World} (hp : p = none) (h1 : w.grownBy w' (some b)) (h2 : e = .returned (.slice none 0 0)) (h3 : IsR b [] true w') : ReadsT b p w e w' := by subst hp; exact ⟨h1, h2, h3⟩
theorem ReadsT.mks {b : Nat} {p : Option (List ByteArray × List UInt8)} {w : World} {e : Ending} {w' : World} {l : List ByteArray} {r : List UInt8} (hp : p = some (l, r)) (h1 : w.grownBy w' (some b)) (a : Option Addr) (cap : Nat) (h2 : e = .returned (.slice a l.length cap)) (h4 : StrCells w' a l) (h3 : IsR b r false w') : ReadsT b p w e w' := by subst hp; exact ⟨h1, a, cap, h2, h4, h3⟩
theorem own_cellsS {w : World} {base n cap : Nat} {a : Option Addr} {l : List ByteArray} (h : w.ownsRow base 9 1 (.slice a n cap) l.length (l.map Value.string)) : StrCells w a l := by
  rcases h.2 with ⟨_, h0⟩ | ⟨g, cap', cur, hv, hb, hg, hnc, hcm, hcs, htake⟩
  · exact .inl (List.length_eq_zero_iff.1 h0)
  · simp at hv; obtain ⟨rfl, rfl, rfl⟩ := hv
    refine .inr ⟨g, 0, rfl, fun i hi => ?_⟩
    rw [h.cellAt _ (by omega)]
    simp [hi, List.getElem?_eq_getElem]
theorem own_strs {w : World} {base : Nat} {v : Value} {l : List ByteArray} (h : w.ownsRow base 9 1 v l.length (l.map Value.string)) : ∃ a cap, v = .slice a l.length cap ∧ StrCells w a l := by
  rcases h.2 with ⟨rfl, h0⟩ | ⟨g, cap, cur, rfl, hb, hg, hnc, hcm, hcs, htake⟩
  · exact ⟨none, 0, by rw [h0], .inl (List.length_eq_zero_iff.1 h0)⟩
  · refine ⟨_, _, rfl, .inr ⟨g, 0, rfl, fun i hi => ?_⟩⟩
    rw [h.cellAt _ (by omega)]
    simp [hi, List.getElem?_eq_getElem]


set_option maxRecDepth 100000 in
set_option maxHeartbeats 4000000 in
theorem rl_str (b : Nat) (s : List UInt8) (hs : s.length ≤ 100000000) (w : World) (h : IsR b s false w) (he : Env w) (hb6 : 6 ≤ b) :
    Calls Tryd.prog 56 #[.pointer (some ⟨b, 0, none⟩), .func (.func 28) #[.pointer (some ⟨b, 0, none⟩)] #[]] w (ReadsT b (pList pText s) w) := by
  obtain ⟨i0, hi, hz0, hz1, hz2⟩ := info_parts infoStr
  rcases hp : pNum 91 s with _ | ⟨n, r0⟩
  · have HP := Lib.hid hp
    have HL : Hid (pList pText s = none) := by unfold Hid pList; rw [hp]
    clear hp
    go_enter Tryd.func56, Tryd.ntmps56
    go_wp2_with fail
    refine (number_any b 91 s false hs w h he).mono ?_
    rintro e w1 hr
    obtain ⟨ho, rfl, hir⟩ := hr.none' HP.out
    clear hr
    have c0 := hir.c0
    have c1 := hir.c1
    have HO := Lib.hid ho
    have HI := Lib.hid hir
    clear ho hir
    go_wp2_with fail
    go_loopw [7] (fun i wr => i = .int .i64 0 ∧ wr = w1) (fun _ _ => 0)
    case atStart => exact ⟨rfl, rfl⟩
    case round =>
      obtain ⟨rfl, rfl⟩ := hrel
      go_wp2_with fail
      refine (hasP [] false rfl _).mono ?_
      rintro e w3 ⟨rfl, rfl⟩
      go_wp2_with fail
      refine (fail_any b [] true _ HI.out).mono ?_
      rintro e w4 ⟨rfl, ho4, hir4⟩
      go_wp2_with fail
      go_ret
      exact ReadsT.mkn HL.out (on_trans HO.out ho4) rfl hir4
  · obtain ⟨hpi, hn⟩ := pNum_some hp
    have hrl := pInt_len hpi
    have hnb := (pInt_some _ _ _ _ hpi).2
    obtain ⟨n, rfl⟩ : ∃ k : Nat, n = k := ⟨n.toNat, by omega⟩
    have HP := Lib.hid hp
    have HE := Lib.hid he
    have hlt := h.lt
    clear hpi hp
    go_enter Tryd.func56, Tryd.ntmps56
    go_wp2_with fail
    refine (number_any b 91 s false hs w h he).mono ?_
    rintro e w1 hr
    obtain ⟨ho, rfl, hir⟩ := hr.some' HP.out
    clear hr
    go_wp2_with fail
    go_loopw [6, 7] (fun v i wr => RLs w b r0 n v i wr) (fun _ i _ => n - (RowKit.intOf i).toNat)
    case atStart => exact ⟨0, by omega, rfl, ho, .inl ⟨[], r0, rfl, hir, World.ownsRow_nil _ _ _ _, rfl, by omega⟩⟩
    case round =>
      clear ho hir
      obtain ⟨k, hk, rfl, ho, hst⟩ := hrel
      rcases hst with ⟨l, r, hrun, hir, hown, hlk, hrk⟩ | ⟨hrun, hir⟩
      · have HR := Lib.hid hrun
        clear hrun
        have c0 := hir.c0
        have c1 := hir.c1
        by_cases hkn : k < n
        · have HE2 := Lib.hid (HE.out.on ho hb6)
          have HO := Lib.hid ho
          have HW := Lib.hid hown
          rcases hq : pText r with _ | ⟨x, r'⟩
          · have HQ := Lib.hid hq
            clear hq ho hown
            go_wp2_with fail
            refine (rtext_any b r false (by omega) _ hir HE2.out).mono ?_
            rintro e w2 hr2
            obtain ⟨ho2, rfl, hir2⟩ := hr2.none' HQ.out
            clear hr2 c0 c1
            have hown2 := HW.out.kept ho2 (own_ne HW.out hlt)
            have HO2 := Lib.hid (on_trans HO.out ho2)
            clear ho2
            have c1 := hir2.c1
            go_wp2_with (at_builtin; refine wpList_append_own _ rfl _ _ 23 rfl w.heap.size 9 i0 (.string ⟨#[]⟩) 1 16 Tryd.underlying23 hi hz0 hz1 hz2 rfl (by decide) _ _ _ rfl (hown2.alloc _) ⟨w2.heap.size, 0, none⟩ 1 1 [.string ⟨#[]⟩] rfl rfl ?c1 ?c2 ?c3 ?c4 ?c5 ?_)
            case c1 => exact new_cell _ _ _
            case c2 => intro u hu; simp at hu; subst hu; rfl
            case c3 => unfold maxLen; omega
            case c4 => omega
            case c5 => have := HO2.out.size; simp; omega
            intro v' w3 hown3 hgrow _
            have hbl := own_block HW.out
            have HO3 := Lib.hid (on_grown (on_grown HO2.out (World.grownBy_alloc w2 (.cells #[.string ⟨#[]⟩] 9) none) (fun k hk => by cases hk)) hgrow hbl)
            have HI3 := Lib.hid ((hir2.grown (World.grownBy_alloc w2 (.cells #[.string ⟨#[]⟩] 9) none) (by simp)).grown hgrow (fun e => by have := hbl b e; omega))
            clear hbl hgrow
            clear hown3
            go_wp2_with fail
            go_roundw
            case rel => exact ⟨k + 1, by omega, by go_num, HO3.out, .inr ⟨run_none _ (k+1) _ (by simp only [run, HR.out, HQ.out]) n (by omega), HI3.out⟩⟩
            case measure => simp [RowKit.intOf]; omega
          · have HQ := Lib.hid hq
            have hql := pText_len hq
            clear hq ho hown
            go_wp2_with fail
            refine (rtext_any b r false (by omega) _ hir HE2.out).mono ?_
            rintro e w2 hr2
            obtain ⟨ho2, rfl, hir2⟩ := hr2.some' HQ.out
            clear hr2 c0 c1
            have hown2 := HW.out.kept ho2 (own_ne HW.out hlt)
            have HO2 := Lib.hid (on_trans HO.out ho2)
            clear ho2
            have c1 := hir2.c1
            go_wp2_with (at_builtin; refine wpList_append_own _ rfl _ _ 23 rfl w.heap.size 9 i0 (.string ⟨#[]⟩) 1 16 Tryd.underlying23 hi hz0 hz1 hz2 rfl (by decide) _ _ _ rfl (hown2.alloc _) ⟨w2.heap.size, 0, none⟩ 1 1 [.string x] rfl rfl ?c1 ?c2 ?c3 ?c4 ?c5 ?_)
            case c1 => exact new_cell _ _ _
            case c2 => intro u hu; simp at hu; subst hu; rfl
            case c3 => unfold maxLen; omega
            case c4 => omega
            case c5 => have := HO2.out.size; simp; omega
            intro v' w3 hown3 hgrow _
            have hbl := own_block HW.out
            have HO3 := Lib.hid (on_grown (on_grown HO2.out (World.grownBy_alloc w2 (.cells #[.string x] 9) none) (fun k hk => by cases hk)) hgrow hbl)
            have HI3 := Lib.hid ((hir2.grown (World.grownBy_alloc w2 (.cells #[.string x] 9) none) (by simp)).grown hgrow (fun e => by have := hbl b e; omega))
            clear hbl hgrow
            have HW3 : Hid (w3.ownsRow w.heap.size 9 1 v' (l ++ [x]).length ((l ++ [x]).map Value.string)) := by
              unfold Hid; simpa [hlk] using hown3
            clear hown3
            go_wp2_with fail
            go_roundw
            case rel => exact ⟨k + 1, by omega, by go_num, HO3.out, .inl ⟨l ++ [x], r', by simp only [run, HR.out, HQ.out], HI3.out, HW3.out, by simp [hlk], by omega⟩⟩
            case measure => simp [RowKit.intOf]; omega
        · have hkk : n = k := by omega
          have HK := Lib.hid hkk
          clear hkk
          have HO := Lib.hid ho
          have HW := Lib.hid hown
          obtain ⟨a, cap, rfl, hcells⟩ := own_strs hown
          clear ho hown
          by_cases hpre : [93].isPrefixOf r = true
          · have HPR := Lib.hid hpre
            clear hpre
            have HL : Hid (pList pText s = some (l, r.drop 1)) := by unfold Hid pList; rw [HP.out]; simp [HK.out, HR.out, HPR.out]
            have hr1 : 1 ≤ r.length := by
              cases r with
              | nil => have := HPR.out; simp at this
              | cons _ _ => simp
            have f0 := hir.f0 0
            go_wp2_with fail
            refine (hasP r true HPR.out _).mono ?_
            rintro e w3 ⟨rfl, rfl⟩
            go_wp2_with fail
            go_ret
            exact ReadsT.mks HL.out (on_set HO.out 0 _) a cap (by rw [hlk]; rfl) (own_cellsS (HW.out.kept (on_set (on_refl b _) 0 _) (own_ne HW.out hlt))) (hir.drop 1)
          · have HPR : Hid ([93].isPrefixOf r = false) := Bool.eq_false_iff.2 hpre
            clear hpre
            have HL : Hid (pList pText s = none) := by unfold Hid pList; rw [HP.out]; simp [HK.out, HR.out, HPR.out]
            go_wp2_with fail
            refine (hasP r false HPR.out _).mono ?_
            rintro e w3 ⟨rfl, rfl⟩
            go_wp2_with fail
            refine (fail_any b r false _ hir).mono ?_
            rintro e w4 ⟨rfl, ho4, hir4⟩
            go_wp2_with fail
            go_ret
            exact ReadsT.mkn HL.out (on_trans HO.out ho4) rfl hir4
      · have HR := Lib.hid hrun
        have HO := Lib.hid ho
        clear hrun ho
        have c0 := hir.c0
        have c1 := hir.c1
        have HL : Hid (pList pText s = none) := by unfold Hid pList; rw [HP.out]; simp [HR.out]
        by_cases hkn : k < n
        all_goals
          go_wp2_with fail
          refine (hasP [] false rfl _).mono ?_
          rintro e w3 ⟨rfl, rfl⟩
          go_wp2_with fail
          refine (fail_any b [] true _ hir).mono ?_
          rintro e w4 ⟨rfl, ho4, hir4⟩
          go_wp2_with fail
          go_ret
          exact ReadsT.mkn HL.out (on_trans HO.out ho4) rfl hir4
end Go.Proofs.YtpcdogbioopdgaaDoor
