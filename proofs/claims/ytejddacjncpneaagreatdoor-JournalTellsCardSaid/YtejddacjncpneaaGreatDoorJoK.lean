/- The reference's journal: the sum and the form of a record, the forms of records, the records of a string. -/
import Derived.Test.YtejddacjncpneaaGreatDoorWiQ
import Derived.Test.YtejddacjncpneaaGreatDoorJo2
set_option maxRecDepth 100000
namespace Go.Proofs.YtejddacjncpneaaGreatDoor.Jo
open Go.RowKit Go.Sort Wi

set_option maxHeartbeats 1000000 in
theorem sumK (s : ByteArray) (h : s.size ≤ 20000) (w : World) :
    Calls Tryz.prog 11 #[.string s] w fun e w' => e = .returned (.int .i64 (sumB s.data.toList)) ∧ w = w' := by
  have hsum := sum_small h
  have HL := Lib.hid (size_eq s)
  go_enter Tryz.func11, Tryz.ntmps11
  go_wp2_with fail
  go_loop [3, 4] (fun n i => ∃ k : Nat, k ≤ s.size ∧ i = .int .i64 k ∧ n = .int .i64 (sumB (s.data.toList.take k))) (fun _ i => s.size - (RowKit.intOf i).toNat)
  case atStart => exact ⟨0, by omega, rfl, by simp [sumB, sumFrom]⟩
  case round =>
    obtain ⟨k, hk, rfl, rfl⟩ := hrel
    by_cases hlt : k < s.size
    · obtain ⟨m, hm⟩ : ∃ m, sumB (s.data.toList.take k) = m := ⟨_, rfl⟩
      obtain ⟨c, hc⟩ : ∃ c, (s[k]'hlt).toNat = c := ⟨_, rfl⟩
      have hb := byte_at s k hlt
      have hstep := sumB_take s.data.toList k (by rw [HL.out]; exact hlt)
      rw [← hb, hc, hm] at hstep
      have hcb : c < 256 := by rw [← hc]; exact (s[k]'hlt).toNat_lt
      have hmb : m ≤ 102005100000 := by rw [← hm]; exact Nat.le_trans (sumB_le _ 20000 (by rw [List.length_take, HL.out]; omega)) (by omega)
      have hp : c * (k + 1) ≤ 255 * 20001 := Nat.mul_le_mul (by omega) (by omega)
      have hpi : ((c : Int) * ((k : Int) + 1)) = ((c * (k + 1) : Nat) : Int) := by simp
      have HS := Lib.hid hstep
      have HP := Lib.hid hpi
      have HC := Lib.hid hc
      have hci : ((s[k]'hlt).toNat : Int) = (c : Int) := by rw [hc]
      clear hstep hb hpi hc
      rw [hm]
      go_wp2_with fail
      go_round
      case rel =>
        refine ⟨k + 1, by omega, by go_num, ?_⟩
        rw [HS.out, HP.out]
        obtain ⟨p, hpp⟩ : ∃ p, c * (k + 1) = p := ⟨_, rfl⟩
        rw [hpp] at hp ⊢
        rw [IntWalk.wrap64_in (p : Int) (by omega), IntWalk.wrap64_in ((m : Int) + p) (by omega)]
        go_num
      case measure => simp [RowKit.intOf]; omega
    · have HK : Hid (s.data.toList.take k = s.data.toList) := List.take_of_length_le (by rw [HL.out]; omega)
      go_wp2_with fail
      go_ret
      rw [HK.out]
      exact ⟨rfl, rfl⟩

theorem formK (s : ByteArray) (h : s.size ≤ 20000) (w : World) :
    Calls Tryz.prog 41 #[.string s] w fun e w' => e = .returned (.string ⟨(form s).toArray⟩) ∧ RowKit.Below w.heap.size w w' := by
  have hs := sum_small h
  have hl1 := encText_len s
  have hl3 := itoa_len20 (s.size : Int) (by omega) (by omega)
  have hl2 := encInt_len (sumB s.data.toList) (by omega) (by omega)
  go_enter Tryz.func41, Tryz.ntmps41
  go_wp2_with fail
  refine (refText s (by omega) w).mono ?_
  rintro e w1 ⟨rfl, h1⟩
  have H1 := Lib.hid h1
  clear h1
  go_wp2_with fail
  refine (sumK s h w1).mono ?_
  rintro e w2 ⟨rfl, rfl⟩
  go_wp2_with fail
  refine (refNum _ (by omega) (by omega) w1).mono ?_
  rintro e w2 ⟨rfl, h2⟩
  have H2 := Lib.hid h2
  clear h2
  go_wp2_with fail
  go_ret
  exact ⟨by simp [form, ba_app], H1.out.trans (H2.out.mono H1.out.size)⟩

theorem forms_take_snoc (l : List ByteArray) (k : Nat) (h : k < l.length) : forms (l.take (k + 1)) = forms (l.take k) ++ form l[k] := by
  rw [List.take_succ_eq_append_getElem h, forms_snoc]
theorem forms_take_le (l : List ByteArray) (k : Nat) : (forms (l.take k)).length ≤ (forms l).length := by
  conv => rhs; rw [← List.take_append_drop k l]
  rw [forms_app, List.length_append]; omega

set_option maxHeartbeats 1000000 in
theorem formsK (l : List ByteArray) (a : Option Addr) (cap : Nat) (hsm : Small l) (hl : (forms l).length ≤ 100000000) (w : World) (hc : StrCells w a l) :
    Calls Tryz.prog 38 #[.slice a l.length cap] w fun e w' => e = .returned (.string ⟨(forms l).toArray⟩) ∧ RowKit.Below w.heap.size w w' := by
  have hll := forms_ge l
  have HSM := Lib.hid hsm
  have HC := Lib.hid hc
  clear hsm hc
  go_enter Tryz.func38, Tryz.ntmps38
  go_wp2_with fail
  go_loopw [3, 4] (fun s i wr => ∃ k : Nat, k ≤ l.length ∧ i = .int .i64 k ∧ s = .string ⟨(forms (l.take k)).toArray⟩ ∧ Hid (RowKit.Below w.heap.size w wr)) (fun _ i _ => l.length - (RowKit.intOf i).toNat)
  case atStart => exact ⟨0, by omega, rfl, rfl, Below.refl _ _⟩
  case round =>
    obtain ⟨k, hk, rfl, rfl, HB⟩ := hrel
    have hfl := forms_take_le l k
    obtain ⟨m, hm⟩ : ∃ m, forms (l.take k) = m := ⟨_, rfl⟩
    rw [hm] at hfl ⊢
    by_cases hlt : k < l.length
    · obtain ⟨b, off, rfl, hcell⟩ : ∃ b off, a = some ⟨b, off, none⟩ ∧ wr.cell? ⟨b, off + k, none⟩ = some (.string l[k]) := by
        rcases HC.out with h | ⟨b, off, rfl, hcc⟩
        · rw [h] at hlt; cases hlt
        · have := hcc k hlt
          exact ⟨b, off, rfl, Wi.cell_later this HB.out⟩
      have hx : l[k].size ≤ 20000 := HSM.out _ (List.getElem_mem hlt)
      have HT : Hid (forms (l.take (k + 1)) = m ++ form l[k]) := by unfold Hid; rw [forms_take_snoc l k hlt, hm]
      obtain ⟨x, hxe⟩ : ∃ x, l[k] = x := ⟨_, rfl⟩
      rw [hxe] at hcell hx HT
      have hfx := form_len x hx
      clear hm hxe
      go_wp2_with fail
      refine (formK x hx _).mono ?_
      rintro e w1 ⟨rfl, h1⟩
      have HB1 : Hid (RowKit.Below w.heap.size w w1) := HB.out.trans (h1.mono HB.out.size)
      clear h1
      have hsz : m.length + (form x).length ≤ 9223372036854775807 := by omega
      go_wp2_with fail
      go_roundw
      case rel => exact ⟨k + 1, by omega, by go_num, by rw [HT.out]; simp [ba_app], HB1⟩
      case measure => simp [RowKit.intOf]; omega
    · have HK : Hid (m = forms l) := by unfold Hid; rw [← hm, List.take_of_length_le (by omega)]
      clear hm
      rw [HK.out]
      go_wp2_with fail
      go_ret
      exact ⟨rfl, HB.out⟩

/-- How Records ends. -/
def RecsK (s : List UInt8) (w : World) (e : Ending) (w' : World) : Prop :=
  ∃ v, e = .returned v ∧ w'.ownsRow w.heap.size 9 1 v (recs s).length ((recs s).map Value.string) ∧ Below w.heap.size w w'
/-- What holds at the head of a round. -/
def RLK (s : List UInt8) (w : World) (v : Value) (wr : World) : Prop :=
  ∃ done rest, s = forms done ++ rest ∧ Small done ∧ wr.ownsRow (w.heap.size + 1) 9 1 v done.length (done.map Value.string) ∧
    IsQ w.heap.size rest false wr ∧ w.grownBy wr (some w.heap.size)
theorem RLK.fin {s : List UInt8} {w wr w' : World} {v : Value} {done : List ByteArray} {rest : List UInt8} (h1 : s = forms done ++ rest) (h2 : Small done)
    (h4 : wr.ownsRow (w.heap.size + 1) 9 1 v done.length (done.map Value.string)) (hg : wr.grownBy w' (some w.heap.size)) (h6 : w.grownBy w' (some w.heap.size)) (hn : rec1 rest = none) :
    RecsK s w (.returned v) w' := by
  have e : recs s = done := by rw [h1, recs_forms _ _ h2, recs_none hn, List.append_nil]
  refine ⟨v, rfl, by rw [e]; exact own_base (h4.kept hg (own_ne h4 (by omega))) (by omega), ⟨h6.os, h6.tape, h6.output, h6.size, fun k hk => h6.block k hk (by simp; omega)⟩⟩
def lenV : Value → Nat
  | .slice _ n _ => n
  | _ => 0
theorem rec1_nil : rec1 [] = none := by
  unfold rec1 pText
  have : pNum 58 [] = none := by simp [pNum, pInt, cut_nil]
  rw [this]

set_option maxHeartbeats 4000000 in
theorem recordsK (s : List UInt8) (hs : s.length ≤ 100000000) (w : World) :
    Calls Tryz.prog 37 #[.string ⟨s.toArray⟩] w (RecsK s w) := by
  obtain ⟨i0, hi, hz0, hz1, hz2⟩ := info_parts infoStr
  go_enter Tryz.func37, Tryz.ntmps37
  go_wp2_with fail
  refine (openQ _ w).mono ?_
  rintro e w1 ⟨rfl, rfl⟩
  have hst : RLK s w (.slice none 0 0) (w.alloc (.cells #[.string ⟨s.toArray⟩, .bool false] 100)) :=
    ⟨[], s, rfl, by intro x hx; simp at hx, World.ownsRow_nil _ _ _ _, fresh_Q w s, on_grown (on_refl _ w) (World.grownBy_alloc _ _ none) (fun k hk => by cases hk)⟩
  have HS0 := Lib.hid hst
  clear hst
  go_wp2_with fail
  go_loopw [3] (fun v wr => RLK s w v wr) (fun v _ => s.length - lenV v)
  case atStart => exact HS0.out
  case round =>
    clear HS0
    obtain ⟨done, rest, hsr, hsm, hown, hir, hgr⟩ := hrel
    have hrl : (forms done).length + rest.length = s.length := by rw [hsr, List.length_append]
    have hdl := forms_ge done
    obtain ⟨va, vc, hv3, _, _⟩ := (own_of_row hown).1.shape
    subst hv3
    have HSR := Lib.hid hsr
    have HSM := Lib.hid hsm
    have HO := Lib.hid hgr
    have HW := Lib.hid hown
    clear hsr hsm hown
    by_cases hr0 : rest = []
    · subst hr0
      go_wp2_with fail
      refine (leftQ _ [] false _ hir).mono ?_
      rintro e w4 ⟨rfl, rfl⟩
      go_wp2_with fail
      go_ret
      exact RLK.fin HSR.out HSM.out HW.out (on_refl _ _) HO.out rec1_nil
    · have hrp : 0 < rest.length := List.length_pos_iff.2 hr0
      have HL := Lib.hid (leftQ _ rest false _ hir)
      rcases hp : pText rest with _ | ⟨x, r1⟩
      · have HN : Hid (rec1 rest = none) := by unfold Hid rec1; rw [hp]
        have HP := Lib.hid hp
        clear hp hgr hr0
        go_wp2_with fail
        refine HL.out.mono ?_
        rintro e w4 ⟨rfl, rfl⟩
        go_wp2_with fail
        refine (textQ _ rest false (by simp) (by omega) _ hir).mono ?_
        rintro e w2 hr2
        obtain ⟨ho2, rfl, hir2⟩ := hr2.none' HP.out
        have HO2 := Lib.hid ho2
        clear hr2 ho2 hir HL
        go_wp2_with fail
        refine (numQ _ [] true (by simp) _ hir2).mono ?_
        rintro e w3 hr3
        obtain ⟨ho3, rfl, hir3⟩ := hr3.none' pNum_nil
        have HO3 := Lib.hid (on_trans HO2.out ho3)
        have c1 := hir3.c1
        clear hr3 ho3 hir2
        go_wp2_with fail
        go_ret
        exact RLK.fin HSR.out HSM.out HW.out HO3.out (on_trans HO.out HO3.out) HN.out
      · rcases hq : pNum 59 r1 with _ | ⟨n, r2⟩
        · have HN : Hid (rec1 rest = none) := by unfold Hid rec1; rw [hp]; simp only [hq]
          have hr1 := (pText_shorter hp).1
          have HP := Lib.hid hp
          have HQ := Lib.hid hq
          clear hp hq hgr hr0
          go_wp2_with fail
          refine HL.out.mono ?_
          rintro e w4 ⟨rfl, rfl⟩
          go_wp2_with fail
          refine (textQ _ rest false (by simp) (by omega) _ hir).mono ?_
          rintro e w2 hr2
          obtain ⟨ho2, rfl, hir2⟩ := hr2.some' HP.out
          have HO2 := Lib.hid ho2
          clear hr2 ho2 hir HL
          go_wp2_with fail
          refine (numQ _ r1 false (by omega) _ hir2).mono ?_
          rintro e w3 hr3
          obtain ⟨ho3, rfl, hir3⟩ := hr3.none' HQ.out
          have HO3 := Lib.hid (on_trans HO2.out ho3)
          have c1 := hir3.c1
          clear hr3 ho3 hir2
          go_wp2_with fail
          go_ret
          exact RLK.fin HSR.out HSM.out HW.out HO3.out (on_trans HO.out HO3.out) HN.out
        · have hr1 := pText_shorter hp
          have hnn := pNum_some hq
          have hr2l := pInt_len hnn.1
          have hnb := (pInt_some _ _ _ _ hnn.1).2
          have hn0 := hnn.2
          have HP := Lib.hid hp
          have HQ := Lib.hid hq
          clear hp hq hgr hnn hr0
          go_wp2_with fail
          refine HL.out.mono ?_
          rintro e w4 ⟨rfl, rfl⟩
          go_wp2_with fail
          refine (textQ _ rest false (by simp) (by omega) _ hir).mono ?_
          rintro e w2 hr2
          obtain ⟨ho2, rfl, hir2⟩ := hr2.some' HP.out
          have HO2 := Lib.hid ho2
          clear hr2 ho2 hir HL
          go_wp2_with fail
          refine (numQ _ r1 false (by omega) _ hir2).mono ?_
          rintro e w3 hr3
          obtain ⟨ho3, rfl, hir3⟩ := hr3.some' HQ.out
          have HO3 := Lib.hid (on_trans HO2.out ho3)
          have c1 := hir3.c1
          clear hr3 ho3 hir2
          have hcs : 20000 < x.size ∨ (x.size ≤ 20000 ∧ (sumB x.data.toList : Int) ≠ n) ∨ (x.size ≤ 20000 ∧ (sumB x.data.toList : Int) = n) := by omega
          rcases hcs with hbig | ⟨hsz, hne⟩ | ⟨hsz, heq⟩
          · have HN : Hid (rec1 rest = none) := by unfold Hid rec1; rw [HP.out]; simp only [HQ.out]; rw [if_neg (by omega)]
            go_wp2_with fail
            go_ret
            exact RLK.fin HSR.out HSM.out HW.out HO3.out (on_trans HO.out HO3.out) HN.out
          · have HN : Hid (rec1 rest = none) := by unfold Hid rec1; rw [HP.out]; simp only [HQ.out]; rw [if_neg (by omega)]
            have hne' : (n != (sumB x.data.toList : Int)) = true := by simpa using Ne.symm hne
            clear hne
            go_wp2_with fail
            refine (sumK x hsz _).mono ?_
            rintro e w4 ⟨rfl, rfl⟩
            go_wp2_with fail
            go_ret
            exact RLK.fin HSR.out HSM.out HW.out HO3.out (on_trans HO.out HO3.out) HN.out
          · have HN : Hid (rec1 rest = some (x, r2)) := by unfold Hid rec1; rw [HP.out]; simp only [HQ.out]; rw [if_pos ⟨hsz, heq⟩]
            have hsum := sum_small hsz
            subst heq
            have hown3 := HW.out.kept HO3.out (own_ne HW.out (by omega))
            have hnew := (rec1_some HN.out).1
            have hfl : (forms (done ++ [x])).length + r2.length = s.length := by rw [HSR.out, hnew, forms_snoc]; simp; omega
            have hfp := form_pos x
            have hfe : (forms (done ++ [x])).length = (forms done).length + (form x).length := by rw [forms_snoc, List.length_append]
            have HNW : Hid (s = forms (done ++ [x]) ++ r2) := by unfold Hid; rw [forms_snoc, List.append_assoc, ← hnew]; exact HSR.out
            have HSM2 : Hid (Small (done ++ [x])) := fun y hy => by
              rcases List.mem_append.1 hy with hy | hy
              · exact HSM.out y hy
              · simp at hy; rw [hy]; exact hsz
            clear hnew
            go_wp2_with fail
            refine (sumK x hsz _).mono ?_
            rintro e w4 ⟨rfl, rfl⟩
            go_wp2_with (at_builtin; refine wpList_append_own _ rfl _ _ 46 rfl (w.heap.size + 1) 9 i0 (.string ⟨#[]⟩) 1 16 Tryz.underlying46 hi hz0 hz1 hz2 rfl (by decide) _ _ _ rfl (hown3.alloc _) ⟨w3.heap.size, 0, none⟩ 1 1 [.string x] rfl rfl ?c1 ?c2 ?c3 ?c4 ?c5 ?_)
            case c1 => exact new_cell _ _ _
            case c2 => intro u hu; simp at hu; subst hu; rfl
            case c3 => unfold maxLen; omega
            case c4 => omega
            case c5 => have := HO3.out.size; have := HO.out.size; simp; omega
            intro v' w5 hown5 hgrow _
            have hbl := own_block HW.out
            have HO5 := Lib.hid (on_grown (on_grown (on_trans HO.out HO3.out) (World.grownBy_alloc w3 (.cells #[.string x] 9) none) (fun k hk => by cases hk)) hgrow (fun k hk => by have := hbl k hk; omega))
            have hir5 := (hir3.grown (World.grownBy_alloc w3 (.cells #[.string x] 9) none) (by simp)).grown hgrow (fun e => by have := hbl _ e; omega)
            have HI5 := Lib.hid hir5
            have HW5 : Hid (w5.ownsRow (w.heap.size + 1) 9 1 v' (done ++ [x]).length ((done ++ [x]).map Value.string)) := by unfold Hid; simpa using hown5
            obtain ⟨va', vc', hv5, _, _⟩ := (own_of_row HW5.out).1.shape
            subst hv5
            clear hbl hgrow hown5 hown3 hir5
            go_wp2_with fail
            go_roundw
            case rel => exact ⟨done ++ [x], _, HNW.out, HSM2.out, HW5.out, HI5.out, HO5.out⟩
            case measure => simp [lenV]; omega
end Go.Proofs.YtejddacjncpneaaGreatDoor.Jo
