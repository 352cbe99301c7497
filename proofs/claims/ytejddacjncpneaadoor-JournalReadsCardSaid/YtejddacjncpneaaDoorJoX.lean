/- JournalReads, walked. -/
import Derived.Test.YtejddacjncpneaaDoorJo3
import Derived.Deep.CutBlock
set_option maxRecDepth 100000
namespace Go.Proofs.YtejddacjncpneaaDoor.Jo
open Go.RowKit Di
open Wi (StrCells IsR rtext_any rnum_any left_any done_any pText pNum encText encInt Env)

/-- What stands at the head of a round of JournalReads's loop. -/
def RX (s : List UInt8) (w0 : World) (v n : Value) (wr : World) : Prop :=
  ∃ done rest, s = forms done ++ rest ∧ Small done ∧ n = .int .i64 (forms done).length ∧ wr.ownsRow (w0.heap.size + 1) 9 1 v done.length (done.map Value.string) ∧
    IsR w0.heap.size rest false wr ∧ w0.grownBy wr (some w0.heap.size)
/-- What stands behind it. -/
def RE (s : List UInt8) (w0 : World) (v n : Value) (wr : World) : Prop :=
  n = .int .i64 (forms (recs s)).length ∧ wr.ownsRow (w0.heap.size + 1) 9 1 v (recs s).length ((recs s).map Value.string) ∧ Below w0.heap.size w0 wr

theorem RX.fin {s : List UInt8} {w wr w' : World} {v : Value} {done : List ByteArray} {rest : List UInt8} (h1 : s = forms done ++ rest) (h2 : Small done)
    (h4 : wr.ownsRow (w.heap.size + 1) 9 1 v done.length (done.map Value.string)) (hg : wr.grownBy w' (some w.heap.size)) (h6 : w.grownBy w' (some w.heap.size)) (hn : rec1 rest = none) :
    RE s w v (.int .i64 (forms done).length) w' := by
  have e : recs s = done := by rw [h1, recs_forms _ _ h2, recs_none hn, List.append_nil]
  exact ⟨by rw [e], by rw [e]; exact h4.kept hg (Wi.own_ne h4 (by omega)), ⟨h6.os, h6.tape, h6.output, h6.size, fun k hk => h6.block k hk (by simp; omega)⟩⟩
theorem rec1_nil : rec1 [] = none := by decide +kernel

theorem reads_out (s : ByteArray) (w : World) (he : Env w) (hs : 300 < s.size) (hm : s.size ≤ 9223372036854775807) :
    Calls Tryd.prog 5 #[.string s] w (Gives (.bool true) w) := by
  go_enter Tryd.func5, Tryd.ntmps5
  go_wp2_with fail
  refine (small_any w he).mono ?_
  rintro e w1 ⟨rfl, ho⟩
  have HO := Lib.hid ho
  clear ho
  go_wp2_with fail
  go_ret
  exact ⟨rfl, HO.out.below (Nat.le_refl _)⟩

def u0 (s : ByteArray) : St := Di.write St.new 7 0 s.data.toList
theorem u0_facts (s : ByteArray) (hs : s.size ≤ 300) : Di.writeR St.new 7 0 s.data.toList = 0 ∧ (u0 s).now 7 = s.data.toList ∧ (u0 s).down = false ∧ (u0 s).lost = 0 ∧ (u0 s).calls = 0 := by
  have hl := size_eq s
  have hc : chk St.new 7 0 s.data.toList.length = 0 := chk_zero.2 ⟨rfl, rfl, by omega, by omega⟩
  have hg : ∀ st : St, st.calls = 0 → goes st = st := fun st h => by unfold goes; rw [if_pos (.inr h)]
  have hw : u0 s = Di.wr St.new 7 0 s.data.toList := by
    unfold u0 Di.write
    rw [if_pos hc]
    refine hg _ ?_
    unfold Di.wr
    split <;> rfl
  have hn : (Di.wr St.new 7 0 s.data.toList).now 7 = s.data.toList := by
    unfold Di.wr
    split
    · rename_i h; rw [h]; rfl
    · simp [upd_same, putL, St.new]
  have hd : (Di.wr St.new 7 0 s.data.toList).down = false ∧ (Di.wr St.new 7 0 s.data.toList).lost = 0 ∧ (Di.wr St.new 7 0 s.data.toList).calls = 0 := by
    unfold Di.wr
    split <;> exact ⟨rfl, rfl, rfl⟩
  refine ⟨?_, by rw [hw, hn], by rw [hw]; exact hd.1, by rw [hw]; exact hd.2.1, by rw [hw]; exact hd.2.2⟩
  unfold Di.writeR
  rw [show Di.write St.new 7 0 s.data.toList = _ from hw, hd.1, if_neg (by simp), hc]
/-- Opening a journal where nothing is scheduled or lost. -/
theorem open_calm {st : St} {f : Int} (hf : isF f = true) (hd : st.down = false) (hc : st.calls = 0) (hl : st.lost = 0) :
    opC st f = 0 ∧ (opS st f).now f = forms (recs (st.now f)) ∧ (opS st f).dur f = forms (recs (st.now f)) ∧ (opS st f).down = false ∧ (opS st f).calls = 0 ∧ (opS st f).lost = 0 := by
  have hg : ∀ st : St, st.calls = 0 → goes st = st := fun st h => by unfold goes; rw [if_pos (.inr h)]
  have hsy : sync st f = Di.settle st f := by unfold sync; rw [hg st hc, if_neg (by simp [hd, hf]), if_neg (by omega)]
  have hsr : syncR st f = 0 := by unfold syncR; rw [hg st hc, if_neg (by simp [hd]), if_neg (by simp [hf]), if_neg (by omega)]
  have hsc : (Di.settle st f).calls = 0 := hc
  have hsn : (Di.settle st f).now f = st.now f := rfl
  have hsd : (Di.settle st f).dur f = st.now f := by simp [Di.settle, upd_same]
  have hlen := recs_len (st.now f)
  have htk := recs_take (st.now f)
  have hft : ¬ isF f = false := by simp [hf]
  have ec : opC st f = if (forms (recs (st.now f))).length < (st.now f).length then truncR (Di.settle st f) f (forms (recs (st.now f))).length else 0 := by
    unfold opC opR; rw [if_neg hft, if_pos hsr, hsy]
  have es : opS st f = if (forms (recs (st.now f))).length < (st.now f).length then trunc (Di.settle st f) f (forms (recs (st.now f))).length else Di.settle st f := by
    unfold opS opR; rw [if_neg hft, if_pos hsr, hsy]
  rw [ec, es]
  by_cases hlt : (forms (recs (st.now f))).length < (st.now f).length
  · rw [if_pos hlt, if_pos hlt]
    have ht : truncR (Di.settle st f) f (forms (recs (st.now f))).length = 0 := by
      unfold truncR
      rw [hg _ hsc, if_neg (by show ¬ st.down = true; simp [hd]), if_neg]
      rw [hsn]
      simp [hf]; omega
    have ht2 : trunc (Di.settle st f) f (forms (recs (st.now f))).length = Di.cut (Di.settle st f) f (forms (recs (st.now f))).length := by
      unfold trunc
      rw [hg _ hsc, if_neg]
      · simp
      · rw [hsn]
        have : (Di.settle st f).down = false := hd
        simp [hf, this]; omega
    rw [ht, ht2]
    refine ⟨rfl, ?_, ?_, hd, hc, hl⟩
    · simp only [Di.cut, Di.settle, upd_same]; exact htk
    · simp only [Di.cut, Di.settle, upd_same]; exact htk
  · rw [if_neg hlt, if_neg hlt]
    have e : forms (recs (st.now f)) = st.now f := by
      rw [← htk, List.take_of_length_le (by omega)]
    exact ⟨rfl, by rw [hsn, e], by rw [hsd, e], hd, hc, hl⟩

theorem slice_at (d r : List UInt8) (m : Nat) : ((⟨(d ++ r).toArray⟩ : ByteArray).extract d.length (d.length + m)).toList = r.take m := by
  rw [ByteArray.toList_eq]
  simp [List.extract_eq_take_drop]
theorem slice_to (d r : List UInt8) : ((⟨(d ++ r).toArray⟩ : ByteArray).extract 0 d.length).toList = d := by
  rw [ByteArray.toList_eq]
  simp [List.extract_eq_take_drop]
/-- Where nothing can be read, what is written of it does not stand there. -/
theorem no_form {rest F : List UInt8} (hF : ∀ q, ∃ x y, rec1 (F ++ q) = some (x, y)) (h : rec1 rest = none) : (rest.take F.length == F) = false := by
  rw [beq_eq_false_iff_ne]
  intro e
  obtain ⟨x, y, hxy⟩ := hF (rest.drop F.length)
  have e2 : rest = F ++ rest.drop F.length := by conv => lhs; rw [← List.take_append_drop F.length rest, e]
  rw [← e2, h] at hxy
  cases hxy
theorem can_form {x : ByteArray} (h : x.size ≤ 20000) : ∀ q, ∃ y z, rec1 (encText x.data.toList ++ encInt (sumB x.data.toList) ++ q) = some (y, z) := fun q => ⟨x, q, rec1_form x q h⟩

/-! ### a string and a number are read, whatever stands there -/
def tX (rest : List UInt8) : ByteArray := match pText rest with
  | some (x, _) => x
  | none => ⟨#[]⟩
def tR (rest : List UInt8) : List UInt8 := match pText rest with
  | some (_, r) => r
  | none => []
def tB (rest : List UInt8) : Bool := match pText rest with
  | some _ => false
  | none => true
def nV (r : List UInt8) : Int := match pNum 59 r with
  | some (n, _) => n
  | none => 0
def nN (rest : List UInt8) : Int := nV (tR rest)
def nR (rest : List UInt8) : List UInt8 := match pNum 59 (tR rest) with
  | some (_, r) => r
  | none => []
def nB (bad : Bool) (r : List UInt8) : Bool := match pNum 59 r with
  | some _ => bad
  | none => true
theorem tR_len (rest : List UInt8) : (tR rest).length ≤ rest.length := by
  unfold tR
  split
  · rename_i x r h
    have := (pText_shorter h).1
    omega
  · simp
theorem textU {b : Nat} {rest : List UInt8} {w : World} (hi : IsR b rest false w) (he : Env w) (hl : rest.length ≤ 100000000) :
    Calls Tryd.prog 24 #[.pointer (some ⟨b, 0, none⟩)] w fun e w' => e = .returned (.string (tX rest)) ∧ IsR b (tR rest) (tB rest) w' ∧ w.grownBy w' (some b) := by
  refine (rtext_any b rest false hl w hi he).mono ?_
  rintro e w' h
  unfold tX tR tB
  cases hp : pText rest with
  | none => obtain ⟨h1, h2, h3⟩ := h.none' hp; exact ⟨h2, h3, h1⟩
  | some p => obtain ⟨x, r⟩ := p; obtain ⟨h1, h2, h3⟩ := h.some' hp; exact ⟨h2, h3, h1⟩
theorem numU {b : Nat} {rest : List UInt8} {bad : Bool} {w : World} (hi : IsR b (tR rest) bad w) (he : Env w) (hl : (tR rest).length ≤ 100000000) :
    Calls Tryd.prog 25 #[.pointer (some ⟨b, 0, none⟩)] w fun e w' => e = .returned (.int .i64 (nV (tR rest))) ∧ IsR b (nR rest) (nB bad (tR rest)) w' ∧ w.grownBy w' (some b) := by
  refine (rnum_any b (tR rest) bad hl w hi he).mono ?_
  rintro e w' h
  unfold nV nR nB
  cases hp : pNum 59 (tR rest) with
  | none => obtain ⟨h1, h2, h3⟩ := h.none' hp; exact ⟨h2, h3, h1⟩
  | some p => obtain ⟨x, r⟩ := p; obtain ⟨h1, h2, h3⟩ := h.some' hp; exact ⟨h2, h3, h1⟩
theorem read_dec (rest : List UInt8) (hl : rest.length ≤ 300) : (tX rest).size ≤ 300 ∧ 0 ≤ nN rest ∧ nN rest ≤ 9223372036854775807 ∧
    ((nN rest ≠ sumB (tX rest).data.toList ∧ rec1 rest = none) ∨ (nN rest = sumB (tX rest).data.toList ∧ rec1 rest = none) ∨
     (nN rest = sumB (tX rest).data.toList ∧ rec1 rest = some (tX rest, nR rest) ∧ nB (tB rest) (tR rest) = false)) := by
  unfold nN nR nV nB tX tR tB
  cases hp : pText rest with
  | none =>
    simp only [pNum_nil]
    exact ⟨by decide, by omega, by omega, .inr (.inl ⟨by decide, by unfold rec1; rw [hp]⟩)⟩
  | some p =>
    obtain ⟨x, r1⟩ := p
    have hx := (pText_shorter hp).2
    cases hq : pNum 59 r1 with
    | none =>
      simp only [hq]
      have hn : rec1 rest = none := by unfold rec1; rw [hp]; simp only [hq]
      refine ⟨by omega, by omega, by omega, ?_⟩
      by_cases h0 : (0 : Int) = sumB x.data.toList
      · exact .inr (.inl ⟨h0, hn⟩)
      · exact .inl ⟨h0, hn⟩
    | some q =>
      obtain ⟨n, r2⟩ := q
      simp only [hq]
      have hnn := Wi.pNum_some hq
      have hnb := (Wi.pInt_some _ _ _ _ hnn.1).2
      refine ⟨by omega, hnn.2, hnb.2, ?_⟩
      by_cases h0 : n = sumB x.data.toList
      · refine .inr (.inr ⟨h0, ?_, trivial⟩)
        unfold rec1; rw [hp]; simp only [hq]; rw [if_pos ⟨by omega, h0.symm⟩]
      · refine .inl ⟨h0, ?_⟩
        unfold rec1; rw [hp]; simp only [hq]; rw [if_neg fun h => h0 h.2.symm]

set_option maxHeartbeats 4000000 in
theorem reads_in (L : List UInt8) (w : World) (he : Env w) (hs : L.length ≤ 300) :
    Calls Tryd.prog 5 #[.string ⟨L.toArray⟩] w (Gives (.bool true) w) := by
  have h6 := he.size
  have HE0 := Lib.hid he
  have hsz : (⟨L.toArray⟩ : ByteArray).size ≤ 300 := by simpa [ByteArray.size] using hs
  obtain ⟨u1, u2, u3, u4, u5⟩ := u0_facts ⟨L.toArray⟩ hsz
  have u2' : (u0 ⟨L.toArray⟩).now 7 = L := u2
  obtain ⟨o1, o2, _, o4, o5, o6⟩ := open_calm (f := 7) (by decide) u3 u5 u4
  rw [u2'] at o2
  have oR : opR (u0 ⟨L.toArray⟩) 7 = recs L := by unfold opR; rw [u2']
  obtain ⟨p1, p2, _, p4, p5, p6⟩ := open_calm (f := 7) (by decide) o4 o5 o6
  obtain ⟨R, hR⟩ : ∃ R, recs L = R := ⟨_, rfl⟩
  have hRs : Small R := hR ▸ recs_small L
  have hRl : (forms R).length ≤ 300 := by have := recs_len L; rw [hR] at this; omega
  have hRn := forms_ge R
  rw [hR] at oR o2
  have pR : opR (opS (u0 ⟨L.toArray⟩) 7) 7 = R := by unfold opR; rw [o2, recs_of_forms R hRs]
  rw [o2, recs_of_forms R hRs] at p2
  obtain ⟨st0, hst0⟩ : ∃ st0, u0 ⟨L.toArray⟩ = st0 := ⟨_, rfl⟩
  rw [hst0] at o1 oR o2 o4 pR p1 p2
  obtain ⟨st1, hst1⟩ : ∃ st1, opS st0 7 = st1 := ⟨_, rfl⟩
  rw [hst1] at o2 o4 pR p1 p2
  have HF := Lib.hid (show Di.writeR St.new 7 0 (⟨L.toArray⟩ : ByteArray).data.toList = 0 ∧ Di.write St.new 7 0 (⟨L.toArray⟩ : ByteArray).data.toList = st0 ∧ opC st0 7 = 0 ∧ opR st0 7 = R ∧ opS st0 7 = st1 ∧ st1.now 7 = forms R ∧ opC st1 7 = 0 ∧ opR st1 7 = R ∧ (opS st1 7).now 7 = forms R ∧ recs L = R ∧ st1.down = false ∧ (opS st1 7).down = false from ⟨u1, hst0, o1, oR, hst1, o2, p1, pR, p2, hR, o4, by rw [hst0, hst1] at p4; exact p4⟩)
  clear he u1 u2 u3 u4 u5 u2' o1 o2 o4 o5 o6 oR p1 p2 p4 p5 p6 pR hR hst0 hst1
  go_enter Tryd.func5, Tryd.ntmps5
  go_wp2_with fail
  refine (small_any w HE0.out).mono ?_
  rintro e w1 ⟨rfl, ho1⟩
  have HO1 := Lib.hid ho1
  clear ho1
  go_wp2_with fail
  refine (new_any w1).mono ?_
  rintro e w2 ⟨r, rfl, hdk, hg⟩
  have hk := (new_dk hdk).lower HO1.out.size
  have HO2 : Hid (Ov w.heap.size w w2) := HO1.out.trans (Ov.grown hg)
  have hz2 : w.heap.size ≤ w2.heap.size := HO2.out.size
  have HN := Lib.hid (hk.write (f := 7) hz2 0 ⟨L.toArray⟩ (by omega) (by omega) (by omega))
  clear hdk hg hk HO1
  go_wp2_with fail
  refine HN.out.mono ?_
  clear HN
  rintro e w3 ⟨rfl, hk, ho⟩
  rw [HF.out.1]
  rw [HF.out.2.1] at hk
  have hz3 : w.heap.size ≤ w3.heap.size := Nat.le_trans hz2 ho.size
  have HO3 : Hid (Ov w.heap.size w w3) := HO2.out.trans ho
  have HE := Lib.hid (env_ov HE0.out HO3.out h6)
  have HN := Lib.hid (open_any hk hz3 h6 HE.out (f := 7) (by omega))
  clear ho HO2 hz2 hk
  go_wp2_with fail
  refine HN.out.mono ?_
  clear HN
  rintro e w4 hp
  obtain ⟨jb, v, rfl, hj, ho⟩ := hp.ok HF.out.2.2.1 HF.out.2.2.2.1
  rw [HF.out.2.2.2.2.1] at hj
  have hz4 : w.heap.size ≤ w4.heap.size := Nat.le_trans hz3 ho.size
  have HO4 : Hid (Ov w.heap.size w w4) := HO3.out.trans ho
  have HN := Lib.hid (all_any hj (by omega))
  have HJ := Lib.hid hj
  clear hp ho HO3 hz3 hj
  go_wp2_with fail
  refine HN.out.mono ?_
  clear HN
  rintro e w5 hl
  obtain ⟨a1, cap1, rfl, hs1, ht1, _, hb5⟩ := hl.open
  have hj := HJ.out.swap (same_below hb5) (T' := TS a1) (K' := fun w => StrCells w a1 R) (fun b hb => ⟨.inr (ht1 b hb).1, (ht1 b hb).2⟩) (keeps_str hs1)
  have hz5 : w.heap.size ≤ w5.heap.size := Nat.le_trans hz4 hb5.size
  have HO5 : Hid (Ov w.heap.size w w5) := HO4.out.trans (ovBelow hb5)
  have HE5 := Lib.hid (env_ov HE0.out HO5.out h6)
  have HJ5 := Lib.hid hj
  clear hl hs1 ht1 hb5 HJ HO4 hz4 hj
  go_wp2_with fail
  refine (Wi.open_any _ w5).mono ?_
  rintro e w6 ⟨rfl, rfl⟩
  have hst : RX L w5 (.slice none 0 0) (.int .i64 0) (w5.alloc (.cells #[.string ⟨L.toArray⟩, .bool false] 81)) :=
    ⟨[], L, rfl, by intro x hx; simp at hx, rfl, World.ownsRow_nil _ _ _ _, Wi.fresh_R w5 L, Wi.on_grown (Wi.on_refl _ w5) (World.grownBy_alloc _ _ none) (fun k hk => by cases hk)⟩
  have HX := Lib.hid hst
  clear hst
  go_upto_block 0 with fail
  go_cut [9, 10, 11, 12, 13] from 48 to 91 (fun v n _ _ _ wx => Hid (RE L w5 v n wx))
  case first =>
    go_wp2_with fail
    go_loopw [9, 10] (fun v n wr => RX L w5 v n wr) (fun _ n _ => L.length - (RowKit.intOf n).toNat)
    case atStart => exact HX.out
    case round =>
      clear HX
      obtain ⟨done, rest, hsr, hsm, rfl, hown, hir, hgr⟩ := hrel
      have hrl : (forms done).length + rest.length = L.length := by rw [hsr, List.length_append]
      have hdl := forms_ge done
      have HSR := Lib.hid hsr
      have HSM := Lib.hid hsm
      have HO := Lib.hid hgr
      have HW := Lib.hid hown
      have hz56 : 6 ≤ w5.heap.size := by omega
      have HE1 := Lib.hid (HE5.out.on hgr hz56)
      clear hsr hsm hown
      by_cases hre : rest = []
      · subst hre
        have HN := Lib.hid rec1_nil
        go_wp2_with fail
        refine (left_any _ [] false _ hir).mono ?_
        rintro e w7 ⟨rfl, rfl⟩
        go_wp2_with fail
        go_meet
        case rel => exact RX.fin HSR.out HSM.out HW.out (Wi.on_refl _ _) HO.out HN.out
      · have hrp : 0 < rest.length := by cases rest with
          | nil => exact absurd rfl hre
          | cons => simp
        clear hre
        obtain ⟨x, hx⟩ : ∃ x, tX rest = x := ⟨_, rfl⟩
        obtain ⟨n, hn⟩ : ∃ n, nN rest = n := ⟨_, rfl⟩
        obtain ⟨r2, hr2⟩ : ∃ r2, nR rest = r2 := ⟨_, rfl⟩
        have hdec := read_dec rest (by omega)
        have HTX := Lib.hid (textU hir HE1.out (by omega))
        have hlm := tR_len rest
        rw [hx, hn] at hdec
        obtain ⟨hxs, hn0, hn1, hd⟩ := hdec
        have hxl := Wi.itoa_len20 (x.size : Int) (by omega) (by omega)
        have hel := encText_len x
        have hnl := Wi.itoa_len20 n (by omega) (by omega)
        have hnl2 : (encInt n).length ≤ 21 := by simp [encInt]; omega
        have hxs2 := size_eq x
        obtain ⟨m, hm⟩ : ∃ m, sumB x.data.toList = m := ⟨_, rfl⟩
        have hsmall : (m : Int) ≤ 102005100000 := by have := sum_small (x := x) (by omega); omega
        have hFl : (⟨(encText x.data.toList).toArray⟩ ++ ⟨(encInt n).toArray⟩ : ByteArray) = ⟨(encText x.data.toList ++ encInt n).toArray⟩ := by rw [Wi.ba_app]
        have HFB := Lib.hid hFl
        have HX := Lib.hid hx
        have HNN := Lib.hid hn
        have HM := Lib.hid hm
        have HR2 := Lib.hid hr2
        rw [hm] at hd
        have HIR := Lib.hid hir
        clear hgr hx hn hm hr2 hFl hir
        rcases hd with ⟨hne, hrn⟩ | ⟨heq, hrn⟩ | ⟨heq, hrs, hnb⟩
        · have HN := Lib.hid hrn
          have hne' : (n != (m : Int)) = true := by simpa using hne
          clear hne hrn
          go_wp2_with fail
          refine (left_any _ rest false _ HIR.out).mono ?_
          rintro e w7 ⟨rfl, rfl⟩
          go_wp2_with fail
          refine HTX.out.mono ?_
          rintro e w7 ⟨rfl, hi7, hg7⟩
          rw [HX.out]
          have HE7 := Lib.hid (HE5.out.on (Wi.on_trans HO.out hg7) hz56)
          have HNU := Lib.hid (numU hi7 HE7.out (by omega))
          have HG7 := Lib.hid hg7
          clear hi7 hg7
          go_wp2_with fail
          refine HNU.out.mono ?_
          rintro e w8 ⟨rfl, hi8, hg8⟩
          rw [show nV (tR rest) = nN rest from rfl, HNN.out]
          have HG8 := Lib.hid (Wi.on_trans HG7.out hg8)
          have HI8 := Lib.hid hi8
          have HE8 := Lib.hid (HE5.out.on (Wi.on_trans HO.out HG8.out) hz56)
          clear hi8 hg8 HNU
          go_wp2_with fail
          refine (Wi.text_any x (by omega) _ HE8.out).mono ?_
          rintro e w9 ⟨rfl, hb9⟩
          have HB9 := Lib.hid hb9
          have HE9 := Lib.hid (HE8.out.below hb9 HE8.out.size)
          clear hb9
          go_wp2_with fail
          refine (Wi.num_any _ (by omega) (by omega) _ HE9.out).mono ?_
          rintro e w10 ⟨rfl, hb10⟩
          have HB10 : Hid (Below w8.heap.size w8 w10) := HB9.out.trans (hb10.mono HB9.out.size)
          have HG9 := Lib.hid (Wi.on_trans HG8.out (Wi.on_below (b := w5.heap.size) HB10.out))
          clear hb10
          go_wp2_with fail
          refine (sum_any x (by omega) _).mono ?_
          rintro e w11 ⟨rfl, rfl⟩
          rw [HM.out]
          go_wp2_with fail
          go_meet
          case rel => exact RX.fin HSR.out HSM.out HW.out HG9.out (Wi.on_trans HO.out HG9.out) HN.out
        · have HN := Lib.hid hrn
          subst heq
          go_wp2_with fail
          refine (left_any _ rest false _ HIR.out).mono ?_
          rintro e w7 ⟨rfl, rfl⟩
          go_wp2_with fail
          refine HTX.out.mono ?_
          rintro e w7 ⟨rfl, hi7, hg7⟩
          rw [HX.out]
          have HE7 := Lib.hid (HE5.out.on (Wi.on_trans HO.out hg7) hz56)
          have HNU := Lib.hid (numU hi7 HE7.out (by omega))
          have HG7 := Lib.hid hg7
          clear hi7 hg7
          go_wp2_with fail
          refine HNU.out.mono ?_
          rintro e w8 ⟨rfl, hi8, hg8⟩
          rw [show nV (tR rest) = nN rest from rfl, HNN.out]
          have HG8 := Lib.hid (Wi.on_trans HG7.out hg8)
          have HI8 := Lib.hid hi8
          have HE8 := Lib.hid (HE5.out.on (Wi.on_trans HO.out HG8.out) hz56)
          clear hi8 hg8 HNU
          go_wp2_with fail
          refine (Wi.text_any x (by omega) _ HE8.out).mono ?_
          rintro e w9 ⟨rfl, hb9⟩
          have HB9 := Lib.hid hb9
          have HE9 := Lib.hid (HE8.out.below hb9 HE8.out.size)
          clear hb9
          go_wp2_with fail
          refine (Wi.num_any _ (by omega) (by omega) _ HE9.out).mono ?_
          rintro e w10 ⟨rfl, hb10⟩
          have HB10 : Hid (Below w8.heap.size w8 w10) := HB9.out.trans (hb10.mono HB9.out.size)
          have HG9 := Lib.hid (Wi.on_trans HG8.out (Wi.on_below (b := w5.heap.size) HB10.out))
          clear hb10
          go_wp2_with fail
          refine (sum_any x (by omega) _).mono ?_
          rintro e w11 ⟨rfl, rfl⟩
          rw [HM.out]
          rw [HFB.out]
          obtain ⟨F, hF⟩ : ∃ F, encText x.data.toList ++ encInt m = F := ⟨_, rfl⟩
          have hFlen : F.length ≤ 400 := by rw [← hF, List.length_append]; omega
          have HNF : Hid ((((⟨L.toArray⟩ : ByteArray).extract (forms done).length ((forms done).length + F.length)).toList == F) = false) := by
            unfold Hid
            rw [HSR.out, slice_at]
            refine no_form ?_ HN.out
            rw [← hF, ← HM.out]
            exact can_form (by omega)
          rw [hF]
          clear hF
          obtain ⟨D, hD⟩ : ∃ D, (forms done).length = D := ⟨_, rfl⟩
          have HE : Hid (RE L w5 u9 (.int .i64 D) w10) := by rw [← hD]; exact RX.fin HSR.out HSM.out HW.out HG9.out (Wi.on_trans HO.out HG9.out) HN.out
          rw [hD] at HNF hrl hdl ⊢
          clear hD
          by_cases hbig : L.length < D + F.length
          · have hbig' : (L.length : Int) < (D : Int) + (F.length : Int) := by omega
            go_wp2_with fail
            go_meet
            case rel => exact HE.out
          · have hbig' : ¬ (L.length : Int) < (D : Int) + (F.length : Int) := by omega
            have hnf := HNF.out
            have hrun : (Instr.slice 9 (.string ⟨L.toArray⟩) (some (.int .i64 (D : Int))) (some (.int .i64 ((D : Int) + (F.length : Int)))) none).run Tryd.prog w10 = .ok (.string ((⟨L.toArray⟩ : ByteArray).extract D (D + F.length))) w10 := by
              rw [run_slice_string w10 9 _ .i64 .i64 _ _ Tryd.underlying9 (by omega) (by omega) (by simp [ByteArray.size]; omega)]
              congr 3
            obtain ⟨P, hP⟩ : ∃ P, (⟨L.toArray⟩ : ByteArray).extract D (D + F.length) = P := ⟨_, rfl⟩
            rw [hP] at hrun hnf
            clear hP
            go_wp2_with fail
            go_meet
            case rel => exact HE.out
        · have HN := Lib.hid hrs
          subst heq
          go_wp2_with fail
          refine (left_any _ rest false _ HIR.out).mono ?_
          rintro e w7 ⟨rfl, rfl⟩
          go_wp2_with fail
          refine HTX.out.mono ?_
          rintro e w7 ⟨rfl, hi7, hg7⟩
          rw [HX.out]
          have HE7 := Lib.hid (HE5.out.on (Wi.on_trans HO.out hg7) hz56)
          have HNU := Lib.hid (numU hi7 HE7.out (by omega))
          have HG7 := Lib.hid hg7
          clear hi7 hg7
          go_wp2_with fail
          refine HNU.out.mono ?_
          rintro e w8 ⟨rfl, hi8, hg8⟩
          rw [show nV (tR rest) = nN rest from rfl, HNN.out]
          have HG8 := Lib.hid (Wi.on_trans HG7.out hg8)
          have HI8 := Lib.hid hi8
          have HE8 := Lib.hid (HE5.out.on (Wi.on_trans HO.out HG8.out) hz56)
          clear hi8 hg8 HNU
          go_wp2_with fail
          refine (Wi.text_any x (by omega) _ HE8.out).mono ?_
          rintro e w9 ⟨rfl, hb9⟩
          have HB9 := Lib.hid hb9
          have HE9 := Lib.hid (HE8.out.below hb9 HE8.out.size)
          clear hb9
          go_wp2_with fail
          refine (Wi.num_any _ (by omega) (by omega) _ HE9.out).mono ?_
          rintro e w10 ⟨rfl, hb10⟩
          have HB10 : Hid (Below w8.heap.size w8 w10) := HB9.out.trans (hb10.mono HB9.out.size)
          have HG9 := Lib.hid (Wi.on_trans HG8.out (Wi.on_below (b := w5.heap.size) HB10.out))
          clear hb10
          go_wp2_with fail
          refine (sum_any x (by omega) _).mono ?_
          rintro e w11 ⟨rfl, rfl⟩
          rw [HM.out]
          rw [HFB.out]
          have hFx : encText x.data.toList ++ encInt m = form x := by unfold form; rw [HM.out]
          rw [hFx]
          clear hFx
          have hnew := (rec1_some HN.out).1
          rw [HR2.out] at hnew
          have hfl : (forms (done ++ [x])).length + r2.length = L.length := by rw [HSR.out, hnew, forms_snoc]; simp; omega
          have hfp := form_pos x
          have hfm := form_len x (by omega)
          have hfe : (forms (done ++ [x])).length = (forms done).length + (form x).length := by rw [forms_snoc, List.length_append]
          have HNW : Hid (L = forms (done ++ [x]) ++ r2) := by unfold Hid; rw [forms_snoc, List.append_assoc, ← hnew]; exact HSR.out
          have HSM2 : Hid (Small (done ++ [x])) := fun y hy => by
            rcases List.mem_append.1 hy with hy | hy
            · exact HSM.out y hy
            · simp at hy; rw [hy]; omega
          have HFE := Lib.hid hfe
          have hrx : rest.take (form x).length = form x := by rw [hnew]; simp
          have HEQ : Hid ((((⟨L.toArray⟩ : ByteArray).extract (forms done).length ((forms done).length + (form x).length)).toList == form x) = true) := by
            unfold Hid
            rw [HSR.out, slice_at, hrx, beq_self_eq_true]
          have hir3 := HI8.out
          rw [HR2.out, hnb] at hir3
          have HI10 := Lib.hid (hir3.later HB10.out)
          clear hnew hir3 hrx hnb
          obtain ⟨D, hD⟩ : ∃ D, (forms done).length = D := ⟨_, rfl⟩
          obtain ⟨M, hM⟩ : ∃ M, (form x).length = M := ⟨_, rfl⟩
          have HDD := Lib.hid hD
          rw [hfe] at hfl
          rw [hD, hM] at hfl HFE HEQ
          rw [hM] at hfp hfm
          rw [hD] at hrl hdl ⊢
          have hle : ¬ (L.length : Int) < (D : Int) + (M : Int) := by omega
          have heq := HEQ.out
          have hrun : (Instr.slice 9 (.string ⟨L.toArray⟩) (some (.int .i64 (D : Int))) (some (.int .i64 ((D : Int) + (M : Int)))) none).run Tryd.prog w10 = .ok (.string ((⟨L.toArray⟩ : ByteArray).extract D (D + M))) w10 := by
            rw [run_slice_string w10 9 _ .i64 .i64 _ _ Tryd.underlying9 (by omega) (by omega) (by simp [ByteArray.size]; omega)]
            congr 3
          obtain ⟨P, hP⟩ : ∃ P, (⟨L.toArray⟩ : ByteArray).extract D (D + M) = P := ⟨_, rfl⟩
          rw [hP] at hrun heq
          obtain ⟨F, hF⟩ : ∃ F, form x = F := ⟨_, rfl⟩
          rw [hF] at heq hM ⊢
          subst hM
          obtain ⟨i0, hi0, hz0, hz1, hz2⟩ := info_parts infoStr
          have hown10 := HW.out.kept HG9.out (Wi.own_ne HW.out (by omega))
          have hz10 : w5.heap.size + 1 ≤ w10.heap.size := by have := HI10.out.lt; omega
          clear hD hP hF hfe
          go_wp2_with (at_builtin; refine wpList_append_own _ rfl _ _ 32 rfl (w5.heap.size + 1) 9 i0 (.string ⟨#[]⟩) 1 16 Tryd.underlying32 hi0 hz0 hz1 hz2 rfl (by decide) _ _ _ rfl (hown10.alloc _) ⟨w10.heap.size, 0, none⟩ 1 1 [.string x] rfl rfl ?c1 ?c2 ?c3 ?c4 ?c5 ?_)
          case c1 => exact Wi.new_cell _ _ _
          case c2 => intro u hu; simp at hu; subst hu; rfl
          case c3 => unfold maxLen; omega
          case c4 => omega
          case c5 => simp; omega
          intro v' w11 hown11 hgrow _
          have hbl := Wi.own_block HW.out
          have HO11 := Lib.hid (Wi.on_grown (Wi.on_grown (Wi.on_trans HO.out HG9.out) (World.grownBy_alloc w10 (.cells #[.string x] 9) none) (fun k hk => by cases hk)) hgrow (fun k hk => by have := hbl k hk; omega))
          have HI11 := Lib.hid ((HI10.out.grown (World.grownBy_alloc w10 (.cells #[.string x] 9) none) (by simp)).grown hgrow (fun e => by have := hbl _ e; omega))
          have HW11 : Hid (w11.ownsRow (w5.heap.size + 1) 9 1 v' (done ++ [x]).length ((done ++ [x]).map Value.string)) := by unfold Hid; simpa using hown11
          clear hbl hgrow hown11 hown10
          go_wp2_with fail
          go_roundw
          case rel => exact ⟨done ++ [x], r2, HNW.out, HSM2.out, by rw [HFE.out]; go_num, HW11.out, HI11.out, HO11.out⟩
          case measure => have := HDD.out; simp [RowKit.intOf]; omega
  case rest =>
    have hre := hcut.out
    clear HX
    obtain ⟨rfl, hrow, hbl⟩ := hre
    rw [HF.out.2.2.2.2.2.2.2.2.2.1] at hrow ⊢
    obtain ⟨a2, cap2, rfl, hs2⟩ := Wi.own_strs hrow
    have hlt2 : ∀ b, TS a2 b → w5.heap.size ≤ b ∧ b < wc.heap.size := by
      rintro b ⟨o, s, rfl⟩
      have := hrow.lt b rfl
      omega
    have hs5 := same_below hbl
    have hj := HJ5.out.swap hs5 (T' := fun b => TS a1 b ∨ TS a2 b) (K' := fun w => StrCells w a1 R ∧ StrCells w a2 R)
      (fun b hb => hb.elim (fun h => ⟨.inl h, Nat.lt_of_lt_of_le (HJ5.out.T_lt h) hs5.1⟩) fun h => ⟨.inr (hlt2 b h).1, (hlt2 b h).2⟩)
      ((HJ5.out.keeps.step fun b hb => hs5.2 b (HJ5.out.T_lt hb)).and (keeps_str hs2))
    have hk := hj.toDK
    have hzc : w.heap.size ≤ wc.heap.size := Nat.le_trans hz5 hs5.1
    have HOc : Hid (Ov w.heap.size w wc) := HO5.out.trans (ovBelow hbl)
    have HSz := Lib.hid (hk.size (f := 7) (by omega))
    have HRd := Lib.hid (hk.readAll HF.out.2.2.2.2.2.2.2.2.2.2.1 (show isF 7 = true by decide))
    rw [HF.out.2.2.2.2.2.1] at HSz HRd
    have HK := Lib.hid hk
    clear hrow hbl hs2 hlt2 hs5 hj hk HJ5 HO5 hz5
    go_wp2_with fail
    refine HSz.out.mono ?_
    rintro e w7 ⟨rfl, rfl⟩
    go_wp2_with fail
    refine HRd.out.mono ?_
    rintro e w8 ⟨rfl, hb8⟩
    have hk := HK.out.same (same_nothing hb8)
    have hz8 : w.heap.size ≤ w8.heap.size := Nat.le_trans hzc hb8.size
    have HO8 : Hid (Ov w.heap.size w w8) := HOc.out.trans (Ov.nothing hb8)
    have HE8 := Lib.hid (env_ov HE0.out HO8.out h6)
    have HN := Lib.hid (open_any hk hz8 h6 HE8.out (f := 7) (by omega))
    clear hb8 hk HK HSz HRd HOc hzc
    go_wp2_with fail
    refine HN.out.mono ?_
    clear HN
    rintro e w9 hp
    obtain ⟨kb, u, rfl, hj, ho⟩ := hp.ok HF.out.2.2.2.2.2.2.1 HF.out.2.2.2.2.2.2.2.1
    have hz9 : w.heap.size ≤ w9.heap.size := Nat.le_trans hz8 ho.size
    have HO9 : Hid (Ov w.heap.size w w9) := HO8.out.trans ho
    have HSz := Lib.hid (hj.dk.size (f := 7) (by omega))
    have HRd := Lib.hid (hj.dk.readAll HF.out.2.2.2.2.2.2.2.2.2.2.2 (show isF 7 = true by decide))
    rw [HF.out.2.2.2.2.2.2.2.2.1] at HSz HRd
    have HJ9 := Lib.hid hj
    clear hp ho HO8 hz8 hj
    go_wp2_with fail
    refine HSz.out.mono ?_
    rintro e w10 ⟨rfl, rfl⟩
    go_wp2_with fail
    refine HRd.out.mono ?_
    rintro e w10 ⟨rfl, hb10⟩
    have hj := HJ9.out.same (same_nothing hb10)
    have HO10 : Hid (Ov w.heap.size w w10) := HO9.out.trans (Ov.nothing hb10)
    have HS1 := Lib.hid (same_any a1 a2 cap1 cap2 R R (by omega) (by omega) w10 hj.keeps.self.1 hj.keeps.self.2)
    have HJ10 := Lib.hid hj
    rw [decide_eq_true (rfl : R = R)] at HS1
    clear hb10 hj HJ9 HO9 hz9 HSz HRd
    go_wp2_with fail
    refine HS1.out.mono ?_
    rintro e w11 ⟨rfl, hb11⟩
    have hj := HJ10.out.same (same_below hb11)
    have HO11 : Hid (Ov w.heap.size w w11) := HO10.out.trans (ovBelow hb11)
    have HAll := Lib.hid (all_any hj (by omega))
    have HJ11 := Lib.hid hj
    clear hb11 hj HJ10 HO10 HS1
    have hsl : (forms R == ((⟨L.toArray⟩ : ByteArray).extract 0 (forms R).length).toList) = true := by
      have h1 := recs_take L
      rw [HF.out.2.2.2.2.2.2.2.2.2.1] at h1
      rw [beq_iff_eq, ByteArray.toList_eq]
      conv => lhs; rw [← h1]
      simp [List.extract_eq_take_drop]
    have hsL : (forms R).length ≤ L.length := by
      have h1 := recs_len L
      rwa [HF.out.2.2.2.2.2.2.2.2.2.1] at h1
    go_wp2_with fail
    refine HAll.out.mono ?_
    rintro e w12 hl
    obtain ⟨a3, cap3, rfl, hs3, _, _, hb12⟩ := hl.open
    have hj := HJ11.out.same (same_below hb12)
    have HO12 : Hid (Ov w.heap.size w w12) := HO11.out.trans (ovBelow hb12)
    have HS2 := Lib.hid (same_any a3 a2 cap3 cap2 R R (by omega) (by omega) w12 hs3 hj.keeps.self.2)
    rw [decide_eq_true (rfl : R = R)] at HS2
    clear hl hs3 hb12 hj HJ11 HO11 HAll hsl
    go_wp2_with fail
    refine HS2.out.mono ?_
    rintro e w13 ⟨rfl, hb13⟩
    have HO13 : Hid (Ov w.heap.size w w13) := HO12.out.trans (ovBelow hb13)
    clear hb13 HS2 HO12
    go_wp2_with fail
    go_ret
    exact ⟨rfl, HO13.out.below (Nat.le_refl _)⟩
end Go.Proofs.YtejddacjncpneaaDoor.Jo
