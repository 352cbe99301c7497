/- WirePrefix. -/
import Derived.Test.YtpcdogbioopdgaaDoorJ
import Derived.Deep.RegionWith
namespace Go.Proofs.YtpcdogbioopdgaaDoor
open Go.RowKit Go.Sort

/-- Block b holds the five cells of v. -/
structure Box (w : World) (b : Nat) (v : V) : Prop where
  c0 : w.cell? ⟨b, 0, none⟩ = some (.int .i64 v.kd)
  c1 : w.cell? ⟨b, 1, none⟩ = some (.int .i64 v.nn)
  c2 : w.cell? ⟨b, 2, none⟩ = some (.string v.s)
  c3 : w.cell? ⟨b, 3, none⟩ = some (.slice v.la v.l.length v.lc)
  c4 : w.cell? ⟨b, 4, none⟩ = some (.slice v.ta v.t.length v.tc)
theorem Box.later {w w' : World} {b : Nat} {v : V} (h : Box w b v) (hb : RowKit.Below w.heap.size w w') : Box w' b v :=
  ⟨cell_later h.c0 hb, cell_later h.c1 hb, cell_later h.c2 hb, cell_later h.c3 hb, cell_later h.c4 hb⟩
theorem Box.fresh (w : World) (v : V) : Box (w.alloc (.cells #[.int .i64 v.kd, .int .i64 v.nn, .string v.s, .slice v.la v.l.length v.lc, .slice v.ta v.t.length v.tc] 25)) w.heap.size v :=
  ⟨by simp, by simp, by simp, by simp, by simp⟩
theorem Box.freshd (w : World) (v : V) : Box (w.alloc (.cells #[.int .i64 v.kd, .int .i64 v.nn, .string v.s, .slice v.la v.l.length v.lc, .slice v.ta v.t.length v.tc] 25)).drew w.heap.size v :=
  let h := Box.fresh w v
  ⟨h.c0, h.c1, h.c2, h.c3, h.c4⟩
theorem Box.cells {w : World} {b : Nat} {v : V} (h : Box w b v) : ∀ j u, v.cells[j]? = some u → w.cell? ⟨b, j, none⟩ = some u := by
  intro j u hu
  match j, hu with
  | 0, hu => rw [← hu]; exact h.c0
  | 1, hu => rw [← hu]; exact h.c1
  | 2, hu => rw [← hu]; exact h.c2
  | 3, hu => rw [← hu]; exact h.c3
  | 4, hu => rw [← hu]; exact h.c4
  | n + 5, hu => simp [V.cells] at hu

theorem few_at (v : V) (W0 W1 w W : World) (b : Nat) (hO : ∀ w' : World, Kept W1 w' → Old W0 w') (hk : Kept W1 W) (hx : Box W b v) (hv : VOk W0 v) (t : Bool) (ht : t = decide (v.weight ≤ 400)) :
    Calls Tryd.prog 10 #[.slice (some ⟨b, 0, none⟩) 1 1] W fun e w' => e = .returned (.bool t) ∧ Kept W1 w' :=
  (few_one v b 1 W hx.cells (hv.later (hO _ hk)) t ht).mono fun e w' h => ⟨h.1, hk.step h.2⟩
theorem kind_at (v : V) (W1 W : World) (hk : Kept W1 W) (c1 c2 c3 c4 : Value) (hn : -9223372036854775808 ≤ v.kd ∧ v.kd ≤ 9223372036854775807) :
    Calls Tryd.prog 23 #[.agg #[.int .i64 v.kd, c1, c2, c3, c4]] W fun e w' => e = .returned (.int .i64 (kindOf v.kd)) ∧ Kept W1 w' :=
  (kind_any v.kd c1 c2 c3 c4 hn W).mono fun e w' h => ⟨h.1, hk.step h.2⟩

theorem limbs {W w' : World} {b c : Nat} {v u : V} (x : Box W b v) (y : Box W c u) (h : Kept W w') : w'.cell? ⟨b, 0, none⟩ = some (.int .i64 v.kd) ∧ w'.cell? ⟨b, 1, none⟩ = some (.int .i64 v.nn) ∧ w'.cell? ⟨b, 2, none⟩ = some (.string v.s) ∧ w'.cell? ⟨b, 3, none⟩ = some (.slice v.la v.l.length v.lc) ∧ w'.cell? ⟨b, 4, none⟩ = some (.slice v.ta v.t.length v.tc) ∧ w'.cell? ⟨c, 0, none⟩ = some (.int .i64 u.kd) ∧ w'.cell? ⟨c, 1, none⟩ = some (.int .i64 u.nn) ∧ w'.cell? ⟨c, 2, none⟩ = some (.string u.s) ∧ w'.cell? ⟨c, 3, none⟩ = some (.slice u.la u.l.length u.lc) ∧ w'.cell? ⟨c, 4, none⟩ = some (.slice u.ta u.t.length u.tc) ∧ Kept W w' :=
  ⟨h.cell x.c0, h.cell x.c1, h.cell x.c2, h.cell x.c3, h.cell x.c4, h.cell y.c0, h.cell y.c1, h.cell y.c2, h.cell y.c3, h.cell y.c4, h⟩
theorem keptLast {W w' : World} {A0 A1 A2 A3 A4 A5 A6 A7 A8 A9 : Prop} (h : A0 ∧ A1 ∧ A2 ∧ A3 ∧ A4 ∧ A5 ∧ A6 ∧ A7 ∧ A8 ∧ A9 ∧ Kept W w') : Kept W w' := h.2.2.2.2.2.2.2.2.2.2
theorem Kept.alloc {W w : World} (h : Kept W w) (o : Obj) : Kept W (w.alloc o) := RowKit.Below.alloc h h.size o
theorem Kept.stepB {W wi w' : World} (hb : RowKit.Below wi.heap.size wi w') (h : Kept W wi) : Kept W w' := h.step hb
theorem Kept.rfl' (W : World) : Kept W W := Below.refl _ _

/-- Encodings of one kind are no prefixes of each other. -/
theorem enc_prefix (w : World) (v u : V) (hv : VOk w v) (hu : VOk w u) (hk : kindOf v.kd = kindOf u.kd) (r : List UInt8) (h : u.enc = v.enc ++ r) : r = [] := by
  have hb := kindOf_bd v.kd
  simp only [V.enc, ← hk] at h
  by_cases h0 : kindOf v.kd = 0
  · simp only [h0, if_true] at h
    have a := pNum_encInt (numOf u.nn) (numOf_bd hu.nb).1 (numOf_bd hu.nb).2 []
    have b := pNum_encInt (numOf v.nn) (numOf_bd hv.nb).1 (numOf_bd hv.nb).2 r
    rw [List.append_nil, h, b] at a
    simp at a; exact a.2
  by_cases h1 : kindOf v.kd = 1
  · simp only [h0, h1, if_true, if_false] at h
    have a := pInt_encInt u.nn hu.nb []
    have b := pInt_encInt v.nn hv.nb r
    rw [List.append_nil] at a
    rw [show encInt u.nn = encInt v.nn ++ r from h, b] at a
    simp at a; exact a.2
  by_cases h2 : kindOf v.kd = 2
  · simp only [h0, h1, h2, if_true, if_false] at h
    have a := pText_enc u.s hu.sb []
    have b := pText_enc v.s hv.sb r
    rw [List.append_nil] at a
    rw [show encText u.s.data.toList = encText v.s.data.toList ++ r from h, b] at a
    simp at a; exact a.2
  by_cases h3 : kindOf v.kd = 3
  · simp only [h0, h1, h2, h3, if_true, if_false] at h
    have a := pNums_enc u.l hu.lb hu.lok []
    have b := pNums_enc v.l hv.lb hv.lok r
    rw [List.append_nil] at a
    rw [show encNums u.l = encNums v.l ++ r from h, b] at a
    simp at a; exact a.2
  · simp only [h0, h1, h2, h3, if_false] at h
    have a := pTexts_enc u.t hu.tb hu.tsb []
    have b := pTexts_enc v.t hv.tb hv.tsb r
    rw [List.append_nil, h, b] at a
    simp at a; exact a.2

theorem enc_len {w : World} {v : V} (hv : VOk w v) (h : v.weight ≤ 400) : v.enc.length ≤ 1000000 := by
  have hq := weight_bounds h
  simp only [V.weight] at h
  unfold V.enc
  split
  · have := encInt_len _ ⟨by have := (numOf_bd hv.nb).1; omega, (numOf_bd hv.nb).2⟩; omega
  split
  · have := encInt_len _ hv.nb; omega
  split
  · have := encS_len 400 v.s hq.1 (by omega); unfold encS at this; omega
  split
  · have h1 := flat_len encInt 22 v.l (fun z hz => encInt_len z (hv.lok z hz))
    have h2 := Lib.itoa_length_le v.l.length (by omega) (by omega)
    simp only [encNums, List.length_append, List.length_cons, List.length_nil]; omega
  · have h1 := flat_len encS 424 v.t (fun z hz => encS_len 400 z (hq.2.2.2.2 z hz) (by omega))
    have h2 := Lib.itoa_length_le v.t.length (by omega) (by omega)
    simp only [encTexts, List.length_append, List.length_cons, List.length_nil]; omega
theorem way_eq (w : World) (v u : V) (hv : VOk w v) (hu : VOk w u) (hk : kindOf v.kd = kindOf u.kd)
    (h : ¬u.enc.length < v.enc.length ∧ (!(({ data := u.enc.toArray } : ByteArray).extract 0 (min (v.enc.length : Int) (u.enc.length : Int)).toNat).toList == v.enc) = false) : v.enc = u.enc := by
  obtain ⟨h1, h2⟩ := h
  have hm : (min (v.enc.length : Int) (u.enc.length : Int)).toNat = v.enc.length := by omega
  rw [hm] at h2
  simp only [Bool.not_eq_false', beq_iff_eq] at h2
  rw [ByteArray.toList_eq, text_ext u.enc v.enc.length (by omega)] at h2
  have h3 : u.enc.take v.enc.length = v.enc := by simpa using h2
  have h4 : u.enc = v.enc ++ u.enc.drop v.enc.length := by conv => lhs; rw [← List.take_append_drop v.enc.length u.enc, h3]
  have h5 := enc_prefix w v u hv hu hk _ h4
  rw [h5, List.append_nil] at h4
  exact h4.symm
theorem write_at (v : V) (W0 W1 W : World) (hO : ∀ w' : World, Kept W1 w' → Old W0 w') (hk : Kept W1 W) (he : Env W0) (hv : VOk W0 v) (hw : v.weight ≤ 400) :
    Calls Tryd.prog 42 #[.agg #[.int .i64 v.kd, .int .i64 v.nn, .string v.s, .slice v.la v.l.length v.lc, .slice v.ta v.t.length v.tc]] W fun e w' => e = .returned (.string ⟨v.enc.toArray⟩) ∧ Kept W1 w' :=
  (write_any v W (he.below (hO _ hk) he.size) (hv.later (hO _ hk)) hw).mono fun e w' h => ⟨h.1, hk.step h.2⟩

set_option maxRecDepth 100000 in
set_option maxHeartbeats 8000000 in
theorem prefix_same (v u : V) (w : World) (he : Env w) (hv : VOk w v) (hu : VOk w u) (hf1 : v.weight ≤ 400) (hf2 : u.weight ≤ 400) (hkk : kindOf v.kd = kindOf u.kd) :
    Calls Tryd.prog 7 #[.agg #[.int .i64 v.kd, .int .i64 v.nn, .string v.s, .slice v.la v.l.length v.lc, .slice v.ta v.t.length v.tc], .agg #[.int .i64 u.kd, .int .i64 u.nn, .string u.s, .slice u.la u.l.length u.lc, .slice u.ta u.t.length u.tc]] w (Gives (.bool true) w) := by
  have hz := he.size
  have HV := Lib.hid hv
  have HU := Lib.hid hu
  have HE := Lib.hid he
  have hvk := hv.kb
  have huk := hu.kb
  clear hv hu
  go_enter Tryd.func7, Tryd.ntmps7
  go_wp2_with fail
  refine (small_any _ (he.below (((Below.refl w.heap.size w).alloc (Nat.le_refl _) _).alloc (by simp) _) hz)).mono ?_
  rintro e w1 ⟨rfl, b1⟩
  have B1 : RowKit.Below w.heap.size w w1 := (((Below.refl w.heap.size w).alloc (Nat.le_refl _) _).alloc (by simp) _).trans (b1.mono (by simp; omega))
  have X1 : Box w1 w.heap.size v := ((Box.fresh w v).later ((Below.refl _ _).alloc (Nat.le_refl _) _)).later b1
  have X2 : Box w1 (w.heap.size + 1) u := by
    have := (Box.fresh (w.alloc (.cells #[.int .i64 v.kd, .int .i64 v.nn, .string v.s, .slice v.la v.l.length v.lc, .slice v.ta v.t.length v.tc] 25)) u).later b1
    rw [show (w.alloc (.cells #[.int .i64 v.kd, .int .i64 v.nn, .string v.s, .slice v.la v.l.length v.lc, .slice v.ta v.t.length v.tc] 25)).heap.size = w.heap.size + 1 by simp] at this
    exact this
  clear b1 he
  go_wp2_with fail
  have O1 : Old w w1 := B1
  have OLDK : Hid (∀ w' : World, Kept w1 w' → Old w w') := fun w' h => RowKit.Below.trans O1 (RowKit.Below.mono h O1.size)
  have BX1 := Lib.hid X1
  have BX2 := Lib.hid X2
  have hk0 : Kept w1 w1 := Kept.rfl' w1
  obtain ⟨x0, x1, x2, x3, x4⟩ := X1
  obtain ⟨y0, y1, y2, y3, y4⟩ := X2
  have hkb : (kindOf v.kd != kindOf u.kd) = false := by simpa using hkk
  have HKK := Lib.hid hkk
  have t1 : true = decide (v.weight ≤ 400) := by simp [hf1]
  have HT1 := Lib.hid t1
  have t2 : true = decide (u.weight ≤ 400) := by simp [hf2]
  have HT2 := Lib.hid t2
  have hl1 := enc_len HV.out hf1
  have hl2 := enc_len HU.out hf2
  clear t1 t2 hkk
  go_region_with (first | (go_at_call 10; (with_reducible refine (few_at v w w1 w _ _ OLDK.out ?_ ?_ HV.out true HT1.out).mono ?_); (focus (first | assumption | exact Kept.drew (Kept.alloc (by assumption) _) | exact Kept.alloc (by assumption) _ | exact Kept.drew (by assumption))); (focus (first | exact Box.freshd _ _ | exact Box.fresh _ _)); rintro e w' ⟨rfl, hk'⟩; obtain ⟨x0, x1, x2, x3, x4⟩ := BX1.out.later hk'; obtain ⟨y0, y1, y2, y3, y4⟩ := BX2.out.later hk') | (go_at_call 10; (with_reducible refine (few_at u w w1 w _ _ OLDK.out ?_ ?_ HU.out true HT2.out).mono ?_); (focus (first | assumption | exact Kept.drew (Kept.alloc (by assumption) _) | exact Kept.alloc (by assumption) _ | exact Kept.drew (by assumption))); (focus (first | exact Box.freshd _ _ | exact Box.fresh _ _)); rintro e w' ⟨rfl, hk'⟩; obtain ⟨x0, x1, x2, x3, x4⟩ := BX1.out.later hk'; obtain ⟨y0, y1, y2, y3, y4⟩ := BX2.out.later hk') | (go_at_call 23; (with_reducible refine (kind_at v w1 _ ?_ _ _ _ _ hvk).mono ?_); (focus (first | assumption | exact Kept.drew (Kept.alloc (by assumption) _) | exact Kept.alloc (by assumption) _ | exact Kept.drew (by assumption))); rintro e w' ⟨rfl, hk'⟩; obtain ⟨x0, x1, x2, x3, x4⟩ := BX1.out.later hk'; obtain ⟨y0, y1, y2, y3, y4⟩ := BX2.out.later hk') | (go_at_call 23; (with_reducible refine (kind_at u w1 _ ?_ _ _ _ _ huk).mono ?_); (focus (first | assumption | exact Kept.drew (Kept.alloc (by assumption) _) | exact Kept.alloc (by assumption) _ | exact Kept.drew (by assumption))); rintro e w' ⟨rfl, hk'⟩; obtain ⟨x0, x1, x2, x3, x4⟩ := BX1.out.later hk'; obtain ⟨y0, y1, y2, y3, y4⟩ := BX2.out.later hk'))
  all_goals
    go_wp2_with fail
    refine (write_at v w w1 _ OLDK.out (by assumption) HE.out HV.out hf1).mono ?_
    rintro e wa ⟨rfl, hka⟩
    obtain ⟨x0, x1, x2, x3, x4⟩ := BX1.out.later hka
    obtain ⟨y0, y1, y2, y3, y4⟩ := BX2.out.later hka
    go_wp2_with fail
    refine (write_at u w w1 _ OLDK.out hka HE.out HU.out hf2).mono ?_
    rintro e wb ⟨rfl, hkb⟩
    obtain ⟨x0, x1, x2, x3, x4⟩ := BX1.out.later hkb
    obtain ⟨y0, y1, y2, y3, y4⟩ := BX2.out.later hkb
    go_wp2_with fail
    all_goals first
    | (go_ret; exact ⟨rfl, OLDK.out _ hkb⟩)
    | (have hway : ¬u.enc.length < v.enc.length ∧ (!(({ data := u.enc.toArray } : ByteArray).extract 0 (min (v.enc.length : Int) (u.enc.length : Int)).toNat).toList == v.enc) = false := by assumption
       have heq := way_eq w v u HV.out HU.out HKK.out hway
       have hbeq : (v.enc == u.enc) = true := by rw [heq]; simp
       have HEQ := Lib.hid heq
       clear heq hway
       have hob := OLDK.out _ hkb
       refine (open_any _ _).mono ?_
       rintro e wc ⟨rfl, hwc⟩
       have hoc : Old w wc := by rw [hwc]; exact RowKit.Below.alloc hob hob.size _
       have hir : IsR wb.heap.size (u.enc ++ []) false wc := by rw [hwc, List.append_nil, ← HEQ.out]; exact fresh_R _ _
       have hkc : Kept w1 wc := by rw [hwc]; exact Kept.alloc hkb _
       have hbs := hob.size
       clear hwc
       obtain ⟨x0, x1, x2, x3, x4⟩ := BX1.out.later hkc
       obtain ⟨y0, y1, y2, y3, y4⟩ := BX2.out.later hkc
       go_wp2_with fail
       refine (equal_any w wb.heap.size u [] wc (HE.out.below hoc hz) HU.out hf2 hoc hbs hz hir (by rw [List.append_nil]; omega)).mono ?_
       rintro e wd ⟨rfl, hod, _, _⟩
       go_wp2_with fail
       go_ret
       exact ⟨rfl, hod⟩)

set_option maxRecDepth 100000 in
set_option maxHeartbeats 8000000 in
theorem prefix_any (v u : V) (w : World) (he : Env w) (hv : VOk w v) (hu : VOk w u) :
    Calls Tryd.prog 7 #[.agg #[.int .i64 v.kd, .int .i64 v.nn, .string v.s, .slice v.la v.l.length v.lc, .slice v.ta v.t.length v.tc], .agg #[.int .i64 u.kd, .int .i64 u.nn, .string u.s, .slice u.la u.l.length u.lc, .slice u.ta u.t.length u.tc]] w (Gives (.bool true) w) := by
  by_cases hall : v.weight ≤ 400 ∧ u.weight ≤ 400 ∧ kindOf v.kd = kindOf u.kd
  · exact prefix_same v u w he hv hu hall.1 hall.2.1 hall.2.2
  have HALL := Lib.hid hall
  clear hall
  have hz := he.size
  have HV := Lib.hid hv
  have HU := Lib.hid hu
  have HE := Lib.hid he
  have hvk := hv.kb
  have huk := hu.kb
  clear hv hu
  go_enter Tryd.func7, Tryd.ntmps7
  go_wp2_with fail
  refine (small_any _ (he.below (((Below.refl w.heap.size w).alloc (Nat.le_refl _) _).alloc (by simp) _) hz)).mono ?_
  rintro e w1 ⟨rfl, b1⟩
  have B1 : RowKit.Below w.heap.size w w1 := (((Below.refl w.heap.size w).alloc (Nat.le_refl _) _).alloc (by simp) _).trans (b1.mono (by simp; omega))
  have X1 : Box w1 w.heap.size v := ((Box.fresh w v).later ((Below.refl _ _).alloc (Nat.le_refl _) _)).later b1
  have X2 : Box w1 (w.heap.size + 1) u := by
    have := (Box.fresh (w.alloc (.cells #[.int .i64 v.kd, .int .i64 v.nn, .string v.s, .slice v.la v.l.length v.lc, .slice v.ta v.t.length v.tc] 25)) u).later b1
    rw [show (w.alloc (.cells #[.int .i64 v.kd, .int .i64 v.nn, .string v.s, .slice v.la v.l.length v.lc, .slice v.ta v.t.length v.tc] 25)).heap.size = w.heap.size + 1 by simp] at this
    exact this
  clear b1 he
  go_wp2_with fail
  have O1 : Old w w1 := B1
  have OLDK : Hid (∀ w' : World, Kept w1 w' → Old w w') := fun w' h => RowKit.Below.trans O1 (RowKit.Below.mono h O1.size)
  have BX1 := Lib.hid X1
  have BX2 := Lib.hid X2
  have hk0 : Kept w1 w1 := Kept.rfl' w1
  obtain ⟨x0, x1, x2, x3, x4⟩ := X1
  obtain ⟨y0, y1, y2, y3, y4⟩ := X2
  by_cases hf1 : v.weight ≤ 400
  · have t1 : true = decide (v.weight ≤ 400) := by simp [hf1]
    have HT1 := Lib.hid t1
    clear t1
    by_cases hf2 : u.weight ≤ 400
    · have t2 : true = decide (u.weight ≤ 400) := by simp [hf2]
      have HT2 := Lib.hid t2
      clear t2
      by_cases hkk : kindOf v.kd = kindOf u.kd
      · exact absurd ⟨hf1, hf2, hkk⟩ HALL.out
      · have hkb : (kindOf v.kd != kindOf u.kd) = true := by simpa using hkk
        have HKK := Lib.hid hkk
        clear hkk
        go_region_with (first | (go_at_call 10; (with_reducible refine (few_at v w w1 w _ _ OLDK.out ?_ ?_ HV.out true HT1.out).mono ?_); (focus (first | assumption | exact Kept.drew (Kept.alloc (by assumption) _) | exact Kept.alloc (by assumption) _ | exact Kept.drew (by assumption))); (focus (first | exact Box.freshd _ _ | exact Box.fresh _ _)); rintro e w' ⟨rfl, hk'⟩; obtain ⟨x0, x1, x2, x3, x4⟩ := BX1.out.later hk'; obtain ⟨y0, y1, y2, y3, y4⟩ := BX2.out.later hk') | (go_at_call 10; (with_reducible refine (few_at u w w1 w _ _ OLDK.out ?_ ?_ HU.out true HT2.out).mono ?_); (focus (first | assumption | exact Kept.drew (Kept.alloc (by assumption) _) | exact Kept.alloc (by assumption) _ | exact Kept.drew (by assumption))); (focus (first | exact Box.freshd _ _ | exact Box.fresh _ _)); rintro e w' ⟨rfl, hk'⟩; obtain ⟨x0, x1, x2, x3, x4⟩ := BX1.out.later hk'; obtain ⟨y0, y1, y2, y3, y4⟩ := BX2.out.later hk') | (go_at_call 23; (with_reducible refine (kind_at v w1 _ ?_ _ _ _ _ hvk).mono ?_); (focus (first | assumption | exact Kept.drew (Kept.alloc (by assumption) _) | exact Kept.alloc (by assumption) _ | exact Kept.drew (by assumption))); rintro e w' ⟨rfl, hk'⟩; obtain ⟨x0, x1, x2, x3, x4⟩ := BX1.out.later hk'; obtain ⟨y0, y1, y2, y3, y4⟩ := BX2.out.later hk') | (go_at_call 23; (with_reducible refine (kind_at u w1 _ ?_ _ _ _ _ huk).mono ?_); (focus (first | assumption | exact Kept.drew (Kept.alloc (by assumption) _) | exact Kept.alloc (by assumption) _ | exact Kept.drew (by assumption))); rintro e w' ⟨rfl, hk'⟩; obtain ⟨x0, x1, x2, x3, x4⟩ := BX1.out.later hk'; obtain ⟨y0, y1, y2, y3, y4⟩ := BX2.out.later hk'))
        all_goals
          go_wp2_with fail
          go_ret
          exact ⟨rfl, OLDK.out _ (by assumption)⟩
    · have t2 : false = decide (u.weight ≤ 400) := by simp [hf2]
      have HT2 := Lib.hid t2
      clear t2
      go_region_with (first | (go_at_call 10; (with_reducible refine (few_at v w w1 w _ _ OLDK.out ?_ ?_ HV.out true HT1.out).mono ?_); (focus (first | assumption | exact Kept.drew (Kept.alloc (by assumption) _) | exact Kept.alloc (by assumption) _ | exact Kept.drew (by assumption))); (focus (first | exact Box.freshd _ _ | exact Box.fresh _ _)); rintro e w' ⟨rfl, hk'⟩; obtain ⟨x0, x1, x2, x3, x4⟩ := BX1.out.later hk'; obtain ⟨y0, y1, y2, y3, y4⟩ := BX2.out.later hk') | (go_at_call 10; (with_reducible refine (few_at u w w1 w _ _ OLDK.out ?_ ?_ HU.out false HT2.out).mono ?_); (focus (first | assumption | exact Kept.drew (Kept.alloc (by assumption) _) | exact Kept.alloc (by assumption) _ | exact Kept.drew (by assumption))); (focus (first | exact Box.freshd _ _ | exact Box.fresh _ _)); rintro e w' ⟨rfl, hk'⟩; obtain ⟨x0, x1, x2, x3, x4⟩ := BX1.out.later hk'; obtain ⟨y0, y1, y2, y3, y4⟩ := BX2.out.later hk'))
      all_goals
        go_wp2_with fail
        go_ret
        exact ⟨rfl, OLDK.out _ (by assumption)⟩
  · have t1 : false = decide (v.weight ≤ 400) := by simp [hf1]
    have HT1 := Lib.hid t1
    clear t1
    go_region_with (go_at_call 10; (with_reducible refine (few_at v w w1 w _ _ OLDK.out ?_ ?_ HV.out false HT1.out).mono ?_); (focus (first | assumption | exact Kept.drew (Kept.alloc (by assumption) _) | exact Kept.alloc (by assumption) _ | exact Kept.drew (by assumption))); (focus (first | exact Box.freshd _ _ | exact Box.fresh _ _)); rintro e w' ⟨rfl, hk'⟩; obtain ⟨x0, x1, x2, x3, x4⟩ := BX1.out.later hk'; obtain ⟨y0, y1, y2, y3, y4⟩ := BX2.out.later hk')
    all_goals
      go_wp2_with fail
      go_ret
      exact ⟨rfl, OLDK.out _ (by assumption)⟩
end Go.Proofs.YtpcdogbioopdgaaDoor
