/- WireWrites. -/
import Derived.Test.YtpcdogbioopdgaaDoorF
import Derived.Deep.RegionHeld3
namespace Go.Proofs.YtpcdogbioopdgaaDoor
open Go.RowKit Go.Sort

def V.agg (v : V) : Value := .agg v.cells
/-- Where few is false. -/
theorem num_gives (n : Int) (h0 : 0 ≤ n) (h1 : n ≤ 9223372036854775807) (w : World) (he : Env w) : Calls Tryd.prog 11 #[.int .i64 n] w (Gives (.string ⟨(encInt n).toArray⟩) w) := num_any n h0 h1 w he

theorem VOk.later {w w' : World} {v : V} (h : VOk w v) (hb : RowKit.Below w.heap.size w w') : VOk w' v :=
  { h with lc := h.lc.elim .inl (fun ⟨b, o, e, hc⟩ => .inr ⟨b, o, e, fun i hi => cell_later (hc i hi) hb⟩), tc := h.tc.elim .inl (fun ⟨b, o, e, hc⟩ => .inr ⟨b, o, e, fun i hi => cell_later (hc i hi) hb⟩) }
/-- What is kept of the world in the comparing statements. -/
def Kept (W : World) (w : World) : Prop := RowKit.Below W.heap.size W w
theorem Kept.step {W w w' : World} (h : Kept W w) (hb : RowKit.Below w.heap.size w w') : Kept W w' := RowKit.Below.trans h (hb.mono h.size)
theorem Kept.drew {W w : World} (h : Kept W w) : Kept W w.drew := RowKit.Below.drew h
theorem Kept.cell {W w : World} {b o : Nat} {v : Value} (h : Kept W w) (hc : W.cell? ⟨b, o, none⟩ = some v) : w.cell? ⟨b, o, none⟩ = some v := cell_later hc h

theorem sizes_mem {t : List ByteArray} {z : ByteArray} (h : z ∈ t) : z.size ≤ sizes t := by
  unfold sizes
  induction t with
  | nil => simp at h
  | cons x t ih =>
    simp only [List.map_cons, List.sum_cons]
    rcases List.mem_cons.1 h with rfl | h
    · omega
    · have := ih h; omega
theorem weights_one {v : V} (h : weights [v] ≤ 400) : v.l.length ≤ 100000 ∧ v.t.length ≤ 100000 ∧ (400 + 24) * v.t.length ≤ 50000000 ∧ ∀ z ∈ v.t, z.size ≤ 400 := by
  simp [weights, V.weight] at h
  exact ⟨by omega, by omega, by omega, fun z hz => by have := sizes_mem hz; omega⟩
theorem envK {W w' : World} {A B : Prop} (he : Env W) (h : A ∧ B ∧ Kept W w') : Env w' := he.below h.2.2 he.size
theorem keptOf {W w' : World} {A B : Prop} (h : A ∧ B ∧ Kept W w') : Kept W w' := h.2.2
theorem keep2 {W wi w' : World} {A B : Prop} {b o1 o2 : Nat} {n : Value} {s : Value} (h1 : W.cell? ⟨b, o1, none⟩ = some n) (h2 : W.cell? ⟨b, o2, none⟩ = some s) (hb : RowKit.Below wi.heap.size wi w') (h : A ∧ B ∧ Kept W wi) :
    w'.cell? ⟨b, o1, none⟩ = some n ∧ w'.cell? ⟨b, o2, none⟩ = some s ∧ Kept W w' :=
  ⟨(h.2.2.step hb).cell h1, (h.2.2.step hb).cell h2, h.2.2.step hb⟩
theorem keep2d {W wi : World} {b o1 o2 : Nat} {n : Value} {s : Value} (h1 : W.cell? ⟨b, o1, none⟩ = some n) (h2 : W.cell? ⟨b, o2, none⟩ = some s) (h : Kept W wi) :
    wi.drew.cell? ⟨b, o1, none⟩ = some n ∧ wi.drew.cell? ⟨b, o2, none⟩ = some s ∧ Kept W wi.drew :=
  ⟨h.drew.cell h1, h.drew.cell h2, h.drew⟩

theorem num_negG (n : Int) (h0 : n < 0) (w : World) : Calls Tryd.prog 11 #[.int .i64 n] w (Gives (.string ⟨#[]⟩) w) :=
  (num_neg n h0 w).mono fun e w' h => ⟨h.1, by rw [← h.2]; exact Below.refl _ _⟩

set_option maxRecDepth 100000 in
set_option maxHeartbeats 8000000 in
theorem writes_pos (v : V) (w : World) (he : Env w) (hv : VOk w v) (hn : 0 ≤ v.nn) :
    Calls Tryd.prog 3 #[.agg #[.int .i64 v.kd, .int .i64 v.nn, .string v.s, .slice v.la v.l.length v.lc, .slice v.ta v.t.length v.tc]] w (Gives (.bool true) w) := by
  have hz := he.size
  have HV := Lib.hid hv
  have hnb := hv.nb
  have hkb := hv.kb
  clear hv
  go_enter Tryd.func3, Tryd.ntmps3
  go_wp2_with fail
  refine (small_any _ (he.below ((Below.refl w.heap.size w).alloc (Nat.le_refl _) _) hz)).mono ?_
  rintro e w1 ⟨rfl, b1⟩
  have B1 : RowKit.Below w.heap.size w w1 := ((Below.refl w.heap.size w).alloc (Nat.le_refl _) _).trans (b1.mono (by simp))
  have c0 : w1.cell? ⟨w.heap.size, 0, none⟩ = some (.int .i64 v.kd) := cell_later (by simp) b1
  have c1 : w1.cell? ⟨w.heap.size, 1, none⟩ = some (.int .i64 v.nn) := cell_later (by simp) b1
  have c2 : w1.cell? ⟨w.heap.size, 2, none⟩ = some (.string v.s) := cell_later (by simp) b1
  have c3 : w1.cell? ⟨w.heap.size, 3, none⟩ = some (.slice v.la v.l.length v.lc) := cell_later (by simp) b1
  have c4 : w1.cell? ⟨w.heap.size, 4, none⟩ = some (.slice v.ta v.t.length v.tc) := cell_later (by simp) b1
  go_wp2_with fail
  refine (few_any (some ⟨w1.heap.size, 0, none⟩) 1 [v] (by simp) (w1.alloc (.cells v.cells 25)) (.inr ⟨w1.heap.size, 0, rfl, fun i hi => ?_⟩)).mono ?_
  · obtain rfl : i = 0 := by simpa using hi
    exact ⟨fun j u hu => by simpa using hu, HV.out.later (B1.alloc B1.size _)⟩
  rintro e w2 ⟨r, rfl, b2, hr⟩
  have B2 : RowKit.Below w1.heap.size w1 w2 := ((Below.refl w1.heap.size w1).alloc (Nat.le_refl _) _).trans (b2.mono (by simp))
  cases r
  · go_wp2_with fail
    go_ret
    exact ⟨rfl, B1.trans (B2.mono B1.size)⟩
  · have hw := Lib.hid (hr.1 rfl).2
    clear hr
    replace c0 := cell_later c0 B2
    replace c1 := cell_later c1 B2
    replace c2 := cell_later c2 B2
    replace c3 := cell_later c3 B2
    replace c4 := cell_later c4 B2
    go_wp2_with fail
    have hlt := cell_lt c0
    have HE := Lib.hid ((he.below B1 hz).below B2 (Nat.le_trans hz B1.size))
    have HV2 := Lib.hid (HV.out.later (B1.trans (B2.mono B1.size)))
    have hss : v.s.size ≤ 400 := by have := hw.out; simp [weights, V.weight] at this; omega
    go_region_held3 (fun w' => w'.cell? ⟨w.heap.size, 1, none⟩ = some (.int .i64 v.nn) ∧ w'.cell? ⟨w.heap.size, 2, none⟩ = some (.string v.s) ∧ Kept w2 w') (first | exact keep2 c1 c2 (by assumption) (by assumption) | exact keep2d c1 c2 (Below.refl _ _))
      (first
       | (go_at_call 11; refine (num_gives v.nn hn hnb.2 _ (envK HE.out (by assumption))).mono ?_; rintro e w' ⟨rfl, hb⟩)
       | (go_at_call 12; refine (refNum v.nn hn hnb.2 _).mono ?_; rintro e w' ⟨rfl, hb⟩)
       | (go_at_call 13; refine (int_any v.nn hnb.1 hnb.2 _ (envK HE.out (by assumption))).mono ?_; rintro e w' ⟨rfl, hb⟩)
       | (go_at_call 14; refine (refInt v.nn hnb.1 hnb.2 _).mono ?_; rintro e w' ⟨rfl, hb⟩)
       | (go_at_call 15; refine (text_any v.s (by omega) _ (envK HE.out (by assumption))).mono ?_; rintro e w' ⟨rfl, hb⟩)
       | (go_at_call 16; refine (refText v.s (by omega) _).mono ?_; rintro e w' ⟨rfl, hb⟩))
    go_wp2_with fail
    have hK : Kept w2 w' := keptOf (by assumption)
    have hq := weights_one hw.out
    go_region_held3 (fun w' => w'.cell? ⟨w.heap.size, 3, none⟩ = some (.slice v.la v.l.length v.lc) ∧ w'.cell? ⟨w.heap.size, 4, none⟩ = some (.slice v.ta v.t.length v.tc) ∧ Kept w2 w') (first | exact keep2 c3 c4 (by assumption) (by assumption) | exact keep2d c3 c4 hK)
      (first
       | (go_at_call 17; refine (nums_any v.la v.lc v.l hq.1 _ (envK HE.out (by assumption)) (HV2.out.later (keptOf (by assumption))).lc HV2.out.lok).mono ?_; rintro e w' ⟨rfl, hb⟩)
       | (go_at_call 18; refine (refNums v.la v.lc v.l hq.1 _ (HV2.out.later (keptOf (by assumption))).lc HV2.out.lok).mono ?_; rintro e w' ⟨rfl, hb⟩)
       | (go_at_call 19; refine (texts_any v.ta v.tc v.t 400 hq.2.1 (by omega) hq.2.2.1 _ (envK HE.out (by assumption)) (HV2.out.later (keptOf (by assumption))).tc hq.2.2.2).mono ?_; rintro e w' ⟨rfl, hb⟩)
       | (go_at_call 20; refine (refTexts v.ta v.tc v.t 400 hq.2.1 (by omega) hq.2.2.1 _ (HV2.out.later (keptOf (by assumption))).tc hq.2.2.2).mono ?_; rintro e w' ⟨rfl, hb⟩))
    have hK2 : Kept w2 w' := keptOf (by assumption)
    go_wp2_with fail
    go_ret
    exact ⟨rfl, B1.trans ((B2.mono B1.size).trans (RowKit.Below.mono hK2 (Nat.le_trans B1.size B2.size)))⟩
set_option maxRecDepth 100000 in
set_option maxHeartbeats 8000000 in
theorem writes_neg (v : V) (w : World) (he : Env w) (hv : VOk w v) (hn : v.nn < 0) :
    Calls Tryd.prog 3 #[.agg #[.int .i64 v.kd, .int .i64 v.nn, .string v.s, .slice v.la v.l.length v.lc, .slice v.ta v.t.length v.tc]] w (Gives (.bool true) w) := by
  have hz := he.size
  have HV := Lib.hid hv
  have hnb := hv.nb
  have hkb := hv.kb
  clear hv
  go_enter Tryd.func3, Tryd.ntmps3
  go_wp2_with fail
  refine (small_any _ (he.below ((Below.refl w.heap.size w).alloc (Nat.le_refl _) _) hz)).mono ?_
  rintro e w1 ⟨rfl, b1⟩
  have B1 : RowKit.Below w.heap.size w w1 := ((Below.refl w.heap.size w).alloc (Nat.le_refl _) _).trans (b1.mono (by simp))
  have c0 : w1.cell? ⟨w.heap.size, 0, none⟩ = some (.int .i64 v.kd) := cell_later (by simp) b1
  have c1 : w1.cell? ⟨w.heap.size, 1, none⟩ = some (.int .i64 v.nn) := cell_later (by simp) b1
  have c2 : w1.cell? ⟨w.heap.size, 2, none⟩ = some (.string v.s) := cell_later (by simp) b1
  have c3 : w1.cell? ⟨w.heap.size, 3, none⟩ = some (.slice v.la v.l.length v.lc) := cell_later (by simp) b1
  have c4 : w1.cell? ⟨w.heap.size, 4, none⟩ = some (.slice v.ta v.t.length v.tc) := cell_later (by simp) b1
  go_wp2_with fail
  refine (few_any (some ⟨w1.heap.size, 0, none⟩) 1 [v] (by simp) (w1.alloc (.cells v.cells 25)) (.inr ⟨w1.heap.size, 0, rfl, fun i hi => ?_⟩)).mono ?_
  · obtain rfl : i = 0 := by simpa using hi
    exact ⟨fun j u hu => by simpa using hu, HV.out.later (B1.alloc B1.size _)⟩
  rintro e w2 ⟨r, rfl, b2, hr⟩
  have B2 : RowKit.Below w1.heap.size w1 w2 := ((Below.refl w1.heap.size w1).alloc (Nat.le_refl _) _).trans (b2.mono (by simp))
  cases r
  · go_wp2_with fail
    go_ret
    exact ⟨rfl, B1.trans (B2.mono B1.size)⟩
  · have hw := Lib.hid (hr.1 rfl).2
    clear hr
    replace c0 := cell_later c0 B2
    replace c1 := cell_later c1 B2
    replace c2 := cell_later c2 B2
    replace c3 := cell_later c3 B2
    replace c4 := cell_later c4 B2
    go_wp2_with fail
    have hlt := cell_lt c0
    have HE := Lib.hid ((he.below B1 hz).below B2 (Nat.le_trans hz B1.size))
    have HV2 := Lib.hid (HV.out.later (B1.trans (B2.mono B1.size)))
    have hss : v.s.size ≤ 400 := by have := hw.out; simp [weights, V.weight] at this; omega
    go_region_held3 (fun w' => w'.cell? ⟨w.heap.size, 1, none⟩ = some (.int .i64 v.nn) ∧ w'.cell? ⟨w.heap.size, 2, none⟩ = some (.string v.s) ∧ Kept w2 w') (first | exact keep2 c1 c2 (by assumption) (by assumption) | exact keep2d c1 c2 (Below.refl _ _))
      (first
       | (go_at_call 11; refine (num_negG v.nn hn _).mono ?_; rintro e w' ⟨rfl, hb⟩)
       | (go_at_call 12; refine (refNum_neg v.nn hn _).mono ?_; rintro e w' ⟨rfl, hb⟩)
       | (go_at_call 13; refine (int_any v.nn hnb.1 hnb.2 _ (envK HE.out (by assumption))).mono ?_; rintro e w' ⟨rfl, hb⟩)
       | (go_at_call 14; refine (refInt v.nn hnb.1 hnb.2 _).mono ?_; rintro e w' ⟨rfl, hb⟩)
       | (go_at_call 15; refine (text_any v.s (by omega) _ (envK HE.out (by assumption))).mono ?_; rintro e w' ⟨rfl, hb⟩)
       | (go_at_call 16; refine (refText v.s (by omega) _).mono ?_; rintro e w' ⟨rfl, hb⟩))
    go_wp2_with fail
    have hK : Kept w2 w' := keptOf (by assumption)
    have hq := weights_one hw.out
    go_region_held3 (fun w' => w'.cell? ⟨w.heap.size, 3, none⟩ = some (.slice v.la v.l.length v.lc) ∧ w'.cell? ⟨w.heap.size, 4, none⟩ = some (.slice v.ta v.t.length v.tc) ∧ Kept w2 w') (first | exact keep2 c3 c4 (by assumption) (by assumption) | exact keep2d c3 c4 hK)
      (first
       | (go_at_call 17; refine (nums_any v.la v.lc v.l hq.1 _ (envK HE.out (by assumption)) (HV2.out.later (keptOf (by assumption))).lc HV2.out.lok).mono ?_; rintro e w' ⟨rfl, hb⟩)
       | (go_at_call 18; refine (refNums v.la v.lc v.l hq.1 _ (HV2.out.later (keptOf (by assumption))).lc HV2.out.lok).mono ?_; rintro e w' ⟨rfl, hb⟩)
       | (go_at_call 19; refine (texts_any v.ta v.tc v.t 400 hq.2.1 (by omega) hq.2.2.1 _ (envK HE.out (by assumption)) (HV2.out.later (keptOf (by assumption))).tc hq.2.2.2).mono ?_; rintro e w' ⟨rfl, hb⟩)
       | (go_at_call 20; refine (refTexts v.ta v.tc v.t 400 hq.2.1 (by omega) hq.2.2.1 _ (HV2.out.later (keptOf (by assumption))).tc hq.2.2.2).mono ?_; rintro e w' ⟨rfl, hb⟩))
    have hK2 : Kept w2 w' := keptOf (by assumption)
    go_wp2_with fail
    go_ret
    exact ⟨rfl, B1.trans ((B2.mono B1.size).trans (RowKit.Below.mono hK2 (Nat.le_trans B1.size B2.size)))⟩
end Go.Proofs.YtpcdogbioopdgaaDoor
