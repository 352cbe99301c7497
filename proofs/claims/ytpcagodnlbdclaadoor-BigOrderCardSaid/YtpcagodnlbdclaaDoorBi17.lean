/- The contracts of Same, Compare, Neg. -/
import Derived.Test.YtpcagodnlbdclaaDoorBi16
set_option maxRecDepth 100000
namespace Go.Proofs.YtpcagodnlbdclaaDoor.Bi
open Go.RowKit

theorem Ints.drewN {w : World} {v : Value} {l : List Int} (h : Ints w v l) (n : Nat) : Ints (w.drewN n) v l := h
theorem equal_any (vx vy : Value) (x y : List Int) (w : World) (hx : Ints w vx x) (hy : Ints w vy y) :
    Calls Tryd.prog 62 #[vx, vy] w fun e w' => e = .returned (.bool (decide (x = y))) ∧ ∃ q, w' = w.drewN q := by
  obtain ⟨ax, capx, rfl, hx1, hx2, hx3⟩ := id hx
  obtain ⟨ay, capy, rfl, hy1, hy2, hy3⟩ := id hy
  by_cases hl : x.length = y.length
  · by_cases h0 : x.length = 0
    · obtain rfl : x = [] := List.eq_nil_of_length_eq_zero h0
      obtain rfl : y = [] := List.eq_nil_of_length_eq_zero (by omega)
      refine (Tryd.slices_Equal_int_empty ax ay capx 0 capy w (by omega)).mono ?_
      rintro e w' ⟨rfl, rfl⟩
      exact ⟨by simp, 0, rfl⟩
    · obtain ⟨b1, o1, rfl, _, hr1⟩ := hx3.resolve_left (fun e => by simp [e] at h0)
      obtain ⟨b2, o2, rfl, _, hr2⟩ := hy3.resolve_left (fun e => by simp [e] at hl; simp [hl] at h0)
      refine (Tryd.slices_Equal_int b1 o1 x.length capx b2 o2 y.length capy x y w (Nat.le_refl _) (Nat.le_refl _) (by omega) (by omega) hr1 hr2).mono ?_
      rintro e w' ⟨rfl, hw⟩
      refine ⟨?_, hw⟩
      rw [List.take_length, List.take_length]
      congr 2
      by_cases e : x = y <;> simp [e]
  · refine (Tryd.slices_Equal_int_lens ax ay x.length capx y.length capy w hl).mono ?_
    rintro e w' ⟨rfl, rfl⟩
    refine ⟨?_, 0, rfl⟩
    rw [show decide (x = y) = false by simp; intro e; rw [e] at hl; exact hl rfl]

theorem below_drewN' {w : World} (n : Nat) : RowKit.Below w.heap.size w (w.drewN n) := ⟨rfl, rfl, rfl, Nat.le_refl _, fun _ _ => rfl⟩
theorem two_alloc (w : World) (A B : Obj) : RowKit.Below w.heap.size w ((w.alloc A).alloc B) := (below_alloc w A).trans ((below_alloc _ B).mono (by simp))

set_option maxHeartbeats 1000000 in
theorem same_any (va vb : Value) (s t : Int) (l m : List Int) (w : World) (ha : Arg w va s l) (hb : Arg w vb t m) :
    Calls Tryd.prog 31 #[va, vb] w fun e w' => e = .returned (.bool (decide (s = t ∧ l = m))) ∧ RowKit.Below w.heap.size w w' := by
  obtain ⟨va', rfl, hia⟩ := id ha
  obtain ⟨vb', rfl, hib⟩ := id hb
  obtain ⟨aa, ca, rfl, _⟩ := hia.open
  obtain ⟨ab, cb, rfl, _⟩ := hib.open
  have he := fun W (hW : RowKit.Below w.heap.size w W) => equal_any _ _ l m W (hia.later hW) (hib.later hW)
  obtain ⟨na, ena⟩ : ∃ n, l.length = n := ⟨_, rfl⟩
  obtain ⟨nb, enb⟩ : ∃ n, m.length = n := ⟨_, rfl⟩
  rw [ena, enb] at he
  rw [ena, enb]
  have HE := Lib.hid he
  by_cases hst : s = t
  · subst hst
    have hd : decide (s = s ∧ l = m) = decide (l = m) := by simp
    rw [hd]
    clear ha hb hia hib he ena enb hd
    go_enter Tryd.func31, Tryd.ntmps31
    go_wp2_with fail
    refine (HE.out _ (two_alloc _ _ _)).mono ?_
    rintro e w' ⟨rfl, q, rfl⟩
    obtain ⟨bb, ebb⟩ : ∃ bb, decide (l = m) = bb := ⟨_, rfl⟩
    rw [ebb]
    cases bb <;>
    · go_wp2_with fail
      go_ret
      rw [ebb]
      exact ⟨rfl, (two_alloc _ _ _).trans ((below_drewN' q).mono (by simp; omega))⟩
  · have hd : decide (s = t ∧ l = m) = false := by simp [hst]
    rw [hd]
    have hq : (s == t) = false := by simpa using hst
    clear ha hb hia hib he ena enb hd hst
    go_enter Tryd.func31, Tryd.ntmps31
    go_wp2_with fail
    go_ret
    exact ⟨rfl, two_alloc _ _ _⟩

/-- The boxes of two arguments. -/
structure Bo (w : World) (sa : Int) (va : Value) (sb : Int) (vb : Value) (W : World) : Prop where
  cells : W.cell? ⟨w.heap.size, 0, none⟩ = some (.int .i64 sa) ∧ W.cell? ⟨w.heap.size, 1, none⟩ = some va ∧ W.cell? ⟨w.heap.size + 1, 0, none⟩ = some (.int .i64 sb) ∧ W.cell? ⟨w.heap.size + 1, 1, none⟩ = some vb
  below : RowKit.Below w.heap.size w W
  size : w.heap.size + 1 < W.heap.size
theorem Bo.start (w : World) (sa : Int) (va : Value) (sb : Int) (vb : Value) : Bo w sa va sb vb ((w.alloc (.cells #[.int .i64 sa, va] 24)).alloc (.cells #[.int .i64 sb, vb] 24)) := by
  have h := Bx.start w sa va sb vb
  have hc : ∀ b o, b < w.heap.size + 1 + 1 → (((w.alloc (.cells #[.int .i64 sa, va] 24)).alloc (.cells #[.int .i64 sb, vb] 24)).alloc (.cells #[.int .i64 0, .slice none 0 0] 24)).cell? ⟨b, o, none⟩ = ((w.alloc (.cells #[.int .i64 sa, va] 24)).alloc (.cells #[.int .i64 sb, vb] 24)).cell? ⟨b, o, none⟩ :=
    fun b o hb => World.cell?_of_block (w := (w.alloc (.cells #[.int .i64 sa, va] 24)).alloc (.cells #[.int .i64 sb, vb] 24)) (Below.heap_alloc _ _ _ (by simpa using hb))
  refine ⟨⟨(hc _ _ (by omega)).symm.trans h.c00, (hc _ _ (by omega)).symm.trans h.c01, (hc _ _ (by omega)).symm.trans h.c10, (hc _ _ (by omega)).symm.trans h.c11⟩, two_alloc _ _ _, by simp⟩
theorem Bo.later {w W W' : World} {sa sb : Int} {va vb : Value} (h : Bo w sa va sb vb W) (hb : RowKit.Below W.heap.size W W') : Bo w sa va sb vb W' := by
  have hz := h.size
  obtain ⟨c0, c1, c2, c3⟩ := h.cells
  have hc : ∀ b o, b < W.heap.size → W'.cell? ⟨b, o, none⟩ = W.cell? ⟨b, o, none⟩ := fun b o hb' => hb.cell (p := ⟨b, o, none⟩) hb'
  refine ⟨⟨(hc _ _ (by omega)).trans c0, (hc _ _ (by omega)).trans c1, (hc _ _ (by omega)).trans c2, (hc _ _ (by omega)).trans c3⟩, h.below.trans (hb.mono ?_), Nat.lt_of_lt_of_le hz hb.size⟩
  have := h.below.size; omega

theorem cmp_signs {a b : Int} (h : a.sign = b.sign) : a.sign * cmpI a.natAbs b.natAbs = cmpI a b := by
  rcases sgn_is a with ⟨k, k'⟩ | ⟨k, k'⟩ | ⟨k, k'⟩ <;> rcases sgn_is b with ⟨l, l'⟩ | ⟨l, l'⟩ | ⟨l, l'⟩ <;> rw [k', l'] at h <;> first | omega | skip
  · rw [k']; unfold cmpI; split <;> split <;> (try split) <;> (try split) <;> omega
  · rw [k, l]; rfl
  · rw [k']; unfold cmpI; split <;> split <;> (try split) <;> (try split) <;> omega
theorem cmp_signs' {a b : Int} (h : a.sign ≠ b.sign) : cmpI a.sign b.sign = cmpI a b := by
  rcases sgn_is a with ⟨k, k'⟩ | ⟨k, k'⟩ | ⟨k, k'⟩ <;> rcases sgn_is b with ⟨l, l'⟩ | ⟨l, l'⟩ | ⟨l, l'⟩ <;> rw [k', l'] at h ⊢ <;> first | omega | (unfold cmpI; split <;> (try split) <;> (try split) <;> (try split) <;> omega)
theorem cmpI_bd (a b : Int) : -1 ≤ cmpI a b ∧ cmpI a b ≤ 1 := by unfold cmpI; split <;> (try split) <;> omega

set_option maxHeartbeats 2000000 in
theorem compareB_ok (va vb : Value) (a b : Int) (w : World) (ha : IsB w va a) (hb : IsB w vb b) :
    Calls Tryd.prog 29 #[va, vb] w fun e w' => e = .returned (.int .i64 (cmpI a b)) ∧ RowKit.Below w.heap.size w w' := by
  obtain ⟨sa, rfl, hia⟩ := id ha
  obtain ⟨sb, rfl, hib⟩ := id hb
  have HA := Lib.hid ha
  have HB := Lib.hid hb
  have HIA := Lib.hid hia
  have HIB := Lib.hid hib
  obtain ⟨aa, ca, rfl, _⟩ := hia.open
  obtain ⟨ab, cb, rfl, _⟩ := hib.open
  obtain ⟨na, ena⟩ : ∃ n, (digs a.natAbs).length = n := ⟨_, rfl⟩
  obtain ⟨nb, enb⟩ : ∃ n, (digs b.natAbs).length = n := ⟨_, rfl⟩
  rw [ena] at HA HIA ⊢
  rw [enb] at HB HIB ⊢
  have hx := Bo.start w a.sign (.slice aa na ca) b.sign (.slice ab nb cb)
  have HX0 := Lib.hid hx
  obtain ⟨r, er⟩ : ∃ r, cmpI a b = r := ⟨_, rfl⟩
  have HS1 : Hid (a.sign = b.sign → a.sign * cmpI a.natAbs b.natAbs = r) := by rw [← er]; exact cmp_signs
  have HS2 : Hid (a.sign ≠ b.sign → cmpI a.sign b.sign = r) := by rw [← er]; exact cmp_signs'
  have hr1 : -1 ≤ r ∧ r ≤ 1 := by rw [← er]; exact cmpI_bd a b
  rw [er]
  obtain ⟨x, ex⟩ : ∃ x, a.sign = x := ⟨_, rfl⟩
  obtain ⟨y, ey⟩ : ∃ y, b.sign = y := ⟨_, rfl⟩
  rw [ex] at HS1 HS2 HX0 ⊢
  rw [ey] at HS1 HS2 HX0 ⊢
  rw [ex] at HA
  rw [ey] at HB
  clear ha hb hia hib hx ena enb er ex ey
  by_cases hxy : x = y
  · subst hxy
    have HW : Hid (x * cmpI a.natAbs b.natAbs = r) := HS1.out rfl
    clear HS1 HS2
    go_enter Tryd.func29, Tryd.ntmps29
    go_wp2_with fail
    refine (isb_any (HA.out.later HX0.out.below)).mono ?_
    rintro e w1 ⟨rfl, hb1⟩
    have HX1 := Lib.hid (HX0.out.later hb1)
    obtain ⟨c00, c01, c10, c11⟩ := HX1.out.cells
    clear hb1
    go_wp2_with fail
    refine (isb_any (HB.out.later HX1.out.below)).mono ?_
    rintro e w2 ⟨rfl, hb2⟩
    have HX2 := Lib.hid (HX1.out.later hb2)
    obtain ⟨d00, d01, d10, d11⟩ := HX2.out.cells
    clear hb2 c00 c01 c10 c11
    have hw : IntKind.i64.wrap (x * cmpI a.natAbs b.natAbs) = r := by rw [HW.out]; exact IntWalk.i64_in _ (by omega)
    have HI1 := Lib.hid (HIA.out.later HX2.out.below)
    have HI2 := Lib.hid (HIB.out.later HX2.out.below)
    go_wp2_with fail
    go_quiet ((go_at_call 55; exact Calls.quiet_of (compare_any _ _ a.natAbs b.natAbs _ (HI1.out.drewN _) (HI2.out.drewN _))))
    go_wp2_with fail
    go_ret
    exact ⟨rfl, HX2.out.below.trans ((below_drewN' nq).mono HX2.out.below.size)⟩
  · have hq : (x != y) = true := by simpa using hxy
    have HC := Lib.hid (HS2.out hxy)
    clear hxy
    go_enter Tryd.func29, Tryd.ntmps29
    go_wp2_with fail
    refine (isb_any (HA.out.later HX0.out.below)).mono ?_
    rintro e w1 ⟨rfl, hb1⟩
    have HX1 := Lib.hid (HX0.out.later hb1)
    obtain ⟨c00, c01, c10, c11⟩ := HX1.out.cells
    clear hb1
    go_wp2_with fail
    refine (isb_any (HB.out.later HX1.out.below)).mono ?_
    rintro e w2 ⟨rfl, hb2⟩
    have HX2 := Lib.hid (HX1.out.later hb2)
    obtain ⟨d00, d01, d10, d11⟩ := HX2.out.cells
    clear hb2 c00 c01 c10 c11
    go_wp2_with fail
    refine (cmp_any x y _).mono ?_
    rintro e w' ⟨rfl, rfl⟩
    rw [HC.out]
    go_wp2_with fail
    go_ret
    exact ⟨rfl, HX2.out.below⟩

set_option maxHeartbeats 2000000 in
theorem compareB_bad (va vb : Value) (sa sb : Int) (la lb : List Int) (w : World) (ha : Arg w va sa la) (hb : Arg w vb sb lb) (hr : (rightB sa la && rightB sb lb) = false) :
    Calls Tryd.prog 29 #[va, vb] w fun e w' => e = .returned (.int .i64 0) ∧ RowKit.Below w.heap.size w w' := by
  obtain ⟨va', rfl, hia⟩ := id ha
  obtain ⟨vb', rfl, hib⟩ := id hb
  obtain ⟨aa, ca, rfl, _⟩ := hia.open
  obtain ⟨ab, cb, rfl, _⟩ := hib.open
  obtain ⟨na, ena⟩ : ∃ n, la.length = n := ⟨_, rfl⟩
  obtain ⟨nb, enb⟩ : ∃ n, lb.length = n := ⟨_, rfl⟩
  rw [ena] at ha ⊢
  rw [enb] at hb ⊢
  have HA := Lib.hid ha
  have HB := Lib.hid hb
  have hx := Bo.start w sa (.slice aa na ca) sb (.slice ab nb cb)
  have HX0 := Lib.hid hx
  cases hra : rightB sa la
  · have HR := Lib.hid hra
    clear ha hb hia hib hx hr hra ena enb
    go_enter Tryd.func29, Tryd.ntmps29
    go_wp2_with fail
    refine (right_any _ sa la _ (HA.out.later HX0.out.below)).mono ?_
    rintro e w1 ⟨rfl, hb1⟩
    rw [HR.out]
    have HX1 := Lib.hid (HX0.out.later hb1)
    clear hb1
    go_wp2_with fail
    go_ret
    exact ⟨rfl, HX1.out.below⟩
  · rw [hra, Bool.true_and] at hr
    have HR := Lib.hid hra
    have HR2 := Lib.hid hr
    clear ha hb hia hib hx hr hra ena enb
    go_enter Tryd.func29, Tryd.ntmps29
    go_wp2_with fail
    refine (right_any _ sa la _ (HA.out.later HX0.out.below)).mono ?_
    rintro e w1 ⟨rfl, hb1⟩
    rw [HR.out]
    have HX1 := Lib.hid (HX0.out.later hb1)
    obtain ⟨c00, c01, c10, c11⟩ := HX1.out.cells
    clear hb1
    go_wp2_with fail
    refine (right_any _ sb lb _ (HB.out.later HX1.out.below)).mono ?_
    rintro e w2 ⟨rfl, hb2⟩
    rw [HR2.out]
    have HX2 := Lib.hid (HX1.out.later hb2)
    clear hb2 c00 c01 c10 c11
    go_wp2_with fail
    go_ret
    exact ⟨rfl, HX2.out.below⟩
end Go.Proofs.YtpcagodnlbdclaaDoor.Bi
