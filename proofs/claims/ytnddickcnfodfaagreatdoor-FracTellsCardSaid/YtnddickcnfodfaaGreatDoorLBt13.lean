/- kitbagref04: Compare. -/
import Derived.Test.YtnddickcnfodfaaGreatDoorLBt12
set_option maxRecDepth 100000
namespace Go.Proofs.YtnddickcnfodfaaGreatDoor.Bi
open Go.RowKit

set_option maxHeartbeats 2000000 in
theorem rcompare_bad (va vb : Value) (sa sb : Int) (la lb : List Int) (w : World) (ha : Arg w va sa la) (hb : Arg w vb sb lb) (hr : (rightB sa la && rightB sb lb) = false) :
    Calls Tryz.prog 62 #[va, vb] w fun e w' => e = .returned (.int .i64 0) ∧ RowKit.Below w.heap.size w w' := by
  obtain ⟨va', rfl, hia⟩ := id ha
  obtain ⟨vb', rfl, hib⟩ := id hb
  obtain ⟨aa, ca, rfl, _⟩ := hia.open
  obtain ⟨ab, cb, rfl, _⟩ := hib.open
  obtain ⟨na, ena⟩ : ∃ n, la.length = n := ⟨_, rfl⟩
  obtain ⟨nb, enb⟩ : ∃ n, lb.length = n := ⟨_, rfl⟩
  rw [ena] at ha ⊢
  rw [enb] at hb ⊢
  have HA := Lib.hid ha
  have HB := Lib.hid hb
  have hx := Bo.start w sa (.slice aa na ca) sb (.slice ab nb cb)
  have HX0 := Lib.hid hx
  cases hra : rightB sa la
  · have HR := Lib.hid hra
    clear ha hb hia hib hx hr hra ena enb
    go_enter Tryz.func62, Tryz.ntmps62
    go_wp2_with fail
    refine (rright_any _ sa la _ (HA.out.later HX0.out.below)).mono ?_
    rintro e w1 ⟨rfl, hb1⟩
    rw [HR.out]
    have HX1 := Lib.hid (HX0.out.later hb1)
    clear hb1
    go_wp2_with fail
    go_ret
    exact ⟨rfl, HX1.out.below⟩
  · rw [hra, Bool.true_and] at hr
    have HR := Lib.hid hra
    have HR2 := Lib.hid hr
    clear ha hb hia hib hx hr hra ena enb
    go_enter Tryz.func62, Tryz.ntmps62
    go_wp2_with fail
    refine (rright_any _ sa la _ (HA.out.later HX0.out.below)).mono ?_
    rintro e w1 ⟨rfl, hb1⟩
    rw [HR.out]
    have HX1 := Lib.hid (HX0.out.later hb1)
    obtain ⟨c00, c01, c10, c11⟩ := HX1.out.cells
    clear hb1
    go_wp2_with fail
    refine (rright_any _ sb lb _ (HB.out.later HX1.out.below)).mono ?_
    rintro e w2 ⟨rfl, hb2⟩
    rw [HR2.out]
    have HX2 := Lib.hid (HX1.out.later hb2)
    clear hb2 c00 c01 c10 c11
    go_wp2_with fail
    go_ret
    exact ⟨rfl, HX2.out.below⟩
set_option maxHeartbeats 4000000 in
theorem rcompare_ok (va vb : Value) (a b : Int) (w : World) (ha : IsB w va a) (hb : IsB w vb b) :
    Calls Tryz.prog 62 #[va, vb] w fun e w' => e = .returned (.int .i64 (cmpI a b)) ∧ RowKit.Below w.heap.size w w' := by
  have hsame := fun W (h : IsB W va a) (k : IsB W vb b) => rsame_any va vb a.sign b.sign (digs a.natAbs) (digs b.natAbs) W h.arg k.arg
  obtain ⟨K, eK⟩ : ∃ K, decide (a.sign = b.sign ∧ digs a.natAbs = digs b.natAbs) = K := ⟨_, rfl⟩
  rw [eK] at hsame
  have hK : K = decide (a = b) := by rw [← eK]; exact decide_eq_decide.2 num_eq
  obtain ⟨sa, rfl, hia⟩ := id ha
  obtain ⟨sb, rfl, hib⟩ := id hb
  have HA := Lib.hid ha
  have HB := Lib.hid hb
  have HIA := Lib.hid hia
  have HIB := Lib.hid hib
  obtain ⟨aa, ca, rfl, _⟩ := hia.open
  obtain ⟨ab, cb, rfl, _⟩ := hib.open
  have hless := fun W h k => rless_n (.slice aa (digs a.natAbs).length ca) (.slice ab (digs b.natAbs).length cb) a.natAbs b.natAbs W h k
  obtain ⟨L, eL⟩ : ∃ L, decide (a.natAbs < b.natAbs) = L := ⟨_, rfl⟩
  rw [eL] at hless
  obtain ⟨r, er⟩ : ∃ r, cmpI a b = r := ⟨_, rfl⟩
  have HS1 : Hid (a ≠ b → a.sign = b.sign → a.sign = 1 ∧ r = (if L then -1 else 1) ∨ a.sign = -1 ∧ r = (if L then 1 else -1)) := by
    unfold Hid
    intro hn hs
    subst er
    cases L
    · have hL := of_decide_eq_false eL
      rcases sgn_is a with ⟨k, k'⟩ | ⟨k, k'⟩ | ⟨k, k'⟩ <;> rcases sgn_is b with ⟨l, l'⟩ | ⟨l, l'⟩ | ⟨l, l'⟩ <;> rw [k', l'] at hs <;> first | (exfalso; omega) | (left; refine ⟨k', ?_⟩; rw [cmpI_gt (by omega)]; rfl) | (right; refine ⟨k', ?_⟩; rw [cmpI_lt (by omega)]; rfl)
    · have hL := of_decide_eq_true eL
      rcases sgn_is a with ⟨k, k'⟩ | ⟨k, k'⟩ | ⟨k, k'⟩ <;> rcases sgn_is b with ⟨l, l'⟩ | ⟨l, l'⟩ | ⟨l, l'⟩ <;> rw [k', l'] at hs <;> first | (exfalso; omega) | (left; refine ⟨k', ?_⟩; rw [cmpI_lt (by omega)]; rfl) | (right; refine ⟨k', ?_⟩; rw [cmpI_gt (by omega)]; rfl)
  have HS2 : Hid (a.sign ≠ b.sign → cmpI a.sign b.sign = r) := by rw [← er]; exact cmp_signs'
  have HEQ : Hid (a = b → r = 0) := by unfold Hid; rintro rfl; rw [← er]; exact cmpI_eq _
  obtain ⟨na, ena⟩ : ∃ n, (digs a.natAbs).length = n := ⟨_, rfl⟩
  obtain ⟨nb, enb⟩ : ∃ n, (digs b.natAbs).length = n := ⟨_, rfl⟩
  rw [ena] at HA HIA hless hsame ⊢
  rw [enb] at HB HIB hless hsame ⊢
  have hx := Bo.start w a.sign (.slice aa na ca) b.sign (.slice ab nb cb)
  have HX0 := Lib.hid hx
  have HSAME := Lib.hid hsame
  have HLESS := Lib.hid hless
  rw [er]
  have HK := Lib.hid hK
  clear ha hb hia hib hx ena enb er eL eK hsame hless hK
  by_cases hab : a = b
  · obtain rfl : r = 0 := HEQ.out hab
    have hKt : K = true := by rw [HK.out]; exact decide_eq_true hab
    subst hKt
    clear hab HS1 HS2 HEQ HK
    go_enter Tryz.func62, Tryz.ntmps62
    go_wp2_with fail
    refine (risb_any (HA.out.later HX0.out.below)).mono ?_
    rintro e w1 ⟨rfl, hb1⟩
    have HX1 := Lib.hid (HX0.out.later hb1)
    obtain ⟨c00, c01, c10, c11⟩ := HX1.out.cells
    clear hb1
    go_wp2_with fail
    refine (risb_any (HB.out.later HX1.out.below)).mono ?_
    rintro e w2 ⟨rfl, hb2⟩
    have HX2 := Lib.hid (HX1.out.later hb2)
    obtain ⟨d00, d01, d10, d11⟩ := HX2.out.cells
    clear hb2 c00 c01 c10 c11
    go_wp2_with fail
    refine (HSAME.out _ (HA.out.later HX2.out.below) (HB.out.later HX2.out.below)).mono ?_
    rintro e w3 ⟨rfl, hb3⟩
    have HX3 := Lib.hid (HX2.out.later hb3)
    obtain ⟨c00, c01, c10, c11⟩ := HX3.out.cells
    clear hb3 d00 d01 d10 d11
    go_wp2_with fail
    go_ret
    exact ⟨rfl, HX3.out.below⟩
  · have hKt : K = false := by rw [HK.out]; exact decide_eq_false hab
    subst hKt
    have HS3 := Lib.hid (HS1.out hab)
    clear HS1 HEQ HK
    obtain ⟨x, ex⟩ : ∃ x, a.sign = x := ⟨_, rfl⟩
    obtain ⟨y, ey⟩ : ∃ y, b.sign = y := ⟨_, rfl⟩
    have hxb := sgn_bd a
    have hyb := sgn_bd b
    rw [ex] at hxb HS2 HS3 HX0 HA HSAME ⊢
    rw [ey] at hyb HS2 HS3 HX0 HB HSAME ⊢
    clear ex ey hab
    by_cases hxy : x = y
    · subst hxy
      have H4 := Lib.hid (HS3.out rfl)
      clear HS2 HS3 hyb
      go_enter Tryz.func62, Tryz.ntmps62
      go_wp2_with fail
      refine (risb_any (HA.out.later HX0.out.below)).mono ?_
      rintro e w1 ⟨rfl, hb1⟩
      have HX1 := Lib.hid (HX0.out.later hb1)
      obtain ⟨c00, c01, c10, c11⟩ := HX1.out.cells
      clear hb1
      go_wp2_with fail
      refine (risb_any (HB.out.later HX1.out.below)).mono ?_
      rintro e w2 ⟨rfl, hb2⟩
      have HX2 := Lib.hid (HX1.out.later hb2)
      obtain ⟨d00, d01, d10, d11⟩ := HX2.out.cells
      clear hb2 c00 c01 c10 c11
      go_wp2_with fail
      refine (HSAME.out _ (HA.out.later HX2.out.below) (HB.out.later HX2.out.below)).mono ?_
      rintro e w3 ⟨rfl, hb3⟩
      have HX3 := Lib.hid (HX2.out.later hb3)
      obtain ⟨c00, c01, c10, c11⟩ := HX3.out.cells
      clear hb3 d00 d01 d10 d11
      have HI1 := Lib.hid (HIA.out.later HX3.out.below)
      have HI2 := Lib.hid (HIB.out.later HX3.out.below)
      rcases H4.out with ⟨rfl, e4⟩ | ⟨rfl, e4⟩ <;> cases L <;> simp only [Bool.false_eq_true, ↓reduceIte] at e4 <;> subst e4
      all_goals
        clear H4
        go_wp2_with fail
        go_quiet ((go_at_call 74; exact Calls.quiet_of ((HLESS.out _ (HI1.out.drewN _) (HI2.out.drewN _)).mono fun _ _ h => ⟨h.1, 0, h.2.symm⟩)))
        go_wp2_with fail
        go_ret
        exact ⟨rfl, HX3.out.below.trans ((below_drewN' nq).mono HX3.out.below.size)⟩
    · have HC := Lib.hid (HS2.out hxy)
      clear HS2 HS3
      rcases Int.lt_or_gt_of_ne hxy with hlt | hlt
      · obtain rfl : r = -1 := by rw [← HC.out]; exact cmpI_lt hlt
        clear HC
        go_enter Tryz.func62, Tryz.ntmps62
        go_wp2_with fail
        refine (risb_any (HA.out.later HX0.out.below)).mono ?_
        rintro e w1 ⟨rfl, hb1⟩
        have HX1 := Lib.hid (HX0.out.later hb1)
        obtain ⟨c00, c01, c10, c11⟩ := HX1.out.cells
        clear hb1
        go_wp2_with fail
        refine (risb_any (HB.out.later HX1.out.below)).mono ?_
        rintro e w2 ⟨rfl, hb2⟩
        have HX2 := Lib.hid (HX1.out.later hb2)
        obtain ⟨d00, d01, d10, d11⟩ := HX2.out.cells
        clear hb2 c00 c01 c10 c11
        go_wp2_with fail
        refine (HSAME.out _ (HA.out.later HX2.out.below) (HB.out.later HX2.out.below)).mono ?_
        rintro e w3 ⟨rfl, hb3⟩
        have HX3 := Lib.hid (HX2.out.later hb3)
        obtain ⟨c00, c01, c10, c11⟩ := HX3.out.cells
        clear hb3 d00 d01 d10 d11
        have hq : (x != y) = true := by simpa using hxy
        have hq2 : decide (x < y) = true := decide_eq_true hlt
        go_wp2_with fail
        go_ret
        exact ⟨rfl, HX3.out.below⟩
      · obtain rfl : r = 1 := by rw [← HC.out]; exact cmpI_gt hlt
        clear HC
        go_enter Tryz.func62, Tryz.ntmps62
        go_wp2_with fail
        refine (risb_any (HA.out.later HX0.out.below)).mono ?_
        rintro e w1 ⟨rfl, hb1⟩
        have HX1 := Lib.hid (HX0.out.later hb1)
        obtain ⟨c00, c01, c10, c11⟩ := HX1.out.cells
        clear hb1
        go_wp2_with fail
        refine (risb_any (HB.out.later HX1.out.below)).mono ?_
        rintro e w2 ⟨rfl, hb2⟩
        have HX2 := Lib.hid (HX1.out.later hb2)
        obtain ⟨d00, d01, d10, d11⟩ := HX2.out.cells
        clear hb2 c00 c01 c10 c11
        go_wp2_with fail
        refine (HSAME.out _ (HA.out.later HX2.out.below) (HB.out.later HX2.out.below)).mono ?_
        rintro e w3 ⟨rfl, hb3⟩
        have HX3 := Lib.hid (HX2.out.later hb3)
        obtain ⟨c00, c01, c10, c11⟩ := HX3.out.cells
        clear hb3 d00 d01 d10 d11
        have hq : (x != y) = true := by simpa using hxy
        have hq2 : decide (x < y) = false := decide_eq_false (by omega)
        go_wp2_with fail
        go_ret
        exact ⟨rfl, HX3.out.below⟩
end Go.Proofs.YtnddickcnfodfaaGreatDoor.Bi
