/- kitbagref04: the contracts for arguments that are not valid. -/
import Derived.Test.YtnddickcnfodfaaGreatDoorLBt6
import Derived.Test.YtnddickcnfodfaaGreatDoorLBt5
import Derived.Test.YtnddickcnfodfaaGreatDoorM5
set_option maxRecDepth 100000
namespace Go.Proofs.YtnddickcnfodfaaGreatDoor.Bi
open Go.RowKit

set_option maxHeartbeats 2000000 in
theorem rmul_bad (va vb : Value) (sa sb : Int) (la lb : List Int) (w : World) (ha : Arg w va sa la) (hb : Arg w vb sb lb) (hr : (rightB sa la && rightB sb lb) = false) :
    Calls Tryz.prog 46 #[va, vb] w (Ans 0 1 w) := by
  obtain ⟨va', rfl, hia⟩ := id ha
  obtain ⟨vb', rfl, hib⟩ := id hb
  obtain ⟨aa, ca, rfl, _⟩ := hia.open
  obtain ⟨ab, cb, rfl, _⟩ := hib.open
  obtain ⟨na, ena⟩ : ∃ n, la.length = n := ⟨_, rfl⟩
  obtain ⟨nb, enb⟩ : ∃ n, lb.length = n := ⟨_, rfl⟩
  rw [ena] at ha ⊢
  rw [enb] at hb ⊢
  have HA := Lib.hid ha
  have HB := Lib.hid hb
  have hx := Bx.start w sa (.slice aa na ca) sb (.slice ab nb cb)
  have HX0 := Lib.hid hx
  cases hra : rightB sa la
  · have HR := Lib.hid hra
    clear ha hb hia hib hx hr hra ena enb
    go_enter Tryz.func46, Tryz.ntmps46
    go_wp2_with fail
    refine (rright_any _ sa la _ (HA.out.later HX0.out.below)).mono ?_
    rintro e w1 ⟨rfl, hb1⟩
    rw [HR.out]
    have HX1 := Lib.hid (HX0.out.later hb1)
    obtain ⟨r0, r1, f0, f1⟩ := HX1.out.rcells
    clear hb1
    go_wp2_with fail
    exact bodyPost_ret (v := .tuple #[.agg #[.int .i64 0, .slice none 0 0], .int .i64 1]) (by simp [results, Tryz.results46, go_sem, r0, r1]) rfl
      ⟨_, rfl, by rw [show (0 : Int).natAbs = 0 from rfl, digs_zero]; exact Ints.nil _, HX1.out.put _ _, fun g _ => off_nil g 0 0⟩
  · rw [hra, Bool.true_and] at hr
    have HR := Lib.hid hra
    have HR2 := Lib.hid hr
    clear ha hb hia hib hx hr hra ena enb
    go_enter Tryz.func46, Tryz.ntmps46
    go_wp2_with fail
    refine (rright_any _ sa la _ (HA.out.later HX0.out.below)).mono ?_
    rintro e w1 ⟨rfl, hb1⟩
    rw [HR.out]
    have HX1 := Lib.hid (HX0.out.later hb1)
    obtain ⟨c00, c01, c10, c11⟩ := HX1.out.cells
    clear hb1
    go_wp2_with fail
    refine (rright_any _ sb lb _ (HB.out.later HX1.out.below)).mono ?_
    rintro e w2 ⟨rfl, hb2⟩
    rw [HR2.out]
    have HX2 := Lib.hid (HX1.out.later hb2)
    obtain ⟨r0, r1, f0, f1⟩ := HX2.out.rcells
    clear hb2 c00 c01 c10 c11
    go_wp2_with fail
    exact bodyPost_ret (v := .tuple #[.agg #[.int .i64 0, .slice none 0 0], .int .i64 1]) (by simp [results, Tryz.results46, go_sem, r0, r1]) rfl
      ⟨_, rfl, by rw [show (0 : Int).natAbs = 0 from rfl, digs_zero]; exact Ints.nil _, HX2.out.put _ _, fun g _ => off_nil g 0 0⟩

set_option maxHeartbeats 2000000 in
theorem radd_bad (va vb : Value) (sa sb : Int) (la lb : List Int) (w : World) (ha : Arg w va sa la) (hb : Arg w vb sb lb) (hr : (rightB sa la && rightB sb lb) = false) :
    Calls Tryz.prog 47 #[va, vb] w (Ans 0 1 w) := by
  obtain ⟨va', rfl, hia⟩ := id ha
  obtain ⟨vb', rfl, hib⟩ := id hb
  obtain ⟨aa, ca, rfl, _⟩ := hia.open
  obtain ⟨ab, cb, rfl, _⟩ := hib.open
  obtain ⟨na, ena⟩ : ∃ n, la.length = n := ⟨_, rfl⟩
  obtain ⟨nb, enb⟩ : ∃ n, lb.length = n := ⟨_, rfl⟩
  rw [ena] at ha ⊢
  rw [enb] at hb ⊢
  have HA := Lib.hid ha
  have HB := Lib.hid hb
  have hx := Bx.start w sa (.slice aa na ca) sb (.slice ab nb cb)
  have HX0 := Lib.hid hx
  cases hra : rightB sa la
  · have HR := Lib.hid hra
    clear ha hb hia hib hx hr hra ena enb
    go_enter Tryz.func47, Tryz.ntmps47
    go_wp2_with fail
    refine (rright_any _ sa la _ (HA.out.later HX0.out.below)).mono ?_
    rintro e w1 ⟨rfl, hb1⟩
    rw [HR.out]
    have HX1 := Lib.hid (HX0.out.later hb1)
    obtain ⟨r0, r1, f0, f1⟩ := HX1.out.rcells
    clear hb1
    go_wp2_with fail
    exact bodyPost_ret (v := .tuple #[.agg #[.int .i64 0, .slice none 0 0], .int .i64 1]) (by simp [results, Tryz.results47, go_sem, r0, r1]) rfl
      ⟨_, rfl, by rw [show (0 : Int).natAbs = 0 from rfl, digs_zero]; exact Ints.nil _, HX1.out.put _ _, fun g _ => off_nil g 0 0⟩
  · rw [hra, Bool.true_and] at hr
    have HR := Lib.hid hra
    have HR2 := Lib.hid hr
    clear ha hb hia hib hx hr hra ena enb
    go_enter Tryz.func47, Tryz.ntmps47
    go_wp2_with fail
    refine (rright_any _ sa la _ (HA.out.later HX0.out.below)).mono ?_
    rintro e w1 ⟨rfl, hb1⟩
    rw [HR.out]
    have HX1 := Lib.hid (HX0.out.later hb1)
    obtain ⟨c00, c01, c10, c11⟩ := HX1.out.cells
    clear hb1
    go_wp2_with fail
    refine (rright_any _ sb lb _ (HB.out.later HX1.out.below)).mono ?_
    rintro e w2 ⟨rfl, hb2⟩
    rw [HR2.out]
    have HX2 := Lib.hid (HX1.out.later hb2)
    obtain ⟨r0, r1, f0, f1⟩ := HX2.out.rcells
    clear hb2 c00 c01 c10 c11
    go_wp2_with fail
    exact bodyPost_ret (v := .tuple #[.agg #[.int .i64 0, .slice none 0 0], .int .i64 1]) (by simp [results, Tryz.results47, go_sem, r0, r1]) rfl
      ⟨_, rfl, by rw [show (0 : Int).natAbs = 0 from rfl, digs_zero]; exact Ints.nil _, HX2.out.put _ _, fun g _ => off_nil g 0 0⟩

set_option maxHeartbeats 2000000 in
theorem rgcd_bad (va vb : Value) (sa sb : Int) (la lb : List Int) (w : World) (ha : Arg w va sa la) (hb : Arg w vb sb lb) (hr : (rightB sa la && rightB sb lb) = false) :
    Calls Tryz.prog 59 #[va, vb] w (Ans 0 1 w) := by
  obtain ⟨va', rfl, hia⟩ := id ha
  obtain ⟨vb', rfl, hib⟩ := id hb
  obtain ⟨aa, ca, rfl, _⟩ := hia.open
  obtain ⟨ab, cb, rfl, _⟩ := hib.open
  obtain ⟨na, ena⟩ : ∃ n, la.length = n := ⟨_, rfl⟩
  obtain ⟨nb, enb⟩ : ∃ n, lb.length = n := ⟨_, rfl⟩
  rw [ena] at ha ⊢
  rw [enb] at hb ⊢
  have HA := Lib.hid ha
  have HB := Lib.hid hb
  have hx := Bx.start w sa (.slice aa na ca) sb (.slice ab nb cb)
  have HX0 := Lib.hid hx
  cases hra : rightB sa la
  · have HR := Lib.hid hra
    clear ha hb hia hib hx hr hra ena enb
    go_enter Tryz.func59, Tryz.ntmps59
    go_wp2_with fail
    refine (rright_any _ sa la _ (HA.out.later HX0.out.below)).mono ?_
    rintro e w1 ⟨rfl, hb1⟩
    rw [HR.out]
    have HX1 := Lib.hid (HX0.out.later hb1)
    obtain ⟨r0, r1, f0, f1⟩ := HX1.out.rcells
    clear hb1
    go_wp2_with fail
    exact bodyPost_ret (v := .tuple #[.agg #[.int .i64 0, .slice none 0 0], .int .i64 1]) (by simp [results, Tryz.results59, go_sem, r0, r1]) rfl
      ⟨_, rfl, by rw [show (0 : Int).natAbs = 0 from rfl, digs_zero]; exact Ints.nil _, HX1.out.put _ _, fun g _ => off_nil g 0 0⟩
  · rw [hra, Bool.true_and] at hr
    have HR := Lib.hid hra
    have HR2 := Lib.hid hr
    clear ha hb hia hib hx hr hra ena enb
    go_enter Tryz.func59, Tryz.ntmps59
    go_wp2_with fail
    refine (rright_any _ sa la _ (HA.out.later HX0.out.below)).mono ?_
    rintro e w1 ⟨rfl, hb1⟩
    rw [HR.out]
    have HX1 := Lib.hid (HX0.out.later hb1)
    obtain ⟨c00, c01, c10, c11⟩ := HX1.out.cells
    clear hb1
    go_wp2_with fail
    refine (rright_any _ sb lb _ (HB.out.later HX1.out.below)).mono ?_
    rintro e w2 ⟨rfl, hb2⟩
    rw [HR2.out]
    have HX2 := Lib.hid (HX1.out.later hb2)
    obtain ⟨r0, r1, f0, f1⟩ := HX2.out.rcells
    clear hb2 c00 c01 c10 c11
    go_wp2_with fail
    exact bodyPost_ret (v := .tuple #[.agg #[.int .i64 0, .slice none 0 0], .int .i64 1]) (by simp [results, Tryz.results59, go_sem, r0, r1]) rfl
      ⟨_, rfl, by rw [show (0 : Int).natAbs = 0 from rfl, digs_zero]; exact Ints.nil _, HX2.out.put _ _, fun g _ => off_nil g 0 0⟩

set_option maxHeartbeats 4000000 in
theorem rdiv_bad (va vb : Value) (sa sb : Int) (la lb : List Int) (w : World) (ha : Arg w va sa la) (hb : Arg w vb sb lb) (hr : (rightB sa la && rightB sb lb) = false) :
    Calls Tryz.prog 60 #[va, vb] w (AnsD 0 0 1 w) := by
  obtain ⟨va', rfl, hia⟩ := id ha
  obtain ⟨vb', rfl, hib⟩ := id hb
  obtain ⟨aa, ca, rfl, _⟩ := hia.open
  obtain ⟨ab, cb, rfl, _⟩ := hib.open
  obtain ⟨na, ena⟩ : ∃ n, la.length = n := ⟨_, rfl⟩
  obtain ⟨nb, enb⟩ : ∃ n, lb.length = n := ⟨_, rfl⟩
  rw [ena] at ha ⊢
  rw [enb] at hb ⊢
  have HA := Lib.hid ha
  have HB := Lib.hid hb
  have hx := Bx2.start w sa (.slice aa na ca) sb (.slice ab nb cb)
  have HX0 := Lib.hid hx
  cases hra : rightB sa la
  · have HR := Lib.hid hra
    clear ha hb hia hib hx hr hra ena enb
    go_enter Tryz.func60, Tryz.ntmps60
    go_wp2_with fail
    refine (rright_any _ sa la _ (HA.out.later HX0.out.below)).mono ?_
    rintro e w1 ⟨rfl, hb1⟩
    rw [HR.out]
    have HX1 := Lib.hid (HX0.out.later hb1)
    obtain ⟨⟨r0, r1, f0, f1⟩, t0, t1, g0, g1⟩ := HX1.out.rcells
    clear hb1
    go_wp2_with fail
    exact bodyPost_ret (v := .tuple #[.agg #[.int .i64 0, .slice none 0 0], .agg #[.int .i64 0, .slice none 0 0], .int .i64 1]) (by simp [results, Tryz.results60, go_sem, r0, r1, t0, t1]) rfl
      (AnsD.zero ((((HX1.out.below.setCell (by simp; omega) _).setCell (by simp; omega) _).setCell (by simp; omega) _).setCell (by simp; omega) _))
  · rw [hra, Bool.true_and] at hr
    have HR := Lib.hid hra
    have HR2 := Lib.hid hr
    clear ha hb hia hib hx hr hra ena enb
    go_enter Tryz.func60, Tryz.ntmps60
    go_wp2_with fail
    refine (rright_any _ sa la _ (HA.out.later HX0.out.below)).mono ?_
    rintro e w1 ⟨rfl, hb1⟩
    rw [HR.out]
    have HX1 := Lib.hid (HX0.out.later hb1)
    obtain ⟨c00, c01, c10, c11⟩ := HX1.out.cells
    clear hb1
    go_wp2_with fail
    refine (rright_any _ sb lb _ (HB.out.later HX1.out.below)).mono ?_
    rintro e w2 ⟨rfl, hb2⟩
    rw [HR2.out]
    have HX2 := Lib.hid (HX1.out.later hb2)
    obtain ⟨⟨r0, r1, f0, f1⟩, t0, t1, g0, g1⟩ := HX2.out.rcells
    clear hb2 c00 c01 c10 c11
    go_wp2_with fail
    exact bodyPost_ret (v := .tuple #[.agg #[.int .i64 0, .slice none 0 0], .agg #[.int .i64 0, .slice none 0 0], .int .i64 1]) (by simp [results, Tryz.results60, go_sem, r0, r1, t0, t1]) rfl
      (AnsD.zero ((((HX2.out.below.setCell (by simp; omega) _).setCell (by simp; omega) _).setCell (by simp; omega) _).setCell (by simp; omega) _))

set_option maxHeartbeats 1000000 in
theorem rneg_bad (va : Value) (sa : Int) (la : List Int) (w : World) (ha : Arg w va sa la) (hr : rightB sa la = false) :
    Calls Tryz.prog 58 #[va] w (AnsB 0 w) := by
  obtain ⟨va', rfl, hia⟩ := id ha
  obtain ⟨aa, ca, rfl, _⟩ := hia.open
  have HA := Lib.hid ha
  have HR := Lib.hid hr
  have hx := B1.start w sa (.slice aa la.length ca)
  have HX0 := Lib.hid hx
  clear ha hia hx hr
  go_enter Tryz.func58, Tryz.ntmps58
  go_wp2_with fail
  refine (rright_any _ sa la _ (HA.out.later HX0.out.below)).mono ?_
  rintro e w1 ⟨rfl, hb1⟩
  rw [HR.out]
  have HX1 := Lib.hid (HX0.out.later hb1)
  obtain ⟨r0, r1, f0, f1⟩ := HX1.out.rcells
  clear hb1
  go_wp2_with fail
  exact bodyPost_ret (v := .agg #[.int .i64 0, .slice none 0 0]) (by simp [results, Tryz.results58, go_sem, r0, r1]) rfl
    ⟨_, rfl, by rw [show (0 : Int).natAbs = 0 from rfl, digs_zero]; exact Ints.nil _, (HX1.out.below.setCell (by simp) _).setCell (by simp) _, fun g _ => off_nil g 0 0⟩

end Go.Proofs.YtnddickcnfodfaaGreatDoor.Bi
