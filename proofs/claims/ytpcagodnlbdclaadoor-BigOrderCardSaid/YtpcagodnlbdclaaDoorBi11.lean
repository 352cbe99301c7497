/- The contracts of Add, Sub, Mul, Gcd where an argument is not valid. -/
import Derived.Test.YtpcagodnlbdclaaDoorBi10
set_option maxRecDepth 100000
namespace Go.Proofs.YtpcagodnlbdclaaDoor.Bi
open Go.RowKit

set_option maxHeartbeats 2000000 in
theorem mul_bad (va vb : Value) (sa sb : Int) (la lb : List Int) (w : World) (ha : Arg w va sa la) (hb : Arg w vb sb lb) (hr : (rightB sa la && rightB sb lb) = false) :
    Calls Tryd.prog 16 #[va, vb] w (Ans 0 1 w) := by
  obtain ⟨va', rfl, hia⟩ := id ha
  obtain ⟨vb', rfl, hib⟩ := id hb
  obtain ⟨aa, ca, rfl, _⟩ := hia.open
  obtain ⟨ab, cb, rfl, _⟩ := hib.open
  obtain ⟨na, ena⟩ : ∃ n, la.length = n := ⟨_, rfl⟩
  obtain ⟨nb, enb⟩ : ∃ n, lb.length = n := ⟨_, rfl⟩
  rw [ena] at ha ⊢
  rw [enb] at hb ⊢
  have HA := Lib.hid ha
  have HB := Lib.hid hb
  have hx := Bx.start w sa (.slice aa na ca) sb (.slice ab nb cb)
  have HX0 := Lib.hid hx
  cases hra : rightB sa la
  · have HR := Lib.hid hra
    clear ha hb hia hib hx hr hra ena enb
    go_enter Tryd.func16, Tryd.ntmps16
    go_wp2_with fail
    refine (right_any _ sa la _ (HA.out.later HX0.out.below)).mono ?_
    rintro e w1 ⟨rfl, hb1⟩
    rw [HR.out]
    have HX1 := Lib.hid (HX0.out.later hb1)
    obtain ⟨r0, r1, f0, f1⟩ := HX1.out.rcells
    clear hb1
    go_wp2_with fail
    exact bodyPost_ret (v := .tuple #[.agg #[.int .i64 0, .slice none 0 0], .int .i64 1]) (by simp [results, Tryd.results16, go_sem, r0, r1]) rfl
      ⟨_, rfl, by rw [show (0 : Int).natAbs = 0 from rfl, digs_zero]; exact Ints.nil _, HX1.out.put _ _, fun g _ => off_nil g 0 0⟩
  · rw [hra, Bool.true_and] at hr
    have HR := Lib.hid hra
    have HR2 := Lib.hid hr
    clear ha hb hia hib hx hr hra ena enb
    go_enter Tryd.func16, Tryd.ntmps16
    go_wp2_with fail
    refine (right_any _ sa la _ (HA.out.later HX0.out.below)).mono ?_
    rintro e w1 ⟨rfl, hb1⟩
    rw [HR.out]
    have HX1 := Lib.hid (HX0.out.later hb1)
    obtain ⟨c00, c01, c10, c11⟩ := HX1.out.cells
    clear hb1
    go_wp2_with fail
    refine (right_any _ sb lb _ (HB.out.later HX1.out.below)).mono ?_
    rintro e w2 ⟨rfl, hb2⟩
    rw [HR2.out]
    have HX2 := Lib.hid (HX1.out.later hb2)
    obtain ⟨r0, r1, f0, f1⟩ := HX2.out.rcells
    clear hb2 c00 c01 c10 c11
    go_wp2_with fail
    exact bodyPost_ret (v := .tuple #[.agg #[.int .i64 0, .slice none 0 0], .int .i64 1]) (by simp [results, Tryd.results16, go_sem, r0, r1]) rfl
      ⟨_, rfl, by rw [show (0 : Int).natAbs = 0 from rfl, digs_zero]; exact Ints.nil _, HX2.out.put _ _, fun g _ => off_nil g 0 0⟩

set_option maxHeartbeats 2000000 in
theorem add_bad (va vb : Value) (sa sb : Int) (la lb : List Int) (w : World) (ha : Arg w va sa la) (hb : Arg w vb sb lb) (hr : (rightB sa la && rightB sb lb) = false) :
    Calls Tryd.prog 12 #[va, vb] w (Ans 0 1 w) := by
  obtain ⟨va', rfl, hia⟩ := id ha
  obtain ⟨vb', rfl, hib⟩ := id hb
  obtain ⟨aa, ca, rfl, _⟩ := hia.open
  obtain ⟨ab, cb, rfl, _⟩ := hib.open
  obtain ⟨na, ena⟩ : ∃ n, la.length = n := ⟨_, rfl⟩
  obtain ⟨nb, enb⟩ : ∃ n, lb.length = n := ⟨_, rfl⟩
  rw [ena] at ha ⊢
  rw [enb] at hb ⊢
  have HA := Lib.hid ha
  have HB := Lib.hid hb
  have hx := Bx.start w sa (.slice aa na ca) sb (.slice ab nb cb)
  have HX0 := Lib.hid hx
  cases hra : rightB sa la
  · have HR := Lib.hid hra
    clear ha hb hia hib hx hr hra ena enb
    go_enter Tryd.func12, Tryd.ntmps12
    go_wp2_with fail
    refine (right_any _ sa la _ (HA.out.later HX0.out.below)).mono ?_
    rintro e w1 ⟨rfl, hb1⟩
    rw [HR.out]
    have HX1 := Lib.hid (HX0.out.later hb1)
    obtain ⟨r0, r1, f0, f1⟩ := HX1.out.rcells
    clear hb1
    go_wp2_with fail
    exact bodyPost_ret (v := .tuple #[.agg #[.int .i64 0, .slice none 0 0], .int .i64 1]) (by simp [results, Tryd.results12, go_sem, r0, r1]) rfl
      ⟨_, rfl, by rw [show (0 : Int).natAbs = 0 from rfl, digs_zero]; exact Ints.nil _, HX1.out.put _ _, fun g _ => off_nil g 0 0⟩
  · rw [hra, Bool.true_and] at hr
    have HR := Lib.hid hra
    have HR2 := Lib.hid hr
    clear ha hb hia hib hx hr hra ena enb
    go_enter Tryd.func12, Tryd.ntmps12
    go_wp2_with fail
    refine (right_any _ sa la _ (HA.out.later HX0.out.below)).mono ?_
    rintro e w1 ⟨rfl, hb1⟩
    rw [HR.out]
    have HX1 := Lib.hid (HX0.out.later hb1)
    obtain ⟨c00, c01, c10, c11⟩ := HX1.out.cells
    clear hb1
    go_wp2_with fail
    refine (right_any _ sb lb _ (HB.out.later HX1.out.below)).mono ?_
    rintro e w2 ⟨rfl, hb2⟩
    rw [HR2.out]
    have HX2 := Lib.hid (HX1.out.later hb2)
    obtain ⟨r0, r1, f0, f1⟩ := HX2.out.rcells
    clear hb2 c00 c01 c10 c11
    go_wp2_with fail
    exact bodyPost_ret (v := .tuple #[.agg #[.int .i64 0, .slice none 0 0], .int .i64 1]) (by simp [results, Tryd.results12, go_sem, r0, r1]) rfl
      ⟨_, rfl, by rw [show (0 : Int).natAbs = 0 from rfl, digs_zero]; exact Ints.nil _, HX2.out.put _ _, fun g _ => off_nil g 0 0⟩

set_option maxHeartbeats 2000000 in
theorem sub_bad (va vb : Value) (sa sb : Int) (la lb : List Int) (w : World) (ha : Arg w va sa la) (hb : Arg w vb sb lb) (hr : (rightB sa la && rightB sb lb) = false) :
    Calls Tryd.prog 14 #[va, vb] w (Ans 0 1 w) := by
  obtain ⟨va', rfl, hia⟩ := id ha
  obtain ⟨vb', rfl, hib⟩ := id hb
  obtain ⟨aa, ca, rfl, _⟩ := hia.open
  obtain ⟨ab, cb, rfl, _⟩ := hib.open
  obtain ⟨na, ena⟩ : ∃ n, la.length = n := ⟨_, rfl⟩
  obtain ⟨nb, enb⟩ : ∃ n, lb.length = n := ⟨_, rfl⟩
  rw [ena] at ha ⊢
  rw [enb] at hb ⊢
  have HA := Lib.hid ha
  have HB := Lib.hid hb
  have hx := Bx.start w sa (.slice aa na ca) sb (.slice ab nb cb)
  have HX0 := Lib.hid hx
  cases hra : rightB sa la
  · have HR := Lib.hid hra
    clear ha hb hia hib hx hr hra ena enb
    go_enter Tryd.func14, Tryd.ntmps14
    go_wp2_with fail
    refine (right_any _ sa la _ (HA.out.later HX0.out.below)).mono ?_
    rintro e w1 ⟨rfl, hb1⟩
    rw [HR.out]
    have HX1 := Lib.hid (HX0.out.later hb1)
    obtain ⟨r0, r1, f0, f1⟩ := HX1.out.rcells
    clear hb1
    go_wp2_with fail
    exact bodyPost_ret (v := .tuple #[.agg #[.int .i64 0, .slice none 0 0], .int .i64 1]) (by simp [results, Tryd.results14, go_sem, r0, r1]) rfl
      ⟨_, rfl, by rw [show (0 : Int).natAbs = 0 from rfl, digs_zero]; exact Ints.nil _, HX1.out.put _ _, fun g _ => off_nil g 0 0⟩
  · rw [hra, Bool.true_and] at hr
    have HR := Lib.hid hra
    have HR2 := Lib.hid hr
    clear ha hb hia hib hx hr hra ena enb
    go_enter Tryd.func14, Tryd.ntmps14
    go_wp2_with fail
    refine (right_any _ sa la _ (HA.out.later HX0.out.below)).mono ?_
    rintro e w1 ⟨rfl, hb1⟩
    rw [HR.out]
    have HX1 := Lib.hid (HX0.out.later hb1)
    obtain ⟨c00, c01, c10, c11⟩ := HX1.out.cells
    clear hb1
    go_wp2_with fail
    refine (right_any _ sb lb _ (HB.out.later HX1.out.below)).mono ?_
    rintro e w2 ⟨rfl, hb2⟩
    rw [HR2.out]
    have HX2 := Lib.hid (HX1.out.later hb2)
    obtain ⟨r0, r1, f0, f1⟩ := HX2.out.rcells
    clear hb2 c00 c01 c10 c11
    go_wp2_with fail
    exact bodyPost_ret (v := .tuple #[.agg #[.int .i64 0, .slice none 0 0], .int .i64 1]) (by simp [results, Tryd.results14, go_sem, r0, r1]) rfl
      ⟨_, rfl, by rw [show (0 : Int).natAbs = 0 from rfl, digs_zero]; exact Ints.nil _, HX2.out.put _ _, fun g _ => off_nil g 0 0⟩

set_option maxHeartbeats 2000000 in
theorem gcd_bad (va vb : Value) (sa sb : Int) (la lb : List Int) (w : World) (ha : Arg w va sa la) (hb : Arg w vb sb lb) (hr : (rightB sa la && rightB sb lb) = false) :
    Calls Tryd.prog 25 #[va, vb] w (Ans 0 1 w) := by
  obtain ⟨va', rfl, hia⟩ := id ha
  obtain ⟨vb', rfl, hib⟩ := id hb
  obtain ⟨aa, ca, rfl, _⟩ := hia.open
  obtain ⟨ab, cb, rfl, _⟩ := hib.open
  obtain ⟨na, ena⟩ : ∃ n, la.length = n := ⟨_, rfl⟩
  obtain ⟨nb, enb⟩ : ∃ n, lb.length = n := ⟨_, rfl⟩
  rw [ena] at ha ⊢
  rw [enb] at hb ⊢
  have HA := Lib.hid ha
  have HB := Lib.hid hb
  have hx := Bx.start w sa (.slice aa na ca) sb (.slice ab nb cb)
  have HX0 := Lib.hid hx
  cases hra : rightB sa la
  · have HR := Lib.hid hra
    clear ha hb hia hib hx hr hra ena enb
    go_enter Tryd.func25, Tryd.ntmps25
    go_wp2_with fail
    refine (right_any _ sa la _ (HA.out.later HX0.out.below)).mono ?_
    rintro e w1 ⟨rfl, hb1⟩
    rw [HR.out]
    have HX1 := Lib.hid (HX0.out.later hb1)
    obtain ⟨r0, r1, f0, f1⟩ := HX1.out.rcells
    clear hb1
    go_wp2_with fail
    exact bodyPost_ret (v := .tuple #[.agg #[.int .i64 0, .slice none 0 0], .int .i64 1]) (by simp [results, Tryd.results25, go_sem, r0, r1]) rfl
      ⟨_, rfl, by rw [show (0 : Int).natAbs = 0 from rfl, digs_zero]; exact Ints.nil _, HX1.out.put _ _, fun g _ => off_nil g 0 0⟩
  · rw [hra, Bool.true_and] at hr
    have HR := Lib.hid hra
    have HR2 := Lib.hid hr
    clear ha hb hia hib hx hr hra ena enb
    go_enter Tryd.func25, Tryd.ntmps25
    go_wp2_with fail
    refine (right_any _ sa la _ (HA.out.later HX0.out.below)).mono ?_
    rintro e w1 ⟨rfl, hb1⟩
    rw [HR.out]
    have HX1 := Lib.hid (HX0.out.later hb1)
    obtain ⟨c00, c01, c10, c11⟩ := HX1.out.cells
    clear hb1
    go_wp2_with fail
    refine (right_any _ sb lb _ (HB.out.later HX1.out.below)).mono ?_
    rintro e w2 ⟨rfl, hb2⟩
    rw [HR2.out]
    have HX2 := Lib.hid (HX1.out.later hb2)
    obtain ⟨r0, r1, f0, f1⟩ := HX2.out.rcells
    clear hb2 c00 c01 c10 c11
    go_wp2_with fail
    exact bodyPost_ret (v := .tuple #[.agg #[.int .i64 0, .slice none 0 0], .int .i64 1]) (by simp [results, Tryd.results25, go_sem, r0, r1]) rfl
      ⟨_, rfl, by rw [show (0 : Int).natAbs = 0 from rfl, digs_zero]; exact Ints.nil _, HX2.out.put _ _, fun g _ => off_nil g 0 0⟩
end Go.Proofs.YtpcagodnlbdclaaDoor.Bi
