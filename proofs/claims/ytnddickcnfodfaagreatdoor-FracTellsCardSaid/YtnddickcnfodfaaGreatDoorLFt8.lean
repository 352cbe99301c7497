/- FracTells, an argument too long. WRITTEN by frac/gen_ft.py. -/
import Derived.Test.YtnddickcnfodfaaGreatDoorLFt7
set_option maxRecDepth 100000
namespace Go.Proofs.YtnddickcnfodfaaGreatDoor.Bi
open Go.RowKit

set_option maxHeartbeats 4000000 in
theorem FracTells_long (sa : Int) (aa : Option Addr) (na ca : Nat) (ta : Int) (ba : Option Addr) (ma da : Nat) (sb : Int) (ab : Option Addr) (nb cb : Nat) (tb : Int) (bb : Option Addr) (mb db : Nat) (ip : Int) (iq : Int) (zs : ByteArray) (w : World) (he : EnvF w) (ha : na ≤ 9223372036854775807) (ga : ma ≤ 9223372036854775807) (hb : nb ≤ 9223372036854775807) (gb : mb ≤ 9223372036854775807) (_hzs : zs.size ≤ 9223372036854775807) (hno : ¬ ((na ≤ 40 ∧ ma ≤ 40) ∧ (nb ≤ 40 ∧ mb ≤ 40))) :
    Calls Tryz.prog 3 #[.agg #[.int .i64 sa, .slice aa na ca, .int .i64 ta, .slice ba ma da], .agg #[.int .i64 sb, .slice ab nb cb, .int .i64 tb, .slice bb mb db], .int .i64 ip, .int .i64 iq, .string zs] w fun e w' => e = .returned (.bool true) ∧ RowKit.Below w.heap.size w w' := by
  have HE := Lib.hid he
  have HNO := Lib.hid hno
  have Ha := Lib.hid ha
  have Ga := Lib.hid ga
  obtain ⟨fa, hfa⟩ : ∃ b, (decide ((na : Int) ≤ 40) && decide ((ma : Int) ≤ 40)) = b := ⟨_, rfl⟩
  have FWa := Lib.hid hfa
  clear ha ga hfa
  have Hb := Lib.hid hb
  have Gb := Lib.hid gb
  obtain ⟨fb, hfb⟩ : ∃ b, (decide ((nb : Int) ≤ 40) && decide ((mb : Int) ≤ 40)) = b := ⟨_, rfl⟩
  have FWb := Lib.hid hfb
  clear hb gb hfb
  have S0 := Lib.hid ((((Sf.start w)).put [.int .i64 sa, .slice aa na ca, .int .i64 ta, .slice ba ma da] 26).put' (n := w.heap.size + 1) (by simp) [.int .i64 sb, .slice ab nb cb, .int .i64 tb, .slice bb mb db] 26)
  clear he hno
  go_enter Tryz.func3, Tryz.ntmps3
  go_wp2_with fail
  refine (lsmall_k _ (S0.out.envF HE.out)).mono ?_
  rintro e w1 ⟨rfl, hb⟩
  have S2 := Lib.hid (S0.out.later hb)
  clear hb S0
  obtain ⟨t1_0, t1_1, t1_2, t1_3⟩ := (S2.out.box _ (List.mem_cons_of_mem _ List.mem_cons_self) : Fb (w.heap.size, 26, [.int .i64 sa, .slice aa na ca, .int .i64 ta, .slice ba ma da]) _).cells4
  go_wp2_with fail
  clear t1_0 t1_1 t1_2 t1_3
  refine (ffew_len sa aa na ca ta ba ma da 40 _ Ha.out Ga.out fa FWa.out).mono ?_
  rintro e w3 ⟨rfl, hb⟩
  have S4 := Lib.hid (S2.out.later hb)
  clear hb S2
  cases fa
  case false =>
    go_wp2_with fail
    go_ret
    exact ⟨rfl, S4.out.below⟩
  obtain ⟨t2_0, t2_1, t2_2, t2_3⟩ := (S4.out.box _ List.mem_cons_self : Fb (w.heap.size + 1, 26, [.int .i64 sb, .slice ab nb cb, .int .i64 tb, .slice bb mb db]) _).cells4
  go_wp2_with fail
  clear t2_0 t2_1 t2_2 t2_3
  refine (ffew_len sb ab nb cb tb bb mb db 40 _ Hb.out Gb.out fb FWb.out).mono ?_
  rintro e w5 ⟨rfl, hb⟩
  have S6 := Lib.hid (S4.out.later hb)
  clear hb S4
  cases fb
  case false =>
    go_wp2_with fail
    go_ret
    exact ⟨rfl, S6.out.below⟩
  exact absurd ⟨few_nat FWa.out, few_nat FWb.out⟩ HNO.out

end Go.Proofs.YtnddickcnfodfaaGreatDoor.Bi
