/- The contract of FracOrder, out of its three cases. -/
import Derived.Test.YtbbjogkapcakpaaGreatDoorLFrOL
import Derived.Test.YtbbjogkapcakpaaGreatDoorLFrOE
import Derived.Test.YtbbjogkapcakpaaGreatDoorLFrOG
set_option maxRecDepth 100000
namespace Go.Proofs.YtbbjogkapcakpaaGreatDoor.Bi
open Go.RowKit

theorem FracOrder_any (sa : Int) (aa : Option Addr) (na ca : Nat) (la : List Int) (ta : Int) (ba : Option Addr) (ma da : Nat) (ka : List Int) (sb : Int) (ab : Option Addr) (nb cb : Nat) (lb : List Int) (tb : Int) (bb : Option Addr) (mb db : Nat) (kb : List Int) (sc : Int) (ac : Option Addr) (nc cc : Nat) (lc : List Int) (tc : Int) (bc : Option Addr) (mc dc : Nat) (kc : List Int) (w : World) (he : EnvF w) (ha : Ints w (.slice aa na ca) la) (ga : Ints w (.slice ba ma da) ka) (hb : Ints w (.slice ab nb cb) lb) (gb : Ints w (.slice bb mb db) kb) (hc : Ints w (.slice ac nc cc) lc) (gc : Ints w (.slice bc mc dc) kc) :
    Calls Tryz.prog 5 #[.agg #[.int .i64 sa, .slice aa na ca, .int .i64 ta, .slice ba ma da], .agg #[.int .i64 sb, .slice ab nb cb, .int .i64 tb, .slice bb mb db], .agg #[.int .i64 sc, .slice ac nc cc, .int .i64 tc, .slice bc mc dc]] w fun e w' => e = .returned (.bool true) ∧ RowKit.Below w.heap.size w w' := by
  rcases ordF sa la ka sb lb kb with h | h | h
  · exact FracOrder_L sa aa na ca la ta ba ma da ka sb ab nb cb lb tb bb mb db kb sc ac nc cc lc tc bc mc dc kc w he ha ga hb gb hc gc h
  · exact FracOrder_E sa aa na ca la ta ba ma da ka sb ab nb cb lb tb bb mb db kb sc ac nc cc lc tc bc mc dc kc w he ha ga hb gb hc gc h
  · exact FracOrder_G sa aa na ca la ta ba ma da ka sb ab nb cb lb tb bb mb db kb sc ac nc cc lc tc bc mc dc kc w he ha ga hb gb hc gc h

set_option maxHeartbeats 4000000 in
theorem FracOrder_long (sa : Int) (aa : Option Addr) (na ca : Nat) (ta : Int) (ba : Option Addr) (ma da : Nat) (sb : Int) (ab : Option Addr) (nb cb : Nat) (tb : Int) (bb : Option Addr) (mb db : Nat) (sc : Int) (ac : Option Addr) (nc cc : Nat) (tc : Int) (bc : Option Addr) (mc dc : Nat) (w : World) (he : EnvF w) (ha : na ≤ 9223372036854775807) (ga : ma ≤ 9223372036854775807) (hb : nb ≤ 9223372036854775807) (gb : mb ≤ 9223372036854775807) (hc : nc ≤ 9223372036854775807) (gc : mc ≤ 9223372036854775807) (hno : ¬ ((na ≤ 12 ∧ ma ≤ 12) ∧ (nb ≤ 12 ∧ mb ≤ 12) ∧ (nc ≤ 12 ∧ mc ≤ 12))) :
    Calls Tryz.prog 5 #[.agg #[.int .i64 sa, .slice aa na ca, .int .i64 ta, .slice ba ma da], .agg #[.int .i64 sb, .slice ab nb cb, .int .i64 tb, .slice bb mb db], .agg #[.int .i64 sc, .slice ac nc cc, .int .i64 tc, .slice bc mc dc]] w fun e w' => e = .returned (.bool true) ∧ RowKit.Below w.heap.size w w' := by
  have HE := Lib.hid he
  have HNO := Lib.hid hno
  have Ha := Lib.hid ha
  have Ga := Lib.hid ga
  obtain ⟨fa, hfa⟩ : ∃ b, (decide ((na : Int) ≤ 12) && decide ((ma : Int) ≤ 12)) = b := ⟨_, rfl⟩
  have FWa := Lib.hid hfa
  clear ha ga hfa
  have Hb := Lib.hid hb
  have Gb := Lib.hid gb
  obtain ⟨fb, hfb⟩ : ∃ b, (decide ((nb : Int) ≤ 12) && decide ((mb : Int) ≤ 12)) = b := ⟨_, rfl⟩
  have FWb := Lib.hid hfb
  clear hb gb hfb
  have Hc := Lib.hid hc
  have Gc := Lib.hid gc
  obtain ⟨fc, hfc⟩ : ∃ b, (decide ((nc : Int) ≤ 12) && decide ((mc : Int) ≤ 12)) = b := ⟨_, rfl⟩
  have FWc := Lib.hid hfc
  clear hc gc hfc
  have S0 := Lib.hid (((((Sf.start w)).put [.int .i64 sa, .slice aa na ca, .int .i64 ta, .slice ba ma da] 26).put' (n := w.heap.size + 1) (by simp) [.int .i64 sb, .slice ab nb cb, .int .i64 tb, .slice bb mb db] 26).put' (n := w.heap.size + 1 + 1) (by simp) [.int .i64 sc, .slice ac nc cc, .int .i64 tc, .slice bc mc dc] 26)
  clear he hno
  go_enter Tryz.func5, Tryz.ntmps5
  go_wp2_with fail
  refine (lsmall_k _ (S0.out.envF HE.out)).mono ?_
  rintro e w1 ⟨rfl, hb⟩
  have S2 := Lib.hid (S0.out.later hb)
  clear hb S0
  obtain ⟨t1_0, t1_1, t1_2, t1_3⟩ := (S2.out.box _ (List.mem_cons_of_mem _ (List.mem_cons_of_mem _ List.mem_cons_self)) : Fb (w.heap.size, 26, [.int .i64 sa, .slice aa na ca, .int .i64 ta, .slice ba ma da]) _).cells4
  go_wp2_with fail
  clear t1_0 t1_1 t1_2 t1_3
  refine (ffew_len sa aa na ca ta ba ma da 12 _ Ha.out Ga.out fa FWa.out).mono ?_
  rintro e w3 ⟨rfl, hb⟩
  have S4 := Lib.hid (S2.out.later hb)
  clear hb S2
  cases fa
  case false =>
    go_wp2_with fail
    go_ret
    exact ⟨rfl, S4.out.below⟩
  obtain ⟨t2_0, t2_1, t2_2, t2_3⟩ := (S4.out.box _ (List.mem_cons_of_mem _ List.mem_cons_self) : Fb (w.heap.size + 1, 26, [.int .i64 sb, .slice ab nb cb, .int .i64 tb, .slice bb mb db]) _).cells4
  go_wp2_with fail
  clear t2_0 t2_1 t2_2 t2_3
  refine (ffew_len sb ab nb cb tb bb mb db 12 _ Hb.out Gb.out fb FWb.out).mono ?_
  rintro e w5 ⟨rfl, hb⟩
  have S6 := Lib.hid (S4.out.later hb)
  clear hb S4
  cases fb
  case false =>
    go_wp2_with fail
    go_ret
    exact ⟨rfl, S6.out.below⟩
  obtain ⟨t3_0, t3_1, t3_2, t3_3⟩ := (S6.out.box _ List.mem_cons_self : Fb (w.heap.size + 1 + 1, 26, [.int .i64 sc, .slice ac nc cc, .int .i64 tc, .slice bc mc dc]) _).cells4
  go_wp2_with fail
  clear t3_0 t3_1 t3_2 t3_3
  refine (ffew_len sc ac nc cc tc bc mc dc 12 _ Hc.out Gc.out fc FWc.out).mono ?_
  rintro e w7 ⟨rfl, hb⟩
  have S8 := Lib.hid (S6.out.later hb)
  clear hb S6
  cases fc
  case false =>
    go_wp2_with fail
    go_ret
    exact ⟨rfl, S8.out.below⟩
  exact absurd ⟨few_nat FWa.out, few_nat FWb.out, few_nat FWc.out⟩ HNO.out

end Go.Proofs.YtbbjogkapcakpaaGreatDoor.Bi
