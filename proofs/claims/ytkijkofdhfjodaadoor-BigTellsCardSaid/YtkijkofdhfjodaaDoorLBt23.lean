/- BigTells, an argument too long. WRITTEN by big/gen_tells.py. -/
import Derived.Test.YtkijkofdhfjodaaDoorLBt22
set_option maxRecDepth 100000
namespace Go.Proofs.YtkijkofdhfjodaaDoor.Bi
open Go.RowKit

set_option maxHeartbeats 4000000 in
theorem BigTells_long (sa : Int) (aa : Option Addr) (na ca : Nat) (sb : Int) (ab : Option Addr) (nb cb : Nat) (n : Int) (s : ByteArray) (w : World) (he : Env w) (ha : na ≤ 9223372036854775807) (hb : nb ≤ 9223372036854775807) (hno : ¬ (na ≤ 62 ∧ nb ≤ 62)) :
    Calls Tryd.prog 3 #[.agg #[.int .i64 sa, .slice aa na ca], .agg #[.int .i64 sb, .slice ab nb cb], .int .i64 n, .string s] w fun e w' => e = .returned (.bool true) ∧ RowKit.Below w.heap.size w w' := by
  have HE := Lib.hid he
  have HNO := Lib.hid hno
  have Ha := Lib.hid ha
  obtain ⟨fa, hfa⟩ : ∃ b, decide ((na : Int) ≤ 62) = b := ⟨_, rfl⟩
  have Fa := Lib.hid hfa
  clear ha hfa
  have Hb := Lib.hid hb
  obtain ⟨fb, hfb⟩ : ∃ b, decide ((nb : Int) ≤ 62) = b := ⟨_, rfl⟩
  have Fb := Lib.hid hfb
  clear hb hfb
  have S0 := Lib.hid (Sk.two w sa sb (.slice aa na ca) (.slice ab nb cb))
  clear he hno
  go_enter Tryd.func3, Tryd.ntmps3
  go_wp2_with fail
  refine (small_any _ (S0.out.env HE.out)).mono ?_
  rintro e w0 ⟨rfl, hb⟩
  have S1 := Lib.hid (S0.out.later hb)
  clear hb S0
  obtain ⟨t, u⟩ := S1.out.cells (b := w.heap.size) (sg := sa) (v := .slice aa na ca) (List.mem_cons_of_mem _ List.mem_cons_self)
  go_wp2_with fail
  clear t u
  refine (few_len sa aa na ca 62 _ Ha.out fa Fa.out).mono ?_
  rintro e w1 ⟨rfl, hb⟩
  have S2 := Lib.hid (S1.out.later hb)
  clear hb S1
  cases fa
  case false =>
    go_wp2_with fail
    go_ret
    exact ⟨rfl, S2.out.below⟩
  obtain ⟨t, u⟩ := S2.out.cells (b := w.heap.size + 1) (sg := sb) (v := .slice ab nb cb) List.mem_cons_self
  go_wp2_with fail
  clear t u
  refine (few_len sb ab nb cb 62 _ Hb.out fb Fb.out).mono ?_
  rintro e w2 ⟨rfl, hb⟩
  have S3 := Lib.hid (S2.out.later hb)
  clear hb S2
  cases fb
  case false =>
    go_wp2_with fail
    go_ret
    exact ⟨rfl, S3.out.below⟩
  exact absurd ⟨by have := Fa.out; simp at this; omega, by have := Fb.out; simp at this; omega⟩ HNO.out
end Go.Proofs.YtkijkofdhfjodaaDoor.Bi
