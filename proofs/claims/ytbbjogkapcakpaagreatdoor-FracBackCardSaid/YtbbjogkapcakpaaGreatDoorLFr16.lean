/- Texts, for FracBack. -/
import Derived.Test.YtbbjogkapcakpaaGreatDoorM14
set_option maxRecDepth 100000
namespace Go.Proofs.YtbbjogkapcakpaaGreatDoor.Bi
open Go.RowKit

set_option maxHeartbeats 1000000 in
theorem ftext_bad (sp : Int) (ap : Option Addr) (np cp : Nat) (lp : List Int) (sq : Int) (aq : Option Addr) (nq cq : Nat) (lq : List Int) (w : World) (hp : Ints w (.slice ap np cp) lp) (hq : Ints w (.slice aq nq cq) lq) (llp : lp.length ≤ 100000) (llq : lq.length ≤ 100000) (hr : fRightB sp lp sq lq = false) :
    Calls Tryz.prog 40 #[.agg #[.int .i64 sp, .slice ap np cp, .int .i64 sq, .slice aq nq cq]] w fun e w' => e = .returned (.string ⟨#[]⟩) ∧ RowKit.Below w.heap.size w w' := by
  have HP := Lib.hid hp
  have HQ := Lib.hid hq
  have HLP := Lib.hid llp
  have HLQ := Lib.hid llq
  have HR := Lib.hid hr
  have S0 := Lib.hid ((Sf.start w).put [.int .i64 sp, .slice ap np cp, .int .i64 sq, .slice aq nq cq] 26)
  clear hp hq llp llq hr
  go_enter Tryz.func40, Tryz.ntmps40
  go_wp2_with fail
  refine (fright_any sp ap np cp lp sq aq nq cq lq _ (HP.out.later S0.out.below) (HQ.out.later S0.out.below) HLP.out HLQ.out false HR.out).mono ?_
  rintro e w1 ⟨rfl, hb⟩
  have S1 := Lib.hid (S0.out.later hb)
  clear hb S0
  go_wp2_with fail
  go_ret
  exact ⟨rfl, S1.out.below⟩
theorem ftext_s {w : World} {sa : Int} {aa ba : Option Addr} {na ca ma da : Nat} {a : Rat} (ha : Fr w sa (.slice aa na ca) (.slice ba ma da) a) (La : FSz 1000 a) (he : Env w) {s : ByteArray} (h : fTextL a = s.data.toList) :
    Calls Tryz.prog 40 #[.agg #[.int .i64 sa, .slice aa na ca, .int .i64 1, .slice ba ma da]] w fun e w' => e = .returned (.string s) ∧ RowKit.Below w.heap.size w w' := by
  have := ftext_k ha La he
  rw [h] at this
  exact this
theorem ftext_sz {r : Rat} {n : Nat} (h : (fTextL r).length ≤ n) : FSz n r := by
  have h1 := Sz.readL (read_itoa r.num)
  have h2 := Sz.readL (read_itoa (r.den : Int))
  unfold fTextL at h
  rw [List.length_append, List.length_cons] at h
  exact ⟨Sz.mono h1 (by omega), Sz.mono h2 (by omega)⟩
theorem rfsame_zz (w : World) : Calls Tryz.prog 14 #[.agg #[.int .i64 0, .slice none 0 0, .int .i64 0, .slice none 0 0], .agg #[.int .i64 0, .slice none 0 0, .int .i64 0, .slice none 0 0]] w fun e w' => e = .returned (.bool true) ∧ RowKit.Below w.heap.size w w' :=
  rfsame_raw 0 none 0 0 [] 0 none 0 0 [] 0 none 0 0 [] 0 none 0 0 [] w (Ints.nil _) (Ints.nil _) (Ints.nil _) (Ints.nil _)
theorem times_self (r : Rat) {n : Int} (h : n ≠ 0) : Rat.divInt (r.num * n) ((r.den : Int) * n) = r := by
  rw [Rat.divInt_mul_right h]; exact rat_self r
end Go.Proofs.YtbbjogkapcakpaaGreatDoor.Bi
