/- DiskSurvives: byteAt, after, and what holds after acts. -/
import Derived.Test.YtkphmkhdlkdphaaZ
import Derived.Test.YtkphmkhdlkdphaaQ4
namespace Go.Proofs.Ytkphmkhdlkdphaa
open Go.RowKit Go.ChangeShapes Go.WideShapes

theorem run_inv {st : St} (h : Inv st) (v : Ac) : Inv (v.run st) := by
  unfold Ac.run
  split
  · exact sync_inv h _
  · split
    · exact trunc_inv h _ _
    · split
      · exact h.of rfl rfl rfl
      · split
        · exact h.of rfl rfl rfl
        · split
          · exact crash_inv h _
          · split
            · exact h.of rfl rfl rfl
            · exact write_inv h _ _ _
theorem runs_inv : ∀ (l : List Ac) (st : St), Inv st → Inv (runs l st)
  | [], _, h => h
  | v :: r, st, h => runs_inv r (v.run st) (run_inv h v)

theorem byteAt_in (s : ByteArray) (k : Nat) (h : k < s.size) (_hs : s.size ≤ 16777216) (w : World) :
    Calls Try.prog 24 #[.string s, .int .i64 k] w fun e w' => e = .returned (.int .u8 ((s[k]'h).toNat : Int)) ∧ w = w' := by
  go_enter Try.func24, Try.ntmps24
  go_wp2_with fail
  go_ret
  exact ⟨rfl, rfl⟩
theorem byteAt_out (s : ByteArray) (k : Nat) (h : ¬ k < s.size) (_hs : s.size ≤ 16777216) (w : World) :
    Calls Try.prog 24 #[.string s, .int .i64 k] w fun e w' => e = .returned (.int .u8 0) ∧ w = w' := by
  go_enter Try.func24, Try.ntmps24
  go_wp2_with fail
  go_ret
  exact ⟨rfl, rfl⟩
theorem getD_ba (s : ByteArray) (k : Nat) (h : k < s.size) : s.data.toList.getD k 0 = s[k]'h := by
  have hl : k < s.data.toList.length := by rw [(Lib.size_eq s).symm]; exact h
  rw [List.getD_eq_getElem?_getD, List.getElem?_eq_getElem hl]
  rfl
theorem byteAt_any (s : ByteArray) (k : Nat) (hs : s.size ≤ 16777216) (w : World) {c : Int} (hc : ((s.data.toList.getD k 0).toNat : Int) = c) :
    Calls Try.prog 24 #[.string s, .int .i64 k] w fun e w' => e = .returned (.int .u8 c) ∧ w = w' := by
  by_cases h : k < s.size
  · rw [getD_ba s k h] at hc
    rw [← hc]
    exact byteAt_in s k h hs w
  · have hl : s.data.toList.length ≤ k := by rw [(Lib.size_eq s).symm]; omega
    rw [List.getD_eq_getElem?_getD, List.getElem?_eq_none hl] at hc
    rw [← hc]
    exact byteAt_out s k h hs w

theorem after_one {B r : Nat} {st : St} {w : World} (h : One B r st w) (f : Int) (hf : -9223372036854775808 ≤ f ∧ f ≤ 9223372036854775807) (v : Value) (ks : List Int) (hv : Ints w v ks) (hk : ks.length ≤ 1000000000 ∧ ∀ x ∈ ks, -9223372036854775808 ≤ x ∧ x ≤ 9223372036854775807)
    {s : ByteArray} (h1 : readS (start (crash st ks)) f 0 16777216 = s.data.toList) (h2 : readR (start (crash st ks)) f 0 16777216 = 0) :
    Calls Try.prog 23 #[.pointer (some ⟨r, 0, none⟩), .int .i64 f, v] w fun e w' => e = .returned (.tuple #[.string s, .bool true]) ∧ w.grownBy w' none :=
  h.see fun S p hp hd => by
    subst hp
    refine (after_any hd f hf v ks hv hk).mono ?_
    rintro e w' ⟨rfl, hg⟩
    refine ⟨?_, hg⟩
    rw [h1, h2, ba_eq]
    rfl
theorem crash_read {st : St} {f : Int} (hw : WF st) (hf : isF f = true) (ks : List Int) : readS (start (crash st ks)) f 0 16777216 = (crash st ks).now f ∧ readR (start (crash st ks)) f 0 16777216 = 0 :=
  readS_whole (start_wf (crash_wf hw ks)) rfl hf
end Go.Proofs.Ytkphmkhdlkdphaa
