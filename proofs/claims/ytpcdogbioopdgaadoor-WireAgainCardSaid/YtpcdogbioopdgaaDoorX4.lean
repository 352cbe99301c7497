/- For every string and every int the law WireAgain returns true and leaves its arguments as they were. Conditions: the listed package-level variables of the library start as the program's text lays them (tied by the card). -/
import Derived.Test.YtpcdogbioopdgaaDoorE
import Derived.Test.YtpcdogbioopdgaaDoorG
namespace Go.Proofs.YtpcdogbioopdgaaDoor
open Go.RowKit Go.WideShapes Go.ChangeShapes
open Go.ChangeMaps (open_string shut_string)

theorem wireAgain_walk (l : List UInt8) (what : Int) (hw : -9223372036854775808 ≤ what ∧ what ≤ 9223372036854775807) (hl : l.length ≤ 9223372036854775807) (w : World) (he : Env w) :
    Calls Tryd.prog 6 #[.string ⟨l.toArray⟩, .int .i64 what] w (Gives (.bool true) w) := by
  by_cases h : l.length ≤ 400
  · have hb := kindOf_bd what
    by_cases h0 : kindOf what = 0
    · exact again_0 l what hw h0 w he h
    by_cases h1 : kindOf what = 1
    · exact again_1 l what hw h1 w he h
    by_cases h2 : kindOf what = 2
    · exact again_2 l what hw h2 w he h
    by_cases h3 : kindOf what = 3
    · exact again_3 l what hw h3 w he h
    · exact again_4 l what hw (by omega) w he h
  · exact again_long l what w he (by omega) hl

theorem wireAgain_reads (os : Os) {H : Type} (enc : TypeId × Value → H) : ∃ places, DataW.whole enc Tryd.prog ((laidWorld os).forCall (fun _ _ => 0) ⟨#[], #[.string ⟨#[]⟩, .int .i64 0], []⟩).memory Tryd.f6.params.toList Rows.wireAgainSpec.vars false #[Value.string ⟨#[]⟩, .int .i64 0].toList 8 = some ([.lit (.string []), .lit (.int .i64 0)], [], places) :=
  ⟨[], by kernel_rfl⟩

set_option maxRecDepth 100000 in
theorem wireAgain_lifted (os : Os) (started : os.Started) (H : Type) (enc : TypeId × Value → H) (F : Stop.Interp) :
    ReturnsInHanded {} Tryd.checked os 6 .any ((OpenSpec.ofChange Rows.wireAgainSpec).preRow enc Tryd.prog Tryd.f6 Rows.wireAgainRow.domain false Rows.wireAgainRow.laid) (((OpenSpec.ofChange Rows.wireAgainSpec).at F).post enc Tryd.prog Tryd.f6 false true false false) := by
  obtain ⟨places, hx⟩ := wireAgain_reads os enc
  refine returnsInHanded_of_row (C := Tryd.checked) (s := OpenSpec.ofChange Rows.wireAgainSpec) own started (by kernel_rfl) Tryd.func6
    (witness_row_atRef (enc := enc) (C := Tryd.checked) false (laidWorld os) #[.string ⟨#[]⟩, .int .i64 0] rfl (by kernel_rfl) (by kernel_rfl) (by kernel_rfl)
      (OpenSpec.preRow_of_cond 8 hx (by kernel_rfl) (fun k hk => by cases hk) (by kernel_rfl) (laid_met os _))) ?_
  intro W base args ds gs before hval0 hW _ _ _ hL hsh _
  have hval : ∀ (j : Nat) t v, Tryd.f6.params[j]? = some t → args[j]? = some v → Value.okWide Tryd.prog W .any base t v := hval0
  have hW' := hW
  obtain ⟨p, q, hA0, hV, rfl, hfz, hnd⟩ := hW
  have hA : DataW.TrodAll enc Tryd.prog W 0 (fun _ => true) true Tryd.f6.params.toList args.toList ds p := hA0
  rw [Tryd.params6] at hA hval
  obtain ⟨v0, vs0, d0, ds0, p0, q0, hargs, rfl, rfl, h0, r0⟩ := trodAll_cons hA
  obtain ⟨v1, vs1, d1, ds1, p1, q1, rfl, rfl, rfl, h1, r1⟩ := trodAll_cons r0
  obtain ⟨rfl, rfl, rfl⟩ := trodAll_nil r1
  obtain rfl : args = #[v0, v1] := by cases args; simp_all
  obtain ⟨rfl, rfl⟩ := trodVars_none hV
  obtain ⟨s, rfl, rfl, rfl, hs⟩ := open_string Tryd.underlying9 (hval 0 9 v0 rfl rfl) h0
  obtain ⟨n, rfl, rfl, rfl, wn⟩ := open_int Tryd.underlying3 (hval 1 3 v1 rfl rfl) h1
  have hn : -9223372036854775808 ≤ n ∧ n ≤ 9223372036854775807 := by
    have h := wn; simp [Lit.wf] at h; exact ⟨h.1, h.2⟩
  refine (wireAgain_walk s.data.toList n hn (by unfold maxLen at hs; exact hs) W (env_of hL hsh)).mono fun e W' ⟨he, hb⟩ => ?_
  subst he
  exact ⟨_, rfl, law_post (by kernel_rfl) (by kernel_rfl) hW' rfl (by kernel_rfl) Tryd.underlying4 rfl hb⟩

theorem wireAgain_said : Rows.WireAgainSaid :=
  OpenClaim.holds_of_cond 6 Tryd.f6 rfl rfl rfl rfl rfl rfl rfl ⟨rfl, rfl, rfl, rfl, rfl⟩ rfl rfl rfl rfl rfl (by kernel_rfl) Tryd.func6 (by kernel_rfl)
    (of_decide_eq_true (by kernel_rfl)) (by unfold Func.isWrapper; first | (rw [if_pos (by decide +kernel)]; kernel_rfl) | (rw [if_neg (by decide +kernel)]; exact ⟨rfl, rfl⟩))
    (fun os started H enc _ F => by rw [OpenClaim.pre_eq_preRow]; exact wireAgain_lifted os started H enc F)

theorem wireAgain_plain (f : FuncId) (fn : Func) (hf : Tryd.pinned.checked.prog.funcNamed "kitbag/kitbaglaw01.WireAgain" = some f) (hfn : Tryd.pinned.checked.prog.funcs[f]? = some fn) :
    true = Tryd.pinned.checked.prog.looks [] ∧ ∀ (j : Nat) t, fn.params[j]? = some t → Tryd.pinned.checked.prog.wantsStandIn t = false := by
  obtain rfl : f = 6 := Option.some.inj ((show Tryd.prog.funcNamed "kitbag/kitbaglaw01.WireAgain" = some 6 by kernel_rfl).symm.trans hf) |>.symm
  obtain rfl : fn = Tryd.f6 := (Option.some.inj (Tryd.func6.symm.trans hfn)).symm
  refine ⟨by kernel_rfl, fun j t ht => ?_⟩
  rw [Tryd.params6] at ht
  have hm : t ∈ #[9, 3] := Array.mem_of_getElem? ht
  have hm' : t = 9 ∨ t = 3 := by simpa using hm
  rcases hm' with rfl | rfl
  · exact (show Tryd.prog.wantsStandIn 9 = false by kernel_rfl)
  · exact (show Tryd.prog.wantsStandIn 3 = false by kernel_rfl)

theorem wireAgain_card : Rows.WireAgainCardSaid :=
  Claim7.holds_tied_plain_at .later [] _ _ _ _ wireAgain_said (fun _ h => by cases h) (by kernel_rfl) (fun _ h => by cases h) wireAgain_row_tie rfl ⟨rfl, rfl⟩ (by kernel_rfl) rfl wireAgain_plain (by kernel_rfl)
end Go.Proofs.YtpcdogbioopdgaaDoor
