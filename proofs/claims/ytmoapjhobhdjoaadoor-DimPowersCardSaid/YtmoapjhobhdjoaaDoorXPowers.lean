/- For every dimension and all two ints of 8 bits the law DimPowers returns true and leaves its arguments as they were. Conditions: the listed package-level variables start as the text of the program lays them (tied by the card). -/
import Derived.OpenShut
import Derived.Test.YtmoapjhobhdjoaaDoorDm13
import Derived.Test.YtmoapjhobhdjoaaDoorDmE
import Derived.Test.YtmoapjhobhdjoaaDoorAr1
import Derived.Test.YtmoapjhobhdjoaaDoorLaw
import Derived.Test.YtmoapjhobhdjoaaDoorTie
namespace Go.Proofs.YtmoapjhobhdjoaaDoor
open Go.RowKit Go.WideShapes Go.ChangeShapes
open Dm (own env_of laidWorld laid_met)
theorem Dm.dim_of (l : List Int) (h : l.length = 6) : ∃ f, (l.map (Value.int .i64)).toArray = Dm.cl f := by
  match l, h with
  | [a, b, c, d, e, g], _ => exact ⟨fun i => [a, b, c, d, e, g].getD i 0, rfl⟩

theorem dimPowers_reads (os : Os) {H : Type} (enc : TypeId × Value → H) : ∃ places, DataW.whole enc Tryd.prog ((laidWorld os).forCall (fun _ _ => 0) ⟨#[], #[.agg #[.int .i64 0, .int .i64 0, .int .i64 0, .int .i64 0, .int .i64 0, .int .i64 0], .int .i8 0, .int .i8 0], []⟩).memory Tryd.f5.params.toList Rows.dimPowersSpec.vars false (#[.agg #[.int .i64 0, .int .i64 0, .int .i64 0, .int .i64 0, .int .i64 0, .int .i64 0], .int .i8 0, .int .i8 0] : Array Value).toList 8 = some ([.agg [.lit (.int .i64 0), .lit (.int .i64 0), .lit (.int .i64 0), .lit (.int .i64 0), .lit (.int .i64 0), .lit (.int .i64 0)], .lit (.int .i8 0), .lit (.int .i8 0)], [], places) :=
  ⟨[], by kernel_rfl⟩

set_option maxRecDepth 100000 in
theorem dimPowers_lifted (os : Os) (started : os.Started) (H : Type) (enc : TypeId × Value → H) (F : Stop.Interp) :
    ReturnsInHanded {} Tryd.checked os 5 .any ((OpenSpec.ofChange Rows.dimPowersSpec).preRow enc Tryd.prog Tryd.f5 Rows.dimPowersRow.domain false Rows.dimPowersRow.laid) (((OpenSpec.ofChange Rows.dimPowersSpec).at F).post enc Tryd.prog Tryd.f5 false true false false) := by
  obtain ⟨places, hx⟩ := dimPowers_reads os enc
  refine returnsInHanded_of_row (C := Tryd.checked) (s := OpenSpec.ofChange Rows.dimPowersSpec) own started (by kernel_rfl) Tryd.func5
    (witness_row_atRef (enc := enc) (C := Tryd.checked) false (laidWorld os) #[.agg #[.int .i64 0, .int .i64 0, .int .i64 0, .int .i64 0, .int .i64 0, .int .i64 0], .int .i8 0, .int .i8 0] rfl (by kernel_rfl) (by kernel_rfl) (by kernel_rfl)
      (OpenSpec.preRow_of_cond 8 hx (by kernel_rfl) (fun k hk => by cases hk) (by kernel_rfl) (laid_met os _))) ?_
  intro W base args ds gs before hval0 hW _ _ hreach hL hsh _
  have hval : ∀ (j : Nat) t v, Tryd.f5.params[j]? = some t → args[j]? = some v → Value.okWide Tryd.prog W .any base t v := hval0
  have hW' := hW
  obtain ⟨p, q, hA0, hV, rfl, hfz, hnd⟩ := hW
  have hA : DataW.TrodAll enc Tryd.prog W 0 (fun _ => true) true Tryd.f5.params.toList args.toList ds p := hA0
  rw [Tryd.params5] at hA hval
  obtain ⟨v0, vs0, d0, ds0, p0, q0, hargs, rfl, rfl, h0, r0⟩ := trodAll_cons hA
  obtain ⟨v1, vs1, d1, ds1, p1, q1, rfl, rfl, rfl, h1, r1⟩ := trodAll_cons r0
  obtain ⟨v2, vs2, d2, ds2, p2, q2, rfl, rfl, rfl, h2, r2⟩ := trodAll_cons r1
  obtain ⟨rfl, rfl, rfl⟩ := trodAll_nil r2
  obtain rfl : args = #[v0, v1, v2] := by cases args; simp_all
  obtain ⟨rfl, rfl⟩ := trodVars_none hV
  obtain ⟨l0, rfl, hl0, rfl, _⟩ := Ar.open_ints_arr Tryd.underlying23 Tryd.underlying3 (by kernel_rfl) (by kernel_rfl) (hval 0 23 v0 rfl rfl) h0
  obtain ⟨f0, ef0⟩ := Dm.dim_of l0 hl0
  obtain ⟨z1, rfl, rfl, rfl, hz1⟩ := open_int Tryd.underlying34 (hval 1 34 v1 rfl rfl) h1
  have bz1 := bounds_i8 hz1
  obtain ⟨z2, rfl, rfl, rfl, hz2⟩ := open_int Tryd.underlying34 (hval 2 34 v2 rfl rfl) h2
  have bz2 := bounds_i8 hz2
  have walk : Calls Tryd.prog 5 #[.agg (l0.map (Value.int .i64)).toArray, .int .i8 z1, .int .i8 z2] W fun e W' => e = .returned (.bool true) ∧ RowKit.Below W.heap.size W W' := by
    rw [ef0]
    exact Dm.powersLaw_any f0 z1 z2 bz1.1 bz1.2 bz2.1 bz2.2 W (Dm.env_of hL hsh)
  refine walk.mono fun e W' ⟨he, hb⟩ => ?_
  subst he
  exact ⟨_, rfl, law_post (by kernel_rfl) (by kernel_rfl) hW' rfl (by kernel_rfl) Tryd.underlying4 rfl hb⟩

theorem dimPowers_said : Rows.DimPowersSaid :=
  OpenClaim.holds_of_cond 5 Tryd.f5 rfl rfl rfl rfl rfl rfl rfl ⟨rfl, rfl, rfl, rfl, rfl⟩ rfl rfl rfl rfl rfl (by kernel_rfl) Tryd.func5 (by kernel_rfl)
    (of_decide_eq_true (by kernel_rfl)) (by unfold Func.isWrapper; first | (rw [if_pos (by decide +kernel)]; kernel_rfl) | (rw [if_neg (by decide +kernel)]; exact ⟨rfl, rfl⟩))
    (fun os started H enc _ F => by rw [OpenClaim.pre_eq_preRow]; exact dimPowers_lifted os started H enc F)

theorem dimPowers_plain (f : FuncId) (fn : Func) (hf : Tryd.pinned.checked.prog.funcNamed "kitbag/kitbaglaw08.DimPowers" = some f) (hfn : Tryd.pinned.checked.prog.funcs[f]? = some fn) :
    true = Tryd.pinned.checked.prog.looks [] ∧ ∀ (j : Nat) t, fn.params[j]? = some t → Tryd.pinned.checked.prog.wantsStandIn t = false := by
  obtain rfl : f = 5 := Option.some.inj ((show Tryd.prog.funcNamed "kitbag/kitbaglaw08.DimPowers" = some 5 by kernel_rfl).symm.trans hf) |>.symm
  obtain rfl : fn = Tryd.f5 := (Option.some.inj (Tryd.func5.symm.trans hfn)).symm
  refine ⟨by kernel_rfl, fun j t ht => ?_⟩
  rw [Tryd.params5] at ht
  have hm : t ∈ (#[23, 34, 34] : Array TypeId) := Array.mem_of_getElem? ht
  have hm' : t = 23 ∨ t = 34 := by simpa using hm
  rcases hm' with rfl | rfl
  · exact (show Tryd.prog.wantsStandIn 23 = false by kernel_rfl)
  · exact (show Tryd.prog.wantsStandIn 34 = false by kernel_rfl)

theorem dimPowers_card : Rows.DimPowersCardSaid :=
  Claim7.holds_tied_plain_at .later [] _ _ _ _ dimPowers_said (fun _ h => by cases h) (by kernel_rfl) (fun _ h => by cases h) dimPowers_row_tie rfl ⟨rfl, rfl⟩ (by kernel_rfl) rfl dimPowers_plain (by kernel_rfl)
end Go.Proofs.YtmoapjhobhdjoaaDoor
