/- For all certificates, recalls, scales, readings, days, every recall and every certificate the law ScaleRecalls returns true and leaves its arguments as they were. Conditions: none. -/
import Derived.Test.YtmhjejnkphdjpaaPB28
import Derived.OrdersHeld
import Derived.Test.YtmhjejnkphdjpaaPB29
import Derived.Test.YtmhjejnkphdjpaaLaw
import Derived.Test.YtmhjejnkphdjpaaRows
import Derived.ProofKit
import Derived.Test.YtmhjejnkphdjpaaQSl5
namespace Go.Proofs.Ytmhjejnkphdjpaa
open Go.RowKit Go.WideShapes Go.ChangeShapes

theorem own : ownKnob Try.prog.godebug = none := by kernel_rfl
theorem scaleRecalls_reads (os : Os) {H : Type} (enc : TypeId × Value → H) : ∃ places, DataW.whole enc Try.prog ((World.holding Try.prog os ⟨#[], #[], []⟩).forCall (fun _ _ => 0) ⟨#[], #[.slice none 0 0, .slice none 0 0, .int .i64 0, .int .i64 0, .int .i64 0, .agg #[.int .i64 0, .int .i64 0], .agg #[.int .i64 0, .int .i64 0, .int .i64 0, .int .i64 0, .int .i64 0, .int .i64 0]], []⟩).memory Try.f7.params.toList Rows.scaleRecallsSpec.vars false (#[.slice none 0 0, .slice none 0 0, .int .i64 0, .int .i64 0, .int .i64 0, .agg #[.int .i64 0, .int .i64 0], .agg #[.int .i64 0, .int .i64 0, .int .i64 0, .int .i64 0, .int .i64 0, .int .i64 0]] : Array Value).toList 8 = some ([.nil, .nil, .lit (.int .i64 0), .lit (.int .i64 0), .lit (.int .i64 0), .agg [.lit (.int .i64 0), .lit (.int .i64 0)], .agg [.lit (.int .i64 0), .lit (.int .i64 0), .lit (.int .i64 0), .lit (.int .i64 0), .lit (.int .i64 0), .lit (.int .i64 0)]], [], places) :=
  ⟨[], by kernel_rfl⟩

set_option maxRecDepth 100000 in
theorem scaleRecalls_lifted (os : Os) (started : os.Started) (H : Type) (enc : TypeId × Value → H) (F : Stop.Interp) :
    ReturnsInHanded {} Try.checked os 7 .any ((OpenSpec.ofChange Rows.scaleRecallsSpec).preRow enc Try.prog Try.f7 Rows.scaleRecallsRow.domain false Rows.scaleRecallsRow.laid) (((OpenSpec.ofChange Rows.scaleRecallsSpec).at F).post enc Try.prog Try.f7 false true false false) := by
  obtain ⟨places, hx⟩ := scaleRecalls_reads os enc
  refine returnsInHanded_of_row (C := Try.checked) (s := OpenSpec.ofChange Rows.scaleRecallsSpec) own started (by kernel_rfl) Try.func7
    (witness_row_atRef (enc := enc) (C := Try.checked) false (World.holding Try.prog os ⟨#[], #[], []⟩) #[.slice none 0 0, .slice none 0 0, .int .i64 0, .int .i64 0, .int .i64 0, .agg #[.int .i64 0, .int .i64 0], .agg #[.int .i64 0, .int .i64 0, .int .i64 0, .int .i64 0, .int .i64 0, .int .i64 0]] rfl (by kernel_rfl) (by kernel_rfl) (by kernel_rfl)
      (OpenSpec.preRow_of_cond 8 hx (by kernel_rfl) (fun k hk => by cases hk) (by kernel_rfl) ⟨[], rfl, List.nodup_nil, fun b off h => by cases h⟩)) ?_
  intro W base args ds gs before hval0 hW _ _ hreach hL hsh _
  have hval : ∀ (j : Nat) t v, Try.f7.params[j]? = some t → args[j]? = some v → Value.okWide Try.prog W .any base t v := hval0
  have hW' := hW
  obtain ⟨p, q, hA0, hV, rfl, hfz, hnd⟩ := hW
  have hA : DataW.TrodAll enc Try.prog W 0 (fun _ => true) true Try.f7.params.toList args.toList ds p := hA0
  rw [Try.params7] at hA hval
  obtain ⟨v0, vs0, d0, ds0, p0, q0, hargs, rfl, rfl, h0, r0⟩ := trodAll_cons hA
  obtain ⟨v1, vs1, d1, ds1, p1, q1, rfl, rfl, rfl, h1, r1⟩ := trodAll_cons r0
  obtain ⟨v2, vs2, d2, ds2, p2, q2, rfl, rfl, rfl, h2, r2⟩ := trodAll_cons r1
  obtain ⟨v3, vs3, d3, ds3, p3, q3, rfl, rfl, rfl, h3, r3⟩ := trodAll_cons r2
  obtain ⟨v4, vs4, d4, ds4, p4, q4, rfl, rfl, rfl, h4, r4⟩ := trodAll_cons r3
  obtain ⟨v5, vs5, d5, ds5, p5, q5, rfl, rfl, rfl, h5, r5⟩ := trodAll_cons r4
  obtain ⟨v6, vs6, d6, ds6, p6, q6, rfl, rfl, rfl, h6, r6⟩ := trodAll_cons r5
  obtain ⟨rfl, rfl, rfl⟩ := trodAll_nil r6
  obtain rfl : args = #[v0, v1, v2, v3, v4, v5, v6] := by cases args; simp_all
  obtain ⟨rfl, rfl⟩ := trodVars_none hV
  obtain ⟨ad0, len0, cap0, rfl⟩ := okWide_slice Try.underlying22 (hval 0 22 v0 rfl rfl)
  obtain ⟨fu0, hf0⟩ := h0
  obtain ⟨a', L0, cap', hcs, L0m, L0c⟩ := Sc.read_certs hf0
  have hcs' : ad0 = a' ∧ len0 = L0.length ∧ cap0 = cap' := by simpa [Value.cells] using hcs
  obtain ⟨rfl, rfl, rfl⟩ := hcs'
  obtain ⟨ad1, len1, cap1, rfl⟩ := okWide_slice Try.underlying23 (hval 1 23 v1 rfl rfl)
  obtain ⟨fu1, hf1⟩ := h1
  obtain ⟨a', L1, cap', hcs, L1m, L1c⟩ := Sc.read_recalls hf1
  have hcs' : ad1 = a' ∧ len1 = L1.length ∧ cap1 = cap' := by simpa [Value.cells] using hcs
  obtain ⟨rfl, rfl, rfl⟩ := hcs'
  obtain ⟨z2, rfl, rfl, rfl, hz2⟩ := open_int Try.underlying3 (hval 2 3 v2 rfl rfl) h2
  obtain ⟨z3, rfl, rfl, rfl, hz3⟩ := open_int Try.underlying3 (hval 3 3 v3 rfl rfl) h3
  obtain ⟨z4, rfl, rfl, rfl, hz4⟩ := open_int Try.underlying3 (hval 4 3 v4 rfl rfl) h4
  obtain ⟨x5, rfl, hs5⟩ := okWide_struct Try.underlying52 (hval 5 52 v5 rfl rfl)
  obtain ⟨fu5, hf5⟩ := h5
  obtain ⟨f5, hcs5, _⟩ := Sc.read_recall hf5
  obtain rfl : x5 = #[.int .i64 (f5 0), .int .i64 (f5 1)] := by apply Array.toList_inj.1; simpa [Value.cells, List.range_succ] using hcs5
  obtain ⟨x6, rfl, hs6⟩ := okWide_struct Try.underlying25 (hval 6 25 v6 rfl rfl)
  obtain ⟨fu6, hf6⟩ := h6
  obtain ⟨f6, hcs6, _⟩ := Sc.read_cert hf6
  obtain rfl : x6 = #[.int .i64 (f6 0), .int .i64 (f6 1), .int .i64 (f6 2), .int .i64 (f6 3), .int .i64 (f6 4), .int .i64 (f6 5)] := by apply Array.toList_inj.1; simpa [Value.cells, List.range_succ] using hcs6
  have walk : Calls Try.prog 7 #[.slice ad0 L0.length cap0, .slice ad1 L1.length cap1, .int .i64 z2, .int .i64 z3, .int .i64 z4, .agg #[.int .i64 (f5 0), .int .i64 (f5 1)], .agg #[.int .i64 (f6 0), .int .i64 (f6 1), .int .i64 (f6 2), .int .i64 (f6 3), .int .i64 (f6 4), .int .i64 (f6 5)]] W fun e W' => e = .returned (.bool true) ∧ RowKit.Below W.heap.size W W' :=
    Sc.recalls_all (x1 := f5 0) (x2 := f5 1) (c := Sc.ctOf f6) (fun _ => L0c) rfl L0m (fun _ => L1c) rfl L1m
  refine walk.mono fun e W' ⟨he, hb⟩ => ?_
  subst he
  exact ⟨_, rfl, law_post (by kernel_rfl) (by kernel_rfl) hW' rfl (by kernel_rfl) Try.underlying4 rfl hb⟩

theorem scaleRecalls_said : Rows.ScaleRecallsSaid :=
  OpenClaim.holds_of_cond 7 Try.f7 rfl rfl rfl rfl rfl rfl rfl ⟨rfl, rfl, rfl, rfl, rfl⟩ rfl rfl rfl rfl rfl (by kernel_rfl) Try.func7 (by kernel_rfl)
    (of_decide_eq_true (by kernel_rfl)) (by unfold Func.isWrapper; first | (rw [if_pos (by decide +kernel)]; kernel_rfl) | (rw [if_neg (by decide +kernel)]; exact ⟨rfl, rfl⟩))
    (fun os started H enc _ F => by rw [OpenClaim.pre_eq_preRow]; exact scaleRecalls_lifted os started H enc F)
end Go.Proofs.Ytmhjejnkphdjpaa
