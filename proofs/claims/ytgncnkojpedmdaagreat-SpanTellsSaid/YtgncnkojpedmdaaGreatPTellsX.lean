/- For all two spans and every fraction the law SpanTells returns true and leaves its arguments as they were. Conditions: none. -/
import Derived.Test.YtgncnkojpedmdaaGreatPTells25
import Derived.Test.YtgncnkojpedmdaaGreatPTells26
import Derived.Test.YtgncnkojpedmdaaGreatLaw
import Derived.Test.YtgncnkojpedmdaaGreatRows
import Derived.ProofKit
namespace Go.Proofs.YtgncnkojpedmdaaGreat
open Go.RowKit Go.WideShapes Go.ChangeShapes

theorem own : ownKnob Tryz.prog.godebug = none := by kernel_rfl
theorem spanTells_reads (os : Os) {H : Type} (enc : TypeId × Value → H) : ∃ places, DataW.whole enc Tryz.prog ((World.holding Tryz.prog os ⟨#[], #[], []⟩).forCall (fun _ _ => 0) ⟨#[], #[.agg #[.int .i64 0, .slice none 0 0, .int .i64 0, .slice none 0 0, .int .i64 0, .slice none 0 0, .int .i64 0, .slice none 0 0], .agg #[.int .i64 0, .slice none 0 0, .int .i64 0, .slice none 0 0, .int .i64 0, .slice none 0 0, .int .i64 0, .slice none 0 0], .agg #[.int .i64 0, .slice none 0 0, .int .i64 0, .slice none 0 0]], []⟩).memory Tryz.f3.params.toList Rows.spanTellsSpec.vars false (#[.agg #[.int .i64 0, .slice none 0 0, .int .i64 0, .slice none 0 0, .int .i64 0, .slice none 0 0, .int .i64 0, .slice none 0 0], .agg #[.int .i64 0, .slice none 0 0, .int .i64 0, .slice none 0 0, .int .i64 0, .slice none 0 0, .int .i64 0, .slice none 0 0], .agg #[.int .i64 0, .slice none 0 0, .int .i64 0, .slice none 0 0]] : Array Value).toList 8 = some ([.agg [.agg [.agg [.lit (.int .i64 0), .nil], .agg [.lit (.int .i64 0), .nil]], .agg [.agg [.lit (.int .i64 0), .nil], .agg [.lit (.int .i64 0), .nil]]], .agg [.agg [.agg [.lit (.int .i64 0), .nil], .agg [.lit (.int .i64 0), .nil]], .agg [.agg [.lit (.int .i64 0), .nil], .agg [.lit (.int .i64 0), .nil]]], .agg [.agg [.lit (.int .i64 0), .nil], .agg [.lit (.int .i64 0), .nil]]], [], places) :=
  ⟨[], by kernel_rfl⟩

set_option maxRecDepth 100000 in
theorem spanTells_lifted (os : Os) (started : os.Started) (H : Type) (enc : TypeId × Value → H) (F : Stop.Interp) :
    ReturnsInHanded {} Tryz.checked os 3 .any ((OpenSpec.ofChange Rows.spanTellsSpec).preRow enc Tryz.prog Tryz.f3 Rows.spanTellsRow.domain false Rows.spanTellsRow.laid) (((OpenSpec.ofChange Rows.spanTellsSpec).at F).post enc Tryz.prog Tryz.f3 false true false false) := by
  obtain ⟨places, hx⟩ := spanTells_reads os enc
  refine returnsInHanded_of_row (C := Tryz.checked) (s := OpenSpec.ofChange Rows.spanTellsSpec) own started (by kernel_rfl) Tryz.func3
    (witness_row_atRef (enc := enc) (C := Tryz.checked) false (World.holding Tryz.prog os ⟨#[], #[], []⟩) #[.agg #[.int .i64 0, .slice none 0 0, .int .i64 0, .slice none 0 0, .int .i64 0, .slice none 0 0, .int .i64 0, .slice none 0 0], .agg #[.int .i64 0, .slice none 0 0, .int .i64 0, .slice none 0 0, .int .i64 0, .slice none 0 0, .int .i64 0, .slice none 0 0], .agg #[.int .i64 0, .slice none 0 0, .int .i64 0, .slice none 0 0]] rfl (by kernel_rfl) (by kernel_rfl) (by kernel_rfl)
      (OpenSpec.preRow_of_cond 8 hx (by kernel_rfl) (fun k hk => by cases hk) (by kernel_rfl) ⟨[], rfl, List.nodup_nil, fun b off h => by cases h⟩)) ?_
  intro W base args ds gs before hval0 hW _ _ hreach hL hsh _
  have hval : ∀ (j : Nat) t v, Tryz.f3.params[j]? = some t → args[j]? = some v → Value.okWide Tryz.prog W .any base t v := hval0
  have hW' := hW
  obtain ⟨p, q, hA0, hV, rfl, hfz, hnd⟩ := hW
  have hA : DataW.TrodAll enc Tryz.prog W 0 (fun _ => true) true Tryz.f3.params.toList args.toList ds p := hA0
  rw [Tryz.params3] at hA hval
  obtain ⟨v0, vs0, d0, ds0, p0, q0, hargs, rfl, rfl, h0, r0⟩ := trodAll_cons hA
  obtain ⟨v1, vs1, d1, ds1, p1, q1, rfl, rfl, rfl, h1, r1⟩ := trodAll_cons r0
  obtain ⟨v2, vs2, d2, ds2, p2, q2, rfl, rfl, rfl, h2, r2⟩ := trodAll_cons r1
  obtain ⟨rfl, rfl, rfl⟩ := trodAll_nil r2
  obtain rfl : args = #[v0, v1, v2] := by cases args; simp_all
  obtain ⟨rfl, rfl⟩ := trodVars_none hV
  obtain ⟨x0, rfl, hs0⟩ := okWide_struct Tryz.underlying28 (hval 0 28 v0 rfl rfl)
  obtain ⟨fu0, hf0⟩ := h0
  obtain ⟨s1, a1, l1, c1, t1, b1, k1, d1, s2, a2, l2, c2, t2, b2, k2, d2, hcs0, ⟨y1, i1, z1, j1⟩, y2, i2, z2, j2⟩ := Sp.read_spanS hf0
  obtain rfl : x0 = #[.int .i64 s1, .slice a1 l1.length c1, .int .i64 t1, .slice b1 k1.length d1, .int .i64 s2, .slice a2 l2.length c2, .int .i64 t2, .slice b2 k2.length d2] := by apply Array.toList_inj.1; simpa [Value.cells] using hcs0
  obtain ⟨x1, rfl, hs1⟩ := okWide_struct Tryz.underlying28 (hval 1 28 v1 rfl rfl)
  obtain ⟨fu1, hf1⟩ := h1
  obtain ⟨s3, a3, l3, c3, t3, b3, k3, d3, s4, a4, l4, c4, t4, b4, k4, d4, hcs1, ⟨y3, i3, z3, j3⟩, y4, i4, z4, j4⟩ := Sp.read_spanS hf1
  obtain rfl : x1 = #[.int .i64 s3, .slice a3 l3.length c3, .int .i64 t3, .slice b3 k3.length d3, .int .i64 s4, .slice a4 l4.length c4, .int .i64 t4, .slice b4 k4.length d4] := by apply Array.toList_inj.1; simpa [Value.cells] using hcs1
  obtain ⟨x2, rfl, hs2⟩ := okWide_struct Tryz.underlying26 (hval 2 26 v2 rfl rfl)
  obtain ⟨fu2, hf2⟩ := h2
  obtain ⟨s5, a5, l5, c5, t5, b5, k5, d5, hcs2, y5, i5, z5, j5⟩ := Sp.read_fracS hf2
  obtain rfl : x2 = #[.int .i64 s5, .slice a5 l5.length c5, .int .i64 t5, .slice b5 k5.length d5] := by apply Array.toList_inj.1; simpa [Value.cells] using hcs2
  have walk : Calls Tryz.prog 3 #[.agg #[.int .i64 s1, .slice a1 l1.length c1, .int .i64 t1, .slice b1 k1.length d1, .int .i64 s2, .slice a2 l2.length c2, .int .i64 t2, .slice b2 k2.length d2], .agg #[.int .i64 s3, .slice a3 l3.length c3, .int .i64 t3, .slice b3 k3.length d3, .int .i64 s4, .slice a4 l4.length c4, .int .i64 t4, .slice b4 k4.length d4], .agg #[.int .i64 s5, .slice a5 l5.length c5, .int .i64 t5, .slice b5 k5.length d5]] W fun e W' => e = .returned (.bool true) ∧ RowKit.Below W.heap.size W W' :=
    Sp.tells_all y1 z1 i1 j1 y2 z2 i2 j2 y3 z3 i3 j3 y4 z4 i4 j4 y5 z5 i5 j5
  refine walk.mono fun e W' ⟨he, hb⟩ => ?_
  subst he
  exact ⟨_, rfl, law_post (by kernel_rfl) (by kernel_rfl) hW' rfl (by kernel_rfl) Tryz.underlying4 rfl hb⟩

theorem spanTells_said : Rows.SpanTellsSaid :=
  OpenClaim.holds_of_cond 3 Tryz.f3 rfl rfl rfl rfl rfl rfl rfl ⟨rfl, rfl, rfl, rfl, rfl⟩ rfl rfl rfl rfl rfl (by kernel_rfl) Tryz.func3 (by kernel_rfl)
    (of_decide_eq_true (by kernel_rfl)) (by unfold Func.isWrapper; first | (rw [if_pos (by decide +kernel)]; kernel_rfl) | (rw [if_neg (by decide +kernel)]; exact ⟨rfl, rfl⟩))
    (fun os started H enc _ F => by rw [OpenClaim.pre_eq_preRow]; exact spanTells_lifted os started H enc F)
end Go.Proofs.YtgncnkojpedmdaaGreat
