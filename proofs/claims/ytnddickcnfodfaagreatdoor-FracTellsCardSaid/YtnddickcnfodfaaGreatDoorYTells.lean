/- For every two fractions, two ints and every string the law FracTells returns true and leaves its arguments as they were. Conditions: the listed package-level variables of the library start as the text of the program lays them (tied by the card). -/
import Derived.Test.YtnddickcnfodfaaGreatDoorLFt8
import Derived.Test.YtnddickcnfodfaaGreatDoorM16
import Derived.Test.YtnddickcnfodfaaGreatDoorLaw
import Derived.Test.YtnddickcnfodfaaGreatDoorTie
namespace Go.Proofs.YtnddickcnfodfaaGreatDoor
open Go.RowKit Go.WideShapes Go.ChangeShapes
open Bi (own env_of laidWorld laid_met)

theorem fracTells_reads (os : Os) {H : Type} (enc : TypeId × Value → H) : ∃ places, DataW.whole enc Tryz.prog ((laidWorld os).forCall (fun _ _ => 0) ⟨#[], #[.agg #[.int .i64 0, .slice none 0 0, .int .i64 0, .slice none 0 0], .agg #[.int .i64 0, .slice none 0 0, .int .i64 0, .slice none 0 0], .int .i64 0, .int .i64 0, .string ⟨#[]⟩], []⟩).memory Tryz.f3.params.toList Rows.fracTellsSpec.vars false (#[.agg #[.int .i64 0, .slice none 0 0, .int .i64 0, .slice none 0 0], .agg #[.int .i64 0, .slice none 0 0, .int .i64 0, .slice none 0 0], .int .i64 0, .int .i64 0, .string ⟨#[]⟩] : Array Value).toList 8 = some ([.agg [.agg [.lit (.int .i64 0), .nil], .agg [.lit (.int .i64 0), .nil]], .agg [.agg [.lit (.int .i64 0), .nil], .agg [.lit (.int .i64 0), .nil]], .lit (.int .i64 0), .lit (.int .i64 0), .lit (.string [])], [], places) :=
  ⟨[], by kernel_rfl⟩

set_option maxRecDepth 100000 in
theorem fracTells_lifted (os : Os) (started : os.Started) (H : Type) (enc : TypeId × Value → H) (F : Stop.Interp) :
    ReturnsInHanded {} Tryz.checked os 3 .any ((OpenSpec.ofChange Rows.fracTellsSpec).preRow enc Tryz.prog Tryz.f3 Rows.fracTellsRow.domain false Rows.fracTellsRow.laid) (((OpenSpec.ofChange Rows.fracTellsSpec).at F).post enc Tryz.prog Tryz.f3 false true false false) := by
  obtain ⟨places, hx⟩ := fracTells_reads os enc
  refine returnsInHanded_of_row (C := Tryz.checked) (s := OpenSpec.ofChange Rows.fracTellsSpec) own started (by kernel_rfl) Tryz.func3
    (witness_row_atRef (enc := enc) (C := Tryz.checked) false (laidWorld os) #[.agg #[.int .i64 0, .slice none 0 0, .int .i64 0, .slice none 0 0], .agg #[.int .i64 0, .slice none 0 0, .int .i64 0, .slice none 0 0], .int .i64 0, .int .i64 0, .string ⟨#[]⟩] rfl (by kernel_rfl) (by kernel_rfl) (by kernel_rfl)
      (OpenSpec.preRow_of_cond 8 hx (by kernel_rfl) (fun k hk => by cases hk) (by kernel_rfl) (laid_met os _))) ?_
  intro W base args ds gs before hval0 hW _ _ hreach hL hsh _
  have hval : ∀ (j : Nat) t v, Tryz.f3.params[j]? = some t → args[j]? = some v → Value.okWide Tryz.prog W .any base t v := hval0
  have hW' := hW
  obtain ⟨p, q, hA0, hV, rfl, hfz, hnd⟩ := hW
  have hA : DataW.TrodAll enc Tryz.prog W 0 (fun _ => true) true Tryz.f3.params.toList args.toList ds p := hA0
  rw [Tryz.params3] at hA hval
  obtain ⟨v0, vs0, d0, ds0, p0, q0, hargs, rfl, rfl, h0, r0⟩ := trodAll_cons hA
  obtain ⟨v1, vs1, d1, ds1, p1, q1, rfl, rfl, rfl, h1, r1⟩ := trodAll_cons r0
  obtain ⟨v2, vs2, d2, ds2, p2, q2, rfl, rfl, rfl, h2, r2⟩ := trodAll_cons r1
  obtain ⟨v3, vs3, d3, ds3, p3, q3, rfl, rfl, rfl, h3, r3⟩ := trodAll_cons r2
  obtain ⟨v4, vs4, d4, ds4, p4, q4, rfl, rfl, rfl, h4, r4⟩ := trodAll_cons r3
  obtain ⟨rfl, rfl, rfl⟩ := trodAll_nil r4
  obtain rfl : args = #[v0, v1, v2, v3, v4] := by cases args; simp_all
  obtain ⟨rfl, rfl⟩ := trodVars_none hV
  obtain ⟨x0, rfl, hs0⟩ := okWide_struct Tryz.underlying26 (hval 0 26 v0 rfl rfl)
  obtain ⟨fu0, hf0⟩ := h0
  obtain ⟨s0, a0, l0, c0, t0, b0, k0, d0, hcs0, m0, i0, o0, j0⟩ := Bi.read_frac hf0
  obtain rfl : x0 = #[.int .i64 s0, .slice a0 l0.length c0, .int .i64 t0, .slice b0 k0.length d0] := by apply Array.toList_inj.1; simpa [Value.cells] using hcs0
  obtain ⟨x1, rfl, hs1⟩ := okWide_struct Tryz.underlying26 (hval 1 26 v1 rfl rfl)
  obtain ⟨fu1, hf1⟩ := h1
  obtain ⟨s1, a1, l1, c1, t1, b1, k1, d1, hcs1, m1, i1, o1, j1⟩ := Bi.read_frac hf1
  obtain rfl : x1 = #[.int .i64 s1, .slice a1 l1.length c1, .int .i64 t1, .slice b1 k1.length d1] := by apply Array.toList_inj.1; simpa [Value.cells] using hcs1
  obtain ⟨i2, rfl, rfl, rfl, hi2⟩ := open_int Tryz.underlying3 (hval 2 3 v2 rfl rfl) h2
  have hi2' := Bi.wf64 hi2
  obtain ⟨i3, rfl, rfl, rfl, hi3⟩ := open_int Tryz.underlying3 (hval 3 3 v3 rfl rfl) h3
  have hi3' := Bi.wf64 hi3
  obtain ⟨z4, rfl, rfl, rfl, hz4⟩ := Go.ChangeMaps.open_string Tryz.underlying9 (hval 4 9 v4 rfl rfl) h4
  rw [Bi.maxLen_eq] at hz4
  have walk : Calls Tryz.prog 3 #[.agg #[.int .i64 s0, .slice a0 l0.length c0, .int .i64 t0, .slice b0 k0.length d0], .agg #[.int .i64 s1, .slice a1 l1.length c1, .int .i64 t1, .slice b1 k1.length d1], .int .i64 i2, .int .i64 i3, .string z4] W fun e W' => e = .returned (.bool true) ∧ RowKit.Below W.heap.size W W' := by
    by_cases hq : (l0.length ≤ 40 ∧ k0.length ≤ 40) ∧ (l1.length ≤ 40 ∧ k1.length ≤ 40)
    · exact Bi.FracTells_any s0 a0 l0.length c0 l0 t0 b0 k0.length d0 k0 s1 a1 l1.length c1 l1 t1 b1 k1.length d1 k1 i2 i3 z4 W (Bi.envF_of hL hsh) (i0 (by omega)) (j0 (by omega)) (i1 (by omega)) (j1 (by omega)) hi2' hi3' hz4
    · exact Bi.FracTells_long s0 a0 l0.length c0 t0 b0 k0.length d0 s1 a1 l1.length c1 t1 b1 k1.length d1 i2 i3 z4 W (Bi.envF_of hL hsh) m0 o0 m1 o1 hz4 hq
  refine walk.mono fun e W' ⟨he, hb⟩ => ?_
  subst he
  exact ⟨_, rfl, law_post (by kernel_rfl) (by kernel_rfl) hW' rfl (by kernel_rfl) Tryz.underlying4 rfl hb⟩

theorem fracTells_said : Rows.FracTellsSaid :=
  OpenClaim.holds_of_cond 3 Tryz.f3 rfl rfl rfl rfl rfl rfl rfl ⟨rfl, rfl, rfl, rfl, rfl⟩ rfl rfl rfl rfl rfl (by kernel_rfl) Tryz.func3 (by kernel_rfl)
    (of_decide_eq_true (by kernel_rfl)) (by unfold Func.isWrapper; first | (rw [if_pos (by decide +kernel)]; kernel_rfl) | (rw [if_neg (by decide +kernel)]; exact ⟨rfl, rfl⟩))
    (fun os started H enc _ F => by rw [OpenClaim.pre_eq_preRow]; exact fracTells_lifted os started H enc F)

theorem fracTells_plain (f : FuncId) (fn : Func) (hf : Tryz.pinned.checked.prog.funcNamed "kitbag/kitbaglaw05.FracTells" = some f) (hfn : Tryz.pinned.checked.prog.funcs[f]? = some fn) :
    false = Tryz.pinned.checked.prog.looks [] ∧ ∀ (j : Nat) t, fn.params[j]? = some t → Tryz.pinned.checked.prog.wantsStandIn t = false := by
  obtain rfl : f = 3 := Option.some.inj ((show Tryz.prog.funcNamed "kitbag/kitbaglaw05.FracTells" = some 3 by kernel_rfl).symm.trans hf) |>.symm
  obtain rfl : fn = Tryz.f3 := (Option.some.inj (Tryz.func3.symm.trans hfn)).symm
  refine ⟨by kernel_rfl, fun j t ht => ?_⟩
  rw [Tryz.params3] at ht
  have hm : t ∈ (#[26, 26, 3, 3, 9] : Array TypeId) := Array.mem_of_getElem? ht
  have hm' : t = 26 ∨ t = 3 ∨ t = 9 := by simpa using hm
  rcases hm' with rfl | rfl | rfl
  · exact (show Tryz.prog.wantsStandIn 26 = false by kernel_rfl)
  · exact (show Tryz.prog.wantsStandIn 3 = false by kernel_rfl)
  · exact (show Tryz.prog.wantsStandIn 9 = false by kernel_rfl)

theorem fracTells_card : Rows.FracTellsCardSaid :=
  Claim7.holds_tied_plain_at .later [] _ _ _ _ fracTells_said (fun _ h => by cases h) (by kernel_rfl) (fun _ h => by cases h) fracTells_row_tie rfl ⟨rfl, rfl⟩ (by kernel_rfl) rfl fracTells_plain (by kernel_rfl)
end Go.Proofs.YtnddickcnfodfaaGreatDoor
