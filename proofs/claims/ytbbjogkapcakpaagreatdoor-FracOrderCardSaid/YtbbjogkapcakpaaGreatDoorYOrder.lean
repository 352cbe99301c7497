/- For all three fractions the law FracOrder returns true and leaves its arguments as they were. Conditions: the listed package-level variables of the library start as the text of the program lays them (tied by the card). -/
import Derived.Test.YtbbjogkapcakpaaGreatDoorLFrO
import Derived.Test.YtbbjogkapcakpaaGreatDoorM16
import Derived.Test.YtbbjogkapcakpaaGreatDoorLaw
import Derived.Test.YtbbjogkapcakpaaGreatDoorTie
namespace Go.Proofs.YtbbjogkapcakpaaGreatDoor
open Go.RowKit Go.WideShapes Go.ChangeShapes
open Bi (own env_of laidWorld laid_met)

theorem fracOrder_reads (os : Os) {H : Type} (enc : TypeId × Value → H) : ∃ places, DataW.whole enc Tryz.prog ((laidWorld os).forCall (fun _ _ => 0) ⟨#[], #[.agg #[.int .i64 0, .slice none 0 0, .int .i64 0, .slice none 0 0], .agg #[.int .i64 0, .slice none 0 0, .int .i64 0, .slice none 0 0], .agg #[.int .i64 0, .slice none 0 0, .int .i64 0, .slice none 0 0]], []⟩).memory Tryz.f5.params.toList Rows.fracOrderSpec.vars false (#[.agg #[.int .i64 0, .slice none 0 0, .int .i64 0, .slice none 0 0], .agg #[.int .i64 0, .slice none 0 0, .int .i64 0, .slice none 0 0], .agg #[.int .i64 0, .slice none 0 0, .int .i64 0, .slice none 0 0]] : Array Value).toList 8 = some ([.agg [.agg [.lit (.int .i64 0), .nil], .agg [.lit (.int .i64 0), .nil]], .agg [.agg [.lit (.int .i64 0), .nil], .agg [.lit (.int .i64 0), .nil]], .agg [.agg [.lit (.int .i64 0), .nil], .agg [.lit (.int .i64 0), .nil]]], [], places) :=
  ⟨[], by kernel_rfl⟩

set_option maxRecDepth 100000 in
theorem fracOrder_lifted (os : Os) (started : os.Started) (H : Type) (enc : TypeId × Value → H) (F : Stop.Interp) :
    ReturnsInHanded {} Tryz.checked os 5 .any ((OpenSpec.ofChange Rows.fracOrderSpec).preRow enc Tryz.prog Tryz.f5 Rows.fracOrderRow.domain false Rows.fracOrderRow.laid) (((OpenSpec.ofChange Rows.fracOrderSpec).at F).post enc Tryz.prog Tryz.f5 false true false false) := by
  obtain ⟨places, hx⟩ := fracOrder_reads os enc
  refine returnsInHanded_of_row (C := Tryz.checked) (s := OpenSpec.ofChange Rows.fracOrderSpec) own started (by kernel_rfl) Tryz.func5
    (witness_row_atRef (enc := enc) (C := Tryz.checked) false (laidWorld os) #[.agg #[.int .i64 0, .slice none 0 0, .int .i64 0, .slice none 0 0], .agg #[.int .i64 0, .slice none 0 0, .int .i64 0, .slice none 0 0], .agg #[.int .i64 0, .slice none 0 0, .int .i64 0, .slice none 0 0]] rfl (by kernel_rfl) (by kernel_rfl) (by kernel_rfl)
      (OpenSpec.preRow_of_cond 8 hx (by kernel_rfl) (fun k hk => by cases hk) (by kernel_rfl) (laid_met os _))) ?_
  intro W base args ds gs before hval0 hW _ _ hreach hL hsh _
  have hval : ∀ (j : Nat) t v, Tryz.f5.params[j]? = some t → args[j]? = some v → Value.okWide Tryz.prog W .any base t v := hval0
  have hW' := hW
  obtain ⟨p, q, hA0, hV, rfl, hfz, hnd⟩ := hW
  have hA : DataW.TrodAll enc Tryz.prog W 0 (fun _ => true) true Tryz.f5.params.toList args.toList ds p := hA0
  rw [Tryz.params5] at hA hval
  obtain ⟨v0, vs0, d0, ds0, p0, q0, hargs, rfl, rfl, h0, r0⟩ := trodAll_cons hA
  obtain ⟨v1, vs1, d1, ds1, p1, q1, rfl, rfl, rfl, h1, r1⟩ := trodAll_cons r0
  obtain ⟨v2, vs2, d2, ds2, p2, q2, rfl, rfl, rfl, h2, r2⟩ := trodAll_cons r1
  obtain ⟨rfl, rfl, rfl⟩ := trodAll_nil r2
  obtain rfl : args = #[v0, v1, v2] := by cases args; simp_all
  obtain ⟨rfl, rfl⟩ := trodVars_none hV
  obtain ⟨x0, rfl, hs0⟩ := okWide_struct Tryz.underlying26 (hval 0 26 v0 rfl rfl)
  obtain ⟨fu0, hf0⟩ := h0
  obtain ⟨s0, a0, l0, c0, t0, b0, k0, d0, hcs0, m0, i0, o0, j0⟩ := Bi.read_frac hf0
  obtain rfl : x0 = #[.int .i64 s0, .slice a0 l0.length c0, .int .i64 t0, .slice b0 k0.length d0] := by apply Array.toList_inj.1; simpa [Value.cells] using hcs0
  obtain ⟨x1, rfl, hs1⟩ := okWide_struct Tryz.underlying26 (hval 1 26 v1 rfl rfl)
  obtain ⟨fu1, hf1⟩ := h1
  obtain ⟨s1, a1, l1, c1, t1, b1, k1, d1, hcs1, m1, i1, o1, j1⟩ := Bi.read_frac hf1
  obtain rfl : x1 = #[.int .i64 s1, .slice a1 l1.length c1, .int .i64 t1, .slice b1 k1.length d1] := by apply Array.toList_inj.1; simpa [Value.cells] using hcs1
  obtain ⟨x2, rfl, hs2⟩ := okWide_struct Tryz.underlying26 (hval 2 26 v2 rfl rfl)
  obtain ⟨fu2, hf2⟩ := h2
  obtain ⟨s2, a2, l2, c2, t2, b2, k2, d2, hcs2, m2, i2, o2, j2⟩ := Bi.read_frac hf2
  obtain rfl : x2 = #[.int .i64 s2, .slice a2 l2.length c2, .int .i64 t2, .slice b2 k2.length d2] := by apply Array.toList_inj.1; simpa [Value.cells] using hcs2
  have walk : Calls Tryz.prog 5 #[.agg #[.int .i64 s0, .slice a0 l0.length c0, .int .i64 t0, .slice b0 k0.length d0], .agg #[.int .i64 s1, .slice a1 l1.length c1, .int .i64 t1, .slice b1 k1.length d1], .agg #[.int .i64 s2, .slice a2 l2.length c2, .int .i64 t2, .slice b2 k2.length d2]] W fun e W' => e = .returned (.bool true) ∧ RowKit.Below W.heap.size W W' := by
    by_cases hq : (l0.length ≤ 12 ∧ k0.length ≤ 12) ∧ (l1.length ≤ 12 ∧ k1.length ≤ 12) ∧ (l2.length ≤ 12 ∧ k2.length ≤ 12)
    · exact Bi.FracOrder_any s0 a0 l0.length c0 l0 t0 b0 k0.length d0 k0 s1 a1 l1.length c1 l1 t1 b1 k1.length d1 k1 s2 a2 l2.length c2 l2 t2 b2 k2.length d2 k2  W (Bi.envF_of hL hsh) (i0 (by omega)) (j0 (by omega)) (i1 (by omega)) (j1 (by omega)) (i2 (by omega)) (j2 (by omega)) 
    · exact Bi.FracOrder_long s0 a0 l0.length c0 t0 b0 k0.length d0 s1 a1 l1.length c1 t1 b1 k1.length d1 s2 a2 l2.length c2 t2 b2 k2.length d2  W (Bi.envF_of hL hsh) m0 o0 m1 o1 m2 o2  hq
  refine walk.mono fun e W' ⟨he, hb⟩ => ?_
  subst he
  exact ⟨_, rfl, law_post (by kernel_rfl) (by kernel_rfl) hW' rfl (by kernel_rfl) Tryz.underlying4 rfl hb⟩

theorem fracOrder_said : Rows.FracOrderSaid :=
  OpenClaim.holds_of_cond 5 Tryz.f5 rfl rfl rfl rfl rfl rfl rfl ⟨rfl, rfl, rfl, rfl, rfl⟩ rfl rfl rfl rfl rfl (by kernel_rfl) Tryz.func5 (by kernel_rfl)
    (of_decide_eq_true (by kernel_rfl)) (by unfold Func.isWrapper; first | (rw [if_pos (by decide +kernel)]; kernel_rfl) | (rw [if_neg (by decide +kernel)]; exact ⟨rfl, rfl⟩))
    (fun os started H enc _ F => by rw [OpenClaim.pre_eq_preRow]; exact fracOrder_lifted os started H enc F)

theorem fracOrder_plain (f : FuncId) (fn : Func) (hf : Tryz.pinned.checked.prog.funcNamed "kitbag/kitbaglaw05.FracOrder" = some f) (hfn : Tryz.pinned.checked.prog.funcs[f]? = some fn) :
    false = Tryz.pinned.checked.prog.looks [] ∧ ∀ (j : Nat) t, fn.params[j]? = some t → Tryz.pinned.checked.prog.wantsStandIn t = false := by
  obtain rfl : f = 5 := Option.some.inj ((show Tryz.prog.funcNamed "kitbag/kitbaglaw05.FracOrder" = some 5 by kernel_rfl).symm.trans hf) |>.symm
  obtain rfl : fn = Tryz.f5 := (Option.some.inj (Tryz.func5.symm.trans hfn)).symm
  refine ⟨by kernel_rfl, fun j t ht => ?_⟩
  rw [Tryz.params5] at ht
  have hm : t ∈ (#[26, 26, 26] : Array TypeId) := Array.mem_of_getElem? ht
  have hm' : t = 26 := by simpa using hm
  subst hm'
  exact (show Tryz.prog.wantsStandIn 26 = false by kernel_rfl)

theorem fracOrder_card : Rows.FracOrderCardSaid :=
  Claim7.holds_tied_plain_at .later [] _ _ _ _ fracOrder_said (fun _ h => by cases h) (by kernel_rfl) (fun _ h => by cases h) fracOrder_row_tie rfl ⟨rfl, rfl⟩ (by kernel_rfl) rfl fracOrder_plain (by kernel_rfl)
end Go.Proofs.YtbbjogkapcakpaaGreatDoor
