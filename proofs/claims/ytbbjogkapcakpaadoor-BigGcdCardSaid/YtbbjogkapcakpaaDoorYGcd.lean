/- For all three big integers the law BigGcd returns true and leaves its arguments as they were. Conditions: the listed package-level variables of the library start as the text of the program lays them (tied by the card). -/
import Derived.Test.YtbbjogkapcakpaaDoorLBiG1
import Derived.Test.YtbbjogkapcakpaaDoorM12
import Derived.Test.YtbbjogkapcakpaaDoorLaw
import Derived.Test.YtbbjogkapcakpaaDoorTie
namespace Go.Proofs.YtbbjogkapcakpaaDoor
open Go.RowKit Go.WideShapes Go.ChangeShapes
open Bi (own env_of laidWorld laid_met)

theorem bigGcd_reads (os : Os) {H : Type} (enc : TypeId × Value → H) : ∃ places, DataW.whole enc Tryd.prog ((laidWorld os).forCall (fun _ _ => 0) ⟨#[], #[.agg #[.int .i64 0, .slice none 0 0], .agg #[.int .i64 0, .slice none 0 0], .agg #[.int .i64 0, .slice none 0 0]], []⟩).memory Tryd.f4.params.toList Rows.bigGcdSpec.vars false (#[.agg #[.int .i64 0, .slice none 0 0], .agg #[.int .i64 0, .slice none 0 0], .agg #[.int .i64 0, .slice none 0 0]] : Array Value).toList 8 = some ([.agg [.lit (.int .i64 0), .nil], .agg [.lit (.int .i64 0), .nil], .agg [.lit (.int .i64 0), .nil]], [], places) :=
  ⟨[], by kernel_rfl⟩

set_option maxRecDepth 100000 in
theorem bigGcd_lifted (os : Os) (started : os.Started) (H : Type) (enc : TypeId × Value → H) (F : Stop.Interp) :
    ReturnsInHanded {} Tryd.checked os 4 .any ((OpenSpec.ofChange Rows.bigGcdSpec).preRow enc Tryd.prog Tryd.f4 Rows.bigGcdRow.domain false Rows.bigGcdRow.laid) (((OpenSpec.ofChange Rows.bigGcdSpec).at F).post enc Tryd.prog Tryd.f4 false true false false) := by
  obtain ⟨places, hx⟩ := bigGcd_reads os enc
  refine returnsInHanded_of_row (C := Tryd.checked) (s := OpenSpec.ofChange Rows.bigGcdSpec) own started (by kernel_rfl) Tryd.func4
    (witness_row_atRef (enc := enc) (C := Tryd.checked) false (laidWorld os) #[.agg #[.int .i64 0, .slice none 0 0], .agg #[.int .i64 0, .slice none 0 0], .agg #[.int .i64 0, .slice none 0 0]] rfl (by kernel_rfl) (by kernel_rfl) (by kernel_rfl)
      (OpenSpec.preRow_of_cond 8 hx (by kernel_rfl) (fun k hk => by cases hk) (by kernel_rfl) (laid_met os _))) ?_
  intro W base args ds gs before hval0 hW _ _ hreach hL hsh _
  have hval : ∀ (j : Nat) t v, Tryd.f4.params[j]? = some t → args[j]? = some v → Value.okWide Tryd.prog W .any base t v := hval0
  have hW' := hW
  obtain ⟨p, q, hA0, hV, rfl, hfz, hnd⟩ := hW
  have hA : DataW.TrodAll enc Tryd.prog W 0 (fun _ => true) true Tryd.f4.params.toList args.toList ds p := hA0
  rw [Tryd.params4] at hA hval
  obtain ⟨v0, vs0, d0, ds0, p0, q0, hargs, rfl, rfl, h0, r0⟩ := trodAll_cons hA
  obtain ⟨v1, vs1, d1, ds1, p1, q1, rfl, rfl, rfl, h1, r1⟩ := trodAll_cons r0
  obtain ⟨v2, vs2, d2, ds2, p2, q2, rfl, rfl, rfl, h2, r2⟩ := trodAll_cons r1
  obtain ⟨rfl, rfl, rfl⟩ := trodAll_nil r2
  obtain rfl : args = #[v0, v1, v2] := by cases args; simp_all
  obtain ⟨rfl, rfl⟩ := trodVars_none hV
  obtain ⟨x0, rfl, hs0⟩ := okWide_struct Tryd.underlying24 (hval 0 24 v0 rfl rfl)
  obtain ⟨fu0, hf0⟩ := h0
  obtain ⟨s0, a0, l0, cap0, hcs0, m0, i0, _⟩ := Bi.read_big hf0
  obtain rfl : x0 = #[.int .i64 s0, .slice a0 l0.length cap0] := by apply Array.toList_inj.1; simpa [Value.cells] using hcs0
  obtain ⟨x1, rfl, hs1⟩ := okWide_struct Tryd.underlying24 (hval 1 24 v1 rfl rfl)
  obtain ⟨fu1, hf1⟩ := h1
  obtain ⟨s1, a1, l1, cap1, hcs1, m1, i1, _⟩ := Bi.read_big hf1
  obtain rfl : x1 = #[.int .i64 s1, .slice a1 l1.length cap1] := by apply Array.toList_inj.1; simpa [Value.cells] using hcs1
  obtain ⟨x2, rfl, hs2⟩ := okWide_struct Tryd.underlying24 (hval 2 24 v2 rfl rfl)
  obtain ⟨fu2, hf2⟩ := h2
  obtain ⟨s2, a2, l2, cap2, hcs2, m2, i2, _⟩ := Bi.read_big hf2
  obtain rfl : x2 = #[.int .i64 s2, .slice a2 l2.length cap2] := by apply Array.toList_inj.1; simpa [Value.cells] using hcs2
  have walk : Calls Tryd.prog 4 #[.agg #[.int .i64 s0, .slice a0 l0.length cap0], .agg #[.int .i64 s1, .slice a1 l1.length cap1], .agg #[.int .i64 s2, .slice a2 l2.length cap2]] W fun e W' => e = .returned (.bool true) ∧ RowKit.Below W.heap.size W W' := by
    by_cases hq : l0.length ≤ 12 ∧ l1.length ≤ 12 ∧ l2.length ≤ 4
    · exact Bi.BigGcd_any s0 a0 l0.length cap0 l0 s1 a1 l1.length cap1 l1 s2 a2 l2.length cap2 l2 W (Bi.env_of hL) (i0 (by omega)) (i1 (by omega)) (i2 (by omega))
    · exact Bi.BigGcd_long s0 a0 l0.length cap0 s1 a1 l1.length cap1 s2 a2 l2.length cap2 W (Bi.env_of hL) m0 m1 m2 hq
  refine walk.mono fun e W' ⟨he, hb⟩ => ?_
  subst he
  exact ⟨_, rfl, law_post (by kernel_rfl) (by kernel_rfl) hW' rfl (by kernel_rfl) Tryd.underlying4 rfl hb⟩

theorem bigGcd_said : Rows.BigGcdSaid :=
  OpenClaim.holds_of_cond 4 Tryd.f4 rfl rfl rfl rfl rfl rfl rfl ⟨rfl, rfl, rfl, rfl, rfl⟩ rfl rfl rfl rfl rfl (by kernel_rfl) Tryd.func4 (by kernel_rfl)
    (of_decide_eq_true (by kernel_rfl)) (by unfold Func.isWrapper; first | (rw [if_pos (by decide +kernel)]; kernel_rfl) | (rw [if_neg (by decide +kernel)]; exact ⟨rfl, rfl⟩))
    (fun os started H enc _ F => by rw [OpenClaim.pre_eq_preRow]; exact bigGcd_lifted os started H enc F)

theorem bigGcd_plain (f : FuncId) (fn : Func) (hf : Tryd.pinned.checked.prog.funcNamed "kitbag/kitbaglaw04.BigGcd" = some f) (hfn : Tryd.pinned.checked.prog.funcs[f]? = some fn) :
    false = Tryd.pinned.checked.prog.looks [] ∧ ∀ (j : Nat) t, fn.params[j]? = some t → Tryd.pinned.checked.prog.wantsStandIn t = false := by
  obtain rfl : f = 4 := Option.some.inj ((show Tryd.prog.funcNamed "kitbag/kitbaglaw04.BigGcd" = some 4 by kernel_rfl).symm.trans hf) |>.symm
  obtain rfl : fn = Tryd.f4 := (Option.some.inj (Tryd.func4.symm.trans hfn)).symm
  refine ⟨by kernel_rfl, fun j t ht => ?_⟩
  rw [Tryd.params4] at ht
  have hm : t ∈ (#[24, 24, 24] : Array TypeId) := Array.mem_of_getElem? ht
  have hm' : t = 24 := by simpa using hm
  subst hm'
  exact (show Tryd.prog.wantsStandIn 24 = false by kernel_rfl)

theorem bigGcd_card : Rows.BigGcdCardSaid :=
  Claim7.holds_tied_plain_at .later [] _ _ _ _ bigGcd_said (fun _ h => by cases h) (by kernel_rfl) (fun _ h => by cases h) bigGcd_row_tie rfl ⟨rfl, rfl⟩ (by kernel_rfl) rfl bigGcd_plain (by kernel_rfl)
end Go.Proofs.YtbbjogkapcakpaaDoor
