/- For all big integers, valid or not, ints and strings the law BigTells returns true and leaves its arguments as they were. Conditions: the listed package-level variables of the library start as the text of the program lays them (tied by the card). -/
import Derived.Test.YtkijkofdhfjodaaDoorLBt23
import Derived.Test.YtkijkofdhfjodaaDoorM13
import Derived.Test.YtkijkofdhfjodaaDoorLaw
import Derived.Test.YtkijkofdhfjodaaDoorTie
namespace Go.Proofs.YtkijkofdhfjodaaDoor
open Go.RowKit Go.WideShapes Go.ChangeShapes
open Bi (own env_of laidWorld laid_met)

theorem bigTells_reads (os : Os) {H : Type} (enc : TypeId × Value → H) : ∃ places, DataW.whole enc Tryd.prog ((laidWorld os).forCall (fun _ _ => 0) ⟨#[], #[.agg #[.int .i64 0, .slice none 0 0], .agg #[.int .i64 0, .slice none 0 0], .int .i64 0, .string ⟨#[]⟩], []⟩).memory Tryd.f3.params.toList Rows.bigTellsSpec.vars false (#[.agg #[.int .i64 0, .slice none 0 0], .agg #[.int .i64 0, .slice none 0 0], .int .i64 0, .string ⟨#[]⟩] : Array Value).toList 8 = some ([.agg [.lit (.int .i64 0), .nil], .agg [.lit (.int .i64 0), .nil], .lit (.int .i64 0), .lit (.string [])], [], places) :=
  ⟨[], by kernel_rfl⟩

set_option maxRecDepth 100000 in
theorem bigTells_lifted (os : Os) (started : os.Started) (H : Type) (enc : TypeId × Value → H) (F : Stop.Interp) :
    ReturnsInHanded {} Tryd.checked os 3 .any ((OpenSpec.ofChange Rows.bigTellsSpec).preRow enc Tryd.prog Tryd.f3 Rows.bigTellsRow.domain false Rows.bigTellsRow.laid) (((OpenSpec.ofChange Rows.bigTellsSpec).at F).post enc Tryd.prog Tryd.f3 false true false false) := by
  obtain ⟨places, hx⟩ := bigTells_reads os enc
  refine returnsInHanded_of_row (C := Tryd.checked) (s := OpenSpec.ofChange Rows.bigTellsSpec) own started (by kernel_rfl) Tryd.func3
    (witness_row_atRef (enc := enc) (C := Tryd.checked) false (laidWorld os) #[.agg #[.int .i64 0, .slice none 0 0], .agg #[.int .i64 0, .slice none 0 0], .int .i64 0, .string ⟨#[]⟩] rfl (by kernel_rfl) (by kernel_rfl) (by kernel_rfl)
      (OpenSpec.preRow_of_cond 8 hx (by kernel_rfl) (fun k hk => by cases hk) (by kernel_rfl) (laid_met os _))) ?_
  intro W base args ds gs before hval0 hW _ _ hreach hL hsh _
  have hval : ∀ (j : Nat) t v, Tryd.f3.params[j]? = some t → args[j]? = some v → Value.okWide Tryd.prog W .any base t v := hval0
  have hW' := hW
  obtain ⟨p, q, hA0, hV, rfl, hfz, hnd⟩ := hW
  have hA : DataW.TrodAll enc Tryd.prog W 0 (fun _ => true) true Tryd.f3.params.toList args.toList ds p := hA0
  rw [Tryd.params3] at hA hval
  obtain ⟨v0, vs0, d0, ds0, p0, q0, hargs, rfl, rfl, h0, r0⟩ := trodAll_cons hA
  obtain ⟨v1, vs1, d1, ds1, p1, q1, rfl, rfl, rfl, h1, r1⟩ := trodAll_cons r0
  obtain ⟨v2, vs2, d2, ds2, p2, q2, rfl, rfl, rfl, h2, r2⟩ := trodAll_cons r1
  obtain ⟨v3, vs3, d3, ds3, p3, q3, rfl, rfl, rfl, h3, r3⟩ := trodAll_cons r2
  obtain ⟨rfl, rfl, rfl⟩ := trodAll_nil r3
  obtain rfl : args = #[v0, v1, v2, v3] := by cases args; simp_all
  obtain ⟨rfl, rfl⟩ := trodVars_none hV
  obtain ⟨x0, rfl, hs0⟩ := okWide_struct Tryd.underlying24 (hval 0 24 v0 rfl rfl)
  obtain ⟨fu0, hf0⟩ := h0
  obtain ⟨s0, a0, l0, cap0, hcs0, m0, i0, _⟩ := Bi.read_big hf0
  obtain rfl : x0 = #[.int .i64 s0, .slice a0 l0.length cap0] := by apply Array.toList_inj.1; simpa [Value.cells] using hcs0
  obtain ⟨x1, rfl, hs1⟩ := okWide_struct Tryd.underlying24 (hval 1 24 v1 rfl rfl)
  obtain ⟨fu1, hf1⟩ := h1
  obtain ⟨s1, a1, l1, cap1, hcs1, m1, i1, _⟩ := Bi.read_big hf1
  obtain rfl : x1 = #[.int .i64 s1, .slice a1 l1.length cap1] := by apply Array.toList_inj.1; simpa [Value.cells] using hcs1
  obtain ⟨n2, rfl, rfl, rfl, hi2⟩ := open_int Tryd.underlying3 (hval 2 3 v2 rfl rfl) h2
  have hi2' := Bi.wf64 hi2
  obtain ⟨z3, rfl, rfl, rfl, hz3⟩ := Go.ChangeMaps.open_string Tryd.underlying9 (hval 3 9 v3 rfl rfl) h3
  have walk : Calls Tryd.prog 3 #[.agg #[.int .i64 s0, .slice a0 l0.length cap0], .agg #[.int .i64 s1, .slice a1 l1.length cap1], .int .i64 n2, .string z3] W fun e W' => e = .returned (.bool true) ∧ RowKit.Below W.heap.size W W' := by
    by_cases hq : l0.length ≤ 62 ∧ l1.length ≤ 62
    · exact Bi.BigTells_any s0 a0 l0.length cap0 l0 s1 a1 l1.length cap1 l1 n2 z3 hi2' W (Bi.env_of hL) (i0 (by omega)) (i1 (by omega))
    · exact Bi.BigTells_long s0 a0 l0.length cap0 s1 a1 l1.length cap1 n2 z3 W (Bi.env_of hL) m0 m1 hq
  refine walk.mono fun e W' ⟨he, hb⟩ => ?_
  subst he
  exact ⟨_, rfl, law_post (by kernel_rfl) (by kernel_rfl) hW' rfl (by kernel_rfl) Tryd.underlying4 rfl hb⟩

theorem bigTells_said : Rows.BigTellsSaid :=
  OpenClaim.holds_of_cond 3 Tryd.f3 rfl rfl rfl rfl rfl rfl rfl ⟨rfl, rfl, rfl, rfl, rfl⟩ rfl rfl rfl rfl rfl (by kernel_rfl) Tryd.func3 (by kernel_rfl)
    (of_decide_eq_true (by kernel_rfl)) (by unfold Func.isWrapper; first | (rw [if_pos (by decide +kernel)]; kernel_rfl) | (rw [if_neg (by decide +kernel)]; exact ⟨rfl, rfl⟩))
    (fun os started H enc _ F => by rw [OpenClaim.pre_eq_preRow]; exact bigTells_lifted os started H enc F)

theorem bigTells_plain (f : FuncId) (fn : Func) (hf : Tryd.pinned.checked.prog.funcNamed "kitbag/kitbaglaw04.BigTells" = some f) (hfn : Tryd.pinned.checked.prog.funcs[f]? = some fn) :
    false = Tryd.pinned.checked.prog.looks [] ∧ ∀ (j : Nat) t, fn.params[j]? = some t → Tryd.pinned.checked.prog.wantsStandIn t = false := by
  obtain rfl : f = 3 := Option.some.inj ((show Tryd.prog.funcNamed "kitbag/kitbaglaw04.BigTells" = some 3 by kernel_rfl).symm.trans hf) |>.symm
  obtain rfl : fn = Tryd.f3 := (Option.some.inj (Tryd.func3.symm.trans hfn)).symm
  refine ⟨by kernel_rfl, fun j t ht => ?_⟩
  rw [Tryd.params3] at ht
  have hm : t ∈ (#[24, 24, 3, 9] : Array TypeId) := Array.mem_of_getElem? ht
  have hm' : t = 24 ∨ t = 3 ∨ t = 9 := by simpa using hm
  rcases hm' with rfl | rfl | rfl
  · exact (show Tryd.prog.wantsStandIn 24 = false by kernel_rfl)
  · exact (show Tryd.prog.wantsStandIn 3 = false by kernel_rfl)
  · exact (show Tryd.prog.wantsStandIn 9 = false by kernel_rfl)

theorem bigTells_card : Rows.BigTellsCardSaid :=
  Claim7.holds_tied_plain_at .later [] _ _ _ _ bigTells_said (fun _ h => by cases h) (by kernel_rfl) (fun _ h => by cases h) bigTells_row_tie rfl ⟨rfl, rfl⟩ (by kernel_rfl) rfl bigTells_plain (by kernel_rfl)
end Go.Proofs.YtkijkofdhfjodaaDoor
