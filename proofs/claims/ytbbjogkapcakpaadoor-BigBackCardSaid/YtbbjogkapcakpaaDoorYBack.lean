/- For every big integer and every string the law BigBack returns true and leaves its arguments as they were. Conditions: the listed package-level variables of the library start as the text of the program lays them (tied by the card). -/
import Derived.Test.YtbbjogkapcakpaaDoorLBiK1
import Derived.Test.YtbbjogkapcakpaaDoorM12
import Derived.Test.YtbbjogkapcakpaaDoorLaw
import Derived.Test.YtbbjogkapcakpaaDoorTie
namespace Go.Proofs.YtbbjogkapcakpaaDoor
open Go.RowKit Go.WideShapes Go.ChangeShapes
open Bi (own env_of laidWorld laid_met)

theorem bigBack_reads (os : Os) {H : Type} (enc : TypeId × Value → H) : ∃ places, DataW.whole enc Tryd.prog ((laidWorld os).forCall (fun _ _ => 0) ⟨#[], #[.agg #[.int .i64 0, .slice none 0 0], .string ⟨#[]⟩], []⟩).memory Tryd.f6.params.toList Rows.bigBackSpec.vars false (#[.agg #[.int .i64 0, .slice none 0 0], .string ⟨#[]⟩] : Array Value).toList 8 = some ([.agg [.lit (.int .i64 0), .nil], .lit (.string [])], [], places) :=
  ⟨[], by kernel_rfl⟩

set_option maxRecDepth 100000 in
theorem bigBack_lifted (os : Os) (started : os.Started) (H : Type) (enc : TypeId × Value → H) (F : Stop.Interp) :
    ReturnsInHanded {} Tryd.checked os 6 .any ((OpenSpec.ofChange Rows.bigBackSpec).preRow enc Tryd.prog Tryd.f6 Rows.bigBackRow.domain false Rows.bigBackRow.laid) (((OpenSpec.ofChange Rows.bigBackSpec).at F).post enc Tryd.prog Tryd.f6 false true false false) := by
  obtain ⟨places, hx⟩ := bigBack_reads os enc
  refine returnsInHanded_of_row (C := Tryd.checked) (s := OpenSpec.ofChange Rows.bigBackSpec) own started (by kernel_rfl) Tryd.func6
    (witness_row_atRef (enc := enc) (C := Tryd.checked) false (laidWorld os) #[.agg #[.int .i64 0, .slice none 0 0], .string ⟨#[]⟩] rfl (by kernel_rfl) (by kernel_rfl) (by kernel_rfl)
      (OpenSpec.preRow_of_cond 8 hx (by kernel_rfl) (fun k hk => by cases hk) (by kernel_rfl) (laid_met os _))) ?_
  intro W base args ds gs before hval0 hW _ _ hreach hL hsh _
  have hval : ∀ (j : Nat) t v, Tryd.f6.params[j]? = some t → args[j]? = some v → Value.okWide Tryd.prog W .any base t v := hval0
  have hW' := hW
  obtain ⟨p, q, hA0, hV, rfl, hfz, hnd⟩ := hW
  have hA : DataW.TrodAll enc Tryd.prog W 0 (fun _ => true) true Tryd.f6.params.toList args.toList ds p := hA0
  rw [Tryd.params6] at hA hval
  obtain ⟨v0, vs0, d0, ds0, p0, q0, hargs, rfl, rfl, h0, r0⟩ := trodAll_cons hA
  obtain ⟨v1, vs1, d1, ds1, p1, q1, rfl, rfl, rfl, h1, r1⟩ := trodAll_cons r0
  obtain ⟨rfl, rfl, rfl⟩ := trodAll_nil r1
  obtain rfl : args = #[v0, v1] := by cases args; simp_all
  obtain ⟨rfl, rfl⟩ := trodVars_none hV
  obtain ⟨x0, rfl, hs0⟩ := okWide_struct Tryd.underlying24 (hval 0 24 v0 rfl rfl)
  obtain ⟨fu0, hf0⟩ := h0
  obtain ⟨s0, a0, l0, cap0, hcs0, m0, i0, _⟩ := Bi.read_big hf0
  obtain rfl : x0 = #[.int .i64 s0, .slice a0 l0.length cap0] := by apply Array.toList_inj.1; simpa [Value.cells] using hcs0
  obtain ⟨z1, rfl, rfl, rfl, hz1⟩ := Go.ChangeMaps.open_string Tryd.underlying9 (hval 1 9 v1 rfl rfl) h1
  rw [Bi.maxLen_eq] at hz1
  have walk : Calls Tryd.prog 6 #[.agg #[.int .i64 s0, .slice a0 l0.length cap0], .string z1] W fun e W' => e = .returned (.bool true) ∧ RowKit.Below W.heap.size W W' := by
    by_cases hq : l0.length ≤ 60
    · exact Bi.BigBack_any s0 a0 l0.length cap0 l0 z1 W (Bi.env_of hL) (i0 (by omega)) hz1
    · exact Bi.BigBack_long s0 a0 l0.length cap0 z1 W (Bi.env_of hL) m0 hz1 hq
  refine walk.mono fun e W' ⟨he, hb⟩ => ?_
  subst he
  exact ⟨_, rfl, law_post (by kernel_rfl) (by kernel_rfl) hW' rfl (by kernel_rfl) Tryd.underlying4 rfl hb⟩

theorem bigBack_said : Rows.BigBackSaid :=
  OpenClaim.holds_of_cond 6 Tryd.f6 rfl rfl rfl rfl rfl rfl rfl ⟨rfl, rfl, rfl, rfl, rfl⟩ rfl rfl rfl rfl rfl (by kernel_rfl) Tryd.func6 (by kernel_rfl)
    (of_decide_eq_true (by kernel_rfl)) (by unfold Func.isWrapper; first | (rw [if_pos (by decide +kernel)]; kernel_rfl) | (rw [if_neg (by decide +kernel)]; exact ⟨rfl, rfl⟩))
    (fun os started H enc _ F => by rw [OpenClaim.pre_eq_preRow]; exact bigBack_lifted os started H enc F)

theorem bigBack_plain (f : FuncId) (fn : Func) (hf : Tryd.pinned.checked.prog.funcNamed "kitbag/kitbaglaw04.BigBack" = some f) (hfn : Tryd.pinned.checked.prog.funcs[f]? = some fn) :
    false = Tryd.pinned.checked.prog.looks [] ∧ ∀ (j : Nat) t, fn.params[j]? = some t → Tryd.pinned.checked.prog.wantsStandIn t = false := by
  obtain rfl : f = 6 := Option.some.inj ((show Tryd.prog.funcNamed "kitbag/kitbaglaw04.BigBack" = some 6 by kernel_rfl).symm.trans hf) |>.symm
  obtain rfl : fn = Tryd.f6 := (Option.some.inj (Tryd.func6.symm.trans hfn)).symm
  refine ⟨by kernel_rfl, fun j t ht => ?_⟩
  rw [Tryd.params6] at ht
  have hm : t ∈ (#[24, 9] : Array TypeId) := Array.mem_of_getElem? ht
  have hm' : t = 24 ∨ t = 9 := by simpa using hm
  rcases hm' with rfl | rfl
  · exact (show Tryd.prog.wantsStandIn 24 = false by kernel_rfl)
  · exact (show Tryd.prog.wantsStandIn 9 = false by kernel_rfl)

theorem bigBack_card : Rows.BigBackCardSaid :=
  Claim7.holds_tied_plain_at .later [] _ _ _ _ bigBack_said (fun _ h => by cases h) (by kernel_rfl) (fun _ h => by cases h) bigBack_row_tie rfl ⟨rfl, rfl⟩ (by kernel_rfl) rfl bigBack_plain (by kernel_rfl)
end Go.Proofs.YtbbjogkapcakpaaDoor
