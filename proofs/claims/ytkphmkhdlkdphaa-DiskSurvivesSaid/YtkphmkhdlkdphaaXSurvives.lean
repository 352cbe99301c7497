/- For all lists of acts, files and crashes the law DiskSurvives returns true and leaves its arguments as they were. Conditions: none. -/
import Derived.Test.YtkphmkhdlkdphaaSu
import Derived.Test.YtkphmkhdlkdphaaLaw
import Derived.Test.YtkphmkhdlkdphaaRows
import Derived.ProofKit
namespace Go.Proofs.Ytkphmkhdlkdphaa
open Go.RowKit Go.WideShapes Go.ChangeShapes

theorem own : ownKnob Try.prog.godebug = none := by kernel_rfl
theorem surv_any (a a3 : Option Addr) (cap cap3 : Nat) (vs : List Ac) (ks : List Int) (f : Int) (w : World) (hv : ACells w a vs) (hl : vs.length ≤ 9223372036854775807) (hl3 : ks.length ≤ 9223372036854775807)
    (hk : Ints w (.slice a3 ks.length cap3) ks) (hkb : ∀ x ∈ ks, -9223372036854775808 ≤ x ∧ x ≤ 9223372036854775807) (hf : -9223372036854775808 ≤ f ∧ f ≤ 9223372036854775807) :
    Calls Try.prog 4 #[.slice a vs.length cap, .int .i64 f, .slice a3 ks.length cap3] w (Gives (.bool true) w) := by
  by_cases hx : few vs = false ∨ 60 < ks.length
  · exact surv_out a a3 cap cap3 vs ks f w hv hl hl3 hx
  · have h1 : few vs = true := by
      cases e : few vs
      · exact absurd (.inl e) hx
      · rfl
    have h3 : ks.length ≤ 60 := by
      have := fun e => hx (.inr e)
      omega
    by_cases hd : (runs vs St.new).down = true ∨ f < 0 ∨ 15 < f ∨ 100000 < ((runs vs St.new).now f).length
    · exact surv_skip a a3 cap cap3 vs ks f w hv hl h3 h1 hf hd
    · have hdn : (runs vs St.new).down = false := by
        cases e : (runs vs St.new).down
        · rfl
        · exact absurd (.inl e) hd
      have hff : 0 ≤ f ∧ f ≤ 15 ∧ ((runs vs St.new).now f).length ≤ 100000 := by
        have := fun e => hd (.inr e)
        omega
      exact surv_main a a3 cap cap3 vs ks f w hv hl h3 hk hkb h1 hdn hff.1 hff.2.1 hff.2.2

theorem diskSurvives_reads (os : Os) {H : Type} (enc : TypeId × Value → H) : ∃ places, DataW.whole enc Try.prog ((World.holding Try.prog os ⟨#[], #[], []⟩).forCall (fun _ _ => 0) ⟨#[], #[.slice none 0 0, .int .i64 0, .slice none 0 0], []⟩).memory Try.f4.params.toList Rows.diskSurvivesSpec.vars false (#[.slice none 0 0, .int .i64 0, .slice none 0 0] : Array Value).toList 8 = some ([.nil, .lit (.int .i64 0), .nil], [], places) :=
  ⟨[], by kernel_rfl⟩

set_option maxRecDepth 100000 in
theorem diskSurvives_lifted (os : Os) (started : os.Started) (H : Type) (enc : TypeId × Value → H) (F : Stop.Interp) :
    ReturnsInHanded {} Try.checked os 4 .any ((OpenSpec.ofChange Rows.diskSurvivesSpec).preRow enc Try.prog Try.f4 Rows.diskSurvivesRow.domain false Rows.diskSurvivesRow.laid) (((OpenSpec.ofChange Rows.diskSurvivesSpec).at F).post enc Try.prog Try.f4 false true false false) := by
  obtain ⟨places, hx⟩ := diskSurvives_reads os enc
  refine returnsInHanded_of_row (C := Try.checked) (s := OpenSpec.ofChange Rows.diskSurvivesSpec) own started (by kernel_rfl) Try.func4
    (witness_row_atRef (enc := enc) (C := Try.checked) false (World.holding Try.prog os ⟨#[], #[], []⟩) #[.slice none 0 0, .int .i64 0, .slice none 0 0] rfl (by kernel_rfl) (by kernel_rfl) (by kernel_rfl)
      (OpenSpec.preRow_of_cond 8 hx (by kernel_rfl) (fun k hk => by cases hk) (by kernel_rfl) ⟨[], rfl, List.nodup_nil, fun b off h => by cases h⟩)) ?_
  intro W base args ds gs before hval0 hW _ _ hreach hL hsh _
  have hval : ∀ (j : Nat) t v, Try.f4.params[j]? = some t → args[j]? = some v → Value.okWide Try.prog W .any base t v := hval0
  have hW' := hW
  obtain ⟨p, q, hA0, hV, rfl, hfz, hnd⟩ := hW
  have hA : DataW.TrodAll enc Try.prog W 0 (fun _ => true) true Try.f4.params.toList args.toList ds p := hA0
  rw [Try.params4] at hA hval
  obtain ⟨v0, vs0, d0, ds0, p0, q0, hargs, rfl, rfl, h0, r0⟩ := trodAll_cons hA
  obtain ⟨v1, vs1, d1, ds1, p1, q1, rfl, rfl, rfl, h1, r1⟩ := trodAll_cons r0
  obtain ⟨v2, vs2, d2, ds2, p2, q2, rfl, rfl, rfl, h2, r2⟩ := trodAll_cons r1
  obtain ⟨rfl, rfl, rfl⟩ := trodAll_nil r2
  obtain rfl : args = #[v0, v1, v2] := by cases args; simp_all
  obtain ⟨rfl, rfl⟩ := trodVars_none hV
  obtain ⟨av, len0, cap0, rfl⟩ := okWide_slice Try.underlying22 (hval 0 22 v0 rfl rfl)
  obtain ⟨fu0, hf0⟩ := h0
  obtain ⟨a', vs, cap', hcs, vsm, vsc⟩ := read_acts hf0
  have hcs' : av = a' ∧ len0 = vs.length ∧ cap0 = cap' := by simpa [Value.cells] using hcs
  obtain ⟨rfl, rfl, rfl⟩ := hcs'
  obtain ⟨fu1, hf1⟩ := h1
  obtain ⟨f, rfl⟩ := okWide_int Try.underlying3 (hval 1 3 v1 rfl rfl)
  obtain ⟨f2, e1, _, w1⟩ := DataW.trod_int Try.underlying3 hf1
  obtain rfl : f = f2 := by simpa [Value.cells] using e1
  obtain ⟨ak, len2, cap3, rfl⟩ := okWide_slice Try.underlying31 (hval 2 31 v2 rfl rfl)
  obtain ⟨fu2, hf2⟩ := h2
  obtain ⟨a', ks, cap', hcs, ksm, ksc, ksb⟩ := read_ints hf2
  have hcs' : ak = a' ∧ len2 = ks.length ∧ cap3 = cap' := by simpa [Value.cells] using hcs
  obtain ⟨rfl, rfl, rfl⟩ := hcs'
  have walk := surv_any av ak cap0 cap3 vs ks f W vsc vsm ksm ksc ksb (wf64 w1)
  refine walk.mono fun e W' ⟨he, hb⟩ => ?_
  subst he
  exact ⟨_, rfl, law_post (by kernel_rfl) (by kernel_rfl) hW' rfl (by kernel_rfl) Try.underlying4 rfl hb⟩

theorem diskSurvives_said : Rows.DiskSurvivesSaid :=
  OpenClaim.holds_of_cond 4 Try.f4 rfl rfl rfl rfl rfl rfl rfl ⟨rfl, rfl, rfl, rfl, rfl⟩ rfl rfl rfl rfl rfl (by kernel_rfl) Try.func4 (by kernel_rfl)
    (of_decide_eq_true (by kernel_rfl)) (by unfold Func.isWrapper; first | (rw [if_pos (by decide +kernel)]; kernel_rfl) | (rw [if_neg (by decide +kernel)]; exact ⟨rfl, rfl⟩))
    (fun os started H enc _ F => by rw [OpenClaim.pre_eq_preRow]; exact diskSurvives_lifted os started H enc F)

end Go.Proofs.Ytkphmkhdlkdphaa
