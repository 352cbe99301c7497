/- For all lists of acts and scheduled crashes the law DiskArms returns true and leaves its arguments as they were. Conditions: none. -/
import Derived.Test.YtkphmkhdlkdphaaAr
import Derived.Test.YtkphmkhdlkdphaaLaw
import Derived.Test.YtkphmkhdlkdphaaRows
import Derived.ProofKit
namespace Go.Proofs.Ytkphmkhdlkdphaa
open Go.RowKit Go.WideShapes Go.ChangeShapes

theorem own : ownKnob Try.prog.godebug = none := by kernel_rfl
theorem arms_any (a a3 : Option Addr) (cap cap3 : Nat) (vs : List Ac) (ks : List Int) (n : Int) (w : World) (hv : ACells w a vs) (hl : vs.length ≤ 9223372036854775807) (hl3 : ks.length ≤ 9223372036854775807)
    (hk : Ints w (.slice a3 ks.length cap3) ks) (hkb : ∀ x ∈ ks, -9223372036854775808 ≤ x ∧ x ≤ 9223372036854775807) :
    Calls Try.prog 6 #[.slice a vs.length cap, .int .i64 n, .slice a3 ks.length cap3] w (Gives (.bool true) w) := by
  by_cases hx : few vs = false ∨ 60 < ks.length ∨ n < 1 ∨ 60 < n
  · exact arms_out a a3 cap cap3 vs ks n w hv hl hl3 hx
  · have h1 : few vs = true := by
      cases e : few vs
      · exact absurd (.inl e) hx
      · rfl
    have h3 : ks.length ≤ 60 ∧ 1 ≤ n ∧ n ≤ 60 := by
      have := fun e => hx (.inr e)
      omega
    obtain ⟨m, rfl⟩ : ∃ m : Nat, n = m := ⟨n.toNat, by omega⟩
    exact arms_main a a3 cap cap3 vs ks m w hv hl h3.1 hk hkb h1 (by omega) (by omega)

theorem diskArms_reads (os : Os) {H : Type} (enc : TypeId × Value → H) : ∃ places, DataW.whole enc Try.prog ((World.holding Try.prog os ⟨#[], #[], []⟩).forCall (fun _ _ => 0) ⟨#[], #[.slice none 0 0, .int .i64 0, .slice none 0 0], []⟩).memory Try.f6.params.toList Rows.diskArmsSpec.vars false (#[.slice none 0 0, .int .i64 0, .slice none 0 0] : Array Value).toList 8 = some ([.nil, .lit (.int .i64 0), .nil], [], places) :=
  ⟨[], by kernel_rfl⟩

set_option maxRecDepth 100000 in
theorem diskArms_lifted (os : Os) (started : os.Started) (H : Type) (enc : TypeId × Value → H) (F : Stop.Interp) :
    ReturnsInHanded {} Try.checked os 6 .any ((OpenSpec.ofChange Rows.diskArmsSpec).preRow enc Try.prog Try.f6 Rows.diskArmsRow.domain false Rows.diskArmsRow.laid) (((OpenSpec.ofChange Rows.diskArmsSpec).at F).post enc Try.prog Try.f6 false true false false) := by
  obtain ⟨places, hx⟩ := diskArms_reads os enc
  refine returnsInHanded_of_row (C := Try.checked) (s := OpenSpec.ofChange Rows.diskArmsSpec) own started (by kernel_rfl) Try.func6
    (witness_row_atRef (enc := enc) (C := Try.checked) false (World.holding Try.prog os ⟨#[], #[], []⟩) #[.slice none 0 0, .int .i64 0, .slice none 0 0] rfl (by kernel_rfl) (by kernel_rfl) (by kernel_rfl)
      (OpenSpec.preRow_of_cond 8 hx (by kernel_rfl) (fun k hk => by cases hk) (by kernel_rfl) ⟨[], rfl, List.nodup_nil, fun b off h => by cases h⟩)) ?_
  intro W base args ds gs before hval0 hW _ _ hreach hL hsh _
  have hval : ∀ (j : Nat) t v, Try.f6.params[j]? = some t → args[j]? = some v → Value.okWide Try.prog W .any base t v := hval0
  have hW' := hW
  obtain ⟨p, q, hA0, hV, rfl, hfz, hnd⟩ := hW
  have hA : DataW.TrodAll enc Try.prog W 0 (fun _ => true) true Try.f6.params.toList args.toList ds p := hA0
  rw [Try.params6] at hA hval
  obtain ⟨v0, vs0, d0, ds0, p0, q0, hargs, rfl, rfl, h0, r0⟩ := trodAll_cons hA
  obtain ⟨v1, vs1, d1, ds1, p1, q1, rfl, rfl, rfl, h1, r1⟩ := trodAll_cons r0
  obtain ⟨v2, vs2, d2, ds2, p2, q2, rfl, rfl, rfl, h2, r2⟩ := trodAll_cons r1
  obtain ⟨rfl, rfl, rfl⟩ := trodAll_nil r2
  obtain rfl : args = #[v0, v1, v2] := by cases args; simp_all
  obtain ⟨rfl, rfl⟩ := trodVars_none hV
  obtain ⟨av, len0, cap0, rfl⟩ := okWide_slice Try.underlying22 (hval 0 22 v0 rfl rfl)
  obtain ⟨fu0, hf0⟩ := h0
  obtain ⟨a', vs, cap', hcs, vsm, vsc⟩ := read_acts hf0
  have hcs' : av = a' ∧ len0 = vs.length ∧ cap0 = cap' := by simpa [Value.cells] using hcs
  obtain ⟨rfl, rfl, rfl⟩ := hcs'
  obtain ⟨fu1, hf1⟩ := h1
  obtain ⟨n, rfl⟩ := okWide_int Try.underlying3 (hval 1 3 v1 rfl rfl)
  obtain ⟨n2, e1, _, w1⟩ := DataW.trod_int Try.underlying3 hf1
  obtain rfl : n = n2 := by simpa [Value.cells] using e1
  obtain ⟨ak, len2, cap3, rfl⟩ := okWide_slice Try.underlying31 (hval 2 31 v2 rfl rfl)
  obtain ⟨fu2, hf2⟩ := h2
  obtain ⟨a', ks, cap', hcs, ksm, ksc, ksb⟩ := read_ints hf2
  have hcs' : ak = a' ∧ len2 = ks.length ∧ cap3 = cap' := by simpa [Value.cells] using hcs
  obtain ⟨rfl, rfl, rfl⟩ := hcs'
  have walk := arms_any av ak cap0 cap3 vs ks n W vsc vsm ksm ksc ksb
  refine walk.mono fun e W' ⟨he, hb⟩ => ?_
  subst he
  exact ⟨_, rfl, law_post (by kernel_rfl) (by kernel_rfl) hW' rfl (by kernel_rfl) Try.underlying4 rfl hb⟩

theorem diskArms_said : Rows.DiskArmsSaid :=
  OpenClaim.holds_of_cond 6 Try.f6 rfl rfl rfl rfl rfl rfl rfl ⟨rfl, rfl, rfl, rfl, rfl⟩ rfl rfl rfl rfl rfl (by kernel_rfl) Try.func6 (by kernel_rfl)
    (of_decide_eq_true (by kernel_rfl)) (by unfold Func.isWrapper; first | (rw [if_pos (by decide +kernel)]; kernel_rfl) | (rw [if_neg (by decide +kernel)]; exact ⟨rfl, rfl⟩))
    (fun os started H enc _ F => by rw [OpenClaim.pre_eq_preRow]; exact diskArms_lifted os started H enc F)

end Go.Proofs.Ytkphmkhdlkdphaa
