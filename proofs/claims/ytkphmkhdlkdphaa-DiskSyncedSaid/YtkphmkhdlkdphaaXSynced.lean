/- For all lists of acts, files and crashes the law DiskSynced returns true and leaves its arguments as they were. Conditions: none. -/
import Derived.Test.YtkphmkhdlkdphaaY
import Derived.Test.YtkphmkhdlkdphaaLaw
import Derived.Test.YtkphmkhdlkdphaaRows
import Derived.ProofKit
namespace Go.Proofs.Ytkphmkhdlkdphaa
open Go.RowKit Go.WideShapes Go.ChangeShapes

theorem own : ownKnob Try.prog.godebug = none := by kernel_rfl
theorem synced_any (a a2 a3 : Option Addr) (cap cap2 cap3 : Nat) (vs us : List Ac) (ks : List Int) (f : Int) (w : World) (hv : ACells w a vs) (hl : vs.length ≤ 9223372036854775807) (hu : ACells w a2 us) (hl2 : us.length ≤ 9223372036854775807) (hl3 : ks.length ≤ 9223372036854775807)
    (hk : Ints w (.slice a3 ks.length cap3) ks) (hkb : ∀ x ∈ ks, -9223372036854775808 ≤ x ∧ x ≤ 9223372036854775807) (hf : -9223372036854775808 ≤ f ∧ f ≤ 9223372036854775807) :
    Calls Try.prog 5 #[.slice a vs.length cap, .int .i64 f, .slice a2 us.length cap2, .slice a3 ks.length cap3] w (Gives (.bool true) w) := by
  by_cases hx : few vs = false ∨ few us = false ∨ 60 < ks.length
  · exact synced_out a a2 a3 cap cap2 cap3 vs us ks f w hv hl hu hl2 hl3 hx
  · have h1 : few vs = true := by
      cases e : few vs
      · exact absurd (.inl e) hx
      · rfl
    have h2 : few us = true := by
      cases e : few us
      · exact absurd (.inr (.inl e)) hx
      · rfl
    have h3 : ks.length ≤ 60 := by
      have := fun e => hx (.inr (.inr e))
      omega
    by_cases hs : syncR (runs vs St.new) f = 0
    · exact synced_main a a2 a3 cap cap2 cap3 vs us ks f w hv hl hu hl2 h3 hk hkb h1 h2 hf hs
    · exact synced_fail a a2 a3 cap cap2 cap3 vs us ks f w hv hl hu hl2 h3 h1 h2 hf hs

theorem diskSynced_reads (os : Os) {H : Type} (enc : TypeId × Value → H) : ∃ places, DataW.whole enc Try.prog ((World.holding Try.prog os ⟨#[], #[], []⟩).forCall (fun _ _ => 0) ⟨#[], #[.slice none 0 0, .int .i64 0, .slice none 0 0, .slice none 0 0], []⟩).memory Try.f5.params.toList Rows.diskSyncedSpec.vars false (#[.slice none 0 0, .int .i64 0, .slice none 0 0, .slice none 0 0] : Array Value).toList 8 = some ([.nil, .lit (.int .i64 0), .nil, .nil], [], places) :=
  ⟨[], by kernel_rfl⟩

set_option maxRecDepth 100000 in
theorem diskSynced_lifted (os : Os) (started : os.Started) (H : Type) (enc : TypeId × Value → H) (F : Stop.Interp) :
    ReturnsInHanded {} Try.checked os 5 .any ((OpenSpec.ofChange Rows.diskSyncedSpec).preRow enc Try.prog Try.f5 Rows.diskSyncedRow.domain false Rows.diskSyncedRow.laid) (((OpenSpec.ofChange Rows.diskSyncedSpec).at F).post enc Try.prog Try.f5 false true false false) := by
  obtain ⟨places, hx⟩ := diskSynced_reads os enc
  refine returnsInHanded_of_row (C := Try.checked) (s := OpenSpec.ofChange Rows.diskSyncedSpec) own started (by kernel_rfl) Try.func5
    (witness_row_atRef (enc := enc) (C := Try.checked) false (World.holding Try.prog os ⟨#[], #[], []⟩) #[.slice none 0 0, .int .i64 0, .slice none 0 0, .slice none 0 0] rfl (by kernel_rfl) (by kernel_rfl) (by kernel_rfl)
      (OpenSpec.preRow_of_cond 8 hx (by kernel_rfl) (fun k hk => by cases hk) (by kernel_rfl) ⟨[], rfl, List.nodup_nil, fun b off h => by cases h⟩)) ?_
  intro W base args ds gs before hval0 hW _ _ hreach hL hsh _
  have hval : ∀ (j : Nat) t v, Try.f5.params[j]? = some t → args[j]? = some v → Value.okWide Try.prog W .any base t v := hval0
  have hW' := hW
  obtain ⟨p, q, hA0, hV, rfl, hfz, hnd⟩ := hW
  have hA : DataW.TrodAll enc Try.prog W 0 (fun _ => true) true Try.f5.params.toList args.toList ds p := hA0
  rw [Try.params5] at hA hval
  obtain ⟨v0, vs0, d0, ds0, p0, q0, hargs, rfl, rfl, h0, r0⟩ := trodAll_cons hA
  obtain ⟨v1, vs1, d1, ds1, p1, q1, rfl, rfl, rfl, h1, r1⟩ := trodAll_cons r0
  obtain ⟨v2, vs2, d2, ds2, p2, q2, rfl, rfl, rfl, h2, r2⟩ := trodAll_cons r1
  obtain ⟨v3, vs3, d3, ds3, p3, q3, rfl, rfl, rfl, h3, r3⟩ := trodAll_cons r2
  obtain ⟨rfl, rfl, rfl⟩ := trodAll_nil r3
  obtain rfl : args = #[v0, v1, v2, v3] := by cases args; simp_all
  obtain ⟨rfl, rfl⟩ := trodVars_none hV
  obtain ⟨av, len0, cap0, rfl⟩ := okWide_slice Try.underlying22 (hval 0 22 v0 rfl rfl)
  obtain ⟨fu0, hf0⟩ := h0
  obtain ⟨a', vs, cap', hcs, vsm, vsc⟩ := read_acts hf0
  have hcs' : av = a' ∧ len0 = vs.length ∧ cap0 = cap' := by simpa [Value.cells] using hcs
  obtain ⟨rfl, rfl, rfl⟩ := hcs'
  obtain ⟨fu1, hf1⟩ := h1
  obtain ⟨f, rfl⟩ := okWide_int Try.underlying3 (hval 1 3 v1 rfl rfl)
  obtain ⟨f2, e1, _, w1⟩ := DataW.trod_int Try.underlying3 hf1
  obtain rfl : f = f2 := by simpa [Value.cells] using e1
  obtain ⟨au, len2, cap2, rfl⟩ := okWide_slice Try.underlying22 (hval 2 22 v2 rfl rfl)
  obtain ⟨fu2, hf2⟩ := h2
  obtain ⟨a', us, cap', hcs, usm, usc⟩ := read_acts hf2
  have hcs' : au = a' ∧ len2 = us.length ∧ cap2 = cap' := by simpa [Value.cells] using hcs
  obtain ⟨rfl, rfl, rfl⟩ := hcs'
  obtain ⟨ak, len3, cap3, rfl⟩ := okWide_slice Try.underlying31 (hval 3 31 v3 rfl rfl)
  obtain ⟨fu3, hf3⟩ := h3
  obtain ⟨a', ks, cap', hcs, ksm, ksc, ksb⟩ := read_ints hf3
  have hcs' : ak = a' ∧ len3 = ks.length ∧ cap3 = cap' := by simpa [Value.cells] using hcs
  obtain ⟨rfl, rfl, rfl⟩ := hcs'
  have walk := synced_any av au ak cap0 cap2 cap3 vs us ks f W vsc vsm usc usm ksm ksc ksb (wf64 w1)
  refine walk.mono fun e W' ⟨he, hb⟩ => ?_
  subst he
  exact ⟨_, rfl, law_post (by kernel_rfl) (by kernel_rfl) hW' rfl (by kernel_rfl) Try.underlying4 rfl hb⟩

theorem diskSynced_said : Rows.DiskSyncedSaid :=
  OpenClaim.holds_of_cond 5 Try.f5 rfl rfl rfl rfl rfl rfl rfl ⟨rfl, rfl, rfl, rfl, rfl⟩ rfl rfl rfl rfl rfl (by kernel_rfl) Try.func5 (by kernel_rfl)
    (of_decide_eq_true (by kernel_rfl)) (by unfold Func.isWrapper; first | (rw [if_pos (by decide +kernel)]; kernel_rfl) | (rw [if_neg (by decide +kernel)]; exact ⟨rfl, rfl⟩))
    (fun os started H enc _ F => by rw [OpenClaim.pre_eq_preRow]; exact diskSynced_lifted os started H enc F)

end Go.Proofs.Ytkphmkhdlkdphaa
