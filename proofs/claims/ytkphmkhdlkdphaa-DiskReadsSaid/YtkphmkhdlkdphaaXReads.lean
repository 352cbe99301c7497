/- For all lists of acts, files, offsets, strings and sizes the law DiskReads returns true and leaves its arguments as they were. Conditions: none. -/
import Derived.Test.YtkphmkhdlkdphaaR3
import Derived.Test.YtkphmkhdlkdphaaLaw
import Derived.Test.YtkphmkhdlkdphaaRows
import Derived.ProofKit
namespace Go.Proofs.Ytkphmkhdlkdphaa
open Go.RowKit Go.WideShapes Go.ChangeShapes

theorem own : ownKnob Try.prog.godebug = none := by kernel_rfl
theorem reads_any (a : Option Addr) (cap : Nat) (vs : List Ac) (f at' n : Int) (s : ByteArray) (w : World) (hv : ACells w a vs) (hl : vs.length ≤ 9223372036854775807) (hf : -9223372036854775808 ≤ f ∧ f ≤ 9223372036854775807)
    (ha : -9223372036854775808 ≤ at' ∧ at' ≤ 9223372036854775807) (hn : -9223372036854775808 ≤ n ∧ n ≤ 9223372036854775807) (hs : s.size ≤ 9223372036854775807) :
    Calls Try.prog 7 #[.slice a vs.length cap, .int .i64 f, .int .i64 at', .string s, .int .i64 n] w (Gives (.bool true) w) := by
  by_cases hx : few vs = false ∨ 300 < s.size ∨ at' < 0 ∨ 3000 < at' ∨ n < 0
  · exact reads_out a cap vs f at' n s w hv hl hs hx
  · have h1 : few vs = true := by
      cases e : few vs
      · exact absurd (.inl e) hx
      · rfl
    have h2 : s.size ≤ 300 ∧ 0 ≤ at' ∧ at' ≤ 3000 ∧ 0 ≤ n := by
      have := fun e => hx (.inr e)
      omega
    obtain ⟨h2, h3, h4, h5⟩ := h2
    by_cases hd : (runs vs St.new).down = true ∨ f < 0 ∨ 15 < f
    · exact reads_down a cap vs f at' n s w hv hl h1 h2 ⟨h3, h4⟩ h5 hf hd
    · have hdn : (runs vs St.new).down = false := by
        cases e : (runs vs St.new).down
        · rfl
        · exact absurd (.inl e) hd
      have hff : 0 ≤ f ∧ f ≤ 15 := by
        have := fun e => hd (.inr e)
        omega
      obtain ⟨k, rfl⟩ : ∃ k : Nat, at' = k := ⟨at'.toNat, by omega⟩
      obtain ⟨m, rfl⟩ : ∃ m : Nat, n = m := ⟨n.toNat, by omega⟩
      exact reads_main a cap vs f k m s w hv hl h1 h2 (by omega) (by omega) hdn hff.1 hff.2

theorem diskReads_reads (os : Os) {H : Type} (enc : TypeId × Value → H) : ∃ places, DataW.whole enc Try.prog ((World.holding Try.prog os ⟨#[], #[], []⟩).forCall (fun _ _ => 0) ⟨#[], #[.slice none 0 0, .int .i64 0, .int .i64 0, .string ⟨#[]⟩, .int .i64 0], []⟩).memory Try.f7.params.toList Rows.diskReadsSpec.vars false (#[.slice none 0 0, .int .i64 0, .int .i64 0, .string ⟨#[]⟩, .int .i64 0] : Array Value).toList 8 = some ([.nil, .lit (.int .i64 0), .lit (.int .i64 0), .lit (.string []), .lit (.int .i64 0)], [], places) :=
  ⟨[], by kernel_rfl⟩

set_option maxRecDepth 100000 in
theorem diskReads_lifted (os : Os) (started : os.Started) (H : Type) (enc : TypeId × Value → H) (F : Stop.Interp) :
    ReturnsInHanded {} Try.checked os 7 .any ((OpenSpec.ofChange Rows.diskReadsSpec).preRow enc Try.prog Try.f7 Rows.diskReadsRow.domain false Rows.diskReadsRow.laid) (((OpenSpec.ofChange Rows.diskReadsSpec).at F).post enc Try.prog Try.f7 false true false false) := by
  obtain ⟨places, hx⟩ := diskReads_reads os enc
  refine returnsInHanded_of_row (C := Try.checked) (s := OpenSpec.ofChange Rows.diskReadsSpec) own started (by kernel_rfl) Try.func7
    (witness_row_atRef (enc := enc) (C := Try.checked) false (World.holding Try.prog os ⟨#[], #[], []⟩) #[.slice none 0 0, .int .i64 0, .int .i64 0, .string ⟨#[]⟩, .int .i64 0] rfl (by kernel_rfl) (by kernel_rfl) (by kernel_rfl)
      (OpenSpec.preRow_of_cond 8 hx (by kernel_rfl) (fun k hk => by cases hk) (by kernel_rfl) ⟨[], rfl, List.nodup_nil, fun b off h => by cases h⟩)) ?_
  intro W base args ds gs before hval0 hW _ _ hreach hL hsh _
  have hval : ∀ (j : Nat) t v, Try.f7.params[j]? = some t → args[j]? = some v → Value.okWide Try.prog W .any base t v := hval0
  have hW' := hW
  obtain ⟨p, q, hA0, hV, rfl, hfz, hnd⟩ := hW
  have hA : DataW.TrodAll enc Try.prog W 0 (fun _ => true) true Try.f7.params.toList args.toList ds p := hA0
  rw [Try.params7] at hA hval
  obtain ⟨v0, vs0, d0, ds0, p0, q0, hargs, rfl, rfl, h0, r0⟩ := trodAll_cons hA
  obtain ⟨v1, vs1, d1, ds1, p1, q1, rfl, rfl, rfl, h1, r1⟩ := trodAll_cons r0
  obtain ⟨v2, vs2, d2, ds2, p2, q2, rfl, rfl, rfl, h2, r2⟩ := trodAll_cons r1
  obtain ⟨v3, vs3, d3, ds3, p3, q3, rfl, rfl, rfl, h3, r3⟩ := trodAll_cons r2
  obtain ⟨v4, vs4, d4, ds4, p4, q4, rfl, rfl, rfl, h4, r4⟩ := trodAll_cons r3
  obtain ⟨rfl, rfl, rfl⟩ := trodAll_nil r4
  obtain rfl : args = #[v0, v1, v2, v3, v4] := by cases args; simp_all
  obtain ⟨rfl, rfl⟩ := trodVars_none hV
  obtain ⟨av, len0, cap0, rfl⟩ := okWide_slice Try.underlying22 (hval 0 22 v0 rfl rfl)
  obtain ⟨fu0, hf0⟩ := h0
  obtain ⟨a, vs, cap, hcs, hvm, hvc⟩ := read_acts hf0
  have hcs' : av = a ∧ len0 = vs.length ∧ cap0 = cap := by simpa [Value.cells] using hcs
  obtain ⟨rfl, rfl, rfl⟩ := hcs'
  obtain ⟨fu1, hf1⟩ := h1
  obtain ⟨f, rfl⟩ := okWide_int Try.underlying3 (hval 1 3 v1 rfl rfl)
  obtain ⟨f', e1, _, w1⟩ := DataW.trod_int Try.underlying3 hf1
  obtain rfl : f = f' := by simpa [Value.cells] using e1
  obtain ⟨fu2, hf2⟩ := h2
  obtain ⟨at', rfl⟩ := okWide_int Try.underlying3 (hval 2 3 v2 rfl rfl)
  obtain ⟨at2, e2, _, w2⟩ := DataW.trod_int Try.underlying3 hf2
  obtain rfl : at' = at2 := by simpa [Value.cells] using e2
  obtain ⟨fu3, hf3⟩ := h3
  obtain ⟨s, rfl⟩ := okWide_string Try.underlying9 (hval 3 9 v3 rfl rfl)
  obtain ⟨s2, e3, _, w3⟩ := DataW.trod_string Try.underlying9 hf3
  obtain rfl : s = s2 := by simpa [Value.cells] using e3
  obtain ⟨fu4, hf4⟩ := h4
  obtain ⟨n, rfl⟩ := okWide_int Try.underlying3 (hval 4 3 v4 rfl rfl)
  obtain ⟨n2, e4, _, w4⟩ := DataW.trod_int Try.underlying3 hf4
  obtain rfl : n = n2 := by simpa [Value.cells] using e4
  have walk := reads_any av cap0 vs f at' n s W hvc hvm (wf64 w1) (wf64 w2) (wf64 w4) (by rw [maxLen_eq] at w3; exact w3)
  refine walk.mono fun e W' ⟨he, hb⟩ => ?_
  subst he
  exact ⟨_, rfl, law_post (by kernel_rfl) (by kernel_rfl) hW' rfl (by kernel_rfl) Try.underlying4 rfl hb⟩

theorem diskReads_said : Rows.DiskReadsSaid :=
  OpenClaim.holds_of_cond 7 Try.f7 rfl rfl rfl rfl rfl rfl rfl ⟨rfl, rfl, rfl, rfl, rfl⟩ rfl rfl rfl rfl rfl (by kernel_rfl) Try.func7 (by kernel_rfl)
    (of_decide_eq_true (by kernel_rfl)) (by unfold Func.isWrapper; first | (rw [if_pos (by decide +kernel)]; kernel_rfl) | (rw [if_neg (by decide +kernel)]; exact ⟨rfl, rfl⟩))
    (fun os started H enc _ F => by rw [OpenClaim.pre_eq_preRow]; exact diskReads_lifted os started H enc F)

end Go.Proofs.Ytkphmkhdlkdphaa
