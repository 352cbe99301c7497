/- kitbagref04: Int. WRITTEN by big/gen_rint.py. -/
import Derived.Test.YtkijkofdhfjodaaDoorLBt15
set_option maxRecDepth 100000
namespace Go.Proofs.YtkijkofdhfjodaaDoor.Bi
open Go.RowKit

set_option maxHeartbeats 8000000 in
theorem rint_low (va : Value) (a : Int) (w : World) (ha : IsB w va a) (hlo : a < -9223372036854775808) :
    Calls Tryd.prog 16 #[va] w fun e w' => e = .returned (.tuple #[.int .i64 0, .bool false]) ∧ RowKit.Below w.heap.size w w' := by
  obtain ⟨sa, rfl, hia⟩ := id ha
  have HA := Lib.hid ha
  obtain ⟨aa, ca, rfl, _⟩ := hia.open
  obtain ⟨zl, ezl⟩ : ∃ z : Int, -9223372036854775808 = z := ⟨_, rfl⟩
  have HOL : Hid (∀ W, Calls Tryd.prog 31 #[.int .i64 (-9223372036854775808)] W (AnsB zl W)) := by
    unfold Hid; subst ezl; exact fun W => rof_any _ (by omega) (by omega) W
  have HC1 := Lib.hid (fun W v (h1 : IsB W (.agg #[.int .i64 a.sign, .slice aa (digs a.natAbs).length ca]) a) (h2 : IsB W v zl) => rcompare_ok _ v a zl W h1 h2)
  rw [cmpI_lt (show a < zl by omega)] at HC1
  obtain ⟨na, ena⟩ : ∃ n, (digs a.natAbs).length = n := ⟨_, rfl⟩
  rw [ena] at HA HC1 ⊢
  obtain ⟨x, ex⟩ : ∃ x, a.sign = x := ⟨_, rfl⟩
  rw [ex] at HA HC1 ⊢
  have HX0 := Lib.hid (Bu.start w x (.slice aa na ca))
  clear ha hia ena ezl hlo ex
  go_enter Tryd.func16, Tryd.ntmps16
  go_wp2_with fail
  refine (risb_any (HA.out.later HX0.out.below)).mono ?_
  rintro e w1 ⟨rfl, hb1⟩
  have HX1 := Lib.hid (HX0.out.later hb1)
  clear hb1
  obtain ⟨c0, c01⟩ := HX1.out.cells
  go_wp2_with fail
  have HXD := Lib.hid (HX1.out.heap (W' := w1.drew) rfl rfl rfl rfl)
  have e2 := HXD.out.cells
  clear c0 c01
  refine wp_region_held_drew (S := (fun W => W.cell? ⟨w.heap.size, 0, none⟩ = some (.int .i64 x) ∧ W.cell? ⟨w.heap.size, 1, none⟩ = some (.slice aa na ca))) (by kernel_rfl) e2 (fun hHeld => ?_)
  refine wpAnyH_take (i := 0) (oi := { dst := some 10, op := Go.Op.load 24 (Go.Operand.tmp 1), type := 24, pos := "ref.go:188", after := #[], guard := none }) (v := ?_) rfl (by kernel_rfl) (by kernel_rfl) (by kernel_rfl) (fun _ _ _ h => h) (Or.inl ⟨by rfl, ?_⟩) (by assumption) ?_
  rotate_left
  focus (intro w hSw; (try dsimp only at hSw); go_simp; (try with_reducible rfl))
  try simp only [Act.put, List.setIfInBounds_toArray, List.set_cons_zero, List.set_cons_succ]
  refine wpAnyH_take (i := 1) (oi := { dst := some 11, op := Go.Op.move (Go.Operand.tmp 4), type := 3, pos := "ref.go:188", after := #[], guard := none }) (v := ?_) rfl (by kernel_rfl) (by kernel_rfl) (by kernel_rfl) (fun _ _ _ h => h) (Or.inl ⟨by rfl, ?_⟩) (by assumption) ?_
  rotate_left
  focus (intro w hSw; (try dsimp only at hSw); go_simp; (try with_reducible rfl))
  try simp only [Act.put, List.setIfInBounds_toArray, List.set_cons_zero, List.set_cons_succ]
  refine wpAnyH_ready (rs := [2]) (by kernel_rfl) (by simp) ?_
  refine AllReadyH.cons (o := { dst := some 12, op := Go.Op.call { callee := Go.Callee.value (Go.Operand.func 31), args := #[Go.Operand.tmp 11], argTypes := #[3] }, type := 24, pos := "ref.go:188", after := #[{ on := 1, ground := Go.Ground.data }], guard := none }) rfl (fun K hK => ?_) AllReadyH.nil
  first | go_at_call 31 | (rw [if_pos ?_]; rotate_left; (focus rfl); go_simp) | skip
  try go_at_call 31
  refine (HOL.out _).mono ?_
  rintro e w3 ⟨s3, rfl, hi3, hb3, _⟩
  obtain ⟨a3, cc3, rfl, hj3⟩ := hi3.open
  have HX3 := Lib.hid (HXD.out.later hb3)
  have x3 := HX3.out.cells
  have HI3 : Hid (IsB w3 (.agg #[.int .i64 zl.sign, .slice a3 (digs zl.natAbs).length cc3]) zl) := ⟨_, rfl, hj3⟩
  clear hi3 hj3 hb3
  try dsimp only
  refine hK.out _ _ (by (try dsimp only); exact x3) (fun hHeld2 => ?_)
  clear hK K hHeld
  have hHeld := hHeld2
  clear hHeld2
  try simp only [Act.put, List.setIfInBounds_toArray, List.set_cons_zero, List.set_cons_succ]
  refine wpAnyH_ready (rs := [3]) (by kernel_rfl) (by simp) ?_
  refine AllReadyH.cons (o := { dst := some 13, op := Go.Op.call { callee := Go.Callee.value (Go.Operand.func 24), args := #[Go.Operand.tmp 10, Go.Operand.tmp 12], argTypes := #[24, 24] }, type := 3, pos := "ref.go:188", after := #[{ on := 0, ground := Go.Ground.data }, { on := 2, ground := Go.Ground.data }, { on := 2, ground := Go.Ground.chain }], guard := none }) rfl (fun K hK => ?_) AllReadyH.nil
  first | go_at_call 24 | (rw [if_pos ?_]; rotate_left; (focus rfl); go_simp) | skip
  try go_at_call 24
  refine (HC1.out _ _ (HA.out.later HX3.out.below) HI3.out).mono ?_
  rintro e w4 ⟨rfl, hb4⟩
  have HX4 := Lib.hid (HX3.out.later hb4)
  have x4 := HX4.out.cells
  clear hb4
  try dsimp only
  refine hK.out _ _ (by (try dsimp only); exact x4) (fun hHeld2 => ?_)
  clear hK K hHeld
  have hHeld := hHeld2
  clear hHeld2
  try simp only [Act.put, List.setIfInBounds_toArray, List.set_cons_zero, List.set_cons_succ]
  refine wpAnyH_take (i := 4) (oi := { dst := some 14, op := Go.Op.binOp Go.BinOp.lss 3 (Go.Operand.tmp 13) (Go.Operand.const (Go.Value.int Go.IntKind.i64 0)) 3, type := 4, pos := "ref.go:188", after := #[{ on := 3, ground := Go.Ground.data }], guard := none }) (v := ?_) rfl (by kernel_rfl) (by kernel_rfl) (by kernel_rfl) (fun _ _ _ h => h) (Or.inl ⟨by rfl, ?_⟩) (by assumption) ?_
  rotate_left
  focus (intro w hSw; (try dsimp only at hSw); go_simp; (try with_reducible rfl))
  try simp only [Act.put, List.setIfInBounds_toArray, List.set_cons_zero, List.set_cons_succ]
  refine wpAnyH_take (i := 5) (oi := { dst := some 15, op := Go.Op.move (Go.Operand.tmp 14), type := 4, pos := "ref.go:188", after := #[{ on := 4, ground := Go.Ground.data }, { on := 3, ground := Go.Ground.chain }], guard := none }) (v := ?_) rfl (by kernel_rfl) (by kernel_rfl) (by kernel_rfl) (fun _ _ _ h => h) (Or.inl ⟨by rfl, ?_⟩) (by assumption) ?_
  rotate_left
  focus (intro w hSw; (try dsimp only at hSw); go_simp; (try with_reducible rfl))
  try simp only [Act.put, List.setIfInBounds_toArray, List.set_cons_zero, List.set_cons_succ]
  refine wpAnyH_take (i := 6) (oi := { dst := some 16, op := Go.Op.load 24 (Go.Operand.tmp 1), type := 24, pos := "ref.go:188", after := #[{ on := 5, ground := Go.Ground.guard }], guard := some (5, false) }) (v := undef) rfl (by kernel_rfl) (by kernel_rfl) (by kernel_rfl) (fun _ _ _ h => h) (Or.inr ⟨by rfl, rfl⟩) (by assumption) ?_
  try simp only [Act.put, List.setIfInBounds_toArray, List.set_cons_zero, List.set_cons_succ]
  refine wpAnyH_take (i := 7) (oi := { dst := some 17, op := Go.Op.call { callee := Go.Callee.value (Go.Operand.func 31), args := #[Go.Operand.const (Go.Value.int Go.IntKind.i64 9223372036854775807)], argTypes := #[3] }, type := 24, pos := "ref.go:188", after := #[{ on := 5, ground := Go.Ground.chain }, { on := 5, ground := Go.Ground.guard }], guard := some (5, false) }) (v := undef) rfl (by kernel_rfl) (by kernel_rfl) (by kernel_rfl) (fun _ _ _ h => h) (Or.inr ⟨by rfl, rfl⟩) (by assumption) ?_
  try simp only [Act.put, List.setIfInBounds_toArray, List.set_cons_zero, List.set_cons_succ]
  refine wpAnyH_take (i := 8) (oi := { dst := some 18, op := Go.Op.call { callee := Go.Callee.value (Go.Operand.func 24), args := #[Go.Operand.tmp 16, Go.Operand.tmp 17], argTypes := #[24, 24] }, type := 3, pos := "ref.go:188", after := #[{ on := 6, ground := Go.Ground.data }, { on := 7, ground := Go.Ground.data }, { on := 7, ground := Go.Ground.chain }, { on := 5, ground := Go.Ground.guard }], guard := some (5, false) }) (v := undef) rfl (by kernel_rfl) (by kernel_rfl) (by kernel_rfl) (fun _ _ _ h => h) (Or.inr ⟨by rfl, rfl⟩) (by assumption) ?_
  try simp only [Act.put, List.setIfInBounds_toArray, List.set_cons_zero, List.set_cons_succ]
  refine wpAnyH_take (i := 9) (oi := { dst := some 19, op := Go.Op.binOp Go.BinOp.gtr 3 (Go.Operand.tmp 18) (Go.Operand.const (Go.Value.int Go.IntKind.i64 0)) 3, type := 4, pos := "ref.go:188", after := #[{ on := 8, ground := Go.Ground.data }, { on := 5, ground := Go.Ground.guard }], guard := some (5, false) }) (v := undef) rfl (by kernel_rfl) (by kernel_rfl) (by kernel_rfl) (fun _ _ _ h => h) (Or.inr ⟨by rfl, rfl⟩) (by assumption) ?_
  try simp only [Act.put, List.setIfInBounds_toArray, List.set_cons_zero, List.set_cons_succ]
  refine wpAnyH_take (i := 10) (oi := { dst := some 20, op := Go.Op.pick (Go.Operand.tmp 15) (Go.Operand.const (Go.Value.bool true)) (Go.Operand.tmp 19), type := 4, pos := "ref.go:188", after := #[{ on := 5, ground := Go.Ground.data }, { on := 9, ground := Go.Ground.data }], guard := none }) (v := ?_) rfl (by kernel_rfl) (by kernel_rfl) (by kernel_rfl) (fun _ _ _ h => h) (Or.inl ⟨by rfl, ?_⟩) (by assumption) ?_
  rotate_left
  focus (intro w hSw; (try dsimp only at hSw); go_simp; (try with_reducible rfl))
  try simp only [Act.put, List.setIfInBounds_toArray, List.set_cons_zero, List.set_cons_succ]
  refine wpAnyH_done (by kernel_rfl) ?_ _
  go_wp2_with fail
  go_ret2
  exact ⟨rfl, HX4.out.below⟩

/-- Int of any argument. -/
theorem rint_any (va : Value) (s : Int) (l : List Int) (w : World) (ha : Arg w va s l) :
    Calls Tryd.prog 16 #[va] w fun e w' => e = .returned (.tuple #[.int .i64 (intS s l).1, .bool (intS s l).2]) ∧ RowKit.Below w.heap.size w w' := by
  cases hr : rightB s l
  · have e : intS s l = (0, false) := by unfold intS; rw [hr]; simp
    rw [e]; exact rint_bad va s l w ha hr
  · obtain ⟨a, rfl, rfl⟩ := right_of hr
    have hB : IsB w va a := ha
    rcases Int.lt_or_le a (-9223372036854775808) with h | h
    · rw [intS_out (by omega)]; exact rint_low va a w hB h
    · by_cases k : a ≤ 9223372036854775807
      · rw [intS_in ⟨h, k⟩]; exact rint_case va a w hB h true (decide_eq_true k)
      · rw [intS_out (by omega)]; exact rint_case va a w hB h false (decide_eq_false k)
end Go.Proofs.YtkijkofdhfjodaaDoor.Bi
