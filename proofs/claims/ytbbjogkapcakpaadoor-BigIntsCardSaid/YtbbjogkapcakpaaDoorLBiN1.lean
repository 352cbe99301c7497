/- The contract of BigInts. -/
import Derived.Test.YtbbjogkapcakpaaDoorLBi36
set_option maxRecDepth 100000
namespace Go.Proofs.YtbbjogkapcakpaaDoor.Bi
open Go.RowKit

set_option maxHeartbeats 8000000 in
theorem BigInts_any (va vb : Int) (w : World) (he : Env w) (ha : -9223372036854775808 ≤ va ∧ va ≤ 9223372036854775807) (hb : -9223372036854775808 ≤ vb ∧ vb ≤ 9223372036854775807) :
    Calls Tryd.prog 5 #[.int .i64 va, .int .i64 vb] w fun e w' => e = .returned (.bool true) ∧ RowKit.Below w.heap.size w w' := by
  have HE := Lib.hid he
  have HA := Lib.hid ha
  have HB := Lib.hid hb
  have Za : Hid (Sz 4 va) := Sz.small (by omega)
  have Zb : Hid (Sz 4 vb) := Sz.small (by omega)
  have Zn : Hid (Sz 4 (-va)) := Sz.small (by omega)
  obtain ⟨tx, htx⟩ : ∃ l, Go.Lib.itoa va = l := ⟨_, rfl⟩
  obtain ⟨ty, hty⟩ : ∃ l, Go.Lib.itoa vb = l := ⟨_, rfl⟩
  have TX := Lib.hid htx
  have TY := Lib.hid hty
  have S0 := Lib.hid (Sq.start w)
  clear he ha hb htx hty
  have hk := Int.lt_trichotomy va vb
  have hmin : va = -9223372036854775808 ∨ va ≠ -9223372036854775808 := Classical.em _
  rcases hk with hk | hk | hk
  case inl =>
    rcases hmin with hmin | hmin
    case inl =>
      have HC : Hid (cmpI va vb = -1) := cmpI_lt hk
      have HM := Lib.hid hmin
      clear hmin
      have hsn : tx ≠ ty := by rw [← TX.out, ← TY.out]; exact fun e => by have := itoa_inj e; omega
      have hs : ((⟨tx.toArray⟩ : ByteArray).toList == (⟨ty.toArray⟩ : ByteArray).toList) = false := str_ne hsn
      have hs1 : (tx == ty) = false := by simpa using hsn
      clear hsn
      have he1 : (va == vb) = false := by rw [beq_eq_false_iff_ne]; omega
      obtain rfl : va = -9223372036854775808 := HM.out
      have hna := HA.out
      have hnb := HB.out
      go_enter Tryd.func5, Tryd.ntmps5
      go_wp2_with fail
      refine (small_any _ (S0.out.env HE.out)).mono ?_
      rintro e w1 ⟨rfl, hb⟩
      have S2 := Lib.hid (S0.out.later hb)
      clear S0
      clear hb
      go_wp2_with fail
      refine (of_k (-9223372036854775808) HA.out _).mono ?_
      rintro e w3 ⟨s3, a3, n3, c3, rfl, hn, hb, hf⟩
      have S3 := Lib.hid (S2.out.ret (sg := s3) hb hn.2 hf)
      have E3 := Lib.hid hn.1
      clear hn hb hf S2
      go_wp2_with fail
      refine (of_k vb HB.out _).mono ?_
      rintro e w4 ⟨s4, a4, n4, c4, rfl, hn, hb, hf⟩
      have S4 := Lib.hid (S3.out.ret (sg := s4) hb hn.2 hf)
      have E4 := Lib.hid hn.1
      clear hn hb hf S3
      obtain ⟨t1, u1⟩ := (S4.out.box (w3.heap.size, s3, .slice a3 n3 c3, digs ((-9223372036854775808) : Int).natAbs) (List.mem_cons_of_mem _ List.mem_cons_self)).cells
      go_wp2_with fail
      clear t1 u1
      refine (int_in ((S4.out.box (w3.heap.size, s3, .slice a3 n3 c3, digs ((-9223372036854775808) : Int).natAbs) (List.mem_cons_of_mem _ List.mem_cons_self)).num E3.out) HA.out rfl).mono ?_
      rintro e w5 ⟨rfl, hb⟩
      have S6 := Lib.hid (S4.out.later hb)
      clear S4
      clear hb
      obtain ⟨t2, u2⟩ := (S6.out.box (w3.heap.size, s3, .slice a3 n3 c3, digs ((-9223372036854775808) : Int).natAbs) (List.mem_cons_of_mem _ List.mem_cons_self)).cells
      go_wp2_with fail
      clear t2 u2
      refine (neg_k ((S6.out.box (w3.heap.size, s3, .slice a3 n3 c3, digs ((-9223372036854775808) : Int).natAbs) (List.mem_cons_of_mem _ List.mem_cons_self)).num E3.out) (Sz.len Za.out)).mono ?_
      rintro e w7 ⟨s7, a7, n7, c7, rfl, hn, hb, hf⟩
      have S8 := Lib.hid (S6.out.later hb)
      clear S6
      have N7 := Lib.hid hn
      clear hn hb hf
      go_wp2_with fail
      refine (int_out N7.out (by omega)).mono ?_
      rintro e w9 ⟨rfl, hb⟩
      have S10 := Lib.hid (S8.out.later hb)
      clear S8
      clear hb
      go_wp2_with fail
      have K0 : ∀ W, Sq w [(w4.heap.size, s4, .slice a4 n4 c4, digs (vb : Int).natAbs), (w3.heap.size, s3, .slice a3 n3 c3, digs ((-9223372036854775808) : Int).natAbs)] W → W.cell? ⟨w3.heap.size, 0, none⟩ = some (.int .i64 s3) ∧ W.cell? ⟨w3.heap.size, 1, none⟩ = some (.slice a3 n3 c3) ∧ W.cell? ⟨w4.heap.size, 0, none⟩ = some (.int .i64 s4) ∧ W.cell? ⟨w4.heap.size, 1, none⟩ = some (.slice a4 n4 c4) := fun W h => ⟨(h.box (w3.heap.size, s3, .slice a3 n3 c3, digs ((-9223372036854775808) : Int).natAbs) (List.mem_cons_of_mem _ List.mem_cons_self)).cells.1, (h.box (w3.heap.size, s3, .slice a3 n3 c3, digs ((-9223372036854775808) : Int).natAbs) (List.mem_cons_of_mem _ List.mem_cons_self)).cells.2, (h.box (w4.heap.size, s4, .slice a4 n4 c4, digs (vb : Int).natAbs) List.mem_cons_self).cells.1, (h.box (w4.heap.size, s4, .slice a4 n4 c4, digs (vb : Int).natAbs) List.mem_cons_self).cells.2⟩
      have KK := Lib.hid K0
      clear K0
      have SD := Lib.hid S10.out.drew
      clear S10
      have e0 := KK.out _ SD.out
      have LA : Hid (Len 100000 (-9223372036854775808)) := Sz.len Za.out
      have LB : Hid (Len 100000 vb) := Sz.len Zb.out
      have V0 := Lib.hid (SD.out.env HE.out)
      have X0 := Lib.hid ((SD.out.box (w3.heap.size, s3, .slice a3 n3 c3, digs ((-9223372036854775808) : Int).natAbs) (List.mem_cons_of_mem _ List.mem_cons_self)).num E3.out)
      refine wp_region_held_drew (S := fun W => W.cell? ⟨w3.heap.size, 0, none⟩ = some (.int .i64 s3) ∧ W.cell? ⟨w3.heap.size, 1, none⟩ = some (.slice a3 n3 c3) ∧ W.cell? ⟨w4.heap.size, 0, none⟩ = some (.int .i64 s4) ∧ W.cell? ⟨w4.heap.size, 1, none⟩ = some (.slice a4 n4 c4)) (by kernel_rfl) e0 (fun hHeld => ?_)
      refine wpAnyH_take (i := 0) (oi := { dst := some 42, op := Go.Op.load 24 (Go.Operand.tmp 6), type := 24, pos := "law.go:193", after := #[], guard := none }) (v := ?_) rfl (by kernel_rfl) (by kernel_rfl) (by kernel_rfl) (fun _ _ _ h => h) (Or.inl ⟨by rfl, ?_⟩) (by assumption) ?_
      rotate_left
      focus (intro w hSw; (try dsimp only at hSw); go_simp; (try with_reducible rfl))
      try simp only [Act.put, List.setIfInBounds_toArray, List.set_cons_zero, List.set_cons_succ]
      refine wpAnyH_ready (rs := [1]) (by kernel_rfl) (by simp) ?_
      refine AllReadyH.cons (o := { dst := some 43, op := Go.Op.call { callee := Go.Callee.value (Go.Operand.func 24), args := #[Go.Operand.tmp 42], argTypes := #[24] }, type := 4, pos := "law.go:193", after := #[{ on := 0, ground := Go.Ground.data }], guard := none }) rfl (fun K hK => ?_) AllReadyH.nil
      first | go_at_call 24 | go_at_call 29 | (rw [if_pos ?_]; rotate_left; (focus rfl); go_simp) | skip
      try go_at_call 24
      refine (right_k X0.out).mono ?_
      rintro e v1 ⟨rfl, hb⟩
      have T1 := Lib.hid (SD.out.later hb)
      have e1 := KK.out _ T1.out
      have V1 := Lib.hid (T1.out.env HE.out)
      have X1 := Lib.hid ((T1.out.box (w3.heap.size, s3, .slice a3 n3 c3, digs ((-9223372036854775808) : Int).natAbs) (List.mem_cons_of_mem _ List.mem_cons_self)).num E3.out)
      clear hb
      try dsimp only
      refine hK.out _ _ (by (try dsimp only); exact e1) (fun hHeld2 => ?_)
      clear hK K hHeld
      have hHeld := hHeld2
      clear hHeld2
      try simp only [Act.put, List.setIfInBounds_toArray, List.set_cons_zero, List.set_cons_succ]
      refine wpAnyH_take (i := 2) (oi := { dst := some 44, op := Go.Op.unOp Go.UnOp.not 4 (Go.Operand.tmp 43), type := 4, pos := "law.go:193", after := #[{ on := 1, ground := Go.Ground.data }], guard := none }) (v := ?_) rfl (by kernel_rfl) (by kernel_rfl) (by kernel_rfl) (fun _ _ _ h => h) (Or.inl ⟨by rfl, ?_⟩) (by assumption) ?_
      rotate_left
      focus (intro w hSw; (try dsimp only at hSw); go_simp; (try with_reducible rfl))
      try simp only [Act.put, List.setIfInBounds_toArray, List.set_cons_zero, List.set_cons_succ]
      refine wpAnyH_take (i := 3) (oi := { dst := some 45, op := Go.Op.move (Go.Operand.tmp 44), type := 4, pos := "law.go:193", after := #[{ on := 2, ground := Go.Ground.data }, { on := 1, ground := Go.Ground.chain }], guard := none }) (v := ?_) rfl (by kernel_rfl) (by kernel_rfl) (by kernel_rfl) (fun _ _ _ h => h) (Or.inl ⟨by rfl, ?_⟩) (by assumption) ?_
      rotate_left
      focus (intro w hSw; (try dsimp only at hSw); go_simp; (try with_reducible rfl))
      try simp only [Act.put, List.setIfInBounds_toArray, List.set_cons_zero, List.set_cons_succ]
      refine wpAnyH_take (i := 4) (oi := { dst := some 46, op := Go.Op.move (Go.Operand.tmp 9), type := 4, pos := "law.go:193", after := #[{ on := 3, ground := Go.Ground.guard }], guard := some (3, false) }) (v := ?_) rfl (by kernel_rfl) (by kernel_rfl) (by kernel_rfl) (fun _ _ _ h => h) (Or.inl ⟨by rfl, ?_⟩) (by assumption) ?_
      rotate_left
      focus (intro w hSw; (try dsimp only at hSw); go_simp; (try with_reducible rfl))
      try simp only [Act.put, List.setIfInBounds_toArray, List.set_cons_zero, List.set_cons_succ]
      refine wpAnyH_take (i := 5) (oi := { dst := some 47, op := Go.Op.unOp Go.UnOp.not 4 (Go.Operand.tmp 46), type := 4, pos := "law.go:193", after := #[{ on := 4, ground := Go.Ground.data }, { on := 3, ground := Go.Ground.guard }], guard := some (3, false) }) (v := ?_) rfl (by kernel_rfl) (by kernel_rfl) (by kernel_rfl) (fun _ _ _ h => h) (Or.inl ⟨by rfl, ?_⟩) (by assumption) ?_
      rotate_left
      focus (intro w hSw; (try dsimp only at hSw); go_simp; (try with_reducible rfl))
      try simp only [Act.put, List.setIfInBounds_toArray, List.set_cons_zero, List.set_cons_succ]
      refine wpAnyH_take (i := 6) (oi := { dst := some 48, op := Go.Op.pick (Go.Operand.tmp 45) (Go.Operand.const (Go.Value.bool true)) (Go.Operand.tmp 47), type := 4, pos := "law.go:193", after := #[{ on := 3, ground := Go.Ground.data }, { on := 5, ground := Go.Ground.data }], guard := none }) (v := ?_) rfl (by kernel_rfl) (by kernel_rfl) (by kernel_rfl) (fun _ _ _ h => h) (Or.inl ⟨by rfl, ?_⟩) (by assumption) ?_
      rotate_left
      focus (intro w hSw; (try dsimp only at hSw); go_simp; (try with_reducible rfl))
      try simp only [Act.put, List.setIfInBounds_toArray, List.set_cons_zero, List.set_cons_succ]
      refine wpAnyH_take (i := 7) (oi := { dst := some 49, op := Go.Op.move (Go.Operand.tmp 48), type := 4, pos := "law.go:193", after := #[{ on := 6, ground := Go.Ground.data }, { on := 3, ground := Go.Ground.chain }], guard := none }) (v := ?_) rfl (by kernel_rfl) (by kernel_rfl) (by kernel_rfl) (fun _ _ _ h => h) (Or.inl ⟨by rfl, ?_⟩) (by assumption) ?_
      rotate_left
      focus (intro w hSw; (try dsimp only at hSw); go_simp; (try with_reducible rfl))
      try simp only [Act.put, List.setIfInBounds_toArray, List.set_cons_zero, List.set_cons_succ]
      refine wpAnyH_take (i := 8) (oi := { dst := some 50, op := Go.Op.move (Go.Operand.tmp 8), type := 3, pos := "law.go:193", after := #[{ on := 7, ground := Go.Ground.guard }], guard := some (7, false) }) (v := ?_) rfl (by kernel_rfl) (by kernel_rfl) (by kernel_rfl) (fun _ _ _ h => h) (Or.inl ⟨by rfl, ?_⟩) (by assumption) ?_
      rotate_left
      focus (intro w hSw; (try dsimp only at hSw); go_simp; (try with_reducible rfl))
      try simp only [Act.put, List.setIfInBounds_toArray, List.set_cons_zero, List.set_cons_succ]
      refine wpAnyH_take (i := 9) (oi := { dst := some 51, op := Go.Op.move (Go.Operand.tmp 0), type := 3, pos := "law.go:193", after := #[{ on := 7, ground := Go.Ground.guard }], guard := some (7, false) }) (v := ?_) rfl (by kernel_rfl) (by kernel_rfl) (by kernel_rfl) (fun _ _ _ h => h) (Or.inl ⟨by rfl, ?_⟩) (by assumption) ?_
      rotate_left
      focus (intro w hSw; (try dsimp only at hSw); go_simp; (try with_reducible rfl))
      try simp only [Act.put, List.setIfInBounds_toArray, List.set_cons_zero, List.set_cons_succ]
      refine wpAnyH_take (i := 10) (oi := { dst := some 52, op := Go.Op.binOp Go.BinOp.neq 3 (Go.Operand.tmp 50) (Go.Operand.tmp 51) 3, type := 4, pos := "law.go:193", after := #[{ on := 8, ground := Go.Ground.data }, { on := 9, ground := Go.Ground.data }, { on := 7, ground := Go.Ground.guard }], guard := some (7, false) }) (v := ?_) rfl (by kernel_rfl) (by kernel_rfl) (by kernel_rfl) (fun _ _ _ h => h) (Or.inl ⟨by rfl, ?_⟩) (by assumption) ?_
      rotate_left
      focus (intro w hSw; (try dsimp only at hSw); go_simp; (try with_reducible rfl))
      try simp only [Act.put, List.setIfInBounds_toArray, List.set_cons_zero, List.set_cons_succ]
      refine wpAnyH_take (i := 11) (oi := { dst := some 53, op := Go.Op.pick (Go.Operand.tmp 49) (Go.Operand.const (Go.Value.bool true)) (Go.Operand.tmp 52), type := 4, pos := "law.go:193", after := #[{ on := 7, ground := Go.Ground.data }, { on := 10, ground := Go.Ground.data }], guard := none }) (v := ?_) rfl (by kernel_rfl) (by kernel_rfl) (by kernel_rfl) (fun _ _ _ h => h) (Or.inl ⟨by rfl, ?_⟩) (by assumption) ?_
      rotate_left
      focus (intro w hSw; (try dsimp only at hSw); go_simp; (try with_reducible rfl))
      try simp only [Act.put, List.setIfInBounds_toArray, List.set_cons_zero, List.set_cons_succ]
      refine wpAnyH_take (i := 12) (oi := { dst := some 54, op := Go.Op.move (Go.Operand.tmp 53), type := 4, pos := "law.go:193", after := #[{ on := 11, ground := Go.Ground.data }, { on := 7, ground := Go.Ground.chain }], guard := none }) (v := ?_) rfl (by kernel_rfl) (by kernel_rfl) (by kernel_rfl) (fun _ _ _ h => h) (Or.inl ⟨by rfl, ?_⟩) (by assumption) ?_
      rotate_left
      focus (intro w hSw; (try dsimp only at hSw); go_simp; (try with_reducible rfl))
      try simp only [Act.put, List.setIfInBounds_toArray, List.set_cons_zero, List.set_cons_succ]
      refine wpAnyH_take (i := 13) (oi := { dst := some 55, op := Go.Op.move (Go.Operand.tmp 11), type := 4, pos := "law.go:193", after := #[{ on := 12, ground := Go.Ground.guard }], guard := some (12, false) }) (v := ?_) rfl (by kernel_rfl) (by kernel_rfl) (by kernel_rfl) (fun _ _ _ h => h) (Or.inl ⟨by rfl, ?_⟩) (by assumption) ?_
      rotate_left
      focus (intro w hSw; (try dsimp only at hSw); go_simp; (try with_reducible rfl))
      try simp only [Act.put, List.setIfInBounds_toArray, List.set_cons_zero, List.set_cons_succ]
      refine wpAnyH_take (i := 14) (oi := { dst := some 56, op := Go.Op.move (Go.Operand.tmp 0), type := 3, pos := "law.go:193", after := #[{ on := 12, ground := Go.Ground.guard }], guard := some (12, false) }) (v := ?_) rfl (by kernel_rfl) (by kernel_rfl) (by kernel_rfl) (fun _ _ _ h => h) (Or.inl ⟨by rfl, ?_⟩) (by assumption) ?_
      rotate_left
      focus (intro w hSw; (try dsimp only at hSw); go_simp; (try with_reducible rfl))
      try simp only [Act.put, List.setIfInBounds_toArray, List.set_cons_zero, List.set_cons_succ]
      refine wpAnyH_take (i := 15) (oi := { dst := some 57, op := Go.Op.binOp Go.BinOp.neq 3 (Go.Operand.tmp 56) (Go.Operand.const (Go.Value.int Go.IntKind.i64 (-9223372036854775808))) 3, type := 4, pos := "law.go:193", after := #[{ on := 14, ground := Go.Ground.data }, { on := 12, ground := Go.Ground.guard }], guard := some (12, false) }) (v := ?_) rfl (by kernel_rfl) (by kernel_rfl) (by kernel_rfl) (fun _ _ _ h => h) (Or.inl ⟨by rfl, ?_⟩) (by assumption) ?_
      rotate_left
      focus (intro w hSw; (try dsimp only at hSw); go_simp; (try with_reducible rfl))
      try simp only [Act.put, List.setIfInBounds_toArray, List.set_cons_zero, List.set_cons_succ]
      refine wpAnyH_take (i := 16) (oi := { dst := some 58, op := Go.Op.binOp Go.BinOp.neq 4 (Go.Operand.tmp 55) (Go.Operand.tmp 57) 4, type := 4, pos := "law.go:193", after := #[{ on := 13, ground := Go.Ground.data }, { on := 15, ground := Go.Ground.data }, { on := 12, ground := Go.Ground.guard }], guard := some (12, false) }) (v := ?_) rfl (by kernel_rfl) (by kernel_rfl) (by kernel_rfl) (fun _ _ _ h => h) (Or.inl ⟨by rfl, ?_⟩) (by assumption) ?_
      rotate_left
      focus (intro w hSw; (try dsimp only at hSw); go_simp; (try with_reducible rfl))
      try simp only [Act.put, List.setIfInBounds_toArray, List.set_cons_zero, List.set_cons_succ]
      refine wpAnyH_take (i := 17) (oi := { dst := some 59, op := Go.Op.pick (Go.Operand.tmp 54) (Go.Operand.const (Go.Value.bool true)) (Go.Operand.tmp 58), type := 4, pos := "law.go:193", after := #[{ on := 12, ground := Go.Ground.data }, { on := 16, ground := Go.Ground.data }], guard := none }) (v := ?_) rfl (by kernel_rfl) (by kernel_rfl) (by kernel_rfl) (fun _ _ _ h => h) (Or.inl ⟨by rfl, ?_⟩) (by assumption) ?_
      rotate_left
      focus (intro w hSw; (try dsimp only at hSw); go_simp; (try with_reducible rfl))
      try simp only [Act.put, List.setIfInBounds_toArray, List.set_cons_zero, List.set_cons_succ]
      refine wpAnyH_take (i := 18) (oi := { dst := some 60, op := Go.Op.move (Go.Operand.tmp 59), type := 4, pos := "law.go:193", after := #[{ on := 17, ground := Go.Ground.data }, { on := 12, ground := Go.Ground.chain }], guard := none }) (v := ?_) rfl (by kernel_rfl) (by kernel_rfl) (by kernel_rfl) (fun _ _ _ h => h) (Or.inl ⟨by rfl, ?_⟩) (by assumption) ?_
      rotate_left
      focus (intro w hSw; (try dsimp only at hSw); go_simp; (try with_reducible rfl))
      try simp only [Act.put, List.setIfInBounds_toArray, List.set_cons_zero, List.set_cons_succ]
      refine wpAnyH_take (i := 19) (oi := { dst := some 61, op := Go.Op.move (Go.Operand.tmp 11), type := 4, pos := "law.go:193", after := #[{ on := 18, ground := Go.Ground.guard }], guard := some (18, false) }) (v := ?_) rfl (by kernel_rfl) (by kernel_rfl) (by kernel_rfl) (fun _ _ _ h => h) (Or.inl ⟨by rfl, ?_⟩) (by assumption) ?_
      rotate_left
      focus (intro w hSw; (try dsimp only at hSw); go_simp; (try with_reducible rfl))
      try simp only [Act.put, List.setIfInBounds_toArray, List.set_cons_zero, List.set_cons_succ]
      refine wpAnyH_take (i := 20) (oi := { dst := some 62, op := Go.Op.move (Go.Operand.tmp 61), type := 4, pos := "law.go:193", after := #[{ on := 19, ground := Go.Ground.data }, { on := 18, ground := Go.Ground.chain }, { on := 18, ground := Go.Ground.guard }], guard := some (18, false) }) (v := ?_) rfl (by kernel_rfl) (by kernel_rfl) (by kernel_rfl) (fun _ _ _ h => h) (Or.inl ⟨by rfl, ?_⟩) (by assumption) ?_
      rotate_left
      focus (intro w hSw; (try dsimp only at hSw); go_simp; (try with_reducible rfl))
      try simp only [Act.put, List.setIfInBounds_toArray, List.set_cons_zero, List.set_cons_succ]
      refine wpAnyH_take (i := 21) (oi := { dst := some 63, op := Go.Op.move (Go.Operand.tmp 10), type := 3, pos := "law.go:193", after := #[{ on := 20, ground := Go.Ground.guard }], guard := some (20, true) }) (v := undef) rfl (by kernel_rfl) (by kernel_rfl) (by kernel_rfl) (fun _ _ _ h => h) (Or.inr ⟨by rfl, rfl⟩) (by assumption) ?_
      try simp only [Act.put, List.setIfInBounds_toArray, List.set_cons_zero, List.set_cons_succ]
      refine wpAnyH_take (i := 22) (oi := { dst := some 64, op := Go.Op.move (Go.Operand.tmp 0), type := 3, pos := "law.go:193", after := #[{ on := 20, ground := Go.Ground.guard }], guard := some (20, true) }) (v := undef) rfl (by kernel_rfl) (by kernel_rfl) (by kernel_rfl) (fun _ _ _ h => h) (Or.inr ⟨by rfl, rfl⟩) (by assumption) ?_
      try simp only [Act.put, List.setIfInBounds_toArray, List.set_cons_zero, List.set_cons_succ]
      refine wpAnyH_take (i := 23) (oi := { dst := some 65, op := Go.Op.unOp Go.UnOp.neg 3 (Go.Operand.tmp 64), type := 3, pos := "law.go:193", after := #[{ on := 22, ground := Go.Ground.data }, { on := 20, ground := Go.Ground.guard }], guard := some (20, true) }) (v := undef) rfl (by kernel_rfl) (by kernel_rfl) (by kernel_rfl) (fun _ _ _ h => h) (Or.inr ⟨by rfl, rfl⟩) (by assumption) ?_
      try simp only [Act.put, List.setIfInBounds_toArray, List.set_cons_zero, List.set_cons_succ]
      refine wpAnyH_take (i := 24) (oi := { dst := some 66, op := Go.Op.binOp Go.BinOp.neq 3 (Go.Operand.tmp 63) (Go.Operand.tmp 65) 3, type := 4, pos := "law.go:193", after := #[{ on := 21, ground := Go.Ground.data }, { on := 23, ground := Go.Ground.data }, { on := 20, ground := Go.Ground.guard }], guard := some (20, true) }) (v := undef) rfl (by kernel_rfl) (by kernel_rfl) (by kernel_rfl) (fun _ _ _ h => h) (Or.inr ⟨by rfl, rfl⟩) (by assumption) ?_
      try simp only [Act.put, List.setIfInBounds_toArray, List.set_cons_zero, List.set_cons_succ]
      refine wpAnyH_take (i := 25) (oi := { dst := some 67, op := Go.Op.pick (Go.Operand.tmp 62) (Go.Operand.tmp 66) (Go.Operand.const (Go.Value.bool false)), type := 4, pos := "law.go:193", after := #[{ on := 20, ground := Go.Ground.data }, { on := 24, ground := Go.Ground.data }, { on := 18, ground := Go.Ground.guard }], guard := some (18, false) }) (v := ?_) rfl (by kernel_rfl) (by kernel_rfl) (by kernel_rfl) (fun _ _ _ h => h) (Or.inl ⟨by rfl, ?_⟩) (by assumption) ?_
      rotate_left
      focus (intro w hSw; (try dsimp only at hSw); go_simp; (try with_reducible rfl))
      try simp only [Act.put, List.setIfInBounds_toArray, List.set_cons_zero, List.set_cons_succ]
      refine wpAnyH_take (i := 26) (oi := { dst := some 68, op := Go.Op.pick (Go.Operand.tmp 60) (Go.Operand.const (Go.Value.bool true)) (Go.Operand.tmp 67), type := 4, pos := "law.go:193", after := #[{ on := 18, ground := Go.Ground.data }, { on := 25, ground := Go.Ground.data }], guard := none }) (v := ?_) rfl (by kernel_rfl) (by kernel_rfl) (by kernel_rfl) (fun _ _ _ h => h) (Or.inl ⟨by rfl, ?_⟩) (by assumption) ?_
      rotate_left
      focus (intro w hSw; (try dsimp only at hSw); go_simp; (try with_reducible rfl))
      try simp only [Act.put, List.setIfInBounds_toArray, List.set_cons_zero, List.set_cons_succ]
      refine wpAnyH_take (i := 27) (oi := { dst := some 69, op := Go.Op.move (Go.Operand.tmp 68), type := 4, pos := "law.go:193", after := #[{ on := 26, ground := Go.Ground.data }, { on := 20, ground := Go.Ground.chain }], guard := none }) (v := ?_) rfl (by kernel_rfl) (by kernel_rfl) (by kernel_rfl) (fun _ _ _ h => h) (Or.inl ⟨by rfl, ?_⟩) (by assumption) ?_
      rotate_left
      focus (intro w hSw; (try dsimp only at hSw); go_simp; (try with_reducible rfl))
      try simp only [Act.put, List.setIfInBounds_toArray, List.set_cons_zero, List.set_cons_succ]
      refine wpAnyH_take (i := 28) (oi := { dst := some 70, op := Go.Op.load 24 (Go.Operand.tmp 6), type := 24, pos := "law.go:193", after := #[{ on := 27, ground := Go.Ground.guard }], guard := some (27, false) }) (v := ?_) rfl (by kernel_rfl) (by kernel_rfl) (by kernel_rfl) (fun _ _ _ h => h) (Or.inl ⟨by rfl, ?_⟩) (by assumption) ?_
      rotate_left
      focus (intro w hSw; (try dsimp only at hSw); go_simp; (try with_reducible rfl))
      try simp only [Act.put, List.setIfInBounds_toArray, List.set_cons_zero, List.set_cons_succ]
      refine wpAnyH_take (i := 30) (oi := { dst := some 72, op := Go.Op.load 24 (Go.Operand.tmp 7), type := 24, pos := "law.go:193", after := #[{ on := 27, ground := Go.Ground.guard }], guard := some (27, false) }) (v := ?_) rfl (by kernel_rfl) (by kernel_rfl) (by kernel_rfl) (fun _ _ _ h => h) (Or.inl ⟨by rfl, ?_⟩) (by assumption) ?_
      rotate_left
      focus (intro w hSw; (try dsimp only at hSw); go_simp; (try with_reducible rfl))
      try simp only [Act.put, List.setIfInBounds_toArray, List.set_cons_zero, List.set_cons_succ]
      refine wpAnyH_take (i := 33) (oi := { dst := some 75, op := Go.Op.move (Go.Operand.tmp 0), type := 3, pos := "law.go:193", after := #[{ on := 27, ground := Go.Ground.guard }], guard := some (27, false) }) (v := ?_) rfl (by kernel_rfl) (by kernel_rfl) (by kernel_rfl) (fun _ _ _ h => h) (Or.inl ⟨by rfl, ?_⟩) (by assumption) ?_
      rotate_left
      focus (intro w hSw; (try dsimp only at hSw); go_simp; (try with_reducible rfl))
      try simp only [Act.put, List.setIfInBounds_toArray, List.set_cons_zero, List.set_cons_succ]
      refine wpAnyH_take (i := 34) (oi := { dst := some 76, op := Go.Op.move (Go.Operand.tmp 1), type := 3, pos := "law.go:193", after := #[{ on := 27, ground := Go.Ground.guard }], guard := some (27, false) }) (v := ?_) rfl (by kernel_rfl) (by kernel_rfl) (by kernel_rfl) (fun _ _ _ h => h) (Or.inl ⟨by rfl, ?_⟩) (by assumption) ?_
      rotate_left
      focus (intro w hSw; (try dsimp only at hSw); go_simp; (try with_reducible rfl))
      try simp only [Act.put, List.setIfInBounds_toArray, List.set_cons_zero, List.set_cons_succ]
      refine wpAnyH_take (i := 35) (oi := { dst := some 77, op := Go.Op.binOp Go.BinOp.eql 3 (Go.Operand.tmp 75) (Go.Operand.tmp 76) 3, type := 4, pos := "law.go:193", after := #[{ on := 33, ground := Go.Ground.data }, { on := 34, ground := Go.Ground.data }, { on := 27, ground := Go.Ground.guard }], guard := some (27, false) }) (v := ?_) rfl (by kernel_rfl) (by kernel_rfl) (by kernel_rfl) (fun _ _ _ h => h) (Or.inl ⟨by rfl, ?_⟩) (by assumption) ?_
      rotate_left
      focus (intro w hSw; (try dsimp only at hSw); go_simp; (try with_reducible rfl))
      try simp only [Act.put, List.setIfInBounds_toArray, List.set_cons_zero, List.set_cons_succ]
      refine wpAnyH_ready (rs := [29]) (by kernel_rfl) (by simp) ?_
      refine AllReadyH.cons (o := { dst := some 71, op := Go.Op.call { callee := Go.Callee.value (Go.Operand.func 29), args := #[Go.Operand.tmp 70], argTypes := #[24] }, type := 9, pos := "law.go:193", after := #[{ on := 28, ground := Go.Ground.data }, { on := 27, ground := Go.Ground.chain }, { on := 27, ground := Go.Ground.guard }], guard := some (27, false) }) rfl (fun K hK => ?_) AllReadyH.nil
      first | go_at_call 24 | go_at_call 29 | (rw [if_pos ?_]; rotate_left; (focus rfl); go_simp) | skip
      try go_at_call 29
      refine (text_l X1.out LA.out V1.out TX.out).mono ?_
      rintro e v2 ⟨rfl, hb⟩
      have T2 := Lib.hid (T1.out.later hb)
      have e2 := KK.out _ T2.out
      have V2 := Lib.hid (T2.out.env HE.out)
      have X2 := Lib.hid ((T2.out.box (w4.heap.size, s4, .slice a4 n4 c4, digs (vb : Int).natAbs) List.mem_cons_self).num E4.out)
      clear hb
      try dsimp only
      refine hK.out _ _ (by (try dsimp only); exact e2) (fun hHeld2 => ?_)
      clear hK K hHeld
      have hHeld := hHeld2
      clear hHeld2
      try simp only [Act.put, List.setIfInBounds_toArray, List.set_cons_zero, List.set_cons_succ]
      refine wpAnyH_ready (rs := [31]) (by kernel_rfl) (by simp) ?_
      refine AllReadyH.cons (o := { dst := some 73, op := Go.Op.call { callee := Go.Callee.value (Go.Operand.func 29), args := #[Go.Operand.tmp 72], argTypes := #[24] }, type := 9, pos := "law.go:193", after := #[{ on := 30, ground := Go.Ground.data }, { on := 29, ground := Go.Ground.chain }, { on := 27, ground := Go.Ground.guard }], guard := some (27, false) }) rfl (fun K hK => ?_) AllReadyH.nil
      first | go_at_call 24 | go_at_call 29 | (rw [if_pos ?_]; rotate_left; (focus rfl); go_simp) | skip
      try go_at_call 29
      refine (text_l X2.out LB.out V2.out TY.out).mono ?_
      rintro e v3 ⟨rfl, hb⟩
      have T3 := Lib.hid (T2.out.later hb)
      have e3 := KK.out _ T3.out
      clear hb
      try dsimp only
      refine hK.out _ _ (by (try dsimp only); exact e3) (fun hHeld2 => ?_)
      clear hK K hHeld
      have hHeld := hHeld2
      clear hHeld2
      try simp only [Act.put, List.setIfInBounds_toArray, List.set_cons_zero, List.set_cons_succ]
      refine wpAnyH_take (i := 32) (oi := { dst := some 74, op := Go.Op.binOp Go.BinOp.eql 9 (Go.Operand.tmp 71) (Go.Operand.tmp 73) 9, type := 4, pos := "law.go:193", after := #[{ on := 29, ground := Go.Ground.data }, { on := 31, ground := Go.Ground.data }, { on := 27, ground := Go.Ground.guard }], guard := some (27, false) }) (v := ?_) rfl (by kernel_rfl) (by kernel_rfl) (by kernel_rfl) (fun _ _ _ h => h) (Or.inl ⟨by rfl, ?_⟩) (by assumption) ?_
      rotate_left
      focus (intro w hSw; (try dsimp only at hSw); go_simp; (try with_reducible rfl))
      try simp only [Act.put, List.setIfInBounds_toArray, List.set_cons_zero, List.set_cons_succ]
      refine wpAnyH_take (i := 36) (oi := { dst := some 78, op := Go.Op.binOp Go.BinOp.neq 4 (Go.Operand.tmp 74) (Go.Operand.tmp 77) 4, type := 4, pos := "law.go:193", after := #[{ on := 32, ground := Go.Ground.data }, { on := 35, ground := Go.Ground.data }, { on := 27, ground := Go.Ground.guard }], guard := some (27, false) }) (v := ?_) rfl (by kernel_rfl) (by kernel_rfl) (by kernel_rfl) (fun _ _ _ h => h) (Or.inl ⟨by rfl, ?_⟩) (by assumption) ?_
      rotate_left
      focus (intro w hSw; (try dsimp only at hSw); go_simp; (try with_reducible rfl))
      try simp only [Act.put, List.setIfInBounds_toArray, List.set_cons_zero, List.set_cons_succ]
      refine wpAnyH_take (i := 37) (oi := { dst := some 79, op := Go.Op.pick (Go.Operand.tmp 69) (Go.Operand.const (Go.Value.bool true)) (Go.Operand.tmp 78), type := 4, pos := "law.go:193", after := #[{ on := 27, ground := Go.Ground.data }, { on := 36, ground := Go.Ground.data }], guard := none }) (v := ?_) rfl (by kernel_rfl) (by kernel_rfl) (by kernel_rfl) (fun _ _ _ h => h) (Or.inl ⟨by rfl, ?_⟩) (by assumption) ?_
      rotate_left
      focus (intro w hSw; (try dsimp only at hSw); go_simp; (try with_reducible rfl))
      try simp only [Act.put, List.setIfInBounds_toArray, List.set_cons_zero, List.set_cons_succ]
      refine wpAnyH_done (by kernel_rfl) ?_ _
      all_goals
        clear hs hs1 he1
        have hd0 : decide ((-9223372036854775808) < vb) = true := decide_eq_true (by omega)
        have hd1 : decide (vb < (-9223372036854775808)) = false := decide_eq_false (by omega)
        obtain ⟨t3, u3⟩ := (T3.out.box (w3.heap.size, s3, .slice a3 n3 c3, digs ((-9223372036854775808) : Int).natAbs) (List.mem_cons_of_mem _ List.mem_cons_self)).cells
        obtain ⟨t4, u4⟩ := (T3.out.box (w4.heap.size, s4, .slice a4 n4 c4, digs (vb : Int).natAbs) List.mem_cons_self).cells
        go_wp2_with fail
        clear t3 u3 t4 u4
        clear hd0 hd1
        refine (add_k ((T3.out.box (w3.heap.size, s3, .slice a3 n3 c3, digs ((-9223372036854775808) : Int).natAbs) (List.mem_cons_of_mem _ List.mem_cons_self)).num E3.out) ((T3.out.box (w4.heap.size, s4, .slice a4 n4 c4, digs (vb : Int).natAbs) List.mem_cons_self).num E4.out) (Sz.len Za.out) (Sz.len Zb.out)).mono ?_
        rintro e w11 ⟨s11, a11, n11, c11, rfl, hn, hb, hf⟩
        have S11 := Lib.hid (T3.out.ret (sg := s11) hb hn.2 hf)
        have E11 := Lib.hid hn.1
        clear hn hb hf T3
        obtain ⟨t5, u5⟩ := (S11.out.box (w3.heap.size, s3, .slice a3 n3 c3, digs ((-9223372036854775808) : Int).natAbs) (List.mem_cons_of_mem _ (List.mem_cons_of_mem _ List.mem_cons_self))).cells
        obtain ⟨t6, u6⟩ := (S11.out.box (w4.heap.size, s4, .slice a4 n4 c4, digs (vb : Int).natAbs) (List.mem_cons_of_mem _ List.mem_cons_self)).cells
        go_wp2_with fail
        clear t5 u5 t6 u6
        refine (sub_k ((S11.out.box (w3.heap.size, s3, .slice a3 n3 c3, digs ((-9223372036854775808) : Int).natAbs) (List.mem_cons_of_mem _ (List.mem_cons_of_mem _ List.mem_cons_self))).num E3.out) ((S11.out.box (w4.heap.size, s4, .slice a4 n4 c4, digs (vb : Int).natAbs) (List.mem_cons_of_mem _ List.mem_cons_self)).num E4.out) (Sz.len Za.out) (Sz.len Zb.out)).mono ?_
        rintro e w12 ⟨s12, a12, n12, c12, rfl, hn, hb, hf⟩
        have S12 := Lib.hid (S11.out.ret (sg := s12) hb hn.2 hf)
        have E12 := Lib.hid hn.1
        clear hn hb hf S11
        obtain ⟨t7, u7⟩ := (S12.out.box (w3.heap.size, s3, .slice a3 n3 c3, digs ((-9223372036854775808) : Int).natAbs) (List.mem_cons_of_mem _ (List.mem_cons_of_mem _ (List.mem_cons_of_mem _ List.mem_cons_self)))).cells
        obtain ⟨t8, u8⟩ := (S12.out.box (w4.heap.size, s4, .slice a4 n4 c4, digs (vb : Int).natAbs) (List.mem_cons_of_mem _ (List.mem_cons_of_mem _ List.mem_cons_self))).cells
        go_wp2_with fail
        clear t7 u7 t8 u8
        refine (mul_k ((S12.out.box (w3.heap.size, s3, .slice a3 n3 c3, digs ((-9223372036854775808) : Int).natAbs) (List.mem_cons_of_mem _ (List.mem_cons_of_mem _ (List.mem_cons_of_mem _ List.mem_cons_self)))).num E3.out) ((S12.out.box (w4.heap.size, s4, .slice a4 n4 c4, digs (vb : Int).natAbs) (List.mem_cons_of_mem _ (List.mem_cons_of_mem _ List.mem_cons_self))).num E4.out) (Sz.len Za.out) (Sz.len Zb.out)).mono ?_
        rintro e w13 ⟨s13, a13, n13, c13, rfl, hn, hb, hf⟩
        have S13 := Lib.hid (S12.out.ret (sg := s13) hb hn.2 hf)
        have E13 := Lib.hid hn.1
        clear hn hb hf S12
        obtain ⟨t9, u9⟩ := (S13.out.box (w3.heap.size, s3, .slice a3 n3 c3, digs ((-9223372036854775808) : Int).natAbs) (List.mem_cons_of_mem _ (List.mem_cons_of_mem _ (List.mem_cons_of_mem _ (List.mem_cons_of_mem _ List.mem_cons_self))))).cells
        obtain ⟨t10, u10⟩ := (S13.out.box (w4.heap.size, s4, .slice a4 n4 c4, digs (vb : Int).natAbs) (List.mem_cons_of_mem _ (List.mem_cons_of_mem _ (List.mem_cons_of_mem _ List.mem_cons_self)))).cells
        go_wp2_with fail
        clear t9 u9 t10 u10
        refine (cmp_t ((S13.out.box (w3.heap.size, s3, .slice a3 n3 c3, digs ((-9223372036854775808) : Int).natAbs) (List.mem_cons_of_mem _ (List.mem_cons_of_mem _ (List.mem_cons_of_mem _ (List.mem_cons_of_mem _ List.mem_cons_self))))).num E3.out) ((S13.out.box (w4.heap.size, s4, .slice a4 n4 c4, digs (vb : Int).natAbs) (List.mem_cons_of_mem _ (List.mem_cons_of_mem _ (List.mem_cons_of_mem _ List.mem_cons_self)))).num E4.out) HC.out).mono ?_
        rintro e w14 ⟨rfl, hb⟩
        have S15 := Lib.hid (S13.out.later hb)
        clear S13
        clear hb
        go_wp2_with fail
        go_ret
        exact ⟨rfl, S15.out.below⟩
    case inr =>
      have HC : Hid (cmpI va vb = -1) := cmpI_lt hk
      have HM := Lib.hid hmin
      have hm1 : (va != -9223372036854775808) = true := by simpa using HM.out
      have hw : IntKind.i64.wrap (-va) = -va := IntWalk.i64_in _ (by have h1 := HM.out; have h2 := HA.out; omega)
      clear hmin
      have hsn : tx ≠ ty := by rw [← TX.out, ← TY.out]; exact fun e => by have := itoa_inj e; omega
      have hs : ((⟨tx.toArray⟩ : ByteArray).toList == (⟨ty.toArray⟩ : ByteArray).toList) = false := str_ne hsn
      have hs1 : (tx == ty) = false := by simpa using hsn
      clear hsn
      have he1 : (va == vb) = false := by rw [beq_eq_false_iff_ne]; omega
      have hna := HA.out
      have hnb := HB.out
      go_enter Tryd.func5, Tryd.ntmps5
      go_wp2_with fail
      refine (small_any _ (S0.out.env HE.out)).mono ?_
      rintro e w16 ⟨rfl, hb⟩
      have S17 := Lib.hid (S0.out.later hb)
      clear S0
      clear hb
      go_wp2_with fail
      refine (of_k va HA.out _).mono ?_
      rintro e w18 ⟨s18, a18, n18, c18, rfl, hn, hb, hf⟩
      have S18 := Lib.hid (S17.out.ret (sg := s18) hb hn.2 hf)
      have E18 := Lib.hid hn.1
      clear hn hb hf S17
      go_wp2_with fail
      refine (of_k vb HB.out _).mono ?_
      rintro e w19 ⟨s19, a19, n19, c19, rfl, hn, hb, hf⟩
      have S19 := Lib.hid (S18.out.ret (sg := s19) hb hn.2 hf)
      have E19 := Lib.hid hn.1
      clear hn hb hf S18
      obtain ⟨t11, u11⟩ := (S19.out.box (w18.heap.size, s18, .slice a18 n18 c18, digs (va : Int).natAbs) (List.mem_cons_of_mem _ List.mem_cons_self)).cells
      go_wp2_with fail
      clear t11 u11
      refine (int_in ((S19.out.box (w18.heap.size, s18, .slice a18 n18 c18, digs (va : Int).natAbs) (List.mem_cons_of_mem _ List.mem_cons_self)).num E18.out) HA.out rfl).mono ?_
      rintro e w20 ⟨rfl, hb⟩
      have S21 := Lib.hid (S19.out.later hb)
      clear S19
      clear hb
      obtain ⟨t12, u12⟩ := (S21.out.box (w18.heap.size, s18, .slice a18 n18 c18, digs (va : Int).natAbs) (List.mem_cons_of_mem _ List.mem_cons_self)).cells
      go_wp2_with fail
      clear t12 u12
      refine (neg_k ((S21.out.box (w18.heap.size, s18, .slice a18 n18 c18, digs (va : Int).natAbs) (List.mem_cons_of_mem _ List.mem_cons_self)).num E18.out) (Sz.len Za.out)).mono ?_
      rintro e w22 ⟨s22, a22, n22, c22, rfl, hn, hb, hf⟩
      have S23 := Lib.hid (S21.out.later hb)
      clear S21
      have N22 := Lib.hid hn
      clear hn hb hf
      go_wp2_with fail
      refine (int_in N22.out (by have := HM.out; omega) rfl).mono ?_
      rintro e w24 ⟨rfl, hb⟩
      have S25 := Lib.hid (S23.out.later hb)
      clear S23
      clear hb
      go_wp2_with fail
      have K0 : ∀ W, Sq w [(w19.heap.size, s19, .slice a19 n19 c19, digs (vb : Int).natAbs), (w18.heap.size, s18, .slice a18 n18 c18, digs (va : Int).natAbs)] W → W.cell? ⟨w18.heap.size, 0, none⟩ = some (.int .i64 s18) ∧ W.cell? ⟨w18.heap.size, 1, none⟩ = some (.slice a18 n18 c18) ∧ W.cell? ⟨w19.heap.size, 0, none⟩ = some (.int .i64 s19) ∧ W.cell? ⟨w19.heap.size, 1, none⟩ = some (.slice a19 n19 c19) := fun W h => ⟨(h.box (w18.heap.size, s18, .slice a18 n18 c18, digs (va : Int).natAbs) (List.mem_cons_of_mem _ List.mem_cons_self)).cells.1, (h.box (w18.heap.size, s18, .slice a18 n18 c18, digs (va : Int).natAbs) (List.mem_cons_of_mem _ List.mem_cons_self)).cells.2, (h.box (w19.heap.size, s19, .slice a19 n19 c19, digs (vb : Int).natAbs) List.mem_cons_self).cells.1, (h.box (w19.heap.size, s19, .slice a19 n19 c19, digs (vb : Int).natAbs) List.mem_cons_self).cells.2⟩
      have KK := Lib.hid K0
      clear K0
      have SD := Lib.hid S25.out.drew
      clear S25
      have e0 := KK.out _ SD.out
      have LA : Hid (Len 100000 va) := Sz.len Za.out
      have LB : Hid (Len 100000 vb) := Sz.len Zb.out
      have V0 := Lib.hid (SD.out.env HE.out)
      have X0 := Lib.hid ((SD.out.box (w18.heap.size, s18, .slice a18 n18 c18, digs (va : Int).natAbs) (List.mem_cons_of_mem _ List.mem_cons_self)).num E18.out)
      go_region_held3 (fun W => W.cell? ⟨w18.heap.size, 0, none⟩ = some (.int .i64 s18) ∧ W.cell? ⟨w18.heap.size, 1, none⟩ = some (.slice a18 n18 c18) ∧ W.cell? ⟨w19.heap.size, 0, none⟩ = some (.int .i64 s19) ∧ W.cell? ⟨w19.heap.size, 1, none⟩ = some (.slice a19 n19 c19))
        (first | (with_reducible exact e0) | (with_reducible exact e1) | (with_reducible exact e2) | (with_reducible exact e3))
        (((first | go_at_call 24 | go_at_call 29 | (rw [if_pos ?_]; rotate_left; (focus rfl); go_simp) | (rw [if_neg ?_]; rotate_left; (focus (exact fun h => Bool.noConfusion (show false = true from h))); go_simp) | skip); (first
          | (have hG := T2; clear hG; go_at_call 29; (with_reducible refine (text_l X2.out LB.out V2.out TY.out).mono ?_); rintro e v3 ⟨rfl, hb⟩; have T3 := Lib.hid (T2.out.later hb); have e3 := KK.out _ T3.out; clear hb)
          | (have hG := T1; clear hG; go_at_call 29; (with_reducible refine (text_l X1.out LA.out V1.out TX.out).mono ?_); rintro e v2 ⟨rfl, hb⟩; have T2 := Lib.hid (T1.out.later hb); have e2 := KK.out _ T2.out; have V2 := Lib.hid (T2.out.env HE.out); have X2 := Lib.hid ((T2.out.box (w19.heap.size, s19, .slice a19 n19 c19, digs (vb : Int).natAbs) List.mem_cons_self).num E19.out); clear hb)
          | (go_at_call 24; (with_reducible refine (right_k X0.out).mono ?_); rintro e v1 ⟨rfl, hb⟩; have T1 := Lib.hid (SD.out.later hb); have e1 := KK.out _ T1.out; have V1 := Lib.hid (T1.out.env HE.out); have X1 := Lib.hid ((T1.out.box (w18.heap.size, s18, .slice a18 n18 c18, digs (va : Int).natAbs) (List.mem_cons_of_mem _ List.mem_cons_self)).num E18.out); clear hb)); (try dsimp only)))
      all_goals
        clear hs hs1 he1 hm1 hw
        have hd0 : decide (va < vb) = true := decide_eq_true (by omega)
        have hd1 : decide (vb < va) = false := decide_eq_false (by omega)
        obtain ⟨t13, u13⟩ := (T3.out.box (w18.heap.size, s18, .slice a18 n18 c18, digs (va : Int).natAbs) (List.mem_cons_of_mem _ List.mem_cons_self)).cells
        obtain ⟨t14, u14⟩ := (T3.out.box (w19.heap.size, s19, .slice a19 n19 c19, digs (vb : Int).natAbs) List.mem_cons_self).cells
        go_wp2_with fail
        clear t13 u13 t14 u14
        clear hd0 hd1
        refine (add_k ((T3.out.box (w18.heap.size, s18, .slice a18 n18 c18, digs (va : Int).natAbs) (List.mem_cons_of_mem _ List.mem_cons_self)).num E18.out) ((T3.out.box (w19.heap.size, s19, .slice a19 n19 c19, digs (vb : Int).natAbs) List.mem_cons_self).num E19.out) (Sz.len Za.out) (Sz.len Zb.out)).mono ?_
        rintro e w26 ⟨s26, a26, n26, c26, rfl, hn, hb, hf⟩
        have S26 := Lib.hid (T3.out.ret (sg := s26) hb hn.2 hf)
        have E26 := Lib.hid hn.1
        clear hn hb hf T3
        obtain ⟨t15, u15⟩ := (S26.out.box (w18.heap.size, s18, .slice a18 n18 c18, digs (va : Int).natAbs) (List.mem_cons_of_mem _ (List.mem_cons_of_mem _ List.mem_cons_self))).cells
        obtain ⟨t16, u16⟩ := (S26.out.box (w19.heap.size, s19, .slice a19 n19 c19, digs (vb : Int).natAbs) (List.mem_cons_of_mem _ List.mem_cons_self)).cells
        go_wp2_with fail
        clear t15 u15 t16 u16
        refine (sub_k ((S26.out.box (w18.heap.size, s18, .slice a18 n18 c18, digs (va : Int).natAbs) (List.mem_cons_of_mem _ (List.mem_cons_of_mem _ List.mem_cons_self))).num E18.out) ((S26.out.box (w19.heap.size, s19, .slice a19 n19 c19, digs (vb : Int).natAbs) (List.mem_cons_of_mem _ List.mem_cons_self)).num E19.out) (Sz.len Za.out) (Sz.len Zb.out)).mono ?_
        rintro e w27 ⟨s27, a27, n27, c27, rfl, hn, hb, hf⟩
        have S27 := Lib.hid (S26.out.ret (sg := s27) hb hn.2 hf)
        have E27 := Lib.hid hn.1
        clear hn hb hf S26
        obtain ⟨t17, u17⟩ := (S27.out.box (w18.heap.size, s18, .slice a18 n18 c18, digs (va : Int).natAbs) (List.mem_cons_of_mem _ (List.mem_cons_of_mem _ (List.mem_cons_of_mem _ List.mem_cons_self)))).cells
        obtain ⟨t18, u18⟩ := (S27.out.box (w19.heap.size, s19, .slice a19 n19 c19, digs (vb : Int).natAbs) (List.mem_cons_of_mem _ (List.mem_cons_of_mem _ List.mem_cons_self))).cells
        go_wp2_with fail
        clear t17 u17 t18 u18
        refine (mul_k ((S27.out.box (w18.heap.size, s18, .slice a18 n18 c18, digs (va : Int).natAbs) (List.mem_cons_of_mem _ (List.mem_cons_of_mem _ (List.mem_cons_of_mem _ List.mem_cons_self)))).num E18.out) ((S27.out.box (w19.heap.size, s19, .slice a19 n19 c19, digs (vb : Int).natAbs) (List.mem_cons_of_mem _ (List.mem_cons_of_mem _ List.mem_cons_self))).num E19.out) (Sz.len Za.out) (Sz.len Zb.out)).mono ?_
        rintro e w28 ⟨s28, a28, n28, c28, rfl, hn, hb, hf⟩
        have S28 := Lib.hid (S27.out.ret (sg := s28) hb hn.2 hf)
        have E28 := Lib.hid hn.1
        clear hn hb hf S27
        obtain ⟨t19, u19⟩ := (S28.out.box (w18.heap.size, s18, .slice a18 n18 c18, digs (va : Int).natAbs) (List.mem_cons_of_mem _ (List.mem_cons_of_mem _ (List.mem_cons_of_mem _ (List.mem_cons_of_mem _ List.mem_cons_self))))).cells
        obtain ⟨t20, u20⟩ := (S28.out.box (w19.heap.size, s19, .slice a19 n19 c19, digs (vb : Int).natAbs) (List.mem_cons_of_mem _ (List.mem_cons_of_mem _ (List.mem_cons_of_mem _ List.mem_cons_self)))).cells
        go_wp2_with fail
        clear t19 u19 t20 u20
        refine (cmp_t ((S28.out.box (w18.heap.size, s18, .slice a18 n18 c18, digs (va : Int).natAbs) (List.mem_cons_of_mem _ (List.mem_cons_of_mem _ (List.mem_cons_of_mem _ (List.mem_cons_of_mem _ List.mem_cons_self))))).num E18.out) ((S28.out.box (w19.heap.size, s19, .slice a19 n19 c19, digs (vb : Int).natAbs) (List.mem_cons_of_mem _ (List.mem_cons_of_mem _ (List.mem_cons_of_mem _ List.mem_cons_self)))).num E19.out) HC.out).mono ?_
        rintro e w29 ⟨rfl, hb⟩
        have S30 := Lib.hid (S28.out.later hb)
        clear S28
        clear hb
        by_cases hh0 : -1073741824 < va
        case neg =>
          have hd := decide_eq_false hh0
          go_wp2_with fail
          go_ret
          exact ⟨rfl, S30.out.below⟩
        case pos =>
          by_cases hh1 : va < 1073741824
          case neg =>
            have hd := decide_eq_false hh1
            go_wp2_with fail
            go_ret
            exact ⟨rfl, S30.out.below⟩
          case pos =>
            by_cases hh2 : -1073741824 < vb
            case neg =>
              have hd := decide_eq_false hh2
              go_wp2_with fail
              go_ret
              exact ⟨rfl, S30.out.below⟩
            case pos =>
              by_cases hh3 : vb < 1073741824
              case neg =>
                have hd := decide_eq_false hh3
                go_wp2_with fail
                go_ret
                exact ⟨rfl, S30.out.below⟩
              case pos =>
                have hp := mul_in30 hh0 hh1 hh2 hh3
                have HP := Lib.hid hp
                have HR1 : Hid (-9223372036854775808 ≤ va + vb ∧ va + vb ≤ 9223372036854775807) := ⟨by omega, by omega⟩
                have HR2 : Hid (-9223372036854775808 ≤ va - vb ∧ va - vb ≤ 9223372036854775807) := ⟨by omega, by omega⟩
                have HR3 : Hid (-9223372036854775808 ≤ va * vb ∧ va * vb ≤ 9223372036854775807) := ⟨by omega, by omega⟩
                obtain ⟨t21, u21⟩ := (S30.out.box (w26.heap.size, s26, .slice a26 n26 c26, digs ((va + vb) : Int).natAbs) (List.mem_cons_of_mem _ (List.mem_cons_of_mem _ List.mem_cons_self))).cells
                go_wp2_with fail
                clear t21 u21
                refine (int_in ((S30.out.box (w26.heap.size, s26, .slice a26 n26 c26, digs ((va + vb) : Int).natAbs) (List.mem_cons_of_mem _ (List.mem_cons_of_mem _ List.mem_cons_self))).num E26.out) HR1.out rfl).mono ?_
                rintro e w31 ⟨rfl, hb⟩
                have S32 := Lib.hid (S30.out.later hb)
                clear S30
                clear hb
                obtain ⟨t22, u22⟩ := (S32.out.box (w27.heap.size, s27, .slice a27 n27 c27, digs ((va - vb) : Int).natAbs) (List.mem_cons_of_mem _ List.mem_cons_self)).cells
                go_wp2_with fail
                clear t22 u22
                refine (int_in ((S32.out.box (w27.heap.size, s27, .slice a27 n27 c27, digs ((va - vb) : Int).natAbs) (List.mem_cons_of_mem _ List.mem_cons_self)).num E27.out) HR2.out rfl).mono ?_
                rintro e w33 ⟨rfl, hb⟩
                have S34 := Lib.hid (S32.out.later hb)
                clear S32
                clear hb
                obtain ⟨t23, u23⟩ := (S34.out.box (w28.heap.size, s28, .slice a28 n28 c28, digs ((va * vb) : Int).natAbs) List.mem_cons_self).cells
                go_wp2_with fail
                clear t23 u23
                refine (int_in ((S34.out.box (w28.heap.size, s28, .slice a28 n28 c28, digs ((va * vb) : Int).natAbs) List.mem_cons_self).num E28.out) HR3.out rfl).mono ?_
                rintro e w35 ⟨rfl, hb⟩
                have S36 := Lib.hid (S34.out.later hb)
                clear S34
                clear hb
                go_wp2_with fail
                go_ret
                exact ⟨rfl, S36.out.below⟩
  case inr.inl =>
    rcases hmin with hmin | hmin
    case inl =>
      have HC : Hid (cmpI va vb = 0) := by rw [hk]; exact cmpI_eq _
      have HM := Lib.hid hmin
      clear hmin
      have HK := Lib.hid hk
      obtain rfl : va = vb := hk
      obtain rfl : tx = ty := TX.out.symm.trans TY.out
      obtain rfl : va = -9223372036854775808 := HM.out
      have hna := HA.out
      have hnb := HB.out
      go_enter Tryd.func5, Tryd.ntmps5
      go_wp2_with fail
      refine (small_any _ (S0.out.env HE.out)).mono ?_
      rintro e w37 ⟨rfl, hb⟩
      have S38 := Lib.hid (S0.out.later hb)
      clear S0
      clear hb
      go_wp2_with fail
      refine (of_k (-9223372036854775808) HA.out _).mono ?_
      rintro e w39 ⟨s39, a39, n39, c39, rfl, hn, hb, hf⟩
      have S39 := Lib.hid (S38.out.ret (sg := s39) hb hn.2 hf)
      have E39 := Lib.hid hn.1
      clear hn hb hf S38
      go_wp2_with fail
      refine (of_k (-9223372036854775808) HB.out _).mono ?_
      rintro e w40 ⟨s40, a40, n40, c40, rfl, hn, hb, hf⟩
      have S40 := Lib.hid (S39.out.ret (sg := s40) hb hn.2 hf)
      have E40 := Lib.hid hn.1
      clear hn hb hf S39
      obtain ⟨t24, u24⟩ := (S40.out.box (w39.heap.size, s39, .slice a39 n39 c39, digs ((-9223372036854775808) : Int).natAbs) (List.mem_cons_of_mem _ List.mem_cons_self)).cells
      go_wp2_with fail
      clear t24 u24
      refine (int_in ((S40.out.box (w39.heap.size, s39, .slice a39 n39 c39, digs ((-9223372036854775808) : Int).natAbs) (List.mem_cons_of_mem _ List.mem_cons_self)).num E39.out) HA.out rfl).mono ?_
      rintro e w41 ⟨rfl, hb⟩
      have S42 := Lib.hid (S40.out.later hb)
      clear S40
      clear hb
      obtain ⟨t25, u25⟩ := (S42.out.box (w39.heap.size, s39, .slice a39 n39 c39, digs ((-9223372036854775808) : Int).natAbs) (List.mem_cons_of_mem _ List.mem_cons_self)).cells
      go_wp2_with fail
      clear t25 u25
      refine (neg_k ((S42.out.box (w39.heap.size, s39, .slice a39 n39 c39, digs ((-9223372036854775808) : Int).natAbs) (List.mem_cons_of_mem _ List.mem_cons_self)).num E39.out) (Sz.len Za.out)).mono ?_
      rintro e w43 ⟨s43, a43, n43, c43, rfl, hn, hb, hf⟩
      have S44 := Lib.hid (S42.out.later hb)
      clear S42
      have N43 := Lib.hid hn
      clear hn hb hf
      go_wp2_with fail
      refine (int_out N43.out (by omega)).mono ?_
      rintro e w45 ⟨rfl, hb⟩
      have S46 := Lib.hid (S44.out.later hb)
      clear S44
      clear hb
      go_wp2_with fail
      have K0 : ∀ W, Sq w [(w40.heap.size, s40, .slice a40 n40 c40, digs ((-9223372036854775808) : Int).natAbs), (w39.heap.size, s39, .slice a39 n39 c39, digs ((-9223372036854775808) : Int).natAbs)] W → W.cell? ⟨w39.heap.size, 0, none⟩ = some (.int .i64 s39) ∧ W.cell? ⟨w39.heap.size, 1, none⟩ = some (.slice a39 n39 c39) ∧ W.cell? ⟨w40.heap.size, 0, none⟩ = some (.int .i64 s40) ∧ W.cell? ⟨w40.heap.size, 1, none⟩ = some (.slice a40 n40 c40) := fun W h => ⟨(h.box (w39.heap.size, s39, .slice a39 n39 c39, digs ((-9223372036854775808) : Int).natAbs) (List.mem_cons_of_mem _ List.mem_cons_self)).cells.1, (h.box (w39.heap.size, s39, .slice a39 n39 c39, digs ((-9223372036854775808) : Int).natAbs) (List.mem_cons_of_mem _ List.mem_cons_self)).cells.2, (h.box (w40.heap.size, s40, .slice a40 n40 c40, digs ((-9223372036854775808) : Int).natAbs) List.mem_cons_self).cells.1, (h.box (w40.heap.size, s40, .slice a40 n40 c40, digs ((-9223372036854775808) : Int).natAbs) List.mem_cons_self).cells.2⟩
      have KK := Lib.hid K0
      clear K0
      have SD := Lib.hid S46.out.drew
      clear S46
      have e0 := KK.out _ SD.out
      have LA : Hid (Len 100000 (-9223372036854775808)) := Sz.len Za.out
      have LB : Hid (Len 100000 (-9223372036854775808)) := Sz.len Zb.out
      have V0 := Lib.hid (SD.out.env HE.out)
      have X0 := Lib.hid ((SD.out.box (w39.heap.size, s39, .slice a39 n39 c39, digs ((-9223372036854775808) : Int).natAbs) (List.mem_cons_of_mem _ List.mem_cons_self)).num E39.out)
      refine wp_region_held_drew (S := fun W => W.cell? ⟨w39.heap.size, 0, none⟩ = some (.int .i64 s39) ∧ W.cell? ⟨w39.heap.size, 1, none⟩ = some (.slice a39 n39 c39) ∧ W.cell? ⟨w40.heap.size, 0, none⟩ = some (.int .i64 s40) ∧ W.cell? ⟨w40.heap.size, 1, none⟩ = some (.slice a40 n40 c40)) (by kernel_rfl) e0 (fun hHeld => ?_)
      refine wpAnyH_take (i := 0) (oi := { dst := some 42, op := Go.Op.load 24 (Go.Operand.tmp 6), type := 24, pos := "law.go:193", after := #[], guard := none }) (v := ?_) rfl (by kernel_rfl) (by kernel_rfl) (by kernel_rfl) (fun _ _ _ h => h) (Or.inl ⟨by rfl, ?_⟩) (by assumption) ?_
      rotate_left
      focus (intro w hSw; (try dsimp only at hSw); go_simp; (try with_reducible rfl))
      try simp only [Act.put, List.setIfInBounds_toArray, List.set_cons_zero, List.set_cons_succ]
      refine wpAnyH_ready (rs := [1]) (by kernel_rfl) (by simp) ?_
      refine AllReadyH.cons (o := { dst := some 43, op := Go.Op.call { callee := Go.Callee.value (Go.Operand.func 24), args := #[Go.Operand.tmp 42], argTypes := #[24] }, type := 4, pos := "law.go:193", after := #[{ on := 0, ground := Go.Ground.data }], guard := none }) rfl (fun K hK => ?_) AllReadyH.nil
      first | go_at_call 24 | go_at_call 29 | (rw [if_pos ?_]; rotate_left; (focus rfl); go_simp) | skip
      try go_at_call 24
      refine (right_k X0.out).mono ?_
      rintro e v1 ⟨rfl, hb⟩
      have T1 := Lib.hid (SD.out.later hb)
      have e1 := KK.out _ T1.out
      have V1 := Lib.hid (T1.out.env HE.out)
      have X1 := Lib.hid ((T1.out.box (w39.heap.size, s39, .slice a39 n39 c39, digs ((-9223372036854775808) : Int).natAbs) (List.mem_cons_of_mem _ List.mem_cons_self)).num E39.out)
      clear hb
      try dsimp only
      refine hK.out _ _ (by (try dsimp only); exact e1) (fun hHeld2 => ?_)
      clear hK K hHeld
      have hHeld := hHeld2
      clear hHeld2
      try simp only [Act.put, List.setIfInBounds_toArray, List.set_cons_zero, List.set_cons_succ]
      refine wpAnyH_take (i := 2) (oi := { dst := some 44, op := Go.Op.unOp Go.UnOp.not 4 (Go.Operand.tmp 43), type := 4, pos := "law.go:193", after := #[{ on := 1, ground := Go.Ground.data }], guard := none }) (v := ?_) rfl (by kernel_rfl) (by kernel_rfl) (by kernel_rfl) (fun _ _ _ h => h) (Or.inl ⟨by rfl, ?_⟩) (by assumption) ?_
      rotate_left
      focus (intro w hSw; (try dsimp only at hSw); go_simp; (try with_reducible rfl))
      try simp only [Act.put, List.setIfInBounds_toArray, List.set_cons_zero, List.set_cons_succ]
      refine wpAnyH_take (i := 3) (oi := { dst := some 45, op := Go.Op.move (Go.Operand.tmp 44), type := 4, pos := "law.go:193", after := #[{ on := 2, ground := Go.Ground.data }, { on := 1, ground := Go.Ground.chain }], guard := none }) (v := ?_) rfl (by kernel_rfl) (by kernel_rfl) (by kernel_rfl) (fun _ _ _ h => h) (Or.inl ⟨by rfl, ?_⟩) (by assumption) ?_
      rotate_left
      focus (intro w hSw; (try dsimp only at hSw); go_simp; (try with_reducible rfl))
      try simp only [Act.put, List.setIfInBounds_toArray, List.set_cons_zero, List.set_cons_succ]
      refine wpAnyH_take (i := 4) (oi := { dst := some 46, op := Go.Op.move (Go.Operand.tmp 9), type := 4, pos := "law.go:193", after := #[{ on := 3, ground := Go.Ground.guard }], guard := some (3, false) }) (v := ?_) rfl (by kernel_rfl) (by kernel_rfl) (by kernel_rfl) (fun _ _ _ h => h) (Or.inl ⟨by rfl, ?_⟩) (by assumption) ?_
      rotate_left
      focus (intro w hSw; (try dsimp only at hSw); go_simp; (try with_reducible rfl))
      try simp only [Act.put, List.setIfInBounds_toArray, List.set_cons_zero, List.set_cons_succ]
      refine wpAnyH_take (i := 5) (oi := { dst := some 47, op := Go.Op.unOp Go.UnOp.not 4 (Go.Operand.tmp 46), type := 4, pos := "law.go:193", after := #[{ on := 4, ground := Go.Ground.data }, { on := 3, ground := Go.Ground.guard }], guard := some (3, false) }) (v := ?_) rfl (by kernel_rfl) (by kernel_rfl) (by kernel_rfl) (fun _ _ _ h => h) (Or.inl ⟨by rfl, ?_⟩) (by assumption) ?_
      rotate_left
      focus (intro w hSw; (try dsimp only at hSw); go_simp; (try with_reducible rfl))
      try simp only [Act.put, List.setIfInBounds_toArray, List.set_cons_zero, List.set_cons_succ]
      refine wpAnyH_take (i := 6) (oi := { dst := some 48, op := Go.Op.pick (Go.Operand.tmp 45) (Go.Operand.const (Go.Value.bool true)) (Go.Operand.tmp 47), type := 4, pos := "law.go:193", after := #[{ on := 3, ground := Go.Ground.data }, { on := 5, ground := Go.Ground.data }], guard := none }) (v := ?_) rfl (by kernel_rfl) (by kernel_rfl) (by kernel_rfl) (fun _ _ _ h => h) (Or.inl ⟨by rfl, ?_⟩) (by assumption) ?_
      rotate_left
      focus (intro w hSw; (try dsimp only at hSw); go_simp; (try with_reducible rfl))
      try simp only [Act.put, List.setIfInBounds_toArray, List.set_cons_zero, List.set_cons_succ]
      refine wpAnyH_take (i := 7) (oi := { dst := some 49, op := Go.Op.move (Go.Operand.tmp 48), type := 4, pos := "law.go:193", after := #[{ on := 6, ground := Go.Ground.data }, { on := 3, ground := Go.Ground.chain }], guard := none }) (v := ?_) rfl (by kernel_rfl) (by kernel_rfl) (by kernel_rfl) (fun _ _ _ h => h) (Or.inl ⟨by rfl, ?_⟩) (by assumption) ?_
      rotate_left
      focus (intro w hSw; (try dsimp only at hSw); go_simp; (try with_reducible rfl))
      try simp only [Act.put, List.setIfInBounds_toArray, List.set_cons_zero, List.set_cons_succ]
      refine wpAnyH_take (i := 8) (oi := { dst := some 50, op := Go.Op.move (Go.Operand.tmp 8), type := 3, pos := "law.go:193", after := #[{ on := 7, ground := Go.Ground.guard }], guard := some (7, false) }) (v := ?_) rfl (by kernel_rfl) (by kernel_rfl) (by kernel_rfl) (fun _ _ _ h => h) (Or.inl ⟨by rfl, ?_⟩) (by assumption) ?_
      rotate_left
      focus (intro w hSw; (try dsimp only at hSw); go_simp; (try with_reducible rfl))
      try simp only [Act.put, List.setIfInBounds_toArray, List.set_cons_zero, List.set_cons_succ]
      refine wpAnyH_take (i := 9) (oi := { dst := some 51, op := Go.Op.move (Go.Operand.tmp 0), type := 3, pos := "law.go:193", after := #[{ on := 7, ground := Go.Ground.guard }], guard := some (7, false) }) (v := ?_) rfl (by kernel_rfl) (by kernel_rfl) (by kernel_rfl) (fun _ _ _ h => h) (Or.inl ⟨by rfl, ?_⟩) (by assumption) ?_
      rotate_left
      focus (intro w hSw; (try dsimp only at hSw); go_simp; (try with_reducible rfl))
      try simp only [Act.put, List.setIfInBounds_toArray, List.set_cons_zero, List.set_cons_succ]
      refine wpAnyH_take (i := 10) (oi := { dst := some 52, op := Go.Op.binOp Go.BinOp.neq 3 (Go.Operand.tmp 50) (Go.Operand.tmp 51) 3, type := 4, pos := "law.go:193", after := #[{ on := 8, ground := Go.Ground.data }, { on := 9, ground := Go.Ground.data }, { on := 7, ground := Go.Ground.guard }], guard := some (7, false) }) (v := ?_) rfl (by kernel_rfl) (by kernel_rfl) (by kernel_rfl) (fun _ _ _ h => h) (Or.inl ⟨by rfl, ?_⟩) (by assumption) ?_
      rotate_left
      focus (intro w hSw; (try dsimp only at hSw); go_simp; (try with_reducible rfl))
      try simp only [Act.put, List.setIfInBounds_toArray, List.set_cons_zero, List.set_cons_succ]
      refine wpAnyH_take (i := 11) (oi := { dst := some 53, op := Go.Op.pick (Go.Operand.tmp 49) (Go.Operand.const (Go.Value.bool true)) (Go.Operand.tmp 52), type := 4, pos := "law.go:193", after := #[{ on := 7, ground := Go.Ground.data }, { on := 10, ground := Go.Ground.data }], guard := none }) (v := ?_) rfl (by kernel_rfl) (by kernel_rfl) (by kernel_rfl) (fun _ _ _ h => h) (Or.inl ⟨by rfl, ?_⟩) (by assumption) ?_
      rotate_left
      focus (intro w hSw; (try dsimp only at hSw); go_simp; (try with_reducible rfl))
      try simp only [Act.put, List.setIfInBounds_toArray, List.set_cons_zero, List.set_cons_succ]
      refine wpAnyH_take (i := 12) (oi := { dst := some 54, op := Go.Op.move (Go.Operand.tmp 53), type := 4, pos := "law.go:193", after := #[{ on := 11, ground := Go.Ground.data }, { on := 7, ground := Go.Ground.chain }], guard := none }) (v := ?_) rfl (by kernel_rfl) (by kernel_rfl) (by kernel_rfl) (fun _ _ _ h => h) (Or.inl ⟨by rfl, ?_⟩) (by assumption) ?_
      rotate_left
      focus (intro w hSw; (try dsimp only at hSw); go_simp; (try with_reducible rfl))
      try simp only [Act.put, List.setIfInBounds_toArray, List.set_cons_zero, List.set_cons_succ]
      refine wpAnyH_take (i := 13) (oi := { dst := some 55, op := Go.Op.move (Go.Operand.tmp 11), type := 4, pos := "law.go:193", after := #[{ on := 12, ground := Go.Ground.guard }], guard := some (12, false) }) (v := ?_) rfl (by kernel_rfl) (by kernel_rfl) (by kernel_rfl) (fun _ _ _ h => h) (Or.inl ⟨by rfl, ?_⟩) (by assumption) ?_
      rotate_left
      focus (intro w hSw; (try dsimp only at hSw); go_simp; (try with_reducible rfl))
      try simp only [Act.put, List.setIfInBounds_toArray, List.set_cons_zero, List.set_cons_succ]
      refine wpAnyH_take (i := 14) (oi := { dst := some 56, op := Go.Op.move (Go.Operand.tmp 0), type := 3, pos := "law.go:193", after := #[{ on := 12, ground := Go.Ground.guard }], guard := some (12, false) }) (v := ?_) rfl (by kernel_rfl) (by kernel_rfl) (by kernel_rfl) (fun _ _ _ h => h) (Or.inl ⟨by rfl, ?_⟩) (by assumption) ?_
      rotate_left
      focus (intro w hSw; (try dsimp only at hSw); go_simp; (try with_reducible rfl))
      try simp only [Act.put, List.setIfInBounds_toArray, List.set_cons_zero, List.set_cons_succ]
      refine wpAnyH_take (i := 15) (oi := { dst := some 57, op := Go.Op.binOp Go.BinOp.neq 3 (Go.Operand.tmp 56) (Go.Operand.const (Go.Value.int Go.IntKind.i64 (-9223372036854775808))) 3, type := 4, pos := "law.go:193", after := #[{ on := 14, ground := Go.Ground.data }, { on := 12, ground := Go.Ground.guard }], guard := some (12, false) }) (v := ?_) rfl (by kernel_rfl) (by kernel_rfl) (by kernel_rfl) (fun _ _ _ h => h) (Or.inl ⟨by rfl, ?_⟩) (by assumption) ?_
      rotate_left
      focus (intro w hSw; (try dsimp only at hSw); go_simp; (try with_reducible rfl))
      try simp only [Act.put, List.setIfInBounds_toArray, List.set_cons_zero, List.set_cons_succ]
      refine wpAnyH_take (i := 16) (oi := { dst := some 58, op := Go.Op.binOp Go.BinOp.neq 4 (Go.Operand.tmp 55) (Go.Operand.tmp 57) 4, type := 4, pos := "law.go:193", after := #[{ on := 13, ground := Go.Ground.data }, { on := 15, ground := Go.Ground.data }, { on := 12, ground := Go.Ground.guard }], guard := some (12, false) }) (v := ?_) rfl (by kernel_rfl) (by kernel_rfl) (by kernel_rfl) (fun _ _ _ h => h) (Or.inl ⟨by rfl, ?_⟩) (by assumption) ?_
      rotate_left
      focus (intro w hSw; (try dsimp only at hSw); go_simp; (try with_reducible rfl))
      try simp only [Act.put, List.setIfInBounds_toArray, List.set_cons_zero, List.set_cons_succ]
      refine wpAnyH_take (i := 17) (oi := { dst := some 59, op := Go.Op.pick (Go.Operand.tmp 54) (Go.Operand.const (Go.Value.bool true)) (Go.Operand.tmp 58), type := 4, pos := "law.go:193", after := #[{ on := 12, ground := Go.Ground.data }, { on := 16, ground := Go.Ground.data }], guard := none }) (v := ?_) rfl (by kernel_rfl) (by kernel_rfl) (by kernel_rfl) (fun _ _ _ h => h) (Or.inl ⟨by rfl, ?_⟩) (by assumption) ?_
      rotate_left
      focus (intro w hSw; (try dsimp only at hSw); go_simp; (try with_reducible rfl))
      try simp only [Act.put, List.setIfInBounds_toArray, List.set_cons_zero, List.set_cons_succ]
      refine wpAnyH_take (i := 18) (oi := { dst := some 60, op := Go.Op.move (Go.Operand.tmp 59), type := 4, pos := "law.go:193", after := #[{ on := 17, ground := Go.Ground.data }, { on := 12, ground := Go.Ground.chain }], guard := none }) (v := ?_) rfl (by kernel_rfl) (by kernel_rfl) (by kernel_rfl) (fun _ _ _ h => h) (Or.inl ⟨by rfl, ?_⟩) (by assumption) ?_
      rotate_left
      focus (intro w hSw; (try dsimp only at hSw); go_simp; (try with_reducible rfl))
      try simp only [Act.put, List.setIfInBounds_toArray, List.set_cons_zero, List.set_cons_succ]
      refine wpAnyH_take (i := 19) (oi := { dst := some 61, op := Go.Op.move (Go.Operand.tmp 11), type := 4, pos := "law.go:193", after := #[{ on := 18, ground := Go.Ground.guard }], guard := some (18, false) }) (v := ?_) rfl (by kernel_rfl) (by kernel_rfl) (by kernel_rfl) (fun _ _ _ h => h) (Or.inl ⟨by rfl, ?_⟩) (by assumption) ?_
      rotate_left
      focus (intro w hSw; (try dsimp only at hSw); go_simp; (try with_reducible rfl))
      try simp only [Act.put, List.setIfInBounds_toArray, List.set_cons_zero, List.set_cons_succ]
      refine wpAnyH_take (i := 20) (oi := { dst := some 62, op := Go.Op.move (Go.Operand.tmp 61), type := 4, pos := "law.go:193", after := #[{ on := 19, ground := Go.Ground.data }, { on := 18, ground := Go.Ground.chain }, { on := 18, ground := Go.Ground.guard }], guard := some (18, false) }) (v := ?_) rfl (by kernel_rfl) (by kernel_rfl) (by kernel_rfl) (fun _ _ _ h => h) (Or.inl ⟨by rfl, ?_⟩) (by assumption) ?_
      rotate_left
      focus (intro w hSw; (try dsimp only at hSw); go_simp; (try with_reducible rfl))
      try simp only [Act.put, List.setIfInBounds_toArray, List.set_cons_zero, List.set_cons_succ]
      refine wpAnyH_take (i := 21) (oi := { dst := some 63, op := Go.Op.move (Go.Operand.tmp 10), type := 3, pos := "law.go:193", after := #[{ on := 20, ground := Go.Ground.guard }], guard := some (20, true) }) (v := undef) rfl (by kernel_rfl) (by kernel_rfl) (by kernel_rfl) (fun _ _ _ h => h) (Or.inr ⟨by rfl, rfl⟩) (by assumption) ?_
      try simp only [Act.put, List.setIfInBounds_toArray, List.set_cons_zero, List.set_cons_succ]
      refine wpAnyH_take (i := 22) (oi := { dst := some 64, op := Go.Op.move (Go.Operand.tmp 0), type := 3, pos := "law.go:193", after := #[{ on := 20, ground := Go.Ground.guard }], guard := some (20, true) }) (v := undef) rfl (by kernel_rfl) (by kernel_rfl) (by kernel_rfl) (fun _ _ _ h => h) (Or.inr ⟨by rfl, rfl⟩) (by assumption) ?_
      try simp only [Act.put, List.setIfInBounds_toArray, List.set_cons_zero, List.set_cons_succ]
      refine wpAnyH_take (i := 23) (oi := { dst := some 65, op := Go.Op.unOp Go.UnOp.neg 3 (Go.Operand.tmp 64), type := 3, pos := "law.go:193", after := #[{ on := 22, ground := Go.Ground.data }, { on := 20, ground := Go.Ground.guard }], guard := some (20, true) }) (v := undef) rfl (by kernel_rfl) (by kernel_rfl) (by kernel_rfl) (fun _ _ _ h => h) (Or.inr ⟨by rfl, rfl⟩) (by assumption) ?_
      try simp only [Act.put, List.setIfInBounds_toArray, List.set_cons_zero, List.set_cons_succ]
      refine wpAnyH_take (i := 24) (oi := { dst := some 66, op := Go.Op.binOp Go.BinOp.neq 3 (Go.Operand.tmp 63) (Go.Operand.tmp 65) 3, type := 4, pos := "law.go:193", after := #[{ on := 21, ground := Go.Ground.data }, { on := 23, ground := Go.Ground.data }, { on := 20, ground := Go.Ground.guard }], guard := some (20, true) }) (v := undef) rfl (by kernel_rfl) (by kernel_rfl) (by kernel_rfl) (fun _ _ _ h => h) (Or.inr ⟨by rfl, rfl⟩) (by assumption) ?_
      try simp only [Act.put, List.setIfInBounds_toArray, List.set_cons_zero, List.set_cons_succ]
      refine wpAnyH_take (i := 25) (oi := { dst := some 67, op := Go.Op.pick (Go.Operand.tmp 62) (Go.Operand.tmp 66) (Go.Operand.const (Go.Value.bool false)), type := 4, pos := "law.go:193", after := #[{ on := 20, ground := Go.Ground.data }, { on := 24, ground := Go.Ground.data }, { on := 18, ground := Go.Ground.guard }], guard := some (18, false) }) (v := ?_) rfl (by kernel_rfl) (by kernel_rfl) (by kernel_rfl) (fun _ _ _ h => h) (Or.inl ⟨by rfl, ?_⟩) (by assumption) ?_
      rotate_left
      focus (intro w hSw; (try dsimp only at hSw); go_simp; (try with_reducible rfl))
      try simp only [Act.put, List.setIfInBounds_toArray, List.set_cons_zero, List.set_cons_succ]
      refine wpAnyH_take (i := 26) (oi := { dst := some 68, op := Go.Op.pick (Go.Operand.tmp 60) (Go.Operand.const (Go.Value.bool true)) (Go.Operand.tmp 67), type := 4, pos := "law.go:193", after := #[{ on := 18, ground := Go.Ground.data }, { on := 25, ground := Go.Ground.data }], guard := none }) (v := ?_) rfl (by kernel_rfl) (by kernel_rfl) (by kernel_rfl) (fun _ _ _ h => h) (Or.inl ⟨by rfl, ?_⟩) (by assumption) ?_
      rotate_left
      focus (intro w hSw; (try dsimp only at hSw); go_simp; (try with_reducible rfl))
      try simp only [Act.put, List.setIfInBounds_toArray, List.set_cons_zero, List.set_cons_succ]
      refine wpAnyH_take (i := 27) (oi := { dst := some 69, op := Go.Op.move (Go.Operand.tmp 68), type := 4, pos := "law.go:193", after := #[{ on := 26, ground := Go.Ground.data }, { on := 20, ground := Go.Ground.chain }], guard := none }) (v := ?_) rfl (by kernel_rfl) (by kernel_rfl) (by kernel_rfl) (fun _ _ _ h => h) (Or.inl ⟨by rfl, ?_⟩) (by assumption) ?_
      rotate_left
      focus (intro w hSw; (try dsimp only at hSw); go_simp; (try with_reducible rfl))
      try simp only [Act.put, List.setIfInBounds_toArray, List.set_cons_zero, List.set_cons_succ]
      refine wpAnyH_take (i := 28) (oi := { dst := some 70, op := Go.Op.load 24 (Go.Operand.tmp 6), type := 24, pos := "law.go:193", after := #[{ on := 27, ground := Go.Ground.guard }], guard := some (27, false) }) (v := ?_) rfl (by kernel_rfl) (by kernel_rfl) (by kernel_rfl) (fun _ _ _ h => h) (Or.inl ⟨by rfl, ?_⟩) (by assumption) ?_
      rotate_left
      focus (intro w hSw; (try dsimp only at hSw); go_simp; (try with_reducible rfl))
      try simp only [Act.put, List.setIfInBounds_toArray, List.set_cons_zero, List.set_cons_succ]
      refine wpAnyH_take (i := 30) (oi := { dst := some 72, op := Go.Op.load 24 (Go.Operand.tmp 7), type := 24, pos := "law.go:193", after := #[{ on := 27, ground := Go.Ground.guard }], guard := some (27, false) }) (v := ?_) rfl (by kernel_rfl) (by kernel_rfl) (by kernel_rfl) (fun _ _ _ h => h) (Or.inl ⟨by rfl, ?_⟩) (by assumption) ?_
      rotate_left
      focus (intro w hSw; (try dsimp only at hSw); go_simp; (try with_reducible rfl))
      try simp only [Act.put, List.setIfInBounds_toArray, List.set_cons_zero, List.set_cons_succ]
      refine wpAnyH_take (i := 33) (oi := { dst := some 75, op := Go.Op.move (Go.Operand.tmp 0), type := 3, pos := "law.go:193", after := #[{ on := 27, ground := Go.Ground.guard }], guard := some (27, false) }) (v := ?_) rfl (by kernel_rfl) (by kernel_rfl) (by kernel_rfl) (fun _ _ _ h => h) (Or.inl ⟨by rfl, ?_⟩) (by assumption) ?_
      rotate_left
      focus (intro w hSw; (try dsimp only at hSw); go_simp; (try with_reducible rfl))
      try simp only [Act.put, List.setIfInBounds_toArray, List.set_cons_zero, List.set_cons_succ]
      refine wpAnyH_take (i := 34) (oi := { dst := some 76, op := Go.Op.move (Go.Operand.tmp 1), type := 3, pos := "law.go:193", after := #[{ on := 27, ground := Go.Ground.guard }], guard := some (27, false) }) (v := ?_) rfl (by kernel_rfl) (by kernel_rfl) (by kernel_rfl) (fun _ _ _ h => h) (Or.inl ⟨by rfl, ?_⟩) (by assumption) ?_
      rotate_left
      focus (intro w hSw; (try dsimp only at hSw); go_simp; (try with_reducible rfl))
      try simp only [Act.put, List.setIfInBounds_toArray, List.set_cons_zero, List.set_cons_succ]
      refine wpAnyH_take (i := 35) (oi := { dst := some 77, op := Go.Op.binOp Go.BinOp.eql 3 (Go.Operand.tmp 75) (Go.Operand.tmp 76) 3, type := 4, pos := "law.go:193", after := #[{ on := 33, ground := Go.Ground.data }, { on := 34, ground := Go.Ground.data }, { on := 27, ground := Go.Ground.guard }], guard := some (27, false) }) (v := ?_) rfl (by kernel_rfl) (by kernel_rfl) (by kernel_rfl) (fun _ _ _ h => h) (Or.inl ⟨by rfl, ?_⟩) (by assumption) ?_
      rotate_left
      focus (intro w hSw; (try dsimp only at hSw); go_simp; (try with_reducible rfl))
      try simp only [Act.put, List.setIfInBounds_toArray, List.set_cons_zero, List.set_cons_succ]
      refine wpAnyH_ready (rs := [29]) (by kernel_rfl) (by simp) ?_
      refine AllReadyH.cons (o := { dst := some 71, op := Go.Op.call { callee := Go.Callee.value (Go.Operand.func 29), args := #[Go.Operand.tmp 70], argTypes := #[24] }, type := 9, pos := "law.go:193", after := #[{ on := 28, ground := Go.Ground.data }, { on := 27, ground := Go.Ground.chain }, { on := 27, ground := Go.Ground.guard }], guard := some (27, false) }) rfl (fun K hK => ?_) AllReadyH.nil
      first | go_at_call 24 | go_at_call 29 | (rw [if_pos ?_]; rotate_left; (focus rfl); go_simp) | skip
      try go_at_call 29
      refine (text_l X1.out LA.out V1.out TX.out).mono ?_
      rintro e v2 ⟨rfl, hb⟩
      have T2 := Lib.hid (T1.out.later hb)
      have e2 := KK.out _ T2.out
      have V2 := Lib.hid (T2.out.env HE.out)
      have X2 := Lib.hid ((T2.out.box (w40.heap.size, s40, .slice a40 n40 c40, digs ((-9223372036854775808) : Int).natAbs) List.mem_cons_self).num E40.out)
      clear hb
      try dsimp only
      refine hK.out _ _ (by (try dsimp only); exact e2) (fun hHeld2 => ?_)
      clear hK K hHeld
      have hHeld := hHeld2
      clear hHeld2
      try simp only [Act.put, List.setIfInBounds_toArray, List.set_cons_zero, List.set_cons_succ]
      refine wpAnyH_ready (rs := [31]) (by kernel_rfl) (by simp) ?_
      refine AllReadyH.cons (o := { dst := some 73, op := Go.Op.call { callee := Go.Callee.value (Go.Operand.func 29), args := #[Go.Operand.tmp 72], argTypes := #[24] }, type := 9, pos := "law.go:193", after := #[{ on := 30, ground := Go.Ground.data }, { on := 29, ground := Go.Ground.chain }, { on := 27, ground := Go.Ground.guard }], guard := some (27, false) }) rfl (fun K hK => ?_) AllReadyH.nil
      first | go_at_call 24 | go_at_call 29 | (rw [if_pos ?_]; rotate_left; (focus rfl); go_simp) | skip
      try go_at_call 29
      refine (text_l X2.out LB.out V2.out TX.out).mono ?_
      rintro e v3 ⟨rfl, hb⟩
      have T3 := Lib.hid (T2.out.later hb)
      have e3 := KK.out _ T3.out
      clear hb
      try dsimp only
      refine hK.out _ _ (by (try dsimp only); exact e3) (fun hHeld2 => ?_)
      clear hK K hHeld
      have hHeld := hHeld2
      clear hHeld2
      try simp only [Act.put, List.setIfInBounds_toArray, List.set_cons_zero, List.set_cons_succ]
      refine wpAnyH_take (i := 32) (oi := { dst := some 74, op := Go.Op.binOp Go.BinOp.eql 9 (Go.Operand.tmp 71) (Go.Operand.tmp 73) 9, type := 4, pos := "law.go:193", after := #[{ on := 29, ground := Go.Ground.data }, { on := 31, ground := Go.Ground.data }, { on := 27, ground := Go.Ground.guard }], guard := some (27, false) }) (v := ?_) rfl (by kernel_rfl) (by kernel_rfl) (by kernel_rfl) (fun _ _ _ h => h) (Or.inl ⟨by rfl, ?_⟩) (by assumption) ?_
      rotate_left
      focus (intro w hSw; (try dsimp only at hSw); go_simp; (try with_reducible rfl))
      try simp only [Act.put, List.setIfInBounds_toArray, List.set_cons_zero, List.set_cons_succ]
      refine wpAnyH_take (i := 36) (oi := { dst := some 78, op := Go.Op.binOp Go.BinOp.neq 4 (Go.Operand.tmp 74) (Go.Operand.tmp 77) 4, type := 4, pos := "law.go:193", after := #[{ on := 32, ground := Go.Ground.data }, { on := 35, ground := Go.Ground.data }, { on := 27, ground := Go.Ground.guard }], guard := some (27, false) }) (v := ?_) rfl (by kernel_rfl) (by kernel_rfl) (by kernel_rfl) (fun _ _ _ h => h) (Or.inl ⟨by rfl, ?_⟩) (by assumption) ?_
      rotate_left
      focus (intro w hSw; (try dsimp only at hSw); go_simp; (try with_reducible rfl))
      try simp only [Act.put, List.setIfInBounds_toArray, List.set_cons_zero, List.set_cons_succ]
      refine wpAnyH_take (i := 37) (oi := { dst := some 79, op := Go.Op.pick (Go.Operand.tmp 69) (Go.Operand.const (Go.Value.bool true)) (Go.Operand.tmp 78), type := 4, pos := "law.go:193", after := #[{ on := 27, ground := Go.Ground.data }, { on := 36, ground := Go.Ground.data }], guard := none }) (v := ?_) rfl (by kernel_rfl) (by kernel_rfl) (by kernel_rfl) (fun _ _ _ h => h) (Or.inl ⟨by rfl, ?_⟩) (by assumption) ?_
      rotate_left
      focus (intro w hSw; (try dsimp only at hSw); go_simp; (try with_reducible rfl))
      try simp only [Act.put, List.setIfInBounds_toArray, List.set_cons_zero, List.set_cons_succ]
      refine wpAnyH_done (by kernel_rfl) ?_ _
      all_goals
        obtain ⟨t26, u26⟩ := (T3.out.box (w39.heap.size, s39, .slice a39 n39 c39, digs ((-9223372036854775808) : Int).natAbs) (List.mem_cons_of_mem _ List.mem_cons_self)).cells
        obtain ⟨t27, u27⟩ := (T3.out.box (w40.heap.size, s40, .slice a40 n40 c40, digs ((-9223372036854775808) : Int).natAbs) List.mem_cons_self).cells
        go_wp2_with fail
        clear t26 u26 t27 u27
        refine (add_k ((T3.out.box (w39.heap.size, s39, .slice a39 n39 c39, digs ((-9223372036854775808) : Int).natAbs) (List.mem_cons_of_mem _ List.mem_cons_self)).num E39.out) ((T3.out.box (w40.heap.size, s40, .slice a40 n40 c40, digs ((-9223372036854775808) : Int).natAbs) List.mem_cons_self).num E40.out) (Sz.len Za.out) (Sz.len Zb.out)).mono ?_
        rintro e w47 ⟨s47, a47, n47, c47, rfl, hn, hb, hf⟩
        have S47 := Lib.hid (T3.out.ret (sg := s47) hb hn.2 hf)
        have E47 := Lib.hid hn.1
        clear hn hb hf T3
        obtain ⟨t28, u28⟩ := (S47.out.box (w39.heap.size, s39, .slice a39 n39 c39, digs ((-9223372036854775808) : Int).natAbs) (List.mem_cons_of_mem _ (List.mem_cons_of_mem _ List.mem_cons_self))).cells
        obtain ⟨t29, u29⟩ := (S47.out.box (w40.heap.size, s40, .slice a40 n40 c40, digs ((-9223372036854775808) : Int).natAbs) (List.mem_cons_of_mem _ List.mem_cons_self)).cells
        go_wp2_with fail
        clear t28 u28 t29 u29
        refine (sub_k ((S47.out.box (w39.heap.size, s39, .slice a39 n39 c39, digs ((-9223372036854775808) : Int).natAbs) (List.mem_cons_of_mem _ (List.mem_cons_of_mem _ List.mem_cons_self))).num E39.out) ((S47.out.box (w40.heap.size, s40, .slice a40 n40 c40, digs ((-9223372036854775808) : Int).natAbs) (List.mem_cons_of_mem _ List.mem_cons_self)).num E40.out) (Sz.len Za.out) (Sz.len Zb.out)).mono ?_
        rintro e w48 ⟨s48, a48, n48, c48, rfl, hn, hb, hf⟩
        have S48 := Lib.hid (S47.out.ret (sg := s48) hb hn.2 hf)
        have E48 := Lib.hid hn.1
        clear hn hb hf S47
        obtain ⟨t30, u30⟩ := (S48.out.box (w39.heap.size, s39, .slice a39 n39 c39, digs ((-9223372036854775808) : Int).natAbs) (List.mem_cons_of_mem _ (List.mem_cons_of_mem _ (List.mem_cons_of_mem _ List.mem_cons_self)))).cells
        obtain ⟨t31, u31⟩ := (S48.out.box (w40.heap.size, s40, .slice a40 n40 c40, digs ((-9223372036854775808) : Int).natAbs) (List.mem_cons_of_mem _ (List.mem_cons_of_mem _ List.mem_cons_self))).cells
        go_wp2_with fail
        clear t30 u30 t31 u31
        refine (mul_k ((S48.out.box (w39.heap.size, s39, .slice a39 n39 c39, digs ((-9223372036854775808) : Int).natAbs) (List.mem_cons_of_mem _ (List.mem_cons_of_mem _ (List.mem_cons_of_mem _ List.mem_cons_self)))).num E39.out) ((S48.out.box (w40.heap.size, s40, .slice a40 n40 c40, digs ((-9223372036854775808) : Int).natAbs) (List.mem_cons_of_mem _ (List.mem_cons_of_mem _ List.mem_cons_self))).num E40.out) (Sz.len Za.out) (Sz.len Zb.out)).mono ?_
        rintro e w49 ⟨s49, a49, n49, c49, rfl, hn, hb, hf⟩
        have S49 := Lib.hid (S48.out.ret (sg := s49) hb hn.2 hf)
        have E49 := Lib.hid hn.1
        clear hn hb hf S48
        obtain ⟨t32, u32⟩ := (S49.out.box (w39.heap.size, s39, .slice a39 n39 c39, digs ((-9223372036854775808) : Int).natAbs) (List.mem_cons_of_mem _ (List.mem_cons_of_mem _ (List.mem_cons_of_mem _ (List.mem_cons_of_mem _ List.mem_cons_self))))).cells
        obtain ⟨t33, u33⟩ := (S49.out.box (w40.heap.size, s40, .slice a40 n40 c40, digs ((-9223372036854775808) : Int).natAbs) (List.mem_cons_of_mem _ (List.mem_cons_of_mem _ (List.mem_cons_of_mem _ List.mem_cons_self)))).cells
        go_wp2_with fail
        clear t32 u32 t33 u33
        refine (cmp_t ((S49.out.box (w39.heap.size, s39, .slice a39 n39 c39, digs ((-9223372036854775808) : Int).natAbs) (List.mem_cons_of_mem _ (List.mem_cons_of_mem _ (List.mem_cons_of_mem _ (List.mem_cons_of_mem _ List.mem_cons_self))))).num E39.out) ((S49.out.box (w40.heap.size, s40, .slice a40 n40 c40, digs ((-9223372036854775808) : Int).natAbs) (List.mem_cons_of_mem _ (List.mem_cons_of_mem _ (List.mem_cons_of_mem _ List.mem_cons_self)))).num E40.out) HC.out).mono ?_
        rintro e w50 ⟨rfl, hb⟩
        have S51 := Lib.hid (S49.out.later hb)
        clear S49
        clear hb
        go_wp2_with fail
        go_ret
        exact ⟨rfl, S51.out.below⟩
    case inr =>
      have HC : Hid (cmpI va vb = 0) := by rw [hk]; exact cmpI_eq _
      have HM := Lib.hid hmin
      have hm1 : (va != -9223372036854775808) = true := by simpa using HM.out
      have hw : IntKind.i64.wrap (-va) = -va := IntWalk.i64_in _ (by have h1 := HM.out; have h2 := HA.out; omega)
      clear hmin
      have HK := Lib.hid hk
      obtain rfl : va = vb := hk
      obtain rfl : tx = ty := TX.out.symm.trans TY.out
      have hna := HA.out
      have hnb := HB.out
      go_enter Tryd.func5, Tryd.ntmps5
      go_wp2_with fail
      refine (small_any _ (S0.out.env HE.out)).mono ?_
      rintro e w52 ⟨rfl, hb⟩
      have S53 := Lib.hid (S0.out.later hb)
      clear S0
      clear hb
      go_wp2_with fail
      refine (of_k va HA.out _).mono ?_
      rintro e w54 ⟨s54, a54, n54, c54, rfl, hn, hb, hf⟩
      have S54 := Lib.hid (S53.out.ret (sg := s54) hb hn.2 hf)
      have E54 := Lib.hid hn.1
      clear hn hb hf S53
      go_wp2_with fail
      refine (of_k va HB.out _).mono ?_
      rintro e w55 ⟨s55, a55, n55, c55, rfl, hn, hb, hf⟩
      have S55 := Lib.hid (S54.out.ret (sg := s55) hb hn.2 hf)
      have E55 := Lib.hid hn.1
      clear hn hb hf S54
      obtain ⟨t34, u34⟩ := (S55.out.box (w54.heap.size, s54, .slice a54 n54 c54, digs (va : Int).natAbs) (List.mem_cons_of_mem _ List.mem_cons_self)).cells
      go_wp2_with fail
      clear t34 u34
      refine (int_in ((S55.out.box (w54.heap.size, s54, .slice a54 n54 c54, digs (va : Int).natAbs) (List.mem_cons_of_mem _ List.mem_cons_self)).num E54.out) HA.out rfl).mono ?_
      rintro e w56 ⟨rfl, hb⟩
      have S57 := Lib.hid (S55.out.later hb)
      clear S55
      clear hb
      obtain ⟨t35, u35⟩ := (S57.out.box (w54.heap.size, s54, .slice a54 n54 c54, digs (va : Int).natAbs) (List.mem_cons_of_mem _ List.mem_cons_self)).cells
      go_wp2_with fail
      clear t35 u35
      refine (neg_k ((S57.out.box (w54.heap.size, s54, .slice a54 n54 c54, digs (va : Int).natAbs) (List.mem_cons_of_mem _ List.mem_cons_self)).num E54.out) (Sz.len Za.out)).mono ?_
      rintro e w58 ⟨s58, a58, n58, c58, rfl, hn, hb, hf⟩
      have S59 := Lib.hid (S57.out.later hb)
      clear S57
      have N58 := Lib.hid hn
      clear hn hb hf
      go_wp2_with fail
      refine (int_in N58.out (by have := HM.out; omega) rfl).mono ?_
      rintro e w60 ⟨rfl, hb⟩
      have S61 := Lib.hid (S59.out.later hb)
      clear S59
      clear hb
      go_wp2_with fail
      have K0 : ∀ W, Sq w [(w55.heap.size, s55, .slice a55 n55 c55, digs (va : Int).natAbs), (w54.heap.size, s54, .slice a54 n54 c54, digs (va : Int).natAbs)] W → W.cell? ⟨w54.heap.size, 0, none⟩ = some (.int .i64 s54) ∧ W.cell? ⟨w54.heap.size, 1, none⟩ = some (.slice a54 n54 c54) ∧ W.cell? ⟨w55.heap.size, 0, none⟩ = some (.int .i64 s55) ∧ W.cell? ⟨w55.heap.size, 1, none⟩ = some (.slice a55 n55 c55) := fun W h => ⟨(h.box (w54.heap.size, s54, .slice a54 n54 c54, digs (va : Int).natAbs) (List.mem_cons_of_mem _ List.mem_cons_self)).cells.1, (h.box (w54.heap.size, s54, .slice a54 n54 c54, digs (va : Int).natAbs) (List.mem_cons_of_mem _ List.mem_cons_self)).cells.2, (h.box (w55.heap.size, s55, .slice a55 n55 c55, digs (va : Int).natAbs) List.mem_cons_self).cells.1, (h.box (w55.heap.size, s55, .slice a55 n55 c55, digs (va : Int).natAbs) List.mem_cons_self).cells.2⟩
      have KK := Lib.hid K0
      clear K0
      have SD := Lib.hid S61.out.drew
      clear S61
      have e0 := KK.out _ SD.out
      have LA : Hid (Len 100000 va) := Sz.len Za.out
      have LB : Hid (Len 100000 va) := Sz.len Zb.out
      have V0 := Lib.hid (SD.out.env HE.out)
      have X0 := Lib.hid ((SD.out.box (w54.heap.size, s54, .slice a54 n54 c54, digs (va : Int).natAbs) (List.mem_cons_of_mem _ List.mem_cons_self)).num E54.out)
      go_region_held3 (fun W => W.cell? ⟨w54.heap.size, 0, none⟩ = some (.int .i64 s54) ∧ W.cell? ⟨w54.heap.size, 1, none⟩ = some (.slice a54 n54 c54) ∧ W.cell? ⟨w55.heap.size, 0, none⟩ = some (.int .i64 s55) ∧ W.cell? ⟨w55.heap.size, 1, none⟩ = some (.slice a55 n55 c55))
        (first | (with_reducible exact e0) | (with_reducible exact e1) | (with_reducible exact e2) | (with_reducible exact e3))
        (((first | go_at_call 24 | go_at_call 29 | (rw [if_pos ?_]; rotate_left; (focus rfl); go_simp) | (rw [if_neg ?_]; rotate_left; (focus (exact fun h => Bool.noConfusion (show false = true from h))); go_simp) | skip); (first
          | (have hG := T2; clear hG; go_at_call 29; (with_reducible refine (text_l X2.out LB.out V2.out TX.out).mono ?_); rintro e v3 ⟨rfl, hb⟩; have T3 := Lib.hid (T2.out.later hb); have e3 := KK.out _ T3.out; clear hb)
          | (have hG := T1; clear hG; go_at_call 29; (with_reducible refine (text_l X1.out LA.out V1.out TX.out).mono ?_); rintro e v2 ⟨rfl, hb⟩; have T2 := Lib.hid (T1.out.later hb); have e2 := KK.out _ T2.out; have V2 := Lib.hid (T2.out.env HE.out); have X2 := Lib.hid ((T2.out.box (w55.heap.size, s55, .slice a55 n55 c55, digs (va : Int).natAbs) List.mem_cons_self).num E55.out); clear hb)
          | (go_at_call 24; (with_reducible refine (right_k X0.out).mono ?_); rintro e v1 ⟨rfl, hb⟩; have T1 := Lib.hid (SD.out.later hb); have e1 := KK.out _ T1.out; have V1 := Lib.hid (T1.out.env HE.out); have X1 := Lib.hid ((T1.out.box (w54.heap.size, s54, .slice a54 n54 c54, digs (va : Int).natAbs) (List.mem_cons_of_mem _ List.mem_cons_self)).num E54.out); clear hb)); (try dsimp only)))
      all_goals
        clear hm1 hw
        obtain ⟨t36, u36⟩ := (T3.out.box (w54.heap.size, s54, .slice a54 n54 c54, digs (va : Int).natAbs) (List.mem_cons_of_mem _ List.mem_cons_self)).cells
        obtain ⟨t37, u37⟩ := (T3.out.box (w55.heap.size, s55, .slice a55 n55 c55, digs (va : Int).natAbs) List.mem_cons_self).cells
        go_wp2_with fail
        clear t36 u36 t37 u37
        refine (add_k ((T3.out.box (w54.heap.size, s54, .slice a54 n54 c54, digs (va : Int).natAbs) (List.mem_cons_of_mem _ List.mem_cons_self)).num E54.out) ((T3.out.box (w55.heap.size, s55, .slice a55 n55 c55, digs (va : Int).natAbs) List.mem_cons_self).num E55.out) (Sz.len Za.out) (Sz.len Zb.out)).mono ?_
        rintro e w62 ⟨s62, a62, n62, c62, rfl, hn, hb, hf⟩
        have S62 := Lib.hid (T3.out.ret (sg := s62) hb hn.2 hf)
        have E62 := Lib.hid hn.1
        clear hn hb hf T3
        obtain ⟨t38, u38⟩ := (S62.out.box (w54.heap.size, s54, .slice a54 n54 c54, digs (va : Int).natAbs) (List.mem_cons_of_mem _ (List.mem_cons_of_mem _ List.mem_cons_self))).cells
        obtain ⟨t39, u39⟩ := (S62.out.box (w55.heap.size, s55, .slice a55 n55 c55, digs (va : Int).natAbs) (List.mem_cons_of_mem _ List.mem_cons_self)).cells
        go_wp2_with fail
        clear t38 u38 t39 u39
        refine (sub_k ((S62.out.box (w54.heap.size, s54, .slice a54 n54 c54, digs (va : Int).natAbs) (List.mem_cons_of_mem _ (List.mem_cons_of_mem _ List.mem_cons_self))).num E54.out) ((S62.out.box (w55.heap.size, s55, .slice a55 n55 c55, digs (va : Int).natAbs) (List.mem_cons_of_mem _ List.mem_cons_self)).num E55.out) (Sz.len Za.out) (Sz.len Zb.out)).mono ?_
        rintro e w63 ⟨s63, a63, n63, c63, rfl, hn, hb, hf⟩
        have S63 := Lib.hid (S62.out.ret (sg := s63) hb hn.2 hf)
        have E63 := Lib.hid hn.1
        clear hn hb hf S62
        obtain ⟨t40, u40⟩ := (S63.out.box (w54.heap.size, s54, .slice a54 n54 c54, digs (va : Int).natAbs) (List.mem_cons_of_mem _ (List.mem_cons_of_mem _ (List.mem_cons_of_mem _ List.mem_cons_self)))).cells
        obtain ⟨t41, u41⟩ := (S63.out.box (w55.heap.size, s55, .slice a55 n55 c55, digs (va : Int).natAbs) (List.mem_cons_of_mem _ (List.mem_cons_of_mem _ List.mem_cons_self))).cells
        go_wp2_with fail
        clear t40 u40 t41 u41
        refine (mul_k ((S63.out.box (w54.heap.size, s54, .slice a54 n54 c54, digs (va : Int).natAbs) (List.mem_cons_of_mem _ (List.mem_cons_of_mem _ (List.mem_cons_of_mem _ List.mem_cons_self)))).num E54.out) ((S63.out.box (w55.heap.size, s55, .slice a55 n55 c55, digs (va : Int).natAbs) (List.mem_cons_of_mem _ (List.mem_cons_of_mem _ List.mem_cons_self))).num E55.out) (Sz.len Za.out) (Sz.len Zb.out)).mono ?_
        rintro e w64 ⟨s64, a64, n64, c64, rfl, hn, hb, hf⟩
        have S64 := Lib.hid (S63.out.ret (sg := s64) hb hn.2 hf)
        have E64 := Lib.hid hn.1
        clear hn hb hf S63
        obtain ⟨t42, u42⟩ := (S64.out.box (w54.heap.size, s54, .slice a54 n54 c54, digs (va : Int).natAbs) (List.mem_cons_of_mem _ (List.mem_cons_of_mem _ (List.mem_cons_of_mem _ (List.mem_cons_of_mem _ List.mem_cons_self))))).cells
        obtain ⟨t43, u43⟩ := (S64.out.box (w55.heap.size, s55, .slice a55 n55 c55, digs (va : Int).natAbs) (List.mem_cons_of_mem _ (List.mem_cons_of_mem _ (List.mem_cons_of_mem _ List.mem_cons_self)))).cells
        go_wp2_with fail
        clear t42 u42 t43 u43
        refine (cmp_t ((S64.out.box (w54.heap.size, s54, .slice a54 n54 c54, digs (va : Int).natAbs) (List.mem_cons_of_mem _ (List.mem_cons_of_mem _ (List.mem_cons_of_mem _ (List.mem_cons_of_mem _ List.mem_cons_self))))).num E54.out) ((S64.out.box (w55.heap.size, s55, .slice a55 n55 c55, digs (va : Int).natAbs) (List.mem_cons_of_mem _ (List.mem_cons_of_mem _ (List.mem_cons_of_mem _ List.mem_cons_self)))).num E55.out) HC.out).mono ?_
        rintro e w65 ⟨rfl, hb⟩
        have S66 := Lib.hid (S64.out.later hb)
        clear S64
        clear hb
        by_cases hh0 : -1073741824 < va
        case neg =>
          have hd := decide_eq_false hh0
          go_wp2_with fail
          go_ret
          exact ⟨rfl, S66.out.below⟩
        case pos =>
          by_cases hh1 : va < 1073741824
          case neg =>
            have hd := decide_eq_false hh1
            go_wp2_with fail
            go_ret
            exact ⟨rfl, S66.out.below⟩
          case pos =>
            have hp := mul_in30 hh0 hh1 hh0 hh1
            have HP := Lib.hid hp
            have HR1 : Hid (-9223372036854775808 ≤ va + va ∧ va + va ≤ 9223372036854775807) := ⟨by omega, by omega⟩
            have HR2 : Hid (-9223372036854775808 ≤ va - va ∧ va - va ≤ 9223372036854775807) := ⟨by omega, by omega⟩
            have HR3 : Hid (-9223372036854775808 ≤ va * va ∧ va * va ≤ 9223372036854775807) := ⟨by omega, by omega⟩
            obtain ⟨t44, u44⟩ := (S66.out.box (w62.heap.size, s62, .slice a62 n62 c62, digs ((va + va) : Int).natAbs) (List.mem_cons_of_mem _ (List.mem_cons_of_mem _ List.mem_cons_self))).cells
            go_wp2_with fail
            clear t44 u44
            refine (int_in ((S66.out.box (w62.heap.size, s62, .slice a62 n62 c62, digs ((va + va) : Int).natAbs) (List.mem_cons_of_mem _ (List.mem_cons_of_mem _ List.mem_cons_self))).num E62.out) HR1.out rfl).mono ?_
            rintro e w67 ⟨rfl, hb⟩
            have S68 := Lib.hid (S66.out.later hb)
            clear S66
            clear hb
            obtain ⟨t45, u45⟩ := (S68.out.box (w63.heap.size, s63, .slice a63 n63 c63, digs ((va - va) : Int).natAbs) (List.mem_cons_of_mem _ List.mem_cons_self)).cells
            go_wp2_with fail
            clear t45 u45
            refine (int_in ((S68.out.box (w63.heap.size, s63, .slice a63 n63 c63, digs ((va - va) : Int).natAbs) (List.mem_cons_of_mem _ List.mem_cons_self)).num E63.out) HR2.out rfl).mono ?_
            rintro e w69 ⟨rfl, hb⟩
            have S70 := Lib.hid (S68.out.later hb)
            clear S68
            clear hb
            obtain ⟨t46, u46⟩ := (S70.out.box (w64.heap.size, s64, .slice a64 n64 c64, digs ((va * va) : Int).natAbs) List.mem_cons_self).cells
            go_wp2_with fail
            clear t46 u46
            refine (int_in ((S70.out.box (w64.heap.size, s64, .slice a64 n64 c64, digs ((va * va) : Int).natAbs) List.mem_cons_self).num E64.out) HR3.out rfl).mono ?_
            rintro e w71 ⟨rfl, hb⟩
            have S72 := Lib.hid (S70.out.later hb)
            clear S70
            clear hb
            go_wp2_with fail
            go_ret
            exact ⟨rfl, S72.out.below⟩
  case inr.inr =>
    rcases hmin with hmin | hmin
    case inl =>
      exact absurd HB.out (by omega)
    case inr =>
      have HC : Hid (cmpI va vb = 1) := cmpI_gt hk
      have HM := Lib.hid hmin
      have hm1 : (va != -9223372036854775808) = true := by simpa using HM.out
      have hw : IntKind.i64.wrap (-va) = -va := IntWalk.i64_in _ (by have h1 := HM.out; have h2 := HA.out; omega)
      clear hmin
      have hsn : tx ≠ ty := by rw [← TX.out, ← TY.out]; exact fun e => by have := itoa_inj e; omega
      have hs : ((⟨tx.toArray⟩ : ByteArray).toList == (⟨ty.toArray⟩ : ByteArray).toList) = false := str_ne hsn
      have hs1 : (tx == ty) = false := by simpa using hsn
      clear hsn
      have he1 : (va == vb) = false := by rw [beq_eq_false_iff_ne]; omega
      have hna := HA.out
      have hnb := HB.out
      go_enter Tryd.func5, Tryd.ntmps5
      go_wp2_with fail
      refine (small_any _ (S0.out.env HE.out)).mono ?_
      rintro e w73 ⟨rfl, hb⟩
      have S74 := Lib.hid (S0.out.later hb)
      clear S0
      clear hb
      go_wp2_with fail
      refine (of_k va HA.out _).mono ?_
      rintro e w75 ⟨s75, a75, n75, c75, rfl, hn, hb, hf⟩
      have S75 := Lib.hid (S74.out.ret (sg := s75) hb hn.2 hf)
      have E75 := Lib.hid hn.1
      clear hn hb hf S74
      go_wp2_with fail
      refine (of_k vb HB.out _).mono ?_
      rintro e w76 ⟨s76, a76, n76, c76, rfl, hn, hb, hf⟩
      have S76 := Lib.hid (S75.out.ret (sg := s76) hb hn.2 hf)
      have E76 := Lib.hid hn.1
      clear hn hb hf S75
      obtain ⟨t47, u47⟩ := (S76.out.box (w75.heap.size, s75, .slice a75 n75 c75, digs (va : Int).natAbs) (List.mem_cons_of_mem _ List.mem_cons_self)).cells
      go_wp2_with fail
      clear t47 u47
      refine (int_in ((S76.out.box (w75.heap.size, s75, .slice a75 n75 c75, digs (va : Int).natAbs) (List.mem_cons_of_mem _ List.mem_cons_self)).num E75.out) HA.out rfl).mono ?_
      rintro e w77 ⟨rfl, hb⟩
      have S78 := Lib.hid (S76.out.later hb)
      clear S76
      clear hb
      obtain ⟨t48, u48⟩ := (S78.out.box (w75.heap.size, s75, .slice a75 n75 c75, digs (va : Int).natAbs) (List.mem_cons_of_mem _ List.mem_cons_self)).cells
      go_wp2_with fail
      clear t48 u48
      refine (neg_k ((S78.out.box (w75.heap.size, s75, .slice a75 n75 c75, digs (va : Int).natAbs) (List.mem_cons_of_mem _ List.mem_cons_self)).num E75.out) (Sz.len Za.out)).mono ?_
      rintro e w79 ⟨s79, a79, n79, c79, rfl, hn, hb, hf⟩
      have S80 := Lib.hid (S78.out.later hb)
      clear S78
      have N79 := Lib.hid hn
      clear hn hb hf
      go_wp2_with fail
      refine (int_in N79.out (by have := HM.out; omega) rfl).mono ?_
      rintro e w81 ⟨rfl, hb⟩
      have S82 := Lib.hid (S80.out.later hb)
      clear S80
      clear hb
      go_wp2_with fail
      have K0 : ∀ W, Sq w [(w76.heap.size, s76, .slice a76 n76 c76, digs (vb : Int).natAbs), (w75.heap.size, s75, .slice a75 n75 c75, digs (va : Int).natAbs)] W → W.cell? ⟨w75.heap.size, 0, none⟩ = some (.int .i64 s75) ∧ W.cell? ⟨w75.heap.size, 1, none⟩ = some (.slice a75 n75 c75) ∧ W.cell? ⟨w76.heap.size, 0, none⟩ = some (.int .i64 s76) ∧ W.cell? ⟨w76.heap.size, 1, none⟩ = some (.slice a76 n76 c76) := fun W h => ⟨(h.box (w75.heap.size, s75, .slice a75 n75 c75, digs (va : Int).natAbs) (List.mem_cons_of_mem _ List.mem_cons_self)).cells.1, (h.box (w75.heap.size, s75, .slice a75 n75 c75, digs (va : Int).natAbs) (List.mem_cons_of_mem _ List.mem_cons_self)).cells.2, (h.box (w76.heap.size, s76, .slice a76 n76 c76, digs (vb : Int).natAbs) List.mem_cons_self).cells.1, (h.box (w76.heap.size, s76, .slice a76 n76 c76, digs (vb : Int).natAbs) List.mem_cons_self).cells.2⟩
      have KK := Lib.hid K0
      clear K0
      have SD := Lib.hid S82.out.drew
      clear S82
      have e0 := KK.out _ SD.out
      have LA : Hid (Len 100000 va) := Sz.len Za.out
      have LB : Hid (Len 100000 vb) := Sz.len Zb.out
      have V0 := Lib.hid (SD.out.env HE.out)
      have X0 := Lib.hid ((SD.out.box (w75.heap.size, s75, .slice a75 n75 c75, digs (va : Int).natAbs) (List.mem_cons_of_mem _ List.mem_cons_self)).num E75.out)
      go_region_held3 (fun W => W.cell? ⟨w75.heap.size, 0, none⟩ = some (.int .i64 s75) ∧ W.cell? ⟨w75.heap.size, 1, none⟩ = some (.slice a75 n75 c75) ∧ W.cell? ⟨w76.heap.size, 0, none⟩ = some (.int .i64 s76) ∧ W.cell? ⟨w76.heap.size, 1, none⟩ = some (.slice a76 n76 c76))
        (first | (with_reducible exact e0) | (with_reducible exact e1) | (with_reducible exact e2) | (with_reducible exact e3))
        (((first | go_at_call 24 | go_at_call 29 | (rw [if_pos ?_]; rotate_left; (focus rfl); go_simp) | (rw [if_neg ?_]; rotate_left; (focus (exact fun h => Bool.noConfusion (show false = true from h))); go_simp) | skip); (first
          | (have hG := T2; clear hG; go_at_call 29; (with_reducible refine (text_l X2.out LB.out V2.out TY.out).mono ?_); rintro e v3 ⟨rfl, hb⟩; have T3 := Lib.hid (T2.out.later hb); have e3 := KK.out _ T3.out; clear hb)
          | (have hG := T1; clear hG; go_at_call 29; (with_reducible refine (text_l X1.out LA.out V1.out TX.out).mono ?_); rintro e v2 ⟨rfl, hb⟩; have T2 := Lib.hid (T1.out.later hb); have e2 := KK.out _ T2.out; have V2 := Lib.hid (T2.out.env HE.out); have X2 := Lib.hid ((T2.out.box (w76.heap.size, s76, .slice a76 n76 c76, digs (vb : Int).natAbs) List.mem_cons_self).num E76.out); clear hb)
          | (go_at_call 24; (with_reducible refine (right_k X0.out).mono ?_); rintro e v1 ⟨rfl, hb⟩; have T1 := Lib.hid (SD.out.later hb); have e1 := KK.out _ T1.out; have V1 := Lib.hid (T1.out.env HE.out); have X1 := Lib.hid ((T1.out.box (w75.heap.size, s75, .slice a75 n75 c75, digs (va : Int).natAbs) (List.mem_cons_of_mem _ List.mem_cons_self)).num E75.out); clear hb)); (try dsimp only)))
      all_goals
        clear hs hs1 he1 hm1 hw
        have hd0 : decide (va < vb) = false := decide_eq_false (by omega)
        have hd1 : decide (vb < va) = true := decide_eq_true (by omega)
        obtain ⟨t49, u49⟩ := (T3.out.box (w75.heap.size, s75, .slice a75 n75 c75, digs (va : Int).natAbs) (List.mem_cons_of_mem _ List.mem_cons_self)).cells
        obtain ⟨t50, u50⟩ := (T3.out.box (w76.heap.size, s76, .slice a76 n76 c76, digs (vb : Int).natAbs) List.mem_cons_self).cells
        go_wp2_with fail
        clear t49 u49 t50 u50
        clear hd0 hd1
        refine (add_k ((T3.out.box (w75.heap.size, s75, .slice a75 n75 c75, digs (va : Int).natAbs) (List.mem_cons_of_mem _ List.mem_cons_self)).num E75.out) ((T3.out.box (w76.heap.size, s76, .slice a76 n76 c76, digs (vb : Int).natAbs) List.mem_cons_self).num E76.out) (Sz.len Za.out) (Sz.len Zb.out)).mono ?_
        rintro e w83 ⟨s83, a83, n83, c83, rfl, hn, hb, hf⟩
        have S83 := Lib.hid (T3.out.ret (sg := s83) hb hn.2 hf)
        have E83 := Lib.hid hn.1
        clear hn hb hf T3
        obtain ⟨t51, u51⟩ := (S83.out.box (w75.heap.size, s75, .slice a75 n75 c75, digs (va : Int).natAbs) (List.mem_cons_of_mem _ (List.mem_cons_of_mem _ List.mem_cons_self))).cells
        obtain ⟨t52, u52⟩ := (S83.out.box (w76.heap.size, s76, .slice a76 n76 c76, digs (vb : Int).natAbs) (List.mem_cons_of_mem _ List.mem_cons_self)).cells
        go_wp2_with fail
        clear t51 u51 t52 u52
        refine (sub_k ((S83.out.box (w75.heap.size, s75, .slice a75 n75 c75, digs (va : Int).natAbs) (List.mem_cons_of_mem _ (List.mem_cons_of_mem _ List.mem_cons_self))).num E75.out) ((S83.out.box (w76.heap.size, s76, .slice a76 n76 c76, digs (vb : Int).natAbs) (List.mem_cons_of_mem _ List.mem_cons_self)).num E76.out) (Sz.len Za.out) (Sz.len Zb.out)).mono ?_
        rintro e w84 ⟨s84, a84, n84, c84, rfl, hn, hb, hf⟩
        have S84 := Lib.hid (S83.out.ret (sg := s84) hb hn.2 hf)
        have E84 := Lib.hid hn.1
        clear hn hb hf S83
        obtain ⟨t53, u53⟩ := (S84.out.box (w75.heap.size, s75, .slice a75 n75 c75, digs (va : Int).natAbs) (List.mem_cons_of_mem _ (List.mem_cons_of_mem _ (List.mem_cons_of_mem _ List.mem_cons_self)))).cells
        obtain ⟨t54, u54⟩ := (S84.out.box (w76.heap.size, s76, .slice a76 n76 c76, digs (vb : Int).natAbs) (List.mem_cons_of_mem _ (List.mem_cons_of_mem _ List.mem_cons_self))).cells
        go_wp2_with fail
        clear t53 u53 t54 u54
        refine (mul_k ((S84.out.box (w75.heap.size, s75, .slice a75 n75 c75, digs (va : Int).natAbs) (List.mem_cons_of_mem _ (List.mem_cons_of_mem _ (List.mem_cons_of_mem _ List.mem_cons_self)))).num E75.out) ((S84.out.box (w76.heap.size, s76, .slice a76 n76 c76, digs (vb : Int).natAbs) (List.mem_cons_of_mem _ (List.mem_cons_of_mem _ List.mem_cons_self))).num E76.out) (Sz.len Za.out) (Sz.len Zb.out)).mono ?_
        rintro e w85 ⟨s85, a85, n85, c85, rfl, hn, hb, hf⟩
        have S85 := Lib.hid (S84.out.ret (sg := s85) hb hn.2 hf)
        have E85 := Lib.hid hn.1
        clear hn hb hf S84
        obtain ⟨t55, u55⟩ := (S85.out.box (w75.heap.size, s75, .slice a75 n75 c75, digs (va : Int).natAbs) (List.mem_cons_of_mem _ (List.mem_cons_of_mem _ (List.mem_cons_of_mem _ (List.mem_cons_of_mem _ List.mem_cons_self))))).cells
        obtain ⟨t56, u56⟩ := (S85.out.box (w76.heap.size, s76, .slice a76 n76 c76, digs (vb : Int).natAbs) (List.mem_cons_of_mem _ (List.mem_cons_of_mem _ (List.mem_cons_of_mem _ List.mem_cons_self)))).cells
        go_wp2_with fail
        clear t55 u55 t56 u56
        refine (cmp_t ((S85.out.box (w75.heap.size, s75, .slice a75 n75 c75, digs (va : Int).natAbs) (List.mem_cons_of_mem _ (List.mem_cons_of_mem _ (List.mem_cons_of_mem _ (List.mem_cons_of_mem _ List.mem_cons_self))))).num E75.out) ((S85.out.box (w76.heap.size, s76, .slice a76 n76 c76, digs (vb : Int).natAbs) (List.mem_cons_of_mem _ (List.mem_cons_of_mem _ (List.mem_cons_of_mem _ List.mem_cons_self)))).num E76.out) HC.out).mono ?_
        rintro e w86 ⟨rfl, hb⟩
        have S87 := Lib.hid (S85.out.later hb)
        clear S85
        clear hb
        by_cases hh0 : -1073741824 < va
        case neg =>
          have hd := decide_eq_false hh0
          go_wp2_with fail
          go_ret
          exact ⟨rfl, S87.out.below⟩
        case pos =>
          by_cases hh1 : va < 1073741824
          case neg =>
            have hd := decide_eq_false hh1
            go_wp2_with fail
            go_ret
            exact ⟨rfl, S87.out.below⟩
          case pos =>
            by_cases hh2 : -1073741824 < vb
            case neg =>
              have hd := decide_eq_false hh2
              go_wp2_with fail
              go_ret
              exact ⟨rfl, S87.out.below⟩
            case pos =>
              by_cases hh3 : vb < 1073741824
              case neg =>
                have hd := decide_eq_false hh3
                go_wp2_with fail
                go_ret
                exact ⟨rfl, S87.out.below⟩
              case pos =>
                have hp := mul_in30 hh0 hh1 hh2 hh3
                have HP := Lib.hid hp
                have HR1 : Hid (-9223372036854775808 ≤ va + vb ∧ va + vb ≤ 9223372036854775807) := ⟨by omega, by omega⟩
                have HR2 : Hid (-9223372036854775808 ≤ va - vb ∧ va - vb ≤ 9223372036854775807) := ⟨by omega, by omega⟩
                have HR3 : Hid (-9223372036854775808 ≤ va * vb ∧ va * vb ≤ 9223372036854775807) := ⟨by omega, by omega⟩
                obtain ⟨t57, u57⟩ := (S87.out.box (w83.heap.size, s83, .slice a83 n83 c83, digs ((va + vb) : Int).natAbs) (List.mem_cons_of_mem _ (List.mem_cons_of_mem _ List.mem_cons_self))).cells
                go_wp2_with fail
                clear t57 u57
                refine (int_in ((S87.out.box (w83.heap.size, s83, .slice a83 n83 c83, digs ((va + vb) : Int).natAbs) (List.mem_cons_of_mem _ (List.mem_cons_of_mem _ List.mem_cons_self))).num E83.out) HR1.out rfl).mono ?_
                rintro e w88 ⟨rfl, hb⟩
                have S89 := Lib.hid (S87.out.later hb)
                clear S87
                clear hb
                obtain ⟨t58, u58⟩ := (S89.out.box (w84.heap.size, s84, .slice a84 n84 c84, digs ((va - vb) : Int).natAbs) (List.mem_cons_of_mem _ List.mem_cons_self)).cells
                go_wp2_with fail
                clear t58 u58
                refine (int_in ((S89.out.box (w84.heap.size, s84, .slice a84 n84 c84, digs ((va - vb) : Int).natAbs) (List.mem_cons_of_mem _ List.mem_cons_self)).num E84.out) HR2.out rfl).mono ?_
                rintro e w90 ⟨rfl, hb⟩
                have S91 := Lib.hid (S89.out.later hb)
                clear S89
                clear hb
                obtain ⟨t59, u59⟩ := (S91.out.box (w85.heap.size, s85, .slice a85 n85 c85, digs ((va * vb) : Int).natAbs) List.mem_cons_self).cells
                go_wp2_with fail
                clear t59 u59
                refine (int_in ((S91.out.box (w85.heap.size, s85, .slice a85 n85 c85, digs ((va * vb) : Int).natAbs) List.mem_cons_self).num E85.out) HR3.out rfl).mono ?_
                rintro e w92 ⟨rfl, hb⟩
                have S93 := Lib.hid (S91.out.later hb)
                clear S91
                clear hb
                go_wp2_with fail
                go_ret
                exact ⟨rfl, S93.out.below⟩
end Go.Proofs.YtbbjogkapcakpaaDoor.Bi
