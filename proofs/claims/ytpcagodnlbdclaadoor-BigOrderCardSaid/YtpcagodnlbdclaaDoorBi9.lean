/- The contracts of compare, Compare, Same, Of, Neg. -/
import Derived.Test.YtpcagodnlbdclaaDoorBi8
set_option maxRecDepth 100000
namespace Go.Proofs.YtpcagodnlbdclaaDoor.Bi
open Go.RowKit

/-- A call of a callee that draws nothing, in a region behind another one. -/
theorem quiet_same2 {P : Program} {f : FuncId} {args : Array Value} {w : World} {a n : Nat} {v : Value} (h : Calls P f args (w.drewN (a + n)) fun e w' => e = .returned v ∧ w' = w.drewN (a + n)) :
    Calls P f args (w.drewN (a + n)) fun e w'' => e = .returned v ∧ ∃ m, w'' = w.drewN (a + m) :=
  h.mono fun _ _ ⟨he, hm⟩ => ⟨he, n, hm⟩
theorem quiet2 {P : Program} {f : FuncId} {args : Array Value} {w : World} {a n : Nat} {v : Value} (h : Calls P f args (w.drewN (a + n)) fun e w' => e = .returned v ∧ ∃ m, w' = (w.drewN (a + n)).drewN m) :
    Calls P f args (w.drewN (a + n)) fun e w'' => e = .returned v ∧ ∃ m, w'' = w.drewN (a + m) :=
  h.mono fun _ _ ⟨he, m, hm⟩ => ⟨he, n + m, by rw [hm, World.drewN_drewN, Nat.add_assoc]⟩
theorem cmpI_lib (x y : Int) : Lib.compareInt x y = cmpI x y := by
  unfold Lib.compareInt cmpI
  by_cases h : x < y
  · rw [if_pos h, if_pos h]
  · rw [if_neg h, if_neg h]
    by_cases h2 : x > y
    · rw [if_pos h2, if_neg (by omega)]
    · rw [if_neg h2, if_pos (by omega)]
theorem cmp_any (x y : Int) (w : World) : Calls Tryd.prog 61 #[.int .i64 x, .int .i64 y] w fun e w' => e = .returned (.int .i64 (cmpI x y)) ∧ w' = w := by
  rw [← cmpI_lib]; exact Tryd.cmp_Compare_int x y w
theorem digs_pos_len {n : Nat} (h : 0 < n) : 0 < (digs n).length := by
  rcases Nat.eq_zero_or_pos (digs n).length with e | e
  · have := digs_len0.1 e; omega
  · exact e

set_option maxHeartbeats 2000000 in
theorem compare_any (vx vy : Value) (m n : Nat) (w : World) (hx : Ints w vx (digs m)) (hy : Ints w vy (digs n)) :
    Calls Tryd.prog 55 #[vx, vy] w fun e w' => e = .returned (.int .i64 (cmpI m n)) ∧ ∃ q, w' = w.drewN q := by
  obtain ⟨ax, capx, rfl, hx1, hx2, hx3⟩ := id hx
  obtain ⟨ay, capy, rfl, hy1, hy2, hy3⟩ := id hy
  obtain ⟨lx, ex⟩ : ∃ l, (digs m).length = l := ⟨_, rfl⟩
  obtain ⟨ly, ey⟩ : ∃ l, (digs n).length = l := ⟨_, rfl⟩
  by_cases hl : lx = ly
  · subst hl
    have HX : Hid (∀ k, k < lx → ∃ b o, ax = some ⟨b, o, none⟩ ∧ w.cell? ⟨b, o + k, none⟩ = some (.int .i64 ((digs m).getD k 0))) := by
      intro k hk
      obtain ⟨b, o, e, _, hr⟩ := hx3.resolve_left (fun e => by rw [e] at ex; simp at ex; omega)
      exact ⟨b, o, e, hr k (by omega)⟩
    have HY : Hid (∀ k, k < lx → ∃ b o, ay = some ⟨b, o, none⟩ ∧ w.cell? ⟨b, o + k, none⟩ = some (.int .i64 ((digs n).getD k 0))) := by
      intro k hk
      obtain ⟨b, o, e, _, hr⟩ := hy3.resolve_left (fun e => by rw [e] at ey; simp at ey; omega)
      exact ⟨b, o, e, hr k (by omega)⟩
    have HEX := Lib.hid ex
    have HEY := Lib.hid ey
    rw [ex] at hx1 hx2 ⊢
    rw [ey] at hy1 hy2 ⊢
    clear hx hy hx3 hy3 ex ey
    go_enter Tryd.func55, Tryd.ntmps55
    go_wp2_with fail
    go_loopw [5] (fun t wr => ∃ k q : Nat, k ≤ lx ∧ t = .int .i64 ((k : Int) - 1) ∧ wr = w.drewN q ∧ (digs m).drop k = (digs n).drop k) (fun t _ => (intOf t + 1).toNat)
    case atStart => exact ⟨lx, 0, Nat.le_refl _, rfl, rfl, by rw [List.drop_eq_nil_of_le (by have := HEX.out; omega), List.drop_eq_nil_of_le (by have := HEY.out; omega)]⟩
    case round =>
      obtain ⟨k, q, hk, rfl, rfl, hd⟩ := hrel
      have HD := Lib.hid hd
      clear hd
      cases k with
      | zero =>
        rw [show ((0 : Nat) : Int) - 1 = -1 from rfl]
        have hmn : m = n := digs_inj (by simpa using HD.out)
        subst hmn
        go_wp2_with fail
        go_ret
        exact ⟨ret_i (cmpI_eq _).symm, q, rfl⟩
      | succ j =>
        rw [show ((j + 1 : Nat) : Int) - 1 = (j : Int) by omega]
        obtain ⟨b, o, rfl, hcx⟩ := HX.out j (by omega)
        obtain ⟨b', o', rfl, hcy⟩ := HY.out j (by omega)
        obtain ⟨dx, edx⟩ : ∃ d, (digs m).getD j 0 = d := ⟨_, rfl⟩
        obtain ⟨dy, edy⟩ : ∃ d, (digs n).getD j 0 = d := ⟨_, rfl⟩
        rw [edx] at hcx
        rw [edy] at hcy
        have HDX := Lib.hid edx
        have HDY := Lib.hid edy
        clear edx edy
        have hj1 : (j : Int) < lx := by omega
        by_cases he : dx = dy
        · subst he
          have hq : (dx != dx) = false := by simp
          go_wp2_with fail
          go_quiet (fail)
          go_wp2_with fail
          go_roundw
          case rel =>
            refine ⟨j, q + nq, by omega, rfl, rfl, ?_⟩
            rw [drop_get (l := digs m) (k := j) (by have := HEX.out; omega), drop_get (l := digs n) (k := j) (by have := HEY.out; omega), HDX.out, HDY.out, HD.out]
          case measure => simp [intOf]
        · have hq : (dx != dy) = true := by simpa using he
          have hc : cmpI m n = cmpI dx dy := by
            have := cmp_at (digs_dig m) (digs_dig n) (by have := HEX.out; have := HEY.out; omega) (k := j) (by have := HEX.out; omega) HD.out (by rw [HDX.out, HDY.out]; exact he)
            rwa [digs_val, digs_val, HDX.out, HDY.out] at this
          have HC := Lib.hid hc
          clear hc he
          go_wp2_with fail
          go_quiet (fail)
          go_wp2_with fail
          go_quiet ((go_at_call 61; exact quiet_same2 (cmp_any dx dy _)))
          go_wp2_with fail
          go_ret
          rw [HC.out]
          exact ⟨rfl, _, by rw [World.drewN_drewN, World.drewN_drewN]⟩
  · have hne : ((lx : Int) != ly) = true := by simp; omega
    have hc : cmpI m n = cmpI lx ly := by
      rcases Nat.lt_or_gt_of_ne hl with h | h
      · rw [cmpI_lt (cmp_len (by omega)), cmpI_lt (by omega)]
      · rw [cmpI_gt (cmp_len (by omega)), cmpI_gt (by omega)]
    rw [ex] at hx2
    rw [ey] at hy2
    rw [hc, ex, ey]
    clear hx hy hx3 hy3 ex ey hx1 hy1 hc hl
    go_enter Tryd.func55, Tryd.ntmps55
    go_wp2_with fail
    refine (cmp_any lx ly _).mono ?_
    rintro e w' ⟨rfl, rfl⟩
    go_wp2_with fail
    go_ret
    exact ⟨rfl, 0, rfl⟩
end Go.Proofs.YtpcagodnlbdclaaDoor.Bi
