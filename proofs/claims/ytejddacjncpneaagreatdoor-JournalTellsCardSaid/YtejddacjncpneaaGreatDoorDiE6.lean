/- The reference's pending, may, fits and the short methods. -/
import Derived.Test.YtejddacjncpneaaGreatDoorDiE5
set_option maxRecDepth 100000
namespace Go.Proofs.YtejddacjncpneaaGreatDoor.Di
open Go.RowKit Go.ChangeShapes Go.WideShapes

theorem qcells {w : World} {fa : Option Addr} {n fc : Nat} {q : List (Int × Nat)} (h : Own w 84 2 (.slice fa n fc) n (cellsQ q)) (k : Nat) (hk : k < q.length) :
    ∃ g, fa = some ⟨g, 0, none⟩ ∧ w.cell? ⟨g, k * 2, none⟩ = some (.int .i64 q[k].1) ∧ w.cell? ⟨g, k * 2 + 1, none⟩ = some (.int .i64 q[k].2) := by
  obtain ⟨h0, h1⟩ := cellsQ_get q k hk
  obtain ⟨g, hg, c0⟩ := h.cell h0
  obtain ⟨g1, hg1, c1⟩ := h.cell h1
  obtain rfl : g = g1 := by rw [hg] at hg1; simpa using hg1
  exact ⟨g, hg, c0, c1⟩

set_option maxHeartbeats 1000000 in
theorem pending_any {S : Nat → Prop} {r : Nat} {fv qv kv : Value} {a : RS} {w : World} (h : RIs S r fv qv kv a w) (f : Int) (n : Nat) {b : Bool} (hb : decide ((f, n) ∈ a.q) = b) :
    Calls Tryz.prog 86 #[.pointer (some ⟨r, 0, none⟩), .int .i64 f, .int .i64 n] w fun e w' => e = .returned (.bool b) ∧ w = w' := by
  have c1 := h.cell.2.1
  obtain ⟨fa, fc, hqv, hc1, hc2⟩ := h.qo.shape
  subst hqv
  have HQO := Lib.hid h.qo
  unfold maxLen at hc2
  obtain ⟨ql, hn⟩ : ∃ ql, a.q.length = ql := ⟨_, rfl⟩
  rw [hn] at hc1 c1
  have HN := Lib.hid hn
  have HB := Lib.hid hb
  clear h hn hb
  go_enter Tryz.func86, Tryz.ntmps86
  go_wp2_with fail
  go_loop [7] (fun i => ∃ k : Nat, k ≤ ql ∧ i = .int .i64 k ∧ Hid ((f, n) ∉ a.q.take k)) (fun i => ql - (RowKit.intOf i).toNat)
  case atStart => exact ⟨0, by omega, rfl, by unfold Hid; simp⟩
  case round =>
    obtain ⟨k, hk, rfl, hat⟩ := hrel
    by_cases hlt : k < ql
    · have hkl : k < a.q.length := by rw [HN.out]; exact hlt
      obtain ⟨g, rfl, y0, y1⟩ := qcells HQO.out k hkl
      obtain ⟨y, hy⟩ : ∃ y, a.q[k] = y := ⟨_, rfl⟩
      rw [hy] at y0 y1
      have HY : Hid (a.q.take (k + 1) = a.q.take k ++ [y] ∧ y ∈ a.q) := ⟨by rw [List.take_succ_eq_append_getElem hkl, hy], by rw [← hy]; exact List.getElem_mem _⟩
      clear hy
      obtain ⟨y1', y2'⟩ := y
      simp only at y0 y1
      by_cases e1 : y1' = f
      · subst e1
        by_cases e2 : y2' = n
        · subst e2
          have hbt : b = true := by rw [← HB.out]; simpa using HY.out.2
          subst hbt
          go_wp2_with fail
          go_ret
          exact ⟨rfl, rfl⟩
        · have g1 : ((y2' : Int) == (n : Int)) = false := by simp; omega
          have g2 : decide ((y2' : Int) = (n : Int)) = false := by simp; omega
          have g3 : (y2' == n) = false := by simp; omega
          have g4 : decide (y2' = n) = false := by simp; omega
          have H2 : Hid ((y1', n) ∉ a.q.take (k + 1)) := by
            unfold Hid; rw [HY.out.1, List.mem_append]
            rintro (h | h)
            · exact hat.out h
            · simp at h; omega
          clear e2
          go_wp2_with fail
          go_round
          case rel => exact ⟨k + 1, by omega, by go_num, H2⟩
          case measure => simp [RowKit.intOf]; omega
      · have g1 : (y1' == f) = false := by simpa using e1
        have g2 : decide (y1' = f) = false := by simpa using e1
        have H2 : Hid ((f, n) ∉ a.q.take (k + 1)) := by
          unfold Hid; rw [HY.out.1, List.mem_append]
          rintro (h | h)
          · exact hat.out h
          · simp at h; exact e1 h.1.symm
        clear e1
        go_wp2_with fail
        go_round
        case rel => exact ⟨k + 1, by omega, by go_num, H2⟩
        case measure => simp [RowKit.intOf]; omega
    · have hbt : b = false := by
        rw [← HB.out]
        have := hat.out
        rw [List.take_of_length_le (by rw [HN.out]; omega)] at this
        simpa using this
      subst hbt
      go_wp2_with fail
      go_ret
      exact ⟨rfl, rfl⟩

theorem may_any {S : Nat → Prop} {r : Nat} {fv qv kv : Value} {a : RS} {w : World} (h : RIs S r fv qv kv a w) (f : Int) {c : Int} (hc : (if a.down = true then 8 else if isF f = false then 1 else 0) = c) :
    Calls Tryz.prog 51 #[.pointer (some ⟨r, 0, none⟩), .int .i64 f] w fun e w' => e = .returned (.int .i64 c) ∧ w = w' := by
  have c3 := h.cell.2.2.2.1
  by_cases hd : a.down = true
  · rw [if_pos hd] at hc
    subst hc
    rw [hd] at c3
    clear h hd
    go_enter Tryz.func51, Tryz.ntmps51
    go_wp2_with fail
    go_ret
    exact ⟨rfl, rfl⟩
  · have hd' : a.down = false := by simpa using hd
    rw [if_neg hd] at hc
    rw [hd'] at c3
    by_cases hf : isF f = false
    · rw [if_pos hf] at hc
      subst hc
      have hx : f < 0 ∨ (¬ f < 0 ∧ 15 < f) := by have := isF_f.1 hf; omega
      clear h hd hd' hf
      rcases hx with hx | ⟨hx, hx2⟩
      all_goals
        go_enter Tryz.func51, Tryz.ntmps51
        go_wp2_with fail
        go_ret
        exact ⟨rfl, rfl⟩
    · rw [if_neg hf] at hc
      subst hc
      have hx := isF_t.1 (isF_tf hf)
      have h1 : ¬ f < 0 := by omega
      have h2 : ¬ 15 < f := by omega
      clear h hd hd' hf
      go_enter Tryz.func51, Tryz.ntmps51
      go_wp2_with fail
      go_ret
      exact ⟨rfl, rfl⟩
theorem fits_any (k : Int) (s : ByteArray) (hs : s.size ≤ 4611686018427387904) (w : World) {b : Bool} (hb : decide (0 ≤ k ∧ k ≤ 16777216 ∧ k + s.size ≤ 16777216) = b) :
    Calls Tryz.prog 72 #[.int .i64 k, .string s] w fun e w' => e = .returned (.bool b) ∧ w = w' := by
  have hcs : k < 0 ∨ (0 ≤ k ∧ 16777216 < k) ∨ (0 ≤ k ∧ k ≤ 16777216 ∧ 16777216 < k + s.size) ∨ (0 ≤ k ∧ k ≤ 16777216 ∧ k + s.size ≤ 16777216) := by omega
  rcases hcs with h | ⟨h1, h⟩ | ⟨h1, h2, h⟩ | ⟨h1, h2, h⟩
  · obtain rfl : b = false := by rw [← hb]; simp; omega
    clear hb
    go_enter Tryz.func72, Tryz.ntmps72
    go_wp2_with fail
    go_ret
    exact ⟨rfl, rfl⟩
  · obtain rfl : b = false := by rw [← hb]; simp; omega
    clear hb
    go_enter Tryz.func72, Tryz.ntmps72
    go_wp2_with fail
    go_ret
    exact ⟨rfl, rfl⟩
  · obtain rfl : b = false := by rw [← hb]; simp; omega
    have HD : Hid (decide (k + (s.size : Int) ≤ 16777216) = false) := by unfold Hid; simp; omega
    clear hb
    go_enter Tryz.func72, Tryz.ntmps72
    go_wp2_with fail
    go_ret
    exact ⟨by show Ending.returned (.bool (decide (k + (s.size : Int) ≤ 16777216))) = _; rw [HD.out], rfl⟩
  · obtain rfl : b = true := by rw [← hb]; simp; omega
    clear hb
    go_enter Tryz.func72, Tryz.ntmps72
    go_wp2_with fail
    go_ret
    exact ⟨rfl, rfl⟩
theorem field1 (f : Int) (a b : ByteArray) (w : World) : (Instr.field 86 (.agg #[.int .i64 f, .string a, .string b]) 1).run Tryz.prog w = .ok (.string a) w := by kernel_rfl
theorem rsize_any {S : Nat → Prop} {r : Nat} {fv qv kv : Value} {a : RS} {w : World} (h : RIs S r fv qv kv a w) (f : Int) :
    Calls Tryz.prog 29 #[.pointer (some ⟨r, 0, none⟩), .int .i64 f] w fun e w' => e = .returned (.int .i64 (look a.fl f).now.size) ∧ w.grownBy w' none := by
  have HG := Lib.hid (get_any h f)
  clear h
  go_enter Tryz.func29, Tryz.ntmps29
  go_wp2_with fail
  refine HG.out.mono ?_
  rintro e w' ⟨rfl, hg⟩
  have H := Lib.hid hg
  clear hg
  have hfd := field1 f (look a.fl f).now (look a.fl f).last w'
  go_wp2_with fail
  go_ret
  exact ⟨rfl, H.out⟩
theorem rstart_any {S : Nat → Prop} {r : Nat} {fv qv kv : Value} {a : RS} {w : World} (h : RIs S r fv qv kv a w) :
    Calls Tryz.prog 23 #[.pointer (some ⟨r, 0, none⟩)] w fun e w' => e = .returned (.tuple #[]) ∧ RAf S r { a with down := false } w w' := by
  have c3 := h.cell.2.2.2.1
  have f3 := h.froz 3
  have HF : Hid (RAf S r { a with down := false } w (w.setCell ⟨r, 3, none⟩ (.bool false))) := h.nums (grownBy_setCell' _ _ _ _) (Lib.heap_setCell_same (i := 3) h.hd _)
  clear h
  go_enter Tryz.func23, Tryz.ntmps23
  go_wp2_with fail
  go_end0
  exact ⟨rfl, HF.out⟩
theorem rlose_any {S : Nat → Prop} {r : Nat} {fv qv kv : Value} {a : RS} {w : World} (h : RIs S r fv qv kv a w) (n : Int) (hn : -9223372036854775808 ≤ n ∧ n ≤ 9223372036854775807) :
    Calls Tryz.prog 17 #[.pointer (some ⟨r, 0, none⟩), .int .i64 n] w fun e w' => e = .returned (.tuple #[]) ∧ RAf S r { a with lost := max n 0 } w w' := by
  have c3 := h.cell.2.2.1
  have f3 := h.froz 2
  obtain ⟨m, hm⟩ : ∃ m, max n 0 = m := ⟨_, rfl⟩
  have HF : Hid (RAf S r { a with lost := m } w (w.setCell ⟨r, 2, none⟩ (.int .i64 m))) := h.nums (grownBy_setCell' _ _ _ _) (Lib.heap_setCell_same (i := 2) h.hd _)
  rw [hm]
  clear h
  by_cases h0 : 0 ≤ n
  · obtain rfl : m = n := by omega
    clear hm
    go_enter Tryz.func17, Tryz.ntmps17
    go_wp2_with fail
    go_end0
    exact ⟨rfl, HF.out⟩
  · obtain rfl : m = 0 := by omega
    clear hm
    go_enter Tryz.func17, Tryz.ntmps17
    go_wp2_with fail
    go_end0
    exact ⟨rfl, HF.out⟩
def NewPost (w : World) (e : Ending) (w' : World) : Prop := ∃ r, e = .returned (.pointer (some ⟨r, 0, none⟩)) ∧ Ref (fun b => w.heap.size ≤ b ∧ b < w'.heap.size) r ⟨[], [], 0, false, 0, []⟩ w' ∧ w.grownBy w' none
theorem rnew_any (w : World) : Calls Tryz.prog 7 #[] w (NewPost w) := by
  go_enter Tryz.func7, Tryz.ntmps7
  go_wp2_with fail
  go_ret
  refine ⟨_, rfl, ⟨.slice none 0 0, .slice none 0 0, .slice none 0 0, ?_⟩, World.grownBy_alloc _ _ _⟩
  refine ⟨(MapKept.heap_alloc w _).1, Own.nil _ _ _, Own.nil _ _ _, Own.nil _ _ _, by simp [blk], by simp [blk], by simp [blk], fun b e => (by cases e), fun b e => (by cases e), fun b e => (by cases e), ⟨Nat.le_refl _, by simp⟩, fun b e => (by cases e), fun b e => (by cases e), fun b e => (by cases e)⟩
end Go.Proofs.YtejddacjncpneaaGreatDoor.Di
