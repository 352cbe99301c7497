/- The reference's survive. -/
import Derived.Test.YtejddacjncpneaaGreatDoorDiE7
import Derived.StillTailTactics
set_option maxRecDepth 100000
namespace Go.Proofs.YtejddacjncpneaaGreatDoor.Di
open Go.RowKit Go.ChangeShapes Go.WideShapes

def chunkB (A : ByteArray) (n : Nat) : ByteArray := A.extract (64 * n) (min (64 * n + 64) A.size)
def lastR (A D : ByteArray) (n : Nat) : ByteArray := if 64 * n < A.size then putB D (64 * n) (chunkB A n) else D
def surviveR (a : RS) (x : Int × Nat) : RS := { a with fl := setL a.fl ⟨x.1, (look a.fl x.1).now, lastR (look a.fl x.1).now (look a.fl x.1).last x.2⟩ }

set_option maxRecDepth 100000 in
set_option maxHeartbeats 4000000 in
theorem survive_any {S : Nat → Prop} {r : Nat} {fv qv kv : Value} {a : RS} {w : World} (h : RIs S r fv qv kv a w) (f : Int) (n : Nat) (hl : a.fl.length ≤ 100000) (hn : n ≤ 300000) (hs : (look a.fl f).now.size ≤ 16777216) (hs2 : (look a.fl f).last.size ≤ 16777216) :
    Calls Tryz.prog 48 #[.pointer (some ⟨r, 0, none⟩), .agg #[.int .i64 f, .int .i64 n]] w fun e w' => e = .returned (.tuple #[]) ∧ RAs S r (surviveR a (f, n)) w w' := by
  obtain ⟨A, hA⟩ : ∃ A, (look a.fl f).now = A := ⟨_, rfl⟩
  obtain ⟨D, hD⟩ : ∃ D, (look a.fl f).last = D := ⟨_, rfl⟩
  rw [hA] at hs
  rw [hD] at hs2
  have hgb : w.grownBy (w.alloc (.cells #[.int .i64 f, .int .i64 n] 84)) none := World.grownBy_alloc _ _ _
  have hby : (w.alloc (.cells #[.int .i64 f, .int .i64 n] 84)).heap[w.heap.size]? = some (.cells #[.int .i64 f, .int .i64 n] 84 (0, 0)) := (MapKept.heap_alloc w _).1
  have hzb : (w.alloc (.cells #[.int .i64 f, .int .i64 n] 84)).heap.size = w.heap.size + 1 := by simp
  have hget := get_any (h.grown hgb) f
  unfold GetPost at hget
  rw [hA, hD] at hget
  have HG := Lib.hid hget
  have H := Lib.hid h
  have HL := Lib.hid hl
  have HAD : Hid ((look a.fl f).now = A ∧ (look a.fl f).last = D) := ⟨hA, hD⟩
  have HGB := Lib.hid hgb
  have HBY := Lib.hid hby
  have HZB := Lib.hid hzb
  clear h hl hA hD hget hgb hby hzb
  go_enter Tryz.func48, Tryz.ntmps48
  go_wp2_with fail
  refine HG.out.mono ?_
  rintro e w1 ⟨rfl, hg1⟩
  obtain ⟨Y, hY⟩ : ∃ Y, w.heap.size = Y := ⟨_, rfl⟩
  have HG1 : Hid (w.grownBy w1 none) := HGB.out.trans hg1
  have HBY1 : Hid (w1.heap[Y]? = some (.cells #[.int .i64 f, .int .i64 n] 84 (0, 0))) := by
    rw [← hY]; exact (hg1.block _ (by have := HZB.out; omega) (by simp)).trans HBY.out
  have hYX : Y < w1.heap.size := by have := hg1.size; have := HZB.out; omega
  have HYE := Lib.hid hY
  rw [hY]
  clear hg1 hY HG
  have hbx : (w1.alloc (.cells #[.int .i64 f, .string A, .string D] 86)).heap[w1.heap.size]? = some (.cells #[.int .i64 f, .string A, .string D] 86 (0, 0)) := (MapKept.heap_alloc w1 _).1
  have hg2 : w1.grownBy (w1.alloc (.cells #[.int .i64 f, .string A, .string D] 86)) none := World.grownBy_alloc _ _ _
  obtain ⟨w2, hw2⟩ : ∃ w2, w1.alloc (.cells #[.int .i64 f, .string A, .string D] 86) = w2 := ⟨_, rfl⟩
  obtain ⟨X, hX⟩ : ∃ X, w1.heap.size = X := ⟨_, rfl⟩
  rw [hw2, hX] at hbx
  rw [hw2] at hg2
  have hby2 : w2.heap[Y]? = some (.cells #[.int .i64 f, .int .i64 n] 84 (0, 0)) := (hg2.block Y hYX (by simp)).trans HBY1.out
  have HG2 : Hid (w.grownBy w2 none) := HG1.out.trans hg2
  have hXw : w.heap.size ≤ X := by have := HG1.out.size; omega
  have HXW := Lib.hid hXw
  have hXY : Y ≠ X := by omega
  have HXY := Lib.hid hXY
  have x0 : w2.cell? ⟨X, 0, none⟩ = some (.int .i64 f) := by simp [World.cell?, hbx]
  have x1 : w2.cell? ⟨X, 1, none⟩ = some (.string A) := by simp [World.cell?, hbx]
  have x2 : w2.cell? ⟨X, 2, none⟩ = some (.string D) := by simp [World.cell?, hbx]
  have xf : w2.frozen? ⟨X, 2, none⟩ = false := by simp [World.frozen?, hbx]
  have y0 : w2.cell? ⟨Y, 0, none⟩ = some (.int .i64 f) := by simp [World.cell?, hby2]
  have y1 : w2.cell? ⟨Y, 1, none⟩ = some (.int .i64 n) := by simp [World.cell?, hby2]
  have HBX := Lib.hid hbx
  clear hbx hg2 hby2 hXw hYX hXY
  by_cases hlt : 64 * n < A.size
  · have hlt' : 64 * (n : Int) < A.size := by omega
    have q1 : IntKind.i64.wrap (64 * (n : Int)) = 64 * (n : Int) := IntWalk.i64_in _ (by omega)
    have q2 : IntKind.i64.wrap (64 * (n : Int) + 64) = 64 * (n : Int) + 64 := IntWalk.i64_in _ (by omega)
    obtain ⟨B, hB⟩ : ∃ B, chunkB A n = B := ⟨_, rfl⟩
    have hBs : B.size = min 64 (A.size - 64 * n) := by rw [← hB]; unfold chunkB; simp; omega
    obtain ⟨P, hP⟩ : ∃ P, putB D (64 * n) B = P := ⟨_, rfl⟩
    have HP : Hid (∀ w, Calls Tryz.prog 75 #[.string D, .int .i64 (64 * (n : Int)), .string B] w fun e w' => e = .returned (.string P) ∧ Below w.heap.size w w') := fun w => by
      rw [← hP]
      have := put_r D B (64 * n) (by omega) (by omega) hs2 w
      have e : ((64 * n : Nat) : Int) = 64 * (n : Int) := by omega
      rw [e] at this
      exact this
    have HSET : Hid (lastR A D n = P) := by unfold Hid lastR; rw [if_pos hlt, hB, hP]
    have HBB := Lib.hid hB
    have hrun : (Instr.slice 9 (.string A) (some (.int .i64 (64 * (n : Int)))) (some (.int .i64 (if (A.size : Int) < 64 * (n : Int) + 64 then (A.size : Int) else 64 * (n : Int) + 64))) none).run Tryz.prog w2.drew = .ok (.string B) w2.drew := by
      rw [run_slice_string w2.drew 9 A .i64 .i64 _ _ Tryz.underlying9 (by omega) (by split <;> omega) (by split <;> omega), ← HBB.out]
      unfold chunkB
      congr 3
      split <;> omega
    clear hB hBs hP
    go_wp2_with fail
    go_still_tail 19, (by kernel_rfl)
    clear hrun
    have z0 : w2.drew.cell? ⟨X, 2, none⟩ = some (.string D) := x2
    have zg : w.grownBy w2.drew none := HG2.out.trans (grown_drew w2)
    have zb : w2.drew.heap[X]? = some (.cells #[.int .i64 f, .string A, .string D] 86 (0, 0)) := HBX.out
    have ZG := Lib.hid zg
    have ZB := Lib.hid zb
    clear zg zb x0 x1 x2 y0 y1 xf q1 q2 z0
    change wpList _ _ _ _ _ w2.drew
    generalize w2.drew = w3 at *
    have HP3 := Lib.hid (HP.out w3)
    go_wp2_with fail
    all_goals
      refine HP3.out.mono ?_
      rintro e w4 ⟨rfl, hbel⟩
      have hg34 := grown_below hbel
      have hb4 : w4.heap[X]? = some (.cells #[.int .i64 f, .string A, .string D] 86 (0, 0)) := (hg34.block X (Array.getElem?_eq_some_iff.1 ZB.out).1 (by simp)).trans ZB.out
      have hs3 := Lib.heap_setCell_same (i := 2) hb4 (.string P)
      have hg4 : w.grownBy (w4.setCell ⟨X, 2, none⟩ (.string P)) none := grown_new (ZG.out.trans hg34) HXW.out 2 _
      have u2 : w4.cell? ⟨X, 2, none⟩ = some (.string D) := by simp [World.cell?, hb4]
      have uf : w4.frozen? ⟨X, 2, none⟩ = false := by simp [World.frozen?, hb4]
      have y0 : (w4.setCell ⟨X, 2, none⟩ (.string P)).cell? ⟨X, 0, none⟩ = some (.int .i64 f) := by simp [World.cell?, hs3]
      have y1 : (w4.setCell ⟨X, 2, none⟩ (.string P)).cell? ⟨X, 1, none⟩ = some (.string A) := by simp [World.cell?, hs3]
      have y2 : (w4.setCell ⟨X, 2, none⟩ (.string P)).cell? ⟨X, 2, none⟩ = some (.string P) := by simp [World.cell?, hs3]
      have HG4 := Lib.hid hg4
      clear hg34 hb4 hs3 hg4 hbel
      go_wp2_with fail
      have h5 := (H.out.grown HG4.out).mono (S' := Grew S w (w4.setCell ⟨X, 2, none⟩ (.string P))) fun _ hb => .inl hb
      refine (set_strong h5 ⟨f, A, P⟩ HL.out).mono ?_
      rintro e w6 ⟨rfl, haf⟩
      have H6 : Hid (RAs S r (surviveR a (f, n)) w w6) := by
        have := (H.out.rasg HG4.out).trans haf
        unfold Hid surviveR
        rw [HAD.out.1, HAD.out.2, HSET.out]
        exact this
      clear h5 haf
      go_wp2_with fail
      go_end0
      exact ⟨rfl, H6.out⟩
  · have hset : lastR A D n = D := by unfold lastR; rw [if_neg hlt]
    have hlt' : ¬ (64 * (n : Int) < A.size) := by omega
    have HSET := Lib.hid hset
    clear hset hlt
    go_wp2_with fail
    have h3 := (H.out.grown HG2.out).mono (S' := Grew S w w2) fun _ hb => .inl hb
    refine (set_strong h3 ⟨f, A, D⟩ HL.out).mono ?_
    rintro e w4 ⟨rfl, haf⟩
    have H4 : Hid (RAs S r (surviveR a (f, n)) w w4) := by
      have := (H.out.rasg HG2.out).trans haf
      unfold Hid surviveR
      rw [HAD.out.1, HAD.out.2, HSET.out]
      exact this
    clear h3 haf
    go_wp2_with fail
    go_end0
    exact ⟨rfl, H4.out⟩
theorem and_one_all (x : Int) : bits BinOp.and IntKind.i64 x 1 = x % 2 := by
  show IntKind.i64.wrap ((BitVec.ofInt 64 x &&& BitVec.ofInt 64 1).toNat : Int) = _
  rw [BitVec.toNat_and, BitVec.toNat_ofInt, show (BitVec.ofInt 64 1).toNat = 1 by decide, Nat.and_one_is_mod, IntKind.wrap_i64]
  omega
theorem surv_bits (ks : List Int) (i : Nat) (h : 0 < ks.length) : surv i ks = (bits BinOp.and IntKind.i64 (ks.getD (i % ks.length) 0) 1 == 1) := by
  unfold surv
  rw [and_one_all]
  generalize ks.getD (i % ks.length) 0 = x
  rw [Bool.eq_iff_iff]
  simp [h]
  constructor
  · intro hx
    by_cases e : x % 2 = 1
    · exact e
    · exact absurd (Int.tmod_eq_zero_of_dvd (Int.dvd_of_emod_eq_zero (by omega))) hx
  · intro hx e
    have := Int.emod_eq_zero_of_dvd (Int.dvd_of_tmod_eq_zero e)
    omega
end Go.Proofs.YtejddacjncpneaaGreatDoor.Di
