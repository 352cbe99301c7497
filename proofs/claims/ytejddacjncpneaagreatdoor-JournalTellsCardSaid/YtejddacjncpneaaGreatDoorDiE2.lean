/- The reference's short functions: get, pending, may, fits, Down, Size, Start, Lose. -/
import Derived.Test.YtejddacjncpneaaGreatDoorDiE
set_option maxRecDepth 100000
namespace Go.Proofs.YtejddacjncpneaaGreatDoor.Di
open Go.RowKit Go.ChangeShapes Go.WideShapes

def GetPost (fl : List RF) (f : Int) (w : World) (e : Ending) (w' : World) : Prop :=
  e = .returned (.agg #[.int .i64 f, .string (look fl f).now, .string (look fl f).last]) ∧ w.grownBy w' none

/-- The cells of the file with an index. -/
theorem fcells {w : World} {fa : Option Addr} {n fc : Nat} {fl : List RF} (h : Own w 86 3 (.slice fa n fc) n (cellsR fl)) (k : Nat) (hk : k < fl.length) :
    ∃ g, fa = some ⟨g, 0, none⟩ ∧ w.cell? ⟨g, k * 3, none⟩ = some (.int .i64 fl[k].n) ∧ w.cell? ⟨g, k * 3 + 1, none⟩ = some (.string fl[k].now) ∧ w.cell? ⟨g, k * 3 + 2, none⟩ = some (.string fl[k].last) := by
  obtain ⟨h0, h1, h2⟩ := cellsR_get fl k hk
  obtain ⟨g, hg, c0⟩ := h.cell h0
  obtain ⟨g1, hg1, c1⟩ := h.cell h1
  obtain ⟨g2, hg2, c2⟩ := h.cell h2
  obtain rfl : g = g1 := by rw [hg] at hg1; simpa using hg1
  obtain rfl : g = g2 := by rw [hg] at hg2; simpa using hg2
  exact ⟨g, hg, c0, c1, c2⟩

set_option maxHeartbeats 1000000 in
theorem get_any {S : Nat → Prop} {r : Nat} {fv qv kv : Value} {a : RS} {w : World} (h : RIs S r fv qv kv a w) (f : Int) :
    Calls Tryz.prog 52 #[.pointer (some ⟨r, 0, none⟩), .int .i64 f] w (GetPost a.fl f w) := by
  obtain ⟨c0, _, _, _, _, _⟩ := h.cell
  obtain ⟨fa, fc, rfl, hc1, hc2⟩ := h.fo.shape
  have hlr := h.lt
  unfold maxLen at hc2
  obtain ⟨n, hn⟩ : ∃ n, a.fl.length = n := ⟨_, rfl⟩
  obtain ⟨w1, hw1⟩ : ∃ w1, w.alloc (.cells #[.int .i64 0, .string ⟨#[]⟩, .string ⟨#[]⟩] 86) = w1 := ⟨_, rfl⟩
  have hg1 : w.grownBy w1 none := by rw [← hw1]; exact World.grownBy_alloc _ _ _
  have hb1 : w1.heap[w.heap.size]? = some (.cells #[.int .i64 0, .string ⟨#[]⟩, .string ⟨#[]⟩] 86 (0, 0)) := by rw [← hw1]; exact (MapKept.heap_alloc w _).1
  have h1 := h.grown hg1
  have hfo1 := h1.fo
  have c01 := h1.cell.1
  rw [hn] at hfo1 c01 hc1
  have HFO := Lib.hid hfo1
  have HG1 := Lib.hid hg1
  have HN := Lib.hid hn
  have HW1 := Lib.hid hw1
  have hr0 : w1.cell? ⟨w.heap.size, 0, none⟩ = some (.int .i64 0) := by simp [World.cell?, hb1]
  have hr1 : w1.cell? ⟨w.heap.size, 1, none⟩ = some (.string ⟨#[]⟩) := by simp [World.cell?, hb1]
  have hr2 : w1.cell? ⟨w.heap.size, 2, none⟩ = some (.string ⟨#[]⟩) := by simp [World.cell?, hb1]
  have z0 : w1.frozen? ⟨w.heap.size, 0, none⟩ = false := by simp [World.frozen?, hb1]
  have z1 : w1.frozen? ⟨w.heap.size, 1, none⟩ = false := by simp [World.frozen?, hb1]
  have z2 : w1.frozen? ⟨w.heap.size, 2, none⟩ = false := by simp [World.frozen?, hb1]
  have HGS : Hid (∀ x y z, w.grownBy (((w1.setCell ⟨w.heap.size, 0, none⟩ x).setCell ⟨w.heap.size, 1, none⟩ y).setCell ⟨w.heap.size, 2, none⟩ z) none) := fun x y z => by
    have hs : w1.grownBy (((w1.setCell ⟨w.heap.size, 0, none⟩ x).setCell ⟨w.heap.size, 1, none⟩ y).setCell ⟨w.heap.size, 2, none⟩ z) (some w.heap.size) := ((grownBy_setCell' _ _ _ _).trans (grownBy_setCell' _ _ _ _)).trans (grownBy_setCell' _ _ _ _)
    refine ⟨hs.os.trans hg1.os, hs.tape.trans hg1.tape, hs.output.trans hg1.output, Nat.le_trans hg1.size hs.size, fun k hk _ => ?_⟩
    rw [hs.block k (Nat.lt_of_lt_of_le hk hg1.size) (by intro e; cases e; omega), hg1.block k hk (by simp)]
  clear h c0 h1 hfo1 hg1 hb1 hn
  go_enter Tryz.func52, Tryz.ntmps52
  go_wp2_with fail
  clear hw1
  go_loop [5] (fun i => ∃ k : Nat, k ≤ n ∧ i = .int .i64 k ∧ Hid (look a.fl f = look (a.fl.drop k) f)) (fun i => n - (RowKit.intOf i).toNat)
  case atStart => exact ⟨0, by omega, rfl, rfl⟩
  case round =>
    obtain ⟨k, hk, rfl, hat⟩ := hrel
    by_cases hlt : k < n
    · have hkl : k < a.fl.length := by rw [HN.out]; exact hlt
      obtain ⟨g, rfl, x0, x1, x2⟩ := fcells HFO.out k hkl
      obtain ⟨e1, e2⟩ := look_drop hkl hat.out
      obtain ⟨x, hx⟩ : ∃ x, a.fl[k] = x := ⟨_, rfl⟩
      rw [hx] at x0 x1 x2 e1 e2
      by_cases hxn : x.n = f
      · have HE := Lib.hid (e1 hxn)
        rw [hxn] at x0
        clear e1 e2 hx hxn
        go_wp2_with fail
        refine bodyPost_ret (v := .agg #[.int .i64 f, .string x.now, .string x.last]) (by simp [results, Tryz.results52, go_sem, hr0, hr1, hr2]) rfl ⟨by rw [HE.out], HGS.out _ _ _⟩
      · have HE := Lib.hid (e2 hxn)
        have hx1 : (x.n == f) = false := by simpa using hxn
        have hx2 : decide (x.n = f) = false := by simpa using hxn
        clear e1 e2 hx hxn
        go_wp2_with fail
        go_round
        case rel => exact ⟨k + 1, by omega, by go_num, HE⟩
        case measure => simp [RowKit.intOf]; omega
    · have HE : Hid (look a.fl f = nof f) := by
        unfold Hid
        rw [hat.out, List.drop_of_length_le (by rw [HN.out]; omega)]
        rfl
      go_wp2_with fail
      refine bodyPost_ret (v := .agg #[.int .i64 f, .string ⟨#[]⟩, .string ⟨#[]⟩]) (by simp [results, Tryz.results52, go_sem, hr0, hr1, hr2]) rfl ⟨by rw [HE.out]; rfl, HGS.out _ _ _⟩
end Go.Proofs.YtejddacjncpneaaGreatDoor.Di
