/- The contract of Of. -/
import Derived.Test.YtpcagodnlbdclaaDoorBiO
set_option maxRecDepth 100000
namespace Go.Proofs.YtpcagodnlbdclaaDoor.Bi
open Go.RowKit

theorem mask20u (x : Nat) (h : x < 18446744073709551616) : bits .and .u64 (x : Int) 1048575 = ((x % 1048576 : Nat) : Int) := by
  have := bits_mask .u64 64 (by decide) (fun n h0 h1 => by simp [IntKind.wrap, IntKind.bits, IntKind.signed]; omega) 20 (by decide) (x : Int) (by omega) (by omega)
  have e : (2 : Int) ^ 20 - 1 = 1048575 := by decide
  rw [e] at this
  rw [this]; omega
/-- What stands before the loop, for any n. -/
def u64of (n : Int) : Int := if n < 0 then -n else n
theorem cmpI_sign (n : Int) : cmpI n 0 = n.sign := by
  rcases sgn_is n with ⟨h, h'⟩ | ⟨h, h'⟩ | ⟨h, h'⟩
  · rw [h', cmpI_lt h]
  · rw [h', h, cmpI_eq]
  · rw [h', cmpI_gt h]
theorem blk_fresh {w : World} {v : Value} {l : List Int} (h : OwnI w v l) {B : Nat} (hb : ∀ b, blk v = some b → B ≤ b) : Fresh B v := by
  intro g hg a n c e h0
  subst e
  obtain ⟨a', cap, hv, h1, h2⟩ := h.shape
  simp at hv
  obtain ⟨rfl, rfl, rfl⟩ := hv
  have : blk (.slice (some a) l.length c) = some a.block := by
    cases c with
    | zero => omega
    | succ c => rfl
  have := hb _ this
  omega
theorem digs_len4 {n : Nat} (h : n < 18446744073709551616) : (digs n).length ≤ 4 := digs_le (by simp [P]; omega)

/-- The results' cell of a function with one struct. -/
def Res (w : World) (W : World) : Prop := W.heap[w.heap.size]? = some (.cells #[.int .i64 0, .slice none 0 0] 24 (0, 0))
theorem Res.cells {w W : World} (h : Res w W) : W.cell? ⟨w.heap.size, 0, none⟩ = some (.int .i64 0) ∧ W.cell? ⟨w.heap.size, 1, none⟩ = some (.slice none 0 0) ∧ W.frozen? ⟨w.heap.size, 0, none⟩ = false ∧ W.frozen? ⟨w.heap.size, 1, none⟩ = false := by
  have h' : W.heap[w.heap.size]? = some (.cells #[.int .i64 0, .slice none 0 0] 24 (0, 0)) := h
  exact ⟨by rw [cell_of_row _ _ _ _ _ _ h']; rfl, by rw [cell_of_row _ _ _ _ _ _ h']; rfl, by simp [World.frozen?, h'], by simp [World.frozen?, h']⟩

/-- The loop's relation: what is read, and what is left. -/
structure OfR (w : World) (n : Int) (v : Value) (l : List Int) (R : Nat) (W : World) : Prop where
  own : OwnI W v l
  eq : digs n.natAbs = l ++ digs R
  below : RowKit.Below w.heap.size w W
  res : Res w W
  new : ∀ b, blk v = some b → w.heap.size + 1 ≤ b
  le : R < 18446744073709551616
theorem OfR.len {w : World} {n : Int} {v : Value} {l : List Int} {R : Nat} {W : World} (h : OfR w n v l R W) (hn : n.natAbs ≤ 9223372036854775808) : l.length ≤ 4 := by
  have h1 := digs_len4 (n := n.natAbs) (by omega)
  rw [h.eq, List.length_append] at h1; omega
theorem OfR.next {w : World} {n : Int} {v : Value} {l : List Int} {R : Nat} {W : World} (h : OfR w n v l R W) (hn : n.natAbs ≤ 9223372036854775808) (h0 : 0 < R) :
    ∃ a c w', (∀ ty, (Builtin.append_ #[22, 22] ty #[v, .slice (some ⟨W.heap.size, 0, none⟩) 1 1]).run Tryd.prog (W.alloc (.cells #[.int .i64 ((R % 1048576 : Nat) : Int)] 3)) = .ok (.slice a (l.length + 1) c) w') ∧ OfR w n (.slice a (l.length + 1) c) (l ++ [((R % 1048576 : Nat) : Int)]) (R / 1048576) w' := by
  have hl := h.len hn
  obtain ⟨a, c, w', h1, h2, h3, h4⟩ := h.own.snoc (by omega) ((R % 1048576 : Nat) : Int)
  have hz := h.below.size
  have hsz : w.heap.size < W.heap.size := (Array.getElem?_eq_some_iff.1 h.res).1
  refine ⟨a, c, w', h1, ⟨h2, ?_, ?_, ?_, ?_, by have := h.le; omega⟩⟩
  · rw [h.eq, digs_pos h0]; simp
  · refine ((h.below.alloc hz _).grown h3 (by simp; omega) (fun k hk => by have := h.new k hk; omega))
  · unfold Res
    rw [h3.block _ (by simp; omega) (fun e => by have := h.new _ e.symm; omega), Below.heap_alloc _ _ _ hsz]
    exact h.res
  · intro b hb
    rcases h4 with h5 | h5 | h5
    · rw [h5] at hb; cases hb
    · rw [h5] at hb; exact h.new b hb
    · rw [h5] at hb; cases hb; omega
theorem OfR.fin {w : World} {n : Int} {v : Value} {l : List Int} {W : World} (h : OfR w n v l 0 W) (hn : n.natAbs ≤ 9223372036854775808) (u u' : Value) :
    AnsB n w (.returned (.agg #[.int .i64 n.sign, v])) ((W.setCell ⟨w.heap.size, 0, none⟩ u).setCell ⟨w.heap.size, 1, none⟩ u') := by
  have hl := h.len hn
  have he := h.eq
  rw [digs_zero, List.append_nil] at he
  have hi := h.own.ints (by omega)
  have hf := blk_fresh h.own h.new
  have ho := hf w.heap.size (by omega)
  rw [← he] at hi
  exact ⟨v, rfl, (hi.set ho 0 _).set ho 1 _, (h.below.setCell (Nat.le_refl _) _).setCell (Nat.le_refl _) _, hf.mono (by omega)⟩

set_option maxHeartbeats 2000000 in
theorem of_any (n : Int) (h0 : -9223372036854775808 ≤ n) (h1 : n ≤ 9223372036854775807) (w : World) :
    Calls Tryd.prog 36 #[.int .i64 n] w (AnsB n w) := by
  have hR : OfR w n (.slice none 0 0) [] n.natAbs (w.alloc (.cells #[.int .i64 0, .slice none 0 0] 24)) :=
    ⟨OwnI.nil _, by simp, below_alloc _ _, alloc_at _ _, fun b hb => by simp [blk] at hb, by omega⟩
  have HR := Lib.hid hR
  have HN : Hid (n.natAbs ≤ 9223372036854775808) := by unfold Hid; omega
  have HC : Hid (cmpI n 0 = n.sign) := cmpI_sign n
  clear hR
  by_cases hneg : n < 0
  · obtain ⟨m, hm⟩ : ∃ m : Nat, n.natAbs = m := ⟨_, rfl⟩
    have hw1 : IntKind.u64.wrap (-IntKind.u64.wrap n) = (m : Int) := by simp [IntKind.wrap, IntKind.bits, IntKind.signed]; omega
    rw [hm] at HR
    clear hm
    go_enter Tryd.func36, Tryd.ntmps36
    go_wp2_with fail
    clear hw1
    go_loopw [3, 4] (fun r v wr => ∃ (R : Nat) (l : List Int), r = .int .u64 R ∧ OfR w n v l R wr) (fun r _ _ => (intOf r).toNat)
    case atStart => exact ⟨m, [], rfl, HR.out⟩
    case round =>
      obtain ⟨R, l, rfl, hO⟩ := hrel
      obtain ⟨a0, c0, rfl, _, _⟩ := hO.own.shape
      by_cases hR0 : R = 0
      · subst hR0
        have HO := Lib.hid hO
        obtain ⟨r0, r1, f0, f1⟩ := hO.res.cells
        clear hO
        go_wp2_with fail
        refine (cmp_any n 0 _).mono ?_
        rintro e w' ⟨rfl, rfl⟩
        rw [HC.out]
        go_wp2_with fail
        exact bodyPost_ret (v := .agg #[.int .i64 n.sign, .slice a0 l.length c0]) (by simp [results, Tryd.results36, go_sem, r0, r1]) rfl (HO.out.fin HN.out _ _)
      · have hpos : 0 < R := by omega
        obtain ⟨a, c, w', hrun, hO'⟩ := hO.next HN.out hpos
        have hle := hO.le
        have hmask := mask20u R hle
        have hlt : R % 1048576 < 1048576 := by omega
        obtain ⟨y, ey⟩ : ∃ y : Nat, R % 1048576 = y := ⟨_, rfl⟩
        rw [ey] at hmask hlt hrun
        have HO' := Lib.hid hO'
        have HEY := Lib.hid ey
        clear hO hO' ey hR0
        go_wp2_with (at_builtin; refine Lib.wpList_append_run _ rfl _ _ _ _ rfl _ _ rfl rfl _ _ (hrun _) ?_)
        go_roundw
        case rel => exact ⟨R / 1048576, _, by go_num, HO'.out⟩
        case measure => simp [intOf]; omega
  · obtain ⟨m, hm⟩ : ∃ m : Nat, n.natAbs = m := ⟨_, rfl⟩
    have hw1 : IntKind.u64.wrap n = (m : Int) := by simp [IntKind.wrap, IntKind.bits, IntKind.signed]; omega
    rw [hm] at HR
    clear hm
    go_enter Tryd.func36, Tryd.ntmps36
    go_wp2_with fail
    clear hw1
    go_loopw [3, 4] (fun r v wr => ∃ (R : Nat) (l : List Int), r = .int .u64 R ∧ OfR w n v l R wr) (fun r _ _ => (intOf r).toNat)
    case atStart => exact ⟨m, [], rfl, HR.out⟩
    case round =>
      obtain ⟨R, l, rfl, hO⟩ := hrel
      obtain ⟨a0, c0, rfl, _, _⟩ := hO.own.shape
      by_cases hR0 : R = 0
      · subst hR0
        have HO := Lib.hid hO
        obtain ⟨r0, r1, f0, f1⟩ := hO.res.cells
        clear hO
        go_wp2_with fail
        refine (cmp_any n 0 _).mono ?_
        rintro e w' ⟨rfl, rfl⟩
        rw [HC.out]
        go_wp2_with fail
        exact bodyPost_ret (v := .agg #[.int .i64 n.sign, .slice a0 l.length c0]) (by simp [results, Tryd.results36, go_sem, r0, r1]) rfl (HO.out.fin HN.out _ _)
      · have hpos : 0 < R := by omega
        obtain ⟨a, c, w', hrun, hO'⟩ := hO.next HN.out hpos
        have hle := hO.le
        have hmask := mask20u R hle
        have hlt : R % 1048576 < 1048576 := by omega
        obtain ⟨y, ey⟩ : ∃ y : Nat, R % 1048576 = y := ⟨_, rfl⟩
        rw [ey] at hmask hlt hrun
        have HO' := Lib.hid hO'
        have HEY := Lib.hid ey
        clear hO hO' ey hR0
        go_wp2_with (at_builtin; refine Lib.wpList_append_run _ rfl _ _ _ _ rfl _ _ rfl rfl _ _ (hrun _) ?_)
        go_roundw
        case rel => exact ⟨R / 1048576, _, by go_num, HO'.out⟩
        case measure => simp [intOf]; omega
end Go.Proofs.YtpcagodnlbdclaaDoor.Bi
