/- The boxes of a law: what stands since it began. -/
import Derived.Test.YtpcagodnlbdclaaDoorBi28
set_option maxRecDepth 100000
namespace Go.Proofs.YtpcagodnlbdclaaDoor.Bi
open Go.RowKit

/-- A box: its block, the sign, the slice and the digits. -/
abbrev BX := Nat × Int × Value × List Int
def Bq (x : BX) (W : World) : Prop := W.heap[x.1]? = some (.cells #[.int .i64 x.2.1, x.2.2.1] 24 (0, 0)) ∧ Ints W x.2.2.1 x.2.2.2
theorem Bq.later {x : BX} {W W' : World} (h : Bq x W) (hb : RowKit.Below W.heap.size W W') : Bq x W' :=
  ⟨(hb.block x.1 (Array.getElem?_eq_some_iff.1 h.1).1).trans h.1, h.2.later hb⟩
theorem Bq.cells {b : Nat} {sg : Int} {v : Value} {l : List Int} {W : World} (h : Bq (b, sg, v, l) W) : W.cell? ⟨b, 0, none⟩ = some (.int .i64 sg) ∧ W.cell? ⟨b, 1, none⟩ = some v := by
  have h1 := h.1
  exact ⟨by rw [cell_of_row _ _ _ _ _ _ h1]; rfl, by rw [cell_of_row _ _ _ _ _ _ h1]; rfl⟩
theorem Bq.free {b : Nat} {sg : Int} {v : Value} {l : List Int} {W : World} (h : Bq (b, sg, v, l) W) : W.frozen? ⟨b, 0, none⟩ = false ∧ W.frozen? ⟨b, 1, none⟩ = false := by
  have h1 := h.1
  exact ⟨by simp [World.frozen?, h1], by simp [World.frozen?, h1]⟩
theorem Bq.num {b : Nat} {sg : Int} {v : Value} {z : Int} {W : World} (h : Bq (b, sg, v, digs z.natAbs) W) (e : sg = z.sign) : Num W sg v z := ⟨e, h.2⟩
/-- Since w nothing old has turned; the boxes of L stand, the newest first. -/
structure Sq (w : World) (L : List BX) (W : World) : Prop where
  below : RowKit.Below w.heap.size w W
  le : ∀ x ∈ L, w.heap.size ≤ x.1
  box : ∀ x ∈ L, Bq x W
  off : ∀ x ∈ L, ∀ y ∈ L, Off x.2.2.1 y.1
  pw : L.Pairwise fun x y => y.1 < x.1
theorem Sq.start (w : World) : Sq w [] w := ⟨Below.refl _ _, fun x hx => (by cases hx), fun x hx => (by cases hx), fun x hx => (by cases hx), List.Pairwise.nil⟩
theorem Sq.later {w W W' : World} {L : List BX} (h : Sq w L W) (hb : RowKit.Below W.heap.size W W') : Sq w L W' :=
  ⟨h.below.trans (hb.mono h.below.size), h.le, fun x hx => (h.box x hx).later hb, h.off, h.pw⟩
theorem Sq.lt {w W : World} {L : List BX} (h : Sq w L W) : ∀ x ∈ L, x.1 < W.heap.size := fun x hx => (Array.getElem?_eq_some_iff.1 (h.box x hx).1).1
theorem Sq.env {w W : World} {L : List BX} (h : Sq w L W) (he : Env w) : Env W := he.later h.below
theorem Sq.drew {w W : World} {L : List BX} (h : Sq w L W) : Sq w L W.drew := h.later ⟨rfl, rfl, rfl, Nat.le_refl _, fun _ _ => rfl⟩
theorem Sq.put {w W : World} {L : List BX} (h : Sq w L W) {sg : Int} {v : Value} {l : List Int} (hi : Ints W v l) (ho : ∀ y ∈ L, Off v y.1) :
    Sq w ((W.heap.size, sg, v, l) :: L) (W.alloc (.cells #[.int .i64 sg, v] 24)) := by
  have h' := h.later (below_alloc W (.cells #[.int .i64 sg, v] 24))
  refine ⟨h'.below, fun x hx => ?_, fun x hx => ?_, fun x hx y hy => ?_, List.pairwise_cons.2 ⟨fun y hy => h.lt y hy, h.pw⟩⟩
  · rcases List.mem_cons.1 hx with rfl | hx
    · exact h.below.size
    · exact h.le x hx
  · rcases List.mem_cons.1 hx with rfl | hx
    · exact ⟨alloc_at W _, hi.later (below_alloc W _)⟩
    · exact h'.box x hx
  · rcases List.mem_cons.1 hx with rfl | hx <;> rcases List.mem_cons.1 hy with rfl | hy
    · exact hi.off (Nat.le_refl _)
    · exact ho y hy
    · exact (h.box x hx).2.off (Nat.le_refl _)
    · exact h.off x hx y hy
/-- An argument is boxed. -/
theorem Sq.arg {w W : World} {L : List BX} (h : Sq w L W) {sg : Int} {v : Value} {l : List Int} (hi : Ints w v l) :
    Sq w ((W.heap.size, sg, v, l) :: L) (W.alloc (.cells #[.int .i64 sg, v] 24)) :=
  h.put (hi.later h.below) fun y hy => hi.off (h.le y hy)
/-- A call's result is boxed. -/
theorem Sq.ret {w W W' : World} {L : List BX} (h : Sq w L W) (hb : RowKit.Below W.heap.size W W') {sg : Int} {v : Value} {l : List Int} (hi : Ints W' v l) (hf : Fresh W.heap.size v) :
    Sq w ((W'.heap.size, sg, v, l) :: L) (W'.alloc (.cells #[.int .i64 sg, v] 24)) :=
  (h.later hb).put hi fun y hy => hf y.1 (h.lt y hy)
/-- Two results are boxed. -/
theorem Sq.ret2 {w W W' : World} {L : List BX} (h : Sq w L W) (hb : RowKit.Below W.heap.size W W') {sg tg : Int} {v u : Value} {l m : List Int} (hi : Ints W' v l) (hf : Fresh W.heap.size v) (hj : Ints W' u m) (hg : Fresh W.heap.size u) :
    Sq w ((W'.heap.size + 1, tg, u, m) :: (W'.heap.size, sg, v, l) :: L) ((W'.alloc (.cells #[.int .i64 sg, v] 24)).alloc (.cells #[.int .i64 tg, u] 24)) := by
  have h1 := h.ret (sg := sg) hb hi hf
  have h2 := h1.put (sg := tg) (hj.later (below_alloc _ _)) fun y hy => by
    rcases List.mem_cons.1 hy with rfl | hy
    · exact hj.off (Nat.le_refl _)
    · exact hg y.1 (h.lt y hy)
  rwa [show (W'.alloc (.cells #[.int .i64 sg, v] 24)).heap.size = W'.heap.size + 1 by simp] at h2
/-- An empty box. -/
theorem Sq.zero {w W : World} {L : List BX} (h : Sq w L W) : Sq w ((W.heap.size, 0, .slice none 0 0, []) :: L) (W.alloc (.cells #[.int .i64 0, .slice none 0 0] 24)) :=
  h.put ⟨none, 0, rfl, Nat.le_refl _, by simp, .inl rfl⟩ fun y _ a n c e => by simp at e
/-- A result is stored into a box that is there. -/
theorem Sq.setb {w W W0 : World} {pre post : List BX} {b : Nat} {sg : Int} {v : Value} {l : List Int} (h0 : Sq w (pre ++ (b, sg, v, l) :: post) W0) (hb : RowKit.Below W0.heap.size W0 W) {sg' : Int} {v' : Value} {l' : List Int} (hi : Ints W v' l') (hf : Fresh W0.heap.size v') :
    Sq w (pre ++ (b, sg', v', l') :: post) ((W.setCell ⟨b, 0, none⟩ (.int .i64 sg')).setCell ⟨b, 1, none⟩ v') := by
  have h := h0.later hb
  have hm : (b, sg, v, l) ∈ pre ++ (b, sg, v, l) :: post := by simp
  have hwb : w.heap.size ≤ b := h.le _ hm
  have hbx := (h.box _ hm).1
  have hne : ∀ x ∈ pre ++ (b, sg', v', l') :: post, x = (b, sg', v', l') ∨ (x ∈ pre ++ (b, sg, v, l) :: post ∧ x.1 ≠ b) := by
    intro x hx
    have hp := h.pw
    rw [List.pairwise_append] at hp
    obtain ⟨_, p2, p3⟩ := hp
    rw [List.pairwise_cons] at p2
    rcases List.mem_append.1 hx with hx | hx
    · refine .inr ⟨List.mem_append_left _ hx, ?_⟩
      have := p3 x hx (b, sg, v, l) (by simp)
      simp at this; omega
    · rcases List.mem_cons.1 hx with rfl | hx
      · exact .inl rfl
      · refine .inr ⟨List.mem_append_right _ (List.mem_cons_of_mem _ hx), ?_⟩
        have := p2.1 x hx
        simp at this; omega
  have hg : W.grownBy ((W.setCell ⟨b, 0, none⟩ (.int .i64 sg')).setCell ⟨b, 1, none⟩ v') (some b) := on_set (on_set (on_refl _ _) _ _) _ _
  have hbl : ((W.setCell ⟨b, 0, none⟩ (.int .i64 sg')).setCell ⟨b, 1, none⟩ v').heap[b]? = some (.cells #[.int .i64 sg', v'] 24 (0, 0)) := by
    have hbx' : W.heap[b]? = some (.cells #[.int .i64 sg, v] 24 (0, 0)) := hbx
    simp [World.setCell, Array.getElem?_modify, hbx']
  have hov : ∀ x ∈ pre ++ (b, sg, v, l) :: post, Off v' x.1 := fun x hx => hf x.1 (h0.lt x hx)
  refine ⟨?_, fun x hx => ?_, fun x hx => ?_, fun x hx y hy => ?_, ?_⟩
  · exact (h.below.setCell hwb _).setCell hwb _
  · rcases hne x hx with rfl | ⟨hx, _⟩
    · exact hwb
    · exact h.le x hx
  · rcases hne x hx with rfl | ⟨hx, hn⟩
    · exact ⟨hbl, hi.grown (hov _ hm) hg⟩
    · have hq := h.box x hx
      refine ⟨?_, hq.2.grown (h.off x hx _ hm) hg⟩
      rw [hg.block x.1 (h.lt x hx) (fun e => hn (by simpa using e))]
      exact hq.1
  · have key : ∀ z ∈ pre ++ (b, sg', v', l') :: post, ∃ z' ∈ pre ++ (b, sg, v, l) :: post, z'.1 = z.1 := by
      intro z hz
      rcases hne z hz with rfl | ⟨hz, _⟩
      · exact ⟨_, hm, rfl⟩
      · exact ⟨z, hz, rfl⟩
    obtain ⟨y', hy', ey⟩ := key y hy
    rw [← ey]
    rcases hne x hx with rfl | ⟨hx, _⟩
    · exact hov y' hy'
    · exact h.off x hx y' hy'
  · have hp := h.pw
    rw [List.pairwise_append, List.pairwise_cons] at hp ⊢
    refine ⟨hp.1, ⟨fun y hy => hp.2.1.1 y hy, hp.2.1.2⟩, fun x hx y hy => ?_⟩
    rcases List.mem_cons.1 hy with rfl | hy
    · exact hp.2.2 x hx (b, sg, v, l) (by simp)
    · exact hp.2.2 x hx y (List.mem_cons_of_mem _ hy)

theorem num_nil (W : World) : Num W 0 (.slice none 0 0) 0 := ⟨rfl, by rw [show digs (0 : Int).natAbs = [] from digs_zero]; exact ⟨none, 0, rfl, Nat.le_refl _, by simp, .inl rfl⟩⟩
theorem right_b {v : Value} {s : Int} {l : List Int} {w : World} {b : Bool} (h : Arg w v s l) (hr : rightB s l = b) : Calls Tryd.prog 27 #[v] w fun e w' => e = .returned (.bool b) ∧ RowKit.Below w.heap.size w w' := by
  have := right_any v s l w h
  rwa [hr] at this
/-- z has at most k digits. -/
def Sz (k : Nat) (z : Int) : Prop := (z.natAbs : Int) < P k
theorem Sz.len {k : Nat} {z : Int} (h : Sz k z) (hk : k ≤ 100000 := by decide) : Len 100000 z := Nat.le_trans (digs_le h) hk
theorem Sz.of {k : Nat} {z : Int} (h : (digs z.natAbs).length ≤ k) : Sz k z := Int.lt_of_lt_of_le (digs_lt z.natAbs) (P_le h)
theorem Sz.mono {i j : Nat} {z : Int} (h : Sz i z) (hij : i ≤ j := by decide) : Sz j z := Int.lt_of_lt_of_le h (P_le hij)
theorem Sz.mul {i j : Nat} {a b : Int} (ha : Sz i a) (hb : Sz j b) : Sz (i + j) (a * b) := by
  unfold Sz at *
  rw [Int.natAbs_mul, P_add]
  have := P_pos i
  push_cast
  rcases Nat.eq_zero_or_pos b.natAbs with e | e
  · rw [e]
    have := P_pos j
    have : (0 : Int) < P i * P j := Int.mul_pos (by omega) (by omega)
    simpa using this
  · calc (a.natAbs : Int) * b.natAbs < P i * b.natAbs := Int.mul_lt_mul_of_pos_right ha (by omega)
      _ ≤ P i * P j := Int.mul_le_mul_of_nonneg_left (by omega) (by omega)
theorem Sz.add {i : Nat} {a b : Int} (ha : Sz i a) (hb : Sz i b) : Sz (i + 1) (a + b) := by
  unfold Sz at *
  rw [P_succ]
  have := P_pos i
  omega
theorem Sz.sub {i : Nat} {a b : Int} (ha : Sz i a) (hb : Sz i b) : Sz (i + 1) (a - b) := by
  unfold Sz at *
  rw [P_succ]
  have := P_pos i
  omega
theorem Sz.small {z : Int} (h : z.natAbs < 18446744073709551616) : Sz 4 z := by
  unfold Sz
  simp [P]; omega
theorem Sz.fits {n k : Nat} {l : List Int} {z : Int} (h : decide ((l.length : Int) ≤ n) = true) (e : l = digs z.natAbs) (hn : n = k) : Sz k z := by
  subst e hn
  exact Sz.of (by simpa using h)
theorem three {w : World} {sa sb sc : Int} {va vb vc : Value} {la lb lc : List Int} (ha : Ints w va la) (hb : Ints w vb lb) (hc : Ints w vc lc) :
    Sq w [(w.heap.size + 1 + 1, sc, vc, lc), (w.heap.size + 1, sb, vb, lb), (w.heap.size, sa, va, la)]
      (((w.alloc (.cells #[.int .i64 sa, va] 24)).alloc (.cells #[.int .i64 sb, vb] 24)).alloc (.cells #[.int .i64 sc, vc] 24)) := by
  have h := (((Sq.start w).arg (sg := sa) ha).arg (sg := sb) hb).arg (sg := sc) hc
  rwa [show ((w.alloc (.cells #[.int .i64 sa, va] 24)).alloc (.cells #[.int .i64 sb, vb] 24)).heap.size = w.heap.size + 1 + 1 by simp, show (w.alloc (.cells #[.int .i64 sa, va] 24)).heap.size = w.heap.size + 1 by simp] at h
theorem two {w : World} {sa sb : Int} {va vb : Value} {la lb : List Int} (ha : Ints w va la) (hb : Ints w vb lb) :
    Sq w [(w.heap.size + 1, sb, vb, lb), (w.heap.size, sa, va, la)]
      ((w.alloc (.cells #[.int .i64 sa, va] 24)).alloc (.cells #[.int .i64 sb, vb] 24)) := by
  have h := ((Sq.start w).arg (sg := sa) ha).arg (sg := sb) hb
  rwa [show (w.alloc (.cells #[.int .i64 sa, va] 24)).heap.size = w.heap.size + 1 by simp] at h
end Go.Proofs.YtpcagodnlbdclaaDoor.Bi
