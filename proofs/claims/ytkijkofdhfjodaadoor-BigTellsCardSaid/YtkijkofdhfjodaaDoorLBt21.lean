/- BigTells: what the walk wants. -/
import Derived.Test.YtkijkofdhfjodaaDoorLBt20
set_option maxRecDepth 100000
namespace Go.Proofs.YtkijkofdhfjodaaDoor.Bi
open Go.RowKit

/-- A value that is off all boxes is stored into a box. -/
theorem Sq.seto {w W : World} {pre post : List BX} {b : Nat} {sg : Int} {v : Value} {l : List Int} (h : Sq w (pre ++ (b, sg, v, l) :: post) W) {sg' : Int} {v' : Value} {l' : List Int} (hi : Ints W v' l') (hov : ∀ x ∈ pre ++ (b, sg, v, l) :: post, Off v' x.1) :
    Sq w (pre ++ (b, sg', v', l') :: post) ((W.setCell ⟨b, 0, none⟩ (.int .i64 sg')).setCell ⟨b, 1, none⟩ v') := by
  have hm : (b, sg, v, l) ∈ pre ++ (b, sg, v, l) :: post := by simp
  have hwb : w.heap.size ≤ b := h.le _ hm
  have hbx := (h.box _ hm).1
  have hne : ∀ x ∈ pre ++ (b, sg', v', l') :: post, x = (b, sg', v', l') ∨ (x ∈ pre ++ (b, sg, v, l) :: post ∧ x.1 ≠ b) := by
    intro x hx
    have hp := h.pw
    rw [List.pairwise_append] at hp
    obtain ⟨_, p2, p3⟩ := hp
    rw [List.pairwise_cons] at p2
    rcases List.mem_append.1 hx with hx | hx
    · refine .inr ⟨List.mem_append_left _ hx, ?_⟩
      have := p3 x hx (b, sg, v, l) (by simp)
      simp at this; omega
    · rcases List.mem_cons.1 hx with rfl | hx
      · exact .inl rfl
      · refine .inr ⟨List.mem_append_right _ (List.mem_cons_of_mem _ hx), ?_⟩
        have := p2.1 x hx
        simp at this; omega
  have hg : W.grownBy ((W.setCell ⟨b, 0, none⟩ (.int .i64 sg')).setCell ⟨b, 1, none⟩ v') (some b) := on_set (on_set (on_refl _ _) _ _) _ _
  have hbl : ((W.setCell ⟨b, 0, none⟩ (.int .i64 sg')).setCell ⟨b, 1, none⟩ v').heap[b]? = some (.cells #[.int .i64 sg', v'] 24 (0, 0)) := by
    have hbx' : W.heap[b]? = some (.cells #[.int .i64 sg, v] 24 (0, 0)) := hbx
    simp [World.setCell, Array.getElem?_modify, hbx']
  have key : ∀ z ∈ pre ++ (b, sg', v', l') :: post, ∃ z' ∈ pre ++ (b, sg, v, l) :: post, z'.1 = z.1 := by
    intro z hz
    rcases hne z hz with rfl | ⟨hz, _⟩
    · exact ⟨_, hm, rfl⟩
    · exact ⟨z, hz, rfl⟩
  refine ⟨(h.below.setCell hwb _).setCell hwb _, fun x hx => ?_, fun x hx => ?_, fun x hx y hy => ?_, ?_⟩
  · rcases hne x hx with rfl | ⟨hx, _⟩
    · exact hwb
    · exact h.le x hx
  · rcases hne x hx with rfl | ⟨hx, hn⟩
    · exact ⟨hbl, hi.grown (hov _ hm) hg⟩
    · have hq := h.box x hx
      refine ⟨?_, hq.2.grown (h.off x hx _ hm) hg⟩
      rw [hg.block x.1 (h.lt x hx) (fun e => hn (by simpa using e))]
      exact hq.1
  · obtain ⟨y', hy', ey⟩ := key y hy
    rw [← ey]
    rcases hne x hx with rfl | ⟨hx, _⟩
    · exact hov y' hy'
    · exact h.off x hx y' hy'
  · have hp := h.pw
    have e : (pre ++ (b, sg', v', l') :: post).map (fun x : BX => x.1) = (pre ++ (b, sg, v, l) :: post).map (fun x : BX => x.1) := by simp
    have p1 : (pre ++ (b, sg, v, l) :: post).Pairwise (fun x y : BX => y.1 < x.1) := hp
    have p2 : ((pre ++ (b, sg, v, l) :: post).map (fun x : BX => x.1)).Pairwise (fun m n : Nat => n < m) := List.pairwise_map.2 p1
    rw [← e] at p2
    exact List.pairwise_map.1 p2
theorem Sq.lts {w W : World} {L L' : List BX} (h : Sq w L W) (e : L'.map (fun x : BX => x.1) = L.map (fun x : BX => x.1)) : ∀ x ∈ L', x.1 < W.heap.size := by
  intro x hx
  have h1 : x.1 ∈ L'.map (fun x : BX => x.1) := List.mem_map.2 ⟨x, hx, rfl⟩
  rw [e] at h1
  obtain ⟨y, hy, ey⟩ := List.mem_map.1 h1
  rw [← ey]; exact h.lt y hy
theorem rsame_self {s : Int} {l : List Int} {va vb : Value} {w : World} (ha : Arg w va s l) (hb : Arg w vb s l) : Calls Tryd.prog 12 #[va, vb] w fun e w' => e = .returned (.bool true) ∧ RowKit.Below w.heap.size w w' := by
  have := rsame_any va vb s s l l w ha hb
  rwa [decide_eq_true (⟨rfl, rfl⟩ : s = s ∧ l = l)] at this
theorem argl {w w' : World} {v : Value} {s : Int} {l : List Int} (h : Arg w v s l) (hb : RowKit.Below w.heap.size w w') : Arg w' v s l := by
  obtain ⟨x, e, hi⟩ := h
  exact ⟨x, e, hi.later hb⟩
end Go.Proofs.YtkijkofdhfjodaaDoor.Bi
