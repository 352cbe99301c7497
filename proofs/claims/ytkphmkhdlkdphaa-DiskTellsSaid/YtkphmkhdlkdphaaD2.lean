/- The contracts of the short methods. -/
import Derived.Test.YtkphmkhdlkdphaaD
import Derived.Carry
import Derived.Deep.AppendLies
namespace Go.Proofs.Ytkphmkhdlkdphaa
open Go.RowKit

theorem down_any {S : Nat → Prop} {p : Rep} {st : St} {w : World} (h : IsD S p st w) :
    Calls Try.prog 14 #[.pointer (some ⟨p.r, 0, none⟩)] w fun e w' => e = .returned (.bool st.down) ∧ w = w' := by
  obtain ⟨c0, c1, c2, c3, c4, c5, c6, c7⟩ := h.cell
  clear h c0 c1 c2 c3 c5 c6 c7
  go_enter Try.func14, Try.ntmps14
  go_wp2
  go_ret
  exact ⟨rfl, rfl⟩

theorem size_any {S : Nat → Prop} {p : Rep} {st : St} {w : World} (h : IsD S p st w) (f : Int) (hf : -9223372036854775808 ≤ f ∧ f ≤ 9223372036854775807) :
    Calls Try.prog 16 #[.pointer (some ⟨p.r, 0, none⟩), .int .i64 f] w fun e w' => e = .returned (.int .i64 (st.now f).length) ∧ w = w' := by
  obtain ⟨c0, c1, c2, c3, c4, c5, c6, c7⟩ := h.cell
  obtain ⟨a, cap, hrun', _, _, _, _⟩ := h.lookF f hf
  have hrun := hrun' w rfl
  clear hrun'
  clear h c1 c2 c3 c4 c5 c6 c7
  go_enter Try.func16, Try.ntmps16
  go_wp2
  go_ret
  exact ⟨rfl, rfl⟩

theorem start_any {S : Nat → Prop} {p : Rep} {st : St} {w : World} (h : IsD S p st w) :
    Calls Try.prog 26 #[.pointer (some ⟨p.r, 0, none⟩)] w fun e w' => e = .returned (.tuple #[]) ∧ Af S p.r (start st) w w' := by
  obtain ⟨c0, c1, c2, c3, c4, c5, c6, c7⟩ := h.cell
  have f4 := h.froz 4
  have hfin : Af S p.r (start st) w (w.setCell ⟨p.r, 4, none⟩ (.bool false)) := by
    have := h.stepR (p' := p) (st' := start st) rfl (grownBy_setCell' w p.r 4 (.bool false)) (Lib.heap_setCell_same (i := 4) (h.holds .r) _) (fun s hs => ⟨fun hh => by cases s <;> first | exact hh | exact absurd rfl hs, rfl⟩) (start_wf h.wf)
    exact ⟨⟨p, rfl, this.1⟩, this.2⟩
  have HF := Lib.hid hfin
  clear h hfin c0 c1 c2 c3 c5 c6 c7
  go_enter Try.func26, Try.ntmps26
  go_wp2
  go_end0
  exact ⟨rfl, HF.out⟩

theorem lose_any {S : Nat → Prop} {p : Rep} {st : St} {w : World} (h : IsD S p st w) (n : Int) (hn : -9223372036854775808 ≤ n ∧ n ≤ 9223372036854775807) :
    Calls Try.prog 31 #[.pointer (some ⟨p.r, 0, none⟩), .int .i64 n] w fun e w' => e = .returned (.tuple #[]) ∧ Af S p.r (lose st n) w w' := by
  obtain ⟨c0, c1, c2, c3, c4, c5, c6, c7⟩ := h.cell
  have f5 := h.froz 5
  obtain ⟨m, hm⟩ : ∃ m, max n 0 = m := ⟨_, rfl⟩
  have hfin : Af S p.r (lose st n) w (w.setCell ⟨p.r, 5, none⟩ (.int .i64 m)) := by
    subst hm
    have := h.stepR (p' := p) (st' := lose st n) rfl (grownBy_setCell' w p.r 5 (.int .i64 (max n 0))) (Lib.heap_setCell_same (i := 5) (h.holds .r) _) (fun s hs => ⟨fun hh => by cases s <;> first | exact hh | exact absurd rfl hs, rfl⟩) (lose_wf h.wf hn.2)
    exact ⟨⟨p, rfl, this.1⟩, this.2⟩
  clear h c0 c1 c2 c3 c4 c6 c7
  by_cases h0 : 0 ≤ n
  · obtain rfl : m = n := by omega
    have HF := Lib.hid hfin
    clear hfin hm
    go_enter Try.func31, Try.ntmps31
    go_wp2
    go_end0
    exact ⟨rfl, HF.out⟩
  · obtain rfl : m = 0 := by omega
    have HF := Lib.hid hfin
    clear hfin hm
    go_enter Try.func31, Try.ntmps31
    go_wp2
    go_end0
    exact ⟨rfl, HF.out⟩

theorem mapF_none (x : Value) : mapF (fun _ => none) x = none := by unfold mapF; split <;> rfl
theorem setQ_nil (x : Value) : setQ [] x = none := by unfold setQ; exact if_neg (fun ⟨_, h, _⟩ => by cases h)

theorem new_any (w : World) :
    Calls Try.prog 10 #[] w fun e w' => ∃ r, e = .returned (.pointer (some ⟨r, 0, none⟩)) ∧ Disk (fun b => w.heap.size ≤ b ∧ b < w'.heap.size) r St.new w' ∧ w.grownBy w' none := by
  have hmm := @run_makeMap Try.prog
  go_enter Try.func10, Try.ntmps10
  go_wp2
  go_ret
  refine ⟨_, rfl, ?_, ?_⟩
  · refine ⟨⟨w.heap.size + 1 + 1 + 1, w.heap.size, w.heap.size + 1, w.heap.size + 1 + 1, .slice none 0 0, .slice none 0 0, fun _ => none, fun _ => none⟩, rfl, ?_⟩
    have e0 : ∀ o : Obj, (w.alloc o).heap.size = w.heap.size + 1 := fun o => by simp
    have m1 : MapIs Try.prog 3 (w.alloc (.map #[] 0)) w.heap.size (fun _ => none) := MapIs.made w
    have m2 : MapIs Try.prog 3 ((w.alloc (.map #[] 0)).alloc (.map #[] 0)) (w.heap.size + 1) (fun _ => none) := by have := MapIs.made (P := Try.prog) (k := 3) (w.alloc (.map #[] 0)); simpa using this
    have m3 : MapIs Try.prog 69 (((w.alloc (.map #[] 0)).alloc (.map #[] 0)).alloc (.map #[] 0)) (w.heap.size + 1 + 1) (fun _ => none) := by have := MapIs.made (P := Try.prog) (k := 69) ((w.alloc (.map #[] 0)).alloc (.map #[] 0)); simpa using this
    refine ⟨fun s => ?_, fun s s' b h1 h2 => ?_, fun s b h1 => ?_, new_wf⟩
    · cases s with
      | r =>
        have e3 : w.heap.size + 1 + 1 + 1 = (((w.alloc (.map #[] 0)).alloc (.map #[] 0)).alloc (.map #[] 0)).heap.size := by simp
        show (World.alloc _ _).heap[w.heap.size + 1 + 1 + 1]? = _
        rw [e3]
        exact (MapKept.heap_alloc _ _).1
      | fm => exact (m1.kept (by rw [Below.heap_alloc, Below.heap_alloc, Below.heap_alloc] <;> simp <;> omega)).congr (fun x => (mapF_none x).symm)
      | dm => exact (m2.kept (by rw [Below.heap_alloc, Below.heap_alloc] <;> simp)).congr (fun x => (mapF_none x).symm)
      | lm => exact (m3.kept (by rw [Below.heap_alloc]; simp)).congr (fun x => (setQ_nil x).symm)
      | pv => exact Own.nil _ _ _
      | kv => exact Own.nil _ _ _
      | f n => rfl
      | d n => rfl
    · cases s <;> simp [Rep.at, blk] at h1 <;> cases s' <;> simp [Rep.at, blk] at h2 <;> first | rfl | (exfalso; omega)
    · cases s <;> simp [Rep.at, blk] at h1 <;> subst h1 <;> exact ⟨by omega, by first | (simp; done) | (simp; omega)⟩
  · exact (((World.grownBy_alloc w _ none).trans (World.grownBy_alloc _ _ none)).trans (World.grownBy_alloc _ _ none)).trans (World.grownBy_alloc _ _ none)
end Go.Proofs.Ytkphmkhdlkdphaa
