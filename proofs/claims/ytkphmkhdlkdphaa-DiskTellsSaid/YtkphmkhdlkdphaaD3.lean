/- The contracts of Arm, checkWrite and bytes. -/
import Derived.Test.YtkphmkhdlkdphaaD2
namespace Go.Proofs.Ytkphmkhdlkdphaa
open Go.RowKit

theorem Ints.src {w : World} {a : Option Addr} {n cap : Nat} {ks : List Int} (h : Ints w (.slice a n cap) ks) : n = ks.length ∧ Src Try.prog 1 31 (.slice a n cap) n (ks.map (Value.int .i64 ·)) w := by
  obtain ⟨a', cap', hv, _, h⟩ := h
  simp at hv
  obtain ⟨rfl, rfl, rfl⟩ := hv
  refine ⟨rfl, ?_⟩
  rcases h with rfl | ⟨b, o, rfl, hc⟩
  · cases a with
    | none => exact Src.ofNil w Try.underlying31 cap
    | some a => exact Src.ofSlice w Try.underlying31 a 0 cap [] (by simp) (by simp) (by simp)
  · refine Src.ofSlice w Try.underlying31 _ _ cap _ (by simp) (fun j u hu => ?_) (by simp [Value.oneCell'])
    rw [List.getElem?_map] at hu
    cases hj : ks[j]? with
    | none => rw [hj] at hu; cases hu
    | some x =>
      rw [hj] at hu
      obtain ⟨hlt, hx⟩ := List.getElem?_eq_some_iff.1 hj
      have hadd : (⟨b, o, none⟩ : Addr).add j = ⟨b, o + j, none⟩ := by unfold Addr.add; split <;> simp_all
      rw [hadd, hc j hlt, hx]
      exact hu
theorem Ints.shape {w : World} {v : Value} {ks : List Int} (h : Ints w v ks) : ∃ a cap, v = .slice a ks.length cap ∧ (a = none → ks.length = 0) := by
  obtain ⟨a, cap, hv, _, h⟩ := h
  refine ⟨a, cap, hv, fun e => ?_⟩
  rcases h with rfl | ⟨b, o, rfl, _⟩
  · rfl
  · cases e
theorem Ints.kept {w w' : World} {v : Value} {ks : List Int} (h : Ints w v ks) (hg : ∀ b, Ints.off v b → b < w.heap.size → w'.heap[b]? = w.heap[b]?) : Ints w' v ks := by
  obtain ⟨a, cap, hv, hc, h⟩ := h
  refine ⟨a, cap, hv, hc, ?_⟩
  rcases h with h | ⟨b, o, rfl, h⟩
  · exact .inl h
  · by_cases h0 : ks.length = 0
    · exact .inl (List.eq_nil_of_length_eq_zero h0)
    · refine .inr ⟨b, o, rfl, fun i hi => ?_⟩
      have hcell := h i hi
      have hlt := World.block_lt_of_cell? w _ hcell
      rw [World.cell?_of_block (hg b ⟨o, ks.length - 1, cap, by rw [hv]; congr 1; omega⟩ hlt)]
      exact hcell
theorem Ints.alloc {w : World} {v : Value} {ks : List Int} (h : Ints w v ks) (o : Obj) : Ints (w.alloc o) v ks := h.kept fun b _ hb => (World.grownBy_alloc w o none).block b hb (by simp)

theorem arm_any {S : Nat → Prop} {p : Rep} {st : St} {w : World} (h : IsD S p st w) (n : Int) (hn : -9223372036854775808 ≤ n ∧ n ≤ 9223372036854775807) (v : Value) (ks : List Int) (hv : Ints w v ks)
    (hk : ks.length ≤ 1000000000 ∧ ∀ x ∈ ks, -9223372036854775808 ≤ x ∧ x ≤ 9223372036854775807) :
    Calls Try.prog 27 #[.pointer (some ⟨p.r, 0, none⟩), .int .i64 n, v] w fun e w' => e = .returned (.tuple #[]) ∧ Af S p.r (arm st n ks) w w' := by
  obtain ⟨a, cap, rfl, ha⟩ := hv.shape
  have hsrc := (hv.alloc (.cells #[] 3)).src.2
  obtain ⟨m, hm⟩ : ∃ m, max n 0 = m := ⟨_, rfl⟩
  have hfin : ∀ v' w1, Own w1 3 1 v' ks.length (ks.map (Value.int .i64 ·)) → w.grownBy w1 none → (∀ g, blk v' = some g → w.heap.size ≤ g) → Af S p.r (arm st n ks) w ((w1.setCell ⟨p.r, 6, none⟩ (.int .i64 m)).setCell ⟨p.r, 7, none⟩ v') := by
    intro v' w1 ho hg hb
    have hr1 := (h.grown hg).holds .r
    have hr2 := Lib.heap_setCell_same (i := 6) hr1 (.int .i64 m)
    have hr3 := Lib.heap_setCell_same (i := 7) hr2 v'
    have hlt := h.lt (s := .r) rfl
    have hg2 : w1.grownBy ((w1.setCell ⟨p.r, 6, none⟩ (.int .i64 m)).setCell ⟨p.r, 7, none⟩ v') (some p.r) := (grownBy_setCell' _ _ _ _).trans (grownBy_setCell' _ _ _ _)
    have hst := h.step (p' := { p with kv := v' }) (st' := arm st n ks) (w' := (w1.setCell ⟨p.r, 6, none⟩ (.int .i64 m)).setCell ⟨p.r, 7, none⟩ v') (fun s => s = .r ∨ s = .kv)
      ((But.of hg (fun b e _ => by cases e)).trans (S' := fun b => b = p.r) (But.of hg2 (fun b e _ => by cases e; rfl)) (fun i _ e => ⟨.r, .inl rfl, by rw [e]; rfl⟩))
      (fun s hs => by
        rcases hs with rfl | rfl
        · subst hm; exact hr3
        · refine Own.kept ho fun b hb' => hg2.block b (ho.lt b hb') (fun e => ?_)
          cases e
          have := hb _ hb'
          omega)
      (fun s hs => ⟨fun hh => by cases s <;> first | exact hh | exact absurd (.inl rfl) hs | exact absurd (.inr rfl) hs, by cases s <;> first | rfl | exact absurd (.inl rfl) hs | exact absurd (.inr rfl) hs⟩)
      (fun s b hs h1 => by
        rcases hs with rfl | rfl
        · exact .inl h1
        · exact .inr (hb b h1))
      (fun s s' b hs hs' h1 h2 => by
        rcases hs with rfl | rfl <;> rcases hs' with rfl | rfl
        · rfl
        · have e : p.r = b := Option.some.inj h1
          have := hb _ h2
          omega
        · have e : p.r = b := Option.some.inj h2
          have := hb _ h1
          omega
        · rfl) (arm_wf h.wf hn.2 hk)
    exact ⟨⟨{ p with kv := v' }, rfl, hst.1⟩, hst.2⟩
  have HF := Lib.hid hfin
  have HS := Lib.hid hsrc
  have hlt := h.lt (s := .r) rfl
  have f6 := h.froz 6
  have f7 := h.froz 7
  obtain ⟨c0, c1, c2, c3, c4, c5, c6, c7⟩ := h.cell
  have hkl := hk.1
  clear hfin hsrc h c0 c1 c2 c3 c4 c5 hv hk
  by_cases h0 : 0 ≤ n
  · obtain rfl : m = n := by omega
    clear hm
    go_enter Try.func27, Try.ntmps27
    go_wp2_with fail
    refine (clone43 a _ cap _ _ hkl ha HS.out).mono ?_
    rintro e w1 ⟨v', rfl, ho, hg, hb⟩
    obtain ⟨a', cap', rfl, _, _⟩ := ho.shape
    have hc6 := hg.cell c6 (by simp)
    have hc7 := hg.cell c7 (by simp)
    have hf6 := (hg.frozen_far ⟨p.r, 6, none⟩ hlt (by simp)).trans f6
    have hf7 := (hg.frozen_far ⟨p.r, 7, none⟩ hlt (by simp)).trans f7
    have HF2 := Lib.hid (HF.out _ w1 ho hg hb)
    clear ho hg hb
    go_wp2
    go_end0
    exact ⟨rfl, HF2.out⟩
  · obtain rfl : m = 0 := by omega
    clear hm
    go_enter Try.func27, Try.ntmps27
    go_wp2_with fail
    refine (clone43 a _ cap _ _ hkl ha HS.out).mono ?_
    rintro e w1 ⟨v', rfl, ho, hg, hb⟩
    obtain ⟨a', cap', rfl, _, _⟩ := ho.shape
    have hc6 := hg.cell c6 (by simp)
    have hc7 := hg.cell c7 (by simp)
    have hf6 := (hg.frozen_far ⟨p.r, 6, none⟩ hlt (by simp)).trans f6
    have hf7 := (hg.frozen_far ⟨p.r, 7, none⟩ hlt (by simp)).trans f7
    have HF2 := Lib.hid (HF.out _ w1 ho hg hb)
    clear ho hg hb
    go_wp2
    go_end0
    exact ⟨rfl, HF2.out⟩
end Go.Proofs.Ytkphmkhdlkdphaa
