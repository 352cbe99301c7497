/- The contracts of the short methods. The contracts of Arm, checkWrite and bytes. The contracts of checkWrite, bytes and Read. The contract of Read. The contract of list. The contract of list, walked. -/
import Derived.Test.YtejddacjncpneaaGreatDoorDi1
import Derived.Carry
import Derived.Deep.AppendLies
import Derived.Deep.RegionHeld3
import Derived.Deep.DrawnRows
import Derived.DeepKeys5
import Derived.BigRegion
import Derived.Deep.RegionLaw
set_option maxRecDepth 100000
namespace Go.Proofs.YtejddacjncpneaaGreatDoor.Di
open Go.RowKit

theorem size_any {S : Nat → Prop} {p : Rep} {st : St} {w : World} (h : IsD S p st w) (f : Int) (hf : -9223372036854775808 ≤ f ∧ f ≤ 9223372036854775807) :
    Calls Tryz.prog 27 #[.pointer (some ⟨p.r, 0, none⟩), .int .i64 f] w fun e w' => e = .returned (.int .i64 (st.now f).length) ∧ w = w' := by
  obtain ⟨c0, c1, c2, c3, c4, c5, c6, c7⟩ := h.cell
  obtain ⟨a, cap, hrun', _, _, _, _⟩ := h.lookF f hf
  have hrun := hrun' w rfl
  clear hrun'
  clear h c1 c2 c3 c4 c5 c6 c7
  go_enter Tryz.func27, Tryz.ntmps27
  go_wp2
  go_ret
  exact ⟨rfl, rfl⟩

theorem start_any {S : Nat → Prop} {p : Rep} {st : St} {w : World} (h : IsD S p st w) :
    Calls Tryz.prog 22 #[.pointer (some ⟨p.r, 0, none⟩)] w fun e w' => e = .returned (.tuple #[]) ∧ Af S p.r (start st) w w' := by
  obtain ⟨c0, c1, c2, c3, c4, c5, c6, c7⟩ := h.cell
  have f4 := h.froz 4
  have hfin : Af S p.r (start st) w (w.setCell ⟨p.r, 4, none⟩ (.bool false)) := by
    have := h.stepR (p' := p) (st' := start st) rfl (grownBy_setCell' w p.r 4 (.bool false)) (Lib.heap_setCell_same (i := 4) (h.holds .r) _) (fun s hs => ⟨fun hh => by cases s <;> first | exact hh | exact absurd rfl hs, rfl⟩) (start_wf h.wf)
    exact ⟨⟨p, rfl, this.1⟩, this.2⟩
  have HF := Lib.hid hfin
  clear h hfin c0 c1 c2 c3 c5 c6 c7
  go_enter Tryz.func22, Tryz.ntmps22
  go_wp2
  go_end0
  exact ⟨rfl, HF.out⟩

theorem lose_any {S : Nat → Prop} {p : Rep} {st : St} {w : World} (h : IsD S p st w) (n : Int) (hn : -9223372036854775808 ≤ n ∧ n ≤ 9223372036854775807) :
    Calls Tryz.prog 16 #[.pointer (some ⟨p.r, 0, none⟩), .int .i64 n] w fun e w' => e = .returned (.tuple #[]) ∧ Af S p.r (lose st n) w w' := by
  obtain ⟨c0, c1, c2, c3, c4, c5, c6, c7⟩ := h.cell
  have f5 := h.froz 5
  obtain ⟨m, hm⟩ : ∃ m, max n 0 = m := ⟨_, rfl⟩
  have hfin : Af S p.r (lose st n) w (w.setCell ⟨p.r, 5, none⟩ (.int .i64 m)) := by
    subst hm
    have := h.stepR (p' := p) (st' := lose st n) rfl (grownBy_setCell' w p.r 5 (.int .i64 (max n 0))) (Lib.heap_setCell_same (i := 5) (h.holds .r) _) (fun s hs => ⟨fun hh => by cases s <;> first | exact hh | exact absurd rfl hs, rfl⟩) (lose_wf h.wf hn.2)
    exact ⟨⟨p, rfl, this.1⟩, this.2⟩
  clear h c0 c1 c2 c3 c4 c6 c7
  by_cases h0 : 0 ≤ n
  · obtain rfl : m = n := by omega
    have HF := Lib.hid hfin
    clear hfin hm
    go_enter Tryz.func16, Tryz.ntmps16
    go_wp2
    go_end0
    exact ⟨rfl, HF.out⟩
  · obtain rfl : m = 0 := by omega
    have HF := Lib.hid hfin
    clear hfin hm
    go_enter Tryz.func16, Tryz.ntmps16
    go_wp2
    go_end0
    exact ⟨rfl, HF.out⟩

theorem mapF_none (x : Value) : mapF (fun _ => none) x = none := by unfold mapF; split <;> rfl
theorem setQ_nil (x : Value) : setQ [] x = none := by unfold setQ; exact if_neg (fun ⟨_, h, _⟩ => by cases h)

theorem new_any (w : World) :
    Calls Tryz.prog 6 #[] w fun e w' => ∃ r, e = .returned (.pointer (some ⟨r, 0, none⟩)) ∧ Disk (fun b => w.heap.size ≤ b ∧ b < w'.heap.size) r St.new w' ∧ w.grownBy w' none := by
  have hmm := @run_makeMap Tryz.prog
  go_enter Tryz.func6, Tryz.ntmps6
  go_wp2
  go_ret
  refine ⟨_, rfl, ?_, ?_⟩
  · refine ⟨⟨w.heap.size + 1 + 1 + 1, w.heap.size, w.heap.size + 1, w.heap.size + 1 + 1, .slice none 0 0, .slice none 0 0, fun _ => none, fun _ => none⟩, rfl, ?_⟩
    have e0 : ∀ o : Obj, (w.alloc o).heap.size = w.heap.size + 1 := fun o => by simp
    have m1 : MapIs Tryz.prog 3 (w.alloc (.map #[] 0)) w.heap.size (fun _ => none) := MapIs.made w
    have m2 : MapIs Tryz.prog 3 ((w.alloc (.map #[] 0)).alloc (.map #[] 0)) (w.heap.size + 1) (fun _ => none) := by have := MapIs.made (P := Tryz.prog) (k := 3) (w.alloc (.map #[] 0)); simpa using this
    have m3 : MapIs Tryz.prog 76 (((w.alloc (.map #[] 0)).alloc (.map #[] 0)).alloc (.map #[] 0)) (w.heap.size + 1 + 1) (fun _ => none) := by have := MapIs.made (P := Tryz.prog) (k := 76) ((w.alloc (.map #[] 0)).alloc (.map #[] 0)); simpa using this
    refine ⟨fun s => ?_, fun s s' b h1 h2 => ?_, fun s b h1 => ?_, new_wf⟩
    · cases s with
      | r =>
        have e3 : w.heap.size + 1 + 1 + 1 = (((w.alloc (.map #[] 0)).alloc (.map #[] 0)).alloc (.map #[] 0)).heap.size := by simp
        show (World.alloc _ _).heap[w.heap.size + 1 + 1 + 1]? = _
        rw [e3]
        exact (MapKept.heap_alloc _ _).1
      | fm => exact (m1.kept (by rw [Below.heap_alloc, Below.heap_alloc, Below.heap_alloc] <;> simp <;> omega)).congr (fun x => (mapF_none x).symm)
      | dm => exact (m2.kept (by rw [Below.heap_alloc, Below.heap_alloc] <;> simp)).congr (fun x => (mapF_none x).symm)
      | lm => exact (m3.kept (by rw [Below.heap_alloc]; simp)).congr (fun x => (setQ_nil x).symm)
      | pv => exact Own.nil _ _ _
      | kv => exact Own.nil _ _ _
      | f n => rfl
      | d n => rfl
    · cases s <;> simp [Rep.at, blk] at h1 <;> cases s' <;> simp [Rep.at, blk] at h2 <;> first | rfl | (exfalso; omega)
    · cases s <;> simp [Rep.at, blk] at h1 <;> subst h1 <;> exact ⟨by omega, by first | (simp; done) | (simp; omega)⟩
  · exact (((World.grownBy_alloc w _ none).trans (World.grownBy_alloc _ _ none)).trans (World.grownBy_alloc _ _ none)).trans (World.grownBy_alloc _ _ none)
end Go.Proofs.YtejddacjncpneaaGreatDoor.Di

namespace Go.Proofs.YtejddacjncpneaaGreatDoor.Di
open Go.RowKit

theorem Ints.src {w : World} {a : Option Addr} {n cap : Nat} {ks : List Int} (h : Ints w (.slice a n cap) ks) : n = ks.length ∧ Src Tryz.prog 1 36 (.slice a n cap) n (ks.map (Value.int .i64 ·)) w := by
  obtain ⟨a', cap', hv, _, h⟩ := h
  simp at hv
  obtain ⟨rfl, rfl, rfl⟩ := hv
  refine ⟨rfl, ?_⟩
  rcases h with rfl | ⟨b, o, rfl, hc⟩
  · cases a with
    | none => exact Src.ofNil w Tryz.underlying36 cap
    | some a => exact Src.ofSlice w Tryz.underlying36 a 0 cap [] (by simp) (by simp) (by simp)
  · refine Src.ofSlice w Tryz.underlying36 _ _ cap _ (by simp) (fun j u hu => ?_) (by simp [Value.oneCell'])
    rw [List.getElem?_map] at hu
    cases hj : ks[j]? with
    | none => rw [hj] at hu; cases hu
    | some x =>
      rw [hj] at hu
      obtain ⟨hlt, hx⟩ := List.getElem?_eq_some_iff.1 hj
      have hadd : (⟨b, o, none⟩ : Addr).add j = ⟨b, o + j, none⟩ := by unfold Addr.add; split <;> simp_all
      rw [hadd, hc j hlt, hx]
      exact hu
theorem Ints.shape {w : World} {v : Value} {ks : List Int} (h : Ints w v ks) : ∃ a cap, v = .slice a ks.length cap ∧ (a = none → ks.length = 0) := by
  obtain ⟨a, cap, hv, _, h⟩ := h
  refine ⟨a, cap, hv, fun e => ?_⟩
  rcases h with rfl | ⟨b, o, rfl, _⟩
  · rfl
  · cases e
theorem Ints.kept {w w' : World} {v : Value} {ks : List Int} (h : Ints w v ks) (hg : ∀ b, Ints.off v b → b < w.heap.size → w'.heap[b]? = w.heap[b]?) : Ints w' v ks := by
  obtain ⟨a, cap, hv, hc, h⟩ := h
  refine ⟨a, cap, hv, hc, ?_⟩
  rcases h with h | ⟨b, o, rfl, h⟩
  · exact .inl h
  · by_cases h0 : ks.length = 0
    · exact .inl (List.eq_nil_of_length_eq_zero h0)
    · refine .inr ⟨b, o, rfl, fun i hi => ?_⟩
      have hcell := h i hi
      have hlt := World.block_lt_of_cell? w _ hcell
      rw [World.cell?_of_block (hg b ⟨o, ks.length - 1, cap, by rw [hv]; congr 1; omega⟩ hlt)]
      exact hcell
theorem Ints.alloc {w : World} {v : Value} {ks : List Int} (h : Ints w v ks) (o : Obj) : Ints (w.alloc o) v ks := h.kept fun b _ hb => (World.grownBy_alloc w o none).block b hb (by simp)

theorem arm_any {S : Nat → Prop} {p : Rep} {st : St} {w : World} (h : IsD S p st w) (n : Int) (hn : -9223372036854775808 ≤ n ∧ n ≤ 9223372036854775807) (v : Value) (ks : List Int) (hv : Ints w v ks)
    (hk : ks.length ≤ 1000000000 ∧ ∀ x ∈ ks, -9223372036854775808 ≤ x ∧ x ≤ 9223372036854775807) :
    Calls Tryz.prog 18 #[.pointer (some ⟨p.r, 0, none⟩), .int .i64 n, v] w fun e w' => e = .returned (.tuple #[]) ∧ Af S p.r (arm st n ks) w w' := by
  obtain ⟨a, cap, rfl, ha⟩ := hv.shape
  have hsrc := (hv.alloc (.cells #[] 3)).src.2
  obtain ⟨m, hm⟩ : ∃ m, max n 0 = m := ⟨_, rfl⟩
  have hfin : ∀ v' w1, Own w1 3 1 v' ks.length (ks.map (Value.int .i64 ·)) → w.grownBy w1 none → (∀ g, blk v' = some g → w.heap.size ≤ g) → Af S p.r (arm st n ks) w ((w1.setCell ⟨p.r, 6, none⟩ (.int .i64 m)).setCell ⟨p.r, 7, none⟩ v') := by
    intro v' w1 ho hg hb
    have hr1 := (h.grown hg).holds .r
    have hr2 := Lib.heap_setCell_same (i := 6) hr1 (.int .i64 m)
    have hr3 := Lib.heap_setCell_same (i := 7) hr2 v'
    have hlt := h.lt (s := .r) rfl
    have hg2 : w1.grownBy ((w1.setCell ⟨p.r, 6, none⟩ (.int .i64 m)).setCell ⟨p.r, 7, none⟩ v') (some p.r) := (grownBy_setCell' _ _ _ _).trans (grownBy_setCell' _ _ _ _)
    have hst := h.step (p' := { p with kv := v' }) (st' := arm st n ks) (w' := (w1.setCell ⟨p.r, 6, none⟩ (.int .i64 m)).setCell ⟨p.r, 7, none⟩ v') (fun s => s = .r ∨ s = .kv)
      ((But.of hg (fun b e _ => by cases e)).trans (S' := fun b => b = p.r) (But.of hg2 (fun b e _ => by cases e; rfl)) (fun i _ e => ⟨.r, .inl rfl, by rw [e]; rfl⟩))
      (fun s hs => by
        rcases hs with rfl | rfl
        · subst hm; exact hr3
        · refine Own.kept ho fun b hb' => hg2.block b (ho.lt b hb') (fun e => ?_)
          cases e
          have := hb _ hb'
          omega)
      (fun s hs => ⟨fun hh => by cases s <;> first | exact hh | exact absurd (.inl rfl) hs | exact absurd (.inr rfl) hs, by cases s <;> first | rfl | exact absurd (.inl rfl) hs | exact absurd (.inr rfl) hs⟩)
      (fun s b hs h1 => by
        rcases hs with rfl | rfl
        · exact .inl h1
        · exact .inr (hb b h1))
      (fun s s' b hs hs' h1 h2 => by
        rcases hs with rfl | rfl <;> rcases hs' with rfl | rfl
        · rfl
        · have e : p.r = b := Option.some.inj h1
          have := hb _ h2
          omega
        · have e : p.r = b := Option.some.inj h2
          have := hb _ h1
          omega
        · rfl) (arm_wf h.wf hn.2 hk)
    exact ⟨⟨{ p with kv := v' }, rfl, hst.1⟩, hst.2⟩
  have HF := Lib.hid hfin
  have HS := Lib.hid hsrc
  have hlt := h.lt (s := .r) rfl
  have f6 := h.froz 6
  have f7 := h.froz 7
  obtain ⟨c0, c1, c2, c3, c4, c5, c6, c7⟩ := h.cell
  have hkl := hk.1
  clear hfin hsrc h c0 c1 c2 c3 c4 c5 hv hk
  by_cases h0 : 0 ≤ n
  · obtain rfl : m = n := by omega
    clear hm
    go_enter Tryz.func18, Tryz.ntmps18
    go_wp2_with fail
    refine (clone43 a _ cap _ _ hkl ha HS.out).mono ?_
    rintro e w1 ⟨v', rfl, ho, hg, hb⟩
    obtain ⟨a', cap', rfl, _, _⟩ := ho.shape
    have hc6 := hg.cell c6 (by simp)
    have hc7 := hg.cell c7 (by simp)
    have hf6 := (hg.frozen_far ⟨p.r, 6, none⟩ hlt (by simp)).trans f6
    have hf7 := (hg.frozen_far ⟨p.r, 7, none⟩ hlt (by simp)).trans f7
    have HF2 := Lib.hid (HF.out _ w1 ho hg hb)
    clear ho hg hb
    go_wp2
    go_end0
    exact ⟨rfl, HF2.out⟩
  · obtain rfl : m = 0 := by omega
    clear hm
    go_enter Tryz.func18, Tryz.ntmps18
    go_wp2_with fail
    refine (clone43 a _ cap _ _ hkl ha HS.out).mono ?_
    rintro e w1 ⟨v', rfl, ho, hg, hb⟩
    obtain ⟨a', cap', rfl, _, _⟩ := ho.shape
    have hc6 := hg.cell c6 (by simp)
    have hc7 := hg.cell c7 (by simp)
    have hf6 := (hg.frozen_far ⟨p.r, 6, none⟩ hlt (by simp)).trans f6
    have hf7 := (hg.frozen_far ⟨p.r, 7, none⟩ hlt (by simp)).trans f7
    have HF2 := Lib.hid (HF.out _ w1 ho hg hb)
    clear ho hg hb
    go_wp2
    go_end0
    exact ⟨rfl, HF2.out⟩
end Go.Proofs.YtejddacjncpneaaGreatDoor.Di

namespace Go.Proofs.YtejddacjncpneaaGreatDoor.Di
open Go.RowKit

theorem check_any {S : Nat → Prop} {p : Rep} {st : St} {w : World} (h : IsD S p st w) (f a : Int) (n : Nat) (_hf : -9223372036854775808 ≤ f ∧ f ≤ 9223372036854775807) (ha : -9223372036854775808 ≤ a ∧ a ≤ 9223372036854775807) (hn : n ≤ 4611686018427387904) :
    Calls Tryz.prog 53 #[.pointer (some ⟨p.r, 0, none⟩), .int .i64 f, .int .i64 a, .int .i64 n] w fun e w' => e = .returned (.int .i64 (chk st f a n)) ∧ w = w' := by
  obtain ⟨c0, c1, c2, c3, c4, c5, c6, c7⟩ := h.cell
  clear c0 c1 c2 c3 c5 c6 c7 h
  by_cases hd : st.down = true
  · have HC : Hid (chk st f a n = 8) := by unfold Hid chk; rw [if_pos hd]
    rw [hd] at c4
    clear hd
    go_enter Tryz.func53, Tryz.ntmps53
    go_wp2
    go_ret
    rw [HC.out]
    exact ⟨rfl, rfl⟩
  · have hd' : st.down = false := by simpa using hd
    by_cases h1 : isF f = false
    · have HC : Hid (chk st f a n = 1) := by unfold Hid chk; rw [if_neg hd, if_pos (.inl h1)]
      have HF := Lib.hid h1
      rw [hd'] at c4
      clear hd hd' h1
      go_enter Tryz.func53, Tryz.ntmps53
      go_wp2_with (go_at_call 50; refine (isFile_f f HF.out _).mono ?_; rintro e w' ⟨rfl, rfl⟩)
      go_ret
      rw [HC.out]
      exact ⟨rfl, rfl⟩
    · have h1' : isF f = true := by simpa using h1
      have HF := Lib.hid h1'
      by_cases h2 : a < 0
      · have HC : Hid (chk st f a n = 1) := by unfold Hid chk; rw [if_neg hd, if_pos (.inr h2)]
        rw [hd'] at c4
        clear hd hd' h1 h1'
        go_enter Tryz.func53, Tryz.ntmps53
        go_wp2_with (go_at_call 50; refine (isFile_t f HF.out _).mono ?_; rintro e w' ⟨rfl, rfl⟩)
        go_ret
        rw [HC.out]
        exact ⟨rfl, rfl⟩
      · have h2' : decide (a < 0) = false := by simpa using h2
        have h3 : ¬ (isF f = false ∨ a < 0) := by rintro (h | h) <;> contradiction
        have h20 : 0 ≤ a := by omega
        by_cases h4 : a > 16777216 - (n : Int)
        · have HC : Hid (chk st f a n = 6) := by unfold Hid chk; rw [if_neg hd, if_neg h3, if_pos h4]
          rw [hd'] at c4
          clear hd hd' h1 h1' h3 h2
          go_enter Tryz.func53, Tryz.ntmps53
          go_wp2_with (go_at_call 50; refine (isFile_t f HF.out _).mono ?_; rintro e w' ⟨rfl, rfl⟩)
          go_ret
          rw [HC.out]
          exact ⟨rfl, rfl⟩
        · have HC : Hid (chk st f a n = 0) := by unfold Hid chk; rw [if_neg hd, if_neg h3, if_neg h4]
          rw [hd'] at c4
          clear hd hd' h1 h1' h3 h2
          go_enter Tryz.func53, Tryz.ntmps53
          go_wp2_with (go_at_call 50; refine (isFile_t f HF.out _).mono ?_; rintro e w' ⟨rfl, rfl⟩)
          go_ret
          rw [HC.out]
          exact ⟨rfl, rfl⟩

/-- The bytes of a pending sector. -/
theorem bytes_any {S : Nat → Prop} {p : Rep} {st : St} {w : World} (h : IsD S p st w) (f : Int) (n : Nat) (hf : isF f = true) (hn : 64 * n < (st.now f).length) :
    Calls Tryz.prog 46 #[.pointer (some ⟨p.r, 0, none⟩), .agg #[.int .i64 f, .int .i64 n]] w fun e w' => e = .returned (.string ⟨(chunk (st.now f) n).toArray⟩) ∧ Below w.heap.size w w' := by
  obtain ⟨c0, c1, c2, c3, c4, c5, c6, c7⟩ := h.cell
  have hlt := h.lt (s := .r) rfl
  have hlen := h.wf.len f
  have hfr := isF_t.1 hf
  have hg1 : w.grownBy (w.alloc (.cells #[.int .i64 f, .int .i64 n] 76)) none := World.grownBy_alloc _ _ _
  obtain ⟨a, cap, h1, ho, hbl, hc1, hc2⟩ := (h.grown hg1).lookF f (by omega)
  have hrun : ∀ m, (Instr.lookup 56 (.map (some p.fm)) (.int .i64 f) false).run Tryz.prog ((w.alloc (.cells #[.int .i64 f, .int .i64 n] 76)).drewN m) = .ok (.slice a (st.now f).length cap) ((w.alloc (.cells #[.int .i64 f, .int .i64 n] 76)).drewN m) := fun m => h1 _ rfl
  have hcv : ∀ m k, 64 * n + k ≤ (st.now f).length → (convert 78 9 (.slice (Option.map ((fun x => x) ∘ fun x => x.add (n * 64)) a) k (cap - n * 64))).run Tryz.prog ((w.alloc (.cells #[.int .i64 f, .int .i64 n] 76)).drewN m) = .ok (.string ⟨(((st.now f).drop (64 * n)).take k).toArray⟩) ((w.alloc (.cells #[.int .i64 f, .int .i64 n] 76)).drewN m) := by
    intro m k hk
    have hd : OwnB ((w.alloc (.cells #[.int .i64 f, .int .i64 n] 76)).drewN m) (.slice a (st.now f).length cap) (st.now f) := ho.kept fun _ _ => rfl
    have := own_string (P := Tryz.prog) (ts := 5) (tb := 78) (td := 9) Tryz.underlying78 Tryz.underlying5 Tryz.underlying9 hd (64 * n) k (cap - n * 64) (by omega)
    rw [if_neg (by omega), Nat.mul_one, Nat.mul_comm 64 n] at this
    rw [Nat.mul_comm 64 n]
    exact this
  have hch : chunk (st.now f) n = ((st.now f).drop (64 * n)).take (min 64 ((st.now f).length - n * 64)) := by
    unfold chunk
    by_cases h64 : 64 ≤ (st.now f).length - n * 64
    · rw [Nat.min_eq_left h64]
    · rw [Nat.min_eq_right (by omega), List.take_of_length_le (by rw [List.length_drop]; omega), List.take_of_length_le (by rw [List.length_drop]; omega)]
  obtain ⟨l, hl⟩ : ∃ l, (st.now f).length = l := ⟨_, rfl⟩
  rw [hl] at hn hlen hc1 hrun hcv hch
  have HCH := Lib.hid hch
  clear c1 c2 c3 c4 c5 c6 c7 hbl ho hl hg1 h hf h1 hch
  by_cases h64 : 64 ≤ l - n * 64
  · have hc64 := fun m => hcv m 64 (by omega)
    rw [Nat.min_eq_left h64] at HCH
    clear hcv
    go_enter Tryz.func46, Tryz.ntmps46
    go_wp2_with fail
    go_quiet (fail)
    go_wp2_with fail
    go_ret
    rw [HCH.out]
    exact ⟨rfl, below_drewN ((Below.refl _ _).alloc (Nat.le_refl _) _)⟩
  · have hc64 := fun m => hcv m (l - n * 64) (by omega)
    rw [Nat.min_eq_right (by omega)] at HCH
    clear hcv
    go_enter Tryz.func46, Tryz.ntmps46
    go_wp2_with fail
    go_quiet (fail)
    go_wp2_with fail
    go_ret
    rw [HCH.out]
    exact ⟨rfl, below_drewN ((Below.refl _ _).alloc (Nat.le_refl _) _)⟩
end Go.Proofs.YtejddacjncpneaaGreatDoor.Di

namespace Go.Proofs.YtejddacjncpneaaGreatDoor.Di
open Go.RowKit

def Nothing : Nat → Prop := fun _ => False
theorem but_drewN (w : World) (n : Nat) : But Nothing w (w.drewN n) := ⟨rfl, rfl, rfl, Nat.le_refl _, fun _ _ _ => rfl⟩

/-- What a call of Read returns. -/
def Reads (w : World) (s : List UInt8) (r : Int) (e : Ending) (w' : World) : Prop := e = .returned (.tuple #[.string ⟨s.toArray⟩, .int .i64 r]) ∧ But Nothing w w'

theorem read_err {S : Nat → Prop} {p : Rep} {st : St} {w : World} (h : IsD S p st w) (f a n : Int) (_hf : -9223372036854775808 ≤ f ∧ f ≤ 9223372036854775807) (ha : -9223372036854775808 ≤ a ∧ a ≤ 9223372036854775807) (_hn : -9223372036854775808 ≤ n ∧ n ≤ 9223372036854775807)
    (hx : st.down = true ∨ isF f = false ∨ a < 0 ∨ n < 0) :
    Calls Tryz.prog 26 #[.pointer (some ⟨p.r, 0, none⟩), .int .i64 f, .int .i64 a, .int .i64 n] w (Reads w (readS st f a n) (readR st f a n)) := by
  obtain ⟨c0, c1, c2, c3, c4, c5, c6, c7⟩ := h.cell
  have HS : Hid (readS st f a n = []) := by unfold Hid readS; rw [if_pos hx]
  clear c0 c1 c2 c3 c5 c6 c7 h
  by_cases hd : st.down = true
  · have HC : Hid (readR st f a n = 8) := by unfold Hid readR; rw [if_pos hd]
    rw [hd] at c4
    clear hd hx
    go_enter Tryz.func26, Tryz.ntmps26
    go_wp2
    go_ret2
    unfold Reads
    rw [HC.out, HS.out]
    exact ⟨rfl, But.refl _ _⟩
  · have hd' : st.down = false := by simpa using hd
    have HC : Hid (readR st f a n = 1) := by
      unfold Hid readR
      rw [if_neg hd, if_pos]
      rcases hx with h | h | h
      · exact absurd h hd
      · exact .inl h
      · exact .inr h
    by_cases h1 : isF f = false
    · have HF := Lib.hid h1
      rw [hd'] at c4
      clear hd hd' h1 hx
      go_enter Tryz.func26, Tryz.ntmps26
      go_wp2_with (go_at_call 50; refine (isFile_f f HF.out _).mono ?_; rintro e w' ⟨rfl, rfl⟩)
      go_ret2
      unfold Reads
      rw [HC.out, HS.out]
      exact ⟨rfl, But.refl _ _⟩
    · have h1' : isF f = true := by simpa using h1
      have HF := Lib.hid h1'
      by_cases h2 : a < 0
      · rw [hd'] at c4
        clear hd hd' h1 h1' hx
        go_enter Tryz.func26, Tryz.ntmps26
        go_wp2_with (go_at_call 50; refine (isFile_t f HF.out _).mono ?_; rintro e w' ⟨rfl, rfl⟩)
        go_ret2
        unfold Reads
        rw [HC.out, HS.out]
        exact ⟨rfl, But.refl _ _⟩
      · have h2' : decide (a < 0) = false := by simpa using h2
        have h20 : 0 ≤ a := by omega
        have h3 : n < 0 := by
          rcases hx with h | h | h | h
          · exact absurd h hd
          · exact absurd h h1
          · exact absurd h h2
          · exact h
        rw [hd'] at c4
        clear hd hd' h1 h1' hx h2
        go_enter Tryz.func26, Tryz.ntmps26
        go_wp2_with (go_at_call 50; refine (isFile_t f HF.out _).mono ?_; rintro e w' ⟨rfl, rfl⟩)
        go_ret2
        unfold Reads
        rw [HC.out, HS.out]
        exact ⟨rfl, But.refl _ _⟩

theorem read_ok {S : Nat → Prop} {p : Rep} {st : St} {w : World} (h : IsD S p st w) (f : Int) (a n : Nat) (hd : st.down = false) (hf : isF f = true) (ha : (a : Int) ≤ 9223372036854775807) (hn : (n : Int) ≤ 9223372036854775807) :
    Calls Tryz.prog 26 #[.pointer (some ⟨p.r, 0, none⟩), .int .i64 f, .int .i64 a, .int .i64 n] w (Reads w (((st.now f).drop a).take n) 0) := by
  obtain ⟨c0, c1, c2, c3, c4, c5, c6, c7⟩ := h.cell
  have hfr := isF_t.1 hf
  have hlen := h.wf.len f
  obtain ⟨ad, cap, h1, ho, hbl, hc1, hc2⟩ := h.lookF f (by omega)
  have hsz : ∀ m, Calls Tryz.prog 27 #[.pointer (some ⟨p.r, 0, none⟩), .int .i64 f] (w.drewN m) fun e w' => e = .returned (.int .i64 (st.now f).length) ∧ w' = w.drewN m := fun m =>
    (size_any (h.kept (w' := w.drewN m) fun _ _ _ => rfl) f (by omega)).mono fun _ _ ⟨h1, h2⟩ => ⟨h1, h2.symm⟩
  have hrun : ∀ m, (Instr.lookup 56 (.map (some p.fm)) (.int .i64 f) false).run Tryz.prog (w.drewN m) = .ok (.slice ad (st.now f).length cap) (w.drewN m) := fun m => h1 _ rfl
  have HF := Lib.hid hf
  rw [hd] at c4
  have hcv : ∀ q k m c, k + m ≤ (st.now f).length → (convert 78 9 (.slice (if cap = k then ad else ad.map (·.add (k * 1))) m c)).run Tryz.prog (w.drewN q) = .ok (.string ⟨(((st.now f).drop k).take m).toArray⟩) (w.drewN q) := by
    intro q k m c hkm
    have hd : OwnB (w.drewN q) (.slice ad (st.now f).length cap) (st.now f) := ho.kept fun _ _ => rfl
    exact own_string (P := Tryz.prog) (ts := 5) (tb := 78) (td := 9) Tryz.underlying78 Tryz.underlying5 Tryz.underlying9 hd k m c hkm
  obtain ⟨l, hl⟩ : ∃ l, (st.now f).length = l := ⟨_, rfl⟩
  have HL := Lib.hid hl
  rw [hl] at hlen hc1 hrun hsz hcv
  have HSZ := Lib.hid hsz
  have HV := Lib.hid hcv
  clear c1 c2 c3 c5 c6 c7 h hd hf h1 hsz hcv hbl ho hl
  by_cases hal : a ≤ l
  · obtain ⟨m, hm⟩ : ∃ m, min n (l - a) = m := ⟨_, rfl⟩
    have hs : ((st.now f).drop a).take n = ((st.now f).drop a).take m := by
      by_cases h2 : n ≤ l - a
      · rw [← hm, Nat.min_eq_left h2]
      · rw [← hm, Nat.min_eq_right (by omega), List.take_of_length_le (by rw [List.length_drop, HL.out]; omega), List.take_of_length_le (by rw [List.length_drop, HL.out]; omega)]
    rw [hs]
    clear hs
    by_cases hcap : cap = a
    · subst hcap
      by_cases h2 : n ≤ l - cap
      · obtain rfl : n = m := by omega
        have hcv : ∀ q, (convert 78 9 (.slice ad n 0)).run Tryz.prog (w.drewN q) = .ok (.string ⟨(((st.now f).drop cap).take n).toArray⟩) (w.drewN q) := fun q => by have := HV.out q cap n 0 (by omega); rwa [if_pos rfl] at this
        clear hm
        go_enter Tryz.func26, Tryz.ntmps26
        go_wp2_with (go_at_call 50; refine (isFile_t f HF.out _).mono ?_; rintro e w' ⟨rfl, rfl⟩)
        go_quiet ((go_at_call 27; exact Calls.quiet_of_same (HSZ.out _)))
        go_wp2_with fail
        go_ret2
        exact ⟨rfl, but_drewN _ _⟩
      · obtain rfl : l - cap = m := by omega
        have hcv : ∀ q, (convert 78 9 (.slice ad 0 0)).run Tryz.prog (w.drewN q) = .ok (.string ⟨(((st.now f).drop cap).take (l - cap)).toArray⟩) (w.drewN q) := fun q => by have := HV.out q cap (l - cap) 0 (by omega); rw [if_pos rfl, show l - cap = 0 by omega] at this; rw [show l - cap = 0 by omega]; exact this
        clear hm
        rw [show ((st.now f).drop cap).take (l - cap) = [] from by rw [show l - cap = 0 by omega, List.take_zero]]
        go_enter Tryz.func26, Tryz.ntmps26
        go_wp2_with (go_at_call 50; refine (isFile_t f HF.out _).mono ?_; rintro e w' ⟨rfl, rfl⟩)
        go_quiet ((go_at_call 27; exact Calls.quiet_of_same (HSZ.out _)))
        go_wp2_with fail
        go_ret2
        exact ⟨rfl, but_drewN _ _⟩
    · by_cases h2 : n ≤ l - a
      · obtain rfl : n = m := by omega
        have hcv : ∀ q, (convert 78 9 (.slice (Option.map ((fun x => x) ∘ fun x => x.add a) ad) n (cap - a))).run Tryz.prog (w.drewN q) = .ok (.string ⟨(((st.now f).drop a).take n).toArray⟩) (w.drewN q) := fun q => by have := HV.out q a n (cap - a) (by omega); rw [if_neg hcap, Nat.mul_one] at this; exact this
        clear hm
        go_enter Tryz.func26, Tryz.ntmps26
        go_wp2_with (go_at_call 50; refine (isFile_t f HF.out _).mono ?_; rintro e w' ⟨rfl, rfl⟩)
        go_quiet ((go_at_call 27; exact Calls.quiet_of_same (HSZ.out _)))
        go_wp2_with fail
        go_ret2
        exact ⟨rfl, but_drewN _ _⟩
      · obtain rfl : l - a = m := by omega
        have hcv : ∀ q, (convert 78 9 (.slice (Option.map ((fun x => x) ∘ fun x => x.add a) ad) (l - a) (cap - a))).run Tryz.prog (w.drewN q) = .ok (.string ⟨(((st.now f).drop a).take (l - a)).toArray⟩) (w.drewN q) := fun q => by have := HV.out q a (l - a) (cap - a) (by omega); rw [if_neg hcap, Nat.mul_one] at this; exact this
        clear hm
        go_enter Tryz.func26, Tryz.ntmps26
        go_wp2_with (go_at_call 50; refine (isFile_t f HF.out _).mono ?_; rintro e w' ⟨rfl, rfl⟩)
        go_quiet ((go_at_call 27; exact Calls.quiet_of_same (HSZ.out _)))
        go_wp2_with fail
        go_ret2
        exact ⟨rfl, but_drewN _ _⟩
  · have hs : ((st.now f).drop a).take n = ((st.now f).drop l).take 0 := by
      rw [List.take_zero, List.drop_eq_nil_of_le (by rw [HL.out]; omega), List.take_nil]
    rw [hs]
    clear hs
    rcases Nat.eq_zero_or_pos n with rfl | hn0
    all_goals
      by_cases hcap : cap = l
      · subst hcap
        have hcv : ∀ q, (convert 78 9 (.slice ad 0 0)).run Tryz.prog (w.drewN q) = .ok (.string ⟨(((st.now f).drop cap).take 0).toArray⟩) (w.drewN q) := fun q => by have := HV.out q cap 0 0 (by omega); rwa [if_pos rfl] at this
        go_enter Tryz.func26, Tryz.ntmps26
        go_wp2_with (go_at_call 50; refine (isFile_t f HF.out _).mono ?_; rintro e w' ⟨rfl, rfl⟩)
        go_quiet ((go_at_call 27; exact Calls.quiet_of_same (HSZ.out _)))
        go_wp2_with fail
        all_goals
          go_ret2
          exact ⟨rfl, but_drewN _ _⟩
      · have hcv : ∀ q, (convert 78 9 (.slice (Option.map ((fun x => x) ∘ fun x => x.add l) ad) 0 (cap - l))).run Tryz.prog (w.drewN q) = .ok (.string ⟨(((st.now f).drop l).take 0).toArray⟩) (w.drewN q) := fun q => by have := HV.out q l 0 (cap - l) (by omega); rw [if_neg hcap, Nat.mul_one] at this; exact this
        go_enter Tryz.func26, Tryz.ntmps26
        go_wp2_with (go_at_call 50; refine (isFile_t f HF.out _).mono ?_; rintro e w' ⟨rfl, rfl⟩)
        go_quiet ((go_at_call 27; exact Calls.quiet_of_same (HSZ.out _)))
        go_wp2_with fail
        all_goals
          go_ret2
          exact ⟨rfl, but_drewN _ _⟩

theorem read_any {S : Nat → Prop} {p : Rep} {st : St} {w : World} (h : IsD S p st w) (f a n : Int) (hf : -9223372036854775808 ≤ f ∧ f ≤ 9223372036854775807) (ha : -9223372036854775808 ≤ a ∧ a ≤ 9223372036854775807) (hn : -9223372036854775808 ≤ n ∧ n ≤ 9223372036854775807) :
    Calls Tryz.prog 26 #[.pointer (some ⟨p.r, 0, none⟩), .int .i64 f, .int .i64 a, .int .i64 n] w (Reads w (readS st f a n) (readR st f a n)) := by
  by_cases hx : st.down = true ∨ isF f = false ∨ a < 0 ∨ n < 0
  · exact read_err h f a n hf ha hn hx
  · have h1 : st.down = false := by cases e : st.down <;> simp_all
    have h2 : isF f = true := by cases e : isF f <;> simp_all
    have h3 : 0 ≤ a ∧ 0 ≤ n := by
      have : ¬ a < 0 := fun e => hx (.inr (.inr (.inl e)))
      have : ¬ n < 0 := fun e => hx (.inr (.inr (.inr e)))
      omega
    obtain ⟨a, rfl⟩ : ∃ k : Nat, a = k := ⟨a.toNat, by omega⟩
    obtain ⟨n, rfl⟩ : ∃ k : Nat, n = k := ⟨n.toNat, by omega⟩
    have e1 : readS st f a n = ((st.now f).drop a).take n := by unfold readS; rw [if_neg hx]; simp
    have e2 : readR st f a n = 0 := by
      unfold readR
      rw [if_neg (by simp [h1]), if_neg (fun e => hx (.inr e))]
    rw [e1, e2]
    exact read_ok h f a n h1 h2 ha.2 hn.2
end Go.Proofs.YtejddacjncpneaaGreatDoor.Di

namespace Go.Proofs.YtejddacjncpneaaGreatDoor.Di
open Go.RowKit Go.ChangeShapes Go.WideShapes

theorem lawS : Maps.Keyed Tryz.prog 76 := Maps.Keyed.of_law (deep_law_laid (by kernel_rfl) (m := 2) (by decide) (of_decide_eq_true (by kernel_rfl)) (by kernel_rfl) (by kernel_rfl))
theorem keyS_of (s : Int × Nat) (h1 : isF s.1 = true) (h2 : s.2 ≤ 16777216) : ∃ kl, keyOf Tryz.prog 76 (keyS s) = some kl := by
  have h := isF_t.1 h1
  have w1 : (Lit.int .i64 s.1).wf = true := wf_i64 (by omega)
  have w2 : (Lit.int .i64 (s.2 : Int)).wf = true := wf_i64 (by omega)
  have k1 : Tryz.prog.keyType 76 = true := by kernel_rfl
  have k2 : (keyS s).formed Tryz.prog 76 = true := by kernel_rfl
  have k3 : Tryz.prog.cellsOf 76 = 2 := by kernel_rfl
  have k4 : Tryz.prog.cellsOf 3 = 1 := by kernel_rfl
  obtain ⟨m105, k5⟩ : ∃ m, Tryz.prog.types.size + 1 = m + 1 + 1 := ⟨Tryz.prog.types.size - 1, by kernel_rfl⟩
  have hu := Tryz.underlying76
  unfold keyOf
  rw [Tryz.underlying76]
  simp only [k1, k2, k5, Bool.and_true, if_true]
  have e : Tryz.prog.keyLits (m105 + 1 + 1) 76 (keyS s).cells.toList = some [.int .i64 s.1, .int .i64 (s.2 : Int)] := by
    unfold Program.keyLits
    rw [Tryz.underlying76]
    simp [keyS, Value.cells, k3, k4]
    unfold Program.keyLits
    simp [Tryz.underlying3, w1, w2]
  rw [e]
  exact ⟨_, rfl⟩

theorem IsD.lookL {S : Nat → Prop} {p : Rep} {st : St} {w : World} (h : IsD S p st w) {s : Int × Nat} {kl : Lit} (hk : keyOf Tryz.prog 76 (keyS s) = some kl) (w' : World) (hw : w'.heap = w.heap) :
    (Instr.lookup 57 (.map (some p.lm)) (.agg #[.int .i64 s.1, .int .i64 s.2]) false).run Tryz.prog w' = .ok (.bool (decide (s ∈ st.q))) w' := by
  have hm0 : MapIs Tryz.prog 76 w p.lm (setQ st.q) := h.holds .lm
  have hm : MapIs Tryz.prog 76 w' p.lm (setQ st.q) := hm0.kept (by rw [hw])
  have := hm.lookup lawS Tryz.underlying57 (zero4 _) hk
  by_cases hin : s ∈ st.q
  · rw [setQ_mem hin] at this
    simp only [hin, decide_true]
    exact this
  · rw [setQ_not hin] at this
    simp only [hin, decide_false]
    exact this

/-- append at a step of a region that draws its order. -/
theorem step_own_append {P : Program} {w : World} {e size : Nat} {v : Value} {n : Nat} {xs : List Value} {ops : Array Oper} {o : Oper} {a : Act} {K : Act → World → Prop} {Q : Exit → Act → World → Prop} {E : Prop} (hgd : o.guard = none) (s x : Operand) (t tx : TypeId)
    (ho : o.op = .call { callee := .builtin .append, args := #[s, x], argTypes := #[t, tx] }) {i : TypeInfo} {z : Value} {m bytes : Nat} {news : List Value} (ht : P.underlying t = some (.slice e)) (hi : P.info? e = some i) (hz : i.zero = some z)
    (hsize : i.size = size) (hby : i.bytes = bytes) (hzs : z.cells.size = size) (hs : a.eval s = v) (h : Own w e size v n xs) (vx : Value) (hx : a.eval x = vx) (hsrc : Src P size tx vx m news w) (h63 : n + m ≤ maxLen) (hbytes : (n + m) * bytes ≤ 140737488355328)
    (hk : ∀ a' c' w', Own w' e size (.slice a' (n + m) c') (n + m) (xs ++ news) → w.grownBy w' (blk v) → (blk (.slice a' (n + m) c') = none ∨ blk (.slice a' (n + m) c') = blk v ∨ blk (.slice a' (n + m) c') = some w.heap.size) → K (a.put o.dst (.slice a' (n + m) c')) w') :
    if Region.wanted o (yielded ops a.tmps) = true then Oper.wp P o a w K Q else E := by
  have hw : Region.wanted o (yielded ops a.tmps) = true := by simp [Region.wanted, hgd]
  rw [if_pos hw]
  obtain ⟨v', w', hr, h1, h2, h3⟩ := own_append (P := P) (ty := o.type) ht hi hz hsize hby hzs h hsrc h63 hbytes
  obtain ⟨a', c', rfl, _, _⟩ := h1.shape
  unfold Oper.wp execOp
  simp only [ho, resolve, invoke, builtin, Sem.run_bind, Sem.run_pure, Result.andThen_ok, List.map_toArray, List.map_cons, List.map_nil, hs, hx, hr]
  exact hk a' c' w' h1 h2 h3

theorem addQ_snoc (q l : List (Int × Nat)) (s : Int × Nat) : addQ q (l ++ [s]) = addS (addQ q l) s := by simp [addQ, List.foldl_append]
theorem secs_take (f : Int) (a n k : Nat) (h : k < (a + n + 63) / 64 - a / 64) : (secs f a n).take (k + 1) = (secs f a n).take k ++ [(f, a / 64 + k)] := by
  unfold secs
  rw [List.take_succ_eq_append_getElem (by simpa using h)]
  simp

def withQ (st : St) (q : List (Int × Nat)) : St := { st with q := q }
theorem addQ_wf {st : St} (h : WF st) {f : Int} (hf : isF f = true) {l : List (Int × Nat)} (hl : ∀ x ∈ l, x.1 = f ∧ 64 * x.2 < (st.now f).length) : WF (withQ st (addQ st.q l)) := by
  refine ⟨h.nf, h.len, h.dl, fun x hx => ?_, nodup_addQ h.nd, h.lost, h.calls, h.keep⟩
  rcases mem_addQ.1 hx with hx | hx
  · exact h.q x hx
  · obtain ⟨e1, e2⟩ := hl x hx
    exact ⟨by rw [e1]; exact hf, by rw [e1]; exact e2⟩

theorem Af.grown {S : Nat → Prop} {r : Nat} {st : St} {w w1 w2 : World} (h : Af S r st w w1) (hg : w1.grownBy w2 none) : Af S r st w w2 := by
  obtain ⟨⟨p, hp, hd⟩, hb⟩ := h
  refine ⟨⟨p, hp, (hd.grown hg).mono fun b hb' => ?_⟩, hb.trans (S' := fun _ => False) (But.of hg fun b e _ => by cases e) (fun _ _ e => e.elim)⟩
  rcases hb' with h | ⟨h1, h2⟩
  · exact .inl h
  · exact .inr ⟨h1, Nat.lt_of_lt_of_le h2 hg.size⟩
theorem grown_drewN (w : World) (n : Nat) : w.grownBy (w.drewN n) none := ⟨rfl, rfl, rfl, Nat.le_refl _, fun _ _ _ => rfl⟩
theorem grown_drew (w : World) : w.grownBy w.drew none := ⟨rfl, rfl, rfl, Nat.le_refl _, fun _ _ _ => rfl⟩

theorem list_mid {S : Nat → Prop} {p : Rep} {st : St} {w w3 : World} (h : IsD S p st w) {s : Int × Nat} {kl : Lit} (hkl : keyOf Tryz.prog 76 (keyS s) = some kl) (hwf : WF (withQ st (st.q ++ [s]))) {a' : Option Addr} {c' : Nat}
    (hall : w.grownBy w3 (blk p.pv)) (hown3 : Own w3 76 2 (.slice a' (st.q.length + 1) c') (st.q.length + 1) (cellsQ st.q ++ [.int .i64 s.1, .int .i64 s.2]))
    (hbl3 : blk (.slice a' (st.q.length + 1) c') = none ∨ blk (.slice a' (st.q.length + 1) c') = blk p.pv ∨ ∃ g, blk (.slice a' (st.q.length + 1) c') = some g ∧ w.heap.size ≤ g) :
    (w3.setCell ⟨p.r, 2, none⟩ (.slice a' (st.q.length + 1) c')).cell? ⟨p.r, 3, none⟩ = some (.map (some p.lm)) ∧
    (∀ b, b < w.heap.size → (∀ s, p.at s ≠ some b) → (w3.setCell ⟨p.r, 2, none⟩ (.slice a' (st.q.length + 1) c')).heap[b]? = w.heap[b]?) ∧
    ∃ w5, (Instr.mapUpdate 57 (.map (some p.lm)) (.agg #[.int .i64 s.1, .int .i64 s.2]) (.bool true)).run Tryz.prog (w3.setCell ⟨p.r, 2, none⟩ (.slice a' (st.q.length + 1) c')).drew = .ok () w5 ∧
      IsD (Grew S w w5) { p with pv := .slice a' (st.q.length + 1) c' } (withQ st (st.q ++ [s])) w5 ∧ But S w w5 ∧ w5.cell? ⟨p.r, 3, none⟩ = some (.map (some p.lm)) ∧ (∀ b, b < w.heap.size → (∀ s, p.at s ≠ some b) → w5.heap[b]? = w.heap[b]?) := by
  have hlt := h.lt (s := .r) rfl
  have hllt := h.lt (s := .lm) rfl
  have ne_r : blk p.pv ≠ some p.r := fun e => by have := h.inj .pv .r p.r e rfl; cases this
  have ne_l : blk p.pv ≠ some p.lm := fun e => by have := h.inj .pv .lm p.lm e rfl; cases this
  have ne_rl : p.lm ≠ p.r := fun e => by have := h.inj .lm .r p.lm rfl (by rw [e]; rfl); cases this
  have hbr : w3.heap[p.r]? = w.heap[p.r]? := hall.block _ hlt (Ne.symm ne_r)
  have hr4 := Lib.heap_setCell_same (i := 2) (hbr.trans (h.holds .r)) (.slice a' (st.q.length + 1) c')
  have hg4 := grownBy_setCell' w3 p.r 2 (.slice a' (st.q.length + 1) c')
  have hsz := hall.size
  generalize w3.setCell ⟨p.r, 2, none⟩ (.slice a' (st.q.length + 1) c') = w4 at *
  have hsz4 := hg4.size
  have hoth : ∀ b, b < w.heap.size → (∀ s, p.at s ≠ some b) → w4.heap[b]? = w.heap[b]? := fun b hb hs =>
    (hg4.block b (by omega) (fun e => hs .r (by rw [e]; rfl))).trans (hall.block b hb (fun e => hs .pv e.symm))
  have hlm : MapIs Tryz.prog 76 w4.drew p.lm (setQ st.q) := MapIs.kept (h.holds .lm) ((hg4.block p.lm (by omega) (fun e => ne_rl (Option.some.inj e))).trans (hall.block _ hllt (Ne.symm ne_l)))
  obtain ⟨w5, hrun, hm5, hg5, hs5⟩ := hlm.update lawS Tryz.underlying57 hkl (setQ_sets st.q s)
  have hsz5 : w5.heap.size = w4.heap.size := hs5
  have hr5 : w5.heap[p.r]? = w4.heap[p.r]? := hg5.block p.r (by show _ < w4.heap.size; omega) (fun e => ne_rl (Option.some.inj e).symm)
  have hbut : But (fun b => ∃ s, (s = Sl.r ∨ s = .pv ∨ s = .lm) ∧ p.at s = some b) w w5 := by
    refine ((But.of hall fun b e _ => ⟨.pv, .inr (.inl rfl), e⟩).trans (S' := fun b => ∃ s, (s = Sl.r ∨ s = .pv ∨ s = .lm) ∧ p.at s = some b) (But.of hg4 fun b e _ => ⟨.r, .inl rfl, e⟩) (fun i _ h => h)).trans (S' := fun b => ∃ s, (s = Sl.r ∨ s = .pv ∨ s = .lm) ∧ p.at s = some b) ?_ (fun i _ h => h)
    exact (But.of (grown_drew w4) fun b e _ => by cases e).trans (S' := fun b => ∃ s, (s = Sl.r ∨ s = .pv ∨ s = .lm) ∧ p.at s = some b) (But.of hg5 fun b e _ => ⟨.lm, .inr (.inr rfl), e⟩) (fun i _ h => h)
  have hst := h.step (p' := { p with pv := .slice a' (st.q.length + 1) c' }) (st' := withQ st (st.q ++ [s])) (w' := w5) (fun s => s = Sl.r ∨ s = .pv ∨ s = .lm) hbut
    (fun t ht => by
      rcases ht with rfl | rfl | rfl
      · exact hr5.trans hr4
      · show Own w5 76 2 _ (st.q ++ [s]).length (cellsQ (st.q ++ [s]))
        have e1 : (st.q ++ [s]).length = st.q.length + 1 := by simp
        have e2 : cellsQ (st.q ++ [s]) = cellsQ st.q ++ [.int .i64 s.1, .int .i64 s.2] := by simp [cellsQ]
        rw [e1, e2]
        refine hown3.kept fun b hb => ?_
        have hb3 := hown3.lt b hb
        have nb : b ≠ p.r ∧ b ≠ p.lm := by
          rcases hbl3 with e | e | ⟨g, e, hg⟩
          · rw [e] at hb; cases hb
          · rw [e] at hb
            exact ⟨fun e1 => ne_r (by rw [hb, e1]), fun e1 => ne_l (by rw [hb, e1])⟩
          · rw [e] at hb; cases hb
            exact ⟨fun e1 => by omega, fun e1 => by omega⟩
        exact (hg5.block b (by show _ < w4.heap.size; omega) (fun e => nb.2 (Option.some.inj e))).trans (hg4.block b hb3 (fun e => nb.1 (Option.some.inj e)))
      · exact hm5)
    (fun t ht => ⟨fun hh => by cases t <;> first | exact hh | exact absurd (.inl rfl) ht | exact absurd (.inr (.inl rfl)) ht | exact absurd (.inr (.inr rfl)) ht, by cases t <;> first | rfl | exact absurd (.inr (.inl rfl)) ht⟩)
    (fun t b ht h1 => by
      rcases ht with rfl | rfl | rfl
      · exact .inl h1
      · rcases hbl3 with e | e | ⟨g, e, hg⟩
        · have h1' : blk (.slice a' (st.q.length + 1) c') = some b := h1
          rw [e] at h1'; cases h1'
        · left
          have h1' : blk (.slice a' (st.q.length + 1) c') = some b := h1
          rw [e] at h1'; exact h1'
        · have h1' : blk (.slice a' (st.q.length + 1) c') = some b := h1
          rw [e] at h1'; cases h1'; exact .inr hg
      · exact .inl h1)
    (fun t t' b ht ht' h1 h2 => by
      have key : ∀ b, blk (.slice a' (st.q.length + 1) c') = some b → b ≠ p.r ∧ b ≠ p.lm := fun b hb => by
        rcases hbl3 with e | e | ⟨g, e, hg⟩
        · rw [e] at hb; cases hb
        · rw [e] at hb
          exact ⟨fun e1 => ne_r (by rw [hb, e1]), fun e1 => ne_l (by rw [hb, e1])⟩
        · rw [e] at hb; cases hb
          exact ⟨fun e1 => by omega, fun e1 => by omega⟩
      rcases ht with rfl | rfl | rfl <;> rcases ht' with rfl | rfl | rfl
      · rfl
      · exact absurd (Option.some.inj h1).symm (key b h2).1
      · exact absurd ((Option.some.inj h2).trans (Option.some.inj h1).symm) ne_rl
      · exact absurd (Option.some.inj h2).symm (key b h1).1
      · rfl
      · exact absurd (Option.some.inj h2).symm (key b h1).2
      · exact absurd ((Option.some.inj h1).trans (Option.some.inj h2).symm) ne_rl
      · exact absurd (Option.some.inj h1).symm (key b h2).2
      · rfl)
    hwf
  have hc4 : ∀ w' : World, w'.heap[p.r]? = w4.heap[p.r]? → w'.cell? ⟨p.r, 3, none⟩ = some (.map (some p.lm)) := fun w' e => by
    simp [World.cell?, e, hr4]
  exact ⟨hc4 w4 rfl, hoth, w5, hrun, hst.1, hst.2, hc4 w5 hr5, fun b hb hs => (hg5.block b (by show _ < w4.heap.size; omega) (fun e => hs .lm (by rw [Option.some.inj e]; rfl))).trans (hoth b hb hs)⟩

end Go.Proofs.YtejddacjncpneaaGreatDoor.Di

namespace Go.Proofs.YtejddacjncpneaaGreatDoor.Di
open Go.RowKit Go.ChangeShapes Go.WideShapes
attribute [local go_sem ↓] Go.wp_at_zero Go.wp_at_succ

theorem secs_wf {st : St} (h : WF st) {f : Int} {a n : Nat} (hf : isF f = true) (hn : 0 < n) (hb : a + n ≤ (st.now f).length) (k : Nat) : WF (withQ st (addQ st.q ((secs f a n).take k))) :=
  addQ_wf h hf fun x hx => by
    obtain ⟨h1, h2, h3⟩ := mem_secs (List.mem_of_mem_take hx) hn
    exact ⟨h1, by omega⟩
theorem Af.then {S : Nat → Prop} {r : Nat} {st st' : St} {a b c : World} (h : Af S r st a b) {p : Rep} (hp : p.r = r) (hd : IsD (Grew (Grew S a b) b c) p st' c) (hb : But (Grew S a b) b c) : Af S r st' a c := h.trans ⟨⟨p, hp, hd⟩, hb⟩

set_option maxRecDepth 100000 in
set_option maxHeartbeats 2000000 in
theorem list_any {S : Nat → Prop} {p : Rep} {st : St} {w : World} (h : IsD S p st w) (f : Int) (a n : Nat) (hf : isF f = true) (hn : 0 < n) (hb : a + n ≤ (st.now f).length) :
    Calls Tryz.prog 54 #[.pointer (some ⟨p.r, 0, none⟩), .int .i64 f, .int .i64 a, .int .i64 n] w fun e w' => e = .returned (.tuple #[]) ∧ Af S p.r (withQ st (addQ st.q (secs f a n))) w w' := by
  have hlen := h.wf.len f
  have hfr := isF_t.1 hf
  obtain ⟨C, hC⟩ : ∃ C, (a + n + 63) / 64 - a / 64 = C := ⟨_, rfl⟩
  obtain ⟨r, hr⟩ : ∃ r, p.r = r := ⟨_, rfl⟩
  have h0 : Af S r (withQ st (addQ st.q ((secs f a n).take 0))) w w := ⟨⟨p, hr, h.mono fun b hb => .inl hb⟩, But.refl _ _⟩
  have H0 := Lib.hid h0
  have HW0 := Lib.hid h.wf
  have HB := Lib.hid hb
  have HF := Lib.hid hf
  rw [hr]
  clear h h0 hr hb hf
  have hab : a + n ≤ 16777216 := by have := HB.out; omega
  obtain ⟨k0, hk0⟩ : ∃ k0, a / 64 = k0 := ⟨_, rfl⟩
  have HC : Hid (k0 + C = (a + n + 63) / 64 ∧ a / 64 = k0 ∧ (a + n + 63) / 64 - a / 64 = C) := ⟨by omega, hk0, hC⟩
  have hc1 : k0 + C ≤ 300000 := by omega
  have hat : ((a : Int) / 64) = ((k0 : Nat) : Int) := by omega
  clear hC hk0
  go_enter Tryz.func54, Tryz.ntmps54
  go_wp2_with fail
  go_loopw [8] (fun i wr => ∃ j : Nat, k0 ≤ j ∧ j ≤ k0 + C ∧ i = .int .i64 (j : Int) ∧ Af S r (withQ st (addQ st.q ((secs f a n).take (j - k0)))) w wr) (fun i _ => k0 + C - (RowKit.intOf i).toNat)
  case atStart => exact ⟨k0, Nat.le_refl _, by omega, by first | rfl | simp [hat], by rw [Nat.sub_self]; exact H0.out⟩
  case round =>
    clear hat
    obtain ⟨j, hj0, hj, rfl, haf⟩ := hrel
    have HA := Lib.hid haf
    clear haf
    by_cases hlt : j < k0 + C
    · obtain ⟨⟨p1, hp1, h1⟩, hbut⟩ := HA.out
      have H1 := Lib.hid h1
      obtain ⟨c0, c1, c2, c3, c4, c5, c6, c7⟩ := h1.cell
      rw [hp1] at c2 c3
      have hs64 : 64 * j < a + n := by have := HC.out; omega
      obtain ⟨kl, hkl⟩ := keyS_of (f, j) HF.out (by simp; omega)
      clear c0 c1 c4 c5 c6 c7 hbut
      have hwr := World.grownBy_alloc wr (.cells #[.int .i64 f, .int .i64 (j : Int)] 76) none
      have hlk : r < wr.heap.size := by rw [← hp1]; exact h1.lt (s := .r) rfl
      by_cases hin : (f, j) ∈ addQ st.q ((secs f a n).take (j - k0))
      · have hlook : ∀ m, (Instr.lookup 57 (.map (some p1.lm)) (.agg #[.int .i64 f, .int .i64 (j : Int)]) false).run Tryz.prog ((wr.alloc (.cells #[.int .i64 f, .int .i64 (j : Int)] 76)).drewN m) = .ok (.bool true) ((wr.alloc (.cells #[.int .i64 f, .int .i64 (j : Int)] 76)).drewN m) := by
          intro m
          have := (h1.grown hwr).lookL hkl ((wr.alloc (.cells #[.int .i64 f, .int .i64 (j : Int)] 76)).drewN m) rfl
          rw [show decide ((f, j) ∈ (withQ st (addQ st.q ((secs f a n).take (j - k0)))).q) = true from decide_eq_true hin] at this
          exact this
        have HI := Lib.hid hin
        clear h1 hkl hin hp1
        go_wp2_with fail
        go_quiet (fail)
        go_wp2_with fail
        go_roundw
        case rel =>
          refine ⟨j + 1, by omega, by omega, by go_num, ?_⟩
          have e1 : j + 1 - k0 = (j - k0) + 1 := by omega
          have e2 := secs_take f a n (j - k0) (by rw [HC.out.2.2]; omega)
          rw [HC.out.2.1, show k0 + (j - k0) = j by omega] at e2
          rw [e1, e2, addQ_snoc, addS, if_pos HI.out]
          exact (HA.out.grown hwr).grown (grown_drewN _ _)
        case measure => simp [RowKit.intOf]; omega
      · have hlook : ∀ m, (Instr.lookup 57 (.map (some p1.lm)) (.agg #[.int .i64 f, .int .i64 (j : Int)]) false).run Tryz.prog ((wr.alloc (.cells #[.int .i64 f, .int .i64 (j : Int)] 76)).drewN m) = .ok (.bool false) ((wr.alloc (.cells #[.int .i64 f, .int .i64 (j : Int)] 76)).drewN m) := by
          intro m
          have := (h1.grown hwr).lookL hkl ((wr.alloc (.cells #[.int .i64 f, .int .i64 (j : Int)] 76)).drewN m) rfl
          rw [show decide ((f, j) ∈ (withQ st (addQ st.q ((secs f a n).take (j - k0)))).q) = false from decide_eq_false hin] at this
          exact this
        have HE : Hid (addQ st.q ((secs f a n).take (j + 1 - k0)) = addQ st.q ((secs f a n).take (j - k0)) ++ [(f, j)]) := by
          have e1 : j + 1 - k0 = (j - k0) + 1 := by omega
          have e2 := secs_take f a n (j - k0) (by rw [HC.out.2.2]; omega)
          rw [HC.out.2.1, show k0 + (j - k0) = j by omega] at e2
          unfold Hid
          rw [e1, e2, addQ_snoc, addS, if_neg hin]
        have HK := Lib.hid hkl
        have HP := Lib.hid hp1
        clear h1 hkl hin hp1
        go_wp2_with fail
        go_quiet (fail)
        clear hlook c2 c3
        have hg2 : wr.grownBy ((wr.alloc (.cells #[.int .i64 f, .int .i64 (j : Int)] 76)).drewN nq) none := hwr.trans (grown_drewN _ _)
        have hB : ((wr.alloc (.cells #[.int .i64 f, .int .i64 (j : Int)] 76)).drewN nq).heap[wr.heap.size]? = some (.cells #[.int .i64 f, .int .i64 (j : Int)] 76 (0, 0)) := (MapKept.heap_alloc wr _).1
        generalize (wr.alloc (.cells #[.int .i64 f, .int .i64 (j : Int)] 76)).drewN nq = w2 at *
        have h2 := H1.out.grown hg2
        have H2 := Lib.hid h2
        have HWF : Hid (WF (withQ (withQ st (addQ st.q ((secs f a n).take (j - k0)))) ((withQ st (addQ st.q ((secs f a n).take (j - k0)))).q ++ [(f, j)]))) := by
          have := secs_wf HW0.out HF.out hn HB.out (j + 1 - k0)
          rw [HE.out] at this
          exact this
        obtain ⟨i0, hi, hz0, hz1, hz2⟩ := info_parts infoS
        have hq := h2.wf.qlen
        have hown : Own w2 76 2 p1.pv _ _ := h2.holds .pv
        obtain ⟨pa, pc, hpv, hpc, hpm⟩ := hown.shape
        obtain ⟨c0, c1, c2, c3, c4, c5, c6, c7⟩ := h2.cell
        have f2 := h2.froz 2
        rw [HP.out] at c2 c3 f2
        have hne : blk p1.pv ≠ some r := fun e => by have := h2.inj .pv .r r e (by rw [← HP.out]; rfl); cases this
        rw [hpv] at c2 hown hne
        obtain ⟨ql, hql⟩ : ∃ ql, (withQ st (addQ st.q ((secs f a n).take (j - k0)))).q.length = ql := ⟨_, rfl⟩
        obtain ⟨qc, hqc⟩ : ∃ qc, cellsQ (withQ st (addQ st.q ((secs f a n).take (j - k0)))).q = qc := ⟨_, rfl⟩
        rw [hql] at hown hq hpc c2 hne
        rw [hqc] at hown
        have hlk2 : r < w2.heap.size := Nat.lt_of_lt_of_le hlk hg2.size
        have hB0 : w2.cell? ⟨wr.heap.size, 0, none⟩ = some (.int .i64 f) := by simp [World.cell?, hB]
        have hB1 : w2.cell? ⟨wr.heap.size, 1, none⟩ = some (.int .i64 (j : Int)) := by simp [World.cell?, hB]
        have hBl : wr.heap.size < w2.heap.size := (Array.getElem?_eq_some_iff.1 hB).1
        have HQL := Lib.hid hql
        have HQC := Lib.hid hqc
        have HPV := Lib.hid hpv
        have HOW := Lib.hid hown
        have HBB := Lib.hid hB
        have HG2 := Lib.hid hg2
        have hsrc : Src Tryz.prog 2 58 (.slice (some ⟨w2.heap.size, 0, none⟩) 1 1) 1 [.int .i64 f, .int .i64 (j : Int)] (w2.drew.alloc (.cells #[.int .i64 f, .int .i64 (j : Int)] 76)) :=
          Src.ofSlice _ Tryz.underlying58 _ 1 1 _ (by simp) (World.news_of_block (cs := #[.int .i64 f, .int .i64 (j : Int)]) (t := 76) (fr := (0, 0)) (heap_alloc_new w2.drew _)) (by simp [Value.oneCell'])
        have HSR := Lib.hid hsrc
        clear h2 c0 c1 c4 c5 c6 c7 hql hqc hpv hown hB hg2 hwr hsrc
        go_wp2_with fail
        go_region_law ((refine step_own_append (by rfl) _ _ _ _ (by rfl) Tryz.underlying58 hi hz0 hz1 hz2 rfl (by rfl) ((HOW.out.kept (w' := w2.drew) (fun _ _ => rfl)).grown (World.grownBy_alloc _ (.cells #[.int .i64 f, .int .i64 (j : Int)] 76) none) (by cases blk (.slice pa ql pc) <;> simp)) _ (by rfl) HSR.out (by unfold maxLen; omega) (by omega) ?_; intro a' c' w3 hown3 hgr3 hbl3; have hall : w2.grownBy w3 (blk (.slice pa ql pc)) := ((grown_drew w2).but _).trans ((World.grownBy_alloc _ _ _).trans hgr3); have hc3 := (hall.cell_far ⟨r, 2, none⟩ hlk2 (Ne.symm hne)).trans c2; have hf3 := (hall.frozen_far ⟨r, 2, none⟩ hlk2 (Ne.symm hne)).trans f2))
        all_goals
          obtain ⟨hc4, hoth, w5, hrun5, hd5, hb5, hc5, hoth5⟩ := list_mid (s := (f, j)) (a' := a') (c' := c') H2.out HK.out HWF.out (by rw [HPV.out, HQL.out]; exact hall) (by rw [HQL.out, HQC.out]; exact hown3) (by rw [HPV.out, HQL.out]; exact hbl3.imp id (fun h => h.imp id (fun h => ⟨_, h, by simp⟩)))
          rw [HP.out, HQL.out] at hc4 hoth hrun5
          have HOT5 := Lib.hid hoth5
          have HD5 := Lib.hid hd5
          have HB5 := Lib.hid hb5
          have hBn : ∀ s, p1.at s ≠ some wr.heap.size := fun s e => by have := H1.out.lt e; omega
          have hB4 := (hoth _ hBl hBn).trans HBB.out
          clear hoth hoth5 hd5 hb5 hc3 hf3 hall hown3 hgr3 hbl3 hc5 hB0 hB1 c2 c3
          generalize w3.setCell ⟨r, 2, none⟩ (.slice a' (ql + 1) c') = w4 at *
          have hB0 : w4.cell? ⟨wr.heap.size, 0, none⟩ = some (.int .i64 f) := by simp [World.cell?, hB4]
          have hB1 : w4.cell? ⟨wr.heap.size, 1, none⟩ = some (.int .i64 (j : Int)) := by simp [World.cell?, hB4]
          clear hB4 hBn
          go_wp2_with fail
          go_region
          go_wp2_with fail
          go_roundw
          case rel =>
            refine ⟨j + 1, by omega, by omega, by go_num, ?_⟩
            rw [HE.out]
            exact (HA.out.grown HG2.out).then (by exact HP.out) (HD5.out.mono (fun b hb => hb.imp (fun hb => hb.imp id (fun h => ⟨h.1, by have := HG2.out.size; omega⟩)) id)) (HB5.out.mono fun b hb => hb.imp id (fun h => ⟨h.1, by have := HG2.out.size; omega⟩))
          case measure => simp [RowKit.intOf]; omega
    · have hje : j = k0 + C := by omega
      have hs64 : ¬ 64 * j < a + n := by have := HC.out; omega
      have HJ := Lib.hid hje
      clear hje
      go_wp2_with fail
      go_end0
      refine ⟨rfl, ?_⟩
      have := HA.out
      have e : (secs f a n).take (j - k0) = secs f a n := List.take_of_length_le (by unfold secs; rw [List.length_map, List.length_range, HC.out.2.2, HJ.out]; omega)
      rw [e] at this
      exact this
end Go.Proofs.YtejddacjncpneaaGreatDoor.Di
