/- The contracts of the small functions of package disk and of the library's clones. -/
import Derived.WalkKit
import Derived.WalkSmall
import Derived.Laws.Cover3
import Derived.Shelf.SlMaps.Clone
import Derived.Lib.Hide
import Derived.OwnWalk
import Derived.Deep.QuietTactic
import Derived.BigQuiet
import Derived.Maps.OwnOps
import Derived.Test.YtkphmkhdlkdphaaProg
import Derived.Test.YtkphmkhdlkdphaaP
import Derived.Test.YtkphmkhdlkdphaaM
import Derived.Test.YtkphmkhdlkdphaaS
namespace Go.Proofs.Ytkphmkhdlkdphaa
open Go.RowKit

theorem infoB : (Try.prog.info? 5).map (fun i => (i.zero, i.size, i.bytes)) = some (some (.int .u8 0), 1, 1) := by kernel_rfl
theorem infoI : (Try.prog.info? 3).map (fun i => (i.zero, i.size, i.bytes)) = some (some (.int .i64 0), 1, 8) := by kernel_rfl
theorem infoS : (Try.prog.info? 69).map (fun i => (i.zero, i.size, i.bytes)) = some (some (.agg #[.int .i64 0, .int .i64 0]), 2, 16) := by kernel_rfl
theorem zero62 (w : World) : (zeroValue 62).run Try.prog w = .ok (.slice none 0 0) w := by kernel_rfl
theorem zero4 (w : World) : (zeroValue 4).run Try.prog w = .ok (.bool false) w := by kernel_rfl

theorem isFile_t (f : Int) (h : isF f = true) (w : World) : Calls Try.prog 45 #[.int .i64 f] w fun e w' => e = .returned (.bool true) ∧ w = w' := by
  obtain ⟨h1, h2⟩ := isF_t.1 h
  clear h
  go_enter Try.func45, Try.ntmps45
  go_wp2
  go_ret
  exact ⟨rfl, rfl⟩
theorem isFile_f (f : Int) (h : isF f = false) (w : World) : Calls Try.prog 45 #[.int .i64 f] w fun e w' => e = .returned (.bool false) ∧ w = w' := by
  rcases isF_f.1 h with h1 | h1
  · clear h
    have hd : decide (0 ≤ f) = false := by simp; omega
    go_enter Try.func45, Try.ntmps45
    go_wp2
    go_ret
    exact ⟨rfl, rfl⟩
  · clear h
    have h0 : 0 ≤ f := by omega
    have hd : decide (f < 16) = false := by simp; omega
    go_enter Try.func45, Try.ntmps45
    go_wp2
    go_ret
    exact ⟨rfl, rfl⟩

/-- The slice v reads as the ints ks. -/
def Ints (w : World) (v : Value) (ks : List Int) : Prop :=
  ∃ a cap, v = .slice a ks.length cap ∧ ks.length ≤ cap ∧ (ks = [] ∨ ∃ b o, a = some ⟨b, o, none⟩ ∧ ∀ i (h : i < ks.length), w.cell? ⟨b, o + i, none⟩ = some (.int .i64 ks[i]))
/-- The block that is read. -/
def Ints.off (v : Value) (b : Nat) : Prop := ∃ o n c, v = .slice (some ⟨b, o, none⟩) (n + 1) c

theorem survives_nil (a : Option Addr) (c : Nat) (i : Nat) (w : World) : Calls Try.prog 48 #[.int .i64 i, .slice a 0 c] w fun e w' => e = .returned (.bool (surv i [])) ∧ w = w' := by
  go_enter Try.func48, Try.ntmps48
  go_wp2
  go_ret
  exact ⟨rfl, rfl⟩
theorem survives_any (b o : Nat) (ks : List Int) (c : Nat) (i : Nat) (hi : i ≤ 1000000000) (hk : ks.length ≤ 1000000000) (h0 : 0 < ks.length) (w : World)
    (hr : ∀ x ∈ ks, -9223372036854775808 ≤ x ∧ x ≤ 9223372036854775807)
    (h : ∀ i (h : i < ks.length), w.cell? ⟨b, o + i, none⟩ = some (.int .i64 ks[i])) : Calls Try.prog 48 #[.int .i64 i, .slice (some ⟨b, o, none⟩) ks.length c] w fun e w' => e = .returned (.bool (surv i ks)) ∧ w = w' := by
  have hm : i % ks.length < ks.length := Nat.mod_lt _ h0
  have hc := h _ hm
  have hx := hr _ (List.getElem_mem hm)
  have hs : surv i ks = !decide ((ks[i % ks.length]).tmod 2 = 0) := by
    unfold surv
    rw [List.getD_eq_getElem?_getD, List.getElem?_eq_getElem hm]
    simp [h0]
  obtain ⟨y, hy⟩ : ∃ y, ks[i % ks.length] = y := ⟨_, rfl⟩
  rw [hy] at hc hx hs
  have HS := Lib.hid hs
  clear h hr hs hy
  obtain ⟨n, hn⟩ : ∃ n, ks.length = n := ⟨_, rfl⟩
  rw [hn] at hk h0 hm hc ⊢
  clear hn
  go_enter Try.func48, Try.ntmps48
  go_wp2
  go_ret
  rw [HS.out]
  exact ⟨rfl, rfl⟩

theorem eqNilS {P : Program} (t e : TypeId) (a : Option Addr) (l c : Nat) (h : P.underlying t = some (.slice e)) (w : World) : (binOp .eql t (.slice a l c) (.slice none 0 0)).run P w = .ok (.bool a.isNone) w := by
  simp only [binOp]
  simp [run_equal_slice_nil w t e a l c h]

theorem clone58 (a : Option Addr) (n c : Nat) (xs : List Value) (w : World) (hn : n ≤ 1000000000) (ha : a = none → n = 0) (hs : Src Try.prog 1 62 (.slice a n c) n xs (w.alloc (.cells #[] 5))) :
    Calls Try.prog 58 #[.slice a n c] w fun e w' => ∃ v', e = .returned v' ∧ Own w' 5 1 v' n xs ∧ w.grownBy w' none ∧ ∀ g, blk v' = some g → w.heap.size ≤ g := by
  obtain ⟨i0, hi, hz0, hz1, hz2⟩ := info_parts infoB
  cases a with
  | none =>
    obtain rfl := ha rfl
    obtain rfl : xs = [] := List.eq_nil_of_length_eq_zero (by simpa using hs.newsLen)
    clear hs ha
    have hq := eqNilS (P := Try.prog) 62 5 none 0 c Try.underlying62
    go_enter Try.func58, Try.ntmps58
    go_wp2
    go_ret
    exact ⟨_, rfl, Own.nil _ _ _, ⟨rfl, rfl, rfl, Nat.le_refl _, fun _ _ _ => rfl⟩, fun g hg => by cases hg⟩
  | some a =>
    clear ha
    have hown : Own (w.alloc (.cells #[] 5)) 5 1 (.slice (some ⟨w.heap.size, 0, none⟩) 0 0) 0 [] := ⟨by simp, .inl ⟨_, rfl, rfl⟩⟩
    obtain ⟨v', w', hrun, hown', hgr, hbl⟩ := own_append (P := Try.prog) (t := 62) (tx := 62) (ty := 62) Try.underlying62 hi hz0 hz1 hz2 rfl hown hs (by unfold maxLen; omega) (by omega)
    simp only [Nat.zero_add, List.nil_append] at hown'
    have hfin : w.grownBy w' none ∧ ∀ g, blk v' = some g → w.heap.size ≤ g := by
      refine ⟨(World.grownBy_alloc w _ none).trans hgr, fun g hg => ?_⟩
      rcases hbl with h | h | h
      · rw [h] at hg; cases hg
      · rw [h] at hg; cases hg
      · rw [h] at hg; cases hg; simp
    have HF := Lib.hid hfin
    have HO := Lib.hid hown'
    clear hs hown hown' hgr hbl hfin
    have hq := eqNilS (P := Try.prog) 62 5 (some a) n c Try.underlying62
    go_enter Try.func58, Try.ntmps58
    go_wp2_with (at_builtin; refine Lib.wpList_append_run _ rfl _ _ _ _ rfl _ _ rfl rfl _ _ hrun ?_)
    go_ret
    exact ⟨_, rfl, HO.out, HF.out⟩

theorem clone43 (a : Option Addr) (n c : Nat) (xs : List Value) (w : World) (hn : n ≤ 1000000000) (ha : a = none → n = 0) (hs : Src Try.prog 1 31 (.slice a n c) n xs (w.alloc (.cells #[] 3))) :
    Calls Try.prog 43 #[.slice a n c] w fun e w' => ∃ v', e = .returned v' ∧ Own w' 3 1 v' n xs ∧ w.grownBy w' none ∧ ∀ g, blk v' = some g → w.heap.size ≤ g := by
  obtain ⟨i0, hi, hz0, hz1, hz2⟩ := info_parts infoI
  cases a with
  | none =>
    obtain rfl := ha rfl
    obtain rfl : xs = [] := List.eq_nil_of_length_eq_zero (by simpa using hs.newsLen)
    clear hs ha
    have hq := eqNilS (P := Try.prog) 31 3 none 0 c Try.underlying31
    go_enter Try.func43, Try.ntmps43
    go_wp2
    go_ret
    exact ⟨_, rfl, Own.nil _ _ _, ⟨rfl, rfl, rfl, Nat.le_refl _, fun _ _ _ => rfl⟩, fun g hg => by cases hg⟩
  | some a =>
    clear ha
    have hown : Own (w.alloc (.cells #[] 3)) 3 1 (.slice (some ⟨w.heap.size, 0, none⟩) 0 0) 0 [] := ⟨by simp, .inl ⟨_, rfl, rfl⟩⟩
    obtain ⟨v', w', hrun, hown', hgr, hbl⟩ := own_append (P := Try.prog) (t := 31) (tx := 31) (ty := 31) Try.underlying31 hi hz0 hz1 hz2 rfl hown hs (by unfold maxLen; omega) (by omega)
    simp only [Nat.zero_add, List.nil_append] at hown'
    have hfin : w.grownBy w' none ∧ ∀ g, blk v' = some g → w.heap.size ≤ g := by
      refine ⟨(World.grownBy_alloc w _ none).trans hgr, fun g hg => ?_⟩
      rcases hbl with h | h | h
      · rw [h] at hg; cases hg
      · rw [h] at hg; cases hg
      · rw [h] at hg; cases hg; simp
    have HF := Lib.hid hfin
    have HO := Lib.hid hown'
    clear hs hown hown' hgr hbl hfin
    have hq := eqNilS (P := Try.prog) 31 3 (some a) n c Try.underlying31
    go_enter Try.func43, Try.ntmps43
    go_wp2_with (at_builtin; refine Lib.wpList_append_run _ rfl _ _ _ _ rfl _ _ rfl rfl _ _ hrun ?_)
    go_ret
    exact ⟨_, rfl, HO.out, HF.out⟩

theorem clone41 (a : Option Addr) (n c : Nat) (xs : List Value) (w : World) (hn : n ≤ 1000000000) (ha : a = none → n = 0) (hs : Src Try.prog 2 54 (.slice a n c) n xs (w.alloc (.cells #[] 69))) :
    Calls Try.prog 41 #[.slice a n c] w fun e w' => ∃ v', e = .returned v' ∧ Own w' 69 2 v' n xs ∧ w.grownBy w' none ∧ ∀ g, blk v' = some g → w.heap.size ≤ g := by
  obtain ⟨i0, hi, hz0, hz1, hz2⟩ := info_parts infoS
  cases a with
  | none =>
    obtain rfl := ha rfl
    obtain rfl : xs = [] := List.eq_nil_of_length_eq_zero (by simpa using hs.newsLen)
    clear hs ha
    have hq := eqNilS (P := Try.prog) 54 69 none 0 c Try.underlying54
    go_enter Try.func41, Try.ntmps41
    go_wp2
    go_ret
    exact ⟨_, rfl, Own.nil _ _ _, ⟨rfl, rfl, rfl, Nat.le_refl _, fun _ _ _ => rfl⟩, fun g hg => by cases hg⟩
  | some a =>
    clear ha
    have hown : Own (w.alloc (.cells #[] 69)) 69 2 (.slice (some ⟨w.heap.size, 0, none⟩) 0 0) 0 [] := ⟨by simp, .inl ⟨_, rfl, rfl⟩⟩
    obtain ⟨v', w', hrun, hown', hgr, hbl⟩ := own_append (P := Try.prog) (t := 54) (tx := 54) (ty := 54) Try.underlying54 hi hz0 hz1 hz2 rfl hown hs (by unfold maxLen; omega) (by omega)
    simp only [Nat.zero_add, List.nil_append] at hown'
    have hfin : w.grownBy w' none ∧ ∀ g, blk v' = some g → w.heap.size ≤ g := by
      refine ⟨(World.grownBy_alloc w _ none).trans hgr, fun g hg => ?_⟩
      rcases hbl with h | h | h
      · rw [h] at hg; cases hg
      · rw [h] at hg; cases hg
      · rw [h] at hg; cases hg; simp
    have HF := Lib.hid hfin
    have HO := Lib.hid hown'
    clear hs hown hown' hgr hbl hfin
    have hq := eqNilS (P := Try.prog) 54 69 (some a) n c Try.underlying54
    go_enter Try.func41, Try.ntmps41
    go_wp2_with (at_builtin; refine Lib.wpList_append_run _ rfl _ _ _ _ rfl _ _ rfl rfl _ _ hrun ?_)
    go_ret
    exact ⟨_, rfl, HO.out, HF.out⟩

theorem mclone42 (b : Nat) (es : Array MapEntry) (clock : Nat) (w : World) (hb : w.heap[b]? = some (.map es clock)) :
    Calls Try.prog 42 #[.map (some b)] w fun e w' => e = .returned (.map (some w.heap.size)) ∧ w' = w.alloc (.map es clock) := by
  have hq := fun w => run_eql_map_nil_sl (P := Try.prog) w 53 _ _ (some b) Try.underlying53
  go_enter Try.func42, Try.ntmps42
  go_wp2
  rw [run_callFunc_extern Try.func59 (by kernel_rfl) (by kernel_rfl) (by kernel_rfl) (e := Extern.MapsClone.clone) (by kernel_rfl), run_maps_clone_sl w 53 hb]
  simp only [Result.andThen]
  rw [Oper.upon_value]
  go_wp2
  rw [run_typeAssert_map_sl _ 53 20 _ _ _ Try.underlying53]
  simp only [Result.andThen]
  rw [Oper.upon_value]
  go_wp2
  go_ret
  exact ⟨rfl, rfl⟩
end Go.Proofs.Ytkphmkhdlkdphaa
