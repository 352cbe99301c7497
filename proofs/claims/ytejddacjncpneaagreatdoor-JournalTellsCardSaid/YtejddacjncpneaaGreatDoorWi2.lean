/- The contracts of the writers of package wire. The contracts of the readers of package wire. The contracts of the readers of strings and of lists. The contracts of the methods Rest, Left and Done of the reader. What is read and held by a reader and by lists of strings: lemmas. -/
import Derived.WalkKit
import Derived.Lib.LaidTab
import Derived.Lib.ItoaLen
import Derived.Lib.AppendIntMem
import Derived.WalkSmall
import Derived.Test.YtejddacjncpneaaGreatDoorShelf
import Derived.Test.YtejddacjncpneaaGreatDoorWi1
import Derived.Outline
import Derived.Lib.SmallJoins
import Derived.Deep.LoopGhost
import Derived.Deep.QuietTactic
import Derived.BigQuiet
import Derived.Deep.RegionWith
import Derived.StillTailTactics
set_option maxRecDepth 100000
namespace Go.Proofs.YtejddacjncpneaaGreatDoor.Wi
open Go.RowKit Go.Sort Go.Lib

theorem gPow : Tryz.prog.globalNamed "internal/strconv.uint64pow10" = some 0 := by kernel_rfl

/-- What the calls of the library read of the package-level variables. -/
structure Env (w : World) : Prop where
  tab : Lib.TabIs Tryz.prog w "internal/strconv.uint64pow10" .u64 Lib.pow10Tab
  maxLen : ∃ m : Int, w.cell? ⟨1, 0, none⟩ = some (.int .i64 m)
  syn : ∃ t p, w.cell? ⟨2, 0, none⟩ = some (.iface t p)
  ran : ∃ t p, w.cell? ⟨3, 0, none⟩ = some (.iface t p)
  size : 6 ≤ w.heap.size

/-- What is the same in w' as in w: all that lay there but the blocks of S. -/
structure But (S : Nat → Prop) (w w' : World) : Prop where
  os : w'.os = w.os
  tape : w'.tape = w.tape
  output : w'.output = w.output
  size : w.heap.size ≤ w'.heap.size
  block : ∀ k, k < w.heap.size → ¬ S k → w'.heap[k]? = w.heap[k]?

theorem Env.below {w w' : World} {B : Nat} (he : Env w) (h : RowKit.Below B w w') (hB : 6 ≤ B) : Env w' := by
  obtain ⟨t, ⟨m, hm⟩, ⟨a, b, hs⟩, ⟨c, d, hr⟩, hz⟩ := he
  refine ⟨?_, ⟨m, by rw [h.cell (by simp; omega)]; exact hm⟩, ⟨a, b, by rw [h.cell (by simp; omega)]; exact hs⟩, ⟨c, d, by rw [h.cell (by simp; omega)]; exact hr⟩, Nat.le_trans hz h.size⟩
  exact var?_below h gPow (by omega) t

theorem int_any (n : Int) (h0 : -9223372036854775808 ≤ n) (h1 : n ≤ 9223372036854775807) (w : World) (he : Env w) :
    Calls Tryz.prog 83 #[.int .i64 n] w fun e w' => e = .returned (.string ⟨(encInt n).toArray⟩) ∧ RowKit.Below w.heap.size w w' := by
  have ht := Lib.hid he.tab
  have hl := Lib.itoa_length_le n h0 h1
  clear he
  go_enter Tryz.func83, Tryz.ntmps83
  go_wp2_with (go_at_call 82; refine (Tryz.strconv_Itoa n h0 h1 _ ht.out).mono ?_; rintro e w' ⟨rfl, k, os, rfl⟩)
  go_ret
  exact ⟨by simp [encInt, ba_app], Lib.below_grow _ _ (Nat.le_refl _) _ _⟩

theorem num_neg (n : Int) (h0 : n < 0) (w : World) :
    Calls Tryz.prog 69 #[.int .i64 n] w fun e w' => e = .returned (.string ⟨#[]⟩) ∧ w = w' := by
  go_enter Tryz.func69, Tryz.ntmps69
  go_wp2
  go_ret
  exact ⟨rfl, rfl⟩

theorem num_any (n : Int) (h0 : 0 ≤ n) (h1 : n ≤ 9223372036854775807) (w : World) (he : Env w) :
    Calls Tryz.prog 69 #[.int .i64 n] w fun e w' => e = .returned (.string ⟨(encInt n).toArray⟩) ∧ RowKit.Below w.heap.size w w' := by
  go_enter Tryz.func69, Tryz.ntmps69
  go_wp2_with (go_at_call 83; refine (int_any n (by omega) h1 _ he).mono ?_; rintro e w' ⟨rfl, hb⟩)
  go_ret
  exact ⟨rfl, hb⟩

theorem text_any (s : ByteArray) (h1 : s.size ≤ 1000000) (w : World) (he : Env w) :
    Calls Tryz.prog 68 #[.string s] w fun e w' => e = .returned (.string ⟨(encText s.data.toList).toArray⟩) ∧ RowKit.Below w.heap.size w w' := by
  have ht := Lib.hid he.tab
  have hl := Lib.itoa_length_le s.size (by omega) (by omega)
  clear he
  go_enter Tryz.func68, Tryz.ntmps68
  go_wp2_with (go_at_call 82; refine (Tryz.strconv_Itoa s.size (by omega) (by omega) _ ht.out).mono ?_; rintro e w' ⟨rfl, k, os, rfl⟩)
  go_ret
  exact ⟨by simp [encText, ba_app], Lib.below_grow _ _ (Nat.le_refl _) _ _⟩
end Go.Proofs.YtejddacjncpneaaGreatDoor.Wi

namespace Go.Proofs.YtejddacjncpneaaGreatDoor.Wi
open Go.RowKit Go.Sort

/-- Block b is a reader. -/
def IsR (b : Nat) (s : List UInt8) (bad : Bool) (w : World) : Prop :=
  w.heap[b]? = some (.cells #[.string ⟨s.toArray⟩, .bool bad] 106 (0, 0))
theorem IsR.c0 {b : Nat} {s : List UInt8} {bad : Bool} {w : World} (h : IsR b s bad w) : w.cell? ⟨b, 0, none⟩ = some (.string ⟨s.toArray⟩) := by simp [World.cell?, show w.heap[b]? = _ from h]
theorem IsR.c1 {b : Nat} {s : List UInt8} {bad : Bool} {w : World} (h : IsR b s bad w) : w.cell? ⟨b, 1, none⟩ = some (.bool bad) := by simp [World.cell?, show w.heap[b]? = _ from h]
theorem IsR.f0 {b : Nat} {s : List UInt8} {bad : Bool} {w : World} (h : IsR b s bad w) (o : Nat) : w.frozen? ⟨b, o, none⟩ = false := by simp [World.frozen?, show w.heap[b]? = _ from h]

theorem open_any (s : ByteArray) (w : World) :
    Calls Tryz.prog 57 #[.string s] w fun e w' => e = .returned (.pointer (some ⟨w.heap.size, 0, none⟩)) ∧ w' = w.alloc (.cells #[.string s, .bool false] 106) := by
  go_enter Tryz.func57, Tryz.ntmps57
  go_wp2
  go_ret
  exact ⟨rfl, rfl⟩


/-- What a call that may write to block b alone leaves of the world. -/
theorem on_trans {b : Nat} {a c d : World} (h : a.grownBy c (some b)) (k : c.grownBy d (some b)) : a.grownBy d (some b) :=
  ⟨k.os.trans h.os, k.tape.trans h.tape, k.output.trans h.output, Nat.le_trans h.size k.size, fun i hi hne => (k.block i (Nat.lt_of_lt_of_le hi h.size) hne).trans (h.block i hi hne)⟩
theorem on_set {b : Nat} {a c : World} (h : a.grownBy c (some b)) (o : Nat) (v : Value) : a.grownBy (c.setCell ⟨b, o, none⟩ v) (some b) :=
  on_trans h ⟨rfl, rfl, rfl, by simp [World.setCell], fun k _ hk => Below.heap_setCell _ _ _ _ (fun e => hk (by simp [e]))⟩
theorem on_refl (b : Nat) (w : World) : w.grownBy w (some b) := ⟨rfl, rfl, rfl, Nat.le_refl _, fun _ _ _ => rfl⟩
theorem on_below {b : Nat} {w w' : World} (h : RowKit.Below w.heap.size w w') : w.grownBy w' (some b) := ⟨h.os, h.tape, h.output, h.size, fun k hk _ => h.block k hk⟩

theorem IsR.set0 {b : Nat} {s : List UInt8} {bad : Bool} {w : World} (h : IsR b s bad w) (t : ByteArray) : IsR b t.data.toList bad (w.setCell ⟨b, 0, none⟩ (.string t)) := by
  unfold IsR at *; simp [World.setCell, Array.getElem?_modify, h]
theorem IsR.set1 {b : Nat} {s : List UInt8} {bad : Bool} {w : World} (h : IsR b s bad w) (t : Bool) : IsR b s t (w.setCell ⟨b, 1, none⟩ (.bool t)) := by
  unfold IsR at *; simp [World.setCell, Array.getElem?_modify, h]
theorem ext_drop (s : List UInt8) (k : Nat) : ((⟨s.toArray⟩ : ByteArray).extract k s.length) = ⟨(s.drop k).toArray⟩ := by
  apply ByteArray.ext; simp [ByteArray.data_extract, List.take_of_length_le]
theorem IsR.drop {b : Nat} {s : List UInt8} {bad : Bool} {w : World} (h : IsR b s bad w) (k : Nat) : IsR b (s.drop k) bad (w.setCell ⟨b, 0, none⟩ (.string ((⟨s.toArray⟩ : ByteArray).extract k s.length))) := by
  rw [ext_drop]; exact h.set0 ⟨(s.drop k).toArray⟩
theorem IsR.lt {b : Nat} {s : List UInt8} {bad : Bool} {w : World} (h : IsR b s bad w) : b < w.heap.size := by
  rcases Nat.lt_or_ge b w.heap.size with h' | h'
  · exact h'
  · simp [IsR, Array.getElem?_eq_none h'] at h
theorem IsR.later {b : Nat} {s : List UInt8} {bad : Bool} {w w' : World} (h : IsR b s bad w) (hb : RowKit.Below w.heap.size w w') : IsR b s bad w' := by
  unfold IsR; rw [hb.block b h.lt]; exact h

theorem fail_any (b : Nat) (s : List UInt8) (bad : Bool) (w : World) (h : IsR b s bad w) :
    Calls Tryz.prog 78 #[.pointer (some ⟨b, 0, none⟩)] w fun e w' => e = .returned (.tuple #[]) ∧ w.grownBy w' (some b) ∧ IsR b [] true w' := by
  have c0 := h.c0
  have c1 := h.c1
  have f0 := h.f0 0
  have f1 := h.f0 1
  have H := Lib.hid h
  clear h
  go_enter Tryz.func78, Tryz.ntmps78
  go_wp2
  go_end0
  exact ⟨rfl, on_set (on_set (on_refl _ _) _ _) _ _, (H.out.set0 ⟨#[]⟩).set1 true⟩

/-- How a call on the reader in block b ends: it has read a value, and what follows is left, or it has failed. -/
def Reads {α : Type} (b : Nat) (p : Option (α × List UInt8)) (bad : Bool) (z : Value) (f : α → Value) (w : World) (e : Ending) (w' : World) : Prop :=
  w.grownBy w' (some b) ∧ match p with
    | some (v, r) => e = .returned (f v) ∧ IsR b r bad w'
    | none => e = .returned z ∧ IsR b [] true w'


theorem below_bytes (w : World) (t : ByteArray) : RowKit.Below w.heap.size w (Lib.bytesWorld w 5 t) := Lib.bytesWorld_below _ _ _
theorem atoi_ok (s : ByteArray) (hs : s.size ≤ 100) (v : Int) (h : Lib.atoiAll s.data.toList = .ok v) (w : World) :
    Calls Tryz.prog 91 #[.string s] w fun e w' => e = .returned (.tuple #[.int .i64 v, .nilIface]) ∧ RowKit.Below w.heap.size w w' := by
  refine (Tryz.strconv_Atoi_ok s (by omega) v h w).mono ?_
  rintro e w' ⟨rfl, rfl | ⟨t, rfl⟩⟩
  · exact ⟨rfl, Below.refl _ _⟩
  · exact ⟨rfl, below_bytes _ _⟩
def AtoiBad (w : World) (e : Ending) (w' : World) : Prop := ∃ N n, e = .returned (.tuple #[.int .i64 n, .iface 130 (.pointer (some ⟨N, 0, none⟩))]) ∧ RowKit.Below w.heap.size w w'
theorem atoi_bad (s : ByteArray) (hs : s.size ≤ 100) (h : ∀ v, Lib.atoiAll s.data.toList ≠ .ok v) (w : World) (he : Env w) :
    Calls Tryz.prog 91 #[.string s] w (AtoiBad w) := by
  obtain ⟨t, p, h2⟩ := he.syn
  obtain ⟨t', p', h3⟩ := he.ran
  rcases hm : Lib.atoiAll s.data.toList with v | _ | _
  · exact absurd hm (h v)
  · refine (Any.strconv_Atoi_syntax Tryz.laysC172 s (by omega) hm _ w h2 (.inr ⟨t, p, rfl⟩)).mono ?_
    rintro e w' ⟨N, rfl, _, _, hb⟩
    exact ⟨N, _, rfl, hb⟩
  · refine (Any.strconv_Atoi_range Tryz.laysC172 s (by omega) hm _ w h3 (.inr ⟨t', p', rfl⟩)).mono ?_
    rintro e w' ⟨N, rfl, _, _, hb⟩
    exact ⟨N, _, rfl, hb⟩
theorem itoa_any (n : Int) (h0 : -9223372036854775808 ≤ n) (h1 : n ≤ 9223372036854775807) (w : World) (he : Env w) :
    Calls Tryz.prog 82 #[.int .i64 n] w fun e w' => e = .returned (.string ⟨(Lib.itoa n).toArray⟩) ∧ RowKit.Below w.heap.size w w' := by
  refine (Tryz.strconv_Itoa n h0 h1 _ he.tab).mono ?_
  rintro e w' ⟨rfl, k, os, rfl⟩
  exact ⟨rfl, Lib.below_grow _ _ (Nat.le_refl _) _ _⟩
set_option maxRecDepth 100000 in
set_option maxHeartbeats 2000000 in
theorem integer_any (b : Nat) (c : UInt8) (s : List UInt8) (bad : Bool) (hs : s.length ≤ 100000000) (w : World) (h : IsR b s bad w) (he : Env w) :
    Calls Tryz.prog 87 #[.pointer (some ⟨b, 0, none⟩), .string ⟨#[c]⟩] w (Reads b (pInt c s) bad (.int .i64 0) (.int .i64) w) := by
  have c0 := h.c0
  have f0 := h.f0 0
  have H := Lib.hid h
  have HE := Lib.hid he
  obtain ⟨m, hm⟩ := he.maxLen
  obtain ⟨d, r1, fnd, hcut⟩ : ∃ d r1 fnd, Lib.cut (List.take (min 21 (s.length : Int)).toNat s) [c] = (d, r1, fnd) := ⟨_, _, _, rfl⟩
  have hmin : (min 21 (s.length : Int)).toNat = min 21 s.length := by omega
  have hcut2 : Lib.cut (s.take 21) [c] = (d, r1, fnd) := by
    rw [← hcut, hmin]; congr 1
    rw [← List.take_take, List.take_length]
  have hcl := cut_len c _ d r1 fnd hcut2
  rw [List.length_take] at hcl
  have hdl : d.length ≤ 21 := by omega
  have hdr : fnd = true → d.length + 1 ≤ s.length := fun hf => by have := hcl.2 hf; omega
  have HC := Lib.hid hcut2
  clear hcut2 hcl hmin
  clear h he
  have hlim : ByteArray.size (({ data := s.toArray } : ByteArray).extract 0 (min 21 (s.length : Int)).toNat) < 4294967281 := by
    simp [ByteArray.size]; omega
  by_cases hat : ∃ v, Lib.atoiAll d = .ok v
  · obtain ⟨v, hv⟩ := hat
    have HV := Lib.hid hv
    have hvb := atoi_bd d v hv
    clear hv
    cases fnd
    · have HP : Hid (pInt c s = none) := by rw [pInt_eq HC.out]; rfl
      go_enter Tryz.func87, Tryz.ntmps87
      go_wp2_with fail
      go_quiet ((go_at_call 90; exact Calls.quiet_of (Tryz.strings_Cut _ _ m _ hlim hm)))
      go_wp2_with fail
      refine (atoi_ok ⟨d.toArray⟩ (Nat.le_trans hdl (by omega)) v HV.out _).mono ?_
      rintro e w1 ⟨rfl, hb1⟩
      have hb2 := (below_drewN (Below.refl w.heap.size w) nq).trans hb1
      clear hb1
      have c1 := (H.out.later hb2).c0
      have f1 := (H.out.later hb2).f0 0
      go_wp2_with fail
      refine (fail_any b s bad _ (H.out.later hb2)).mono ?_
      rintro e w2 ⟨rfl, hon, hr⟩
      go_wp2_with fail
      go_ret
      refine ⟨on_trans (on_below hb2) hon, ?_⟩
      rw [HP.out]
      exact ⟨rfl, hr⟩
    · have hd := hdr rfl
      by_cases hi : Lib.itoa v = d
      · have HP : Hid (pInt c s = some (v, s.drop (d.length + 1))) := by unfold Hid; rw [pInt_eq HC.out, HV.out]; simp [hi]
        have HI := Lib.hid hi
        clear hi
        go_enter Tryz.func87, Tryz.ntmps87
        go_wp2_with fail
        go_quiet ((go_at_call 90; exact Calls.quiet_of (Tryz.strings_Cut _ _ m _ hlim hm)))
        go_wp2_with fail
        refine (atoi_ok ⟨d.toArray⟩ (Nat.le_trans hdl (by omega)) v HV.out _).mono ?_
        rintro e w1 ⟨rfl, hb1⟩
        have hb2 := (below_drewN (Below.refl w.heap.size w) nq).trans hb1
        clear hb1
        have c1 := (H.out.later hb2).c0
        have f1 := (H.out.later hb2).f0 0
        have HT := Lib.hid (HE.out.below hb2 HE.out.size)
        go_wp2_with fail
        refine (itoa_any v hvb.1 hvb.2 _ HT.out).mono ?_
        rintro e w3 ⟨rfl, hb4⟩
        have hb3 := hb2.trans (hb4.mono hb2.size)
        have c2 := (H.out.later hb3).c0
        have f2 := (H.out.later hb3).f0 0
        rw [HI.out]
        go_wp2_with fail
        go_ret
        refine ⟨on_set (on_below hb3) 0 _, ?_⟩
        rw [HP.out]
        exact ⟨rfl, (H.out.later hb3).drop _⟩
      · have HP : Hid (pInt c s = none) := by unfold Hid; rw [pInt_eq HC.out, HV.out]; simp [hi]
        have HI := Lib.hid hi
        clear hi
        go_enter Tryz.func87, Tryz.ntmps87
        go_wp2_with fail
        go_quiet ((go_at_call 90; exact Calls.quiet_of (Tryz.strings_Cut _ _ m _ hlim hm)))
        go_wp2_with fail
        refine (atoi_ok ⟨d.toArray⟩ (Nat.le_trans hdl (by omega)) v HV.out _).mono ?_
        rintro e w1 ⟨rfl, hb1⟩
        have hb2 := (below_drewN (Below.refl w.heap.size w) nq).trans hb1
        clear hb1
        have c1 := (H.out.later hb2).c0
        have f1 := (H.out.later hb2).f0 0
        have HT := Lib.hid (HE.out.below hb2 HE.out.size)
        go_wp2_with fail
        refine (itoa_any v hvb.1 hvb.2 _ HT.out).mono ?_
        rintro e w3 ⟨rfl, hb4⟩
        have hb3 := hb2.trans (hb4.mono hb2.size)
        have hne : (Lib.itoa v == d) = false := by simpa using HI.out
        go_wp2_with fail
        refine (fail_any b s bad _ (H.out.later hb3)).mono ?_
        rintro e w2 ⟨rfl, hon, hr⟩
        go_wp2_with fail
        go_ret
        refine ⟨on_trans (on_below hb3) hon, ?_⟩
        rw [HP.out]
        exact ⟨rfl, hr⟩
  · have hat' : ∀ v, Lib.atoiAll d ≠ .ok v := fun v h => hat ⟨v, h⟩
    have HA := Lib.hid hat'
    have HP : Hid (pInt c s = none) := by
      unfold Hid; rw [pInt_eq HC.out]
      split
      · split
        · exact absurd ‹_› (hat' _)
        · rfl
      · rfl
    clear hat hat'
    cases fnd
    all_goals
      go_enter Tryz.func87, Tryz.ntmps87
      go_wp2_with fail
      go_quiet ((go_at_call 90; exact Calls.quiet_of (Tryz.strings_Cut _ _ m _ hlim hm)))
      go_wp2_with fail
      refine (atoi_bad ⟨d.toArray⟩ (Nat.le_trans hdl (by omega)) HA.out _ (HE.out.below (below_drewN (Below.refl w.heap.size w) nq) HE.out.size)).mono ?_
      rintro e w1 ⟨N, n, rfl, hb1⟩
      have hb2 := (below_drewN (Below.refl w.heap.size w) nq).trans hb1
      clear hb1
      go_wp2_with fail
      refine (fail_any b s bad _ (H.out.later hb2)).mono ?_
      rintro e w2 ⟨rfl, hon, hr⟩
      go_wp2_with fail
      go_ret
      refine ⟨on_trans (on_below hb2) hon, ?_⟩
      rw [HP.out]
      exact ⟨rfl, hr⟩

theorem Reads.none' {α : Type} {b : Nat} {p : Option (α × List UInt8)} {bad : Bool} {z : Value} {f : α → Value} {w : World} {e : Ending} {w' : World} (h : Reads b p bad z f w e w') (hp : p = none) :
    w.grownBy w' (some b) ∧ e = .returned z ∧ IsR b [] true w' := by subst hp; exact h
theorem Reads.some' {α : Type} {b : Nat} {p : Option (α × List UInt8)} {bad : Bool} {z : Value} {f : α → Value} {w : World} {e : Ending} {w' : World} (h : Reads b p bad z f w e w') {v : α} {r : List UInt8} (hp : p = some (v, r)) :
    w.grownBy w' (some b) ∧ e = .returned (f v) ∧ IsR b r bad w' := by subst hp; exact h

theorem Reads.mkn {α : Type} {b : Nat} {p : Option (α × List UInt8)} {bad : Bool} {z : Value} {f : α → Value} {w : World} {e : Ending} {w' : World} (hp : p = none) (h1 : w.grownBy w' (some b)) (h2 : e = .returned z) (h3 : IsR b [] true w') : Reads b p bad z f w e w' := by subst hp; exact ⟨h1, h2, h3⟩
theorem Reads.mks {α : Type} {b : Nat} {p : Option (α × List UInt8)} {bad : Bool} {z : Value} {f : α → Value} {w : World} {e : Ending} {w' : World} {v : α} {r : List UInt8} (hp : p = some (v, r)) (h1 : w.grownBy w' (some b)) (h2 : e = .returned (f v)) (h3 : IsR b r bad w') : Reads b p bad z f w e w' := by subst hp; exact ⟨h1, h2, h3⟩

set_option maxRecDepth 100000 in
theorem number_any (b : Nat) (c : UInt8) (s : List UInt8) (bad : Bool) (hs : s.length ≤ 100000000) (w : World) (h : IsR b s bad w) (he : Env w) :
    Calls Tryz.prog 77 #[.pointer (some ⟨b, 0, none⟩), .string ⟨#[c]⟩] w (Reads b (pNum c s) bad (.int .i64 0) (.int .i64) w) := by
  rcases hp : pInt c s with _ | ⟨n, r⟩
  · have HP := Lib.hid hp
    have HQ : Hid (pNum c s = none) := by unfold Hid pNum; rw [hp]
    clear hp
    go_enter Tryz.func77, Tryz.ntmps77
    go_wp2_with fail
    refine (integer_any b c s bad hs w h he).mono ?_
    rintro e w1 hr
    obtain ⟨ho, rfl, hi⟩ := hr.none' HP.out
    clear hr
    go_wp2_with fail
    go_ret
    unfold Reads; rw [HQ.out]
    exact ⟨ho, rfl, hi⟩
  · have HP := Lib.hid hp
    by_cases hn : n < 0
    · have HQ : Hid (pNum c s = none) := by unfold Hid pNum; rw [hp]; simp [hn]
      clear hp
      go_enter Tryz.func77, Tryz.ntmps77
      go_wp2_with fail
      refine (integer_any b c s bad hs w h he).mono ?_
      rintro e w1 hr
      obtain ⟨ho, rfl, hi⟩ := hr.some' HP.out
      clear hr
      go_wp2_with fail
      refine (fail_any b r bad _ hi).mono ?_
      rintro e w2 ⟨rfl, ho2, hi2⟩
      go_wp2_with fail
      go_ret
      unfold Reads; rw [HQ.out]
      exact ⟨on_trans ho ho2, rfl, hi2⟩
    · have HQ : Hid (pNum c s = some (n, r)) := by unfold Hid pNum; rw [hp]; simp [hn]
      clear hp
      go_enter Tryz.func77, Tryz.ntmps77
      go_wp2_with fail
      refine (integer_any b c s bad hs w h he).mono ?_
      rintro e w1 hr
      obtain ⟨ho, rfl, hi⟩ := hr.some' HP.out
      clear hr
      go_wp2_with fail
      go_ret
      unfold Reads; rw [HQ.out]
      exact ⟨ho, rfl, hi⟩

theorem rnum_any (b : Nat) (s : List UInt8) (bad : Bool) (hs : s.length ≤ 100000000) (w : World) (h : IsR b s bad w) (he : Env w) :
    Calls Tryz.prog 59 #[.pointer (some ⟨b, 0, none⟩)] w (Reads b (pNum 59 s) bad (.int .i64 0) (.int .i64) w) := by
  go_enter Tryz.func59, Tryz.ntmps59
  go_wp2_with fail
  refine (number_any b 59 s bad hs w h he).mono ?_
  rintro e w1 hr
  rcases hp : pNum 59 s with _ | ⟨n, r⟩
  · obtain ⟨ho, rfl, hi⟩ := hr.none' hp
    have HP := Lib.hid hp
    clear hr hp
    go_wp2_with fail
    go_ret
    exact Reads.mkn HP.out ho rfl hi
  · obtain ⟨ho, rfl, hi⟩ := hr.some' hp
    have HP := Lib.hid hp
    clear hr hp
    go_wp2_with fail
    go_ret
    exact Reads.mks HP.out ho rfl hi
end Go.Proofs.YtejddacjncpneaaGreatDoor.Wi

namespace Go.Proofs.YtejddacjncpneaaGreatDoor.Wi
open Go.RowKit Go.Sort

theorem text_ext (r : List UInt8) (k : Nat) (_h : k ≤ r.length) : ((⟨r.toArray⟩ : ByteArray).extract 0 k) = ⟨(r.take k).toArray⟩ := by
  apply ByteArray.ext; simp [ByteArray.data_extract, List.extract_eq_take_drop]

set_option maxRecDepth 100000 in
set_option maxHeartbeats 2000000 in
theorem rtext_any (b : Nat) (s : List UInt8) (bad : Bool) (hs : s.length ≤ 100000000) (w : World) (h : IsR b s bad w) (he : Env w) :
    Calls Tryz.prog 58 #[.pointer (some ⟨b, 0, none⟩)] w (Reads b (pText s) bad (.string ⟨#[]⟩) .string w) := by
  rcases hp : pNum 58 s with _ | ⟨n, r⟩
  · have HP := Lib.hid hp
    have HQ : Hid (pText s = none) := by unfold Hid pText; rw [hp]
    clear hp
    go_enter Tryz.func58, Tryz.ntmps58
    go_wp2_with fail
    refine (number_any b 58 s bad hs w h he).mono ?_
    rintro e w1 hr
    obtain ⟨ho, rfl, hi⟩ := hr.none' HP.out
    clear hr
    have c0 := hi.c0
    go_wp2_with fail
    refine (fail_any b [] true _ hi).mono ?_
    rintro e w2 ⟨rfl, ho2, hi2⟩
    go_wp2_with fail
    go_ret
    exact Reads.mkn HQ.out (on_trans ho ho2) rfl hi2
  · obtain ⟨hpi, hn⟩ := pNum_some hp
    have hrl := pInt_len hpi
    have hnb := (pInt_some _ _ _ _ hpi).2
    obtain ⟨k, rfl⟩ : ∃ k : Nat, n = k := ⟨n.toNat, by omega⟩
    have HP := Lib.hid hp
    clear hpi
    by_cases hk : k < r.length
    · by_cases h44 : r[k] = 44
      · have HQ : Hid (pText s = some (⟨(r.take k).toArray⟩, r.drop (k + 1))) := by
          unfold Hid pText; rw [hp]; simp [hk, h44]
        clear hp
        have H44 := Lib.hid h44
        clear h44
        have hb : ((((⟨r.toArray⟩ : ByteArray)[k]'hk).toNat : Int) != 44) = false := by show ((r[k].toNat : Int) != 44) = false; rw [H44.out]; rfl
        go_enter Tryz.func58, Tryz.ntmps58
        go_wp2_with fail
        refine (number_any b 58 s bad hs w h he).mono ?_
        rintro e w1 hr
        obtain ⟨ho, rfl, hi⟩ := hr.some' HP.out
        clear hr
        have c0 := hi.c0
        have f0 := hi.f0 0
        go_wp2_with fail
        go_ret
        refine Reads.mks HQ.out (on_set ho 0 _) (by rw [← text_ext r k (by omega)]; rfl) (hi.drop _)
      · have HQ : Hid (pText s = none) := by
          unfold Hid pText; rw [hp]; simp [hk, h44]
        clear hp
        have H44 := Lib.hid h44
        have hb : ((((⟨r.toArray⟩ : ByteArray)[k]'hk).toNat : Int) != 44) = true := by
          show ((r[k].toNat : Int) != 44) = true
          simp; intro h; apply h44; apply UInt8.toNat_inj.1; have : (44 : UInt8).toNat = 44 := rfl; omega
        clear h44
        go_enter Tryz.func58, Tryz.ntmps58
        go_wp2_with fail
        refine (number_any b 58 s bad hs w h he).mono ?_
        rintro e w1 hr
        obtain ⟨ho, rfl, hi⟩ := hr.some' HP.out
        clear hr
        have c0 := hi.c0
        have f0 := hi.f0 0
        go_wp2_with fail
        refine (fail_any b r bad _ hi).mono ?_
        rintro e w2 ⟨rfl, ho2, hi2⟩
        go_wp2_with fail
        go_ret
        exact Reads.mkn HQ.out (on_trans ho ho2) rfl hi2
    · have HQ : Hid (pText s = none) := by
        unfold Hid pText; rw [hp]; simp [hk]
      clear hp
      go_enter Tryz.func58, Tryz.ntmps58
      go_wp2_with fail
      refine (number_any b 58 s bad hs w h he).mono ?_
      rintro e w1 hr
      obtain ⟨ho, rfl, hi⟩ := hr.some' HP.out
      clear hr
      have c0 := hi.c0
      have f0 := hi.f0 0
      go_wp2_with fail
      refine (fail_any b r bad _ hi).mono ?_
      rintro e w2 ⟨rfl, ho2, hi2⟩
      go_wp2_with fail
      go_ret
      exact Reads.mkn HQ.out (on_trans ho ho2) rfl hi2
end Go.Proofs.YtejddacjncpneaaGreatDoor.Wi

namespace Go.Proofs.YtejddacjncpneaaGreatDoor.Wi
open Go.RowKit Go.Sort

theorem left_any (b : Nat) (s : List UInt8) (bad : Bool) (w : World) (h : IsR b s bad w) :
    Calls Tryz.prog 60 #[.pointer (some ⟨b, 0, none⟩)] w fun e w' => e = .returned (.int .i64 s.length) ∧ w = w' := by
  have c0 := h.c0
  go_enter Tryz.func60, Tryz.ntmps60
  go_wp2_with fail
  go_ret
  exact ⟨rfl, rfl⟩
theorem done_any (b : Nat) (s : List UInt8) (bad : Bool) (w : World) (h : IsR b s bad w) :
    Calls Tryz.prog 61 #[.pointer (some ⟨b, 0, none⟩)] w fun e w' => e = .returned (.bool (!bad && s.isEmpty)) ∧ w = w' := by
  have c0 := h.c0
  have c1 := h.c1
  cases bad
  · cases s
    · go_enter Tryz.func61, Tryz.ntmps61
      go_wp2_with fail
      go_ret
      exact ⟨rfl, rfl⟩
    · go_enter Tryz.func61, Tryz.ntmps61
      go_wp2_with fail
      go_ret
      exact ⟨rfl, rfl⟩
  · go_enter Tryz.func61, Tryz.ntmps61
    go_wp2_with fail
    go_ret
    exact ⟨rfl, rfl⟩
end Go.Proofs.YtejddacjncpneaaGreatDoor.Wi

namespace Go.Proofs.YtejddacjncpneaaGreatDoor.Wi
open Go.RowKit Go.Sort

/-- The cells of a slice of strings. -/
def StrCells (w : World) (a : Option Addr) (ss : List ByteArray) : Prop :=
  ss = [] ∨ ∃ b off, a = some ⟨b, off, none⟩ ∧ ∀ i (h : i < ss.length), w.cell? ⟨b, off + i, none⟩ = some (.string ss[i])
theorem on_grown {b : Nat} {w a c : World} {row : Option Nat} (h : w.grownBy a (some b)) (hg : a.grownBy c row) (hr : ∀ k, row = some k → w.heap.size ≤ k) : w.grownBy c (some b) :=
  ⟨hg.os.trans h.os, hg.tape.trans h.tape, hg.output.trans h.output, Nat.le_trans h.size hg.size, fun i hi hne => (hg.block i (Nat.lt_of_lt_of_le hi h.size) (fun e => by have := hr i e.symm; omega)).trans (h.block i hi hne)⟩
theorem IsR.grown {b : Nat} {s : List UInt8} {bad : Bool} {w w' : World} {row : Option Nat} (h : IsR b s bad w) (hg : w.grownBy w' row) (hr : row ≠ some b) : IsR b s bad w' := by
  unfold IsR; rw [hg.block b h.lt (fun e => hr e.symm)]; exact h
theorem Env.on {w w' : World} {b : Nat} (he : Env w) (h : w.grownBy w' (some b)) (hb : 6 ≤ b) : Env w' := by
  have hB : RowKit.Below 6 w w' := ⟨h.os, h.tape, h.output, h.size, fun k hk => h.block k (by have := he.size; omega) (fun e => by simp at e; omega)⟩
  exact he.below hB (Nat.le_refl _)
theorem own_block {w : World} {base e size n : Nat} {v : Value} {xs : List Value} (h : w.ownsRow base e size v n xs) (k : Nat) (hk : v.ownBlock = some k) : base ≤ k := by
  rcases h.2 with ⟨rfl, h0⟩ | ⟨g, cap, cur, rfl, hb, hg, hnc, hcm, hcs, htake⟩
  · simp [Value.ownBlock] at hk
  · simp [Value.ownBlock] at hk; omega
theorem own_ne {w : World} {base e size n : Nat} {v : Value} {xs : List Value} (h : w.ownsRow base e size v n xs) {b : Nat} (hb : b < base) : v.ownBlock = none ∨ v.ownBlock ≠ some b := by
  cases hv : v.ownBlock with
  | none => exact .inl rfl
  | some g => exact .inr (by have := own_block h g hv; simp; omega)
theorem new_cell (w : World) (c : Value) (t : TypeId) : ∀ j u, [c][j]? = some u → (w.alloc (.cells #[c] t)).cell? ((⟨w.heap.size, 0, none⟩ : Addr).add j) = some u := by
  intro j u hj
  match j, hj with
  | 0, hj => simp at hj; subst hj; simp [Addr.add]
theorem infoStr : (Tryz.prog.info? 9).map (fun i => (i.zero, i.size, i.bytes)) = some (some (.string ⟨#[]⟩), 1, 16) := by kernel_rfl
theorem own_cellsS {w : World} {base n cap : Nat} {a : Option Addr} {l : List ByteArray} (h : w.ownsRow base 9 1 (.slice a n cap) l.length (l.map Value.string)) : StrCells w a l := by
  rcases h.2 with ⟨_, h0⟩ | ⟨g, cap', cur, hv, hb, hg, hnc, hcm, hcs, htake⟩
  · exact .inl (List.length_eq_zero_iff.1 h0)
  · simp at hv; obtain ⟨rfl, rfl, rfl⟩ := hv
    refine .inr ⟨g, 0, rfl, fun i hi => ?_⟩
    rw [h.cellAt _ (by omega)]
    simp [hi]
theorem own_strs {w : World} {base : Nat} {v : Value} {l : List ByteArray} (h : w.ownsRow base 9 1 v l.length (l.map Value.string)) : ∃ a cap, v = .slice a l.length cap ∧ StrCells w a l := by
  rcases h.2 with ⟨rfl, h0⟩ | ⟨g, cap, cur, rfl, hb, hg, hnc, hcm, hcs, htake⟩
  · exact ⟨none, 0, by rw [h0], .inl (List.length_eq_zero_iff.1 h0)⟩
  · refine ⟨_, _, rfl, .inr ⟨g, 0, rfl, fun i hi => ?_⟩⟩
    rw [h.cellAt _ (by omega)]
    simp [hi]
theorem fresh_R (w : World) (l : List UInt8) : IsR w.heap.size l false (w.alloc (.cells #[.string ⟨l.toArray⟩, .bool false] 106)) := by
  unfold IsR; exact Array.getElem?_push_size
theorem cell_lt {w : World} {b o : Nat} {v : Value} (h : w.cell? ⟨b, o, none⟩ = some v) : b < w.heap.size := by
  rcases Nat.lt_or_ge b w.heap.size with h' | h'
  · exact h'
  · simp [World.cell?, Array.getElem?_eq_none h'] at h
theorem cell_later {w w' : World} {b o : Nat} {v : Value} (h : w.cell? ⟨b, o, none⟩ = some v) (hb : RowKit.Below w.heap.size w w') : w'.cell? ⟨b, o, none⟩ = some v := by
  rw [hb.cell (p := ⟨b, o, none⟩) (cell_lt h)]; exact h
end Go.Proofs.YtejddacjncpneaaGreatDoor.Wi
