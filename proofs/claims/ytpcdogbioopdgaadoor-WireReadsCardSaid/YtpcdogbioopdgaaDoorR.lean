/- The contracts of the readers of package wire. -/
import Derived.Outline
import Derived.Lib.SmallJoins
import Derived.Deep.LoopGhost
import Derived.Deep.QuietTactic
import Derived.BigQuiet
import Derived.Deep.RegionWith
import Derived.StillTailTactics
import Derived.Test.YtpcdogbioopdgaaDoorA
import Derived.Test.YtpcdogbioopdgaaDoorP
namespace Go.Proofs.YtpcdogbioopdgaaDoor
open Go.RowKit Go.Sort

/-- Block b is a reader. -/
def IsR (b : Nat) (s : List UInt8) (bad : Bool) (w : World) : Prop :=
  w.heap[b]? = some (.cells #[.string ⟨s.toArray⟩, .bool bad] 54 (0, 0))
theorem IsR.c0 {b : Nat} {s : List UInt8} {bad : Bool} {w : World} (h : IsR b s bad w) : w.cell? ⟨b, 0, none⟩ = some (.string ⟨s.toArray⟩) := by simp [World.cell?, show w.heap[b]? = _ from h]
theorem IsR.c1 {b : Nat} {s : List UInt8} {bad : Bool} {w : World} (h : IsR b s bad w) : w.cell? ⟨b, 1, none⟩ = some (.bool bad) := by simp [World.cell?, show w.heap[b]? = _ from h]
theorem IsR.f0 {b : Nat} {s : List UInt8} {bad : Bool} {w : World} (h : IsR b s bad w) (o : Nat) : w.frozen? ⟨b, o, none⟩ = false := by simp [World.frozen?, show w.heap[b]? = _ from h]

theorem open_any (s : ByteArray) (w : World) :
    Calls Tryd.prog 21 #[.string s] w fun e w' => e = .returned (.pointer (some ⟨w.heap.size, 0, none⟩)) ∧ w' = w.alloc (.cells #[.string s, .bool false] 54) := by
  go_enter Tryd.func21, Tryd.ntmps21
  go_wp2
  go_ret
  exact ⟨rfl, rfl⟩


/-- What a call that may write to block b alone leaves of the world. -/
theorem on_trans {b : Nat} {a c d : World} (h : a.grownBy c (some b)) (k : c.grownBy d (some b)) : a.grownBy d (some b) :=
  ⟨k.os.trans h.os, k.tape.trans h.tape, k.output.trans h.output, Nat.le_trans h.size k.size, fun i hi hne => (k.block i (Nat.lt_of_lt_of_le hi h.size) hne).trans (h.block i hi hne)⟩
theorem on_set {b : Nat} {a c : World} (h : a.grownBy c (some b)) (o : Nat) (v : Value) : a.grownBy (c.setCell ⟨b, o, none⟩ v) (some b) :=
  on_trans h ⟨rfl, rfl, rfl, by simp [World.setCell], fun k _ hk => Below.heap_setCell _ _ _ _ (fun e => hk (by simp [e]))⟩
theorem on_refl (b : Nat) (w : World) : w.grownBy w (some b) := ⟨rfl, rfl, rfl, Nat.le_refl _, fun _ _ _ => rfl⟩
theorem on_below {b : Nat} {w w' : World} (h : RowKit.Below w.heap.size w w') : w.grownBy w' (some b) := ⟨h.os, h.tape, h.output, h.size, fun k hk _ => h.block k hk⟩

theorem IsR.set0 {b : Nat} {s : List UInt8} {bad : Bool} {w : World} (h : IsR b s bad w) (t : ByteArray) : IsR b t.data.toList bad (w.setCell ⟨b, 0, none⟩ (.string t)) := by
  unfold IsR at *; simp [World.setCell, Array.getElem?_modify, h]
theorem IsR.set1 {b : Nat} {s : List UInt8} {bad : Bool} {w : World} (h : IsR b s bad w) (t : Bool) : IsR b s t (w.setCell ⟨b, 1, none⟩ (.bool t)) := by
  unfold IsR at *; simp [World.setCell, Array.getElem?_modify, h]
theorem ext_drop (s : List UInt8) (k : Nat) : ((⟨s.toArray⟩ : ByteArray).extract k s.length) = ⟨(s.drop k).toArray⟩ := by
  apply ByteArray.ext; simp [ByteArray.data_extract, List.extract_eq_take_drop, List.take_of_length_le]
theorem IsR.drop {b : Nat} {s : List UInt8} {bad : Bool} {w : World} (h : IsR b s bad w) (k : Nat) : IsR b (s.drop k) bad (w.setCell ⟨b, 0, none⟩ (.string ((⟨s.toArray⟩ : ByteArray).extract k s.length))) := by
  rw [ext_drop]; exact h.set0 ⟨(s.drop k).toArray⟩
theorem IsR.lt {b : Nat} {s : List UInt8} {bad : Bool} {w : World} (h : IsR b s bad w) : b < w.heap.size := by
  rcases Nat.lt_or_ge b w.heap.size with h' | h'
  · exact h'
  · simp [IsR, Array.getElem?_eq_none h'] at h
theorem IsR.later {b : Nat} {s : List UInt8} {bad : Bool} {w w' : World} (h : IsR b s bad w) (hb : RowKit.Below w.heap.size w w') : IsR b s bad w' := by
  unfold IsR; rw [hb.block b h.lt]; exact h

theorem fail_any (b : Nat) (s : List UInt8) (bad : Bool) (w : World) (h : IsR b s bad w) :
    Calls Tryd.prog 52 #[.pointer (some ⟨b, 0, none⟩)] w fun e w' => e = .returned (.tuple #[]) ∧ w.grownBy w' (some b) ∧ IsR b [] true w' := by
  have c0 := h.c0
  have c1 := h.c1
  have f0 := h.f0 0
  have f1 := h.f0 1
  have H := Lib.hid h
  clear h
  go_enter Tryd.func52, Tryd.ntmps52
  go_wp2
  go_end0
  exact ⟨rfl, on_set (on_set (on_refl _ _) _ _) _ _, (H.out.set0 ⟨#[]⟩).set1 true⟩

/-- How a call on the reader in block b ends: it has read a value, and what follows is left, or it has failed. -/
def Reads {α : Type} (b : Nat) (p : Option (α × List UInt8)) (bad : Bool) (z : Value) (f : α → Value) (w : World) (e : Ending) (w' : World) : Prop :=
  w.grownBy w' (some b) ∧ match p with
    | some (v, r) => e = .returned (f v) ∧ IsR b r bad w'
    | none => e = .returned z ∧ IsR b [] true w'


theorem below_bytes (w : World) (t : ByteArray) : RowKit.Below w.heap.size w (Lib.bytesWorld w 5 t) := Lib.bytesWorld_below _ _ _
theorem atoi_ok (s : ByteArray) (hs : s.size ≤ 100) (v : Int) (h : Lib.atoiAll s.data.toList = .ok v) (w : World) :
    Calls Tryd.prog 63 #[.string s] w fun e w' => e = .returned (.tuple #[.int .i64 v, .nilIface]) ∧ RowKit.Below w.heap.size w w' := by
  refine (Tryd.strconv_Atoi_ok s (by omega) v h w).mono ?_
  rintro e w' ⟨rfl, rfl | ⟨t, rfl⟩⟩
  · exact ⟨rfl, Below.refl _ _⟩
  · exact ⟨rfl, below_bytes _ _⟩
def AtoiBad (w : World) (e : Ending) (w' : World) : Prop := ∃ N n, e = .returned (.tuple #[.int .i64 n, .iface 92 (.pointer (some ⟨N, 0, none⟩))]) ∧ RowKit.Below w.heap.size w w'
theorem atoi_bad (s : ByteArray) (hs : s.size ≤ 100) (h : ∀ v, Lib.atoiAll s.data.toList ≠ .ok v) (w : World) (he : Env w) :
    Calls Tryd.prog 63 #[.string s] w (AtoiBad w) := by
  obtain ⟨t, p, h2⟩ := he.syn
  obtain ⟨t', p', h3⟩ := he.ran
  rcases hm : Lib.atoiAll s.data.toList with v | _ | _
  · exact absurd hm (h v)
  · refine (Any.strconv_Atoi_syntax Tryd.laysC172 s (by omega) hm _ w h2 (.inr ⟨t, p, rfl⟩)).mono ?_
    rintro e w' ⟨N, rfl, _, _, hb⟩
    exact ⟨N, _, rfl, hb⟩
  · refine (Any.strconv_Atoi_range Tryd.laysC172 s (by omega) hm _ w h3 (.inr ⟨t', p', rfl⟩)).mono ?_
    rintro e w' ⟨N, rfl, _, _, hb⟩
    exact ⟨N, _, rfl, hb⟩
theorem itoa_any (n : Int) (h0 : -9223372036854775808 ≤ n) (h1 : n ≤ 9223372036854775807) (w : World) (he : Env w) :
    Calls Tryd.prog 44 #[.int .i64 n] w fun e w' => e = .returned (.string ⟨(Lib.itoa n).toArray⟩) ∧ RowKit.Below w.heap.size w w' := by
  refine (Tryd.strconv_Itoa n h0 h1 _ he.tab).mono ?_
  rintro e w' ⟨rfl, k, os, rfl⟩
  exact ⟨rfl, Lib.below_grow _ _ (Nat.le_refl _) _ _⟩
set_option maxRecDepth 100000 in
set_option maxHeartbeats 2000000 in
theorem integer_any (b : Nat) (c : UInt8) (s : List UInt8) (bad : Bool) (hs : s.length ≤ 100000000) (w : World) (h : IsR b s bad w) (he : Env w) :
    Calls Tryd.prog 50 #[.pointer (some ⟨b, 0, none⟩), .string ⟨#[c]⟩] w (Reads b (pInt c s) bad (.int .i64 0) (.int .i64) w) := by
  have c0 := h.c0
  have f0 := h.f0 0
  have H := Lib.hid h
  have HE := Lib.hid he
  obtain ⟨m, hm⟩ := he.maxLen
  obtain ⟨d, r1, fnd, hcut⟩ : ∃ d r1 fnd, Lib.cut (List.take (min 21 (s.length : Int)).toNat s) [c] = (d, r1, fnd) := ⟨_, _, _, rfl⟩
  have hmin : (min 21 (s.length : Int)).toNat = min 21 s.length := by omega
  have hcut2 : Lib.cut (s.take 21) [c] = (d, r1, fnd) := by
    rw [← hcut, hmin]; congr 1
    rw [← List.take_take, List.take_length]
  have hcl := cut_len c _ d r1 fnd hcut2
  rw [List.length_take] at hcl
  have hdl : d.length ≤ 21 := by omega
  have hdr : fnd = true → d.length + 1 ≤ s.length := fun hf => by have := hcl.2 hf; omega
  have HC := Lib.hid hcut2
  clear hcut2 hcl hmin
  clear h he
  have hlim : ByteArray.size (({ data := s.toArray } : ByteArray).extract 0 (min 21 (s.length : Int)).toNat) < 4294967281 := by
    simp [ByteArray.size]; omega
  by_cases hat : ∃ v, Lib.atoiAll d = .ok v
  · obtain ⟨v, hv⟩ := hat
    have HV := Lib.hid hv
    have hvb := atoi_bd d v hv
    clear hv
    cases fnd
    · have HP : Hid (pInt c s = none) := by rw [pInt_eq HC.out]; rfl
      go_enter Tryd.func50, Tryd.ntmps50
      go_wp2_with fail
      go_quiet ((go_at_call 62; exact Calls.quiet_of (Tryd.strings_Cut _ _ m _ hlim hm)))
      go_wp2_with fail
      refine (atoi_ok ⟨d.toArray⟩ (Nat.le_trans hdl (by omega)) v HV.out _).mono ?_
      rintro e w1 ⟨rfl, hb1⟩
      have hb2 := (below_drewN (Below.refl w.heap.size w) nq).trans hb1
      clear hb1
      have c1 := (H.out.later hb2).c0
      have f1 := (H.out.later hb2).f0 0
      go_wp2_with fail
      refine (fail_any b s bad _ (H.out.later hb2)).mono ?_
      rintro e w2 ⟨rfl, hon, hr⟩
      go_wp2_with fail
      go_ret
      refine ⟨on_trans (on_below hb2) hon, ?_⟩
      rw [HP.out]
      exact ⟨rfl, hr⟩
    · have hd := hdr rfl
      by_cases hi : Lib.itoa v = d
      · have HP : Hid (pInt c s = some (v, s.drop (d.length + 1))) := by unfold Hid; rw [pInt_eq HC.out, HV.out]; simp [hi]
        have HI := Lib.hid hi
        clear hi
        go_enter Tryd.func50, Tryd.ntmps50
        go_wp2_with fail
        go_quiet ((go_at_call 62; exact Calls.quiet_of (Tryd.strings_Cut _ _ m _ hlim hm)))
        go_wp2_with fail
        refine (atoi_ok ⟨d.toArray⟩ (Nat.le_trans hdl (by omega)) v HV.out _).mono ?_
        rintro e w1 ⟨rfl, hb1⟩
        have hb2 := (below_drewN (Below.refl w.heap.size w) nq).trans hb1
        clear hb1
        have c1 := (H.out.later hb2).c0
        have f1 := (H.out.later hb2).f0 0
        have HT := Lib.hid (HE.out.below hb2 HE.out.size)
        go_wp2_with fail
        refine (itoa_any v hvb.1 hvb.2 _ HT.out).mono ?_
        rintro e w3 ⟨rfl, hb4⟩
        have hb3 := hb2.trans (hb4.mono hb2.size)
        have c2 := (H.out.later hb3).c0
        have f2 := (H.out.later hb3).f0 0
        rw [HI.out]
        go_wp2_with fail
        go_ret
        refine ⟨on_set (on_below hb3) 0 _, ?_⟩
        rw [HP.out]
        exact ⟨rfl, (H.out.later hb3).drop _⟩
      · have HP : Hid (pInt c s = none) := by unfold Hid; rw [pInt_eq HC.out, HV.out]; simp [hi]
        have HI := Lib.hid hi
        clear hi
        go_enter Tryd.func50, Tryd.ntmps50
        go_wp2_with fail
        go_quiet ((go_at_call 62; exact Calls.quiet_of (Tryd.strings_Cut _ _ m _ hlim hm)))
        go_wp2_with fail
        refine (atoi_ok ⟨d.toArray⟩ (Nat.le_trans hdl (by omega)) v HV.out _).mono ?_
        rintro e w1 ⟨rfl, hb1⟩
        have hb2 := (below_drewN (Below.refl w.heap.size w) nq).trans hb1
        clear hb1
        have c1 := (H.out.later hb2).c0
        have f1 := (H.out.later hb2).f0 0
        have HT := Lib.hid (HE.out.below hb2 HE.out.size)
        go_wp2_with fail
        refine (itoa_any v hvb.1 hvb.2 _ HT.out).mono ?_
        rintro e w3 ⟨rfl, hb4⟩
        have hb3 := hb2.trans (hb4.mono hb2.size)
        have hne : (Lib.itoa v == d) = false := by simpa using HI.out
        go_wp2_with fail
        refine (fail_any b s bad _ (H.out.later hb3)).mono ?_
        rintro e w2 ⟨rfl, hon, hr⟩
        go_wp2_with fail
        go_ret
        refine ⟨on_trans (on_below hb3) hon, ?_⟩
        rw [HP.out]
        exact ⟨rfl, hr⟩
  · have hat' : ∀ v, Lib.atoiAll d ≠ .ok v := fun v h => hat ⟨v, h⟩
    have HA := Lib.hid hat'
    have HP : Hid (pInt c s = none) := by
      unfold Hid; rw [pInt_eq HC.out]
      split
      · split
        · exact absurd ‹_› (hat' _)
        · rfl
      · rfl
    clear hat hat'
    cases fnd
    all_goals
      go_enter Tryd.func50, Tryd.ntmps50
      go_wp2_with fail
      go_quiet ((go_at_call 62; exact Calls.quiet_of (Tryd.strings_Cut _ _ m _ hlim hm)))
      go_wp2_with fail
      refine (atoi_bad ⟨d.toArray⟩ (Nat.le_trans hdl (by omega)) HA.out _ (HE.out.below (below_drewN (Below.refl w.heap.size w) nq) HE.out.size)).mono ?_
      rintro e w1 ⟨N, n, rfl, hb1⟩
      have hb2 := (below_drewN (Below.refl w.heap.size w) nq).trans hb1
      clear hb1
      go_wp2_with fail
      refine (fail_any b s bad _ (H.out.later hb2)).mono ?_
      rintro e w2 ⟨rfl, hon, hr⟩
      go_wp2_with fail
      go_ret
      refine ⟨on_trans (on_below hb2) hon, ?_⟩
      rw [HP.out]
      exact ⟨rfl, hr⟩

/-- A number: an int that is not negative. -/
def pNum (c : UInt8) (s : List UInt8) : Option (Int × List UInt8) :=
  match pInt c s with
  | some (n, r) => if n < 0 then none else some (n, r)
  | none => none

theorem Reads.none' {α : Type} {b : Nat} {p : Option (α × List UInt8)} {bad : Bool} {z : Value} {f : α → Value} {w : World} {e : Ending} {w' : World} (h : Reads b p bad z f w e w') (hp : p = none) :
    w.grownBy w' (some b) ∧ e = .returned z ∧ IsR b [] true w' := by subst hp; exact h
theorem Reads.some' {α : Type} {b : Nat} {p : Option (α × List UInt8)} {bad : Bool} {z : Value} {f : α → Value} {w : World} {e : Ending} {w' : World} (h : Reads b p bad z f w e w') {v : α} {r : List UInt8} (hp : p = some (v, r)) :
    w.grownBy w' (some b) ∧ e = .returned (f v) ∧ IsR b r bad w' := by subst hp; exact h

theorem Reads.mkn {α : Type} {b : Nat} {p : Option (α × List UInt8)} {bad : Bool} {z : Value} {f : α → Value} {w : World} {e : Ending} {w' : World} (hp : p = none) (h1 : w.grownBy w' (some b)) (h2 : e = .returned z) (h3 : IsR b [] true w') : Reads b p bad z f w e w' := by subst hp; exact ⟨h1, h2, h3⟩
theorem Reads.mks {α : Type} {b : Nat} {p : Option (α × List UInt8)} {bad : Bool} {z : Value} {f : α → Value} {w : World} {e : Ending} {w' : World} {v : α} {r : List UInt8} (hp : p = some (v, r)) (h1 : w.grownBy w' (some b)) (h2 : e = .returned (f v)) (h3 : IsR b r bad w') : Reads b p bad z f w e w' := by subst hp; exact ⟨h1, h2, h3⟩

set_option maxRecDepth 100000 in
theorem number_any (b : Nat) (c : UInt8) (s : List UInt8) (bad : Bool) (hs : s.length ≤ 100000000) (w : World) (h : IsR b s bad w) (he : Env w) :
    Calls Tryd.prog 48 #[.pointer (some ⟨b, 0, none⟩), .string ⟨#[c]⟩] w (Reads b (pNum c s) bad (.int .i64 0) (.int .i64) w) := by
  rcases hp : pInt c s with _ | ⟨n, r⟩
  · have HP := Lib.hid hp
    have HQ : Hid (pNum c s = none) := by unfold Hid pNum; rw [hp]
    clear hp
    go_enter Tryd.func48, Tryd.ntmps48
    go_wp2_with fail
    refine (integer_any b c s bad hs w h he).mono ?_
    rintro e w1 hr
    obtain ⟨ho, rfl, hi⟩ := hr.none' HP.out
    clear hr
    go_wp2_with fail
    go_ret
    unfold Reads; rw [HQ.out]
    exact ⟨ho, rfl, hi⟩
  · have HP := Lib.hid hp
    by_cases hn : n < 0
    · have HQ : Hid (pNum c s = none) := by unfold Hid pNum; rw [hp]; simp [hn]
      clear hp
      go_enter Tryd.func48, Tryd.ntmps48
      go_wp2_with fail
      refine (integer_any b c s bad hs w h he).mono ?_
      rintro e w1 hr
      obtain ⟨ho, rfl, hi⟩ := hr.some' HP.out
      clear hr
      go_wp2_with fail
      refine (fail_any b r bad _ hi).mono ?_
      rintro e w2 ⟨rfl, ho2, hi2⟩
      go_wp2_with fail
      go_ret
      unfold Reads; rw [HQ.out]
      exact ⟨on_trans ho ho2, rfl, hi2⟩
    · have HQ : Hid (pNum c s = some (n, r)) := by unfold Hid pNum; rw [hp]; simp [hn]
      clear hp
      go_enter Tryd.func48, Tryd.ntmps48
      go_wp2_with fail
      refine (integer_any b c s bad hs w h he).mono ?_
      rintro e w1 hr
      obtain ⟨ho, rfl, hi⟩ := hr.some' HP.out
      clear hr
      go_wp2_with fail
      go_ret
      unfold Reads; rw [HQ.out]
      exact ⟨ho, rfl, hi⟩

theorem rnum_any (b : Nat) (s : List UInt8) (bad : Bool) (hs : s.length ≤ 100000000) (w : World) (h : IsR b s bad w) (he : Env w) :
    Calls Tryd.prog 24 #[.pointer (some ⟨b, 0, none⟩)] w (Reads b (pNum 59 s) bad (.int .i64 0) (.int .i64) w) := by
  go_enter Tryd.func24, Tryd.ntmps24
  go_wp2_with fail
  refine (number_any b 59 s bad hs w h he).mono ?_
  rintro e w1 hr
  rcases hp : pNum 59 s with _ | ⟨n, r⟩
  · obtain ⟨ho, rfl, hi⟩ := hr.none' hp
    have HP := Lib.hid hp
    clear hr hp
    go_wp2_with fail
    go_ret
    exact Reads.mkn HP.out ho rfl hi
  · obtain ⟨ho, rfl, hi⟩ := hr.some' hp
    have HP := Lib.hid hp
    clear hr hp
    go_wp2_with fail
    go_ret
    exact Reads.mks HP.out ho rfl hi
theorem rint_any (b : Nat) (s : List UInt8) (bad : Bool) (hs : s.length ≤ 100000000) (w : World) (h : IsR b s bad w) (he : Env w) :
    Calls Tryd.prog 26 #[.pointer (some ⟨b, 0, none⟩)] w (Reads b (pInt 59 s) bad (.int .i64 0) (.int .i64) w) := by
  go_enter Tryd.func26, Tryd.ntmps26
  go_wp2_with fail
  refine (integer_any b 59 s bad hs w h he).mono ?_
  rintro e w1 hr
  rcases hp : pInt 59 s with _ | ⟨n, r⟩
  · obtain ⟨ho, rfl, hi⟩ := hr.none' hp
    have HP := Lib.hid hp
    clear hr hp
    go_wp2_with fail
    go_ret
    exact Reads.mkn HP.out ho rfl hi
  · obtain ⟨ho, rfl, hi⟩ := hr.some' hp
    have HP := Lib.hid hp
    clear hr hp
    go_wp2_with fail
    go_ret
    exact Reads.mks HP.out ho rfl hi

end Go.Proofs.YtpcdogbioopdgaaDoor
