/- kitbagref04: Of. kitbagref04: Int (all but arguments below the least int). kitbagref04: Text. kitbagref04: Read. WRITTEN by big/gen_rread.py. -/
import Derived.Test.YtgncnkojpedmdaaPA18
set_option maxRecDepth 100000
namespace Go.Proofs.Ytgncnkojpedmdaa.Bi
open Go.RowKit

set_option maxHeartbeats 2000000 in
theorem rof_zero (w : World) : Calls Try.prog 54 #[.int .i64 0] w (AnsB 0 w) := by
  have HR : Hid (Res w (w.alloc (.cells #[.int .i64 0, .slice none 0 0] 24))) := alloc_at _ _
  obtain ⟨r0, r1, f0, f1⟩ := HR.out.cells
  go_enter Try.func54, Try.ntmps54
  go_wp2_with fail
  exact bodyPost_ret (v := .agg #[.int .i64 0, .slice none 0 0]) (by simp [results, Try.results54, go_sem]) rfl
    ⟨_, rfl, by rw [show (0 : Int).natAbs = 0 from rfl, digs_zero]; exact Ints.nil _, below_alloc _ _, fun g _ => off_nil g 0 0⟩

set_option maxHeartbeats 4000000 in
theorem rof_pos (n : Int) (h0 : -9223372036854775808 ≤ n) (h1 : n ≤ 9223372036854775807) (hn : 0 < n) (w : World) :
    Calls Try.prog 54 #[.int .i64 n] w (AnsB n w) := by
  have hR : OfR w n (.slice none 0 0) [] n.natAbs (w.alloc (.cells #[.int .i64 0, .slice none 0 0] 24)) :=
    ⟨OwnI.nil _, by simp, below_alloc _ _, alloc_at _ _, fun b hb => by simp [blk] at hb, by omega⟩
  have HR := Lib.hid hR
  have HN : Hid (n.natAbs ≤ 9223372036854775808) := by unfold Hid; omega
  have HM : Hid (∀ W A C, Ints W (.slice A (digs n.natAbs).length C) (digs n.natAbs) → Calls Try.prog 71 #[.int .i64 (1), .slice A (digs n.natAbs).length C] W (AnsB n W)) := fun W A C hW => rmade_n (1) A C n.natAbs n rfl (fun _ => by rw [Int.sign_eq_one_of_pos hn]) W hW (Nat.le_trans (digs_len4 (by omega)) (by decide))
  clear hR
  have hz : (n == 0) = false := by simp; omega
  have hl : decide (n < 0) = false := by simp; omega
  have HRN : Hid (∃ R : Nat, n = (R : Int) ∧ n.natAbs = R) := ⟨n.natAbs, by omega, rfl⟩
  go_enter Try.func54, Try.ntmps54
  go_wp2_with fail
  clear hz hl
  go_loopw [0, 4] (fun r v wr => ∃ (R : Nat) (l : List Int) (ρ : Int), r = .int .i64 ρ ∧ ρ = (R : Int) ∧ R ≤ 9223372036854775808 ∧ OfR w n v l R wr) (fun r _ _ => (intOf r).natAbs)
  case atStart =>
    obtain ⟨R, e1, e2⟩ := HRN.out
    exact ⟨R, [], n, rfl, e1, by have := HN.out; omega, by rw [← e2]; exact HR.out⟩
  case round =>
    obtain ⟨R, l, ρ, rfl, hρ, hle, hO⟩ := hrel
    obtain ⟨a0, c0, rfl, _, _⟩ := hO.own.shape
    by_cases hR0 : R = 0
    · subst hR0
      obtain rfl : ρ = 0 := by omega
      have hl4 := hO.len HN.out
      have he := hO.eq
      rw [digs_zero, List.append_nil] at he
      have hi := hO.own.ints (by omega)
      rw [← he] at hi
      have HI := Lib.hid hi
      have HO := Lib.hid hO
      rw [← he] at HO ⊢
      clear hO hi hl4 he hρ hle
      go_wp2_with fail
      refine (HM.out _ _ _ HI.out).mono ?_
      rintro e w7 ⟨s7, rfl, hi7, hb7, ho7⟩
      obtain ⟨a7, c7, rfl, hj7⟩ := hi7.open
      have HRES : Hid (Res w w7) := by
        have hres := HO.out.res
        have hsz : w.heap.size < wr.heap.size := (Array.getElem?_eq_some_iff.1 hres).1
        exact (hb7.block _ hsz).trans hres
      have HB7 := Lib.hid (HO.out.below.trans (hb7.mono HO.out.below.size))
      have HI7 := Lib.hid hj7
      have HO7 := Lib.hid ho7
      obtain ⟨r0, r1, f0, f1⟩ := HRES.out.cells
      clear hi7 hj7 hb7 ho7
      go_wp2_with fail
      have hsz : w.heap.size < wr.heap.size := (Array.getElem?_eq_some_iff.1 HO.out.res).1
      have hoff := HO7.out w.heap.size hsz
      exact bodyPost_ret (v := .agg #[.int .i64 n.sign, .slice a7 (digs n.natAbs).length c7]) (by simp [results, Try.results54, go_sem, r0, r1]) rfl
        ⟨_, rfl, (HI7.out.set hoff 0 _).set hoff 1 _, (HB7.out.setCell (Nat.le_refl _) _).setCell (Nat.le_refl _) _, HO7.out.mono (Nat.le_of_lt hsz)⟩
    · have hpos : 0 < R := by omega
      obtain ⟨a, c, w', hrun, hO'⟩ := hO.next HN.out hpos
      obtain ⟨y, ey⟩ : ∃ y : Nat, R % 1048576 = y := ⟨_, rfl⟩
      obtain ⟨q, eq⟩ : ∃ q : Nat, R / 1048576 = q := ⟨_, rfl⟩
      rw [ey] at hrun hO'
      rw [eq] at hO'
      obtain ⟨t, et⟩ : ∃ t, (y : Int) = t := ⟨_, rfl⟩
      obtain ⟨u, eu⟩ : ∃ u, (q : Int) = u := ⟨_, rfl⟩
      have hmod : Int.tmod ρ 1048576 = t := by rw [hρ, ← et, Int.tmod_eq_emod_of_nonneg (by omega)]; omega
      have hdiv : Int.tdiv ρ 1048576 = u := by rw [hρ, ← eu, Int.tdiv_eq_ediv_of_nonneg (by omega)]; omega
      have hw1 : IntKind.i64.wrap t = t := IntWalk.i64_in _ (by omega)
      have hw2 : IntKind.i64.wrap u = u := IntWalk.i64_in _ (by omega)
      have hw3 : IntKind.i64.wrap (-t) = -t := IntWalk.i64_in _ (by omega)
      have hne : (ρ != 0) = true := by simp; omega
      have hun : u.natAbs < ρ.natAbs := by omega
      have HU := Lib.hid hun
      have HQL : Hid (q ≤ 9223372036854775808) := by unfold Hid; omega
      have HO' := Lib.hid hO'
      have HEU : Hid (u = (q : Int)) := eu.symm
      obtain ⟨Y, eY⟩ : ∃ Y : Int, (y : Int) = Y := ⟨_, rfl⟩
      rw [eY] at hrun HO'
      have hd : decide (t < 0) = false := decide_eq_false (by omega)
      obtain rfl : Y = t := by omega
      clear hO ey eq et eu hρ hle hR0 hpos eY hun hw3
      go_wp2_with (at_builtin; refine Lib.wpList_append_run _ rfl _ _ _ _ rfl _ _ rfl rfl _ _ (hrun _) ?_)
      go_roundw
      case rel => exact ⟨q, _, _, rfl, HEU.out, HQL.out, HO'.out⟩
      case measure => exact HU.out

set_option maxHeartbeats 4000000 in
theorem rof_neg (n : Int) (h0 : -9223372036854775808 ≤ n) (h1 : n ≤ 9223372036854775807) (hn : n < 0) (w : World) :
    Calls Try.prog 54 #[.int .i64 n] w (AnsB n w) := by
  have hR : OfR w n (.slice none 0 0) [] n.natAbs (w.alloc (.cells #[.int .i64 0, .slice none 0 0] 24)) :=
    ⟨OwnI.nil _, by simp, below_alloc _ _, alloc_at _ _, fun b hb => by simp [blk] at hb, by omega⟩
  have HR := Lib.hid hR
  have HN : Hid (n.natAbs ≤ 9223372036854775808) := by unfold Hid; omega
  have HM : Hid (∀ W A C, Ints W (.slice A (digs n.natAbs).length C) (digs n.natAbs) → Calls Try.prog 71 #[.int .i64 (-1), .slice A (digs n.natAbs).length C] W (AnsB n W)) := fun W A C hW => rmade_n (-1) A C n.natAbs n rfl (fun _ => by rw [Int.sign_eq_neg_one_of_neg hn]) W hW (Nat.le_trans (digs_len4 (by omega)) (by decide))
  clear hR
  have hz : (n == 0) = false := by simp; omega
  have hl : decide (n < 0) = true := by simp; omega
  have HRN : Hid (∃ R : Nat, n = -(R : Int) ∧ n.natAbs = R) := ⟨n.natAbs, by omega, rfl⟩
  go_enter Try.func54, Try.ntmps54
  go_wp2_with fail
  clear hz hl
  go_loopw [0, 4] (fun r v wr => ∃ (R : Nat) (l : List Int) (ρ : Int), r = .int .i64 ρ ∧ ρ = -(R : Int) ∧ R ≤ 9223372036854775808 ∧ OfR w n v l R wr) (fun r _ _ => (intOf r).natAbs)
  case atStart =>
    obtain ⟨R, e1, e2⟩ := HRN.out
    exact ⟨R, [], n, rfl, e1, by have := HN.out; omega, by rw [← e2]; exact HR.out⟩
  case round =>
    obtain ⟨R, l, ρ, rfl, hρ, hle, hO⟩ := hrel
    obtain ⟨a0, c0, rfl, _, _⟩ := hO.own.shape
    by_cases hR0 : R = 0
    · subst hR0
      obtain rfl : ρ = 0 := by omega
      have hl4 := hO.len HN.out
      have he := hO.eq
      rw [digs_zero, List.append_nil] at he
      have hi := hO.own.ints (by omega)
      rw [← he] at hi
      have HI := Lib.hid hi
      have HO := Lib.hid hO
      rw [← he] at HO ⊢
      clear hO hi hl4 he hρ hle
      go_wp2_with fail
      refine (HM.out _ _ _ HI.out).mono ?_
      rintro e w7 ⟨s7, rfl, hi7, hb7, ho7⟩
      obtain ⟨a7, c7, rfl, hj7⟩ := hi7.open
      have HRES : Hid (Res w w7) := by
        have hres := HO.out.res
        have hsz : w.heap.size < wr.heap.size := (Array.getElem?_eq_some_iff.1 hres).1
        exact (hb7.block _ hsz).trans hres
      have HB7 := Lib.hid (HO.out.below.trans (hb7.mono HO.out.below.size))
      have HI7 := Lib.hid hj7
      have HO7 := Lib.hid ho7
      obtain ⟨r0, r1, f0, f1⟩ := HRES.out.cells
      clear hi7 hj7 hb7 ho7
      go_wp2_with fail
      have hsz : w.heap.size < wr.heap.size := (Array.getElem?_eq_some_iff.1 HO.out.res).1
      have hoff := HO7.out w.heap.size hsz
      exact bodyPost_ret (v := .agg #[.int .i64 n.sign, .slice a7 (digs n.natAbs).length c7]) (by simp [results, Try.results54, go_sem, r0, r1]) rfl
        ⟨_, rfl, (HI7.out.set hoff 0 _).set hoff 1 _, (HB7.out.setCell (Nat.le_refl _) _).setCell (Nat.le_refl _) _, HO7.out.mono (Nat.le_of_lt hsz)⟩
    · have hpos : 0 < R := by omega
      obtain ⟨a, c, w', hrun, hO'⟩ := hO.next HN.out hpos
      obtain ⟨y, ey⟩ : ∃ y : Nat, R % 1048576 = y := ⟨_, rfl⟩
      obtain ⟨q, eq⟩ : ∃ q : Nat, R / 1048576 = q := ⟨_, rfl⟩
      rw [ey] at hrun hO'
      rw [eq] at hO'
      obtain ⟨t, et⟩ : ∃ t, -(y : Int) = t := ⟨_, rfl⟩
      obtain ⟨u, eu⟩ : ∃ u, -(q : Int) = u := ⟨_, rfl⟩
      have hmod : Int.tmod ρ 1048576 = t := by rw [hρ, ← et, Int.neg_tmod, Int.tmod_eq_emod_of_nonneg (by omega)]; omega
      have hdiv : Int.tdiv ρ 1048576 = u := by rw [hρ, ← eu, Int.neg_tdiv, Int.tdiv_eq_ediv_of_nonneg (by omega)]; omega
      have hw1 : IntKind.i64.wrap t = t := IntWalk.i64_in _ (by omega)
      have hw2 : IntKind.i64.wrap u = u := IntWalk.i64_in _ (by omega)
      have hw3 : IntKind.i64.wrap (-t) = -t := IntWalk.i64_in _ (by omega)
      have hne : (ρ != 0) = true := by simp; omega
      have hun : u.natAbs < ρ.natAbs := by omega
      have HU := Lib.hid hun
      have HQL : Hid (q ≤ 9223372036854775808) := by unfold Hid; omega
      have HO' := Lib.hid hO'
      have HEU : Hid (u = -(q : Int)) := eu.symm
      obtain ⟨Y, eY⟩ : ∃ Y : Int, (y : Int) = Y := ⟨_, rfl⟩
      rw [eY] at hrun HO'
      by_cases ht : t < 0
      · have hd : decide (t < 0) = true := decide_eq_true ht
        obtain rfl : Y = -t := by omega
        clear hO ey eq et eu hρ hle hR0 hpos eY hun
        go_wp2_with (at_builtin; refine Lib.wpList_append_run _ rfl _ _ _ _ rfl _ _ rfl rfl _ _ (hrun _) ?_)
        go_roundw
        case rel => exact ⟨q, _, _, rfl, HEU.out, HQL.out, HO'.out⟩
        case measure => exact HU.out
      · have hd : decide (t < 0) = false := decide_eq_false ht
        obtain rfl : Y = t := by omega
        clear hO ey eq et eu hρ hle hR0 hpos eY hun hw3
        go_wp2_with (at_builtin; refine Lib.wpList_append_run _ rfl _ _ _ _ rfl _ _ rfl rfl _ _ (hrun _) ?_)
        go_roundw
        case rel => exact ⟨q, _, _, rfl, HEU.out, HQL.out, HO'.out⟩
        case measure => exact HU.out

theorem rof_any (n : Int) (h0 : -9223372036854775808 ≤ n) (h1 : n ≤ 9223372036854775807) (w : World) :
    Calls Try.prog 54 #[.int .i64 n] w (AnsB n w) := by
  rcases Int.lt_trichotomy n 0 with h | h | h
  · exact rof_neg n h0 h1 h w
  · subst h; exact rof_zero w
  · exact rof_pos n h0 h1 h w
end Go.Proofs.Ytgncnkojpedmdaa.Bi

namespace Go.Proofs.Ytgncnkojpedmdaa.Bi
open Go.RowKit

/-- The box of one argument. -/
structure Bu (w : World) (sa : Int) (va : Value) (W : World) : Prop where
  cells : W.cell? ⟨w.heap.size, 0, none⟩ = some (.int .i64 sa) ∧ W.cell? ⟨w.heap.size, 1, none⟩ = some va
  below : RowKit.Below w.heap.size w W
  size : w.heap.size < W.heap.size
theorem Bu.start (w : World) (sa : Int) (va : Value) : Bu w sa va (w.alloc (.cells #[.int .i64 sa, va] 24)) := by
  have h' := alloc_at w (.cells #[.int .i64 sa, va] 24)
  exact ⟨⟨by rw [cell_of_row _ _ _ _ _ _ h']; rfl, by rw [cell_of_row _ _ _ _ _ _ h']; rfl⟩, below_alloc _ _, by simp⟩
theorem Bu.later {w W W' : World} {sa : Int} {va : Value} (h : Bu w sa va W) (hb : RowKit.Below W.heap.size W W') : Bu w sa va W' := by
  have hz := h.size
  obtain ⟨c0, c1⟩ := h.cells
  have hc : ∀ b o, b < W.heap.size → W'.cell? ⟨b, o, none⟩ = W.cell? ⟨b, o, none⟩ := fun b o hb' => hb.cell (p := ⟨b, o, none⟩) hb'
  exact ⟨⟨(hc _ _ (by omega)).trans c0, (hc _ _ (by omega)).trans c1⟩, h.below.trans (hb.mono h.below.size), Nat.lt_of_lt_of_le hz hb.size⟩
theorem Bu.heap {w W W' : World} {sa : Int} {va : Value} (h : Bu w sa va W) (hb : W'.heap = W.heap) (h1 : W'.os = W.os) (h2 : W'.tape = W.tape) (h3 : W'.output = W.output) : Bu w sa va W' :=
  h.later ⟨h1, h2, h3, by rw [hb]; exact Nat.le_refl _, fun k _ => by rw [hb]⟩

end Go.Proofs.Ytgncnkojpedmdaa.Bi

namespace Go.Proofs.Ytgncnkojpedmdaa.Bi
open Go.RowKit Go.Lib

/-- The digits of a number, none for 0. -/
def dz (n : Nat) : List UInt8 := if n = 0 then [] else decDigits n
end Go.Proofs.Ytgncnkojpedmdaa.Bi

namespace Go.Proofs.Ytgncnkojpedmdaa.Bi
open Go.RowKit

/-- What Read leaves. -/
def ReadP (rs : Option Int) (w : World) (e : Ending) (w' : World) : Prop := match rs with | some z => Ans z 0 w e w' | none => Ans 0 2 w e w'
theorem ReadP.some {rs : Option Int} {z : Int} {w w' : World} {e : Ending} (h : rs = Option.some z) (ha : Ans z 0 w e w') : ReadP rs w e w' := by subst h; exact ha
end Go.Proofs.Ytgncnkojpedmdaa.Bi
