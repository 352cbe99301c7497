/- Floors, for FracFloor. -/
import Derived.Test.YtbbjogkapcakpaaGreatDoorLFr13
set_option maxRecDepth 100000
namespace Go.Proofs.YtbbjogkapcakpaaGreatDoor.Bi
open Go.RowKit

theorem floor_sz {k : Nat} {r : Rat} (h : FSz k r) : Sz k r.floor := by
  rw [← rat_floor]
  exact h.1.fdiv
theorem int_fsz {k : Nat} {z : Int} (h : Sz k z) (hk : 1 ≤ k) : FSz k (Rat.divInt z 1) :=
  FSz.mk' rfl (by omega) h (Sz.mono (Sz.of (k := 1) (by decide +kernel)) hk)
theorem floor_le_x {r x : Rat} {z : Int} (h : r.floor = z) (hx : Rat.divInt z 1 = x) : x ≤ r := by
  subst h; rw [← hx, rat_int]; exact Rat.floor_le r
theorem floor_lt {r x : Rat} {z : Int} (h : r.floor = z) (hx : Rat.divInt z 1 = x) (hn : x ≠ r) : x < r := Rat.lt_of_le_of_ne (floor_le_x h hx) hn
theorem floor_gt {r y : Rat} {z : Int} (h : r.floor = z) (hy : Rat.divInt (z + 1) 1 = y) : r < y := by
  subst h; rw [← hy, rat_int]; exact Rat.lt_floor_add_one r
theorem floor_neg_whole {r x : Rat} {z : Int} (hx : Rat.divInt z 1 = x) (h : x = r) : (-r).floor = -z := by
  rw [← h, ← hx, rat_int, ← Rat.intCast_neg, Rat.floor_intCast]
theorem floor_neg_part {r x : Rat} {z : Int} (h : r.floor = z) (hx : Rat.divInt z 1 = x) (hn : x ≠ r) : (-r).floor = -(z + 1) := by
  have h1 := floor_lt h hx hn
  have h2 := floor_gt h (y := Rat.divInt (z + 1) 1) rfl
  rw [← hx, rat_int] at h1
  rw [rat_int] at h2
  have a1 : -(z + 1) ≤ (-r).floor := by
    rw [Rat.le_floor_iff, Rat.intCast_neg]
    exact Rat.neg_le_neg (Rat.le_of_lt h2)
  have a2 : (-r).floor < -z := by
    rw [Rat.floor_lt_iff, Rat.intCast_neg]
    exact Rat.neg_lt_neg h1
  omega
/-- The opposite of a fraction, out of the opposite of its numerator. -/
theorem Sf.frneg {w W : World} {L : List FBox} {F : List (Value × List Int)} (h : Sf w L F W) {v u : Value} {r : Rat} {s : Int} (h1 : (v, digs (-r.num).natAbs) ∈ F) (h2 : (u, digs (r.den : Int).natAbs) ∈ F) (e : s = (-r.num).sign) : Fr W s v u (-r) :=
  ⟨h.num (z := -r.num) h1 e, h.num (z := (r.den : Int)) h2 (den_sign r).symm⟩
end Go.Proofs.YtbbjogkapcakpaaGreatDoor.Bi
