/- What the listed variables hold, for frac; how a fraction is read as an argument. What BigInts and BigBack want besides. -/
import Derived.Test.YtnddickcnfodfaaGreatDoorM15
import Derived.Test.YtnddickcnfodfaaGreatDoorM11
import Derived.Test.YtnddickcnfodfaaGreatDoorM14
import Derived.Laws.Concat
set_option maxRecDepth 100000
namespace Go.Proofs.YtnddickcnfodfaaGreatDoor.Bi
open Go.RowKit Go.WideShapes Go.ChangeShapes

theorem envF_of {W : World} (h : laidMetH Tryz.prog Rows.fracTellsRow.laid W) (hs : W.ShapedOpen Tryz.prog) : EnvF W :=
  ⟨env_of h, cell_of_shapedOpen_int (zero := #[.int .i64 0]) (t := 3) hs (of_decide_eq_true (by kernel_rfl)) (by kernel_rfl) rfl (by kernel_rfl) (by kernel_rfl) Tryz.underlying3⟩
theorem cellsOfFrac : Tryz.prog.cellsOf 26 = 4 := by kernel_rfl
section
variable {H : Type} {enc : TypeId × Value → H} {w : World} {base : Nat} {held : Bool}
theorem read_frac {fuel : Nat} {cs : List Value} {x : DataW H × List MemPlace} (h : DataW.trod enc Tryz.prog w base (fun _ => true) held fuel 26 cs = some x) :
    ∃ (s : Int) (a : Option Addr) (l : List Int) (cap : Nat) (t : Int) (b : Option Addr) (k : List Int) (dap : Nat), cs = [.int .i64 s, .slice a l.length cap, .int .i64 t, .slice b k.length dap] ∧ l.length ≤ 9223372036854775807 ∧ (l.length ≤ 1000000000 → Ints w (.slice a l.length cap) l) ∧ k.length ≤ 9223372036854775807 ∧ (k.length ≤ 1000000000 → Ints w (.slice b k.length dap) k) := by
  obtain ⟨ys, n, _, _, hlen, hyl, hf⟩ := DataW.trod_struct Tryz.underlying26 h
  rw [cellsOfFrac] at hlen
  match cs, hlen with
  | [c0, c1, c2, c3], _ =>
    match ys, hyl with
    | [y0, y1], _ =>
      have h0 : DataW.trod enc Tryz.prog w base (fun _ => true) held n 24 [c0, c1] = some y0 := by simpa [cellsOfBig] using hf 0 _ rfl
      have h1 : DataW.trod enc Tryz.prog w base (fun _ => true) held n 24 [c2, c3] = some y1 := by simpa [cellsOfBig] using hf 1 _ rfl
      obtain ⟨s, a, l, cap, e0, m0, i0, _⟩ := read_big h0
      obtain ⟨t, b, k, dap, e1, m1, i1, _⟩ := read_big h1
      simp at e0 e1
      obtain ⟨rfl, rfl⟩ := e0
      obtain ⟨rfl, rfl⟩ := e1
      exact ⟨s, a, l, cap, t, b, k, dap, rfl, m0, i0, m1, i1⟩
end
end Go.Proofs.YtnddickcnfodfaaGreatDoor.Bi

namespace Go.Proofs.YtnddickcnfodfaaGreatDoor.Bi
open Go.RowKit

section
variable {w : World} {sa : Int} {va : Value} {z : Int}
theorem text_l (ha : Num w sa va z) (la : Len 100000 z) (he : Env w) {l : List UInt8} (h : Go.Lib.itoa z = l) : Calls Tryz.prog 66 #[.agg #[.int .i64 sa, va]] w fun e w' => e = .returned (.string ⟨l.toArray⟩) ∧ RowKit.Below w.heap.size w w' := by
  subst h; exact text_k ha la he
theorem text_s (ha : Num w sa va z) (la : Len 100000 z) (he : Env w) {s : ByteArray} (h : Go.Lib.itoa z = s.data.toList) : Calls Tryz.prog 66 #[.agg #[.int .i64 sa, va]] w fun e w' => e = .returned (.string s) ∧ RowKit.Below w.heap.size w w' := by
  have := text_k ha la he
  rw [h] at this
  exact this
end
theorem of_v {k z : Int} (h : k = z) (hz : -9223372036854775808 ≤ z ∧ z ≤ 9223372036854775807) (w : World) : Calls Tryz.prog 42 #[.int .i64 k] w (BV z w) := by
  subst h; exact of_k k hz w
theorem read_s {s : ByteArray} {z : Int} (h : readS s.data.toList = some z) (hs : s.size ≤ 100000) (w : World) : Calls Tryz.prog 52 #[.string s] w (BVE z 0 w) := by
  have := read_any s hs w
  rw [h] at this
  exact this.mono fun _ _ h => h.bve
theorem str_ne {x y : List UInt8} (h : x ≠ y) : ((⟨x.toArray⟩ : ByteArray).toList == (⟨y.toArray⟩ : ByteArray).toList) = false := by
  rw [Lib.toList_data, Lib.toList_data, beq_eq_false_iff_ne]
  simpa using h
theorem mul_in30 {a b : Int} (h1 : -1073741824 < a) (h2 : a < 1073741824) (h3 : -1073741824 < b) (h4 : b < 1073741824) : -1152921504606846976 ≤ a * b ∧ a * b ≤ 1152921504606846976 := by
  have e : (a * b).natAbs = a.natAbs * b.natAbs := Int.natAbs_mul a b
  have : a.natAbs * b.natAbs ≤ 1073741824 * 1073741824 := Nat.mul_le_mul (by omega) (by omega)
  omega
theorem nDig_le : ∀ (k u : Nat), u < 10 ^ (k + 1) → Go.Lib.nDigits u ≤ k + 1
  | 0, u, h => by rw [Go.Lib.nDigits_small (by simpa using h)]; omega
  | k + 1, u, h => by
    by_cases h10 : u < 10
    · rw [Go.Lib.nDigits_small h10]; omega
    · rw [Go.Lib.nDigits_big h10]
      have := nDig_le k (u / 10) (by rw [Nat.pow_succ] at h; omega)
      omega
theorem P_dec : ∀ k, P k ≤ (10 : Int) ^ (7 * k)
  | 0 => by simp [P]
  | k + 1 => by
    have := P_dec k
    rw [P_succ, show 7 * (k + 1) = 7 * k + 7 by omega, Int.pow_add]
    have h2 : (10 : Int) ^ 7 = 10000000 := by decide
    rw [h2]
    have h3 := P_pos k
    omega
theorem itoa_size {k : Nat} {z : Int} (h : Sz k z) (hk : 1 ≤ k) : (Go.Lib.itoa z).length ≤ 7 * k + 1 := by
  have h1 : z.natAbs < 10 ^ (7 * k) := by
    have h2 := P_dec k
    have h3 : ((10 ^ (7 * k) : Nat) : Int) = (10 : Int) ^ (7 * k) := by push_cast; rfl
    unfold Sz at h
    omega
  have h4 : Go.Lib.nDigits z.natAbs ≤ 7 * k := by
    have := nDig_le (7 * k - 1) z.natAbs (by rwa [show 7 * k - 1 + 1 = 7 * k by omega])
    omega
  unfold Go.Lib.itoa
  split
  · rw [List.length_cons, Go.Lib.decDigits_length]; omega
  · rw [Go.Lib.decDigits_length, show z.toNat = z.natAbs by omega]; omega
theorem size_of (x : List UInt8) : (⟨x.toArray⟩ : ByteArray).size = x.length := by show x.toArray.size = _; simp
end Go.Proofs.YtnddickcnfodfaaGreatDoor.Bi
