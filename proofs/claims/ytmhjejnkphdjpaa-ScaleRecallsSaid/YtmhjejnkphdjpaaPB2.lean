/- How a slice reads as a list of digits. The contracts of digit, top, trim. The contracts of top, trim, add. A block of digits that is written in place. The contracts of add, combine, signed, times. The contracts of combine, signed, times. The contracts of signed, times. -/
import Derived.WalkKit
import Derived.WalkSmall
import Derived.WalkMore
import Derived.Outline
import Derived.Lib.Hide
import Derived.IntWalk
import Derived.Deep.LoopGhost
import Derived.Deep.QuietTactic
import Derived.BigQuiet
import Derived.Deep.RegionWith
import Derived.Test.YtmhjejnkphdjpaaChecked
import Derived.Test.YtmhjejnkphdjpaaPB1
set_option maxRecDepth 100000
namespace Go.Proofs.Ytmhjejnkphdjpaa.Bi
open Go.RowKit

/-- From offset o on, block b holds the ints l. -/
def Row (w : World) (b o : Nat) (l : List Int) : Prop := ∀ i, i < l.length → w.cell? ⟨b, o + i, none⟩ = some (.int .i64 (l.getD i 0))
/-- The slice v reads as the ints l. -/
def Ints (w : World) (v : Value) (l : List Int) : Prop :=
  ∃ a cap, v = .slice a l.length cap ∧ l.length ≤ cap ∧ l.length ≤ 1000000000 ∧ (l = [] ∨ ∃ b o, a = some ⟨b, o, none⟩ ∧ b < w.heap.size ∧ Row w b o l)
theorem Row.later {w w' : World} {b o : Nat} {l : List Int} (h : Row w b o l) (hb : RowKit.Below w.heap.size w w') (hlt : b < w.heap.size) : Row w' b o l :=
  fun i hi => (hb.cell (p := ⟨b, o + i, none⟩) hlt).trans (h i hi)
theorem Ints.later {w w' : World} {v : Value} {l : List Int} (h : Ints w v l) (hb : RowKit.Below w.heap.size w w') : Ints w' v l := by
  obtain ⟨a, cap, rfl, h1, h2, h3⟩ := h
  refine ⟨a, cap, rfl, h1, h2, ?_⟩
  rcases h3 with rfl | ⟨b, o, rfl, hlt, hr⟩
  · exact .inl rfl
  · exact .inr ⟨b, o, rfl, Nat.lt_of_lt_of_le hlt hb.size, hr.later hb hlt⟩
theorem Ints.drew {w : World} {v : Value} {l : List Int} (h : Ints w v l) : Ints w.drew v l := h
theorem Ints.shape {w : World} {a : Option Addr} {n cap : Nat} {l : List Int} (h : Ints w (.slice a n cap) l) : n = l.length ∧ n ≤ cap ∧ n ≤ 1000000000 ∧ (0 < n → ∃ b o, a = some ⟨b, o, none⟩ ∧ b < w.heap.size ∧ Row w b o l) := by
  obtain ⟨a', cap', hv, h1, h2, h3⟩ := h
  simp at hv
  obtain ⟨rfl, rfl, rfl⟩ := hv
  refine ⟨rfl, h1, h2, fun h0 => ?_⟩
  rcases h3 with rfl | h3
  · simp at h0
  · exact h3

theorem digit_any (v : Value) (l : List Int) (i : Int) (w : World) (h : Ints w v l) :
    Calls Try.prog 93 #[v, .int .i64 i] w fun e w' => e = .returned (.int .i64 (if i < 0 then 0 else l.getD i.toNat 0)) ∧ w = w' := by
  obtain ⟨a, cap, rfl, h1, h2, h3⟩ := h
  by_cases h0 : i < 0
  · rw [if_pos h0]
    clear h3
    go_enter Try.func93, Try.ntmps93
    go_wp2
    go_ret
    exact ⟨rfl, rfl⟩
  · rw [if_neg h0]
    obtain ⟨n, rfl⟩ : ∃ n : Nat, i = n := ⟨i.toNat, by omega⟩
    rw [Int.toNat_natCast]
    by_cases hn : n < l.length
    · obtain ⟨b, o, rfl, hlt, hr⟩ := h3.resolve_left (fun e => by subst e; simp at hn)
      have hc := hr n hn
      clear hr h0
      obtain ⟨d, hd⟩ : ∃ d, l.getD n 0 = d := ⟨_, rfl⟩
      rw [hd] at hc ⊢
      clear hd
      obtain ⟨m, hm⟩ : ∃ m, l.length = m := ⟨_, rfl⟩
      rw [hm] at hn h1 h2 ⊢
      clear hm
      go_enter Try.func93, Try.ntmps93
      go_wp2
      go_ret
      exact ⟨rfl, rfl⟩
    · have hz : l.getD n 0 = 0 := by rw [List.getD_eq_getElem?_getD, List.getElem?_eq_none (by omega)]; rfl
      rw [hz]
      clear hz h3 h0
      obtain ⟨m, hm⟩ : ∃ m, l.length = m := ⟨_, rfl⟩
      rw [hm] at hn h1 h2 ⊢
      clear hm
      go_enter Try.func93, Try.ntmps93
      go_wp2
      go_ret
      exact ⟨rfl, rfl⟩
end Go.Proofs.Ytmhjejnkphdjpaa.Bi

namespace Go.Proofs.Ytmhjejnkphdjpaa.Bi
open Go.RowKit

theorem ret_i {a b : Int} (h : a = b) : Ending.returned (.int .i64 a) = .returned (.int .i64 b) := by rw [h]

theorem top_any (v : Value) (l : List Int) (n : Int) (hd : Dig l) (h0 : 0 ≤ n) (h1 : n ≤ 1000000000) (w : World) (h : Ints w v l) :
    Calls Try.prog 77 #[v, .int .i64 n] w fun e w' => e = .returned (.int .i64 (top3 l n)) ∧ w = w' := by
  have b1 := dg_bd hd (n - 1)
  have b2 := dg_bd hd (n - 2)
  have b3 := dg_bd hd (n - 3)
  obtain ⟨x, hx⟩ : ∃ x, dg l (n - 1) = x := ⟨_, rfl⟩
  obtain ⟨y, hy⟩ : ∃ y, dg l (n - 2) = y := ⟨_, rfl⟩
  obtain ⟨z, hz⟩ : ∃ z, dg l (n - 3) = z := ⟨_, rfl⟩
  have HT : Hid (top3 l n = x * 1099511627776 + y * 1048576 + z) := by unfold top3; rw [hx, hy, hz]; rfl
  rw [hx] at b1
  rw [hy] at b2
  rw [hz] at b3
  have HX := Lib.hid hx
  have HY := Lib.hid hy
  have HZ := Lib.hid hz
  have H := Lib.hid h
  clear hx hy hz h hd
  go_enter Try.func77, Try.ntmps77
  go_wp2_with fail
  refine (digit_any v l (n - 1) _ H.out).mono ?_
  rintro e w' ⟨rfl, rfl⟩
  rw [show (if n - 1 < 0 then 0 else l.getD (n - 1).toNat 0) = x from HX.out]
  go_wp2_with fail
  refine (digit_any v l (n - 2) _ H.out).mono ?_
  rintro e w' ⟨rfl, rfl⟩
  rw [show (if n - 2 < 0 then 0 else l.getD (n - 2).toNat 0) = y from HY.out]
  go_wp2_with fail
  refine (digit_any v l (n - 3) _ H.out).mono ?_
  rintro e w' ⟨rfl, rfl⟩
  rw [show (if n - 3 < 0 then 0 else l.getD (n - 3).toNat 0) = z from HZ.out]
  go_wp2_with fail
  go_ret
  refine ⟨ret_i ?_, rfl⟩
  rw [HT.out, or40 x y (by omega) (by omega) (by omega) (by omega), or20 _ z (by omega) (by omega) (by omega) (by omega) (by omega)]

theorem trim_any (a : Option Addr) (cap : Nat) (l : List Int) (hd : Dig l) (w : World) (h : Ints w (.slice a l.length cap) l) :
    Calls Try.prog 92 #[.slice a l.length cap] w fun e w' => e = .returned (.slice a (digs (val l).toNat).length cap) ∧ w = w' := by
  have hm := dig_len hd
  have HZ : Hid (∀ i, (digs (val l).toNat).length ≤ i → l.getD i 0 = 0) := fun i hi => dig_zero hd hi
  have HT : Hid (0 < (digs (val l).toNat).length → l.getD ((digs (val l).toNat).length - 1) 0 ≠ 0) := by
    intro h0
    have h1 : 0 < (val l).toNat := by
      rcases Nat.eq_zero_or_pos (val l).toNat with e | e
      · rw [e, digs_zero] at h0; simp at h0
      · exact e
    have h2 := digs_top h1
    have h3 := dig_take hd
    rw [← h3] at h2
    rw [List.getD_eq_getElem?_getD, List.getElem?_take] at h2
    rw [List.length_take] at h2
    rw [if_pos (by omega), show min (digs (val l).toNat).length l.length = (digs (val l).toNat).length by omega] at h2
    rwa [List.getD_eq_getElem?_getD]
  obtain ⟨_, h1, h2, h3⟩ := h.shape
  obtain ⟨m, em⟩ : ∃ m, (digs (val l).toNat).length = m := ⟨_, rfl⟩
  rw [em] at hm HZ HT ⊢
  have HC : Hid (∀ i, i < l.length → ∃ b o, a = some ⟨b, o, none⟩ ∧ w.cell? ⟨b, o + i, none⟩ = some (.int .i64 (l.getD i 0))) := by
    intro i hi
    obtain ⟨b, o, e, _, hr⟩ := h3 (by omega)
    exact ⟨b, o, e, hr i hi⟩
  clear em h3 h hd
  obtain ⟨n, en⟩ : ∃ n, l.length = n := ⟨_, rfl⟩
  rw [en] at hm h1 h2 HC ⊢
  clear en
  go_enter Try.func92, Try.ntmps92
  go_wp2
  go_loop [3] (fun t => ∃ k : Nat, m ≤ k ∧ k ≤ n ∧ t = .int .i64 k) (fun t => (intOf t).toNat)
  case atStart => exact ⟨n, hm, Nat.le_refl _, rfl⟩
  case round =>
    obtain ⟨k, hk1, hk2, rfl⟩ := hrel
    cases k with
    | zero =>
      obtain rfl : m = 0 := by omega
      go_wp2
      go_ret
      exact ⟨rfl, rfl⟩
    | succ j =>
      obtain ⟨b, o, rfl, hc⟩ := HC.out j (by omega)
      by_cases hj : m ≤ j
      · rw [HZ.out j hj] at hc
        go_wp2
        go_round
        case rel => exact ⟨j, hj, by omega, by go_num⟩
        case measure => simp [intOf]
      · obtain rfl : m = j + 1 := by omega
        have hne := HT.out (by omega)
        rw [Nat.add_sub_cancel] at hne
        obtain ⟨d, hd⟩ : ∃ d, l.getD j 0 = d := ⟨_, rfl⟩
        rw [hd] at hne hc
        have hne' : (d == 0) = false := by simpa using hne
        clear hne hd
        go_wp2
        go_ret
        exact ⟨rfl, rfl⟩
end Go.Proofs.Ytmhjejnkphdjpaa.Bi

namespace Go.Proofs.Ytmhjejnkphdjpaa.Bi
open Go.RowKit

/-- Block g is one of ints; it begins with R. -/
def Mem (w : World) (g : Nat) (R : List Int) : Prop := ∃ cur, w.heap[g]? = some (.cells cur 3 (0, 0)) ∧ ∀ j, j < R.length → cur[j]? = some (.int .i64 (R.getD j 0))
theorem Mem.cell {w : World} {g : Nat} {R : List Int} (h : Mem w g R) {j : Nat} (hj : j < R.length) : w.cell? ⟨g, j, none⟩ = some (.int .i64 (R.getD j 0)) := by
  obtain ⟨cur, h1, h2⟩ := h
  rw [cell_of_row w g j cur 3 (0, 0) h1]
  exact h2 j hj
theorem Mem.free {w : World} {g : Nat} {R : List Int} (h : Mem w g R) (j : Nat) : w.frozen? ⟨g, j, none⟩ = false := by
  obtain ⟨cur, h1, _⟩ := h
  simp [World.frozen?, h1]
theorem Mem.lt {w : World} {g : Nat} {R : List Int} (h : Mem w g R) : g < w.heap.size := by
  obtain ⟨cur, h1, _⟩ := h
  exact (Array.getElem?_eq_some_iff.1 h1).1
theorem Mem.set {w : World} {g : Nat} {R : List Int} (h : Mem w g R) {j : Nat} (hj : j < R.length) (v : Int) : Mem (w.setCell ⟨g, j, none⟩ (.int .i64 v)) g (R.set j v) := by
  obtain ⟨cur, h1, h2⟩ := h
  refine ⟨cur.setIfInBounds j (.int .i64 v), by simp [World.setCell, Array.getElem?_modify, h1], fun k hk => ?_⟩
  rw [List.length_set] at hk
  have hc := (Array.getElem?_eq_some_iff.1 (h2 k hk)).1
  by_cases e : j = k
  · subst e
    rw [getD_set_eq hj, Array.getElem?_setIfInBounds_self_of_lt hc]
  · rw [getD_set_ne e, Array.getElem?_setIfInBounds_ne e]
    exact h2 k hk
theorem Mem.kept {w w' : World} {g : Nat} {R : List Int} (h : Mem w g R) (hg : w'.heap[g]? = w.heap[g]?) : Mem w' g R := by
  obtain ⟨cur, h1, h2⟩ := h
  exact ⟨cur, hg.trans h1, h2⟩
theorem Mem.later {w w' : World} {g : Nat} {R : List Int} (h : Mem w g R) (hb : RowKit.Below w.heap.size w w') : Mem w' g R := h.kept (hb.block g h.lt)
theorem Mem.take {w : World} {g : Nat} {R : List Int} (h : Mem w g R) (k : Nat) : Mem w g (R.take k) := by
  obtain ⟨cur, h1, h2⟩ := h
  refine ⟨cur, h1, fun j hj => ?_⟩
  rw [List.length_take] at hj
  rw [h2 j (by omega), List.getD_eq_getElem?_getD, List.getD_eq_getElem?_getD, List.getElem?_take, if_pos (by omega)]
theorem Mem.row {w : World} {g : Nat} {R : List Int} (h : Mem w g R) (i n : Nat) (hn : i + n ≤ R.length) : Row w g i ((R.drop i).take n) := by
  intro j hj
  rw [List.length_take, List.length_drop] at hj
  rw [h.cell (by omega), List.getD_eq_getElem?_getD, List.getD_eq_getElem?_getD, List.getElem?_take, if_pos (by omega), List.getElem?_drop]
theorem Mem.ints {w : World} {g : Nat} {R : List Int} (h : Mem w g R) (i n cap : Nat) (hn : i + n ≤ R.length) (h1 : n ≤ cap) (h2 : cap ≤ 1000000000) : Ints w (.slice (some ⟨g, i, none⟩) n cap) ((R.drop i).take n) := by
  have e : ((R.drop i).take n).length = n := by rw [List.length_take, List.length_drop]; omega
  exact ⟨_, cap, by rw [e], by omega, by omega, .inr ⟨g, i, rfl, h.lt, h.row i n hn⟩⟩
theorem Mem.ints0 {w : World} {g : Nat} {R : List Int} (h : Mem w g R) (cap : Nat) (h1 : R.length ≤ cap) (h2 : cap ≤ 1000000000) : Ints w (.slice (some ⟨g, 0, none⟩) R.length cap) R := by
  have := h.ints 0 R.length cap (by omega) h1 h2
  simpa using this

theorem on_trans {b : Option Nat} {a c d : World} (h : a.grownBy c b) (k : c.grownBy d b) : a.grownBy d b :=
  ⟨k.os.trans h.os, k.tape.trans h.tape, k.output.trans h.output, Nat.le_trans h.size k.size, fun i hi hne => (k.block i (Nat.lt_of_lt_of_le hi h.size) hne).trans (h.block i hi hne)⟩
theorem on_set {b : Nat} {a c : World} (h : a.grownBy c (some b)) (o : Nat) (v : Value) : a.grownBy (c.setCell ⟨b, o, none⟩ v) (some b) :=
  on_trans h ⟨rfl, rfl, rfl, by simp [World.setCell], fun k _ hk => Below.heap_setCell _ _ _ _ (fun e => hk (by simp [e]))⟩
theorem on_refl (b : Option Nat) (w : World) : w.grownBy w b := ⟨rfl, rfl, rfl, Nat.le_refl _, fun _ _ _ => rfl⟩
theorem on_below {b : Option Nat} {w w' : World} (h : RowKit.Below w.heap.size w w') : w.grownBy w' b := ⟨h.os, h.tape, h.output, h.size, fun k hk _ => h.block k hk⟩
theorem below_on {B b : Nat} {w w' : World} (h : w.grownBy w' (some b)) (hB : B ≤ w.heap.size) (hb : B ≤ b) : RowKit.Below B w w' :=
  ⟨h.os, h.tape, h.output, h.size, fun k hk => h.block k (by omega) (fun e => by cases e; omega)⟩

/-- The slice is not one of block g. -/
def Off (v : Value) (g : Nat) : Prop := ∀ a n c, v = .slice (some a) n c → 0 < n → a.block ≠ g
theorem Ints.grown {w w' : World} {v : Value} {l : List Int} {g : Nat} (h : Ints w v l) (ho : Off v g) (hg : w.grownBy w' (some g)) : Ints w' v l := by
  obtain ⟨a, cap, rfl, h1, h2, h3⟩ := h
  refine ⟨a, cap, rfl, h1, h2, ?_⟩
  rcases h3 with rfl | ⟨b, o, rfl, hlt, hr⟩
  · exact .inl rfl
  · by_cases hl : l = []
    · exact .inl hl
    · have hne := ho _ _ _ rfl (List.length_pos_iff.2 hl)
      refine .inr ⟨b, o, rfl, Nat.lt_of_lt_of_le hlt hg.size, fun i hi => ?_⟩
      rw [World.cell?_of_block (w := w) (hg.block b hlt (fun e => hne (by simpa using e)))]
      exact hr i hi
theorem Ints.off {w : World} {v : Value} {l : List Int} {g : Nat} (h : Ints w v l) (hg : w.heap.size ≤ g) : Off v g := by
  intro a n c hv h0 e
  subst hv
  obtain ⟨rfl, _, _, h3⟩ := h.shape
  obtain ⟨b, o, e1, hlt, _⟩ := h3 h0
  cases e1
  simp at e
  omega

theorem Ints.set {w : World} {v : Value} {l : List Int} {g : Nat} (h : Ints w v l) (ho : Off v g) (o : Nat) (u : Value) : Ints (w.setCell ⟨g, o, none⟩ u) v l := h.grown ho (on_set (on_refl _ _) _ _)
/-- The slice lies in blocks from B on. -/
def Fresh (B : Nat) (v : Value) : Prop := ∀ g, g < B → Off v g
theorem fresh_mem {B g i n c : Nat} (h : B ≤ g) : Fresh B (.slice (some ⟨g, i, none⟩) n c) := by
  intro g' hg a n' c' e _ e2
  simp at e
  obtain ⟨rfl, rfl, rfl⟩ := e
  simp at e2
  omega
theorem off_nil (g : Nat) (n c : Nat) : Off (.slice none n c) g := by
  intro a n' c' e
  simp at e
theorem Fresh.mono {B B' : Nat} {v : Value} (h : Fresh B v) (hb : B' ≤ B) : Fresh B' v := fun g hg => h g (by omega)
theorem Off.shorter {a : Option Addr} {n m c g : Nat} (h : Off (.slice a n c) g) (hm : m ≤ n) : Off (.slice a m c) g := by
  intro a' n' c' e h0
  simp at e
  obtain ⟨rfl, rfl, rfl⟩ := e
  exact h a' n c rfl (by omega)
theorem mul_bd {q d A : Int} (h1 : -A ≤ q) (h2 : q ≤ A) (h3 : 0 ≤ d) (h4 : d < 1048576) (hA : 0 ≤ A) : -(A * 1048575) ≤ q * d ∧ q * d ≤ A * 1048575 := by
  have e1 : q * d ≤ A * d := Int.mul_le_mul_of_nonneg_right h2 h3
  have e2 : -A * d ≤ q * d := Int.mul_le_mul_of_nonneg_right h1 h3
  have e3 : A * d ≤ A * 1048575 := Int.mul_le_mul_of_nonneg_left (by omega) hA
  have e4 : -A * d = -(A * d) := Int.neg_mul _ _
  omega

/-- The digits of y, q times, have been added to those from i on. -/
def Added (g i n : Nat) (R : List Int) (V : Int) (w : World) (e : Ending) (w' : World) : Prop :=
  ∃ R', e = .returned (.tuple #[]) ∧ Mem w' g R' ∧ w.grownBy w' (some g) ∧ R'.length = R.length ∧ (∀ j, j < i ∨ i + n < j → R'.getD j 0 = R.getD j 0) ∧
    (∀ j, i ≤ j → j < i + n → 0 ≤ R'.getD j 0 ∧ R'.getD j 0 < 1048576) ∧ val R' = val R + P i * V

theorem add_step (VR VR' VR2 Pi Pk Pik c q d s t o : Int) (h1 : VR' + Pik * c = VR + Pi * (q * t)) (hp : Pik = Pi * Pk) (h2 : VR2 = VR' + Pik * (s % 1048576 - o)) (hs : s = c + (o + q * d)) :
   VR2 + 1048576 * Pik * (s / 1048576) = VR + Pi * (q * (t + Pk * d)) := by
  have h3 : s % 1048576 = s - 1048576 * (s / 1048576) := by omega
  rw [h3] at h2
  grind

set_option maxHeartbeats 1000000 in
theorem add_any (g i n cap capy : Nat) (R : List Int) (ay : Option Addr) (ly : List Int) (q : Int) (hn : ly.length = n) (w : World) (hM : Mem w g R) (hlen : i + n + 1 ≤ R.length) (hcap : n + 1 ≤ cap) (hcap' : cap ≤ 1000000000) (hi : i ≤ 1000000000) (hdy : Dig ly)
    (hdR : ∀ j, i ≤ j → j < i + n → 0 ≤ R.getD j 0 ∧ R.getD j 0 < 1048576) (htop : -4294967296 ≤ R.getD (i + n) 0 ∧ R.getD (i + n) 0 ≤ 4294967296) (hq : -2097152 ≤ q ∧ q ≤ 2097152) (hy : Ints w (.slice ay n capy) ly) (hoff : Off (.slice ay n capy) g) :
    Calls Try.prog 95 #[.slice (some ⟨g, i, none⟩) (n + 1) cap, .slice ay n capy, .int .i64 q] w (Added g i n R (q * val ly) w) := by
  obtain ⟨hy0, hy1, hy2, hy3⟩ := hy.shape
  have HY : Hid (∀ w', w.grownBy w' (some g) → ∀ k, k < n → ∃ b o, ay = some ⟨b, o, none⟩ ∧ w'.cell? ⟨b, o + k, none⟩ = some (.int .i64 (ly.getD k 0))) := by
    intro w' hw k hk
    obtain ⟨b, o, e, hlt, hr⟩ := hy3 (by omega)
    refine ⟨b, o, e, ?_⟩
    rw [World.cell?_of_block (w := w) (hw.block b hlt (fun e' => hoff ⟨b, o, none⟩ n capy (by rw [e]) (by omega) (by simpa using e')))]
    exact hr k (by omega)
  have HDy := Lib.hid hdy
  have HDR := Lib.hid hdR
  have HM := Lib.hid hM
  have HT := Lib.hid htop
  have HN := Lib.hid hn
  clear hy0 hy3 hy hoff hdy hdR hM htop hn
  go_enter Try.func95, Try.ntmps95
  go_wp2
  go_loopw [6, 11] (fun c t wr => ∃ (k : Nat) (C : Int) (R' : List Int), k ≤ n ∧ t = .int .i64 k ∧ c = .int .i64 C ∧ -2097160 ≤ C ∧ C ≤ 2097160 ∧ Mem wr g R' ∧ w.grownBy wr (some g) ∧ R'.length = R.length ∧ (∀ j, j < i ∨ i + k ≤ j → R'.getD j 0 = R.getD j 0) ∧
    (∀ j, i ≤ j → j < i + k → 0 ≤ R'.getD j 0 ∧ R'.getD j 0 < 1048576) ∧ val R' + P (i + k) * C = val R + P i * (q * val (ly.take k))) (fun _ t _ => n - (intOf t).toNat)
  case atStart => exact ⟨0, 0, R, Nat.zero_le _, rfl, rfl, by omega, by omega, HM.out, on_refl _ _, rfl, fun _ _ => rfl, fun j h1 h2 => by omega, by simp [val]⟩
  case round =>
    obtain ⟨k, C, R', hk, rfl, rfl, hC1, hC2, hM, hg, hl, hout, hdig, hval⟩ := hrel
    have HG := Lib.hid hg
    have HL := Lib.hid hl
    have HO := Lib.hid hout
    have HD := Lib.hid hdig
    have HV := Lib.hid hval
    have HMM := Lib.hid hM
    clear hg hl hout hdig hval hM
    by_cases hlt : k < n
    · obtain ⟨b, o, rfl, hcy⟩ := HY.out wr HG.out k hlt
      have hcl := HMM.out.cell (j := i + k) (by have := HL.out; omega)
      have hfl := HMM.out.free (i + k)
      rw [HO.out (i + k) (.inr (Nat.le_refl _))] at hcl
      have bo := HDR.out (i + k) (by omega) (by omega)
      have bd := HDy.out.get k
      obtain ⟨old, ho⟩ : ∃ old, R.getD (i + k) 0 = old := ⟨_, rfl⟩
      obtain ⟨d, hd⟩ : ∃ d, ly.getD k 0 = d := ⟨_, rfl⟩
      rw [ho] at hcl bo
      rw [hd] at hcy bd
      have bm := mul_bd (q := q) (d := d) (A := 2097152) (by omega) (by omega) bd.1 bd.2 (by omega)
      have HOl := Lib.hid ho
      have HDd := Lib.hid hd
      clear ho hd


      go_wp2
      go_roundw
      case rel =>
        have hcl2 := HL.out
        have e1 : C + (old + q * d) = C + (old + q * d) := rfl
        refine ⟨k + 1, (C + (old + q * d)) / 1048576, R'.set (i + k) ((C + (old + q * d)) % 1048576), by omega, by go_num, by rfl, by omega, by omega, ?_, ?_, by rw [List.length_set]; exact HL.out, ?_, ?_, ?_⟩
        · rw [mask20]
          exact HMM.out.set (by omega) _
        · exact on_set HG.out _ _
        · intro j hj
          rw [getD_set_ne (by omega)]
          exact HO.out j (by omega)
        · intro j h1 h2
          by_cases e : i + k = j
          · subst e
            rw [getD_set_eq (by omega)]
            omega
          · rw [getD_set_ne e]
            exact HD.out j h1 (by omega)
        · rw [show i + (k + 1) = (i + k) + 1 by omega, P_succ, val_take, HDd.out]
          refine add_step (val R) (val R') _ (P i) (P k) (P (i + k)) C q d _ (val (ly.take k)) old HV.out (P_add i k) ?_ rfl
          rw [val_set _ _ _ (by omega), HO.out (i + k) (.inr (Nat.le_refl _)), HOl.out]
      case measure => simp [intOf]; omega
    · obtain rfl : k = n := by omega
      have hcl2 := HL.out
      have hcl := HMM.out.cell (j := i + k) (by omega)
      have hfl := HMM.out.free (i + k)
      rw [HO.out (i + k) (.inr (Nat.le_refl _))] at hcl
      have bo := HT.out
      obtain ⟨old, ho⟩ : ∃ old, R.getD (i + k) 0 = old := ⟨_, rfl⟩
      rw [ho] at hcl bo
      have HOl := Lib.hid ho
      clear ho hcl2
      go_wp2
      go_end0
      have hcl2 := HL.out
      refine ⟨R'.set (i + k) (old + C), rfl, HMM.out.set (by omega) _, on_set HG.out _ _, by rw [List.length_set]; exact HL.out, ?_, ?_, ?_⟩
      · intro j hj
        rw [getD_set_ne (by omega)]
        exact HO.out j (by omega)
      · intro j h1 h2
        rw [getD_set_ne (by omega)]
        exact HD.out j h1 h2
      · rw [val_set _ _ _ (by omega), HO.out (i + k) (.inr (Nat.le_refl _)), HOl.out]
        have h1 := HV.out
        rw [val_take_all _ (by have := HN.out; omega)] at h1
        grind

theorem infoI : (Try.prog.info? 3).map (fun i => (i.zero, i.size, i.bytes)) = some (some (.int .i64 0), 1, 8) := by kernel_rfl
theorem make_any (N : Nat) (h : N ≤ 1000000000) : ∃ O : Obj, (∀ w, (Instr.makeSlice 30 (.int .i64 (N : Int)) (.int .i64 (N : Int))).run Try.prog w = .ok (.slice (some ⟨w.heap.size, 0, none⟩) N N) (w.alloc O)) ∧
    ∀ (w : World) g, w.heap[g]? = some O → Mem w g (List.replicate N 0) := by
  obtain ⟨i0, hi, hz0, hz1, hz2⟩ := info_parts infoI
  refine ⟨.cells (madeCells (Value.int .i64 0).cells ((N : Int).toNat * i0.size)) 3, fun w => ?_, fun w g hg => ⟨_, hg, fun j hj => ?_⟩⟩
  · have := run_make (P := Try.prog) w 30 3 i0 (.int .i64 0) Try.underlying30 hi hz0 .i64 .i64 N N (by omega) (by omega) (by rw [hz2]; omega) (by omega)
    simpa using this
  · rw [List.length_replicate] at hj
    rw [hz1]
    simp [madeCells, Value.cells, hj, Nat.mod_one]
theorem below_alloc (w : World) (O : Obj) : RowKit.Below w.heap.size w (w.alloc O) := (Below.refl _ _).alloc (Nat.le_refl _) _
theorem alloc_at (w : World) (O : Obj) : (w.alloc O).heap[w.heap.size]? = some O := by
  show (w.heap.push O)[w.heap.size]? = _
  simp
end Go.Proofs.Ytmhjejnkphdjpaa.Bi

namespace Go.Proofs.Ytmhjejnkphdjpaa.Bi
open Go.RowKit

/-- A call that returns the digits of n, in new memory or in old. -/
def Gives (n : Nat) (w : World) (e : Ending) (w' : World) : Prop := ∃ v, e = .returned v ∧ Ints w' v (digs n) ∧ RowKit.Below w.heap.size w w' ∧ Fresh w.heap.size v

theorem comb_step (VL VL2 Pk c a b dx dy tx ty s o : Int) (h1 : VL + Pk * c = a * tx + b * ty) (h2 : VL2 = VL + Pk * (s % 1048576 - o)) (ho : o = 0) (hs : s = c + (a * dx + b * dy)) :
    VL2 + 1048576 * Pk * (s / 1048576) = a * (tx + Pk * dx) + b * (ty + Pk * dy) := by
  have h3 : s % 1048576 = s - 1048576 * (s / 1048576) := by omega
  rw [h3] at h2
  grind

theorem comb_end {VL Pn c V : Int} (h1 : VL + Pn * c = V) (h2 : 0 ≤ VL) (h3 : VL < Pn) (h4 : 0 ≤ V) (h5 : V < Pn) : VL = V := by
  rcases Int.lt_trichotomy c 0 with hc | hc | hc
  · have : Pn * c ≤ Pn * (-1) := Int.mul_le_mul_of_nonneg_left (by omega) (by omega)
    omega
  · subst hc; omega
  · have : Pn * 1 ≤ Pn * c := Int.mul_le_mul_of_nonneg_left (by omega) (by omega)
    omega

set_option maxHeartbeats 2000000 in
theorem combine_any (vx vy : Value) (x y : List Int) (a b : Int) (w : World) (hx : Ints w vx x) (hy : Ints w vy y) (hdx : Dig x) (hdy : Dig y) (ha : -1099511627776 ≤ a ∧ a ≤ 1099511627776) (hb : -1099511627776 ≤ b ∧ b ≤ 1099511627776)
    (hlx : x.length ≤ 10000000) (hly : y.length ≤ 10000000) (h0 : 0 ≤ a * val x + b * val y) (h1 : a * val x + b * val y < P (max x.length y.length + 1)) :
    Calls Try.prog 91 #[vx, vy, .int .i64 a, .int .i64 b] w (Gives (a * val x + b * val y).toNat w) := by
  obtain ⟨ax, capx, rfl, _, _, _⟩ := id hx
  obtain ⟨ay, capy, rfl, _, _, _⟩ := id hy
  obtain ⟨N, hN⟩ : ∃ N, max x.length y.length + 1 = N := ⟨_, rfl⟩
  have hN1 : x.length ≤ N := by omega
  have hN2 : y.length ≤ N := by omega
  have hN3 : N ≤ 10000001 := by omega
  rw [hN] at h1
  obtain ⟨O, hmk0, hO⟩ := make_any N (by omega)
  have HX := Lib.hid hx
  have HY := Lib.hid hy
  have HDX := Lib.hid hdx
  have HDY := Lib.hid hdy
  have HO := Lib.hid hO
  have HV0 := Lib.hid h0
  have HV1 := Lib.hid h1
  have HN1 := Lib.hid hN1
  have HN2 := Lib.hid hN2
  by_cases hxy : x.length < y.length
  · have hmk : ∀ w, (Instr.makeSlice 30 (.int .i64 ((y.length : Int) + 1)) (.int .i64 ((y.length : Int) + 1))).run Try.prog w = .ok (.slice (some ⟨w.heap.size, 0, none⟩) N N) (w.alloc O) := by
      rw [show (y.length : Int) + 1 = (N : Int) by omega]; exact hmk0
    clear hx hy hdx hdy hO h0 h1 hN hN1 hN2 hmk0
    go_enter Try.func91, Try.ntmps91
    go_wp2_with fail
    clear hmk
    go_loopw [10, 21] (fun c t wr => ∃ (k : Nat) (C : Int) (L : List Int), k ≤ N ∧ t = .int .i64 k ∧ c = .int .i64 C ∧ -2199023255552 ≤ C ∧ C ≤ 2199023255552 ∧ Mem wr w.heap.size L ∧ RowKit.Below w.heap.size w wr ∧ L.length = N ∧ (∀ j, k ≤ j → L.getD j 0 = 0) ∧
      (∀ j, j < k → 0 ≤ L.getD j 0 ∧ L.getD j 0 < 1048576) ∧ val L + P k * C = a * val (x.take k) + b * val (y.take k)) (fun _ t _ => N - (intOf t).toNat)
    case atStart =>
      refine ⟨0, 0, List.replicate N 0, Nat.zero_le _, rfl, rfl, by omega, by omega, HO.out _ _ (alloc_at _ _), below_alloc _ _, List.length_replicate, fun j _ => ?_, fun j h => by omega, by simp [val, val_zeros]⟩
      rw [List.getD_eq_getElem?_getD, List.getElem?_replicate]
      split <;> rfl
    case round =>
      obtain ⟨k, C, L, hk, rfl, rfl, hC1, hC2, hM, hB, hl, hz, hdig, hval⟩ := hrel
      have HB := Lib.hid hB
      have HL := Lib.hid hl
      have HZ := Lib.hid hz
      have HD := Lib.hid hdig
      have HV := Lib.hid hval
      have HM := Lib.hid hM
      clear hB hl hz hdig hval hM
      by_cases hlt : k < N
      · have hcl := HM.out.cell (j := k) (by have := HL.out; omega)
        have hfl := HM.out.free k
        clear hcl
        have bx := HDX.out.get k
        have byy := HDY.out.get k
        obtain ⟨dx, hdx⟩ : ∃ d, x.getD k 0 = d := ⟨_, rfl⟩
        obtain ⟨dy, hdy⟩ : ∃ d, y.getD k 0 = d := ⟨_, rfl⟩
        rw [hdx] at bx
        rw [hdy] at byy
        have bm := mul_bd (q := a) (d := dx) (A := 1099511627776) (by omega) (by omega) bx.1 bx.2 (by omega)
        have bn := mul_bd (q := b) (d := dy) (A := 1099511627776) (by omega) (by omega) byy.1 byy.2 (by omega)
        have HDx := Lib.hid hdx
        have HDy := Lib.hid hdy
        clear hdx hdy
        go_wp2_with fail
        refine (digit_any _ x k _ (HX.out.later HB.out)).mono ?_
        rintro e w' ⟨rfl, rfl⟩
        rw [dg_nat, HDx.out]
        go_wp2_with fail
        refine (digit_any _ y k _ (HY.out.later HB.out)).mono ?_
        rintro e w' ⟨rfl, rfl⟩
        rw [dg_nat, HDy.out]
        have hcl := HM.out.cell (j := k) (by have := HL.out; omega)
        rw [HZ.out k (Nat.le_refl _)] at hcl
        go_wp2_with fail
        go_roundw
        case rel =>
          have hl2 := HL.out
          refine ⟨k + 1, (C + (a * dx + b * dy)) / 1048576, L.set k ((C + (a * dx + b * dy)) % 1048576), by omega, by go_num, by rfl, by omega, by omega, ?_, HB.out.setCell (Nat.le_refl _) _, by rw [List.length_set]; exact hl2, ?_, ?_, ?_⟩
          · rw [mask20]
            exact HM.out.set (by omega) _
          · intro j hj
            rw [getD_set_ne (by omega)]
            exact HZ.out j (by omega)
          · intro j hj
            by_cases e : k = j
            · subst e
              rw [getD_set_eq (by omega)]
              omega
            · rw [getD_set_ne e]
              exact HD.out j (by omega)
          · rw [P_succ, val_take, val_take, HDx.out, HDy.out]
            exact comb_step (val L) _ (P k) C a b dx dy _ _ _ (L.getD k 0) HV.out (val_set _ _ _ (by omega)) (HZ.out k (Nat.le_refl _)) rfl
        case measure => simp [intOf]; omega
      · obtain rfl : k = N := by omega
        have hl2 := HL.out
        have hdl : Dig L := dig_of_get fun i hi => HD.out i (by omega)
        have hv : val L = a * val x + b * val y := by
          have h1 := HV.out
          have h2 := val_bd hdl
          rw [val_take_all _ HN1.out, val_take_all _ HN2.out] at h1
          rw [hl2] at h2
          exact comb_end h1 h2.1 h2.2 HV0.out HV1.out
        have ht := trim_any (some ⟨w.heap.size, 0, none⟩) L.length L hdl wr (HM.out.ints0 _ (Nat.le_refl _) (by omega))
        rw [hl2] at ht
        have HVV := Lib.hid hv
        have HDL := Lib.hid hdl
        have HT := Lib.hid ht
        clear hl2 hdl hv ht
        go_wp2_with fail
        refine HT.out.mono ?_
        rintro e w' ⟨rfl, rfl⟩
        go_wp2_with fail
        go_ret
        have hl2 := HL.out
        refine ⟨_, rfl, ?_, HB.out, fresh_mem (Nat.le_refl _)⟩
        have h1 := dig_take HDL.out
        have h2 := dig_len HDL.out
        rw [← HVV.out]
        have h3 := HM.out.ints 0 (digs (val L).toNat).length k (by omega) (by omega) (by omega)
        rw [List.drop_zero, h1] at h3
        exact h3
  · have hmk : ∀ w, (Instr.makeSlice 30 (.int .i64 ((x.length : Int) + 1)) (.int .i64 ((x.length : Int) + 1))).run Try.prog w = .ok (.slice (some ⟨w.heap.size, 0, none⟩) N N) (w.alloc O) := by
      rw [show (x.length : Int) + 1 = (N : Int) by omega]; exact hmk0
    clear hx hy hdx hdy hO h0 h1 hN hN1 hN2 hmk0
    go_enter Try.func91, Try.ntmps91
    go_wp2_with fail
    clear hmk
    go_loopw [10, 21] (fun c t wr => ∃ (k : Nat) (C : Int) (L : List Int), k ≤ N ∧ t = .int .i64 k ∧ c = .int .i64 C ∧ -2199023255552 ≤ C ∧ C ≤ 2199023255552 ∧ Mem wr w.heap.size L ∧ RowKit.Below w.heap.size w wr ∧ L.length = N ∧ (∀ j, k ≤ j → L.getD j 0 = 0) ∧
      (∀ j, j < k → 0 ≤ L.getD j 0 ∧ L.getD j 0 < 1048576) ∧ val L + P k * C = a * val (x.take k) + b * val (y.take k)) (fun _ t _ => N - (intOf t).toNat)
    case atStart =>
      refine ⟨0, 0, List.replicate N 0, Nat.zero_le _, rfl, rfl, by omega, by omega, HO.out _ _ (alloc_at _ _), below_alloc _ _, List.length_replicate, fun j _ => ?_, fun j h => by omega, by simp [val, val_zeros]⟩
      rw [List.getD_eq_getElem?_getD, List.getElem?_replicate]
      split <;> rfl
    case round =>
      obtain ⟨k, C, L, hk, rfl, rfl, hC1, hC2, hM, hB, hl, hz, hdig, hval⟩ := hrel
      have HB := Lib.hid hB
      have HL := Lib.hid hl
      have HZ := Lib.hid hz
      have HD := Lib.hid hdig
      have HV := Lib.hid hval
      have HM := Lib.hid hM
      clear hB hl hz hdig hval hM
      by_cases hlt : k < N
      · have hcl := HM.out.cell (j := k) (by have := HL.out; omega)
        have hfl := HM.out.free k
        clear hcl
        have bx := HDX.out.get k
        have byy := HDY.out.get k
        obtain ⟨dx, hdx⟩ : ∃ d, x.getD k 0 = d := ⟨_, rfl⟩
        obtain ⟨dy, hdy⟩ : ∃ d, y.getD k 0 = d := ⟨_, rfl⟩
        rw [hdx] at bx
        rw [hdy] at byy
        have bm := mul_bd (q := a) (d := dx) (A := 1099511627776) (by omega) (by omega) bx.1 bx.2 (by omega)
        have bn := mul_bd (q := b) (d := dy) (A := 1099511627776) (by omega) (by omega) byy.1 byy.2 (by omega)
        have HDx := Lib.hid hdx
        have HDy := Lib.hid hdy
        clear hdx hdy
        go_wp2_with fail
        refine (digit_any _ x k _ (HX.out.later HB.out)).mono ?_
        rintro e w' ⟨rfl, rfl⟩
        rw [dg_nat, HDx.out]
        go_wp2_with fail
        refine (digit_any _ y k _ (HY.out.later HB.out)).mono ?_
        rintro e w' ⟨rfl, rfl⟩
        rw [dg_nat, HDy.out]
        have hcl := HM.out.cell (j := k) (by have := HL.out; omega)
        rw [HZ.out k (Nat.le_refl _)] at hcl
        go_wp2_with fail
        go_roundw
        case rel =>
          have hl2 := HL.out
          refine ⟨k + 1, (C + (a * dx + b * dy)) / 1048576, L.set k ((C + (a * dx + b * dy)) % 1048576), by omega, by go_num, by rfl, by omega, by omega, ?_, HB.out.setCell (Nat.le_refl _) _, by rw [List.length_set]; exact hl2, ?_, ?_, ?_⟩
          · rw [mask20]
            exact HM.out.set (by omega) _
          · intro j hj
            rw [getD_set_ne (by omega)]
            exact HZ.out j (by omega)
          · intro j hj
            by_cases e : k = j
            · subst e
              rw [getD_set_eq (by omega)]
              omega
            · rw [getD_set_ne e]
              exact HD.out j (by omega)
          · rw [P_succ, val_take, val_take, HDx.out, HDy.out]
            exact comb_step (val L) _ (P k) C a b dx dy _ _ _ (L.getD k 0) HV.out (val_set _ _ _ (by omega)) (HZ.out k (Nat.le_refl _)) rfl
        case measure => simp [intOf]; omega
      · obtain rfl : k = N := by omega
        have hl2 := HL.out
        have hdl : Dig L := dig_of_get fun i hi => HD.out i (by omega)
        have hv : val L = a * val x + b * val y := by
          have h1 := HV.out
          have h2 := val_bd hdl
          rw [val_take_all _ HN1.out, val_take_all _ HN2.out] at h1
          rw [hl2] at h2
          exact comb_end h1 h2.1 h2.2 HV0.out HV1.out
        have ht := trim_any (some ⟨w.heap.size, 0, none⟩) L.length L hdl wr (HM.out.ints0 _ (Nat.le_refl _) (by omega))
        rw [hl2] at ht
        have HVV := Lib.hid hv
        have HDL := Lib.hid hdl
        have HT := Lib.hid ht
        clear hl2 hdl hv ht
        go_wp2_with fail
        refine HT.out.mono ?_
        rintro e w' ⟨rfl, rfl⟩
        go_wp2_with fail
        go_ret
        have hl2 := HL.out
        refine ⟨_, rfl, ?_, HB.out, fresh_mem (Nat.le_refl _)⟩
        have h1 := dig_take HDL.out
        have h2 := dig_len HDL.out
        rw [← HVV.out]
        have h3 := HM.out.ints 0 (digs (val L).toNat).length k (by omega) (by omega) (by omega)
        rw [List.drop_zero, h1] at h3
        exact h3
end Go.Proofs.Ytmhjejnkphdjpaa.Bi

namespace Go.Proofs.Ytmhjejnkphdjpaa.Bi
open Go.RowKit

/-- The big integer n, valid. -/
def IsB (w : World) (v : Value) (n : Int) : Prop := ∃ s, v = .agg #[.int .i64 n.sign, s] ∧ Ints w s (digs n.natAbs)
/-- A call that returns a struct: the big integer n, with the slice v or none. -/
def GivesB (n : Int) (v : Value) (w : World) (e : Ending) (w' : World) : Prop := ∃ s, e = .returned (.agg #[.int .i64 n.sign, s]) ∧ Ints w' s (digs n.natAbs) ∧ RowKit.Below w.heap.size w w' ∧ ∀ g, Off v g → Off s g
theorem Ints.nil (w : World) : Ints w (.slice none 0 0) [] := ⟨none, 0, rfl, Nat.le_refl _, by simp, .inl rfl⟩
theorem IsB.zero (w : World) : IsB w (.agg #[.int .i64 0, .slice none 0 0]) 0 := ⟨_, rfl, by rw [show (0 : Int).natAbs = 0 from rfl, digs_zero]; exact Ints.nil w⟩

theorem hB_cell {w wr : World} (h : RowKit.Below w.heap.size w wr) {b o : Nat} (hlt : b < w.heap.size) : wr.cell? ⟨b, o, none⟩ = w.cell? ⟨b, o, none⟩ := h.cell (p := ⟨b, o, none⟩) hlt
/-- The first digits of a slice. -/
theorem Ints.take {w : World} {a : Option Addr} {cap : Nat} {l : List Int} (h : Ints w (.slice a l.length cap) l) {m : Nat} {x : List Int} (hx : l.take m = x) (hm : x.length = m) : Ints w (.slice a m cap) x := by
  obtain ⟨_, h1, h2, h3⟩ := h.shape
  subst hx
  rw [List.length_take] at hm
  refine ⟨a, cap, by rw [List.length_take]; congr 1; omega, by rw [List.length_take]; omega, by rw [List.length_take]; omega, ?_⟩
  by_cases h0 : m = 0
  · subst h0; exact .inl (by simp)
  · obtain ⟨b, o, rfl, hlt, hr⟩ := h3 (by omega)
    refine .inr ⟨b, o, rfl, hlt, fun i hi => ?_⟩
    rw [List.length_take] at hi
    rw [hr i (by omega), List.getD_eq_getElem?_getD, List.getD_eq_getElem?_getD, List.getElem?_take, if_pos (by omega)]

theorem signed_any (sg : Int) (a : Option Addr) (cap : Nat) (l : List Int) (hd : Dig l) (n : Int) (hv : (n.natAbs : Int) = val l) (hs : n ≠ 0 → sg = n.sign) (w : World) (h : Ints w (.slice a l.length cap) l) :
    Calls Try.prog 75 #[.int .i64 sg, .slice a l.length cap] w (GivesB n (.slice a l.length cap) w) := by
  have ht := fun w h => trim_any a cap l hd w h
  have hk := dig_take hd
  rw [show (val l).toNat = n.natAbs by omega] at ht hk
  obtain ⟨m, hm⟩ : ∃ m, (digs n.natAbs).length = m := ⟨_, rfl⟩
  have hres : ∀ w', RowKit.Below w.heap.size w w' → Ints w' (.slice a m cap) (digs n.natAbs) := fun w' hb => (h.later hb).take (by rw [← hm]; exact hk) hm
  have hm0 : m = 0 ↔ n = 0 := by rw [← hm, digs_len0]; omega
  rw [hm] at ht
  have HT := Lib.hid ht
  have H := Lib.hid h
  have HR := Lib.hid hres
  have hml := dig_len hd
  rw [show (val l).toNat = n.natAbs by omega, hm] at hml
  have HML := Lib.hid hml
  clear hk h hd hm hres ht hv hml
  by_cases h0 : n = 0
  · obtain rfl := hm0.2 h0
    subst h0
    clear hs hm0
    go_enter Try.func75, Try.ntmps75
    go_wp2_with fail
    refine (HT.out _ (H.out.later (below_alloc _ _))).mono ?_
    rintro e w' ⟨rfl, rfl⟩
    go_wp2_with fail
    exact bodyPost_ret (v := .agg #[.int .i64 0, .slice none 0 0]) (by simp [results, Try.results75, go_sem]) rfl ⟨_, rfl, by rw [show (0 : Int).natAbs = 0 from rfl, digs_zero]; exact Ints.nil _, below_alloc _ _, fun g _ => off_nil g 0 0⟩
  · have hm1 : 0 < m := by
      rcases Nat.eq_zero_or_pos m with e | e
      · exact absurd (hm0.1 e) h0
      · exact e
    obtain rfl := hs h0
    clear hs hm0
    have hq : ((m : Int) == 0) = false := by simp; omega
    clear h0
    go_enter Try.func75, Try.ntmps75
    go_wp2_with fail
    refine (HT.out _ (H.out.later (below_alloc _ _))).mono ?_
    rintro e w' ⟨rfl, rfl⟩
    go_wp2_with fail
    exact bodyPost_ret (v := .agg #[.int .i64 n.sign, .slice a m cap]) (by simp [results, Try.results75, go_sem]) rfl ⟨_, rfl, HR.out _ (below_alloc _ _), below_alloc _ _, fun g hg => hg.shorter HML.out⟩

/-- A call that returns digits of value n, perhaps with zeros behind them. -/
def Raw (n : Int) (w : World) (e : Ending) (w' : World) : Prop := ∃ a cap L, e = .returned (.slice a (List.length L) cap) ∧ Dig L ∧ val L = n ∧ Ints w' (.slice a L.length cap) L ∧ RowKit.Below w.heap.size w w' ∧ L.length ≤ 10000000 ∧ Fresh w.heap.size (.slice a L.length cap)

theorem mul_lt_P {a b : Int} {i j : Nat} (h0 : 0 ≤ a) (h1 : a < P i) (h2 : 0 ≤ b) (h3 : b < P j) : 0 ≤ a * b ∧ a * b < P (i + j) := by
  have e1 : a * b ≤ a * P j := Int.mul_le_mul_of_nonneg_left (by omega) h0
  have e2 : a * P j < P i * P j := Int.mul_lt_mul_of_pos_right h1 (by have := P_pos j; omega)
  rw [P_add]
  exact ⟨Int.mul_nonneg h0 h2, by omega⟩

set_option maxHeartbeats 2000000 in
theorem times_any (vx vy : Value) (x y : List Int) (w : World) (hx : Ints w vx x) (hy : Ints w vy y) (hdx : Dig x) (hdy : Dig y) (hlx : x.length ≤ 1000000) (hly : y.length ≤ 1000000) :
    Calls Try.prog 81 #[vx, vy] w (Raw (val x * val y) w) := by
  obtain ⟨ax, capx, rfl, _, _, _⟩ := id hx
  obtain ⟨ay, capy, rfl, _, _, _⟩ := id hy
  obtain ⟨O, hmk0, hO⟩ := make_any (x.length + y.length) (by omega)
  have hmk : ∀ w, (Instr.makeSlice 30 (.int .i64 ((x.length : Int) + (y.length : Int))) (.int .i64 ((x.length : Int) + (y.length : Int)))).run Try.prog w = .ok (.slice (some ⟨w.heap.size, 0, none⟩) (x.length + y.length) (x.length + y.length)) (w.alloc O) := by
    rw [show (x.length : Int) + (y.length : Int) = ((x.length + y.length : Nat) : Int) by omega]; exact hmk0
  obtain ⟨hx0, hx1, hx2, hx3⟩ := hx.shape
  obtain ⟨m, em⟩ : ∃ m, x.length = m := ⟨_, rfl⟩
  obtain ⟨n, en⟩ : ∃ n, y.length = n := ⟨_, rfl⟩
  have HY := Lib.hid hy
  have HX := Lib.hid hx3
  have HDX := Lib.hid hdx
  have HDY := Lib.hid hdy
  have HO := Lib.hid hO
  have HXL := Lib.hid em
  have HYL := Lib.hid en
  rw [em] at hmk hlx HX hx1
  rw [en] at hmk hly HY
  rw [em, en] at HO
  rw [em, en]
  clear hx hy hx0 hx3 hdx hdy hO hmk0 em en
  go_enter Try.func81, Try.ntmps81
  go_wp2_with fail
  clear hmk
  go_loopw [16] (fun t wr => ∃ (k : Nat) (L : List Int), k ≤ m ∧ t = .int .i64 k ∧ Mem wr w.heap.size L ∧ RowKit.Below w.heap.size w wr ∧ L.length = m + n ∧ (∀ j, k + n ≤ j → L.getD j 0 = 0) ∧
    (∀ j, j < k + n → 0 ≤ L.getD j 0 ∧ L.getD j 0 < 1048576) ∧ val L = val (x.take k) * val y) (fun t _ => m - (intOf t).toNat)
  case atStart =>
    have hz : ∀ j, (List.replicate (m + n) (0 : Int)).getD j 0 = 0 := by
      intro j
      rw [List.getD_eq_getElem?_getD, List.getElem?_replicate]
      split <;> rfl
    exact ⟨0, List.replicate (m + n) 0, Nat.zero_le _, rfl, HO.out _ _ (alloc_at _ _), below_alloc _ _, List.length_replicate, fun j _ => hz j, fun j h => by rw [hz]; omega, by simp [val, val_zeros]⟩
  case round =>
    obtain ⟨k, L, hk, rfl, hM, hB, hl, hz, hdig, hval⟩ := hrel
    have HB := Lib.hid hB
    have HL := Lib.hid hl
    have HZ := Lib.hid hz
    have HD := Lib.hid hdig
    have HV := Lib.hid hval
    have HM := Lib.hid hM
    clear hB hl hz hdig hval hM
    by_cases hlt : k < m
    · obtain ⟨b, o, rfl, hblt, hrow⟩ := HX.out (by omega)
      have hc := (hB_cell HB.out hblt).trans (hrow k (by have := HXL.out; omega))
      have bd := HDX.out.get k
      obtain ⟨d, hd⟩ : ∃ d, x.getD k 0 = d := ⟨_, rfl⟩
      rw [hd] at hc bd
      have HDd := Lib.hid hd
      clear hd hrow
      have hadd := add_any w.heap.size k n (m + n - k) capy L ay y d HYL.out wr HM.out (by have := HL.out; omega) (by omega) (by omega) (by omega) HDY.out (fun j h1 h2 => HD.out j (by omega)) (by rw [HZ.out (k + n) (Nat.le_refl _)]; omega) (by omega) (HY.out.later HB.out) (HY.out.off (Nat.le_refl _))
      have HA := Lib.hid hadd
      clear hadd
      have e1 : ((k : Int) + (n : Int) + 1).toNat = k + n + 1 := by omega
      go_wp2_with fail
      rw [show k + n + 1 - k = n + 1 by omega]
      refine HA.out.mono ?_
      rintro e w' ⟨L', rfl, hM', hg', hl', hout, hd', hv'⟩
      have HM' := Lib.hid hM'
      have HG' := Lib.hid hg'
      have HL' := Lib.hid hl'
      have HO' := Lib.hid hout
      have HD' := Lib.hid hd'
      have HV' := Lib.hid hv'
      clear hM' hg' hl' hout hd' hv'
      go_wp2_with fail
      go_roundw
      case rel =>
        have hl1 := HL.out
        have hl2 := HL'.out
        have hval : val L' = val (x.take (k + 1)) * val y := by
          rw [HV'.out, HV.out, val_take, HDd.out]; grind
        have hxb := val_bd (HDX.out.take (k + 1))
        rw [List.length_take, Nat.min_eq_left (by have := HXL.out; omega)] at hxb
        have hyb := val_bd HDY.out
        rw [HYL.out] at hyb
        have hrange := mul_lt_P hxb.1 hxb.2 hyb.1 hyb.2
        rw [← hval] at hrange
        have hzero : ∀ j, k + n < j → L'.getD j 0 = 0 := fun j hj => by rw [HO'.out j (.inr hj)]; exact HZ.out j (by omega)
        have hlow : ∀ j, j < k + n → 0 ≤ L'.getD j 0 ∧ L'.getD j 0 < 1048576 := by
          intro j hj
          by_cases h : j < k
          · rw [HO'.out j (.inl h)]; exact HD.out j (by omega)
          · exact HD'.out j (by omega) hj
        have htop := top_in (l := L') (m := k + n) (by omega) hlow hzero hrange.1 (by rw [show k + n + 1 = k + 1 + n by omega]; exact hrange.2)
        refine ⟨k + 1, L', by omega, by go_num, HM'.out, HB.out.trans (below_on HG'.out HB.out.size (Nat.le_refl _)), by omega, fun j hj => hzero j (by omega), fun j hj => ?_, hval⟩
        by_cases h : j = k + n
        · subst h; exact htop
        · exact hlow j (by omega)
      case measure => simp [intOf]; omega
    · obtain rfl : k = m := by omega
      go_wp2_with fail
      go_ret
      have hl2 := HL.out
      have hv := HV.out
      rw [val_take_all _ (by have := HXL.out; omega)] at hv
      have hi := HM.out.ints0 (k + n) (by omega) (by omega)
      exact ⟨some ⟨w.heap.size, 0, none⟩, k + n, L, by rw [hl2]; rfl, dig_of_get fun i hi => HD.out i (by omega), hv, hi, HB.out, by omega, fresh_mem (Nat.le_refl _)⟩
end Go.Proofs.Ytmhjejnkphdjpaa.Bi
