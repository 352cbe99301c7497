/- The contracts of Right, compare, Compare, Same, Of. The contracts of compare, Compare, Same, Of, Neg. -/
import Derived.Test.YtmhjejnkphdjpaaPB3
import Derived.Test.YtmhjejnkphdjpaaShelf
set_option maxRecDepth 100000
namespace Go.Proofs.Ytmhjejnkphdjpaa.Bi
open Go.RowKit

def badD (d : Int) : Bool := decide (d < 0) || decide (1048575 < d)
theorem bad_any (d : Int) (w : World) : Calls Try.prog 88 #[.int .i64 d] w fun e w' => e = .returned (.bool (badD d)) ∧ w = w' := by
  by_cases h : d < 0
  · have hb : badD d = true := by simp [badD, h]
    rw [hb]
    clear hb
    go_enter Try.func88, Try.ntmps88
    go_wp2
    go_ret
    exact ⟨rfl, rfl⟩
  · by_cases h1 : 1048575 < d
    · have hb : badD d = true := by simp [badD, h1]
      rw [hb]
      clear hb
      go_enter Try.func88, Try.ntmps88
      go_wp2
      go_ret
      exact ⟨rfl, rfl⟩
    · have hb : badD d = false := by simp [badD, h, h1]
      rw [hb]
      clear hb
      have hd1 : decide (d < 0) = false := by simpa using h
      have hd2 : decide (1048575 < d) = false := by simpa using h1
      go_enter Try.func88, Try.ntmps88
      go_wp2
      go_ret
      exact ⟨rfl, rfl⟩

/-- The first bad digit, or -1. -/
def Idx (l : List Int) (w : World) (e : Ending) (w' : World) : Prop := ∃ i : Int, e = .returned (.int .i64 i) ∧ -1 ≤ i ∧ (0 ≤ i ↔ l.any badD = true) ∧ w = w'
theorem indexFunc_any (a : Option Addr) (cap : Nat) (l : List Int) (w : World) (h : Ints w (.slice a l.length cap) l) :
    Calls Try.prog 96 #[.slice a l.length cap, .func (.func 88) #[] #[]] w (Idx l w) := by
  obtain ⟨_, h1, h2, h3⟩ := h.shape
  obtain ⟨n, en⟩ : ∃ n, l.length = n := ⟨_, rfl⟩
  have H3 := Lib.hid h3
  have HN := Lib.hid en
  rw [en] at h1 h2 H3 ⊢
  clear h3 h en
  go_enter Try.func96, Try.ntmps96
  go_wp2_with fail
  go_loop [8] (fun t => ∃ k : Nat, k ≤ n ∧ t = .int .i64 k ∧ (l.take k).any badD = false) (fun t => n - (intOf t).toNat)
  case atStart => exact ⟨0, Nat.zero_le _, rfl, by simp⟩
  case round =>
    obtain ⟨k, hk, rfl, hno⟩ := hrel
    have HNo := Lib.hid hno
    clear hno
    by_cases hlt : k < n
    · obtain ⟨b, o, rfl, hb, hr⟩ := H3.out (by omega)
      have hc := hr k (by have := HN.out; omega)
      obtain ⟨d, hd⟩ : ∃ d, l.getD k 0 = d := ⟨_, rfl⟩
      rw [hd] at hc
      have HD := Lib.hid hd
      have htk : Hid ((l.take (k + 1)).any badD = (badD d)) := by
        unfold Hid
        rw [List.take_succ_eq_append_getElem (by have := HN.out; omega), List.any_append, HNo.out]
        rw [List.getD_eq_getElem?_getD, List.getElem?_eq_getElem (by have := HN.out; omega)] at hd
        simp at hd
        simp [hd]
      clear hr hd
      cases hbd : badD d
      · go_wp2_with fail
        refine (bad_any d _).mono ?_
        rintro e w' ⟨rfl, rfl⟩
        go_wp2_with fail
        go_round
        case rel => exact ⟨k + 1, by omega, by go_num, by rw [htk.out]; exact hbd⟩
        case measure => simp [intOf]; omega
      · go_wp2_with fail
        refine (bad_any d _).mono ?_
        rintro e w' ⟨rfl, rfl⟩
        go_wp2_with fail
        go_ret
        refine ⟨k, rfl, by omega, ⟨fun _ => ?_, fun _ => by omega⟩, rfl⟩
        have h1 := htk.out
        rw [hbd, List.any_eq_true] at h1
        obtain ⟨x, hx, hx2⟩ := h1
        rw [List.any_eq_true]
        exact ⟨x, List.mem_of_mem_take hx, hx2⟩
    · obtain rfl : k = n := by omega
      have hf := HNo.out
      rw [List.take_of_length_le (by have := HN.out; omega)] at hf
      have HF := Lib.hid hf
      clear hf
      go_wp2_with fail
      go_ret
      exact ⟨-1, rfl, by omega, by rw [HF.out]; simp, rfl⟩

theorem containsFunc_any (a : Option Addr) (cap : Nat) (l : List Int) (w : World) (h : Ints w (.slice a l.length cap) l) :
    Calls Try.prog 87 #[.slice a l.length cap, .func (.func 88) #[] #[]] w fun e w' => e = .returned (.bool (l.any badD)) ∧ w = w' := by
  have H := Lib.hid h
  clear h
  cases hq : l.any badD
  all_goals
    have HQ := Lib.hid hq
    clear hq
    go_enter Try.func87, Try.ntmps87
    go_wp2_with fail
    refine (indexFunc_any a cap l _ H.out).mono ?_
    rintro e w' ⟨i, rfl, hi, hb, rfl⟩
    rw [HQ.out] at hb
  · have hi2 : ¬ 0 ≤ i := fun h => by simpa using hb.1 h
    have hd : decide (0 ≤ i) = false := by simpa using hi2
    clear hb
    go_wp2_with fail
    go_ret
    exact ⟨rfl, rfl⟩
  · have hi2 : 0 ≤ i := hb.2 rfl
    clear hb
    go_wp2_with fail
    go_ret
    exact ⟨rfl, rfl⟩

def rightB (s : Int) (l : List Int) : Bool :=
  !(decide (s < -1) || decide (1 < s) || ((s == 0) != (l.length == 0)) || (decide (0 < l.length) && (l.getD (l.length - 1) 0 == 0)) || l.any badD)
/-- The struct v has the sign s and the digits l, valid or not. -/
def Arg (w : World) (v : Value) (s : Int) (l : List Int) : Prop := ∃ sl, v = .agg #[.int .i64 s, sl] ∧ Ints w sl l
theorem Arg.later {w w' : World} {v : Value} {s : Int} {l : List Int} (h : Arg w v s l) (hb : RowKit.Below w.heap.size w w') : Arg w' v s l := by
  obtain ⟨sl, rfl, hi⟩ := h
  exact ⟨sl, rfl, hi.later hb⟩

set_option maxHeartbeats 4000000 in
theorem right_any (v : Value) (s : Int) (l : List Int) (w : World) (h : Arg w v s l) :
    Calls Try.prog 72 #[v] w fun e w' => e = .returned (.bool (rightB s l)) ∧ RowKit.Below w.heap.size w w' := by
  obtain ⟨sl, rfl, hi⟩ := h
  obtain ⟨a, cap, rfl, h1, h2, h3⟩ := id hi
  have hi' := fun O => containsFunc_any a cap l _ (hi.later (below_alloc w O))
  by_cases hs1 : s < -1
  · have hb : rightB s l = false := by simp [rightB, hs1]
    rw [hb]
    clear hb hi hi' h3
    go_enter Try.func72, Try.ntmps72
    go_wp2_with fail
    go_ret
    exact ⟨rfl, below_alloc _ _⟩
  · by_cases hs2 : 1 < s
    · have hb : rightB s l = false := by simp [rightB, hs2]
      rw [hb]
      clear hb hi hi' h3
      have hd : decide (s < -1) = false := by simpa using hs1
      go_enter Try.func72, Try.ntmps72
      go_wp2_with fail
      go_ret
      exact ⟨rfl, below_alloc _ _⟩
    · have hd : decide (s < -1) = false := by simpa using hs1
      have hd2 : decide (1 < s) = false := by simpa using hs2
      by_cases hs0 : s = 0
      · subst hs0
        by_cases h0 : l.length = 0
        · obtain rfl : l = [] := List.eq_nil_of_length_eq_zero h0
          have HC := Lib.hid hi'
          have hb : rightB 0 [] = true := by simp [rightB]
          rw [hb]
          clear hi hi' h3 hb h0
          go_enter Try.func72, Try.ntmps72
          go_wp2_with fail
          refine (HC.out _).mono ?_
          rintro e w' ⟨rfl, rfl⟩
          go_wp2_with fail
          go_ret
          exact ⟨rfl, below_alloc _ _⟩
        · have hb : rightB 0 l = false := by simp [rightB]; intro e; simp [e] at h0
          rw [hb]
          have hq : ((l.length : Int) == 0) = false := by simp; intro e; simp [e] at h0
          obtain ⟨n, en⟩ : ∃ n, l.length = n := ⟨_, rfl⟩
          rw [en] at hq h2 ⊢
          clear hb hi hi' h3 h0 h1 en
          go_enter Try.func72, Try.ntmps72
          go_wp2_with fail
          go_ret
          exact ⟨rfl, below_alloc _ _⟩
      · have hq0 : (s == 0) = false := by simpa using hs0
        by_cases h0 : l.length = 0
        · obtain rfl : l = [] := List.eq_nil_of_length_eq_zero h0
          have hb : rightB s [] = false := by simp [rightB, hs0]
          rw [hb]
          clear hb hi hi' h3 h0 hs0
          go_enter Try.func72, Try.ntmps72
          go_wp2_with fail
          go_ret
          exact ⟨rfl, below_alloc _ _⟩
        · obtain ⟨m, em⟩ : ∃ m, l.length = m + 1 := ⟨l.length - 1, by omega⟩
          obtain ⟨b, o, rfl, hlt, hr⟩ := h3.resolve_left (fun e => by simp [e] at em)
          have hc := fun O => (hB_cell (o := o + m) (below_alloc w O) hlt).trans (hr m (by omega))
          by_cases hz : l.getD m 0 = 0
          · have hb : rightB s l = false := by
              unfold rightB
              rw [em, Nat.add_sub_cancel, hz]
              simp
            rw [hb]
            rw [em] at h1 h2 ⊢
            rw [hz] at hc
            clear hb hi hi' hr em hz h0
            go_enter Try.func72, Try.ntmps72
            go_wp2_with fail
            go_ret
            exact ⟨rfl, below_alloc _ _⟩
          · have hb : rightB s l = !(l.any badD) := by
              unfold rightB
              rw [em, Nat.add_sub_cancel]
              generalize l.getD m 0 = d at hz
              have hz' : (d == 0) = false := by simpa using hz
              rw [hd, hd2, hq0, hz']
              simp
            rw [hb]
            rw [em] at h1 h2 hi' ⊢
            obtain ⟨d, ed⟩ : ∃ d, l.getD m 0 = d := ⟨_, rfl⟩
            rw [ed] at hc hz
            have hz' : (d == 0) = false := by simpa using hz
            have hs0' : ¬ s = 0 := hs0
            have HC := Lib.hid hi'
            clear hb hi hi' hr em hz h0 hs0
            go_enter Try.func72, Try.ntmps72
            go_wp2_with fail
            refine (HC.out _).mono ?_
            rintro e w' ⟨rfl, rfl⟩
            go_wp2_with fail
            go_ret
            exact ⟨rfl, below_alloc _ _⟩
end Go.Proofs.Ytmhjejnkphdjpaa.Bi

namespace Go.Proofs.Ytmhjejnkphdjpaa.Bi
open Go.RowKit

/-- A call of a callee that draws nothing, in a region behind another one. -/
theorem quiet_same2 {P : Program} {f : FuncId} {args : Array Value} {w : World} {a n : Nat} {v : Value} (h : Calls P f args (w.drewN (a + n)) fun e w' => e = .returned v ∧ w' = w.drewN (a + n)) :
    Calls P f args (w.drewN (a + n)) fun e w'' => e = .returned v ∧ ∃ m, w'' = w.drewN (a + m) :=
  h.mono fun _ _ ⟨he, hm⟩ => ⟨he, n, hm⟩
theorem cmpI_lib (x y : Int) : Lib.compareInt x y = cmpI x y := by
  unfold Lib.compareInt cmpI
  by_cases h : x < y
  · rw [if_pos h, if_pos h]
  · rw [if_neg h, if_neg h]
    by_cases h2 : x > y
    · rw [if_pos h2, if_neg (by omega)]
    · rw [if_neg h2, if_pos (by omega)]
theorem cmp_any (x y : Int) (w : World) : Calls Try.prog 66 #[.int .i64 x, .int .i64 y] w fun e w' => e = .returned (.int .i64 (cmpI x y)) ∧ w' = w := by
  rw [← cmpI_lib]; exact Try.cmp_Compare_int x y w
theorem digs_pos_len {n : Nat} (h : 0 < n) : 0 < (digs n).length := by
  rcases Nat.eq_zero_or_pos (digs n).length with e | e
  · have := digs_len0.1 e; omega
  · exact e

set_option maxHeartbeats 2000000 in
theorem compare_any (vx vy : Value) (m n : Nat) (w : World) (hx : Ints w vx (digs m)) (hy : Ints w vy (digs n)) :
    Calls Try.prog 73 #[vx, vy] w fun e w' => e = .returned (.int .i64 (cmpI m n)) ∧ ∃ q, w' = w.drewN q := by
  obtain ⟨ax, capx, rfl, hx1, hx2, hx3⟩ := id hx
  obtain ⟨ay, capy, rfl, hy1, hy2, hy3⟩ := id hy
  obtain ⟨lx, ex⟩ : ∃ l, (digs m).length = l := ⟨_, rfl⟩
  obtain ⟨ly, ey⟩ : ∃ l, (digs n).length = l := ⟨_, rfl⟩
  by_cases hl : lx = ly
  · subst hl
    have HX : Hid (∀ k, k < lx → ∃ b o, ax = some ⟨b, o, none⟩ ∧ w.cell? ⟨b, o + k, none⟩ = some (.int .i64 ((digs m).getD k 0))) := by
      intro k hk
      obtain ⟨b, o, e, _, hr⟩ := hx3.resolve_left (fun e => by rw [e] at ex; simp at ex; omega)
      exact ⟨b, o, e, hr k (by omega)⟩
    have HY : Hid (∀ k, k < lx → ∃ b o, ay = some ⟨b, o, none⟩ ∧ w.cell? ⟨b, o + k, none⟩ = some (.int .i64 ((digs n).getD k 0))) := by
      intro k hk
      obtain ⟨b, o, e, _, hr⟩ := hy3.resolve_left (fun e => by rw [e] at ey; simp at ey; omega)
      exact ⟨b, o, e, hr k (by omega)⟩
    have HEX := Lib.hid ex
    have HEY := Lib.hid ey
    rw [ex] at hx1 hx2 ⊢
    rw [ey] at hy1 hy2 ⊢
    clear hx hy hx3 hy3 ex ey
    go_enter Try.func73, Try.ntmps73
    go_wp2_with fail
    go_loopw [5] (fun t wr => ∃ k q : Nat, k ≤ lx ∧ t = .int .i64 ((k : Int) - 1) ∧ wr = w.drewN q ∧ (digs m).drop k = (digs n).drop k) (fun t _ => (intOf t + 1).toNat)
    case atStart => exact ⟨lx, 0, Nat.le_refl _, rfl, rfl, by rw [List.drop_eq_nil_of_le (by have := HEX.out; omega), List.drop_eq_nil_of_le (by have := HEY.out; omega)]⟩
    case round =>
      obtain ⟨k, q, hk, rfl, rfl, hd⟩ := hrel
      have HD := Lib.hid hd
      clear hd
      cases k with
      | zero =>
        rw [show ((0 : Nat) : Int) - 1 = -1 from rfl]
        have hmn : m = n := digs_inj (by simpa using HD.out)
        subst hmn
        go_wp2_with fail
        go_ret
        exact ⟨ret_i (cmpI_eq _).symm, q, rfl⟩
      | succ j =>
        rw [show ((j + 1 : Nat) : Int) - 1 = (j : Int) by omega]
        obtain ⟨b, o, rfl, hcx⟩ := HX.out j (by omega)
        obtain ⟨b', o', rfl, hcy⟩ := HY.out j (by omega)
        obtain ⟨dx, edx⟩ : ∃ d, (digs m).getD j 0 = d := ⟨_, rfl⟩
        obtain ⟨dy, edy⟩ : ∃ d, (digs n).getD j 0 = d := ⟨_, rfl⟩
        rw [edx] at hcx
        rw [edy] at hcy
        have HDX := Lib.hid edx
        have HDY := Lib.hid edy
        clear edx edy
        have hj1 : (j : Int) < lx := by omega
        by_cases he : dx = dy
        · subst he
          have hq : (dx != dx) = false := by simp
          go_wp2_with fail
          go_quiet (fail)
          go_wp2_with fail
          go_roundw
          case rel =>
            refine ⟨j, q + nq, by omega, rfl, rfl, ?_⟩
            rw [drop_get (l := digs m) (k := j) (by have := HEX.out; omega), drop_get (l := digs n) (k := j) (by have := HEY.out; omega), HDX.out, HDY.out, HD.out]
          case measure => simp [intOf]
        · have hq : (dx != dy) = true := by simpa using he
          have hc : cmpI m n = cmpI dx dy := by
            have := cmp_at (digs_dig m) (digs_dig n) (by have := HEX.out; have := HEY.out; omega) (k := j) (by have := HEX.out; omega) HD.out (by rw [HDX.out, HDY.out]; exact he)
            rwa [digs_val, digs_val, HDX.out, HDY.out] at this
          have HC := Lib.hid hc
          clear hc he
          go_wp2_with fail
          go_quiet (fail)
          go_wp2_with fail
          go_quiet ((go_at_call 66; exact quiet_same2 (cmp_any dx dy _)))
          go_wp2_with fail
          go_ret
          rw [HC.out]
          exact ⟨rfl, _, by rw [World.drewN_drewN, World.drewN_drewN]⟩
  · have hne : ((lx : Int) != ly) = true := by simp; omega
    have hc : cmpI m n = cmpI lx ly := by
      rcases Nat.lt_or_gt_of_ne hl with h | h
      · rw [cmpI_lt (cmp_len (by omega)), cmpI_lt (by omega)]
      · rw [cmpI_gt (cmp_len (by omega)), cmpI_gt (by omega)]
    rw [ex] at hx2
    rw [ey] at hy2
    rw [hc, ex, ey]
    clear hx hy hx3 hy3 ex ey hx1 hy1 hc hl
    go_enter Try.func73, Try.ntmps73
    go_wp2_with fail
    refine (cmp_any lx ly _).mono ?_
    rintro e w' ⟨rfl, rfl⟩
    go_wp2_with fail
    go_ret
    exact ⟨rfl, 0, rfl⟩
end Go.Proofs.Ytmhjejnkphdjpaa.Bi
