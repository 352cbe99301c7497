/- The contracts of Right, compare, Compare, Same, Of. -/
import Derived.Test.YtpcagodnlbdclaaDoorBi7
import Derived.Test.YtpcagodnlbdclaaDoorShelf
set_option maxRecDepth 100000
namespace Go.Proofs.YtpcagodnlbdclaaDoor.Bi
open Go.RowKit

def badD (d : Int) : Bool := decide (d < 0) || decide (1048575 < d)
theorem bad_any (d : Int) (w : World) : Calls Tryd.prog 60 #[.int .i64 d] w fun e w' => e = .returned (.bool (badD d)) ∧ w = w' := by
  by_cases h : d < 0
  · have hb : badD d = true := by simp [badD, h]
    rw [hb]
    clear hb
    go_enter Tryd.func60, Tryd.ntmps60
    go_wp2
    go_ret
    exact ⟨rfl, rfl⟩
  · by_cases h1 : 1048575 < d
    · have hb : badD d = true := by simp [badD, h1]
      rw [hb]
      clear hb
      go_enter Tryd.func60, Tryd.ntmps60
      go_wp2
      go_ret
      exact ⟨rfl, rfl⟩
    · have hb : badD d = false := by simp [badD, h, h1]
      rw [hb]
      clear hb
      have hd1 : decide (d < 0) = false := by simpa using h
      have hd2 : decide (1048575 < d) = false := by simpa using h1
      go_enter Tryd.func60, Tryd.ntmps60
      go_wp2
      go_ret
      exact ⟨rfl, rfl⟩

/-- The first bad digit, or -1. -/
def Idx (l : List Int) (w : World) (e : Ending) (w' : World) : Prop := ∃ i : Int, e = .returned (.int .i64 i) ∧ -1 ≤ i ∧ (0 ≤ i ↔ l.any badD = true) ∧ w = w'
theorem indexFunc_any (a : Option Addr) (cap : Nat) (l : List Int) (w : World) (h : Ints w (.slice a l.length cap) l) :
    Calls Tryd.prog 80 #[.slice a l.length cap, .func (.func 60) #[] #[]] w (Idx l w) := by
  obtain ⟨_, h1, h2, h3⟩ := h.shape
  obtain ⟨n, en⟩ : ∃ n, l.length = n := ⟨_, rfl⟩
  have H3 := Lib.hid h3
  have HN := Lib.hid en
  rw [en] at h1 h2 H3 ⊢
  clear h3 h en
  go_enter Tryd.func80, Tryd.ntmps80
  go_wp2_with fail
  go_loop [8] (fun t => ∃ k : Nat, k ≤ n ∧ t = .int .i64 k ∧ (l.take k).any badD = false) (fun t => n - (intOf t).toNat)
  case atStart => exact ⟨0, Nat.zero_le _, rfl, by simp⟩
  case round =>
    obtain ⟨k, hk, rfl, hno⟩ := hrel
    have HNo := Lib.hid hno
    clear hno
    by_cases hlt : k < n
    · obtain ⟨b, o, rfl, hb, hr⟩ := H3.out (by omega)
      have hc := hr k (by have := HN.out; omega)
      obtain ⟨d, hd⟩ : ∃ d, l.getD k 0 = d := ⟨_, rfl⟩
      rw [hd] at hc
      have HD := Lib.hid hd
      have htk : Hid ((l.take (k + 1)).any badD = (badD d)) := by
        unfold Hid
        rw [List.take_succ_eq_append_getElem (by have := HN.out; omega), List.any_append, HNo.out]
        rw [List.getD_eq_getElem?_getD, List.getElem?_eq_getElem (by have := HN.out; omega)] at hd
        simp at hd
        simp [hd]
      clear hr hd
      cases hbd : badD d
      · go_wp2_with fail
        refine (bad_any d _).mono ?_
        rintro e w' ⟨rfl, rfl⟩
        go_wp2_with fail
        go_round
        case rel => exact ⟨k + 1, by omega, by go_num, by rw [htk.out]; exact hbd⟩
        case measure => simp [intOf]; omega
      · go_wp2_with fail
        refine (bad_any d _).mono ?_
        rintro e w' ⟨rfl, rfl⟩
        go_wp2_with fail
        go_ret
        refine ⟨k, rfl, by omega, ⟨fun _ => ?_, fun _ => by omega⟩, rfl⟩
        have h1 := htk.out
        rw [hbd, List.any_eq_true] at h1
        obtain ⟨x, hx, hx2⟩ := h1
        rw [List.any_eq_true]
        exact ⟨x, List.mem_of_mem_take hx, hx2⟩
    · obtain rfl : k = n := by omega
      have hf := HNo.out
      rw [List.take_of_length_le (by have := HN.out; omega)] at hf
      have HF := Lib.hid hf
      clear hf
      go_wp2_with fail
      go_ret
      exact ⟨-1, rfl, by omega, by rw [HF.out]; simp, rfl⟩

theorem containsFunc_any (a : Option Addr) (cap : Nat) (l : List Int) (w : World) (h : Ints w (.slice a l.length cap) l) :
    Calls Tryd.prog 59 #[.slice a l.length cap, .func (.func 60) #[] #[]] w fun e w' => e = .returned (.bool (l.any badD)) ∧ w = w' := by
  have H := Lib.hid h
  clear h
  cases hq : l.any badD
  all_goals
    have HQ := Lib.hid hq
    clear hq
    go_enter Tryd.func59, Tryd.ntmps59
    go_wp2_with fail
    refine (indexFunc_any a cap l _ H.out).mono ?_
    rintro e w' ⟨i, rfl, hi, hb, rfl⟩
    rw [HQ.out] at hb
  · have hi2 : ¬ 0 ≤ i := fun h => by simpa using hb.1 h
    have hd : decide (0 ≤ i) = false := by simpa using hi2
    clear hb
    go_wp2_with fail
    go_ret
    exact ⟨rfl, rfl⟩
  · have hi2 : 0 ≤ i := hb.2 rfl
    clear hb
    go_wp2_with fail
    go_ret
    exact ⟨rfl, rfl⟩

def rightB (s : Int) (l : List Int) : Bool :=
  !(decide (s < -1) || decide (1 < s) || ((s == 0) != (l.length == 0)) || (decide (0 < l.length) && (l.getD (l.length - 1) 0 == 0)) || l.any badD)
/-- The struct v has the sign s and the digits l, valid or not. -/
def Arg (w : World) (v : Value) (s : Int) (l : List Int) : Prop := ∃ sl, v = .agg #[.int .i64 s, sl] ∧ Ints w sl l
theorem Arg.later {w w' : World} {v : Value} {s : Int} {l : List Int} (h : Arg w v s l) (hb : RowKit.Below w.heap.size w w') : Arg w' v s l := by
  obtain ⟨sl, rfl, hi⟩ := h
  exact ⟨sl, rfl, hi.later hb⟩

set_option maxHeartbeats 4000000 in
theorem right_any (v : Value) (s : Int) (l : List Int) (w : World) (h : Arg w v s l) :
    Calls Tryd.prog 27 #[v] w fun e w' => e = .returned (.bool (rightB s l)) ∧ RowKit.Below w.heap.size w w' := by
  obtain ⟨sl, rfl, hi⟩ := h
  obtain ⟨a, cap, rfl, h1, h2, h3⟩ := id hi
  have hi' := fun O => containsFunc_any a cap l _ (hi.later (below_alloc w O))
  by_cases hs1 : s < -1
  · have hb : rightB s l = false := by simp [rightB, hs1]
    rw [hb]
    clear hb hi hi' h3
    go_enter Tryd.func27, Tryd.ntmps27
    go_wp2_with fail
    go_ret
    exact ⟨rfl, below_alloc _ _⟩
  · by_cases hs2 : 1 < s
    · have hb : rightB s l = false := by simp [rightB, hs2]
      rw [hb]
      clear hb hi hi' h3
      have hd : decide (s < -1) = false := by simpa using hs1
      go_enter Tryd.func27, Tryd.ntmps27
      go_wp2_with fail
      go_ret
      exact ⟨rfl, below_alloc _ _⟩
    · have hd : decide (s < -1) = false := by simpa using hs1
      have hd2 : decide (1 < s) = false := by simpa using hs2
      by_cases hs0 : s = 0
      · subst hs0
        by_cases h0 : l.length = 0
        · obtain rfl : l = [] := List.eq_nil_of_length_eq_zero h0
          have HC := Lib.hid hi'
          have hb : rightB 0 [] = true := by simp [rightB]
          rw [hb]
          clear hi hi' h3 hb h0
          go_enter Tryd.func27, Tryd.ntmps27
          go_wp2_with fail
          refine (HC.out _).mono ?_
          rintro e w' ⟨rfl, rfl⟩
          go_wp2_with fail
          go_ret
          exact ⟨rfl, below_alloc _ _⟩
        · have hb : rightB 0 l = false := by simp [rightB]; intro e; simp [e] at h0
          rw [hb]
          have hq : ((l.length : Int) == 0) = false := by simp; intro e; simp [e] at h0
          obtain ⟨n, en⟩ : ∃ n, l.length = n := ⟨_, rfl⟩
          rw [en] at hq h2 ⊢
          clear hb hi hi' h3 h0 h1 en
          go_enter Tryd.func27, Tryd.ntmps27
          go_wp2_with fail
          go_ret
          exact ⟨rfl, below_alloc _ _⟩
      · have hq0 : (s == 0) = false := by simpa using hs0
        by_cases h0 : l.length = 0
        · obtain rfl : l = [] := List.eq_nil_of_length_eq_zero h0
          have hb : rightB s [] = false := by simp [rightB, hs0]
          rw [hb]
          clear hb hi hi' h3 h0 hs0
          go_enter Tryd.func27, Tryd.ntmps27
          go_wp2_with fail
          go_ret
          exact ⟨rfl, below_alloc _ _⟩
        · obtain ⟨m, em⟩ : ∃ m, l.length = m + 1 := ⟨l.length - 1, by omega⟩
          obtain ⟨b, o, rfl, hlt, hr⟩ := h3.resolve_left (fun e => by simp [e] at em)
          have hc := fun O => (hB_cell (o := o + m) (below_alloc w O) hlt).trans (hr m (by omega))
          by_cases hz : l.getD m 0 = 0
          · have hb : rightB s l = false := by
              unfold rightB
              rw [em, Nat.add_sub_cancel, hz]
              simp
            rw [hb]
            rw [em] at h1 h2 ⊢
            rw [hz] at hc
            clear hb hi hi' hr em hz h0
            go_enter Tryd.func27, Tryd.ntmps27
            go_wp2_with fail
            go_ret
            exact ⟨rfl, below_alloc _ _⟩
          · have hb : rightB s l = !(l.any badD) := by
              unfold rightB
              rw [em, Nat.add_sub_cancel]
              generalize l.getD m 0 = d at hz
              have hz' : (d == 0) = false := by simpa using hz
              rw [hd, hd2, hq0, hz']
              simp
            rw [hb]
            rw [em] at h1 h2 hi' ⊢
            obtain ⟨d, ed⟩ : ∃ d, l.getD m 0 = d := ⟨_, rfl⟩
            rw [ed] at hc hz
            have hz' : (d == 0) = false := by simpa using hz
            have hs0' : ¬ s = 0 := hs0
            have HC := Lib.hid hi'
            clear hb hi hi' hr em hz h0 hs0
            go_enter Tryd.func27, Tryd.ntmps27
            go_wp2_with fail
            refine (HC.out _).mono ?_
            rintro e w' ⟨rfl, rfl⟩
            go_wp2_with fail
            go_ret
            exact ⟨rfl, below_alloc _ _⟩
end Go.Proofs.YtpcagodnlbdclaaDoor.Bi
