/- kitbagref04: the contract of Right. -/
import Derived.Test.YtnddickcnfodfaaGreatDoorM10
import Derived.Test.YtnddickcnfodfaaGreatDoorLBt4
set_option maxRecDepth 100000
namespace Go.Proofs.YtnddickcnfodfaaGreatDoor.Bi
open Go.RowKit

theorem any_snoc {l : List Int} {k : Nat} (h : k < l.length) (ha : (l.take k).any badD = false) (hk : badD (l.getD k 0) = false) : (l.take (k + 1)).any badD = false := by
  rw [List.take_succ_eq_append_getElem h, List.any_append, ha]
  rw [List.getD_eq_getElem?_getD, List.getElem?_eq_getElem h] at hk
  simpa using hk
theorem any_bad {l : List Int} {k : Nat} (h : k < l.length) (hk : badD (l.getD k 0) = true) : l.any badD = true := by
  rw [List.getD_eq_getElem?_getD, List.getElem?_eq_getElem h] at hk
  rw [List.any_eq_true]
  exact ⟨_, List.getElem_mem h, by simpa using hk⟩
theorem keepB {w : World} {a : Addr} {u : Value} (h : w.cell? a = some u) : ∀ o : Obj, (w.alloc o).cell? a = some u := fun o => by
  rw [World.cell?_alloc_lt w o a (World.block_lt_of_cell? w a h)]; exact h

set_option maxHeartbeats 4000000 in
theorem rright_any (v : Value) (s : Int) (l : List Int) (w : World) (h : Arg w v s l) :
    Calls Tryz.prog 57 #[v] w fun e w' => e = .returned (.bool (rightB s l)) ∧ RowKit.Below w.heap.size w w' := by
  obtain ⟨sl, rfl, hi⟩ := h
  obtain ⟨a, cap, rfl, h1, h2, h3⟩ := hi
  obtain ⟨n, en⟩ : ∃ n, l.length = n := ⟨_, rfl⟩
  have HC : Hid (∀ k, k < n → ∃ b o, a = some ⟨b, o, none⟩ ∧ ∀ O, (w.alloc O).cell? ⟨b, o + k, none⟩ = some (.int .i64 (l.getD k 0))) := by
    intro k hk
    obtain ⟨b, o, e, hlt, hr⟩ := h3.resolve_left (fun e => by rw [e] at en; simp at en; omega)
    exact ⟨b, o, e, keepB (hr k (by omega))⟩
  have HN := Lib.hid en
  have HB := Lib.hid (below_alloc w (.cells #[.int .i64 s, .slice a n cap] 24))
  rw [en] at h1 h2 ⊢
  clear h3 en
  go_enter Tryz.func57, Tryz.ntmps57
  go_wp2_with fail
  go_loop [3] (fun i => ∃ k : Nat, k ≤ n ∧ i = .int .i64 k ∧ (l.take k).any badD = false) (fun i => n - (intOf i).toNat)
  case atStart => exact ⟨0, by omega, rfl, by simp⟩
  case round =>
    obtain ⟨k, hk, rfl, hno⟩ := hrel
    have HNo := Lib.hid hno
    clear hno
    by_cases hlt : k < n
    · obtain ⟨b, o, rfl, hc⟩ := HC.out k hlt
      obtain ⟨d, hd⟩ : ∃ d, l.getD k 0 = d := ⟨_, rfl⟩
      rw [hd] at hc
      have HD := Lib.hid hd
      clear hd
      by_cases hb1 : d < 0
      · have HR : Hid (rightB s l = false) := Lib.hid (by
          unfold rightB; rw [any_bad (k := k) (by rw [HN.out]; exact hlt) (by rw [HD.out]; simp [badD, hb1])]; simp)
        go_wp2_with fail
        go_ret
        exact ⟨by rw [HR.out]; rfl, HB.out⟩
      · have hb1' : decide (d < 0) = false := by simpa using hb1
        by_cases hb2 : 1048576 ≤ d
        · have HR : Hid (rightB s l = false) := Lib.hid (by
            unfold rightB; rw [any_bad (k := k) (by rw [HN.out]; exact hlt) (by rw [HD.out]; simp [badD]; omega)]; simp)
          have hb2' : decide (1048576 ≤ d) = true := by simpa using hb2
          go_wp2_with fail
          go_ret
          exact ⟨by rw [HR.out]; rfl, HB.out⟩
        · have hb2' : decide (1048576 ≤ d) = false := by simpa using hb2
          have HT := Lib.hid (any_snoc (l := l) (k := k) (by rw [HN.out]; exact hlt) HNo.out (by rw [HD.out]; simp [badD]; omega))
          go_wp2_with fail
          go_round
          case rel => exact ⟨k + 1, by omega, by go_num, HT.out⟩
          case measure => simp [intOf]; omega
    · have hany : l.any badD = false := by have := HNo.out; rwa [List.take_of_length_le (by rw [HN.out]; omega)] at this
      have hR : rightB s l = !(decide (s < -1) || decide (1 < s) || ((s == 0) != (n == 0)) || (decide (0 < n) && (l.getD (n - 1) 0 == 0))) := by
        unfold rightB; rw [hany, HN.out]; simp
      have HR := Lib.hid hR
      clear hany hR HNo
      by_cases s1 : s < -1
      · have s1' : decide (s < -1) = true := by simpa using s1
        have HF : Hid (rightB s l = false) := Lib.hid (by rw [HR.out]; simp [s1])
        go_wp2_with fail
        go_ret
        exact ⟨by rw [HF.out]; rfl, below_alloc _ _⟩
      · have s1' : decide (s < -1) = false := by simpa using s1
        by_cases s2 : 1 < s
        · have s2' : decide (1 < s) = true := by simpa using s2
          have HF : Hid (rightB s l = false) := Lib.hid (by rw [HR.out]; simp [s2])
          go_wp2_with fail
          go_ret
          exact ⟨by rw [HF.out]; rfl, below_alloc _ _⟩
        · have s2' : decide (1 < s) = false := by simpa using s2
          by_cases n0 : n = 0
          · have n0' : ((n : Int) == 0) = true := by simpa using n0
            by_cases z0 : s = 0
            · have z0' : (s == 0) = true := by simpa using z0
              have HF : Hid (rightB s l = true) := Lib.hid (by rw [HR.out]; simp [z0, n0])
              clear z0
              go_wp2_with fail
              go_ret
              exact ⟨by rw [HF.out]; rfl, below_alloc _ _⟩
            · have z0' : (s == 0) = false := by simpa using z0
              have HF : Hid (rightB s l = false) := Lib.hid (by rw [HR.out]; simp [z0, n0])
              go_wp2_with fail
              go_ret
              exact ⟨by rw [HF.out]; rfl, below_alloc _ _⟩
          · have n0' : ((n : Int) == 0) = false := by simpa using n0
            by_cases z0 : s = 0
            · have z0' : (s == 0) = true := by simpa using z0
              have HF : Hid (rightB s l = false) := Lib.hid (by rw [HR.out]; simp [z0, n0])
              clear z0
              go_wp2_with fail
              go_ret
              exact ⟨by rw [HF.out]; rfl, below_alloc _ _⟩
            · have z0' : (s == 0) = false := by simpa using z0
              obtain ⟨j, rfl⟩ : ∃ j, n = j + 1 := ⟨n - 1, by omega⟩
              obtain ⟨b, o, rfl, hc⟩ := HC.out j (by omega)
              obtain ⟨d, hd⟩ : ∃ d, l.getD j 0 = d := ⟨_, rfl⟩
              rw [hd] at hc
              have HD := Lib.hid hd
              have hsub : ((j + 1 : Nat) : Int) - 1 = (j : Int) := by omega
              have hsub2 : (j : Int) + 1 - 1 = (j : Int) := by omega
              clear hd
              by_cases d0 : d = 0
              · have d0' : (d == 0) = true := by simpa using d0
                have d0'' : (d != 0) = false := by simpa using d0
                have HF : Hid (rightB s l = false) := Lib.hid (by rw [HR.out, show j + 1 - 1 = j by omega, HD.out]; simp [d0])
                clear d0
                go_wp2_with fail
                go_ret
                exact ⟨by rw [HF.out]; rfl, below_alloc _ _⟩
              · have d0' : (d == 0) = false := by simpa using d0
                have d0'' : (d != 0) = true := by simpa using d0
                have HF : Hid (rightB s l = true) := Lib.hid (by rw [HR.out, show j + 1 - 1 = j by omega, HD.out]; simp [d0, z0]; omega)
                go_wp2_with fail
                go_ret
                exact ⟨by rw [HF.out]; rfl, below_alloc _ _⟩
end Go.Proofs.YtnddickcnfodfaaGreatDoor.Bi
