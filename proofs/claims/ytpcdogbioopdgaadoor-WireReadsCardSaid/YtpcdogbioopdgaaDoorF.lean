/- The contract of few. -/
import Derived.Test.YtpcdogbioopdgaaDoorD2
namespace Go.Proofs.YtpcdogbioopdgaaDoor
open Go.RowKit Go.Sort

/-- A value to write, as it lies in memory. -/
structure V where
  kd : Int
  nn : Int
  s : ByteArray
  la : Option Addr
  lc : Nat
  l : List Int
  ta : Option Addr
  tc : Nat
  t : List ByteArray
def V.cells (v : V) : Array Value := #[.int .i64 v.kd, .int .i64 v.nn, .string v.s, .slice v.la v.l.length v.lc, .slice v.ta v.t.length v.tc]
structure VOk (w : World) (v : V) : Prop where
  kb : -9223372036854775808 ≤ v.kd ∧ v.kd ≤ 9223372036854775807
  nb : -9223372036854775808 ≤ v.nn ∧ v.nn ≤ 9223372036854775807
  sb : v.s.size ≤ 9223372036854775807
  lb : v.l.length ≤ 9223372036854775807
  tb : v.t.length ≤ 9223372036854775807
  lc : IntCells w v.la v.l
  lok : IntsOk v.l
  tc : StrCells w v.ta v.t
  tsb : ∀ z ∈ v.t, z.size ≤ 9223372036854775807
def sizes (t : List ByteArray) : Nat := (t.map ByteArray.size).sum
def V.weight (v : V) : Nat := v.s.size + v.l.length + v.t.length + sizes v.t
def weights (vs : List V) : Nat := (vs.map V.weight).sum
/-- The cells of a slice of values. -/
def VCells (w : World) (a : Option Addr) (vs : List V) : Prop :=
  vs = [] ∨ ∃ b off, a = some ⟨b, off, none⟩ ∧ ∀ i (h : i < vs.length), (∀ j v, vs[i].cells[j]? = some v → w.cell? ⟨b, off + i * 5 + j, none⟩ = some v) ∧ VOk w vs[i]
def FewPost (vs : List V) (w : World) (e : Ending) (w' : World) : Prop :=
  ∃ r : Bool, e = .returned (.bool r) ∧ RowKit.Below w.heap.size w w' ∧ (r = true ↔ vs.length ≤ 20 ∧ weights vs ≤ 400)

theorem ret_dec (n : Nat) : Ending.returned (.bool (decide ((n : Int) ≤ 400))) = .returned (.bool (decide (n ≤ 400))) := by
  congr 2; rw [Bool.eq_iff_iff]; simp; omega
theorem sizes_snoc (t : List ByteArray) (k : Nat) (h : k < t.length) : sizes (t.take (k + 1)) = sizes (t.take k) + t[k].size := by
  unfold sizes; rw [List.take_succ_eq_append_getElem h, List.map_append, List.sum_append]; simp
theorem weights_snoc (t : List V) (k : Nat) (h : k < t.length) : weights (t.take (k + 1)) = weights (t.take k) + t[k].weight := by
  unfold weights; rw [List.take_succ_eq_append_getElem h, List.map_append, List.sum_append]; simp

theorem iff_no {P : Prop} (h : ¬ P) : (false = true ↔ P) := ⟨fun e => (by cases e), fun p => absurd p h⟩
theorem weight_mem (vs : List V) (k : Nat) (h : k < vs.length) : vs[k].weight ≤ weights vs := by
  have h1 := weights_snoc vs k h
  have h2 : weights vs = weights (vs.take (k + 1)) + weights (vs.drop (k + 1)) := by
    unfold weights; rw [← List.sum_append, ← List.map_append, List.take_append_drop]
  omega
theorem size_mem (t : List ByteArray) (k : Nat) (h : k < t.length) : t[k].size ≤ sizes t := by
  have h1 := sizes_snoc t k h
  have h2 : sizes t = sizes (t.take (k + 1)) + sizes (t.drop (k + 1)) := by
    unfold sizes; rw [← List.sum_append, ← List.map_append, List.take_append_drop]
  omega

theorem few_long (a : Option Addr) (cap : Nat) (vs : List V) (h : 20 < vs.length) (hm : vs.length ≤ 9223372036854775807) (w : World) :
    Calls Tryd.prog 10 #[.slice a vs.length cap] w (FewPost vs w) := by
  go_enter Tryd.func10, Tryd.ntmps10
  go_wp2_with fail
  go_ret
  exact ⟨false, rfl, Below.refl _ _, iff_no (by omega)⟩

set_option maxRecDepth 100000 in
set_option maxHeartbeats 4000000 in
theorem few_any (a : Option Addr) (cap : Nat) (vs : List V) (hlen : vs.length ≤ 20) (w : World) (hv : VCells w a vs) :
    Calls Tryd.prog 10 #[.slice a vs.length cap] w (FewPost vs w) := by
  rcases hv with h0' | ⟨b, off, rfl, hc⟩
  have h0 := Lib.hid h0'; clear h0'
  rotate_left
  all_goals
    go_enter Tryd.func10, Tryd.ntmps10
    go_wp2_with fail
    go_loopw [3, 4] (fun n i wr => ∃ k : Nat, k ≤ vs.length ∧ i = .int .i64 k ∧ n = .int .i64 (weights (vs.take k) : Nat) ∧ weights (vs.take k) ≤ 161200 * k ∧ RowKit.Below w.heap.size w wr) (fun _ i _ => vs.length - (RowKit.intOf i).toNat)
    case atStart => exact ⟨0, by omega, rfl, rfl, by simp [weights], Below.refl _ _⟩
    case round =>
      obtain ⟨k, hk, rfl, rfl, hwt, hb⟩ := hrel
      by_cases hlt : k < vs.length
      · first
        | (exfalso; simp [h0.out] at hlt; done)
        | (obtain ⟨v, hvk⟩ : ∃ v, v = vs[k] := ⟨_, rfl⟩
           have hck := (hc k hlt).1
           have hok := (hc k hlt).2
           rw [← hvk] at hck hok
           have f0 : wr.cell? ⟨b, off + k * 5 + 2, none⟩ = some (.string v.s) := cell_later (hck 2 _ rfl) hb
           have f3 : wr.cell? ⟨b, off + k * 5 + 3, none⟩ = some (.slice v.la v.l.length v.lc) := cell_later (hck 3 _ rfl) hb
           have f4 : wr.cell? ⟨b, off + k * 5 + 4, none⟩ = some (.slice v.ta v.t.length v.tc) := cell_later (hck 4 _ rfl) hb
           have F4 := Lib.hid (hck 4 _ rfl)
           have HV := Lib.hid hok
           have hsb := hok.sb
           have hlb := hok.lb
           have htb := hok.tb
           clear hck hok hc
           obtain ⟨W, hW⟩ : ∃ W, W = weights (vs.take k) := ⟨_, rfl⟩
           rw [← hW] at hwt
           rw [← hW]
           have HW := Lib.hid hW
           have HVK := Lib.hid hvk
           clear hW hvk
           by_cases hbig : 400 < v.l.length ∨ 400 < v.t.length ∨ 400 < v.s.size
           · go_wp2_with fail
             all_goals first
             | (go_ret; exact ⟨false, rfl, hb, iff_no (by have h1 := weight_mem vs k hlt; rw [← HVK.out, V.weight] at h1; omega)⟩)
             | (exfalso; omega)
           · have g1 : v.l.length ≤ 400 := by omega
             have g2 : v.t.length ≤ 400 := by omega
             have g3 : v.s.size ≤ 400 := by omega
             clear hbig
             go_wp2_with fail
             go_quiet (fail)
             go_wp2_with fail
             have hb0 : RowKit.Below w.heap.size w (wr.drewN nq) := below_drewN hb nq
             have HT := Lib.hid HV.out.tc
             have HTS := Lib.hid HV.out.tsb
             go_loopw [3, 5] (fun n i wr => ∃ j : Nat, j ≤ v.t.length ∧ i = .int .i64 j ∧ n = .int .i64 ((W + v.s.size + v.l.length + v.t.length + sizes (v.t.take j) : Nat) : Int) ∧ sizes (v.t.take j) ≤ 400 * j ∧ RowKit.Below w.heap.size w wr) (fun _ i _ => v.t.length - (RowKit.intOf i).toNat)
             case atStart => exact ⟨0, by omega, rfl, by simp [sizes], by simp [sizes], hb0⟩
             case round =>
               clear hb hb0 f0 f3 f4
               obtain ⟨j, hj, rfl, rfl, hjs, hb⟩ := hrel
               have f4 : wr.cell? ⟨b, off + k * 5 + 4, none⟩ = some (.slice v.ta v.t.length v.tc) := cell_later F4.out hb
               obtain ⟨S, hS⟩ : ∃ S, S = sizes (v.t.take j) := ⟨_, rfl⟩
               rw [← hS] at hjs
               rw [← hS]
               have HS := Lib.hid hS
               clear hS
               by_cases hjt : j < v.t.length
               · rcases HT.out with ht0 | ⟨bt, ot, hta, htc⟩
                 · exfalso; simp [ht0] at hjt
                 · have ft := cell_later (htc j hjt) hb
                   have hts := HTS.out _ (List.getElem_mem hjt)
                   clear htc
                   obtain ⟨z, hz⟩ : ∃ z, z = v.t[j] := ⟨_, rfl⟩
                   rw [← hz] at ft hts
                   have HZ := Lib.hid hz
                   clear hz
                   by_cases hzb : 400 < z.size
                   · go_wp2_with fail
                     go_ret
                     exact ⟨false, rfl, hb, iff_no (by have h1 := weight_mem vs k hlt; have h2 := size_mem v.t j hjt; rw [← HVK.out, V.weight] at h1; rw [← HZ.out] at h2; omega)⟩
                   · go_wp2_with fail
                     go_roundw
                     case rel => exact ⟨j + 1, by omega, by go_num, by rw [sizes_snoc _ _ hjt, ← HS.out, ← HZ.out]; go_num, by rw [sizes_snoc _ _ hjt, ← HS.out, ← HZ.out]; omega, hb⟩
                     case measure => simp [RowKit.intOf]; omega
               · have hSS : S = sizes v.t := by rw [HS.out, List.take_of_length_le (by omega)]
                 have HSS := Lib.hid hSS
                 have hSb : S ≤ 160000 := by omega
                 clear hSS
                 go_wp2_with fail
                 go_roundw
                 case rel => exact ⟨k + 1, by omega, by go_num, by rw [weights_snoc _ _ hlt, ← HVK.out, ← HW.out, V.weight, ← HSS.out]; go_num, by rw [weights_snoc _ _ hlt, ← HVK.out, ← HW.out, V.weight, ← HSS.out]; omega, hb⟩
                 case measure => simp [RowKit.intOf]; omega)
      · have hkk : vs.take k = vs := List.take_of_length_le (by omega)
        have HKK := Lib.hid hkk
        clear hkk
        go_wp2_with fail
        go_ret
        exact ⟨decide (weights vs ≤ 400), by rw [HKK.out]; exact ret_dec _, hb, Iff.intro (fun h => ⟨hlen, by simpa using h⟩) (fun h => by simpa using h.2)⟩

theorem few_one (v : V) (b cap : Nat) (w : World) (hc : ∀ j u, v.cells[j]? = some u → w.cell? ⟨b, j, none⟩ = some u) (hv : VOk w v) (t : Bool) (ht : t = decide (v.weight ≤ 400)) :
    Calls Tryd.prog 10 #[.slice (some ⟨b, 0, none⟩) 1 cap] w (Gives (.bool t) w) := by
  refine (few_any (some ⟨b, 0, none⟩) cap [v] (by simp) w (.inr ⟨b, 0, rfl, fun i hi => ?_⟩)).mono ?_
  · obtain rfl : i = 0 := by simpa using hi
    exact ⟨fun j u hu => by simpa using hc j u hu, hv⟩
  rintro e w' ⟨r, rfl, hb, hr⟩
  refine ⟨?_, hb⟩
  subst ht
  congr 2
  rw [Bool.eq_iff_iff, hr]
  simp [weights]
end Go.Proofs.YtpcdogbioopdgaaDoor
