/- The contracts of combine, signed, times. -/
import Derived.Test.YtpcagodnlbdclaaDoorBi4
set_option maxRecDepth 100000
namespace Go.Proofs.YtpcagodnlbdclaaDoor.Bi
open Go.RowKit

/-- A call that returns the digits of n, in new memory or in old. -/
def Gives (n : Nat) (w : World) (e : Ending) (w' : World) : Prop := ∃ v, e = .returned v ∧ Ints w' v (digs n) ∧ RowKit.Below w.heap.size w w' ∧ Fresh w.heap.size v

theorem comb_step (VL VL2 Pk c a b dx dy tx ty s o : Int) (h1 : VL + Pk * c = a * tx + b * ty) (h2 : VL2 = VL + Pk * (s % 1048576 - o)) (ho : o = 0) (hs : s = c + (a * dx + b * dy)) :
    VL2 + 1048576 * Pk * (s / 1048576) = a * (tx + Pk * dx) + b * (ty + Pk * dy) := by
  have h3 : s % 1048576 = s - 1048576 * (s / 1048576) := by omega
  rw [h3] at h2
  grind

theorem comb_end {VL Pn c V : Int} (h1 : VL + Pn * c = V) (h2 : 0 ≤ VL) (h3 : VL < Pn) (h4 : 0 ≤ V) (h5 : V < Pn) : VL = V := by
  rcases Int.lt_trichotomy c 0 with hc | hc | hc
  · have : Pn * c ≤ Pn * (-1) := Int.mul_le_mul_of_nonneg_left (by omega) (by omega)
    omega
  · subst hc; omega
  · have : Pn * 1 ≤ Pn * c := Int.mul_le_mul_of_nonneg_left (by omega) (by omega)
    omega

set_option maxHeartbeats 2000000 in
theorem combine_any (vx vy : Value) (x y : List Int) (a b : Int) (w : World) (hx : Ints w vx x) (hy : Ints w vy y) (hdx : Dig x) (hdy : Dig y) (ha : -1099511627776 ≤ a ∧ a ≤ 1099511627776) (hb : -1099511627776 ≤ b ∧ b ≤ 1099511627776)
    (hlx : x.length ≤ 10000000) (hly : y.length ≤ 10000000) (h0 : 0 ≤ a * val x + b * val y) (h1 : a * val x + b * val y < P (max x.length y.length + 1)) :
    Calls Tryd.prog 48 #[vx, vy, .int .i64 a, .int .i64 b] w (Gives (a * val x + b * val y).toNat w) := by
  obtain ⟨ax, capx, rfl, _, _, _⟩ := id hx
  obtain ⟨ay, capy, rfl, _, _, _⟩ := id hy
  obtain ⟨N, hN⟩ : ∃ N, max x.length y.length + 1 = N := ⟨_, rfl⟩
  have hN1 : x.length ≤ N := by omega
  have hN2 : y.length ≤ N := by omega
  have hN3 : N ≤ 10000001 := by omega
  rw [hN] at h1
  obtain ⟨O, hmk0, hO⟩ := make_any N (by omega)
  have HX := Lib.hid hx
  have HY := Lib.hid hy
  have HDX := Lib.hid hdx
  have HDY := Lib.hid hdy
  have HO := Lib.hid hO
  have HV0 := Lib.hid h0
  have HV1 := Lib.hid h1
  have HN1 := Lib.hid hN1
  have HN2 := Lib.hid hN2
  by_cases hxy : x.length < y.length
  · have hmk : ∀ w, (Instr.makeSlice 22 (.int .i64 ((y.length : Int) + 1)) (.int .i64 ((y.length : Int) + 1))).run Tryd.prog w = .ok (.slice (some ⟨w.heap.size, 0, none⟩) N N) (w.alloc O) := by
      rw [show (y.length : Int) + 1 = (N : Int) by omega]; exact hmk0
    clear hx hy hdx hdy hO h0 h1 hN hN1 hN2 hmk0
    go_enter Tryd.func48, Tryd.ntmps48
    go_wp2_with fail
    clear hmk
    go_loopw [10, 21] (fun c t wr => ∃ (k : Nat) (C : Int) (L : List Int), k ≤ N ∧ t = .int .i64 k ∧ c = .int .i64 C ∧ -2199023255552 ≤ C ∧ C ≤ 2199023255552 ∧ Mem wr w.heap.size L ∧ RowKit.Below w.heap.size w wr ∧ L.length = N ∧ (∀ j, k ≤ j → L.getD j 0 = 0) ∧
      (∀ j, j < k → 0 ≤ L.getD j 0 ∧ L.getD j 0 < 1048576) ∧ val L + P k * C = a * val (x.take k) + b * val (y.take k)) (fun _ t _ => N - (intOf t).toNat)
    case atStart =>
      refine ⟨0, 0, List.replicate N 0, Nat.zero_le _, rfl, rfl, by omega, by omega, HO.out _ _ (alloc_at _ _), below_alloc _ _, List.length_replicate, fun j _ => ?_, fun j h => by omega, by simp [val, val_zeros]⟩
      rw [List.getD_eq_getElem?_getD, List.getElem?_replicate]
      split <;> rfl
    case round =>
      obtain ⟨k, C, L, hk, rfl, rfl, hC1, hC2, hM, hB, hl, hz, hdig, hval⟩ := hrel
      have HB := Lib.hid hB
      have HL := Lib.hid hl
      have HZ := Lib.hid hz
      have HD := Lib.hid hdig
      have HV := Lib.hid hval
      have HM := Lib.hid hM
      clear hB hl hz hdig hval hM
      by_cases hlt : k < N
      · have hcl := HM.out.cell (j := k) (by have := HL.out; omega)
        have hfl := HM.out.free k
        clear hcl
        have bx := HDX.out.get k
        have byy := HDY.out.get k
        obtain ⟨dx, hdx⟩ : ∃ d, x.getD k 0 = d := ⟨_, rfl⟩
        obtain ⟨dy, hdy⟩ : ∃ d, y.getD k 0 = d := ⟨_, rfl⟩
        rw [hdx] at bx
        rw [hdy] at byy
        have bm := mul_bd (q := a) (d := dx) (A := 1099511627776) (by omega) (by omega) bx.1 bx.2 (by omega)
        have bn := mul_bd (q := b) (d := dy) (A := 1099511627776) (by omega) (by omega) byy.1 byy.2 (by omega)
        have HDx := Lib.hid hdx
        have HDy := Lib.hid hdy
        clear hdx hdy
        go_wp2_with fail
        refine (digit_any _ x k _ (HX.out.later HB.out)).mono ?_
        rintro e w' ⟨rfl, rfl⟩
        rw [dg_nat, HDx.out]
        go_wp2_with fail
        refine (digit_any _ y k _ (HY.out.later HB.out)).mono ?_
        rintro e w' ⟨rfl, rfl⟩
        rw [dg_nat, HDy.out]
        have hcl := HM.out.cell (j := k) (by have := HL.out; omega)
        rw [HZ.out k (Nat.le_refl _)] at hcl
        go_wp2_with fail
        go_roundw
        case rel =>
          have hl2 := HL.out
          refine ⟨k + 1, (C + (a * dx + b * dy)) / 1048576, L.set k ((C + (a * dx + b * dy)) % 1048576), by omega, by go_num, by rfl, by omega, by omega, ?_, HB.out.setCell (Nat.le_refl _) _, by rw [List.length_set]; exact hl2, ?_, ?_, ?_⟩
          · rw [mask20]
            exact HM.out.set (by omega) _
          · intro j hj
            rw [getD_set_ne (by omega)]
            exact HZ.out j (by omega)
          · intro j hj
            by_cases e : k = j
            · subst e
              rw [getD_set_eq (by omega)]
              omega
            · rw [getD_set_ne e]
              exact HD.out j (by omega)
          · rw [P_succ, val_take, val_take, HDx.out, HDy.out]
            exact comb_step (val L) _ (P k) C a b dx dy _ _ _ (L.getD k 0) HV.out (val_set _ _ _ (by omega)) (HZ.out k (Nat.le_refl _)) rfl
        case measure => simp [intOf]; omega
      · obtain rfl : k = N := by omega
        have hl2 := HL.out
        have hdl : Dig L := dig_of_get fun i hi => HD.out i (by omega)
        have hv : val L = a * val x + b * val y := by
          have h1 := HV.out
          have h2 := val_bd hdl
          rw [val_take_all _ HN1.out, val_take_all _ HN2.out] at h1
          rw [hl2] at h2
          exact comb_end h1 h2.1 h2.2 HV0.out HV1.out
        have ht := trim_any (some ⟨w.heap.size, 0, none⟩) L.length L hdl wr (HM.out.ints0 _ (Nat.le_refl _) (by omega))
        rw [hl2] at ht
        have HVV := Lib.hid hv
        have HDL := Lib.hid hdl
        have HT := Lib.hid ht
        clear hl2 hdl hv ht
        go_wp2_with fail
        refine HT.out.mono ?_
        rintro e w' ⟨rfl, rfl⟩
        go_wp2_with fail
        go_ret
        have hl2 := HL.out
        refine ⟨_, rfl, ?_, HB.out, fresh_mem (Nat.le_refl _)⟩
        have h1 := dig_take HDL.out
        have h2 := dig_len HDL.out
        rw [← HVV.out]
        have h3 := HM.out.ints 0 (digs (val L).toNat).length k (by omega) (by omega) (by omega)
        rw [List.drop_zero, h1] at h3
        exact h3
  · have hmk : ∀ w, (Instr.makeSlice 22 (.int .i64 ((x.length : Int) + 1)) (.int .i64 ((x.length : Int) + 1))).run Tryd.prog w = .ok (.slice (some ⟨w.heap.size, 0, none⟩) N N) (w.alloc O) := by
      rw [show (x.length : Int) + 1 = (N : Int) by omega]; exact hmk0
    clear hx hy hdx hdy hO h0 h1 hN hN1 hN2 hmk0
    go_enter Tryd.func48, Tryd.ntmps48
    go_wp2_with fail
    clear hmk
    go_loopw [10, 21] (fun c t wr => ∃ (k : Nat) (C : Int) (L : List Int), k ≤ N ∧ t = .int .i64 k ∧ c = .int .i64 C ∧ -2199023255552 ≤ C ∧ C ≤ 2199023255552 ∧ Mem wr w.heap.size L ∧ RowKit.Below w.heap.size w wr ∧ L.length = N ∧ (∀ j, k ≤ j → L.getD j 0 = 0) ∧
      (∀ j, j < k → 0 ≤ L.getD j 0 ∧ L.getD j 0 < 1048576) ∧ val L + P k * C = a * val (x.take k) + b * val (y.take k)) (fun _ t _ => N - (intOf t).toNat)
    case atStart =>
      refine ⟨0, 0, List.replicate N 0, Nat.zero_le _, rfl, rfl, by omega, by omega, HO.out _ _ (alloc_at _ _), below_alloc _ _, List.length_replicate, fun j _ => ?_, fun j h => by omega, by simp [val, val_zeros]⟩
      rw [List.getD_eq_getElem?_getD, List.getElem?_replicate]
      split <;> rfl
    case round =>
      obtain ⟨k, C, L, hk, rfl, rfl, hC1, hC2, hM, hB, hl, hz, hdig, hval⟩ := hrel
      have HB := Lib.hid hB
      have HL := Lib.hid hl
      have HZ := Lib.hid hz
      have HD := Lib.hid hdig
      have HV := Lib.hid hval
      have HM := Lib.hid hM
      clear hB hl hz hdig hval hM
      by_cases hlt : k < N
      · have hcl := HM.out.cell (j := k) (by have := HL.out; omega)
        have hfl := HM.out.free k
        clear hcl
        have bx := HDX.out.get k
        have byy := HDY.out.get k
        obtain ⟨dx, hdx⟩ : ∃ d, x.getD k 0 = d := ⟨_, rfl⟩
        obtain ⟨dy, hdy⟩ : ∃ d, y.getD k 0 = d := ⟨_, rfl⟩
        rw [hdx] at bx
        rw [hdy] at byy
        have bm := mul_bd (q := a) (d := dx) (A := 1099511627776) (by omega) (by omega) bx.1 bx.2 (by omega)
        have bn := mul_bd (q := b) (d := dy) (A := 1099511627776) (by omega) (by omega) byy.1 byy.2 (by omega)
        have HDx := Lib.hid hdx
        have HDy := Lib.hid hdy
        clear hdx hdy
        go_wp2_with fail
        refine (digit_any _ x k _ (HX.out.later HB.out)).mono ?_
        rintro e w' ⟨rfl, rfl⟩
        rw [dg_nat, HDx.out]
        go_wp2_with fail
        refine (digit_any _ y k _ (HY.out.later HB.out)).mono ?_
        rintro e w' ⟨rfl, rfl⟩
        rw [dg_nat, HDy.out]
        have hcl := HM.out.cell (j := k) (by have := HL.out; omega)
        rw [HZ.out k (Nat.le_refl _)] at hcl
        go_wp2_with fail
        go_roundw
        case rel =>
          have hl2 := HL.out
          refine ⟨k + 1, (C + (a * dx + b * dy)) / 1048576, L.set k ((C + (a * dx + b * dy)) % 1048576), by omega, by go_num, by rfl, by omega, by omega, ?_, HB.out.setCell (Nat.le_refl _) _, by rw [List.length_set]; exact hl2, ?_, ?_, ?_⟩
          · rw [mask20]
            exact HM.out.set (by omega) _
          · intro j hj
            rw [getD_set_ne (by omega)]
            exact HZ.out j (by omega)
          · intro j hj
            by_cases e : k = j
            · subst e
              rw [getD_set_eq (by omega)]
              omega
            · rw [getD_set_ne e]
              exact HD.out j (by omega)
          · rw [P_succ, val_take, val_take, HDx.out, HDy.out]
            exact comb_step (val L) _ (P k) C a b dx dy _ _ _ (L.getD k 0) HV.out (val_set _ _ _ (by omega)) (HZ.out k (Nat.le_refl _)) rfl
        case measure => simp [intOf]; omega
      · obtain rfl : k = N := by omega
        have hl2 := HL.out
        have hdl : Dig L := dig_of_get fun i hi => HD.out i (by omega)
        have hv : val L = a * val x + b * val y := by
          have h1 := HV.out
          have h2 := val_bd hdl
          rw [val_take_all _ HN1.out, val_take_all _ HN2.out] at h1
          rw [hl2] at h2
          exact comb_end h1 h2.1 h2.2 HV0.out HV1.out
        have ht := trim_any (some ⟨w.heap.size, 0, none⟩) L.length L hdl wr (HM.out.ints0 _ (Nat.le_refl _) (by omega))
        rw [hl2] at ht
        have HVV := Lib.hid hv
        have HDL := Lib.hid hdl
        have HT := Lib.hid ht
        clear hl2 hdl hv ht
        go_wp2_with fail
        refine HT.out.mono ?_
        rintro e w' ⟨rfl, rfl⟩
        go_wp2_with fail
        go_ret
        have hl2 := HL.out
        refine ⟨_, rfl, ?_, HB.out, fresh_mem (Nat.le_refl _)⟩
        have h1 := dig_take HDL.out
        have h2 := dig_len HDL.out
        rw [← HVV.out]
        have h3 := HM.out.ints 0 (digs (val L).toNat).length k (by omega) (by omega) (by omega)
        rw [List.drop_zero, h1] at h3
        exact h3
end Go.Proofs.YtpcagodnlbdclaaDoor.Bi
