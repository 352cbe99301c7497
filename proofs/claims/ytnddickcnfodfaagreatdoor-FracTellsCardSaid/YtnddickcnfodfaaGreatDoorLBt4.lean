/- kitbagref04: the contract of times. -/
import Derived.Test.YtnddickcnfodfaaGreatDoorLBt3
set_option maxRecDepth 100000
namespace Go.Proofs.YtnddickcnfodfaaGreatDoor.Bi
open Go.RowKit

theorem dd_bd {d e : Int} (h0 : 0 ≤ d) (h1 : d < 1048576) (h2 : 0 ≤ e) (h3 : e < 1048576) : 0 ≤ d * e ∧ d * e ≤ 1099509530625 := by
  have e1 := mul_bd (q := d) (d := e) (A := 1048575) (by omega) (by omega) h2 h3 (by omega)
  exact ⟨Int.mul_nonneg h0 h2, by omega⟩
theorem getD_out {l : List Int} {k : Nat} (h : l.length ≤ k) : l.getD k 0 = 0 := by rw [List.getD_eq_getElem?_getD, List.getElem?_eq_none h]; rfl
/-- A product's row, a digit further. -/
theorem row_step {L y : List Int} {i k : Nat} {V C d s : Int} (hj : i + k < L.length) (h : val L + P (i + k) * C = V + P i * (d * val (y.take k))) (hs : s = L.getD (i + k) 0 + d * y.getD k 0 + C) :
    val (L.set (i + k) (s % 1048576)) + P (i + (k + 1)) * (s / 1048576) = V + P i * (d * val (y.take (k + 1))) := by
  rw [show i + (k + 1) = (i + k) + 1 by omega, P_succ, val_take]
  exact add_step V (val L) _ (P i) (P k) (P (i + k)) C d (y.getD k 0) s (val (y.take k)) (L.getD (i + k) 0) h (P_add i k) (val_set _ _ _ hj) (by omega)

set_option maxHeartbeats 4000000 in
theorem rtimes_any (vx vy : Value) (x y : List Int) (hdx : Dig x) (hdy : Dig y) (w : World) (hx : Ints w vx x) (hy : Ints w vy y) (hlx : x.length ≤ 1000000) (hly : y.length ≤ 1000000) :
    Calls Tryz.prog 72 #[vx, vy] w (Copy (digs (val x * val y).toNat) w) := by
  obtain ⟨ax, capx, rfl, _, _, hx3⟩ := id hx
  obtain ⟨ay, capy, rfl, _, _, _⟩ := id hy
  obtain ⟨O, hmk0, hO⟩ := make_any (x.length + y.length) (by omega)
  obtain ⟨m, ex⟩ : ∃ l, x.length = l := ⟨_, rfl⟩
  obtain ⟨n, ey⟩ : ∃ l, y.length = l := ⟨_, rfl⟩
  have HX : Hid (∀ k, k < m → ∃ b o, ax = some ⟨b, o, none⟩ ∧ ∀ W, RowKit.Below w.heap.size w W → W.cell? ⟨b, o + k, none⟩ = some (.int .i64 (x.getD k 0))) := by
    intro k hk
    obtain ⟨b, o, e, hlt, hr⟩ := hx3.resolve_left (fun e => by rw [e] at ex; simp at ex; omega)
    exact ⟨b, o, e, fun W hW => (hB_cell hW hlt).trans (hr k (by omega))⟩
  have hcx := hx.shape.2.1
  have HY := Lib.hid hy
  have HDX := Lib.hid hdx
  have HDY := Lib.hid hdy
  have HEX := Lib.hid ex
  have HEY := Lib.hid ey
  rw [ex, ey] at hmk0 hO
  rw [ex] at hlx hcx ⊢
  rw [ey] at hly HY ⊢
  obtain ⟨N, eN⟩ : ∃ N, m + n = N := ⟨_, rfl⟩
  rw [eN] at hmk0 hO
  have hmk : ∀ w, (Instr.makeSlice 22 (.int .i64 ((m : Int) + (n : Int))) (.int .i64 ((m : Int) + (n : Int)))).run Tryz.prog w = .ok (.slice (some ⟨w.heap.size, 0, none⟩) N N) (w.alloc O) := by
    rw [show (m : Int) + (n : Int) = ((N : Nat) : Int) by omega]; exact hmk0
  have HO := Lib.hid hO
  clear hx hx3 hy hdx hdy ex ey hmk0 hO
  go_enter Tryz.func72, Tryz.ntmps72
  go_wp2_with fail
  clear hmk
  go_loopw [6] (fun t wr => ∃ (i : Nat) (L : List Int), i ≤ m ∧ t = .int .i64 i ∧ Mem wr w.heap.size L ∧ RowKit.Below w.heap.size w wr ∧ L.length = N ∧ Dig L ∧ (∀ j, i + n ≤ j → L.getD j 0 = 0) ∧ val L = val (x.take i) * val y) (fun t _ => m - (intOf t).toNat)
  case atStart =>
    exact ⟨0, List.replicate N 0, Nat.zero_le _, rfl, HO.out _ _ (alloc_at _ _), below_alloc _ _, List.length_replicate, Dig.zeros N, fun j _ => zeros_get N j, by simp [val, val_zeros]⟩
  case round =>
    obtain ⟨i, L, hi, rfl, hM, hB, hl, hd, hz, hval⟩ := hrel
    have HB := Lib.hid hB
    have HL := Lib.hid hl
    have HZ := Lib.hid hz
    have HD := Lib.hid hd
    have HV := Lib.hid hval
    have HM := Lib.hid hM
    clear hB hl hz hd hval hM
    by_cases hlt : i < m
    · obtain ⟨bb, o, rfl, hcell⟩ := HX.out i hlt
      have bx := HDX.out.get i
      obtain ⟨d, ed⟩ : ∃ d, x.getD i 0 = d := ⟨_, rfl⟩
      rw [ed] at bx hcell
      have HC := Lib.hid hcell
      have HED := Lib.hid ed
      obtain ⟨V, eV⟩ : ∃ V, val L = V := ⟨_, rfl⟩
      rw [eV] at HV
      have HEV := Lib.hid eV
      clear hcell ed eV
      obtain ⟨wo, ewo⟩ : ∃ wo : World, wo = wr := ⟨_, rfl⟩
      rw [← ewo]
      rw [← ewo] at HB HM
      clear ewo
      go_wp2_with fail
      go_loopw [7, 8] (fun c t wq => ∃ (k : Nat) (C : Int) (L : List Int), k ≤ n + 1 ∧ c = .int .i64 C ∧ t = .int .i64 k ∧ 0 ≤ C ∧ C < 1048576 ∧ (k = n + 1 → C = 0) ∧ Mem wq w.heap.size L ∧ RowKit.Below w.heap.size w wq ∧ L.length = N ∧ Dig L ∧ (∀ j, i + n ≤ j → i + k ≤ j → L.getD j 0 = 0) ∧ val L + P (i + k) * C = V + P i * (d * val (y.take k))) (fun _ t _ => n + 2 - (intOf t).toNat)
      case atStart => exact ⟨0, 0, L, by omega, rfl, rfl, by omega, by omega, by omega, HM.out, HB.out, HL.out, HD.out, fun j h1 _ => HZ.out j h1, by rw [HEV.out]; simp [val]⟩
      case round =>
        obtain ⟨k, C, L', hk, rfl, rfl, hc0, hc1, hck, hM, hB, hl, hd, hz, hval⟩ := hrel
        have HB' := Lib.hid hB
        have HL' := Lib.hid hl
        have HZ' := Lib.hid hz
        have HD' := Lib.hid hd
        have HV' := Lib.hid hval
        have HM' := Lib.hid hM
        clear hB hl hz hd hval hM
        have hcase : (k < n) ∨ (¬ k < n ∧ 0 < C) ∨ (¬ k < n ∧ C = 0) := by omega
        rcases hcase with h1 | ⟨h1, h2⟩ | ⟨h1, h2⟩
        iterate 2
          have hjN : i + k < N := by omega
          have hc := HC.out wr HB'.out
          have hcl := HM'.out.cell (j := i + k) (by rw [HL'.out]; exact hjN)
          have bo := HD'.out.get (i + k)
          have by_ := HDY.out.get k
          have hz0 : ¬ k < n → L'.getD (i + k) 0 = 0 ∧ d * y.getD k 0 = 0 := fun h => ⟨HZ'.out _ (by omega) (Nat.le_refl _), by rw [getD_out (by rw [HEY.out]; omega), Int.mul_zero]⟩
          have hstep := row_step (y := y) (d := d) (s := L'.getD (i + k) 0 + d * y.getD k 0 + C) (by rw [HL'.out]; exact hjN) HV'.out rfl
          have hbd := dd_bd bx.1 bx.2 by_.1 by_.2
          obtain ⟨dy, edy⟩ : ∃ e, y.getD k 0 = e := ⟨_, rfl⟩
          obtain ⟨old, eo⟩ : ∃ e, L'.getD (i + k) 0 = e := ⟨_, rfl⟩
          rw [edy] at by_ hz0 hbd hstep
          rw [eo] at bo hcl hz0 hstep
          have HJY := Lib.hid edy
          have HST := Lib.hid hstep
          have HZ0 := Lib.hid hz0
          have hkn : k ≤ n := by omega
          clear edy eo hstep hz0 hck
          obtain ⟨j, ej⟩ : ∃ j, i + k = j := ⟨_, rfl⟩
          have hij : (i : Int) + (k : Int) = (j : Int) := by omega
          have EJ := Lib.hid ej
          rw [ej] at hcl hjN HST
          clear ej
          have hmod : Int.tmod (old + d * dy + C) 1048576 = (old + d * dy + C) % 1048576 := Int.tmod_eq_emod_of_nonneg (by omega)
          have hdiv : Int.tdiv (old + d * dy + C) 1048576 = (old + d * dy + C) / 1048576 := Int.tdiv_eq_ediv_of_nonneg (by omega)
          go_wp2_with fail
          go_quiet ((go_at_call 106; exact Calls.quiet_of ((rdigit_any _ _ k _ ((HY.out.later HB'.out).drewN _)).mono (fun _ _ h => ⟨h.1.trans (by rw [HJY.out]), 0, h.2.symm⟩))))
          have hcl2 : (wr.drewN nq).cell? ⟨w.heap.size, j, none⟩ = some (.int .i64 old) := hcl
          have hfl2 : (wr.drewN nq).frozen? ⟨w.heap.size, j, none⟩ = false := HM'.out.free j
          have HBQ : Hid (RowKit.Below w.heap.size w (wr.drewN nq)) := HB'.out.trans ((below_drewN' nq).mono HB'.out.size)
          have HMQ : Hid (Mem (wr.drewN nq) w.heap.size L') := HM'.out
          go_wp2_with fail
          go_roundw
          case rel =>
            have hN := HL'.out
            have hJ := EJ.out
            have hz0 := HZ0.out
            refine ⟨k + 1, (old + d * dy + C) / 1048576, L'.set j ((old + d * dy + C) % 1048576), by omega, by first | rfl | (simp [hdiv]; done), by go_num, by omega, by omega, fun e => by have := hz0 (by omega); omega, HMQ.out.set (by omega) _, HBQ.out.setCell (Nat.le_refl _) _, by rw [List.length_set]; exact hN, HD'.out.set j (by omega) (by omega), fun q hq1 hq2 => by rw [getD_set_ne (by omega)]; exact HZ'.out q hq1 (by omega), HST.out⟩
          case measure => simp [intOf]; omega
        obtain rfl := h2
        have hv : val L' = val (x.take (i + 1)) * val y := by
          have := HV'.out
          rw [val_take_all y (by rw [HEY.out]; omega), Int.mul_zero] at this
          rw [val_take, HED.out]
          have h2 := HV.out
          rw [h2] at this
          grind
        have HV2 := Lib.hid hv
        clear hv hck hc0 hc1
        go_wp2_with fail
        go_roundw
        case rel => exact ⟨i + 1, L', by omega, by go_num, HM'.out, HB'.out, HL'.out, HD'.out, fun q hq => HZ'.out q (by omega) (by omega), HV2.out⟩
        case measure => simp [intOf]; omega
    · obtain rfl : i = m := by omega
      have hl2 := HL.out
      have hv := HV.out
      rw [val_take_all _ (by rw [HEX.out]; omega)] at hv
      have HV2 := Lib.hid hv
      clear hv
      go_wp2_with fail
      have ht := rtrim_any (some ⟨w.heap.size, 0, none⟩) N L HD.out wr (HM.out.ints0 N (by omega) (by omega)) (by omega)
      rw [hl2, HV2.out] at ht
      refine ht.mono ?_
      intro e w' h
      have HC := Lib.hid (h.after HB.out)
      obtain ⟨v', rfl, _⟩ := h
      go_wp2_with fail
      go_ret
      exact HC.out
end Go.Proofs.YtnddickcnfodfaaGreatDoor.Bi
