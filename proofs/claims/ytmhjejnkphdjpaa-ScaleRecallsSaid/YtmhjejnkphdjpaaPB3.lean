/- The contract of divide. -/
import Derived.Test.YtmhjejnkphdjpaaPB2
import Derived.Laws.CopyRow
import Derived.Laws.IdiomCopy
set_option maxRecDepth 100000
namespace Go.Proofs.Ytmhjejnkphdjpaa.Bi
open Go.RowKit

theorem mem_copy {w : World} {g : Nat} {R x : List Int} {ax : Option Addr} {capx : Nat} (ty : TypeId) (hM : Mem w g R) (hx : Ints w (.slice ax x.length capx) x) (hl : x.length ≤ R.length) :
    ∃ w', (Builtin.copy_ #[30, 30] ty #[.slice (some ⟨g, 0, none⟩) R.length R.length, .slice ax x.length capx]).run Try.prog w = .ok (.int .i64 x.length) w' ∧ Mem w' g (x ++ R.drop x.length) ∧ w.grownBy w' (some g) := by
  obtain ⟨_, h1, h2, h3⟩ := hx.shape
  have hs : (Try.prog.info? 3).map (·.size) = some 1 := by kernel_rfl
  by_cases h0 : x.length = 0
  · obtain rfl : x = [] := List.eq_nil_of_length_eq_zero h0
    refine ⟨w, ?_, by simpa using hM, on_refl _ _⟩
    exact run_copy_none w 30 30 ty 3 _ ax R.length R.length 0 capx Try.underlying30 hs (by simp)
  · obtain ⟨b, o, rfl, hlt, hr⟩ := h3 (by omega)
    obtain ⟨cur, hc1, hc2⟩ := hM
    have hsz : R.length ≤ cur.size := by
      rcases Nat.eq_zero_or_pos R.length with e | e
      · omega
      · have := (Array.getElem?_eq_some_iff.1 (hc2 (R.length - 1) (by omega))).1
        omega
    have hrun := run_copy_row (P := Try.prog) w 30 30 ty 3 g 0 R.length R.length ⟨b, o, none⟩ x.length capx cur 3 (x.map (Value.int .i64 ·)) Try.underlying30 hs hc1
      (by rw [List.length_map]; exact (Nat.min_eq_left hl).symm)
      (fun j v hj => by
        rw [List.getElem?_map] at hj
        obtain ⟨d, hd, rfl⟩ := Option.map_eq_some_iff.1 hj
        have hlt' := (List.getElem?_eq_some_iff.1 hd).1
        have hadd : (⟨b, o, none⟩ : Addr).add j = ⟨b, o + j, none⟩ := by unfold Addr.add; split <;> simp_all
        rw [hadd, hr j hlt', List.getD_eq_getElem?_getD, hd]; rfl)
      (by rw [List.length_map]; omega) (fun v hv => by obtain ⟨d, _, rfl⟩ := List.mem_map.1 hv; rfl)
    rw [List.length_map] at hrun
    refine ⟨_, hrun, ⟨_, setRow_heap w g cur _ 3 _ hc1, fun j hj => ?_⟩, ⟨rfl, rfl, rfl, by simp, fun k _ hk => setRow_other w g k _ (fun e => hk (by rw [e]))⟩⟩
    rw [List.length_append, List.length_drop] at hj
    simp only [List.take_zero, List.nil_append, Nat.zero_add]
    rw [List.getElem?_toArray]
    by_cases hj2 : j < x.length
    · rw [List.getElem?_append_left (by simpa using hj2), List.getElem?_map, List.getD_eq_getElem?_getD, List.getElem?_append_left hj2, List.getElem?_eq_getElem hj2]; rfl
    · rw [List.getElem?_append_right (by simp; omega), List.length_map, List.getElem?_drop, List.getD_eq_getElem?_getD, List.getElem?_append_right (by omega), List.getElem?_drop]
      rw [show x.length + (j - x.length) = j by omega, Array.getElem?_toList, hc2 j (by omega), List.getD_eq_getElem?_getD]

/-- A call that returns a quotient, perhaps with zeros behind it, and a remainder. -/
def Divs (X Y : Int) (w : World) (e : Ending) (w' : World) : Prop :=
  ∃ aq capq LQ vr, e = .returned (.tuple #[.slice aq (List.length LQ) capq, vr]) ∧ Dig LQ ∧ val LQ = X / Y ∧ Ints w' (.slice aq LQ.length capq) LQ ∧ Ints w' vr (digs (X % Y).toNat) ∧ RowKit.Below w.heap.size w w' ∧ LQ.length ≤ 10000000 ∧ Fresh w.heap.size (.slice aq LQ.length capq) ∧ Fresh w.heap.size vr

theorem Mem.other {w : World} {g h j : Nat} {R : List Int} (hm : Mem w g R) (hne : g ≠ h) (v : Value) : Mem (w.setCell ⟨h, j, none⟩ v) g R := hm.kept (Below.heap_setCell _ _ _ _ hne)
theorem Mem.on {w w' : World} {g h : Nat} {R : List Int} (hm : Mem w g R) (hg : w.grownBy w' (some h)) (hne : g ≠ h) : Mem w' g R := hm.kept (hg.block g hm.lt (fun e => hne (by simpa using e)))

theorem zeros_get (n j : Nat) : (List.replicate n (0 : Int)).getD j 0 = 0 := by
  rw [List.getD_eq_getElem?_getD, List.getElem?_replicate]
  split <;> rfl

set_option maxHeartbeats 4000000 in
theorem divide_any (vx vy : Value) (x y : List Int) (w : World) (hx : Ints w vx x) (hy : Ints w vy y) (hdx : Dig x) (hdy : Dig y) (hlx : x.length ≤ 1000000) (hly : y.length ≤ 1000000) (h0 : 0 < y.length) (hY : P (y.length - 1) ≤ val y) :
    Calls Try.prog 90 #[vx, vy] w (Divs (val x) (val y) w) := by
  obtain ⟨ax, capx, rfl, _, _, _⟩ := id hx
  obtain ⟨ay, capy, rfl, _, _, _⟩ := id hy
  have hYb := val_bd hdy
  have hXb := val_bd hdx
  obtain ⟨N, hN⟩ : ∃ N, N = if y.length ≤ x.length then x.length - y.length + 1 else 0 := ⟨_, rfl⟩
  have hN1 : y.length ≤ x.length → N = x.length - y.length + 1 := fun h => by rw [hN, if_pos h]
  have hN2 : ¬ y.length ≤ x.length → N = 0 := fun h => by rw [hN, if_neg h]
  clear hN
  have hN3 : N ≤ 1000001 := by
    by_cases h : y.length ≤ x.length
    · have := hN1 h; omega
    · have := hN2 h; omega
  obtain ⟨O1, hmk1, hO1⟩ := make_any N (by omega)
  obtain ⟨O2, hmk2, hO2⟩ := make_any (x.length + 1) (by omega)
  have hmkr : ∀ w, (Instr.makeSlice 30 (.int .i64 ((x.length : Int) + 1)) (.int .i64 ((x.length : Int) + 1))).run Try.prog w = .ok (.slice (some ⟨w.heap.size, 0, none⟩) (x.length + 1) (x.length + 1)) (w.alloc O2) := by
    rw [show (x.length : Int) + 1 = ((x.length + 1 : Nat) : Int) by omega]; exact hmk2
  have hb2 : RowKit.Below w.heap.size w ((w.alloc O1).alloc O2) := (below_alloc w O1).trans ((below_alloc (w.alloc O1) O2).mono (by simp))
  have hM2 : Mem ((w.alloc O1).alloc O2) (w.heap.size + 1) (List.replicate (x.length + 1) 0) := by
    refine hO2 _ _ ?_
    have := alloc_at (w.alloc O1) O2
    simpa using this
  have hM1 : Mem ((w.alloc O1).alloc O2) w.heap.size (List.replicate N 0) := (hO1 _ _ (alloc_at w O1)).later (below_alloc _ _)
  obtain ⟨w1, hcopy, hR1, hg1⟩ := mem_copy 3 hM2 (hx.later hb2) (by simp)
  rw [List.length_replicate] at hcopy
  have hQ1 : Mem w1 w.heap.size (List.replicate N 0) := hM1.on hg1 (by omega)
  have hb1 : RowKit.Below w.heap.size w w1 := hb2.trans (below_on hg1 (by simp; omega) (by omega))
  have hstart : ∃ LQ R, Mem w1 w.heap.size LQ ∧ Mem w1 (w.heap.size + 1) R ∧ RowKit.Below w.heap.size w w1 ∧ LQ.length = N ∧ R.length = x.length + 1 ∧ Dig LQ ∧ Dig R ∧ (∀ j, j < N → LQ.getD j 0 = 0) ∧ val x = val LQ * val y + val R ∧ val (R.drop N) < val y := by
    have ed : List.drop x.length (List.replicate (x.length + 1) (0 : Int)) = [0] := by
      rw [List.drop_replicate]; simp
    rw [ed] at hR1
    refine ⟨_, _, hQ1, hR1, hb1, List.length_replicate, by simp, Dig.zeros _, hdx.app (Dig.cons (by omega) (by omega) Dig.nil), fun j _ => zeros_get _ _, ?_, ?_⟩
    · rw [val_zeros, val_app, val_cons]; simp [val]
    · by_cases h : y.length ≤ x.length
      · have hN' := hN1 h
        rw [List.drop_append_of_le_length (by omega), val_app, val_cons]
        have hb := val_bd (hdx.drop N)
        rw [List.length_drop, show x.length - N = y.length - 1 by omega] at hb
        simp [val]; omega
      · have hN' := hN2 h
        rw [hN', List.drop_zero, val_app, val_cons]
        have := P_le (i := x.length) (j := y.length - 1) (by omega)
        simp [val]; omega
  obtain ⟨m, em⟩ : ∃ m, x.length = m := ⟨_, rfl⟩
  obtain ⟨n, en⟩ : ∃ n, y.length = n := ⟨_, rfl⟩
  obtain ⟨X, eX⟩ : ∃ X, val x = X := ⟨_, rfl⟩
  obtain ⟨Y, eY⟩ : ∃ Y, val y = Y := ⟨_, rfl⟩
  have HN : Hid (∀ k, k < N → k + n ≤ m) := by
    intro k hk
    by_cases h : y.length ≤ x.length
    · have := hN1 h; omega
    · have := hN2 h; omega
  have HS := Lib.hid hstart
  have HYI := Lib.hid hy
  have HDY := Lib.hid hdy
  have HYL := Lib.hid en
  have HYV := Lib.hid eY
  have HYl := Lib.hid hYb
  have HYP := Lib.hid hY
  have hmkq : (n ≤ m → ∀ w, (Instr.makeSlice 30 (.int .i64 ((m : Int) - (n : Int) + 1)) (.int .i64 ((m : Int) - (n : Int) + 1))).run Try.prog w = .ok (.slice (some ⟨w.heap.size, 0, none⟩) N N) (w.alloc O1)) ∧
      (¬ n ≤ m → ∀ w, (Instr.makeSlice 30 (.int .i64 0) (.int .i64 0)).run Try.prog w = .ok (.slice (some ⟨w.heap.size, 0, none⟩) N N) (w.alloc O1)) := by
    constructor
    · intro h
      rw [show (m : Int) - (n : Int) + 1 = (N : Int) by have := hN1 (by omega); omega]; exact hmk1
    · intro h
      have := hN2 (by omega)
      rw [show (0 : Int) = (N : Int) by omega]; exact hmk1
  rw [em] at hmkr hcopy hlx HS
  rw [eX, eY] at HS
  rw [en] at hly h0 HYI HYl HYP
  rw [eY] at HYl HYP
  rw [em, en, eX, eY]
  clear hx hy hdx hdy hY hYb hXb hstart hN1 hN2 hmk1 hmk2 hO1 hO2 hb2 hM2 hM1 hR1 hg1 hQ1 hb1 em en eX eY
  obtain ⟨hq1, hq2⟩ := hmkq
  by_cases hnm : n ≤ m
  · have hmk := hq1 hnm
    clear hq1 hq2
    go_enter Try.func90, Try.ntmps90
    go_wp2_with fail
    clear hmk hmkr hcopy hnm
    go_loopw [9] (fun t wr => ∃ (k : Nat) (LQ R : List Int), k ≤ N ∧ t = .int .i64 ((k : Int) - 1) ∧ Mem wr w.heap.size LQ ∧ Mem wr (w.heap.size + 1) R ∧ RowKit.Below w.heap.size w wr ∧ LQ.length = N ∧ R.length = m + 1 ∧ Dig LQ ∧ Dig R ∧
      (∀ j, j < k → LQ.getD j 0 = 0) ∧ X = val LQ * Y + val R ∧ val (R.drop k) < Y) (fun t _ => (intOf t + 1).toNat)
    case atStart =>
      obtain ⟨LQ, R, a1, a2, a3, a4, a5, a6, a7, a8, a9, a10⟩ := HS.out
      exact ⟨N, LQ, R, Nat.le_refl _, rfl, a1, a2, a3, a4, a5, a6, a7, a8, a9, a10⟩
    case round =>
      obtain ⟨k, LQ, R, hk, rfl, hMQ, hMR, hB, hlq, hlr, hdq, hdr, hz, hval, hlt⟩ := hrel
      have HMQ := Lib.hid hMQ
      have HMR := Lib.hid hMR
      have HB := Lib.hid hB
      have HLQ := Lib.hid hlq
      have HLR := Lib.hid hlr
      have HDQ := Lib.hid hdq
      have HDR := Lib.hid hdr
      have HZ := Lib.hid hz
      have HV := Lib.hid hval
      have HLT := Lib.hid hlt
      clear hMQ hMR hB hlq hlr hdq hdr hz hval hlt
      cases k with
      | zero =>
        rw [show ((0 : Nat) : Int) - 1 = -1 from rfl]
        have ht := trim_any (some ⟨w.heap.size + 1, 0, none⟩) R.length R HDR.out wr (HMR.out.ints0 _ (Nat.le_refl _) (by have := HLR.out; omega))
        rw [HLR.out] at ht
        have HT := Lib.hid ht
        clear ht
        go_wp2_with fail
        refine HT.out.mono ?_
        rintro e w' ⟨rfl, rfl⟩
        go_wp2_with fail
        go_ret2
        have hlq := HLQ.out
        have hlr := HLR.out
        have hqm : val LQ = X / Y ∧ val R = X % Y := by
          have h1 := HLT.out
          rw [List.drop_zero] at h1
          have h2 := (val_bd HDR.out).1
          have h3 := HV.out
          have h4 : X / Y = val LQ := by
            rw [h3, Int.add_comm, Int.add_mul_ediv_right _ _ (by omega), Int.ediv_eq_zero_of_lt h2 h1]; omega
          have h5 := Int.emod_add_mul_ediv X Y
          rw [h4] at h5
          refine ⟨h4.symm, ?_⟩
          have : Y * val LQ = val LQ * Y := Int.mul_comm _ _
          omega
        refine ⟨some ⟨w.heap.size, 0, none⟩, N, LQ, _, by rw [hlq]; rfl, HDQ.out, hqm.1, HMQ.out.ints0 _ (by omega) (by omega), ?_, HB.out, by omega, fresh_mem (Nat.le_refl _), fresh_mem (by omega)⟩
        rw [← hqm.2]
        exact (HMR.out.ints0 (m + 1) (by omega) (by omega)).take (dig_take HDR.out) rfl
      | succ j =>
        rw [show ((j + 1 : Nat) : Int) - 1 = (j : Int) by omega]
        have hjm := HN.out j (by omega)
        have hlr := HLR.out
        obtain ⟨p1, p2, p3, p4⟩ := part_facts (n := n) HDR.out (by omega : j + n + 1 ≤ R.length) HLT.out HYl.out.2
        have hseg : Dig ((R.drop j).take (n + 1)) := (HDR.out.drop j).take _
        have hest := est_part hseg HDY.out p4 HYL.out h0 (by rw [HYV.out]; exact HYP.out) (by rw [p1, HYV.out]; exact p2)
        have tb1 := top3_bd hseg ((n : Int) + 1)
        have tb2 := top3_bd HDY.out (n : Int)
        rw [p1, HYV.out] at hest
        have hi1 := HMR.out.ints j (n + 1) (m + 1 - j) (by omega) (by omega) (by omega)
        obtain ⟨seg, eseg⟩ : ∃ seg, (R.drop j).take (n + 1) = seg := ⟨_, rfl⟩
        rw [eseg] at hest tb1 hseg hi1
        obtain ⟨T3, e3⟩ : ∃ T3, top3 seg ((n : Int) + 1) = T3 := ⟨_, rfl⟩
        obtain ⟨Ty, ey⟩ : ∃ Ty, top3 y (n : Int) = Ty := ⟨_, rfl⟩
        rw [e3] at tb1
        rw [ey] at tb2
        rw [e3, ey] at hest
        obtain ⟨q, hq⟩ : ∃ q, T3 / (Ty / 1048576) = q := ⟨_, rfl⟩
        rw [hq] at hest
        obtain ⟨t1, q0, q1, r1, r2⟩ := hest
        have hone : 1 ≤ Ty / 1048576 := by omega
        have HE3 := Lib.hid e3
        have HEY := Lib.hid ey
        have HI1 := Lib.hid hi1
        have HSG := Lib.hid hseg
        have HP3 := Lib.hid p3
        have HR1 := Lib.hid r1
        have HR2 := Lib.hid r2
        clear eseg e3 ey hi1 hseg p3 r1 r2 p1 p2 p4 hlr t1
        have hcq := HMQ.out.cell (j := j) (by have := HLQ.out; omega)
        have hfq := HMQ.out.free j
        go_wp2_with fail
        rw [show j + n + 1 - j = n + 1 by omega]
        refine (top_any _ seg ((n : Int) + 1) HSG.out (by omega) (by omega) _ HI1.out).mono ?_
        rintro e w' ⟨rfl, rfl⟩
        rw [HE3.out]
        go_wp2_with fail
        refine (top_any _ y (n : Int) HDY.out (by omega) (by omega) _ (HYI.out.later HB.out)).mono ?_
        rintro e w' ⟨rfl, rfl⟩
        rw [HEY.out]
        go_wp2_with fail
        have HQ := Lib.hid hq
        clear hq hcq hfq
        have hlq := HLQ.out
        have hlr := HLR.out
        have hMQ1 : Mem (wr.setCell ⟨w.heap.size, j, none⟩ (.int .i64 q)) w.heap.size (LQ.set j q) := HMQ.out.set (by omega) q
        have hMR1 : Mem (wr.setCell ⟨w.heap.size, j, none⟩ (.int .i64 q)) (w.heap.size + 1) R := HMR.out.other (by omega) _
        have hB1 : RowKit.Below w.heap.size w (wr.setCell ⟨w.heap.size, j, none⟩ (.int .i64 q)) := HB.out.setCell (Nat.le_refl _) _
        have hY1 := HYI.out.later hB1
        have hoff := HYI.out.off (g := w.heap.size + 1) (by omega)
        have hadd := add_any (w.heap.size + 1) j n (m + 1 - j) capy R ay y (-q) HYL.out _ hMR1 (by omega) (by omega) (by omega) (by omega) HDY.out (fun i h1 h2 => HDR.out.get i) (by have := HDR.out.get (j + n); omega) (by omega) hY1 hoff
        rw [HYV.out] at hadd
        have HA := Lib.hid hadd
        have HMQ1 := Lib.hid hMQ1
        have HB1 := Lib.hid hB1
        have HOFF := Lib.hid hoff
        clear hadd hMQ1 hMR1 hB1 hY1 hoff hlq hlr
        refine HA.out.mono ?_
        rintro e w2 ⟨R1, rfl, hM1, hg1, hl1, hout, hd1, hv1⟩
        have hlr := HLR.out
        have hv2 := drop_val hl1 (by omega : j ≤ R.length) (fun i hi => hout i (.inl hi)) hv1
        have hhi : ∀ i, n < i → (R1.drop j).getD i 0 = 0 := fun i hi => by rw [getD_drop, hout _ (.inr (by omega))]; exact HP3.out _ (by omega)
        have hlo : ∀ i, i < n → 0 ≤ (R1.drop j).getD i 0 ∧ (R1.drop j).getD i 0 < 1048576 := fun i hi => by rw [getD_drop]; exact hd1 _ (by omega) (by omega)
        have hst := sign_top (L := R1.drop j) (m := n) (by rw [List.length_drop]; omega) hlo hhi
        rw [getD_drop] at hst
        have hr1 := HR1.out
        have hr2 := HR2.out
        have eqY : -q * Y = -(q * Y) := Int.neg_mul _ _
        have eqY1 : (q - 1) * Y = q * Y - Y := by rw [Int.sub_mul]; omega
        have eqY2 : (q + 1) * Y = q * Y + Y := by rw [Int.add_mul]; omega
        have hyl := HYl.out
        have hMQ2 := HMQ1.out.on hg1 (by omega)
        have hB2 : RowKit.Below w.heap.size w w2 := HB1.out.trans (below_on hg1 HB1.out.size (by omega))
        have hcell := hM1.cell (j := j + n) (by omega)
        have HM1 := Lib.hid hM1
        have HL1 := Lib.hid hl1
        have HOUT := Lib.hid hout
        have HHI := Lib.hid hhi
        have HD1 := Lib.hid hd1
        have HV1 := Lib.hid hv1
        have HV2 := Lib.hid hv2
        have HB2 := Lib.hid hB2
        have HMQ2 := Lib.hid hMQ2
        have E0 := Lib.hid eqY
        have E1 := Lib.hid eqY1
        have E2 := Lib.hid eqY2
        by_cases hneg : val (R1.drop j) < 0
        · have htop := hst.2 (by omega) hneg
          rw [htop] at hcell
          have HNEG := Lib.hid hneg
          have HTOP := Lib.hid htop
          have hcq := HMQ2.out.cell (j := j) (by rw [List.length_set]; have := HLQ.out; omega)
          rw [getD_set_eq (by have := HLQ.out; omega)] at hcq
          have hfq := HMQ2.out.free j
          clear hneg htop hst hr1 hr2 eqY eqY1 eqY2 hyl hlr hlo hhi hv1 hv2 hM1 hl1 hout hd1 hg1 hMQ2 hB2
          go_wp2_with fail
          clear hcq hfq hcell
          have hMR3 : Mem (w2.setCell ⟨w.heap.size, j, none⟩ (.int .i64 (q - 1))) (w.heap.size + 1) R1 := HM1.out.other (by omega) _
          have hMQ3 : Mem (w2.setCell ⟨w.heap.size, j, none⟩ (.int .i64 (q - 1))) w.heap.size ((LQ.set j q).set j (q - 1)) := HMQ2.out.set (by rw [List.length_set]; have := HLQ.out; omega) _
          have hB3 : RowKit.Below w.heap.size w (w2.setCell ⟨w.heap.size, j, none⟩ (.int .i64 (q - 1))) := HB2.out.setCell (Nat.le_refl _) _
          have hl1 := HL1.out
          have hlr := HLR.out
          have hadd := add_any (w.heap.size + 1) j n (m + 1 - j) capy R1 ay y 1 HYL.out _ hMR3 (by omega) (by omega) (by omega) (by omega) HDY.out (fun i h1 h2 => HD1.out i h1 h2) (by rw [HTOP.out]; omega) (by omega) (HYI.out.later hB3) HOFF.out
          rw [HYV.out, Int.one_mul] at hadd
          have HA3 := Lib.hid hadd
          have HMQ3 := Lib.hid hMQ3
          have HB3 := Lib.hid hB3
          clear hadd hMR3 hMQ3 hB3 hl1 hlr
          refine HA3.out.mono ?_
          rintro e w4 ⟨R2, rfl, hM4, hg4, hl4, hout4, hd4, hv4⟩
          have HM4 := Lib.hid hM4
          have HG4 := Lib.hid hg4
          have HL4 := Lib.hid hl4
          have HO4 := Lib.hid hout4
          have HD4 := Lib.hid hd4
          have HV4 := Lib.hid hv4
          clear hM4 hg4 hl4 hout4 hd4 hv4
          go_wp2_with fail
          go_roundw
          case rel =>
            have hlr := HLR.out
            have hl1 := HL1.out
            have hl4 := HL4.out
            have hlq := HLQ.out
            have hyl := HYl.out
            have s0 := (val_bd (HDR.out.drop j)).1
            have s1 := HV2.out
            have s1n := HNEG.out
            have eqY := E0.out
            have s2 := drop_val hl4 (by omega : j ≤ R1.length) (fun i hi => HO4.out i (.inl hi)) HV4.out
            have hq1 : 1 ≤ q := by
              rcases Int.lt_or_le q 1 with h | h
              · exfalso
                obtain rfl : q = 0 := by omega
                simp at s1; omega
              · exact h
            have hhi : ∀ i, n < i → (R2.drop j).getD i 0 = 0 := fun i hi => by rw [getD_drop, HO4.out _ (.inr (by omega)), HOUT.out _ (.inr (by omega))]; exact HP3.out _ (by omega)
            have hlo : ∀ i, i < n → 0 ≤ (R2.drop j).getD i 0 ∧ (R2.drop j).getD i 0 < 1048576 := fun i hi => by rw [getD_drop]; exact HD4.out _ (by omega) (by omega)
            have hr1 := HR1.out
            have eqY1 := E1.out
            have ht := (sign_top (L := R2.drop j) (m := n) (by rw [List.length_drop]; omega) hlo hhi).1 (by omega) (by omega)
            rw [getD_drop] at ht
            have hv : val R2 = val R + P j * -((q - 1) * Y) := by
              rw [HV4.out, HV1.out]; grind
            refine ⟨j, LQ.set j (q - 1), R2, by omega, rfl, ?_, HM4.out, HB3.out.trans (below_on HG4.out HB3.out.size (by omega)), by rw [List.length_set]; exact hlq, by omega, HDQ.out.set j (by omega) (by omega), ?_, ?_, ?_, by omega⟩
            · have := HMQ3.out.on HG4.out (by omega)
              rwa [List.set_set] at this
            · exact dig_after HDR.out (fun i hi => by rw [HO4.out i hi, HOUT.out i hi]) HD4.out ht
            · intro i hi
              rw [getD_set_ne (by omega)]
              exact HZ.out i (by omega)
            · exact div_rel (by omega) (HZ.out j (by omega)) HV.out hv
          case measure => simp [intOf]
        · have htop := hst.1 (by omega) (by have := HV2.out; omega)
          rw [htop] at hcell
          have HNEG := Lib.hid hneg
          have HTOP := Lib.hid htop
          clear hneg htop hst hr1 hr2 eqY eqY1 eqY2 hyl hlr hlo hhi hv1 hv2 hM1 hl1 hout hd1 hg1 hMQ2 hB2
          go_wp2_with fail
          go_roundw
          case rel =>
            have hlr := HLR.out
            have hl1 := HL1.out
            have hlq := HLQ.out
            have hyl := HYl.out
            have hjm := HN.out j (by omega)
            obtain ⟨_, p2, _, _⟩ := part_facts (n := n) HDR.out (by omega : j + n + 1 ≤ R.length) HLT.out hyl.2
            have s1 := HV2.out
            have s1n := HNEG.out
            have eqY := E0.out
            have hr2 := HR2.out
            have eqY2 := E2.out
            have hq1 : q < 1048576 := by
              rcases Int.lt_or_le q 1048576 with h | h
              · exact h
              · exfalso
                have : 1048576 * Y ≤ q * Y := Int.mul_le_mul_of_nonneg_right h (by omega)
                omega
            refine ⟨j, LQ.set j q, R1, by omega, rfl, HMQ2.out, HM1.out, HB2.out, by rw [List.length_set]; exact hlq, by omega, HDQ.out.set j (by omega) (by omega), ?_, ?_, ?_, by omega⟩
            · exact dig_after HDR.out HOUT.out HD1.out HTOP.out
            · intro i hi
              rw [getD_set_ne (by omega)]
              exact HZ.out i (by omega)
            · exact div_rel (by omega) (HZ.out j (by omega)) HV.out (by rw [HV1.out, eqY])
          case measure => simp [intOf]
  · have hmk := hq2 hnm
    clear hq1 hq2
    go_enter Try.func90, Try.ntmps90
    go_wp2_with fail
    clear hmk hmkr hcopy hnm
    go_loopw [9] (fun t wr => ∃ (k : Nat) (LQ R : List Int), k ≤ N ∧ t = .int .i64 ((k : Int) - 1) ∧ Mem wr w.heap.size LQ ∧ Mem wr (w.heap.size + 1) R ∧ RowKit.Below w.heap.size w wr ∧ LQ.length = N ∧ R.length = m + 1 ∧ Dig LQ ∧ Dig R ∧
      (∀ j, j < k → LQ.getD j 0 = 0) ∧ X = val LQ * Y + val R ∧ val (R.drop k) < Y) (fun t _ => (intOf t + 1).toNat)
    case atStart =>
      obtain ⟨LQ, R, a1, a2, a3, a4, a5, a6, a7, a8, a9, a10⟩ := HS.out
      exact ⟨N, LQ, R, Nat.le_refl _, rfl, a1, a2, a3, a4, a5, a6, a7, a8, a9, a10⟩
    case round =>
      obtain ⟨k, LQ, R, hk, rfl, hMQ, hMR, hB, hlq, hlr, hdq, hdr, hz, hval, hlt⟩ := hrel
      have HMQ := Lib.hid hMQ
      have HMR := Lib.hid hMR
      have HB := Lib.hid hB
      have HLQ := Lib.hid hlq
      have HLR := Lib.hid hlr
      have HDQ := Lib.hid hdq
      have HDR := Lib.hid hdr
      have HZ := Lib.hid hz
      have HV := Lib.hid hval
      have HLT := Lib.hid hlt
      clear hMQ hMR hB hlq hlr hdq hdr hz hval hlt
      cases k with
      | zero =>
        rw [show ((0 : Nat) : Int) - 1 = -1 from rfl]
        have ht := trim_any (some ⟨w.heap.size + 1, 0, none⟩) R.length R HDR.out wr (HMR.out.ints0 _ (Nat.le_refl _) (by have := HLR.out; omega))
        rw [HLR.out] at ht
        have HT := Lib.hid ht
        clear ht
        go_wp2_with fail
        refine HT.out.mono ?_
        rintro e w' ⟨rfl, rfl⟩
        go_wp2_with fail
        go_ret2
        have hlq := HLQ.out
        have hlr := HLR.out
        have hqm : val LQ = X / Y ∧ val R = X % Y := by
          have h1 := HLT.out
          rw [List.drop_zero] at h1
          have h2 := (val_bd HDR.out).1
          have h3 := HV.out
          have h4 : X / Y = val LQ := by
            rw [h3, Int.add_comm, Int.add_mul_ediv_right _ _ (by omega), Int.ediv_eq_zero_of_lt h2 h1]; omega
          have h5 := Int.emod_add_mul_ediv X Y
          rw [h4] at h5
          refine ⟨h4.symm, ?_⟩
          have : Y * val LQ = val LQ * Y := Int.mul_comm _ _
          omega
        refine ⟨some ⟨w.heap.size, 0, none⟩, N, LQ, _, by rw [hlq]; rfl, HDQ.out, hqm.1, HMQ.out.ints0 _ (by omega) (by omega), ?_, HB.out, by omega, fresh_mem (Nat.le_refl _), fresh_mem (by omega)⟩
        rw [← hqm.2]
        exact (HMR.out.ints0 (m + 1) (by omega) (by omega)).take (dig_take HDR.out) rfl
      | succ j =>
        rw [show ((j + 1 : Nat) : Int) - 1 = (j : Int) by omega]
        have hjm := HN.out j (by omega)
        have hlr := HLR.out
        obtain ⟨p1, p2, p3, p4⟩ := part_facts (n := n) HDR.out (by omega : j + n + 1 ≤ R.length) HLT.out HYl.out.2
        have hseg : Dig ((R.drop j).take (n + 1)) := (HDR.out.drop j).take _
        have hest := est_part hseg HDY.out p4 HYL.out h0 (by rw [HYV.out]; exact HYP.out) (by rw [p1, HYV.out]; exact p2)
        have tb1 := top3_bd hseg ((n : Int) + 1)
        have tb2 := top3_bd HDY.out (n : Int)
        rw [p1, HYV.out] at hest
        have hi1 := HMR.out.ints j (n + 1) (m + 1 - j) (by omega) (by omega) (by omega)
        obtain ⟨seg, eseg⟩ : ∃ seg, (R.drop j).take (n + 1) = seg := ⟨_, rfl⟩
        rw [eseg] at hest tb1 hseg hi1
        obtain ⟨T3, e3⟩ : ∃ T3, top3 seg ((n : Int) + 1) = T3 := ⟨_, rfl⟩
        obtain ⟨Ty, ey⟩ : ∃ Ty, top3 y (n : Int) = Ty := ⟨_, rfl⟩
        rw [e3] at tb1
        rw [ey] at tb2
        rw [e3, ey] at hest
        obtain ⟨q, hq⟩ : ∃ q, T3 / (Ty / 1048576) = q := ⟨_, rfl⟩
        rw [hq] at hest
        obtain ⟨t1, q0, q1, r1, r2⟩ := hest
        have hone : 1 ≤ Ty / 1048576 := by omega
        have HE3 := Lib.hid e3
        have HEY := Lib.hid ey
        have HI1 := Lib.hid hi1
        have HSG := Lib.hid hseg
        have HP3 := Lib.hid p3
        have HR1 := Lib.hid r1
        have HR2 := Lib.hid r2
        clear eseg e3 ey hi1 hseg p3 r1 r2 p1 p2 p4 hlr t1
        have hcq := HMQ.out.cell (j := j) (by have := HLQ.out; omega)
        have hfq := HMQ.out.free j
        go_wp2_with fail
        rw [show j + n + 1 - j = n + 1 by omega]
        refine (top_any _ seg ((n : Int) + 1) HSG.out (by omega) (by omega) _ HI1.out).mono ?_
        rintro e w' ⟨rfl, rfl⟩
        rw [HE3.out]
        go_wp2_with fail
        refine (top_any _ y (n : Int) HDY.out (by omega) (by omega) _ (HYI.out.later HB.out)).mono ?_
        rintro e w' ⟨rfl, rfl⟩
        rw [HEY.out]
        go_wp2_with fail
        have HQ := Lib.hid hq
        clear hq hcq hfq
        have hlq := HLQ.out
        have hlr := HLR.out
        have hMQ1 : Mem (wr.setCell ⟨w.heap.size, j, none⟩ (.int .i64 q)) w.heap.size (LQ.set j q) := HMQ.out.set (by omega) q
        have hMR1 : Mem (wr.setCell ⟨w.heap.size, j, none⟩ (.int .i64 q)) (w.heap.size + 1) R := HMR.out.other (by omega) _
        have hB1 : RowKit.Below w.heap.size w (wr.setCell ⟨w.heap.size, j, none⟩ (.int .i64 q)) := HB.out.setCell (Nat.le_refl _) _
        have hY1 := HYI.out.later hB1
        have hoff := HYI.out.off (g := w.heap.size + 1) (by omega)
        have hadd := add_any (w.heap.size + 1) j n (m + 1 - j) capy R ay y (-q) HYL.out _ hMR1 (by omega) (by omega) (by omega) (by omega) HDY.out (fun i h1 h2 => HDR.out.get i) (by have := HDR.out.get (j + n); omega) (by omega) hY1 hoff
        rw [HYV.out] at hadd
        have HA := Lib.hid hadd
        have HMQ1 := Lib.hid hMQ1
        have HB1 := Lib.hid hB1
        have HOFF := Lib.hid hoff
        clear hadd hMQ1 hMR1 hB1 hY1 hoff hlq hlr
        refine HA.out.mono ?_
        rintro e w2 ⟨R1, rfl, hM1, hg1, hl1, hout, hd1, hv1⟩
        have hlr := HLR.out
        have hv2 := drop_val hl1 (by omega : j ≤ R.length) (fun i hi => hout i (.inl hi)) hv1
        have hhi : ∀ i, n < i → (R1.drop j).getD i 0 = 0 := fun i hi => by rw [getD_drop, hout _ (.inr (by omega))]; exact HP3.out _ (by omega)
        have hlo : ∀ i, i < n → 0 ≤ (R1.drop j).getD i 0 ∧ (R1.drop j).getD i 0 < 1048576 := fun i hi => by rw [getD_drop]; exact hd1 _ (by omega) (by omega)
        have hst := sign_top (L := R1.drop j) (m := n) (by rw [List.length_drop]; omega) hlo hhi
        rw [getD_drop] at hst
        have hr1 := HR1.out
        have hr2 := HR2.out
        have eqY : -q * Y = -(q * Y) := Int.neg_mul _ _
        have eqY1 : (q - 1) * Y = q * Y - Y := by rw [Int.sub_mul]; omega
        have eqY2 : (q + 1) * Y = q * Y + Y := by rw [Int.add_mul]; omega
        have hyl := HYl.out
        have hMQ2 := HMQ1.out.on hg1 (by omega)
        have hB2 : RowKit.Below w.heap.size w w2 := HB1.out.trans (below_on hg1 HB1.out.size (by omega))
        have hcell := hM1.cell (j := j + n) (by omega)
        have HM1 := Lib.hid hM1
        have HL1 := Lib.hid hl1
        have HOUT := Lib.hid hout
        have HHI := Lib.hid hhi
        have HD1 := Lib.hid hd1
        have HV1 := Lib.hid hv1
        have HV2 := Lib.hid hv2
        have HB2 := Lib.hid hB2
        have HMQ2 := Lib.hid hMQ2
        have E0 := Lib.hid eqY
        have E1 := Lib.hid eqY1
        have E2 := Lib.hid eqY2
        by_cases hneg : val (R1.drop j) < 0
        · have htop := hst.2 (by omega) hneg
          rw [htop] at hcell
          have HNEG := Lib.hid hneg
          have HTOP := Lib.hid htop
          have hcq := HMQ2.out.cell (j := j) (by rw [List.length_set]; have := HLQ.out; omega)
          rw [getD_set_eq (by have := HLQ.out; omega)] at hcq
          have hfq := HMQ2.out.free j
          clear hneg htop hst hr1 hr2 eqY eqY1 eqY2 hyl hlr hlo hhi hv1 hv2 hM1 hl1 hout hd1 hg1 hMQ2 hB2
          go_wp2_with fail
          clear hcq hfq hcell
          have hMR3 : Mem (w2.setCell ⟨w.heap.size, j, none⟩ (.int .i64 (q - 1))) (w.heap.size + 1) R1 := HM1.out.other (by omega) _
          have hMQ3 : Mem (w2.setCell ⟨w.heap.size, j, none⟩ (.int .i64 (q - 1))) w.heap.size ((LQ.set j q).set j (q - 1)) := HMQ2.out.set (by rw [List.length_set]; have := HLQ.out; omega) _
          have hB3 : RowKit.Below w.heap.size w (w2.setCell ⟨w.heap.size, j, none⟩ (.int .i64 (q - 1))) := HB2.out.setCell (Nat.le_refl _) _
          have hl1 := HL1.out
          have hlr := HLR.out
          have hadd := add_any (w.heap.size + 1) j n (m + 1 - j) capy R1 ay y 1 HYL.out _ hMR3 (by omega) (by omega) (by omega) (by omega) HDY.out (fun i h1 h2 => HD1.out i h1 h2) (by rw [HTOP.out]; omega) (by omega) (HYI.out.later hB3) HOFF.out
          rw [HYV.out, Int.one_mul] at hadd
          have HA3 := Lib.hid hadd
          have HMQ3 := Lib.hid hMQ3
          have HB3 := Lib.hid hB3
          clear hadd hMR3 hMQ3 hB3 hl1 hlr
          refine HA3.out.mono ?_
          rintro e w4 ⟨R2, rfl, hM4, hg4, hl4, hout4, hd4, hv4⟩
          have HM4 := Lib.hid hM4
          have HG4 := Lib.hid hg4
          have HL4 := Lib.hid hl4
          have HO4 := Lib.hid hout4
          have HD4 := Lib.hid hd4
          have HV4 := Lib.hid hv4
          clear hM4 hg4 hl4 hout4 hd4 hv4
          go_wp2_with fail
          go_roundw
          case rel =>
            have hlr := HLR.out
            have hl1 := HL1.out
            have hl4 := HL4.out
            have hlq := HLQ.out
            have hyl := HYl.out
            have s0 := (val_bd (HDR.out.drop j)).1
            have s1 := HV2.out
            have s1n := HNEG.out
            have eqY := E0.out
            have s2 := drop_val hl4 (by omega : j ≤ R1.length) (fun i hi => HO4.out i (.inl hi)) HV4.out
            have hq1 : 1 ≤ q := by
              rcases Int.lt_or_le q 1 with h | h
              · exfalso
                obtain rfl : q = 0 := by omega
                simp at s1; omega
              · exact h
            have hhi : ∀ i, n < i → (R2.drop j).getD i 0 = 0 := fun i hi => by rw [getD_drop, HO4.out _ (.inr (by omega)), HOUT.out _ (.inr (by omega))]; exact HP3.out _ (by omega)
            have hlo : ∀ i, i < n → 0 ≤ (R2.drop j).getD i 0 ∧ (R2.drop j).getD i 0 < 1048576 := fun i hi => by rw [getD_drop]; exact HD4.out _ (by omega) (by omega)
            have hr1 := HR1.out
            have eqY1 := E1.out
            have ht := (sign_top (L := R2.drop j) (m := n) (by rw [List.length_drop]; omega) hlo hhi).1 (by omega) (by omega)
            rw [getD_drop] at ht
            have hv : val R2 = val R + P j * -((q - 1) * Y) := by
              rw [HV4.out, HV1.out]; grind
            refine ⟨j, LQ.set j (q - 1), R2, by omega, rfl, ?_, HM4.out, HB3.out.trans (below_on HG4.out HB3.out.size (by omega)), by rw [List.length_set]; exact hlq, by omega, HDQ.out.set j (by omega) (by omega), ?_, ?_, ?_, by omega⟩
            · have := HMQ3.out.on HG4.out (by omega)
              rwa [List.set_set] at this
            · exact dig_after HDR.out (fun i hi => by rw [HO4.out i hi, HOUT.out i hi]) HD4.out ht
            · intro i hi
              rw [getD_set_ne (by omega)]
              exact HZ.out i (by omega)
            · exact div_rel (by omega) (HZ.out j (by omega)) HV.out hv
          case measure => simp [intOf]
        · have htop := hst.1 (by omega) (by have := HV2.out; omega)
          rw [htop] at hcell
          have HNEG := Lib.hid hneg
          have HTOP := Lib.hid htop
          clear hneg htop hst hr1 hr2 eqY eqY1 eqY2 hyl hlr hlo hhi hv1 hv2 hM1 hl1 hout hd1 hg1 hMQ2 hB2
          go_wp2_with fail
          go_roundw
          case rel =>
            have hlr := HLR.out
            have hl1 := HL1.out
            have hlq := HLQ.out
            have hyl := HYl.out
            have hjm := HN.out j (by omega)
            obtain ⟨_, p2, _, _⟩ := part_facts (n := n) HDR.out (by omega : j + n + 1 ≤ R.length) HLT.out hyl.2
            have s1 := HV2.out
            have s1n := HNEG.out
            have eqY := E0.out
            have hr2 := HR2.out
            have eqY2 := E2.out
            have hq1 : q < 1048576 := by
              rcases Int.lt_or_le q 1048576 with h | h
              · exact h
              · exfalso
                have : 1048576 * Y ≤ q * Y := Int.mul_le_mul_of_nonneg_right h (by omega)
                omega
            refine ⟨j, LQ.set j q, R1, by omega, rfl, HMQ2.out, HM1.out, HB2.out, by rw [List.length_set]; exact hlq, by omega, HDQ.out.set j (by omega) (by omega), ?_, ?_, ?_, by omega⟩
            · exact dig_after HDR.out HOUT.out HD1.out HTOP.out
            · intro i hi
              rw [getD_set_ne (by omega)]
              exact HZ.out i (by omega)
            · exact div_rel (by omega) (HZ.out j (by omega)) HV.out (by rw [HV1.out, eqY])
          case measure => simp [intOf]
end Go.Proofs.Ytmhjejnkphdjpaa.Bi
