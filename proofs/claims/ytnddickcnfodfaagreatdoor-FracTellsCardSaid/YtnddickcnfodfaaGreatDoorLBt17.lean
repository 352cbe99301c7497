/- kitbagref04: tenth. -/
import Derived.Test.YtnddickcnfodfaaGreatDoorLBt16
set_option maxRecDepth 100000
namespace Go.Proofs.YtnddickcnfodfaaGreatDoor.Bi
open Go.RowKit

/-- A call that returns a tenth and the last digit. -/
def Tenth (X : Nat) (w : World) (e : Ending) (w' : World) : Prop := ∃ a c, e = .returned (.tuple #[.slice a (digs (X / 10)).length c, .int .i64 ((X % 10 : Nat) : Int)]) ∧ Ints w' (.slice a (digs (X / 10)).length c) (digs (X / 10)) ∧ RowKit.Below w.heap.size w w'
set_option maxHeartbeats 4000000 in
theorem tenth_n (vx : Value) (X : Nat) (w : World) (hx : Ints w vx (digs X)) (hl : (digs X).length ≤ 1000000) :
    Calls Tryz.prog 102 #[vx] w (Tenth X w) := by
  obtain ⟨ax, capx, rfl, _, _, hx3⟩ := id hx
  obtain ⟨O, hmk, hO⟩ := make_any (digs X).length (by omega)
  obtain ⟨x, exx⟩ : ∃ x, digs X = x := ⟨_, rfl⟩
  have hdx := digs_dig X
  have hvx := digs_val X
  rw [exx] at hx hl hx3 hmk hO hdx hvx ⊢
  obtain ⟨m, ex⟩ : ∃ l, x.length = l := ⟨_, rfl⟩
  have HX : Hid (∀ k, k < m → ∃ b o, ax = some ⟨b, o, none⟩ ∧ ∀ W, RowKit.Below w.heap.size w W → W.cell? ⟨b, o + k, none⟩ = some (.int .i64 (x.getD k 0))) := by
    intro k hk
    obtain ⟨b, o, e, hlt, hr⟩ := hx3.resolve_left (fun e => by rw [e] at ex; simp at ex; omega)
    exact ⟨b, o, e, fun W hW => (hB_cell hW hlt).trans (hr k (by omega))⟩
  have hcx := hx.shape.2.1
  have HDX := Lib.hid hdx
  have HVX := Lib.hid hvx
  have HEX := Lib.hid ex
  rw [ex] at hmk hO hl hcx ⊢
  have HO := Lib.hid hO
  clear hx hx3 hdx hvx ex hO exx
  go_enter Tryz.func102, Tryz.ntmps102
  go_wp2_with fail
  clear hmk
  go_loopw [5, 6] (fun r t wr => ∃ (k : Nat) (LQ : List Int) (R : Int), k ≤ m ∧ t = .int .i64 ((k : Int) - 1) ∧ r = .int .i64 R ∧ Mem wr w.heap.size LQ ∧ RowKit.Below w.heap.size w wr ∧ LQ.length = m ∧ Dig LQ ∧ 0 ≤ R ∧ R < 10 ∧ val (x.drop k) = val (LQ.drop k) * 10 + R) (fun _ t _ => (intOf t + 1).toNat)
  case atStart =>
    exact ⟨m, List.replicate m 0, 0, Nat.le_refl _, by go_num, rfl, HO.out _ _ (alloc_at _ _), below_alloc _ _, List.length_replicate, Dig.zeros m, by omega, by omega, by rw [List.drop_eq_nil_of_le (by rw [HEX.out]; omega), List.drop_eq_nil_of_le (by simp)]; simp [val]⟩
  case round =>
    obtain ⟨k, LQ, R, hk, rfl, rfl, hM, hB, hlq, hd, hR0, hR1, hval⟩ := hrel
    have HB := Lib.hid hB
    have HL := Lib.hid hlq
    have HD := Lib.hid hd
    have HV := Lib.hid hval
    have HM := Lib.hid hM
    cases k with
    | zero =>
      have hfin : (val LQ).toNat = X / 10 ∧ R = ((X % 10 : Nat) : Int) := by
        have hv := HV.out
        have h0 := (val_bd HD.out).1
        rw [List.drop_zero, List.drop_zero, HVX.out] at hv
        omega
      have HF := Lib.hid hfin
      clear hB hlq hd hval hM hfin
      have ht := rtrim_any (some ⟨w.heap.size, 0, none⟩) m LQ HD.out wr (by have := HM.out.ints0 m (by rw [HL.out]; omega) (by omega); exact this) (by rw [HL.out]; omega)
      rw [HL.out, HF.out.1] at ht
      have hlq : (digs (X / 10)).length ≤ 1000000 := by
        have h1 := digs_mono (m := X / 10) (n := X) (Nat.div_le_self _ _)
        have h2 := digs_le (n := X) (k := m) (by
          have h3 := (val_bd HDX.out).2
          rwa [HVX.out, HEX.out] at h3)
        omega
      have HLQ := Lib.hid hlq
      have HT := Lib.hid ht
      clear ht hlq
      go_wp2_with fail
      refine HT.out.mono ?_
      rintro e w' ⟨v', rfl, ho, hb, _⟩
      obtain ⟨a7, c7, rfl⟩ := ho.fit
      have HI := Lib.hid (ho.ints (Nat.le_trans HLQ.out (by decide)))
      have HBB := Lib.hid (HB.out.trans (hb.mono HB.out.size))
      clear ho hb
      obtain ⟨ln, eln⟩ : ∃ l, (digs (X / 10)).length = l := ⟨_, rfl⟩
      have hfin : Tenth X w (.returned (.tuple #[.slice a7 (digs (X / 10)).length c7, .int .i64 R])) w' := ⟨a7, c7, by rw [HF.out.2], HI.out, HBB.out⟩
      have HFIN := Lib.hid hfin
      rw [eln] at HFIN
      rw [eln]
      clear hfin eln
      go_wp2_with fail
      exact bodyPost_ret (v := .tuple #[.slice a7 ln c7, .int .i64 R]) (by simp [results, Tryz.results102, go_sem]) rfl HFIN.out
    | succ j =>
      rw [show ((j + 1 : Nat) : Int) - 1 = (j : Int) by omega]
      obtain ⟨bb, o, rfl, hcell⟩ := HX.out j (by omega)
      have hc := hcell wr HB.out
      have bx := HDX.out.get j
      obtain ⟨d, ed⟩ : ∃ d, x.getD j 0 = d := ⟨_, rfl⟩
      rw [ed] at bx hc
      obtain ⟨S, eS⟩ : ∃ S, R * 1048576 + d = S := ⟨_, rfl⟩
      obtain ⟨u, eu⟩ : ∃ u, R * 1048576 = u := ⟨_, rfl⟩
      rw [eu] at eS
      have hw1 : IntKind.i64.wrap (R * 1048576) = u := by rw [eu]; exact IntWalk.i64_in _ (by omega)
      have hw2 : IntKind.i64.wrap (u + d) = S := by rw [eS]; exact IntWalk.i64_in _ (by omega)
      obtain ⟨q, eq⟩ : ∃ q, S / 10 = q := ⟨_, rfl⟩
      obtain ⟨r, er⟩ : ∃ r, S % 10 = r := ⟨_, rfl⟩
      have hq : Int.tdiv S 10 = q := by rw [Int.tdiv_eq_ediv_of_nonneg (by omega)]; exact eq
      have hr : Int.tmod S 10 = r := by rw [Int.tmod_eq_emod_of_nonneg (by omega)]; exact er
      have hw3 : IntKind.i64.wrap q = q := IntWalk.i64_in _ (by omega)
      have hw4 : IntKind.i64.wrap r = r := IntWalk.i64_in _ (by omega)
      have hjl : j < LQ.length := by rw [HL.out]; omega
      have hcl := HM.out.cell hjl
      have hfl := HM.out.free j
      have hjm : j < m := by omega
      have HMW := Lib.hid (HM.out.set hjl q)
      have HBW : Hid (RowKit.Below w.heap.size w (wr.setCell ⟨w.heap.size, j, none⟩ (.int .i64 q))) := HB.out.setCell (Nat.le_refl _) _
      have hx : val (x.drop j) = val ((LQ.set j q).drop j) * 10 + r := by
        have hv := HV.out
        rw [val_drop x j, val_drop (LQ.set j q) j, getD_set_eq hjl, List.drop_set_of_lt (by omega), ed]
        omega
      have HXV := Lib.hid hx
      have hr01 : 0 ≤ r ∧ r < 10 ∧ 0 ≤ q ∧ q < 1048576 := by omega
      have HR01 := Lib.hid hr01
      clear hB hlq hd hval hM ed hcell hx eS eu eq er bx hr01
      go_wp2_with fail
      go_roundw
      case rel => exact ⟨j, LQ.set j q, r, by omega, by first | rfl | go_num, rfl, HMW.out, HBW.out, by rw [List.length_set]; exact HL.out, HD.out.set j HR01.out.2.2.1 HR01.out.2.2.2, HR01.out.1, HR01.out.2.1, HXV.out⟩
      case measure => simp [intOf]
end Go.Proofs.YtnddickcnfodfaaGreatDoor.Bi
