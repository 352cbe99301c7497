/- The contracts of the reference of dim: Right, Mul, Inverse, Div. The contracts of the reference of dim: Mul, Div. -/
import Derived.Deep.RegionWith
import Derived.Test.YtmhdhabgdlefjaaGreatDoorPTells21
set_option maxRecDepth 100000
namespace Go.Proofs.YtmhdhabgdlefjaaGreatDoor.Dm
open Go.RowKit

set_option maxHeartbeats 1000000 in
theorem r8right_any (f : Nat → Int) (w : World) : Calls Tryz.prog 42 #[.agg (cl f)] w (Gives (.bool (ok f)) w) := by
  have HG : Hid (At (w.alloc (.cells (cl f) 23)) w.heap.size f) := At.fresh w f
  have HB : Hid (RowKit.Below w.heap.size w (w.alloc (.cells (cl f) 23))) := Lib.hid (below_alloc _ _)
  have HOK : Hid ((∀ i, i < 6 → -9 ≤ f i ∧ f i ≤ 9) → ok f = true) := Lib.hid (ok_iff f).2
  have HNO : Hid (∀ i, i < 6 → ¬ (-9 ≤ f i ∧ f i ≤ 9) → ok f = false) := fun i hi h => by
    rw [Bool.eq_false_iff]; intro h'; exact h ((ok_iff f).1 h' i hi)
  obtain ⟨b, hb⟩ : ∃ b, ok f = b := ⟨_, rfl⟩
  rw [hb] at HOK HNO ⊢
  clear hb
  go_enter Tryz.func42, Tryz.ntmps42
  go_wp2_with fail
  go_loop [3] (fun i => ∃ k : Nat, k ≤ 6 ∧ i = .int .i64 k ∧ ∀ j, j < k → -9 ≤ f j ∧ f j ≤ 9) (fun i => 6 - (RowKit.intOf i).toNat)
  case atStart => exact ⟨0, by omega, rfl, fun j h => by omega⟩
  case round =>
    obtain ⟨k, hk, rfl, hall⟩ := hrel
    have HA := Lib.hid hall
    clear hall
    by_cases hlt : k < 6
    · have hcell := HG.out.cell k hlt
      have hia := ia_at w.heap.size k hlt
      have HN := Lib.hid (HNO.out k hlt)
      have hlt2 : decide ((k : Int) < 6) = true := by simp; omega
      obtain ⟨x, hx⟩ : ∃ x, f k = x := ⟨_, rfl⟩
      rw [hx] at hcell HN
      have HX := Lib.hid hx
      clear hx
      by_cases h1 : x < -9
      · have g1 : decide (x < -9) = true := by simpa using h1
        have HBF : Hid (b = false) := Lib.hid (HN.out (fun c => by omega))
        go_wp2_with fail
        go_ret
        exact ⟨by rw [HBF.out]; rfl, HB.out⟩
      · have g1 : decide (x < -9) = false := by simpa using h1
        by_cases h2 : 9 < x
        · have g2 : decide (9 < x) = true := by simpa using h2
          have HBF : Hid (b = false) := Lib.hid (HN.out (fun c => by omega))
          go_wp2_with fail
          go_ret
          exact ⟨by rw [HBF.out]; rfl, HB.out⟩
        · have g2 : decide (9 < x) = false := by simpa using h2
          have HP : Hid (-9 ≤ x ∧ x ≤ 9) := Lib.hid ⟨by omega, by omega⟩
          clear h1 h2
          go_wp2_with fail
          go_round
          case rel =>
            refine ⟨k + 1, by omega, by go_num, fun j hj => ?_⟩
            rcases Nat.lt_or_ge j k with h | h
            · exact HA.out j h
            · obtain rfl : j = k := by omega
              rw [HX.out]; exact HP.out
          case measure => simp [RowKit.intOf]; omega
    · have HBT : Hid (b = true) := Lib.hid (HOK.out (fun i hi => HA.out i (by omega)))
      have hlt2 : decide ((k : Int) < 6) = false := by simp; omega
      go_wp2_with fail
      go_ret
      exact ⟨by rw [HBT.out]; rfl, HB.out⟩
def invF (f : Nat → Int) : Nat → Int := fun i => -f i

set_option maxHeartbeats 2000000 in
theorem r8inv_any (f : Nat → Int) (hf : ok f = true) (w : World) : Calls Tryz.prog 72 #[.agg (cl f)] w (Gives (.agg (cl (invF f))) w) := by
  obtain ⟨a1, a3, hB⟩ := two_at f w
  have HB := Lib.hid hB
  have H1 := Lib.hid a1
  have H3 := Lib.hid a3
  have HFB : Hid (∀ i, i < 6 → -9 ≤ f i ∧ f i ≤ 9) := Lib.hid ((ok_iff f).1 hf)
  clear a1 a3 hB hf
  go_enter Tryz.func72, Tryz.ntmps72
  go_wp2_with fail
  go_loopw [3] (fun i wr => ∃ k : Nat, k ≤ 6 ∧ i = .int .i64 k ∧ At wr w.heap.size (partF (invF f) f k) ∧ At wr (w.heap.size + 1) zf ∧ RowKit.Below w.heap.size w wr) (fun i _ => 6 - (RowKit.intOf i).toNat)
  case atStart => exact ⟨0, by omega, rfl, by rw [partF_0]; exact H1.out, H3.out, HB.out⟩
  case round =>
    obtain ⟨k, hk, rfl, hA, hZ, hBl⟩ := hrel
    have HA := Lib.hid hA
    have HZ := Lib.hid hZ
    have HBl := Lib.hid hBl
    by_cases hlt : k < 6
    · have hcell := hA.cell k hlt
      have hfro := hA.froz k
      have hia := ia_at w.heap.size k hlt
      have hlt2 : decide ((k : Int) < 6) = true := by simp; omega
      have hfb := HFB.out k hlt
      rw [partF_at] at hcell
      have HN : Hid (At (wr.setCell ⟨w.heap.size, k, none⟩ (.int .i64 (-(f k)))) w.heap.size (partF (invF f) f (k + 1))) := Lib.hid (by
        rw [← partF_up]; exact hA.set k hlt _)
      have HZ2 : Hid (At (wr.setCell ⟨w.heap.size, k, none⟩ (.int .i64 (-(f k)))) (w.heap.size + 1) zf) := Lib.hid (hZ.other (by omega) k _)
      have HB3 : Hid (RowKit.Below w.heap.size w (wr.setCell ⟨w.heap.size, k, none⟩ (.int .i64 (-(f k))))) := Lib.hid (hBl.setCell (by simp) _)
      obtain ⟨x, hx⟩ : ∃ x, f k = x := ⟨_, rfl⟩
      rw [hx] at hcell hfb HN HZ2 HB3
      have hw : IntKind.i64.wrap (-x) = -x := IntWalk.i64_in _ (by omega)
      clear hx hA hZ hBl hfb
      go_wp2_with fail
      go_roundw
      case rel => exact ⟨k + 1, by omega, by go_num, HN.out, HZ2.out, HB3.out⟩
      case measure => simp [RowKit.intOf]; omega
    · obtain rfl : k = 6 := by omega
      have hlt2 : decide (((6 : Nat) : Int) < 6) = false := by decide
      have HE := Lib.hid (hA.eq (partF_all (invF f) f))
      have HVI := Lib.hid (infoDim (invF f))
      have HVO := Lib.hid (oneDim (invF f))
      clear hA hZ hBl HA
      go_wp2_with (first | refine wpList_load_row rfl _ _ rfl _ rfl _ _ _ _ HE.out Tryz.underlying23 rfl HVI.out ?_ | refine wpList_store_row rfl _ _ _ rfl _ _ rfl rfl _ _ HZ.out HVI.out rfl HVO.out ?_)
      have H5 := Lib.hid (HZ.out.row (g := invF f))
      refine bodyPost_ret (results_cell_row rfl _ _ _ _ _ _ _ rfl H5.out Tryz.underlying23 rfl HVI.out) rfl ⟨rfl, below_row HBl.out (by omega) _⟩
end Go.Proofs.YtmhdhabgdlefjaaGreatDoor.Dm

namespace Go.Proofs.YtmhdhabgdlefjaaGreatDoor.Dm
open Go.RowKit

theorem z6_at (w : World) : At (w.alloc (.cells #[.int .i64 0, .int .i64 0, .int .i64 0, .int .i64 0, .int .i64 0, .int .i64 0] 23)) w.heap.size zf := At.fresh w zf
set_option maxHeartbeats 4000000 in
theorem r8mul_good (f g : Nat → Int) (hf : ok f = true) (hg : ok g = true) (w : World) : Calls Tryz.prog 43 #[.agg (cl f), .agg (cl g)] w (Gives (inR (sumF f g)) w) := by
  have HR := Lib.hid (fun w => r8right_any f w)
  have HR2 := Lib.hid (fun w => r8right_any g w)
  have HX : Hid (∀ h, (∀ i, i < 6 → h i = sumF f g i) → ∀ w, Calls Tryz.prog 42 #[.agg (cl h)] w (Gives (.bool (ok (sumF f g))) w)) := fun h e w => by
    rw [← ok_eq e]; exact r8right_any _ w
  rw [hf] at HR
  rw [hg] at HR2
  obtain ⟨a1, a2, a3, hB⟩ := three_at f g w
  have HB := Lib.hid hB
  have HFB : Hid (∀ i, i < 6 → -9 ≤ f i ∧ f i ≤ 9) := Lib.hid ((ok_iff f).1 hf)
  have HGB : Hid (∀ i, i < 6 → -9 ≤ g i ∧ g i ≤ 9) := Lib.hid ((ok_iff g).1 hg)
  have H1 := Lib.hid a1
  have H2 := Lib.hid a2
  have H3 := Lib.hid a3
  have HF := Lib.hid (infoDim f)
  have HZI := Lib.hid (infoDim zf)
  have HZO := Lib.hid (oneDim zf)
  have hbd := build0
  clear a1 a2 a3 hB hf hg
  go_enter Tryz.func43, Tryz.ntmps43
  go_wp2_with (refine wpList_load_row rfl _ _ rfl _ rfl _ _ _ _ H1.out Tryz.underlying23 rfl HF.out ?_)
  refine (HR.out _).mono ?_
  rintro e w1 ⟨rfl, hb1⟩
  have G1 := Lib.hid (H1.out.below0 hb1)
  have G2 := Lib.hid (H2.out.below0 hb1)
  have G3 := Lib.hid (H3.out.below0 hb1)
  have HB1 := Lib.hid (HB.out.trans (hb1.mono HB.out.size))
  clear hb1 H1 H2 H3
  have c0 := G2.out.cell 0 (by omega)
  have c1 := G2.out.cell 1 (by omega)
  have c2 := G2.out.cell 2 (by omega)
  have c3 := G2.out.cell 3 (by omega)
  have c4 := G2.out.cell 4 (by omega)
  have c5 := G2.out.cell 5 (by omega)
  go_wp2_with fail
  clear c0 c1 c2 c3 c4 c5
  refine (HR2.out _).mono ?_
  rintro e w2 ⟨rfl, hb2⟩
  obtain ⟨b6, hb6⟩ : ∃ b, w2.heap.size = b := ⟨_, rfl⟩
  have K1 := Lib.hid (((G1.out.below0 hb2).alloc (.cells #[.int .i64 0, .int .i64 0, .int .i64 0, .int .i64 0, .int .i64 0, .int .i64 0] 23)).oth (b' := b6) (by have := (G1.out.below0 hb2).lt; omega) (cl zf))
  have K2 := Lib.hid (((G2.out.below0 hb2).alloc (.cells #[.int .i64 0, .int .i64 0, .int .i64 0, .int .i64 0, .int .i64 0, .int .i64 0] 23)).oth (b' := b6) (by have := (G2.out.below0 hb2).lt; omega) (cl zf))
  have K3 := Lib.hid (((G3.out.below0 hb2).alloc (.cells #[.int .i64 0, .int .i64 0, .int .i64 0, .int .i64 0, .int .i64 0, .int .i64 0] 23)).oth (b' := b6) (by have := (G3.out.below0 hb2).lt; omega) (cl zf))
  have K6 := Lib.hid (z6_at w2)
  have HB2 := Lib.hid (HB1.out.trans (hb2.mono HB1.out.size))
  rw [hb6] at K6
  have K7 := Lib.hid (K6.out.row (g := zf))
  have KB := Lib.hid (below_row (HB2.out.alloc HB2.out.size (.cells #[.int .i64 0, .int .i64 0, .int .i64 0, .int .i64 0, .int .i64 0, .int .i64 0] 23)) (b := b6) (by rw [← hb6]; exact HB2.out.size) (cl zf))
  have HNE : Hid (w.heap.size < b6 ∧ w.heap.size + 1 < b6 ∧ w.heap.size + 1 + 1 < b6) := Lib.hid ⟨by rw [← hb6]; exact (G1.out.below0 hb2).lt, by rw [← hb6]; exact (G2.out.below0 hb2).lt, by rw [← hb6]; exact (G3.out.below0 hb2).lt⟩
  clear hb2 G1 G2 G3
  go_wp2_with (first | refine wpList_store_row rfl _ _ _ rfl _ (cl zf) rfl rfl _ _ K6.out HZI.out rfl HZO.out ?_)
  go_loopw [7] (fun i wr => ∃ k : Nat, k ≤ 6 ∧ i = .int .i64 k ∧ At wr w.heap.size f ∧ At wr (w.heap.size + 1) g ∧ At wr (w.heap.size + 1 + 1) zf ∧ At wr b6 (partF (sumF f g) zf k) ∧ RowKit.Below w.heap.size w wr) (fun i _ => 6 - (RowKit.intOf i).toNat)
  case atStart => exact ⟨0, by omega, rfl, K1.out, K2.out, K3.out, by rw [partF_0]; exact K7.out, KB.out⟩
  case round =>
    obtain ⟨k, hk, rfl, hA, hG, hZ, hO, hBl⟩ := hrel
    have HA := Lib.hid hA
    have HG := Lib.hid hG
    have HZ := Lib.hid hZ
    have HO := Lib.hid hO
    have HBl := Lib.hid hBl
    by_cases hlt : k < 6
    · have hca := hA.cell k hlt
      have hcg := hG.cell k hlt
      have hco := hO.cell k hlt
      have hfro := hO.froz k
      have hi1 := ia_at w.heap.size k hlt
      have hi2 := ia_at (w.heap.size + 1) k hlt
      have hi3 := ia_at b6 k hlt
      have hlt2 : decide ((k : Int) < 6) = true := by simp; omega
      have hfb := HFB.out k hlt
      have hgb := HGB.out k hlt
      have HN : Hid (∀ W : World, W.heap = wr.heap → At (W.setCell ⟨b6, k, none⟩ (.int .i64 (f k + g k))) w.heap.size f ∧ At (W.setCell ⟨b6, k, none⟩ (.int .i64 (f k + g k))) (w.heap.size + 1) g ∧ At (W.setCell ⟨b6, k, none⟩ (.int .i64 (f k + g k))) (w.heap.size + 1 + 1) zf ∧ At (W.setCell ⟨b6, k, none⟩ (.int .i64 (f k + g k))) b6 (partF (sumF f g) zf (k + 1))) := Lib.hid (fun W hW => by
        have e : ∀ b h, At wr b h → At W b h := fun b h hh => by unfold At at *; rw [hW]; exact hh
        refine ⟨(e _ _ HA.out).other (by have := HNE.out; omega) k _, (e _ _ HG.out).other (by have := HNE.out; omega) k _, (e _ _ HZ.out).other (by have := HNE.out; omega) k _, ?_⟩
        rw [← partF_up]; exact (e _ _ HO.out).set k hlt _)
      obtain ⟨x, hx⟩ : ∃ x, f k = x := ⟨_, rfl⟩
      obtain ⟨y, hy⟩ : ∃ y, g k = y := ⟨_, rfl⟩
      rw [hx] at hca hfb HN
      rw [hy] at hcg hgb HN
      have hw : IntKind.i64.wrap (x + y) = x + y := IntWalk.i64_in _ (by omega)
      clear hx hy hA hG hZ hO hBl hfb hgb
      go_wp2_with fail
      go_region
      have HB5 : Hid (RowKit.Below w.heap.size w (wr.drew.setCell ⟨b6, k, none⟩ (.int .i64 (x + y)))) := Lib.hid ((Below.drew HBl.out).setCell (Nat.le_of_lt HNE.out.1) _)
      have HM := Lib.hid (HN.out wr.drew rfl)
      go_wp2_with fail
      go_roundw
      case rel => exact ⟨k + 1, by omega, by go_num, HM.out.1, HM.out.2.1, HM.out.2.2.1, HM.out.2.2.2, HB5.out⟩
      case measure => simp [RowKit.intOf]; omega
    · obtain rfl : k = 6 := by omega
      have hlt2 : decide (((6 : Nat) : Int) < 6) = false := by decide
      have HW := Lib.hid (HX.out _ (partF_all (sumF f g) zf))
      have HPI := Lib.hid (infoDim (partF (sumF f g) zf 6))
      have HVI := Lib.hid (infoDim (sumF f g))
      have HVO := Lib.hid (oneDim (sumF f g))
      have HOV := Lib.hid (hO.eq (partF_all (sumF f g) zf))
      have HQ := Lib.hid (rfl : inR (sumF f g) = inR (sumF f g))
      clear hA hG hZ hO hBl
      obtain ⟨P, hP⟩ : ∃ P, partF (sumF f g) zf 6 = P := ⟨_, rfl⟩
      obtain ⟨V, hV⟩ : ∃ V, sumF f g = V := ⟨_, rfl⟩
      rw [hP] at HW HO HPI
      rw [hV] at HW HVI HVO HOV
      conv at HQ => arg 1; rhs; rw [hV]
      clear hP
      by_cases hok : ok V = true
      · rw [hok] at HW
        have HV := HQ.out.trans (show inR V = DE V 0 by unfold inR; rw [if_pos hok])
        replace HV := Lib.hid HV
        clear hok
        go_wp2_with (refine wpList_load_row rfl _ _ rfl _ rfl _ _ _ _ HO.out Tryz.underlying23 rfl HPI.out ?_)
        refine (HW.out _).mono ?_
        rintro e w3 ⟨rfl, hb3⟩
        have H4 := Lib.hid (HZ.out.below0 hb3)
        have HA4 := Lib.hid (HOV.out.below0 hb3)
        have HB4 := Lib.hid (HBl.out.trans (hb3.mono HBl.out.size))
        clear hb3
        go_wp2_with (first | refine wpList_load_row rfl _ _ rfl _ rfl _ _ _ _ HA4.out Tryz.underlying23 rfl HVI.out ?_ | refine wpList_store_row rfl _ _ _ rfl _ _ rfl rfl _ _ H4.out HVI.out rfl HVO.out ?_)
        have H5 := Lib.hid (H4.out.row (g := V))
        refine bodyPost_ret (ret_cell rfl _ _ _ _ rfl H5.out) rfl ⟨by rw [HV.out]; rfl, below_row HB4.out (by omega) _⟩
      · rw [show ok V = false by simpa using hok] at HW
        have HV := HQ.out.trans (show inR V = DE zf 3 by unfold inR; rw [if_neg hok])
        replace HV := Lib.hid HV
        clear hok
        go_wp2_with (refine wpList_load_row rfl _ _ rfl _ rfl _ _ _ _ HO.out Tryz.underlying23 rfl HPI.out ?_)
        refine (HW.out _).mono ?_
        rintro e w3 ⟨rfl, hb3⟩
        have H4 := Lib.hid (HZ.out.below0 hb3)
        have HB4 := Lib.hid (HBl.out.trans (hb3.mono HBl.out.size))
        clear hb3
        go_wp2_with (refine wpList_store_row rfl _ _ _ rfl _ (cl zf) rfl rfl _ _ H4.out HZI.out rfl HZO.out ?_)
        have H5 := Lib.hid (H4.out.row (g := zf))
        refine bodyPost_ret (ret_cell rfl _ _ _ _ rfl H5.out) rfl ⟨by rw [HV.out]; rfl, below_row HB4.out (by omega) _⟩

set_option maxHeartbeats 4000000 in
theorem r8mul_bad1 (f g : Nat → Int) (hf : ok f = false) (w : World) : Calls Tryz.prog 43 #[.agg (cl f), .agg (cl g)] w (Gives (DE zf 1) w) := by
  have HR := Lib.hid (fun w => r8right_any f w)
  rw [hf] at HR
  obtain ⟨a1, a2, a3, hB⟩ := three_at f g w
  have HB := Lib.hid hB
  have H1 := Lib.hid a1
  have H2 := Lib.hid a2
  have H3 := Lib.hid a3
  have HF := Lib.hid (infoDim f)
  have HZI := Lib.hid (infoDim zf)
  have HZO := Lib.hid (oneDim zf)
  have hbd := build0
  clear a1 a2 a3 hf hB
  go_enter Tryz.func43, Tryz.ntmps43
  go_wp2_with (refine wpList_load_row rfl _ _ rfl _ rfl _ _ _ _ H1.out Tryz.underlying23 rfl HF.out ?_)
  refine (HR.out _).mono ?_
  rintro e w1 ⟨rfl, hb1⟩
  have G2 := Lib.hid (H2.out.below0 hb1)
  have G3 := Lib.hid (H3.out.below0 hb1)
  have HB1 := Lib.hid (HB.out.trans (hb1.mono HB.out.size))
  clear hb1 H1 H2 H3
  go_wp2_with (refine wpList_store_row rfl _ _ _ rfl _ (cl zf) rfl rfl _ _ G3.out HZI.out rfl HZO.out ?_)
  have H5 := Lib.hid (G3.out.row (g := zf))
  refine bodyPost_ret (ret_cell rfl _ _ _ _ rfl H5.out) rfl ⟨rfl, below_row HB1.out (by omega) _⟩

set_option maxHeartbeats 4000000 in
theorem r8mul_bad2 (f g : Nat → Int) (hf : ok f = true) (hg : ok g = false) (w : World) : Calls Tryz.prog 43 #[.agg (cl f), .agg (cl g)] w (Gives (DE zf 1) w) := by
  have HR := Lib.hid (fun w => r8right_any f w)
  rw [hf] at HR
  have HR2 := Lib.hid (fun w => r8right_any g w)
  rw [hg] at HR2
  obtain ⟨a1, a2, a3, hB⟩ := three_at f g w
  have HB := Lib.hid hB
  have H1 := Lib.hid a1
  have H2 := Lib.hid a2
  have H3 := Lib.hid a3
  have HF := Lib.hid (infoDim f)
  have HZI := Lib.hid (infoDim zf)
  have HZO := Lib.hid (oneDim zf)
  have hbd := build0
  clear a1 a2 a3 hf hB
  clear hg
  go_enter Tryz.func43, Tryz.ntmps43
  go_wp2_with (refine wpList_load_row rfl _ _ rfl _ rfl _ _ _ _ H1.out Tryz.underlying23 rfl HF.out ?_)
  refine (HR.out _).mono ?_
  rintro e w1 ⟨rfl, hb1⟩
  have G2 := Lib.hid (H2.out.below0 hb1)
  have G3 := Lib.hid (H3.out.below0 hb1)
  have HB1 := Lib.hid (HB.out.trans (hb1.mono HB.out.size))
  clear hb1 H1 H2 H3
  have c0 := G2.out.cell 0 (by omega)
  have c1 := G2.out.cell 1 (by omega)
  have c2 := G2.out.cell 2 (by omega)
  have c3 := G2.out.cell 3 (by omega)
  have c4 := G2.out.cell 4 (by omega)
  have c5 := G2.out.cell 5 (by omega)
  go_wp2_with fail
  clear c0 c1 c2 c3 c4 c5
  refine (HR2.out _).mono ?_
  rintro e w2 ⟨rfl, hb2⟩
  have K3 := Lib.hid (G3.out.below0 hb2)
  have HB2 := Lib.hid (HB1.out.trans (hb2.mono HB1.out.size))
  clear hb2 G2 G3
  go_wp2_with (refine wpList_store_row rfl _ _ _ rfl _ (cl zf) rfl rfl _ _ K3.out HZI.out rfl HZO.out ?_)
  have H5 := Lib.hid (K3.out.row (g := zf))
  refine bodyPost_ret (ret_cell rfl _ _ _ _ rfl H5.out) rfl ⟨rfl, below_row HB2.out (by omega) _⟩

theorem r8mul_any (f g : Nat → Int) (w : World) : Calls Tryz.prog 43 #[.agg (cl f), .agg (cl g)] w (Gives (mulR f g) w) := by
  unfold mulR
  rcases hf : ok f with _ | _
  · exact r8mul_bad1 f g hf w
  · rcases hg : ok g with _ | _
    · exact r8mul_bad2 f g hf hg w
    · exact r8mul_good f g hf hg w
end Go.Proofs.YtmhdhabgdlefjaaGreatDoor.Dm
