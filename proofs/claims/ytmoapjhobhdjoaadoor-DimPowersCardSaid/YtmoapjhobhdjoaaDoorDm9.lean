/- The contract of Read. -/
import Derived.Test.YtmoapjhobhdjoaaDoorDm8
set_option maxRecDepth 100000
namespace Go.Proofs.YtmoapjhobhdjoaaDoor.Dm
open Go.RowKit

theorem rd_long {s : List UInt8} (h : 23 < s.length) : rdB s = false := by
  unfold rdB
  rw [show decide (s.length ≤ 23) = false by simp; omega]; rfl
theorem rd_loose {s : List UInt8} {F : Nat → Int} (h : readL s = (F, false)) : rdB s = false := by
  unfold rdB
  rw [h]; simp
theorem rd_not {s : List UInt8} {F : Nat → Int} (h : readL s = (F, true)) (hn : tx F ≠ s) : rdB s = false := by
  unfold rdB
  rw [h]; simp [hn]
theorem rd_yes {s : List UInt8} {F : Nat → Int} (hl : s.length ≤ 23) (h : readL s = (F, true)) (hn : tx F = s) : rdB s = true ∧ rdF s = F := by
  have e : rdB s = true := by
    unfold rdB
    rw [h]; simp [hn, hl]
  refine ⟨e, ?_⟩
  unfold rdF
  rw [if_pos e, h]
theorem zf_at (w : World) : At (w.alloc (.cells #[.int .i64 0, .int .i64 0, .int .i64 0, .int .i64 0, .int .i64 0, .int .i64 0] 23)) w.heap.size zf := At.fresh w zf

set_option maxHeartbeats 2000000 in
theorem read_long (s : List UInt8) (hs : s.length ≤ 1000) (h : 23 < s.length) (w : World) : Calls Tryd.prog 8 #[sv s] w (Gives (DB (rdF s) (rdB s)) w) := by
  have HV : Hid (DB (rdF s) (rdB s) = DB zf false) := Lib.hid (by rw [rd_none (rd_long h), rd_long h])
  have H1 := Lib.hid (zf_at w)
  have HZI := Lib.hid (infoDim zf)
  have HZO := Lib.hid (oneDim zf)
  have hbd := build0
  have HB : Hid (RowKit.Below w.heap.size w (w.alloc (.cells #[.int .i64 0, .int .i64 0, .int .i64 0, .int .i64 0, .int .i64 0, .int .i64 0] 23))) := Lib.hid (below_alloc _ _)
  have g : decide (23 < s.length) = true := by simpa using h
  have g' : decide (23 < (s.length : Int)) = true := by simp; omega
  unfold sv
  clear h
  go_enter Tryd.func8, Tryd.ntmps8
  go_wp2_with (refine wpList_store_row rfl _ _ _ rfl _ (cl zf) rfl rfl _ _ H1.out HZI.out rfl HZO.out ?_)
  have H5 := Lib.hid (H1.out.row (g := zf))
  refine bodyPost_ret (ret_cell rfl _ _ _ _ rfl H5.out) rfl ⟨by rw [HV.out]; rfl, below_row HB.out (by omega) _⟩

set_option maxHeartbeats 4000000 in
theorem read_short (s : List UInt8) (h : s.length ≤ 23) (w : World) (he : Env w) : Calls Tryd.prog 8 #[sv s] w (Gives (DB (rdF s) (rdB s)) w) := by
  have HB : Hid (RowKit.Below w.heap.size w (w.alloc (.cells #[.int .i64 0, .int .i64 0, .int .i64 0, .int .i64 0, .int .i64 0, .int .i64 0] 23))) := Lib.hid (below_alloc _ _)
  have HE := Lib.hid (he.below HB.out)
  have HL := Lib.hid (loose_any s (by omega) _ HE.out)
  have H1 := Lib.hid (zf_at w)
  have HZI := Lib.hid (infoDim zf)
  have HZO := Lib.hid (oneDim zf)
  have hbd := build0
  have g : decide (23 < s.length) = false := by simp; omega
  have g' : decide (23 < (s.length : Int)) = false := by simp; omega
  obtain ⟨F, B, hFB⟩ : ∃ F B, readL s = (F, B) := ⟨_, _, rfl⟩
  rw [hFB] at HL
  have HFB := Lib.hid hFB
  have HSL := Lib.hid h
  have HFI := Lib.hid (infoDim F)
  have HFO := Lib.hid (oneDim F)
  clear he hFB h
  unfold sv at HL ⊢
  unfold DB at HL
  simp only at HL
  rcases B with _ | _
  · have HV : Hid (DB (rdF s) (rdB s) = DB zf false) := Lib.hid (by rw [rd_none (rd_loose HFB.out), rd_loose HFB.out])
    go_enter Tryd.func8, Tryd.ntmps8
    go_wp2_with fail
    refine HL.out.mono ?_
    rintro e w1 ⟨rfl, hb1⟩
    have K1 := Lib.hid (H1.out.below0 hb1)
    have KB := Lib.hid (HB.out.trans (hb1.mono HB.out.size))
    have K2 := Lib.hid (zf_at w1)
    have K3 := Lib.hid (((K1.out.alloc (.cells #[.int .i64 0, .int .i64 0, .int .i64 0, .int .i64 0, .int .i64 0, .int .i64 0] 23)).oth (b' := w1.heap.size) (by have := K1.out.lt; omega) (cl F)))
    have KB2 := Lib.hid (below_row (KB.out.alloc KB.out.size (.cells #[.int .i64 0, .int .i64 0, .int .i64 0, .int .i64 0, .int .i64 0, .int .i64 0] 23)) (b := w1.heap.size) KB.out.size (cl F))
    clear hb1
    go_wp2_with (first | refine wpList_store_row rfl _ _ _ rfl _ _ rfl rfl _ _ K2.out HFI.out rfl HFO.out ?_ | refine wpList_store_row rfl _ _ _ rfl _ (cl zf) rfl rfl _ _ K3.out HZI.out rfl HZO.out ?_)
    have H5 := Lib.hid (K3.out.row (g := zf))
    refine bodyPost_ret (ret_cell rfl _ _ _ _ rfl H5.out) rfl ⟨by rw [HV.out]; rfl, below_row KB2.out (by omega) _⟩
  · have HTX : Hid (∀ w, Env w → Calls Tryd.prog 7 #[.agg (cl F)] w (Gives (sv (tx F)) w)) := Lib.hid (text_any F)
    have hcmp := beq_str (tx F) s
    have HYES := Lib.hid (rd_yes (s := s) HSL.out HFB.out)
    have HNO := Lib.hid (rd_not (s := s) HFB.out)
    obtain ⟨X, hX⟩ : ∃ X, tx F = X := ⟨_, rfl⟩
    rw [hX] at HTX hcmp HYES HNO
    clear hX
    by_cases hn : X = s
    · obtain ⟨y1, y2⟩ := HYES.out hn
      have HV : Hid (DB (rdF s) (rdB s) = DB F true) := Lib.hid (by rw [y1, y2])
      rw [show decide (X = s) = true by simpa using hn] at hcmp
      have hcmp2 : ((⟨X.toArray⟩ : ByteArray).toList != (⟨s.toArray⟩ : ByteArray).toList) = false := by rw [bne, hcmp]; rfl
      have hcmp3 : (!(⟨X.toArray⟩ : ByteArray).toList == (⟨s.toArray⟩ : ByteArray).toList) = false := by rw [hcmp]; rfl
      have hcmp4 : (!X == s) = false := by rw [beq_iff_eq.2 hn]; rfl
      clear y1 y2
      unfold sv at HTX
      go_enter Tryd.func8, Tryd.ntmps8
      go_wp2_with fail
      refine HL.out.mono ?_
      rintro e w1 ⟨rfl, hb1⟩
      have K1 := Lib.hid (H1.out.below0 hb1)
      have KB := Lib.hid (HB.out.trans (hb1.mono HB.out.size))
      have K2 := Lib.hid (zf_at w1)
      have K3 := Lib.hid (((K1.out.alloc (.cells #[.int .i64 0, .int .i64 0, .int .i64 0, .int .i64 0, .int .i64 0, .int .i64 0] 23)).oth (b' := w1.heap.size) (by have := K1.out.lt; omega) (cl F)))
      have K4 := Lib.hid (K2.out.row (g := F))
      have KB2 := Lib.hid (below_row (KB.out.alloc KB.out.size (.cells #[.int .i64 0, .int .i64 0, .int .i64 0, .int .i64 0, .int .i64 0, .int .i64 0] 23)) (b := w1.heap.size) KB.out.size (cl F))
      have HEr := Lib.hid (HE.out.below (hb1.trans ((below_row ((Below.refl w1.heap.size w1).alloc (Nat.le_refl _) (.cells #[.int .i64 0, .int .i64 0, .int .i64 0, .int .i64 0, .int .i64 0, .int .i64 0] 23)) (b := w1.heap.size) (Nat.le_refl _) (cl F)).mono hb1.size)))
      clear hb1
      have c0 := K4.out.cell 0 (by omega)
      have c1 := K4.out.cell 1 (by omega)
      have c2 := K4.out.cell 2 (by omega)
      have c3 := K4.out.cell 3 (by omega)
      have c4 := K4.out.cell 4 (by omega)
      have c5 := K4.out.cell 5 (by omega)
      go_wp2_with (first | refine wpList_store_row rfl _ _ _ rfl _ _ rfl rfl _ _ K2.out HFI.out rfl HFO.out ?_)
      clear c0 c1 c2 c3 c4 c5
      refine (HTX.out _ HEr.out).mono ?_
      rintro e w2 ⟨rfl, hb2⟩
      have N3 := Lib.hid (K3.out.below0 hb2)
      have N4 := Lib.hid (K4.out.below0 hb2)
      have NB := Lib.hid (KB2.out.trans (hb2.mono KB2.out.size))
      clear hb2
      go_wp2_with (first | refine wpList_load_row rfl _ _ rfl _ rfl _ _ _ _ N4.out Tryd.underlying23 rfl HFI.out ?_ | refine wpList_store_row rfl _ _ _ rfl _ _ rfl rfl _ _ N3.out HFI.out rfl HFO.out ?_)
      have H5 := Lib.hid (N3.out.row (g := F))
      refine bodyPost_ret (ret_cell rfl _ _ _ _ rfl H5.out) rfl ⟨by rw [HV.out]; rfl, below_row NB.out (by omega) _⟩
    · have hf := HNO.out hn
      have HV : Hid (DB (rdF s) (rdB s) = DB zf false) := Lib.hid (by rw [rd_none hf, hf])
      rw [show decide (X = s) = false by simpa using hn] at hcmp
      have hcmp2 : ((⟨X.toArray⟩ : ByteArray).toList != (⟨s.toArray⟩ : ByteArray).toList) = true := by rw [bne, hcmp]; rfl
      have hcmp3 : (!(⟨X.toArray⟩ : ByteArray).toList == (⟨s.toArray⟩ : ByteArray).toList) = true := by rw [hcmp]; rfl
      have hcmp4 : (!X == s) = true := by rw [beq_eq_false_iff_ne.2 hn]; rfl
      clear hf
      unfold sv at HTX
      go_enter Tryd.func8, Tryd.ntmps8
      go_wp2_with fail
      refine HL.out.mono ?_
      rintro e w1 ⟨rfl, hb1⟩
      have K1 := Lib.hid (H1.out.below0 hb1)
      have KB := Lib.hid (HB.out.trans (hb1.mono HB.out.size))
      have K2 := Lib.hid (zf_at w1)
      have K3 := Lib.hid (((K1.out.alloc (.cells #[.int .i64 0, .int .i64 0, .int .i64 0, .int .i64 0, .int .i64 0, .int .i64 0] 23)).oth (b' := w1.heap.size) (by have := K1.out.lt; omega) (cl F)))
      have K4 := Lib.hid (K2.out.row (g := F))
      have KB2 := Lib.hid (below_row (KB.out.alloc KB.out.size (.cells #[.int .i64 0, .int .i64 0, .int .i64 0, .int .i64 0, .int .i64 0, .int .i64 0] 23)) (b := w1.heap.size) KB.out.size (cl F))
      have HEr := Lib.hid (HE.out.below (hb1.trans ((below_row ((Below.refl w1.heap.size w1).alloc (Nat.le_refl _) (.cells #[.int .i64 0, .int .i64 0, .int .i64 0, .int .i64 0, .int .i64 0, .int .i64 0] 23)) (b := w1.heap.size) (Nat.le_refl _) (cl F)).mono hb1.size)))
      clear hb1
      have c0 := K4.out.cell 0 (by omega)
      have c1 := K4.out.cell 1 (by omega)
      have c2 := K4.out.cell 2 (by omega)
      have c3 := K4.out.cell 3 (by omega)
      have c4 := K4.out.cell 4 (by omega)
      have c5 := K4.out.cell 5 (by omega)
      go_wp2_with (first | refine wpList_store_row rfl _ _ _ rfl _ _ rfl rfl _ _ K2.out HFI.out rfl HFO.out ?_)
      clear c0 c1 c2 c3 c4 c5
      refine (HTX.out _ HEr.out).mono ?_
      rintro e w2 ⟨rfl, hb2⟩
      have N3 := Lib.hid (K3.out.below0 hb2)
      have N4 := Lib.hid (K4.out.below0 hb2)
      have NB := Lib.hid (KB2.out.trans (hb2.mono KB2.out.size))
      clear hb2
      go_wp2_with (first | refine wpList_store_row rfl _ _ _ rfl _ (cl zf) rfl rfl _ _ N3.out HZI.out rfl HZO.out ?_)
      have H5 := Lib.hid (N3.out.row (g := zf))
      refine bodyPost_ret (ret_cell rfl _ _ _ _ rfl H5.out) rfl ⟨by rw [HV.out]; rfl, below_row NB.out (by omega) _⟩
theorem read_any (s : List UInt8) (hs : s.length ≤ 1000) (w : World) (he : Env w) : Calls Tryd.prog 8 #[sv s] w (Gives (DB (rdF s) (rdB s)) w) := by
  by_cases h : 23 < s.length
  · exact read_long s hs h w
  · exact read_short s (by omega) w he
end Go.Proofs.YtmoapjhobhdjoaaDoor.Dm
