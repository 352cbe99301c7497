/- The contracts of readLoosely and of Read. -/
import Derived.Test.YtmoapjhobhdjoaaDoorDm7
set_option maxRecDepth 100000
namespace Go.Proofs.YtmoapjhobhdjoaaDoor.Dm
open Go.RowKit

theorem slc_one (g : Nat) (W : World) : (Instr.sliceAt 37 (.slice (some ⟨g, 0, none⟩) 1 1) (some (.int .i64 1)) none none).run Tryd.prog W = .ok (.slice (some ⟨g, 0, none⟩) 0 0) W := by
  have ha : (asIntOf (.int .i64 1)).run Tryd.prog W = .ok (IntKind.i64, (1 : Int)) W := rfl
  simp [Instr.sliceAt, Instr.slice, run_underlying Tryd.underlying37, Instr.sliceBounds, Instr.sliceBound, ha]
theorem slc_more (g n : Nat) (h : 2 ≤ n) (W : World) : (Instr.sliceAt 37 (.slice (some ⟨g, 0, none⟩) n n) (some (.int .i64 1)) none none).run Tryd.prog W = .ok (.slice (some ⟨g, 1, none⟩) (n - 1) (n - 1)) W := by
  have ha : (asIntOf (.int .i64 1)).run Tryd.prog W = .ok (IntKind.i64, (1 : Int)) W := rfl
  have h1 : (1 : Int) ≤ (n : Int) := by omega
  have h2 : ¬ n = 1 := by omega
  simp [Instr.sliceAt, Instr.slice, run_underlying Tryd.underlying37, Instr.sliceBounds, Instr.sliceBound, ha, h1, h2, Addr.add]
theorem beq_str (l m : List UInt8) : ((⟨l.toArray⟩ : ByteArray).toList == (⟨m.toArray⟩ : ByteArray).toList) = decide (l = m) := by
  rw [ByteArray.toList_eq, ByteArray.toList_eq, Bool.eq_iff_iff]; simp
theorem mem_first (c : UInt8) : ∀ s : List UInt8, c ∈ s → ∃ d r, s = d ++ c :: r ∧ c ∉ d
  | [], h => by cases h
  | b :: s, h => by
    by_cases e : b = c
    · subst e; exact ⟨[], s, rfl, by simp⟩
    · obtain ⟨d, r, e2, hd⟩ := mem_first c s (by rcases List.mem_cons.1 h with h | h; exact absurd h.symm e; exact h)
      exact ⟨b :: d, r, by rw [e2]; rfl, by simp; exact ⟨fun h => e h.symm, hd⟩⟩
theorem split_len (c : UInt8) : ∀ (k : Nat) (s : List UInt8), s.length ≤ k → 0 < (Lib.split s [c]).length ∧ (Lib.split s [c]).length ≤ s.length + 1 ∧ ∀ x ∈ Lib.split s [c], x.length ≤ s.length := by
  intro k
  induction k with
  | zero =>
    intro s hs
    have : s = [] := List.eq_nil_of_length_eq_zero (by omega)
    subst this
    rw [split_none c [] (by simp)]; simp
  | succ k ih =>
    intro s hs
    by_cases h : c ∈ s
    · obtain ⟨d, r, e, hd⟩ := mem_first c s h
      subst e
      rw [split_app c d r hd]
      have h1 := ih r (by simp at hs; omega)
      refine ⟨by simp, by simp; omega, fun x hx => ?_⟩
      rcases List.mem_cons.1 hx with rfl | hx
      · simp
      · have := h1.2.2 x hx; simp; omega
    · rw [split_none c s h]; simp

/-- What Read and readLoosely return. -/
def DB (f : Nat → Int) (b : Bool) : Value := .tuple #[.agg (cl f), .bool b]
set_option maxHeartbeats 4000000 in
theorem loose_any (s : List UInt8) (hs : s.length ≤ 100) (w : World) (he : Env w) : Calls Tryd.prog 15 #[sv s] w (Gives (DB (readL s).1 (readL s).2) w) := by
  obtain ⟨W0, hW0⟩ : ∃ W0, (w.alloc (.cells (cl zf) 23)).alloc (.cells (cl zf) 23) = W0 := ⟨_, rfl⟩
  have a1 : At W0 w.heap.size zf := by rw [← hW0]; exact (At.fresh w zf).alloc _
  have a2 : At W0 (w.heap.size + 1) zf := by
    have := At.fresh (w.alloc (.cells (cl zf) 23)) zf
    rw [← hW0]; simpa using this
  have hB0 : RowKit.Below w.heap.size w W0 := by rw [← hW0]; exact ((Below.refl _ _).alloc (Nat.le_refl _) _).alloc (by simp) _
  have hsz : W0.heap.size = w.heap.size + 2 := by rw [← hW0]; simp
  have HS := Lib.hid (split_any s 47 (by omega) W0 (he.below hB0))
  have HE := Lib.hid he
  have H1 := Lib.hid a1
  have H2 := Lib.hid a2
  have HB := Lib.hid hB0
  have HSZ := Lib.hid hsz
  obtain ⟨hL0, hL1, hL2⟩ := split_len 47 s.length s (Nat.le_refl _)
  obtain ⟨h, T, hLT⟩ : ∃ h T, Lib.split s [47] = h :: T := List.exists_cons_of_ne_nil (List.length_pos_iff.1 hL0)
  have HR : Hid (readL s = readB T (readA h)) := Lib.hid (by unfold readL; rw [hLT]; rfl)
  rw [hLT] at HS hL1 hL2
  have HL : Hid (T.length ≤ 100 ∧ h.length ≤ 100 ∧ ∀ x ∈ T, x.length ≤ 100) := Lib.hid ⟨by simp at hL1; omega, by have := hL2 h (by simp); omega, fun x hx => by have := hL2 x (by simp [hx]); omega⟩
  rw [hsz] at HS
  unfold SplitEnd at HS
  rw [List.length_cons] at HS
  obtain ⟨n, hn⟩ : ∃ n, T.length = n := ⟨_, rfl⟩
  rw [hn] at HS
  have HNT := Lib.hid hn
  have hz0 : (0 : Nat) < n + 1 := by omega
  have HIX := Lib.hid (sidx2 (w.heap.size + 2) 0 (n + 1) (n + 1) 0 hz0)
  clear a1 a2 hB0 hsz hL0 hL1 hL2 hLT hn hz0 he hs
  unfold sv at HS ⊢
  go_enter Tryd.func15, Tryd.ntmps15
  go_wp2_with fail
  have HS2 := HS.out
  rw [← hW0] at HS2
  refine HS2.mono ?_
  clear HS2
  rintro e w1 ⟨rfl, hs1, hb1, hz1⟩
  rw [hW0] at hb1
  have K1 := Lib.hid (H1.out.below0 hb1)
  have K2 := Lib.hid (H2.out.below0 hb1)
  have KB := Lib.hid (HB.out.trans (hb1.mono HB.out.size))
  have KS := Lib.hid hs1
  have KZ : Hid (w.heap.size + 2 < w1.heap.size) := Lib.hid (by have := HSZ.out; omega)
  have hidx := HIX.out
  have hcell : w1.cell? ⟨w.heap.size + 2, 0, none⟩ = some (.string ⟨h.toArray⟩) := hs1 0 h rfl
  clear hs1 hb1 hz1 H1 H2 HB hW0 HIX
  simp only [Nat.add_zero, Int.natCast_zero] at hidx
  by_cases h49 : h = [49]
  · have HA : Hid (readA h = (zf, true)) := Lib.hid (by unfold readA; rw [if_pos h49])
    have HFIN : Hid (readL s = readB T (zf, true)) := Lib.hid (by rw [HR.out, HA.out])
    clear HA
    subst h49
    rcases T with _ | ⟨t, T⟩
    · have hn0 : n = 0 := HNT.out.symm
      subst hn0
      have HV : Hid (readL s = (zf, true)) := Lib.hid (by rw [HFIN.out]; rfl)
      go_wp2_with fail
      refine (powers_nil _ _ (-1) (w.heap.size + 1) zf _ K2.out).mono ?_
      rintro e w5 ⟨rfl, hA5, hO5⟩
      have J2 := Lib.hid hA5
      have J1 := Lib.hid (hO5.at K1.out (by omega))
      have JB := Lib.hid (hO5.below KB.out (by omega) KB.out.size)
      clear hA5 hO5 hidx hcell
      have HFI := Lib.hid (infoDim zf)
      have HFO := Lib.hid (oneDim zf)
      go_wp2_with (first | refine wpList_load_row rfl _ _ rfl _ rfl _ _ _ _ J2.out Tryd.underlying23 rfl HFI.out ?_ | refine wpList_store_row rfl _ _ _ rfl _ _ rfl rfl _ _ J1.out HFI.out rfl HFO.out ?_)
      have H5 := Lib.hid (J1.out.row (g := zf))
      refine bodyPost_ret (ret_cell rfl _ _ _ _ rfl H5.out) rfl ⟨by rw [HV.out]; rfl, below_row JB.out (by omega) _⟩
    · obtain ⟨m, hm⟩ : ∃ m, T.length = m := ⟨_, rfl⟩
      have hn1 : n = m + 1 := by rw [← HNT.out, List.length_cons, hm]
      subst hn1
      have HST : Hid (Strs w1 (w.heap.size + 2) 1 (t :: T)) := Lib.hid (fun j x hx => by
        have := KS.out (j + 1) x hx
        rwa [show 0 + (j + 1) = 1 + j by omega] at this)
      obtain ⟨F, B, hFB⟩ : ∃ F B, rps (-1) (t :: T) zf = (F, B) := ⟨_, _, rfl⟩
      have HV : Hid (readL s = (F, B)) := Lib.hid (by rw [HFIN.out, ← hFB]; rfl)
      have HP := Lib.hid (powers_any w HE.out (w.heap.size + 2) 1 (m + 1) (w.heap.size + 1) (t :: T) (-1) zf w1 KB.out (by omega) (by omega) KZ.out HST.out K2.out (by have := HL.out.1; omega) (fun x hx => by have := HL.out.2.2 x hx; omega))
      rw [List.length_cons, hm, hFB] at HP
      clear hm hFB
      go_wp2_with fail
      refine HP.out.mono ?_
      rintro e w5 ⟨rfl, hA5, hO5⟩
      have J2 := Lib.hid hA5
      have J1 := Lib.hid (hO5.at K1.out (by omega))
      have JB := Lib.hid (hO5.below KB.out (by omega) KB.out.size)
      clear hA5 hO5 hidx hcell
      have HFI := Lib.hid (infoDim F)
      have HFO := Lib.hid (oneDim F)
      go_wp2_with (first | refine wpList_load_row rfl _ _ rfl _ rfl _ _ _ _ J2.out Tryd.underlying23 rfl HFI.out ?_ | refine wpList_store_row rfl _ _ _ rfl _ _ rfl rfl _ _ J1.out HFI.out rfl HFO.out ?_)
      have H5 := Lib.hid (J1.out.row (g := F))
      refine bodyPost_ret (ret_cell rfl _ _ _ _ rfl H5.out) rfl ⟨by rw [HV.out]; rfl, below_row JB.out (by omega) _⟩
  · have HA : Hid (readA h = rps 1 (Lib.split h [42]) zf) := Lib.hid (by unfold readA; rw [if_neg h49])
    have HEr := Lib.hid (HE.out.below KB.out)
    have HS3 := Lib.hid (split_any h 42 (by have := HL.out.2.1; omega) w1 HEr.out)
    obtain ⟨L2, hL2⟩ : ∃ L, Lib.split h [42] = L := ⟨_, rfl⟩
    have HL2 : Hid (L2.length ≤ 1000 ∧ ∀ x ∈ L2, x.length ≤ 1000) := Lib.hid (by
      have h1 := split_len 42 h.length h (Nat.le_refl _)
      rw [hL2] at h1
      have h2 := HL.out.2.1
      exact ⟨by omega, fun x hx => by have := h1.2.2 x hx; omega⟩)
    rw [hL2] at HA HS3
    obtain ⟨f1, b1, hfb⟩ : ∃ f1 b1, rps 1 L2 zf = (f1, b1) := ⟨_, _, rfl⟩
    rw [hfb] at HA
    have HFB := Lib.hid hfb
    have q1 := beq_str h [49]
    rw [show decide (h = [49]) = false by simpa using h49] at q1
    unfold sv at HS3
    clear hL2 hfb
    go_wp2_with fail
    refine HS3.out.mono ?_
    rintro e w2 ⟨rfl, hs2, hb2, hz2⟩
    have M1 := Lib.hid (K1.out.below0 hb2)
    have M2 := Lib.hid (K2.out.below0 hb2)
    have MB := Lib.hid (KB.out.trans (hb2.mono KB.out.size))
    have MS := Lib.hid (KS.out.below hb2 KZ.out)
    have MZ : Hid (w.heap.size + 2 < w2.heap.size) := Lib.hid (Nat.lt_of_lt_of_le KZ.out hb2.size)
    have HP3 := Lib.hid (powers_any w HE.out w1.heap.size 0 L2.length (w.heap.size + 1) L2 1 zf w2 MB.out (by omega) (by have := KZ.out; omega) hz2 hs2 M2.out HL2.out.1 HL2.out.2)
    rw [HFB.out] at HP3
    clear hs2 hb2 hz2
    go_wp2_with fail
    refine HP3.out.mono ?_
    rintro e w3 ⟨rfl, hA3, hO3⟩
    have N2 := Lib.hid hA3
    have N1 := Lib.hid (hO3.at M1.out (by omega))
    have NB := Lib.hid (hO3.below MB.out (by omega) MB.out.size)
    have NS := Lib.hid (hO3.strs MS.out MZ.out (by omega))
    have NZ : Hid (w.heap.size + 2 < w3.heap.size) := Lib.hid (Nat.lt_of_lt_of_le MZ.out hO3.size)
    have hcell : w3.cell? ⟨w.heap.size + 2, 0, none⟩ = some (.string ⟨h.toArray⟩) := NS.out 0 h rfl
    clear hA3 hO3
    cases b1 with
    | false =>
      have HV : Hid (readL s = (f1, false)) := Lib.hid (by rw [HR.out, HA.out]; rfl)
      clear hidx hcell
      have HFI := Lib.hid (infoDim f1)
      have HFO := Lib.hid (oneDim f1)
      go_wp2_with (first | refine wpList_load_row rfl _ _ rfl _ rfl _ _ _ _ N2.out Tryd.underlying23 rfl HFI.out ?_ | refine wpList_store_row rfl _ _ _ rfl _ _ rfl rfl _ _ N1.out HFI.out rfl HFO.out ?_)
      have H5 := Lib.hid (N1.out.row (g := f1))
      refine bodyPost_ret (ret_cell rfl _ _ _ _ rfl H5.out) rfl ⟨by rw [HV.out]; rfl, below_row NB.out (by omega) _⟩
    | true =>
      have HFIN : Hid (readL s = readB T (f1, true)) := Lib.hid (by rw [HR.out, HA.out])
      rcases T with _ | ⟨t, T⟩
      · have hn0 : n = 0 := HNT.out.symm
        subst hn0
        have HV : Hid (readL s = (f1, true)) := Lib.hid (by rw [HFIN.out]; rfl)
        go_wp2_with fail
        refine (powers_nil _ _ (-1) (w.heap.size + 1) f1 _ N2.out).mono ?_
        rintro e w5 ⟨rfl, hA5, hO5⟩
        have J2 := Lib.hid hA5
        have J1 := Lib.hid (hO5.at N1.out (by omega))
        have JB := Lib.hid (hO5.below NB.out (by omega) NB.out.size)
        clear hA5 hO5 hidx hcell
        have HFI := Lib.hid (infoDim f1)
        have HFO := Lib.hid (oneDim f1)
        go_wp2_with (first | refine wpList_load_row rfl _ _ rfl _ rfl _ _ _ _ J2.out Tryd.underlying23 rfl HFI.out ?_ | refine wpList_store_row rfl _ _ _ rfl _ _ rfl rfl _ _ J1.out HFI.out rfl HFO.out ?_)
        have H5 := Lib.hid (J1.out.row (g := f1))
        refine bodyPost_ret (ret_cell rfl _ _ _ _ rfl H5.out) rfl ⟨by rw [HV.out]; rfl, below_row JB.out (by omega) _⟩
      · obtain ⟨m, hm⟩ : ∃ m, T.length = m := ⟨_, rfl⟩
        have hn1 : n = m + 1 := by rw [← HNT.out, List.length_cons, hm]
        subst hn1
        have HST : Hid (Strs w3 (w.heap.size + 2) 1 (t :: T)) := Lib.hid (fun j x hx => by
          have := NS.out (j + 1) x hx
          rwa [show 0 + (j + 1) = 1 + j by omega] at this)
        obtain ⟨F, B, hFB⟩ : ∃ F B, rps (-1) (t :: T) f1 = (F, B) := ⟨_, _, rfl⟩
        have HV : Hid (readL s = (F, B)) := Lib.hid (by rw [HFIN.out, ← hFB]; rfl)
        have HP := Lib.hid (powers_any w HE.out (w.heap.size + 2) 1 (m + 1) (w.heap.size + 1) (t :: T) (-1) f1 w3 NB.out (by omega) (by omega) NZ.out HST.out N2.out (by have := HL.out.1; omega) (fun x hx => by have := HL.out.2.2 x hx; omega))
        rw [List.length_cons, hm, hFB] at HP
        clear hm hFB
        go_wp2_with fail
        refine HP.out.mono ?_
        rintro e w5 ⟨rfl, hA5, hO5⟩
        have J2 := Lib.hid hA5
        have J1 := Lib.hid (hO5.at N1.out (by omega))
        have JB := Lib.hid (hO5.below NB.out (by omega) NB.out.size)
        clear hA5 hO5 hidx hcell
        have HFI := Lib.hid (infoDim F)
        have HFO := Lib.hid (oneDim F)
        go_wp2_with (first | refine wpList_load_row rfl _ _ rfl _ rfl _ _ _ _ J2.out Tryd.underlying23 rfl HFI.out ?_ | refine wpList_store_row rfl _ _ _ rfl _ _ rfl rfl _ _ J1.out HFI.out rfl HFO.out ?_)
        have H5 := Lib.hid (J1.out.row (g := F))
        refine bodyPost_ret (ret_cell rfl _ _ _ _ rfl H5.out) rfl ⟨by rw [HV.out]; rfl, below_row JB.out (by omega) _⟩
end Go.Proofs.YtmoapjhobhdjoaaDoor.Dm
