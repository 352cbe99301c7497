/- The contracts of inRange, Mul and Div. -/
import Derived.Laws.ResultCell
import Derived.Laws.Unary
import Derived.Test.YtmhdhabgdlefjaaGreatDoorPTells19
set_option maxRecDepth 100000
namespace Go.Proofs.YtmhdhabgdlefjaaGreatDoor.Dm
open Go.RowKit

theorem ret_cell {fn : Func} {p u : Tmp} (h : fn.results = #[.cell p 23, .tmp u]) (tmps : Array Value) (w : World) (b : Nat) (f : Nat → Int) (hp : tmps.getD p undef = .pointer (some ⟨b, 0, none⟩)) (ha : At w b f) :
    (results fn tmps).run Tryz.prog w = .ok (.tuple #[.agg (cl f), tmps.getD u undef]) w := by
  have hl := run_loadVar_row (P := Tryz.prog) w b 23 23 (cl f) (0, 0) _ ha Tryz.underlying23 rfl (infoDim f)
  rw [results_cell_tmp h, hp]
  simp [asAddr, Result.andThen, hl]
theorem At.below0 {w w' : World} {b : Nat} {f : Nat → Int} (h : At w b f) (hb : RowKit.Below w.heap.size w w') : At w' b f := h.below hb h.lt
theorem below_row {B : Nat} {a w : World} (h : RowKit.Below B a w) {b : Nat} (hb : B ≤ b) (c : Array Value) : RowKit.Below B a (w.setRow b c) :=
  ⟨h.os, h.tape, h.output, by simpa using h.size, fun k hk => (setRow_other w b k c (by omega)).trans (h.block k hk)⟩
theorem below_alloc (w : World) (o : Obj) : RowKit.Below w.heap.size w (w.alloc o) := (Below.refl _ _).alloc (Nat.le_refl _) o
/-- A dimension and an error, as results. -/
def DE (f : Nat → Int) (n : Int) : Value := .tuple #[.agg (cl f), .int .i64 n]
/-- What is returned if the result is f. -/
def inR (f : Nat → Int) : Value := if ok f then DE f 0 else DE zf 3
theorem At.oth {w : World} {b b' : Nat} {f : Nat → Int} (h : At w b f) (hne : b ≠ b') (c : Array Value) : At (w.setRow b' c) b f := by
  unfold At at *; rw [setRow_other w b' b c hne]; exact h
theorem rightG (f : Nat → Int) (w : World) : Calls Tryz.prog 28 #[.agg (cl f)] w (Gives (.bool (ok f)) w) :=
  (right_any f w).mono fun e w' h => ⟨h.1, by rw [h.2]; exact below_alloc _ _⟩

theorem build0 (W : World) : (Instr.build 23 #[]).run Tryz.prog W = .ok (.agg (cl zf)) W := run_build W _ #[] (cl zf) (by kernel_rfl)

set_option maxHeartbeats 1000000 in
theorem inRange_any (f : Nat → Int) (w : World) : Calls Tryz.prog 56 #[.agg (cl f)] w (Gives (inR f) w) := by
  have HR := Lib.hid (rightG f)
  have a1 : At ((w.alloc (.cells (cl f) 23)).alloc (.cells (cl zf) 23)) w.heap.size f := (At.fresh w f).alloc _
  have a2 : At ((w.alloc (.cells (cl f) 23)).alloc (.cells (cl zf) 23)) (w.heap.size + 1) zf := by
    have := At.fresh (w.alloc (.cells (cl f) 23)) zf
    simpa using this
  have hb0 : RowKit.Below w.heap.size w ((w.alloc (.cells (cl f) 23)).alloc (.cells (cl zf) 23)) := ((Below.refl _ _).alloc (Nat.le_refl _) _).alloc (by simp) _
  obtain ⟨b, hb⟩ : ∃ b, w.heap.size = b := ⟨_, rfl⟩
  have HB := Lib.hid hb0
  have H1 := Lib.hid a1
  have H2 := Lib.hid a2
  have HSZ : Hid (w.heap.size = b) := Lib.hid hb
  have HF := Lib.hid (infoDim f)
  have HZ := Lib.hid (infoDim zf)
  have HZO := Lib.hid (oneDim zf)
  have HFO := Lib.hid (oneDim f)
  clear hb0 a1 a2 hb
  by_cases hok : ok f = true
  · have HV : Hid (inR f = DE f 0) := Lib.hid (by unfold inR; rw [if_pos hok])
    rw [hok] at HR
    clear hok
    go_enter Tryz.func56, Tryz.ntmps56
    go_wp2_with (refine wpList_load_row rfl _ _ rfl _ rfl _ _ _ _ H1.out Tryz.underlying23 rfl HF.out ?_)
    refine (HR.out _).mono ?_
    rintro e w1 ⟨rfl, hb1⟩
    have H3 := Lib.hid (H1.out.below0 hb1)
    have H4 := Lib.hid (H2.out.below0 hb1)
    have HB1 := Lib.hid (HB.out.trans (hb1.mono HB.out.size))
    clear hb1
    go_wp2_with (first | refine wpList_load_row rfl _ _ rfl _ rfl _ _ _ _ H3.out Tryz.underlying23 rfl HF.out ?_ | refine wpList_store_row rfl _ _ _ rfl _ _ rfl rfl _ _ H4.out HF.out rfl HFO.out ?_)
    have H5 := Lib.hid (H4.out.row (g := f))

    refine bodyPost_ret (ret_cell rfl _ _ _ _ rfl H5.out) rfl ⟨by rw [HV.out]; rfl, below_row HB1.out (by omega) _⟩
  · have HV : Hid (inR f = DE zf 3) := Lib.hid (by unfold inR; rw [if_neg hok])
    have hok' : ok f = false := by simpa using hok
    rw [hok'] at HR
    have hbd := build0
    clear hok hok'
    go_enter Tryz.func56, Tryz.ntmps56
    go_wp2_with (refine wpList_load_row rfl _ _ rfl _ rfl _ _ _ _ H1.out Tryz.underlying23 rfl HF.out ?_)
    refine (HR.out _).mono ?_
    rintro e w1 ⟨rfl, hb1⟩
    have H3 := Lib.hid (H1.out.below0 hb1)
    have H4 := Lib.hid (H2.out.below0 hb1)
    have HB1 := Lib.hid (HB.out.trans (hb1.mono HB.out.size))
    clear hb1
    go_wp2_with (first | refine wpList_load_row rfl _ _ rfl _ rfl _ _ _ _ H3.out Tryz.underlying23 rfl HF.out ?_ | refine wpList_store_row rfl _ _ _ rfl _ (cl zf) rfl rfl _ _ H4.out HZ.out rfl HZO.out ?_)
    have H5 := Lib.hid (H4.out.row (g := zf))
    refine bodyPost_ret (ret_cell rfl _ _ _ _ rfl H5.out) rfl ⟨by rw [HV.out]; rfl, below_row HB1.out (by omega) _⟩

/-- The exponents of what Mul and Div return, before they are tested. -/
def sumF (f g : Nat → Int) : Nat → Int := fun i => f i + g i
def difF (f g : Nat → Int) : Nat → Int := fun i => f i - g i
def partF (h f : Nat → Int) (k : Nat) : Nat → Int := fun i => if i < k then h i else f i
theorem partF_up (h f : Nat → Int) (k : Nat) : up (partF h f k) k (h k) = partF h f (k + 1) := by
  funext j
  unfold up partF
  by_cases e : j = k
  · subst e; rw [if_pos rfl, if_pos (by omega)]
  · rw [if_neg e]
    by_cases c : j < k
    · rw [if_pos c, if_pos (by omega)]
    · rw [if_neg c, if_neg (by omega)]
theorem partF_at (h f : Nat → Int) (k : Nat) : partF h f k k = f k := by unfold partF; rw [if_neg (by omega)]
theorem partF_all (h f : Nat → Int) : ∀ i, i < 6 → partF h f 6 i = h i := fun i hi => by unfold partF; rw [if_pos hi]
theorem partF_0 (h f : Nat → Int) : partF h f 0 = f := by funext i; unfold partF; rw [if_neg (by omega)]
theorem ia_at (b : Nat) (r : Nat) (hr : r < 6) (W : World) : (Instr.indexAt 23 (.pointer (some ⟨b, 0, none⟩)) (.int .i64 (r : Int))).run Tryz.prog W = .ok (.pointer (some ⟨b, r, none⟩)) W := by
  rcases lt6 hr with rfl | rfl | rfl | rfl | rfl | rfl <;> rfl
theorem At.froz {w : World} {b : Nat} {f : Nat → Int} (h : At w b f) (k : Nat) : w.frozen? ⟨b, k, none⟩ = false := frozen_of_row w b k _ _ h
theorem inR_eq {f g : Nat → Int} (h : ∀ i, i < 6 → f i = g i) : inR f = inR g := by unfold inR DE; rw [ok_eq h, cl_eq h]

set_option maxHeartbeats 4000000 in
theorem mul_good (f g : Nat → Int) (hf : ok f = true) (hg : ok g = true) (w : World) : Calls Tryz.prog 26 #[.agg (cl f), .agg (cl g)] w (Gives (inR (sumF f g)) w) := by
  have HR := Lib.hid (fun w => rightG f w)
  have HR2 := Lib.hid (fun w => rightG g w)
  have HX : Hid (∀ h, (∀ i, i < 6 → h i = sumF f g i) → ∀ w, Calls Tryz.prog 56 #[.agg (cl h)] w (Gives (inR (sumF f g)) w)) := fun h e w => by
    rw [cl_eq e]; exact inRange_any _ w
  rw [hf] at HR
  rw [hg] at HR2
  have a1 : At (((w.alloc (.cells (cl f) 23)).alloc (.cells (cl g) 23)).alloc (.cells (cl zf) 23)) w.heap.size f := ((At.fresh w f).alloc _).alloc _
  have a2 : At (((w.alloc (.cells (cl f) 23)).alloc (.cells (cl g) 23)).alloc (.cells (cl zf) 23)) (w.heap.size + 1) g := by
    have := (At.fresh (w.alloc (.cells (cl f) 23)) g).alloc (.cells (cl zf) 23)
    simpa using this
  have a3 : At (((w.alloc (.cells (cl f) 23)).alloc (.cells (cl g) 23)).alloc (.cells (cl zf) 23)) (w.heap.size + 1 + 1) zf := by
    have := At.fresh ((w.alloc (.cells (cl f) 23)).alloc (.cells (cl g) 23)) zf
    simpa using this
  have HB : Hid (RowKit.Below w.heap.size w (((w.alloc (.cells (cl f) 23)).alloc (.cells (cl g) 23)).alloc (.cells (cl zf) 23))) := Lib.hid ((((Below.refl _ _).alloc (Nat.le_refl _) _).alloc (by simp) _).alloc (by simp; omega) _)
  have HFB : Hid (∀ i, i < 6 → -9 ≤ f i ∧ f i ≤ 9) := Lib.hid ((ok_iff f).1 hf)
  have HGB : Hid (∀ i, i < 6 → -9 ≤ g i ∧ g i ≤ 9) := Lib.hid ((ok_iff g).1 hg)
  have H1 := Lib.hid a1
  have H2 := Lib.hid a2
  have H3 := Lib.hid a3
  have HF := Lib.hid (infoDim f)
  have HGI := Lib.hid (infoDim g)
  have HI : Hid (∀ k : Nat, k < 6 → ∀ w, (Instr.index 23 (.agg (cl g)) (.int .i64 (k : Int))).run Tryz.prog w = .ok (.int .i64 (g k)) w) := fun k hk w => idx_at g k hk w
  clear a1 a2 a3 hf hg
  go_enter Tryz.func26, Tryz.ntmps26
  go_wp2_with (refine wpList_load_row rfl _ _ rfl _ rfl _ _ _ _ H1.out Tryz.underlying23 rfl HF.out ?_)
  refine (HR.out _).mono ?_
  rintro e w1 ⟨rfl, hb1⟩
  have G1 := Lib.hid (H1.out.below0 hb1)
  have G2 := Lib.hid (H2.out.below0 hb1)
  have G3 := Lib.hid (H3.out.below0 hb1)
  have HB1 := Lib.hid (HB.out.trans (hb1.mono HB.out.size))
  clear hb1 H1 H2 H3
  have c0 := G2.out.cell 0 (by omega)
  have c1 := G2.out.cell 1 (by omega)
  have c2 := G2.out.cell 2 (by omega)
  have c3 := G2.out.cell 3 (by omega)
  have c4 := G2.out.cell 4 (by omega)
  have c5 := G2.out.cell 5 (by omega)
  go_wp2_with fail
  clear c0 c1 c2 c3 c4 c5
  refine (HR2.out _).mono ?_
  rintro e w2 ⟨rfl, hb2⟩
  have K1 := Lib.hid (G1.out.below0 hb2)
  have K2 := Lib.hid (G2.out.below0 hb2)
  have K3 := Lib.hid (G3.out.below0 hb2)
  have HB2 := Lib.hid (HB1.out.trans (hb2.mono HB1.out.size))
  clear hb2 G1 G2 G3
  go_wp2_with (refine wpList_load_row rfl _ _ rfl _ rfl _ _ _ _ K2.out Tryz.underlying23 rfl HGI.out ?_)
  go_loopw [18] (fun i wr => ∃ k : Nat, k ≤ 6 ∧ i = .int .i64 k ∧ At wr w.heap.size (partF (sumF f g) f k) ∧ At wr (w.heap.size + 1 + 1) zf ∧ RowKit.Below w.heap.size w wr) (fun i _ => 6 - (RowKit.intOf i).toNat)
  case atStart => exact ⟨0, by omega, rfl, by rw [partF_0]; exact K1.out, K3.out, HB2.out⟩
  case round =>
    obtain ⟨k, hk, rfl, hA, hZ, hBl⟩ := hrel
    have HA := Lib.hid hA
    have HZ := Lib.hid hZ
    have HBl := Lib.hid hBl
    by_cases hlt : k < 6
    · have hcell := hA.cell k hlt
      have hfro := hA.froz k
      have hidx := HI.out k hlt
      have hia := ia_at w.heap.size k hlt
      have hlt2 : decide ((k : Int) < 6) = true := by simp; omega
      have hfb := HFB.out k hlt
      have hgb := HGB.out k hlt
      rw [partF_at] at hcell
      have HN : Hid (At (wr.setCell ⟨w.heap.size, k, none⟩ (.int .i64 (f k + g k))) w.heap.size (partF (sumF f g) f (k + 1))) := Lib.hid (by
        rw [← partF_up]; exact hA.set k hlt _)
      have HZ2 : Hid (At (wr.setCell ⟨w.heap.size, k, none⟩ (.int .i64 (f k + g k))) (w.heap.size + 1 + 1) zf) := Lib.hid (hZ.other (by omega) k _)
      have HB3 : Hid (RowKit.Below w.heap.size w (wr.setCell ⟨w.heap.size, k, none⟩ (.int .i64 (f k + g k)))) := Lib.hid (hBl.setCell (by simp) _)
      obtain ⟨x, hx⟩ : ∃ x, f k = x := ⟨_, rfl⟩
      obtain ⟨y, hy⟩ : ∃ y, g k = y := ⟨_, rfl⟩
      rw [hx] at hcell hfb HN HZ2 HB3
      rw [hy] at hidx hgb HN HZ2 HB3
      have hw : IntKind.i64.wrap (x + y) = x + y := IntWalk.i64_in _ (by omega)
      clear hx hy hA hZ hBl hfb hgb
      go_wp2_with fail
      go_roundw
      case rel => exact ⟨k + 1, by omega, by go_num, HN.out, HZ2.out, HB3.out⟩
      case measure => simp [RowKit.intOf]; omega
    · obtain rfl : k = 6 := by omega
      have hlt2 : decide (((6 : Nat) : Int) < 6) = false := by decide
      have HW := Lib.hid (HX.out _ (partF_all (sumF f g) f))
      have HPI := Lib.hid (infoDim (partF (sumF f g) f 6))
      have HVI := Lib.hid (infoDim (sumF f g))
      have HVO := Lib.hid (oneDim (sumF f g))
      have HZI := Lib.hid (infoDim zf)
      have HZO := Lib.hid (oneDim zf)
      clear hA hZ hBl
      obtain ⟨P, hP⟩ : ∃ P, partF (sumF f g) f 6 = P := ⟨_, rfl⟩
      have HQ := Lib.hid (rfl : inR (sumF f g) = inR (sumF f g))
      obtain ⟨V, hV⟩ : ∃ V, sumF f g = V := ⟨_, rfl⟩
      rw [hP] at HW HA HPI
      rw [hV] at HW HVI HVO
      conv at HQ => arg 1; rhs; rw [hV]
      clear hP
      unfold inR at HW
      by_cases hok : ok V = true
      · rw [if_pos hok] at HW
        have HV := HQ.out.trans (show inR V = DE V 0 by unfold inR; rw [if_pos hok])
        replace HV := Lib.hid HV
        clear hok
        unfold DE at HW
        go_wp2_with (refine wpList_load_row rfl _ _ rfl _ rfl _ _ _ _ HA.out Tryz.underlying23 rfl HPI.out ?_)
        refine (HW.out _).mono ?_
        rintro e w3 ⟨rfl, hb3⟩
        have H4 := Lib.hid (HZ.out.below0 hb3)
        have HB4 := Lib.hid (HBl.out.trans (hb3.mono HBl.out.size))
        clear hb3
        go_wp2_with (refine wpList_store_row rfl _ _ _ rfl _ _ rfl rfl _ _ H4.out HVI.out rfl HVO.out ?_)
        have H5 := Lib.hid (H4.out.row (g := V))
        refine bodyPost_ret (ret_cell rfl _ _ _ _ rfl H5.out) rfl ⟨by rw [HV.out]; rfl, below_row HB4.out (by omega) _⟩
      · rw [if_neg hok] at HW
        have HV := HQ.out.trans (show inR V = DE zf 3 by unfold inR; rw [if_neg hok])
        replace HV := Lib.hid HV
        clear hok
        unfold DE at HW
        go_wp2_with (refine wpList_load_row rfl _ _ rfl _ rfl _ _ _ _ HA.out Tryz.underlying23 rfl HPI.out ?_)
        refine (HW.out _).mono ?_
        rintro e w3 ⟨rfl, hb3⟩
        have H4 := Lib.hid (HZ.out.below0 hb3)
        have HB4 := Lib.hid (HBl.out.trans (hb3.mono HBl.out.size))
        clear hb3
        go_wp2_with (refine wpList_store_row rfl _ _ _ rfl _ _ rfl rfl _ _ H4.out HZI.out rfl HZO.out ?_)
        have H5 := Lib.hid (H4.out.row (g := zf))
        refine bodyPost_ret (ret_cell rfl _ _ _ _ rfl H5.out) rfl ⟨by rw [HV.out]; rfl, below_row HB4.out (by omega) _⟩

set_option maxHeartbeats 4000000 in
theorem div_good (f g : Nat → Int) (hf : ok f = true) (hg : ok g = true) (w : World) : Calls Tryz.prog 44 #[.agg (cl f), .agg (cl g)] w (Gives (inR (difF f g)) w) := by
  have HR := Lib.hid (fun w => rightG f w)
  have HR2 := Lib.hid (fun w => rightG g w)
  have HX : Hid (∀ h, (∀ i, i < 6 → h i = difF f g i) → ∀ w, Calls Tryz.prog 56 #[.agg (cl h)] w (Gives (inR (difF f g)) w)) := fun h e w => by
    rw [cl_eq e]; exact inRange_any _ w
  rw [hf] at HR
  rw [hg] at HR2
  have a1 : At (((w.alloc (.cells (cl f) 23)).alloc (.cells (cl g) 23)).alloc (.cells (cl zf) 23)) w.heap.size f := ((At.fresh w f).alloc _).alloc _
  have a2 : At (((w.alloc (.cells (cl f) 23)).alloc (.cells (cl g) 23)).alloc (.cells (cl zf) 23)) (w.heap.size + 1) g := by
    have := (At.fresh (w.alloc (.cells (cl f) 23)) g).alloc (.cells (cl zf) 23)
    simpa using this
  have a3 : At (((w.alloc (.cells (cl f) 23)).alloc (.cells (cl g) 23)).alloc (.cells (cl zf) 23)) (w.heap.size + 1 + 1) zf := by
    have := At.fresh ((w.alloc (.cells (cl f) 23)).alloc (.cells (cl g) 23)) zf
    simpa using this
  have HB : Hid (RowKit.Below w.heap.size w (((w.alloc (.cells (cl f) 23)).alloc (.cells (cl g) 23)).alloc (.cells (cl zf) 23))) := Lib.hid ((((Below.refl _ _).alloc (Nat.le_refl _) _).alloc (by simp) _).alloc (by simp; omega) _)
  have HFB : Hid (∀ i, i < 6 → -9 ≤ f i ∧ f i ≤ 9) := Lib.hid ((ok_iff f).1 hf)
  have HGB : Hid (∀ i, i < 6 → -9 ≤ g i ∧ g i ≤ 9) := Lib.hid ((ok_iff g).1 hg)
  have H1 := Lib.hid a1
  have H2 := Lib.hid a2
  have H3 := Lib.hid a3
  have HF := Lib.hid (infoDim f)
  have HGI := Lib.hid (infoDim g)
  have HI : Hid (∀ k : Nat, k < 6 → ∀ w, (Instr.index 23 (.agg (cl g)) (.int .i64 (k : Int))).run Tryz.prog w = .ok (.int .i64 (g k)) w) := fun k hk w => idx_at g k hk w
  clear a1 a2 a3 hf hg
  go_enter Tryz.func44, Tryz.ntmps44
  go_wp2_with (refine wpList_load_row rfl _ _ rfl _ rfl _ _ _ _ H1.out Tryz.underlying23 rfl HF.out ?_)
  refine (HR.out _).mono ?_
  rintro e w1 ⟨rfl, hb1⟩
  have G1 := Lib.hid (H1.out.below0 hb1)
  have G2 := Lib.hid (H2.out.below0 hb1)
  have G3 := Lib.hid (H3.out.below0 hb1)
  have HB1 := Lib.hid (HB.out.trans (hb1.mono HB.out.size))
  clear hb1 H1 H2 H3
  have c0 := G2.out.cell 0 (by omega)
  have c1 := G2.out.cell 1 (by omega)
  have c2 := G2.out.cell 2 (by omega)
  have c3 := G2.out.cell 3 (by omega)
  have c4 := G2.out.cell 4 (by omega)
  have c5 := G2.out.cell 5 (by omega)
  go_wp2_with fail
  clear c0 c1 c2 c3 c4 c5
  refine (HR2.out _).mono ?_
  rintro e w2 ⟨rfl, hb2⟩
  have K1 := Lib.hid (G1.out.below0 hb2)
  have K2 := Lib.hid (G2.out.below0 hb2)
  have K3 := Lib.hid (G3.out.below0 hb2)
  have HB2 := Lib.hid (HB1.out.trans (hb2.mono HB1.out.size))
  clear hb2 G1 G2 G3
  go_wp2_with (refine wpList_load_row rfl _ _ rfl _ rfl _ _ _ _ K2.out Tryz.underlying23 rfl HGI.out ?_)
  go_loopw [18] (fun i wr => ∃ k : Nat, k ≤ 6 ∧ i = .int .i64 k ∧ At wr w.heap.size (partF (difF f g) f k) ∧ At wr (w.heap.size + 1 + 1) zf ∧ RowKit.Below w.heap.size w wr) (fun i _ => 6 - (RowKit.intOf i).toNat)
  case atStart => exact ⟨0, by omega, rfl, by rw [partF_0]; exact K1.out, K3.out, HB2.out⟩
  case round =>
    obtain ⟨k, hk, rfl, hA, hZ, hBl⟩ := hrel
    have HA := Lib.hid hA
    have HZ := Lib.hid hZ
    have HBl := Lib.hid hBl
    by_cases hlt : k < 6
    · have hcell := hA.cell k hlt
      have hfro := hA.froz k
      have hidx := HI.out k hlt
      have hia := ia_at w.heap.size k hlt
      have hlt2 : decide ((k : Int) < 6) = true := by simp; omega
      have hfb := HFB.out k hlt
      have hgb := HGB.out k hlt
      rw [partF_at] at hcell
      have HN : Hid (At (wr.setCell ⟨w.heap.size, k, none⟩ (.int .i64 (f k - g k))) w.heap.size (partF (difF f g) f (k + 1))) := Lib.hid (by
        rw [← partF_up]; exact hA.set k hlt _)
      have HZ2 : Hid (At (wr.setCell ⟨w.heap.size, k, none⟩ (.int .i64 (f k - g k))) (w.heap.size + 1 + 1) zf) := Lib.hid (hZ.other (by omega) k _)
      have HB3 : Hid (RowKit.Below w.heap.size w (wr.setCell ⟨w.heap.size, k, none⟩ (.int .i64 (f k - g k)))) := Lib.hid (hBl.setCell (by simp) _)
      obtain ⟨x, hx⟩ : ∃ x, f k = x := ⟨_, rfl⟩
      obtain ⟨y, hy⟩ : ∃ y, g k = y := ⟨_, rfl⟩
      rw [hx] at hcell hfb HN HZ2 HB3
      rw [hy] at hidx hgb HN HZ2 HB3
      have hw : IntKind.i64.wrap (x - y) = x - y := IntWalk.i64_in _ (by omega)
      clear hx hy hA hZ hBl hfb hgb
      go_wp2_with fail
      go_roundw
      case rel => exact ⟨k + 1, by omega, by go_num, HN.out, HZ2.out, HB3.out⟩
      case measure => simp [RowKit.intOf]; omega
    · obtain rfl : k = 6 := by omega
      have hlt2 : decide (((6 : Nat) : Int) < 6) = false := by decide
      have HW := Lib.hid (HX.out _ (partF_all (difF f g) f))
      have HPI := Lib.hid (infoDim (partF (difF f g) f 6))
      have HVI := Lib.hid (infoDim (difF f g))
      have HVO := Lib.hid (oneDim (difF f g))
      have HZI := Lib.hid (infoDim zf)
      have HZO := Lib.hid (oneDim zf)
      clear hA hZ hBl
      obtain ⟨P, hP⟩ : ∃ P, partF (difF f g) f 6 = P := ⟨_, rfl⟩
      have HQ := Lib.hid (rfl : inR (difF f g) = inR (difF f g))
      obtain ⟨V, hV⟩ : ∃ V, difF f g = V := ⟨_, rfl⟩
      rw [hP] at HW HA HPI
      rw [hV] at HW HVI HVO
      conv at HQ => arg 1; rhs; rw [hV]
      clear hP
      unfold inR at HW
      by_cases hok : ok V = true
      · rw [if_pos hok] at HW
        have HV := HQ.out.trans (show inR V = DE V 0 by unfold inR; rw [if_pos hok])
        replace HV := Lib.hid HV
        clear hok
        unfold DE at HW
        go_wp2_with (refine wpList_load_row rfl _ _ rfl _ rfl _ _ _ _ HA.out Tryz.underlying23 rfl HPI.out ?_)
        refine (HW.out _).mono ?_
        rintro e w3 ⟨rfl, hb3⟩
        have H4 := Lib.hid (HZ.out.below0 hb3)
        have HB4 := Lib.hid (HBl.out.trans (hb3.mono HBl.out.size))
        clear hb3
        go_wp2_with (refine wpList_store_row rfl _ _ _ rfl _ _ rfl rfl _ _ H4.out HVI.out rfl HVO.out ?_)
        have H5 := Lib.hid (H4.out.row (g := V))
        refine bodyPost_ret (ret_cell rfl _ _ _ _ rfl H5.out) rfl ⟨by rw [HV.out]; rfl, below_row HB4.out (by omega) _⟩
      · rw [if_neg hok] at HW
        have HV := HQ.out.trans (show inR V = DE zf 3 by unfold inR; rw [if_neg hok])
        replace HV := Lib.hid HV
        clear hok
        unfold DE at HW
        go_wp2_with (refine wpList_load_row rfl _ _ rfl _ rfl _ _ _ _ HA.out Tryz.underlying23 rfl HPI.out ?_)
        refine (HW.out _).mono ?_
        rintro e w3 ⟨rfl, hb3⟩
        have H4 := Lib.hid (HZ.out.below0 hb3)
        have HB4 := Lib.hid (HBl.out.trans (hb3.mono HBl.out.size))
        clear hb3
        go_wp2_with (refine wpList_store_row rfl _ _ _ rfl _ _ rfl rfl _ _ H4.out HZI.out rfl HZO.out ?_)
        have H5 := Lib.hid (H4.out.row (g := zf))
        refine bodyPost_ret (ret_cell rfl _ _ _ _ rfl H5.out) rfl ⟨by rw [HV.out]; rfl, below_row HB4.out (by omega) _⟩
end Go.Proofs.YtmhdhabgdlefjaaGreatDoor.Dm
