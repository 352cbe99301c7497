/- The contract of the reference of dim: Div. -/
import Derived.Deep.RegionHeld3
import Derived.Deep.CutRange
import Derived.Deep.CutBlock
import Derived.Test.YtmhdhabgdlefjaaGreatDoorPTells22
set_option maxRecDepth 100000
namespace Go.Proofs.YtmhdhabgdlefjaaGreatDoor.Dm
open Go.RowKit

theorem mulR_DE8 (f g : Nat → Int) : ∃ X k, mulR f g = DE X k := by
  unfold mulR inR
  split
  · split
    · exact ⟨_, _, rfl⟩
    · exact ⟨_, _, rfl⟩
  · exact ⟨_, _, rfl⟩
/-- The boxes of the reference's Div, and what is below. -/
def Dv (w : World) (f g : Nat → Int) (W : World) : Prop := At W w.heap.size f ∧ At W (w.heap.size + 1) g ∧ At W (w.heap.size + 1 + 1) zf ∧ RowKit.Below w.heap.size w W
theorem Dv.later {w W W' : World} {f g : Nat → Int} (h : Dv w f g W) (hb : RowKit.Below W.heap.size W W') : Dv w f g W' :=
  ⟨h.1.below0 hb, h.2.1.below0 hb, h.2.2.1.below0 hb, h.2.2.2.trans (hb.mono h.2.2.2.size)⟩
theorem Dv.cells {w W : World} {f g : Nat → Int} (h : Dv w f g W) : W.cell? ⟨w.heap.size, 0, none⟩ = some (.int .i64 (f 0)) ∧ W.cell? ⟨w.heap.size, 1, none⟩ = some (.int .i64 (f 1)) ∧ W.cell? ⟨w.heap.size, 2, none⟩ = some (.int .i64 (f 2)) ∧ W.cell? ⟨w.heap.size, 3, none⟩ = some (.int .i64 (f 3)) ∧ W.cell? ⟨w.heap.size, 4, none⟩ = some (.int .i64 (f 4)) ∧ W.cell? ⟨w.heap.size, 5, none⟩ = some (.int .i64 (f 5)) ∧ W.cell? ⟨w.heap.size + 1, 0, none⟩ = some (.int .i64 (g 0)) ∧ W.cell? ⟨w.heap.size + 1, 1, none⟩ = some (.int .i64 (g 1)) ∧ W.cell? ⟨w.heap.size + 1, 2, none⟩ = some (.int .i64 (g 2)) ∧ W.cell? ⟨w.heap.size + 1, 3, none⟩ = some (.int .i64 (g 3)) ∧ W.cell? ⟨w.heap.size + 1, 4, none⟩ = some (.int .i64 (g 4)) ∧ W.cell? ⟨w.heap.size + 1, 5, none⟩ = some (.int .i64 (g 5)) :=
  ⟨h.1.cell 0 (by omega), h.1.cell 1 (by omega), h.1.cell 2 (by omega), h.1.cell 3 (by omega), h.1.cell 4 (by omega), h.1.cell 5 (by omega), h.2.1.cell 0 (by omega), h.2.1.cell 1 (by omega), h.2.1.cell 2 (by omega), h.2.1.cell 3 (by omega), h.2.1.cell 4 (by omega), h.2.1.cell 5 (by omega)⟩
theorem At.zc {w : World} {b : Nat} (h : At w b zf) : w.cell? ⟨b, 0, none⟩ = some (.int .i64 0) ∧ w.cell? ⟨b, 1, none⟩ = some (.int .i64 0) ∧ w.cell? ⟨b, 2, none⟩ = some (.int .i64 0) ∧ w.cell? ⟨b, 3, none⟩ = some (.int .i64 0) ∧ w.cell? ⟨b, 4, none⟩ = some (.int .i64 0) ∧ w.cell? ⟨b, 5, none⟩ = some (.int .i64 0) ∧ w.frozen? ⟨b, 0, none⟩ = false ∧ w.frozen? ⟨b, 1, none⟩ = false ∧ w.frozen? ⟨b, 2, none⟩ = false ∧ w.frozen? ⟨b, 3, none⟩ = false ∧ w.frozen? ⟨b, 4, none⟩ = false ∧ w.frozen? ⟨b, 5, none⟩ = false :=
  ⟨h.cell 0 (by omega), h.cell 1 (by omega), h.cell 2 (by omega), h.cell 3 (by omega), h.cell 4 (by omega), h.cell 5 (by omega), h.froz 0, h.froz 1, h.froz 2, h.froz 3, h.froz 4, h.froz 5⟩
theorem At.six {w : World} {b : Nat} {h V : Nat → Int} (ha : At w b h) : At ((((((w.setCell ⟨b, 0, none⟩ (.int .i64 (V 0))).setCell ⟨b, 1, none⟩ (.int .i64 (V 1))).setCell ⟨b, 2, none⟩ (.int .i64 (V 2))).setCell ⟨b, 3, none⟩ (.int .i64 (V 3))).setCell ⟨b, 4, none⟩ (.int .i64 (V 4))).setCell ⟨b, 5, none⟩ (.int .i64 (V 5))) b V :=
  ((((((ha.set 0 (by omega) _).set 1 (by omega) _).set 2 (by omega) _).set 3 (by omega) _).set 4 (by omega) _).set 5 (by omega) _).eq (fun i hi => by
    rcases lt6 hi with rfl | rfl | rfl | rfl | rfl | rfl <;> rfl)
theorem At.sixo {w : World} {b b' : Nat} {h V : Nat → Int} (ha : At w b h) (hne : b ≠ b') : At ((((((w.setCell ⟨b', 0, none⟩ (.int .i64 (V 0))).setCell ⟨b', 1, none⟩ (.int .i64 (V 1))).setCell ⟨b', 2, none⟩ (.int .i64 (V 2))).setCell ⟨b', 3, none⟩ (.int .i64 (V 3))).setCell ⟨b', 4, none⟩ (.int .i64 (V 4))).setCell ⟨b', 5, none⟩ (.int .i64 (V 5))) b h :=
  (((((ha.other hne 0 _).other hne 1 _).other hne 2 _).other hne 3 _).other hne 4 _).other hne 5 _
theorem Dv.six {w W : World} {f g V : Nat → Int} {b : Nat} (h : Dv w f g W) (hb : w.heap.size + 1 + 1 < b) : Dv w f g ((((((W.setCell ⟨b, 0, none⟩ (.int .i64 (V 0))).setCell ⟨b, 1, none⟩ (.int .i64 (V 1))).setCell ⟨b, 2, none⟩ (.int .i64 (V 2))).setCell ⟨b, 3, none⟩ (.int .i64 (V 3))).setCell ⟨b, 4, none⟩ (.int .i64 (V 4))).setCell ⟨b, 5, none⟩ (.int .i64 (V 5))) :=
  ⟨h.1.sixo (by omega), h.2.1.sixo (by omega), h.2.2.1.sixo (by omega), (((((h.2.2.2.setCell (by simp; omega) _).setCell (by simp; omega) _).setCell (by simp; omega) _).setCell (by simp; omega) _).setCell (by simp; omega) _).setCell (by simp; omega) _⟩
theorem drew_below (W : World) : RowKit.Below W.heap.size W W.drew := ⟨rfl, rfl, rfl, Nat.le_refl _, fun _ _ => rfl⟩

set_option maxHeartbeats 4000000 in
theorem r8div_good (f g : Nat → Int) (hg : ok g = true) (w : World) : Calls Tryz.prog 46 #[.agg (cl f), .agg (cl g)] w (Gives (mulR f (invF g)) w) := by
  obtain ⟨V, k, hV⟩ := mulR_DE8 f (invF g)
  rw [hV]
  have HR := Lib.hid (fun w => r8right_any g w)
  rw [hg] at HR
  have HI := Lib.hid (fun w => r8inv_any g hg w)
  have HM : Hid (∀ w, Calls Tryz.prog 43 #[.agg (cl f), .agg (cl (invF g))] w (Gives (DE V k) w)) := Lib.hid (fun w => by have := r8mul_any f (invF g) w; rwa [hV] at this)
  obtain ⟨a1, a2, a3, hB⟩ := three_at f g w
  have H0 : Hid (Dv w f g (((w.alloc (.cells (cl f) 23)).alloc (.cells (cl g) 23)).alloc (.cells (cl zf) 23))) := Lib.hid ⟨a1, a2, a3, hB⟩
  have HG := Lib.hid (infoDim g)
  have HVI := Lib.hid (infoDim V)
  have HVO := Lib.hid (oneDim V)
  clear a1 a2 a3 hB hg hV
  unfold DE at HM ⊢
  go_enter Tryz.func46, Tryz.ntmps46
  go_wp2_with (refine wpList_load_row rfl _ _ rfl _ rfl _ _ _ _ H0.out.2.1 Tryz.underlying23 rfl HG.out ?_)
  refine (HR.out _).mono ?_
  rintro e w1 ⟨rfl, hb1⟩
  have H1 := Lib.hid (H0.out.later hb1)
  clear hb1 H0 HR
  go_wp2_with fail
  have HV6 : Hid (cl V = #[.int .i64 (V 0), .int .i64 (V 1), .int .i64 (V 2), .int .i64 (V 3), .int .i64 (V 4), .int .i64 (V 5)]) := Lib.hid rfl
  unfold cl at HI HM
  go_cut [6, 7] from 12 to 18 (fun u v wx => v = .int .i64 k ∧ Hid (∃ b, u = .pointer (some ⟨b, 0, none⟩) ∧ At wx b V ∧ Dv w f g wx))
  case first =>
    have SD := Lib.hid (H1.out.later (drew_below w1))
    have SZ := Lib.hid ((H1.out.later (below_alloc w1 (.cells #[.int .i64 0, .int .i64 0, .int .i64 0, .int .i64 0, .int .i64 0, .int .i64 0] 23))).later (drew_below _))
    have K0 : ∀ W, Dv w f g W → W.cell? ⟨w.heap.size, 0, none⟩ = some (.int .i64 (f 0)) ∧ W.cell? ⟨w.heap.size, 1, none⟩ = some (.int .i64 (f 1)) ∧ W.cell? ⟨w.heap.size, 2, none⟩ = some (.int .i64 (f 2)) ∧ W.cell? ⟨w.heap.size, 3, none⟩ = some (.int .i64 (f 3)) ∧ W.cell? ⟨w.heap.size, 4, none⟩ = some (.int .i64 (f 4)) ∧ W.cell? ⟨w.heap.size, 5, none⟩ = some (.int .i64 (f 5)) ∧ W.cell? ⟨w.heap.size + 1, 0, none⟩ = some (.int .i64 (g 0)) ∧ W.cell? ⟨w.heap.size + 1, 1, none⟩ = some (.int .i64 (g 1)) ∧ W.cell? ⟨w.heap.size + 1, 2, none⟩ = some (.int .i64 (g 2)) ∧ W.cell? ⟨w.heap.size + 1, 3, none⟩ = some (.int .i64 (g 3)) ∧ W.cell? ⟨w.heap.size + 1, 4, none⟩ = some (.int .i64 (g 4)) ∧ W.cell? ⟨w.heap.size + 1, 5, none⟩ = some (.int .i64 (g 5)) := fun W h => h.cells
    have KK := Lib.hid K0
    clear K0
    have ex := KK.out _ SD.out
    have ez := KK.out _ SZ.out
    go_region_held3 (fun W => W.cell? ⟨w.heap.size, 0, none⟩ = some (.int .i64 (f 0)) ∧ W.cell? ⟨w.heap.size, 1, none⟩ = some (.int .i64 (f 1)) ∧ W.cell? ⟨w.heap.size, 2, none⟩ = some (.int .i64 (f 2)) ∧ W.cell? ⟨w.heap.size, 3, none⟩ = some (.int .i64 (f 3)) ∧ W.cell? ⟨w.heap.size, 4, none⟩ = some (.int .i64 (f 4)) ∧ W.cell? ⟨w.heap.size, 5, none⟩ = some (.int .i64 (f 5)) ∧ W.cell? ⟨w.heap.size + 1, 0, none⟩ = some (.int .i64 (g 0)) ∧ W.cell? ⟨w.heap.size + 1, 1, none⟩ = some (.int .i64 (g 1)) ∧ W.cell? ⟨w.heap.size + 1, 2, none⟩ = some (.int .i64 (g 2)) ∧ W.cell? ⟨w.heap.size + 1, 3, none⟩ = some (.int .i64 (g 3)) ∧ W.cell? ⟨w.heap.size + 1, 4, none⟩ = some (.int .i64 (g 4)) ∧ W.cell? ⟨w.heap.size + 1, 5, none⟩ = some (.int .i64 (g 5)))
      (first | (with_reducible exact ex) | (with_reducible exact ez) | (with_reducible exact xa) | (with_reducible exact xb) | (with_reducible exact xaz) | (with_reducible exact xc) | (with_reducible exact xcz) | (with_reducible exact xd) | (with_reducible exact xe) | (with_reducible exact xcs) | (with_reducible exact xes) | (with_reducible exact xds) | go_keep)
      (first
        | (go_at_call 72; (with_reducible refine (HI.out w1.drew).mono ?_); rintro e wa ⟨rfl, hb⟩; have SA := Lib.hid (SD.out.later hb); have xa := KK.out _ SA.out; have SAZ := Lib.hid (SA.out.later (below_alloc wa (.cells #[.int .i64 0, .int .i64 0, .int .i64 0, .int .i64 0, .int .i64 0, .int .i64 0] 23))); have xaz := KK.out _ SAZ.out; clear hb)
        | (go_at_call 72; (refine (HI.out _).mono ?_); rintro e wb ⟨rfl, hb⟩; have SB := Lib.hid (SZ.out.later hb); have xb := KK.out _ SB.out; have AB := Lib.hid ((At.below0 (z6_at w1) (drew_below _)).below0 hb); clear hb)
        | (go_at_call 43; (with_reducible refine (HM.out wa).mono ?_); rintro e wc ⟨rfl, hb⟩; have SC := Lib.hid (SA.out.later hb); have xc := KK.out _ SC.out; have SCZ := Lib.hid (SC.out.later (below_alloc wc (.cells #[.int .i64 0, .int .i64 0, .int .i64 0, .int .i64 0, .int .i64 0, .int .i64 0] 23))); have xcz := KK.out _ SCZ.out; have AC := Lib.hid (z6_at wc); have TC := Lib.hid (SCZ.out.six (V := V) (b := wc.heap.size) SC.out.2.2.1.lt); have xcs := KK.out _ TC.out; clear hb)
        | (go_at_call 43; (with_reducible refine (HM.out wb).mono ?_); rintro e we ⟨rfl, hb⟩; have SE := Lib.hid (SB.out.later hb); have xe := KK.out _ SE.out; have AE := Lib.hid (AB.out.below0 hb); have TE := Lib.hid (SE.out.six (V := V) (b := w1.heap.size) H1.out.2.2.1.lt); have xes := KK.out _ TE.out; obtain ⟨z0, z1, z2, z3, z4, z5, y0, y1, y2, y3, y4, y5⟩ := (AE.out).zc; clear hb)
        | (go_at_call 43; (refine (HM.out _).mono ?_); rintro e wd ⟨rfl, hb⟩; have SF := Lib.hid (SAZ.out.later hb); have xd := KK.out _ SF.out; have AD := Lib.hid ((z6_at wa).below0 hb); have TD := Lib.hid (SF.out.six (V := V) (b := wa.heap.size) SA.out.2.2.1.lt); have xds := KK.out _ TD.out; obtain ⟨z0, z1, z2, z3, z4, z5, y0, y1, y2, y3, y4, y5⟩ := (AD.out).zc; clear hb))
    all_goals (go_wp2_with fail; go_meet; refine ⟨rfl, ?_⟩; first | exact ⟨_, rfl, At.fresh wc V, SC.out.later (below_alloc wc _)⟩ | exact ⟨_, rfl, At.six (V := V) AE.out, TE.out⟩ | exact ⟨_, rfl, At.six (V := V) AD.out, TD.out⟩)
  case rest =>
    obtain ⟨rfl, hq⟩ := hcut
    obtain ⟨b6, rfl, ha, hd⟩ := hq.out
    have HA := Lib.hid ha
    have HD := Lib.hid hd
    have H5 := Lib.hid (hd.2.2.1.row (g := V))
    clear ha hd hq
    go_wp2_with (first | refine wpList_load_row rfl _ _ rfl _ rfl _ _ _ _ HA.out Tryz.underlying23 rfl HVI.out ?_ | refine wpList_store_row rfl _ _ _ rfl _ _ rfl rfl _ _ HD.out.2.2.1 HVI.out rfl HVO.out ?_)
    refine bodyPost_ret (ret_cell rfl _ _ _ _ rfl H5.out) rfl ⟨rfl, below_row HD.out.2.2.2 (by omega) _⟩

set_option maxHeartbeats 4000000 in
theorem r8div_bad (f g : Nat → Int) (hg : ok g = false) (w : World) : Calls Tryz.prog 46 #[.agg (cl f), .agg (cl g)] w (Gives (DE zf 1) w) := by
  have HR := Lib.hid (fun w => r8right_any g w)
  rw [hg] at HR
  obtain ⟨a1, a2, a3, hB⟩ := three_at f g w
  have H0 : Hid (Dv w f g (((w.alloc (.cells (cl f) 23)).alloc (.cells (cl g) 23)).alloc (.cells (cl zf) 23))) := Lib.hid ⟨a1, a2, a3, hB⟩
  have HG := Lib.hid (infoDim g)
  have HZI := Lib.hid (infoDim zf)
  have HZO := Lib.hid (oneDim zf)
  have hbd := build0
  clear a1 a2 a3 hB hg
  go_enter Tryz.func46, Tryz.ntmps46
  go_wp2_with (refine wpList_load_row rfl _ _ rfl _ rfl _ _ _ _ H0.out.2.1 Tryz.underlying23 rfl HG.out ?_)
  refine (HR.out _).mono ?_
  rintro e w1 ⟨rfl, hb1⟩
  have H1 := Lib.hid (H0.out.later hb1)
  clear hb1 H0 HR
  go_wp2_with (first | refine wpList_store_row rfl _ _ _ rfl _ (cl zf) rfl rfl _ _ H1.out.2.2.1 HZI.out rfl HZO.out ?_)
  have H5 := Lib.hid (H1.out.2.2.1.row (g := zf))
  refine bodyPost_ret (ret_cell rfl _ _ _ _ rfl H5.out) rfl ⟨rfl, below_row H1.out.2.2.2 (by omega) _⟩
theorem r8div_any (f g : Nat → Int) (w : World) : Calls Tryz.prog 46 #[.agg (cl f), .agg (cl g)] w (Gives (divR f g) w) := by
  rcases hg : ok g with _ | _
  · have e : divR f g = DE zf 1 := by unfold divR; rw [hg, Bool.and_false]; rfl
    rw [e]; exact r8div_bad f g hg w
  · have hi : ok (invF g) = true := by
      rw [ok_iff] at hg ⊢
      intro i hi
      have := hg i hi
      unfold invF; omega
    have e : divR f g = mulR f (invF g) := by
      unfold divR mulR
      rw [hg, hi]
      rw [inR_eq (f := difF f g) (g := sumF f (invF g)) (fun i _ => by unfold difF sumF invF; omega)]
    rw [e]; exact r8div_good f g hg w
end Go.Proofs.YtmhdhabgdlefjaaGreatDoor.Dm
