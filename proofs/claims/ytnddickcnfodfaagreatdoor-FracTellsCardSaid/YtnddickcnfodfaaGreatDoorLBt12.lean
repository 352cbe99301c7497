/- kitbagref04: Gcd. -/
import Derived.Test.YtnddickcnfodfaaGreatDoorLBt11
set_option maxRecDepth 100000
namespace Go.Proofs.YtnddickcnfodfaaGreatDoor.Bi
open Go.RowKit

set_option maxHeartbeats 8000000 in
theorem rgcd_ok (va vb : Value) (a b : Int) (w : World) (ha : IsB w va a) (hb : IsB w vb b) (hla : (digs a.natAbs).length ≤ 500000) (hlb : (digs b.natAbs).length ≤ 500000) :
    Calls Tryz.prog 59 #[va, vb] w (Ans (Nat.gcd a.natAbs b.natAbs : Nat) 0 w) := by
  obtain ⟨sa, rfl, hia⟩ := id ha
  obtain ⟨sb, rfl, hib⟩ := id hb
  have HA := Lib.hid ha
  have HB := Lib.hid hb
  have HIA := Lib.hid hia
  have HIB := Lib.hid hib
  obtain ⟨aa, ca, rfl, _⟩ := hia.open
  obtain ⟨ab, cb, rfl, _⟩ := hib.open
  have HLA := Lib.hid hla
  have HLB := Lib.hid hlb
  obtain ⟨na, ena⟩ : ∃ n, (digs a.natAbs).length = n := ⟨_, rfl⟩
  obtain ⟨nb, enb⟩ : ∃ n, (digs b.natAbs).length = n := ⟨_, rfl⟩
  rw [ena] at HA HIA ⊢
  rw [enb] at HB HIB ⊢
  have hx := Bx.start w a.sign (.slice aa na ca) b.sign (.slice ab nb cb)
  have HX0 := Lib.hid hx
  obtain ⟨G, eG⟩ : ∃ G, Nat.gcd a.natAbs b.natAbs = G := ⟨_, rfl⟩
  have HG := Lib.hid eG
  rw [eG]
  clear ha hb hia hib hx ena enb hla hlb eG
  go_enter Tryz.func59, Tryz.ntmps59
  go_wp2_with fail
  refine (risb_any (HA.out.later HX0.out.below)).mono ?_
  rintro e w1 ⟨rfl, hb1⟩
  have HX1 := Lib.hid (HX0.out.later hb1)
  obtain ⟨c00, c01, c10, c11⟩ := HX1.out.cells
  clear hb1
  go_wp2_with fail
  refine (risb_any (HB.out.later HX1.out.below)).mono ?_
  rintro e w2 ⟨rfl, hb2⟩
  have HX2 := Lib.hid (HX1.out.later hb2)
  obtain ⟨d00, d01, d10, d11⟩ := HX2.out.cells
  clear hb2 c00 c01 c10 c11
  go_wp2_with fail
  clear d00 d01 d10 d11
  go_loopw [6, 7] (fun x y wr => ∃ X Y : Nat, Ints wr x (digs X) ∧ Ints wr y (digs Y) ∧ Nat.gcd X Y = G ∧ (digs X).length ≤ 500000 ∧ (digs Y).length ≤ 500000 ∧ Bx w a.sign (.slice aa na ca) b.sign (.slice ab nb cb) wr) (fun _ y wr => numOf y wr)
  case atStart => exact ⟨a.natAbs, b.natAbs, HIA.out.later HX2.out.below, HIB.out.later HX2.out.below, HG.out, HLA.out, HLB.out, HX2.out⟩
  case round =>
    obtain ⟨X, Y, hX, hY, hg, hlX, hlY, hB⟩ := hrel
    have hnum := numOf_eq hY
    obtain ⟨ax, cx, rfl, hX2⟩ := hX.open
    obtain ⟨ay, cy, rfl, hY2⟩ := hY.open
    have HX := Lib.hid hX2
    have HY := Lib.hid hY2
    have HGG := Lib.hid hg
    have HLEN := Lib.hid hlX
    have HLEM := Lib.hid hlY
    have HBX := Lib.hid hB
    have HNUM := Lib.hid hnum
    clear hX hY hX2 hY2 hg hlX hlY hB hnum
    by_cases hy0 : 0 < Y
    · have hcall := rover_n _ _ X Y wr HX.out HY.out (Nat.le_trans HLEN.out (by decide)) (Nat.le_trans HLEM.out (by decide)) hy0
      have hpos := digs_pos_len hy0
      have hmod := Nat.mod_lt X hy0
      have HMOD := Lib.hid hmod
      have HL2 : Hid ((digs (X % Y)).length ≤ 500000) := Nat.le_trans (digs_mono (Nat.le_of_lt hmod)) HLEM.out
      have HCALL := Lib.hid hcall
      obtain ⟨lx, elx⟩ : ∃ l, (digs X).length = l := ⟨_, rfl⟩
      obtain ⟨ly, ely⟩ : ∃ l, (digs Y).length = l := ⟨_, rfl⟩
      rw [elx] at HX HCALL ⊢
      rw [ely] at HY HCALL HNUM hpos ⊢
      have HEY := Lib.hid ely
      clear hcall hmod hy0 elx ely
      go_wp2_with fail
      refine HCALL.out.mono ?_
      rintro e w6 ⟨vq, vr, rfl, hoq, hor, hb6, _, _⟩
      obtain ⟨aq, cq, rfl⟩ := hoq.fit
      obtain ⟨ar, cr, rfl⟩ := hor.fit
      have hir := hor.ints (Nat.le_trans HL2.out (by decide))
      have hm := numOf_eq hir
      have HF : Hid (∃ X1 Y1 : Nat, Ints w6 (.slice ay ly cy) (digs X1) ∧ Ints w6 (.slice ar (digs (X % Y)).length cr) (digs Y1) ∧ Nat.gcd X1 Y1 = G ∧ (digs X1).length ≤ 500000 ∧ (digs Y1).length ≤ 500000 ∧ Bx w a.sign (.slice aa na ca) b.sign (.slice ab nb cb) w6) :=
        ⟨Y, X % Y, HY.out.later hb6, hir, by rw [← HGG.out, Nat.gcd_comm Y, ← Nat.gcd_rec, Nat.gcd_comm], HLEM.out, HL2.out, HBX.out.later hb6⟩
      have HM := Lib.hid hm
      obtain ⟨lq, elq⟩ : ∃ l, (digs (X / Y)).length = l := ⟨_, rfl⟩
      obtain ⟨lr, elr⟩ : ∃ l, (digs (X % Y)).length = l := ⟨_, rfl⟩
      rw [elr] at HF HM
      rw [elq, elr]
      clear hoq hor hb6 hir hm elq elr
      go_wp2_with fail
      go_roundw
      case rel => exact HF.out
      case measure =>
        show numOf (.slice ar lr cr) w6 < numOf (.slice ay ly cy) wr
        rw [HM.out, HNUM.out]; exact HMOD.out
    · obtain rfl : Y = 0 := by omega
      have hXG : X = G := by
        have h := HGG.out
        rw [Nat.gcd_zero_right] at h; exact h
      subst hXG
      rw [show (digs 0).length = 0 by rw [digs_zero]; rfl]
      have hm := fun W h => rmade_n 1 ax cx X (X : Int) (by simp) (fun hne => by rw [Int.sign_eq_one_of_pos (by omega)]) W h (Nat.le_trans HLEN.out (by decide))
      have HM := Lib.hid hm
      obtain ⟨lx, elx⟩ : ∃ l, (digs X).length = l := ⟨_, rfl⟩
      rw [elx] at HM HX ⊢
      clear hm elx
      go_wp2_with fail
      refine (HM.out _ HX.out).mono ?_
      rintro e w7 ⟨s7, rfl, hi7, hb7, ho7⟩
      obtain ⟨a7, c7, rfl, hj7⟩ := hi7.open
      have HO7 := Lib.hid ho7
      have HX7 := Lib.hid (HBX.out.later hb7)
      have HI7 := Lib.hid hj7
      clear hi7 hj7 hb7 ho7
      obtain ⟨r0, r1, f0, f1⟩ := HX7.out.rcells
      obtain ⟨sg, esg⟩ : ∃ sg, (X : Int).sign = sg := ⟨_, rfl⟩
      obtain ⟨lg, elg⟩ : ∃ lg, (digs (X : Int).natAbs).length = lg := ⟨_, rfl⟩
      rw [elg] at HI7 HO7
      rw [esg, elg]
      have HSG := Lib.hid esg
      clear esg elg
      go_wp2_with fail
      have hoff := HO7.out (w.heap.size + 1 + 1) HBX.out.size
      exact bodyPost_ret (v := .tuple #[.agg #[.int .i64 sg, .slice a7 lg c7], .int .i64 0]) (by simp [results, Tryz.results59, go_sem, r0, r1]) rfl
        ⟨_, by rw [HSG.out], (HI7.out.set hoff 0 _).set hoff 1 _, HX7.out.put _ _, fun g hg => HO7.out g (by have := HBX.out.size; omega)⟩
end Go.Proofs.YtnddickcnfodfaaGreatDoor.Bi
