/- kitbagref04: Div. WRITTEN by big/gen_rdiv.py. -/
import Derived.Test.YtnddickcnfodfaaGreatDoorLBt10
set_option maxRecDepth 100000
namespace Go.Proofs.YtnddickcnfodfaaGreatDoor.Bi
open Go.RowKit

theorem digs_one : digs 1 = [1] := by rw [digs_pos (by decide), show 1 / 1048576 = 0 from rfl, digs_zero]; rfl
theorem rsg_plain {a b : Int} {r0 : Nat} (hb : b ≠ 0) (h0 : a = 0 → r0 = 0) (h : 0 ≤ a.sign * b.sign ∨ r0 = 0) : a.sign = b.sign ∨ (r0 : Int) = 0 := by
  rcases h with h | h
  · rcases sgn_is a with ⟨k, k'⟩ | ⟨k, k'⟩ | ⟨k, k'⟩ <;> rcases sgn_is b with ⟨l, l'⟩ | ⟨l, l'⟩ | ⟨l, l'⟩ <;> rw [k', l'] at h <;> first | (exfalso; omega) | exact .inl (k'.trans l'.symm) | exact .inr (by have := h0 (by omega); omega)
  · exact .inr (by omega)
theorem ints_digs1 (W : World) : Ints ((W.alloc (.cells #[.int .i64 1] 3)).drew) (.slice (some ⟨W.heap.size, 0, none⟩) 1 1) (digs 1) := by rw [digs_one]; exact ints_one W 1

set_option maxHeartbeats 4000000 in
theorem rdiv_zero (va vb : Value) (a b : Int) (w : World) (ha : IsB w va a) (hb : IsB w vb b) (_hla : (digs a.natAbs).length ≤ 500000) (_hlb : (digs b.natAbs).length ≤ 500000) (h0 : b = 0) :
    Calls Tryz.prog 60 #[va, vb] w (AnsD 0 0 15 w) := by
  obtain ⟨sa, rfl, hia⟩ := id ha
  obtain ⟨sb, rfl, hib⟩ := id hb
  have HA := Lib.hid ha
  have HB := Lib.hid hb
  have HIA := Lib.hid hia
  have HIB := Lib.hid hib
  obtain ⟨aa, ca, rfl, _⟩ := hia.open
  obtain ⟨ab, cb, rfl, _⟩ := hib.open
  obtain ⟨na, ena⟩ : ∃ n, (digs a.natAbs).length = n := ⟨_, rfl⟩
  obtain ⟨nb, enb⟩ : ∃ n, (digs b.natAbs).length = n := ⟨_, rfl⟩
  rw [ena] at HA HIA ⊢
  rw [enb] at HB HIB ⊢
  have HZ : Hid ((b.sign == 0) = true) := by unfold Hid; subst h0; rfl
  have hx := Bx2.start w a.sign (.slice aa na ca) b.sign (.slice ab nb cb)
  have HX0 := Lib.hid hx
  clear ha hb hia hib hx ena enb h0
  go_enter Tryz.func60, Tryz.ntmps60
  go_wp2_with fail
  refine (risb_any (HA.out.later HX0.out.below)).mono ?_
  rintro e w1 ⟨rfl, hb1⟩
  have HX1 := Lib.hid (HX0.out.later hb1)
  obtain ⟨c00, c01, c10, c11⟩ := HX1.out.cells
  clear hb1
  go_wp2_with fail
  refine (risb_any (HB.out.later HX1.out.below)).mono ?_
  rintro e w2 ⟨rfl, hb2⟩
  have HX2 := Lib.hid (HX1.out.later hb2)
  obtain ⟨d00, d01, d10, d11⟩ := HX2.out.cells
  clear hb2 c00 c01 c10 c11
  have hz := HZ.out
  obtain ⟨⟨r0', r1, f0, f1⟩, t0, t1, g0, g1⟩ := HX2.out.rcells
  go_wp2_with fail
  exact bodyPost_ret (v := .tuple #[.agg #[.int .i64 0, .slice none 0 0], .agg #[.int .i64 0, .slice none 0 0], .int .i64 15]) (by simp [results, Tryz.results60, go_sem, r0', r1, t0, t1]) rfl
    (AnsD.zero ((((HX2.out.below.setCell (by simp; omega) _).setCell (by simp; omega) _).setCell (by simp; omega) _).setCell (by simp; omega) _))

set_option maxHeartbeats 4000000 in
theorem rdiv_plain (va vb : Value) (a b : Int) (w : World) (ha : IsB w va a) (hb : IsB w vb b) (hla : (digs a.natAbs).length ≤ 500000) (hlb : (digs b.natAbs).length ≤ 500000) (h0 : b ≠ 0) (hc : 0 ≤ a.sign * b.sign) :
    Calls Tryz.prog 60 #[va, vb] w (AnsD (a.fdiv b) (a.fmod b) 0 w) := by
  obtain ⟨sa, rfl, hia⟩ := id ha
  obtain ⟨sb, rfl, hib⟩ := id hb
  have HA := Lib.hid ha
  have HB := Lib.hid hb
  have HIA := Lib.hid hia
  have HIB := Lib.hid hib
  obtain ⟨aa, ca, rfl, _⟩ := hia.open
  obtain ⟨ab, cb, rfl, _⟩ := hib.open
  obtain ⟨na, ena⟩ : ∃ n, (digs a.natAbs).length = n := ⟨_, rfl⟩
  obtain ⟨nb, enb⟩ : ∃ n, (digs b.natAbs).length = n := ⟨_, rfl⟩
  rw [ena] at HA HIA ⊢
  rw [enb] at HB HIB ⊢
  have hm : (a.natAbs : Int) = (b.natAbs : Int) * ((a.natAbs / b.natAbs : Nat) : Int) + ((a.natAbs % b.natAbs : Nat) : Int) := by exact_mod_cast (Nat.div_add_mod a.natAbs b.natAbs).symm
  have hm1 : a.natAbs % b.natAbs < b.natAbs := Nat.mod_lt _ (by omega)
  have hlq : a.natAbs / b.natAbs ≤ a.natAbs := Nat.div_le_self _ _
  have hcc := rsg_plain (a := a) (b := b) (r0 := a.natAbs % b.natAbs) h0 (by rintro rfl; simp) (.inl hc)
  have hF := fl_plain h0 hm (Int.natCast_nonneg _) (Int.ofNat_lt.2 hm1) (Int.natCast_nonneg _) hcc
  have HZ : Hid ((b.sign == 0) = false) := by unfold Hid; simpa using h0
  have hsp := sign_bd a b
  obtain ⟨q, eq⟩ : ∃ q, a.fdiv b = q := ⟨_, rfl⟩
  obtain ⟨r, er⟩ : ∃ r, a.fmod b = r := ⟨_, rfl⟩
  have HDV : Hid (∀ W, Ints W (.slice aa na ca) (digs a.natAbs) → Ints W (.slice ab nb cb) (digs b.natAbs) → Calls Tryz.prog 90 #[.slice aa na ca, .slice ab nb cb] W (OverN a.natAbs b.natAbs W)) :=
    fun W h1 h2 => rover_n _ _ _ _ W h1 h2 (by omega) (by omega) (by omega)
  obtain ⟨q0, eq0⟩ : ∃ q0, a.natAbs / b.natAbs = q0 := ⟨_, rfl⟩
  obtain ⟨r0, er0⟩ : ∃ r0, a.natAbs % b.natAbs = r0 := ⟨_, rfl⟩
  rw [eq, er] at hF ⊢
  rw [eq0, er0] at hF
  rw [er0] at hm1
  rw [eq0] at hlq
  have HOV : Hid (∀ W e w', OverN a.natAbs b.natAbs W e w' → ∃ aq cq ar cr, e = .returned (.tuple #[.slice aq (digs q0).length cq, .slice ar (digs r0).length cr]) ∧ Ints w' (.slice aq (digs q0).length cq) (digs q0) ∧ Ints w' (.slice ar (digs r0).length cr) (digs r0) ∧ RowKit.Below W.heap.size W w') := by
    rintro W e w' ⟨vq, vr, h1, h2, h3, h4, _, _⟩
    rw [eq0] at h2
    rw [er0] at h3
    obtain ⟨aq, cq, rfl⟩ := h2.fit
    obtain ⟨ar, cr, rfl⟩ := h3.fit
    have k1 := digs_mono hlq
    have k2 := digs_mono (Nat.le_of_lt hm1)
    exact ⟨aq, cq, ar, cr, h1, h2.ints (by omega), h3.ints (by omega), h4⟩
  have HLQ : Hid ((digs q0).length ≤ 500000) := Nat.le_trans (digs_mono hlq) hla
  have HLR : Hid ((digs r0).length ≤ 500000) := Nat.le_trans (digs_mono (Nat.le_of_lt hm1)) hlb
  obtain ⟨hF1, hF2, hF3, hF4⟩ := hF
  have hsr : r ≠ 0 → a.sign = r.sign := by
    intro h
    rw [er0] at hcc
    rcases hcc with h1 | h1
    · rw [h1]; exact hF4 h
    · exact absurd hF3 (by omega)
  have hqn : q.natAbs = q0 := by omega
  have hrn : r.natAbs = r0 := by omega
  have HSQ : Hid (∀ W A C, Ints W (.slice A (digs q0).length C) (digs q0) → Calls Tryz.prog 71 #[.int .i64 (a.sign * b.sign), .slice A (digs q0).length C] W (AnsB q W)) := fun W A C hW => rmade_n (a.sign * b.sign) A C q0 q hqn hF2 W hW (by have := HLQ.out; omega)
  have HSR : Hid (∀ W A C, Ints W (.slice A (digs r0).length C) (digs r0) → Calls Tryz.prog 71 #[.int .i64 a.sign, .slice A (digs r0).length C] W (AnsB r W)) := fun W A C hW => rmade_n a.sign A C r0 r hrn hsr W hW (by have := HLR.out; omega)
  obtain ⟨sp, esp⟩ : ∃ sp, a.sign * b.sign = sp := ⟨_, rfl⟩
  have HW : Hid (IntKind.i64.wrap (a.sign * b.sign) = sp) := by unfold Hid; rw [esp] at hsp ⊢; exact IntWalk.i64_in _ (by omega)
  have HG : Hid (decide (sp ≥ 0) = true) := by unfold Hid; rw [esp] at hc; exact decide_eq_true hc
  rw [esp] at HSQ
  obtain ⟨lq, elq⟩ : ∃ lq, (digs q0).length = lq := ⟨_, rfl⟩
  obtain ⟨lr, elr⟩ : ∃ lr, (digs r0).length = lr := ⟨_, rfl⟩
  rw [elq] at HOV HSQ
  rw [elr] at HOV HSR
  have hx := Bx2.start w a.sign (.slice aa na ca) b.sign (.slice ab nb cb)
  have HX0 := Lib.hid hx
  clear ha hb hia hib hx ena enb hla hlb h0 hc hsp eq er eq0 er0 hF1 hF2 hF3 hF4 hm hm1 hlq hcc hsr hqn hrn esp elq elr
  go_enter Tryz.func60, Tryz.ntmps60
  go_wp2_with fail
  refine (risb_any (HA.out.later HX0.out.below)).mono ?_
  rintro e w1 ⟨rfl, hb1⟩
  have HX1 := Lib.hid (HX0.out.later hb1)
  obtain ⟨c00, c01, c10, c11⟩ := HX1.out.cells
  clear hb1
  go_wp2_with fail
  refine (risb_any (HB.out.later HX1.out.below)).mono ?_
  rintro e w2 ⟨rfl, hb2⟩
  have HX2 := Lib.hid (HX1.out.later hb2)
  obtain ⟨d00, d01, d10, d11⟩ := HX2.out.cells
  clear hb2 c00 c01 c10 c11
  have hz := HZ.out
  go_wp2_with fail
  refine (HDV.out _ (HIA.out.later HX2.out.below) (HIB.out.later HX2.out.below)).mono ?_
  rintro e w3 ho
  obtain ⟨aq, cq, ar, cr, rfl, hiq, hir, hb3⟩ := HOV.out _ _ _ ho
  have HX3 := Lib.hid (HX2.out.later hb3)
  have HIQ := Lib.hid hiq
  have HIR := Lib.hid hir
  obtain ⟨c0, c1, c2, c3⟩ := HX3.out.cells
  clear ho hiq hir hb3 d00 d01 d10 d11 hz
  have hw := HW.out
  have hg := HG.out
  go_wp2_with fail
  clear c0 c1 c2 c3
  have HXD := Lib.hid (HX3.out.heap (W' := w3.drew) rfl rfl rfl rfl)
  have e2 := HXD.out.cells
  go_region_held3 (fun W => W.cell? ⟨w.heap.size, 0, none⟩ = some (.int .i64 a.sign) ∧ W.cell? ⟨w.heap.size, 1, none⟩ = some (.slice aa na ca) ∧ W.cell? ⟨w.heap.size + 1, 0, none⟩ = some (.int .i64 b.sign) ∧ W.cell? ⟨w.heap.size + 1, 1, none⟩ = some (.slice ab nb cb))
    (first | (with_reducible exact e2) | (with_reducible exact x4) | (with_reducible exact x5) | (with_reducible exact HX5.out.stay1 _ _) | (with_reducible exact HX5.out.stay2 _ _ _ _))
    (first
      | (go_at_call 71; (with_reducible refine (HSQ.out _ _ _ ?_).mono ?_); (focus exact Ints.drew HIQ.out); rintro e w4 ⟨s4, rfl, hi4, hb4, ho4⟩; obtain ⟨a4, c4, rfl, hj4⟩ := hi4.open; have HO4 := Lib.hid ho4; have HX4 := Lib.hid (HXD.out.later hb4); have HB4 := Lib.hid hb4; have x4 := HX4.out.cells; have HI4 := Lib.hid hj4; clear hi4 hj4 hb4 ho4)
      | (go_at_call 71; (with_reducible refine (HSR.out _ _ _ ?_).mono ?_); (focus exact (Ints.drew HIR.out).later HB4.out); rintro e w5 ⟨s5, rfl, hi5, hb5, ho5⟩; obtain ⟨a5, c5, rfl, hj5⟩ := hi5.open; have HO5 := Lib.hid ho5; have HX5 := Lib.hid (HX4.out.later hb5); have x5 := HX5.out.cells; have HI5 := Lib.hid hj5; have HI6 := Lib.hid (HI4.out.later hb5); clear hi5 hj5 hb5 ho5; obtain ⟨⟨r0', r1, f0, f1⟩, t0, t1, g0, g1⟩ := HX5.out.rcells))
  go_wp2_with fail
  have hsz := HX2.out.size
  have o41 := HO4.out (w.heap.size + 1 + 1) (by have := HX3.out.size; simp; omega)
  have o42 := HO4.out (w.heap.size + 1 + 1 + 1) (by have := HX3.out.size; simp; omega)
  have o51 := HO5.out (w.heap.size + 1 + 1) (by have := HX4.out.size; omega)
  have o52 := HO5.out (w.heap.size + 1 + 1 + 1) (by have := HX4.out.size; omega)
  exact bodyPost_ret (v := .tuple #[.agg #[.int .i64 q.sign, .slice a4 (digs q.natAbs).length c4], .agg #[.int .i64 r.sign, .slice a5 (digs r.natAbs).length c5], .int .i64 0]) (by simp [results, Tryz.results60, go_sem, r0', r1, t0, t1]) rfl
    ⟨_, _, rfl, (((HI6.out.set o41 0 _).set o41 1 _).set o42 0 _).set o42 1 _, (((HI5.out.set o51 0 _).set o51 1 _).set o52 0 _).set o52 1 _,
      (((HX5.out.below.setCell (by simp; omega) _).setCell (by simp; omega) _).setCell (by simp; omega) _).setCell (by simp; omega) _,
      fun g hg => HO4.out g (by have := HX3.out.size; simp; omega), fun g hg => HO5.out g (by have := HX4.out.size; omega)⟩

set_option maxHeartbeats 4000000 in
theorem rdiv_zeror (va vb : Value) (a b : Int) (w : World) (ha : IsB w va a) (hb : IsB w vb b) (hla : (digs a.natAbs).length ≤ 500000) (hlb : (digs b.natAbs).length ≤ 500000) (h0 : b ≠ 0) (hc : a.sign * b.sign < 0) (hk : a.natAbs % b.natAbs = 0) :
    Calls Tryz.prog 60 #[va, vb] w (AnsD (a.fdiv b) (a.fmod b) 0 w) := by
  obtain ⟨sa, rfl, hia⟩ := id ha
  obtain ⟨sb, rfl, hib⟩ := id hb
  have HA := Lib.hid ha
  have HB := Lib.hid hb
  have HIA := Lib.hid hia
  have HIB := Lib.hid hib
  obtain ⟨aa, ca, rfl, _⟩ := hia.open
  obtain ⟨ab, cb, rfl, _⟩ := hib.open
  obtain ⟨na, ena⟩ : ∃ n, (digs a.natAbs).length = n := ⟨_, rfl⟩
  obtain ⟨nb, enb⟩ : ∃ n, (digs b.natAbs).length = n := ⟨_, rfl⟩
  rw [ena] at HA HIA ⊢
  rw [enb] at HB HIB ⊢
  have hm : (a.natAbs : Int) = (b.natAbs : Int) * ((a.natAbs / b.natAbs : Nat) : Int) + ((a.natAbs % b.natAbs : Nat) : Int) := by exact_mod_cast (Nat.div_add_mod a.natAbs b.natAbs).symm
  have hm1 : a.natAbs % b.natAbs < b.natAbs := Nat.mod_lt _ (by omega)
  have hlq : a.natAbs / b.natAbs ≤ a.natAbs := Nat.div_le_self _ _
  have hcc := rsg_plain (a := a) (b := b) (r0 := a.natAbs % b.natAbs) h0 (by rintro rfl; simp) (.inr hk)
  have hF := fl_plain h0 hm (Int.natCast_nonneg _) (Int.ofNat_lt.2 hm1) (Int.natCast_nonneg _) hcc
  have HZ : Hid ((b.sign == 0) = false) := by unfold Hid; simpa using h0
  have hsp := sign_bd a b
  obtain ⟨q, eq⟩ : ∃ q, a.fdiv b = q := ⟨_, rfl⟩
  obtain ⟨r, er⟩ : ∃ r, a.fmod b = r := ⟨_, rfl⟩
  have HDV : Hid (∀ W, Ints W (.slice aa na ca) (digs a.natAbs) → Ints W (.slice ab nb cb) (digs b.natAbs) → Calls Tryz.prog 90 #[.slice aa na ca, .slice ab nb cb] W (OverN a.natAbs b.natAbs W)) :=
    fun W h1 h2 => rover_n _ _ _ _ W h1 h2 (by omega) (by omega) (by omega)
  obtain ⟨q0, eq0⟩ : ∃ q0, a.natAbs / b.natAbs = q0 := ⟨_, rfl⟩
  obtain ⟨r0, er0⟩ : ∃ r0, a.natAbs % b.natAbs = r0 := ⟨_, rfl⟩
  rw [eq, er] at hF ⊢
  rw [eq0, er0] at hF
  rw [er0] at hm1
  rw [eq0] at hlq
  have HOV : Hid (∀ W e w', OverN a.natAbs b.natAbs W e w' → ∃ aq cq ar cr, e = .returned (.tuple #[.slice aq (digs q0).length cq, .slice ar (digs r0).length cr]) ∧ Ints w' (.slice aq (digs q0).length cq) (digs q0) ∧ Ints w' (.slice ar (digs r0).length cr) (digs r0) ∧ RowKit.Below W.heap.size W w') := by
    rintro W e w' ⟨vq, vr, h1, h2, h3, h4, _, _⟩
    rw [eq0] at h2
    rw [er0] at h3
    obtain ⟨aq, cq, rfl⟩ := h2.fit
    obtain ⟨ar, cr, rfl⟩ := h3.fit
    have k1 := digs_mono hlq
    have k2 := digs_mono (Nat.le_of_lt hm1)
    exact ⟨aq, cq, ar, cr, h1, h2.ints (by omega), h3.ints (by omega), h4⟩
  have HLQ : Hid ((digs q0).length ≤ 500000) := Nat.le_trans (digs_mono hlq) hla
  have HLR : Hid ((digs r0).length ≤ 500000) := Nat.le_trans (digs_mono (Nat.le_of_lt hm1)) hlb
  obtain ⟨hF1, hF2, hF3, hF4⟩ := hF
  have hsr : r ≠ 0 → a.sign = r.sign := by
    intro h
    rw [er0] at hcc
    rcases hcc with h1 | h1
    · rw [h1]; exact hF4 h
    · exact absurd hF3 (by omega)
  have hqn : q.natAbs = q0 := by omega
  have hrn : r.natAbs = r0 := by omega
  have HSQ : Hid (∀ W A C, Ints W (.slice A (digs q0).length C) (digs q0) → Calls Tryz.prog 71 #[.int .i64 (a.sign * b.sign), .slice A (digs q0).length C] W (AnsB q W)) := fun W A C hW => rmade_n (a.sign * b.sign) A C q0 q hqn hF2 W hW (by have := HLQ.out; omega)
  have HSR : Hid (∀ W A C, Ints W (.slice A (digs r0).length C) (digs r0) → Calls Tryz.prog 71 #[.int .i64 a.sign, .slice A (digs r0).length C] W (AnsB r W)) := fun W A C hW => rmade_n a.sign A C r0 r hrn hsr W hW (by have := HLR.out; omega)
  obtain ⟨sp, esp⟩ : ∃ sp, a.sign * b.sign = sp := ⟨_, rfl⟩
  have HW : Hid (IntKind.i64.wrap (a.sign * b.sign) = sp) := by unfold Hid; rw [esp] at hsp ⊢; exact IntWalk.i64_in _ (by omega)
  have HG : Hid (decide (sp ≥ 0) = false) := by unfold Hid; rw [esp] at hc; exact decide_eq_false (by omega)
  rw [esp] at HSQ
  obtain ⟨lq, elq⟩ : ∃ lq, (digs q0).length = lq := ⟨_, rfl⟩
  obtain ⟨lr, elr⟩ : ∃ lr, (digs r0).length = lr := ⟨_, rfl⟩
  have hlr0 : lr = 0 := by rw [← elr, ← er0, hk, digs_zero]; rfl
  subst hlr0
  rw [elq] at HOV HSQ
  rw [elr] at HOV HSR
  have hx := Bx2.start w a.sign (.slice aa na ca) b.sign (.slice ab nb cb)
  have HX0 := Lib.hid hx
  clear ha hb hia hib hx ena enb hla hlb h0 hc hsp eq er eq0 er0 hF1 hF2 hF3 hF4 hm hm1 hlq hcc hsr hqn hrn esp elq elr hk
  go_enter Tryz.func60, Tryz.ntmps60
  go_wp2_with fail
  refine (risb_any (HA.out.later HX0.out.below)).mono ?_
  rintro e w1 ⟨rfl, hb1⟩
  have HX1 := Lib.hid (HX0.out.later hb1)
  obtain ⟨c00, c01, c10, c11⟩ := HX1.out.cells
  clear hb1
  go_wp2_with fail
  refine (risb_any (HB.out.later HX1.out.below)).mono ?_
  rintro e w2 ⟨rfl, hb2⟩
  have HX2 := Lib.hid (HX1.out.later hb2)
  obtain ⟨d00, d01, d10, d11⟩ := HX2.out.cells
  clear hb2 c00 c01 c10 c11
  have hz := HZ.out
  go_wp2_with fail
  refine (HDV.out _ (HIA.out.later HX2.out.below) (HIB.out.later HX2.out.below)).mono ?_
  rintro e w3 ho
  obtain ⟨aq, cq, ar, cr, rfl, hiq, hir, hb3⟩ := HOV.out _ _ _ ho
  have HX3 := Lib.hid (HX2.out.later hb3)
  have HIQ := Lib.hid hiq
  have HIR := Lib.hid hir
  obtain ⟨c0, c1, c2, c3⟩ := HX3.out.cells
  clear ho hiq hir hb3 d00 d01 d10 d11 hz
  have hw := HW.out
  have hg := HG.out
  go_wp2_with fail
  clear c0 c1 c2 c3
  have HXD := Lib.hid (HX3.out.heap (W' := w3.drew) rfl rfl rfl rfl)
  have e2 := HXD.out.cells
  go_region_held3 (fun W => W.cell? ⟨w.heap.size, 0, none⟩ = some (.int .i64 a.sign) ∧ W.cell? ⟨w.heap.size, 1, none⟩ = some (.slice aa na ca) ∧ W.cell? ⟨w.heap.size + 1, 0, none⟩ = some (.int .i64 b.sign) ∧ W.cell? ⟨w.heap.size + 1, 1, none⟩ = some (.slice ab nb cb))
    (first | (with_reducible exact e2) | (with_reducible exact x4) | (with_reducible exact x5) | (with_reducible exact HX5.out.stay1 _ _) | (with_reducible exact HX5.out.stay2 _ _ _ _))
    (first
      | (go_at_call 71; (with_reducible refine (HSQ.out _ _ _ ?_).mono ?_); (focus exact Ints.drew HIQ.out); rintro e w4 ⟨s4, rfl, hi4, hb4, ho4⟩; obtain ⟨a4, c4, rfl, hj4⟩ := hi4.open; have HO4 := Lib.hid ho4; have HX4 := Lib.hid (HXD.out.later hb4); have HB4 := Lib.hid hb4; have x4 := HX4.out.cells; have HI4 := Lib.hid hj4; clear hi4 hj4 hb4 ho4)
      | (go_at_call 71; (with_reducible refine (HSR.out _ _ _ ?_).mono ?_); (focus exact (Ints.drew HIR.out).later HB4.out); rintro e w5 ⟨s5, rfl, hi5, hb5, ho5⟩; obtain ⟨a5, c5, rfl, hj5⟩ := hi5.open; have HO5 := Lib.hid ho5; have HX5 := Lib.hid (HX4.out.later hb5); have x5 := HX5.out.cells; have HI5 := Lib.hid hj5; have HI6 := Lib.hid (HI4.out.later hb5); clear hi5 hj5 hb5 ho5; obtain ⟨⟨r0', r1, f0, f1⟩, t0, t1, g0, g1⟩ := HX5.out.rcells))
  go_wp2_with fail
  have hsz := HX2.out.size
  have o41 := HO4.out (w.heap.size + 1 + 1) (by have := HX3.out.size; simp; omega)
  have o42 := HO4.out (w.heap.size + 1 + 1 + 1) (by have := HX3.out.size; simp; omega)
  have o51 := HO5.out (w.heap.size + 1 + 1) (by have := HX4.out.size; omega)
  have o52 := HO5.out (w.heap.size + 1 + 1 + 1) (by have := HX4.out.size; omega)
  exact bodyPost_ret (v := .tuple #[.agg #[.int .i64 q.sign, .slice a4 (digs q.natAbs).length c4], .agg #[.int .i64 r.sign, .slice a5 (digs r.natAbs).length c5], .int .i64 0]) (by simp [results, Tryz.results60, go_sem, r0', r1, t0, t1]) rfl
    ⟨_, _, rfl, (((HI6.out.set o41 0 _).set o41 1 _).set o42 0 _).set o42 1 _, (((HI5.out.set o51 0 _).set o51 1 _).set o52 0 _).set o52 1 _,
      (((HX5.out.below.setCell (by simp; omega) _).setCell (by simp; omega) _).setCell (by simp; omega) _).setCell (by simp; omega) _,
      fun g hg => HO4.out g (by have := HX3.out.size; simp; omega), fun g hg => HO5.out g (by have := HX4.out.size; omega)⟩

set_option maxHeartbeats 4000000 in
theorem rdiv_turn (va vb : Value) (a b : Int) (w : World) (ha : IsB w va a) (hb : IsB w vb b) (hla : (digs a.natAbs).length ≤ 500000) (hlb : (digs b.natAbs).length ≤ 500000) (h0 : b ≠ 0) (hc : a.sign * b.sign < 0) (hk : a.natAbs % b.natAbs ≠ 0) :
    Calls Tryz.prog 60 #[va, vb] w (AnsD (a.fdiv b) (a.fmod b) 0 w) := by
  obtain ⟨sa, rfl, hia⟩ := id ha
  obtain ⟨sb, rfl, hib⟩ := id hb
  have HA := Lib.hid ha
  have HB := Lib.hid hb
  have HIA := Lib.hid hia
  have HIB := Lib.hid hib
  obtain ⟨aa, ca, rfl, _⟩ := hia.open
  obtain ⟨ab, cb, rfl, _⟩ := hib.open
  obtain ⟨na, ena⟩ : ∃ n, (digs a.natAbs).length = n := ⟨_, rfl⟩
  obtain ⟨nb, enb⟩ : ∃ n, (digs b.natAbs).length = n := ⟨_, rfl⟩
  rw [ena] at HA HIA ⊢
  rw [enb] at HB HIB ⊢
  have hm : (a.natAbs : Int) = (b.natAbs : Int) * ((a.natAbs / b.natAbs : Nat) : Int) + ((a.natAbs % b.natAbs : Nat) : Int) := by exact_mod_cast (Nat.div_add_mod a.natAbs b.natAbs).symm
  have hm1 : a.natAbs % b.natAbs < b.natAbs := Nat.mod_lt _ (by omega)
  have hlq : a.natAbs / b.natAbs ≤ a.natAbs := Nat.div_le_self _ _
  have hcc : a.sign ≠ b.sign := by intro h; rw [h] at hc; rcases sgn_is b with ⟨l, l'⟩ | ⟨l, l'⟩ | ⟨l, l'⟩ <;> rw [l'] at hc <;> omega
  have hF := fl_adj h0 hm (Int.ofNat_lt.2 (Nat.pos_of_ne_zero hk)) (Int.ofNat_lt.2 hm1) (Int.natCast_nonneg _) hcc
  have HZ : Hid ((b.sign == 0) = false) := by unfold Hid; simpa using h0
  have hsp := sign_bd a b
  obtain ⟨q, eq⟩ : ∃ q, a.fdiv b = q := ⟨_, rfl⟩
  obtain ⟨r, er⟩ : ∃ r, a.fmod b = r := ⟨_, rfl⟩
  have HDV : Hid (∀ W, Ints W (.slice aa na ca) (digs a.natAbs) → Ints W (.slice ab nb cb) (digs b.natAbs) → Calls Tryz.prog 90 #[.slice aa na ca, .slice ab nb cb] W (OverN a.natAbs b.natAbs W)) :=
    fun W h1 h2 => rover_n _ _ _ _ W h1 h2 (by omega) (by omega) (by omega)
  obtain ⟨q0, eq0⟩ : ∃ q0, a.natAbs / b.natAbs = q0 := ⟨_, rfl⟩
  obtain ⟨r0, er0⟩ : ∃ r0, a.natAbs % b.natAbs = r0 := ⟨_, rfl⟩
  rw [eq, er] at hF ⊢
  rw [eq0, er0] at hF
  rw [er0] at hm1
  rw [eq0] at hlq
  have HOV : Hid (∀ W e w', OverN a.natAbs b.natAbs W e w' → ∃ aq cq ar cr, e = .returned (.tuple #[.slice aq (digs q0).length cq, .slice ar (digs r0).length cr]) ∧ Ints w' (.slice aq (digs q0).length cq) (digs q0) ∧ Ints w' (.slice ar (digs r0).length cr) (digs r0) ∧ RowKit.Below W.heap.size W w') := by
    rintro W e w' ⟨vq, vr, h1, h2, h3, h4, _, _⟩
    rw [eq0] at h2
    rw [er0] at h3
    obtain ⟨aq, cq, rfl⟩ := h2.fit
    obtain ⟨ar, cr, rfl⟩ := h3.fit
    have k1 := digs_mono hlq
    have k2 := digs_mono (Nat.le_of_lt hm1)
    exact ⟨aq, cq, ar, cr, h1, h2.ints (by omega), h3.ints (by omega), h4⟩
  have HLQ : Hid ((digs q0).length ≤ 500000) := Nat.le_trans (digs_mono hlq) hla
  have HLR : Hid ((digs r0).length ≤ 500000) := Nat.le_trans (digs_mono (Nat.le_of_lt hm1)) hlb
  obtain ⟨hF1, hF2, hF3, hF4⟩ := hF
  have hqn : q.natAbs = q0 + 1 := by omega
  have hrn : r.natAbs = b.natAbs - r0 := by omega
  have hq1 : (digs (q0 + 1)).length ≤ 500001 := by
    have h1 := digs_lt q0
    have h2 := P_pos (digs q0).length
    have h3 := digs_le (n := q0 + 1) (k := (digs q0).length + 1) (by rw [P_succ]; omega)
    have h4 := HLQ.out
    omega
  have hr1 : (digs (b.natAbs - r0)).length ≤ 500000 := Nat.le_trans (digs_mono (Nat.sub_le _ _)) hlb
  have hsq : q ≠ 0 → (-1 : Int) = q.sign := fun _ => by rw [← hF2]; omega
  have hsr : r ≠ 0 → b.sign = r.sign := fun _ => hF4
  have HSQ : Hid (∀ W A C, Ints W (.slice A (digs (q0 + 1)).length C) (digs (q0 + 1)) → Calls Tryz.prog 71 #[.int .i64 (-1), .slice A (digs (q0 + 1)).length C] W (AnsB q W)) := fun W A C hW => rmade_n (-1) A C (q0 + 1) q hqn hsq W hW (by omega)
  have HSR : Hid (∀ W A C, Ints W (.slice A (digs (b.natAbs - r0)).length C) (digs (b.natAbs - r0)) → Calls Tryz.prog 71 #[.int .i64 b.sign, .slice A (digs (b.natAbs - r0)).length C] W (AnsB r W)) := fun W A C hW => rmade_n b.sign A C (b.natAbs - r0) r hrn hsr W hW (by omega)
  have HPL : Hid (∀ W A C v, Ints W (.slice A (digs q0).length C) (digs q0) → Ints W v (digs 1) → Calls Tryz.prog 73 #[.slice A (digs q0).length C, v] W (Copy (digs (q0 + 1)) W)) := fun W A C v h1 h2 => rplus_n _ v q0 1 W h1 h2 (by have := HLQ.out; omega) (by rw [digs_one]; simp)
  have HMI : Hid (∀ W A C, Ints W (.slice ab nb cb) (digs b.natAbs) → Ints W (.slice A (digs r0).length C) (digs r0) → Calls Tryz.prog 75 #[.slice ab nb cb, .slice A (digs r0).length C] W (Copy (digs (b.natAbs - r0)) W)) := fun W A C h1 h2 => rminus_n _ _ b.natAbs r0 (Nat.le_of_lt hm1) W h1 h2 (by omega)
  have HL6 := Lib.hid hq1
  have HL7 := Lib.hid hr1
  obtain ⟨sp, esp⟩ : ∃ sp, a.sign * b.sign = sp := ⟨_, rfl⟩
  have HW : Hid (IntKind.i64.wrap (a.sign * b.sign) = sp) := by unfold Hid; rw [esp] at hsp ⊢; exact IntWalk.i64_in _ (by omega)
  have HG : Hid (decide (sp ≥ 0) = false) := by unfold Hid; rw [esp] at hc; exact decide_eq_false (by omega)
  obtain ⟨lq, elq⟩ : ∃ lq, (digs q0).length = lq := ⟨_, rfl⟩
  obtain ⟨lr, elr⟩ : ∃ lr, (digs r0).length = lr := ⟨_, rfl⟩
  have HK : Hid (((lr : Int) == 0) = false) := by
    unfold Hid
    have := digs_pos_len (n := r0) (by omega)
    rw [elr] at this
    simp; omega
  have HK2 : Hid (lr ≠ 0) := by
    unfold Hid
    have := digs_pos_len (n := r0) (by omega)
    omega
  rw [elq] at HOV HPL
  rw [elr] at HOV HMI
  have hx := Bx2.start w a.sign (.slice aa na ca) b.sign (.slice ab nb cb)
  have HX0 := Lib.hid hx
  clear ha hb hia hib hx ena enb hla hlb h0 hc hsp eq er eq0 er0 hF1 hF2 hF3 hF4 hm hm1 hlq hcc hsr hsq hqn hrn esp elq elr hk hq1 hr1
  go_enter Tryz.func60, Tryz.ntmps60
  go_wp2_with fail
  refine (risb_any (HA.out.later HX0.out.below)).mono ?_
  rintro e w1 ⟨rfl, hb1⟩
  have HX1 := Lib.hid (HX0.out.later hb1)
  obtain ⟨c00, c01, c10, c11⟩ := HX1.out.cells
  clear hb1
  go_wp2_with fail
  refine (risb_any (HB.out.later HX1.out.below)).mono ?_
  rintro e w2 ⟨rfl, hb2⟩
  have HX2 := Lib.hid (HX1.out.later hb2)
  obtain ⟨d00, d01, d10, d11⟩ := HX2.out.cells
  clear hb2 c00 c01 c10 c11
  have hz := HZ.out
  go_wp2_with fail
  refine (HDV.out _ (HIA.out.later HX2.out.below) (HIB.out.later HX2.out.below)).mono ?_
  rintro e w3 ho
  obtain ⟨aq, cq, ar, cr, rfl, hiq, hir, hb3⟩ := HOV.out _ _ _ ho
  have HX3 := Lib.hid (HX2.out.later hb3)
  have HIQ := Lib.hid hiq
  have HIR := Lib.hid hir
  obtain ⟨c0, c1, c2, c3⟩ := HX3.out.cells
  clear ho hiq hir hb3 d00 d01 d10 d11 hz
  have hw := HW.out
  have hg := HG.out
  have hk := HK.out
  have hk2 := HK2.out
  go_wp2_with fail
  clear c0 c1 c2 c3
  have HXB := Lib.hid (HX3.out.heap (W' := w3.drew) rfl rfl rfl rfl)
  have e3 := HXB.out.cells
  have HXA := Lib.hid ((HX3.out.later (below_alloc w3 (.cells #[.int .i64 1] 3))).heap (W' := (w3.alloc (.cells #[.int .i64 1] 3)).drew) rfl rfl rfl rfl)
  have e4 := HXA.out.cells
  have HAL : Hid (RowKit.Below w3.heap.size w3 (w3.alloc (.cells #[.int .i64 1] 3)).drew) := (below_alloc w3 _).drew
  go_region_held3 (fun W => W.cell? ⟨w.heap.size, 0, none⟩ = some (.int .i64 a.sign) ∧ W.cell? ⟨w.heap.size, 1, none⟩ = some (.slice aa na ca) ∧ W.cell? ⟨w.heap.size + 1, 0, none⟩ = some (.int .i64 b.sign) ∧ W.cell? ⟨w.heap.size + 1, 1, none⟩ = some (.slice ab nb cb))
    (first | (with_reducible exact e3) | (with_reducible exact e4) | (with_reducible exact x4) | (with_reducible exact x5) | (with_reducible exact x6) | (with_reducible exact x7) | (with_reducible exact HX5.out.stay1 _ _) | (with_reducible exact HX5.out.stay2 _ _ _ _))
    (first
      | (go_at_call 73; (with_reducible refine (HPL.out _ _ _ _ ?_ ?_).mono ?_); (focus exact HIQ.out.later HAL.out); (focus exact ints_digs1 _); rintro e w6 ⟨v6, rfl, ho6, hb6, _⟩; obtain ⟨a6, c6, rfl⟩ := ho6.fit; have HX6 := Lib.hid (HXA.out.later hb6); have x6 := HX6.out.cells; have HI6 := Lib.hid (ho6.ints (by have := HL6.out; omega)); have HR6 := Lib.hid ((HIR.out.later HAL.out).later hb6); clear ho6 hb6)
      | (go_at_call 71; (with_reducible refine (HSQ.out _ _ _ ?_).mono ?_); (focus exact HI6.out); rintro e w4 ⟨s4, rfl, hi4, hb4, ho4⟩; obtain ⟨a4, c4, rfl, hj4⟩ := hi4.open; have HO4 := Lib.hid (ho4.mono HX6.out.size); have HF4 := Lib.hid (ho4.mono HX6.out.below.size); have HX4 := Lib.hid (HX6.out.later hb4); have HR4 := Lib.hid (HR6.out.later hb4); have x4 := HX4.out.cells; have HI4 := Lib.hid hj4; clear hi4 hj4 hb4 ho4)
      | (go_at_call 75; (with_reducible refine (HMI.out _ _ _ ?_ ?_).mono ?_); (focus exact HIB.out.later HX4.out.below); (focus exact HR4.out); rintro e w7 ⟨v7, rfl, ho7, hb7, _⟩; obtain ⟨a7, c7, rfl⟩ := ho7.fit; have HX7 := Lib.hid (HX4.out.later hb7); have x7 := HX7.out.cells; have HI7 := Lib.hid (ho7.ints (by have := HL7.out; omega)); have HI8 := Lib.hid (HI4.out.later hb7); clear ho7 hb7)
      | (go_at_call 71; (with_reducible refine (HSR.out _ _ _ ?_).mono ?_); (focus exact HI7.out); rintro e w5 ⟨s5, rfl, hi5, hb5, ho5⟩; obtain ⟨a5, c5, rfl, hj5⟩ := hi5.open; have HO5 := Lib.hid (ho5.mono HX7.out.size); have HF5 := Lib.hid (ho5.mono HX7.out.below.size); have HX5 := Lib.hid (HX7.out.later hb5); have x5 := HX5.out.cells; have HI5 := Lib.hid hj5; have HI9 := Lib.hid (HI8.out.later hb5); clear hi5 hj5 hb5 ho5; obtain ⟨⟨r0', r1, f0, f1⟩, t0, t1, g0, g1⟩ := HX5.out.rcells))
  go_wp2_with fail
  have o41 := HO4.out (w.heap.size + 1 + 1) (by simp)
  have o42 := HO4.out (w.heap.size + 1 + 1 + 1) (by simp)
  have o51 := HO5.out (w.heap.size + 1 + 1) (by simp)
  have o52 := HO5.out (w.heap.size + 1 + 1 + 1) (by simp)
  exact bodyPost_ret (v := .tuple #[.agg #[.int .i64 q.sign, .slice a4 (digs q.natAbs).length c4], .agg #[.int .i64 r.sign, .slice a5 (digs r.natAbs).length c5], .int .i64 0]) (by simp [results, Tryz.results60, go_sem, r0', r1, t0, t1]) rfl
    ⟨_, _, rfl, (((HI9.out.set o41 0 _).set o41 1 _).set o42 0 _).set o42 1 _, (((HI5.out.set o51 0 _).set o51 1 _).set o52 0 _).set o52 1 _,
      (((HX5.out.below.setCell (by simp; omega) _).setCell (by simp; omega) _).setCell (by simp; omega) _).setCell (by simp; omega) _, HF4.out, HF5.out⟩

theorem rdiv_ok (va vb : Value) (a b : Int) (w : World) (ha : IsB w va a) (hb : IsB w vb b) (hla : (digs a.natAbs).length ≤ 500000) (hlb : (digs b.natAbs).length ≤ 500000) (h0 : b ≠ 0) :
    Calls Tryz.prog 60 #[va, vb] w (AnsD (a.fdiv b) (a.fmod b) 0 w) := by
  by_cases h : 0 ≤ a.sign * b.sign
  · exact rdiv_plain va vb a b w ha hb hla hlb h0 h
  · by_cases k : a.natAbs % b.natAbs = 0
    · exact rdiv_zeror va vb a b w ha hb hla hlb h0 (by omega) k
    · exact rdiv_turn va vb a b w ha hb hla hlb h0 (by omega) k
end Go.Proofs.YtnddickcnfodfaaGreatDoor.Bi
