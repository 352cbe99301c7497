/- kitbagref04: Div. WRITTEN by big/gen_rdiv.py. kitbagref04: Gcd. kitbagref04: Compare. kitbagref04: Of. kitbagref04: Int (all but arguments below the least int). kitbagref04: Read. WRITTEN by big/gen_rread.py. -/
import Derived.Test.YtmhdhabgdlefjaaGreatDoorPTells13
set_option maxRecDepth 100000
namespace Go.Proofs.YtmhdhabgdlefjaaGreatDoor.Bi
open Go.RowKit

theorem digs_one : digs 1 = [1] := by rw [digs_pos (by decide), show 1 / 1048576 = 0 from rfl, digs_zero]; rfl
theorem rsg_plain {a b : Int} {r0 : Nat} (hb : b ≠ 0) (h0 : a = 0 → r0 = 0) (h : 0 ≤ a.sign * b.sign ∨ r0 = 0) : a.sign = b.sign ∨ (r0 : Int) = 0 := by
  rcases h with h | h
  · rcases sgn_is a with ⟨k, k'⟩ | ⟨k, k'⟩ | ⟨k, k'⟩ <;> rcases sgn_is b with ⟨l, l'⟩ | ⟨l, l'⟩ | ⟨l, l'⟩ <;> rw [k', l'] at h <;> first | (exfalso; omega) | exact .inl (k'.trans l'.symm) | exact .inr (by have := h0 (by omega); omega)
  · exact .inr (by omega)
theorem ints_digs1 (W : World) : Ints ((W.alloc (.cells #[.int .i64 1] 3)).drew) (.slice (some ⟨W.heap.size, 0, none⟩) 1 1) (digs 1) := by rw [digs_one]; exact ints_one W 1

set_option maxHeartbeats 4000000 in
theorem rdiv_zero (va vb : Value) (a b : Int) (w : World) (ha : IsB w va a) (hb : IsB w vb b) (_hla : (digs a.natAbs).length ≤ 500000) (_hlb : (digs b.natAbs).length ≤ 500000) (h0 : b = 0) :
    Calls Tryz.prog 93 #[va, vb] w (AnsD 0 0 15 w) := by
  obtain ⟨sa, rfl, hia⟩ := id ha
  obtain ⟨sb, rfl, hib⟩ := id hb
  have HA := Lib.hid ha
  have HB := Lib.hid hb
  have HIA := Lib.hid hia
  have HIB := Lib.hid hib
  obtain ⟨aa, ca, rfl, _⟩ := hia.open
  obtain ⟨ab, cb, rfl, _⟩ := hib.open
  obtain ⟨na, ena⟩ : ∃ n, (digs a.natAbs).length = n := ⟨_, rfl⟩
  obtain ⟨nb, enb⟩ : ∃ n, (digs b.natAbs).length = n := ⟨_, rfl⟩
  rw [ena] at HA HIA ⊢
  rw [enb] at HB HIB ⊢
  have HZ : Hid ((b.sign == 0) = true) := by unfold Hid; subst h0; rfl
  have hx := Bx2.start w a.sign (.slice aa na ca) b.sign (.slice ab nb cb)
  have HX0 := Lib.hid hx
  clear ha hb hia hib hx ena enb h0
  go_enter Tryz.func93, Tryz.ntmps93
  go_wp2_with fail
  refine (risb_any (HA.out.later HX0.out.below)).mono ?_
  rintro e w1 ⟨rfl, hb1⟩
  have HX1 := Lib.hid (HX0.out.later hb1)
  obtain ⟨c00, c01, c10, c11⟩ := HX1.out.cells
  clear hb1
  go_wp2_with fail
  refine (risb_any (HB.out.later HX1.out.below)).mono ?_
  rintro e w2 ⟨rfl, hb2⟩
  have HX2 := Lib.hid (HX1.out.later hb2)
  obtain ⟨d00, d01, d10, d11⟩ := HX2.out.cells
  clear hb2 c00 c01 c10 c11
  have hz := HZ.out
  obtain ⟨⟨r0', r1, f0, f1⟩, t0, t1, g0, g1⟩ := HX2.out.rcells
  go_wp2_with fail
  exact bodyPost_ret (v := .tuple #[.agg #[.int .i64 0, .slice none 0 0], .agg #[.int .i64 0, .slice none 0 0], .int .i64 15]) (by simp [results, Tryz.results93, go_sem, r0', r1, t0, t1]) rfl
    (AnsD.zero ((((HX2.out.below.setCell (by simp; omega) _).setCell (by simp; omega) _).setCell (by simp; omega) _).setCell (by simp; omega) _))

set_option maxHeartbeats 4000000 in
theorem rdiv_plain (va vb : Value) (a b : Int) (w : World) (ha : IsB w va a) (hb : IsB w vb b) (hla : (digs a.natAbs).length ≤ 500000) (hlb : (digs b.natAbs).length ≤ 500000) (h0 : b ≠ 0) (hc : 0 ≤ a.sign * b.sign) :
    Calls Tryz.prog 93 #[va, vb] w (AnsD (a.fdiv b) (a.fmod b) 0 w) := by
  obtain ⟨sa, rfl, hia⟩ := id ha
  obtain ⟨sb, rfl, hib⟩ := id hb
  have HA := Lib.hid ha
  have HB := Lib.hid hb
  have HIA := Lib.hid hia
  have HIB := Lib.hid hib
  obtain ⟨aa, ca, rfl, _⟩ := hia.open
  obtain ⟨ab, cb, rfl, _⟩ := hib.open
  obtain ⟨na, ena⟩ : ∃ n, (digs a.natAbs).length = n := ⟨_, rfl⟩
  obtain ⟨nb, enb⟩ : ∃ n, (digs b.natAbs).length = n := ⟨_, rfl⟩
  rw [ena] at HA HIA ⊢
  rw [enb] at HB HIB ⊢
  have hm : (a.natAbs : Int) = (b.natAbs : Int) * ((a.natAbs / b.natAbs : Nat) : Int) + ((a.natAbs % b.natAbs : Nat) : Int) := by exact_mod_cast (Nat.div_add_mod a.natAbs b.natAbs).symm
  have hm1 : a.natAbs % b.natAbs < b.natAbs := Nat.mod_lt _ (by omega)
  have hlq : a.natAbs / b.natAbs ≤ a.natAbs := Nat.div_le_self _ _
  have hcc := rsg_plain (a := a) (b := b) (r0 := a.natAbs % b.natAbs) h0 (by rintro rfl; simp) (.inl hc)
  have hF := fl_plain h0 hm (Int.natCast_nonneg _) (Int.ofNat_lt.2 hm1) (Int.natCast_nonneg _) hcc
  have HZ : Hid ((b.sign == 0) = false) := by unfold Hid; simpa using h0
  have hsp := sign_bd a b
  obtain ⟨q, eq⟩ : ∃ q, a.fdiv b = q := ⟨_, rfl⟩
  obtain ⟨r, er⟩ : ∃ r, a.fmod b = r := ⟨_, rfl⟩
  have HDV : Hid (∀ W, Ints W (.slice aa na ca) (digs a.natAbs) → Ints W (.slice ab nb cb) (digs b.natAbs) → Calls Tryz.prog 99 #[.slice aa na ca, .slice ab nb cb] W (OverN a.natAbs b.natAbs W)) :=
    fun W h1 h2 => rover_n _ _ _ _ W h1 h2 (by omega) (by omega) (by omega)
  obtain ⟨q0, eq0⟩ : ∃ q0, a.natAbs / b.natAbs = q0 := ⟨_, rfl⟩
  obtain ⟨r0, er0⟩ : ∃ r0, a.natAbs % b.natAbs = r0 := ⟨_, rfl⟩
  rw [eq, er] at hF ⊢
  rw [eq0, er0] at hF
  rw [er0] at hm1
  rw [eq0] at hlq
  have HOV : Hid (∀ W e w', OverN a.natAbs b.natAbs W e w' → ∃ aq cq ar cr, e = .returned (.tuple #[.slice aq (digs q0).length cq, .slice ar (digs r0).length cr]) ∧ Ints w' (.slice aq (digs q0).length cq) (digs q0) ∧ Ints w' (.slice ar (digs r0).length cr) (digs r0) ∧ RowKit.Below W.heap.size W w') := by
    rintro W e w' ⟨vq, vr, h1, h2, h3, h4, _, _⟩
    rw [eq0] at h2
    rw [er0] at h3
    obtain ⟨aq, cq, rfl⟩ := h2.fit
    obtain ⟨ar, cr, rfl⟩ := h3.fit
    have k1 := digs_mono hlq
    have k2 := digs_mono (Nat.le_of_lt hm1)
    exact ⟨aq, cq, ar, cr, h1, h2.ints (by omega), h3.ints (by omega), h4⟩
  have HLQ : Hid ((digs q0).length ≤ 500000) := Nat.le_trans (digs_mono hlq) hla
  have HLR : Hid ((digs r0).length ≤ 500000) := Nat.le_trans (digs_mono (Nat.le_of_lt hm1)) hlb
  obtain ⟨hF1, hF2, hF3, hF4⟩ := hF
  have hsr : r ≠ 0 → a.sign = r.sign := by
    intro h
    rw [er0] at hcc
    rcases hcc with h1 | h1
    · rw [h1]; exact hF4 h
    · exact absurd hF3 (by omega)
  have hqn : q.natAbs = q0 := by omega
  have hrn : r.natAbs = r0 := by omega
  have HSQ : Hid (∀ W A C, Ints W (.slice A (digs q0).length C) (digs q0) → Calls Tryz.prog 94 #[.int .i64 (a.sign * b.sign), .slice A (digs q0).length C] W (AnsB q W)) := fun W A C hW => rmade_n (a.sign * b.sign) A C q0 q hqn hF2 W hW (by have := HLQ.out; omega)
  have HSR : Hid (∀ W A C, Ints W (.slice A (digs r0).length C) (digs r0) → Calls Tryz.prog 94 #[.int .i64 a.sign, .slice A (digs r0).length C] W (AnsB r W)) := fun W A C hW => rmade_n a.sign A C r0 r hrn hsr W hW (by have := HLR.out; omega)
  obtain ⟨sp, esp⟩ : ∃ sp, a.sign * b.sign = sp := ⟨_, rfl⟩
  have HW : Hid (IntKind.i64.wrap (a.sign * b.sign) = sp) := by unfold Hid; rw [esp] at hsp ⊢; exact IntWalk.i64_in _ (by omega)
  have HG : Hid (decide (sp ≥ 0) = true) := by unfold Hid; rw [esp] at hc; exact decide_eq_true hc
  rw [esp] at HSQ
  obtain ⟨lq, elq⟩ : ∃ lq, (digs q0).length = lq := ⟨_, rfl⟩
  obtain ⟨lr, elr⟩ : ∃ lr, (digs r0).length = lr := ⟨_, rfl⟩
  rw [elq] at HOV HSQ
  rw [elr] at HOV HSR
  have hx := Bx2.start w a.sign (.slice aa na ca) b.sign (.slice ab nb cb)
  have HX0 := Lib.hid hx
  clear ha hb hia hib hx ena enb hla hlb h0 hc hsp eq er eq0 er0 hF1 hF2 hF3 hF4 hm hm1 hlq hcc hsr hqn hrn esp elq elr
  go_enter Tryz.func93, Tryz.ntmps93
  go_wp2_with fail
  refine (risb_any (HA.out.later HX0.out.below)).mono ?_
  rintro e w1 ⟨rfl, hb1⟩
  have HX1 := Lib.hid (HX0.out.later hb1)
  obtain ⟨c00, c01, c10, c11⟩ := HX1.out.cells
  clear hb1
  go_wp2_with fail
  refine (risb_any (HB.out.later HX1.out.below)).mono ?_
  rintro e w2 ⟨rfl, hb2⟩
  have HX2 := Lib.hid (HX1.out.later hb2)
  obtain ⟨d00, d01, d10, d11⟩ := HX2.out.cells
  clear hb2 c00 c01 c10 c11
  have hz := HZ.out
  go_wp2_with fail
  refine (HDV.out _ (HIA.out.later HX2.out.below) (HIB.out.later HX2.out.below)).mono ?_
  rintro e w3 ho
  obtain ⟨aq, cq, ar, cr, rfl, hiq, hir, hb3⟩ := HOV.out _ _ _ ho
  have HX3 := Lib.hid (HX2.out.later hb3)
  have HIQ := Lib.hid hiq
  have HIR := Lib.hid hir
  obtain ⟨c0, c1, c2, c3⟩ := HX3.out.cells
  clear ho hiq hir hb3 d00 d01 d10 d11 hz
  have hw := HW.out
  have hg := HG.out
  go_wp2_with fail
  clear c0 c1 c2 c3
  have HXD := Lib.hid (HX3.out.heap (W' := w3.drew) rfl rfl rfl rfl)
  have e2 := HXD.out.cells
  go_region_held3 (fun W => W.cell? ⟨w.heap.size, 0, none⟩ = some (.int .i64 a.sign) ∧ W.cell? ⟨w.heap.size, 1, none⟩ = some (.slice aa na ca) ∧ W.cell? ⟨w.heap.size + 1, 0, none⟩ = some (.int .i64 b.sign) ∧ W.cell? ⟨w.heap.size + 1, 1, none⟩ = some (.slice ab nb cb))
    (first | (with_reducible exact e2) | (with_reducible exact x4) | (with_reducible exact x5) | (with_reducible exact HX5.out.stay1 _ _) | (with_reducible exact HX5.out.stay2 _ _ _ _))
    (first
      | (go_at_call 94; (with_reducible refine (HSQ.out _ _ _ ?_).mono ?_); (focus exact Ints.drew HIQ.out); rintro e w4 ⟨s4, rfl, hi4, hb4, ho4⟩; obtain ⟨a4, c4, rfl, hj4⟩ := hi4.open; have HO4 := Lib.hid ho4; have HX4 := Lib.hid (HXD.out.later hb4); have HB4 := Lib.hid hb4; have x4 := HX4.out.cells; have HI4 := Lib.hid hj4; clear hi4 hj4 hb4 ho4)
      | (go_at_call 94; (with_reducible refine (HSR.out _ _ _ ?_).mono ?_); (focus exact (Ints.drew HIR.out).later HB4.out); rintro e w5 ⟨s5, rfl, hi5, hb5, ho5⟩; obtain ⟨a5, c5, rfl, hj5⟩ := hi5.open; have HO5 := Lib.hid ho5; have HX5 := Lib.hid (HX4.out.later hb5); have x5 := HX5.out.cells; have HI5 := Lib.hid hj5; have HI6 := Lib.hid (HI4.out.later hb5); clear hi5 hj5 hb5 ho5; obtain ⟨⟨r0', r1, f0, f1⟩, t0, t1, g0, g1⟩ := HX5.out.rcells))
  go_wp2_with fail
  have hsz := HX2.out.size
  have o41 := HO4.out (w.heap.size + 1 + 1) (by have := HX3.out.size; simp; omega)
  have o42 := HO4.out (w.heap.size + 1 + 1 + 1) (by have := HX3.out.size; simp; omega)
  have o51 := HO5.out (w.heap.size + 1 + 1) (by have := HX4.out.size; omega)
  have o52 := HO5.out (w.heap.size + 1 + 1 + 1) (by have := HX4.out.size; omega)
  exact bodyPost_ret (v := .tuple #[.agg #[.int .i64 q.sign, .slice a4 (digs q.natAbs).length c4], .agg #[.int .i64 r.sign, .slice a5 (digs r.natAbs).length c5], .int .i64 0]) (by simp [results, Tryz.results93, go_sem, r0', r1, t0, t1]) rfl
    ⟨_, _, rfl, (((HI6.out.set o41 0 _).set o41 1 _).set o42 0 _).set o42 1 _, (((HI5.out.set o51 0 _).set o51 1 _).set o52 0 _).set o52 1 _,
      (((HX5.out.below.setCell (by simp; omega) _).setCell (by simp; omega) _).setCell (by simp; omega) _).setCell (by simp; omega) _,
      fun g hg => HO4.out g (by have := HX3.out.size; simp; omega), fun g hg => HO5.out g (by have := HX4.out.size; omega)⟩

set_option maxHeartbeats 4000000 in
theorem rdiv_zeror (va vb : Value) (a b : Int) (w : World) (ha : IsB w va a) (hb : IsB w vb b) (hla : (digs a.natAbs).length ≤ 500000) (hlb : (digs b.natAbs).length ≤ 500000) (h0 : b ≠ 0) (hc : a.sign * b.sign < 0) (hk : a.natAbs % b.natAbs = 0) :
    Calls Tryz.prog 93 #[va, vb] w (AnsD (a.fdiv b) (a.fmod b) 0 w) := by
  obtain ⟨sa, rfl, hia⟩ := id ha
  obtain ⟨sb, rfl, hib⟩ := id hb
  have HA := Lib.hid ha
  have HB := Lib.hid hb
  have HIA := Lib.hid hia
  have HIB := Lib.hid hib
  obtain ⟨aa, ca, rfl, _⟩ := hia.open
  obtain ⟨ab, cb, rfl, _⟩ := hib.open
  obtain ⟨na, ena⟩ : ∃ n, (digs a.natAbs).length = n := ⟨_, rfl⟩
  obtain ⟨nb, enb⟩ : ∃ n, (digs b.natAbs).length = n := ⟨_, rfl⟩
  rw [ena] at HA HIA ⊢
  rw [enb] at HB HIB ⊢
  have hm : (a.natAbs : Int) = (b.natAbs : Int) * ((a.natAbs / b.natAbs : Nat) : Int) + ((a.natAbs % b.natAbs : Nat) : Int) := by exact_mod_cast (Nat.div_add_mod a.natAbs b.natAbs).symm
  have hm1 : a.natAbs % b.natAbs < b.natAbs := Nat.mod_lt _ (by omega)
  have hlq : a.natAbs / b.natAbs ≤ a.natAbs := Nat.div_le_self _ _
  have hcc := rsg_plain (a := a) (b := b) (r0 := a.natAbs % b.natAbs) h0 (by rintro rfl; simp) (.inr hk)
  have hF := fl_plain h0 hm (Int.natCast_nonneg _) (Int.ofNat_lt.2 hm1) (Int.natCast_nonneg _) hcc
  have HZ : Hid ((b.sign == 0) = false) := by unfold Hid; simpa using h0
  have hsp := sign_bd a b
  obtain ⟨q, eq⟩ : ∃ q, a.fdiv b = q := ⟨_, rfl⟩
  obtain ⟨r, er⟩ : ∃ r, a.fmod b = r := ⟨_, rfl⟩
  have HDV : Hid (∀ W, Ints W (.slice aa na ca) (digs a.natAbs) → Ints W (.slice ab nb cb) (digs b.natAbs) → Calls Tryz.prog 99 #[.slice aa na ca, .slice ab nb cb] W (OverN a.natAbs b.natAbs W)) :=
    fun W h1 h2 => rover_n _ _ _ _ W h1 h2 (by omega) (by omega) (by omega)
  obtain ⟨q0, eq0⟩ : ∃ q0, a.natAbs / b.natAbs = q0 := ⟨_, rfl⟩
  obtain ⟨r0, er0⟩ : ∃ r0, a.natAbs % b.natAbs = r0 := ⟨_, rfl⟩
  rw [eq, er] at hF ⊢
  rw [eq0, er0] at hF
  rw [er0] at hm1
  rw [eq0] at hlq
  have HOV : Hid (∀ W e w', OverN a.natAbs b.natAbs W e w' → ∃ aq cq ar cr, e = .returned (.tuple #[.slice aq (digs q0).length cq, .slice ar (digs r0).length cr]) ∧ Ints w' (.slice aq (digs q0).length cq) (digs q0) ∧ Ints w' (.slice ar (digs r0).length cr) (digs r0) ∧ RowKit.Below W.heap.size W w') := by
    rintro W e w' ⟨vq, vr, h1, h2, h3, h4, _, _⟩
    rw [eq0] at h2
    rw [er0] at h3
    obtain ⟨aq, cq, rfl⟩ := h2.fit
    obtain ⟨ar, cr, rfl⟩ := h3.fit
    have k1 := digs_mono hlq
    have k2 := digs_mono (Nat.le_of_lt hm1)
    exact ⟨aq, cq, ar, cr, h1, h2.ints (by omega), h3.ints (by omega), h4⟩
  have HLQ : Hid ((digs q0).length ≤ 500000) := Nat.le_trans (digs_mono hlq) hla
  have HLR : Hid ((digs r0).length ≤ 500000) := Nat.le_trans (digs_mono (Nat.le_of_lt hm1)) hlb
  obtain ⟨hF1, hF2, hF3, hF4⟩ := hF
  have hsr : r ≠ 0 → a.sign = r.sign := by
    intro h
    rw [er0] at hcc
    rcases hcc with h1 | h1
    · rw [h1]; exact hF4 h
    · exact absurd hF3 (by omega)
  have hqn : q.natAbs = q0 := by omega
  have hrn : r.natAbs = r0 := by omega
  have HSQ : Hid (∀ W A C, Ints W (.slice A (digs q0).length C) (digs q0) → Calls Tryz.prog 94 #[.int .i64 (a.sign * b.sign), .slice A (digs q0).length C] W (AnsB q W)) := fun W A C hW => rmade_n (a.sign * b.sign) A C q0 q hqn hF2 W hW (by have := HLQ.out; omega)
  have HSR : Hid (∀ W A C, Ints W (.slice A (digs r0).length C) (digs r0) → Calls Tryz.prog 94 #[.int .i64 a.sign, .slice A (digs r0).length C] W (AnsB r W)) := fun W A C hW => rmade_n a.sign A C r0 r hrn hsr W hW (by have := HLR.out; omega)
  obtain ⟨sp, esp⟩ : ∃ sp, a.sign * b.sign = sp := ⟨_, rfl⟩
  have HW : Hid (IntKind.i64.wrap (a.sign * b.sign) = sp) := by unfold Hid; rw [esp] at hsp ⊢; exact IntWalk.i64_in _ (by omega)
  have HG : Hid (decide (sp ≥ 0) = false) := by unfold Hid; rw [esp] at hc; exact decide_eq_false (by omega)
  rw [esp] at HSQ
  obtain ⟨lq, elq⟩ : ∃ lq, (digs q0).length = lq := ⟨_, rfl⟩
  obtain ⟨lr, elr⟩ : ∃ lr, (digs r0).length = lr := ⟨_, rfl⟩
  have hlr0 : lr = 0 := by rw [← elr, ← er0, hk, digs_zero]; rfl
  subst hlr0
  rw [elq] at HOV HSQ
  rw [elr] at HOV HSR
  have hx := Bx2.start w a.sign (.slice aa na ca) b.sign (.slice ab nb cb)
  have HX0 := Lib.hid hx
  clear ha hb hia hib hx ena enb hla hlb h0 hc hsp eq er eq0 er0 hF1 hF2 hF3 hF4 hm hm1 hlq hcc hsr hqn hrn esp elq elr hk
  go_enter Tryz.func93, Tryz.ntmps93
  go_wp2_with fail
  refine (risb_any (HA.out.later HX0.out.below)).mono ?_
  rintro e w1 ⟨rfl, hb1⟩
  have HX1 := Lib.hid (HX0.out.later hb1)
  obtain ⟨c00, c01, c10, c11⟩ := HX1.out.cells
  clear hb1
  go_wp2_with fail
  refine (risb_any (HB.out.later HX1.out.below)).mono ?_
  rintro e w2 ⟨rfl, hb2⟩
  have HX2 := Lib.hid (HX1.out.later hb2)
  obtain ⟨d00, d01, d10, d11⟩ := HX2.out.cells
  clear hb2 c00 c01 c10 c11
  have hz := HZ.out
  go_wp2_with fail
  refine (HDV.out _ (HIA.out.later HX2.out.below) (HIB.out.later HX2.out.below)).mono ?_
  rintro e w3 ho
  obtain ⟨aq, cq, ar, cr, rfl, hiq, hir, hb3⟩ := HOV.out _ _ _ ho
  have HX3 := Lib.hid (HX2.out.later hb3)
  have HIQ := Lib.hid hiq
  have HIR := Lib.hid hir
  obtain ⟨c0, c1, c2, c3⟩ := HX3.out.cells
  clear ho hiq hir hb3 d00 d01 d10 d11 hz
  have hw := HW.out
  have hg := HG.out
  go_wp2_with fail
  clear c0 c1 c2 c3
  have HXD := Lib.hid (HX3.out.heap (W' := w3.drew) rfl rfl rfl rfl)
  have e2 := HXD.out.cells
  go_region_held3 (fun W => W.cell? ⟨w.heap.size, 0, none⟩ = some (.int .i64 a.sign) ∧ W.cell? ⟨w.heap.size, 1, none⟩ = some (.slice aa na ca) ∧ W.cell? ⟨w.heap.size + 1, 0, none⟩ = some (.int .i64 b.sign) ∧ W.cell? ⟨w.heap.size + 1, 1, none⟩ = some (.slice ab nb cb))
    (first | (with_reducible exact e2) | (with_reducible exact x4) | (with_reducible exact x5) | (with_reducible exact HX5.out.stay1 _ _) | (with_reducible exact HX5.out.stay2 _ _ _ _))
    (first
      | (go_at_call 94; (with_reducible refine (HSQ.out _ _ _ ?_).mono ?_); (focus exact Ints.drew HIQ.out); rintro e w4 ⟨s4, rfl, hi4, hb4, ho4⟩; obtain ⟨a4, c4, rfl, hj4⟩ := hi4.open; have HO4 := Lib.hid ho4; have HX4 := Lib.hid (HXD.out.later hb4); have HB4 := Lib.hid hb4; have x4 := HX4.out.cells; have HI4 := Lib.hid hj4; clear hi4 hj4 hb4 ho4)
      | (go_at_call 94; (with_reducible refine (HSR.out _ _ _ ?_).mono ?_); (focus exact (Ints.drew HIR.out).later HB4.out); rintro e w5 ⟨s5, rfl, hi5, hb5, ho5⟩; obtain ⟨a5, c5, rfl, hj5⟩ := hi5.open; have HO5 := Lib.hid ho5; have HX5 := Lib.hid (HX4.out.later hb5); have x5 := HX5.out.cells; have HI5 := Lib.hid hj5; have HI6 := Lib.hid (HI4.out.later hb5); clear hi5 hj5 hb5 ho5; obtain ⟨⟨r0', r1, f0, f1⟩, t0, t1, g0, g1⟩ := HX5.out.rcells))
  go_wp2_with fail
  have hsz := HX2.out.size
  have o41 := HO4.out (w.heap.size + 1 + 1) (by have := HX3.out.size; simp; omega)
  have o42 := HO4.out (w.heap.size + 1 + 1 + 1) (by have := HX3.out.size; simp; omega)
  have o51 := HO5.out (w.heap.size + 1 + 1) (by have := HX4.out.size; omega)
  have o52 := HO5.out (w.heap.size + 1 + 1 + 1) (by have := HX4.out.size; omega)
  exact bodyPost_ret (v := .tuple #[.agg #[.int .i64 q.sign, .slice a4 (digs q.natAbs).length c4], .agg #[.int .i64 r.sign, .slice a5 (digs r.natAbs).length c5], .int .i64 0]) (by simp [results, Tryz.results93, go_sem, r0', r1, t0, t1]) rfl
    ⟨_, _, rfl, (((HI6.out.set o41 0 _).set o41 1 _).set o42 0 _).set o42 1 _, (((HI5.out.set o51 0 _).set o51 1 _).set o52 0 _).set o52 1 _,
      (((HX5.out.below.setCell (by simp; omega) _).setCell (by simp; omega) _).setCell (by simp; omega) _).setCell (by simp; omega) _,
      fun g hg => HO4.out g (by have := HX3.out.size; simp; omega), fun g hg => HO5.out g (by have := HX4.out.size; omega)⟩

set_option maxHeartbeats 4000000 in
theorem rdiv_turn (va vb : Value) (a b : Int) (w : World) (ha : IsB w va a) (hb : IsB w vb b) (hla : (digs a.natAbs).length ≤ 500000) (hlb : (digs b.natAbs).length ≤ 500000) (h0 : b ≠ 0) (hc : a.sign * b.sign < 0) (hk : a.natAbs % b.natAbs ≠ 0) :
    Calls Tryz.prog 93 #[va, vb] w (AnsD (a.fdiv b) (a.fmod b) 0 w) := by
  obtain ⟨sa, rfl, hia⟩ := id ha
  obtain ⟨sb, rfl, hib⟩ := id hb
  have HA := Lib.hid ha
  have HB := Lib.hid hb
  have HIA := Lib.hid hia
  have HIB := Lib.hid hib
  obtain ⟨aa, ca, rfl, _⟩ := hia.open
  obtain ⟨ab, cb, rfl, _⟩ := hib.open
  obtain ⟨na, ena⟩ : ∃ n, (digs a.natAbs).length = n := ⟨_, rfl⟩
  obtain ⟨nb, enb⟩ : ∃ n, (digs b.natAbs).length = n := ⟨_, rfl⟩
  rw [ena] at HA HIA ⊢
  rw [enb] at HB HIB ⊢
  have hm : (a.natAbs : Int) = (b.natAbs : Int) * ((a.natAbs / b.natAbs : Nat) : Int) + ((a.natAbs % b.natAbs : Nat) : Int) := by exact_mod_cast (Nat.div_add_mod a.natAbs b.natAbs).symm
  have hm1 : a.natAbs % b.natAbs < b.natAbs := Nat.mod_lt _ (by omega)
  have hlq : a.natAbs / b.natAbs ≤ a.natAbs := Nat.div_le_self _ _
  have hcc : a.sign ≠ b.sign := by intro h; rw [h] at hc; rcases sgn_is b with ⟨l, l'⟩ | ⟨l, l'⟩ | ⟨l, l'⟩ <;> rw [l'] at hc <;> omega
  have hF := fl_adj h0 hm (Int.ofNat_lt.2 (Nat.pos_of_ne_zero hk)) (Int.ofNat_lt.2 hm1) (Int.natCast_nonneg _) hcc
  have HZ : Hid ((b.sign == 0) = false) := by unfold Hid; simpa using h0
  have hsp := sign_bd a b
  obtain ⟨q, eq⟩ : ∃ q, a.fdiv b = q := ⟨_, rfl⟩
  obtain ⟨r, er⟩ : ∃ r, a.fmod b = r := ⟨_, rfl⟩
  have HDV : Hid (∀ W, Ints W (.slice aa na ca) (digs a.natAbs) → Ints W (.slice ab nb cb) (digs b.natAbs) → Calls Tryz.prog 99 #[.slice aa na ca, .slice ab nb cb] W (OverN a.natAbs b.natAbs W)) :=
    fun W h1 h2 => rover_n _ _ _ _ W h1 h2 (by omega) (by omega) (by omega)
  obtain ⟨q0, eq0⟩ : ∃ q0, a.natAbs / b.natAbs = q0 := ⟨_, rfl⟩
  obtain ⟨r0, er0⟩ : ∃ r0, a.natAbs % b.natAbs = r0 := ⟨_, rfl⟩
  rw [eq, er] at hF ⊢
  rw [eq0, er0] at hF
  rw [er0] at hm1
  rw [eq0] at hlq
  have HOV : Hid (∀ W e w', OverN a.natAbs b.natAbs W e w' → ∃ aq cq ar cr, e = .returned (.tuple #[.slice aq (digs q0).length cq, .slice ar (digs r0).length cr]) ∧ Ints w' (.slice aq (digs q0).length cq) (digs q0) ∧ Ints w' (.slice ar (digs r0).length cr) (digs r0) ∧ RowKit.Below W.heap.size W w') := by
    rintro W e w' ⟨vq, vr, h1, h2, h3, h4, _, _⟩
    rw [eq0] at h2
    rw [er0] at h3
    obtain ⟨aq, cq, rfl⟩ := h2.fit
    obtain ⟨ar, cr, rfl⟩ := h3.fit
    have k1 := digs_mono hlq
    have k2 := digs_mono (Nat.le_of_lt hm1)
    exact ⟨aq, cq, ar, cr, h1, h2.ints (by omega), h3.ints (by omega), h4⟩
  have HLQ : Hid ((digs q0).length ≤ 500000) := Nat.le_trans (digs_mono hlq) hla
  have HLR : Hid ((digs r0).length ≤ 500000) := Nat.le_trans (digs_mono (Nat.le_of_lt hm1)) hlb
  obtain ⟨hF1, hF2, hF3, hF4⟩ := hF
  have hqn : q.natAbs = q0 + 1 := by omega
  have hrn : r.natAbs = b.natAbs - r0 := by omega
  have hq1 : (digs (q0 + 1)).length ≤ 500001 := by
    have h1 := digs_lt q0
    have h2 := P_pos (digs q0).length
    have h3 := digs_le (n := q0 + 1) (k := (digs q0).length + 1) (by rw [P_succ]; omega)
    have h4 := HLQ.out
    omega
  have hr1 : (digs (b.natAbs - r0)).length ≤ 500000 := Nat.le_trans (digs_mono (Nat.sub_le _ _)) hlb
  have hsq : q ≠ 0 → (-1 : Int) = q.sign := fun _ => by rw [← hF2]; omega
  have hsr : r ≠ 0 → b.sign = r.sign := fun _ => hF4
  have HSQ : Hid (∀ W A C, Ints W (.slice A (digs (q0 + 1)).length C) (digs (q0 + 1)) → Calls Tryz.prog 94 #[.int .i64 (-1), .slice A (digs (q0 + 1)).length C] W (AnsB q W)) := fun W A C hW => rmade_n (-1) A C (q0 + 1) q hqn hsq W hW (by omega)
  have HSR : Hid (∀ W A C, Ints W (.slice A (digs (b.natAbs - r0)).length C) (digs (b.natAbs - r0)) → Calls Tryz.prog 94 #[.int .i64 b.sign, .slice A (digs (b.natAbs - r0)).length C] W (AnsB r W)) := fun W A C hW => rmade_n b.sign A C (b.natAbs - r0) r hrn hsr W hW (by omega)
  have HPL : Hid (∀ W A C v, Ints W (.slice A (digs q0).length C) (digs q0) → Ints W v (digs 1) → Calls Tryz.prog 115 #[.slice A (digs q0).length C, v] W (Copy (digs (q0 + 1)) W)) := fun W A C v h1 h2 => rplus_n _ v q0 1 W h1 h2 (by have := HLQ.out; omega) (by rw [digs_one]; simp)
  have HMI : Hid (∀ W A C, Ints W (.slice ab nb cb) (digs b.natAbs) → Ints W (.slice A (digs r0).length C) (digs r0) → Calls Tryz.prog 116 #[.slice ab nb cb, .slice A (digs r0).length C] W (Copy (digs (b.natAbs - r0)) W)) := fun W A C h1 h2 => rminus_n _ _ b.natAbs r0 (Nat.le_of_lt hm1) W h1 h2 (by omega)
  have HL6 := Lib.hid hq1
  have HL7 := Lib.hid hr1
  obtain ⟨sp, esp⟩ : ∃ sp, a.sign * b.sign = sp := ⟨_, rfl⟩
  have HW : Hid (IntKind.i64.wrap (a.sign * b.sign) = sp) := by unfold Hid; rw [esp] at hsp ⊢; exact IntWalk.i64_in _ (by omega)
  have HG : Hid (decide (sp ≥ 0) = false) := by unfold Hid; rw [esp] at hc; exact decide_eq_false (by omega)
  obtain ⟨lq, elq⟩ : ∃ lq, (digs q0).length = lq := ⟨_, rfl⟩
  obtain ⟨lr, elr⟩ : ∃ lr, (digs r0).length = lr := ⟨_, rfl⟩
  have HK : Hid (((lr : Int) == 0) = false) := by
    unfold Hid
    have := digs_pos_len (n := r0) (by omega)
    rw [elr] at this
    simp; omega
  have HK2 : Hid (lr ≠ 0) := by
    unfold Hid
    have := digs_pos_len (n := r0) (by omega)
    omega
  rw [elq] at HOV HPL
  rw [elr] at HOV HMI
  have hx := Bx2.start w a.sign (.slice aa na ca) b.sign (.slice ab nb cb)
  have HX0 := Lib.hid hx
  clear ha hb hia hib hx ena enb hla hlb h0 hc hsp eq er eq0 er0 hF1 hF2 hF3 hF4 hm hm1 hlq hcc hsr hsq hqn hrn esp elq elr hk hq1 hr1
  go_enter Tryz.func93, Tryz.ntmps93
  go_wp2_with fail
  refine (risb_any (HA.out.later HX0.out.below)).mono ?_
  rintro e w1 ⟨rfl, hb1⟩
  have HX1 := Lib.hid (HX0.out.later hb1)
  obtain ⟨c00, c01, c10, c11⟩ := HX1.out.cells
  clear hb1
  go_wp2_with fail
  refine (risb_any (HB.out.later HX1.out.below)).mono ?_
  rintro e w2 ⟨rfl, hb2⟩
  have HX2 := Lib.hid (HX1.out.later hb2)
  obtain ⟨d00, d01, d10, d11⟩ := HX2.out.cells
  clear hb2 c00 c01 c10 c11
  have hz := HZ.out
  go_wp2_with fail
  refine (HDV.out _ (HIA.out.later HX2.out.below) (HIB.out.later HX2.out.below)).mono ?_
  rintro e w3 ho
  obtain ⟨aq, cq, ar, cr, rfl, hiq, hir, hb3⟩ := HOV.out _ _ _ ho
  have HX3 := Lib.hid (HX2.out.later hb3)
  have HIQ := Lib.hid hiq
  have HIR := Lib.hid hir
  obtain ⟨c0, c1, c2, c3⟩ := HX3.out.cells
  clear ho hiq hir hb3 d00 d01 d10 d11 hz
  have hw := HW.out
  have hg := HG.out
  have hk := HK.out
  have hk2 := HK2.out
  go_wp2_with fail
  clear c0 c1 c2 c3
  have HXB := Lib.hid (HX3.out.heap (W' := w3.drew) rfl rfl rfl rfl)
  have e3 := HXB.out.cells
  have HXA := Lib.hid ((HX3.out.later (below_alloc w3 (.cells #[.int .i64 1] 3))).heap (W' := (w3.alloc (.cells #[.int .i64 1] 3)).drew) rfl rfl rfl rfl)
  have e4 := HXA.out.cells
  have HAL : Hid (RowKit.Below w3.heap.size w3 (w3.alloc (.cells #[.int .i64 1] 3)).drew) := (below_alloc w3 _).drew
  go_region_held3 (fun W => W.cell? ⟨w.heap.size, 0, none⟩ = some (.int .i64 a.sign) ∧ W.cell? ⟨w.heap.size, 1, none⟩ = some (.slice aa na ca) ∧ W.cell? ⟨w.heap.size + 1, 0, none⟩ = some (.int .i64 b.sign) ∧ W.cell? ⟨w.heap.size + 1, 1, none⟩ = some (.slice ab nb cb))
    (first | (with_reducible exact e3) | (with_reducible exact e4) | (with_reducible exact x4) | (with_reducible exact x5) | (with_reducible exact x6) | (with_reducible exact x7) | (with_reducible exact HX5.out.stay1 _ _) | (with_reducible exact HX5.out.stay2 _ _ _ _))
    (first
      | (go_at_call 115; (with_reducible refine (HPL.out _ _ _ _ ?_ ?_).mono ?_); (focus exact HIQ.out.later HAL.out); (focus exact ints_digs1 _); rintro e w6 ⟨v6, rfl, ho6, hb6, _⟩; obtain ⟨a6, c6, rfl⟩ := ho6.fit; have HX6 := Lib.hid (HXA.out.later hb6); have x6 := HX6.out.cells; have HI6 := Lib.hid (ho6.ints (by have := HL6.out; omega)); have HR6 := Lib.hid ((HIR.out.later HAL.out).later hb6); clear ho6 hb6)
      | (go_at_call 94; (with_reducible refine (HSQ.out _ _ _ ?_).mono ?_); (focus exact HI6.out); rintro e w4 ⟨s4, rfl, hi4, hb4, ho4⟩; obtain ⟨a4, c4, rfl, hj4⟩ := hi4.open; have HO4 := Lib.hid (ho4.mono HX6.out.size); have HF4 := Lib.hid (ho4.mono HX6.out.below.size); have HX4 := Lib.hid (HX6.out.later hb4); have HR4 := Lib.hid (HR6.out.later hb4); have x4 := HX4.out.cells; have HI4 := Lib.hid hj4; clear hi4 hj4 hb4 ho4)
      | (go_at_call 116; (with_reducible refine (HMI.out _ _ _ ?_ ?_).mono ?_); (focus exact HIB.out.later HX4.out.below); (focus exact HR4.out); rintro e w7 ⟨v7, rfl, ho7, hb7, _⟩; obtain ⟨a7, c7, rfl⟩ := ho7.fit; have HX7 := Lib.hid (HX4.out.later hb7); have x7 := HX7.out.cells; have HI7 := Lib.hid (ho7.ints (by have := HL7.out; omega)); have HI8 := Lib.hid (HI4.out.later hb7); clear ho7 hb7)
      | (go_at_call 94; (with_reducible refine (HSR.out _ _ _ ?_).mono ?_); (focus exact HI7.out); rintro e w5 ⟨s5, rfl, hi5, hb5, ho5⟩; obtain ⟨a5, c5, rfl, hj5⟩ := hi5.open; have HO5 := Lib.hid (ho5.mono HX7.out.size); have HF5 := Lib.hid (ho5.mono HX7.out.below.size); have HX5 := Lib.hid (HX7.out.later hb5); have x5 := HX5.out.cells; have HI5 := Lib.hid hj5; have HI9 := Lib.hid (HI8.out.later hb5); clear hi5 hj5 hb5 ho5; obtain ⟨⟨r0', r1, f0, f1⟩, t0, t1, g0, g1⟩ := HX5.out.rcells))
  go_wp2_with fail
  have o41 := HO4.out (w.heap.size + 1 + 1) (by simp)
  have o42 := HO4.out (w.heap.size + 1 + 1 + 1) (by simp)
  have o51 := HO5.out (w.heap.size + 1 + 1) (by simp)
  have o52 := HO5.out (w.heap.size + 1 + 1 + 1) (by simp)
  exact bodyPost_ret (v := .tuple #[.agg #[.int .i64 q.sign, .slice a4 (digs q.natAbs).length c4], .agg #[.int .i64 r.sign, .slice a5 (digs r.natAbs).length c5], .int .i64 0]) (by simp [results, Tryz.results93, go_sem, r0', r1, t0, t1]) rfl
    ⟨_, _, rfl, (((HI9.out.set o41 0 _).set o41 1 _).set o42 0 _).set o42 1 _, (((HI5.out.set o51 0 _).set o51 1 _).set o52 0 _).set o52 1 _,
      (((HX5.out.below.setCell (by simp; omega) _).setCell (by simp; omega) _).setCell (by simp; omega) _).setCell (by simp; omega) _, HF4.out, HF5.out⟩

theorem rdiv_ok (va vb : Value) (a b : Int) (w : World) (ha : IsB w va a) (hb : IsB w vb b) (hla : (digs a.natAbs).length ≤ 500000) (hlb : (digs b.natAbs).length ≤ 500000) (h0 : b ≠ 0) :
    Calls Tryz.prog 93 #[va, vb] w (AnsD (a.fdiv b) (a.fmod b) 0 w) := by
  by_cases h : 0 ≤ a.sign * b.sign
  · exact rdiv_plain va vb a b w ha hb hla hlb h0 h
  · by_cases k : a.natAbs % b.natAbs = 0
    · exact rdiv_zeror va vb a b w ha hb hla hlb h0 (by omega) k
    · exact rdiv_turn va vb a b w ha hb hla hlb h0 (by omega) k
end Go.Proofs.YtmhdhabgdlefjaaGreatDoor.Bi

namespace Go.Proofs.YtmhdhabgdlefjaaGreatDoor.Bi
open Go.RowKit

set_option maxHeartbeats 8000000 in
theorem rgcd_ok (va vb : Value) (a b : Int) (w : World) (ha : IsB w va a) (hb : IsB w vb b) (hla : (digs a.natAbs).length ≤ 500000) (hlb : (digs b.natAbs).length ≤ 500000) :
    Calls Tryz.prog 74 #[va, vb] w (Ans (Nat.gcd a.natAbs b.natAbs : Nat) 0 w) := by
  obtain ⟨sa, rfl, hia⟩ := id ha
  obtain ⟨sb, rfl, hib⟩ := id hb
  have HA := Lib.hid ha
  have HB := Lib.hid hb
  have HIA := Lib.hid hia
  have HIB := Lib.hid hib
  obtain ⟨aa, ca, rfl, _⟩ := hia.open
  obtain ⟨ab, cb, rfl, _⟩ := hib.open
  have HLA := Lib.hid hla
  have HLB := Lib.hid hlb
  obtain ⟨na, ena⟩ : ∃ n, (digs a.natAbs).length = n := ⟨_, rfl⟩
  obtain ⟨nb, enb⟩ : ∃ n, (digs b.natAbs).length = n := ⟨_, rfl⟩
  rw [ena] at HA HIA ⊢
  rw [enb] at HB HIB ⊢
  have hx := Bx.start w a.sign (.slice aa na ca) b.sign (.slice ab nb cb)
  have HX0 := Lib.hid hx
  obtain ⟨G, eG⟩ : ∃ G, Nat.gcd a.natAbs b.natAbs = G := ⟨_, rfl⟩
  have HG := Lib.hid eG
  rw [eG]
  clear ha hb hia hib hx ena enb hla hlb eG
  go_enter Tryz.func74, Tryz.ntmps74
  go_wp2_with fail
  refine (risb_any (HA.out.later HX0.out.below)).mono ?_
  rintro e w1 ⟨rfl, hb1⟩
  have HX1 := Lib.hid (HX0.out.later hb1)
  obtain ⟨c00, c01, c10, c11⟩ := HX1.out.cells
  clear hb1
  go_wp2_with fail
  refine (risb_any (HB.out.later HX1.out.below)).mono ?_
  rintro e w2 ⟨rfl, hb2⟩
  have HX2 := Lib.hid (HX1.out.later hb2)
  obtain ⟨d00, d01, d10, d11⟩ := HX2.out.cells
  clear hb2 c00 c01 c10 c11
  go_wp2_with fail
  clear d00 d01 d10 d11
  go_loopw [6, 7] (fun x y wr => ∃ X Y : Nat, Ints wr x (digs X) ∧ Ints wr y (digs Y) ∧ Nat.gcd X Y = G ∧ (digs X).length ≤ 500000 ∧ (digs Y).length ≤ 500000 ∧ Bx w a.sign (.slice aa na ca) b.sign (.slice ab nb cb) wr) (fun _ y wr => numOf y wr)
  case atStart => exact ⟨a.natAbs, b.natAbs, HIA.out.later HX2.out.below, HIB.out.later HX2.out.below, HG.out, HLA.out, HLB.out, HX2.out⟩
  case round =>
    obtain ⟨X, Y, hX, hY, hg, hlX, hlY, hB⟩ := hrel
    have hnum := numOf_eq hY
    obtain ⟨ax, cx, rfl, hX2⟩ := hX.open
    obtain ⟨ay, cy, rfl, hY2⟩ := hY.open
    have HX := Lib.hid hX2
    have HY := Lib.hid hY2
    have HGG := Lib.hid hg
    have HLEN := Lib.hid hlX
    have HLEM := Lib.hid hlY
    have HBX := Lib.hid hB
    have HNUM := Lib.hid hnum
    clear hX hY hX2 hY2 hg hlX hlY hB hnum
    by_cases hy0 : 0 < Y
    · have hcall := rover_n _ _ X Y wr HX.out HY.out (Nat.le_trans HLEN.out (by decide)) (Nat.le_trans HLEM.out (by decide)) hy0
      have hpos := digs_pos_len hy0
      have hmod := Nat.mod_lt X hy0
      have HMOD := Lib.hid hmod
      have HL2 : Hid ((digs (X % Y)).length ≤ 500000) := Nat.le_trans (digs_mono (Nat.le_of_lt hmod)) HLEM.out
      have HCALL := Lib.hid hcall
      obtain ⟨lx, elx⟩ : ∃ l, (digs X).length = l := ⟨_, rfl⟩
      obtain ⟨ly, ely⟩ : ∃ l, (digs Y).length = l := ⟨_, rfl⟩
      rw [elx] at HX HCALL ⊢
      rw [ely] at HY HCALL HNUM hpos ⊢
      have HEY := Lib.hid ely
      clear hcall hmod hy0 elx ely
      go_wp2_with fail
      refine HCALL.out.mono ?_
      rintro e w6 ⟨vq, vr, rfl, hoq, hor, hb6, _, _⟩
      obtain ⟨aq, cq, rfl⟩ := hoq.fit
      obtain ⟨ar, cr, rfl⟩ := hor.fit
      have hir := hor.ints (Nat.le_trans HL2.out (by decide))
      have hm := numOf_eq hir
      have HF : Hid (∃ X1 Y1 : Nat, Ints w6 (.slice ay ly cy) (digs X1) ∧ Ints w6 (.slice ar (digs (X % Y)).length cr) (digs Y1) ∧ Nat.gcd X1 Y1 = G ∧ (digs X1).length ≤ 500000 ∧ (digs Y1).length ≤ 500000 ∧ Bx w a.sign (.slice aa na ca) b.sign (.slice ab nb cb) w6) :=
        ⟨Y, X % Y, HY.out.later hb6, hir, by rw [← HGG.out, Nat.gcd_comm Y, ← Nat.gcd_rec, Nat.gcd_comm], HLEM.out, HL2.out, HBX.out.later hb6⟩
      have HM := Lib.hid hm
      obtain ⟨lq, elq⟩ : ∃ l, (digs (X / Y)).length = l := ⟨_, rfl⟩
      obtain ⟨lr, elr⟩ : ∃ l, (digs (X % Y)).length = l := ⟨_, rfl⟩
      rw [elr] at HF HM
      rw [elq, elr]
      clear hoq hor hb6 hir hm elq elr
      go_wp2_with fail
      go_roundw
      case rel => exact HF.out
      case measure =>
        show numOf (.slice ar lr cr) w6 < numOf (.slice ay ly cy) wr
        rw [HM.out, HNUM.out]; exact HMOD.out
    · obtain rfl : Y = 0 := by omega
      have hXG : X = G := by
        have h := HGG.out
        rw [Nat.gcd_zero_right] at h; exact h
      subst hXG
      rw [show (digs 0).length = 0 by rw [digs_zero]; rfl]
      have hm := fun W h => rmade_n 1 ax cx X (X : Int) (by simp) (fun hne => by rw [Int.sign_eq_one_of_pos (by omega)]) W h (Nat.le_trans HLEN.out (by decide))
      have HM := Lib.hid hm
      obtain ⟨lx, elx⟩ : ∃ l, (digs X).length = l := ⟨_, rfl⟩
      rw [elx] at HM HX ⊢
      clear hm elx
      go_wp2_with fail
      refine (HM.out _ HX.out).mono ?_
      rintro e w7 ⟨s7, rfl, hi7, hb7, ho7⟩
      obtain ⟨a7, c7, rfl, hj7⟩ := hi7.open
      have HO7 := Lib.hid ho7
      have HX7 := Lib.hid (HBX.out.later hb7)
      have HI7 := Lib.hid hj7
      clear hi7 hj7 hb7 ho7
      obtain ⟨r0, r1, f0, f1⟩ := HX7.out.rcells
      obtain ⟨sg, esg⟩ : ∃ sg, (X : Int).sign = sg := ⟨_, rfl⟩
      obtain ⟨lg, elg⟩ : ∃ lg, (digs (X : Int).natAbs).length = lg := ⟨_, rfl⟩
      rw [elg] at HI7 HO7
      rw [esg, elg]
      have HSG := Lib.hid esg
      clear esg elg
      go_wp2_with fail
      have hoff := HO7.out (w.heap.size + 1 + 1) HBX.out.size
      exact bodyPost_ret (v := .tuple #[.agg #[.int .i64 sg, .slice a7 lg c7], .int .i64 0]) (by simp [results, Tryz.results74, go_sem, r0, r1]) rfl
        ⟨_, by rw [HSG.out], (HI7.out.set hoff 0 _).set hoff 1 _, HX7.out.put _ _, fun g hg => HO7.out g (by have := HBX.out.size; omega)⟩
end Go.Proofs.YtmhdhabgdlefjaaGreatDoor.Bi

namespace Go.Proofs.YtmhdhabgdlefjaaGreatDoor.Bi
open Go.RowKit

set_option maxHeartbeats 4000000 in
theorem rcompare_ok (va vb : Value) (a b : Int) (w : World) (ha : IsB w va a) (hb : IsB w vb b) :
    Calls Tryz.prog 75 #[va, vb] w fun e w' => e = .returned (.int .i64 (cmpI a b)) ∧ RowKit.Below w.heap.size w w' := by
  have hsame := fun W (h : IsB W va a) (k : IsB W vb b) => rsame_any va vb a.sign b.sign (digs a.natAbs) (digs b.natAbs) W h.arg k.arg
  obtain ⟨K, eK⟩ : ∃ K, decide (a.sign = b.sign ∧ digs a.natAbs = digs b.natAbs) = K := ⟨_, rfl⟩
  rw [eK] at hsame
  have hK : K = decide (a = b) := by rw [← eK]; exact decide_eq_decide.2 num_eq
  obtain ⟨sa, rfl, hia⟩ := id ha
  obtain ⟨sb, rfl, hib⟩ := id hb
  have HA := Lib.hid ha
  have HB := Lib.hid hb
  have HIA := Lib.hid hia
  have HIB := Lib.hid hib
  obtain ⟨aa, ca, rfl, _⟩ := hia.open
  obtain ⟨ab, cb, rfl, _⟩ := hib.open
  have hless := fun W h k => rless_n (.slice aa (digs a.natAbs).length ca) (.slice ab (digs b.natAbs).length cb) a.natAbs b.natAbs W h k
  obtain ⟨L, eL⟩ : ∃ L, decide (a.natAbs < b.natAbs) = L := ⟨_, rfl⟩
  rw [eL] at hless
  obtain ⟨r, er⟩ : ∃ r, cmpI a b = r := ⟨_, rfl⟩
  have HS1 : Hid (a ≠ b → a.sign = b.sign → a.sign = 1 ∧ r = (if L then -1 else 1) ∨ a.sign = -1 ∧ r = (if L then 1 else -1)) := by
    unfold Hid
    intro hn hs
    subst er
    cases L
    · have hL := of_decide_eq_false eL
      rcases sgn_is a with ⟨k, k'⟩ | ⟨k, k'⟩ | ⟨k, k'⟩ <;> rcases sgn_is b with ⟨l, l'⟩ | ⟨l, l'⟩ | ⟨l, l'⟩ <;> rw [k', l'] at hs <;> first | (exfalso; omega) | (left; refine ⟨k', ?_⟩; rw [cmpI_gt (by omega)]; rfl) | (right; refine ⟨k', ?_⟩; rw [cmpI_lt (by omega)]; rfl)
    · have hL := of_decide_eq_true eL
      rcases sgn_is a with ⟨k, k'⟩ | ⟨k, k'⟩ | ⟨k, k'⟩ <;> rcases sgn_is b with ⟨l, l'⟩ | ⟨l, l'⟩ | ⟨l, l'⟩ <;> rw [k', l'] at hs <;> first | (exfalso; omega) | (left; refine ⟨k', ?_⟩; rw [cmpI_lt (by omega)]; rfl) | (right; refine ⟨k', ?_⟩; rw [cmpI_gt (by omega)]; rfl)
  have HS2 : Hid (a.sign ≠ b.sign → cmpI a.sign b.sign = r) := by rw [← er]; exact cmp_signs'
  have HEQ : Hid (a = b → r = 0) := by unfold Hid; rintro rfl; rw [← er]; exact cmpI_eq _
  obtain ⟨na, ena⟩ : ∃ n, (digs a.natAbs).length = n := ⟨_, rfl⟩
  obtain ⟨nb, enb⟩ : ∃ n, (digs b.natAbs).length = n := ⟨_, rfl⟩
  rw [ena] at HA HIA hless hsame ⊢
  rw [enb] at HB HIB hless hsame ⊢
  have hx := Bo.start w a.sign (.slice aa na ca) b.sign (.slice ab nb cb)
  have HX0 := Lib.hid hx
  have HSAME := Lib.hid hsame
  have HLESS := Lib.hid hless
  rw [er]
  have HK := Lib.hid hK
  clear ha hb hia hib hx ena enb er eL eK hsame hless hK
  by_cases hab : a = b
  · obtain rfl : r = 0 := HEQ.out hab
    have hKt : K = true := by rw [HK.out]; exact decide_eq_true hab
    subst hKt
    clear hab HS1 HS2 HEQ HK
    go_enter Tryz.func75, Tryz.ntmps75
    go_wp2_with fail
    refine (risb_any (HA.out.later HX0.out.below)).mono ?_
    rintro e w1 ⟨rfl, hb1⟩
    have HX1 := Lib.hid (HX0.out.later hb1)
    obtain ⟨c00, c01, c10, c11⟩ := HX1.out.cells
    clear hb1
    go_wp2_with fail
    refine (risb_any (HB.out.later HX1.out.below)).mono ?_
    rintro e w2 ⟨rfl, hb2⟩
    have HX2 := Lib.hid (HX1.out.later hb2)
    obtain ⟨d00, d01, d10, d11⟩ := HX2.out.cells
    clear hb2 c00 c01 c10 c11
    go_wp2_with fail
    refine (HSAME.out _ (HA.out.later HX2.out.below) (HB.out.later HX2.out.below)).mono ?_
    rintro e w3 ⟨rfl, hb3⟩
    have HX3 := Lib.hid (HX2.out.later hb3)
    obtain ⟨c00, c01, c10, c11⟩ := HX3.out.cells
    clear hb3 d00 d01 d10 d11
    go_wp2_with fail
    go_ret
    exact ⟨rfl, HX3.out.below⟩
  · have hKt : K = false := by rw [HK.out]; exact decide_eq_false hab
    subst hKt
    have HS3 := Lib.hid (HS1.out hab)
    clear HS1 HEQ HK
    obtain ⟨x, ex⟩ : ∃ x, a.sign = x := ⟨_, rfl⟩
    obtain ⟨y, ey⟩ : ∃ y, b.sign = y := ⟨_, rfl⟩
    have hxb := sgn_bd a
    have hyb := sgn_bd b
    rw [ex] at hxb HS2 HS3 HX0 HA HSAME ⊢
    rw [ey] at hyb HS2 HS3 HX0 HB HSAME ⊢
    clear ex ey hab
    by_cases hxy : x = y
    · subst hxy
      have H4 := Lib.hid (HS3.out rfl)
      clear HS2 HS3 hyb
      go_enter Tryz.func75, Tryz.ntmps75
      go_wp2_with fail
      refine (risb_any (HA.out.later HX0.out.below)).mono ?_
      rintro e w1 ⟨rfl, hb1⟩
      have HX1 := Lib.hid (HX0.out.later hb1)
      obtain ⟨c00, c01, c10, c11⟩ := HX1.out.cells
      clear hb1
      go_wp2_with fail
      refine (risb_any (HB.out.later HX1.out.below)).mono ?_
      rintro e w2 ⟨rfl, hb2⟩
      have HX2 := Lib.hid (HX1.out.later hb2)
      obtain ⟨d00, d01, d10, d11⟩ := HX2.out.cells
      clear hb2 c00 c01 c10 c11
      go_wp2_with fail
      refine (HSAME.out _ (HA.out.later HX2.out.below) (HB.out.later HX2.out.below)).mono ?_
      rintro e w3 ⟨rfl, hb3⟩
      have HX3 := Lib.hid (HX2.out.later hb3)
      obtain ⟨c00, c01, c10, c11⟩ := HX3.out.cells
      clear hb3 d00 d01 d10 d11
      have HI1 := Lib.hid (HIA.out.later HX3.out.below)
      have HI2 := Lib.hid (HIB.out.later HX3.out.below)
      rcases H4.out with ⟨rfl, e4⟩ | ⟨rfl, e4⟩ <;> cases L <;> simp only [Bool.false_eq_true, ↓reduceIte] at e4 <;> subst e4
      all_goals
        clear H4
        go_wp2_with fail
        go_quiet ((go_at_call 101; exact Calls.quiet_of ((HLESS.out _ (HI1.out.drewN _) (HI2.out.drewN _)).mono fun _ _ h => ⟨h.1, 0, h.2.symm⟩)))
        go_wp2_with fail
        go_ret
        exact ⟨rfl, HX3.out.below.trans ((below_drewN' nq).mono HX3.out.below.size)⟩
    · have HC := Lib.hid (HS2.out hxy)
      clear HS2 HS3
      rcases Int.lt_or_gt_of_ne hxy with hlt | hlt
      · obtain rfl : r = -1 := by rw [← HC.out]; exact cmpI_lt hlt
        clear HC
        go_enter Tryz.func75, Tryz.ntmps75
        go_wp2_with fail
        refine (risb_any (HA.out.later HX0.out.below)).mono ?_
        rintro e w1 ⟨rfl, hb1⟩
        have HX1 := Lib.hid (HX0.out.later hb1)
        obtain ⟨c00, c01, c10, c11⟩ := HX1.out.cells
        clear hb1
        go_wp2_with fail
        refine (risb_any (HB.out.later HX1.out.below)).mono ?_
        rintro e w2 ⟨rfl, hb2⟩
        have HX2 := Lib.hid (HX1.out.later hb2)
        obtain ⟨d00, d01, d10, d11⟩ := HX2.out.cells
        clear hb2 c00 c01 c10 c11
        go_wp2_with fail
        refine (HSAME.out _ (HA.out.later HX2.out.below) (HB.out.later HX2.out.below)).mono ?_
        rintro e w3 ⟨rfl, hb3⟩
        have HX3 := Lib.hid (HX2.out.later hb3)
        obtain ⟨c00, c01, c10, c11⟩ := HX3.out.cells
        clear hb3 d00 d01 d10 d11
        have hq : (x != y) = true := by simpa using hxy
        have hq2 : decide (x < y) = true := decide_eq_true hlt
        go_wp2_with fail
        go_ret
        exact ⟨rfl, HX3.out.below⟩
      · obtain rfl : r = 1 := by rw [← HC.out]; exact cmpI_gt hlt
        clear HC
        go_enter Tryz.func75, Tryz.ntmps75
        go_wp2_with fail
        refine (risb_any (HA.out.later HX0.out.below)).mono ?_
        rintro e w1 ⟨rfl, hb1⟩
        have HX1 := Lib.hid (HX0.out.later hb1)
        obtain ⟨c00, c01, c10, c11⟩ := HX1.out.cells
        clear hb1
        go_wp2_with fail
        refine (risb_any (HB.out.later HX1.out.below)).mono ?_
        rintro e w2 ⟨rfl, hb2⟩
        have HX2 := Lib.hid (HX1.out.later hb2)
        obtain ⟨d00, d01, d10, d11⟩ := HX2.out.cells
        clear hb2 c00 c01 c10 c11
        go_wp2_with fail
        refine (HSAME.out _ (HA.out.later HX2.out.below) (HB.out.later HX2.out.below)).mono ?_
        rintro e w3 ⟨rfl, hb3⟩
        have HX3 := Lib.hid (HX2.out.later hb3)
        obtain ⟨c00, c01, c10, c11⟩ := HX3.out.cells
        clear hb3 d00 d01 d10 d11
        have hq : (x != y) = true := by simpa using hxy
        have hq2 : decide (x < y) = false := decide_eq_false (by omega)
        go_wp2_with fail
        go_ret
        exact ⟨rfl, HX3.out.below⟩
end Go.Proofs.YtmhdhabgdlefjaaGreatDoor.Bi

namespace Go.Proofs.YtmhdhabgdlefjaaGreatDoor.Bi
open Go.RowKit

set_option maxHeartbeats 2000000 in
theorem rof_zero (w : World) : Calls Tryz.prog 64 #[.int .i64 0] w (AnsB 0 w) := by
  have HR : Hid (Res w (w.alloc (.cells #[.int .i64 0, .slice none 0 0] 26))) := alloc_at _ _
  obtain ⟨r0, r1, f0, f1⟩ := HR.out.cells
  go_enter Tryz.func64, Tryz.ntmps64
  go_wp2_with fail
  exact bodyPost_ret (v := .agg #[.int .i64 0, .slice none 0 0]) (by simp [results, Tryz.results64, go_sem]) rfl
    ⟨_, rfl, by rw [show (0 : Int).natAbs = 0 from rfl, digs_zero]; exact Ints.nil _, below_alloc _ _, fun g _ => off_nil g 0 0⟩

set_option maxHeartbeats 4000000 in
theorem rof_pos (n : Int) (h0 : -9223372036854775808 ≤ n) (h1 : n ≤ 9223372036854775807) (hn : 0 < n) (w : World) :
    Calls Tryz.prog 64 #[.int .i64 n] w (AnsB n w) := by
  have hR : OfR w n (.slice none 0 0) [] n.natAbs (w.alloc (.cells #[.int .i64 0, .slice none 0 0] 26)) :=
    ⟨OwnI.nil _, by simp, below_alloc _ _, alloc_at _ _, fun b hb => by simp [blk] at hb, by omega⟩
  have HR := Lib.hid hR
  have HN : Hid (n.natAbs ≤ 9223372036854775808) := by unfold Hid; omega
  have HM : Hid (∀ W A C, Ints W (.slice A (digs n.natAbs).length C) (digs n.natAbs) → Calls Tryz.prog 94 #[.int .i64 (1), .slice A (digs n.natAbs).length C] W (AnsB n W)) := fun W A C hW => rmade_n (1) A C n.natAbs n rfl (fun _ => by rw [Int.sign_eq_one_of_pos hn]) W hW (Nat.le_trans (digs_len4 (by omega)) (by decide))
  clear hR
  have hz : (n == 0) = false := by simp; omega
  have hl : decide (n < 0) = false := by simp; omega
  have HRN : Hid (∃ R : Nat, n = (R : Int) ∧ n.natAbs = R) := ⟨n.natAbs, by omega, rfl⟩
  go_enter Tryz.func64, Tryz.ntmps64
  go_wp2_with fail
  clear hz hl
  go_loopw [0, 4] (fun r v wr => ∃ (R : Nat) (l : List Int) (ρ : Int), r = .int .i64 ρ ∧ ρ = (R : Int) ∧ R ≤ 9223372036854775808 ∧ OfR w n v l R wr) (fun r _ _ => (intOf r).natAbs)
  case atStart =>
    obtain ⟨R, e1, e2⟩ := HRN.out
    exact ⟨R, [], n, rfl, e1, by have := HN.out; omega, by rw [← e2]; exact HR.out⟩
  case round =>
    obtain ⟨R, l, ρ, rfl, hρ, hle, hO⟩ := hrel
    obtain ⟨a0, c0, rfl, _, _⟩ := hO.own.shape
    by_cases hR0 : R = 0
    · subst hR0
      obtain rfl : ρ = 0 := by omega
      have hl4 := hO.len HN.out
      have he := hO.eq
      rw [digs_zero, List.append_nil] at he
      have hi := hO.own.ints (by omega)
      rw [← he] at hi
      have HI := Lib.hid hi
      have HO := Lib.hid hO
      rw [← he] at HO ⊢
      clear hO hi hl4 he hρ hle
      go_wp2_with fail
      refine (HM.out _ _ _ HI.out).mono ?_
      rintro e w7 ⟨s7, rfl, hi7, hb7, ho7⟩
      obtain ⟨a7, c7, rfl, hj7⟩ := hi7.open
      have HRES : Hid (Res w w7) := by
        have hres := HO.out.res
        have hsz : w.heap.size < wr.heap.size := (Array.getElem?_eq_some_iff.1 hres).1
        exact (hb7.block _ hsz).trans hres
      have HB7 := Lib.hid (HO.out.below.trans (hb7.mono HO.out.below.size))
      have HI7 := Lib.hid hj7
      have HO7 := Lib.hid ho7
      obtain ⟨r0, r1, f0, f1⟩ := HRES.out.cells
      clear hi7 hj7 hb7 ho7
      go_wp2_with fail
      have hsz : w.heap.size < wr.heap.size := (Array.getElem?_eq_some_iff.1 HO.out.res).1
      have hoff := HO7.out w.heap.size hsz
      exact bodyPost_ret (v := .agg #[.int .i64 n.sign, .slice a7 (digs n.natAbs).length c7]) (by simp [results, Tryz.results64, go_sem, r0, r1]) rfl
        ⟨_, rfl, (HI7.out.set hoff 0 _).set hoff 1 _, (HB7.out.setCell (Nat.le_refl _) _).setCell (Nat.le_refl _) _, HO7.out.mono (Nat.le_of_lt hsz)⟩
    · have hpos : 0 < R := by omega
      obtain ⟨a, c, w', hrun, hO'⟩ := hO.next HN.out hpos
      obtain ⟨y, ey⟩ : ∃ y : Nat, R % 1048576 = y := ⟨_, rfl⟩
      obtain ⟨q, eq⟩ : ∃ q : Nat, R / 1048576 = q := ⟨_, rfl⟩
      rw [ey] at hrun hO'
      rw [eq] at hO'
      obtain ⟨t, et⟩ : ∃ t, (y : Int) = t := ⟨_, rfl⟩
      obtain ⟨u, eu⟩ : ∃ u, (q : Int) = u := ⟨_, rfl⟩
      have hmod : Int.tmod ρ 1048576 = t := by rw [hρ, ← et, Int.tmod_eq_emod_of_nonneg (by omega)]; omega
      have hdiv : Int.tdiv ρ 1048576 = u := by rw [hρ, ← eu, Int.tdiv_eq_ediv_of_nonneg (by omega)]; omega
      have hw1 : IntKind.i64.wrap t = t := IntWalk.i64_in _ (by omega)
      have hw2 : IntKind.i64.wrap u = u := IntWalk.i64_in _ (by omega)
      have hw3 : IntKind.i64.wrap (-t) = -t := IntWalk.i64_in _ (by omega)
      have hne : (ρ != 0) = true := by simp; omega
      have hun : u.natAbs < ρ.natAbs := by omega
      have HU := Lib.hid hun
      have HQL : Hid (q ≤ 9223372036854775808) := by unfold Hid; omega
      have HO' := Lib.hid hO'
      have HEU : Hid (u = (q : Int)) := eu.symm
      obtain ⟨Y, eY⟩ : ∃ Y : Int, (y : Int) = Y := ⟨_, rfl⟩
      rw [eY] at hrun HO'
      have hd : decide (t < 0) = false := decide_eq_false (by omega)
      obtain rfl : Y = t := by omega
      clear hO ey eq et eu hρ hle hR0 hpos eY hun hw3
      go_wp2_with (at_builtin; refine Lib.wpList_append_run _ rfl _ _ _ _ rfl _ _ rfl rfl _ _ (hrun _) ?_)
      go_roundw
      case rel => exact ⟨q, _, _, rfl, HEU.out, HQL.out, HO'.out⟩
      case measure => exact HU.out

set_option maxHeartbeats 4000000 in
theorem rof_neg (n : Int) (h0 : -9223372036854775808 ≤ n) (h1 : n ≤ 9223372036854775807) (hn : n < 0) (w : World) :
    Calls Tryz.prog 64 #[.int .i64 n] w (AnsB n w) := by
  have hR : OfR w n (.slice none 0 0) [] n.natAbs (w.alloc (.cells #[.int .i64 0, .slice none 0 0] 26)) :=
    ⟨OwnI.nil _, by simp, below_alloc _ _, alloc_at _ _, fun b hb => by simp [blk] at hb, by omega⟩
  have HR := Lib.hid hR
  have HN : Hid (n.natAbs ≤ 9223372036854775808) := by unfold Hid; omega
  have HM : Hid (∀ W A C, Ints W (.slice A (digs n.natAbs).length C) (digs n.natAbs) → Calls Tryz.prog 94 #[.int .i64 (-1), .slice A (digs n.natAbs).length C] W (AnsB n W)) := fun W A C hW => rmade_n (-1) A C n.natAbs n rfl (fun _ => by rw [Int.sign_eq_neg_one_of_neg hn]) W hW (Nat.le_trans (digs_len4 (by omega)) (by decide))
  clear hR
  have hz : (n == 0) = false := by simp; omega
  have hl : decide (n < 0) = true := by simp; omega
  have HRN : Hid (∃ R : Nat, n = -(R : Int) ∧ n.natAbs = R) := ⟨n.natAbs, by omega, rfl⟩
  go_enter Tryz.func64, Tryz.ntmps64
  go_wp2_with fail
  clear hz hl
  go_loopw [0, 4] (fun r v wr => ∃ (R : Nat) (l : List Int) (ρ : Int), r = .int .i64 ρ ∧ ρ = -(R : Int) ∧ R ≤ 9223372036854775808 ∧ OfR w n v l R wr) (fun r _ _ => (intOf r).natAbs)
  case atStart =>
    obtain ⟨R, e1, e2⟩ := HRN.out
    exact ⟨R, [], n, rfl, e1, by have := HN.out; omega, by rw [← e2]; exact HR.out⟩
  case round =>
    obtain ⟨R, l, ρ, rfl, hρ, hle, hO⟩ := hrel
    obtain ⟨a0, c0, rfl, _, _⟩ := hO.own.shape
    by_cases hR0 : R = 0
    · subst hR0
      obtain rfl : ρ = 0 := by omega
      have hl4 := hO.len HN.out
      have he := hO.eq
      rw [digs_zero, List.append_nil] at he
      have hi := hO.own.ints (by omega)
      rw [← he] at hi
      have HI := Lib.hid hi
      have HO := Lib.hid hO
      rw [← he] at HO ⊢
      clear hO hi hl4 he hρ hle
      go_wp2_with fail
      refine (HM.out _ _ _ HI.out).mono ?_
      rintro e w7 ⟨s7, rfl, hi7, hb7, ho7⟩
      obtain ⟨a7, c7, rfl, hj7⟩ := hi7.open
      have HRES : Hid (Res w w7) := by
        have hres := HO.out.res
        have hsz : w.heap.size < wr.heap.size := (Array.getElem?_eq_some_iff.1 hres).1
        exact (hb7.block _ hsz).trans hres
      have HB7 := Lib.hid (HO.out.below.trans (hb7.mono HO.out.below.size))
      have HI7 := Lib.hid hj7
      have HO7 := Lib.hid ho7
      obtain ⟨r0, r1, f0, f1⟩ := HRES.out.cells
      clear hi7 hj7 hb7 ho7
      go_wp2_with fail
      have hsz : w.heap.size < wr.heap.size := (Array.getElem?_eq_some_iff.1 HO.out.res).1
      have hoff := HO7.out w.heap.size hsz
      exact bodyPost_ret (v := .agg #[.int .i64 n.sign, .slice a7 (digs n.natAbs).length c7]) (by simp [results, Tryz.results64, go_sem, r0, r1]) rfl
        ⟨_, rfl, (HI7.out.set hoff 0 _).set hoff 1 _, (HB7.out.setCell (Nat.le_refl _) _).setCell (Nat.le_refl _) _, HO7.out.mono (Nat.le_of_lt hsz)⟩
    · have hpos : 0 < R := by omega
      obtain ⟨a, c, w', hrun, hO'⟩ := hO.next HN.out hpos
      obtain ⟨y, ey⟩ : ∃ y : Nat, R % 1048576 = y := ⟨_, rfl⟩
      obtain ⟨q, eq⟩ : ∃ q : Nat, R / 1048576 = q := ⟨_, rfl⟩
      rw [ey] at hrun hO'
      rw [eq] at hO'
      obtain ⟨t, et⟩ : ∃ t, -(y : Int) = t := ⟨_, rfl⟩
      obtain ⟨u, eu⟩ : ∃ u, -(q : Int) = u := ⟨_, rfl⟩
      have hmod : Int.tmod ρ 1048576 = t := by rw [hρ, ← et, Int.neg_tmod, Int.tmod_eq_emod_of_nonneg (by omega)]; omega
      have hdiv : Int.tdiv ρ 1048576 = u := by rw [hρ, ← eu, Int.neg_tdiv, Int.tdiv_eq_ediv_of_nonneg (by omega)]; omega
      have hw1 : IntKind.i64.wrap t = t := IntWalk.i64_in _ (by omega)
      have hw2 : IntKind.i64.wrap u = u := IntWalk.i64_in _ (by omega)
      have hw3 : IntKind.i64.wrap (-t) = -t := IntWalk.i64_in _ (by omega)
      have hne : (ρ != 0) = true := by simp; omega
      have hun : u.natAbs < ρ.natAbs := by omega
      have HU := Lib.hid hun
      have HQL : Hid (q ≤ 9223372036854775808) := by unfold Hid; omega
      have HO' := Lib.hid hO'
      have HEU : Hid (u = -(q : Int)) := eu.symm
      obtain ⟨Y, eY⟩ : ∃ Y : Int, (y : Int) = Y := ⟨_, rfl⟩
      rw [eY] at hrun HO'
      by_cases ht : t < 0
      · have hd : decide (t < 0) = true := decide_eq_true ht
        obtain rfl : Y = -t := by omega
        clear hO ey eq et eu hρ hle hR0 hpos eY hun
        go_wp2_with (at_builtin; refine Lib.wpList_append_run _ rfl _ _ _ _ rfl _ _ rfl rfl _ _ (hrun _) ?_)
        go_roundw
        case rel => exact ⟨q, _, _, rfl, HEU.out, HQL.out, HO'.out⟩
        case measure => exact HU.out
      · have hd : decide (t < 0) = false := decide_eq_false ht
        obtain rfl : Y = t := by omega
        clear hO ey eq et eu hρ hle hR0 hpos eY hun hw3
        go_wp2_with (at_builtin; refine Lib.wpList_append_run _ rfl _ _ _ _ rfl _ _ rfl rfl _ _ (hrun _) ?_)
        go_roundw
        case rel => exact ⟨q, _, _, rfl, HEU.out, HQL.out, HO'.out⟩
        case measure => exact HU.out

theorem rof_any (n : Int) (h0 : -9223372036854775808 ≤ n) (h1 : n ≤ 9223372036854775807) (w : World) :
    Calls Tryz.prog 64 #[.int .i64 n] w (AnsB n w) := by
  rcases Int.lt_trichotomy n 0 with h | h | h
  · exact rof_neg n h0 h1 h w
  · subst h; exact rof_zero w
  · exact rof_pos n h0 h1 h w
end Go.Proofs.YtmhdhabgdlefjaaGreatDoor.Bi

namespace Go.Proofs.YtmhdhabgdlefjaaGreatDoor.Bi
open Go.RowKit

/-- The box of one argument. -/
structure Bu (w : World) (sa : Int) (va : Value) (W : World) : Prop where
  cells : W.cell? ⟨w.heap.size, 0, none⟩ = some (.int .i64 sa) ∧ W.cell? ⟨w.heap.size, 1, none⟩ = some va
  below : RowKit.Below w.heap.size w W
  size : w.heap.size < W.heap.size
theorem Bu.start (w : World) (sa : Int) (va : Value) : Bu w sa va (w.alloc (.cells #[.int .i64 sa, va] 26)) := by
  have h' := alloc_at w (.cells #[.int .i64 sa, va] 26)
  exact ⟨⟨by rw [cell_of_row _ _ _ _ _ _ h']; rfl, by rw [cell_of_row _ _ _ _ _ _ h']; rfl⟩, below_alloc _ _, by simp⟩
theorem Bu.later {w W W' : World} {sa : Int} {va : Value} (h : Bu w sa va W) (hb : RowKit.Below W.heap.size W W') : Bu w sa va W' := by
  have hz := h.size
  obtain ⟨c0, c1⟩ := h.cells
  have hc : ∀ b o, b < W.heap.size → W'.cell? ⟨b, o, none⟩ = W.cell? ⟨b, o, none⟩ := fun b o hb' => hb.cell (p := ⟨b, o, none⟩) hb'
  exact ⟨⟨(hc _ _ (by omega)).trans c0, (hc _ _ (by omega)).trans c1⟩, h.below.trans (hb.mono h.below.size), Nat.lt_of_lt_of_le hz hb.size⟩
theorem Bu.heap {w W W' : World} {sa : Int} {va : Value} (h : Bu w sa va W) (hb : W'.heap = W.heap) (h1 : W'.os = W.os) (h2 : W'.tape = W.tape) (h3 : W'.output = W.output) : Bu w sa va W' :=
  h.later ⟨h1, h2, h3, by rw [hb]; exact Nat.le_refl _, fun k _ => by rw [hb]⟩

end Go.Proofs.YtmhdhabgdlefjaaGreatDoor.Bi

namespace Go.Proofs.YtmhdhabgdlefjaaGreatDoor.Bi
open Go.RowKit

/-- What Read leaves. -/
def ReadP (rs : Option Int) (w : World) (e : Ending) (w' : World) : Prop := match rs with | some z => Ans z 0 w e w' | none => Ans 0 2 w e w'
theorem ReadP.some {rs : Option Int} {z : Int} {w w' : World} {e : Ending} (h : rs = Option.some z) (ha : Ans z 0 w e w') : ReadP rs w e w' := by subst h; exact ha
end Go.Proofs.YtmhdhabgdlefjaaGreatDoor.Bi
