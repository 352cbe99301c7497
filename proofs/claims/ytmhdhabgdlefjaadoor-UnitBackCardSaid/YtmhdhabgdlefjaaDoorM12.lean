/- The contracts of Same, Int, Of of frac, and of the laws' own Same, Few, right, of. -/
import Derived.Test.YtmhdhabgdlefjaaDoorM11
set_option maxRecDepth 100000
namespace Go.Proofs.YtmhdhabgdlefjaaDoor.Bi
open Go.RowKit

set_option maxHeartbeats 2000000 in
theorem rsb_any (va vb : Value) (s t : Int) (l m : List Int) (w : World) (ha : Arg w va s l) (hb : Arg w vb t m) :
    Calls Tryd.prog 24 #[va, vb] w fun e w' => e = .returned (.bool (decide (s = t ∧ l = m))) ∧ RowKit.Below w.heap.size w w' := by
  obtain ⟨va', rfl, hia⟩ := id ha
  obtain ⟨vb', rfl, hib⟩ := id hb
  obtain ⟨aa, ca, rfl, ha1, ha2, ha3⟩ := id hia
  obtain ⟨ab, cb, rfl, hb1, hb2, hb3⟩ := id hib
  obtain ⟨na, ena⟩ : ∃ n, l.length = n := ⟨_, rfl⟩
  obtain ⟨nb, enb⟩ : ∃ n, m.length = n := ⟨_, rfl⟩
  have HCA : Hid (∀ k, k < na → ∃ b o, aa = some ⟨b, o, none⟩ ∧ ∀ A B q, (((w.alloc A).alloc B).drewN q).cell? ⟨b, o + k, none⟩ = some (.int .i64 (l.getD k 0))) := by
    intro k hk
    obtain ⟨b, o, e, hlt, hr⟩ := ha3.resolve_left (fun e => by rw [e] at ena; simp at ena; omega)
    exact ⟨b, o, e, fun A B q => ((two_alloc w A B).cell (p := ⟨b, o + k, none⟩) hlt).trans (hr k (by omega))⟩
  have HCB : Hid (∀ k, k < nb → ∃ b o, ab = some ⟨b, o, none⟩ ∧ ∀ A B q, (((w.alloc A).alloc B).drewN q).cell? ⟨b, o + k, none⟩ = some (.int .i64 (m.getD k 0))) := by
    intro k hk
    obtain ⟨b, o, e, hlt, hr⟩ := hb3.resolve_left (fun e => by rw [e] at enb; simp at enb; omega)
    exact ⟨b, o, e, fun A B q => ((two_alloc w A B).cell (p := ⟨b, o + k, none⟩) hlt).trans (hr k (by omega))⟩
  have HLA := Lib.hid ena
  have HLB := Lib.hid enb
  rw [ena] at ha1 ha2 ⊢
  rw [enb] at hb1 hb2 ⊢
  by_cases hst : s = t
  · subst hst
    by_cases hl : na = nb
    · subst hl
      have hd : decide (s = s ∧ l = m) = decide (l = m) := by simp
      rw [hd]
      clear ha hb hia hib ha3 hb3 ena enb hd
      go_enter Tryd.func24, Tryd.ntmps24
      go_wp2_with fail
      go_loopw [5] (fun t wr => ∃ k q : Nat, k ≤ na ∧ t = .int .i64 k ∧ l.take k = m.take k ∧ wr = ((w.alloc (.cells #[.int .i64 s, .slice aa na ca] 26)).alloc (.cells #[.int .i64 s, .slice ab na cb] 26)).drewN q) (fun t _ => na - (intOf t).toNat)
      case atStart => exact ⟨0, 0, Nat.zero_le _, rfl, rfl, rfl⟩
      case round =>
        obtain ⟨k, q, hk, rfl, htk, rfl⟩ := hrel
        have HT := Lib.hid htk
        clear htk
        by_cases hlt : k < na
        · obtain ⟨b, o, rfl, hcx0⟩ := HCA.out k hlt
          obtain ⟨b', o', rfl, hcy0⟩ := HCB.out k hlt
          have hcx := hcx0 (.cells #[.int .i64 s, .slice (some ⟨b, o, none⟩) na ca] 26) (.cells #[.int .i64 s, .slice (some ⟨b', o', none⟩) na cb] 26) q
          have hcy := hcy0 (.cells #[.int .i64 s, .slice (some ⟨b, o, none⟩) na ca] 26) (.cells #[.int .i64 s, .slice (some ⟨b', o', none⟩) na cb] 26) q
          clear hcx0 hcy0
          simp only [World.cell?_drewN] at hcx hcy
          obtain ⟨x, ex⟩ : ∃ x, l.getD k 0 = x := ⟨_, rfl⟩
          obtain ⟨y, ey⟩ : ∃ y, m.getD k 0 = y := ⟨_, rfl⟩
          rw [ex] at hcx
          rw [ey] at hcy
          have HX := Lib.hid ex
          have HY := Lib.hid ey
          have hki : (k : Int) < na := by omega
          clear ex ey
          have hs1 := fun h1 : k < l.length => List.take_succ_eq_append_getElem h1
          have hs2 := fun h1 : k < m.length => List.take_succ_eq_append_getElem h1
          have HS1 := Lib.hid hs1
          have HS2 := Lib.hid hs2
          clear hs1 hs2
          by_cases hxy : x = y
          · subst hxy
            have hq : (x != x) = false := by simp
            go_wp2_with fail
            go_quiet (fail)
            go_wp2_with fail
            go_roundw
            case rel =>
              refine ⟨k + 1, _, by omega, by go_num, ?_, rfl⟩
              have h1 : k < l.length := by rw [HLA.out]; exact hlt
              have h2 : k < m.length := by rw [HLB.out]; exact hlt
              rw [HS1.out h1, HS2.out h2, HT.out]
              have e1 : l[k] = x := by have := HX.out; rw [List.getD_eq_getElem?_getD, List.getElem?_eq_getElem h1] at this; exact this
              have e2 : m[k] = x := by have := HY.out; rw [List.getD_eq_getElem?_getD, List.getElem?_eq_getElem h2] at this; exact this
              rw [e1, e2]
            case measure => simp [intOf]; omega
          · have hq : (x != y) = true := by simpa using hxy
            have hne : decide (l = m) = false := by
              simp; intro e
              have h1 := HX.out
              rw [e, HY.out] at h1
              exact hxy h1.symm
            have HNE := Lib.hid hne
            clear hxy hne
            go_wp2_with fail
            go_quiet (fail)
            go_wp2_with fail
            go_ret
            rw [HNE.out]
            exact ⟨rfl, (two_alloc _ _ _).trans (⟨rfl, rfl, rfl, Nat.le_refl _, fun _ _ => rfl⟩)⟩
        · obtain rfl : k = na := by omega
          have heq : decide (l = m) = true := by
            have h := HT.out
            rw [List.take_of_length_le (by rw [HLA.out]; omega), List.take_of_length_le (by rw [HLB.out]; omega)] at h
            simpa using h
          have HEQ := Lib.hid heq
          clear heq
          go_wp2_with fail
          go_ret
          rw [HEQ.out]
          exact ⟨rfl, (two_alloc _ _ _).trans (⟨rfl, rfl, rfl, Nat.le_refl _, fun _ _ => rfl⟩)⟩
    · have hd : decide (s = s ∧ l = m) = false := by
        simp; intro e
        rw [e] at HLA
        exact hl (HLA.out.symm.trans HLB.out)
      rw [hd]
      have hq : ((na : Int) != nb) = true := by simp; omega
      clear ha hb hia hib ha3 hb3 ena enb hd hl
      go_enter Tryd.func24, Tryd.ntmps24
      go_wp2_with fail
      go_ret
      exact ⟨rfl, two_alloc _ _ _⟩
  · have hd : decide (s = t ∧ l = m) = false := by simp [hst]
    rw [hd]
    have hq : (s != t) = true := by simpa using hst
    clear ha hb hia hib ha3 hb3 ena enb hd hst
    go_enter Tryd.func24, Tryd.ntmps24
    go_wp2_with fail
    go_ret
    exact ⟨rfl, two_alloc _ _ _⟩


set_option maxHeartbeats 2000000 in
theorem rfsame_raw (sp : Int) (ap : Option Addr) (np cp : Nat) (lp : List Int) (sq : Int) (aq : Option Addr) (nq cq : Nat) (lq : List Int) (tp : Int) (bp : Option Addr) (mp dp : Nat) (kp : List Int) (tq : Int) (bq : Option Addr) (mq dq : Nat) (kq : List Int) (w : World) (hp : Ints w (.slice ap np cp) lp) (hq : Ints w (.slice aq nq cq) lq) (jp : Ints w (.slice bp mp dp) kp) (jq : Ints w (.slice bq mq dq) kq) :
    Calls Tryd.prog 11 #[.agg #[.int .i64 sp, .slice ap np cp, .int .i64 sq, .slice aq nq cq], .agg #[.int .i64 tp, .slice bp mp dp, .int .i64 tq, .slice bq mq dq]] w fun e w' => e = .returned (.bool (decide (sp = tp ∧ lp = kp) && decide (sq = tq ∧ lq = kq))) ∧ RowKit.Below w.heap.size w w' := by
  have HP : Hid (Arg w (.agg #[.int .i64 sp, .slice ap np cp]) sp lp) := ⟨_, rfl, hp⟩
  have HQ : Hid (Arg w (.agg #[.int .i64 sq, .slice aq nq cq]) sq lq) := ⟨_, rfl, hq⟩
  have JP : Hid (Arg w (.agg #[.int .i64 tp, .slice bp mp dp]) tp kp) := ⟨_, rfl, jp⟩
  have JQ : Hid (Arg w (.agg #[.int .i64 tq, .slice bq mq dq]) tq kq) := ⟨_, rfl, jq⟩
  obtain ⟨d1, h1⟩ : ∃ d, decide (sp = tp ∧ lp = kp) = d := ⟨_, rfl⟩
  obtain ⟨d2, h2⟩ : ∃ d, decide (sq = tq ∧ lq = kq) = d := ⟨_, rfl⟩
  rw [h1, h2]
  have H1 := Lib.hid h1
  have H2 := Lib.hid h2
  have S0 := Lib.hid (((Sf.start w).put [.int .i64 sp, .slice ap np cp, .int .i64 sq, .slice aq nq cq] 28).put' (n := w.heap.size + 1) (by simp) [.int .i64 tp, .slice bp mp dp, .int .i64 tq, .slice bq mq dq] 28)
  clear hp hq jp jq h1 h2
  go_enter Tryd.func11, Tryd.ntmps11
  go_wp2_with fail
  refine (rsb_any _ _ sp tp lp kp _ (HP.out.later S0.out.below) (JP.out.later S0.out.below)).mono ?_
  rintro e w1 ⟨rfl, hb⟩
  rw [H1.out]
  have S1 := Lib.hid (S0.out.later hb)
  clear hb S0
  cases d1
  · go_wp2_with fail
    go_ret
    exact ⟨rfl, S1.out.below⟩
  · obtain ⟨q0, q1, q2, q3⟩ := (S1.out.box _ List.mem_cons_self : Fb (w.heap.size + 1, 28, [.int .i64 tp, .slice bp mp dp, .int .i64 tq, .slice bq mq dq]) _).cells4
    obtain ⟨t0, t1, t2, t3⟩ := (S1.out.box _ (List.mem_cons_of_mem _ List.mem_cons_self) : Fb (w.heap.size, 28, [.int .i64 sp, .slice ap np cp, .int .i64 sq, .slice aq nq cq]) _).cells4
    go_wp2_with fail
    refine (rsb_any _ _ sq tq lq kq _ (HQ.out.later S1.out.below) (JQ.out.later S1.out.below)).mono ?_
    rintro e w2 ⟨rfl, hb⟩
    rw [H2.out]
    have S2 := Lib.hid (S1.out.later hb)
    clear hb S1 q0 q1 q2 q3 t0 t1 t2 t3
    go_wp2_with fail
    go_ret
    exact ⟨by simp, S2.out.below⟩

theorem same_dec (a b : Rat) : (decide (a.num.sign = b.num.sign ∧ digs a.num.natAbs = digs b.num.natAbs) && decide ((1 : Int) = 1 ∧ digs (a.den : Int).natAbs = digs (b.den : Int).natAbs)) = decide (a = b) := by
  have h1 := num_eq (a := a.num) (b := b.num)
  have h2 := num_eq (a := (a.den : Int)) (b := (b.den : Int))
  rw [den_sign, den_sign] at h2
  rw [decide_eq_decide.2 h1, decide_eq_decide.2 h2]
  by_cases e : a = b
  · subst e; simp
  · rw [decide_eq_false e]
    cases h : (decide (a.num = b.num) && decide ((a.den : Int) = (b.den : Int)))
    · rfl
    · rw [Bool.and_eq_true, decide_eq_true_eq, decide_eq_true_eq] at h
      exact absurd (rat_eq.1 h) e
section
variable {w : World} {sa : Int} {aa ba : Option Addr} {na ca ma da : Nat} {sb : Int} {ab bb : Option Addr} {nb cb mb db : Nat} {a b : Rat}
theorem rfsame_k (ha : Fr w sa (.slice aa na ca) (.slice ba ma da) a) (hb : Fr w sb (.slice ab nb cb) (.slice bb mb db) b) {k : Bool} (h : decide (a = b) = k) : Calls Tryd.prog 11 #[.agg #[.int .i64 sa, .slice aa na ca, .int .i64 1, .slice ba ma da], .agg #[.int .i64 sb, .slice ab nb cb, .int .i64 1, .slice bb mb db]] w fun e w' => e = .returned (.bool k) ∧ RowKit.Below w.heap.size w w' := by
  obtain ⟨⟨rfl, h1⟩, _, h2⟩ := ha
  obtain ⟨⟨rfl, h3⟩, _, h4⟩ := hb
  have := rfsame_raw a.num.sign _ _ _ _ 1 _ _ _ _ b.num.sign _ _ _ _ 1 _ _ _ _ w h1 h2 h3 h4
  rwa [same_dec, h] at this
theorem rfsame_t (ha : Fr w sa (.slice aa na ca) (.slice ba ma da) a) (hb : Fr w sb (.slice ab nb cb) (.slice bb mb db) b) (h : a = b) : Calls Tryd.prog 11 #[.agg #[.int .i64 sa, .slice aa na ca, .int .i64 1, .slice ba ma da], .agg #[.int .i64 sb, .slice ab nb cb, .int .i64 1, .slice bb mb db]] w fun e w' => e = .returned (.bool true) ∧ RowKit.Below w.heap.size w w' := rfsame_k ha hb (decide_eq_true h)
theorem rsb_t {s1 s2 : Int} {v1 v2 : Value} {x y : Int} (ha : Num w s1 v1 x) (hb : Num w s2 v2 y) (h : x = y) : Calls Tryd.prog 24 #[.agg #[.int .i64 s1, v1], .agg #[.int .i64 s2, v2]] w fun e w' => e = .returned (.bool true) ∧ RowKit.Below w.heap.size w w' := by
  have := rsb_any _ _ _ _ _ _ w ha.arg hb.arg
  rwa [decide_eq_decide.2 (num_eq (a := x) (b := y)), decide_eq_true h] at this
end

theorem ffew_any (sp : Int) (ap : Option Addr) (np cp : Nat) (lp : List Int) (sq : Int) (aq : Option Addr) (nq cq : Nat) (lq : List Int) (n : Int) (w : World) (hp : Ints w (.slice ap np cp) lp) (hq : Ints w (.slice aq nq cq) lq) (bb : Bool) (hb : (decide ((lp.length : Int) ≤ n) && decide ((lq.length : Int) ≤ n)) = bb) :
    Calls Tryd.prog 6 #[.agg #[.int .i64 sp, .slice ap np cp, .int .i64 sq, .slice aq nq cq], .int .i64 n] w fun e w' => e = .returned (.bool bb) ∧ RowKit.Below w.heap.size w w' := by
  obtain ⟨rfl, h1, h2, _⟩ := hp.shape
  obtain ⟨rfl, h3, h4, _⟩ := hq.shape
  obtain ⟨x, ex⟩ : ∃ m, lp.length = m := ⟨_, rfl⟩
  obtain ⟨y, ey⟩ : ∃ m, lq.length = m := ⟨_, rfl⟩
  rw [ex] at hb h1 h2 ⊢
  rw [ey] at hb h3 h4 ⊢
  have HB := Lib.hid hb
  clear hp hq hb ex ey
  by_cases hx : (x : Int) ≤ n
  · go_enter Tryd.func6, Tryd.ntmps6
    go_wp2_with fail
    go_ret
    rw [← HB.out, decide_eq_true hx]
    exact ⟨by simp, below_alloc _ _⟩
  · go_enter Tryd.func6, Tryd.ntmps6
    go_wp2_with fail
    go_ret
    rw [← HB.out, decide_eq_false (by omega)]
    exact ⟨by simp, below_alloc _ _⟩

set_option maxHeartbeats 1000000 in
theorem fint_k (z : Int) (h : -9223372036854775808 ≤ z ∧ z ≤ 9223372036854775807) (w : World) : Calls Tryd.prog 27 #[.int .i64 z] w (FV (z : Rat) w) := by
  have H := Lib.hid h
  have H1 : Hid (-9223372036854775808 ≤ (1 : Int) ∧ (1 : Int) ≤ 9223372036854775807) := ⟨by omega, by omega⟩
  have S0 := Lib.hid ((Sf.start w).put [.int .i64 0, .slice none 0 0, .int .i64 0, .slice none 0 0] 28)
  clear h
  go_enter Tryd.func27, Tryd.ntmps27
  go_wp2_with fail
  refine (of_k z H.out _).mono ?_
  rintro e w1 ⟨g0, p0, k0, j0, rfl, hn, hb, hf⟩
  have T1 := Lib.hid (S0.out.ret hb hn.2 hf)
  have E0 := Lib.hid hn.1
  have F0 := Lib.hid (hf.mono S0.out.below.size)
  clear hn hb hf S0
  go_wp2_with fail
  refine (of_k 1 H1.out _).mono ?_
  rintro e w2 ⟨g1, p1, k1, j1, rfl, hn, hb, hf⟩
  have T2 := Lib.hid (T1.out.ret hb hn.2 hf)
  have E1 := Lib.hid hn.1
  have F1 := Lib.hid (hf.mono T1.out.below.size)
  clear hn hb hf T1
  have yr : Fb (w.heap.size, 28, [.int .i64 0, .slice none 0 0, .int .i64 0, .slice none 0 0]) _ := T2.out.box _ List.mem_cons_self
  obtain ⟨r0, r1, r2, r3⟩ := yr.cells4
  obtain ⟨f0, f1, f2, f3⟩ := yr.free4
  clear yr
  go_wp2_with fail
  obtain rfl : g1 = 1 := E1.out
  have T3 := Lib.hid (T2.out.set4 (pre := []) (.int .i64 g0) (.slice p0 k0 j0) (.int .i64 1) (.slice p1 k1 j1))
  exact bodyPost_ret (v := .agg #[.int .i64 g0, .slice p0 k0 j0, .int .i64 1, .slice p1 k1 j1]) (by simp [results, Tryd.results27, go_sem, r0, r1, r2, r3]) rfl
    ⟨_, _, _, _, _, _, _, rfl, ⟨T3.out.num (v := .slice p0 k0 j0) (z := (z : Rat).num) (List.mem_cons_of_mem _ List.mem_cons_self) E0.out, T3.out.num (v := .slice p1 k1 j1) (z := ((z : Rat).den : Int)) List.mem_cons_self E1.out⟩, T3.out.below, F0.out, F1.out⟩

set_option maxHeartbeats 1000000 in
theorem fof_zero (p q : Int) (hp : -9223372036854775808 ≤ p ∧ p ≤ 9223372036854775807) (hq : -9223372036854775808 ≤ q ∧ q ≤ 9223372036854775807) (h0 : q = 0) (w : World) : Calls Tryd.prog 48 #[.int .i64 p, .int .i64 q] w (FZE 15 w) := by
  have HP := Lib.hid hp
  have HQ := Lib.hid hq
  have H0 := Lib.hid h0
  have LP : Hid (Len 100000 p) := Len.of (by omega)
  have LQ : Hid (Len 100000 q) := Len.of (by omega)
  have S0 := Lib.hid ((Sf.start w).put [.int .i64 0, .slice none 0 0, .int .i64 0, .slice none 0 0] 28)
  clear hp hq h0
  go_enter Tryd.func48, Tryd.ntmps48
  go_wp2_with fail
  refine (of_k p HP.out _).mono ?_
  rintro e w1 ⟨g0, p0, k0, j0, rfl, hn, hb, hf⟩
  have T1 := Lib.hid (S0.out.ret hb hn.2 hf)
  have E0 := Lib.hid hn.1
  clear hn hb hf S0
  go_wp2_with fail
  refine (of_k q HQ.out _).mono ?_
  rintro e w1' ⟨g1, p1, k1, j1, rfl, hn, hb, hf⟩
  have T1' := Lib.hid (T1.out.ret hb hn.2 hf)
  have E1 := Lib.hid hn.1
  clear hn hb hf T1
  go_wp2_with fail
  refine (new_zero (T1'.out.num (v := .slice p0 k0 j0) (z := p) (List.mem_cons_of_mem _ List.mem_cons_self) E0.out) (T1'.out.num (v := .slice p1 k1 j1) (z := q) List.mem_cons_self E1.out) LP.out H0.out).mono ?_
  rintro e w2 ⟨rfl, hb⟩
  have T2 := Lib.hid (T1'.out.later hb)
  clear hb T1'
  have yr : Fb (w.heap.size, 28, [.int .i64 0, .slice none 0 0, .int .i64 0, .slice none 0 0]) _ := T2.out.box _ List.mem_cons_self
  obtain ⟨r0, r1, r2, r3⟩ := yr.cells4
  obtain ⟨f0, f1, f2, f3⟩ := yr.free4
  clear yr
  go_wp2_with fail
  have T3 := Lib.hid (T2.out.set4 (pre := []) (.int .i64 0) (.slice none 0 0) (.int .i64 0) (.slice none 0 0))
  exact bodyPost_ret (v := .tuple #[.agg #[.int .i64 0, .slice none 0 0, .int .i64 0, .slice none 0 0], .int .i64 15]) (by simp [results, Tryd.results48, go_sem, r0, r1, r2, r3]) rfl ⟨rfl, T3.out.below⟩

set_option maxHeartbeats 1000000 in
theorem fof_k (p q : Int) (hp : -9223372036854775808 ≤ p ∧ p ≤ 9223372036854775807) (hq : -9223372036854775808 ≤ q ∧ q ≤ 9223372036854775807) (h0 : q ≠ 0) (w : World) : Calls Tryd.prog 48 #[.int .i64 p, .int .i64 q] w (FVE (Rat.divInt p q) 0 w) := by
  have HP := Lib.hid hp
  have HQ := Lib.hid hq
  have H0 := Lib.hid h0
  have LP : Hid (Len 100000 p) := Len.of (by omega)
  have LQ : Hid (Len 100000 q) := Len.of (by omega)
  have S0 := Lib.hid ((Sf.start w).put [.int .i64 0, .slice none 0 0, .int .i64 0, .slice none 0 0] 28)
  clear hp hq h0
  go_enter Tryd.func48, Tryd.ntmps48
  go_wp2_with fail
  refine (of_k p HP.out _).mono ?_
  rintro e w1 ⟨g0, p0, k0, j0, rfl, hn, hb, hf⟩
  have T1 := Lib.hid (S0.out.ret hb hn.2 hf)
  have E0 := Lib.hid hn.1
  clear hn hb hf S0
  go_wp2_with fail
  refine (of_k q HQ.out _).mono ?_
  rintro e w1' ⟨g1, p1, k1, j1, rfl, hn, hb, hf⟩
  have T1' := Lib.hid (T1.out.ret hb hn.2 hf)
  have E1 := Lib.hid hn.1
  clear hn hb hf T1
  go_wp2_with fail
  refine (new_k (T1'.out.num (v := .slice p0 k0 j0) (z := p) (List.mem_cons_of_mem _ List.mem_cons_self) E0.out) (T1'.out.num (v := .slice p1 k1 j1) (z := q) List.mem_cons_self E1.out) LP.out LQ.out H0.out).mono ?_
  rintro e w2 ⟨s9, a9, n9, c9, b9, m9, d9, rfl, hr, hb, hf, hg⟩
  have T2 := Lib.hid (T1'.out.ret2 hb hr.1.2 hf hr.2.2 hg)
  have E9 := Lib.hid hr.1.1
  have F9 := Lib.hid (hf.mono T1'.out.below.size)
  have G9 := Lib.hid (hg.mono T1'.out.below.size)
  clear hr hb hf hg T1'
  have yr : Fb (w.heap.size, 28, [.int .i64 0, .slice none 0 0, .int .i64 0, .slice none 0 0]) _ := T2.out.box _ List.mem_cons_self
  obtain ⟨r0, r1, r2, r3⟩ := yr.cells4
  obtain ⟨f0, f1, f2, f3⟩ := yr.free4
  clear yr
  go_wp2_with fail
  have T3 := Lib.hid (T2.out.set4 (pre := []) (.int .i64 s9) (.slice a9 n9 c9) (.int .i64 1) (.slice b9 m9 d9))
  exact bodyPost_ret (v := .tuple #[.agg #[.int .i64 s9, .slice a9 n9 c9, .int .i64 1, .slice b9 m9 d9], .int .i64 0]) (by simp [results, Tryd.results48, go_sem, r0, r1, r2, r3]) rfl
    ⟨_, _, _, _, _, _, _, rfl, ⟨T3.out.num (v := .slice a9 n9 c9) (z := (Rat.divInt p q).num) List.mem_cons_self E9.out, T3.out.num (v := .slice b9 m9 d9) (z := ((Rat.divInt p q).den : Int)) (List.mem_cons_of_mem _ List.mem_cons_self) (den_sign _).symm⟩, T3.out.below, F9.out, G9.out⟩

end Go.Proofs.YtmhdhabgdlefjaaDoor.Bi
