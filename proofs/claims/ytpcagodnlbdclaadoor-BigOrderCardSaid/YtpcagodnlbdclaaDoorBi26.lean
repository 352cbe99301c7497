/- The contracts as the laws use them; the contracts of kitbagref04.Same, few, pair. -/
import Derived.Test.YtpcagodnlbdclaaDoorBi25
set_option maxRecDepth 100000
namespace Go.Proofs.YtpcagodnlbdclaaDoor.Bi
open Go.RowKit

/-- The sign and the slice are those of the number z. -/
def Num (w : World) (sg : Int) (s : Value) (z : Int) : Prop := sg = z.sign ∧ Ints w s (digs z.natAbs)
theorem Num.isb {w : World} {sg : Int} {s : Value} {z : Int} (h : Num w sg s z) : IsB w (.agg #[.int .i64 sg, s]) z := ⟨s, by rw [h.1], h.2⟩
theorem Num.arg {w : World} {sg : Int} {s : Value} {z : Int} (h : Num w sg s z) : Arg w (.agg #[.int .i64 sg, s]) z.sign (digs z.natAbs) := ⟨s, by rw [h.1], h.2⟩
theorem Num.later {w w' : World} {sg : Int} {s : Value} {z : Int} (h : Num w sg s z) (hb : RowKit.Below w.heap.size w w') : Num w' sg s z := ⟨h.1, h.2.later hb⟩
theorem Num.set {w : World} {sg : Int} {s : Value} {z : Int} {g : Nat} (h : Num w sg s z) (ho : Off s g) (o : Nat) (u : Value) : Num (w.setCell ⟨g, o, none⟩ u) sg s z := ⟨h.1, h.2.set ho o u⟩
/-- A call that returns the number z, in new memory or none. -/
def BV (z : Int) (w : World) (e : Ending) (w' : World) : Prop := ∃ sg a n c, e = .returned (.agg #[.int .i64 sg, .slice a n c]) ∧ Num w' sg (.slice a n c) z ∧ RowKit.Below w.heap.size w w' ∧ Fresh w.heap.size (.slice a n c)
/-- .. with an error's code. -/
def BVE (z er : Int) (w : World) (e : Ending) (w' : World) : Prop := ∃ sg a n c, e = .returned (.tuple #[.agg #[.int .i64 sg, .slice a n c], .int .i64 er]) ∧ Num w' sg (.slice a n c) z ∧ RowKit.Below w.heap.size w w' ∧ Fresh w.heap.size (.slice a n c)
/-- Two numbers and a code. -/
def BVD (q r er : Int) (w : World) (e : Ending) (w' : World) : Prop := ∃ sg a n c tg b m d, e = .returned (.tuple #[.agg #[.int .i64 sg, .slice a n c], .agg #[.int .i64 tg, .slice b m d], .int .i64 er]) ∧ Num w' sg (.slice a n c) q ∧ Num w' tg (.slice b m d) r ∧ RowKit.Below w.heap.size w w' ∧ Fresh w.heap.size (.slice a n c) ∧ Fresh w.heap.size (.slice b m d)
theorem AnsB.bv {z : Int} {w : World} {e : Ending} {w' : World} (h : AnsB z w e w') : BV z w e w' := by
  obtain ⟨s, rfl, hi, hb, hf⟩ := h
  obtain ⟨a, c, rfl, hj⟩ := hi.open
  exact ⟨_, a, _, c, rfl, ⟨rfl, hj⟩, hb, hf⟩
theorem Ans.bve {z er : Int} {w : World} {e : Ending} {w' : World} (h : Ans z er w e w') : BVE z er w e w' := by
  obtain ⟨s, rfl, hi, hb, hf⟩ := h
  obtain ⟨a, c, rfl, hj⟩ := hi.open
  exact ⟨_, a, _, c, rfl, ⟨rfl, hj⟩, hb, hf⟩
theorem AnsD.bvd {q r er : Int} {w : World} {e : Ending} {w' : World} (h : AnsD q r er w e w') : BVD q r er w e w' := by
  obtain ⟨s, t, rfl, hi, hj, hb, hf, hg⟩ := h
  obtain ⟨a, c, rfl, hk⟩ := hi.open
  obtain ⟨b, d, rfl, hl⟩ := hj.open
  exact ⟨_, a, _, c, _, b, _, d, rfl, ⟨rfl, hk⟩, ⟨rfl, hl⟩, hb, hf, hg⟩

def Len (k : Nat) (z : Int) : Prop := (digs z.natAbs).length ≤ k
theorem Len.of {z : Int} (h : z.natAbs < 18446744073709551616) : Len 100000 z := Nat.le_trans (digs_len4 h) (by omega)

section
variable {w : World} {sa sb : Int} {va vb : Value} {a b : Int}
theorem of_k (z : Int) (h : -9223372036854775808 ≤ z ∧ z ≤ 9223372036854775807) (w : World) : Calls Tryd.prog 36 #[.int .i64 z] w (BV z w) := (of_any z h.1 h.2 w).mono fun _ _ h => h.bv
theorem mul_k (ha : Num w sa va a) (hb : Num w sb vb b) (la : Len 100000 a) (lb : Len 100000 b) : Calls Tryd.prog 16 #[.agg #[.int .i64 sa, va], .agg #[.int .i64 sb, vb]] w (BVE (a * b) 0 w) :=
  (mul_ok _ _ a b w ha.isb hb.isb (Nat.le_trans la (by omega)) (Nat.le_trans lb (by omega))).mono fun _ _ h => h.bve
theorem add_k (ha : Num w sa va a) (hb : Num w sb vb b) (la : Len 100000 a) (lb : Len 100000 b) : Calls Tryd.prog 12 #[.agg #[.int .i64 sa, va], .agg #[.int .i64 sb, vb]] w (BVE (a + b) 0 w) :=
  (add_ok _ _ a b w ha.isb hb.isb (Nat.le_trans la (by omega)) (Nat.le_trans lb (by omega))).mono fun _ _ h => h.bve
theorem sub_k (ha : Num w sa va a) (hb : Num w sb vb b) (la : Len 100000 a) (lb : Len 100000 b) : Calls Tryd.prog 14 #[.agg #[.int .i64 sa, va], .agg #[.int .i64 sb, vb]] w (BVE (a - b) 0 w) :=
  (sub_ok _ _ a b w ha.isb hb.isb (Nat.le_trans la (by omega)) (Nat.le_trans lb (by omega))).mono fun _ _ h => h.bve
theorem div_k (ha : Num w sa va a) (hb : Num w sb vb b) (la : Len 100000 a) (lb : Len 100000 b) (h0 : b ≠ 0) : Calls Tryd.prog 19 #[.agg #[.int .i64 sa, va], .agg #[.int .i64 sb, vb]] w (BVD (a.fdiv b) (a.fmod b) 0 w) :=
  (div_ok _ _ a b w ha.isb hb.isb (Nat.le_trans la (by omega)) (Nat.le_trans lb (by omega)) h0).mono fun _ _ h => h.bvd
theorem div0_k (ha : Num w sa va a) (hb : Num w sb vb b) (h0 : b = 0) : Calls Tryd.prog 19 #[.agg #[.int .i64 sa, va], .agg #[.int .i64 sb, vb]] w (BVD 0 0 15 w) :=
  (div_zero _ _ a b w ha.isb hb.isb h0).mono fun _ _ h => h.bvd
theorem gcd_s (ha : Num w sa va a) (hb : Num w sb vb b) (la : (digs a.natAbs).length ≤ 3) (lb : (digs b.natAbs).length ≤ 3) : Calls Tryd.prog 25 #[.agg #[.int .i64 sa, va], .agg #[.int .i64 sb, vb]] w (BVE (Nat.gcd a.natAbs b.natAbs : Nat) 0 w) :=
  (gcd_gen _ _ a b w ha.isb hb.isb (by omega) (by omega) (.inr ⟨la, lb⟩)).mono fun _ _ h => h.bve
theorem neg_k (ha : Num w sa va a) (la : Len 100000 a) : Calls Tryd.prog 34 #[.agg #[.int .i64 sa, va]] w (BV (-a) w) := (neg_ok _ a w ha.isb (Nat.le_trans la (by omega))).mono fun _ _ h => h.bv
theorem right_k (ha : Num w sa va a) : Calls Tryd.prog 27 #[.agg #[.int .i64 sa, va]] w fun e w' => e = .returned (.bool true) ∧ RowKit.Below w.heap.size w w' := isb_any ha.isb
theorem cmp_k (ha : Num w sa va a) (hb : Num w sb vb b) : Calls Tryd.prog 29 #[.agg #[.int .i64 sa, va], .agg #[.int .i64 sb, vb]] w fun e w' => e = .returned (.int .i64 (cmpI a b)) ∧ RowKit.Below w.heap.size w w' := compareB_ok _ _ a b w ha.isb hb.isb
theorem num_eq {a b : Int} : (a.sign = b.sign ∧ digs a.natAbs = digs b.natAbs) ↔ a = b := by
  constructor
  · rintro ⟨h1, h2⟩
    have := digs_inj h2
    have e1 := Int.sign_mul_natAbs a
    have e2 := Int.sign_mul_natAbs b
    rw [← e1, ← e2, h1, this]
  · rintro rfl; exact ⟨rfl, rfl⟩
theorem same_k (ha : Num w sa va a) (hb : Num w sb vb b) : Calls Tryd.prog 31 #[.agg #[.int .i64 sa, va], .agg #[.int .i64 sb, vb]] w fun e w' => e = .returned (.bool (decide (a = b))) ∧ RowKit.Below w.heap.size w w' := by
  have := same_any _ _ _ _ _ _ w ha.arg hb.arg
  rwa [decide_eq_decide.2 (num_eq (a := a) (b := b))] at this
theorem same_t (ha : Num w sa va a) (hb : Num w sb vb b) (h : a = b) : Calls Tryd.prog 31 #[.agg #[.int .i64 sa, va], .agg #[.int .i64 sb, vb]] w fun e w' => e = .returned (.bool true) ∧ RowKit.Below w.heap.size w w' := by
  have := same_k ha hb
  rwa [show decide (a = b) = true by simpa using h] at this
theorem text_k (ha : Num w sa va a) (la : Len 100000 a) (he : Env w) : Calls Tryd.prog 32 #[.agg #[.int .i64 sa, va]] w fun e w' => e = .returned (.string ⟨(Go.Lib.itoa a).toArray⟩) ∧ RowKit.Below w.heap.size w w' := text_ok _ a w ha.isb he la
theorem int_k (ha : Num w sa va a) : Calls Tryd.prog 21 #[.agg #[.int .i64 sa, va]] w fun e w' => e = .returned (.tuple #[.int .i64 (intS a.sign (digs a.natAbs)).1, .bool (intS a.sign (digs a.natAbs)).2]) ∧ RowKit.Below w.heap.size w w' := int_any _ _ _ w ha.arg
theorem intS_in {z : Int} (h : -9223372036854775808 ≤ z ∧ z ≤ 9223372036854775807) : intS z.sign (digs z.natAbs) = (z, true) := by
  unfold intS
  have e : z.sign * val (digs z.natAbs) = z := by rw [digs_val]; exact Int.sign_mul_natAbs z
  rw [if_pos ⟨right_is z, by rw [e]; exact h.1, by rw [e]; exact h.2⟩, e]
theorem intS_out {z : Int} (h : ¬ (-9223372036854775808 ≤ z ∧ z ≤ 9223372036854775807)) : intS z.sign (digs z.natAbs) = (0, false) := by
  unfold intS
  have e : z.sign * val (digs z.natAbs) = z := by rw [digs_val]; exact Int.sign_mul_natAbs z
  rw [if_neg]
  rintro ⟨_, h1, h2⟩
  rw [e] at h1 h2
  exact h ⟨h1, h2⟩
end

set_option maxHeartbeats 2000000 in
theorem rsame_any (va vb : Value) (s t : Int) (l m : List Int) (w : World) (ha : Arg w va s l) (hb : Arg w vb t m) :
    Calls Tryd.prog 18 #[va, vb] w fun e w' => e = .returned (.bool (decide (s = t ∧ l = m))) ∧ RowKit.Below w.heap.size w w' := by
  obtain ⟨va', rfl, hia⟩ := id ha
  obtain ⟨vb', rfl, hib⟩ := id hb
  obtain ⟨aa, ca, rfl, ha1, ha2, ha3⟩ := id hia
  obtain ⟨ab, cb, rfl, hb1, hb2, hb3⟩ := id hib
  obtain ⟨na, ena⟩ : ∃ n, l.length = n := ⟨_, rfl⟩
  obtain ⟨nb, enb⟩ : ∃ n, m.length = n := ⟨_, rfl⟩
  have HCA : Hid (∀ k, k < na → ∃ b o, aa = some ⟨b, o, none⟩ ∧ ∀ A B q, (((w.alloc A).alloc B).drewN q).cell? ⟨b, o + k, none⟩ = some (.int .i64 (l.getD k 0))) := by
    intro k hk
    obtain ⟨b, o, e, hlt, hr⟩ := ha3.resolve_left (fun e => by rw [e] at ena; simp at ena; omega)
    exact ⟨b, o, e, fun A B q => ((two_alloc w A B).cell (p := ⟨b, o + k, none⟩) hlt).trans (hr k (by omega))⟩
  have HCB : Hid (∀ k, k < nb → ∃ b o, ab = some ⟨b, o, none⟩ ∧ ∀ A B q, (((w.alloc A).alloc B).drewN q).cell? ⟨b, o + k, none⟩ = some (.int .i64 (m.getD k 0))) := by
    intro k hk
    obtain ⟨b, o, e, hlt, hr⟩ := hb3.resolve_left (fun e => by rw [e] at enb; simp at enb; omega)
    exact ⟨b, o, e, fun A B q => ((two_alloc w A B).cell (p := ⟨b, o + k, none⟩) hlt).trans (hr k (by omega))⟩
  have HLA := Lib.hid ena
  have HLB := Lib.hid enb
  rw [ena] at ha1 ha2 ⊢
  rw [enb] at hb1 hb2 ⊢
  by_cases hst : s = t
  · subst hst
    by_cases hl : na = nb
    · subst hl
      have hd : decide (s = s ∧ l = m) = decide (l = m) := by simp
      rw [hd]
      clear ha hb hia hib ha3 hb3 ena enb hd
      go_enter Tryd.func18, Tryd.ntmps18
      go_wp2_with fail
      go_loopw [5] (fun t wr => ∃ k q : Nat, k ≤ na ∧ t = .int .i64 k ∧ l.take k = m.take k ∧ wr = ((w.alloc (.cells #[.int .i64 s, .slice aa na ca] 24)).alloc (.cells #[.int .i64 s, .slice ab na cb] 24)).drewN q) (fun t _ => na - (intOf t).toNat)
      case atStart => exact ⟨0, 0, Nat.zero_le _, rfl, rfl, rfl⟩
      case round =>
        obtain ⟨k, q, hk, rfl, htk, rfl⟩ := hrel
        have HT := Lib.hid htk
        clear htk
        by_cases hlt : k < na
        · obtain ⟨b, o, rfl, hcx0⟩ := HCA.out k hlt
          obtain ⟨b', o', rfl, hcy0⟩ := HCB.out k hlt
          have hcx := hcx0 (.cells #[.int .i64 s, .slice (some ⟨b, o, none⟩) na ca] 24) (.cells #[.int .i64 s, .slice (some ⟨b', o', none⟩) na cb] 24) q
          have hcy := hcy0 (.cells #[.int .i64 s, .slice (some ⟨b, o, none⟩) na ca] 24) (.cells #[.int .i64 s, .slice (some ⟨b', o', none⟩) na cb] 24) q
          clear hcx0 hcy0
          simp only [World.cell?_drewN] at hcx hcy
          obtain ⟨x, ex⟩ : ∃ x, l.getD k 0 = x := ⟨_, rfl⟩
          obtain ⟨y, ey⟩ : ∃ y, m.getD k 0 = y := ⟨_, rfl⟩
          rw [ex] at hcx
          rw [ey] at hcy
          have HX := Lib.hid ex
          have HY := Lib.hid ey
          have hki : (k : Int) < na := by omega
          clear ex ey
          have hs1 := fun h1 : k < l.length => List.take_succ_eq_append_getElem h1
          have hs2 := fun h1 : k < m.length => List.take_succ_eq_append_getElem h1
          have HS1 := Lib.hid hs1
          have HS2 := Lib.hid hs2
          clear hs1 hs2
          by_cases hxy : x = y
          · subst hxy
            have hq : (x != x) = false := by simp
            go_wp2_with fail
            go_quiet (fail)
            go_wp2_with fail
            go_roundw
            case rel =>
              refine ⟨k + 1, _, by omega, by go_num, ?_, rfl⟩
              have h1 : k < l.length := by rw [HLA.out]; exact hlt
              have h2 : k < m.length := by rw [HLB.out]; exact hlt
              rw [HS1.out h1, HS2.out h2, HT.out]
              have e1 : l[k] = x := by have := HX.out; rw [List.getD_eq_getElem?_getD, List.getElem?_eq_getElem h1] at this; exact this
              have e2 : m[k] = x := by have := HY.out; rw [List.getD_eq_getElem?_getD, List.getElem?_eq_getElem h2] at this; exact this
              rw [e1, e2]
            case measure => simp [intOf]; omega
          · have hq : (x != y) = true := by simpa using hxy
            have hne : decide (l = m) = false := by
              simp; intro e
              have h1 := HX.out
              rw [e, HY.out] at h1
              exact hxy h1.symm
            have HNE := Lib.hid hne
            clear hxy hne
            go_wp2_with fail
            go_quiet (fail)
            go_wp2_with fail
            go_ret
            rw [HNE.out]
            exact ⟨rfl, (two_alloc _ _ _).trans (⟨rfl, rfl, rfl, Nat.le_refl _, fun _ _ => rfl⟩)⟩
        · obtain rfl : k = na := by omega
          have heq : decide (l = m) = true := by
            have h := HT.out
            rw [List.take_of_length_le (by rw [HLA.out]; omega), List.take_of_length_le (by rw [HLB.out]; omega)] at h
            simpa using h
          have HEQ := Lib.hid heq
          clear heq
          go_wp2_with fail
          go_ret
          rw [HEQ.out]
          exact ⟨rfl, (two_alloc _ _ _).trans (⟨rfl, rfl, rfl, Nat.le_refl _, fun _ _ => rfl⟩)⟩
    · have hd : decide (s = s ∧ l = m) = false := by
        simp; intro e
        rw [e] at HLA
        exact hl (HLA.out.symm.trans HLB.out)
      rw [hd]
      have hq : ((na : Int) != nb) = true := by simp; omega
      clear ha hb hia hib ha3 hb3 ena enb hd hl
      go_enter Tryd.func18, Tryd.ntmps18
      go_wp2_with fail
      go_ret
      exact ⟨rfl, two_alloc _ _ _⟩
  · have hd : decide (s = t ∧ l = m) = false := by simp [hst]
    rw [hd]
    have hq : (s != t) = true := by simpa using hst
    clear ha hb hia hib ha3 hb3 ena enb hd hst
    go_enter Tryd.func18, Tryd.ntmps18
    go_wp2_with fail
    go_ret
    exact ⟨rfl, two_alloc _ _ _⟩
end Go.Proofs.YtpcagodnlbdclaaDoor.Bi
