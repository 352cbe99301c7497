/- The contract of sum. -/
import Derived.Test.YtpcagodnlbdclaaDoorBi12
set_option maxRecDepth 100000
namespace Go.Proofs.YtpcagodnlbdclaaDoor.Bi
open Go.RowKit

/-- A call that returns a number alone. -/
def AnsB (n : Int) (w : World) (e : Ending) (w' : World) : Prop := ∃ s, e = .returned (.agg #[.int .i64 n.sign, s]) ∧ Ints w' s (digs n.natAbs) ∧ RowKit.Below w.heap.size w w' ∧ Fresh w.heap.size s
theorem alloc_c0 (W : World) (g : Nat) (x y : Int) (h : W.heap.size = g) : ((W.alloc (.cells #[.int .i64 x, .int .i64 y] 3)).drew).cell? ⟨g, 0, none⟩ = some (.int .i64 x) := by
  subst h
  have : (W.alloc (.cells #[.int .i64 x, .int .i64 y] 3)).drew.heap[W.heap.size]? = some (.cells #[.int .i64 x, .int .i64 y] 3 (0, 0)) := alloc_at W _
  rw [cell_of_row _ _ _ _ _ _ this]; rfl
theorem alloc_c1 (W : World) (g : Nat) (x y : Int) (h : W.heap.size = g) : ((W.alloc (.cells #[.int .i64 x, .int .i64 y] 3)).drew).cell? ⟨g, 1, none⟩ = some (.int .i64 y) := by
  subst h
  have : (W.alloc (.cells #[.int .i64 x, .int .i64 y] 3)).drew.heap[W.heap.size]? = some (.cells #[.int .i64 x, .int .i64 y] 3 (0, 0)) := alloc_at W _
  rw [cell_of_row _ _ _ _ _ _ this]; rfl
theorem P_lt_succ {a b : Int} {i j : Nat} (_h0 : 0 ≤ a) (h1 : a < P i) (_h2 : 0 ≤ b) (h3 : b < P j) : a + b < P (max i j + 1) := by
  have e1 := P_le (i := i) (j := max i j) (by omega)
  have e2 := P_le (i := j) (j := max i j) (by omega)
  have := P_pos (max i j)
  rw [P_succ]; omega

theorem sgn_bd (a : Int) : -1 ≤ a.sign ∧ a.sign ≤ 1 := by
  rcases Int.lt_trichotomy a 0 with h | h | h
  · rw [Int.sign_eq_neg_one_of_neg h]; omega
  · rw [h]; simp
  · rw [Int.sign_eq_one_of_pos h]; omega
theorem hpr (x y : Int) (hx : -1 ≤ x ∧ x ≤ 1) (hy : -1 ≤ y ∧ y ≤ 1) : -1 ≤ x * y ∧ x * y ≤ 1 := by
  have h1 : x = -1 ∨ x = 0 ∨ x = 1 := by omega
  rcases h1 with rfl | rfl | rfl <;> omega
/-- The signs: equal, or one of both 0; or different. -/
theorem sgn_cases (a b : Int) : (0 ≤ a.sign * b.sign ∧ ((0 ≤ a ∧ 0 ≤ b) ∨ (a ≤ 0 ∧ b ≤ 0))) ∨ (a.sign * b.sign < 0 ∧ ((0 < a ∧ b < 0) ∨ (a < 0 ∧ 0 < b))) := by
  rcases sgn_is a with ⟨h, h'⟩ | ⟨h, h'⟩ | ⟨h, h'⟩ <;> rcases sgn_is b with ⟨k, k'⟩ | ⟨k, k'⟩ | ⟨k, k'⟩ <;> rw [h', k'] <;> omega
theorem or_sgn {a b : Int} (h : (0 ≤ a ∧ 0 ≤ b) ∨ (a ≤ 0 ∧ b ≤ 0)) (hne : a + b ≠ 0) : orI a.sign b.sign = (a + b).sign := by
  unfold orI
  by_cases h0 : a = 0
  · subst h0; simp
  · rw [if_neg (by simpa using h0)]
    rcases h with h | h
    · rw [Int.sign_eq_one_of_pos (by omega), Int.sign_eq_one_of_pos (by omega)]
    · rw [Int.sign_eq_neg_one_of_neg (by omega), Int.sign_eq_neg_one_of_neg (by omega)]

set_option maxHeartbeats 4000000 in
theorem sum_pp (va vb : Value) (a b : Int) (w : World) (ha : IsB w va a) (hb : IsB w vb b) (hla : (digs a.natAbs).length ≤ 1000000) (hlb : (digs b.natAbs).length ≤ 1000000) (hcase : 0 ≤ a.sign * b.sign ∧ ((0 ≤ a ∧ 0 ≤ b) ∨ (a ≤ 0 ∧ b ≤ 0))) :
    Calls Tryd.prog 39 #[va, vb] w (AnsB (a + b) w) := by
  obtain ⟨sa, rfl, hia⟩ := id ha
  obtain ⟨sb, rfl, hib⟩ := id hb
  have HIA := Lib.hid hia
  have HIB := Lib.hid hib
  obtain ⟨aa, ca, rfl, _⟩ := hia.open
  obtain ⟨ab, cb, rfl, _⟩ := hib.open
  obtain ⟨na, ena⟩ : ∃ n, (digs a.natAbs).length = n := ⟨_, rfl⟩
  obtain ⟨nb, enb⟩ : ∃ n, (digs b.natAbs).length = n := ⟨_, rfl⟩
  rw [ena] at HIA ⊢
  rw [enb] at HIB ⊢
  have hab := digs_lt a.natAbs
  have hbb := digs_lt b.natAbs
  have hsg : 0 ≤ a.sign * b.sign := hcase.1
  have hsn : a + b ≠ 0 → orI a.sign b.sign = (a + b).sign := or_sgn hcase.2
  have hn : (1 * val (digs a.natAbs) + 1 * val (digs b.natAbs)).toNat = (a + b).natAbs := by rw [digs_val, digs_val]; have := hcase.2; omega
  have hn1 : 0 ≤ 1 * val (digs a.natAbs) + 1 * val (digs b.natAbs) := by rw [digs_val, digs_val]; omega
  have hn2 : 1 * val (digs a.natAbs) + 1 * val (digs b.natAbs) < P (max (digs a.natAbs).length (digs b.natAbs).length + 1) := by
    rw [digs_val, digs_val, Int.one_mul, Int.one_mul]; exact P_lt_succ (by omega) hab (by omega) hbb
  obtain ⟨p, ep⟩ : ∃ p, a + b = p := ⟨_, rfl⟩
  obtain ⟨x, ex⟩ : ∃ x, a.sign = x := ⟨_, rfl⟩
  obtain ⟨y, ey⟩ : ∃ y, b.sign = y := ⟨_, rfl⟩
  have hxb : -1 ≤ x ∧ x ≤ 1 := by rw [← ex]; exact sgn_bd a
  have hyb : -1 ≤ y ∧ y ≤ 1 := by rw [← ey]; exact sgn_bd b
  rw [ex, ey] at hsg
  try rw [ex] at hsn
  try rw [ey] at hsn
  rw [ep] at hsn hn
  rw [ex, ey, ep]
  have HSN := Lib.hid hsn
  have HN := Lib.hid hn
  have HN1 := Lib.hid hn1
  have HN2 := Lib.hid hn2
  have HLA := Lib.hid hla
  have HLB := Lib.hid hlb

  have hx := Bx.start w x (.slice aa na ca) y (.slice ab nb cb)
  have HX0 := Lib.hid hx
  have hprod : -1 ≤ x * y ∧ x * y ≤ 1 := hpr x y hxb hyb
  clear ha hb hia hib hx hla hlb ena enb hab hbb hcase ep ex ey hsn hn hn1 hn2
  go_enter Tryd.func39, Tryd.ntmps39
  go_wp2_with fail
  have HXD := Lib.hid (HX0.out.heap (W' := (((w.alloc (.cells #[.int .i64 x, .slice aa na ca] 24)).alloc (.cells #[.int .i64 y, .slice ab nb cb] 24)).alloc (.cells #[.int .i64 0, .slice none 0 0] 24)).drew) rfl rfl rfl rfl)
  have e2 := HXD.out.cells
  go_region_held3 (fun W => W.cell? ⟨w.heap.size, 0, none⟩ = some (.int .i64 x) ∧ W.cell? ⟨w.heap.size, 1, none⟩ = some (.slice aa na ca) ∧ W.cell? ⟨w.heap.size + 1, 0, none⟩ = some (.int .i64 y) ∧ W.cell? ⟨w.heap.size + 1, 1, none⟩ = some (.slice ab nb cb))
    (first | exact e2 | exact x3 | exact x4 | exact HX4.out.stays _ _ | exact ((HX0.out.later (below_alloc _ (.cells #[.int .i64 x, .int .i64 y] 3))).heap (W' := (World.alloc _ (.cells #[.int .i64 x, .int .i64 y] 3)).drew) rfl rfl rfl rfl).cells)
    (first
      | (go_at_call 72; (with_reducible refine (or_any _ 2 (by omega) x y _ ?_ ?_).mono ?_); (focus exact alloc_c0 _ _ _ _ (by simp)); (focus exact alloc_c1 _ _ _ _ (by simp)); rintro e w' ⟨rfl, rfl⟩; have HXA := Lib.hid (((HX0.out.later (below_alloc _ (.cells #[.int .i64 x, .int .i64 y] 3)))).heap (W' := (World.alloc _ (.cells #[.int .i64 x, .int .i64 y] 3)).drew) rfl rfl rfl rfl))
      | (go_at_call 48; (with_reducible refine (combine_any _ _ (digs a.natAbs) (digs b.natAbs) 1 1 _ ?_ ?_ (digs_dig _) (digs_dig _) (by omega) (by omega) (Nat.le_trans HLA.out (by omega)) (Nat.le_trans HLB.out (by omega)) HN1.out HN2.out).mono ?_); (focus exact HIA.out.later HXA.out.below); (focus exact HIB.out.later HXA.out.below); rintro e w3 ⟨v3, rfl, hi3, hb3, hf3⟩; rw [HN.out] at hi3; obtain ⟨a3, c3, rfl, hi4⟩ := hi3.open; have HX3 := Lib.hid (HXA.out.later hb3); have x3 := HX3.out.cells; have HI3 := Lib.hid hi4; have HF3 := Lib.hid hf3; clear hi3 hi4 hb3 hf3)
      | (go_at_call 44; (with_reducible refine (signed_any _ a3 c3 _ (digs_dig p.natAbs) p (digs_val _).symm HSN.out _ HI3.out).mono ?_); rintro e w4 ⟨s4, rfl, hi4, hb4, ho4⟩; obtain ⟨a5, c5, rfl, hi5⟩ := hi4.open; have HO4 := Lib.hid ho4; have HX4 := Lib.hid (HX3.out.later hb4); have x4 := HX4.out.cells; have HI5 := Lib.hid hi5; clear hi4 hi5 hb4 ho4; obtain ⟨r0, r1, f0, f1⟩ := HX4.out.rcells))
  go_wp2_with fail
  have hoff := HO4.out (w.heap.size + 1 + 1) (HF3.out _ HXA.out.size)
  exact bodyPost_ret (v := .agg #[.int .i64 p.sign, .slice a5 (digs p.natAbs).length c5]) (by simp [results, Tryd.results39, go_sem, r0, r1]) rfl
    ⟨_, rfl, (HI5.out.set hoff 0 _).set hoff 1 _, HX4.out.put _ _, fun g hg => HO4.out g (HF3.out g (by have := HXA.out.size; omega))⟩

set_option maxHeartbeats 4000000 in
theorem sum_ge (va vb : Value) (a b : Int) (w : World) (ha : IsB w va a) (hb : IsB w vb b) (hla : (digs a.natAbs).length ≤ 1000000) (hlb : (digs b.natAbs).length ≤ 1000000) (hcase : a.sign * b.sign < 0 ∧ ((0 < a ∧ b < 0) ∨ (a < 0 ∧ 0 < b)) ∧ b.natAbs ≤ a.natAbs) :
    Calls Tryd.prog 39 #[va, vb] w (AnsB (a + b) w) := by
  obtain ⟨sa, rfl, hia⟩ := id ha
  obtain ⟨sb, rfl, hib⟩ := id hb
  have HIA := Lib.hid hia
  have HIB := Lib.hid hib
  obtain ⟨aa, ca, rfl, _⟩ := hia.open
  obtain ⟨ab, cb, rfl, _⟩ := hib.open
  obtain ⟨na, ena⟩ : ∃ n, (digs a.natAbs).length = n := ⟨_, rfl⟩
  obtain ⟨nb, enb⟩ : ∃ n, (digs b.natAbs).length = n := ⟨_, rfl⟩
  rw [ena] at HIA ⊢
  rw [enb] at HIB ⊢
  have hab := digs_lt a.natAbs
  have hbb := digs_lt b.natAbs
  have hsg : a.sign * b.sign < 0 := hcase.1
  have hsn : a + b ≠ 0 → a.sign = (a + b).sign := by
    intro hne
    have h1 := hcase.2.1
    have h2 := hcase.2.2
    rcases h1 with h | h
    · first | rw [Int.sign_eq_one_of_pos (by omega), Int.sign_eq_one_of_pos (by omega)] | rw [Int.sign_eq_neg_one_of_neg (by omega), Int.sign_eq_neg_one_of_neg (by omega)]
    · first | rw [Int.sign_eq_one_of_pos (by omega), Int.sign_eq_one_of_pos (by omega)] | rw [Int.sign_eq_neg_one_of_neg (by omega), Int.sign_eq_neg_one_of_neg (by omega)]
  have hn : (1 * val (digs a.natAbs) + -1 * val (digs b.natAbs)).toNat = (a + b).natAbs := by rw [digs_val, digs_val]; have := hcase.2; omega
  have hn1 : 0 ≤ 1 * val (digs a.natAbs) + -1 * val (digs b.natAbs) := by rw [digs_val, digs_val]; have := hcase.2.2; omega
  have hn2 : 1 * val (digs a.natAbs) + -1 * val (digs b.natAbs) < P (max (digs a.natAbs).length (digs b.natAbs).length + 1) := by
    rw [digs_val, digs_val]; have := P_lt_succ (a := (a.natAbs : Int)) (b := (b.natAbs : Int)) (by omega) hab (by omega) hbb; omega
  have hcm : cmpI a.natAbs b.natAbs ≥ 0 := by
    have := hcase.2.2
    unfold cmpI
    split <;> first | omega | (split <;> omega)
  obtain ⟨c, ec⟩ : ∃ c, cmpI a.natAbs b.natAbs = c := ⟨_, rfl⟩
  rw [ec] at hcm
  have HC := Lib.hid ec
  obtain ⟨p, ep⟩ : ∃ p, a + b = p := ⟨_, rfl⟩
  obtain ⟨x, ex⟩ : ∃ x, a.sign = x := ⟨_, rfl⟩
  obtain ⟨y, ey⟩ : ∃ y, b.sign = y := ⟨_, rfl⟩
  have hxb : -1 ≤ x ∧ x ≤ 1 := by rw [← ex]; exact sgn_bd a
  have hyb : -1 ≤ y ∧ y ≤ 1 := by rw [← ey]; exact sgn_bd b
  rw [ex, ey] at hsg
  try rw [ex] at hsn
  try rw [ey] at hsn
  rw [ep] at hsn hn
  rw [ex, ey, ep]
  have HSN := Lib.hid hsn
  have HN := Lib.hid hn
  have HN1 := Lib.hid hn1
  have HN2 := Lib.hid hn2
  have HLA := Lib.hid hla
  have HLB := Lib.hid hlb

  have hx := Bx.start w x (.slice aa na ca) y (.slice ab nb cb)
  have HX0 := Lib.hid hx
  have hprod : -1 ≤ x * y ∧ x * y ≤ 1 := hpr x y hxb hyb
  clear ha hb hia hib hx hla hlb ena enb hab hbb hcase ep ex ey hsn hn hn1 hn2 ec
  go_enter Tryd.func39, Tryd.ntmps39
  go_wp2_with fail
  refine (compare_any _ _ a.natAbs b.natAbs _ (HIA.out.later HX0.out.below) (HIB.out.later HX0.out.below)).mono ?_
  rintro e w1 ⟨rfl, q, hw1⟩
  rw [HC.out]
  have HX1 : Hid (Bx w x (.slice aa na ca) y (.slice ab nb cb) w1) := by rw [hw1]; exact HX0.out.heap rfl rfl rfl rfl
  clear hw1
  have c1 := HX1.out.cells
  go_wp2_with fail
  have HXD := Lib.hid (HX1.out.heap (W' := w1.drew) rfl rfl rfl rfl)
  have e2 := HXD.out.cells
  go_region_held3 (fun W => W.cell? ⟨w.heap.size, 0, none⟩ = some (.int .i64 x) ∧ W.cell? ⟨w.heap.size, 1, none⟩ = some (.slice aa na ca) ∧ W.cell? ⟨w.heap.size + 1, 0, none⟩ = some (.int .i64 y) ∧ W.cell? ⟨w.heap.size + 1, 1, none⟩ = some (.slice ab nb cb))
    (first | exact e2 | exact x3 | exact x4 | exact HX4.out.stays _ _)
    (first
      | (go_at_call 48; (with_reducible refine (combine_any _ _ (digs a.natAbs) (digs b.natAbs) 1 (-1) _ ?_ ?_ (digs_dig _) (digs_dig _) (by omega) (by omega) (Nat.le_trans HLA.out (by omega)) (Nat.le_trans HLB.out (by omega)) HN1.out HN2.out).mono ?_); (focus exact HIA.out.later HXD.out.below); (focus exact HIB.out.later HXD.out.below); rintro e w3 ⟨v3, rfl, hi3, hb3, hf3⟩; rw [HN.out] at hi3; obtain ⟨a3, c3, rfl, hi4⟩ := hi3.open; have HX3 := Lib.hid (HXD.out.later hb3); have x3 := HX3.out.cells; have HI3 := Lib.hid hi4; have HF3 := Lib.hid hf3; clear hi3 hi4 hb3 hf3)
      | (go_at_call 44; (with_reducible refine (signed_any _ a3 c3 _ (digs_dig p.natAbs) p (digs_val _).symm HSN.out _ HI3.out).mono ?_); rintro e w4 ⟨s4, rfl, hi4, hb4, ho4⟩; obtain ⟨a5, c5, rfl, hi5⟩ := hi4.open; have HO4 := Lib.hid ho4; have HX4 := Lib.hid (HX3.out.later hb4); have x4 := HX4.out.cells; have HI5 := Lib.hid hi5; clear hi4 hi5 hb4 ho4; obtain ⟨r0, r1, f0, f1⟩ := HX4.out.rcells))
  go_wp2_with fail
  have hoff := HO4.out (w.heap.size + 1 + 1) (HF3.out _ HXD.out.size)
  exact bodyPost_ret (v := .agg #[.int .i64 p.sign, .slice a5 (digs p.natAbs).length c5]) (by simp [results, Tryd.results39, go_sem, r0, r1]) rfl
    ⟨_, rfl, (HI5.out.set hoff 0 _).set hoff 1 _, HX4.out.put _ _, fun g hg => HO4.out g (HF3.out g (by have := HXD.out.size; omega))⟩

set_option maxHeartbeats 4000000 in
theorem sum_lt (va vb : Value) (a b : Int) (w : World) (ha : IsB w va a) (hb : IsB w vb b) (hla : (digs a.natAbs).length ≤ 1000000) (hlb : (digs b.natAbs).length ≤ 1000000) (hcase : a.sign * b.sign < 0 ∧ ((0 < a ∧ b < 0) ∨ (a < 0 ∧ 0 < b)) ∧ a.natAbs < b.natAbs) :
    Calls Tryd.prog 39 #[va, vb] w (AnsB (a + b) w) := by
  obtain ⟨sa, rfl, hia⟩ := id ha
  obtain ⟨sb, rfl, hib⟩ := id hb
  have HIA := Lib.hid hia
  have HIB := Lib.hid hib
  obtain ⟨aa, ca, rfl, _⟩ := hia.open
  obtain ⟨ab, cb, rfl, _⟩ := hib.open
  obtain ⟨na, ena⟩ : ∃ n, (digs a.natAbs).length = n := ⟨_, rfl⟩
  obtain ⟨nb, enb⟩ : ∃ n, (digs b.natAbs).length = n := ⟨_, rfl⟩
  rw [ena] at HIA ⊢
  rw [enb] at HIB ⊢
  have hab := digs_lt a.natAbs
  have hbb := digs_lt b.natAbs
  have hsg : a.sign * b.sign < 0 := hcase.1
  have hsn : a + b ≠ 0 → b.sign = (a + b).sign := by
    intro hne
    have h1 := hcase.2.1
    have h2 := hcase.2.2
    rcases h1 with h | h
    · first | rw [Int.sign_eq_one_of_pos (by omega), Int.sign_eq_one_of_pos (by omega)] | rw [Int.sign_eq_neg_one_of_neg (by omega), Int.sign_eq_neg_one_of_neg (by omega)]
    · first | rw [Int.sign_eq_one_of_pos (by omega), Int.sign_eq_one_of_pos (by omega)] | rw [Int.sign_eq_neg_one_of_neg (by omega), Int.sign_eq_neg_one_of_neg (by omega)]
  have hn : (1 * val (digs b.natAbs) + -1 * val (digs a.natAbs)).toNat = (a + b).natAbs := by rw [digs_val, digs_val]; have := hcase.2; omega
  have hn1 : 0 ≤ 1 * val (digs b.natAbs) + -1 * val (digs a.natAbs) := by rw [digs_val, digs_val]; have := hcase.2.2; omega
  have hn2 : 1 * val (digs b.natAbs) + -1 * val (digs a.natAbs) < P (max (digs b.natAbs).length (digs a.natAbs).length + 1) := by
    rw [digs_val, digs_val]; have := P_lt_succ (a := (b.natAbs : Int)) (b := (a.natAbs : Int)) (by omega) hbb (by omega) hab; omega
  have hcm : cmpI a.natAbs b.natAbs < 0 := by
    have := hcase.2.2
    unfold cmpI
    rw [if_pos (by omega)]; omega
  obtain ⟨c, ec⟩ : ∃ c, cmpI a.natAbs b.natAbs = c := ⟨_, rfl⟩
  rw [ec] at hcm
  have HC := Lib.hid ec
  obtain ⟨p, ep⟩ : ∃ p, a + b = p := ⟨_, rfl⟩
  obtain ⟨x, ex⟩ : ∃ x, a.sign = x := ⟨_, rfl⟩
  obtain ⟨y, ey⟩ : ∃ y, b.sign = y := ⟨_, rfl⟩
  have hxb : -1 ≤ x ∧ x ≤ 1 := by rw [← ex]; exact sgn_bd a
  have hyb : -1 ≤ y ∧ y ≤ 1 := by rw [← ey]; exact sgn_bd b
  rw [ex, ey] at hsg
  try rw [ex] at hsn
  try rw [ey] at hsn
  rw [ep] at hsn hn
  rw [ex, ey, ep]
  have HSN := Lib.hid hsn
  have HN := Lib.hid hn
  have HN1 := Lib.hid hn1
  have HN2 := Lib.hid hn2
  have HLA := Lib.hid hla
  have HLB := Lib.hid hlb

  have hx := Bx.start w x (.slice aa na ca) y (.slice ab nb cb)
  have HX0 := Lib.hid hx
  have hprod : -1 ≤ x * y ∧ x * y ≤ 1 := hpr x y hxb hyb
  clear ha hb hia hib hx hla hlb ena enb hab hbb hcase ep ex ey hsn hn hn1 hn2 ec
  go_enter Tryd.func39, Tryd.ntmps39
  go_wp2_with fail
  refine (compare_any _ _ a.natAbs b.natAbs _ (HIA.out.later HX0.out.below) (HIB.out.later HX0.out.below)).mono ?_
  rintro e w1 ⟨rfl, q, hw1⟩
  rw [HC.out]
  have HX1 : Hid (Bx w x (.slice aa na ca) y (.slice ab nb cb) w1) := by rw [hw1]; exact HX0.out.heap rfl rfl rfl rfl
  clear hw1
  have c1 := HX1.out.cells
  have hcm2 : ¬ 0 ≤ c := by omega
  go_wp2_with fail
  have HXD := Lib.hid (HX1.out.heap (W' := w1.drew) rfl rfl rfl rfl)
  have e2 := HXD.out.cells
  go_region_held3 (fun W => W.cell? ⟨w.heap.size, 0, none⟩ = some (.int .i64 x) ∧ W.cell? ⟨w.heap.size, 1, none⟩ = some (.slice aa na ca) ∧ W.cell? ⟨w.heap.size + 1, 0, none⟩ = some (.int .i64 y) ∧ W.cell? ⟨w.heap.size + 1, 1, none⟩ = some (.slice ab nb cb))
    (first | exact e2 | exact x3 | exact x4 | exact HX4.out.stays _ _)
    (first
      | (go_at_call 48; (with_reducible refine (combine_any _ _ (digs b.natAbs) (digs a.natAbs) 1 (-1) _ ?_ ?_ (digs_dig _) (digs_dig _) (by omega) (by omega) (Nat.le_trans HLB.out (by omega)) (Nat.le_trans HLA.out (by omega)) HN1.out HN2.out).mono ?_); (focus exact HIB.out.later HXD.out.below); (focus exact HIA.out.later HXD.out.below); rintro e w3 ⟨v3, rfl, hi3, hb3, hf3⟩; rw [HN.out] at hi3; obtain ⟨a3, c3, rfl, hi4⟩ := hi3.open; have HX3 := Lib.hid (HXD.out.later hb3); have x3 := HX3.out.cells; have HI3 := Lib.hid hi4; have HF3 := Lib.hid hf3; clear hi3 hi4 hb3 hf3)
      | (go_at_call 44; (with_reducible refine (signed_any _ a3 c3 _ (digs_dig p.natAbs) p (digs_val _).symm HSN.out _ HI3.out).mono ?_); rintro e w4 ⟨s4, rfl, hi4, hb4, ho4⟩; obtain ⟨a5, c5, rfl, hi5⟩ := hi4.open; have HO4 := Lib.hid ho4; have HX4 := Lib.hid (HX3.out.later hb4); have x4 := HX4.out.cells; have HI5 := Lib.hid hi5; clear hi4 hi5 hb4 ho4; obtain ⟨r0, r1, f0, f1⟩ := HX4.out.rcells))
  go_wp2_with fail
  have hoff := HO4.out (w.heap.size + 1 + 1) (HF3.out _ HXD.out.size)
  exact bodyPost_ret (v := .agg #[.int .i64 p.sign, .slice a5 (digs p.natAbs).length c5]) (by simp [results, Tryd.results39, go_sem, r0, r1]) rfl
    ⟨_, rfl, (HI5.out.set hoff 0 _).set hoff 1 _, HX4.out.put _ _, fun g hg => HO4.out g (HF3.out g (by have := HXD.out.size; omega))⟩

theorem sum_any (va vb : Value) (a b : Int) (w : World) (ha : IsB w va a) (hb : IsB w vb b) (hla : (digs a.natAbs).length ≤ 1000000) (hlb : (digs b.natAbs).length ≤ 1000000) :
    Calls Tryd.prog 39 #[va, vb] w (AnsB (a + b) w) := by
  rcases sgn_cases a b with h | h
  · exact sum_pp va vb a b w ha hb hla hlb h
  · rcases Nat.lt_or_ge a.natAbs b.natAbs with k | k
    · exact sum_lt va vb a b w ha hb hla hlb ⟨h.1, h.2, k⟩
    · exact sum_ge va vb a b w ha hb hla hlb ⟨h.1, h.2, k⟩
end Go.Proofs.YtpcagodnlbdclaaDoor.Bi
