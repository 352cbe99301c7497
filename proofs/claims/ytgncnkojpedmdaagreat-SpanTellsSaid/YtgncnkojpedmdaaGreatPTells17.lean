/- Slices of fractions; the contract of the reference's around. The contract of the reference of span: Hull. -/
import Derived.Deep.RegionLaw
import Derived.Deep.LoopGhost
import Derived.Test.YtgncnkojpedmdaaGreatPTells16
set_option maxRecDepth 100000
namespace Go.Proofs.YtgncnkojpedmdaaGreat.Sp
open Go.RowKit Bi

/-- The sign and the slices of a fraction. -/
structure FCell where
 (s : Int) (a : Option Addr) (n c : Nat) (b : Option Addr) (m d : Nat)
def FCell.v (x : FCell) : Value := .slice x.a x.n x.c
def FCell.u (x : FCell) : Value := .slice x.b x.m x.d
/-- The block G holds n fractions, one behind the other. -/
structure FLs (w : World) (G n : Nat) (fs : Nat → FCell) (l : Nat → Rat) : Prop where
 lt : G < w.heap.size
 cell : ∀ i, i < n → w.cell? ⟨G, i * 4, none⟩ = some (.int .i64 (fs i).s) ∧ w.cell? ⟨G, i * 4 + 1, none⟩ = some (fs i).v ∧ w.cell? ⟨G, i * 4 + 2, none⟩ = some (.int .i64 1) ∧ w.cell? ⟨G, i * 4 + 3, none⟩ = some (fs i).u
 fr : ∀ i, i < n → Fr w (fs i).s (fs i).v (fs i).u (l i)
 sz : ∀ i, i < n → FSz 1000 (l i)
theorem FLs.later {w w' : World} {G n : Nat} {fs : Nat → FCell} {l : Nat → Rat} (h : FLs w G n fs l) (hb : RowKit.Below w.heap.size w w') : FLs w' G n fs l := by
 have hc : ∀ j, w'.cell? ⟨G, j, none⟩ = w.cell? ⟨G, j, none⟩ := fun j => by
  unfold World.cell?; rw [hb.block G h.lt]
 exact ⟨Nat.lt_of_lt_of_le h.lt hb.size, fun i hi => by rw [hc, hc, hc, hc]; exact h.cell i hi, fun i hi => (h.fr i hi).later hb, h.sz⟩
theorem fl_at (g n c k : Nat) (hk : k < n) (_hn : n ≤ 1000) (W : World) : (Instr.indexAt 51 (.slice (some ⟨g, 0, none⟩) n c) (.int .i64 (k : Int))).run Tryz.prog W = .ok (.pointer (some ⟨g, k * 4, none⟩)) W := by
 have ha : (asIntOf (.int .i64 (k : Int))).run Tryz.prog W = .ok (IntKind.i64, (k : Int)) W := rfl
 obtain ⟨i0, hi, hs⟩ := infoFrac
 simp [Instr.indexAt, run_underlying Tryz.underlying51, hk, ha, Addr.add, sizeOf, typeInfo, hi, ← hs]
 intro e; exact e.symm
theorem cmp_lt0 {a b : Rat} {k : Int} (h : cmpR a b = k) : (k < 0 ↔ a < b) ∧ (0 < k ↔ b < a) := by
 subst h
 have := cmpR_bd a b
 constructor
 ·rw [← cmpR_lt]; omega
 ·rw [← cmpR_gt]; omega
theorem step_lh {l : Nat → Rat} {i p q : Nat} (h : ∀ j, j < i → l p ≤ l j ∧ l j ≤ l q) (h1 : l i < l p) (h2 : l q < l i) (j : Nat) (hj : j < i + 1) : l i ≤ l j ∧ l j ≤ l i := by
 by_cases e : j = i
 ·subst e; exact ⟨Rat.le_refl, Rat.le_refl⟩
 ·have := h j (by omega)
  exact ⟨Rat.le_trans (Rat.le_of_lt h1) this.1, Rat.le_trans this.2 (Rat.le_of_lt h2)⟩
theorem step_ln {l : Nat → Rat} {i p q : Nat} (h : ∀ j, j < i → l p ≤ l j ∧ l j ≤ l q) (h1 : l i < l p) (h2 : ¬ l q < l i) (j : Nat) (hj : j < i + 1) : l i ≤ l j ∧ l j ≤ l q := by
 by_cases e : j = i
 ·subst e; exact ⟨Rat.le_refl, Rat.not_lt.1 h2⟩
 ·have := h j (by omega)
  exact ⟨Rat.le_trans (Rat.le_of_lt h1) this.1, this.2⟩
theorem step_nh {l : Nat → Rat} {i p q : Nat} (h : ∀ j, j < i → l p ≤ l j ∧ l j ≤ l q) (h1 : ¬ l i < l p) (h2 : l q < l i) (j : Nat) (hj : j < i + 1) : l p ≤ l j ∧ l j ≤ l i := by
 by_cases e : j = i
 ·subst e; exact ⟨Rat.not_lt.1 h1, Rat.le_refl⟩
 ·have := h j (by omega)
  exact ⟨this.1, Rat.le_trans this.2 (Rat.le_of_lt h2)⟩
theorem step_nn {l : Nat → Rat} {i p q : Nat} (h : ∀ j, j < i → l p ≤ l j ∧ l j ≤ l q) (h1 : ¬ l i < l p) (h2 : ¬ l q < l i) (j : Nat) (hj : j < i + 1) : l p ≤ l j ∧ l j ≤ l q := by
 by_cases e : j = i
 ·subst e; exact ⟨Rat.not_lt.1 h1, Rat.not_lt.1 h2⟩
 ·exact h j (by omega)

set_option maxHeartbeats 16000000 in
theorem r10around {w : World} {G n c : Nat} {fs : Nat → FCell} {l : Nat → Rat} (h : FLs w G n fs l) (hn0 : 0 < n) (hn : n ≤ 1000) :
  Calls Tryz.prog 40 #[.slice (some ⟨G, 0, none⟩) n c] w fun e w' => ∃ p q, p < n ∧ q < n ∧ (∀ i, i < n → l p ≤ l i ∧ l i ≤ l q) ∧ e = .returned (.agg #[.int .i64 (fs p).s, .slice (fs p).a (fs p).n (fs p).c, .int .i64 1, .slice (fs p).b (fs p).m (fs p).d, .int .i64 (fs q).s, .slice (fs q).a (fs q).n (fs q).c, .int .i64 1, .slice (fs q).b (fs q).m (fs q).d]) ∧ RowKit.Below w.heap.size w w' := by
 have HF := Lib.hid h
 have HI := Lib.hid (fun k (hk : k < n) W => fl_at G n c k hk hn W)
 have hi0 : ∀ W : World, (Instr.indexAt 51 (.slice (some ⟨G, 0, none⟩) n c) (.int .i64 0)).run Tryz.prog W = .ok (.pointer (some ⟨G, 0, none⟩)) W := fun W => HI.out 0 hn0 W
 have s0 := ((Sf.start w).put [.int .i64 0, .slice none 0 0, .int .i64 0, .slice none 0 0, .int .i64 0, .slice none 0 0, .int .i64 0, .slice none 0 0] 28)
 try simp only [World.size_alloc] at s0
 have S0 := Lib.hid s0
 clear s0
 have HF0 := Lib.hid (HF.out.later S0.out.below)
 have HC0 := (HF.out.later ((S0.out.drew).below)).cell 0 hn0
 simp only [Nat.zero_mul, Nat.zero_add] at HC0
 obtain ⟨c0, c1, c2, c3⟩ := HC0
 unfold FCell.v at c1
 unfold FCell.u at c3
 have HC1 := (HF.out.later (((S0.out.put [.int .i64 0, .slice none 0 0, .int .i64 0, .slice none 0 0, .int .i64 0, .slice none 0 0, .int .i64 0, .slice none 0 0] 28).drew).below)).cell 0 hn0
 simp only [Nat.zero_mul, Nat.zero_add] at HC1
 obtain ⟨d0, d1, d2, d3⟩ := HC1
 unfold FCell.v at d1
 unfold FCell.u at d3
 have HN0 := Lib.hid hn0
 clear h
 go_enter Tryz.func40, Tryz.ntmps40
 go_upto_region 1 with fail
 go_region
 clear c0 c1 c2 c3 d0 d1 d2 d3 hi0
 have S1 : Hid (Sf w [(w.heap.size + 1, 28, [.int .i64 (fs 0).s, .slice (fs 0).a (fs 0).n (fs 0).c, .int .i64 1, .slice (fs 0).b (fs 0).m (fs 0).d, .int .i64 (fs 0).s, .slice (fs 0).a (fs 0).n (fs 0).c, .int .i64 1, .slice (fs 0).b (fs 0).m (fs 0).d]), (w.heap.size, 28, [.int .i64 0, .slice none 0 0, .int .i64 0, .slice none 0 0, .int .i64 0, .slice none 0 0, .int .i64 0, .slice none 0 0])] [] ((w.alloc (.cells #[.int .i64 0, .slice none 0 0, .int .i64 0, .slice none 0 0, .int .i64 0, .slice none 0 0, .int .i64 0, .slice none 0 0] 28)).alloc (.cells #[.int .i64 (fs 0).s, .slice (fs 0).a (fs 0).n (fs 0).c, .int .i64 1, .slice (fs 0).b (fs 0).m (fs 0).d, .int .i64 (fs 0).s, .slice (fs 0).a (fs 0).n (fs 0).c, .int .i64 1, .slice (fs 0).b (fs 0).m (fs 0).d] 28)).drew) := Lib.hid (by
  have := ((S0.out).put [.int .i64 (fs 0).s, .slice (fs 0).a (fs 0).n (fs 0).c, .int .i64 1, .slice (fs 0).b (fs 0).m (fs 0).d, .int .i64 (fs 0).s, .slice (fs 0).a (fs 0).n (fs 0).c, .int .i64 1, .slice (fs 0).b (fs 0).m (fs 0).d] 28).drew
  simpa using this)
 go_wp2_with fail
 go_loopw [4] (fun t wr => ∃ i p q : Nat, i ≤ n ∧ t = .int .i64 (i : Int) ∧ p < n ∧ q < n ∧ (∀ j, j < i → l p ≤ l j ∧ l j ≤ l q) ∧ Sf w [(w.heap.size + 1, 28, [.int .i64 (fs p).s, .slice (fs p).a (fs p).n (fs p).c, .int .i64 1, .slice (fs p).b (fs p).m (fs p).d, .int .i64 (fs q).s, .slice (fs q).a (fs q).n (fs q).c, .int .i64 1, .slice (fs q).b (fs q).m (fs q).d]), (w.heap.size, 28, [.int .i64 0, .slice none 0 0, .int .i64 0, .slice none 0 0, .int .i64 0, .slice none 0 0, .int .i64 0, .slice none 0 0])] [] wr) (fun t _ => 1001 - (RowKit.intOf t).toNat)
 case atStart => exact ⟨0, 0, 0, Nat.zero_le _, rfl, hn0, hn0, fun j hj => absurd hj (Nat.not_lt_zero _), S1.out⟩
 case round =>
  obtain ⟨i, p, q, hi, rfl, hp, hq, hlu, hS⟩ := hrel
  have HS := Lib.hid hS
  have HLU := Lib.hid hlu
  have HP := Lib.hid hp
  have HQ := Lib.hid hq
  clear hS hlu hp hq
  by_cases hlt : i < n
  ·have hlt2 : decide ((i : Int) < (n : Int)) = true := by simp; omega
   have hw1 : IntKind.i64.wrap ((i : Int) + 1) = (i : Int) + 1 := IntWalk.i64_in _ (by omega)
   have hia := HI.out i hlt
   have HLT := Lib.hid hlt
   obtain ⟨k1, hk1⟩ : ∃ k, cmpR (l i) (l p) = k := ⟨_, rfl⟩
   obtain ⟨k2, hk2⟩ : ∃ k, cmpR (l i) (l q) = k := ⟨_, rfl⟩
   have HK1 := Lib.hid hk1
   have HK2 := Lib.hid hk2
   obtain ⟨c1, gd1⟩ : ∃ c, decide (k1 < 0) = c := ⟨_, rfl⟩
   obtain ⟨c2, gd2⟩ : ∃ c, decide (0 < k2) = c := ⟨_, rfl⟩
   clear hk1 hk2
   have HFC : Hid (∀ W, RowKit.Below w.heap.size w W → W.cell? ⟨G, i * 4, none⟩ = some (.int .i64 (fs i).s) ∧ W.cell? ⟨G, i * 4 + 1, none⟩ = some (.slice (fs i).a (fs i).n (fs i).c) ∧ W.cell? ⟨G, i * 4 + 2, none⟩ = some (.int .i64 1) ∧ W.cell? ⟨G, i * 4 + 3, none⟩ = some (.slice (fs i).b (fs i).m (fs i).d)) := Lib.hid (fun W hb => (HF.out.later hb).cell i HLT.out)
   go_upto_region 5 with fail
   go_cut [25] from 18 to 25 (fun u wx => u = .bool c1 ∧ Hid (Sf w [(w.heap.size + 1, 28, [.int .i64 (fs p).s, .slice (fs p).a (fs p).n (fs p).c, .int .i64 1, .slice (fs p).b (fs p).m (fs p).d, .int .i64 (fs q).s, .slice (fs q).a (fs q).n (fs q).c, .int .i64 1, .slice (fs q).b (fs q).m (fs q).d]), (w.heap.size, 28, [.int .i64 0, .slice none 0 0, .int .i64 0, .slice none 0 0, .int .i64 0, .slice none 0 0, .int .i64 0, .slice none 0 0])] [] wx))
   case first =>
    have K0 : ∀ W, Sf w [(w.heap.size + 1, 28, [.int .i64 (fs p).s, .slice (fs p).a (fs p).n (fs p).c, .int .i64 1, .slice (fs p).b (fs p).m (fs p).d, .int .i64 (fs q).s, .slice (fs q).a (fs q).n (fs q).c, .int .i64 1, .slice (fs q).b (fs q).m (fs q).d]), (w.heap.size, 28, [.int .i64 0, .slice none 0 0, .int .i64 0, .slice none 0 0, .int .i64 0, .slice none 0 0, .int .i64 0, .slice none 0 0])] [] W → W.cell? ⟨w.heap.size + 1, 0, none⟩ = some (.int .i64 (fs p).s) ∧ W.cell? ⟨w.heap.size + 1, 1, none⟩ = some (.slice (fs p).a (fs p).n (fs p).c) ∧ W.cell? ⟨w.heap.size + 1, 2, none⟩ = some (.int .i64 1) ∧ W.cell? ⟨w.heap.size + 1, 3, none⟩ = some (.slice (fs p).b (fs p).m (fs p).d) ∧ W.cell? ⟨w.heap.size + 1, 4, none⟩ = some (.int .i64 (fs q).s) ∧ W.cell? ⟨w.heap.size + 1, 5, none⟩ = some (.slice (fs q).a (fs q).n (fs q).c) ∧ W.cell? ⟨w.heap.size + 1, 6, none⟩ = some (.int .i64 1) ∧ W.cell? ⟨w.heap.size + 1, 7, none⟩ = some (.slice (fs q).b (fs q).m (fs q).d) ∧ W.cell? ⟨G, i * 4, none⟩ = some (.int .i64 (fs i).s) ∧ W.cell? ⟨G, i * 4 + 1, none⟩ = some (.slice (fs i).a (fs i).n (fs i).c) ∧ W.cell? ⟨G, i * 4 + 2, none⟩ = some (.int .i64 1) ∧ W.cell? ⟨G, i * 4 + 3, none⟩ = some (.slice (fs i).b (fs i).m (fs i).d) := fun W h => ⟨(h.box _ mq0).cell 0, (h.box _ mq0).cell 1, (h.box _ mq0).cell 2, (h.box _ mq0).cell 3, (h.box _ mq0).cell 4, (h.box _ mq0).cell 5, (h.box _ mq0).cell 6, (h.box _ mq0).cell 7, (HFC.out _ h.below).1, (HFC.out _ h.below).2.1, (HFC.out _ h.below).2.2.1, (HFC.out _ h.below).2.2.2⟩
    have KK := Lib.hid K0
    clear K0
    have N0 := Lib.hid HS.out.drew
    clear HS
    have e0 := KK.out _ N0.out
    have C1 := Lib.hid (rfcmp_r ((HF.out.later N0.out.below).fr i HLT.out) ((HF.out.later N0.out.below).fr p HP.out) (HF.out.sz i HLT.out) (HF.out.sz p HP.out) HK1.out)
    go_region_held3 (fun W => W.cell? ⟨w.heap.size + 1, 0, none⟩ = some (.int .i64 (fs p).s) ∧ W.cell? ⟨w.heap.size + 1, 1, none⟩ = some (.slice (fs p).a (fs p).n (fs p).c) ∧ W.cell? ⟨w.heap.size + 1, 2, none⟩ = some (.int .i64 1) ∧ W.cell? ⟨w.heap.size + 1, 3, none⟩ = some (.slice (fs p).b (fs p).m (fs p).d) ∧ W.cell? ⟨w.heap.size + 1, 4, none⟩ = some (.int .i64 (fs q).s) ∧ W.cell? ⟨w.heap.size + 1, 5, none⟩ = some (.slice (fs q).a (fs q).n (fs q).c) ∧ W.cell? ⟨w.heap.size + 1, 6, none⟩ = some (.int .i64 1) ∧ W.cell? ⟨w.heap.size + 1, 7, none⟩ = some (.slice (fs q).b (fs q).m (fs q).d) ∧ W.cell? ⟨G, i * 4, none⟩ = some (.int .i64 (fs i).s) ∧ W.cell? ⟨G, i * 4 + 1, none⟩ = some (.slice (fs i).a (fs i).n (fs i).c) ∧ W.cell? ⟨G, i * 4 + 2, none⟩ = some (.int .i64 1) ∧ W.cell? ⟨G, i * 4 + 3, none⟩ = some (.slice (fs i).b (fs i).m (fs i).d))
     (first | (with_reducible exact e0) | (with_reducible exact e1) | go_keep)
     (first
       | (have hG := N0; clear hG; go_at_call 46; (with_reducible refine (C1.out).mono ?_); rintro e y1 ⟨rfl, hb⟩; have N1 := Lib.hid (N0.out.later hb); clear hb; have e1 := KK.out _ N1.out))
    all_goals (go_wp2_with fail; go_meet; exact ⟨rfl, Lib.hid N1.out⟩)
   case rest =>
   obtain ⟨rfl, hq⟩ := hcut
   obtain ⟨v1, rfl⟩ : ∃ W, W = wc := ⟨_, rfl⟩
   have R1 := Lib.hid hq.out
   clear hq HS
   cases c1
   case true =>
    have HC1 : Hid (k1 < 0) := Lib.hid (of_decide_eq_true gd1)
    obtain ⟨f0, f1, f2, f3⟩ := HFC.out _ R1.out.below
    have Q1 : Hid (Sf w ([] ++ (w.heap.size + 1, 28, [.int .i64 (fs i).s, .slice (fs i).a (fs i).n (fs i).c, .int .i64 1, .slice (fs i).b (fs i).m (fs i).d, .int .i64 (fs q).s, .slice (fs q).a (fs q).n (fs q).c, .int .i64 1, .slice (fs q).b (fs q).m (fs q).d]) :: [(w.heap.size, 28, [.int .i64 0, .slice none 0 0, .int .i64 0, .slice none 0 0, .int .i64 0, .slice none 0 0, .int .i64 0, .slice none 0 0])]) _ _) := Lib.hid (Sf.part (pre := []) R1.out 0 1 2 3 rfl rfl rfl (.int .i64 (fs i).s) (.slice (fs i).a (fs i).n (fs i).c) (.int .i64 1) (.slice (fs i).b (fs i).m (fs i).d))
    obtain ⟨V1, hV1⟩ : ∃ V, (((((v1).setCell ⟨w.heap.size + 1, 0, none⟩ (.int .i64 (fs i).s)).setCell ⟨w.heap.size + 1, 1, none⟩ (.slice (fs i).a (fs i).n (fs i).c)).setCell ⟨w.heap.size + 1, 2, none⟩ (.int .i64 1)).setCell ⟨w.heap.size + 1, 3, none⟩ (.slice (fs i).b (fs i).m (fs i).d)) = V := ⟨_, rfl⟩
    rw [hV1] at Q1
    have HV1 := Lib.hid hV1
    clear hV1
    go_upto_region 7 with ((refine wpList_store4 rfl _ _ _ rfl _ 0 1 2 3 rfl rfl rfl (.int .i64 (fs i).s) (.slice (fs i).a (fs i).n (fs i).c) (.int .i64 1) (.slice (fs i).b (fs i).m (fs i).d) rfl rfl (R1.out.box _ mq0) (Nat.le_of_ble_eq_true rfl) infoFrac (by simp [Value.oneCell']) ?_; rw [HV1.out]))
    clear f0 f1 f2 f3
    try dsimp only [Act.put]
    go_cut [38] from 31 to 38 (fun u wx => u = .bool c2 ∧ Hid (Sf w [(w.heap.size + 1, 28, [.int .i64 (fs i).s, .slice (fs i).a (fs i).n (fs i).c, .int .i64 1, .slice (fs i).b (fs i).m (fs i).d, .int .i64 (fs q).s, .slice (fs q).a (fs q).n (fs q).c, .int .i64 1, .slice (fs q).b (fs q).m (fs q).d]), (w.heap.size, 28, [.int .i64 0, .slice none 0 0, .int .i64 0, .slice none 0 0, .int .i64 0, .slice none 0 0, .int .i64 0, .slice none 0 0])] [] wx))
    case first =>
     have K0 : ∀ W, Sf w [(w.heap.size + 1, 28, [.int .i64 (fs i).s, .slice (fs i).a (fs i).n (fs i).c, .int .i64 1, .slice (fs i).b (fs i).m (fs i).d, .int .i64 (fs q).s, .slice (fs q).a (fs q).n (fs q).c, .int .i64 1, .slice (fs q).b (fs q).m (fs q).d]), (w.heap.size, 28, [.int .i64 0, .slice none 0 0, .int .i64 0, .slice none 0 0, .int .i64 0, .slice none 0 0, .int .i64 0, .slice none 0 0])] [] W → W.cell? ⟨w.heap.size + 1, 0, none⟩ = some (.int .i64 (fs i).s) ∧ W.cell? ⟨w.heap.size + 1, 1, none⟩ = some (.slice (fs i).a (fs i).n (fs i).c) ∧ W.cell? ⟨w.heap.size + 1, 2, none⟩ = some (.int .i64 1) ∧ W.cell? ⟨w.heap.size + 1, 3, none⟩ = some (.slice (fs i).b (fs i).m (fs i).d) ∧ W.cell? ⟨w.heap.size + 1, 4, none⟩ = some (.int .i64 (fs q).s) ∧ W.cell? ⟨w.heap.size + 1, 5, none⟩ = some (.slice (fs q).a (fs q).n (fs q).c) ∧ W.cell? ⟨w.heap.size + 1, 6, none⟩ = some (.int .i64 1) ∧ W.cell? ⟨w.heap.size + 1, 7, none⟩ = some (.slice (fs q).b (fs q).m (fs q).d) ∧ W.cell? ⟨G, i * 4, none⟩ = some (.int .i64 (fs i).s) ∧ W.cell? ⟨G, i * 4 + 1, none⟩ = some (.slice (fs i).a (fs i).n (fs i).c) ∧ W.cell? ⟨G, i * 4 + 2, none⟩ = some (.int .i64 1) ∧ W.cell? ⟨G, i * 4 + 3, none⟩ = some (.slice (fs i).b (fs i).m (fs i).d) := fun W h => ⟨(h.box _ mq0).cell 0, (h.box _ mq0).cell 1, (h.box _ mq0).cell 2, (h.box _ mq0).cell 3, (h.box _ mq0).cell 4, (h.box _ mq0).cell 5, (h.box _ mq0).cell 6, (h.box _ mq0).cell 7, (HFC.out _ h.below).1, (HFC.out _ h.below).2.1, (HFC.out _ h.below).2.2.1, (HFC.out _ h.below).2.2.2⟩
     have KK := Lib.hid K0
     clear K0
     have N0 := Lib.hid Q1.out.drew
     clear Q1
     have e0 := KK.out _ N0.out
     have C1 := Lib.hid (rfcmp_r ((HF.out.later N0.out.below).fr i HLT.out) ((HF.out.later N0.out.below).fr q HQ.out) (HF.out.sz i HLT.out) (HF.out.sz q HQ.out) HK2.out)
     go_region_held3 (fun W => W.cell? ⟨w.heap.size + 1, 0, none⟩ = some (.int .i64 (fs i).s) ∧ W.cell? ⟨w.heap.size + 1, 1, none⟩ = some (.slice (fs i).a (fs i).n (fs i).c) ∧ W.cell? ⟨w.heap.size + 1, 2, none⟩ = some (.int .i64 1) ∧ W.cell? ⟨w.heap.size + 1, 3, none⟩ = some (.slice (fs i).b (fs i).m (fs i).d) ∧ W.cell? ⟨w.heap.size + 1, 4, none⟩ = some (.int .i64 (fs q).s) ∧ W.cell? ⟨w.heap.size + 1, 5, none⟩ = some (.slice (fs q).a (fs q).n (fs q).c) ∧ W.cell? ⟨w.heap.size + 1, 6, none⟩ = some (.int .i64 1) ∧ W.cell? ⟨w.heap.size + 1, 7, none⟩ = some (.slice (fs q).b (fs q).m (fs q).d) ∧ W.cell? ⟨G, i * 4, none⟩ = some (.int .i64 (fs i).s) ∧ W.cell? ⟨G, i * 4 + 1, none⟩ = some (.slice (fs i).a (fs i).n (fs i).c) ∧ W.cell? ⟨G, i * 4 + 2, none⟩ = some (.int .i64 1) ∧ W.cell? ⟨G, i * 4 + 3, none⟩ = some (.slice (fs i).b (fs i).m (fs i).d))
      (first | (with_reducible exact e0) | (with_reducible exact e1) | go_keep)
      (first
        | (have hG := N0; clear hG; go_at_call 46; (with_reducible refine (C1.out).mono ?_); rintro e y1 ⟨rfl, hb⟩; have N1 := Lib.hid (N0.out.later hb); clear hb; have e1 := KK.out _ N1.out))
     all_goals (go_wp2_with fail; go_meet; exact ⟨rfl, Lib.hid N1.out⟩)
    case rest =>
    obtain ⟨rfl, hq⟩ := hcut
    obtain ⟨v2, rfl⟩ : ∃ W, W = wc := ⟨_, rfl⟩
    have R2 := Lib.hid hq.out
    clear hq Q1
    cases c2
    case true =>
     have HC2 : Hid (0 < k2) := Lib.hid (of_decide_eq_true gd2)
     obtain ⟨f0, f1, f2, f3⟩ := HFC.out _ R2.out.below
     have Q2 : Hid (Sf w ([] ++ (w.heap.size + 1, 28, [.int .i64 (fs i).s, .slice (fs i).a (fs i).n (fs i).c, .int .i64 1, .slice (fs i).b (fs i).m (fs i).d, .int .i64 (fs i).s, .slice (fs i).a (fs i).n (fs i).c, .int .i64 1, .slice (fs i).b (fs i).m (fs i).d]) :: [(w.heap.size, 28, [.int .i64 0, .slice none 0 0, .int .i64 0, .slice none 0 0, .int .i64 0, .slice none 0 0, .int .i64 0, .slice none 0 0])]) _ _) := Lib.hid (Sf.part (pre := []) R2.out 4 5 6 7 rfl rfl rfl (.int .i64 (fs i).s) (.slice (fs i).a (fs i).n (fs i).c) (.int .i64 1) (.slice (fs i).b (fs i).m (fs i).d))
     obtain ⟨V2, hV2⟩ : ∃ V, (((((v2).setCell ⟨w.heap.size + 1, 4, none⟩ (.int .i64 (fs i).s)).setCell ⟨w.heap.size + 1, 5, none⟩ (.slice (fs i).a (fs i).n (fs i).c)).setCell ⟨w.heap.size + 1, 6, none⟩ (.int .i64 1)).setCell ⟨w.heap.size + 1, 7, none⟩ (.slice (fs i).b (fs i).m (fs i).d)) = V := ⟨_, rfl⟩
     rw [hV2] at Q2
     have HV2 := Lib.hid hV2
     clear hV2
     go_wp2_with (first | (refine wpList_store4 rfl _ _ _ rfl _ 4 5 6 7 rfl rfl rfl (.int .i64 (fs i).s) (.slice (fs i).a (fs i).n (fs i).c) (.int .i64 1) (.slice (fs i).b (fs i).m (fs i).d) rfl rfl (R2.out.box _ mq0) (Nat.le_of_ble_eq_true rfl) infoFrac (by simp [Value.oneCell']) ?_; rw [HV2.out]))
     have HLL := Lib.hid (cmp_lt0 HK1.out)
     have HRR := Lib.hid (cmp_lt0 HK2.out)
     go_roundw
     case rel => exact ⟨i + 1, i, i, hlt, by go_num, hlt, hlt, fun j hj => step_lh HLU.out (HLL.out.1.1 HC1.out) (HRR.out.2.1 HC2.out) j hj, Q2.out⟩
     case measure => simp [RowKit.intOf]; omega
    case false =>
     have HC2 : Hid (¬ 0 < k2) := Lib.hid (of_decide_eq_false gd2)
     go_wp2_with fail
     have HLL := Lib.hid (cmp_lt0 HK1.out)
     have HRR := Lib.hid (cmp_lt0 HK2.out)
     go_roundw
     case rel => exact ⟨i + 1, i, q, hlt, by go_num, hlt, HQ.out, fun j hj => step_ln HLU.out (HLL.out.1.1 HC1.out) (fun e => HC2.out (HRR.out.2.2 e)) j hj, R2.out⟩
     case measure => simp [RowKit.intOf]; omega
   case false =>
    have HC1 : Hid (¬ k1 < 0) := Lib.hid (of_decide_eq_false gd1)
    go_upto_region 7 with fail
    go_cut [38] from 31 to 38 (fun u wx => u = .bool c2 ∧ Hid (Sf w [(w.heap.size + 1, 28, [.int .i64 (fs p).s, .slice (fs p).a (fs p).n (fs p).c, .int .i64 1, .slice (fs p).b (fs p).m (fs p).d, .int .i64 (fs q).s, .slice (fs q).a (fs q).n (fs q).c, .int .i64 1, .slice (fs q).b (fs q).m (fs q).d]), (w.heap.size, 28, [.int .i64 0, .slice none 0 0, .int .i64 0, .slice none 0 0, .int .i64 0, .slice none 0 0, .int .i64 0, .slice none 0 0])] [] wx))
    case first =>
     have K0 : ∀ W, Sf w [(w.heap.size + 1, 28, [.int .i64 (fs p).s, .slice (fs p).a (fs p).n (fs p).c, .int .i64 1, .slice (fs p).b (fs p).m (fs p).d, .int .i64 (fs q).s, .slice (fs q).a (fs q).n (fs q).c, .int .i64 1, .slice (fs q).b (fs q).m (fs q).d]), (w.heap.size, 28, [.int .i64 0, .slice none 0 0, .int .i64 0, .slice none 0 0, .int .i64 0, .slice none 0 0, .int .i64 0, .slice none 0 0])] [] W → W.cell? ⟨w.heap.size + 1, 0, none⟩ = some (.int .i64 (fs p).s) ∧ W.cell? ⟨w.heap.size + 1, 1, none⟩ = some (.slice (fs p).a (fs p).n (fs p).c) ∧ W.cell? ⟨w.heap.size + 1, 2, none⟩ = some (.int .i64 1) ∧ W.cell? ⟨w.heap.size + 1, 3, none⟩ = some (.slice (fs p).b (fs p).m (fs p).d) ∧ W.cell? ⟨w.heap.size + 1, 4, none⟩ = some (.int .i64 (fs q).s) ∧ W.cell? ⟨w.heap.size + 1, 5, none⟩ = some (.slice (fs q).a (fs q).n (fs q).c) ∧ W.cell? ⟨w.heap.size + 1, 6, none⟩ = some (.int .i64 1) ∧ W.cell? ⟨w.heap.size + 1, 7, none⟩ = some (.slice (fs q).b (fs q).m (fs q).d) ∧ W.cell? ⟨G, i * 4, none⟩ = some (.int .i64 (fs i).s) ∧ W.cell? ⟨G, i * 4 + 1, none⟩ = some (.slice (fs i).a (fs i).n (fs i).c) ∧ W.cell? ⟨G, i * 4 + 2, none⟩ = some (.int .i64 1) ∧ W.cell? ⟨G, i * 4 + 3, none⟩ = some (.slice (fs i).b (fs i).m (fs i).d) := fun W h => ⟨(h.box _ mq0).cell 0, (h.box _ mq0).cell 1, (h.box _ mq0).cell 2, (h.box _ mq0).cell 3, (h.box _ mq0).cell 4, (h.box _ mq0).cell 5, (h.box _ mq0).cell 6, (h.box _ mq0).cell 7, (HFC.out _ h.below).1, (HFC.out _ h.below).2.1, (HFC.out _ h.below).2.2.1, (HFC.out _ h.below).2.2.2⟩
     have KK := Lib.hid K0
     clear K0
     have N0 := Lib.hid R1.out.drew
     clear R1
     have e0 := KK.out _ N0.out
     have C1 := Lib.hid (rfcmp_r ((HF.out.later N0.out.below).fr i HLT.out) ((HF.out.later N0.out.below).fr q HQ.out) (HF.out.sz i HLT.out) (HF.out.sz q HQ.out) HK2.out)
     go_region_held3 (fun W => W.cell? ⟨w.heap.size + 1, 0, none⟩ = some (.int .i64 (fs p).s) ∧ W.cell? ⟨w.heap.size + 1, 1, none⟩ = some (.slice (fs p).a (fs p).n (fs p).c) ∧ W.cell? ⟨w.heap.size + 1, 2, none⟩ = some (.int .i64 1) ∧ W.cell? ⟨w.heap.size + 1, 3, none⟩ = some (.slice (fs p).b (fs p).m (fs p).d) ∧ W.cell? ⟨w.heap.size + 1, 4, none⟩ = some (.int .i64 (fs q).s) ∧ W.cell? ⟨w.heap.size + 1, 5, none⟩ = some (.slice (fs q).a (fs q).n (fs q).c) ∧ W.cell? ⟨w.heap.size + 1, 6, none⟩ = some (.int .i64 1) ∧ W.cell? ⟨w.heap.size + 1, 7, none⟩ = some (.slice (fs q).b (fs q).m (fs q).d) ∧ W.cell? ⟨G, i * 4, none⟩ = some (.int .i64 (fs i).s) ∧ W.cell? ⟨G, i * 4 + 1, none⟩ = some (.slice (fs i).a (fs i).n (fs i).c) ∧ W.cell? ⟨G, i * 4 + 2, none⟩ = some (.int .i64 1) ∧ W.cell? ⟨G, i * 4 + 3, none⟩ = some (.slice (fs i).b (fs i).m (fs i).d))
      (first | (with_reducible exact e0) | (with_reducible exact e1) | go_keep)
      (first
        | (have hG := N0; clear hG; go_at_call 46; (with_reducible refine (C1.out).mono ?_); rintro e y1 ⟨rfl, hb⟩; have N1 := Lib.hid (N0.out.later hb); clear hb; have e1 := KK.out _ N1.out))
     all_goals (go_wp2_with fail; go_meet; exact ⟨rfl, Lib.hid N1.out⟩)
    case rest =>
    obtain ⟨rfl, hq⟩ := hcut
    obtain ⟨v2, rfl⟩ : ∃ W, W = wc := ⟨_, rfl⟩
    have R2 := Lib.hid hq.out
    clear hq R1
    cases c2
    case true =>
     have HC2 : Hid (0 < k2) := Lib.hid (of_decide_eq_true gd2)
     obtain ⟨f0, f1, f2, f3⟩ := HFC.out _ R2.out.below
     have Q1 : Hid (Sf w ([] ++ (w.heap.size + 1, 28, [.int .i64 (fs p).s, .slice (fs p).a (fs p).n (fs p).c, .int .i64 1, .slice (fs p).b (fs p).m (fs p).d, .int .i64 (fs i).s, .slice (fs i).a (fs i).n (fs i).c, .int .i64 1, .slice (fs i).b (fs i).m (fs i).d]) :: [(w.heap.size, 28, [.int .i64 0, .slice none 0 0, .int .i64 0, .slice none 0 0, .int .i64 0, .slice none 0 0, .int .i64 0, .slice none 0 0])]) _ _) := Lib.hid (Sf.part (pre := []) R2.out 4 5 6 7 rfl rfl rfl (.int .i64 (fs i).s) (.slice (fs i).a (fs i).n (fs i).c) (.int .i64 1) (.slice (fs i).b (fs i).m (fs i).d))
     obtain ⟨V1, hV1⟩ : ∃ V, (((((v2).setCell ⟨w.heap.size + 1, 4, none⟩ (.int .i64 (fs i).s)).setCell ⟨w.heap.size + 1, 5, none⟩ (.slice (fs i).a (fs i).n (fs i).c)).setCell ⟨w.heap.size + 1, 6, none⟩ (.int .i64 1)).setCell ⟨w.heap.size + 1, 7, none⟩ (.slice (fs i).b (fs i).m (fs i).d)) = V := ⟨_, rfl⟩
     rw [hV1] at Q1
     have HV1 := Lib.hid hV1
     clear hV1
     go_wp2_with (first | (refine wpList_store4 rfl _ _ _ rfl _ 4 5 6 7 rfl rfl rfl (.int .i64 (fs i).s) (.slice (fs i).a (fs i).n (fs i).c) (.int .i64 1) (.slice (fs i).b (fs i).m (fs i).d) rfl rfl (R2.out.box _ mq0) (Nat.le_of_ble_eq_true rfl) infoFrac (by simp [Value.oneCell']) ?_; rw [HV1.out]))
     have HLL := Lib.hid (cmp_lt0 HK1.out)
     have HRR := Lib.hid (cmp_lt0 HK2.out)
     go_roundw
     case rel => exact ⟨i + 1, p, i, hlt, by go_num, HP.out, hlt, fun j hj => step_nh HLU.out (fun e => HC1.out (HLL.out.1.2 e)) (HRR.out.2.1 HC2.out) j hj, Q1.out⟩
     case measure => simp [RowKit.intOf]; omega
    case false =>
     have HC2 : Hid (¬ 0 < k2) := Lib.hid (of_decide_eq_false gd2)
     go_wp2_with fail
     have HLL := Lib.hid (cmp_lt0 HK1.out)
     have HRR := Lib.hid (cmp_lt0 HK2.out)
     go_roundw
     case rel => exact ⟨i + 1, p, q, hlt, by go_num, HP.out, HQ.out, fun j hj => step_nn HLU.out (fun e => HC1.out (HLL.out.1.2 e)) (fun e => HC2.out (HRR.out.2.2 e)) j hj, R2.out⟩
     case measure => simp [RowKit.intOf]; omega
  ·obtain rfl : i = n := by omega
   have hlt2 : decide ((i : Int) < (i : Int)) = false := by simp
   have hlt3 : decide (i < i) = false := by simp
   obtain ⟨q1, q2, q3, q4, q5, q6, q7, q8⟩ := Fb.cells8 (HS.out.box _ mq0)
   have Q9 := Lib.hid (Sf.row (pre := [(w.heap.size + 1, 28, [.int .i64 (fs p).s, .slice (fs p).a (fs p).n (fs p).c, .int .i64 1, .slice (fs p).b (fs p).m (fs p).d, .int .i64 (fs q).s, .slice (fs q).a (fs q).n (fs q).c, .int .i64 1, .slice (fs q).b (fs q).m (fs q).d])]) HS.out [.int .i64 (fs p).s, .slice (fs p).a (fs p).n (fs p).c, .int .i64 1, .slice (fs p).b (fs p).m (fs p).d, .int .i64 (fs q).s, .slice (fs q).a (fs q).n (fs q).c, .int .i64 1, .slice (fs q).b (fs q).m (fs q).d])
   go_wp2_with (first | refine wpList_store_row rfl _ _ _ rfl _ #[.int .i64 (fs p).s, .slice (fs p).a (fs p).n (fs p).c, .int .i64 1, .slice (fs p).b (fs p).m (fs p).d, .int .i64 (fs q).s, .slice (fs q).a (fs q).n (fs q).c, .int .i64 1, .slice (fs q).b (fs q).m (fs q).d] rfl rfl _ _ (HS.out.box _ mq1) (by kernel_rfl) rfl (by simp [Value.oneCell']) ?_)
   clear q1 q2 q3 q4 q5 q6 q7 q8
   refine bodyPost_ret (results_cell_row rfl _ _ _ _ _ (0, 0) _ rfl (Q9.out.box _ mq1) Tryz.underlying28 rfl (by kernel_rfl)) rfl ⟨p, q, HP.out, HQ.out, HLU.out, rfl, Q9.out.below⟩
end Go.Proofs.YtgncnkojpedmdaaGreat.Sp

namespace Go.Proofs.YtgncnkojpedmdaaGreat.Sp
open Go.RowKit Bi
theorem lt4 {i : Nat} (h : i < 4) : i = 0 ∨ i = 1 ∨ i = 2 ∨ i = 3 := by omega
theorem fls4 {W : World} {G : Nat} {ty : TypeId} {fs : Nat → FCell} {l : Nat → Rat} (hb : Fb (G, ty, [.int .i64 (fs 0).s, .slice (fs 0).a (fs 0).n (fs 0).c, .int .i64 1, .slice (fs 0).b (fs 0).m (fs 0).d, .int .i64 (fs 1).s, .slice (fs 1).a (fs 1).n (fs 1).c, .int .i64 1, .slice (fs 1).b (fs 1).m (fs 1).d, .int .i64 (fs 2).s, .slice (fs 2).a (fs 2).n (fs 2).c, .int .i64 1, .slice (fs 2).b (fs 2).m (fs 2).d, .int .i64 (fs 3).s, .slice (fs 3).a (fs 3).n (fs 3).c, .int .i64 1, .slice (fs 3).b (fs 3).m (fs 3).d]) W) (h : ∀ i, i < 4 → Fr W (fs i).s (fs i).v (fs i).u (l i)) (z : ∀ i, i < 4 → FSz 1000 (l i)) : FLs W G 4 fs l := by
 refine ⟨?_, ?_, h, z⟩
 ·rcases Nat.lt_or_ge G W.heap.size with e | e
  ·exact e
  ·exact absurd (hb.symm.trans (Array.getElem?_eq_none e)) (by simp)
 ·intro i hi
  rcases lt4 hi with e | e | e | e
  ·subst e; exact ⟨hb.cell 0, hb.cell 1, hb.cell 2, hb.cell 3⟩
  ·subst e; exact ⟨hb.cell 4, hb.cell 5, hb.cell 6, hb.cell 7⟩
  ·subst e; exact ⟨hb.cell 8, hb.cell 9, hb.cell 10, hb.cell 11⟩
  ·subst e; exact ⟨hb.cell 12, hb.cell 13, hb.cell 14, hb.cell 15⟩

set_option maxHeartbeats 8000000 in
theorem r10hull_k {w : World} {fs : Nat → FCell} {l : Nat → Rat} (h : ∀ i, i < 4 → Fr w (fs i).s (fs i).v (fs i).u (l i)) (hz : ∀ i, i < 4 → FSz 1000 (l i)) (hxy : l 0 ≤ l 1) (hpq : l 2 ≤ l 3) :
  Calls Tryz.prog 11 #[.agg #[.int .i64 (fs 0).s, .slice (fs 0).a (fs 0).n (fs 0).c, .int .i64 1, .slice (fs 0).b (fs 0).m (fs 0).d, .int .i64 (fs 1).s, .slice (fs 1).a (fs 1).n (fs 1).c, .int .i64 1, .slice (fs 1).b (fs 1).m (fs 1).d], .agg #[.int .i64 (fs 2).s, .slice (fs 2).a (fs 2).n (fs 2).c, .int .i64 1, .slice (fs 2).b (fs 2).m (fs 2).d, .int .i64 (fs 3).s, .slice (fs 3).a (fs 3).n (fs 3).c, .int .i64 1, .slice (fs 3).b (fs 3).m (fs 3).d]] w fun e w' => ∃ p q, p < 4 ∧ q < 4 ∧ (∀ i, i < 4 → l p ≤ l i ∧ l i ≤ l q) ∧ e = .returned (.tuple #[.agg #[.int .i64 (fs p).s, .slice (fs p).a (fs p).n (fs p).c, .int .i64 1, .slice (fs p).b (fs p).m (fs p).d, .int .i64 (fs q).s, .slice (fs q).a (fs q).n (fs q).c, .int .i64 1, .slice (fs q).b (fs q).m (fs q).d], .int .i64 0]) ∧ RowKit.Below w.heap.size w w' := by
 have HXY := Lib.hid (decide_eq_true hxy)
 have HPQ := Lib.hid (decide_eq_true hpq)
 have HZ := Lib.hid hz
 have h0 := h 0 (by decide)
 have Z0 := Lib.hid (hz 0 (by decide))
 have E0 := Lib.hid h0.1.1
 unfold FCell.v FCell.u at h0
 have h1 := h 1 (by decide)
 have Z1 := Lib.hid (hz 1 (by decide))
 have E1 := Lib.hid h1.1.1
 unfold FCell.v FCell.u at h1
 have h2 := h 2 (by decide)
 have Z2 := Lib.hid (hz 2 (by decide))
 have E2 := Lib.hid h2.1.1
 unfold FCell.v FCell.u at h2
 have h3 := h 3 (by decide)
 have Z3 := Lib.hid (hz 3 (by decide))
 have E3 := Lib.hid h3.1.1
 unfold FCell.v FCell.u at h3
 have s0 := ((((((((((((Sf.start w).arg h0.2.2).arg h0.1.2).arg h1.2.2).arg h1.1.2).arg h2.2.2).arg h2.1.2).arg h3.2.2).arg h3.1.2).put [.int .i64 (fs 0).s, .slice (fs 0).a (fs 0).n (fs 0).c, .int .i64 1, .slice (fs 0).b (fs 0).m (fs 0).d, .int .i64 (fs 1).s, .slice (fs 1).a (fs 1).n (fs 1).c, .int .i64 1, .slice (fs 1).b (fs 1).m (fs 1).d] 28).put [.int .i64 (fs 2).s, .slice (fs 2).a (fs 2).n (fs 2).c, .int .i64 1, .slice (fs 2).b (fs 2).m (fs 2).d, .int .i64 (fs 3).s, .slice (fs 3).a (fs 3).n (fs 3).c, .int .i64 1, .slice (fs 3).b (fs 3).m (fs 3).d] 28).put [.int .i64 0, .slice none 0 0, .int .i64 0, .slice none 0 0, .int .i64 0, .slice none 0 0, .int .i64 0, .slice none 0 0] 28)
 try simp only [World.size_alloc] at s0
 have S0 := Lib.hid s0
 clear s0
 clear hxy hpq hz h h0 h1 h2 h3
 go_enter Tryz.func11, Tryz.ntmps11
 obtain ⟨q1, q2, q3, q4, q5, q6, q7, q8⟩ := Fb.cells8 (S0.out.box _ mq2)
 go_wp2_with fail
 clear q1 q2 q3 q4 q5 q6 q7 q8
 refine (r10right_v (S0.out.fr mq6 mq7 E0.out) Z0.out (S0.out.fr mq4 mq5 E1.out) Z1.out HXY.out).mono ?_
 rintro e w1 ⟨rfl, hb⟩
 have R1 := Lib.hid (S0.out.later hb)
 clear hb
 obtain ⟨q9, q10, q11, q12, q13, q14, q15, q16⟩ := Fb.cells8 (R1.out.box _ mq1)
 go_wp2_with fail
 clear q9 q10 q11 q12 q13 q14 q15 q16
 refine (r10right_v (R1.out.fr mq2 mq3 E2.out) Z2.out (R1.out.fr mq0 mq1 E3.out) Z3.out HPQ.out).mono ?_
 rintro e w2 ⟨rfl, hb⟩
 have R2 := Lib.hid (R1.out.later hb)
 clear hb
 obtain ⟨q17, q18, q19, q20, q21, q22, q23, q24⟩ := Fb.cells8 (R2.out.box _ mq2)
 obtain ⟨q25, q26, q27, q28, q29, q30, q31, q32⟩ := Fb.cells8 (R2.out.box _ mq1)
 go_wp2_with fail
 clear q17 q18 q19 q20 q21 q22 q23 q24 q25 q26 q27 q28 q29 q30 q31 q32
 have P9 := Lib.hid (R2.out.put [.int .i64 (fs 0).s, .slice (fs 0).a (fs 0).n (fs 0).c, .int .i64 1, .slice (fs 0).b (fs 0).m (fs 0).d, .int .i64 (fs 1).s, .slice (fs 1).a (fs 1).n (fs 1).c, .int .i64 1, .slice (fs 1).b (fs 1).m (fs 1).d, .int .i64 (fs 2).s, .slice (fs 2).a (fs 2).n (fs 2).c, .int .i64 1, .slice (fs 2).b (fs 2).m (fs 2).d, .int .i64 (fs 3).s, .slice (fs 3).a (fs 3).n (fs 3).c, .int .i64 1, .slice (fs 3).b (fs 3).m (fs 3).d] 26)
 have FF : FLs _ _ 4 fs l := fls4 (P9.out.box _ mq0) (fun i hi => by
  rcases lt4 hi with e | e | e | e
  ·subst e; exact (P9.out.fr mq6 mq7 E0.out)
  ·subst e; exact (P9.out.fr mq4 mq5 E1.out)
  ·subst e; exact (P9.out.fr mq2 mq3 E2.out)
  ·subst e; exact (P9.out.fr mq0 mq1 E3.out)) HZ.out
 refine (r10around FF (by decide) (by decide)).mono ?_
 rintro e w3 ⟨p, q, hp, hq, hl, rfl, hb⟩
 have HP := Lib.hid hp
 have HQ := Lib.hid hq
 have HL := Lib.hid hl
 have R3 := Lib.hid (P9.out.later hb)
 clear hb hl hp hq FF
 have Q33 := Lib.hid (Sf.row (pre := [(w2.heap.size, 26, [.int .i64 (fs 0).s, .slice (fs 0).a (fs 0).n (fs 0).c, .int .i64 1, .slice (fs 0).b (fs 0).m (fs 0).d, .int .i64 (fs 1).s, .slice (fs 1).a (fs 1).n (fs 1).c, .int .i64 1, .slice (fs 1).b (fs 1).m (fs 1).d, .int .i64 (fs 2).s, .slice (fs 2).a (fs 2).n (fs 2).c, .int .i64 1, .slice (fs 2).b (fs 2).m (fs 2).d, .int .i64 (fs 3).s, .slice (fs 3).a (fs 3).n (fs 3).c, .int .i64 1, .slice (fs 3).b (fs 3).m (fs 3).d])]) R3.out [.int .i64 (fs p).s, .slice (fs p).a (fs p).n (fs p).c, .int .i64 1, .slice (fs p).b (fs p).m (fs p).d, .int .i64 (fs q).s, .slice (fs q).a (fs q).n (fs q).c, .int .i64 1, .slice (fs q).b (fs q).m (fs q).d])
 go_wp2_with (first | refine wpList_store_row rfl _ _ _ rfl _ #[.int .i64 (fs p).s, .slice (fs p).a (fs p).n (fs p).c, .int .i64 1, .slice (fs p).b (fs p).m (fs p).d, .int .i64 (fs q).s, .slice (fs q).a (fs q).n (fs q).c, .int .i64 1, .slice (fs q).b (fs q).m (fs q).d] rfl rfl _ _ (R3.out.box _ mq1) (by kernel_rfl) rfl (by simp [Value.oneCell']) ?_)
 refine bodyPost_ret (ret_row rfl _ _ _ _ rfl (run_loadVar_row _ _ _ _ _ (0, 0) _ (Q33.out.box _ mq1) Tryz.underlying28 rfl (by kernel_rfl))) rfl ⟨p, q, HP.out, HQ.out, HL.out, rfl, Q33.out.below⟩

set_option maxHeartbeats 8000000 in
theorem r10hull_bad {w : World} {s1 t1 : Int} {a1 b1 : Option Addr} {n1 c1 m1 d1 : Nat} {l1 k1 : List Int} {s2 t2 : Int} {a2 b2 : Option Addr} {n2 c2 m2 d2 : Nat} {l2 k2 : List Int} {s3 t3 : Int} {a3 b3 : Option Addr} {n3 c3 m3 d3 : Nat} {l3 k3 : List Int} {s4 t4 : Int} {a4 b4 : Option Addr} {n4 c4 m4 d4 : Nat} {l4 k4 : List Int} (hl1 : Ints w (.slice a1 n1 c1) l1) (hk1 : Ints w (.slice b1 m1 d1) k1) (ll1 : l1.length ≤ 1000) (lk1 : k1.length ≤ 1000) (hl2 : Ints w (.slice a2 n2 c2) l2) (hk2 : Ints w (.slice b2 m2 d2) k2) (ll2 : l2.length ≤ 1000) (lk2 : k2.length ≤ 1000) (hl3 : Ints w (.slice a3 n3 c3) l3) (hk3 : Ints w (.slice b3 m3 d3) k3) (ll3 : l3.length ≤ 1000) (lk3 : k3.length ≤ 1000) (hl4 : Ints w (.slice a4 n4 c4) l4) (hk4 : Ints w (.slice b4 m4 d4) k4) (ll4 : l4.length ≤ 1000) (lk4 : k4.length ≤ 1000) (hr : (sR s1 l1 t1 k1 s2 l2 t2 k2 && sR s3 l3 t3 k3 s4 l4 t4 k4) = false) :
  Calls Tryz.prog 11 #[.agg #[.int .i64 s1, .slice a1 n1 c1, .int .i64 t1, .slice b1 m1 d1, .int .i64 s2, .slice a2 n2 c2, .int .i64 t2, .slice b2 m2 d2], .agg #[.int .i64 s3, .slice a3 n3 c3, .int .i64 t3, .slice b3 m3 d3, .int .i64 s4, .slice a4 n4 c4, .int .i64 t4, .slice b4 m4 d4]] w fun e w' => e = .returned (.tuple #[.agg #[.int .i64 0, .slice none 0 0, .int .i64 0, .slice none 0 0, .int .i64 0, .slice none 0 0, .int .i64 0, .slice none 0 0], .int .i64 1]) ∧ RowKit.Below w.heap.size w w' := by
 rcases ea : sR s1 l1 t1 k1 s2 l2 t2 k2 with _ | _
 ·skip
  have LL1 := Lib.hid ll1
  have LK1 := Lib.hid lk1
  have LL2 := Lib.hid ll2
  have LK2 := Lib.hid lk2
  have LL3 := Lib.hid ll3
  have LK3 := Lib.hid lk3
  have LL4 := Lib.hid ll4
  have LK4 := Lib.hid lk4
  have EA := Lib.hid ea
  have s0 := ((((((((((((Sf.start w).arg hk1).arg hl1).arg hk2).arg hl2).arg hk3).arg hl3).arg hk4).arg hl4).put [.int .i64 s1, .slice a1 n1 c1, .int .i64 t1, .slice b1 m1 d1, .int .i64 s2, .slice a2 n2 c2, .int .i64 t2, .slice b2 m2 d2] 28).put [.int .i64 s3, .slice a3 n3 c3, .int .i64 t3, .slice b3 m3 d3, .int .i64 s4, .slice a4 n4 c4, .int .i64 t4, .slice b4 m4 d4] 28).put [.int .i64 0, .slice none 0 0, .int .i64 0, .slice none 0 0, .int .i64 0, .slice none 0 0, .int .i64 0, .slice none 0 0] 28)
  try simp only [World.size_alloc] at s0
  have S0 := Lib.hid s0
  clear s0
  clear hr ea hl1 hk1 ll1 lk1 hl2 hk2 ll2 lk2 hl3 hk3 ll3 lk3 hl4 hk4 ll4 lk4
  go_enter Tryz.func11, Tryz.ntmps11
  obtain ⟨q1, q2, q3, q4, q5, q6, q7, q8⟩ := Fb.cells8 (S0.out.box _ mq2)
  go_wp2_with fail
  clear q1 q2 q3 q4 q5 q6 q7 q8
  refine (r10right_raw (S0.out.ints (.slice a1 n1 c1, l1) mq6) (S0.out.ints (.slice b1 m1 d1, k1) mq7) LL1.out LK1.out (S0.out.ints (.slice a2 n2 c2, l2) mq4) (S0.out.ints (.slice b2 m2 d2, k2) mq5) LL2.out LK2.out EA.out).mono ?_
  rintro e w1 ⟨rfl, hb⟩
  have R1 := Lib.hid (S0.out.later hb)
  clear hb
  have Q9 := Lib.hid (Sf.row (pre := []) R1.out [.int .i64 0, .slice none 0 0, .int .i64 0, .slice none 0 0, .int .i64 0, .slice none 0 0, .int .i64 0, .slice none 0 0])
  go_wp2_with (first | refine wpList_store_row rfl _ _ _ rfl _ #[.int .i64 0, .slice none 0 0, .int .i64 0, .slice none 0 0, .int .i64 0, .slice none 0 0, .int .i64 0, .slice none 0 0] rfl rfl _ _ (R1.out.box _ mq0) (by kernel_rfl) rfl (by simp [Value.oneCell']) ?_)
  refine bodyPost_ret (ret_row rfl _ _ _ _ rfl (run_loadVar_row _ _ _ _ _ (0, 0) _ (Q9.out.box _ mq0) Tryz.underlying28 rfl (by kernel_rfl))) rfl ⟨rfl, Q9.out.below⟩
 ·have eb : sR s3 l3 t3 k3 s4 l4 t4 k4 = false := by rw [ea] at hr; simpa using hr
  have LL1 := Lib.hid ll1
  have LK1 := Lib.hid lk1
  have LL2 := Lib.hid ll2
  have LK2 := Lib.hid lk2
  have LL3 := Lib.hid ll3
  have LK3 := Lib.hid lk3
  have LL4 := Lib.hid ll4
  have LK4 := Lib.hid lk4
  have EA := Lib.hid ea
  have EB := Lib.hid eb
  have s0 := ((((((((((((Sf.start w).arg hk1).arg hl1).arg hk2).arg hl2).arg hk3).arg hl3).arg hk4).arg hl4).put [.int .i64 s1, .slice a1 n1 c1, .int .i64 t1, .slice b1 m1 d1, .int .i64 s2, .slice a2 n2 c2, .int .i64 t2, .slice b2 m2 d2] 28).put [.int .i64 s3, .slice a3 n3 c3, .int .i64 t3, .slice b3 m3 d3, .int .i64 s4, .slice a4 n4 c4, .int .i64 t4, .slice b4 m4 d4] 28).put [.int .i64 0, .slice none 0 0, .int .i64 0, .slice none 0 0, .int .i64 0, .slice none 0 0, .int .i64 0, .slice none 0 0] 28)
  try simp only [World.size_alloc] at s0
  have S0 := Lib.hid s0
  clear s0
  clear hr ea hl1 hk1 ll1 lk1 hl2 hk2 ll2 lk2 hl3 hk3 ll3 lk3 hl4 hk4 ll4 lk4 eb
  go_enter Tryz.func11, Tryz.ntmps11
  obtain ⟨q1, q2, q3, q4, q5, q6, q7, q8⟩ := Fb.cells8 (S0.out.box _ mq2)
  go_wp2_with fail
  clear q1 q2 q3 q4 q5 q6 q7 q8
  refine (r10right_raw (S0.out.ints (.slice a1 n1 c1, l1) mq6) (S0.out.ints (.slice b1 m1 d1, k1) mq7) LL1.out LK1.out (S0.out.ints (.slice a2 n2 c2, l2) mq4) (S0.out.ints (.slice b2 m2 d2, k2) mq5) LL2.out LK2.out EA.out).mono ?_
  rintro e w1 ⟨rfl, hb⟩
  have R1 := Lib.hid (S0.out.later hb)
  clear hb
  obtain ⟨q9, q10, q11, q12, q13, q14, q15, q16⟩ := Fb.cells8 (R1.out.box _ mq1)
  go_wp2_with fail
  clear q9 q10 q11 q12 q13 q14 q15 q16
  refine (r10right_raw (R1.out.ints (.slice a3 n3 c3, l3) mq2) (R1.out.ints (.slice b3 m3 d3, k3) mq3) LL3.out LK3.out (R1.out.ints (.slice a4 n4 c4, l4) mq0) (R1.out.ints (.slice b4 m4 d4, k4) mq1) LL4.out LK4.out EB.out).mono ?_
  rintro e w2 ⟨rfl, hb⟩
  have R2 := Lib.hid (R1.out.later hb)
  clear hb
  have Q17 := Lib.hid (Sf.row (pre := []) R2.out [.int .i64 0, .slice none 0 0, .int .i64 0, .slice none 0 0, .int .i64 0, .slice none 0 0, .int .i64 0, .slice none 0 0])
  go_wp2_with (first | refine wpList_store_row rfl _ _ _ rfl _ #[.int .i64 0, .slice none 0 0, .int .i64 0, .slice none 0 0, .int .i64 0, .slice none 0 0, .int .i64 0, .slice none 0 0] rfl rfl _ _ (R2.out.box _ mq0) (by kernel_rfl) rfl (by simp [Value.oneCell']) ?_)
  refine bodyPost_ret (ret_row rfl _ _ _ _ rfl (run_loadVar_row _ _ _ _ _ (0, 0) _ (Q17.out.box _ mq0) Tryz.underlying28 rfl (by kernel_rfl))) rfl ⟨rfl, Q17.out.below⟩
end Go.Proofs.YtgncnkojpedmdaaGreat.Sp
