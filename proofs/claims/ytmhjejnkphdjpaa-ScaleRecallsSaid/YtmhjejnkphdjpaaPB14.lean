/- The contracts of Text and Read of frac. The contracts of small and least of kitbaglaw05: the examples. What the laws of frac want besides: limits, facts dropped. kitbagref04, the reference's digits: the contracts of digit, less, trim, made, and the mathematics of plus and minus. kitbagref04: the contracts of made, plus, minus. kitbagref04: the contracts of plus and minus. kitbagref04: the contract of times. kitbagref04: the contract of Right. kitbagref04: the contract of over. kitbagref04: the contracts on natural numbers; Mul. -/
import Derived.Test.YtmhjejnkphdjpaaPB12
import Derived.Test.YtmhjejnkphdjpaaPB13
import Derived.Test.YtmhjejnkphdjpaaShelf2
import Derived.Test.YtmhjejnkphdjpaaPB7
import Derived.Test.YtmhjejnkphdjpaaPB10
import Derived.Test.YtmhjejnkphdjpaaPB5
set_option maxRecDepth 100000
namespace Go.Proofs.Ytmhjejnkphdjpaa.Bi
open Go.RowKit

theorem FSz.text {k : Nat} {r : Rat} (h : FSz k r) (hk : 1 ≤ k) : (fTextL r).length ≤ 14 * k + 3 := by
  have h1 := itoa_len h.1 hk
  have h2 := itoa_len h.2 hk
  unfold fTextL
  rw [List.length_append, List.length_cons]; omega
end Go.Proofs.Ytmhjejnkphdjpaa.Bi

namespace Go.Proofs.Ytmhjejnkphdjpaa.Bi
open Go.RowKit

theorem Sf.fr {w W : World} {L : List FBox} {F : List (Value × List Int)} (h : Sf w L F W) {v u : Value} {r : Rat} {s : Int} (h1 : (v, digs r.num.natAbs) ∈ F) (h2 : (u, digs (r.den : Int).natAbs) ∈ F) (e : s = r.num.sign) : Fr W s v u r := ⟨h.num h1 e, h.num h2 (den_sign r).symm⟩
section
variable {w : World} {sa sb : Int} {aa ba ab bb : Option Addr} {na ca ma da nb cb mb db : Nat} {a b r : Rat}
theorem fadd_r (ha : Fr w sa (.slice aa na ca) (.slice ba ma da) a) (hb : Fr w sb (.slice ab nb cb) (.slice bb mb db) b) (La : FSz 1000 a) (Lb : FSz 1000 b) (h : a + b = r) : Calls Try.prog 35 #[.agg #[.int .i64 sa, .slice aa na ca, .int .i64 1, .slice ba ma da], .agg #[.int .i64 sb, .slice ab nb cb, .int .i64 1, .slice bb mb db]] w (FVE r 0 w) := by subst h; exact fadd_k ha hb La Lb
theorem fsub_r (ha : Fr w sa (.slice aa na ca) (.slice ba ma da) a) (hb : Fr w sb (.slice ab nb cb) (.slice bb mb db) b) (La : FSz 1000 a) (Lb : FSz 1000 b) (h : a - b = r) : Calls Try.prog 22 #[.agg #[.int .i64 sa, .slice aa na ca, .int .i64 1, .slice ba ma da], .agg #[.int .i64 sb, .slice ab nb cb, .int .i64 1, .slice bb mb db]] w (FVE r 0 w) := by subst h; exact fsub_k ha hb La Lb
theorem fmax_r (ha : Fr w sa (.slice aa na ca) (.slice ba ma da) a) (hb : Fr w sb (.slice ab nb cb) (.slice bb mb db) b) (La : FSz 1000 a) (Lb : FSz 1000 b) (h : rmax a b = r) : Calls Try.prog 34 #[.agg #[.int .i64 sa, .slice aa na ca, .int .i64 1, .slice ba ma da], .agg #[.int .i64 sb, .slice ab nb cb, .int .i64 1, .slice bb mb db]] w (FVE r 0 w) := by subst h; exact fmax_k ha hb La Lb
theorem fint_r {z : Int} (hz : -9223372036854775808 ≤ z ∧ z ≤ 9223372036854775807) (h : (z : Rat) = r) (w : World) : Calls Try.prog 33 #[.int .i64 z] w (FV r w) := by subst h; exact fint_k z hz w
end
theorem FSz.one {r : Rat} (h1 : r.num.natAbs < 1048576) (h2 : r.den < 1048576) : FSz 1 r := ⟨by unfold Sz; simp [P]; omega, by unfold Sz; simp [P]; omega⟩

end Go.Proofs.Ytmhjejnkphdjpaa.Bi

namespace Go.Proofs.Ytmhjejnkphdjpaa.Bi
open Go.RowKit

theorem Sf.cut {w W : World} {L : List FBox} {pre mid F : List (Value × List Int)} (h : Sf w L (pre ++ (mid ++ F)) W) : Sf w L (pre ++ F) W := by
  have hm : ∀ f ∈ pre ++ F, f ∈ pre ++ (mid ++ F) := by
    intro f hf
    rcases List.mem_append.1 hf with hf | hf
    · exact List.mem_append_left _ hf
    · exact List.mem_append_right _ (List.mem_append_right _ hf)
  exact ⟨h.below, h.le, h.box, fun f hf => h.ints f (hm f hf), fun f hf => h.off f (hm f hf), h.pw⟩
end Go.Proofs.Ytmhjejnkphdjpaa.Bi

namespace Go.Proofs.Ytmhjejnkphdjpaa.Bi
open Go.RowKit

theorem val_cut (l : List Int) (k : Nat) : val l = val (l.take k) + P k * val (l.drop k) := by
  by_cases h : k ≤ l.length
  · exact val_split' l k h
  · rw [List.drop_eq_nil_of_le (by omega), List.take_of_length_le (by omega), val_nil]; omega
theorem val_take_bd {l : List Int} (h : Dig l) (k : Nat) : 0 ≤ val (l.take k) ∧ val (l.take k) < P k := by
  have h1 := val_bd (h.take k)
  have h2 := P_le (i := (l.take k).length) (j := k) (by rw [List.length_take]; omega)
  omega
theorem less_at {x y : List Int} {k : Nat} (hx : Dig x) (hy : Dig y) (hd : val (x.drop (k + 1)) = val (y.drop (k + 1))) (h : x.getD k 0 < y.getD k 0) : val x < val y := by
  have e1 := val_cut x (k + 1)
  have e2 := val_cut y (k + 1)
  have t1 := val_take x k
  have t2 := val_take y k
  have b1 := val_take_bd hx k
  have b2 := val_take_bd hy k
  rw [hd] at e1
  have hm : P k * (x.getD k 0 + 1) ≤ P k * y.getD k 0 := Int.mul_le_mul_of_nonneg_left (by omega) (by have := P_pos k; omega)
  rw [Int.mul_add] at hm
  omega

theorem rdigit_any (v : Value) (l : List Int) (n : Nat) (w : World) (h : Ints w v l) :
    Calls Try.prog 84 #[v, .int .i64 n] w fun e w' => e = .returned (.int .i64 (l.getD n 0)) ∧ w = w' := by
  obtain ⟨a, cap, rfl, h1, h2, h3⟩ := h
  by_cases hn : n < l.length
  · obtain ⟨b, o, rfl, hlt, hr⟩ := h3.resolve_left (fun e => by subst e; simp at hn)
    have hc := hr n hn
    clear hr
    obtain ⟨d, hd⟩ : ∃ d, l.getD n 0 = d := ⟨_, rfl⟩
    rw [hd] at hc ⊢
    clear hd
    obtain ⟨m, hm⟩ : ∃ m, l.length = m := ⟨_, rfl⟩
    rw [hm] at hn h1 h2 ⊢
    clear hm
    go_enter Try.func84, Try.ntmps84
    go_wp2
    go_ret
    exact ⟨rfl, rfl⟩
  · have hz : l.getD n 0 = 0 := by rw [List.getD_eq_getElem?_getD, List.getElem?_eq_none (by omega)]; rfl
    rw [hz]
    clear hz h3
    obtain ⟨m, hm⟩ : ∃ m, l.length = m := ⟨_, rfl⟩
    rw [hm] at hn h1 h2 ⊢
    clear hm
    go_enter Try.func84, Try.ntmps84
    go_wp2
    go_ret
    exact ⟨rfl, rfl⟩

theorem ret_b {a b : Bool} (h : a = b) : Ending.returned (.bool a) = .returned (.bool b) := by rw [h]
set_option maxHeartbeats 1000000 in
theorem rless_any (vx vy : Value) (x y : List Int) (hdx : Dig x) (hdy : Dig y) (w : World) (hx : Ints w vx x) (hy : Ints w vy y) :
    Calls Try.prog 63 #[vx, vy] w fun e w' => e = .returned (.bool (decide (val x < val y))) ∧ w = w' := by
  obtain ⟨ax, capx, rfl, hx1, hx2, _⟩ := id hx
  obtain ⟨ay, capy, rfl, hy1, hy2, _⟩ := id hy
  obtain ⟨lx, ex⟩ : ∃ l, x.length = l := ⟨_, rfl⟩
  obtain ⟨ly, ey⟩ : ∃ l, y.length = l := ⟨_, rfl⟩
  have bx : lx ≤ 1000000000 := ex ▸ hx.shape.2.2.1
  have bz : ly ≤ 1000000000 := ey ▸ hy.shape.2.2.1
  obtain ⟨N, hN, hNx, hNy, hN1⟩ : ∃ N : Nat, max (lx : Int) (ly : Int) = N ∧ lx ≤ N ∧ ly ≤ N ∧ N ≤ 1000000000 := by
    by_cases h : lx ≤ ly
    · exact ⟨ly, by rw [Int.max_def, if_pos (by omega)], h, Nat.le_refl _, bz⟩
    · exact ⟨lx, by rw [Int.max_def, if_neg (by omega)], Nat.le_refl _, by omega, bx⟩
  have HX := Lib.hid hx
  have HY := Lib.hid hy
  have HDX := Lib.hid hdx
  have HDY := Lib.hid hdy
  have HEX := Lib.hid ex
  have HEY := Lib.hid ey
  rw [ex] at HX hx2 ⊢
  rw [ey] at HY hy2 ⊢
  clear hx hy hdx hdy ex ey hx1 hy1
  go_enter Try.func63, Try.ntmps63
  go_wp2_with fail
  go_loop [5] (fun t => ∃ k : Nat, k ≤ N ∧ t = .int .i64 ((k : Int) - 1) ∧ val (x.drop k) = val (y.drop k)) (fun t => (intOf t + 1).toNat)
  case atStart => exact ⟨N, Nat.le_refl _, by rw [← hN], by rw [List.drop_eq_nil_of_le (by have := HEX.out; omega), List.drop_eq_nil_of_le (by have := HEY.out; omega)]⟩
  case round =>
    obtain ⟨k, hk, rfl, hd⟩ := hrel
    have HD := Lib.hid hd
    clear hd
    cases k with
    | zero =>
      have hq : decide (val x < val y) = false := decide_eq_false (by have := HD.out; rw [List.drop_zero, List.drop_zero] at this; omega)
      rw [show ((0 : Nat) : Int) - 1 = -1 from rfl]
      go_wp2_with fail
      go_ret
      exact ⟨rfl, rfl⟩
    | succ j =>
      rw [show ((j + 1 : Nat) : Int) - 1 = (j : Int) by omega]
      obtain ⟨dx, edx⟩ : ∃ d, x.getD j 0 = d := ⟨_, rfl⟩
      obtain ⟨dy, edy⟩ : ∃ d, y.getD j 0 = d := ⟨_, rfl⟩
      have HJX := Lib.hid edx
      have HJY := Lib.hid edy
      clear edx edy
      by_cases he : dx = dy
      · subst he
        have hq : (dx != dx) = false := by simp
        go_wp2_with fail
        refine (rdigit_any _ _ j _ HX.out).mono ?_
        rintro e w' ⟨rfl, rfl⟩
        rw [HJX.out]
        go_wp2_with fail
        refine (rdigit_any _ _ j _ HY.out).mono ?_
        rintro e w' ⟨rfl, rfl⟩
        rw [HJY.out]
        go_wp2_with fail
        go_round
        case rel => exact ⟨j, by omega, rfl, by rw [val_drop x j, val_drop y j, HJX.out, HJY.out, HD.out]⟩
        case measure => simp [intOf]
      · have hq : (dx != dy) = true := by simpa using he
        have hlt : decide (val x < val y) = decide (dx < dy) := by
          rcases Int.lt_or_gt_of_ne he with h | h
          · rw [decide_eq_true (less_at HDX.out HDY.out HD.out (by rw [HJX.out, HJY.out]; exact h)), decide_eq_true h]
          · have := less_at HDY.out HDX.out HD.out.symm (by rw [HJX.out, HJY.out]; exact h)
            rw [decide_eq_false (by omega), decide_eq_false (by omega)]
        have HLT := Lib.hid hlt
        clear he hlt
        go_wp2_with fail
        refine (rdigit_any _ _ j _ HX.out).mono ?_
        rintro e w' ⟨rfl, rfl⟩
        rw [HJX.out]
        go_wp2_with fail
        refine (rdigit_any _ _ j _ HY.out).mono ?_
        rintro e w' ⟨rfl, rfl⟩
        rw [HJY.out]
        go_wp2_with fail
        refine (rdigit_any _ _ j _ HX.out).mono ?_
        rintro e w' ⟨rfl, rfl⟩
        rw [HJX.out]
        go_wp2_with fail
        refine (rdigit_any _ _ j _ HY.out).mono ?_
        rintro e w' ⟨rfl, rfl⟩
        rw [HJY.out]
        go_wp2_with fail
        go_ret
        exact ⟨ret_b HLT.out.symm, rfl⟩

set_option maxHeartbeats 1000000 in
theorem rtrim_any (a : Option Addr) (cap : Nat) (l : List Int) (hd : Dig l) (w : World) (h : Ints w (.slice a l.length cap) l) (hl : l.length ≤ 100000000) :
    Calls Try.prog 83 #[.slice a l.length cap] w (Copy (digs (val l).toNat) w) := by
  have hm := dig_len hd
  have HZ : Hid (∀ i, (digs (val l).toNat).length ≤ i → l.getD i 0 = 0) := fun i hi => dig_zero hd hi
  have HT : Hid (0 < (digs (val l).toNat).length → l.getD ((digs (val l).toNat).length - 1) 0 ≠ 0) := by
    intro h0
    have h1 : 0 < (val l).toNat := by
      rcases Nat.eq_zero_or_pos (val l).toNat with e | e
      · rw [e, digs_zero] at h0; simp at h0
      · exact e
    have h2 := digs_top h1
    have h3 := dig_take hd
    rw [← h3] at h2
    rw [List.getD_eq_getElem?_getD, List.getElem?_take] at h2
    rw [List.length_take] at h2
    rw [if_pos (by omega), show min (digs (val l).toNat).length l.length = (digs (val l).toNat).length by omega] at h2
    rwa [List.getD_eq_getElem?_getD]
  obtain ⟨_, h1, h2, h3⟩ := h.shape
  have htk := dig_take hd
  obtain ⟨x, ex⟩ : ∃ x, digs (val l).toNat = x := ⟨_, rfl⟩
  rw [ex] at hm HZ HT htk ⊢
  have hi : Ints w (.slice a x.length cap) x := h.take htk rfl
  have ha : a = none → x.length = 0 := by
    intro e
    rcases Nat.eq_zero_or_pos x.length with e0 | e0
    · exact e0
    · obtain ⟨b, o, e', _⟩ := h3 (by omega)
      rw [e] at e'; cases e'
  have hs := src_of (hi.later (below_alloc w (.cells #[] 3))) ha
  obtain ⟨i0, hi0, hz0, hz1, hz2⟩ := info_parts infoI
  have hown : Own (w.alloc (.cells #[] 3)) 3 1 (.slice (some ⟨w.heap.size, 0, none⟩) 0 0) 0 [] := ⟨by simp, .inl ⟨_, rfl, rfl⟩⟩
  obtain ⟨v', w', hrun, hown', hgr, hbl⟩ := own_append (P := Try.prog) (t := 30) (tx := 30) (ty := 30) Try.underlying30 hi0 hz0 hz1 hz2 rfl hown hs (by unfold maxLen; omega) (by omega)
  simp only [Nat.zero_add, List.nil_append] at hown'
  have hfin : Copy x w (.returned v') w' := by
    have hg := (World.grownBy_alloc w (.cells #[] 3) none).trans hgr
    refine ⟨v', rfl, hown', ⟨hg.os, hg.tape, hg.output, hg.size, fun k hk => hg.block k hk (by simp)⟩, fun g hg => ?_⟩
    rcases hbl with h | h | h
    · rw [h] at hg; cases hg
    · rw [h] at hg; cases hg
    · rw [h] at hg; cases hg; simp
  have HF := Lib.hid hfin
  obtain ⟨m, em⟩ : ∃ m, x.length = m := ⟨_, rfl⟩
  rw [em] at hm HZ HT hrun
  have HC : Hid (∀ i, i < l.length → ∃ b o, a = some ⟨b, o, none⟩ ∧ w.cell? ⟨b, o + i, none⟩ = some (.int .i64 (l.getD i 0))) := by
    intro i hi
    obtain ⟨b, o, e, _, hr⟩ := h3 (by omega)
    exact ⟨b, o, e, hr i hi⟩
  clear em h3 h hd hi ha hs hown hown' hgr hbl hfin htk ex hi0 hz0 hz1 hz2
  obtain ⟨n, en⟩ : ∃ n, l.length = n := ⟨_, rfl⟩
  rw [en] at hm h1 h2 HC ⊢
  clear en
  go_enter Try.func83, Try.ntmps83
  go_wp2
  go_loop [3] (fun t => ∃ k : Nat, m ≤ k ∧ k ≤ n ∧ t = .int .i64 k) (fun t => (intOf t).toNat)
  case atStart => exact ⟨n, hm, Nat.le_refl _, rfl⟩
  case round =>
    obtain ⟨k, hk1, hk2, rfl⟩ := hrel
    cases k with
    | zero =>
      obtain rfl : m = 0 := by omega
      cases a with
      | none =>
        go_wp2_with (at_builtin; refine Lib.wpList_append_run _ rfl _ _ _ _ rfl _ _ rfl rfl _ _ hrun ?_)
        go_ret
        exact HF.out
      | some a =>
        go_wp2_with (at_builtin; refine Lib.wpList_append_run _ rfl _ _ _ _ rfl _ _ rfl rfl _ _ hrun ?_)
        go_ret
        exact HF.out
    | succ j =>
      obtain ⟨b, o, rfl, hc⟩ := HC.out j (by omega)
      by_cases hj : m ≤ j
      · rw [HZ.out j hj] at hc
        go_wp2_with fail
        go_round
        case rel => exact ⟨j, hj, by omega, by go_num⟩
        case measure => simp [intOf]
      · obtain rfl : m = j + 1 := by omega
        have hne := HT.out (by omega)
        rw [Nat.add_sub_cancel] at hne
        obtain ⟨d, hd⟩ : ∃ d, l.getD j 0 = d := ⟨_, rfl⟩
        rw [hd] at hne hc
        have hne' : (d == 0) = false := by simpa using hne
        clear hne hd
        go_wp2_with (at_builtin; refine Lib.wpList_append_run _ rfl _ _ _ _ rfl _ _ rfl rfl _ _ hrun ?_)
        go_ret
        exact HF.out
end Go.Proofs.Ytmhjejnkphdjpaa.Bi

namespace Go.Proofs.Ytmhjejnkphdjpaa.Bi
open Go.RowKit

/-- Copies of digits are slices. -/
theorem OwnI.fit {w : World} {v : Value} {l : List Int} (h : OwnI w v l) : ∃ a c, v = .slice a l.length c := by
  obtain ⟨a, c, e, _, _⟩ := h.shape
  exact ⟨a, c, e⟩
set_option maxHeartbeats 1000000 in
theorem rmade_any (sg : Int) (a : Option Addr) (cap : Nat) (l : List Int) (hd : Dig l) (n : Int) (hv : (n.natAbs : Int) = val l) (hs : n ≠ 0 → sg = n.sign) (w : World) (h : Ints w (.slice a l.length cap) l) (hl : l.length ≤ 100000000) :
    Calls Try.prog 60 #[.int .i64 sg, .slice a l.length cap] w (AnsB n w) := by
  have ht := fun w h => rtrim_any a cap l hd w h hl
  rw [show (val l).toNat = n.natAbs by omega] at ht
  have hml := dig_len hd
  rw [show (val l).toNat = n.natAbs by omega] at hml
  have hm0 : (digs n.natAbs).length = 0 ↔ n = 0 := by rw [digs_len0]; omega
  have HT := Lib.hid ht
  have H := Lib.hid h
  have HR : Hid (Res w (w.alloc (.cells #[.int .i64 0, .slice none 0 0] 32))) := alloc_at _ _
  have HL : Hid ((digs n.natAbs).length ≤ 1000000000) := by unfold Hid; omega
  clear ht h hd hv hml hl
  by_cases h0 : n = 0
  · subst h0
    have hz : (digs (0 : Int).natAbs).length = 0 := hm0.2 rfl
    have HZ := Lib.hid hz
    clear hs hm0 hz
    go_enter Try.func60, Try.ntmps60
    go_wp2_with fail
    refine (HT.out _ (H.out.later (below_alloc _ _))).mono ?_
    rintro e w' ⟨v', rfl, ho, hb, hf⟩
    obtain ⟨a', c', rfl⟩ := ho.fit
    rw [HZ.out]
    have hres : Res w w' := (hb.block _ (by simp)).trans HR.out
    have HB : Hid (RowKit.Below w.heap.size w w') := (below_alloc _ _).trans (hb.mono (by simp))
    obtain ⟨r0, r1, f0, f1⟩ := hres.cells
    clear hb ho hf hres
    go_wp2_with fail
    exact bodyPost_ret (v := .agg #[.int .i64 0, .slice none 0 0]) (by simp [results, Try.results60, go_sem, r0, r1]) rfl
      ⟨_, rfl, by rw [show (0 : Int).natAbs = 0 from rfl, digs_zero]; exact Ints.nil _, (HB.out.setCell (Nat.le_refl _) _).setCell (Nat.le_refl _) _, fun g _ => off_nil g 0 0⟩
  · have hm1 : (digs n.natAbs).length ≠ 0 := fun e => h0 (hm0.1 e)
    obtain rfl := hs h0
    have hq : (((digs n.natAbs).length : Int) == 0) = false := by rw [beq_eq_false_iff_ne]; omega
    have HQ := Lib.hid hq
    clear hs hm0 h0 hq hm1
    go_enter Try.func60, Try.ntmps60
    go_wp2_with fail
    refine (HT.out _ (H.out.later (below_alloc _ _))).mono ?_
    rintro e w' ⟨v', rfl, ho, hb, hf⟩
    obtain ⟨a', c', rfl⟩ := ho.fit
    have hres : Res w w' := (hb.block _ (by simp)).trans HR.out
    have HB : Hid (RowKit.Below w.heap.size w w') := (below_alloc _ _).trans (hb.mono (by simp))
    obtain ⟨r0, r1, f0, f1⟩ := hres.cells
    have HF : Hid (Fresh (w.heap.size + 1) (.slice a' (digs n.natAbs).length c')) := blk_fresh ho (fun b h => by have := hf b h; simpa using this)
    have HI := Lib.hid (ho.ints HL.out)
    have hq := HQ.out
    obtain ⟨m, em⟩ : ∃ m, (digs n.natAbs).length = m := ⟨_, rfl⟩
    rw [em] at HF HI hq ⊢
    clear hb ho hf hres em
    go_wp2_with fail
    have hoff := HF.out w.heap.size (by omega)
    exact bodyPost_ret (v := .agg #[.int .i64 n.sign, .slice a' m c']) (by simp [results, Try.results60, go_sem, r0, r1]) rfl
      ⟨_, rfl, (HI.out.set hoff 0 _).set hoff 1 _, (HB.out.setCell (Nat.le_refl _) _).setCell (Nat.le_refl _) _, HF.out.mono (by omega)⟩

/-- A list of digits that is being written, a digit a round. -/
structure Grow (w : World) (k : Nat) (v : Value) (L : List Int) (W : World) : Prop where
  own : OwnI W v L
  dig : Dig L
  len : L.length = k
  below : RowKit.Below w.heap.size w W
  new : ∀ b, blk v = some b → w.heap.size ≤ b
theorem Grow.start (w : World) : Grow w 0 (.slice none 0 0) [] w := ⟨OwnI.nil w, Dig.nil, rfl, Below.refl _ _, fun b hb => by simp [blk] at hb⟩
theorem Grow.next {w : World} {k : Nat} {v : Value} {L : List Int} {W : World} (h : Grow w k v L W) (hk : k ≤ 100000000) {d : Int} (h0 : 0 ≤ d) (h1 : d < 1048576) :
    ∃ a c w', (∀ ty, (Builtin.append_ #[30, 30] ty #[v, .slice (some ⟨W.heap.size, 0, none⟩) 1 1]).run Try.prog (W.alloc (.cells #[.int .i64 d] 3)) = .ok (.slice a (k + 1) c) w') ∧ Grow w (k + 1) (.slice a (k + 1) c) (L ++ [d]) w' := by
  obtain ⟨a, c, w', r1, r2, r3, r4⟩ := h.own.snoc (by rw [h.len]; exact hk) d
  rw [h.len] at r1 r2 r4
  have hz := h.below.size
  refine ⟨a, c, w', r1, r2, h.dig.app (Dig.cons h0 h1 Dig.nil), by rw [List.length_append, h.len]; rfl, (h.below.alloc hz _).grown r3 (by simp; omega) (fun k hk => by have := h.new k hk; omega), fun b hb => ?_⟩
  rcases r4 with h5 | h5 | h5
  · rw [h5] at hb; cases hb
  · rw [h5] at hb; exact h.new b hb
  · rw [h5] at hb; cases hb; omega
theorem Grow.drewN {w : World} {k : Nat} {v : Value} {L : List Int} {W : World} (h : Grow w k v L W) (n : Nat) : Grow w k v L (W.drewN n) :=
  ⟨h.own, h.dig, h.len, h.below.trans ((below_drewN' n).mono h.below.size), h.new⟩
theorem Grow.ints {w : World} {k : Nat} {v : Value} {L : List Int} {W : World} (h : Grow w k v L W) (hk : k ≤ 1000000000) : Ints W v L := h.own.ints (by rw [h.len]; exact hk)
/-- trim at the end. -/
theorem Copy.after {w W : World} {x : List Int} {e : Ending} {w' : World} (h : Copy x W e w') (hb : RowKit.Below w.heap.size w W) : Copy x w e w' := by
  obtain ⟨v', rfl, h1, h2, h3⟩ := h
  exact ⟨v', rfl, h1, hb.trans (h2.mono hb.size), fun b hb' => Nat.le_trans hb.size (h3 b hb')⟩

theorem plus_step {x y L : List Int} {k : Nat} {c : Int} (hl : L.length = k) (h : val L + P k * c = val (x.take k) + val (y.take k)) :
    val (L ++ [(x.getD k 0 + y.getD k 0 + c) % 1048576]) + P (k + 1) * ((x.getD k 0 + y.getD k 0 + c) / 1048576) = val (x.take (k + 1)) + val (y.take (k + 1)) := by
  rw [val_app, hl, val_cons, val_nil, val_take, val_take, P_succ]
  obtain ⟨s, hs⟩ : ∃ s, x.getD k 0 + y.getD k 0 + c = s := ⟨_, rfl⟩
  rw [hs]
  have h3 : s % 1048576 = s - 1048576 * (s / 1048576) := by omega
  rw [h3, ← hs]
  grind
theorem plus_end {x y L : List Int} {k N : Nat} {c : Int} (hx : Dig x) (hy : Dig y) (hlx : x.length ≤ N) (hly : y.length ≤ N) (hN : k = N + 1) (hc : 0 ≤ c) (hL : Dig L) (h : val L + P k * c = val (x.take k) + val (y.take k)) : c = 0 := by
  subst hN
  have h1 := val_take_bd hx (N + 1)
  have h2 := val_take_bd hy (N + 1)
  rw [val_take_all x (by omega)] at h h1
  rw [val_take_all y (by omega)] at h h2
  have b1 := val_bd hx
  have b2 := val_bd hy
  have p1 := P_le hlx
  have p2 := P_le hly
  have bL := (val_bd hL).1
  rw [P_succ] at h
  have hp := P_pos N
  rcases Int.lt_or_le 0 c with hc1 | hc1
  · have : P N * 1 ≤ P N * c := Int.mul_le_mul_of_nonneg_left (by omega) (by omega)
    rw [Int.mul_assoc] at h
    omega
  · omega
theorem minus_step {x y L : List Int} {k : Nat} {c : Int} (hl : L.length = k) (h : val L = val (x.take k) - val (y.take k) + P k * c) (b : Int) :
    val (L ++ [x.getD k 0 - y.getD k 0 - c + 1048576 * b]) = val (x.take (k + 1)) - val (y.take (k + 1)) + P (k + 1) * b := by
  rw [val_app, hl, val_cons, val_nil, val_take, val_take, P_succ, h]
  grind
theorem minus_end {x y L : List Int} {c : Int} (hx : Dig x) (hy : Dig y) (hle : val y ≤ val x) (hL : Dig L) (hl : L.length = x.length) (hc : 0 ≤ c) (h : val L = val (x.take x.length) - val (y.take x.length) + P x.length * c) : val L = val x - val y := by
  rw [val_take_all x (Nat.le_refl _)] at h
  have e := val_cut y x.length
  have b1 := val_bd hx
  have b2 := val_bd hL
  have b3 := (val_bd (hy.drop x.length)).1
  have b4 := val_take_bd hy x.length
  rw [hl] at b2
  have hp := P_pos x.length
  have e1 : val (y.drop x.length) = 0 := by
    rcases Int.lt_or_le 0 (val (y.drop x.length)) with hc1 | hc1
    · have : P x.length * 1 ≤ P x.length * val (y.drop x.length) := Int.mul_le_mul_of_nonneg_left (by omega) (by omega)
      omega
    · omega
  rw [e1, Int.mul_zero] at e
  have e2 : c = 0 := by
    rcases Int.lt_or_le 0 c with hc1 | hc1
    · have : P x.length * 1 ≤ P x.length * c := Int.mul_le_mul_of_nonneg_left (by omega) (by omega)
      omega
    · omega
  rw [e2, Int.mul_zero] at h
  omega
end Go.Proofs.Ytmhjejnkphdjpaa.Bi

namespace Go.Proofs.Ytmhjejnkphdjpaa.Bi
open Go.RowKit

theorem Grow.fit {w : World} {k : Nat} {v : Value} {L : List Int} {W : World} (h : Grow w k v L W) : ∃ a c, v = .slice a k c := by
  obtain ⟨a, c, e⟩ := h.own.fit
  rw [h.len] at e
  exact ⟨a, c, e⟩
set_option maxHeartbeats 2000000 in
theorem rplus_any (vx vy : Value) (x y : List Int) (hdx : Dig x) (hdy : Dig y) (w : World) (hx : Ints w vx x) (hy : Ints w vy y) (hlx : x.length ≤ 1000000) (hly : y.length ≤ 1000000) :
    Calls Try.prog 67 #[vx, vy] w (Copy (digs (val x + val y).toNat) w) := by
  obtain ⟨ax, capx, rfl, _, _, _⟩ := id hx
  obtain ⟨ay, capy, rfl, _, _, _⟩ := id hy
  obtain ⟨lx, ex⟩ : ∃ l, x.length = l := ⟨_, rfl⟩
  obtain ⟨ly, ey⟩ : ∃ l, y.length = l := ⟨_, rfl⟩
  have HX := Lib.hid hx
  have HY := Lib.hid hy
  have HDX := Lib.hid hdx
  have HDY := Lib.hid hdy
  have HEX := Lib.hid ex
  have HEY := Lib.hid ey
  rw [ex] at HX hlx ⊢
  rw [ey] at HY hly ⊢
  clear hx hy hdx hdy ex ey
  obtain ⟨N, hNx, hNy, hN1⟩ : ∃ N : Nat, lx ≤ N ∧ ly ≤ N ∧ N ≤ 2000000 := ⟨lx + ly, by omega, by omega, by omega⟩
  go_enter Try.func67, Try.ntmps67
  go_wp2_with fail
  go_loopw [5, 6, 7] (fun v c t wr => ∃ (k : Nat) (L : List Int) (C : Int), c = .int .i64 C ∧ t = .int .i64 k ∧ k ≤ N + 1 ∧ 0 ≤ C ∧ C ≤ 1 ∧ Grow w k v L wr ∧ val L + P k * C = val (x.take k) + val (y.take k)) (fun _ _ t _ => N + 2 - (intOf t).toNat)
  case atStart => exact ⟨0, [], 0, rfl, rfl, by omega, by omega, by omega, Grow.start w, by simp [val]⟩
  case round =>
    obtain ⟨k, L, C, rfl, rfl, hk, hc0, hc1, hG, hE⟩ := hrel
    obtain ⟨a0, q0, rfl⟩ := hG.fit
    have HG := Lib.hid hG
    have HE := Lib.hid hE
    have hend : k = N + 1 → C = 0 := fun e => plus_end (N := N) HDX.out HDY.out (by rw [HEX.out]; exact hNx) (by rw [HEY.out]; exact hNy) e hc0 hG.dig hE
    have bx := HDX.out.get k
    have bz := HDY.out.get k
    have hst := plus_step hG.len hE
    obtain ⟨dx, edx⟩ : ∃ d, x.getD k 0 = d := ⟨_, rfl⟩
    obtain ⟨dy, edy⟩ : ∃ d, y.getD k 0 = d := ⟨_, rfl⟩
    rw [edx] at bx hst
    rw [edy] at bz hst
    obtain ⟨a1, q1, w1, hrun, hG1⟩ := hG.next (d := (dx + dy + C) % 1048576) (by omega) (by omega) (by omega)
    have HJX := Lib.hid edx
    have HJY := Lib.hid edy
    have HST := Lib.hid hst
    have HG1 := Lib.hid hG1
    have HRUN := Lib.hid hrun
    clear edx edy hst hG1 hG hE hrun
    have hcase : (k < lx) ∨ (¬ k < lx ∧ k < ly) ∨ (¬ k < lx ∧ ¬ k < ly ∧ 0 < C) ∨ (¬ k < lx ∧ ¬ k < ly ∧ C = 0) := by omega
    rcases hcase with h1 | ⟨h1, h2⟩ | ⟨h1, h2, h3⟩ | ⟨h1, h2, h3⟩
    iterate 3
      have hkN : k ≤ N := by omega
      clear hend
      have hmod : Int.tmod (dx + dy + C) 1048576 = (dx + dy + C) % 1048576 := Int.tmod_eq_emod_of_nonneg (by omega)
      have hdiv : Int.tdiv (dx + dy + C) 1048576 = (dx + dy + C) / 1048576 := Int.tdiv_eq_ediv_of_nonneg (by omega)
      go_wp2_with fail
      refine (rdigit_any _ _ k _ (HX.out.later HG.out.below)).mono ?_
      rintro e w' ⟨rfl, rfl⟩
      rw [HJX.out]
      go_wp2_with fail
      refine (rdigit_any _ _ k _ (HY.out.later HG.out.below)).mono ?_
      rintro e w' ⟨rfl, rfl⟩
      rw [HJY.out]
      have hrun := HRUN.out
      go_wp2_with (at_builtin; refine Lib.wpList_append_run _ rfl _ _ _ _ rfl _ _ rfl rfl _ _ (hrun _) ?_)
      go_roundw
      case rel => exact ⟨k + 1, _, (dx + dy + C) / 1048576, by first | rfl | (simp [hdiv]; done), by go_num, by omega, by omega, by omega, HG1.out, HST.out⟩
      case measure => simp [intOf]; omega
    obtain rfl := h3
    have hv : val L = val x + val y := by
      have := HE.out
      rw [val_take_all x (by rw [HEX.out]; omega), val_take_all y (by rw [HEY.out]; omega), Int.mul_zero] at this
      omega
    have HV := Lib.hid hv
    clear hv hend hc0 hc1 HST HG1 HRUN
    have hl := HG.out.len
    go_wp2_with fail
    have ht := rtrim_any a0 q0 L HG.out.dig wr (by rw [hl]; exact HG.out.ints (by omega)) (by omega)
    rw [hl, HV.out] at ht
    refine ht.mono ?_
    intro e w' h
    have HC := Lib.hid (h.after HG.out.below)
    obtain ⟨v', rfl, _⟩ := h
    go_wp2_with fail
    go_ret
    exact HC.out

set_option maxHeartbeats 2000000 in
theorem rminus_any (vx vy : Value) (x y : List Int) (hdx : Dig x) (hdy : Dig y) (hle : val y ≤ val x) (w : World) (hx : Ints w vx x) (hy : Ints w vy y) (hlx : x.length ≤ 1000000) :
    Calls Try.prog 68 #[vx, vy] w (Copy (digs (val x - val y).toNat) w) := by
  obtain ⟨ax, capx, rfl, _, _, hx3⟩ := id hx
  obtain ⟨ay, capy, rfl, _, _, _⟩ := id hy
  obtain ⟨lx, ex⟩ : ∃ l, x.length = l := ⟨_, rfl⟩
  have HX : Hid (∀ k, k < lx → ∃ b o, ax = some ⟨b, o, none⟩ ∧ ∀ W, RowKit.Below w.heap.size w W → W.cell? ⟨b, o + k, none⟩ = some (.int .i64 (x.getD k 0))) := by
    intro k hk
    obtain ⟨b, o, e, hlt, hr⟩ := hx3.resolve_left (fun e => by rw [e] at ex; simp at ex; omega)
    exact ⟨b, o, e, fun W hW => (hB_cell hW hlt).trans (hr k (by omega))⟩
  have hcx := hx.shape.2.1
  have HY := Lib.hid hy
  have HDX := Lib.hid hdx
  have HDY := Lib.hid hdy
  have HEX := Lib.hid ex
  have HLE := Lib.hid hle
  rw [ex] at hlx hcx ⊢
  clear hx hx3 hy hdx hdy ex hle
  go_enter Try.func68, Try.ntmps68
  go_wp2_with fail
  go_loopw [5, 6, 7] (fun v c t wr => ∃ (k : Nat) (L : List Int) (C : Int), c = .int .i64 C ∧ t = .int .i64 k ∧ k ≤ lx ∧ 0 ≤ C ∧ C ≤ 1 ∧ Grow w k v L wr ∧ val L = val (x.take k) - val (y.take k) + P k * C) (fun _ _ t _ => lx - (intOf t).toNat)
  case atStart => exact ⟨0, [], 0, rfl, rfl, by omega, by omega, by omega, Grow.start w, by simp [val]⟩
  case round =>
    obtain ⟨k, L, C, rfl, rfl, hk, hc0, hc1, hG, hE⟩ := hrel
    obtain ⟨a0, q0, rfl⟩ := hG.fit
    have HG := Lib.hid hG
    have HE := Lib.hid hE
    by_cases hlt : k < lx
    · have bx := HDX.out.get k
      have bz := HDY.out.get k
      have hst := minus_step (x := x) (y := y) hG.len hE
      obtain ⟨bb, o, rfl, hcell⟩ := HX.out k hlt
      have hc := hcell wr HG.out.below
      obtain ⟨dx, edx⟩ : ∃ d, x.getD k 0 = d := ⟨_, rfl⟩
      obtain ⟨dy, edy⟩ : ∃ d, y.getD k 0 = d := ⟨_, rfl⟩
      rw [edx] at bx hst hc
      rw [edy] at bz hst
      have HJY := Lib.hid edy
      have HST := Lib.hid hst
      clear edx edy hst hG hE hcell
      by_cases hneg : dx - dy - C < 0
      · go_wp2_with fail
        go_quiet ((go_at_call 84; exact Calls.quiet_of ((rdigit_any _ _ k _ ((HY.out.later HG.out.below).drewN _)).mono (fun _ _ h => ⟨h.1.trans (by rw [HJY.out]), 0, h.2.symm⟩))))
        obtain ⟨a1, q1, w1, hrun, hG1⟩ := (HG.out.drewN nq).next (d := dx - dy - C + 1048576) (by omega) (by omega) (by omega)
        have HG1 := Lib.hid hG1
        clear hG1
        go_wp2_with (at_builtin; refine Lib.wpList_append_run _ rfl _ _ _ _ rfl _ _ rfl rfl _ _ (hrun _) ?_)
        go_roundw
        case rel => exact ⟨k + 1, _, 1, rfl, by go_num, by omega, by omega, by omega, HG1.out, by have := HST.out 1; rwa [Int.mul_one] at this⟩
        case measure => simp [intOf]; omega
      · go_wp2_with fail
        go_quiet ((go_at_call 84; exact Calls.quiet_of ((rdigit_any _ _ k _ ((HY.out.later HG.out.below).drewN _)).mono (fun _ _ h => ⟨h.1.trans (by rw [HJY.out]), 0, h.2.symm⟩))))
        obtain ⟨a1, q1, w1, hrun, hG1⟩ := (HG.out.drewN nq).next (d := dx - dy - C) (by omega) (by omega) (by omega)
        have HG1 := Lib.hid hG1
        clear hG1
        go_wp2_with (at_builtin; refine Lib.wpList_append_run _ rfl _ _ _ _ rfl _ _ rfl rfl _ _ (hrun _) ?_)
        go_roundw
        case rel => exact ⟨k + 1, _, 0, rfl, by go_num, by omega, by omega, by omega, HG1.out, by have := HST.out 0; rwa [Int.mul_zero, Int.add_zero] at this⟩
        case measure => simp [intOf]; omega
    · obtain rfl : k = lx := by omega
      have hl := HG.out.len
      have hv : val L = val x - val y := minus_end HDX.out HDY.out HLE.out hG.dig (by rw [hl, HEX.out]) hc0 (by rw [HEX.out]; exact HE.out)
      have HV := Lib.hid hv
      clear hv hc0 hc1 hG hE
      go_wp2_with fail
      have ht := rtrim_any a0 q0 L HG.out.dig wr (by rw [hl]; exact HG.out.ints (by omega)) (by omega)
      rw [hl, HV.out] at ht
      refine ht.mono ?_
      intro e w' h
      have HC := Lib.hid (h.after HG.out.below)
      obtain ⟨v', rfl, _⟩ := h
      go_wp2_with fail
      go_ret
      exact HC.out
end Go.Proofs.Ytmhjejnkphdjpaa.Bi

namespace Go.Proofs.Ytmhjejnkphdjpaa.Bi
open Go.RowKit

theorem dd_bd {d e : Int} (h0 : 0 ≤ d) (h1 : d < 1048576) (h2 : 0 ≤ e) (h3 : e < 1048576) : 0 ≤ d * e ∧ d * e ≤ 1099509530625 := by
  have e1 := mul_bd (q := d) (d := e) (A := 1048575) (by omega) (by omega) h2 h3 (by omega)
  exact ⟨Int.mul_nonneg h0 h2, by omega⟩
theorem getD_out {l : List Int} {k : Nat} (h : l.length ≤ k) : l.getD k 0 = 0 := by rw [List.getD_eq_getElem?_getD, List.getElem?_eq_none h]; rfl
/-- A product's row, a digit further. -/
theorem row_step {L y : List Int} {i k : Nat} {V C d s : Int} (hj : i + k < L.length) (h : val L + P (i + k) * C = V + P i * (d * val (y.take k))) (hs : s = L.getD (i + k) 0 + d * y.getD k 0 + C) :
    val (L.set (i + k) (s % 1048576)) + P (i + (k + 1)) * (s / 1048576) = V + P i * (d * val (y.take (k + 1))) := by
  rw [show i + (k + 1) = (i + k) + 1 by omega, P_succ, val_take]
  exact add_step V (val L) _ (P i) (P k) (P (i + k)) C d (y.getD k 0) s (val (y.take k)) (L.getD (i + k) 0) h (P_add i k) (val_set _ _ _ hj) (by omega)

set_option maxHeartbeats 4000000 in
theorem rtimes_any (vx vy : Value) (x y : List Int) (hdx : Dig x) (hdy : Dig y) (w : World) (hx : Ints w vx x) (hy : Ints w vy y) (hlx : x.length ≤ 1000000) (hly : y.length ≤ 1000000) :
    Calls Try.prog 61 #[vx, vy] w (Copy (digs (val x * val y).toNat) w) := by
  obtain ⟨ax, capx, rfl, _, _, hx3⟩ := id hx
  obtain ⟨ay, capy, rfl, _, _, _⟩ := id hy
  obtain ⟨O, hmk0, hO⟩ := make_any (x.length + y.length) (by omega)
  obtain ⟨m, ex⟩ : ∃ l, x.length = l := ⟨_, rfl⟩
  obtain ⟨n, ey⟩ : ∃ l, y.length = l := ⟨_, rfl⟩
  have HX : Hid (∀ k, k < m → ∃ b o, ax = some ⟨b, o, none⟩ ∧ ∀ W, RowKit.Below w.heap.size w W → W.cell? ⟨b, o + k, none⟩ = some (.int .i64 (x.getD k 0))) := by
    intro k hk
    obtain ⟨b, o, e, hlt, hr⟩ := hx3.resolve_left (fun e => by rw [e] at ex; simp at ex; omega)
    exact ⟨b, o, e, fun W hW => (hB_cell hW hlt).trans (hr k (by omega))⟩
  have hcx := hx.shape.2.1
  have HY := Lib.hid hy
  have HDX := Lib.hid hdx
  have HDY := Lib.hid hdy
  have HEX := Lib.hid ex
  have HEY := Lib.hid ey
  rw [ex, ey] at hmk0 hO
  rw [ex] at hlx hcx ⊢
  rw [ey] at hly HY ⊢
  obtain ⟨N, eN⟩ : ∃ N, m + n = N := ⟨_, rfl⟩
  rw [eN] at hmk0 hO
  have hmk : ∀ w, (Instr.makeSlice 30 (.int .i64 ((m : Int) + (n : Int))) (.int .i64 ((m : Int) + (n : Int)))).run Try.prog w = .ok (.slice (some ⟨w.heap.size, 0, none⟩) N N) (w.alloc O) := by
    rw [show (m : Int) + (n : Int) = ((N : Nat) : Int) by omega]; exact hmk0
  have HO := Lib.hid hO
  clear hx hx3 hy hdx hdy ex ey hmk0 hO
  go_enter Try.func61, Try.ntmps61
  go_wp2_with fail
  clear hmk
  go_loopw [6] (fun t wr => ∃ (i : Nat) (L : List Int), i ≤ m ∧ t = .int .i64 i ∧ Mem wr w.heap.size L ∧ RowKit.Below w.heap.size w wr ∧ L.length = N ∧ Dig L ∧ (∀ j, i + n ≤ j → L.getD j 0 = 0) ∧ val L = val (x.take i) * val y) (fun t _ => m - (intOf t).toNat)
  case atStart =>
    exact ⟨0, List.replicate N 0, Nat.zero_le _, rfl, HO.out _ _ (alloc_at _ _), below_alloc _ _, List.length_replicate, Dig.zeros N, fun j _ => zeros_get N j, by simp [val, val_zeros]⟩
  case round =>
    obtain ⟨i, L, hi, rfl, hM, hB, hl, hd, hz, hval⟩ := hrel
    have HB := Lib.hid hB
    have HL := Lib.hid hl
    have HZ := Lib.hid hz
    have HD := Lib.hid hd
    have HV := Lib.hid hval
    have HM := Lib.hid hM
    clear hB hl hz hd hval hM
    by_cases hlt : i < m
    · obtain ⟨bb, o, rfl, hcell⟩ := HX.out i hlt
      have bx := HDX.out.get i
      obtain ⟨d, ed⟩ : ∃ d, x.getD i 0 = d := ⟨_, rfl⟩
      rw [ed] at bx hcell
      have HC := Lib.hid hcell
      have HED := Lib.hid ed
      obtain ⟨V, eV⟩ : ∃ V, val L = V := ⟨_, rfl⟩
      rw [eV] at HV
      have HEV := Lib.hid eV
      clear hcell ed eV
      obtain ⟨wo, ewo⟩ : ∃ wo : World, wo = wr := ⟨_, rfl⟩
      rw [← ewo]
      rw [← ewo] at HB HM
      clear ewo
      go_wp2_with fail
      go_loopw [7, 8] (fun c t wq => ∃ (k : Nat) (C : Int) (L : List Int), k ≤ n + 1 ∧ c = .int .i64 C ∧ t = .int .i64 k ∧ 0 ≤ C ∧ C < 1048576 ∧ (k = n + 1 → C = 0) ∧ Mem wq w.heap.size L ∧ RowKit.Below w.heap.size w wq ∧ L.length = N ∧ Dig L ∧ (∀ j, i + n ≤ j → i + k ≤ j → L.getD j 0 = 0) ∧ val L + P (i + k) * C = V + P i * (d * val (y.take k))) (fun _ t _ => n + 2 - (intOf t).toNat)
      case atStart => exact ⟨0, 0, L, by omega, rfl, rfl, by omega, by omega, by omega, HM.out, HB.out, HL.out, HD.out, fun j h1 _ => HZ.out j h1, by rw [HEV.out]; simp [val]⟩
      case round =>
        obtain ⟨k, C, L', hk, rfl, rfl, hc0, hc1, hck, hM, hB, hl, hd, hz, hval⟩ := hrel
        have HB' := Lib.hid hB
        have HL' := Lib.hid hl
        have HZ' := Lib.hid hz
        have HD' := Lib.hid hd
        have HV' := Lib.hid hval
        have HM' := Lib.hid hM
        clear hB hl hz hd hval hM
        have hcase : (k < n) ∨ (¬ k < n ∧ 0 < C) ∨ (¬ k < n ∧ C = 0) := by omega
        rcases hcase with h1 | ⟨h1, h2⟩ | ⟨h1, h2⟩
        iterate 2
          have hjN : i + k < N := by omega
          have hc := HC.out wr HB'.out
          have hcl := HM'.out.cell (j := i + k) (by rw [HL'.out]; exact hjN)
          have bo := HD'.out.get (i + k)
          have by_ := HDY.out.get k
          have hz0 : ¬ k < n → L'.getD (i + k) 0 = 0 ∧ d * y.getD k 0 = 0 := fun h => ⟨HZ'.out _ (by omega) (Nat.le_refl _), by rw [getD_out (by rw [HEY.out]; omega), Int.mul_zero]⟩
          have hstep := row_step (y := y) (d := d) (s := L'.getD (i + k) 0 + d * y.getD k 0 + C) (by rw [HL'.out]; exact hjN) HV'.out rfl
          have hbd := dd_bd bx.1 bx.2 by_.1 by_.2
          obtain ⟨dy, edy⟩ : ∃ e, y.getD k 0 = e := ⟨_, rfl⟩
          obtain ⟨old, eo⟩ : ∃ e, L'.getD (i + k) 0 = e := ⟨_, rfl⟩
          rw [edy] at by_ hz0 hbd hstep
          rw [eo] at bo hcl hz0 hstep
          have HJY := Lib.hid edy
          have HST := Lib.hid hstep
          have HZ0 := Lib.hid hz0
          have hkn : k ≤ n := by omega
          clear edy eo hstep hz0 hck
          obtain ⟨j, ej⟩ : ∃ j, i + k = j := ⟨_, rfl⟩
          have hij : (i : Int) + (k : Int) = (j : Int) := by omega
          have EJ := Lib.hid ej
          rw [ej] at hcl hjN HST
          clear ej
          have hmod : Int.tmod (old + d * dy + C) 1048576 = (old + d * dy + C) % 1048576 := Int.tmod_eq_emod_of_nonneg (by omega)
          have hdiv : Int.tdiv (old + d * dy + C) 1048576 = (old + d * dy + C) / 1048576 := Int.tdiv_eq_ediv_of_nonneg (by omega)
          go_wp2_with fail
          go_quiet ((go_at_call 84; exact Calls.quiet_of ((rdigit_any _ _ k _ ((HY.out.later HB'.out).drewN _)).mono (fun _ _ h => ⟨h.1.trans (by rw [HJY.out]), 0, h.2.symm⟩))))
          have hcl2 : (wr.drewN nq).cell? ⟨w.heap.size, j, none⟩ = some (.int .i64 old) := hcl
          have hfl2 : (wr.drewN nq).frozen? ⟨w.heap.size, j, none⟩ = false := HM'.out.free j
          have HBQ : Hid (RowKit.Below w.heap.size w (wr.drewN nq)) := HB'.out.trans ((below_drewN' nq).mono HB'.out.size)
          have HMQ : Hid (Mem (wr.drewN nq) w.heap.size L') := HM'.out
          go_wp2_with fail
          go_roundw
          case rel =>
            have hN := HL'.out
            have hJ := EJ.out
            have hz0 := HZ0.out
            refine ⟨k + 1, (old + d * dy + C) / 1048576, L'.set j ((old + d * dy + C) % 1048576), by omega, by first | rfl | (simp [hdiv]; done), by go_num, by omega, by omega, fun e => by have := hz0 (by omega); omega, HMQ.out.set (by omega) _, HBQ.out.setCell (Nat.le_refl _) _, by rw [List.length_set]; exact hN, HD'.out.set j (by omega) (by omega), fun q hq1 hq2 => by rw [getD_set_ne (by omega)]; exact HZ'.out q hq1 (by omega), HST.out⟩
          case measure => simp [intOf]; omega
        obtain rfl := h2
        have hv : val L' = val (x.take (i + 1)) * val y := by
          have := HV'.out
          rw [val_take_all y (by rw [HEY.out]; omega), Int.mul_zero] at this
          rw [val_take, HED.out]
          have h2 := HV.out
          rw [h2] at this
          grind
        have HV2 := Lib.hid hv
        clear hv hck hc0 hc1
        go_wp2_with fail
        go_roundw
        case rel => exact ⟨i + 1, L', by omega, by go_num, HM'.out, HB'.out, HL'.out, HD'.out, fun q hq => HZ'.out q (by omega) (by omega), HV2.out⟩
        case measure => simp [intOf]; omega
    · obtain rfl : i = m := by omega
      have hl2 := HL.out
      have hv := HV.out
      rw [val_take_all _ (by rw [HEX.out]; omega)] at hv
      have HV2 := Lib.hid hv
      clear hv
      go_wp2_with fail
      have ht := rtrim_any (some ⟨w.heap.size, 0, none⟩) N L HD.out wr (HM.out.ints0 N (by omega) (by omega)) (by omega)
      rw [hl2, HV2.out] at ht
      refine ht.mono ?_
      intro e w' h
      have HC := Lib.hid (h.after HB.out)
      obtain ⟨v', rfl, _⟩ := h
      go_wp2_with fail
      go_ret
      exact HC.out
end Go.Proofs.Ytmhjejnkphdjpaa.Bi

namespace Go.Proofs.Ytmhjejnkphdjpaa.Bi
open Go.RowKit

theorem any_snoc {l : List Int} {k : Nat} (h : k < l.length) (ha : (l.take k).any badD = false) (hk : badD (l.getD k 0) = false) : (l.take (k + 1)).any badD = false := by
  rw [List.take_succ_eq_append_getElem h, List.any_append, ha]
  rw [List.getD_eq_getElem?_getD, List.getElem?_eq_getElem h] at hk
  simpa using hk
theorem any_bad {l : List Int} {k : Nat} (h : k < l.length) (hk : badD (l.getD k 0) = true) : l.any badD = true := by
  rw [List.getD_eq_getElem?_getD, List.getElem?_eq_getElem h] at hk
  rw [List.any_eq_true]
  exact ⟨_, List.getElem_mem h, by simpa using hk⟩
theorem keepB {w : World} {a : Addr} {u : Value} (h : w.cell? a = some u) : ∀ o : Obj, (w.alloc o).cell? a = some u := fun o => by
  rw [World.cell?_alloc_lt w o a (World.block_lt_of_cell? w a h)]; exact h

set_option maxHeartbeats 4000000 in
theorem rright_any (v : Value) (s : Int) (l : List Int) (w : World) (h : Arg w v s l) :
    Calls Try.prog 58 #[v] w fun e w' => e = .returned (.bool (rightB s l)) ∧ RowKit.Below w.heap.size w w' := by
  obtain ⟨sl, rfl, hi⟩ := h
  obtain ⟨a, cap, rfl, h1, h2, h3⟩ := hi
  obtain ⟨n, en⟩ : ∃ n, l.length = n := ⟨_, rfl⟩
  have HC : Hid (∀ k, k < n → ∃ b o, a = some ⟨b, o, none⟩ ∧ ∀ O, (w.alloc O).cell? ⟨b, o + k, none⟩ = some (.int .i64 (l.getD k 0))) := by
    intro k hk
    obtain ⟨b, o, e, hlt, hr⟩ := h3.resolve_left (fun e => by rw [e] at en; simp at en; omega)
    exact ⟨b, o, e, keepB (hr k (by omega))⟩
  have HN := Lib.hid en
  have HB := Lib.hid (below_alloc w (.cells #[.int .i64 s, .slice a n cap] 32))
  rw [en] at h1 h2 ⊢
  clear h3 en
  go_enter Try.func58, Try.ntmps58
  go_wp2_with fail
  go_loop [3] (fun i => ∃ k : Nat, k ≤ n ∧ i = .int .i64 k ∧ (l.take k).any badD = false) (fun i => n - (intOf i).toNat)
  case atStart => exact ⟨0, by omega, rfl, by simp⟩
  case round =>
    obtain ⟨k, hk, rfl, hno⟩ := hrel
    have HNo := Lib.hid hno
    clear hno
    by_cases hlt : k < n
    · obtain ⟨b, o, rfl, hc⟩ := HC.out k hlt
      obtain ⟨d, hd⟩ : ∃ d, l.getD k 0 = d := ⟨_, rfl⟩
      rw [hd] at hc
      have HD := Lib.hid hd
      clear hd
      by_cases hb1 : d < 0
      · have HR : Hid (rightB s l = false) := Lib.hid (by
          unfold rightB; rw [any_bad (k := k) (by rw [HN.out]; exact hlt) (by rw [HD.out]; simp [badD, hb1])]; simp)
        go_wp2_with fail
        go_ret
        exact ⟨by rw [HR.out]; rfl, HB.out⟩
      · have hb1' : decide (d < 0) = false := by simpa using hb1
        by_cases hb2 : 1048576 ≤ d
        · have HR : Hid (rightB s l = false) := Lib.hid (by
            unfold rightB; rw [any_bad (k := k) (by rw [HN.out]; exact hlt) (by rw [HD.out]; simp [badD]; omega)]; simp)
          have hb2' : decide (1048576 ≤ d) = true := by simpa using hb2
          go_wp2_with fail
          go_ret
          exact ⟨by rw [HR.out]; rfl, HB.out⟩
        · have hb2' : decide (1048576 ≤ d) = false := by simpa using hb2
          have HT := Lib.hid (any_snoc (l := l) (k := k) (by rw [HN.out]; exact hlt) HNo.out (by rw [HD.out]; simp [badD]; omega))
          go_wp2_with fail
          go_round
          case rel => exact ⟨k + 1, by omega, by go_num, HT.out⟩
          case measure => simp [intOf]; omega
    · have hany : l.any badD = false := by have := HNo.out; rwa [List.take_of_length_le (by rw [HN.out]; omega)] at this
      have hR : rightB s l = !(decide (s < -1) || decide (1 < s) || ((s == 0) != (n == 0)) || (decide (0 < n) && (l.getD (n - 1) 0 == 0))) := by
        unfold rightB; rw [hany, HN.out]; simp
      have HR := Lib.hid hR
      clear hany hR HNo
      by_cases s1 : s < -1
      · have s1' : decide (s < -1) = true := by simpa using s1
        have HF : Hid (rightB s l = false) := Lib.hid (by rw [HR.out]; simp [s1])
        go_wp2_with fail
        go_ret
        exact ⟨by rw [HF.out]; rfl, below_alloc _ _⟩
      · have s1' : decide (s < -1) = false := by simpa using s1
        by_cases s2 : 1 < s
        · have s2' : decide (1 < s) = true := by simpa using s2
          have HF : Hid (rightB s l = false) := Lib.hid (by rw [HR.out]; simp [s2])
          go_wp2_with fail
          go_ret
          exact ⟨by rw [HF.out]; rfl, below_alloc _ _⟩
        · have s2' : decide (1 < s) = false := by simpa using s2
          by_cases n0 : n = 0
          · have n0' : ((n : Int) == 0) = true := by simpa using n0
            by_cases z0 : s = 0
            · have z0' : (s == 0) = true := by simpa using z0
              have HF : Hid (rightB s l = true) := Lib.hid (by rw [HR.out]; simp [z0, n0])
              clear z0
              go_wp2_with fail
              go_ret
              exact ⟨by rw [HF.out]; rfl, below_alloc _ _⟩
            · have z0' : (s == 0) = false := by simpa using z0
              have HF : Hid (rightB s l = false) := Lib.hid (by rw [HR.out]; simp [z0, n0])
              go_wp2_with fail
              go_ret
              exact ⟨by rw [HF.out]; rfl, below_alloc _ _⟩
          · have n0' : ((n : Int) == 0) = false := by simpa using n0
            by_cases z0 : s = 0
            · have z0' : (s == 0) = true := by simpa using z0
              have HF : Hid (rightB s l = false) := Lib.hid (by rw [HR.out]; simp [z0, n0])
              clear z0
              go_wp2_with fail
              go_ret
              exact ⟨by rw [HF.out]; rfl, below_alloc _ _⟩
            · have z0' : (s == 0) = false := by simpa using z0
              obtain ⟨j, rfl⟩ : ∃ j, n = j + 1 := ⟨n - 1, by omega⟩
              obtain ⟨b, o, rfl, hc⟩ := HC.out j (by omega)
              obtain ⟨d, hd⟩ : ∃ d, l.getD j 0 = d := ⟨_, rfl⟩
              rw [hd] at hc
              have HD := Lib.hid hd
              have hsub : ((j + 1 : Nat) : Int) - 1 = (j : Int) := by omega
              have hsub2 : (j : Int) + 1 - 1 = (j : Int) := by omega
              clear hd
              by_cases d0 : d = 0
              · have d0' : (d == 0) = true := by simpa using d0
                have d0'' : (d != 0) = false := by simpa using d0
                have HF : Hid (rightB s l = false) := Lib.hid (by rw [HR.out, show j + 1 - 1 = j by omega, HD.out]; simp [d0])
                clear d0
                go_wp2_with fail
                go_ret
                exact ⟨by rw [HF.out]; rfl, below_alloc _ _⟩
              · have d0' : (d == 0) = false := by simpa using d0
                have d0'' : (d != 0) = true := by simpa using d0
                have HF : Hid (rightB s l = true) := Lib.hid (by rw [HR.out, show j + 1 - 1 = j by omega, HD.out]; simp [d0, z0]; omega)
                go_wp2_with fail
                go_ret
                exact ⟨by rw [HF.out]; rfl, below_alloc _ _⟩
end Go.Proofs.Ytmhjejnkphdjpaa.Bi

namespace Go.Proofs.Ytmhjejnkphdjpaa.Bi
open Go.RowKit

theorem one_ints (W : World) (d : Int) : Ints (W.alloc (.cells #[.int .i64 d] 3)) (.slice (some ⟨W.heap.size, 0, none⟩) 1 1) [d] := by
  refine ⟨some ⟨W.heap.size, 0, none⟩, 1, rfl, by simp, by simp, .inr ⟨W.heap.size, 0, rfl, by simp, fun i hi => ?_⟩⟩
  have hi0 : i = 0 := by simpa using hi
  subst hi0
  rw [cell_of_row _ _ _ _ _ _ (alloc_at W _)]; rfl
theorem one_dig {d : Int} (h0 : 0 ≤ d) (h1 : d < 1048576) : Dig [d] := Dig.cons h0 h1 Dig.nil
theorem one_val (d : Int) : val [d] = d := by rw [val_cons, val_nil]; omega
theorem Ints.nn {W : World} {a : Option Addr} {n cap : Nat} {l : List Int} (h : Ints W (.slice a n cap) l) : a = none → n = 0 := by
  obtain ⟨rfl, _, _, h3⟩ := h.shape
  intro e
  rcases Nat.eq_zero_or_pos l.length with e0 | e0
  · exact e0
  · obtain ⟨b, o, e', _⟩ := h3 e0
    rw [e] at e'; cases e'
theorem OwnI.later {w w' : World} {v : Value} {l : List Int} (h : OwnI w v l) (hb : RowKit.Below w.heap.size w w') : OwnI w' v l := Own.grown h (on_below (b := none) hb) (by cases blk v <;> simp)
theorem nat_val {S : Int} (h : 0 ≤ S) : val (digs S.toNat) = S := by rw [digs_val]; omega
/-- append([]int{d}, v...). -/
theorem own_app {W : World} {a : Option Addr} {n cap : Nat} {l : List Int} (h : Ints W (.slice a n cap) l) (hl : n ≤ 10000000) (d : Int) :
    ∃ a1 c1 w1, (∀ ty, (Builtin.append_ #[30, 30] ty #[.slice (some ⟨W.heap.size, 0, none⟩) 1 1, .slice a n cap]).run Try.prog (W.alloc (.cells #[.int .i64 d] 3)) = .ok (.slice a1 (n + 1) c1) w1) ∧
      OwnI w1 (.slice a1 (n + 1) c1) (d :: l) ∧ RowKit.Below W.heap.size W w1 ∧ ∀ b, blk (.slice a1 (n + 1) c1) = some b → W.heap.size ≤ b := by
  have ha := h.nn
  obtain ⟨rfl, _, _, _⟩ := h.shape
  obtain ⟨i0, hi, hz0, hz1, hz2⟩ := info_parts infoI
  have hown : Own (W.alloc (.cells #[.int .i64 d] 3)) 3 1 (.slice (some ⟨W.heap.size, 0, none⟩) 1 1) 1 [.int .i64 d] := ⟨by simp, .inr ⟨W.heap.size, 1, #[.int .i64 d], rfl, alloc_at W _, by omega, by omega, by unfold maxLen; omega, rfl, rfl⟩⟩
  have hsrc := src_of (h.later (below_alloc W (.cells #[.int .i64 d] 3))) ha
  have hrun := fun ty => own_append (P := Try.prog) (t := 30) (tx := 30) (ty := ty) Try.underlying30 hi hz0 hz1 hz2 rfl hown hsrc (by unfold maxLen; omega) (by omega)
  obtain ⟨v', w', hr, h1, h2, h3⟩ := hrun 0
  rw [Nat.add_comm] at h1
  obtain ⟨a1, c1, rfl, _, _⟩ := h1.shape
  have hg := (World.grownBy_alloc W (.cells #[.int .i64 d] 3) (blk (.slice (some ⟨W.heap.size, 0, none⟩) 1 1))).trans h2
  refine ⟨a1, c1, w', fun ty => ?_, by unfold OwnI; simpa using h1, below_on hg (Nat.le_refl _) (Nat.le_refl _), fun b hb => ?_⟩
  · have : Builtin.append_ #[30, 30] ty #[.slice (some ⟨W.heap.size, 0, none⟩) 1 1, .slice a l.length cap] = Builtin.append_ #[30, 30] 0 #[.slice (some ⟨W.heap.size, 0, none⟩) 1 1, .slice a l.length cap] := rfl
    rw [this]; exact hr
  · rcases h3 with h5 | h5 | h5
    · rw [h5] at hb; cases hb
    · rw [h5] at hb; cases hb; exact Nat.le_refl _
    · rw [h5] at hb; cases hb; simp
theorem over_step {X Q Y R S lo d D : Int} (h : D = Q * Y + R) (hX : X = d + 1048576 * D) (hS : S = d + 1048576 * R) : X = (lo + 1048576 * Q) * Y + (S - Y * lo) := by
  subst h hX hS; grind
/-- A call that returns quotient and remainder, in blocks of their own. -/
def Over (X Y : Int) (w : World) (e : Ending) (w' : World) : Prop := ∃ vq vr, e = .returned (.tuple #[vq, vr]) ∧ OwnI w' vq (digs (X / Y).toNat) ∧ OwnI w' vr (digs (X % Y).toNat) ∧ RowKit.Below w.heap.size w w' ∧ (∀ b, blk vq = some b → w.heap.size ≤ b) ∧ ∀ b, blk vr = some b → w.heap.size ≤ b

set_option maxHeartbeats 4000000 in
theorem rover_any (vx vy : Value) (x y : List Int) (hdx : Dig x) (hdy : Dig y) (w : World) (hx : Ints w vx x) (hy : Ints w vy y) (hlx : x.length ≤ 1000000) (hly : y.length ≤ 900000) (h0 : 0 < val y) :
    Calls Try.prog 82 #[vx, vy] w (Over (val x) (val y) w) := by
  obtain ⟨ax, capx, rfl, _, _, hx3⟩ := id hx
  obtain ⟨ay, capy, rfl, _, _, _⟩ := id hy
  obtain ⟨O, hmk, hO⟩ := make_any x.length (by omega)
  obtain ⟨m, ex⟩ : ∃ l, x.length = l := ⟨_, rfl⟩
  obtain ⟨n, ey⟩ : ∃ l, y.length = l := ⟨_, rfl⟩
  have HX : Hid (∀ k, k < m → ∃ b o, ax = some ⟨b, o, none⟩ ∧ ∀ W, RowKit.Below w.heap.size w W → W.cell? ⟨b, o + k, none⟩ = some (.int .i64 (x.getD k 0))) := by
    intro k hk
    obtain ⟨b, o, e, hlt, hr⟩ := hx3.resolve_left (fun e => by rw [e] at ex; simp at ex; omega)
    exact ⟨b, o, e, fun W hW => (hB_cell hW hlt).trans (hr k (by omega))⟩
  have hcx := hx.shape.2.1
  have hYP := (val_bd hdy).2
  rw [ey] at hYP
  obtain ⟨Y, eY⟩ : ∃ Y, val y = Y := ⟨_, rfl⟩
  rw [eY] at h0 hYP ⊢
  have HY := Lib.hid hy
  have HDX := Lib.hid hdx
  have HDY := Lib.hid hdy
  have HEX := Lib.hid ex
  have HEY := Lib.hid ey
  have HVY := Lib.hid eY
  have HYP := Lib.hid hYP
  have H0 := Lib.hid h0
  rw [ex] at hmk hO hlx hcx ⊢
  rw [ey] at hly HY ⊢
  have HO := Lib.hid hO
  clear hx hx3 hy hdx hdy ex ey hO eY hYP h0
  go_enter Try.func82, Try.ntmps82
  go_wp2_with fail
  clear hmk
  go_loopw [7, 8] (fun v t wr => ∃ (k : Nat) (LQ : List Int) (R : Int), k ≤ m ∧ t = .int .i64 ((k : Int) - 1) ∧ Mem wr w.heap.size LQ ∧ OwnI wr v (digs R.toNat) ∧ (∀ b, blk v = some b → w.heap.size + 1 ≤ b) ∧ RowKit.Below w.heap.size w wr ∧ LQ.length = m ∧ Dig LQ ∧ 0 ≤ R ∧ R < Y ∧ val (x.drop k) = val (LQ.drop k) * Y + R) (fun _ t _ => (intOf t + 1).toNat)
  case atStart =>
    exact ⟨m, List.replicate m 0, 0, Nat.le_refl _, rfl, HO.out _ _ (alloc_at _ _), by rw [show (0 : Int).toNat = 0 from rfl, digs_zero]; exact OwnI.nil _, fun b hb => by simp [blk] at hb, below_alloc _ _, List.length_replicate, Dig.zeros m, by omega, H0.out, by rw [List.drop_eq_nil_of_le (by rw [HEX.out]; omega), List.drop_eq_nil_of_le (by simp)]; simp [val]⟩
  case round =>
    obtain ⟨k, LQ, R, hk, rfl, hM, hR, hnew, hB, hl, hd, hR0, hR1, hval⟩ := hrel
    have HB := Lib.hid hB
    have HL := Lib.hid hl
    have HD := Lib.hid hd
    have HV := Lib.hid hval
    have HM := Lib.hid hM
    have HR := Lib.hid hR
    have HN := Lib.hid hnew
    have HR0 := Lib.hid hR0
    have HR1 := Lib.hid hR1
    have hlen : (digs R.toNat).length ≤ n := digs_le (by have := HYP.out; omega)
    obtain ⟨a0, q0, rfl⟩ := hR.fit
    cases k with
    | zero =>
      rw [show ((0 : Nat) : Int) - 1 = -1 from rfl]
      have hfin : val LQ = val x / Y ∧ R = val x % Y := by
        have hv := HV.out
        rw [List.drop_zero, List.drop_zero] at hv
        rw [hv, Int.add_comm, Int.add_mul_ediv_right _ _ (by have := H0.out; omega), Int.add_mul_emod_self_right, Int.ediv_eq_zero_of_lt hR0 hR1, Int.emod_eq_of_lt hR0 hR1]
        omega
      have HF := Lib.hid hfin
      clear hB hl hd hval hM hR hnew hR0 hR1 hfin
      have ht := rtrim_any (some ⟨w.heap.size, 0, none⟩) m LQ HD.out wr (by have := HM.out.ints0 m (by rw [HL.out]; omega) (by omega); exact this) (by rw [HL.out]; omega)
      rw [HL.out, HF.out.1] at ht
      have HT := Lib.hid ht
      clear ht
      go_wp2_with fail
      refine HT.out.mono ?_
      rintro e w' ⟨v', rfl, ho, hb, hf⟩
      have hfin : Over (val x) Y w (.returned (.tuple #[v', .slice a0 (digs R.toNat).length q0])) w' := by
        have hr := HR.out.later hb
        refine ⟨v', _, rfl, ho, ?_, HB.out.trans (hb.mono HB.out.size), fun b h => Nat.le_trans HB.out.size (hf b h), fun b h => by have := HN.out b h; omega⟩
        rw [← HF.out.2]; exact hr
      have HFIN := Lib.hid hfin
      clear ho hb hf hfin
      go_wp2_with fail
      exact bodyPost_ret (v := .tuple #[v', .slice a0 (digs R.toNat).length q0]) (by simp [results, Try.results82, go_sem]) rfl HFIN.out
    | succ j =>
      rw [show ((j + 1 : Nat) : Int) - 1 = (j : Int) by omega]
      obtain ⟨bb, o, rfl, hcell⟩ := HX.out j (by omega)
      have hc := hcell wr HB.out
      have bx := HDX.out.get j
      obtain ⟨d, ed⟩ : ∃ d, x.getD j 0 = d := ⟨_, rfl⟩
      rw [ed] at bx hc
      have HED := Lib.hid ed
      obtain ⟨nR, eR⟩ : ∃ l, (digs R.toNat).length = l := ⟨_, rfl⟩
      rw [eR] at hlen
      obtain ⟨a1, q1, w1, hrun, ho1, hb1, hf1⟩ := own_app (hR.ints (by omega)) (by omega) d
      have hS : val (d :: digs R.toNat) = d + 1048576 * R := by rw [val_cons, nat_val hR0]
      have ht := rtrim_any a1 q1 (d :: digs R.toNat) (Dig.cons bx.1 bx.2 (digs_dig _)) w1 (ho1.ints (by simp; omega)) (by simp; omega)
      rw [hS, List.length_cons] at ht
      obtain ⟨S, eS⟩ : ∃ S, d + 1048576 * R = S := ⟨_, rfl⟩
      rw [eS] at ht
      have HT := Lib.hid ht
      have HES := Lib.hid eS
      have HB1 := Lib.hid hb1
      clear hB hl hd hval hM hR hnew ed hcell ht hS ho1 hb1 hf1
      rw [eR] at hrun HT ⊢
      have hS0 : 0 ≤ S ∧ S < 1048576 * Y := by omega
      clear eS eR
      go_wp2_with (at_builtin; refine Lib.wpList_append_run _ rfl _ _ _ _ rfl _ _ rfl rfl _ _ (hrun _) ?_)
      clear hrun
      refine HT.out.mono ?_
      rintro e w2 ⟨v2, rfl, ho2, hb2, hf2⟩
      obtain ⟨a2, q2, rfl⟩ := ho2.fit
      have HB2 : Hid (RowKit.Below w.heap.size w w2) := (HB.out.trans (HB1.out.mono HB.out.size)).trans (hb2.mono (HB.out.trans (HB1.out.mono HB.out.size)).size)
      have hb12 : RowKit.Below wr.heap.size wr w2 := HB1.out.trans (hb2.mono HB1.out.size)
      have HM2 := Lib.hid (HM.out.later hb12)
      have hsz : w.heap.size < wr.heap.size := HM.out.lt
      have HN2 : Hid (Fresh (w.heap.size + 1) (.slice a2 (digs S.toNat).length q2)) := blk_fresh ho2 (fun b h => by have := hf2 b h; have := HB1.out.size; omega)
      have hlS : (digs S.toNat).length ≤ n + 1 := digs_le (by rw [P_succ]; have := HYP.out; omega)
      have HI2 := Lib.hid (ho2.ints (by omega))
      have HLS := Lib.hid hlS
      obtain ⟨nS, enS⟩ : ∃ l, (digs S.toNat).length = l := ⟨_, rfl⟩
      rw [enS] at HN2 HI2 HLS ⊢
      clear ho2 hb2 hf2 hb12 hsz hlS enS HT HB1
      go_wp2_with fail
      go_loopw [9, 10] (fun a b wq => ∃ lo hi : Int, a = .int .i64 lo ∧ b = .int .i64 hi ∧ 0 ≤ lo ∧ lo < hi ∧ hi ≤ 1048576 ∧ lo * Y ≤ S ∧ S < hi * Y ∧ RowKit.Below w2.heap.size w2 wq) (fun a b _ => (intOf b - intOf a).toNat)
      case atStart => exact ⟨0, 1048576, rfl, rfl, by omega, by omega, by omega, by omega, hS0.2, Below.refl _ _⟩
      case round =>
        obtain ⟨lo, hi, rfl, rfl, hlo, hlh, hhi, hq1, hq2, hbq⟩ := hrel
        have HBQ := Lib.hid hbq
        have HQ1 := Lib.hid hq1
        have HQ2 := Lib.hid hq2
        have HBW : Hid (RowKit.Below w.heap.size w wr) := HB2.out.trans (hbq.mono HB2.out.size)
        clear hbq hq1 hq2
        by_cases hgap : 1 < hi - lo
        · have hdiv : Int.tdiv (lo + hi) 2 = (lo + hi) / 2 := Int.tdiv_eq_ediv_of_nonneg (by omega)
          obtain ⟨M, eM⟩ : ∃ M, (lo + hi) / 2 = M := ⟨_, rfl⟩
          rw [eM] at hdiv
          have hM1 : lo < M ∧ M < hi := by omega
          clear eM
          go_wp2_with fail
          refine (rtimes_any _ _ y [M] HDY.out (one_dig (by omega) (by omega)) _ (HY.out.later (HBW.out.alloc HBW.out.size _)) (one_ints _ _) (by rw [HEY.out]; omega) (by simp)).mono ?_
          rintro e w3 ⟨v3, rfl, ho3, hb3, hf3⟩
          rw [HVY.out, one_val] at ho3
          have hp : 0 ≤ Y * M := Int.mul_nonneg (by have := H0.out; omega) (by omega)
          have hl3 : (digs (Y * M).toNat).length ≤ 1000000 := by
            have h1 := mul_lt_P (a := Y) (b := M) (i := n) (j := 1) (by have := H0.out; omega) HYP.out (by omega) (by simp [P]; omega)
            have := digs_le (n := (Y * M).toNat) (k := n + 1) (by omega)
            omega
          obtain ⟨a3, q3, rfl⟩ := ho3.fit
          have hbw : RowKit.Below wr.heap.size wr w3 := (below_alloc _ _).trans (hb3.mono (by simp))
          have HB3 : Hid (RowKit.Below w2.heap.size w2 w3) := HBQ.out.trans (hbw.mono HBQ.out.size)
          have HI3 := Lib.hid (ho3.ints (by omega))
          have hless := rless_any _ _ _ _ (digs_dig S.toNat) (digs_dig (Y * M).toNat) w3 (HI2.out.later HB3.out) HI3.out
          rw [nat_val hS0.1, nat_val hp] at hless
          have HLE := Lib.hid hless
          obtain ⟨n3, en3⟩ : ∃ l, (digs (Y * M).toNat).length = l := ⟨_, rfl⟩
          rw [en3] at HLE ⊢
          clear ho3 hb3 hf3 hbw hless en3 HI3 hl3
          by_cases hsm : S < Y * M
          · have hdt : decide (S < Y * M) = true := decide_eq_true hsm
            rw [hdt] at HLE
            clear hdt
            go_wp2_with fail
            refine HLE.out.mono ?_
            rintro e w' ⟨rfl, rfl⟩
            go_wp2_with fail
            go_roundw
            case rel => exact ⟨lo, M, rfl, rfl, by omega, by omega, by omega, HQ1.out, by rw [Int.mul_comm]; exact hsm, HB3.out⟩
            case measure => simp [intOf]; omega
          · have hdt : decide (S < Y * M) = false := decide_eq_false hsm
            rw [hdt] at HLE
            clear hdt
            go_wp2_with fail
            refine HLE.out.mono ?_
            rintro e w' ⟨rfl, rfl⟩
            go_wp2_with fail
            go_roundw
            case rel => exact ⟨M, hi, rfl, rfl, by omega, by omega, by omega, by rw [Int.mul_comm]; omega, HQ2.out, HB3.out⟩
            case measure => simp [intOf]; omega
        · have hhl : hi = lo + 1 := by omega
          subst hhl
          have HMI := Lib.hid (HM2.out.later HBQ.out)
          have hjl : j < LQ.length := by rw [HL.out]; omega
          have hcl := HMI.out.cell hjl
          have hfl := HMI.out.free j
          have hjm : j < m := by omega
          have HW1 : Hid (RowKit.Below w.heap.size w (wr.setCell ⟨w.heap.size, j, none⟩ (.int .i64 lo))) := HBW.out.setCell (Nat.le_refl _) _
          have HMW : Hid (Mem (wr.setCell ⟨w.heap.size, j, none⟩ (.int .i64 lo)) w.heap.size (LQ.set j lo)) := HMI.out.set hjl lo
          have HIW : Hid (Ints (wr.setCell ⟨w.heap.size, j, none⟩ (.int .i64 lo)) (.slice a2 nS q2) (digs S.toNat)) := (HI2.out.later HBQ.out).set (HN2.out w.heap.size (by omega)) j _
          have hgs : w.heap.size < (wr.setCell ⟨w.heap.size, j, none⟩ (.int .i64 lo)).heap.size := HMW.out.lt
          have hx : val (x.drop j) = val ((LQ.set j lo).drop j) * Y + (S - Y * lo) := by
            rw [val_drop x j, val_drop (LQ.set j lo) j, getD_set_eq hjl, List.drop_set_of_lt (by omega), HED.out]
            exact over_step HV.out rfl HES.out.symm
          have HXV := Lib.hid hx
          have hq1 := HQ1.out
          have hq2 := HQ2.out
          have hc1 : Y * lo = lo * Y := Int.mul_comm _ _
          have hc2 : (lo + 1) * Y = lo * Y + Y := by rw [Int.add_mul, Int.one_mul]
          have hp : 0 ≤ Y * lo := Int.mul_nonneg (by have := H0.out; omega) hlo
          have hend : 0 ≤ S - Y * lo ∧ S - Y * lo < Y ∧ Y * lo ≤ S := by omega
          have HEND := Lib.hid hend
          have HP := Lib.hid hp
          clear hx hend hp hq1 hq2 hc1 hc2 hgap
          go_wp2_with fail
          have hws : (wr.setCell ⟨w.heap.size, j, none⟩ (.int .i64 lo)).heap.size = wr.heap.size := by simp
          obtain ⟨W1, eW1⟩ : ∃ W : World, wr.setCell ⟨w.heap.size, j, none⟩ (.int .i64 lo) = W := ⟨_, rfl⟩
          rw [eW1] at HW1 HMW HIW hgs hws ⊢
          clear eW1 hcl hfl
          have ht := rtrim_any (some ⟨W1.heap.size, 0, none⟩) 1 [lo] (one_dig (by omega) (by omega)) (W1.alloc (.cells #[.int .i64 lo] 3)) (one_ints W1 lo) (by simp)
          rw [show [lo].length = 1 from rfl, hws] at ht
          have HWS := Lib.hid hws
          clear hws
          with_reducible refine ht.mono ?_
          clear ht
          rintro e w5 ⟨v5, rfl, ho5, hb5, hf5⟩
          rw [one_val] at ho5
          have B5 : RowKit.Below W1.heap.size W1 w5 := (below_alloc _ _).trans (hb5.mono (by simp))
          have hl5 : (digs lo.toNat).length ≤ 1 := digs_le (by simp [P]; omega)
          have HI5 := Lib.hid (ho5.ints (by omega))
          have HB5 := Lib.hid B5
          obtain ⟨a5, q5, rfl⟩ := ho5.fit
          obtain ⟨n5, en5⟩ : ∃ l, (digs lo.toNat).length = l := ⟨_, rfl⟩
          rw [en5] at HI5 ⊢
          clear ho5 hb5 hf5 B5
          go_wp2_with fail
          refine (rtimes_any _ _ y (digs lo.toNat) HDY.out (digs_dig _) _ (HY.out.later (HW1.out.trans (HB5.out.mono HW1.out.size))) HI5.out (by rw [HEY.out]; omega) (by omega)).mono ?_
          rintro e w6 ⟨v6, rfl, ho6, hb6, hf6⟩
          rw [HVY.out, nat_val hlo] at ho6
          have B6 : RowKit.Below W1.heap.size W1 w6 := HB5.out.trans (hb6.mono HB5.out.size)
          have HB6 := Lib.hid B6
          have hl6 : (digs (Y * lo).toNat).length ≤ n + 1 := digs_le (by have := HEND.out; have := HP.out; have := HYP.out; rw [P_succ]; omega)
          have HI6 := Lib.hid (ho6.ints (by omega))
          obtain ⟨a6, q6, rfl⟩ := ho6.fit
          obtain ⟨n6, en6⟩ : ∃ l, (digs (Y * lo).toNat).length = l := ⟨_, rfl⟩
          rw [en6] at HI6 ⊢
          clear ho6 hb6 hf6 B6 hl6 en6
          go_wp2_with fail
          refine (rminus_any _ _ (digs S.toNat) (digs (Y * lo).toNat) (digs_dig _) (digs_dig _) (by rw [nat_val hS0.1, nat_val HP.out]; exact HEND.out.2.2) _ (HIW.out.later HB6.out) HI6.out (by have := HIW.out.shape.1; have := HLS.out; omega)).mono ?_
          rintro e w7 ⟨v7, rfl, ho7, hb7, hf7⟩
          rw [nat_val hS0.1, nat_val HP.out] at ho7
          have B7 : RowKit.Below W1.heap.size W1 w7 := HB6.out.trans (hb7.mono HB6.out.size)
          have HB7 := Lib.hid B7
          have HO7 := Lib.hid ho7
          have HF7 : Hid (∀ b, blk v7 = some b → w.heap.size + 1 ≤ b) := fun b h => by have h1 := hf7 b h; have h2 := HB6.out.size; omega
          clear ho7 hb7 hf7 B7
          go_wp2_with fail
          go_roundw
          case rel => exact ⟨j, LQ.set j lo, S - Y * lo, by omega, rfl, HMW.out.later HB7.out, HO7.out, HF7.out, HW1.out.trans (HB7.out.mono HW1.out.size), by rw [List.length_set]; exact HL.out, HD.out.set j (by omega) (by omega), HEND.out.1, HEND.out.2.1, HXV.out⟩
          case measure => simp [intOf]
end Go.Proofs.Ytmhjejnkphdjpaa.Bi

namespace Go.Proofs.Ytmhjejnkphdjpaa.Bi
open Go.RowKit

theorem risb_any {v : Value} {z : Int} {w : World} (h : IsB w v z) : Calls Try.prog 58 #[v] w fun e w' => e = .returned (.bool true) ∧ RowKit.Below w.heap.size w w' := by
  have := rright_any v _ _ w h.arg
  rwa [right_is] at this
section
variable {vx vy : Value} {x y : Nat} {w : World}
theorem rplus_n (vx vy : Value) (x y : Nat) (w : World) (hx : Ints w vx (digs x)) (hy : Ints w vy (digs y)) (hlx : (digs x).length ≤ 1000000) (hly : (digs y).length ≤ 1000000) :
    Calls Try.prog 67 #[vx, vy] w (Copy (digs (x + y)) w) := by
  have := rplus_any vx vy _ _ (digs_dig x) (digs_dig y) w hx hy hlx hly
  rwa [digs_val, digs_val, show ((x : Int) + (y : Int)).toNat = x + y by omega] at this
theorem rminus_n (vx vy : Value) (x y : Nat) (hle : y ≤ x) (w : World) (hx : Ints w vx (digs x)) (hy : Ints w vy (digs y)) (hlx : (digs x).length ≤ 1000000) :
    Calls Try.prog 68 #[vx, vy] w (Copy (digs (x - y)) w) := by
  have := rminus_any vx vy _ _ (digs_dig x) (digs_dig y) (by rw [digs_val, digs_val]; omega) w hx hy hlx
  rwa [digs_val, digs_val, show ((x : Int) - (y : Int)).toNat = x - y by omega] at this
theorem rtimes_n (vx vy : Value) (x y : Nat) (w : World) (hx : Ints w vx (digs x)) (hy : Ints w vy (digs y)) (hlx : (digs x).length ≤ 1000000) (hly : (digs y).length ≤ 1000000) :
    Calls Try.prog 61 #[vx, vy] w (Copy (digs (x * y)) w) := by
  have := rtimes_any vx vy _ _ (digs_dig x) (digs_dig y) w hx hy hlx hly
  rwa [digs_val, digs_val, show ((x : Int) * (y : Int)).toNat = x * y by rw [← Int.natCast_mul]; exact Int.toNat_natCast _] at this
theorem rless_n (vx vy : Value) (x y : Nat) (w : World) (hx : Ints w vx (digs x)) (hy : Ints w vy (digs y)) :
    Calls Try.prog 63 #[vx, vy] w fun e w' => e = .returned (.bool (decide (x < y))) ∧ w = w' := by
  have := rless_any vx vy _ _ (digs_dig x) (digs_dig y) w hx hy
  rwa [digs_val, digs_val, decide_eq_decide.2 (show (x : Int) < (y : Int) ↔ x < y by omega)] at this
/-- A call that returns quotient and remainder, in blocks of their own. -/
def OverN (x y : Nat) (w : World) (e : Ending) (w' : World) : Prop := ∃ vq vr, e = .returned (.tuple #[vq, vr]) ∧ OwnI w' vq (digs (x / y)) ∧ OwnI w' vr (digs (x % y)) ∧ RowKit.Below w.heap.size w w' ∧ (∀ b, blk vq = some b → w.heap.size ≤ b) ∧ ∀ b, blk vr = some b → w.heap.size ≤ b
theorem rover_n (vx vy : Value) (x y : Nat) (w : World) (hx : Ints w vx (digs x)) (hy : Ints w vy (digs y)) (hlx : (digs x).length ≤ 1000000) (hly : (digs y).length ≤ 900000) (h0 : 0 < y) :
    Calls Try.prog 82 #[vx, vy] w (OverN x y w) := by
  have := rover_any vx vy _ _ (digs_dig x) (digs_dig y) w hx hy hlx hly (by rw [digs_val]; omega)
  unfold Over at this
  rw [digs_val, digs_val, show ((x : Int) / (y : Int)).toNat = x / y by rw [← Int.natCast_ediv]; exact Int.toNat_natCast _, show ((x : Int) % (y : Int)).toNat = x % y by rw [← Int.natCast_emod]; exact Int.toNat_natCast _] at this
  exact this
theorem rmade_n (sg : Int) (a : Option Addr) (cap m : Nat) (n : Int) (hv : n.natAbs = m) (hs : n ≠ 0 → sg = n.sign) (w : World) (h : Ints w (.slice a (digs m).length cap) (digs m)) (hl : (digs m).length ≤ 100000000) :
    Calls Try.prog 60 #[.int .i64 sg, .slice a (digs m).length cap] w (AnsB n w) :=
  rmade_any sg a cap _ (digs_dig m) n (by rw [digs_val, hv]) hs w h hl
end

set_option maxHeartbeats 4000000 in
theorem rmul_ok (va vb : Value) (a b : Int) (w : World) (ha : IsB w va a) (hb : IsB w vb b) (hla : (digs a.natAbs).length ≤ 1000000) (hlb : (digs b.natAbs).length ≤ 1000000) :
    Calls Try.prog 43 #[va, vb] w (Ans (a * b) 0 w) := by
  obtain ⟨sa, rfl, hia⟩ := id ha
  obtain ⟨sb, rfl, hib⟩ := id hb
  have HA := Lib.hid ha
  have HB := Lib.hid hb
  have HIA := Lib.hid hia
  have HIB := Lib.hid hib
  obtain ⟨aa, na, ca, rfl⟩ : ∃ aa na ca, sa = .slice aa na ca := by obtain ⟨x, y, z, _⟩ := hia; exact ⟨_, _, _, z⟩
  obtain ⟨ab, nb, cb, rfl⟩ : ∃ aa na ca, sb = .slice aa na ca := by obtain ⟨x, y, z, _⟩ := hib; exact ⟨_, _, _, z⟩
  have hw : IntKind.i64.wrap (a.sign * b.sign) = (a * b).sign := by
    rw [IntWalk.i64_in _ (by have := sign_bd a b; omega), Int.sign_mul]
  have hlp : (digs (a.natAbs * b.natAbs)).length ≤ 100000000 := by
    have := Sz.mul (Sz.of hla) (Sz.of hlb)
    unfold Sz at this
    rw [Int.natAbs_mul] at this
    exact Nat.le_trans (digs_le this) (by omega)
  have hpn : (a * b).natAbs = a.natAbs * b.natAbs := Int.natAbs_mul a b
  obtain ⟨p, ep⟩ : ∃ p, a * b = p := ⟨_, rfl⟩
  rw [ep] at hw hpn ⊢
  have HPN := Lib.hid hpn
  have HLP := Lib.hid hlp
  clear ep hpn hlp
  have hx := Bx.start w a.sign (.slice aa na ca) b.sign (.slice ab nb cb)
  have HX0 := Lib.hid hx
  clear ha hb hia hib hx
  go_enter Try.func43, Try.ntmps43
  go_wp2_with fail
  refine (risb_any (HA.out.later HX0.out.below)).mono ?_
  rintro e w1 ⟨rfl, hb1⟩
  have HX1 := Lib.hid (HX0.out.later hb1)
  obtain ⟨c00, c01, c10, c11⟩ := HX1.out.cells
  clear hb1
  go_wp2_with fail
  refine (risb_any (HB.out.later HX1.out.below)).mono ?_
  rintro e w2 ⟨rfl, hb2⟩
  have HX2 := Lib.hid (HX1.out.later hb2)
  obtain ⟨d00, d01, d10, d11⟩ := HX2.out.cells
  clear hb2 c00 c01 c10 c11
  go_wp2_with fail
  have HXD := Lib.hid (HX2.out.heap (W' := w2.drew) rfl rfl rfl rfl)
  have e2 := HXD.out.cells
  clear d00 d01 d10 d11
  go_region_held3 (fun W => W.cell? ⟨w.heap.size, 0, none⟩ = some (.int .i64 a.sign) ∧ W.cell? ⟨w.heap.size, 1, none⟩ = some (.slice aa na ca) ∧ W.cell? ⟨w.heap.size + 1, 0, none⟩ = some (.int .i64 b.sign) ∧ W.cell? ⟨w.heap.size + 1, 1, none⟩ = some (.slice ab nb cb))
    (first | exact e2 | exact x3 | exact x4 | exact HX4.out.stays _ _)
    (first
      | (go_at_call 61; (with_reducible refine (rtimes_n _ _ a.natAbs b.natAbs _ ?_ ?_ hla hlb).mono ?_); (focus exact HIA.out.later HXD.out.below); (focus exact HIB.out.later HXD.out.below); rintro e w3 ⟨v3, rfl, ho3, hb3, hf3⟩; obtain ⟨ax, cx, rfl⟩ := ho3.fit; have HX3 := Lib.hid (HXD.out.later hb3); have x3 := HX3.out.cells; have HI3 := Lib.hid (ho3.ints (Nat.le_trans HLP.out (by decide))); clear ho3 hb3 hf3)
      | (go_at_call 60; (with_reducible refine (rmade_n _ ax cx _ p HPN.out (fun _ => rfl) _ HI3.out HLP.out).mono ?_); rintro e w4 ⟨s4, rfl, hi4, hb4, ho4⟩; obtain ⟨a5, c5, rfl, hi5⟩ := hi4.open; have HO4 := Lib.hid (ho4.mono HX3.out.below.size); have HZ4 := Lib.hid (ho4.mono HX3.out.size); have HX4 := Lib.hid (HX3.out.later hb4); have x4 := HX4.out.cells; have HI5 := Lib.hid hi5; clear hi4 hi5 hb4 ho4; obtain ⟨r0, r1, f0, f1⟩ := HX4.out.rcells))
  go_wp2_with fail
  have hoff := HZ4.out (w.heap.size + 1 + 1) (by simp)
  exact bodyPost_ret (v := .tuple #[.agg #[.int .i64 p.sign, .slice a5 (digs p.natAbs).length c5], .int .i64 0]) (by simp [results, Try.results43, go_sem, r0, r1]) rfl
    ⟨_, rfl, (HI5.out.set hoff 0 _).set hoff 1 _, HX4.out.put _ _, HO4.out⟩
end Go.Proofs.Ytmhjejnkphdjpaa.Bi
