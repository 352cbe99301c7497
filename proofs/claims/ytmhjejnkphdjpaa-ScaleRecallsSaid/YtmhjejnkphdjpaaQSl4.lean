/- The law ScaleOthers. -/
import Derived.Test.YtmhjejnkphdjpaaPB28
import Derived.OrdersHeld
import Derived.Test.YtmhjejnkphdjpaaPB29
import Derived.Test.YtmhjejnkphdjpaaLaw
import Derived.Test.YtmhjejnkphdjpaaRows
import Derived.ProofKit
import Derived.Test.YtmhjejnkphdjpaaQSl2
set_option maxRecDepth 100000
namespace Go.Proofs.Ytmhjejnkphdjpaa.Sc
open Go.RowKit Bi

/-- A slice of records that grows: it has turned nothing that stood in W0. -/
structure Grow (W0 W : World) (e n : Nat) (a : Option Addr) (j cap : Nat) (L : List (Nat → Int)) : Prop where
  own : OwnR W e n (.slice a j cap) L
  len : L.length = j
  below : RowKit.Below W0.heap.size W0 W
  ge : ∀ g, Dm.blk (.slice a j cap) = some g → W0.heap.size ≤ g
theorem Grow.later {W0 W W' : World} {e n : Nat} {a : Option Addr} {j cap : Nat} {L : List (Nat → Int)} (h : Grow W0 W e n a j cap L) (hb : RowKit.Below W.heap.size W W') : Grow W0 W' e n a j cap L :=
  ⟨h.own.later hb, h.len, h.below.trans (hb.mono h.below.size), h.ge⟩
theorem Grow.recs {W0 W : World} {e n : Nat} {a : Option Addr} {j cap : Nat} {L : List (Nat → Int)} (h : Grow W0 W e n a j cap L) : Rc.Recs n W a L := by
  obtain ⟨h1, rfl, _, _⟩ := h
  exact h1.recs
theorem Grow.nil {W0 W : World} (e n : Nat) (a : Option Addr) (hb : RowKit.Below W0.heap.size W0 W) : Grow W0 W e n a 0 0 [] :=
  ⟨OwnR.nil W e n a, rfl, hb, fun g hg => by rw [Dm.blk_zero] at hg; cases hg⟩
theorem Grow.app {W0 W : World} {e n t : TypeId} {a : Option Addr} {j cap : Nat} {L m : List (Nat → Int)} {x : Value} (h : Grow W0 W e n a j cap L) (ht : Try.prog.underlying t = some (.slice e)) (hi : (Try.prog.info? e).map (fun i => (i.zero.map (fun z => z.cells.size), i.size, decide (i.bytes ≤ 1000))) = some (some n, n, true))
    (hs : Src Try.prog n t x m.length (flat n m) W) (hl : j + m.length ≤ 1000000) :
    ∃ a' cap' w', (∀ ty, (Builtin.append_ #[t, t] ty #[.slice a j cap, x]).run Try.prog W = .ok (.slice a' (j + m.length) cap') w') ∧ Grow W0 w' e n a' (j + m.length) cap' (L ++ m) ∧ (RowKit.Below W.heap.size W w' ∨ ∃ g, Dm.blk (.slice a j cap) = some g ∧ W.grownBy w' (some g)) := by
  obtain ⟨h1, rfl, h3, h4⟩ := h
  obtain ⟨a', cap', w', hr, g1, g2, g3⟩ := OwnR.app h1 ht hi hs hl
  rw [List.length_append] at hr g1 g3
  have hb : RowKit.Below W0.heap.size W0 w' := ⟨g2.os.trans h3.os, g2.tape.trans h3.tape, g2.output.trans h3.output, Nat.le_trans h3.size g2.size, fun k hk => by
    rw [g2.block k (Nat.lt_of_lt_of_le hk h3.size) (fun e => by have := h4 k e.symm; omega)]
    exact h3.block k hk⟩
  refine ⟨a', cap', w', hr, ⟨g1, by rw [List.length_append], hb, fun g hg => ?_⟩, ?_⟩
  · rcases g3 with g4 | g4 | g4
    · rw [g4] at hg; cases hg
    · rw [g4] at hg; exact h4 g hg
    · rw [g4] at hg; cases hg; exact h3.size
  · cases hbk : Dm.blk (.slice a L.length cap) with
    | none => rw [hbk] at g2; exact .inl ⟨g2.os, g2.tape, g2.output, g2.size, fun k hk => g2.block k hk (by simp)⟩
    | some g => rw [hbk] at g2; exact .inr ⟨g, rfl, g2⟩
theorem one_src {W : World} {b : Nat} {c : Ct} (h : Fb (b, 25, [.int .i64 c.sc, .int .i64 c.fr, .int .i64 c.un, .int .i64 c.ut, .int .i64 c.pm, .int .i64 c.dr]) W) : Src Try.prog 6 22 (.slice (some ⟨b, 0, none⟩) 1 1) [c.row].length (flat 6 [c.row]) W :=
  rec_src Try.underlying22 (by decide) (cap := 1) (OwnR.recs (cap := 1) (l := [c.row]) (OwnR.one h)) (fun e => by cases e)
theorem OwnR.oneR {W : World} {b : Nat} {x : Int × Int} (h : Fb (b, 52, [.int .i64 x.1, .int .i64 x.2]) W) : OwnR W 52 2 (.slice (some ⟨b, 0, none⟩) 1 1) [rrow x] :=
  ⟨by rw [flat_len], .inr ⟨b, 1, #[.int .i64 x.1, .int .i64 x.2], rfl, h, Nat.le_refl _, by decide, by unfold maxLen; omega, rfl, rfl⟩⟩
theorem one_srcR {W : World} {b : Nat} {x : Int × Int} (h : Fb (b, 52, [.int .i64 x.1, .int .i64 x.2]) W) : Src Try.prog 2 23 (.slice (some ⟨b, 0, none⟩) 1 1) [rrow x].length (flat 2 [rrow x]) W :=
  rec_src Try.underlying23 (by decide) (cap := 1) (OwnR.recs (cap := 1) (l := [rrow x]) (OwnR.oneR h)) (fun e => by cases e)
/-- One more certificate, that lies in a new array of its own. -/
theorem Grow.snocC {W0 W : World} {a : Option Addr} {j cap : Nat} {L : List (Nat → Int)} (h : Grow W0 W 25 6 a j cap L) (c : Ct) (hl : j ≤ 1000) :
    ∃ a' cap' w', (∀ ty, (Builtin.append_ #[22, 22] ty #[.slice a j cap, .slice (some ⟨W.heap.size, 0, none⟩) 1 1]).run Try.prog (W.alloc (.cells #[.int .i64 c.sc, .int .i64 c.fr, .int .i64 c.un, .int .i64 c.ut, .int .i64 c.pm, .int .i64 c.dr] 25)) = .ok (.slice a' (j + 1) cap') w') ∧ Grow W0 w' 25 6 a' (j + 1) cap' (L ++ [c.row]) := by
  have h1 := h.later (below_alloc W (.cells #[.int .i64 c.sc, .int .i64 c.fr, .int .i64 c.un, .int .i64 c.ut, .int .i64 c.pm, .int .i64 c.dr] 25))
  obtain ⟨a', cap', w', hr, hg, _⟩ := h1.app Try.underlying22 infoC3 (one_src (c := c) (alloc_at W _)) (by simp; omega)
  exact ⟨a', cap', w', hr, hg⟩
theorem Grow.snocR {W0 W : World} {a : Option Addr} {j cap : Nat} {L : List (Nat → Int)} (h : Grow W0 W 52 2 a j cap L) (x : Int × Int) (hl : j ≤ 1000) :
    ∃ a' cap' w', (∀ ty, (Builtin.append_ #[23, 23] ty #[.slice a j cap, .slice (some ⟨W.heap.size, 0, none⟩) 1 1]).run Try.prog (W.alloc (.cells #[.int .i64 x.1, .int .i64 x.2] 52)) = .ok (.slice a' (j + 1) cap') w') ∧ Grow W0 w' 52 2 a' (j + 1) cap' (L ++ [rrow x]) := by
  have h1 := h.later (below_alloc W (.cells #[.int .i64 x.1, .int .i64 x.2] 52))
  obtain ⟨a', cap', w', hr, hg, _⟩ := h1.app Try.underlying23 infoR3 (one_srcR (x := x) (alloc_at W _)) (by simp; omega)
  exact ⟨a', cap', w', hr, hg⟩
/-! ## What the filters keep -/
def fc (s d : Int) (l : List Ct) : List (Nat → Int) := (l.filter fun c => c.cov s d).map Ct.row
def fr' (s : Int) (l : List (Int × Int)) : List (Nat → Int) := (l.filter fun x => decide (x.1 = s)).map rrow
theorem fc_yes {s d : Int} {l : List Ct} {k : Nat} {c : Ct} (h : l[k]? = some c) (hc : c.cov s d = true) : fc s d (l.take (k + 1)) = fc s d (l.take k) ++ [c.row] := by
  unfold fc; rw [take_snoc h, List.filter_append]; simp [hc]
theorem fc_no {s d : Int} {l : List Ct} {k : Nat} {c : Ct} (h : l[k]? = some c) (hc : c.cov s d = false) : fc s d (l.take (k + 1)) = fc s d (l.take k) := by
  unfold fc; rw [take_snoc h, List.filter_append]; simp [hc]
theorem fr_yes {s : Int} {l : List (Int × Int)} {k : Nat} {x : Int × Int} (h : l[k]? = some x) (hx : (x.1 == s) = true) : fr' s (l.take (k + 1)) = fr' s (l.take k) ++ [rrow x] := by
  unfold fr'; rw [List.take_add_one, h, List.filter_append]
  have : decide (x.1 = s) = true := by simpa using hx
  simp [this]
theorem fr_no {s : Int} {l : List (Int × Int)} {k : Nat} {x : Int × Int} (h : l[k]? = some x) (hx : (x.1 == s) = false) : fr' s (l.take (k + 1)) = fr' s (l.take k) := by
  unfold fr'; rw [List.take_add_one, h, List.filter_append]
  have : decide (x.1 = s) = false := by simpa using hx
  simp [this]
theorem fB_map (s d : Int) (l : List Ct) : fB s d l = ((fnd s d l).map (·.2)).isSome := by unfold fB; simp
theorem fC_map (s d : Int) (l : List Ct) : fC s d l = (((fnd s d l).map (·.2)).getD ⟨0, 0, 0, 0, 0, 0⟩) := by
  unfold fC; cases fnd s d l <;> rfl
theorem iv_filter (s r d : Int) (l : List Ct) (rl : List (Int × Int)) : ivB s r d (l.filter fun c => c.cov s d) (rl.filter fun x => decide (x.1 = s)) = ivB s r d l rl ∧ ivL s r d (l.filter fun c => c.cov s d) (rl.filter fun x => decide (x.1 = s)) = ivL s r d l rl ∧ ivH s r d (l.filter fun c => c.cov s d) (rl.filter fun x => decide (x.1 = s)) = ivH s r d l rl := by
  have e1 : fB s d (l.filter fun c => c.cov s d) = fB s d l := by rw [fB_map, fB_map, fnd_filter]
  have e2 : fC s d (l.filter fun c => c.cov s d) = fC s d l := by rw [fC_map, fC_map, fnd_filter]
  have e3 : ivB s r d (l.filter fun c => c.cov s d) (rl.filter fun x => decide (x.1 = s)) = ivB s r d l rl := by unfold ivB; rw [e1, recB_filter]
  refine ⟨e3, ?_, ?_⟩
  · unfold ivL; rw [e3, e2]
  · unfold ivH; rw [e3, e2]
theorem found_len (s d : Int) (l : List Ct) {j : Nat} (hj : (fc s d l).length = j) : decide (0 < j) = fB s d l := by
  have h1 : fB s d l = false ↔ ∀ c ∈ l, c.cov s d = false := by
    rw [← fnd_none]; unfold fB; simp
  have h2 : j = 0 ↔ ∀ c ∈ l, c.cov s d = false := by
    rw [← hj]; unfold fc
    simp
  rcases hb : fB s d l with _ | _
  · have := h2.2 (h1.1 hb)
    simp [this]
  · have : j ≠ 0 := fun e => by rw [h1.2 (h2.1 e)] at hb; cases hb
    simp; omega

set_option maxHeartbeats 4000000 in
theorem others_no {a a2 : Option Addr} {n cap m cap2 : Nat} {s r d : Int} {w : World} (hn : n ≤ 9223372036854775807) (hm : m ≤ 9223372036854775807) (hno : (decide ((n : Int) ≤ 120) && decide ((m : Int) ≤ 60)) = false) : Calls Try.prog 6 #[.slice a n cap, .slice a2 m cap2, .int .i64 s, .int .i64 r, .int .i64 d] w (Gv (.bool true) w) := by
  have HN := Lib.hid hn
  have HM := Lib.hid hm
  have HF := Lib.hid hno
  have s0 := (Sf.start w)
  try simp only [World.size_alloc] at s0
  have S0 := Lib.hid s0
  clear s0
  clear hn hm hno
  go_enter Try.func6, Try.ntmps6
  go_wp2_with fail
  refine (sane_any).mono ?_
  rintro e w1 ⟨rfl, hb⟩
  have R1 := Lib.hid (S0.out.later hb)
  clear hb
  go_wp2_with fail
  refine (few_any HN.out HM.out HF.out).mono ?_
  rintro e w2 ⟨rfl, rfl⟩
  go_wp2_with fail
  go_ret
  exact ⟨rfl, R1.out.below⟩

set_option maxHeartbeats 64000000 in
theorem others_good {a a2 : Option Addr} {n cap m cap2 : Nat} {l : List Ct} {rl : List (Int × Int)} {s r d : Int} {w : World} (hc : Cs w a l) (hn : l.length = n) (hl : n ≤ 120) (hr : Rs w a2 rl) (hm : rl.length = m) (hl2 : m ≤ 60) : Calls Try.prog 6 #[.slice a n cap, .slice a2 m cap2, .int .i64 s, .int .i64 r, .int .i64 d] w (Gv (.bool true) w) := by
  have HC := Lib.hid hc
  have HN := Lib.hid hn
  have HR := Lib.hid hr
  have HM := Lib.hid hm
  have HL : Hid (n ≤ 1000000) := Lib.hid (by omega)
  have HL2 : Hid (m ≤ 1000000) := Lib.hid (by omega)
  have HNB : Hid (n ≤ 9223372036854775807) := Lib.hid (by omega)
  have HMB : Hid (m ≤ 9223372036854775807) := Lib.hid (by omega)
  have HF : Hid ((decide ((n : Int) ≤ 120) && decide ((m : Int) ≤ 60)) = true) := Lib.hid (by simp; omega)
  have HL120 := Lib.hid hl
  have HL60 := Lib.hid hl2
  obtain ⟨D1, hd1⟩ : ∃ D, ivL s r d l rl = D := ⟨_, rfl⟩
  obtain ⟨D2, hd2⟩ : ∃ D, ivH s r d l rl = D := ⟨_, rfl⟩
  obtain ⟨kk, hdk⟩ : ∃ b, ivB s r d l rl = b := ⟨_, rfl⟩
  have HD1 := Lib.hid hd1
  have HD2 := Lib.hid hd2
  have HDK := Lib.hid hdk
  have HFL := Lib.hid (iv_filter s r d l rl)
  obtain ⟨i, hfi⟩ : ∃ i, fI s d l = i := ⟨_, rfl⟩
  obtain ⟨fb, hfb⟩ : ∃ b, fB s d l = b := ⟨_, rfl⟩
  have HFI := Lib.hid hfi
  have HFB := Lib.hid hfb
  clear hfi hfb hd1 hd2 hdk
  have s0 := (Sf.start w)
  try simp only [World.size_alloc] at s0
  have S0 := Lib.hid s0
  clear s0
  clear hc hn hl hr hm hl2
  go_enter Try.func6, Try.ntmps6
  go_wp2_with fail
  refine (sane_any).mono ?_
  rintro e w1 ⟨rfl, hb⟩
  have R1 := Lib.hid (S0.out.later hb)
  clear hb
  go_wp2_with fail
  refine (few_any HNB.out HMB.out HF.out).mono ?_
  rintro e w2 ⟨rfl, rfl⟩
  obtain ⟨V0, rfl⟩ : ∃ z, z = w2 := ⟨_, rfl⟩
  have HW1 := Lib.hid R1.out.below
  clear R1 S0
  go_wp2_with fail
  go_loopw [12, 13] (fun x t wr => ∃ (k j : Nat) (a' : Option Addr) (cap' : Nat), k ≤ n ∧ t = .int .i64 (k : Int) ∧ x = .slice a' j cap' ∧ Grow V0 wr 25 6 a' j cap' (fc s d (l.take k))) (fun _ t _ => n - (RowKit.intOf t).toNat)
  case atStart => exact ⟨0, 0, _, 0, by omega, rfl, rfl, Grow.nil _ _ _ (below_alloc _ _)⟩
  case round =>
    obtain ⟨k, j, a', cap', hk, rfl, rfl, hG⟩ := hrel
    have HG := Lib.hid hG
    have HB := Lib.hid (HW1.out.trans (hG.below.mono HW1.out.size))
    clear hG
    by_cases hlt : k < n
    · have hkl : k < l.length := by rw [HN.out]; exact hlt
      obtain ⟨c, hc⟩ : ∃ c, l[k]? = some c := ⟨_, List.getElem?_eq_getElem hkl⟩
      have HK := Lib.hid hc
      obtain ⟨b, o, rfl, hb, hcells⟩ := HC.out.at hc
      have HX := Lib.hid hcells
      have hlt2 : decide ((k : Int) < (n : Int)) = true := by simp; omega
      have hw1 : IntKind.i64.wrap ((k : Int) + 1) = (k : Int) + 1 := IntWalk.i64_in _ (by have := HL.out; omega)
      have hat := fun W => cert_at b o n cap k hlt W
      have hj : j ≤ 1000 := by
        have e1 := HG.out.len
        have e2 : (fc s d (l.take k)).length ≤ (l.take k).length := by unfold fc; rw [List.length_map]; exact List.length_filter_le _ _
        have e3 : (l.take k).length ≤ l.length := by rw [List.length_take]; exact Nat.min_le_right _ _
        have := HL120.out
        have := HN.out
        omega
      have HJ := Lib.hid hj
      obtain ⟨q, hq⟩ : ∃ z, c.ok = z := ⟨_, rfl⟩
      have HQ := Lib.hid hq
      obtain ⟨x0, x1, x2, x3, x4, x5⟩ := HX.out _ HB.out
      clear hcells hc hkl hq hj hb
      go_wp2_with fail
      clear x0 x1 x2 x3 x4 x5
      refine (right_any HQ.out).mono ?_
      rintro e w2 ⟨rfl, hb⟩
      have HG2 := Lib.hid (HG.out.later hb)
      have HB2 := Lib.hid (HB.out.trans (hb.mono HB.out.size))
      clear hb
      obtain ⟨x0, x1, x2, x3, x4, x5⟩ := HX.out _ HB2.out
      cases q
      case false =>
        go_wp2_with fail
        go_roundw
        case rel => exact ⟨k + 1, j, _, _, by omega, by go_num, rfl, by rw [fc_no HK.out (cov_q HQ.out)]; exact HG2.out⟩
        case measure => simp [RowKit.intOf]; omega
      rcases hsc : (c.sc == s) with _ | _
      · go_wp2_with fail
        go_roundw
        case rel => exact ⟨k + 1, j, _, _, by omega, by go_num, rfl, by rw [fc_no HK.out (cov_s hsc)]; exact HG2.out⟩
        case measure => simp [RowKit.intOf]; omega
      rcases hfr : decide (c.fr ≤ d) with _ | _
      · go_wp2_with fail
        go_roundw
        case rel => exact ⟨k + 1, j, _, _, by omega, by go_num, rfl, by rw [fc_no HK.out (cov_d (by rw [hfr]; rfl))]; exact HG2.out⟩
        case measure => simp [RowKit.intOf]; omega
      rcases hun : decide (d ≤ c.un) with _ | _
      · go_wp2_with fail
        go_roundw
        case rel => exact ⟨k + 1, j, _, _, by omega, by go_num, rfl, by rw [fc_no HK.out (cov_d (by rw [hfr, hun]; rfl))]; exact HG2.out⟩
        case measure => simp [RowKit.intOf]; omega
      · have HCV := Lib.hid (cov_t (s := s) (d := d) HQ.out hsc (by rw [hfr, hun]; rfl))
        obtain ⟨a3, cap3, w3, hrun, hgr⟩ := HG2.out.snocC c HJ.out
        have HG3 := Lib.hid hgr
        clear hgr
        go_wp2_with (at_builtin; refine Lib.wpList_append_run _ rfl _ _ _ _ rfl _ _ rfl rfl _ _ (hrun _) ?_)
        clear x0 x1 x2 x3 x4 x5 hrun
        go_roundw
        case rel => exact ⟨k + 1, j + 1, _, _, by omega, by go_num, rfl, by rw [fc_yes HK.out HCV.out]; exact HG3.out⟩
        case measure => simp [RowKit.intOf]; omega
    · obtain rfl : k = n := by omega
      have ek : l.take k = l := by rw [← HN.out, List.take_length]
      rw [ek] at HG
      have hlt2 : decide ((k : Int) < (k : Int)) = false := by simp
      have hlt3 : decide (k < k) = false := by simp
      obtain ⟨j1, rfl⟩ : ∃ z, z = j := ⟨_, rfl⟩
      obtain ⟨a1, rfl⟩ : ∃ z, z = a' := ⟨_, rfl⟩
      obtain ⟨cap1, rfl⟩ : ∃ z, z = cap' := ⟨_, rfl⟩
      obtain ⟨V1, rfl⟩ : ∃ z, z = wr := ⟨_, rfl⟩
      have HG1 := HG
      have HB1 := HB
      clear HG HB ek hk hlt
      go_wp2_with fail
      go_loopw [14, 15] (fun x t wr => ∃ (p j : Nat) (a' : Option Addr) (cap' : Nat), p ≤ m ∧ t = .int .i64 (p : Int) ∧ x = .slice a' j cap' ∧ Grow V1 wr 52 2 a' j cap' (fr' s (rl.take p))) (fun _ t _ => m - (RowKit.intOf t).toNat)
      case atStart => exact ⟨0, 0, _, 0, by omega, rfl, rfl, Grow.nil _ _ _ (below_alloc _ _)⟩
      case round =>
        obtain ⟨p, j, a', cap', hp, rfl, rfl, hG⟩ := hrel
        have HG := Lib.hid hG
        have HB := Lib.hid (HB1.out.trans (hG.below.mono HB1.out.size))
        clear hG
        by_cases hlt : p < m
        · have hkl : p < rl.length := by rw [HM.out]; exact hlt
          obtain ⟨c, hc⟩ : ∃ c, rl[p]? = some c := ⟨_, List.getElem?_eq_getElem hkl⟩
          have HK := Lib.hid hc
          obtain ⟨b, o, rfl, hb, hcells⟩ := HR.out.at hc
          have HX := Lib.hid hcells
          have hlt4 : decide ((p : Int) < (m : Int)) = true := by simp; omega
          have hw1 : IntKind.i64.wrap ((p : Int) + 1) = (p : Int) + 1 := IntWalk.i64_in _ (by have := HL2.out; omega)
          have hat := fun W => recall_at b o m cap2 p hlt W
          have hj : j ≤ 1000 := by
            have e1 := HG.out.len
            have e2 : (fr' s (rl.take p)).length ≤ (rl.take p).length := by unfold fr'; rw [List.length_map]; exact List.length_filter_le _ _
            have e3 : (rl.take p).length ≤ rl.length := by rw [List.length_take]; exact Nat.min_le_right _ _
            have := HL60.out
            have := HM.out
            omega
          have HJ := Lib.hid hj
          obtain ⟨x0, x1⟩ := HX.out _ HB.out
          clear hcells hc hkl hj hb
          rcases hsc : (c.1 == s) with _ | _
          · go_wp2_with fail
            go_roundw
            case rel => exact ⟨p + 1, j, _, _, by omega, by go_num, rfl, by rw [fr_no HK.out hsc]; exact HG.out⟩
            case measure => simp [RowKit.intOf]; omega
          · obtain ⟨a3, cap3, w3, hrun, hgr⟩ := HG.out.snocR c HJ.out
            have HG3 := Lib.hid hgr
            clear hgr
            go_wp2_with (at_builtin; refine Lib.wpList_append_run _ rfl _ _ _ _ rfl _ _ rfl rfl _ _ (hrun _) ?_)
            clear x0 x1 hrun
            go_roundw
            case rel => exact ⟨p + 1, j + 1, _, _, by omega, by go_num, rfl, by rw [fr_yes HK.out hsc]; exact HG3.out⟩
            case measure => simp [RowKit.intOf]; omega
        · obtain rfl : p = m := by omega
          have ek : rl.take p = rl := by rw [← HM.out, List.take_length]
          rw [ek] at HG
          have hlt4 : decide ((p : Int) < (p : Int)) = false := by simp
          have hlt5 : decide (p < p) = false := by simp
          obtain ⟨w00, rfl⟩ : ∃ z, z = w := ⟨_, rfl⟩
          obtain ⟨w, rfl⟩ : ∃ z, z = wr := ⟨_, rfl⟩
          have HC2 : Hid (Cs w a1 (l.filter fun c => c.cov s d)) := Lib.hid ((HG1.out.recs : Cs V1 a1 (l.filter fun c => c.cov s d)).later HG.out.below)
          have HR2 : Hid (Rs w a' (rl.filter fun x => decide (x.1 = s))) := Lib.hid (HG.out.recs : Rs w a' (rl.filter fun x => decide (x.1 = s)))
          have HJ1 : Hid ((l.filter fun c => c.cov s d).length = j1) := Lib.hid (by have := HG1.out.len; unfold fc at this; rwa [List.length_map] at this)
          have HJ2 : Hid ((rl.filter fun x => decide (x.1 = s)).length = j) := Lib.hid (by have := HG.out.len; unfold fr' at this; rwa [List.length_map] at this)
          have HJL : Hid (j1 ≤ 1000000) := Lib.hid (by have := List.length_filter_le (fun c => Ct.cov c s d) l; have := HJ1.out; have := HN.out; have := HL.out; omega)
          have HJM : Hid (j ≤ 1000000) := Lib.hid (by have := List.length_filter_le (fun x : Int × Int => decide (x.1 = s)) rl; have := HJ2.out; have := HM.out; have := HL2.out; omega)
          have HC3 := Lib.hid (HC.out.later HB.out)
          have HR3 := Lib.hid (HR.out.later HB.out)
          have f1 := found_len s d l HG1.out.len
          rw [HFB.out] at f1
          have f2 : decide ((0 : Int) < (j1 : Int)) = fb := by rw [← f1]; simp
          have e2 : (fb == fb) = true := by simp
          have e3 : (kk == kk) = true := by simp
          have S1 := Lib.hid (Sf.start w)
          clear ek hp hlt HG HG1 HC HR
          go_wp2_with fail
          refine (ivl_raw (HC3.out.later S1.out.below) HN.out HL.out (HR3.out.later S1.out.below) HM.out HL2.out HD1.out HD2.out HDK.out).mono ?_
          rintro e w11 ⟨av11, nv11, cv11, bv11, mv11, dv11, az11, nz11, cz11, bz11, mz11, dz11, rfl, hi, hj, hp, hq, hb, h1, h2, h3, h4⟩
          have R11 := Lib.hid (Sf.ret4 S1.out hb hi h1 hj h2 hp h3 hq h4)
          clear hi hj hp hq hb h1 h2 h3 h4
          have p1 := (R11.out.put [.int .i64 0, .slice none 0 0, .int .i64 0, .slice none 0 0] 34).put [.int .i64 0, .slice none 0 0, .int .i64 0, .slice none 0 0] 34
          try simp only [World.size_alloc] at p1
          have P1 := Lib.hid p1
          clear p1
          have Q1 := Lib.hid (Sf.row (pre := [(w11.heap.size + 1, 34, [.int .i64 0, .slice none 0 0, .int .i64 0, .slice none 0 0])]) P1.out [.int .i64 D1.s, .slice av11 nv11 cv11, .int .i64 D1.t, .slice bv11 mv11 dv11])
          have T1 := Lib.hid (Sf.row (pre := []) Q1.out [.int .i64 D2.s, .slice az11 nz11 cz11, .int .i64 D2.t, .slice bz11 mz11 dz11])
          obtain ⟨V1, hV1⟩ : ∃ V, ((((w11.alloc (.cells #[.int .i64 0, .slice none 0 0, .int .i64 0, .slice none 0 0] 34)).alloc (.cells #[.int .i64 0, .slice none 0 0, .int .i64 0, .slice none 0 0] 34)).setRow (w11.heap.size) #[.int .i64 D1.s, .slice av11 nv11 cv11, .int .i64 D1.t, .slice bv11 mv11 dv11]).setRow (w11.heap.size + 1) #[.int .i64 D2.s, .slice az11 nz11 cz11, .int .i64 D2.t, .slice bz11 mz11 dz11]) = V := ⟨_, rfl⟩
          have T1 : Hid (Sf w ([] ++ (w11.heap.size + 1, 34, [.int .i64 D2.s, .slice az11 nz11 cz11, .int .i64 D2.t, .slice bz11 mz11 dz11]) :: (w11.heap.size, 34, [.int .i64 D1.s, .slice av11 nv11 cv11, .int .i64 D1.t, .slice bv11 mv11 dv11]) :: []) _ V1) := Lib.hid (by have := T1.out; rw [← hV1]; exact this)
          have HV1 := Lib.hid hV1
          clear hV1
          go_wp2_with (first | (refine wpList_store_row rfl _ _ _ rfl _ #[.int .i64 D2.s, .slice az11 nz11 cz11, .int .i64 D2.t, .slice bz11 mz11 dz11] rfl rfl _ _ (Q1.out.box _ mq0) (by kernel_rfl) rfl (by simp [Value.oneCell']) ?_; rw [HV1.out]) | refine wpList_store_row rfl _ _ _ rfl _ #[.int .i64 D1.s, .slice av11 nv11 cv11, .int .i64 D1.t, .slice bv11 mv11 dv11] rfl rfl _ _ (P1.out.box _ mq1) (by kernel_rfl) rfl (by simp [Value.oneCell']) ?_)
          refine (ivl_raw (HC2.out.later T1.out.below) HJ1.out HJL.out (HR2.out.later T1.out.below) HJ2.out HJM.out (HFL.out.2.1.trans HD1.out) (HFL.out.2.2.trans HD2.out) (HFL.out.1.trans HDK.out)).mono ?_
          rintro e w12 ⟨av12, nv12, cv12, bv12, mv12, dv12, az12, nz12, cz12, bz12, mz12, dz12, rfl, hi, hj, hp, hq, hb, h1, h2, h3, h4⟩
          have R12 := Lib.hid (Sf.ret4 T1.out hb hi h1 hj h2 hp h3 hq h4)
          clear hi hj hp hq hb h1 h2 h3 h4
          have p2 := (R12.out.put [.int .i64 0, .slice none 0 0, .int .i64 0, .slice none 0 0] 34).put [.int .i64 0, .slice none 0 0, .int .i64 0, .slice none 0 0] 34
          try simp only [World.size_alloc] at p2
          have P2 := Lib.hid p2
          clear p2
          have Q2 := Lib.hid (Sf.row (pre := [(w12.heap.size + 1, 34, [.int .i64 0, .slice none 0 0, .int .i64 0, .slice none 0 0])]) P2.out [.int .i64 D1.s, .slice av12 nv12 cv12, .int .i64 D1.t, .slice bv12 mv12 dv12])
          have T2 := Lib.hid (Sf.row (pre := []) Q2.out [.int .i64 D2.s, .slice az12 nz12 cz12, .int .i64 D2.t, .slice bz12 mz12 dz12])
          obtain ⟨V2, hV2⟩ : ∃ V, ((((w12.alloc (.cells #[.int .i64 0, .slice none 0 0, .int .i64 0, .slice none 0 0] 34)).alloc (.cells #[.int .i64 0, .slice none 0 0, .int .i64 0, .slice none 0 0] 34)).setRow (w12.heap.size) #[.int .i64 D1.s, .slice av12 nv12 cv12, .int .i64 D1.t, .slice bv12 mv12 dv12]).setRow (w12.heap.size + 1) #[.int .i64 D2.s, .slice az12 nz12 cz12, .int .i64 D2.t, .slice bz12 mz12 dz12]) = V := ⟨_, rfl⟩
          have T2 : Hid (Sf w ([] ++ (w12.heap.size + 1, 34, [.int .i64 D2.s, .slice az12 nz12 cz12, .int .i64 D2.t, .slice bz12 mz12 dz12]) :: (w12.heap.size, 34, [.int .i64 D1.s, .slice av12 nv12 cv12, .int .i64 D1.t, .slice bv12 mv12 dv12]) :: [(w11.heap.size + 1, 34, [.int .i64 D2.s, .slice az11 nz11 cz11, .int .i64 D2.t, .slice bz11 mz11 dz11]), (w11.heap.size, 34, [.int .i64 D1.s, .slice av11 nv11 cv11, .int .i64 D1.t, .slice bv11 mv11 dv11])]) _ V2) := Lib.hid (by have := T2.out; rw [← hV2]; exact this)
          have HV2 := Lib.hid hV2
          clear hV2
          go_wp2_with (first | (refine wpList_store_row rfl _ _ _ rfl _ #[.int .i64 D2.s, .slice az12 nz12 cz12, .int .i64 D2.t, .slice bz12 mz12 dz12] rfl rfl _ _ (Q2.out.box _ mq0) (by kernel_rfl) rfl (by simp [Value.oneCell']) ?_; rw [HV2.out]) | refine wpList_store_row rfl _ _ _ rfl _ #[.int .i64 D1.s, .slice av12 nv12 cv12, .int .i64 D1.t, .slice bv12 mv12 dv12] rfl rfl _ _ (P2.out.box _ mq1) (by kernel_rfl) rfl (by simp [Value.oneCell']) ?_)
          refine (find_any (HC3.out.later T2.out.below) HN.out HL.out HFI.out HFB.out).mono ?_
          rintro e w13 ⟨rfl, hb⟩
          have R13 := Lib.hid (T2.out.later hb)
          clear hb
          obtain ⟨q3, q4, q5, q6⟩ := Fb.cells4 (R13.out.box (w12.heap.size, 34, [.int .i64 D1.s, .slice av12 nv12 cv12, .int .i64 D1.t, .slice bv12 mv12 dv12]) mq1)
          obtain ⟨q7, q8, q9, q10⟩ := Fb.cells4 (R13.out.box (w11.heap.size, 34, [.int .i64 D1.s, .slice av11 nv11 cv11, .int .i64 D1.t, .slice bv11 mv11 dv11]) mq3)
          go_wp2_with fail
          clear q3 q4 q5 q6 q7 q8 q9 q10
          refine (rsame_d (R13.out.ints (.slice av11 nv11 cv11, D1.l) mq4) (R13.out.ints (.slice bv11 mv11 dv11, D1.k) mq5) (R13.out.ints (.slice av12 nv12 cv12, D1.l) mq0) (R13.out.ints (.slice bv12 mv12 dv12, D1.k) mq1)).mono ?_
          rintro e w14 ⟨rfl, hb⟩
          have R14 := Lib.hid (R13.out.later hb)
          clear hb
          obtain ⟨q11, q12, q13, q14⟩ := Fb.cells4 (R14.out.box (w12.heap.size + 1, 34, [.int .i64 D2.s, .slice az12 nz12 cz12, .int .i64 D2.t, .slice bz12 mz12 dz12]) mq0)
          obtain ⟨q15, q16, q17, q18⟩ := Fb.cells4 (R14.out.box (w11.heap.size + 1, 34, [.int .i64 D2.s, .slice az11 nz11 cz11, .int .i64 D2.t, .slice bz11 mz11 dz11]) mq2)
          go_wp2_with fail
          clear q11 q12 q13 q14 q15 q16 q17 q18
          refine (rsame_d (R14.out.ints (.slice az11 nz11 cz11, D2.l) mq6) (R14.out.ints (.slice bz11 mz11 dz11, D2.k) mq7) (R14.out.ints (.slice az12 nz12 cz12, D2.l) mq2) (R14.out.ints (.slice bz12 mz12 dz12, D2.k) mq3)).mono ?_
          rintro e w15 ⟨rfl, hb⟩
          have R15 := Lib.hid (R14.out.later hb)
          clear hb
          go_wp2_with fail
          go_ret
          exact ⟨rfl, HB.out.trans (R15.out.below.mono HB.out.size)⟩

theorem others_all {a a2 : Option Addr} {n cap m cap2 : Nat} {l : List Ct} {rl : List (Int × Int)} {s r d : Int} {w : World} (hc : n ≤ 1000000000 → Cs w a l) (hn : l.length = n) (hl : n ≤ 9223372036854775807) (hr : m ≤ 1000000000 → Rs w a2 rl) (hm : rl.length = m) (hl2 : m ≤ 9223372036854775807) : Calls Try.prog 6 #[.slice a n cap, .slice a2 m cap2, .int .i64 s, .int .i64 r, .int .i64 d] w (Gv (.bool true) w) := by
  rcases h : (decide ((n : Int) ≤ 120) && decide ((m : Int) ≤ 60)) with _ | _
  · exact others_no hl hl2 h
  · simp only [Bool.and_eq_true, decide_eq_true_eq] at h
    exact others_good (hc (by omega)) hn (by omega) (hr (by omega)) hm (by omega)
end Go.Proofs.Ytmhjejnkphdjpaa.Sc
