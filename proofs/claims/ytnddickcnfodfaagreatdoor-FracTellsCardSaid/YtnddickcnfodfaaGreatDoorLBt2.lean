/- kitbagref04: the contracts of made, plus, minus. -/
import Derived.Test.YtnddickcnfodfaaGreatDoorLBt1
set_option maxRecDepth 100000
namespace Go.Proofs.YtnddickcnfodfaaGreatDoor.Bi
open Go.RowKit

/-- Copies of digits are slices. -/
theorem OwnI.fit {w : World} {v : Value} {l : List Int} (h : OwnI w v l) : ∃ a c, v = .slice a l.length c := by
  obtain ⟨a, c, e, _, _⟩ := h.shape
  exact ⟨a, c, e⟩
set_option maxHeartbeats 1000000 in
theorem rmade_any (sg : Int) (a : Option Addr) (cap : Nat) (l : List Int) (hd : Dig l) (n : Int) (hv : (n.natAbs : Int) = val l) (hs : n ≠ 0 → sg = n.sign) (w : World) (h : Ints w (.slice a l.length cap) l) (hl : l.length ≤ 100000000) :
    Calls Tryz.prog 71 #[.int .i64 sg, .slice a l.length cap] w (AnsB n w) := by
  have ht := fun w h => rtrim_any a cap l hd w h hl
  rw [show (val l).toNat = n.natAbs by omega] at ht
  have hml := dig_len hd
  rw [show (val l).toNat = n.natAbs by omega] at hml
  have hm0 : (digs n.natAbs).length = 0 ↔ n = 0 := by rw [digs_len0]; omega
  have HT := Lib.hid ht
  have H := Lib.hid h
  have HR : Hid (Res w (w.alloc (.cells #[.int .i64 0, .slice none 0 0] 24))) := alloc_at _ _
  have HL : Hid ((digs n.natAbs).length ≤ 1000000000) := by unfold Hid; omega
  clear ht h hd hv hml hl
  by_cases h0 : n = 0
  · subst h0
    have hz : (digs (0 : Int).natAbs).length = 0 := hm0.2 rfl
    have HZ := Lib.hid hz
    clear hs hm0 hz
    go_enter Tryz.func71, Tryz.ntmps71
    go_wp2_with fail
    refine (HT.out _ (H.out.later (below_alloc _ _))).mono ?_
    rintro e w' ⟨v', rfl, ho, hb, hf⟩
    obtain ⟨a', c', rfl⟩ := ho.fit
    rw [HZ.out]
    have hres : Res w w' := (hb.block _ (by simp)).trans HR.out
    have HB : Hid (RowKit.Below w.heap.size w w') := (below_alloc _ _).trans (hb.mono (by simp))
    obtain ⟨r0, r1, f0, f1⟩ := hres.cells
    clear hb ho hf hres
    go_wp2_with fail
    exact bodyPost_ret (v := .agg #[.int .i64 0, .slice none 0 0]) (by simp [results, Tryz.results71, go_sem, r0, r1]) rfl
      ⟨_, rfl, by rw [show (0 : Int).natAbs = 0 from rfl, digs_zero]; exact Ints.nil _, (HB.out.setCell (Nat.le_refl _) _).setCell (Nat.le_refl _) _, fun g _ => off_nil g 0 0⟩
  · have hm1 : (digs n.natAbs).length ≠ 0 := fun e => h0 (hm0.1 e)
    obtain rfl := hs h0
    have hq : (((digs n.natAbs).length : Int) == 0) = false := by rw [beq_eq_false_iff_ne]; omega
    have HQ := Lib.hid hq
    clear hs hm0 h0 hq hm1
    go_enter Tryz.func71, Tryz.ntmps71
    go_wp2_with fail
    refine (HT.out _ (H.out.later (below_alloc _ _))).mono ?_
    rintro e w' ⟨v', rfl, ho, hb, hf⟩
    obtain ⟨a', c', rfl⟩ := ho.fit
    have hres : Res w w' := (hb.block _ (by simp)).trans HR.out
    have HB : Hid (RowKit.Below w.heap.size w w') := (below_alloc _ _).trans (hb.mono (by simp))
    obtain ⟨r0, r1, f0, f1⟩ := hres.cells
    have HF : Hid (Fresh (w.heap.size + 1) (.slice a' (digs n.natAbs).length c')) := blk_fresh ho (fun b h => by have := hf b h; simpa using this)
    have HI := Lib.hid (ho.ints HL.out)
    have hq := HQ.out
    obtain ⟨m, em⟩ : ∃ m, (digs n.natAbs).length = m := ⟨_, rfl⟩
    rw [em] at HF HI hq ⊢
    clear hb ho hf hres em
    go_wp2_with fail
    have hoff := HF.out w.heap.size (by omega)
    exact bodyPost_ret (v := .agg #[.int .i64 n.sign, .slice a' m c']) (by simp [results, Tryz.results71, go_sem, r0, r1]) rfl
      ⟨_, rfl, (HI.out.set hoff 0 _).set hoff 1 _, (HB.out.setCell (Nat.le_refl _) _).setCell (Nat.le_refl _) _, HF.out.mono (by omega)⟩

/-- A list of digits that is being written, a digit a round. -/
structure Grow (w : World) (k : Nat) (v : Value) (L : List Int) (W : World) : Prop where
  own : OwnI W v L
  dig : Dig L
  len : L.length = k
  below : RowKit.Below w.heap.size w W
  new : ∀ b, blk v = some b → w.heap.size ≤ b
theorem Grow.start (w : World) : Grow w 0 (.slice none 0 0) [] w := ⟨OwnI.nil w, Dig.nil, rfl, Below.refl _ _, fun b hb => by simp [blk] at hb⟩
theorem Grow.next {w : World} {k : Nat} {v : Value} {L : List Int} {W : World} (h : Grow w k v L W) (hk : k ≤ 100000000) {d : Int} (h0 : 0 ≤ d) (h1 : d < 1048576) :
    ∃ a c w', (∀ ty, (Builtin.append_ #[22, 22] ty #[v, .slice (some ⟨W.heap.size, 0, none⟩) 1 1]).run Tryz.prog (W.alloc (.cells #[.int .i64 d] 3)) = .ok (.slice a (k + 1) c) w') ∧ Grow w (k + 1) (.slice a (k + 1) c) (L ++ [d]) w' := by
  obtain ⟨a, c, w', r1, r2, r3, r4⟩ := h.own.snoc (by rw [h.len]; exact hk) d
  rw [h.len] at r1 r2 r4
  have hz := h.below.size
  refine ⟨a, c, w', r1, r2, h.dig.app (Dig.cons h0 h1 Dig.nil), by rw [List.length_append, h.len]; rfl, (h.below.alloc hz _).grown r3 (by simp; omega) (fun k hk => by have := h.new k hk; omega), fun b hb => ?_⟩
  rcases r4 with h5 | h5 | h5
  · rw [h5] at hb; cases hb
  · rw [h5] at hb; exact h.new b hb
  · rw [h5] at hb; cases hb; omega
theorem Grow.drewN {w : World} {k : Nat} {v : Value} {L : List Int} {W : World} (h : Grow w k v L W) (n : Nat) : Grow w k v L (W.drewN n) :=
  ⟨h.own, h.dig, h.len, h.below.trans ((below_drewN' n).mono h.below.size), h.new⟩
theorem Grow.ints {w : World} {k : Nat} {v : Value} {L : List Int} {W : World} (h : Grow w k v L W) (hk : k ≤ 1000000000) : Ints W v L := h.own.ints (by rw [h.len]; exact hk)
/-- trim at the end. -/
theorem Copy.after {w W : World} {x : List Int} {e : Ending} {w' : World} (h : Copy x W e w') (hb : RowKit.Below w.heap.size w W) : Copy x w e w' := by
  obtain ⟨v', rfl, h1, h2, h3⟩ := h
  exact ⟨v', rfl, h1, hb.trans (h2.mono hb.size), fun b hb' => Nat.le_trans hb.size (h3 b hb')⟩

theorem plus_step {x y L : List Int} {k : Nat} {c : Int} (hl : L.length = k) (h : val L + P k * c = val (x.take k) + val (y.take k)) :
    val (L ++ [(x.getD k 0 + y.getD k 0 + c) % 1048576]) + P (k + 1) * ((x.getD k 0 + y.getD k 0 + c) / 1048576) = val (x.take (k + 1)) + val (y.take (k + 1)) := by
  rw [val_app, hl, val_cons, val_nil, val_take, val_take, P_succ]
  obtain ⟨s, hs⟩ : ∃ s, x.getD k 0 + y.getD k 0 + c = s := ⟨_, rfl⟩
  rw [hs]
  have h3 : s % 1048576 = s - 1048576 * (s / 1048576) := by omega
  rw [h3, ← hs]
  grind
theorem plus_end {x y L : List Int} {k N : Nat} {c : Int} (hx : Dig x) (hy : Dig y) (hlx : x.length ≤ N) (hly : y.length ≤ N) (hN : k = N + 1) (hc : 0 ≤ c) (hL : Dig L) (h : val L + P k * c = val (x.take k) + val (y.take k)) : c = 0 := by
  subst hN
  have h1 := val_take_bd hx (N + 1)
  have h2 := val_take_bd hy (N + 1)
  rw [val_take_all x (by omega)] at h h1
  rw [val_take_all y (by omega)] at h h2
  have b1 := val_bd hx
  have b2 := val_bd hy
  have p1 := P_le hlx
  have p2 := P_le hly
  have bL := (val_bd hL).1
  rw [P_succ] at h
  have hp := P_pos N
  rcases Int.lt_or_le 0 c with hc1 | hc1
  · have : P N * 1 ≤ P N * c := Int.mul_le_mul_of_nonneg_left (by omega) (by omega)
    rw [Int.mul_assoc] at h
    omega
  · omega
theorem minus_step {x y L : List Int} {k : Nat} {c : Int} (hl : L.length = k) (h : val L = val (x.take k) - val (y.take k) + P k * c) (b : Int) :
    val (L ++ [x.getD k 0 - y.getD k 0 - c + 1048576 * b]) = val (x.take (k + 1)) - val (y.take (k + 1)) + P (k + 1) * b := by
  rw [val_app, hl, val_cons, val_nil, val_take, val_take, P_succ, h]
  grind
theorem minus_end {x y L : List Int} {c : Int} (hx : Dig x) (hy : Dig y) (hle : val y ≤ val x) (hL : Dig L) (hl : L.length = x.length) (hc : 0 ≤ c) (h : val L = val (x.take x.length) - val (y.take x.length) + P x.length * c) : val L = val x - val y := by
  rw [val_take_all x (Nat.le_refl _)] at h
  have e := val_cut y x.length
  have b1 := val_bd hx
  have b2 := val_bd hL
  have b3 := (val_bd (hy.drop x.length)).1
  have b4 := val_take_bd hy x.length
  rw [hl] at b2
  have hp := P_pos x.length
  have e1 : val (y.drop x.length) = 0 := by
    rcases Int.lt_or_le 0 (val (y.drop x.length)) with hc1 | hc1
    · have : P x.length * 1 ≤ P x.length * val (y.drop x.length) := Int.mul_le_mul_of_nonneg_left (by omega) (by omega)
      omega
    · omega
  rw [e1, Int.mul_zero] at e
  have e2 : c = 0 := by
    rcases Int.lt_or_le 0 c with hc1 | hc1
    · have : P x.length * 1 ≤ P x.length * c := Int.mul_le_mul_of_nonneg_left (by omega) (by omega)
      omega
    · omega
  rw [e2, Int.mul_zero] at h
  omega
end Go.Proofs.YtnddickcnfodfaaGreatDoor.Bi
