/- The contracts of cut, extend, number. -/
import Derived.Test.YtpcagodnlbdclaaDoorBi19
set_option maxRecDepth 100000
namespace Go.Proofs.YtpcagodnlbdclaaDoor.Bi
open Go.RowKit

/-- The digits in block g have been divided by a group; the remainder is returned. -/
def CutR (g : Nat) (l : List Int) (w : World) (e : Ending) (w' : World) : Prop :=
  ∃ L, e = .returned (.int .i64 (val l % 1000000000000)) ∧ Mem w' g L ∧ L.length = l.length ∧ Dig L ∧ val L = val l / 1000000000000 ∧ w.grownBy w' (some g)
theorem cut_step {l L : List Int} {j : Nat} {r d s : Int} (hj : j < L.length) (hd : l.getD j 0 = d) (hs : s = r * 1048576 + d) (hv : val (l.drop (j + 1)) = val (L.drop (j + 1)) * 1000000000000 + r) :
    val (l.drop j) = val ((L.set j (s / 1000000000000)).drop j) * 1000000000000 + s % 1000000000000 := by
  rw [val_drop l j, val_drop (L.set j _) j, hd, hv, getD_set_eq hj, List.drop_set_of_lt (by omega)]
  have := Int.emod_add_mul_ediv s 1000000000000
  omega

set_option maxHeartbeats 1000000 in
theorem cut_any (g cap : Nat) (l : List Int) (hd : Dig l) (w : World) (hM : Mem w g l) (_hcap : l.length ≤ cap) (hl : l.length ≤ 1000000000) :
    Calls Tryd.prog 65 #[.slice (some ⟨g, 0, none⟩) l.length cap] w (CutR g l w) := by
  obtain ⟨n, en⟩ : ∃ n, l.length = n := ⟨_, rfl⟩
  rw [en] at _hcap hl ⊢
  have HD := Lib.hid hd
  have HM := Lib.hid hM
  have HL := Lib.hid en
  clear hd hM en
  go_enter Tryd.func65, Tryd.ntmps65
  go_wp2_with fail
  go_loopw [3, 4] (fun c t wr => ∃ (k : Nat) (r : Int) (L : List Int), k ≤ n ∧ t = .int .i64 ((k : Int) - 1) ∧ c = .int .i64 r ∧ 0 ≤ r ∧ r < 1000000000000 ∧ Mem wr g L ∧ w.grownBy wr (some g) ∧ L.length = n ∧ (∀ j, j < k → L.getD j 0 = l.getD j 0) ∧ Dig L ∧
    val (l.drop k) = val (L.drop k) * 1000000000000 + r) (fun _ t _ => (intOf t + 1).toNat)
  case atStart => exact ⟨n, 0, l, Nat.le_refl _, rfl, rfl, by omega, by omega, HM.out, on_refl _ _, HL.out, fun _ _ => rfl, HD.out, by rw [List.drop_eq_nil_of_le (by have := HL.out; omega)]; rfl⟩
  case round =>
    obtain ⟨k, r, L, hk, rfl, rfl, hr0, hr1, hM, hg, hlen, hsame, hdl, hv⟩ := hrel
    have HM2 := Lib.hid hM
    have HG := Lib.hid hg
    have HLN := Lib.hid hlen
    have HS := Lib.hid hsame
    have HDL := Lib.hid hdl
    have HV := Lib.hid hv
    clear hM hg hlen hsame hdl hv
    cases k with
    | zero =>
      rw [show ((0 : Nat) : Int) - 1 = -1 from rfl]
      go_wp2_with fail
      go_ret
      have hv := HV.out
      rw [List.drop_zero, List.drop_zero] at hv
      refine ⟨L, ret_i (by omega), HM2.out, by rw [HLN.out, HL.out], HDL.out, by omega, HG.out⟩
    | succ j =>
      rw [show ((j + 1 : Nat) : Int) - 1 = (j : Int) by omega]
      have hc := HM2.out.cell (j := j) (by have := HLN.out; omega)
      have hf := HM2.out.free j
      rw [HS.out j (by omega)] at hc
      have bd := HD.out.get j
      obtain ⟨d, ed⟩ : ∃ d, l.getD j 0 = d := ⟨_, rfl⟩
      rw [ed] at hc bd
      have HED := Lib.hid ed
      obtain ⟨s, es⟩ : ∃ s, r * 1048576 + d = s := ⟨_, rfl⟩
      have hor : bits .or .i64 (r * 1048576) d = s := by rw [← es]; exact or20 _ _ (by omega) (by omega) (by omega) bd.1 bd.2
      have hs0 : 0 ≤ s ∧ s < 1048576000000000000 := by omega
      have HES := Lib.hid es
      clear ed es
      go_wp2_with fail
      go_roundw
      case rel =>
        have hlen := HLN.out
        refine ⟨j, s % 1000000000000, L.set j (s / 1000000000000), by omega, rfl, rfl, by omega, by omega, HM2.out.set (by omega) _, on_set HG.out _ _, by rw [List.length_set]; exact hlen, ?_, HDL.out.set j (by omega) (by omega), ?_⟩
        · intro i hi
          rw [getD_set_ne (by omega)]
          exact HS.out i (by omega)
        · exact cut_step (by omega) HED.out HES.out.symm HV.out
      case measure => simp [intOf]

theorem OwnI.mem {w : World} {v : Value} {l : List Int} (h : OwnI w v l) (h0 : 0 < l.length) : ∃ g cap, v = .slice (some ⟨g, 0, none⟩) l.length cap ∧ l.length ≤ cap ∧ Mem w g l ∧ blk v = some g := by
  rcases h.2 with ⟨a', hv, hn⟩ | ⟨g, cap, cur, hv, hg, hnc, hc0, hcm, hcs, ht⟩
  · omega
  · refine ⟨g, cap, hv, hnc, ⟨cur, hg, fun j hj => ?_⟩, by rw [hv]; exact blk_pos hc0⟩
    have h1 : (cur.toList.take (l.length * 1))[j]? = (l.map (Value.int .i64 ·))[j]? := by rw [ht]
    rw [List.getElem?_take, if_pos (by omega), map_getD l j hj, Array.getElem?_toList] at h1
    exact h1
theorem OwnI.set {w : World} {g cap : Nat} {l : List Int} (h : OwnI w (.slice (some ⟨g, 0, none⟩) l.length cap) l) {k : Nat} (hk : k < l.length) (x : Int) : OwnI (w.setCell ⟨g, k, none⟩ (.int .i64 x)) (.slice (some ⟨g, 0, none⟩) l.length cap) (l.set k x) := by
  rcases h.2 with ⟨a', hv, hn⟩ | ⟨g', cap', cur, hv, hg, hnc, hc0, hcm, hcs, ht⟩
  · omega
  · simp at hv
    obtain ⟨rfl, rfl⟩ := hv
    refine ⟨by simp, .inr ⟨g, cap, cur.setIfInBounds k (.int .i64 x), by rw [List.length_set], by simp [World.setCell, Array.getElem?_modify, hg], by rw [List.length_set]; exact hnc, hc0, hcm, by simpa using hcs, ?_⟩⟩
    rw [List.length_set, Array.toList_setIfInBounds, List.map_set, ← ht, List.take_set]
theorem blk_same {a : Option Addr} {n m c : Nat} : blk (.slice a n c) = blk (.slice a m c) := by cases a <;> cases c <;> rfl

/-- The digits of l times a group, plus n. -/
def Ext (v : Value) (l : List Int) (n : Int) (w : World) (e : Ending) (w' : World) : Prop :=
  ∃ a c L, e = .returned (.slice a (List.length L) c) ∧ OwnI w' (.slice a L.length c) L ∧ Dig L ∧ val L = val l * 1000000000000 + n ∧ w.grownBy w' (blk v) ∧ (∀ b, blk (.slice a L.length c) = some b → blk v = some b ∨ w.heap.size ≤ b) ∧ L.length ≤ l.length + 2

/-- The second loop's relation. -/
structure ExR (v : Value) (l : List Int) (n : Int) (w : World) (u : Value) (L : List Int) (C : Int) (W : World) : Prop where
  own : OwnI W u L
  dig : Dig L
  eq : val L + P L.length * C = val l * 1000000000000 + n
  c0 : 0 ≤ C
  grown : w.grownBy W (blk v)
  blk : ∀ b, blk u = some b → Bi.blk v = some b ∨ w.heap.size ≤ b
  len : ∃ t, L.length = l.length + t ∧ P t * C ≤ 1000000000000 ∧ t ≤ 2
theorem ExR.next {v : Value} {l : List Int} {n : Int} {w : World} {u : Value} {L : List Int} {C : Int} {W : World} (h : ExR v l n w u L C W) (hC : 0 < C) (hl : l.length ≤ 1000000) :
    ∃ a c w', (∀ ty, (Builtin.append_ #[22, 22] ty #[u, .slice (some ⟨W.heap.size, 0, none⟩) 1 1]).run Tryd.prog (W.alloc (.cells #[.int .i64 (C % 1048576)] 3)) = .ok (.slice a (L.length + 1) c) w') ∧ ExR v l n w (.slice a (L.length + 1) c) (L ++ [C % 1048576]) (C / 1048576) w' := by
  obtain ⟨t, ht, hP, ht2⟩ := h.len
  obtain ⟨a, c, w', h1, h2, h3, h4⟩ := h.own.snoc (by omega) (C % 1048576)
  have hz := h.grown.size
  have hPt : P t ≤ P t * C := by
    have := Int.mul_le_mul_of_nonneg_left (a := 1) (b := C) (c := P t) (by omega) (by have := P_pos t; omega)
    omega
  have ht1 : t ≤ 1 := by
    rcases Nat.lt_or_ge t 2 with h' | h'
    · omega
    · have := P_le h'
      simp [P] at this; omega
  refine ⟨a, c, w', h1, ⟨h2, h.dig.app (Dig.cons (by omega) (by omega) Dig.nil), ?_, by omega, ?_, ?_, t + 1, by simp; omega, ?_, by omega⟩⟩
  · rw [val_app, List.length_append, List.length_singleton, P_succ, ← h.eq]
    have e : C = C % 1048576 + 1048576 * (C / 1048576) := by omega
    simp only [val]
    generalize C / 1048576 = q at *
    generalize C % 1048576 = r at *
    rw [e]; grind
  · refine ⟨h3.os.trans h.grown.os, h3.tape.trans h.grown.tape, h3.output.trans h.grown.output, Nat.le_trans hz (Nat.le_trans (by simp) h3.size), fun k hk hne => ?_⟩
    rw [h3.block k (by simp; omega) (fun e => ?_), Below.heap_alloc _ _ _ (by omega), h.grown.block k hk hne]
    rcases h.blk k e.symm with h' | h'
    · exact hne h'.symm
    · omega
  · intro b hb
    rcases h4 with h5 | h5 | h5
    · rw [h5] at hb; cases hb
    · rw [h5] at hb; exact h.blk b hb
    · rw [h5] at hb; cases hb; right; omega
  · rw [P_succ]
    have hp := P_pos t
    have : P t * (1048576 * (C / 1048576)) ≤ P t * C := Int.mul_le_mul_of_nonneg_left (by omega) (by omega)
    have e : 1048576 * P t * (C / 1048576) = P t * (1048576 * (C / 1048576)) := by grind
    omega

set_option maxHeartbeats 2000000 in
theorem extend_any (v : Value) (l : List Int) (n : Int) (hn : 0 ≤ n ∧ n ≤ 1000000000000) (hd : Dig l) (hl : l.length ≤ 1000000) (w : World) (ho : OwnI w v l) :
    Calls Tryd.prog 52 #[v, .int .i64 n] w (Ext v l n w) := by
  obtain ⟨a0, c0, rfl, hc0, _⟩ := ho.shape
  have hstart : ∃ L, OwnI w (.slice a0 l.length c0) L ∧ L = l := ⟨l, ho, rfl⟩
  have HD := Lib.hid hd
  have HO := Lib.hid ho
  have HLL := Lib.hid hl
  obtain ⟨m, em⟩ : ∃ m, l.length = m := ⟨_, rfl⟩
  have HM := Lib.hid em
  rw [em] at hc0 hl ⊢
  rw [em] at HO
  clear hd ho hstart em
  go_enter Tryd.func52, Tryd.ntmps52
  go_wp2_with fail
  go_loopw [1, 9] (fun c t wr => ∃ (k : Nat) (C : Int) (L : List Int), k ≤ m ∧ t = .int .i64 k ∧ c = .int .i64 C ∧ 0 ≤ C ∧ C ≤ 1000000000000 ∧ OwnI wr (.slice a0 m c0) L ∧ w.grownBy wr (blk (.slice a0 m c0)) ∧ L.length = m ∧ (∀ j, k ≤ j → L.getD j 0 = l.getD j 0) ∧ Dig L ∧
    val (L.take k) + P k * C = val (l.take k) * 1000000000000 + n) (fun _ t _ => m - (intOf t).toNat)
  case atStart => exact ⟨0, n, l, Nat.zero_le _, rfl, rfl, by omega, by omega, HO.out, on_refl _ _, HM.out, fun _ _ => rfl, HD.out, by simp [val, P]⟩
  case round =>
    obtain ⟨k, C, L, hk, rfl, rfl, hC0, hC1, hO, hG, hlen, hsame, hdl, hv⟩ := hrel
    have HO2 := Lib.hid hO
    have HG := Lib.hid hG
    have HLN := Lib.hid hlen
    have HS := Lib.hid hsame
    have HDL := Lib.hid hdl
    have HV := Lib.hid hv
    clear hO hG hlen hsame hdl hv
    by_cases hlt : k < m
    · have hO3 := HO2.out
      rw [← HLN.out] at hO3
      obtain ⟨g, cap, hv3, hcap, hMem, hblk⟩ := hO3.mem (by have := HLN.out; omega)
      simp at hv3
      obtain ⟨rfl, rfl⟩ := hv3
      have hc := hMem.cell (j := k) (by have := HLN.out; omega)
      have hf := hMem.free k
      rw [HS.out k (Nat.le_refl _)] at hc
      have bd := HD.out.get k
      obtain ⟨d, ed⟩ : ∃ d, l.getD k 0 = d := ⟨_, rfl⟩
      rw [ed] at hc bd
      have HED := Lib.hid ed
      obtain ⟨s, es⟩ : ∃ s, C + d * 1000000000000 = s := ⟨_, rfl⟩
      have hs0 : 0 ≤ s ∧ s ≤ 1048576000000000000 := by omega
      have HES := Lib.hid es
      rw [HLN.out] at hblk hO3
      have HBL := Lib.hid hblk
      have HO4 := Lib.hid hO3
      clear ed hMem hblk hO3 hcap
      have hq : C + d * 1000000000000 = s := es
      clear es
      go_wp2_with fail
      clear hq
      go_roundw
      case rel =>
        have hlen := HLN.out
        refine ⟨k + 1, s / 1048576, L.set k (s % 1048576), by omega, by go_num, rfl, by omega, by omega, ?_, ?_, by rw [List.length_set]; exact hlen, ?_, HDL.out.set k (by omega) (by omega), ?_⟩
        · rw [mask20]
          have h := HO4.out
          rw [← hlen] at h
          have := h.set (k := k) (by omega) (s % 1048576)
          rwa [hlen] at this
        · have h := HG.out
          rw [HBL.out] at h ⊢
          exact on_set h _ _
        · intro j hj
          rw [getD_set_ne (by omega)]
          exact HS.out j (by omega)
        · have h1 := HV.out
          rw [val_take, val_take, getD_set_eq (by omega), HED.out, take_same (l := L.set k (s % 1048576)) (m := L) (k := k) (by simp) (fun j hj => getD_set_ne (by omega) _), P_succ]
          have e2 : s = s % 1048576 + 1048576 * (s / 1048576) := by omega
          have e1 := HES.out
          generalize s / 1048576 = q at *
          generalize s % 1048576 = r at *
          rw [e2] at e1
          grind
      case measure => simp [intOf]; omega
    · obtain rfl : k = m := by omega
      have hE : ExR (.slice a0 k c0) l n w (.slice a0 k c0) L C wr := by
        have hlen := HLN.out
        have hv := HV.out
        rw [val_take_all _ (by omega), val_take_all _ (by have := HM.out; omega)] at hv
        exact ⟨HO2.out, HDL.out, by rw [hlen]; exact hv, hC0, HG.out, fun b hb => .inl hb, 0, by rw [hlen, HM.out]; rfl, by simp [P]; omega, by omega⟩
      have HE := Lib.hid hE
      clear hE
      obtain ⟨wo, rfl⟩ : ∃ wo : World, wo = wr := ⟨_, rfl⟩
      go_wp2_with fail
      go_loopw [0, 1] (fun u c wr => ∃ (C : Int) (L : List Int), c = .int .i64 C ∧ ExR (.slice a0 k c0) l n w u L C wr) (fun _ c _ => (intOf c).toNat)
      case atStart => exact ⟨C, L, rfl, HE.out⟩
      case round =>
        obtain ⟨C2, L2, rfl, hE2⟩ := hrel
        obtain ⟨a1, c1, rfl, _, _⟩ := hE2.own.shape
        have hC2 := hE2.c0
        have hC3 : C2 ≤ 1000000000000 := by
          obtain ⟨t, _, hP, _⟩ := hE2.len
          have hp := P_pos t
          have := Int.mul_le_mul_of_nonneg_right (a := 1) (b := P t) (c := C2) hp hC2
          omega
        by_cases h0 : C2 = 0
        · subst h0
          have HF := Lib.hid hE2
          clear hE2
          go_wp2_with fail
          go_ret
          have hE3 := HF.out
          obtain ⟨t, ht, _, ht2⟩ := hE3.len
          have he := hE3.eq
          rw [Int.mul_zero, Int.add_zero] at he
          exact ⟨a1, c1, L2, rfl, hE3.own, hE3.dig, he, hE3.grown, hE3.blk, by omega⟩
        · have hpos : 0 < C2 := by omega
          obtain ⟨a2, c2, w', hrun, hE3⟩ := hE2.next hpos HLL.out
          obtain ⟨y, ey⟩ : ∃ y, C2 % 1048576 = y := ⟨_, rfl⟩
          have hmask : bits .and .i64 C2 1048575 = y := by rw [mask20, ey]
          rw [ey] at hrun
          have HE3 := Lib.hid hE3
          clear hE2 hE3 ey h0
          go_wp2_with (at_builtin; refine Lib.wpList_append_run _ rfl _ _ _ _ rfl _ _ rfl rfl _ _ (hrun _) ?_)
          go_roundw
          case rel => exact ⟨C2 / 1048576, _, rfl, HE3.out⟩
          case measure => simp [intOf]; omega
end Go.Proofs.YtpcagodnlbdclaaDoor.Bi
