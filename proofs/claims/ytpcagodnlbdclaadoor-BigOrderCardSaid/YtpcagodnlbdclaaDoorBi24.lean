/- The contract of Text. -/
import Derived.Test.YtpcagodnlbdclaaDoorBi23
set_option maxRecDepth 100000
namespace Go.Proofs.YtpcagodnlbdclaaDoor.Bi
open Go.RowKit
open Go.Lib (decDigits itoa)

theorem text_bad (v : Value) (s : Int) (l : List Int) (w : World) (h : Arg w v s l) (hr : rightB s l = false) :
    Calls Tryd.prog 32 #[v] w fun e w' => e = .returned (.string ⟨#[]⟩) ∧ RowKit.Below w.heap.size w w' := by
  obtain ⟨sl, rfl, hi⟩ := id h
  obtain ⟨aa, ca, rfl, _⟩ := hi.open
  have HA := Lib.hid h
  have HR := Lib.hid hr
  clear h hi hr
  go_enter Tryd.func32, Tryd.ntmps32
  go_wp2_with fail
  refine (right_any _ s l _ (HA.out.later (below_alloc _ _))).mono ?_
  rintro e w1 ⟨rfl, hb1⟩
  rw [HR.out]
  have HB := Lib.hid ((below_alloc w _).trans (hb1.mono (by simp)))
  clear hb1
  go_wp2_with fail
  go_ret
  exact ⟨rfl, HB.out⟩

/-- The relation of the loop over groups. -/
structure TxR (w : World) (N : Nat) (sg : Int) (v : Value) (gs : List Nat) (ra : Value) (R : Nat) (W : World) : Prop where
  own : OwnS W v (gs.map decDigits)
  rest : ∃ a c, ra = .slice a (digs R).length c ∧ (0 < R → ∃ g, a = some ⟨g, 0, none⟩ ∧ (digs R).length ≤ c ∧ Mem W g (digs R) ∧ w.heap.size + 1 ≤ g ∧ blk v ≠ some g)
  eq : N = lval gs + 1000000000000 ^ gs.length * R
  lt : ∀ g ∈ gs, g < 1000000000000
  last : R = 0 → ∃ h t, gs = t ++ [h] ∧ 0 < h
  len : gs.length + (digs R).length ≤ (digs N).length
  below : RowKit.Below w.heap.size w W
  new : ∀ b, blk v = some b → w.heap.size + 1 ≤ b
  box : W.cell? ⟨w.heap.size, 0, none⟩ = some (.int .i64 sg)
  sz : w.heap.size < W.heap.size
theorem TxR.next {w : World} {N : Nat} {sg : Int} {v : Value} {gs : List Nat} {R : Nat} {W W1 W2 W3 : World} {g c : Nat} {L : List Int} {a3 : Option Addr} {c3 : Nat} {O : Obj} {ra : Value}
    (h : TxR w N sg v gs ra R W) (hR : 0 < R) (hg : w.heap.size + 1 ≤ g) (hne : blk v ≠ some g) (hc : (digs R).length ≤ c)
    (hM : Mem W1 g L) (hL : L.length = (digs R).length) (hd : Dig L) (hv : val L = (R : Int) / 1000000000000) (h1 : W.grownBy W1 (some g)) (h2 : RowKit.Below W1.heap.size W1 W2)
    (ho : OwnS W3 (.slice a3 (gs.length + 1) c3) ((gs ++ [R % 1000000000000]).map decDigits)) (h3 : (W2.alloc O).grownBy W3 (blk v))
    (hb : blk (.slice a3 (gs.length + 1) c3) = none ∨ blk (.slice a3 (gs.length + 1) c3) = blk v ∨ blk (.slice a3 (gs.length + 1) c3) = some (W2.heap.size + 1)) :
    TxR w N sg (.slice a3 (gs.length + 1) c3) (gs ++ [R % 1000000000000]) (.slice (some ⟨g, 0, none⟩) (digs (R / 1000000000000)).length c) (R / 1000000000000) W3 ∧ Mem W3 g L := by
  have hz := h.below.size
  have hz1 := h1.size
  have hz2 := h2.size
  have hz3 := h3.size
  have hglt := hM.lt
  have e : (val L).toNat = R / 1000000000000 := by omega
  have hM3 : Mem W3 g L := by
    refine ((hM.later h2).later (below_alloc W2 O)).kept (h3.block g (by simp; omega) (fun e => hne e.symm))
  have hb3 : RowKit.Below w.heap.size w W3 := by
    refine ((h.below.grown h1 hz (fun k hk => by cases hk; omega)).trans (h2.mono (by omega))).trans ?_
    exact ((Below.refl _ _).alloc (by omega) O).grown h3 (by simp; omega) (fun k hk => by have := h.new k hk; omega)
  have hbox : W3.cell? ⟨w.heap.size, 0, none⟩ = some (.int .i64 sg) := by
    rw [← h.box]
    have e1 : W3.heap[w.heap.size]? = W.heap[w.heap.size]? := by
      rw [h3.block _ (by simp; have := h.sz; omega) (fun e => by have := h.new _ e.symm; omega), Below.heap_alloc _ _ _ (by have := h.sz; omega), h2.block _ (by have := h.sz; omega), h1.block _ h.sz (fun e => by cases e; omega)]
    exact World.cell?_of_block (w := W) (a := ⟨w.heap.size, 0, none⟩) e1
  have hdl := dig_len hd
  have hdt := dig_take hd
  rw [e] at hdl hdt
  refine ⟨⟨by simpa using ho, ⟨some ⟨g, 0, none⟩, c, rfl, fun hp => ⟨g, rfl, by omega, by rw [← hdt]; exact hM3.take _, hg, ?_⟩⟩, ?_, ?_, ?_, ?_, hb3, ?_, hbox, by have := h.sz; simp at hz3; omega⟩, hM3⟩
  · rcases hb with h' | h' | h'
    · rw [h']; simp
    · rw [h']; exact hne
    · rw [h']; intro e'; cases e'; omega
  · rw [lval_app, List.length_append, List.length_singleton, Nat.pow_succ]
    have h4 := h.eq
    have e2 : R = R % 1000000000000 + 1000000000000 * (R / 1000000000000) := by omega
    generalize R / 1000000000000 = q at *
    generalize R % 1000000000000 = r at *
    rw [h4, e2]; grind
  · intro x hx
    rcases List.mem_append.1 hx with hx | hx
    · exact h.lt x hx
    · rw [List.mem_singleton] at hx; omega
  · intro h0
    exact ⟨R % 1000000000000, gs, rfl, by omega⟩
  · have h4 := h.len
    have h5 : (digs (R / 1000000000000)).length + 1 ≤ (digs R).length := by
      have h6 := digs_mono (m := R / 1000000000000) (n := R / 1048576) (by omega)
      rw [digs_pos hR, List.length_cons]; omega
    rw [List.length_append, List.length_singleton]; omega
  · intro b hb'
    rcases hb with h' | h' | h'
    · rw [h'] at hb'; cases hb'
    · rw [h'] at hb'; exact h.new b hb'
    · rw [h'] at hb'; cases hb'; omega

theorem pad_len : ∀ (k g : Nat), (pad k g).length = k
  | 0, _ => rfl
  | k + 1, g => by rw [pad, List.length_append, pad_len k]; rfl
theorem render_snoc (l : List Nat) (g : Nat) (h : l ≠ []) : render (l ++ [g]) = render l ++ pad 12 g := by
  cases l with
  | nil => exact absurd rfl h
  | cons x l => simp [render]
theorem render_len (l : List Nat) (h : ∀ g ∈ l, g < 1000000000000) : (render l).length ≤ 12 * l.length := by
  cases l with
  | nil => simp [render]
  | cons x l =>
    have h1 := (pad_dec 12 x (by have := h x (by simp); omega) (by omega)).1
    have h2 : (l.flatMap (pad 12)).length = 12 * l.length := by
      induction l with
      | nil => rfl
      | cons y l ih => rw [List.flatMap_cons, List.length_append, pad_len, ih (fun g hg => h g (by simp at hg ⊢; rcases hg with h' | h' <;> simp [h'])), List.length_cons]; omega
    simp only [render, List.length_append, List.length_cons]; omega
/-- The groups, the highest first, and what they render. -/
theorem groups_fin {N : Nat} {gs : List Nat} (he : N = lval gs + 1000000000000 ^ gs.length * 0) (hlt : ∀ g ∈ gs, g < 1000000000000) (hlast : ∃ h t, gs = t ++ [h] ∧ 0 < h) : render gs.reverse = decDigits N ∧ gs.reverse ≠ [] := by
  obtain ⟨h, t, rfl, hh⟩ := hlast
  rw [List.reverse_append, List.reverse_singleton, List.singleton_append]
  refine ⟨?_, by simp⟩
  rw [render_dec h _ hh (fun x hx => hlt x (by simp at hx; simp [hx]))]
  have h1 := hval_rev (t ++ [h])
  rw [List.reverse_append, List.reverse_singleton, List.singleton_append, hval] at h1
  rw [show 0 * 1000000000000 + h = h by omega] at h1
  rw [h1, he, Nat.mul_zero, Nat.add_zero]
theorem get_map_dec (l : List Nat) (k : Nat) (h : k < (l.map decDigits).length) : (l.map decDigits)[k] = decDigits (l.getD k 0) := by
  have h' : k < l.length := by simpa using h
  rw [List.getElem_map, List.getD_eq_getElem?_getD, List.getElem?_eq_getElem h']; rfl
theorem rep_size (c : Nat) : (⟨(List.replicate c (48 : UInt8)).toArray⟩ : ByteArray).size = c := by
  show ((List.replicate c (48 : UInt8)).toArray).size = c
  rw [List.size_toArray, List.length_replicate]
theorem getD_memN (l : List Nat) (k : Nat) (h : k < l.length) : l.getD k 0 ∈ l := by
  rw [List.getD_eq_getElem?_getD, List.getElem?_eq_getElem h]; exact List.getElem_mem h
theorem take_snocN (l : List Nat) (k : Nat) (h : k < l.length) : l.take (k + 1) = l.take k ++ [l.getD k 0] := by
  rw [List.take_succ_eq_append_getElem h, List.getD_eq_getElem?_getD, List.getElem?_eq_getElem h]; rfl

set_option maxHeartbeats 8000000 in
theorem text_ok (v : Value) (a : Int) (w : World) (h : IsB w v a) (he : Env w) (hl : (digs a.natAbs).length ≤ 100000) :
    Calls Tryd.prog 32 #[v] w fun e w' => e = .returned (.string ⟨(itoa a).toArray⟩) ∧ RowKit.Below w.heap.size w w' := by
  obtain ⟨sl, rfl, hi⟩ := id h
  obtain ⟨aa, ca, rfl, _⟩ := hi.open
  obtain ⟨na, ena⟩ : ∃ n, (digs a.natAbs).length = n := ⟨_, rfl⟩
  rw [ena] at h hi hl ⊢
  have HA := Lib.hid h
  have HI := Lib.hid hi
  have HE := Lib.hid he
  have HL : Hid ((digs a.natAbs).length ≤ 100000) := by unfold Hid; omega
  clear h hi he ena
  by_cases h0 : a = 0
  · subst h0
    go_enter Tryd.func32, Tryd.ntmps32
    go_wp2_with fail
    refine (isb_any (HA.out.later (below_alloc _ _))).mono ?_
    rintro e w1 ⟨rfl, hb1⟩
    have hc := (hb1.cell (p := ⟨w.heap.size, 0, none⟩) (by simp)).trans (show (w.alloc (.cells #[.int .i64 0, .slice aa na ca] 24)).cell? ⟨w.heap.size, 0, none⟩ = some (.int .i64 0) by rw [cell_of_row _ _ _ _ _ _ (alloc_at w _)]; rfl)
    have HB := Lib.hid ((below_alloc w _).trans (hb1.mono (by simp)))
    clear hb1
    go_wp2_with fail
    go_ret
    have hz : itoa 0 = [48] := by
      unfold itoa
      rw [if_neg (by omega), show (0 : Int).toNat = 0 from rfl, dec_small (by omega)]; rfl
    rw [hz]
    exact ⟨rfl, HB.out⟩
  · obtain ⟨x, ex⟩ : ∃ x, a.sign = x := ⟨_, rfl⟩
    have hx0 : (x == 0) = false := by rw [← ex]; simpa using h0
    have HX := Lib.hid ex
    rw [ex] at HA ⊢
    have HP : Hid (0 < a.natAbs) := by unfold Hid; omega
    clear ex h0
    go_enter Tryd.func32, Tryd.ntmps32
    go_wp2_with fail
    refine (isb_any (by have := HA.out.later (below_alloc w (.cells #[.int .i64 x, .slice aa na ca] 24)); exact this)).mono ?_
    rintro e w1 ⟨rfl, hb1⟩
    have hrow : w1.heap[w.heap.size]? = some (.cells #[.int .i64 x, .slice aa na ca] 24 (0, 0)) := (hb1.block _ (by simp)).trans (alloc_at w _)
    have c0 : w1.cell? ⟨w.heap.size, 0, none⟩ = some (.int .i64 x) := by rw [cell_of_row _ _ _ _ _ _ hrow]; rfl
    have c1 : w1.cell? ⟨w.heap.size, 1, none⟩ = some (.slice aa na ca) := by rw [cell_of_row _ _ _ _ _ _ hrow]; rfl
    have HB1 := Lib.hid ((below_alloc w (.cells #[.int .i64 x, .slice aa na ca] 24)).trans (hb1.mono (by simp)))
    have HROW := Lib.hid hrow
    clear hb1 hrow
    go_wp2_with fail
    refine (clone_any _ _ _ (HI.out.later HB1.out) (by have := HL.out; omega)).mono ?_
    rintro e w2 ⟨v2, rfl, ho2, hb2, hk2⟩
    obtain ⟨a2, c2, rfl, _, _⟩ := ho2.shape
    have hT : TxR w a.natAbs x (.slice none 0 0) [] (.slice a2 (digs a.natAbs).length c2) a.natAbs w2 := by
      have hsz : w.heap.size < w1.heap.size := (Array.getElem?_eq_some_iff.1 HROW.out).1
      refine ⟨Own.nil _ _ _, ⟨a2, c2, rfl, fun hp => ?_⟩, by simp [lval], by simp, fun h => by have := HP.out; omega, by simp, HB1.out.trans (hb2.mono HB1.out.size), fun b hb => by simp [blk] at hb, ?_, Nat.lt_of_lt_of_le hsz hb2.size⟩
      · obtain ⟨g, cap, hv, hcap, hM, hbk⟩ := ho2.mem (digs_pos_len hp)
        simp at hv
        obtain ⟨rfl, rfl⟩ := hv
        have := hk2 g hbk
        exact ⟨g, rfl, hcap, hM, by omega, by simp [blk]⟩
      · have : w2.heap[w.heap.size]? = some (.cells #[.int .i64 x, .slice aa na ca] 24 (0, 0)) := (hb2.block _ hsz).trans HROW.out
        rw [cell_of_row _ _ _ _ _ _ this]; rfl
    have HT := Lib.hid hT
    have HE2 := Lib.hid (HE.out.later (HB1.out.trans (hb2.mono HB1.out.size)))
    clear ho2 hb2 hk2 hT c0 c1
    go_wp2_with fail
    go_loopw [3, 4] (fun v ra wr => ∃ (gs : List Nat) (R : Nat), TxR w a.natAbs x v gs ra R wr) (fun _ ra _ => match ra with | .slice _ n _ => n | _ => 0)
    case atStart => exact ⟨[], a.natAbs, HT.out⟩
    case round =>
      obtain ⟨gs, R, hr⟩ := hrel
      obtain ⟨a3, c3, rfl, _, _⟩ := hr.own.shape
      obtain ⟨ar, cr, rfl, hrest⟩ := hr.rest
      have HRR := Lib.hid hr
      have HEW := Lib.hid (HE.out.later hr.below)
      rw [List.length_map] at HRR
      rw [List.length_map]
      by_cases hR : 0 < R
      · obtain ⟨g, rfl, hcap, hM, hg, hne⟩ := hrest hR
        have hlen := digs_pos_len hR
        have hdl : (digs R).length ≤ 100000 := by have := hr.len; have := HL.out; omega
        have hgl : gs.length ≤ 100000 := by have := hr.len; have := HL.out; omega
        have hcut := cut_any g cr (digs R) (digs_dig R) wr hM hcap (by omega)
        have HCUT := Lib.hid hcut
        have HG := Lib.hid hg
        rw [List.length_map] at hne
        have HNE := Lib.hid hne
        have HCAP := Lib.hid hcap
        have HGL := Lib.hid hgl
        have HDL := Lib.hid hdl
        clear hcut hg hne hcap hgl hM hr hrest hdl
        obtain ⟨n, en⟩ : ∃ n, (digs R).length = n := ⟨_, rfl⟩
        rw [en] at hlen HCUT ⊢
        have HLEN := Lib.hid en
        clear en
        go_wp2_with fail
        refine HCUT.out.mono ?_
        rintro e w3 ⟨L, rfl, hM3, hL3, hd3, hv3, hg3⟩
        rw [digs_val] at hv3
        rw [digs_val, show (R : Int) % 1000000000000 = ((R % 1000000000000 : Nat) : Int) by omega]
        have HM3 := Lib.hid hM3
        have HL3 := Lib.hid hL3
        have HD3 := Lib.hid hd3
        have HV3 := Lib.hid hv3
        have HG3 := Lib.hid hg3
        have hrlt : R % 1000000000000 < 1000000000000 := by omega
        obtain ⟨r, er⟩ : ∃ r, R % 1000000000000 = r := ⟨_, rfl⟩
        rw [er] at hrlt ⊢
        have HER := Lib.hid er
        clear hM3 hL3 hd3 hv3 hg3 er
        have hB3 : RowKit.Below w.heap.size w w3 := HRR.out.below.grown HG3.out HRR.out.below.size (fun k hk => by cases hk; have := HG.out; omega)
        have HE3 := Lib.hid (HE.out.later hB3)
        clear hB3
        go_wp2_with fail
        refine (itoa_any r (by omega) (by omega) _ HE3.out).mono ?_
        rintro e w4 ⟨rfl, hb4⟩
        rw [Lib.itoa_nonneg]
        have hO4 : OwnS w4 (.slice a3 gs.length c3) (gs.map decDigits) := by
          have h1 : OwnS w3 (.slice a3 gs.length c3) (gs.map decDigits) := Own.grown HRR.out.own HG3.out (.inr HNE.out)
          exact Own.grown h1 (grownBy_none hb4) (by cases h : blk (.slice a3 gs.length c3) <;> simp)
        obtain ⟨a5, c5, w5, hrun, hO5, hg5, hb5⟩ := hO4.snoc (by rw [List.length_map]; have := HGL.out; omega) (decDigits r)
        rw [List.length_map] at hrun hO5 hb5
        obtain ⟨hT5, hM5⟩ := HRR.out.next hR HG.out HNE.out HCAP.out HM3.out HL3.out HD3.out HV3.out HG3.out hb4 (by rw [HER.out]; simpa using hO5) hg5 hb5
        have HT5 := Lib.hid hT5
        have hint : Ints w5 (.slice (some ⟨g, 0, none⟩) L.length cr) L := by
          have h1 := hM5.row 0 L.length (by omega)
          have h2 : (List.drop 0 L).take L.length = L := by simp
          rw [h2] at h1
          exact ⟨_, cr, rfl, by have := HL3.out; have := HCAP.out; omega, by have := HL3.out; have := HDL.out; omega, .inr ⟨g, 0, rfl, hM5.lt, h1⟩⟩
        have htrim := trim_any (some ⟨g, 0, none⟩) cr L HD3.out w5 hint
        have hLn : L.length = n := by rw [HL3.out, HLEN.out]
        rw [hLn, show (val L).toNat = R / 1000000000000 by have := HV3.out; omega] at htrim
        have HTR := Lib.hid htrim
        clear hb4 hO4 hO5 hg5 hb5 hT5 hM5 hint htrim hLn
        go_wp2_with (at_builtin; refine Lib.wpList_append_run _ rfl _ _ _ _ rfl _ _ rfl rfl _ _ (hrun _) ?_)
        refine HTR.out.mono ?_
        rintro e w' ⟨rfl, rfl⟩
        clear hrun
        go_wp2_with fail
        go_roundw
        case rel => exact ⟨_, _, HT5.out⟩
        case measure =>
          have h5 : (digs (R / 1000000000000)).length + 1 ≤ n := by
            have h6 := digs_mono (m := R / 1000000000000) (n := R / 1048576) (by omega)
            rw [← HLEN.out, digs_pos hR, List.length_cons]; omega
          simp; omega
      · have hR0 : R = 0 := by omega
        subst hR0
        have hgl : gs.length ≤ 100000 := by have := hr.len; have := HL.out; omega
        obtain ⟨hrend, hne⟩ := groups_fin hr.eq hr.lt (hr.last rfl)
        obtain ⟨rv, erv⟩ : ∃ rv, gs.reverse = rv := ⟨_, rfl⟩
        have hrl : rv.length = gs.length := by rw [← erv]; simp
        have hrlt : ∀ g ∈ rv, g < 1000000000000 := fun g hg => hr.lt g (by rw [← erv] at hg; simpa using hg)
        rw [erv] at hrend hne
        have hpos : 0 < gs.length := by rw [← hrl]; exact List.length_pos_iff.2 hne
        have hrev := reverse_any _ _ (by rw [List.length_map]; exact hpos) (by rw [List.length_map]; omega) wr hr.own
        rw [← List.map_reverse, erv, List.length_map] at hrev
        have HREV := Lib.hid hrev
        have HREND := Lib.hid hrend
        have HNE := Lib.hid hne
        have HRLT := Lib.hid hrlt
        have HRL := Lib.hid hrl
        obtain ⟨m, em⟩ : ∃ m, gs.length = m := ⟨_, rfl⟩
        rw [em] at hpos hgl HREV HRL HRR ⊢
        have hnil : (digs 0).length = 0 := by rw [digs_zero]; rfl
        rw [hnil]
        clear hr hrest hR hrend hne erv hrl hrlt hrev em hnil
        go_wp2_with fail
        refine HREV.out.mono ?_
        rintro e w3 ⟨rfl, hO3, hg3⟩
        have hB3 : RowKit.Below w.heap.size w w3 := HRR.out.below.grown hg3 HRR.out.below.size (fun k hk => by have := HRR.out.new k hk; omega)
        have c0 : (w3.alloc (Obj.cells #[.pointer none, .slice none 0 0] 71)).cell? ⟨w.heap.size, 0, none⟩ = some (.int .i64 x) := by
          rw [← HRR.out.box]
          refine World.cell?_of_block (w := wr) (a := ⟨w.heap.size, 0, none⟩) ?_
          show (w3.alloc _).heap[w.heap.size]? = _
          rw [Below.heap_alloc _ _ _ (Nat.lt_of_lt_of_le HRR.out.sz hg3.size)]
          exact hg3.block w.heap.size HRR.out.sz (fun e => by have := HRR.out.new _ e.symm; omega)
        have hO3' : OwnS w3 (.slice a3 m c3) (rv.map decDigits) := hO3
        obtain ⟨gb, cb, hv, hcb, _, hgb, hcells⟩ := hO3'.cell (by rw [List.length_map, HRL.out]; exact hpos)
        rw [List.length_map, HRL.out] at hv hcb
        simp at hv
        obtain ⟨rfl, rfl⟩ := hv
        have HCELL : Hid (∀ W, RowKit.Below w3.heap.size w3 W → ∀ k, k < m → W.cell? ⟨gb, k, none⟩ = some (.string ⟨(decDigits (rv.getD k 0)).toArray⟩)) := by
          intro W hW k hk
          rw [hW.cell (p := ⟨gb, k, none⟩) hgb, hcells k (by rw [List.length_map, HRL.out]; exact hk), get_map_dec]
        have HB3 := Lib.hid hB3
        have HW3 : Hid (w.heap.size < w3.heap.size) := Nat.lt_of_lt_of_le HRR.out.sz hg3.size
        have HBF := Lib.hid (BuildAt.fresh w3)
        have hxx : x = -1 ∨ x = 1 := by
          have := sgn_is a
          rw [HX.out] at this
          have := HP.out
          omega
        clear hO3 hO3' hg3 hB3 hcells hgb
        obtain ⟨wo, rfl⟩ : ∃ wo : World, wo = wr := ⟨_, rfl⟩
        have HPRE : Hid ((x = -1 → itoa a = [45] ++ decDigits a.natAbs) ∧ (x = 1 → itoa a = [] ++ decDigits a.natAbs)) := by
          have hs := sgn_is a
          rw [HX.out] at hs
          constructor
          · intro e; unfold itoa; rw [if_pos (by omega)]; rfl
          · intro e; unfold itoa; rw [if_neg (by omega), show a.toNat = a.natAbs by omega]; rfl
        rcases hxx with rfl | rfl
        · have HPR := Lib.hid (HPRE.out.1 rfl)
          clear HPRE
          go_wp2_with fail
          refine (wb_any w3 _ _ 45 _ HBF.out (by simp)).mono ?_
          rintro e w4 ⟨rfl, hb4⟩
          rw [List.nil_append] at hb4
          have HB4 := Lib.hid hb4
          clear hb4 c0
          obtain ⟨pre, ep⟩ : ∃ pre : List UInt8, [45] = pre := ⟨_, rfl⟩
          rw [ep] at HPR HB4
          have hpl : pre.length ≤ 1 := by rw [← ep]; simp
          clear ep
          go_wp2_with fail
          go_loopw [36] (fun i wr => ∃ k : Nat, k ≤ m ∧ i = .int .i64 k ∧ BuildAt w3 w3.heap.size (pre ++ render (rv.take k)) wr) (fun i _ => m - (intOf i).toNat)
          case atStart => exact ⟨0, Nat.zero_le _, rfl, by simpa [render] using HB4.out⟩
          case round =>
            obtain ⟨k, hk, rfl, hb⟩ := hrel
            have HBA := Lib.hid hb
            clear hb
            have hlen : (pre ++ render (rv.take k)).length ≤ 2000000 := by
              have h1 := render_len (rv.take k) (fun g hg => HRLT.out g (List.mem_of_mem_take hg))
              rw [List.length_take] at h1
              rw [List.length_append]; omega
            by_cases hlt : k < m
            · have hck := HCELL.out wr HBA.out.2 k hlt
              have hg : rv.getD k 0 < 1000000000000 := HRLT.out _ (getD_memN rv k (by rw [HRL.out]; exact hlt))
              obtain ⟨g, eg⟩ : ∃ g, rv.getD k 0 = g := ⟨_, rfl⟩
              rw [eg] at hck hg
              have HTS : Hid (rv.take (k + 1) = rv.take k ++ [g]) := by unfold Hid; rw [take_snocN rv k (by rw [HRL.out]; exact hlt), eg]
              obtain ⟨hp1, hp2⟩ := pad_dec 12 g (by omega) (by omega)
              obtain ⟨st, est⟩ : ∃ st : ByteArray, (⟨(decDigits g).toArray⟩ : ByteArray) = st := ⟨_, rfl⟩
              have hst : st.data.toList = decDigits g := by rw [← est]
              have hss : st.size ≤ 12 := by rw [← sizeB, hst]; exact hp1
              have HST := Lib.hid hst
              have HPD : Hid (pad 12 g = List.replicate (12 - st.size) 48 ++ st.data.toList) := by unfold Hid; rw [hp2, ← sizeB, hst]
              rw [est] at hck
              clear eg hp1 hp2 est hst
              by_cases hk0 : k = 0
              · subst hk0
                go_wp2_with fail
                refine (ws_any w3 _ _ st _ HBA.out (by omega) (by omega)).mono ?_
                rintro e w6 ⟨rfl, hb6⟩
                have HB6 : Hid (BuildAt w3 w3.heap.size (pre ++ render (rv.take (0 + 1))) w6) := by
                  unfold Hid
                  rw [HTS.out]
                  have e1 : render (rv.take 0 ++ [g]) = decDigits g := by simp [render]
                  have e2 : render (rv.take 0) = [] := by simp [render]
                  rw [e2, List.append_nil, HST.out] at hb6
                  rw [e1]; exact hb6
                clear hb6
                go_wp2_with fail
                go_roundw
                case rel => exact ⟨0 + 1, by omega, by go_num, HB6.out⟩
                case measure => simp [intOf]; omega
              · have hkp : 0 < k := by omega
                have hc12 : (12 : Int) - (st.size : Int) = ((12 - st.size : Nat) : Int) := by omega
                have HC12 := Lib.hid hc12
                clear hc12 hk0
                go_wp2_with fail
                rw [HC12.out]
                refine (rep_any (12 - st.size) (by omega) _).mono ?_
                rintro e w5 ⟨rfl, hb5⟩
                have HB5 := Lib.hid (HBA.out.later hb5)
                clear hb5
                go_wp2_with fail
                refine (ws_any w3 _ _ ⟨(List.replicate (12 - st.size) (48 : UInt8)).toArray⟩ _ HB5.out (by omega) (by rw [rep_size]; omega)).mono ?_
                rintro e w6 ⟨rfl, hb6⟩
                have HB6 := Lib.hid hb6
                clear hb6
                go_wp2_with fail
                refine (ws_any w3 _ _ st _ HB6.out (by simp only [List.length_append, List.length_replicate] at hlen ⊢; omega) (by omega)).mono ?_
                rintro e w7 ⟨rfl, hb7⟩
                have HB7 : Hid (BuildAt w3 w3.heap.size (pre ++ render (rv.take (k + 1))) w7) := by
                  unfold Hid
                  have hne : rv.take k ≠ [] := fun e => by
                    have := congrArg List.length e
                    rw [List.length_take, HRL.out] at this
                    simp at this; omega
                  rw [HTS.out, render_snoc _ _ hne, HPD.out]
                  simpa [List.append_assoc] using hb7
                clear hb7
                go_wp2_with fail
                go_roundw
                case rel => exact ⟨k + 1, by omega, by go_num, HB7.out⟩
                case measure => simp [intOf]; omega
            · obtain rfl : k = m := by omega
              go_wp2_with fail
              refine (str_any w3 _ _ _ HBA.out).mono ?_
              rintro e w8 ⟨rfl, hb8⟩
              have HB8 := Lib.hid (HB3.out.trans (hb8.mono (Nat.le_of_lt HW3.out)))
              clear hb8
              go_wp2_with fail
              go_ret
              rw [HPR.out, ← HREND.out, List.take_of_length_le (by rw [HRL.out]; omega)]
              exact ⟨rfl, HB8.out⟩
        · have HPR := Lib.hid (HPRE.out.2 rfl)
          clear HPRE
          obtain ⟨w4, ew4⟩ : ∃ w4, w3.alloc (Obj.cells #[.pointer none, .slice none 0 0] 71) = w4 := ⟨_, rfl⟩
          have HB4 := HBF
          rw [ew4] at HB4
          have HEW := Lib.hid ew4
          clear ew4
          obtain ⟨pre, ep⟩ : ∃ pre : List UInt8, [] = pre := ⟨_, rfl⟩
          rw [ep] at HPR HB4
          have hpl : pre.length ≤ 1 := by rw [← ep]; simp
          clear ep
          go_wp2_with fail
          rw [HEW.out]
          go_loopw [36] (fun i wr => ∃ k : Nat, k ≤ m ∧ i = .int .i64 k ∧ BuildAt w3 w3.heap.size (pre ++ render (rv.take k)) wr) (fun i _ => m - (intOf i).toNat)
          case atStart => exact ⟨0, Nat.zero_le _, rfl, by simpa [render] using HB4.out⟩
          case round =>
            obtain ⟨k, hk, rfl, hb⟩ := hrel
            have HBA := Lib.hid hb
            clear hb
            have hlen : (pre ++ render (rv.take k)).length ≤ 2000000 := by
              have h1 := render_len (rv.take k) (fun g hg => HRLT.out g (List.mem_of_mem_take hg))
              rw [List.length_take] at h1
              rw [List.length_append]; omega
            by_cases hlt : k < m
            · have hck := HCELL.out wr HBA.out.2 k hlt
              have hg : rv.getD k 0 < 1000000000000 := HRLT.out _ (getD_memN rv k (by rw [HRL.out]; exact hlt))
              obtain ⟨g, eg⟩ : ∃ g, rv.getD k 0 = g := ⟨_, rfl⟩
              rw [eg] at hck hg
              have HTS : Hid (rv.take (k + 1) = rv.take k ++ [g]) := by unfold Hid; rw [take_snocN rv k (by rw [HRL.out]; exact hlt), eg]
              obtain ⟨hp1, hp2⟩ := pad_dec 12 g (by omega) (by omega)
              obtain ⟨st, est⟩ : ∃ st : ByteArray, (⟨(decDigits g).toArray⟩ : ByteArray) = st := ⟨_, rfl⟩
              have hst : st.data.toList = decDigits g := by rw [← est]
              have hss : st.size ≤ 12 := by rw [← sizeB, hst]; exact hp1
              have HST := Lib.hid hst
              have HPD : Hid (pad 12 g = List.replicate (12 - st.size) 48 ++ st.data.toList) := by unfold Hid; rw [hp2, ← sizeB, hst]
              rw [est] at hck
              clear eg hp1 hp2 est hst
              by_cases hk0 : k = 0
              · subst hk0
                go_wp2_with fail
                refine (ws_any w3 _ _ st _ HBA.out (by omega) (by omega)).mono ?_
                rintro e w6 ⟨rfl, hb6⟩
                have HB6 : Hid (BuildAt w3 w3.heap.size (pre ++ render (rv.take (0 + 1))) w6) := by
                  unfold Hid
                  rw [HTS.out]
                  have e1 : render (rv.take 0 ++ [g]) = decDigits g := by simp [render]
                  have e2 : render (rv.take 0) = [] := by simp [render]
                  rw [e2, List.append_nil, HST.out] at hb6
                  rw [e1]; exact hb6
                clear hb6
                go_wp2_with fail
                go_roundw
                case rel => exact ⟨0 + 1, by omega, by go_num, HB6.out⟩
                case measure => simp [intOf]; omega
              · have hkp : 0 < k := by omega
                have hc12 : (12 : Int) - (st.size : Int) = ((12 - st.size : Nat) : Int) := by omega
                have HC12 := Lib.hid hc12
                clear hc12 hk0
                go_wp2_with fail
                rw [HC12.out]
                refine (rep_any (12 - st.size) (by omega) _).mono ?_
                rintro e w5 ⟨rfl, hb5⟩
                have HB5 := Lib.hid (HBA.out.later hb5)
                clear hb5
                go_wp2_with fail
                refine (ws_any w3 _ _ ⟨(List.replicate (12 - st.size) (48 : UInt8)).toArray⟩ _ HB5.out (by omega) (by rw [rep_size]; omega)).mono ?_
                rintro e w6 ⟨rfl, hb6⟩
                have HB6 := Lib.hid hb6
                clear hb6
                go_wp2_with fail
                refine (ws_any w3 _ _ st _ HB6.out (by simp only [List.length_append, List.length_replicate] at hlen ⊢; omega) (by omega)).mono ?_
                rintro e w7 ⟨rfl, hb7⟩
                have HB7 : Hid (BuildAt w3 w3.heap.size (pre ++ render (rv.take (k + 1))) w7) := by
                  unfold Hid
                  have hne : rv.take k ≠ [] := fun e => by
                    have := congrArg List.length e
                    rw [List.length_take, HRL.out] at this
                    simp at this; omega
                  rw [HTS.out, render_snoc _ _ hne, HPD.out]
                  simpa [List.append_assoc] using hb7
                clear hb7
                go_wp2_with fail
                go_roundw
                case rel => exact ⟨k + 1, by omega, by go_num, HB7.out⟩
                case measure => simp [intOf]; omega
            · obtain rfl : k = m := by omega
              go_wp2_with fail
              refine (str_any w3 _ _ _ HBA.out).mono ?_
              rintro e w8 ⟨rfl, hb8⟩
              have HB8 := Lib.hid (HB3.out.trans (hb8.mono (Nat.le_of_lt HW3.out)))
              clear hb8
              go_wp2_with fail
              go_ret
              rw [HPR.out, ← HREND.out, List.take_of_length_le (by rw [HRL.out]; omega)]
              exact ⟨rfl, HB8.out⟩
end Go.Proofs.YtpcagodnlbdclaaDoor.Bi
