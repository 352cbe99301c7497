/- The contract of Text. The contract of Text. The contract of Gcd, out of that of euclid. The contracts as the laws use them; the contracts of kitbagref04.Same, few, pair. The contract of small. The boxes of a law: what stands since it began. -/
import Derived.Test.YtmhjejnkphdjpaaPB9
import Derived.WalkKit
import Derived.Test.YtmhjejnkphdjpaaPB8
import Derived.Sort.OwnSorted
import Derived.Lib.ItoaLen
import Derived.Lib.Repeat
import Derived.Lib.AppendIntMem
import Derived.Lib.LaidTab
import Derived.WalkSmall
set_option maxRecDepth 100000
namespace Go.Proofs.Ytmhjejnkphdjpaa.Bi
open Go.RowKit
open Go.Lib (decDigits itoa)

/-- The slice v has the strings l, at the head of a block of its own if it has room for any. -/
def OwnS (w : World) (v : Value) (l : List (List UInt8)) : Prop := Own w 9 1 v l.length (l.map encStr)
theorem OwnS.cell {w : World} {v : Value} {l : List (List UInt8)} (h : OwnS w v l) (h0 : 0 < l.length) : ∃ g c, v = .slice (some ⟨g, 0, none⟩) l.length c ∧ l.length ≤ c ∧ blk v = some g ∧ g < w.heap.size ∧ ∀ k (hk : k < l.length), w.cell? ⟨g, k, none⟩ = some (.string ⟨l[k].toArray⟩) := by
  rcases h.2 with ⟨a', hv, hn⟩ | ⟨g, cap, cur, hv, hg, hnc, hc0, hcm, hcs, ht⟩
  · omega
  · refine ⟨g, cap, hv, hnc, by rw [hv]; exact blk_pos hc0, (Array.getElem?_eq_some_iff.1 hg).1, fun k hk => ?_⟩
    have h1 : (cur.toList.take (l.length * 1))[k]? = (l.map encStr)[k]? := by rw [ht]
    rw [List.getElem?_take, if_pos (by omega), List.getElem?_map, List.getElem?_eq_getElem hk, Array.getElem?_toList] at h1
    rw [cell_of_row w g k cur 9 (0, 0) hg]
    exact h1
end Go.Proofs.Ytmhjejnkphdjpaa.Bi

namespace Go.Proofs.Ytmhjejnkphdjpaa.Bi
open Go.RowKit
open Go.Lib (decDigits itoa)

/-- The relation of the loop over groups. -/
structure TxR (w : World) (N : Nat) (sg : Int) (v : Value) (gs : List Nat) (ra : Value) (R : Nat) (W : World) : Prop where
  own : OwnS W v (gs.map decDigits)
  rest : ∃ a c, ra = .slice a (digs R).length c ∧ (0 < R → ∃ g, a = some ⟨g, 0, none⟩ ∧ (digs R).length ≤ c ∧ Mem W g (digs R) ∧ w.heap.size + 1 ≤ g ∧ blk v ≠ some g)
  eq : N = lval gs + 1000000000000 ^ gs.length * R
  lt : ∀ g ∈ gs, g < 1000000000000
  last : R = 0 → ∃ h t, gs = t ++ [h] ∧ 0 < h
  len : gs.length + (digs R).length ≤ (digs N).length
  below : RowKit.Below w.heap.size w W
  new : ∀ b, blk v = some b → w.heap.size + 1 ≤ b
  box : W.cell? ⟨w.heap.size, 0, none⟩ = some (.int .i64 sg)
  sz : w.heap.size < W.heap.size
theorem TxR.next {w : World} {N : Nat} {sg : Int} {v : Value} {gs : List Nat} {R : Nat} {W W1 W2 W3 : World} {g c : Nat} {L : List Int} {a3 : Option Addr} {c3 : Nat} {O : Obj} {ra : Value}
    (h : TxR w N sg v gs ra R W) (hR : 0 < R) (hg : w.heap.size + 1 ≤ g) (hne : blk v ≠ some g) (hc : (digs R).length ≤ c)
    (hM : Mem W1 g L) (hL : L.length = (digs R).length) (hd : Dig L) (hv : val L = (R : Int) / 1000000000000) (h1 : W.grownBy W1 (some g)) (h2 : RowKit.Below W1.heap.size W1 W2)
    (ho : OwnS W3 (.slice a3 (gs.length + 1) c3) ((gs ++ [R % 1000000000000]).map decDigits)) (h3 : (W2.alloc O).grownBy W3 (blk v))
    (hb : blk (.slice a3 (gs.length + 1) c3) = none ∨ blk (.slice a3 (gs.length + 1) c3) = blk v ∨ blk (.slice a3 (gs.length + 1) c3) = some (W2.heap.size + 1)) :
    TxR w N sg (.slice a3 (gs.length + 1) c3) (gs ++ [R % 1000000000000]) (.slice (some ⟨g, 0, none⟩) (digs (R / 1000000000000)).length c) (R / 1000000000000) W3 ∧ Mem W3 g L := by
  have hz := h.below.size
  have hz1 := h1.size
  have hz2 := h2.size
  have hz3 := h3.size
  have hglt := hM.lt
  have e : (val L).toNat = R / 1000000000000 := by omega
  have hM3 : Mem W3 g L := by
    refine ((hM.later h2).later (below_alloc W2 O)).kept (h3.block g (by simp; omega) (fun e => hne e.symm))
  have hb3 : RowKit.Below w.heap.size w W3 := by
    refine ((h.below.grown h1 hz (fun k hk => by cases hk; omega)).trans (h2.mono (by omega))).trans ?_
    exact ((Below.refl _ _).alloc (by omega) O).grown h3 (by simp; omega) (fun k hk => by have := h.new k hk; omega)
  have hbox : W3.cell? ⟨w.heap.size, 0, none⟩ = some (.int .i64 sg) := by
    rw [← h.box]
    have e1 : W3.heap[w.heap.size]? = W.heap[w.heap.size]? := by
      rw [h3.block _ (by simp; have := h.sz; omega) (fun e => by have := h.new _ e.symm; omega), Below.heap_alloc _ _ _ (by have := h.sz; omega), h2.block _ (by have := h.sz; omega), h1.block _ h.sz (fun e => by cases e; omega)]
    exact World.cell?_of_block (w := W) (a := ⟨w.heap.size, 0, none⟩) e1
  have hdl := dig_len hd
  have hdt := dig_take hd
  rw [e] at hdl hdt
  refine ⟨⟨by simpa using ho, ⟨some ⟨g, 0, none⟩, c, rfl, fun hp => ⟨g, rfl, by omega, by rw [← hdt]; exact hM3.take _, hg, ?_⟩⟩, ?_, ?_, ?_, ?_, hb3, ?_, hbox, by have := h.sz; simp at hz3; omega⟩, hM3⟩
  · rcases hb with h' | h' | h'
    · rw [h']; simp
    · rw [h']; exact hne
    · rw [h']; intro e'; cases e'; omega
  · rw [lval_app, List.length_append, List.length_singleton, Nat.pow_succ]
    have h4 := h.eq
    have e2 : R = R % 1000000000000 + 1000000000000 * (R / 1000000000000) := by omega
    generalize R / 1000000000000 = q at *
    generalize R % 1000000000000 = r at *
    rw [h4, e2]; grind
  · intro x hx
    rcases List.mem_append.1 hx with hx | hx
    · exact h.lt x hx
    · rw [List.mem_singleton] at hx; omega
  · intro h0
    exact ⟨R % 1000000000000, gs, rfl, by omega⟩
  · have h4 := h.len
    have h5 : (digs (R / 1000000000000)).length + 1 ≤ (digs R).length := by
      have h6 := digs_mono (m := R / 1000000000000) (n := R / 1048576) (by omega)
      rw [digs_pos hR, List.length_cons]; omega
    rw [List.length_append, List.length_singleton]; omega
  · intro b hb'
    rcases hb with h' | h' | h'
    · rw [h'] at hb'; cases hb'
    · rw [h'] at hb'; exact h.new b hb'
    · rw [h'] at hb'; cases hb'; omega

end Go.Proofs.Ytmhjejnkphdjpaa.Bi

namespace Go.Proofs.Ytmhjejnkphdjpaa.Bi
open Go.RowKit

/-- What a step of Euclid's algorithm leaves. -/
def Euc (X Y : Nat) (w : World) (e : Ending) (w' : World) : Prop :=
  ∃ vx vy X' Y', e = .returned (.tuple #[vx, vy]) ∧ Ints w' vx (digs X') ∧ Ints w' vy (digs Y') ∧ Nat.gcd X' Y' = Nat.gcd X Y ∧ Y' ≤ X' ∧ X' ≤ X ∧ Y' < Y ∧ RowKit.Below w.heap.size w w'
/-- The contract of euclid. -/
def EucAll : Prop := ∀ (W : World) (vx vy : Value) (X Y : Nat), Ints W vx (digs X) → Ints W vy (digs Y) → 3 < (digs X).length → 0 < Y → Y ≤ X → (digs X).length ≤ 1000000 → Calls Try.prog 74 #[vx, vy] W (Euc X Y W)

theorem Ints.uniq {w : World} {v : Value} {l m : List Int} (h : Ints w v l) (k : Ints w v m) : l = m := by
  obtain ⟨a, cap, rfl, _, _, h3⟩ := h
  obtain ⟨hlen, _, _, k3⟩ := k.shape
  apply List.ext_getElem?
  intro i
  by_cases hi : i < l.length
  · obtain ⟨b, o, e, _, hr⟩ := h3.resolve_left (fun e => by rw [e] at hi; simp at hi)
    obtain ⟨b', o', e', _, hr'⟩ := k3 (by omega)
    rw [e] at e'
    cases e'
    have h1 := hr i hi
    rw [hr' i (by omega)] at h1
    have h2 : m.getD i 0 = l.getD i 0 := by simpa using h1
    rw [List.getElem?_eq_getElem hi, List.getElem?_eq_getElem (by omega : i < m.length)]
    rw [List.getD_eq_getElem?_getD, List.getD_eq_getElem?_getD, List.getElem?_eq_getElem hi, List.getElem?_eq_getElem (by omega : i < m.length)] at h2
    exact congrArg some h2.symm
  · rw [List.getElem?_eq_none (by omega), List.getElem?_eq_none (by omega)]
open Classical in
/-- The number that a slice reads as. -/
noncomputable def numOf (v : Value) (w : World) : Nat := if h : ∃ n, Ints w v (digs n) then Classical.choose h else 0
theorem numOf_eq {w : World} {v : Value} {n : Nat} (h : Ints w v (digs n)) : numOf v w = n := by
  have h' : ∃ n, Ints w v (digs n) := ⟨n, h⟩
  unfold numOf
  rw [dif_pos h']
  exact digs_inj ((Classical.choose_spec h').uniq h)
theorem top3_small {n : Nat} (h : (digs n).length ≤ 3) : top3 (digs n) 3 = n := by
  have h0 : dg (digs n) 2 = (digs n).getD 2 0 := dg_n _ 2
  have h1 : dg (digs n) 1 = (digs n).getD 1 0 := dg_n _ 1
  have h2 : dg (digs n) 0 = (digs n).getD 0 0 := dg_n _ 0
  have e1 := val_take (digs n) 0
  have e2 := val_take (digs n) 1
  have e3 := val_take (digs n) 2
  rw [val_take_all _ (by omega : (digs n).length ≤ 2 + 1), digs_val] at e3
  simp [P, val] at e1 e2 e3
  unfold top3
  rw [show (3 : Int) - 1 = 2 by omega, show (3 : Int) - 2 = 1 by omega, show (3 : Int) - 3 = 0 by omega, h0, h1, h2]
  simp
  omega
theorem small_lt {n : Nat} (h : (digs n).length ≤ 3) : n < 1152921504606846976 := by
  have h1 := digs_lt n
  have h2 := P_le h
  simp [P] at h2; omega

set_option maxHeartbeats 8000000 in
theorem gcd_gen (va vb : Value) (a b : Int) (w : World) (ha : IsB w va a) (hb : IsB w vb b) (hla : (digs a.natAbs).length ≤ 1000000) (hlb : (digs b.natAbs).length ≤ 1000000)
    (hE : EucAll ∨ ((digs a.natAbs).length ≤ 3 ∧ (digs b.natAbs).length ≤ 3)) :
    Calls Try.prog 52 #[va, vb] w (Ans (Nat.gcd a.natAbs b.natAbs : Nat) 0 w) := by
  obtain ⟨sa, rfl, hia⟩ := id ha
  obtain ⟨sb, rfl, hib⟩ := id hb
  have HA := Lib.hid ha
  have HB := Lib.hid hb
  have HIA := Lib.hid hia
  have HIB := Lib.hid hib
  obtain ⟨aa, ca, rfl, _⟩ := hia.open
  obtain ⟨ab, cb, rfl, _⟩ := hib.open
  have HLA := Lib.hid hla
  have HLB := Lib.hid hlb
  have HEU := Lib.hid hE
  obtain ⟨na, ena⟩ : ∃ n, (digs a.natAbs).length = n := ⟨_, rfl⟩
  obtain ⟨nb, enb⟩ : ∃ n, (digs b.natAbs).length = n := ⟨_, rfl⟩
  rw [ena] at HA HIA ⊢
  rw [enb] at HB HIB ⊢
  have hx := Bx.start w a.sign (.slice aa na ca) b.sign (.slice ab nb cb)
  have HX0 := Lib.hid hx
  obtain ⟨G, eG⟩ : ∃ G, Nat.gcd a.natAbs b.natAbs = G := ⟨_, rfl⟩
  have HG := Lib.hid eG
  rw [eG]
  have HNA := Lib.hid ena
  have HNB := Lib.hid enb
  clear ha hb hia hib hx ena enb hla hlb hE eG
  go_enter Try.func52, Try.ntmps52
  go_wp2_with fail
  refine (isb_any (HA.out.later HX0.out.below)).mono ?_
  rintro e w1 ⟨rfl, hb1⟩
  have HX1 := Lib.hid (HX0.out.later hb1)
  obtain ⟨c00, c01, c10, c11⟩ := HX1.out.cells
  clear hb1
  go_wp2_with fail
  refine (isb_any (HB.out.later HX1.out.below)).mono ?_
  rintro e w2 ⟨rfl, hb2⟩
  have HX2 := Lib.hid (HX1.out.later hb2)
  obtain ⟨d00, d01, d10, d11⟩ := HX2.out.cells
  clear hb2 c00 c01 c10 c11
  go_wp2_with fail
  go_quiet (fail)
  have HX3 := Lib.hid (HX2.out.heap (W' := w2.drewN nq) rfl rfl rfl rfl)
  clear d00 d01 d10 d11
  go_wp2_with fail
  refine (compare_any _ _ a.natAbs b.natAbs _ (HIA.out.later HX3.out.below) (HIB.out.later HX3.out.below)).mono ?_
  rintro e w4 ⟨rfl, q, hw4⟩
  have HX4 : Hid (Bx w a.sign (.slice aa na ca) b.sign (.slice ab nb cb) w4) := by rw [hw4]; exact HX3.out.heap rfl rfl rfl rfl
  clear hw4
  have hsplit : cmpI a.natAbs b.natAbs < 0 ∧ a.natAbs < b.natAbs ∨ (0 ≤ cmpI a.natAbs b.natAbs ∧ ¬ cmpI a.natAbs b.natAbs < 0) ∧ b.natAbs ≤ a.natAbs := by
    rcases Nat.lt_or_ge a.natAbs b.natAbs with h | h
    · left; exact ⟨by rw [cmpI_lt (by omega)]; omega, h⟩
    · right
      have : 0 ≤ cmpI a.natAbs b.natAbs := by unfold cmpI; rw [if_neg (by omega)]; split <;> omega
      exact ⟨⟨this, by omega⟩, h⟩
  have HS := Lib.hid hsplit
  clear hsplit
  obtain ⟨c, ec⟩ : ∃ c, cmpI (a.natAbs : Int) (b.natAbs : Int) = c := ⟨_, rfl⟩
  rw [ec] at HS ⊢
  clear ec
  rcases HS.out with ⟨hc, hlt⟩ | ⟨⟨hc0, hc⟩, hlt⟩
  all_goals
    have HLT := Lib.hid hlt
    clear hlt
    go_wp2_with fail
    go_loopw [6, 7] (fun x y wr => ∃ X Y : Nat, Ints wr x (digs X) ∧ Ints wr y (digs Y) ∧ Nat.gcd X Y = G ∧ Y ≤ X ∧ (X ≤ a.natAbs ∨ X ≤ b.natAbs) ∧ (digs X).length ≤ 1000000 ∧ Bx w a.sign (.slice aa na ca) b.sign (.slice ab nb cb) wr) (fun _ y wr => numOf y wr)
    case atStart =>
      first
      | exact ⟨a.natAbs, b.natAbs, HIA.out.later HX4.out.below, HIB.out.later HX4.out.below, HG.out, HLT.out, .inl (Nat.le_refl _), HLA.out, HX4.out⟩
      | exact ⟨b.natAbs, a.natAbs, HIB.out.later HX4.out.below, HIA.out.later HX4.out.below, by rw [Nat.gcd_comm]; exact HG.out, Nat.le_of_lt HLT.out, .inr (Nat.le_refl _), HLB.out, HX4.out⟩
    case round =>
      obtain ⟨X, Y, hX, hY, hg, hle, hin, hlen, hB⟩ := hrel
      have hnum := numOf_eq hY
      obtain ⟨ax, cx, rfl, hX2⟩ := hX.open
      obtain ⟨ay, cy, rfl, hY2⟩ := hY.open
      have HX := Lib.hid hX2
      have HY := Lib.hid hY2
      have HGG := Lib.hid hg
      have HLE := Lib.hid hle
      have HIN := Lib.hid hin
      have HLEN := Lib.hid hlen
      have HBX := Lib.hid hB
      have HNUM := Lib.hid hnum
      obtain ⟨lx, elx⟩ : ∃ l, (digs X).length = l := ⟨_, rfl⟩
      obtain ⟨ly, ely⟩ : ∃ l, (digs Y).length = l := ⟨_, rfl⟩
      rw [elx] at HX ⊢
      rw [ely] at HY HNUM ⊢
      have HLX := Lib.hid elx
      have HLY := Lib.hid ely
      clear hX hY hX2 hY2 hg hle hin hlen hB hnum elx ely
      by_cases h3 : 3 < lx
      · by_cases hy0 : 0 < ly
        · have hE : EucAll := by
            rcases HEU.out with h | ⟨h1, h2⟩
            · exact h
            · exfalso
              have hx3 := HLX.out
              rcases HIN.out with h | h
              · have := digs_mono h; omega
              · have := digs_mono h; omega
          have hYp : 0 < Y := by
            rcases Nat.eq_zero_or_pos Y with e | e
            · have := HLY.out; rw [e, digs_zero] at this; simp at this; omega
            · exact e
          have hcall := hE wr _ _ X Y HX.out HY.out (by rw [HLX.out]; exact h3) hYp HLE.out HLEN.out
          have HCALL := Lib.hid hcall
          clear hE hcall
          go_wp2_with fail
          refine HCALL.out.mono ?_
          rintro e w6 ⟨vx, vy, X', Y', rfl, hx', hy', hg', hle', hlx', hlt', hb'⟩
          obtain ⟨ax', cx', rfl, hx2⟩ := hx'.open
          obtain ⟨ay', cy', rfl, hy2⟩ := hy'.open
          have HF : Hid (∃ X Y : Nat, Ints w6 (.slice ax' (digs X').length cx') (digs X) ∧ Ints w6 (.slice ay' (digs Y').length cy') (digs Y) ∧ Nat.gcd X Y = G ∧ Y ≤ X ∧ (X ≤ a.natAbs ∨ X ≤ b.natAbs) ∧ (digs X).length ≤ 1000000 ∧ Bx w a.sign (.slice aa na ca) b.sign (.slice ab nb cb) w6) :=
            ⟨X', Y', hx2, hy2, by rw [hg']; exact HGG.out, hle', by rcases HIN.out with h | h; (left; omega); (right; omega), by have := digs_mono hlx'; have := HLEN.out; omega, HBX.out.later hb'⟩
          have HM : Hid (numOf (.slice ay' (digs Y').length cy') w6 = Y') := numOf_eq hy2
          have HLT2 := Lib.hid hlt'
          clear hx' hy' hg' hle' hlx' hlt' hb' hx2 hy2
          go_wp2_with fail
          go_roundw
          case rel => exact HF.out
          case measure =>
            show numOf (.slice ay' (digs Y').length cy') w6 < numOf (.slice ay ly cy) wr
            rw [HM.out, HNUM.out]; exact HLT2.out
        · obtain rfl : ly = 0 := by omega
          have hXG : X = G := by
            have h := HGG.out
            rw [digs_len0.1 HLY.out, Nat.gcd_zero_right] at h; exact h
          obtain ⟨r0, r1, f0, f1⟩ := HBX.out.rcells
          have HXG := Lib.hid hXG
          clear hXG r0 r1 f0 f1
          go_wp2_with fail
          refine (clone_any _ _ _ HX.out (by have := HLEN.out; omega)).mono ?_
          rintro e w6 ⟨v6, rfl, ho6, hb6, hk6⟩
          obtain ⟨a6, c6, rfl, _, _⟩ := ho6.shape
          have HO6 := Lib.hid ho6
          have HK6 := Lib.hid hk6
          have HB6 := Lib.hid (HBX.out.later hb6)
          have HI6 := Lib.hid (ho6.ints (by have := HLEN.out; omega))
          clear ho6 hb6 hk6
          go_wp2_with fail
          refine (signed_any 1 a6 c6 (digs X) (digs_dig X) (G : Int) (by rw [digs_val, HXG.out]; simp) (fun hne => by rw [Int.sign_eq_one_of_pos (by omega)]) _ HI6.out).mono ?_
          rintro e w7 ⟨s7, rfl, hi7, hb7, ho7⟩
          obtain ⟨a7, c7, rfl, hj7⟩ := hi7.open
          have HO7 := Lib.hid ho7
          have HX7 := Lib.hid (HB6.out.later hb7)
          have HI7 := Lib.hid hj7
          clear hi7 hj7 hb7 ho7
          obtain ⟨r0, r1, f0, f1⟩ := HX7.out.rcells
          obtain ⟨sg, esg⟩ : ∃ sg, (G : Int).sign = sg := ⟨_, rfl⟩
          obtain ⟨lg, elg⟩ : ∃ lg, (digs (G : Int).natAbs).length = lg := ⟨_, rfl⟩
          have HI8 := HI7
          have HO8 := HO7
          rw [elg] at HI8 HO8
          rw [esg, elg]
          have HSG := Lib.hid esg
          have HLG := Lib.hid elg
          clear esg elg
          go_wp2_with fail
          have hf := blk_fresh HO6.out (B := wr.heap.size) HK6.out
          have hoff := HO8.out (w.heap.size + 1 + 1) (hf _ HBX.out.size)
          exact bodyPost_ret (v := .tuple #[.agg #[.int .i64 sg, .slice a7 lg c7], .int .i64 0]) (by simp [results, Try.results52, go_sem, r0, r1]) rfl
            ⟨_, by rw [HSG.out], (HI8.out.set hoff 0 _).set hoff 1 _, HX7.out.put _ _, fun g hg => HO8.out g (hf g (by have := HBX.out.size; omega))⟩
      · have hlx3 : (digs X).length ≤ 3 := by rw [HLX.out]; omega
        have hly3 : (digs Y).length ≤ 3 := by have := digs_mono HLE.out; omega
        have hXs := small_lt hlx3
        have hYs := small_lt hly3
        have HX3 : Hid (top3 (digs X) 3 = X) := top3_small hlx3
        have HY3 : Hid (top3 (digs Y) 3 = Y) := top3_small hly3
        clear hlx3 hly3
        by_cases hy0 : 0 < ly <;>
        · go_wp2_with fail
          refine (top_any _ (digs X) 3 (digs_dig X) (by omega) (by omega) _ HX.out).mono ?_
          rintro e w' ⟨rfl, rfl⟩
          rw [HX3.out]
          go_wp2_with fail
          refine (top_any _ (digs Y) 3 (digs_dig Y) (by omega) (by omega) _ HY.out).mono ?_
          rintro e w' ⟨rfl, rfl⟩
          rw [HY3.out]
          obtain ⟨wo, rfl⟩ : ∃ wo : World, wo = wr := ⟨_, rfl⟩
          go_wp2_with fail
          go_loopw [8, 9] (fun n m wx => ∃ N M : Nat, n = .int .i64 N ∧ m = .int .i64 M ∧ Nat.gcd N M = G ∧ N < 1152921504606846976 ∧ M < 1152921504606846976 ∧ Bx w a.sign (.slice aa na ca) b.sign (.slice ab nb cb) wx) (fun _ m _ => (intOf m).toNat)
          case atStart => exact ⟨X, Y, rfl, rfl, HGG.out, hXs, hYs, HBX.out⟩
          case round =>
            obtain ⟨N, M, rfl, rfl, hgc, hN, hM, hbx⟩ := hrel
            have HGC := Lib.hid hgc
            have HBB := Lib.hid hbx
            clear hgc hbx
            by_cases hM0 : 0 < M
            · have hr1 : Int.tmod (N : Int) (M : Int) = ((N % M : Nat) : Int) := by rw [Int.tmod_eq_emod_of_nonneg (by omega)]; rfl
              have hlt : N % M < M := Nat.mod_lt _ hM0
              have hw : IntKind.i64.wrap (Int.tmod (N : Int) (M : Int)) = ((N % M : Nat) : Int) := by rw [hr1]; exact IntWalk.i64_in _ (by omega)
              have hne : ¬ (M : Int) = 0 := by omega
              obtain ⟨r, er⟩ : ∃ r, N % M = r := ⟨_, rfl⟩
              rw [er] at hr1 hw hlt
              have HR := Lib.hid er
              clear er
              go_wp2_with fail
              go_quiet (fail)
              go_wp2_with fail
              go_roundw
              case rel => exact ⟨M, r, rfl, rfl, by rw [← HR.out, Nat.gcd_comm, ← Nat.gcd_rec, Nat.gcd_comm]; exact HGC.out, hM, by omega, HBB.out.heap rfl rfl rfl rfl⟩
              case measure => simp [intOf]; omega
            · obtain rfl : M = 0 := by omega
              have hNG : N = G := by have := HGC.out; rwa [Nat.gcd_zero_right] at this
              subst hNG
              go_wp2_with fail
              refine (of_any N (by omega) (by omega) _).mono ?_
              rintro e w7 ⟨s7, rfl, hi7, hb7, hf7⟩
              obtain ⟨a7, c7, rfl, hj7⟩ := hi7.open
              have HX7 := Lib.hid (HBB.out.later hb7)
              have HI7 := Lib.hid hj7
              have HF7 := Lib.hid hf7
              clear hi7 hj7 hb7 hf7
              obtain ⟨r0, r1, f0, f1⟩ := HX7.out.rcells
              obtain ⟨sg, esg⟩ : ∃ sg, (N : Int).sign = sg := ⟨_, rfl⟩
              obtain ⟨lg, elg⟩ : ∃ lg, (digs (N : Int).natAbs).length = lg := ⟨_, rfl⟩
              have HI8 := HI7
              have HF8 := HF7
              rw [elg] at HI8 HF8
              rw [esg, elg]
              have HSG := Lib.hid esg
              clear esg elg
              go_wp2_with fail
              have hoff := HF8.out (w.heap.size + 1 + 1) HBB.out.size
              exact bodyPost_ret (v := .tuple #[.agg #[.int .i64 sg, .slice a7 lg c7], .int .i64 0]) (by simp [results, Try.results52, go_sem, r0, r1]) rfl
                ⟨_, by rw [HSG.out], (HI8.out.set hoff 0 _).set hoff 1 _, HX7.out.put _ _, fun g hg => HF8.out g (by have := HBB.out.size; omega)⟩
end Go.Proofs.Ytmhjejnkphdjpaa.Bi

namespace Go.Proofs.Ytmhjejnkphdjpaa.Bi
open Go.RowKit

/-- The sign and the slice are those of the number z. -/
def Num (w : World) (sg : Int) (s : Value) (z : Int) : Prop := sg = z.sign ∧ Ints w s (digs z.natAbs)
theorem Num.isb {w : World} {sg : Int} {s : Value} {z : Int} (h : Num w sg s z) : IsB w (.agg #[.int .i64 sg, s]) z := ⟨s, by rw [h.1], h.2⟩
theorem Num.arg {w : World} {sg : Int} {s : Value} {z : Int} (h : Num w sg s z) : Arg w (.agg #[.int .i64 sg, s]) z.sign (digs z.natAbs) := ⟨s, by rw [h.1], h.2⟩
theorem Num.later {w w' : World} {sg : Int} {s : Value} {z : Int} (h : Num w sg s z) (hb : RowKit.Below w.heap.size w w') : Num w' sg s z := ⟨h.1, h.2.later hb⟩
theorem Num.set {w : World} {sg : Int} {s : Value} {z : Int} {g : Nat} (h : Num w sg s z) (ho : Off s g) (o : Nat) (u : Value) : Num (w.setCell ⟨g, o, none⟩ u) sg s z := ⟨h.1, h.2.set ho o u⟩
/-- A call that returns the number z, in new memory or none. -/
def BV (z : Int) (w : World) (e : Ending) (w' : World) : Prop := ∃ sg a n c, e = .returned (.agg #[.int .i64 sg, .slice a n c]) ∧ Num w' sg (.slice a n c) z ∧ RowKit.Below w.heap.size w w' ∧ Fresh w.heap.size (.slice a n c)
/-- .. with an error's code. -/
def BVE (z er : Int) (w : World) (e : Ending) (w' : World) : Prop := ∃ sg a n c, e = .returned (.tuple #[.agg #[.int .i64 sg, .slice a n c], .int .i64 er]) ∧ Num w' sg (.slice a n c) z ∧ RowKit.Below w.heap.size w w' ∧ Fresh w.heap.size (.slice a n c)
/-- Two numbers and a code. -/
def BVD (q r er : Int) (w : World) (e : Ending) (w' : World) : Prop := ∃ sg a n c tg b m d, e = .returned (.tuple #[.agg #[.int .i64 sg, .slice a n c], .agg #[.int .i64 tg, .slice b m d], .int .i64 er]) ∧ Num w' sg (.slice a n c) q ∧ Num w' tg (.slice b m d) r ∧ RowKit.Below w.heap.size w w' ∧ Fresh w.heap.size (.slice a n c) ∧ Fresh w.heap.size (.slice b m d)
theorem AnsB.bv {z : Int} {w : World} {e : Ending} {w' : World} (h : AnsB z w e w') : BV z w e w' := by
  obtain ⟨s, rfl, hi, hb, hf⟩ := h
  obtain ⟨a, c, rfl, hj⟩ := hi.open
  exact ⟨_, a, _, c, rfl, ⟨rfl, hj⟩, hb, hf⟩
theorem Ans.bve {z er : Int} {w : World} {e : Ending} {w' : World} (h : Ans z er w e w') : BVE z er w e w' := by
  obtain ⟨s, rfl, hi, hb, hf⟩ := h
  obtain ⟨a, c, rfl, hj⟩ := hi.open
  exact ⟨_, a, _, c, rfl, ⟨rfl, hj⟩, hb, hf⟩
theorem AnsD.bvd {q r er : Int} {w : World} {e : Ending} {w' : World} (h : AnsD q r er w e w') : BVD q r er w e w' := by
  obtain ⟨s, t, rfl, hi, hj, hb, hf, hg⟩ := h
  obtain ⟨a, c, rfl, hk⟩ := hi.open
  obtain ⟨b, d, rfl, hl⟩ := hj.open
  exact ⟨_, a, _, c, _, b, _, d, rfl, ⟨rfl, hk⟩, ⟨rfl, hl⟩, hb, hf, hg⟩

def Len (k : Nat) (z : Int) : Prop := (digs z.natAbs).length ≤ k
theorem Len.of {z : Int} (h : z.natAbs < 18446744073709551616) : Len 100000 z := Nat.le_trans (digs_len4 h) (by omega)

section
variable {w : World} {sa sb : Int} {va vb : Value} {a b : Int}
theorem of_k (z : Int) (h : -9223372036854775808 ≤ z ∧ z ≤ 9223372036854775807) (w : World) : Calls Try.prog 47 #[.int .i64 z] w (BV z w) := (of_any z h.1 h.2 w).mono fun _ _ h => h.bv
theorem mul_k (ha : Num w sa va a) (hb : Num w sb vb b) (la : Len 100000 a) (lb : Len 100000 b) : Calls Try.prog 57 #[.agg #[.int .i64 sa, va], .agg #[.int .i64 sb, vb]] w (BVE (a * b) 0 w) :=
  (mul_ok _ _ a b w ha.isb hb.isb (Nat.le_trans la (by omega)) (Nat.le_trans lb (by omega))).mono fun _ _ h => h.bve
theorem add_k (ha : Num w sa va a) (hb : Num w sb vb b) (la : Len 100000 a) (lb : Len 100000 b) : Calls Try.prog 71 #[.agg #[.int .i64 sa, va], .agg #[.int .i64 sb, vb]] w (BVE (a + b) 0 w) :=
  (add_ok _ _ a b w ha.isb hb.isb (Nat.le_trans la (by omega)) (Nat.le_trans lb (by omega))).mono fun _ _ h => h.bve
theorem sub_k (ha : Num w sa va a) (hb : Num w sb vb b) (la : Len 100000 a) (lb : Len 100000 b) : Calls Try.prog 56 #[.agg #[.int .i64 sa, va], .agg #[.int .i64 sb, vb]] w (BVE (a - b) 0 w) :=
  (sub_ok _ _ a b w ha.isb hb.isb (Nat.le_trans la (by omega)) (Nat.le_trans lb (by omega))).mono fun _ _ h => h.bve
theorem div_k (ha : Num w sa va a) (hb : Num w sb vb b) (la : Len 100000 a) (lb : Len 100000 b) (h0 : b ≠ 0) : Calls Try.prog 79 #[.agg #[.int .i64 sa, va], .agg #[.int .i64 sb, vb]] w (BVD (a.fdiv b) (a.fmod b) 0 w) :=
  (div_ok _ _ a b w ha.isb hb.isb (Nat.le_trans la (by omega)) (Nat.le_trans lb (by omega)) h0).mono fun _ _ h => h.bvd
theorem neg_k (ha : Num w sa va a) (la : Len 100000 a) : Calls Try.prog 54 #[.agg #[.int .i64 sa, va]] w (BV (-a) w) := (neg_ok _ a w ha.isb (Nat.le_trans la (by omega))).mono fun _ _ h => h.bv
theorem cmp_k (ha : Num w sa va a) (hb : Num w sb vb b) : Calls Try.prog 86 #[.agg #[.int .i64 sa, va], .agg #[.int .i64 sb, vb]] w fun e w' => e = .returned (.int .i64 (cmpI a b)) ∧ RowKit.Below w.heap.size w w' := compareB_ok _ _ a b w ha.isb hb.isb
theorem num_eq {a b : Int} : (a.sign = b.sign ∧ digs a.natAbs = digs b.natAbs) ↔ a = b := by
  constructor
  · rintro ⟨h1, h2⟩
    have := digs_inj h2
    have e1 := Int.sign_mul_natAbs a
    have e2 := Int.sign_mul_natAbs b
    rw [← e1, ← e2, h1, this]
  · rintro rfl; exact ⟨rfl, rfl⟩
theorem same_k (ha : Num w sa va a) (hb : Num w sb vb b) : Calls Try.prog 53 #[.agg #[.int .i64 sa, va], .agg #[.int .i64 sb, vb]] w fun e w' => e = .returned (.bool (decide (a = b))) ∧ RowKit.Below w.heap.size w w' := by
  have := same_any _ _ _ _ _ _ w ha.arg hb.arg
  rwa [decide_eq_decide.2 (num_eq (a := a) (b := b))] at this
end

set_option maxHeartbeats 2000000 in
theorem rsame_any (va vb : Value) (s t : Int) (l m : List Int) (w : World) (ha : Arg w va s l) (hb : Arg w vb t m) :
    Calls Try.prog 62 #[va, vb] w fun e w' => e = .returned (.bool (decide (s = t ∧ l = m))) ∧ RowKit.Below w.heap.size w w' := by
  obtain ⟨va', rfl, hia⟩ := id ha
  obtain ⟨vb', rfl, hib⟩ := id hb
  obtain ⟨aa, ca, rfl, ha1, ha2, ha3⟩ := id hia
  obtain ⟨ab, cb, rfl, hb1, hb2, hb3⟩ := id hib
  obtain ⟨na, ena⟩ : ∃ n, l.length = n := ⟨_, rfl⟩
  obtain ⟨nb, enb⟩ : ∃ n, m.length = n := ⟨_, rfl⟩
  have HCA : Hid (∀ k, k < na → ∃ b o, aa = some ⟨b, o, none⟩ ∧ ∀ A B q, (((w.alloc A).alloc B).drewN q).cell? ⟨b, o + k, none⟩ = some (.int .i64 (l.getD k 0))) := by
    intro k hk
    obtain ⟨b, o, e, hlt, hr⟩ := ha3.resolve_left (fun e => by rw [e] at ena; simp at ena; omega)
    exact ⟨b, o, e, fun A B q => ((two_alloc w A B).cell (p := ⟨b, o + k, none⟩) hlt).trans (hr k (by omega))⟩
  have HCB : Hid (∀ k, k < nb → ∃ b o, ab = some ⟨b, o, none⟩ ∧ ∀ A B q, (((w.alloc A).alloc B).drewN q).cell? ⟨b, o + k, none⟩ = some (.int .i64 (m.getD k 0))) := by
    intro k hk
    obtain ⟨b, o, e, hlt, hr⟩ := hb3.resolve_left (fun e => by rw [e] at enb; simp at enb; omega)
    exact ⟨b, o, e, fun A B q => ((two_alloc w A B).cell (p := ⟨b, o + k, none⟩) hlt).trans (hr k (by omega))⟩
  have HLA := Lib.hid ena
  have HLB := Lib.hid enb
  rw [ena] at ha1 ha2 ⊢
  rw [enb] at hb1 hb2 ⊢
  by_cases hst : s = t
  · subst hst
    by_cases hl : na = nb
    · subst hl
      have hd : decide (s = s ∧ l = m) = decide (l = m) := by simp
      rw [hd]
      clear ha hb hia hib ha3 hb3 ena enb hd
      go_enter Try.func62, Try.ntmps62
      go_wp2_with fail
      go_loopw [5] (fun t wr => ∃ k q : Nat, k ≤ na ∧ t = .int .i64 k ∧ l.take k = m.take k ∧ wr = ((w.alloc (.cells #[.int .i64 s, .slice aa na ca] 32)).alloc (.cells #[.int .i64 s, .slice ab na cb] 32)).drewN q) (fun t _ => na - (intOf t).toNat)
      case atStart => exact ⟨0, 0, Nat.zero_le _, rfl, rfl, rfl⟩
      case round =>
        obtain ⟨k, q, hk, rfl, htk, rfl⟩ := hrel
        have HT := Lib.hid htk
        clear htk
        by_cases hlt : k < na
        · obtain ⟨b, o, rfl, hcx0⟩ := HCA.out k hlt
          obtain ⟨b', o', rfl, hcy0⟩ := HCB.out k hlt
          have hcx := hcx0 (.cells #[.int .i64 s, .slice (some ⟨b, o, none⟩) na ca] 32) (.cells #[.int .i64 s, .slice (some ⟨b', o', none⟩) na cb] 32) q
          have hcy := hcy0 (.cells #[.int .i64 s, .slice (some ⟨b, o, none⟩) na ca] 32) (.cells #[.int .i64 s, .slice (some ⟨b', o', none⟩) na cb] 32) q
          clear hcx0 hcy0
          simp only [World.cell?_drewN] at hcx hcy
          obtain ⟨x, ex⟩ : ∃ x, l.getD k 0 = x := ⟨_, rfl⟩
          obtain ⟨y, ey⟩ : ∃ y, m.getD k 0 = y := ⟨_, rfl⟩
          rw [ex] at hcx
          rw [ey] at hcy
          have HX := Lib.hid ex
          have HY := Lib.hid ey
          have hki : (k : Int) < na := by omega
          clear ex ey
          have hs1 := fun h1 : k < l.length => List.take_succ_eq_append_getElem h1
          have hs2 := fun h1 : k < m.length => List.take_succ_eq_append_getElem h1
          have HS1 := Lib.hid hs1
          have HS2 := Lib.hid hs2
          clear hs1 hs2
          by_cases hxy : x = y
          · subst hxy
            have hq : (x != x) = false := by simp
            go_wp2_with fail
            go_quiet (fail)
            go_wp2_with fail
            go_roundw
            case rel =>
              refine ⟨k + 1, _, by omega, by go_num, ?_, rfl⟩
              have h1 : k < l.length := by rw [HLA.out]; exact hlt
              have h2 : k < m.length := by rw [HLB.out]; exact hlt
              rw [HS1.out h1, HS2.out h2, HT.out]
              have e1 : l[k] = x := by have := HX.out; rw [List.getD_eq_getElem?_getD, List.getElem?_eq_getElem h1] at this; exact this
              have e2 : m[k] = x := by have := HY.out; rw [List.getD_eq_getElem?_getD, List.getElem?_eq_getElem h2] at this; exact this
              rw [e1, e2]
            case measure => simp [intOf]; omega
          · have hq : (x != y) = true := by simpa using hxy
            have hne : decide (l = m) = false := by
              simp; intro e
              have h1 := HX.out
              rw [e, HY.out] at h1
              exact hxy h1.symm
            have HNE := Lib.hid hne
            clear hxy hne
            go_wp2_with fail
            go_quiet (fail)
            go_wp2_with fail
            go_ret
            rw [HNE.out]
            exact ⟨rfl, (two_alloc _ _ _).trans (⟨rfl, rfl, rfl, Nat.le_refl _, fun _ _ => rfl⟩)⟩
        · obtain rfl : k = na := by omega
          have heq : decide (l = m) = true := by
            have h := HT.out
            rw [List.take_of_length_le (by rw [HLA.out]; omega), List.take_of_length_le (by rw [HLB.out]; omega)] at h
            simpa using h
          have HEQ := Lib.hid heq
          clear heq
          go_wp2_with fail
          go_ret
          rw [HEQ.out]
          exact ⟨rfl, (two_alloc _ _ _).trans (⟨rfl, rfl, rfl, Nat.le_refl _, fun _ _ => rfl⟩)⟩
    · have hd : decide (s = s ∧ l = m) = false := by
        simp; intro e
        rw [e] at HLA
        exact hl (HLA.out.symm.trans HLB.out)
      rw [hd]
      have hq : ((na : Int) != nb) = true := by simp; omega
      clear ha hb hia hib ha3 hb3 ena enb hd hl
      go_enter Try.func62, Try.ntmps62
      go_wp2_with fail
      go_ret
      exact ⟨rfl, two_alloc _ _ _⟩
  · have hd : decide (s = t ∧ l = m) = false := by simp [hst]
    rw [hd]
    have hq : (s != t) = true := by simpa using hst
    clear ha hb hia hib ha3 hb3 ena enb hd hst
    go_enter Try.func62, Try.ntmps62
    go_wp2_with fail
    go_ret
    exact ⟨rfl, two_alloc _ _ _⟩
end Go.Proofs.Ytmhjejnkphdjpaa.Bi

namespace Go.Proofs.Ytmhjejnkphdjpaa.Bi
open Go.RowKit

/-- Block b is a box of the number z, with the sign sg and the slice v. -/
def Bk (b : Nat) (sg : Int) (v : Value) (z : Int) (W : World) : Prop := W.heap[b]? = some (.cells #[.int .i64 sg, v] 32 (0, 0)) ∧ Num W sg v z
theorem Bk.later {b : Nat} {sg : Int} {v : Value} {z : Int} {W W' : World} (h : Bk b sg v z W) (hb : RowKit.Below W.heap.size W W') : Bk b sg v z W' :=
  ⟨(hb.block b (Array.getElem?_eq_some_iff.1 h.1).1).trans h.1, h.2.later hb⟩
theorem Bk.cells {b : Nat} {sg : Int} {v : Value} {z : Int} {W : World} (h : Bk b sg v z W) : W.cell? ⟨b, 0, none⟩ = some (.int .i64 sg) ∧ W.cell? ⟨b, 1, none⟩ = some v :=
  ⟨by rw [cell_of_row _ _ _ _ _ _ h.1]; rfl, by rw [cell_of_row _ _ _ _ _ _ h.1]; rfl⟩
/-- Since w nothing old has turned, and the boxes of L stand. -/
structure St (w : World) (L : List (Nat × Int × Value × Int)) (W : World) : Prop where
  below : RowKit.Below w.heap.size w W
  box : ∀ x ∈ L, Bk x.1 x.2.1 x.2.2.1 x.2.2.2 W
theorem St.start (w : World) : St w [] w := ⟨Below.refl _ _, fun x hx => by cases hx⟩
theorem St.later {w W W' : World} {L : List (Nat × Int × Value × Int)} (h : St w L W) (hb : RowKit.Below W.heap.size W W') : St w L W' :=
  ⟨h.below.trans (hb.mono h.below.size), fun x hx => (h.box x hx).later hb⟩
theorem St.put {w W : World} {L : List (Nat × Int × Value × Int)} (h : St w L W) {sg : Int} {v : Value} {z : Int} (hn : Num W sg v z) :
    St w ((W.heap.size, sg, v, z) :: L) (W.alloc (.cells #[.int .i64 sg, v] 32)) := by
  have h' := h.later (below_alloc W (.cells #[.int .i64 sg, v] 32))
  refine ⟨h'.below, fun x hx => ?_⟩
  rcases List.mem_cons.1 hx with rfl | hx
  · exact ⟨alloc_at W _, hn.later (below_alloc W _)⟩
  · exact h'.box x hx
end Go.Proofs.Ytmhjejnkphdjpaa.Bi

namespace Go.Proofs.Ytmhjejnkphdjpaa.Bi
open Go.RowKit

/-- A box: its block, the sign, the slice and the digits. -/
abbrev BX := Nat × Int × Value × List Int
def Bq (x : BX) (W : World) : Prop := W.heap[x.1]? = some (.cells #[.int .i64 x.2.1, x.2.2.1] 32 (0, 0)) ∧ Ints W x.2.2.1 x.2.2.2
theorem Bq.later {x : BX} {W W' : World} (h : Bq x W) (hb : RowKit.Below W.heap.size W W') : Bq x W' :=
  ⟨(hb.block x.1 (Array.getElem?_eq_some_iff.1 h.1).1).trans h.1, h.2.later hb⟩
theorem Bq.cells {b : Nat} {sg : Int} {v : Value} {l : List Int} {W : World} (h : Bq (b, sg, v, l) W) : W.cell? ⟨b, 0, none⟩ = some (.int .i64 sg) ∧ W.cell? ⟨b, 1, none⟩ = some v := by
  have h1 := h.1
  exact ⟨by rw [cell_of_row _ _ _ _ _ _ h1]; rfl, by rw [cell_of_row _ _ _ _ _ _ h1]; rfl⟩
theorem Bq.free {b : Nat} {sg : Int} {v : Value} {l : List Int} {W : World} (h : Bq (b, sg, v, l) W) : W.frozen? ⟨b, 0, none⟩ = false ∧ W.frozen? ⟨b, 1, none⟩ = false := by
  have h1 := h.1
  exact ⟨by simp [World.frozen?, h1], by simp [World.frozen?, h1]⟩
theorem Bq.num {b : Nat} {sg : Int} {v : Value} {z : Int} {W : World} (h : Bq (b, sg, v, digs z.natAbs) W) (e : sg = z.sign) : Num W sg v z := ⟨e, h.2⟩
/-- Since w nothing old has turned; the boxes of L stand, the newest first. -/
structure Sq (w : World) (L : List BX) (W : World) : Prop where
  below : RowKit.Below w.heap.size w W
  le : ∀ x ∈ L, w.heap.size ≤ x.1
  box : ∀ x ∈ L, Bq x W
  off : ∀ x ∈ L, ∀ y ∈ L, Off x.2.2.1 y.1
  pw : L.Pairwise fun x y => y.1 < x.1
theorem Sq.start (w : World) : Sq w [] w := ⟨Below.refl _ _, fun x hx => (by cases hx), fun x hx => (by cases hx), fun x hx => (by cases hx), List.Pairwise.nil⟩
theorem Sq.later {w W W' : World} {L : List BX} (h : Sq w L W) (hb : RowKit.Below W.heap.size W W') : Sq w L W' :=
  ⟨h.below.trans (hb.mono h.below.size), h.le, fun x hx => (h.box x hx).later hb, h.off, h.pw⟩
theorem Sq.lt {w W : World} {L : List BX} (h : Sq w L W) : ∀ x ∈ L, x.1 < W.heap.size := fun x hx => (Array.getElem?_eq_some_iff.1 (h.box x hx).1).1
theorem Sq.drew {w W : World} {L : List BX} (h : Sq w L W) : Sq w L W.drew := h.later ⟨rfl, rfl, rfl, Nat.le_refl _, fun _ _ => rfl⟩
theorem Sq.put {w W : World} {L : List BX} (h : Sq w L W) {sg : Int} {v : Value} {l : List Int} (hi : Ints W v l) (ho : ∀ y ∈ L, Off v y.1) :
    Sq w ((W.heap.size, sg, v, l) :: L) (W.alloc (.cells #[.int .i64 sg, v] 32)) := by
  have h' := h.later (below_alloc W (.cells #[.int .i64 sg, v] 32))
  refine ⟨h'.below, fun x hx => ?_, fun x hx => ?_, fun x hx y hy => ?_, List.pairwise_cons.2 ⟨fun y hy => h.lt y hy, h.pw⟩⟩
  · rcases List.mem_cons.1 hx with rfl | hx
    · exact h.below.size
    · exact h.le x hx
  · rcases List.mem_cons.1 hx with rfl | hx
    · exact ⟨alloc_at W _, hi.later (below_alloc W _)⟩
    · exact h'.box x hx
  · rcases List.mem_cons.1 hx with rfl | hx <;> rcases List.mem_cons.1 hy with rfl | hy
    · exact hi.off (Nat.le_refl _)
    · exact ho y hy
    · exact (h.box x hx).2.off (Nat.le_refl _)
    · exact h.off x hx y hy
/-- An argument is boxed. -/
theorem Sq.arg {w W : World} {L : List BX} (h : Sq w L W) {sg : Int} {v : Value} {l : List Int} (hi : Ints w v l) :
    Sq w ((W.heap.size, sg, v, l) :: L) (W.alloc (.cells #[.int .i64 sg, v] 32)) :=
  h.put (hi.later h.below) fun y hy => hi.off (h.le y hy)
/-- A call's result is boxed. -/
theorem Sq.ret {w W W' : World} {L : List BX} (h : Sq w L W) (hb : RowKit.Below W.heap.size W W') {sg : Int} {v : Value} {l : List Int} (hi : Ints W' v l) (hf : Fresh W.heap.size v) :
    Sq w ((W'.heap.size, sg, v, l) :: L) (W'.alloc (.cells #[.int .i64 sg, v] 32)) :=
  (h.later hb).put hi fun y hy => hf y.1 (h.lt y hy)
/-- Two results are boxed. -/
theorem Sq.ret2 {w W W' : World} {L : List BX} (h : Sq w L W) (hb : RowKit.Below W.heap.size W W') {sg tg : Int} {v u : Value} {l m : List Int} (hi : Ints W' v l) (hf : Fresh W.heap.size v) (hj : Ints W' u m) (hg : Fresh W.heap.size u) :
    Sq w ((W'.heap.size + 1, tg, u, m) :: (W'.heap.size, sg, v, l) :: L) ((W'.alloc (.cells #[.int .i64 sg, v] 32)).alloc (.cells #[.int .i64 tg, u] 32)) := by
  have h1 := h.ret (sg := sg) hb hi hf
  have h2 := h1.put (sg := tg) (hj.later (below_alloc _ _)) fun y hy => by
    rcases List.mem_cons.1 hy with rfl | hy
    · exact hj.off (Nat.le_refl _)
    · exact hg y.1 (h.lt y hy)
  rwa [show (W'.alloc (.cells #[.int .i64 sg, v] 32)).heap.size = W'.heap.size + 1 by simp] at h2
/-- An empty box. -/
theorem Sq.zero {w W : World} {L : List BX} (h : Sq w L W) : Sq w ((W.heap.size, 0, .slice none 0 0, []) :: L) (W.alloc (.cells #[.int .i64 0, .slice none 0 0] 32)) :=
  h.put ⟨none, 0, rfl, Nat.le_refl _, by simp, .inl rfl⟩ fun y _ a n c e => by simp at e
/-- z has at most k digits. -/
def Sz (k : Nat) (z : Int) : Prop := (z.natAbs : Int) < P k
theorem Sz.len {k : Nat} {z : Int} (h : Sz k z) (hk : k ≤ 100000 := by decide) : Len 100000 z := Nat.le_trans (digs_le h) hk
theorem Sz.of {k : Nat} {z : Int} (h : (digs z.natAbs).length ≤ k) : Sz k z := Int.lt_of_lt_of_le (digs_lt z.natAbs) (P_le h)
theorem Sz.mono {i j : Nat} {z : Int} (h : Sz i z) (hij : i ≤ j := by decide) : Sz j z := Int.lt_of_lt_of_le h (P_le hij)
theorem Sz.mul {i j : Nat} {a b : Int} (ha : Sz i a) (hb : Sz j b) : Sz (i + j) (a * b) := by
  unfold Sz at *
  rw [Int.natAbs_mul, P_add]
  have := P_pos i
  push_cast
  rcases Nat.eq_zero_or_pos b.natAbs with e | e
  · rw [e]
    have := P_pos j
    have : (0 : Int) < P i * P j := Int.mul_pos (by omega) (by omega)
    simpa using this
  · calc (a.natAbs : Int) * b.natAbs < P i * b.natAbs := Int.mul_lt_mul_of_pos_right ha (by omega)
      _ ≤ P i * P j := Int.mul_le_mul_of_nonneg_left (by omega) (by omega)
theorem Sz.add {i : Nat} {a b : Int} (ha : Sz i a) (hb : Sz i b) : Sz (i + 1) (a + b) := by
  unfold Sz at *
  rw [P_succ]
  have := P_pos i
  omega
theorem Sz.sub {i : Nat} {a b : Int} (ha : Sz i a) (hb : Sz i b) : Sz (i + 1) (a - b) := by
  unfold Sz at *
  rw [P_succ]
  have := P_pos i
  omega
theorem Sz.small {z : Int} (h : z.natAbs < 18446744073709551616) : Sz 4 z := by
  unfold Sz
  simp [P]; omega
theorem three {w : World} {sa sb sc : Int} {va vb vc : Value} {la lb lc : List Int} (ha : Ints w va la) (hb : Ints w vb lb) (hc : Ints w vc lc) :
    Sq w [(w.heap.size + 1 + 1, sc, vc, lc), (w.heap.size + 1, sb, vb, lb), (w.heap.size, sa, va, la)]
      (((w.alloc (.cells #[.int .i64 sa, va] 32)).alloc (.cells #[.int .i64 sb, vb] 32)).alloc (.cells #[.int .i64 sc, vc] 32)) := by
  have h := (((Sq.start w).arg (sg := sa) ha).arg (sg := sb) hb).arg (sg := sc) hc
  rwa [show ((w.alloc (.cells #[.int .i64 sa, va] 32)).alloc (.cells #[.int .i64 sb, vb] 32)).heap.size = w.heap.size + 1 + 1 by simp, show (w.alloc (.cells #[.int .i64 sa, va] 32)).heap.size = w.heap.size + 1 by simp] at h
theorem two {w : World} {sa sb : Int} {va vb : Value} {la lb : List Int} (ha : Ints w va la) (hb : Ints w vb lb) :
    Sq w [(w.heap.size + 1, sb, vb, lb), (w.heap.size, sa, va, la)]
      ((w.alloc (.cells #[.int .i64 sa, va] 32)).alloc (.cells #[.int .i64 sb, vb] 32)) := by
  have h := ((Sq.start w).arg (sg := sa) ha).arg (sg := sb) hb
  rwa [show (w.alloc (.cells #[.int .i64 sa, va] 32)).heap.size = w.heap.size + 1 by simp] at h
end Go.Proofs.Ytmhjejnkphdjpaa.Bi
