/- The contract of copyFiles. Crash: what lies outside the walk. A disk's parts without what holds of its state: for the steps inside Truncate. The contract of Crash. The contract of goesDown. settle: what lies outside the walk. The contract of settle. -/
import Derived.Test.YtejddacjncpneaaGreatDoorDi2
import Derived.Maps.RangeWalk
import Derived.Deep.CutRange
import Derived.IntWalk
set_option maxRecDepth 100000
namespace Go.Proofs.YtejddacjncpneaaGreatDoor.Di
open Go.RowKit Go.ChangeShapes Go.WideShapes

theorem makeMap52 (n : Nat) (w : World) : (Instr.makeMap 56 (some (.int .i64 (n : Int)))).run Tryz.prog w = .ok (.map (some w.heap.size)) (w.alloc (.map #[] 0)) := by
  simp [Instr.makeMap, run_underlying Tryz.underlying56, asInt, asIntOf, newObj, go_sem, Result.andThen]
  rfl

theorem MapIs.range_key {w : World} {b : Nat} {g : Int → Option Value} (h : MapIs Tryz.prog 3 w b (mapF g)) {n : Int} {v : Value} (hn : g n = some v) : -9223372036854775808 ≤ n ∧ n ≤ 9223372036854775807 := by
  obtain ⟨es, clock, _, _, hk, hf⟩ := h
  obtain ⟨x, hx, hxk, _⟩ := (hf (.int .i64 n) v).1 (by simpa [mapF] using hn)
  obtain ⟨l, hl⟩ := hk x hx
  rw [hxk] at hl
  obtain ⟨y, e, _, hw⟩ := Maps.keyOf_int_inv Tryz.underlying3 hl
  cases e
  simp [Lit.wf] at hw
  exact hw

/-- What the copy holds while the loop is under way. -/
structure Part (g : Int → Option Value) (l : Int → List UInt8) (left : Value → Bool) (B : Nat) (g' : Int → Option Value) (wr : World) : Prop where
  yes : ∀ n v, g n = some v → left (keyI n) = false → ∃ v', g' n = some v' ∧ OwnB wr v' (l n)
  no : ∀ n, (∀ v, g n = some v → left (keyI n) = true) → g' n = none
  new : ∀ n b, (g' n).bind blk = some b → B ≤ b ∧ b < wr.heap.size
  inj : ∀ n n' b, (g' n).bind blk = some b → (g' n').bind blk = some b → n = n'

def Copied (_g : Int → Option Value) (l : Int → List UInt8) (w : World) (e : Ending) (w' : World) : Prop :=
  ∃ m g', e = .returned (.map (some m)) ∧ w.heap.size ≤ m ∧ MapIs Tryz.prog 3 w' m (mapF g') ∧ (∀ n, OwnO w' (g' n) (l n)) ∧ (∀ n b, (g' n).bind blk = some b → w.heap.size ≤ b) ∧ (∀ n n' b, (g' n).bind blk = some b → (g' n').bind blk = some b → n = n') ∧ w.grownBy w' none

theorem Own.isCells {w : World} {e size : Nat} {v : Value} {n : Nat} {xs : List Value} (h : Own w e size v n xs) {c : Nat} (hc : blk v = some c) : ∃ cur, w.heap[c]? = some (.cells cur e (0, 0)) := by
  rcases h.2 with ⟨a, rfl, rfl⟩ | ⟨g, cap, cur, rfl, hg, _, h0, _⟩
  · rw [blk_zero] at hc; cases hc
  · rw [blk_pos h0] at hc; cases hc; exact ⟨cur, hg⟩
theorem Own.ne_map {w : World} {e size : Nat} {v : Value} {n : Nat} {xs : List Value} (h : Own w e size v n xs) {P : Program} {k : TypeId} {b : Nat} {f : Value → Option Value} (hm : MapIs P k w b f) : blk v ≠ some b := by
  intro hc
  obtain ⟨cur, h1⟩ := h.isCells hc
  obtain ⟨es, clock, h2, _⟩ := hm
  rw [h1] at h2; cases h2
theorem Own.ne_iter {w : World} {e size : Nat} {v : Value} {n : Nat} {xs : List Value} (h : Own w e size v n xs) {P : Program} {k : TypeId} {b r cnt : Nat} {f : Value → Option Value} {left : Value → Bool} (hm : Ranging P k w b r f left cnt) : blk v ≠ some r := by
  intro hc
  obtain ⟨cur, h1⟩ := h.isCells hc
  obtain ⟨es, clock, since, seen, c0, _, _, _, _, h2, _⟩ := hm
  rw [h1] at h2; cases h2

theorem Part.step {g : Int → Option Value} {l : Int → List UInt8} {left left' : Value → Bool} {B b it cnt n : Nat} {k : Int} {v : Value} {a4 : Option Addr} {c4 : Nat} {g' : Int → Option Value} {wr w3 w4 w5 : World} (h : Part g l left B g' wr) (hgk : g k = some v)
    (hlf : left' (keyI k) = false ∧ ∀ x, x ≠ keyI k → (∃ u, mapF g x = some u) → left' x = left x) (hrg : Ranging Tryz.prog 3 wr b it (mapF g) left cnt) (hgw : B ≤ wr.heap.size) (hg3 : wr.grownBy w3 (some it)) (hg4 : w3.grownBy w4 none)
    (ho4 : OwnB w4 (.slice a4 n c4) (l k)) (hb4 : ∀ c, blk (.slice a4 n c4) = some c → w3.heap.size ≤ c) (hm4 : MapIs Tryz.prog 3 w4 B (mapF g')) (hg5 : w4.grownBy w5 (some B)) : Part g l left' B (upd g' k (some (.slice a4 n c4))) w5 := by
  have s3 := hg3.size
  have s4 := hg4.size
  have s5 := hg5.size
  have kept : ∀ v' m, OwnB wr v' m → OwnB w5 v' m := fun v' m ho => by
    have o4 : OwnB w4 v' m := (Own.grown ho hg3 (.inr (Own.ne_iter ho hrg))).grown hg4 (by cases blk v' <;> simp)
    exact Own.grown o4 hg5 (.inr (Own.ne_map o4 hm4))
  have old : ∀ m v, m ≠ k → g m = some v → left' (keyI m) = left (keyI m) := fun m v hm hv => hlf.2 _ (fun e => hm (by simpa [keyI] using e)) ⟨v, by simpa [mapF, keyI] using hv⟩
  refine ⟨fun m v hv hl => ?_, fun m hm => ?_, fun m c hc => ?_, fun m m' c hc hc' => ?_⟩
  · by_cases e : m = k
    · subst e
      exact ⟨_, upd_same _ _ _, Own.grown ho4 hg5 (.inr (Own.ne_map ho4 hm4))⟩
    · rw [old m v e hv] at hl
      obtain ⟨v', h1, h2⟩ := h.yes m v hv hl
      exact ⟨v', by rw [upd_other _ _ e]; exact h1, kept _ _ h2⟩
  · by_cases e : m = k
    · subst e
      have := hm v hgk
      rw [hlf.1] at this; cases this
    · rw [upd_other _ _ e]
      exact h.no m fun v hv => by rw [← old m v e hv]; exact hm v hv
  · by_cases e : m = k
    · subst e
      rw [upd_same] at hc
      have h1 := hb4 c hc
      have h2 := ho4.lt c hc
      exact ⟨by omega, by omega⟩
    · rw [upd_other _ _ e] at hc
      have := h.new m c hc
      exact ⟨this.1, by omega⟩
  · by_cases e : m = k <;> by_cases e' : m' = k
    · rw [e, e']
    · subst e
      rw [upd_same] at hc
      rw [upd_other _ _ e'] at hc'
      have h1 := hb4 c hc
      have h2 := (h.new m' c hc').2
      omega
    · subst e'
      rw [upd_same] at hc'
      rw [upd_other _ _ e] at hc
      have h1 := hb4 c hc'
      have h2 := (h.new m c hc).2
      omega
    · rw [upd_other _ _ e] at hc
      rw [upd_other _ _ e'] at hc'
      exact h.inj m m' c hc hc'

set_option maxRecDepth 100000 in
set_option maxHeartbeats 2000000 in
theorem copyFiles_any (b : Nat) (g : Int → Option Value) (l : Int → List UInt8) (w : World) (hm : MapIs Tryz.prog 3 w b (mapF g)) (hv : ∀ n, OwnO w (g n) (l n)) (hl : ∀ n, (l n).length ≤ 16777216) :
    Calls Tryz.prog 47 #[.map (some b)] w (Copied g l w) := by
  have hr : ∀ n v, g n = some v → -9223372036854775808 ≤ n ∧ n ≤ 9223372036854775807 := fun n v hn => hm.range_key hn
  obtain ⟨es, clock, hb, _⟩ := hm.entries
  have hmm := makeMap52 es.size w
  have hlt := hm.lt
  have hm1 := hm.kept (w' := w.alloc (.map #[] 0)) ((MapKept.heap_alloc w _).2 b hlt)
  obtain ⟨w2, left, cnt, hrange, hrg, hleft, hg2, hs2⟩ := hm1.range Tryz.underlying56
  rw [show (w.alloc (.map #[] 0)).heap.size = w.heap.size + 1 by simp] at hrange hrg hs2
  have hlen : (Builtin.len_ #[56] 3 #[.map (some b)]).run Tryz.prog w = .ok (.int .i64 es.size) w := by
    simp [Builtin.len_, run_underlying Tryz.underlying56, MapKept.run_getObj_map hb]
    rfl
  have hm2 : MapIs Tryz.prog 3 w2 w.heap.size (mapF fun _ => none) := (((MapIs.made (P := Tryz.prog) (k := 3) w).kept (hg2.block _ (by simp) (by simp))).congr (fun x => (mapF_none x).symm))
  have hgw : w.grownBy w2 none := (World.grownBy_alloc _ _ _).trans hg2
  have hpart : Part g l left w.heap.size (fun _ => none) w2 := ⟨fun n v h1 h2 => (by rw [hleft (keyI n) v (by simpa [mapF, keyI] using h1)] at h2; cases h2), fun _ _ => rfl, fun _ _ h => (by cases h), fun _ _ _ h => (by cases h)⟩
  have HST : Hid (∃ left cnt g', Ranging Tryz.prog 3 w2 b (w.heap.size + 1) (mapF g) left cnt ∧ MapIs Tryz.prog 3 w2 w.heap.size (mapF g') ∧ Part g l left w.heap.size g' w2 ∧ w.grownBy w2 none) := ⟨left, cnt, _, hrg, hm2, hpart, hgw⟩
  have HV := Lib.hid hv
  have HL := Lib.hid hl
  have HR := Lib.hid hr
  clear hm1 hm hrg hleft hg2 hs2 hv hl hr hpart hgw hm2 hb
  go_enter Tryz.func47, Tryz.ntmps47
  go_wp2_with fail
  go_loopw [4] (fun _ wr => ∃ left cnt g', Ranging Tryz.prog 3 wr b (w.heap.size + 1) (mapF g) left cnt ∧ MapIs Tryz.prog 3 wr w.heap.size (mapF g') ∧ Part g l left w.heap.size g' wr ∧ w.grownBy wr none) (fun _ wr => wr.rangeLeft b (w.heap.size + 1))
  case atStart => exact HST.out
  case round =>
    clear HST hrange hlen hmm
    obtain ⟨left, cnt, g', hrg, hmg, hp, hgw⟩ := hrel
    have HRG := Lib.hid hrg
    have HMG := Lib.hid hmg
    have HP := Lib.hid hp
    have HGW := Lib.hid hgw
    rcases hrg.next 0 with ⟨h0, hl0, hnext⟩ | ⟨key, v, w3, cnt', left', hfk, hlk, hnext, hleft', hrg3, hcnt, hg3, hs3, hent⟩
    · have HL0 := Lib.hid hl0
      clear hrg hmg hp hgw h0 hl0
      go_wp2_with fail
      go_ret
      refine ⟨w.heap.size, g', rfl, Nat.le_refl _, HMG.out, fun n => ?_, fun n b h => (HP.out.new n b h).1, HP.out.inj, HGW.out⟩
      cases hgn : g n with
      | none =>
        rw [HP.out.no n (fun v h => by rw [hgn] at h; cases h)]
        have := HV.out n
        rw [hgn] at this
        exact this
      | some v =>
        obtain ⟨v', e, ho⟩ := HP.out.yes n v hgn (HL0.out (keyI n) v (by simpa [mapF, keyI] using hgn))
        rw [e]
        exact ho
    · obtain ⟨n, rfl, hgn⟩ : ∃ n, key = .int .i64 n ∧ g n = some v := by
        unfold mapF at hfk
        split at hfk
        · exact ⟨_, rfl, hfk⟩
        · cases hfk
      have hov : OwnB w v (l n) := by have := HV.out n; rw [hgn] at this; exact this
      have hov3 : OwnB w3 v (l n) := (hov.grown hgw (by cases blk v <;> simp)).grown hg3 (by
        cases hbv : blk v with
        | none => exact .inl rfl
        | some c => right; have := hov.lt c hbv; intro e; cases e; omega)
      obtain ⟨va, vc, rfl, hc1, hc2⟩ := hov3.shape
      have hln := HL.out n
      have hnr := HR.out n _ hgn
      have hsrc : Src Tryz.prog 1 78 (.slice va (l n).length vc) (l n).length (Lib.byteCells (l n)) (w3.alloc (.cells #[] 5)) :=
        Own.src (e := 5) (size := 1) (hov3.grown (World.grownBy_alloc _ _ none) (by cases blk (.slice va (l n).length vc) <;> simp)) Tryz.underlying78 (Lib.byteCells_one _)
      have hva : va = none → (l n).length = 0 := by
        rcases hov3.2 with ⟨a, e, e0⟩ | ⟨g, cap, cur, e, _⟩
        · exact fun _ => e0
        · cases e; exact fun e => by cases e
      have hszg := hgw.size
      have hltm := hmg.lt
      have hit := hrg.lt
      have hmg3 : MapIs Tryz.prog 3 w3 w.heap.size (mapF g') := hmg.kept (hg3.block _ hltm (by simp))
      have HSRC := Lib.hid hsrc
      have HMG3 := Lib.hid hmg3
      have HRG3 := Lib.hid hrg3
      have HG3 := Lib.hid hg3
      have HLF := Lib.hid hleft'
      have HGN := Lib.hid hgn
      have HLK := Lib.hid hlk
      have HCNT : Hid (w3.rangeLeft b (w.heap.size + 1) < wr.rangeLeft b (w.heap.size + 1)) := by unfold Hid; rw [hrg3.left_eq, hrg.left_eq]; exact hcnt
      obtain ⟨ll, hll⟩ : ∃ ll, (l n).length = ll := ⟨_, rfl⟩
      have HLL := Lib.hid hll
      rw [hll] at hln hva hc1
      have HVA := Lib.hid hva
      rw [hll] at hnext hent
      clear hrg hmg hp hgw hfk hlk hleft' hrg3 hcnt hg3 hs3 hgn hov hov3 hsrc hmg3 hll hva
      go_wp2_with fail
      refine (clone58 va ll vc _ _ (by omega) HVA.out (by rw [← HLL.out]; exact HSRC.out)).mono ?_
      rintro e w4 ⟨v4, rfl, ho4, hg4, hb4⟩
      obtain ⟨a4, c4, rfl, _, _⟩ := ho4.shape
      have hmg4 : MapIs Tryz.prog 3 w4 w.heap.size (mapF g') := HMG3.out.kept (hg4.block _ HMG3.out.lt (by simp))
      obtain ⟨w5, hup, hm5, hg5, hs5⟩ := hmg4.update lawI Tryz.underlying56 (Maps.keyOf_int_mk Tryz.underlying3 (wf_i64 hnr)) (mapF_sets g' n (.slice a4 ll c4))
      have HM5 := Lib.hid hm5
      have HG5 := Lib.hid hg5
      have HO4 := Lib.hid ho4
      have HG4 := Lib.hid hg4
      have HB4 := Lib.hid hb4
      have HS5 := Lib.hid hs5
      have hne1 : b ≠ w.heap.size := by omega
      have HR5 : Hid (Ranging Tryz.prog 3 w5 b (w.heap.size + 1) (mapF g) left' cnt') :=
        (HRG3.out.kept (hg4.block _ HRG3.out.owns.lt (by simp)) (hg4.block _ HRG3.out.lt (by simp))).kept (hg5.block _ (Nat.lt_of_lt_of_le HRG3.out.owns.lt hg4.size) (fun e => hne1 (Option.some.inj e))) (hg5.block _ (Nat.lt_of_lt_of_le HRG3.out.lt hg4.size) (fun e => by have := Option.some.inj e; omega))
      have HP5 : Hid (Part g l left' w.heap.size (upd g' n (some (.slice a4 ll c4))) w5) :=
        HP.out.step HGN.out HLF.out HRG.out hszg HG3.out hg4 (by unfold OwnB; rw [HLL.out]; exact ho4) hb4 hmg4 hg5
      have HW5 : Hid (w.grownBy w5 none) := by
        refine ((HGW.out.andThen HG3.out (fun j hj => .inl ?_)).andThen hg4 (fun j hj => by cases hj)).andThen hg5 (fun j hj => .inl ?_)
        · cases hj; omega
        · cases hj; omega
      clear hmg4 hm5 hg5 ho4 hg4 hb4 hnext hent hs5
      go_wp2_with fail
      go_roundw
      case rel => exact ⟨left', cnt', _, HR5.out, HM5.out, HP5.out, HW5.out⟩
      case measure =>
        rw [HR5.out.left_eq, ← HRG3.out.left_eq]
        exact HCNT.out
end Go.Proofs.YtejddacjncpneaaGreatDoor.Di

namespace Go.Proofs.YtejddacjncpneaaGreatDoor.Di
open Go.RowKit Go.ChangeShapes Go.WideShapes

/-- The state behind a crash, ahead of what Arm does. -/
def fallen (st : St) : St := { now := st.dur, dur := st.dur, q := [], down := true, lost := st.lost, calls := st.calls, keep := st.keep }
def withD (st : St) (d : Int → List UInt8) : St := { st with dur := d }
theorem crash_eq {st : St} (h : st.down = false) (ks : List Int) : crash st ks = arm (fallen (withD st (durs st.now ks 0 st.q st.dur))) 0 [] := by
  unfold crash
  rw [if_neg (by simp [h])]
  rfl
theorem fallen_wf {st : St} (h : WF st) : WF (fallen st) :=
  ⟨fun f hf => ⟨(h.nf f hf).2, (h.nf f hf).2⟩, fun f => Nat.le_trans (h.dl f) (h.len f), fun _ => Nat.le_refl _, fun s hs => by simp [fallen] at hs, by simp [fallen], h.lost, h.calls, h.keep⟩

theorem durs_snoc (now : Int → List UInt8) (ks : List Int) (s : Int × Nat) : ∀ (l : List (Int × Nat)) (i : Nat) (d : Int → List UInt8), durs now ks i (l ++ [s]) d = keepOne now ks (durs now ks i l d) (i + l.length) s
  | [], i, d => rfl
  | x :: r, i, d => by
    show durs now ks (i + 1) (r ++ [s]) _ = keepOne now ks (durs now ks (i + 1) r _) _ s
    rw [durs_snoc now ks s r (i + 1)]
    congr 1
    simp; omega
theorem durs_wf {st : St} (h : WF st) (ks : List Int) (k : Nat) : WF (withD st (durs st.now ks 0 (st.q.take k) st.dur)) :=
  ⟨fun f hf => ⟨(h.nf f hf).1, durs_nf _ _ _ (h.nf f hf).2 (fun s hs e => by have := (h.q s (List.mem_of_mem_take hs)).1; rw [e, hf] at this; cases this)⟩, h.len,
    durs_len _ _ _ h.dl (fun s hs => (h.q s (List.mem_of_mem_take hs)).2), h.q, h.nd, h.lost, h.calls, h.keep⟩

theorem crash_tail {S : Nat → Prop} {p : Rep} {st : St} {w w1 : World} {m : Nat} {g' : Int → Option Value} (h : IsD S p st w) (h1 : w.heap.size ≤ m) (h2 : MapIs Tryz.prog 3 w1 m (mapF g')) (h3 : ∀ n, OwnO w1 (g' n) (st.dur n))
    (h4 : ∀ n b, (g' n).bind blk = some b → w.heap.size ≤ b) (h5 : ∀ n n' b, (g' n).bind blk = some b → (g' n').bind blk = some b → n = n') (h6 : w.grownBy w1 none) :
    IsD (Grew S w (((((w1.setCell ⟨p.r, 0, none⟩ (.map (some m))).setCell ⟨p.r, 2, none⟩ (.slice none 0 0)).setCell ⟨p.r, 3, none⟩ (.map (some w1.heap.size))).setCell ⟨p.r, 4, none⟩ (.bool true)).alloc (.map #[] 0)))
      { p with fm := m, fv := g', lm := w1.heap.size, pv := .slice none 0 0 } (fallen st) (((((w1.setCell ⟨p.r, 0, none⟩ (.map (some m))).setCell ⟨p.r, 2, none⟩ (.slice none 0 0)).setCell ⟨p.r, 3, none⟩ (.map (some w1.heap.size))).setCell ⟨p.r, 4, none⟩ (.bool true)).alloc (.map #[] 0)) ∧
    But S w (((((w1.setCell ⟨p.r, 0, none⟩ (.map (some m))).setCell ⟨p.r, 2, none⟩ (.slice none 0 0)).setCell ⟨p.r, 3, none⟩ (.map (some w1.heap.size))).setCell ⟨p.r, 4, none⟩ (.bool true)).alloc (.map #[] 0)) := by
  have hlt := h.lt (s := .r) rfl
  have hs6 := h6.size
  have hr1 := (h.grown h6).holds .r
  have hr2 := Lib.heap_setCell_same (i := 4) (Lib.heap_setCell_same (i := 3) (Lib.heap_setCell_same (i := 2) (Lib.heap_setCell_same (i := 0) hr1 (.map (some m))) (.slice none 0 0)) (.map (some w1.heap.size))) (.bool true)
  have hg2 : w1.grownBy ((((w1.setCell ⟨p.r, 0, none⟩ (.map (some m))).setCell ⟨p.r, 2, none⟩ (.slice none 0 0)).setCell ⟨p.r, 3, none⟩ (.map (some w1.heap.size))).setCell ⟨p.r, 4, none⟩ (.bool true)) (some p.r) :=
    (((grownBy_setCell' _ _ _ _).trans (grownBy_setCell' _ _ _ _)).trans (grownBy_setCell' _ _ _ _)).trans (grownBy_setCell' _ _ _ _)
  have hz2 : ((((w1.setCell ⟨p.r, 0, none⟩ (.map (some m))).setCell ⟨p.r, 2, none⟩ (.slice none 0 0)).setCell ⟨p.r, 3, none⟩ (.map (some w1.heap.size))).setCell ⟨p.r, 4, none⟩ (.bool true)).heap.size = w1.heap.size := by simp [World.setCell]
  generalize (((w1.setCell ⟨p.r, 0, none⟩ (.map (some m))).setCell ⟨p.r, 2, none⟩ (.slice none 0 0)).setCell ⟨p.r, 3, none⟩ (.map (some w1.heap.size))).setCell ⟨p.r, 4, none⟩ (.bool true) = w2 at *
  have hr4 := ((World.grownBy_alloc w2 (.map #[] 0) none).block p.r (by omega) (by simp)).trans hr2
  have hg3 := World.grownBy_alloc w2 (.map #[] 0) none
  have hm3 : MapIs Tryz.prog 76 (w2.alloc (.map #[] 0)) w1.heap.size (fun _ => none) := by rw [← hz2]; exact MapIs.made w2
  have hz3 : (w2.alloc (.map #[] 0)).heap.size = w1.heap.size + 1 := by simp [hz2]
  generalize w2.alloc (.map #[] 0) = w4 at *
  have hkeep : ∀ b, b < w1.heap.size → b ≠ p.r → w4.heap[b]? = w1.heap[b]? := fun b hb hne =>
    (hg3.block b (by omega) (by simp)).trans (hg2.block b hb (fun e => hne (Option.some.inj e)))
  have hbut : But (fun b => ∃ s, (s = Sl.r ∨ s = .fm ∨ s = .lm ∨ s = .pv ∨ ∃ n, s = .f n) ∧ p.at s = some b) w w4 :=
    ⟨hg3.os.trans (hg2.os.trans h6.os), hg3.tape.trans (hg2.tape.trans h6.tape), hg3.output.trans (hg2.output.trans h6.output), by omega,
      fun k hk hn => (hkeep k (by omega) (fun e => hn ⟨.r, .inl rfl, by rw [e]; rfl⟩)).trans (h6.block k hk (by simp))⟩
  refine h.step (p' := { p with fm := m, fv := g', lm := w1.heap.size, pv := .slice none 0 0 }) (st' := fallen st) (fun s => s = Sl.r ∨ s = .fm ∨ s = .lm ∨ s = .pv ∨ ∃ n, s = .f n) hbut ?_ ?_ ?_ ?_ (fallen_wf h.wf)
  · rintro s (rfl | rfl | rfl | rfl | ⟨n, rfl⟩)
    · exact hr4
    · exact h2.kept (hkeep m h2.lt (by omega))
    · exact hm3.congr (fun x => (setQ_nil x).symm)
    · exact Own.nil _ _ _
    · refine OwnO.kept (h3 n) fun b hb => ?_
      have := h4 n b hb
      exact hkeep b ((h3 n).lt b hb) (by omega)
  · intro s hs
    refine ⟨fun hh => ?_, ?_⟩
    · cases s <;> first | exact hh | (exfalso; apply hs; simp; done)
    · cases s <;> first | rfl | (exfalso; apply hs; simp; done)
  · rintro s b (rfl | rfl | rfl | rfl | ⟨n, rfl⟩) hb
    · exact .inl hb
    · have e : m = b := Option.some.inj hb
      exact .inr (by omega)
    · have e : w1.heap.size = b := Option.some.inj hb
      exact .inr (by omega)
    · cases hb
    · exact .inr (h4 n b hb)
  · have hmne : ∀ n b, (g' n).bind blk = some b → b ≠ m ∧ b < w1.heap.size ∧ b ≠ p.r := fun n b hb => by
      have h3n := h3 n
      have hb4 := h4 n b hb
      cases hg : g' n with
      | none => rw [hg] at hb; cases hb
      | some v =>
        rw [hg] at hb h3n
        refine ⟨fun e => Own.ne_map h3n h2 (by rw [← e]; exact hb), h3n.lt b hb, by omega⟩
    have hm1 := h2.lt
    rintro s s' b (rfl | rfl | rfl | rfl | ⟨n, rfl⟩) (rfl | rfl | rfl | rfl | ⟨n', rfl⟩) hb hb' <;> first
      | rfl
      | (cases hb; done)
      | (cases hb'; done)
      | (exfalso; have e1 := Option.some.inj hb; have e2 := Option.some.inj hb'; simp only at e1 e2; omega)
      | (exfalso; have e1 := Option.some.inj hb; have e2 := hmne n' b hb'; have e3 := h4 n' b hb'; simp only at e1; omega)
      | (exfalso; have e1 := Option.some.inj hb'; have e2 := hmne n b hb; have e3 := h4 n b hb; simp only at e1; omega)
      | (rw [h5 n n' b hb hb'])
end Go.Proofs.YtejddacjncpneaaGreatDoor.Di

namespace Go.Proofs.YtejddacjncpneaaGreatDoor.Di
open Go.RowKit Go.ChangeShapes Go.WideShapes

theorem Own.grown0 {w w' : World} {e size : Nat} {v : Value} {n : Nat} {xs : List Value} (h : Own w e size v n xs) (hg : w.grownBy w' none) : Own w' e size v n xs := h.kept fun b hb => hg.block b (h.lt b hb) (by simp)

structure IsC (S : Nat → Prop) (p : Rep) (st : St) (w : World) : Prop where
  holds : ∀ s, Holds w p st s
  inj : ∀ s s' b, p.at s = some b → p.at s' = some b → s = s'
  inS : ∀ s b, p.at s = some b → S b
theorem IsD.core {S : Nat → Prop} {p : Rep} {st : St} {w : World} (h : IsD S p st w) : IsC S p st w := ⟨h.holds, h.inj, h.inS⟩
theorem IsC.full {S : Nat → Prop} {p : Rep} {st : St} {w : World} (h : IsC S p st w) (wf : WF st) : IsD S p st w := ⟨h.holds, h.inj, h.inS, wf⟩

theorem IsC.lt {S : Nat → Prop} {p : Rep} {st : St} {w : World} (h : IsC S p st w) {s : Sl} {b : Nat} (hb : p.at s = some b) : b < w.heap.size := (h.holds s).lt b hb
theorem IsC.mono {S S' : Nat → Prop} {p : Rep} {st : St} {w : World} (h : IsC S p st w) (hs : ∀ b, S b → S' b) : IsC S' p st w := ⟨h.holds, h.inj, fun s b hb => hs b (h.inS s b hb)⟩
theorem IsC.kept {S : Nat → Prop} {p : Rep} {st : St} {w w' : World} (h : IsC S p st w) (hg : ∀ b, S b → b < w.heap.size → w'.heap[b]? = w.heap[b]?) : IsC S p st w' :=
  ⟨fun s => (h.holds s).kept fun b hb => hg b (h.inS s b hb) (h.lt hb), h.inj, h.inS⟩
theorem IsC.grown {S : Nat → Prop} {p : Rep} {st : St} {w w' : World} (h : IsC S p st w) (hg : w.grownBy w' none) : IsC S p st w' := h.kept fun b _ hb => hg.block b hb (by simp)
theorem IsC.cell {S : Nat → Prop} {p : Rep} {st : St} {w : World} (h : IsC S p st w) :
    w.cell? ⟨p.r, 0, none⟩ = some (.map (some p.fm)) ∧ w.cell? ⟨p.r, 1, none⟩ = some (.map (some p.dm)) ∧ w.cell? ⟨p.r, 2, none⟩ = some p.pv ∧ w.cell? ⟨p.r, 3, none⟩ = some (.map (some p.lm)) ∧
    w.cell? ⟨p.r, 4, none⟩ = some (.bool st.down) ∧ w.cell? ⟨p.r, 5, none⟩ = some (.int .i64 st.lost) ∧ w.cell? ⟨p.r, 6, none⟩ = some (.int .i64 st.calls) ∧ w.cell? ⟨p.r, 7, none⟩ = some p.kv := by
  have hr : w.heap[p.r]? = _ := h.holds .r
  simp [World.cell?, hr]
theorem IsC.froz {S : Nat → Prop} {p : Rep} {st : St} {w : World} (h : IsC S p st w) (o : Nat) : w.frozen? ⟨p.r, o, none⟩ = false := by
  have hr : w.heap[p.r]? = _ := h.holds .r
  simp [World.frozen?, hr]

theorem IsC.step {S : Nat → Prop} {p p' : Rep} {st st' : St} {w w' : World} (h : IsC S p st w) (C : Sl → Prop) (hb : But (fun b => ∃ s, C s ∧ p.at s = some b) w w')
    (hc : ∀ s, C s → Holds w' p' st' s) (ho : ∀ s, ¬ C s → (Holds w p st s → Holds w p' st' s) ∧ p'.at s = p.at s)
    (hl : ∀ s b, C s → p'.at s = some b → p.at s = some b ∨ w.heap.size ≤ b) (hi : ∀ s s' b, C s → C s' → p'.at s = some b → p'.at s' = some b → s = s') : IsC (Grew S w w') p' st' w' ∧ But S w w' := by
  have hold : ∀ s, Holds w' p' st' s := fun s => by
    by_cases e : C s
    · exact hc s e
    · obtain ⟨h1, h2⟩ := ho s e
      refine (h1 (h.holds s)).kept fun b hb' => ?_
      rw [h2] at hb'
      refine hb.block b (h.lt hb') ?_
      rintro ⟨s', e', hs'⟩
      exact e (h.inj s s' b hb' hs' ▸ e')
  refine ⟨⟨hold, fun s s' b h1 h2 => ?_, fun s b h1 => ?_⟩, hb.mono fun i ⟨s, _, hs⟩ => h.inS s i hs⟩
  · by_cases e : C s <;> by_cases e' : C s'
    · exact hi s s' b e e' h1 h2
    · have h3 := (ho s' e').2
      rw [h3] at h2
      rcases hl s b e h1 with h4 | h4
      · exact h.inj s s' b h4 h2
      · have := h.lt h2
        omega
    · have h3 := (ho s e).2
      rw [h3] at h1
      rcases hl s' b e' h2 with h4 | h4
      · exact h.inj s s' b h1 h4
      · have := h.lt h1
        omega
    · rw [(ho s e).2] at h1
      rw [(ho s' e').2] at h2
      exact h.inj s s' b h1 h2
  · have hlt := (hold s).lt b h1
    by_cases e : C s
    · rcases hl s b e h1 with h4 | h4
      · exact .inl (h.inS s b h4)
      · exact .inr ⟨h4, hlt⟩
    · rw [(ho s e).2] at h1
      exact .inl (h.inS s b h1)

theorem IsC.lookF {S : Nat → Prop} {p : Rep} {st : St} {w : World} (h : IsC S p st w) (f : Int) (hf : -9223372036854775808 ≤ f ∧ f ≤ 9223372036854775807) :
    ∃ a cap, (∀ w' : World, w'.heap = w.heap → (Instr.lookup 56 (.map (some p.fm)) (.int .i64 f) false).run Tryz.prog w' = .ok (.slice a (st.now f).length cap) w') ∧ OwnB w (.slice a (st.now f).length cap) (st.now f) ∧ blk (.slice a (st.now f).length cap) = p.at (.f f) ∧ (st.now f).length ≤ cap ∧ cap ≤ 9223372036854775807 := by
  have hm0 : MapIs Tryz.prog 3 w p.fm (mapF p.fv) := h.holds .fm
  have hm : ∀ w' : World, w'.heap = w.heap → MapIs Tryz.prog 3 w' p.fm (mapF p.fv) := fun w' e => hm0.kept (by rw [e])
  have hv : OwnO w (p.fv f) (st.now f) := h.holds (.f f)
  have hrun := fun w' e => (hm w' e).lookup lawI Tryz.underlying56 (zero62 w') (Maps.keyOf_int_mk Tryz.underlying3 (wf_i64 hf))
  have hg := hv.getD
  obtain ⟨a, cap, e, h1, h2⟩ := hg.shape
  simp only [mapF] at hrun
  have hbl := blkO (p.fv f)
  rw [e] at hrun hg hbl
  unfold maxLen at h2
  exact ⟨a, cap, hrun, hg, hbl, h1, by omega⟩
theorem IsC.lookD {S : Nat → Prop} {p : Rep} {st : St} {w : World} (h : IsC S p st w) (f : Int) (hf : -9223372036854775808 ≤ f ∧ f ≤ 9223372036854775807) :
    ∃ a cap, (∀ w' : World, w'.heap = w.heap → (Instr.lookup 56 (.map (some p.dm)) (.int .i64 f) false).run Tryz.prog w' = .ok (.slice a (st.dur f).length cap) w') ∧ OwnB w (.slice a (st.dur f).length cap) (st.dur f) ∧ blk (.slice a (st.dur f).length cap) = p.at (.d f) ∧ (st.dur f).length ≤ cap ∧ cap ≤ 9223372036854775807 := by
  have hm0 : MapIs Tryz.prog 3 w p.dm (mapF p.dv) := h.holds .dm
  have hm : ∀ w' : World, w'.heap = w.heap → MapIs Tryz.prog 3 w' p.dm (mapF p.dv) := fun w' e => hm0.kept (by rw [e])
  have hv : OwnO w (p.dv f) (st.dur f) := h.holds (.d f)
  have hrun := fun w' e => (hm w' e).lookup lawI Tryz.underlying56 (zero62 w') (Maps.keyOf_int_mk Tryz.underlying3 (wf_i64 hf))
  have hg := hv.getD
  obtain ⟨a, cap, e, h1, h2⟩ := hg.shape
  simp only [mapF] at hrun
  have hbl := blkO (p.dv f)
  rw [e] at hrun hg hbl
  unfold maxLen at h2
  exact ⟨a, cap, hrun, hg, hbl, h1, by omega⟩
theorem IsC.lookL {S : Nat → Prop} {p : Rep} {st : St} {w : World} (h : IsC S p st w) {s : Int × Nat} {kl : Lit} (hk : keyOf Tryz.prog 76 (keyS s) = some kl) (w' : World) (hw : w'.heap = w.heap) :
    (Instr.lookup 57 (.map (some p.lm)) (.agg #[.int .i64 s.1, .int .i64 s.2]) false).run Tryz.prog w' = .ok (.bool (decide (s ∈ st.q))) w' := by
  have hm0 : MapIs Tryz.prog 76 w p.lm (setQ st.q) := h.holds .lm
  have hm : MapIs Tryz.prog 76 w' p.lm (setQ st.q) := hm0.kept (by rw [hw])
  have := hm.lookup lawS Tryz.underlying57 (zero4 _) hk
  by_cases hin : s ∈ st.q
  · rw [setQ_mem hin] at this
    simp only [hin, decide_true]
    exact this
  · rw [setQ_not hin] at this
    simp only [hin, decide_false]
    exact this


theorem IsC.dput {S : Nat → Prop} {p : Rep} {st : St} {w w1 : World} (h : IsC S p st w) (f : Int) (hf : -9223372036854775808 ≤ f ∧ f ≤ 9223372036854775807) {v' : Value} {l' : List UInt8} (hg : w.grownBy w1 (p.at (.d f))) (ho : OwnB w1 v' l')
    (hb : blk v' = none ∨ blk v' = p.at (.d f) ∨ ∃ g, blk v' = some g ∧ w.heap.size ≤ g) :
    ∃ w2, (Instr.mapUpdate 56 (.map (some p.dm)) (.int .i64 f) v').run Tryz.prog w1 = .ok () w2 ∧ IsC (Grew S w w2) { p with dv := upd p.dv f (some v') } { st with dur := upd st.dur f l' } w2 ∧
      But (fun b => ∃ s, (s = Sl.dm ∨ s = .d f) ∧ p.at s = some b) w w2 ∧ w1.grownBy w2 (some p.dm) ∧ w2.heap.size = w1.heap.size := by
  have hlm := h.lt (s := .dm) rfl
  have hsz := hg.size
  have ne_m : p.at (.d f) ≠ some p.dm := fun e => by have := h.inj (.d f) .dm p.dm e rfl; cases this
  have hm1 : MapIs Tryz.prog 3 w1 p.dm (mapF p.dv) := MapIs.kept (h.holds .dm) (hg.block _ hlm (Ne.symm ne_m))
  obtain ⟨w2, hrun, hm2, hg2, hs2⟩ := hm1.update lawI Tryz.underlying56 (Maps.keyOf_int_mk Tryz.underlying3 (wf_i64 hf)) (mapF_sets p.dv f v')
  have hvm : blk v' ≠ some p.dm := Own.ne_map ho hm1
  have hbut : But (fun b => ∃ s, (s = Sl.dm ∨ s = .d f) ∧ p.at s = some b) w w2 :=
    (But.of hg fun b e _ => ⟨.d f, .inr rfl, e⟩).trans (S' := fun b => ∃ s, (s = Sl.dm ∨ s = .d f) ∧ p.at s = some b) (But.of hg2 fun b e _ => ⟨.dm, .inl rfl, e⟩) (fun _ _ h => h)
  have hst := h.step (p' := { p with dv := upd p.dv f (some v') }) (st' := { st with dur := upd st.dur f l' }) (fun s => s = Sl.dm ∨ s = .d f) hbut
    (by
      rintro s (rfl | rfl)
      · exact hm2
      · show OwnO w2 (upd p.dv f (some v') f) (upd st.dur f l' f)
        rw [upd_same, upd_same]
        exact Own.grown ho hg2 (.inr hvm))
    (fun s hs => by
      refine ⟨fun hh => ?_, ?_⟩
      · cases s with
        | d n =>
          have hn : n ≠ f := fun e => hs (.inr (by rw [e]))
          show OwnO w (upd p.dv f (some v') n) (upd st.dur f l' n)
          rw [upd_other _ _ hn, upd_other _ _ hn]
          exact hh
        | dm => exact absurd (.inl rfl) hs
        | _ => exact hh
      · cases s with
        | d n =>
          have hn : n ≠ f := fun e => hs (.inr (by rw [e]))
          show (upd p.dv f (some v') n).bind blk = (p.dv n).bind blk
          rw [upd_other _ _ hn]
        | _ => rfl)
    (by
      rintro s b (rfl | rfl) h1
      · exact .inl h1
      · have h1' : blk v' = some b := by
          have : (upd p.dv f (some v') f).bind blk = some b := h1
          rwa [upd_same] at this
        rcases hb with e | e | ⟨g, e, hgt⟩
        · rw [e] at h1'; cases h1'
        · exact .inl (by rw [← e]; exact h1')
        · rw [e] at h1'; cases h1'; exact .inr hgt)
    (by
      have hd : ∀ b, Rep.at { p with dv := upd p.dv f (some v') } (.d f) = some b → blk v' = some b := fun b h1 => by
        have : (upd p.dv f (some v') f).bind blk = some b := h1
        rwa [upd_same] at this
      rintro s s' b (rfl | rfl) (rfl | rfl) h1 h2
      · rfl
      · exfalso; have e := Option.some.inj h1; exact hvm (by rw [hd b h2, ← e])
      · exfalso; have e := Option.some.inj h2; exact hvm (by rw [hd b h1, ← e])
      · rfl)
  exact ⟨w2, hrun, hst.1, hbut, hg2, hs2⟩

theorem IsC.fput {S : Nat → Prop} {p : Rep} {st : St} {w w1 : World} (h : IsC S p st w) (f : Int) (hf : -9223372036854775808 ≤ f ∧ f ≤ 9223372036854775807) {v' : Value} {l' : List UInt8} (hg : w.grownBy w1 (p.at (.f f))) (ho : OwnB w1 v' l')
    (hb : blk v' = none ∨ blk v' = p.at (.f f) ∨ ∃ g, blk v' = some g ∧ w.heap.size ≤ g) :
    ∃ w2, (Instr.mapUpdate 56 (.map (some p.fm)) (.int .i64 f) v').run Tryz.prog w1 = .ok () w2 ∧ IsC (Grew S w w2) { p with fv := upd p.fv f (some v') } { st with now := upd st.now f l' } w2 ∧
      But (fun b => ∃ s, (s = Sl.fm ∨ s = .f f) ∧ p.at s = some b) w w2 ∧ w1.grownBy w2 (some p.fm) ∧ w2.heap.size = w1.heap.size := by
  have hlm := h.lt (s := .fm) rfl
  have hsz := hg.size
  have ne_m : p.at (.f f) ≠ some p.fm := fun e => by have := h.inj (.f f) .fm p.fm e rfl; cases this
  have hm1 : MapIs Tryz.prog 3 w1 p.fm (mapF p.fv) := MapIs.kept (h.holds .fm) (hg.block _ hlm (Ne.symm ne_m))
  obtain ⟨w2, hrun, hm2, hg2, hs2⟩ := hm1.update lawI Tryz.underlying56 (Maps.keyOf_int_mk Tryz.underlying3 (wf_i64 hf)) (mapF_sets p.fv f v')
  have hvm : blk v' ≠ some p.fm := Own.ne_map ho hm1
  have hbut : But (fun b => ∃ s, (s = Sl.fm ∨ s = .f f) ∧ p.at s = some b) w w2 :=
    (But.of hg fun b e _ => ⟨.f f, .inr rfl, e⟩).trans (S' := fun b => ∃ s, (s = Sl.fm ∨ s = .f f) ∧ p.at s = some b) (But.of hg2 fun b e _ => ⟨.fm, .inl rfl, e⟩) (fun _ _ h => h)
  have hst := h.step (p' := { p with fv := upd p.fv f (some v') }) (st' := { st with now := upd st.now f l' }) (fun s => s = Sl.fm ∨ s = .f f) hbut
    (by
      rintro s (rfl | rfl)
      · exact hm2
      · show OwnO w2 (upd p.fv f (some v') f) (upd st.now f l' f)
        rw [upd_same, upd_same]
        exact Own.grown ho hg2 (.inr hvm))
    (fun s hs => by
      refine ⟨fun hh => ?_, ?_⟩
      · cases s with
        | f n =>
          have hn : n ≠ f := fun e => hs (.inr (by rw [e]))
          show OwnO w (upd p.fv f (some v') n) (upd st.now f l' n)
          rw [upd_other _ _ hn, upd_other _ _ hn]
          exact hh
        | fm => exact absurd (.inl rfl) hs
        | _ => exact hh
      · cases s with
        | f n =>
          have hn : n ≠ f := fun e => hs (.inr (by rw [e]))
          show (upd p.fv f (some v') n).bind blk = (p.fv n).bind blk
          rw [upd_other _ _ hn]
        | _ => rfl)
    (by
      rintro s b (rfl | rfl) h1
      · exact .inl h1
      · have h1' : blk v' = some b := by
          have : (upd p.fv f (some v') f).bind blk = some b := h1
          rwa [upd_same] at this
        rcases hb with e | e | ⟨g, e, hgt⟩
        · rw [e] at h1'; cases h1'
        · exact .inl (by rw [← e]; exact h1')
        · rw [e] at h1'; cases h1'; exact .inr hgt)
    (by
      have hd : ∀ b, Rep.at { p with fv := upd p.fv f (some v') } (.f f) = some b → blk v' = some b := fun b h1 => by
        have : (upd p.fv f (some v') f).bind blk = some b := h1
        rwa [upd_same] at this
      rintro s s' b (rfl | rfl) (rfl | rfl) h1 h2
      · rfl
      · exfalso; have e := Option.some.inj h1; exact hvm (by rw [hd b h2, ← e])
      · exfalso; have e := Option.some.inj h2; exact hvm (by rw [hd b h1, ← e])
      · rfl)
  exact ⟨w2, hrun, hst.1, hbut, hg2, hs2⟩
end Go.Proofs.YtejddacjncpneaaGreatDoor.Di

namespace Go.Proofs.YtejddacjncpneaaGreatDoor.Di
open Go.RowKit Go.ChangeShapes Go.WideShapes
attribute [local go_sem ↓] Go.wp_at_zero Go.wp_at_succ

theorem survives_I (v : Value) (ks : List Int) (i : Nat) (w : World) (hv : Ints w v ks) (hi : i ≤ 1000000000) (hk : ks.length ≤ 1000000000 ∧ ∀ x ∈ ks, -9223372036854775808 ≤ x ∧ x ≤ 9223372036854775807) :
    Calls Tryz.prog 44 #[.int .i64 i, v] w fun e w' => e = .returned (.bool (surv i ks)) ∧ w = w' := by
  obtain ⟨a, c, rfl, _, h⟩ := hv
  by_cases h0 : ks.length = 0
  · obtain rfl : ks = [] := List.eq_nil_of_length_eq_zero h0
    exact survives_nil a c i w
  · rcases h with h | ⟨b, o, rfl, h⟩
    · rw [h] at h0; exact absurd rfl h0
    · exact survives_any b o ks c i hi hk.1 (by omega) w hk.2 h
theorem cellsQ_get : ∀ (q : List (Int × Nat)) (k : Nat) (h : k < q.length), (cellsQ q)[k * 2]? = some (.int .i64 q[k].1) ∧ (cellsQ q)[k * 2 + 1]? = some (.int .i64 q[k].2)
  | [], k, h => by simp at h
  | s :: r, 0, h => by simp [cellsQ]
  | s :: r, k + 1, h => by
    have ih := cellsQ_get r k (by simpa using h)
    have e1 : (k + 1) * 2 = k * 2 + 2 := by omega
    have e2 : cellsQ (s :: r) = .int .i64 s.1 :: .int .i64 s.2 :: cellsQ r := by simp [cellsQ]
    rw [e1, e2]
    exact ⟨by simpa using ih.1, by simpa using ih.2⟩

/-- What holds at the head of a round. -/
def CrashAt (S : Nat → Prop) (p : Rep) (st : St) (ks : List Int) (w : World) (k : Nat) (wr : World) : Prop :=
  ∃ dv', IsD (Grew S w wr) { p with dv := dv' } (withD st (durs st.now ks 0 (st.q.take k) st.dur)) wr ∧ But (fun b => b = p.dm ∨ ∃ n, p.at (.d n) = some b) w wr ∧ ∀ n b, (dv' n).bind blk = some b → p.at (.d n) = some b ∨ w.heap.size ≤ b

/-- What the loads of the statement read. -/
def Seen (p : Rep) (B : Nat) (sf : Int) (sn : Nat) (w' : World) : Prop :=
  w'.cell? ⟨p.r, 1, none⟩ = some (.map (some p.dm)) ∧ w'.cell? ⟨B, 0, none⟩ = some (.int .i64 sf) ∧ w'.cell? ⟨B, 1, none⟩ = some (.int .i64 (sn : Int))

theorem crash_round {S : Nat → Prop} {p : Rep} {st : St} {ks : List Int} {w wr w2 : World} {k : Nat} {dv' : Int → Option Value} {sf : Int} {sn B : Nat} {D : Int → List UInt8} (H : IsD S p st w) (hd : IsD (Grew S w wr) { p with dv := dv' } (withD st D) wr)
    (hb : But (fun b => b = p.dm ∨ ∃ n, p.at (.d n) = some b) w wr) (hdv : ∀ n b, (dv' n).bind blk = some b → p.at (.d n) = some b ∨ w.heap.size ≤ b) (hg : wr.grownBy w2 none) (hB : w2.heap[B]? = some (.cells #[.int .i64 sf, .int .i64 (sn : Int)] 76 (0, 0)))
    (hBwr : wr.heap.size ≤ B) (hf : isF sf = true) (hn : 64 * sn < (st.now sf).length) (hdu : durs st.now ks 0 (st.q.take (k + 1)) st.dur = upd D sf (putL (D sf) (64 * sn) (chunk (st.now sf) sn))) :
    ∃ da dl dc bs, (Instr.lookup 56 (.map (some p.dm)) (.int .i64 sf) false).run Tryz.prog w2.drew = .ok (.slice da dl dc) w2.drew ∧ Seen p B sf sn w2.drew ∧
      Calls Tryz.prog 46 #[.pointer (some ⟨p.r, 0, none⟩), .agg #[.int .i64 sf, .int .i64 (sn : Int)]] w2.drew (fun e w3 => e = .returned (.string bs) ∧ w2.grownBy w3 none ∧ (Instr.lookup 56 (.map (some p.dm)) (.int .i64 sf) false).run Tryz.prog w3 = .ok (.slice da dl dc) w3 ∧ Seen p B sf sn w3) ∧
      ∀ w3, w2.grownBy w3 none → Calls Tryz.prog 45 #[.slice da dl dc, .int .i64 ((sn : Int) * 64), .string bs] w3 (fun e w4 => ∃ a4 n4 c4 w5, e = .returned (.slice a4 n4 c4) ∧ Seen p B sf sn w4 ∧ (Instr.mapUpdate 56 (.map (some p.dm)) (.int .i64 sf) (.slice a4 n4 c4)).run Tryz.prog w4 = .ok () w5 ∧ Seen p B sf sn w5 ∧ CrashAt S p st ks w (k + 1) w5) := by
  have hfr := isF_t.1 hf
  have hlen := hd.wf.len sf
  have hdl := hd.wf.dl sf
  have hbr : w2.heap[p.r]? = wr.heap[p.r]? := hg.block _ (hd.lt (s := .r) rfl) (by simp)
  have hBlt := (Array.getElem?_eq_some_iff.1 hB).1
  have h2 := hd.grown hg
  have seen : ∀ w', w'.heap[p.r]? = w2.heap[p.r]? → w'.heap[B]? = w2.heap[B]? → Seen p B sf sn w' := fun w' e1 e2 => by
    have hr := h2.holds .r
    refine ⟨?_, ?_, ?_⟩
    · have : w2.cell? ⟨p.r, 1, none⟩ = some (.map (some p.dm)) := h2.cell.2.1
      rw [World.cell?_of_block (a := ⟨p.r, 1, none⟩) e1]; exact this
    · simp [World.cell?, e2, hB]
    · simp [World.cell?, e2, hB]
  have hlr2 : p.r < w2.heap.size := h2.lt (s := .r) rfl
  obtain ⟨da, dc, hl, ho, hbl, hc1, hc2⟩ := h2.lookD sf (by omega)
  refine ⟨da, _, dc, ⟨(chunk (st.now sf) sn).toArray⟩, hl _ rfl, seen _ rfl rfl, ?_, ?_⟩
  · refine (bytes_any (p := { p with dv := dv' }) (h2.grown (grown_drew w2)) sf sn hf hn).mono ?_
    rintro e w3 ⟨he, hbel⟩
    have hg3 : w2.grownBy w3 none := ⟨hbel.os, hbel.tape, hbel.output, hbel.size, fun i hi _ => hbel.block i hi⟩
    refine ⟨he, hg3, ?_, seen _ (hg3.block _ hlr2 (by simp)) (hg3.block _ hBlt (by simp))⟩
    have hm : MapIs Tryz.prog 3 w3 p.dm (mapF dv') := ((h2.grown hg3).holds .dm)
    have h1 := hm.lookup lawI Tryz.underlying56 (zero62 w3) (Maps.keyOf_int_mk Tryz.underlying3 (wf_i64 (a := sf) (by omega)))
    have hm2 : MapIs Tryz.prog 3 w2 p.dm (mapF dv') := h2.holds .dm
    have h0 := hm2.lookup lawI Tryz.underlying56 (zero62 w2) (Maps.keyOf_int_mk Tryz.underlying3 (wf_i64 (a := sf) (by omega)))
    rw [hl w2 rfl] at h0
    have e0 : Value.slice da ((withD st D).dur sf).length dc = (mapF dv' (.int .i64 sf)).getD (.slice none 0 0) := by simpa using h0
    rw [h1, ← e0]
  · intro w3 hg3
    have h3 := h2.grown hg3
    have ho3 : OwnB w3 (.slice da (D sf).length dc) (D sf) := Own.grown0 ho hg3
    have hchl : (chunk (st.now sf) sn).length = min 64 ((st.now sf).length - 64 * sn) := by simp [chunk]
    have hnow : (withD st D).now sf = st.now sf := rfl
    have hdur : (withD st D).dur sf = D sf := rfl
    rw [hnow] at hlen hdl
    rw [hdur] at hdl
    have hput := put_any (.slice da (D sf).length dc) (D sf) (64 * sn) ⟨(chunk (st.now sf) sn).toArray⟩ w3 ho3 (by show 0 < (chunk (st.now sf) sn).toArray.size; simp only [List.size_toArray]; omega) (by omega) (by show _ + (chunk (st.now sf) sn).toArray.size ≤ _; simp only [List.size_toArray]; omega)
    have e64 : ((64 * sn : Nat) : Int) = (sn : Int) * 64 := by omega
    rw [e64] at hput
    refine hput.mono ?_
    rintro e w4 ⟨v4, rfl, ho4, hg4, hb4⟩
    obtain ⟨a4, c4, rfl, _, _⟩ := ho4.shape
    have hbl' : blk (.slice da (D sf).length dc) = Rep.at { p with dv := dv' } (.d sf) := hbl
    rw [hbl'] at hg4 hb4
    simp only at ho4
    obtain ⟨w5, hup, hc5, hbut5, hg5, hs5⟩ := (h3.core).dput sf (by omega) hg4 ho4 (by
      rcases hb4 with e | ⟨g, e1, e2⟩
      · exact .inr (.inl e)
      · exact .inr (.inr ⟨g, e1, e2⟩))
    have hlt3 := hg3.size
    have ner : Rep.at { p with dv := dv' } (.d sf) ≠ some p.r := fun e => by have := hd.inj (.d sf) .r p.r e rfl; cases this
    have neB : ∀ s, Rep.at { p with dv := dv' } s ≠ some B := fun s e => by have := hd.lt e; omega
    have k4r := hg4.block p.r (by omega) (Ne.symm ner)
    have k4B := hg4.block B (by omega) (Ne.symm (neB _))
    have hs4 := hg4.size
    have nedr : p.dm ≠ p.r := fun e => by have := H.inj .dm .r p.dm rfl (by rw [e]; rfl); cases this
    have nedB : p.dm ≠ B := fun e => neB .dm (by rw [← e]; rfl)
    have k5r := hg5.block p.r (by omega) (fun e => nedr (Option.some.inj e).symm)
    have k5B := hg5.block B (by omega) (fun e => nedB (Option.some.inj e).symm)
    have k3r := hg3.block p.r hlr2 (by simp)
    have k3B := hg3.block B hBlt (by simp)
    refine ⟨a4, _, c4, w5, rfl, seen _ (k4r.trans k3r) (k4B.trans k3B), hup, seen _ (k5r.trans (k4r.trans k3r)) (k5B.trans (k4B.trans k3B)), ?_⟩
    have hszr := hb.size
    have hszg := hg.size
    have hs5' := hg5.size
    refine ⟨upd dv' sf (some (.slice a4 (putL (D sf) (64 * sn) (chunk (st.now sf) sn)).length c4)), ?_, ?_, ?_⟩
    · have hwf := durs_wf H.wf ks (k + 1)
      rw [hdu] at hwf ⊢
      refine (IsC.full ?_ hwf)
      refine IsC.mono hc5 fun b hb' => ?_
      rcases hb' with (hb' | ⟨h1, h2⟩) | ⟨h1, h2⟩
      · exact .inl hb'
      · exact .inr ⟨h1, by omega⟩
      · exact .inr ⟨by omega, h2⟩
    · have b1 : But (fun b => b = p.dm ∨ ∃ n, p.at (.d n) = some b) w w3 := (hb.trans (S' := fun _ => False) (But.of hg fun b e _ => by cases e) (fun _ _ h => h.elim)).trans (S' := fun _ => False) (But.of hg3 fun b e _ => by cases e) (fun _ _ h => h.elim)
      refine b1.trans hbut5 ?_
      rintro i hi ⟨s, rfl | rfl, h⟩
      · exact .inl (Option.some.inj h).symm
      · rcases hdv sf i h with h1 | h1
        · exact .inr ⟨sf, h1⟩
        · omega
    · intro n b hb'
      by_cases e : n = sf
      · subst e
        rw [upd_same] at hb'
        have hb'' : blk (.slice a4 (putL (D n) (64 * sn) (chunk (st.now n) sn)).length c4) = some b := hb'
        rcases hb4 with e | ⟨g, e1, e2⟩
        · rw [e] at hb''
          exact hdv n b hb''
        · rw [e1] at hb''
          cases hb''
          exact .inr (by omega)
      · rw [upd_other _ _ e] at hb'
        exact hdv n b hb'

set_option maxRecDepth 100000 in
set_option maxHeartbeats 4000000 in
theorem crash_any {S : Nat → Prop} {p : Rep} {st : St} {w : World} (h : IsD S p st w) (v : Value) (ks : List Int) (hv : Ints w v ks) (hk : ks.length ≤ 1000000000 ∧ ∀ x ∈ ks, -9223372036854775808 ≤ x ∧ x ≤ 9223372036854775807)
    (hoff : ∀ b, Ints.off v b → ∀ s, p.at s = some b → s = .kv) :
    Calls Tryz.prog 20 #[.pointer (some ⟨p.r, 0, none⟩), v] w fun e w' => e = .returned (.tuple #[]) ∧ Af S p.r (crash st ks) w w' := by
  obtain ⟨c0, c1, c2, c3, c4, c5, c6, c7⟩ := h.cell
  by_cases hd : st.down = true
  · have e : crash st ks = st := by unfold crash; rw [if_pos hd]
    have HF : Hid (Af S p.r (crash st ks) w w) := by rw [e]; exact ⟨⟨p, rfl, h.mono fun b hb => .inl hb⟩, But.refl _ _⟩
    rw [hd] at c4
    clear h c0 c1 c2 c3 c5 c6 c7 e hd hv hk hoff
    go_enter Tryz.func20, Tryz.ntmps20
    go_wp2_with fail
    refine bodyPost_ret (results_none rfl _ _ _) rfl ⟨rfl, HF.out⟩
  · have hd' : st.down = false := by simpa using hd
    have HE := Lib.hid (crash_eq hd' ks)
    have h0 : CrashAt S p st ks w 0 w := ⟨p.dv, h.mono fun b hb => .inl hb, But.refl _ _, fun n b hb => .inl hb⟩
    have H0 := Lib.hid h0
    have H := Lib.hid h
    have HV := Lib.hid hv
    have HK := Lib.hid hk
    have HO := Lib.hid hoff
    have hown : Own w 76 2 p.pv st.q.length (cellsQ st.q) := h.holds .pv
    obtain ⟨pa, pc, hpv, hpc, _⟩ := hown.shape
    have hql := h.wf.qlen
    rw [hd'] at c4
    rw [hpv] at c2 hown
    have HPV := Lib.hid hpv
    obtain ⟨ql, hq⟩ : ∃ ql, st.q.length = ql := ⟨_, rfl⟩
    have HQ := Lib.hid hq
    have HOWN := Lib.hid hown
    rw [hq] at hql hpc c2
    clear c0 c3 c5 c6 c7 h hv hk hoff h0 hd hd' hpv hq hown
    go_enter Tryz.func20, Tryz.ntmps20
    go_wp2_with fail
    go_loopw [15] (fun i wr => ∃ k : Nat, k ≤ ql ∧ i = .int .i64 k ∧ CrashAt S p st ks w k wr) (fun i _ => ql - (RowKit.intOf i).toNat)
    case atStart => exact ⟨0, Nat.zero_le _, rfl, H0.out⟩
    case round =>
      clear c1 c2 c4
      obtain ⟨k, hkq, rfl, hat⟩ := hrel
      have HA := Lib.hid hat
      clear hat
      by_cases hlt : k < ql
      · obtain ⟨dv', hd, hb, hdv⟩ := HA.out
        have hkq' : k < st.q.length := by rw [HQ.out]; exact hlt
        obtain ⟨s, hs⟩ : ∃ s, st.q[k] = s := ⟨_, rfl⟩
        have hsm : s ∈ st.q := by rw [← hs]; exact List.getElem_mem _
        have hsq := H.out.wf.q s hsm
        have hsf := isF_t.1 hsq.1
        have hsl := H.out.wf.len s.1
        have hown : Own wr 76 2 (.slice pa st.q.length pc) st.q.length (cellsQ st.q) := by rw [← HPV.out]; exact hd.holds .pv
        have hcq := cellsQ_get st.q k hkq'
        rw [hs] at hcq
        obtain ⟨g, hpa, hq0⟩ := hown.cell hcq.1
        obtain ⟨g2, hpa2, hq1⟩ := hown.cell hcq.2
        obtain rfl : g = g2 := by rw [hpa] at hpa2; simpa using hpa2
        subst hpa
        have hsurv : Ints wr v ks := HV.out.kept fun b hob hlt => hb.block b hlt (by
          rintro (rfl | ⟨n, hn⟩)
          · have := HO.out _ hob .dm rfl; cases this
          · have := HO.out _ hob _ hn; cases this)
        have hgw : wr.grownBy (wr.alloc (.cells #[.int .i64 s.1, .int .i64 s.2] 76)) none := World.grownBy_alloc _ _ _
        have HSV := Lib.hid (hsurv.alloc (.cells #[.int .i64 s.1, .int .i64 s.2] 76))
        have hgl := World.block_lt_of_cell? wr _ hq0
        have HD := Lib.hid hd
        have HB := Lib.hid hb
        have HDV := Lib.hid hdv
        have HSQ := Lib.hid hsq
        have e1 : st.q.take (k + 1) = st.q.take k ++ [s] := by rw [List.take_succ_eq_append_getElem hkq', hs]
        have HDU : Hid (durs st.now ks 0 (st.q.take (k + 1)) st.dur = keepOne st.now ks (durs st.now ks 0 (st.q.take k) st.dur) k s) := by
          unfold Hid
          rw [e1, durs_snoc]
          congr 1
          rw [List.length_take]
          omega
        obtain ⟨sf, hsf'⟩ : ∃ sf, s.1 = sf := ⟨_, rfl⟩
        obtain ⟨sn, hsn'⟩ : ∃ sn, s.2 = sn := ⟨_, rfl⟩
        obtain rfl : s = (sf, sn) := by rw [← hsf', ← hsn']
        clear hd hb hdv hs hsm hsq hown hcq hsurv e1 hkq' hsf' hsn' hpa2
        simp only at *
        by_cases hsv : surv k ks = true
        · have HSF := Lib.hid hsv
          have hB : (wr.alloc (.cells #[.int .i64 sf, .int .i64 (sn : Int)] 76)).heap[wr.heap.size]? = some (.cells #[.int .i64 sf, .int .i64 (sn : Int)] 76 (0, 0)) := (MapKept.heap_alloc wr _).1
          have hdu := HDU.out
          unfold keepOne at hdu
          rw [if_pos hsv] at hdu
          have HCR := Lib.hid (crash_round H.out HD.out HB.out HDV.out hgw hB (Nat.le_refl _) HSQ.out.1 HSQ.out.2 hdu)
          clear hsv hB hdu
          go_wp2_with fail
          refine (survives_I v ks k _ HSV.out (by omega) HK.out).mono ?_
          rintro e w2 ⟨rfl, rfl⟩
          rw [HSF.out]
          go_wp2_with fail
          generalize wr.alloc (.cells #[.int .i64 sf, .int .i64 (sn : Int)] 76) = w2 at *
          obtain ⟨da, dl, dc, bs, hl2, hs2, hby, hpu⟩ := HCR.out
          have hwrap : IntKind.i64.wrap ((sn : Int) * 64) = (sn : Int) * 64 := IntWalk.i64_in _ (by have := HSQ.out.2; omega)
          have HBY := Lib.hid hby
          have HPU := Lib.hid hpu
          unfold Seen at hs2
          clear hby hpu hq0 hq1 hgw
          go_wp2_with fail
          go_region_held3 (fun w' => w'.cell? ⟨p.r, 1, none⟩ = some (.map (some p.dm)) ∧ w'.cell? ⟨wr.heap.size, 0, none⟩ = some (.int .i64 sf) ∧ w'.cell? ⟨wr.heap.size, 1, none⟩ = some (.int .i64 (sn : Int)))
            (first | exact hs2 | exact hs3 | exact hs4 | exact hs5)
            (first
              | (go_at_call 46; refine HBY.out.mono ?_; rintro e w3 ⟨rfl, hg3, hl3, hs3⟩)
              | (go_at_call 45; refine (HPU.out _ (by first | exact hg3 | assumption)).mono ?_; rintro e w4 ⟨a4, n4, c4, w5, rfl, hs4, hup, hs5, hat5⟩))
          all_goals
            have HAT := Lib.hid hat5
            clear hat5 hup hs5 hs4 hs2 hl2 hwrap
            go_wp2_with fail
            go_roundw
            case rel => exact ⟨k + 1, by omega, by go_num, HAT.out⟩
            case measure => simp [RowKit.intOf]; omega
        · have hsv' : surv k ks = false := by simpa using hsv
          have HSF := Lib.hid hsv'
          clear hsv hsv'
          go_wp2_with fail
          refine (survives_I v ks k _ HSV.out (by omega) HK.out).mono ?_
          rintro e w2 ⟨rfl, rfl⟩
          rw [HSF.out]
          go_wp2_with fail
          go_roundw
          case rel =>
            refine ⟨k + 1, by omega, by go_num, ?_⟩
            have e : durs st.now ks 0 (st.q.take (k + 1)) st.dur = durs st.now ks 0 (st.q.take k) st.dur := by
              rw [HDU.out]; unfold keepOne; rw [if_neg (by rw [HSF.out]; simp)]
            refine ⟨dv', ?_, HB.out.trans (S' := fun _ => False) (But.of hgw fun b e _ => by cases e) (fun _ _ h => h.elim), HDV.out⟩
            rw [e]
            refine (HD.out.grown hgw).mono fun b hb => ?_
            rcases hb with hb | ⟨h1, h2⟩
            · exact .inl hb
            · exact .inr ⟨h1, Nat.lt_of_lt_of_le h2 hgw.size⟩
          case measure => simp [RowKit.intOf]; omega
      · have hkl : k = ql := by omega
        have HKL := Lib.hid hkl
        obtain ⟨dv', hd, hb, hdv⟩ := HA.out
        have e0 : st.q.take k = st.q := List.take_of_length_le (by rw [HQ.out, hkl]; exact Nat.le_refl _)
        rw [e0] at hd
        have HD := Lib.hid hd
        have HB := Lib.hid hb
        have c1 : wr.cell? ⟨p.r, 1, none⟩ = some (.map (some p.dm)) := hd.cell.2.1
        have hlr : p.r < wr.heap.size := hd.lt (s := .r) rfl
        clear hdv hd hb e0 hkl
        go_wp2_with fail
        refine (copyFiles_any p.dm dv' (durs st.now ks 0 st.q st.dur) wr (HD.out.holds .dm) (fun n => HD.out.holds (.d n)) (fun n => Nat.le_trans (HD.out.wf.dl n) (HD.out.wf.len n))).mono ?_
        rintro e w1 ⟨m, g', rfl, h1, h2, h3, h4, h5, h6⟩
        have hc : ∀ i u, wr.cell? ⟨p.r, i, none⟩ = some u → w1.cell? ⟨p.r, i, none⟩ = some u := fun i u hu => h6.cell hu (by simp)
        have hfr : ∀ i, w1.frozen? ⟨p.r, i, none⟩ = false := fun i => (h6.frozen_far ⟨p.r, i, none⟩ hlr (by simp)).trans (HD.out.froz i)
        have hlr1 : p.r < w1.heap.size := Nat.lt_of_lt_of_le hlr h6.size
        have d0 := hc 0 _ HD.out.cell.1
        have d2 := hc 2 _ HD.out.cell.2.2.1
        have d3 := hc 3 _ HD.out.cell.2.2.2.1
        have d4 := hc 4 _ HD.out.cell.2.2.2.2.1
        have f0 := hfr 0
        have f2 := hfr 2
        have f3 := hfr 3
        have f4 := hfr 4
        have HT := Lib.hid (crash_tail HD.out h1 h2 h3 h4 h5 h6)
        have hmm := @run_makeMap Tryz.prog
        clear h1 h2 h3 h4 h5 h6 c1 hc hfr
        go_wp2_with fail
        refine (arm_any HT.out.1 0 (by omega) (.slice none 0 0) [] ⟨none, 0, rfl, Nat.le_refl _, .inl rfl⟩ (by simp)).mono ?_
        rintro e w7 ⟨rfl, haf⟩
        have HAF := Lib.hid haf
        clear haf
        go_wp2_with fail
        go_end0
        refine ⟨rfl, ?_⟩
        rw [HE.out]
        have a1 : Af S p.r (withD st (durs st.now ks 0 st.q st.dur)) w wr := ⟨⟨{ p with dv := dv' }, rfl, HD.out⟩, HB.out.mono (fun i hi => by
          rcases hi with rfl | ⟨n, hn⟩
          · exact H.out.inS .dm _ rfl
          · exact H.out.inS (.d n) _ hn)⟩
        have a2 : Af (Grew S w wr) p.r (fallen (withD st (durs st.now ks 0 st.q st.dur))) wr _ := ⟨by refine ⟨_, ?_, HT.out.1⟩; rfl, HT.out.2⟩
        exact a1.trans (a2.trans HAF.out)
end Go.Proofs.YtejddacjncpneaaGreatDoor.Di

namespace Go.Proofs.YtejddacjncpneaaGreatDoor.Di
open Go.RowKit Go.ChangeShapes Go.WideShapes

theorem Own.ints {w : World} {v : Value} {ks : List Int} (h : Own w 3 1 v ks.length (ks.map (Value.int .i64 ·))) : Ints w v ks ∧ ∀ b, Ints.off v b → blk v = some b := by
  rcases h.2 with ⟨a, rfl, h0⟩ | ⟨g, cap, cur, rfl, hg, hn, hc, hm, hcs, ht⟩
  · refine ⟨⟨a, 0, by rw [h0], by omega, .inl (List.eq_nil_of_length_eq_zero h0)⟩, fun b hb => ?_⟩
    obtain ⟨o, n, c, e⟩ := hb
    cases e
  · refine ⟨⟨_, cap, rfl, hn, .inr ⟨g, 0, rfl, fun i hi => ?_⟩⟩, fun b hb => ?_⟩
    · have : (ks.map (Value.int .i64 ·))[i]? = some (.int .i64 ks[i]) := by simp [hi]
      obtain ⟨g', e, hcell⟩ := h.cell this
      cases e
      rw [Nat.zero_add]
      exact hcell
    · obtain ⟨o, n, c, e⟩ := hb
      simp at e
      rw [blk_pos hc, e.1.1]

theorem goes_any {S : Nat → Prop} {p : Rep} {st : St} {w : World} (h : IsD S p st w) :
    Calls Tryz.prog 55 #[.pointer (some ⟨p.r, 0, none⟩)] w fun e w' => e = .returned (.bool (goes st).down) ∧ Af S p.r (goes st) w w' := by
  obtain ⟨c0, c1, c2, c3, c4, c5, c6, c7⟩ := h.cell
  have f6 := h.froz 6
  have hcal := h.wf.calls
  by_cases hd : st.down = true
  · have e : goes st = st := by unfold goes; rw [if_pos (.inl hd)]
    have HF : Hid (Af S p.r (goes st) w w) := by rw [e]; exact ⟨⟨p, rfl, h.mono fun b hb => .inl hb⟩, But.refl _ _⟩
    have HE : Hid ((goes st).down = true) := by rw [e]; exact hd
    rw [hd] at c4
    clear h c0 c1 c2 c3 c5 c6 c7 e hd f6
    go_enter Tryz.func55, Tryz.ntmps55
    go_wp2_with fail
    go_ret
    rw [HE.out]
    exact ⟨rfl, HF.out⟩
  · have hd' : st.down = false := by simpa using hd
    by_cases h0 : st.calls = 0
    · have e : goes st = st := by unfold goes; rw [if_pos (.inr h0)]
      have HF : Hid (Af S p.r (goes st) w w) := by rw [e]; exact ⟨⟨p, rfl, h.mono fun b hb => .inl hb⟩, But.refl _ _⟩
      have HE : Hid ((goes st).down = false) := by rw [e]; exact hd'
      rw [hd'] at c4
      rw [h0] at c6
      clear h c0 c1 c2 c3 c5 c7 e hd hd' f6 h0
      go_enter Tryz.func55, Tryz.ntmps55
      go_wp2_with fail
      go_ret
      rw [HE.out]
      exact ⟨rfl, HF.out⟩
    · by_cases h1 : st.calls = 1
      · have e : goes st = crash st st.keep := by
          unfold goes; rw [if_neg (fun h => h.elim hd h0), if_pos h1]
        have hown : Own w 3 1 p.kv st.keep.length _ := h.holds .kv
        obtain ⟨hi, hof⟩ := hown.ints
        have hcr := crash_any h p.kv st.keep hi h.wf.keep (fun b hb s hs => h.inj s .kv b hs (hof b hb))
        have HC := Lib.hid hcr
        have HE := Lib.hid e
        have HD : Hid ((goes st).down = true) := by unfold Hid; rw [e]; unfold crash; rw [if_neg hd]
        rw [hd'] at c4
        rw [h1] at c6
        clear h c0 c1 c2 c3 c5 e hd hd' f6 h0 h1 hown hi hof hcr
        go_enter Tryz.func55, Tryz.ntmps55
        go_wp2_with fail
        refine HC.out.mono ?_
        rintro e w1 ⟨rfl, haf⟩
        have d4 : w1.cell? ⟨p.r, 4, none⟩ = some (.bool true) := by
          obtain ⟨⟨p1, hp1, hd1⟩, _⟩ := haf
          have := hd1.cell.2.2.2.2.1
          rw [hp1, ← HE.out, HD.out] at this
          exact this
        have HAF := Lib.hid haf
        clear haf
        go_wp2_with fail
        go_ret
        rw [HD.out, HE.out]
        exact ⟨rfl, HAF.out⟩
      · have e : goes st = { st with calls := st.calls - 1 } := by
          unfold goes; rw [if_neg (fun h => h.elim hd h0), if_neg h1]
        have hwf := goes_wf h.wf
        have HE : Hid ((goes st).down = false) := by unfold Hid; rw [e]; exact hd'
        have HF : Hid (Af S p.r (goes st) w (w.setCell ⟨p.r, 6, none⟩ (.int .i64 (st.calls - 1)))) := by
          rw [e] at hwf ⊢
          have := h.stepR (p' := p) (st' := { st with calls := st.calls - 1 }) rfl (grownBy_setCell' w p.r 6 (.int .i64 (st.calls - 1))) (Lib.heap_setCell_same (i := 6) (h.holds .r) _) (fun s hs => ⟨fun hh => by cases s <;> first | exact hh | exact absurd rfl hs, rfl⟩) hwf
          exact ⟨⟨p, rfl, this.1⟩, this.2⟩
        rw [hd'] at c4
        obtain ⟨n, hn⟩ : ∃ n, st.calls = n := ⟨_, rfl⟩
        rw [hn] at c6 hcal h0 h1 HF
        have h01 : decide (n = 0) = false := by simpa using h0
        have h11 : decide (n = 1) = false := by simpa using h1
        have hb0 : (n == 0) = false := by simpa using h0
        have hb1 : (n == 1) = false := by simpa using h1
        clear h c0 c1 c2 c3 c5 c7 e hd hd' hwf hn
        go_enter Tryz.func55, Tryz.ntmps55
        go_wp2_with fail
        go_ret
        rw [HE.out]
        exact ⟨rfl, HF.out⟩
end Go.Proofs.YtejddacjncpneaaGreatDoor.Di

namespace Go.Proofs.YtejddacjncpneaaGreatDoor.Di
open Go.RowKit Go.ChangeShapes Go.WideShapes

/-- delete at a step of a region that draws its order. -/
theorem step_delete {P : Program} {w w' : World} {ops : Array Oper} {o : Oper} {a : Act} {K : Act → World → Prop} {Q : Exit → Act → World → Prop} {E : Prop} (hgd : o.guard = none) (m x : Operand) (t kt : TypeId)
    (ho : o.op = .call { callee := .builtin .delete, args := #[m, x], argTypes := #[t, kt] }) (vm vx : Value) (hm : a.eval m = vm) (hx : a.eval x = vx) (hr : (Builtin.delete_ #[t, kt] o.type #[vm, vx]).run P w = .ok (.tuple #[]) w')
    (hk : K (a.put o.dst (.tuple #[])) w') : if Region.wanted o (yielded ops a.tmps) = true then Oper.wp P o a w K Q else E := by
  have hw : Region.wanted o (yielded ops a.tmps) = true := by simp [Region.wanted, hgd]
  rw [if_pos hw]
  unfold Oper.wp execOp
  simp only [ho, resolve, invoke, builtin, Sem.run_bind, Sem.run_pure, Result.andThen_ok, List.map_toArray, List.map_cons, List.map_nil, hm, hx, hr]
  exact hk

def isNot (f : Int) (s : Int × Nat) : Bool := !decide (s.1 = f)
/-- The sectors that are listed behind k rounds; those that are kept. -/
def listedAt (q : List (Int × Nat)) (f : Int) (k : Nat) : List (Int × Nat) := (q.take k).filter (isNot f) ++ q.drop k
def keptAt (q : List (Int × Nat)) (f : Int) (k : Nat) : List (Int × Nat) := (q.take k).filter (isNot f)

theorem keptAt_yes {q : List (Int × Nat)} {f : Int} {k : Nat} (h : k < q.length) (hs : q[k].1 ≠ f) : keptAt q f (k + 1) = keptAt q f k ++ [q[k]] ∧ listedAt q f (k + 1) = listedAt q f k := by
  unfold keptAt listedAt
  have e : isNot f q[k] = true := by simp [isNot, hs]
  rw [List.take_succ_eq_append_getElem h, List.filter_append]
  have e2 : List.filter (isNot f) [q[k]] = [q[k]] := by simp [List.filter, e]
  rw [e2]
  refine ⟨rfl, ?_⟩
  rw [List.append_assoc, List.singleton_append, List.getElem_cons_drop]
theorem keptAt_no {q : List (Int × Nat)} {f : Int} {k : Nat} (h : k < q.length) (hs : q[k].1 = f) : keptAt q f (k + 1) = keptAt q f k := by
  unfold keptAt
  have e : isNot f q[k] = false := by simp [isNot, hs]
  rw [List.take_succ_eq_append_getElem h, List.filter_append]
  simp [List.filter, e]
theorem listedAt_no {q : List (Int × Nat)} {f : Int} {k : Nat} (h : k < q.length) (hs : q[k].1 = f) (hn : q.Nodup) : Drops (setQ (listedAt q f k)) (keyS q[k]) (setQ (listedAt q f (k + 1))) := by
  have e1 : listedAt q f (k + 1) = keptAt q f k ++ q.drop (k + 1) := by show keptAt q f (k + 1) ++ _ = _; rw [keptAt_no h hs]
  have e0 : listedAt q f k = keptAt q f k ++ q[k] :: q.drop (k + 1) := by show keptAt q f k ++ _ = _; rw [List.getElem_cons_drop]
  refine ⟨setQ_not ?_, fun x hx => ?_⟩
  · rw [e1, List.mem_append]
    rintro (h1 | h1)
    · have := (List.mem_filter.1 h1).2
      simp [isNot, hs] at this
    · have hd : (q.drop k).Nodup := List.Sublist.nodup (List.drop_sublist k q) hn
      rw [← List.getElem_cons_drop h] at hd
      exact (List.nodup_cons.1 hd).1 h1
  · unfold setQ
    congr 1
    apply propext
    rw [e0, e1]
    constructor
    · rintro ⟨s, hs, e⟩
      refine ⟨s, ?_, e⟩
      rcases List.mem_append.1 hs with h1 | h1
      · exact List.mem_append_left _ h1
      · exact List.mem_append_right _ (List.mem_cons_of_mem _ h1)
    · rintro ⟨s, hs, e⟩
      refine ⟨s, ?_, e⟩
      rcases List.mem_append.1 hs with h1 | h1
      · exact List.mem_append_left _ h1
      · rcases List.mem_cons.1 h1 with h2 | h2
        · exact absurd (by rw [← e, h2]) hx
        · exact List.mem_append_right _ h2
theorem listedAt_zero (q : List (Int × Nat)) (f : Int) : listedAt q f 0 = q := by simp [listedAt]
theorem listedAt_end {q : List (Int × Nat)} {f : Int} {k : Nat} (h : q.length ≤ k) : listedAt q f k = q.filter (isNot f) ∧ keptAt q f k = q.filter (isNot f) := by
  unfold listedAt keptAt
  rw [List.take_of_length_le h, List.drop_eq_nil_of_le h]
  simp
theorem keptAt_len (q : List (Int × Nat)) (f : Int) (k : Nat) : (keptAt q f k).length ≤ q.length :=
  Nat.le_trans (List.length_filter_le _ _) (by rw [List.length_take]; omega)

/-- What holds at the head of a round of settle. -/
def SetAt (p : Rep) (q : List (Int × Nat)) (f : Int) (w1 : World) (k : Nat) (ov : Value) (wr : World) : Prop :=
  But (fun b => b = p.lm) w1 wr ∧ MapIs Tryz.prog 76 wr p.lm (setQ (listedAt q f k)) ∧ Own wr 76 2 ov (keptAt q f k).length (cellsQ (keptAt q f k)) ∧ ∀ b, blk ov = some b → w1.heap.size ≤ b

theorem SetAt.grown {p : Rep} {q : List (Int × Nat)} {f : Int} {w1 wr w2 : World} {k : Nat} {ov : Value} (h : SetAt p q f w1 k ov wr) (hg : wr.grownBy w2 none) : SetAt p q f w1 k ov w2 := by
  obtain ⟨h1, h2, h3, h4⟩ := h
  exact ⟨h1.trans (S' := fun _ => False) (But.of hg fun b e _ => by cases e) (fun _ _ h => h.elim), h2.kept (hg.block _ h2.lt (by simp)), h3.grown0 hg, h4⟩

theorem SetAt.push {p : Rep} {q : List (Int × Nat)} {f : Int} {w1 wr : World} {k : Nat} {ov : Value} {s : Int × Nat} (h : SetAt p q f w1 k ov wr) (hk : k < q.length) (hs : q[k] = s) (hne : s.1 ≠ f) (hq : q.length ≤ 4194304) :
    ∃ a' n' c' w3, (Builtin.append_ #[58, 58] 58 #[ov, .slice (some ⟨wr.heap.size + 1, 0, none⟩) 1 1]).run Tryz.prog ((wr.alloc (.cells #[.int .i64 s.1, .int .i64 s.2] 76)).alloc (.cells #[.int .i64 s.1, .int .i64 s.2] 76)) = .ok (.slice a' n' c') w3 ∧ SetAt p q f w1 (k + 1) (.slice a' n' c') w3 := by
  obtain ⟨i0, hi, hz0, hz1, hz2⟩ := info_parts infoS
  have hg : wr.grownBy ((wr.alloc (.cells #[.int .i64 s.1, .int .i64 s.2] 76)).alloc (.cells #[.int .i64 s.1, .int .i64 s.2] 76)) none := (World.grownBy_alloc _ _ _).trans (World.grownBy_alloc _ _ _)
  obtain ⟨hb, hm, ho, hn⟩ := h.grown hg
  have hsrc : Src Tryz.prog 2 58 (.slice (some ⟨wr.heap.size + 1, 0, none⟩) 1 1) 1 [.int .i64 s.1, .int .i64 (s.2 : Int)] ((wr.alloc (.cells #[.int .i64 s.1, .int .i64 s.2] 76)).alloc (.cells #[.int .i64 s.1, .int .i64 s.2] 76)) := by
    have e : wr.heap.size + 1 = (wr.alloc (.cells #[.int .i64 s.1, .int .i64 s.2] 76)).heap.size := by simp
    rw [e]
    exact Src.ofSlice _ Tryz.underlying58 _ 1 1 _ (by simp) (World.news_of_block (cs := #[.int .i64 s.1, .int .i64 (s.2 : Int)]) (t := 76) (fr := (0, 0)) (heap_alloc_new _ _)) (by simp [Value.oneCell'])
  have hlen := keptAt_len q f k
  obtain ⟨v', w3, hrun, h1, h2, h3⟩ := own_append (P := Tryz.prog) (ty := 58) Tryz.underlying58 hi hz0 hz1 hz2 rfl ho hsrc (by unfold maxLen; omega) (by omega)
  obtain ⟨a', c', rfl, _, _⟩ := h1.shape
  refine ⟨a', _, c', w3, hrun, ?_, ?_, ?_, ?_⟩
  · exact hb.trans (S' := fun b => blk ov = some b) (But.of h2 fun b e _ => e) (fun i hi e => by have := hn i e; omega)
  · have := (keptAt_yes hk (by rw [hs]; exact hne)).2
    rw [this]
    exact hm.kept (h2.block _ hm.lt (fun e => Own.ne_map ho hm e.symm))
  · have e := (keptAt_yes hk (by rw [hs]; exact hne)).1
    rw [hs] at e
    rw [e]
    have e1 : (keptAt q f k ++ [s]).length = (keptAt q f k).length + 1 := by simp
    have e2 : cellsQ (keptAt q f k ++ [s]) = cellsQ (keptAt q f k) ++ [.int .i64 s.1, .int .i64 s.2] := by simp [cellsQ]
    rw [e1, e2]
    exact h1
  · intro b hb'
    rcases h3 with e | e | e
    · rw [e] at hb'; cases hb'
    · rw [e] at hb'; exact hn b hb'
    · rw [e] at hb'; cases hb'
      exact hb.size

theorem settle_end {S : Nat → Prop} {p : Rep} {st : St} {w1 wr : World} {f : Int} {ov : Value} {k : Nat} (h : IsC S p st w1) (hk : st.q.length ≤ k) (hs : SetAt p st.q f w1 k ov wr) :
    IsC (Grew S w1 (wr.setCell ⟨p.r, 2, none⟩ ov)) { p with pv := ov } { st with q := st.q.filter (isNot f) } (wr.setCell ⟨p.r, 2, none⟩ ov) ∧ But S w1 (wr.setCell ⟨p.r, 2, none⟩ ov) := by
  obtain ⟨h1, h2, h3, h4⟩ := hs
  obtain ⟨e1, e2⟩ := listedAt_end (f := f) hk
  rw [e1] at h2
  rw [e2] at h3
  have hlr := h.lt (s := .r) rfl
  have hll := h.lt (s := .lm) rfl
  have nrl : p.r ≠ p.lm := fun e => by have := h.inj .r .lm p.r rfl (by rw [e]; rfl); cases this
  have hr := (h1.block p.r hlr nrl).trans (h.holds .r)
  have hr2 := Lib.heap_setCell_same (i := 2) hr ov
  have hg := grownBy_setCell' wr p.r 2 ov
  have hsz := h1.size
  refine h.step (p' := { p with pv := ov }) (st' := { st with q := st.q.filter (isNot f) }) (fun s => s = Sl.r ∨ s = .pv ∨ s = .lm) ?_ ?_ ?_ ?_ ?_
  · exact (h1.mono fun b e => ⟨.lm, .inr (.inr rfl), by rw [e]; rfl⟩).trans (S' := fun b => b = p.r) (But.of hg fun b e _ => by cases e; rfl) (fun i _ e => ⟨.r, .inl rfl, by rw [e]; rfl⟩)
  · rintro s (rfl | rfl | rfl)
    · exact hr2
    · exact h3.grown hg (by
        cases hb : blk ov with
        | none => exact .inl rfl
        | some b => right; intro e; cases e; have := h4 _ hb; omega)
    · exact h2.kept (hg.block _ h2.lt (fun e => nrl (Option.some.inj e).symm))
  · intro s hs
    refine ⟨fun hh => ?_, ?_⟩
    · cases s <;> first | exact hh | (exfalso; apply hs; simp; done)
    · cases s <;> first | rfl | (exfalso; apply hs; simp; done)
  · rintro s b (rfl | rfl | rfl) hb
    · exact .inl hb
    · exact .inr (h4 b hb)
    · exact .inl hb
  · rintro s s' b (rfl | rfl | rfl) (rfl | rfl | rfl) hb hb' <;> first
      | rfl
      | (exfalso; have e1 := Option.some.inj hb; have e2 := Option.some.inj hb'; exact nrl (e1.trans e2.symm))
      | (exfalso; have e1 := Option.some.inj hb; have e2 := Option.some.inj hb'; exact nrl (e2.trans e1.symm))
      | (exfalso; have e1 := Option.some.inj hb; have e2 := h4 b hb'; simp only at e1; omega)
      | (exfalso; have e1 := Option.some.inj hb'; have e2 := h4 b hb; simp only at e1; omega)
end Go.Proofs.YtejddacjncpneaaGreatDoor.Di

namespace Go.Proofs.YtejddacjncpneaaGreatDoor.Di
open Go.RowKit Go.ChangeShapes Go.WideShapes
attribute [local go_sem ↓] Go.wp_at_zero Go.wp_at_succ

set_option maxRecDepth 100000 in
set_option maxHeartbeats 4000000 in
theorem settle_any {S : Nat → Prop} {p : Rep} {st : St} {w : World} (h : IsC S p st w) (f : Int) (hf : isF f = true) (hq : st.q.length ≤ 4194304) (hl : (st.now f).length ≤ 16777216)
    (hk : ∀ s ∈ st.q, isF s.1 = true ∧ s.2 ≤ 16777216) (hnd : st.q.Nodup) :
    Calls Tryz.prog 56 #[.pointer (some ⟨p.r, 0, none⟩), .int .i64 f] w fun e w' => e = .returned (.tuple #[]) ∧ ∃ p', p'.r = p.r ∧ IsC (Grew S w w') p' (settle st f) w' ∧ But S w w' := by
  have hfr := isF_t.1 hf
  obtain ⟨c0, c1, c2, c3, c4, c5, c6, c7⟩ := h.cell
  obtain ⟨fa, fc, hlf, hof, hbf, hc1, hc2⟩ := h.lookF f (by omega)
  obtain ⟨da, dc, hld, hod, hbd, hd1, hd2⟩ := h.lookD f (by omega)
  obtain ⟨i0, hi, hz0, hz1, hz2⟩ := info_parts infoB
  have hod0 : Own w.drew 5 1 (.slice da 0 dc) 0 [] := by have := (Own.take hod (m := 0) (Nat.zero_le _)).grown0 (grown_drew w); simpa using this
  have hsrc : Src Tryz.prog 1 78 (.slice fa (st.now f).length fc) (st.now f).length (Lib.byteCells (st.now f)) w.drew := Own.src (hof.grown0 (grown_drew w)) Tryz.underlying78 (Lib.byteCells_one _)
  have hbd0 : blk (.slice da 0 dc) = p.at (.d f) := by rw [← hbd]; cases da <;> cases dc <;> rfl
  have hDP : ∀ a' c' w3, Own w3 5 1 (.slice a' (0 + (st.now f).length) c') (0 + (st.now f).length) ([] ++ Lib.byteCells (st.now f)) → w.drew.grownBy w3 (blk (.slice da 0 dc)) →
      (blk (.slice a' (0 + (st.now f).length) c') = none ∨ blk (.slice a' (0 + (st.now f).length) c') = blk (.slice da 0 dc) ∨ blk (.slice a' (0 + (st.now f).length) c') = some w.drew.heap.size) →
      (w3.cell? ⟨p.r, 0, none⟩ = some (.map (some p.fm)) ∧ w3.cell? ⟨p.r, 1, none⟩ = some (.map (some p.dm))) ∧
      ∃ w4, (Instr.mapUpdate 56 (.map (some p.dm)) (.int .i64 f) (.slice a' (st.now f).length c')).run Tryz.prog w3 = .ok () w4 ∧ (w4.cell? ⟨p.r, 0, none⟩ = some (.map (some p.fm)) ∧ w4.cell? ⟨p.r, 1, none⟩ = some (.map (some p.dm))) ∧
        IsC (Grew S w w4) { p with dv := upd p.dv f (some (.slice a' (st.now f).length c')) } { st with dur := upd st.dur f (st.now f) } w4 ∧ But S w w4 := by
    intro a' c' w3 h1 h2 h3
    rw [Nat.zero_add, List.nil_append] at h1
    rw [Nat.zero_add] at h3
    rw [hbd0] at h2 h3
    have hg : w.grownBy w3 (p.at (.d f)) := ((grown_drew w).but _).trans h2
    have hlr := h.lt (s := .r) rfl
    have ner : p.at (.d f) ≠ some p.r := fun e => by have := h.inj (.d f) .r p.r e rfl; cases this
    have nedr : p.dm ≠ p.r := fun e => by have := h.inj .dm .r p.dm rfl (by rw [e]; rfl); cases this
    have k3 := hg.block p.r hlr (Ne.symm ner)
    obtain ⟨w4, hup, hc4, hb4, hg4, hs4⟩ := h.dput f (by omega) hg h1 (h3.imp id (fun h => h.imp id (fun h => ⟨_, h, by show w.heap.size ≤ w.drew.heap.size; exact Nat.le_refl _⟩)))
    have hsz := hg.size
    have k4 := hg4.block p.r (by omega) (fun e => nedr (Option.some.inj e).symm)
    have cc : ∀ w' : World, w'.heap[p.r]? = w.heap[p.r]? → w'.cell? ⟨p.r, 0, none⟩ = some (.map (some p.fm)) ∧ w'.cell? ⟨p.r, 1, none⟩ = some (.map (some p.dm)) := fun w' e =>
      ⟨(World.cell?_of_block (a := ⟨p.r, 0, none⟩) e).trans c0, (World.cell?_of_block (a := ⟨p.r, 1, none⟩) e).trans c1⟩
    refine ⟨cc w3 k3, w4, hup, cc w4 (k4.trans k3), hc4, hb4.mono ?_⟩
    rintro i ⟨s, _, hs⟩
    exact h.inS s i hs
  have hlF := hlf w.drew rfl
  have hlD := hld w.drew rfl
  obtain ⟨fl, hfl⟩ : ∃ fl, (st.now f).length = fl := ⟨_, rfl⟩
  obtain ⟨bc, hbc⟩ : ∃ bc, Lib.byteCells (st.now f) = bc := ⟨_, rfl⟩
  obtain ⟨dl, hdl⟩ : ∃ dl, (st.dur f).length = dl := ⟨_, rfl⟩
  rw [hfl] at hl hDP hsrc hlF hc1
  rw [hbc] at hDP hsrc
  rw [hdl] at hlD hd1
  have HDP := Lib.hid hDP
  have HSRC := Lib.hid hsrc
  have HOD := Lib.hid hod0
  have HQ := Lib.hid hq
  have HK := Lib.hid hk
  have HND := Lib.hid hnd
  have HF := Lib.hid hf
  have hs0 : w.cell? ⟨p.r, 0, none⟩ = some (.map (some p.fm)) ∧ w.cell? ⟨p.r, 1, none⟩ = some (.map (some p.dm)) := ⟨c0, c1⟩
  clear h c2 c3 c4 c5 c6 c7 hof hod hbf hbd hod0 hsrc hbd0 hDP hfl hbc hlf hld hdl hq hk hnd hf c0 c1
  go_enter Tryz.func56, Tryz.ntmps56
  go_wp2_with fail
  go_region_held3 (fun w' => w'.cell? ⟨p.r, 0, none⟩ = some (.map (some p.fm)) ∧ w'.cell? ⟨p.r, 1, none⟩ = some (.map (some p.dm)))
    (first | exact hs0 | exact hs3 | exact hs4)
    ((refine step_own_append (by rfl) _ _ _ _ (by rfl) Tryz.underlying78 hi hz0 hz1 hz2 rfl (by rfl) HOD.out _ (by rfl) HSRC.out (by unfold maxLen; omega) (by omega) ?_; intro a' c' w3 hown3 hgr3 hbl3; obtain ⟨hs3, w4, hup, hs4, hc4, hb4⟩ := HDP.out a' c' w3 hown3 hgr3 hbl3; rw [Nat.zero_add]))
  all_goals
    have HC4 := Lib.hid hc4
    have HB4 := Lib.hid hb4
    have hown : Own w4 76 2 p.pv st.q.length (cellsQ st.q) := hc4.holds .pv
    obtain ⟨pa, pc, hpv, hpc, _⟩ := hown.shape
    have c2 : w4.cell? ⟨p.r, 2, none⟩ = some p.pv := hc4.cell.2.2.1
    have hlr4 : p.r < w4.heap.size := hc4.lt (s := .r) rfl
    rw [hpv] at c2
    have HPV := Lib.hid hpv
    obtain ⟨ql, hql⟩ : ∃ ql, st.q.length = ql := ⟨_, rfl⟩
    have HQL := Lib.hid hql
    rw [hql] at c2 hpc
    have hqb : ql ≤ 4194304 := by rw [← hql]; exact HQ.out
    have H0 : Hid (SetAt p st.q f w4 0 (.slice none 0 0) w4) := by
      refine ⟨But.refl _ _, ?_, ?_, fun b hb => by cases hb⟩
      · rw [listedAt_zero]; exact hc4.holds .lm
      · have : keptAt st.q f 0 = [] := by simp [keptAt]
        rw [this]; exact Own.nil _ _ _
    clear hc4 hb4 hup hs4 hs3 hown3 hgr3 hbl3 hown hpv hql hs0 hlF hlD hi hz0 hz1 hz2
    go_wp2_with fail
    go_loopw [4, 31] (fun ov i wr => ∃ k : Nat, k ≤ ql ∧ i = .int .i64 k ∧ SetAt p st.q f w4 k ov wr) (fun _ i _ => ql - (RowKit.intOf i).toNat)
    case atStart => exact ⟨0, Nat.zero_le _, rfl, H0.out⟩
    case round =>
      clear c2
      obtain ⟨k, hkq, rfl, hat⟩ := hrel
      have HA := Lib.hid hat
      clear hat
      by_cases hlt : k < ql
      · have hkq' : k < st.q.length := by rw [HQL.out]; exact hlt
        obtain ⟨s, hs⟩ : ∃ s, st.q[k] = s := ⟨_, rfl⟩
        have hsm : s ∈ st.q := by rw [← hs]; exact List.getElem_mem _
        have hsq := HK.out s hsm
        have hsf := isF_t.1 hsq.1
        obtain ⟨hb1, hm1, ho1, hn1⟩ := HA.out
        have npl : blk p.pv ≠ some p.lm := fun e => by have := HC4.out.inj .pv .lm p.lm e rfl; cases this
        have nrl : p.r ≠ p.lm := fun e => by have := HC4.out.inj .r .lm p.r rfl (by rw [e]; rfl); cases this
        have hown : Own wr 76 2 (.slice pa st.q.length pc) st.q.length (cellsQ st.q) := by
          rw [← HPV.out]
          have h4 : Own w4 76 2 p.pv st.q.length (cellsQ st.q) := HC4.out.holds .pv
          exact h4.kept fun b hb => hb1.block b (h4.lt b hb) (fun e => npl (by rw [hb, e]))
        have hcq := cellsQ_get st.q k hkq'
        rw [hs] at hcq
        obtain ⟨g, hpa, hq0⟩ := hown.cell hcq.1
        obtain ⟨g2, hpa2, hq1⟩ := hown.cell hcq.2
        obtain rfl : g = g2 := by rw [hpa] at hpa2; simpa using hpa2
        subst hpa
        obtain ⟨kl, hkl⟩ := keyS_of s hsq.1 hsq.2
        have hkr := hb1.block p.r hlr4 nrl
        have c3 : wr.cell? ⟨p.r, 3, none⟩ = some (.map (some p.lm)) := (World.cell?_of_block (a := ⟨p.r, 3, none⟩) hkr).trans HC4.out.cell.2.2.2.1
        have hlr : p.r < wr.heap.size := Nat.lt_of_lt_of_le hlr4 hb1.size
        have hgl := World.block_lt_of_cell? wr _ hq0
        have hgw : wr.grownBy (wr.alloc (.cells #[.int .i64 s.1, .int .i64 s.2] 76)) none := World.grownBy_alloc _ _ _
        have HA1 := Lib.hid (HA.out.grown hgw)
        by_cases hsf1 : s.1 = f
        · obtain ⟨w6, hdel, hm6, hg6, hs6⟩ := (hm1.kept (w' := (wr.alloc (.cells #[.int .i64 s.1, .int .i64 s.2] 76)).drew) ((MapKept.heap_alloc wr _).2 _ hm1.lt)).delete (ty := 0) lawS Tryz.underlying57 hkl (by rw [← hs]; exact listedAt_no hkq' (by rw [hs]; exact hsf1) HND.out)
          have H6 : Hid (∀ ov, SetAt p st.q f w4 k ov wr → SetAt p st.q f w4 (k + 1) ov w6) := by
            intro ov ⟨hb1, hm1, ho1, hn1⟩
            refine ⟨(hb1.trans (S' := fun _ => False) (But.of (hgw.trans (grown_drew _)) fun b e _ => by cases e) (fun _ _ h => h.elim)).trans (S' := fun b => b = p.lm) (But.of hg6 fun b e _ => by cases e; rfl) (fun _ _ h => h), hm6, ?_, hn1⟩
            rw [keptAt_no hkq' (by rw [hs]; exact hsf1)]
            exact (ho1.grown0 (hgw.trans (grown_drew _))).grown hg6 (.inr (Own.ne_map (ho1.grown0 (hgw.trans (grown_drew _))) (hm1.kept ((MapKept.heap_alloc wr _).2 _ hm1.lt))))
          have HDEL := Lib.hid hdel
          clear hb1 hm1 ho1 hn1 hown hcq hkl hm6 hg6 hs6 hs hsm hsq hkq' hpa2 hkr hgw hdel
          rcases s with ⟨sf, sn⟩
          simp only at *
          subst hsf1
          go_wp2_with fail
          go_region_law ((refine step_delete (by rfl) _ _ _ _ (by rfl) _ _ (by rfl) (by rfl) HDEL.out ?_))
          all_goals
            go_wp2_with fail
            go_roundw
            case rel => exact ⟨k + 1, by omega, by go_num, H6.out _ HA.out⟩
            case measure => simp [RowKit.intOf]; omega
        · obtain ⟨a9, n9, c9, w9, hrun9, hat9⟩ := HA.out.push hkq' hs hsf1 HQ.out
          have H9 := Lib.hid hat9
          have hsf0 : (s.1 == f) = false := by simpa using hsf1
          have hsf2 : decide (s.1 = f) = false := by simpa using hsf1
          clear hb1 hm1 ho1 hn1 hown hcq hkl hs hsm hsq hkq' hpa2 hkr hgw hat9 hsf1
          rcases s with ⟨sf, sn⟩
          simp only at *
          go_wp2_with (at_builtin; refine Lib.wpList_append_run _ rfl _ _ _ _ rfl _ _ rfl rfl _ _ hrun9 ?_)
          go_roundw
          case rel => exact ⟨k + 1, by omega, by go_num, H9.out⟩
          case measure => simp [RowKit.intOf]; omega
      · have hkl : k = ql := by omega
        have HKL := Lib.hid hkl
        have nrl : p.r ≠ p.lm := fun e => by have := HC4.out.inj .r .lm p.r rfl (by rw [e]; rfl); cases this
        have hkr := HA.out.1.block p.r hlr4 nrl
        have c2 : wr.cell? ⟨p.r, 2, none⟩ = some p.pv := (World.cell?_of_block (a := ⟨p.r, 2, none⟩) hkr).trans HC4.out.cell.2.2.1
        have f2 : wr.frozen? ⟨p.r, 2, none⟩ = false := (World.frozen?_of_block (a := ⟨p.r, 2, none⟩) hkr).trans (HC4.out.froz 2)
        have hown9 := HA.out.2.2.1
        obtain ⟨a9, c9, hov9, _, _⟩ := hown9.shape
        subst hov9
        have HEND := Lib.hid (settle_end HC4.out (by rw [HQL.out, hkl]; exact Nat.le_refl _) HA.out)
        clear hkr hkl hown9
        go_wp2_with fail
        go_end0
        refine ⟨rfl, _, ?_, HEND.out.1.mono fun b hb => ?_, HB4.out.trans HEND.out.2 fun i hi hb => ?_⟩
        · rfl
        · have := HEND.out.2.size
          have := HB4.out.size
          rcases hb with (hb | ⟨h1, h2⟩) | ⟨h1, h2⟩
          · exact .inl hb
          · exact .inr ⟨h1, by omega⟩
          · exact .inr ⟨by omega, h2⟩
        · rcases hb with hb | ⟨h1, h2⟩
          · exact hb
          · omega
end Go.Proofs.YtejddacjncpneaaGreatDoor.Di
