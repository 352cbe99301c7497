/- The contract of copyFiles. -/
import Derived.Test.YtkphmkhdlkdphaaL2
import Derived.Maps.RangeWalk
namespace Go.Proofs.Ytkphmkhdlkdphaa
open Go.RowKit Go.ChangeShapes Go.WideShapes

theorem makeMap52 (n : Nat) (w : World) : (Instr.makeMap 52 (some (.int .i64 (n : Int)))).run Try.prog w = .ok (.map (some w.heap.size)) (w.alloc (.map #[] 0)) := by
  simp [Instr.makeMap, run_underlying Try.underlying52, asInt, asIntOf, newObj, go_sem, Result.andThen]
  rfl

theorem MapIs.range_key {w : World} {b : Nat} {g : Int → Option Value} (h : MapIs Try.prog 3 w b (mapF g)) {n : Int} {v : Value} (hn : g n = some v) : -9223372036854775808 ≤ n ∧ n ≤ 9223372036854775807 := by
  obtain ⟨es, clock, _, _, hk, hf⟩ := h
  obtain ⟨x, hx, hxk, _⟩ := (hf (.int .i64 n) v).1 (by simpa [mapF] using hn)
  obtain ⟨l, hl⟩ := hk x hx
  rw [hxk] at hl
  obtain ⟨y, e, _, hw⟩ := Maps.keyOf_int_inv Try.underlying3 hl
  cases e
  simp [Lit.wf] at hw
  exact hw

/-- What the copy holds while the loop is under way. -/
structure Part (g : Int → Option Value) (l : Int → List UInt8) (left : Value → Bool) (B : Nat) (g' : Int → Option Value) (wr : World) : Prop where
  yes : ∀ n v, g n = some v → left (keyI n) = false → ∃ v', g' n = some v' ∧ OwnB wr v' (l n)
  no : ∀ n, (∀ v, g n = some v → left (keyI n) = true) → g' n = none
  new : ∀ n b, (g' n).bind blk = some b → B ≤ b ∧ b < wr.heap.size
  inj : ∀ n n' b, (g' n).bind blk = some b → (g' n').bind blk = some b → n = n'

def Copied (_g : Int → Option Value) (l : Int → List UInt8) (w : World) (e : Ending) (w' : World) : Prop :=
  ∃ m g', e = .returned (.map (some m)) ∧ w.heap.size ≤ m ∧ MapIs Try.prog 3 w' m (mapF g') ∧ (∀ n, OwnO w' (g' n) (l n)) ∧ (∀ n b, (g' n).bind blk = some b → w.heap.size ≤ b) ∧ (∀ n n' b, (g' n).bind blk = some b → (g' n').bind blk = some b → n = n') ∧ w.grownBy w' none

theorem Own.isCells {w : World} {e size : Nat} {v : Value} {n : Nat} {xs : List Value} (h : Own w e size v n xs) {c : Nat} (hc : blk v = some c) : ∃ cur, w.heap[c]? = some (.cells cur e (0, 0)) := by
  rcases h.2 with ⟨a, rfl, rfl⟩ | ⟨g, cap, cur, rfl, hg, _, h0, _⟩
  · rw [blk_zero] at hc; cases hc
  · rw [blk_pos h0] at hc; cases hc; exact ⟨cur, hg⟩
theorem Own.ne_map {w : World} {e size : Nat} {v : Value} {n : Nat} {xs : List Value} (h : Own w e size v n xs) {P : Program} {k : TypeId} {b : Nat} {f : Value → Option Value} (hm : MapIs P k w b f) : blk v ≠ some b := by
  intro hc
  obtain ⟨cur, h1⟩ := h.isCells hc
  obtain ⟨es, clock, h2, _⟩ := hm
  rw [h1] at h2; cases h2
theorem Own.ne_iter {w : World} {e size : Nat} {v : Value} {n : Nat} {xs : List Value} (h : Own w e size v n xs) {P : Program} {k : TypeId} {b r cnt : Nat} {f : Value → Option Value} {left : Value → Bool} (hm : Ranging P k w b r f left cnt) : blk v ≠ some r := by
  intro hc
  obtain ⟨cur, h1⟩ := h.isCells hc
  obtain ⟨es, clock, since, seen, c0, _, _, _, _, h2, _⟩ := hm
  rw [h1] at h2; cases h2

theorem Part.step {g : Int → Option Value} {l : Int → List UInt8} {left left' : Value → Bool} {B b it cnt n : Nat} {k : Int} {v : Value} {a4 : Option Addr} {c4 : Nat} {g' : Int → Option Value} {wr w3 w4 w5 : World} (h : Part g l left B g' wr) (hgk : g k = some v)
    (hlf : left' (keyI k) = false ∧ ∀ x, x ≠ keyI k → (∃ u, mapF g x = some u) → left' x = left x) (hrg : Ranging Try.prog 3 wr b it (mapF g) left cnt) (hgw : B ≤ wr.heap.size) (hg3 : wr.grownBy w3 (some it)) (hg4 : w3.grownBy w4 none)
    (ho4 : OwnB w4 (.slice a4 n c4) (l k)) (hb4 : ∀ c, blk (.slice a4 n c4) = some c → w3.heap.size ≤ c) (hm4 : MapIs Try.prog 3 w4 B (mapF g')) (hg5 : w4.grownBy w5 (some B)) : Part g l left' B (upd g' k (some (.slice a4 n c4))) w5 := by
  have s3 := hg3.size
  have s4 := hg4.size
  have s5 := hg5.size
  have kept : ∀ v' m, OwnB wr v' m → OwnB w5 v' m := fun v' m ho => by
    have o4 : OwnB w4 v' m := (Own.grown ho hg3 (.inr (Own.ne_iter ho hrg))).grown hg4 (by cases blk v' <;> simp)
    exact Own.grown o4 hg5 (.inr (Own.ne_map o4 hm4))
  have old : ∀ m v, m ≠ k → g m = some v → left' (keyI m) = left (keyI m) := fun m v hm hv => hlf.2 _ (fun e => hm (by simpa [keyI] using e)) ⟨v, by simpa [mapF, keyI] using hv⟩
  refine ⟨fun m v hv hl => ?_, fun m hm => ?_, fun m c hc => ?_, fun m m' c hc hc' => ?_⟩
  · by_cases e : m = k
    · subst e
      exact ⟨_, upd_same _ _ _, Own.grown ho4 hg5 (.inr (Own.ne_map ho4 hm4))⟩
    · rw [old m v e hv] at hl
      obtain ⟨v', h1, h2⟩ := h.yes m v hv hl
      exact ⟨v', by rw [upd_other _ _ e]; exact h1, kept _ _ h2⟩
  · by_cases e : m = k
    · subst e
      have := hm v hgk
      rw [hlf.1] at this; cases this
    · rw [upd_other _ _ e]
      exact h.no m fun v hv => by rw [← old m v e hv]; exact hm v hv
  · by_cases e : m = k
    · subst e
      rw [upd_same] at hc
      have h1 := hb4 c hc
      have h2 := ho4.lt c hc
      exact ⟨by omega, by omega⟩
    · rw [upd_other _ _ e] at hc
      have := h.new m c hc
      exact ⟨this.1, by omega⟩
  · by_cases e : m = k <;> by_cases e' : m' = k
    · rw [e, e']
    · subst e
      rw [upd_same] at hc
      rw [upd_other _ _ e'] at hc'
      have h1 := hb4 c hc
      have h2 := (h.new m' c hc').2
      omega
    · subst e'
      rw [upd_same] at hc'
      rw [upd_other _ _ e] at hc
      have h1 := hb4 c hc'
      have h2 := (h.new m c hc).2
      omega
    · rw [upd_other _ _ e] at hc
      rw [upd_other _ _ e'] at hc'
      exact h.inj m m' c hc hc'

set_option maxRecDepth 100000 in
set_option maxHeartbeats 2000000 in
theorem copyFiles_any (b : Nat) (g : Int → Option Value) (l : Int → List UInt8) (w : World) (hm : MapIs Try.prog 3 w b (mapF g)) (hv : ∀ n, OwnO w (g n) (l n)) (hl : ∀ n, (l n).length ≤ 16777216) :
    Calls Try.prog 40 #[.map (some b)] w (Copied g l w) := by
  have hr : ∀ n v, g n = some v → -9223372036854775808 ≤ n ∧ n ≤ 9223372036854775807 := fun n v hn => hm.range_key hn
  obtain ⟨es, clock, hb, _⟩ := hm.entries
  have hmm := makeMap52 es.size w
  have hlt := hm.lt
  have hm1 := hm.kept (w' := w.alloc (.map #[] 0)) ((MapKept.heap_alloc w _).2 b hlt)
  obtain ⟨w2, left, cnt, hrange, hrg, hleft, hg2, hs2⟩ := hm1.range Try.underlying52
  rw [show (w.alloc (.map #[] 0)).heap.size = w.heap.size + 1 by simp] at hrange hrg hs2
  have hlen : (Builtin.len_ #[52] 3 #[.map (some b)]).run Try.prog w = .ok (.int .i64 es.size) w := by
    simp [Builtin.len_, run_underlying Try.underlying52, MapKept.run_getObj_map hb]
    rfl
  have hm2 : MapIs Try.prog 3 w2 w.heap.size (mapF fun _ => none) := (((MapIs.made (P := Try.prog) (k := 3) w).kept (hg2.block _ (by simp) (by simp))).congr (fun x => (mapF_none x).symm))
  have hgw : w.grownBy w2 none := (World.grownBy_alloc _ _ _).trans hg2
  have hpart : Part g l left w.heap.size (fun _ => none) w2 := ⟨fun n v h1 h2 => (by rw [hleft (keyI n) v (by simpa [mapF, keyI] using h1)] at h2; cases h2), fun _ _ => rfl, fun _ _ h => (by cases h), fun _ _ _ h => (by cases h)⟩
  have HST : Hid (∃ left cnt g', Ranging Try.prog 3 w2 b (w.heap.size + 1) (mapF g) left cnt ∧ MapIs Try.prog 3 w2 w.heap.size (mapF g') ∧ Part g l left w.heap.size g' w2 ∧ w.grownBy w2 none) := ⟨left, cnt, _, hrg, hm2, hpart, hgw⟩
  have HV := Lib.hid hv
  have HL := Lib.hid hl
  have HR := Lib.hid hr
  clear hm1 hm hrg hleft hg2 hs2 hv hl hr hpart hgw hm2 hb
  go_enter Try.func40, Try.ntmps40
  go_wp2_with fail
  go_loopw [4] (fun _ wr => ∃ left cnt g', Ranging Try.prog 3 wr b (w.heap.size + 1) (mapF g) left cnt ∧ MapIs Try.prog 3 wr w.heap.size (mapF g') ∧ Part g l left w.heap.size g' wr ∧ w.grownBy wr none) (fun _ wr => wr.rangeLeft b (w.heap.size + 1))
  case atStart => exact HST.out
  case round =>
    clear HST hrange hlen hmm
    obtain ⟨left, cnt, g', hrg, hmg, hp, hgw⟩ := hrel
    have HRG := Lib.hid hrg
    have HMG := Lib.hid hmg
    have HP := Lib.hid hp
    have HGW := Lib.hid hgw
    rcases hrg.next 0 with ⟨h0, hl0, hnext⟩ | ⟨key, v, w3, cnt', left', hfk, hlk, hnext, hleft', hrg3, hcnt, hg3, hs3, hent⟩
    · have HL0 := Lib.hid hl0
      clear hrg hmg hp hgw h0 hl0
      go_wp2_with fail
      go_ret
      refine ⟨w.heap.size, g', rfl, Nat.le_refl _, HMG.out, fun n => ?_, fun n b h => (HP.out.new n b h).1, HP.out.inj, HGW.out⟩
      cases hgn : g n with
      | none =>
        rw [HP.out.no n (fun v h => by rw [hgn] at h; cases h)]
        have := HV.out n
        rw [hgn] at this
        exact this
      | some v =>
        obtain ⟨v', e, ho⟩ := HP.out.yes n v hgn (HL0.out (keyI n) v (by simpa [mapF, keyI] using hgn))
        rw [e]
        exact ho
    · obtain ⟨n, rfl, hgn⟩ : ∃ n, key = .int .i64 n ∧ g n = some v := by
        unfold mapF at hfk
        split at hfk
        · exact ⟨_, rfl, hfk⟩
        · cases hfk
      have hov : OwnB w v (l n) := by have := HV.out n; rw [hgn] at this; exact this
      have hov3 : OwnB w3 v (l n) := (hov.grown hgw (by cases blk v <;> simp)).grown hg3 (by
        cases hbv : blk v with
        | none => exact .inl rfl
        | some c => right; have := hov.lt c hbv; intro e; cases e; omega)
      obtain ⟨va, vc, rfl, hc1, hc2⟩ := hov3.shape
      have hln := HL.out n
      have hnr := HR.out n _ hgn
      have hsrc : Src Try.prog 1 62 (.slice va (l n).length vc) (l n).length (Lib.byteCells (l n)) (w3.alloc (.cells #[] 5)) :=
        Own.src (e := 5) (size := 1) (hov3.grown (World.grownBy_alloc _ _ none) (by cases blk (.slice va (l n).length vc) <;> simp)) Try.underlying62 (Lib.byteCells_one _)
      have hva : va = none → (l n).length = 0 := by
        rcases hov3.2 with ⟨a, e, e0⟩ | ⟨g, cap, cur, e, _⟩
        · exact fun _ => e0
        · cases e; exact fun e => by cases e
      have hszg := hgw.size
      have hltm := hmg.lt
      have hit := hrg.lt
      have hmg3 : MapIs Try.prog 3 w3 w.heap.size (mapF g') := hmg.kept (hg3.block _ hltm (by simp))
      have HSRC := Lib.hid hsrc
      have HMG3 := Lib.hid hmg3
      have HRG3 := Lib.hid hrg3
      have HG3 := Lib.hid hg3
      have HLF := Lib.hid hleft'
      have HGN := Lib.hid hgn
      have HLK := Lib.hid hlk
      have HCNT : Hid (w3.rangeLeft b (w.heap.size + 1) < wr.rangeLeft b (w.heap.size + 1)) := by unfold Hid; rw [hrg3.left_eq, hrg.left_eq]; exact hcnt
      obtain ⟨ll, hll⟩ : ∃ ll, (l n).length = ll := ⟨_, rfl⟩
      have HLL := Lib.hid hll
      rw [hll] at hln hva hc1
      have HVA := Lib.hid hva
      rw [hll] at hnext hent
      clear hrg hmg hp hgw hfk hlk hleft' hrg3 hcnt hg3 hs3 hgn hov hov3 hsrc hmg3 hll hva
      go_wp2_with fail
      refine (clone58 va ll vc _ _ (by omega) HVA.out (by rw [← HLL.out]; exact HSRC.out)).mono ?_
      rintro e w4 ⟨v4, rfl, ho4, hg4, hb4⟩
      obtain ⟨a4, c4, rfl, _, _⟩ := ho4.shape
      have hmg4 : MapIs Try.prog 3 w4 w.heap.size (mapF g') := HMG3.out.kept (hg4.block _ HMG3.out.lt (by simp))
      obtain ⟨w5, hup, hm5, hg5, hs5⟩ := hmg4.update lawI Try.underlying52 (Maps.keyOf_int_mk Try.underlying3 (wf_i64 hnr)) (mapF_sets g' n (.slice a4 ll c4))
      have HM5 := Lib.hid hm5
      have HG5 := Lib.hid hg5
      have HO4 := Lib.hid ho4
      have HG4 := Lib.hid hg4
      have HB4 := Lib.hid hb4
      have HS5 := Lib.hid hs5
      have hne1 : b ≠ w.heap.size := by omega
      have HR5 : Hid (Ranging Try.prog 3 w5 b (w.heap.size + 1) (mapF g) left' cnt') :=
        (HRG3.out.kept (hg4.block _ HRG3.out.owns.lt (by simp)) (hg4.block _ HRG3.out.lt (by simp))).kept (hg5.block _ (Nat.lt_of_lt_of_le HRG3.out.owns.lt hg4.size) (fun e => hne1 (Option.some.inj e))) (hg5.block _ (Nat.lt_of_lt_of_le HRG3.out.lt hg4.size) (fun e => by have := Option.some.inj e; omega))
      have HP5 : Hid (Part g l left' w.heap.size (upd g' n (some (.slice a4 ll c4))) w5) :=
        HP.out.step HGN.out HLF.out HRG.out hszg HG3.out hg4 (by unfold OwnB; rw [HLL.out]; exact ho4) hb4 hmg4 hg5
      have HW5 : Hid (w.grownBy w5 none) := by
        refine ((HGW.out.andThen HG3.out (fun j hj => .inl ?_)).andThen hg4 (fun j hj => by cases hj)).andThen hg5 (fun j hj => .inl ?_)
        · cases hj; omega
        · cases hj; omega
      clear hmg4 hm5 hg5 ho4 hg4 hb4 hnext hent hs5
      go_wp2_with fail
      go_roundw
      case rel => exact ⟨left', cnt', _, HR5.out, HM5.out, HP5.out, HW5.out⟩
      case measure =>
        rw [HR5.out.left_eq, ← HRG3.out.left_eq]
        exact HCNT.out
end Go.Proofs.Ytkphmkhdlkdphaa
