/- The reference's journal: how it lies beside its disk; Open, Append, Sync. -/
import Derived.Test.YtejddacjncpneaaGreatDoorJoK
import Derived.Test.YtejddacjncpneaaGreatDoorDiE15
import Derived.Test.YtejddacjncpneaaGreatDoorJo3
import Derived.Deep.RegionWith
import Derived.StillTailTactics
import Derived.Deep.CutBlock
import Derived.Deep.CutRange
set_option maxRecDepth 100000
namespace Go.Proofs.YtejddacjncpneaaGreatDoor.Jo
open Go.RowKit Go.WideShapes Go.ChangeShapes Di
open Wi (StrCells)

theorem own_strsK {w : World} {v : Value} {l : List ByteArray} (h : Own w 9 1 v l.length (l.map Value.string)) : ∃ a cap, v = .slice a l.length cap ∧ StrCells w a l := by
  obtain ⟨a, cap, rfl, _, _⟩ := h.shape
  refine ⟨a, cap, rfl, ?_⟩
  cases l with
  | nil => exact .inl rfl
  | cons x l =>
    obtain ⟨g, rfl, _⟩ := h.cell (j := 0) (u := .string x) (by simp)
    refine .inr ⟨g, 0, rfl, fun i hi => ?_⟩
    obtain ⟨g', e, hc⟩ := h.cell (j := i) (u := .string (x :: l)[i]) (by rw [List.getElem?_map, List.getElem?_eq_getElem hi]; rfl)
    cases e
    rw [Nat.zero_add]
    exact hc
/-- The reference's disk. -/
def RD (S : Nat → Prop) (r : Nat) (st : St) (w : World) : Prop := ∃ a, Ref S r a w ∧ Rel a st
def IsK (r : Nat) (f : Int) (kb : Nat) (v : Value) (R : List ByteArray) (bad : Bool) (w : World) : Prop :=
  w.heap[kb]? = some (.cells #[.pointer (some ⟨r, 0, none⟩), .int .i64 f, v, .bool bad] 49 (0, 0)) ∧ Own w 9 1 v R.length (R.map Value.string)
/-- The reference's journal with its disk. -/
structure RJ (S : Nat → Prop) (r : Nat) (st : St) (f : Int) (kb : Nat) (R : List ByteArray) (bad : Bool) (v : Value) (w : World) : Prop where
  hd : ∃ S0, RD S0 r st w ∧ ∀ b, S0 b → S b ∧ b ≠ kb ∧ blk v ≠ some b
  ik : IsK r f kb v R bad w
  sk : S kb
  sv : ∀ b, blk v = some b → S b ∧ b ≠ kb

section
variable {S S' : Nat → Prop} {r : Nat} {st st' : St} {f : Int} {kb : Nat} {R : List ByteArray} {bad : Bool} {v : Value} {w w' : World}
theorem RD.mono (h : RD S r st w) (hs : ∀ b, S b → S' b) : RD S' r st w := by
  obtain ⟨a, ⟨fv, qv, kv, h1⟩, h2⟩ := h
  exact ⟨a, ⟨fv, qv, kv, h1.mono hs⟩, h2⟩
theorem RD.kept (h : RD S r st w) (hg : ∀ b, S b → b < w.heap.size → w'.heap[b]? = w.heap[b]?) : RD S r st w' := by
  obtain ⟨a, ⟨fv, qv, kv, h1⟩, h2⟩ := h
  exact ⟨a, ⟨fv, qv, kv, h1.kept hg⟩, h2⟩
theorem RD.same (h : RD S r st w) (hs : Same w w') : RD S r st w' := h.kept fun b _ hb => hs.2 b hb
theorem RD.wf (h : RD S r st w) : WF st := by
  obtain ⟨a, _, h2⟩ := h
  exact h2.wf
theorem RD.call {g : FuncId} {args : Array Value} {x : Value} (h : RD S r st w) (hc : ∀ fv qv kv a, RIs S r fv qv kv a w → Rel a st → Calls Tryz.prog g args w (RPost S r st' w x)) :
    Calls Tryz.prog g args w fun e w' => e = .returned x ∧ RD (Grew S w w') r st' w' ∧ But S w w' := by
  obtain ⟨a, ⟨fv, qv, kv, h1⟩, h2⟩ := h
  exact (hc fv qv kv a h1 h2).mono fun e w' ⟨e1, a', ⟨e2, e3⟩, e4⟩ => ⟨e1, ⟨a', e2, e4⟩, e3⟩
theorem RD.see {g : FuncId} {args : Array Value} {Q : Ending → World → Prop} (h : RD S r st w) (hc : ∀ fv qv kv a, RIs S r fv qv kv a w → Rel a st → Calls Tryz.prog g args w Q) : Calls Tryz.prog g args w Q := by
  obtain ⟨a, ⟨fv, qv, kv, h1⟩, h2⟩ := h
  exact hc fv qv kv a h1 h2

theorem IsK.lt (h : IsK r f kb v R bad w) : kb < w.heap.size := (Array.getElem?_eq_some_iff.1 h.1).1
theorem IsK.cells (h : IsK r f kb v R bad w) :
    w.cell? ⟨kb, 0, none⟩ = some (.pointer (some ⟨r, 0, none⟩)) ∧ w.cell? ⟨kb, 1, none⟩ = some (.int .i64 f) ∧ w.cell? ⟨kb, 2, none⟩ = some v ∧ w.cell? ⟨kb, 3, none⟩ = some (.bool bad) := by
  have := h.1
  simp [World.cell?, this]
theorem IsK.froz (h : IsK r f kb v R bad w) (o : Nat) : w.frozen? ⟨kb, o, none⟩ = false := by
  have := h.1
  simp [World.frozen?, this]
theorem IsK.kept (h : IsK r f kb v R bad w) (hk : w'.heap[kb]? = w.heap[kb]?) (hv : ∀ b, blk v = some b → w'.heap[b]? = w.heap[b]?) : IsK r f kb v R bad w' := ⟨hk.trans h.1, h.2.kept hv⟩
theorem RJ.lt (h : RJ S r st f kb R bad v w) : kb < w.heap.size := h.ik.lt
theorem RJ.kept (h : RJ S r st f kb R bad v w) (hg : ∀ b, S b → b < w.heap.size → w'.heap[b]? = w.heap[b]?) : RJ S r st f kb R bad v w' := by
  obtain ⟨S0, h1, h2⟩ := h.hd
  exact ⟨⟨S0, h1.kept fun b hb => hg b (h2 b hb).1, h2⟩, h.ik.kept (hg kb h.sk h.lt) fun b e => hg b (h.sv b e).1 (h.ik.2.lt b e), h.sk, h.sv⟩
theorem RJ.same (h : RJ S r st f kb R bad v w) (hs : Same w w') : RJ S r st f kb R bad v w' := h.kept fun b _ hb => hs.2 b hb
theorem RJ.mono (h : RJ S r st f kb R bad v w) (hs : ∀ b, S b → S' b) : RJ S' r st f kb R bad v w := by
  obtain ⟨S0, h1, h2⟩ := h.hd
  exact ⟨⟨S0, h1, fun b hb => ⟨hs b (h2 b hb).1, (h2 b hb).2⟩⟩, h.ik, hs kb h.sk, fun b e => ⟨hs b (h.sv b e).1, (h.sv b e).2⟩⟩
theorem RJ.rd (h : RJ S r st f kb R bad v w) : RD S r st w := by
  obtain ⟨S0, h1, h2⟩ := h.hd
  exact h1.mono fun b hb => (h2 b hb).1
theorem RJ.call {g : FuncId} {args : Array Value} {x : Value} (h : RJ S r st f kb R bad v w) (hc : ∀ S0 fv qv kv a, (∀ b, S0 b → S b) → RIs S0 r fv qv kv a w → Rel a st → Calls Tryz.prog g args w (RPost S0 r st' w x)) :
    Calls Tryz.prog g args w fun e w' => e = .returned x ∧ RJ (Grew S w w') r st' f kb R bad v w' ∧ But S w w' := by
  obtain ⟨S0, h1, h2⟩ := h.hd
  refine (h1.call fun fv qv kv a => hc S0 fv qv kv a fun b hb => (h2 b hb).1).mono fun e w' ⟨e1, e2, e3⟩ => ⟨e1, ⟨⟨_, e2, fun b hb => ?_⟩, h.ik.kept (e3.block kb h.lt fun hb => (h2 kb hb).2.1 rfl) fun b e => e3.block b (h.ik.2.lt b e) fun hb => (h2 b hb).2.2 e, .inl h.sk, fun b e => ⟨.inl (h.sv b e).1, (h.sv b e).2⟩⟩, e3.mono fun b hb => (h2 b hb).1⟩
  rcases hb with hb | ⟨hb1, hb2⟩
  · exact ⟨.inl (h2 b hb).1, (h2 b hb).2⟩
  · exact ⟨.inr ⟨hb1, hb2⟩, by have := h.lt; omega, fun e => by have := h.ik.2.lt b e; omega⟩
theorem RJ.see {g : FuncId} {args : Array Value} {Q : Ending → World → Prop} (h : RJ S r st f kb R bad v w) (hc : ∀ S0 fv qv kv a, RIs S0 r fv qv kv a w → Rel a st → Calls Tryz.prog g args w Q) : Calls Tryz.prog g args w Q := by
  obtain ⟨S0, h1, _⟩ := h.hd
  exact h1.see fun fv qv kv a => hc S0 fv qv kv a
/-- The flag is written. -/
theorem RJ.setBad (h : RJ S r st f kb R bad v w) (b' : Bool) : RJ S r st f kb R b' v (w.setCell ⟨kb, 3, none⟩ (.bool b')) := by
  have hb : ∀ b, b ≠ kb → (w.setCell ⟨kb, 3, none⟩ (.bool b')).heap[b]? = w.heap[b]? := fun b hne => by simp [World.setCell, Array.getElem?_modify, Ne.symm hne]
  obtain ⟨S0, h1, h2⟩ := h.hd
  refine ⟨⟨S0, h1.kept fun b hs _ => hb b (h2 b hs).2.1, h2⟩, ⟨?_, h.ik.2.kept fun b e => hb b (h.sv b e).2⟩, h.sk, h.sv⟩
  simp [World.setCell, Array.getElem?_modify, h.ik.1]
/-- A new list is written. -/
theorem RJ.setList (h : RJ S r st f kb R bad v w) {v' : Value} {R' : List ByteArray} (hg : w.grownBy w' none) (ho : Own w' 9 1 v' R'.length (R'.map Value.string)) (hn : ∀ b, blk v' = some b → w.heap.size ≤ b) :
    RJ (Grew S w w') r st f kb R' bad v' (w'.setCell ⟨kb, 2, none⟩ v') := by
  have hb : ∀ b, b ≠ kb → (w'.setCell ⟨kb, 2, none⟩ v').heap[b]? = w'.heap[b]? := fun b hne => by simp [World.setCell, Array.getElem?_modify, Ne.symm hne]
  have hk : w'.heap[kb]? = w.heap[kb]? := hg.block kb h.lt (by simp)
  have hlt := h.lt
  obtain ⟨S0, h1, h2⟩ := h.hd
  refine ⟨⟨fun b => S0 b ∧ b < w.heap.size, ?_, fun b hb => ⟨.inl (h2 b hb.1).1, (h2 b hb.1).2.1, fun e => by have := hn b e; have := hb.2; omega⟩⟩, ⟨?_, ho.kept fun b e => hb b (by have := hn b e; omega)⟩, .inl h.sk, fun b e => ⟨.inr ⟨hn b e, ho.lt b e⟩, by have := hn b e; omega⟩⟩
  · obtain ⟨a, ⟨fv, qv, kv, h3⟩, h4⟩ := h1
    have h3' : RIs (fun b => S0 b ∧ b < w.heap.size) r fv qv kv a w := ⟨h3.hd, h3.fo, h3.qo, h3.ko, h3.rf, h3.rq, h3.rk, h3.fq, h3.fk, h3.qk, ⟨h3.sr, h3.lt⟩, fun b e => ⟨h3.sf b e, h3.fo.lt b e⟩, fun b e => ⟨h3.sq b e, h3.qo.lt b e⟩, fun b e => ⟨h3.sk b e, h3.ko.lt b e⟩⟩
    exact ⟨a, ⟨fv, qv, kv, h3'.kept fun b hs hlt => (hb b (h2 b hs.1).2.1).trans (hg.block b hlt (by simp))⟩, h4⟩
  · simp [World.setCell, Array.getElem?_modify, hk, h.ik.1]
end

/-- How the reference's Open ends. -/
def OpK (S : Nat → Prop) (r : Nat) (st : St) (f : Int) (w : World) (e : Ending) (w' : World) : Prop :=
  But S w w' ∧ ((opC st f ≠ 0 ∧ e = .returned (.tuple #[.pointer none, .int .i64 (opC st f)]) ∧ RD (Grew S w w') r (opS st f) w') ∨
    (opC st f = 0 ∧ ∃ kb v, e = .returned (.tuple #[.pointer (some ⟨kb, 0, none⟩), .int .i64 0]) ∧ RJ (Grew S w w') r (opS st f) f kb (opR st f) false v w'))
theorem RD.tight {S : Nat → Prop} {r : Nat} {st : St} {w : World} (h : RD S r st w) : RD (fun b => S b ∧ b < w.heap.size) r st w := by
  obtain ⟨a, ⟨fv, qv, kv, h3⟩, h4⟩ := h
  exact ⟨a, ⟨fv, qv, kv, ⟨h3.hd, h3.fo, h3.qo, h3.ko, h3.rf, h3.rq, h3.rk, h3.fq, h3.fk, h3.qk, ⟨h3.sr, h3.lt⟩, fun b e => ⟨h3.sf b e, h3.fo.lt b e⟩, fun b e => ⟨h3.sq b e, h3.qo.lt b e⟩, fun b e => ⟨h3.sk b e, h3.ko.lt b e⟩⟩⟩, h4⟩
/-- A journal is made beside the disk. -/
theorem RD.journal {S : Nat → Prop} {r : Nat} {st : St} {f : Int} {w w1 w2 w3 : World} {v : Value} {R : List ByteArray} (h : RD (Grew S w w1) r st w1) (hz : w.heap.size ≤ w1.heap.size) (h12 : Same w1 w2)
    (hown : Own w2 9 1 v R.length (R.map Value.string)) (hn : ∀ b, blk v = some b → w1.heap.size ≤ b)
    (hs : Same (w2.alloc (.cells #[.pointer (some ⟨r, 0, none⟩), .int .i64 f, v, .bool false] 49)) w3) : RJ (Grew S w w3) r st f w2.heap.size R false v w3 := by
  have h23 : Same w2 w3 := (same_grown (World.grownBy_alloc _ _ _)).trans hs
  have hk : w2.heap.size < (w2.alloc (.cells #[.pointer (some ⟨r, 0, none⟩), .int .i64 f, v, .bool false] 49)).heap.size := by simp
  have h1z := h12.1
  have h3z := hs.1
  refine ⟨⟨fun b => Grew S w w1 b ∧ b < w1.heap.size, h.tight.same (h12.trans h23), fun b hb => ⟨?_, by have := hb.2; omega, fun e => by have := hn b e; have := hb.2; omega⟩⟩, ⟨(hs.2 _ hk).trans (heap_alloc_new _ _), hown.kept fun b e => h23.2 b (hown.lt b e)⟩, .inr ⟨by omega, by omega⟩, fun b e => ⟨.inr ⟨by have := hn b e; omega, by have := hown.lt b e; omega⟩, by have := hown.lt b e; omega⟩⟩
  rcases hb.1 with h1 | ⟨h1, h2⟩
  · exact .inl h1
  · exact .inr ⟨h1, by omega⟩
theorem but_same {S : Nat → Prop} {w w' : World} (h : w.grownBy w' none) : But S w w' := But.of h fun b e => by cases e
theorem but_below {S : Nat → Prop} {w w' : World} (h : Below w.heap.size w w') : But S w w' := ⟨h.os, h.tape, h.output, h.size, fun k hk _ => h.block k hk⟩
theorem grew_step {S : Nat → Prop} {a b c : World} (h1 : a.heap.size ≤ b.heap.size) (h2 : b.heap.size ≤ c.heap.size) : ∀ i, Grew (Grew S a b) b c i → Grew S a c i := fun i h => grew_trans h1 h2 i h
theorem But.step {S : Nat → Prop} {a b c : World} (h : But S a b) (k : But (Grew S a b) b c) : But S a c := h.trans k fun i hi hg => hg.elim id fun hh => by omega

set_option maxHeartbeats 2000000 in
theorem openK {S : Nat → Prop} {r : Nat} {st : St} {w : World} (h : RD S r st w) (f : Int) (hF : isF f = true) :
    Calls Tryz.prog 9 #[.pointer (some ⟨r, 0, none⟩), .int .i64 f] w (OpK S r st f w) := by
  have hFr := isF_t.1 hF
  have hlen := h.wf.len f
  have HS := Lib.hid (h.call fun fv qv kv a h1 h2 => rsync_any h1 h2 f)
  have HFF := Lib.hid hF
  obtain ⟨c, hc⟩ : ∃ c, syncR st f = c := ⟨_, rfl⟩
  have f1 : ¬ f < 0 := by omega
  have f2 : ¬ 15 < f := by omega
  by_cases hc0 : c = 0
  · subst hc0
    obtain ⟨hs1, hs2, _, _, _, _, _⟩ := syncR_ok hc
    obtain ⟨s, hs⟩ : ∃ s, st.now f = s := ⟨_, rfl⟩
    obtain ⟨n, hn⟩ : ∃ n, (forms (recs s)).length = n := ⟨_, rfl⟩
    have hns : n ≤ s.length := by rw [← hn]; exact recs_len s
    have HC : Hid (opC st f = if n < s.length then truncR (sync st f) f n else 0) := by unfold Hid opC opR; rw [if_neg (by simp [hF]), if_pos hc, hs, hn]
    have HSt : Hid (opS st f = if n < s.length then trunc (sync st f) f n else sync st f) := by unfold Hid opS opR; rw [if_neg (by simp [hF]), if_pos hc, hs, hn]
    have HR : Hid (opR st f = recs s) := by unfold Hid opR; rw [hs]
    rw [hc] at HS
    rw [hs] at hlen hs2
    have HRA : Hid (readS (sync st f) f 0 s.length = (⟨s.toArray⟩ : ByteArray).data.toList ∧ readR (sync st f) f 0 s.length = 0) := by
      refine ⟨?_, ?_⟩
      · unfold readS; rw [if_neg (by simp [hs1, hF]), hs2]; simp
      · unfold readR; rw [if_neg (by simp [hs1]), if_neg (by simp [hF])]
    have HN := Lib.hid hs2
    have HNL := Lib.hid hn
    clear h hF hs1 hs2 hs hn hc hFr
    go_enter Tryz.func9, Tryz.ntmps9
    go_wp2_with fail
    refine HS.out.mono ?_
    rintro e w1 ⟨rfl, h1, hb1⟩
    have HSz := Lib.hid (h1.see (Q := fun e w' => e = .returned (.int .i64 s.length) ∧ w1.grownBy w' none) fun fv qv kv a k1 k2 => (rsize_any k1 f).mono fun e w' ⟨e1, e2⟩ => ⟨by rw [e1, k2.fl.nowsz f, HN.out], e2⟩)
    have H1 := Lib.hid h1
    have HB1 := Lib.hid hb1
    clear h1 hb1 HS
    go_wp2_with fail
    refine HSz.out.mono ?_
    rintro e w2 ⟨rfl, hg2⟩
    have HRd := Lib.hid ((H1.out.same (same_grown hg2)).see fun fv qv kv a k1 k2 => rread_any k1 k2 f 0 s.length (by omega) (by omega) (s := ⟨s.toArray⟩) HRA.out.1 HRA.out.2)
    have HG2 := Lib.hid hg2
    clear hg2 HSz HRA
    go_wp2_with fail
    refine HRd.out.mono ?_
    rintro e w3 ⟨rfl, hg3⟩
    have HG3 : Hid (w1.grownBy w3 none) := HG2.out.trans hg3
    clear hg3 HRd HG2
    go_wp2_with fail
    refine (recordsK s (by omega) w3).mono ?_
    rintro e w4 ⟨v, rfl, hrow, hb4⟩
    obtain ⟨hown, hbl⟩ := own_of_row hrow
    obtain ⟨va, vc, hv, _, _⟩ := hown.shape
    subst hv
    have hnl : n ≤ 100000000 := by omega
    have HSM := Lib.hid (recs_small s)
    obtain ⟨_, _, e1, hsc⟩ := own_strsK hown
    cases e1
    have HG4 : Hid (w1.grownBy w4 none) := HG3.out.trans ⟨hb4.os, hb4.tape, hb4.output, hb4.size, fun k hk _ => hb4.block k hk⟩
    have HNB : Hid (∀ b, blk (.slice va (recs s).length vc) = some b → w1.heap.size ≤ b) := fun b e => Nat.le_trans HG3.out.size (hbl b e)
    have HOW := Lib.hid hown
    have HFO := Lib.hid (formsK (recs s) va vc HSM.out (by rw [HNL.out]; exact hnl) (w4.alloc (.cells #[.pointer (some ⟨r, 0, none⟩), .int .i64 f, .slice va (recs s).length vc, .bool false] 49)) (StrCells.same hsc (same_grown (World.grownBy_alloc _ _ _))))
    clear hrow hb4 hown hbl hsc HG3
    go_wp2_with fail
    refine HFO.out.mono ?_
    clear HFO
    rintro e w5 ⟨rfl, hb5⟩
    have hfs : (⟨(forms (recs s)).toArray⟩ : ByteArray).size = n := by rw [← HNL.out]; simp [ByteArray.size]
    have hj := H1.out.journal (f := f) HB1.out.size (same_grown HG4.out) HOW.out HNB.out (same_below hb5)
    have HB5 : Hid (But S w w5) := HB1.out.trans (S' := S) ((but_same HG4.out).trans (S' := S) ((but_same (World.grownBy_alloc _ _ _)).trans (S' := S) (but_below hb5) fun _ _ e => e) fun _ _ e => e) fun _ _ e => e
    have HJ := Lib.hid hj
    have hsn : (⟨s.toArray⟩ : ByteArray).size = s.length := by simp [ByteArray.size]
    clear hb5 hj
    by_cases hcut : n < s.length
    · have hcut' : (n : Int) < (s.length : Int) := by omega
      have HT := Lib.hid (HJ.out.call (st' := trunc (sync st f) f n) (x := .int .i64 (truncR (sync st f) f n)) fun S0 fv qv kv a _ k1 k2 => rtrunc_any k1 k2 f (n : Int) (by omega))
      obtain ⟨c, hc⟩ : ∃ c, truncR (sync st f) f n = c := ⟨_, rfl⟩
      have HC2 : Hid (opC st f = c) := by unfold Hid; rw [HC.out, if_pos hcut, hc]
      have HSt2 : Hid (opS st f = trunc (sync st f) f n) := by unfold Hid; rw [HSt.out, if_pos hcut]
      rw [hc] at HT
      clear hc HC HSt HOW HNB
      go_wp2_with fail
      refine HT.out.mono ?_
      clear HT
      rintro e w6 ⟨rfl, hj6, hb6⟩
      have hz5 := HB5.out.size
      have HB6 : Hid (But S w w6) := But.step HB5.out hb6
      have HJ6 := Lib.hid (hj6.mono (grew_step HB5.out.size hb6.size))
      clear hj6 hb6
      by_cases hc0 : c = 0
      · subst hc0
        have HP : Hid (OpK S r st f w (.returned (.tuple #[.pointer (some ⟨w4.heap.size, 0, none⟩), .int .i64 0])) w6) :=
          ⟨HB6.out, .inr ⟨HC2.out, _, _, rfl, by rw [HSt2.out, HR.out]; exact HJ6.out⟩⟩
        clear HC2 HSt2 HJ6 HB6 HJ
        go_wp2_with fail
        go_ret2
        exact HP.out
      · have hc1 : (c != 0) = true := by simpa using hc0
        have HP : Hid (OpK S r st f w (.returned (.tuple #[.pointer none, .int .i64 c])) w6) :=
          ⟨HB6.out, .inl ⟨by rw [HC2.out]; exact hc0, by rw [HC2.out], by rw [HSt2.out]; exact HJ6.out.rd⟩⟩
        clear HC2 HSt2 HJ6 HB6 HJ
        go_wp2_with fail
        go_ret2
        exact HP.out
    · have hcut' : ¬ (n : Int) < (s.length : Int) := by omega
      have HC2 : Hid (opC st f = 0) := by unfold Hid; rw [HC.out, if_neg hcut]
      have HSt2 : Hid (opS st f = sync st f) := by unfold Hid; rw [HSt.out, if_neg hcut]
      have HP : Hid (OpK S r st f w (.returned (.tuple #[.pointer (some ⟨w4.heap.size, 0, none⟩), .int .i64 0])) w5) :=
        ⟨HB5.out, .inr ⟨HC2.out, _, _, rfl, by rw [HSt2.out, HR.out]; exact HJ.out⟩⟩
      clear HC HSt HC2 HSt2 HJ HOW HNB
      go_wp2_with fail
      go_ret2
      exact HP.out
  · have HC : Hid (opC st f = c) := by unfold Hid opC; rw [if_neg (by simp [hF]), if_neg (by rw [hc]; exact hc0), hc]
    have HSt : Hid (opS st f = sync st f) := by unfold Hid opS; rw [if_neg (by simp [hF]), if_neg (by rw [hc]; exact hc0)]
    have hc1 : (c != 0) = true := by simpa using hc0
    rw [hc] at HS
    clear h hF hc hlen hFr
    go_enter Tryz.func9, Tryz.ntmps9
    go_wp2_with fail
    refine HS.out.mono ?_
    rintro e w1 ⟨rfl, h1, hb1⟩
    have HP : Hid (OpK S r st f w (.returned (.tuple #[.pointer none, .int .i64 c])) w1) :=
      ⟨hb1, .inl ⟨by rw [HC.out]; exact hc0, by rw [HC.out], by rw [HSt.out]; exact h1⟩⟩
    clear h1 hb1 HC HSt HS
    go_wp2_with fail
    go_ret2
    exact HP.out
theorem but_set {S : Nat → Prop} {w : World} {b i : Nat} {x : Value} (hb : S b) : But S w (w.setCell ⟨b, i, none⟩ x) :=
  ⟨rfl, rfl, rfl, by simp [World.setCell], fun k _ hn => by
    have : b ≠ k := fun e => hn (e ▸ hb)
    simp [World.setCell, Array.getElem?_modify, this]⟩
theorem grew_set {S : Nat → Prop} {w w' : World} {b i : Nat} {x : Value} : ∀ j, Grew S w w' j → Grew S w (w'.setCell ⟨b, i, none⟩ x) j := fun j h => h.imp id fun ⟨h1, h2⟩ => ⟨h1, by simpa [World.setCell] using h2⟩
theorem grown_below' {w w' : World} (h : Below w.heap.size w w') : w.grownBy w' none := ⟨h.os, h.tape, h.output, h.size, fun k hk _ => h.block k hk⟩

set_option maxHeartbeats 1000000 in
theorem syncK {S : Nat → Prop} {r : Nat} {st : St} {f : Int} {kb : Nat} {R : List ByteArray} {bad : Bool} {v : Value} {w : World} (h : RJ S r st f kb R bad v w) :
    Calls Tryz.prog 15 #[.pointer (some ⟨kb, 0, none⟩)] w fun e w' => e = .returned (.int .i64 (syC st f bad)) ∧ RJ (Grew S w w') r (syS st f bad) f kb R (syB st f bad) v w' ∧ But S w w' := by
  obtain ⟨c0, c1, c2, c3⟩ := h.ik.cells
  cases bad
  · have H := Lib.hid h
    clear h c2
    go_enter Tryz.func15, Tryz.ntmps15
    go_wp2_with fail
    go_still_tail 8, (by kernel_rfl)
    have h2 := H.out.same (w' := w.drew) (same_grown (grown_drew w))
    have HB2 : Hid (But S w w.drew) := but_same (grown_drew w)
    have hz2 : w.drew.heap.size = w.heap.size := rfl
    change wpList _ _ _ _ _ w.drew
    clear c0 c1 c3 H
    generalize w.drew = w2 at *
    have HW := Lib.hid (h2.call (st' := sync st f) (x := .int .i64 (syncR st f)) fun S0 fv qv kv a _ k1 k2 => rsync_any k1 k2 f)
    clear h2
    go_wp2_with fail
    refine HW.out.mono ?_
    rintro e w3 ⟨rfl, h3, hb3⟩
    obtain ⟨c0, c1, c2, c3⟩ := h3.ik.cells
    have f3 := h3.ik.froz 3
    obtain ⟨c, hc⟩ : ∃ c, syncR st f = c := ⟨_, rfl⟩
    have HP : Hid (Ending.returned (.int .i64 c) = .returned (.int .i64 (syC st f false)) ∧ RJ (Grew S w (w3.setCell ⟨kb, 3, none⟩ (.bool (c != 0)))) r (syS st f false) f kb R (syB st f false) v (w3.setCell ⟨kb, 3, none⟩ (.bool (c != 0))) ∧ But S w (w3.setCell ⟨kb, 3, none⟩ (.bool (c != 0)))) := by
      have hg : ∀ j, Grew S w2 w3 j → Grew S w w3 j := fun j hj => hj.imp id fun ⟨k1, k2⟩ => ⟨by omega, k2⟩
      have h4 := ((h3.mono hg).setBad (c != 0)).mono (S' := Grew S w (w3.setCell ⟨kb, 3, none⟩ (.bool (c != 0)))) grew_set
      have e : (c != 0) = syB st f false := by simp [syB, hc]; rfl
      have hb : But S w w3 := HB2.out.trans hb3 fun _ _ e => e
      refine ⟨by simp [syC, hc], ?_, ?_⟩
      · rw [e] at h4 ⊢
        simpa [syS] using h4
      · exact hb.trans (S' := fun b => b = kb) ((but_set (S := fun b => b = kb) rfl)) fun j hj e => by subst e; exact ((h3.mono hg).sk).elim id fun hh => by omega
    rw [hc]
    clear h3 hb3 HW HB2 hc c0 c1 c2 hz2
    go_wp2_with fail
    go_ret
    exact HP.out
  · have HP : Hid (Ending.returned (.int .i64 7) = .returned (.int .i64 (syC st f true)) ∧ RJ (Grew S w w) r (syS st f true) f kb R (syB st f true) v w ∧ But S w w) := ⟨by simp [syC], by simpa [syS, syB] using h.mono (fun b hb => .inl hb), But.refl _ _⟩
    clear h c0 c1 c2
    go_enter Tryz.func15, Tryz.ntmps15
    go_wp2_with fail
    go_ret
    exact HP.out

def AppK (S : Nat → Prop) (r : Nat) (st : St) (f : Int) (kb : Nat) (R : List ByteArray) (bad : Bool) (x : ByteArray) (w : World) (e : Ending) (w' : World) : Prop :=
  e = .returned (.int .i64 (appC st f R bad x)) ∧ (∃ v', RJ (Grew S w w') r (appS st f R bad x) f kb (appR st f R bad x) (appB st f R bad x) v' w') ∧ But S w w'
def RJa (S : Nat → Prop) (r : Nat) (st : St) (f : Int) (kb : Nat) (R : List ByteArray) (v : Value) (w W : World) : Prop := RJ S r st f kb R false v W ∧ w.grownBy W none
def RJw (S : Nat → Prop) (r : Nat) (st : St) (f : Int) (kb : Nat) (R : List ByteArray) (v : Value) (w W : World) : Prop := RJ (Grew S w W) r st f kb R false v W ∧ But S w W

set_option maxHeartbeats 4000000 in
theorem appendK {S : Nat → Prop} {r : Nat} {st : St} {f : Int} {kb : Nat} {R : List ByteArray} {bad : Bool} {v : Value} {w : World} (h : RJ S r st f kb R bad v w) (x : ByteArray) (hx : x.size ≤ 20000)
    (hL : (forms R).length + (form x).length ≤ 1048576) (hsm : Small R) :
    Calls Tryz.prog 13 #[.pointer (some ⟨kb, 0, none⟩), .string x] w (AppK S r st f kb R bad x w) := by
  cases bad
  · obtain ⟨va, vc, hv, _, _⟩ := h.ik.2.shape
    subst hv
    obtain ⟨c0, c1, c2, c3⟩ := h.ik.cells
    have hfl := form_len x hx
    have hrl := forms_ge R
    have hbig : ¬ 20000 < x.size := by omega
    obtain ⟨L, hLe⟩ : ∃ L, (forms R).length = L := ⟨_, rfl⟩
    obtain ⟨F, hFe⟩ : ∃ F, (form x).length = F := ⟨_, rfl⟩
    have hfull : ¬ 1048576 < L + F := by omega
    have HC : Hid (appC st f R false x = writeR st f (L : Int) (form x)) := by unfold Hid; simp [appC, hbig, hLe, hFe, hfull]
    have HS : Hid (appS st f R false x = write st f (L : Int) (form x)) := by unfold Hid; simp [appS, hbig, hLe, hFe, hfull]
    have HAB : Hid (appB st f R false x = !decide (writeR st f (L : Int) (form x) = 0)) := by unfold Hid; simp [appB, hbig, hLe, hFe, hfull]
    obtain ⟨_, _, e1, hsc⟩ := own_strsK h.ik.2
    cases e1
    have HFO := Lib.hid (formsK R va vc hsm (by omega) w hsc)
    have HJ := Lib.hid h
    have HLe := Lib.hid hLe
    have HFe := Lib.hid hFe
    rw [hLe] at hrl
    rw [hFe] at hfl
    clear h hsc hLe hFe hL hsm c0 c1
    go_enter Tryz.func13, Tryz.ntmps13
    go_wp2_with fail
    refine HFO.out.mono ?_
    clear HFO
    rintro e w1 ⟨rfl, hb1⟩
    have hs1 : (⟨(forms R).toArray⟩ : ByteArray).size = L := by rw [← HLe.out]; simp [ByteArray.size]
    have HB1 := Lib.hid hb1
    clear hb1 c2 c3
    go_wp2_with fail
    refine (formK x hx w1).mono ?_
    rintro e w2 ⟨rfl, hb2⟩
    have hs2 : (⟨(form x).toArray⟩ : ByteArray).size = F := by rw [← HFe.out]; simp [ByteArray.size]
    have HA2 : Hid (RJa S r st f kb R (.slice va R.length vc) w w2) := ⟨(HJ.out.same (same_below HB1.out)).same (same_below hb2), (grown_below' HB1.out).trans (grown_below' hb2)⟩
    have HA2D : Hid (RJa S r st f kb R (.slice va R.length vc) w w2.drew) := ⟨HA2.out.1.same (same_grown (grown_drew _)), HA2.out.2.trans (grown_drew _)⟩
    have HFM : Hid (∀ W, Hid (RJa S r st f kb R (.slice va R.length vc) w W) → Calls Tryz.prog 41 #[.string x] W fun e w' => e = .returned (.string ⟨(form x).toArray⟩) ∧ Hid (RJa S r st f kb R (.slice va R.length vc) w w')) := fun W hW => (formK x hx W).mono fun e w' ⟨e1, e2⟩ => ⟨e1, hW.out.1.same (same_below e2), hW.out.2.trans (grown_below' e2)⟩
    obtain ⟨c, hc⟩ : ∃ c, writeR st f (L : Int) (form x) = c := ⟨_, rfl⟩
    have HWR : Hid (∀ W, Hid (RJa S r st f kb R (.slice va R.length vc) w W) → Calls Tryz.prog 42 #[.pointer (some ⟨r, 0, none⟩), .int .i64 f, .int .i64 L, .string ⟨(form x).toArray⟩] W fun e w' => e = .returned (.int .i64 c) ∧ Hid (RJw S r (write st f (L : Int) (form x)) f kb R (.slice va R.length vc) w w')) := fun W hW => by
      refine (hW.out.1.call (st' := write st f (L : Int) (form x)) (x := .int .i64 c) fun S0 fv qv kv a _ k1 k2 => ?_).mono fun e w' ⟨e1, e2, e3⟩ => ⟨e1, e2.mono fun j hj => hj.imp id fun ⟨q1, q2⟩ => ⟨Nat.le_trans hW.out.2.size q1, q2⟩, (but_same hW.out.2).trans e3 fun _ _ e => e⟩
      have hfz : (⟨(form x).toArray⟩ : ByteArray).size ≤ 4611686018427387904 := by rw [hs2]; omega
      have := rwrite_any k1 k2 f (L : Int) ⟨(form x).toArray⟩ hfz
      rw [← hc]
      exact this
    have HC2 : Hid (appC st f R false x = c) := by unfold Hid; rw [HC.out, hc]
    have HAB2 : Hid (appB st f R false x = !decide (c = 0)) := by unfold Hid; rw [HAB.out, hc]
    obtain ⟨c0, c1, c2, c3⟩ := HA2.out.1.ik.cells
    clear hb2 hc HC HAB HB1 HJ
    go_upto_region 8 with fail
    go_cut [6] from 26 to 37 (fun u wx => u = .int .i64 c ∧ Hid (RJw S r (write st f (L : Int) (form x)) f kb R (.slice va R.length vc) w wx))
    case first =>
      clear HC2 HAB2 HS HLe HFe
      go_region_with (first
        | (go_at_call 41; (with_reducible refine (HFM.out _ ?_).mono ?_); (focus (first | exact HA2D.out | exact HA2.out)); rintro e w5 ⟨rfl, hA5⟩; obtain ⟨x0, x1, x2, x3⟩ := hA5.out.1.ik.cells)
        | (go_at_call 42; (with_reducible refine (HWR.out _ ?_).mono ?_); (focus assumption); rintro e w6 ⟨rfl, hA6⟩))
      all_goals (go_wp2_with fail; go_meet; exact ⟨rfl, hA6⟩)
    case rest =>
      obtain ⟨rfl, hAw⟩ := hcut
      clear HFM HWR HA2 HA2D c0 c1 c2 c3
      obtain ⟨c0, c1, c2, c3⟩ := hAw.out.1.ik.cells
      have f2 := hAw.out.1.ik.froz 2
      have f3 := hAw.out.1.ik.froz 3
      by_cases hc0 : c = 0
      · subst hc0
        obtain ⟨i0, hi, hi0, hi1, hi2⟩ := info_parts infoStr
        have HSRC : Hid (∀ W, wc.grownBy W none → Src Tryz.prog 1 46 (.slice va R.length vc) R.length (R.map Value.string) W) := fun W hg =>
          (hAw.out.1.ik.2.grown hg (by cases blk (.slice va R.length vc) <;> simp)).src Tryz.underlying46 (by intro u hu; obtain ⟨y, _, rfl⟩ := List.mem_map.1 hu; rfl)
        have c2' : (wc.alloc (.cells #[] 9)).cell? ⟨kb, 2, none⟩ = some (.slice va R.length vc) := (hAw.out.1.same (same_grown (World.grownBy_alloc _ _ none))).ik.cells.2.2.1
        clear c0 c1 c3 f3
        go_wp2_with (at_builtin; refine wpList_append_Own (by rfl) _ _ _ _ (by rfl) Tryz.underlying46 hi hi0 hi1 hi2 rfl (by rfl) (⟨rfl, .inl ⟨_, rfl, rfl⟩⟩ : Own _ 9 1 _ 0 []) _ (by rfl) (HSRC.out _ (World.grownBy_alloc _ _ _)) (by unfold maxLen; omega) (by omega) ?_)
        intro v7 w7 hown7 hgr7 hbl7
        rw [blk_zero] at hgr7
        simp only [blk_zero] at hown7 hbl7
        have HG7 : Hid (wc.grownBy w7 none) := (World.grownBy_alloc _ _ _).trans hgr7
        have HBL7 : Hid (∀ b, blk v7 = some b → wc.heap.size ≤ b) := fun b e => by
          rcases hbl7 with h | h | h
          · rw [h] at e; cases e
          · rw [h] at e; cases e
          · rw [h] at e; cases e; simp
        obtain ⟨va7, vc7, hv7, _, _⟩ := hown7.shape
        subst hv7
        have HOW7 := Lib.hid hown7
        clear hgr7 hbl7 hown7
        go_wp2_with (at_builtin; refine wpList_append_Own (by rfl) _ _ _ _ (by rfl) Tryz.underlying46 hi hi0 hi1 hi2 rfl (by rfl) (HOW7.out.grown (World.grownBy_alloc _ (.cells #[.string x] 9) none) (by cases blk (.slice va7 R.length vc7) <;> simp)) _ (by rfl) (Src.ofSlice _ Tryz.underlying46 _ 1 1 [.string x] (by simp) (World.news_of_block (cs := #[.string x]) (t := 9) (fr := (0, 0)) (heap_alloc_new _ _)) (by simp [Value.oneCell'])) (by unfold maxLen; omega) (by omega) ?_)
        intro v8 w8 hown8 hgr8 hbl8
        have hown8' : Own w8 9 1 v8 (R ++ [x]).length ((R ++ [x]).map Value.string) := by simpa using hown8
        have h78 : w7.grownBy w8 (blk (.slice va7 R.length vc7)) := (World.grownBy_alloc _ _ _).trans hgr8
        have hg8 : wc.grownBy w8 none := ⟨h78.os.trans HG7.out.os, h78.tape.trans HG7.out.tape, h78.output.trans HG7.out.output, Nat.le_trans HG7.out.size h78.size, fun k hk _ =>
          (h78.block k (Nat.lt_of_lt_of_le hk HG7.out.size) fun e => by have := HBL7.out k e.symm; omega).trans (HG7.out.block k hk (by simp))⟩
        have hbl : ∀ b, blk v8 = some b → wc.heap.size ≤ b := fun b e => by
          rcases hbl8 with h | h | h
          · rw [h] at e; cases e
          · exact HBL7.out b (h ▸ e)
          · rw [h] at e; cases e; have := HG7.out.size; simp; omega
        have hk8 : w8.heap[kb]? = wc.heap[kb]? := hg8.block kb hAw.out.1.lt (by simp)
        obtain ⟨va8, vc8, hv8, _, _⟩ := hown8'.shape
        subst hv8
        have HP : Hid (AppK S r st f kb R false x w (.returned (.int .i64 0)) (w8.setCell ⟨kb, 2, none⟩ (.slice va8 (R ++ [x]).length vc8))) := by
          have hj := hAw.out.1.setList hg8 hown8' hbl
          have hb := hAw.out.2
          refine ⟨by rw [HC2.out], ⟨.slice va8 (R ++ [x]).length vc8, ?_⟩, ?_⟩
          · rw [HS.out, HAB2.out]
            have hj' := hj.mono (S' := Grew S w (w8.setCell ⟨kb, 2, none⟩ (.slice va8 (R ++ [x]).length vc8))) fun j hjj => grew_set j (grew_trans hb.size hg8.size j hjj)
            simpa [appR, HC2.out] using hj'
          · refine But.step (b := wc) hb (But.trans (S' := Grew S w wc) (but_same hg8) (but_set hAw.out.1.sk) fun _ _ e => e)
        have d2 : w8.cell? ⟨kb, 2, none⟩ = some (.slice va R.length vc) := by rw [World.cell?_of_block (a := ⟨kb, 2, none⟩) hk8]; exact c2
        have g2 : w8.frozen? ⟨kb, 2, none⟩ = false := by rw [← f2]; simp [World.frozen?, hk8]
        rw [show (R ++ [x]).length = R.length + 1 from by simp] at HP
        clear hown8 hgr8 hbl8 hown8' h78 hg8 hbl hk8 HG7 HBL7 HOW7 HSRC hAw HC2 HAB2 HS HLe HFe c2 c2' f2
        go_wp2_with fail
        go_ret
        exact HP.out
      · have hc1 : (c != 0) = true := by simpa using hc0
        have HP : Hid (AppK S r st f kb R false x w (.returned (.int .i64 c)) (wc.setCell ⟨kb, 3, none⟩ (.bool true))) := by
          have hj := (hAw.out.1.setBad true).mono (S' := Grew S w (wc.setCell ⟨kb, 3, none⟩ (.bool true))) grew_set
          have hb := hAw.out.2
          refine ⟨by rw [HC2.out], ⟨.slice va R.length vc, ?_⟩, But.step (b := wc) hb (but_set hAw.out.1.sk)⟩
          rw [HS.out, HAB2.out]
          simpa [appR, HC2.out, hc0] using hj
        clear HC2 HAB2 HS hAw HLe HFe c0 c1 c2
        go_wp2_with fail
        go_ret
        exact HP.out
  · have HP : Hid (AppK S r st f kb R true x w (.returned (.int .i64 7)) w) := ⟨by simp [appC], ⟨v, by simpa [appS, appR, appC, appB] using h.mono (fun b hb => .inl hb)⟩, But.refl _ _⟩
    obtain ⟨c0, c1, c2, c3⟩ := h.ik.cells
    clear h c0 c1 c2
    go_enter Tryz.func13, Tryz.ntmps13
    go_wp2_with fail
    go_ret
    exact HP.out
end Go.Proofs.YtejddacjncpneaaGreatDoor.Jo
