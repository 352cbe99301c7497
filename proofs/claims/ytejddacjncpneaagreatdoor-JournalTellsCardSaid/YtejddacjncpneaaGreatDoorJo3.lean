/- The contracts of SameTexts, begins, disky, few and texts. Operations as they lie in memory, the contracts of few, texts, disky and begins, and how the arguments are read. The contracts of Len and Get, and of small: every call is evaluated. What a law keeps beside a journal. -/
import Derived.Test.YtejddacjncpneaaGreatDoorJo2
import Derived.OpenShut
import Derived.SliceStrings
import Derived.Deep.Slices
set_option maxRecDepth 100000
namespace Go.Proofs.YtejddacjncpneaaGreatDoor.Jo
open Go.RowKit Di
open Wi (StrCells cell_lt cell_later)

/-- A call that returns v and turns nothing that was there. -/
def Gives (v : Value) (w : World) (e : Ending) (w' : World) : Prop := e = .returned v ∧ Below w.heap.size w w'
theorem str_nil (w : World) (a : Option Addr) : StrCells w a [] := .inl rfl
theorem StrCells.same {w w' : World} {a : Option Addr} {l : List ByteArray} (h : StrCells w a l) (hs : Same w w') : StrCells w' a l := by
  rcases h with h | ⟨b, o, e, hc⟩
  · exact .inl h
  · refine .inr ⟨b, o, e, fun i hi => ?_⟩
    have h1 := hc i hi
    rw [World.cell?_of_block (a := ⟨b, o + i, none⟩) (hs.2 b (Wi.cell_lt h1))]
    exact h1

theorem below_drewN' {B m : Nat} {a b : World} (h : Below B a b) : Below B a (b.drewN m) := Di.below_drewN h

set_option maxHeartbeats 4000000 in
theorem same_any (a a' : Option Addr) (cap cap' : Nat) (l m : List ByteArray) (hl : l.length ≤ 100000000) (hm : m.length ≤ 100000000) (w : World) (h : StrCells w a l) (h' : StrCells w a' m) :
    Calls Tryz.prog 24 #[.slice a l.length cap, .slice a' m.length cap'] w (Gives (.bool (decide (l = m))) w) := by
  by_cases hlm : l.length = m.length
  · by_cases h0 : l.length = 0
    · obtain rfl : l = [] := List.length_eq_zero_iff.1 h0
      obtain rfl : m = [] := List.length_eq_zero_iff.1 hlm.symm
      go_enter Tryz.func24, Tryz.ntmps24
      go_wp2_with fail
      go_loopw [5] (fun i wr => i = .int .i64 0 ∧ wr = w) (fun _ _ => 0)
      case atStart => exact ⟨rfl, rfl⟩
      case round =>
        obtain ⟨rfl, rfl⟩ := hrel
        go_wp2_with fail
        go_ret
        exact ⟨rfl, Below.refl _ _⟩
    · have hne : l ≠ [] := fun e => h0 (by rw [e]; rfl)
      have hne' : m ≠ [] := fun e => h0 (by rw [hlm, e]; rfl)
      obtain ⟨b, o, rfl, hc⟩ := h.resolve_left hne
      obtain ⟨b', o', rfl, hc'⟩ := h'.resolve_left hne'
      have HC := Lib.hid hc
      have HC' := Lib.hid hc'
      have HLM := Lib.hid hlm
      rw [← hlm]
      clear h h' h0 hne hne' hc hc' hlm
      go_enter Tryz.func24, Tryz.ntmps24
      go_wp2_with fail
      go_loopw [5] (fun i wr => ∃ k : Nat, k ≤ l.length ∧ i = .int .i64 k ∧ Below w.heap.size w wr ∧ Hid (l.take k = m.take k)) (fun i _ => l.length - (RowKit.intOf i).toNat)
      case atStart => exact ⟨0, by omega, rfl, Below.refl _ _, by simp [Hid]⟩
      case round =>
        obtain ⟨k, hk, rfl, hb, htk⟩ := hrel
        by_cases hlt : k < l.length
        · have hlt' : k < m.length := by rw [← HLM.out]; exact hlt
          have f1 := cell_later (HC.out k hlt) hb
          have f2 := cell_later (HC'.out k hlt') hb
          obtain ⟨z, hzz⟩ : ∃ z, z = l[k] := ⟨_, rfl⟩
          obtain ⟨y, hyy⟩ : ∃ y, y = m[k] := ⟨_, rfl⟩
          rw [← hzz] at f1
          rw [← hyy] at f2
          have HZ := Lib.hid hzz
          have HY := Lib.hid hyy
          clear hzz hyy
          by_cases hzy : z = y
          · subst hzy
            have HT : Hid (l.take (k + 1) = m.take (k + 1)) := by
              unfold Hid
              rw [List.take_succ_eq_append_getElem hlt, List.take_succ_eq_append_getElem hlt', htk.out, ← HZ.out, ← HY.out]
            go_wp2_with fail
            go_quiet (fail)
            go_wp2_with fail
            go_roundw
            case rel => exact ⟨k + 1, by omega, by go_num, below_drewN' hb, HT⟩
            case measure => simp [RowKit.intOf]; omega
          · have HF : Hid (decide (l = m) = false) := decide_eq_false fun e => hzy (by rw [HZ.out, HY.out]; simp only [e])
            have hzy' : (z.toList == y.toList) = false := by
              rw [beq_eq_false_iff_ne, ByteArray.toList_eq, ByteArray.toList_eq]
              exact fun e => hzy (ba_inj e)
            clear hzy
            go_wp2_with fail
            go_quiet (fail)
            go_wp2_with fail
            go_ret
            rw [HF.out]
            exact ⟨rfl, below_drewN' hb⟩
        · have HF : Hid (decide (l = m) = true) := by
            refine decide_eq_true ?_
            have := htk.out
            rwa [List.take_of_length_le (by omega), List.take_of_length_le (by have := HLM.out; omega)] at this
          go_wp2_with fail
          go_ret
          rw [HF.out]
          exact ⟨rfl, hb⟩
  · have HF : Hid (decide (l = m) = false) := decide_eq_false fun e => hlm (by rw [e])
    have hlm' : ((l.length : Int) != m.length) = true := by simpa using fun e : (l.length : Int) = m.length => hlm (by omega)
    clear hlm h h'
    go_enter Tryz.func24, Tryz.ntmps24
    go_wp2_with fail
    go_ret
    rw [HF.out]
    exact ⟨rfl, Below.refl _ _⟩
end Go.Proofs.YtejddacjncpneaaGreatDoor.Jo

namespace Go.Proofs.YtejddacjncpneaaGreatDoor.Jo
open Go.RowKit Go.WideShapes Go.ChangeShapes Go.Deep Di
open Wi (StrCells)

structure Opn where
  kd : Int
  s : ByteArray
  n : Int
  ka : Option Addr
  kc : Nat
  k : List Int
def Opn.cells (v : Opn) : Array Value := #[.int .i64 v.kd, .string v.s, .int .i64 v.n, .slice v.ka v.k.length v.kc]
structure OOk (w : World) (v : Opn) : Prop where
  kb : -9223372036854775808 ≤ v.kd ∧ v.kd ≤ 9223372036854775807
  nb : -9223372036854775808 ≤ v.n ∧ v.n ≤ 9223372036854775807
  sb : v.s.size ≤ 9223372036854775807
  lb : v.k.length ≤ 9223372036854775807
  ints : Ints w (.slice v.ka v.k.length v.kc) v.k
  ib : ∀ x ∈ v.k, -9223372036854775808 ≤ x ∧ x ≤ 9223372036854775807
theorem cell_same {w w' : World} {b : Nat} (h : w'.heap[b]? = w.heap[b]?) (i : Nat) {u : Value} (hu : w.cell? ⟨b, i, none⟩ = some u) : w'.cell? ⟨b, i, none⟩ = some u := by
  rw [World.cell?_of_block (a := ⟨b, i, none⟩) h]; exact hu
/-- The cells of a slice of operations. -/
def OCells (w : World) (a : Option Addr) (vs : List Opn) : Prop :=
  vs = [] ∨ ∃ b off, a = some ⟨b, off, none⟩ ∧ ∀ i (h : i < vs.length), (∀ j v, vs[i].cells[j]? = some v → w.cell? ⟨b, off + i * 4 + j, none⟩ = some v) ∧ OOk w vs[i]
theorem OOk.later {B : Nat} {w w' : World} {v : Opn} (h : OOk w v) (hB : w.heap.size ≤ B) (hb : Ov B w w') : OOk w' v :=
  ⟨h.kb, h.nb, h.sb, h.lb, h.ints.kept fun b _ hlt => hb.block b hlt (by omega), h.ib⟩
theorem OCells.later {B : Nat} {w w' : World} {a : Option Addr} {l : List Opn} (h : OCells w a l) (hB : w.heap.size ≤ B) (hb : Ov B w w') : OCells w' a l := by
  rcases h with h | ⟨b, o, rfl, hc⟩
  · exact .inl h
  · refine .inr ⟨b, o, rfl, fun i hi => ⟨fun j v hj => ?_, (hc i hi).2.later hB hb⟩⟩
    have := (hc i hi).1 j v hj
    exact cell_same (hb.block b (World.block_lt_of_cell? w _ this) (by have := World.block_lt_of_cell? w _ this; simp only at this; omega)) _ this

def fewO (v : Opn) : Bool := decide (v.s.size ≤ 200) && decide (v.k.length ≤ 50)
def few (l : List Opn) : Bool := l.all fewO && decide (l.length ≤ 25)
theorem fewO_iff {v : Opn} : fewO v = true ↔ v.s.size ≤ 200 ∧ v.k.length ≤ 50 := by
  unfold fewO; simp
theorem few_iff {l : List Opn} : few l = true ↔ (∀ v ∈ l, fewO v = true) ∧ l.length ≤ 25 := by unfold few; simp

set_option maxHeartbeats 1000000 in
theorem few_any (vs : List Opn) (a : Option Addr) (cap : Nat) (w : World) (hv : OCells w a vs) (hl : vs.length ≤ 9223372036854775807) :
    Calls Tryz.prog 5 #[.slice a vs.length cap] w fun e w' => e = .returned (.bool (few vs)) ∧ w = w' := by
  rcases hv with h0' | ⟨b, off, rfl, hc⟩
  · subst h0'
    go_enter Tryz.func5, Tryz.ntmps5
    go_wp2_with fail
    go_loop [3] (fun i => i = .int .i64 0) (fun _ => 0)
    case atStart => rfl
    case round =>
      subst hrel
      go_wp2_with fail
      go_ret
      exact ⟨rfl, rfl⟩
  · have HC := Lib.hid hc
    clear hc
    go_enter Tryz.func5, Tryz.ntmps5
    go_wp2_with fail
    go_loop [3] (fun i => ∃ k : Nat, k ≤ vs.length ∧ i = .int .i64 k ∧ Hid (∀ v ∈ vs.take k, fewO v = true)) (fun i => vs.length - (RowKit.intOf i).toNat)
    case atStart => exact ⟨0, by omega, rfl, fun v hv => by simp at hv⟩
    case round =>
      obtain ⟨k, hk, rfl, hall⟩ := hrel
      by_cases hlt : k < vs.length
      · obtain ⟨v, hvk⟩ : ∃ v, v = vs[k] := ⟨_, rfl⟩
        have hck := (HC.out k hlt).1
        have hok := (HC.out k hlt).2
        rw [← hvk] at hck hok
        have f1 : w.cell? ⟨b, off + k * 4 + 1, none⟩ = some (.string v.s) := hck 1 _ rfl
        have f3 : w.cell? ⟨b, off + k * 4 + 3, none⟩ = some (.slice v.ka v.k.length v.kc) := hck 3 _ rfl
        have hsb := hok.sb
        have hlb := hok.lb
        have HVK := Lib.hid hvk
        have hmem : Hid (v ∈ vs) := by unfold Hid; rw [hvk]; exact List.getElem_mem hlt
        clear hck hok hvk
        by_cases hbad : fewO v = true
        · have hb := fewO_iff.1 hbad
          have HB := Lib.hid hbad
          clear hbad
          have H1 : Hid (∀ v ∈ vs.take (k + 1), fewO v = true) := fun u hu => by
            rw [List.take_succ_eq_append_getElem hlt, List.mem_append] at hu
            rcases hu with hu | hu
            · exact hall u hu
            · simp at hu; rw [hu, ← HVK.out]; exact HB.out
          obtain ⟨hb1, hb2⟩ := hb
          go_wp2_with fail
          go_round
          case rel => exact ⟨k + 1, by omega, by go_num, H1⟩
          case measure => simp [RowKit.intOf]; omega
        · have HF : Hid (few vs = false) := by
            unfold Hid
            cases e : few vs
            · rfl
            · exact absurd ((few_iff.1 e).1 v hmem.out) hbad
          have hb : ¬ (v.s.size ≤ 200 ∧ v.k.length ≤ 50) := fun h => hbad (fewO_iff.2 h)
          clear hbad
          have hb' : 200 < v.s.size ∨ (v.s.size ≤ 200 ∧ 50 < v.k.length) := by omega
          clear hb
          rcases hb' with h1 | ⟨h1, h2⟩
          all_goals
            go_wp2_with fail
            go_ret
            rw [HF.out]
            exact ⟨rfl, rfl⟩
      · have HF : Hid (few vs = decide (vs.length ≤ 25)) := by
          unfold Hid few
          have : (vs.all fewO) = true := List.all_eq_true.2 (fun v hv => hall.out v (by rw [List.take_of_length_le (by omega)]; exact hv))
          rw [this, Bool.true_and]
        have HD : Hid (decide ((vs.length : Int) ≤ 25) = decide (vs.length ≤ 25)) := by
          unfold Hid; rw [Bool.eq_iff_iff]; simp; omega
        go_wp2_with fail
        go_ret
        rw [HF.out, ← HD.out]
        exact ⟨rfl, rfl⟩

def textsB (l : List ByteArray) : Bool := l.all (fun x => decide (x.size ≤ 200)) && decide (l.length ≤ 8)
theorem textsB_iff {l : List ByteArray} : textsB l = true ↔ (∀ x ∈ l, x.size ≤ 200) ∧ l.length ≤ 8 := by unfold textsB; simp

theorem pre_iff {l a : List ByteArray} (h : a.length ≤ l.length) : decide (a <+: l) = decide (l.take a.length = a) := by
  rw [Bool.eq_iff_iff]
  simp only [decide_eq_true_eq]
  constructor
  · rintro ⟨t, rfl⟩; simp
  · intro e; exact ⟨l.drop a.length, by conv => lhs; lhs; rw [← e]
                                        simp⟩
theorem StrCells.take {w : World} {a : Option Addr} {l : List ByteArray} (h : StrCells w a l) (n : Nat) : StrCells w a (l.take n) := by
  rcases h with rfl | ⟨b, o, e, hc⟩
  · left; simp
  · refine .inr ⟨b, o, e, fun i hi => ?_⟩
    rw [List.length_take] at hi
    rw [hc i (by omega)]
    simp
/-! ### how the arguments are read -/
theorem cellsOf3 : Tryz.prog.cellsOf 3 = 1 := by kernel_rfl
theorem cellsOf9 : Tryz.prog.cellsOf 9 = 1 := by kernel_rfl
theorem cellsOf31 : Tryz.prog.cellsOf 36 = 1 := by kernel_rfl
theorem cellsOf33 : Tryz.prog.cellsOf 38 = 4 := by kernel_rfl
theorem wf64 {n : Int} (h : (Lit.int .i64 n).wf = true) : -9223372036854775808 ≤ n ∧ n ≤ 9223372036854775807 := by
  simp [Lit.wf] at h; exact ⟨h.1, h.2⟩
theorem maxLen_eq : maxLen = 9223372036854775807 := rfl

section
variable {H : Type} {enc : TypeId × Value → H} {w : World} {base : Nat} {held : Bool}
theorem read_ints {fuel : Nat} {cs : List Value} {x : DataW H × List MemPlace} (h : DataW.trod enc Tryz.prog w base (fun _ => true) held fuel 36 cs = some x) :
    ∃ (a : Option Addr) (l : List Int) (cap : Nat), cs = [.slice a l.length cap] ∧ l.length ≤ 9223372036854775807 ∧ Ints w (.slice a l.length cap) l ∧ ∀ z ∈ l, -9223372036854775808 ≤ z ∧ z ≤ 9223372036854775807 := by
  rcases open_ints Tryz.underlying36 Tryz.underlying3 cellsOf3 h with ⟨rfl, _⟩ | ⟨a, len, cap, zs, rfl, _, hl, hm, hz, _, hcell, hwz⟩
  · exact ⟨none, [], 0, rfl, by simp, ⟨none, 0, rfl, Nat.le_refl _, .inl rfl⟩, fun z hz => by cases hz⟩
  · rw [if_pos rfl] at hz
    rw [maxLen_eq] at hm
    have hlen : (zs.take len).length = len := by rw [List.length_take]; omega
    refine ⟨some a, zs.take len, cap, by rw [hlen], by omega, ?_, fun z hz' => wf64 (hwz z (List.mem_of_mem_take hz'))⟩
    by_cases h0 : len = 0
    · subst h0; exact ⟨_, _, rfl, by simp, .inl rfl⟩
    · obtain ⟨b, off, rfl, hc⟩ := ints_at hcell (by omega)
      exact ⟨_, _, rfl, by omega, .inr ⟨b, off, rfl, fun i hi => by rw [hc i (by omega)]; simp [show i < zs.length by omega]⟩⟩
set_option maxRecDepth 100000 in
theorem read_O {fuel : Nat} {cs : List Value} {x : DataW H × List MemPlace} (h : DataW.trod enc Tryz.prog w base (fun _ => true) held fuel 38 cs = some x) :
    ∃ v : Opn, cs = v.cells.toList ∧ OOk w v := by
  obtain ⟨ys, n, _, _, hlen, hyl, hf⟩ := DataW.trod_struct Tryz.underlying38 h
  rw [cellsOf33] at hlen
  match cs, hlen with
  | [c0, c1, c2, c3], _ =>
    match ys, hyl with
    | [y0, y1, y2, y3], _ =>
      have h0 : DataW.trod enc Tryz.prog w base (fun _ => true) held n 3 [c0] = some y0 := by simpa [cellsOf3] using hf 0 _ rfl
      have h1 : DataW.trod enc Tryz.prog w base (fun _ => true) held n 9 [c1] = some y1 := by simpa [cellsOf9] using hf 1 _ rfl
      have h2 : DataW.trod enc Tryz.prog w base (fun _ => true) held n 3 [c2] = some y2 := by simpa [cellsOf3] using hf 2 _ rfl
      have h3 : DataW.trod enc Tryz.prog w base (fun _ => true) held n 36 [c3] = some y3 := by simpa [cellsOf31] using hf 3 _ rfl
      obtain ⟨a, e0, _, w0⟩ := DataW.trod_int Tryz.underlying3 h0
      obtain ⟨s, e1, _, w1⟩ := DataW.trod_string Tryz.underlying9 h1
      obtain ⟨c, e2, _, w2⟩ := DataW.trod_int Tryz.underlying3 h2
      obtain ⟨al, l, lc, e3, k3, g3, o3⟩ := read_ints h3
      simp at e0 e1 e2 e3
      subst e0 e1 e2 e3
      rw [maxLen_eq] at w1
      exact ⟨⟨a, s, c, al, lc, l⟩, rfl, ⟨wf64 w0, wf64 w2, w1, k3, g3, o3⟩⟩
set_option maxRecDepth 100000 in
theorem read_ops {fuel : Nat} {cs : List Value} {x : DataW H × List MemPlace} (h : DataW.trod enc Tryz.prog w base (fun _ => true) held fuel 22 cs = some x) :
    ∃ (a : Option Addr) (vs : List Opn) (cap : Nat), cs = [.slice a vs.length cap] ∧ vs.length ≤ 9223372036854775807 ∧ OCells w a vs := by
  rcases open_slice Tryz.underlying22 h with ⟨rfl, _⟩ | ⟨a, len, cap, m, n, D, Pl, rfl, _, hl, hm, hmm, _, hi⟩
  · exact ⟨none, [], 0, rfl, by simp, .inl rfl⟩
  · rw [if_pos rfl] at hmm
    rw [maxLen_eq] at hm
    rw [cellsOf33] at hi
    have hi' : ∀ i, i < len → ∃ v : Opn, (∀ j u, v.cells[j]? = some u → w.cell? ((a.add (i * 4)).add j) = some u) ∧ OOk w v := by
      intro i hil
      obtain ⟨cs', hc, ht⟩ := hi i (by omega)
      obtain ⟨v, hcs, hok⟩ := read_O ht
      refine ⟨v, fun j u hj => ?_, hok⟩
      obtain ⟨_, hcl, hat⟩ := World.cells?_some hc
      have hj5 : j < 4 := by
        have := (Array.getElem?_eq_some_iff.1 hj).1
        simpa [Opn.cells] using this
      rw [hat j hj5, hcs]
      simpa using hj
    refine ⟨some a, List.ofFn (fun i : Fin len => Classical.choose (hi' i i.2)), cap, by simp, by simp; omega, ?_⟩
    by_cases h0 : len = 0
    · left; subst h0; simp
    · right
      have hspot : a.spot = none := by
        have h5 := (Classical.choose_spec (hi' 0 (by omega))).1 0 _ rfl
        simp only [Nat.zero_mul] at h5
        simpa [Addr.add] using World.cell?_spot h5
      obtain ⟨b, off, sp⟩ := a
      simp at hspot; subst hspot
      refine ⟨b, off, rfl, fun i hi2 => ?_⟩
      have hil : i < len := by simpa using hi2
      have hsp := Classical.choose_spec (hi' i hil)
      simp only [List.getElem_ofFn]
      refine ⟨fun j u hj => ?_, hsp.2⟩
      have := hsp.1 j u hj
      rw [add_plain, add_plain] at this
      exact this
theorem read_strs {fuel : Nat} {cs : List Value} {x : DataW H × List MemPlace} (h : DataW.trod enc Tryz.prog w base (fun _ => true) held fuel 46 cs = some x) :
    ∃ (a : Option Addr) (l : List ByteArray) (cap : Nat), cs = [.slice a l.length cap] ∧ l.length ≤ 9223372036854775807 ∧ StrCells w a l ∧ ∀ z ∈ l, z.size ≤ 9223372036854775807 := by
  rcases open_strings Tryz.underlying46 Tryz.underlying9 cellsOf9 h with ⟨rfl, _⟩ | ⟨a, len, cap, zs, rfl, _, hl, hm, hz, _, hcell, hwz⟩
  · exact ⟨none, [], 0, rfl, by simp, .inl rfl, fun z hz => by cases hz⟩
  · rw [if_pos rfl] at hz
    rw [maxLen_eq] at hm
    have hlen : (zs.take len).length = len := by rw [List.length_take]; omega
    refine ⟨some a, zs.take len, cap, by rw [hlen], by omega, ?_, fun z hz' => by have := hwz z (List.mem_of_mem_take hz'); rw [maxLen_eq] at this; exact this⟩
    by_cases h0 : len = 0
    · left; subst h0; rfl
    · right
      have hspot : a.spot = none := by simpa [Addr.add] using World.cell?_spot (hcell 0 (by omega))
      obtain ⟨b, off, sp⟩ := a
      simp at hspot; subst hspot
      refine ⟨b, off, rfl, fun i hi => ?_⟩
      have := hcell i (by omega)
      rw [add_plain] at this
      rw [this]
      simp [List.getD_eq_getElem?_getD, show i < zs.length by omega]
end
end Go.Proofs.YtejddacjncpneaaGreatDoor.Jo

namespace Go.Proofs.YtejddacjncpneaaGreatDoor.Jo
open Go.RowKit Di
open Wi (StrCells)

section
variable {r : Nat} {f : Int} {jb : Nat} {R : List ByteArray} {bad : Bool} {v : Value} {w : World}
theorem IsJ.c2 (h : IsJ r f jb v R bad w) : w.cell? ⟨jb, 2, none⟩ = some v := by
  have hr := h.1
  simp [World.cell?, hr]
theorem len_any (h : IsJ r f jb v R bad w) (_hL : R.length ≤ 100000000) : Calls Tryz.prog 31 #[.pointer (some ⟨jb, 0, none⟩)] w fun e w' => e = .returned (.int .i64 R.length) ∧ w = w' := by
  have c2 := h.c2
  obtain ⟨a, cap, rfl, _, _⟩ := h.2.shape
  clear h
  go_enter Tryz.func31, Tryz.ntmps31
  go_wp2_with fail
  go_ret
  exact ⟨rfl, rfl⟩
theorem get_any (h : IsJ r f jb v R bad w) (_hL : R.length ≤ 100000000) (i : Nat) (hi : i < R.length) : Calls Tryz.prog 32 #[.pointer (some ⟨jb, 0, none⟩), .int .i64 i] w fun e w' => e = .returned (.string R[i]) ∧ w = w' := by
  have c2 := h.c2
  have hown := h.2
  obtain ⟨a, cap, rfl, _, _⟩ := hown.shape
  obtain ⟨g, rfl, hc⟩ := hown.cell (j := i) (u := .string R[i]) (by simp [hi])
  obtain ⟨x, hx⟩ : ∃ x, R[i] = x := ⟨_, rfl⟩
  have HX := Lib.hid hx
  rw [hx] at hc
  clear h hown hx
  go_enter Tryz.func32, Tryz.ntmps32
  go_wp2_with fail
  go_ret
  rw [HX.out]
  exact ⟨rfl, rfl⟩
theorem all_isJ (h : IsJ r f jb v R bad w) (hL : R.length ≤ 100000000) : Calls Tryz.prog 25 #[.pointer (some ⟨jb, 0, none⟩)] w (NewList w R) := by
  have c2 := h.c2
  have HC := Lib.hid (clone_any h.2 hL)
  obtain ⟨a, cap, rfl, _, _⟩ := h.2.shape
  clear h
  go_enter Tryz.func25, Tryz.ntmps25
  go_wp2_with fail
  refine HC.out.mono ?_
  rintro e w' ⟨v', rfl, h1, h2⟩
  have HH : Hid (NewList w R (.returned v') w') := ⟨v', rfl, h1, h2⟩
  clear h1 h2 HC
  go_wp2_with fail
  go_ret
  exact HH.out
end

def ab : ByteArray := ⟨#[97, 98]⟩
def em : ByteArray := ⟨#[]⟩
def t1 : St := opS St.new 3
def t2 : St := appS t1 3 [] false ab
def t3 : St := appS t2 3 [ab] false em
def tornFile : ByteArray := ⟨#[50, 58, 97, 98, 44, 50, 57, 51, 59, 49, 58, 97, 44, 57, 56, 59]⟩
def t4 : St := write t3 4 0 tornFile.data.toList
def t5 : St := opS t4 4
theorem g1 : opC St.new 3 = 0 := by decide +kernel
theorem g1R : opR St.new 3 = [] := by decide +kernel
theorem g2 : appC t1 3 [] false ab = 0 := by decide +kernel
theorem g2R : appR t1 3 [] false ab = [ab] := by decide +kernel
theorem g2B : appB t1 3 [] false ab = false := by decide +kernel
theorem g3 : appC t2 3 [ab] false em = 0 := by decide +kernel
theorem g3R : appR t2 3 [ab] false em = [ab, em] := by decide +kernel
theorem g3B : appB t2 3 [ab] false em = false := by decide +kernel
theorem g4 : readS t3 3 0 99 = [50, 58, 97, 98, 44, 50, 57, 51, 59, 48, 58, 44, 48, 59] ∧ readR t3 3 0 99 = 0 := by decide +kernel
theorem g5 : writeR t3 4 0 tornFile.data.toList = 0 := by decide +kernel
theorem g6 : opC t4 4 = 0 := by decide +kernel
theorem g6R : opR t4 4 = [ab] := by decide +kernel
theorem g7 : ((t5.now 4).length : Int) = 9 := by decide +kernel
theorem g8 : (forms [ab, em]).length ≤ 100000000 ∧ (forms [ab]).length ≤ 100000000 ∧ (forms []).length ≤ 100000000 := by decide +kernel
theorem g9 : (sumB em.data.toList : Int) = 0 ∧ (sumB (⟨#[97]⟩ : ByteArray).data.toList : Int) = 97 ∧ (sumB ab.data.toList : Int) = 293 := by decide +kernel

theorem new_dk {w w1 : World} {r : Nat} (hdk : Disk (fun b => w.heap.size ≤ b ∧ b < w1.heap.size) r St.new w1) : DK w.heap.size r St.new (fun _ => False) (fun _ => True) w1 :=
  ⟨_, hdk, fun _b h => ⟨h.1, h.2, fun h => h⟩, fun _ h => h.elim, keeps_true w1⟩
theorem OpPost.ok {B r : Nat} {st : St} {f : Int} {T : Nat → Prop} {K : World → Prop} {w w' : World} {e : Ending} (h : OpPost B r st f T K w e w') (h0 : opC st f = 0) {R : List ByteArray} (hR : opR st f = R) :
    ∃ jb v, e = .returned (.tuple #[.pointer (some ⟨jb, 0, none⟩), .int .i64 0]) ∧ JK B r (opS st f) f jb R false v T K w' ∧ Ov B w w' := by
  obtain ⟨ho, h | ⟨_, jb, v, h1, h2⟩⟩ := h
  · exact absurd h0 h.1
  · exact ⟨jb, v, h1, hR ▸ h2, ho⟩

set_option maxHeartbeats 4000000 in
theorem small_any (w : World) (he : Wi.Env w) : Calls Tryz.prog 4 #[] w fun e w' => e = .returned (.bool true) ∧ Ov w.heap.size w w' := by
  have h6 := he.size
  have HE0 := Lib.hid he
  clear he
  go_enter Tryz.func4, Tryz.ntmps4
  go_wp2_with fail
  refine (new_any w).mono ?_
  rintro e w1 ⟨r, rfl, hdk, hg⟩
  have hk := new_dk hdk
  have hz : w.heap.size ≤ w1.heap.size := hg.size
  have HO : Hid (Ov w.heap.size w w1) := Ov.grown hg
  have HE := Lib.hid (env_ov HE0.out HO.out h6)
  have HN := Lib.hid (open_any hk hz h6 HE.out (f := 3) (by omega))
  clear hdk hg hk
  go_wp2_with fail
  refine HN.out.mono ?_
  clear HN
  rintro e w2 hp
  obtain ⟨jb, v, rfl, hj, ho⟩ := hp.ok g1 g1R
  have hz2 : w.heap.size ≤ w2.heap.size := Nat.le_trans hz ho.size
  have HO2 : Hid (Ov w.heap.size w w2) := HO.out.trans ho
  have HE := Lib.hid (env_ov HE0.out HO2.out h6)
  have HN := Lib.hid (append_any hj hz2 HE.out ab (by decide) (by omega) g8.2.2)
  clear hp hj ho HO hz
  go_wp2_with fail
  refine HN.out.mono ?_
  clear HN
  rintro e w3 ⟨rfl, ⟨v, hj⟩, ho⟩
  have hz3 : w.heap.size ≤ w3.heap.size := Nat.le_trans hz2 ho.size
  have HO3 : Hid (Ov w.heap.size w w3) := HO2.out.trans ho
  have HE := Lib.hid (env_ov HE0.out HO3.out h6)
  rw [show appC (opS St.new 3) 3 [] false ab = 0 from g2]
  have hj' : JK w.heap.size r t2 3 jb [ab] false v (fun _ => False) (fun _ => True) w3 := by
    have := hj; rw [show appR (opS St.new 3) 3 [] false ab = [ab] from g2R, show appB (opS St.new 3) 3 [] false ab = false from g2B] at this; exact this
  have HN := Lib.hid (append_any hj' hz3 HE.out em (by decide) (by omega) g8.2.1)
  clear hj hj' ho HO2 hz2
  go_wp2_with fail
  refine HN.out.mono ?_
  clear HN
  rintro e w4 ⟨rfl, ⟨v, hj⟩, ho⟩
  have hz4 : w.heap.size ≤ w4.heap.size := Nat.le_trans hz3 ho.size
  have HO4 : Hid (Ov w.heap.size w w4) := HO3.out.trans ho
  rw [show appC t2 3 [ab] false em = 0 from g3]
  have hj' : JK w.heap.size r t3 3 jb [ab, em] false v (fun _ => False) (fun _ => True) w4 := by
    have := hj; rw [show appR t2 3 [ab] false em = [ab, em] from g3R, show appB t2 3 [ab] false em = false from g3B] at this; exact this
  have HJ := Lib.hid hj'
  have HN := Lib.hid (hj'.dk.see (f := 26) (args := #[.pointer (some ⟨r, 0, none⟩), .int .i64 3, .int .i64 0, .int .i64 99]) (Q := Reads w4 (readS t3 3 0 99) (readR t3 3 0 99)) fun S p hp hd => by
    subst hp
    exact read_any hd 3 0 99 (by omega) (by omega) (by omega))
  clear hj hj' ho HO3 hz3
  go_wp2_with fail
  refine HN.out.mono ?_
  clear HN
  rintro e w5 ⟨rfl, hb⟩
  rw [g4.1, g4.2]
  have hj := HJ.out.same (same_nothing hb)
  have hz5 : w.heap.size ≤ w5.heap.size := Nat.le_trans hz4 hb.size
  have HO5 : Hid (Ov w.heap.size w w5) := HO4.out.trans (Ov.nothing hb)
  have HN := Lib.hid (hj.call (st' := t4) (x := .int .i64 0) (g := 30) (args := #[.pointer (some ⟨r, 0, none⟩), .int .i64 4, .int .i64 0, .string tornFile]) hz5 fun S p hp hd _ => by
    subst hp
    have := write_any hd 4 0 tornFile (by omega) (by omega) (by decide)
    rw [g5] at this
    exact this)
  clear hj hb HO4 hz4 HJ
  go_wp2_with fail
  refine HN.out.mono ?_
  clear HN
  rintro e w6 ⟨rfl, hj, ho⟩
  have hz6 : w.heap.size ≤ w6.heap.size := Nat.le_trans hz5 ho.size
  have HO6 : Hid (Ov w.heap.size w w6) := HO5.out.trans ho
  have HE := Lib.hid (env_ov HE0.out HO6.out h6)
  have HN := Lib.hid (open_any hj.dk hz6 h6 HE.out (f := 4) (by omega))
  clear hj ho HO5 hz5
  go_wp2_with fail
  refine HN.out.mono ?_
  clear HN
  rintro e w7 hp
  obtain ⟨kb, u, rfl, hj, ho⟩ := hp.ok g6 g6R
  have hz7 : w.heap.size ≤ w7.heap.size := Nat.le_trans hz6 ho.size
  have HO7 : Hid (Ov w.heap.size w w7) := HO6.out.trans ho
  have HJ := Lib.hid hj
  have HK := Lib.hid hj.keeps.self.1
  have HLen := Lib.hid (len_any hj.keeps.self.1 (by decide))
  have HGet := Lib.hid (get_any hj.keeps.self.1 (by decide) 0 (by decide))
  have HAll := Lib.hid (all_isJ hj.isJ (by decide))
  clear hp hj ho HO6 hz6
  go_wp2_with fail
  refine (sum_any em (by decide) w7).mono ?_
  rintro e w' ⟨rfl, rfl⟩
  rw [g9.1]
  go_wp2_with fail
  refine (sum_any ⟨#[97]⟩ (by decide) w7).mono ?_
  rintro e w' ⟨rfl, rfl⟩
  rw [g9.2.1]
  go_wp2_with fail
  refine (sum_any ab (by decide) w7).mono ?_
  rintro e w' ⟨rfl, rfl⟩
  rw [g9.2.2]
  go_wp2_with fail
  have hab : (ab.toList == [97, 98]) = true := by rw [ByteArray.toList_eq]; rfl
  refine HLen.out.mono ?_
  rintro e w' ⟨rfl, rfl⟩
  go_wp2_with fail
  refine HGet.out.mono ?_
  rintro e w' ⟨rfl, rfl⟩
  go_wp2_with fail
  refine HAll.out.mono ?_
  rintro e w8 ⟨v8, rfl, hrow, hb8⟩
  obtain ⟨a8, c8, rfl, hs8⟩ := Wi.own_strs hrow
  have hs9 : StrCells (w8.alloc (.cells #[.string ab] 9)) a8 [ab] := StrCells.same hs8 (same_grown (World.grownBy_alloc _ _ _))
  have hn9 : StrCells (w8.alloc (.cells #[.string ab] 9)) (some ⟨w8.heap.size, 0, none⟩) [ab] := by
    refine .inr ⟨w8.heap.size, 0, rfl, fun i hi => ?_⟩
    obtain rfl : i = 0 := by simpa using hi
    have := heap_alloc_new w8 (.cells #[.string ab] 9)
    show (match (w8.alloc (.cells #[.string ab] 9)).heap[w8.heap.size]? with | some (.cells c _ _) => c[0 + 0]? | _ => none) = _
    rw [this]
    rfl
  have HS := Lib.hid (same_any a8 (some ⟨w8.heap.size, 0, none⟩) c8 1 [ab] [ab] (by decide) (by decide) _ hs9 hn9)
  have h8 := (HJ.out.same (same_below hb8)).same (same_grown (World.grownBy_alloc w8 (.cells #[.string ab] 9) none))
  have H8 := Lib.hid h8
  have HO8 : Hid (Ov w.heap.size w (w8.alloc (.cells #[.string ab] 9))) := (HO7.out.trans (ovBelow hb8)).trans (Ov.grown (World.grownBy_alloc _ _ _))
  clear hrow hb8 hs8 hs9 hn9 h8 HJ HK HLen HGet HAll HO7
  go_wp2_with fail
  refine HS.out.mono ?_
  rintro e w9 ⟨rfl, hb9⟩
  have h9 := H8.out.same (same_below hb9)
  have HO9 : Hid (Ov w.heap.size w w9) := HO8.out.trans (ovBelow hb9)
  have HSz := Lib.hid (h9.dk.size (f := 4) (by omega))
  rw [show (((opS t4 4).now 4).length : Int) = 9 from g7] at HSz
  clear h9 hb9 HS H8 HO8
  go_wp2_with fail
  refine HSz.out.mono ?_
  rintro e w' ⟨rfl, rfl⟩
  go_wp2_with fail
  go_ret
  exact ⟨rfl, HO9.out⟩
end Go.Proofs.YtejddacjncpneaaGreatDoor.Jo

namespace Go.Proofs.YtejddacjncpneaaGreatDoor.Jo
open Go.RowKit Di
open Wi (StrCells)

def TS (a : Option Addr) (b : Nat) : Prop := ∃ o s, a = some ⟨b, o, s⟩
theorem keeps_str {w : World} {a : Option Addr} {l : List ByteArray} (h : StrCells w a l) : Keeps (TS a) (fun w => StrCells w a l) w := fun w' hb => by
  rcases h with h | ⟨b, o, e, hc⟩
  · exact .inl h
  · refine .inr ⟨b, o, e, fun i hi => ?_⟩
    rw [World.cell?_of_block (a := ⟨b, o + i, none⟩) (hb b ⟨o, none, e⟩)]
    exact hc i hi
/-- A slice of strings in memory of the call's own. -/
theorem NewList.open {w w' : World} {l : List ByteArray} {e : Ending} (h : NewList w l e w') :
    ∃ a cap, e = .returned (.slice a l.length cap) ∧ StrCells w' a l ∧ (∀ b, TS a b → w.heap.size ≤ b ∧ b < w'.heap.size) ∧ w'.ownsRow w.heap.size 9 1 (.slice a l.length cap) l.length (l.map Value.string) ∧ Below w.heap.size w w' := by
  obtain ⟨v, rfl, hr, hb⟩ := h
  obtain ⟨a, cap, rfl, hs⟩ := Wi.own_strs hr
  refine ⟨a, cap, rfl, hs, ?_, hr, hb⟩
  rintro b ⟨o, s, rfl⟩
  exact hr.lt b rfl

section
variable {B r : Nat} {st : St} {f : Int} {jb : Nat} {R : List ByteArray} {bad : Bool} {v : Value} {T T' : Nat → Prop} {K K' : World → Prop} {w w' : World}
theorem DK.swap (h : DK B r st T K w) (hs : Same w w') (hT' : ∀ b, T' b → (T b ∨ w.heap.size ≤ b) ∧ b < w'.heap.size) (hK' : Keeps T' K' w') : DK B r st T' K' w' :=
  h.turn hs.1 (fun b hb _ => hs.2 b hb) hT' hK'
theorem JK.swap (h : JK B r st f jb R bad v T K w) (hs : Same w w') (hT' : ∀ b, T' b → (T b ∨ w.heap.size ≤ b) ∧ b < w'.heap.size) (hK' : Keeps T' K' w') : JK B r st f jb R bad v T' K' w' := by
  have h1 := h.same hs
  have hj := h1.isJ
  have hlt := h.lt
  have hv := h.isJ.2.lt
  have hm := JK.mk' (w := w') (fun b hb => (hT' b hb).2) hj hK'
  refine ⟨h.dk.swap hs (fun b hb => ⟨?_, hm.1 b hb⟩) hm.2, fun e => ?_, fun b e => ⟨fun e' => ?_, (h.nv b e).2⟩, h.bj, hK'⟩
  · rcases hb with h1 | h1 | h1
    · exact (hT' b h1).1.imp .inl id
    · exact .inl (.inr (.inl h1))
    · exact .inl (.inr (.inr h1))
  · rcases (hT' jb e).1 with h1 | h1
    · exact h.nj h1
    · omega
  · rcases (hT' b e').1 with h1 | h1
    · exact (h.nv b e).1 h1
    · have := hv b e
      omega
theorem DK.lower {B' : Nat} (h : DK B r st T K w) (hB : B' ≤ B) : DK B' r st T K w := by
  obtain ⟨S, h1, h2, h3, h4⟩ := h
  exact ⟨S, h1, fun b hb => ⟨Nat.le_trans hB (h2 b hb).1, (h2 b hb).2⟩, h3, h4⟩
theorem DK.T_lt (h : DK B r st T K w) {b : Nat} (hb : T b) : b < w.heap.size := by
  obtain ⟨S, _, _, hT, _⟩ := h
  exact hT b hb
theorem DK.keeps (h : DK B r st T K w) : Keeps T K w := by
  obtain ⟨S, _, _, _, hK⟩ := h
  exact hK
/-- The journal becomes part of what is kept. -/
theorem JK.asDK (h : JK B r st f jb R bad v T K w) : DK B r st (JT T jb v) (fun w => IsJ r f jb v R bad w ∧ K w) w := h.dk
theorem DK.crash (h : DK B r st T K w) (hB : B ≤ w.heap.size) (x : Value) (ks : List Int) (hi : Ints w x ks) (hoff : ∀ b, Ints.off x b → b < B) (hk : ks.length ≤ 1000000000 ∧ ∀ x ∈ ks, -9223372036854775808 ≤ x ∧ x ≤ 9223372036854775807) :
    Calls Tryz.prog 20 #[.pointer (some ⟨r, 0, none⟩), x] w fun e w' => e = .returned (.tuple #[]) ∧ DK B r (Di.crash st ks) T K w' ∧ Ov B w w' :=
  h.call hB fun S p hp hd hS => by
    subst hp
    exact crash_any hd x ks hi hk fun b hb s hs => by
      have := hoff b hb
      have := hS b (hd.inS s b hs)
      omega
theorem DK.start (h : DK B r st T K w) (hB : B ≤ w.heap.size) :
    Calls Tryz.prog 22 #[.pointer (some ⟨r, 0, none⟩)] w fun e w' => e = .returned (.tuple #[]) ∧ DK B r (Di.start st) T K w' ∧ Ov B w w' :=
  h.call hB fun S p hp hd _ => by subst hp; exact start_any hd
theorem DK.lose (h : DK B r st T K w) (hB : B ≤ w.heap.size) (n : Int) (hn : -9223372036854775808 ≤ n ∧ n ≤ 9223372036854775807) :
    Calls Tryz.prog 16 #[.pointer (some ⟨r, 0, none⟩), .int .i64 n] w fun e w' => e = .returned (.tuple #[]) ∧ DK B r (Di.lose st n) T K w' ∧ Ov B w w' :=
  h.call hB fun S p hp hd _ => by subst hp; exact lose_any hd n hn
theorem DK.write (h : DK B r st T K w) (hB : B ≤ w.heap.size) (a : Int) (s : ByteArray) (hf : -9223372036854775808 ≤ f ∧ f ≤ 9223372036854775807) (ha : -9223372036854775808 ≤ a ∧ a ≤ 9223372036854775807) (hs : s.size ≤ 4611686018427387904) :
    Calls Tryz.prog 30 #[.pointer (some ⟨r, 0, none⟩), .int .i64 f, .int .i64 a, .string s] w fun e w' => e = .returned (.int .i64 (Di.writeR st f a s.data.toList)) ∧ DK B r (Di.write st f a s.data.toList) T K w' ∧ Ov B w w' :=
  h.call hB fun S p hp hd _ => by subst hp; exact write_any hd f a s hf ha hs
/-- The journal is on. -/
theorem JK.ofDK {h0 : ∀ b, blk v = some b → ¬ T b ∧ b ≠ jb ∧ B ≤ b} (hd : DK B r st (JT T jb v) (fun w => IsJ r f jb v R bad w ∧ Keeps T K w) w) (nj : ¬ T jb) (bj : B ≤ jb) : JK B r st f jb R bad v T K w := by
  refine ⟨?_, nj, h0, bj, hd.kept.2⟩
  obtain ⟨S, h1, h2, h3, h4⟩ := hd
  exact ⟨S, h1, h2, h3, fun w' hb => ⟨(h4 w' hb).1, (h4 w' hb).2.self⟩⟩
end
end Go.Proofs.YtejddacjncpneaaGreatDoor.Jo
