/- Acts as they lie in memory, and the contract of few. -/
import Derived.Test.YtkphmkhdlkdphaaCp2
import Derived.OpenShut
import Derived.SliceStrings
import Derived.Deep.Slices
namespace Go.Proofs.Ytkphmkhdlkdphaa
open Go.RowKit Go.WideShapes Go.ChangeShapes Go.Deep

structure Ac where
  kd : Int
  f : Int
  n : Int
  s : ByteArray
  ka : Option Addr
  kc : Nat
  k : List Int
def Ac.cells (v : Ac) : Array Value := #[.int .i64 v.kd, .int .i64 v.f, .int .i64 v.n, .string v.s, .slice v.ka v.k.length v.kc]
structure AOk (w : World) (v : Ac) : Prop where
  kb : -9223372036854775808 ≤ v.kd ∧ v.kd ≤ 9223372036854775807
  fb : -9223372036854775808 ≤ v.f ∧ v.f ≤ 9223372036854775807
  nb : -9223372036854775808 ≤ v.n ∧ v.n ≤ 9223372036854775807
  sb : v.s.size ≤ 9223372036854775807
  lb : v.k.length ≤ 9223372036854775807
  ints : Ints w (.slice v.ka v.k.length v.kc) v.k
  ib : ∀ x ∈ v.k, -9223372036854775808 ≤ x ∧ x ≤ 9223372036854775807
/-- The cells of a slice of acts. -/
def ACells (w : World) (a : Option Addr) (vs : List Ac) : Prop :=
  vs = [] ∨ ∃ b off, a = some ⟨b, off, none⟩ ∧ ∀ i (h : i < vs.length), (∀ j v, vs[i].cells[j]? = some v → w.cell? ⟨b, off + i * 5 + j, none⟩ = some v) ∧ AOk w vs[i]

def fewA (v : Ac) : Bool := decide (v.s.size ≤ 300) && decide (v.k.length ≤ 60) && !(decide (3000 < v.n) && decide (v.n < 16776916))
def few (l : List Ac) : Bool := l.all fewA && decide (l.length ≤ 40)

theorem fewA_iff {v : Ac} : fewA v = true ↔ v.s.size ≤ 300 ∧ v.k.length ≤ 60 ∧ (v.n ≤ 3000 ∨ 16776916 ≤ v.n) := by
  unfold fewA; simp; omega
theorem few_iff {l : List Ac} : few l = true ↔ (∀ v ∈ l, fewA v = true) ∧ l.length ≤ 40 := by unfold few; simp

set_option maxHeartbeats 1000000 in
theorem few_any (vs : List Ac) (a : Option Addr) (cap : Nat) (w : World) (hv : ACells w a vs) (hl : vs.length ≤ 9223372036854775807) :
    Calls Try.prog 9 #[.slice a vs.length cap] w fun e w' => e = .returned (.bool (few vs)) ∧ w = w' := by
  rcases hv with h0' | ⟨b, off, rfl, hc⟩
  · subst h0'
    go_enter Try.func9, Try.ntmps9
    go_wp2_with fail
    go_loop [3] (fun i => i = .int .i64 0) (fun _ => 0)
    case atStart => rfl
    case round =>
      subst hrel
      go_wp2_with fail
      go_ret
      exact ⟨rfl, rfl⟩
  · have HC := Lib.hid hc
    clear hc
    go_enter Try.func9, Try.ntmps9
    go_wp2_with fail
    go_loop [3] (fun i => ∃ k : Nat, k ≤ vs.length ∧ i = .int .i64 k ∧ Hid (∀ v ∈ vs.take k, fewA v = true)) (fun i => vs.length - (RowKit.intOf i).toNat)
    case atStart => exact ⟨0, by omega, rfl, fun v hv => by simp at hv⟩
    case round =>
      obtain ⟨k, hk, rfl, hall⟩ := hrel
      by_cases hlt : k < vs.length
      · obtain ⟨v, hvk⟩ : ∃ v, v = vs[k] := ⟨_, rfl⟩
        have hck := (HC.out k hlt).1
        have hok := (HC.out k hlt).2
        rw [← hvk] at hck hok
        have f2 : w.cell? ⟨b, off + k * 5 + 2, none⟩ = some (.int .i64 v.n) := hck 2 _ rfl
        have f3 : w.cell? ⟨b, off + k * 5 + 3, none⟩ = some (.string v.s) := hck 3 _ rfl
        have f4 : w.cell? ⟨b, off + k * 5 + 4, none⟩ = some (.slice v.ka v.k.length v.kc) := hck 4 _ rfl
        have hsb := hok.sb
        have hlb := hok.lb
        have hnb := hok.nb
        have HVK := Lib.hid hvk
        have hmem : Hid (v ∈ vs) := by unfold Hid; rw [hvk]; exact List.getElem_mem hlt
        clear hck hok hvk
        by_cases hbad : fewA v = true
        · have hb := fewA_iff.1 hbad
          have HB := Lib.hid hbad
          clear hbad
          have H1 : Hid (∀ v ∈ vs.take (k + 1), fewA v = true) := fun u hu => by
            rw [List.take_succ_eq_append_getElem hlt, List.mem_append] at hu
            rcases hu with hu | hu
            · exact hall u hu
            · simp at hu; rw [hu, ← HVK.out]; exact HB.out
          obtain ⟨hb1, hb2, hb3⟩ := hb
          rcases hb3 with hb3 | hb3
          all_goals
            go_wp2_with fail
            go_round
            case rel => exact ⟨k + 1, by omega, by go_num, H1⟩
            case measure => simp [RowKit.intOf]; omega
        · have HF : Hid (few vs = false) := by
            unfold Hid
            cases e : few vs
            · rfl
            · exact absurd ((few_iff.1 e).1 v hmem.out) hbad
          have hb : ¬ (v.s.size ≤ 300 ∧ v.k.length ≤ 60 ∧ (v.n ≤ 3000 ∨ 16776916 ≤ v.n)) := fun h => hbad (fewA_iff.2 h)
          clear hbad
          have hb' : 300 < v.s.size ∨ (v.s.size ≤ 300 ∧ 60 < v.k.length) ∨ (v.s.size ≤ 300 ∧ v.k.length ≤ 60 ∧ 3000 < v.n ∧ v.n < 16776916) := by omega
          clear hb
          rcases hb' with h1 | ⟨h1, h2⟩ | ⟨h1, h2, h3, h4⟩
          all_goals
            go_wp2_with fail
            go_ret
            rw [HF.out]
            exact ⟨rfl, rfl⟩
      · have HF : Hid (few vs = decide (vs.length ≤ 40)) := by
          unfold Hid few
          have : (vs.all fewA) = true := List.all_eq_true.2 (fun v hv => hall.out v (by rw [List.take_of_length_le (by omega)]; exact hv))
          rw [this, Bool.true_and]
        have HD : Hid (decide ((vs.length : Int) ≤ 40) = decide (vs.length ≤ 40)) := by
          unfold Hid; rw [Bool.eq_iff_iff]; simp; omega
        go_wp2_with fail
        go_ret
        rw [HF.out, ← HD.out]
        exact ⟨rfl, rfl⟩

/-! ### how the arguments are read -/
theorem cellsOf3 : Try.prog.cellsOf 3 = 1 := by kernel_rfl
theorem cellsOf9 : Try.prog.cellsOf 9 = 1 := by kernel_rfl
theorem cellsOf31 : Try.prog.cellsOf 31 = 1 := by kernel_rfl
theorem cellsOf33 : Try.prog.cellsOf 33 = 5 := by kernel_rfl
theorem wf64 {n : Int} (h : (Lit.int .i64 n).wf = true) : -9223372036854775808 ≤ n ∧ n ≤ 9223372036854775807 := by
  simp [Lit.wf] at h; exact ⟨h.1, h.2⟩
theorem maxLen_eq : maxLen = 9223372036854775807 := rfl

section
variable {H : Type} {enc : TypeId × Value → H} {w : World} {base : Nat} {held : Bool}
theorem read_ints {fuel : Nat} {cs : List Value} {x : DataW H × List MemPlace} (h : DataW.trod enc Try.prog w base (fun _ => true) held fuel 31 cs = some x) :
    ∃ (a : Option Addr) (l : List Int) (cap : Nat), cs = [.slice a l.length cap] ∧ l.length ≤ 9223372036854775807 ∧ Ints w (.slice a l.length cap) l ∧ ∀ z ∈ l, -9223372036854775808 ≤ z ∧ z ≤ 9223372036854775807 := by
  rcases open_ints Try.underlying31 Try.underlying3 cellsOf3 h with ⟨rfl, _⟩ | ⟨a, len, cap, zs, rfl, _, hl, hm, hz, _, hcell, hwz⟩
  · exact ⟨none, [], 0, rfl, by simp, ⟨none, 0, rfl, Nat.le_refl _, .inl rfl⟩, fun z hz => by cases hz⟩
  · rw [if_pos rfl] at hz
    rw [maxLen_eq] at hm
    have hlen : (zs.take len).length = len := by rw [List.length_take]; omega
    refine ⟨some a, zs.take len, cap, by rw [hlen], by omega, ?_, fun z hz' => wf64 (hwz z (List.mem_of_mem_take hz'))⟩
    by_cases h0 : len = 0
    · subst h0; exact ⟨_, _, rfl, by simp, .inl rfl⟩
    · obtain ⟨b, off, rfl, hc⟩ := ints_at hcell (by omega)
      exact ⟨_, _, rfl, by omega, .inr ⟨b, off, rfl, fun i hi => by rw [hc i (by omega)]; simp [show i < zs.length by omega]⟩⟩
set_option maxRecDepth 100000 in
theorem read_A {fuel : Nat} {cs : List Value} {x : DataW H × List MemPlace} (h : DataW.trod enc Try.prog w base (fun _ => true) held fuel 33 cs = some x) :
    ∃ v : Ac, cs = v.cells.toList ∧ AOk w v := by
  obtain ⟨ys, n, _, _, hlen, hyl, hf⟩ := DataW.trod_struct Try.underlying33 h
  rw [cellsOf33] at hlen
  match cs, hlen with
  | [c0, c1, c2, c3, c4], _ =>
    match ys, hyl with
    | [y0, y1, y2, y3, y4], _ =>
      have h0 : DataW.trod enc Try.prog w base (fun _ => true) held n 3 [c0] = some y0 := by simpa [cellsOf3] using hf 0 _ rfl
      have h1 : DataW.trod enc Try.prog w base (fun _ => true) held n 3 [c1] = some y1 := by simpa [cellsOf3] using hf 1 _ rfl
      have h2 : DataW.trod enc Try.prog w base (fun _ => true) held n 3 [c2] = some y2 := by simpa [cellsOf3] using hf 2 _ rfl
      have h3 : DataW.trod enc Try.prog w base (fun _ => true) held n 9 [c3] = some y3 := by simpa [cellsOf9] using hf 3 _ rfl
      have h4 : DataW.trod enc Try.prog w base (fun _ => true) held n 31 [c4] = some y4 := by simpa [cellsOf31] using hf 4 _ rfl
      obtain ⟨a, e0, _, w0⟩ := DataW.trod_int Try.underlying3 h0
      obtain ⟨b, e1, _, w1⟩ := DataW.trod_int Try.underlying3 h1
      obtain ⟨c, e2, _, w2⟩ := DataW.trod_int Try.underlying3 h2
      obtain ⟨s, e3, _, w3⟩ := DataW.trod_string Try.underlying9 h3
      obtain ⟨al, l, lc, e4, k4, g4, o4⟩ := read_ints h4
      simp at e0 e1 e2 e3 e4
      subst e0 e1 e2 e3 e4
      rw [maxLen_eq] at w3
      exact ⟨⟨a, b, c, s, al, lc, l⟩, rfl, ⟨wf64 w0, wf64 w1, wf64 w2, w3, k4, g4, o4⟩⟩
set_option maxRecDepth 100000 in
theorem read_acts {fuel : Nat} {cs : List Value} {x : DataW H × List MemPlace} (h : DataW.trod enc Try.prog w base (fun _ => true) held fuel 22 cs = some x) :
    ∃ (a : Option Addr) (vs : List Ac) (cap : Nat), cs = [.slice a vs.length cap] ∧ vs.length ≤ 9223372036854775807 ∧ ACells w a vs := by
  rcases open_slice Try.underlying22 h with ⟨rfl, _⟩ | ⟨a, len, cap, m, n, D, Pl, rfl, _, hl, hm, hmm, _, hi⟩
  · exact ⟨none, [], 0, rfl, by simp, .inl rfl⟩
  · rw [if_pos rfl] at hmm
    rw [maxLen_eq] at hm
    rw [cellsOf33] at hi
    have hi' : ∀ i, i < len → ∃ v : Ac, (∀ j u, v.cells[j]? = some u → w.cell? ((a.add (i * 5)).add j) = some u) ∧ AOk w v := by
      intro i hil
      obtain ⟨cs', hc, ht⟩ := hi i (by omega)
      obtain ⟨v, hcs, hok⟩ := read_A ht
      refine ⟨v, fun j u hj => ?_, hok⟩
      obtain ⟨_, hcl, hat⟩ := World.cells?_some hc
      have hj5 : j < 5 := by
        have := (Array.getElem?_eq_some_iff.1 hj).1
        simpa [Ac.cells] using this
      rw [hat j hj5, hcs]
      simpa using hj
    refine ⟨some a, List.ofFn (fun i : Fin len => Classical.choose (hi' i i.2)), cap, by simp, by simp; omega, ?_⟩
    by_cases h0 : len = 0
    · left; subst h0; simp
    · right
      have hspot : a.spot = none := by
        have h5 := (Classical.choose_spec (hi' 0 (by omega))).1 0 _ rfl
        simp only [Nat.zero_mul] at h5
        simpa [Addr.add] using World.cell?_spot h5
      obtain ⟨b, off, sp⟩ := a
      simp at hspot; subst hspot
      refine ⟨b, off, rfl, fun i hi2 => ?_⟩
      have hil : i < len := by simpa using hi2
      have hsp := Classical.choose_spec (hi' i hil)
      simp only [List.getElem_ofFn]
      refine ⟨fun j u hj => ?_, hsp.2⟩
      have := hsp.1 j u hj
      rw [add_plain, add_plain] at this
      exact this
end
end Go.Proofs.Ytkphmkhdlkdphaa
