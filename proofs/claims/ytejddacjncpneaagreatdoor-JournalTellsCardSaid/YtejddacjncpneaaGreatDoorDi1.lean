/- The disk as plain mathematics: states, operations, what holds of every state that is reached. No program. Maps whose elements are any values: what a block holds as a function from keys to elements, and the laws of the operations on it. No program. Slices that a structure of the call's own holds: what they hold, where they lie, and append, copy, reslicing, conversion on them. No program. The contracts of the small functions of package disk and of the library's clones. The contract of put. How a disk lies in memory. -/
import Derived.Maps.RangeWalk
import Derived.Deep.AppendSrc
import Derived.Lib.AppendZerosOnto
import Derived.Lib.BufferWrite
import Derived.Maps.AppendAt
import Derived.Laws.IdiomStrings
import Derived.WalkKit
import Derived.WalkSmall
import Derived.Laws.Cover3
import Derived.Shelf.SlMaps.Clone
import Derived.Lib.Hide
import Derived.OwnWalk
import Derived.Deep.QuietTactic
import Derived.BigQuiet
import Derived.Maps.OwnOps
import Derived.Test.YtejddacjncpneaaGreatDoorProg
import Derived.Outline
import Derived.Below
import Derived.Deep.Draws
set_option maxRecDepth 100000
namespace Go.Proofs.YtejddacjncpneaaGreatDoor.Di

structure St where
  now : Int → List UInt8
  dur : Int → List UInt8
  q : List (Int × Nat)
  down : Bool
  lost : Int
  calls : Int
  keep : List Int

def isF (f : Int) : Bool := decide (0 ≤ f) && decide (f < 16)
theorem isF_t {f : Int} : isF f = true ↔ 0 ≤ f ∧ f < 16 := by simp [isF]
theorem isF_f {f : Int} : isF f = false ↔ f < 0 ∨ 16 ≤ f := by
  unfold isF
  by_cases h : 0 ≤ f <;> by_cases h2 : f < 16 <;> simp [h, h2] <;> omega

def upd {α : Type} (g : Int → α) (f : Int) (v : α) : Int → α := fun x => if x = f then v else g x
theorem upd_same {α : Type} (g : Int → α) (f : Int) (v : α) : upd g f v f = v := by simp [upd]
theorem upd_other {α : Type} (g : Int → α) {f x : Int} (v : α) (h : x ≠ f) : upd g f v x = g x := by simp [upd, h]

def putL (b : List UInt8) (at_ : Nat) (s : List UInt8) : List UInt8 :=
  (b ++ List.replicate (at_ + s.length - b.length) 0).take at_ ++ s ++ b.drop (at_ + s.length)

theorem putL_length (b : List UInt8) (a : Nat) (s : List UInt8) : (putL b a s).length = max b.length (a + s.length) := by
  simp [putL]; omega

theorem putL_getD (b : List UInt8) (a : Nat) (s : List UInt8) (i : Nat) :
    (putL b a s).getD i 0 = if a ≤ i ∧ i < a + s.length then s.getD (i - a) 0 else b.getD i 0 := by
  unfold putL
  have hl : ((b ++ List.replicate (a + s.length - b.length) (0 : UInt8)).take a).length = a := by
    simp; omega
  simp only [List.getD_eq_getElem?_getD, List.append_assoc]
  by_cases h1 : i < a
  · rw [if_neg (by omega), List.getElem?_append_left (by omega)]
    simp only [List.getElem?_take, if_pos h1]
    by_cases h2 : i < b.length
    · rw [List.getElem?_append_left h2]
    · rw [List.getElem?_append_right (by omega), List.getElem?_eq_none (l := b) (by omega), List.getElem?_replicate]
      split <;> rfl
  · rw [List.getElem?_append_right (by omega), hl]
    by_cases h2 : i < a + s.length
    · rw [if_pos ⟨by omega, h2⟩, List.getElem?_append_left (by omega)]
    · rw [if_neg (by omega), List.getElem?_append_right (by omega), List.getElem?_drop]
      congr 2
      omega

theorem ext_getD {a b : List UInt8} (h : a.length = b.length) (hh : ∀ i, i < a.length → a.getD i 0 = b.getD i 0) : a = b := by
  apply List.ext_getElem h
  intro i h1 h2
  have := hh i h1
  simpa [List.getD_eq_getElem?_getD, List.getElem?_eq_getElem h1, List.getElem?_eq_getElem h2] using this

def secs (f : Int) (a n : Nat) : List (Int × Nat) := (List.range ((a + n + 63) / 64 - a / 64)).map fun i => (f, a / 64 + i)
def addS (q : List (Int × Nat)) (s : Int × Nat) : List (Int × Nat) := if s ∈ q then q else q ++ [s]
def addQ (q : List (Int × Nat)) (l : List (Int × Nat)) : List (Int × Nat) := l.foldl addS q

def wr (st : St) (f : Int) (a : Nat) (s : List UInt8) : St :=
  if s = [] then st else { st with now := upd st.now f (putL (st.now f) a s), q := addQ st.q (secs f a s.length) }
def chk (st : St) (f a : Int) (n : Nat) : Int :=
  if st.down = true then 8 else if isF f = false ∨ a < 0 then 1 else if a > 16777216 - n then 6 else 0

def surv (i : Nat) (keep : List Int) : Bool := decide (0 < keep.length) && !decide ((keep.getD (i % keep.length) 0).tmod 2 = 0)
def chunk (b : List UInt8) (n : Nat) : List UInt8 := (b.drop (64 * n)).take 64
def keepOne (now : Int → List UInt8) (keep : List Int) (dur : Int → List UInt8) (i : Nat) (s : Int × Nat) : Int → List UInt8 :=
  if surv i keep = true then upd dur s.1 (putL (dur s.1) (64 * s.2) (chunk (now s.1) s.2)) else dur
def durs (now : Int → List UInt8) (keep : List Int) : Nat → List (Int × Nat) → (Int → List UInt8) → Int → List UInt8
  | _, [], d => d
  | i, s :: r, d => durs now keep (i + 1) r (keepOne now keep d i s)
def crash (st : St) (keep : List Int) : St :=
  if st.down = true then st else
    { now := durs st.now keep 0 st.q st.dur, dur := durs st.now keep 0 st.q st.dur, q := [], down := true, lost := st.lost, calls := 0, keep := [] }
def goes (st : St) : St :=
  if st.down = true ∨ st.calls = 0 then st else if st.calls = 1 then crash st st.keep else { st with calls := st.calls - 1 }
def write (st : St) (f a : Int) (s : List UInt8) : St := goes (if chk st f a s.length = 0 then wr st f a.toNat s else st)
def writeR (st : St) (f a : Int) (s : List UInt8) : Int := if (write st f a s).down = true then 8 else chk st f a s.length
def settle (st : St) (f : Int) : St := { st with dur := upd st.dur f (st.now f), q := st.q.filter fun s => !decide (s.1 = f) }
def sync (st : St) (f : Int) : St :=
  if (goes st).down = true ∨ isF f = false then goes st else if (goes st).lost > 0 then { goes st with lost := (goes st).lost - 1 } else settle (goes st) f
def syncR (st : St) (f : Int) : Int :=
  if (goes st).down = true then 8 else if isF f = false then 1 else if (goes st).lost > 0 then 9 else 0
def cut (st : St) (f : Int) (n : Nat) : St := settle { st with now := upd st.now f ((st.now f).take n) } f
def trunc (st : St) (f n : Int) : St :=
  if (goes st).down = true ∨ isF f = false ∨ n < 0 ∨ n > ((goes st).now f).length then goes st else cut (goes st) f n.toNat
def truncR (st : St) (f n : Int) : Int :=
  if (goes st).down = true then 8 else if isF f = false ∨ n < 0 ∨ n > ((goes st).now f).length then 1 else 0
def arm (st : St) (n : Int) (keep : List Int) : St := { st with calls := max n 0, keep := keep }
def lose (st : St) (n : Int) : St := { st with lost := max n 0 }
def start (st : St) : St := { st with down := false }
def readS (st : St) (f a n : Int) : List UInt8 :=
  if st.down = true ∨ isF f = false ∨ a < 0 ∨ n < 0 then [] else ((st.now f).drop a.toNat).take n.toNat
def readR (st : St) (f a n : Int) : Int :=
  if st.down = true then 8 else if isF f = false ∨ a < 0 ∨ n < 0 then 1 else 0
def St.new : St := { now := fun _ => [], dur := fun _ => [], q := [], down := false, lost := 0, calls := 0, keep := [] }

/-! ### what holds of every state that is reached -/
structure WF (st : St) : Prop where
  nf : ∀ f, isF f = false → st.now f = [] ∧ st.dur f = []
  len : ∀ f, (st.now f).length ≤ 16777216
  dl : ∀ f, (st.dur f).length ≤ (st.now f).length
  q : ∀ s ∈ st.q, isF s.1 = true ∧ 64 * s.2 < (st.now s.1).length
  nd : st.q.Nodup
  lost : 0 ≤ st.lost ∧ st.lost ≤ 9223372036854775807
  calls : 0 ≤ st.calls ∧ st.calls ≤ 9223372036854775807
  keep : st.keep.length ≤ 1000000000 ∧ ∀ x ∈ st.keep, -9223372036854775808 ≤ x ∧ x ≤ 9223372036854775807

theorem new_wf : WF St.new := ⟨fun _ _ => ⟨rfl, rfl⟩, fun _ => by simp [St.new], fun _ => by simp [St.new], fun s hs => by simp [St.new] at hs, by simp [St.new], by simp [St.new], by simp [St.new], by simp [St.new]⟩

theorem nodup_bound : ∀ (n : Nat) (l : List Nat), l.Nodup → (∀ x ∈ l, x < n) → l.length ≤ n
  | 0, [], _, _ => Nat.le_refl _
  | 0, x :: _, _, h => absurd (h x (by simp)) (by omega)
  | n + 1, l, hn, h => by
    have h1 : (l.erase n).length ≤ n := nodup_bound n (l.erase n) (hn.erase n) (fun x hx => by
      have hx' := (List.Nodup.mem_erase_iff hn).1 hx
      have := h x hx'.2
      omega)
    have := List.length_erase (a := n) (l := l)
    split at this <;> omega

theorem WF.qlen {st : St} (h : WF st) : st.q.length ≤ 4194304 := by
  have e : (st.q.map fun s => s.1.toNat * 262144 + s.2).Nodup := by
    unfold List.Nodup
    rw [List.pairwise_map]
    refine List.Pairwise.imp_of_mem ?_ h.nd
    intro x y hx hy hne hxy
    apply hne
    have hx1 := h.q x hx
    have hy1 := h.q y hy
    have lx := h.len x.1
    have ly := h.len y.1
    have fx := isF_t.1 hx1.1
    have fy := isF_t.1 hy1.1
    have e1 : x.1.toNat = y.1.toNat := by omega
    have e2 : x.2 = y.2 := by omega
    have e3 : x.1 = y.1 := by omega
    exact Prod.ext e3 e2
  have := nodup_bound 4194304 _ e (fun z hz => by
    obtain ⟨x, hx, rfl⟩ := List.mem_map.1 hz
    have hx1 := h.q x hx
    have lx := h.len x.1
    have fx := isF_t.1 hx1.1
    omega)
  simpa using this

theorem mem_addS {q : List (Int × Nat)} {s x : Int × Nat} : x ∈ addS q s ↔ x ∈ q ∨ x = s := by
  unfold addS
  split
  · constructor
    · exact .inl
    · rintro (h | rfl) <;> assumption
  · simp
theorem mem_addQ {l : List (Int × Nat)} : ∀ {q : List (Int × Nat)} {x : Int × Nat}, x ∈ addQ q l ↔ x ∈ q ∨ x ∈ l := by
  induction l with
  | nil => intro q x; simp [addQ]
  | cons a r ih =>
    intro q x
    show x ∈ addQ (addS q a) r ↔ _
    rw [ih, mem_addS]
    simp [or_assoc]
theorem nodup_addS {q : List (Int × Nat)} (h : q.Nodup) (s : Int × Nat) : (addS q s).Nodup := by
  unfold addS
  split
  · exact h
  · rename_i hs
    rw [List.nodup_append]
    refine ⟨h, by simp, fun a ha b hb e => ?_⟩
    simp at hb
    subst hb
    subst e
    exact hs ha
theorem nodup_addQ {l : List (Int × Nat)} : ∀ {q : List (Int × Nat)}, q.Nodup → (addQ q l).Nodup := by
  induction l with
  | nil => intro q h; exact h
  | cons a r ih => intro q h; exact ih (nodup_addS h a)

theorem mem_secs {f : Int} {a n : Nat} {x : Int × Nat} (h : x ∈ secs f a n) (_hn : 0 < n) : x.1 = f ∧ a / 64 ≤ x.2 ∧ 64 * x.2 < a + n := by
  unfold secs at h
  obtain ⟨i, hi, rfl⟩ := List.mem_map.1 h
  have := List.mem_range.1 hi
  exact ⟨rfl, by simp, by simp; omega⟩
theorem secs_mem {f : Int} {a n k : Nat} (h1 : a / 64 ≤ k) (h2 : 64 * k < a + n) : (f, k) ∈ secs f a n :=
  List.mem_map.2 ⟨k - a / 64, List.mem_range.2 (by omega), by simp; omega⟩

theorem wr_wf {st : St} (h : WF st) {f : Int} {a : Nat} {s : List UInt8} (hf : isF f = true) (hs : a + s.length ≤ 16777216) : WF (wr st f a s) := by
  unfold wr
  split
  · exact h
  · rename_i hne
    have hpos : 0 < s.length := by cases s <;> simp_all
    refine ⟨fun g hg => ?_, fun g => ?_, fun g => ?_, fun x hx => ?_, nodup_addQ h.nd, h.lost, h.calls, h.keep⟩
    · have : g ≠ f := fun e => by rw [e, hf] at hg; cases hg
      simp only [upd_other _ _ this]
      exact h.nf g hg
    · by_cases e : g = f
      · subst e
        simp only [upd_same, putL_length]
        have := h.len g
        omega
      · simp only [upd_other _ _ e]
        exact h.len g
    · by_cases e : g = f
      · subst e
        simp only [upd_same, putL_length]
        have := h.dl g
        omega
      · simp only [upd_other _ _ e]
        exact h.dl g
    · rcases mem_addQ.1 hx with hx | hx
      · have := h.q x hx
        refine ⟨this.1, ?_⟩
        by_cases e : x.1 = f
        · simp only [e, upd_same, putL_length]
          have h2 := this.2
          rw [e] at h2
          omega
        · simp only [upd_other _ _ e]
          exact this.2
      · obtain ⟨e1, e2, e3⟩ := mem_secs hx hpos
        refine ⟨by rw [e1]; exact hf, ?_⟩
        simp only [e1, upd_same, putL_length]
        omega

theorem keepOne_len {now dur : Int → List UInt8} {keep : List Int} {i : Nat} {s : Int × Nat} (hd : ∀ f, (dur f).length ≤ (now f).length) (hs : 64 * s.2 < (now s.1).length) (f : Int) : (keepOne now keep dur i s f).length ≤ (now f).length := by
  unfold keepOne
  split
  · by_cases e : f = s.1
    · subst e
      simp only [upd_same, putL_length, chunk, List.length_take, List.length_drop]
      have := hd s.1
      omega
    · simp only [upd_other _ _ e]
      exact hd f
  · exact hd f
theorem durs_len {now : Int → List UInt8} {keep : List Int} : ∀ (q : List (Int × Nat)) (i : Nat) (dur : Int → List UInt8), (∀ f, (dur f).length ≤ (now f).length) → (∀ s ∈ q, 64 * s.2 < (now s.1).length) → ∀ f, (durs now keep i q dur f).length ≤ (now f).length
  | [], _, dur, hd, _, f => hd f
  | s :: r, i, dur, hd, hq, f => durs_len r (i + 1) _ (fun g => keepOne_len hd (hq s (by simp)) g) (fun x hx => hq x (by simp [hx])) f
theorem durs_nf {now : Int → List UInt8} {keep : List Int} {f : Int} : ∀ (q : List (Int × Nat)) (i : Nat) (dur : Int → List UInt8), dur f = [] → (∀ s ∈ q, s.1 ≠ f) → durs now keep i q dur f = []
  | [], _, dur, hd, _ => hd
  | s :: r, i, dur, hd, hq => durs_nf r (i + 1) _ (by
      unfold keepOne
      split
      · rw [upd_other _ _ (hq s (by simp)).symm, hd]
      · exact hd) (fun x hx => hq x (by simp [hx]))

theorem crash_wf {st : St} (h : WF st) (keep : List Int) : WF (crash st keep) := by
  unfold crash
  split
  · exact h
  · have hnf : ∀ f, isF f = false → durs st.now keep 0 st.q st.dur f = [] := fun f hf =>
      durs_nf _ _ _ (h.nf f hf).2 (fun s hs e => by have := (h.q s hs).1; rw [e, hf] at this; cases this)
    have hl := durs_len (keep := keep) st.q 0 st.dur h.dl (fun s hs => (h.q s hs).2)
    exact ⟨fun f hf => ⟨hnf f hf, hnf f hf⟩, fun f => Nat.le_trans (hl f) (h.len f), fun f => Nat.le_refl _, fun s hs => by simp at hs, by simp, h.lost, by simp, by simp⟩

theorem goes_wf {st : St} (h : WF st) : WF (goes st) := by
  unfold goes
  split
  · exact h
  · rename_i hc
    split
    · exact crash_wf h _
    · have hc0 := h.calls
      have : st.calls ≠ 0 := fun e => hc (.inr e)
      exact ⟨h.nf, h.len, h.dl, h.q, h.nd, h.lost, ⟨by simp; omega, by simp; omega⟩, h.keep⟩

theorem settle_wf {st : St} (h : WF st) {f : Int} (hf : isF f = true) : WF (settle st f) := by
  refine ⟨fun g hg => ?_, h.len, fun g => ?_, fun s hs => h.q s (List.mem_filter.1 hs).1, h.nd.filter _, h.lost, h.calls, h.keep⟩
  · have : g ≠ f := fun e => by rw [e, hf] at hg; cases hg
    exact ⟨(h.nf g hg).1, by simp only [settle, upd_other _ _ this]; exact (h.nf g hg).2⟩
  · by_cases e : g = f
    · subst e; simp [settle, upd_same]
    · simp only [settle, upd_other _ _ e]; exact h.dl g

theorem cut_wf {st : St} (h : WF st) {f : Int} {n : Nat} (hf : isF f = true) : WF (cut st f n) := by
  refine ⟨fun g hg => ?_, fun g => ?_, fun g => ?_, fun s hs => ?_, h.nd.filter _, h.lost, h.calls, h.keep⟩
  · have : g ≠ f := fun e => by rw [e, hf] at hg; cases hg
    simp only [cut, settle, upd_other _ _ this]; exact h.nf g hg
  · by_cases e : g = f
    · subst e; simp only [cut, settle, upd_same, List.length_take]; have := h.len g; omega
    · simp only [cut, settle, upd_other _ _ e]; exact h.len g
  · by_cases e : g = f
    · subst e; simp [cut, settle, upd_same]
    · simp only [cut, settle, upd_other _ _ e]; exact h.dl g
  · obtain ⟨h1, h2⟩ := List.mem_filter.1 hs
    have h2' : s.1 ≠ f := by simpa using h2
    simp only [cut, settle, upd_other _ _ h2']
    exact h.q s h1

theorem chk_zero {st : St} {f a : Int} {n : Nat} : chk st f a n = 0 ↔ st.down = false ∧ isF f = true ∧ 0 ≤ a ∧ a + n ≤ 16777216 := by
  unfold chk
  by_cases h : st.down = true
  · simp [h]
  · have h' : st.down = false := by simpa using h
    by_cases h2 : isF f = false ∨ a < 0
    · rw [if_neg h, if_pos h2]
      simp only [h', true_and]
      constructor
      · intro e; cases e
      · rintro ⟨e1, e2, _⟩
        rcases h2 with h2 | h2
        · rw [e1] at h2; cases h2
        · omega
    · rw [if_neg h, if_neg h2]
      have h3 : isF f = true := by
        cases e : isF f
        · exact absurd (.inl e) h2
        · rfl
      have h4 : 0 ≤ a := by
        have : ¬ a < 0 := fun e => h2 (.inr e)
        omega
      simp only [h', h3, true_and]
      split <;> simp <;> omega

theorem write_wf {st : St} (h : WF st) (f a : Int) (s : List UInt8) : WF (write st f a s) := by
  unfold write
  refine goes_wf ?_
  split
  · rename_i hc
    obtain ⟨_, h2, h3, h4⟩ := chk_zero.1 hc
    exact wr_wf h h2 (by omega)
  · exact h
theorem sync_wf {st : St} (h : WF st) (f : Int) : WF (sync st f) := by
  have g := goes_wf h
  unfold sync
  split
  · exact g
  · rename_i h1
    split
    · rename_i h2
      have := g.lost
      exact ⟨g.nf, g.len, g.dl, g.q, g.nd, ⟨by simp; omega, by simp; omega⟩, g.calls, g.keep⟩
    · refine settle_wf g ?_
      cases e : isF f
      · exact absurd (.inr e) h1
      · rfl
theorem trunc_wf {st : St} (h : WF st) (f n : Int) : WF (trunc st f n) := by
  have g := goes_wf h
  unfold trunc
  split
  · exact g
  · rename_i h1
    refine cut_wf g ?_
    cases e : isF f
    · exact absurd (.inr (.inl e)) h1
    · rfl
theorem start_wf {st : St} (h : WF st) : WF (start st) := ⟨h.nf, h.len, h.dl, h.q, h.nd, h.lost, h.calls, h.keep⟩
theorem lose_wf {st : St} (h : WF st) {n : Int} (hn : n ≤ 9223372036854775807) : WF (lose st n) := ⟨h.nf, h.len, h.dl, h.q, h.nd, ⟨by simp [lose]; omega, by simp [lose]; omega⟩, h.calls, h.keep⟩
theorem arm_wf {st : St} (h : WF st) {n : Int} (hn : n ≤ 9223372036854775807) {keep : List Int} (hk : keep.length ≤ 1000000000 ∧ ∀ x ∈ keep, -9223372036854775808 ≤ x ∧ x ≤ 9223372036854775807) : WF (arm st n keep) :=
  ⟨h.nf, h.len, h.dl, h.q, h.nd, h.lost, ⟨by simp [arm]; omega, by simp [arm]; omega⟩, hk⟩
end Go.Proofs.YtejddacjncpneaaGreatDoor.Di

namespace Go.Proofs.YtejddacjncpneaaGreatDoor.Di
open Go.ChangeMaps Go.MapKept Go.ChangeShapes Go.WideShapes
open Go.Maps (Keyed)

/-- Block b is a map that holds f. -/
def MapIs (P : Program) (k : TypeId) (w : World) (b : Nat) (f : Value → Option Value) : Prop :=
  ∃ es clock, w.heap[b]? = some (.map es clock) ∧ Stamped es clock ∧ (∀ x ∈ es.toList, ∃ l, keyOf P k x.key = some l) ∧ ∀ key v, f key = some v ↔ ∃ x ∈ es.toList, x.key = key ∧ x.val = v

section
variable {P : Program} {k : TypeId} {w : World} {b : Nat} {f : Value → Option Value}

theorem MapIs.lt (h : MapIs P k w b f) : b < w.heap.size := by
  obtain ⟨es, clock, hb, _⟩ := h
  exact (Array.getElem?_eq_some_iff.1 hb).1

theorem MapIs.kept {w' : World} (h : MapIs P k w b f) (hg : w'.heap[b]? = w.heap[b]?) : MapIs P k w' b f := by
  obtain ⟨es, clock, hb, rest⟩ := h
  exact ⟨es, clock, hg.trans hb, rest⟩

theorem MapIs.made (w : World) : MapIs P k (w.alloc (.map #[] 0)) w.heap.size (fun _ => none) :=
  ⟨#[], 0, (MapKept.heap_alloc w _).1, stamped_empty 0, by simp, by simp⟩

theorem MapIs.congr {g : Value → Option Value} (h : MapIs P k w b f) (e : ∀ x, f x = g x) : MapIs P k w b g := by
  obtain ⟨es, clock, hb, h1, h2, h3⟩ := h
  exact ⟨es, clock, hb, h1, h2, fun key v => by rw [← e]; exact h3 key v⟩

theorem find_of {es : Array MapEntry} (K : Keyed P k) (hk : ∀ x ∈ es.toList, ∃ l, keyOf P k x.key = some l) (hf : ∀ key v, f key = some v ↔ ∃ x ∈ es.toList, x.key = key ∧ x.val = v) {key : Value} {kl : Lit} (hkey : keyOf P k key = some kl) :
    (f key = none ∧ (Instr.findKey k key es.toList).run P w = .ok none w ∧ ∀ x ∈ es.toList, x.key ≠ key) ∨ ∃ j e, f key = some e.val ∧ (Instr.findKey k key es.toList).run P w = .ok (some (j, e.val)) w ∧ es.toList[j]? = some e ∧ e.key = key := by
  rcases K.find w hkey es.toList hk with ⟨h1, h2⟩ | ⟨j, e, h1, h2, h3⟩
  · refine .inl ⟨?_, h1, h2⟩
    cases hc : f key with
    | none => rfl
    | some v => obtain ⟨x, hx, he, _⟩ := (hf key v).1 hc; exact absurd he (h2 x hx)
  · exact .inr ⟨j, e, (hf key e.val).2 ⟨e, List.mem_of_getElem? h2, h3, rfl⟩, h1, h2, h3⟩

/-- m[k], and v, ok := m[k]. -/
theorem MapIs.lookup (h : MapIs P k w b f) (K : Keyed P k) {t e : TypeId} (ht : P.underlying t = some (.map k e)) {z : Value} (hz : (zeroValue e).run P w = .ok z w) {key : Value} {kl : Lit} (hkey : keyOf P k key = some kl) :
    (Instr.lookup t (.map (some b)) key false).run P w = .ok ((f key).getD z) w := by
  obtain ⟨es, clock, hb, hs, hk, hf⟩ := h
  rcases find_of (w := w) K hk hf hkey with ⟨h0, h1, _⟩ | ⟨j, e0, h0, h1, _, _⟩
  · simp [Instr.lookup, run_underlying ht, MapKept.run_getObj_map hb, K.check w _ hkey, h1, hz, Result.andThen, h0]
  · simp [Instr.lookup, run_underlying ht, MapKept.run_getObj_map hb, K.check w _ hkey, h1, Result.andThen, h0]

def setF (f : Value → Option Value) (key val : Value) [DecidableEq Value] : Value → Option Value := fun x => if x = key then some val else f x

/-- g is f but for val at key. -/
def Sets (f : Value → Option Value) (key val : Value) (g : Value → Option Value) : Prop := g key = some val ∧ ∀ x, x ≠ key → g x = f x
/-- g is f without key. -/
def Drops (f : Value → Option Value) (key : Value) (g : Value → Option Value) : Prop := g key = none ∧ ∀ x, x ≠ key → g x = f x

/-- m[k] = v. -/
theorem MapIs.update (h : MapIs P k w b f) (K : Keyed P k) {t e : TypeId} (ht : P.underlying t = some (.map k e)) {key val : Value} {kl : Lit} (hkey : keyOf P k key = some kl) {g : Value → Option Value} (hg : Sets f key val g) :
    ∃ w', (Instr.mapUpdate t (.map (some b)) key val).run P w = .ok () w' ∧ MapIs P k w' b g ∧ w.grownBy w' (some b) ∧ w'.heap.size = w.heap.size := by
  obtain ⟨es, clock, hb, hs, hk, hf⟩ := h
  have fin : ∀ o : Obj, w.grownBy (setBlock w b o) (some b) ∧ (setBlock w b o).heap.size = w.heap.size := fun o =>
    ⟨⟨rfl, rfl, rfl, by simp [setBlock], fun i _ hi => heap_setBlock_other hb _ (fun e => hi (by rw [e]))⟩, by simp [setBlock]⟩
  rcases find_of (w := w) K hk hf hkey with ⟨h0, h1, h2⟩ | ⟨j, e0, h0, h1, h2, h3⟩
  · refine ⟨setBlock w b (.map (es.push ⟨key, val, clock⟩) (clock + 1)), ?_, ⟨_, _, heap_setBlock_same hb _, stamped_push hs h2, ?_, ?_⟩, fin _⟩
    · simp [Instr.mapUpdate, run_underlying ht, MapKept.run_getObj_map hb, K.check w false hkey, h1, MapKept.run_setObj_map _ hb, Result.andThen, setBlock]
    · intro x hx
      simp only [Array.toList_push, List.mem_append, List.mem_singleton] at hx
      rcases hx with hx | rfl
      · exact hk x hx
      · exact ⟨kl, hkey⟩
    · intro key' v
      simp only [Array.toList_push, List.mem_append, List.mem_singleton]
      constructor
      · intro hv
        by_cases e : key' = key
        · subst e
          rw [hg.1] at hv
          exact ⟨_, .inr rfl, rfl, Option.some.inj hv⟩
        · rw [hg.2 _ e] at hv
          obtain ⟨x, hx, h4⟩ := (hf _ _).1 hv
          exact ⟨x, .inl hx, h4⟩
      · rintro ⟨x, hx | rfl, rfl, rfl⟩
        · rw [hg.2 _ (h2 x hx)]
          exact (hf _ _).2 ⟨x, hx, rfl, rfl⟩
        · exact hg.1
  · have hj : es[j]? = some e0 := by simpa using h2
    have hkeyf : ∀ e', es[j]? = some e' → ({ e' with key := key, val := val } : MapEntry).key = e'.key := fun e' he' => by rw [hj] at he'; cases he'; exact h3.symm
    have hlist : (es.modify j (fun e' => { e' with key := key, val := val })).toList = es.toList.set j { e0 with key := key, val := val } := by rw [Array.toList_modify, modify_eq_set _ _ _ _ h2]
    have hpw := ((stamped_iff es clock).1 hs).2.2
    have hjl : j < es.toList.length := (List.getElem?_eq_some_iff.1 h2).1
    have other : ∀ i x, es.toList[i]? = some x → i ≠ j → x.key ≠ key := by
      intro i x hx hne he
      have hil : i < es.toList.length := (List.getElem?_eq_some_iff.1 hx).1
      have ex : es.toList[i] = x := (List.getElem?_eq_some_iff.1 hx).2
      have ej : es.toList[j] = e0 := (List.getElem?_eq_some_iff.1 h2).2
      rcases Nat.lt_or_gt_of_ne hne with hlt | hlt
      · exact List.pairwise_iff_getElem.1 hpw i j hil hjl hlt (by rw [ex, ej, he, h3])
      · exact List.pairwise_iff_getElem.1 hpw j i hjl hil hlt (by rw [ex, ej, he, h3])
    have who : ∀ x, x ∈ es.toList.set j { e0 with key := key, val := val } ↔ x = { e0 with key := key, val := val } ∨ (x ∈ es.toList ∧ x.key ≠ key) := by
      intro x
      constructor
      · intro hx
        obtain ⟨i, hi, ex⟩ := List.getElem_of_mem hx
        rw [List.getElem_set] at ex
        split at ex
        · exact .inl ex.symm
        · rename_i hne
          have hi' : i < es.toList.length := by simpa using hi
          exact .inr ⟨ex ▸ List.getElem_mem hi', other i x (by rw [List.getElem?_eq_getElem hi', ex]) (fun e1 => hne e1.symm)⟩
      · rintro (rfl | ⟨hx, hne⟩)
        · exact List.mem_iff_getElem.2 ⟨j, by simpa using hjl, by simp⟩
        · obtain ⟨i, hi⟩ := List.getElem?_of_mem hx
          have hij : i ≠ j := fun e => hne (by rw [e, h2] at hi; cases hi; exact h3)
          exact List.mem_of_getElem? (i := i) (by rw [List.getElem?_set_ne (Ne.symm hij)]; exact hi)
    refine ⟨setBlock w b (.map (es.modify j (fun e' => { e' with key := key, val := val })) clock), ?_, ⟨_, _, heap_setBlock_same hb _, stamped_modify hs _ _ (fun _ _ => rfl) (fun e' _ he' => hkeyf e' he'), ?_, ?_⟩, fin _⟩
    · simp [Instr.mapUpdate, run_underlying ht, MapKept.run_getObj_map hb, K.check w false hkey, h1, hj, h3, K.stays w hkey, MapKept.run_setObj_map _ hb, Result.andThen, setBlock]
    · intro x hx
      rw [hlist] at hx
      rcases (who x).1 hx with rfl | ⟨hx', _⟩
      · exact ⟨kl, hkey⟩
      · exact hk x hx'
    · intro key' v
      rw [hlist]
      constructor
      · intro hv
        by_cases e : key' = key
        · subst e
          rw [hg.1] at hv
          exact ⟨_, (who _).2 (.inl rfl), rfl, Option.some.inj hv⟩
        · rw [hg.2 _ e] at hv
          obtain ⟨x, hx, h4, h5⟩ := (hf _ _).1 hv
          exact ⟨x, (who _).2 (.inr ⟨hx, by rw [h4]; exact e⟩), h4, h5⟩
      · rintro ⟨x, hx, rfl, rfl⟩
        rcases (who x).1 hx with rfl | ⟨hx', hne⟩
        · exact hg.1
        · rw [hg.2 _ hne]
          exact (hf _ _).2 ⟨x, hx', rfl, rfl⟩

/-- delete(m, k). -/
theorem MapIs.delete (h : MapIs P k w b f) (K : Keyed P k) {t e ty : TypeId} (ht : P.underlying t = some (.map k e)) {key : Value} {kl : Lit} (hkey : keyOf P k key = some kl) {g : Value → Option Value} (hg : Drops f key g) :
    ∃ w', (Builtin.delete_ #[t, k] ty #[.map (some b), key]).run P w = .ok (.tuple #[]) w' ∧ MapIs P k w' b g ∧ w.grownBy w' (some b) ∧ w'.heap.size = w.heap.size := by
  obtain ⟨es, clock, hb, hs, hk, hf⟩ := h
  have fin : ∀ o : Obj, w.grownBy (setBlock w b o) (some b) ∧ (setBlock w b o).heap.size = w.heap.size := fun o =>
    ⟨⟨rfl, rfl, rfl, by simp [setBlock], fun i _ hi => heap_setBlock_other hb _ (fun e => hi (by rw [e]))⟩, by simp [setBlock]⟩
  rcases find_of (w := w) K hk hf hkey with ⟨h0, h1, h2⟩ | ⟨j, e0, h0, h1, h2, h3⟩
  · refine ⟨setBlock w b (.map es clock), ?_, ⟨_, _, heap_setBlock_same hb _, hs, hk, fun key' v => ?_⟩, fin _⟩
    · simp [Builtin.delete_, run_underlying ht, MapKept.run_getObj_map hb, K.check w _ hkey, h1, MapKept.run_setObj_map _ hb, Result.andThen, setBlock]
    · rw [← hf]
      by_cases e : key' = key
      · subst e; rw [hg.1, h0]
      · rw [hg.2 _ e]
  · have hjl : j < es.toList.length := (List.getElem?_eq_some_iff.1 h2).1
    have hjs : j < es.size := by simpa using hjl
    have hsub : (es.eraseIdxIfInBounds j).toList = es.toList.eraseIdx j := by
      unfold Array.eraseIdxIfInBounds
      rw [dif_pos hjs]
      simp
    have hpw := ((stamped_iff es clock).1 hs).2.2
    have who : ∀ x, x ∈ es.toList.eraseIdx j ↔ (x ∈ es.toList ∧ x.key ≠ key) := by
      intro x
      rw [List.mem_eraseIdx_iff_getElem?]
      constructor
      · rintro ⟨i, hne, hi⟩
        refine ⟨List.mem_of_getElem? hi, fun he => ?_⟩
        have hil : i < es.toList.length := (List.getElem?_eq_some_iff.1 hi).1
        have ex : es.toList[i] = x := (List.getElem?_eq_some_iff.1 hi).2
        have ej : es.toList[j] = e0 := (List.getElem?_eq_some_iff.1 h2).2
        rcases Nat.lt_or_gt_of_ne hne with hlt | hlt
        · exact List.pairwise_iff_getElem.1 hpw i j hil hjl hlt (by rw [ex, ej, he, h3])
        · exact List.pairwise_iff_getElem.1 hpw j i hjl hil hlt (by rw [ex, ej, he, h3])
      · rintro ⟨hx, hne⟩
        obtain ⟨i, hi⟩ := List.getElem?_of_mem hx
        refine ⟨i, fun e1 => hne ?_, hi⟩
        rw [e1, h2] at hi
        cases hi
        exact h3
    refine ⟨setBlock w b (.map (es.eraseIdxIfInBounds j) clock), ?_, ⟨_, _, heap_setBlock_same hb _, stamped_erase hs j, ?_, fun key' v => ?_⟩, fin _⟩
    · simp [Builtin.delete_, run_underlying ht, MapKept.run_getObj_map hb, K.check w _ hkey, h1, MapKept.run_setObj_map _ hb, Result.andThen, setBlock]
    · intro x hx
      rw [hsub] at hx
      exact hk x ((who x).1 hx).1
    · rw [hsub]
      constructor
      · intro hv
        by_cases e : key' = key
        · subst e; rw [hg.1] at hv; cases hv
        · rw [hg.2 _ e] at hv
          obtain ⟨x, hx, h4, h5⟩ := (hf _ _).1 hv
          exact ⟨x, (who x).2 ⟨hx, by rw [h4]; exact e⟩, h4, h5⟩
      · rintro ⟨x, hx, rfl, rfl⟩
        obtain ⟨hx', hne⟩ := (who x).1 hx
        rw [hg.2 _ hne]
        exact (hf _ _).2 ⟨x, hx', rfl, rfl⟩

/-- A loop over the map is under way: left says which entries are still to come. -/
def Ranging (P : Program) (k : TypeId) (w : World) (b r : Nat) (f : Value → Option Value) (left : Value → Bool) (cnt : Nat) : Prop :=
  ∃ es clock since seen c0, w.heap[b]? = some (.map es clock) ∧ Stamped es clock ∧ (∀ x ∈ es.toList, ∃ l, keyOf P k x.key = some l) ∧ (∀ key v, f key = some v ↔ ∃ x ∈ es.toList, x.key = key ∧ x.val = v) ∧
    w.heap[r]? = some (.mapIter (some b) since seen c0) ∧ (∀ x ∈ es.toList, x.born < since) ∧ (leftOf es seen).size = cnt ∧ (∀ x ∈ es.toList, left x.key = !seen.contains x.born) ∧ since ≤ c0 ∧ since ≤ clock

theorem Ranging.owns {r : Nat} {left : Value → Bool} {cnt : Nat} (h : Ranging P k w b r f left cnt) : MapIs P k w b f := by
  obtain ⟨es, clock, since, seen, c0, hb, hs, hk, hf, _⟩ := h
  exact ⟨es, clock, hb, hs, hk, hf⟩
theorem Ranging.left_eq {r : Nat} {left : Value → Bool} {cnt : Nat} (h : Ranging P k w b r f left cnt) : w.rangeLeft b r = cnt := by
  obtain ⟨es, clock, since, seen, c0, hb, _, _, _, hr, _, hc, _⟩ := h
  simp only [World.rangeLeft, hb, hr]
  exact hc
theorem Ranging.lt {r : Nat} {left : Value → Bool} {cnt : Nat} (h : Ranging P k w b r f left cnt) : r < w.heap.size := by
  obtain ⟨es, clock, since, seen, c0, _, _, _, _, hr, _⟩ := h
  exact (Array.getElem?_eq_some_iff.1 hr).1
theorem Ranging.ne {r : Nat} {left : Value → Bool} {cnt : Nat} (h : Ranging P k w b r f left cnt) : r ≠ b := by
  obtain ⟨es, clock, since, seen, c0, hb, _, _, _, hr, _⟩ := h
  intro e
  rw [e, hb] at hr
  cases hr
theorem Ranging.kept {w' : World} {r : Nat} {left : Value → Bool} {cnt : Nat} (h : Ranging P k w b r f left cnt) (hb' : w'.heap[b]? = w.heap[b]?) (hr' : w'.heap[r]? = w.heap[r]?) : Ranging P k w' b r f left cnt := by
  obtain ⟨es, clock, since, seen, c0, hb, hs, hk, hf, hr, rest⟩ := h
  exact ⟨es, clock, since, seen, c0, hb'.trans hb, hs, hk, hf, hr'.trans hr, rest⟩

theorem MapIs.range (h : MapIs P k w b f) {t e : TypeId} (ht : P.underlying t = some (.map k e)) :
    ∃ w' left cnt, (Instr.range t (.map (some b))).run P w = .ok (.pointer (some ⟨w.heap.size, 0, none⟩)) w' ∧ Ranging P k w' b w.heap.size f left cnt ∧ (∀ key v, f key = some v → left key = true) ∧ w.grownBy w' none ∧ w'.heap.size = w.heap.size + 1 := by
  have hlt := h.lt
  obtain ⟨es, clock, hb, hs, hk, hf⟩ := h
  refine ⟨_, fun _ => true, _, run_range_map w t k e b es clock ht hb, ⟨es, clock, clock, #[], clock, ((MapKept.heap_alloc w _).2 b hlt).trans hb, hs, hk, hf, (MapKept.heap_alloc w _).1, hs.1, rfl, ?_, Nat.le_refl _, Nat.le_refl _⟩, fun _ _ _ => rfl, World.grownBy_alloc w _ none, by simp⟩
  intro x _
  simp

theorem Ranging.next {r : Nat} {left : Value → Bool} {cnt : Nat} (h : Ranging P k w b r f left cnt) (ty : TypeId) :
    (cnt = 0 ∧ (∀ key v, f key = some v → left key = false) ∧ (Instr.next (.pointer (some ⟨r, 0, none⟩)) false ty).run P w = .ok (.tuple #[.bool false]) w) ∨
    ∃ key v w' cnt' left', f key = some v ∧ left key = true ∧ (Instr.next (.pointer (some ⟨r, 0, none⟩)) false ty).run P w = .ok (.tuple #[.bool true, key, v]) w' ∧
      (left' key = false ∧ ∀ x, x ≠ key → (∃ u, f x = some u) → left' x = left x) ∧ Ranging P k w' b r f left' cnt' ∧ cnt' < cnt ∧ w.grownBy w' (some r) ∧ w'.heap.size = w.heap.size ∧ (Instr.entry (.pointer (some ⟨r, 0, none⟩))).run P w' = .ok (.tuple #[key, v]) w' := by
  have hne := h.ne
  obtain ⟨es, clock, since, seen, c0, hb, hs, hk, hf, hr, hold, rfl, hl1, hsc, hsk⟩ := h
  have hst := (stamped_iff es clock).1 hs
  rcases run_next_at (P := P) w ty r b since c0 seen es clock hr hb hold hsc with ⟨h0, hrun⟩ | ⟨e, he, w1, hal, hrun⟩
  · refine Or.inl ⟨h0, fun key v hv => ?_, hrun⟩
    obtain ⟨x, hx, rfl, rfl⟩ := (hf _ _).1 hv
    rw [hl1 x hx, all_seen es seen h0 x hx]
    rfl
  · obtain ⟨hem, hes⟩ := mem_left he
    have hr1 : w1.heap[r]? = some (.mapIter (some b) since seen c0) := by rcases hal with rfl | rfl <;> exact hr
    have hb1 : w1.heap[b]? = some (.map es clock) := by rcases hal with rfl | rfl <;> exact hb
    have hset := MapKept.heap_set (o' := .mapIter (some b) since (seen.push e.born) clock) hr1
    have hb' : (setBlock w1 r (.mapIter (some b) since (seen.push e.born) clock)).heap[b]? = some (.map es clock) := (hset.2 b (fun e1 => hne e1.symm)).trans hb1
    refine Or.inr ⟨e.key, e.val, _, _, fun z => left z && !(open Classical in decide (z = e.key)), (hf _ _).2 ⟨e, hem, rfl, rfl⟩, by rw [hl1 e hem, hes]; rfl, hrun, ⟨by simp, fun x hx _ => by simp [hx]⟩,
      ⟨es, clock, since, seen.push e.born, clock, hb', hs, hk, hf, hset.1, hold, rfl, fun x hx => ?_, hsk, hsk⟩, left_shrinks es seen e he, ?_, ?_,
      run_entry_at _ r b since seen es clock e hset.1 hb' hem hst.2.1⟩
    · show (left x.key && !(open Classical in decide (x.key = e.key))) = _
      rw [hl1 x hx, contains_push]
      have hsame : (x.born == e.born) = (open Classical in decide (x.key = e.key)) := by
        by_cases hbe : x.born = e.born
        · obtain rfl := born_inj hst.2.1 hx hem hbe
          simp
        · have : x.key ≠ e.key := fun e1 => hbe (congrArg MapEntry.born (entry_eq_of_key hst.2.2 hx hem e1))
          simp [hbe, this]
      rw [hsame]
      cases seen.contains x.born <;> cases (open Classical in decide (x.key = e.key)) <;> rfl
    · rcases hal with rfl | rfl <;> exact ⟨rfl, rfl, rfl, by simp [setBlock], fun i _ hi => hset.2 i (fun e1 => hi (by rw [e1]))⟩
    · rcases hal with rfl | rfl <;> simp [setBlock]

/-- A clone of a map: a new block with the same entries. -/
theorem MapIs.entries (h : MapIs P k w b f) : ∃ es clock, w.heap[b]? = some (.map es clock) ∧ ∀ w' : World, ∀ c, w'.heap[c]? = some (.map es clock) → MapIs P k w' c f := by
  obtain ⟨es, clock, hb, rest⟩ := h
  exact ⟨es, clock, hb, fun w' c hc => ⟨es, clock, hc, rest⟩⟩
end
end Go.Proofs.YtejddacjncpneaaGreatDoor.Di

namespace Go.Proofs.YtejddacjncpneaaGreatDoor.Di
open Go.RowKit

/-- The slice v has n elements, the cells xs; it lies at the head of a block of its own if it has room for any. -/
def Own (w : World) (e size : Nat) (v : Value) (n : Nat) (xs : List Value) : Prop :=
  xs.length = n * size ∧ ((∃ a, v = .slice a 0 0 ∧ n = 0) ∨ ∃ g cap cur, v = .slice (some ⟨g, 0, none⟩) n cap ∧ w.heap[g]? = some (.cells cur e (0, 0)) ∧ n ≤ cap ∧ 0 < cap ∧ cap ≤ maxLen ∧ cur.size = cap * size ∧ cur.toList.take (n * size) = xs)

/-- The block that it may write. -/
def blk : Value → Option Nat
  | .slice (some a) _ (_ + 1) => some a.block
  | _ => none

section
variable {w : World} {e size : Nat} {v : Value} {n : Nat} {xs : List Value}

theorem Own.nil (w : World) (e size : Nat) : Own w e size (.slice none 0 0) 0 [] := ⟨by simp, .inl ⟨none, rfl, rfl⟩⟩
theorem blk_zero (a : Option Addr) (n : Nat) : blk (.slice a n 0) = none := by cases a <;> rfl
theorem blk_pos {g n cap : Nat} (h : 0 < cap) : blk (.slice (some ⟨g, 0, none⟩) n cap) = some g := by
  cases cap with
  | zero => omega
  | succ c => rfl

theorem Own.shape (h : Own w e size v n xs) : ∃ a cap, v = .slice a n cap ∧ n ≤ cap ∧ cap ≤ maxLen := by
  rcases h.2 with ⟨a, rfl, rfl⟩ | ⟨g, cap, cur, rfl, _, h1, _, h2, _⟩
  · exact ⟨a, 0, rfl, Nat.le_refl _, Nat.zero_le _⟩
  · exact ⟨_, cap, rfl, h1, h2⟩
theorem Own.len (h : Own w e size v n xs) : n ≤ maxLen := by
  obtain ⟨a, cap, _, h1, h2⟩ := h.shape
  omega
theorem Own.lt (h : Own w e size v n xs) : ∀ b, blk v = some b → b < w.heap.size := by
  intro b hb
  rcases h.2 with ⟨a, rfl, rfl⟩ | ⟨g, cap, cur, rfl, hg, _, hc, _⟩
  · rw [blk_zero] at hb; cases hb
  · rw [blk_pos hc] at hb
    cases hb
    exact (Array.getElem?_eq_some_iff.1 hg).1
theorem Own.kept {w' : World} (h : Own w e size v n xs) (hg : ∀ b, blk v = some b → w'.heap[b]? = w.heap[b]?) : Own w' e size v n xs := by
  refine ⟨h.1, ?_⟩
  rcases h.2 with hn | ⟨g, cap, cur, rfl, hgg, h1, h2, rest⟩
  · exact .inl hn
  · exact .inr ⟨g, cap, cur, rfl, (hg g (blk_pos h2)).trans hgg, h1, h2, rest⟩
theorem Own.grown {w' : World} {row : Option Nat} (h : Own w e size v n xs) (hg : w.grownBy w' row) (hne : blk v = none ∨ blk v ≠ row) : Own w' e size v n xs :=
  h.kept fun b hb => hg.block b (h.lt b hb) (fun e => by
    rcases hne with h1 | h1
    · rw [h1] at hb; cases hb
    · exact h1 (by rw [hb, e]))
/-- What the elements are, for whatever reads them. -/
theorem Own.src {P : Program} {tx e' : TypeId} (h : Own w e size v n xs) (hk : P.underlying tx = some (.slice e')) (h1 : ∀ u ∈ xs, u.oneCell' = true) : Src P size tx v n xs w := by
  rcases h.2 with ⟨a, rfl, rfl⟩ | ⟨g, cap, cur, rfl, hgg, hn, hc, hm, hcs, ht⟩
  · have : xs = [] := List.eq_nil_of_length_eq_zero (by simpa using h.1)
    subst this
    cases a with
    | none => exact Src.ofNil w hk 0
    | some a => exact Src.ofSlice w hk a 0 0 [] (by simp) (by simp) (by simp)
  · refine Src.ofSlice w hk _ n cap xs h.1 (fun j u hu => ?_) h1
    have hadd : (⟨g, 0, none⟩ : Addr).add j = ⟨g, j, none⟩ := by unfold Addr.add; split <;> simp_all
    rw [hadd, cell_of_row w g j cur e (0, 0) hgg]
    rw [← ht, List.getElem?_take] at hu
    split at hu
    · simpa using hu
    · cases hu
theorem Own.cell {a : Option Addr} {cap : Nat} (h : Own w e size (.slice a n cap) n xs) {j : Nat} {u : Value} (hu : xs[j]? = some u) : ∃ g, a = some ⟨g, 0, none⟩ ∧ w.cell? ⟨g, j, none⟩ = some u := by
  rcases h.2 with ⟨a', hv, rfl⟩ | ⟨g, cap', cur, hv, hgg, hn, hc, hm, hcs, ht⟩
  · have : xs = [] := List.eq_nil_of_length_eq_zero (by simpa using h.1)
    subst this
    cases hu
  · simp at hv
    obtain ⟨rfl, rfl⟩ := hv
    refine ⟨g, rfl, ?_⟩
    rw [cell_of_row w g j cur e (0, 0) hgg]
    rw [← ht, List.getElem?_take] at hu
    split at hu
    · simpa using hu
    · cases hu

/-- v[:m]. -/
theorem Own.take {a : Option Addr} {cap m : Nat} (h : Own w e size (.slice a n cap) n xs) (hm : m ≤ n) : Own w e size (.slice a m cap) m (xs.take (m * size)) := by
  have hmn : m * size ≤ n * size := Nat.mul_le_mul_right _ hm
  refine ⟨by rw [List.length_take, h.1]; omega, ?_⟩
  rcases h.2 with ⟨a', hv, rfl⟩ | ⟨g, cap', cur, hv, hgg, hn, hc, hm', hcs, ht⟩
  · simp at hv
    obtain ⟨rfl, rfl⟩ := hv
    obtain rfl : m = 0 := by omega
    exact .inl ⟨_, rfl, rfl⟩
  · simp at hv
    obtain ⟨rfl, rfl⟩ := hv
    refine .inr ⟨g, cap, cur, rfl, hgg, by omega, hc, hm', hcs, ?_⟩
    rw [← ht, List.take_take]
    congr 1
    omega

section
variable {P : Program}
/-- append, whatever is appended. -/
theorem own_append {t tx ty : TypeId} {i : TypeInfo} {z x : Value} {m bytes : Nat} {news : List Value} (ht : P.underlying t = some (.slice e)) (hi : P.info? e = some i) (hz : i.zero = some z)
    (hsize : i.size = size) (hby : i.bytes = bytes) (hzs : z.cells.size = size) (h : Own w e size v n xs) (hs : Src P size tx x m news w) (h63 : n + m ≤ maxLen) (hbytes : (n + m) * bytes ≤ 140737488355328) :
    ∃ v' w', (Builtin.append_ #[t, tx] ty #[v, x]).run P w = .ok v' w' ∧ Own w' e size v' (n + m) (xs ++ news) ∧ w.grownBy w' (blk v) ∧ (blk v' = none ∨ blk v' = blk v ∨ blk v' = some w.heap.size) := by
  subst hsize
  subst hby
  have hsmall : n + m ≤ 9223372036854775807 := by simp only [maxLen] at h63; omega
  have hlen : (xs ++ news).length = (n + m) * i.size := by rw [List.length_append, h.1, hs.newsLen, Nat.add_mul]
  have grown : ∀ (old : Nat), old < n + m → ∀ (row : Option Nat),
      Own (w.drew.alloc (.cells ((xs ++ news).toArray ++ Builtin.zeroCells z.cells (grownCap w (n + m) old e - (n + m))) e)) e i.size (.slice (some ⟨w.heap.size, 0, none⟩) (n + m) (grownCap w (n + m) old e)) (n + m) (xs ++ news) ∧
      w.grownBy (w.drew.alloc (.cells ((xs ++ news).toArray ++ Builtin.zeroCells z.cells (grownCap w (n + m) old e - (n + m))) e)) row ∧ blk (.slice (some ⟨w.heap.size, 0, none⟩) (n + m) (grownCap w (n + m) old e)) = some w.heap.size := by
    intro old ho row
    have hge := grownCap_ge w (n + m) old e
    have hcm : grownCap w (n + m) old e ≤ maxLen := grownCap_le_maxLen w (n + m) old e h63
    refine ⟨⟨hlen, .inr ⟨w.heap.size, _, _, rfl, heap_alloc_new w.drew _, hge, by omega, hcm, ?_, ?_⟩⟩, ⟨rfl, rfl, rfl, by simp, fun k hk _ => heap_alloc_old w.drew _ k hk⟩, blk_pos (by omega)⟩
    · simp only [Array.size_append, List.size_toArray, size_zeroCells, hzs, hlen, ← Nat.add_mul]
      congr 1
      omega
    · simp only [Array.toList_append]
      rw [← hlen]
      exact List.take_left
  rcases h.2 with ⟨a, rfl, rfl⟩ | ⟨g, cap, cur, rfl, hg, hnc, hc0, hcm, hcs, htake⟩
  · have hx : xs = [] := List.eq_nil_of_length_eq_zero (by simpa using h.1)
    subst hx
    by_cases hm : m = 0
    · subst hm
      have hn : news = [] := List.eq_nil_of_length_eq_zero (by simpa using hs.newsLen)
      subst hn
      refine ⟨.slice a 0 0, w, ?_, ⟨by simp, .inl ⟨a, rfl, rfl⟩⟩, ⟨rfl, rfl, rfl, Nat.le_refl _, fun _ _ _ => rfl⟩, .inl (blk_zero _ _)⟩
      rcases hs.kind with ⟨e', hk⟩ | hk <;> cases a <;> simp [Builtin.append_, run_underlying ht, run_underlying hk, sizeOf, typeInfo, hi, hs.len, hs.cells, storeCells]
    · have hold : (Builtin.firstCells i.size 0 (.slice a 0 0)).run P w.drew = .ok ([] : List Value).toArray w.drew := by
        cases a <;> simp [Builtin.firstCells, loadCells, loadCellsFrom]
      have hr := run_append_grow_src w t tx ty e i z ht hi hz a 0 0 [] hold x m news hs (by omega) (by omega) (growslice_fits (by omega) (by simpa using hbytes))
      have hgr := grown 0 (by omega) (blk (.slice a 0 0))
      simp only [Nat.zero_add, List.nil_append] at hgr hr ⊢
      exact ⟨_, _, hr, hgr.1, hgr.2.1, .inr (.inr hgr.2.2)⟩
  · by_cases hroom : n + m ≤ cap
    · have hfit : n * i.size + news.length ≤ cur.size := by rw [hs.newsLen, hcs, ← Nat.add_mul]; exact Nat.mul_le_mul_right _ hroom
      have hst := run_storeCells_at P g (n * i.size) e news 0 cur w hg (by simpa using hfit) hs.one
      simp only [Nat.add_zero] at hst
      refine ⟨.slice (some ⟨g, 0, none⟩) (n + m) cap, w.setRow g (cur.toList.take (n * i.size) ++ news ++ cur.toList.drop (n * i.size + news.length)).toArray, ?_, ⟨hlen, .inr ⟨g, cap, _, rfl, setRow_heap w g cur _ e _ hg, hroom, hc0, hcm, ?_, ?_⟩⟩,
        ⟨rfl, rfl, rfl, by simp, fun k _ hk => setRow_other w g k _ (fun e => hk (by rw [blk_pos hc0, e]))⟩, .inr (.inl (by rw [blk_pos hc0, blk_pos hc0]))⟩
      · rcases hs.kind with ⟨e', hk⟩ | hk <;> simp [Builtin.append_, run_underlying ht, run_underlying hk, sizeOf, typeInfo, hi, hs.len, hroom, hs.cells, Addr.add_lit, hst]
      · simp only [List.size_toArray, List.length_append, List.length_take, List.length_drop, Array.length_toList]
        omega
      · rw [htake, ← hlen]
        exact List.take_left
    · have hold : (Builtin.firstCells i.size n (.slice (some ⟨g, 0, none⟩) n cap)).run P w.drew = .ok xs.toArray w.drew := by
        refine run_firstCells_some w.drew i.size n ⟨g, 0, none⟩ n cap xs h.1 (fun j u hu => ?_)
        have hadd : (⟨g, 0, none⟩ : Addr).add j = ⟨g, j, none⟩ := by unfold Addr.add; split <;> simp_all
        rw [hadd]
        show w.cell? _ = _
        rw [cell_of_row w g j cur e (0, 0) hg]
        rw [← htake, List.getElem?_take] at hu
        split at hu
        · simpa using hu
        · cases hu
      have hr := run_append_grow_src w t tx ty e i z ht hi hz (some ⟨g, 0, none⟩) n cap xs hold x m news hs (by omega) (by omega) (growslice_fits (by omega) hbytes)
      have hgr := grown cap (by omega) (blk (.slice (some ⟨g, 0, none⟩) n cap))
      exact ⟨_, _, hr, hgr.1, hgr.2.1, .inr (.inr hgr.2.2)⟩

/-- append(b, make([]T, m)...), m at least one. -/
theorem own_zeros {t tn ty : TypeId} {i : TypeInfo} {z : Value} {kn kq : IntKind} {m bytes : Nat} (ht : P.underlying t = some (.slice e)) (htn : P.underlying tn = some (.int kn)) (hi : P.info? e = some i) (hz : i.zero = some z)
    (hsize : i.size = 1) (hby : i.bytes = bytes) (hz1 : z.cells = #[z]) (hzo : z.oneCell' = true) (h : Own w e 1 v n xs) (h0 : 0 < m) (h63 : n + m ≤ maxLen) (hbytes : (n + m) * bytes ≤ 140737488355328) :
    ∃ v' w', (Builtin.append_ #[t, tn] ty #[v, .int kq m]).run P w = .ok v' w' ∧ Own w' e 1 v' (n + m) (xs ++ List.replicate m z) ∧ w.grownBy w' (blk v) ∧ (blk v' = blk v ∨ blk v' = some w.heap.size) := by
  subst hby
  have hmm : m ≠ 0 := by omega
  have hlen : (xs ++ List.replicate m z).length = (n + m) * 1 := by rw [List.length_append, h.1, List.length_replicate]; omega
  have hzc : ∀ c, Builtin.zeroCells #[z] c = (List.replicate c z).toArray := by
    intro c
    apply Array.ext'
    simp [Builtin.zeroCells]
    apply List.ext_getElem
    · simp
    · intro j h1 h2
      simp [Nat.mod_one]
  have hzs : z.cells.size = 1 := by rw [hz1]; rfl
  have fin : ∀ (old : Nat) (olds : List Value), olds = xs → old < n + m → ∀ (row : Option Nat),
      Own (w.drew.alloc (.cells (olds.toArray ++ Builtin.zeroCells z.cells m ++ Builtin.zeroCells z.cells (grownCap w (n + m) old e - (n + m))) e)) e 1 (.slice (some ⟨w.heap.size, 0, none⟩) (n + m) (grownCap w (n + m) old e)) (n + m) (xs ++ List.replicate m z) ∧
      w.grownBy (w.drew.alloc (.cells (olds.toArray ++ Builtin.zeroCells z.cells m ++ Builtin.zeroCells z.cells (grownCap w (n + m) old e - (n + m))) e)) row ∧ blk (.slice (some ⟨w.heap.size, 0, none⟩) (n + m) (grownCap w (n + m) old e)) = some w.heap.size := by
    rintro old olds rfl ho row
    have hge := grownCap_ge w (n + m) old e
    have hcm : grownCap w (n + m) old e ≤ maxLen := grownCap_le_maxLen w (n + m) old e h63
    refine ⟨⟨hlen, .inr ⟨w.heap.size, _, _, rfl, heap_alloc_new w.drew _, hge, by omega, hcm, ?_, ?_⟩⟩, ⟨rfl, rfl, rfl, by simp, fun k hk _ => heap_alloc_old w.drew _ k hk⟩, blk_pos (by omega)⟩
    · simp only [Array.size_append, List.size_toArray, size_zeroCells, hzs, h.1]
      omega
    · rw [hz1]
      simp only [Array.toList_append, hzc]
      rw [← hlen]
      exact List.take_left
  have hw : IntKind.i64.wrap (m : Int) = m := by rw [IntKind.wrap_i64]; simp only [maxLen] at h63; omega
  rcases h.2 with ⟨a, rfl, rfl⟩ | ⟨g, cap, cur, rfl, hg, hnc, hc0, hcm, hcs, htake⟩
  · have hx : xs = [] := List.eq_nil_of_length_eq_zero (by simpa using h.1)
    have hold : (Builtin.firstCells i.size 0 (.slice a 0 0)).run P w.drew = .ok ([] : List Value).toArray w.drew := by
      cases a <;> simp [Builtin.firstCells, loadCells, loadCellsFrom]
    have hr := Lib.run_append_grow_zeros w t tn ty e i z kq kn ht htn hi hz a 0 0 [] hold m h0 (by omega) (by omega) (by simp only [maxLen] at h63; omega) (by simp at hbytes; omega) (growslice_fits (by omega) (by simpa using hbytes))
    have hgr := fin 0 [] hx.symm (by omega) (blk (.slice a 0 0))
    simp only [Nat.zero_add] at hgr hr ⊢
    exact ⟨_, _, hr, hgr.1, hgr.2.1, .inr hgr.2.2⟩
  · by_cases hroom : n + m ≤ cap
    · have hst := run_storeCells_at P g n e (List.replicate m z) 0 cur w hg (by rw [List.length_replicate, hcs]; omega) (fun u hu => by rw [List.mem_replicate] at hu; rw [hu.2]; exact hzo)
      simp only [Nat.add_zero, List.length_replicate] at hst
      have hneg : ¬ ((m : Int) < 0) := by omega
      have h48i : ¬ (281474976710656 < (m : Int) * (i.bytes : Int)) := by
        rw [← Int.natCast_mul]
        have : m * i.bytes ≤ (n + m) * i.bytes := Nat.mul_le_mul_right _ (by omega)
        omega
      refine ⟨.slice (some ⟨g, 0, none⟩) (n + m) cap, w.setRow g (cur.toList.take n ++ List.replicate m z ++ cur.toList.drop (n + m)).toArray, ?_, ⟨hlen, .inr ⟨g, cap, _, rfl, setRow_heap w g cur _ e _ hg, hroom, hc0, hcm, ?_, ?_⟩⟩,
        ⟨rfl, rfl, rfl, by simp, fun k _ hk => setRow_other w g k _ (fun e => hk (by rw [blk_pos hc0, e]))⟩, .inl (by rw [blk_pos hc0, blk_pos hc0])⟩
      · simp [Builtin.append_, run_underlying ht, run_underlying htn, sizeOf, typeInfo, zeroValue, hi, hz, asInt, asIntOf, hw, hneg, hsize, hmm, h48i, hroom, hz1, hzc, Addr.add_lit, hst]
      · simp only [List.size_toArray, List.length_append, List.length_take, List.length_drop, Array.length_toList, List.length_replicate]
        omega
      · simp only [Nat.mul_one] at htake ⊢
        have h2 : (xs ++ List.replicate m z).length = n + m := by simpa using hlen
        rw [htake, ← h2]
        exact List.take_left
    · have hold : (Builtin.firstCells i.size n (.slice (some ⟨g, 0, none⟩) n cap)).run P w.drew = .ok xs.toArray w.drew := by
        rw [hsize]
        refine run_firstCells_some w.drew 1 n ⟨g, 0, none⟩ n cap xs h.1 (fun j u hu => ?_)
        have hadd : (⟨g, 0, none⟩ : Addr).add j = ⟨g, j, none⟩ := by unfold Addr.add; split <;> simp_all
        rw [hadd]
        show w.cell? _ = _
        rw [cell_of_row w g j cur e (0, 0) hg]
        rw [← htake, List.getElem?_take] at hu
        split at hu
        · simpa using hu
        · cases hu
      have hr := Lib.run_append_grow_zeros w t tn ty e i z kq kn ht htn hi hz (some ⟨g, 0, none⟩) n cap xs hold m h0 (by omega) (by omega) (by simp only [maxLen] at h63; omega)
        (by have : m * i.bytes ≤ (n + m) * i.bytes := Nat.mul_le_mul_right _ (by omega)
            omega) (growslice_fits (by omega) hbytes)
      have hgr := fin cap xs rfl (by omega) (blk (.slice (some ⟨g, 0, none⟩) n cap))
      exact ⟨_, _, hr, hgr.1, hgr.2.1, .inr hgr.2.2⟩

/-- copy(b[k:], s) of a string that fits. -/
theorem own_copyS {t ts ty : TypeId} {a : Option Addr} {cap k : Nat} {s : ByteArray} (ht : P.underlying t = some (.slice e)) (hs : (P.info? e).map (·.size) = some 1) (h : Own w e 1 (.slice a n cap) n xs) (h0 : 0 < s.size) (hk : k + s.size ≤ n) :
    ∃ w', (Builtin.copy_ #[t, ts] ty #[.slice (if cap = k then a else a.map (·.add (k * 1))) (n - k) (cap - k), .string s]).run P w = .ok (goInt s.size) w' ∧ Own w' e 1 (.slice a n cap) n (xs.take k ++ Lib.byteCells s.data.toList ++ xs.drop (k + s.size)) ∧ w.grownBy w' (blk (.slice a n cap)) ∧ w'.heap.size = w.heap.size := by
  rcases h.2 with ⟨a', hv, rfl⟩ | ⟨g, cap', cur, hv, hg, hnc, hc0, hcm, hcs, htake⟩
  · omega
  · simp at hv
    obtain ⟨rfl, rfl⟩ := hv
    have hck : cap ≠ k := by omega
    have hadd : (⟨g, 0, none⟩ : Addr).add (k * 1) = ⟨g, k, none⟩ := by unfold Addr.add; split <;> simp_all
    rw [if_neg hck]
    simp only [Option.map_some, hadd]
    have hbl : (Lib.byteCells s.data.toList).length = s.size := by rw [Lib.byteCells_length, ← Lib.size_eq]
    refine ⟨_, Lib.run_copy_row_string w t ts ty e g k (n - k) (cap - k) s cur e ht hs hg (by omega) (by omega), ⟨?_, .inr ⟨g, cap, _, rfl, setRow_heap w g cur _ e _ hg, hnc, hc0, hcm, ?_, ?_⟩⟩,
        ⟨rfl, rfl, rfl, by simp, fun j _ hj => setRow_other w g j _ (fun e => hj (by rw [blk_pos hc0, e]))⟩, by simp⟩
    · have := h.1
      simp only [List.length_append, List.length_take, List.length_drop, hbl]
      omega
    · simp only [List.size_toArray, List.length_append, List.length_take, List.length_drop, Array.length_toList, hbl]
      omega
    · have e1 : (cur.toList.take n) = xs := by simpa using htake
      have hcl : cur.toList.length = cap := by simpa using hcs
      have hA : (cur.toList.take k).length = k := by rw [List.length_take]; omega
      have hAB : (cur.toList.take k ++ Lib.byteCells s.data.toList).length = k + s.size := by rw [List.length_append, hA, hbl]
      show List.take (n * 1) (cur.toList.take k ++ Lib.byteCells s.data.toList ++ cur.toList.drop (k + s.size)) = _
      rw [Nat.mul_one, List.take_append, hAB, List.take_of_length_le (by omega : (cur.toList.take k ++ Lib.byteCells s.data.toList).length ≤ n), ← e1, List.take_take, Nat.min_eq_left (by omega : k ≤ n), List.drop_take]

/-- string(b). -/
theorem own_string {ts tb td : TypeId} {a : Option Addr} {cap : Nat} {l : List UInt8} (ht : P.underlying tb = some (.slice ts)) (he : P.underlying ts = some (.int .u8)) (hd : P.underlying td = some .string) (h : Own w e 1 (.slice a n cap) n (Lib.byteCells l)) (k m : Nat) (c : Nat) (hkm : k + m ≤ n) :
    (convert tb td (.slice (if cap = k then a else a.map (·.add (k * 1))) m c)).run P w = .ok (.string ⟨((l.drop k).take m).toArray⟩) w := by
  have hl : l.length = n := by have := h.1; rw [Lib.byteCells_length] at this; omega
  have hlm : ((l.drop k).take m).length = m := by rw [List.length_take, List.length_drop]; omega
  rcases h.2 with ⟨a', hv, rfl⟩ | ⟨g, cap', cur, hv, hg, hnc, hc0, hcm, hcs, htake⟩
  · simp at hv
    obtain ⟨rfl, rfl⟩ := hv
    obtain rfl : m = 0 := by omega
    obtain rfl : k = 0 := by omega
    simp only [if_true]
    cases a with
    | none =>
      rw [run_convert_bytes_string w tb td ts none 0 c ht he hd]
      simp [Conv.bytesToString]
      rfl
    | some a => simpa using run_convert_bytes_back w tb td ts a c [] ht he hd (by simp)
  · simp at hv
    obtain ⟨rfl, rfl⟩ := hv
    have hcell : ∀ j (hj : j < l.length), w.cell? ⟨g, j, none⟩ = some (.int .u8 (l[j].toNat : Int)) := by
      intro j hj
      rw [cell_of_row w g j cur e (0, 0) hg]
      have : (cur.toList.take (n * 1))[j]? = some (.int .u8 (l[j].toNat : Int)) := by
        rw [htake]
        simp [Lib.byteCells, List.getElem?_eq_getElem hj]
      rw [List.getElem?_take] at this
      split at this
      · simpa using this
      · cases this
    have hmain : ∀ ad : Addr, (∀ j, ad.add j = ⟨g, k + j, none⟩) → (convert tb td (.slice (some ad) m c)).run P w = .ok (.string ⟨((l.drop k).take m).toArray⟩) w := by
      intro ad had
      have := run_convert_bytes_back w tb td ts ad c ((l.drop k).take m) ht he hd (fun j hj => by
        rw [had j, hcell (k + j) (by omega)]
        simp)
      rw [hlm] at this
      exact this
    by_cases hck : cap = k
    · rw [if_pos hck]
      by_cases hk0 : k = 0
      · omega
      · obtain rfl : m = 0 := by omega
        simpa using run_convert_bytes_back w tb td ts ⟨g, 0, none⟩ c [] ht he hd (by simp)
    · rw [if_neg hck]
      refine hmain _ (fun j => ?_)
      unfold Addr.add
      by_cases h1 : k = 0 <;> by_cases h2 : j = 0 <;> simp [h1, h2]
end
end
end Go.Proofs.YtejddacjncpneaaGreatDoor.Di

namespace Go.Proofs.YtejddacjncpneaaGreatDoor.Di
open Go.RowKit

theorem infoB : (Tryz.prog.info? 5).map (fun i => (i.zero, i.size, i.bytes)) = some (some (.int .u8 0), 1, 1) := by kernel_rfl
theorem infoI : (Tryz.prog.info? 3).map (fun i => (i.zero, i.size, i.bytes)) = some (some (.int .i64 0), 1, 8) := by kernel_rfl
theorem infoS : (Tryz.prog.info? 76).map (fun i => (i.zero, i.size, i.bytes)) = some (some (.agg #[.int .i64 0, .int .i64 0]), 2, 16) := by kernel_rfl
theorem zero62 (w : World) : (zeroValue 78).run Tryz.prog w = .ok (.slice none 0 0) w := by kernel_rfl
theorem zero4 (w : World) : (zeroValue 4).run Tryz.prog w = .ok (.bool false) w := by kernel_rfl

theorem isFile_t (f : Int) (h : isF f = true) (w : World) : Calls Tryz.prog 50 #[.int .i64 f] w fun e w' => e = .returned (.bool true) ∧ w = w' := by
  obtain ⟨h1, h2⟩ := isF_t.1 h
  clear h
  go_enter Tryz.func50, Tryz.ntmps50
  go_wp2
  go_ret
  exact ⟨rfl, rfl⟩
theorem isFile_f (f : Int) (h : isF f = false) (w : World) : Calls Tryz.prog 50 #[.int .i64 f] w fun e w' => e = .returned (.bool false) ∧ w = w' := by
  rcases isF_f.1 h with h1 | h1
  · clear h
    have hd : decide (0 ≤ f) = false := by simp; omega
    go_enter Tryz.func50, Tryz.ntmps50
    go_wp2
    go_ret
    exact ⟨rfl, rfl⟩
  · clear h
    have h0 : 0 ≤ f := by omega
    have hd : decide (f < 16) = false := by simp; omega
    go_enter Tryz.func50, Tryz.ntmps50
    go_wp2
    go_ret
    exact ⟨rfl, rfl⟩

/-- The slice v reads as the ints ks. -/
def Ints (w : World) (v : Value) (ks : List Int) : Prop :=
  ∃ a cap, v = .slice a ks.length cap ∧ ks.length ≤ cap ∧ (ks = [] ∨ ∃ b o, a = some ⟨b, o, none⟩ ∧ ∀ i (h : i < ks.length), w.cell? ⟨b, o + i, none⟩ = some (.int .i64 ks[i]))
/-- The block that is read. -/
def Ints.off (v : Value) (b : Nat) : Prop := ∃ o n c, v = .slice (some ⟨b, o, none⟩) (n + 1) c

theorem survives_nil (a : Option Addr) (c : Nat) (i : Nat) (w : World) : Calls Tryz.prog 44 #[.int .i64 i, .slice a 0 c] w fun e w' => e = .returned (.bool (surv i [])) ∧ w = w' := by
  go_enter Tryz.func44, Tryz.ntmps44
  go_wp2
  go_ret
  exact ⟨rfl, rfl⟩
theorem survives_any (b o : Nat) (ks : List Int) (c : Nat) (i : Nat) (hi : i ≤ 1000000000) (hk : ks.length ≤ 1000000000) (h0 : 0 < ks.length) (w : World)
    (hr : ∀ x ∈ ks, -9223372036854775808 ≤ x ∧ x ≤ 9223372036854775807)
    (h : ∀ i (h : i < ks.length), w.cell? ⟨b, o + i, none⟩ = some (.int .i64 ks[i])) : Calls Tryz.prog 44 #[.int .i64 i, .slice (some ⟨b, o, none⟩) ks.length c] w fun e w' => e = .returned (.bool (surv i ks)) ∧ w = w' := by
  have hm : i % ks.length < ks.length := Nat.mod_lt _ h0
  have hc := h _ hm
  have hx := hr _ (List.getElem_mem hm)
  have hs : surv i ks = !decide ((ks[i % ks.length]).tmod 2 = 0) := by
    unfold surv
    rw [List.getD_eq_getElem?_getD, List.getElem?_eq_getElem hm]
    simp [h0]
  obtain ⟨y, hy⟩ : ∃ y, ks[i % ks.length] = y := ⟨_, rfl⟩
  rw [hy] at hc hx hs
  have HS := Lib.hid hs
  clear h hr hs hy
  obtain ⟨n, hn⟩ : ∃ n, ks.length = n := ⟨_, rfl⟩
  rw [hn] at hk h0 hm hc ⊢
  clear hn
  go_enter Tryz.func44, Tryz.ntmps44
  go_wp2
  go_ret
  rw [HS.out]
  exact ⟨rfl, rfl⟩

theorem eqNilS {P : Program} (t e : TypeId) (a : Option Addr) (l c : Nat) (h : P.underlying t = some (.slice e)) (w : World) : (binOp .eql t (.slice a l c) (.slice none 0 0)).run P w = .ok (.bool a.isNone) w := by
  simp only [binOp]
  simp [run_equal_slice_nil w t e a l c h]

theorem clone58 (a : Option Addr) (n c : Nat) (xs : List Value) (w : World) (hn : n ≤ 1000000000) (ha : a = none → n = 0) (hs : Src Tryz.prog 1 78 (.slice a n c) n xs (w.alloc (.cells #[] 5))) :
    Calls Tryz.prog 74 #[.slice a n c] w fun e w' => ∃ v', e = .returned v' ∧ Own w' 5 1 v' n xs ∧ w.grownBy w' none ∧ ∀ g, blk v' = some g → w.heap.size ≤ g := by
  obtain ⟨i0, hi, hz0, hz1, hz2⟩ := info_parts infoB
  cases a with
  | none =>
    obtain rfl := ha rfl
    obtain rfl : xs = [] := List.eq_nil_of_length_eq_zero (by simpa using hs.newsLen)
    clear hs ha
    have hq := eqNilS (P := Tryz.prog) 78 5 none 0 c Tryz.underlying78
    go_enter Tryz.func74, Tryz.ntmps74
    go_wp2
    go_ret
    exact ⟨_, rfl, Own.nil _ _ _, ⟨rfl, rfl, rfl, Nat.le_refl _, fun _ _ _ => rfl⟩, fun g hg => by cases hg⟩
  | some a =>
    clear ha
    have hown : Own (w.alloc (.cells #[] 5)) 5 1 (.slice (some ⟨w.heap.size, 0, none⟩) 0 0) 0 [] := ⟨by simp, .inl ⟨_, rfl, rfl⟩⟩
    obtain ⟨v', w', hrun, hown', hgr, hbl⟩ := own_append (P := Tryz.prog) (t := 78) (tx := 78) (ty := 78) Tryz.underlying78 hi hz0 hz1 hz2 rfl hown hs (by unfold maxLen; omega) (by omega)
    simp only [Nat.zero_add, List.nil_append] at hown'
    have hfin : w.grownBy w' none ∧ ∀ g, blk v' = some g → w.heap.size ≤ g := by
      refine ⟨(World.grownBy_alloc w _ none).trans hgr, fun g hg => ?_⟩
      rcases hbl with h | h | h
      · rw [h] at hg; cases hg
      · rw [h] at hg; cases hg
      · rw [h] at hg; cases hg; simp
    have HF := Lib.hid hfin
    have HO := Lib.hid hown'
    clear hs hown hown' hgr hbl hfin
    have hq := eqNilS (P := Tryz.prog) 78 5 (some a) n c Tryz.underlying78
    go_enter Tryz.func74, Tryz.ntmps74
    go_wp2_with (at_builtin; refine Lib.wpList_append_run _ rfl _ _ _ _ rfl _ _ rfl rfl _ _ hrun ?_)
    go_ret
    exact ⟨_, rfl, HO.out, HF.out⟩

theorem clone43 (a : Option Addr) (n c : Nat) (xs : List Value) (w : World) (hn : n ≤ 1000000000) (ha : a = none → n = 0) (hs : Src Tryz.prog 1 36 (.slice a n c) n xs (w.alloc (.cells #[] 3))) :
    Calls Tryz.prog 43 #[.slice a n c] w fun e w' => ∃ v', e = .returned v' ∧ Own w' 3 1 v' n xs ∧ w.grownBy w' none ∧ ∀ g, blk v' = some g → w.heap.size ≤ g := by
  obtain ⟨i0, hi, hz0, hz1, hz2⟩ := info_parts infoI
  cases a with
  | none =>
    obtain rfl := ha rfl
    obtain rfl : xs = [] := List.eq_nil_of_length_eq_zero (by simpa using hs.newsLen)
    clear hs ha
    have hq := eqNilS (P := Tryz.prog) 36 3 none 0 c Tryz.underlying36
    go_enter Tryz.func43, Tryz.ntmps43
    go_wp2
    go_ret
    exact ⟨_, rfl, Own.nil _ _ _, ⟨rfl, rfl, rfl, Nat.le_refl _, fun _ _ _ => rfl⟩, fun g hg => by cases hg⟩
  | some a =>
    clear ha
    have hown : Own (w.alloc (.cells #[] 3)) 3 1 (.slice (some ⟨w.heap.size, 0, none⟩) 0 0) 0 [] := ⟨by simp, .inl ⟨_, rfl, rfl⟩⟩
    obtain ⟨v', w', hrun, hown', hgr, hbl⟩ := own_append (P := Tryz.prog) (t := 36) (tx := 36) (ty := 36) Tryz.underlying36 hi hz0 hz1 hz2 rfl hown hs (by unfold maxLen; omega) (by omega)
    simp only [Nat.zero_add, List.nil_append] at hown'
    have hfin : w.grownBy w' none ∧ ∀ g, blk v' = some g → w.heap.size ≤ g := by
      refine ⟨(World.grownBy_alloc w _ none).trans hgr, fun g hg => ?_⟩
      rcases hbl with h | h | h
      · rw [h] at hg; cases hg
      · rw [h] at hg; cases hg
      · rw [h] at hg; cases hg; simp
    have HF := Lib.hid hfin
    have HO := Lib.hid hown'
    clear hs hown hown' hgr hbl hfin
    have hq := eqNilS (P := Tryz.prog) 36 3 (some a) n c Tryz.underlying36
    go_enter Tryz.func43, Tryz.ntmps43
    go_wp2_with (at_builtin; refine Lib.wpList_append_run _ rfl _ _ _ _ rfl _ _ rfl rfl _ _ hrun ?_)
    go_ret
    exact ⟨_, rfl, HO.out, HF.out⟩

end Go.Proofs.YtejddacjncpneaaGreatDoor.Di

namespace Go.Proofs.YtejddacjncpneaaGreatDoor.Di
open Go.RowKit

/-- The slice v holds the bytes l. -/
def OwnB (w : World) (v : Value) (l : List UInt8) : Prop := Own w 5 1 v l.length (Lib.byteCells l)

theorem wpList_copy_run {P : Program} (w : World) {ops : Array Oper} {rest : List Oper} {o : Oper} {a : Act} {Q : Exit → Act → World → Prop} (hgd : o.guard = none) (s x : Operand) (t tn : TypeId)
    (ho : o.op = .call { callee := .builtin .copy, args := #[s, x], argTypes := #[t, tn] }) (vs vx : Value) (hs : a.eval s = vs) (hx : a.eval x = vx)
    (v' : Value) (w' : World) (hr : (Builtin.copy_ #[t, tn] o.type #[vs, vx]).run P w = .ok v' w') (h : wpList P ops Q rest (a.put o.dst v') w') : wpList P ops Q (o :: rest) a w := by
  refine wpList_plain hgd fun _ hK => ?_
  unfold Oper.wp execOp
  simp only [ho, resolve, invoke, builtin, Sem.run_bind, Sem.run_pure, Result.andThen_ok, List.map_toArray, List.map_cons, List.map_nil, hs, hx, hr]
  exact hK _ _ h

theorem bytes_put (l : List UInt8) (k : Nat) (s : List UInt8) (h : k + s.length ≤ l.length) :
    (Lib.byteCells l).take k ++ Lib.byteCells s ++ (Lib.byteCells l).drop (k + s.length) = Lib.byteCells (putL l k s) := by
  unfold putL Lib.byteCells
  have e : List.take k (l ++ List.replicate (k + s.length - l.length) 0) = l.take k := by
    rw [show k + s.length - l.length = 0 by omega]; simp
  rw [e]
  simp [List.map_take, List.map_drop]
theorem putL_zeros (l : List UInt8) (k : Nat) (s : List UInt8) (h : l.length < k + s.length) : putL (l ++ List.replicate (k + s.length - l.length) 0) k s = putL l k s := by
  apply ext_getD
  · simp only [putL_length, List.length_append, List.length_replicate]; omega
  · intro i _
    simp only [putL_getD]
    split
    · rfl
    · simp only [List.getD_eq_getElem?_getD]
      by_cases h1 : i < l.length
      · rw [List.getElem?_append_left h1]
      · rw [List.getElem?_append_right (by omega), List.getElem?_eq_none (l := l) (by omega), List.getElem?_replicate]
        split <;> rfl

theorem OwnB.put {w : World} {a : Option Addr} {n cap : Nat} {l : List UInt8} {k : Nat} {s : ByteArray} (hn : l.length = n) (h : OwnB w (.slice a n cap) l) (h0 : 0 < s.size) (hk : k + s.size ≤ n) :
    ∃ w', (Builtin.copy_ #[78, 9] 3 #[.slice (Option.map (fun x => x.add k) a) (n - k) (cap - k), .string s]).run Tryz.prog w = .ok (goInt s.size) w' ∧ OwnB w' (.slice a n cap) (putL l k s.data.toList) ∧ w.grownBy w' (blk (.slice a n cap)) ∧ w'.heap.size = w.heap.size := by
  subst hn
  obtain ⟨a', cap', hv, hc1, hc2⟩ := h.shape
  simp at hv
  obtain ⟨rfl, rfl⟩ := hv
  obtain ⟨w', h1, h2, h3, h4⟩ := own_copyS (P := Tryz.prog) (t := 78) (ts := 9) (ty := 3) (k := k) (s := s) Tryz.underlying78 (by kernel_rfl) h h0 hk
  rw [if_neg (by omega), Nat.mul_one] at h1
  have hsz : s.size = s.data.toList.length := Lib.size_eq s
  refine ⟨w', h1, ?_, h3, h4⟩
  unfold OwnB
  rw [hsz, bytes_put _ _ _ (by omega)] at h2
  rw [putL_length, Nat.max_eq_left (by omega)]
  exact h2

theorem put_in (a : Option Addr) (cap : Nat) (l : List UInt8) (k : Nat) (s : ByteArray) (w : World) (h : OwnB w (.slice a l.length cap) l) (h0 : 0 < s.size) (hk : k + s.size ≤ l.length) (hl : l.length ≤ 16777216) :
    Calls Tryz.prog 45 #[.slice a l.length cap, .int .i64 k, .string s] w fun e w' => ∃ v', e = .returned v' ∧ OwnB w' v' (putL l k s.data.toList) ∧ w.grownBy w' (blk (.slice a l.length cap)) ∧ (blk v' = blk (.slice a l.length cap) ∨ ∃ g, blk v' = some g ∧ w.heap.size ≤ g) := by
  obtain ⟨a', cap', hv, hc1, hc2⟩ := h.shape
  simp at hv
  obtain ⟨rfl, rfl⟩ := hv
  unfold maxLen at hc2
  obtain ⟨n, hn⟩ : ∃ n, l.length = n := ⟨_, rfl⟩
  rw [hn] at hk hl hc1 h ⊢
  obtain ⟨w', hcopy, ho, hg, _⟩ := h.put hn h0 hk
  have HO := Lib.hid ho
  have HG := Lib.hid hg
  clear hn h ho hg
  go_enter Tryz.func45, Tryz.ntmps45
  go_wp2_with fail
  go_ret
  exact ⟨_, rfl, HO.out, HG.out, .inl rfl⟩

theorem put_out (a : Option Addr) (cap : Nat) (l : List UInt8) (k : Nat) (s : ByteArray) (w : World) (h : OwnB w (.slice a l.length cap) l) (h0 : 0 < s.size) (hk : l.length < k + s.size) (hl : k + s.size ≤ 16777216) :
    Calls Tryz.prog 45 #[.slice a l.length cap, .int .i64 k, .string s] w fun e w' => ∃ v', e = .returned v' ∧ OwnB w' v' (putL l k s.data.toList) ∧ w.grownBy w' (blk (.slice a l.length cap)) ∧ (blk v' = blk (.slice a l.length cap) ∨ ∃ g, blk v' = some g ∧ w.heap.size ≤ g) := by
  obtain ⟨i0, hi, hz0, hz1, hz2⟩ := info_parts infoB
  have hsz : s.size = s.data.toList.length := Lib.size_eq s
  obtain ⟨v1, w1, hrun, ho1, hg1, hb1⟩ := own_zeros (P := Tryz.prog) (t := 78) (tn := 3) (ty := 78) (kq := .i64) (m := k + s.size - l.length) (kn := .i64) Tryz.underlying78 Tryz.underlying3 hi hz0 hz1 hz2 rfl rfl h (by omega) (by unfold maxLen; omega) (by omega)
  obtain ⟨a1, cap1, rfl, hc1, hc2⟩ := ho1.shape
  rw [show l.length + (k + s.size - l.length) = k + s.size by omega] at *
  obtain ⟨l1, hl1⟩ : ∃ l1, l1 = l ++ List.replicate (k + s.size - l.length) 0 := ⟨_, rfl⟩
  have hl1n : l1.length = k + s.size := by rw [hl1]; simp; omega
  have ho1' : OwnB w1 (.slice a1 (k + s.size) cap1) l1 := by
    unfold OwnB
    rw [hl1n, hl1]
    have : Lib.byteCells l ++ List.replicate (k + s.size - l.length) (.int .u8 0) = Lib.byteCells (l ++ List.replicate (k + s.size - l.length) 0) := by simp [Lib.byteCells]
    rw [← this]
    exact ho1
  obtain ⟨w2, hcopy, ho, hg, _⟩ := ho1'.put hl1n h0 (Nat.le_refl _)
  rw [show k + s.size - k = s.size by omega] at hcopy
  have hp : putL l1 k s.data.toList = putL l k s.data.toList := by rw [hl1, hsz]; exact putL_zeros _ _ _ (by omega)
  rw [hp] at ho
  have hfin : w.grownBy w2 (blk (.slice a l.length cap)) ∧ (blk (.slice a1 (k + s.size) cap1) = blk (.slice a l.length cap) ∨ ∃ g, blk (.slice a1 (k + s.size) cap1) = some g ∧ w.heap.size ≤ g) := by
    rcases hb1 with hb1 | hb1
    · rw [hb1] at hg
      exact ⟨hg1.trans hg, .inl hb1⟩
    · rw [hb1] at hg
      refine ⟨hg1.andThen hg (fun j hj => ?_), .inr ⟨_, hb1, Nat.le_refl _⟩⟩
      cases hj
      exact .inl (Nat.le_refl _)
  have HO := Lib.hid ho
  obtain ⟨n, hn⟩ : ∃ n, l.length = n := ⟨_, rfl⟩
  rw [hn] at hk hrun hfin ⊢
  have HF := Lib.hid hfin
  unfold maxLen at hc2
  clear hn ho1 ho1' hg1 hb1 ho hg hfin hp hl1n hl1 h hsz
  have e1 : ((k : Int) + (s.size : Int) - (n : Int)) = ((k + s.size - n : Nat) : Int) := by omega
  rw [← e1] at hrun
  clear e1
  go_enter Tryz.func45, Tryz.ntmps45
  go_wp2_with (at_builtin; refine Lib.wpList_append_run _ rfl _ _ _ _ rfl _ _ rfl rfl _ _ hrun ?_)
  go_ret
  exact ⟨_, rfl, HO.out, HF.out⟩

theorem put_any (v : Value) (l : List UInt8) (k : Nat) (s : ByteArray) (w : World) (h : OwnB w v l) (h0 : 0 < s.size) (hl : l.length ≤ 16777216) (hk : k + s.size ≤ 16777216) :
    Calls Tryz.prog 45 #[v, .int .i64 k, .string s] w fun e w' => ∃ v', e = .returned v' ∧ OwnB w' v' (putL l k s.data.toList) ∧ w.grownBy w' (blk v) ∧ (blk v' = blk v ∨ ∃ g, blk v' = some g ∧ w.heap.size ≤ g) := by
  obtain ⟨a, cap, rfl, _, _⟩ := h.shape
  by_cases hc : k + s.size ≤ l.length
  · exact put_in a cap l k s w h h0 hc hl
  · exact put_out a cap l k s w h h0 (by omega) hk
end Go.Proofs.YtejddacjncpneaaGreatDoor.Di

namespace Go.Proofs.YtejddacjncpneaaGreatDoor.Di
open Go.RowKit

/-- The parts of a disk. -/
inductive Sl where
  | r | fm | dm | lm | pv | kv
  | f (n : Int)
  | d (n : Int)

structure Rep where
  r : Nat
  fm : Nat
  dm : Nat
  lm : Nat
  pv : Value
  kv : Value
  fv : Int → Option Value
  dv : Int → Option Value

def Rep.at (p : Rep) : Sl → Option Nat
  | .r => some p.r
  | .fm => some p.fm
  | .dm => some p.dm
  | .lm => some p.lm
  | .pv => blk p.pv
  | .kv => blk p.kv
  | .f n => (p.fv n).bind blk
  | .d n => (p.dv n).bind blk

def keyI (n : Int) : Value := .int .i64 n
def mapF (g : Int → Option Value) : Value → Option Value
  | .int .i64 n => g n
  | _ => none
def keyS (s : Int × Nat) : Value := .agg #[.int .i64 s.1, .int .i64 s.2]
open Classical in
noncomputable def setQ (q : List (Int × Nat)) (v : Value) : Option Value := if ∃ s ∈ q, keyS s = v then some (.bool true) else none
def cellsQ (q : List (Int × Nat)) : List Value := q.flatMap fun s => [.int .i64 s.1, .int .i64 s.2]
def OwnO (w : World) : Option Value → List UInt8 → Prop
  | none, l => l = []
  | some v, l => OwnB w v l

theorem keyS_inj {s t : Int × Nat} (h : keyS s = keyS t) : s = t := by
  obtain ⟨a, b⟩ := s
  obtain ⟨c, d⟩ := t
  simp [keyS] at h
  obtain ⟨rfl, h2⟩ := h
  simp; omega
theorem mapF_sets (g : Int → Option Value) (n : Int) (v : Value) : Sets (mapF g) (.int .i64 n) v (mapF (upd g n (some v))) := by
  refine ⟨by simp [mapF, upd_same], fun x hx => ?_⟩
  unfold mapF
  split
  · rename_i m
    rw [upd_other]
    intro e
    exact hx (by rw [e])
  · rfl
theorem setQ_mem {q : List (Int × Nat)} {s : Int × Nat} (h : s ∈ q) : setQ q (keyS s) = some (.bool true) := by
  unfold setQ
  exact if_pos ⟨s, h, rfl⟩
theorem setQ_not {q : List (Int × Nat)} {s : Int × Nat} (h : s ∉ q) : setQ q (keyS s) = none := by
  unfold setQ
  exact if_neg (fun ⟨t, ht, e⟩ => h (keyS_inj e ▸ ht))
theorem setQ_sets (q : List (Int × Nat)) (s : Int × Nat) : Sets (setQ q) (keyS s) (.bool true) (setQ (q ++ [s])) := by
  refine ⟨setQ_mem (by simp), fun x hx => ?_⟩
  unfold setQ
  congr 1
  apply propext
  constructor
  · rintro ⟨t, ht, e⟩
    rcases List.mem_append.1 ht with h | h
    · exact ⟨t, h, e⟩
    · simp at h
      exact absurd (by rw [← e, h]) hx
  · rintro ⟨t, ht, e⟩
    exact ⟨t, by simp [ht], e⟩

/-- What holds of each part. -/
def Holds (w : World) (p : Rep) (st : St) : Sl → Prop
  | .r => w.heap[p.r]? = some (.cells #[.map (some p.fm), .map (some p.dm), p.pv, .map (some p.lm), .bool st.down, .int .i64 st.lost, .int .i64 st.calls, p.kv] 60 (0, 0))
  | .fm => MapIs Tryz.prog 3 w p.fm (mapF p.fv)
  | .dm => MapIs Tryz.prog 3 w p.dm (mapF p.dv)
  | .lm => MapIs Tryz.prog 76 w p.lm (setQ st.q)
  | .pv => Own w 76 2 p.pv st.q.length (cellsQ st.q)
  | .kv => Own w 3 1 p.kv st.keep.length (st.keep.map (Value.int .i64 ·))
  | .f n => OwnO w (p.fv n) (st.now n)
  | .d n => OwnO w (p.dv n) (st.dur n)

structure IsD (S : Nat → Prop) (p : Rep) (st : St) (w : World) : Prop where
  holds : ∀ s, Holds w p st s
  inj : ∀ s s' b, p.at s = some b → p.at s' = some b → s = s'
  inS : ∀ s b, p.at s = some b → S b
  wf : WF st

theorem OwnO.kept {w w' : World} {o : Option Value} {l : List UInt8} (h : OwnO w o l) (hg : ∀ b, o.bind blk = some b → w'.heap[b]? = w.heap[b]?) : OwnO w' o l := by
  cases o with
  | none => exact h
  | some v => exact Own.kept h hg
theorem OwnO.lt {w : World} {o : Option Value} {l : List UInt8} (h : OwnO w o l) : ∀ b, o.bind blk = some b → b < w.heap.size := by
  cases o with
  | none => intro b hb; cases hb
  | some v => exact Own.lt h
theorem OwnO.getD {w : World} {o : Option Value} {l : List UInt8} (h : OwnO w o l) : OwnB w (o.getD (.slice none 0 0)) l := by
  cases o with
  | none => obtain rfl : l = [] := h; exact Own.nil w 5 1
  | some v => exact h
theorem blkO (o : Option Value) : blk (o.getD (.slice none 0 0)) = o.bind blk := by cases o <;> rfl

theorem Holds.kept {w w' : World} {p : Rep} {st : St} {s : Sl} (h : Holds w p st s) (hg : ∀ b, p.at s = some b → w'.heap[b]? = w.heap[b]?) : Holds w' p st s := by
  cases s with
  | r => exact (hg _ rfl).trans h
  | fm => exact MapIs.kept h (hg _ rfl)
  | dm => exact MapIs.kept h (hg _ rfl)
  | lm => exact MapIs.kept h (hg _ rfl)
  | pv => exact Own.kept h hg
  | kv => exact Own.kept h hg
  | f n => exact OwnO.kept h hg
  | d n => exact OwnO.kept h hg
theorem Holds.lt {w : World} {p : Rep} {st : St} {s : Sl} (h : Holds w p st s) : ∀ b, p.at s = some b → b < w.heap.size := by
  intro b hb
  cases s with
  | r => cases hb; exact (Array.getElem?_eq_some_iff.1 h).1
  | fm => cases hb; exact MapIs.lt h
  | dm => cases hb; exact MapIs.lt h
  | lm => cases hb; exact MapIs.lt h
  | pv => exact Own.lt h b hb
  | kv => exact Own.lt h b hb
  | f n => exact OwnO.lt h b hb
  | d n => exact OwnO.lt h b hb

/-- All that lay there but the blocks of S is as it was. -/
structure But (S : Nat → Prop) (w w' : World) : Prop where
  os : w'.os = w.os
  tape : w'.tape = w.tape
  output : w'.output = w.output
  size : w.heap.size ≤ w'.heap.size
  block : ∀ k, k < w.heap.size → ¬ S k → w'.heap[k]? = w.heap[k]?
theorem But.refl (S : Nat → Prop) (w : World) : But S w w := ⟨rfl, rfl, rfl, Nat.le_refl _, fun _ _ _ => rfl⟩
theorem But.trans {S S' : Nat → Prop} {a b c : World} (h : But S a b) (k : But S' b c) (hs : ∀ i, i < a.heap.size → S' i → S i) : But S a c :=
  ⟨k.os.trans h.os, k.tape.trans h.tape, k.output.trans h.output, Nat.le_trans h.size k.size, fun i hi hne => (k.block i (Nat.lt_of_lt_of_le hi h.size) (fun e => hne (hs i hi e))).trans (h.block i hi hne)⟩
theorem But.of {S : Nat → Prop} {w w' : World} {row : Option Nat} (h : w.grownBy w' row) (hs : ∀ b, row = some b → b < w.heap.size → S b) : But S w w' :=
  ⟨h.os, h.tape, h.output, h.size, fun k hk hn => h.block k hk (fun e => hn (hs k e.symm hk))⟩
theorem But.mono {S S' : Nat → Prop} {w w' : World} (h : But S w w') (hs : ∀ i, S i → S' i) : But S' w w' := ⟨h.os, h.tape, h.output, h.size, fun k hk hn => h.block k hk (fun e => hn (hs k e))⟩
theorem But.below {S : Nat → Prop} {w w' : World} {B : Nat} (h : But S w w') (hB : B ≤ w.heap.size) (hs : ∀ i, S i → B ≤ i) : Below B w w' := by
  refine ⟨h.os, h.tape, h.output, h.size, fun i hi => ?_⟩
  exact h.block i (by omega) (fun e => by have := hs i e; omega)

def Grew (S : Nat → Prop) (w w' : World) (b : Nat) : Prop := S b ∨ (w.heap.size ≤ b ∧ b < w'.heap.size)

/-- A disk with the struct's block r. -/
def Disk (S : Nat → Prop) (r : Nat) (st : St) (w : World) : Prop := ∃ p, p.r = r ∧ IsD S p st w

theorem IsD.lt {S : Nat → Prop} {p : Rep} {st : St} {w : World} (h : IsD S p st w) {s : Sl} {b : Nat} (hb : p.at s = some b) : b < w.heap.size := (h.holds s).lt b hb
theorem IsD.mono {S S' : Nat → Prop} {p : Rep} {st : St} {w : World} (h : IsD S p st w) (hs : ∀ b, S b → S' b) : IsD S' p st w := ⟨h.holds, h.inj, fun s b hb => hs b (h.inS s b hb), h.wf⟩
theorem IsD.kept {S : Nat → Prop} {p : Rep} {st : St} {w w' : World} (h : IsD S p st w) (hg : ∀ b, S b → b < w.heap.size → w'.heap[b]? = w.heap[b]?) : IsD S p st w' :=
  ⟨fun s => (h.holds s).kept fun b hb => hg b (h.inS s b hb) (h.lt hb), h.inj, h.inS, h.wf⟩
theorem IsD.grown {S : Nat → Prop} {p : Rep} {st : St} {w w' : World} (h : IsD S p st w) (hg : w.grownBy w' none) : IsD S p st w' := h.kept fun b _ hb => hg.block b hb (by simp)
theorem Disk.mono {S S' : Nat → Prop} {r : Nat} {st : St} {w : World} (h : Disk S r st w) (hs : ∀ b, S b → S' b) : Disk S' r st w := by
  obtain ⟨p, hp, h⟩ := h
  exact ⟨p, hp, h.mono hs⟩
/-- Another disk's call leaves this one alone. -/
theorem Disk.apart {S T : Nat → Prop} {r : Nat} {st : St} {w w' : World} (h : Disk S r st w) (hb : But T w w') (ha : ∀ b, S b → ¬ T b) : Disk S r st w' := by
  obtain ⟨p, hp, h⟩ := h
  exact ⟨p, hp, h.kept fun b hs hlt => hb.block b hlt (ha b hs)⟩

/-- What a call of a method leaves. -/
def Af (S : Nat → Prop) (r : Nat) (st : St) (w w' : World) : Prop := Disk (Grew S w w') r st w' ∧ But S w w'
theorem Af.trans {S : Nat → Prop} {r : Nat} {st st' : St} {a b c : World} (h : Af S r st a b) (k : Af (Grew S a b) r st' b c) : Af S r st' a c := by
  refine ⟨k.1.mono fun i hi => ?_, h.2.trans k.2 fun i hi hs => ?_⟩
  · have h1 := h.2.size
    have h2 := k.2.size
    rcases hi with (hi | hi) | hi
    · exact .inl hi
    · exact .inr ⟨hi.1, by omega⟩
    · exact .inr ⟨by omega, hi.2⟩
  · rcases hs with hs | hs
    · exact hs
    · omega

theorem IsD.cell {S : Nat → Prop} {p : Rep} {st : St} {w : World} (h : IsD S p st w) :
    w.cell? ⟨p.r, 0, none⟩ = some (.map (some p.fm)) ∧ w.cell? ⟨p.r, 1, none⟩ = some (.map (some p.dm)) ∧ w.cell? ⟨p.r, 2, none⟩ = some p.pv ∧ w.cell? ⟨p.r, 3, none⟩ = some (.map (some p.lm)) ∧
    w.cell? ⟨p.r, 4, none⟩ = some (.bool st.down) ∧ w.cell? ⟨p.r, 5, none⟩ = some (.int .i64 st.lost) ∧ w.cell? ⟨p.r, 6, none⟩ = some (.int .i64 st.calls) ∧ w.cell? ⟨p.r, 7, none⟩ = some p.kv := by
  have hr : w.heap[p.r]? = _ := h.holds .r
  simp [World.cell?, hr]
theorem IsD.froz {S : Nat → Prop} {p : Rep} {st : St} {w : World} (h : IsD S p st w) (o : Nat) : w.frozen? ⟨p.r, o, none⟩ = false := by
  have hr : w.heap[p.r]? = _ := h.holds .r
  simp [World.frozen?, hr]

/-- The parts of C are new; the others are as they were. -/
theorem IsD.step {S : Nat → Prop} {p p' : Rep} {st st' : St} {w w' : World} (h : IsD S p st w) (C : Sl → Prop) (hb : But (fun b => ∃ s, C s ∧ p.at s = some b) w w')
    (hc : ∀ s, C s → Holds w' p' st' s) (ho : ∀ s, ¬ C s → (Holds w p st s → Holds w p' st' s) ∧ p'.at s = p.at s)
    (hl : ∀ s b, C s → p'.at s = some b → p.at s = some b ∨ w.heap.size ≤ b) (hi : ∀ s s' b, C s → C s' → p'.at s = some b → p'.at s' = some b → s = s') (wf : WF st') : IsD (Grew S w w') p' st' w' ∧ But S w w' := by
  have hold : ∀ s, Holds w' p' st' s := fun s => by
    by_cases e : C s
    · exact hc s e
    · obtain ⟨h1, h2⟩ := ho s e
      refine (h1 (h.holds s)).kept fun b hb' => ?_
      rw [h2] at hb'
      refine hb.block b (h.lt hb') ?_
      rintro ⟨s', e', hs'⟩
      exact e (h.inj s s' b hb' hs' ▸ e')
  refine ⟨⟨hold, fun s s' b h1 h2 => ?_, fun s b h1 => ?_, wf⟩, hb.mono fun i ⟨s, _, hs⟩ => h.inS s i hs⟩
  · by_cases e : C s <;> by_cases e' : C s'
    · exact hi s s' b e e' h1 h2
    · have h3 := (ho s' e').2
      rw [h3] at h2
      rcases hl s b e h1 with h4 | h4
      · exact h.inj s s' b h4 h2
      · have := h.lt h2
        omega
    · have h3 := (ho s e).2
      rw [h3] at h1
      rcases hl s' b e' h2 with h4 | h4
      · exact h.inj s s' b h1 h4
      · have := h.lt h1
        omega
    · rw [(ho s e).2] at h1
      rw [(ho s' e').2] at h2
      exact h.inj s s' b h1 h2
  · have hlt := (hold s).lt b h1
    by_cases e : C s
    · rcases hl s b e h1 with h4 | h4
      · exact .inl (h.inS s b h4)
      · exact .inr ⟨h4, hlt⟩
    · rw [(ho s e).2] at h1
      exact .inl (h.inS s b h1)

/-- The struct's cells are written; the block of nothing else. -/
theorem IsD.stepR {S : Nat → Prop} {p p' : Rep} {st st' : St} {w w' : World} (h : IsD S p st w) (hr : p'.r = p.r) (hb : w.grownBy w' (some p.r)) (hn : Holds w' p' st' .r) (ho : ∀ s, s ≠ .r → (Holds w p st s → Holds w p' st' s) ∧ p'.at s = p.at s) (wf : WF st') :
    IsD (Grew S w w') p' st' w' ∧ But S w w' :=
  h.step (fun s => s = .r) (But.of hb fun b e _ => ⟨.r, rfl, by cases e; rfl⟩) (fun s e => e ▸ hn) ho (fun s b e h1 => by subst e; left; rw [← h1]; simp [Rep.at, hr]) (fun s s' b e e' _ _ => e.trans e'.symm) wf

theorem grownBy_setCell' (w : World) (b i : Nat) (v : Value) : w.grownBy (w.setCell ⟨b, i, none⟩ v) (some b) := Lib.grownBy_setCell w b i v

theorem wf_i64 {a : Int} (h : -9223372036854775808 ≤ a ∧ a ≤ 9223372036854775807) : (Lit.int .i64 a).wf = true := by
  simp [Lit.wf]; exact ⟨h.1, h.2⟩
theorem lawI : Maps.Keyed Tryz.prog 3 := Maps.int_keyed Tryz.underlying3

theorem IsD.lookF {S : Nat → Prop} {p : Rep} {st : St} {w : World} (h : IsD S p st w) (f : Int) (hf : -9223372036854775808 ≤ f ∧ f ≤ 9223372036854775807) :
    ∃ a cap, (∀ w' : World, w'.heap = w.heap → (Instr.lookup 56 (.map (some p.fm)) (.int .i64 f) false).run Tryz.prog w' = .ok (.slice a (st.now f).length cap) w') ∧ OwnB w (.slice a (st.now f).length cap) (st.now f) ∧ blk (.slice a (st.now f).length cap) = p.at (.f f) ∧ (st.now f).length ≤ cap ∧ cap ≤ 9223372036854775807 := by
  have hm0 : MapIs Tryz.prog 3 w p.fm (mapF p.fv) := h.holds .fm
  have hm : ∀ w' : World, w'.heap = w.heap → MapIs Tryz.prog 3 w' p.fm (mapF p.fv) := fun w' e => hm0.kept (by rw [e])
  have hv : OwnO w (p.fv f) (st.now f) := h.holds (.f f)
  have hrun := fun w' e => (hm w' e).lookup lawI Tryz.underlying56 (zero62 w') (Maps.keyOf_int_mk Tryz.underlying3 (wf_i64 hf))
  have hg := hv.getD
  obtain ⟨a, cap, e, h1, h2⟩ := hg.shape
  simp only [mapF] at hrun
  have hbl := blkO (p.fv f)
  rw [e] at hrun hg hbl
  unfold maxLen at h2
  exact ⟨a, cap, hrun, hg, hbl, h1, by omega⟩
theorem IsD.lookD {S : Nat → Prop} {p : Rep} {st : St} {w : World} (h : IsD S p st w) (f : Int) (hf : -9223372036854775808 ≤ f ∧ f ≤ 9223372036854775807) :
    ∃ a cap, (∀ w' : World, w'.heap = w.heap → (Instr.lookup 56 (.map (some p.dm)) (.int .i64 f) false).run Tryz.prog w' = .ok (.slice a (st.dur f).length cap) w') ∧ OwnB w (.slice a (st.dur f).length cap) (st.dur f) ∧ blk (.slice a (st.dur f).length cap) = p.at (.d f) ∧ (st.dur f).length ≤ cap ∧ cap ≤ 9223372036854775807 := by
  have hm0 : MapIs Tryz.prog 3 w p.dm (mapF p.dv) := h.holds .dm
  have hm : ∀ w' : World, w'.heap = w.heap → MapIs Tryz.prog 3 w' p.dm (mapF p.dv) := fun w' e => hm0.kept (by rw [e])
  have hv : OwnO w (p.dv f) (st.dur f) := h.holds (.d f)
  have hrun := fun w' e => (hm w' e).lookup lawI Tryz.underlying56 (zero62 w') (Maps.keyOf_int_mk Tryz.underlying3 (wf_i64 hf))
  have hg := hv.getD
  obtain ⟨a, cap, e, h1, h2⟩ := hg.shape
  simp only [mapF] at hrun
  have hbl := blkO (p.dv f)
  rw [e] at hrun hg hbl
  unfold maxLen at h2
  exact ⟨a, cap, hrun, hg, hbl, h1, by omega⟩
theorem below_drewN {B m : Nat} {a b : World} (h : Below B a b) : Below B a (b.drewN m) := by
  obtain ⟨h1, h2, h3, h4, h5⟩ := h
  exact ⟨h1, h2, h3, h4, h5⟩
end Go.Proofs.YtejddacjncpneaaGreatDoor.Di
