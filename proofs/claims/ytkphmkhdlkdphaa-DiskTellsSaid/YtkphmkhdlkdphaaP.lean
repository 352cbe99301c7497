/- The disk as plain mathematics: states, operations, what holds of every state that is reached. No program. -/
namespace Go.Proofs.Ytkphmkhdlkdphaa

structure St where
  now : Int → List UInt8
  dur : Int → List UInt8
  q : List (Int × Nat)
  down : Bool
  lost : Int
  calls : Int
  keep : List Int

def isF (f : Int) : Bool := decide (0 ≤ f) && decide (f < 16)
theorem isF_t {f : Int} : isF f = true ↔ 0 ≤ f ∧ f < 16 := by simp [isF]
theorem isF_f {f : Int} : isF f = false ↔ f < 0 ∨ 16 ≤ f := by
  unfold isF
  by_cases h : 0 ≤ f <;> by_cases h2 : f < 16 <;> simp [h, h2] <;> omega

def upd {α : Type} (g : Int → α) (f : Int) (v : α) : Int → α := fun x => if x = f then v else g x
theorem upd_same {α : Type} (g : Int → α) (f : Int) (v : α) : upd g f v f = v := by simp [upd]
theorem upd_other {α : Type} (g : Int → α) {f x : Int} (v : α) (h : x ≠ f) : upd g f v x = g x := by simp [upd, h]

def putL (b : List UInt8) (at_ : Nat) (s : List UInt8) : List UInt8 :=
  (b ++ List.replicate (at_ + s.length - b.length) 0).take at_ ++ s ++ b.drop (at_ + s.length)

theorem putL_length (b : List UInt8) (a : Nat) (s : List UInt8) : (putL b a s).length = max b.length (a + s.length) := by
  simp [putL]; omega

theorem putL_getD (b : List UInt8) (a : Nat) (s : List UInt8) (i : Nat) :
    (putL b a s).getD i 0 = if a ≤ i ∧ i < a + s.length then s.getD (i - a) 0 else b.getD i 0 := by
  unfold putL
  have hl : ((b ++ List.replicate (a + s.length - b.length) (0 : UInt8)).take a).length = a := by
    simp; omega
  simp only [List.getD_eq_getElem?_getD, List.append_assoc]
  by_cases h1 : i < a
  · rw [if_neg (by omega), List.getElem?_append_left (by omega)]
    simp only [List.getElem?_take, if_pos h1]
    by_cases h2 : i < b.length
    · rw [List.getElem?_append_left h2]
    · rw [List.getElem?_append_right (by omega), List.getElem?_eq_none (l := b) (by omega), List.getElem?_replicate]
      split <;> rfl
  · rw [List.getElem?_append_right (by omega), hl]
    by_cases h2 : i < a + s.length
    · rw [if_pos ⟨by omega, h2⟩, List.getElem?_append_left (by omega)]
    · rw [if_neg (by omega), List.getElem?_append_right (by omega), List.getElem?_drop]
      congr 2
      omega

theorem ext_getD {a b : List UInt8} (h : a.length = b.length) (hh : ∀ i, i < a.length → a.getD i 0 = b.getD i 0) : a = b := by
  apply List.ext_getElem h
  intro i h1 h2
  have := hh i h1
  simpa [List.getD_eq_getElem?_getD, List.getElem?_eq_getElem h1, List.getElem?_eq_getElem h2] using this

def secs (f : Int) (a n : Nat) : List (Int × Nat) := (List.range ((a + n + 63) / 64 - a / 64)).map fun i => (f, a / 64 + i)
def addS (q : List (Int × Nat)) (s : Int × Nat) : List (Int × Nat) := if s ∈ q then q else q ++ [s]
def addQ (q : List (Int × Nat)) (l : List (Int × Nat)) : List (Int × Nat) := l.foldl addS q

def wr (st : St) (f : Int) (a : Nat) (s : List UInt8) : St :=
  if s = [] then st else { st with now := upd st.now f (putL (st.now f) a s), q := addQ st.q (secs f a s.length) }
def chk (st : St) (f a : Int) (n : Nat) : Int :=
  if st.down = true then 8 else if isF f = false ∨ a < 0 then 1 else if a > 16777216 - n then 6 else 0

def surv (i : Nat) (keep : List Int) : Bool := decide (0 < keep.length) && !decide ((keep.getD (i % keep.length) 0).tmod 2 = 0)
def chunk (b : List UInt8) (n : Nat) : List UInt8 := (b.drop (64 * n)).take 64
def keepOne (now : Int → List UInt8) (keep : List Int) (dur : Int → List UInt8) (i : Nat) (s : Int × Nat) : Int → List UInt8 :=
  if surv i keep = true then upd dur s.1 (putL (dur s.1) (64 * s.2) (chunk (now s.1) s.2)) else dur
def durs (now : Int → List UInt8) (keep : List Int) : Nat → List (Int × Nat) → (Int → List UInt8) → Int → List UInt8
  | _, [], d => d
  | i, s :: r, d => durs now keep (i + 1) r (keepOne now keep d i s)
def crash (st : St) (keep : List Int) : St :=
  if st.down = true then st else
    { now := durs st.now keep 0 st.q st.dur, dur := durs st.now keep 0 st.q st.dur, q := [], down := true, lost := st.lost, calls := 0, keep := [] }
def goes (st : St) : St :=
  if st.down = true ∨ st.calls = 0 then st else if st.calls = 1 then crash st st.keep else { st with calls := st.calls - 1 }
def write (st : St) (f a : Int) (s : List UInt8) : St := goes (if chk st f a s.length = 0 then wr st f a.toNat s else st)
def writeR (st : St) (f a : Int) (s : List UInt8) : Int := if (write st f a s).down = true then 8 else chk st f a s.length
def settle (st : St) (f : Int) : St := { st with dur := upd st.dur f (st.now f), q := st.q.filter fun s => !decide (s.1 = f) }
def sync (st : St) (f : Int) : St :=
  if (goes st).down = true ∨ isF f = false then goes st else if (goes st).lost > 0 then { goes st with lost := (goes st).lost - 1 } else settle (goes st) f
def syncR (st : St) (f : Int) : Int :=
  if (goes st).down = true then 8 else if isF f = false then 1 else if (goes st).lost > 0 then 9 else 0
def cut (st : St) (f : Int) (n : Nat) : St := settle { st with now := upd st.now f ((st.now f).take n) } f
def trunc (st : St) (f n : Int) : St :=
  if (goes st).down = true ∨ isF f = false ∨ n < 0 ∨ n > ((goes st).now f).length then goes st else cut (goes st) f n.toNat
def truncR (st : St) (f n : Int) : Int :=
  if (goes st).down = true then 8 else if isF f = false ∨ n < 0 ∨ n > ((goes st).now f).length then 1 else 0
def arm (st : St) (n : Int) (keep : List Int) : St := { st with calls := max n 0, keep := keep }
def lose (st : St) (n : Int) : St := { st with lost := max n 0 }
def start (st : St) : St := { st with down := false }
def readS (st : St) (f a n : Int) : List UInt8 :=
  if st.down = true ∨ isF f = false ∨ a < 0 ∨ n < 0 then [] else ((st.now f).drop a.toNat).take n.toNat
def readR (st : St) (f a n : Int) : Int :=
  if st.down = true then 8 else if isF f = false ∨ a < 0 ∨ n < 0 then 1 else 0
def St.new : St := { now := fun _ => [], dur := fun _ => [], q := [], down := false, lost := 0, calls := 0, keep := [] }

/-! ### what holds of every state that is reached -/
structure WF (st : St) : Prop where
  nf : ∀ f, isF f = false → st.now f = [] ∧ st.dur f = []
  len : ∀ f, (st.now f).length ≤ 16777216
  dl : ∀ f, (st.dur f).length ≤ (st.now f).length
  q : ∀ s ∈ st.q, isF s.1 = true ∧ 64 * s.2 < (st.now s.1).length
  nd : st.q.Nodup
  lost : 0 ≤ st.lost ∧ st.lost ≤ 9223372036854775807
  calls : 0 ≤ st.calls ∧ st.calls ≤ 9223372036854775807
  keep : st.keep.length ≤ 1000000000 ∧ ∀ x ∈ st.keep, -9223372036854775808 ≤ x ∧ x ≤ 9223372036854775807

theorem new_wf : WF St.new := ⟨fun _ _ => ⟨rfl, rfl⟩, fun _ => by simp [St.new], fun _ => by simp [St.new], fun s hs => by simp [St.new] at hs, by simp [St.new], by simp [St.new], by simp [St.new], by simp [St.new]⟩

theorem nodup_bound : ∀ (n : Nat) (l : List Nat), l.Nodup → (∀ x ∈ l, x < n) → l.length ≤ n
  | 0, [], _, _ => Nat.le_refl _
  | 0, x :: _, _, h => absurd (h x (by simp)) (by omega)
  | n + 1, l, hn, h => by
    have h1 : (l.erase n).length ≤ n := nodup_bound n (l.erase n) (hn.erase n) (fun x hx => by
      have hx' := (List.Nodup.mem_erase_iff hn).1 hx
      have := h x hx'.2
      omega)
    have := List.length_erase (a := n) (l := l)
    split at this <;> omega

theorem WF.qlen {st : St} (h : WF st) : st.q.length ≤ 4194304 := by
  have e : (st.q.map fun s => s.1.toNat * 262144 + s.2).Nodup := by
    unfold List.Nodup
    rw [List.pairwise_map]
    refine List.Pairwise.imp_of_mem ?_ h.nd
    intro x y hx hy hne hxy
    apply hne
    have hx1 := h.q x hx
    have hy1 := h.q y hy
    have lx := h.len x.1
    have ly := h.len y.1
    have fx := isF_t.1 hx1.1
    have fy := isF_t.1 hy1.1
    have e1 : x.1.toNat = y.1.toNat := by omega
    have e2 : x.2 = y.2 := by omega
    have e3 : x.1 = y.1 := by omega
    exact Prod.ext e3 e2
  have := nodup_bound 4194304 _ e (fun z hz => by
    obtain ⟨x, hx, rfl⟩ := List.mem_map.1 hz
    have hx1 := h.q x hx
    have lx := h.len x.1
    have fx := isF_t.1 hx1.1
    omega)
  simpa using this

theorem mem_addS {q : List (Int × Nat)} {s x : Int × Nat} : x ∈ addS q s ↔ x ∈ q ∨ x = s := by
  unfold addS
  split
  · constructor
    · exact .inl
    · rintro (h | rfl) <;> assumption
  · simp
theorem mem_addQ {l : List (Int × Nat)} : ∀ {q : List (Int × Nat)} {x : Int × Nat}, x ∈ addQ q l ↔ x ∈ q ∨ x ∈ l := by
  induction l with
  | nil => intro q x; simp [addQ]
  | cons a r ih =>
    intro q x
    show x ∈ addQ (addS q a) r ↔ _
    rw [ih, mem_addS]
    simp [or_assoc]
theorem nodup_addS {q : List (Int × Nat)} (h : q.Nodup) (s : Int × Nat) : (addS q s).Nodup := by
  unfold addS
  split
  · exact h
  · rename_i hs
    rw [List.nodup_append]
    refine ⟨h, by simp, fun a ha b hb e => ?_⟩
    simp at hb
    subst hb
    subst e
    exact hs ha
theorem nodup_addQ {l : List (Int × Nat)} : ∀ {q : List (Int × Nat)}, q.Nodup → (addQ q l).Nodup := by
  induction l with
  | nil => intro q h; exact h
  | cons a r ih => intro q h; exact ih (nodup_addS h a)

theorem mem_secs {f : Int} {a n : Nat} {x : Int × Nat} (h : x ∈ secs f a n) (_hn : 0 < n) : x.1 = f ∧ a / 64 ≤ x.2 ∧ 64 * x.2 < a + n := by
  unfold secs at h
  obtain ⟨i, hi, rfl⟩ := List.mem_map.1 h
  have := List.mem_range.1 hi
  exact ⟨rfl, by simp, by simp; omega⟩
theorem secs_mem {f : Int} {a n k : Nat} (h1 : a / 64 ≤ k) (h2 : 64 * k < a + n) : (f, k) ∈ secs f a n :=
  List.mem_map.2 ⟨k - a / 64, List.mem_range.2 (by omega), by simp; omega⟩

theorem wr_wf {st : St} (h : WF st) {f : Int} {a : Nat} {s : List UInt8} (hf : isF f = true) (hs : a + s.length ≤ 16777216) : WF (wr st f a s) := by
  unfold wr
  split
  · exact h
  · rename_i hne
    have hpos : 0 < s.length := by cases s <;> simp_all
    refine ⟨fun g hg => ?_, fun g => ?_, fun g => ?_, fun x hx => ?_, nodup_addQ h.nd, h.lost, h.calls, h.keep⟩
    · have : g ≠ f := fun e => by rw [e, hf] at hg; cases hg
      simp only [upd_other _ _ this]
      exact h.nf g hg
    · by_cases e : g = f
      · subst e
        simp only [upd_same, putL_length]
        have := h.len g
        omega
      · simp only [upd_other _ _ e]
        exact h.len g
    · by_cases e : g = f
      · subst e
        simp only [upd_same, putL_length]
        have := h.dl g
        omega
      · simp only [upd_other _ _ e]
        exact h.dl g
    · rcases mem_addQ.1 hx with hx | hx
      · have := h.q x hx
        refine ⟨this.1, ?_⟩
        by_cases e : x.1 = f
        · simp only [e, upd_same, putL_length]
          have h2 := this.2
          rw [e] at h2
          omega
        · simp only [upd_other _ _ e]
          exact this.2
      · obtain ⟨e1, e2, e3⟩ := mem_secs hx hpos
        refine ⟨by rw [e1]; exact hf, ?_⟩
        simp only [e1, upd_same, putL_length]
        omega

theorem keepOne_len {now dur : Int → List UInt8} {keep : List Int} {i : Nat} {s : Int × Nat} (hd : ∀ f, (dur f).length ≤ (now f).length) (hs : 64 * s.2 < (now s.1).length) (f : Int) : (keepOne now keep dur i s f).length ≤ (now f).length := by
  unfold keepOne
  split
  · by_cases e : f = s.1
    · subst e
      simp only [upd_same, putL_length, chunk, List.length_take, List.length_drop]
      have := hd s.1
      omega
    · simp only [upd_other _ _ e]
      exact hd f
  · exact hd f
theorem durs_len {now : Int → List UInt8} {keep : List Int} : ∀ (q : List (Int × Nat)) (i : Nat) (dur : Int → List UInt8), (∀ f, (dur f).length ≤ (now f).length) → (∀ s ∈ q, 64 * s.2 < (now s.1).length) → ∀ f, (durs now keep i q dur f).length ≤ (now f).length
  | [], _, dur, hd, _, f => hd f
  | s :: r, i, dur, hd, hq, f => durs_len r (i + 1) _ (fun g => keepOne_len hd (hq s (by simp)) g) (fun x hx => hq x (by simp [hx])) f
theorem durs_nf {now : Int → List UInt8} {keep : List Int} {f : Int} : ∀ (q : List (Int × Nat)) (i : Nat) (dur : Int → List UInt8), dur f = [] → (∀ s ∈ q, s.1 ≠ f) → durs now keep i q dur f = []
  | [], _, dur, hd, _ => hd
  | s :: r, i, dur, hd, hq => durs_nf r (i + 1) _ (by
      unfold keepOne
      split
      · rw [upd_other _ _ (hq s (by simp)).symm, hd]
      · exact hd) (fun x hx => hq x (by simp [hx]))

theorem crash_wf {st : St} (h : WF st) (keep : List Int) : WF (crash st keep) := by
  unfold crash
  split
  · exact h
  · have hnf : ∀ f, isF f = false → durs st.now keep 0 st.q st.dur f = [] := fun f hf =>
      durs_nf _ _ _ (h.nf f hf).2 (fun s hs e => by have := (h.q s hs).1; rw [e, hf] at this; cases this)
    have hl := durs_len (keep := keep) st.q 0 st.dur h.dl (fun s hs => (h.q s hs).2)
    exact ⟨fun f hf => ⟨hnf f hf, hnf f hf⟩, fun f => Nat.le_trans (hl f) (h.len f), fun f => Nat.le_refl _, fun s hs => by simp at hs, by simp, h.lost, by simp, by simp⟩

theorem goes_wf {st : St} (h : WF st) : WF (goes st) := by
  unfold goes
  split
  · exact h
  · rename_i hc
    split
    · exact crash_wf h _
    · have hc0 := h.calls
      have : st.calls ≠ 0 := fun e => hc (.inr e)
      exact ⟨h.nf, h.len, h.dl, h.q, h.nd, h.lost, ⟨by simp; omega, by simp; omega⟩, h.keep⟩

theorem settle_wf {st : St} (h : WF st) {f : Int} (hf : isF f = true) : WF (settle st f) := by
  refine ⟨fun g hg => ?_, h.len, fun g => ?_, fun s hs => h.q s (List.mem_filter.1 hs).1, h.nd.filter _, h.lost, h.calls, h.keep⟩
  · have : g ≠ f := fun e => by rw [e, hf] at hg; cases hg
    exact ⟨(h.nf g hg).1, by simp only [settle, upd_other _ _ this]; exact (h.nf g hg).2⟩
  · by_cases e : g = f
    · subst e; simp [settle, upd_same]
    · simp only [settle, upd_other _ _ e]; exact h.dl g

theorem cut_wf {st : St} (h : WF st) {f : Int} {n : Nat} (hf : isF f = true) : WF (cut st f n) := by
  refine ⟨fun g hg => ?_, fun g => ?_, fun g => ?_, fun s hs => ?_, h.nd.filter _, h.lost, h.calls, h.keep⟩
  · have : g ≠ f := fun e => by rw [e, hf] at hg; cases hg
    simp only [cut, settle, upd_other _ _ this]; exact h.nf g hg
  · by_cases e : g = f
    · subst e; simp only [cut, settle, upd_same, List.length_take]; have := h.len g; omega
    · simp only [cut, settle, upd_other _ _ e]; exact h.len g
  · by_cases e : g = f
    · subst e; simp [cut, settle, upd_same]
    · simp only [cut, settle, upd_other _ _ e]; exact h.dl g
  · obtain ⟨h1, h2⟩ := List.mem_filter.1 hs
    have h2' : s.1 ≠ f := by simpa using h2
    simp only [cut, settle, upd_other _ _ h2']
    exact h.q s h1

theorem chk_zero {st : St} {f a : Int} {n : Nat} : chk st f a n = 0 ↔ st.down = false ∧ isF f = true ∧ 0 ≤ a ∧ a + n ≤ 16777216 := by
  unfold chk
  by_cases h : st.down = true
  · simp [h]
  · have h' : st.down = false := by simpa using h
    by_cases h2 : isF f = false ∨ a < 0
    · rw [if_neg h, if_pos h2]
      simp only [h', true_and]
      constructor
      · intro e; cases e
      · rintro ⟨e1, e2, _⟩
        rcases h2 with h2 | h2
        · rw [e1] at h2; cases h2
        · omega
    · rw [if_neg h, if_neg h2]
      have h3 : isF f = true := by
        cases e : isF f
        · exact absurd (.inl e) h2
        · rfl
      have h4 : 0 ≤ a := by
        have : ¬ a < 0 := fun e => h2 (.inr e)
        omega
      simp only [h', h3, true_and]
      split <;> simp <;> omega

theorem write_wf {st : St} (h : WF st) (f a : Int) (s : List UInt8) : WF (write st f a s) := by
  unfold write
  refine goes_wf ?_
  split
  · rename_i hc
    obtain ⟨_, h2, h3, h4⟩ := chk_zero.1 hc
    exact wr_wf h h2 (by omega)
  · exact h
theorem sync_wf {st : St} (h : WF st) (f : Int) : WF (sync st f) := by
  have g := goes_wf h
  unfold sync
  split
  · exact g
  · rename_i h1
    split
    · rename_i h2
      have := g.lost
      exact ⟨g.nf, g.len, g.dl, g.q, g.nd, ⟨by simp; omega, by simp; omega⟩, g.calls, g.keep⟩
    · refine settle_wf g ?_
      cases e : isF f
      · exact absurd (.inr e) h1
      · rfl
theorem trunc_wf {st : St} (h : WF st) (f n : Int) : WF (trunc st f n) := by
  have g := goes_wf h
  unfold trunc
  split
  · exact g
  · rename_i h1
    refine cut_wf g ?_
    cases e : isF f
    · exact absurd (.inr (.inl e)) h1
    · rfl
theorem start_wf {st : St} (h : WF st) : WF (start st) := ⟨h.nf, h.len, h.dl, h.q, h.nd, h.lost, h.calls, h.keep⟩
theorem lose_wf {st : St} (h : WF st) {n : Int} (hn : n ≤ 9223372036854775807) : WF (lose st n) := ⟨h.nf, h.len, h.dl, h.q, h.nd, ⟨by simp [lose]; omega, by simp [lose]; omega⟩, h.calls, h.keep⟩
theorem arm_wf {st : St} (h : WF st) {n : Int} (hn : n ≤ 9223372036854775807) {keep : List Int} (hk : keep.length ≤ 1000000000 ∧ ∀ x ∈ keep, -9223372036854775808 ≤ x ∧ x ≤ 9223372036854775807) : WF (arm st n keep) :=
  ⟨h.nf, h.len, h.dl, h.q, h.nd, h.lost, ⟨by simp [arm]; omega, by simp [arm]; omega⟩, hk⟩
end Go.Proofs.Ytkphmkhdlkdphaa
