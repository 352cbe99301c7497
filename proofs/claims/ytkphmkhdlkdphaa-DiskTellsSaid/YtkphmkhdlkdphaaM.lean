/- Maps whose elements are any values: what a block holds as a function from keys to elements, and the laws of the operations on it. No program. -/
import Derived.Maps.RangeWalk
namespace Go.Proofs.Ytkphmkhdlkdphaa
open Go.ChangeMaps Go.MapKept Go.ChangeShapes Go.WideShapes
open Go.Maps (Keyed)

/-- Block b is a map that holds f. -/
def MapIs (P : Program) (k : TypeId) (w : World) (b : Nat) (f : Value → Option Value) : Prop :=
  ∃ es clock, w.heap[b]? = some (.map es clock) ∧ Stamped es clock ∧ (∀ x ∈ es.toList, ∃ l, keyOf P k x.key = some l) ∧ ∀ key v, f key = some v ↔ ∃ x ∈ es.toList, x.key = key ∧ x.val = v

section
variable {P : Program} {k : TypeId} {w : World} {b : Nat} {f : Value → Option Value}

theorem MapIs.lt (h : MapIs P k w b f) : b < w.heap.size := by
  obtain ⟨es, clock, hb, _⟩ := h
  exact (Array.getElem?_eq_some_iff.1 hb).1

theorem MapIs.kept {w' : World} (h : MapIs P k w b f) (hg : w'.heap[b]? = w.heap[b]?) : MapIs P k w' b f := by
  obtain ⟨es, clock, hb, rest⟩ := h
  exact ⟨es, clock, hg.trans hb, rest⟩

theorem MapIs.made (w : World) : MapIs P k (w.alloc (.map #[] 0)) w.heap.size (fun _ => none) :=
  ⟨#[], 0, (MapKept.heap_alloc w _).1, stamped_empty 0, by simp, by simp⟩

theorem MapIs.congr {g : Value → Option Value} (h : MapIs P k w b f) (e : ∀ x, f x = g x) : MapIs P k w b g := by
  obtain ⟨es, clock, hb, h1, h2, h3⟩ := h
  exact ⟨es, clock, hb, h1, h2, fun key v => by rw [← e]; exact h3 key v⟩

theorem find_of {es : Array MapEntry} (K : Keyed P k) (hk : ∀ x ∈ es.toList, ∃ l, keyOf P k x.key = some l) (hf : ∀ key v, f key = some v ↔ ∃ x ∈ es.toList, x.key = key ∧ x.val = v) {key : Value} {kl : Lit} (hkey : keyOf P k key = some kl) :
    (f key = none ∧ (Instr.findKey k key es.toList).run P w = .ok none w ∧ ∀ x ∈ es.toList, x.key ≠ key) ∨ ∃ j e, f key = some e.val ∧ (Instr.findKey k key es.toList).run P w = .ok (some (j, e.val)) w ∧ es.toList[j]? = some e ∧ e.key = key := by
  rcases K.find w hkey es.toList hk with ⟨h1, h2⟩ | ⟨j, e, h1, h2, h3⟩
  · refine .inl ⟨?_, h1, h2⟩
    cases hc : f key with
    | none => rfl
    | some v => obtain ⟨x, hx, he, _⟩ := (hf key v).1 hc; exact absurd he (h2 x hx)
  · exact .inr ⟨j, e, (hf key e.val).2 ⟨e, List.mem_of_getElem? h2, h3, rfl⟩, h1, h2, h3⟩

/-- m[k], and v, ok := m[k]. -/
theorem MapIs.lookup (h : MapIs P k w b f) (K : Keyed P k) {t e : TypeId} (ht : P.underlying t = some (.map k e)) {z : Value} (hz : (zeroValue e).run P w = .ok z w) {key : Value} {kl : Lit} (hkey : keyOf P k key = some kl) :
    (Instr.lookup t (.map (some b)) key false).run P w = .ok ((f key).getD z) w := by
  obtain ⟨es, clock, hb, hs, hk, hf⟩ := h
  rcases find_of (w := w) K hk hf hkey with ⟨h0, h1, _⟩ | ⟨j, e0, h0, h1, _, _⟩
  · simp [Instr.lookup, run_underlying ht, MapKept.run_getObj_map hb, K.check w _ hkey, h1, hz, Result.andThen, h0]
  · simp [Instr.lookup, run_underlying ht, MapKept.run_getObj_map hb, K.check w _ hkey, h1, Result.andThen, h0]

def setF (f : Value → Option Value) (key val : Value) [DecidableEq Value] : Value → Option Value := fun x => if x = key then some val else f x

/-- g is f but for val at key. -/
def Sets (f : Value → Option Value) (key val : Value) (g : Value → Option Value) : Prop := g key = some val ∧ ∀ x, x ≠ key → g x = f x
/-- g is f without key. -/
def Drops (f : Value → Option Value) (key : Value) (g : Value → Option Value) : Prop := g key = none ∧ ∀ x, x ≠ key → g x = f x

/-- m[k] = v. -/
theorem MapIs.update (h : MapIs P k w b f) (K : Keyed P k) {t e : TypeId} (ht : P.underlying t = some (.map k e)) {key val : Value} {kl : Lit} (hkey : keyOf P k key = some kl) {g : Value → Option Value} (hg : Sets f key val g) :
    ∃ w', (Instr.mapUpdate t (.map (some b)) key val).run P w = .ok () w' ∧ MapIs P k w' b g ∧ w.grownBy w' (some b) ∧ w'.heap.size = w.heap.size := by
  obtain ⟨es, clock, hb, hs, hk, hf⟩ := h
  have fin : ∀ o : Obj, w.grownBy (setBlock w b o) (some b) ∧ (setBlock w b o).heap.size = w.heap.size := fun o =>
    ⟨⟨rfl, rfl, rfl, by simp [setBlock], fun i _ hi => heap_setBlock_other hb _ (fun e => hi (by rw [e]))⟩, by simp [setBlock]⟩
  rcases find_of (w := w) K hk hf hkey with ⟨h0, h1, h2⟩ | ⟨j, e0, h0, h1, h2, h3⟩
  · refine ⟨setBlock w b (.map (es.push ⟨key, val, clock⟩) (clock + 1)), ?_, ⟨_, _, heap_setBlock_same hb _, stamped_push hs h2, ?_, ?_⟩, fin _⟩
    · simp [Instr.mapUpdate, run_underlying ht, MapKept.run_getObj_map hb, K.check w false hkey, h1, MapKept.run_setObj_map _ hb, Result.andThen, setBlock]
    · intro x hx
      simp only [Array.toList_push, List.mem_append, List.mem_singleton] at hx
      rcases hx with hx | rfl
      · exact hk x hx
      · exact ⟨kl, hkey⟩
    · intro key' v
      simp only [Array.toList_push, List.mem_append, List.mem_singleton]
      constructor
      · intro hv
        by_cases e : key' = key
        · subst e
          rw [hg.1] at hv
          exact ⟨_, .inr rfl, rfl, Option.some.inj hv⟩
        · rw [hg.2 _ e] at hv
          obtain ⟨x, hx, h4⟩ := (hf _ _).1 hv
          exact ⟨x, .inl hx, h4⟩
      · rintro ⟨x, hx | rfl, rfl, rfl⟩
        · rw [hg.2 _ (h2 x hx)]
          exact (hf _ _).2 ⟨x, hx, rfl, rfl⟩
        · exact hg.1
  · have hj : es[j]? = some e0 := by simpa using h2
    have hkeyf : ∀ e', es[j]? = some e' → ({ e' with key := key, val := val } : MapEntry).key = e'.key := fun e' he' => by rw [hj] at he'; cases he'; exact h3.symm
    have hlist : (es.modify j (fun e' => { e' with key := key, val := val })).toList = es.toList.set j { e0 with key := key, val := val } := by rw [Array.toList_modify, modify_eq_set _ _ _ _ h2]
    have hpw := ((stamped_iff es clock).1 hs).2.2
    have hjl : j < es.toList.length := (List.getElem?_eq_some_iff.1 h2).1
    have other : ∀ i x, es.toList[i]? = some x → i ≠ j → x.key ≠ key := by
      intro i x hx hne he
      have hil : i < es.toList.length := (List.getElem?_eq_some_iff.1 hx).1
      have ex : es.toList[i] = x := (List.getElem?_eq_some_iff.1 hx).2
      have ej : es.toList[j] = e0 := (List.getElem?_eq_some_iff.1 h2).2
      rcases Nat.lt_or_gt_of_ne hne with hlt | hlt
      · exact List.pairwise_iff_getElem.1 hpw i j hil hjl hlt (by rw [ex, ej, he, h3])
      · exact List.pairwise_iff_getElem.1 hpw j i hjl hil hlt (by rw [ex, ej, he, h3])
    have who : ∀ x, x ∈ es.toList.set j { e0 with key := key, val := val } ↔ x = { e0 with key := key, val := val } ∨ (x ∈ es.toList ∧ x.key ≠ key) := by
      intro x
      constructor
      · intro hx
        obtain ⟨i, hi, ex⟩ := List.getElem_of_mem hx
        rw [List.getElem_set] at ex
        split at ex
        · exact .inl ex.symm
        · rename_i hne
          have hi' : i < es.toList.length := by simpa using hi
          exact .inr ⟨ex ▸ List.getElem_mem hi', other i x (by rw [List.getElem?_eq_getElem hi', ex]) (fun e1 => hne e1.symm)⟩
      · rintro (rfl | ⟨hx, hne⟩)
        · exact List.mem_iff_getElem.2 ⟨j, by simpa using hjl, by simp⟩
        · obtain ⟨i, hi⟩ := List.getElem?_of_mem hx
          have hij : i ≠ j := fun e => hne (by rw [e, h2] at hi; cases hi; exact h3)
          exact List.mem_of_getElem? (i := i) (by rw [List.getElem?_set_ne (Ne.symm hij)]; exact hi)
    refine ⟨setBlock w b (.map (es.modify j (fun e' => { e' with key := key, val := val })) clock), ?_, ⟨_, _, heap_setBlock_same hb _, stamped_modify hs _ _ (fun _ _ => rfl) (fun e' _ he' => hkeyf e' he'), ?_, ?_⟩, fin _⟩
    · simp [Instr.mapUpdate, run_underlying ht, MapKept.run_getObj_map hb, K.check w false hkey, h1, hj, h3, K.stays w hkey, MapKept.run_setObj_map _ hb, Result.andThen, setBlock]
    · intro x hx
      rw [hlist] at hx
      rcases (who x).1 hx with rfl | ⟨hx', _⟩
      · exact ⟨kl, hkey⟩
      · exact hk x hx'
    · intro key' v
      rw [hlist]
      constructor
      · intro hv
        by_cases e : key' = key
        · subst e
          rw [hg.1] at hv
          exact ⟨_, (who _).2 (.inl rfl), rfl, Option.some.inj hv⟩
        · rw [hg.2 _ e] at hv
          obtain ⟨x, hx, h4, h5⟩ := (hf _ _).1 hv
          exact ⟨x, (who _).2 (.inr ⟨hx, by rw [h4]; exact e⟩), h4, h5⟩
      · rintro ⟨x, hx, rfl, rfl⟩
        rcases (who x).1 hx with rfl | ⟨hx', hne⟩
        · exact hg.1
        · rw [hg.2 _ hne]
          exact (hf _ _).2 ⟨x, hx', rfl, rfl⟩

/-- delete(m, k). -/
theorem MapIs.delete (h : MapIs P k w b f) (K : Keyed P k) {t e ty : TypeId} (ht : P.underlying t = some (.map k e)) {key : Value} {kl : Lit} (hkey : keyOf P k key = some kl) {g : Value → Option Value} (hg : Drops f key g) :
    ∃ w', (Builtin.delete_ #[t, k] ty #[.map (some b), key]).run P w = .ok (.tuple #[]) w' ∧ MapIs P k w' b g ∧ w.grownBy w' (some b) ∧ w'.heap.size = w.heap.size := by
  obtain ⟨es, clock, hb, hs, hk, hf⟩ := h
  have fin : ∀ o : Obj, w.grownBy (setBlock w b o) (some b) ∧ (setBlock w b o).heap.size = w.heap.size := fun o =>
    ⟨⟨rfl, rfl, rfl, by simp [setBlock], fun i _ hi => heap_setBlock_other hb _ (fun e => hi (by rw [e]))⟩, by simp [setBlock]⟩
  rcases find_of (w := w) K hk hf hkey with ⟨h0, h1, h2⟩ | ⟨j, e0, h0, h1, h2, h3⟩
  · refine ⟨setBlock w b (.map es clock), ?_, ⟨_, _, heap_setBlock_same hb _, hs, hk, fun key' v => ?_⟩, fin _⟩
    · simp [Builtin.delete_, run_underlying ht, MapKept.run_getObj_map hb, K.check w _ hkey, h1, MapKept.run_setObj_map _ hb, Result.andThen, setBlock]
    · rw [← hf]
      by_cases e : key' = key
      · subst e; rw [hg.1, h0]
      · rw [hg.2 _ e]
  · have hjl : j < es.toList.length := (List.getElem?_eq_some_iff.1 h2).1
    have hjs : j < es.size := by simpa using hjl
    have hsub : (es.eraseIdxIfInBounds j).toList = es.toList.eraseIdx j := by
      unfold Array.eraseIdxIfInBounds
      rw [dif_pos hjs]
      simp
    have hpw := ((stamped_iff es clock).1 hs).2.2
    have who : ∀ x, x ∈ es.toList.eraseIdx j ↔ (x ∈ es.toList ∧ x.key ≠ key) := by
      intro x
      rw [List.mem_eraseIdx_iff_getElem?]
      constructor
      · rintro ⟨i, hne, hi⟩
        refine ⟨List.mem_of_getElem? hi, fun he => ?_⟩
        have hil : i < es.toList.length := (List.getElem?_eq_some_iff.1 hi).1
        have ex : es.toList[i] = x := (List.getElem?_eq_some_iff.1 hi).2
        have ej : es.toList[j] = e0 := (List.getElem?_eq_some_iff.1 h2).2
        rcases Nat.lt_or_gt_of_ne hne with hlt | hlt
        · exact List.pairwise_iff_getElem.1 hpw i j hil hjl hlt (by rw [ex, ej, he, h3])
        · exact List.pairwise_iff_getElem.1 hpw j i hjl hil hlt (by rw [ex, ej, he, h3])
      · rintro ⟨hx, hne⟩
        obtain ⟨i, hi⟩ := List.getElem?_of_mem hx
        refine ⟨i, fun e1 => hne ?_, hi⟩
        rw [e1, h2] at hi
        cases hi
        exact h3
    refine ⟨setBlock w b (.map (es.eraseIdxIfInBounds j) clock), ?_, ⟨_, _, heap_setBlock_same hb _, stamped_erase hs j, ?_, fun key' v => ?_⟩, fin _⟩
    · simp [Builtin.delete_, run_underlying ht, MapKept.run_getObj_map hb, K.check w _ hkey, h1, MapKept.run_setObj_map _ hb, Result.andThen, setBlock]
    · intro x hx
      rw [hsub] at hx
      exact hk x ((who x).1 hx).1
    · rw [hsub]
      constructor
      · intro hv
        by_cases e : key' = key
        · subst e; rw [hg.1] at hv; cases hv
        · rw [hg.2 _ e] at hv
          obtain ⟨x, hx, h4, h5⟩ := (hf _ _).1 hv
          exact ⟨x, (who x).2 ⟨hx, by rw [h4]; exact e⟩, h4, h5⟩
      · rintro ⟨x, hx, rfl, rfl⟩
        obtain ⟨hx', hne⟩ := (who x).1 hx
        rw [hg.2 _ hne]
        exact (hf _ _).2 ⟨x, hx', rfl, rfl⟩

/-- A loop over the map is under way: left says which entries are still to come. -/
def Ranging (P : Program) (k : TypeId) (w : World) (b r : Nat) (f : Value → Option Value) (left : Value → Bool) (cnt : Nat) : Prop :=
  ∃ es clock since seen c0, w.heap[b]? = some (.map es clock) ∧ Stamped es clock ∧ (∀ x ∈ es.toList, ∃ l, keyOf P k x.key = some l) ∧ (∀ key v, f key = some v ↔ ∃ x ∈ es.toList, x.key = key ∧ x.val = v) ∧
    w.heap[r]? = some (.mapIter (some b) since seen c0) ∧ (∀ x ∈ es.toList, x.born < since) ∧ (leftOf es seen).size = cnt ∧ (∀ x ∈ es.toList, left x.key = !seen.contains x.born) ∧ since ≤ c0 ∧ since ≤ clock

theorem Ranging.owns {r : Nat} {left : Value → Bool} {cnt : Nat} (h : Ranging P k w b r f left cnt) : MapIs P k w b f := by
  obtain ⟨es, clock, since, seen, c0, hb, hs, hk, hf, _⟩ := h
  exact ⟨es, clock, hb, hs, hk, hf⟩
theorem Ranging.left_eq {r : Nat} {left : Value → Bool} {cnt : Nat} (h : Ranging P k w b r f left cnt) : w.rangeLeft b r = cnt := by
  obtain ⟨es, clock, since, seen, c0, hb, _, _, _, hr, _, hc, _⟩ := h
  simp only [World.rangeLeft, hb, hr]
  exact hc
theorem Ranging.lt {r : Nat} {left : Value → Bool} {cnt : Nat} (h : Ranging P k w b r f left cnt) : r < w.heap.size := by
  obtain ⟨es, clock, since, seen, c0, _, _, _, _, hr, _⟩ := h
  exact (Array.getElem?_eq_some_iff.1 hr).1
theorem Ranging.ne {r : Nat} {left : Value → Bool} {cnt : Nat} (h : Ranging P k w b r f left cnt) : r ≠ b := by
  obtain ⟨es, clock, since, seen, c0, hb, _, _, _, hr, _⟩ := h
  intro e
  rw [e, hb] at hr
  cases hr
theorem Ranging.kept {w' : World} {r : Nat} {left : Value → Bool} {cnt : Nat} (h : Ranging P k w b r f left cnt) (hb' : w'.heap[b]? = w.heap[b]?) (hr' : w'.heap[r]? = w.heap[r]?) : Ranging P k w' b r f left cnt := by
  obtain ⟨es, clock, since, seen, c0, hb, hs, hk, hf, hr, rest⟩ := h
  exact ⟨es, clock, since, seen, c0, hb'.trans hb, hs, hk, hf, hr'.trans hr, rest⟩

theorem MapIs.range (h : MapIs P k w b f) {t e : TypeId} (ht : P.underlying t = some (.map k e)) :
    ∃ w' left cnt, (Instr.range t (.map (some b))).run P w = .ok (.pointer (some ⟨w.heap.size, 0, none⟩)) w' ∧ Ranging P k w' b w.heap.size f left cnt ∧ (∀ key v, f key = some v → left key = true) ∧ w.grownBy w' none ∧ w'.heap.size = w.heap.size + 1 := by
  have hlt := h.lt
  obtain ⟨es, clock, hb, hs, hk, hf⟩ := h
  refine ⟨_, fun _ => true, _, run_range_map w t k e b es clock ht hb, ⟨es, clock, clock, #[], clock, ((MapKept.heap_alloc w _).2 b hlt).trans hb, hs, hk, hf, (MapKept.heap_alloc w _).1, hs.1, rfl, ?_, Nat.le_refl _, Nat.le_refl _⟩, fun _ _ _ => rfl, World.grownBy_alloc w _ none, by simp⟩
  intro x _
  simp

theorem Ranging.next {r : Nat} {left : Value → Bool} {cnt : Nat} (h : Ranging P k w b r f left cnt) (ty : TypeId) :
    (cnt = 0 ∧ (∀ key v, f key = some v → left key = false) ∧ (Instr.next (.pointer (some ⟨r, 0, none⟩)) false ty).run P w = .ok (.tuple #[.bool false]) w) ∨
    ∃ key v w' cnt' left', f key = some v ∧ left key = true ∧ (Instr.next (.pointer (some ⟨r, 0, none⟩)) false ty).run P w = .ok (.tuple #[.bool true, key, v]) w' ∧
      (left' key = false ∧ ∀ x, x ≠ key → (∃ u, f x = some u) → left' x = left x) ∧ Ranging P k w' b r f left' cnt' ∧ cnt' < cnt ∧ w.grownBy w' (some r) ∧ w'.heap.size = w.heap.size ∧ (Instr.entry (.pointer (some ⟨r, 0, none⟩))).run P w' = .ok (.tuple #[key, v]) w' := by
  have hne := h.ne
  obtain ⟨es, clock, since, seen, c0, hb, hs, hk, hf, hr, hold, rfl, hl1, hsc, hsk⟩ := h
  have hst := (stamped_iff es clock).1 hs
  rcases run_next_at (P := P) w ty r b since c0 seen es clock hr hb hold hsc with ⟨h0, hrun⟩ | ⟨e, he, w1, hal, hrun⟩
  · refine Or.inl ⟨h0, fun key v hv => ?_, hrun⟩
    obtain ⟨x, hx, rfl, rfl⟩ := (hf _ _).1 hv
    rw [hl1 x hx, all_seen es seen h0 x hx]
    rfl
  · obtain ⟨hem, hes⟩ := mem_left he
    have hr1 : w1.heap[r]? = some (.mapIter (some b) since seen c0) := by rcases hal with rfl | rfl <;> exact hr
    have hb1 : w1.heap[b]? = some (.map es clock) := by rcases hal with rfl | rfl <;> exact hb
    have hset := MapKept.heap_set (o' := .mapIter (some b) since (seen.push e.born) clock) hr1
    have hb' : (setBlock w1 r (.mapIter (some b) since (seen.push e.born) clock)).heap[b]? = some (.map es clock) := (hset.2 b (fun e1 => hne e1.symm)).trans hb1
    refine Or.inr ⟨e.key, e.val, _, _, fun z => left z && !(open Classical in decide (z = e.key)), (hf _ _).2 ⟨e, hem, rfl, rfl⟩, by rw [hl1 e hem, hes]; rfl, hrun, ⟨by simp, fun x hx _ => by simp [hx]⟩,
      ⟨es, clock, since, seen.push e.born, clock, hb', hs, hk, hf, hset.1, hold, rfl, fun x hx => ?_, hsk, hsk⟩, left_shrinks es seen e he, ?_, ?_,
      run_entry_at _ r b since seen es clock e hset.1 hb' hem hst.2.1⟩
    · show (left x.key && !(open Classical in decide (x.key = e.key))) = _
      rw [hl1 x hx, contains_push]
      have hsame : (x.born == e.born) = (open Classical in decide (x.key = e.key)) := by
        by_cases hbe : x.born = e.born
        · obtain rfl := born_inj hst.2.1 hx hem hbe
          simp
        · have : x.key ≠ e.key := fun e1 => hbe (congrArg MapEntry.born (entry_eq_of_key hst.2.2 hx hem e1))
          simp [hbe, this]
      rw [hsame]
      cases seen.contains x.born <;> cases (open Classical in decide (x.key = e.key)) <;> rfl
    · rcases hal with rfl | rfl <;> exact ⟨rfl, rfl, rfl, by simp [setBlock], fun i _ hi => hset.2 i (fun e1 => hi (by rw [e1]))⟩
    · rcases hal with rfl | rfl <;> simp [setBlock]

/-- A clone of a map: a new block with the same entries. -/
theorem MapIs.entries (h : MapIs P k w b f) : ∃ es clock, w.heap[b]? = some (.map es clock) ∧ ∀ w' : World, ∀ c, w'.heap[c]? = some (.map es clock) → MapIs P k w' c f := by
  obtain ⟨es, clock, hb, rest⟩ := h
  exact ⟨es, clock, hb, fun w' c hc => ⟨es, clock, hc, rest⟩⟩
end
end Go.Proofs.Ytkphmkhdlkdphaa
