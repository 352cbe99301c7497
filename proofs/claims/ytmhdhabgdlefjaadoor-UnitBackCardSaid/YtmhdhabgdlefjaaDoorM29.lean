/- The contracts of the reference of unit: letter, split. -/
import Derived.Laws.RangeString
import Derived.Test.YtmhdhabgdlefjaaDoorM28
import Derived.Test.YtmhdhabgdlefjaaDoorM27
import Derived.Test.YtmhdhabgdlefjaaDoorM26
set_option maxRecDepth 100000
namespace Go.Proofs.YtmhdhabgdlefjaaDoor.Un
open Go.RowKit Dm

section
variable {p : UInt8 → Bool}
theorem tw_take : ∀ l : List UInt8, l.takeWhile p = l.take (l.takeWhile p).length ∧ l.dropWhile p = l.drop (l.takeWhile p).length
  | [] => ⟨rfl, rfl⟩
  | c :: l => by
    have ih := tw_take l
    by_cases h : p c = true
    · simp only [List.takeWhile_cons, List.dropWhile_cons, h, if_true, List.length_cons, List.take_succ_cons, List.drop_succ_cons]
      exact ⟨by rw [← ih.1], ih.2⟩
    · simp [h]
theorem tw_more : ∀ (l : List UInt8) (k : Nat), k ≤ (l.takeWhile p).length → ∀ h : k < l.length, p l[k] = true → k + 1 ≤ (l.takeWhile p).length
  | [], k, _, h, _ => by simp at h
  | c :: l, 0, _, _, hp => by
    have : p c = true := hp
    simp [this]
  | c :: l, k + 1, hk, h, hp => by
    by_cases hc : p c = true
    · simp only [List.takeWhile_cons, hc, if_true, List.length_cons] at hk ⊢
      have := tw_more l k (by omega) (by simpa using h) hp
      omega
    · simp [hc] at hk
theorem tw_stop : ∀ (l : List UInt8) (k : Nat), k ≤ (l.takeWhile p).length → ∀ h : k < l.length, p l[k] = false → (l.takeWhile p).length = k
  | [], k, _, h, _ => by simp at h
  | c :: l, 0, _, _, hp => by
    have : p c = false := hp
    simp [this]
  | c :: l, k + 1, hk, h, hp => by
    by_cases hc : p c = true
    · simp only [List.takeWhile_cons, hc, if_true, List.length_cons] at hk ⊢
      have := tw_stop l k (by omega) (by simpa using h) hp
      omega
    · simp [hc] at hk
theorem tw_len (l : List UInt8) : (l.takeWhile p).length ≤ l.length := by
  have := (tw_take (p := p) l).1
  rw [this, List.length_take]; omega
end

/-- An item and an error, as results. -/
def iV (v : List UInt8) (n : Int) (i : Int) (b : Bool) : Value := .tuple #[.agg #[sv v, .int .i64 n], .int .i64 i, .bool b]
/-- What split returns. -/
def splitV (s : ByteArray) (a : Nat) : Value := match itemL (s.data.toList.drop a) with
  | none => iV [] 0 (a : Int) false
  | some ((v, n), r) => iV v (n : Int) ((s.size : Int) - r.length) true
theorem sizeL (s : ByteArray) : s.data.toList.length = s.size := Array.length_toList
theorem byte_at (s : ByteArray) (a k : Nat) (h : a + k < s.size) (h2 : k < (s.data.toList.drop a).length) : (s.data.toList.drop a)[k] = s[a + k] := by
  rw [List.getElem_drop, Array.getElem_toList]; rfl
theorem slice_run (s : ByteArray) (a b : Nat) (h1 : a ≤ b) (h2 : b ≤ s.size) (W : World) : (Instr.slice 9 (.string s) (some (.int .i64 (a : Int))) (some (.int .i64 (b : Int))) none).run Tryd.prog W = .ok (.string (s.extract a b)) W := by
  rw [run_slice_string W 9 _ .i64 .i64 _ _ Tryd.underlying9 (by omega) (by omega) (by omega)]
  congr 2
theorem ext_take (s : ByteArray) (a m : Nat) : s.extract a (a + m) = ⟨((s.data.toList.drop a).take m).toArray⟩ := by
  apply ByteArray.ext
  apply Array.ext'
  simp [ByteArray.data_extract, List.extract_eq_take_drop]
theorem split_no (s : ByteArray) (a : Nat) (h : ((s.data.toList.drop a).takeWhile letterB).length = 0) : splitV s a = iV [] 0 (a : Int) false := by
  unfold splitV itemL
  rw [if_pos (List.eq_nil_of_length_eq_zero h)]
theorem split_yes (s : ByteArray) (a m : Nat) (h : ((s.data.toList.drop a).takeWhile letterB).length = m) (h0 : 0 < m) : splitV s a = iV ((s.data.toList.drop a).take m) (expL ((s.data.toList.drop a).drop m)).1 ((s.size : Int) - (expL ((s.data.toList.drop a).drop m)).2.length) true := by
  have ht := tw_take (p := letterB) (s.data.toList.drop a)
  rw [h] at ht
  unfold splitV itemL
  rw [if_neg (fun e => by rw [e] at h; simp at h; omega), ht.1, ht.2]
theorem ret_item {fn : Func} {p u v : Tmp} {ty : TypeId} (h : fn.results = #[.cell p ty, .tmp u, .tmp v]) (tmps : Array Value) (w : World) (b : Nat) (cs : Array Value) (hp : tmps.getD p undef = .pointer (some ⟨b, 0, none⟩)) (hl : (loadVar ty ⟨b, 0, none⟩).run Tryd.prog w = .ok (.agg cs) w) :
    (results fn tmps).run Tryd.prog w = .ok (.tuple #[.agg cs, tmps.getD u undef, tmps.getD v undef]) w := by
  have hp' : tmps[p]?.getD undef = .pointer (some ⟨b, 0, none⟩) := by simpa using hp
  simp [results, h, hp', asAddr, hl]
end Go.Proofs.YtmhdhabgdlefjaaDoor.Un
