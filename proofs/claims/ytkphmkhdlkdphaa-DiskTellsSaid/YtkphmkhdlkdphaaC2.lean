/- The contract of put. -/
import Derived.Test.YtkphmkhdlkdphaaC
import Derived.Outline
namespace Go.Proofs.Ytkphmkhdlkdphaa
open Go.RowKit

/-- The slice v holds the bytes l. -/
def OwnB (w : World) (v : Value) (l : List UInt8) : Prop := Own w 5 1 v l.length (Lib.byteCells l)

theorem wpList_copy_run {P : Program} (w : World) {ops : Array Oper} {rest : List Oper} {o : Oper} {a : Act} {Q : Exit → Act → World → Prop} (hgd : o.guard = none) (s x : Operand) (t tn : TypeId)
    (ho : o.op = .call { callee := .builtin .copy, args := #[s, x], argTypes := #[t, tn] }) (vs vx : Value) (hs : a.eval s = vs) (hx : a.eval x = vx)
    (v' : Value) (w' : World) (hr : (Builtin.copy_ #[t, tn] o.type #[vs, vx]).run P w = .ok v' w') (h : wpList P ops Q rest (a.put o.dst v') w') : wpList P ops Q (o :: rest) a w := by
  refine wpList_plain hgd fun _ hK => ?_
  unfold Oper.wp execOp
  simp only [ho, resolve, invoke, builtin, Sem.run_bind, Sem.run_pure, Result.andThen_ok, List.map_toArray, List.map_cons, List.map_nil, hs, hx, hr]
  exact hK _ _ h

theorem bytes_put (l : List UInt8) (k : Nat) (s : List UInt8) (h : k + s.length ≤ l.length) :
    (Lib.byteCells l).take k ++ Lib.byteCells s ++ (Lib.byteCells l).drop (k + s.length) = Lib.byteCells (putL l k s) := by
  unfold putL Lib.byteCells
  have e : List.take k (l ++ List.replicate (k + s.length - l.length) 0) = l.take k := by
    rw [show k + s.length - l.length = 0 by omega]; simp
  rw [e]
  simp [List.map_take, List.map_drop]
theorem putL_zeros (l : List UInt8) (k : Nat) (s : List UInt8) (h : l.length < k + s.length) : putL (l ++ List.replicate (k + s.length - l.length) 0) k s = putL l k s := by
  apply ext_getD
  · simp only [putL_length, List.length_append, List.length_replicate]; omega
  · intro i _
    simp only [putL_getD]
    split
    · rfl
    · simp only [List.getD_eq_getElem?_getD]
      by_cases h1 : i < l.length
      · rw [List.getElem?_append_left h1]
      · rw [List.getElem?_append_right (by omega), List.getElem?_eq_none (l := l) (by omega), List.getElem?_replicate]
        split <;> rfl

theorem OwnB.put {w : World} {a : Option Addr} {n cap : Nat} {l : List UInt8} {k : Nat} {s : ByteArray} (hn : l.length = n) (h : OwnB w (.slice a n cap) l) (h0 : 0 < s.size) (hk : k + s.size ≤ n) :
    ∃ w', (Builtin.copy_ #[62, 9] 3 #[.slice (Option.map (fun x => x.add k) a) (n - k) (cap - k), .string s]).run Try.prog w = .ok (goInt s.size) w' ∧ OwnB w' (.slice a n cap) (putL l k s.data.toList) ∧ w.grownBy w' (blk (.slice a n cap)) ∧ w'.heap.size = w.heap.size := by
  subst hn
  obtain ⟨a', cap', hv, hc1, hc2⟩ := h.shape
  simp at hv
  obtain ⟨rfl, rfl⟩ := hv
  obtain ⟨w', h1, h2, h3, h4⟩ := own_copyS (P := Try.prog) (t := 62) (ts := 9) (ty := 3) (k := k) (s := s) Try.underlying62 (by kernel_rfl) h h0 hk
  rw [if_neg (by omega), Nat.mul_one] at h1
  have hsz : s.size = s.data.toList.length := Lib.size_eq s
  refine ⟨w', h1, ?_, h3, h4⟩
  unfold OwnB
  rw [hsz, bytes_put _ _ _ (by omega)] at h2
  rw [putL_length, Nat.max_eq_left (by omega)]
  exact h2

theorem put_in (a : Option Addr) (cap : Nat) (l : List UInt8) (k : Nat) (s : ByteArray) (w : World) (h : OwnB w (.slice a l.length cap) l) (h0 : 0 < s.size) (hk : k + s.size ≤ l.length) (hl : l.length ≤ 16777216) :
    Calls Try.prog 49 #[.slice a l.length cap, .int .i64 k, .string s] w fun e w' => ∃ v', e = .returned v' ∧ OwnB w' v' (putL l k s.data.toList) ∧ w.grownBy w' (blk (.slice a l.length cap)) ∧ (blk v' = blk (.slice a l.length cap) ∨ ∃ g, blk v' = some g ∧ w.heap.size ≤ g) := by
  obtain ⟨a', cap', hv, hc1, hc2⟩ := h.shape
  simp at hv
  obtain ⟨rfl, rfl⟩ := hv
  unfold maxLen at hc2
  obtain ⟨n, hn⟩ : ∃ n, l.length = n := ⟨_, rfl⟩
  rw [hn] at hk hl hc1 h ⊢
  obtain ⟨w', hcopy, ho, hg, _⟩ := h.put hn h0 hk
  have HO := Lib.hid ho
  have HG := Lib.hid hg
  clear hn h ho hg
  go_enter Try.func49, Try.ntmps49
  go_wp2_with fail
  go_ret
  exact ⟨_, rfl, HO.out, HG.out, .inl rfl⟩

theorem put_out (a : Option Addr) (cap : Nat) (l : List UInt8) (k : Nat) (s : ByteArray) (w : World) (h : OwnB w (.slice a l.length cap) l) (h0 : 0 < s.size) (hk : l.length < k + s.size) (hl : k + s.size ≤ 16777216) :
    Calls Try.prog 49 #[.slice a l.length cap, .int .i64 k, .string s] w fun e w' => ∃ v', e = .returned v' ∧ OwnB w' v' (putL l k s.data.toList) ∧ w.grownBy w' (blk (.slice a l.length cap)) ∧ (blk v' = blk (.slice a l.length cap) ∨ ∃ g, blk v' = some g ∧ w.heap.size ≤ g) := by
  obtain ⟨i0, hi, hz0, hz1, hz2⟩ := info_parts infoB
  have hsz : s.size = s.data.toList.length := Lib.size_eq s
  obtain ⟨v1, w1, hrun, ho1, hg1, hb1⟩ := own_zeros (P := Try.prog) (t := 62) (tn := 3) (ty := 62) (kq := .i64) (m := k + s.size - l.length) (kn := .i64) Try.underlying62 Try.underlying3 hi hz0 hz1 hz2 rfl rfl h (by omega) (by unfold maxLen; omega) (by omega)
  obtain ⟨a1, cap1, rfl, hc1, hc2⟩ := ho1.shape
  rw [show l.length + (k + s.size - l.length) = k + s.size by omega] at *
  obtain ⟨l1, hl1⟩ : ∃ l1, l1 = l ++ List.replicate (k + s.size - l.length) 0 := ⟨_, rfl⟩
  have hl1n : l1.length = k + s.size := by rw [hl1]; simp; omega
  have ho1' : OwnB w1 (.slice a1 (k + s.size) cap1) l1 := by
    unfold OwnB
    rw [hl1n, hl1]
    have : Lib.byteCells l ++ List.replicate (k + s.size - l.length) (.int .u8 0) = Lib.byteCells (l ++ List.replicate (k + s.size - l.length) 0) := by simp [Lib.byteCells]
    rw [← this]
    exact ho1
  obtain ⟨w2, hcopy, ho, hg, _⟩ := ho1'.put hl1n h0 (Nat.le_refl _)
  rw [show k + s.size - k = s.size by omega] at hcopy
  have hp : putL l1 k s.data.toList = putL l k s.data.toList := by rw [hl1, hsz]; exact putL_zeros _ _ _ (by omega)
  rw [hp] at ho
  have hfin : w.grownBy w2 (blk (.slice a l.length cap)) ∧ (blk (.slice a1 (k + s.size) cap1) = blk (.slice a l.length cap) ∨ ∃ g, blk (.slice a1 (k + s.size) cap1) = some g ∧ w.heap.size ≤ g) := by
    rcases hb1 with hb1 | hb1
    · rw [hb1] at hg
      exact ⟨hg1.trans hg, .inl hb1⟩
    · rw [hb1] at hg
      refine ⟨hg1.andThen hg (fun j hj => ?_), .inr ⟨_, hb1, Nat.le_refl _⟩⟩
      cases hj
      exact .inl (Nat.le_refl _)
  have HO := Lib.hid ho
  obtain ⟨n, hn⟩ : ∃ n, l.length = n := ⟨_, rfl⟩
  rw [hn] at hk hrun hfin ⊢
  have HF := Lib.hid hfin
  unfold maxLen at hc2
  clear hn ho1 ho1' hg1 hb1 ho hg hfin hp hl1n hl1 h hsz
  have e1 : ((k : Int) + (s.size : Int) - (n : Int)) = ((k + s.size - n : Nat) : Int) := by omega
  rw [← e1] at hrun
  clear e1
  go_enter Try.func49, Try.ntmps49
  go_wp2_with (at_builtin; refine Lib.wpList_append_run _ rfl _ _ _ _ rfl _ _ rfl rfl _ _ hrun ?_)
  go_ret
  exact ⟨_, rfl, HO.out, HF.out⟩

theorem put_any (v : Value) (l : List UInt8) (k : Nat) (s : ByteArray) (w : World) (h : OwnB w v l) (h0 : 0 < s.size) (hl : l.length ≤ 16777216) (hk : k + s.size ≤ 16777216) :
    Calls Try.prog 49 #[v, .int .i64 k, .string s] w fun e w' => ∃ v', e = .returned v' ∧ OwnB w' v' (putL l k s.data.toList) ∧ w.grownBy w' (blk v) ∧ (blk v' = blk v ∨ ∃ g, blk v' = some g ∧ w.heap.size ≤ g) := by
  obtain ⟨a, cap, rfl, _, _⟩ := h.shape
  by_cases hc : k + s.size ≤ l.length
  · exact put_in a cap l k s w h h0 hc hl
  · exact put_out a cap l k s w h h0 (by omega) hk
end Go.Proofs.Ytkphmkhdlkdphaa
