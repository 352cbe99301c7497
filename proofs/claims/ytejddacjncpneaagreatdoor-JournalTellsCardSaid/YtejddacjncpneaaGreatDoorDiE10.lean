/- How the reference's disk tells a state; the parts of its Crash. -/
import Derived.Test.YtejddacjncpneaaGreatDoorDiE9
set_option maxRecDepth 100000
namespace Go.Proofs.YtejddacjncpneaaGreatDoor.Di
open Go.RowKit Go.ChangeShapes Go.WideShapes

theorem ba_ext {s t : ByteArray} (h : s.data.toList = t.data.toList) : s = t := by
  cases s; cases t
  simp only at h
  rw [Array.toList_inj.1 h]
theorem ba_extract (s : ByteArray) (x y : Nat) : (s.extract x y).data.toList = (s.data.toList.drop x).take (y - x) := by
  simp
theorem piece (s P : ByteArray) (k n fr : Nat) (hfr : min k s.size = fr) (hP : P.data.toList = (s.data.toList.drop k).take n) : s.extract fr (fr + min n (s.size - fr)) = P := by
  refine ba_ext ?_
  rw [ba_extract, hP]
  have hs : s.data.toList.length = s.size := (Lib.size_eq s).symm
  by_cases h : k ≤ s.size
  · obtain rfl : k = fr := by omega
    apply List.ext_getElem?
    intro i
    simp only [List.getElem?_take, List.getElem?_drop]
    by_cases h1 : i < n
    · by_cases h2 : k + i < s.size
      · rw [if_pos (by omega), if_pos h1]
      · rw [if_neg (by omega), if_pos h1, List.getElem?_eq_none (by omega)]
    · rw [if_neg (by omega), if_neg h1]
  · obtain rfl : fr = s.size := by omega
    rw [List.drop_of_length_le (by omega), List.drop_of_length_le (by omega)]
    simp
theorem front (s P : ByteArray) (fr : Nat) (hP : P.data.toList = s.data.toList.take fr) : s.extract 0 fr = P := by
  refine ba_ext ?_
  rw [ba_extract, hP]
  simp

structure OkL (fl : List RF) : Prop where
  nd : (fl.map RF.n).Nodup
  f : ∀ x ∈ fl, isF x.n = true
theorem OkL.len {fl : List RF} (h : OkL fl) : fl.length ≤ 16 := by
  have h1 : (fl.map fun x => x.n.toNat).Nodup := by
    have h2 := h.nd
    unfold List.Nodup at h2 ⊢
    rw [List.pairwise_map] at h2 ⊢
    refine List.Pairwise.imp_of_mem ?_ h2
    intro x y hx hy hne e
    have a := isF_t.1 (h.f x hx)
    have b := isF_t.1 (h.f y hy)
    omega
  have := nodup_bound 16 _ h1 (fun z hz => by
    obtain ⟨x, hx, rfl⟩ := List.mem_map.1 hz
    have a := isF_t.1 (h.f x hx)
    omega)
  simpa using this
theorem OkL.set {fl : List RF} (h : OkL fl) (x : RF) (hx : isF x.n = true) : OkL (setL fl x) := by
  constructor
  · unfold setL
    rw [List.map_append, List.nodup_append]
    refine ⟨List.Sublist.nodup (List.Sublist.map _ List.filter_sublist) h.nd, by simp, fun a ha b hb e => ?_⟩
    obtain ⟨y, hy, rfl⟩ := List.mem_map.1 ha
    have h1 := (List.mem_filter.1 hy).2
    simp at hb
    subst hb
    simp [e] at h1
  · intro y hy
    rcases List.mem_append.1 hy with hy | hy
    · exact h.f y (List.mem_filter.1 hy).1
    · simp at hy; rw [hy]; exact hx
structure RelL (fl : List RF) (now dur : Int → List UInt8) : Prop where
  ok : OkL fl
  now : ∀ f, (look fl f).now.data.toList = now f
  dur : ∀ f, (look fl f).last.data.toList = dur f
theorem RelL.set {fl : List RF} {now dur : Int → List UInt8} (h : RelL fl now dur) (x : RF) (hx : isF x.n = true) : RelL (setL fl x) (upd now x.n x.now.data.toList) (upd dur x.n x.last.data.toList) :=
  ⟨h.ok.set x hx, fun f => by
    rw [look_set]
    by_cases e : f = x.n
    · rw [if_pos e, e, upd_same]
    · rw [if_neg e, upd_other _ _ e, h.now f], fun f => by
    rw [look_set]
    by_cases e : f = x.n
    · rw [if_pos e, e, upd_same]
    · rw [if_neg e, upd_other _ _ e, h.dur f]⟩
theorem upd_id {α : Type} (g : Int → α) (f : Int) : upd g f (g f) = g := by
  funext x
  unfold upd
  split
  · rename_i e; rw [e]
  · rfl
theorem chunkB_list (A : ByteArray) (n : Nat) : (chunkB A n).data.toList = chunk A.data.toList n := by
  unfold chunkB chunk
  rw [ba_extract]
  have hs : A.data.toList.length = A.size := (Lib.size_eq A).symm
  apply List.ext_getElem?
  intro i
  simp only [List.getElem?_take, List.getElem?_drop]
  by_cases h1 : i < 64
  · by_cases h2 : 64 * n + i < A.size
    · rw [if_pos (by omega), if_pos h1]
    · rw [if_neg (by omega), if_pos h1, List.getElem?_eq_none (by omega)]
  · rw [if_neg (by omega), if_neg h1]
theorem survive_rel {a : RS} {now dur : Int → List UInt8} (h : RelL a.fl now dur) {s : Int × Nat} (hs : isF s.1 = true) (hl : 64 * s.2 < (now s.1).length) : RelL (surviveR a s).fl now (upd dur s.1 (putL (dur s.1) (64 * s.2) (chunk (now s.1) s.2))) := by
  have := h.set ⟨s.1, (look a.fl s.1).now, lastR (look a.fl s.1).now (look a.fl s.1).last s.2⟩ hs
  have e1 : (look a.fl s.1).now.data.toList = now s.1 := h.now s.1
  have e2 : (lastR (look a.fl s.1).now (look a.fl s.1).last s.2).data.toList = putL (dur s.1) (64 * s.2) (chunk (now s.1) s.2) := by
    have hsz : (look a.fl s.1).now.size = (now s.1).length := by rw [← e1]; exact Lib.size_eq _
    unfold lastR
    rw [if_pos (by omega)]
    show putL (look a.fl s.1).last.data.toList (64 * s.2) (chunkB (look a.fl s.1).now s.2).data.toList = _
    rw [chunkB_list, e1, h.dur s.1]
  simp only at this
  rw [e1, e2, upd_id] at this
  exact this

structure Rel (a : RS) (st : St) : Prop where
  fl : RelL a.fl st.now st.dur
  q : a.q = st.q
  lost : a.lost = st.lost
  down : a.down = st.down
  calls : a.calls = st.calls
  kl : st.calls ≠ 0 → a.kl = st.keep
  kb : a.kl.length ≤ 1000000000 ∧ ∀ x ∈ a.kl, -9223372036854775808 ≤ x ∧ x ≤ 9223372036854775807
  wf : WF st
theorem RelL.nowsz {fl : List RF} {now dur : Int → List UInt8} (h : RelL fl now dur) (f : Int) : (look fl f).now.size = (now f).length := by rw [← h.now f]; exact Lib.size_eq _
theorem RelL.dursz {fl : List RF} {now dur : Int → List UInt8} (h : RelL fl now dur) (f : Int) : (look fl f).last.size = (dur f).length := by rw [← h.dur f]; exact Lib.size_eq _

/-- All files become their durable parts. -/
def fallL (fl : List RF) : List RF := fl.map fun x => ⟨x.n, x.last, x.last⟩
theorem look_fall : ∀ (fl : List RF) (f : Int), look (fallL fl) f = ⟨f, (look fl f).last, (look fl f).last⟩
  | [], _ => rfl
  | x :: r, f => by
    show (if x.n = f then (⟨x.n, x.last, x.last⟩ : RF) else look (fallL r) f) = ⟨f, (if x.n = f then x else look r f).last, (if x.n = f then x else look r f).last⟩
    by_cases e : x.n = f
    · rw [if_pos e, if_pos e, e]
    · rw [if_neg e, if_neg e, look_fall r f]
theorem RelL.fall {fl : List RF} {now dur : Int → List UInt8} (h : RelL fl now dur) : RelL (fallL fl) dur dur :=
  ⟨⟨by unfold fallL; rw [List.map_map]; exact h.ok.nd, fun x hx => by
    obtain ⟨y, hy, rfl⟩ := List.mem_map.1 hx
    exact h.ok.f y hy⟩, fun f => by rw [look_fall]; exact h.dur f, fun f => by rw [look_fall]; exact h.dur f⟩
def RPost (S : Nat → Prop) (r : Nat) (st : St) (w : World) (v : Value) (e : Ending) (w' : World) : Prop := e = .returned v ∧ ∃ a, RAf S r a w w' ∧ Rel a st
def SurvAt (S : Nat → Prop) (r : Nat) (a1 : RS) (st : St) (ks : List Int) (k : Nat) (w1 wr : World) : Prop :=
  ∃ fl', RelL fl' st.now (durs st.now ks 0 (st.q.take k) st.dur) ∧ RAs S r { a1 with fl := fl' } w1 wr
theorem fallL_snoc (fl : List RF) (k : Nat) (h : k < fl.length) : fallL (fl.take (k + 1)) = fallL (fl.take k) ++ [⟨fl[k].n, fl[k].last, fl[k].last⟩] := by
  unfold fallL
  rw [List.take_succ_eq_append_getElem h, List.map_append]
  rfl
end Go.Proofs.YtejddacjncpneaaGreatDoor.Di
