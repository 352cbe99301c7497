/- The contracts of the readers of names and numbers. -/
import Derived.WalkMore
import Derived.Test.YtagkdhcclkbjgaaDoorLe10
set_option maxRecDepth 100000
namespace Go.Proofs.YtagkdhcclkbjgaaDoor.Le
open Go.RowKit

/-- What a reader of a token returns: p the token's place, q what the number of its bytes is counted from. -/
def tokV (p q : Int) : T → Value
  | .bad e => .tuple #[.agg #[.int .i64 0, .string ⟨#[]⟩, .int .i64 0, .int .i64 0], .int .i64 0, .int .i64 e]
  | .tok k t n z => .tuple #[.agg #[.int .i64 k, .string ⟨t.toArray⟩, .int .i64 n, .int .i64 p], .int .i64 (q + (z : Int)), .int .i64 0]
theorem head_eq (s : ByteArray) (h : 0 < s.size) : s.data.toList = s[0] :: s.data.toList.drop 1 := by
  have e := dropB s 0 h
  rwa [List.drop_zero] at e
theorem tw_head {p : UInt8 → Bool} (s : ByteArray) (h : 0 < s.size) (hp : p s[0] = true) : s.data.toList.takeWhile p = s[0] :: (s.data.toList.drop 1).takeWhile p := by
  conv => lhs; rw [head_eq s h]
  rw [List.takeWhile_cons, if_pos hp]
theorem below_box (w : World) (o : Obj) : RowKit.Below w.heap.size w (w.alloc o) := (Below.refl _ _).alloc (Nat.le_refl _) _

/-- Block b holds a token. -/
def IsT (b : Nat) (k : Int) (t : ByteArray) (n p : Int) (w : World) : Prop := w.heap[b]? = some (.cells #[.int .i64 k, .string t, .int .i64 n, .int .i64 p] 25 (0, 0))
theorem IsT.fresh (w : World) (k : Int) (t : ByteArray) (n p : Int) : IsT w.heap.size k t n p (w.alloc (.cells #[.int .i64 k, .string t, .int .i64 n, .int .i64 p] 25)) := by
  unfold IsT; exact Array.getElem?_push_size
section
variable {b : Nat} {k : Int} {t : ByteArray} {n p : Int} {w : World}
theorem IsT.lt (h : IsT b k t n p w) : b < w.heap.size := lt_of_heap h
theorem IsT.later (h : IsT b k t n p w) {w' : World} (hb : RowKit.Below w.heap.size w w') : IsT b k t n p w' := by
  unfold IsT; rw [hb.block b h.lt]; exact h
theorem IsT.cells (h : IsT b k t n p w) : w.cell? ⟨b, 0, none⟩ = some (.int .i64 k) ∧ w.cell? ⟨b, 1, none⟩ = some (.string t) ∧ w.cell? ⟨b, 2, none⟩ = some (.int .i64 n) ∧ w.cell? ⟨b, 3, none⟩ = some (.int .i64 p) := by
  simp [World.cell?, show w.heap[b]? = _ from h]
theorem IsT.free (h : IsT b k t n p w) (o : Nat) : w.frozen? ⟨b, o, none⟩ = false := by simp [World.frozen?, show w.heap[b]? = _ from h]
end
theorem below_set4 {w w1 : World} (h : RowKit.Below w.heap.size w w1) (v0 v1 v2 v3 : Value) : RowKit.Below w.heap.size w ((((w1.setCell ⟨w.heap.size, 0, none⟩ v0).setCell ⟨w.heap.size, 1, none⟩ v1).setCell ⟨w.heap.size, 2, none⟩ v2).setCell ⟨w.heap.size, 3, none⟩ v3) :=
  (((h.setCell (p := ⟨w.heap.size, 0, none⟩) (Nat.le_refl _) _).setCell (p := ⟨w.heap.size, 1, none⟩) (Nat.le_refl _) _).setCell (p := ⟨w.heap.size, 2, none⟩) (Nat.le_refl _) _).setCell (p := ⟨w.heap.size, 3, none⟩) (Nat.le_refl _) _

set_option maxHeartbeats 1000000 in
theorem readName_any (s : ByteArray) (hs : s.size ≤ 1000000) (h : 0 < s.size) (hl : letB s[0] = true) (w : World) : Calls Tryd.prog 42 #[.string s] w (Gives (tokV 0 0 (tokL s.data.toList)) w) := by
  have htw := tw_head s h (letB_name hl)
  obtain ⟨t, ht⟩ : ∃ t : ByteArray, (⟨(s.data.toList.takeWhile nameB).toArray⟩ : ByteArray) = t := ⟨_, rfl⟩
  have htl : t.data.toList = s[0] :: (s.data.toList.drop 1).takeWhile nameB := by rw [← ht, ← htw]
  have hts : t.size = ((s.data.toList.drop 1).takeWhile nameB).length + 1 := by rw [← sizeB, htl]; rfl
  have htz : t.size ≤ 1000000 := by
    have h1 := tw_len (p := nameB) (s.data.toList.drop 1)
    rw [List.length_drop, sizeB] at h1; omega
  have hP := prefix_name s (by omega)
  rw [ht] at hP
  have hN := name_any t (by omega)
  have hok : nameOk t.data.toList = decide (((s.data.toList.drop 1).takeWhile nameB).length ≤ 19) := by
    rw [htl]; simp only [nameOk, hl, tw_all, Bool.true_and]
  have htok : tokL s.data.toList = if ((s.data.toList.drop 1).takeWhile nameB).length ≤ 19 then .tok 0 t.data.toList 0 t.size else .bad 3 := by
    conv => lhs; rw [head_eq s h]
    simp only [tokL]
    rw [if_pos hl, htl, hts]
  have HP := Lib.hid hP
  rw [hok] at hN
  by_cases h19 : ((s.data.toList.drop 1).takeWhile nameB).length ≤ 19
  · rw [show decide (((s.data.toList.drop 1).takeWhile nameB).length ≤ 19) = true by simpa using h19] at hN
    rw [if_pos h19] at htok
    have HN := Lib.hid hN
    have HV : Hid (.tuple #[.agg #[.int .i64 0, .string t, .int .i64 0, .int .i64 0], .int .i64 (t.size : Int), .int .i64 0] = tokV 0 0 (tokL s.data.toList)) := Lib.hid (by
      rw [htok]; simp only [tokV]; rw [eqB, Int.zero_add])
    clear htw ht htl hts hP hN hok htok h19 hl
    go_enter Tryd.func42, Tryd.ntmps42
    go_wp2_with fail
    refine (HP.out _).mono ?_
    rintro e w1 ⟨rfl, rfl⟩
    go_wp2_with fail
    refine (HN.out _).mono ?_
    rintro e w1 ⟨rfl, rfl⟩
    go_wp2_with fail
    exact bodyPost_ret (v := .tuple #[.agg #[.int .i64 0, .string t, .int .i64 0, .int .i64 0], .int .i64 (t.size : Int), .int .i64 0]) (by simp [results, Tryd.results42, go_sem]) rfl ⟨by rw [HV.out], below_box _ _⟩
  · rw [show decide (((s.data.toList.drop 1).takeWhile nameB).length ≤ 19) = false by simpa using h19] at hN
    rw [if_neg h19] at htok
    have HN := Lib.hid hN
    have HV : Hid (.tuple #[.agg #[.int .i64 0, .string ⟨#[]⟩, .int .i64 0, .int .i64 0], .int .i64 0, .int .i64 3] = tokV 0 0 (tokL s.data.toList)) := Lib.hid (by
      rw [htok]; rfl)
    clear htw ht htl hts hP hN hok htok h19 hl
    go_enter Tryd.func42, Tryd.ntmps42
    go_wp2_with fail
    refine (HP.out _).mono ?_
    rintro e w1 ⟨rfl, rfl⟩
    go_wp2_with fail
    refine (HN.out _).mono ?_
    rintro e w1 ⟨rfl, rfl⟩
    go_wp2_with fail
    exact bodyPost_ret (v := .tuple #[.agg #[.int .i64 0, .string ⟨#[]⟩, .int .i64 0, .int .i64 0], .int .i64 0, .int .i64 3]) (by simp [results, Tryd.results42, go_sem]) rfl ⟨by rw [HV.out], below_box _ _⟩

set_option maxHeartbeats 1000000 in
theorem readNumber_any (s : ByteArray) (hs : s.size ≤ 1000000) (h : 0 < s.size) (hl : digB s[0] = true) (w : World) (he : Env w) : Calls Tryd.prog 44 #[.string s] w (Gives (tokV 0 0 (tokL s.data.toList)) w) := by
  have htw := tw_head s h hl
  obtain ⟨t, ht⟩ : ∃ t : ByteArray, (⟨(s.data.toList.takeWhile digB).toArray⟩ : ByteArray) = t := ⟨_, rfl⟩
  have htl : t.data.toList = s[0] :: (s.data.toList.drop 1).takeWhile digB := by rw [← ht, ← htw]
  have hts : t.size = ((s.data.toList.drop 1).takeWhile digB).length + 1 := by rw [← sizeB, htl]; rfl
  have htz : t.size ≤ 1000000 := by
    have h1 := tw_len (p := digB) (s.data.toList.drop 1)
    rw [List.length_drop, sizeB] at h1; omega
  have hP := prefix_digit s (by omega)
  rw [ht] at hP
  have hN := number_any t htz
  have htok : tokL s.data.toList = tokN t.data.toList := by
    conv => lhs; rw [head_eq s h]
    simp only [tokL]
    rw [if_neg (by rw [digB_let hl]; simp), if_pos hl, htl]
  have HP := Lib.hid hP
  have HE := Lib.hid he
  rcases hn : numL t.data.toList with _ | u
  · have hv : numV t.data.toList = .tuple #[.int .i64 0, .bool false] := by unfold numV; rw [hn]
    unfold NumEnd at hN
    rw [hv] at hN
    have HN := Lib.hid hN
    have HV : Hid (.tuple #[.agg #[.int .i64 0, .string ⟨#[]⟩, .int .i64 0, .int .i64 0], .int .i64 0, .int .i64 3] = tokV 0 0 (tokL s.data.toList)) := Lib.hid (by
      rw [htok]; unfold tokN; rw [hn]; rfl)
    clear htw ht htl hts hP hN htok hl hv hn he
    go_enter Tryd.func44, Tryd.ntmps44
    go_wp2_with fail
    refine (HP.out _).mono ?_
    rintro e w1 ⟨rfl, rfl⟩
    go_wp2_with fail
    refine (HN.out _ (HE.out.below (below_box _ _))).mono ?_
    rintro e w1 ⟨rfl, hb⟩
    have HB := Lib.hid ((below_box w (.cells #[.int .i64 0, .string ⟨#[]⟩, .int .i64 0, .int .i64 0] 25)).trans (hb.mono (by simp)))
    have hI := (IsT.fresh w 0 ⟨#[]⟩ 0 0).later hb
    obtain ⟨r0, r1, r2, r3⟩ := hI.cells
    have f0 := hI.free 0
    have f1 := hI.free 1
    have f2 := hI.free 2
    have f3 := hI.free 3
    clear hb hI
    go_wp2_with fail
    exact bodyPost_ret (v := .tuple #[.agg #[.int .i64 0, .string ⟨#[]⟩, .int .i64 0, .int .i64 0], .int .i64 0, .int .i64 3]) (by simp [results, Tryd.results44, go_sem, r0, r1, r2, r3]) rfl ⟨by rw [HV.out], below_set4 HB.out _ _ _ _⟩
  · have hv : numV t.data.toList = .tuple #[.int .i64 (u : Int), .bool true] := by unfold numV; rw [hn]
    unfold NumEnd at hN
    rw [hv] at hN
    have HN := Lib.hid hN
    have HV : Hid (.tuple #[.agg #[.int .i64 1, .string t, .int .i64 (u : Int), .int .i64 0], .int .i64 (t.size : Int), .int .i64 0] = tokV 0 0 (tokL s.data.toList)) := Lib.hid (by
      rw [htok]; unfold tokN; rw [hn]; simp only [tokV]; rw [eqB, Int.zero_add, sizeB])
    clear htw ht htl hts hP hN htok hl hv hn he
    go_enter Tryd.func44, Tryd.ntmps44
    go_wp2_with fail
    refine (HP.out _).mono ?_
    rintro e w1 ⟨rfl, rfl⟩
    go_wp2_with fail
    refine (HN.out _ (HE.out.below (below_box _ _))).mono ?_
    rintro e w1 ⟨rfl, hb⟩
    have HB := Lib.hid ((below_box w (.cells #[.int .i64 0, .string ⟨#[]⟩, .int .i64 0, .int .i64 0] 25)).trans (hb.mono (by simp)))
    have hI := (IsT.fresh w 0 ⟨#[]⟩ 0 0).later hb
    obtain ⟨r0, r1, r2, r3⟩ := hI.cells
    have f0 := hI.free 0
    have f1 := hI.free 1
    have f2 := hI.free 2
    have f3 := hI.free 3
    clear hb hI
    go_wp2_with fail
    exact bodyPost_ret (v := .tuple #[.agg #[.int .i64 1, .string t, .int .i64 (u : Int), .int .i64 0], .int .i64 (t.size : Int), .int .i64 0]) (by simp [results, Tryd.results44, go_sem, r0, r1, r2, r3]) rfl ⟨by rw [HV.out], below_set4 HB.out _ _ _ _⟩

/-- A part of a string between quotes, behind what was read. -/
def strMap (v : List UInt8) (n : Nat) (o : Option (List UInt8 × Nat)) : Option (List UInt8 × Nat) := o.map fun q => (v ++ q.1, q.2 + n)
theorem strMap_step (v : List UInt8) (n : Nat) (c : UInt8) (m : Nat) (o : Option (List UInt8 × Nat)) : strMap v n (o.map fun q => (c :: q.1, q.2 + m)) = strMap (v ++ [c]) (m + n) o := by
  cases o
  · rfl
  · simp [strMap]; omega
theorem escB_34 {c : UInt8} (h : escB c = true) : c.toNat = 34 ∨ c.toNat = 92 := by unfold escB at h; simpa using h
/-- What the reader of a quoted string has found out at an offset p. -/
def StrAt (s : ByteArray) (a p : Nat) (v : List UInt8) : Prop := a ≤ p ∧ p ≤ s.size ∧ v.length ≤ p ∧ strL (s.data.toList.drop a) = strMap v (p - a) (strL (s.data.toList.drop p))
theorem StrAt.start (s : ByteArray) (a : Nat) (h : a ≤ s.size) : StrAt s a a [] := by
  refine ⟨Nat.le_refl _, h, by simp, ?_⟩
  rw [Nat.sub_self]
  cases strL (s.data.toList.drop a) <;> simp [strMap]
theorem StrAt.plain {s : ByteArray} {a p : Nat} {v : List UInt8} (h : StrAt s a p v) (hp : p < s.size) (h1 : s[p].toNat ≠ 34) (h2 : s[p].toNat ≠ 92) : StrAt s a (p + 1) (v ++ [s[p]]) := by
  obtain ⟨h3, h4, h5, h6⟩ := h
  refine ⟨by omega, by omega, by simp; omega, ?_⟩
  rw [h6, dropB s p hp, strL_else h1 h2, strMap_step]; congr 1; omega
theorem StrAt.esc {s : ByteArray} {a p : Nat} {v : List UInt8} (h : StrAt s a p v) (hp : p < s.size) (h1 : s[p].toNat = 92) (hp2 : p + 1 < s.size) (h2 : escB s[p + 1] = true) : StrAt s a (p + 2) (v ++ [s[p + 1]]) := by
  obtain ⟨h3, h4, h5, h6⟩ := h
  refine ⟨by omega, by omega, by simp; omega, ?_⟩
  rw [h6, dropB s p hp, dropB s (p + 1) hp2, strL_92 h1, if_pos h2, strMap_step]; congr 1; omega
theorem StrAt.bad1 {s : ByteArray} {a p : Nat} {v : List UInt8} (h : StrAt s a p v) (hp : p < s.size) (h1 : s[p].toNat = 92) (hp2 : ¬ p + 1 < s.size) : strL (s.data.toList.drop a) = none := by
  obtain ⟨h3, h4, h5, h6⟩ := h
  rw [h6, dropB s p hp, drop_end s (p + 1) hp2, strL_92n h1]; rfl
theorem StrAt.bad2 {s : ByteArray} {a p : Nat} {v : List UInt8} (h : StrAt s a p v) (hp : p < s.size) (h1 : s[p].toNat = 92) (hp2 : p + 1 < s.size) (h2 : escB s[p + 1] = false) : strL (s.data.toList.drop a) = none := by
  obtain ⟨h3, h4, h5, h6⟩ := h
  rw [h6, dropB s p hp, dropB s (p + 1) hp2, strL_92 h1, if_neg (by rw [h2]; simp)]; rfl
theorem StrAt.open_ {s : ByteArray} {a p : Nat} {v : List UInt8} (h : StrAt s a p v) (hp : ¬ p < s.size) : strL (s.data.toList.drop a) = none := by
  obtain ⟨h3, h4, h5, h6⟩ := h
  rw [h6, drop_end s p hp, strL_nil]; rfl
theorem StrAt.close {s : ByteArray} {a p : Nat} {v : List UInt8} (h : StrAt s a p v) (hp : p < s.size) (h1 : s[p].toNat = 34) : strL (s.data.toList.drop a) = some (v, p + 1 - a) := by
  obtain ⟨h3, h4, h5, h6⟩ := h
  rw [h6, dropB s p hp, strL_34 h1]; simp [strMap]; omega

theorem strb_any (w : World) (b : Nat) (l : List UInt8) (wr : World) (h : BuildAt w b l wr) :
    Calls Tryd.prog 41 #[.pointer (some ⟨b, 0, none⟩)] wr fun e w' => e = .returned (.string ⟨l.toArray⟩) ∧ BuildAt w b l w' := by
  refine (Tryd.Builder_String_any_k w.heap.size b l wr h.1 h.2.size).mono ?_
  rintro e w' ⟨rfl, h1, h2, _⟩
  exact ⟨rfl, h1, h.2.trans h2⟩
theorem BuildAt.below_ {w wr : World} {o : Obj} {b : Nat} {l : List UInt8} (h : BuildAt (w.alloc o) b l wr) : RowKit.Below w.heap.size w wr := (below_box w o).trans (h.2.mono (by simp))
theorem ret_end {v v2 : Value} {w w' : World} (h : v = v2) (hb : RowKit.Below w.heap.size w w') : Gives v2 w (.returned v) w' := ⟨by rw [h], hb⟩

set_option maxHeartbeats 2000000 in
theorem readString_any (s : ByteArray) (hs : s.size ≤ 1000000) (h : 0 < s.size) (hl : s[0].toNat = 34) (w : World) : Calls Tryd.prog 45 #[.string s] w (Gives (tokV 0 0 (tokL s.data.toList)) w) := by
  have htok : tokL s.data.toList = tokS (s.data.toList.drop 1) := by
    conv => lhs; rw [head_eq s h]
    simp only [tokL]
    rw [if_neg (by intro h0; exact letB_34 h0 hl), if_neg (by unfold digB; simp; omega), if_pos hl]
  have HT := Lib.hid htok
  have HS0 := Lib.hid (StrAt.start s 1 (by omega))
  clear hl htok
  go_enter Tryd.func45, Tryd.ntmps45
  go_wp2_with fail
  go_step3
  go_wp2_with fail
  go_step3
  go_wp2_with fail
  go_loopw [6] (fun i wr => ∃ (p : Nat) (v : List UInt8), i = .int .i64 p ∧ StrAt s 1 p v ∧ BuildAt (w.alloc (.cells #[.int .i64 0, .string ⟨#[]⟩, .int .i64 0, .int .i64 0] 25)) (w.heap.size + 1) v wr) (fun i _ => s.size - (intOf i).toNat)
  case atStart => exact ⟨1, [], rfl, HS0.out, by have := BuildAt.fresh (w.alloc (.cells #[.int .i64 0, .string ⟨#[]⟩, .int .i64 0, .int .i64 0] 25)); simpa using this⟩
  case round =>
    clear HS0
    obtain ⟨p, v, rfl, hst, hb⟩ := hrel
    have hp := hst.2.1
    have hv := hst.2.2.1
    have HST := Lib.hid hst
    have HB := Lib.hid hb
    clear hst hb
    by_cases hlt : p < s.size
    · obtain ⟨x, hx⟩ : ∃ x, s[p] = x := ⟨_, rfl⟩
      by_cases h34 : x.toNat = 34
      · have t34 : ((x.toNat : Int) == 34) = true := by simp; omega
        have hcl := HST.out.close hlt (by rw [hx]; exact h34)
        have hnl : ¬ p = s.size := by omega
        obtain ⟨t, ht⟩ : ∃ t : ByteArray, (⟨v.toArray⟩ : ByteArray) = t := ⟨_, rfl⟩
        have htl : t.data.toList = v := by rw [← ht]
        have hts : t.size ≤ 1000000 := by rw [← sizeB, htl]; omega
        have hval := isValue_any t (by omega)
        rw [htl] at hval
        have hstr := fun W h => strb_any (w.alloc (.cells #[.int .i64 0, .string ⟨#[]⟩, .int .i64 0, .int .i64 0] 25)) (w.heap.size + 1) v W h
        rw [ht] at hstr
        have HSTR := Lib.hid hstr
        rcases hvo : valOk v with _ | _
        · rw [hvo] at hval
          have HVAL := Lib.hid hval
          have HV : Hid (.tuple #[.agg #[.int .i64 0, .string ⟨#[]⟩, .int .i64 0, .int .i64 0], .int .i64 0, .int .i64 2] = tokV 0 0 (tokL s.data.toList)) := Lib.hid (by rw [HT.out]; unfold tokS; rw [hcl]; simp only; rw [if_neg (by rw [hvo]; simp)]; rfl)
          clear hcl ht htl hval hvo hstr h34
          go_wp2_with fail
          refine (HSTR.out _ HB.out).mono ?_
          rintro e w2 ⟨rfl, hb⟩
          have HB2 := Lib.hid hb
          clear hb
          go_wp2_with fail
          refine (HVAL.out _).mono ?_
          rintro e w3 ⟨rfl, rfl⟩
          have hI := (IsT.fresh w 0 ⟨#[]⟩ 0 0).later HB2.out.2
          obtain ⟨r0, r1, r2, r3⟩ := hI.cells
          have f0 := hI.free 0
          have f1 := hI.free 1
          have f2 := hI.free 2
          have f3 := hI.free 3
          clear hI
          go_wp2_with fail
          try rw [Exit.noGoto_ret]
          exact bodyPost_ret (v := .tuple #[.agg #[.int .i64 0, .string ⟨#[]⟩, .int .i64 0, .int .i64 0], .int .i64 0, .int .i64 2]) (by simp [results, Tryd.results45, go_sem, r0, r1, r2, r3]) rfl (ret_end HV.out (below_set4 HB2.out.below_ _ _ _ _))
        · rw [hvo] at hval
          have HVAL := Lib.hid hval
          have HV : Hid (.tuple #[.agg #[.int .i64 2, .string t, .int .i64 0, .int .i64 0], .int .i64 ((p : Int) + 1), .int .i64 0] = tokV 0 0 (tokL s.data.toList)) := Lib.hid (by
            rw [HT.out]; unfold tokS; rw [hcl]; simp only; rw [if_pos hvo]; simp only [tokV]; rw [ht, Int.zero_add]
            have h1p := HST.out.1
            rw [show p + 1 - 1 + 1 = p + 1 by omega]; rfl)
          clear hcl ht htl hval hvo hstr h34
          go_wp2_with fail
          refine (HSTR.out _ HB.out).mono ?_
          rintro e w2 ⟨rfl, hb⟩
          have HB2 := Lib.hid hb
          clear hb
          go_wp2_with fail
          refine (HVAL.out _).mono ?_
          rintro e w3 ⟨rfl, rfl⟩
          go_wp2_with fail
          refine (HSTR.out _ HB2.out).mono ?_
          rintro e w4 ⟨rfl, hb⟩
          have HB4 := Lib.hid hb
          clear hb
          have hI := (IsT.fresh w 0 ⟨#[]⟩ 0 0).later HB4.out.2
          obtain ⟨r0, r1, r2, r3⟩ := hI.cells
          have f0 := hI.free 0
          have f1 := hI.free 1
          have f2 := hI.free 2
          have f3 := hI.free 3
          clear hI
          go_wp2_with fail
          try rw [Exit.noGoto_ret]
          exact bodyPost_ret (v := .tuple #[.agg #[.int .i64 2, .string t, .int .i64 0, .int .i64 0], .int .i64 ((p : Int) + 1), .int .i64 0]) (by simp [results, Tryd.results45, go_sem, r0, r1, r2, r3]) rfl (ret_end HV.out (below_set4 HB4.out.below_ _ _ _ _))
      · have t34 : ((x.toNat : Int) == 34) = false := by simp; omega
        by_cases h92 : x.toNat = 92
        · have t92 : ((x.toNat : Int) == 92) = true := by simp; omega
          by_cases hlt2 : p + 1 < s.size
          · obtain ⟨y, hy⟩ : ∃ y, s[p + 1] = y := ⟨_, rfl⟩
            have hne : ¬ p + 1 = s.size := by omega
            have hesc := needsEscape_any y
            rcases he : escB y with _ | _
            · rw [he] at hesc
              have HESC := Lib.hid hesc
              have hn := HST.out.bad2 hlt (by rw [hx]; exact h92) hlt2 (by rw [hy]; exact he)
              have HV : Hid (.tuple #[.agg #[.int .i64 0, .string ⟨#[]⟩, .int .i64 0, .int .i64 0], .int .i64 0, .int .i64 2] = tokV 0 0 (tokL s.data.toList)) := Lib.hid (by rw [HT.out]; unfold tokS; rw [hn]; rfl)
              have hI := (IsT.fresh w 0 ⟨#[]⟩ 0 0).later HB.out.2
              obtain ⟨r0, r1, r2, r3⟩ := hI.cells
              have f0 := hI.free 0
              have f1 := hI.free 1
              have f2 := hI.free 2
              have f3 := hI.free 3
              clear hI
              clear hn he hesc h92 h34
              go_wp2_with fail
              refine (HESC.out _).mono ?_
              rintro e w3 ⟨rfl, rfl⟩
              go_wp2_with fail
              try rw [Exit.noGoto_ret]
              exact bodyPost_ret (v := .tuple #[.agg #[.int .i64 0, .string ⟨#[]⟩, .int .i64 0, .int .i64 0], .int .i64 0, .int .i64 2]) (by simp [results, Tryd.results45, go_sem, r0, r1, r2, r3]) rfl (ret_end HV.out (below_set4 HB.out.below_ _ _ _ _))
            · rw [he] at hesc
              have HESC := Lib.hid hesc
              have hn := HST.out.esc hlt (by rw [hx]; exact h92) hlt2 (by rw [hy]; exact he)
              rw [hy] at hn
              have HN := Lib.hid hn
              clear hn he hesc h92 h34
              go_wp2_with fail
              refine (HESC.out _).mono ?_
              rintro e w3 ⟨rfl, rfl⟩
              go_wp2_with fail
              refine (wb_any _ _ _ y _ HB.out (by omega)).mono ?_
              rintro e w4 ⟨rfl, hb⟩
              have HB4 := Lib.hid hb
              clear hb
              go_wp2_with fail
              go_roundw
              case rel => exact ⟨p + 2, v ++ [y], by go_num, HN.out, HB4.out⟩
              case measure => simp [intOf]; omega
          · have hn := HST.out.bad1 hlt (by rw [hx]; exact h92) hlt2
            have heq : p + 1 = s.size := by omega
            have HV : Hid (.tuple #[.agg #[.int .i64 0, .string ⟨#[]⟩, .int .i64 0, .int .i64 0], .int .i64 0, .int .i64 2] = tokV 0 0 (tokL s.data.toList)) := Lib.hid (by rw [HT.out]; unfold tokS; rw [hn]; rfl)
            have hI := (IsT.fresh w 0 ⟨#[]⟩ 0 0).later HB.out.2
            obtain ⟨r0, r1, r2, r3⟩ := hI.cells
            have f0 := hI.free 0
            have f1 := hI.free 1
            have f2 := hI.free 2
            have f3 := hI.free 3
            clear hI
            clear hn h92 h34
            go_wp2_with fail
            try rw [Exit.noGoto_ret]
            exact bodyPost_ret (v := .tuple #[.agg #[.int .i64 0, .string ⟨#[]⟩, .int .i64 0, .int .i64 0], .int .i64 0, .int .i64 2]) (by simp [results, Tryd.results45, go_sem, r0, r1, r2, r3]) rfl (ret_end HV.out (below_set4 HB.out.below_ _ _ _ _))
        · have t92 : ((x.toNat : Int) == 92) = false := by simp; omega
          have hn := HST.out.plain hlt (by rw [hx]; exact h34) (by rw [hx]; exact h92)
          rw [hx] at hn
          have HN := Lib.hid hn
          clear hn h92 h34
          go_wp2_with fail
          refine (wb_any _ _ _ x _ HB.out (by omega)).mono ?_
          rintro e w4 ⟨rfl, hb⟩
          have HB4 := Lib.hid hb
          clear hb
          go_wp2_with fail
          go_roundw
          case rel => exact ⟨p + 1, v ++ [x], by go_num, HN.out, HB4.out⟩
          case measure => simp [intOf]; omega
    · have hn := HST.out.open_ hlt
      have hpe : p = s.size := by omega
      have HV : Hid (.tuple #[.agg #[.int .i64 0, .string ⟨#[]⟩, .int .i64 0, .int .i64 0], .int .i64 0, .int .i64 2] = tokV 0 0 (tokL s.data.toList)) := Lib.hid (by rw [HT.out]; unfold tokS; rw [hn]; rfl)
      have hI := (IsT.fresh w 0 ⟨#[]⟩ 0 0).later HB.out.2
      obtain ⟨r0, r1, r2, r3⟩ := hI.cells
      have f0 := hI.free 0
      have f1 := hI.free 1
      have f2 := hI.free 2
      have f3 := hI.free 3
      clear hI
      clear hn
      go_wp2_with fail
      try rw [Exit.noGoto_ret]
      exact bodyPost_ret (v := .tuple #[.agg #[.int .i64 0, .string ⟨#[]⟩, .int .i64 0, .int .i64 0], .int .i64 0, .int .i64 2]) (by simp [results, Tryd.results45, go_sem, r0, r1, r2, r3]) rfl (ret_end HV.out (below_set4 HB.out.below_ _ _ _ _))
end Go.Proofs.YtagkdhcclkbjgaaDoor.Le
