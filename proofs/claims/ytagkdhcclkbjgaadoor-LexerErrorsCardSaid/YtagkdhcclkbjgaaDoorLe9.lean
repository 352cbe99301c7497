/- The contract of Number; of the texts between quotes. -/
import Derived.Laws.Concat
import Derived.Lib.AppendIntMem
import Derived.Sort.OwnSorted
import Derived.Test.YtagkdhcclkbjgaaDoorLe8
set_option maxRecDepth 100000
namespace Go.Proofs.YtagkdhcclkbjgaaDoor.Le
open Go.RowKit

theorem below_bytes (w : World) (t : ByteArray) : RowKit.Below w.heap.size w (Lib.bytesWorld w 5 t) := Lib.bytesWorld_below _ _ _
theorem atoi_ok (s : ByteArray) (hs : s.size ≤ 1000000) (v : Int) (h : Lib.atoiAll s.data.toList = .ok v) (w : World) :
    Calls Tryd.prog 29 #[.string s] w fun e w' => e = .returned (.tuple #[.int .i64 v, .nilIface]) ∧ RowKit.Below w.heap.size w w' := by
  refine (Tryd.strconv_Atoi_ok s (by omega) v h w).mono ?_
  rintro e w' ⟨rfl, rfl | ⟨t, rfl⟩⟩
  · exact ⟨rfl, Below.refl _ _⟩
  · exact ⟨rfl, below_bytes _ _⟩
def AtoiBad (w : World) (e : Ending) (w' : World) : Prop := ∃ N n, e = .returned (.tuple #[.int .i64 n, .iface 65 (.pointer (some ⟨N, 0, none⟩))]) ∧ RowKit.Below w.heap.size w w'
theorem atoi_bad (s : ByteArray) (hs : s.size ≤ 1000000) (h : ∀ v, Lib.atoiAll s.data.toList ≠ .ok v) (w : World) (he : Env w) :
    Calls Tryd.prog 29 #[.string s] w (AtoiBad w) := by
  obtain ⟨t, p, h2⟩ := he.syn
  obtain ⟨t', p', h3⟩ := he.ran
  rcases hm : Lib.atoiAll s.data.toList with v | _ | _
  · exact absurd hm (h v)
  · refine (Any.strconv_Atoi_syntax Tryd.laysC172 s (by omega) hm _ w h2 (.inr ⟨t, p, rfl⟩)).mono ?_
    rintro e w' ⟨N, rfl, _, _, hb⟩
    exact ⟨N, _, rfl, hb⟩
  · refine (Any.strconv_Atoi_range Tryd.laysC172 s (by omega) hm _ w h3 (.inr ⟨t', p', rfl⟩)).mono ?_
    rintro e w' ⟨N, rfl, _, _, hb⟩
    exact ⟨N, _, rfl, hb⟩
theorem itoa_any (n : Int) (h0 : -9223372036854775808 ≤ n) (h1 : n ≤ 9223372036854775807) (w : World) (he : Env w) :
    Calls Tryd.prog 30 #[.int .i64 n] w fun e w' => e = .returned (.string ⟨(Lib.itoa n).toArray⟩) ∧ RowKit.Below w.heap.size w w' := by
  refine (Tryd.strconv_Itoa n h0 h1 _ he.tab).mono ?_
  rintro e w' ⟨rfl, k, os, rfl⟩
  exact ⟨rfl, Lib.below_grow _ _ (Nat.le_refl _) _ _⟩
theorem numL_atoi {l : List UInt8} {u : Nat} (h : numL l = some u) : Lib.atoiAll l = .ok (u : Int) ∧ Lib.itoa (u : Int) = l := by
  obtain ⟨h1, h2⟩ := numL_some h
  have := Wi.atoi_itoa (u : Int) (by omega) (by omega)
  rw [Lib.itoa_nonneg] at *
  rw [h1]; exact ⟨this, rfl⟩
theorem numL_of_itoa {l : List UInt8} {v : Int} (h0 : 0 ≤ v) (h1 : v ≤ 1099511627776) (h : Lib.itoa v = l) : numL l = some v.toNat := by
  obtain ⟨u, rfl⟩ : ∃ u : Nat, v = u := ⟨v.toNat, by omega⟩
  rw [Lib.itoa_nonneg] at h
  rw [← h, numL_dec (by omega), Int.toNat_natCast]
theorem beq_str (l : List UInt8) (s : ByteArray) : ((⟨l.toArray⟩ : ByteArray).toList == s.toList) = decide (l = s.data.toList) := by
  rw [ByteArray.toList_eq, ByteArray.toList_eq, Bool.eq_iff_iff]; simp

def NumEnd (l : List UInt8) (w : World) (e : Ending) (w' : World) : Prop := e = .returned (numV l) ∧ RowKit.Below w.heap.size w w'
set_option maxHeartbeats 2000000 in
theorem number_any (s : ByteArray) (hs : s.size ≤ 1000000) (w : World) (he : Env w) : Calls Tryd.prog 13 #[.string s] w (NumEnd s.data.toList w) := by
  by_cases hat : ∃ v, Lib.atoiAll s.data.toList = .ok v
  · obtain ⟨v, hv⟩ := hat
    obtain ⟨hb1, hb2⟩ := Wi.atoi_bd _ v hv
    have HA := Lib.hid (atoi_ok s hs v hv)
    have HE := Lib.hid he
    by_cases h0 : v < 0
    · have HN : Hid (numV s.data.toList = .tuple #[.int .i64 0, .bool false]) := Lib.hid (by
        unfold numV
        rcases hn : numL s.data.toList with _ | u
        · rfl
        · have := (numL_atoi hn).1; rw [hv] at this; injection this; omega)
      clear hv he
      go_enter Tryd.func13, Tryd.ntmps13
      go_wp2_with fail
      refine (HA.out _).mono ?_
      rintro e w1 ⟨rfl, hb⟩
      go_wp2_with fail
      go_ret2
      exact ⟨by rw [HN.out]; rfl, hb⟩
    · have h0' : decide (v < 0) = false := by simp; omega
      by_cases hm : 1099511627776 < v
      · have HN : Hid (numV s.data.toList = .tuple #[.int .i64 0, .bool false]) := Lib.hid (by
          unfold numV
          rcases hn : numL s.data.toList with _ | u
          · rfl
          · have := (numL_atoi hn).1; have h2 := (numL_some hn).2; rw [hv] at this; injection this; omega)
        clear hv he
        go_enter Tryd.func13, Tryd.ntmps13
        go_wp2_with fail
        refine (HA.out _).mono ?_
        rintro e w1 ⟨rfl, hb⟩
        go_wp2_with fail
        go_ret2
        exact ⟨by rw [HN.out]; rfl, hb⟩
      · have hm' : decide (1099511627776 < v) = false := by simp; omega
        have hcmp := beq_str (Lib.itoa v) s
        obtain ⟨t, ht⟩ : ∃ t : ByteArray, (⟨(Lib.itoa v).toArray⟩ : ByteArray) = t := ⟨_, rfl⟩
        have HI := Lib.hid (itoa_any v (by omega) (by omega))
        rw [ht] at hcmp HI
        by_cases hi : Lib.itoa v = s.data.toList
        · have HN : Hid (.tuple #[.int .i64 v, .bool true] = numV s.data.toList) := Lib.hid (by
            unfold numV
            rw [numL_of_itoa (by omega) (by omega) hi]
            simp only
            rw [show ((v.toNat : Nat) : Int) = v by omega])
          rw [show decide (Lib.itoa v = s.data.toList) = true by simpa using hi] at hcmp
          have hcmp2 : (t.toList != s.toList) = false := by simp [bne, hcmp]
          have hcmp3 : (!t.toList == s.toList) = false := by simp [hcmp]
          clear hv he ht hi
          go_enter Tryd.func13, Tryd.ntmps13
          go_wp2_with fail
          refine (HA.out _).mono ?_
          rintro e w1 ⟨rfl, hb⟩
          have HB := Lib.hid hb
          clear hb
          go_wp2_with fail
          refine (HI.out _ (HE.out.below HB.out)).mono ?_
          rintro e w2 ⟨rfl, hb⟩
          have HB2 := Lib.hid (HB.out.trans (hb.mono HB.out.size))
          clear hb
          go_wp2_with fail
          go_ret2
          exact ⟨ret_num HN.out, HB2.out⟩
        · have HN : Hid (numV s.data.toList = .tuple #[.int .i64 0, .bool false]) := Lib.hid (by
            unfold numV
            rcases hn : numL s.data.toList with _ | u
            · rfl
            · obtain ⟨h3, h4⟩ := numL_atoi hn
              rw [hv] at h3; injection h3 with h3
              rw [← h3] at h4; exact absurd h4 hi)
          rw [show decide (Lib.itoa v = s.data.toList) = false by simpa using hi] at hcmp
          have hcmp2 : (t.toList != s.toList) = true := by simp [bne, hcmp]
          have hcmp3 : (!t.toList == s.toList) = true := by simp [hcmp]
          clear hv he ht hi
          go_enter Tryd.func13, Tryd.ntmps13
          go_wp2_with fail
          refine (HA.out _).mono ?_
          rintro e w1 ⟨rfl, hb⟩
          have HB := Lib.hid hb
          clear hb
          go_wp2_with fail
          refine (HI.out _ (HE.out.below HB.out)).mono ?_
          rintro e w2 ⟨rfl, hb⟩
          have HB2 := Lib.hid (HB.out.trans (hb.mono HB.out.size))
          clear hb
          go_wp2_with fail
          go_ret2
          exact ⟨by rw [HN.out]; rfl, HB2.out⟩
  · have HA := Lib.hid (atoi_bad s hs (fun v hv => hat ⟨v, hv⟩) w he)
    have HN : Hid (numV s.data.toList = .tuple #[.int .i64 0, .bool false]) := Lib.hid (by
      unfold numV
      rcases hn : numL s.data.toList with _ | u
      · rfl
      · exact absurd ⟨_, (numL_atoi hn).1⟩ hat)
    clear hat he
    go_enter Tryd.func13, Tryd.ntmps13
    go_wp2_with fail
    refine HA.out.mono ?_
    rintro e w1 ⟨N, n, rfl, hb⟩
    go_wp2_with fail
    go_ret2
    exact ⟨by rw [HN.out]; rfl, hb⟩

/-! the builder -/
/-- The builder at block b holds the bytes l; below b all is as it was in w. -/
def BuildAt (w : World) (b : Nat) (l : List UInt8) (wr : World) : Prop := Lib.IsBuilderF 54 5 w.heap.size b (Lib.byteCells l) wr ∧ RowKit.Below w.heap.size w wr
theorem grownBy_none {w w' : World} (h : RowKit.Below w.heap.size w w') : w.grownBy w' none := ⟨h.os, h.tape, h.output, h.size, fun k hk _ => h.block k hk⟩
theorem builderAt_later {B b : Nat} {p : Value} {bs : List Value} {w w' : World} (h : Lib.BuilderAtF 54 5 B b p bs w) (hw : RowKit.Below w.heap.size w w') : Lib.BuilderAtF 54 5 B b p bs w' := by
  have hlt := h.lt
  obtain ⟨hB, v, hb, hown, hne⟩ := h
  exact ⟨hB, v, (hw.block b hlt).trans hb, hown.kept (grownBy_none hw) (by cases hv : v.ownBlock <;> simp), hne⟩
theorem BuildAt.later {w wr w' : World} {b : Nat} {l : List UInt8} (h : BuildAt w b l wr) (hw : RowKit.Below wr.heap.size wr w') : BuildAt w b l w' :=
  ⟨h.1.elim (fun x => .inl (builderAt_later x hw)) (fun x => .inr (builderAt_later x hw)), h.2.trans (hw.mono h.2.size)⟩
theorem BuildAt.fresh (w : World) : BuildAt w w.heap.size [] (w.alloc (Obj.cells #[.pointer none, .slice none 0 0] 54)) :=
  ⟨.of (Lib.fresh_isBuilder 54 5 w), (Below.refl _ _).alloc (Nat.le_refl _) _⟩
theorem wb_any (w : World) (b : Nat) (l : List UInt8) (c : UInt8) (wr : World) (h : BuildAt w b l wr) (hl : l.length ≤ 100000000) :
    Calls Tryd.prog 39 #[.pointer (some ⟨b, 0, none⟩), .int .u8 c.toNat] wr fun e w' => e = .returned .nilIface ∧ BuildAt w b (l ++ [c]) w' := by
  refine (writeByte_k w.heap.size b _ _ wr h.1 (by rw [Lib.byteCells_length]; omega) h.2.size).mono ?_
  rintro e w' ⟨rfl, h1, h2, _⟩
  exact ⟨rfl, Or.inr (by rw [Lib.byteCells_append]; exact h1), h.2.trans h2⟩
theorem ws_any (w : World) (b : Nat) (l : List UInt8) (s : ByteArray) (wr : World) (h : BuildAt w b l wr) (hl : l.length ≤ 100000000) (hs : s.size ≤ 100000000) :
    Calls Tryd.prog 40 #[.pointer (some ⟨b, 0, none⟩), .string s] wr fun e w' => e = .returned (.tuple #[.int .i64 s.size, .nilIface]) ∧ BuildAt w b (l ++ s.data.toList) w' := by
  refine (writeString_k w.heap.size b _ _ wr h.1 (by rw [Lib.byteCells_length]; omega) h.2.size).mono ?_
  rintro e w' ⟨rfl, h1, h2, _⟩
  exact ⟨rfl, Or.inr (by rw [Lib.byteCells_append]; exact h1), h.2.trans h2⟩
theorem str_any (w : World) (b : Nat) (l : List UInt8) (wr : World) (h : BuildAt w b l wr) :
    Calls Tryd.prog 41 #[.pointer (some ⟨b, 0, none⟩)] wr fun e w' => e = .returned (.string ⟨l.toArray⟩) ∧ RowKit.Below w.heap.size w w' := by
  refine (Tryd.Builder_String_any_k w.heap.size b l wr h.1 h.2.size).mono ?_
  rintro e w' ⟨rfl, _, h2, _⟩
  exact ⟨rfl, h.2.trans h2⟩

theorem esc_snoc : ∀ (l : List UInt8) (c : UInt8), esc (l ++ [c]) = esc l ++ (if escB c then [92, c] else [c])
  | [], c => by simp [esc]
  | a :: l, c => by
    have ih := esc_snoc l c
    simp only [List.cons_append, esc]
    split <;> simp [ih]
theorem esc_le : ∀ (l : List UInt8), (esc l).length ≤ 2 * l.length
  | [] => by simp [esc]
  | a :: l => by
    have ih := esc_le l
    simp only [esc]
    split <;> simp <;> omega
theorem esc_take (s : ByteArray) (k : Nat) (h : k < s.size) : esc (s.data.toList.take (k + 1)) = esc (s.data.toList.take k) ++ (if escB s[k] then [92, s[k]] else [s[k]]) := by
  rw [List.take_succ_eq_append_getElem (by rw [sizeB]; exact h), esc_snoc, getB s k h]

set_option maxHeartbeats 2000000 in
theorem quoted_any (s : ByteArray) (hs : s.size ≤ 1000000) (w : World) : Calls Tryd.prog 33 #[.string s] w fun e w' => e = .returned (.string ⟨(quo s.data.toList).toArray⟩) ∧ RowKit.Below w.heap.size w w' := by
  have hs0 : s.size ≤ 9223372036854775807 := by omega
  go_enter Tryd.func33, Tryd.ntmps33
  go_wp2_with fail
  refine (wb_any w _ [] 34 _ (BuildAt.fresh w) (by simp)).mono ?_
  rintro e w1 ⟨rfl, hb⟩
  have HB := Lib.hid hb
  clear hb
  go_wp2_with fail
  go_loopw [8] (fun i wr => ∃ k : Nat, k ≤ s.size ∧ i = .int .i64 k ∧ BuildAt w w.heap.size (34 :: esc (s.data.toList.take k)) wr) (fun i _ => s.size - (intOf i).toNat)
  case atStart => exact ⟨0, by omega, rfl, HB.out⟩
  case round =>
    clear HB
    obtain ⟨k, hk, rfl, hb⟩ := hrel
    have HB := Lib.hid hb
    clear hb
    have HL : Hid ((34 :: esc (s.data.toList.take k)).length ≤ 2000001) := Lib.hid (by have := esc_le (s.data.toList.take k); rw [List.length_take, sizeB] at this; simp; omega)
    by_cases hlt : k < s.size
    · have HT := Lib.hid (esc_take s k hlt)
      obtain ⟨x, hx⟩ : ∃ x, s[k] = x := ⟨_, rfl⟩
      rw [hx] at HT
      have hc := needsEscape_any x
      rcases h1 : escB x with _ | _
      · rw [h1] at hc HT
        have HC := Lib.hid hc
        clear h1 hc
        go_wp2_with fail
        refine (HC.out _).mono ?_
        rintro e w1 ⟨rfl, rfl⟩
        go_wp2_with fail
        refine (wb_any w _ _ x _ HB.out (by have := HL.out; omega)).mono ?_
        rintro e w2 ⟨rfl, hb⟩
        have HB2 := Lib.hid hb
        clear hb
        go_wp2_with fail
        go_roundw
        case rel => exact ⟨k + 1, by omega, by go_num, by rw [HT.out]; exact HB2.out⟩
        case measure => simp [intOf]; omega
      · rw [h1] at hc HT
        have HC := Lib.hid hc
        clear h1 hc
        go_wp2_with fail
        refine (HC.out _).mono ?_
        rintro e w1 ⟨rfl, rfl⟩
        go_wp2_with fail
        refine (wb_any w _ _ 92 _ HB.out (by have := HL.out; omega)).mono ?_
        rintro e w2 ⟨rfl, hb⟩
        have HB2 := Lib.hid hb
        clear hb
        go_wp2_with fail
        refine (wb_any w _ _ x _ HB2.out (by have := HL.out; simp at this ⊢; omega)).mono ?_
        rintro e w3 ⟨rfl, hb⟩
        have HB3 := Lib.hid hb
        clear hb
        go_wp2_with fail
        go_roundw
        case rel => exact ⟨k + 1, by omega, by go_num, by rw [HT.out]; simpa using HB3.out⟩
        case measure => simp [intOf]; omega
    · have HB2 : Hid (BuildAt w w.heap.size (34 :: esc s.data.toList) wr) := Lib.hid (by have := HB.out; rwa [List.take_of_length_le (by rw [sizeB]; omega)] at this)
      go_wp2_with fail
      refine (wb_any w _ _ 34 _ HB2.out (by have := esc_le s.data.toList; rw [sizeB] at this; simp; omega)).mono ?_
      rintro e w2 ⟨rfl, hb⟩
      have HB3 := Lib.hid hb
      clear hb
      go_wp2_with fail
      refine (str_any w _ _ _ HB3.out).mono ?_
      rintro e w3 ⟨rfl, hb⟩
      go_wp2_with fail
      go_ret
      exact ⟨rfl, hb⟩
end Go.Proofs.YtagkdhcclkbjgaaDoor.Le
