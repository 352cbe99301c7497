/- The contracts of number, decimal. The contract of Read. -/
import Derived.Test.YtnddickcnfodfaaGreatDoorM7
import Derived.Laws.RangeString
import Derived.Laws.RangeAny
set_option maxRecDepth 100000
namespace Go.Proofs.YtnddickcnfodfaaGreatDoor.Bi
open Go.RowKit

/-- A decimal digit. -/
def dgt (c : UInt8) : Bool := decide (48 ≤ c.toNat) && decide (c.toNat ≤ 57)
/-- The value of decimal digits. -/
def numB (l : List UInt8) : Nat := l.foldl (fun n c => n * 10 + (c.toNat - 48)) 0
theorem numB_snoc (l : List UInt8) (c : UInt8) : numB (l ++ [c]) = numB l * 10 + (c.toNat - 48) := by simp [numB, List.foldl_append]
theorem dgt_of {c : UInt8} (h : dgt c = true) : 48 ≤ c.toNat ∧ c.toNat ≤ 57 := by simpa [dgt] using h
theorem take_snocB (s : ByteArray) (k : Nat) (h : k < s.size) : s.data.toList.take (k + 1) = s.data.toList.take k ++ [s[k]] := by
  rw [List.take_succ_eq_append_getElem (by simpa using h)]; rfl
theorem sizeB (s : ByteArray) : s.data.toList.length = s.size := by rw [Array.length_toList]; rfl
theorem memB (s : ByteArray) (k : Nat) (h : k < s.size) : s[k] ∈ s.data.toList := by
  have : s.data.toList[k]'(by rw [sizeB]; exact h) = s[k] := rfl
  rw [← this]; exact List.getElem_mem _
theorem numB_lt : ∀ (n : Nat) (l : List UInt8), l.length = n → (∀ c ∈ l, dgt c = true) → numB l < 10 ^ n := by
  intro n
  induction n with
  | zero => intro l hl _; obtain rfl := List.eq_nil_of_length_eq_zero hl; simp [numB]
  | succ n ih =>
    intro l hl hd
    obtain ⟨m, c, rfl⟩ : ∃ m c, l = m ++ [c] := by
      rcases List.eq_nil_or_concat l with rfl | ⟨m, c, rfl⟩
      · simp at hl
      · exact ⟨m, c, by simp⟩
    have h1 := ih m (by simp at hl; omega) (fun c' h => hd c' (by simp [h]))
    have h2 := dgt_of (hd c (by simp))
    rw [numB_snoc, Nat.pow_succ]; omega
theorem numB_12 {l : List UInt8} (h : l.length ≤ 12) (hd : ∀ c ∈ l, dgt c = true) : numB l < 1000000000000 := by
  have h1 := numB_lt _ l rfl hd
  have : 10 ^ l.length ≤ 10 ^ 12 := Nat.pow_le_pow_right (by omega) h
  omega

set_option maxHeartbeats 1000000 in
theorem number_any (s : ByteArray) (hs : s.size ≤ 12) (hd : ∀ c ∈ s.data.toList, dgt c = true) (w : World) :
    Calls Tryz.prog 81 #[.string s] w fun e w' => e = .returned (.int .i64 (numB s.data.toList)) ∧ w' = w := by
  have HD := Lib.hid hd
  clear hd
  go_enter Tryz.func81, Tryz.ntmps81
  go_wp2_with fail
  go_loop [3, 7] (fun n t => ∃ k : Nat, k ≤ s.size ∧ t = .int .i64 k ∧ n = .int .i64 (numB (s.data.toList.take k))) (fun _ t => s.size - (intOf t).toNat)
  case atStart => exact ⟨0, Nat.zero_le _, rfl, by simp [numB]⟩
  case round =>
    obtain ⟨k, hk, rfl, rfl⟩ := hrel
    by_cases hlt : k < s.size
    · have hb := numB_12 (l := s.data.toList.take k) (by rw [List.length_take, sizeB]; omega) (fun c hc => HD.out c (List.mem_of_mem_take hc))
      have hdg := dgt_of (HD.out _ (memB s k hlt))
      have HN : Hid (numB (s.data.toList.take (k + 1)) = numB (s.data.toList.take k) * 10 + (s[k].toNat - 48)) := by unfold Hid; rw [take_snocB s k hlt, numB_snoc]
      obtain ⟨N, eN⟩ : ∃ N, numB (s.data.toList.take k) = N := ⟨_, rfl⟩
      rw [eN] at hb HN ⊢
      clear eN
      have h48 : IntKind.u8.wrap ((s[k].toNat : Int) - 48) = (s[k].toNat : Int) - 48 := IntWalk.u8_in _ (by omega)
      go_wp2_with fail
      go_round
      case rel => exact ⟨k + 1, by omega, by go_num, by rw [HN.out]; congr 1; omega⟩
      case measure => simp [intOf]; omega
    · obtain rfl : k = s.size := by omega
      go_wp2_with fail
      go_ret
      exact ⟨ret_i (by rw [List.take_of_length_le (by rw [sizeB]; omega)]), rfl⟩

/-- A rune that is no decimal digit. -/
def badR (r : Nat) : Bool := decide (r < 48) || decide (57 < r)
theorem badR_any (r : Nat) (hr : r ≤ 1114111) (w : World) : Calls Tryz.prog 110 #[.int .i32 (r : Int)] w fun e w' => e = .returned (.bool (badR r)) ∧ w' = w := by
  obtain ⟨R, hR⟩ : ∃ R : Int, (r : Int) = R := ⟨_, rfl⟩
  have hbd : 0 ≤ R ∧ R ≤ 1114111 := by omega
  have hb : badR r = (decide (R < 48) || decide (57 < R)) := by
    unfold badR
    rw [decide_eq_decide.2 (show r < 48 ↔ R < 48 by omega), decide_eq_decide.2 (show 57 < r ↔ 57 < R by omega)]
  rw [hb, hR]
  clear hb hR
  by_cases h : R < 48
  · have hb : (decide (R < 48) || decide (57 < R)) = true := by simp [h]
    rw [hb]
    clear hb
    go_enter Tryz.func110, Tryz.ntmps110
    go_wp2
    go_ret
    exact ⟨rfl, rfl⟩
  · by_cases h1 : 57 < R
    · have hb : (decide (R < 48) || decide (57 < R)) = true := by simp [h1]
      rw [hb]
      clear hb
      go_enter Tryz.func110, Tryz.ntmps110
      go_wp2
      go_ret
      exact ⟨rfl, rfl⟩
    · have hb : (decide (R < 48) || decide (57 < R)) = false := by simp; omega
      rw [hb]
      clear hb
      have hd1 : decide (R < 48) = false := by simpa using h
      have hd2 : decide (57 < R) = false := by simpa using h1
      go_enter Tryz.func110, Tryz.ntmps110
      go_wp2
      go_ret
      exact ⟨rfl, rfl⟩
theorem enter_of {P : Program} {f : FuncId} {fn : Func} {c : Code} (hf : P.funcs[f]? = some fn) (hname : (fn.name == "runtime.NumGoroutine") = false) (hb : fn.body = some c) (args : Array Value) (w : World) :
    (callFunc f args).run P w = .ok (.enter f args) w := by
  have h1 : fn.name ≠ "runtime.NumGoroutine" := by simpa using hname
  simp [callFunc, hf, h1, hb]
theorem idx_dec (s : ByteArray) : ∀ (f pos : Nat), s.size ≤ pos + f → (0 ≤ Lib.idxFuncFrom badR true s f pos ↔ ∃ k, ∃ h : k < s.size, pos ≤ k ∧ dgt s[k] = false)
  | 0, pos, hf => by
    unfold Lib.idxFuncFrom
    refine ⟨fun h => by omega, fun ⟨k, h, hk, _⟩ => by omega⟩
  | f + 1, pos, hf => by
    unfold Lib.idxFuncFrom
    by_cases hp : pos < s.size
    · rw [if_pos hp]
      by_cases hd : dgt s[pos] = true
      · have hd' := dgt_of hd
        rw [decode_ascii s pos hp (by omega)]
        have hb : badR s[pos].toNat = false := by simp [badR]; omega
        rw [hb, if_neg (by simp), idx_dec s f (pos + 1) (by omega)]
        constructor
        · rintro ⟨k, h, hk, h2⟩; exact ⟨k, h, by omega, h2⟩
        · rintro ⟨k, h, hk, h2⟩
          refine ⟨k, h, ?_, h2⟩
          rcases Nat.lt_or_ge pos k with h3 | h3
          · omega
          · obtain rfl : k = pos := by omega
            rw [hd] at h2; cases h2
      · have hd' : dgt s[pos] = false := by simpa using hd
        have hb : badR (Utf8.decode s pos).1 = true := by
          by_cases ha : (s[pos]'hp).toNat < 128
          · rw [decode_ascii s pos hp ha]
            simp [dgt] at hd'
            simp [badR]; omega
          · have := (decode_high s pos hp (by omega)).1
            simp [badR]; omega
        rw [hb, if_pos rfl]
        exact ⟨fun _ => ⟨pos, hp, Nat.le_refl _, hd'⟩, fun _ => by omega⟩
    · rw [if_neg hp]
      exact ⟨fun h => by omega, fun ⟨k, h, hk, _⟩ => by omega⟩
def decB (l : List UInt8) : Bool := !l.isEmpty && l.all dgt
theorem idx_all (s : ByteArray) : decide (0 ≤ Lib.idxFunc badR true s) = !(s.data.toList.all dgt) := by
  unfold Lib.idxFunc
  have h := idx_dec s s.size 0 (by omega)
  by_cases ha : s.data.toList.all dgt = true
  · rw [ha]
    have : ¬ 0 ≤ Lib.idxFuncFrom badR true s s.size 0 := by
      rw [h]
      rintro ⟨k, hk, _, h2⟩
      have := List.all_eq_true.1 ha _ (memB s k hk)
      rw [this] at h2; cases h2
    simp; omega
  · have ha' : s.data.toList.all dgt = false := by simpa using ha
    rw [ha']
    have : 0 ≤ Lib.idxFuncFrom badR true s s.size 0 := by
      rw [h]
      rw [List.all_eq_false] at ha'
      obtain ⟨c, hc, h2⟩ := ha'
      obtain ⟨k, hk, rfl⟩ := List.getElem_of_mem hc
      have h3 : dgt (s.data.toList[k]) = false := by simpa only [Bool.not_eq_true] using h2
      exact ⟨k, by rw [sizeB] at hk; exact hk, Nat.zero_le _, h3⟩
    simp [this]

set_option maxHeartbeats 1000000 in
theorem decimal_any (s : ByteArray) (w : World) :
    Calls Tryz.prog 79 #[.string s] w fun e w' => e = .returned (.bool (decB s.data.toList)) ∧ RowKit.Below w.heap.size w w' := by
  by_cases h0 : s.data.toList = []
  · have hb : decB s.data.toList = false := by simp [decB, h0]
    rw [hb]
    have h2 : s.toList = [] := by rw [Lib.toList_data]; exact h0
    have h1 : (!s.toList.isEmpty) = false := by rw [h2]; rfl
    clear hb h0
    go_enter Tryz.func79, Tryz.ntmps79
    go_wp2_with fail
    go_ret
    exact ⟨rfl, Below.refl _ _⟩
  · have hb : decB s.data.toList = s.data.toList.all dgt := by
      have : s.data.toList.isEmpty = false := by
        cases hl : s.data.toList with
        | nil => exact absurd hl h0
        | cons a l => rfl
      unfold decB
      rw [this]; rfl
    rw [hb]
    have h2 : ¬ s.toList = [] := by rw [Lib.toList_data]; exact h0
    have h1 : (!s.toList.isEmpty) = true := by
      cases hl : s.toList with
      | nil => exact absurd hl h2
      | cons a l => rfl
    have hcf : ∀ W, Calls Tryz.prog 109 #[.string s, .func (.func 110) #[] #[]] W fun e w' => e = .returned (.bool (!(s.data.toList.all dgt))) ∧ RowKit.Below W.heap.size W w' := by
      intro W
      have := Tryz.strings_ContainsFunc_runes 110 #[] (fun args w => enter_of Tryz.func110 (by kernel_rfl) rfl args w) badR s W
        (fun W' x hx _ => (badR_any x hx W').mono fun e w' h => ⟨h.1, 0, h.2⟩)
      rw [idx_all] at this
      exact this
    have HC := Lib.hid hcf
    obtain ⟨bb, ebb⟩ : ∃ bb, s.data.toList.all dgt = bb := ⟨_, rfl⟩
    rw [ebb] at HC ⊢
    clear hb hcf ebb h0
    go_enter Tryz.func79, Tryz.ntmps79
    go_wp2_with fail
    refine (HC.out _).mono ?_
    rintro e w' ⟨rfl, hb⟩
    go_wp2_with fail
    go_ret
    exact ⟨by simp, hb⟩
end Go.Proofs.YtnddickcnfodfaaGreatDoor.Bi

namespace Go.Proofs.YtnddickcnfodfaaGreatDoor.Bi
open Go.RowKit

def negB (l : List UInt8) : Bool := Lib.hasPrefix l [45]
def bodyB (l : List UInt8) : List UInt8 := Lib.trimPrefix l [45]
/-- The number with a text, if there is one. -/
def readS (l : List UInt8) : Option Int :=
  if decB (bodyB l) = true ∧ ¬ ((bodyB l).head? = some 48 ∧ l ≠ [48]) then some (if negB l then -(numB (bodyB l) : Int) else numB (bodyB l)) else none

theorem cut_at (s : ByteArray) : ∃ R : ByteArray, R.data.toList = bodyB s.data.toList ∧ ∀ W, Calls Tryz.prog 78 #[.string s, .string ⟨#[45]⟩] W fun e w' => e = .returned (.tuple #[.string R, .bool (negB s.data.toList)]) ∧ w' = W :=
  ⟨⟨(bodyB s.data.toList).toArray⟩, by simp, fun W => Tryz.strings_CutPrefix s ⟨#[45]⟩ W⟩
theorem Res.start (w : World) : Res w (w.alloc (.cells #[.int .i64 0, .slice none 0 0] 24)) := alloc_at w _
theorem Res.later {w W W' : World} (h : Res w W) (hb : RowKit.Below W.heap.size W W') : Res w W' := (hb.block _ (Array.getElem?_eq_some_iff.1 h).1).trans h
theorem Ans.none {w W : World} (hb : RowKit.Below w.heap.size w W) (u v : Value) : Ans 0 2 w (.returned (.tuple #[.agg #[.int .i64 0, .slice none 0 0], .int .i64 2])) ((W.setCell ⟨w.heap.size, 0, none⟩ u).setCell ⟨w.heap.size, 1, none⟩ v) :=
  ⟨_, rfl, by rw [show (0 : Int).natAbs = 0 from rfl, digs_zero]; exact Ints.nil _, (hb.setCell (Nat.le_refl _) _).setCell (Nat.le_refl _) _, fun g _ => off_nil g 0 0⟩

theorem read_none_dec (s : ByteArray) (h : decB (bodyB s.data.toList) = false) (w : World) : Calls Tryz.prog 52 #[.string s] w (Ans 0 2 w) := by
  obtain ⟨R, hR, hcut⟩ := cut_at s
  have hdec : ∀ W, Calls Tryz.prog 79 #[.string R] W fun e w' => e = .returned (.bool false) ∧ RowKit.Below W.heap.size W w' := fun W => by
    have := decimal_any R W
    rwa [hR, h] at this
  have HC := Lib.hid hcut
  have HD := Lib.hid hdec
  have HR := Lib.hid (Res.start w)
  clear hcut hdec hR h
  go_enter Tryz.func52, Tryz.ntmps52
  go_wp2_with fail
  refine (HC.out _).mono ?_
  rintro e w' ⟨rfl, rfl⟩
  go_wp2_with fail
  refine (HD.out _).mono ?_
  rintro e w1 ⟨rfl, hb⟩
  have HR1 := Lib.hid (HR.out.later hb)
  have HB := Lib.hid ((below_alloc w _).trans (hb.mono (by simp)))
  obtain ⟨r0, r1, f0, f1⟩ := HR1.out.cells
  clear hb
  go_wp2_with fail
  exact bodyPost_ret (v := .tuple #[.agg #[.int .i64 0, .slice none 0 0], .int .i64 2]) (by simp [results, Tryz.results52, go_sem, r0, r1]) rfl (Ans.none HB.out _ _)

theorem head_get {R : ByteArray} (h : 0 < R.size) : R.data.toList.head? = some R[0] := by
  have h1 : 0 < R.data.toList.length := by rw [sizeB]; exact h
  cases hl : R.data.toList with
  | nil => rw [hl] at h1; simp at h1
  | cons a l =>
    have e : R[0] = R.data.toList[0] := rfl
    simp only [List.head?_cons]
    rw [e]
    simp [hl]
theorem read_none_zero (s : ByteArray) (h : decB (bodyB s.data.toList) = true) (h0 : (bodyB s.data.toList).head? = some 48) (h1 : s.data.toList ≠ [48]) (w : World) : Calls Tryz.prog 52 #[.string s] w (Ans 0 2 w) := by
  obtain ⟨R, hR, hcut⟩ := cut_at s
  have hdec : ∀ W, Calls Tryz.prog 79 #[.string R] W fun e w' => e = .returned (.bool true) ∧ RowKit.Below W.heap.size W w' := fun W => by
    have := decimal_any R W
    rwa [hR, h] at this
  have hsz : 0 < R.size := by
    rcases Nat.eq_zero_or_pos R.size with e | e
    · rw [← sizeB, hR] at e
      rw [List.eq_nil_of_length_eq_zero e] at h0
      cases h0
    · exact e
  have hz : R[0] = 48 := by
    have := head_get hsz
    rw [hR, h0] at this
    exact (Option.some.inj this).symm
  have hz2 : ((R[0].toNat : Int) == 48) = true := by rw [hz]; rfl
  have hs2 : ¬ s.toList = [48] := by rw [Lib.toList_data]; exact h1
  have hs3 : (!s.toList == [48]) = true := by simpa using hs2
  have HC := Lib.hid hcut
  have HD := Lib.hid hdec
  have HR := Lib.hid (Res.start w)
  clear hcut hdec hR h h0 h1 hz
  go_enter Tryz.func52, Tryz.ntmps52
  go_wp2_with fail
  refine (HC.out _).mono ?_
  rintro e w' ⟨rfl, rfl⟩
  go_wp2_with fail
  refine (HD.out _).mono ?_
  rintro e w1 ⟨rfl, hb⟩
  have HR1 := Lib.hid (HR.out.later hb)
  have HB := Lib.hid ((below_alloc w _).trans (hb.mono (by simp)))
  obtain ⟨r0, r1, f0, f1⟩ := HR1.out.cells
  clear hb
  go_wp2_with fail
  exact bodyPost_ret (v := .tuple #[.agg #[.int .i64 0, .slice none 0 0], .int .i64 2]) (by simp [results, Tryz.results52, go_sem, r0, r1]) rfl (Ans.none HB.out _ _)

theorem numB_app : ∀ (b a : List UInt8), numB (a ++ b) = numB a * 10 ^ b.length + numB b := by
  intro b
  induction b with
  | nil => intro a; simp [numB]
  | cons c b ih =>
    intro a
    have h1 := ih (a ++ [c])
    have h2 := ih [c]
    have e1 : a ++ [c] ++ b = a ++ c :: b := by simp
    have e2 : [c] ++ b = c :: b := rfl
    have e3 : numB [c] = c.toNat - 48 := by simp [numB]
    rw [e1, numB_snoc] at h1
    rw [e2, e3] at h2
    rw [h1, h2, List.length_cons, Nat.pow_succ]
    generalize 10 ^ b.length = p
    generalize numB a = x
    generalize c.toNat - 48 = y
    grind
theorem ext_take (R : ByteArray) (n : Nat) : (R.extract 0 n).data.toList = R.data.toList.take n := by
  simp [ByteArray.data_extract, List.extract_eq_take_drop]
theorem ext_drop (R : ByteArray) (n : Nat) : (R.extract n R.size).data.toList = R.data.toList.drop n := by
  have : R.size = R.data.toList.length := (sizeB R).symm
  rw [this]
  simp [ByteArray.data_extract, List.take_of_length_le]
/-- The relation of the loop over groups: of the decimal digits D, R is left, and L is the value of the others. -/
structure RdR (w : World) (D : List UInt8) (R : ByteArray) (v : Value) (L : List Int) (W : World) : Prop where
  own : OwnI W v L
  dig : Dig L
  split : ∃ p, R.data.toList = D.drop p ∧ p ≤ D.length ∧ val L = numB (D.take p) ∧ L.length ≤ 2 * p ∧ (p = 0 ∨ R.size % 12 = 0)
  res : Res w W
  below : RowKit.Below w.heap.size w W
  new : ∀ b, blk v = some b → w.heap.size + 1 ≤ b
theorem RdR.size_le {w : World} {D : List UInt8} {R : ByteArray} {v : Value} {L : List Int} {W : World} (h : RdR w D R v L W) : R.size ≤ D.length := by
  obtain ⟨p, h1, h2, _⟩ := h.split
  rw [← sizeB, h1, List.length_drop]; omega
theorem RdR.next {w : World} {D : List UInt8} {R : ByteArray} {v : Value} {L : List Int} {W W' : World} {a : Option Addr} {c : Nat} {L' : List Int} {n : Nat} (h : RdR w D R v L W) (hn : n = (R.size - 1) % 12 + 1) (hR : 0 < R.size)
    (ho : OwnI W' (.slice a L'.length c) L') (hd : Dig L') (hv : val L' = val L * 1000000000000 + (numB (R.extract 0 n).data.toList : Int)) (hg : W.grownBy W' (blk v)) (hb : ∀ b, blk (.slice a L'.length c) = some b → blk v = some b ∨ W.heap.size ≤ b) (hl : L'.length ≤ L.length + 2) :
    RdR w D (R.extract n R.size) (.slice a L'.length c) L' W' := by
  obtain ⟨p, h1, h2, h3, h4, h5⟩ := h.split
  have hsz : R.size = D.length - p := by rw [← sizeB, h1, List.length_drop]
  have hnle : n ≤ R.size := by have := Nat.mod_le (R.size - 1) 12; omega
  have hlt : w.heap.size < W.heap.size := (Array.getElem?_eq_some_iff.1 h.res).1
  have hdr := ext_drop R n
  refine ⟨ho, hd, ⟨p + n, by rw [hdr, h1, List.drop_drop], by omega, ?_, by omega, .inr ?_⟩, ?_, ?_, ?_⟩
  · rw [hv, h3, ext_take, h1, List.take_add, numB_app]
    have hlen : ((D.drop p).take n).length = n := by rw [List.length_take, List.length_drop]; omega
    rw [hlen]
    rcases h5 with rfl | h5
    · have : numB (D.take 0) = 0 := by simp [numB]
      rw [this]; omega
    · have hn12 : n = 12 := by omega
      rw [hn12]; omega
  · rw [← sizeB, hdr, List.length_drop, sizeB]; omega
  · unfold Res
    rw [hg.block _ hlt (fun e => by have := h.new _ e.symm; omega)]
    exact h.res
  · refine h.below.grown hg h.below.size (fun k hk => by have := h.new k hk; omega)
  · intro b hb'
    rcases hb b hb' with h' | h'
    · exact h.new b h'
    · have := h.below.size; omega
theorem RdR.start {w W : World} {D : List UInt8} {R : ByteArray} (hR : R.data.toList = D) (hr : Res w W) (hb : RowKit.Below w.heap.size w W) : RdR w D R (.slice none 0 0) [] W :=
  ⟨OwnI.nil _, Dig.nil, ⟨0, by simpa using hR, Nat.zero_le _, by simp [numB, val], by simp, .inl rfl⟩, hr, hb, fun b hb => by simp [blk] at hb⟩

set_option maxHeartbeats 4000000 in
theorem read_some (s : ByteArray) (hs : s.size ≤ 100000) (h : decB (bodyB s.data.toList) = true) (h0 : ¬ ((bodyB s.data.toList).head? = some 48 ∧ s.data.toList ≠ [48])) (z : Int) (hz : z = if negB s.data.toList then -(numB (bodyB s.data.toList) : Int) else numB (bodyB s.data.toList)) (w : World) :
    Calls Tryz.prog 52 #[.string s] w (Ans z 0 w) := by
  obtain ⟨R, hR, hcut⟩ := cut_at s
  have hdec : ∀ W, Calls Tryz.prog 79 #[.string R] W fun e w' => e = .returned (.bool true) ∧ RowKit.Below W.heap.size W w' := fun W => by
    have := decimal_any R W
    rwa [hR, h] at this
  have hsz : 0 < R.size := by
    rcases Nat.eq_zero_or_pos R.size with e | e
    · rw [← sizeB, hR] at e
      rw [List.eq_nil_of_length_eq_zero e] at h
      cases h
    · exact e
  have hDl : (bodyB s.data.toList).length ≤ 100000 := by
    unfold bodyB Lib.trimPrefix
    split
    · rw [List.length_drop, sizeB]; omega
    · rw [sizeB]; exact hs
  have hall : ∀ c ∈ bodyB s.data.toList, dgt c = true := by
    simp only [decB, Bool.and_eq_true] at h
    exact fun c hc => List.all_eq_true.1 h.2 c hc
  have hcase : ((R[0].toNat : Int) == 48) = false ∨ (((R[0].toNat : Int) == 48) = true ∧ (!s.toList == [48]) = false) := by
    by_cases hz0 : R[0] = 48
    · right
      have := head_get hsz
      rw [hz0, hR] at this
      have h1 : s.data.toList = [48] := Classical.byContradiction fun hne => h0 ⟨this, hne⟩
      exact ⟨by rw [hz0]; rfl, by rw [Lib.toList_data, h1]; rfl⟩
    · left
      have : R[0].toNat ≠ 48 := fun e => hz0 (by rw [← UInt8.toNat_inj]; exact e)
      simp; omega
  obtain ⟨D, eD⟩ : ∃ D, bodyB s.data.toList = D := ⟨_, rfl⟩
  obtain ⟨ng, eng⟩ : ∃ ng, negB s.data.toList = ng := ⟨_, rfl⟩
  rw [eD] at hR hDl hall hz
  rw [eng] at hz hcut
  have HC := Lib.hid hcut
  have HD := Lib.hid hdec
  have HR := Lib.hid (Res.start w)
  have HRD := Lib.hid hR
  have HDL := Lib.hid hDl
  have HALL := Lib.hid hall
  have HCASE := Lib.hid hcase
  have HZ := Lib.hid hz
  clear hcut hdec hR h h0 hz hDl hall hcase eD eng hs
  go_enter Tryz.func52, Tryz.ntmps52
  go_wp2_with fail
  refine (HC.out _).mono ?_
  rintro e w' ⟨rfl, rfl⟩
  go_wp2_with fail
  refine (HD.out _).mono ?_
  rintro e w1 ⟨rfl, hb⟩
  have HS0 := Lib.hid (RdR.start HRD.out (HR.out.later hb) ((below_alloc w _).trans (hb.mono (by simp))))
  clear hb
  rcases HCASE.out with hc1 | ⟨hc1, hc2⟩
  all_goals
    go_wp2_with fail
    clear hc1
    try clear hc2
    go_loopw [4, 6] (fun r v wr => ∃ (R : ByteArray) (L : List Int), r = .string R ∧ RdR w D R v L wr) (fun r _ _ => match r with | .string R => R.size | _ => 0)
    case atStart => exact ⟨R, [], rfl, HS0.out⟩
    case round =>
      obtain ⟨R2, L, rfl, hr⟩ := hrel
      obtain ⟨a0, c0, rfl, _, _⟩ := hr.own.shape
      have hle := hr.size_le
      have hDl := HDL.out
      by_cases hpos : 0 < R2.size
      · have hk : R2.size ≤ 100000 := by omega
        obtain ⟨n, en⟩ : ∃ n, (R2.size - 1) % 12 + 1 = n := ⟨_, rfl⟩
        have hn : ((R2.size : Int) - 1) % 12 + 1 = (n : Int) := by omega
        have hn1 : 1 ≤ n ∧ n ≤ 12 ∧ n ≤ R2.size := by have := Nat.mod_le (R2.size - 1) 12; omega
        have HE := Lib.hid en
        have HRR := Lib.hid hr
        clear hr hle hDl en
        have hN1 : (R2.extract 0 n).size ≤ 12 := by rw [← sizeB, ext_take, List.length_take, sizeB]; omega
        have hN2 : ∀ c ∈ (R2.extract 0 n).data.toList, dgt c = true := by
          intro c hc
          obtain ⟨p, h1, _⟩ := HRR.out.split
          rw [ext_take, h1] at hc
          exact HALL.out c (List.mem_of_mem_drop (List.mem_of_mem_take hc))
        have hN3 := numB_12 (by rw [sizeB]; exact hN1) hN2
        have HN1 := Lib.hid hN1
        have HN2 := Lib.hid hN2
        clear hN1 hN2
        obtain ⟨u, eu⟩ : ∃ u, numB (R2.extract 0 n).data.toList = u := ⟨_, rfl⟩
        have hLl : L.length ≤ 1000000 := by
          obtain ⟨p, _, h2, _, h4, _⟩ := HRR.out.split
          have := HDL.out; omega
        have HL := Lib.hid hLl
        clear hLl
        rw [eu] at hN3
        have HU := Lib.hid eu
        clear eu
        go_wp2_with fail
        refine (number_any _ HN1.out HN2.out _).mono ?_
        rintro e w' ⟨rfl, rfl⟩
        rw [HU.out]
        go_wp2_with fail
        refine (extend_any _ L (u : Int) (by omega) HRR.out.dig HL.out _ HRR.out.own).mono ?_
        rintro e w' ⟨a3, c3, L3, rfl, ho3, hd3, hv3, hg3, hb3, hl3⟩
        have HF := Lib.hid (HRR.out.next (n := n) HE.out.symm hpos ho3 hd3 (by rw [HU.out]; exact hv3) hg3 hb3 hl3)
        clear ho3 hd3 hv3 hg3 hb3 hl3
        go_wp2_with fail
        go_roundw
        case rel => exact ⟨_, L3, rfl, HF.out⟩
        case measure =>
          have : (R2.extract n R2.size).size < R2.size := by rw [← sizeB, ext_drop, List.length_drop, sizeB]; omega
          simpa using this
      · have hz0 : R2.size = 0 := by omega
        have hnz : ¬ (0 < R2.size) := hpos
        have hend : val L = numB D := by
          obtain ⟨p, h1, h2, h3, _⟩ := hr.split
          have : D.length ≤ p := by
            have h4 : R2.data.toList.length = 0 := by rw [sizeB]; exact hz0
            rw [h1, List.length_drop] at h4; omega
          rw [h3, List.take_of_length_le this]
        have HEND := Lib.hid hend
        have HRR := Lib.hid hr
        have HLI : Hid (Ints wr (.slice a0 L.length c0) L) := hr.own.ints (by obtain ⟨p, _, h2, _, h4, _⟩ := hr.split; have := HDL.out; omega)
        clear hend hr hle hDl hz0
        cases ng
        · have hsig := fun W hW => signed_any 1 a0 c0 L HRR.out.dig z (by rw [HEND.out, HZ.out]; simp) (fun hne => by have := HZ.out; simp at this; rw [Int.sign_eq_one_of_pos (by omega)]) W hW
          have HSG := Lib.hid hsig
          clear hsig
          go_wp2_with fail
          refine (HSG.out _ HLI.out).mono ?_
          rintro e w5 ⟨s5, rfl, hi5, hb5, ho5⟩
          obtain ⟨a5, c5, rfl, hi6⟩ := hi5.open
          have HO5 := Lib.hid ho5
          have HI6 := Lib.hid hi6
          have HB5 := Lib.hid (HRR.out.below.trans (hb5.mono HRR.out.below.size))
          have hres := HRR.out.res.later hb5
          obtain ⟨r0, r1, f0, f1⟩ := hres.cells
          clear hi5 hi6 hb5 ho5 hres
          go_wp2_with fail
          have hf := blk_fresh HRR.out.own HRR.out.new
          have hoff := HO5.out w.heap.size (hf _ (by omega))
          exact bodyPost_ret (v := .tuple #[.agg #[.int .i64 z.sign, .slice a5 (digs z.natAbs).length c5], .int .i64 0]) (by simp [results, Tryz.results52, go_sem, r0, r1]) rfl
            ⟨_, rfl, (HI6.out.set hoff 0 _).set hoff 1 _, (HB5.out.setCell (Nat.le_refl _) _).setCell (Nat.le_refl _) _, fun g hg => HO5.out g (hf g (by omega))⟩
        · have hsig := fun W hW => signed_any (-1) a0 c0 L HRR.out.dig z (by rw [HEND.out, HZ.out]; simp) (fun hne => by have := HZ.out; simp at this; rw [Int.sign_eq_neg_one_of_neg (by omega)]) W hW
          have HSG := Lib.hid hsig
          clear hsig
          go_wp2_with fail
          refine (HSG.out _ HLI.out).mono ?_
          rintro e w5 ⟨s5, rfl, hi5, hb5, ho5⟩
          obtain ⟨a5, c5, rfl, hi6⟩ := hi5.open
          have HO5 := Lib.hid ho5
          have HI6 := Lib.hid hi6
          have HB5 := Lib.hid (HRR.out.below.trans (hb5.mono HRR.out.below.size))
          have hres := HRR.out.res.later hb5
          obtain ⟨r0, r1, f0, f1⟩ := hres.cells
          clear hi5 hi6 hb5 ho5 hres
          go_wp2_with fail
          have hf := blk_fresh HRR.out.own HRR.out.new
          have hoff := HO5.out w.heap.size (hf _ (by omega))
          exact bodyPost_ret (v := .tuple #[.agg #[.int .i64 z.sign, .slice a5 (digs z.natAbs).length c5], .int .i64 0]) (by simp [results, Tryz.results52, go_sem, r0, r1]) rfl
            ⟨_, rfl, (HI6.out.set hoff 0 _).set hoff 1 _, (HB5.out.setCell (Nat.le_refl _) _).setCell (Nat.le_refl _) _, fun g hg => HO5.out g (hf g (by omega))⟩

theorem read_any (s : ByteArray) (hs : s.size ≤ 100000) (w : World) :
    Calls Tryz.prog 52 #[.string s] w (match readS s.data.toList with | some z => Ans z 0 w | none => Ans 0 2 w) := by
  unfold readS
  by_cases h : decB (bodyB s.data.toList) = true
  · by_cases h0 : (bodyB s.data.toList).head? = some 48 ∧ s.data.toList ≠ [48]
    · rw [if_neg (fun h' => h'.2 h0)]
      exact read_none_zero s h h0.1 h0.2 w
    · rw [if_pos ⟨h, h0⟩]
      exact read_some s hs h h0 _ rfl w
  · rw [if_neg (fun h' => h h'.1)]
    exact read_none_dec s (by simpa using h) w
end Go.Proofs.YtnddickcnfodfaaGreatDoor.Bi
