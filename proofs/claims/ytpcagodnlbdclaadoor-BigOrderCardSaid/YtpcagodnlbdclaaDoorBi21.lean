/- The contracts of number, decimal. -/
import Derived.Test.YtpcagodnlbdclaaDoorBi20
import Derived.Laws.RangeString
import Derived.Laws.RangeAny
set_option maxRecDepth 100000
namespace Go.Proofs.YtpcagodnlbdclaaDoor.Bi
open Go.RowKit

/-- A decimal digit. -/
def dgt (c : UInt8) : Bool := decide (48 ≤ c.toNat) && decide (c.toNat ≤ 57)
/-- The value of decimal digits. -/
def numB (l : List UInt8) : Nat := l.foldl (fun n c => n * 10 + (c.toNat - 48)) 0
theorem numB_snoc (l : List UInt8) (c : UInt8) : numB (l ++ [c]) = numB l * 10 + (c.toNat - 48) := by simp [numB, List.foldl_append]
theorem dgt_of {c : UInt8} (h : dgt c = true) : 48 ≤ c.toNat ∧ c.toNat ≤ 57 := by simpa [dgt] using h
theorem take_snocB (s : ByteArray) (k : Nat) (h : k < s.size) : s.data.toList.take (k + 1) = s.data.toList.take k ++ [s[k]] := by
  rw [List.take_succ_eq_append_getElem (by simpa using h)]; rfl
theorem sizeB (s : ByteArray) : s.data.toList.length = s.size := by rw [Array.length_toList]; rfl
theorem memB (s : ByteArray) (k : Nat) (h : k < s.size) : s[k] ∈ s.data.toList := by
  have : s.data.toList[k]'(by rw [sizeB]; exact h) = s[k] := rfl
  rw [← this]; exact List.getElem_mem _
theorem numB_lt : ∀ (n : Nat) (l : List UInt8), l.length = n → (∀ c ∈ l, dgt c = true) → numB l < 10 ^ n := by
  intro n
  induction n with
  | zero => intro l hl _; obtain rfl := List.eq_nil_of_length_eq_zero hl; simp [numB]
  | succ n ih =>
    intro l hl hd
    obtain ⟨m, c, rfl⟩ : ∃ m c, l = m ++ [c] := by
      rcases List.eq_nil_or_concat l with rfl | ⟨m, c, rfl⟩
      · simp at hl
      · exact ⟨m, c, by simp⟩
    have h1 := ih m (by simp at hl; omega) (fun c' h => hd c' (by simp [h]))
    have h2 := dgt_of (hd c (by simp))
    rw [numB_snoc, Nat.pow_succ]; omega
theorem numB_12 {l : List UInt8} (h : l.length ≤ 12) (hd : ∀ c ∈ l, dgt c = true) : numB l < 1000000000000 := by
  have h1 := numB_lt _ l rfl hd
  have : 10 ^ l.length ≤ 10 ^ 12 := Nat.pow_le_pow_right (by omega) h
  omega

set_option maxHeartbeats 1000000 in
theorem number_any (s : ByteArray) (hs : s.size ≤ 12) (hd : ∀ c ∈ s.data.toList, dgt c = true) (w : World) :
    Calls Tryd.prog 53 #[.string s] w fun e w' => e = .returned (.int .i64 (numB s.data.toList)) ∧ w' = w := by
  have HD := Lib.hid hd
  clear hd
  go_enter Tryd.func53, Tryd.ntmps53
  go_wp2_with fail
  go_loop [3, 7] (fun n t => ∃ k : Nat, k ≤ s.size ∧ t = .int .i64 k ∧ n = .int .i64 (numB (s.data.toList.take k))) (fun _ t => s.size - (intOf t).toNat)
  case atStart => exact ⟨0, Nat.zero_le _, rfl, by simp [numB]⟩
  case round =>
    obtain ⟨k, hk, rfl, rfl⟩ := hrel
    by_cases hlt : k < s.size
    · have hb := numB_12 (l := s.data.toList.take k) (by rw [List.length_take, sizeB]; omega) (fun c hc => HD.out c (List.mem_of_mem_take hc))
      have hdg := dgt_of (HD.out _ (memB s k hlt))
      have HN : Hid (numB (s.data.toList.take (k + 1)) = numB (s.data.toList.take k) * 10 + (s[k].toNat - 48)) := by unfold Hid; rw [take_snocB s k hlt, numB_snoc]
      obtain ⟨N, eN⟩ : ∃ N, numB (s.data.toList.take k) = N := ⟨_, rfl⟩
      rw [eN] at hb HN ⊢
      clear eN
      have h48 : IntKind.u8.wrap ((s[k].toNat : Int) - 48) = (s[k].toNat : Int) - 48 := IntWalk.u8_in _ (by omega)
      go_wp2_with fail
      go_round
      case rel => exact ⟨k + 1, by omega, by go_num, by rw [HN.out]; congr 1; omega⟩
      case measure => simp [intOf]; omega
    · obtain rfl : k = s.size := by omega
      go_wp2_with fail
      go_ret
      exact ⟨ret_i (by rw [List.take_of_length_le (by rw [sizeB]; omega)]), rfl⟩

/-- A rune that is no decimal digit. -/
def badR (r : Nat) : Bool := decide (r < 48) || decide (57 < r)
theorem badR_any (r : Nat) (hr : r ≤ 1114111) (w : World) : Calls Tryd.prog 78 #[.int .i32 (r : Int)] w fun e w' => e = .returned (.bool (badR r)) ∧ w' = w := by
  obtain ⟨R, hR⟩ : ∃ R : Int, (r : Int) = R := ⟨_, rfl⟩
  have hbd : 0 ≤ R ∧ R ≤ 1114111 := by omega
  have hb : badR r = (decide (R < 48) || decide (57 < R)) := by
    unfold badR
    rw [decide_eq_decide.2 (show r < 48 ↔ R < 48 by omega), decide_eq_decide.2 (show 57 < r ↔ 57 < R by omega)]
  rw [hb, hR]
  clear hb hR
  by_cases h : R < 48
  · have hb : (decide (R < 48) || decide (57 < R)) = true := by simp [h]
    rw [hb]
    clear hb
    go_enter Tryd.func78, Tryd.ntmps78
    go_wp2
    go_ret
    exact ⟨rfl, rfl⟩
  · by_cases h1 : 57 < R
    · have hb : (decide (R < 48) || decide (57 < R)) = true := by simp [h1]
      rw [hb]
      clear hb
      go_enter Tryd.func78, Tryd.ntmps78
      go_wp2
      go_ret
      exact ⟨rfl, rfl⟩
    · have hb : (decide (R < 48) || decide (57 < R)) = false := by simp; omega
      rw [hb]
      clear hb
      have hd1 : decide (R < 48) = false := by simpa using h
      have hd2 : decide (57 < R) = false := by simpa using h1
      go_enter Tryd.func78, Tryd.ntmps78
      go_wp2
      go_ret
      exact ⟨rfl, rfl⟩
theorem enter_of {P : Program} {f : FuncId} {fn : Func} {c : Code} (hf : P.funcs[f]? = some fn) (hname : (fn.name == "runtime.NumGoroutine") = false) (hb : fn.body = some c) (args : Array Value) (w : World) :
    (callFunc f args).run P w = .ok (.enter f args) w := by
  have h1 : fn.name ≠ "runtime.NumGoroutine" := by simpa using hname
  simp [callFunc, hf, h1, hb]
theorem idx_dec (s : ByteArray) : ∀ (f pos : Nat), s.size ≤ pos + f → (0 ≤ Lib.idxFuncFrom badR true s f pos ↔ ∃ k, ∃ h : k < s.size, pos ≤ k ∧ dgt s[k] = false)
  | 0, pos, hf => by
    unfold Lib.idxFuncFrom
    refine ⟨fun h => by omega, fun ⟨k, h, hk, _⟩ => by omega⟩
  | f + 1, pos, hf => by
    unfold Lib.idxFuncFrom
    by_cases hp : pos < s.size
    · rw [if_pos hp]
      by_cases hd : dgt s[pos] = true
      · have hd' := dgt_of hd
        rw [decode_ascii s pos hp (by omega)]
        have hb : badR s[pos].toNat = false := by simp [badR]; omega
        rw [hb, if_neg (by simp), idx_dec s f (pos + 1) (by omega)]
        constructor
        · rintro ⟨k, h, hk, h2⟩; exact ⟨k, h, by omega, h2⟩
        · rintro ⟨k, h, hk, h2⟩
          refine ⟨k, h, ?_, h2⟩
          rcases Nat.lt_or_ge pos k with h3 | h3
          · omega
          · obtain rfl : k = pos := by omega
            rw [hd] at h2; cases h2
      · have hd' : dgt s[pos] = false := by simpa using hd
        have hb : badR (Utf8.decode s pos).1 = true := by
          by_cases ha : (s[pos]'hp).toNat < 128
          · rw [decode_ascii s pos hp ha]
            simp [dgt] at hd'
            simp [badR]; omega
          · have := (decode_high s pos hp (by omega)).1
            simp [badR]; omega
        rw [hb, if_pos rfl]
        exact ⟨fun _ => ⟨pos, hp, Nat.le_refl _, hd'⟩, fun _ => by omega⟩
    · rw [if_neg hp]
      exact ⟨fun h => by omega, fun ⟨k, h, hk, _⟩ => by omega⟩
def decB (l : List UInt8) : Bool := !l.isEmpty && l.all dgt
theorem idx_all (s : ByteArray) : decide (0 ≤ Lib.idxFunc badR true s) = !(s.data.toList.all dgt) := by
  unfold Lib.idxFunc
  have h := idx_dec s s.size 0 (by omega)
  by_cases ha : s.data.toList.all dgt = true
  · rw [ha]
    have : ¬ 0 ≤ Lib.idxFuncFrom badR true s s.size 0 := by
      rw [h]
      rintro ⟨k, hk, _, h2⟩
      have := List.all_eq_true.1 ha _ (memB s k hk)
      rw [this] at h2; cases h2
    simp; omega
  · have ha' : s.data.toList.all dgt = false := by simpa using ha
    rw [ha']
    have : 0 ≤ Lib.idxFuncFrom badR true s s.size 0 := by
      rw [h]
      rw [List.all_eq_false] at ha'
      obtain ⟨c, hc, h2⟩ := ha'
      obtain ⟨k, hk, rfl⟩ := List.getElem_of_mem hc
      have h3 : dgt (s.data.toList[k]) = false := by simpa only [Bool.not_eq_true] using h2
      exact ⟨k, by rw [sizeB] at hk; exact hk, Nat.zero_le _, h3⟩
    simp [this]

set_option maxHeartbeats 1000000 in
theorem decimal_any (s : ByteArray) (w : World) :
    Calls Tryd.prog 51 #[.string s] w fun e w' => e = .returned (.bool (decB s.data.toList)) ∧ RowKit.Below w.heap.size w w' := by
  by_cases h0 : s.data.toList = []
  · have hb : decB s.data.toList = false := by simp [decB, h0]
    rw [hb]
    have h2 : s.toList = [] := by rw [Lib.toList_data]; exact h0
    have h1 : (!s.toList.isEmpty) = false := by rw [h2]; rfl
    clear hb h0
    go_enter Tryd.func51, Tryd.ntmps51
    go_wp2_with fail
    go_ret
    exact ⟨rfl, Below.refl _ _⟩
  · have hb : decB s.data.toList = s.data.toList.all dgt := by
      have : s.data.toList.isEmpty = false := by
        cases hl : s.data.toList with
        | nil => exact absurd hl h0
        | cons a l => rfl
      unfold decB
      rw [this]; rfl
    rw [hb]
    have h2 : ¬ s.toList = [] := by rw [Lib.toList_data]; exact h0
    have h1 : (!s.toList.isEmpty) = true := by
      cases hl : s.toList with
      | nil => exact absurd hl h2
      | cons a l => rfl
    have hcf : ∀ W, Calls Tryd.prog 77 #[.string s, .func (.func 78) #[] #[]] W fun e w' => e = .returned (.bool (!(s.data.toList.all dgt))) ∧ RowKit.Below W.heap.size W w' := by
      intro W
      have := Tryd.strings_ContainsFunc_runes 78 #[] (fun args w => enter_of Tryd.func78 (by kernel_rfl) rfl args w) badR s W
        (fun W' x hx _ => (badR_any x hx W').mono fun e w' h => ⟨h.1, 0, h.2⟩)
      rw [idx_all] at this
      exact this
    have HC := Lib.hid hcf
    obtain ⟨bb, ebb⟩ : ∃ bb, s.data.toList.all dgt = bb := ⟨_, rfl⟩
    rw [ebb] at HC ⊢
    clear hb hcf ebb h0
    go_enter Tryd.func51, Tryd.ntmps51
    go_wp2_with fail
    refine (HC.out _).mono ?_
    rintro e w' ⟨rfl, hb⟩
    go_wp2_with fail
    go_ret
    exact ⟨by simp, hb⟩
end Go.Proofs.YtpcagodnlbdclaaDoor.Bi
