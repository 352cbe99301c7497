/- The reference of the wire: texts of numbers and strings, the reader. -/
import Derived.Test.YtejddacjncpneaaGreatDoorWi2
import Derived.Outline
import Derived.Laws.IdiomStrings
set_option maxRecDepth 100000
namespace Go.Proofs.YtejddacjncpneaaGreatDoor.Wi
/-- What a call returns, where nothing that was there is turned. -/
def Gives (v : Value) (w : World) (e : Ending) (w' : World) : Prop := e = .returned v ∧ RowKit.Below w.heap.size w w'
open Go

def nat10 (a : Nat) (l : List UInt8) : Nat := l.foldl (fun a c => 10 * a + (c.toNat - 48)) a
theorem nat10_snoc (a : Nat) (l : List UInt8) (c : UInt8) : nat10 a (l ++ [c]) = 10 * nat10 a l + (c.toNat - 48) := by simp [nat10]
theorem nat10_app (a : Nat) (l m : List UInt8) : nat10 a (l ++ m) = nat10 (nat10 a l) m := by simp [nat10]
theorem nat10_ge (l : List UInt8) : ∀ a, a ≤ nat10 a l := by
  induction l with
  | nil => intro a; exact Nat.le_refl _
  | cons c l ih => intro a; have := ih (10 * a + (c.toNat - 48)); simp only [nat10, List.foldl_cons] at *; omega
theorem nat10_take (l : List UInt8) (j : Nat) : nat10 0 (l.take j) ≤ nat10 0 l := by
  conv => rhs; rw [← List.take_append_drop j l, nat10_app]
  exact nat10_ge _ _
theorem nat10_dec (u : Nat) : nat10 0 (Lib.decDigits u) = u := by
  induction u using Nat.strongRecOn with
  | _ u ih =>
    rw [Lib.decDigits]
    split
    · rename_i h
      have e : (UInt8.ofNat (48 + u)).toNat = 48 + u := by simp; omega
      show 10 * 0 + ((UInt8.ofNat (48 + u)).toNat - 48) = u
      rw [e]; omega
    · rename_i h
      have e : (UInt8.ofNat (48 + u % 10)).toNat = 48 + u % 10 := by simp; omega
      rw [nat10_snoc, ih (u / 10) (by omega), e]; omega
theorem nat10_step (l : List UInt8) (j : Nat) (h : j < l.length) : nat10 0 (l.take (j + 1)) = 10 * nat10 0 (l.take j) + (l[j].toNat - 48) := by
  rw [List.take_succ_eq_append_getElem h, nat10_snoc]

/-- The first place at which c stands. -/
theorem pInt_at (c : UInt8) (s : List UInt8) (k : Nat) (hk : k < s.length) (h20 : k ≤ 20) (hc : s[k] = c) (hno : ∀ i (h : i < s.length), i < k → s[i] ≠ c) :
    pInt c s = match Lib.atoiAll (s.take k) with
    | .ok n => if Lib.itoa n = s.take k then some (n, s.drop (k + 1)) else none
    | _ => none := by
  have e : s.take 21 = s.take k ++ c :: (s.drop (k + 1)).take (20 - k) := by
    conv => lhs; rw [← List.take_append_drop k s]
    rw [List.take_append, List.take_of_length_le (by rw [List.length_take]; omega), List.length_take, Nat.min_eq_left (by omega), List.drop_eq_getElem_cons hk, hc]
    rw [show 21 - k = (20 - k) + 1 by omega, List.take_succ_cons]
  have hn : c ∉ s.take k := by
    intro hm
    obtain ⟨i, hi, he⟩ := List.getElem_of_mem hm
    rw [List.length_take] at hi
    rw [List.getElem_take] at he
    exact hno i (by omega) (by omega) he
  have hcut := cut_of c (s.take k) ((s.drop (k + 1)).take (20 - k)) hn
  rw [← e] at hcut
  rw [pInt_eq hcut]
  have hl : (s.take k).length = k := by rw [List.length_take]; omega
  rw [if_pos rfl, hl]
  rfl
theorem pInt_miss (c : UInt8) (s : List UInt8) (hno : ∀ i (h : i < s.length), i < 21 → s[i] ≠ c) : pInt c s = none := by
  rcases hc : Lib.cut (s.take 21) [c] with ⟨d, r, f⟩
  cases f
  · rw [pInt_eq hc]; rfl
  · obtain ⟨h1, _⟩ := cut_hit c _ d r hc
    exfalso
    have hm : c ∈ s.take 21 := by rw [h1]; simp
    obtain ⟨i, hi, he⟩ := List.getElem_of_mem hm
    rw [List.length_take] at hi
    rw [List.getElem_take] at he
    exact hno i (by omega) (by omega) he
theorem pInt_at_some (c : UInt8) (s : List UInt8) (k : Nat) (hk : k < s.length) (h20 : k ≤ 20) (hc : s[k] = c) (hno : ∀ i (h : i < s.length), i < k → s[i] ≠ c)
    (n : Int) (h0 : -9223372036854775808 ≤ n) (h1 : n ≤ 9223372036854775807) (hn : Lib.itoa n = s.take k) : pInt c s = some (n, s.drop (k + 1)) := by
  rw [pInt_at c s k hk h20 hc hno, ← hn, atoi_itoa n h0 h1]; simp
theorem pInt_at_none (c : UInt8) (s : List UInt8) (k : Nat) (hk : k < s.length) (h20 : k ≤ 20) (hc : s[k] = c) (hno : ∀ i (h : i < s.length), i < k → s[i] ≠ c)
    (hn : ∀ n : Int, -9223372036854775808 ≤ n → n ≤ 9223372036854775807 → Lib.itoa n ≠ s.take k) : pInt c s = none := by
  rw [pInt_at c s k hk h20 hc hno]
  split
  · rename_i n hm
    rw [if_neg (hn n (atoi_bd _ n hm).1 (atoi_bd _ n hm).2)]
  · rfl
end Go.Proofs.YtejddacjncpneaaGreatDoor.Wi

namespace Go.Proofs.YtejddacjncpneaaGreatDoor.Wi
open Go.RowKit Go.Sort

theorem conv_digit (u : Nat) (c : UInt8) (e : (c.toNat : Int) = 48 + (u : Int) % 10) (w : World) : (convert 78 9 (.slice (some ⟨w.heap.size, 0, none⟩) 1 1)).run Tryz.prog (w.alloc (.cells #[.int .u8 (48 + (u : Int) % 10)] 5)) =
    .ok (.string ⟨#[c]⟩) (w.alloc (.cells #[.int .u8 (48 + (u : Int) % 10)] 5)) := by
  refine run_convert_bytes_back (w.alloc (.cells #[.int .u8 (48 + (u : Int) % 10)] 5)) 78 9 5 ⟨w.heap.size, 0, none⟩ 1 [c] Tryz.underlying78 Tryz.underlying5 Tryz.underlying9 (fun j hj => ?_)
  match j, hj with
  | 0, _ => simp only [List.getElem_cons_zero]; rw [e]; simp [Addr.add]
theorem digit_of (u : Nat) : ∃ c : UInt8, (c.toNat : Int) = 48 + (u : Int) % 10 ∧ UInt8.ofNat (48 + u % 10) = c := ⟨_, by simp; omega, rfl⟩

set_option maxRecDepth 100000 in
set_option maxHeartbeats 1000000 in
theorem digits_any (k : Nat) : ∀ (u : Nat) (w : World), u ≤ k → u ≤ 9223372036854775808 →
    Calls Tryz.prog 84 #[.int .i64 (-(u : Int))] w (Gives (.string ⟨(Lib.decDigits u).toArray⟩) w) := by
  induction k with
  | zero =>
    intro u w hk hu
    have h10 : u < 10 := by omega
    obtain ⟨c, hcn, hcu⟩ := digit_of u
    have hd : Hid (Lib.decDigits u = [c]) := by unfold Hid; rw [Lib.decDigits_one h10, ← hcu, Nat.mod_eq_of_lt h10]
    have hc := conv_digit u c hcn w
    clear hcn hcu
    go_enter Tryz.func84, Tryz.ntmps84
    go_wp2_with fail
    go_ret
    exact ⟨by rw [hd.out]; rfl, (Below.refl _ _).alloc (Nat.le_refl _) _⟩
  | succ k ih =>
    intro u w hk hu
    obtain ⟨c, hcn, hcu⟩ := digit_of u
    have hc := conv_digit u c hcn w
    by_cases h10 : u < 10
    · have hd : Hid (Lib.decDigits u = [c]) := by unfold Hid; rw [Lib.decDigits_one h10, ← hcu, Nat.mod_eq_of_lt h10]
      clear hcn hcu
      go_enter Tryz.func84, Tryz.ntmps84
      go_wp2_with fail
      go_ret
      exact ⟨by rw [hd.out]; rfl, (Below.refl _ _).alloc (Nat.le_refl _) _⟩
    · have hd : Hid (Lib.decDigits u = Lib.decDigits (u / 10) ++ [c]) := by unfold Hid; rw [Lib.decDigits, dif_neg h10, hcu]
      have hl : (Lib.decDigits (u / 10)).length ≤ 19 := by rw [Lib.decDigits_length]; exact nDigits_le 19 _ (by omega) (by omega)
      clear hcn hcu
      go_enter Tryz.func84, Tryz.ntmps84
      go_wp2_with fail
      refine (ih (u / 10) _ (by omega) (by omega)).mono ?_
      rintro e w1 ⟨rfl, hb⟩
      go_wp2_with fail
      go_ret
      exact ⟨by rw [hd.out]; simp [ba_app], ((Below.refl _ _).alloc (Nat.le_refl _) _).trans (hb.mono (by simp))⟩

theorem digs (n : Int) (h0 : n ≤ 0) (h1 : -9223372036854775808 ≤ n) (w : World) : Calls Tryz.prog 84 #[.int .i64 n] w (Gives (.string ⟨(Lib.itoa (-n)).toArray⟩) w) := by
  have h := digits_any n.natAbs n.natAbs w (Nat.le_refl _) (by omega)
  have e : -((n.natAbs : Nat) : Int) = n := by omega
  rw [e] at h
  have e2 : Lib.itoa (-n) = Lib.decDigits n.natAbs := by rw [show (-n : Int) = ((n.natAbs : Nat) : Int) by omega, Lib.itoa_nonneg]
  rw [e2]; exact h

theorem refInt (n : Int) (h0 : -9223372036854775808 ≤ n) (h1 : n ≤ 9223372036854775807) (w : World) : Calls Tryz.prog 85 #[.int .i64 n] w (Gives (.string ⟨(encInt n).toArray⟩) w) := by
  by_cases hn : n < 0
  · have hd : Hid (Lib.itoa n = 45 :: Lib.itoa (-n)) := by
      unfold Hid
      rw [show n = -((n.natAbs : Nat) : Int) by omega, Lib.itoa_neg _ (by omega), Int.neg_neg, Lib.itoa_nonneg]
    have hll : (Lib.itoa (-n)).length ≤ 20 := by
      rw [show -n = ((n.natAbs : Nat) : Int) by omega, Lib.itoa_nonneg, Lib.decDigits_length]
      have := nDigits_le 19 n.natAbs (by omega) (by omega); omega
    go_enter Tryz.func85, Tryz.ntmps85
    go_wp2_with fail
    refine (digs n (by omega) h0 _).mono ?_
    rintro e w1 ⟨rfl, hb⟩
    go_wp2_with fail
    go_ret
    exact ⟨by simp [encInt, hd.out, ba_app], hb⟩
  · have hll := itoa_len20 n h0 h1
    go_enter Tryz.func85, Tryz.ntmps85
    go_wp2_with fail
    refine (digs (-n) (by omega) (by omega) _).mono ?_
    rintro e w1 ⟨rfl, hb⟩
    rw [Int.neg_neg]
    go_wp2_with fail
    go_ret
    exact ⟨by simp [encInt, ba_app], hb⟩
theorem refNum_neg (n : Int) (h0 : n < 0) (w : World) : Calls Tryz.prog 71 #[.int .i64 n] w (Gives (.string ⟨#[]⟩) w) := by
  go_enter Tryz.func71, Tryz.ntmps71
  go_wp2_with fail
  go_ret
  exact ⟨rfl, Below.refl _ _⟩
theorem refNum (n : Int) (h0 : 0 ≤ n) (h1 : n ≤ 9223372036854775807) (w : World) : Calls Tryz.prog 71 #[.int .i64 n] w (Gives (.string ⟨(encInt n).toArray⟩) w) := by
  go_enter Tryz.func71, Tryz.ntmps71
  go_wp2_with fail
  refine (refInt n (by omega) h1 _).mono ?_
  rintro e w1 ⟨rfl, hb⟩
  go_wp2_with fail
  go_ret
  exact ⟨rfl, hb⟩
theorem refText (s : ByteArray) (h1 : s.size ≤ 1000000) (w : World) : Calls Tryz.prog 70 #[.string s] w (Gives (.string ⟨(encText s.data.toList).toArray⟩) w) := by
  have hll := itoa_len20 s.size (by omega) (by omega)
  go_enter Tryz.func70, Tryz.ntmps70
  go_wp2_with fail
  refine (digs (-(s.size : Int)) (by omega) (by omega) _).mono ?_
  rintro e w1 ⟨rfl, hb⟩
  rw [Int.neg_neg]
  go_wp2_with fail
  go_ret
  exact ⟨by simp [encText, ba_app], hb⟩
end Go.Proofs.YtejddacjncpneaaGreatDoor.Wi

namespace Go.Proofs.YtejddacjncpneaaGreatDoor.Wi
open Go.RowKit Go.Sort

theorem ret_no {v : Value} {a : Bool} (h : a = false) : Ending.returned (.tuple #[v, .bool a]) = .returned (.tuple #[v, .bool false]) := by rw [h]
theorem ret2 {a u : Int} {b : Bool} (h : a = u) (h2 : b = true) : Ending.returned (.tuple #[.int .i64 a, .bool b]) = .returned (.tuple #[.int .i64 u, .bool true]) := by rw [h, h2]
theorem str_eq (ds : List UInt8) : (ds ++ [59] == (({ data := ds.toArray } : ByteArray) ++ { data := #[59] }).toList) = true := by
  rw [beq_iff_eq, ByteArray.toList_eq, ba_app]
def BackNo (w : World) (e : Ending) (w' : World) : Prop := ∃ v, e = .returned (.tuple #[v, .bool false]) ∧ RowKit.Below w.heap.size w w'

set_option maxRecDepth 100000 in
set_option maxHeartbeats 4000000 in
theorem back_pos (n : Int) (h0 : 0 ≤ n) (h1 : n ≤ 9223372036854775807) (w : World) :
    Calls Tryz.prog 92 #[.string ⟨(Lib.itoa n).toArray⟩] w (Gives (.tuple #[.int .i64 n, .bool true]) w) := by
  obtain ⟨u, rfl⟩ : ∃ u : Nat, n = u := ⟨n.toNat, by omega⟩
  rw [Lib.itoa_nonneg]
  obtain ⟨ds, hds⟩ : ∃ ds, ds = Lib.decDigits u := ⟨_, rfl⟩
  have hr : ∀ c ∈ ds, 48 ≤ c.toNat ∧ c.toNat ≤ 57 := by rw [hds]; exact decDigits_range u
  have hne : ds ≠ [] := by rw [hds]; exact decDigits_ne u
  have hl20 : ds.length ≤ 20 := by
    have := itoa_len20 (u : Int) (by omega) h1
    rw [Lib.itoa_nonneg, ← hds] at this; exact this
  have hn10 : nat10 0 ds = u := by rw [hds]; exact nat10_dec u
  rw [← hds]
  have HR := Lib.hid hr
  have HN := Lib.hid hn10
  have HD : Hid (Lib.itoa (u : Int) = ds) := by unfold Hid; rw [Lib.itoa_nonneg, hds]
  have hpos : 0 < ds.length := List.length_pos_iff.2 hne
  have hfirst : ((((⟨ds.toArray⟩ : ByteArray)[0]'hpos).toNat : Int) == 45) = false := by
    have := hr _ (List.getElem_mem hpos)
    rw [beq_eq_false_iff_ne]
    show ((ds[0].toNat : Nat) : Int) ≠ 45
    omega
  clear hr hn10 hds hne
  go_enter Tryz.func92, Tryz.ntmps92
  go_wp2_with fail
  go_loop [5, 6] (fun m i => ∃ k : Nat, k ≤ ds.length ∧ i = .int .i64 k ∧ m = .int .i64 (-(nat10 0 (ds.take k) : Nat) : Int)) (fun _ i => ds.length - (RowKit.intOf i).toNat)
  case atStart => exact ⟨0, by omega, rfl, rfl⟩
  case round =>
    obtain ⟨k, hk, rfl, rfl⟩ := hrel
    obtain ⟨a, ha⟩ : ∃ a, a = nat10 0 (ds.take k) := ⟨_, rfl⟩
    rw [← ha]
    have HA := Lib.hid ha
    clear ha
    by_cases hlt : k < ds.length
    · have hstep := nat10_step ds k hlt
      have hle := nat10_take ds (k + 1)
      rw [HN.out] at hle
      rw [← HA.out] at hstep
      have hc := HR.out _ (List.getElem_mem hlt)
      obtain ⟨c, hcc⟩ : ∃ c, c = ds[k] := ⟨_, rfl⟩
      have hb : ((⟨ds.toArray⟩ : ByteArray)[k]'hlt) = c := hcc.symm
      rw [← hcc] at hc hstep
      rw [hstep] at hle
      have HS := Lib.hid hstep
      clear hstep hcc
      go_wp2_with fail
      go_round
      case rel => exact ⟨k + 1, by omega, by go_num, by rw [HS.out]; congr 1; omega⟩
      case measure => simp [RowKit.intOf]; omega
    · have hau : a = u := by rw [HA.out, List.take_of_length_le (by omega)]; exact HN.out
      have HAU := Lib.hid hau
      have ha2 : a ≤ 9223372036854775807 := by omega
      clear hau
      go_wp2_with fail
      refine (refInt (a : Int) (by omega) (by omega) _).mono ?_
      rintro e w1 ⟨rfl, b1⟩
      have heq : encInt (a : Int) = ds ++ [59] := by rw [encInt, HAU.out, HD.out]
      have HEQ := Lib.hid heq
      clear heq
      go_wp2_with fail
      go_ret2
      exact ⟨ret2 (by rw [HAU.out]) (by rw [HEQ.out]; exact str_eq ds), b1⟩

set_option maxRecDepth 100000 in
set_option maxHeartbeats 4000000 in
theorem back_neg (n : Int) (h0 : n < 0) (h1 : -9223372036854775808 ≤ n) (w : World) :
    Calls Tryz.prog 92 #[.string ⟨(Lib.itoa n).toArray⟩] w (Gives (.tuple #[.int .i64 n, .bool true]) w) := by
  obtain ⟨u, hu, rfl⟩ : ∃ u : Nat, 1 ≤ u ∧ n = -(u : Int) := ⟨n.natAbs, by omega, by omega⟩
  have hl20 := itoa_len20 (-(u : Int)) (by omega) (by omega)
  have HD0 := Lib.hid (rfl : Lib.itoa (-(u : Int)) = Lib.itoa (-(u : Int)))
  have hit : Lib.itoa (-(u : Int)) = 45 :: Lib.decDigits u := Lib.itoa_neg u hu
  obtain ⟨ds, hds⟩ : ∃ ds, ds = Lib.decDigits u := ⟨_, rfl⟩
  have hr : ∀ c ∈ ds, 48 ≤ c.toNat ∧ c.toNat ≤ 57 := by rw [hds]; exact decDigits_range u
  have hn10 : nat10 0 ds = u := by rw [hds]; exact nat10_dec u
  rw [← hds] at hit
  rw [hit] at hl20
  have HD : Hid (Lib.itoa (-(u : Int)) = 45 :: ds) := hit
  rw [hit]
  have HR := Lib.hid hr
  have HN := Lib.hid hn10
  have hls : ds.length + 1 ≤ 20 := by simpa using hl20
  have hpos : 0 < (45 :: ds).length := by simp
  have hfirst : ((((⟨(45 :: ds).toArray⟩ : ByteArray)[0]'hpos).toNat : Int) == 45) = true := rfl
  clear hr hn10 hds hit HD0 hl20
  go_enter Tryz.func92, Tryz.ntmps92
  go_wp2_with fail
  go_loop [5, 6] (fun m i => ∃ k : Nat, k ≤ ds.length ∧ i = .int .i64 ((k + 1 : Nat) : Int) ∧ m = .int .i64 (-(nat10 0 (ds.take k) : Nat) : Int)) (fun _ i => ds.length + 1 - (RowKit.intOf i).toNat)
  case atStart => exact ⟨0, by omega, rfl, rfl⟩
  case round =>
    obtain ⟨k, hk, rfl, rfl⟩ := hrel
    obtain ⟨a, ha⟩ : ∃ a, a = nat10 0 (ds.take k) := ⟨_, rfl⟩
    rw [← ha]
    have HA := Lib.hid ha
    clear ha
    by_cases hlt : k < ds.length
    · have hstep := nat10_step ds k hlt
      have hle := nat10_take ds (k + 1)
      rw [HN.out] at hle
      rw [← HA.out] at hstep
      have hc := HR.out _ (List.getElem_mem hlt)
      obtain ⟨c, hcc⟩ : ∃ c, c = ds[k] := ⟨_, rfl⟩
      have hlt2 : k + 1 < (45 :: ds).length := by simp; omega
      have hb : ((⟨(45 :: ds).toArray⟩ : ByteArray)[k + 1]'hlt2) = c := hcc.symm
      rw [← hcc] at hc hstep
      rw [hstep] at hle
      have HS := Lib.hid hstep
      clear hstep hcc
      go_wp2_with fail
      go_round
      case rel => exact ⟨k + 1, by omega, by go_num, by rw [HS.out]; congr 1; omega⟩
      case measure => simp [RowKit.intOf]; omega
    · have hau : a = u := by rw [HA.out, List.take_of_length_le (by omega)]; exact HN.out
      have HAU := Lib.hid hau
      have ha2 : a ≤ 9223372036854775808 := by omega
      clear hau
      go_wp2_with fail
      refine (refInt (-(a : Int)) (by omega) (by omega) _).mono ?_
      rintro e w1 ⟨rfl, b1⟩
      have heq : encInt (-(a : Int)) = (45 :: ds) ++ [59] := by rw [encInt, HAU.out, HD.out]
      have HEQ := Lib.hid heq
      clear heq
      go_wp2_with fail
      go_ret2
      exact ⟨ret2 (by rw [HAU.out]) (by rw [HEQ.out]; exact str_eq _), b1⟩

theorem back_yes (n : Int) (h0 : -9223372036854775808 ≤ n) (h1 : n ≤ 9223372036854775807) (w : World) :
    Calls Tryz.prog 92 #[.string ⟨(Lib.itoa n).toArray⟩] w (Gives (.tuple #[.int .i64 n, .bool true]) w) := by
  by_cases h : n < 0
  · exact back_neg n h h0 w
  · exact back_pos n (by omega) h1 w

theorem str_ne (m : Int) (s : List UInt8) (h : Lib.itoa m ≠ s) : (encInt m == (({ data := s.toArray } : ByteArray) ++ { data := #[59] }).toList) = false := by
  rw [beq_eq_false_iff_ne, ByteArray.toList_eq, ba_app]
  intro e
  apply h
  have e2 : Lib.itoa m ++ [59] = s ++ [59] := by simpa [encInt] using e
  exact List.append_cancel_right e2
theorem wf64b {n : Int} (h : (Lit.int .i64 n).wf = true) : -9223372036854775808 ≤ n ∧ n ≤ 9223372036854775807 := by
  simp [Lit.wf] at h; exact ⟨h.1, h.2⟩
def BN (s : List UInt8) (m i : Value) : Prop := ∃ (k : Nat) (v : Int), k ≤ s.length ∧ i = .int .i64 k ∧ m = .int .i64 v ∧ -9223372036854775808 ≤ v ∧ v ≤ 9223372036854775807
set_option maxRecDepth 100000 in
set_option maxHeartbeats 4000000 in
theorem back_no (s : List UInt8) (hs : s.length ≤ 100) (hno : ∀ n : Int, -9223372036854775808 ≤ n → n ≤ 9223372036854775807 → Lib.itoa n ≠ s) (w : World) :
    Calls Tryz.prog 92 #[.string ⟨s.toArray⟩] w (BackNo w) := by
  have HNO := Lib.hid hno
  clear hno
  go_enter Tryz.func92, Tryz.ntmps92
  go_wp2_with fail
  all_goals
    go_loop [2, 3, 5, 6] (fun _ _ m i => BN s m i) (fun _ _ _ i => s.length - (RowKit.intOf i).toNat)
    case atStart => first | exact ⟨1, 0, by omega, rfl, rfl, by omega, by omega⟩ | exact ⟨0, 0, by omega, rfl, rfl, by omega, by omega⟩
    case round =>
      obtain ⟨k, v, hk, rfl, rfl, hv0, hv1⟩ := hrel
      by_cases hlt : k < s.length
      · go_wp2_with fail
        all_goals first
        | (go_ret2; exact ⟨_, rfl, Below.refl _ _⟩)
        | exact ⟨⟨_, _, _, _, ⟨k + 1, _, by omega, by go_num, rfl, (wf64b (RowKit.wrap64_wf _)).1, (wf64b (RowKit.wrap64_wf _)).2⟩, rfl, rfl, rfl, rfl⟩, by simp [RowKit.intOf]; omega⟩
      · go_wp2_with fail
        first
        | (have hwb := wf64b (RowKit.wrap64_wf (-v))
           (with_reducible refine (refInt (wrap64 (-v)) hwb.1 hwb.2 _).mono ?_)
           rintro e w1 ⟨rfl, b1⟩
           have hne := str_ne (wrap64 (-v)) s (HNO.out _ hwb.1 hwb.2)
           go_wp2_with fail
           go_ret2
           exact ⟨_, rfl, b1⟩)
        | ((with_reducible refine (refInt v hv0 hv1 _).mono ?_)
           rintro e w1 ⟨rfl, b1⟩
           have hne := str_ne v s (HNO.out v hv0 hv1)
           go_wp2_with fail
           go_ret2
           exact ⟨_, rfl, b1⟩)
end Go.Proofs.YtejddacjncpneaaGreatDoor.Wi

namespace Go.Proofs.YtejddacjncpneaaGreatDoor.Wi
open Go.RowKit Go.Sort

/-- Block b is a reader of the reference. -/
def IsQ (b : Nat) (s : List UInt8) (bad : Bool) (w : World) : Prop :=
  w.heap[b]? = some (.cells #[.string ⟨s.toArray⟩, .bool bad] 100 (0, 0))
theorem IsQ.c0 {b : Nat} {s : List UInt8} {bad : Bool} {w : World} (h : IsQ b s bad w) : w.cell? ⟨b, 0, none⟩ = some (.string ⟨s.toArray⟩) := by simp [World.cell?, show w.heap[b]? = _ from h]
theorem IsQ.c1 {b : Nat} {s : List UInt8} {bad : Bool} {w : World} (h : IsQ b s bad w) : w.cell? ⟨b, 1, none⟩ = some (.bool bad) := by simp [World.cell?, show w.heap[b]? = _ from h]
theorem IsQ.f0 {b : Nat} {s : List UInt8} {bad : Bool} {w : World} (h : IsQ b s bad w) (o : Nat) : w.frozen? ⟨b, o, none⟩ = false := by simp [World.frozen?, show w.heap[b]? = _ from h]

theorem IsQ.set0 {b : Nat} {s : List UInt8} {bad : Bool} {w : World} (h : IsQ b s bad w) (t : ByteArray) : IsQ b t.data.toList bad (w.setCell ⟨b, 0, none⟩ (.string t)) := by
  unfold IsQ at *; simp [World.setCell, Array.getElem?_modify, h]
theorem IsQ.set1 {b : Nat} {s : List UInt8} {bad : Bool} {w : World} (h : IsQ b s bad w) (t : Bool) : IsQ b s t (w.setCell ⟨b, 1, none⟩ (.bool t)) := by
  unfold IsQ at *; simp [World.setCell, Array.getElem?_modify, h]
theorem IsQ.drop {b : Nat} {s : List UInt8} {bad : Bool} {w : World} (h : IsQ b s bad w) (k : Nat) : IsQ b (s.drop k) bad (w.setCell ⟨b, 0, none⟩ (.string ((⟨s.toArray⟩ : ByteArray).extract k s.length))) := by
  rw [ext_drop]; exact h.set0 ⟨(s.drop k).toArray⟩
theorem IsQ.lt {b : Nat} {s : List UInt8} {bad : Bool} {w : World} (h : IsQ b s bad w) : b < w.heap.size := by
  rcases Nat.lt_or_ge b w.heap.size with h' | h'
  · exact h'
  · simp [IsQ, Array.getElem?_eq_none h'] at h
theorem IsQ.later {b : Nat} {s : List UInt8} {bad : Bool} {w w' : World} (h : IsQ b s bad w) (hb : RowKit.Below w.heap.size w w') : IsQ b s bad w' := by
  unfold IsQ; rw [hb.block b h.lt]; exact h

theorem IsQ.grown {b : Nat} {s : List UInt8} {bad : Bool} {w w' : World} {row : Option Nat} (h : IsQ b s bad w) (hg : w.grownBy w' row) (hr : row ≠ some b) : IsQ b s bad w' := by
  unfold IsQ; rw [hg.block b h.lt (fun e => hr e.symm)]; exact h
theorem fresh_Q (w : World) (l : List UInt8) : IsQ w.heap.size l false (w.alloc (.cells #[.string ⟨l.toArray⟩, .bool false] 100)) := by
  unfold IsQ World.alloc; simp

/-- How a call on the reader in block b ends: it has read a value, and what follows is left, or it has failed. -/
def ReadsQ {α : Type} (b : Nat) (p : Option (α × List UInt8)) (bad : Bool) (z : Value) (f : α → Value) (w : World) (e : Ending) (w' : World) : Prop :=
  w.grownBy w' (some b) ∧ match p with
    | some (v, r) => e = .returned (f v) ∧ IsQ b r bad w'
    | none => e = .returned z ∧ IsQ b [] true w'


theorem ReadsQ.none' {α : Type} {b : Nat} {p : Option (α × List UInt8)} {bad : Bool} {z : Value} {f : α → Value} {w : World} {e : Ending} {w' : World} (h : ReadsQ b p bad z f w e w') (hp : p = none) :
    w.grownBy w' (some b) ∧ e = .returned z ∧ IsQ b [] true w' := by subst hp; exact h
theorem ReadsQ.some' {α : Type} {b : Nat} {p : Option (α × List UInt8)} {bad : Bool} {z : Value} {f : α → Value} {w : World} {e : Ending} {w' : World} (h : ReadsQ b p bad z f w e w') {v : α} {r : List UInt8} (hp : p = some (v, r)) :
    w.grownBy w' (some b) ∧ e = .returned (f v) ∧ IsQ b r bad w' := by subst hp; exact h

theorem ReadsQ.mkn {α : Type} {b : Nat} {p : Option (α × List UInt8)} {bad : Bool} {z : Value} {f : α → Value} {w : World} {e : Ending} {w' : World} (hp : p = none) (h1 : w.grownBy w' (some b)) (h2 : e = .returned z) (h3 : IsQ b [] true w') : ReadsQ b p bad z f w e w' := by subst hp; exact ⟨h1, h2, h3⟩
theorem ReadsQ.mks {α : Type} {b : Nat} {p : Option (α × List UInt8)} {bad : Bool} {z : Value} {f : α → Value} {w : World} {e : Ending} {w' : World} {v : α} {r : List UInt8} (hp : p = some (v, r)) (h1 : w.grownBy w' (some b)) (h2 : e = .returned (f v)) (h3 : IsQ b r bad w') : ReadsQ b p bad z f w e w' := by subst hp; exact ⟨h1, h2, h3⟩


theorem openQ (s : ByteArray) (w : World) :
    Calls Tryz.prog 64 #[.string s] w fun e w' => e = .returned (.pointer (some ⟨w.heap.size, 0, none⟩)) ∧ w' = w.alloc (.cells #[.string s, .bool false] 100) := by
  go_enter Tryz.func64, Tryz.ntmps64
  go_wp2
  go_ret
  exact ⟨rfl, rfl⟩
theorem failQ (b : Nat) (s : List UInt8) (bad : Bool) (w : World) (h : IsQ b s bad w) :
    Calls Tryz.prog 80 #[.pointer (some ⟨b, 0, none⟩)] w fun e w' => e = .returned (.int .i64 0) ∧ w.grownBy w' (some b) ∧ IsQ b [] true w' := by
  have c0 := h.c0
  have c1 := h.c1
  have f0 := h.f0 0
  have f1 := h.f0 1
  have H := Lib.hid h
  clear h
  go_enter Tryz.func80, Tryz.ntmps80
  go_wp2
  go_ret
  exact ⟨rfl, on_set (on_set (on_refl _ _) _ _) _ _, (H.out.set0 ⟨#[]⟩).set1 true⟩
/-- close has found the byte, or the reader has failed. -/
def CloseQ (b : Nat) (c : UInt8) (s : List UInt8) (bad : Bool) (w : World) (e : Ending) (w' : World) : Prop :=
  w.grownBy w' (some b) ∧ match s with
    | [] => e = .returned (.bool false) ∧ IsQ b [] true w'
    | x :: r => if x = c then e = .returned (.bool true) ∧ IsQ b r bad w' else e = .returned (.bool false) ∧ IsQ b [] true w'
theorem CloseQ.yes {b : Nat} {c x : UInt8} {r : List UInt8} {bad : Bool} {w : World} {e : Ending} {w' : World} (h1 : w.grownBy w' (some b)) (hx : x = c) (he : e = .returned (.bool true)) (hi : IsQ b r bad w') : CloseQ b c (x :: r) bad w e w' :=
  ⟨h1, by show (if x = c then _ else _); rw [if_pos hx]; exact ⟨he, hi⟩⟩
theorem CloseQ.no {b : Nat} {c x : UInt8} {r : List UInt8} {bad : Bool} {w : World} {e : Ending} {w' : World} (h1 : w.grownBy w' (some b)) (hx : ¬ x = c) (he : e = .returned (.bool false)) (hi : IsQ b [] true w') : CloseQ b c (x :: r) bad w e w' :=
  ⟨h1, by show (if x = c then _ else _); rw [if_neg hx]; exact ⟨he, hi⟩⟩
set_option maxRecDepth 100000 in
theorem closeQ (b : Nat) (c : UInt8) (s : List UInt8) (bad : Bool) (hs : s.length ≤ 100000000) (w : World) (h : IsQ b s bad w) :
    Calls Tryz.prog 81 #[.pointer (some ⟨b, 0, none⟩), .int .u8 c.toNat] w (CloseQ b c s bad w) := by
  cases s with
  | nil =>
    have c0 := h.c0
    go_enter Tryz.func81, Tryz.ntmps81
    go_wp2_with fail
    refine (failQ b [] bad _ h).mono ?_
    rintro e w1 ⟨rfl, ho, hi⟩
    go_wp2_with fail
    go_ret
    exact ⟨ho, rfl, hi⟩
  | cons x r =>
    have c0 := h.c0
    have f0 := h.f0 0
    have hp : 0 < (x :: r).length := by simp
    by_cases hx : x = c
    · have hb : ((((⟨(x :: r).toArray⟩ : ByteArray)[0]'hp).toNat : Int) != (c.toNat : Int)) = false := by
        show (((x.toNat : Nat) : Int) != (c.toNat : Int)) = false
        rw [hx]; simp
      have HX := Lib.hid hx
      have HH := Lib.hid h
      clear hx h
      go_enter Tryz.func81, Tryz.ntmps81
      go_wp2_with fail
      go_ret
      exact CloseQ.yes (on_set (on_refl _ _) 0 _) HX.out rfl (HH.out.drop 1)
    · have hb : ((((⟨(x :: r).toArray⟩ : ByteArray)[0]'hp).toNat : Int) != (c.toNat : Int)) = true := by
        show (((x.toNat : Nat) : Int) != (c.toNat : Int)) = true
        rw [bne_iff_ne]; intro e; exact hx (UInt8.toNat_inj.1 (by omega))
      have HX := Lib.hid hx
      clear hx
      go_enter Tryz.func81, Tryz.ntmps81
      go_wp2_with fail
      refine (failQ b (x :: r) bad _ h).mono ?_
      rintro e w1 ⟨rfl, ho, hi⟩
      go_wp2_with fail
      go_ret
      exact CloseQ.no ho HX.out rfl hi
theorem leftQ (b : Nat) (s : List UInt8) (bad : Bool) (w : World) (h : IsQ b s bad w) :
    Calls Tryz.prog 65 #[.pointer (some ⟨b, 0, none⟩)] w fun e w' => e = .returned (.int .i64 s.length) ∧ w = w' := by
  have c0 := h.c0
  go_enter Tryz.func65, Tryz.ntmps65
  go_wp2_with fail
  go_ret
  exact ⟨rfl, rfl⟩
end Go.Proofs.YtejddacjncpneaaGreatDoor.Wi

namespace Go.Proofs.YtejddacjncpneaaGreatDoor.Wi
open Go.RowKit Go.Sort

theorem CloseQ.yes' {b : Nat} {c x : UInt8} {s r : List UInt8} {bad : Bool} {w : World} {e : Ending} {w' : World} (h : CloseQ b c s bad w e w') (hs : s = x :: r) (hx : x = c) : w.grownBy w' (some b) ∧ e = .returned (.bool true) ∧ IsQ b r bad w' := by
  subst hs
  obtain ⟨h1, h2⟩ := h
  have h3 : if x = c then e = .returned (.bool true) ∧ IsQ b r bad w' else e = .returned (.bool false) ∧ IsQ b [] true w' := h2
  rw [if_pos hx] at h3
  exact ⟨h1, h3⟩
theorem CloseQ.no' {b : Nat} {c : UInt8} {s : List UInt8} {bad : Bool} {w : World} {e : Ending} {w' : World} (h : CloseQ b c s bad w e w') (hx : ∀ r, s ≠ c :: r) : w.grownBy w' (some b) ∧ e = .returned (.bool false) ∧ IsQ b [] true w' := by
  cases s with
  | nil => exact h
  | cons x r =>
    obtain ⟨h1, h2⟩ := h
    have h3 : if x = c then e = .returned (.bool true) ∧ IsQ b r bad w' else e = .returned (.bool false) ∧ IsQ b [] true w' := h2
    rw [if_neg (fun e => hx r (by rw [e]))] at h3
    exact ⟨h1, h3⟩
theorem bne_u8 {x c : UInt8} (h : ¬ x = c) : (((x.toNat : Nat) : Int) != (c.toNat : Int)) = true := by
  rw [bne_iff_ne]; intro e; exact h (UInt8.toNat_inj.1 (by omega))
theorem bne_u8_no {x c : UInt8} (h : x = c) : (((x.toNat : Nat) : Int) != (c.toNat : Int)) = false := by rw [h]; simp

set_option maxRecDepth 100000 in
set_option maxHeartbeats 8000000 in
theorem aheadQ (b : Nat) (c : UInt8) (s : List UInt8) (bad : Bool) (hs : s.length ≤ 100000000) (w : World) (h : IsQ b s bad w) :
    Calls Tryz.prog 88 #[.pointer (some ⟨b, 0, none⟩), .int .u8 c.toNat] w (ReadsQ b (pInt c s) bad (.int .i64 0) (.int .i64) w) := by
  have c0 := h.c0
  have f0 := h.f0 0
  have HI := Lib.hid h
  clear h
  go_enter Tryz.func88, Tryz.ntmps88
  go_wp2_with fail
  go_loop [5] (fun i => ∃ k : Nat, k ≤ s.length ∧ k ≤ 21 ∧ i = .int .i64 k ∧ Hid (∀ i (h : i < s.length), i < k → s[i] ≠ c)) (fun i => 21 - (RowKit.intOf i).toNat)
  case atStart => exact ⟨0, by omega, by omega, rfl, fun i _ h => by omega⟩
  case round =>
    obtain ⟨k, hk, hk21, rfl, hno⟩ := hrel
    by_cases hlt : k < s.length
    · by_cases hx : s[k] = c
      · have hb : ((((⟨s.toArray⟩ : ByteArray)[k]'hlt).toNat : Int) != (c.toNat : Int)) = false := bne_u8_no hx
        have HX := Lib.hid hx
        clear hx
        by_cases h20 : k ≤ 20
        · by_cases hcan : ∃ n : Int, -9223372036854775808 ≤ n ∧ n ≤ 9223372036854775807 ∧ Lib.itoa n = s.take k
          · obtain ⟨n, n0, n1, hn⟩ := hcan
            have HP := Lib.hid (pInt_at_some c s k hlt h20 HX.out hno.out n n0 n1 hn)
            have HN := Lib.hid hn
            clear hn
            go_wp2_with fail
            rw [text_ext s k (by omega), ← HN.out]
            refine (back_yes n n0 n1 _).mono ?_
            rintro e w1 ⟨rfl, b1⟩
            have c1 := (HI.out.later b1).c0
            have f1 := (HI.out.later b1).f0 0
            go_wp2_with fail
            go_ret
            exact ReadsQ.mks HP.out (on_set (on_below b1) 0 _) rfl ((HI.out.later b1).drop _)
          · have hcan' : ∀ n : Int, -9223372036854775808 ≤ n → n ≤ 9223372036854775807 → Lib.itoa n ≠ s.take k := fun n a b e => hcan ⟨n, a, b, e⟩
            have HP := Lib.hid (pInt_at_none c s k hlt h20 HX.out hno.out hcan')
            have HC := Lib.hid hcan'
            clear hcan hcan'
            go_wp2_with fail
            rw [text_ext s k (by omega)]
            refine (back_no (s.take k) (by rw [List.length_take]; omega) HC.out _).mono ?_
            rintro e w1 ⟨v, rfl, b1⟩
            go_wp2_with fail
            refine (failQ b s bad _ (HI.out.later b1)).mono ?_
            rintro e w2 ⟨rfl, ho, hi⟩
            go_wp2_with fail
            go_ret
            exact ReadsQ.mkn HP.out (on_trans (on_below b1) ho) rfl hi
        · have HP : Hid (pInt c s = none) := pInt_miss c s (fun i h h2 => hno.out i h (by omega))
          have HC : Hid (∀ n : Int, -9223372036854775808 ≤ n → n ≤ 9223372036854775807 → Lib.itoa n ≠ s.take k) := by
            intro n a b e
            have h1 := itoa_len20 n a b
            rw [e, List.length_take] at h1; omega
          go_wp2_with fail
          rw [text_ext s k (by omega)]
          refine (back_no (s.take k) (by rw [List.length_take]; omega) HC.out _).mono ?_
          rintro e w1 ⟨v, rfl, b1⟩
          go_wp2_with fail
          refine (failQ b s bad _ (HI.out.later b1)).mono ?_
          rintro e w2 ⟨rfl, ho, hi⟩
          go_wp2_with fail
          go_ret
          exact ReadsQ.mkn HP.out (on_trans (on_below b1) ho) rfl hi
      · have hb : ((((⟨s.toArray⟩ : ByteArray)[k]'hlt).toNat : Int) != (c.toNat : Int)) = true := bne_u8 hx
        have HX := Lib.hid hx
        clear hx
        by_cases h21 : k < 21
        · have hno2 : Hid (∀ i (h : i < s.length), i < k + 1 → s[i] ≠ c) := by
            intro i h h2
            by_cases e : i = k
            · subst e; exact HX.out
            · exact hno.out i h (by omega)
          go_wp2_with fail
          go_round
          case rel => exact ⟨k + 1, by omega, by omega, by go_num, hno2⟩
          case measure => simp [RowKit.intOf]; omega
        · have HP : Hid (pInt c s = none) := pInt_miss c s (fun i h h2 => hno.out i h (by omega))
          go_wp2_with fail
          refine (failQ b s bad _ HI.out).mono ?_
          rintro e w2 ⟨rfl, ho, hi⟩
          go_wp2_with fail
          go_ret
          exact ReadsQ.mkn HP.out ho rfl hi
    · have HP : Hid (pInt c s = none) := pInt_miss c s (fun i h h2 => hno.out i h (by omega))
      go_wp2_with fail
      refine (failQ b s bad _ HI.out).mono ?_
      rintro e w2 ⟨rfl, ho, hi⟩
      go_wp2_with fail
      go_ret
      exact ReadsQ.mkn HP.out ho rfl hi

set_option maxRecDepth 100000 in
theorem numberQ (b : Nat) (c : UInt8) (s : List UInt8) (bad : Bool) (hs : s.length ≤ 100000000) (w : World) (h : IsQ b s bad w) :
    Calls Tryz.prog 79 #[.pointer (some ⟨b, 0, none⟩), .int .u8 c.toNat] w (ReadsQ b (pNum c s) bad (.int .i64 0) (.int .i64) w) := by
  rcases hp : pInt c s with _ | ⟨n, r⟩
  · have HP := Lib.hid hp
    have HQ : Hid (pNum c s = none) := by unfold Hid pNum; rw [hp]
    clear hp
    go_enter Tryz.func79, Tryz.ntmps79
    go_wp2_with fail
    refine (aheadQ b c s bad hs w h).mono ?_
    rintro e w1 hr
    obtain ⟨ho, rfl, hi⟩ := hr.none' HP.out
    clear hr
    go_wp2_with fail
    go_ret
    exact ReadsQ.mkn HQ.out ho rfl hi
  · have HP := Lib.hid hp
    by_cases hn : n < 0
    · have HQ : Hid (pNum c s = none) := by unfold Hid pNum; rw [hp]; simp [hn]
      clear hp
      go_enter Tryz.func79, Tryz.ntmps79
      go_wp2_with fail
      refine (aheadQ b c s bad hs w h).mono ?_
      rintro e w1 hr
      obtain ⟨ho, rfl, hi⟩ := hr.some' HP.out
      clear hr
      go_wp2_with fail
      refine (failQ b r bad _ hi).mono ?_
      rintro e w2 ⟨rfl, ho2, hi2⟩
      go_wp2_with fail
      go_ret
      exact ReadsQ.mkn HQ.out (on_trans ho ho2) rfl hi2
    · have HQ : Hid (pNum c s = some (n, r)) := by unfold Hid pNum; rw [hp]; simp [hn]
      clear hp
      go_enter Tryz.func79, Tryz.ntmps79
      go_wp2_with fail
      refine (aheadQ b c s bad hs w h).mono ?_
      rintro e w1 hr
      obtain ⟨ho, rfl, hi⟩ := hr.some' HP.out
      clear hr
      go_wp2_with fail
      go_ret
      exact ReadsQ.mks HQ.out ho rfl hi

theorem numQ (b : Nat) (s : List UInt8) (bad : Bool) (hs : s.length ≤ 100000000) (w : World) (h : IsQ b s bad w) :
    Calls Tryz.prog 67 #[.pointer (some ⟨b, 0, none⟩)] w (ReadsQ b (pNum 59 s) bad (.int .i64 0) (.int .i64) w) := by
  go_enter Tryz.func67, Tryz.ntmps67
  go_wp2_with fail
  refine (numberQ b 59 s bad hs w h).mono ?_
  rintro e w1 hr
  rcases hp : pNum 59 s with _ | ⟨n, r⟩
  · obtain ⟨ho, rfl, hi⟩ := hr.none' hp
    have HP := Lib.hid hp
    clear hr hp
    go_wp2_with fail
    go_ret
    exact ReadsQ.mkn HP.out ho rfl hi
  · obtain ⟨ho, rfl, hi⟩ := hr.some' hp
    have HP := Lib.hid hp
    clear hr hp
    go_wp2_with fail
    go_ret
    exact ReadsQ.mks HP.out ho rfl hi
end Go.Proofs.YtejddacjncpneaaGreatDoor.Wi

namespace Go.Proofs.YtejddacjncpneaaGreatDoor.Wi
open Go.RowKit Go.Sort

theorem pNum_nil (c : UInt8) : pNum c [] = none := by
  rcases h : pNum c [] with _ | ⟨n, r⟩
  · rfl
  · have := pInt_len (pNum_some h).1; simp at this

set_option maxRecDepth 100000 in
set_option maxHeartbeats 4000000 in
theorem textQ (b : Nat) (s : List UInt8) (bad : Bool) (hbad : bad = true → s = []) (hs : s.length ≤ 100000000) (w : World) (h : IsQ b s bad w) :
    Calls Tryz.prog 66 #[.pointer (some ⟨b, 0, none⟩)] w (ReadsQ b (pText s) bad (.string ⟨#[]⟩) .string w) := by
  rcases hp : pNum 58 s with _ | ⟨n, r⟩
  · have HP := Lib.hid hp
    have HQ : Hid (pText s = none) := by unfold Hid pText; rw [hp]
    clear hp hbad
    go_enter Tryz.func66, Tryz.ntmps66
    go_wp2_with fail
    refine (numberQ b 58 s bad hs w h).mono ?_
    rintro e w1 hr
    obtain ⟨ho, rfl, hi⟩ := hr.none' HP.out
    clear hr
    have c0 := hi.c0
    have c1 := hi.c1
    go_wp2_with fail
    refine (failQ b [] true _ hi).mono ?_
    rintro e w2 ⟨rfl, ho2, hi2⟩
    go_wp2_with fail
    go_ret
    exact ReadsQ.mkn HQ.out (on_trans ho ho2) rfl hi2
  · obtain ⟨hpi, hn⟩ := pNum_some hp
    have hrl := pInt_len hpi
    have hnb := (pInt_some _ _ _ _ hpi).2
    obtain ⟨k, rfl⟩ : ∃ k : Nat, n = k := ⟨n.toNat, by omega⟩
    have HP := Lib.hid hp
    obtain rfl : bad = false := by
      cases bad
      · rfl
      · have := hbad rfl; subst this; simp at hrl
    clear hpi hbad
    by_cases hk : k < r.length
    · have hdrop : r.drop k = r[k] :: r.drop (k + 1) := List.drop_eq_getElem_cons hk
      have HDR := Lib.hid hdrop
      clear hdrop
      by_cases h44 : r[k] = 44
      · have HQ : Hid (pText s = some (⟨(r.take k).toArray⟩, r.drop (k + 1))) := by
          unfold Hid pText; rw [hp]; simp [hk, h44]
        clear hp
        have H44 := Lib.hid h44
        clear h44
        go_enter Tryz.func66, Tryz.ntmps66
        go_wp2_with fail
        refine (numberQ b 58 s false hs w h).mono ?_
        rintro e w1 hr
        obtain ⟨ho, rfl, hi⟩ := hr.some' HP.out
        clear hr
        have c0 := hi.c0
        have c1 := hi.c1
        have f0 := hi.f0 0
        go_wp2_with fail
        refine (closeQ b 44 (r.drop k) false (by rw [List.length_drop]; omega) _ (hi.drop k)).mono ?_
        rintro e w2 hcl
        obtain ⟨ho2, rfl, hi2⟩ := hcl.yes' HDR.out H44.out
        go_wp2_with fail
        go_ret
        exact ReadsQ.mks HQ.out (on_trans (on_set ho 0 _) ho2) (by rw [← text_ext r k (by omega)]; rfl) hi2
      · have HQ : Hid (pText s = none) := by
          unfold Hid pText; rw [hp]; simp [hk, h44]
        clear hp
        have H44 := Lib.hid h44
        clear h44
        go_enter Tryz.func66, Tryz.ntmps66
        go_wp2_with fail
        refine (numberQ b 58 s false hs w h).mono ?_
        rintro e w1 hr
        obtain ⟨ho, rfl, hi⟩ := hr.some' HP.out
        clear hr
        have c0 := hi.c0
        have c1 := hi.c1
        have f0 := hi.f0 0
        go_wp2_with fail
        refine (closeQ b 44 (r.drop k) false (by rw [List.length_drop]; omega) _ (hi.drop k)).mono ?_
        rintro e w2 hcl
        obtain ⟨ho2, rfl, hi2⟩ := hcl.no' (fun r2 e => by rw [HDR.out] at e; exact H44.out (List.cons.inj e).1)
        go_wp2_with fail
        go_ret
        exact ReadsQ.mkn HQ.out (on_trans (on_set ho 0 _) ho2) rfl hi2
    · have HQ : Hid (pText s = none) := by
        unfold Hid pText; rw [hp]; simp [hk]
      clear hp
      go_enter Tryz.func66, Tryz.ntmps66
      go_wp2_with fail
      refine (numberQ b 58 s false hs w h).mono ?_
      rintro e w1 hr
      obtain ⟨ho, rfl, hi⟩ := hr.some' HP.out
      clear hr
      have c0 := hi.c0
      have c1 := hi.c1
      have f0 := hi.f0 0
      go_wp2_with fail
      refine (failQ b r false _ hi).mono ?_
      rintro e w2 ⟨rfl, ho2, hi2⟩
      go_wp2_with fail
      go_ret
      exact ReadsQ.mkn HQ.out (on_trans ho ho2) rfl hi2

end Go.Proofs.YtejddacjncpneaaGreatDoor.Wi
