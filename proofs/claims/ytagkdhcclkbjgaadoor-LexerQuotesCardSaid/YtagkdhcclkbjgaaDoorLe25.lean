/- The contract of LexerQuotes. -/
import Derived.Test.YtagkdhcclkbjgaaDoorLe23
set_option maxRecDepth 100000
namespace Go.Proofs.YtagkdhcclkbjgaaDoor.Le
open Go.RowKit

theorem name_not_num {l : List UInt8} (h : nameOk l = true) : numL l = none := by
  match l, h with
  | c :: r, h =>
    simp only [nameOk, Bool.and_eq_true] at h
    exact numL_none_dig (by rw [List.all_cons, letB_dig h.1]; rfl)
theorem name_len {l : List UInt8} (h : nameOk l = true) : l.length ≤ 20 := by
  match l, h with
  | c :: r, h =>
    simp only [nameOk, Bool.and_eq_true, decide_eq_true_eq] at h
    simp; omega
theorem sc_name {l : List UInt8} (h : nameOk l = true) : sc false 0 l = .ok [⟨0, l, 0, 0⟩] := by
  have := sc_one (k := 0) (t := l) (n := 0) (.inl ⟨rfl, h, rfl⟩)
  exact this
theorem sc_num {l : List UInt8} {u : Nat} (h : numL l = some u) : sc false 0 l = .ok [⟨1, l, u, 0⟩] := by
  have := sc_one (k := 1) (t := l) (n := u) (.inr (.inl ⟨rfl, u, h, rfl⟩))
  exact this
theorem sc_quo {l : List UInt8} (h : valOk l = true) : sc false 0 (quo l) = .ok [⟨2, l, 0, 0⟩] := by
  have := sc_one (k := 2) (t := l) (n := 0) (.inr (.inr (.inl ⟨rfl, h, rfl⟩)))
  exact this
/-- The cells of a slice of one token. -/
theorem TCells.one {w : World} {a : Option Addr} {x : Tok} (h : TCells w a ([x].map Tok.tk)) : ∃ b off, a = some ⟨b, off, none⟩ ∧ w.cell? ⟨b, off, none⟩ = some (.int .i64 x.kind) ∧ w.cell? ⟨b, off + 1, none⟩ = some (.string ⟨x.text.toArray⟩) ∧ w.cell? ⟨b, off + 2, none⟩ = some (.int .i64 x.n) ∧ w.cell? ⟨b, off + 3, none⟩ = some (.int .i64 (x.pos : Int)) := by
  obtain ⟨b, off, h1, h2, h3, h4, h5⟩ := h.at 0 (by simp)
  exact ⟨b, off, h1, h2, h3, h4, h5⟩
theorem all_take_step (s : ByteArray) (k : Nat) (h : k < s.size) : (s.data.toList.take (k + 1)).all plainB = ((s.data.toList.take k).all plainB && plainB s[k]) := by
  rw [List.take_succ_eq_append_getElem (by rw [sizeB]; exact h), List.all_append, List.all_cons, List.all_nil, Bool.and_true, getB s k h]

set_option maxHeartbeats 8000000 in
theorem quotes_v_name (s : ByteArray) (hs : s.size ≤ 9223372036854775807) (w : World) (he : Env w) (t : ByteArray) (ht : cutB s = t) (hv : valOk t.data.toList = true) (hn : nameOk t.data.toList = true) : Calls Tryd.prog 8 #[.string s] w (Gives (.bool true) w) := by
  have HE := Lib.hid he
  have HC := Lib.hid (cut_any s hs)
  have hcs := cutB_size s
  rw [ht] at HC hcs
  have hq := quote_any t (by omega)
  have hqv : quoV t.data.toList = .tuple #[.string ⟨(quo t.data.toList).toArray⟩, .bool true] := by unfold quoV; rw [hv]; rfl
  rw [hqv] at hq
  obtain ⟨Q, eQ⟩ : ∃ Q : ByteArray, (⟨(quo t.data.toList).toArray⟩ : ByteArray) = Q := ⟨_, rfl⟩
  rw [eQ] at hq
  have hQl : Q.data.toList = quo t.data.toList := by rw [← eQ]
  have h400 : t.data.toList.length ≤ 400 := by have := hv; unfold valOk at this; rw [Bool.and_eq_true, decide_eq_true_eq] at this; exact this.1
  have hQs : Q.size ≤ 4000 := by rw [← sizeB, hQl, quo_len]; have := esc_le t.data.toList; omega
  have HQS := Lib.hid (scan_ok Q _ _ hQl hQs (sc_quo hv))
  have hqne : ¬ Q.toList = [] := by rw [ByteArray.toList_eq, hQl]; simp [quo]
  rw [sizeB] at h400
  have h400' : decide ((t.size : Int) ≤ 400) = true := by simp; omega
  clear hqv eQ hQl hQs hqne
  have HQ := Lib.hid hq
  clear hq
  have HV := Lib.hid hv
  have hnum := fun W hW => number_any t (by omega) W hW
  unfold NumEnd at hnum
  have hname := name_any t (by omega)
  have hsc := sc_name hn
  have hnv : numV t.data.toList = .tuple #[.int .i64 0, .bool false] := by unfold numV; rw [name_not_num hn]
  have h20 : t.size ≤ 20 := by rw [← sizeB]; exact name_len hn
  have h20' : decide ((t.size : Int) ≤ 20) = true := by simp; omega
  rw [hn] at hname
  have HS := Lib.hid (scan_ok t _ _ rfl (by omega) hsc)
  rw [hnv] at hnum
  clear hsc hnv hn
  have HNUM := Lib.hid hnum
  have HNAME := Lib.hid hname
  clear hnum hname he ht hv
  go_enter Tryd.func8, Tryd.ntmps8
  go_wp2_with fail
  refine (sane_any _ HE.out).mono ?_
  rintro e w1 ⟨rfl, hb⟩
  have HB1 := Lib.hid hb
  clear hb
  go_wp2_with fail
  with_reducible refine (HC.out _).mono ?_
  rintro e w1 ⟨rfl, rfl⟩
  go_wp2_with fail
  refine (HQ.out _).mono ?_
  rintro e w2 ⟨rfl, hb⟩
  have HB2 := Lib.hid (HB1.out.trans (hb.mono HB1.out.size))
  clear hb
  go_wp2_with fail
  go_loop [7, 8] (fun c i => ∃ (k : Nat) (b : Bool), k ≤ t.size ∧ i = .int .i64 k ∧ c = .bool b ∧ b = (decide (t.size ≤ 400) && (t.data.toList.take k).all plainB)) (fun _ i => t.size - (intOf i).toNat)
  case atStart => exact ⟨0, _, by omega, rfl, rfl, by simp; omega⟩
  case round =>
    obtain ⟨k, b, hk, rfl, rfl, hbb⟩ := hrel
    have HBB := Lib.hid hbb
    clear hbb
    by_cases hlt : k < t.size
    · have hst := all_take_step t k hlt
      obtain ⟨y, hy⟩ : ∃ y, t[k] = y := ⟨_, rfl⟩
      rw [hy] at hst
      obtain ⟨Y, hY⟩ : ∃ Y : Int, (y.toNat : Int) = Y := ⟨_, rfl⟩
      have hpb : plainB y = (decide (32 ≤ Y) && decide (Y ≤ 126)) := by unfold plainB; rw [Bool.eq_iff_iff]; simp; omega
      rw [hpb, ← Bool.and_assoc] at hst
      have HST := Lib.hid hst
      clear hst hpb
      cases b
      · go_wp2_with fail
        go_round
        case rel => exact ⟨k + 1, false, by omega, by go_num, rfl, by rw [HST.out, ← Bool.and_assoc, ← Bool.and_assoc, ← HBB.out]; rfl⟩
        case measure => simp [intOf]; omega
      · by_cases h1 : 32 ≤ Y <;> by_cases h2 : Y ≤ 126
        all_goals
          go_wp2_with fail
          go_round
          case rel => exact ⟨k + 1, _, by omega, by go_num, rfl, by rw [HST.out, ← Bool.and_assoc, ← Bool.and_assoc, ← HBB.out]; simp [h1, h2]⟩
          case measure => simp [intOf]; omega
    · have hb2 : b = true := by
        have h1 := HBB.out
        rw [List.take_of_length_le (by rw [sizeB]; omega)] at h1
        have h2 := HV.out
        unfold valOk at h2
        rw [sizeB] at h2
        rw [h1]; exact h2
      subst hb2
      clear HBB HV
      go_wp2_with fail
      refine (HQS.out _ (HE.out.below HB2.out)).mono ?_
      rintro e w3 ⟨a3, c3, rfl, hu, hb⟩
      have HB3 := Lib.hid (HB2.out.trans (hb.mono HB2.out.size))
      obtain ⟨b3, o3, rfl, q0, q1, q2, q3⟩ := hu.one
      simp only at q0 q1 q2 q3
      rw [eqB] at q1
      clear hb hu
      go_wp2_with fail
      refine (HS.out _ (HE.out.below HB3.out)).mono ?_
      rintro e w4 ⟨a4, c4, rfl, hu, hb⟩
      have HB4 := Lib.hid (HB3.out.trans (hb.mono HB3.out.size))
      have HU4 := Lib.hid hu
      clear hb hu
      clear q0 q1 q2 q3
      go_wp2_with fail
      refine (HNUM.out _ (HE.out.below HB4.out)).mono ?_
      rintro e w5 ⟨rfl, hb⟩
      have HB5 := Lib.hid (HB4.out.trans (hb.mono HB4.out.size))
      have HU5 := Lib.hid (HU4.out.later hb)
      clear HU4
      clear hb
      go_wp2_with fail
      with_reducible refine (HNAME.out _).mono ?_
      rintro e w6 ⟨rfl, rfl⟩
      obtain ⟨b5, o5, rfl, r0, r1, r2, r3⟩ := HU5.out.one
      simp only at r0 r1 r2 r3
      rw [eqB] at r1
      clear HU5
      go_wp2_with fail
      go_ret
      exact ⟨rfl, HB5.out⟩

set_option maxHeartbeats 8000000 in
theorem quotes_v_num (s : ByteArray) (hs : s.size ≤ 9223372036854775807) (w : World) (he : Env w) (t : ByteArray) (ht : cutB s = t) (hv : valOk t.data.toList = true) (u : Nat) (hn : numL t.data.toList = some u) : Calls Tryd.prog 8 #[.string s] w (Gives (.bool true) w) := by
  have HE := Lib.hid he
  have HC := Lib.hid (cut_any s hs)
  have hcs := cutB_size s
  rw [ht] at HC hcs
  have hq := quote_any t (by omega)
  have hqv : quoV t.data.toList = .tuple #[.string ⟨(quo t.data.toList).toArray⟩, .bool true] := by unfold quoV; rw [hv]; rfl
  rw [hqv] at hq
  obtain ⟨Q, eQ⟩ : ∃ Q : ByteArray, (⟨(quo t.data.toList).toArray⟩ : ByteArray) = Q := ⟨_, rfl⟩
  rw [eQ] at hq
  have hQl : Q.data.toList = quo t.data.toList := by rw [← eQ]
  have h400 : t.data.toList.length ≤ 400 := by have := hv; unfold valOk at this; rw [Bool.and_eq_true, decide_eq_true_eq] at this; exact this.1
  have hQs : Q.size ≤ 4000 := by rw [← sizeB, hQl, quo_len]; have := esc_le t.data.toList; omega
  have HQS := Lib.hid (scan_ok Q _ _ hQl hQs (sc_quo hv))
  have hqne : ¬ Q.toList = [] := by rw [ByteArray.toList_eq, hQl]; simp [quo]
  rw [sizeB] at h400
  have h400' : decide ((t.size : Int) ≤ 400) = true := by simp; omega
  clear hqv eQ hQl hQs hqne
  have HQ := Lib.hid hq
  clear hq
  have HV := Lib.hid hv
  have hnum := fun W hW => number_any t (by omega) W hW
  unfold NumEnd at hnum
  have hname := name_any t (by omega)
  have hsc := sc_num hn
  have hnv : numV t.data.toList = .tuple #[.int .i64 (u : Int), .bool true] := by unfold numV; rw [hn]
  have hnn : nameOk t.data.toList = false := by
    rcases h : nameOk t.data.toList with _ | _
    · rfl
    · rw [name_not_num h] at hn; cases hn
  have hum := (numL_some hn).2
  have hum1 : decide ((0 : Int) ≤ (u : Int)) = true := by simp
  have hum2 : decide ((u : Int) ≤ 1099511627776) = true := by simp; omega
  rw [hnn] at hname
  have HS := Lib.hid (scan_ok t _ _ rfl (by omega) hsc)
  rw [hnv] at hnum
  clear hsc hnv hn hnn
  have HNUM := Lib.hid hnum
  have HNAME := Lib.hid hname
  clear hnum hname he ht hv
  go_enter Tryd.func8, Tryd.ntmps8
  go_wp2_with fail
  refine (sane_any _ HE.out).mono ?_
  rintro e w1 ⟨rfl, hb⟩
  have HB1 := Lib.hid hb
  clear hb
  go_wp2_with fail
  with_reducible refine (HC.out _).mono ?_
  rintro e w1 ⟨rfl, rfl⟩
  go_wp2_with fail
  refine (HQ.out _).mono ?_
  rintro e w2 ⟨rfl, hb⟩
  have HB2 := Lib.hid (HB1.out.trans (hb.mono HB1.out.size))
  clear hb
  go_wp2_with fail
  go_loop [7, 8] (fun c i => ∃ (k : Nat) (b : Bool), k ≤ t.size ∧ i = .int .i64 k ∧ c = .bool b ∧ b = (decide (t.size ≤ 400) && (t.data.toList.take k).all plainB)) (fun _ i => t.size - (intOf i).toNat)
  case atStart => exact ⟨0, _, by omega, rfl, rfl, by simp; omega⟩
  case round =>
    obtain ⟨k, b, hk, rfl, rfl, hbb⟩ := hrel
    have HBB := Lib.hid hbb
    clear hbb
    by_cases hlt : k < t.size
    · have hst := all_take_step t k hlt
      obtain ⟨y, hy⟩ : ∃ y, t[k] = y := ⟨_, rfl⟩
      rw [hy] at hst
      obtain ⟨Y, hY⟩ : ∃ Y : Int, (y.toNat : Int) = Y := ⟨_, rfl⟩
      have hpb : plainB y = (decide (32 ≤ Y) && decide (Y ≤ 126)) := by unfold plainB; rw [Bool.eq_iff_iff]; simp; omega
      rw [hpb, ← Bool.and_assoc] at hst
      have HST := Lib.hid hst
      clear hst hpb
      cases b
      · go_wp2_with fail
        go_round
        case rel => exact ⟨k + 1, false, by omega, by go_num, rfl, by rw [HST.out, ← Bool.and_assoc, ← Bool.and_assoc, ← HBB.out]; rfl⟩
        case measure => simp [intOf]; omega
      · by_cases h1 : 32 ≤ Y <;> by_cases h2 : Y ≤ 126
        all_goals
          go_wp2_with fail
          go_round
          case rel => exact ⟨k + 1, _, by omega, by go_num, rfl, by rw [HST.out, ← Bool.and_assoc, ← Bool.and_assoc, ← HBB.out]; simp [h1, h2]⟩
          case measure => simp [intOf]; omega
    · have hb2 : b = true := by
        have h1 := HBB.out
        rw [List.take_of_length_le (by rw [sizeB]; omega)] at h1
        have h2 := HV.out
        unfold valOk at h2
        rw [sizeB] at h2
        rw [h1]; exact h2
      subst hb2
      clear HBB HV
      go_wp2_with fail
      refine (HQS.out _ (HE.out.below HB2.out)).mono ?_
      rintro e w3 ⟨a3, c3, rfl, hu, hb⟩
      have HB3 := Lib.hid (HB2.out.trans (hb.mono HB2.out.size))
      obtain ⟨b3, o3, rfl, q0, q1, q2, q3⟩ := hu.one
      simp only at q0 q1 q2 q3
      rw [eqB] at q1
      clear hb hu
      go_wp2_with fail
      refine (HS.out _ (HE.out.below HB3.out)).mono ?_
      rintro e w4 ⟨a4, c4, rfl, hu, hb⟩
      have HB4 := Lib.hid (HB3.out.trans (hb.mono HB3.out.size))
      have HU4 := Lib.hid hu
      clear hb hu
      clear q0 q1 q2 q3
      go_wp2_with fail
      refine (HNUM.out _ (HE.out.below HB4.out)).mono ?_
      rintro e w5 ⟨rfl, hb⟩
      have HB5 := Lib.hid (HB4.out.trans (hb.mono HB4.out.size))
      have HU5 := Lib.hid (HU4.out.later hb)
      clear HU4
      clear hb
      go_wp2_with fail
      with_reducible refine (HNAME.out _).mono ?_
      rintro e w6 ⟨rfl, rfl⟩
      obtain ⟨b5, o5, rfl, r0, r1, r2, r3⟩ := HU5.out.one
      simp only at r0 r1 r2 r3
      rw [eqB] at r1
      clear HU5
      go_wp2_with fail
      go_ret
      exact ⟨rfl, HB5.out⟩

set_option maxHeartbeats 8000000 in
theorem quotes_v_one (s : ByteArray) (hs : s.size ≤ 9223372036854775807) (w : World) (he : Env w) (t : ByteArray) (ht : cutB s = t) (hv : valOk t.data.toList = true) (hn : nameOk t.data.toList = false) (hu : numL t.data.toList = none) (z : Tok) (hsc : sc false 0 t.data.toList = .ok [z]) (hwh : (z.kind = 0 ∨ z.kind = 1) ∧ z.text ≠ t.data.toList ∨ z.kind = 2 ∨ z.kind = 3) : Calls Tryd.prog 8 #[.string s] w (Gives (.bool true) w) := by
  have HE := Lib.hid he
  have HC := Lib.hid (cut_any s hs)
  have hcs := cutB_size s
  rw [ht] at HC hcs
  have hq := quote_any t (by omega)
  have hqv : quoV t.data.toList = .tuple #[.string ⟨(quo t.data.toList).toArray⟩, .bool true] := by unfold quoV; rw [hv]; rfl
  rw [hqv] at hq
  obtain ⟨Q, eQ⟩ : ∃ Q : ByteArray, (⟨(quo t.data.toList).toArray⟩ : ByteArray) = Q := ⟨_, rfl⟩
  rw [eQ] at hq
  have hQl : Q.data.toList = quo t.data.toList := by rw [← eQ]
  have h400 : t.data.toList.length ≤ 400 := by have := hv; unfold valOk at this; rw [Bool.and_eq_true, decide_eq_true_eq] at this; exact this.1
  have hQs : Q.size ≤ 4000 := by rw [← sizeB, hQl, quo_len]; have := esc_le t.data.toList; omega
  have HQS := Lib.hid (scan_ok Q _ _ hQl hQs (sc_quo hv))
  have hqne : ¬ Q.toList = [] := by rw [ByteArray.toList_eq, hQl]; simp [quo]
  rw [sizeB] at h400
  have h400' : decide ((t.size : Int) ≤ 400) = true := by simp; omega
  clear hqv eQ hQl hQs hqne
  have HQ := Lib.hid hq
  clear hq
  have HV := Lib.hid hv
  have hnum := fun W hW => number_any t (by omega) W hW
  unfold NumEnd at hnum
  have hname := name_any t (by omega)
  have hnv : numV t.data.toList = .tuple #[.int .i64 0, .bool false] := by unfold numV; rw [hu]
  rw [hnv] at hnum
  rw [hn] at hname
  clear hnv hn hu
  have HS := Lib.hid (scan_ok t _ _ rfl (by omega) hsc)
  clear hsc
  obtain ⟨zk, zt, zn, zp⟩ := z
  simp only at hwh
  have HNUM := Lib.hid hnum
  have HNAME := Lib.hid hname
  clear hnum hname he ht hv
  go_enter Tryd.func8, Tryd.ntmps8
  go_wp2_with fail
  refine (sane_any _ HE.out).mono ?_
  rintro e w1 ⟨rfl, hb⟩
  have HB1 := Lib.hid hb
  clear hb
  go_wp2_with fail
  with_reducible refine (HC.out _).mono ?_
  rintro e w1 ⟨rfl, rfl⟩
  go_wp2_with fail
  refine (HQ.out _).mono ?_
  rintro e w2 ⟨rfl, hb⟩
  have HB2 := Lib.hid (HB1.out.trans (hb.mono HB1.out.size))
  clear hb
  go_wp2_with fail
  go_loop [7, 8] (fun c i => ∃ (k : Nat) (b : Bool), k ≤ t.size ∧ i = .int .i64 k ∧ c = .bool b ∧ b = (decide (t.size ≤ 400) && (t.data.toList.take k).all plainB)) (fun _ i => t.size - (intOf i).toNat)
  case atStart => exact ⟨0, _, by omega, rfl, rfl, by simp; omega⟩
  case round =>
    obtain ⟨k, b, hk, rfl, rfl, hbb⟩ := hrel
    have HBB := Lib.hid hbb
    clear hbb
    by_cases hlt : k < t.size
    · have hst := all_take_step t k hlt
      obtain ⟨y, hy⟩ : ∃ y, t[k] = y := ⟨_, rfl⟩
      rw [hy] at hst
      obtain ⟨Y, hY⟩ : ∃ Y : Int, (y.toNat : Int) = Y := ⟨_, rfl⟩
      have hpb : plainB y = (decide (32 ≤ Y) && decide (Y ≤ 126)) := by unfold plainB; rw [Bool.eq_iff_iff]; simp; omega
      rw [hpb, ← Bool.and_assoc] at hst
      have HST := Lib.hid hst
      clear hst hpb
      cases b
      · go_wp2_with fail
        go_round
        case rel => exact ⟨k + 1, false, by omega, by go_num, rfl, by rw [HST.out, ← Bool.and_assoc, ← Bool.and_assoc, ← HBB.out]; rfl⟩
        case measure => simp [intOf]; omega
      · by_cases h1 : 32 ≤ Y <;> by_cases h2 : Y ≤ 126
        all_goals
          go_wp2_with fail
          go_round
          case rel => exact ⟨k + 1, _, by omega, by go_num, rfl, by rw [HST.out, ← Bool.and_assoc, ← Bool.and_assoc, ← HBB.out]; simp [h1, h2]⟩
          case measure => simp [intOf]; omega
    · have hb2 : b = true := by
        have h1 := HBB.out
        rw [List.take_of_length_le (by rw [sizeB]; omega)] at h1
        have h2 := HV.out
        unfold valOk at h2
        rw [sizeB] at h2
        rw [h1]; exact h2
      subst hb2
      clear HBB HV
      go_wp2_with fail
      refine (HQS.out _ (HE.out.below HB2.out)).mono ?_
      rintro e w3 ⟨a3, c3, rfl, hu, hb⟩
      have HB3 := Lib.hid (HB2.out.trans (hb.mono HB2.out.size))
      obtain ⟨b3, o3, rfl, q0, q1, q2, q3⟩ := hu.one
      simp only at q0 q1 q2 q3
      rw [eqB] at q1
      clear hb hu
      go_wp2_with fail
      refine (HS.out _ (HE.out.below HB3.out)).mono ?_
      rintro e w4 ⟨a4, c4, rfl, hu, hb⟩
      have HB4 := Lib.hid (HB3.out.trans (hb.mono HB3.out.size))
      have HU4 := Lib.hid hu
      clear hb hu
      clear q0 q1 q2 q3
      go_wp2_with fail
      refine (HNUM.out _ (HE.out.below HB4.out)).mono ?_
      rintro e w5 ⟨rfl, hb⟩
      have HB5 := Lib.hid (HB4.out.trans (hb.mono HB4.out.size))
      have HU5 := Lib.hid (HU4.out.later hb)
      clear HU4
      clear hb
      go_wp2_with fail
      with_reducible refine (HNAME.out _).mono ?_
      rintro e w6 ⟨rfl, rfl⟩
      obtain ⟨b5, o5, rfl, r0, r1, r2, r3⟩ := HU5.out.one
      simp only at r0 r1 r2 r3
      obtain ⟨T, eT⟩ : ∃ T : ByteArray, (⟨zt.toArray⟩ : ByteArray) = T := ⟨_, rfl⟩
      have hcmp := beq_str zt t
      rw [eT] at r1 hcmp
      clear HU5
      by_cases hzt : zt = t.data.toList
      · have hk23 : zk = 2 ∨ zk = 3 := by
          rcases hwh with ⟨_, h⟩ | h
          · exact absurd hzt h
          · exact h
        rw [decide_eq_true hzt] at hcmp
        clear hzt hwh eT
        by_cases hzp : zp = 0
        all_goals
          have hzp1 : ((zp : Int) == 0) = decide (zp = 0) := by rw [Bool.eq_iff_iff]; simp
          simp only [hzp, decide_true, decide_false] at hzp1
          rcases hk23 with rfl | rfl
          all_goals
            go_wp2_with fail
            go_ret
            exact ⟨rfl, HB5.out⟩
      · rw [decide_eq_false hzt] at hcmp
        clear hzt eT
        go_wp2_with fail
        go_ret
        exact ⟨rfl, HB5.out⟩

set_option maxHeartbeats 8000000 in
theorem quotes_v_many (s : ByteArray) (hs : s.size ≤ 9223372036854775807) (w : World) (he : Env w) (t : ByteArray) (ht : cutB s = t) (hv : valOk t.data.toList = true) (hn : nameOk t.data.toList = false) (hu : numL t.data.toList = none) (L : List Tok) (hsc : sc false 0 t.data.toList = .ok L) (hL : L.length ≠ 1) : Calls Tryd.prog 8 #[.string s] w (Gives (.bool true) w) := by
  have HE := Lib.hid he
  have HC := Lib.hid (cut_any s hs)
  have hcs := cutB_size s
  rw [ht] at HC hcs
  have hq := quote_any t (by omega)
  have hqv : quoV t.data.toList = .tuple #[.string ⟨(quo t.data.toList).toArray⟩, .bool true] := by unfold quoV; rw [hv]; rfl
  rw [hqv] at hq
  obtain ⟨Q, eQ⟩ : ∃ Q : ByteArray, (⟨(quo t.data.toList).toArray⟩ : ByteArray) = Q := ⟨_, rfl⟩
  rw [eQ] at hq
  have hQl : Q.data.toList = quo t.data.toList := by rw [← eQ]
  have h400 : t.data.toList.length ≤ 400 := by have := hv; unfold valOk at this; rw [Bool.and_eq_true, decide_eq_true_eq] at this; exact this.1
  have hQs : Q.size ≤ 4000 := by rw [← sizeB, hQl, quo_len]; have := esc_le t.data.toList; omega
  have HQS := Lib.hid (scan_ok Q _ _ hQl hQs (sc_quo hv))
  have hqne : ¬ Q.toList = [] := by rw [ByteArray.toList_eq, hQl]; simp [quo]
  rw [sizeB] at h400
  have h400' : decide ((t.size : Int) ≤ 400) = true := by simp; omega
  clear hqv eQ hQl hQs hqne
  have HQ := Lib.hid hq
  clear hq
  have HV := Lib.hid hv
  have hnum := fun W hW => number_any t (by omega) W hW
  unfold NumEnd at hnum
  have hname := name_any t (by omega)
  have hnv : numV t.data.toList = .tuple #[.int .i64 0, .bool false] := by unfold numV; rw [hu]
  rw [hnv] at hnum
  rw [hn] at hname
  clear hnv hn hu
  have HS := Lib.hid (scan_ok t _ _ rfl (by omega) hsc)
  obtain ⟨N, hN⟩ : ∃ N, L.length = N := ⟨_, rfl⟩
  rw [hN] at HS hL
  have hL1 : decide ((N : Int) = 1) = false := by simp; omega
  have hL2 : ((N : Int) != 1) = true := by simp; omega
  clear hsc hN
  have HNUM := Lib.hid hnum
  have HNAME := Lib.hid hname
  clear hnum hname he ht hv
  go_enter Tryd.func8, Tryd.ntmps8
  go_wp2_with fail
  refine (sane_any _ HE.out).mono ?_
  rintro e w1 ⟨rfl, hb⟩
  have HB1 := Lib.hid hb
  clear hb
  go_wp2_with fail
  with_reducible refine (HC.out _).mono ?_
  rintro e w1 ⟨rfl, rfl⟩
  go_wp2_with fail
  refine (HQ.out _).mono ?_
  rintro e w2 ⟨rfl, hb⟩
  have HB2 := Lib.hid (HB1.out.trans (hb.mono HB1.out.size))
  clear hb
  go_wp2_with fail
  go_loop [7, 8] (fun c i => ∃ (k : Nat) (b : Bool), k ≤ t.size ∧ i = .int .i64 k ∧ c = .bool b ∧ b = (decide (t.size ≤ 400) && (t.data.toList.take k).all plainB)) (fun _ i => t.size - (intOf i).toNat)
  case atStart => exact ⟨0, _, by omega, rfl, rfl, by simp; omega⟩
  case round =>
    obtain ⟨k, b, hk, rfl, rfl, hbb⟩ := hrel
    have HBB := Lib.hid hbb
    clear hbb
    by_cases hlt : k < t.size
    · have hst := all_take_step t k hlt
      obtain ⟨y, hy⟩ : ∃ y, t[k] = y := ⟨_, rfl⟩
      rw [hy] at hst
      obtain ⟨Y, hY⟩ : ∃ Y : Int, (y.toNat : Int) = Y := ⟨_, rfl⟩
      have hpb : plainB y = (decide (32 ≤ Y) && decide (Y ≤ 126)) := by unfold plainB; rw [Bool.eq_iff_iff]; simp; omega
      rw [hpb, ← Bool.and_assoc] at hst
      have HST := Lib.hid hst
      clear hst hpb
      cases b
      · go_wp2_with fail
        go_round
        case rel => exact ⟨k + 1, false, by omega, by go_num, rfl, by rw [HST.out, ← Bool.and_assoc, ← Bool.and_assoc, ← HBB.out]; rfl⟩
        case measure => simp [intOf]; omega
      · by_cases h1 : 32 ≤ Y <;> by_cases h2 : Y ≤ 126
        all_goals
          go_wp2_with fail
          go_round
          case rel => exact ⟨k + 1, _, by omega, by go_num, rfl, by rw [HST.out, ← Bool.and_assoc, ← Bool.and_assoc, ← HBB.out]; simp [h1, h2]⟩
          case measure => simp [intOf]; omega
    · have hb2 : b = true := by
        have h1 := HBB.out
        rw [List.take_of_length_le (by rw [sizeB]; omega)] at h1
        have h2 := HV.out
        unfold valOk at h2
        rw [sizeB] at h2
        rw [h1]; exact h2
      subst hb2
      clear HBB HV
      go_wp2_with fail
      refine (HQS.out _ (HE.out.below HB2.out)).mono ?_
      rintro e w3 ⟨a3, c3, rfl, hu, hb⟩
      have HB3 := Lib.hid (HB2.out.trans (hb.mono HB2.out.size))
      obtain ⟨b3, o3, rfl, q0, q1, q2, q3⟩ := hu.one
      simp only at q0 q1 q2 q3
      rw [eqB] at q1
      clear hb hu
      go_wp2_with fail
      refine (HS.out _ (HE.out.below HB3.out)).mono ?_
      rintro e w4 ⟨a4, c4, rfl, hu, hb⟩
      have HB4 := Lib.hid (HB3.out.trans (hb.mono HB3.out.size))
      clear hb hu
      clear q0 q1 q2 q3
      go_wp2_with fail
      refine (HNUM.out _ (HE.out.below HB4.out)).mono ?_
      rintro e w5 ⟨rfl, hb⟩
      have HB5 := Lib.hid (HB4.out.trans (hb.mono HB4.out.size))
      clear hb
      go_wp2_with fail
      with_reducible refine (HNAME.out _).mono ?_
      rintro e w6 ⟨rfl, rfl⟩
      go_wp2_with fail
      go_ret
      exact ⟨rfl, HB5.out⟩

set_option maxHeartbeats 8000000 in
theorem quotes_v_bad (s : ByteArray) (hs : s.size ≤ 9223372036854775807) (w : World) (he : Env w) (t : ByteArray) (ht : cutB s = t) (hv : valOk t.data.toList = true) (hn : nameOk t.data.toList = false) (hu : numL t.data.toList = none) (p : Nat) (x : Int) (hsc : sc false 0 t.data.toList = .bad p x) : Calls Tryd.prog 8 #[.string s] w (Gives (.bool true) w) := by
  have HE := Lib.hid he
  have HC := Lib.hid (cut_any s hs)
  have hcs := cutB_size s
  rw [ht] at HC hcs
  have hq := quote_any t (by omega)
  have hqv : quoV t.data.toList = .tuple #[.string ⟨(quo t.data.toList).toArray⟩, .bool true] := by unfold quoV; rw [hv]; rfl
  rw [hqv] at hq
  obtain ⟨Q, eQ⟩ : ∃ Q : ByteArray, (⟨(quo t.data.toList).toArray⟩ : ByteArray) = Q := ⟨_, rfl⟩
  rw [eQ] at hq
  have hQl : Q.data.toList = quo t.data.toList := by rw [← eQ]
  have h400 : t.data.toList.length ≤ 400 := by have := hv; unfold valOk at this; rw [Bool.and_eq_true, decide_eq_true_eq] at this; exact this.1
  have hQs : Q.size ≤ 4000 := by rw [← sizeB, hQl, quo_len]; have := esc_le t.data.toList; omega
  have HQS := Lib.hid (scan_ok Q _ _ hQl hQs (sc_quo hv))
  have hqne : ¬ Q.toList = [] := by rw [ByteArray.toList_eq, hQl]; simp [quo]
  rw [sizeB] at h400
  have h400' : decide ((t.size : Int) ≤ 400) = true := by simp; omega
  clear hqv eQ hQl hQs hqne
  have HQ := Lib.hid hq
  clear hq
  have HV := Lib.hid hv
  have hnum := fun W hW => number_any t (by omega) W hW
  unfold NumEnd at hnum
  have hname := name_any t (by omega)
  have hnv : numV t.data.toList = .tuple #[.int .i64 0, .bool false] := by unfold numV; rw [hu]
  rw [hnv] at hnum
  rw [hn] at hname
  clear hnv hn hu
  have herr := sc_errs t.data.toList.length false 0 t.data.toList (Nat.le_refl _)
  rw [hsc] at herr
  have h5 := herr.2.2.2.2
  have hx1 : (x != 0) = true := by simp; omega
  have hx2 : (x == 0) = false := by simp; omega
  have HS := Lib.hid (scan_bad t _ p x rfl (by omega) hsc)
  clear hsc herr h5
  have HNUM := Lib.hid hnum
  have HNAME := Lib.hid hname
  clear hnum hname he ht hv
  go_enter Tryd.func8, Tryd.ntmps8
  go_wp2_with fail
  refine (sane_any _ HE.out).mono ?_
  rintro e w1 ⟨rfl, hb⟩
  have HB1 := Lib.hid hb
  clear hb
  go_wp2_with fail
  with_reducible refine (HC.out _).mono ?_
  rintro e w1 ⟨rfl, rfl⟩
  go_wp2_with fail
  refine (HQ.out _).mono ?_
  rintro e w2 ⟨rfl, hb⟩
  have HB2 := Lib.hid (HB1.out.trans (hb.mono HB1.out.size))
  clear hb
  go_wp2_with fail
  go_loop [7, 8] (fun c i => ∃ (k : Nat) (b : Bool), k ≤ t.size ∧ i = .int .i64 k ∧ c = .bool b ∧ b = (decide (t.size ≤ 400) && (t.data.toList.take k).all plainB)) (fun _ i => t.size - (intOf i).toNat)
  case atStart => exact ⟨0, _, by omega, rfl, rfl, by simp; omega⟩
  case round =>
    obtain ⟨k, b, hk, rfl, rfl, hbb⟩ := hrel
    have HBB := Lib.hid hbb
    clear hbb
    by_cases hlt : k < t.size
    · have hst := all_take_step t k hlt
      obtain ⟨y, hy⟩ : ∃ y, t[k] = y := ⟨_, rfl⟩
      rw [hy] at hst
      obtain ⟨Y, hY⟩ : ∃ Y : Int, (y.toNat : Int) = Y := ⟨_, rfl⟩
      have hpb : plainB y = (decide (32 ≤ Y) && decide (Y ≤ 126)) := by unfold plainB; rw [Bool.eq_iff_iff]; simp; omega
      rw [hpb, ← Bool.and_assoc] at hst
      have HST := Lib.hid hst
      clear hst hpb
      cases b
      · go_wp2_with fail
        go_round
        case rel => exact ⟨k + 1, false, by omega, by go_num, rfl, by rw [HST.out, ← Bool.and_assoc, ← Bool.and_assoc, ← HBB.out]; rfl⟩
        case measure => simp [intOf]; omega
      · by_cases h1 : 32 ≤ Y <;> by_cases h2 : Y ≤ 126
        all_goals
          go_wp2_with fail
          go_round
          case rel => exact ⟨k + 1, _, by omega, by go_num, rfl, by rw [HST.out, ← Bool.and_assoc, ← Bool.and_assoc, ← HBB.out]; simp [h1, h2]⟩
          case measure => simp [intOf]; omega
    · have hb2 : b = true := by
        have h1 := HBB.out
        rw [List.take_of_length_le (by rw [sizeB]; omega)] at h1
        have h2 := HV.out
        unfold valOk at h2
        rw [sizeB] at h2
        rw [h1]; exact h2
      subst hb2
      clear HBB HV
      go_wp2_with fail
      refine (HQS.out _ (HE.out.below HB2.out)).mono ?_
      rintro e w3 ⟨a3, c3, rfl, hu, hb⟩
      have HB3 := Lib.hid (HB2.out.trans (hb.mono HB2.out.size))
      obtain ⟨b3, o3, rfl, q0, q1, q2, q3⟩ := hu.one
      simp only at q0 q1 q2 q3
      rw [eqB] at q1
      clear hb hu
      go_wp2_with fail
      refine (HS.out _ (HE.out.below HB3.out)).mono ?_
      rintro e w4 ⟨rfl, hb⟩
      have HB4 := Lib.hid (HB3.out.trans (hb.mono HB3.out.size))
      clear hb
      clear q0 q1 q2 q3
      go_wp2_with fail
      refine (HNUM.out _ (HE.out.below HB4.out)).mono ?_
      rintro e w5 ⟨rfl, hb⟩
      have HB5 := Lib.hid (HB4.out.trans (hb.mono HB4.out.size))
      clear hb
      go_wp2_with fail
      with_reducible refine (HNAME.out _).mono ?_
      rintro e w6 ⟨rfl, rfl⟩
      go_wp2_with fail
      go_ret
      exact ⟨rfl, HB5.out⟩

set_option maxHeartbeats 8000000 in
theorem quotes_n_name (s : ByteArray) (hs : s.size ≤ 9223372036854775807) (w : World) (he : Env w) (t : ByteArray) (ht : cutB s = t) (hv : valOk t.data.toList = false) (hn : nameOk t.data.toList = true) : Calls Tryd.prog 8 #[.string s] w (Gives (.bool true) w) := by
  have HE := Lib.hid he
  have HC := Lib.hid (cut_any s hs)
  have hcs := cutB_size s
  rw [ht] at HC hcs
  have hq := quote_any t (by omega)
  have hqv : quoV t.data.toList = .tuple #[.string ⟨#[]⟩, .bool false] := by unfold quoV; rw [hv]; rfl
  rw [hqv] at hq
  clear hqv
  have HQ := Lib.hid hq
  clear hq
  have HV := Lib.hid hv
  have hnum := fun W hW => number_any t (by omega) W hW
  unfold NumEnd at hnum
  have hname := name_any t (by omega)
  have hsc := sc_name hn
  have hnv : numV t.data.toList = .tuple #[.int .i64 0, .bool false] := by unfold numV; rw [name_not_num hn]
  have h20 : t.size ≤ 20 := by rw [← sizeB]; exact name_len hn
  have h20' : decide ((t.size : Int) ≤ 20) = true := by simp; omega
  rw [hn] at hname
  have HS := Lib.hid (scan_ok t _ _ rfl (by omega) hsc)
  rw [hnv] at hnum
  clear hsc hnv hn
  have HNUM := Lib.hid hnum
  have HNAME := Lib.hid hname
  clear hnum hname he ht hv
  go_enter Tryd.func8, Tryd.ntmps8
  go_wp2_with fail
  refine (sane_any _ HE.out).mono ?_
  rintro e w1 ⟨rfl, hb⟩
  have HB1 := Lib.hid hb
  clear hb
  go_wp2_with fail
  with_reducible refine (HC.out _).mono ?_
  rintro e w1 ⟨rfl, rfl⟩
  go_wp2_with fail
  refine (HQ.out _).mono ?_
  rintro e w2 ⟨rfl, hb⟩
  have HB2 := Lib.hid (HB1.out.trans (hb.mono HB1.out.size))
  clear hb
  go_wp2_with fail
  go_loop [7, 8] (fun c i => ∃ (k : Nat) (b : Bool), k ≤ t.size ∧ i = .int .i64 k ∧ c = .bool b ∧ b = (decide (t.size ≤ 400) && (t.data.toList.take k).all plainB)) (fun _ i => t.size - (intOf i).toNat)
  case atStart => exact ⟨0, _, by omega, rfl, rfl, by simp; omega⟩
  case round =>
    obtain ⟨k, b, hk, rfl, rfl, hbb⟩ := hrel
    have HBB := Lib.hid hbb
    clear hbb
    by_cases hlt : k < t.size
    · have hst := all_take_step t k hlt
      obtain ⟨y, hy⟩ : ∃ y, t[k] = y := ⟨_, rfl⟩
      rw [hy] at hst
      obtain ⟨Y, hY⟩ : ∃ Y : Int, (y.toNat : Int) = Y := ⟨_, rfl⟩
      have hpb : plainB y = (decide (32 ≤ Y) && decide (Y ≤ 126)) := by unfold plainB; rw [Bool.eq_iff_iff]; simp; omega
      rw [hpb, ← Bool.and_assoc] at hst
      have HST := Lib.hid hst
      clear hst hpb
      cases b
      · go_wp2_with fail
        go_round
        case rel => exact ⟨k + 1, false, by omega, by go_num, rfl, by rw [HST.out, ← Bool.and_assoc, ← Bool.and_assoc, ← HBB.out]; rfl⟩
        case measure => simp [intOf]; omega
      · by_cases h1 : 32 ≤ Y <;> by_cases h2 : Y ≤ 126
        all_goals
          go_wp2_with fail
          go_round
          case rel => exact ⟨k + 1, _, by omega, by go_num, rfl, by rw [HST.out, ← Bool.and_assoc, ← Bool.and_assoc, ← HBB.out]; simp [h1, h2]⟩
          case measure => simp [intOf]; omega
    · have hb2 : b = false := by
        have h1 := HBB.out
        rw [List.take_of_length_le (by rw [sizeB]; omega)] at h1
        have h2 := HV.out
        unfold valOk at h2
        rw [sizeB] at h2
        rw [h1]; exact h2
      subst hb2
      clear HBB HV
      go_wp2_with fail
      refine (HS.out _ (HE.out.below HB2.out)).mono ?_
      rintro e w4 ⟨a4, c4, rfl, hu, hb⟩
      have HB4 := Lib.hid (HB2.out.trans (hb.mono HB2.out.size))
      have HU4 := Lib.hid hu
      clear hb hu
      go_wp2_with fail
      refine (HNUM.out _ (HE.out.below HB4.out)).mono ?_
      rintro e w5 ⟨rfl, hb⟩
      have HB5 := Lib.hid (HB4.out.trans (hb.mono HB4.out.size))
      have HU5 := Lib.hid (HU4.out.later hb)
      clear HU4
      clear hb
      go_wp2_with fail
      with_reducible refine (HNAME.out _).mono ?_
      rintro e w6 ⟨rfl, rfl⟩
      obtain ⟨b5, o5, rfl, r0, r1, r2, r3⟩ := HU5.out.one
      simp only at r0 r1 r2 r3
      rw [eqB] at r1
      clear HU5
      go_wp2_with fail
      go_ret
      exact ⟨rfl, HB5.out⟩

set_option maxHeartbeats 8000000 in
theorem quotes_n_num (s : ByteArray) (hs : s.size ≤ 9223372036854775807) (w : World) (he : Env w) (t : ByteArray) (ht : cutB s = t) (hv : valOk t.data.toList = false) (u : Nat) (hn : numL t.data.toList = some u) : Calls Tryd.prog 8 #[.string s] w (Gives (.bool true) w) := by
  have HE := Lib.hid he
  have HC := Lib.hid (cut_any s hs)
  have hcs := cutB_size s
  rw [ht] at HC hcs
  have hq := quote_any t (by omega)
  have hqv : quoV t.data.toList = .tuple #[.string ⟨#[]⟩, .bool false] := by unfold quoV; rw [hv]; rfl
  rw [hqv] at hq
  clear hqv
  have HQ := Lib.hid hq
  clear hq
  have HV := Lib.hid hv
  have hnum := fun W hW => number_any t (by omega) W hW
  unfold NumEnd at hnum
  have hname := name_any t (by omega)
  have hsc := sc_num hn
  have hnv : numV t.data.toList = .tuple #[.int .i64 (u : Int), .bool true] := by unfold numV; rw [hn]
  have hnn : nameOk t.data.toList = false := by
    rcases h : nameOk t.data.toList with _ | _
    · rfl
    · rw [name_not_num h] at hn; cases hn
  have hum := (numL_some hn).2
  have hum1 : decide ((0 : Int) ≤ (u : Int)) = true := by simp
  have hum2 : decide ((u : Int) ≤ 1099511627776) = true := by simp; omega
  rw [hnn] at hname
  have HS := Lib.hid (scan_ok t _ _ rfl (by omega) hsc)
  rw [hnv] at hnum
  clear hsc hnv hn hnn
  have HNUM := Lib.hid hnum
  have HNAME := Lib.hid hname
  clear hnum hname he ht hv
  go_enter Tryd.func8, Tryd.ntmps8
  go_wp2_with fail
  refine (sane_any _ HE.out).mono ?_
  rintro e w1 ⟨rfl, hb⟩
  have HB1 := Lib.hid hb
  clear hb
  go_wp2_with fail
  with_reducible refine (HC.out _).mono ?_
  rintro e w1 ⟨rfl, rfl⟩
  go_wp2_with fail
  refine (HQ.out _).mono ?_
  rintro e w2 ⟨rfl, hb⟩
  have HB2 := Lib.hid (HB1.out.trans (hb.mono HB1.out.size))
  clear hb
  go_wp2_with fail
  go_loop [7, 8] (fun c i => ∃ (k : Nat) (b : Bool), k ≤ t.size ∧ i = .int .i64 k ∧ c = .bool b ∧ b = (decide (t.size ≤ 400) && (t.data.toList.take k).all plainB)) (fun _ i => t.size - (intOf i).toNat)
  case atStart => exact ⟨0, _, by omega, rfl, rfl, by simp; omega⟩
  case round =>
    obtain ⟨k, b, hk, rfl, rfl, hbb⟩ := hrel
    have HBB := Lib.hid hbb
    clear hbb
    by_cases hlt : k < t.size
    · have hst := all_take_step t k hlt
      obtain ⟨y, hy⟩ : ∃ y, t[k] = y := ⟨_, rfl⟩
      rw [hy] at hst
      obtain ⟨Y, hY⟩ : ∃ Y : Int, (y.toNat : Int) = Y := ⟨_, rfl⟩
      have hpb : plainB y = (decide (32 ≤ Y) && decide (Y ≤ 126)) := by unfold plainB; rw [Bool.eq_iff_iff]; simp; omega
      rw [hpb, ← Bool.and_assoc] at hst
      have HST := Lib.hid hst
      clear hst hpb
      cases b
      · go_wp2_with fail
        go_round
        case rel => exact ⟨k + 1, false, by omega, by go_num, rfl, by rw [HST.out, ← Bool.and_assoc, ← Bool.and_assoc, ← HBB.out]; rfl⟩
        case measure => simp [intOf]; omega
      · by_cases h1 : 32 ≤ Y <;> by_cases h2 : Y ≤ 126
        all_goals
          go_wp2_with fail
          go_round
          case rel => exact ⟨k + 1, _, by omega, by go_num, rfl, by rw [HST.out, ← Bool.and_assoc, ← Bool.and_assoc, ← HBB.out]; simp [h1, h2]⟩
          case measure => simp [intOf]; omega
    · have hb2 : b = false := by
        have h1 := HBB.out
        rw [List.take_of_length_le (by rw [sizeB]; omega)] at h1
        have h2 := HV.out
        unfold valOk at h2
        rw [sizeB] at h2
        rw [h1]; exact h2
      subst hb2
      clear HBB HV
      go_wp2_with fail
      refine (HS.out _ (HE.out.below HB2.out)).mono ?_
      rintro e w4 ⟨a4, c4, rfl, hu, hb⟩
      have HB4 := Lib.hid (HB2.out.trans (hb.mono HB2.out.size))
      have HU4 := Lib.hid hu
      clear hb hu
      go_wp2_with fail
      refine (HNUM.out _ (HE.out.below HB4.out)).mono ?_
      rintro e w5 ⟨rfl, hb⟩
      have HB5 := Lib.hid (HB4.out.trans (hb.mono HB4.out.size))
      have HU5 := Lib.hid (HU4.out.later hb)
      clear HU4
      clear hb
      go_wp2_with fail
      with_reducible refine (HNAME.out _).mono ?_
      rintro e w6 ⟨rfl, rfl⟩
      obtain ⟨b5, o5, rfl, r0, r1, r2, r3⟩ := HU5.out.one
      simp only at r0 r1 r2 r3
      rw [eqB] at r1
      clear HU5
      go_wp2_with fail
      go_ret
      exact ⟨rfl, HB5.out⟩

set_option maxHeartbeats 8000000 in
theorem quotes_n_one (s : ByteArray) (hs : s.size ≤ 9223372036854775807) (w : World) (he : Env w) (t : ByteArray) (ht : cutB s = t) (hv : valOk t.data.toList = false) (hn : nameOk t.data.toList = false) (hu : numL t.data.toList = none) (z : Tok) (hsc : sc false 0 t.data.toList = .ok [z]) (hwh : (z.kind = 0 ∨ z.kind = 1) ∧ z.text ≠ t.data.toList ∨ z.kind = 2 ∨ z.kind = 3) : Calls Tryd.prog 8 #[.string s] w (Gives (.bool true) w) := by
  have HE := Lib.hid he
  have HC := Lib.hid (cut_any s hs)
  have hcs := cutB_size s
  rw [ht] at HC hcs
  have hq := quote_any t (by omega)
  have hqv : quoV t.data.toList = .tuple #[.string ⟨#[]⟩, .bool false] := by unfold quoV; rw [hv]; rfl
  rw [hqv] at hq
  clear hqv
  have HQ := Lib.hid hq
  clear hq
  have HV := Lib.hid hv
  have hnum := fun W hW => number_any t (by omega) W hW
  unfold NumEnd at hnum
  have hname := name_any t (by omega)
  have hnv : numV t.data.toList = .tuple #[.int .i64 0, .bool false] := by unfold numV; rw [hu]
  rw [hnv] at hnum
  rw [hn] at hname
  clear hnv hn hu
  have HS := Lib.hid (scan_ok t _ _ rfl (by omega) hsc)
  clear hsc
  obtain ⟨zk, zt, zn, zp⟩ := z
  simp only at hwh
  have HNUM := Lib.hid hnum
  have HNAME := Lib.hid hname
  clear hnum hname he ht hv
  go_enter Tryd.func8, Tryd.ntmps8
  go_wp2_with fail
  refine (sane_any _ HE.out).mono ?_
  rintro e w1 ⟨rfl, hb⟩
  have HB1 := Lib.hid hb
  clear hb
  go_wp2_with fail
  with_reducible refine (HC.out _).mono ?_
  rintro e w1 ⟨rfl, rfl⟩
  go_wp2_with fail
  refine (HQ.out _).mono ?_
  rintro e w2 ⟨rfl, hb⟩
  have HB2 := Lib.hid (HB1.out.trans (hb.mono HB1.out.size))
  clear hb
  go_wp2_with fail
  go_loop [7, 8] (fun c i => ∃ (k : Nat) (b : Bool), k ≤ t.size ∧ i = .int .i64 k ∧ c = .bool b ∧ b = (decide (t.size ≤ 400) && (t.data.toList.take k).all plainB)) (fun _ i => t.size - (intOf i).toNat)
  case atStart => exact ⟨0, _, by omega, rfl, rfl, by simp; omega⟩
  case round =>
    obtain ⟨k, b, hk, rfl, rfl, hbb⟩ := hrel
    have HBB := Lib.hid hbb
    clear hbb
    by_cases hlt : k < t.size
    · have hst := all_take_step t k hlt
      obtain ⟨y, hy⟩ : ∃ y, t[k] = y := ⟨_, rfl⟩
      rw [hy] at hst
      obtain ⟨Y, hY⟩ : ∃ Y : Int, (y.toNat : Int) = Y := ⟨_, rfl⟩
      have hpb : plainB y = (decide (32 ≤ Y) && decide (Y ≤ 126)) := by unfold plainB; rw [Bool.eq_iff_iff]; simp; omega
      rw [hpb, ← Bool.and_assoc] at hst
      have HST := Lib.hid hst
      clear hst hpb
      cases b
      · go_wp2_with fail
        go_round
        case rel => exact ⟨k + 1, false, by omega, by go_num, rfl, by rw [HST.out, ← Bool.and_assoc, ← Bool.and_assoc, ← HBB.out]; rfl⟩
        case measure => simp [intOf]; omega
      · by_cases h1 : 32 ≤ Y <;> by_cases h2 : Y ≤ 126
        all_goals
          go_wp2_with fail
          go_round
          case rel => exact ⟨k + 1, _, by omega, by go_num, rfl, by rw [HST.out, ← Bool.and_assoc, ← Bool.and_assoc, ← HBB.out]; simp [h1, h2]⟩
          case measure => simp [intOf]; omega
    · have hb2 : b = false := by
        have h1 := HBB.out
        rw [List.take_of_length_le (by rw [sizeB]; omega)] at h1
        have h2 := HV.out
        unfold valOk at h2
        rw [sizeB] at h2
        rw [h1]; exact h2
      subst hb2
      clear HBB HV
      go_wp2_with fail
      refine (HS.out _ (HE.out.below HB2.out)).mono ?_
      rintro e w4 ⟨a4, c4, rfl, hu, hb⟩
      have HB4 := Lib.hid (HB2.out.trans (hb.mono HB2.out.size))
      have HU4 := Lib.hid hu
      clear hb hu
      go_wp2_with fail
      refine (HNUM.out _ (HE.out.below HB4.out)).mono ?_
      rintro e w5 ⟨rfl, hb⟩
      have HB5 := Lib.hid (HB4.out.trans (hb.mono HB4.out.size))
      have HU5 := Lib.hid (HU4.out.later hb)
      clear HU4
      clear hb
      go_wp2_with fail
      with_reducible refine (HNAME.out _).mono ?_
      rintro e w6 ⟨rfl, rfl⟩
      obtain ⟨b5, o5, rfl, r0, r1, r2, r3⟩ := HU5.out.one
      simp only at r0 r1 r2 r3
      obtain ⟨T, eT⟩ : ∃ T : ByteArray, (⟨zt.toArray⟩ : ByteArray) = T := ⟨_, rfl⟩
      have hcmp := beq_str zt t
      rw [eT] at r1 hcmp
      clear HU5
      by_cases hzt : zt = t.data.toList
      · have hk23 : zk = 2 ∨ zk = 3 := by
          rcases hwh with ⟨_, h⟩ | h
          · exact absurd hzt h
          · exact h
        rw [decide_eq_true hzt] at hcmp
        clear hzt hwh eT
        by_cases hzp : zp = 0
        all_goals
          have hzp1 : ((zp : Int) == 0) = decide (zp = 0) := by rw [Bool.eq_iff_iff]; simp
          simp only [hzp, decide_true, decide_false] at hzp1
          rcases hk23 with rfl | rfl
          all_goals
            go_wp2_with fail
            go_ret
            exact ⟨rfl, HB5.out⟩
      · rw [decide_eq_false hzt] at hcmp
        clear hzt eT
        go_wp2_with fail
        go_ret
        exact ⟨rfl, HB5.out⟩

set_option maxHeartbeats 8000000 in
theorem quotes_n_many (s : ByteArray) (hs : s.size ≤ 9223372036854775807) (w : World) (he : Env w) (t : ByteArray) (ht : cutB s = t) (hv : valOk t.data.toList = false) (hn : nameOk t.data.toList = false) (hu : numL t.data.toList = none) (L : List Tok) (hsc : sc false 0 t.data.toList = .ok L) (hL : L.length ≠ 1) : Calls Tryd.prog 8 #[.string s] w (Gives (.bool true) w) := by
  have HE := Lib.hid he
  have HC := Lib.hid (cut_any s hs)
  have hcs := cutB_size s
  rw [ht] at HC hcs
  have hq := quote_any t (by omega)
  have hqv : quoV t.data.toList = .tuple #[.string ⟨#[]⟩, .bool false] := by unfold quoV; rw [hv]; rfl
  rw [hqv] at hq
  clear hqv
  have HQ := Lib.hid hq
  clear hq
  have HV := Lib.hid hv
  have hnum := fun W hW => number_any t (by omega) W hW
  unfold NumEnd at hnum
  have hname := name_any t (by omega)
  have hnv : numV t.data.toList = .tuple #[.int .i64 0, .bool false] := by unfold numV; rw [hu]
  rw [hnv] at hnum
  rw [hn] at hname
  clear hnv hn hu
  have HS := Lib.hid (scan_ok t _ _ rfl (by omega) hsc)
  obtain ⟨N, hN⟩ : ∃ N, L.length = N := ⟨_, rfl⟩
  rw [hN] at HS hL
  have hL1 : decide ((N : Int) = 1) = false := by simp; omega
  have hL2 : ((N : Int) != 1) = true := by simp; omega
  clear hsc hN
  have HNUM := Lib.hid hnum
  have HNAME := Lib.hid hname
  clear hnum hname he ht hv
  go_enter Tryd.func8, Tryd.ntmps8
  go_wp2_with fail
  refine (sane_any _ HE.out).mono ?_
  rintro e w1 ⟨rfl, hb⟩
  have HB1 := Lib.hid hb
  clear hb
  go_wp2_with fail
  with_reducible refine (HC.out _).mono ?_
  rintro e w1 ⟨rfl, rfl⟩
  go_wp2_with fail
  refine (HQ.out _).mono ?_
  rintro e w2 ⟨rfl, hb⟩
  have HB2 := Lib.hid (HB1.out.trans (hb.mono HB1.out.size))
  clear hb
  go_wp2_with fail
  go_loop [7, 8] (fun c i => ∃ (k : Nat) (b : Bool), k ≤ t.size ∧ i = .int .i64 k ∧ c = .bool b ∧ b = (decide (t.size ≤ 400) && (t.data.toList.take k).all plainB)) (fun _ i => t.size - (intOf i).toNat)
  case atStart => exact ⟨0, _, by omega, rfl, rfl, by simp; omega⟩
  case round =>
    obtain ⟨k, b, hk, rfl, rfl, hbb⟩ := hrel
    have HBB := Lib.hid hbb
    clear hbb
    by_cases hlt : k < t.size
    · have hst := all_take_step t k hlt
      obtain ⟨y, hy⟩ : ∃ y, t[k] = y := ⟨_, rfl⟩
      rw [hy] at hst
      obtain ⟨Y, hY⟩ : ∃ Y : Int, (y.toNat : Int) = Y := ⟨_, rfl⟩
      have hpb : plainB y = (decide (32 ≤ Y) && decide (Y ≤ 126)) := by unfold plainB; rw [Bool.eq_iff_iff]; simp; omega
      rw [hpb, ← Bool.and_assoc] at hst
      have HST := Lib.hid hst
      clear hst hpb
      cases b
      · go_wp2_with fail
        go_round
        case rel => exact ⟨k + 1, false, by omega, by go_num, rfl, by rw [HST.out, ← Bool.and_assoc, ← Bool.and_assoc, ← HBB.out]; rfl⟩
        case measure => simp [intOf]; omega
      · by_cases h1 : 32 ≤ Y <;> by_cases h2 : Y ≤ 126
        all_goals
          go_wp2_with fail
          go_round
          case rel => exact ⟨k + 1, _, by omega, by go_num, rfl, by rw [HST.out, ← Bool.and_assoc, ← Bool.and_assoc, ← HBB.out]; simp [h1, h2]⟩
          case measure => simp [intOf]; omega
    · have hb2 : b = false := by
        have h1 := HBB.out
        rw [List.take_of_length_le (by rw [sizeB]; omega)] at h1
        have h2 := HV.out
        unfold valOk at h2
        rw [sizeB] at h2
        rw [h1]; exact h2
      subst hb2
      clear HBB HV
      go_wp2_with fail
      refine (HS.out _ (HE.out.below HB2.out)).mono ?_
      rintro e w4 ⟨a4, c4, rfl, hu, hb⟩
      have HB4 := Lib.hid (HB2.out.trans (hb.mono HB2.out.size))
      clear hb hu
      go_wp2_with fail
      refine (HNUM.out _ (HE.out.below HB4.out)).mono ?_
      rintro e w5 ⟨rfl, hb⟩
      have HB5 := Lib.hid (HB4.out.trans (hb.mono HB4.out.size))
      clear hb
      go_wp2_with fail
      with_reducible refine (HNAME.out _).mono ?_
      rintro e w6 ⟨rfl, rfl⟩
      go_wp2_with fail
      go_ret
      exact ⟨rfl, HB5.out⟩

set_option maxHeartbeats 8000000 in
theorem quotes_n_bad (s : ByteArray) (hs : s.size ≤ 9223372036854775807) (w : World) (he : Env w) (t : ByteArray) (ht : cutB s = t) (hv : valOk t.data.toList = false) (hn : nameOk t.data.toList = false) (hu : numL t.data.toList = none) (p : Nat) (x : Int) (hsc : sc false 0 t.data.toList = .bad p x) : Calls Tryd.prog 8 #[.string s] w (Gives (.bool true) w) := by
  have HE := Lib.hid he
  have HC := Lib.hid (cut_any s hs)
  have hcs := cutB_size s
  rw [ht] at HC hcs
  have hq := quote_any t (by omega)
  have hqv : quoV t.data.toList = .tuple #[.string ⟨#[]⟩, .bool false] := by unfold quoV; rw [hv]; rfl
  rw [hqv] at hq
  clear hqv
  have HQ := Lib.hid hq
  clear hq
  have HV := Lib.hid hv
  have hnum := fun W hW => number_any t (by omega) W hW
  unfold NumEnd at hnum
  have hname := name_any t (by omega)
  have hnv : numV t.data.toList = .tuple #[.int .i64 0, .bool false] := by unfold numV; rw [hu]
  rw [hnv] at hnum
  rw [hn] at hname
  clear hnv hn hu
  have herr := sc_errs t.data.toList.length false 0 t.data.toList (Nat.le_refl _)
  rw [hsc] at herr
  have h5 := herr.2.2.2.2
  have hx1 : (x != 0) = true := by simp; omega
  have hx2 : (x == 0) = false := by simp; omega
  have HS := Lib.hid (scan_bad t _ p x rfl (by omega) hsc)
  clear hsc herr h5
  have HNUM := Lib.hid hnum
  have HNAME := Lib.hid hname
  clear hnum hname he ht hv
  go_enter Tryd.func8, Tryd.ntmps8
  go_wp2_with fail
  refine (sane_any _ HE.out).mono ?_
  rintro e w1 ⟨rfl, hb⟩
  have HB1 := Lib.hid hb
  clear hb
  go_wp2_with fail
  with_reducible refine (HC.out _).mono ?_
  rintro e w1 ⟨rfl, rfl⟩
  go_wp2_with fail
  refine (HQ.out _).mono ?_
  rintro e w2 ⟨rfl, hb⟩
  have HB2 := Lib.hid (HB1.out.trans (hb.mono HB1.out.size))
  clear hb
  go_wp2_with fail
  go_loop [7, 8] (fun c i => ∃ (k : Nat) (b : Bool), k ≤ t.size ∧ i = .int .i64 k ∧ c = .bool b ∧ b = (decide (t.size ≤ 400) && (t.data.toList.take k).all plainB)) (fun _ i => t.size - (intOf i).toNat)
  case atStart => exact ⟨0, _, by omega, rfl, rfl, by simp; omega⟩
  case round =>
    obtain ⟨k, b, hk, rfl, rfl, hbb⟩ := hrel
    have HBB := Lib.hid hbb
    clear hbb
    by_cases hlt : k < t.size
    · have hst := all_take_step t k hlt
      obtain ⟨y, hy⟩ : ∃ y, t[k] = y := ⟨_, rfl⟩
      rw [hy] at hst
      obtain ⟨Y, hY⟩ : ∃ Y : Int, (y.toNat : Int) = Y := ⟨_, rfl⟩
      have hpb : plainB y = (decide (32 ≤ Y) && decide (Y ≤ 126)) := by unfold plainB; rw [Bool.eq_iff_iff]; simp; omega
      rw [hpb, ← Bool.and_assoc] at hst
      have HST := Lib.hid hst
      clear hst hpb
      cases b
      · go_wp2_with fail
        go_round
        case rel => exact ⟨k + 1, false, by omega, by go_num, rfl, by rw [HST.out, ← Bool.and_assoc, ← Bool.and_assoc, ← HBB.out]; rfl⟩
        case measure => simp [intOf]; omega
      · by_cases h1 : 32 ≤ Y <;> by_cases h2 : Y ≤ 126
        all_goals
          go_wp2_with fail
          go_round
          case rel => exact ⟨k + 1, _, by omega, by go_num, rfl, by rw [HST.out, ← Bool.and_assoc, ← Bool.and_assoc, ← HBB.out]; simp [h1, h2]⟩
          case measure => simp [intOf]; omega
    · have hb2 : b = false := by
        have h1 := HBB.out
        rw [List.take_of_length_le (by rw [sizeB]; omega)] at h1
        have h2 := HV.out
        unfold valOk at h2
        rw [sizeB] at h2
        rw [h1]; exact h2
      subst hb2
      clear HBB HV
      go_wp2_with fail
      refine (HS.out _ (HE.out.below HB2.out)).mono ?_
      rintro e w4 ⟨rfl, hb⟩
      have HB4 := Lib.hid (HB2.out.trans (hb.mono HB2.out.size))
      clear hb
      go_wp2_with fail
      refine (HNUM.out _ (HE.out.below HB4.out)).mono ?_
      rintro e w5 ⟨rfl, hb⟩
      have HB5 := Lib.hid (HB4.out.trans (hb.mono HB4.out.size))
      clear hb
      go_wp2_with fail
      with_reducible refine (HNAME.out _).mono ?_
      rintro e w6 ⟨rfl, rfl⟩
      go_wp2_with fail
      go_ret
      exact ⟨rfl, HB5.out⟩

theorem LexerQuotes_any (s : ByteArray) (hs : s.size ≤ 9223372036854775807) (w : World) (he : Env w) : Calls Tryd.prog 8 #[.string s] w (Gives (.bool true) w) := by
  rcases hn : nameOk (cutB s).data.toList with _ | _
  · rcases hu : numL (cutB s).data.toList with _ | u
    · rcases hsc : sc false 0 (cutB s).data.toList with L | ⟨p, x⟩
      · by_cases hL : L.length = 1
        · match L, hL, hsc with
          | [z], _, hsc =>
            have hok := (few_of (by rw [sizeB]; exact cutB_size s) hsc).1 z (by simp)
            have hwh : (z.kind = 0 ∨ z.kind = 1) ∧ z.text ≠ (cutB s).data.toList ∨ z.kind = 2 ∨ z.kind = 3 := by
              rcases hok with ⟨h, h2, _⟩ | ⟨h, ⟨v, h2, _⟩⟩ | ⟨h, _⟩ | ⟨h, _⟩
              · left; exact ⟨.inl h, fun e => by rw [e, hn] at h2; cases h2⟩
              · left; exact ⟨.inr h, fun e => by rw [e, hu] at h2; cases h2⟩
              · right; left; exact h
              · right; right; exact h
            rcases hv : valOk (cutB s).data.toList with _ | _
            · exact quotes_n_one s hs w he _ rfl hv hn hu z hsc hwh
            · exact quotes_v_one s hs w he _ rfl hv hn hu z hsc hwh
        · rcases hv : valOk (cutB s).data.toList with _ | _
          · exact quotes_n_many s hs w he _ rfl hv hn hu L hsc hL
          · exact quotes_v_many s hs w he _ rfl hv hn hu L hsc hL
      · rcases hv : valOk (cutB s).data.toList with _ | _
        · exact quotes_n_bad s hs w he _ rfl hv hn hu p x hsc
        · exact quotes_v_bad s hs w he _ rfl hv hn hu p x hsc
    · rcases hv : valOk (cutB s).data.toList with _ | _
      · exact quotes_n_num s hs w he _ rfl hv u hu
      · exact quotes_v_num s hs w he _ rfl hv u hu
  · rcases hv : valOk (cutB s).data.toList with _ | _
    · exact quotes_n_name s hs w he _ rfl hv hn
    · exact quotes_v_name s hs w he _ rfl hv hn
end Go.Proofs.YtagkdhcclkbjgaaDoor.Le
