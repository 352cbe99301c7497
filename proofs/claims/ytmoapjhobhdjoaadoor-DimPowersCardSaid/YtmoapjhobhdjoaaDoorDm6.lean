/- The contracts of Split, Atoi, readPower. -/
import Derived.Lib.AppendIntMem
import Derived.Test.YtmoapjhobhdjoaaDoorDm5
set_option maxRecDepth 100000
namespace Go.Proofs.YtmoapjhobhdjoaaDoor.Dm
open Go.RowKit

/-- The cells of a block, from a place on, hold strings. -/
def Strs (w : World) (g o : Nat) (l : List (List UInt8)) : Prop := ∀ j x, l[j]? = some x → w.cell? ⟨g, o + j, none⟩ = some (sv x)
theorem Strs.below {w w' : World} {B g o : Nat} {l : List (List UInt8)} (h : Strs w g o l) (hb : RowKit.Below B w w') (hg : g < B) : Strs w' g o l := fun j x hx => by
  rw [hb.cell (by simpa using hg)]; exact h j x hx
/-- What Split returns. -/
def SplitEnd (L : List (List UInt8)) (g : Nat) (w : World) (e : Ending) (w' : World) : Prop := e = .returned (.slice (some ⟨g, 0, none⟩) L.length L.length) ∧ Strs w' g 0 L ∧ RowKit.Below w.heap.size w w' ∧ g < w'.heap.size
theorem split_any (s : List UInt8) (c : UInt8) (hs : s.length ≤ 1000) (w : World) (he : Env w) :
    Calls Tryd.prog 21 #[sv s, .string ⟨#[c]⟩] w (SplitEnd (Lib.split s [c]) w.heap.size w) := by
  obtain ⟨m, hm⟩ := he.len
  refine (Tryd.strings_Split ⟨s.toArray⟩ ⟨#[c]⟩ m w (by show s.toArray.size < _; simp; omega) hm (by show 1 ≤ 1; omega)).mono ?_
  rintro e w' ⟨rfl, rfl⟩
  have hd : (Lib.splitB ⟨#[c]⟩ 0 (Lib.countB ⟨s.toArray⟩ ⟨#[c]⟩) ⟨s.toArray⟩).map (·.data.toList) = Lib.split s [c] := Lib.splitB_data _ _ _ _
  have hl := congrArg List.length hd
  rw [List.length_map, Lib.splitB_all ⟨#[c]⟩ (by show 1 ≤ 1; omega) 0 _ _ rfl] at hl
  refine ⟨by rw [hl], fun j x hx => ?_, (Below.refl _ _).alloc (Nat.le_refl _) _, by simp⟩
  rw [← hd, List.getElem?_map] at hx
  obtain ⟨y, hy, rfl⟩ := Option.map_eq_some_iff.1 hx
  rw [Nat.zero_add, cell_of_row _ _ j _ _ _ (alloc_at w _), List.getElem?_toArray, List.getElem?_map, hy]
  rfl

theorem atoi_ok (d : List UInt8) (hd : d.length ≤ 1000) (v : Int) (h : Lib.atoiAll d = .ok v) (w : World) :
    Calls Tryd.prog 35 #[sv d] w fun e w' => e = .returned (.tuple #[.int .i64 v, .nilIface]) ∧ RowKit.Below w.heap.size w w' := by
  refine (Tryd.strconv_Atoi_ok ⟨d.toArray⟩ (by show d.toArray.size ≤ _; simp; omega) v h w).mono ?_
  rintro e w' ⟨rfl, rfl | ⟨t, rfl⟩⟩
  · exact ⟨rfl, Below.refl _ _⟩
  · exact ⟨rfl, Lib.bytesWorld_below _ _ _⟩
def AtoiBad (w : World) (e : Ending) (w' : World) : Prop := ∃ N n, e = .returned (.tuple #[.int .i64 n, .iface 91 (.pointer (some ⟨N, 0, none⟩))]) ∧ RowKit.Below w.heap.size w w'
theorem atoi_bad (d : List UInt8) (hd : d.length ≤ 1000) (h : ∀ v, Lib.atoiAll d ≠ .ok v) (w : World) (he : Env w) :
    Calls Tryd.prog 35 #[sv d] w (AtoiBad w) := by
  obtain ⟨t, p, h2⟩ := he.syn
  obtain ⟨t', p', h3⟩ := he.ran
  rcases hm : Lib.atoiAll d with v | _ | _
  · exact absurd hm (h v)
  · refine (Any.strconv_Atoi_syntax Tryd.laysC172 ⟨d.toArray⟩ (by show d.toArray.size ≤ _; simp; omega) hm _ w h2 (.inr ⟨t, p, rfl⟩)).mono ?_
    rintro e w' ⟨N, rfl, _, _, hb⟩
    exact ⟨N, _, rfl, hb⟩
  · refine (Any.strconv_Atoi_range Tryd.laysC172 ⟨d.toArray⟩ (by show d.toArray.size ≤ _; simp; omega) hm _ w h3 (.inr ⟨t', p', rfl⟩)).mono ?_
    rintro e w' ⟨N, rfl, _, _, hb⟩
    exact ⟨N, _, rfl, hb⟩

/-- What readPower returns. -/
def PowEnd (s : List UInt8) (w : World) (e : Ending) (w' : World) : Prop :=
  ∃ (i : Nat) (n : Int) (b : Bool), e = .returned (.tuple #[.int .i64 (i : Int), .int .i64 n, .bool b]) ∧ (b = true → rp s = some (i, n)) ∧ (b = false → rp s = none) ∧ RowKit.Below w.heap.size w w'
theorem sym_idx (k : Nat) (h : k < 6) (w : World) : (Instr.index 41 (.agg symV) (.int .i64 (k : Int))).run Tryd.prog w = .ok (sv (sy k)) w := by
  rcases lt6 h with rfl | rfl | rfl | rfl | rfl | rfl <;> rfl
theorem infoSym : (Tryd.prog.info? 41).map (·.size) = some symV.size := by kernel_rfl
theorem cutp_any (s p : List UInt8) (w : World) : Calls Tryd.prog 34 #[sv s, sv p] w fun e w' => e = .returned (.tuple #[sv (Lib.trimPrefix s p), .bool (Lib.hasPrefix s p)]) ∧ w' = w := Tryd.strings_CutPrefix ⟨s.toArray⟩ ⟨p.toArray⟩ w
theorem trim_rest (s : List UInt8) (k : Nat) (h : Lib.hasPrefix s (sy k) = true) : Lib.trimPrefix s (sy k) = rest s k := by unfold Lib.trimPrefix rest; rw [if_pos h]
theorem eqs (D : List UInt8) (b : Bool) (h : decide (D = []) = b) : ((⟨D.toArray⟩ : ByteArray).toList == (⟨#[]⟩ : ByteArray).toList) = b ∧ (⟨D.toArray⟩ : ByteArray).toList.isEmpty = b ∧ D.isEmpty = b ∧ (D == []) = b := by
  subst h
  cases D with
  | nil => simp [ByteArray.toList_eq]
  | cons a D => simp [ByteArray.toList_eq]

set_option maxHeartbeats 2000000 in
theorem readPower_any (s : List UInt8) (hs : s.length ≤ 1000) (w : World) (he : Env w) : Calls Tryd.prog 27 #[sv s] w (PowEnd s w) := by
  obtain ⟨st, fr, hsym⟩ := he.sym
  have HS := Lib.hid hsym
  have HE := Lib.hid he
  have HI := Lib.hid sym_idx
  have HL := Lib.hid hs
  clear hsym he hs
  unfold sv at HI ⊢
  go_enter Tryd.func27, Tryd.ntmps27
  go_wp2_with (refine wpList_load_row rfl _ _ rfl _ rfl _ _ _ _ HS.out Tryd.underlying41 rfl infoSym ?_)
  go_loop [12] (fun i => ∃ k : Nat, k ≤ 6 ∧ i = .int .i64 k ∧ ∀ j, j < k → Lib.hasPrefix s (sy j) = false) (fun i => 6 - (RowKit.intOf i).toNat)
  case atStart => exact ⟨0, by omega, rfl, fun j h => by omega⟩
  case round =>
    obtain ⟨k, hk, rfl, hno⟩ := hrel
    have HN := Lib.hid hno
    clear hno
    by_cases hlt : k < 6
    · have hidx := HI.out k hlt
      have hlt2 : decide ((k : Int) < 6) = true := by simp; omega
      have HC := Lib.hid (cutp_any s (sy k))
      unfold sv at HC
      by_cases hp : Lib.hasPrefix s (sy k) = true
      · have HF := Lib.hid (fst_at hlt HN.out hp)
        rw [trim_rest s k hp, hp] at HC
        obtain ⟨D, hD⟩ : ∃ D, rest s k = D := ⟨_, rfl⟩
        have HDL : Hid (D.length ≤ 1000) := Lib.hid (by rw [← hD]; unfold rest; rw [List.length_drop]; have := HL.out; omega)
        rw [hD] at HC
        have HD := Lib.hid hD
        clear hD hp
        by_cases h0 : D = []
        · obtain ⟨q1, q2, q4, q5⟩ := eqs D true (by simpa using h0)
          have HR : Hid (rp s = some (k, 1)) := Lib.hid (rp_bare HF.out (by rw [HD.out]; exact h0))
          clear h0
          go_wp2_with fail
          refine (HC.out _).mono ?_
          rintro e w0 ⟨rfl, rfl⟩
          go_wp2_with fail
          go_ret3
          exact ⟨k, 1, true, rfl, fun _ => HR.out, fun h => (by cases h), Below.refl _ _⟩
        · obtain ⟨q1, q2, q4, q5⟩ := eqs D false (by simpa using h0)
          by_cases hat : ∃ v, Lib.atoiAll D = .ok v
          · obtain ⟨v, hv⟩ := hat
            have HR : Hid (rp s = some (k, v)) := Lib.hid (rp_ok HF.out (by rw [HD.out]; exact h0) (by rw [HD.out]; exact hv))
            have HA := Lib.hid (atoi_ok D HDL.out v hv w)
            unfold sv at HA
            clear h0 hv
            go_wp2_with fail
            refine (HC.out _).mono ?_
            rintro e w0 ⟨rfl, rfl⟩
            go_wp2_with fail
            refine HA.out.mono ?_
            rintro e w1 ⟨rfl, hb⟩
            have HB := Lib.hid hb
            clear hb
            go_wp2_with fail
            go_quiet (fail)
            all_goals go_wp2_with fail
            all_goals go_ret3
            all_goals exact ⟨k, v, true, rfl, fun _ => HR.out, fun h => (by cases h), HB.out.trans ((below_drewN _ _).mono HB.out.size)⟩
          · have HR : Hid (rp s = none) := Lib.hid (rp_bad HF.out (by rw [HD.out]; exact h0) (fun v h => hat ⟨v, by rw [← HD.out]; exact h⟩))
            have HA := Lib.hid (atoi_bad D HDL.out (fun v h => hat ⟨v, h⟩) w HE.out)
            unfold sv at HA
            clear h0 hat
            go_wp2_with fail
            refine (HC.out _).mono ?_
            rintro e w0 ⟨rfl, rfl⟩
            go_wp2_with fail
            refine HA.out.mono ?_
            rintro e w1 ⟨N, n, rfl, hb⟩
            have HB := Lib.hid hb
            clear hb
            go_wp2_with fail
            go_quiet (fail)
            all_goals go_wp2_with fail
            all_goals go_ret3
            all_goals exact ⟨k, n, false, rfl, fun h => (by cases h), fun _ => HR.out, HB.out.trans ((below_drewN _ _).mono HB.out.size)⟩
      · have hp' : Lib.hasPrefix s (sy k) = false := by simpa using hp
        have HP := Lib.hid hp'
        rw [hp'] at HC
        clear hp hp'
        go_wp2_with fail
        refine (HC.out _).mono ?_
        rintro e w0 ⟨rfl, rfl⟩
        go_wp2_with fail
        go_round
        case rel =>
          refine ⟨k + 1, by omega, by go_num, fun j hj => ?_⟩
          rcases Nat.lt_or_ge j k with h | h
          · exact HN.out j h
          · obtain rfl : j = k := by omega
            exact HP.out
        case measure => simp [RowKit.intOf]; omega
    · have HR : Hid (rp s = none) := Lib.hid (rp_miss (fst_none (fun j hj => HN.out j (by omega))))
      have hlt2 : decide ((k : Int) < 6) = false := by simp; omega
      go_wp2_with fail
      go_ret3
      exact ⟨0, 0, false, rfl, fun h => (by cases h), fun _ => HR.out, Below.refl _ _⟩
end Go.Proofs.YtmoapjhobhdjoaaDoor.Dm
