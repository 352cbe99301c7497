/- The contract of LexerJoins. -/
import Derived.Test.YtagkdhcclkbjgaaDoorLe21
set_option maxRecDepth 100000
namespace Go.Proofs.YtagkdhcclkbjgaaDoor.Le
open Go.RowKit

def Tok.shift (d : Nat) (x : Tok) : Tok := ⟨x.kind, x.text, x.n, x.pos + d⟩
def R.shift (d : Nat) : R → R
  | .ok L => .ok (L.map (Tok.shift d))
  | .bad p e => .bad (p + d) e
theorem R.shift_pre (d : Nat) (L : List Tok) (r : R) : R.shift d (R.pre L r) = R.pre (L.map (Tok.shift d)) (R.shift d r) := by
  cases r <;> simp [R.shift, R.pre]
theorem sc_shift (d : Nat) : ∀ (m : Nat) (c : Bool) (p : Nat) (s : List UInt8), s.length ≤ m → sc c (p + d) s = R.shift d (sc c p s) := by
  refine sc_ind (M := fun c p s r => sc c (p + d) s = R.shift d r) ?_ ?_ ?_
  · intro c p s h
    rw [sc_done h]; rfl
  · intro c p s x r e h ht
    rw [sc_bad h ht]
    show R.bad _ _ = R.bad _ _
    congr 1; omega
  · intro c p s x r k t n z h ht hl ih
    rw [sc_tok h ht, R.shift_pre, ← ih]
    rw [show p + skip c s + z + d = p + d + skip c s + z by omega]
    congr 1
    simp [Tok.shift]; omega
def PosR (q : Nat) : R → Prop
  | .ok L => ∀ x ∈ L, x.pos ≤ q
  | .bad _ _ => True
theorem sc_pos : ∀ (m : Nat) (c : Bool) (p : Nat) (s : List UInt8), s.length ≤ m → PosR (p + s.length) (sc c p s) := by
  refine sc_ind (M := fun c p s r => PosR (p + s.length) r) ?_ ?_ ?_
  · intro c p s h x hx; simp at hx
  · intro c p s x r e h ht; trivial
  · intro c p s x r k t n z h ht hl ih
    obtain ⟨_, _, hz1, hz2, _⟩ := tokL_ok ht
    have hl2 := congrArg List.length h
    simp only [List.length_drop, List.length_cons] at hl2
    rcases hR : sc false (p + skip c s + z) (r.drop (z - 1)) with M | ⟨q, e⟩
    · rw [hR] at ih
      intro y hy
      simp at hy
      rcases hy with rfl | hy
      · simp; omega
      · have := ih y hy
        rw [List.length_drop] at this; omega
    · trivial
theorem keepC {w : World} {a : Addr} {u : Value} (h : w.cell? a = some u) : ∀ o : Obj, (w.alloc o).cell? a = some u := fun o => by
  rw [World.cell?_alloc_lt w o a (World.block_lt_of_cell? w a h)]; exact h
/-- Both texts and a line feed between them. -/
theorem sc_both (x y : List UInt8) (L : List Tok) (h : sc false 0 x = .ok L) : sc false 0 (x ++ 10 :: y) = R.pre L (R.shift (x.length + 1) (sc false 0 y)) := by
  have := sc_join y x.length false 0 x (Nat.le_refl _)
  rw [h] at this
  rw [this]
  simp only [joinR]
  rw [← sc_shift (x.length + 1) y.length false 0 y (Nat.le_refl _)]
  congr 2

set_option maxHeartbeats 8000000 in
theorem joins_a (s t : ByteArray) (hs : s.size ≤ 9223372036854775807) (ht : t.size ≤ 9223372036854775807) (w : World) (he : Env w) (p : Nat) (e0 : Int) (hx : sc false 0 (cutB s).data.toList = .bad p e0) : Calls Tryd.prog 6 #[.string s, .string t] w (Gives (.bool true) w) := by
  have HE := Lib.hid he
  have HC := Lib.hid (cut_any s hs)
  have HD := Lib.hid (cut_any t ht)
  have hcs := cutB_size s
  have hct := cutB_size t
  obtain ⟨x, ex⟩ : ∃ x, cutB s = x := ⟨_, rfl⟩
  obtain ⟨y, ey⟩ : ∃ y, cutB t = y := ⟨_, rfl⟩
  rw [ex] at HC hcs hx
  rw [ey] at HD hct
  have hcat1 := add_run (a := x) (b := ⟨#[10]⟩) (by show x.size + 1 ≤ _; omega)
  have hcat2 := add_run (a := x ++ ⟨#[10]⟩) (b := y) (by rw [catS]; show x.size + 1 + _ ≤ _; omega)
  have hj := sc_join y.data.toList x.data.toList.length false 0 x.data.toList (Nat.le_refl _)
  rw [hx] at hj
  have HS1 := Lib.hid (scan_bad x _ p e0 rfl (by omega) hx)
  have HS2 := Lib.hid (fun W hW => (scan_any y (by omega) W hW).mono fun _ _ h => scanEnd_tot h)
  have HS3 := Lib.hid (scan_bad (x ++ ⟨#[10]⟩ ++ y) _ p e0 (by rw [catB, catB, List.append_assoc]; rfl) (by rw [catS, catS]; show x.size + 1 + _ ≤ _; omega) hj)
  have hx0 : e0 = 10 ∨ e0 = 3 ∨ e0 = 2 := by
    have := sc_errs x.data.toList.length false 0 x.data.toList (Nat.le_refl _)
    rw [hx] at this; exact this.2.2.2.2
  have hx1 : (e0 != 0) = true := by simp; omega
  have hx2 : (e0 == 0) = false := by simp; omega
  clear he hx hj ex ey hx0
  go_enter Tryd.func6, Tryd.ntmps6
  go_wp2_with fail
  refine (sane_any _ HE.out).mono ?_
  rintro e w1 ⟨rfl, hb⟩
  have HB1 := Lib.hid hb
  clear hb
  go_wp2_with fail
  with_reducible refine (HC.out _).mono ?_
  rintro e w1 ⟨rfl, rfl⟩
  go_wp2_with fail
  with_reducible refine (HD.out _).mono ?_
  rintro e w1 ⟨rfl, rfl⟩
  go_wp2_with fail
  refine (HS1.out _ (HE.out.below HB1.out)).mono ?_
  rintro e w2 ⟨rfl, hb⟩
  have HB2 := Lib.hid (HB1.out.trans (hb.mono HB1.out.size))
  clear hb
  go_wp2_with fail
  refine (HS2.out _ (HE.out.below HB2.out)).mono ?_
  rintro e w3 ⟨a3, c3, rfl, _, hb⟩
  have HB3 := Lib.hid (HB2.out.trans (hb.mono HB2.out.size))
  clear hb
  go_wp2_with fail
  with_reducible refine (HS3.out _ (HE.out.below HB3.out)).mono ?_
  rintro e w4 ⟨rfl, hb⟩
  have HB4 := Lib.hid (HB3.out.trans (hb.mono HB3.out.size))
  clear hb
  go_wp2_with fail
  go_ret
  exact ⟨rfl, HB4.out⟩

set_option maxHeartbeats 8000000 in
theorem joins_b (s t : ByteArray) (hs : s.size ≤ 9223372036854775807) (ht : t.size ≤ 9223372036854775807) (w : World) (he : Env w) (L : List Tok) (p : Nat) (e0 : Int) (hx : sc false 0 (cutB s).data.toList = .ok L) (hy : sc false 0 (cutB t).data.toList = .bad p e0) : Calls Tryd.prog 6 #[.string s, .string t] w (Gives (.bool true) w) := by
  have HE := Lib.hid he
  have HC := Lib.hid (cut_any s hs)
  have HD := Lib.hid (cut_any t ht)
  have hcs := cutB_size s
  have hct := cutB_size t
  obtain ⟨x, ex⟩ : ∃ x, cutB s = x := ⟨_, rfl⟩
  obtain ⟨y, ey⟩ : ∃ y, cutB t = y := ⟨_, rfl⟩
  rw [ex] at HC hcs hx
  rw [ey] at HD hct hy
  have hcat1 := add_run (a := x) (b := ⟨#[10]⟩) (by show x.size + 1 ≤ _; omega)
  have hcat2 := add_run (a := x ++ ⟨#[10]⟩) (b := y) (by rw [catS]; show x.size + 1 + _ ≤ _; omega)
  have hj := sc_both x.data.toList y.data.toList L hx
  rw [hy] at hj
  simp only [R.shift, R.pre] at hj
  have HS1 := Lib.hid (scan_ok x _ L rfl (by omega) hx)
  have HS2 := Lib.hid (scan_bad y _ p e0 rfl (by omega) hy)
  have HS3 := Lib.hid (scan_bad (x ++ ⟨#[10]⟩ ++ y) _ _ e0 (by rw [catB, catB, List.append_assoc]; rfl) (by rw [catS, catS]; show x.size + 1 + _ ≤ _; omega) hj)
  have herr := sc_errs y.data.toList.length false 0 y.data.toList (Nat.le_refl _)
  rw [hy] at herr
  have hp := herr.2.1
  rw [sizeB, Nat.zero_add] at hp
  have hx0 := herr.2.2.2.2
  have hx1 : (e0 != 0) = true := by simp; omega
  have hx2 : (e0 == 0) = false := by simp; omega
  rw [sizeB] at HS3
  have hpos : ((p + (x.size + 1) : Nat) : Int) = (x.size : Int) + 1 + (p : Int) := by omega
  rw [hpos] at HS3
  clear he hx hy hj ex ey hx0 herr hpos
  go_enter Tryd.func6, Tryd.ntmps6
  go_wp2_with fail
  refine (sane_any _ HE.out).mono ?_
  rintro e w1 ⟨rfl, hb⟩
  have HB1 := Lib.hid hb
  clear hb
  go_wp2_with fail
  with_reducible refine (HC.out _).mono ?_
  rintro e w1 ⟨rfl, rfl⟩
  go_wp2_with fail
  with_reducible refine (HD.out _).mono ?_
  rintro e w1 ⟨rfl, rfl⟩
  go_wp2_with fail
  refine (HS1.out _ (HE.out.below HB1.out)).mono ?_
  rintro e w2 ⟨a2, c2, rfl, hu, hb⟩
  have HA2 := Lib.hid hu
  have HB2 := Lib.hid (HB1.out.trans (hb.mono HB1.out.size))
  clear hb hu
  go_wp2_with fail
  refine (HS2.out _ (HE.out.below HB2.out)).mono ?_
  rintro e w3 ⟨rfl, hb⟩
  have HB3 := Lib.hid (HB2.out.trans (hb.mono HB2.out.size))
  clear hb
  go_wp2_with fail
  with_reducible refine (HS3.out _ (HE.out.below HB3.out)).mono ?_
  rintro e w4 ⟨rfl, hb⟩
  have HB4 := Lib.hid (HB3.out.trans (hb.mono HB3.out.size))
  clear hb
  go_wp2_with fail
  go_ret
  exact ⟨rfl, HB4.out⟩

set_option maxHeartbeats 8000000 in
theorem joins_c (s t : ByteArray) (hs : s.size ≤ 9223372036854775807) (ht : t.size ≤ 9223372036854775807) (w : World) (he : Env w) (L : List Tok) (M : List Tok) (hx : sc false 0 (cutB s).data.toList = .ok L) (hy : sc false 0 (cutB t).data.toList = .ok M) : Calls Tryd.prog 6 #[.string s, .string t] w (Gives (.bool true) w) := by
  have HE := Lib.hid he
  have HC := Lib.hid (cut_any s hs)
  have HD := Lib.hid (cut_any t ht)
  have hcs := cutB_size s
  have hct := cutB_size t
  obtain ⟨x, ex⟩ : ∃ x, cutB s = x := ⟨_, rfl⟩
  obtain ⟨y, ey⟩ : ∃ y, cutB t = y := ⟨_, rfl⟩
  rw [ex] at HC hcs hx
  rw [ey] at HD hct hy
  have hcat1 := add_run (a := x) (b := ⟨#[10]⟩) (by show x.size + 1 ≤ _; omega)
  have hcat2 := add_run (a := x ++ ⟨#[10]⟩) (b := y) (by rw [catS]; show x.size + 1 + _ ≤ _; omega)
  have hj := sc_both x.data.toList y.data.toList L hx
  rw [hy] at hj
  simp only [R.shift, R.pre] at hj
  have HS1 := Lib.hid (scan_ok x _ L rfl (by omega) hx)
  have HS2 := Lib.hid (scan_ok y _ M rfl (by omega) hy)
  have hS3 := scan_ok (x ++ ⟨#[10]⟩ ++ y) _ _ (by rw [catB, catB, List.append_assoc]; rfl) (by rw [catS, catS]; show x.size + 1 + _ ≤ _; omega) hj
  rw [List.length_append, List.length_map] at hS3
  have hpos := sc_pos y.data.toList.length false 0 y.data.toList (Nat.le_refl _)
  rw [hy] at hpos
  rw [sizeB] at hS3
  have HPOS : Hid (∀ z ∈ M, z.pos ≤ 900) := Lib.hid (fun z hz => by have := hpos z hz; rw [sizeB] at this; omega)
  have hnL := (few_of (by rw [sizeB]; exact hcs) hx).2.2.1
  have hnM := (few_of (by rw [sizeB]; exact hct) hy).2.2.1
  have HS3 := Lib.hid hS3
  obtain ⟨na, ena⟩ : ∃ n, L.length = n := ⟨_, rfl⟩
  obtain ⟨nb, enb⟩ : ∃ n, M.length = n := ⟨_, rfl⟩
  rw [ena] at HS1 HS3 hnL
  rw [enb] at HS2 HS3 hnM
  have HNA := Lib.hid ena
  have HNB := Lib.hid enb
  have hcast : ((na + nb : Nat) : Int) = (na : Int) + (nb : Int) := by omega
  clear he hx hy hj ex ey hS3 hpos ena enb
  go_enter Tryd.func6, Tryd.ntmps6
  go_wp2_with fail
  refine (sane_any _ HE.out).mono ?_
  rintro e w1 ⟨rfl, hb⟩
  have HB1 := Lib.hid hb
  clear hb
  go_wp2_with fail
  with_reducible refine (HC.out _).mono ?_
  rintro e w1 ⟨rfl, rfl⟩
  go_wp2_with fail
  with_reducible refine (HD.out _).mono ?_
  rintro e w1 ⟨rfl, rfl⟩
  go_wp2_with fail
  refine (HS1.out _ (HE.out.below HB1.out)).mono ?_
  rintro e w2 ⟨a2, c2, rfl, hu, hb⟩
  have HA2 := Lib.hid hu
  have HB2 := Lib.hid (HB1.out.trans (hb.mono HB1.out.size))
  clear hb hu
  go_wp2_with fail
  refine (HS2.out _ (HE.out.below HB2.out)).mono ?_
  rintro e w3 ⟨a3, c3, rfl, hu, hb⟩
  have HA3 := Lib.hid (HA2.out.later hb)
  have HC3 := Lib.hid hu
  have HB3 := Lib.hid (HB2.out.trans (hb.mono HB2.out.size))
  clear hb hu
  go_wp2_with fail
  with_reducible refine (HS3.out _ (HE.out.below HB3.out)).mono ?_
  rintro e w4 ⟨a4, c4, rfl, hu, hb⟩
  have HA4 := Lib.hid (HA3.out.later hb)
  have HC4 := Lib.hid (HC3.out.later hb)
  have HD4 := Lib.hid hu
  have HB4 := Lib.hid (HB3.out.trans (hb.mono HB3.out.size))
  clear hb hu
  go_wp2_with fail
  go_loopw [17] (fun i wr => ∃ k : Nat, k ≤ na + nb ∧ i = .int .i64 k ∧ RowKit.Below w4.heap.size w4 wr) (fun i _ => na + nb - (intOf i).toNat)
  case atStart => exact ⟨0, by omega, rfl, Below.refl _ _⟩
  case round =>
    obtain ⟨k, hk, rfl, hb⟩ := hrel
    have HA5 := Lib.hid (HA4.out.later hb)
    have HC5 := Lib.hid (HC4.out.later hb)
    have HD5 := Lib.hid (HD4.out.later hb)
    have HB5 := Lib.hid hb
    clear hb
    by_cases hlt : k < na + nb
    · by_cases hka : k < na
      · have hkL : k < L.length := by rw [HNA.out]; exact hka
        have hkA : k < (L.map Tok.tk).length := by rw [List.length_map]; exact hkL
        have hkD : k < ((L ++ M.map (Tok.shift (x.size + 1))).map Tok.tk).length := by simp; omega
        obtain ⟨b1, o1, rfl, q0, q1, q2, q3⟩ := HA5.out.at k hkA
        obtain ⟨b2, o2, rfl, d0, d1, d2, d3⟩ := HD5.out.at k hkD
        have e1 : (L.map Tok.tk)[k]'hkA = (L[k]'hkL).tk := by simp
        have e2 : ((L ++ M.map (Tok.shift (x.size + 1))).map Tok.tk)[k]'hkD = (L[k]'hkL).tk := by
          rw [List.getElem_map, List.getElem_append_left hkL]
        rw [e1] at q0 q1 q2 q3
        rw [e2] at d0 d1 d2 d3
        obtain ⟨z, hz⟩ : ∃ z, (L[k]'hkL).tk = z := ⟨_, rfl⟩
        rw [hz] at q0 q1 q2 q3 d0 d1 d2 d3
        obtain ⟨zk, zt, zn, zp⟩ := z
        simp only at q0 q1 q2 q3 d0 d1 d2 d3
        clear e1 e2 hz hkL hkA hkD
        replace q0 := keepC q0
        replace q1 := keepC q1
        replace q2 := keepC q2
        replace q3 := keepC q3
        replace d0 := keepC d0
        replace d1 := keepC d1
        replace d2 := keepC d2
        replace d3 := keepC d3
        have hk0 : (0 : Int) ≤ (k : Int) := by omega
        have hkN : (k : Int) < ((na + nb : Nat) : Int) := by omega
        have hkN2 : (k : Int) < (na : Int) + (nb : Int) := by omega
        go_wp2_with fail
        go_quiet (fail)
        go_wp2_with fail
        go_roundw
        case rel => exact ⟨k + 1, by omega, by go_num, below_drewN (HB5.out.trans ((below_box wr _).mono HB5.out.size)) _⟩
        case measure => simp [intOf]; omega
      · obtain ⟨j, rfl⟩ : ∃ j, k = na + j := ⟨k - na, by omega⟩
        have hjM : j < M.length := by rw [HNB.out]; omega
        have hjC : j < (M.map Tok.tk).length := by rw [List.length_map]; exact hjM
        have hjD : na + j < ((L ++ M.map (Tok.shift (x.size + 1))).map Tok.tk).length := by have := HNA.out; have := HNB.out; simp; omega
        obtain ⟨b1, o1, rfl, q0, q1, q2, q3⟩ := HC5.out.at j hjC
        obtain ⟨b2, o2, rfl, d0, d1, d2, d3⟩ := HD5.out.at (na + j) hjD
        have e1 : (M.map Tok.tk)[j]'hjC = (M[j]'hjM).tk := by simp
        have e2 : ((L ++ M.map (Tok.shift (x.size + 1))).map Tok.tk)[na + j]'hjD = (Tok.shift (x.size + 1) (M[j]'hjM)).tk := by
          rw [List.getElem_map, List.getElem_append_right (by rw [HNA.out]; omega), List.getElem_map]
          congr 3; rw [HNA.out]; omega
        have hzp := HPOS.out (M[j]'hjM) (List.getElem_mem _)
        rw [e1] at q0 q1 q2 q3
        rw [e2] at d0 d1 d2 d3
        obtain ⟨z, hz⟩ : ∃ z, M[j]'hjM = z := ⟨_, rfl⟩
        rw [hz] at q0 q1 q2 q3 d0 d1 d2 d3 hzp
        obtain ⟨zk, zt, zn, zp⟩ := z
        simp only [Tok.tk, Tok.shift] at q0 q1 q2 q3 d0 d1 d2 d3 hzp
        have hd3 : ((zp + (x.size + 1) : Nat) : Int) = (zp : Int) + (x.size : Int) + 1 := by omega
        rw [hd3] at d3
        have hsub : ((na + j : Nat) : Int) - (na : Int) = (j : Int) := by omega
        have hsub2 : (na : Int) + (j : Int) - (na : Int) = (j : Int) := by omega
        have hlt2 : decide (((na + j : Nat) : Int) < (na : Int)) = false := by simp; omega
        have hlt3 : decide ((na : Int) + (j : Int) < (na : Int)) = false := by simp; omega
        have hjn : j < nb := by omega
        clear e1 e2 hz hjM hjC hjD hd3
        replace q0 := keepC q0
        replace q1 := keepC q1
        replace q2 := keepC q2
        replace q3 := keepC q3
        replace d0 := keepC d0
        replace d1 := keepC d1
        replace d2 := keepC d2
        replace d3 := keepC d3
        have hk0 : (0 : Int) ≤ ((na + j : Nat) : Int) := by omega
        have hk00 : (0 : Int) ≤ (na : Int) + (j : Int) := by omega
        have hkN : ((na + j : Nat) : Int) < ((na + nb : Nat) : Int) := by omega
        have hkN2 : (na : Int) + (j : Int) < (na : Int) + (nb : Int) := by omega
        go_wp2_with fail
        go_quiet (fail)
        go_wp2_with fail
        go_roundw
        case rel => exact ⟨na + j + 1, by omega, by go_num, below_drewN (HB5.out.trans ((below_box wr _).mono HB5.out.size)) _⟩
        case measure => simp [intOf]; omega
    · go_wp2_with fail
      go_ret
      exact ⟨rfl, HB4.out.trans (HB5.out.mono HB4.out.size)⟩
theorem LexerJoins_any (s : ByteArray) (hs : s.size ≤ 9223372036854775807) (t : ByteArray) (ht : t.size ≤ 9223372036854775807) (w : World) (he : Env w) : Calls Tryd.prog 6 #[.string s, .string t] w (Gives (.bool true) w) := by
  rcases h1 : sc false 0 (cutB s).data.toList with L | ⟨p, x⟩
  · rcases h2 : sc false 0 (cutB t).data.toList with M | ⟨p, x⟩
    · exact joins_c s t hs ht w he L M h1 h2
    · exact joins_b s t hs ht w he L p x h1 h2
  · exact joins_a s t hs ht w he p x h1
end Go.Proofs.YtagkdhcclkbjgaaDoor.Le
