/- The contracts of signed, times. -/
import Derived.Test.YtpcagodnlbdclaaDoorBi5
set_option maxRecDepth 100000
namespace Go.Proofs.YtpcagodnlbdclaaDoor.Bi
open Go.RowKit

/-- The big integer n, valid. -/
def IsB (w : World) (v : Value) (n : Int) : Prop := ∃ s, v = .agg #[.int .i64 n.sign, s] ∧ Ints w s (digs n.natAbs)
/-- A call that returns a struct: the big integer n, with the slice v or none. -/
def GivesB (n : Int) (v : Value) (w : World) (e : Ending) (w' : World) : Prop := ∃ s, e = .returned (.agg #[.int .i64 n.sign, s]) ∧ Ints w' s (digs n.natAbs) ∧ RowKit.Below w.heap.size w w' ∧ ∀ g, Off v g → Off s g
theorem Ints.nil (w : World) : Ints w (.slice none 0 0) [] := ⟨none, 0, rfl, Nat.le_refl _, by simp, .inl rfl⟩
theorem IsB.zero (w : World) : IsB w (.agg #[.int .i64 0, .slice none 0 0]) 0 := ⟨_, rfl, by rw [show (0 : Int).natAbs = 0 from rfl, digs_zero]; exact Ints.nil w⟩

theorem hB_cell {w wr : World} (h : RowKit.Below w.heap.size w wr) {b o : Nat} (hlt : b < w.heap.size) : wr.cell? ⟨b, o, none⟩ = w.cell? ⟨b, o, none⟩ := h.cell (p := ⟨b, o, none⟩) hlt
/-- The first digits of a slice. -/
theorem Ints.take {w : World} {a : Option Addr} {cap : Nat} {l : List Int} (h : Ints w (.slice a l.length cap) l) {m : Nat} {x : List Int} (hx : l.take m = x) (hm : x.length = m) : Ints w (.slice a m cap) x := by
  obtain ⟨_, h1, h2, h3⟩ := h.shape
  subst hx
  rw [List.length_take] at hm
  refine ⟨a, cap, by rw [List.length_take]; congr 1; omega, by rw [List.length_take]; omega, by rw [List.length_take]; omega, ?_⟩
  by_cases h0 : m = 0
  · subst h0; exact .inl (by simp)
  · obtain ⟨b, o, rfl, hlt, hr⟩ := h3 (by omega)
    refine .inr ⟨b, o, rfl, hlt, fun i hi => ?_⟩
    rw [List.length_take] at hi
    rw [hr i (by omega), List.getD_eq_getElem?_getD, List.getD_eq_getElem?_getD, List.getElem?_take, if_pos (by omega)]

theorem signed_any (sg : Int) (a : Option Addr) (cap : Nat) (l : List Int) (hd : Dig l) (n : Int) (hv : (n.natAbs : Int) = val l) (hs : n ≠ 0 → sg = n.sign) (w : World) (h : Ints w (.slice a l.length cap) l) :
    Calls Tryd.prog 44 #[.int .i64 sg, .slice a l.length cap] w (GivesB n (.slice a l.length cap) w) := by
  have ht := fun w h => trim_any a cap l hd w h
  have hk := dig_take hd
  rw [show (val l).toNat = n.natAbs by omega] at ht hk
  obtain ⟨m, hm⟩ : ∃ m, (digs n.natAbs).length = m := ⟨_, rfl⟩
  have hres : ∀ w', RowKit.Below w.heap.size w w' → Ints w' (.slice a m cap) (digs n.natAbs) := fun w' hb => (h.later hb).take (by rw [← hm]; exact hk) hm
  have hm0 : m = 0 ↔ n = 0 := by rw [← hm, digs_len0]; omega
  rw [hm] at ht
  have HT := Lib.hid ht
  have H := Lib.hid h
  have HR := Lib.hid hres
  have hml := dig_len hd
  rw [show (val l).toNat = n.natAbs by omega, hm] at hml
  have HML := Lib.hid hml
  clear hk h hd hm hres ht hv hml
  by_cases h0 : n = 0
  · obtain rfl := hm0.2 h0
    subst h0
    clear hs hm0
    go_enter Tryd.func44, Tryd.ntmps44
    go_wp2_with fail
    refine (HT.out _ (H.out.later (below_alloc _ _))).mono ?_
    rintro e w' ⟨rfl, rfl⟩
    go_wp2_with fail
    exact bodyPost_ret (v := .agg #[.int .i64 0, .slice none 0 0]) (by simp [results, Tryd.results44, go_sem]) rfl ⟨_, rfl, by rw [show (0 : Int).natAbs = 0 from rfl, digs_zero]; exact Ints.nil _, below_alloc _ _, fun g _ => off_nil g 0 0⟩
  · have hm1 : 0 < m := by
      rcases Nat.eq_zero_or_pos m with e | e
      · exact absurd (hm0.1 e) h0
      · exact e
    obtain rfl := hs h0
    clear hs hm0
    have hq : ((m : Int) == 0) = false := by simp; omega
    clear h0
    go_enter Tryd.func44, Tryd.ntmps44
    go_wp2_with fail
    refine (HT.out _ (H.out.later (below_alloc _ _))).mono ?_
    rintro e w' ⟨rfl, rfl⟩
    go_wp2_with fail
    exact bodyPost_ret (v := .agg #[.int .i64 n.sign, .slice a m cap]) (by simp [results, Tryd.results44, go_sem]) rfl ⟨_, rfl, HR.out _ (below_alloc _ _), below_alloc _ _, fun g hg => hg.shorter HML.out⟩

/-- A call that returns digits of value n, perhaps with zeros behind them. -/
def Raw (n : Int) (w : World) (e : Ending) (w' : World) : Prop := ∃ a cap L, e = .returned (.slice a (List.length L) cap) ∧ Dig L ∧ val L = n ∧ Ints w' (.slice a L.length cap) L ∧ RowKit.Below w.heap.size w w' ∧ L.length ≤ 10000000 ∧ Fresh w.heap.size (.slice a L.length cap)

theorem mul_lt_P {a b : Int} {i j : Nat} (h0 : 0 ≤ a) (h1 : a < P i) (h2 : 0 ≤ b) (h3 : b < P j) : 0 ≤ a * b ∧ a * b < P (i + j) := by
  have e1 : a * b ≤ a * P j := Int.mul_le_mul_of_nonneg_left (by omega) h0
  have e2 : a * P j < P i * P j := Int.mul_lt_mul_of_pos_right h1 (by have := P_pos j; omega)
  rw [P_add]
  exact ⟨Int.mul_nonneg h0 h2, by omega⟩

set_option maxHeartbeats 2000000 in
theorem times_any (vx vy : Value) (x y : List Int) (w : World) (hx : Ints w vx x) (hy : Ints w vy y) (hdx : Dig x) (hdy : Dig y) (hlx : x.length ≤ 1000000) (hly : y.length ≤ 1000000) :
    Calls Tryd.prog 45 #[vx, vy] w (Raw (val x * val y) w) := by
  obtain ⟨ax, capx, rfl, _, _, _⟩ := id hx
  obtain ⟨ay, capy, rfl, _, _, _⟩ := id hy
  obtain ⟨O, hmk0, hO⟩ := make_any (x.length + y.length) (by omega)
  have hmk : ∀ w, (Instr.makeSlice 22 (.int .i64 ((x.length : Int) + (y.length : Int))) (.int .i64 ((x.length : Int) + (y.length : Int)))).run Tryd.prog w = .ok (.slice (some ⟨w.heap.size, 0, none⟩) (x.length + y.length) (x.length + y.length)) (w.alloc O) := by
    rw [show (x.length : Int) + (y.length : Int) = ((x.length + y.length : Nat) : Int) by omega]; exact hmk0
  obtain ⟨hx0, hx1, hx2, hx3⟩ := hx.shape
  obtain ⟨m, em⟩ : ∃ m, x.length = m := ⟨_, rfl⟩
  obtain ⟨n, en⟩ : ∃ n, y.length = n := ⟨_, rfl⟩
  have HY := Lib.hid hy
  have HX := Lib.hid hx3
  have HDX := Lib.hid hdx
  have HDY := Lib.hid hdy
  have HO := Lib.hid hO
  have HXL := Lib.hid em
  have HYL := Lib.hid en
  rw [em] at hmk hlx HX hx1
  rw [en] at hmk hly HY
  rw [em, en] at HO
  rw [em, en]
  clear hx hy hx0 hx3 hdx hdy hO hmk0 em en
  go_enter Tryd.func45, Tryd.ntmps45
  go_wp2_with fail
  clear hmk
  go_loopw [16] (fun t wr => ∃ (k : Nat) (L : List Int), k ≤ m ∧ t = .int .i64 k ∧ Mem wr w.heap.size L ∧ RowKit.Below w.heap.size w wr ∧ L.length = m + n ∧ (∀ j, k + n ≤ j → L.getD j 0 = 0) ∧
    (∀ j, j < k + n → 0 ≤ L.getD j 0 ∧ L.getD j 0 < 1048576) ∧ val L = val (x.take k) * val y) (fun t _ => m - (intOf t).toNat)
  case atStart =>
    have hz : ∀ j, (List.replicate (m + n) (0 : Int)).getD j 0 = 0 := by
      intro j
      rw [List.getD_eq_getElem?_getD, List.getElem?_replicate]
      split <;> rfl
    exact ⟨0, List.replicate (m + n) 0, Nat.zero_le _, rfl, HO.out _ _ (alloc_at _ _), below_alloc _ _, List.length_replicate, fun j _ => hz j, fun j h => by rw [hz]; omega, by simp [val, val_zeros]⟩
  case round =>
    obtain ⟨k, L, hk, rfl, hM, hB, hl, hz, hdig, hval⟩ := hrel
    have HB := Lib.hid hB
    have HL := Lib.hid hl
    have HZ := Lib.hid hz
    have HD := Lib.hid hdig
    have HV := Lib.hid hval
    have HM := Lib.hid hM
    clear hB hl hz hdig hval hM
    by_cases hlt : k < m
    · obtain ⟨b, o, rfl, hblt, hrow⟩ := HX.out (by omega)
      have hc := (hB_cell HB.out hblt).trans (hrow k (by have := HXL.out; omega))
      have bd := HDX.out.get k
      obtain ⟨d, hd⟩ : ∃ d, x.getD k 0 = d := ⟨_, rfl⟩
      rw [hd] at hc bd
      have HDd := Lib.hid hd
      clear hd hrow
      have hadd := add_any w.heap.size k n (m + n - k) capy L ay y d HYL.out wr HM.out (by have := HL.out; omega) (by omega) (by omega) (by omega) HDY.out (fun j h1 h2 => HD.out j (by omega)) (by rw [HZ.out (k + n) (Nat.le_refl _)]; omega) (by omega) (HY.out.later HB.out) (HY.out.off (Nat.le_refl _))
      have HA := Lib.hid hadd
      clear hadd
      have e1 : ((k : Int) + (n : Int) + 1).toNat = k + n + 1 := by omega
      go_wp2_with fail
      rw [show k + n + 1 - k = n + 1 by omega]
      refine HA.out.mono ?_
      rintro e w' ⟨L', rfl, hM', hg', hl', hout, hd', hv'⟩
      have HM' := Lib.hid hM'
      have HG' := Lib.hid hg'
      have HL' := Lib.hid hl'
      have HO' := Lib.hid hout
      have HD' := Lib.hid hd'
      have HV' := Lib.hid hv'
      clear hM' hg' hl' hout hd' hv'
      go_wp2_with fail
      go_roundw
      case rel =>
        have hl1 := HL.out
        have hl2 := HL'.out
        have hval : val L' = val (x.take (k + 1)) * val y := by
          rw [HV'.out, HV.out, val_take, HDd.out]; grind
        have hxb := val_bd (HDX.out.take (k + 1))
        rw [List.length_take, Nat.min_eq_left (by have := HXL.out; omega)] at hxb
        have hyb := val_bd HDY.out
        rw [HYL.out] at hyb
        have hrange := mul_lt_P hxb.1 hxb.2 hyb.1 hyb.2
        rw [← hval] at hrange
        have hzero : ∀ j, k + n < j → L'.getD j 0 = 0 := fun j hj => by rw [HO'.out j (.inr hj)]; exact HZ.out j (by omega)
        have hlow : ∀ j, j < k + n → 0 ≤ L'.getD j 0 ∧ L'.getD j 0 < 1048576 := by
          intro j hj
          by_cases h : j < k
          · rw [HO'.out j (.inl h)]; exact HD.out j (by omega)
          · exact HD'.out j (by omega) hj
        have htop := top_in (l := L') (m := k + n) (by omega) hlow hzero hrange.1 (by rw [show k + n + 1 = k + 1 + n by omega]; exact hrange.2)
        refine ⟨k + 1, L', by omega, by go_num, HM'.out, HB.out.trans (below_on HG'.out HB.out.size (Nat.le_refl _)), by omega, fun j hj => hzero j (by omega), fun j hj => ?_, hval⟩
        by_cases h : j = k + n
        · subst h; exact htop
        · exact hlow j (by omega)
      case measure => simp [intOf]; omega
    · obtain rfl : k = m := by omega
      go_wp2_with fail
      go_ret
      have hl2 := HL.out
      have hv := HV.out
      rw [val_take_all _ (by have := HXL.out; omega)] at hv
      have hi := HM.out.ints0 (k + n) (by omega) (by omega)
      exact ⟨some ⟨w.heap.size, 0, none⟩, k + n, L, by rw [hl2]; rfl, dig_of_get fun i hi => HD.out i (by omega), hv, hi, HB.out, by omega, fresh_mem (Nat.le_refl _)⟩
end Go.Proofs.YtpcagodnlbdclaaDoor.Bi
