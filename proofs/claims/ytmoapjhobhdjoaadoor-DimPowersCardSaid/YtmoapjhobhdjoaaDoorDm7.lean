/- The contract of readPowers. -/
import Derived.Test.YtmoapjhobhdjoaaDoorDm6
set_option maxRecDepth 100000
namespace Go.Proofs.YtmoapjhobhdjoaaDoor.Dm
open Go.RowKit

/-- All blocks but b are as they were. -/
structure Oth (b : Nat) (w w' : World) : Prop where
  os : w'.os = w.os
  tape : w'.tape = w.tape
  output : w'.output = w.output
  size : w.heap.size ≤ w'.heap.size
  block : ∀ k, k < w.heap.size → k ≠ b → w'.heap[k]? = w.heap[k]?
theorem Oth.refl (b : Nat) (w : World) : Oth b w w := ⟨rfl, rfl, rfl, Nat.le_refl _, fun _ _ _ => rfl⟩
theorem Oth.trans {b : Nat} {u v w : World} (h : Oth b u v) (k : Oth b v w) : Oth b u w :=
  ⟨k.os.trans h.os, k.tape.trans h.tape, k.output.trans h.output, Nat.le_trans h.size k.size, fun i hi hn => (k.block i (Nat.lt_of_lt_of_le hi h.size) hn).trans (h.block i hi hn)⟩
theorem Oth.of {b : Nat} {w w' : World} (h : RowKit.Below w.heap.size w w') : Oth b w w' := ⟨h.os, h.tape, h.output, h.size, fun k hk _ => h.block k hk⟩
theorem Oth.set (b i : Nat) (v : Value) (w : World) : Oth b w (w.setCell ⟨b, i, none⟩ v) :=
  ⟨rfl, rfl, rfl, by simp, fun k _ hn => Below.heap_setCell _ _ _ _ hn⟩
theorem Oth.below {b B : Nat} {a w w' : World} (h : Oth b w w') (ha : RowKit.Below B a w) (hb : B ≤ b) (hw : B ≤ w.heap.size) : RowKit.Below B a w' :=
  ⟨h.os.trans ha.os, h.tape.trans ha.tape, h.output.trans ha.output, Nat.le_trans ha.size h.size, fun k hk => (h.block k (by omega) (by omega)).trans (ha.block k hk)⟩
theorem Oth.at {b b' : Nat} {w w' : World} {f : Nat → Int} (h : Oth b w w') (ha : At w b' f) (hne : b' ≠ b) : At w' b' f := by
  have hl := ha.lt
  unfold At at *; rw [h.block b' hl hne]; exact ha
theorem Oth.strs {b g o : Nat} {w w' : World} {l : List (List UInt8)} (h : Oth b w w') (hs : Strs w g o l) (hg : g < w.heap.size) (hne : g ≠ b) : Strs w' g o l := fun j x hx => by
  rw [World.cell?_of_block (w := w) (h.block g hg hne)]; exact hs j x hx

/-- What readPowers returns. -/
def PowsEnd (r : (Nat → Int) × Bool) (b : Nat) (w : World) (e : Ending) (w' : World) : Prop := e = .returned (.bool r.2) ∧ At w' b r.1 ∧ Oth b w w'
set_option maxHeartbeats 1000000 in
theorem powers_nil (a : Option Addr) (c : Nat) (sg : Int) (b : Nat) (f : Nat → Int) (w : World) (ha : At w b f) :
    Calls Tryd.prog 22 #[.slice a 0 c, .int .i64 sg, .pointer (some ⟨b, 0, none⟩)] w (PowsEnd (f, true) b w) := by
  have HA := Lib.hid ha
  clear ha
  go_enter Tryd.func22, Tryd.ntmps22
  go_wp2_with fail
  go_loop [14] (fun i => i = .int .i64 0) (fun i => 0)
  case atStart => exact rfl
  case round =>
    subst hrel
    go_wp2_with fail
    go_ret
    exact ⟨rfl, HA.out, Oth.refl _ _⟩

theorem sidx2 (g o n c k : Nat) (hk : k < n) (W : World) : (Instr.indexAt 37 (.slice (some ⟨g, o, none⟩) n c) (.int .i64 (k : Int))).run Tryd.prog W = .ok (.pointer (some ⟨g, o + k, none⟩)) W := by
  have ha : (asIntOf (.int .i64 (k : Int))).run Tryd.prog W = .ok (IntKind.i64, (k : Int)) W := rfl
  simp [Instr.indexAt, run_underlying Tryd.underlying37, hk, ha, Addr.add]
set_option maxHeartbeats 2000000 in
theorem powers_any (w0 : World) (he : Env w0) (g o c b : Nat) (l : List (List UInt8)) (sg : Int) (f : Nat → Int) (w : World) (hb0 : RowKit.Below w0.heap.size w0 w) (hb : w0.heap.size ≤ b) (hgb : g ≠ b) (hg : g < w.heap.size)
    (hs : Strs w g o l) (ha : At w b f) (hl : l.length ≤ 1000) (hll : ∀ x ∈ l, x.length ≤ 1000) :
    Calls Tryd.prog 22 #[.slice (some ⟨g, o, none⟩) l.length c, .int .i64 sg, .pointer (some ⟨b, 0, none⟩)] w (PowsEnd (rps sg l f) b w) := by
  have HE := Lib.hid he
  have HS := Lib.hid hs
  have HA := Lib.hid ha
  have HB := Lib.hid hb0
  have HG : Hid (w0.heap.size ≤ b ∧ g ≠ b ∧ g < w.heap.size) := Lib.hid ⟨hb, hgb, hg⟩
  have HLL := Lib.hid hll
  have HX := Lib.hid sidx2
  obtain ⟨N, hN⟩ : ∃ N, l.length = N := ⟨_, rfl⟩
  rw [hN] at hl ⊢
  have HN := Lib.hid hN
  clear hs ha hb0 hb hgb hg hll he hN
  go_enter Tryd.func22, Tryd.ntmps22
  go_wp2_with fail
  go_loopw [14] (fun i wr => ∃ (k : Nat) (fk : Nat → Int), k ≤ N ∧ i = .int .i64 k ∧ At wr b fk ∧ rps sg (l.drop k) fk = rps sg l f ∧ Oth b w wr) (fun i _ => N - (RowKit.intOf i).toNat)
  case atStart => exact ⟨0, f, by omega, rfl, HA.out, by rw [List.drop_zero], Oth.refl _ _⟩
  case round =>
    obtain ⟨k, fk, hk, rfl, hat, hrp, hoth⟩ := hrel
    have HO := Lib.hid hoth
    have HAT := Lib.hid hat
    by_cases hlt : k < N
    · have hlt2 : decide (k < N) = true := by simpa using hlt
      have hlt3 : decide ((k : Int) < (N : Int)) = true := by simp; omega
      obtain ⟨x, hx⟩ : ∃ x, l[k]? = some x := ⟨l[k]'(by have := HN.out; omega), List.getElem?_eq_getElem _⟩
      have hc0 := (hoth.strs HS.out HG.out.2.2 HG.out.2.1) k x hx
      have hidx := HX.out g o N c k hlt
      have HEr := Lib.hid (HE.out.below (hoth.below HB.out HG.out.1 HB.out.size))
      have HR := Lib.hid (readPower_any x (HLL.out x (List.mem_of_getElem? hx)) wr HEr.out)
      have HD : Hid (l.drop k = x :: l.drop (k + 1)) := Lib.hid (by
        rw [List.drop_eq_getElem_cons (by have := HN.out; omega)]
        congr 1
        exact (List.getElem?_eq_some_iff.1 hx).2)
      rw [HD.out] at hrp
      have HRP := Lib.hid hrp
      unfold sv at hc0 HR
      clear hat hrp hoth hx
      go_wp2_with fail
      refine HR.out.mono ?_
      rintro e w2 ⟨i, n, bb, rfl, hyes, hno, hb2⟩
      have HA2 := Lib.hid (HAT.out.below0 hb2)
      have HO2 := Lib.hid (HO.out.trans (Oth.of hb2))
      cases bb with
      | false =>
        have HV : Hid (rps sg l f = (fk, false)) := Lib.hid (by rw [← HRP.out]; exact rps_none (hno rfl))
        clear hyes hno hb2
        go_wp2_with fail
        go_ret
        exact ⟨by rw [HV.out]; rfl, by rw [HV.out]; exact HA2.out, HO2.out⟩
      | true =>
        have hi := rp_lt (hyes rfl)
        have HV : Hid (rps sg (l.drop (k + 1)) (up fk i (IntKind.i64.wrap (sg * n))) = rps sg l f) := Lib.hid (by rw [← HRP.out]; exact (rps_some (hyes rfl)).symm)
        obtain ⟨v, hv⟩ : ∃ v, IntKind.i64.wrap (sg * n) = v := ⟨_, rfl⟩
        rw [hv] at HV
        have hia := ia_at b i hi
        have hcell := HA2.out.cell i hi
        have hfro := HA2.out.froz i
        have HA3 := Lib.hid (HA2.out.set i hi v)
        have HO3 := Lib.hid (HO2.out.trans (Oth.set b i (.int .i64 v) w2))
        clear hyes hno hb2 hi
        go_wp2_with fail
        go_roundw
        case rel => exact ⟨k + 1, _, by omega, by go_num, HA3.out, HV.out, HO3.out⟩
        case measure => simp [RowKit.intOf]; omega
    · obtain rfl : k = N := by omega
      have hlt2 : decide (k < k) = false := by simp
      have hlt3 : decide ((k : Int) < (k : Int)) = false := by simp
      rw [List.drop_eq_nil_of_le (by have := HN.out; omega)] at hrp
      have HV : Hid (rps sg l f = (fk, true)) := Lib.hid hrp.symm
      clear hat hrp hoth
      go_wp2_with fail
      go_ret
      exact ⟨by rw [HV.out]; rfl, by rw [HV.out]; exact HAT.out, HO.out⟩
end Go.Proofs.YtmoapjhobhdjoaaDoor.Dm
