/- kitbagref04: Text. -/
import Derived.Test.YtnddickcnfodfaaGreatDoorLBt17
set_option maxRecDepth 100000
namespace Go.Proofs.YtnddickcnfodfaaGreatDoor.Bi
open Go.RowKit Go.Lib

theorem P_tenR : ∀ k : Nat, P k ≤ ((10 ^ (7 * k) : Nat) : Int)
  | 0 => by simp [P]
  | k + 1 => by
    have h := P_tenR k
    rw [P_succ, show 7 * (k + 1) = 7 * k + 7 by omega, Nat.pow_add]
    have e : ((10 ^ (7 * k) * 10 ^ 7 : Nat) : Int) = ((10 ^ (7 * k) : Nat) : Int) * 10000000 := by rw [Int.natCast_mul]; rfl
    rw [e]
    have h0 := P_pos k
    omega
theorem dec_le (n : Nat) : (decDigits n).length ≤ 7 * (digs n).length + 1 := by
  have h := digs_lt n
  have h2 := P_tenR (digs n).length
  rcases Nat.eq_zero_or_pos (digs n).length with e | e
  · have := digs_len0.1 e
    subst this
    rw [dec_small (by omega)]; simp
  · have := (pad_dec (7 * (digs n).length) n (by omega) (by omega)).1
    omega
/-- The digits of a number, none for 0. -/
def dz (n : Nat) : List UInt8 := if n = 0 then [] else decDigits n
theorem dz_step {n : Nat} (h : 0 < n) : dz n = dz (n / 10) ++ [ch (n % 10)] := by
  unfold dz
  rw [if_neg (by omega)]
  by_cases k : n < 10
  · rw [dec_small k, if_pos (by omega), show n % 10 = n by omega]; rfl
  · rw [dec_big k, if_neg (by omega)]
theorem bsize (l : List UInt8) : (⟨l.toArray⟩ : ByteArray).size = l.length := by simp [ByteArray.size]
theorem slice_digit (d : Nat) (hd : d < 10) (w : World) :
    (Instr.slice 9 (.string ⟨#[48, 49, 50, 51, 52, 53, 54, 55, 56, 57]⟩) (some (.int .i64 (d : Int))) (some (.int .i64 ((d : Int) + 1))) none).run Tryz.prog w = .ok (.string ⟨[ch d].toArray⟩) w := by
  rw [run_slice_string w 9 _ .i64 .i64 _ _ Tryz.underlying9 (by omega) (by omega) (by simp [ByteArray.size]; omega)]
  have : d = 0 ∨ d = 1 ∨ d = 2 ∨ d = 3 ∨ d = 4 ∨ d = 5 ∨ d = 6 ∨ d = 7 ∨ d = 8 ∨ d = 9 := by omega
  rcases this with rfl | rfl | rfl | rfl | rfl | rfl | rfl | rfl | rfl | rfl <;> rfl

set_option maxHeartbeats 1000000 in
theorem rtext_bad (v : Value) (s : Int) (l : List Int) (w : World) (h : Arg w v s l) (hr : rightB s l = false) :
    Calls Tryz.prog 67 #[v] w fun e w' => e = .returned (.string ⟨#[]⟩) ∧ RowKit.Below w.heap.size w w' := by
  obtain ⟨sl, rfl, hi⟩ := id h
  obtain ⟨aa, ca, rfl, _⟩ := hi.open
  have HA := Lib.hid h
  have HR := Lib.hid hr
  clear h hi hr
  go_enter Tryz.func67, Tryz.ntmps67
  go_wp2_with fail
  refine (rright_any _ s l _ (HA.out.later (below_alloc _ _))).mono ?_
  rintro e w1 ⟨rfl, hb1⟩
  rw [HR.out]
  have HB := Lib.hid ((below_alloc w _).trans (hb1.mono (by simp)))
  clear hb1
  go_wp2_with fail
  go_ret
  exact ⟨rfl, HB.out⟩

set_option maxHeartbeats 4000000 in
theorem rtext_ok (va : Value) (a : Int) (w : World) (ha : IsB w va a) (hl : (digs a.natAbs).length ≤ 100000) :
    Calls Tryz.prog 67 #[va] w fun e w' => e = .returned (.string ⟨(itoa a).toArray⟩) ∧ RowKit.Below w.heap.size w w' := by
  obtain ⟨sa, rfl, hia⟩ := id ha
  have HA := Lib.hid ha
  have HIA := Lib.hid hia
  obtain ⟨aa, ca, rfl, _⟩ := hia.open
  obtain ⟨na, ena⟩ : ∃ n, (digs a.natAbs).length = n := ⟨_, rfl⟩
  have hdl := dec_le a.natAbs
  have hNA := ena
  rw [ena] at HA HIA hl hdl ⊢
  obtain ⟨N, eN⟩ : ∃ N, a.natAbs = N := ⟨_, rfl⟩
  have HDL : Hid ((decDigits N).length ≤ 1000000) := by unfold Hid; rw [← eN]; omega
  have HL := Lib.hid hl
  rw [eN] at HIA
  have hsg := sgn_is a
  have HT : Hid (itoa a = if a < 0 then 45 :: decDigits N else decDigits N) := by
    unfold Hid itoa
    rw [← eN]
    by_cases h : a < 0
    · rw [if_pos h, if_pos h]
    · rw [if_neg h, if_neg h, show a.toNat = a.natAbs by omega]
  have HN0 : Hid (a = 0 → itoa a = [48]) := by unfold Hid; intro h; rw [h, itoa, if_neg (by omega), show (0 : Int).toNat = 0 from rfl, dec_small (by omega)]; rfl
  obtain ⟨t, et⟩ : ∃ t, itoa a = t := ⟨_, rfl⟩
  rw [et] at HT HN0 ⊢
  have HX0 := Lib.hid (Bu.start w a.sign (.slice aa na ca))
  have HEN : Hid (digs N = digs a.natAbs ∧ N = a.natAbs) := ⟨by rw [eN], eN.symm⟩
  have HNL : Hid ((digs N).length = na) := by unfold Hid; rw [← eN]; exact ena
  clear ha hia ena hl hdl et hNA
  go_enter Tryz.func67, Tryz.ntmps67
  go_wp2_with fail
  refine (risb_any (HA.out.later HX0.out.below)).mono ?_
  rintro e w1 ⟨rfl, hb1⟩
  have HX1 := Lib.hid (HX0.out.later hb1)
  clear hb1
  obtain ⟨c0, c01⟩ := HX1.out.cells
  have HSG := Lib.hid hsg
  obtain ⟨x, ex⟩ : ∃ x, a.sign = x := ⟨_, rfl⟩
  rw [ex] at HX1 c0 HSG
  rw [ex]
  by_cases h0 : a = 0
  · obtain rfl : x = 0 := by rw [← ex, h0]; rfl
    have HT0 := Lib.hid (HN0.out h0)
    clear hsg ex h0
    go_wp2_with fail
    go_ret
    exact ⟨by rw [HT0.out]; rfl, HX1.out.below⟩
  · have hx0 : x ≠ 0 := by rw [← ex]; intro e; rcases hsg with h | h | h <;> omega
    have hxz : (x == 0) = false := by simpa using hx0
    have HNE := Lib.hid h0
    clear hsg h0
    go_wp2_with fail
    clear hxz c0 c01
    go_loopw [3, 4] (fun s l wr => ∃ (Y : Nat) (S : List UInt8) (al : Option Addr) (cl : Nat), s = .string ⟨S.toArray⟩ ∧ l = .slice al (digs Y).length cl ∧ Ints wr l (digs Y) ∧ dz Y ++ S = decDigits N ∧ (digs Y).length ≤ 100000 ∧ Bu w x (.slice aa na ca) wr) (fun _ l wr => numOf l wr)
    case atStart =>
      have hN0 : N ≠ 0 := by rw [HEN.out.2]; have := HNE.out; omega
      exact ⟨N, [], aa, ca, rfl, by rw [HNL.out], HIA.out.later HX1.out.below, by unfold dz; rw [if_neg hN0, List.append_nil], by rw [HNL.out]; exact HL.out, HX1.out⟩
    case round =>
      obtain ⟨Y, S, al, cl, rfl, rfl, hY, hS, hlY, hB⟩ := hrel
      have hnum := numOf_eq hY
      have HY := Lib.hid hY
      have HS := Lib.hid hS
      have HLY := Lib.hid hlY
      have HB := Lib.hid hB
      have HNUM := Lib.hid hnum
      have HSL : Hid (S.length ≤ 1000000) := by
        unfold Hid
        have h1 := congrArg List.length hS
        rw [List.length_append] at h1
        have h2 := HDL.out
        omega
      clear hY hS hlY hB hnum
      by_cases hy0 : 0 < Y
      · have hcall := tenth_n _ Y wr HY.out (Nat.le_trans HLY.out (by decide))
        have hpos := digs_pos_len hy0
        have HL2 : Hid ((digs (Y / 10)).length ≤ 100000) := Nat.le_trans (digs_mono (Nat.div_le_self _ _)) HLY.out
        have HST : Hid (dz (Y / 10) ++ (ch (Y % 10) :: S) = decDigits N) := by
          unfold Hid
          rw [← HS.out, dz_step hy0, List.append_assoc]; rfl
        have HCALL := Lib.hid hcall
        have HLT : Hid (Y / 10 < Y) := by unfold Hid; omega
        obtain ⟨ly, ely⟩ : ∃ l, (digs Y).length = l := ⟨_, rfl⟩
        rw [ely] at HCALL HNUM hpos ⊢
        obtain ⟨d, ed⟩ : ∃ d, Y % 10 = d := ⟨_, rfl⟩
        have hd : d < 10 := by omega
        have hsl : ∀ W, (Instr.slice 9 (.string ⟨#[48, 49, 50, 51, 52, 53, 54, 55, 56, 57]⟩) (some (.int .i64 (d : Int))) (some (.int .i64 ((d : Int) + 1))) none).run Tryz.prog W = .ok (.string ⟨[ch d].toArray⟩) W := fun W => slice_digit d hd W
        have hadd : ∀ W : World, (Op.stringOp .add ⟨[ch d].toArray⟩ ⟨S.toArray⟩).run Tryz.prog W = .ok (.string (⟨[ch d].toArray⟩ ++ ⟨S.toArray⟩)) W := fun W => run_string_add_sum W _ _ (by have h1 := bsize S; have h2 : (⟨[ch d].toArray⟩ : ByteArray).size = 1 := rfl; have := HSL.out; omega)
        rw [ed] at HST
        have hcat : (⟨[ch d].toArray⟩ : ByteArray) ++ ⟨S.toArray⟩ = ⟨(ch d :: S).toArray⟩ := by apply ByteArray.ext; simp
        rw [hcat] at hadd
        obtain ⟨ds, eds⟩ : ∃ s : ByteArray, (⟨[ch d].toArray⟩ : ByteArray) = s := ⟨_, rfl⟩
        rw [eds] at hsl hadd
        have HCA : Hid (∀ e w', Tenth Y wr e w' → ∃ a c, e = .returned (.tuple #[.slice a (digs (Y / 10)).length c, .int .i64 (d : Int)]) ∧ Ints w' (.slice a (digs (Y / 10)).length c) (digs (Y / 10)) ∧ RowKit.Below wr.heap.size wr w') := by
          unfold Hid; rw [← ed]; exact fun e w' h => h
        have hw : IntKind.i64.wrap ((d : Int) + 1) = (d : Int) + 1 := IntWalk.i64_in _ (by omega)
        clear hcall hy0 ely ed hcat eds
        go_wp2_with fail
        refine HCALL.out.mono ?_
        rintro e w6 ht
        obtain ⟨a6, c6, rfl, hi6, hb6⟩ := HCA.out _ _ ht
        have hm := numOf_eq hi6
        have HF : Hid (∃ (Y1 : Nat) (S1 : List UInt8) (al : Option Addr) (cl : Nat), Value.string ⟨(ch d :: S).toArray⟩ = .string ⟨S1.toArray⟩ ∧ Value.slice a6 (digs (Y / 10)).length c6 = .slice al (digs Y1).length cl ∧ Ints w6 (.slice a6 (digs (Y / 10)).length c6) (digs Y1) ∧ dz Y1 ++ S1 = decDigits N ∧ (digs Y1).length ≤ 100000 ∧ Bu w x (.slice aa na ca) w6) :=
          ⟨Y / 10, ch d :: S, a6, c6, rfl, rfl, hi6, HST.out, HL2.out, HB.out.later hb6⟩
        have HM := Lib.hid hm
        obtain ⟨lq, elq⟩ : ∃ l, (digs (Y / 10)).length = l := ⟨_, rfl⟩
        rw [elq] at HF HM
        rw [elq]
        clear ht hi6 hb6 hm elq
        go_wp2_with fail
        go_roundw
        case rel => exact HF.out
        case measure =>
          show numOf (.slice a6 lq c6) w6 < numOf (.slice al ly cl) wr
          rw [HM.out, HNUM.out]; exact HLT.out
      · obtain rfl : Y = 0 := by omega
        have hSN : S = decDigits N := by
          have h := HS.out
          unfold dz at h
          rwa [if_pos rfl, List.nil_append] at h
        obtain ⟨q0, q1⟩ := HB.out.cells
        rw [show (digs 0).length = 0 by rw [digs_zero]; rfl]
        have HSN := Lib.hid hSN
        clear hSN hy0
        by_cases hn : a < 0
        · have hx1 : x = -1 := by rcases HSG.out with h | h | h <;> omega
          subst hx1
          have hadd : ∀ W : World, (Op.stringOp .add ⟨#[45]⟩ ⟨S.toArray⟩).run Tryz.prog W = .ok (.string (⟨#[45]⟩ ++ ⟨S.toArray⟩)) W := fun W => run_string_add_sum W _ _ (by have h1 := bsize S; have h2 : (⟨#[45]⟩ : ByteArray).size = 1 := rfl; have := HSL.out; omega)
          have hcat : (⟨#[45]⟩ : ByteArray) ++ ⟨S.toArray⟩ = ⟨(45 :: S).toArray⟩ := by apply ByteArray.ext; simp
          rw [hcat] at hadd
          have HT1 : Hid (t = 45 :: S) := by unfold Hid; rw [HT.out, if_pos hn, HSN.out]
          clear hcat hn ex
          go_wp2_with fail
          go_ret
          exact ⟨by rw [HT1.out]; rfl, HB.out.below⟩
        · have hx1 : x = 1 := by rcases HSG.out with h | h | h <;> omega
          subst hx1
          have HT1 : Hid (t = S) := by unfold Hid; rw [HT.out, if_neg hn, HSN.out]
          clear hn ex
          go_wp2_with fail
          go_ret
          exact ⟨by rw [HT1.out]; rfl, HB.out.below⟩
end Go.Proofs.YtnddickcnfodfaaGreatDoor.Bi
