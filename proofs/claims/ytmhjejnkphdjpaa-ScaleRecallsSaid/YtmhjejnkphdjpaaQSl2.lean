/- The law ScaleHolds. -/
import Derived.Test.YtmhjejnkphdjpaaPB28
import Derived.OrdersHeld
import Derived.Test.YtmhjejnkphdjpaaPB29
import Derived.Test.YtmhjejnkphdjpaaLaw
import Derived.Test.YtmhjejnkphdjpaaRows
import Derived.ProofKit
import Derived.Test.YtmhjejnkphdjpaaQSl1
set_option maxRecDepth 100000
namespace Go.Proofs.Ytmhjejnkphdjpaa.Sc
open Go.RowKit Bi

theorem rsame_z {w : World} : Calls Try.prog 16 #[.agg #[.int .i64 0, .slice none 0 0, .int .i64 0, .slice none 0 0], .agg #[.int .i64 0, .slice none 0 0, .int .i64 0, .slice none 0 0]] w (Gv (.bool true) w) :=
  rsame_d (D := rz) (Ints.nil w) (Ints.nil w) (Ints.nil w) (Ints.nil w)
theorem cmp_le0 {a b : Rat} (h : a ≤ b) : decide (0 < cmpR a b) = false := by
  have h1 := cmpR_bd a b
  have h2 : cmpR a b ≠ 1 := fun e => absurd h (Rat.not_le.2 (cmpR_gt.1 e))
  simp; omega
theorem cmp_lt0 {a b : Rat} (h : a < b) : decide (cmpR a b < 0) = true := by rw [cmpR_lt.2 h]; decide
theorem sign_ge0 {a : Rat} (h : 0 ≤ a) : decide (a.num.sign < 0) = false := by
  rw [sign_neg]
  exact decide_eq_false (Rat.not_lt.2 h)

set_option maxHeartbeats 4000000 in
theorem holds_no {a a2 : Option Addr} {n cap m cap2 : Nat} {s r d : Int} {w : World} (hn : n ≤ 9223372036854775807) (hm : m ≤ 9223372036854775807) (hno : (decide ((n : Int) ≤ 120) && decide ((m : Int) ≤ 60)) = false) : Calls Try.prog 4 #[.slice a n cap, .slice a2 m cap2, .int .i64 s, .int .i64 r, .int .i64 d] w (Gv (.bool true) w) := by
  have HN := Lib.hid hn
  have HM := Lib.hid hm
  have HF := Lib.hid hno
  have s0 := (Sf.start w)
  try simp only [World.size_alloc] at s0
  have S0 := Lib.hid s0
  clear s0
  clear hn hm hno
  go_enter Try.func4, Try.ntmps4
  go_wp2_with fail
  refine (sane_any).mono ?_
  rintro e w1 ⟨rfl, hb⟩
  have R1 := Lib.hid (S0.out.later hb)
  clear hb
  go_wp2_with fail
  refine (few_any HN.out HM.out HF.out).mono ?_
  rintro e w2 ⟨rfl, rfl⟩
  go_wp2_with fail
  go_ret
  exact ⟨rfl, R1.out.below⟩

set_option maxHeartbeats 16000000 in
theorem holds_nf {a a2 : Option Addr} {n cap m cap2 : Nat} {l : List Ct} {rl : List (Int × Int)} {s r d : Int} {w : World} (hc : Cs w a l) (hn : l.length = n) (hl : n ≤ 120) (hr : Rs w a2 rl) (hm : rl.length = m) (hl2 : m ≤ 60) (h1 : fB s d l = false)  : Calls Try.prog 4 #[.slice a n cap, .slice a2 m cap2, .int .i64 s, .int .i64 r, .int .i64 d] w (Gv (.bool true) w) := by
  have HC := Lib.hid hc
  have HN := Lib.hid hn
  have HR := Lib.hid hr
  have HM := Lib.hid hm
  have HL : Hid (n ≤ 1000000) := Lib.hid (by omega)
  have HL2 : Hid (m ≤ 1000000) := Lib.hid (by omega)
  have HNB : Hid (n ≤ 9223372036854775807) := Lib.hid (by omega)
  have HMB : Hid (m ≤ 9223372036854775807) := Lib.hid (by omega)
  have HF : Hid ((decide ((n : Int) ≤ 120) && decide ((m : Int) ≤ 60)) = true) := Lib.hid (by simp; omega)
  obtain ⟨i, hfi⟩ : ∃ i, fI s d l = i := ⟨_, rfl⟩
  have HFI := Lib.hid hfi
  have HFB := Lib.hid h1
  have s0 := (Sf.start w)
  try simp only [World.size_alloc] at s0
  have S0 := Lib.hid s0
  clear s0
  clear hc hn hl hr hm hl2 hfi h1
  go_enter Try.func4, Try.ntmps4
  go_wp2_with fail
  refine (sane_any).mono ?_
  rintro e w1 ⟨rfl, hb⟩
  have R1 := Lib.hid (S0.out.later hb)
  clear hb
  go_wp2_with fail
  refine (few_any HNB.out HMB.out HF.out).mono ?_
  rintro e w2 ⟨rfl, rfl⟩
  go_wp2_with fail
  refine (find_any (HC.out.later R1.out.below) HN.out HL.out HFI.out HFB.out).mono ?_
  rintro e w3 ⟨rfl, hb⟩
  have R3 := Lib.hid (R1.out.later hb)
  clear hb
  go_wp2_with fail
  refine (ivl_nf (HC.out.later R3.out.below) HN.out HL.out (HR.out.later R3.out.below) HM.out HL2.out HFB.out).mono ?_
  rintro e w4 ⟨rfl, hb⟩
  have R4 := Lib.hid (R3.out.later hb)
  clear hb
  have p1 := (R4.out.put [.int .i64 0, .slice none 0 0, .int .i64 0, .slice none 0 0] 34).put [.int .i64 0, .slice none 0 0, .int .i64 0, .slice none 0 0] 34
  try simp only [World.size_alloc] at p1
  have P1 := Lib.hid p1
  clear p1
  have Q1 := Lib.hid (Sf.row (pre := [(w4.heap.size + 1, 34, [.int .i64 0, .slice none 0 0, .int .i64 0, .slice none 0 0])]) P1.out [.int .i64 0, .slice none 0 0, .int .i64 0, .slice none 0 0])
  have T1 := Lib.hid (Sf.row (pre := []) Q1.out [.int .i64 0, .slice none 0 0, .int .i64 0, .slice none 0 0])
  obtain ⟨V1, hV1⟩ : ∃ V, ((((w4.alloc (.cells #[.int .i64 0, .slice none 0 0, .int .i64 0, .slice none 0 0] 34)).alloc (.cells #[.int .i64 0, .slice none 0 0, .int .i64 0, .slice none 0 0] 34)).setRow (w4.heap.size) #[.int .i64 0, .slice none 0 0, .int .i64 0, .slice none 0 0]).setRow (w4.heap.size + 1) #[.int .i64 0, .slice none 0 0, .int .i64 0, .slice none 0 0]) = V := ⟨_, rfl⟩
  have T1 : Hid (Sf w ([] ++ (w4.heap.size + 1, 34, [.int .i64 0, .slice none 0 0, .int .i64 0, .slice none 0 0]) :: (w4.heap.size, 34, [.int .i64 0, .slice none 0 0, .int .i64 0, .slice none 0 0]) :: []) _ V1) := Lib.hid (by have := T1.out; rw [← hV1]; exact this)
  have HV1 := Lib.hid hV1
  clear hV1
  obtain ⟨q2, q3, q4, q5⟩ := Fb.cells4 (T1.out.box (w4.heap.size, 34, [.int .i64 0, .slice none 0 0, .int .i64 0, .slice none 0 0]) mq1)
  go_wp2_with (first | (refine wpList_store_row rfl _ _ _ rfl _ #[.int .i64 0, .slice none 0 0, .int .i64 0, .slice none 0 0] rfl rfl _ _ (Q1.out.box _ mq0) (by kernel_rfl) rfl (by simp [Value.oneCell']) ?_; rw [HV1.out]) | refine wpList_store_row rfl _ _ _ rfl _ #[.int .i64 0, .slice none 0 0, .int .i64 0, .slice none 0 0] rfl rfl _ _ (P1.out.box _ mq1) (by kernel_rfl) rfl (by simp [Value.oneCell']) ?_)
  clear q2 q3 q4 q5
  refine (rsame_z).mono ?_
  rintro e w5 ⟨rfl, hb⟩
  have R5 := Lib.hid (T1.out.later hb)
  clear hb
  obtain ⟨q6, q7, q8, q9⟩ := Fb.cells4 (R5.out.box (w4.heap.size + 1, 34, [.int .i64 0, .slice none 0 0, .int .i64 0, .slice none 0 0]) mq0)
  go_wp2_with fail
  clear q6 q7 q8 q9
  refine (rsame_z).mono ?_
  rintro e w6 ⟨rfl, hb⟩
  have R6 := Lib.hid (R5.out.later hb)
  clear hb
  go_wp2_with fail
  go_ret
  exact ⟨rfl, R6.out.below⟩

set_option maxHeartbeats 16000000 in
theorem holds_r0 {a a2 : Option Addr} {n cap m cap2 : Nat} {l : List Ct} {rl : List (Int × Int)} {s r d : Int} {w : World} (hc : Cs w a l) (hn : l.length = n) (hl : n ≤ 120) (hr : Rs w a2 rl) (hm : rl.length = m) (hl2 : m ≤ 60) (h1 : fB s d l = true) (h2 : recB s d rl = false) (h3 : decide (0 ≤ r) = false)  : Calls Try.prog 4 #[.slice a n cap, .slice a2 m cap2, .int .i64 s, .int .i64 r, .int .i64 d] w (Gv (.bool true) w) := by
  have HC := Lib.hid hc
  have HN := Lib.hid hn
  have HR := Lib.hid hr
  have HM := Lib.hid hm
  have HL : Hid (n ≤ 1000000) := Lib.hid (by omega)
  have HL2 : Hid (m ≤ 1000000) := Lib.hid (by omega)
  have HNB : Hid (n ≤ 9223372036854775807) := Lib.hid (by omega)
  have HMB : Hid (m ≤ 9223372036854775807) := Lib.hid (by omega)
  have HF : Hid ((decide ((n : Int) ≤ 120) && decide ((m : Int) ≤ 60)) = true) := Lib.hid (by simp; omega)
  obtain ⟨i, c, _, hfi, hci, _⟩ := found_of h1
  have hlt := (List.getElem?_eq_some_iff.1 hci).1
  have g1 : decide ((i : Int) < 0) = false := by simp
  have g2 : decide ((n : Int) ≤ (i : Int)) = false := by simp; omega
  have g2n : decide (n ≤ i) = false := by simp; omega
  clear hci hlt
  have HFI := Lib.hid hfi
  have HFB := Lib.hid h1
  have HRB := Lib.hid h2
  have H3 : Hid (inR r = false) := Lib.hid (by unfold inR; rw [h3]; rfl)
  have s0 := (Sf.start w)
  try simp only [World.size_alloc] at s0
  have S0 := Lib.hid s0
  clear s0
  clear hc hn hl hr hm hl2 hfi h1 h2
  go_enter Try.func4, Try.ntmps4
  go_wp2_with fail
  refine (sane_any).mono ?_
  rintro e w1 ⟨rfl, hb⟩
  have R1 := Lib.hid (S0.out.later hb)
  clear hb
  go_wp2_with fail
  refine (few_any HNB.out HMB.out HF.out).mono ?_
  rintro e w2 ⟨rfl, rfl⟩
  go_wp2_with fail
  refine (find_any (HC.out.later R1.out.below) HN.out HL.out HFI.out HFB.out).mono ?_
  rintro e w3 ⟨rfl, hb⟩
  have R3 := Lib.hid (R1.out.later hb)
  clear hb
  go_wp2_with fail
  refine (ivl_inr (HC.out.later R3.out.below) HN.out HL.out (HR.out.later R3.out.below) HM.out HL2.out HFB.out HRB.out H3.out).mono ?_
  rintro e w4 ⟨rfl, hb⟩
  have R4 := Lib.hid (R3.out.later hb)
  clear hb
  have p1 := (R4.out.put [.int .i64 0, .slice none 0 0, .int .i64 0, .slice none 0 0] 34).put [.int .i64 0, .slice none 0 0, .int .i64 0, .slice none 0 0] 34
  try simp only [World.size_alloc] at p1
  have P1 := Lib.hid p1
  clear p1
  have Q1 := Lib.hid (Sf.row (pre := [(w4.heap.size + 1, 34, [.int .i64 0, .slice none 0 0, .int .i64 0, .slice none 0 0])]) P1.out [.int .i64 0, .slice none 0 0, .int .i64 0, .slice none 0 0])
  have T1 := Lib.hid (Sf.row (pre := []) Q1.out [.int .i64 0, .slice none 0 0, .int .i64 0, .slice none 0 0])
  obtain ⟨V1, hV1⟩ : ∃ V, ((((w4.alloc (.cells #[.int .i64 0, .slice none 0 0, .int .i64 0, .slice none 0 0] 34)).alloc (.cells #[.int .i64 0, .slice none 0 0, .int .i64 0, .slice none 0 0] 34)).setRow (w4.heap.size) #[.int .i64 0, .slice none 0 0, .int .i64 0, .slice none 0 0]).setRow (w4.heap.size + 1) #[.int .i64 0, .slice none 0 0, .int .i64 0, .slice none 0 0]) = V := ⟨_, rfl⟩
  have T1 : Hid (Sf w ([] ++ (w4.heap.size + 1, 34, [.int .i64 0, .slice none 0 0, .int .i64 0, .slice none 0 0]) :: (w4.heap.size, 34, [.int .i64 0, .slice none 0 0, .int .i64 0, .slice none 0 0]) :: []) _ V1) := Lib.hid (by have := T1.out; rw [← hV1]; exact this)
  have HV1 := Lib.hid hV1
  clear hV1
  obtain ⟨q2, q3, q4, q5⟩ := Fb.cells4 (T1.out.box (w4.heap.size, 34, [.int .i64 0, .slice none 0 0, .int .i64 0, .slice none 0 0]) mq1)
  go_wp2_with (first | (refine wpList_store_row rfl _ _ _ rfl _ #[.int .i64 0, .slice none 0 0, .int .i64 0, .slice none 0 0] rfl rfl _ _ (Q1.out.box _ mq0) (by kernel_rfl) rfl (by simp [Value.oneCell']) ?_; rw [HV1.out]) | refine wpList_store_row rfl _ _ _ rfl _ #[.int .i64 0, .slice none 0 0, .int .i64 0, .slice none 0 0] rfl rfl _ _ (P1.out.box _ mq1) (by kernel_rfl) rfl (by simp [Value.oneCell']) ?_)
  clear q2 q3 q4 q5
  refine (rsame_z).mono ?_
  rintro e w5 ⟨rfl, hb⟩
  have R5 := Lib.hid (T1.out.later hb)
  clear hb
  obtain ⟨q6, q7, q8, q9⟩ := Fb.cells4 (R5.out.box (w4.heap.size + 1, 34, [.int .i64 0, .slice none 0 0, .int .i64 0, .slice none 0 0]) mq0)
  go_wp2_with fail
  clear q6 q7 q8 q9
  refine (rsame_z).mono ?_
  rintro e w6 ⟨rfl, hb⟩
  have R6 := Lib.hid (R5.out.later hb)
  clear hb
  go_wp2_with fail
  go_ret
  exact ⟨rfl, R6.out.below⟩

set_option maxHeartbeats 16000000 in
theorem holds_r1 {a a2 : Option Addr} {n cap m cap2 : Nat} {l : List Ct} {rl : List (Int × Int)} {s r d : Int} {w : World} (hc : Cs w a l) (hn : l.length = n) (hl : n ≤ 120) (hr : Rs w a2 rl) (hm : rl.length = m) (hl2 : m ≤ 60) (h1 : fB s d l = true) (h2 : recB s d rl = false) (h3 : decide (0 ≤ r) = true) (h4 : decide (r ≤ 1099511627776) = false)  : Calls Try.prog 4 #[.slice a n cap, .slice a2 m cap2, .int .i64 s, .int .i64 r, .int .i64 d] w (Gv (.bool true) w) := by
  have HC := Lib.hid hc
  have HN := Lib.hid hn
  have HR := Lib.hid hr
  have HM := Lib.hid hm
  have HL : Hid (n ≤ 1000000) := Lib.hid (by omega)
  have HL2 : Hid (m ≤ 1000000) := Lib.hid (by omega)
  have HNB : Hid (n ≤ 9223372036854775807) := Lib.hid (by omega)
  have HMB : Hid (m ≤ 9223372036854775807) := Lib.hid (by omega)
  have HF : Hid ((decide ((n : Int) ≤ 120) && decide ((m : Int) ≤ 60)) = true) := Lib.hid (by simp; omega)
  obtain ⟨i, c, _, hfi, hci, _⟩ := found_of h1
  have hlt := (List.getElem?_eq_some_iff.1 hci).1
  have g1 : decide ((i : Int) < 0) = false := by simp
  have g2 : decide ((n : Int) ≤ (i : Int)) = false := by simp; omega
  have g2n : decide (n ≤ i) = false := by simp; omega
  clear hci hlt
  have HFI := Lib.hid hfi
  have HFB := Lib.hid h1
  have HRB := Lib.hid h2
  have H3 : Hid (inR r = false) := Lib.hid (by unfold inR; rw [h3, h4]; rfl)
  have s0 := (Sf.start w)
  try simp only [World.size_alloc] at s0
  have S0 := Lib.hid s0
  clear s0
  clear hc hn hl hr hm hl2 hfi h1 h2
  go_enter Try.func4, Try.ntmps4
  go_wp2_with fail
  refine (sane_any).mono ?_
  rintro e w1 ⟨rfl, hb⟩
  have R1 := Lib.hid (S0.out.later hb)
  clear hb
  go_wp2_with fail
  refine (few_any HNB.out HMB.out HF.out).mono ?_
  rintro e w2 ⟨rfl, rfl⟩
  go_wp2_with fail
  refine (find_any (HC.out.later R1.out.below) HN.out HL.out HFI.out HFB.out).mono ?_
  rintro e w3 ⟨rfl, hb⟩
  have R3 := Lib.hid (R1.out.later hb)
  clear hb
  go_wp2_with fail
  refine (ivl_inr (HC.out.later R3.out.below) HN.out HL.out (HR.out.later R3.out.below) HM.out HL2.out HFB.out HRB.out H3.out).mono ?_
  rintro e w4 ⟨rfl, hb⟩
  have R4 := Lib.hid (R3.out.later hb)
  clear hb
  have p1 := (R4.out.put [.int .i64 0, .slice none 0 0, .int .i64 0, .slice none 0 0] 34).put [.int .i64 0, .slice none 0 0, .int .i64 0, .slice none 0 0] 34
  try simp only [World.size_alloc] at p1
  have P1 := Lib.hid p1
  clear p1
  have Q1 := Lib.hid (Sf.row (pre := [(w4.heap.size + 1, 34, [.int .i64 0, .slice none 0 0, .int .i64 0, .slice none 0 0])]) P1.out [.int .i64 0, .slice none 0 0, .int .i64 0, .slice none 0 0])
  have T1 := Lib.hid (Sf.row (pre := []) Q1.out [.int .i64 0, .slice none 0 0, .int .i64 0, .slice none 0 0])
  obtain ⟨V1, hV1⟩ : ∃ V, ((((w4.alloc (.cells #[.int .i64 0, .slice none 0 0, .int .i64 0, .slice none 0 0] 34)).alloc (.cells #[.int .i64 0, .slice none 0 0, .int .i64 0, .slice none 0 0] 34)).setRow (w4.heap.size) #[.int .i64 0, .slice none 0 0, .int .i64 0, .slice none 0 0]).setRow (w4.heap.size + 1) #[.int .i64 0, .slice none 0 0, .int .i64 0, .slice none 0 0]) = V := ⟨_, rfl⟩
  have T1 : Hid (Sf w ([] ++ (w4.heap.size + 1, 34, [.int .i64 0, .slice none 0 0, .int .i64 0, .slice none 0 0]) :: (w4.heap.size, 34, [.int .i64 0, .slice none 0 0, .int .i64 0, .slice none 0 0]) :: []) _ V1) := Lib.hid (by have := T1.out; rw [← hV1]; exact this)
  have HV1 := Lib.hid hV1
  clear hV1
  obtain ⟨q2, q3, q4, q5⟩ := Fb.cells4 (T1.out.box (w4.heap.size, 34, [.int .i64 0, .slice none 0 0, .int .i64 0, .slice none 0 0]) mq1)
  go_wp2_with (first | (refine wpList_store_row rfl _ _ _ rfl _ #[.int .i64 0, .slice none 0 0, .int .i64 0, .slice none 0 0] rfl rfl _ _ (Q1.out.box _ mq0) (by kernel_rfl) rfl (by simp [Value.oneCell']) ?_; rw [HV1.out]) | refine wpList_store_row rfl _ _ _ rfl _ #[.int .i64 0, .slice none 0 0, .int .i64 0, .slice none 0 0] rfl rfl _ _ (P1.out.box _ mq1) (by kernel_rfl) rfl (by simp [Value.oneCell']) ?_)
  clear q2 q3 q4 q5
  refine (rsame_z).mono ?_
  rintro e w5 ⟨rfl, hb⟩
  have R5 := Lib.hid (T1.out.later hb)
  clear hb
  obtain ⟨q6, q7, q8, q9⟩ := Fb.cells4 (R5.out.box (w4.heap.size + 1, 34, [.int .i64 0, .slice none 0 0, .int .i64 0, .slice none 0 0]) mq0)
  go_wp2_with fail
  clear q6 q7 q8 q9
  refine (rsame_z).mono ?_
  rintro e w6 ⟨rfl, hb⟩
  have R6 := Lib.hid (R5.out.later hb)
  clear hb
  go_wp2_with fail
  go_ret
  exact ⟨rfl, R6.out.below⟩

set_option maxHeartbeats 16000000 in
theorem holds_reca {a a2 : Option Addr} {n cap m cap2 : Nat} {l : List Ct} {rl : List (Int × Int)} {s r d : Int} {w : World} (hc : Cs w a l) (hn : l.length = n) (hl : n ≤ 120) (hr : Rs w a2 rl) (hm : rl.length = m) (hl2 : m ≤ 60) (h1 : fB s d l = true) (h2 : recB s d rl = true) (h3 : decide (0 ≤ r) = false) : Calls Try.prog 4 #[.slice a n cap, .slice a2 m cap2, .int .i64 s, .int .i64 r, .int .i64 d] w (Gv (.bool true) w) := by
  have HC := Lib.hid hc
  have HN := Lib.hid hn
  have HR := Lib.hid hr
  have HM := Lib.hid hm
  have HL : Hid (n ≤ 1000000) := Lib.hid (by omega)
  have HL2 : Hid (m ≤ 1000000) := Lib.hid (by omega)
  have HNB : Hid (n ≤ 9223372036854775807) := Lib.hid (by omega)
  have HMB : Hid (m ≤ 9223372036854775807) := Lib.hid (by omega)
  have HF : Hid ((decide ((n : Int) ≤ 120) && decide ((m : Int) ≤ 60)) = true) := Lib.hid (by simp; omega)
  obtain ⟨i, c, _, hfi, hci, _⟩ := found_of h1
  have hlt := (List.getElem?_eq_some_iff.1 hci).1
  have g1 : decide ((i : Int) < 0) = false := by simp
  have g2 : decide ((n : Int) ≤ (i : Int)) = false := by simp; omega
  have g2n : decide (n ≤ i) = false := by simp; omega
  clear hci hlt
  have HFI := Lib.hid hfi
  have HFB := Lib.hid h1
  have HRB := Lib.hid h2
  have s0 := (Sf.start w)
  try simp only [World.size_alloc] at s0
  have S0 := Lib.hid s0
  clear s0
  clear hc hn hl hr hm hl2 hfi h1 h2
  go_enter Try.func4, Try.ntmps4
  go_wp2_with fail
  refine (sane_any).mono ?_
  rintro e w1 ⟨rfl, hb⟩
  have R1 := Lib.hid (S0.out.later hb)
  clear hb
  go_wp2_with fail
  refine (few_any HNB.out HMB.out HF.out).mono ?_
  rintro e w2 ⟨rfl, rfl⟩
  go_wp2_with fail
  refine (find_any (HC.out.later R1.out.below) HN.out HL.out HFI.out HFB.out).mono ?_
  rintro e w3 ⟨rfl, hb⟩
  have R3 := Lib.hid (R1.out.later hb)
  clear hb
  go_wp2_with fail
  refine (ivl_rec (HC.out.later R3.out.below) HN.out HL.out (HR.out.later R3.out.below) HM.out HL2.out HFB.out HRB.out).mono ?_
  rintro e w4 ⟨rfl, hb⟩
  have R4 := Lib.hid (R3.out.later hb)
  clear hb
  have p1 := (R4.out.put [.int .i64 0, .slice none 0 0, .int .i64 0, .slice none 0 0] 34).put [.int .i64 0, .slice none 0 0, .int .i64 0, .slice none 0 0] 34
  try simp only [World.size_alloc] at p1
  have P1 := Lib.hid p1
  clear p1
  have Q1 := Lib.hid (Sf.row (pre := [(w4.heap.size + 1, 34, [.int .i64 0, .slice none 0 0, .int .i64 0, .slice none 0 0])]) P1.out [.int .i64 0, .slice none 0 0, .int .i64 0, .slice none 0 0])
  have T1 := Lib.hid (Sf.row (pre := []) Q1.out [.int .i64 0, .slice none 0 0, .int .i64 0, .slice none 0 0])
  obtain ⟨V1, hV1⟩ : ∃ V, ((((w4.alloc (.cells #[.int .i64 0, .slice none 0 0, .int .i64 0, .slice none 0 0] 34)).alloc (.cells #[.int .i64 0, .slice none 0 0, .int .i64 0, .slice none 0 0] 34)).setRow (w4.heap.size) #[.int .i64 0, .slice none 0 0, .int .i64 0, .slice none 0 0]).setRow (w4.heap.size + 1) #[.int .i64 0, .slice none 0 0, .int .i64 0, .slice none 0 0]) = V := ⟨_, rfl⟩
  have T1 : Hid (Sf w ([] ++ (w4.heap.size + 1, 34, [.int .i64 0, .slice none 0 0, .int .i64 0, .slice none 0 0]) :: (w4.heap.size, 34, [.int .i64 0, .slice none 0 0, .int .i64 0, .slice none 0 0]) :: []) _ V1) := Lib.hid (by have := T1.out; rw [← hV1]; exact this)
  have HV1 := Lib.hid hV1
  clear hV1
  obtain ⟨q2, q3, q4, q5⟩ := Fb.cells4 (T1.out.box (w4.heap.size, 34, [.int .i64 0, .slice none 0 0, .int .i64 0, .slice none 0 0]) mq1)
  go_wp2_with (first | (refine wpList_store_row rfl _ _ _ rfl _ #[.int .i64 0, .slice none 0 0, .int .i64 0, .slice none 0 0] rfl rfl _ _ (Q1.out.box _ mq0) (by kernel_rfl) rfl (by simp [Value.oneCell']) ?_; rw [HV1.out]) | refine wpList_store_row rfl _ _ _ rfl _ #[.int .i64 0, .slice none 0 0, .int .i64 0, .slice none 0 0] rfl rfl _ _ (P1.out.box _ mq1) (by kernel_rfl) rfl (by simp [Value.oneCell']) ?_)
  clear q2 q3 q4 q5
  refine (rsame_z).mono ?_
  rintro e w5 ⟨rfl, hb⟩
  have R5 := Lib.hid (T1.out.later hb)
  clear hb
  obtain ⟨q6, q7, q8, q9⟩ := Fb.cells4 (R5.out.box (w4.heap.size + 1, 34, [.int .i64 0, .slice none 0 0, .int .i64 0, .slice none 0 0]) mq0)
  go_wp2_with fail
  clear q6 q7 q8 q9
  refine (rsame_z).mono ?_
  rintro e w6 ⟨rfl, hb⟩
  have R6 := Lib.hid (R5.out.later hb)
  clear hb
  go_wp2_with fail
  go_ret
  exact ⟨rfl, R6.out.below⟩

set_option maxHeartbeats 16000000 in
theorem holds_recb {a a2 : Option Addr} {n cap m cap2 : Nat} {l : List Ct} {rl : List (Int × Int)} {s r d : Int} {w : World} (hc : Cs w a l) (hn : l.length = n) (hl : n ≤ 120) (hr : Rs w a2 rl) (hm : rl.length = m) (hl2 : m ≤ 60) (h1 : fB s d l = true) (h2 : recB s d rl = true) (h3 : decide (0 ≤ r) = true) (h4 : decide (r ≤ 1099511627776) = false) : Calls Try.prog 4 #[.slice a n cap, .slice a2 m cap2, .int .i64 s, .int .i64 r, .int .i64 d] w (Gv (.bool true) w) := by
  have HC := Lib.hid hc
  have HN := Lib.hid hn
  have HR := Lib.hid hr
  have HM := Lib.hid hm
  have HL : Hid (n ≤ 1000000) := Lib.hid (by omega)
  have HL2 : Hid (m ≤ 1000000) := Lib.hid (by omega)
  have HNB : Hid (n ≤ 9223372036854775807) := Lib.hid (by omega)
  have HMB : Hid (m ≤ 9223372036854775807) := Lib.hid (by omega)
  have HF : Hid ((decide ((n : Int) ≤ 120) && decide ((m : Int) ≤ 60)) = true) := Lib.hid (by simp; omega)
  obtain ⟨i, c, _, hfi, hci, _⟩ := found_of h1
  have hlt := (List.getElem?_eq_some_iff.1 hci).1
  have g1 : decide ((i : Int) < 0) = false := by simp
  have g2 : decide ((n : Int) ≤ (i : Int)) = false := by simp; omega
  have g2n : decide (n ≤ i) = false := by simp; omega
  clear hci hlt
  have HFI := Lib.hid hfi
  have HFB := Lib.hid h1
  have HRB := Lib.hid h2
  have s0 := (Sf.start w)
  try simp only [World.size_alloc] at s0
  have S0 := Lib.hid s0
  clear s0
  clear hc hn hl hr hm hl2 hfi h1 h2
  go_enter Try.func4, Try.ntmps4
  go_wp2_with fail
  refine (sane_any).mono ?_
  rintro e w1 ⟨rfl, hb⟩
  have R1 := Lib.hid (S0.out.later hb)
  clear hb
  go_wp2_with fail
  refine (few_any HNB.out HMB.out HF.out).mono ?_
  rintro e w2 ⟨rfl, rfl⟩
  go_wp2_with fail
  refine (find_any (HC.out.later R1.out.below) HN.out HL.out HFI.out HFB.out).mono ?_
  rintro e w3 ⟨rfl, hb⟩
  have R3 := Lib.hid (R1.out.later hb)
  clear hb
  go_wp2_with fail
  refine (ivl_rec (HC.out.later R3.out.below) HN.out HL.out (HR.out.later R3.out.below) HM.out HL2.out HFB.out HRB.out).mono ?_
  rintro e w4 ⟨rfl, hb⟩
  have R4 := Lib.hid (R3.out.later hb)
  clear hb
  have p1 := (R4.out.put [.int .i64 0, .slice none 0 0, .int .i64 0, .slice none 0 0] 34).put [.int .i64 0, .slice none 0 0, .int .i64 0, .slice none 0 0] 34
  try simp only [World.size_alloc] at p1
  have P1 := Lib.hid p1
  clear p1
  have Q1 := Lib.hid (Sf.row (pre := [(w4.heap.size + 1, 34, [.int .i64 0, .slice none 0 0, .int .i64 0, .slice none 0 0])]) P1.out [.int .i64 0, .slice none 0 0, .int .i64 0, .slice none 0 0])
  have T1 := Lib.hid (Sf.row (pre := []) Q1.out [.int .i64 0, .slice none 0 0, .int .i64 0, .slice none 0 0])
  obtain ⟨V1, hV1⟩ : ∃ V, ((((w4.alloc (.cells #[.int .i64 0, .slice none 0 0, .int .i64 0, .slice none 0 0] 34)).alloc (.cells #[.int .i64 0, .slice none 0 0, .int .i64 0, .slice none 0 0] 34)).setRow (w4.heap.size) #[.int .i64 0, .slice none 0 0, .int .i64 0, .slice none 0 0]).setRow (w4.heap.size + 1) #[.int .i64 0, .slice none 0 0, .int .i64 0, .slice none 0 0]) = V := ⟨_, rfl⟩
  have T1 : Hid (Sf w ([] ++ (w4.heap.size + 1, 34, [.int .i64 0, .slice none 0 0, .int .i64 0, .slice none 0 0]) :: (w4.heap.size, 34, [.int .i64 0, .slice none 0 0, .int .i64 0, .slice none 0 0]) :: []) _ V1) := Lib.hid (by have := T1.out; rw [← hV1]; exact this)
  have HV1 := Lib.hid hV1
  clear hV1
  obtain ⟨q2, q3, q4, q5⟩ := Fb.cells4 (T1.out.box (w4.heap.size, 34, [.int .i64 0, .slice none 0 0, .int .i64 0, .slice none 0 0]) mq1)
  go_wp2_with (first | (refine wpList_store_row rfl _ _ _ rfl _ #[.int .i64 0, .slice none 0 0, .int .i64 0, .slice none 0 0] rfl rfl _ _ (Q1.out.box _ mq0) (by kernel_rfl) rfl (by simp [Value.oneCell']) ?_; rw [HV1.out]) | refine wpList_store_row rfl _ _ _ rfl _ #[.int .i64 0, .slice none 0 0, .int .i64 0, .slice none 0 0] rfl rfl _ _ (P1.out.box _ mq1) (by kernel_rfl) rfl (by simp [Value.oneCell']) ?_)
  clear q2 q3 q4 q5
  refine (rsame_z).mono ?_
  rintro e w5 ⟨rfl, hb⟩
  have R5 := Lib.hid (T1.out.later hb)
  clear hb
  obtain ⟨q6, q7, q8, q9⟩ := Fb.cells4 (R5.out.box (w4.heap.size + 1, 34, [.int .i64 0, .slice none 0 0, .int .i64 0, .slice none 0 0]) mq0)
  go_wp2_with fail
  clear q6 q7 q8 q9
  refine (rsame_z).mono ?_
  rintro e w6 ⟨rfl, hb⟩
  have R6 := Lib.hid (R5.out.later hb)
  clear hb
  go_wp2_with fail
  go_ret
  exact ⟨rfl, R6.out.below⟩

set_option maxHeartbeats 16000000 in
theorem holds_recc {a a2 : Option Addr} {n cap m cap2 : Nat} {l : List Ct} {rl : List (Int × Int)} {s r d : Int} {w : World} (hc : Cs w a l) (hn : l.length = n) (hl : n ≤ 120) (hr : Rs w a2 rl) (hm : rl.length = m) (hl2 : m ≤ 60) (h1 : fB s d l = true) (h2 : recB s d rl = true) (h3 : decide (0 ≤ r) = true) (h4 : decide (r ≤ 1099511627776) = true) : Calls Try.prog 4 #[.slice a n cap, .slice a2 m cap2, .int .i64 s, .int .i64 r, .int .i64 d] w (Gv (.bool true) w) := by
  have HC := Lib.hid hc
  have HN := Lib.hid hn
  have HR := Lib.hid hr
  have HM := Lib.hid hm
  have HL : Hid (n ≤ 1000000) := Lib.hid (by omega)
  have HL2 : Hid (m ≤ 1000000) := Lib.hid (by omega)
  have HNB : Hid (n ≤ 9223372036854775807) := Lib.hid (by omega)
  have HMB : Hid (m ≤ 9223372036854775807) := Lib.hid (by omega)
  have HF : Hid ((decide ((n : Int) ≤ 120) && decide ((m : Int) ≤ 60)) = true) := Lib.hid (by simp; omega)
  obtain ⟨i, c, _, hfi, hci, _⟩ := found_of h1
  have hlt := (List.getElem?_eq_some_iff.1 hci).1
  have g1 : decide ((i : Int) < 0) = false := by simp
  have g2 : decide ((n : Int) ≤ (i : Int)) = false := by simp; omega
  have g2n : decide (n ≤ i) = false := by simp; omega
  clear hci hlt
  have HFI := Lib.hid hfi
  have HFB := Lib.hid h1
  have HRB := Lib.hid h2
  have s0 := (Sf.start w)
  try simp only [World.size_alloc] at s0
  have S0 := Lib.hid s0
  clear s0
  clear hc hn hl hr hm hl2 hfi h1 h2
  go_enter Try.func4, Try.ntmps4
  go_wp2_with fail
  refine (sane_any).mono ?_
  rintro e w1 ⟨rfl, hb⟩
  have R1 := Lib.hid (S0.out.later hb)
  clear hb
  go_wp2_with fail
  refine (few_any HNB.out HMB.out HF.out).mono ?_
  rintro e w2 ⟨rfl, rfl⟩
  go_wp2_with fail
  refine (find_any (HC.out.later R1.out.below) HN.out HL.out HFI.out HFB.out).mono ?_
  rintro e w3 ⟨rfl, hb⟩
  have R3 := Lib.hid (R1.out.later hb)
  clear hb
  go_wp2_with fail
  refine (ivl_rec (HC.out.later R3.out.below) HN.out HL.out (HR.out.later R3.out.below) HM.out HL2.out HFB.out HRB.out).mono ?_
  rintro e w4 ⟨rfl, hb⟩
  have R4 := Lib.hid (R3.out.later hb)
  clear hb
  have p1 := (R4.out.put [.int .i64 0, .slice none 0 0, .int .i64 0, .slice none 0 0] 34).put [.int .i64 0, .slice none 0 0, .int .i64 0, .slice none 0 0] 34
  try simp only [World.size_alloc] at p1
  have P1 := Lib.hid p1
  clear p1
  have Q1 := Lib.hid (Sf.row (pre := [(w4.heap.size + 1, 34, [.int .i64 0, .slice none 0 0, .int .i64 0, .slice none 0 0])]) P1.out [.int .i64 0, .slice none 0 0, .int .i64 0, .slice none 0 0])
  have T1 := Lib.hid (Sf.row (pre := []) Q1.out [.int .i64 0, .slice none 0 0, .int .i64 0, .slice none 0 0])
  obtain ⟨V1, hV1⟩ : ∃ V, ((((w4.alloc (.cells #[.int .i64 0, .slice none 0 0, .int .i64 0, .slice none 0 0] 34)).alloc (.cells #[.int .i64 0, .slice none 0 0, .int .i64 0, .slice none 0 0] 34)).setRow (w4.heap.size) #[.int .i64 0, .slice none 0 0, .int .i64 0, .slice none 0 0]).setRow (w4.heap.size + 1) #[.int .i64 0, .slice none 0 0, .int .i64 0, .slice none 0 0]) = V := ⟨_, rfl⟩
  have T1 : Hid (Sf w ([] ++ (w4.heap.size + 1, 34, [.int .i64 0, .slice none 0 0, .int .i64 0, .slice none 0 0]) :: (w4.heap.size, 34, [.int .i64 0, .slice none 0 0, .int .i64 0, .slice none 0 0]) :: []) _ V1) := Lib.hid (by have := T1.out; rw [← hV1]; exact this)
  have HV1 := Lib.hid hV1
  clear hV1
  go_wp2_with (first | (refine wpList_store_row rfl _ _ _ rfl _ #[.int .i64 0, .slice none 0 0, .int .i64 0, .slice none 0 0] rfl rfl _ _ (Q1.out.box _ mq0) (by kernel_rfl) rfl (by simp [Value.oneCell']) ?_; rw [HV1.out]) | refine wpList_store_row rfl _ _ _ rfl _ #[.int .i64 0, .slice none 0 0, .int .i64 0, .slice none 0 0] rfl rfl _ _ (P1.out.box _ mq1) (by kernel_rfl) rfl (by simp [Value.oneCell']) ?_)
  refine (recalled_any (HR.out.later T1.out.below) HM.out HL2.out HRB.out).mono ?_
  rintro e w5 ⟨rfl, hb⟩
  have R5 := Lib.hid (T1.out.later hb)
  clear hb
  obtain ⟨q2, q3, q4, q5⟩ := Fb.cells4 (R5.out.box (w4.heap.size, 34, [.int .i64 0, .slice none 0 0, .int .i64 0, .slice none 0 0]) mq1)
  go_wp2_with fail
  clear q2 q3 q4 q5
  refine (rsame_z).mono ?_
  rintro e w6 ⟨rfl, hb⟩
  have R6 := Lib.hid (R5.out.later hb)
  clear hb
  obtain ⟨q6, q7, q8, q9⟩ := Fb.cells4 (R6.out.box (w4.heap.size + 1, 34, [.int .i64 0, .slice none 0 0, .int .i64 0, .slice none 0 0]) mq0)
  go_wp2_with fail
  clear q6 q7 q8 q9
  refine (rsame_z).mono ?_
  rintro e w7 ⟨rfl, hb⟩
  have R7 := Lib.hid (R6.out.later hb)
  clear hb
  go_wp2_with fail
  go_ret
  exact ⟨rfl, R7.out.below⟩

set_option maxHeartbeats 64000000 in
theorem holds_ok {a a2 : Option Addr} {n cap m cap2 : Nat} {l : List Ct} {rl : List (Int × Int)} {s r d : Int} {w : World} (hc : Cs w a l) (hn : l.length = n) (hl : n ≤ 120) (hr : Rs w a2 rl) (hm : rl.length = m) (hl2 : m ≤ 60) {i : Nat} {c : Ct} (h0 : fnd s d l = some (i, c)) (h2 : recB s d rl = false) (h3 : inR r = true) : Calls Try.prog 4 #[.slice a n cap, .slice a2 m cap2, .int .i64 s, .int .i64 r, .int .i64 d] w (Gv (.bool true) w) := by
  have hci := (fnd_some _ h0).1
  have hcv := (fnd_some _ h0).2
  have h1 : fB s d l = true := by unfold fB; rw [h0]; rfl
  have hfi : fI s d l = i := by unfold fI; rw [h0]
  obtain ⟨h4, h5⟩ := cov_ok hcv
  have G := good_of h4 h3 h5
  obtain ⟨b, o, rfl, hb, hcells⟩ := hc.at hci
  have HX := Lib.hid hcells
  have hin : i < n := by rw [← hn]; exact (List.getElem?_eq_some_iff.1 hci).1
  have hat := fun W => cert_at b o n cap i hin W
  have g1 : decide ((i : Int) < 0) = false := by simp
  have g2 : decide ((n : Int) ≤ (i : Int)) = false := by simp; omega
  have g2n : decide (n ≤ i) = false := by simp; omega
  have g3 : decide (0 ≤ r) = true := decide_eq_true G.r0
  have g4 : decide (r ≤ 1099511627776) = true := decide_eq_true G.r1
  have HC := Lib.hid hc
  have HN := Lib.hid hn
  have HR := Lib.hid hr
  have HM := Lib.hid hm
  have HL : Hid (n ≤ 1000000) := Lib.hid (by omega)
  have HL2 : Hid (m ≤ 1000000) := Lib.hid (by omega)
  have HNB : Hid (n ≤ 9223372036854775807) := Lib.hid (by omega)
  have HMB : Hid (m ≤ 9223372036854775807) := Lib.hid (by omega)
  have HF : Hid ((decide ((n : Int) ≤ 120) && decide ((m : Int) ≤ 60)) = true) := Lib.hid (by simp; omega)
  have HFI := Lib.hid hfi
  have HFB := Lib.hid h1
  have HRB := Lib.hid h2
  have H3 := Lib.hid h3
  have H4 := Lib.hid h4
  have H5 := Lib.hid h5
  have HEE : Hid (∀ W, Calls Try.prog 12 #[.agg #[.int .i64 c.sc, .int .i64 c.fr, .int .i64 c.un, .int .i64 c.ut, .int .i64 c.pm, .int .i64 c.dr], .int .i64 r, .int .i64 d] W (Gt (errR c r d) W)) := Lib.hid (fun W => error_some H4.out H3.out H5.out)
  have HII : Hid (∀ W, RowKit.Below w.heap.size w W → Calls Try.prog 14 #[.slice (some ⟨b, o, none⟩) n cap, .slice a2 m cap2, .int .i64 s, .int .i64 r, .int .i64 d] W (It (lowR c r d) (highR c r d) W)) := Lib.hid (by
    have h0' := h0
    exact fun W hW => ivl_some (HC.out.later hW) HN.out HL.out (HR.out.later hW) HM.out HL2.out h0' HRB.out H3.out)
  have LE := Lib.hid (G.err_sz.mono (j := 1000))
  have LR := Lib.hid (G.int.mono (j := 1000))
  have LL := Lib.hid (G.low_sz.mono (j := 1000))
  have LU := Lib.hid (G.high_sz.mono (j := 1000))
  have LD := Lib.hid ((FSz.sub G.int G.low_sz : FSz 14 _).mono (j := 1000))
  have HRI : Hid (-9223372036854775808 ≤ r ∧ r ≤ 9223372036854775807) := Lib.hid (by have := G.r0; have := G.r1; omega)
  have e1 : highR c r d - (r : Rat) = errR c r d := by unfold highR; grind
  have e2 := cmp_le0 (low_le G.nonneg G.r0)
  have e3 := cmp_le0 (le_high G.nonneg)
  have e4 := sign_ge0 (low_nonneg c r d)
  have e5 := low_down c r d
  obtain ⟨E, hE⟩ : ∃ E, errR c r d = E := ⟨_, rfl⟩
  obtain ⟨RR, hRR⟩ : ∃ q, ((r : Int) : Rat) = q := ⟨_, rfl⟩
  obtain ⟨LO, hLO⟩ : ∃ q, lowR c r d = q := ⟨_, rfl⟩
  obtain ⟨UP, hUP⟩ : ∃ q, highR c r d = q := ⟨_, rfl⟩
  rw [hUP, hRR, hE] at e1
  rw [hLO, hRR] at e2
  rw [hRR, hUP] at e3
  rw [hLO] at e4
  rw [hRR, hLO, hE] at e5
  rw [hE] at LE HEE
  rw [hRR] at LR
  rw [hLO] at LL
  rw [hUP] at LU
  rw [hRR, hLO] at LD
  rw [hLO, hUP] at HII
  obtain ⟨DN, hDN⟩ : ∃ q, RR - LO = q := ⟨_, rfl⟩
  rw [hDN] at e5 LD
  obtain ⟨k1, hk1⟩ : ∃ k, cmpR LO RR = k := ⟨_, rfl⟩
  obtain ⟨k2, hk2⟩ : ∃ k, cmpR RR UP = k := ⟨_, rfl⟩
  obtain ⟨sg, hsg⟩ : ∃ k, LO.num.sign = k := ⟨_, rfl⟩
  rw [hk1] at e2
  rw [hk2] at e3
  rw [hsg] at e4
  have HE1 := Lib.hid e1
  have HRR := Lib.hid hRR
  have HDN := Lib.hid hDN
  have HK1 := Lib.hid hk1
  have HK2 := Lib.hid hk2
  have HSG := Lib.hid hsg
  have HE5 := Lib.hid e5
  clear hci hcv h4 h5 hcells hb e1 e5 hE hRR hLO hUP hDN hk1 hk2 hsg G h0 h1 h2 h3 H3 H4 H5 hfi hin
  have s0 := (Sf.start w)
  try simp only [World.size_alloc] at s0
  have S0 := Lib.hid s0
  clear s0
  clear hc hn hl hr hm hl2
  go_enter Try.func4, Try.ntmps4
  go_wp2_with fail
  refine (sane_any).mono ?_
  rintro e w1 ⟨rfl, hb⟩
  have R1 := Lib.hid (S0.out.later hb)
  clear hb
  go_wp2_with fail
  refine (few_any HNB.out HMB.out HF.out).mono ?_
  rintro e w2 ⟨rfl, rfl⟩
  go_wp2_with fail
  refine (find_any (HC.out.later R1.out.below) HN.out HL.out HFI.out HFB.out).mono ?_
  rintro e w3 ⟨rfl, hb⟩
  have R3 := Lib.hid (R1.out.later hb)
  clear hb
  go_wp2_with fail
  refine (HII.out _ R3.out.below).mono ?_
  rintro e w4 ⟨sx4, ax4, nx4, cx4, bx4, mx4, dx4, sy4, ay4, ny4, cy4, by4, my4, dy4, rfl, hr, hq, hb, h1, h2, h3, h4⟩
  have E4 := Lib.hid hr.1.1
  have D4 := Lib.hid hq.1.1
  have R4 := Lib.hid (Sf.ret4 R3.out hb hr.1.2 h1 hr.2.2 h2 hq.1.2 h3 hq.2.2 h4)
  clear hr hq hb h1 h2 h3 h4
  have p1 := (R4.out.put [.int .i64 0, .slice none 0 0, .int .i64 0, .slice none 0 0] 34).put [.int .i64 0, .slice none 0 0, .int .i64 0, .slice none 0 0] 34
  try simp only [World.size_alloc] at p1
  have P1 := Lib.hid p1
  clear p1
  have Q1 := Lib.hid (Sf.row (pre := [(w4.heap.size + 1, 34, [.int .i64 0, .slice none 0 0, .int .i64 0, .slice none 0 0])]) P1.out [.int .i64 sx4, .slice ax4 nx4 cx4, .int .i64 1, .slice bx4 mx4 dx4])
  have T1 := Lib.hid (Sf.row (pre := []) Q1.out [.int .i64 sy4, .slice ay4 ny4 cy4, .int .i64 1, .slice by4 my4 dy4])
  obtain ⟨V1, hV1⟩ : ∃ V, ((((w4.alloc (.cells #[.int .i64 0, .slice none 0 0, .int .i64 0, .slice none 0 0] 34)).alloc (.cells #[.int .i64 0, .slice none 0 0, .int .i64 0, .slice none 0 0] 34)).setRow (w4.heap.size) #[.int .i64 sx4, .slice ax4 nx4 cx4, .int .i64 1, .slice bx4 mx4 dx4]).setRow (w4.heap.size + 1) #[.int .i64 sy4, .slice ay4 ny4 cy4, .int .i64 1, .slice by4 my4 dy4]) = V := ⟨_, rfl⟩
  have T1 : Hid (Sf w ([] ++ (w4.heap.size + 1, 34, [.int .i64 sy4, .slice ay4 ny4 cy4, .int .i64 1, .slice by4 my4 dy4]) :: (w4.heap.size, 34, [.int .i64 sx4, .slice ax4 nx4 cx4, .int .i64 1, .slice bx4 mx4 dx4]) :: []) _ V1) := Lib.hid (by have := T1.out; rw [← hV1]; exact this)
  have HV1 := Lib.hid hV1
  clear hV1
  go_wp2_with (first | (refine wpList_store_row rfl _ _ _ rfl _ #[.int .i64 sy4, .slice ay4 ny4 cy4, .int .i64 1, .slice by4 my4 dy4] rfl rfl _ _ (Q1.out.box _ mq0) (by kernel_rfl) rfl (by simp [Value.oneCell']) ?_; rw [HV1.out]) | refine wpList_store_row rfl _ _ _ rfl _ #[.int .i64 sx4, .slice ax4 nx4 cx4, .int .i64 1, .slice bx4 mx4 dx4] rfl rfl _ _ (P1.out.box _ mq1) (by kernel_rfl) rfl (by simp [Value.oneCell']) ?_)
  refine (recalled_any (HR.out.later T1.out.below) HM.out HL2.out HRB.out).mono ?_
  rintro e w5 ⟨rfl, hb⟩
  have R5 := Lib.hid (T1.out.later hb)
  clear hb
  obtain ⟨x0, x1, x2, x3, x4, x5⟩ := HX.out _ R5.out.below
  go_wp2_with fail
  clear x0 x1 x2 x3 x4 x5
  refine (HEE.out _).mono ?_
  rintro e w6 ⟨sx6, ax6, nx6, cx6, bx6, mx6, dx6, rfl, hr, hb, hf, hg⟩
  have E6 := Lib.hid hr.1.1
  have R6 := Lib.hid (R5.out.ret2 hb hr.1.2 hf hr.2.2 hg)
  have FF6 := Lib.hid (hf.mono R5.out.below.size)
  have FG6 := Lib.hid (hg.mono R5.out.below.size)
  clear hr hb hf hg
  have P2 := Lib.hid (R6.out.put [.int .i64 0, .slice none 0 0, .int .i64 0, .slice none 0 0] 34)
  have T2 := Lib.hid (Sf.row (pre := []) P2.out [.int .i64 sx6, .slice ax6 nx6 cx6, .int .i64 1, .slice bx6 mx6 dx6])
  obtain ⟨V2, hV2⟩ : ∃ V, ((w6.alloc (.cells #[.int .i64 0, .slice none 0 0, .int .i64 0, .slice none 0 0] 34)).setRow w6.heap.size #[.int .i64 sx6, .slice ax6 nx6 cx6, .int .i64 1, .slice bx6 mx6 dx6]) = V := ⟨_, rfl⟩
  have T2 : Hid (Sf w ([] ++ (w6.heap.size, 34, [.int .i64 sx6, .slice ax6 nx6 cx6, .int .i64 1, .slice bx6 mx6 dx6]) :: [(w4.heap.size + 1, 34, [.int .i64 sy4, .slice ay4 ny4 cy4, .int .i64 1, .slice by4 my4 dy4]), (w4.heap.size, 34, [.int .i64 sx4, .slice ax4 nx4 cx4, .int .i64 1, .slice bx4 mx4 dx4])]) _ V2) := Lib.hid (by have := T2.out; rw [← hV2]; exact this)
  have HV2 := Lib.hid hV2
  clear hV2
  go_wp2_with (first | (refine wpList_store_row rfl _ _ _ rfl _ #[.int .i64 sx6, .slice ax6 nx6 cx6, .int .i64 1, .slice bx6 mx6 dx6] rfl rfl _ _ (P2.out.box _ mq0) (by kernel_rfl) rfl (by simp [Value.oneCell']) ?_; rw [HV2.out]))
  refine (qint_r HRI.out HRR.out _).mono ?_
  rintro e w7 ⟨sx7, ax7, nx7, cx7, bx7, mx7, dx7, rfl, hr, hb, hf, hg⟩
  have E7 := Lib.hid hr.1.1
  have R7 := Lib.hid (T2.out.ret2 hb hr.1.2 hf hr.2.2 hg)
  have FF7 := Lib.hid (hf.mono T2.out.below.size)
  have FG7 := Lib.hid (hg.mono T2.out.below.size)
  clear hr hb hf hg
  have P3 := Lib.hid (R7.out.put [.int .i64 0, .slice none 0 0, .int .i64 0, .slice none 0 0] 34)
  have T3 := Lib.hid (Sf.row (pre := []) P3.out [.int .i64 sx7, .slice ax7 nx7 cx7, .int .i64 1, .slice bx7 mx7 dx7])
  obtain ⟨V3, hV3⟩ : ∃ V, ((w7.alloc (.cells #[.int .i64 0, .slice none 0 0, .int .i64 0, .slice none 0 0] 34)).setRow w7.heap.size #[.int .i64 sx7, .slice ax7 nx7 cx7, .int .i64 1, .slice bx7 mx7 dx7]) = V := ⟨_, rfl⟩
  have T3 : Hid (Sf w ([] ++ (w7.heap.size, 34, [.int .i64 sx7, .slice ax7 nx7 cx7, .int .i64 1, .slice bx7 mx7 dx7]) :: [(w6.heap.size, 34, [.int .i64 sx6, .slice ax6 nx6 cx6, .int .i64 1, .slice bx6 mx6 dx6]), (w4.heap.size + 1, 34, [.int .i64 sy4, .slice ay4 ny4 cy4, .int .i64 1, .slice by4 my4 dy4]), (w4.heap.size, 34, [.int .i64 sx4, .slice ax4 nx4 cx4, .int .i64 1, .slice bx4 mx4 dx4])]) _ V3) := Lib.hid (by have := T3.out; rw [← hV3]; exact this)
  have HV3 := Lib.hid hV3
  clear hV3
  obtain ⟨q4, q5, q6, q7⟩ := Fb.cells4 (T3.out.box (w7.heap.size, 34, [.int .i64 sx7, .slice ax7 nx7 cx7, .int .i64 1, .slice bx7 mx7 dx7]) mq0)
  obtain ⟨q8, q9, q10, q11⟩ := Fb.cells4 (T3.out.box (w4.heap.size + 1, 34, [.int .i64 sy4, .slice ay4 ny4 cy4, .int .i64 1, .slice by4 my4 dy4]) mq2)
  go_wp2_with (first | (refine wpList_store_row rfl _ _ _ rfl _ #[.int .i64 sx7, .slice ax7 nx7 cx7, .int .i64 1, .slice bx7 mx7 dx7] rfl rfl _ _ (P3.out.box _ mq0) (by kernel_rfl) rfl (by simp [Value.oneCell']) ?_; rw [HV3.out]))
  clear q4 q5 q6 q7 q8 q9 q10 q11
  refine (fsub_r (T3.out.fr (v := .slice ay4 ny4 cy4) (u := .slice by4 my4 dy4) (r := UP) mq6 mq7 D4.out) (T3.out.fr (v := .slice ax7 nx7 cx7) (u := .slice bx7 mx7 dx7) (r := RR) mq0 mq1 E7.out) LU.out LR.out HE1.out).mono ?_
  rintro e w8 ⟨sx8, ax8, nx8, cx8, bx8, mx8, dx8, rfl, hr, hb, hf, hg⟩
  have E8 := Lib.hid hr.1.1
  have R8 := Lib.hid (T3.out.ret2 hb hr.1.2 hf hr.2.2 hg)
  have FF8 := Lib.hid (hf.mono T3.out.below.size)
  have FG8 := Lib.hid (hg.mono T3.out.below.size)
  clear hr hb hf hg
  have P12 := Lib.hid (R8.out.put [.int .i64 0, .slice none 0 0, .int .i64 0, .slice none 0 0] 34)
  have T12 := Lib.hid (Sf.row (pre := []) P12.out [.int .i64 sx8, .slice ax8 nx8 cx8, .int .i64 1, .slice bx8 mx8 dx8])
  obtain ⟨V12, hV12⟩ : ∃ V, ((w8.alloc (.cells #[.int .i64 0, .slice none 0 0, .int .i64 0, .slice none 0 0] 34)).setRow w8.heap.size #[.int .i64 sx8, .slice ax8 nx8 cx8, .int .i64 1, .slice bx8 mx8 dx8]) = V := ⟨_, rfl⟩
  have T12 : Hid (Sf w ([] ++ (w8.heap.size, 34, [.int .i64 sx8, .slice ax8 nx8 cx8, .int .i64 1, .slice bx8 mx8 dx8]) :: [(w7.heap.size, 34, [.int .i64 sx7, .slice ax7 nx7 cx7, .int .i64 1, .slice bx7 mx7 dx7]), (w6.heap.size, 34, [.int .i64 sx6, .slice ax6 nx6 cx6, .int .i64 1, .slice bx6 mx6 dx6]), (w4.heap.size + 1, 34, [.int .i64 sy4, .slice ay4 ny4 cy4, .int .i64 1, .slice by4 my4 dy4]), (w4.heap.size, 34, [.int .i64 sx4, .slice ax4 nx4 cx4, .int .i64 1, .slice bx4 mx4 dx4])]) _ V12) := Lib.hid (by have := T12.out; rw [← hV12]; exact this)
  have HV12 := Lib.hid hV12
  clear hV12
  obtain ⟨q13, q14, q15, q16⟩ := Fb.cells4 (T12.out.box (w7.heap.size, 34, [.int .i64 sx7, .slice ax7 nx7 cx7, .int .i64 1, .slice bx7 mx7 dx7]) mq1)
  obtain ⟨q17, q18, q19, q20⟩ := Fb.cells4 (T12.out.box (w4.heap.size, 34, [.int .i64 sx4, .slice ax4 nx4 cx4, .int .i64 1, .slice bx4 mx4 dx4]) mq4)
  go_wp2_with (first | (refine wpList_store_row rfl _ _ _ rfl _ #[.int .i64 sx8, .slice ax8 nx8 cx8, .int .i64 1, .slice bx8 mx8 dx8] rfl rfl _ _ (P12.out.box _ mq0) (by kernel_rfl) rfl (by simp [Value.oneCell']) ?_; rw [HV12.out]))
  clear q13 q14 q15 q16 q17 q18 q19 q20
  refine (fsub_r (T12.out.fr (v := .slice ax7 nx7 cx7) (u := .slice bx7 mx7 dx7) (r := RR) mq2 mq3 E7.out) (T12.out.fr (v := .slice ax4 nx4 cx4) (u := .slice bx4 mx4 dx4) (r := LO) mq6 mq7 E4.out) LR.out LL.out HDN.out).mono ?_
  rintro e w9 ⟨sx9, ax9, nx9, cx9, bx9, mx9, dx9, rfl, hr, hb, hf, hg⟩
  have E9 := Lib.hid hr.1.1
  have R9 := Lib.hid (T12.out.ret2 hb hr.1.2 hf hr.2.2 hg)
  have FF9 := Lib.hid (hf.mono T12.out.below.size)
  have FG9 := Lib.hid (hg.mono T12.out.below.size)
  clear hr hb hf hg
  have P21 := Lib.hid (R9.out.put [.int .i64 0, .slice none 0 0, .int .i64 0, .slice none 0 0] 34)
  have T21 := Lib.hid (Sf.row (pre := []) P21.out [.int .i64 sx9, .slice ax9 nx9 cx9, .int .i64 1, .slice bx9 mx9 dx9])
  obtain ⟨V21, hV21⟩ : ∃ V, ((w9.alloc (.cells #[.int .i64 0, .slice none 0 0, .int .i64 0, .slice none 0 0] 34)).setRow w9.heap.size #[.int .i64 sx9, .slice ax9 nx9 cx9, .int .i64 1, .slice bx9 mx9 dx9]) = V := ⟨_, rfl⟩
  have T21 : Hid (Sf w ([] ++ (w9.heap.size, 34, [.int .i64 sx9, .slice ax9 nx9 cx9, .int .i64 1, .slice bx9 mx9 dx9]) :: [(w8.heap.size, 34, [.int .i64 sx8, .slice ax8 nx8 cx8, .int .i64 1, .slice bx8 mx8 dx8]), (w7.heap.size, 34, [.int .i64 sx7, .slice ax7 nx7 cx7, .int .i64 1, .slice bx7 mx7 dx7]), (w6.heap.size, 34, [.int .i64 sx6, .slice ax6 nx6 cx6, .int .i64 1, .slice bx6 mx6 dx6]), (w4.heap.size + 1, 34, [.int .i64 sy4, .slice ay4 ny4 cy4, .int .i64 1, .slice by4 my4 dy4]), (w4.heap.size, 34, [.int .i64 sx4, .slice ax4 nx4 cx4, .int .i64 1, .slice bx4 mx4 dx4])]) _ V21) := Lib.hid (by have := T21.out; rw [← hV21]; exact this)
  have HV21 := Lib.hid hV21
  clear hV21
  obtain ⟨q22, q23, q24, q25⟩ := Fb.cells4 (T21.out.box (w8.heap.size, 34, [.int .i64 sx8, .slice ax8 nx8 cx8, .int .i64 1, .slice bx8 mx8 dx8]) mq1)
  obtain ⟨q26, q27, q28, q29⟩ := Fb.cells4 (T21.out.box (w6.heap.size, 34, [.int .i64 sx6, .slice ax6 nx6 cx6, .int .i64 1, .slice bx6 mx6 dx6]) mq3)
  go_wp2_with (first | (refine wpList_store_row rfl _ _ _ rfl _ #[.int .i64 sx9, .slice ax9 nx9 cx9, .int .i64 1, .slice bx9 mx9 dx9] rfl rfl _ _ (P21.out.box _ mq0) (by kernel_rfl) rfl (by simp [Value.oneCell']) ?_; rw [HV21.out]))
  clear q22 q23 q24 q25 q26 q27 q28 q29
  refine (rfsame_t (T21.out.fr (v := .slice ax8 nx8 cx8) (u := .slice bx8 mx8 dx8) (r := E) mq2 mq3 E8.out) (T21.out.fr (v := .slice ax6 nx6 cx6) (u := .slice bx6 mx6 dx6) (r := E) mq6 mq7 E6.out) rfl).mono ?_
  rintro e w10 ⟨rfl, hb⟩
  have R10 := Lib.hid (T21.out.later hb)
  clear hb
  obtain ⟨q30, q31, q32, q33⟩ := Fb.cells4 (R10.out.box (w7.heap.size, 34, [.int .i64 sx7, .slice ax7 nx7 cx7, .int .i64 1, .slice bx7 mx7 dx7]) mq2)
  obtain ⟨q34, q35, q36, q37⟩ := Fb.cells4 (R10.out.box (w4.heap.size, 34, [.int .i64 sx4, .slice ax4 nx4 cx4, .int .i64 1, .slice bx4 mx4 dx4]) mq5)
  go_wp2_with fail
  clear q30 q31 q32 q33 q34 q35 q36 q37
  refine (rfcmp_r (R10.out.fr (v := .slice ax4 nx4 cx4) (u := .slice bx4 mx4 dx4) (r := LO) mq8 mq9 E4.out) (R10.out.fr (v := .slice ax7 nx7 cx7) (u := .slice bx7 mx7 dx7) (r := RR) mq4 mq5 E7.out) LL.out LR.out HK1.out).mono ?_
  rintro e w11 ⟨rfl, hb⟩
  have R11 := Lib.hid (R10.out.later hb)
  clear hb
  obtain ⟨q38, q39, q40, q41⟩ := Fb.cells4 (R11.out.box (w7.heap.size, 34, [.int .i64 sx7, .slice ax7 nx7 cx7, .int .i64 1, .slice bx7 mx7 dx7]) mq2)
  obtain ⟨q42, q43, q44, q45⟩ := Fb.cells4 (R11.out.box (w4.heap.size + 1, 34, [.int .i64 sy4, .slice ay4 ny4 cy4, .int .i64 1, .slice by4 my4 dy4]) mq4)
  go_wp2_with fail
  clear q38 q39 q40 q41 q42 q43 q44 q45
  refine (rfcmp_r (R11.out.fr (v := .slice ax7 nx7 cx7) (u := .slice bx7 mx7 dx7) (r := RR) mq4 mq5 E7.out) (R11.out.fr (v := .slice ay4 ny4 cy4) (u := .slice by4 my4 dy4) (r := UP) mq10 mq11 D4.out) LR.out LU.out HK2.out).mono ?_
  rintro e w12 ⟨rfl, hb⟩
  have R12 := Lib.hid (R11.out.later hb)
  clear hb
  obtain ⟨q46, q47, q48, q49⟩ := Fb.cells4 (R12.out.box (w4.heap.size, 34, [.int .i64 sx4, .slice ax4 nx4 cx4, .int .i64 1, .slice bx4 mx4 dx4]) mq5)
  go_wp2_with fail
  clear q46 q47 q48 q49
  refine (qsign_r (R12.out.fr (v := .slice ax4 nx4 cx4) (u := .slice bx4 mx4 dx4) (r := LO) mq8 mq9 E4.out) LL.out HSG.out).mono ?_
  rintro e w13 ⟨rfl, hb⟩
  have R13 := Lib.hid (R12.out.later hb)
  clear hb
  obtain ⟨q50, q51, q52, q53⟩ := Fb.cells4 (R13.out.box (w9.heap.size, 34, [.int .i64 sx9, .slice ax9 nx9 cx9, .int .i64 1, .slice bx9 mx9 dx9]) mq0)
  obtain ⟨q54, q55, q56, q57⟩ := Fb.cells4 (R13.out.box (w6.heap.size, 34, [.int .i64 sx6, .slice ax6 nx6 cx6, .int .i64 1, .slice bx6 mx6 dx6]) mq3)
  go_wp2_with fail
  obtain ⟨sd, hsd⟩ : ∃ k, decide (DN = E) = k := ⟨_, rfl⟩
  have HSD := Lib.hid hsd
  clear hsd
  clear q50 q51 q52 q53 q54 q55 q56 q57
  refine (rfsame_k (R13.out.fr (v := .slice ax9 nx9 cx9) (u := .slice bx9 mx9 dx9) (r := DN) mq0 mq1 E9.out) (R13.out.fr (v := .slice ax6 nx6 cx6) (u := .slice bx6 mx6 dx6) (r := E) mq6 mq7 E6.out) HSD.out).mono ?_
  rintro e w14 ⟨rfl, hb⟩
  have R14 := Lib.hid (R13.out.later hb)
  clear hb
  cases sd
  case true =>
    go_wp2_with fail
    go_ret
    exact ⟨rfl, R14.out.below⟩
  case false =>
    obtain ⟨k3, hk3⟩ : ∃ k, cmpR DN E = k := ⟨_, rfl⟩
    have HK3 := Lib.hid hk3
    have e6 : LO = 0 ∧ DN < E := HE5.out.resolve_left (of_decide_eq_false HSD.out)
    have e7 : decide (k3 < 0) = true := by rw [← hk3]; exact cmp_lt0 e6.2
    obtain rfl : sg = 0 := by rw [← HSG.out, e6.1]; rfl
    clear hk3 e6
    obtain ⟨q58, q59, q60, q61⟩ := Fb.cells4 (R14.out.box (w4.heap.size, 34, [.int .i64 sx4, .slice ax4 nx4 cx4, .int .i64 1, .slice bx4 mx4 dx4]) mq5)
    go_wp2_with fail
    clear q58 q59 q60 q61
    refine (qsign_r (R14.out.fr (v := .slice ax4 nx4 cx4) (u := .slice bx4 mx4 dx4) (r := LO) mq8 mq9 E4.out) LL.out HSG.out).mono ?_
    rintro e w15 ⟨rfl, hb⟩
    have R15 := Lib.hid (R14.out.later hb)
    clear hb
    obtain ⟨q62, q63, q64, q65⟩ := Fb.cells4 (R15.out.box (w9.heap.size, 34, [.int .i64 sx9, .slice ax9 nx9 cx9, .int .i64 1, .slice bx9 mx9 dx9]) mq0)
    obtain ⟨q66, q67, q68, q69⟩ := Fb.cells4 (R15.out.box (w6.heap.size, 34, [.int .i64 sx6, .slice ax6 nx6 cx6, .int .i64 1, .slice bx6 mx6 dx6]) mq3)
    go_wp2_with fail
    clear q62 q63 q64 q65 q66 q67 q68 q69
    refine (rfcmp_r (R15.out.fr (v := .slice ax9 nx9 cx9) (u := .slice bx9 mx9 dx9) (r := DN) mq0 mq1 E9.out) (R15.out.fr (v := .slice ax6 nx6 cx6) (u := .slice bx6 mx6 dx6) (r := E) mq6 mq7 E6.out) LD.out LE.out HK3.out).mono ?_
    rintro e w16 ⟨rfl, hb⟩
    have R16 := Lib.hid (R15.out.later hb)
    clear hb
    go_wp2_with fail
    go_ret
    exact ⟨rfl, R16.out.below⟩

theorem holds_good {a a2 : Option Addr} {n cap m cap2 : Nat} {l : List Ct} {rl : List (Int × Int)} {s r d : Int} {w : World} (hc : Cs w a l) (hn : l.length = n) (hl : n ≤ 120) (hr : Rs w a2 rl) (hm : rl.length = m) (hl2 : m ≤ 60) : Calls Try.prog 4 #[.slice a n cap, .slice a2 m cap2, .int .i64 s, .int .i64 r, .int .i64 d] w (Gv (.bool true) w) := by
  rcases h1 : fB s d l with _ | _
  · exact holds_nf hc hn hl hr hm hl2 h1
  rcases h3 : decide (0 ≤ r) with _ | _
  · rcases h2 : recB s d rl with _ | _
    · exact holds_r0 hc hn hl hr hm hl2 h1 h2 h3
    · exact holds_reca hc hn hl hr hm hl2 h1 h2 h3
  rcases h4 : decide (r ≤ 1099511627776) with _ | _
  · rcases h2 : recB s d rl with _ | _
    · exact holds_r1 hc hn hl hr hm hl2 h1 h2 h3 h4
    · exact holds_recb hc hn hl hr hm hl2 h1 h2 h3 h4
  rcases h2 : recB s d rl with _ | _
  · exact holds_ok hc hn hl hr hm hl2 (found_c h1) h2 (by unfold inR; rw [h3, h4]; rfl)
  · exact holds_recc hc hn hl hr hm hl2 h1 h2 h3 h4

theorem holds_all {a a2 : Option Addr} {n cap m cap2 : Nat} {l : List Ct} {rl : List (Int × Int)} {s r d : Int} {w : World} (hc : n ≤ 1000000000 → Cs w a l) (hn : l.length = n) (hl : n ≤ 9223372036854775807) (hr : m ≤ 1000000000 → Rs w a2 rl) (hm : rl.length = m) (hl2 : m ≤ 9223372036854775807) : Calls Try.prog 4 #[.slice a n cap, .slice a2 m cap2, .int .i64 s, .int .i64 r, .int .i64 d] w (Gv (.bool true) w) := by
  rcases h : (decide ((n : Int) ≤ 120) && decide ((m : Int) ≤ 60)) with _ | _
  · exact holds_no hl hl2 h
  · simp only [Bool.and_eq_true, decide_eq_true_eq] at h
    exact holds_good (hc (by omega)) hn (by omega) (hr (by omega)) hm (by omega)
end Go.Proofs.Ytmhjejnkphdjpaa.Sc
