/- The law ScaleTells. -/
import Derived.Test.YtmhjejnkphdjpaaPB28
import Derived.OrdersHeld
import Derived.Test.YtmhjejnkphdjpaaPB29
import Derived.Test.YtmhjejnkphdjpaaLaw
import Derived.Test.YtmhjejnkphdjpaaRows
import Derived.ProofKit
set_option maxRecDepth 100000
namespace Go.Proofs.Ytmhjejnkphdjpaa.Sc
open Go.RowKit Bi

theorem rsame_d {D : RF} {w : World} {a1 b1 : Option Addr} {n1 c1 m1 d1 : Nat} {a2 b2 : Option Addr} {n2 c2 m2 d2 : Nat} (h1 : Ints w (.slice a1 n1 c1) D.l) (h2 : Ints w (.slice b1 m1 d1) D.k) (h3 : Ints w (.slice a2 n2 c2) D.l) (h4 : Ints w (.slice b2 m2 d2) D.k) :
    Calls Try.prog 16 #[.agg #[.int .i64 D.s, .slice a1 n1 c1, .int .i64 D.t, .slice b1 m1 d1], .agg #[.int .i64 D.s, .slice a2 n2 c2, .int .i64 D.t, .slice b2 m2 d2]] w (Gv (.bool true) w) := by
  have := rfsame_raw D.s a1 n1 c1 D.l D.t b1 m1 d1 D.k D.s a2 n2 c2 D.l D.t b2 m2 d2 D.k w h1 h2 h3 h4
  unfold Gv
  simpa using this

set_option maxHeartbeats 4000000 in
theorem tells_no {a a2 : Option Addr} {n cap m cap2 : Nat} {s r d : Int} {c : Ct} {w : World} (hn : n ≤ 9223372036854775807) (hm : m ≤ 9223372036854775807) (hno : (decide ((n : Int) ≤ 120) && decide ((m : Int) ≤ 60)) = false) : Calls Try.prog 3 #[.slice a n cap, .slice a2 m cap2, .int .i64 s, .int .i64 r, .int .i64 d, .agg #[.int .i64 c.sc, .int .i64 c.fr, .int .i64 c.un, .int .i64 c.ut, .int .i64 c.pm, .int .i64 c.dr]] w (Gv (.bool true) w) := by
  have HN := Lib.hid hn
  have HM := Lib.hid hm
  have HF := Lib.hid hno
  have s0 := ((Sf.start w).put [.int .i64 c.sc, .int .i64 c.fr, .int .i64 c.un, .int .i64 c.ut, .int .i64 c.pm, .int .i64 c.dr] 25)
  try simp only [World.size_alloc] at s0
  have S0 := Lib.hid s0
  clear s0
  clear hn hm hno
  go_enter Try.func3, Try.ntmps3
  go_wp2_with fail
  refine (sane_any).mono ?_
  rintro e w1 ⟨rfl, hb⟩
  have R1 := Lib.hid (S0.out.later hb)
  clear hb
  go_wp2_with fail
  refine (few_any HN.out HM.out HF.out).mono ?_
  rintro e w2 ⟨rfl, rfl⟩
  go_wp2_with fail
  go_ret
  exact ⟨rfl, R1.out.below⟩

set_option maxHeartbeats 32000000 in
theorem tells_good {a a2 : Option Addr} {n cap m cap2 : Nat} {l : List Ct} {rl : List (Int × Int)} {s r d : Int} {c : Ct} {w : World} (hc : Cs w a l) (hn : l.length = n) (hl : n ≤ 120) (hr : Rs w a2 rl) (hm : rl.length = m) (hl2 : m ≤ 60) : Calls Try.prog 3 #[.slice a n cap, .slice a2 m cap2, .int .i64 s, .int .i64 r, .int .i64 d, .agg #[.int .i64 c.sc, .int .i64 c.fr, .int .i64 c.un, .int .i64 c.ut, .int .i64 c.pm, .int .i64 c.dr]] w (Gv (.bool true) w) := by
  have HC := Lib.hid hc
  have HN := Lib.hid hn
  have HR := Lib.hid hr
  have HM := Lib.hid hm
  have HL : Hid (n ≤ 1000000) := Lib.hid (by omega)
  have HL2 : Hid (m ≤ 1000000) := Lib.hid (by omega)
  have HNB : Hid (n ≤ 9223372036854775807) := Lib.hid (by omega)
  have HMB : Hid (m ≤ 9223372036854775807) := Lib.hid (by omega)
  have HF : Hid ((decide ((n : Int) ≤ 120) && decide ((m : Int) ≤ 60)) = true) := Lib.hid (by simp; omega)
  obtain ⟨i, hfi⟩ : ∃ i, fI s d l = i := ⟨_, rfl⟩
  obtain ⟨fb, hfb⟩ : ∃ b, fB s d l = b := ⟨_, rfl⟩
  have HFZ : Hid (fb = true ∨ i = 0) := Lib.hid (by
    cases fb
    · exact .inr (by rw [← hfi]; exact not_found hfb)
    · exact .inl rfl)
  have HFI := Lib.hid hfi
  have HFB := Lib.hid hfb
  obtain ⟨DE, hde⟩ : ∃ D, errF c r d = D := ⟨_, rfl⟩
  obtain ⟨ke, hke⟩ : ∃ b, errB c r d = b := ⟨_, rfl⟩
  have HDE := Lib.hid hde
  have HKE := Lib.hid hke
  obtain ⟨D1, hd1⟩ : ∃ D, ivL s r d l rl = D := ⟨_, rfl⟩
  obtain ⟨D2, hd2⟩ : ∃ D, ivH s r d l rl = D := ⟨_, rfl⟩
  obtain ⟨kk, hdk⟩ : ∃ b, ivB s r d l rl = b := ⟨_, rfl⟩
  have HD1 := Lib.hid hd1
  have HD2 := Lib.hid hd2
  have HDK := Lib.hid hdk
  obtain ⟨ok, hok⟩ : ∃ b, c.ok = b := ⟨_, rfl⟩
  have HOK := Lib.hid hok
  obtain ⟨rb, hrb⟩ : ∃ b, recB s d rl = b := ⟨_, rfl⟩
  have HRB := Lib.hid hrb
  have e1 : ((i : Int) != (i : Int)) = false := by simp
  have e2 : (fb != fb) = false := by simp
  have e3 : (ke != ke) = false := by simp
  have e4 : (kk != kk) = false := by simp
  have e5 : (ok == ok) = true := by simp
  have e6 : (rb == rb) = true := by simp
  clear hfi hfb hde hke hd1 hd2 hdk hok hrb
  have s0 := ((Sf.start w).put [.int .i64 c.sc, .int .i64 c.fr, .int .i64 c.un, .int .i64 c.ut, .int .i64 c.pm, .int .i64 c.dr] 25)
  try simp only [World.size_alloc] at s0
  have S0 := Lib.hid s0
  clear s0
  clear hc hn hl hr hm hl2
  go_enter Try.func3, Try.ntmps3
  go_wp2_with fail
  refine (sane_any).mono ?_
  rintro e w1 ⟨rfl, hb⟩
  have R1 := Lib.hid (S0.out.later hb)
  clear hb
  go_wp2_with fail
  refine (few_any HNB.out HMB.out HF.out).mono ?_
  rintro e w2 ⟨rfl, rfl⟩
  go_wp2_with fail
  refine (find_any (HC.out.later R1.out.below) HN.out HL.out HFI.out HFB.out).mono ?_
  rintro e w3 ⟨rfl, hb⟩
  have R3 := Lib.hid (R1.out.later hb)
  clear hb
  go_wp2_with fail
  refine (rfind_any (HC.out.later R3.out.below) HN.out HL.out HFI.out HFB.out HFZ.out).mono ?_
  rintro e w4 ⟨rfl, hb⟩
  have R4 := Lib.hid (R3.out.later hb)
  clear hb
  obtain ⟨q1, q2, q3, q4, q5, q6⟩ := Fb.cells6 (R4.out.box (w.heap.size, 25, [.int .i64 c.sc, .int .i64 c.fr, .int .i64 c.un, .int .i64 c.ut, .int .i64 c.pm, .int .i64 c.dr]) mq0)
  go_wp2_with fail
  clear q1 q2 q3 q4 q5 q6
  refine (error_raw HDE.out HKE.out).mono ?_
  rintro e w5 ⟨av5, nv5, cv5, bv5, mv5, dv5, rfl, hi, hj, hb, hf, hg⟩
  have R5 := Lib.hid (R4.out.ret2 hb hi hf hj hg)
  have FF5 := Lib.hid (hf.mono R4.out.below.size)
  have FG5 := Lib.hid (hg.mono R4.out.below.size)
  clear hi hj hb hf hg
  have P7 := Lib.hid (R5.out.put [.int .i64 0, .slice none 0 0, .int .i64 0, .slice none 0 0] 34)
  have T7 := Lib.hid (Sf.row (pre := []) P7.out [.int .i64 DE.s, .slice av5 nv5 cv5, .int .i64 DE.t, .slice bv5 mv5 dv5])
  obtain ⟨V7, hV7⟩ : ∃ V, ((w5.alloc (.cells #[.int .i64 0, .slice none 0 0, .int .i64 0, .slice none 0 0] 34)).setRow w5.heap.size #[.int .i64 DE.s, .slice av5 nv5 cv5, .int .i64 DE.t, .slice bv5 mv5 dv5]) = V := ⟨_, rfl⟩
  have T7 : Hid (Sf w ([] ++ (w5.heap.size, 34, [.int .i64 DE.s, .slice av5 nv5 cv5, .int .i64 DE.t, .slice bv5 mv5 dv5]) :: [(w.heap.size, 25, [.int .i64 c.sc, .int .i64 c.fr, .int .i64 c.un, .int .i64 c.ut, .int .i64 c.pm, .int .i64 c.dr])]) _ V7) := Lib.hid (by have := T7.out; rw [← hV7]; exact this)
  have HV7 := Lib.hid hV7
  clear hV7
  obtain ⟨q8, q9, q10, q11, q12, q13⟩ := Fb.cells6 (T7.out.box (w.heap.size, 25, [.int .i64 c.sc, .int .i64 c.fr, .int .i64 c.un, .int .i64 c.ut, .int .i64 c.pm, .int .i64 c.dr]) mq1)
  go_wp2_with (first | (refine wpList_store_row rfl _ _ _ rfl _ #[.int .i64 DE.s, .slice av5 nv5 cv5, .int .i64 DE.t, .slice bv5 mv5 dv5] rfl rfl _ _ (P7.out.box _ mq0) (by kernel_rfl) rfl (by simp [Value.oneCell']) ?_; rw [HV7.out]))
  clear q8 q9 q10 q11 q12 q13
  refine (rerror_raw HDE.out HKE.out).mono ?_
  rintro e w6 ⟨av6, nv6, cv6, bv6, mv6, dv6, rfl, hi, hj, hb, hf, hg⟩
  have R6 := Lib.hid (T7.out.ret2 hb hi hf hj hg)
  have FF6 := Lib.hid (hf.mono T7.out.below.size)
  have FG6 := Lib.hid (hg.mono T7.out.below.size)
  clear hi hj hb hf hg
  have P14 := Lib.hid (R6.out.put [.int .i64 0, .slice none 0 0, .int .i64 0, .slice none 0 0] 34)
  have T14 := Lib.hid (Sf.row (pre := []) P14.out [.int .i64 DE.s, .slice av6 nv6 cv6, .int .i64 DE.t, .slice bv6 mv6 dv6])
  obtain ⟨V14, hV14⟩ : ∃ V, ((w6.alloc (.cells #[.int .i64 0, .slice none 0 0, .int .i64 0, .slice none 0 0] 34)).setRow w6.heap.size #[.int .i64 DE.s, .slice av6 nv6 cv6, .int .i64 DE.t, .slice bv6 mv6 dv6]) = V := ⟨_, rfl⟩
  have T14 : Hid (Sf w ([] ++ (w6.heap.size, 34, [.int .i64 DE.s, .slice av6 nv6 cv6, .int .i64 DE.t, .slice bv6 mv6 dv6]) :: [(w5.heap.size, 34, [.int .i64 DE.s, .slice av5 nv5 cv5, .int .i64 DE.t, .slice bv5 mv5 dv5]), (w.heap.size, 25, [.int .i64 c.sc, .int .i64 c.fr, .int .i64 c.un, .int .i64 c.ut, .int .i64 c.pm, .int .i64 c.dr])]) _ V14) := Lib.hid (by have := T14.out; rw [← hV14]; exact this)
  have HV14 := Lib.hid hV14
  clear hV14
  go_wp2_with (first | (refine wpList_store_row rfl _ _ _ rfl _ #[.int .i64 DE.s, .slice av6 nv6 cv6, .int .i64 DE.t, .slice bv6 mv6 dv6] rfl rfl _ _ (P14.out.box _ mq0) (by kernel_rfl) rfl (by simp [Value.oneCell']) ?_; rw [HV14.out]))
  refine (ivl_raw (HC.out.later T14.out.below) HN.out HL.out (HR.out.later T14.out.below) HM.out HL2.out HD1.out HD2.out HDK.out).mono ?_
  rintro e w7 ⟨av7, nv7, cv7, bv7, mv7, dv7, az7, nz7, cz7, bz7, mz7, dz7, rfl, hi, hj, hp, hq, hb, h1, h2, h3, h4⟩
  have R7 := Lib.hid (Sf.ret4 T14.out hb hi h1 hj h2 hp h3 hq h4)
  clear hi hj hp hq hb h1 h2 h3 h4
  have p15 := (R7.out.put [.int .i64 0, .slice none 0 0, .int .i64 0, .slice none 0 0] 34).put [.int .i64 0, .slice none 0 0, .int .i64 0, .slice none 0 0] 34
  try simp only [World.size_alloc] at p15
  have P15 := Lib.hid p15
  clear p15
  have Q15 := Lib.hid (Sf.row (pre := [(w7.heap.size + 1, 34, [.int .i64 0, .slice none 0 0, .int .i64 0, .slice none 0 0])]) P15.out [.int .i64 D1.s, .slice av7 nv7 cv7, .int .i64 D1.t, .slice bv7 mv7 dv7])
  have T15 := Lib.hid (Sf.row (pre := []) Q15.out [.int .i64 D2.s, .slice az7 nz7 cz7, .int .i64 D2.t, .slice bz7 mz7 dz7])
  obtain ⟨V15, hV15⟩ : ∃ V, ((((w7.alloc (.cells #[.int .i64 0, .slice none 0 0, .int .i64 0, .slice none 0 0] 34)).alloc (.cells #[.int .i64 0, .slice none 0 0, .int .i64 0, .slice none 0 0] 34)).setRow (w7.heap.size) #[.int .i64 D1.s, .slice av7 nv7 cv7, .int .i64 D1.t, .slice bv7 mv7 dv7]).setRow (w7.heap.size + 1) #[.int .i64 D2.s, .slice az7 nz7 cz7, .int .i64 D2.t, .slice bz7 mz7 dz7]) = V := ⟨_, rfl⟩
  have T15 : Hid (Sf w ([] ++ (w7.heap.size + 1, 34, [.int .i64 D2.s, .slice az7 nz7 cz7, .int .i64 D2.t, .slice bz7 mz7 dz7]) :: (w7.heap.size, 34, [.int .i64 D1.s, .slice av7 nv7 cv7, .int .i64 D1.t, .slice bv7 mv7 dv7]) :: [(w6.heap.size, 34, [.int .i64 DE.s, .slice av6 nv6 cv6, .int .i64 DE.t, .slice bv6 mv6 dv6]), (w5.heap.size, 34, [.int .i64 DE.s, .slice av5 nv5 cv5, .int .i64 DE.t, .slice bv5 mv5 dv5]), (w.heap.size, 25, [.int .i64 c.sc, .int .i64 c.fr, .int .i64 c.un, .int .i64 c.ut, .int .i64 c.pm, .int .i64 c.dr])]) _ V15) := Lib.hid (by have := T15.out; rw [← hV15]; exact this)
  have HV15 := Lib.hid hV15
  clear hV15
  go_wp2_with (first | (refine wpList_store_row rfl _ _ _ rfl _ #[.int .i64 D2.s, .slice az7 nz7 cz7, .int .i64 D2.t, .slice bz7 mz7 dz7] rfl rfl _ _ (Q15.out.box _ mq0) (by kernel_rfl) rfl (by simp [Value.oneCell']) ?_; rw [HV15.out]) | refine wpList_store_row rfl _ _ _ rfl _ #[.int .i64 D1.s, .slice av7 nv7 cv7, .int .i64 D1.t, .slice bv7 mv7 dv7] rfl rfl _ _ (P15.out.box _ mq1) (by kernel_rfl) rfl (by simp [Value.oneCell']) ?_)
  refine (rivl_raw (HC.out.later T15.out.below) HN.out HL.out (HR.out.later T15.out.below) HM.out HL2.out HD1.out HD2.out HDK.out).mono ?_
  rintro e w8 ⟨av8, nv8, cv8, bv8, mv8, dv8, az8, nz8, cz8, bz8, mz8, dz8, rfl, hi, hj, hp, hq, hb, h1, h2, h3, h4⟩
  have R8 := Lib.hid (Sf.ret4 T15.out hb hi h1 hj h2 hp h3 hq h4)
  clear hi hj hp hq hb h1 h2 h3 h4
  have p16 := (R8.out.put [.int .i64 0, .slice none 0 0, .int .i64 0, .slice none 0 0] 34).put [.int .i64 0, .slice none 0 0, .int .i64 0, .slice none 0 0] 34
  try simp only [World.size_alloc] at p16
  have P16 := Lib.hid p16
  clear p16
  have Q16 := Lib.hid (Sf.row (pre := [(w8.heap.size + 1, 34, [.int .i64 0, .slice none 0 0, .int .i64 0, .slice none 0 0])]) P16.out [.int .i64 D1.s, .slice av8 nv8 cv8, .int .i64 D1.t, .slice bv8 mv8 dv8])
  have T16 := Lib.hid (Sf.row (pre := []) Q16.out [.int .i64 D2.s, .slice az8 nz8 cz8, .int .i64 D2.t, .slice bz8 mz8 dz8])
  obtain ⟨V16, hV16⟩ : ∃ V, ((((w8.alloc (.cells #[.int .i64 0, .slice none 0 0, .int .i64 0, .slice none 0 0] 34)).alloc (.cells #[.int .i64 0, .slice none 0 0, .int .i64 0, .slice none 0 0] 34)).setRow (w8.heap.size) #[.int .i64 D1.s, .slice av8 nv8 cv8, .int .i64 D1.t, .slice bv8 mv8 dv8]).setRow (w8.heap.size + 1) #[.int .i64 D2.s, .slice az8 nz8 cz8, .int .i64 D2.t, .slice bz8 mz8 dz8]) = V := ⟨_, rfl⟩
  have T16 : Hid (Sf w ([] ++ (w8.heap.size + 1, 34, [.int .i64 D2.s, .slice az8 nz8 cz8, .int .i64 D2.t, .slice bz8 mz8 dz8]) :: (w8.heap.size, 34, [.int .i64 D1.s, .slice av8 nv8 cv8, .int .i64 D1.t, .slice bv8 mv8 dv8]) :: [(w7.heap.size + 1, 34, [.int .i64 D2.s, .slice az7 nz7 cz7, .int .i64 D2.t, .slice bz7 mz7 dz7]), (w7.heap.size, 34, [.int .i64 D1.s, .slice av7 nv7 cv7, .int .i64 D1.t, .slice bv7 mv7 dv7]), (w6.heap.size, 34, [.int .i64 DE.s, .slice av6 nv6 cv6, .int .i64 DE.t, .slice bv6 mv6 dv6]), (w5.heap.size, 34, [.int .i64 DE.s, .slice av5 nv5 cv5, .int .i64 DE.t, .slice bv5 mv5 dv5]), (w.heap.size, 25, [.int .i64 c.sc, .int .i64 c.fr, .int .i64 c.un, .int .i64 c.ut, .int .i64 c.pm, .int .i64 c.dr])]) _ V16) := Lib.hid (by have := T16.out; rw [← hV16]; exact this)
  have HV16 := Lib.hid hV16
  clear hV16
  obtain ⟨q17, q18, q19, q20⟩ := Fb.cells4 (T16.out.box (w6.heap.size, 34, [.int .i64 DE.s, .slice av6 nv6 cv6, .int .i64 DE.t, .slice bv6 mv6 dv6]) mq4)
  obtain ⟨q21, q22, q23, q24⟩ := Fb.cells4 (T16.out.box (w5.heap.size, 34, [.int .i64 DE.s, .slice av5 nv5 cv5, .int .i64 DE.t, .slice bv5 mv5 dv5]) mq5)
  go_wp2_with (first | (refine wpList_store_row rfl _ _ _ rfl _ #[.int .i64 D2.s, .slice az8 nz8 cz8, .int .i64 D2.t, .slice bz8 mz8 dz8] rfl rfl _ _ (Q16.out.box _ mq0) (by kernel_rfl) rfl (by simp [Value.oneCell']) ?_; rw [HV16.out]) | refine wpList_store_row rfl _ _ _ rfl _ #[.int .i64 D1.s, .slice av8 nv8 cv8, .int .i64 D1.t, .slice bv8 mv8 dv8] rfl rfl _ _ (P16.out.box _ mq1) (by kernel_rfl) rfl (by simp [Value.oneCell']) ?_)
  clear q17 q18 q19 q20 q21 q22 q23 q24
  refine (rsame_d (T16.out.ints (.slice av5 nv5 cv5, DE.l) mq10) (T16.out.ints (.slice bv5 mv5 dv5, DE.k) mq11) (T16.out.ints (.slice av6 nv6 cv6, DE.l) mq8) (T16.out.ints (.slice bv6 mv6 dv6, DE.k) mq9)).mono ?_
  rintro e w9 ⟨rfl, hb⟩
  have R9 := Lib.hid (T16.out.later hb)
  clear hb
  obtain ⟨q25, q26, q27, q28⟩ := Fb.cells4 (R9.out.box (w8.heap.size, 34, [.int .i64 D1.s, .slice av8 nv8 cv8, .int .i64 D1.t, .slice bv8 mv8 dv8]) mq1)
  obtain ⟨q29, q30, q31, q32⟩ := Fb.cells4 (R9.out.box (w7.heap.size, 34, [.int .i64 D1.s, .slice av7 nv7 cv7, .int .i64 D1.t, .slice bv7 mv7 dv7]) mq3)
  go_wp2_with fail
  clear q25 q26 q27 q28 q29 q30 q31 q32
  refine (rsame_d (R9.out.ints (.slice av7 nv7 cv7, D1.l) mq4) (R9.out.ints (.slice bv7 mv7 dv7, D1.k) mq5) (R9.out.ints (.slice av8 nv8 cv8, D1.l) mq0) (R9.out.ints (.slice bv8 mv8 dv8, D1.k) mq1)).mono ?_
  rintro e w10 ⟨rfl, hb⟩
  have R10 := Lib.hid (R9.out.later hb)
  clear hb
  obtain ⟨q33, q34, q35, q36⟩ := Fb.cells4 (R10.out.box (w8.heap.size + 1, 34, [.int .i64 D2.s, .slice az8 nz8 cz8, .int .i64 D2.t, .slice bz8 mz8 dz8]) mq0)
  obtain ⟨q37, q38, q39, q40⟩ := Fb.cells4 (R10.out.box (w7.heap.size + 1, 34, [.int .i64 D2.s, .slice az7 nz7 cz7, .int .i64 D2.t, .slice bz7 mz7 dz7]) mq2)
  go_wp2_with fail
  clear q33 q34 q35 q36 q37 q38 q39 q40
  refine (rsame_d (R10.out.ints (.slice az7 nz7 cz7, D2.l) mq6) (R10.out.ints (.slice bz7 mz7 dz7, D2.k) mq7) (R10.out.ints (.slice az8 nz8 cz8, D2.l) mq2) (R10.out.ints (.slice bz8 mz8 dz8, D2.k) mq3)).mono ?_
  rintro e w11 ⟨rfl, hb⟩
  have R11 := Lib.hid (R10.out.later hb)
  clear hb
  go_upto_region 12 with fail
  go_cut [12] from 118 to 136 (fun u wx => u = .bool true ∧ Hid (Sf w [(w8.heap.size + 1, 34, [.int .i64 D2.s, .slice az8 nz8 cz8, .int .i64 D2.t, .slice bz8 mz8 dz8]), (w8.heap.size, 34, [.int .i64 D1.s, .slice av8 nv8 cv8, .int .i64 D1.t, .slice bv8 mv8 dv8]), (w7.heap.size + 1, 34, [.int .i64 D2.s, .slice az7 nz7 cz7, .int .i64 D2.t, .slice bz7 mz7 dz7]), (w7.heap.size, 34, [.int .i64 D1.s, .slice av7 nv7 cv7, .int .i64 D1.t, .slice bv7 mv7 dv7]), (w6.heap.size, 34, [.int .i64 DE.s, .slice av6 nv6 cv6, .int .i64 DE.t, .slice bv6 mv6 dv6]), (w5.heap.size, 34, [.int .i64 DE.s, .slice av5 nv5 cv5, .int .i64 DE.t, .slice bv5 mv5 dv5]), (w.heap.size, 25, [.int .i64 c.sc, .int .i64 c.fr, .int .i64 c.un, .int .i64 c.ut, .int .i64 c.pm, .int .i64 c.dr])] [(.slice av8 nv8 cv8, D1.l), (.slice bv8 mv8 dv8, D1.k), (.slice az8 nz8 cz8, D2.l), (.slice bz8 mz8 dz8, D2.k), (.slice av7 nv7 cv7, D1.l), (.slice bv7 mv7 dv7, D1.k), (.slice az7 nz7 cz7, D2.l), (.slice bz7 mz7 dz7, D2.k), (.slice av6 nv6 cv6, DE.l), (.slice bv6 mv6 dv6, DE.k), (.slice av5 nv5 cv5, DE.l), (.slice bv5 mv5 dv5, DE.k)] wx))
  case first =>
    have K0 : ∀ W F, Sf w [(w8.heap.size + 1, 34, [.int .i64 D2.s, .slice az8 nz8 cz8, .int .i64 D2.t, .slice bz8 mz8 dz8]), (w8.heap.size, 34, [.int .i64 D1.s, .slice av8 nv8 cv8, .int .i64 D1.t, .slice bv8 mv8 dv8]), (w7.heap.size + 1, 34, [.int .i64 D2.s, .slice az7 nz7 cz7, .int .i64 D2.t, .slice bz7 mz7 dz7]), (w7.heap.size, 34, [.int .i64 D1.s, .slice av7 nv7 cv7, .int .i64 D1.t, .slice bv7 mv7 dv7]), (w6.heap.size, 34, [.int .i64 DE.s, .slice av6 nv6 cv6, .int .i64 DE.t, .slice bv6 mv6 dv6]), (w5.heap.size, 34, [.int .i64 DE.s, .slice av5 nv5 cv5, .int .i64 DE.t, .slice bv5 mv5 dv5]), (w.heap.size, 25, [.int .i64 c.sc, .int .i64 c.fr, .int .i64 c.un, .int .i64 c.ut, .int .i64 c.pm, .int .i64 c.dr])] F W → W.cell? ⟨w.heap.size, 0, none⟩ = some (.int .i64 c.sc) ∧ W.cell? ⟨w.heap.size, 1, none⟩ = some (.int .i64 c.fr) ∧ W.cell? ⟨w.heap.size, 2, none⟩ = some (.int .i64 c.un) ∧ W.cell? ⟨w.heap.size, 3, none⟩ = some (.int .i64 c.ut) ∧ W.cell? ⟨w.heap.size, 4, none⟩ = some (.int .i64 c.pm) ∧ W.cell? ⟨w.heap.size, 5, none⟩ = some (.int .i64 c.dr) := fun W F h => ⟨(h.box (w.heap.size, 25, [.int .i64 c.sc, .int .i64 c.fr, .int .i64 c.un, .int .i64 c.ut, .int .i64 c.pm, .int .i64 c.dr]) mq6).cell 0, (h.box (w.heap.size, 25, [.int .i64 c.sc, .int .i64 c.fr, .int .i64 c.un, .int .i64 c.ut, .int .i64 c.pm, .int .i64 c.dr]) mq6).cell 1, (h.box (w.heap.size, 25, [.int .i64 c.sc, .int .i64 c.fr, .int .i64 c.un, .int .i64 c.ut, .int .i64 c.pm, .int .i64 c.dr]) mq6).cell 2, (h.box (w.heap.size, 25, [.int .i64 c.sc, .int .i64 c.fr, .int .i64 c.un, .int .i64 c.ut, .int .i64 c.pm, .int .i64 c.dr]) mq6).cell 3, (h.box (w.heap.size, 25, [.int .i64 c.sc, .int .i64 c.fr, .int .i64 c.un, .int .i64 c.ut, .int .i64 c.pm, .int .i64 c.dr]) mq6).cell 4, (h.box (w.heap.size, 25, [.int .i64 c.sc, .int .i64 c.fr, .int .i64 c.un, .int .i64 c.ut, .int .i64 c.pm, .int .i64 c.dr]) mq6).cell 5⟩
    have KK := Lib.hid K0
    clear K0
    have N0 := Lib.hid R11.out.drew
    clear R11
    have e0 := KK.out _ _ N0.out
    go_region_held3 (fun W => W.cell? ⟨w.heap.size, 0, none⟩ = some (.int .i64 c.sc) ∧ W.cell? ⟨w.heap.size, 1, none⟩ = some (.int .i64 c.fr) ∧ W.cell? ⟨w.heap.size, 2, none⟩ = some (.int .i64 c.un) ∧ W.cell? ⟨w.heap.size, 3, none⟩ = some (.int .i64 c.ut) ∧ W.cell? ⟨w.heap.size, 4, none⟩ = some (.int .i64 c.pm) ∧ W.cell? ⟨w.heap.size, 5, none⟩ = some (.int .i64 c.dr))
      (first | (with_reducible exact e0) | (with_reducible exact e1) | (with_reducible exact e2) | (with_reducible exact e3) | (with_reducible exact e4))
      (((first | go_at_call 20 | go_at_call 18 | go_at_call 19 | go_at_call 17 | (rw [if_pos (by rfl)]; go_simp) | skip); (first
          | (have hG := N3; clear hG; go_at_call 20; (with_reducible refine (PN3_1.out).mono ?_); rintro e y12_3 ⟨rfl, hb⟩; have N4 := Lib.hid (N3.out.later hb); clear hb; have e4 := KK.out _ _ N4.out)
          | (have hG := N2; clear hG; go_at_call 19; (with_reducible refine (PN2_1.out).mono ?_); rintro e y12_2 ⟨rfl, hb⟩; have N3 := Lib.hid (N2.out.later hb); clear hb; have e3 := KK.out _ _ N3.out; have PN3_1 := Lib.hid (rrecalled_any (cap := cap2) (HR.out.later N3.out.below) HM.out HL2.out HRB.out))
          | (have hG := N1; clear hG; go_at_call 18; (with_reducible refine (rright_any HOK.out).mono ?_); rintro e y12_1 ⟨rfl, hb⟩; have N2 := Lib.hid (N1.out.later hb); clear hb; have e2 := KK.out _ _ N2.out; have PN2_1 := Lib.hid (recalled_any (cap := cap2) (HR.out.later N2.out.below) HM.out HL2.out HRB.out))
          | (have hG := N0; clear hG; go_at_call 17; (with_reducible refine (right_any HOK.out).mono ?_); rintro e y12_0 ⟨rfl, hb⟩; have N1 := Lib.hid (N0.out.later hb); clear hb; have e1 := KK.out _ _ N1.out)); (try dsimp only)))
    all_goals (go_wp2_with fail; go_meet; exact ⟨rfl, Lib.hid (Sf.facts N4.out (by simp))⟩)
  case rest =>
  obtain ⟨rfl, hq⟩ := hcut
  obtain ⟨w12, rfl⟩ : ∃ W, W = wc := ⟨_, rfl⟩
  have R12 := Lib.hid hq.out
  clear hq R11
  go_wp2_with fail
  go_ret
  exact ⟨rfl, R12.out.below⟩

theorem tells_all {a a2 : Option Addr} {n cap m cap2 : Nat} {l : List Ct} {rl : List (Int × Int)} {s r d : Int} {c : Ct} {w : World} (hc : n ≤ 1000000000 → Cs w a l) (hn : l.length = n) (hl : n ≤ 9223372036854775807) (hr : m ≤ 1000000000 → Rs w a2 rl) (hm : rl.length = m) (hl2 : m ≤ 9223372036854775807) : Calls Try.prog 3 #[.slice a n cap, .slice a2 m cap2, .int .i64 s, .int .i64 r, .int .i64 d, .agg #[.int .i64 c.sc, .int .i64 c.fr, .int .i64 c.un, .int .i64 c.ut, .int .i64 c.pm, .int .i64 c.dr]] w (Gv (.bool true) w) := by
  rcases h : (decide ((n : Int) ≤ 120) && decide ((m : Int) ≤ 60)) with _ | _
  · exact tells_no hl hl2 h
  · simp only [Bool.and_eq_true, decide_eq_true_eq] at h
    exact tells_good (hc (by omega)) hn (by omega) (hr (by omega)) hm (by omega)
end Go.Proofs.Ytmhjejnkphdjpaa.Sc
