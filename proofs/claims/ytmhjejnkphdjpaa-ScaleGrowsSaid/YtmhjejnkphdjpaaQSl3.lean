/- The law ScaleGrows. -/
import Derived.Test.YtmhjejnkphdjpaaPA28
import Derived.Test.YtmhjejnkphdjpaaPA29
import Derived.Test.YtmhjejnkphdjpaaLaw
import Derived.Test.YtmhjejnkphdjpaaRows
import Derived.ProofKit
import Derived.Test.YtmhjejnkphdjpaaQSl2
set_option maxRecDepth 100000
namespace Go.Proofs.Ytmhjejnkphdjpaa.Sc
open Go.RowKit Bi

theorem qint_t {z : Int} {w W : World} {L : List FBox} {F : List (Value × List Int)} {r : Rat} (_h : Sf w L F W) (hz : -9223372036854775808 ≤ z ∧ z ≤ 9223372036854775807) (h : (z : Rat) = r) : Calls Try.prog 21 #[.int .i64 z] W (FV r W) := qint_r hz h W

set_option maxHeartbeats 4000000 in
theorem grows_no {a a2 : Option Addr} {n cap m cap2 : Nat} {s r q d t : Int} {w : World} (hn : n ≤ 9223372036854775807) (hm : m ≤ 9223372036854775807) (hno : (decide ((n : Int) ≤ 120) && decide ((m : Int) ≤ 60)) = false) : Calls Try.prog 5 #[.slice a n cap, .slice a2 m cap2, .int .i64 s, .int .i64 r, .int .i64 q, .int .i64 d, .int .i64 t] w (Gv (.bool true) w) := by
  have HN := Lib.hid hn
  have HM := Lib.hid hm
  have HF := Lib.hid hno
  have s0 := (Sf.start w)
  try simp only [World.size_alloc] at s0
  have S0 := Lib.hid s0
  clear s0
  clear hn hm hno
  go_enter Try.func5, Try.ntmps5
  go_wp2_with fail
  refine (sane_any).mono ?_
  rintro e w1 ⟨rfl, hb⟩
  have R1 := Lib.hid (S0.out.later hb)
  clear hb
  go_wp2_with fail
  refine (few_any HN.out HM.out HF.out).mono ?_
  rintro e w2 ⟨rfl, rfl⟩
  go_wp2_with fail
  go_ret
  exact ⟨rfl, R1.out.below⟩

set_option maxHeartbeats 4000000 in
theorem grows_m {a a2 : Option Addr} {n cap m cap2 : Nat} {l : List Ct} {rl : List (Int × Int)} {s r q d t : Int} {w : World} (hc : Cs w a l) (hn : l.length = n) (hl : n ≤ 120) (hr : Rs w a2 rl) (hm : rl.length = m) (hl2 : m ≤ 60) (hq : decide (q < r) = true) : Calls Try.prog 5 #[.slice a n cap, .slice a2 m cap2, .int .i64 s, .int .i64 r, .int .i64 q, .int .i64 d, .int .i64 t] w (Gv (.bool true) w) := by
  have HC := Lib.hid hc
  have HN := Lib.hid hn
  have HR := Lib.hid hr
  have HM := Lib.hid hm
  have HL : Hid (n ≤ 1000000) := Lib.hid (by omega)
  have HL2 : Hid (m ≤ 1000000) := Lib.hid (by omega)
  have HNB : Hid (n ≤ 9223372036854775807) := Lib.hid (by omega)
  have HMB : Hid (m ≤ 9223372036854775807) := Lib.hid (by omega)
  have HF : Hid ((decide ((n : Int) ≤ 120) && decide ((m : Int) ≤ 60)) = true) := Lib.hid (by simp; omega)
  have s0 := (Sf.start w)
  try simp only [World.size_alloc] at s0
  have S0 := Lib.hid s0
  clear s0
  clear hc hn hl hr hm hl2
  go_enter Try.func5, Try.ntmps5
  go_wp2_with fail
  refine (sane_any).mono ?_
  rintro e w1 ⟨rfl, hb⟩
  have R1 := Lib.hid (S0.out.later hb)
  clear hb
  go_wp2_with fail
  refine (few_any HNB.out HMB.out HF.out).mono ?_
  rintro e w2 ⟨rfl, rfl⟩
  go_wp2_with fail
  go_ret
  exact ⟨rfl, R1.out.below⟩

set_option maxHeartbeats 8000000 in
theorem grows_n1 {a a2 : Option Addr} {n cap m cap2 : Nat} {l : List Ct} {rl : List (Int × Int)} {s r q d t : Int} {w : World} (hc : Cs w a l) (hn : l.length = n) (hl : n ≤ 120) (hr : Rs w a2 rl) (hm : rl.length = m) (hl2 : m ≤ 60) (hq : decide (q < r) = false) (h1 : ivB s r d l rl = false) : Calls Try.prog 5 #[.slice a n cap, .slice a2 m cap2, .int .i64 s, .int .i64 r, .int .i64 q, .int .i64 d, .int .i64 t] w (Gv (.bool true) w) := by
  have HC := Lib.hid hc
  have HN := Lib.hid hn
  have HR := Lib.hid hr
  have HM := Lib.hid hm
  have HL : Hid (n ≤ 1000000) := Lib.hid (by omega)
  have HL2 : Hid (m ≤ 1000000) := Lib.hid (by omega)
  have HNB : Hid (n ≤ 9223372036854775807) := Lib.hid (by omega)
  have HMB : Hid (m ≤ 9223372036854775807) := Lib.hid (by omega)
  have HF : Hid ((decide ((n : Int) ≤ 120) && decide ((m : Int) ≤ 60)) = true) := Lib.hid (by simp; omega)
  obtain ⟨D1, hd1⟩ : ∃ D, ivL s r d l rl = D := ⟨_, rfl⟩
  obtain ⟨D2, hd2⟩ : ∃ D, ivH s r d l rl = D := ⟨_, rfl⟩
  obtain ⟨D3, hd3⟩ : ∃ D, ivL s q d l rl = D := ⟨_, rfl⟩
  obtain ⟨D4, hd4⟩ : ∃ D, ivH s q d l rl = D := ⟨_, rfl⟩
  have HD1 := Lib.hid hd1
  have HD2 := Lib.hid hd2
  have HD3 := Lib.hid hd3
  have HD4 := Lib.hid hd4
  have HDK := Lib.hid h1
  obtain ⟨k2, h2⟩ : ∃ k, ivB s q d l rl = k := ⟨_, rfl⟩
  have HDJ := Lib.hid h2
  clear hd1 hd2 hd3 hd4 h1 h2
  have s0 := (Sf.start w)
  try simp only [World.size_alloc] at s0
  have S0 := Lib.hid s0
  clear s0
  clear hc hn hl hr hm hl2
  go_enter Try.func5, Try.ntmps5
  go_wp2_with fail
  refine (sane_any).mono ?_
  rintro e w1 ⟨rfl, hb⟩
  have R1 := Lib.hid (S0.out.later hb)
  clear hb
  go_wp2_with fail
  refine (few_any HNB.out HMB.out HF.out).mono ?_
  rintro e w2 ⟨rfl, rfl⟩
  go_wp2_with fail
  refine (ivl_raw (HC.out.later R1.out.below) HN.out HL.out (HR.out.later R1.out.below) HM.out HL2.out HD1.out HD2.out HDK.out).mono ?_
  rintro e w3 ⟨av3, nv3, cv3, bv3, mv3, dv3, az3, nz3, cz3, bz3, mz3, dz3, rfl, hi, hj, hp, hq, hb, h1, h2, h3, h4⟩
  have R3 := Lib.hid (Sf.ret4 R1.out hb hi h1 hj h2 hp h3 hq h4)
  clear hi hj hp hq hb h1 h2 h3 h4
  have p1 := (R3.out.put [.int .i64 0, .slice none 0 0, .int .i64 0, .slice none 0 0] 34).put [.int .i64 0, .slice none 0 0, .int .i64 0, .slice none 0 0] 34
  try simp only [World.size_alloc] at p1
  have P1 := Lib.hid p1
  clear p1
  have Q1 := Lib.hid (Sf.row (pre := [(w3.heap.size + 1, 34, [.int .i64 0, .slice none 0 0, .int .i64 0, .slice none 0 0])]) P1.out [.int .i64 D1.s, .slice av3 nv3 cv3, .int .i64 D1.t, .slice bv3 mv3 dv3])
  have T1 := Lib.hid (Sf.row (pre := []) Q1.out [.int .i64 D2.s, .slice az3 nz3 cz3, .int .i64 D2.t, .slice bz3 mz3 dz3])
  obtain ⟨V1, hV1⟩ : ∃ V, ((((w3.alloc (.cells #[.int .i64 0, .slice none 0 0, .int .i64 0, .slice none 0 0] 34)).alloc (.cells #[.int .i64 0, .slice none 0 0, .int .i64 0, .slice none 0 0] 34)).setRow (w3.heap.size) #[.int .i64 D1.s, .slice av3 nv3 cv3, .int .i64 D1.t, .slice bv3 mv3 dv3]).setRow (w3.heap.size + 1) #[.int .i64 D2.s, .slice az3 nz3 cz3, .int .i64 D2.t, .slice bz3 mz3 dz3]) = V := ⟨_, rfl⟩
  have T1 : Hid (Sf w ([] ++ (w3.heap.size + 1, 34, [.int .i64 D2.s, .slice az3 nz3 cz3, .int .i64 D2.t, .slice bz3 mz3 dz3]) :: (w3.heap.size, 34, [.int .i64 D1.s, .slice av3 nv3 cv3, .int .i64 D1.t, .slice bv3 mv3 dv3]) :: []) _ V1) := Lib.hid (by have := T1.out; rw [← hV1]; exact this)
  have HV1 := Lib.hid hV1
  clear hV1
  go_wp2_with (first | (refine wpList_store_row rfl _ _ _ rfl _ #[.int .i64 D2.s, .slice az3 nz3 cz3, .int .i64 D2.t, .slice bz3 mz3 dz3] rfl rfl _ _ (Q1.out.box _ mq0) (by kernel_rfl) rfl (by simp [Value.oneCell']) ?_; rw [HV1.out]) | refine wpList_store_row rfl _ _ _ rfl _ #[.int .i64 D1.s, .slice av3 nv3 cv3, .int .i64 D1.t, .slice bv3 mv3 dv3] rfl rfl _ _ (P1.out.box _ mq1) (by kernel_rfl) rfl (by simp [Value.oneCell']) ?_)
  refine (ivl_raw (HC.out.later T1.out.below) HN.out HL.out (HR.out.later T1.out.below) HM.out HL2.out HD3.out HD4.out HDJ.out).mono ?_
  rintro e w4 ⟨av4, nv4, cv4, bv4, mv4, dv4, az4, nz4, cz4, bz4, mz4, dz4, rfl, hi, hj, hp, hq, hb, h1, h2, h3, h4⟩
  have R4 := Lib.hid (Sf.ret4 T1.out hb hi h1 hj h2 hp h3 hq h4)
  clear hi hj hp hq hb h1 h2 h3 h4
  have p2 := (R4.out.put [.int .i64 0, .slice none 0 0, .int .i64 0, .slice none 0 0] 34).put [.int .i64 0, .slice none 0 0, .int .i64 0, .slice none 0 0] 34
  try simp only [World.size_alloc] at p2
  have P2 := Lib.hid p2
  clear p2
  have Q2 := Lib.hid (Sf.row (pre := [(w4.heap.size + 1, 34, [.int .i64 0, .slice none 0 0, .int .i64 0, .slice none 0 0])]) P2.out [.int .i64 D3.s, .slice av4 nv4 cv4, .int .i64 D3.t, .slice bv4 mv4 dv4])
  have T2 := Lib.hid (Sf.row (pre := []) Q2.out [.int .i64 D4.s, .slice az4 nz4 cz4, .int .i64 D4.t, .slice bz4 mz4 dz4])
  obtain ⟨V2, hV2⟩ : ∃ V, ((((w4.alloc (.cells #[.int .i64 0, .slice none 0 0, .int .i64 0, .slice none 0 0] 34)).alloc (.cells #[.int .i64 0, .slice none 0 0, .int .i64 0, .slice none 0 0] 34)).setRow (w4.heap.size) #[.int .i64 D3.s, .slice av4 nv4 cv4, .int .i64 D3.t, .slice bv4 mv4 dv4]).setRow (w4.heap.size + 1) #[.int .i64 D4.s, .slice az4 nz4 cz4, .int .i64 D4.t, .slice bz4 mz4 dz4]) = V := ⟨_, rfl⟩
  have T2 : Hid (Sf w ([] ++ (w4.heap.size + 1, 34, [.int .i64 D4.s, .slice az4 nz4 cz4, .int .i64 D4.t, .slice bz4 mz4 dz4]) :: (w4.heap.size, 34, [.int .i64 D3.s, .slice av4 nv4 cv4, .int .i64 D3.t, .slice bv4 mv4 dv4]) :: [(w3.heap.size + 1, 34, [.int .i64 D2.s, .slice az3 nz3 cz3, .int .i64 D2.t, .slice bz3 mz3 dz3]), (w3.heap.size, 34, [.int .i64 D1.s, .slice av3 nv3 cv3, .int .i64 D1.t, .slice bv3 mv3 dv3])]) _ V2) := Lib.hid (by have := T2.out; rw [← hV2]; exact this)
  have HV2 := Lib.hid hV2
  clear hV2
  go_wp2_with (first | (refine wpList_store_row rfl _ _ _ rfl _ #[.int .i64 D4.s, .slice az4 nz4 cz4, .int .i64 D4.t, .slice bz4 mz4 dz4] rfl rfl _ _ (Q2.out.box _ mq0) (by kernel_rfl) rfl (by simp [Value.oneCell']) ?_; rw [HV2.out]) | refine wpList_store_row rfl _ _ _ rfl _ #[.int .i64 D3.s, .slice av4 nv4 cv4, .int .i64 D3.t, .slice bv4 mv4 dv4] rfl rfl _ _ (P2.out.box _ mq1) (by kernel_rfl) rfl (by simp [Value.oneCell']) ?_)
  go_ret
  exact ⟨rfl, T2.out.below⟩

set_option maxHeartbeats 8000000 in
theorem grows_n2 {a a2 : Option Addr} {n cap m cap2 : Nat} {l : List Ct} {rl : List (Int × Int)} {s r q d t : Int} {w : World} (hc : Cs w a l) (hn : l.length = n) (hl : n ≤ 120) (hr : Rs w a2 rl) (hm : rl.length = m) (hl2 : m ≤ 60) (hq : decide (q < r) = false) (h1 : ivB s r d l rl = true) (h2 : ivB s q d l rl = false) : Calls Try.prog 5 #[.slice a n cap, .slice a2 m cap2, .int .i64 s, .int .i64 r, .int .i64 q, .int .i64 d, .int .i64 t] w (Gv (.bool true) w) := by
  have HC := Lib.hid hc
  have HN := Lib.hid hn
  have HR := Lib.hid hr
  have HM := Lib.hid hm
  have HL : Hid (n ≤ 1000000) := Lib.hid (by omega)
  have HL2 : Hid (m ≤ 1000000) := Lib.hid (by omega)
  have HNB : Hid (n ≤ 9223372036854775807) := Lib.hid (by omega)
  have HMB : Hid (m ≤ 9223372036854775807) := Lib.hid (by omega)
  have HF : Hid ((decide ((n : Int) ≤ 120) && decide ((m : Int) ≤ 60)) = true) := Lib.hid (by simp; omega)
  obtain ⟨D1, hd1⟩ : ∃ D, ivL s r d l rl = D := ⟨_, rfl⟩
  obtain ⟨D2, hd2⟩ : ∃ D, ivH s r d l rl = D := ⟨_, rfl⟩
  obtain ⟨D3, hd3⟩ : ∃ D, ivL s q d l rl = D := ⟨_, rfl⟩
  obtain ⟨D4, hd4⟩ : ∃ D, ivH s q d l rl = D := ⟨_, rfl⟩
  have HD1 := Lib.hid hd1
  have HD2 := Lib.hid hd2
  have HD3 := Lib.hid hd3
  have HD4 := Lib.hid hd4
  have HDK := Lib.hid h1
  have HDJ := Lib.hid h2
  clear hd1 hd2 hd3 hd4 h1 h2
  have s0 := (Sf.start w)
  try simp only [World.size_alloc] at s0
  have S0 := Lib.hid s0
  clear s0
  clear hc hn hl hr hm hl2
  go_enter Try.func5, Try.ntmps5
  go_wp2_with fail
  refine (sane_any).mono ?_
  rintro e w1 ⟨rfl, hb⟩
  have R1 := Lib.hid (S0.out.later hb)
  clear hb
  go_wp2_with fail
  refine (few_any HNB.out HMB.out HF.out).mono ?_
  rintro e w2 ⟨rfl, rfl⟩
  go_wp2_with fail
  refine (ivl_raw (HC.out.later R1.out.below) HN.out HL.out (HR.out.later R1.out.below) HM.out HL2.out HD1.out HD2.out HDK.out).mono ?_
  rintro e w3 ⟨av3, nv3, cv3, bv3, mv3, dv3, az3, nz3, cz3, bz3, mz3, dz3, rfl, hi, hj, hp, hq, hb, h1, h2, h3, h4⟩
  have R3 := Lib.hid (Sf.ret4 R1.out hb hi h1 hj h2 hp h3 hq h4)
  clear hi hj hp hq hb h1 h2 h3 h4
  have p1 := (R3.out.put [.int .i64 0, .slice none 0 0, .int .i64 0, .slice none 0 0] 34).put [.int .i64 0, .slice none 0 0, .int .i64 0, .slice none 0 0] 34
  try simp only [World.size_alloc] at p1
  have P1 := Lib.hid p1
  clear p1
  have Q1 := Lib.hid (Sf.row (pre := [(w3.heap.size + 1, 34, [.int .i64 0, .slice none 0 0, .int .i64 0, .slice none 0 0])]) P1.out [.int .i64 D1.s, .slice av3 nv3 cv3, .int .i64 D1.t, .slice bv3 mv3 dv3])
  have T1 := Lib.hid (Sf.row (pre := []) Q1.out [.int .i64 D2.s, .slice az3 nz3 cz3, .int .i64 D2.t, .slice bz3 mz3 dz3])
  obtain ⟨V1, hV1⟩ : ∃ V, ((((w3.alloc (.cells #[.int .i64 0, .slice none 0 0, .int .i64 0, .slice none 0 0] 34)).alloc (.cells #[.int .i64 0, .slice none 0 0, .int .i64 0, .slice none 0 0] 34)).setRow (w3.heap.size) #[.int .i64 D1.s, .slice av3 nv3 cv3, .int .i64 D1.t, .slice bv3 mv3 dv3]).setRow (w3.heap.size + 1) #[.int .i64 D2.s, .slice az3 nz3 cz3, .int .i64 D2.t, .slice bz3 mz3 dz3]) = V := ⟨_, rfl⟩
  have T1 : Hid (Sf w ([] ++ (w3.heap.size + 1, 34, [.int .i64 D2.s, .slice az3 nz3 cz3, .int .i64 D2.t, .slice bz3 mz3 dz3]) :: (w3.heap.size, 34, [.int .i64 D1.s, .slice av3 nv3 cv3, .int .i64 D1.t, .slice bv3 mv3 dv3]) :: []) _ V1) := Lib.hid (by have := T1.out; rw [← hV1]; exact this)
  have HV1 := Lib.hid hV1
  clear hV1
  go_wp2_with (first | (refine wpList_store_row rfl _ _ _ rfl _ #[.int .i64 D2.s, .slice az3 nz3 cz3, .int .i64 D2.t, .slice bz3 mz3 dz3] rfl rfl _ _ (Q1.out.box _ mq0) (by kernel_rfl) rfl (by simp [Value.oneCell']) ?_; rw [HV1.out]) | refine wpList_store_row rfl _ _ _ rfl _ #[.int .i64 D1.s, .slice av3 nv3 cv3, .int .i64 D1.t, .slice bv3 mv3 dv3] rfl rfl _ _ (P1.out.box _ mq1) (by kernel_rfl) rfl (by simp [Value.oneCell']) ?_)
  refine (ivl_raw (HC.out.later T1.out.below) HN.out HL.out (HR.out.later T1.out.below) HM.out HL2.out HD3.out HD4.out HDJ.out).mono ?_
  rintro e w4 ⟨av4, nv4, cv4, bv4, mv4, dv4, az4, nz4, cz4, bz4, mz4, dz4, rfl, hi, hj, hp, hq, hb, h1, h2, h3, h4⟩
  have R4 := Lib.hid (Sf.ret4 T1.out hb hi h1 hj h2 hp h3 hq h4)
  clear hi hj hp hq hb h1 h2 h3 h4
  have p2 := (R4.out.put [.int .i64 0, .slice none 0 0, .int .i64 0, .slice none 0 0] 34).put [.int .i64 0, .slice none 0 0, .int .i64 0, .slice none 0 0] 34
  try simp only [World.size_alloc] at p2
  have P2 := Lib.hid p2
  clear p2
  have Q2 := Lib.hid (Sf.row (pre := [(w4.heap.size + 1, 34, [.int .i64 0, .slice none 0 0, .int .i64 0, .slice none 0 0])]) P2.out [.int .i64 D3.s, .slice av4 nv4 cv4, .int .i64 D3.t, .slice bv4 mv4 dv4])
  have T2 := Lib.hid (Sf.row (pre := []) Q2.out [.int .i64 D4.s, .slice az4 nz4 cz4, .int .i64 D4.t, .slice bz4 mz4 dz4])
  obtain ⟨V2, hV2⟩ : ∃ V, ((((w4.alloc (.cells #[.int .i64 0, .slice none 0 0, .int .i64 0, .slice none 0 0] 34)).alloc (.cells #[.int .i64 0, .slice none 0 0, .int .i64 0, .slice none 0 0] 34)).setRow (w4.heap.size) #[.int .i64 D3.s, .slice av4 nv4 cv4, .int .i64 D3.t, .slice bv4 mv4 dv4]).setRow (w4.heap.size + 1) #[.int .i64 D4.s, .slice az4 nz4 cz4, .int .i64 D4.t, .slice bz4 mz4 dz4]) = V := ⟨_, rfl⟩
  have T2 : Hid (Sf w ([] ++ (w4.heap.size + 1, 34, [.int .i64 D4.s, .slice az4 nz4 cz4, .int .i64 D4.t, .slice bz4 mz4 dz4]) :: (w4.heap.size, 34, [.int .i64 D3.s, .slice av4 nv4 cv4, .int .i64 D3.t, .slice bv4 mv4 dv4]) :: [(w3.heap.size + 1, 34, [.int .i64 D2.s, .slice az3 nz3 cz3, .int .i64 D2.t, .slice bz3 mz3 dz3]), (w3.heap.size, 34, [.int .i64 D1.s, .slice av3 nv3 cv3, .int .i64 D1.t, .slice bv3 mv3 dv3])]) _ V2) := Lib.hid (by have := T2.out; rw [← hV2]; exact this)
  have HV2 := Lib.hid hV2
  clear hV2
  go_wp2_with (first | (refine wpList_store_row rfl _ _ _ rfl _ #[.int .i64 D4.s, .slice az4 nz4 cz4, .int .i64 D4.t, .slice bz4 mz4 dz4] rfl rfl _ _ (Q2.out.box _ mq0) (by kernel_rfl) rfl (by simp [Value.oneCell']) ?_; rw [HV2.out]) | refine wpList_store_row rfl _ _ _ rfl _ #[.int .i64 D3.s, .slice av4 nv4 cv4, .int .i64 D3.t, .slice bv4 mv4 dv4] rfl rfl _ _ (P2.out.box _ mq1) (by kernel_rfl) rfl (by simp [Value.oneCell']) ?_)
  go_ret
  exact ⟨rfl, T2.out.below⟩

set_option maxHeartbeats 64000000 in
theorem grows_still {a a2 : Option Addr} {n cap m cap2 : Nat} {l : List Ct} {rl : List (Int × Int)} {s r q d t : Int} {w : World} (hc : Cs w a l) (hn : l.length = n) (hl : n ≤ 120) (hr : Rs w a2 rl) (hm : rl.length = m) (hl2 : m ≤ 60) (hq : decide (q < r) = false) {i : Nat} {c : Ct} (h0 : fnd s d l = some (i, c)) (h2 : recB s d rl = false) (h3 : inR r = true) (h8 : inR q = true) (h6 : inD c t = true) : Calls Try.prog 5 #[.slice a n cap, .slice a2 m cap2, .int .i64 s, .int .i64 r, .int .i64 q, .int .i64 d, .int .i64 t] w (Gv (.bool true) w) := by
  have hci := (fnd_some _ h0).1
  have hcv := (fnd_some _ h0).2
  have h1 : fB s d l = true := by unfold fB; rw [h0]; rfl
  have hfi : fI s d l = i := by unfold fI; rw [h0]
  obtain ⟨h4, h5⟩ := cov_ok hcv
  have G := good_of h4 h3 h5
  have G2 := good_of h4 h8 h5
  have hle : r ≤ q := Int.not_lt.1 (of_decide_eq_false hq)
  obtain ⟨b, o, rfl, hb, hcells⟩ := hc.at hci
  have HX := Lib.hid hcells
  have hin : i < n := by rw [← hn]; exact (List.getElem?_eq_some_iff.1 hci).1
  have hat := fun W => cert_at b o n cap i hin W
  have g1 : decide ((i : Int) < 0) = false := by simp
  have g2 : decide ((n : Int) ≤ (i : Int)) = false := by simp; omega
  have g2n : decide (n ≤ i) = false := by simp; omega
  have HC := Lib.hid hc
  have HN := Lib.hid hn
  have HR := Lib.hid hr
  have HM := Lib.hid hm
  have HL : Hid (n ≤ 1000000) := Lib.hid (by omega)
  have HL2 : Hid (m ≤ 1000000) := Lib.hid (by omega)
  have HNB : Hid (n ≤ 9223372036854775807) := Lib.hid (by omega)
  have HMB : Hid (m ≤ 9223372036854775807) := Lib.hid (by omega)
  have HF : Hid ((decide ((n : Int) ≤ 120) && decide ((m : Int) ≤ 60)) = true) := Lib.hid (by simp; omega)
  have HFI := Lib.hid hfi
  have HFB := Lib.hid h1
  have HRB := Lib.hid h2
  have H3 := Lib.hid h3
  have H8 := Lib.hid h8
  have H4 := Lib.hid h4
  have HII : Hid (∀ W, RowKit.Below w.heap.size w W → Calls Try.prog 14 #[.slice (some ⟨b, o, none⟩) n cap, .slice a2 m cap2, .int .i64 s, .int .i64 r, .int .i64 d] W (It (lowR c r d) (highR c r d) W)) := Lib.hid (by
    have h0' := h0
    exact fun W hW => ivl_some (HC.out.later hW) HN.out HL.out (HR.out.later hW) HM.out HL2.out h0' HRB.out H3.out)
  have HJJ : Hid (∀ W, RowKit.Below w.heap.size w W → Calls Try.prog 14 #[.slice (some ⟨b, o, none⟩) n cap, .slice a2 m cap2, .int .i64 s, .int .i64 q, .int .i64 d] W (It (lowR c q d) (highR c q d) W)) := Lib.hid (by
    have h0' := h0
    exact fun W hW => ivl_some (HC.out.later hW) HN.out HL.out (HR.out.later hW) HM.out HL2.out h0' HRB.out H8.out)
  have G3 := good_of h4 h3 h6
  have H6 := Lib.hid h6
  have HEE : Hid (∀ W, Calls Try.prog 12 #[.agg #[.int .i64 c.sc, .int .i64 c.fr, .int .i64 c.un, .int .i64 c.ut, .int .i64 c.pm, .int .i64 c.dr], .int .i64 r, .int .i64 t] W (Gt (errR c r t) W)) := Lib.hid (fun W => error_some H4.out H3.out H6.out)
  have L3 := Lib.hid (G3.err_sz.mono (j := 1000))
  have e6 := errR_day c r d t
  have b1 : 0 ≤ c.dr := G.dr0
  have b2 : c.dr ≤ 10000000 := G.dr1
  have b3 : -100000 ≤ t - d := by have := G.d1; have := G.un0; have := G3.d0; have := G.fr0; omega
  have b4 : t - d ≤ 100000 := by have := G3.d1; have := G.un0; have := G.d0; have := G.fr0; omega
  obtain ⟨x1, hx1⟩ : ∃ x, t - d = x := ⟨_, rfl⟩
  rw [hx1] at e6 b3 b4
  obtain ⟨x2, hx2⟩ : ∃ x, c.dr * x1 = x := ⟨_, rfl⟩
  have b5 : -1000000000000 ≤ x2 ∧ x2 ≤ 1000000000000 := by
    rw [← hx2]
    have c1 : c.dr * x1 ≤ c.dr * 100000 := Int.mul_le_mul_of_nonneg_left b4 b1
    have c2 : c.dr * (-100000) ≤ c.dr * x1 := Int.mul_le_mul_of_nonneg_left b3 b1
    omega
  rw [hx2] at e6
  have hw1 : IntKind.i64.wrap (t - d) = x1 := by rw [hx1]; exact IntWalk.i64_in _ (by omega)
  have hw2 : IntKind.i64.wrap (c.dr * x1) = x2 := by rw [hx2]; exact IntWalk.i64_in _ (by omega)
  have HX2 : Hid (-9223372036854775808 ≤ x2 ∧ x2 ≤ 9223372036854775807) := Lib.hid (by omega)
  obtain ⟨ERC, hE3⟩ : ∃ E, errR c r t = E := ⟨_, rfl⟩
  rw [hE3] at e6 HEE L3
  clear b1 b2 b3 b4 b5 hx1 hx2 G3 h6
  have LE := Lib.hid (G.err_sz.mono (j := 1000))
  have LE2 := Lib.hid (G2.err_sz.mono (j := 1000))
  have LR := Lib.hid (G.int.mono (j := 1000))
  have LQ := Lib.hid (G2.int.mono (j := 1000))
  have LL := Lib.hid (G.low_sz.mono (j := 1000))
  have LU := Lib.hid (G.high_sz.mono (j := 1000))
  have LL2 := Lib.hid (G2.low_sz.mono (j := 1000))
  have LU2 := Lib.hid (G2.high_sz.mono (j := 1000))
  have HRI : Hid (-9223372036854775808 ≤ r ∧ r ≤ 9223372036854775807) := Lib.hid (by have := G.r0; have := G.r1; omega)
  have HQI : Hid (-9223372036854775808 ≤ q ∧ q ≤ 9223372036854775807) := Lib.hid (by have := G2.r0; have := G2.r1; omega)
  have e1 : highR c r d - (r : Rat) = errR c r d := by unfold highR; grind
  have e2 : highR c q d - (q : Rat) = errR c q d := by unfold highR; grind
  have e3 := cmp_le0 (low_mono (c := c) (d := d) G.pm1 hle)
  have e4 := cmp_le0 (high_mono (c := c) (d := d) G.pm0 hle)
  have e5 := cmp_le0 (errR_mono (c := c) (d := d) G.pm0 hle)
  obtain ⟨ERA, hE1⟩ : ∃ E, errR c r d = E := ⟨_, rfl⟩
  obtain ⟨ERB, hE2⟩ : ∃ E, errR c q d = E := ⟨_, rfl⟩
  obtain ⟨RR, hRR⟩ : ∃ z, ((r : Int) : Rat) = z := ⟨_, rfl⟩
  obtain ⟨QQ, hQQ⟩ : ∃ z, ((q : Int) : Rat) = z := ⟨_, rfl⟩
  obtain ⟨LO, hLO⟩ : ∃ z, lowR c r d = z := ⟨_, rfl⟩
  obtain ⟨UP, hUP⟩ : ∃ z, highR c r d = z := ⟨_, rfl⟩
  obtain ⟨LP, hLP⟩ : ∃ z, lowR c q d = z := ⟨_, rfl⟩
  obtain ⟨UQ, hUQ⟩ : ∃ z, highR c q d = z := ⟨_, rfl⟩
  rw [hUP, hRR, hE1] at e1
  rw [hUQ, hQQ, hE2] at e2
  rw [hLO, hLP] at e3
  rw [hUP, hUQ] at e4
  rw [hE1, hE2] at e5
  rw [hE1] at LE
  rw [hE2] at LE2
  rw [hRR] at LR
  rw [hQQ] at LQ
  rw [hLO] at LL
  rw [hUP] at LU
  rw [hLP] at LL2
  rw [hUQ] at LU2
  rw [hLO, hUP] at HII
  rw [hLP, hUQ] at HJJ
  obtain ⟨k1, hk1⟩ : ∃ k, cmpR LO LP = k := ⟨_, rfl⟩
  obtain ⟨k2, hk2⟩ : ∃ k, cmpR UP UQ = k := ⟨_, rfl⟩
  obtain ⟨k3, hk3⟩ : ∃ k, cmpR ERA ERB = k := ⟨_, rfl⟩
  rw [hk1] at e3
  rw [hk2] at e4
  rw [hk3] at e5
  have HE1 := Lib.hid e1
  have HE2 := Lib.hid e2
  have HRR := Lib.hid hRR
  have HQQ := Lib.hid hQQ
  have HK1 := Lib.hid hk1
  have HK2 := Lib.hid hk2
  have HK3 := Lib.hid hk3
  rw [hE1] at e6
  obtain ⟨DR, hDR⟩ : ∃ z, ((x2 : Int) : Rat) = z := ⟨_, rfl⟩
  rw [hDR] at e6
  have HE6 := Lib.hid e6
  have HDR := Lib.hid hDR
  clear e6 hDR hE3
  clear hci hcv h4 h5 hb e1 e2 hE1 hE2 hRR hQQ hLO hUP hLP hUQ hk1 hk2 hk3 G G2 hle h0 h1 h2 h3 h8 H3 H8 H4 hfi hin hcells
  have s0 := (Sf.start w)
  try simp only [World.size_alloc] at s0
  have S0 := Lib.hid s0
  clear s0
  clear hc hn hl hr hm hl2
  go_enter Try.func5, Try.ntmps5
  go_wp2_with fail
  refine (sane_any).mono ?_
  rintro e w1 ⟨rfl, hb⟩
  have R1 := Lib.hid (S0.out.later hb)
  clear hb
  go_wp2_with fail
  refine (few_any HNB.out HMB.out HF.out).mono ?_
  rintro e w2 ⟨rfl, rfl⟩
  go_wp2_with fail
  refine (HII.out _ R1.out.below).mono ?_
  rintro e w3 ⟨sx3, ax3, nx3, cx3, bx3, mx3, dx3, sy3, ay3, ny3, cy3, by3, my3, dy3, rfl, hr, hq, hb, h1, h2, h3, h4⟩
  have E3 := Lib.hid hr.1.1
  have D3 := Lib.hid hq.1.1
  have R3 := Lib.hid (Sf.ret4 R1.out hb hr.1.2 h1 hr.2.2 h2 hq.1.2 h3 hq.2.2 h4)
  clear hr hq hb h1 h2 h3 h4
  have p1 := (R3.out.put [.int .i64 0, .slice none 0 0, .int .i64 0, .slice none 0 0] 34).put [.int .i64 0, .slice none 0 0, .int .i64 0, .slice none 0 0] 34
  try simp only [World.size_alloc] at p1
  have P1 := Lib.hid p1
  clear p1
  have Q1 := Lib.hid (Sf.row (pre := [(w3.heap.size + 1, 34, [.int .i64 0, .slice none 0 0, .int .i64 0, .slice none 0 0])]) P1.out [.int .i64 sx3, .slice ax3 nx3 cx3, .int .i64 1, .slice bx3 mx3 dx3])
  have T1 := Lib.hid (Sf.row (pre := []) Q1.out [.int .i64 sy3, .slice ay3 ny3 cy3, .int .i64 1, .slice by3 my3 dy3])
  obtain ⟨V1, hV1⟩ : ∃ V, ((((w3.alloc (.cells #[.int .i64 0, .slice none 0 0, .int .i64 0, .slice none 0 0] 34)).alloc (.cells #[.int .i64 0, .slice none 0 0, .int .i64 0, .slice none 0 0] 34)).setRow (w3.heap.size) #[.int .i64 sx3, .slice ax3 nx3 cx3, .int .i64 1, .slice bx3 mx3 dx3]).setRow (w3.heap.size + 1) #[.int .i64 sy3, .slice ay3 ny3 cy3, .int .i64 1, .slice by3 my3 dy3]) = V := ⟨_, rfl⟩
  have T1 : Hid (Sf w ([] ++ (w3.heap.size + 1, 34, [.int .i64 sy3, .slice ay3 ny3 cy3, .int .i64 1, .slice by3 my3 dy3]) :: (w3.heap.size, 34, [.int .i64 sx3, .slice ax3 nx3 cx3, .int .i64 1, .slice bx3 mx3 dx3]) :: []) _ V1) := Lib.hid (by have := T1.out; rw [← hV1]; exact this)
  have HV1 := Lib.hid hV1
  clear hV1
  go_wp2_with (first | (refine wpList_store_row rfl _ _ _ rfl _ #[.int .i64 sy3, .slice ay3 ny3 cy3, .int .i64 1, .slice by3 my3 dy3] rfl rfl _ _ (Q1.out.box _ mq0) (by kernel_rfl) rfl (by simp [Value.oneCell']) ?_; rw [HV1.out]) | refine wpList_store_row rfl _ _ _ rfl _ #[.int .i64 sx3, .slice ax3 nx3 cx3, .int .i64 1, .slice bx3 mx3 dx3] rfl rfl _ _ (P1.out.box _ mq1) (by kernel_rfl) rfl (by simp [Value.oneCell']) ?_)
  refine (HJJ.out _ T1.out.below).mono ?_
  rintro e w4 ⟨sx4, ax4, nx4, cx4, bx4, mx4, dx4, sy4, ay4, ny4, cy4, by4, my4, dy4, rfl, hr, hq, hb, h1, h2, h3, h4⟩
  have E4 := Lib.hid hr.1.1
  have D4 := Lib.hid hq.1.1
  have R4 := Lib.hid (Sf.ret4 T1.out hb hr.1.2 h1 hr.2.2 h2 hq.1.2 h3 hq.2.2 h4)
  clear hr hq hb h1 h2 h3 h4
  have p2 := (R4.out.put [.int .i64 0, .slice none 0 0, .int .i64 0, .slice none 0 0] 34).put [.int .i64 0, .slice none 0 0, .int .i64 0, .slice none 0 0] 34
  try simp only [World.size_alloc] at p2
  have P2 := Lib.hid p2
  clear p2
  have Q2 := Lib.hid (Sf.row (pre := [(w4.heap.size + 1, 34, [.int .i64 0, .slice none 0 0, .int .i64 0, .slice none 0 0])]) P2.out [.int .i64 sx4, .slice ax4 nx4 cx4, .int .i64 1, .slice bx4 mx4 dx4])
  have T2 := Lib.hid (Sf.row (pre := []) Q2.out [.int .i64 sy4, .slice ay4 ny4 cy4, .int .i64 1, .slice by4 my4 dy4])
  obtain ⟨V2, hV2⟩ : ∃ V, ((((w4.alloc (.cells #[.int .i64 0, .slice none 0 0, .int .i64 0, .slice none 0 0] 34)).alloc (.cells #[.int .i64 0, .slice none 0 0, .int .i64 0, .slice none 0 0] 34)).setRow (w4.heap.size) #[.int .i64 sx4, .slice ax4 nx4 cx4, .int .i64 1, .slice bx4 mx4 dx4]).setRow (w4.heap.size + 1) #[.int .i64 sy4, .slice ay4 ny4 cy4, .int .i64 1, .slice by4 my4 dy4]) = V := ⟨_, rfl⟩
  have T2 : Hid (Sf w ([] ++ (w4.heap.size + 1, 34, [.int .i64 sy4, .slice ay4 ny4 cy4, .int .i64 1, .slice by4 my4 dy4]) :: (w4.heap.size, 34, [.int .i64 sx4, .slice ax4 nx4 cx4, .int .i64 1, .slice bx4 mx4 dx4]) :: [(w3.heap.size + 1, 34, [.int .i64 sy3, .slice ay3 ny3 cy3, .int .i64 1, .slice by3 my3 dy3]), (w3.heap.size, 34, [.int .i64 sx3, .slice ax3 nx3 cx3, .int .i64 1, .slice bx3 mx3 dx3])]) _ V2) := Lib.hid (by have := T2.out; rw [← hV2]; exact this)
  have HV2 := Lib.hid hV2
  clear hV2
  go_upto_region 8 with (first | (refine wpList_store_row rfl _ _ _ rfl _ #[.int .i64 sy4, .slice ay4 ny4 cy4, .int .i64 1, .slice by4 my4 dy4] rfl rfl _ _ (Q2.out.box _ mq0) (by kernel_rfl) rfl (by simp [Value.oneCell']) ?_; rw [HV2.out]) | refine wpList_store_row rfl _ _ _ rfl _ #[.int .i64 sx4, .slice ax4 nx4 cx4, .int .i64 1, .slice bx4 mx4 dx4] rfl rfl _ _ (P2.out.box _ mq1) (by kernel_rfl) rfl (by simp [Value.oneCell']) ?_)
  go_cut [22, 23] from 70 to 76 (fun u v wx => v = .int .i64 0 ∧ Hid (∃ gq sq aq nq cq bq mq dq, u = .pointer (some ⟨gq, 0, none⟩) ∧ sq = (ERA).num.sign ∧ Fresh w.heap.size (.slice aq nq cq) ∧ Fresh w.heap.size (.slice bq mq dq) ∧ Sf w ((gq, 34, [.int .i64 sq, .slice aq nq cq, .int .i64 1, .slice bq mq dq]) :: [(w4.heap.size + 1, 34, [.int .i64 sy4, .slice ay4 ny4 cy4, .int .i64 1, .slice by4 my4 dy4]), (w4.heap.size, 34, [.int .i64 sx4, .slice ax4 nx4 cx4, .int .i64 1, .slice bx4 mx4 dx4]), (w3.heap.size + 1, 34, [.int .i64 sy3, .slice ay3 ny3 cy3, .int .i64 1, .slice by3 my3 dy3]), (w3.heap.size, 34, [.int .i64 sx3, .slice ax3 nx3 cx3, .int .i64 1, .slice bx3 mx3 dx3])]) ((.slice aq nq cq, digs (ERA).num.natAbs) :: (.slice bq mq dq, digs (((ERA).den : Int)).natAbs) :: [(.slice ax4 nx4 cx4, digs (LP).num.natAbs), (.slice bx4 mx4 dx4, digs (((LP).den : Int)).natAbs), (.slice ay4 ny4 cy4, digs (UQ).num.natAbs), (.slice by4 my4 dy4, digs (((UQ).den : Int)).natAbs), (.slice ax3 nx3 cx3, digs (LO).num.natAbs), (.slice bx3 mx3 dx3, digs (((LO).den : Int)).natAbs), (.slice ay3 ny3 cy3, digs (UP).num.natAbs), (.slice by3 my3 dy3, digs (((UP).den : Int)).natAbs)]) wx))
  case first =>
    have K0 : ∀ W F, Sf w [(w4.heap.size + 1, 34, [.int .i64 sy4, .slice ay4 ny4 cy4, .int .i64 1, .slice by4 my4 dy4]), (w4.heap.size, 34, [.int .i64 sx4, .slice ax4 nx4 cx4, .int .i64 1, .slice bx4 mx4 dx4]), (w3.heap.size + 1, 34, [.int .i64 sy3, .slice ay3 ny3 cy3, .int .i64 1, .slice by3 my3 dy3]), (w3.heap.size, 34, [.int .i64 sx3, .slice ax3 nx3 cx3, .int .i64 1, .slice bx3 mx3 dx3])] F W → W.cell? ⟨w3.heap.size + 1, 0, none⟩ = some (.int .i64 sy3) ∧ W.cell? ⟨w3.heap.size + 1, 1, none⟩ = some (.slice ay3 ny3 cy3) ∧ W.cell? ⟨w3.heap.size + 1, 2, none⟩ = some (.int .i64 1) ∧ W.cell? ⟨w3.heap.size + 1, 3, none⟩ = some (.slice by3 my3 dy3) := fun W F h => ⟨(h.box (w3.heap.size + 1, 34, [.int .i64 sy3, .slice ay3 ny3 cy3, .int .i64 1, .slice by3 my3 dy3]) mq2).cell 0, (h.box (w3.heap.size + 1, 34, [.int .i64 sy3, .slice ay3 ny3 cy3, .int .i64 1, .slice by3 my3 dy3]) mq2).cell 1, (h.box (w3.heap.size + 1, 34, [.int .i64 sy3, .slice ay3 ny3 cy3, .int .i64 1, .slice by3 my3 dy3]) mq2).cell 2, (h.box (w3.heap.size + 1, 34, [.int .i64 sy3, .slice ay3 ny3 cy3, .int .i64 1, .slice by3 my3 dy3]) mq2).cell 3⟩
    have KK := Lib.hid K0
    clear K0
    have K0 : ∀ W F x, Sf w (x :: [(w4.heap.size + 1, 34, [.int .i64 sy4, .slice ay4 ny4 cy4, .int .i64 1, .slice by4 my4 dy4]), (w4.heap.size, 34, [.int .i64 sx4, .slice ax4 nx4 cx4, .int .i64 1, .slice bx4 mx4 dx4]), (w3.heap.size + 1, 34, [.int .i64 sy3, .slice ay3 ny3 cy3, .int .i64 1, .slice by3 my3 dy3]), (w3.heap.size, 34, [.int .i64 sx3, .slice ax3 nx3 cx3, .int .i64 1, .slice bx3 mx3 dx3])]) F W → W.cell? ⟨w3.heap.size + 1, 0, none⟩ = some (.int .i64 sy3) ∧ W.cell? ⟨w3.heap.size + 1, 1, none⟩ = some (.slice ay3 ny3 cy3) ∧ W.cell? ⟨w3.heap.size + 1, 2, none⟩ = some (.int .i64 1) ∧ W.cell? ⟨w3.heap.size + 1, 3, none⟩ = some (.slice by3 my3 dy3) := fun W F x h => ⟨(h.box (w3.heap.size + 1, 34, [.int .i64 sy3, .slice ay3 ny3 cy3, .int .i64 1, .slice by3 my3 dy3]) mq3).cell 0, (h.box (w3.heap.size + 1, 34, [.int .i64 sy3, .slice ay3 ny3 cy3, .int .i64 1, .slice by3 my3 dy3]) mq3).cell 1, (h.box (w3.heap.size + 1, 34, [.int .i64 sy3, .slice ay3 ny3 cy3, .int .i64 1, .slice by3 my3 dy3]) mq3).cell 2, (h.box (w3.heap.size + 1, 34, [.int .i64 sy3, .slice ay3 ny3 cy3, .int .i64 1, .slice by3 my3 dy3]) mq3).cell 3⟩
    have KU := Lib.hid K0
    clear K0
    have N0 := Lib.hid T2.out.drew
    have Z0 := Lib.hid (T2.out.put [.int .i64 0, .slice none 0 0, .int .i64 0, .slice none 0 0] 34).drew
    clear T2
    have eN0 := KK.out _ _ N0.out
    have eZ0 := KU.out _ _ _ Z0.out
    have CN0 := Lib.hid (qint_t N0.out HRI.out HRR.out)
    have CZ0 := Lib.hid (qint_t Z0.out HRI.out HRR.out)
    go_region_held3 (fun W => W.cell? ⟨w3.heap.size + 1, 0, none⟩ = some (.int .i64 sy3) ∧ W.cell? ⟨w3.heap.size + 1, 1, none⟩ = some (.slice ay3 ny3 cy3) ∧ W.cell? ⟨w3.heap.size + 1, 2, none⟩ = some (.int .i64 1) ∧ W.cell? ⟨w3.heap.size + 1, 3, none⟩ = some (.slice by3 my3 dy3))
      (first | (with_reducible exact eN0) | (with_reducible exact eZ0) | (with_reducible exact eN1) | (with_reducible exact eZ1) | (with_reducible exact eB0_1) | (with_reducible exact eN2) | (with_reducible exact eZ2) | (with_reducible exact eRN) | (with_reducible exact eB1_2) | (with_reducible exact eRB) | (with_reducible exact eB0_2) | go_keep)
      (((first | go_at_call 22 | go_at_call 21 | (rw [if_pos (by rfl)]; go_simp) | skip); (first
          | (have hG := B0_1; clear hG; go_at_call 22; (with_reducible refine (CB0_1.out).mono ?_); rintro e yx5_1 ⟨sx5_1, ax5_1, nx5_1, cx5_1, bx5_1, mx5_1, dx5_1, rfl, hr, hb, hf, hg⟩; have E5_1 := Lib.hid hr.1.1; have B0_2 := Lib.hid (B0_1.out.ret2 hb hr.1.2 hf hr.2.2 hg); have FM := Lib.hid (hf.mono B0_1.out.below.size); have GM := Lib.hid (hg.mono B0_1.out.below.size); clear hr hb hf hg; have eB0_2 := KU.out _ _ _ B0_2.out; obtain ⟨z0, z1, z2, z3⟩ := Fb.cells4 (B0_2.out.box (V2.heap.size, 34, [.int .i64 0, .slice none 0 0, .int .i64 0, .slice none 0 0]) mq0); have u0 := (B0_2.out.box (V2.heap.size, 34, [.int .i64 0, .slice none 0 0, .int .i64 0, .slice none 0 0]) mq0).free 0; have u1 := (B0_2.out.box (V2.heap.size, 34, [.int .i64 0, .slice none 0 0, .int .i64 0, .slice none 0 0]) mq0).free 1; have u2 := (B0_2.out.box (V2.heap.size, 34, [.int .i64 0, .slice none 0 0, .int .i64 0, .slice none 0 0]) mq0).free 2; have u3 := (B0_2.out.box (V2.heap.size, 34, [.int .i64 0, .slice none 0 0, .int .i64 0, .slice none 0 0]) mq0).free 3; have RB := Lib.hid (Sf.set4 (pre := []) B0_2.out (.int .i64 sx5_1) (.slice ax5_1 nx5_1 cx5_1) (.int .i64 1) (.slice bx5_1 mx5_1 dx5_1)); have eRB := KU.out _ _ _ RB.out)
          | (have hG := Z1; clear hG; go_at_call 22; (with_reducible refine (CZ1.out).mono ?_); rintro e yx5_1 ⟨sx5_1, ax5_1, nx5_1, cx5_1, bx5_1, mx5_1, dx5_1, rfl, hr, hb, hf, hg⟩; have E5_1 := Lib.hid hr.1.1; have B1_2 := Lib.hid (Z1.out.ret2 hb hr.1.2 hf hr.2.2 hg); have FM := Lib.hid (hf.mono Z1.out.below.size); have GM := Lib.hid (hg.mono Z1.out.below.size); clear hr hb hf hg; have eB1_2 := KU.out _ _ _ B1_2.out; obtain ⟨z0, z1, z2, z3⟩ := Fb.cells4 (B1_2.out.box (yx5_0.heap.size, 34, [.int .i64 0, .slice none 0 0, .int .i64 0, .slice none 0 0]) mq0); have u0 := (B1_2.out.box (yx5_0.heap.size, 34, [.int .i64 0, .slice none 0 0, .int .i64 0, .slice none 0 0]) mq0).free 0; have u1 := (B1_2.out.box (yx5_0.heap.size, 34, [.int .i64 0, .slice none 0 0, .int .i64 0, .slice none 0 0]) mq0).free 1; have u2 := (B1_2.out.box (yx5_0.heap.size, 34, [.int .i64 0, .slice none 0 0, .int .i64 0, .slice none 0 0]) mq0).free 2; have u3 := (B1_2.out.box (yx5_0.heap.size, 34, [.int .i64 0, .slice none 0 0, .int .i64 0, .slice none 0 0]) mq0).free 3; have RB := Lib.hid (Sf.set4 (pre := []) B1_2.out (.int .i64 sx5_1) (.slice ax5_1 nx5_1 cx5_1) (.int .i64 1) (.slice bx5_1 mx5_1 dx5_1)); have eRB := KU.out _ _ _ RB.out)
          | (have hG := N1; clear hG; go_at_call 22; (with_reducible refine (CN1.out).mono ?_); rintro e yx5_1 ⟨sx5_1, ax5_1, nx5_1, cx5_1, bx5_1, mx5_1, dx5_1, rfl, hr, hb, hf, hg⟩; have E5_1 := Lib.hid hr.1.1; have N2 := Lib.hid (N1.out.ret2 hb hr.1.2 hf hr.2.2 hg); have FM := Lib.hid (hf.mono N1.out.below.size); have GM := Lib.hid (hg.mono N1.out.below.size); clear hr hb hf hg; have eN2 := KK.out _ _ N2.out; have Z2 := Lib.hid (N2.out.put [.int .i64 0, .slice none 0 0, .int .i64 0, .slice none 0 0] 34); have eZ2 := KU.out _ _ _ Z2.out; have RN := Lib.hid (N2.out.put [.int .i64 sx5_1, .slice ax5_1 nx5_1 cx5_1, .int .i64 1, .slice bx5_1 mx5_1 dx5_1] 34); have eRN := KU.out _ _ _ RN.out)
          | (have hG := Z0; clear hG; go_at_call 21; (with_reducible refine (CZ0.out).mono ?_); rintro e yx5_0 ⟨sx5_0, ax5_0, nx5_0, cx5_0, bx5_0, mx5_0, dx5_0, rfl, hr, hb, hf, hg⟩; have E5_0 := Lib.hid hr.1.1; have B0_1 := Lib.hid (Z0.out.ret2 hb hr.1.2 hf hr.2.2 hg); clear hr hb hf hg; have eB0_1 := KU.out _ _ _ B0_1.out; have CB0_1 := Lib.hid (fsub_r (B0_1.out.fr (v := .slice ay3 ny3 cy3) (u := .slice by3 my3 dy3) (r := UP) mq8 mq9 D3.out) (B0_1.out.fr (v := .slice ax5_0 nx5_0 cx5_0) (u := .slice bx5_0 mx5_0 dx5_0) (r := RR) mq0 mq1 E5_0.out) LU.out LR.out HE1.out))
          | (have hG := N0; clear hG; go_at_call 21; (with_reducible refine (CN0.out).mono ?_); rintro e yx5_0 ⟨sx5_0, ax5_0, nx5_0, cx5_0, bx5_0, mx5_0, dx5_0, rfl, hr, hb, hf, hg⟩; have E5_0 := Lib.hid hr.1.1; have N1 := Lib.hid (N0.out.ret2 hb hr.1.2 hf hr.2.2 hg); clear hr hb hf hg; have eN1 := KK.out _ _ N1.out; have Z1 := Lib.hid (N1.out.put [.int .i64 0, .slice none 0 0, .int .i64 0, .slice none 0 0] 34); have eZ1 := KU.out _ _ _ Z1.out; have CN1 := Lib.hid (fsub_r (N1.out.fr (v := .slice ay3 ny3 cy3) (u := .slice by3 my3 dy3) (r := UP) mq8 mq9 D3.out) (N1.out.fr (v := .slice ax5_0 nx5_0 cx5_0) (u := .slice bx5_0 mx5_0 dx5_0) (r := RR) mq0 mq1 E5_0.out) LU.out LR.out HE1.out); have CZ1 := Lib.hid (fsub_r (Z1.out.fr (v := .slice ay3 ny3 cy3) (u := .slice by3 my3 dy3) (r := UP) mq8 mq9 D3.out) (Z1.out.fr (v := .slice ax5_0 nx5_0 cx5_0) (u := .slice bx5_0 mx5_0 dx5_0) (r := RR) mq0 mq1 E5_0.out) LU.out LR.out HE1.out))); (try dsimp only)))
    all_goals (go_wp2_with fail; go_meet; refine ⟨rfl, ?_⟩; first | exact Lib.hid ⟨_, _, _, _, _, _, _, _, rfl, E5_1.out, FM.out, GM.out, Sf.facts RN.out (by simp)⟩ | exact Lib.hid ⟨_, _, _, _, _, _, _, _, rfl, E5_1.out, FM.out, GM.out, Sf.facts RB.out (by simp)⟩)
  case rest =>
  obtain ⟨rfl, hq⟩ := hcut
  obtain ⟨gx5, sx5, ax5, nx5, cx5, bx5, mx5, dx5, rfl, esx5, ffx5, fgx5, hsx5⟩ := hq.out
  obtain ⟨w5, rfl⟩ : ∃ W, W = wc := ⟨_, rfl⟩
  have R5 := Lib.hid hsx5
  have E5 := Lib.hid esx5
  have FF5 := Lib.hid ffx5
  have FG5 := Lib.hid fgx5
  clear hq esx5 ffx5 fgx5 hsx5 T2
  go_upto_region 9 with fail
  go_cut [24, 25] from 77 to 83 (fun u v wx => v = .int .i64 0 ∧ Hid (∃ gq sq aq nq cq bq mq dq, u = .pointer (some ⟨gq, 0, none⟩) ∧ sq = (ERB).num.sign ∧ Fresh w.heap.size (.slice aq nq cq) ∧ Fresh w.heap.size (.slice bq mq dq) ∧ Sf w ((gq, 34, [.int .i64 sq, .slice aq nq cq, .int .i64 1, .slice bq mq dq]) :: [(gx5, 34, [.int .i64 sx5, .slice ax5 nx5 cx5, .int .i64 1, .slice bx5 mx5 dx5]), (w4.heap.size + 1, 34, [.int .i64 sy4, .slice ay4 ny4 cy4, .int .i64 1, .slice by4 my4 dy4]), (w4.heap.size, 34, [.int .i64 sx4, .slice ax4 nx4 cx4, .int .i64 1, .slice bx4 mx4 dx4]), (w3.heap.size + 1, 34, [.int .i64 sy3, .slice ay3 ny3 cy3, .int .i64 1, .slice by3 my3 dy3]), (w3.heap.size, 34, [.int .i64 sx3, .slice ax3 nx3 cx3, .int .i64 1, .slice bx3 mx3 dx3])]) ((.slice aq nq cq, digs (ERB).num.natAbs) :: (.slice bq mq dq, digs (((ERB).den : Int)).natAbs) :: [(.slice ax5 nx5 cx5, digs (ERA).num.natAbs), (.slice bx5 mx5 dx5, digs (((ERA).den : Int)).natAbs), (.slice ax4 nx4 cx4, digs (LP).num.natAbs), (.slice bx4 mx4 dx4, digs (((LP).den : Int)).natAbs), (.slice ay4 ny4 cy4, digs (UQ).num.natAbs), (.slice by4 my4 dy4, digs (((UQ).den : Int)).natAbs), (.slice ax3 nx3 cx3, digs (LO).num.natAbs), (.slice bx3 mx3 dx3, digs (((LO).den : Int)).natAbs), (.slice ay3 ny3 cy3, digs (UP).num.natAbs), (.slice by3 my3 dy3, digs (((UP).den : Int)).natAbs)]) wx))
  case first =>
    have K0 : ∀ W F, Sf w [(gx5, 34, [.int .i64 sx5, .slice ax5 nx5 cx5, .int .i64 1, .slice bx5 mx5 dx5]), (w4.heap.size + 1, 34, [.int .i64 sy4, .slice ay4 ny4 cy4, .int .i64 1, .slice by4 my4 dy4]), (w4.heap.size, 34, [.int .i64 sx4, .slice ax4 nx4 cx4, .int .i64 1, .slice bx4 mx4 dx4]), (w3.heap.size + 1, 34, [.int .i64 sy3, .slice ay3 ny3 cy3, .int .i64 1, .slice by3 my3 dy3]), (w3.heap.size, 34, [.int .i64 sx3, .slice ax3 nx3 cx3, .int .i64 1, .slice bx3 mx3 dx3])] F W → W.cell? ⟨w4.heap.size + 1, 0, none⟩ = some (.int .i64 sy4) ∧ W.cell? ⟨w4.heap.size + 1, 1, none⟩ = some (.slice ay4 ny4 cy4) ∧ W.cell? ⟨w4.heap.size + 1, 2, none⟩ = some (.int .i64 1) ∧ W.cell? ⟨w4.heap.size + 1, 3, none⟩ = some (.slice by4 my4 dy4) := fun W F h => ⟨(h.box (w4.heap.size + 1, 34, [.int .i64 sy4, .slice ay4 ny4 cy4, .int .i64 1, .slice by4 my4 dy4]) mq1).cell 0, (h.box (w4.heap.size + 1, 34, [.int .i64 sy4, .slice ay4 ny4 cy4, .int .i64 1, .slice by4 my4 dy4]) mq1).cell 1, (h.box (w4.heap.size + 1, 34, [.int .i64 sy4, .slice ay4 ny4 cy4, .int .i64 1, .slice by4 my4 dy4]) mq1).cell 2, (h.box (w4.heap.size + 1, 34, [.int .i64 sy4, .slice ay4 ny4 cy4, .int .i64 1, .slice by4 my4 dy4]) mq1).cell 3⟩
    have KK := Lib.hid K0
    clear K0
    have K0 : ∀ W F x, Sf w (x :: [(gx5, 34, [.int .i64 sx5, .slice ax5 nx5 cx5, .int .i64 1, .slice bx5 mx5 dx5]), (w4.heap.size + 1, 34, [.int .i64 sy4, .slice ay4 ny4 cy4, .int .i64 1, .slice by4 my4 dy4]), (w4.heap.size, 34, [.int .i64 sx4, .slice ax4 nx4 cx4, .int .i64 1, .slice bx4 mx4 dx4]), (w3.heap.size + 1, 34, [.int .i64 sy3, .slice ay3 ny3 cy3, .int .i64 1, .slice by3 my3 dy3]), (w3.heap.size, 34, [.int .i64 sx3, .slice ax3 nx3 cx3, .int .i64 1, .slice bx3 mx3 dx3])]) F W → W.cell? ⟨w4.heap.size + 1, 0, none⟩ = some (.int .i64 sy4) ∧ W.cell? ⟨w4.heap.size + 1, 1, none⟩ = some (.slice ay4 ny4 cy4) ∧ W.cell? ⟨w4.heap.size + 1, 2, none⟩ = some (.int .i64 1) ∧ W.cell? ⟨w4.heap.size + 1, 3, none⟩ = some (.slice by4 my4 dy4) := fun W F x h => ⟨(h.box (w4.heap.size + 1, 34, [.int .i64 sy4, .slice ay4 ny4 cy4, .int .i64 1, .slice by4 my4 dy4]) mq2).cell 0, (h.box (w4.heap.size + 1, 34, [.int .i64 sy4, .slice ay4 ny4 cy4, .int .i64 1, .slice by4 my4 dy4]) mq2).cell 1, (h.box (w4.heap.size + 1, 34, [.int .i64 sy4, .slice ay4 ny4 cy4, .int .i64 1, .slice by4 my4 dy4]) mq2).cell 2, (h.box (w4.heap.size + 1, 34, [.int .i64 sy4, .slice ay4 ny4 cy4, .int .i64 1, .slice by4 my4 dy4]) mq2).cell 3⟩
    have KU := Lib.hid K0
    clear K0
    have N0 := Lib.hid R5.out.drew
    have Z0 := Lib.hid (R5.out.put [.int .i64 0, .slice none 0 0, .int .i64 0, .slice none 0 0] 34).drew
    clear R5
    have eN0 := KK.out _ _ N0.out
    have eZ0 := KU.out _ _ _ Z0.out
    have CN0 := Lib.hid (qint_t N0.out HQI.out HQQ.out)
    have CZ0 := Lib.hid (qint_t Z0.out HQI.out HQQ.out)
    go_region_held3 (fun W => W.cell? ⟨w4.heap.size + 1, 0, none⟩ = some (.int .i64 sy4) ∧ W.cell? ⟨w4.heap.size + 1, 1, none⟩ = some (.slice ay4 ny4 cy4) ∧ W.cell? ⟨w4.heap.size + 1, 2, none⟩ = some (.int .i64 1) ∧ W.cell? ⟨w4.heap.size + 1, 3, none⟩ = some (.slice by4 my4 dy4))
      (first | (with_reducible exact eN0) | (with_reducible exact eZ0) | (with_reducible exact eN1) | (with_reducible exact eZ1) | (with_reducible exact eB0_1) | (with_reducible exact eN2) | (with_reducible exact eZ2) | (with_reducible exact eRN) | (with_reducible exact eB1_2) | (with_reducible exact eRB) | (with_reducible exact eB0_2) | go_keep)
      (((first | go_at_call 22 | go_at_call 21 | (rw [if_pos (by rfl)]; go_simp) | skip); (first
          | (have hG := B0_1; clear hG; go_at_call 22; (with_reducible refine (CB0_1.out).mono ?_); rintro e yx6_1 ⟨sx6_1, ax6_1, nx6_1, cx6_1, bx6_1, mx6_1, dx6_1, rfl, hr, hb, hf, hg⟩; have E6_1 := Lib.hid hr.1.1; have B0_2 := Lib.hid (B0_1.out.ret2 hb hr.1.2 hf hr.2.2 hg); have FM := Lib.hid (hf.mono B0_1.out.below.size); have GM := Lib.hid (hg.mono B0_1.out.below.size); clear hr hb hf hg; have eB0_2 := KU.out _ _ _ B0_2.out; obtain ⟨z0, z1, z2, z3⟩ := Fb.cells4 (B0_2.out.box (w5.heap.size, 34, [.int .i64 0, .slice none 0 0, .int .i64 0, .slice none 0 0]) mq0); have u0 := (B0_2.out.box (w5.heap.size, 34, [.int .i64 0, .slice none 0 0, .int .i64 0, .slice none 0 0]) mq0).free 0; have u1 := (B0_2.out.box (w5.heap.size, 34, [.int .i64 0, .slice none 0 0, .int .i64 0, .slice none 0 0]) mq0).free 1; have u2 := (B0_2.out.box (w5.heap.size, 34, [.int .i64 0, .slice none 0 0, .int .i64 0, .slice none 0 0]) mq0).free 2; have u3 := (B0_2.out.box (w5.heap.size, 34, [.int .i64 0, .slice none 0 0, .int .i64 0, .slice none 0 0]) mq0).free 3; have RB := Lib.hid (Sf.set4 (pre := []) B0_2.out (.int .i64 sx6_1) (.slice ax6_1 nx6_1 cx6_1) (.int .i64 1) (.slice bx6_1 mx6_1 dx6_1)); have eRB := KU.out _ _ _ RB.out)
          | (have hG := Z1; clear hG; go_at_call 22; (with_reducible refine (CZ1.out).mono ?_); rintro e yx6_1 ⟨sx6_1, ax6_1, nx6_1, cx6_1, bx6_1, mx6_1, dx6_1, rfl, hr, hb, hf, hg⟩; have E6_1 := Lib.hid hr.1.1; have B1_2 := Lib.hid (Z1.out.ret2 hb hr.1.2 hf hr.2.2 hg); have FM := Lib.hid (hf.mono Z1.out.below.size); have GM := Lib.hid (hg.mono Z1.out.below.size); clear hr hb hf hg; have eB1_2 := KU.out _ _ _ B1_2.out; obtain ⟨z0, z1, z2, z3⟩ := Fb.cells4 (B1_2.out.box (yx6_0.heap.size, 34, [.int .i64 0, .slice none 0 0, .int .i64 0, .slice none 0 0]) mq0); have u0 := (B1_2.out.box (yx6_0.heap.size, 34, [.int .i64 0, .slice none 0 0, .int .i64 0, .slice none 0 0]) mq0).free 0; have u1 := (B1_2.out.box (yx6_0.heap.size, 34, [.int .i64 0, .slice none 0 0, .int .i64 0, .slice none 0 0]) mq0).free 1; have u2 := (B1_2.out.box (yx6_0.heap.size, 34, [.int .i64 0, .slice none 0 0, .int .i64 0, .slice none 0 0]) mq0).free 2; have u3 := (B1_2.out.box (yx6_0.heap.size, 34, [.int .i64 0, .slice none 0 0, .int .i64 0, .slice none 0 0]) mq0).free 3; have RB := Lib.hid (Sf.set4 (pre := []) B1_2.out (.int .i64 sx6_1) (.slice ax6_1 nx6_1 cx6_1) (.int .i64 1) (.slice bx6_1 mx6_1 dx6_1)); have eRB := KU.out _ _ _ RB.out)
          | (have hG := N1; clear hG; go_at_call 22; (with_reducible refine (CN1.out).mono ?_); rintro e yx6_1 ⟨sx6_1, ax6_1, nx6_1, cx6_1, bx6_1, mx6_1, dx6_1, rfl, hr, hb, hf, hg⟩; have E6_1 := Lib.hid hr.1.1; have N2 := Lib.hid (N1.out.ret2 hb hr.1.2 hf hr.2.2 hg); have FM := Lib.hid (hf.mono N1.out.below.size); have GM := Lib.hid (hg.mono N1.out.below.size); clear hr hb hf hg; have eN2 := KK.out _ _ N2.out; have Z2 := Lib.hid (N2.out.put [.int .i64 0, .slice none 0 0, .int .i64 0, .slice none 0 0] 34); have eZ2 := KU.out _ _ _ Z2.out; have RN := Lib.hid (N2.out.put [.int .i64 sx6_1, .slice ax6_1 nx6_1 cx6_1, .int .i64 1, .slice bx6_1 mx6_1 dx6_1] 34); have eRN := KU.out _ _ _ RN.out)
          | (have hG := Z0; clear hG; go_at_call 21; (with_reducible refine (CZ0.out).mono ?_); rintro e yx6_0 ⟨sx6_0, ax6_0, nx6_0, cx6_0, bx6_0, mx6_0, dx6_0, rfl, hr, hb, hf, hg⟩; have E6_0 := Lib.hid hr.1.1; have B0_1 := Lib.hid (Z0.out.ret2 hb hr.1.2 hf hr.2.2 hg); clear hr hb hf hg; have eB0_1 := KU.out _ _ _ B0_1.out; have CB0_1 := Lib.hid (fsub_r (B0_1.out.fr (v := .slice ay4 ny4 cy4) (u := .slice by4 my4 dy4) (r := UQ) mq6 mq7 D4.out) (B0_1.out.fr (v := .slice ax6_0 nx6_0 cx6_0) (u := .slice bx6_0 mx6_0 dx6_0) (r := QQ) mq0 mq1 E6_0.out) LU2.out LQ.out HE2.out))
          | (have hG := N0; clear hG; go_at_call 21; (with_reducible refine (CN0.out).mono ?_); rintro e yx6_0 ⟨sx6_0, ax6_0, nx6_0, cx6_0, bx6_0, mx6_0, dx6_0, rfl, hr, hb, hf, hg⟩; have E6_0 := Lib.hid hr.1.1; have N1 := Lib.hid (N0.out.ret2 hb hr.1.2 hf hr.2.2 hg); clear hr hb hf hg; have eN1 := KK.out _ _ N1.out; have Z1 := Lib.hid (N1.out.put [.int .i64 0, .slice none 0 0, .int .i64 0, .slice none 0 0] 34); have eZ1 := KU.out _ _ _ Z1.out; have CN1 := Lib.hid (fsub_r (N1.out.fr (v := .slice ay4 ny4 cy4) (u := .slice by4 my4 dy4) (r := UQ) mq6 mq7 D4.out) (N1.out.fr (v := .slice ax6_0 nx6_0 cx6_0) (u := .slice bx6_0 mx6_0 dx6_0) (r := QQ) mq0 mq1 E6_0.out) LU2.out LQ.out HE2.out); have CZ1 := Lib.hid (fsub_r (Z1.out.fr (v := .slice ay4 ny4 cy4) (u := .slice by4 my4 dy4) (r := UQ) mq6 mq7 D4.out) (Z1.out.fr (v := .slice ax6_0 nx6_0 cx6_0) (u := .slice bx6_0 mx6_0 dx6_0) (r := QQ) mq0 mq1 E6_0.out) LU2.out LQ.out HE2.out))); (try dsimp only)))
    all_goals (go_wp2_with fail; go_meet; refine ⟨rfl, ?_⟩; first | exact Lib.hid ⟨_, _, _, _, _, _, _, _, rfl, E6_1.out, FM.out, GM.out, Sf.facts RN.out (by simp)⟩ | exact Lib.hid ⟨_, _, _, _, _, _, _, _, rfl, E6_1.out, FM.out, GM.out, Sf.facts RB.out (by simp)⟩)
  case rest =>
  obtain ⟨rfl, hq⟩ := hcut
  obtain ⟨gx6, sx6, ax6, nx6, cx6, bx6, mx6, dx6, rfl, esx6, ffx6, fgx6, hsx6⟩ := hq.out
  obtain ⟨w6, rfl⟩ : ∃ W, W = wc := ⟨_, rfl⟩
  have R6 := Lib.hid hsx6
  have E6 := Lib.hid esx6
  have FF6 := Lib.hid ffx6
  have FG6 := Lib.hid fgx6
  clear hq esx6 ffx6 fgx6 hsx6 R5
  obtain ⟨q3, q4, q5, q6⟩ := Fb.cells4 (R6.out.box (w4.heap.size, 34, [.int .i64 sx4, .slice ax4 nx4 cx4, .int .i64 1, .slice bx4 mx4 dx4]) mq3)
  obtain ⟨q7, q8, q9, q10⟩ := Fb.cells4 (R6.out.box (w3.heap.size, 34, [.int .i64 sx3, .slice ax3 nx3 cx3, .int .i64 1, .slice bx3 mx3 dx3]) mq5)
  go_wp2_with fail
  clear q3 q4 q5 q6 q7 q8 q9 q10
  refine (rfcmp_r (R6.out.fr (v := .slice ax3 nx3 cx3) (u := .slice bx3 mx3 dx3) (r := LO) mq8 mq9 E3.out) (R6.out.fr (v := .slice ax4 nx4 cx4) (u := .slice bx4 mx4 dx4) (r := LP) mq4 mq5 E4.out) LL.out LL2.out HK1.out).mono ?_
  rintro e w7 ⟨rfl, hb⟩
  have R7 := Lib.hid (R6.out.later hb)
  clear hb
  obtain ⟨q11, q12, q13, q14⟩ := Fb.cells4 (R7.out.box (w4.heap.size + 1, 34, [.int .i64 sy4, .slice ay4 ny4 cy4, .int .i64 1, .slice by4 my4 dy4]) mq2)
  obtain ⟨q15, q16, q17, q18⟩ := Fb.cells4 (R7.out.box (w3.heap.size + 1, 34, [.int .i64 sy3, .slice ay3 ny3 cy3, .int .i64 1, .slice by3 my3 dy3]) mq4)
  go_wp2_with fail
  clear q11 q12 q13 q14 q15 q16 q17 q18
  refine (rfcmp_r (R7.out.fr (v := .slice ay3 ny3 cy3) (u := .slice by3 my3 dy3) (r := UP) mq10 mq11 D3.out) (R7.out.fr (v := .slice ay4 ny4 cy4) (u := .slice by4 my4 dy4) (r := UQ) mq6 mq7 D4.out) LU.out LU2.out HK2.out).mono ?_
  rintro e w8 ⟨rfl, hb⟩
  have R8 := Lib.hid (R7.out.later hb)
  clear hb
  obtain ⟨q19, q20, q21, q22⟩ := Fb.cells4 (R8.out.box (gx6, 34, [.int .i64 sx6, .slice ax6 nx6 cx6, .int .i64 1, .slice bx6 mx6 dx6]) mq0)
  obtain ⟨q23, q24, q25, q26⟩ := Fb.cells4 (R8.out.box (gx5, 34, [.int .i64 sx5, .slice ax5 nx5 cx5, .int .i64 1, .slice bx5 mx5 dx5]) mq1)
  go_wp2_with fail
  clear q19 q20 q21 q22 q23 q24 q25 q26
  refine (rfcmp_r (R8.out.fr (v := .slice ax5 nx5 cx5) (u := .slice bx5 mx5 dx5) (r := ERA) mq2 mq3 E5.out) (R8.out.fr (v := .slice ax6 nx6 cx6) (u := .slice bx6 mx6 dx6) (r := ERB) mq0 mq1 E6.out) LE.out LE2.out HK3.out).mono ?_
  rintro e w9 ⟨rfl, hb⟩
  have R9 := Lib.hid (R8.out.later hb)
  clear hb
  go_wp2_with fail
  refine (find_any (HC.out.later R9.out.below) HN.out HL.out HFI.out HFB.out).mono ?_
  rintro e w10 ⟨rfl, hb⟩
  have R10 := Lib.hid (R9.out.later hb)
  clear hb
  obtain ⟨x0, x1_, x2_, x3, x4, x5⟩ := HX.out _ R10.out.below
  go_wp2_with fail
  clear x0 x1_ x2_ x3 x4 x5
  refine (HEE.out _).mono ?_
  rintro e w11 ⟨sx11, ax11, nx11, cx11, bx11, mx11, dx11, rfl, hr, hb, hf, hg⟩
  have E11 := Lib.hid hr.1.1
  have R11 := Lib.hid (R10.out.ret2 hb hr.1.2 hf hr.2.2 hg)
  have FF11 := Lib.hid (hf.mono R10.out.below.size)
  have FG11 := Lib.hid (hg.mono R10.out.below.size)
  clear hr hb hf hg
  have P27 := Lib.hid (R11.out.put [.int .i64 0, .slice none 0 0, .int .i64 0, .slice none 0 0] 34)
  have T27 := Lib.hid (Sf.row (pre := []) P27.out [.int .i64 sx11, .slice ax11 nx11 cx11, .int .i64 1, .slice bx11 mx11 dx11])
  obtain ⟨V27, hV27⟩ : ∃ V, ((w11.alloc (.cells #[.int .i64 0, .slice none 0 0, .int .i64 0, .slice none 0 0] 34)).setRow w11.heap.size #[.int .i64 sx11, .slice ax11 nx11 cx11, .int .i64 1, .slice bx11 mx11 dx11]) = V := ⟨_, rfl⟩
  have T27 : Hid (Sf w ([] ++ (w11.heap.size, 34, [.int .i64 sx11, .slice ax11 nx11 cx11, .int .i64 1, .slice bx11 mx11 dx11]) :: [(gx6, 34, [.int .i64 sx6, .slice ax6 nx6 cx6, .int .i64 1, .slice bx6 mx6 dx6]), (gx5, 34, [.int .i64 sx5, .slice ax5 nx5 cx5, .int .i64 1, .slice bx5 mx5 dx5]), (w4.heap.size + 1, 34, [.int .i64 sy4, .slice ay4 ny4 cy4, .int .i64 1, .slice by4 my4 dy4]), (w4.heap.size, 34, [.int .i64 sx4, .slice ax4 nx4 cx4, .int .i64 1, .slice bx4 mx4 dx4]), (w3.heap.size + 1, 34, [.int .i64 sy3, .slice ay3 ny3 cy3, .int .i64 1, .slice by3 my3 dy3]), (w3.heap.size, 34, [.int .i64 sx3, .slice ax3 nx3 cx3, .int .i64 1, .slice bx3 mx3 dx3])]) _ V27) := Lib.hid (by have := T27.out; rw [← hV27]; exact this)
  have HV27 := Lib.hid hV27
  clear hV27
  obtain ⟨q28, q29, q30, q31⟩ := Fb.cells4 (T27.out.box (w11.heap.size, 34, [.int .i64 sx11, .slice ax11 nx11 cx11, .int .i64 1, .slice bx11 mx11 dx11]) mq0)
  obtain ⟨q32, q33, q34, q35⟩ := Fb.cells4 (T27.out.box (gx5, 34, [.int .i64 sx5, .slice ax5 nx5 cx5, .int .i64 1, .slice bx5 mx5 dx5]) mq2)
  go_wp2_with (first | (refine wpList_store_row rfl _ _ _ rfl _ #[.int .i64 sx11, .slice ax11 nx11 cx11, .int .i64 1, .slice bx11 mx11 dx11] rfl rfl _ _ (P27.out.box _ mq0) (by kernel_rfl) rfl (by simp [Value.oneCell']) ?_; rw [HV27.out]))
  clear q28 q29 q30 q31 q32 q33 q34 q35
  refine (fsub_r (T27.out.fr (v := .slice ax11 nx11 cx11) (u := .slice bx11 mx11 dx11) (r := ERC) mq0 mq1 E11.out) (T27.out.fr (v := .slice ax5 nx5 cx5) (u := .slice bx5 mx5 dx5) (r := ERA) mq4 mq5 E5.out) L3.out LE.out HE6.out).mono ?_
  rintro e w12 ⟨sx12, ax12, nx12, cx12, bx12, mx12, dx12, rfl, hr, hb, hf, hg⟩
  have E12 := Lib.hid hr.1.1
  have R12 := Lib.hid (T27.out.ret2 hb hr.1.2 hf hr.2.2 hg)
  have FF12 := Lib.hid (hf.mono T27.out.below.size)
  have FG12 := Lib.hid (hg.mono T27.out.below.size)
  clear hr hb hf hg
  have P36 := Lib.hid (R12.out.put [.int .i64 0, .slice none 0 0, .int .i64 0, .slice none 0 0] 34)
  have T36 := Lib.hid (Sf.row (pre := []) P36.out [.int .i64 sx12, .slice ax12 nx12 cx12, .int .i64 1, .slice bx12 mx12 dx12])
  obtain ⟨V36, hV36⟩ : ∃ V, ((w12.alloc (.cells #[.int .i64 0, .slice none 0 0, .int .i64 0, .slice none 0 0] 34)).setRow w12.heap.size #[.int .i64 sx12, .slice ax12 nx12 cx12, .int .i64 1, .slice bx12 mx12 dx12]) = V := ⟨_, rfl⟩
  have T36 : Hid (Sf w ([] ++ (w12.heap.size, 34, [.int .i64 sx12, .slice ax12 nx12 cx12, .int .i64 1, .slice bx12 mx12 dx12]) :: [(w11.heap.size, 34, [.int .i64 sx11, .slice ax11 nx11 cx11, .int .i64 1, .slice bx11 mx11 dx11]), (gx6, 34, [.int .i64 sx6, .slice ax6 nx6 cx6, .int .i64 1, .slice bx6 mx6 dx6]), (gx5, 34, [.int .i64 sx5, .slice ax5 nx5 cx5, .int .i64 1, .slice bx5 mx5 dx5]), (w4.heap.size + 1, 34, [.int .i64 sy4, .slice ay4 ny4 cy4, .int .i64 1, .slice by4 my4 dy4]), (w4.heap.size, 34, [.int .i64 sx4, .slice ax4 nx4 cx4, .int .i64 1, .slice bx4 mx4 dx4]), (w3.heap.size + 1, 34, [.int .i64 sy3, .slice ay3 ny3 cy3, .int .i64 1, .slice by3 my3 dy3]), (w3.heap.size, 34, [.int .i64 sx3, .slice ax3 nx3 cx3, .int .i64 1, .slice bx3 mx3 dx3])]) _ V36) := Lib.hid (by have := T36.out; rw [← hV36]; exact this)
  have HV36 := Lib.hid hV36
  clear hV36
  go_upto_region 19 with (first | (refine wpList_store_row rfl _ _ _ rfl _ #[.int .i64 sx12, .slice ax12 nx12 cx12, .int .i64 1, .slice bx12 mx12 dx12] rfl rfl _ _ (P36.out.box _ mq0) (by kernel_rfl) rfl (by simp [Value.oneCell']) ?_; rw [HV36.out]))
  go_cut [14] from 156 to 170 (fun u wx => u = .bool true ∧ Hid (Sf w [(w12.heap.size, 34, [.int .i64 sx12, .slice ax12 nx12 cx12, .int .i64 1, .slice bx12 mx12 dx12]), (w11.heap.size, 34, [.int .i64 sx11, .slice ax11 nx11 cx11, .int .i64 1, .slice bx11 mx11 dx11]), (gx6, 34, [.int .i64 sx6, .slice ax6 nx6 cx6, .int .i64 1, .slice bx6 mx6 dx6]), (gx5, 34, [.int .i64 sx5, .slice ax5 nx5 cx5, .int .i64 1, .slice bx5 mx5 dx5]), (w4.heap.size + 1, 34, [.int .i64 sy4, .slice ay4 ny4 cy4, .int .i64 1, .slice by4 my4 dy4]), (w4.heap.size, 34, [.int .i64 sx4, .slice ax4 nx4 cx4, .int .i64 1, .slice bx4 mx4 dx4]), (w3.heap.size + 1, 34, [.int .i64 sy3, .slice ay3 ny3 cy3, .int .i64 1, .slice by3 my3 dy3]), (w3.heap.size, 34, [.int .i64 sx3, .slice ax3 nx3 cx3, .int .i64 1, .slice bx3 mx3 dx3])] [(.slice ax12 nx12 cx12, digs (DR).num.natAbs), (.slice bx12 mx12 dx12, digs (((DR).den : Int)).natAbs), (.slice ax11 nx11 cx11, digs (ERC).num.natAbs), (.slice bx11 mx11 dx11, digs (((ERC).den : Int)).natAbs), (.slice ax6 nx6 cx6, digs (ERB).num.natAbs), (.slice bx6 mx6 dx6, digs (((ERB).den : Int)).natAbs), (.slice ax5 nx5 cx5, digs (ERA).num.natAbs), (.slice bx5 mx5 dx5, digs (((ERA).den : Int)).natAbs), (.slice ax4 nx4 cx4, digs (LP).num.natAbs), (.slice bx4 mx4 dx4, digs (((LP).den : Int)).natAbs), (.slice ay4 ny4 cy4, digs (UQ).num.natAbs), (.slice by4 my4 dy4, digs (((UQ).den : Int)).natAbs), (.slice ax3 nx3 cx3, digs (LO).num.natAbs), (.slice bx3 mx3 dx3, digs (((LO).den : Int)).natAbs), (.slice ay3 ny3 cy3, digs (UP).num.natAbs), (.slice by3 my3 dy3, digs (((UP).den : Int)).natAbs)] wx))
  case first =>
    have K0 : ∀ W F, Sf w [(w12.heap.size, 34, [.int .i64 sx12, .slice ax12 nx12 cx12, .int .i64 1, .slice bx12 mx12 dx12]), (w11.heap.size, 34, [.int .i64 sx11, .slice ax11 nx11 cx11, .int .i64 1, .slice bx11 mx11 dx11]), (gx6, 34, [.int .i64 sx6, .slice ax6 nx6 cx6, .int .i64 1, .slice bx6 mx6 dx6]), (gx5, 34, [.int .i64 sx5, .slice ax5 nx5 cx5, .int .i64 1, .slice bx5 mx5 dx5]), (w4.heap.size + 1, 34, [.int .i64 sy4, .slice ay4 ny4 cy4, .int .i64 1, .slice by4 my4 dy4]), (w4.heap.size, 34, [.int .i64 sx4, .slice ax4 nx4 cx4, .int .i64 1, .slice bx4 mx4 dx4]), (w3.heap.size + 1, 34, [.int .i64 sy3, .slice ay3 ny3 cy3, .int .i64 1, .slice by3 my3 dy3]), (w3.heap.size, 34, [.int .i64 sx3, .slice ax3 nx3 cx3, .int .i64 1, .slice bx3 mx3 dx3])] F W → W.cell? ⟨w12.heap.size, 0, none⟩ = some (.int .i64 sx12) ∧ W.cell? ⟨w12.heap.size, 1, none⟩ = some (.slice ax12 nx12 cx12) ∧ W.cell? ⟨w12.heap.size, 2, none⟩ = some (.int .i64 1) ∧ W.cell? ⟨w12.heap.size, 3, none⟩ = some (.slice bx12 mx12 dx12) ∧ W.cell? ⟨b, o + i * 6 + 5, none⟩ = some (.int .i64 c.dr) := fun W F h => ⟨(h.box (w12.heap.size, 34, [.int .i64 sx12, .slice ax12 nx12 cx12, .int .i64 1, .slice bx12 mx12 dx12]) mq0).cell 0, (h.box (w12.heap.size, 34, [.int .i64 sx12, .slice ax12 nx12 cx12, .int .i64 1, .slice bx12 mx12 dx12]) mq0).cell 1, (h.box (w12.heap.size, 34, [.int .i64 sx12, .slice ax12 nx12 cx12, .int .i64 1, .slice bx12 mx12 dx12]) mq0).cell 2, (h.box (w12.heap.size, 34, [.int .i64 sx12, .slice ax12 nx12 cx12, .int .i64 1, .slice bx12 mx12 dx12]) mq0).cell 3, (HX.out _ h.below).2.2.2.2.2⟩
    have KK := Lib.hid K0
    clear K0
    have N0 := Lib.hid T36.out.drew
    clear T36
    have e0 := KK.out _ _ N0.out
    go_region_held3 (fun W => W.cell? ⟨w12.heap.size, 0, none⟩ = some (.int .i64 sx12) ∧ W.cell? ⟨w12.heap.size, 1, none⟩ = some (.slice ax12 nx12 cx12) ∧ W.cell? ⟨w12.heap.size, 2, none⟩ = some (.int .i64 1) ∧ W.cell? ⟨w12.heap.size, 3, none⟩ = some (.slice bx12 mx12 dx12) ∧ W.cell? ⟨b, o + i * 6 + 5, none⟩ = some (.int .i64 c.dr))
      (first | (with_reducible exact e0) | (with_reducible exact e1) | (with_reducible exact e2))
      (((first | go_at_call 21 | go_at_call 16 | (rw [if_pos (by rfl)]; go_simp) | skip); (first
          | (have hG := N1; clear hG; go_at_call 16; (with_reducible refine (rfsame_t PN1_1.out PN1_2.out rfl).mono ?_); rintro e y13_1 ⟨rfl, hb⟩; have N2 := Lib.hid (N1.out.later hb); clear hb; have e2 := KK.out _ _ N2.out)
          | (have hG := N0; clear hG; go_at_call 21; (with_reducible refine (qint_r HX2.out HDR.out _).mono ?_); rintro e y13_0 ⟨sx13_0, ax13_0, nx13_0, cx13_0, bx13_0, mx13_0, dx13_0, rfl, hr, hb, hf, hg⟩; have E13_0 := Lib.hid hr.1.1; have N1 := Lib.hid (N0.out.ret2 hb hr.1.2 hf hr.2.2 hg); clear hr hb hf hg; have e1 := KK.out _ _ N1.out; have PN1_1 := Lib.hid (N1.out.fr (v := .slice ax12 nx12 cx12) (u := .slice bx12 mx12 dx12) (r := DR) mq2 mq3 E12.out); have PN1_2 := Lib.hid (N1.out.fr (v := .slice ax13_0 nx13_0 cx13_0) (u := .slice bx13_0 mx13_0 dx13_0) (r := DR) mq0 mq1 E13_0.out))); (try dsimp only)))
    all_goals (go_wp2_with fail; go_meet; exact ⟨rfl, Lib.hid (Sf.facts N2.out (by simp))⟩)
  case rest =>
  obtain ⟨rfl, hq⟩ := hcut
  obtain ⟨w13, rfl⟩ : ∃ W, W = wc := ⟨_, rfl⟩
  have R13 := Lib.hid hq.out
  clear hq T36
  go_wp2_with fail
  go_ret
  exact ⟨rfl, R13.out.below⟩

set_option maxHeartbeats 64000000 in
theorem grows_lo {a a2 : Option Addr} {n cap m cap2 : Nat} {l : List Ct} {rl : List (Int × Int)} {s r q d t : Int} {w : World} (hc : Cs w a l) (hn : l.length = n) (hl : n ≤ 120) (hr : Rs w a2 rl) (hm : rl.length = m) (hl2 : m ≤ 60) (hq : decide (q < r) = false) {i : Nat} {c : Ct} (h0 : fnd s d l = some (i, c)) (h2 : recB s d rl = false) (h3 : inR r = true) (h8 : inR q = true) (h6 : decide (t < c.fr) = true) : Calls Try.prog 5 #[.slice a n cap, .slice a2 m cap2, .int .i64 s, .int .i64 r, .int .i64 q, .int .i64 d, .int .i64 t] w (Gv (.bool true) w) := by
  have hci := (fnd_some _ h0).1
  have hcv := (fnd_some _ h0).2
  have h1 : fB s d l = true := by unfold fB; rw [h0]; rfl
  have hfi : fI s d l = i := by unfold fI; rw [h0]
  obtain ⟨h4, h5⟩ := cov_ok hcv
  have G := good_of h4 h3 h5
  have G2 := good_of h4 h8 h5
  have hle : r ≤ q := Int.not_lt.1 (of_decide_eq_false hq)
  obtain ⟨b, o, rfl, hb, hcells⟩ := hc.at hci
  have HX := Lib.hid hcells
  have hin : i < n := by rw [← hn]; exact (List.getElem?_eq_some_iff.1 hci).1
  have hat := fun W => cert_at b o n cap i hin W
  have g1 : decide ((i : Int) < 0) = false := by simp
  have g2 : decide ((n : Int) ≤ (i : Int)) = false := by simp; omega
  have g2n : decide (n ≤ i) = false := by simp; omega
  have HC := Lib.hid hc
  have HN := Lib.hid hn
  have HR := Lib.hid hr
  have HM := Lib.hid hm
  have HL : Hid (n ≤ 1000000) := Lib.hid (by omega)
  have HL2 : Hid (m ≤ 1000000) := Lib.hid (by omega)
  have HNB : Hid (n ≤ 9223372036854775807) := Lib.hid (by omega)
  have HMB : Hid (m ≤ 9223372036854775807) := Lib.hid (by omega)
  have HF : Hid ((decide ((n : Int) ≤ 120) && decide ((m : Int) ≤ 60)) = true) := Lib.hid (by simp; omega)
  have HFI := Lib.hid hfi
  have HFB := Lib.hid h1
  have HRB := Lib.hid h2
  have H3 := Lib.hid h3
  have H8 := Lib.hid h8
  have H4 := Lib.hid h4
  have HII : Hid (∀ W, RowKit.Below w.heap.size w W → Calls Try.prog 14 #[.slice (some ⟨b, o, none⟩) n cap, .slice a2 m cap2, .int .i64 s, .int .i64 r, .int .i64 d] W (It (lowR c r d) (highR c r d) W)) := Lib.hid (by
    have h0' := h0
    exact fun W hW => ivl_some (HC.out.later hW) HN.out HL.out (HR.out.later hW) HM.out HL2.out h0' HRB.out H3.out)
  have HJJ : Hid (∀ W, RowKit.Below w.heap.size w W → Calls Try.prog 14 #[.slice (some ⟨b, o, none⟩) n cap, .slice a2 m cap2, .int .i64 s, .int .i64 q, .int .i64 d] W (It (lowR c q d) (highR c q d) W)) := Lib.hid (by
    have h0' := h0
    exact fun W hW => ivl_some (HC.out.later hW) HN.out HL.out (HR.out.later hW) HM.out HL2.out h0' HRB.out H8.out)
  have h9 : inD c t = false := by
    unfold inD
    rw [show decide (c.fr ≤ t) = false by have := of_decide_eq_true h6; simp; omega]; rfl
  have H9 := Lib.hid h9
  clear h9
  have HEZ : Hid (∀ W, Calls Try.prog 12 #[.agg #[.int .i64 c.sc, .int .i64 c.fr, .int .i64 c.un, .int .i64 c.ut, .int .i64 c.pm, .int .i64 c.dr], .int .i64 r, .int .i64 t] W (Gz W)) := Lib.hid (fun W => error_ind H4.out H3.out H9.out)
  have LE := Lib.hid (G.err_sz.mono (j := 1000))
  have LE2 := Lib.hid (G2.err_sz.mono (j := 1000))
  have LR := Lib.hid (G.int.mono (j := 1000))
  have LQ := Lib.hid (G2.int.mono (j := 1000))
  have LL := Lib.hid (G.low_sz.mono (j := 1000))
  have LU := Lib.hid (G.high_sz.mono (j := 1000))
  have LL2 := Lib.hid (G2.low_sz.mono (j := 1000))
  have LU2 := Lib.hid (G2.high_sz.mono (j := 1000))
  have HRI : Hid (-9223372036854775808 ≤ r ∧ r ≤ 9223372036854775807) := Lib.hid (by have := G.r0; have := G.r1; omega)
  have HQI : Hid (-9223372036854775808 ≤ q ∧ q ≤ 9223372036854775807) := Lib.hid (by have := G2.r0; have := G2.r1; omega)
  have e1 : highR c r d - (r : Rat) = errR c r d := by unfold highR; grind
  have e2 : highR c q d - (q : Rat) = errR c q d := by unfold highR; grind
  have e3 := cmp_le0 (low_mono (c := c) (d := d) G.pm1 hle)
  have e4 := cmp_le0 (high_mono (c := c) (d := d) G.pm0 hle)
  have e5 := cmp_le0 (errR_mono (c := c) (d := d) G.pm0 hle)
  obtain ⟨ERA, hE1⟩ : ∃ E, errR c r d = E := ⟨_, rfl⟩
  obtain ⟨ERB, hE2⟩ : ∃ E, errR c q d = E := ⟨_, rfl⟩
  obtain ⟨RR, hRR⟩ : ∃ z, ((r : Int) : Rat) = z := ⟨_, rfl⟩
  obtain ⟨QQ, hQQ⟩ : ∃ z, ((q : Int) : Rat) = z := ⟨_, rfl⟩
  obtain ⟨LO, hLO⟩ : ∃ z, lowR c r d = z := ⟨_, rfl⟩
  obtain ⟨UP, hUP⟩ : ∃ z, highR c r d = z := ⟨_, rfl⟩
  obtain ⟨LP, hLP⟩ : ∃ z, lowR c q d = z := ⟨_, rfl⟩
  obtain ⟨UQ, hUQ⟩ : ∃ z, highR c q d = z := ⟨_, rfl⟩
  rw [hUP, hRR, hE1] at e1
  rw [hUQ, hQQ, hE2] at e2
  rw [hLO, hLP] at e3
  rw [hUP, hUQ] at e4
  rw [hE1, hE2] at e5
  rw [hE1] at LE
  rw [hE2] at LE2
  rw [hRR] at LR
  rw [hQQ] at LQ
  rw [hLO] at LL
  rw [hUP] at LU
  rw [hLP] at LL2
  rw [hUQ] at LU2
  rw [hLO, hUP] at HII
  rw [hLP, hUQ] at HJJ
  obtain ⟨k1, hk1⟩ : ∃ k, cmpR LO LP = k := ⟨_, rfl⟩
  obtain ⟨k2, hk2⟩ : ∃ k, cmpR UP UQ = k := ⟨_, rfl⟩
  obtain ⟨k3, hk3⟩ : ∃ k, cmpR ERA ERB = k := ⟨_, rfl⟩
  rw [hk1] at e3
  rw [hk2] at e4
  rw [hk3] at e5
  have HE1 := Lib.hid e1
  have HE2 := Lib.hid e2
  have HRR := Lib.hid hRR
  have HQQ := Lib.hid hQQ
  have HK1 := Lib.hid hk1
  have HK2 := Lib.hid hk2
  have HK3 := Lib.hid hk3
  clear hci hcv h4 h5 hb e1 e2 hE1 hE2 hRR hQQ hLO hUP hLP hUQ hk1 hk2 hk3 G G2 hle h0 h1 h2 h3 h8 H3 H8 H4 hfi hin hcells
  have s0 := (Sf.start w)
  try simp only [World.size_alloc] at s0
  have S0 := Lib.hid s0
  clear s0
  clear hc hn hl hr hm hl2
  go_enter Try.func5, Try.ntmps5
  go_wp2_with fail
  refine (sane_any).mono ?_
  rintro e w1 ⟨rfl, hb⟩
  have R1 := Lib.hid (S0.out.later hb)
  clear hb
  go_wp2_with fail
  refine (few_any HNB.out HMB.out HF.out).mono ?_
  rintro e w2 ⟨rfl, rfl⟩
  go_wp2_with fail
  refine (HII.out _ R1.out.below).mono ?_
  rintro e w3 ⟨sx3, ax3, nx3, cx3, bx3, mx3, dx3, sy3, ay3, ny3, cy3, by3, my3, dy3, rfl, hr, hq, hb, h1, h2, h3, h4⟩
  have E3 := Lib.hid hr.1.1
  have D3 := Lib.hid hq.1.1
  have R3 := Lib.hid (Sf.ret4 R1.out hb hr.1.2 h1 hr.2.2 h2 hq.1.2 h3 hq.2.2 h4)
  clear hr hq hb h1 h2 h3 h4
  have p1 := (R3.out.put [.int .i64 0, .slice none 0 0, .int .i64 0, .slice none 0 0] 34).put [.int .i64 0, .slice none 0 0, .int .i64 0, .slice none 0 0] 34
  try simp only [World.size_alloc] at p1
  have P1 := Lib.hid p1
  clear p1
  have Q1 := Lib.hid (Sf.row (pre := [(w3.heap.size + 1, 34, [.int .i64 0, .slice none 0 0, .int .i64 0, .slice none 0 0])]) P1.out [.int .i64 sx3, .slice ax3 nx3 cx3, .int .i64 1, .slice bx3 mx3 dx3])
  have T1 := Lib.hid (Sf.row (pre := []) Q1.out [.int .i64 sy3, .slice ay3 ny3 cy3, .int .i64 1, .slice by3 my3 dy3])
  obtain ⟨V1, hV1⟩ : ∃ V, ((((w3.alloc (.cells #[.int .i64 0, .slice none 0 0, .int .i64 0, .slice none 0 0] 34)).alloc (.cells #[.int .i64 0, .slice none 0 0, .int .i64 0, .slice none 0 0] 34)).setRow (w3.heap.size) #[.int .i64 sx3, .slice ax3 nx3 cx3, .int .i64 1, .slice bx3 mx3 dx3]).setRow (w3.heap.size + 1) #[.int .i64 sy3, .slice ay3 ny3 cy3, .int .i64 1, .slice by3 my3 dy3]) = V := ⟨_, rfl⟩
  have T1 : Hid (Sf w ([] ++ (w3.heap.size + 1, 34, [.int .i64 sy3, .slice ay3 ny3 cy3, .int .i64 1, .slice by3 my3 dy3]) :: (w3.heap.size, 34, [.int .i64 sx3, .slice ax3 nx3 cx3, .int .i64 1, .slice bx3 mx3 dx3]) :: []) _ V1) := Lib.hid (by have := T1.out; rw [← hV1]; exact this)
  have HV1 := Lib.hid hV1
  clear hV1
  go_wp2_with (first | (refine wpList_store_row rfl _ _ _ rfl _ #[.int .i64 sy3, .slice ay3 ny3 cy3, .int .i64 1, .slice by3 my3 dy3] rfl rfl _ _ (Q1.out.box _ mq0) (by kernel_rfl) rfl (by simp [Value.oneCell']) ?_; rw [HV1.out]) | refine wpList_store_row rfl _ _ _ rfl _ #[.int .i64 sx3, .slice ax3 nx3 cx3, .int .i64 1, .slice bx3 mx3 dx3] rfl rfl _ _ (P1.out.box _ mq1) (by kernel_rfl) rfl (by simp [Value.oneCell']) ?_)
  refine (HJJ.out _ T1.out.below).mono ?_
  rintro e w4 ⟨sx4, ax4, nx4, cx4, bx4, mx4, dx4, sy4, ay4, ny4, cy4, by4, my4, dy4, rfl, hr, hq, hb, h1, h2, h3, h4⟩
  have E4 := Lib.hid hr.1.1
  have D4 := Lib.hid hq.1.1
  have R4 := Lib.hid (Sf.ret4 T1.out hb hr.1.2 h1 hr.2.2 h2 hq.1.2 h3 hq.2.2 h4)
  clear hr hq hb h1 h2 h3 h4
  have p2 := (R4.out.put [.int .i64 0, .slice none 0 0, .int .i64 0, .slice none 0 0] 34).put [.int .i64 0, .slice none 0 0, .int .i64 0, .slice none 0 0] 34
  try simp only [World.size_alloc] at p2
  have P2 := Lib.hid p2
  clear p2
  have Q2 := Lib.hid (Sf.row (pre := [(w4.heap.size + 1, 34, [.int .i64 0, .slice none 0 0, .int .i64 0, .slice none 0 0])]) P2.out [.int .i64 sx4, .slice ax4 nx4 cx4, .int .i64 1, .slice bx4 mx4 dx4])
  have T2 := Lib.hid (Sf.row (pre := []) Q2.out [.int .i64 sy4, .slice ay4 ny4 cy4, .int .i64 1, .slice by4 my4 dy4])
  obtain ⟨V2, hV2⟩ : ∃ V, ((((w4.alloc (.cells #[.int .i64 0, .slice none 0 0, .int .i64 0, .slice none 0 0] 34)).alloc (.cells #[.int .i64 0, .slice none 0 0, .int .i64 0, .slice none 0 0] 34)).setRow (w4.heap.size) #[.int .i64 sx4, .slice ax4 nx4 cx4, .int .i64 1, .slice bx4 mx4 dx4]).setRow (w4.heap.size + 1) #[.int .i64 sy4, .slice ay4 ny4 cy4, .int .i64 1, .slice by4 my4 dy4]) = V := ⟨_, rfl⟩
  have T2 : Hid (Sf w ([] ++ (w4.heap.size + 1, 34, [.int .i64 sy4, .slice ay4 ny4 cy4, .int .i64 1, .slice by4 my4 dy4]) :: (w4.heap.size, 34, [.int .i64 sx4, .slice ax4 nx4 cx4, .int .i64 1, .slice bx4 mx4 dx4]) :: [(w3.heap.size + 1, 34, [.int .i64 sy3, .slice ay3 ny3 cy3, .int .i64 1, .slice by3 my3 dy3]), (w3.heap.size, 34, [.int .i64 sx3, .slice ax3 nx3 cx3, .int .i64 1, .slice bx3 mx3 dx3])]) _ V2) := Lib.hid (by have := T2.out; rw [← hV2]; exact this)
  have HV2 := Lib.hid hV2
  clear hV2
  go_upto_region 8 with (first | (refine wpList_store_row rfl _ _ _ rfl _ #[.int .i64 sy4, .slice ay4 ny4 cy4, .int .i64 1, .slice by4 my4 dy4] rfl rfl _ _ (Q2.out.box _ mq0) (by kernel_rfl) rfl (by simp [Value.oneCell']) ?_; rw [HV2.out]) | refine wpList_store_row rfl _ _ _ rfl _ #[.int .i64 sx4, .slice ax4 nx4 cx4, .int .i64 1, .slice bx4 mx4 dx4] rfl rfl _ _ (P2.out.box _ mq1) (by kernel_rfl) rfl (by simp [Value.oneCell']) ?_)
  go_cut [22, 23] from 70 to 76 (fun u v wx => v = .int .i64 0 ∧ Hid (∃ gq sq aq nq cq bq mq dq, u = .pointer (some ⟨gq, 0, none⟩) ∧ sq = (ERA).num.sign ∧ Fresh w.heap.size (.slice aq nq cq) ∧ Fresh w.heap.size (.slice bq mq dq) ∧ Sf w ((gq, 34, [.int .i64 sq, .slice aq nq cq, .int .i64 1, .slice bq mq dq]) :: [(w4.heap.size + 1, 34, [.int .i64 sy4, .slice ay4 ny4 cy4, .int .i64 1, .slice by4 my4 dy4]), (w4.heap.size, 34, [.int .i64 sx4, .slice ax4 nx4 cx4, .int .i64 1, .slice bx4 mx4 dx4]), (w3.heap.size + 1, 34, [.int .i64 sy3, .slice ay3 ny3 cy3, .int .i64 1, .slice by3 my3 dy3]), (w3.heap.size, 34, [.int .i64 sx3, .slice ax3 nx3 cx3, .int .i64 1, .slice bx3 mx3 dx3])]) ((.slice aq nq cq, digs (ERA).num.natAbs) :: (.slice bq mq dq, digs (((ERA).den : Int)).natAbs) :: [(.slice ax4 nx4 cx4, digs (LP).num.natAbs), (.slice bx4 mx4 dx4, digs (((LP).den : Int)).natAbs), (.slice ay4 ny4 cy4, digs (UQ).num.natAbs), (.slice by4 my4 dy4, digs (((UQ).den : Int)).natAbs), (.slice ax3 nx3 cx3, digs (LO).num.natAbs), (.slice bx3 mx3 dx3, digs (((LO).den : Int)).natAbs), (.slice ay3 ny3 cy3, digs (UP).num.natAbs), (.slice by3 my3 dy3, digs (((UP).den : Int)).natAbs)]) wx))
  case first =>
    have K0 : ∀ W F, Sf w [(w4.heap.size + 1, 34, [.int .i64 sy4, .slice ay4 ny4 cy4, .int .i64 1, .slice by4 my4 dy4]), (w4.heap.size, 34, [.int .i64 sx4, .slice ax4 nx4 cx4, .int .i64 1, .slice bx4 mx4 dx4]), (w3.heap.size + 1, 34, [.int .i64 sy3, .slice ay3 ny3 cy3, .int .i64 1, .slice by3 my3 dy3]), (w3.heap.size, 34, [.int .i64 sx3, .slice ax3 nx3 cx3, .int .i64 1, .slice bx3 mx3 dx3])] F W → W.cell? ⟨w3.heap.size + 1, 0, none⟩ = some (.int .i64 sy3) ∧ W.cell? ⟨w3.heap.size + 1, 1, none⟩ = some (.slice ay3 ny3 cy3) ∧ W.cell? ⟨w3.heap.size + 1, 2, none⟩ = some (.int .i64 1) ∧ W.cell? ⟨w3.heap.size + 1, 3, none⟩ = some (.slice by3 my3 dy3) := fun W F h => ⟨(h.box (w3.heap.size + 1, 34, [.int .i64 sy3, .slice ay3 ny3 cy3, .int .i64 1, .slice by3 my3 dy3]) mq2).cell 0, (h.box (w3.heap.size + 1, 34, [.int .i64 sy3, .slice ay3 ny3 cy3, .int .i64 1, .slice by3 my3 dy3]) mq2).cell 1, (h.box (w3.heap.size + 1, 34, [.int .i64 sy3, .slice ay3 ny3 cy3, .int .i64 1, .slice by3 my3 dy3]) mq2).cell 2, (h.box (w3.heap.size + 1, 34, [.int .i64 sy3, .slice ay3 ny3 cy3, .int .i64 1, .slice by3 my3 dy3]) mq2).cell 3⟩
    have KK := Lib.hid K0
    clear K0
    have K0 : ∀ W F x, Sf w (x :: [(w4.heap.size + 1, 34, [.int .i64 sy4, .slice ay4 ny4 cy4, .int .i64 1, .slice by4 my4 dy4]), (w4.heap.size, 34, [.int .i64 sx4, .slice ax4 nx4 cx4, .int .i64 1, .slice bx4 mx4 dx4]), (w3.heap.size + 1, 34, [.int .i64 sy3, .slice ay3 ny3 cy3, .int .i64 1, .slice by3 my3 dy3]), (w3.heap.size, 34, [.int .i64 sx3, .slice ax3 nx3 cx3, .int .i64 1, .slice bx3 mx3 dx3])]) F W → W.cell? ⟨w3.heap.size + 1, 0, none⟩ = some (.int .i64 sy3) ∧ W.cell? ⟨w3.heap.size + 1, 1, none⟩ = some (.slice ay3 ny3 cy3) ∧ W.cell? ⟨w3.heap.size + 1, 2, none⟩ = some (.int .i64 1) ∧ W.cell? ⟨w3.heap.size + 1, 3, none⟩ = some (.slice by3 my3 dy3) := fun W F x h => ⟨(h.box (w3.heap.size + 1, 34, [.int .i64 sy3, .slice ay3 ny3 cy3, .int .i64 1, .slice by3 my3 dy3]) mq3).cell 0, (h.box (w3.heap.size + 1, 34, [.int .i64 sy3, .slice ay3 ny3 cy3, .int .i64 1, .slice by3 my3 dy3]) mq3).cell 1, (h.box (w3.heap.size + 1, 34, [.int .i64 sy3, .slice ay3 ny3 cy3, .int .i64 1, .slice by3 my3 dy3]) mq3).cell 2, (h.box (w3.heap.size + 1, 34, [.int .i64 sy3, .slice ay3 ny3 cy3, .int .i64 1, .slice by3 my3 dy3]) mq3).cell 3⟩
    have KU := Lib.hid K0
    clear K0
    have N0 := Lib.hid T2.out.drew
    have Z0 := Lib.hid (T2.out.put [.int .i64 0, .slice none 0 0, .int .i64 0, .slice none 0 0] 34).drew
    clear T2
    have eN0 := KK.out _ _ N0.out
    have eZ0 := KU.out _ _ _ Z0.out
    have CN0 := Lib.hid (qint_t N0.out HRI.out HRR.out)
    have CZ0 := Lib.hid (qint_t Z0.out HRI.out HRR.out)
    go_region_held3 (fun W => W.cell? ⟨w3.heap.size + 1, 0, none⟩ = some (.int .i64 sy3) ∧ W.cell? ⟨w3.heap.size + 1, 1, none⟩ = some (.slice ay3 ny3 cy3) ∧ W.cell? ⟨w3.heap.size + 1, 2, none⟩ = some (.int .i64 1) ∧ W.cell? ⟨w3.heap.size + 1, 3, none⟩ = some (.slice by3 my3 dy3))
      (first | (with_reducible exact eN0) | (with_reducible exact eZ0) | (with_reducible exact eN1) | (with_reducible exact eZ1) | (with_reducible exact eB0_1) | (with_reducible exact eN2) | (with_reducible exact eZ2) | (with_reducible exact eRN) | (with_reducible exact eB1_2) | (with_reducible exact eRB) | (with_reducible exact eB0_2) | go_keep)
      (((first | go_at_call 22 | go_at_call 21 | (rw [if_pos (by rfl)]; go_simp) | skip); (first
          | (have hG := B0_1; clear hG; go_at_call 22; (with_reducible refine (CB0_1.out).mono ?_); rintro e yx5_1 ⟨sx5_1, ax5_1, nx5_1, cx5_1, bx5_1, mx5_1, dx5_1, rfl, hr, hb, hf, hg⟩; have E5_1 := Lib.hid hr.1.1; have B0_2 := Lib.hid (B0_1.out.ret2 hb hr.1.2 hf hr.2.2 hg); have FM := Lib.hid (hf.mono B0_1.out.below.size); have GM := Lib.hid (hg.mono B0_1.out.below.size); clear hr hb hf hg; have eB0_2 := KU.out _ _ _ B0_2.out; obtain ⟨z0, z1, z2, z3⟩ := Fb.cells4 (B0_2.out.box (V2.heap.size, 34, [.int .i64 0, .slice none 0 0, .int .i64 0, .slice none 0 0]) mq0); have u0 := (B0_2.out.box (V2.heap.size, 34, [.int .i64 0, .slice none 0 0, .int .i64 0, .slice none 0 0]) mq0).free 0; have u1 := (B0_2.out.box (V2.heap.size, 34, [.int .i64 0, .slice none 0 0, .int .i64 0, .slice none 0 0]) mq0).free 1; have u2 := (B0_2.out.box (V2.heap.size, 34, [.int .i64 0, .slice none 0 0, .int .i64 0, .slice none 0 0]) mq0).free 2; have u3 := (B0_2.out.box (V2.heap.size, 34, [.int .i64 0, .slice none 0 0, .int .i64 0, .slice none 0 0]) mq0).free 3; have RB := Lib.hid (Sf.set4 (pre := []) B0_2.out (.int .i64 sx5_1) (.slice ax5_1 nx5_1 cx5_1) (.int .i64 1) (.slice bx5_1 mx5_1 dx5_1)); have eRB := KU.out _ _ _ RB.out)
          | (have hG := Z1; clear hG; go_at_call 22; (with_reducible refine (CZ1.out).mono ?_); rintro e yx5_1 ⟨sx5_1, ax5_1, nx5_1, cx5_1, bx5_1, mx5_1, dx5_1, rfl, hr, hb, hf, hg⟩; have E5_1 := Lib.hid hr.1.1; have B1_2 := Lib.hid (Z1.out.ret2 hb hr.1.2 hf hr.2.2 hg); have FM := Lib.hid (hf.mono Z1.out.below.size); have GM := Lib.hid (hg.mono Z1.out.below.size); clear hr hb hf hg; have eB1_2 := KU.out _ _ _ B1_2.out; obtain ⟨z0, z1, z2, z3⟩ := Fb.cells4 (B1_2.out.box (yx5_0.heap.size, 34, [.int .i64 0, .slice none 0 0, .int .i64 0, .slice none 0 0]) mq0); have u0 := (B1_2.out.box (yx5_0.heap.size, 34, [.int .i64 0, .slice none 0 0, .int .i64 0, .slice none 0 0]) mq0).free 0; have u1 := (B1_2.out.box (yx5_0.heap.size, 34, [.int .i64 0, .slice none 0 0, .int .i64 0, .slice none 0 0]) mq0).free 1; have u2 := (B1_2.out.box (yx5_0.heap.size, 34, [.int .i64 0, .slice none 0 0, .int .i64 0, .slice none 0 0]) mq0).free 2; have u3 := (B1_2.out.box (yx5_0.heap.size, 34, [.int .i64 0, .slice none 0 0, .int .i64 0, .slice none 0 0]) mq0).free 3; have RB := Lib.hid (Sf.set4 (pre := []) B1_2.out (.int .i64 sx5_1) (.slice ax5_1 nx5_1 cx5_1) (.int .i64 1) (.slice bx5_1 mx5_1 dx5_1)); have eRB := KU.out _ _ _ RB.out)
          | (have hG := N1; clear hG; go_at_call 22; (with_reducible refine (CN1.out).mono ?_); rintro e yx5_1 ⟨sx5_1, ax5_1, nx5_1, cx5_1, bx5_1, mx5_1, dx5_1, rfl, hr, hb, hf, hg⟩; have E5_1 := Lib.hid hr.1.1; have N2 := Lib.hid (N1.out.ret2 hb hr.1.2 hf hr.2.2 hg); have FM := Lib.hid (hf.mono N1.out.below.size); have GM := Lib.hid (hg.mono N1.out.below.size); clear hr hb hf hg; have eN2 := KK.out _ _ N2.out; have Z2 := Lib.hid (N2.out.put [.int .i64 0, .slice none 0 0, .int .i64 0, .slice none 0 0] 34); have eZ2 := KU.out _ _ _ Z2.out; have RN := Lib.hid (N2.out.put [.int .i64 sx5_1, .slice ax5_1 nx5_1 cx5_1, .int .i64 1, .slice bx5_1 mx5_1 dx5_1] 34); have eRN := KU.out _ _ _ RN.out)
          | (have hG := Z0; clear hG; go_at_call 21; (with_reducible refine (CZ0.out).mono ?_); rintro e yx5_0 ⟨sx5_0, ax5_0, nx5_0, cx5_0, bx5_0, mx5_0, dx5_0, rfl, hr, hb, hf, hg⟩; have E5_0 := Lib.hid hr.1.1; have B0_1 := Lib.hid (Z0.out.ret2 hb hr.1.2 hf hr.2.2 hg); clear hr hb hf hg; have eB0_1 := KU.out _ _ _ B0_1.out; have CB0_1 := Lib.hid (fsub_r (B0_1.out.fr (v := .slice ay3 ny3 cy3) (u := .slice by3 my3 dy3) (r := UP) mq8 mq9 D3.out) (B0_1.out.fr (v := .slice ax5_0 nx5_0 cx5_0) (u := .slice bx5_0 mx5_0 dx5_0) (r := RR) mq0 mq1 E5_0.out) LU.out LR.out HE1.out))
          | (have hG := N0; clear hG; go_at_call 21; (with_reducible refine (CN0.out).mono ?_); rintro e yx5_0 ⟨sx5_0, ax5_0, nx5_0, cx5_0, bx5_0, mx5_0, dx5_0, rfl, hr, hb, hf, hg⟩; have E5_0 := Lib.hid hr.1.1; have N1 := Lib.hid (N0.out.ret2 hb hr.1.2 hf hr.2.2 hg); clear hr hb hf hg; have eN1 := KK.out _ _ N1.out; have Z1 := Lib.hid (N1.out.put [.int .i64 0, .slice none 0 0, .int .i64 0, .slice none 0 0] 34); have eZ1 := KU.out _ _ _ Z1.out; have CN1 := Lib.hid (fsub_r (N1.out.fr (v := .slice ay3 ny3 cy3) (u := .slice by3 my3 dy3) (r := UP) mq8 mq9 D3.out) (N1.out.fr (v := .slice ax5_0 nx5_0 cx5_0) (u := .slice bx5_0 mx5_0 dx5_0) (r := RR) mq0 mq1 E5_0.out) LU.out LR.out HE1.out); have CZ1 := Lib.hid (fsub_r (Z1.out.fr (v := .slice ay3 ny3 cy3) (u := .slice by3 my3 dy3) (r := UP) mq8 mq9 D3.out) (Z1.out.fr (v := .slice ax5_0 nx5_0 cx5_0) (u := .slice bx5_0 mx5_0 dx5_0) (r := RR) mq0 mq1 E5_0.out) LU.out LR.out HE1.out))); (try dsimp only)))
    all_goals (go_wp2_with fail; go_meet; refine ⟨rfl, ?_⟩; first | exact Lib.hid ⟨_, _, _, _, _, _, _, _, rfl, E5_1.out, FM.out, GM.out, Sf.facts RN.out (by simp)⟩ | exact Lib.hid ⟨_, _, _, _, _, _, _, _, rfl, E5_1.out, FM.out, GM.out, Sf.facts RB.out (by simp)⟩)
  case rest =>
  obtain ⟨rfl, hq⟩ := hcut
  obtain ⟨gx5, sx5, ax5, nx5, cx5, bx5, mx5, dx5, rfl, esx5, ffx5, fgx5, hsx5⟩ := hq.out
  obtain ⟨w5, rfl⟩ : ∃ W, W = wc := ⟨_, rfl⟩
  have R5 := Lib.hid hsx5
  have E5 := Lib.hid esx5
  have FF5 := Lib.hid ffx5
  have FG5 := Lib.hid fgx5
  clear hq esx5 ffx5 fgx5 hsx5 T2
  go_upto_region 9 with fail
  go_cut [24, 25] from 77 to 83 (fun u v wx => v = .int .i64 0 ∧ Hid (∃ gq sq aq nq cq bq mq dq, u = .pointer (some ⟨gq, 0, none⟩) ∧ sq = (ERB).num.sign ∧ Fresh w.heap.size (.slice aq nq cq) ∧ Fresh w.heap.size (.slice bq mq dq) ∧ Sf w ((gq, 34, [.int .i64 sq, .slice aq nq cq, .int .i64 1, .slice bq mq dq]) :: [(gx5, 34, [.int .i64 sx5, .slice ax5 nx5 cx5, .int .i64 1, .slice bx5 mx5 dx5]), (w4.heap.size + 1, 34, [.int .i64 sy4, .slice ay4 ny4 cy4, .int .i64 1, .slice by4 my4 dy4]), (w4.heap.size, 34, [.int .i64 sx4, .slice ax4 nx4 cx4, .int .i64 1, .slice bx4 mx4 dx4]), (w3.heap.size + 1, 34, [.int .i64 sy3, .slice ay3 ny3 cy3, .int .i64 1, .slice by3 my3 dy3]), (w3.heap.size, 34, [.int .i64 sx3, .slice ax3 nx3 cx3, .int .i64 1, .slice bx3 mx3 dx3])]) ((.slice aq nq cq, digs (ERB).num.natAbs) :: (.slice bq mq dq, digs (((ERB).den : Int)).natAbs) :: [(.slice ax5 nx5 cx5, digs (ERA).num.natAbs), (.slice bx5 mx5 dx5, digs (((ERA).den : Int)).natAbs), (.slice ax4 nx4 cx4, digs (LP).num.natAbs), (.slice bx4 mx4 dx4, digs (((LP).den : Int)).natAbs), (.slice ay4 ny4 cy4, digs (UQ).num.natAbs), (.slice by4 my4 dy4, digs (((UQ).den : Int)).natAbs), (.slice ax3 nx3 cx3, digs (LO).num.natAbs), (.slice bx3 mx3 dx3, digs (((LO).den : Int)).natAbs), (.slice ay3 ny3 cy3, digs (UP).num.natAbs), (.slice by3 my3 dy3, digs (((UP).den : Int)).natAbs)]) wx))
  case first =>
    have K0 : ∀ W F, Sf w [(gx5, 34, [.int .i64 sx5, .slice ax5 nx5 cx5, .int .i64 1, .slice bx5 mx5 dx5]), (w4.heap.size + 1, 34, [.int .i64 sy4, .slice ay4 ny4 cy4, .int .i64 1, .slice by4 my4 dy4]), (w4.heap.size, 34, [.int .i64 sx4, .slice ax4 nx4 cx4, .int .i64 1, .slice bx4 mx4 dx4]), (w3.heap.size + 1, 34, [.int .i64 sy3, .slice ay3 ny3 cy3, .int .i64 1, .slice by3 my3 dy3]), (w3.heap.size, 34, [.int .i64 sx3, .slice ax3 nx3 cx3, .int .i64 1, .slice bx3 mx3 dx3])] F W → W.cell? ⟨w4.heap.size + 1, 0, none⟩ = some (.int .i64 sy4) ∧ W.cell? ⟨w4.heap.size + 1, 1, none⟩ = some (.slice ay4 ny4 cy4) ∧ W.cell? ⟨w4.heap.size + 1, 2, none⟩ = some (.int .i64 1) ∧ W.cell? ⟨w4.heap.size + 1, 3, none⟩ = some (.slice by4 my4 dy4) := fun W F h => ⟨(h.box (w4.heap.size + 1, 34, [.int .i64 sy4, .slice ay4 ny4 cy4, .int .i64 1, .slice by4 my4 dy4]) mq1).cell 0, (h.box (w4.heap.size + 1, 34, [.int .i64 sy4, .slice ay4 ny4 cy4, .int .i64 1, .slice by4 my4 dy4]) mq1).cell 1, (h.box (w4.heap.size + 1, 34, [.int .i64 sy4, .slice ay4 ny4 cy4, .int .i64 1, .slice by4 my4 dy4]) mq1).cell 2, (h.box (w4.heap.size + 1, 34, [.int .i64 sy4, .slice ay4 ny4 cy4, .int .i64 1, .slice by4 my4 dy4]) mq1).cell 3⟩
    have KK := Lib.hid K0
    clear K0
    have K0 : ∀ W F x, Sf w (x :: [(gx5, 34, [.int .i64 sx5, .slice ax5 nx5 cx5, .int .i64 1, .slice bx5 mx5 dx5]), (w4.heap.size + 1, 34, [.int .i64 sy4, .slice ay4 ny4 cy4, .int .i64 1, .slice by4 my4 dy4]), (w4.heap.size, 34, [.int .i64 sx4, .slice ax4 nx4 cx4, .int .i64 1, .slice bx4 mx4 dx4]), (w3.heap.size + 1, 34, [.int .i64 sy3, .slice ay3 ny3 cy3, .int .i64 1, .slice by3 my3 dy3]), (w3.heap.size, 34, [.int .i64 sx3, .slice ax3 nx3 cx3, .int .i64 1, .slice bx3 mx3 dx3])]) F W → W.cell? ⟨w4.heap.size + 1, 0, none⟩ = some (.int .i64 sy4) ∧ W.cell? ⟨w4.heap.size + 1, 1, none⟩ = some (.slice ay4 ny4 cy4) ∧ W.cell? ⟨w4.heap.size + 1, 2, none⟩ = some (.int .i64 1) ∧ W.cell? ⟨w4.heap.size + 1, 3, none⟩ = some (.slice by4 my4 dy4) := fun W F x h => ⟨(h.box (w4.heap.size + 1, 34, [.int .i64 sy4, .slice ay4 ny4 cy4, .int .i64 1, .slice by4 my4 dy4]) mq2).cell 0, (h.box (w4.heap.size + 1, 34, [.int .i64 sy4, .slice ay4 ny4 cy4, .int .i64 1, .slice by4 my4 dy4]) mq2).cell 1, (h.box (w4.heap.size + 1, 34, [.int .i64 sy4, .slice ay4 ny4 cy4, .int .i64 1, .slice by4 my4 dy4]) mq2).cell 2, (h.box (w4.heap.size + 1, 34, [.int .i64 sy4, .slice ay4 ny4 cy4, .int .i64 1, .slice by4 my4 dy4]) mq2).cell 3⟩
    have KU := Lib.hid K0
    clear K0
    have N0 := Lib.hid R5.out.drew
    have Z0 := Lib.hid (R5.out.put [.int .i64 0, .slice none 0 0, .int .i64 0, .slice none 0 0] 34).drew
    clear R5
    have eN0 := KK.out _ _ N0.out
    have eZ0 := KU.out _ _ _ Z0.out
    have CN0 := Lib.hid (qint_t N0.out HQI.out HQQ.out)
    have CZ0 := Lib.hid (qint_t Z0.out HQI.out HQQ.out)
    go_region_held3 (fun W => W.cell? ⟨w4.heap.size + 1, 0, none⟩ = some (.int .i64 sy4) ∧ W.cell? ⟨w4.heap.size + 1, 1, none⟩ = some (.slice ay4 ny4 cy4) ∧ W.cell? ⟨w4.heap.size + 1, 2, none⟩ = some (.int .i64 1) ∧ W.cell? ⟨w4.heap.size + 1, 3, none⟩ = some (.slice by4 my4 dy4))
      (first | (with_reducible exact eN0) | (with_reducible exact eZ0) | (with_reducible exact eN1) | (with_reducible exact eZ1) | (with_reducible exact eB0_1) | (with_reducible exact eN2) | (with_reducible exact eZ2) | (with_reducible exact eRN) | (with_reducible exact eB1_2) | (with_reducible exact eRB) | (with_reducible exact eB0_2) | go_keep)
      (((first | go_at_call 22 | go_at_call 21 | (rw [if_pos (by rfl)]; go_simp) | skip); (first
          | (have hG := B0_1; clear hG; go_at_call 22; (with_reducible refine (CB0_1.out).mono ?_); rintro e yx6_1 ⟨sx6_1, ax6_1, nx6_1, cx6_1, bx6_1, mx6_1, dx6_1, rfl, hr, hb, hf, hg⟩; have E6_1 := Lib.hid hr.1.1; have B0_2 := Lib.hid (B0_1.out.ret2 hb hr.1.2 hf hr.2.2 hg); have FM := Lib.hid (hf.mono B0_1.out.below.size); have GM := Lib.hid (hg.mono B0_1.out.below.size); clear hr hb hf hg; have eB0_2 := KU.out _ _ _ B0_2.out; obtain ⟨z0, z1, z2, z3⟩ := Fb.cells4 (B0_2.out.box (w5.heap.size, 34, [.int .i64 0, .slice none 0 0, .int .i64 0, .slice none 0 0]) mq0); have u0 := (B0_2.out.box (w5.heap.size, 34, [.int .i64 0, .slice none 0 0, .int .i64 0, .slice none 0 0]) mq0).free 0; have u1 := (B0_2.out.box (w5.heap.size, 34, [.int .i64 0, .slice none 0 0, .int .i64 0, .slice none 0 0]) mq0).free 1; have u2 := (B0_2.out.box (w5.heap.size, 34, [.int .i64 0, .slice none 0 0, .int .i64 0, .slice none 0 0]) mq0).free 2; have u3 := (B0_2.out.box (w5.heap.size, 34, [.int .i64 0, .slice none 0 0, .int .i64 0, .slice none 0 0]) mq0).free 3; have RB := Lib.hid (Sf.set4 (pre := []) B0_2.out (.int .i64 sx6_1) (.slice ax6_1 nx6_1 cx6_1) (.int .i64 1) (.slice bx6_1 mx6_1 dx6_1)); have eRB := KU.out _ _ _ RB.out)
          | (have hG := Z1; clear hG; go_at_call 22; (with_reducible refine (CZ1.out).mono ?_); rintro e yx6_1 ⟨sx6_1, ax6_1, nx6_1, cx6_1, bx6_1, mx6_1, dx6_1, rfl, hr, hb, hf, hg⟩; have E6_1 := Lib.hid hr.1.1; have B1_2 := Lib.hid (Z1.out.ret2 hb hr.1.2 hf hr.2.2 hg); have FM := Lib.hid (hf.mono Z1.out.below.size); have GM := Lib.hid (hg.mono Z1.out.below.size); clear hr hb hf hg; have eB1_2 := KU.out _ _ _ B1_2.out; obtain ⟨z0, z1, z2, z3⟩ := Fb.cells4 (B1_2.out.box (yx6_0.heap.size, 34, [.int .i64 0, .slice none 0 0, .int .i64 0, .slice none 0 0]) mq0); have u0 := (B1_2.out.box (yx6_0.heap.size, 34, [.int .i64 0, .slice none 0 0, .int .i64 0, .slice none 0 0]) mq0).free 0; have u1 := (B1_2.out.box (yx6_0.heap.size, 34, [.int .i64 0, .slice none 0 0, .int .i64 0, .slice none 0 0]) mq0).free 1; have u2 := (B1_2.out.box (yx6_0.heap.size, 34, [.int .i64 0, .slice none 0 0, .int .i64 0, .slice none 0 0]) mq0).free 2; have u3 := (B1_2.out.box (yx6_0.heap.size, 34, [.int .i64 0, .slice none 0 0, .int .i64 0, .slice none 0 0]) mq0).free 3; have RB := Lib.hid (Sf.set4 (pre := []) B1_2.out (.int .i64 sx6_1) (.slice ax6_1 nx6_1 cx6_1) (.int .i64 1) (.slice bx6_1 mx6_1 dx6_1)); have eRB := KU.out _ _ _ RB.out)
          | (have hG := N1; clear hG; go_at_call 22; (with_reducible refine (CN1.out).mono ?_); rintro e yx6_1 ⟨sx6_1, ax6_1, nx6_1, cx6_1, bx6_1, mx6_1, dx6_1, rfl, hr, hb, hf, hg⟩; have E6_1 := Lib.hid hr.1.1; have N2 := Lib.hid (N1.out.ret2 hb hr.1.2 hf hr.2.2 hg); have FM := Lib.hid (hf.mono N1.out.below.size); have GM := Lib.hid (hg.mono N1.out.below.size); clear hr hb hf hg; have eN2 := KK.out _ _ N2.out; have Z2 := Lib.hid (N2.out.put [.int .i64 0, .slice none 0 0, .int .i64 0, .slice none 0 0] 34); have eZ2 := KU.out _ _ _ Z2.out; have RN := Lib.hid (N2.out.put [.int .i64 sx6_1, .slice ax6_1 nx6_1 cx6_1, .int .i64 1, .slice bx6_1 mx6_1 dx6_1] 34); have eRN := KU.out _ _ _ RN.out)
          | (have hG := Z0; clear hG; go_at_call 21; (with_reducible refine (CZ0.out).mono ?_); rintro e yx6_0 ⟨sx6_0, ax6_0, nx6_0, cx6_0, bx6_0, mx6_0, dx6_0, rfl, hr, hb, hf, hg⟩; have E6_0 := Lib.hid hr.1.1; have B0_1 := Lib.hid (Z0.out.ret2 hb hr.1.2 hf hr.2.2 hg); clear hr hb hf hg; have eB0_1 := KU.out _ _ _ B0_1.out; have CB0_1 := Lib.hid (fsub_r (B0_1.out.fr (v := .slice ay4 ny4 cy4) (u := .slice by4 my4 dy4) (r := UQ) mq6 mq7 D4.out) (B0_1.out.fr (v := .slice ax6_0 nx6_0 cx6_0) (u := .slice bx6_0 mx6_0 dx6_0) (r := QQ) mq0 mq1 E6_0.out) LU2.out LQ.out HE2.out))
          | (have hG := N0; clear hG; go_at_call 21; (with_reducible refine (CN0.out).mono ?_); rintro e yx6_0 ⟨sx6_0, ax6_0, nx6_0, cx6_0, bx6_0, mx6_0, dx6_0, rfl, hr, hb, hf, hg⟩; have E6_0 := Lib.hid hr.1.1; have N1 := Lib.hid (N0.out.ret2 hb hr.1.2 hf hr.2.2 hg); clear hr hb hf hg; have eN1 := KK.out _ _ N1.out; have Z1 := Lib.hid (N1.out.put [.int .i64 0, .slice none 0 0, .int .i64 0, .slice none 0 0] 34); have eZ1 := KU.out _ _ _ Z1.out; have CN1 := Lib.hid (fsub_r (N1.out.fr (v := .slice ay4 ny4 cy4) (u := .slice by4 my4 dy4) (r := UQ) mq6 mq7 D4.out) (N1.out.fr (v := .slice ax6_0 nx6_0 cx6_0) (u := .slice bx6_0 mx6_0 dx6_0) (r := QQ) mq0 mq1 E6_0.out) LU2.out LQ.out HE2.out); have CZ1 := Lib.hid (fsub_r (Z1.out.fr (v := .slice ay4 ny4 cy4) (u := .slice by4 my4 dy4) (r := UQ) mq6 mq7 D4.out) (Z1.out.fr (v := .slice ax6_0 nx6_0 cx6_0) (u := .slice bx6_0 mx6_0 dx6_0) (r := QQ) mq0 mq1 E6_0.out) LU2.out LQ.out HE2.out))); (try dsimp only)))
    all_goals (go_wp2_with fail; go_meet; refine ⟨rfl, ?_⟩; first | exact Lib.hid ⟨_, _, _, _, _, _, _, _, rfl, E6_1.out, FM.out, GM.out, Sf.facts RN.out (by simp)⟩ | exact Lib.hid ⟨_, _, _, _, _, _, _, _, rfl, E6_1.out, FM.out, GM.out, Sf.facts RB.out (by simp)⟩)
  case rest =>
  obtain ⟨rfl, hq⟩ := hcut
  obtain ⟨gx6, sx6, ax6, nx6, cx6, bx6, mx6, dx6, rfl, esx6, ffx6, fgx6, hsx6⟩ := hq.out
  obtain ⟨w6, rfl⟩ : ∃ W, W = wc := ⟨_, rfl⟩
  have R6 := Lib.hid hsx6
  have E6 := Lib.hid esx6
  have FF6 := Lib.hid ffx6
  have FG6 := Lib.hid fgx6
  clear hq esx6 ffx6 fgx6 hsx6 R5
  obtain ⟨q3, q4, q5, q6⟩ := Fb.cells4 (R6.out.box (w4.heap.size, 34, [.int .i64 sx4, .slice ax4 nx4 cx4, .int .i64 1, .slice bx4 mx4 dx4]) mq3)
  obtain ⟨q7, q8, q9, q10⟩ := Fb.cells4 (R6.out.box (w3.heap.size, 34, [.int .i64 sx3, .slice ax3 nx3 cx3, .int .i64 1, .slice bx3 mx3 dx3]) mq5)
  go_wp2_with fail
  clear q3 q4 q5 q6 q7 q8 q9 q10
  refine (rfcmp_r (R6.out.fr (v := .slice ax3 nx3 cx3) (u := .slice bx3 mx3 dx3) (r := LO) mq8 mq9 E3.out) (R6.out.fr (v := .slice ax4 nx4 cx4) (u := .slice bx4 mx4 dx4) (r := LP) mq4 mq5 E4.out) LL.out LL2.out HK1.out).mono ?_
  rintro e w7 ⟨rfl, hb⟩
  have R7 := Lib.hid (R6.out.later hb)
  clear hb
  obtain ⟨q11, q12, q13, q14⟩ := Fb.cells4 (R7.out.box (w4.heap.size + 1, 34, [.int .i64 sy4, .slice ay4 ny4 cy4, .int .i64 1, .slice by4 my4 dy4]) mq2)
  obtain ⟨q15, q16, q17, q18⟩ := Fb.cells4 (R7.out.box (w3.heap.size + 1, 34, [.int .i64 sy3, .slice ay3 ny3 cy3, .int .i64 1, .slice by3 my3 dy3]) mq4)
  go_wp2_with fail
  clear q11 q12 q13 q14 q15 q16 q17 q18
  refine (rfcmp_r (R7.out.fr (v := .slice ay3 ny3 cy3) (u := .slice by3 my3 dy3) (r := UP) mq10 mq11 D3.out) (R7.out.fr (v := .slice ay4 ny4 cy4) (u := .slice by4 my4 dy4) (r := UQ) mq6 mq7 D4.out) LU.out LU2.out HK2.out).mono ?_
  rintro e w8 ⟨rfl, hb⟩
  have R8 := Lib.hid (R7.out.later hb)
  clear hb
  obtain ⟨q19, q20, q21, q22⟩ := Fb.cells4 (R8.out.box (gx6, 34, [.int .i64 sx6, .slice ax6 nx6 cx6, .int .i64 1, .slice bx6 mx6 dx6]) mq0)
  obtain ⟨q23, q24, q25, q26⟩ := Fb.cells4 (R8.out.box (gx5, 34, [.int .i64 sx5, .slice ax5 nx5 cx5, .int .i64 1, .slice bx5 mx5 dx5]) mq1)
  go_wp2_with fail
  clear q19 q20 q21 q22 q23 q24 q25 q26
  refine (rfcmp_r (R8.out.fr (v := .slice ax5 nx5 cx5) (u := .slice bx5 mx5 dx5) (r := ERA) mq2 mq3 E5.out) (R8.out.fr (v := .slice ax6 nx6 cx6) (u := .slice bx6 mx6 dx6) (r := ERB) mq0 mq1 E6.out) LE.out LE2.out HK3.out).mono ?_
  rintro e w9 ⟨rfl, hb⟩
  have R9 := Lib.hid (R8.out.later hb)
  clear hb
  go_wp2_with fail
  refine (find_any (HC.out.later R9.out.below) HN.out HL.out HFI.out HFB.out).mono ?_
  rintro e w10 ⟨rfl, hb⟩
  have R10 := Lib.hid (R9.out.later hb)
  clear hb
  obtain ⟨x0, x1_, x2_, x3, x4, x5⟩ := HX.out _ R10.out.below
  go_wp2_with fail
  clear x0 x1_ x2_ x3 x4 x5
  refine (HEZ.out _).mono ?_
  rintro e w11 ⟨rfl, hb⟩
  have R11 := Lib.hid (R10.out.later hb)
  clear hb
  have P27 := Lib.hid (R11.out.put [.int .i64 0, .slice none 0 0, .int .i64 0, .slice none 0 0] 34)
  have T27 := Lib.hid (Sf.row (pre := []) P27.out [.int .i64 0, .slice none 0 0, .int .i64 0, .slice none 0 0])
  obtain ⟨V27, hV27⟩ : ∃ V, ((w11.alloc (.cells #[.int .i64 0, .slice none 0 0, .int .i64 0, .slice none 0 0] 34)).setRow w11.heap.size #[.int .i64 0, .slice none 0 0, .int .i64 0, .slice none 0 0]) = V := ⟨_, rfl⟩
  have T27 : Hid (Sf w ([] ++ (w11.heap.size, 34, [.int .i64 0, .slice none 0 0, .int .i64 0, .slice none 0 0]) :: [(gx6, 34, [.int .i64 sx6, .slice ax6 nx6 cx6, .int .i64 1, .slice bx6 mx6 dx6]), (gx5, 34, [.int .i64 sx5, .slice ax5 nx5 cx5, .int .i64 1, .slice bx5 mx5 dx5]), (w4.heap.size + 1, 34, [.int .i64 sy4, .slice ay4 ny4 cy4, .int .i64 1, .slice by4 my4 dy4]), (w4.heap.size, 34, [.int .i64 sx4, .slice ax4 nx4 cx4, .int .i64 1, .slice bx4 mx4 dx4]), (w3.heap.size + 1, 34, [.int .i64 sy3, .slice ay3 ny3 cy3, .int .i64 1, .slice by3 my3 dy3]), (w3.heap.size, 34, [.int .i64 sx3, .slice ax3 nx3 cx3, .int .i64 1, .slice bx3 mx3 dx3])]) _ V27) := Lib.hid (by have := T27.out; rw [← hV27]; exact this)
  have HV27 := Lib.hid hV27
  clear hV27
  obtain ⟨x0, x1_, x2_, x3, x4, x5⟩ := HX.out _ T27.out.below
  go_wp2_with (first | (refine wpList_store_row rfl _ _ _ rfl _ #[.int .i64 0, .slice none 0 0, .int .i64 0, .slice none 0 0] rfl rfl _ _ (P27.out.box _ mq0) (by kernel_rfl) rfl (by simp [Value.oneCell']) ?_; rw [HV27.out]))
  go_ret
  exact ⟨rfl, T27.out.below⟩

set_option maxHeartbeats 64000000 in
theorem grows_hi {a a2 : Option Addr} {n cap m cap2 : Nat} {l : List Ct} {rl : List (Int × Int)} {s r q d t : Int} {w : World} (hc : Cs w a l) (hn : l.length = n) (hl : n ≤ 120) (hr : Rs w a2 rl) (hm : rl.length = m) (hl2 : m ≤ 60) (hq : decide (q < r) = false) {i : Nat} {c : Ct} (h0 : fnd s d l = some (i, c)) (h2 : recB s d rl = false) (h3 : inR r = true) (h8 : inR q = true) (h6 : decide (t < c.fr) = false) (h7 : decide (c.un < t) = true) : Calls Try.prog 5 #[.slice a n cap, .slice a2 m cap2, .int .i64 s, .int .i64 r, .int .i64 q, .int .i64 d, .int .i64 t] w (Gv (.bool true) w) := by
  have hci := (fnd_some _ h0).1
  have hcv := (fnd_some _ h0).2
  have h1 : fB s d l = true := by unfold fB; rw [h0]; rfl
  have hfi : fI s d l = i := by unfold fI; rw [h0]
  obtain ⟨h4, h5⟩ := cov_ok hcv
  have G := good_of h4 h3 h5
  have G2 := good_of h4 h8 h5
  have hle : r ≤ q := Int.not_lt.1 (of_decide_eq_false hq)
  obtain ⟨b, o, rfl, hb, hcells⟩ := hc.at hci
  have HX := Lib.hid hcells
  have hin : i < n := by rw [← hn]; exact (List.getElem?_eq_some_iff.1 hci).1
  have hat := fun W => cert_at b o n cap i hin W
  have g1 : decide ((i : Int) < 0) = false := by simp
  have g2 : decide ((n : Int) ≤ (i : Int)) = false := by simp; omega
  have g2n : decide (n ≤ i) = false := by simp; omega
  have HC := Lib.hid hc
  have HN := Lib.hid hn
  have HR := Lib.hid hr
  have HM := Lib.hid hm
  have HL : Hid (n ≤ 1000000) := Lib.hid (by omega)
  have HL2 : Hid (m ≤ 1000000) := Lib.hid (by omega)
  have HNB : Hid (n ≤ 9223372036854775807) := Lib.hid (by omega)
  have HMB : Hid (m ≤ 9223372036854775807) := Lib.hid (by omega)
  have HF : Hid ((decide ((n : Int) ≤ 120) && decide ((m : Int) ≤ 60)) = true) := Lib.hid (by simp; omega)
  have HFI := Lib.hid hfi
  have HFB := Lib.hid h1
  have HRB := Lib.hid h2
  have H3 := Lib.hid h3
  have H8 := Lib.hid h8
  have H4 := Lib.hid h4
  have HII : Hid (∀ W, RowKit.Below w.heap.size w W → Calls Try.prog 14 #[.slice (some ⟨b, o, none⟩) n cap, .slice a2 m cap2, .int .i64 s, .int .i64 r, .int .i64 d] W (It (lowR c r d) (highR c r d) W)) := Lib.hid (by
    have h0' := h0
    exact fun W hW => ivl_some (HC.out.later hW) HN.out HL.out (HR.out.later hW) HM.out HL2.out h0' HRB.out H3.out)
  have HJJ : Hid (∀ W, RowKit.Below w.heap.size w W → Calls Try.prog 14 #[.slice (some ⟨b, o, none⟩) n cap, .slice a2 m cap2, .int .i64 s, .int .i64 q, .int .i64 d] W (It (lowR c q d) (highR c q d) W)) := Lib.hid (by
    have h0' := h0
    exact fun W hW => ivl_some (HC.out.later hW) HN.out HL.out (HR.out.later hW) HM.out HL2.out h0' HRB.out H8.out)
  have h9 : inD c t = false := by
    unfold inD
    rw [show decide (t ≤ c.un) = false by have := of_decide_eq_true h7; simp; omega, Bool.and_false]
  have H9 := Lib.hid h9
  clear h9
  have HEZ : Hid (∀ W, Calls Try.prog 12 #[.agg #[.int .i64 c.sc, .int .i64 c.fr, .int .i64 c.un, .int .i64 c.ut, .int .i64 c.pm, .int .i64 c.dr], .int .i64 r, .int .i64 t] W (Gz W)) := Lib.hid (fun W => error_ind H4.out H3.out H9.out)
  have LE := Lib.hid (G.err_sz.mono (j := 1000))
  have LE2 := Lib.hid (G2.err_sz.mono (j := 1000))
  have LR := Lib.hid (G.int.mono (j := 1000))
  have LQ := Lib.hid (G2.int.mono (j := 1000))
  have LL := Lib.hid (G.low_sz.mono (j := 1000))
  have LU := Lib.hid (G.high_sz.mono (j := 1000))
  have LL2 := Lib.hid (G2.low_sz.mono (j := 1000))
  have LU2 := Lib.hid (G2.high_sz.mono (j := 1000))
  have HRI : Hid (-9223372036854775808 ≤ r ∧ r ≤ 9223372036854775807) := Lib.hid (by have := G.r0; have := G.r1; omega)
  have HQI : Hid (-9223372036854775808 ≤ q ∧ q ≤ 9223372036854775807) := Lib.hid (by have := G2.r0; have := G2.r1; omega)
  have e1 : highR c r d - (r : Rat) = errR c r d := by unfold highR; grind
  have e2 : highR c q d - (q : Rat) = errR c q d := by unfold highR; grind
  have e3 := cmp_le0 (low_mono (c := c) (d := d) G.pm1 hle)
  have e4 := cmp_le0 (high_mono (c := c) (d := d) G.pm0 hle)
  have e5 := cmp_le0 (errR_mono (c := c) (d := d) G.pm0 hle)
  obtain ⟨ERA, hE1⟩ : ∃ E, errR c r d = E := ⟨_, rfl⟩
  obtain ⟨ERB, hE2⟩ : ∃ E, errR c q d = E := ⟨_, rfl⟩
  obtain ⟨RR, hRR⟩ : ∃ z, ((r : Int) : Rat) = z := ⟨_, rfl⟩
  obtain ⟨QQ, hQQ⟩ : ∃ z, ((q : Int) : Rat) = z := ⟨_, rfl⟩
  obtain ⟨LO, hLO⟩ : ∃ z, lowR c r d = z := ⟨_, rfl⟩
  obtain ⟨UP, hUP⟩ : ∃ z, highR c r d = z := ⟨_, rfl⟩
  obtain ⟨LP, hLP⟩ : ∃ z, lowR c q d = z := ⟨_, rfl⟩
  obtain ⟨UQ, hUQ⟩ : ∃ z, highR c q d = z := ⟨_, rfl⟩
  rw [hUP, hRR, hE1] at e1
  rw [hUQ, hQQ, hE2] at e2
  rw [hLO, hLP] at e3
  rw [hUP, hUQ] at e4
  rw [hE1, hE2] at e5
  rw [hE1] at LE
  rw [hE2] at LE2
  rw [hRR] at LR
  rw [hQQ] at LQ
  rw [hLO] at LL
  rw [hUP] at LU
  rw [hLP] at LL2
  rw [hUQ] at LU2
  rw [hLO, hUP] at HII
  rw [hLP, hUQ] at HJJ
  obtain ⟨k1, hk1⟩ : ∃ k, cmpR LO LP = k := ⟨_, rfl⟩
  obtain ⟨k2, hk2⟩ : ∃ k, cmpR UP UQ = k := ⟨_, rfl⟩
  obtain ⟨k3, hk3⟩ : ∃ k, cmpR ERA ERB = k := ⟨_, rfl⟩
  rw [hk1] at e3
  rw [hk2] at e4
  rw [hk3] at e5
  have HE1 := Lib.hid e1
  have HE2 := Lib.hid e2
  have HRR := Lib.hid hRR
  have HQQ := Lib.hid hQQ
  have HK1 := Lib.hid hk1
  have HK2 := Lib.hid hk2
  have HK3 := Lib.hid hk3
  clear hci hcv h4 h5 hb e1 e2 hE1 hE2 hRR hQQ hLO hUP hLP hUQ hk1 hk2 hk3 G G2 hle h0 h1 h2 h3 h8 H3 H8 H4 hfi hin hcells
  have s0 := (Sf.start w)
  try simp only [World.size_alloc] at s0
  have S0 := Lib.hid s0
  clear s0
  clear hc hn hl hr hm hl2
  go_enter Try.func5, Try.ntmps5
  go_wp2_with fail
  refine (sane_any).mono ?_
  rintro e w1 ⟨rfl, hb⟩
  have R1 := Lib.hid (S0.out.later hb)
  clear hb
  go_wp2_with fail
  refine (few_any HNB.out HMB.out HF.out).mono ?_
  rintro e w2 ⟨rfl, rfl⟩
  go_wp2_with fail
  refine (HII.out _ R1.out.below).mono ?_
  rintro e w3 ⟨sx3, ax3, nx3, cx3, bx3, mx3, dx3, sy3, ay3, ny3, cy3, by3, my3, dy3, rfl, hr, hq, hb, h1, h2, h3, h4⟩
  have E3 := Lib.hid hr.1.1
  have D3 := Lib.hid hq.1.1
  have R3 := Lib.hid (Sf.ret4 R1.out hb hr.1.2 h1 hr.2.2 h2 hq.1.2 h3 hq.2.2 h4)
  clear hr hq hb h1 h2 h3 h4
  have p1 := (R3.out.put [.int .i64 0, .slice none 0 0, .int .i64 0, .slice none 0 0] 34).put [.int .i64 0, .slice none 0 0, .int .i64 0, .slice none 0 0] 34
  try simp only [World.size_alloc] at p1
  have P1 := Lib.hid p1
  clear p1
  have Q1 := Lib.hid (Sf.row (pre := [(w3.heap.size + 1, 34, [.int .i64 0, .slice none 0 0, .int .i64 0, .slice none 0 0])]) P1.out [.int .i64 sx3, .slice ax3 nx3 cx3, .int .i64 1, .slice bx3 mx3 dx3])
  have T1 := Lib.hid (Sf.row (pre := []) Q1.out [.int .i64 sy3, .slice ay3 ny3 cy3, .int .i64 1, .slice by3 my3 dy3])
  obtain ⟨V1, hV1⟩ : ∃ V, ((((w3.alloc (.cells #[.int .i64 0, .slice none 0 0, .int .i64 0, .slice none 0 0] 34)).alloc (.cells #[.int .i64 0, .slice none 0 0, .int .i64 0, .slice none 0 0] 34)).setRow (w3.heap.size) #[.int .i64 sx3, .slice ax3 nx3 cx3, .int .i64 1, .slice bx3 mx3 dx3]).setRow (w3.heap.size + 1) #[.int .i64 sy3, .slice ay3 ny3 cy3, .int .i64 1, .slice by3 my3 dy3]) = V := ⟨_, rfl⟩
  have T1 : Hid (Sf w ([] ++ (w3.heap.size + 1, 34, [.int .i64 sy3, .slice ay3 ny3 cy3, .int .i64 1, .slice by3 my3 dy3]) :: (w3.heap.size, 34, [.int .i64 sx3, .slice ax3 nx3 cx3, .int .i64 1, .slice bx3 mx3 dx3]) :: []) _ V1) := Lib.hid (by have := T1.out; rw [← hV1]; exact this)
  have HV1 := Lib.hid hV1
  clear hV1
  go_wp2_with (first | (refine wpList_store_row rfl _ _ _ rfl _ #[.int .i64 sy3, .slice ay3 ny3 cy3, .int .i64 1, .slice by3 my3 dy3] rfl rfl _ _ (Q1.out.box _ mq0) (by kernel_rfl) rfl (by simp [Value.oneCell']) ?_; rw [HV1.out]) | refine wpList_store_row rfl _ _ _ rfl _ #[.int .i64 sx3, .slice ax3 nx3 cx3, .int .i64 1, .slice bx3 mx3 dx3] rfl rfl _ _ (P1.out.box _ mq1) (by kernel_rfl) rfl (by simp [Value.oneCell']) ?_)
  refine (HJJ.out _ T1.out.below).mono ?_
  rintro e w4 ⟨sx4, ax4, nx4, cx4, bx4, mx4, dx4, sy4, ay4, ny4, cy4, by4, my4, dy4, rfl, hr, hq, hb, h1, h2, h3, h4⟩
  have E4 := Lib.hid hr.1.1
  have D4 := Lib.hid hq.1.1
  have R4 := Lib.hid (Sf.ret4 T1.out hb hr.1.2 h1 hr.2.2 h2 hq.1.2 h3 hq.2.2 h4)
  clear hr hq hb h1 h2 h3 h4
  have p2 := (R4.out.put [.int .i64 0, .slice none 0 0, .int .i64 0, .slice none 0 0] 34).put [.int .i64 0, .slice none 0 0, .int .i64 0, .slice none 0 0] 34
  try simp only [World.size_alloc] at p2
  have P2 := Lib.hid p2
  clear p2
  have Q2 := Lib.hid (Sf.row (pre := [(w4.heap.size + 1, 34, [.int .i64 0, .slice none 0 0, .int .i64 0, .slice none 0 0])]) P2.out [.int .i64 sx4, .slice ax4 nx4 cx4, .int .i64 1, .slice bx4 mx4 dx4])
  have T2 := Lib.hid (Sf.row (pre := []) Q2.out [.int .i64 sy4, .slice ay4 ny4 cy4, .int .i64 1, .slice by4 my4 dy4])
  obtain ⟨V2, hV2⟩ : ∃ V, ((((w4.alloc (.cells #[.int .i64 0, .slice none 0 0, .int .i64 0, .slice none 0 0] 34)).alloc (.cells #[.int .i64 0, .slice none 0 0, .int .i64 0, .slice none 0 0] 34)).setRow (w4.heap.size) #[.int .i64 sx4, .slice ax4 nx4 cx4, .int .i64 1, .slice bx4 mx4 dx4]).setRow (w4.heap.size + 1) #[.int .i64 sy4, .slice ay4 ny4 cy4, .int .i64 1, .slice by4 my4 dy4]) = V := ⟨_, rfl⟩
  have T2 : Hid (Sf w ([] ++ (w4.heap.size + 1, 34, [.int .i64 sy4, .slice ay4 ny4 cy4, .int .i64 1, .slice by4 my4 dy4]) :: (w4.heap.size, 34, [.int .i64 sx4, .slice ax4 nx4 cx4, .int .i64 1, .slice bx4 mx4 dx4]) :: [(w3.heap.size + 1, 34, [.int .i64 sy3, .slice ay3 ny3 cy3, .int .i64 1, .slice by3 my3 dy3]), (w3.heap.size, 34, [.int .i64 sx3, .slice ax3 nx3 cx3, .int .i64 1, .slice bx3 mx3 dx3])]) _ V2) := Lib.hid (by have := T2.out; rw [← hV2]; exact this)
  have HV2 := Lib.hid hV2
  clear hV2
  go_upto_region 8 with (first | (refine wpList_store_row rfl _ _ _ rfl _ #[.int .i64 sy4, .slice ay4 ny4 cy4, .int .i64 1, .slice by4 my4 dy4] rfl rfl _ _ (Q2.out.box _ mq0) (by kernel_rfl) rfl (by simp [Value.oneCell']) ?_; rw [HV2.out]) | refine wpList_store_row rfl _ _ _ rfl _ #[.int .i64 sx4, .slice ax4 nx4 cx4, .int .i64 1, .slice bx4 mx4 dx4] rfl rfl _ _ (P2.out.box _ mq1) (by kernel_rfl) rfl (by simp [Value.oneCell']) ?_)
  go_cut [22, 23] from 70 to 76 (fun u v wx => v = .int .i64 0 ∧ Hid (∃ gq sq aq nq cq bq mq dq, u = .pointer (some ⟨gq, 0, none⟩) ∧ sq = (ERA).num.sign ∧ Fresh w.heap.size (.slice aq nq cq) ∧ Fresh w.heap.size (.slice bq mq dq) ∧ Sf w ((gq, 34, [.int .i64 sq, .slice aq nq cq, .int .i64 1, .slice bq mq dq]) :: [(w4.heap.size + 1, 34, [.int .i64 sy4, .slice ay4 ny4 cy4, .int .i64 1, .slice by4 my4 dy4]), (w4.heap.size, 34, [.int .i64 sx4, .slice ax4 nx4 cx4, .int .i64 1, .slice bx4 mx4 dx4]), (w3.heap.size + 1, 34, [.int .i64 sy3, .slice ay3 ny3 cy3, .int .i64 1, .slice by3 my3 dy3]), (w3.heap.size, 34, [.int .i64 sx3, .slice ax3 nx3 cx3, .int .i64 1, .slice bx3 mx3 dx3])]) ((.slice aq nq cq, digs (ERA).num.natAbs) :: (.slice bq mq dq, digs (((ERA).den : Int)).natAbs) :: [(.slice ax4 nx4 cx4, digs (LP).num.natAbs), (.slice bx4 mx4 dx4, digs (((LP).den : Int)).natAbs), (.slice ay4 ny4 cy4, digs (UQ).num.natAbs), (.slice by4 my4 dy4, digs (((UQ).den : Int)).natAbs), (.slice ax3 nx3 cx3, digs (LO).num.natAbs), (.slice bx3 mx3 dx3, digs (((LO).den : Int)).natAbs), (.slice ay3 ny3 cy3, digs (UP).num.natAbs), (.slice by3 my3 dy3, digs (((UP).den : Int)).natAbs)]) wx))
  case first =>
    have K0 : ∀ W F, Sf w [(w4.heap.size + 1, 34, [.int .i64 sy4, .slice ay4 ny4 cy4, .int .i64 1, .slice by4 my4 dy4]), (w4.heap.size, 34, [.int .i64 sx4, .slice ax4 nx4 cx4, .int .i64 1, .slice bx4 mx4 dx4]), (w3.heap.size + 1, 34, [.int .i64 sy3, .slice ay3 ny3 cy3, .int .i64 1, .slice by3 my3 dy3]), (w3.heap.size, 34, [.int .i64 sx3, .slice ax3 nx3 cx3, .int .i64 1, .slice bx3 mx3 dx3])] F W → W.cell? ⟨w3.heap.size + 1, 0, none⟩ = some (.int .i64 sy3) ∧ W.cell? ⟨w3.heap.size + 1, 1, none⟩ = some (.slice ay3 ny3 cy3) ∧ W.cell? ⟨w3.heap.size + 1, 2, none⟩ = some (.int .i64 1) ∧ W.cell? ⟨w3.heap.size + 1, 3, none⟩ = some (.slice by3 my3 dy3) := fun W F h => ⟨(h.box (w3.heap.size + 1, 34, [.int .i64 sy3, .slice ay3 ny3 cy3, .int .i64 1, .slice by3 my3 dy3]) mq2).cell 0, (h.box (w3.heap.size + 1, 34, [.int .i64 sy3, .slice ay3 ny3 cy3, .int .i64 1, .slice by3 my3 dy3]) mq2).cell 1, (h.box (w3.heap.size + 1, 34, [.int .i64 sy3, .slice ay3 ny3 cy3, .int .i64 1, .slice by3 my3 dy3]) mq2).cell 2, (h.box (w3.heap.size + 1, 34, [.int .i64 sy3, .slice ay3 ny3 cy3, .int .i64 1, .slice by3 my3 dy3]) mq2).cell 3⟩
    have KK := Lib.hid K0
    clear K0
    have K0 : ∀ W F x, Sf w (x :: [(w4.heap.size + 1, 34, [.int .i64 sy4, .slice ay4 ny4 cy4, .int .i64 1, .slice by4 my4 dy4]), (w4.heap.size, 34, [.int .i64 sx4, .slice ax4 nx4 cx4, .int .i64 1, .slice bx4 mx4 dx4]), (w3.heap.size + 1, 34, [.int .i64 sy3, .slice ay3 ny3 cy3, .int .i64 1, .slice by3 my3 dy3]), (w3.heap.size, 34, [.int .i64 sx3, .slice ax3 nx3 cx3, .int .i64 1, .slice bx3 mx3 dx3])]) F W → W.cell? ⟨w3.heap.size + 1, 0, none⟩ = some (.int .i64 sy3) ∧ W.cell? ⟨w3.heap.size + 1, 1, none⟩ = some (.slice ay3 ny3 cy3) ∧ W.cell? ⟨w3.heap.size + 1, 2, none⟩ = some (.int .i64 1) ∧ W.cell? ⟨w3.heap.size + 1, 3, none⟩ = some (.slice by3 my3 dy3) := fun W F x h => ⟨(h.box (w3.heap.size + 1, 34, [.int .i64 sy3, .slice ay3 ny3 cy3, .int .i64 1, .slice by3 my3 dy3]) mq3).cell 0, (h.box (w3.heap.size + 1, 34, [.int .i64 sy3, .slice ay3 ny3 cy3, .int .i64 1, .slice by3 my3 dy3]) mq3).cell 1, (h.box (w3.heap.size + 1, 34, [.int .i64 sy3, .slice ay3 ny3 cy3, .int .i64 1, .slice by3 my3 dy3]) mq3).cell 2, (h.box (w3.heap.size + 1, 34, [.int .i64 sy3, .slice ay3 ny3 cy3, .int .i64 1, .slice by3 my3 dy3]) mq3).cell 3⟩
    have KU := Lib.hid K0
    clear K0
    have N0 := Lib.hid T2.out.drew
    have Z0 := Lib.hid (T2.out.put [.int .i64 0, .slice none 0 0, .int .i64 0, .slice none 0 0] 34).drew
    clear T2
    have eN0 := KK.out _ _ N0.out
    have eZ0 := KU.out _ _ _ Z0.out
    have CN0 := Lib.hid (qint_t N0.out HRI.out HRR.out)
    have CZ0 := Lib.hid (qint_t Z0.out HRI.out HRR.out)
    go_region_held3 (fun W => W.cell? ⟨w3.heap.size + 1, 0, none⟩ = some (.int .i64 sy3) ∧ W.cell? ⟨w3.heap.size + 1, 1, none⟩ = some (.slice ay3 ny3 cy3) ∧ W.cell? ⟨w3.heap.size + 1, 2, none⟩ = some (.int .i64 1) ∧ W.cell? ⟨w3.heap.size + 1, 3, none⟩ = some (.slice by3 my3 dy3))
      (first | (with_reducible exact eN0) | (with_reducible exact eZ0) | (with_reducible exact eN1) | (with_reducible exact eZ1) | (with_reducible exact eB0_1) | (with_reducible exact eN2) | (with_reducible exact eZ2) | (with_reducible exact eRN) | (with_reducible exact eB1_2) | (with_reducible exact eRB) | (with_reducible exact eB0_2) | go_keep)
      (((first | go_at_call 22 | go_at_call 21 | (rw [if_pos (by rfl)]; go_simp) | skip); (first
          | (have hG := B0_1; clear hG; go_at_call 22; (with_reducible refine (CB0_1.out).mono ?_); rintro e yx5_1 ⟨sx5_1, ax5_1, nx5_1, cx5_1, bx5_1, mx5_1, dx5_1, rfl, hr, hb, hf, hg⟩; have E5_1 := Lib.hid hr.1.1; have B0_2 := Lib.hid (B0_1.out.ret2 hb hr.1.2 hf hr.2.2 hg); have FM := Lib.hid (hf.mono B0_1.out.below.size); have GM := Lib.hid (hg.mono B0_1.out.below.size); clear hr hb hf hg; have eB0_2 := KU.out _ _ _ B0_2.out; obtain ⟨z0, z1, z2, z3⟩ := Fb.cells4 (B0_2.out.box (V2.heap.size, 34, [.int .i64 0, .slice none 0 0, .int .i64 0, .slice none 0 0]) mq0); have u0 := (B0_2.out.box (V2.heap.size, 34, [.int .i64 0, .slice none 0 0, .int .i64 0, .slice none 0 0]) mq0).free 0; have u1 := (B0_2.out.box (V2.heap.size, 34, [.int .i64 0, .slice none 0 0, .int .i64 0, .slice none 0 0]) mq0).free 1; have u2 := (B0_2.out.box (V2.heap.size, 34, [.int .i64 0, .slice none 0 0, .int .i64 0, .slice none 0 0]) mq0).free 2; have u3 := (B0_2.out.box (V2.heap.size, 34, [.int .i64 0, .slice none 0 0, .int .i64 0, .slice none 0 0]) mq0).free 3; have RB := Lib.hid (Sf.set4 (pre := []) B0_2.out (.int .i64 sx5_1) (.slice ax5_1 nx5_1 cx5_1) (.int .i64 1) (.slice bx5_1 mx5_1 dx5_1)); have eRB := KU.out _ _ _ RB.out)
          | (have hG := Z1; clear hG; go_at_call 22; (with_reducible refine (CZ1.out).mono ?_); rintro e yx5_1 ⟨sx5_1, ax5_1, nx5_1, cx5_1, bx5_1, mx5_1, dx5_1, rfl, hr, hb, hf, hg⟩; have E5_1 := Lib.hid hr.1.1; have B1_2 := Lib.hid (Z1.out.ret2 hb hr.1.2 hf hr.2.2 hg); have FM := Lib.hid (hf.mono Z1.out.below.size); have GM := Lib.hid (hg.mono Z1.out.below.size); clear hr hb hf hg; have eB1_2 := KU.out _ _ _ B1_2.out; obtain ⟨z0, z1, z2, z3⟩ := Fb.cells4 (B1_2.out.box (yx5_0.heap.size, 34, [.int .i64 0, .slice none 0 0, .int .i64 0, .slice none 0 0]) mq0); have u0 := (B1_2.out.box (yx5_0.heap.size, 34, [.int .i64 0, .slice none 0 0, .int .i64 0, .slice none 0 0]) mq0).free 0; have u1 := (B1_2.out.box (yx5_0.heap.size, 34, [.int .i64 0, .slice none 0 0, .int .i64 0, .slice none 0 0]) mq0).free 1; have u2 := (B1_2.out.box (yx5_0.heap.size, 34, [.int .i64 0, .slice none 0 0, .int .i64 0, .slice none 0 0]) mq0).free 2; have u3 := (B1_2.out.box (yx5_0.heap.size, 34, [.int .i64 0, .slice none 0 0, .int .i64 0, .slice none 0 0]) mq0).free 3; have RB := Lib.hid (Sf.set4 (pre := []) B1_2.out (.int .i64 sx5_1) (.slice ax5_1 nx5_1 cx5_1) (.int .i64 1) (.slice bx5_1 mx5_1 dx5_1)); have eRB := KU.out _ _ _ RB.out)
          | (have hG := N1; clear hG; go_at_call 22; (with_reducible refine (CN1.out).mono ?_); rintro e yx5_1 ⟨sx5_1, ax5_1, nx5_1, cx5_1, bx5_1, mx5_1, dx5_1, rfl, hr, hb, hf, hg⟩; have E5_1 := Lib.hid hr.1.1; have N2 := Lib.hid (N1.out.ret2 hb hr.1.2 hf hr.2.2 hg); have FM := Lib.hid (hf.mono N1.out.below.size); have GM := Lib.hid (hg.mono N1.out.below.size); clear hr hb hf hg; have eN2 := KK.out _ _ N2.out; have Z2 := Lib.hid (N2.out.put [.int .i64 0, .slice none 0 0, .int .i64 0, .slice none 0 0] 34); have eZ2 := KU.out _ _ _ Z2.out; have RN := Lib.hid (N2.out.put [.int .i64 sx5_1, .slice ax5_1 nx5_1 cx5_1, .int .i64 1, .slice bx5_1 mx5_1 dx5_1] 34); have eRN := KU.out _ _ _ RN.out)
          | (have hG := Z0; clear hG; go_at_call 21; (with_reducible refine (CZ0.out).mono ?_); rintro e yx5_0 ⟨sx5_0, ax5_0, nx5_0, cx5_0, bx5_0, mx5_0, dx5_0, rfl, hr, hb, hf, hg⟩; have E5_0 := Lib.hid hr.1.1; have B0_1 := Lib.hid (Z0.out.ret2 hb hr.1.2 hf hr.2.2 hg); clear hr hb hf hg; have eB0_1 := KU.out _ _ _ B0_1.out; have CB0_1 := Lib.hid (fsub_r (B0_1.out.fr (v := .slice ay3 ny3 cy3) (u := .slice by3 my3 dy3) (r := UP) mq8 mq9 D3.out) (B0_1.out.fr (v := .slice ax5_0 nx5_0 cx5_0) (u := .slice bx5_0 mx5_0 dx5_0) (r := RR) mq0 mq1 E5_0.out) LU.out LR.out HE1.out))
          | (have hG := N0; clear hG; go_at_call 21; (with_reducible refine (CN0.out).mono ?_); rintro e yx5_0 ⟨sx5_0, ax5_0, nx5_0, cx5_0, bx5_0, mx5_0, dx5_0, rfl, hr, hb, hf, hg⟩; have E5_0 := Lib.hid hr.1.1; have N1 := Lib.hid (N0.out.ret2 hb hr.1.2 hf hr.2.2 hg); clear hr hb hf hg; have eN1 := KK.out _ _ N1.out; have Z1 := Lib.hid (N1.out.put [.int .i64 0, .slice none 0 0, .int .i64 0, .slice none 0 0] 34); have eZ1 := KU.out _ _ _ Z1.out; have CN1 := Lib.hid (fsub_r (N1.out.fr (v := .slice ay3 ny3 cy3) (u := .slice by3 my3 dy3) (r := UP) mq8 mq9 D3.out) (N1.out.fr (v := .slice ax5_0 nx5_0 cx5_0) (u := .slice bx5_0 mx5_0 dx5_0) (r := RR) mq0 mq1 E5_0.out) LU.out LR.out HE1.out); have CZ1 := Lib.hid (fsub_r (Z1.out.fr (v := .slice ay3 ny3 cy3) (u := .slice by3 my3 dy3) (r := UP) mq8 mq9 D3.out) (Z1.out.fr (v := .slice ax5_0 nx5_0 cx5_0) (u := .slice bx5_0 mx5_0 dx5_0) (r := RR) mq0 mq1 E5_0.out) LU.out LR.out HE1.out))); (try dsimp only)))
    all_goals (go_wp2_with fail; go_meet; refine ⟨rfl, ?_⟩; first | exact Lib.hid ⟨_, _, _, _, _, _, _, _, rfl, E5_1.out, FM.out, GM.out, Sf.facts RN.out (by simp)⟩ | exact Lib.hid ⟨_, _, _, _, _, _, _, _, rfl, E5_1.out, FM.out, GM.out, Sf.facts RB.out (by simp)⟩)
  case rest =>
  obtain ⟨rfl, hq⟩ := hcut
  obtain ⟨gx5, sx5, ax5, nx5, cx5, bx5, mx5, dx5, rfl, esx5, ffx5, fgx5, hsx5⟩ := hq.out
  obtain ⟨w5, rfl⟩ : ∃ W, W = wc := ⟨_, rfl⟩
  have R5 := Lib.hid hsx5
  have E5 := Lib.hid esx5
  have FF5 := Lib.hid ffx5
  have FG5 := Lib.hid fgx5
  clear hq esx5 ffx5 fgx5 hsx5 T2
  go_upto_region 9 with fail
  go_cut [24, 25] from 77 to 83 (fun u v wx => v = .int .i64 0 ∧ Hid (∃ gq sq aq nq cq bq mq dq, u = .pointer (some ⟨gq, 0, none⟩) ∧ sq = (ERB).num.sign ∧ Fresh w.heap.size (.slice aq nq cq) ∧ Fresh w.heap.size (.slice bq mq dq) ∧ Sf w ((gq, 34, [.int .i64 sq, .slice aq nq cq, .int .i64 1, .slice bq mq dq]) :: [(gx5, 34, [.int .i64 sx5, .slice ax5 nx5 cx5, .int .i64 1, .slice bx5 mx5 dx5]), (w4.heap.size + 1, 34, [.int .i64 sy4, .slice ay4 ny4 cy4, .int .i64 1, .slice by4 my4 dy4]), (w4.heap.size, 34, [.int .i64 sx4, .slice ax4 nx4 cx4, .int .i64 1, .slice bx4 mx4 dx4]), (w3.heap.size + 1, 34, [.int .i64 sy3, .slice ay3 ny3 cy3, .int .i64 1, .slice by3 my3 dy3]), (w3.heap.size, 34, [.int .i64 sx3, .slice ax3 nx3 cx3, .int .i64 1, .slice bx3 mx3 dx3])]) ((.slice aq nq cq, digs (ERB).num.natAbs) :: (.slice bq mq dq, digs (((ERB).den : Int)).natAbs) :: [(.slice ax5 nx5 cx5, digs (ERA).num.natAbs), (.slice bx5 mx5 dx5, digs (((ERA).den : Int)).natAbs), (.slice ax4 nx4 cx4, digs (LP).num.natAbs), (.slice bx4 mx4 dx4, digs (((LP).den : Int)).natAbs), (.slice ay4 ny4 cy4, digs (UQ).num.natAbs), (.slice by4 my4 dy4, digs (((UQ).den : Int)).natAbs), (.slice ax3 nx3 cx3, digs (LO).num.natAbs), (.slice bx3 mx3 dx3, digs (((LO).den : Int)).natAbs), (.slice ay3 ny3 cy3, digs (UP).num.natAbs), (.slice by3 my3 dy3, digs (((UP).den : Int)).natAbs)]) wx))
  case first =>
    have K0 : ∀ W F, Sf w [(gx5, 34, [.int .i64 sx5, .slice ax5 nx5 cx5, .int .i64 1, .slice bx5 mx5 dx5]), (w4.heap.size + 1, 34, [.int .i64 sy4, .slice ay4 ny4 cy4, .int .i64 1, .slice by4 my4 dy4]), (w4.heap.size, 34, [.int .i64 sx4, .slice ax4 nx4 cx4, .int .i64 1, .slice bx4 mx4 dx4]), (w3.heap.size + 1, 34, [.int .i64 sy3, .slice ay3 ny3 cy3, .int .i64 1, .slice by3 my3 dy3]), (w3.heap.size, 34, [.int .i64 sx3, .slice ax3 nx3 cx3, .int .i64 1, .slice bx3 mx3 dx3])] F W → W.cell? ⟨w4.heap.size + 1, 0, none⟩ = some (.int .i64 sy4) ∧ W.cell? ⟨w4.heap.size + 1, 1, none⟩ = some (.slice ay4 ny4 cy4) ∧ W.cell? ⟨w4.heap.size + 1, 2, none⟩ = some (.int .i64 1) ∧ W.cell? ⟨w4.heap.size + 1, 3, none⟩ = some (.slice by4 my4 dy4) := fun W F h => ⟨(h.box (w4.heap.size + 1, 34, [.int .i64 sy4, .slice ay4 ny4 cy4, .int .i64 1, .slice by4 my4 dy4]) mq1).cell 0, (h.box (w4.heap.size + 1, 34, [.int .i64 sy4, .slice ay4 ny4 cy4, .int .i64 1, .slice by4 my4 dy4]) mq1).cell 1, (h.box (w4.heap.size + 1, 34, [.int .i64 sy4, .slice ay4 ny4 cy4, .int .i64 1, .slice by4 my4 dy4]) mq1).cell 2, (h.box (w4.heap.size + 1, 34, [.int .i64 sy4, .slice ay4 ny4 cy4, .int .i64 1, .slice by4 my4 dy4]) mq1).cell 3⟩
    have KK := Lib.hid K0
    clear K0
    have K0 : ∀ W F x, Sf w (x :: [(gx5, 34, [.int .i64 sx5, .slice ax5 nx5 cx5, .int .i64 1, .slice bx5 mx5 dx5]), (w4.heap.size + 1, 34, [.int .i64 sy4, .slice ay4 ny4 cy4, .int .i64 1, .slice by4 my4 dy4]), (w4.heap.size, 34, [.int .i64 sx4, .slice ax4 nx4 cx4, .int .i64 1, .slice bx4 mx4 dx4]), (w3.heap.size + 1, 34, [.int .i64 sy3, .slice ay3 ny3 cy3, .int .i64 1, .slice by3 my3 dy3]), (w3.heap.size, 34, [.int .i64 sx3, .slice ax3 nx3 cx3, .int .i64 1, .slice bx3 mx3 dx3])]) F W → W.cell? ⟨w4.heap.size + 1, 0, none⟩ = some (.int .i64 sy4) ∧ W.cell? ⟨w4.heap.size + 1, 1, none⟩ = some (.slice ay4 ny4 cy4) ∧ W.cell? ⟨w4.heap.size + 1, 2, none⟩ = some (.int .i64 1) ∧ W.cell? ⟨w4.heap.size + 1, 3, none⟩ = some (.slice by4 my4 dy4) := fun W F x h => ⟨(h.box (w4.heap.size + 1, 34, [.int .i64 sy4, .slice ay4 ny4 cy4, .int .i64 1, .slice by4 my4 dy4]) mq2).cell 0, (h.box (w4.heap.size + 1, 34, [.int .i64 sy4, .slice ay4 ny4 cy4, .int .i64 1, .slice by4 my4 dy4]) mq2).cell 1, (h.box (w4.heap.size + 1, 34, [.int .i64 sy4, .slice ay4 ny4 cy4, .int .i64 1, .slice by4 my4 dy4]) mq2).cell 2, (h.box (w4.heap.size + 1, 34, [.int .i64 sy4, .slice ay4 ny4 cy4, .int .i64 1, .slice by4 my4 dy4]) mq2).cell 3⟩
    have KU := Lib.hid K0
    clear K0
    have N0 := Lib.hid R5.out.drew
    have Z0 := Lib.hid (R5.out.put [.int .i64 0, .slice none 0 0, .int .i64 0, .slice none 0 0] 34).drew
    clear R5
    have eN0 := KK.out _ _ N0.out
    have eZ0 := KU.out _ _ _ Z0.out
    have CN0 := Lib.hid (qint_t N0.out HQI.out HQQ.out)
    have CZ0 := Lib.hid (qint_t Z0.out HQI.out HQQ.out)
    go_region_held3 (fun W => W.cell? ⟨w4.heap.size + 1, 0, none⟩ = some (.int .i64 sy4) ∧ W.cell? ⟨w4.heap.size + 1, 1, none⟩ = some (.slice ay4 ny4 cy4) ∧ W.cell? ⟨w4.heap.size + 1, 2, none⟩ = some (.int .i64 1) ∧ W.cell? ⟨w4.heap.size + 1, 3, none⟩ = some (.slice by4 my4 dy4))
      (first | (with_reducible exact eN0) | (with_reducible exact eZ0) | (with_reducible exact eN1) | (with_reducible exact eZ1) | (with_reducible exact eB0_1) | (with_reducible exact eN2) | (with_reducible exact eZ2) | (with_reducible exact eRN) | (with_reducible exact eB1_2) | (with_reducible exact eRB) | (with_reducible exact eB0_2) | go_keep)
      (((first | go_at_call 22 | go_at_call 21 | (rw [if_pos (by rfl)]; go_simp) | skip); (first
          | (have hG := B0_1; clear hG; go_at_call 22; (with_reducible refine (CB0_1.out).mono ?_); rintro e yx6_1 ⟨sx6_1, ax6_1, nx6_1, cx6_1, bx6_1, mx6_1, dx6_1, rfl, hr, hb, hf, hg⟩; have E6_1 := Lib.hid hr.1.1; have B0_2 := Lib.hid (B0_1.out.ret2 hb hr.1.2 hf hr.2.2 hg); have FM := Lib.hid (hf.mono B0_1.out.below.size); have GM := Lib.hid (hg.mono B0_1.out.below.size); clear hr hb hf hg; have eB0_2 := KU.out _ _ _ B0_2.out; obtain ⟨z0, z1, z2, z3⟩ := Fb.cells4 (B0_2.out.box (w5.heap.size, 34, [.int .i64 0, .slice none 0 0, .int .i64 0, .slice none 0 0]) mq0); have u0 := (B0_2.out.box (w5.heap.size, 34, [.int .i64 0, .slice none 0 0, .int .i64 0, .slice none 0 0]) mq0).free 0; have u1 := (B0_2.out.box (w5.heap.size, 34, [.int .i64 0, .slice none 0 0, .int .i64 0, .slice none 0 0]) mq0).free 1; have u2 := (B0_2.out.box (w5.heap.size, 34, [.int .i64 0, .slice none 0 0, .int .i64 0, .slice none 0 0]) mq0).free 2; have u3 := (B0_2.out.box (w5.heap.size, 34, [.int .i64 0, .slice none 0 0, .int .i64 0, .slice none 0 0]) mq0).free 3; have RB := Lib.hid (Sf.set4 (pre := []) B0_2.out (.int .i64 sx6_1) (.slice ax6_1 nx6_1 cx6_1) (.int .i64 1) (.slice bx6_1 mx6_1 dx6_1)); have eRB := KU.out _ _ _ RB.out)
          | (have hG := Z1; clear hG; go_at_call 22; (with_reducible refine (CZ1.out).mono ?_); rintro e yx6_1 ⟨sx6_1, ax6_1, nx6_1, cx6_1, bx6_1, mx6_1, dx6_1, rfl, hr, hb, hf, hg⟩; have E6_1 := Lib.hid hr.1.1; have B1_2 := Lib.hid (Z1.out.ret2 hb hr.1.2 hf hr.2.2 hg); have FM := Lib.hid (hf.mono Z1.out.below.size); have GM := Lib.hid (hg.mono Z1.out.below.size); clear hr hb hf hg; have eB1_2 := KU.out _ _ _ B1_2.out; obtain ⟨z0, z1, z2, z3⟩ := Fb.cells4 (B1_2.out.box (yx6_0.heap.size, 34, [.int .i64 0, .slice none 0 0, .int .i64 0, .slice none 0 0]) mq0); have u0 := (B1_2.out.box (yx6_0.heap.size, 34, [.int .i64 0, .slice none 0 0, .int .i64 0, .slice none 0 0]) mq0).free 0; have u1 := (B1_2.out.box (yx6_0.heap.size, 34, [.int .i64 0, .slice none 0 0, .int .i64 0, .slice none 0 0]) mq0).free 1; have u2 := (B1_2.out.box (yx6_0.heap.size, 34, [.int .i64 0, .slice none 0 0, .int .i64 0, .slice none 0 0]) mq0).free 2; have u3 := (B1_2.out.box (yx6_0.heap.size, 34, [.int .i64 0, .slice none 0 0, .int .i64 0, .slice none 0 0]) mq0).free 3; have RB := Lib.hid (Sf.set4 (pre := []) B1_2.out (.int .i64 sx6_1) (.slice ax6_1 nx6_1 cx6_1) (.int .i64 1) (.slice bx6_1 mx6_1 dx6_1)); have eRB := KU.out _ _ _ RB.out)
          | (have hG := N1; clear hG; go_at_call 22; (with_reducible refine (CN1.out).mono ?_); rintro e yx6_1 ⟨sx6_1, ax6_1, nx6_1, cx6_1, bx6_1, mx6_1, dx6_1, rfl, hr, hb, hf, hg⟩; have E6_1 := Lib.hid hr.1.1; have N2 := Lib.hid (N1.out.ret2 hb hr.1.2 hf hr.2.2 hg); have FM := Lib.hid (hf.mono N1.out.below.size); have GM := Lib.hid (hg.mono N1.out.below.size); clear hr hb hf hg; have eN2 := KK.out _ _ N2.out; have Z2 := Lib.hid (N2.out.put [.int .i64 0, .slice none 0 0, .int .i64 0, .slice none 0 0] 34); have eZ2 := KU.out _ _ _ Z2.out; have RN := Lib.hid (N2.out.put [.int .i64 sx6_1, .slice ax6_1 nx6_1 cx6_1, .int .i64 1, .slice bx6_1 mx6_1 dx6_1] 34); have eRN := KU.out _ _ _ RN.out)
          | (have hG := Z0; clear hG; go_at_call 21; (with_reducible refine (CZ0.out).mono ?_); rintro e yx6_0 ⟨sx6_0, ax6_0, nx6_0, cx6_0, bx6_0, mx6_0, dx6_0, rfl, hr, hb, hf, hg⟩; have E6_0 := Lib.hid hr.1.1; have B0_1 := Lib.hid (Z0.out.ret2 hb hr.1.2 hf hr.2.2 hg); clear hr hb hf hg; have eB0_1 := KU.out _ _ _ B0_1.out; have CB0_1 := Lib.hid (fsub_r (B0_1.out.fr (v := .slice ay4 ny4 cy4) (u := .slice by4 my4 dy4) (r := UQ) mq6 mq7 D4.out) (B0_1.out.fr (v := .slice ax6_0 nx6_0 cx6_0) (u := .slice bx6_0 mx6_0 dx6_0) (r := QQ) mq0 mq1 E6_0.out) LU2.out LQ.out HE2.out))
          | (have hG := N0; clear hG; go_at_call 21; (with_reducible refine (CN0.out).mono ?_); rintro e yx6_0 ⟨sx6_0, ax6_0, nx6_0, cx6_0, bx6_0, mx6_0, dx6_0, rfl, hr, hb, hf, hg⟩; have E6_0 := Lib.hid hr.1.1; have N1 := Lib.hid (N0.out.ret2 hb hr.1.2 hf hr.2.2 hg); clear hr hb hf hg; have eN1 := KK.out _ _ N1.out; have Z1 := Lib.hid (N1.out.put [.int .i64 0, .slice none 0 0, .int .i64 0, .slice none 0 0] 34); have eZ1 := KU.out _ _ _ Z1.out; have CN1 := Lib.hid (fsub_r (N1.out.fr (v := .slice ay4 ny4 cy4) (u := .slice by4 my4 dy4) (r := UQ) mq6 mq7 D4.out) (N1.out.fr (v := .slice ax6_0 nx6_0 cx6_0) (u := .slice bx6_0 mx6_0 dx6_0) (r := QQ) mq0 mq1 E6_0.out) LU2.out LQ.out HE2.out); have CZ1 := Lib.hid (fsub_r (Z1.out.fr (v := .slice ay4 ny4 cy4) (u := .slice by4 my4 dy4) (r := UQ) mq6 mq7 D4.out) (Z1.out.fr (v := .slice ax6_0 nx6_0 cx6_0) (u := .slice bx6_0 mx6_0 dx6_0) (r := QQ) mq0 mq1 E6_0.out) LU2.out LQ.out HE2.out))); (try dsimp only)))
    all_goals (go_wp2_with fail; go_meet; refine ⟨rfl, ?_⟩; first | exact Lib.hid ⟨_, _, _, _, _, _, _, _, rfl, E6_1.out, FM.out, GM.out, Sf.facts RN.out (by simp)⟩ | exact Lib.hid ⟨_, _, _, _, _, _, _, _, rfl, E6_1.out, FM.out, GM.out, Sf.facts RB.out (by simp)⟩)
  case rest =>
  obtain ⟨rfl, hq⟩ := hcut
  obtain ⟨gx6, sx6, ax6, nx6, cx6, bx6, mx6, dx6, rfl, esx6, ffx6, fgx6, hsx6⟩ := hq.out
  obtain ⟨w6, rfl⟩ : ∃ W, W = wc := ⟨_, rfl⟩
  have R6 := Lib.hid hsx6
  have E6 := Lib.hid esx6
  have FF6 := Lib.hid ffx6
  have FG6 := Lib.hid fgx6
  clear hq esx6 ffx6 fgx6 hsx6 R5
  obtain ⟨q3, q4, q5, q6⟩ := Fb.cells4 (R6.out.box (w4.heap.size, 34, [.int .i64 sx4, .slice ax4 nx4 cx4, .int .i64 1, .slice bx4 mx4 dx4]) mq3)
  obtain ⟨q7, q8, q9, q10⟩ := Fb.cells4 (R6.out.box (w3.heap.size, 34, [.int .i64 sx3, .slice ax3 nx3 cx3, .int .i64 1, .slice bx3 mx3 dx3]) mq5)
  go_wp2_with fail
  clear q3 q4 q5 q6 q7 q8 q9 q10
  refine (rfcmp_r (R6.out.fr (v := .slice ax3 nx3 cx3) (u := .slice bx3 mx3 dx3) (r := LO) mq8 mq9 E3.out) (R6.out.fr (v := .slice ax4 nx4 cx4) (u := .slice bx4 mx4 dx4) (r := LP) mq4 mq5 E4.out) LL.out LL2.out HK1.out).mono ?_
  rintro e w7 ⟨rfl, hb⟩
  have R7 := Lib.hid (R6.out.later hb)
  clear hb
  obtain ⟨q11, q12, q13, q14⟩ := Fb.cells4 (R7.out.box (w4.heap.size + 1, 34, [.int .i64 sy4, .slice ay4 ny4 cy4, .int .i64 1, .slice by4 my4 dy4]) mq2)
  obtain ⟨q15, q16, q17, q18⟩ := Fb.cells4 (R7.out.box (w3.heap.size + 1, 34, [.int .i64 sy3, .slice ay3 ny3 cy3, .int .i64 1, .slice by3 my3 dy3]) mq4)
  go_wp2_with fail
  clear q11 q12 q13 q14 q15 q16 q17 q18
  refine (rfcmp_r (R7.out.fr (v := .slice ay3 ny3 cy3) (u := .slice by3 my3 dy3) (r := UP) mq10 mq11 D3.out) (R7.out.fr (v := .slice ay4 ny4 cy4) (u := .slice by4 my4 dy4) (r := UQ) mq6 mq7 D4.out) LU.out LU2.out HK2.out).mono ?_
  rintro e w8 ⟨rfl, hb⟩
  have R8 := Lib.hid (R7.out.later hb)
  clear hb
  obtain ⟨q19, q20, q21, q22⟩ := Fb.cells4 (R8.out.box (gx6, 34, [.int .i64 sx6, .slice ax6 nx6 cx6, .int .i64 1, .slice bx6 mx6 dx6]) mq0)
  obtain ⟨q23, q24, q25, q26⟩ := Fb.cells4 (R8.out.box (gx5, 34, [.int .i64 sx5, .slice ax5 nx5 cx5, .int .i64 1, .slice bx5 mx5 dx5]) mq1)
  go_wp2_with fail
  clear q19 q20 q21 q22 q23 q24 q25 q26
  refine (rfcmp_r (R8.out.fr (v := .slice ax5 nx5 cx5) (u := .slice bx5 mx5 dx5) (r := ERA) mq2 mq3 E5.out) (R8.out.fr (v := .slice ax6 nx6 cx6) (u := .slice bx6 mx6 dx6) (r := ERB) mq0 mq1 E6.out) LE.out LE2.out HK3.out).mono ?_
  rintro e w9 ⟨rfl, hb⟩
  have R9 := Lib.hid (R8.out.later hb)
  clear hb
  go_wp2_with fail
  refine (find_any (HC.out.later R9.out.below) HN.out HL.out HFI.out HFB.out).mono ?_
  rintro e w10 ⟨rfl, hb⟩
  have R10 := Lib.hid (R9.out.later hb)
  clear hb
  obtain ⟨x0, x1_, x2_, x3, x4, x5⟩ := HX.out _ R10.out.below
  go_wp2_with fail
  clear x0 x1_ x2_ x3 x4 x5
  refine (HEZ.out _).mono ?_
  rintro e w11 ⟨rfl, hb⟩
  have R11 := Lib.hid (R10.out.later hb)
  clear hb
  have P27 := Lib.hid (R11.out.put [.int .i64 0, .slice none 0 0, .int .i64 0, .slice none 0 0] 34)
  have T27 := Lib.hid (Sf.row (pre := []) P27.out [.int .i64 0, .slice none 0 0, .int .i64 0, .slice none 0 0])
  obtain ⟨V27, hV27⟩ : ∃ V, ((w11.alloc (.cells #[.int .i64 0, .slice none 0 0, .int .i64 0, .slice none 0 0] 34)).setRow w11.heap.size #[.int .i64 0, .slice none 0 0, .int .i64 0, .slice none 0 0]) = V := ⟨_, rfl⟩
  have T27 : Hid (Sf w ([] ++ (w11.heap.size, 34, [.int .i64 0, .slice none 0 0, .int .i64 0, .slice none 0 0]) :: [(gx6, 34, [.int .i64 sx6, .slice ax6 nx6 cx6, .int .i64 1, .slice bx6 mx6 dx6]), (gx5, 34, [.int .i64 sx5, .slice ax5 nx5 cx5, .int .i64 1, .slice bx5 mx5 dx5]), (w4.heap.size + 1, 34, [.int .i64 sy4, .slice ay4 ny4 cy4, .int .i64 1, .slice by4 my4 dy4]), (w4.heap.size, 34, [.int .i64 sx4, .slice ax4 nx4 cx4, .int .i64 1, .slice bx4 mx4 dx4]), (w3.heap.size + 1, 34, [.int .i64 sy3, .slice ay3 ny3 cy3, .int .i64 1, .slice by3 my3 dy3]), (w3.heap.size, 34, [.int .i64 sx3, .slice ax3 nx3 cx3, .int .i64 1, .slice bx3 mx3 dx3])]) _ V27) := Lib.hid (by have := T27.out; rw [← hV27]; exact this)
  have HV27 := Lib.hid hV27
  clear hV27
  obtain ⟨x0, x1_, x2_, x3, x4, x5⟩ := HX.out _ T27.out.below
  go_wp2_with (first | (refine wpList_store_row rfl _ _ _ rfl _ #[.int .i64 0, .slice none 0 0, .int .i64 0, .slice none 0 0] rfl rfl _ _ (P27.out.box _ mq0) (by kernel_rfl) rfl (by simp [Value.oneCell']) ?_; rw [HV27.out]))
  go_ret
  exact ⟨rfl, T27.out.below⟩

theorem grows_good {a a2 : Option Addr} {n cap m cap2 : Nat} {l : List Ct} {rl : List (Int × Int)} {s r q d t : Int} {w : World} (hc : Cs w a l) (hn : l.length = n) (hl : n ≤ 120) (hr : Rs w a2 rl) (hm : rl.length = m) (hl2 : m ≤ 60) : Calls Try.prog 5 #[.slice a n cap, .slice a2 m cap2, .int .i64 s, .int .i64 r, .int .i64 q, .int .i64 d, .int .i64 t] w (Gv (.bool true) w) := by
  rcases hq : decide (q < r) with _ | _
  · rcases h1 : ivB s r d l rl with _ | _
    · exact grows_n1 hc hn hl hr hm hl2 hq h1
    rcases h2 : ivB s q d l rl with _ | _
    · exact grows_n2 hc hn hl hr hm hl2 hq h1 h2
    · unfold ivB at h1 h2
      simp only [Bool.and_eq_true, Bool.not_eq_true'] at h1 h2
      rcases h6 : decide (t < (fC s d l).fr) with _ | _
      · rcases h7 : decide ((fC s d l).un < t) with _ | _
        · exact grows_still hc hn hl hr hm hl2 hq (found_c h1.1) h1.2.1 h1.2.2 h2.2.2 (by
            unfold inD
            rw [decide_eq_true (Int.not_lt.1 (of_decide_eq_false h6)), decide_eq_true (Int.not_lt.1 (of_decide_eq_false h7))]; rfl)
        · exact grows_hi hc hn hl hr hm hl2 hq (found_c h1.1) h1.2.1 h1.2.2 h2.2.2 h6 h7
      · exact grows_lo hc hn hl hr hm hl2 hq (found_c h1.1) h1.2.1 h1.2.2 h2.2.2 h6
  · exact grows_m hc hn hl hr hm hl2 hq

theorem grows_all {a a2 : Option Addr} {n cap m cap2 : Nat} {l : List Ct} {rl : List (Int × Int)} {s r q d t : Int} {w : World} (hc : n ≤ 1000000000 → Cs w a l) (hn : l.length = n) (hl : n ≤ 9223372036854775807) (hr : m ≤ 1000000000 → Rs w a2 rl) (hm : rl.length = m) (hl2 : m ≤ 9223372036854775807) : Calls Try.prog 5 #[.slice a n cap, .slice a2 m cap2, .int .i64 s, .int .i64 r, .int .i64 q, .int .i64 d, .int .i64 t] w (Gv (.bool true) w) := by
  rcases h : (decide ((n : Int) ≤ 120) && decide ((m : Int) ≤ 60)) with _ | _
  · exact grows_no hl hl2 h
  · simp only [Bool.and_eq_true, decide_eq_true_eq] at h
    exact grows_good (hc (by omega)) hn (by omega) (hr (by omega)) hm (by omega)
end Go.Proofs.Ytmhjejnkphdjpaa.Sc
