/- The contract of unit's readWord. Slices of the program's items; the contract of unit's split. -/
import Derived.Test.YtmhdhabgdlefjaaDoorM31
import Derived.Deep.LoopGhost
import Derived.Deep.CutRange
import Derived.Deep.CutBlock
set_option maxRecDepth 100000
namespace Go.Proofs.YtmhdhabgdlefjaaDoor.Un
open Go.RowKit Bi Dm

set_option maxHeartbeats 20000000 in
theorem wordP_any (s : ByteArray) (hs : s.size ≤ 1000) (w : World) (he : EnvU w) : Calls Tryd.prog 28 #[.string s] w (WordEnd s.data.toList w) := by
  obtain ⟨t0, fr0, hg⟩ := he.tab
  have HIX := Lib.hid (fun (k : Nat) x (h : symT[k]? = some x) W => sym_index h W)
  have HI := Lib.hid infoTab
  obtain ⟨SC, hSC⟩ : ∃ SC, symCells = SC := ⟨_, rfl⟩
  rw [hSC] at HIX HI hg
  obtain ⟨L, hL⟩ : ∃ L, s.data.toList = L := ⟨_, rfl⟩
  have HWS := Lib.hid (fun (b : Nat) (n : Int) (q : Rat) (h : wordL L = some (b, n, q)) (e : Ending) (w' : World) (g : UVB (up zf b n) q true w e w') => word_some h g)
  have HWN := Lib.hid (fun (h : wordL L = none) (e : Ending) (w' : World) (g : Gives (.tuple #[.agg (uc zf 0 (.slice none 0 0) 0 (.slice none 0 0)), .bool false]) w e w') => word_none h g)
  have HCS : Hid (∀ (NM : ByteArray) (W : World), Calls Tryd.prog 46 #[.string s, .string NM] W fun e w' => e = .returned (.tuple #[.string ⟨(Lib.trimSuffix L NM.data.toList).toArray⟩, .bool (Lib.hasSuffix L NM.data.toList)]) ∧ w' = W) := Lib.hid (fun NM W => by
    have := Tryd.strings_CutSuffix s NM W (by omega)
    rwa [hL] at this)
  have hg0 : (w.alloc (.cells #[.int .i64 0, .int .i64 0, .int .i64 0, .int .i64 0, .int .i64 0, .int .i64 0, .int .i64 0, .slice none 0 0, .int .i64 0, .slice none 0 0] 30)).heap[0]? = some (.cells SC t0 fr0) := by
    rw [(Bi.below_alloc w _).block _ (lt_of_heap hg)]; exact hg
  have HG := Lib.hid hg0
  rw [hL]
  clear he hg hSC hL hg0
  unfold Dm.Gives uc at HWN
  have s0 := ((Sf.start w).put [.int .i64 0, .int .i64 0, .int .i64 0, .int .i64 0, .int .i64 0, .int .i64 0, .int .i64 0, .slice none 0 0, .int .i64 0, .slice none 0 0] 30)
  try simp only [World.size_alloc] at s0
  have S0 := Lib.hid s0
  clear s0
  go_enter Tryd.func28, Tryd.ntmps28
  go_wp2_with (refine wpList_load_row rfl _ _ rfl _ rfl _ SC fr0 _ HG.out Tryd.underlying84 rfl HI.out ?_)
  go_loopw [13] (fun t wr => ∃ k : Nat, k ≤ 12 ∧ t = .int .i64 (k : Int) ∧ Miss L k ∧ Sf w [(w.heap.size, 30, [.int .i64 0, .int .i64 0, .int .i64 0, .int .i64 0, .int .i64 0, .int .i64 0, .int .i64 0, .slice none 0 0, .int .i64 0, .slice none 0 0])] [] wr) (fun t _ => 13 - (RowKit.intOf t).toNat)
  case atStart => exact ⟨0, by omega, rfl, miss_zero L, S0.out⟩
  case round =>
    obtain ⟨k, hk, rfl, hmi, hS⟩ := hrel
    have HS := Lib.hid hS
    have HMI := Lib.hid hmi
    clear hmi hS
    by_cases hlt : k < 12
    · have hlt2 : decide ((k : Int) < 12) = true := by simp; omega
      obtain ⟨⟨nm, b, n, xa, xb, t⟩, hx⟩ : ∃ x, symT[k]? = some x := ⟨_, List.getElem?_eq_getElem (show k < symT.length from hlt)⟩
      have hix := HIX.out k _ hx
      unfold rowOf at hix
      dsimp only at hix
      have hms := HMI.out
      have HMS := Lib.hid (fun hb => miss_step hms hx hb)
      have HHT := Lib.hid (fun p a c (hp : preP p = some (a, c)) (ht : p = [] ∨ t = true) => word_hit hx hp ht)
      have HSU := Lib.hid (fun (h : Lib.hasSuffix L nm = true) => suf_of h)
      have HC := HCS.out ⟨nm.toArray⟩
      rw [show (⟨nm.toArray⟩ : ByteArray).data.toList = nm from rfl] at HC
      obtain ⟨NM, hNM⟩ : ∃ NM : ByteArray, (⟨nm.toArray⟩ : ByteArray) = NM := ⟨_, rfl⟩
      rw [hNM] at hix HC
      obtain ⟨P, hP⟩ : ∃ P, Lib.trimSuffix L nm = P := ⟨_, rfl⟩
      have HPR := prefixP_any ⟨P.toArray⟩
      rw [show (⟨P.toArray⟩ : ByteArray).data.toList = P from rfl] at HPR
      rw [hP] at HC HMS HSU
      have HEM := str_empty ⟨P.toArray⟩
      rw [show (⟨P.toArray⟩ : ByteArray).data.toList = P from rfl] at HEM
      obtain ⟨PX, hPX⟩ : ∃ PX : ByteArray, (⟨P.toArray⟩ : ByteArray) = PX := ⟨_, rfl⟩
      rw [hPX] at HC HPR HEM
      obtain ⟨fd, hfd⟩ : ∃ fd, Lib.hasSuffix L nm = fd := ⟨_, rfl⟩
      rw [hfd] at HC HMS HSU
      have HC := Lib.hid HC
      obtain ⟨BB, hBB⟩ : ∃ BB : Int, (b : Int) = BB := ⟨_, rfl⟩
      rw [hBB] at hix
      clear hNM hP hPX hfd hms hx
      rcases hpp : preP P with _ | ⟨a, c⟩
      · have HP2 : Hid (∀ W, Calls Tryd.prog 47 #[.string PX] W fun e w' => e = .returned (.tuple #[.int .i64 0, .int .i64 0, .bool false]) ∧ w' = W) := Lib.hid (fun W => by have := HPR W; unfold preV at this; rwa [hpp] at this)
        clear HPR HHT HSU
        rcases hpe : decide (P = []) with _ | _
        · obtain ⟨m1, m2, m3, m4, m5⟩ := HEM false true hpe rfl
          clear HEM
          cases fd
          · skip
            have P1 := Lib.hid (HS.out.put [.string ⟨#[]⟩, .int .i64 0, .int .i64 0, .int .i64 0, .int .i64 0, .bool false] 83)
            have Q1 := Lib.hid (Sf.row (pre := []) P1.out [.string NM, .int .i64 BB, .int .i64 n, .int .i64 xa, .int .i64 xb, .bool t])
            have q2 := (Q1.out.box (wr.heap.size, 83, [.string NM, .int .i64 BB, .int .i64 n, .int .i64 xa, .int .i64 xb, .bool t]) List.mem_cons_self).cell 0
            have q3 := (Q1.out.box (wr.heap.size, 83, [.string NM, .int .i64 BB, .int .i64 n, .int .i64 xa, .int .i64 xb, .bool t]) List.mem_cons_self).cell 1
            have q4 := (Q1.out.box (wr.heap.size, 83, [.string NM, .int .i64 BB, .int .i64 n, .int .i64 xa, .int .i64 xb, .bool t]) List.mem_cons_self).cell 2
            have q5 := (Q1.out.box (wr.heap.size, 83, [.string NM, .int .i64 BB, .int .i64 n, .int .i64 xa, .int .i64 xb, .bool t]) List.mem_cons_self).cell 3
            have q6 := (Q1.out.box (wr.heap.size, 83, [.string NM, .int .i64 BB, .int .i64 n, .int .i64 xa, .int .i64 xb, .bool t]) List.mem_cons_self).cell 4
            have q7 := (Q1.out.box (wr.heap.size, 83, [.string NM, .int .i64 BB, .int .i64 n, .int .i64 xa, .int .i64 xb, .bool t]) List.mem_cons_self).cell 5
            simp only [List.getElem?_cons_succ, List.getElem?_cons_zero] at q2 q3 q4 q5 q6 q7
            go_wp2_with (first | refine wpList_store_row rfl _ _ _ rfl _ #[.string NM, .int .i64 BB, .int .i64 n, .int .i64 xa, .int .i64 xb, .bool t] rfl rfl _ _ (P1.out.box _ List.mem_cons_self) (by kernel_rfl) rfl (by simp [Value.oneCell']) ?_)
            refine (HC.out _).mono ?_
            rintro e _ ⟨rfl, rfl⟩
            go_wp2_with fail
            refine (HP2.out _).mono ?_
            rintro e _ ⟨rfl, rfl⟩
            go_wp2_with fail
            clear q2 q3 q4 q5 q6 q7
            have HM2 := Lib.hid (HMS.out (fun _ a c h _ => by rw [hpp] at h; cases h))
            have HT := Lib.hid (Sf.tail Q1.out)
            go_roundw
            case rel => exact ⟨k + 1, hlt, by go_num, HM2.out, HT.out⟩
            case measure => simp [RowKit.intOf]; omega
          · skip
            have P8 := Lib.hid (HS.out.put [.string ⟨#[]⟩, .int .i64 0, .int .i64 0, .int .i64 0, .int .i64 0, .bool false] 83)
            have Q8 := Lib.hid (Sf.row (pre := []) P8.out [.string NM, .int .i64 BB, .int .i64 n, .int .i64 xa, .int .i64 xb, .bool t])
            have q9 := (Q8.out.box (wr.heap.size, 83, [.string NM, .int .i64 BB, .int .i64 n, .int .i64 xa, .int .i64 xb, .bool t]) List.mem_cons_self).cell 0
            have q10 := (Q8.out.box (wr.heap.size, 83, [.string NM, .int .i64 BB, .int .i64 n, .int .i64 xa, .int .i64 xb, .bool t]) List.mem_cons_self).cell 1
            have q11 := (Q8.out.box (wr.heap.size, 83, [.string NM, .int .i64 BB, .int .i64 n, .int .i64 xa, .int .i64 xb, .bool t]) List.mem_cons_self).cell 2
            have q12 := (Q8.out.box (wr.heap.size, 83, [.string NM, .int .i64 BB, .int .i64 n, .int .i64 xa, .int .i64 xb, .bool t]) List.mem_cons_self).cell 3
            have q13 := (Q8.out.box (wr.heap.size, 83, [.string NM, .int .i64 BB, .int .i64 n, .int .i64 xa, .int .i64 xb, .bool t]) List.mem_cons_self).cell 4
            have q14 := (Q8.out.box (wr.heap.size, 83, [.string NM, .int .i64 BB, .int .i64 n, .int .i64 xa, .int .i64 xb, .bool t]) List.mem_cons_self).cell 5
            simp only [List.getElem?_cons_succ, List.getElem?_cons_zero] at q9 q10 q11 q12 q13 q14
            go_wp2_with (first | refine wpList_store_row rfl _ _ _ rfl _ #[.string NM, .int .i64 BB, .int .i64 n, .int .i64 xa, .int .i64 xb, .bool t] rfl rfl _ _ (P8.out.box _ List.mem_cons_self) (by kernel_rfl) rfl (by simp [Value.oneCell']) ?_)
            refine (HC.out _).mono ?_
            rintro e _ ⟨rfl, rfl⟩
            go_wp2_with fail
            refine (HP2.out _).mono ?_
            rintro e _ ⟨rfl, rfl⟩
            go_wp2_with fail
            clear q9 q10 q11 q12 q13 q14
            have HM2 := Lib.hid (HMS.out (fun _ a c h _ => by rw [hpp] at h; cases h))
            have HT := Lib.hid (Sf.tail Q8.out)
            go_roundw
            case rel => exact ⟨k + 1, hlt, by go_num, HM2.out, HT.out⟩
            case measure => simp [RowKit.intOf]; omega
        · obtain ⟨m1, m2, m3, m4, m5⟩ := HEM true false hpe rfl
          clear HEM
          cases fd
          · skip
            have P15 := Lib.hid (HS.out.put [.string ⟨#[]⟩, .int .i64 0, .int .i64 0, .int .i64 0, .int .i64 0, .bool false] 83)
            have Q15 := Lib.hid (Sf.row (pre := []) P15.out [.string NM, .int .i64 BB, .int .i64 n, .int .i64 xa, .int .i64 xb, .bool t])
            have q16 := (Q15.out.box (wr.heap.size, 83, [.string NM, .int .i64 BB, .int .i64 n, .int .i64 xa, .int .i64 xb, .bool t]) List.mem_cons_self).cell 0
            have q17 := (Q15.out.box (wr.heap.size, 83, [.string NM, .int .i64 BB, .int .i64 n, .int .i64 xa, .int .i64 xb, .bool t]) List.mem_cons_self).cell 1
            have q18 := (Q15.out.box (wr.heap.size, 83, [.string NM, .int .i64 BB, .int .i64 n, .int .i64 xa, .int .i64 xb, .bool t]) List.mem_cons_self).cell 2
            have q19 := (Q15.out.box (wr.heap.size, 83, [.string NM, .int .i64 BB, .int .i64 n, .int .i64 xa, .int .i64 xb, .bool t]) List.mem_cons_self).cell 3
            have q20 := (Q15.out.box (wr.heap.size, 83, [.string NM, .int .i64 BB, .int .i64 n, .int .i64 xa, .int .i64 xb, .bool t]) List.mem_cons_self).cell 4
            have q21 := (Q15.out.box (wr.heap.size, 83, [.string NM, .int .i64 BB, .int .i64 n, .int .i64 xa, .int .i64 xb, .bool t]) List.mem_cons_self).cell 5
            simp only [List.getElem?_cons_succ, List.getElem?_cons_zero] at q16 q17 q18 q19 q20 q21
            go_wp2_with (first | refine wpList_store_row rfl _ _ _ rfl _ #[.string NM, .int .i64 BB, .int .i64 n, .int .i64 xa, .int .i64 xb, .bool t] rfl rfl _ _ (P15.out.box _ List.mem_cons_self) (by kernel_rfl) rfl (by simp [Value.oneCell']) ?_)
            refine (HC.out _).mono ?_
            rintro e _ ⟨rfl, rfl⟩
            go_wp2_with fail
            refine (HP2.out _).mono ?_
            rintro e _ ⟨rfl, rfl⟩
            go_wp2_with fail
            clear q16 q17 q18 q19 q20 q21
            have HM2 := Lib.hid (HMS.out (fun _ a c h _ => by rw [hpp] at h; cases h))
            have HT := Lib.hid (Sf.tail Q15.out)
            go_roundw
            case rel => exact ⟨k + 1, hlt, by go_num, HM2.out, HT.out⟩
            case measure => simp [RowKit.intOf]; omega
          · skip
            have P22 := Lib.hid (HS.out.put [.string ⟨#[]⟩, .int .i64 0, .int .i64 0, .int .i64 0, .int .i64 0, .bool false] 83)
            have Q22 := Lib.hid (Sf.row (pre := []) P22.out [.string NM, .int .i64 BB, .int .i64 n, .int .i64 xa, .int .i64 xb, .bool t])
            have q23 := (Q22.out.box (wr.heap.size, 83, [.string NM, .int .i64 BB, .int .i64 n, .int .i64 xa, .int .i64 xb, .bool t]) List.mem_cons_self).cell 0
            have q24 := (Q22.out.box (wr.heap.size, 83, [.string NM, .int .i64 BB, .int .i64 n, .int .i64 xa, .int .i64 xb, .bool t]) List.mem_cons_self).cell 1
            have q25 := (Q22.out.box (wr.heap.size, 83, [.string NM, .int .i64 BB, .int .i64 n, .int .i64 xa, .int .i64 xb, .bool t]) List.mem_cons_self).cell 2
            have q26 := (Q22.out.box (wr.heap.size, 83, [.string NM, .int .i64 BB, .int .i64 n, .int .i64 xa, .int .i64 xb, .bool t]) List.mem_cons_self).cell 3
            have q27 := (Q22.out.box (wr.heap.size, 83, [.string NM, .int .i64 BB, .int .i64 n, .int .i64 xa, .int .i64 xb, .bool t]) List.mem_cons_self).cell 4
            have q28 := (Q22.out.box (wr.heap.size, 83, [.string NM, .int .i64 BB, .int .i64 n, .int .i64 xa, .int .i64 xb, .bool t]) List.mem_cons_self).cell 5
            simp only [List.getElem?_cons_succ, List.getElem?_cons_zero] at q23 q24 q25 q26 q27 q28
            go_wp2_with (first | refine wpList_store_row rfl _ _ _ rfl _ #[.string NM, .int .i64 BB, .int .i64 n, .int .i64 xa, .int .i64 xb, .bool t] rfl rfl _ _ (P22.out.box _ List.mem_cons_self) (by kernel_rfl) rfl (by simp [Value.oneCell']) ?_)
            refine (HC.out _).mono ?_
            rintro e _ ⟨rfl, rfl⟩
            go_wp2_with fail
            refine (HP2.out _).mono ?_
            rintro e _ ⟨rfl, rfl⟩
            go_wp2_with fail
            clear q23 q24 q25 q26 q27 q28
            have HM2 := Lib.hid (HMS.out (fun _ a c h _ => by rw [hpp] at h; cases h))
            have HT := Lib.hid (Sf.tail Q22.out)
            go_roundw
            case rel => exact ⟨k + 1, hlt, by go_num, HM2.out, HT.out⟩
            case measure => simp [RowKit.intOf]; omega
      · have HP2 : Hid (∀ W, Calls Tryd.prog 47 #[.string PX] W fun e w' => e = .returned (.tuple #[.int .i64 a, .int .i64 c, .bool true]) ∧ w' = W) := Lib.hid (fun W => by have := HPR W; unfold preV at this; rwa [hpp] at this)
        clear HPR
        rcases hpe : decide (P = []) with _ | _
        · obtain ⟨m1, m2, m3, m4, m5⟩ := HEM false true hpe rfl
          clear HEM
          cases fd
          · clear HHT HSU
            have P29 := Lib.hid (HS.out.put [.string ⟨#[]⟩, .int .i64 0, .int .i64 0, .int .i64 0, .int .i64 0, .bool false] 83)
            have Q29 := Lib.hid (Sf.row (pre := []) P29.out [.string NM, .int .i64 BB, .int .i64 n, .int .i64 xa, .int .i64 xb, .bool t])
            have q30 := (Q29.out.box (wr.heap.size, 83, [.string NM, .int .i64 BB, .int .i64 n, .int .i64 xa, .int .i64 xb, .bool t]) List.mem_cons_self).cell 0
            have q31 := (Q29.out.box (wr.heap.size, 83, [.string NM, .int .i64 BB, .int .i64 n, .int .i64 xa, .int .i64 xb, .bool t]) List.mem_cons_self).cell 1
            have q32 := (Q29.out.box (wr.heap.size, 83, [.string NM, .int .i64 BB, .int .i64 n, .int .i64 xa, .int .i64 xb, .bool t]) List.mem_cons_self).cell 2
            have q33 := (Q29.out.box (wr.heap.size, 83, [.string NM, .int .i64 BB, .int .i64 n, .int .i64 xa, .int .i64 xb, .bool t]) List.mem_cons_self).cell 3
            have q34 := (Q29.out.box (wr.heap.size, 83, [.string NM, .int .i64 BB, .int .i64 n, .int .i64 xa, .int .i64 xb, .bool t]) List.mem_cons_self).cell 4
            have q35 := (Q29.out.box (wr.heap.size, 83, [.string NM, .int .i64 BB, .int .i64 n, .int .i64 xa, .int .i64 xb, .bool t]) List.mem_cons_self).cell 5
            simp only [List.getElem?_cons_succ, List.getElem?_cons_zero] at q30 q31 q32 q33 q34 q35
            go_wp2_with (first | refine wpList_store_row rfl _ _ _ rfl _ #[.string NM, .int .i64 BB, .int .i64 n, .int .i64 xa, .int .i64 xb, .bool t] rfl rfl _ _ (P29.out.box _ List.mem_cons_self) (by kernel_rfl) rfl (by simp [Value.oneCell']) ?_)
            refine (HC.out _).mono ?_
            rintro e _ ⟨rfl, rfl⟩
            go_wp2_with fail
            refine (HP2.out _).mono ?_
            rintro e _ ⟨rfl, rfl⟩
            go_wp2_with fail
            clear q30 q31 q32 q33 q34 q35
            have HM2 := Lib.hid (HMS.out (fun h => by cases h))
            have HT := Lib.hid (Sf.tail Q29.out)
            go_roundw
            case rel => exact ⟨k + 1, hlt, by go_num, HM2.out, HT.out⟩
            case measure => simp [RowKit.intOf]; omega
          · skip
            cases t
            · skip
              clear HHT HSU
              have P36 := Lib.hid (HS.out.put [.string ⟨#[]⟩, .int .i64 0, .int .i64 0, .int .i64 0, .int .i64 0, .bool false] 83)
              have Q36 := Lib.hid (Sf.row (pre := []) P36.out [.string NM, .int .i64 BB, .int .i64 n, .int .i64 xa, .int .i64 xb, .bool false])
              have q37 := (Q36.out.box (wr.heap.size, 83, [.string NM, .int .i64 BB, .int .i64 n, .int .i64 xa, .int .i64 xb, .bool false]) List.mem_cons_self).cell 0
              have q38 := (Q36.out.box (wr.heap.size, 83, [.string NM, .int .i64 BB, .int .i64 n, .int .i64 xa, .int .i64 xb, .bool false]) List.mem_cons_self).cell 1
              have q39 := (Q36.out.box (wr.heap.size, 83, [.string NM, .int .i64 BB, .int .i64 n, .int .i64 xa, .int .i64 xb, .bool false]) List.mem_cons_self).cell 2
              have q40 := (Q36.out.box (wr.heap.size, 83, [.string NM, .int .i64 BB, .int .i64 n, .int .i64 xa, .int .i64 xb, .bool false]) List.mem_cons_self).cell 3
              have q41 := (Q36.out.box (wr.heap.size, 83, [.string NM, .int .i64 BB, .int .i64 n, .int .i64 xa, .int .i64 xb, .bool false]) List.mem_cons_self).cell 4
              have q42 := (Q36.out.box (wr.heap.size, 83, [.string NM, .int .i64 BB, .int .i64 n, .int .i64 xa, .int .i64 xb, .bool false]) List.mem_cons_self).cell 5
              simp only [List.getElem?_cons_succ, List.getElem?_cons_zero] at q37 q38 q39 q40 q41 q42
              go_wp2_with (first | refine wpList_store_row rfl _ _ _ rfl _ #[.string NM, .int .i64 BB, .int .i64 n, .int .i64 xa, .int .i64 xb, .bool false] rfl rfl _ _ (P36.out.box _ List.mem_cons_self) (by kernel_rfl) rfl (by simp [Value.oneCell']) ?_)
              refine (HC.out _).mono ?_
              rintro e _ ⟨rfl, rfl⟩
              go_wp2_with fail
              refine (HP2.out _).mono ?_
              rintro e _ ⟨rfl, rfl⟩
              go_wp2_with fail
              clear q37 q38 q39 q40 q41 q42
              have HM2 := Lib.hid (HMS.out (fun _ _ _ _ h => by rcases h with h | h; exact absurd h (of_decide_eq_false hpe); cases h))
              have HT := Lib.hid (Sf.tail Q36.out)
              go_roundw
              case rel => exact ⟨k + 1, hlt, by go_num, HM2.out, HT.out⟩
              case measure => simp [RowKit.intOf]; omega
            · skip
              have hw := HHT.out P a c hpp (.inr rfl)
              rw [← HSU.out rfl] at hw
              obtain ⟨hwd, hb6, hba, hbc, hbx, hbz⟩ := hw
              obtain ⟨q, hq⟩ : ∃ q, facP a c xa xb = q := ⟨_, rfl⟩
              rw [hq] at hwd
              have HWD := Lib.hid hwd
              have hx1 : 1 ≤ a * xa ∧ a * xa ≤ 1000000000 * 1000000 := ⟨by have := Int.mul_le_mul hba.1 hbx.1 (by decide) (by omega); omega, Int.mul_le_mul hba.2 hbx.2 (by omega) (by decide)⟩
              have hx2 : 1 ≤ c * xb ∧ c * xb ≤ 1000 * 1000 := ⟨by have := Int.mul_le_mul hbc.1 hbz.1 (by decide) (by omega); omega, Int.mul_le_mul hbc.2 hbz.2 (by omega) (by decide)⟩
              have hw1 : IntKind.i64.wrap (a * xa) = a * xa := IntWalk.i64_in _ (by omega)
              have hw2 : IntKind.i64.wrap (c * xb) = c * xb := IntWalk.i64_in _ (by omega)
              have HOF : Hid (∀ W, Calls Tryd.prog 48 #[.int .i64 (a * xa), .int .i64 (c * xb)] W (FVE q 0 W)) := Lib.hid (fun W => by
                have := fof_k (a * xa) (c * xb) (by omega) (by omega) (by omega) W
                unfold facP at hq; rwa [hq] at this)
              have HB6 := Lib.hid hb6
              have hzu := zu_cell b hb6
              have HZS := Lib.hid (zu_set b hb6 n)
              clear hwd hb6 hba hbc hbx hbz hx1 hx2 hq HHT HSU HMS hpp hpe
              have P43 := Lib.hid (HS.out.put [.string ⟨#[]⟩, .int .i64 0, .int .i64 0, .int .i64 0, .int .i64 0, .bool false] 83)
              have Q43 := Lib.hid (Sf.row (pre := []) P43.out [.string NM, .int .i64 BB, .int .i64 n, .int .i64 xa, .int .i64 xb, .bool true])
              have q44 := (Q43.out.box (wr.heap.size, 83, [.string NM, .int .i64 BB, .int .i64 n, .int .i64 xa, .int .i64 xb, .bool true]) List.mem_cons_self).cell 0
              have q45 := (Q43.out.box (wr.heap.size, 83, [.string NM, .int .i64 BB, .int .i64 n, .int .i64 xa, .int .i64 xb, .bool true]) List.mem_cons_self).cell 1
              have q46 := (Q43.out.box (wr.heap.size, 83, [.string NM, .int .i64 BB, .int .i64 n, .int .i64 xa, .int .i64 xb, .bool true]) List.mem_cons_self).cell 2
              have q47 := (Q43.out.box (wr.heap.size, 83, [.string NM, .int .i64 BB, .int .i64 n, .int .i64 xa, .int .i64 xb, .bool true]) List.mem_cons_self).cell 3
              have q48 := (Q43.out.box (wr.heap.size, 83, [.string NM, .int .i64 BB, .int .i64 n, .int .i64 xa, .int .i64 xb, .bool true]) List.mem_cons_self).cell 4
              have q49 := (Q43.out.box (wr.heap.size, 83, [.string NM, .int .i64 BB, .int .i64 n, .int .i64 xa, .int .i64 xb, .bool true]) List.mem_cons_self).cell 5
              simp only [List.getElem?_cons_succ, List.getElem?_cons_zero] at q44 q45 q46 q47 q48 q49
              go_wp2_with (first | refine wpList_store_row rfl _ _ _ rfl _ #[.string NM, .int .i64 BB, .int .i64 n, .int .i64 xa, .int .i64 xb, .bool true] rfl rfl _ _ (P43.out.box _ List.mem_cons_self) (by kernel_rfl) rfl (by simp [Value.oneCell']) ?_)
              refine (HC.out _).mono ?_
              rintro e _ ⟨rfl, rfl⟩
              go_wp2_with fail
              refine (HP2.out _).mono ?_
              rintro e _ ⟨rfl, rfl⟩
              clear q44 q45 q46 q47 q48 q49
              obtain ⟨W1, hW1⟩ : ∃ W, ((wr.alloc (.cells #[.string ⟨#[]⟩, .int .i64 0, .int .i64 0, .int .i64 0, .int .i64 0, .bool false] 83)).setRow wr.heap.size #[.string NM, .int .i64 BB, .int .i64 n, .int .i64 xa, .int .i64 xb, .bool true]) = W := ⟨_, rfl⟩
              rw [hW1] at Q43 ⊢
              clear hW1
              have q50 := (Q43.out.box (wr.heap.size, 83, [.string NM, .int .i64 BB, .int .i64 n, .int .i64 xa, .int .i64 xb, .bool true]) List.mem_cons_self).cell 0
              have q51 := (Q43.out.box (wr.heap.size, 83, [.string NM, .int .i64 BB, .int .i64 n, .int .i64 xa, .int .i64 xb, .bool true]) List.mem_cons_self).cell 1
              have q52 := (Q43.out.box (wr.heap.size, 83, [.string NM, .int .i64 BB, .int .i64 n, .int .i64 xa, .int .i64 xb, .bool true]) List.mem_cons_self).cell 2
              have q53 := (Q43.out.box (wr.heap.size, 83, [.string NM, .int .i64 BB, .int .i64 n, .int .i64 xa, .int .i64 xb, .bool true]) List.mem_cons_self).cell 3
              have q54 := (Q43.out.box (wr.heap.size, 83, [.string NM, .int .i64 BB, .int .i64 n, .int .i64 xa, .int .i64 xb, .bool true]) List.mem_cons_self).cell 4
              have q55 := (Q43.out.box (wr.heap.size, 83, [.string NM, .int .i64 BB, .int .i64 n, .int .i64 xa, .int .i64 xb, .bool true]) List.mem_cons_self).cell 5
              simp only [List.getElem?_cons_succ, List.getElem?_cons_zero] at q50 q51 q52 q53 q54 q55
              have P56 := Lib.hid (Q43.out.put [.int .i64 0, .int .i64 0, .int .i64 0, .int .i64 0, .int .i64 0, .int .i64 0, .int .i64 0, .slice none 0 0, .int .i64 0, .slice none 0 0] 30)
              have q57 := (P56.out.box (wr.heap.size, 83, [.string NM, .int .i64 BB, .int .i64 n, .int .i64 xa, .int .i64 xb, .bool true]) (List.mem_cons_of_mem _ List.mem_cons_self)).cell 0
              have q58 := (P56.out.box (wr.heap.size, 83, [.string NM, .int .i64 BB, .int .i64 n, .int .i64 xa, .int .i64 xb, .bool true]) (List.mem_cons_of_mem _ List.mem_cons_self)).cell 1
              have q59 := (P56.out.box (wr.heap.size, 83, [.string NM, .int .i64 BB, .int .i64 n, .int .i64 xa, .int .i64 xb, .bool true]) (List.mem_cons_of_mem _ List.mem_cons_self)).cell 2
              have q60 := (P56.out.box (wr.heap.size, 83, [.string NM, .int .i64 BB, .int .i64 n, .int .i64 xa, .int .i64 xb, .bool true]) (List.mem_cons_of_mem _ List.mem_cons_self)).cell 3
              have q61 := (P56.out.box (wr.heap.size, 83, [.string NM, .int .i64 BB, .int .i64 n, .int .i64 xa, .int .i64 xb, .bool true]) (List.mem_cons_of_mem _ List.mem_cons_self)).cell 4
              have q62 := (P56.out.box (wr.heap.size, 83, [.string NM, .int .i64 BB, .int .i64 n, .int .i64 xa, .int .i64 xb, .bool true]) (List.mem_cons_of_mem _ List.mem_cons_self)).cell 5
              simp only [List.getElem?_cons_succ, List.getElem?_cons_zero] at q57 q58 q59 q60 q61 q62
              have hcb := (P56.out.box _ List.mem_cons_self).cell b
              have hfb := (P56.out.box _ List.mem_cons_self).free b
              rw [hzu] at hcb
              have hia := ia_at (W1.heap.size) b HB6.out
              rw [hBB] at hia
              go_upto_region 9 with fail
              clear q50 q51 q52 q53 q54 q55 q57 q58 q59 q60 q61 q62
              clear hcb hfb hia hzu
              rw [HZS.out]
              have Q63 := Lib.hid (Sf.put Q43.out [.int .i64 (up zf b n 0), .int .i64 (up zf b n 1), .int .i64 (up zf b n 2), .int .i64 (up zf b n 3), .int .i64 (up zf b n 4), .int .i64 (up zf b n 5), .int .i64 0, .slice none 0 0, .int .i64 0, .slice none 0 0] 30)
              obtain ⟨F, hF⟩ : ∃ F, up zf b n = F := ⟨_, rfl⟩
              rw [hF] at Q63 ⊢
              have HWS2 := Lib.hid (HWS.out b n q HWD.out)
              rw [hF] at HWS2
              obtain ⟨U, hU⟩ : ∃ U, (W1.alloc (.cells #[.int .i64 (F 0), .int .i64 (F 1), .int .i64 (F 2), .int .i64 (F 3), .int .i64 (F 4), .int .i64 (F 5), .int .i64 0, .slice none 0 0, .int .i64 0, .slice none 0 0] 30)) = U := ⟨_, rfl⟩
              rw [hU] at Q63 ⊢
              obtain ⟨BU, hBU⟩ : ∃ BU, W1.heap.size = BU := ⟨_, rfl⟩
              rw [hBU] at Q63 ⊢
              have q64 := (Q63.out.box (wr.heap.size, 83, [.string NM, .int .i64 BB, .int .i64 n, .int .i64 xa, .int .i64 xb, .bool true]) (List.mem_cons_of_mem _ List.mem_cons_self)).cell 0
              have q65 := (Q63.out.box (wr.heap.size, 83, [.string NM, .int .i64 BB, .int .i64 n, .int .i64 xa, .int .i64 xb, .bool true]) (List.mem_cons_of_mem _ List.mem_cons_self)).cell 1
              have q66 := (Q63.out.box (wr.heap.size, 83, [.string NM, .int .i64 BB, .int .i64 n, .int .i64 xa, .int .i64 xb, .bool true]) (List.mem_cons_of_mem _ List.mem_cons_self)).cell 2
              have q67 := (Q63.out.box (wr.heap.size, 83, [.string NM, .int .i64 BB, .int .i64 n, .int .i64 xa, .int .i64 xb, .bool true]) (List.mem_cons_of_mem _ List.mem_cons_self)).cell 3
              have q68 := (Q63.out.box (wr.heap.size, 83, [.string NM, .int .i64 BB, .int .i64 n, .int .i64 xa, .int .i64 xb, .bool true]) (List.mem_cons_of_mem _ List.mem_cons_self)).cell 4
              have q69 := (Q63.out.box (wr.heap.size, 83, [.string NM, .int .i64 BB, .int .i64 n, .int .i64 xa, .int .i64 xb, .bool true]) (List.mem_cons_of_mem _ List.mem_cons_self)).cell 5
              simp only [List.getElem?_cons_succ, List.getElem?_cons_zero] at q64 q65 q66 q67 q68 q69
              go_wp2_with fail
              clear q64 q65 q66 q67 q68 q69
              refine (HOF.out _).mono ?_
              rintro e w1 ⟨sx1, ax1, nx1, cx1, bx1, mx1, dx1, rfl, hr, hb, hf, hg⟩
              have E1 := Lib.hid hr.1.1
              have R1 := Lib.hid (Q63.out.ret2 hb hr.1.2 hf hr.2.2 hg)
              have FF1 := Lib.hid (hf.mono Q63.out.below.size)
              have FG1 := Lib.hid (hg.mono Q63.out.below.size)
              clear hr hb hf hg
              have Q70 : Hid (Sf w ([] ++ (BU, 30, [.int .i64 (F 0), .int .i64 (F 1), .int .i64 (F 2), .int .i64 (F 3), .int .i64 (F 4), .int .i64 (F 5), .int .i64 sx1, .slice ax1 nx1 cx1, .int .i64 1, .slice bx1 mx1 dx1]) :: [(wr.heap.size, 83, [.string NM, .int .i64 BB, .int .i64 n, .int .i64 xa, .int .i64 xb, .bool true]), (w.heap.size, 30, [.int .i64 0, .int .i64 0, .int .i64 0, .int .i64 0, .int .i64 0, .int .i64 0, .int .i64 0, .slice none 0 0, .int .i64 0, .slice none 0 0])]) _ _) := Lib.hid (Sf.part (pre := []) R1.out 6 7 8 9 rfl rfl rfl (.int .i64 sx1) (.slice ax1 nx1 cx1) (.int .i64 1) (.slice bx1 mx1 dx1))
              obtain ⟨V70, hV70⟩ : ∃ V, (((((w1).setCell ⟨BU, 6, none⟩ (.int .i64 sx1)).setCell ⟨BU, 7, none⟩ (.slice ax1 nx1 cx1)).setCell ⟨BU, 8, none⟩ (.int .i64 1)).setCell ⟨BU, 9, none⟩ (.slice bx1 mx1 dx1)) = V := ⟨_, rfl⟩
              rw [hV70] at Q70
              have HV70 := Lib.hid hV70
              clear hV70
              have q71 := (Q70.out.box (BU, 30, [.int .i64 (F 0), .int .i64 (F 1), .int .i64 (F 2), .int .i64 (F 3), .int .i64 (F 4), .int .i64 (F 5), .int .i64 sx1, .slice ax1 nx1 cx1, .int .i64 1, .slice bx1 mx1 dx1]) List.mem_cons_self).cell 0
              have q72 := (Q70.out.box (BU, 30, [.int .i64 (F 0), .int .i64 (F 1), .int .i64 (F 2), .int .i64 (F 3), .int .i64 (F 4), .int .i64 (F 5), .int .i64 sx1, .slice ax1 nx1 cx1, .int .i64 1, .slice bx1 mx1 dx1]) List.mem_cons_self).cell 1
              have q73 := (Q70.out.box (BU, 30, [.int .i64 (F 0), .int .i64 (F 1), .int .i64 (F 2), .int .i64 (F 3), .int .i64 (F 4), .int .i64 (F 5), .int .i64 sx1, .slice ax1 nx1 cx1, .int .i64 1, .slice bx1 mx1 dx1]) List.mem_cons_self).cell 2
              have q74 := (Q70.out.box (BU, 30, [.int .i64 (F 0), .int .i64 (F 1), .int .i64 (F 2), .int .i64 (F 3), .int .i64 (F 4), .int .i64 (F 5), .int .i64 sx1, .slice ax1 nx1 cx1, .int .i64 1, .slice bx1 mx1 dx1]) List.mem_cons_self).cell 3
              have q75 := (Q70.out.box (BU, 30, [.int .i64 (F 0), .int .i64 (F 1), .int .i64 (F 2), .int .i64 (F 3), .int .i64 (F 4), .int .i64 (F 5), .int .i64 sx1, .slice ax1 nx1 cx1, .int .i64 1, .slice bx1 mx1 dx1]) List.mem_cons_self).cell 4
              have q76 := (Q70.out.box (BU, 30, [.int .i64 (F 0), .int .i64 (F 1), .int .i64 (F 2), .int .i64 (F 3), .int .i64 (F 4), .int .i64 (F 5), .int .i64 sx1, .slice ax1 nx1 cx1, .int .i64 1, .slice bx1 mx1 dx1]) List.mem_cons_self).cell 5
              have q77 := (Q70.out.box (BU, 30, [.int .i64 (F 0), .int .i64 (F 1), .int .i64 (F 2), .int .i64 (F 3), .int .i64 (F 4), .int .i64 (F 5), .int .i64 sx1, .slice ax1 nx1 cx1, .int .i64 1, .slice bx1 mx1 dx1]) List.mem_cons_self).cell 6
              have q78 := (Q70.out.box (BU, 30, [.int .i64 (F 0), .int .i64 (F 1), .int .i64 (F 2), .int .i64 (F 3), .int .i64 (F 4), .int .i64 (F 5), .int .i64 sx1, .slice ax1 nx1 cx1, .int .i64 1, .slice bx1 mx1 dx1]) List.mem_cons_self).cell 7
              have q79 := (Q70.out.box (BU, 30, [.int .i64 (F 0), .int .i64 (F 1), .int .i64 (F 2), .int .i64 (F 3), .int .i64 (F 4), .int .i64 (F 5), .int .i64 sx1, .slice ax1 nx1 cx1, .int .i64 1, .slice bx1 mx1 dx1]) List.mem_cons_self).cell 8
              have q80 := (Q70.out.box (BU, 30, [.int .i64 (F 0), .int .i64 (F 1), .int .i64 (F 2), .int .i64 (F 3), .int .i64 (F 4), .int .i64 (F 5), .int .i64 sx1, .slice ax1 nx1 cx1, .int .i64 1, .slice bx1 mx1 dx1]) List.mem_cons_self).cell 9
              simp only [List.getElem?_cons_succ, List.getElem?_cons_zero] at q71 q72 q73 q74 q75 q76 q77 q78 q79 q80
              have Q81 := Lib.hid (Sf.row (pre := [(BU, 30, [.int .i64 (F 0), .int .i64 (F 1), .int .i64 (F 2), .int .i64 (F 3), .int .i64 (F 4), .int .i64 (F 5), .int .i64 sx1, .slice ax1 nx1 cx1, .int .i64 1, .slice bx1 mx1 dx1]), (wr.heap.size, 83, [.string NM, .int .i64 BB, .int .i64 n, .int .i64 xa, .int .i64 xb, .bool true])]) Q70.out [.int .i64 (F 0), .int .i64 (F 1), .int .i64 (F 2), .int .i64 (F 3), .int .i64 (F 4), .int .i64 (F 5), .int .i64 sx1, .slice ax1 nx1 cx1, .int .i64 1, .slice bx1 mx1 dx1])
              go_wp2_with (first | (refine wpList_store4 rfl _ _ _ rfl _ 6 7 8 9 rfl rfl rfl (.int .i64 sx1) (.slice ax1 nx1 cx1) (.int .i64 1) (.slice bx1 mx1 dx1) rfl rfl (R1.out.box _ List.mem_cons_self) (Nat.le_of_ble_eq_true rfl) infoFrac (by simp [Value.oneCell']) ?_; rw [HV70.out]) | refine wpList_store_row rfl _ _ _ rfl _ #[.int .i64 (F 0), .int .i64 (F 1), .int .i64 (F 2), .int .i64 (F 3), .int .i64 (F 4), .int .i64 (F 5), .int .i64 sx1, .slice ax1 nx1 cx1, .int .i64 1, .slice bx1 mx1 dx1] rfl rfl _ _ (Q70.out.box _ (List.mem_cons_of_mem _ (List.mem_cons_of_mem _ List.mem_cons_self))) (by kernel_rfl) rfl (by simp [Value.oneCell']) ?_)
              clear q71 q72 q73 q74 q75 q76 q77 q78 q79 q80
              refine bodyPost_ret (ret_row rfl _ _ _ _ rfl (run_loadVar_row _ _ _ _ _ (0, 0) _ (Q81.out.box _ (List.mem_cons_of_mem _ (List.mem_cons_of_mem _ List.mem_cons_self))) Tryd.underlying30 rfl (by kernel_rfl))) rfl (HWS2.out _ _ ⟨_, _, _, _, _, _, _, rfl, (Q81.out.fr (v := .slice ax1 nx1 cx1) (u := .slice bx1 mx1 dx1) (r := q) List.mem_cons_self (List.mem_cons_of_mem _ List.mem_cons_self) E1.out), Q81.out.below, FF1.out, FG1.out⟩)
        · obtain ⟨m1, m2, m3, m4, m5⟩ := HEM true false hpe rfl
          clear HEM
          cases fd
          · clear HHT HSU
            have P82 := Lib.hid (HS.out.put [.string ⟨#[]⟩, .int .i64 0, .int .i64 0, .int .i64 0, .int .i64 0, .bool false] 83)
            have Q82 := Lib.hid (Sf.row (pre := []) P82.out [.string NM, .int .i64 BB, .int .i64 n, .int .i64 xa, .int .i64 xb, .bool t])
            have q83 := (Q82.out.box (wr.heap.size, 83, [.string NM, .int .i64 BB, .int .i64 n, .int .i64 xa, .int .i64 xb, .bool t]) List.mem_cons_self).cell 0
            have q84 := (Q82.out.box (wr.heap.size, 83, [.string NM, .int .i64 BB, .int .i64 n, .int .i64 xa, .int .i64 xb, .bool t]) List.mem_cons_self).cell 1
            have q85 := (Q82.out.box (wr.heap.size, 83, [.string NM, .int .i64 BB, .int .i64 n, .int .i64 xa, .int .i64 xb, .bool t]) List.mem_cons_self).cell 2
            have q86 := (Q82.out.box (wr.heap.size, 83, [.string NM, .int .i64 BB, .int .i64 n, .int .i64 xa, .int .i64 xb, .bool t]) List.mem_cons_self).cell 3
            have q87 := (Q82.out.box (wr.heap.size, 83, [.string NM, .int .i64 BB, .int .i64 n, .int .i64 xa, .int .i64 xb, .bool t]) List.mem_cons_self).cell 4
            have q88 := (Q82.out.box (wr.heap.size, 83, [.string NM, .int .i64 BB, .int .i64 n, .int .i64 xa, .int .i64 xb, .bool t]) List.mem_cons_self).cell 5
            simp only [List.getElem?_cons_succ, List.getElem?_cons_zero] at q83 q84 q85 q86 q87 q88
            go_wp2_with (first | refine wpList_store_row rfl _ _ _ rfl _ #[.string NM, .int .i64 BB, .int .i64 n, .int .i64 xa, .int .i64 xb, .bool t] rfl rfl _ _ (P82.out.box _ List.mem_cons_self) (by kernel_rfl) rfl (by simp [Value.oneCell']) ?_)
            refine (HC.out _).mono ?_
            rintro e _ ⟨rfl, rfl⟩
            go_wp2_with fail
            refine (HP2.out _).mono ?_
            rintro e _ ⟨rfl, rfl⟩
            go_wp2_with fail
            clear q83 q84 q85 q86 q87 q88
            have HM2 := Lib.hid (HMS.out (fun h => by cases h))
            have HT := Lib.hid (Sf.tail Q82.out)
            go_roundw
            case rel => exact ⟨k + 1, hlt, by go_num, HM2.out, HT.out⟩
            case measure => simp [RowKit.intOf]; omega
          · skip
            have hw := HHT.out P a c hpp (.inl (of_decide_eq_true hpe))
            rw [← HSU.out rfl] at hw
            obtain ⟨hwd, hb6, hba, hbc, hbx, hbz⟩ := hw
            obtain ⟨q, hq⟩ : ∃ q, facP a c xa xb = q := ⟨_, rfl⟩
            rw [hq] at hwd
            have HWD := Lib.hid hwd
            have hx1 : 1 ≤ a * xa ∧ a * xa ≤ 1000000000 * 1000000 := ⟨by have := Int.mul_le_mul hba.1 hbx.1 (by decide) (by omega); omega, Int.mul_le_mul hba.2 hbx.2 (by omega) (by decide)⟩
            have hx2 : 1 ≤ c * xb ∧ c * xb ≤ 1000 * 1000 := ⟨by have := Int.mul_le_mul hbc.1 hbz.1 (by decide) (by omega); omega, Int.mul_le_mul hbc.2 hbz.2 (by omega) (by decide)⟩
            have hw1 : IntKind.i64.wrap (a * xa) = a * xa := IntWalk.i64_in _ (by omega)
            have hw2 : IntKind.i64.wrap (c * xb) = c * xb := IntWalk.i64_in _ (by omega)
            have HOF : Hid (∀ W, Calls Tryd.prog 48 #[.int .i64 (a * xa), .int .i64 (c * xb)] W (FVE q 0 W)) := Lib.hid (fun W => by
              have := fof_k (a * xa) (c * xb) (by omega) (by omega) (by omega) W
              unfold facP at hq; rwa [hq] at this)
            have HB6 := Lib.hid hb6
            have hzu := zu_cell b hb6
            have HZS := Lib.hid (zu_set b hb6 n)
            clear hwd hb6 hba hbc hbx hbz hx1 hx2 hq HHT HSU HMS hpp hpe
            have P89 := Lib.hid (HS.out.put [.string ⟨#[]⟩, .int .i64 0, .int .i64 0, .int .i64 0, .int .i64 0, .bool false] 83)
            have Q89 := Lib.hid (Sf.row (pre := []) P89.out [.string NM, .int .i64 BB, .int .i64 n, .int .i64 xa, .int .i64 xb, .bool t])
            have q90 := (Q89.out.box (wr.heap.size, 83, [.string NM, .int .i64 BB, .int .i64 n, .int .i64 xa, .int .i64 xb, .bool t]) List.mem_cons_self).cell 0
            have q91 := (Q89.out.box (wr.heap.size, 83, [.string NM, .int .i64 BB, .int .i64 n, .int .i64 xa, .int .i64 xb, .bool t]) List.mem_cons_self).cell 1
            have q92 := (Q89.out.box (wr.heap.size, 83, [.string NM, .int .i64 BB, .int .i64 n, .int .i64 xa, .int .i64 xb, .bool t]) List.mem_cons_self).cell 2
            have q93 := (Q89.out.box (wr.heap.size, 83, [.string NM, .int .i64 BB, .int .i64 n, .int .i64 xa, .int .i64 xb, .bool t]) List.mem_cons_self).cell 3
            have q94 := (Q89.out.box (wr.heap.size, 83, [.string NM, .int .i64 BB, .int .i64 n, .int .i64 xa, .int .i64 xb, .bool t]) List.mem_cons_self).cell 4
            have q95 := (Q89.out.box (wr.heap.size, 83, [.string NM, .int .i64 BB, .int .i64 n, .int .i64 xa, .int .i64 xb, .bool t]) List.mem_cons_self).cell 5
            simp only [List.getElem?_cons_succ, List.getElem?_cons_zero] at q90 q91 q92 q93 q94 q95
            go_wp2_with (first | refine wpList_store_row rfl _ _ _ rfl _ #[.string NM, .int .i64 BB, .int .i64 n, .int .i64 xa, .int .i64 xb, .bool t] rfl rfl _ _ (P89.out.box _ List.mem_cons_self) (by kernel_rfl) rfl (by simp [Value.oneCell']) ?_)
            refine (HC.out _).mono ?_
            rintro e _ ⟨rfl, rfl⟩
            go_wp2_with fail
            refine (HP2.out _).mono ?_
            rintro e _ ⟨rfl, rfl⟩
            clear q90 q91 q92 q93 q94 q95
            obtain ⟨W1, hW1⟩ : ∃ W, ((wr.alloc (.cells #[.string ⟨#[]⟩, .int .i64 0, .int .i64 0, .int .i64 0, .int .i64 0, .bool false] 83)).setRow wr.heap.size #[.string NM, .int .i64 BB, .int .i64 n, .int .i64 xa, .int .i64 xb, .bool t]) = W := ⟨_, rfl⟩
            rw [hW1] at Q89 ⊢
            clear hW1
            have q96 := (Q89.out.box (wr.heap.size, 83, [.string NM, .int .i64 BB, .int .i64 n, .int .i64 xa, .int .i64 xb, .bool t]) List.mem_cons_self).cell 0
            have q97 := (Q89.out.box (wr.heap.size, 83, [.string NM, .int .i64 BB, .int .i64 n, .int .i64 xa, .int .i64 xb, .bool t]) List.mem_cons_self).cell 1
            have q98 := (Q89.out.box (wr.heap.size, 83, [.string NM, .int .i64 BB, .int .i64 n, .int .i64 xa, .int .i64 xb, .bool t]) List.mem_cons_self).cell 2
            have q99 := (Q89.out.box (wr.heap.size, 83, [.string NM, .int .i64 BB, .int .i64 n, .int .i64 xa, .int .i64 xb, .bool t]) List.mem_cons_self).cell 3
            have q100 := (Q89.out.box (wr.heap.size, 83, [.string NM, .int .i64 BB, .int .i64 n, .int .i64 xa, .int .i64 xb, .bool t]) List.mem_cons_self).cell 4
            have q101 := (Q89.out.box (wr.heap.size, 83, [.string NM, .int .i64 BB, .int .i64 n, .int .i64 xa, .int .i64 xb, .bool t]) List.mem_cons_self).cell 5
            simp only [List.getElem?_cons_succ, List.getElem?_cons_zero] at q96 q97 q98 q99 q100 q101
            have P102 := Lib.hid (Q89.out.put [.int .i64 0, .int .i64 0, .int .i64 0, .int .i64 0, .int .i64 0, .int .i64 0, .int .i64 0, .slice none 0 0, .int .i64 0, .slice none 0 0] 30)
            have q103 := (P102.out.box (wr.heap.size, 83, [.string NM, .int .i64 BB, .int .i64 n, .int .i64 xa, .int .i64 xb, .bool t]) (List.mem_cons_of_mem _ List.mem_cons_self)).cell 0
            have q104 := (P102.out.box (wr.heap.size, 83, [.string NM, .int .i64 BB, .int .i64 n, .int .i64 xa, .int .i64 xb, .bool t]) (List.mem_cons_of_mem _ List.mem_cons_self)).cell 1
            have q105 := (P102.out.box (wr.heap.size, 83, [.string NM, .int .i64 BB, .int .i64 n, .int .i64 xa, .int .i64 xb, .bool t]) (List.mem_cons_of_mem _ List.mem_cons_self)).cell 2
            have q106 := (P102.out.box (wr.heap.size, 83, [.string NM, .int .i64 BB, .int .i64 n, .int .i64 xa, .int .i64 xb, .bool t]) (List.mem_cons_of_mem _ List.mem_cons_self)).cell 3
            have q107 := (P102.out.box (wr.heap.size, 83, [.string NM, .int .i64 BB, .int .i64 n, .int .i64 xa, .int .i64 xb, .bool t]) (List.mem_cons_of_mem _ List.mem_cons_self)).cell 4
            have q108 := (P102.out.box (wr.heap.size, 83, [.string NM, .int .i64 BB, .int .i64 n, .int .i64 xa, .int .i64 xb, .bool t]) (List.mem_cons_of_mem _ List.mem_cons_self)).cell 5
            simp only [List.getElem?_cons_succ, List.getElem?_cons_zero] at q103 q104 q105 q106 q107 q108
            have hcb := (P102.out.box _ List.mem_cons_self).cell b
            have hfb := (P102.out.box _ List.mem_cons_self).free b
            rw [hzu] at hcb
            have hia := ia_at (W1.heap.size) b HB6.out
            rw [hBB] at hia
            go_upto_region 9 with fail
            clear q96 q97 q98 q99 q100 q101 q103 q104 q105 q106 q107 q108
            clear hcb hfb hia hzu
            rw [HZS.out]
            have Q109 := Lib.hid (Sf.put Q89.out [.int .i64 (up zf b n 0), .int .i64 (up zf b n 1), .int .i64 (up zf b n 2), .int .i64 (up zf b n 3), .int .i64 (up zf b n 4), .int .i64 (up zf b n 5), .int .i64 0, .slice none 0 0, .int .i64 0, .slice none 0 0] 30)
            obtain ⟨F, hF⟩ : ∃ F, up zf b n = F := ⟨_, rfl⟩
            rw [hF] at Q109 ⊢
            have HWS2 := Lib.hid (HWS.out b n q HWD.out)
            rw [hF] at HWS2
            obtain ⟨U, hU⟩ : ∃ U, (W1.alloc (.cells #[.int .i64 (F 0), .int .i64 (F 1), .int .i64 (F 2), .int .i64 (F 3), .int .i64 (F 4), .int .i64 (F 5), .int .i64 0, .slice none 0 0, .int .i64 0, .slice none 0 0] 30)) = U := ⟨_, rfl⟩
            rw [hU] at Q109 ⊢
            obtain ⟨BU, hBU⟩ : ∃ BU, W1.heap.size = BU := ⟨_, rfl⟩
            rw [hBU] at Q109 ⊢
            have q110 := (Q109.out.box (wr.heap.size, 83, [.string NM, .int .i64 BB, .int .i64 n, .int .i64 xa, .int .i64 xb, .bool t]) (List.mem_cons_of_mem _ List.mem_cons_self)).cell 0
            have q111 := (Q109.out.box (wr.heap.size, 83, [.string NM, .int .i64 BB, .int .i64 n, .int .i64 xa, .int .i64 xb, .bool t]) (List.mem_cons_of_mem _ List.mem_cons_self)).cell 1
            have q112 := (Q109.out.box (wr.heap.size, 83, [.string NM, .int .i64 BB, .int .i64 n, .int .i64 xa, .int .i64 xb, .bool t]) (List.mem_cons_of_mem _ List.mem_cons_self)).cell 2
            have q113 := (Q109.out.box (wr.heap.size, 83, [.string NM, .int .i64 BB, .int .i64 n, .int .i64 xa, .int .i64 xb, .bool t]) (List.mem_cons_of_mem _ List.mem_cons_self)).cell 3
            have q114 := (Q109.out.box (wr.heap.size, 83, [.string NM, .int .i64 BB, .int .i64 n, .int .i64 xa, .int .i64 xb, .bool t]) (List.mem_cons_of_mem _ List.mem_cons_self)).cell 4
            have q115 := (Q109.out.box (wr.heap.size, 83, [.string NM, .int .i64 BB, .int .i64 n, .int .i64 xa, .int .i64 xb, .bool t]) (List.mem_cons_of_mem _ List.mem_cons_self)).cell 5
            simp only [List.getElem?_cons_succ, List.getElem?_cons_zero] at q110 q111 q112 q113 q114 q115
            go_wp2_with fail
            clear q110 q111 q112 q113 q114 q115
            refine (HOF.out _).mono ?_
            rintro e w1 ⟨sx1, ax1, nx1, cx1, bx1, mx1, dx1, rfl, hr, hb, hf, hg⟩
            have E1 := Lib.hid hr.1.1
            have R1 := Lib.hid (Q109.out.ret2 hb hr.1.2 hf hr.2.2 hg)
            have FF1 := Lib.hid (hf.mono Q109.out.below.size)
            have FG1 := Lib.hid (hg.mono Q109.out.below.size)
            clear hr hb hf hg
            have Q116 : Hid (Sf w ([] ++ (BU, 30, [.int .i64 (F 0), .int .i64 (F 1), .int .i64 (F 2), .int .i64 (F 3), .int .i64 (F 4), .int .i64 (F 5), .int .i64 sx1, .slice ax1 nx1 cx1, .int .i64 1, .slice bx1 mx1 dx1]) :: [(wr.heap.size, 83, [.string NM, .int .i64 BB, .int .i64 n, .int .i64 xa, .int .i64 xb, .bool t]), (w.heap.size, 30, [.int .i64 0, .int .i64 0, .int .i64 0, .int .i64 0, .int .i64 0, .int .i64 0, .int .i64 0, .slice none 0 0, .int .i64 0, .slice none 0 0])]) _ _) := Lib.hid (Sf.part (pre := []) R1.out 6 7 8 9 rfl rfl rfl (.int .i64 sx1) (.slice ax1 nx1 cx1) (.int .i64 1) (.slice bx1 mx1 dx1))
            obtain ⟨V116, hV116⟩ : ∃ V, (((((w1).setCell ⟨BU, 6, none⟩ (.int .i64 sx1)).setCell ⟨BU, 7, none⟩ (.slice ax1 nx1 cx1)).setCell ⟨BU, 8, none⟩ (.int .i64 1)).setCell ⟨BU, 9, none⟩ (.slice bx1 mx1 dx1)) = V := ⟨_, rfl⟩
            rw [hV116] at Q116
            have HV116 := Lib.hid hV116
            clear hV116
            have q117 := (Q116.out.box (BU, 30, [.int .i64 (F 0), .int .i64 (F 1), .int .i64 (F 2), .int .i64 (F 3), .int .i64 (F 4), .int .i64 (F 5), .int .i64 sx1, .slice ax1 nx1 cx1, .int .i64 1, .slice bx1 mx1 dx1]) List.mem_cons_self).cell 0
            have q118 := (Q116.out.box (BU, 30, [.int .i64 (F 0), .int .i64 (F 1), .int .i64 (F 2), .int .i64 (F 3), .int .i64 (F 4), .int .i64 (F 5), .int .i64 sx1, .slice ax1 nx1 cx1, .int .i64 1, .slice bx1 mx1 dx1]) List.mem_cons_self).cell 1
            have q119 := (Q116.out.box (BU, 30, [.int .i64 (F 0), .int .i64 (F 1), .int .i64 (F 2), .int .i64 (F 3), .int .i64 (F 4), .int .i64 (F 5), .int .i64 sx1, .slice ax1 nx1 cx1, .int .i64 1, .slice bx1 mx1 dx1]) List.mem_cons_self).cell 2
            have q120 := (Q116.out.box (BU, 30, [.int .i64 (F 0), .int .i64 (F 1), .int .i64 (F 2), .int .i64 (F 3), .int .i64 (F 4), .int .i64 (F 5), .int .i64 sx1, .slice ax1 nx1 cx1, .int .i64 1, .slice bx1 mx1 dx1]) List.mem_cons_self).cell 3
            have q121 := (Q116.out.box (BU, 30, [.int .i64 (F 0), .int .i64 (F 1), .int .i64 (F 2), .int .i64 (F 3), .int .i64 (F 4), .int .i64 (F 5), .int .i64 sx1, .slice ax1 nx1 cx1, .int .i64 1, .slice bx1 mx1 dx1]) List.mem_cons_self).cell 4
            have q122 := (Q116.out.box (BU, 30, [.int .i64 (F 0), .int .i64 (F 1), .int .i64 (F 2), .int .i64 (F 3), .int .i64 (F 4), .int .i64 (F 5), .int .i64 sx1, .slice ax1 nx1 cx1, .int .i64 1, .slice bx1 mx1 dx1]) List.mem_cons_self).cell 5
            have q123 := (Q116.out.box (BU, 30, [.int .i64 (F 0), .int .i64 (F 1), .int .i64 (F 2), .int .i64 (F 3), .int .i64 (F 4), .int .i64 (F 5), .int .i64 sx1, .slice ax1 nx1 cx1, .int .i64 1, .slice bx1 mx1 dx1]) List.mem_cons_self).cell 6
            have q124 := (Q116.out.box (BU, 30, [.int .i64 (F 0), .int .i64 (F 1), .int .i64 (F 2), .int .i64 (F 3), .int .i64 (F 4), .int .i64 (F 5), .int .i64 sx1, .slice ax1 nx1 cx1, .int .i64 1, .slice bx1 mx1 dx1]) List.mem_cons_self).cell 7
            have q125 := (Q116.out.box (BU, 30, [.int .i64 (F 0), .int .i64 (F 1), .int .i64 (F 2), .int .i64 (F 3), .int .i64 (F 4), .int .i64 (F 5), .int .i64 sx1, .slice ax1 nx1 cx1, .int .i64 1, .slice bx1 mx1 dx1]) List.mem_cons_self).cell 8
            have q126 := (Q116.out.box (BU, 30, [.int .i64 (F 0), .int .i64 (F 1), .int .i64 (F 2), .int .i64 (F 3), .int .i64 (F 4), .int .i64 (F 5), .int .i64 sx1, .slice ax1 nx1 cx1, .int .i64 1, .slice bx1 mx1 dx1]) List.mem_cons_self).cell 9
            simp only [List.getElem?_cons_succ, List.getElem?_cons_zero] at q117 q118 q119 q120 q121 q122 q123 q124 q125 q126
            have Q127 := Lib.hid (Sf.row (pre := [(BU, 30, [.int .i64 (F 0), .int .i64 (F 1), .int .i64 (F 2), .int .i64 (F 3), .int .i64 (F 4), .int .i64 (F 5), .int .i64 sx1, .slice ax1 nx1 cx1, .int .i64 1, .slice bx1 mx1 dx1]), (wr.heap.size, 83, [.string NM, .int .i64 BB, .int .i64 n, .int .i64 xa, .int .i64 xb, .bool t])]) Q116.out [.int .i64 (F 0), .int .i64 (F 1), .int .i64 (F 2), .int .i64 (F 3), .int .i64 (F 4), .int .i64 (F 5), .int .i64 sx1, .slice ax1 nx1 cx1, .int .i64 1, .slice bx1 mx1 dx1])
            go_wp2_with (first | (refine wpList_store4 rfl _ _ _ rfl _ 6 7 8 9 rfl rfl rfl (.int .i64 sx1) (.slice ax1 nx1 cx1) (.int .i64 1) (.slice bx1 mx1 dx1) rfl rfl (R1.out.box _ List.mem_cons_self) (Nat.le_of_ble_eq_true rfl) infoFrac (by simp [Value.oneCell']) ?_; rw [HV116.out]) | refine wpList_store_row rfl _ _ _ rfl _ #[.int .i64 (F 0), .int .i64 (F 1), .int .i64 (F 2), .int .i64 (F 3), .int .i64 (F 4), .int .i64 (F 5), .int .i64 sx1, .slice ax1 nx1 cx1, .int .i64 1, .slice bx1 mx1 dx1] rfl rfl _ _ (Q116.out.box _ (List.mem_cons_of_mem _ (List.mem_cons_of_mem _ List.mem_cons_self))) (by kernel_rfl) rfl (by simp [Value.oneCell']) ?_)
            clear q117 q118 q119 q120 q121 q122 q123 q124 q125 q126
            refine bodyPost_ret (ret_row rfl _ _ _ _ rfl (run_loadVar_row _ _ _ _ _ (0, 0) _ (Q127.out.box _ (List.mem_cons_of_mem _ (List.mem_cons_of_mem _ List.mem_cons_self))) Tryd.underlying30 rfl (by kernel_rfl))) rfl (HWS2.out _ _ ⟨_, _, _, _, _, _, _, rfl, (Q127.out.fr (v := .slice ax1 nx1 cx1) (u := .slice bx1 mx1 dx1) (r := q) List.mem_cons_self (List.mem_cons_of_mem _ List.mem_cons_self) E1.out), Q127.out.below, FF1.out, FG1.out⟩)
    · obtain rfl : k = 12 := by omega
      have hlt2 : decide (((12 : Nat) : Int) < 12) = false := by decide
      have HWE := Lib.hid (HWN.out (word_miss HMI.out))
      have Q128 := Lib.hid (Sf.row (pre := []) HS.out [.int .i64 0, .int .i64 0, .int .i64 0, .int .i64 0, .int .i64 0, .int .i64 0, .int .i64 0, .slice none 0 0, .int .i64 0, .slice none 0 0])
      go_wp2_with (first | refine wpList_store_row rfl _ _ _ rfl _ #[.int .i64 0, .int .i64 0, .int .i64 0, .int .i64 0, .int .i64 0, .int .i64 0, .int .i64 0, .slice none 0 0, .int .i64 0, .slice none 0 0] rfl rfl _ _ (HS.out.box _ List.mem_cons_self) (by kernel_rfl) rfl (by simp [Value.oneCell']) ?_)
      refine bodyPost_ret (ret_row rfl _ _ _ _ rfl (run_loadVar_row _ _ _ _ _ (0, 0) _ (Q128.out.box _ List.mem_cons_self) Tryd.underlying30 rfl (by kernel_rfl))) rfl (HWE.out _ _ ⟨rfl, Q128.out.below⟩)
end Go.Proofs.YtmhdhabgdlefjaaDoor.Un

namespace Go.Proofs.YtmhdhabgdlefjaaDoor.Un
open Go.RowKit Dm

/-- The slice v has the items l, at the head of a block of its own if it has room for any. -/
def OwnJ (w : World) (v : Value) (l : List (List UInt8 × Int)) : Prop := Own w 58 2 v l.length (l.flatMap itc)
theorem OwnJ.nil (w : World) : OwnJ w (.slice none 0 0) [] := Own.nil w _ 2
theorem infoJt : (Tryd.prog.info? 58).map (fun i => (i.zero, i.size, i.bytes)) = some (some (.agg #[.string ⟨#[]⟩, .int .i64 0]), 2, 24) := by kernel_rfl
theorem OwnJ.snoc {w : World} {v : Value} {l : List (List UInt8 × Int)} (h : OwnJ w v l) (hl : l.length ≤ 1000000) (x : List UInt8 × Int) :
    ∃ a c w', (∀ ty, (Builtin.append_ #[54, 54] ty #[v, .slice (some ⟨w.heap.size, 0, none⟩) 1 1]).run Tryd.prog (w.alloc (.cells #[sv x.1, .int .i64 x.2] 58)) = .ok (.slice a (l.length + 1) c) w') ∧ OwnJ w' (.slice a (l.length + 1) c) (l ++ [x]) ∧
      (w.alloc (.cells #[sv x.1, .int .i64 x.2] 58)).grownBy w' (blk v) ∧ (blk (.slice a (l.length + 1) c) = none ∨ blk (.slice a (l.length + 1) c) = blk v ∨ blk (.slice a (l.length + 1) c) = some (w.heap.size + 1)) := by
  obtain ⟨i0, hi, hz0, hz1, hz2⟩ := info_parts infoJt
  have hown : Own (w.alloc (.cells #[sv x.1, .int .i64 x.2] 58)) 58 2 v l.length (l.flatMap itc) := Own.grown h (World.grownBy_alloc w _ none) (by cases hb : blk v <;> simp)
  have hsrc : Src Tryd.prog 2 54 (.slice (some ⟨w.heap.size, 0, none⟩) 1 1) 1 [sv x.1, .int .i64 x.2] (w.alloc (.cells #[sv x.1, .int .i64 x.2] 58)) :=
    Src.ofSlice _ Tryd.underlying54 _ 1 1 [sv x.1, .int .i64 x.2] (by simp) (World.news_of_block (cs := #[sv x.1, .int .i64 x.2]) (t := 58) (fr := (0, 0)) (alloc_at w _)) (by simp [Value.oneCell', sv])
  have hrun := fun ty => own_append (P := Tryd.prog) (t := 54) (tx := 54) (ty := ty) Tryd.underlying54 hi hz0 hz1 hz2 rfl hown hsrc (by unfold maxLen; omega) (by omega)
  obtain ⟨v', w', hr, h1, h2, h3⟩ := hrun 0
  obtain ⟨a, c, rfl, _, _⟩ := h1.shape
  refine ⟨a, c, w', fun ty => ?_, by unfold OwnJ; simpa [itc] using h1, h2, by simpa using h3⟩
  have : Builtin.append_ #[54, 54] ty #[v, .slice (some ⟨w.heap.size, 0, none⟩) 1 1] = Builtin.append_ #[54, 54] 0 #[v, .slice (some ⟨w.heap.size, 0, none⟩) 1 1] := rfl
  rw [this]; exact hr
theorem OwnJ.later {w w' : World} {v : Value} {l : List (List UInt8 × Int)} (h : OwnJ w v l) (hb : RowKit.Below w.heap.size w w') : OwnJ w' v l :=
  Dm.Own.grown h (Dm.grownBy_none hb) (by cases h' : Dm.blk v <;> simp)
/-- An item of the slice, in its cells. -/
theorem OwnJ.at {w : World} {a : Option Addr} {c : Nat} {l : List (List UInt8 × Int)} (h : OwnJ w (.slice a l.length c) l) {k : Nat} (hk : k < l.length) :
    ∃ g, a = some ⟨g, 0, none⟩ ∧ w.cell? ⟨g, k * 2, none⟩ = some (sv l[k].1) ∧ w.cell? ⟨g, k * 2 + 1, none⟩ = some (.int .i64 l[k].2) := by
  obtain ⟨g, hg, h0⟩ := Dm.Own.cell h (itc_get l k 0 hk _ rfl)
  obtain ⟨g', hg', h1⟩ := Dm.Own.cell h (itc_get l k 1 hk _ rfl)
  rw [hg] at hg'
  injection hg' with e
  injection e with e
  subst e
  exact ⟨g, hg, h0, h1⟩
theorem OwnJ.exp {w : World} {G c : Nat} {l : List (List UInt8 × Int)} (h : OwnJ w (.slice (some ⟨G, 0, none⟩) l.length c) l) {k : Nat} (hk : k < l.length) {x : Int} (hx : l[k].2 = x) : w.cell? ⟨G, k * 2 + 1, none⟩ = some (.int .i64 x) := by
  obtain ⟨g, e, _, h1⟩ := OwnJ.at h hk
  injection e with e; injection e with e; subst e; subst hx; exact h1
theorem jt_at (g n c k : Nat) (hk : k < n) (_hn : n ≤ 1000) (W : World) : (Instr.indexAt 54 (.slice (some ⟨g, 0, none⟩) n c) (.int .i64 (k : Int))).run Tryd.prog W = .ok (.pointer (some ⟨g, k * 2, none⟩)) W := by
  have ha : (asIntOf (.int .i64 (k : Int))).run Tryd.prog W = .ok (IntKind.i64, (k : Int)) W := rfl
  obtain ⟨i0, hi, _, hs, _⟩ := info_parts infoJt
  simp [Instr.indexAt, run_underlying Tryd.underlying54, hk, ha, Addr.add, sizeOf, typeInfo, hi, hs]
  intro e; exact e.symm

/-- What split returns. -/
def SplitEnd (L : List UInt8) (w : World) (e : Ending) (w' : World) : Prop := match itemsL L with
  | none => e = .returned (.tuple #[.slice none 0 0, .bool false]) ∧ RowKit.Below w.heap.size w w'
  | some l => ∃ a c, e = .returned (.tuple #[.slice a l.length c, .bool true]) ∧ OwnJ w' (.slice a l.length c) l ∧ RowKit.Below w.heap.size w w' ∧ ∀ b, blk (.slice a l.length c) = some b → w.heap.size ≤ b
theorem sp_none {L : List UInt8} {w w' : World} {e : Ending} (h : itemsL L = none) (he : e = .returned (.tuple #[.slice none 0 0, .bool false])) (hb : RowKit.Below w.heap.size w w') : SplitEnd L w e w' := by
  unfold SplitEnd; rw [h]; exact ⟨he, hb⟩
theorem sp_some {L : List UInt8} {w w' : World} {e : Ending} {l : List (List UInt8 × Int)} {a : Option Addr} {c : Nat} (h : itemsL L = some l) (he : e = .returned (.tuple #[.slice a l.length c, .bool true])) (ho : OwnJ w' (.slice a l.length c) l) (hb : RowKit.Below w.heap.size w w')
    (hn : ∀ b, blk (.slice a l.length c) = some b → w.heap.size ≤ b) : SplitEnd L w e w' := by
  unfold SplitEnd; rw [h]; exact ⟨a, c, he, ho, hb, hn⟩
/-- What holds in the loop. -/
structure Jm (w : World) (S R : List UInt8) (l : List (List UInt8 × Int)) (v : Value) (wr : World) : Prop where
  own : OwnJ wr v l
  below : RowKit.Below w.heap.size w wr
  new : ∀ b, blk v = some b → w.heap.size ≤ b
  eq : itemsL S = (tailL R).map (l ++ ·)
  len : l.length + R.length ≤ 41
theorem Jm.later {w wr w' : World} {S R : List UInt8} {l : List (List UInt8 × Int)} {v : Value} (h : Jm w S R l v wr) (hb : RowKit.Below wr.heap.size wr w') : Jm w S R l v w' :=
  ⟨Own.grown h.own (grownBy_none hb) (by cases h' : blk v <;> simp), h.below.trans (hb.mono h.below.size), h.new, h.eq, h.len⟩
theorem Jm.snoc {w wr w' : World} {S L r v : List UInt8} {n : Nat} {m : Int} {c : UInt8} {l : List (List UInt8 × Int)} {u u' : Value} {B : Nat} (h : Jm w S (c :: L) l u wr) (hc : signB c = true) (hi : itemL L = some ((v, n), r)) (hm : m = if c = 47 then -(n : Int) else (n : Int))
    (ho : OwnJ w' u' (l ++ [(v, m)])) (hg : (wr.alloc (.cells #[sv v, .int .i64 m] 58)).grownBy w' (blk u)) (hB : B = wr.heap.size + 1) (hb : blk u' = none ∨ blk u' = blk u ∨ blk u' = some B) : Jm w S r (l ++ [(v, m)]) u' w' := by
  have hl := item_len hi
  refine ⟨ho, ?_, fun b e => ?_, ?_, by have := h.len; simp at this ⊢; omega⟩
  · exact (h.below.alloc h.below.size _).grown hg (by simp; exact Nat.le_succ_of_le h.below.size) (fun b e => h.new b e)
  · rcases hb with hb | hb | hb
    · rw [hb] at e; cases e
    · rw [hb] at e; exact h.new b e
    · rw [hb] at e; injection e with e; have := h.below.size; omega
  · rw [h.eq, tailL_some hc hi, Option.map_map, ← hm]
    congr 1
    funext t
    simp
def lenOf : Value → Nat
  | .string s => s.size
  | _ => 0
theorem sl_run (s : ByteArray) (q : Nat) (h : q ≤ s.size) (W : World) : (Instr.slice 9 (.string s) (some (.int .i64 (q : Int))) none none).run Tryd.prog W = .ok (.string (s.extract q s.size)) W := by
  rw [run_slice_string_l _ _ _ Tryd.underlying9 .i64 (q : Int) (by omega) (by omega)]
  rfl
theorem ext_rest (s : ByteArray) (q : Nat) (h : q ≤ s.size) : (s.extract q s.size).data.toList = s.data.toList.drop q := by
  have := ext_take s q (s.size - q)
  rw [show q + (s.size - q) = s.size by omega] at this
  rw [this]
  show (s.data.toList.drop q).take (s.size - q) = _
  rw [List.take_of_length_le]; rw [List.length_drop, sizeL]; omega
theorem rest_drop {c : UInt8} {L r : List UInt8} {x : List UInt8 × Nat} (h : itemL L = some (x, r)) : (c :: L).drop (L.length + 1 - r.length) = r ∧ r.length < L.length := by
  obtain ⟨d, hd⟩ := item_suffix h
  refine ⟨?_, item_len h⟩
  have h1 : L.length = d.length + r.length := by rw [hd, List.length_append]
  rw [show L.length + 1 - r.length = d.length + 1 by omega, List.drop_succ_cons, hd, List.drop_left]

set_option maxHeartbeats 1000000 in
theorem split_empty (w : World) : Calls Tryd.prog 26 #[.string ⟨#[]⟩] w (SplitEnd [] w) := by
  go_enter Tryd.func26, Tryd.ntmps26
  go_wp2_with fail
  go_ret2
  exact sp_some (l := []) rfl rfl (OwnJ.nil w) (Below.refl _ _) (fun b h => (by cases h))
set_option maxHeartbeats 1000000 in
theorem split_long (s : ByteArray) (h0 : 40 < s.size) (w : World) : Calls Tryd.prog 26 #[.string s] w (SplitEnd s.data.toList w) := by
  obtain ⟨g0, g1, g2, g3, g4⟩ := str_empty s false true (by
    rw [decide_eq_false_iff_not]; intro e; have h3 := sizeL s; rw [e] at h3; simp at h3; omega) rfl
  have g40 : decide (40 < s.size) = true := by simp; omega
  have g40' : decide (40 < (s.size : Int)) = true := by simp; omega
  have HV : Hid (itemsL s.data.toList = none) := Lib.hid (by unfold itemsL; rw [if_pos (by rw [sizeL]; exact h0)])
  go_enter Tryd.func26, Tryd.ntmps26
  go_wp2_with fail
  go_ret2
  exact sp_none HV.out rfl (Below.refl _ _)

set_option maxHeartbeats 8000000 in
theorem split_one (s : ByteArray) (hs : s.size ≤ 40) (h0 : 0 < s.size) (h49 : s.data.toList.head? = some 49) (w : World) : Calls Tryd.prog 26 #[.string s] w (SplitEnd s.data.toList w) := by
  obtain ⟨g0, g1, g2, g3, g4⟩ := str_empty s false true (by
    rw [decide_eq_false_iff_not]; intro e; have h3 := sizeL s; rw [e] at h3; simp at h3; omega) rfl
  have g40 : decide (40 < s.size) = false := by simp; omega
  have g40' : decide (40 < (s.size : Int)) = false := by simp; omega
  have hsl := sizeL s
  obtain ⟨y, Y, hy⟩ : ∃ y Y, s.data.toList = y :: Y := by
    cases h : s.data.toList with
    | nil => rw [h] at hsl; simp at hsl; omega
    | cons y Y => exact ⟨y, Y, rfl⟩
  have hcp := fun W => Tryd.strings_CutPrefix s ⟨#[49]⟩ W
  obtain rfl : y = 49 := by rw [hy] at h49; simpa using h49
  have hp1 : Lib.hasPrefix s.data.toList (⟨#[49]⟩ : ByteArray).data.toList = true := by rw [hy]; rfl
  have hp2 : Lib.trimPrefix s.data.toList (⟨#[49]⟩ : ByteArray).data.toList = Y := by unfold Lib.trimPrefix; rw [if_pos hp1, hy]; rfl
  have HEQ : Hid (itemsL s.data.toList = (tailL Y).map ([] ++ ·)) := Lib.hid (by
    unfold itemsL
    rw [if_neg (by omega), hy]
    simp)
  rw [hp1, hp2] at hcp
  obtain ⟨R0, hR0⟩ : ∃ R0 : ByteArray, (⟨Y.toArray⟩ : ByteArray) = R0 := ⟨_, rfl⟩
  rw [hR0] at hcp
  have HR0 : Hid (R0.data.toList = Y) := Lib.hid (by rw [← hR0])
  have HRS : Hid (R0.size ≤ 41) := Lib.hid (by rw [← sizeL, HR0.out]; rw [hy] at hsl; simp at hsl; omega)
  have HST : Hid (Jm w s.data.toList R0.data.toList [] (.slice none 0 0) w) := Lib.hid ⟨OwnJ.nil w, Below.refl _ _, fun b h => (by cases h), by rw [HR0.out]; exact HEQ.out, by rw [sizeL]; simpa using HRS.out⟩
  have HCP := Lib.hid hcp
  clear hcp hp1 hp2 hy hR0 hsl h49
  go_enter Tryd.func26, Tryd.ntmps26
  go_wp2_with fail
  refine (HCP.out _).mono ?_
  rintro e w1 ⟨rfl, hw1⟩
  rw [hw1]
  clear hw1 w1
  go_wp2_with fail
  go_loopw [4, 6] (fun r v wr => ∃ (R : ByteArray) (l : List (List UInt8 × Int)) (a : Option Addr) (c : Nat), r = .string R ∧ v = .slice a l.length c ∧ R.size ≤ 41 ∧ Jm w s.data.toList R.data.toList l (.slice a l.length c) wr) (fun r _ _ => lenOf r)
  case atStart => exact ⟨R0, [], none, 0, rfl, rfl, HRS.out, HST.out⟩
  case round =>
    obtain ⟨R, l, a, c, rfl, rfl, hR, hI⟩ := hrel
    have HI := Lib.hid hI
    have HRS := Lib.hid (sizeL R)
    rcases hRl : R.data.toList with _ | ⟨x, L⟩
    · obtain ⟨m1, m2, m3, m4, m5⟩ := str_empty R true false (by rw [hRl]; rfl) rfl
      have HV : Hid (itemsL s.data.toList = some l) := Lib.hid (by have := HI.out.eq; rw [hRl, tailL_nil] at this; rw [this]; simp)
      clear hI hRl hR
      go_wp2_with fail
      go_ret2
      exact sp_some HV.out rfl HI.out.own HI.out.below HI.out.new
    · obtain ⟨m1, m2, m3, m4, m5⟩ := str_empty R false true (by rw [hRl]; rfl) rfl
      rw [hRl] at HI HRS
      have HSP : Hid (Calls Tryd.prog 45 #[.string R] wr (Gives (readItemV x L) wr)) := Lib.hid (readitem_any R hRl (by omega) wr)
      by_cases hc : signB x = true ∧ itemL L ≠ none
      · obtain ⟨hc, hit⟩ := hc
        rcases hit2 : itemL L with _ | ⟨⟨v, n⟩, r⟩
        · exact absurd hit2 hit
        have HIT := Lib.hid hit2
        have HC := Lib.hid hc
        obtain ⟨m, hm⟩ : ∃ m : Int, (if x = 47 then -(n : Int) else (n : Int)) = m := ⟨_, rfl⟩
        have hsv : readItemV x L = riV v m ((L.length : Int) + 1 - r.length) := by unfold readItemV; rw [hc, hit2, ← hm]; rfl
        rw [hsv] at HSP
        have HM := Lib.hid hm.symm
        obtain ⟨V, hV⟩ : ∃ V : ByteArray, (⟨v.toArray⟩ : ByteArray) = V := ⟨_, rfl⟩
        have HVV : Hid (sv v = .string V) := Lib.hid (by unfold sv; rw [hV])
        obtain ⟨hrd, hrl⟩ := rest_drop (c := x) hit2
        obtain ⟨q, hq⟩ : ∃ q : Nat, L.length + 1 - r.length = q := ⟨_, rfl⟩
        have hsz : R.size = L.length + 1 := by have := HRS.out; simp at this; omega
        have HQL : Hid (1 < q ∧ q ≤ R.size ∧ (R.extract q R.size).size < R.size ∧ (R.extract q R.size).size ≤ 41) := Lib.hid (by
          have h1 := sizeL (R.extract q R.size)
          rw [ext_rest R q (by omega), hRl, ← hq, hrd] at h1
          rw [hq] at h1
          omega)
        rw [show ((L.length : Int) + 1 - r.length) = (q : Int) by omega] at HSP
        have hsl := sl_run R q (by omega)
        have HER : Hid ((R.extract q R.size).data.toList = r) := Lib.hid (by rw [ext_rest R q (by omega), hRl, ← hq]; exact hrd)
        obtain ⟨R2, hR2⟩ : ∃ R2, R.extract q R.size = R2 := ⟨_, rfl⟩
        rw [hR2] at hsl HER HQL
        unfold riV at HSP
        rw [HVV.out] at HSP
        have gq : ((q : Int) == 0) = false := by rw [beq_eq_false_iff_ne]; omega
        clear hI hc hit hit2 hV hrd hrl hq hsv hm hR2 hRl hsz hR
        go_wp2_with fail
        refine HSP.out.mono ?_
        rintro e w5 ⟨rfl, hb5⟩
        have HP5 : Hid (Jt (w5.alloc (.cells #[.string ⟨#[]⟩, .int .i64 0] 58)) w5.heap.size (.string ⟨#[]⟩) 0) := Lib.hid (heap_alloc_new w5 _)
        have HP7 := Lib.hid (HP5.out.row (.string V) m)
        have HI7 : Hid (Jm w s.data.toList (x :: L) l (.slice a l.length c) ((w5.alloc (.cells #[.string ⟨#[]⟩, .int .i64 0] 58)).setRow w5.heap.size #[.string V, .int .i64 m])) := Lib.hid ((HI.out.later hb5).later (below_row (below_alloc w5 (.cells #[.string ⟨#[]⟩, .int .i64 0] 58)) (b := w5.heap.size) (Nat.le_refl _) _))
        clear hb5
        go_upto_region 13 with (first | refine wpList_store_row rfl _ _ _ rfl _ _ rfl rfl _ _ HP5.out (infoJ _ _) rfl (by simp [Value.oneCell']) ?_ | fail)
        obtain ⟨W1, hW1⟩ : ∃ W, ((w5.alloc (.cells #[.string ⟨#[]⟩, .int .i64 0] 58)).setRow w5.heap.size #[.string V, .int .i64 m]) = W := ⟨_, rfl⟩
        rw [hW1] at HI7 HP7 ⊢
        obtain ⟨b1, hb1⟩ : ∃ b, w5.heap.size = b := ⟨_, rfl⟩
        rw [hb1] at HP7 ⊢
        obtain ⟨a5, c5, w6, hrun, ho, hg, hb⟩ := HI7.out.own.snoc (by have := HI7.out.len; omega) (v, m)
        rw [HVV.out] at hrun
        have HN := Lib.hid (HI7.out.snoc HC.out HIT.out HM.out ho hg rfl hb)
        clear ho hg hb hW1 hb1 HP5
        go_wp2_with (first | refine wpList_load_row rfl _ _ rfl _ rfl _ _ _ _ HP7.out Tryd.underlying58 rfl (infoJ _ _) ?_ | (at_builtin; refine Lib.wpList_append_run _ rfl _ _ _ _ rfl _ _ rfl rfl _ _ (hrun _) ?_))
        clear hrun
        go_roundw
        case rel => exact ⟨R2, l ++ [(v, m)], a5, c5, rfl, by simp, HQL.out.2.2.2, by rw [HER.out]; simpa using HN.out⟩
        case measure => exact HQL.out.2.2.1
      · have HV : Hid (itemsL s.data.toList = none) := Lib.hid (by
          rw [HI.out.eq]
          rcases hs : signB x with _ | _
          · rw [tailL_bad hs]; rfl
          · rcases hit : itemL L with _ | y
            · rw [tailL_none hit]; rfl
            · exact absurd ⟨hs, by rw [hit]; simp⟩ hc)
        have hsv : readItemV x L = riV [] 0 0 := by
          unfold readItemV
          rcases hs : signB x with _ | _
          · rfl
          · rcases hit : itemL L with _ | y
            · rfl
            · exact absurd ⟨hs, by rw [hit]; simp⟩ hc
        rw [hsv] at HSP
        unfold riV sv at HSP
        have HBW := Lib.hid HI.out.below
        clear hI hc hsv hRl hR
        go_wp2_with fail
        refine HSP.out.mono ?_
        rintro e w5 ⟨rfl, hb5⟩
        have HB5 := Lib.hid (HBW.out.trans (hb5.mono HBW.out.size))
        have HP5 : Hid (Jt (w5.alloc (.cells #[.string ⟨#[]⟩, .int .i64 0] 58)) w5.heap.size (.string ⟨#[]⟩) 0) := Lib.hid (heap_alloc_new w5 _)
        have HB6 := Lib.hid (fun (c : Array Value) => below_row (HB5.out.alloc HB5.out.size (.cells #[.string ⟨#[]⟩, .int .i64 0] 58)) (b := w5.heap.size) HB5.out.size c)
        clear hb5
        go_wp2_with (first | refine wpList_store_row rfl _ _ _ rfl _ #[.string ⟨#[]⟩, .int .i64 0] rfl rfl _ _ HP5.out (infoJ _ _) rfl (by simp [Value.oneCell']) ?_)
        all_goals (go_ret2; first | exact sp_none HV.out rfl (HB6.out _) | exact sp_none HV.out rfl (HB5.out.alloc HB5.out.size _))

set_option maxHeartbeats 8000000 in
theorem split_item (s : ByteArray) (hs : s.size ≤ 40) (h0 : 0 < s.size) (h49 : s.data.toList.head? ≠ some 49) (w : World) : Calls Tryd.prog 26 #[.string s] w (SplitEnd s.data.toList w) := by
  obtain ⟨g0, g1, g2, g3, g4⟩ := str_empty s false true (by
    rw [decide_eq_false_iff_not]; intro e; have h3 := sizeL s; rw [e] at h3; simp at h3; omega) rfl
  have g40 : decide (40 < s.size) = false := by simp; omega
  have g40' : decide (40 < (s.size : Int)) = false := by simp; omega
  have hsl := sizeL s
  obtain ⟨y, Y, hy⟩ : ∃ y Y, s.data.toList = y :: Y := by
    cases h : s.data.toList with
    | nil => rw [h] at hsl; simp at hsl; omega
    | cons y Y => exact ⟨y, Y, rfl⟩
  have hcp := fun W => Tryd.strings_CutPrefix s ⟨#[49]⟩ W
  have hy2 : y ≠ 49 := fun e => h49 (by rw [hy, e]; rfl)
  have hp1 : Lib.hasPrefix s.data.toList (⟨#[49]⟩ : ByteArray).data.toList = false := by
    rw [hy]
    show List.isPrefixOf [49] (y :: Y) = false
    simp [List.isPrefixOf]
    exact fun e => hy2 e.symm
  have hp2 : Lib.trimPrefix s.data.toList (⟨#[49]⟩ : ByteArray).data.toList = s.data.toList := by unfold Lib.trimPrefix; rw [if_neg (by rw [hp1]; decide)]
  have HEQ : Hid (itemsL s.data.toList = (tailL (42 :: s.data.toList)).map ([] ++ ·)) := Lib.hid (by
    rw [items_star (by omega) (by rw [hy]; simpa using hy2) (by rw [hy]; simp)]
    simp)
  rw [hp1, hp2] at hcp
  have hs2 : (⟨s.data.toList.toArray⟩ : ByteArray) = s := by apply ByteArray.ext; simp
  rw [hs2] at hcp
  have hadd : ∀ W : World, (Op.stringOp .add ⟨#[42]⟩ s).run Tryd.prog W = .ok (.string ⟨(42 :: s.data.toList).toArray⟩) W := fun W => by
    have := run_string_add_lists (P := Tryd.prog) (w := W) [42] s.data.toList (by decide) (by omega)
    rw [hs2] at this; exact this
  obtain ⟨R0, hR0⟩ : ∃ R0 : ByteArray, (⟨(42 :: s.data.toList).toArray⟩ : ByteArray) = R0 := ⟨_, rfl⟩
  rw [hR0] at hadd
  have HR0 : Hid (R0.data.toList = 42 :: s.data.toList) := Lib.hid (by rw [← hR0])
  have HRS : Hid (R0.size ≤ 41) := Lib.hid (by rw [← sizeL, HR0.out]; simp; omega)
  have HST : Hid (Jm w s.data.toList R0.data.toList [] (.slice none 0 0) w) := Lib.hid ⟨OwnJ.nil w, Below.refl _ _, fun b h => (by cases h), by rw [HR0.out]; exact HEQ.out, by rw [sizeL]; simpa using HRS.out⟩
  have HCP := Lib.hid hcp
  clear hcp hp1 hp2 hy hR0 hsl h49 hs2 hy2
  go_enter Tryd.func26, Tryd.ntmps26
  go_wp2_with fail
  refine (HCP.out _).mono ?_
  rintro e w1 ⟨rfl, hw1⟩
  rw [hw1]
  clear hw1 w1
  go_wp2_with fail
  go_loopw [4, 6] (fun r v wr => ∃ (R : ByteArray) (l : List (List UInt8 × Int)) (a : Option Addr) (c : Nat), r = .string R ∧ v = .slice a l.length c ∧ R.size ≤ 41 ∧ Jm w s.data.toList R.data.toList l (.slice a l.length c) wr) (fun r _ _ => lenOf r)
  case atStart => exact ⟨R0, [], none, 0, rfl, rfl, HRS.out, HST.out⟩
  case round =>
    obtain ⟨R, l, a, c, rfl, rfl, hR, hI⟩ := hrel
    have HI := Lib.hid hI
    have HRS := Lib.hid (sizeL R)
    rcases hRl : R.data.toList with _ | ⟨x, L⟩
    · obtain ⟨m1, m2, m3, m4, m5⟩ := str_empty R true false (by rw [hRl]; rfl) rfl
      have HV : Hid (itemsL s.data.toList = some l) := Lib.hid (by have := HI.out.eq; rw [hRl, tailL_nil] at this; rw [this]; simp)
      clear hI hRl hR
      go_wp2_with fail
      go_ret2
      exact sp_some HV.out rfl HI.out.own HI.out.below HI.out.new
    · obtain ⟨m1, m2, m3, m4, m5⟩ := str_empty R false true (by rw [hRl]; rfl) rfl
      rw [hRl] at HI HRS
      have HSP : Hid (Calls Tryd.prog 45 #[.string R] wr (Gives (readItemV x L) wr)) := Lib.hid (readitem_any R hRl (by omega) wr)
      by_cases hc : signB x = true ∧ itemL L ≠ none
      · obtain ⟨hc, hit⟩ := hc
        rcases hit2 : itemL L with _ | ⟨⟨v, n⟩, r⟩
        · exact absurd hit2 hit
        have HIT := Lib.hid hit2
        have HC := Lib.hid hc
        obtain ⟨m, hm⟩ : ∃ m : Int, (if x = 47 then -(n : Int) else (n : Int)) = m := ⟨_, rfl⟩
        have hsv : readItemV x L = riV v m ((L.length : Int) + 1 - r.length) := by unfold readItemV; rw [hc, hit2, ← hm]; rfl
        rw [hsv] at HSP
        have HM := Lib.hid hm.symm
        obtain ⟨V, hV⟩ : ∃ V : ByteArray, (⟨v.toArray⟩ : ByteArray) = V := ⟨_, rfl⟩
        have HVV : Hid (sv v = .string V) := Lib.hid (by unfold sv; rw [hV])
        obtain ⟨hrd, hrl⟩ := rest_drop (c := x) hit2
        obtain ⟨q, hq⟩ : ∃ q : Nat, L.length + 1 - r.length = q := ⟨_, rfl⟩
        have hsz : R.size = L.length + 1 := by have := HRS.out; simp at this; omega
        have HQL : Hid (1 < q ∧ q ≤ R.size ∧ (R.extract q R.size).size < R.size ∧ (R.extract q R.size).size ≤ 41) := Lib.hid (by
          have h1 := sizeL (R.extract q R.size)
          rw [ext_rest R q (by omega), hRl, ← hq, hrd] at h1
          rw [hq] at h1
          omega)
        rw [show ((L.length : Int) + 1 - r.length) = (q : Int) by omega] at HSP
        have hsl := sl_run R q (by omega)
        have HER : Hid ((R.extract q R.size).data.toList = r) := Lib.hid (by rw [ext_rest R q (by omega), hRl, ← hq]; exact hrd)
        obtain ⟨R2, hR2⟩ : ∃ R2, R.extract q R.size = R2 := ⟨_, rfl⟩
        rw [hR2] at hsl HER HQL
        unfold riV at HSP
        rw [HVV.out] at HSP
        have gq : ((q : Int) == 0) = false := by rw [beq_eq_false_iff_ne]; omega
        clear hI hc hit hit2 hV hrd hrl hq hsv hm hR2 hRl hsz hR
        go_wp2_with fail
        refine HSP.out.mono ?_
        rintro e w5 ⟨rfl, hb5⟩
        have HP5 : Hid (Jt (w5.alloc (.cells #[.string ⟨#[]⟩, .int .i64 0] 58)) w5.heap.size (.string ⟨#[]⟩) 0) := Lib.hid (heap_alloc_new w5 _)
        have HP7 := Lib.hid (HP5.out.row (.string V) m)
        have HI7 : Hid (Jm w s.data.toList (x :: L) l (.slice a l.length c) ((w5.alloc (.cells #[.string ⟨#[]⟩, .int .i64 0] 58)).setRow w5.heap.size #[.string V, .int .i64 m])) := Lib.hid ((HI.out.later hb5).later (below_row (below_alloc w5 (.cells #[.string ⟨#[]⟩, .int .i64 0] 58)) (b := w5.heap.size) (Nat.le_refl _) _))
        clear hb5
        go_upto_region 13 with (first | refine wpList_store_row rfl _ _ _ rfl _ _ rfl rfl _ _ HP5.out (infoJ _ _) rfl (by simp [Value.oneCell']) ?_ | fail)
        obtain ⟨W1, hW1⟩ : ∃ W, ((w5.alloc (.cells #[.string ⟨#[]⟩, .int .i64 0] 58)).setRow w5.heap.size #[.string V, .int .i64 m]) = W := ⟨_, rfl⟩
        rw [hW1] at HI7 HP7 ⊢
        obtain ⟨b1, hb1⟩ : ∃ b, w5.heap.size = b := ⟨_, rfl⟩
        rw [hb1] at HP7 ⊢
        obtain ⟨a5, c5, w6, hrun, ho, hg, hb⟩ := HI7.out.own.snoc (by have := HI7.out.len; omega) (v, m)
        rw [HVV.out] at hrun
        have HN := Lib.hid (HI7.out.snoc HC.out HIT.out HM.out ho hg rfl hb)
        clear ho hg hb hW1 hb1 HP5
        go_wp2_with (first | refine wpList_load_row rfl _ _ rfl _ rfl _ _ _ _ HP7.out Tryd.underlying58 rfl (infoJ _ _) ?_ | (at_builtin; refine Lib.wpList_append_run _ rfl _ _ _ _ rfl _ _ rfl rfl _ _ (hrun _) ?_))
        clear hrun
        go_roundw
        case rel => exact ⟨R2, l ++ [(v, m)], a5, c5, rfl, by simp, HQL.out.2.2.2, by rw [HER.out]; simpa using HN.out⟩
        case measure => exact HQL.out.2.2.1
      · have HV : Hid (itemsL s.data.toList = none) := Lib.hid (by
          rw [HI.out.eq]
          rcases hs : signB x with _ | _
          · rw [tailL_bad hs]; rfl
          · rcases hit : itemL L with _ | y
            · rw [tailL_none hit]; rfl
            · exact absurd ⟨hs, by rw [hit]; simp⟩ hc)
        have hsv : readItemV x L = riV [] 0 0 := by
          unfold readItemV
          rcases hs : signB x with _ | _
          · rfl
          · rcases hit : itemL L with _ | y
            · rfl
            · exact absurd ⟨hs, by rw [hit]; simp⟩ hc
        rw [hsv] at HSP
        unfold riV sv at HSP
        have HBW := Lib.hid HI.out.below
        clear hI hc hsv hRl hR
        go_wp2_with fail
        refine HSP.out.mono ?_
        rintro e w5 ⟨rfl, hb5⟩
        have HB5 := Lib.hid (HBW.out.trans (hb5.mono HBW.out.size))
        have HP5 : Hid (Jt (w5.alloc (.cells #[.string ⟨#[]⟩, .int .i64 0] 58)) w5.heap.size (.string ⟨#[]⟩) 0) := Lib.hid (heap_alloc_new w5 _)
        have HB6 := Lib.hid (fun (c : Array Value) => below_row (HB5.out.alloc HB5.out.size (.cells #[.string ⟨#[]⟩, .int .i64 0] 58)) (b := w5.heap.size) HB5.out.size c)
        clear hb5
        go_wp2_with (first | refine wpList_store_row rfl _ _ _ rfl _ #[.string ⟨#[]⟩, .int .i64 0] rfl rfl _ _ HP5.out (infoJ _ _) rfl (by simp [Value.oneCell']) ?_)
        all_goals (go_ret2; first | exact sp_none HV.out rfl (HB6.out _) | exact sp_none HV.out rfl (HB5.out.alloc HB5.out.size _))
theorem splitP_any (s : ByteArray) (w : World) : Calls Tryd.prog 26 #[.string s] w (SplitEnd s.data.toList w) := by
  by_cases h : 40 < s.size
  · exact split_long s h w
  · by_cases h0 : 0 < s.size
    · by_cases h49 : s.data.toList.head? = some 49
      · exact split_one s (by omega) h0 h49 w
      · exact split_item s (by omega) h0 h49 w
    · have e : s = ⟨#[]⟩ := by
        apply ByteArray.ext
        apply Array.ext'
        have := sizeL s
        exact List.eq_nil_of_length_eq_zero (by omega)
      subst e
      exact split_empty w
end Go.Proofs.YtmhdhabgdlefjaaDoor.Un
