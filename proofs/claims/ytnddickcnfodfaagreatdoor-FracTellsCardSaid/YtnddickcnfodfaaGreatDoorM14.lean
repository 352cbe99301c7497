/- The contracts of Text and Read of frac. The contracts of small and least of kitbaglaw05: the examples. What the laws of frac want besides: limits, facts dropped. -/
import Derived.Test.YtnddickcnfodfaaGreatDoorM12
import Derived.Test.YtnddickcnfodfaaGreatDoorM13
import Derived.Test.YtnddickcnfodfaaGreatDoorShelf2
set_option maxRecDepth 100000
namespace Go.Proofs.YtnddickcnfodfaaGreatDoor.Bi
open Go.RowKit

/-- What the calls of the library read of the package-level variables, those of Cut too. -/
structure EnvF (w : World) : Prop where
  env : Env w
  len : ∃ m, w.cell? ⟨0, 0, none⟩ = some (.int .i64 m)
theorem EnvF.later {w w' : World} (he : EnvF w) (h : RowKit.Below w.heap.size w w') : EnvF w' := by
  obtain ⟨m, hm⟩ := he.len
  have hlt : 0 < w.heap.size := by
    rcases Nat.lt_or_ge 0 w.heap.size with h' | h'
    · exact h'
    · simp [World.cell?, Array.getElem?_eq_none h'] at hm
  exact ⟨he.env.later h, m, by rw [h.cell hlt]; exact hm⟩
theorem Sf.envF {w W : World} {L : List FBox} {F : List (Value × List Int)} (h : Sf w L F W) (he : EnvF w) : EnvF W := he.later h.below
theorem FSz.text {k : Nat} {r : Rat} (h : FSz k r) (hk : 1 ≤ k) : (fTextL r).length ≤ 14 * k + 3 := by
  have h1 := itoa_len h.1 hk
  have h2 := itoa_len h.2 hk
  unfold fTextL
  rw [List.length_append, List.length_cons]; omega
theorem size_mk (x : List UInt8) : (⟨x.toArray⟩ : ByteArray).size = x.length := by show x.toArray.size = _; simp
theorem text_cat (x y : List UInt8) : (⟨x.toArray⟩ : ByteArray) ++ ⟨#[47]⟩ ++ ⟨y.toArray⟩ = ⟨(x ++ 47 :: y).toArray⟩ := by
  apply ByteArray.ext
  simp [ByteArray.data_append]

set_option maxHeartbeats 2000000 in
theorem ftext_k {w : World} {sa : Int} {aa ba : Option Addr} {na ca ma da : Nat} {a : Rat} (ha : Fr w sa (.slice aa na ca) (.slice ba ma da) a) (La : FSz 1000 a) (he : Env w) :
    Calls Tryz.prog 36 #[.agg #[.int .i64 sa, .slice aa na ca, .int .i64 1, .slice ba ma da]] w fun e w' => e = .returned (.string ⟨(fTextL a).toArray⟩) ∧ RowKit.Below w.heap.size w w' := by
  have HA := Lib.hid ha
  have HLA := Lib.hid La
  have HaP := Lib.hid ha.1
  have HaQ := Lib.hid ha.2
  have LaP : Hid (Len 100000 a.num) := Sz.len La.1
  have LaQ : Hid (Len 100000 (a.den : Int)) := Sz.len La.2
  have HE := Lib.hid he
  obtain ⟨x, hx⟩ : ∃ x, Go.Lib.itoa a.num = x := ⟨_, rfl⟩
  obtain ⟨y, hy⟩ : ∃ y, Go.Lib.itoa (a.den : Int) = y := ⟨_, rfl⟩
  have hlx := itoa_len La.1 (by omega)
  have hly := itoa_len La.2 (by omega)
  rw [hx] at hlx
  rw [hy] at hly
  have ha1 : ∀ W : World, (Op.stringOp .add ⟨x.toArray⟩ ⟨#[47]⟩).run Tryz.prog W = .ok (.string (⟨x.toArray⟩ ++ ⟨#[47]⟩)) W := fun W => run_string_add_sum W _ _ (by rw [size_mk]; show x.length + 1 ≤ _; omega)
  have ha2 : ∀ W : World, (Op.stringOp .add (⟨x.toArray⟩ ++ ⟨#[47]⟩) ⟨y.toArray⟩).run Tryz.prog W = .ok (.string (⟨x.toArray⟩ ++ ⟨#[47]⟩ ++ ⟨y.toArray⟩)) W := fun W => run_string_add_sum W _ _ (by rw [ByteArray.size_append, size_mk, size_mk]; show x.length + 1 + y.length ≤ _; omega)
  have HX := Lib.hid hx
  have HY := Lib.hid hy
  have S0 := Lib.hid ((Sf.start w).put [.int .i64 sa, .slice aa na ca, .int .i64 1, .slice ba ma da] 26)
  clear ha La he hx hy hlx hly
  go_enter Tryz.func36, Tryz.ntmps36
  go_wp2_with fail
  refine (fright_k (HA.out.later S0.out.below) HLA.out).mono ?_
  rintro e w1 ⟨rfl, hb⟩
  have S1 := Lib.hid (S0.out.later hb)
  clear hb S0
  go_wp2_with fail
  have T0 := Lib.hid S1.out.drew
  have K0 : ∀ W F, Sf w [(w.heap.size, 26, [.int .i64 sa, .slice aa na ca, .int .i64 1, .slice ba ma da])] F W → W.cell? ⟨w.heap.size, 0, none⟩ = some (.int .i64 sa) ∧ W.cell? ⟨w.heap.size, 1, none⟩ = some (.slice aa na ca) ∧ W.cell? ⟨w.heap.size, 2, none⟩ = some (.int .i64 1) ∧ W.cell? ⟨w.heap.size, 3, none⟩ = some (.slice ba ma da) := fun W F h => (h.box _ List.mem_cons_self : Fb _ _).cells4
  have KK := Lib.hid K0
  clear K0 S1
  have e0 := KK.out _ _ T0.out
  have X0 := Lib.hid (HaP.out.later T0.out.below)
  have V0 := Lib.hid (T0.out.env HE.out)
  go_region_held3 (fun W => W.cell? ⟨w.heap.size, 0, none⟩ = some (.int .i64 sa) ∧ W.cell? ⟨w.heap.size, 1, none⟩ = some (.slice aa na ca) ∧ W.cell? ⟨w.heap.size, 2, none⟩ = some (.int .i64 1) ∧ W.cell? ⟨w.heap.size, 3, none⟩ = some (.slice ba ma da))
    (first | (with_reducible exact e0) | (with_reducible exact e1) | (with_reducible exact e2))
    (first
      | (go_at_call 66; (with_reducible refine (text_k X1.out LaQ.out V1.out).mono ?_); rintro e v1 ⟨rfl, hb⟩; rw [HY.out]; have T2 := Lib.hid (T1.out.later hb); have e2 := KK.out _ _ T2.out; clear hb)
      | (go_at_call 66; (with_reducible refine (text_k X0.out LaP.out V0.out).mono ?_); rintro e v0 ⟨rfl, hb⟩; rw [HX.out]; have T1 := Lib.hid (T0.out.later hb); have e1 := KK.out _ _ T1.out; have X1 := Lib.hid (HaQ.out.later T1.out.below); have V1 := Lib.hid (T1.out.env HE.out); clear hb))
  all_goals
    go_wp2_with fail
    go_ret
    refine ⟨?_, T2.out.below⟩
    unfold fTextL
    rw [HX.out, HY.out, ← text_cat]
    rfl

theorem read_is {s : ByteArray} {z : Int} (h : readS s.data.toList = some z) (hs : s.size ≤ 100000) (w : World) : Calls Tryz.prog 52 #[.string s] w (BVE z 0 w) := by
  have := read_any s hs w
  rw [h] at this
  exact this.mono fun _ _ h => h.bve
set_option maxHeartbeats 2000000 in
theorem fread_a (s : ByteArray) (hs : s.size ≤ 100000) (w : World) (he : EnvF w) (h1 : readS (Go.Lib.cut s.data.toList [47]).1 = none) : Calls Tryz.prog 17 #[.string s] w (FZE 2 w) := by
  have HE := Lib.hid he
  have HS := Lib.hid hs
  obtain ⟨mx, hmx⟩ := he.len
  obtain ⟨x, hx⟩ : ∃ x, (Go.Lib.cut s.data.toList [47]).1 = x := ⟨_, rfl⟩
  obtain ⟨y, hy⟩ : ∃ y, (Go.Lib.cut s.data.toList [47]).2.1 = y := ⟨_, rfl⟩
  obtain ⟨z, hz⟩ : ∃ z, (Go.Lib.cut s.data.toList [47]).2.2 = z := ⟨_, rfl⟩
  have hl := cut_lens s.data.toList
  have hl0 : s.data.toList.length = s.size := Array.length_toList
  rw [hx, hy] at hl
  rw [hx] at h1
  have HLX : Hid ((⟨x.toArray⟩ : ByteArray).size ≤ 100000) := Lib.hid (show x.toArray.size ≤ 100000 by rw [List.size_toArray]; omega)
  have HLY : Hid ((⟨y.toArray⟩ : ByteArray).size ≤ 100000) := Lib.hid (show y.toArray.size ≤ 100000 by rw [List.size_toArray]; omega)
  have HCUT : Hid (∀ W, EnvF W → Calls Tryz.prog 51 #[.string s, .string ⟨#[47]⟩] W fun e w' => e = .returned (.tuple #[.string ⟨x.toArray⟩, .string ⟨y.toArray⟩, .bool z]) ∧ ∃ n, w' = W.drewN n) := by
    intro W hW
    obtain ⟨m, hm⟩ := hW.len
    have := Tryz.strings_Cut s ⟨#[47]⟩ m W (by omega) hm
    rw [show (⟨#[47]⟩ : ByteArray).data.toList = [47] from rfl, hx, hy, hz] at this
    exact this
  have H1 := Lib.hid h1
  have S0 := Lib.hid ((Sf.start w).put [.int .i64 0, .slice none 0 0, .int .i64 0, .slice none 0 0] 26)
  clear he hs hx hy hz hl hl0 h1 hmx
  go_enter Tryz.func17, Tryz.ntmps17
  go_wp2_with fail
  refine (HCUT.out _ (S0.out.envF HE.out)).mono ?_
  rintro e w0 ⟨rfl, k, hw⟩
  have S1 := Lib.hid (S0.out.drewN k)
  rw [← hw] at S1
  clear hw S0
  go_wp2_with fail
  refine (read_no (s := ⟨x.toArray⟩) H1.out HLX.out _).mono ?_
  rintro e w1 ⟨s1, a1, n1, c1, rfl, hn, hb, hf⟩
  have S2 := Lib.hid ((S1.out.ret hb hn.2 hf).put [.int .i64 s1, .slice a1 n1 c1] 24)
  have E1 := Lib.hid hn.1
  have F1 := Lib.hid (hf.mono S1.out.below.size)
  clear hn hb hf S1
  have yr : Fb (w.heap.size, 26, [.int .i64 0, .slice none 0 0, .int .i64 0, .slice none 0 0]) _ := S2.out.box _ (List.mem_cons_of_mem _ List.mem_cons_self)
  obtain ⟨r0, r1, r2, r3⟩ := yr.cells4
  obtain ⟨f0, f1, f2, f3⟩ := yr.free4
  clear yr
  go_wp2_with fail
  have T9 := Lib.hid (S2.out.set4 (pre := [_]) (.int .i64 0) (.slice none 0 0) (.int .i64 0) (.slice none 0 0))
  exact bodyPost_ret (v := .tuple #[.agg #[.int .i64 0, .slice none 0 0, .int .i64 0, .slice none 0 0], .int .i64 2]) (by simp [results, Tryz.results17, go_sem, r0, r1, r2, r3]) rfl ⟨rfl, T9.out.below⟩

set_option maxHeartbeats 2000000 in
theorem fread_b (s : ByteArray) (hs : s.size ≤ 100000) (w : World) (he : EnvF w) {p : Int} (h1 : readS (Go.Lib.cut s.data.toList [47]).1 = some p) (h2 : readS (Go.Lib.cut s.data.toList [47]).2.1 = none) : Calls Tryz.prog 17 #[.string s] w (FZE 2 w) := by
  have HE := Lib.hid he
  have HS := Lib.hid hs
  obtain ⟨mx, hmx⟩ := he.len
  obtain ⟨x, hx⟩ : ∃ x, (Go.Lib.cut s.data.toList [47]).1 = x := ⟨_, rfl⟩
  obtain ⟨y, hy⟩ : ∃ y, (Go.Lib.cut s.data.toList [47]).2.1 = y := ⟨_, rfl⟩
  obtain ⟨z, hz⟩ : ∃ z, (Go.Lib.cut s.data.toList [47]).2.2 = z := ⟨_, rfl⟩
  have hl := cut_lens s.data.toList
  have hl0 : s.data.toList.length = s.size := Array.length_toList
  rw [hx, hy] at hl
  rw [hx] at h1
  rw [hy] at h2
  have H2 := Lib.hid h2
  clear h2
  have HLX : Hid ((⟨x.toArray⟩ : ByteArray).size ≤ 100000) := Lib.hid (show x.toArray.size ≤ 100000 by rw [List.size_toArray]; omega)
  have HLY : Hid ((⟨y.toArray⟩ : ByteArray).size ≤ 100000) := Lib.hid (show y.toArray.size ≤ 100000 by rw [List.size_toArray]; omega)
  have HCUT : Hid (∀ W, EnvF W → Calls Tryz.prog 51 #[.string s, .string ⟨#[47]⟩] W fun e w' => e = .returned (.tuple #[.string ⟨x.toArray⟩, .string ⟨y.toArray⟩, .bool z]) ∧ ∃ n, w' = W.drewN n) := by
    intro W hW
    obtain ⟨m, hm⟩ := hW.len
    have := Tryz.strings_Cut s ⟨#[47]⟩ m W (by omega) hm
    rw [show (⟨#[47]⟩ : ByteArray).data.toList = [47] from rfl, hx, hy, hz] at this
    exact this
  have H1 := Lib.hid h1
  have S0 := Lib.hid ((Sf.start w).put [.int .i64 0, .slice none 0 0, .int .i64 0, .slice none 0 0] 26)
  clear he hs hx hy hz hl hl0 h1 hmx
  go_enter Tryz.func17, Tryz.ntmps17
  go_wp2_with fail
  refine (HCUT.out _ (S0.out.envF HE.out)).mono ?_
  rintro e w0 ⟨rfl, k, hw⟩
  have S1 := Lib.hid (S0.out.drewN k)
  rw [← hw] at S1
  clear hw S0
  go_wp2_with fail
  refine (read_is (s := ⟨x.toArray⟩) H1.out HLX.out _).mono ?_
  rintro e w1 ⟨s1, a1, n1, c1, rfl, hn, hb, hf⟩
  have S2 := Lib.hid ((S1.out.ret hb hn.2 hf).put [.int .i64 s1, .slice a1 n1 c1] 24)
  have E1 := Lib.hid hn.1
  have F1 := Lib.hid (hf.mono S1.out.below.size)
  clear hn hb hf S1
  go_wp2_with fail
  refine (read_no (s := ⟨y.toArray⟩) H2.out HLY.out _).mono ?_
  rintro e w2 ⟨s2, a2, n2, c2, rfl, hn, hb, hf⟩
  have S3 := Lib.hid ((S2.out.ret hb hn.2 hf).put [.int .i64 s2, .slice a2 n2 c2] 24)
  have E2 := Lib.hid hn.1
  have F2 := Lib.hid (hf.mono S2.out.below.size)
  clear hn hb hf S2
  have yp : Fb (w1.heap.size, 24, [.int .i64 s1, .slice a1 n1 c1]) _ := S3.out.box _ (List.mem_cons_of_mem _ List.mem_cons_self)
  obtain ⟨q0, q1⟩ := yp.cells2
  clear yp
  have S4 := Lib.hid (S3.out.put' (n := w2.heap.size + 1) (by simp) [.int .i64 s1, .slice a1 n1 c1, .int .i64 s2, .slice a2 n2 c2] 26)
  have yr : Fb (w.heap.size, 26, [.int .i64 0, .slice none 0 0, .int .i64 0, .slice none 0 0]) _ := S4.out.box _ (List.mem_cons_of_mem _ (List.mem_cons_of_mem _ (List.mem_cons_of_mem _ List.mem_cons_self)))
  obtain ⟨r0, r1, r2, r3⟩ := yr.cells4
  obtain ⟨f0, f1, f2, f3⟩ := yr.free4
  clear yr
  go_wp2_with fail
  have T9 := Lib.hid (S4.out.set4 (pre := [_, _, _]) (.int .i64 0) (.slice none 0 0) (.int .i64 0) (.slice none 0 0))
  exact bodyPost_ret (v := .tuple #[.agg #[.int .i64 0, .slice none 0 0, .int .i64 0, .slice none 0 0], .int .i64 2]) (by simp [results, Tryz.results17, go_sem, r0, r1, r2, r3]) rfl ⟨rfl, T9.out.below⟩

set_option maxHeartbeats 2000000 in
theorem fread_c (s : ByteArray) (hs : s.size ≤ 100000) (w : World) (he : EnvF w) {p q : Int} (h1 : readS (Go.Lib.cut s.data.toList [47]).1 = some p) (h2 : readS (Go.Lib.cut s.data.toList [47]).2.1 = some q) (hb : fRightB p.sign (digs p.natAbs) q.sign (digs q.natAbs) = false) : Calls Tryz.prog 17 #[.string s] w (FZE 2 w) := by
  have HB := Lib.hid hb
  clear hb
  have HE := Lib.hid he
  have HS := Lib.hid hs
  obtain ⟨mx, hmx⟩ := he.len
  obtain ⟨x, hx⟩ : ∃ x, (Go.Lib.cut s.data.toList [47]).1 = x := ⟨_, rfl⟩
  obtain ⟨y, hy⟩ : ∃ y, (Go.Lib.cut s.data.toList [47]).2.1 = y := ⟨_, rfl⟩
  obtain ⟨z, hz⟩ : ∃ z, (Go.Lib.cut s.data.toList [47]).2.2 = z := ⟨_, rfl⟩
  have hl := cut_lens s.data.toList
  have hl0 : s.data.toList.length = s.size := Array.length_toList
  rw [hx, hy] at hl
  rw [hx] at h1
  rw [hy] at h2
  have H2 := Lib.hid h2
  have HLP : Hid ((digs p.natAbs).length ≤ 100000) := Nat.le_trans (digs_le (Sz.readL h1)) (by omega)
  have HLQ : Hid ((digs q.natAbs).length ≤ 100000) := Nat.le_trans (digs_le (Sz.readL h2)) (by omega)
  clear h2
  have HLX : Hid ((⟨x.toArray⟩ : ByteArray).size ≤ 100000) := Lib.hid (show x.toArray.size ≤ 100000 by rw [List.size_toArray]; omega)
  have HLY : Hid ((⟨y.toArray⟩ : ByteArray).size ≤ 100000) := Lib.hid (show y.toArray.size ≤ 100000 by rw [List.size_toArray]; omega)
  have HCUT : Hid (∀ W, EnvF W → Calls Tryz.prog 51 #[.string s, .string ⟨#[47]⟩] W fun e w' => e = .returned (.tuple #[.string ⟨x.toArray⟩, .string ⟨y.toArray⟩, .bool z]) ∧ ∃ n, w' = W.drewN n) := by
    intro W hW
    obtain ⟨m, hm⟩ := hW.len
    have := Tryz.strings_Cut s ⟨#[47]⟩ m W (by omega) hm
    rw [show (⟨#[47]⟩ : ByteArray).data.toList = [47] from rfl, hx, hy, hz] at this
    exact this
  have H1 := Lib.hid h1
  have S0 := Lib.hid ((Sf.start w).put [.int .i64 0, .slice none 0 0, .int .i64 0, .slice none 0 0] 26)
  clear he hs hx hy hz hl hl0 h1 hmx
  go_enter Tryz.func17, Tryz.ntmps17
  go_wp2_with fail
  refine (HCUT.out _ (S0.out.envF HE.out)).mono ?_
  rintro e w0 ⟨rfl, k, hw⟩
  have S1 := Lib.hid (S0.out.drewN k)
  rw [← hw] at S1
  clear hw S0
  go_wp2_with fail
  refine (read_is (s := ⟨x.toArray⟩) H1.out HLX.out _).mono ?_
  rintro e w1 ⟨s1, a1, n1, c1, rfl, hn, hb, hf⟩
  have S2 := Lib.hid ((S1.out.ret hb hn.2 hf).put [.int .i64 s1, .slice a1 n1 c1] 24)
  have E1 := Lib.hid hn.1
  have F1 := Lib.hid (hf.mono S1.out.below.size)
  clear hn hb hf S1
  go_wp2_with fail
  refine (read_is (s := ⟨y.toArray⟩) H2.out HLY.out _).mono ?_
  rintro e w2 ⟨s2, a2, n2, c2, rfl, hn, hb, hf⟩
  have S3 := Lib.hid ((S2.out.ret hb hn.2 hf).put [.int .i64 s2, .slice a2 n2 c2] 24)
  have E2 := Lib.hid hn.1
  have F2 := Lib.hid (hf.mono S2.out.below.size)
  clear hn hb hf S2
  have yp : Fb (w1.heap.size, 24, [.int .i64 s1, .slice a1 n1 c1]) _ := S3.out.box _ (List.mem_cons_of_mem _ List.mem_cons_self)
  obtain ⟨q0, q1⟩ := yp.cells2
  clear yp
  have S4 := Lib.hid (S3.out.put' (n := w2.heap.size + 1) (by simp) [.int .i64 s1, .slice a1 n1 c1, .int .i64 s2, .slice a2 n2 c2] 26)
  have yr : Fb (w.heap.size, 26, [.int .i64 0, .slice none 0 0, .int .i64 0, .slice none 0 0]) _ := S4.out.box _ (List.mem_cons_of_mem _ (List.mem_cons_of_mem _ (List.mem_cons_of_mem _ List.mem_cons_self)))
  obtain ⟨r0, r1, r2, r3⟩ := yr.cells4
  obtain ⟨f0, f1, f2, f3⟩ := yr.free4
  clear yr
  go_wp2_with fail
  clear r0 r1 r2 r3 f0 f1 f2 f3 q0 q1
  refine (fright_any s1 a1 n1 c1 (digs p.natAbs) s2 a2 n2 c2 (digs q.natAbs) _ (S4.out.ints (.slice a1 n1 c1, digs p.natAbs) (List.mem_cons_of_mem _ List.mem_cons_self)) (S4.out.ints (.slice a2 n2 c2, digs q.natAbs) List.mem_cons_self) HLP.out HLQ.out false (by rw [E1.out, E2.out]; exact HB.out)).mono ?_
  rintro e w3 ⟨rfl, hb⟩
  have S5 := Lib.hid (S4.out.later hb)
  clear hb S4 S3
  have yr : Fb (w.heap.size, 26, [.int .i64 0, .slice none 0 0, .int .i64 0, .slice none 0 0]) _ := S5.out.box _ (List.mem_cons_of_mem _ (List.mem_cons_of_mem _ (List.mem_cons_of_mem _ List.mem_cons_self)))
  obtain ⟨r0, r1, r2, r3⟩ := yr.cells4
  obtain ⟨f0, f1, f2, f3⟩ := yr.free4
  clear yr
  go_wp2_with fail
  have T9 := Lib.hid (S5.out.set4 (pre := [_, _, _]) (.int .i64 0) (.slice none 0 0) (.int .i64 0) (.slice none 0 0))
  exact bodyPost_ret (v := .tuple #[.agg #[.int .i64 0, .slice none 0 0, .int .i64 0, .slice none 0 0], .int .i64 2]) (by simp [results, Tryz.results17, go_sem, r0, r1, r2, r3]) rfl ⟨rfl, T9.out.below⟩

set_option maxHeartbeats 2000000 in
theorem fread_d (s : ByteArray) (hs : s.size ≤ 100000) (w : World) (he : EnvF w) (r : Rat) (h1 : readS (Go.Lib.cut s.data.toList [47]).1 = some r.num) (h2 : readS (Go.Lib.cut s.data.toList [47]).2.1 = some (r.den : Int)) : Calls Tryz.prog 17 #[.string s] w (FVE r 0 w) := by
  have hb := fright_is r
  rw [← den_sign r] at hb
  have HB := Lib.hid hb
  clear hb
  have HE := Lib.hid he
  have HS := Lib.hid hs
  obtain ⟨mx, hmx⟩ := he.len
  obtain ⟨x, hx⟩ : ∃ x, (Go.Lib.cut s.data.toList [47]).1 = x := ⟨_, rfl⟩
  obtain ⟨y, hy⟩ : ∃ y, (Go.Lib.cut s.data.toList [47]).2.1 = y := ⟨_, rfl⟩
  obtain ⟨z, hz⟩ : ∃ z, (Go.Lib.cut s.data.toList [47]).2.2 = z := ⟨_, rfl⟩
  have hl := cut_lens s.data.toList
  have hl0 : s.data.toList.length = s.size := Array.length_toList
  rw [hx, hy] at hl
  rw [hx] at h1
  rw [hy] at h2
  have H2 := Lib.hid h2
  have HLP : Hid ((digs r.num.natAbs).length ≤ 100000) := Nat.le_trans (digs_le (Sz.readL h1)) (by omega)
  have HLQ : Hid ((digs (r.den : Int).natAbs).length ≤ 100000) := Nat.le_trans (digs_le (Sz.readL h2)) (by omega)
  clear h2
  have HLX : Hid ((⟨x.toArray⟩ : ByteArray).size ≤ 100000) := Lib.hid (show x.toArray.size ≤ 100000 by rw [List.size_toArray]; omega)
  have HLY : Hid ((⟨y.toArray⟩ : ByteArray).size ≤ 100000) := Lib.hid (show y.toArray.size ≤ 100000 by rw [List.size_toArray]; omega)
  have HCUT : Hid (∀ W, EnvF W → Calls Tryz.prog 51 #[.string s, .string ⟨#[47]⟩] W fun e w' => e = .returned (.tuple #[.string ⟨x.toArray⟩, .string ⟨y.toArray⟩, .bool z]) ∧ ∃ n, w' = W.drewN n) := by
    intro W hW
    obtain ⟨m, hm⟩ := hW.len
    have := Tryz.strings_Cut s ⟨#[47]⟩ m W (by omega) hm
    rw [show (⟨#[47]⟩ : ByteArray).data.toList = [47] from rfl, hx, hy, hz] at this
    exact this
  have H1 := Lib.hid h1
  have S0 := Lib.hid ((Sf.start w).put [.int .i64 0, .slice none 0 0, .int .i64 0, .slice none 0 0] 26)
  clear he hs hx hy hz hl hl0 h1 hmx
  go_enter Tryz.func17, Tryz.ntmps17
  go_wp2_with fail
  refine (HCUT.out _ (S0.out.envF HE.out)).mono ?_
  rintro e w0 ⟨rfl, k, hw⟩
  have S1 := Lib.hid (S0.out.drewN k)
  rw [← hw] at S1
  clear hw S0
  go_wp2_with fail
  refine (read_is (s := ⟨x.toArray⟩) H1.out HLX.out _).mono ?_
  rintro e w1 ⟨s1, a1, n1, c1, rfl, hn, hb, hf⟩
  have S2 := Lib.hid ((S1.out.ret hb hn.2 hf).put [.int .i64 s1, .slice a1 n1 c1] 24)
  have E1 := Lib.hid hn.1
  have F1 := Lib.hid (hf.mono S1.out.below.size)
  clear hn hb hf S1
  go_wp2_with fail
  refine (read_is (s := ⟨y.toArray⟩) H2.out HLY.out _).mono ?_
  rintro e w2 ⟨s2, a2, n2, c2, rfl, hn, hb, hf⟩
  have S3 := Lib.hid ((S2.out.ret hb hn.2 hf).put [.int .i64 s2, .slice a2 n2 c2] 24)
  have E2 := Lib.hid hn.1
  have F2 := Lib.hid (hf.mono S2.out.below.size)
  clear hn hb hf S2
  have yp : Fb (w1.heap.size, 24, [.int .i64 s1, .slice a1 n1 c1]) _ := S3.out.box _ (List.mem_cons_of_mem _ List.mem_cons_self)
  obtain ⟨q0, q1⟩ := yp.cells2
  clear yp
  have S4 := Lib.hid (S3.out.put' (n := w2.heap.size + 1) (by simp) [.int .i64 s1, .slice a1 n1 c1, .int .i64 s2, .slice a2 n2 c2] 26)
  have yr : Fb (w.heap.size, 26, [.int .i64 0, .slice none 0 0, .int .i64 0, .slice none 0 0]) _ := S4.out.box _ (List.mem_cons_of_mem _ (List.mem_cons_of_mem _ (List.mem_cons_of_mem _ List.mem_cons_self)))
  obtain ⟨r0, r1, r2, r3⟩ := yr.cells4
  obtain ⟨f0, f1, f2, f3⟩ := yr.free4
  clear yr
  go_wp2_with fail
  clear r0 r1 r2 r3 f0 f1 f2 f3 q0 q1
  refine (fright_any s1 a1 n1 c1 (digs r.num.natAbs) s2 a2 n2 c2 (digs (r.den : Int).natAbs) _ (S4.out.ints (.slice a1 n1 c1, digs r.num.natAbs) (List.mem_cons_of_mem _ List.mem_cons_self)) (S4.out.ints (.slice a2 n2 c2, digs (r.den : Int).natAbs) List.mem_cons_self) HLP.out HLQ.out true (by rw [E1.out, E2.out]; exact HB.out)).mono ?_
  rintro e w3 ⟨rfl, hb⟩
  have S5 := Lib.hid (S4.out.later hb)
  clear hb S4 S3
  have yf : Fb (w2.heap.size + 1, 26, [.int .i64 s1, .slice a1 n1 c1, .int .i64 s2, .slice a2 n2 c2]) _ := S5.out.box _ List.mem_cons_self
  obtain ⟨q0, q1, q2, q3⟩ := yf.cells4
  have yr : Fb (w.heap.size, 26, [.int .i64 0, .slice none 0 0, .int .i64 0, .slice none 0 0]) _ := S5.out.box _ (List.mem_cons_of_mem _ (List.mem_cons_of_mem _ (List.mem_cons_of_mem _ List.mem_cons_self)))
  obtain ⟨r0, r1, r2, r3⟩ := yr.cells4
  obtain ⟨f0, f1, f2, f3⟩ := yr.free4
  clear yr yf
  go_wp2_with fail
  obtain rfl : s2 = 1 := E2.out.trans (den_sign _)
  have T9 := Lib.hid (S5.out.set4 (pre := [_, _, _]) (.int .i64 s1) (.slice a1 n1 c1) (.int .i64 1) (.slice a2 n2 c2))
  exact bodyPost_ret (v := .tuple #[.agg #[.int .i64 s1, .slice a1 n1 c1, .int .i64 1, .slice a2 n2 c2], .int .i64 0]) (by simp [results, Tryz.results17, go_sem, r0, r1, r2, r3]) rfl
    ⟨_, _, _, _, _, _, _, rfl, ⟨T9.out.num (v := .slice a1 n1 c1) (z := r.num) (List.mem_cons_of_mem _ List.mem_cons_self) E1.out, T9.out.num (v := .slice a2 n2 c2) (z := (r.den : Int)) List.mem_cons_self (den_sign _).symm⟩, T9.out.below, F1.out, F2.out⟩

theorem fread_yes (s : ByteArray) (hs : s.size ≤ 100000) (w : World) (he : EnvF w) (r : Rat) (h : s.data.toList = fTextL r) : Calls Tryz.prog 17 #[.string s] w (FVE r 0 w) :=
  fread_d s hs w he r (by rw [h, cut_text]; show readS (Go.Lib.itoa r.num) = _; exact read_itoa _) (by rw [h, cut_text]; show readS (Go.Lib.itoa (r.den : Int)) = _; exact read_itoa _)
theorem fread_no (s : ByteArray) (hs : s.size ≤ 100000) (w : World) (he : EnvF w) (h : ∀ r, s.data.toList ≠ fTextL r) : Calls Tryz.prog 17 #[.string s] w (FZE 2 w) := by
  rcases h1 : readS (Go.Lib.cut s.data.toList [47]).1 with _ | p
  · exact fread_a s hs w he h1
  · rcases h2 : readS (Go.Lib.cut s.data.toList [47]).2.1 with _ | q
    · exact fread_b s hs w he h1 h2
    · cases hb : fRightB p.sign (digs p.natAbs) q.sign (digs q.natAbs)
      · exact fread_c s hs w he h1 h2 hb
      · exfalso
        unfold fRightB at hb
        simp only [Bool.and_eq_true, decide_eq_true_eq] at hb
        obtain ⟨h0, _, h3⟩ := hb
        rw [digs_val, digs_val, Int.toNat_natCast, Int.toNat_natCast] at h3
        obtain ⟨r, e1, e2⟩ := rat_of (Int.sign_pos_iff.1 h0) h3
        exact h r (by rw [cut_back h1 h2, e1, e2]; rfl)
end Go.Proofs.YtnddickcnfodfaaGreatDoor.Bi

namespace Go.Proofs.YtnddickcnfodfaaGreatDoor.Bi
open Go.RowKit

theorem Sf.fr {w W : World} {L : List FBox} {F : List (Value × List Int)} (h : Sf w L F W) {v u : Value} {r : Rat} {s : Int} (h1 : (v, digs r.num.natAbs) ∈ F) (h2 : (u, digs (r.den : Int).natAbs) ∈ F) (e : s = r.num.sign) : Fr W s v u r := ⟨h.num h1 e, h.num h2 (den_sign r).symm⟩
theorem lof_r {p q : Int} {r : Rat} (h : Rat.divInt p q = r) (hp : -9223372036854775808 ≤ p ∧ p ≤ 9223372036854775807) (hq : -9223372036854775808 ≤ q ∧ q ≤ 9223372036854775807) (h0 : q ≠ 0) (w : World) : Calls Tryz.prog 41 #[.int .i64 p, .int .i64 q] w (FV r w) := by
  subst h; exact lof_k p q hp hq h0 w
theorem ftext_l {w : World} {sa : Int} {aa ba : Option Addr} {na ca ma da : Nat} {a : Rat} (ha : Fr w sa (.slice aa na ca) (.slice ba ma da) a) (La : FSz 1000 a) (he : Env w) (l : List UInt8) (h : fTextL a = l) :
    Calls Tryz.prog 36 #[.agg #[.int .i64 sa, .slice aa na ca, .int .i64 1, .slice ba ma da]] w fun e w' => e = .returned (.string ⟨l.toArray⟩) ∧ RowKit.Below w.heap.size w w' := by
  subst h; exact ftext_k ha La he
section
variable {w : World} {sa sb : Int} {aa ba ab bb : Option Addr} {na ca ma da nb cb mb db : Nat} {a b r : Rat}
theorem fadd_r (ha : Fr w sa (.slice aa na ca) (.slice ba ma da) a) (hb : Fr w sb (.slice ab nb cb) (.slice bb mb db) b) (La : FSz 1000 a) (Lb : FSz 1000 b) (h : a + b = r) : Calls Tryz.prog 6 #[.agg #[.int .i64 sa, .slice aa na ca, .int .i64 1, .slice ba ma da], .agg #[.int .i64 sb, .slice ab nb cb, .int .i64 1, .slice bb mb db]] w (FVE r 0 w) := by subst h; exact fadd_k ha hb La Lb
theorem fsub_r (ha : Fr w sa (.slice aa na ca) (.slice ba ma da) a) (hb : Fr w sb (.slice ab nb cb) (.slice bb mb db) b) (La : FSz 1000 a) (Lb : FSz 1000 b) (h : a - b = r) : Calls Tryz.prog 8 #[.agg #[.int .i64 sa, .slice aa na ca, .int .i64 1, .slice ba ma da], .agg #[.int .i64 sb, .slice ab nb cb, .int .i64 1, .slice bb mb db]] w (FVE r 0 w) := by subst h; exact fsub_k ha hb La Lb
theorem fmul_r (ha : Fr w sa (.slice aa na ca) (.slice ba ma da) a) (hb : Fr w sb (.slice ab nb cb) (.slice bb mb db) b) (La : FSz 1000 a) (Lb : FSz 1000 b) (h : a * b = r) : Calls Tryz.prog 11 #[.agg #[.int .i64 sa, .slice aa na ca, .int .i64 1, .slice ba ma da], .agg #[.int .i64 sb, .slice ab nb cb, .int .i64 1, .slice bb mb db]] w (FVE r 0 w) := by subst h; exact fmul_k ha hb La Lb
theorem fdiv_r (ha : Fr w sa (.slice aa na ca) (.slice ba ma da) a) (hb : Fr w sb (.slice ab nb cb) (.slice bb mb db) b) (La : FSz 1000 a) (Lb : FSz 1000 b) (h0 : b ≠ 0) (h : a / b = r) : Calls Tryz.prog 13 #[.agg #[.int .i64 sa, .slice aa na ca, .int .i64 1, .slice ba ma da], .agg #[.int .i64 sb, .slice ab nb cb, .int .i64 1, .slice bb mb db]] w (FVE r 0 w) := by subst h; exact fdiv_k ha hb La Lb h0
theorem fmin_r (ha : Fr w sa (.slice aa na ca) (.slice ba ma da) a) (hb : Fr w sb (.slice ab nb cb) (.slice bb mb db) b) (La : FSz 1000 a) (Lb : FSz 1000 b) (h : rmin a b = r) : Calls Tryz.prog 26 #[.agg #[.int .i64 sa, .slice aa na ca, .int .i64 1, .slice ba ma da], .agg #[.int .i64 sb, .slice ab nb cb, .int .i64 1, .slice bb mb db]] w (FVE r 0 w) := by subst h; exact fmin_k ha hb La Lb
theorem fmax_r (ha : Fr w sa (.slice aa na ca) (.slice ba ma da) a) (hb : Fr w sb (.slice ab nb cb) (.slice bb mb db) b) (La : FSz 1000 a) (Lb : FSz 1000 b) (h : rmax a b = r) : Calls Tryz.prog 28 #[.agg #[.int .i64 sa, .slice aa na ca, .int .i64 1, .slice ba ma da], .agg #[.int .i64 sb, .slice ab nb cb, .int .i64 1, .slice bb mb db]] w (FVE r 0 w) := by subst h; exact fmax_k ha hb La Lb
theorem fneg_r (ha : Fr w sa (.slice aa na ca) (.slice ba ma da) a) (La : FSz 1000 a) (h : -a = r) : Calls Tryz.prog 30 #[.agg #[.int .i64 sa, .slice aa na ca, .int .i64 1, .slice ba ma da]] w (FV r w) := by subst h; exact fneg_k ha La
theorem fint_r {z : Int} (hz : -9223372036854775808 ≤ z ∧ z ≤ 9223372036854775807) (h : (z : Rat) = r) (w : World) : Calls Tryz.prog 34 #[.int .i64 z] w (FV r w) := by subst h; exact fint_k z hz w
theorem fsign_r (ha : Fr w sa (.slice aa na ca) (.slice ba ma da) a) (La : FSz 1000 a) {k : Int} (h : a.num.sign = k) : Calls Tryz.prog 32 #[.agg #[.int .i64 sa, .slice aa na ca, .int .i64 1, .slice ba ma da]] w fun e w' => e = .returned (.int .i64 k) ∧ RowKit.Below w.heap.size w w' := by subst h; exact fsign_k ha La
theorem fcmp_r (ha : Fr w sa (.slice aa na ca) (.slice ba ma da) a) (hb : Fr w sb (.slice ab nb cb) (.slice bb mb db) b) (La : FSz 1000 a) (Lb : FSz 1000 b) {k : Int} (h : cmpR a b = k) : Calls Tryz.prog 23 #[.agg #[.int .i64 sa, .slice aa na ca, .int .i64 1, .slice ba ma da], .agg #[.int .i64 sb, .slice ab nb cb, .int .i64 1, .slice bb mb db]] w fun e w' => e = .returned (.int .i64 k) ∧ RowKit.Below w.heap.size w w' := by subst h; exact fCompare_k ha hb La Lb
theorem ffloor_r (ha : Fr w sa (.slice aa na ca) (.slice ba ma da) a) (La : FSz 1000 a) {z : Int} (h : a.floor = z) : Calls Tryz.prog 39 #[.agg #[.int .i64 sa, .slice aa na ca, .int .i64 1, .slice ba ma da]] w (BV z w) := by subst h; exact ffloor_k ha La
end
theorem fright_z (w : World) : Calls Tryz.prog 21 #[.agg #[.int .i64 0, .slice none 0 0, .int .i64 0, .slice none 0 0]] w fun e w' => e = .returned (.bool false) ∧ RowKit.Below w.heap.size w w' :=
  fright_any 0 none 0 0 [] 0 none 0 0 [] w (Ints.nil _) (Ints.nil _) (by simp) (by simp) false (by decide)
theorem FSz.one {r : Rat} (h1 : r.num.natAbs < 1048576) (h2 : r.den < 1048576) : FSz 1 r := ⟨by unfold Sz; simp [P]; omega, by unfold Sz; simp [P]; omega⟩

set_option maxHeartbeats 4000000 in
theorem least_k {w : World} {sa sb : Int} {aa ba ab bb : Option Addr} {na ca ma da nb cb mb db : Nat} {a b : Rat} (ha : Fr w sa (.slice aa na ca) (.slice ba ma da) a) (hb : Fr w sb (.slice ab nb cb) (.slice bb mb db) b) (va : a = Rat.divInt (-1) 2) (vb : b = Rat.divInt 1 3) :
    Calls Tryz.prog 43 #[.agg #[.int .i64 sa, .slice aa na ca, .int .i64 1, .slice ba ma da], .agg #[.int .i64 sb, .slice ab nb cb, .int .i64 1, .slice bb mb db]] w fun e w' => e = .returned (.bool true) ∧ RowKit.Below w.heap.size w w' := by
  have Za : Hid (FSz 1 a) := by subst va; exact FSz.one (by decide +kernel) (by decide +kernel)
  have Zb : Hid (FSz 1 b) := by subst vb; exact FSz.one (by decide +kernel) (by decide +kernel)
  have R1 : Hid (rmin a b = a) := by subst va vb; exact (by decide +kernel : rmin (Rat.divInt (-1) 2) (Rat.divInt 1 3) = Rat.divInt (-1) 2)
  have R2 : Hid (rmax a b = b) := by subst va vb; exact (by decide +kernel : rmax (Rat.divInt (-1) 2) (Rat.divInt 1 3) = Rat.divInt 1 3)
  have R3 : Hid (a.num.sign = -1) := by subst va; exact (by decide +kernel : (Rat.divInt (-1) 2).num.sign = -1)
  obtain ⟨c, hc⟩ : ∃ c, Rat.divInt 1 2 = c := ⟨_, rfl⟩
  have Vc := Lib.hid hc
  have R4 : Hid (-a = c) := by subst va hc; exact (by decide +kernel : -(Rat.divInt (-1) 2) = Rat.divInt 1 2)
  have Zc : Hid (FSz 1 c) := by subst hc; exact FSz.one (by decide +kernel) (by decide +kernel)
  have R5 : Hid (c.num.sign = 1) := by subst hc; exact (by decide +kernel : (Rat.divInt 1 2).num.sign = 1)
  obtain ⟨d, hd⟩ : ∃ d, Rat.divInt 4 (-2) = d := ⟨_, rfl⟩
  have Vd := Lib.hid hd
  have R6 : Hid (((-2 : Int) : Rat) = d) := by subst hd; exact (by decide +kernel : ((-2 : Int) : Rat) = Rat.divInt 4 (-2))
  have Ea := Lib.hid ha.1.1
  have Eb := Lib.hid hb.1.1
  have S0 := Lib.hid ((((((Sf.start w).arg ha.2.2).arg ha.1.2).arg hb.2.2).arg hb.1.2).put [.int .i64 sa, .slice aa na ca, .int .i64 1, .slice ba ma da] 26 |>.put' (n := w.heap.size + 1) (by simp) [.int .i64 sb, .slice ab nb cb, .int .i64 1, .slice bb mb db] 26)
  clear ha hb va vb hc hd
  go_enter Tryz.func43, Tryz.ntmps43
  go_wp2_with fail
  refine (fmin_r (S0.out.fr (v := .slice aa na ca) (u := .slice ba ma da) (r := a) (List.mem_cons_of_mem _ (List.mem_cons_of_mem _ List.mem_cons_self)) (List.mem_cons_of_mem _ (List.mem_cons_of_mem _ (List.mem_cons_of_mem _ List.mem_cons_self))) Ea.out) (S0.out.fr (v := .slice ab nb cb) (u := .slice bb mb db) (r := b) List.mem_cons_self (List.mem_cons_of_mem _ List.mem_cons_self) Eb.out) (FSz.mono Za.out) (FSz.mono Zb.out) R1.out).mono ?_
  rintro e w1 ⟨s1, a1, n1, c1, b1, m1, d1, rfl, hr, hb, hf, hg⟩
  have E1 := Lib.hid hr.1.1
  have S2 := Lib.hid ((S0.out.ret2 hb hr.1.2 hf hr.2.2 hg).put [.int .i64 s1, .slice a1 n1 c1, .int .i64 1, .slice b1 m1 d1] 26)
  clear hr hb hf hg S0
  obtain ⟨t1_0, t1_1, t1_2, t1_3⟩ := (S2.out.box _ (List.mem_cons_of_mem _ (List.mem_cons_of_mem _ List.mem_cons_self)) : Fb (w.heap.size, 26, [.int .i64 sa, .slice aa na ca, .int .i64 1, .slice ba ma da]) _).cells4
  obtain ⟨t2_0, t2_1, t2_2, t2_3⟩ := (S2.out.box _ (List.mem_cons_of_mem _ List.mem_cons_self) : Fb (w.heap.size + 1, 26, [.int .i64 sb, .slice ab nb cb, .int .i64 1, .slice bb mb db]) _).cells4
  go_wp2_with fail
  clear t1_0 t1_1 t1_2 t1_3 t2_0 t2_1 t2_2 t2_3
  refine (fmax_r (S2.out.fr (v := .slice aa na ca) (u := .slice ba ma da) (r := a) (List.mem_cons_of_mem _ (List.mem_cons_of_mem _ (List.mem_cons_of_mem _ (List.mem_cons_of_mem _ List.mem_cons_self)))) (List.mem_cons_of_mem _ (List.mem_cons_of_mem _ (List.mem_cons_of_mem _ (List.mem_cons_of_mem _ (List.mem_cons_of_mem _ List.mem_cons_self))))) Ea.out) (S2.out.fr (v := .slice ab nb cb) (u := .slice bb mb db) (r := b) (List.mem_cons_of_mem _ (List.mem_cons_of_mem _ List.mem_cons_self)) (List.mem_cons_of_mem _ (List.mem_cons_of_mem _ (List.mem_cons_of_mem _ List.mem_cons_self))) Eb.out) (FSz.mono Za.out) (FSz.mono Zb.out) R2.out).mono ?_
  rintro e w3 ⟨s3, a3, n3, c3, b3, m3, d3, rfl, hr, hb, hf, hg⟩
  have E3 := Lib.hid hr.1.1
  have S4 := Lib.hid ((S2.out.ret2 hb hr.1.2 hf hr.2.2 hg).put [.int .i64 s3, .slice a3 n3 c3, .int .i64 1, .slice b3 m3 d3] 26)
  clear hr hb hf hg S2
  obtain ⟨t3_0, t3_1, t3_2, t3_3⟩ := (S4.out.box _ (List.mem_cons_of_mem _ List.mem_cons_self) : Fb (w1.heap.size, 26, [.int .i64 s1, .slice a1 n1 c1, .int .i64 1, .slice b1 m1 d1]) _).cells4
  obtain ⟨t4_0, t4_1, t4_2, t4_3⟩ := (S4.out.box _ (List.mem_cons_of_mem _ (List.mem_cons_of_mem _ (List.mem_cons_of_mem _ List.mem_cons_self))) : Fb (w.heap.size, 26, [.int .i64 sa, .slice aa na ca, .int .i64 1, .slice ba ma da]) _).cells4
  go_wp2_with fail
  clear t3_0 t3_1 t3_2 t3_3 t4_0 t4_1 t4_2 t4_3
  refine (fsame_k (S4.out.fr (v := .slice a1 n1 c1) (u := .slice b1 m1 d1) (r := a) (List.mem_cons_of_mem _ (List.mem_cons_of_mem _ List.mem_cons_self)) (List.mem_cons_of_mem _ (List.mem_cons_of_mem _ (List.mem_cons_of_mem _ List.mem_cons_self))) E1.out) (S4.out.fr (v := .slice aa na ca) (u := .slice ba ma da) (r := a) (List.mem_cons_of_mem _ (List.mem_cons_of_mem _ (List.mem_cons_of_mem _ (List.mem_cons_of_mem _ (List.mem_cons_of_mem _ (List.mem_cons_of_mem _ List.mem_cons_self)))))) (List.mem_cons_of_mem _ (List.mem_cons_of_mem _ (List.mem_cons_of_mem _ (List.mem_cons_of_mem _ (List.mem_cons_of_mem _ (List.mem_cons_of_mem _ (List.mem_cons_of_mem _ List.mem_cons_self))))))) Ea.out) (decide_eq_true rfl)).mono ?_
  rintro e w5 ⟨rfl, hb⟩
  have S6 := Lib.hid (S4.out.later hb)
  clear hb S4
  obtain ⟨t5_0, t5_1, t5_2, t5_3⟩ := (S6.out.box _ List.mem_cons_self : Fb (w3.heap.size, 26, [.int .i64 s3, .slice a3 n3 c3, .int .i64 1, .slice b3 m3 d3]) _).cells4
  obtain ⟨t6_0, t6_1, t6_2, t6_3⟩ := (S6.out.box _ (List.mem_cons_of_mem _ (List.mem_cons_of_mem _ List.mem_cons_self)) : Fb (w.heap.size + 1, 26, [.int .i64 sb, .slice ab nb cb, .int .i64 1, .slice bb mb db]) _).cells4
  go_wp2_with fail
  clear t5_0 t5_1 t5_2 t5_3 t6_0 t6_1 t6_2 t6_3
  refine (fsame_k (S6.out.fr (v := .slice a3 n3 c3) (u := .slice b3 m3 d3) (r := b) List.mem_cons_self (List.mem_cons_of_mem _ List.mem_cons_self) E3.out) (S6.out.fr (v := .slice ab nb cb) (u := .slice bb mb db) (r := b) (List.mem_cons_of_mem _ (List.mem_cons_of_mem _ (List.mem_cons_of_mem _ (List.mem_cons_of_mem _ List.mem_cons_self)))) (List.mem_cons_of_mem _ (List.mem_cons_of_mem _ (List.mem_cons_of_mem _ (List.mem_cons_of_mem _ (List.mem_cons_of_mem _ List.mem_cons_self))))) Eb.out) (decide_eq_true rfl)).mono ?_
  rintro e w7 ⟨rfl, hb⟩
  have S8 := Lib.hid (S6.out.later hb)
  clear hb S6
  obtain ⟨t7_0, t7_1, t7_2, t7_3⟩ := (S8.out.box _ (List.mem_cons_of_mem _ (List.mem_cons_of_mem _ (List.mem_cons_of_mem _ List.mem_cons_self))) : Fb (w.heap.size, 26, [.int .i64 sa, .slice aa na ca, .int .i64 1, .slice ba ma da]) _).cells4
  go_wp2_with fail
  clear t7_0 t7_1 t7_2 t7_3
  refine (fsign_r (S8.out.fr (v := .slice aa na ca) (u := .slice ba ma da) (r := a) (List.mem_cons_of_mem _ (List.mem_cons_of_mem _ (List.mem_cons_of_mem _ (List.mem_cons_of_mem _ (List.mem_cons_of_mem _ (List.mem_cons_of_mem _ List.mem_cons_self)))))) (List.mem_cons_of_mem _ (List.mem_cons_of_mem _ (List.mem_cons_of_mem _ (List.mem_cons_of_mem _ (List.mem_cons_of_mem _ (List.mem_cons_of_mem _ (List.mem_cons_of_mem _ List.mem_cons_self))))))) Ea.out) (FSz.mono Za.out) R3.out).mono ?_
  rintro e w9 ⟨rfl, hb⟩
  have S10 := Lib.hid (S8.out.later hb)
  clear hb S8
  obtain ⟨t8_0, t8_1, t8_2, t8_3⟩ := (S10.out.box _ (List.mem_cons_of_mem _ (List.mem_cons_of_mem _ (List.mem_cons_of_mem _ List.mem_cons_self))) : Fb (w.heap.size, 26, [.int .i64 sa, .slice aa na ca, .int .i64 1, .slice ba ma da]) _).cells4
  go_wp2_with fail
  clear t8_0 t8_1 t8_2 t8_3
  refine (fneg_r (S10.out.fr (v := .slice aa na ca) (u := .slice ba ma da) (r := a) (List.mem_cons_of_mem _ (List.mem_cons_of_mem _ (List.mem_cons_of_mem _ (List.mem_cons_of_mem _ (List.mem_cons_of_mem _ (List.mem_cons_of_mem _ List.mem_cons_self)))))) (List.mem_cons_of_mem _ (List.mem_cons_of_mem _ (List.mem_cons_of_mem _ (List.mem_cons_of_mem _ (List.mem_cons_of_mem _ (List.mem_cons_of_mem _ (List.mem_cons_of_mem _ List.mem_cons_self))))))) Ea.out) (FSz.mono Za.out) R4.out).mono ?_
  rintro e w11 ⟨s11, a11, n11, c11, b11, m11, d11, rfl, hr, hb, hf, hg⟩
  have E11 := Lib.hid hr.1.1
  have S12 := Lib.hid (S10.out.ret2 hb hr.1.2 hf hr.2.2 hg)
  clear hr hb hf hg S10
  go_wp2_with fail
  refine (fsign_r (S12.out.fr (v := .slice a11 n11 c11) (u := .slice b11 m11 d11) (r := c) List.mem_cons_self (List.mem_cons_of_mem _ List.mem_cons_self) E11.out) (FSz.mono Zc.out) R5.out).mono ?_
  rintro e w13 ⟨rfl, hb⟩
  have S14 := Lib.hid (S12.out.later hb)
  clear hb S12
  obtain ⟨t9_0, t9_1, t9_2, t9_3⟩ := (S14.out.box _ (List.mem_cons_of_mem _ (List.mem_cons_of_mem _ (List.mem_cons_of_mem _ List.mem_cons_self))) : Fb (w.heap.size, 26, [.int .i64 sa, .slice aa na ca, .int .i64 1, .slice ba ma da]) _).cells4
  go_wp2_with fail
  clear t9_0 t9_1 t9_2 t9_3
  refine (fneg_r (S14.out.fr (v := .slice aa na ca) (u := .slice ba ma da) (r := a) (List.mem_cons_of_mem _ (List.mem_cons_of_mem _ (List.mem_cons_of_mem _ (List.mem_cons_of_mem _ (List.mem_cons_of_mem _ (List.mem_cons_of_mem _ (List.mem_cons_of_mem _ (List.mem_cons_of_mem _ List.mem_cons_self)))))))) (List.mem_cons_of_mem _ (List.mem_cons_of_mem _ (List.mem_cons_of_mem _ (List.mem_cons_of_mem _ (List.mem_cons_of_mem _ (List.mem_cons_of_mem _ (List.mem_cons_of_mem _ (List.mem_cons_of_mem _ (List.mem_cons_of_mem _ List.mem_cons_self))))))))) Ea.out) (FSz.mono Za.out) R4.out).mono ?_
  rintro e w15 ⟨s15, a15, n15, c15, b15, m15, d15, rfl, hr, hb, hf, hg⟩
  have E15 := Lib.hid hr.1.1
  have S16 := Lib.hid (S14.out.ret2 hb hr.1.2 hf hr.2.2 hg)
  clear hr hb hf hg S14
  go_wp2_with fail
  refine (lof_r (r := c) Vc.out (by omega) (by omega) (by omega) _).mono ?_
  rintro e w17 ⟨s17, a17, n17, c17, b17, m17, d17, rfl, hr, hb, hf, hg⟩
  have E17 := Lib.hid hr.1.1
  have S18 := Lib.hid (S16.out.ret2 hb hr.1.2 hf hr.2.2 hg)
  clear hr hb hf hg S16
  go_wp2_with fail
  refine (fsame_k (S18.out.fr (v := .slice a15 n15 c15) (u := .slice b15 m15 d15) (r := c) (List.mem_cons_of_mem _ (List.mem_cons_of_mem _ List.mem_cons_self)) (List.mem_cons_of_mem _ (List.mem_cons_of_mem _ (List.mem_cons_of_mem _ List.mem_cons_self))) E15.out) (S18.out.fr (v := .slice a17 n17 c17) (u := .slice b17 m17 d17) (r := c) List.mem_cons_self (List.mem_cons_of_mem _ List.mem_cons_self) E17.out) (decide_eq_true rfl)).mono ?_
  rintro e w19 ⟨rfl, hb⟩
  have S20 := Lib.hid (S18.out.later hb)
  clear hb S18
  go_wp2_with fail
  refine (fint_r (by omega) R6.out _).mono ?_
  rintro e w21 ⟨s21, a21, n21, c21, b21, m21, d21, rfl, hr, hb, hf, hg⟩
  have E21 := Lib.hid hr.1.1
  have S22 := Lib.hid (S20.out.ret2 hb hr.1.2 hf hr.2.2 hg)
  clear hr hb hf hg S20
  go_wp2_with fail
  refine (lof_r (r := d) Vd.out (by omega) (by omega) (by omega) _).mono ?_
  rintro e w23 ⟨s23, a23, n23, c23, b23, m23, d23, rfl, hr, hb, hf, hg⟩
  have E23 := Lib.hid hr.1.1
  have S24 := Lib.hid (S22.out.ret2 hb hr.1.2 hf hr.2.2 hg)
  clear hr hb hf hg S22
  go_wp2_with fail
  refine (fsame_k (S24.out.fr (v := .slice a21 n21 c21) (u := .slice b21 m21 d21) (r := d) (List.mem_cons_of_mem _ (List.mem_cons_of_mem _ List.mem_cons_self)) (List.mem_cons_of_mem _ (List.mem_cons_of_mem _ (List.mem_cons_of_mem _ List.mem_cons_self))) E21.out) (S24.out.fr (v := .slice a23 n23 c23) (u := .slice b23 m23 d23) (r := d) List.mem_cons_self (List.mem_cons_of_mem _ List.mem_cons_self) E23.out) (decide_eq_true rfl)).mono ?_
  rintro e w25 ⟨rfl, hb⟩
  have S26 := Lib.hid (S24.out.later hb)
  clear hb S24
  go_wp2_with fail
  go_ret
  exact ⟨rfl, S26.out.below⟩

theorem text_of {r : Rat} {p q : Int} {l : List UInt8} (hp : r.num = p) (hq : (r.den : Int) = q) (h : Go.Lib.itoa p ++ 47 :: Go.Lib.itoa q = l) : fTextL r = l := by unfold fTextL; rw [hp, hq, h]

theorem text_by {r : Rat} {p q : Int} {x y : List UInt8} (hp : r.num = p) (hq : (r.den : Int) = q) (hx : readS x = some p) (hy : readS y = some q) : fTextL r = x ++ 47 :: y := by unfold fTextL; rw [hp, hq, itoa_read hx, itoa_read hy]

theorem no24 : ∀ r : Rat, (⟨#[50, 47, 52]⟩ : ByteArray).data.toList ≠ fTextL r := by
  intro r h
  have h1 := cut_text r
  rw [← h] at h1
  have h2 : Go.Lib.cut ((⟨#[50, 47, 52]⟩ : ByteArray).data.toList) [47] = ([50], [52], true) := by decide +kernel
  rw [h2] at h1
  simp only [Prod.mk.injEq] at h1
  have e1 := read_itoa r.num
  have e2 := read_itoa (r.den : Int)
  rw [← h1.1] at e1
  rw [← h1.2.1] at e2
  rw [show readS [50] = some 2 by decide +kernel] at e1
  rw [show readS [52] = some 4 by decide +kernel] at e2
  have g1 := Option.some.inj e1
  have g2 := Option.some.inj e2
  have := r.reduced
  rw [← g1] at this
  have hd : r.den = 4 := by omega
  rw [hd] at this
  exact absurd this (by decide)

set_option maxHeartbeats 8000000 in
theorem lsmall_k (w : World) (he : EnvF w) : Calls Tryz.prog 4 #[] w fun e w' => e = .returned (.bool true) ∧ RowKit.Below w.heap.size w w' := by
  have HE := Lib.hid he
  have HN := Lib.hid he.env
  have S0 := Lib.hid (Sf.start w)
  clear he
  obtain ⟨qa, hqa⟩ : ∃ r : Rat, Rat.divInt 1 2 = r := ⟨_, rfl⟩
  have Vqa := Lib.hid hqa
  have Zqa : Hid (FSz 1 qa) := by subst hqa; exact FSz.one (by decide +kernel) (by decide +kernel)
  clear hqa
  obtain ⟨qb, hqb⟩ : ∃ r : Rat, Rat.divInt 1 3 = r := ⟨_, rfl⟩
  have Vqb := Lib.hid hqb
  have Zqb : Hid (FSz 1 qb) := by subst hqb; exact FSz.one (by decide +kernel) (by decide +kernel)
  clear hqb
  obtain ⟨qc, hqc⟩ : ∃ r : Rat, Rat.divInt 5 6 = r := ⟨_, rfl⟩
  have Vqc := Lib.hid hqc
  have Zqc : Hid (FSz 1 qc) := by subst hqc; exact FSz.one (by decide +kernel) (by decide +kernel)
  clear hqc
  obtain ⟨qd, hqd⟩ : ∃ r : Rat, Rat.divInt 1 6 = r := ⟨_, rfl⟩
  have Vqd := Lib.hid hqd
  have Zqd : Hid (FSz 1 qd) := by subst hqd; exact FSz.one (by decide +kernel) (by decide +kernel)
  clear hqd
  obtain ⟨qi, hqi⟩ : ∃ r : Rat, Rat.divInt 3 2 = r := ⟨_, rfl⟩
  have Vqi := Lib.hid hqi
  have Zqi : Hid (FSz 1 qi) := by subst hqi; exact FSz.one (by decide +kernel) (by decide +kernel)
  clear hqi
  obtain ⟨qm, hqm⟩ : ∃ r : Rat, Rat.divInt (-3) 2 = r := ⟨_, rfl⟩
  have Vqm := Lib.hid hqm
  have Zqm : Hid (FSz 1 qm) := by subst hqm; exact FSz.one (by decide +kernel) (by decide +kernel)
  clear hqm
  obtain ⟨qz, hqz⟩ : ∃ r : Rat, Rat.divInt 0 7 = r := ⟨_, rfl⟩
  have Vqz := Lib.hid hqz
  have Zqz : Hid (FSz 1 qz) := by subst hqz; exact FSz.one (by decide +kernel) (by decide +kernel)
  clear hqz
  obtain ⟨ra, hra⟩ : ∃ r : Rat, Rat.divInt (-1) 2 = r := ⟨_, rfl⟩
  have Vra := Lib.hid hra
  have Zra : Hid (FSz 1 ra) := by subst hra; exact FSz.one (by decide +kernel) (by decide +kernel)
  clear hra
  obtain ⟨rb, hrb⟩ : ∃ r : Rat, Rat.divInt (-1) 3 = r := ⟨_, rfl⟩
  have Vrb := Lib.hid hrb
  have Zrb : Hid (FSz 1 rb) := by subst hrb; exact FSz.one (by decide +kernel) (by decide +kernel)
  clear hrb
  have A1 : Hid (qa + qb = qc) := Lib.hid (show qa + qb = qc by rw [← Vqa.out]; rw [← Vqb.out]; rw [← Vqc.out]; decide +kernel)
  have A2 : Hid (qa - qb = qd) := Lib.hid (show qa - qb = qd by rw [← Vqa.out]; rw [← Vqb.out]; rw [← Vqd.out]; decide +kernel)
  have A3 : Hid (qa * qb = qd) := Lib.hid (show qa * qb = qd by rw [← Vqa.out]; rw [← Vqb.out]; rw [← Vqd.out]; decide +kernel)
  have A4 : Hid (qa / qb = qi) := Lib.hid (show qa / qb = qi by rw [← Vqa.out]; rw [← Vqb.out]; rw [← Vqi.out]; decide +kernel)
  have A5 : Hid (qb ≠ 0) := Lib.hid (show qb ≠ 0 by rw [← Vqb.out]; decide +kernel)
  have X6 : Hid (Rat.divInt 6 (-4) = qm) := Lib.hid (show Rat.divInt 6 (-4) = qm by rw [← Vqm.out]; decide +kernel)
  have T1 : Hid (fTextL qm = [45, 51, 47, 50]) := Lib.hid (show fTextL qm = [45, 51, 47, 50] by rw [← Vqm.out]; exact text_by (p := (-3)) (q := 2) (x := [45, 51]) (y := [50]) (by decide +kernel) (by decide +kernel) (by decide +kernel) (by decide +kernel))
  have T2 : Hid (fTextL qz = [48, 47, 49]) := Lib.hid (show fTextL qz = [48, 47, 49] by rw [← Vqz.out]; exact text_by (p := 0) (q := 1) (x := [48]) (y := [49]) (by decide +kernel) (by decide +kernel) (by decide +kernel) (by decide +kernel))
  have T3 : Hid (fTextL qc = [53, 47, 54]) := Lib.hid (show fTextL qc = [53, 47, 54] by rw [← Vqc.out]; exact text_by (p := 5) (q := 6) (x := [53]) (y := [54]) (by decide +kernel) (by decide +kernel) (by decide +kernel) (by decide +kernel))
  have T4 : Hid (fTextL qd = [49, 47, 54]) := Lib.hid (show fTextL qd = [49, 47, 54] by rw [← Vqd.out]; exact text_by (p := 1) (q := 6) (x := [49]) (y := [54]) (by decide +kernel) (by decide +kernel) (by decide +kernel) (by decide +kernel))
  have T5 : Hid (fTextL qi = [51, 47, 50]) := Lib.hid (show fTextL qi = [51, 47, 50] by rw [← Vqi.out]; exact text_by (p := 3) (q := 2) (x := [51]) (y := [50]) (by decide +kernel) (by decide +kernel) (by decide +kernel) (by decide +kernel))
  have N24 : Hid (∀ r, (⟨#[50, 47, 52]⟩ : ByteArray).data.toList ≠ fTextL r) := Lib.hid no24
  go_enter Tryz.func4, Tryz.ntmps4
  go_wp2_with fail
  refine (lof_r (r := qa) Vqa.out (by omega) (by omega) (by omega) _).mono ?_
  rintro e w1 ⟨s1, a1, n1, c1, b1, m1, d1, rfl, hr, hb, hf, hg⟩
  have E1 := Lib.hid hr.1.1
  have S2 := Lib.hid ((S0.out.ret2 hb hr.1.2 hf hr.2.2 hg).put [.int .i64 s1, .slice a1 n1 c1, .int .i64 1, .slice b1 m1 d1] 26)
  clear hr hb hf hg S0
  go_wp2_with fail
  refine (lof_r (r := qb) Vqb.out (by omega) (by omega) (by omega) _).mono ?_
  rintro e w3 ⟨s3, a3, n3, c3, b3, m3, d3, rfl, hr, hb, hf, hg⟩
  have E3 := Lib.hid hr.1.1
  have S4 := Lib.hid ((S2.out.ret2 hb hr.1.2 hf hr.2.2 hg).put [.int .i64 s3, .slice a3 n3 c3, .int .i64 1, .slice b3 m3 d3] 26)
  clear hr hb hf hg S2
  go_wp2_with fail
  refine (fof_zero 1 0 (by omega) (by omega) rfl _).mono ?_
  rintro e w5 ⟨rfl, hb⟩
  have S6 := Lib.hid ((S4.out.later hb).put [.int .i64 0, .slice none 0 0, .int .i64 0, .slice none 0 0] 26)
  clear hb S4
  obtain ⟨t1_0, t1_1, t1_2, t1_3⟩ := (S6.out.box _ (List.mem_cons_of_mem _ (List.mem_cons_of_mem _ List.mem_cons_self)) : Fb (w1.heap.size, 26, [.int .i64 s1, .slice a1 n1 c1, .int .i64 1, .slice b1 m1 d1]) _).cells4
  obtain ⟨t2_0, t2_1, t2_2, t2_3⟩ := (S6.out.box _ (List.mem_cons_of_mem _ List.mem_cons_self) : Fb (w3.heap.size, 26, [.int .i64 s3, .slice a3 n3 c3, .int .i64 1, .slice b3 m3 d3]) _).cells4
  go_wp2_with fail
  clear t1_0 t1_1 t1_2 t1_3 t2_0 t2_1 t2_2 t2_3
  refine (fadd_r (S6.out.fr (v := .slice a1 n1 c1) (u := .slice b1 m1 d1) (r := qa) (List.mem_cons_of_mem _ (List.mem_cons_of_mem _ List.mem_cons_self)) (List.mem_cons_of_mem _ (List.mem_cons_of_mem _ (List.mem_cons_of_mem _ List.mem_cons_self))) E1.out) (S6.out.fr (v := .slice a3 n3 c3) (u := .slice b3 m3 d3) (r := qb) List.mem_cons_self (List.mem_cons_of_mem _ List.mem_cons_self) E3.out) (FSz.mono Zqa.out) (FSz.mono Zqb.out) A1.out).mono ?_
  rintro e w7 ⟨s7, a7, n7, c7, b7, m7, d7, rfl, hr, hb, hf, hg⟩
  have E7 := Lib.hid hr.1.1
  have S8 := Lib.hid ((S6.out.ret2 hb hr.1.2 hf hr.2.2 hg).put [.int .i64 s7, .slice a7 n7 c7, .int .i64 1, .slice b7 m7 d7] 26)
  clear hr hb hf hg S6
  obtain ⟨t3_0, t3_1, t3_2, t3_3⟩ := (S8.out.box _ (List.mem_cons_of_mem _ (List.mem_cons_of_mem _ (List.mem_cons_of_mem _ List.mem_cons_self))) : Fb (w1.heap.size, 26, [.int .i64 s1, .slice a1 n1 c1, .int .i64 1, .slice b1 m1 d1]) _).cells4
  obtain ⟨t4_0, t4_1, t4_2, t4_3⟩ := (S8.out.box _ (List.mem_cons_of_mem _ (List.mem_cons_of_mem _ List.mem_cons_self)) : Fb (w3.heap.size, 26, [.int .i64 s3, .slice a3 n3 c3, .int .i64 1, .slice b3 m3 d3]) _).cells4
  go_wp2_with fail
  clear t3_0 t3_1 t3_2 t3_3 t4_0 t4_1 t4_2 t4_3
  refine (fsub_r (S8.out.fr (v := .slice a1 n1 c1) (u := .slice b1 m1 d1) (r := qa) (List.mem_cons_of_mem _ (List.mem_cons_of_mem _ (List.mem_cons_of_mem _ (List.mem_cons_of_mem _ List.mem_cons_self)))) (List.mem_cons_of_mem _ (List.mem_cons_of_mem _ (List.mem_cons_of_mem _ (List.mem_cons_of_mem _ (List.mem_cons_of_mem _ List.mem_cons_self))))) E1.out) (S8.out.fr (v := .slice a3 n3 c3) (u := .slice b3 m3 d3) (r := qb) (List.mem_cons_of_mem _ (List.mem_cons_of_mem _ List.mem_cons_self)) (List.mem_cons_of_mem _ (List.mem_cons_of_mem _ (List.mem_cons_of_mem _ List.mem_cons_self))) E3.out) (FSz.mono Zqa.out) (FSz.mono Zqb.out) A2.out).mono ?_
  rintro e w9 ⟨s9, a9, n9, c9, b9, m9, d9, rfl, hr, hb, hf, hg⟩
  have E9 := Lib.hid hr.1.1
  have S10 := Lib.hid ((S8.out.ret2 hb hr.1.2 hf hr.2.2 hg).put [.int .i64 s9, .slice a9 n9 c9, .int .i64 1, .slice b9 m9 d9] 26)
  clear hr hb hf hg S8
  obtain ⟨t5_0, t5_1, t5_2, t5_3⟩ := (S10.out.box _ (List.mem_cons_of_mem _ (List.mem_cons_of_mem _ (List.mem_cons_of_mem _ (List.mem_cons_of_mem _ List.mem_cons_self)))) : Fb (w1.heap.size, 26, [.int .i64 s1, .slice a1 n1 c1, .int .i64 1, .slice b1 m1 d1]) _).cells4
  obtain ⟨t6_0, t6_1, t6_2, t6_3⟩ := (S10.out.box _ (List.mem_cons_of_mem _ (List.mem_cons_of_mem _ (List.mem_cons_of_mem _ List.mem_cons_self))) : Fb (w3.heap.size, 26, [.int .i64 s3, .slice a3 n3 c3, .int .i64 1, .slice b3 m3 d3]) _).cells4
  go_wp2_with fail
  clear t5_0 t5_1 t5_2 t5_3 t6_0 t6_1 t6_2 t6_3
  refine (fmul_r (S10.out.fr (v := .slice a1 n1 c1) (u := .slice b1 m1 d1) (r := qa) (List.mem_cons_of_mem _ (List.mem_cons_of_mem _ (List.mem_cons_of_mem _ (List.mem_cons_of_mem _ (List.mem_cons_of_mem _ (List.mem_cons_of_mem _ List.mem_cons_self)))))) (List.mem_cons_of_mem _ (List.mem_cons_of_mem _ (List.mem_cons_of_mem _ (List.mem_cons_of_mem _ (List.mem_cons_of_mem _ (List.mem_cons_of_mem _ (List.mem_cons_of_mem _ List.mem_cons_self))))))) E1.out) (S10.out.fr (v := .slice a3 n3 c3) (u := .slice b3 m3 d3) (r := qb) (List.mem_cons_of_mem _ (List.mem_cons_of_mem _ (List.mem_cons_of_mem _ (List.mem_cons_of_mem _ List.mem_cons_self)))) (List.mem_cons_of_mem _ (List.mem_cons_of_mem _ (List.mem_cons_of_mem _ (List.mem_cons_of_mem _ (List.mem_cons_of_mem _ List.mem_cons_self))))) E3.out) (FSz.mono Zqa.out) (FSz.mono Zqb.out) A3.out).mono ?_
  rintro e w11 ⟨s11, a11, n11, c11, b11, m11, d11, rfl, hr, hb, hf, hg⟩
  have E11 := Lib.hid hr.1.1
  have S12 := Lib.hid ((S10.out.ret2 hb hr.1.2 hf hr.2.2 hg).put [.int .i64 s11, .slice a11 n11 c11, .int .i64 1, .slice b11 m11 d11] 26)
  clear hr hb hf hg S10
  obtain ⟨t7_0, t7_1, t7_2, t7_3⟩ := (S12.out.box _ (List.mem_cons_of_mem _ (List.mem_cons_of_mem _ (List.mem_cons_of_mem _ (List.mem_cons_of_mem _ (List.mem_cons_of_mem _ List.mem_cons_self))))) : Fb (w1.heap.size, 26, [.int .i64 s1, .slice a1 n1 c1, .int .i64 1, .slice b1 m1 d1]) _).cells4
  obtain ⟨t8_0, t8_1, t8_2, t8_3⟩ := (S12.out.box _ (List.mem_cons_of_mem _ (List.mem_cons_of_mem _ (List.mem_cons_of_mem _ (List.mem_cons_of_mem _ List.mem_cons_self)))) : Fb (w3.heap.size, 26, [.int .i64 s3, .slice a3 n3 c3, .int .i64 1, .slice b3 m3 d3]) _).cells4
  go_wp2_with fail
  clear t7_0 t7_1 t7_2 t7_3 t8_0 t8_1 t8_2 t8_3
  refine (fdiv_r (S12.out.fr (v := .slice a1 n1 c1) (u := .slice b1 m1 d1) (r := qa) (List.mem_cons_of_mem _ (List.mem_cons_of_mem _ (List.mem_cons_of_mem _ (List.mem_cons_of_mem _ (List.mem_cons_of_mem _ (List.mem_cons_of_mem _ (List.mem_cons_of_mem _ (List.mem_cons_of_mem _ List.mem_cons_self)))))))) (List.mem_cons_of_mem _ (List.mem_cons_of_mem _ (List.mem_cons_of_mem _ (List.mem_cons_of_mem _ (List.mem_cons_of_mem _ (List.mem_cons_of_mem _ (List.mem_cons_of_mem _ (List.mem_cons_of_mem _ (List.mem_cons_of_mem _ List.mem_cons_self))))))))) E1.out) (S12.out.fr (v := .slice a3 n3 c3) (u := .slice b3 m3 d3) (r := qb) (List.mem_cons_of_mem _ (List.mem_cons_of_mem _ (List.mem_cons_of_mem _ (List.mem_cons_of_mem _ (List.mem_cons_of_mem _ (List.mem_cons_of_mem _ List.mem_cons_self)))))) (List.mem_cons_of_mem _ (List.mem_cons_of_mem _ (List.mem_cons_of_mem _ (List.mem_cons_of_mem _ (List.mem_cons_of_mem _ (List.mem_cons_of_mem _ (List.mem_cons_of_mem _ List.mem_cons_self))))))) E3.out) (FSz.mono Zqa.out) (FSz.mono Zqb.out) A5.out A4.out).mono ?_
  rintro e w13 ⟨s13, a13, n13, c13, b13, m13, d13, rfl, hr, hb, hf, hg⟩
  have E13 := Lib.hid hr.1.1
  have S14 := Lib.hid ((S12.out.ret2 hb hr.1.2 hf hr.2.2 hg).put [.int .i64 s13, .slice a13 n13 c13, .int .i64 1, .slice b13 m13 d13] 26)
  clear hr hb hf hg S12
  go_wp2_with fail
  refine (fread_no (⟨#[50, 47, 52]⟩ : ByteArray) (by decide) _ (S14.out.envF HE.out) N24.out).mono ?_
  rintro e w15 ⟨rfl, hb⟩
  have S16 := Lib.hid ((S14.out.later hb).put [.int .i64 0, .slice none 0 0, .int .i64 0, .slice none 0 0] 26)
  clear hb S14
  go_wp2_with fail
  refine (fread_yes (⟨#[45, 51, 47, 50]⟩ : ByteArray) (by decide) _ (S16.out.envF HE.out) qm T1.out.symm).mono ?_
  rintro e w17 ⟨s17, a17, n17, c17, b17, m17, d17, rfl, hr, hb, hf, hg⟩
  have E17 := Lib.hid hr.1.1
  have S18 := Lib.hid ((S16.out.ret2 hb hr.1.2 hf hr.2.2 hg).put [.int .i64 s17, .slice a17 n17 c17, .int .i64 1, .slice b17 m17 d17] 26)
  clear hr hb hf hg S16
  go_wp2_with fail
  refine (lof_r (r := qm) X6.out (by omega) (by omega) (by omega) _).mono ?_
  rintro e w19 ⟨s19, a19, n19, c19, b19, m19, d19, rfl, hr, hb, hf, hg⟩
  have E19 := Lib.hid hr.1.1
  have S20 := Lib.hid (S18.out.ret2 hb hr.1.2 hf hr.2.2 hg)
  clear hr hb hf hg S18
  go_wp2_with fail
  refine (ftext_l (S20.out.fr (v := .slice a19 n19 c19) (u := .slice b19 m19 d19) (r := qm) List.mem_cons_self (List.mem_cons_of_mem _ List.mem_cons_self) E19.out) (FSz.mono Zqm.out) (S20.out.env HN.out) [45, 51, 47, 50] T1.out).mono ?_
  rintro e w21 ⟨rfl, hb⟩
  have S22 := Lib.hid (S20.out.later hb)
  clear hb S20
  go_wp2_with fail
  refine (lof_r (r := qz) Vqz.out (by omega) (by omega) (by omega) _).mono ?_
  rintro e w23 ⟨s23, a23, n23, c23, b23, m23, d23, rfl, hr, hb, hf, hg⟩
  have E23 := Lib.hid hr.1.1
  have S24 := Lib.hid (S22.out.ret2 hb hr.1.2 hf hr.2.2 hg)
  clear hr hb hf hg S22
  go_wp2_with fail
  refine (ftext_l (S24.out.fr (v := .slice a23 n23 c23) (u := .slice b23 m23 d23) (r := qz) List.mem_cons_self (List.mem_cons_of_mem _ List.mem_cons_self) E23.out) (FSz.mono Zqz.out) (S24.out.env HN.out) [48, 47, 49] T2.out).mono ?_
  rintro e w25 ⟨rfl, hb⟩
  have S26 := Lib.hid (S24.out.later hb)
  clear hb S24
  obtain ⟨t9_0, t9_1, t9_2, t9_3⟩ := (S26.out.box _ (List.mem_cons_of_mem _ (List.mem_cons_of_mem _ (List.mem_cons_of_mem _ (List.mem_cons_of_mem _ (List.mem_cons_of_mem _ List.mem_cons_self))))) : Fb (w7.heap.size, 26, [.int .i64 s7, .slice a7 n7 c7, .int .i64 1, .slice b7 m7 d7]) _).cells4
  go_wp2_with fail
  clear t9_0 t9_1 t9_2 t9_3
  refine (ftext_l (S26.out.fr (v := .slice a7 n7 c7) (u := .slice b7 m7 d7) (r := qc) (List.mem_cons_of_mem _ (List.mem_cons_of_mem _ (List.mem_cons_of_mem _ (List.mem_cons_of_mem _ (List.mem_cons_of_mem _ (List.mem_cons_of_mem _ (List.mem_cons_of_mem _ (List.mem_cons_of_mem _ (List.mem_cons_of_mem _ (List.mem_cons_of_mem _ (List.mem_cons_of_mem _ (List.mem_cons_of_mem _ List.mem_cons_self)))))))))))) (List.mem_cons_of_mem _ (List.mem_cons_of_mem _ (List.mem_cons_of_mem _ (List.mem_cons_of_mem _ (List.mem_cons_of_mem _ (List.mem_cons_of_mem _ (List.mem_cons_of_mem _ (List.mem_cons_of_mem _ (List.mem_cons_of_mem _ (List.mem_cons_of_mem _ (List.mem_cons_of_mem _ (List.mem_cons_of_mem _ (List.mem_cons_of_mem _ List.mem_cons_self))))))))))))) E7.out) (FSz.mono Zqc.out) (S26.out.env HN.out) [53, 47, 54] T3.out).mono ?_
  rintro e w27 ⟨rfl, hb⟩
  have S28 := Lib.hid (S26.out.later hb)
  clear hb S26
  obtain ⟨t10_0, t10_1, t10_2, t10_3⟩ := (S28.out.box _ (List.mem_cons_of_mem _ (List.mem_cons_of_mem _ (List.mem_cons_of_mem _ (List.mem_cons_of_mem _ List.mem_cons_self)))) : Fb (w9.heap.size, 26, [.int .i64 s9, .slice a9 n9 c9, .int .i64 1, .slice b9 m9 d9]) _).cells4
  go_wp2_with fail
  clear t10_0 t10_1 t10_2 t10_3
  refine (ftext_l (S28.out.fr (v := .slice a9 n9 c9) (u := .slice b9 m9 d9) (r := qd) (List.mem_cons_of_mem _ (List.mem_cons_of_mem _ (List.mem_cons_of_mem _ (List.mem_cons_of_mem _ (List.mem_cons_of_mem _ (List.mem_cons_of_mem _ (List.mem_cons_of_mem _ (List.mem_cons_of_mem _ (List.mem_cons_of_mem _ (List.mem_cons_of_mem _ List.mem_cons_self)))))))))) (List.mem_cons_of_mem _ (List.mem_cons_of_mem _ (List.mem_cons_of_mem _ (List.mem_cons_of_mem _ (List.mem_cons_of_mem _ (List.mem_cons_of_mem _ (List.mem_cons_of_mem _ (List.mem_cons_of_mem _ (List.mem_cons_of_mem _ (List.mem_cons_of_mem _ (List.mem_cons_of_mem _ List.mem_cons_self))))))))))) E9.out) (FSz.mono Zqd.out) (S28.out.env HN.out) [49, 47, 54] T4.out).mono ?_
  rintro e w29 ⟨rfl, hb⟩
  have S30 := Lib.hid (S28.out.later hb)
  clear hb S28
  obtain ⟨t11_0, t11_1, t11_2, t11_3⟩ := (S30.out.box _ (List.mem_cons_of_mem _ (List.mem_cons_of_mem _ (List.mem_cons_of_mem _ List.mem_cons_self))) : Fb (w11.heap.size, 26, [.int .i64 s11, .slice a11 n11 c11, .int .i64 1, .slice b11 m11 d11]) _).cells4
  go_wp2_with fail
  clear t11_0 t11_1 t11_2 t11_3
  refine (ftext_l (S30.out.fr (v := .slice a11 n11 c11) (u := .slice b11 m11 d11) (r := qd) (List.mem_cons_of_mem _ (List.mem_cons_of_mem _ (List.mem_cons_of_mem _ (List.mem_cons_of_mem _ (List.mem_cons_of_mem _ (List.mem_cons_of_mem _ (List.mem_cons_of_mem _ (List.mem_cons_of_mem _ List.mem_cons_self)))))))) (List.mem_cons_of_mem _ (List.mem_cons_of_mem _ (List.mem_cons_of_mem _ (List.mem_cons_of_mem _ (List.mem_cons_of_mem _ (List.mem_cons_of_mem _ (List.mem_cons_of_mem _ (List.mem_cons_of_mem _ (List.mem_cons_of_mem _ List.mem_cons_self))))))))) E11.out) (FSz.mono Zqd.out) (S30.out.env HN.out) [49, 47, 54] T4.out).mono ?_
  rintro e w31 ⟨rfl, hb⟩
  have S32 := Lib.hid (S30.out.later hb)
  clear hb S30
  obtain ⟨t12_0, t12_1, t12_2, t12_3⟩ := (S32.out.box _ (List.mem_cons_of_mem _ (List.mem_cons_of_mem _ List.mem_cons_self)) : Fb (w13.heap.size, 26, [.int .i64 s13, .slice a13 n13 c13, .int .i64 1, .slice b13 m13 d13]) _).cells4
  go_wp2_with fail
  clear t12_0 t12_1 t12_2 t12_3
  refine (ftext_l (S32.out.fr (v := .slice a13 n13 c13) (u := .slice b13 m13 d13) (r := qi) (List.mem_cons_of_mem _ (List.mem_cons_of_mem _ (List.mem_cons_of_mem _ (List.mem_cons_of_mem _ (List.mem_cons_of_mem _ (List.mem_cons_of_mem _ List.mem_cons_self)))))) (List.mem_cons_of_mem _ (List.mem_cons_of_mem _ (List.mem_cons_of_mem _ (List.mem_cons_of_mem _ (List.mem_cons_of_mem _ (List.mem_cons_of_mem _ (List.mem_cons_of_mem _ List.mem_cons_self))))))) E13.out) (FSz.mono Zqi.out) (S32.out.env HN.out) [51, 47, 50] T5.out).mono ?_
  rintro e w33 ⟨rfl, hb⟩
  have S34 := Lib.hid (S32.out.later hb)
  clear hb S32
  go_wp2_with fail
  have T0 := Lib.hid S34.out.drew
  have K0 : ∀ W F, Sf w [(w17.heap.size, 26, [.int .i64 s17, .slice a17 n17 c17, .int .i64 1, .slice b17 m17 d17]), (w15.heap.size, 26, [.int .i64 0, .slice none 0 0, .int .i64 0, .slice none 0 0]), (w13.heap.size, 26, [.int .i64 s13, .slice a13 n13 c13, .int .i64 1, .slice b13 m13 d13]), (w11.heap.size, 26, [.int .i64 s11, .slice a11 n11 c11, .int .i64 1, .slice b11 m11 d11]), (w9.heap.size, 26, [.int .i64 s9, .slice a9 n9 c9, .int .i64 1, .slice b9 m9 d9]), (w7.heap.size, 26, [.int .i64 s7, .slice a7 n7 c7, .int .i64 1, .slice b7 m7 d7]), (w5.heap.size, 26, [.int .i64 0, .slice none 0 0, .int .i64 0, .slice none 0 0]), (w3.heap.size, 26, [.int .i64 s3, .slice a3 n3 c3, .int .i64 1, .slice b3 m3 d3]), (w1.heap.size, 26, [.int .i64 s1, .slice a1 n1 c1, .int .i64 1, .slice b1 m1 d1])] F W → W.cell? ⟨w1.heap.size, 0, none⟩ = some (.int .i64 s1) ∧ W.cell? ⟨w1.heap.size, 1, none⟩ = some (.slice a1 n1 c1) ∧ W.cell? ⟨w1.heap.size, 2, none⟩ = some (.int .i64 1) ∧ W.cell? ⟨w1.heap.size, 3, none⟩ = some (.slice b1 m1 d1) ∧ W.cell? ⟨w3.heap.size, 0, none⟩ = some (.int .i64 s3) ∧ W.cell? ⟨w3.heap.size, 1, none⟩ = some (.slice a3 n3 c3) ∧ W.cell? ⟨w3.heap.size, 2, none⟩ = some (.int .i64 1) ∧ W.cell? ⟨w3.heap.size, 3, none⟩ = some (.slice b3 m3 d3) ∧ W.cell? ⟨w17.heap.size, 0, none⟩ = some (.int .i64 s17) ∧ W.cell? ⟨w17.heap.size, 1, none⟩ = some (.slice a17 n17 c17) ∧ W.cell? ⟨w17.heap.size, 2, none⟩ = some (.int .i64 1) ∧ W.cell? ⟨w17.heap.size, 3, none⟩ = some (.slice b17 m17 d17) := fun W F h => ⟨(h.box _ (List.mem_cons_of_mem _ (List.mem_cons_of_mem _ (List.mem_cons_of_mem _ (List.mem_cons_of_mem _ (List.mem_cons_of_mem _ (List.mem_cons_of_mem _ (List.mem_cons_of_mem _ (List.mem_cons_of_mem _ List.mem_cons_self)))))))) : Fb (w1.heap.size, 26, [.int .i64 s1, .slice a1 n1 c1, .int .i64 1, .slice b1 m1 d1]) _).cells4.1, (h.box _ (List.mem_cons_of_mem _ (List.mem_cons_of_mem _ (List.mem_cons_of_mem _ (List.mem_cons_of_mem _ (List.mem_cons_of_mem _ (List.mem_cons_of_mem _ (List.mem_cons_of_mem _ (List.mem_cons_of_mem _ List.mem_cons_self)))))))) : Fb (w1.heap.size, 26, [.int .i64 s1, .slice a1 n1 c1, .int .i64 1, .slice b1 m1 d1]) _).cells4.2.1, (h.box _ (List.mem_cons_of_mem _ (List.mem_cons_of_mem _ (List.mem_cons_of_mem _ (List.mem_cons_of_mem _ (List.mem_cons_of_mem _ (List.mem_cons_of_mem _ (List.mem_cons_of_mem _ (List.mem_cons_of_mem _ List.mem_cons_self)))))))) : Fb (w1.heap.size, 26, [.int .i64 s1, .slice a1 n1 c1, .int .i64 1, .slice b1 m1 d1]) _).cells4.2.2.1, (h.box _ (List.mem_cons_of_mem _ (List.mem_cons_of_mem _ (List.mem_cons_of_mem _ (List.mem_cons_of_mem _ (List.mem_cons_of_mem _ (List.mem_cons_of_mem _ (List.mem_cons_of_mem _ (List.mem_cons_of_mem _ List.mem_cons_self)))))))) : Fb (w1.heap.size, 26, [.int .i64 s1, .slice a1 n1 c1, .int .i64 1, .slice b1 m1 d1]) _).cells4.2.2.2, (h.box _ (List.mem_cons_of_mem _ (List.mem_cons_of_mem _ (List.mem_cons_of_mem _ (List.mem_cons_of_mem _ (List.mem_cons_of_mem _ (List.mem_cons_of_mem _ (List.mem_cons_of_mem _ List.mem_cons_self))))))) : Fb (w3.heap.size, 26, [.int .i64 s3, .slice a3 n3 c3, .int .i64 1, .slice b3 m3 d3]) _).cells4.1, (h.box _ (List.mem_cons_of_mem _ (List.mem_cons_of_mem _ (List.mem_cons_of_mem _ (List.mem_cons_of_mem _ (List.mem_cons_of_mem _ (List.mem_cons_of_mem _ (List.mem_cons_of_mem _ List.mem_cons_self))))))) : Fb (w3.heap.size, 26, [.int .i64 s3, .slice a3 n3 c3, .int .i64 1, .slice b3 m3 d3]) _).cells4.2.1, (h.box _ (List.mem_cons_of_mem _ (List.mem_cons_of_mem _ (List.mem_cons_of_mem _ (List.mem_cons_of_mem _ (List.mem_cons_of_mem _ (List.mem_cons_of_mem _ (List.mem_cons_of_mem _ List.mem_cons_self))))))) : Fb (w3.heap.size, 26, [.int .i64 s3, .slice a3 n3 c3, .int .i64 1, .slice b3 m3 d3]) _).cells4.2.2.1, (h.box _ (List.mem_cons_of_mem _ (List.mem_cons_of_mem _ (List.mem_cons_of_mem _ (List.mem_cons_of_mem _ (List.mem_cons_of_mem _ (List.mem_cons_of_mem _ (List.mem_cons_of_mem _ List.mem_cons_self))))))) : Fb (w3.heap.size, 26, [.int .i64 s3, .slice a3 n3 c3, .int .i64 1, .slice b3 m3 d3]) _).cells4.2.2.2, (h.box _ List.mem_cons_self : Fb (w17.heap.size, 26, [.int .i64 s17, .slice a17 n17 c17, .int .i64 1, .slice b17 m17 d17]) _).cells4.1, (h.box _ List.mem_cons_self : Fb (w17.heap.size, 26, [.int .i64 s17, .slice a17 n17 c17, .int .i64 1, .slice b17 m17 d17]) _).cells4.2.1, (h.box _ List.mem_cons_self : Fb (w17.heap.size, 26, [.int .i64 s17, .slice a17 n17 c17, .int .i64 1, .slice b17 m17 d17]) _).cells4.2.2.1, (h.box _ List.mem_cons_self : Fb (w17.heap.size, 26, [.int .i64 s17, .slice a17 n17 c17, .int .i64 1, .slice b17 m17 d17]) _).cells4.2.2.2⟩
  have KK := Lib.hid K0
  clear K0 S34
  have e0 := KK.out _ _ T0.out
  have F1 : Hid (cmpR ra rb = -1) := Lib.hid (show cmpR ra rb = -1 by rw [← Vra.out, ← Vrb.out]; decide +kernel)
  have F2 : Hid (qm.floor = -2) := Lib.hid (show qm.floor = -2 by rw [← Vqm.out]; decide +kernel)
  have Q12 : Hid (-9223372036854775808 ≤ (-1 : Int) ∧ (-1 : Int) ≤ 9223372036854775807) := ⟨by omega, by omega⟩
  have Q2 : Hid (-9223372036854775808 ≤ (2 : Int) ∧ (2 : Int) ≤ 9223372036854775807) := ⟨by omega, by omega⟩
  have Q3 : Hid (-9223372036854775808 ≤ (3 : Int) ∧ (3 : Int) ≤ 9223372036854775807) := ⟨by omega, by omega⟩
  have Qm3 : Hid (-9223372036854775808 ≤ (-3 : Int) ∧ (-3 : Int) ≤ 9223372036854775807) := ⟨by omega, by omega⟩
  have Qm2 : Hid (-9223372036854775808 ≤ (-2 : Int) ∧ (-2 : Int) ≤ 9223372036854775807) := ⟨by omega, by omega⟩
  have O2 : Hid ((2 : Int) ≠ 0) := by show (2 : Int) ≠ 0; omega
  have O3 : Hid ((3 : Int) ≠ 0) := by show (3 : Int) ≠ 0; omega
  have OT : Hid (decide (qm = qm) = true) := decide_eq_true rfl
  have WZa : Hid (FSz 1000 qa) := Zqa.out.mono
  have WZm : Hid (FSz 1000 qm) := Zqm.out.mono
  have WRa : Hid (FSz 1000 ra) := Zra.out.mono
  have WRb : Hid (FSz 1000 rb) := Zrb.out.mono
  have OM : Hid ((-2 : Int) = -2) := Lib.hid rfl
  have G0 := T0
  go_region_held3 (fun W => W.cell? ⟨w1.heap.size, 0, none⟩ = some (.int .i64 s1) ∧ W.cell? ⟨w1.heap.size, 1, none⟩ = some (.slice a1 n1 c1) ∧ W.cell? ⟨w1.heap.size, 2, none⟩ = some (.int .i64 1) ∧ W.cell? ⟨w1.heap.size, 3, none⟩ = some (.slice b1 m1 d1) ∧ W.cell? ⟨w3.heap.size, 0, none⟩ = some (.int .i64 s3) ∧ W.cell? ⟨w3.heap.size, 1, none⟩ = some (.slice a3 n3 c3) ∧ W.cell? ⟨w3.heap.size, 2, none⟩ = some (.int .i64 1) ∧ W.cell? ⟨w3.heap.size, 3, none⟩ = some (.slice b3 m3 d3) ∧ W.cell? ⟨w17.heap.size, 0, none⟩ = some (.int .i64 s17) ∧ W.cell? ⟨w17.heap.size, 1, none⟩ = some (.slice a17 n17 c17) ∧ W.cell? ⟨w17.heap.size, 2, none⟩ = some (.int .i64 1) ∧ W.cell? ⟨w17.heap.size, 3, none⟩ = some (.slice b17 m17 d17))
    (first | (with_reducible exact e0) | (with_reducible exact e1) | (with_reducible exact e2) | (with_reducible exact e3) | (with_reducible exact e4) | (with_reducible exact e5) | (with_reducible exact e6) | (with_reducible exact e7) | (with_reducible exact e8) | (with_reducible exact e9) | (with_reducible exact e10) | (with_reducible exact e11) | (with_reducible exact e12) | (with_reducible exact e13))
    (((first | go_at_call 41 | go_at_call 23 | (rw [if_pos (by rfl)]; go_simp) | skip); (first
        | (have hG := T12; clear hG; go_at_call 43; (with_reducible refine (least_k X12.out Y12.out Vra.out.symm Vqb.out.symm).mono ?_); rintro e v12 ⟨rfl, hb⟩; have T13 := Lib.hid (T12.out.later hb); clear hb; have e13 := KK.out _ _ T13.out)
        | (have hG := T11; clear hG; go_at_call 41; (with_reducible refine (lof_r (r := ra) Vra.out Q12.out Q2.out O2.out _).mono ?_); rintro e v11 ⟨sx11, ax11, nx11, cx11, bx11, mx11, dx11, rfl, hr, hb, hf, hg⟩; have Ex11 := Lib.hid hr.1.1; have T12 := Lib.hid (T11.out.ret2 hb hr.1.2 hf hr.2.2 hg); clear hr hb hf hg; have e12 := KK.out _ _ T12.out; have X12 := Lib.hid (T12.out.fr (v := .slice ax11 nx11 cx11) (u := .slice bx11 mx11 dx11) (r := ra) List.mem_cons_self (List.mem_cons_of_mem _ List.mem_cons_self) Ex11.out); have Y12 := Lib.hid (T12.out.fr (v := .slice a3 n3 c3) (u := .slice b3 m3 d3) (r := qb) (List.mem_cons_of_mem _ (List.mem_cons_of_mem _ (List.mem_cons_of_mem _ (List.mem_cons_of_mem _ (List.mem_cons_of_mem _ (List.mem_cons_of_mem _ (List.mem_cons_of_mem _ (List.mem_cons_of_mem _ (List.mem_cons_of_mem _ (List.mem_cons_of_mem _ (List.mem_cons_of_mem _ (List.mem_cons_of_mem _ (List.mem_cons_of_mem _ (List.mem_cons_of_mem _ (List.mem_cons_of_mem _ (List.mem_cons_of_mem _ (List.mem_cons_of_mem _ (List.mem_cons_of_mem _ (List.mem_cons_of_mem _ (List.mem_cons_of_mem _ (List.mem_cons_of_mem _ (List.mem_cons_of_mem _ (List.mem_cons_of_mem _ (List.mem_cons_of_mem _ (List.mem_cons_of_mem _ (List.mem_cons_of_mem _ List.mem_cons_self)))))))))))))))))))))))))) (List.mem_cons_of_mem _ (List.mem_cons_of_mem _ (List.mem_cons_of_mem _ (List.mem_cons_of_mem _ (List.mem_cons_of_mem _ (List.mem_cons_of_mem _ (List.mem_cons_of_mem _ (List.mem_cons_of_mem _ (List.mem_cons_of_mem _ (List.mem_cons_of_mem _ (List.mem_cons_of_mem _ (List.mem_cons_of_mem _ (List.mem_cons_of_mem _ (List.mem_cons_of_mem _ (List.mem_cons_of_mem _ (List.mem_cons_of_mem _ (List.mem_cons_of_mem _ (List.mem_cons_of_mem _ (List.mem_cons_of_mem _ (List.mem_cons_of_mem _ (List.mem_cons_of_mem _ (List.mem_cons_of_mem _ (List.mem_cons_of_mem _ (List.mem_cons_of_mem _ (List.mem_cons_of_mem _ (List.mem_cons_of_mem _ (List.mem_cons_of_mem _ List.mem_cons_self))))))))))))))))))))))))))) E3.out))
        | (have hG := T10; clear hG; go_at_call 21; (with_reducible refine (fright_z _).mono ?_); rintro e v10 ⟨rfl, hb⟩; have T11 := Lib.hid (T10.out.later hb); clear hb; have e11 := KK.out _ _ T11.out; have G11 := T11)
        | (have hG := T9; clear hG; go_at_call 21; (with_reducible refine (fright_k X9.out WZa.out).mono ?_); rintro e v9 ⟨rfl, hb⟩; have T10 := Lib.hid (T9.out.later hb); clear hb; have e10 := KK.out _ _ T10.out)
        | (have hG := T8; clear hG; go_at_call 10; (with_reducible refine (rfsame_k X8.out Y8.out OT.out).mono ?_); rintro e v8 ⟨rfl, hb⟩; have T9 := Lib.hid (T8.out.later hb); clear hb; have e9 := KK.out _ _ T9.out; have X9 := Lib.hid (T9.out.fr (v := .slice a1 n1 c1) (u := .slice b1 m1 d1) (r := qa) (List.mem_cons_of_mem _ (List.mem_cons_of_mem _ (List.mem_cons_of_mem _ (List.mem_cons_of_mem _ (List.mem_cons_of_mem _ (List.mem_cons_of_mem _ (List.mem_cons_of_mem _ (List.mem_cons_of_mem _ (List.mem_cons_of_mem _ (List.mem_cons_of_mem _ (List.mem_cons_of_mem _ (List.mem_cons_of_mem _ (List.mem_cons_of_mem _ (List.mem_cons_of_mem _ (List.mem_cons_of_mem _ (List.mem_cons_of_mem _ (List.mem_cons_of_mem _ (List.mem_cons_of_mem _ (List.mem_cons_of_mem _ (List.mem_cons_of_mem _ (List.mem_cons_of_mem _ (List.mem_cons_of_mem _ (List.mem_cons_of_mem _ (List.mem_cons_of_mem _ (List.mem_cons_of_mem _ (List.mem_cons_of_mem _ List.mem_cons_self)))))))))))))))))))))))))) (List.mem_cons_of_mem _ (List.mem_cons_of_mem _ (List.mem_cons_of_mem _ (List.mem_cons_of_mem _ (List.mem_cons_of_mem _ (List.mem_cons_of_mem _ (List.mem_cons_of_mem _ (List.mem_cons_of_mem _ (List.mem_cons_of_mem _ (List.mem_cons_of_mem _ (List.mem_cons_of_mem _ (List.mem_cons_of_mem _ (List.mem_cons_of_mem _ (List.mem_cons_of_mem _ (List.mem_cons_of_mem _ (List.mem_cons_of_mem _ (List.mem_cons_of_mem _ (List.mem_cons_of_mem _ (List.mem_cons_of_mem _ (List.mem_cons_of_mem _ (List.mem_cons_of_mem _ (List.mem_cons_of_mem _ (List.mem_cons_of_mem _ (List.mem_cons_of_mem _ (List.mem_cons_of_mem _ (List.mem_cons_of_mem _ (List.mem_cons_of_mem _ List.mem_cons_self))))))))))))))))))))))))))) E1.out))
        | (have hG := T7; clear hG; go_at_call 41; (with_reducible refine (lof_r (r := qm) Vqm.out Qm3.out Q2.out O2.out _).mono ?_); rintro e v7 ⟨sx7, ax7, nx7, cx7, bx7, mx7, dx7, rfl, hr, hb, hf, hg⟩; have Ex7 := Lib.hid hr.1.1; have T8 := Lib.hid (T7.out.ret2 hb hr.1.2 hf hr.2.2 hg); clear hr hb hf hg; have e8 := KK.out _ _ T8.out; have X8 := Lib.hid (T8.out.fr (v := .slice a17 n17 c17) (u := .slice b17 m17 d17) (r := qm) (List.mem_cons_of_mem _ (List.mem_cons_of_mem _ (List.mem_cons_of_mem _ (List.mem_cons_of_mem _ (List.mem_cons_of_mem _ (List.mem_cons_of_mem _ (List.mem_cons_of_mem _ (List.mem_cons_of_mem _ (List.mem_cons_of_mem _ (List.mem_cons_of_mem _ (List.mem_cons_of_mem _ (List.mem_cons_of_mem _ (List.mem_cons_of_mem _ (List.mem_cons_of_mem _ List.mem_cons_self)))))))))))))) (List.mem_cons_of_mem _ (List.mem_cons_of_mem _ (List.mem_cons_of_mem _ (List.mem_cons_of_mem _ (List.mem_cons_of_mem _ (List.mem_cons_of_mem _ (List.mem_cons_of_mem _ (List.mem_cons_of_mem _ (List.mem_cons_of_mem _ (List.mem_cons_of_mem _ (List.mem_cons_of_mem _ (List.mem_cons_of_mem _ (List.mem_cons_of_mem _ (List.mem_cons_of_mem _ (List.mem_cons_of_mem _ List.mem_cons_self))))))))))))))) E17.out); have Y8 := Lib.hid (T8.out.fr (v := .slice ax7 nx7 cx7) (u := .slice bx7 mx7 dx7) (r := qm) List.mem_cons_self (List.mem_cons_of_mem _ List.mem_cons_self) Ex7.out))
        | (have hG := T6; clear hG; go_at_call 38; (with_reducible refine (rsb_t X6.out Y6.out OM.out).mono ?_); rintro e v6 ⟨rfl, hb⟩; have T7 := Lib.hid (T6.out.later hb); clear hb; have e7 := KK.out _ _ T7.out; have G7 := T7)
        | (have hG := T5; clear hG; go_at_call 42; (with_reducible refine (of_k (-2) Qm2.out _).mono ?_); rintro e v5 ⟨sx5, ax5, nx5, cx5, rfl, hn, hb, hf⟩; have Ex5 := Lib.hid hn.1; have T6 := Lib.hid (T5.out.ret hb hn.2 hf); clear hn hb hf; have e6 := KK.out _ _ T6.out; have X6 := Lib.hid (T6.out.num (v := .slice ax4 nx4 cx4) (z := (-2)) (List.mem_cons_of_mem _ List.mem_cons_self) Ex4.out); have Y6 := Lib.hid (T6.out.num (v := .slice ax5 nx5 cx5) (z := (-2)) List.mem_cons_self Ex5.out))
        | (have hG := T4; clear hG; go_at_call 39; (with_reducible refine (ffloor_r X4.out WZm.out F2.out).mono ?_); rintro e v4 ⟨sx4, ax4, nx4, cx4, rfl, hn, hb, hf⟩; have Ex4 := Lib.hid hn.1; have T5 := Lib.hid (T4.out.ret hb hn.2 hf); clear hn hb hf; have e5 := KK.out _ _ T5.out)
        | (have hG := T3; clear hG; go_at_call 41; (with_reducible refine (lof_r (r := qm) Vqm.out Qm3.out Q2.out O2.out _).mono ?_); rintro e v3 ⟨sx3, ax3, nx3, cx3, bx3, mx3, dx3, rfl, hr, hb, hf, hg⟩; have Ex3 := Lib.hid hr.1.1; have T4 := Lib.hid (T3.out.ret2 hb hr.1.2 hf hr.2.2 hg); clear hr hb hf hg; have e4 := KK.out _ _ T4.out; have X4 := Lib.hid (T4.out.fr (v := .slice ax3 nx3 cx3) (u := .slice bx3 mx3 dx3) (r := qm) List.mem_cons_self (List.mem_cons_of_mem _ List.mem_cons_self) Ex3.out))
        | (have hG := T2; clear hG; go_at_call 23; (with_reducible refine (fcmp_r X2.out Y2.out WRa.out WRb.out F1.out).mono ?_); rintro e v2 ⟨rfl, hb⟩; have T3 := Lib.hid (T2.out.later hb); clear hb; have e3 := KK.out _ _ T3.out; have G3 := T3)
        | (have hG := T1; clear hG; go_at_call 41; (with_reducible refine (lof_r (r := rb) Vrb.out Q12.out Q3.out O3.out _).mono ?_); rintro e v1 ⟨sx1, ax1, nx1, cx1, bx1, mx1, dx1, rfl, hr, hb, hf, hg⟩; have Ex1 := Lib.hid hr.1.1; have T2 := Lib.hid (T1.out.ret2 hb hr.1.2 hf hr.2.2 hg); clear hr hb hf hg; have e2 := KK.out _ _ T2.out; have X2 := Lib.hid (T2.out.fr (v := .slice ax0 nx0 cx0) (u := .slice bx0 mx0 dx0) (r := ra) (List.mem_cons_of_mem _ (List.mem_cons_of_mem _ List.mem_cons_self)) (List.mem_cons_of_mem _ (List.mem_cons_of_mem _ (List.mem_cons_of_mem _ List.mem_cons_self))) Ex0.out); have Y2 := Lib.hid (T2.out.fr (v := .slice ax1 nx1 cx1) (u := .slice bx1 mx1 dx1) (r := rb) List.mem_cons_self (List.mem_cons_of_mem _ List.mem_cons_self) Ex1.out))
        | (have hG := T0; clear hG; go_at_call 41; (with_reducible refine (lof_r (r := ra) Vra.out Q12.out Q2.out O2.out _).mono ?_); rintro e v0 ⟨sx0, ax0, nx0, cx0, bx0, mx0, dx0, rfl, hr, hb, hf, hg⟩; have Ex0 := Lib.hid hr.1.1; have T1 := Lib.hid (T0.out.ret2 hb hr.1.2 hf hr.2.2 hg); clear hr hb hf hg; have e1 := KK.out _ _ T1.out; have G1 := T1)); (try dsimp only)))
  all_goals (go_wp2_with fail; go_ret; exact ⟨rfl, T13.out.below⟩)

end Go.Proofs.YtnddickcnfodfaaGreatDoor.Bi

namespace Go.Proofs.YtnddickcnfodfaaGreatDoor.Bi
open Go.RowKit

theorem Sf.cut {w W : World} {L : List FBox} {pre mid F : List (Value × List Int)} (h : Sf w L (pre ++ (mid ++ F)) W) : Sf w L (pre ++ F) W := by
  have hm : ∀ f ∈ pre ++ F, f ∈ pre ++ (mid ++ F) := by
    intro f hf
    rcases List.mem_append.1 hf with hf | hf
    · exact List.mem_append_left _ hf
    · exact List.mem_append_right _ (List.mem_append_right _ hf)
  exact ⟨h.below, h.le, h.box, fun f hf => h.ints f (hm f hf), fun f hf => h.off f (hm f hf), h.pw⟩
theorem FSz.fits {n : Int} {k : Nat} {r : Rat} (h : (decide (((digs r.num.natAbs).length : Int) ≤ n) && decide (((digs (r.den : Int).natAbs).length : Int) ≤ n)) = true) (hn : n = k := by rfl) : FSz k r := by
  subst hn
  rw [Bool.and_eq_true, decide_eq_true_eq, decide_eq_true_eq] at h
  exact ⟨Sz.of (by omega), Sz.of (by omega)⟩
theorem few_lens {lp lq : List Int} {n : Int} (h : (decide ((lp.length : Int) ≤ n) && decide ((lq.length : Int) ≤ n)) = true) (hn : n ≤ 100000) : lp.length ≤ 100000 ∧ lq.length ≤ 100000 := by
  rw [Bool.and_eq_true, decide_eq_true_eq, decide_eq_true_eq] at h
  omega
theorem few_nat {a b : Nat} {n : Nat} (h : (decide ((a : Int) ≤ (n : Int)) && decide ((b : Int) ≤ (n : Int))) = true) : a ≤ n ∧ b ≤ n := by
  rw [Bool.and_eq_true, decide_eq_true_eq, decide_eq_true_eq] at h
  omega
theorem ffew_len (sp : Int) (ap : Option Addr) (x cp : Nat) (sq : Int) (aq : Option Addr) (y cq : Nat) (n : Int) (w : World) (_hx : x ≤ 9223372036854775807) (_hy : y ≤ 9223372036854775807) (bb : Bool) (hb : (decide ((x : Int) ≤ n) && decide ((y : Int) ≤ n)) = bb) :
    Calls Tryz.prog 5 #[.agg #[.int .i64 sp, .slice ap x cp, .int .i64 sq, .slice aq y cq], .int .i64 n] w fun e w' => e = .returned (.bool bb) ∧ RowKit.Below w.heap.size w w' := by
  have HB := Lib.hid hb
  clear hb
  by_cases hx : (x : Int) ≤ n
  · go_enter Tryz.func5, Tryz.ntmps5
    go_wp2_with fail
    go_ret
    rw [← HB.out, decide_eq_true hx]
    exact ⟨by simp, below_alloc _ _⟩
  · go_enter Tryz.func5, Tryz.ntmps5
    go_wp2_with fail
    go_ret
    rw [← HB.out, decide_eq_false (by omega)]
    exact ⟨by simp, below_alloc _ _⟩
end Go.Proofs.YtnddickcnfodfaaGreatDoor.Bi
