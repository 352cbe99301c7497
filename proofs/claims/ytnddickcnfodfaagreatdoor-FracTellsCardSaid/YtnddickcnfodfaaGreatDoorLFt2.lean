/- frac and kitbagref05 at arguments that are not valid. WRITTEN by frac/gen_ft.py. -/
import Derived.Test.YtnddickcnfodfaaGreatDoorLFt1
set_option maxRecDepth 100000
namespace Go.Proofs.YtnddickcnfodfaaGreatDoor.Bi
open Go.RowKit

set_option maxHeartbeats 2000000 in
theorem fadd_bad (sa : Int) (aa : Option Addr) (na ca : Nat) (la : List Int) (ta : Int) (ba : Option Addr) (ma da : Nat) (ka : List Int) (sb : Int) (ab : Option Addr) (nb cb : Nat) (lb : List Int) (tb : Int) (bb : Option Addr) (mb db : Nat) (kb : List Int) (w : World) (ha : Ints w (.slice aa na ca) la) (ga : Ints w (.slice ba ma da) ka) (ua : la.length ≤ 100000) (va : ka.length ≤ 100000) (hb : Ints w (.slice ab nb cb) lb) (gb : Ints w (.slice bb mb db) kb) (ub : lb.length ≤ 100000) (vb : kb.length ≤ 100000) (hr : (fRightB sa la ta ka && fRightB sb lb tb kb) = false) :
    Calls Tryz.prog 6 #[.agg #[.int .i64 sa, .slice aa na ca, .int .i64 ta, .slice ba ma da], .agg #[.int .i64 sb, .slice ab nb cb, .int .i64 tb, .slice bb mb db]] w (FZE 1 w) := by
  have S0 := Lib.hid (((((Sf.start w)).put [.int .i64 sa, .slice aa na ca, .int .i64 ta, .slice ba ma da] 26).put' (n := w.heap.size + 1) (by simp) [.int .i64 sb, .slice ab nb cb, .int .i64 tb, .slice bb mb db] 26).put' (n := w.heap.size + 1 + 1) (by simp) [.int .i64 0, .slice none 0 0, .int .i64 0, .slice none 0 0] 26)
  have Ha := Lib.hid ha
  have Ga := Lib.hid ga
  have Ua := Lib.hid ua
  have Va := Lib.hid va
  have Hb := Lib.hid hb
  have Gb := Lib.hid gb
  have Ub := Lib.hid ub
  have Vb := Lib.hid vb
  rcases ea : fRightB sa la ta ka with _ | _
  · have Ea := Lib.hid ea
    clear ha ga ua va hb gb ub vb hr ea
    go_enter Tryz.func6, Tryz.ntmps6
    go_wp2_with fail
    refine (fright_any sa aa na ca la ta ba ma da ka _ (Ha.out.later S0.out.below) (Ga.out.later S0.out.below) Ua.out Va.out false Ea.out).mono ?_
    rintro e w1 ⟨rfl, hb⟩
    have S1 := Lib.hid (S0.out.later hb)
    clear hb S0
    obtain ⟨r0, r1, r2, r3⟩ := (S1.out.box _ List.mem_cons_self : Fb (w.heap.size + 1 + 1, 26, [.int .i64 0, .slice none 0 0, .int .i64 0, .slice none 0 0]) _).cells4
    obtain ⟨f0, f1, f2, f3⟩ := (S1.out.box _ List.mem_cons_self : Fb (w.heap.size + 1 + 1, 26, [.int .i64 0, .slice none 0 0, .int .i64 0, .slice none 0 0]) _).free4
    go_wp2_with fail
    have ZZ := Lib.hid (S1.out.set4 (pre := []) (.int .i64 0) (.slice none 0 0) (.int .i64 0) (.slice none 0 0))
    exact bodyPost_ret (v := .tuple #[.agg #[.int .i64 0, .slice none 0 0, .int .i64 0, .slice none 0 0], .int .i64 1]) (by simp [results, Tryz.results6, go_sem, r0, r1, r2, r3]) rfl ⟨rfl, ZZ.out.below⟩
  · have eb : fRightB sb lb tb kb = false := by rw [ea] at hr; simpa using hr
    have Ea := Lib.hid ea
    have Eb := Lib.hid eb
    clear ha ga ua va hb gb ub vb hr ea eb
    go_enter Tryz.func6, Tryz.ntmps6
    go_wp2_with fail
    refine (fright_any sa aa na ca la ta ba ma da ka _ (Ha.out.later S0.out.below) (Ga.out.later S0.out.below) Ua.out Va.out true Ea.out).mono ?_
    rintro e w1 ⟨rfl, hb⟩
    have S1 := Lib.hid (S0.out.later hb)
    clear hb S0
    obtain ⟨q0, q1, q2, q3⟩ := (S1.out.box _ (List.mem_cons_of_mem _ List.mem_cons_self) : Fb (w.heap.size + 1, 26, [.int .i64 sb, .slice ab nb cb, .int .i64 tb, .slice bb mb db]) _).cells4
    go_wp2_with fail
    clear q0 q1 q2 q3
    refine (fright_any sb ab nb cb lb tb bb mb db kb _ (Hb.out.later S1.out.below) (Gb.out.later S1.out.below) Ub.out Vb.out false Eb.out).mono ?_
    rintro e w2 ⟨rfl, hb⟩
    have S2 := Lib.hid (S1.out.later hb)
    clear hb S1
    obtain ⟨r0, r1, r2, r3⟩ := (S2.out.box _ List.mem_cons_self : Fb (w.heap.size + 1 + 1, 26, [.int .i64 0, .slice none 0 0, .int .i64 0, .slice none 0 0]) _).cells4
    obtain ⟨f0, f1, f2, f3⟩ := (S2.out.box _ List.mem_cons_self : Fb (w.heap.size + 1 + 1, 26, [.int .i64 0, .slice none 0 0, .int .i64 0, .slice none 0 0]) _).free4
    go_wp2_with fail
    have ZZ := Lib.hid (S2.out.set4 (pre := []) (.int .i64 0) (.slice none 0 0) (.int .i64 0) (.slice none 0 0))
    exact bodyPost_ret (v := .tuple #[.agg #[.int .i64 0, .slice none 0 0, .int .i64 0, .slice none 0 0], .int .i64 1]) (by simp [results, Tryz.results6, go_sem, r0, r1, r2, r3]) rfl ⟨rfl, ZZ.out.below⟩

set_option maxHeartbeats 2000000 in
theorem rfadd_bad (sa : Int) (aa : Option Addr) (na ca : Nat) (la : List Int) (ta : Int) (ba : Option Addr) (ma da : Nat) (ka : List Int) (sb : Int) (ab : Option Addr) (nb cb : Nat) (lb : List Int) (tb : Int) (bb : Option Addr) (mb db : Nat) (kb : List Int) (w : World) (ha : Ints w (.slice aa na ca) la) (ga : Ints w (.slice ba ma da) ka) (ua : la.length ≤ 100000) (va : ka.length ≤ 100000) (hb : Ints w (.slice ab nb cb) lb) (gb : Ints w (.slice bb mb db) kb) (ub : lb.length ≤ 100000) (vb : kb.length ≤ 100000) (hr : (fRightB sa la ta ka && fRightB sb lb tb kb) = false) :
    Calls Tryz.prog 7 #[.agg #[.int .i64 sa, .slice aa na ca, .int .i64 ta, .slice ba ma da], .agg #[.int .i64 sb, .slice ab nb cb, .int .i64 tb, .slice bb mb db]] w (FZE 1 w) := by
  have S0 := Lib.hid (((((Sf.start w)).put [.int .i64 sa, .slice aa na ca, .int .i64 ta, .slice ba ma da] 26).put' (n := w.heap.size + 1) (by simp) [.int .i64 sb, .slice ab nb cb, .int .i64 tb, .slice bb mb db] 26).put' (n := w.heap.size + 1 + 1) (by simp) [.int .i64 0, .slice none 0 0, .int .i64 0, .slice none 0 0] 26)
  have Ha := Lib.hid ha
  have Ga := Lib.hid ga
  have Ua := Lib.hid ua
  have Va := Lib.hid va
  have Hb := Lib.hid hb
  have Gb := Lib.hid gb
  have Ub := Lib.hid ub
  have Vb := Lib.hid vb
  rcases ea : fRightB sa la ta ka with _ | _
  · have Ea := Lib.hid ea
    clear ha ga ua va hb gb ub vb hr ea
    go_enter Tryz.func7, Tryz.ntmps7
    go_wp2_with fail
    refine (rfright_any sa aa na ca la ta ba ma da ka _ (Ha.out.later S0.out.below) (Ga.out.later S0.out.below) Ua.out Va.out false Ea.out).mono ?_
    rintro e w1 ⟨rfl, hb⟩
    have S1 := Lib.hid (S0.out.later hb)
    clear hb S0
    obtain ⟨r0, r1, r2, r3⟩ := (S1.out.box _ List.mem_cons_self : Fb (w.heap.size + 1 + 1, 26, [.int .i64 0, .slice none 0 0, .int .i64 0, .slice none 0 0]) _).cells4
    obtain ⟨f0, f1, f2, f3⟩ := (S1.out.box _ List.mem_cons_self : Fb (w.heap.size + 1 + 1, 26, [.int .i64 0, .slice none 0 0, .int .i64 0, .slice none 0 0]) _).free4
    go_wp2_with fail
    have ZZ := Lib.hid (S1.out.set4 (pre := []) (.int .i64 0) (.slice none 0 0) (.int .i64 0) (.slice none 0 0))
    exact bodyPost_ret (v := .tuple #[.agg #[.int .i64 0, .slice none 0 0, .int .i64 0, .slice none 0 0], .int .i64 1]) (by simp [results, Tryz.results7, go_sem, r0, r1, r2, r3]) rfl ⟨rfl, ZZ.out.below⟩
  · have eb : fRightB sb lb tb kb = false := by rw [ea] at hr; simpa using hr
    have Ea := Lib.hid ea
    have Eb := Lib.hid eb
    clear ha ga ua va hb gb ub vb hr ea eb
    go_enter Tryz.func7, Tryz.ntmps7
    go_wp2_with fail
    refine (rfright_any sa aa na ca la ta ba ma da ka _ (Ha.out.later S0.out.below) (Ga.out.later S0.out.below) Ua.out Va.out true Ea.out).mono ?_
    rintro e w1 ⟨rfl, hb⟩
    have S1 := Lib.hid (S0.out.later hb)
    clear hb S0
    obtain ⟨q0, q1, q2, q3⟩ := (S1.out.box _ (List.mem_cons_of_mem _ List.mem_cons_self) : Fb (w.heap.size + 1, 26, [.int .i64 sb, .slice ab nb cb, .int .i64 tb, .slice bb mb db]) _).cells4
    go_wp2_with fail
    clear q0 q1 q2 q3
    refine (rfright_any sb ab nb cb lb tb bb mb db kb _ (Hb.out.later S1.out.below) (Gb.out.later S1.out.below) Ub.out Vb.out false Eb.out).mono ?_
    rintro e w2 ⟨rfl, hb⟩
    have S2 := Lib.hid (S1.out.later hb)
    clear hb S1
    obtain ⟨r0, r1, r2, r3⟩ := (S2.out.box _ List.mem_cons_self : Fb (w.heap.size + 1 + 1, 26, [.int .i64 0, .slice none 0 0, .int .i64 0, .slice none 0 0]) _).cells4
    obtain ⟨f0, f1, f2, f3⟩ := (S2.out.box _ List.mem_cons_self : Fb (w.heap.size + 1 + 1, 26, [.int .i64 0, .slice none 0 0, .int .i64 0, .slice none 0 0]) _).free4
    go_wp2_with fail
    have ZZ := Lib.hid (S2.out.set4 (pre := []) (.int .i64 0) (.slice none 0 0) (.int .i64 0) (.slice none 0 0))
    exact bodyPost_ret (v := .tuple #[.agg #[.int .i64 0, .slice none 0 0, .int .i64 0, .slice none 0 0], .int .i64 1]) (by simp [results, Tryz.results7, go_sem, r0, r1, r2, r3]) rfl ⟨rfl, ZZ.out.below⟩

set_option maxHeartbeats 2000000 in
theorem fsub_bad (sa : Int) (aa : Option Addr) (na ca : Nat) (la : List Int) (ta : Int) (ba : Option Addr) (ma da : Nat) (ka : List Int) (sb : Int) (ab : Option Addr) (nb cb : Nat) (lb : List Int) (tb : Int) (bb : Option Addr) (mb db : Nat) (kb : List Int) (w : World) (ha : Ints w (.slice aa na ca) la) (ga : Ints w (.slice ba ma da) ka) (ua : la.length ≤ 100000) (va : ka.length ≤ 100000) (hb : Ints w (.slice ab nb cb) lb) (gb : Ints w (.slice bb mb db) kb) (ub : lb.length ≤ 100000) (vb : kb.length ≤ 100000) (hr : (fRightB sa la ta ka && fRightB sb lb tb kb) = false) :
    Calls Tryz.prog 8 #[.agg #[.int .i64 sa, .slice aa na ca, .int .i64 ta, .slice ba ma da], .agg #[.int .i64 sb, .slice ab nb cb, .int .i64 tb, .slice bb mb db]] w (FZE 1 w) := by
  have S0 := Lib.hid (((((Sf.start w)).put [.int .i64 sa, .slice aa na ca, .int .i64 ta, .slice ba ma da] 26).put' (n := w.heap.size + 1) (by simp) [.int .i64 sb, .slice ab nb cb, .int .i64 tb, .slice bb mb db] 26).put' (n := w.heap.size + 1 + 1) (by simp) [.int .i64 0, .slice none 0 0, .int .i64 0, .slice none 0 0] 26)
  have Ha := Lib.hid ha
  have Ga := Lib.hid ga
  have Ua := Lib.hid ua
  have Va := Lib.hid va
  have Hb := Lib.hid hb
  have Gb := Lib.hid gb
  have Ub := Lib.hid ub
  have Vb := Lib.hid vb
  rcases ea : fRightB sa la ta ka with _ | _
  · have Ea := Lib.hid ea
    clear ha ga ua va hb gb ub vb hr ea
    go_enter Tryz.func8, Tryz.ntmps8
    go_wp2_with fail
    refine (fright_any sa aa na ca la ta ba ma da ka _ (Ha.out.later S0.out.below) (Ga.out.later S0.out.below) Ua.out Va.out false Ea.out).mono ?_
    rintro e w1 ⟨rfl, hb⟩
    have S1 := Lib.hid (S0.out.later hb)
    clear hb S0
    obtain ⟨r0, r1, r2, r3⟩ := (S1.out.box _ List.mem_cons_self : Fb (w.heap.size + 1 + 1, 26, [.int .i64 0, .slice none 0 0, .int .i64 0, .slice none 0 0]) _).cells4
    obtain ⟨f0, f1, f2, f3⟩ := (S1.out.box _ List.mem_cons_self : Fb (w.heap.size + 1 + 1, 26, [.int .i64 0, .slice none 0 0, .int .i64 0, .slice none 0 0]) _).free4
    go_wp2_with fail
    have ZZ := Lib.hid (S1.out.set4 (pre := []) (.int .i64 0) (.slice none 0 0) (.int .i64 0) (.slice none 0 0))
    exact bodyPost_ret (v := .tuple #[.agg #[.int .i64 0, .slice none 0 0, .int .i64 0, .slice none 0 0], .int .i64 1]) (by simp [results, Tryz.results8, go_sem, r0, r1, r2, r3]) rfl ⟨rfl, ZZ.out.below⟩
  · have eb : fRightB sb lb tb kb = false := by rw [ea] at hr; simpa using hr
    have Ea := Lib.hid ea
    have Eb := Lib.hid eb
    clear ha ga ua va hb gb ub vb hr ea eb
    go_enter Tryz.func8, Tryz.ntmps8
    go_wp2_with fail
    refine (fright_any sa aa na ca la ta ba ma da ka _ (Ha.out.later S0.out.below) (Ga.out.later S0.out.below) Ua.out Va.out true Ea.out).mono ?_
    rintro e w1 ⟨rfl, hb⟩
    have S1 := Lib.hid (S0.out.later hb)
    clear hb S0
    obtain ⟨q0, q1, q2, q3⟩ := (S1.out.box _ (List.mem_cons_of_mem _ List.mem_cons_self) : Fb (w.heap.size + 1, 26, [.int .i64 sb, .slice ab nb cb, .int .i64 tb, .slice bb mb db]) _).cells4
    go_wp2_with fail
    clear q0 q1 q2 q3
    refine (fright_any sb ab nb cb lb tb bb mb db kb _ (Hb.out.later S1.out.below) (Gb.out.later S1.out.below) Ub.out Vb.out false Eb.out).mono ?_
    rintro e w2 ⟨rfl, hb⟩
    have S2 := Lib.hid (S1.out.later hb)
    clear hb S1
    obtain ⟨r0, r1, r2, r3⟩ := (S2.out.box _ List.mem_cons_self : Fb (w.heap.size + 1 + 1, 26, [.int .i64 0, .slice none 0 0, .int .i64 0, .slice none 0 0]) _).cells4
    obtain ⟨f0, f1, f2, f3⟩ := (S2.out.box _ List.mem_cons_self : Fb (w.heap.size + 1 + 1, 26, [.int .i64 0, .slice none 0 0, .int .i64 0, .slice none 0 0]) _).free4
    go_wp2_with fail
    have ZZ := Lib.hid (S2.out.set4 (pre := []) (.int .i64 0) (.slice none 0 0) (.int .i64 0) (.slice none 0 0))
    exact bodyPost_ret (v := .tuple #[.agg #[.int .i64 0, .slice none 0 0, .int .i64 0, .slice none 0 0], .int .i64 1]) (by simp [results, Tryz.results8, go_sem, r0, r1, r2, r3]) rfl ⟨rfl, ZZ.out.below⟩

set_option maxHeartbeats 2000000 in
theorem rfsub_bad (sa : Int) (aa : Option Addr) (na ca : Nat) (la : List Int) (ta : Int) (ba : Option Addr) (ma da : Nat) (ka : List Int) (sb : Int) (ab : Option Addr) (nb cb : Nat) (lb : List Int) (tb : Int) (bb : Option Addr) (mb db : Nat) (kb : List Int) (w : World) (ha : Ints w (.slice aa na ca) la) (ga : Ints w (.slice ba ma da) ka) (ua : la.length ≤ 100000) (va : ka.length ≤ 100000) (hb : Ints w (.slice ab nb cb) lb) (gb : Ints w (.slice bb mb db) kb) (ub : lb.length ≤ 100000) (vb : kb.length ≤ 100000) (hr : (fRightB sa la ta ka && fRightB sb lb tb kb) = false) :
    Calls Tryz.prog 9 #[.agg #[.int .i64 sa, .slice aa na ca, .int .i64 ta, .slice ba ma da], .agg #[.int .i64 sb, .slice ab nb cb, .int .i64 tb, .slice bb mb db]] w (FZE 1 w) := by
  have S0 := Lib.hid (((((Sf.start w)).put [.int .i64 sa, .slice aa na ca, .int .i64 ta, .slice ba ma da] 26).put' (n := w.heap.size + 1) (by simp) [.int .i64 sb, .slice ab nb cb, .int .i64 tb, .slice bb mb db] 26).put' (n := w.heap.size + 1 + 1) (by simp) [.int .i64 0, .slice none 0 0, .int .i64 0, .slice none 0 0] 26)
  have Ha := Lib.hid ha
  have Ga := Lib.hid ga
  have Ua := Lib.hid ua
  have Va := Lib.hid va
  have Hb := Lib.hid hb
  have Gb := Lib.hid gb
  have Ub := Lib.hid ub
  have Vb := Lib.hid vb
  rcases ea : fRightB sa la ta ka with _ | _
  · have Ea := Lib.hid ea
    clear ha ga ua va hb gb ub vb hr ea
    go_enter Tryz.func9, Tryz.ntmps9
    go_wp2_with fail
    refine (rfright_any sa aa na ca la ta ba ma da ka _ (Ha.out.later S0.out.below) (Ga.out.later S0.out.below) Ua.out Va.out false Ea.out).mono ?_
    rintro e w1 ⟨rfl, hb⟩
    have S1 := Lib.hid (S0.out.later hb)
    clear hb S0
    obtain ⟨r0, r1, r2, r3⟩ := (S1.out.box _ List.mem_cons_self : Fb (w.heap.size + 1 + 1, 26, [.int .i64 0, .slice none 0 0, .int .i64 0, .slice none 0 0]) _).cells4
    obtain ⟨f0, f1, f2, f3⟩ := (S1.out.box _ List.mem_cons_self : Fb (w.heap.size + 1 + 1, 26, [.int .i64 0, .slice none 0 0, .int .i64 0, .slice none 0 0]) _).free4
    go_wp2_with fail
    have ZZ := Lib.hid (S1.out.set4 (pre := []) (.int .i64 0) (.slice none 0 0) (.int .i64 0) (.slice none 0 0))
    exact bodyPost_ret (v := .tuple #[.agg #[.int .i64 0, .slice none 0 0, .int .i64 0, .slice none 0 0], .int .i64 1]) (by simp [results, Tryz.results9, go_sem, r0, r1, r2, r3]) rfl ⟨rfl, ZZ.out.below⟩
  · have eb : fRightB sb lb tb kb = false := by rw [ea] at hr; simpa using hr
    have Ea := Lib.hid ea
    have Eb := Lib.hid eb
    clear ha ga ua va hb gb ub vb hr ea eb
    go_enter Tryz.func9, Tryz.ntmps9
    go_wp2_with fail
    refine (rfright_any sa aa na ca la ta ba ma da ka _ (Ha.out.later S0.out.below) (Ga.out.later S0.out.below) Ua.out Va.out true Ea.out).mono ?_
    rintro e w1 ⟨rfl, hb⟩
    have S1 := Lib.hid (S0.out.later hb)
    clear hb S0
    obtain ⟨q0, q1, q2, q3⟩ := (S1.out.box _ (List.mem_cons_of_mem _ List.mem_cons_self) : Fb (w.heap.size + 1, 26, [.int .i64 sb, .slice ab nb cb, .int .i64 tb, .slice bb mb db]) _).cells4
    go_wp2_with fail
    clear q0 q1 q2 q3
    refine (rfright_any sb ab nb cb lb tb bb mb db kb _ (Hb.out.later S1.out.below) (Gb.out.later S1.out.below) Ub.out Vb.out false Eb.out).mono ?_
    rintro e w2 ⟨rfl, hb⟩
    have S2 := Lib.hid (S1.out.later hb)
    clear hb S1
    obtain ⟨r0, r1, r2, r3⟩ := (S2.out.box _ List.mem_cons_self : Fb (w.heap.size + 1 + 1, 26, [.int .i64 0, .slice none 0 0, .int .i64 0, .slice none 0 0]) _).cells4
    obtain ⟨f0, f1, f2, f3⟩ := (S2.out.box _ List.mem_cons_self : Fb (w.heap.size + 1 + 1, 26, [.int .i64 0, .slice none 0 0, .int .i64 0, .slice none 0 0]) _).free4
    go_wp2_with fail
    have ZZ := Lib.hid (S2.out.set4 (pre := []) (.int .i64 0) (.slice none 0 0) (.int .i64 0) (.slice none 0 0))
    exact bodyPost_ret (v := .tuple #[.agg #[.int .i64 0, .slice none 0 0, .int .i64 0, .slice none 0 0], .int .i64 1]) (by simp [results, Tryz.results9, go_sem, r0, r1, r2, r3]) rfl ⟨rfl, ZZ.out.below⟩

set_option maxHeartbeats 2000000 in
theorem fmul_bad (sa : Int) (aa : Option Addr) (na ca : Nat) (la : List Int) (ta : Int) (ba : Option Addr) (ma da : Nat) (ka : List Int) (sb : Int) (ab : Option Addr) (nb cb : Nat) (lb : List Int) (tb : Int) (bb : Option Addr) (mb db : Nat) (kb : List Int) (w : World) (ha : Ints w (.slice aa na ca) la) (ga : Ints w (.slice ba ma da) ka) (ua : la.length ≤ 100000) (va : ka.length ≤ 100000) (hb : Ints w (.slice ab nb cb) lb) (gb : Ints w (.slice bb mb db) kb) (ub : lb.length ≤ 100000) (vb : kb.length ≤ 100000) (hr : (fRightB sa la ta ka && fRightB sb lb tb kb) = false) :
    Calls Tryz.prog 11 #[.agg #[.int .i64 sa, .slice aa na ca, .int .i64 ta, .slice ba ma da], .agg #[.int .i64 sb, .slice ab nb cb, .int .i64 tb, .slice bb mb db]] w (FZE 1 w) := by
  have S0 := Lib.hid (((((Sf.start w)).put [.int .i64 sa, .slice aa na ca, .int .i64 ta, .slice ba ma da] 26).put' (n := w.heap.size + 1) (by simp) [.int .i64 sb, .slice ab nb cb, .int .i64 tb, .slice bb mb db] 26).put' (n := w.heap.size + 1 + 1) (by simp) [.int .i64 0, .slice none 0 0, .int .i64 0, .slice none 0 0] 26)
  have Ha := Lib.hid ha
  have Ga := Lib.hid ga
  have Ua := Lib.hid ua
  have Va := Lib.hid va
  have Hb := Lib.hid hb
  have Gb := Lib.hid gb
  have Ub := Lib.hid ub
  have Vb := Lib.hid vb
  rcases ea : fRightB sa la ta ka with _ | _
  · have Ea := Lib.hid ea
    clear ha ga ua va hb gb ub vb hr ea
    go_enter Tryz.func11, Tryz.ntmps11
    go_wp2_with fail
    refine (fright_any sa aa na ca la ta ba ma da ka _ (Ha.out.later S0.out.below) (Ga.out.later S0.out.below) Ua.out Va.out false Ea.out).mono ?_
    rintro e w1 ⟨rfl, hb⟩
    have S1 := Lib.hid (S0.out.later hb)
    clear hb S0
    obtain ⟨r0, r1, r2, r3⟩ := (S1.out.box _ List.mem_cons_self : Fb (w.heap.size + 1 + 1, 26, [.int .i64 0, .slice none 0 0, .int .i64 0, .slice none 0 0]) _).cells4
    obtain ⟨f0, f1, f2, f3⟩ := (S1.out.box _ List.mem_cons_self : Fb (w.heap.size + 1 + 1, 26, [.int .i64 0, .slice none 0 0, .int .i64 0, .slice none 0 0]) _).free4
    go_wp2_with fail
    have ZZ := Lib.hid (S1.out.set4 (pre := []) (.int .i64 0) (.slice none 0 0) (.int .i64 0) (.slice none 0 0))
    exact bodyPost_ret (v := .tuple #[.agg #[.int .i64 0, .slice none 0 0, .int .i64 0, .slice none 0 0], .int .i64 1]) (by simp [results, Tryz.results11, go_sem, r0, r1, r2, r3]) rfl ⟨rfl, ZZ.out.below⟩
  · have eb : fRightB sb lb tb kb = false := by rw [ea] at hr; simpa using hr
    have Ea := Lib.hid ea
    have Eb := Lib.hid eb
    clear ha ga ua va hb gb ub vb hr ea eb
    go_enter Tryz.func11, Tryz.ntmps11
    go_wp2_with fail
    refine (fright_any sa aa na ca la ta ba ma da ka _ (Ha.out.later S0.out.below) (Ga.out.later S0.out.below) Ua.out Va.out true Ea.out).mono ?_
    rintro e w1 ⟨rfl, hb⟩
    have S1 := Lib.hid (S0.out.later hb)
    clear hb S0
    obtain ⟨q0, q1, q2, q3⟩ := (S1.out.box _ (List.mem_cons_of_mem _ List.mem_cons_self) : Fb (w.heap.size + 1, 26, [.int .i64 sb, .slice ab nb cb, .int .i64 tb, .slice bb mb db]) _).cells4
    go_wp2_with fail
    clear q0 q1 q2 q3
    refine (fright_any sb ab nb cb lb tb bb mb db kb _ (Hb.out.later S1.out.below) (Gb.out.later S1.out.below) Ub.out Vb.out false Eb.out).mono ?_
    rintro e w2 ⟨rfl, hb⟩
    have S2 := Lib.hid (S1.out.later hb)
    clear hb S1
    obtain ⟨r0, r1, r2, r3⟩ := (S2.out.box _ List.mem_cons_self : Fb (w.heap.size + 1 + 1, 26, [.int .i64 0, .slice none 0 0, .int .i64 0, .slice none 0 0]) _).cells4
    obtain ⟨f0, f1, f2, f3⟩ := (S2.out.box _ List.mem_cons_self : Fb (w.heap.size + 1 + 1, 26, [.int .i64 0, .slice none 0 0, .int .i64 0, .slice none 0 0]) _).free4
    go_wp2_with fail
    have ZZ := Lib.hid (S2.out.set4 (pre := []) (.int .i64 0) (.slice none 0 0) (.int .i64 0) (.slice none 0 0))
    exact bodyPost_ret (v := .tuple #[.agg #[.int .i64 0, .slice none 0 0, .int .i64 0, .slice none 0 0], .int .i64 1]) (by simp [results, Tryz.results11, go_sem, r0, r1, r2, r3]) rfl ⟨rfl, ZZ.out.below⟩

set_option maxHeartbeats 2000000 in
theorem rfmul_bad (sa : Int) (aa : Option Addr) (na ca : Nat) (la : List Int) (ta : Int) (ba : Option Addr) (ma da : Nat) (ka : List Int) (sb : Int) (ab : Option Addr) (nb cb : Nat) (lb : List Int) (tb : Int) (bb : Option Addr) (mb db : Nat) (kb : List Int) (w : World) (ha : Ints w (.slice aa na ca) la) (ga : Ints w (.slice ba ma da) ka) (ua : la.length ≤ 100000) (va : ka.length ≤ 100000) (hb : Ints w (.slice ab nb cb) lb) (gb : Ints w (.slice bb mb db) kb) (ub : lb.length ≤ 100000) (vb : kb.length ≤ 100000) (hr : (fRightB sa la ta ka && fRightB sb lb tb kb) = false) :
    Calls Tryz.prog 12 #[.agg #[.int .i64 sa, .slice aa na ca, .int .i64 ta, .slice ba ma da], .agg #[.int .i64 sb, .slice ab nb cb, .int .i64 tb, .slice bb mb db]] w (FZE 1 w) := by
  have S0 := Lib.hid (((((Sf.start w)).put [.int .i64 sa, .slice aa na ca, .int .i64 ta, .slice ba ma da] 26).put' (n := w.heap.size + 1) (by simp) [.int .i64 sb, .slice ab nb cb, .int .i64 tb, .slice bb mb db] 26).put' (n := w.heap.size + 1 + 1) (by simp) [.int .i64 0, .slice none 0 0, .int .i64 0, .slice none 0 0] 26)
  have Ha := Lib.hid ha
  have Ga := Lib.hid ga
  have Ua := Lib.hid ua
  have Va := Lib.hid va
  have Hb := Lib.hid hb
  have Gb := Lib.hid gb
  have Ub := Lib.hid ub
  have Vb := Lib.hid vb
  rcases ea : fRightB sa la ta ka with _ | _
  · have Ea := Lib.hid ea
    clear ha ga ua va hb gb ub vb hr ea
    go_enter Tryz.func12, Tryz.ntmps12
    go_wp2_with fail
    refine (rfright_any sa aa na ca la ta ba ma da ka _ (Ha.out.later S0.out.below) (Ga.out.later S0.out.below) Ua.out Va.out false Ea.out).mono ?_
    rintro e w1 ⟨rfl, hb⟩
    have S1 := Lib.hid (S0.out.later hb)
    clear hb S0
    obtain ⟨r0, r1, r2, r3⟩ := (S1.out.box _ List.mem_cons_self : Fb (w.heap.size + 1 + 1, 26, [.int .i64 0, .slice none 0 0, .int .i64 0, .slice none 0 0]) _).cells4
    obtain ⟨f0, f1, f2, f3⟩ := (S1.out.box _ List.mem_cons_self : Fb (w.heap.size + 1 + 1, 26, [.int .i64 0, .slice none 0 0, .int .i64 0, .slice none 0 0]) _).free4
    go_wp2_with fail
    have ZZ := Lib.hid (S1.out.set4 (pre := []) (.int .i64 0) (.slice none 0 0) (.int .i64 0) (.slice none 0 0))
    exact bodyPost_ret (v := .tuple #[.agg #[.int .i64 0, .slice none 0 0, .int .i64 0, .slice none 0 0], .int .i64 1]) (by simp [results, Tryz.results12, go_sem, r0, r1, r2, r3]) rfl ⟨rfl, ZZ.out.below⟩
  · have eb : fRightB sb lb tb kb = false := by rw [ea] at hr; simpa using hr
    have Ea := Lib.hid ea
    have Eb := Lib.hid eb
    clear ha ga ua va hb gb ub vb hr ea eb
    go_enter Tryz.func12, Tryz.ntmps12
    go_wp2_with fail
    refine (rfright_any sa aa na ca la ta ba ma da ka _ (Ha.out.later S0.out.below) (Ga.out.later S0.out.below) Ua.out Va.out true Ea.out).mono ?_
    rintro e w1 ⟨rfl, hb⟩
    have S1 := Lib.hid (S0.out.later hb)
    clear hb S0
    obtain ⟨q0, q1, q2, q3⟩ := (S1.out.box _ (List.mem_cons_of_mem _ List.mem_cons_self) : Fb (w.heap.size + 1, 26, [.int .i64 sb, .slice ab nb cb, .int .i64 tb, .slice bb mb db]) _).cells4
    go_wp2_with fail
    clear q0 q1 q2 q3
    refine (rfright_any sb ab nb cb lb tb bb mb db kb _ (Hb.out.later S1.out.below) (Gb.out.later S1.out.below) Ub.out Vb.out false Eb.out).mono ?_
    rintro e w2 ⟨rfl, hb⟩
    have S2 := Lib.hid (S1.out.later hb)
    clear hb S1
    obtain ⟨r0, r1, r2, r3⟩ := (S2.out.box _ List.mem_cons_self : Fb (w.heap.size + 1 + 1, 26, [.int .i64 0, .slice none 0 0, .int .i64 0, .slice none 0 0]) _).cells4
    obtain ⟨f0, f1, f2, f3⟩ := (S2.out.box _ List.mem_cons_self : Fb (w.heap.size + 1 + 1, 26, [.int .i64 0, .slice none 0 0, .int .i64 0, .slice none 0 0]) _).free4
    go_wp2_with fail
    have ZZ := Lib.hid (S2.out.set4 (pre := []) (.int .i64 0) (.slice none 0 0) (.int .i64 0) (.slice none 0 0))
    exact bodyPost_ret (v := .tuple #[.agg #[.int .i64 0, .slice none 0 0, .int .i64 0, .slice none 0 0], .int .i64 1]) (by simp [results, Tryz.results12, go_sem, r0, r1, r2, r3]) rfl ⟨rfl, ZZ.out.below⟩

set_option maxHeartbeats 2000000 in
theorem fdiv_bad (sa : Int) (aa : Option Addr) (na ca : Nat) (la : List Int) (ta : Int) (ba : Option Addr) (ma da : Nat) (ka : List Int) (sb : Int) (ab : Option Addr) (nb cb : Nat) (lb : List Int) (tb : Int) (bb : Option Addr) (mb db : Nat) (kb : List Int) (w : World) (ha : Ints w (.slice aa na ca) la) (ga : Ints w (.slice ba ma da) ka) (ua : la.length ≤ 100000) (va : ka.length ≤ 100000) (hb : Ints w (.slice ab nb cb) lb) (gb : Ints w (.slice bb mb db) kb) (ub : lb.length ≤ 100000) (vb : kb.length ≤ 100000) (hr : (fRightB sa la ta ka && fRightB sb lb tb kb) = false) :
    Calls Tryz.prog 13 #[.agg #[.int .i64 sa, .slice aa na ca, .int .i64 ta, .slice ba ma da], .agg #[.int .i64 sb, .slice ab nb cb, .int .i64 tb, .slice bb mb db]] w (FZE 1 w) := by
  have S0 := Lib.hid (((((Sf.start w)).put [.int .i64 sa, .slice aa na ca, .int .i64 ta, .slice ba ma da] 26).put' (n := w.heap.size + 1) (by simp) [.int .i64 sb, .slice ab nb cb, .int .i64 tb, .slice bb mb db] 26).put' (n := w.heap.size + 1 + 1) (by simp) [.int .i64 0, .slice none 0 0, .int .i64 0, .slice none 0 0] 26)
  have Ha := Lib.hid ha
  have Ga := Lib.hid ga
  have Ua := Lib.hid ua
  have Va := Lib.hid va
  have Hb := Lib.hid hb
  have Gb := Lib.hid gb
  have Ub := Lib.hid ub
  have Vb := Lib.hid vb
  rcases ea : fRightB sa la ta ka with _ | _
  · have Ea := Lib.hid ea
    clear ha ga ua va hb gb ub vb hr ea
    go_enter Tryz.func13, Tryz.ntmps13
    go_wp2_with fail
    refine (fright_any sa aa na ca la ta ba ma da ka _ (Ha.out.later S0.out.below) (Ga.out.later S0.out.below) Ua.out Va.out false Ea.out).mono ?_
    rintro e w1 ⟨rfl, hb⟩
    have S1 := Lib.hid (S0.out.later hb)
    clear hb S0
    obtain ⟨r0, r1, r2, r3⟩ := (S1.out.box _ List.mem_cons_self : Fb (w.heap.size + 1 + 1, 26, [.int .i64 0, .slice none 0 0, .int .i64 0, .slice none 0 0]) _).cells4
    obtain ⟨f0, f1, f2, f3⟩ := (S1.out.box _ List.mem_cons_self : Fb (w.heap.size + 1 + 1, 26, [.int .i64 0, .slice none 0 0, .int .i64 0, .slice none 0 0]) _).free4
    go_wp2_with fail
    have ZZ := Lib.hid (S1.out.set4 (pre := []) (.int .i64 0) (.slice none 0 0) (.int .i64 0) (.slice none 0 0))
    exact bodyPost_ret (v := .tuple #[.agg #[.int .i64 0, .slice none 0 0, .int .i64 0, .slice none 0 0], .int .i64 1]) (by simp [results, Tryz.results13, go_sem, r0, r1, r2, r3]) rfl ⟨rfl, ZZ.out.below⟩
  · have eb : fRightB sb lb tb kb = false := by rw [ea] at hr; simpa using hr
    have Ea := Lib.hid ea
    have Eb := Lib.hid eb
    clear ha ga ua va hb gb ub vb hr ea eb
    go_enter Tryz.func13, Tryz.ntmps13
    go_wp2_with fail
    refine (fright_any sa aa na ca la ta ba ma da ka _ (Ha.out.later S0.out.below) (Ga.out.later S0.out.below) Ua.out Va.out true Ea.out).mono ?_
    rintro e w1 ⟨rfl, hb⟩
    have S1 := Lib.hid (S0.out.later hb)
    clear hb S0
    obtain ⟨q0, q1, q2, q3⟩ := (S1.out.box _ (List.mem_cons_of_mem _ List.mem_cons_self) : Fb (w.heap.size + 1, 26, [.int .i64 sb, .slice ab nb cb, .int .i64 tb, .slice bb mb db]) _).cells4
    go_wp2_with fail
    clear q0 q1 q2 q3
    refine (fright_any sb ab nb cb lb tb bb mb db kb _ (Hb.out.later S1.out.below) (Gb.out.later S1.out.below) Ub.out Vb.out false Eb.out).mono ?_
    rintro e w2 ⟨rfl, hb⟩
    have S2 := Lib.hid (S1.out.later hb)
    clear hb S1
    obtain ⟨r0, r1, r2, r3⟩ := (S2.out.box _ List.mem_cons_self : Fb (w.heap.size + 1 + 1, 26, [.int .i64 0, .slice none 0 0, .int .i64 0, .slice none 0 0]) _).cells4
    obtain ⟨f0, f1, f2, f3⟩ := (S2.out.box _ List.mem_cons_self : Fb (w.heap.size + 1 + 1, 26, [.int .i64 0, .slice none 0 0, .int .i64 0, .slice none 0 0]) _).free4
    go_wp2_with fail
    have ZZ := Lib.hid (S2.out.set4 (pre := []) (.int .i64 0) (.slice none 0 0) (.int .i64 0) (.slice none 0 0))
    exact bodyPost_ret (v := .tuple #[.agg #[.int .i64 0, .slice none 0 0, .int .i64 0, .slice none 0 0], .int .i64 1]) (by simp [results, Tryz.results13, go_sem, r0, r1, r2, r3]) rfl ⟨rfl, ZZ.out.below⟩

set_option maxHeartbeats 2000000 in
theorem rfdiv_bad (sa : Int) (aa : Option Addr) (na ca : Nat) (la : List Int) (ta : Int) (ba : Option Addr) (ma da : Nat) (ka : List Int) (sb : Int) (ab : Option Addr) (nb cb : Nat) (lb : List Int) (tb : Int) (bb : Option Addr) (mb db : Nat) (kb : List Int) (w : World) (ha : Ints w (.slice aa na ca) la) (ga : Ints w (.slice ba ma da) ka) (ua : la.length ≤ 100000) (va : ka.length ≤ 100000) (hb : Ints w (.slice ab nb cb) lb) (gb : Ints w (.slice bb mb db) kb) (ub : lb.length ≤ 100000) (vb : kb.length ≤ 100000) (hr : (fRightB sa la ta ka && fRightB sb lb tb kb) = false) :
    Calls Tryz.prog 14 #[.agg #[.int .i64 sa, .slice aa na ca, .int .i64 ta, .slice ba ma da], .agg #[.int .i64 sb, .slice ab nb cb, .int .i64 tb, .slice bb mb db]] w (FZE 1 w) := by
  have S0 := Lib.hid (((((Sf.start w)).put [.int .i64 sa, .slice aa na ca, .int .i64 ta, .slice ba ma da] 26).put' (n := w.heap.size + 1) (by simp) [.int .i64 sb, .slice ab nb cb, .int .i64 tb, .slice bb mb db] 26).put' (n := w.heap.size + 1 + 1) (by simp) [.int .i64 0, .slice none 0 0, .int .i64 0, .slice none 0 0] 26)
  have Ha := Lib.hid ha
  have Ga := Lib.hid ga
  have Ua := Lib.hid ua
  have Va := Lib.hid va
  have Hb := Lib.hid hb
  have Gb := Lib.hid gb
  have Ub := Lib.hid ub
  have Vb := Lib.hid vb
  rcases ea : fRightB sa la ta ka with _ | _
  · have Ea := Lib.hid ea
    clear ha ga ua va hb gb ub vb hr ea
    go_enter Tryz.func14, Tryz.ntmps14
    go_wp2_with fail
    refine (rfright_any sa aa na ca la ta ba ma da ka _ (Ha.out.later S0.out.below) (Ga.out.later S0.out.below) Ua.out Va.out false Ea.out).mono ?_
    rintro e w1 ⟨rfl, hb⟩
    have S1 := Lib.hid (S0.out.later hb)
    clear hb S0
    obtain ⟨r0, r1, r2, r3⟩ := (S1.out.box _ List.mem_cons_self : Fb (w.heap.size + 1 + 1, 26, [.int .i64 0, .slice none 0 0, .int .i64 0, .slice none 0 0]) _).cells4
    obtain ⟨f0, f1, f2, f3⟩ := (S1.out.box _ List.mem_cons_self : Fb (w.heap.size + 1 + 1, 26, [.int .i64 0, .slice none 0 0, .int .i64 0, .slice none 0 0]) _).free4
    go_wp2_with fail
    have ZZ := Lib.hid (S1.out.set4 (pre := []) (.int .i64 0) (.slice none 0 0) (.int .i64 0) (.slice none 0 0))
    exact bodyPost_ret (v := .tuple #[.agg #[.int .i64 0, .slice none 0 0, .int .i64 0, .slice none 0 0], .int .i64 1]) (by simp [results, Tryz.results14, go_sem, r0, r1, r2, r3]) rfl ⟨rfl, ZZ.out.below⟩
  · have eb : fRightB sb lb tb kb = false := by rw [ea] at hr; simpa using hr
    have Ea := Lib.hid ea
    have Eb := Lib.hid eb
    clear ha ga ua va hb gb ub vb hr ea eb
    go_enter Tryz.func14, Tryz.ntmps14
    go_wp2_with fail
    refine (rfright_any sa aa na ca la ta ba ma da ka _ (Ha.out.later S0.out.below) (Ga.out.later S0.out.below) Ua.out Va.out true Ea.out).mono ?_
    rintro e w1 ⟨rfl, hb⟩
    have S1 := Lib.hid (S0.out.later hb)
    clear hb S0
    obtain ⟨q0, q1, q2, q3⟩ := (S1.out.box _ (List.mem_cons_of_mem _ List.mem_cons_self) : Fb (w.heap.size + 1, 26, [.int .i64 sb, .slice ab nb cb, .int .i64 tb, .slice bb mb db]) _).cells4
    go_wp2_with fail
    clear q0 q1 q2 q3
    refine (rfright_any sb ab nb cb lb tb bb mb db kb _ (Hb.out.later S1.out.below) (Gb.out.later S1.out.below) Ub.out Vb.out false Eb.out).mono ?_
    rintro e w2 ⟨rfl, hb⟩
    have S2 := Lib.hid (S1.out.later hb)
    clear hb S1
    obtain ⟨r0, r1, r2, r3⟩ := (S2.out.box _ List.mem_cons_self : Fb (w.heap.size + 1 + 1, 26, [.int .i64 0, .slice none 0 0, .int .i64 0, .slice none 0 0]) _).cells4
    obtain ⟨f0, f1, f2, f3⟩ := (S2.out.box _ List.mem_cons_self : Fb (w.heap.size + 1 + 1, 26, [.int .i64 0, .slice none 0 0, .int .i64 0, .slice none 0 0]) _).free4
    go_wp2_with fail
    have ZZ := Lib.hid (S2.out.set4 (pre := []) (.int .i64 0) (.slice none 0 0) (.int .i64 0) (.slice none 0 0))
    exact bodyPost_ret (v := .tuple #[.agg #[.int .i64 0, .slice none 0 0, .int .i64 0, .slice none 0 0], .int .i64 1]) (by simp [results, Tryz.results14, go_sem, r0, r1, r2, r3]) rfl ⟨rfl, ZZ.out.below⟩

set_option maxHeartbeats 2000000 in
theorem fcmp_bad (sa : Int) (aa : Option Addr) (na ca : Nat) (la : List Int) (ta : Int) (ba : Option Addr) (ma da : Nat) (ka : List Int) (sb : Int) (ab : Option Addr) (nb cb : Nat) (lb : List Int) (tb : Int) (bb : Option Addr) (mb db : Nat) (kb : List Int) (w : World) (ha : Ints w (.slice aa na ca) la) (ga : Ints w (.slice ba ma da) ka) (ua : la.length ≤ 100000) (va : ka.length ≤ 100000) (hb : Ints w (.slice ab nb cb) lb) (gb : Ints w (.slice bb mb db) kb) (ub : lb.length ≤ 100000) (vb : kb.length ≤ 100000) (hr : (fRightB sa la ta ka && fRightB sb lb tb kb) = false) :
    Calls Tryz.prog 23 #[.agg #[.int .i64 sa, .slice aa na ca, .int .i64 ta, .slice ba ma da], .agg #[.int .i64 sb, .slice ab nb cb, .int .i64 tb, .slice bb mb db]] w (fun e w' => e = .returned (.int .i64 0) ∧ RowKit.Below w.heap.size w w') := by
  have S0 := Lib.hid ((((Sf.start w)).put [.int .i64 sa, .slice aa na ca, .int .i64 ta, .slice ba ma da] 26).put' (n := w.heap.size + 1) (by simp) [.int .i64 sb, .slice ab nb cb, .int .i64 tb, .slice bb mb db] 26)
  have Ha := Lib.hid ha
  have Ga := Lib.hid ga
  have Ua := Lib.hid ua
  have Va := Lib.hid va
  have Hb := Lib.hid hb
  have Gb := Lib.hid gb
  have Ub := Lib.hid ub
  have Vb := Lib.hid vb
  rcases ea : fRightB sa la ta ka with _ | _
  · have Ea := Lib.hid ea
    clear ha ga ua va hb gb ub vb hr ea
    go_enter Tryz.func23, Tryz.ntmps23
    go_wp2_with fail
    refine (fright_any sa aa na ca la ta ba ma da ka _ (Ha.out.later S0.out.below) (Ga.out.later S0.out.below) Ua.out Va.out false Ea.out).mono ?_
    rintro e w1 ⟨rfl, hb⟩
    have S1 := Lib.hid (S0.out.later hb)
    clear hb S0
    go_wp2_with fail
    go_ret
    exact ⟨rfl, S1.out.below⟩
  · have eb : fRightB sb lb tb kb = false := by rw [ea] at hr; simpa using hr
    have Ea := Lib.hid ea
    have Eb := Lib.hid eb
    clear ha ga ua va hb gb ub vb hr ea eb
    go_enter Tryz.func23, Tryz.ntmps23
    go_wp2_with fail
    refine (fright_any sa aa na ca la ta ba ma da ka _ (Ha.out.later S0.out.below) (Ga.out.later S0.out.below) Ua.out Va.out true Ea.out).mono ?_
    rintro e w1 ⟨rfl, hb⟩
    have S1 := Lib.hid (S0.out.later hb)
    clear hb S0
    obtain ⟨q0, q1, q2, q3⟩ := (S1.out.box _ List.mem_cons_self : Fb (w.heap.size + 1, 26, [.int .i64 sb, .slice ab nb cb, .int .i64 tb, .slice bb mb db]) _).cells4
    go_wp2_with fail
    clear q0 q1 q2 q3
    refine (fright_any sb ab nb cb lb tb bb mb db kb _ (Hb.out.later S1.out.below) (Gb.out.later S1.out.below) Ub.out Vb.out false Eb.out).mono ?_
    rintro e w2 ⟨rfl, hb⟩
    have S2 := Lib.hid (S1.out.later hb)
    clear hb S1
    go_wp2_with fail
    go_ret
    exact ⟨rfl, S2.out.below⟩

set_option maxHeartbeats 2000000 in
theorem rfcmp_bad (sa : Int) (aa : Option Addr) (na ca : Nat) (la : List Int) (ta : Int) (ba : Option Addr) (ma da : Nat) (ka : List Int) (sb : Int) (ab : Option Addr) (nb cb : Nat) (lb : List Int) (tb : Int) (bb : Option Addr) (mb db : Nat) (kb : List Int) (w : World) (ha : Ints w (.slice aa na ca) la) (ga : Ints w (.slice ba ma da) ka) (ua : la.length ≤ 100000) (va : ka.length ≤ 100000) (hb : Ints w (.slice ab nb cb) lb) (gb : Ints w (.slice bb mb db) kb) (ub : lb.length ≤ 100000) (vb : kb.length ≤ 100000) (hr : (fRightB sa la ta ka && fRightB sb lb tb kb) = false) :
    Calls Tryz.prog 24 #[.agg #[.int .i64 sa, .slice aa na ca, .int .i64 ta, .slice ba ma da], .agg #[.int .i64 sb, .slice ab nb cb, .int .i64 tb, .slice bb mb db]] w (fun e w' => e = .returned (.int .i64 0) ∧ RowKit.Below w.heap.size w w') := by
  have S0 := Lib.hid ((((Sf.start w)).put [.int .i64 sa, .slice aa na ca, .int .i64 ta, .slice ba ma da] 26).put' (n := w.heap.size + 1) (by simp) [.int .i64 sb, .slice ab nb cb, .int .i64 tb, .slice bb mb db] 26)
  have Ha := Lib.hid ha
  have Ga := Lib.hid ga
  have Ua := Lib.hid ua
  have Va := Lib.hid va
  have Hb := Lib.hid hb
  have Gb := Lib.hid gb
  have Ub := Lib.hid ub
  have Vb := Lib.hid vb
  rcases ea : fRightB sa la ta ka with _ | _
  · have Ea := Lib.hid ea
    clear ha ga ua va hb gb ub vb hr ea
    go_enter Tryz.func24, Tryz.ntmps24
    go_wp2_with fail
    refine (rfright_any sa aa na ca la ta ba ma da ka _ (Ha.out.later S0.out.below) (Ga.out.later S0.out.below) Ua.out Va.out false Ea.out).mono ?_
    rintro e w1 ⟨rfl, hb⟩
    have S1 := Lib.hid (S0.out.later hb)
    clear hb S0
    go_wp2_with fail
    go_ret
    exact ⟨rfl, S1.out.below⟩
  · have eb : fRightB sb lb tb kb = false := by rw [ea] at hr; simpa using hr
    have Ea := Lib.hid ea
    have Eb := Lib.hid eb
    clear ha ga ua va hb gb ub vb hr ea eb
    go_enter Tryz.func24, Tryz.ntmps24
    go_wp2_with fail
    refine (rfright_any sa aa na ca la ta ba ma da ka _ (Ha.out.later S0.out.below) (Ga.out.later S0.out.below) Ua.out Va.out true Ea.out).mono ?_
    rintro e w1 ⟨rfl, hb⟩
    have S1 := Lib.hid (S0.out.later hb)
    clear hb S0
    obtain ⟨q0, q1, q2, q3⟩ := (S1.out.box _ List.mem_cons_self : Fb (w.heap.size + 1, 26, [.int .i64 sb, .slice ab nb cb, .int .i64 tb, .slice bb mb db]) _).cells4
    go_wp2_with fail
    clear q0 q1 q2 q3
    refine (rfright_any sb ab nb cb lb tb bb mb db kb _ (Hb.out.later S1.out.below) (Gb.out.later S1.out.below) Ub.out Vb.out false Eb.out).mono ?_
    rintro e w2 ⟨rfl, hb⟩
    have S2 := Lib.hid (S1.out.later hb)
    clear hb S1
    go_wp2_with fail
    go_ret
    exact ⟨rfl, S2.out.below⟩

set_option maxHeartbeats 2000000 in
theorem fext_bad (sa : Int) (aa : Option Addr) (na ca : Nat) (la : List Int) (ta : Int) (ba : Option Addr) (ma da : Nat) (ka : List Int) (sb : Int) (ab : Option Addr) (nb cb : Nat) (lb : List Int) (tb : Int) (bb : Option Addr) (mb db : Nat) (kb : List Int) (side : Int) (w : World) (ha : Ints w (.slice aa na ca) la) (ga : Ints w (.slice ba ma da) ka) (ua : la.length ≤ 100000) (va : ka.length ≤ 100000) (hb : Ints w (.slice ab nb cb) lb) (gb : Ints w (.slice bb mb db) kb) (ub : lb.length ≤ 100000) (vb : kb.length ≤ 100000) (hr : (fRightB sa la ta ka && fRightB sb lb tb kb) = false) :
    Calls Tryz.prog 64 #[.agg #[.int .i64 sa, .slice aa na ca, .int .i64 ta, .slice ba ma da], .agg #[.int .i64 sb, .slice ab nb cb, .int .i64 tb, .slice bb mb db], .int .i64 side] w (FZE 1 w) := by
  have S0 := Lib.hid (((((Sf.start w)).put [.int .i64 sa, .slice aa na ca, .int .i64 ta, .slice ba ma da] 26).put' (n := w.heap.size + 1) (by simp) [.int .i64 sb, .slice ab nb cb, .int .i64 tb, .slice bb mb db] 26).put' (n := w.heap.size + 1 + 1) (by simp) [.int .i64 0, .slice none 0 0, .int .i64 0, .slice none 0 0] 26)
  have Ha := Lib.hid ha
  have Ga := Lib.hid ga
  have Ua := Lib.hid ua
  have Va := Lib.hid va
  have Hb := Lib.hid hb
  have Gb := Lib.hid gb
  have Ub := Lib.hid ub
  have Vb := Lib.hid vb
  rcases ea : fRightB sa la ta ka with _ | _
  · have Ea := Lib.hid ea
    clear ha ga ua va hb gb ub vb hr ea
    go_enter Tryz.func64, Tryz.ntmps64
    go_wp2_with fail
    refine (fright_any sa aa na ca la ta ba ma da ka _ (Ha.out.later S0.out.below) (Ga.out.later S0.out.below) Ua.out Va.out false Ea.out).mono ?_
    rintro e w1 ⟨rfl, hb⟩
    have S1 := Lib.hid (S0.out.later hb)
    clear hb S0
    obtain ⟨r0, r1, r2, r3⟩ := (S1.out.box _ List.mem_cons_self : Fb (w.heap.size + 1 + 1, 26, [.int .i64 0, .slice none 0 0, .int .i64 0, .slice none 0 0]) _).cells4
    obtain ⟨f0, f1, f2, f3⟩ := (S1.out.box _ List.mem_cons_self : Fb (w.heap.size + 1 + 1, 26, [.int .i64 0, .slice none 0 0, .int .i64 0, .slice none 0 0]) _).free4
    go_wp2_with fail
    have ZZ := Lib.hid (S1.out.set4 (pre := []) (.int .i64 0) (.slice none 0 0) (.int .i64 0) (.slice none 0 0))
    exact bodyPost_ret (v := .tuple #[.agg #[.int .i64 0, .slice none 0 0, .int .i64 0, .slice none 0 0], .int .i64 1]) (by simp [results, Tryz.results64, go_sem, r0, r1, r2, r3]) rfl ⟨rfl, ZZ.out.below⟩
  · have eb : fRightB sb lb tb kb = false := by rw [ea] at hr; simpa using hr
    have Ea := Lib.hid ea
    have Eb := Lib.hid eb
    clear ha ga ua va hb gb ub vb hr ea eb
    go_enter Tryz.func64, Tryz.ntmps64
    go_wp2_with fail
    refine (fright_any sa aa na ca la ta ba ma da ka _ (Ha.out.later S0.out.below) (Ga.out.later S0.out.below) Ua.out Va.out true Ea.out).mono ?_
    rintro e w1 ⟨rfl, hb⟩
    have S1 := Lib.hid (S0.out.later hb)
    clear hb S0
    obtain ⟨q0, q1, q2, q3⟩ := (S1.out.box _ (List.mem_cons_of_mem _ List.mem_cons_self) : Fb (w.heap.size + 1, 26, [.int .i64 sb, .slice ab nb cb, .int .i64 tb, .slice bb mb db]) _).cells4
    go_wp2_with fail
    clear q0 q1 q2 q3
    refine (fright_any sb ab nb cb lb tb bb mb db kb _ (Hb.out.later S1.out.below) (Gb.out.later S1.out.below) Ub.out Vb.out false Eb.out).mono ?_
    rintro e w2 ⟨rfl, hb⟩
    have S2 := Lib.hid (S1.out.later hb)
    clear hb S1
    obtain ⟨r0, r1, r2, r3⟩ := (S2.out.box _ List.mem_cons_self : Fb (w.heap.size + 1 + 1, 26, [.int .i64 0, .slice none 0 0, .int .i64 0, .slice none 0 0]) _).cells4
    obtain ⟨f0, f1, f2, f3⟩ := (S2.out.box _ List.mem_cons_self : Fb (w.heap.size + 1 + 1, 26, [.int .i64 0, .slice none 0 0, .int .i64 0, .slice none 0 0]) _).free4
    go_wp2_with fail
    have ZZ := Lib.hid (S2.out.set4 (pre := []) (.int .i64 0) (.slice none 0 0) (.int .i64 0) (.slice none 0 0))
    exact bodyPost_ret (v := .tuple #[.agg #[.int .i64 0, .slice none 0 0, .int .i64 0, .slice none 0 0], .int .i64 1]) (by simp [results, Tryz.results64, go_sem, r0, r1, r2, r3]) rfl ⟨rfl, ZZ.out.below⟩

set_option maxHeartbeats 2000000 in
theorem fmin_bad (sa : Int) (aa : Option Addr) (na ca : Nat) (la : List Int) (ta : Int) (ba : Option Addr) (ma da : Nat) (ka : List Int) (sb : Int) (ab : Option Addr) (nb cb : Nat) (lb : List Int) (tb : Int) (bb : Option Addr) (mb db : Nat) (kb : List Int) (w : World) (ha : Ints w (.slice aa na ca) la) (ga : Ints w (.slice ba ma da) ka) (ua : la.length ≤ 100000) (va : ka.length ≤ 100000) (hb' : Ints w (.slice ab nb cb) lb) (gb : Ints w (.slice bb mb db) kb) (ub : lb.length ≤ 100000) (vb : kb.length ≤ 100000) (hr : (fRightB sa la ta ka && fRightB sb lb tb kb) = false) :
    Calls Tryz.prog 26 #[.agg #[.int .i64 sa, .slice aa na ca, .int .i64 ta, .slice ba ma da], .agg #[.int .i64 sb, .slice ab nb cb, .int .i64 tb, .slice bb mb db]] w (FZE 1 w) := by
  have S0 := Lib.hid (((((Sf.start w)).put [.int .i64 sa, .slice aa na ca, .int .i64 ta, .slice ba ma da] 26).put' (n := w.heap.size + 1) (by simp) [.int .i64 sb, .slice ab nb cb, .int .i64 tb, .slice bb mb db] 26).put' (n := w.heap.size + 1 + 1) (by simp) [.int .i64 0, .slice none 0 0, .int .i64 0, .slice none 0 0] 26)
  have HX := Lib.hid (fun W (hb : RowKit.Below w.heap.size w W) => fext_bad sa aa na ca la ta ba ma da ka sb ab nb cb lb tb bb mb db kb (-1) W (ha.later hb) (ga.later hb) ua va (hb'.later hb) (gb.later hb) ub vb hr)
  clear ha ga ua va hb' gb ub vb hr
  go_enter Tryz.func26, Tryz.ntmps26
  go_wp2_with fail
  refine (HX.out _ S0.out.below).mono ?_
  rintro e w1 ⟨rfl, hb⟩
  have S1 := Lib.hid (S0.out.later hb)
  clear hb S0
  obtain ⟨r0, r1, r2, r3⟩ := (S1.out.box _ List.mem_cons_self : Fb (w.heap.size + 1 + 1, 26, [.int .i64 0, .slice none 0 0, .int .i64 0, .slice none 0 0]) _).cells4
  obtain ⟨f0, f1, f2, f3⟩ := (S1.out.box _ List.mem_cons_self : Fb (w.heap.size + 1 + 1, 26, [.int .i64 0, .slice none 0 0, .int .i64 0, .slice none 0 0]) _).free4
  go_wp2_with fail
  have ZZ := Lib.hid (S1.out.set4 (pre := []) (.int .i64 0) (.slice none 0 0) (.int .i64 0) (.slice none 0 0))
  exact bodyPost_ret (v := .tuple #[.agg #[.int .i64 0, .slice none 0 0, .int .i64 0, .slice none 0 0], .int .i64 1]) (by simp [results, Tryz.results26, go_sem, r0, r1, r2, r3]) rfl ⟨rfl, ZZ.out.below⟩

set_option maxHeartbeats 2000000 in
theorem fmax_bad (sa : Int) (aa : Option Addr) (na ca : Nat) (la : List Int) (ta : Int) (ba : Option Addr) (ma da : Nat) (ka : List Int) (sb : Int) (ab : Option Addr) (nb cb : Nat) (lb : List Int) (tb : Int) (bb : Option Addr) (mb db : Nat) (kb : List Int) (w : World) (ha : Ints w (.slice aa na ca) la) (ga : Ints w (.slice ba ma da) ka) (ua : la.length ≤ 100000) (va : ka.length ≤ 100000) (hb' : Ints w (.slice ab nb cb) lb) (gb : Ints w (.slice bb mb db) kb) (ub : lb.length ≤ 100000) (vb : kb.length ≤ 100000) (hr : (fRightB sa la ta ka && fRightB sb lb tb kb) = false) :
    Calls Tryz.prog 28 #[.agg #[.int .i64 sa, .slice aa na ca, .int .i64 ta, .slice ba ma da], .agg #[.int .i64 sb, .slice ab nb cb, .int .i64 tb, .slice bb mb db]] w (FZE 1 w) := by
  have S0 := Lib.hid (((((Sf.start w)).put [.int .i64 sa, .slice aa na ca, .int .i64 ta, .slice ba ma da] 26).put' (n := w.heap.size + 1) (by simp) [.int .i64 sb, .slice ab nb cb, .int .i64 tb, .slice bb mb db] 26).put' (n := w.heap.size + 1 + 1) (by simp) [.int .i64 0, .slice none 0 0, .int .i64 0, .slice none 0 0] 26)
  have HX := Lib.hid (fun W (hb : RowKit.Below w.heap.size w W) => fext_bad sa aa na ca la ta ba ma da ka sb ab nb cb lb tb bb mb db kb (1) W (ha.later hb) (ga.later hb) ua va (hb'.later hb) (gb.later hb) ub vb hr)
  clear ha ga ua va hb' gb ub vb hr
  go_enter Tryz.func28, Tryz.ntmps28
  go_wp2_with fail
  refine (HX.out _ S0.out.below).mono ?_
  rintro e w1 ⟨rfl, hb⟩
  have S1 := Lib.hid (S0.out.later hb)
  clear hb S0
  obtain ⟨r0, r1, r2, r3⟩ := (S1.out.box _ List.mem_cons_self : Fb (w.heap.size + 1 + 1, 26, [.int .i64 0, .slice none 0 0, .int .i64 0, .slice none 0 0]) _).cells4
  obtain ⟨f0, f1, f2, f3⟩ := (S1.out.box _ List.mem_cons_self : Fb (w.heap.size + 1 + 1, 26, [.int .i64 0, .slice none 0 0, .int .i64 0, .slice none 0 0]) _).free4
  go_wp2_with fail
  have ZZ := Lib.hid (S1.out.set4 (pre := []) (.int .i64 0) (.slice none 0 0) (.int .i64 0) (.slice none 0 0))
  exact bodyPost_ret (v := .tuple #[.agg #[.int .i64 0, .slice none 0 0, .int .i64 0, .slice none 0 0], .int .i64 1]) (by simp [results, Tryz.results28, go_sem, r0, r1, r2, r3]) rfl ⟨rfl, ZZ.out.below⟩

set_option maxHeartbeats 2000000 in
theorem rfmin_bad (sa : Int) (aa : Option Addr) (na ca : Nat) (la : List Int) (ta : Int) (ba : Option Addr) (ma da : Nat) (ka : List Int) (sb : Int) (ab : Option Addr) (nb cb : Nat) (lb : List Int) (tb : Int) (bb : Option Addr) (mb db : Nat) (kb : List Int) (w : World) (ha : Ints w (.slice aa na ca) la) (ga : Ints w (.slice ba ma da) ka) (ua : la.length ≤ 100000) (va : ka.length ≤ 100000) (hb : Ints w (.slice ab nb cb) lb) (gb : Ints w (.slice bb mb db) kb) (ub : lb.length ≤ 100000) (vb : kb.length ≤ 100000) (hr : (fRightB sa la ta ka && fRightB sb lb tb kb) = false) :
    Calls Tryz.prog 27 #[.agg #[.int .i64 sa, .slice aa na ca, .int .i64 ta, .slice ba ma da], .agg #[.int .i64 sb, .slice ab nb cb, .int .i64 tb, .slice bb mb db]] w (FZE 1 w) := by
  have S0 := Lib.hid (((((Sf.start w)).put [.int .i64 sa, .slice aa na ca, .int .i64 ta, .slice ba ma da] 26).put' (n := w.heap.size + 1) (by simp) [.int .i64 sb, .slice ab nb cb, .int .i64 tb, .slice bb mb db] 26).put' (n := w.heap.size + 1 + 1) (by simp) [.int .i64 0, .slice none 0 0, .int .i64 0, .slice none 0 0] 26)
  have Ha := Lib.hid ha
  have Ga := Lib.hid ga
  have Ua := Lib.hid ua
  have Va := Lib.hid va
  have Hb := Lib.hid hb
  have Gb := Lib.hid gb
  have Ub := Lib.hid ub
  have Vb := Lib.hid vb
  rcases ea : fRightB sa la ta ka with _ | _
  · have Ea := Lib.hid ea
    clear ha ga ua va hb gb ub vb hr ea
    go_enter Tryz.func27, Tryz.ntmps27
    go_wp2_with fail
    refine (rfright_any sa aa na ca la ta ba ma da ka _ (Ha.out.later S0.out.below) (Ga.out.later S0.out.below) Ua.out Va.out false Ea.out).mono ?_
    rintro e w1 ⟨rfl, hb⟩
    have S1 := Lib.hid (S0.out.later hb)
    clear hb S0
    obtain ⟨r0, r1, r2, r3⟩ := (S1.out.box _ List.mem_cons_self : Fb (w.heap.size + 1 + 1, 26, [.int .i64 0, .slice none 0 0, .int .i64 0, .slice none 0 0]) _).cells4
    obtain ⟨f0, f1, f2, f3⟩ := (S1.out.box _ List.mem_cons_self : Fb (w.heap.size + 1 + 1, 26, [.int .i64 0, .slice none 0 0, .int .i64 0, .slice none 0 0]) _).free4
    go_wp2_with fail
    have ZZ := Lib.hid (S1.out.set4 (pre := []) (.int .i64 0) (.slice none 0 0) (.int .i64 0) (.slice none 0 0))
    exact bodyPost_ret (v := .tuple #[.agg #[.int .i64 0, .slice none 0 0, .int .i64 0, .slice none 0 0], .int .i64 1]) (by simp [results, Tryz.results27, go_sem, r0, r1, r2, r3]) rfl ⟨rfl, ZZ.out.below⟩
  · have eb : fRightB sb lb tb kb = false := by rw [ea] at hr; simpa using hr
    have Ea := Lib.hid ea
    have Eb := Lib.hid eb
    clear ha ga ua va hb gb ub vb hr ea eb
    go_enter Tryz.func27, Tryz.ntmps27
    go_wp2_with fail
    refine (rfright_any sa aa na ca la ta ba ma da ka _ (Ha.out.later S0.out.below) (Ga.out.later S0.out.below) Ua.out Va.out true Ea.out).mono ?_
    rintro e w1 ⟨rfl, hb⟩
    have S1 := Lib.hid (S0.out.later hb)
    clear hb S0
    obtain ⟨q0, q1, q2, q3⟩ := (S1.out.box _ (List.mem_cons_of_mem _ List.mem_cons_self) : Fb (w.heap.size + 1, 26, [.int .i64 sb, .slice ab nb cb, .int .i64 tb, .slice bb mb db]) _).cells4
    go_wp2_with fail
    clear q0 q1 q2 q3
    refine (rfright_any sb ab nb cb lb tb bb mb db kb _ (Hb.out.later S1.out.below) (Gb.out.later S1.out.below) Ub.out Vb.out false Eb.out).mono ?_
    rintro e w2 ⟨rfl, hb⟩
    have S2 := Lib.hid (S1.out.later hb)
    clear hb S1
    obtain ⟨r0, r1, r2, r3⟩ := (S2.out.box _ List.mem_cons_self : Fb (w.heap.size + 1 + 1, 26, [.int .i64 0, .slice none 0 0, .int .i64 0, .slice none 0 0]) _).cells4
    obtain ⟨f0, f1, f2, f3⟩ := (S2.out.box _ List.mem_cons_self : Fb (w.heap.size + 1 + 1, 26, [.int .i64 0, .slice none 0 0, .int .i64 0, .slice none 0 0]) _).free4
    go_wp2_with fail
    have ZZ := Lib.hid (S2.out.set4 (pre := []) (.int .i64 0) (.slice none 0 0) (.int .i64 0) (.slice none 0 0))
    exact bodyPost_ret (v := .tuple #[.agg #[.int .i64 0, .slice none 0 0, .int .i64 0, .slice none 0 0], .int .i64 1]) (by simp [results, Tryz.results27, go_sem, r0, r1, r2, r3]) rfl ⟨rfl, ZZ.out.below⟩

set_option maxHeartbeats 2000000 in
theorem rfmax_bad (sa : Int) (aa : Option Addr) (na ca : Nat) (la : List Int) (ta : Int) (ba : Option Addr) (ma da : Nat) (ka : List Int) (sb : Int) (ab : Option Addr) (nb cb : Nat) (lb : List Int) (tb : Int) (bb : Option Addr) (mb db : Nat) (kb : List Int) (w : World) (ha : Ints w (.slice aa na ca) la) (ga : Ints w (.slice ba ma da) ka) (ua : la.length ≤ 100000) (va : ka.length ≤ 100000) (hb : Ints w (.slice ab nb cb) lb) (gb : Ints w (.slice bb mb db) kb) (ub : lb.length ≤ 100000) (vb : kb.length ≤ 100000) (hr : (fRightB sa la ta ka && fRightB sb lb tb kb) = false) :
    Calls Tryz.prog 29 #[.agg #[.int .i64 sa, .slice aa na ca, .int .i64 ta, .slice ba ma da], .agg #[.int .i64 sb, .slice ab nb cb, .int .i64 tb, .slice bb mb db]] w (FZE 1 w) := by
  have S0 := Lib.hid (((((Sf.start w)).put [.int .i64 sa, .slice aa na ca, .int .i64 ta, .slice ba ma da] 26).put' (n := w.heap.size + 1) (by simp) [.int .i64 sb, .slice ab nb cb, .int .i64 tb, .slice bb mb db] 26).put' (n := w.heap.size + 1 + 1) (by simp) [.int .i64 0, .slice none 0 0, .int .i64 0, .slice none 0 0] 26)
  have Ha := Lib.hid ha
  have Ga := Lib.hid ga
  have Ua := Lib.hid ua
  have Va := Lib.hid va
  have Hb := Lib.hid hb
  have Gb := Lib.hid gb
  have Ub := Lib.hid ub
  have Vb := Lib.hid vb
  rcases ea : fRightB sa la ta ka with _ | _
  · have Ea := Lib.hid ea
    clear ha ga ua va hb gb ub vb hr ea
    go_enter Tryz.func29, Tryz.ntmps29
    go_wp2_with fail
    refine (rfright_any sa aa na ca la ta ba ma da ka _ (Ha.out.later S0.out.below) (Ga.out.later S0.out.below) Ua.out Va.out false Ea.out).mono ?_
    rintro e w1 ⟨rfl, hb⟩
    have S1 := Lib.hid (S0.out.later hb)
    clear hb S0
    obtain ⟨r0, r1, r2, r3⟩ := (S1.out.box _ List.mem_cons_self : Fb (w.heap.size + 1 + 1, 26, [.int .i64 0, .slice none 0 0, .int .i64 0, .slice none 0 0]) _).cells4
    obtain ⟨f0, f1, f2, f3⟩ := (S1.out.box _ List.mem_cons_self : Fb (w.heap.size + 1 + 1, 26, [.int .i64 0, .slice none 0 0, .int .i64 0, .slice none 0 0]) _).free4
    go_wp2_with fail
    have ZZ := Lib.hid (S1.out.set4 (pre := []) (.int .i64 0) (.slice none 0 0) (.int .i64 0) (.slice none 0 0))
    exact bodyPost_ret (v := .tuple #[.agg #[.int .i64 0, .slice none 0 0, .int .i64 0, .slice none 0 0], .int .i64 1]) (by simp [results, Tryz.results29, go_sem, r0, r1, r2, r3]) rfl ⟨rfl, ZZ.out.below⟩
  · have eb : fRightB sb lb tb kb = false := by rw [ea] at hr; simpa using hr
    have Ea := Lib.hid ea
    have Eb := Lib.hid eb
    clear ha ga ua va hb gb ub vb hr ea eb
    go_enter Tryz.func29, Tryz.ntmps29
    go_wp2_with fail
    refine (rfright_any sa aa na ca la ta ba ma da ka _ (Ha.out.later S0.out.below) (Ga.out.later S0.out.below) Ua.out Va.out true Ea.out).mono ?_
    rintro e w1 ⟨rfl, hb⟩
    have S1 := Lib.hid (S0.out.later hb)
    clear hb S0
    obtain ⟨q0, q1, q2, q3⟩ := (S1.out.box _ (List.mem_cons_of_mem _ List.mem_cons_self) : Fb (w.heap.size + 1, 26, [.int .i64 sb, .slice ab nb cb, .int .i64 tb, .slice bb mb db]) _).cells4
    go_wp2_with fail
    clear q0 q1 q2 q3
    refine (rfright_any sb ab nb cb lb tb bb mb db kb _ (Hb.out.later S1.out.below) (Gb.out.later S1.out.below) Ub.out Vb.out false Eb.out).mono ?_
    rintro e w2 ⟨rfl, hb⟩
    have S2 := Lib.hid (S1.out.later hb)
    clear hb S1
    obtain ⟨r0, r1, r2, r3⟩ := (S2.out.box _ List.mem_cons_self : Fb (w.heap.size + 1 + 1, 26, [.int .i64 0, .slice none 0 0, .int .i64 0, .slice none 0 0]) _).cells4
    obtain ⟨f0, f1, f2, f3⟩ := (S2.out.box _ List.mem_cons_self : Fb (w.heap.size + 1 + 1, 26, [.int .i64 0, .slice none 0 0, .int .i64 0, .slice none 0 0]) _).free4
    go_wp2_with fail
    have ZZ := Lib.hid (S2.out.set4 (pre := []) (.int .i64 0) (.slice none 0 0) (.int .i64 0) (.slice none 0 0))
    exact bodyPost_ret (v := .tuple #[.agg #[.int .i64 0, .slice none 0 0, .int .i64 0, .slice none 0 0], .int .i64 1]) (by simp [results, Tryz.results29, go_sem, r0, r1, r2, r3]) rfl ⟨rfl, ZZ.out.below⟩

set_option maxHeartbeats 1000000 in
theorem fneg_bad (sa : Int) (aa : Option Addr) (na ca : Nat) (la : List Int) (ta : Int) (ba : Option Addr) (ma da : Nat) (ka : List Int) (w : World) (ha : Ints w (.slice aa na ca) la) (ga : Ints w (.slice ba ma da) ka) (ua : la.length ≤ 100000) (va : ka.length ≤ 100000) (hr : fRightB sa la ta ka = false) :
    Calls Tryz.prog 30 #[.agg #[.int .i64 sa, .slice aa na ca, .int .i64 ta, .slice ba ma da]] w fun e w' => e = .returned (.agg #[.int .i64 0, .slice none 0 0, .int .i64 0, .slice none 0 0]) ∧ RowKit.Below w.heap.size w w' := by
  have S0 := Lib.hid ((((Sf.start w)).put [.int .i64 sa, .slice aa na ca, .int .i64 ta, .slice ba ma da] 26).put' (n := w.heap.size + 1) (by simp) [.int .i64 0, .slice none 0 0, .int .i64 0, .slice none 0 0] 26)
  have Ha := Lib.hid ha
  have Ga := Lib.hid ga
  have Ua := Lib.hid ua
  have Va := Lib.hid va
  have Ea := Lib.hid hr
  clear ha ga ua va hr
  go_enter Tryz.func30, Tryz.ntmps30
  go_wp2_with fail
  refine (fright_any sa aa na ca la ta ba ma da ka _ (Ha.out.later S0.out.below) (Ga.out.later S0.out.below) Ua.out Va.out false Ea.out).mono ?_
  rintro e w1 ⟨rfl, hb⟩
  have S1 := Lib.hid (S0.out.later hb)
  clear hb S0
  obtain ⟨r0, r1, r2, r3⟩ := (S1.out.box _ List.mem_cons_self : Fb (w.heap.size + 1, 26, [.int .i64 0, .slice none 0 0, .int .i64 0, .slice none 0 0]) _).cells4
  obtain ⟨f0, f1, f2, f3⟩ := (S1.out.box _ List.mem_cons_self : Fb (w.heap.size + 1, 26, [.int .i64 0, .slice none 0 0, .int .i64 0, .slice none 0 0]) _).free4
  go_wp2_with fail
  have ZZ := Lib.hid (S1.out.set4 (pre := []) (.int .i64 0) (.slice none 0 0) (.int .i64 0) (.slice none 0 0))
  exact bodyPost_ret (v := .agg #[.int .i64 0, .slice none 0 0, .int .i64 0, .slice none 0 0]) (by simp [results, Tryz.results30, go_sem, r0, r1, r2, r3]) rfl ⟨rfl, ZZ.out.below⟩

set_option maxHeartbeats 1000000 in
theorem rfneg_bad (sa : Int) (aa : Option Addr) (na ca : Nat) (la : List Int) (ta : Int) (ba : Option Addr) (ma da : Nat) (ka : List Int) (w : World) (ha : Ints w (.slice aa na ca) la) (ga : Ints w (.slice ba ma da) ka) (ua : la.length ≤ 100000) (va : ka.length ≤ 100000) (hr : fRightB sa la ta ka = false) :
    Calls Tryz.prog 31 #[.agg #[.int .i64 sa, .slice aa na ca, .int .i64 ta, .slice ba ma da]] w fun e w' => e = .returned (.agg #[.int .i64 0, .slice none 0 0, .int .i64 0, .slice none 0 0]) ∧ RowKit.Below w.heap.size w w' := by
  have S0 := Lib.hid ((((Sf.start w)).put [.int .i64 sa, .slice aa na ca, .int .i64 ta, .slice ba ma da] 26).put' (n := w.heap.size + 1) (by simp) [.int .i64 0, .slice none 0 0, .int .i64 0, .slice none 0 0] 26)
  have Ha := Lib.hid ha
  have Ga := Lib.hid ga
  have Ua := Lib.hid ua
  have Va := Lib.hid va
  have Ea := Lib.hid hr
  clear ha ga ua va hr
  go_enter Tryz.func31, Tryz.ntmps31
  go_wp2_with fail
  refine (rfright_any sa aa na ca la ta ba ma da ka _ (Ha.out.later S0.out.below) (Ga.out.later S0.out.below) Ua.out Va.out false Ea.out).mono ?_
  rintro e w1 ⟨rfl, hb⟩
  have S1 := Lib.hid (S0.out.later hb)
  clear hb S0
  obtain ⟨r0, r1, r2, r3⟩ := (S1.out.box _ List.mem_cons_self : Fb (w.heap.size + 1, 26, [.int .i64 0, .slice none 0 0, .int .i64 0, .slice none 0 0]) _).cells4
  obtain ⟨f0, f1, f2, f3⟩ := (S1.out.box _ List.mem_cons_self : Fb (w.heap.size + 1, 26, [.int .i64 0, .slice none 0 0, .int .i64 0, .slice none 0 0]) _).free4
  go_wp2_with fail
  have ZZ := Lib.hid (S1.out.set4 (pre := []) (.int .i64 0) (.slice none 0 0) (.int .i64 0) (.slice none 0 0))
  exact bodyPost_ret (v := .agg #[.int .i64 0, .slice none 0 0, .int .i64 0, .slice none 0 0]) (by simp [results, Tryz.results31, go_sem, r0, r1, r2, r3]) rfl ⟨rfl, ZZ.out.below⟩

set_option maxHeartbeats 1000000 in
theorem fsign_bad (sa : Int) (aa : Option Addr) (na ca : Nat) (la : List Int) (ta : Int) (ba : Option Addr) (ma da : Nat) (ka : List Int) (w : World) (ha : Ints w (.slice aa na ca) la) (ga : Ints w (.slice ba ma da) ka) (ua : la.length ≤ 100000) (va : ka.length ≤ 100000) (hr : fRightB sa la ta ka = false) :
    Calls Tryz.prog 32 #[.agg #[.int .i64 sa, .slice aa na ca, .int .i64 ta, .slice ba ma da]] w fun e w' => e = .returned (.int .i64 0) ∧ RowKit.Below w.heap.size w w' := by
  have S0 := Lib.hid (((Sf.start w)).put [.int .i64 sa, .slice aa na ca, .int .i64 ta, .slice ba ma da] 26)
  have Ha := Lib.hid ha
  have Ga := Lib.hid ga
  have Ua := Lib.hid ua
  have Va := Lib.hid va
  have Ea := Lib.hid hr
  clear ha ga ua va hr
  go_enter Tryz.func32, Tryz.ntmps32
  go_wp2_with fail
  refine (fright_any sa aa na ca la ta ba ma da ka _ (Ha.out.later S0.out.below) (Ga.out.later S0.out.below) Ua.out Va.out false Ea.out).mono ?_
  rintro e w1 ⟨rfl, hb⟩
  have S1 := Lib.hid (S0.out.later hb)
  clear hb S0
  go_wp2_with fail
  go_ret
  exact ⟨rfl, S1.out.below⟩

set_option maxHeartbeats 1000000 in
theorem rfsign_bad (sa : Int) (aa : Option Addr) (na ca : Nat) (la : List Int) (ta : Int) (ba : Option Addr) (ma da : Nat) (ka : List Int) (w : World) (ha : Ints w (.slice aa na ca) la) (ga : Ints w (.slice ba ma da) ka) (ua : la.length ≤ 100000) (va : ka.length ≤ 100000) (hr : fRightB sa la ta ka = false) :
    Calls Tryz.prog 33 #[.agg #[.int .i64 sa, .slice aa na ca, .int .i64 ta, .slice ba ma da]] w fun e w' => e = .returned (.int .i64 0) ∧ RowKit.Below w.heap.size w w' := by
  have S0 := Lib.hid (((Sf.start w)).put [.int .i64 sa, .slice aa na ca, .int .i64 ta, .slice ba ma da] 26)
  have Ha := Lib.hid ha
  have Ga := Lib.hid ga
  have Ua := Lib.hid ua
  have Va := Lib.hid va
  have Ea := Lib.hid hr
  clear ha ga ua va hr
  go_enter Tryz.func33, Tryz.ntmps33
  go_wp2_with fail
  refine (rfright_any sa aa na ca la ta ba ma da ka _ (Ha.out.later S0.out.below) (Ga.out.later S0.out.below) Ua.out Va.out false Ea.out).mono ?_
  rintro e w1 ⟨rfl, hb⟩
  have S1 := Lib.hid (S0.out.later hb)
  clear hb S0
  go_wp2_with fail
  go_ret
  exact ⟨rfl, S1.out.below⟩

set_option maxHeartbeats 1000000 in
theorem ffloor_bad (sa : Int) (aa : Option Addr) (na ca : Nat) (la : List Int) (ta : Int) (ba : Option Addr) (ma da : Nat) (ka : List Int) (w : World) (ha : Ints w (.slice aa na ca) la) (ga : Ints w (.slice ba ma da) ka) (ua : la.length ≤ 100000) (va : ka.length ≤ 100000) (hr : fRightB sa la ta ka = false) :
    Calls Tryz.prog 39 #[.agg #[.int .i64 sa, .slice aa na ca, .int .i64 ta, .slice ba ma da]] w fun e w' => e = .returned (.agg #[.int .i64 0, .slice none 0 0]) ∧ RowKit.Below w.heap.size w w' := by
  have S0 := Lib.hid ((((Sf.start w)).put [.int .i64 sa, .slice aa na ca, .int .i64 ta, .slice ba ma da] 26).put' (n := w.heap.size + 1) (by simp) [.int .i64 0, .slice none 0 0] 24)
  have Ha := Lib.hid ha
  have Ga := Lib.hid ga
  have Ua := Lib.hid ua
  have Va := Lib.hid va
  have Ea := Lib.hid hr
  clear ha ga ua va hr
  go_enter Tryz.func39, Tryz.ntmps39
  go_wp2_with fail
  refine (fright_any sa aa na ca la ta ba ma da ka _ (Ha.out.later S0.out.below) (Ga.out.later S0.out.below) Ua.out Va.out false Ea.out).mono ?_
  rintro e w1 ⟨rfl, hb⟩
  have S1 := Lib.hid (S0.out.later hb)
  clear hb S0
  obtain ⟨r0, r1⟩ := (S1.out.box _ List.mem_cons_self : Fb (w.heap.size + 1, 24, [.int .i64 0, .slice none 0 0]) _).cells2
  obtain ⟨f0, f1⟩ := (S1.out.box _ List.mem_cons_self : Fb (w.heap.size + 1, 24, [.int .i64 0, .slice none 0 0]) _).free2
  go_wp2_with fail
  have ZZ := Lib.hid (S1.out.set2 (pre := []) (.int .i64 0) (.slice none 0 0))
  exact bodyPost_ret (v := .agg #[.int .i64 0, .slice none 0 0]) (by simp [results, Tryz.results39, go_sem, r0, r1]) rfl ⟨rfl, ZZ.out.below⟩

set_option maxHeartbeats 1000000 in
theorem rffloor_bad (sa : Int) (aa : Option Addr) (na ca : Nat) (la : List Int) (ta : Int) (ba : Option Addr) (ma da : Nat) (ka : List Int) (w : World) (ha : Ints w (.slice aa na ca) la) (ga : Ints w (.slice ba ma da) ka) (ua : la.length ≤ 100000) (va : ka.length ≤ 100000) (hr : fRightB sa la ta ka = false) :
    Calls Tryz.prog 40 #[.agg #[.int .i64 sa, .slice aa na ca, .int .i64 ta, .slice ba ma da]] w fun e w' => e = .returned (.agg #[.int .i64 0, .slice none 0 0]) ∧ RowKit.Below w.heap.size w w' := by
  have S0 := Lib.hid ((((Sf.start w)).put [.int .i64 sa, .slice aa na ca, .int .i64 ta, .slice ba ma da] 26).put' (n := w.heap.size + 1) (by simp) [.int .i64 0, .slice none 0 0] 24)
  have Ha := Lib.hid ha
  have Ga := Lib.hid ga
  have Ua := Lib.hid ua
  have Va := Lib.hid va
  have Ea := Lib.hid hr
  clear ha ga ua va hr
  go_enter Tryz.func40, Tryz.ntmps40
  go_wp2_with fail
  refine (rfright_any sa aa na ca la ta ba ma da ka _ (Ha.out.later S0.out.below) (Ga.out.later S0.out.below) Ua.out Va.out false Ea.out).mono ?_
  rintro e w1 ⟨rfl, hb⟩
  have S1 := Lib.hid (S0.out.later hb)
  clear hb S0
  obtain ⟨r0, r1⟩ := (S1.out.box _ List.mem_cons_self : Fb (w.heap.size + 1, 24, [.int .i64 0, .slice none 0 0]) _).cells2
  obtain ⟨f0, f1⟩ := (S1.out.box _ List.mem_cons_self : Fb (w.heap.size + 1, 24, [.int .i64 0, .slice none 0 0]) _).free2
  go_wp2_with fail
  have ZZ := Lib.hid (S1.out.set2 (pre := []) (.int .i64 0) (.slice none 0 0))
  exact bodyPost_ret (v := .agg #[.int .i64 0, .slice none 0 0]) (by simp [results, Tryz.results40, go_sem, r0, r1]) rfl ⟨rfl, ZZ.out.below⟩

set_option maxHeartbeats 1000000 in
theorem ftext_bad (sa : Int) (aa : Option Addr) (na ca : Nat) (la : List Int) (ta : Int) (ba : Option Addr) (ma da : Nat) (ka : List Int) (w : World) (ha : Ints w (.slice aa na ca) la) (ga : Ints w (.slice ba ma da) ka) (ua : la.length ≤ 100000) (va : ka.length ≤ 100000) (hr : fRightB sa la ta ka = false) :
    Calls Tryz.prog 36 #[.agg #[.int .i64 sa, .slice aa na ca, .int .i64 ta, .slice ba ma da]] w fun e w' => e = .returned (.string ⟨#[]⟩) ∧ RowKit.Below w.heap.size w w' := by
  have S0 := Lib.hid (((Sf.start w)).put [.int .i64 sa, .slice aa na ca, .int .i64 ta, .slice ba ma da] 26)
  have Ha := Lib.hid ha
  have Ga := Lib.hid ga
  have Ua := Lib.hid ua
  have Va := Lib.hid va
  have Ea := Lib.hid hr
  clear ha ga ua va hr
  go_enter Tryz.func36, Tryz.ntmps36
  go_wp2_with fail
  refine (fright_any sa aa na ca la ta ba ma da ka _ (Ha.out.later S0.out.below) (Ga.out.later S0.out.below) Ua.out Va.out false Ea.out).mono ?_
  rintro e w1 ⟨rfl, hb⟩
  have S1 := Lib.hid (S0.out.later hb)
  clear hb S0
  go_wp2_with fail
  go_ret
  exact ⟨rfl, S1.out.below⟩

set_option maxHeartbeats 1000000 in
theorem rftext_bad (sa : Int) (aa : Option Addr) (na ca : Nat) (la : List Int) (ta : Int) (ba : Option Addr) (ma da : Nat) (ka : List Int) (w : World) (ha : Ints w (.slice aa na ca) la) (ga : Ints w (.slice ba ma da) ka) (ua : la.length ≤ 100000) (va : ka.length ≤ 100000) (hr : fRightB sa la ta ka = false) :
    Calls Tryz.prog 37 #[.agg #[.int .i64 sa, .slice aa na ca, .int .i64 ta, .slice ba ma da]] w fun e w' => e = .returned (.string ⟨#[]⟩) ∧ RowKit.Below w.heap.size w w' := by
  have S0 := Lib.hid (((Sf.start w)).put [.int .i64 sa, .slice aa na ca, .int .i64 ta, .slice ba ma da] 26)
  have Ha := Lib.hid ha
  have Ga := Lib.hid ga
  have Ua := Lib.hid ua
  have Va := Lib.hid va
  have Ea := Lib.hid hr
  clear ha ga ua va hr
  go_enter Tryz.func37, Tryz.ntmps37
  go_wp2_with fail
  refine (rfright_any sa aa na ca la ta ba ma da ka _ (Ha.out.later S0.out.below) (Ga.out.later S0.out.below) Ua.out Va.out false Ea.out).mono ?_
  rintro e w1 ⟨rfl, hb⟩
  have S1 := Lib.hid (S0.out.later hb)
  clear hb S0
  go_wp2_with fail
  go_ret
  exact ⟨rfl, S1.out.below⟩

set_option maxHeartbeats 2000000 in
theorem fnew_bad (sp : Int) (ap : Option Addr) (np cp : Nat) (lp : List Int) (sq : Int) (aq : Option Addr) (nq cq : Nat) (lq : List Int) (w : World) (hp : Ints w (.slice ap np cp) lp) (hq : Ints w (.slice aq nq cq) lq) (hr : (rightB sp lp && rightB sq lq) = false) : Calls Tryz.prog 19 #[.agg #[.int .i64 sp, .slice ap np cp], .agg #[.int .i64 sq, .slice aq nq cq]] w (FZE 1 w) := by
  have S0 := Lib.hid (((((Sf.start w)).put [.int .i64 sp, .slice ap np cp] 24).put' (n := w.heap.size + 1) (by simp) [.int .i64 sq, .slice aq nq cq] 24).put' (n := w.heap.size + 1 + 1) (by simp) [.int .i64 0, .slice none 0 0, .int .i64 0, .slice none 0 0] 26)
  have HP : Hid (Arg w (.agg #[.int .i64 sp, .slice ap np cp]) sp lp) := ⟨_, rfl, hp⟩
  have HQ : Hid (Arg w (.agg #[.int .i64 sq, .slice aq nq cq]) sq lq) := ⟨_, rfl, hq⟩
  have HR := Lib.hid hr
  clear hp hq hr
  go_enter Tryz.func19, Tryz.ntmps19
  go_wp2_with fail
  refine ((gcd_bad _ _ sp sq lp lq _ (HP.out.later S0.out.below) (HQ.out.later S0.out.below) HR.out).mono fun _ _ h => h.bve).mono ?_
  rintro e w1 ⟨s1, a1, n1, c1, rfl, hn, hb, hf⟩
  have S1 := Lib.hid ((S0.out.ret hb hn.2 hf).put [.int .i64 s1, .slice a1 n1 c1] 24)
  clear hn hb hf S0
  obtain ⟨r0, r1, r2, r3⟩ := (S1.out.box _ (List.mem_cons_of_mem _ List.mem_cons_self) : Fb (w.heap.size + 1 + 1, 26, [.int .i64 0, .slice none 0 0, .int .i64 0, .slice none 0 0]) _).cells4
  obtain ⟨f0, f1, f2, f3⟩ := (S1.out.box _ (List.mem_cons_of_mem _ List.mem_cons_self) : Fb (w.heap.size + 1 + 1, 26, [.int .i64 0, .slice none 0 0, .int .i64 0, .slice none 0 0]) _).free4
  go_wp2_with fail
  have ZZ := Lib.hid (S1.out.set4 (pre := [_]) (.int .i64 0) (.slice none 0 0) (.int .i64 0) (.slice none 0 0))
  exact bodyPost_ret (v := .tuple #[.agg #[.int .i64 0, .slice none 0 0, .int .i64 0, .slice none 0 0], .int .i64 1]) (by simp [results, Tryz.results19, go_sem, r0, r1, r2, r3]) rfl ⟨rfl, ZZ.out.below⟩

set_option maxHeartbeats 2000000 in
theorem rfnew_bad (sp : Int) (ap : Option Addr) (np cp : Nat) (lp : List Int) (sq : Int) (aq : Option Addr) (nq cq : Nat) (lq : List Int) (w : World) (hp : Ints w (.slice ap np cp) lp) (hq : Ints w (.slice aq nq cq) lq) (hr : (rightB sp lp && rightB sq lq) = false) : Calls Tryz.prog 20 #[.agg #[.int .i64 sp, .slice ap np cp], .agg #[.int .i64 sq, .slice aq nq cq]] w (FZE 1 w) := by
  have S0 := Lib.hid (((((Sf.start w)).put [.int .i64 sp, .slice ap np cp] 24).put' (n := w.heap.size + 1) (by simp) [.int .i64 sq, .slice aq nq cq] 24).put' (n := w.heap.size + 1 + 1) (by simp) [.int .i64 0, .slice none 0 0, .int .i64 0, .slice none 0 0] 26)
  have HP : Hid (Arg w (.agg #[.int .i64 sp, .slice ap np cp]) sp lp) := ⟨_, rfl, hp⟩
  have HQ : Hid (Arg w (.agg #[.int .i64 sq, .slice aq nq cq]) sq lq) := ⟨_, rfl, hq⟩
  clear hp hq
  rcases ea : rightB sp lp with _ | _
  · have Ea := Lib.hid ea
    clear hr ea
    go_enter Tryz.func20, Tryz.ntmps20
    go_wp2_with fail
    refine (rright_b (HP.out.later S0.out.below) Ea.out).mono ?_
    rintro e w1 ⟨rfl, hb⟩
    have S1 := Lib.hid (S0.out.later hb)
    clear hb S0
    obtain ⟨r0, r1, r2, r3⟩ := (S1.out.box _ List.mem_cons_self : Fb (w.heap.size + 1 + 1, 26, [.int .i64 0, .slice none 0 0, .int .i64 0, .slice none 0 0]) _).cells4
    obtain ⟨f0, f1, f2, f3⟩ := (S1.out.box _ List.mem_cons_self : Fb (w.heap.size + 1 + 1, 26, [.int .i64 0, .slice none 0 0, .int .i64 0, .slice none 0 0]) _).free4
    go_wp2_with fail
    have ZZ := Lib.hid (S1.out.set4 (pre := []) (.int .i64 0) (.slice none 0 0) (.int .i64 0) (.slice none 0 0))
    exact bodyPost_ret (v := .tuple #[.agg #[.int .i64 0, .slice none 0 0, .int .i64 0, .slice none 0 0], .int .i64 1]) (by simp [results, Tryz.results20, go_sem, r0, r1, r2, r3]) rfl ⟨rfl, ZZ.out.below⟩
  · have eb : rightB sq lq = false := by rw [ea] at hr; simpa using hr
    have Ea := Lib.hid ea
    have Eb := Lib.hid eb
    clear hr ea eb
    go_enter Tryz.func20, Tryz.ntmps20
    go_wp2_with fail
    refine (rright_b (HP.out.later S0.out.below) Ea.out).mono ?_
    rintro e w1 ⟨rfl, hb⟩
    have S1 := Lib.hid (S0.out.later hb)
    clear hb S0
    obtain ⟨q0, q1⟩ := (S1.out.box _ (List.mem_cons_of_mem _ List.mem_cons_self) : Fb (w.heap.size + 1, 24, [.int .i64 sq, .slice aq nq cq]) _).cells2
    go_wp2_with fail
    clear q0 q1
    refine (rright_b (HQ.out.later S1.out.below) Eb.out).mono ?_
    rintro e w2 ⟨rfl, hb⟩
    have S2 := Lib.hid (S1.out.later hb)
    clear hb S1
    obtain ⟨r0, r1, r2, r3⟩ := (S2.out.box _ List.mem_cons_self : Fb (w.heap.size + 1 + 1, 26, [.int .i64 0, .slice none 0 0, .int .i64 0, .slice none 0 0]) _).cells4
    obtain ⟨f0, f1, f2, f3⟩ := (S2.out.box _ List.mem_cons_self : Fb (w.heap.size + 1 + 1, 26, [.int .i64 0, .slice none 0 0, .int .i64 0, .slice none 0 0]) _).free4
    go_wp2_with fail
    have ZZ := Lib.hid (S2.out.set4 (pre := []) (.int .i64 0) (.slice none 0 0) (.int .i64 0) (.slice none 0 0))
    exact bodyPost_ret (v := .tuple #[.agg #[.int .i64 0, .slice none 0 0, .int .i64 0, .slice none 0 0], .int .i64 1]) (by simp [results, Tryz.results20, go_sem, r0, r1, r2, r3]) rfl ⟨rfl, ZZ.out.below⟩

end Go.Proofs.YtnddickcnfodfaaGreatDoor.Bi
