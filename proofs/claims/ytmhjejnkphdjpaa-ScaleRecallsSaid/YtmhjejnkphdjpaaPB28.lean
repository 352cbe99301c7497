/- The examples of the document, as the laws of scale look at them. -/
import Derived.Test.YtmhjejnkphdjpaaPB27
set_option maxRecDepth 100000
namespace Go.Proofs.Ytmhjejnkphdjpaa.Sc
open Go.RowKit Bi

def c0 : Ct := ⟨2, 10, 100, 50, 2, 3⟩
theorem low_0 : lowR c0 10000 10 = ((9930 : Int) : Rat) := by decide +kernel
theorem high_0 : highR c0 10000 10 = ((10070 : Int) : Rat) := by decide +kernel
theorem si_0 {w : World} {b : Nat} {p q : Rat} (h : Cs w (some ⟨b, 0, none⟩) [c0]) (hp : ((9930 : Int) : Rat) = p) (hq : ((10070 : Int) : Rat) = q) : Calls Try.prog 14 #[.slice (some ⟨b, 0, none⟩) 1 1, .slice none 0 0, .int .i64 2, .int .i64 10000, .int .i64 10] w (It p q w) := by
  subst hp hq
  have := ivl_some (cap := 1) (cap2 := 0) (s := 2) (r := 10000) (d := 10) (i := 0) (c := c0) h rfl (by decide) (Rs.nil w none) rfl (by decide) (by rfl) (by rfl) (by rfl)
  rwa [low_0, high_0] at this
theorem low_1 : lowR c0 10000 20 = ((9900 : Int) : Rat) := by decide +kernel
theorem high_1 : highR c0 10000 20 = ((10100 : Int) : Rat) := by decide +kernel
theorem si_1 {w : World} {b : Nat} {p q : Rat} (h : Cs w (some ⟨b, 0, none⟩) [c0]) {g : Nat} (hr : Rs w (some ⟨g, 0, none⟩) [(2, 21)]) (hp : ((9900 : Int) : Rat) = p) (hq : ((10100 : Int) : Rat) = q) : Calls Try.prog 14 #[.slice (some ⟨b, 0, none⟩) 1 1, .slice (some ⟨g, 0, none⟩) 1 1, .int .i64 2, .int .i64 10000, .int .i64 20] w (It p q w) := by
  subst hp hq
  have := ivl_some (cap := 1) (cap2 := 1) (s := 2) (r := 10000) (d := 20) (i := 0) (c := c0) h rfl (by decide) hr rfl (by decide) (by rfl) (by rfl) (by rfl)
  rwa [low_1, high_1] at this
theorem low_2 : lowR c0 30 20 = ((0 : Int) : Rat) := by decide +kernel
theorem high_2 : highR c0 30 20 = (Rat.divInt 5503 50) := by decide +kernel
theorem si_2 {w : World} {b : Nat} {p q : Rat} (h : Cs w (some ⟨b, 0, none⟩) [c0]) (hp : ((0 : Int) : Rat) = p) (hq : (Rat.divInt 5503 50) = q) : Calls Try.prog 14 #[.slice (some ⟨b, 0, none⟩) 1 1, .slice none 0 0, .int .i64 2, .int .i64 30, .int .i64 20] w (It p q w) := by
  subst hp hq
  have := ivl_some (cap := 1) (cap2 := 0) (s := 2) (r := 30) (d := 20) (i := 0) (c := c0) h rfl (by decide) (Rs.nil w none) rfl (by decide) (by rfl) (by rfl) (by rfl)
  rwa [low_2, high_2] at this
theorem si_3 {w : World} {b : Nat} (h : Cs w (some ⟨b, 0, none⟩) [c0]) : Calls Try.prog 14 #[.slice (some ⟨b, 0, none⟩) 1 1, .slice none 0 0, .int .i64 2, .int .i64 10000, .int .i64 101] w (Iz w) :=
  ivl_nf (cap := 1) (cap2 := 0) (s := 2) (r := 10000) (d := 101) h rfl (by decide) (Rs.nil w none) rfl (by decide) (by rfl)
theorem si_4 {w : World} {b g : Nat} (h : Cs w (some ⟨b, 0, none⟩) [c0]) (hr : Rs w (some ⟨g, 0, none⟩) [(2, 20)]) : Calls Try.prog 14 #[.slice (some ⟨b, 0, none⟩) 1 1, .slice (some ⟨g, 0, none⟩) 1 1, .int .i64 2, .int .i64 10000, .int .i64 20] w (Iz w) :=
  ivl_rec (cap := 1) (cap2 := 1) (s := 2) (r := 10000) (d := 20) h rfl (by decide) hr rfl (by decide) (by rfl) (by rfl)
theorem sfind {w : World} {a : Option Addr} {cap : Nat} (h : Cs w a [c0, c0]) : Calls Try.prog 10 #[.slice a 2 cap, .int .i64 2, .int .i64 50] w (Gv (.tuple #[.int .i64 1, .bool true]) w) :=
  find_any (cap := cap) (s := 2) (d := 50) (i := 1) h rfl (by decide) (by rfl) (by rfl)
theorem srec {w : World} : Calls Try.prog 19 #[.slice none 0 0, .int .i64 2, .int .i64 20] w (Gv (.bool false) w) :=
  recalled_any (cap := 0) (s := 2) (d := 20) (Rs.nil w none) rfl (by decide) (by rfl)
theorem sright {w : World} : Calls Try.prog 17 #[.agg #[.int .i64 2, .int .i64 10, .int .i64 100, .int .i64 50, .int .i64 2, .int .i64 3]] w (Gv (.bool true) w) := right_f (by rfl)
theorem OwnR.one {W : World} {b : Nat} {c : Ct} (h : Fb (b, 25, [.int .i64 c.sc, .int .i64 c.fr, .int .i64 c.un, .int .i64 c.ut, .int .i64 c.pm, .int .i64 c.dr]) W) : OwnR W 25 6 (.slice (some ⟨b, 0, none⟩) 1 1) [c.row] :=
  ⟨by rw [flat_len], .inr ⟨b, 1, #[.int .i64 c.sc, .int .i64 c.fr, .int .i64 c.un, .int .i64 c.ut, .int .i64 c.pm, .int .i64 c.dr], rfl, h, Nat.le_refl _, by decide, by unfold maxLen; omega, rfl, rfl⟩⟩
/-- append onto a slice that is full. -/
theorem own_full {P : Program} {w : World} {e size n g cap : Nat} {xs : List Value} {t tx ty : TypeId} {i : TypeInfo} {z x : Value} {m bytes : Nat} {news : List Value} (ht : P.underlying t = some (.slice e)) (hi : P.info? e = some i) (hz : i.zero = some z)
    (hsize : i.size = size) (hby : i.bytes = bytes) (hzs : z.cells.size = size) (h : Dm.Own w e size (.slice (some ⟨g, 0, none⟩) n cap) n xs) (hc0 : 0 < cap) (hfull : cap < n + m) (hs : Src P size tx x m news w) (h63 : n + m ≤ maxLen) (hbytes : (n + m) * bytes ≤ 140737488355328) :
    ∃ v' w', (Builtin.append_ #[t, tx] ty #[.slice (some ⟨g, 0, none⟩) n cap, x]).run P w = .ok v' w' ∧ Dm.Own w' e size v' (n + m) (xs ++ news) ∧ RowKit.Below w.heap.size w w' := by
  subst hsize
  subst hby
  have hsmall : n + m ≤ 9223372036854775807 := by simp only [maxLen] at h63; omega
  have hlen : (xs ++ news).length = (n + m) * i.size := by rw [List.length_append, h.1, hs.newsLen, Nat.add_mul]
  rcases h.2 with ⟨a, hv, hn⟩ | ⟨g', cap', cur, hv, hg, hnc, _, hcm, hcs, htake⟩
  · cases hv; omega
  · cases hv
    have hge := grownCap_ge w (n + m) cap e
    have hcm' : grownCap w (n + m) cap e ≤ maxLen := grownCap_le_maxLen w (n + m) cap e h63
    have hold : (Builtin.firstCells i.size n (.slice (some ⟨g, 0, none⟩) n cap)).run P w.drew = .ok xs.toArray w.drew := by
      refine run_firstCells_some w.drew i.size n ⟨g, 0, none⟩ n cap xs h.1 (fun j u hu => ?_)
      have hadd : (⟨g, 0, none⟩ : Addr).add j = ⟨g, j, none⟩ := by unfold Addr.add; split <;> simp_all
      rw [hadd]
      show w.cell? _ = _
      rw [cell_of_row w g j cur e (0, 0) hg]
      rw [← htake, List.getElem?_take] at hu
      split at hu
      · simpa using hu
      · cases hu
    have hr := run_append_grow_src w t tx ty e i z ht hi hz (some ⟨g, 0, none⟩) n cap xs hold x m news hs (by omega) (by omega) (growslice_fits (by omega) hbytes)
    refine ⟨_, _, hr, ⟨hlen, .inr ⟨w.heap.size, _, _, rfl, heap_alloc_new w.drew _, hge, by omega, hcm', ?_, ?_⟩⟩, ⟨rfl, rfl, rfl, by simp, fun k hk => Below.heap_alloc w.drew _ k hk⟩⟩
    · simp only [Array.size_append, List.size_toArray, size_zeroCells, hzs, hlen, ← Nat.add_mul]
      congr 1
      omega
    · simp only [Array.toList_append]
      rw [← hlen]
      exact List.take_left
theorem app_two {W : World} {b g : Nat} {c c' : Ct} (h : Fb (b, 25, [.int .i64 c.sc, .int .i64 c.fr, .int .i64 c.un, .int .i64 c.ut, .int .i64 c.pm, .int .i64 c.dr]) W) (h' : Fb (g, 25, [.int .i64 c'.sc, .int .i64 c'.fr, .int .i64 c'.un, .int .i64 c'.ut, .int .i64 c'.pm, .int .i64 c'.dr]) W) :
    ∃ a cap w', (∀ ty, (Builtin.append_ #[22, 22] ty #[.slice (some ⟨b, 0, none⟩) 1 1, .slice (some ⟨g, 0, none⟩) 1 1]).run Try.prog W = .ok (.slice a 2 cap) w') ∧ Cs w' a [c, c'] ∧ RowKit.Below W.heap.size W w' := by
  obtain ⟨i0, z, hi0, hz0, hzs, hsz, hby⟩ := info_parts3 infoC3
  have hs : Src Try.prog 6 22 (.slice (some ⟨g, 0, none⟩) 1 1) 1 (flat 6 [c'.row]) W := rec_src Try.underlying22 (by decide) (cap := 1) (OwnR.recs (cap := 1) (l := [c'.row]) (OwnR.one h')) (fun e => by cases e)
  obtain ⟨v', w', hr, g1, g2⟩ := own_full (P := Try.prog) (t := 22) (tx := 22) (ty := 0) Try.underlying22 hi0 hz0 hsz rfl hzs (OwnR.one h) (by decide) (by simp) hs (by unfold maxLen; simp) (by
    omega)
  obtain ⟨a, cap, rfl, _, _⟩ := g1.shape
  refine ⟨a, cap, w', fun ty => hr, ?_, g2⟩
  rw [← flat_app] at g1
  exact OwnR.recs (l := [c.row, c'.row]) g1

set_option maxHeartbeats 64000000 in
theorem sane_any {w : World} : Calls Try.prog 8 #[] w (Gv (.bool true) w) := by
  obtain ⟨QA, hQA⟩ : ∃ q, ((9930 : Int) : Rat) = q := ⟨_, rfl⟩
  have HQA := Lib.hid hQA
  clear hQA
  obtain ⟨QB, hQB⟩ : ∃ q, ((10070 : Int) : Rat) = q := ⟨_, rfl⟩
  have HQB := Lib.hid hQB
  clear hQB
  obtain ⟨QC, hQC⟩ : ∃ q, ((9900 : Int) : Rat) = q := ⟨_, rfl⟩
  have HQC := Lib.hid hQC
  clear hQC
  obtain ⟨QD, hQD⟩ : ∃ q, ((10100 : Int) : Rat) = q := ⟨_, rfl⟩
  have HQD := Lib.hid hQD
  clear hQD
  obtain ⟨QE, hQE⟩ : ∃ q, ((0 : Int) : Rat) = q := ⟨_, rfl⟩
  have HQE := Lib.hid hQE
  clear hQE
  obtain ⟨QW, hQW⟩ : ∃ q, (Rat.divInt 5503 50) = q := ⟨_, rfl⟩
  have HQW := Lib.hid hQW
  clear hQW
  have s0 := ((Sf.start w).put [.int .i64 2, .int .i64 10, .int .i64 100, .int .i64 50, .int .i64 2, .int .i64 3] 25)
  try simp only [World.size_alloc] at s0
  have S0 := Lib.hid s0
  clear s0
  go_enter Try.func8, Try.ntmps8
  go_wp2_with fail
  refine (si_0 (Cs.one (c := c0) (S0.out.box (w.heap.size, 25, [.int .i64 2, .int .i64 10, .int .i64 100, .int .i64 50, .int .i64 2, .int .i64 3]) mq0)) HQA.out HQB.out).mono ?_
  rintro e w1 ⟨sx1, ax1, nx1, cx1, bx1, mx1, dx1, sy1, ay1, ny1, cy1, by1, my1, dy1, rfl, hr, hq, hb, h1, h2, h3, h4⟩
  have E1 := Lib.hid hr.1.1
  have D1 := Lib.hid hq.1.1
  have R1 := Lib.hid (Sf.ret4 S0.out hb hr.1.2 h1 hr.2.2 h2 hq.1.2 h3 hq.2.2 h4)
  clear hr hq hb h1 h2 h3 h4
  have p1 := (R1.out.put [.int .i64 0, .slice none 0 0, .int .i64 0, .slice none 0 0] 34).put [.int .i64 0, .slice none 0 0, .int .i64 0, .slice none 0 0] 34
  try simp only [World.size_alloc] at p1
  have P1 := Lib.hid p1
  clear p1
  have Q1 := Lib.hid (Sf.row (pre := [(w1.heap.size + 1, 34, [.int .i64 0, .slice none 0 0, .int .i64 0, .slice none 0 0])]) P1.out [.int .i64 sx1, .slice ax1 nx1 cx1, .int .i64 1, .slice bx1 mx1 dx1])
  have T1 := Lib.hid (Sf.row (pre := []) Q1.out [.int .i64 sy1, .slice ay1 ny1 cy1, .int .i64 1, .slice by1 my1 dy1])
  obtain ⟨V1, hV1⟩ : ∃ V, ((((w1.alloc (.cells #[.int .i64 0, .slice none 0 0, .int .i64 0, .slice none 0 0] 34)).alloc (.cells #[.int .i64 0, .slice none 0 0, .int .i64 0, .slice none 0 0] 34)).setRow (w1.heap.size) #[.int .i64 sx1, .slice ax1 nx1 cx1, .int .i64 1, .slice bx1 mx1 dx1]).setRow (w1.heap.size + 1) #[.int .i64 sy1, .slice ay1 ny1 cy1, .int .i64 1, .slice by1 my1 dy1]) = V := ⟨_, rfl⟩
  have T1 : Hid (Sf w ([] ++ (w1.heap.size + 1, 34, [.int .i64 sy1, .slice ay1 ny1 cy1, .int .i64 1, .slice by1 my1 dy1]) :: (w1.heap.size, 34, [.int .i64 sx1, .slice ax1 nx1 cx1, .int .i64 1, .slice bx1 mx1 dx1]) :: [(w.heap.size, 25, [.int .i64 2, .int .i64 10, .int .i64 100, .int .i64 50, .int .i64 2, .int .i64 3])]) _ V1) := Lib.hid (by have := T1.out; rw [← hV1]; exact this)
  have HV1 := Lib.hid hV1
  clear hV1
  have P2 := Lib.hid (T1.out.put [.int .i64 2, .int .i64 21] 52)
  go_wp2_with (first | (refine wpList_store_row rfl _ _ _ rfl _ #[.int .i64 sy1, .slice ay1 ny1 cy1, .int .i64 1, .slice by1 my1 dy1] rfl rfl _ _ (Q1.out.box _ mq0) (by kernel_rfl) rfl (by simp [Value.oneCell']) ?_; rw [HV1.out]) | refine wpList_store_row rfl _ _ _ rfl _ #[.int .i64 sx1, .slice ax1 nx1 cx1, .int .i64 1, .slice bx1 mx1 dx1] rfl rfl _ _ (P1.out.box _ mq1) (by kernel_rfl) rfl (by simp [Value.oneCell']) ?_)
  refine (si_1 (Cs.one (c := c0) (P2.out.box (w.heap.size, 25, [.int .i64 2, .int .i64 10, .int .i64 100, .int .i64 50, .int .i64 2, .int .i64 3]) mq3)) (Rs.one (x := 2) (y := 21) (P2.out.box (V1.heap.size, 52, [.int .i64 2, .int .i64 21]) mq0)) HQC.out HQD.out).mono ?_
  rintro e w2 ⟨sx2, ax2, nx2, cx2, bx2, mx2, dx2, sy2, ay2, ny2, cy2, by2, my2, dy2, rfl, hr, hq, hb, h1, h2, h3, h4⟩
  have E2 := Lib.hid hr.1.1
  have D2 := Lib.hid hq.1.1
  have R2 := Lib.hid (Sf.ret4 P2.out hb hr.1.2 h1 hr.2.2 h2 hq.1.2 h3 hq.2.2 h4)
  clear hr hq hb h1 h2 h3 h4
  have p3 := (R2.out.put [.int .i64 0, .slice none 0 0, .int .i64 0, .slice none 0 0] 34).put [.int .i64 0, .slice none 0 0, .int .i64 0, .slice none 0 0] 34
  try simp only [World.size_alloc] at p3
  have P3 := Lib.hid p3
  clear p3
  have Q3 := Lib.hid (Sf.row (pre := [(w2.heap.size + 1, 34, [.int .i64 0, .slice none 0 0, .int .i64 0, .slice none 0 0])]) P3.out [.int .i64 sx2, .slice ax2 nx2 cx2, .int .i64 1, .slice bx2 mx2 dx2])
  have T3 := Lib.hid (Sf.row (pre := []) Q3.out [.int .i64 sy2, .slice ay2 ny2 cy2, .int .i64 1, .slice by2 my2 dy2])
  obtain ⟨V3, hV3⟩ : ∃ V, ((((w2.alloc (.cells #[.int .i64 0, .slice none 0 0, .int .i64 0, .slice none 0 0] 34)).alloc (.cells #[.int .i64 0, .slice none 0 0, .int .i64 0, .slice none 0 0] 34)).setRow (w2.heap.size) #[.int .i64 sx2, .slice ax2 nx2 cx2, .int .i64 1, .slice bx2 mx2 dx2]).setRow (w2.heap.size + 1) #[.int .i64 sy2, .slice ay2 ny2 cy2, .int .i64 1, .slice by2 my2 dy2]) = V := ⟨_, rfl⟩
  have T3 : Hid (Sf w ([] ++ (w2.heap.size + 1, 34, [.int .i64 sy2, .slice ay2 ny2 cy2, .int .i64 1, .slice by2 my2 dy2]) :: (w2.heap.size, 34, [.int .i64 sx2, .slice ax2 nx2 cx2, .int .i64 1, .slice bx2 mx2 dx2]) :: [(V1.heap.size, 52, [.int .i64 2, .int .i64 21]), (w1.heap.size + 1, 34, [.int .i64 sy1, .slice ay1 ny1 cy1, .int .i64 1, .slice by1 my1 dy1]), (w1.heap.size, 34, [.int .i64 sx1, .slice ax1 nx1 cx1, .int .i64 1, .slice bx1 mx1 dx1]), (w.heap.size, 25, [.int .i64 2, .int .i64 10, .int .i64 100, .int .i64 50, .int .i64 2, .int .i64 3])]) _ V3) := Lib.hid (by have := T3.out; rw [← hV3]; exact this)
  have HV3 := Lib.hid hV3
  clear hV3
  go_wp2_with (first | (refine wpList_store_row rfl _ _ _ rfl _ #[.int .i64 sy2, .slice ay2 ny2 cy2, .int .i64 1, .slice by2 my2 dy2] rfl rfl _ _ (Q3.out.box _ mq0) (by kernel_rfl) rfl (by simp [Value.oneCell']) ?_; rw [HV3.out]) | refine wpList_store_row rfl _ _ _ rfl _ #[.int .i64 sx2, .slice ax2 nx2 cx2, .int .i64 1, .slice bx2 mx2 dx2] rfl rfl _ _ (P3.out.box _ mq1) (by kernel_rfl) rfl (by simp [Value.oneCell']) ?_)
  refine (si_2 (Cs.one (c := c0) (T3.out.box (w.heap.size, 25, [.int .i64 2, .int .i64 10, .int .i64 100, .int .i64 50, .int .i64 2, .int .i64 3]) mq5)) HQE.out HQW.out).mono ?_
  rintro e w3 ⟨sx3, ax3, nx3, cx3, bx3, mx3, dx3, sy3, ay3, ny3, cy3, by3, my3, dy3, rfl, hr, hq, hb, h1, h2, h3, h4⟩
  have E3 := Lib.hid hr.1.1
  have D3 := Lib.hid hq.1.1
  have R3 := Lib.hid (Sf.ret4 T3.out hb hr.1.2 h1 hr.2.2 h2 hq.1.2 h3 hq.2.2 h4)
  clear hr hq hb h1 h2 h3 h4
  have p4 := (R3.out.put [.int .i64 0, .slice none 0 0, .int .i64 0, .slice none 0 0] 34).put [.int .i64 0, .slice none 0 0, .int .i64 0, .slice none 0 0] 34
  try simp only [World.size_alloc] at p4
  have P4 := Lib.hid p4
  clear p4
  have Q4 := Lib.hid (Sf.row (pre := [(w3.heap.size + 1, 34, [.int .i64 0, .slice none 0 0, .int .i64 0, .slice none 0 0])]) P4.out [.int .i64 sx3, .slice ax3 nx3 cx3, .int .i64 1, .slice bx3 mx3 dx3])
  have T4 := Lib.hid (Sf.row (pre := []) Q4.out [.int .i64 sy3, .slice ay3 ny3 cy3, .int .i64 1, .slice by3 my3 dy3])
  obtain ⟨V4, hV4⟩ : ∃ V, ((((w3.alloc (.cells #[.int .i64 0, .slice none 0 0, .int .i64 0, .slice none 0 0] 34)).alloc (.cells #[.int .i64 0, .slice none 0 0, .int .i64 0, .slice none 0 0] 34)).setRow (w3.heap.size) #[.int .i64 sx3, .slice ax3 nx3 cx3, .int .i64 1, .slice bx3 mx3 dx3]).setRow (w3.heap.size + 1) #[.int .i64 sy3, .slice ay3 ny3 cy3, .int .i64 1, .slice by3 my3 dy3]) = V := ⟨_, rfl⟩
  have T4 : Hid (Sf w ([] ++ (w3.heap.size + 1, 34, [.int .i64 sy3, .slice ay3 ny3 cy3, .int .i64 1, .slice by3 my3 dy3]) :: (w3.heap.size, 34, [.int .i64 sx3, .slice ax3 nx3 cx3, .int .i64 1, .slice bx3 mx3 dx3]) :: [(w2.heap.size + 1, 34, [.int .i64 sy2, .slice ay2 ny2 cy2, .int .i64 1, .slice by2 my2 dy2]), (w2.heap.size, 34, [.int .i64 sx2, .slice ax2 nx2 cx2, .int .i64 1, .slice bx2 mx2 dx2]), (V1.heap.size, 52, [.int .i64 2, .int .i64 21]), (w1.heap.size + 1, 34, [.int .i64 sy1, .slice ay1 ny1 cy1, .int .i64 1, .slice by1 my1 dy1]), (w1.heap.size, 34, [.int .i64 sx1, .slice ax1 nx1 cx1, .int .i64 1, .slice bx1 mx1 dx1]), (w.heap.size, 25, [.int .i64 2, .int .i64 10, .int .i64 100, .int .i64 50, .int .i64 2, .int .i64 3])]) _ V4) := Lib.hid (by have := T4.out; rw [← hV4]; exact this)
  have HV4 := Lib.hid hV4
  clear hV4
  go_wp2_with (first | (refine wpList_store_row rfl _ _ _ rfl _ #[.int .i64 sy3, .slice ay3 ny3 cy3, .int .i64 1, .slice by3 my3 dy3] rfl rfl _ _ (Q4.out.box _ mq0) (by kernel_rfl) rfl (by simp [Value.oneCell']) ?_; rw [HV4.out]) | refine wpList_store_row rfl _ _ _ rfl _ #[.int .i64 sx3, .slice ax3 nx3 cx3, .int .i64 1, .slice bx3 mx3 dx3] rfl rfl _ _ (P4.out.box _ mq1) (by kernel_rfl) rfl (by simp [Value.oneCell']) ?_)
  refine (si_3 (Cs.one (c := c0) (T4.out.box (w.heap.size, 25, [.int .i64 2, .int .i64 10, .int .i64 100, .int .i64 50, .int .i64 2, .int .i64 3]) mq7))).mono ?_
  rintro e w4 ⟨rfl, hb⟩
  have R4 := Lib.hid (T4.out.later hb)
  clear hb
  have p5 := (R4.out.put [.int .i64 0, .slice none 0 0, .int .i64 0, .slice none 0 0] 34).put [.int .i64 0, .slice none 0 0, .int .i64 0, .slice none 0 0] 34
  try simp only [World.size_alloc] at p5
  have P5 := Lib.hid p5
  clear p5
  have Q5 := Lib.hid (Sf.row (pre := [(w4.heap.size + 1, 34, [.int .i64 0, .slice none 0 0, .int .i64 0, .slice none 0 0])]) P5.out [.int .i64 0, .slice none 0 0, .int .i64 0, .slice none 0 0])
  have T5 := Lib.hid (Sf.row (pre := []) Q5.out [.int .i64 0, .slice none 0 0, .int .i64 0, .slice none 0 0])
  obtain ⟨V5, hV5⟩ : ∃ V, ((((w4.alloc (.cells #[.int .i64 0, .slice none 0 0, .int .i64 0, .slice none 0 0] 34)).alloc (.cells #[.int .i64 0, .slice none 0 0, .int .i64 0, .slice none 0 0] 34)).setRow (w4.heap.size) #[.int .i64 0, .slice none 0 0, .int .i64 0, .slice none 0 0]).setRow (w4.heap.size + 1) #[.int .i64 0, .slice none 0 0, .int .i64 0, .slice none 0 0]) = V := ⟨_, rfl⟩
  have T5 : Hid (Sf w ([] ++ (w4.heap.size + 1, 34, [.int .i64 0, .slice none 0 0, .int .i64 0, .slice none 0 0]) :: (w4.heap.size, 34, [.int .i64 0, .slice none 0 0, .int .i64 0, .slice none 0 0]) :: [(w3.heap.size + 1, 34, [.int .i64 sy3, .slice ay3 ny3 cy3, .int .i64 1, .slice by3 my3 dy3]), (w3.heap.size, 34, [.int .i64 sx3, .slice ax3 nx3 cx3, .int .i64 1, .slice bx3 mx3 dx3]), (w2.heap.size + 1, 34, [.int .i64 sy2, .slice ay2 ny2 cy2, .int .i64 1, .slice by2 my2 dy2]), (w2.heap.size, 34, [.int .i64 sx2, .slice ax2 nx2 cx2, .int .i64 1, .slice bx2 mx2 dx2]), (V1.heap.size, 52, [.int .i64 2, .int .i64 21]), (w1.heap.size + 1, 34, [.int .i64 sy1, .slice ay1 ny1 cy1, .int .i64 1, .slice by1 my1 dy1]), (w1.heap.size, 34, [.int .i64 sx1, .slice ax1 nx1 cx1, .int .i64 1, .slice bx1 mx1 dx1]), (w.heap.size, 25, [.int .i64 2, .int .i64 10, .int .i64 100, .int .i64 50, .int .i64 2, .int .i64 3])]) _ V5) := Lib.hid (by have := T5.out; rw [← hV5]; exact this)
  have HV5 := Lib.hid hV5
  clear hV5
  have P6 := Lib.hid (T5.out.put [.int .i64 2, .int .i64 20] 52)
  go_wp2_with (first | (refine wpList_store_row rfl _ _ _ rfl _ #[.int .i64 0, .slice none 0 0, .int .i64 0, .slice none 0 0] rfl rfl _ _ (Q5.out.box _ mq0) (by kernel_rfl) rfl (by simp [Value.oneCell']) ?_; rw [HV5.out]) | refine wpList_store_row rfl _ _ _ rfl _ #[.int .i64 0, .slice none 0 0, .int .i64 0, .slice none 0 0] rfl rfl _ _ (P5.out.box _ mq1) (by kernel_rfl) rfl (by simp [Value.oneCell']) ?_)
  refine (si_4 (Cs.one (c := c0) (P6.out.box (w.heap.size, 25, [.int .i64 2, .int .i64 10, .int .i64 100, .int .i64 50, .int .i64 2, .int .i64 3]) mq10)) (Rs.one (x := 2) (y := 20) (P6.out.box (V5.heap.size, 52, [.int .i64 2, .int .i64 20]) mq0))).mono ?_
  rintro e w5 ⟨rfl, hb⟩
  have R5 := Lib.hid (P6.out.later hb)
  clear hb
  have p7 := (R5.out.put [.int .i64 0, .slice none 0 0, .int .i64 0, .slice none 0 0] 34).put [.int .i64 0, .slice none 0 0, .int .i64 0, .slice none 0 0] 34
  try simp only [World.size_alloc] at p7
  have P7 := Lib.hid p7
  clear p7
  have Q7 := Lib.hid (Sf.row (pre := [(w5.heap.size + 1, 34, [.int .i64 0, .slice none 0 0, .int .i64 0, .slice none 0 0])]) P7.out [.int .i64 0, .slice none 0 0, .int .i64 0, .slice none 0 0])
  have T7 := Lib.hid (Sf.row (pre := []) Q7.out [.int .i64 0, .slice none 0 0, .int .i64 0, .slice none 0 0])
  obtain ⟨V7, hV7⟩ : ∃ V, ((((w5.alloc (.cells #[.int .i64 0, .slice none 0 0, .int .i64 0, .slice none 0 0] 34)).alloc (.cells #[.int .i64 0, .slice none 0 0, .int .i64 0, .slice none 0 0] 34)).setRow (w5.heap.size) #[.int .i64 0, .slice none 0 0, .int .i64 0, .slice none 0 0]).setRow (w5.heap.size + 1) #[.int .i64 0, .slice none 0 0, .int .i64 0, .slice none 0 0]) = V := ⟨_, rfl⟩
  have T7 : Hid (Sf w ([] ++ (w5.heap.size + 1, 34, [.int .i64 0, .slice none 0 0, .int .i64 0, .slice none 0 0]) :: (w5.heap.size, 34, [.int .i64 0, .slice none 0 0, .int .i64 0, .slice none 0 0]) :: [(V5.heap.size, 52, [.int .i64 2, .int .i64 20]), (w4.heap.size + 1, 34, [.int .i64 0, .slice none 0 0, .int .i64 0, .slice none 0 0]), (w4.heap.size, 34, [.int .i64 0, .slice none 0 0, .int .i64 0, .slice none 0 0]), (w3.heap.size + 1, 34, [.int .i64 sy3, .slice ay3 ny3 cy3, .int .i64 1, .slice by3 my3 dy3]), (w3.heap.size, 34, [.int .i64 sx3, .slice ax3 nx3 cx3, .int .i64 1, .slice bx3 mx3 dx3]), (w2.heap.size + 1, 34, [.int .i64 sy2, .slice ay2 ny2 cy2, .int .i64 1, .slice by2 my2 dy2]), (w2.heap.size, 34, [.int .i64 sx2, .slice ax2 nx2 cx2, .int .i64 1, .slice bx2 mx2 dx2]), (V1.heap.size, 52, [.int .i64 2, .int .i64 21]), (w1.heap.size + 1, 34, [.int .i64 sy1, .slice ay1 ny1 cy1, .int .i64 1, .slice by1 my1 dy1]), (w1.heap.size, 34, [.int .i64 sx1, .slice ax1 nx1 cx1, .int .i64 1, .slice bx1 mx1 dx1]), (w.heap.size, 25, [.int .i64 2, .int .i64 10, .int .i64 100, .int .i64 50, .int .i64 2, .int .i64 3])]) _ V7) := Lib.hid (by have := T7.out; rw [← hV7]; exact this)
  have HV7 := Lib.hid hV7
  clear hV7
  go_wp2_with (first | (refine wpList_store_row rfl _ _ _ rfl _ #[.int .i64 0, .slice none 0 0, .int .i64 0, .slice none 0 0] rfl rfl _ _ (Q7.out.box _ mq0) (by kernel_rfl) rfl (by simp [Value.oneCell']) ?_; rw [HV7.out]) | refine wpList_store_row rfl _ _ _ rfl _ #[.int .i64 0, .slice none 0 0, .int .i64 0, .slice none 0 0] rfl rfl _ _ (P7.out.box _ mq1) (by kernel_rfl) rfl (by simp [Value.oneCell']) ?_)
  refine (rfof_r 5503 50 (by decide) (by decide) (by decide) HQW.out _).mono ?_
  rintro e w6 ⟨sx6, ax6, nx6, cx6, bx6, mx6, dx6, rfl, hr, hb, hf, hg⟩
  have E6 := Lib.hid hr.1.1
  have R6 := Lib.hid (T7.out.ret2 hb hr.1.2 hf hr.2.2 hg)
  have FF6 := Lib.hid (hf.mono T7.out.below.size)
  have FG6 := Lib.hid (hg.mono T7.out.below.size)
  clear hr hb hf hg
  have P8 := Lib.hid (R6.out.put [.int .i64 0, .slice none 0 0, .int .i64 0, .slice none 0 0] 34)
  have T8 := Lib.hid (Sf.row (pre := []) P8.out [.int .i64 sx6, .slice ax6 nx6 cx6, .int .i64 1, .slice bx6 mx6 dx6])
  obtain ⟨V8, hV8⟩ : ∃ V, ((w6.alloc (.cells #[.int .i64 0, .slice none 0 0, .int .i64 0, .slice none 0 0] 34)).setRow w6.heap.size #[.int .i64 sx6, .slice ax6 nx6 cx6, .int .i64 1, .slice bx6 mx6 dx6]) = V := ⟨_, rfl⟩
  have T8 : Hid (Sf w ([] ++ (w6.heap.size, 34, [.int .i64 sx6, .slice ax6 nx6 cx6, .int .i64 1, .slice bx6 mx6 dx6]) :: [(w5.heap.size + 1, 34, [.int .i64 0, .slice none 0 0, .int .i64 0, .slice none 0 0]), (w5.heap.size, 34, [.int .i64 0, .slice none 0 0, .int .i64 0, .slice none 0 0]), (V5.heap.size, 52, [.int .i64 2, .int .i64 20]), (w4.heap.size + 1, 34, [.int .i64 0, .slice none 0 0, .int .i64 0, .slice none 0 0]), (w4.heap.size, 34, [.int .i64 0, .slice none 0 0, .int .i64 0, .slice none 0 0]), (w3.heap.size + 1, 34, [.int .i64 sy3, .slice ay3 ny3 cy3, .int .i64 1, .slice by3 my3 dy3]), (w3.heap.size, 34, [.int .i64 sx3, .slice ax3 nx3 cx3, .int .i64 1, .slice bx3 mx3 dx3]), (w2.heap.size + 1, 34, [.int .i64 sy2, .slice ay2 ny2 cy2, .int .i64 1, .slice by2 my2 dy2]), (w2.heap.size, 34, [.int .i64 sx2, .slice ax2 nx2 cx2, .int .i64 1, .slice bx2 mx2 dx2]), (V1.heap.size, 52, [.int .i64 2, .int .i64 21]), (w1.heap.size + 1, 34, [.int .i64 sy1, .slice ay1 ny1 cy1, .int .i64 1, .slice by1 my1 dy1]), (w1.heap.size, 34, [.int .i64 sx1, .slice ax1 nx1 cx1, .int .i64 1, .slice bx1 mx1 dx1]), (w.heap.size, 25, [.int .i64 2, .int .i64 10, .int .i64 100, .int .i64 50, .int .i64 2, .int .i64 3])]) _ V8) := Lib.hid (by have := T8.out; rw [← hV8]; exact this)
  have HV8 := Lib.hid hV8
  clear hV8
  have hat : ∀ W, (Instr.indexAt 22 (.slice (some ⟨w.heap.size, 0, none⟩) 1 1) (.int .i64 0)).run Try.prog W = .ok (.pointer (some ⟨w.heap.size, 0, none⟩)) W := fun W => by have := cert_at w.heap.size 0 1 1 0 (by decide) W; simpa using this
  obtain ⟨q9, q10, q11, q12, q13, q14⟩ := Fb.cells6 (T8.out.box (w.heap.size, 25, [.int .i64 2, .int .i64 10, .int .i64 100, .int .i64 50, .int .i64 2, .int .i64 3]) mq13)
  have P15 := Lib.hid (T8.out.put [.int .i64 2, .int .i64 10, .int .i64 100, .int .i64 50, .int .i64 2, .int .i64 3] 25)
  obtain ⟨a8, cap8, w8, hrun, hcs, hbl⟩ := app_two (c := c0) (c' := c0) (P15.out.box (w.heap.size, 25, [.int .i64 2, .int .i64 10, .int .i64 100, .int .i64 50, .int .i64 2, .int .i64 3]) mq14) (P15.out.box (V8.heap.size, 25, [.int .i64 2, .int .i64 10, .int .i64 100, .int .i64 50, .int .i64 2, .int .i64 3]) mq0)
  have HCS := Lib.hid hcs
  have S8 := Lib.hid (P15.out.later hbl)
  clear hcs hbl
  go_wp2_with (first | (at_builtin; refine Lib.wpList_append_run _ rfl _ _ _ _ rfl _ _ rfl rfl _ _ (hrun _) ?_) | (refine wpList_store_row rfl _ _ _ rfl _ #[.int .i64 sx6, .slice ax6 nx6 cx6, .int .i64 1, .slice bx6 mx6 dx6] rfl rfl _ _ (P8.out.box _ mq0) (by kernel_rfl) rfl (by simp [Value.oneCell']) ?_; rw [HV8.out]))
  clear q9 q10 q11 q12 q13 q14
  refine (sfind HCS.out).mono ?_
  rintro e w7 ⟨rfl, hb⟩
  have R7 := Lib.hid (S8.out.later hb)
  clear hb
  obtain ⟨q16, q17, q18, q19⟩ := Fb.cells4 (R7.out.box (w1.heap.size, 34, [.int .i64 sx1, .slice ax1 nx1 cx1, .int .i64 1, .slice bx1 mx1 dx1]) mq13)
  go_wp2_with fail
  clear q16 q17 q18 q19
  refine (whole_k (R7.out.fr (v := .slice ax1 nx1 cx1) (u := .slice bx1 mx1 dx1) (r := QA) mq10 mq11 E1.out) (z := 9930) (by decide) HQA.out.symm).mono ?_
  rintro e w8 ⟨rfl, hb⟩
  have R8 := Lib.hid (R7.out.later hb)
  clear hb
  obtain ⟨q20, q21, q22, q23⟩ := Fb.cells4 (R8.out.box (w1.heap.size + 1, 34, [.int .i64 sy1, .slice ay1 ny1 cy1, .int .i64 1, .slice by1 my1 dy1]) mq12)
  go_wp2_with fail
  clear q20 q21 q22 q23
  refine (whole_k (R8.out.fr (v := .slice ay1 ny1 cy1) (u := .slice by1 my1 dy1) (r := QB) mq12 mq13 D1.out) (z := 10070) (by decide) HQB.out.symm).mono ?_
  rintro e w9 ⟨rfl, hb⟩
  have R9 := Lib.hid (R8.out.later hb)
  clear hb
  obtain ⟨q24, q25, q26, q27⟩ := Fb.cells4 (R9.out.box (w2.heap.size, 34, [.int .i64 sx2, .slice ax2 nx2 cx2, .int .i64 1, .slice bx2 mx2 dx2]) mq10)
  go_wp2_with fail
  clear q24 q25 q26 q27
  refine (whole_k (R9.out.fr (v := .slice ax2 nx2 cx2) (u := .slice bx2 mx2 dx2) (r := QC) mq6 mq7 E2.out) (z := 9900) (by decide) HQC.out.symm).mono ?_
  rintro e w10 ⟨rfl, hb⟩
  have R10 := Lib.hid (R9.out.later hb)
  clear hb
  obtain ⟨q28, q29, q30, q31⟩ := Fb.cells4 (R10.out.box (w2.heap.size + 1, 34, [.int .i64 sy2, .slice ay2 ny2 cy2, .int .i64 1, .slice by2 my2 dy2]) mq9)
  go_wp2_with fail
  clear q28 q29 q30 q31
  refine (whole_k (R10.out.fr (v := .slice ay2 ny2 cy2) (u := .slice by2 my2 dy2) (r := QD) mq8 mq9 D2.out) (z := 10100) (by decide) HQD.out.symm).mono ?_
  rintro e w11 ⟨rfl, hb⟩
  have R11 := Lib.hid (R10.out.later hb)
  clear hb
  obtain ⟨q32, q33, q34, q35⟩ := Fb.cells4 (R11.out.box (w3.heap.size, 34, [.int .i64 sx3, .slice ax3 nx3 cx3, .int .i64 1, .slice bx3 mx3 dx3]) mq8)
  go_wp2_with fail
  clear q32 q33 q34 q35
  refine (whole_k (R11.out.fr (v := .slice ax3 nx3 cx3) (u := .slice bx3 mx3 dx3) (r := QE) mq2 mq3 E3.out) (z := 0) (by decide) HQE.out.symm).mono ?_
  rintro e w12 ⟨rfl, hb⟩
  have R12 := Lib.hid (R11.out.later hb)
  clear hb
  obtain ⟨q36, q37, q38, q39⟩ := Fb.cells4 (R12.out.box (w3.heap.size + 1, 34, [.int .i64 sy3, .slice ay3 ny3 cy3, .int .i64 1, .slice by3 my3 dy3]) mq7)
  obtain ⟨q40, q41, q42, q43⟩ := Fb.cells4 (R12.out.box (w6.heap.size, 34, [.int .i64 sx6, .slice ax6 nx6 cx6, .int .i64 1, .slice bx6 mx6 dx6]) mq1)
  go_wp2_with fail
  clear q36 q37 q38 q39 q40 q41 q42 q43
  refine (rfsame_t (R12.out.fr (v := .slice ay3 ny3 cy3) (u := .slice by3 my3 dy3) (r := QW) mq4 mq5 D3.out) (R12.out.fr (v := .slice ax6 nx6 cx6) (u := .slice bx6 mx6 dx6) (r := QW) mq0 mq1 E6.out) rfl).mono ?_
  rintro e w13 ⟨rfl, hb⟩
  have R13 := Lib.hid (R12.out.later hb)
  clear hb
  obtain ⟨q44, q45, q46, q47, q48, q49⟩ := Fb.cells6 (R13.out.box (w.heap.size, 25, [.int .i64 2, .int .i64 10, .int .i64 100, .int .i64 50, .int .i64 2, .int .i64 3]) mq14)
  go_wp2_with fail
  clear q44 q45 q46 q47 q48 q49
  refine (sright).mono ?_
  rintro e w14 ⟨rfl, hb⟩
  have R14 := Lib.hid (R13.out.later hb)
  clear hb
  go_wp2_with fail
  refine (srec).mono ?_
  rintro e w15 ⟨rfl, hb⟩
  have R15 := Lib.hid (R14.out.later hb)
  clear hb
  go_wp2_with fail
  go_ret
  exact ⟨rfl, R15.out.below⟩
end Go.Proofs.Ytmhjejnkphdjpaa.Sc
