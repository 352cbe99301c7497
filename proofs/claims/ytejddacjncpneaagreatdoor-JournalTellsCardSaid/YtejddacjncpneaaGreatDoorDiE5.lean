/- The reference's set. -/
import Derived.Test.YtejddacjncpneaaGreatDoorDiE4
set_option maxRecDepth 100000
namespace Go.Proofs.YtejddacjncpneaaGreatDoor.Di
open Go.RowKit Go.ChangeShapes Go.WideShapes

theorem infoF : (Tryz.prog.info? 86).map (fun i => (i.zero, i.size, i.bytes)) = some (some (.agg #[.int .i64 0, .string ⟨#[]⟩, .string ⟨#[]⟩]), 3, 40) := by kernel_rfl
theorem infoQ : (Tryz.prog.info? 84).map (fun i => (i.zero, i.size, i.bytes)) = some (some (.agg #[.int .i64 0, .int .i64 0]), 2, 16) := by kernel_rfl

/-- A list of files that the call makes. -/
structure OutF (w wr : World) (ov : Value) (l : List RF) : Prop where
  own : Own wr 86 3 ov l.length (cellsR l)
  new : ∀ b, blk ov = some b → w.heap.size ≤ b
  grown : w.grownBy wr none

theorem cellsR_snoc (l : List RF) (x : RF) : cellsR (l ++ [x]) = cellsR l ++ [.int .i64 x.n, .string x.now, .string x.last] := by
  unfold cellsR
  rw [List.flatMap_append]
  rfl
theorem OutF.push {w wr : World} {ov : Value} {l : List RF} (h : OutF w wr ov l) (x : RF) (hl : l.length ≤ 1000000) :
    ∃ a' n' c' w', (Builtin.append_ #[61, 61] 61 #[ov, .slice (some ⟨wr.heap.size, 0, none⟩) 1 1]).run Tryz.prog (wr.alloc (.cells #[.int .i64 x.n, .string x.now, .string x.last] 86)) = .ok (.slice a' n' c') w' ∧ OutF w w' (.slice a' n' c') (l ++ [x]) := by
  obtain ⟨i0, hi, hz0, hz1, hz2⟩ := info_parts infoF
  have hga : wr.grownBy (wr.alloc (.cells #[.int .i64 x.n, .string x.now, .string x.last] 86)) none := World.grownBy_alloc _ _ _
  have ht := own_temp wr 86 3 #[.int .i64 x.n, .string x.now, .string x.last] rfl (by omega)
  have hs := ht.src (P := Tryz.prog) (tx := 61) (e' := 86) Tryz.underlying61 (fun u hu => by simp at hu; rcases hu with rfl | rfl | rfl <;> rfl)
  obtain ⟨v', w', hrun, hown, hg, hb⟩ := own_append (P := Tryz.prog) (t := 61) (tx := 61) (ty := 61) Tryz.underlying61 hi hz0 hz1 hz2 rfl (h.own.grown0 hga) hs (by unfold maxLen; omega) (by omega)
  obtain ⟨a', c', rfl, _, _⟩ := hown.shape
  have hz := h.grown.size
  refine ⟨a', _, c', w', hrun, ⟨?_, fun b hb' => ?_, ?_⟩⟩
  · rw [cellsR_snoc, List.length_append]; exact hown
  · rcases hb with e | e | e
    · rw [e] at hb'; cases hb'
    · rw [e] at hb'; exact h.new b hb'
    · rw [e] at hb'; cases hb'; simp; omega
  · have hz2 := hg.size
    refine ⟨hg.os.trans (hga.os.trans h.grown.os), hg.tape.trans (hga.tape.trans h.grown.tape), hg.output.trans (hga.output.trans h.grown.output), Nat.le_trans h.grown.size (Nat.le_trans hga.size hz2), fun k hk _ => ?_⟩
    have : blk ov ≠ some k := fun e => by have := h.new k e; omega
    rw [hg.block k (Nat.lt_of_lt_of_le (by omega) hga.size) (Ne.symm this), hga.block k (by omega) (by simp), h.grown.block k hk (by simp)]

def keepF (l : List RF) (n : Int) (k : Nat) : List RF := (l.take k).filter fun y => !decide (y.n = n)
theorem keepF_step {l : List RF} {n : Int} {k : Nat} (h : k < l.length) : (l[k].n = n → keepF l n (k + 1) = keepF l n k) ∧ (l[k].n ≠ n → keepF l n (k + 1) = keepF l n k ++ [l[k]]) := by
  unfold keepF
  rw [List.take_succ_eq_append_getElem h, List.filter_append]
  exact ⟨fun e => by simp [e], fun e => by simp [e]⟩
theorem keepF_len (l : List RF) (n : Int) (k : Nat) : (keepF l n k).length ≤ l.length :=
  Nat.le_trans (List.length_filter_le _ _) (by simp; omega)
theorem OutF.quiet {w wr : World} {ov : Value} {l : List RF} (h : OutF w wr ov l) (m : Nat) : OutF w (wr.drewN m) ov l := ⟨h.own.grown0 (grown_drewN wr m), h.new, h.grown.trans (grown_drewN wr m)⟩

set_option maxHeartbeats 2000000 in
theorem set_strong {S : Nat → Prop} {r : Nat} {fv qv kv : Value} {a : RS} {w : World} (h : RIs S r fv qv kv a w) (x : RF) (hl : a.fl.length ≤ 100000) :
    Calls Tryz.prog 76 #[.pointer (some ⟨r, 0, none⟩), .agg #[.int .i64 x.n, .string x.now, .string x.last]] w fun e w' => e = .returned (.tuple #[]) ∧ RAs S r { a with fl := setL a.fl x } w w' := by
  obtain ⟨w1, hw1⟩ : ∃ w1, w.alloc (.cells #[.int .i64 x.n, .string x.now, .string x.last] 86) = w1 := ⟨_, rfl⟩
  have hg1 : w.grownBy w1 none := by rw [← hw1]; exact World.grownBy_alloc _ _ _
  have hb1 : w1.heap[w.heap.size]? = some (.cells #[.int .i64 x.n, .string x.now, .string x.last] 86 (0, 0)) := by rw [← hw1]; exact (MapKept.heap_alloc w _).1
  have hz1 : w1.heap.size = w.heap.size + 1 := by rw [← hw1]; simp
  have h1 := h.grown hg1
  obtain ⟨fa, fc, hfv, hc1, hc2⟩ := h.fo.shape
  subst hfv
  unfold maxLen at hc2
  obtain ⟨n, hn⟩ : ∃ n, a.fl.length = n := ⟨_, rfl⟩
  rw [hn] at hc1 hl
  have H := Lib.hid h
  have H1 := Lib.hid h1
  have HN := Lib.hid hn
  have HG1 := Lib.hid hg1
  have HZ1 : Hid (w1.heap.size = w.heap.size + 1) := hz1
  have KX : Hid (∀ wr : World, w1.grownBy wr none → wr.cell? ⟨w.heap.size, 0, none⟩ = some (.int .i64 x.n) ∧ wr.cell? ⟨w.heap.size, 1, none⟩ = some (.string x.now) ∧ wr.cell? ⟨w.heap.size, 2, none⟩ = some (.string x.last)) := fun wr hg => by
    have hh : wr.heap[w.heap.size]? = _ := (hg.block _ (by omega) (by simp)).trans hb1
    exact ⟨by simp [World.cell?, hh], by simp [World.cell?, hh], by simp [World.cell?, hh]⟩
  have KR : Hid (∀ wr : World, w1.grownBy wr none → RIs S r (.slice fa a.fl.length fc) qv kv a wr) := fun wr hg => h1.grown hg
  have H0 : Hid (OutF w1 w1 (.slice none 0 0) (keepF a.fl x.n 0)) := ⟨by simp [keepF, cellsR]; exact Own.nil _ _ _, fun b hb => (by cases hb), ⟨rfl, rfl, rfl, Nat.le_refl _, fun _ _ _ => rfl⟩⟩
  clear h h1 hn hg1 hb1 hz1
  go_enter Tryz.func76, Tryz.ntmps76
  go_wp2_with fail
  clear hw1
  go_loopw [4, 5] (fun ov i wr => ∃ k : Nat, k ≤ n ∧ i = .int .i64 k ∧ Hid (OutF w1 wr ov (keepF a.fl x.n k))) (fun _ i _ => n - (RowKit.intOf i).toNat)
  case atStart => exact ⟨0, by omega, rfl, H0⟩
  case round =>
    clear H0
    obtain ⟨k, hk, rfl, hat⟩ := hrel
    have hris := KR.out _ hat.out.grown
    have c0 := hris.cell.1
    rw [HN.out] at c0
    obtain ⟨x0, x1, x2⟩ := KX.out _ hat.out.grown
    have hfo := hris.fo
    obtain ⟨oa, oc, rfl, _, _⟩ := hat.out.own.shape
    obtain ⟨ol, hol⟩ : ∃ ol, (keepF a.fl x.n k).length = ol := ⟨_, rfl⟩
    rw [hol] at hat
    have HOL := Lib.hid hol
    rw [hol]
    clear hol
    by_cases hlt : k < n
    · have hkl : k < a.fl.length := by rw [HN.out]; exact hlt
      obtain ⟨g, rfl, y0, y1, y2⟩ := fcells hfo k hkl
      obtain ⟨e1, e2⟩ := keepF_step (n := x.n) hkl
      obtain ⟨y, hy⟩ : ∃ y, a.fl[k] = y := ⟨_, rfl⟩
      rw [hy] at y0 y1 y2 e1 e2
      by_cases hyn : y.n = x.n
      · have HE := Lib.hid (e1 hyn)
        rw [hyn] at y0
        clear e1 e2 hyn hy hfo hris
        go_wp2_with fail
        go_quiet (fail)
        have H2 : Hid (OutF w1 (wr.drewN nq) (.slice oa ol oc) (keepF a.fl x.n (k + 1))) := by unfold Hid; rw [HE.out]; exact hat.out.quiet nq
        go_wp2_with fail
        go_roundw
        case rel => exact ⟨k + 1, by omega, by go_num, H2⟩
        case measure => simp [RowKit.intOf]; omega
      · have HE := Lib.hid (e2 hyn)
        have hyn1 : (y.n == x.n) = false := by simpa using hyn
        have hyn2 : decide (y.n = x.n) = false := by simpa using hyn
        have hyn3 : (y.n != x.n) = true := by simpa using hyn
        have hlen : (keepF a.fl x.n k).length ≤ 1000000 := by have := keepF_len a.fl x.n k; rw [HN.out] at this; omega
        have HLEN := Lib.hid hlen
        clear e1 e2 hyn hy hfo hris hlen
        go_wp2_with fail
        go_quiet (fail)
        have hq := hat.out.quiet nq
        have HQ := Lib.hid hq
        obtain ⟨a', n', c', w', hrun, hout⟩ := hq.push y HLEN.out
        have H2 : Hid (OutF w1 w' (.slice a' n' c') (keepF a.fl x.n (k + 1))) := by unfold Hid; rw [HE.out]; exact hout
        clear hout hq
        go_wp2_with (at_builtin; refine Lib.wpList_append_run _ rfl _ _ _ _ rfl _ _ rfl rfl _ _ hrun ?_)
        go_roundw
        case rel => exact ⟨k + 1, by omega, by go_num, H2⟩
        case measure => simp [RowKit.intOf]; omega
    · have hkk : keepF a.fl x.n k = a.fl.filter fun y => !decide (y.n = x.n) := by
        unfold keepF; rw [List.take_of_length_le (by rw [HN.out]; omega)]
      have hlen : (keepF a.fl x.n k).length ≤ 1000000 := by have := keepF_len a.fl x.n k; rw [HN.out] at this; omega
      obtain ⟨a', n', c', w', hrun, hout⟩ := hat.out.push x hlen
      have hset : keepF a.fl x.n k ++ [x] = setL a.fl x := by rw [hkk]; rfl
      rw [hset] at hout
      have hgw := hout.grown
      have hb0 := (KR.out _ hgw).cell.1
      have hf0 := (KR.out _ hgw).froz 0
      rw [HN.out] at hb0
      have HFIN : Hid (RAs S r { a with fl := setL a.fl x } w (w'.setCell ⟨r, 0, none⟩ (.slice a' n' c'))) := by
        obtain ⟨a2, c2, e, _, _⟩ := hout.own.shape
        refine H.out.files' (HG1.out.trans hgw) ?_ fun b hb => by have := hout.new b hb; have := HZ1.out; omega
        injection e with e1 e2 e3
        subst e2
        exact hout.own
      clear hkk hlen hout hset hgw hris hfo
      go_wp2_with (at_builtin; refine Lib.wpList_append_run _ rfl _ _ _ _ rfl _ _ rfl rfl _ _ hrun ?_)
      go_end0
      exact ⟨rfl, HFIN.out⟩
theorem set_any {S : Nat → Prop} {r : Nat} {fv qv kv : Value} {a : RS} {w : World} (h : RIs S r fv qv kv a w) (x : RF) (hl : a.fl.length ≤ 100000) :
    Calls Tryz.prog 76 #[.pointer (some ⟨r, 0, none⟩), .agg #[.int .i64 x.n, .string x.now, .string x.last]] w fun e w' => e = .returned (.tuple #[]) ∧ RAf S r { a with fl := setL a.fl x } w w' :=
  (set_strong h x hl).mono fun _ _ ⟨h1, h2⟩ => ⟨h1, h2.raf h.sr⟩
end Go.Proofs.YtejddacjncpneaaGreatDoor.Di
