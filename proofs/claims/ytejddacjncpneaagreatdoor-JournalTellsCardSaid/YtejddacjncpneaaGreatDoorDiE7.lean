/- The reference's add. -/
import Derived.Test.YtejddacjncpneaaGreatDoorDiE6
set_option maxRecDepth 100000
namespace Go.Proofs.YtejddacjncpneaaGreatDoor.Di
open Go.RowKit Go.ChangeShapes Go.WideShapes
attribute [local go_sem ↓] Go.wp_at_zero Go.wp_at_succ

theorem grown_new {w w1 : World} (hg : w.grownBy w1 none) {X : Nat} (hX : w.heap.size ≤ X) (i : Nat) (v : Value) : w.grownBy (w1.setCell ⟨X, i, none⟩ v) none := by
  have hs := grownBy_setCell' w1 X i v
  have hz := hg.size
  exact ⟨hs.os.trans hg.os, hs.tape.trans hg.tape, hs.output.trans hg.output, Nat.le_trans hz hs.size, fun k hk _ => by rw [hs.block k (by omega) (by intro e; cases e; omega), hg.block k hk (by simp)]⟩
theorem grown_below {w w1 : World} (h : Below w.heap.size w w1) : w.grownBy w1 none := ⟨h.os, h.tape, h.output, h.size, fun k hk _ => h.block k hk⟩

theorem RIs.push {S : Nat → Prop} {r : Nat} {fv qv kv : Value} {a : RS} {w : World} (h : RIs S r fv qv kv a w) (s : Int × Nat) (hl : a.q.length ≤ 10000000) :
    ∃ a' n' c' w', (Builtin.append_ #[62, 62] 62 #[qv, .slice (some ⟨w.heap.size, 0, none⟩) 1 1]).run Tryz.prog (w.alloc (.cells #[.int .i64 s.1, .int .i64 s.2] 84)) = .ok (.slice a' n' c') w' ∧
      w'.cell? ⟨r, 1, none⟩ = some qv ∧ w'.frozen? ⟨r, 1, none⟩ = false ∧ RAf S r { a with q := a.q ++ [s] } w (w'.setCell ⟨r, 1, none⟩ (.slice a' n' c')) := by
  obtain ⟨i0, hi, hz0, hz1, hz2⟩ := info_parts infoQ
  have hga : w.grownBy (w.alloc (.cells #[.int .i64 s.1, .int .i64 s.2] 84)) none := World.grownBy_alloc _ _ _
  have ht := own_temp w 84 2 #[.int .i64 s.1, .int .i64 s.2] rfl (by omega)
  have hs := ht.src (P := Tryz.prog) (tx := 62) (e' := 84) Tryz.underlying62 (fun u hu => by simp at hu; rcases hu with rfl | rfl <;> rfl)
  have h1 := h.grown hga
  obtain ⟨v', w', hrun, hown, hg, hb⟩ := own_append (P := Tryz.prog) (t := 62) (tx := 62) (ty := 62) Tryz.underlying62 hi hz0 hz1 hz2 rfl h1.qo hs (by unfold maxLen; omega) (by omega)
  obtain ⟨a', c', rfl, _, _⟩ := hown.shape
  have hz := hga.size
  have hlt := h.lt
  have hkr : w'.heap[r]? = w.heap[r]? := by
    rw [hg.block r h1.lt (Ne.symm h.rq), hga.block r hlt (by simp)]
  refine ⟨a', _, c', w', hrun, cell_sameE hkr 1 h.cell.2.1, froz_sameE hkr 1 (h.froz 1), ?_⟩
  have hcq : cellsQ (a.q ++ [s]) = cellsQ a.q ++ [.int .i64 s.1, .int .i64 s.2] := by unfold cellsQ; rw [List.flatMap_append]; rfl
  refine h.queue (w1 := w') ?_ (by rw [hcq, List.length_append]; exact hown) fun b hb' => ?_
  · exact ⟨hg.os.trans hga.os, hg.tape.trans hga.tape, hg.output.trans hga.output, Nat.le_trans hz hg.size, fun k hk hn => by rw [hg.block k (by omega) hn, hga.block k hk (by simp)]⟩
  · rcases hb with e | e | e
    · rw [e] at hb'; cases hb'
    · rw [e] at hb'; exact .inl hb'
    · rw [e] at hb'; cases hb'; exact .inr hz

theorem addQ_len : ∀ (l : List (Int × Nat)) (q : List (Int × Nat)), (addQ q l).length ≤ q.length + l.length
  | [], q => Nat.le_refl _
  | s :: l, q => by
    show (addQ (addS q s) l).length ≤ _
    have h1 := addQ_len l (addS q s)
    have h2 : (addS q s).length ≤ q.length + 1 := by unfold addS; split <;> simp
    simp only [List.length_cons]
    omega

def putB (b : ByteArray) (k : Nat) (s : ByteArray) : ByteArray := ⟨(putL b.data.toList k s.data.toList).toArray⟩
def addF (a : RS) (f : Int) (k : Nat) (s : ByteArray) : RS := { a with fl := setL a.fl ⟨f, putB (look a.fl f).now k s, (look a.fl f).last⟩ }
def addR (a : RS) (f : Int) (k : Nat) (s : ByteArray) : RS := { addF a f k s with q := addQ a.q (secs f k s.size) }

set_option maxRecDepth 100000 in
set_option maxHeartbeats 4000000 in
theorem add_any {S : Nat → Prop} {r : Nat} {fv qv kv : Value} {a : RS} {w : World} (h : RIs S r fv qv kv a w) (f : Int) (k : Nat) (s : ByteArray) (h0 : 0 < s.size) (hb : k + s.size ≤ 16777216) (hl : a.fl.length ≤ 100000) (hq : a.q.length ≤ 9000000) (hs : (look a.fl f).now.size ≤ 16777216) :
    Calls Tryz.prog 73 #[.pointer (some ⟨r, 0, none⟩), .int .i64 f, .int .i64 k, .string s] w fun e w' => e = .returned (.tuple #[]) ∧ RAf S r (addR a f k s) w w' := by
  have hts : s.data.toList.length = s.size := (Lib.size_eq s).symm
  have hne : s.toList.isEmpty = false := by
    have : s.toList = s.data.toList := ByteArray.toList_eq s
    rw [this]
    cases e : s.data.toList with
    | nil => rw [e] at hts; simp at hts; omega
    | cons x r => rfl
  have hne2 : (!s.toList.isEmpty) = true := by rw [hne]; rfl
  have H := Lib.hid h
  have HL := Lib.hid hl
  have HQ := Lib.hid hq
  have HG := Lib.hid (get_any h f)
  obtain ⟨A, hA⟩ : ∃ A, (look a.fl f).now = A := ⟨_, rfl⟩
  obtain ⟨D, hD⟩ : ∃ D, (look a.fl f).last = D := ⟨_, rfl⟩
  unfold GetPost at HG
  rw [hA, hD] at HG
  rw [hA] at hs
  have HAD : Hid ((look a.fl f).now = A ∧ (look a.fl f).last = D) := ⟨hA, hD⟩
  obtain ⟨P, hP⟩ : ∃ P, putB A k s = P := ⟨_, rfl⟩
  have HP : Hid (∀ w, Calls Tryz.prog 75 #[.string A, .int .i64 k, .string s] w fun e w' => e = .returned (.string P) ∧ Below w.heap.size w w') := fun w => by rw [← hP]; exact put_r A s k h0 hb hs w
  have HPE := Lib.hid hP
  obtain ⟨C, hC⟩ : ∃ C, (k + s.size + 63) / 64 - k / 64 = C := ⟨_, rfl⟩
  obtain ⟨k0, hk0⟩ : ∃ k0, k / 64 = k0 := ⟨_, rfl⟩
  obtain ⟨K, hK⟩ : ∃ K, (k + s.size - 1) / 64 = K := ⟨_, rfl⟩
  have hKC : k0 + C = K + 1 := by omega
  have hat : ((k : Int) / 64) = ((k0 : Nat) : Int) := by omega
  have hat2 : (((k : Int) + (s.size : Int) - 1) / 64) = ((K : Nat) : Int) := by omega
  have HC : Hid ((k + s.size + 63) / 64 - k / 64 = C ∧ k / 64 = k0) := ⟨hC, hk0⟩
  have hKb : K ≤ 300000 := by omega
  clear h hl hq hts hC hk0 hK hA hD hP
  go_enter Tryz.func73, Tryz.ntmps73
  go_wp2_with fail
  refine HG.out.mono ?_
  rintro e w1 ⟨rfl, hg1⟩
  have HG1 := Lib.hid hg1
  have hz1 := hg1.size
  clear hg1
  go_wp2_with fail
  have hbx : (w1.alloc (.cells #[.int .i64 f, .string A, .string D] 86)).heap[w1.heap.size]? = some (.cells #[.int .i64 f, .string A, .string D] 86 (0, 0)) := (MapKept.heap_alloc w1 _).1
  have hg1a : w.grownBy (w1.alloc (.cells #[.int .i64 f, .string A, .string D] 86)) none := HG1.out.trans (World.grownBy_alloc _ _ _)
  have hz1a : (w1.alloc (.cells #[.int .i64 f, .string A, .string D] 86)).heap.size = w1.heap.size + 1 := by simp
  generalize (w1.alloc (.cells #[.int .i64 f, .string A, .string D] 86)) = w1a at *
  have HBX := Lib.hid hbx
  have HG1A := Lib.hid hg1a
  have HZ1A := Lib.hid hz1a
  clear hbx hg1a hz1a
  refine (HP.out w1a).mono ?_
  rintro e w2 ⟨rfl, hbel⟩
  obtain ⟨X, hX⟩ : ∃ X, w1.heap.size = X := ⟨_, rfl⟩
  have hXw : w.heap.size ≤ X := by omega
  have hg12 := grown_below hbel
  have hg2 : w.grownBy w2 none := HG1A.out.trans hg12
  have hbx2 : w2.heap[w1.heap.size]? = some (.cells #[.int .i64 f, .string A, .string D] 86 (0, 0)) := (hg12.block _ (by have := HZ1A.out; omega) (by simp)).trans HBX.out
  have hs3 := Lib.heap_setCell_same (i := 1) hbx2 (.string P)
  have hg3 : w.grownBy (w2.setCell ⟨w1.heap.size, 1, none⟩ (.string P)) none := grown_new hg2 hz1 1 _
  rw [hX] at hbx2 hs3 hg3 ⊢
  have x1 : w2.cell? ⟨X, 1, none⟩ = some (.string A) := by simp [World.cell?, hbx2]
  have xf : w2.frozen? ⟨X, 1, none⟩ = false := by simp [World.frozen?, hbx2]
  have HS3 := Lib.hid hs3
  have HG3 := Lib.hid hg3
  have HXW := Lib.hid hXw
  have y0 : (w2.setCell ⟨X, 1, none⟩ (.string P)).cell? ⟨X, 0, none⟩ = some (.int .i64 f) := by simp [World.cell?, hs3]
  have y1 : (w2.setCell ⟨X, 1, none⟩ (.string P)).cell? ⟨X, 1, none⟩ = some (.string P) := by simp [World.cell?, hs3]
  have y2 : (w2.setCell ⟨X, 1, none⟩ (.string P)).cell? ⟨X, 2, none⟩ = some (.string D) := by simp [World.cell?, hs3]
  clear hg12 hg2 hbx2 hbel hs3 hg3 hX hz1
  go_wp2_with fail
  have HA3 := Lib.hid (H.out.rafg HG3.out)
  have h3 := (H.out.grown HG3.out).mono (S' := Grew S w (w2.setCell ⟨X, 1, none⟩ (.string P))) fun _ hb => .inl hb
  refine (set_any h3 ⟨f, P, D⟩ HL.out).mono ?_
  rintro e w4 ⟨rfl, haf⟩
  have H4 : Hid (RAf S r (addF a f k s) w w4) := by
    have := HA3.out.trans haf
    unfold Hid addF
    rw [HAD.out.1, HAD.out.2, HPE.out]
    exact this
  have H5 : Hid (RAf S r { addF a f k s with q := addQ a.q ((secs f k s.size).take 0) } w w4) := H4.out
  clear h3 haf y0 y1 y2 x1 xf HS3 HG3 HA3 HP HG H4
  go_wp2_with fail
  go_loopw [9] (fun i wr => ∃ j : Nat, k0 ≤ j ∧ j ≤ K + 1 ∧ i = .int .i64 (j : Int) ∧ Hid (RAf S r { addF a f k s with q := addQ a.q ((secs f k s.size).take (j - k0)) } w wr)) (fun i _ => K + 1 - (RowKit.intOf i).toNat)
  case atStart => exact ⟨k0, Nat.le_refl _, by omega, by first | rfl | simp [hat], by rw [Nat.sub_self]; exact H5⟩
  case round =>
    clear H5 hat
    obtain ⟨j, hj1, hj2, rfl, hatr⟩ := hrel
    by_cases hlt : j ≤ K
    · obtain ⟨⟨fv1, qv1, kv1, hris⟩, hbut⟩ := hatr.out
      have hjj : j - k0 < (k + s.size + 63) / 64 - k / 64 := by have := HC.out; omega
      have hst := secs_take f k s.size (j - k0) hjj
      rw [show k / 64 + (j - k0) = j by have := HC.out; omega, show j - k0 + 1 = j + 1 - k0 by omega] at hst
      have hql : (addQ a.q ((secs f k s.size).take (j - k0))).length ≤ 10000000 := by
        have h1 := addQ_len ((secs f k s.size).take (j - k0)) a.q
        have h2 : ((secs f k s.size).take (j - k0)).length ≤ j - k0 := by rw [List.length_take]; omega
        have := HQ.out
        omega
      have hqe : addQ a.q ((secs f k s.size).take (j + 1 - k0)) = addS (addQ a.q ((secs f k s.size).take (j - k0))) (f, j) := by
        rw [hst, addQ_snoc]
      by_cases hin : (f, j) ∈ addQ a.q ((secs f k s.size).take (j - k0))
      · have HPN := Lib.hid (pending_any hris f j (b := true) (by simpa using hin))
        have H6 : Hid (RAf S r { addF a f k s with q := addQ a.q ((secs f k s.size).take (j + 1 - k0)) } w wr) := by
          unfold Hid; rw [hqe, addS, if_pos hin]; exact hatr.out
        clear hris hbut hst hql hqe hin
        go_wp2_with fail
        refine HPN.out.mono ?_
        rintro e w' ⟨rfl, rfl⟩
        go_wp2_with fail
        go_roundw
        case rel => exact ⟨j + 1, by omega, by omega, by go_num, H6⟩
        case measure => simp [RowKit.intOf]; omega
      · have HPN := Lib.hid (pending_any hris f j (b := false) (by simpa using hin))
        obtain ⟨qa, qc, hqv, _, _⟩ := hris.qo.shape
        obtain ⟨qn, hqn⟩ : ∃ qn, (addQ a.q ((secs f k s.size).take (j - k0))).length = qn := ⟨_, rfl⟩
        have hqv' : qv1 = .slice qa qn qc := by rw [hqv]; show Value.slice qa (addQ a.q ((secs f k s.size).take (j - k0))).length qc = _; rw [hqn]
        subst hqv'
        obtain ⟨a', n', c', w', hrun, p1, p2, hpush⟩ := hris.push (f, j) hql
        have H6 : Hid (RAf S r { addF a f k s with q := addQ a.q ((secs f k s.size).take (j + 1 - k0)) } w (w'.setCell ⟨r, 1, none⟩ (.slice a' n' c'))) := by
          unfold Hid; rw [hqe, addS, if_neg hin]; exact hatr.out.trans hpush
        have c1 := hris.cell.2.1
        have F1 := hris.froz 1
        clear hris hbut hst hql hqe hin hpush hqv hqn
        go_wp2_with fail
        refine HPN.out.mono ?_
        rintro e w'' ⟨rfl, rfl⟩
        go_wp2_with (at_builtin; refine Lib.wpList_append_run _ rfl _ _ _ _ rfl _ _ rfl rfl _ _ hrun ?_)
        go_roundw
        case rel => exact ⟨j + 1, by omega, by omega, by go_num, H6⟩
        case measure => simp [RowKit.intOf]; omega
    · have H6 : Hid (RAf S r (addR a f k s) w wr) := by
        have e : (secs f k s.size).take (j - k0) = secs f k s.size := List.take_of_length_le (by unfold secs; simp; have := HC.out; omega)
        unfold Hid addR
        rw [← e]
        exact hatr.out
      go_wp2_with fail
      go_end0
      exact ⟨rfl, H6.out⟩
end Go.Proofs.YtejddacjncpneaaGreatDoor.Di
/- The reference's settle. -/
namespace Go.Proofs.YtejddacjncpneaaGreatDoor.Di
open Go.RowKit Go.ChangeShapes Go.WideShapes

theorem cellsQ_snoc (q : List (Int × Nat)) (s : Int × Nat) : cellsQ (q ++ [s]) = cellsQ q ++ [.int .i64 s.1, .int .i64 s.2] := by unfold cellsQ; rw [List.flatMap_append]; rfl
structure OutQ (w wr : World) (ov : Value) (l : List (Int × Nat)) : Prop where
  own : Own wr 84 2 ov l.length (cellsQ l)
  new : ∀ b, blk ov = some b → w.heap.size ≤ b
  grown : w.grownBy wr none
theorem OutQ.push {w wr : World} {ov : Value} {l : List (Int × Nat)} (h : OutQ w wr ov l) (x : Int × Nat) (hl : l.length ≤ 10000000) :
    ∃ a' n' c' w', (Builtin.append_ #[62, 62] 62 #[ov, .slice (some ⟨wr.heap.size, 0, none⟩) 1 1]).run Tryz.prog (wr.alloc (.cells #[.int .i64 x.1, .int .i64 x.2] 84)) = .ok (.slice a' n' c') w' ∧ OutQ w w' (.slice a' n' c') (l ++ [x]) := by
  obtain ⟨i0, hi, hz0, hz1, hz2⟩ := info_parts infoQ
  have hga : wr.grownBy (wr.alloc (.cells #[.int .i64 x.1, .int .i64 x.2] 84)) none := World.grownBy_alloc _ _ _
  have ht := own_temp wr 84 2 #[.int .i64 x.1, .int .i64 x.2] rfl (by omega)
  have hs := ht.src (P := Tryz.prog) (tx := 62) (e' := 84) Tryz.underlying62 (fun u hu => by simp at hu; rcases hu with rfl | rfl <;> rfl)
  obtain ⟨v', w', hrun, hown, hg, hb⟩ := own_append (P := Tryz.prog) (t := 62) (tx := 62) (ty := 62) Tryz.underlying62 hi hz0 hz1 hz2 rfl (h.own.grown0 hga) hs (by unfold maxLen; omega) (by omega)
  obtain ⟨a', c', rfl, _, _⟩ := hown.shape
  have hz := h.grown.size
  refine ⟨a', _, c', w', hrun, ⟨?_, fun b hb' => ?_, ?_⟩⟩
  · rw [cellsQ_snoc, List.length_append]; exact hown
  · rcases hb with e | e | e
    · rw [e] at hb'; cases hb'
    · rw [e] at hb'; exact h.new b hb'
    · rw [e] at hb'; cases hb'; simp; omega
  · have hz2 := hg.size
    refine ⟨hg.os.trans (hga.os.trans h.grown.os), hg.tape.trans (hga.tape.trans h.grown.tape), hg.output.trans (hga.output.trans h.grown.output), Nat.le_trans h.grown.size (Nat.le_trans hga.size hz2), fun k hk _ => ?_⟩
    have : blk ov ≠ some k := fun e => by have := h.new k e; omega
    rw [hg.block k (Nat.lt_of_lt_of_le (by omega) hga.size) (Ne.symm this), hga.block k (by omega) (by simp), h.grown.block k hk (by simp)]

def notF (f : Int) (s : Int × Nat) : Bool := !decide (s.1 = f)
def keepQ (q : List (Int × Nat)) (f : Int) (k : Nat) : List (Int × Nat) := (q.take k).filter (notF f)
theorem keepQ_step {l : List (Int × Nat)} {n : Int} {k : Nat} (h : k < l.length) : (l[k].1 = n → keepQ l n (k + 1) = keepQ l n k) ∧ (l[k].1 ≠ n → keepQ l n (k + 1) = keepQ l n k ++ [l[k]]) := by
  unfold keepQ
  rw [List.take_succ_eq_append_getElem h, List.filter_append]
  exact ⟨fun e => by simp [notF, e], fun e => by simp [notF, e]⟩
theorem keepQ_len (l : List (Int × Nat)) (n : Int) (k : Nat) : (keepQ l n k).length ≤ l.length :=
  Nat.le_trans (List.length_filter_le _ _) (by simp; omega)
def settleR (a : RS) (f : Int) (s : ByteArray) : RS := { a with fl := setL a.fl ⟨f, s, s⟩, q := a.q.filter (notF f) }

set_option maxHeartbeats 2000000 in
theorem rsettle_any {S : Nat → Prop} {r : Nat} {fv qv kv : Value} {a : RS} {w : World} (h : RIs S r fv qv kv a w) (f : Int) (s : ByteArray) (hl : a.fl.length ≤ 100000) (hq : a.q.length ≤ 9000000) :
    Calls Tryz.prog 63 #[.pointer (some ⟨r, 0, none⟩), .int .i64 f, .string s] w fun e w' => e = .returned (.tuple #[]) ∧ RAf S r (settleR a f s) w w' := by
  have HS := Lib.hid (set_any h ⟨f, s, s⟩ hl)
  clear h
  go_enter Tryz.func63, Tryz.ntmps63
  go_wp2_with fail
  refine HS.out.mono ?_
  rintro e w1 ⟨rfl, haf⟩
  obtain ⟨⟨fv1, qv1, kv1, h1⟩, hbut⟩ := haf
  have HB := Lib.hid hbut
  obtain ⟨qa, qc, hqv, hc1, hc2⟩ := h1.qo.shape
  subst hqv
  unfold maxLen at hc2
  have HA : Hid (RAf S r { a with fl := setL a.fl ⟨f, s, s⟩ } w w1) := ⟨⟨_, _, _, h1⟩, hbut⟩
  have H1 := Lib.hid h1
  obtain ⟨ql, hql⟩ : ∃ ql, a.q.length = ql := ⟨_, rfl⟩
  have hc1' : ql ≤ qc := by rw [← hql]; exact hc1
  have HQL := Lib.hid hql
  rw [hql] at hq
  have KR : Hid (∀ wr : World, w1.grownBy wr none → wr.cell? ⟨r, 1, none⟩ = some (.slice qa ql qc) ∧ wr.frozen? ⟨r, 1, none⟩ = false ∧ Own wr 84 2 (.slice qa ql qc) ql (cellsQ a.q)) := fun wr hg => by
    have := h1.grown hg
    have h2 := this.cell.2.1
    have h3 := this.qo
    have e : Value.slice qa ({ a with fl := setL a.fl ⟨f, s, s⟩ } : RS).q.length qc = .slice qa ql qc := by show Value.slice qa a.q.length qc = _; rw [hql]
    rw [e] at h2 h3
    refine ⟨h2, this.froz 1, ?_⟩
    have h4 : Own wr 84 2 (.slice qa ql qc) a.q.length (cellsQ a.q) := h3
    rw [hql] at h4
    exact h4
  have H0 : Hid (OutQ w1 w1 (.slice none 0 0) (keepQ a.q f 0)) := ⟨by simp [keepQ, cellsQ]; exact Own.nil _ _ _, fun b hb => (by cases hb), ⟨rfl, rfl, rfl, Nat.le_refl _, fun _ _ _ => rfl⟩⟩
  clear h1 hbut hql hc1 HS
  go_wp2_with fail
  go_loopw [6, 7] (fun ov i wr => ∃ k : Nat, k ≤ ql ∧ i = .int .i64 k ∧ Hid (OutQ w1 wr ov (keepQ a.q f k))) (fun _ i _ => ql - (RowKit.intOf i).toNat)
  case atStart => exact ⟨0, by omega, rfl, H0⟩
  case round =>
    clear H0
    obtain ⟨k, hk, rfl, hat⟩ := hrel
    obtain ⟨c1, z1, hqo⟩ := KR.out _ hat.out.grown
    obtain ⟨oa, oc, rfl, _, _⟩ := hat.out.own.shape
    obtain ⟨ol, hol⟩ : ∃ ol, (keepQ a.q f k).length = ol := ⟨_, rfl⟩
    rw [hol] at hat
    have hol2 : ol ≤ 10000000 := by have := keepQ_len a.q f k; rw [hol, HQL.out] at this; omega
    have HOL := Lib.hid hol
    rw [hol]
    clear hol
    by_cases hlt : k < ql
    · have hkl : k < a.q.length := by rw [HQL.out]; exact hlt
      obtain ⟨g, rfl, y0, y1⟩ := qcells hqo k hkl
      obtain ⟨e1, e2⟩ := keepQ_step (n := f) hkl
      obtain ⟨y, hy⟩ : ∃ y, a.q[k] = y := ⟨_, rfl⟩
      rw [hy] at y0 y1 e1 e2
      by_cases hyn : y.1 = f
      · have H2 : Hid (OutQ w1 wr (.slice oa ol oc) (keepQ a.q f (k + 1))) := by unfold Hid; rw [e1 hyn]; exact hat.out
        rw [hyn] at y0
        clear e1 e2 hyn hy hqo
        go_wp2_with fail
        go_roundw
        case rel => exact ⟨k + 1, by omega, by go_num, H2⟩
        case measure => simp [RowKit.intOf]; omega
      · have hyn1 : (y.1 == f) = false := by simpa using hyn
        have hyn2 : decide (y.1 = f) = false := by simpa using hyn
        have hyn3 : (y.1 != f) = true := by simpa using hyn
        obtain ⟨a', n', c', w', hrun, hout⟩ := hat.out.push y (by rw [HOL.out]; exact hol2)
        have H2 : Hid (OutQ w1 w' (.slice a' n' c') (keepQ a.q f (k + 1))) := by unfold Hid; rw [e2 hyn]; exact hout
        clear e1 e2 hyn hy hqo hout
        go_wp2_with (at_builtin; refine Lib.wpList_append_run _ rfl _ _ _ _ rfl _ _ rfl rfl _ _ hrun ?_)
        go_roundw
        case rel => exact ⟨k + 1, by omega, by go_num, H2⟩
        case measure => simp [RowKit.intOf]; omega
    · have hkk : keepQ a.q f k = a.q.filter (notF f) := by
        unfold keepQ; rw [List.take_of_length_le (by rw [HQL.out]; omega)]
      have hout := hat.out
      have hgw := hout.grown
      have HFIN : Hid (RAf S r (settleR a f s) w (wr.setCell ⟨r, 1, none⟩ (.slice oa ol oc))) := by
        refine HA.out.trans ?_
        have hm := H1.out
        have hq2 := hm.queue (w1 := wr) (qv' := .slice oa ol oc) (q' := a.q.filter (notF f)) ⟨hgw.os, hgw.tape, hgw.output, hgw.size, fun k hk _ => hgw.block k hk (by simp)⟩ (by rw [← hkk, HOL.out]; have := hout.own; rw [HOL.out] at this; exact this) fun b hb => .inr (hout.new b hb)
        exact hq2
      clear hkk hout hgw hqo
      go_wp2_with fail
      go_end0
      exact ⟨rfl, HFIN.out⟩
end Go.Proofs.YtejddacjncpneaaGreatDoor.Di
