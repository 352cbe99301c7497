/- The reference's Put, walked. -/
import Derived.Test.YtejddacjncpneaaGreatDoorDiE3
set_option maxRecDepth 100000
namespace Go.Proofs.YtejddacjncpneaaGreatDoor.Di
open Go.RowKit Go.ChangeShapes Go.WideShapes

theorem own_temp (w : World) (e size : Nat) (C : Array Value) (hc : C.size = size) (_h0 : 0 < size) : Own (w.alloc (.cells C e)) e size (.slice (some ⟨w.heap.size, 0, none⟩) 1 1) 1 C.toList := by
  refine ⟨by simp [hc], .inr ⟨w.heap.size, 1, C, rfl, (MapKept.heap_alloc w _).1, Nat.le_refl _, by omega, by unfold maxLen; omega, by rw [hc]; omega, ?_⟩⟩
  rw [Nat.one_mul, ← hc]
  exact List.take_of_length_le (by simp)
def BufAt (B : Nat) (w wr : World) (bv : Value) (l : List UInt8) : Prop := Buf B wr bv l ∧ Below B w wr

set_option maxHeartbeats 2000000 in
theorem put_r (s t : ByteArray) (k : Nat) (ht : 0 < t.size) (hb : k + t.size ≤ 16777216) (hs : s.size ≤ 16777216) (w : World) :
    Calls Tryz.prog 75 #[.string s, .int .i64 k, .string t] w fun e w' => e = .returned (.string ⟨(putL s.data.toList k t.data.toList).toArray⟩) ∧ Below w.heap.size w w' := by
  have hss : s.data.toList.length = s.size := (Lib.size_eq s).symm
  have hts : t.data.toList.length = t.size := (Lib.size_eq t).symm
  obtain ⟨l, hl⟩ : ∃ l, s.data.toList = l := ⟨_, rfl⟩
  obtain ⟨v0, w0, hconv, hbuf, hg⟩ := buf_of_string w s (by unfold maxLen; omega)
  rw [hl] at hbuf hss ⊢
  have H0 : Hid (BufAt w.heap.size w w0 v0 (l ++ List.replicate 0 0)) := ⟨by simpa using hbuf, ⟨hg.os, hg.tape, hg.output, hg.size, fun k hk => hg.block k hk (by simp)⟩⟩
  obtain ⟨g0, cap0, hv0, _, _⟩ := hbuf
  subst hv0
  have hne : (!t.toList.isEmpty) = true := by
    have : t.toList = t.data.toList := ByteArray.toList_eq t
    rw [this]
    cases e : t.data.toList with
    | nil => rw [e] at hts; simp at hts; omega
    | cons x r => rfl
  have hne2 : t.toList.isEmpty = false := by simpa using hne
  have HSS := Lib.hid hss
  have HTS := Lib.hid hts
  have hls : l.length ≤ 16777216 := by omega
  clear hg hss hts hl
  go_enter Tryz.func75, Tryz.ntmps75
  go_wp2_with fail
  go_loopw [7] (fun bv wr => ∃ m : Nat, (m = 0 ∨ l.length + m ≤ k + t.size) ∧ Hid (BufAt w.heap.size w wr bv (l ++ List.replicate m 0)) ∧ ∃ g cap, bv = .slice (some ⟨g, 0, none⟩) (l.length + m) cap) (fun bv _ => match bv with | .slice _ n _ => k + t.size - n | _ => 0)
  case atStart => exact ⟨0, .inl rfl, H0, g0, cap0, rfl⟩
  case round =>
    clear H0 hconv
    obtain ⟨m, hm, hat, g, cap, rfl⟩ := hrel
    by_cases hlt : l.length + m < k + t.size
    · have h1 : (wr.alloc (.cells #[.int .u8 0] 5)).heap.size = wr.heap.size + 1 := by simp
      have hga : wr.grownBy (wr.alloc (.cells #[.int .u8 0] 5)) none := World.grownBy_alloc _ _ _
      have hown := own_temp wr 5 1 #[.int .u8 0] rfl (by omega)
      have hsrc := hown.src (P := Tryz.prog) (tx := 78) (e' := 5) Tryz.underlying78 (fun u hu => by simp at hu; subst hu; rfl)
      have hz := hat.out.2.size
      obtain ⟨v', w', hrun, hbuf', hbel⟩ := buf_push (hat.out.1.grown hga) (by rw [h1]; omega) (by simp; omega) hsrc
      obtain ⟨g', cap', rfl, _, _⟩ := id hbuf'
      have e : (l ++ List.replicate m 0) ++ [0] = l ++ List.replicate (m + 1) 0 := by rw [List.append_assoc, List.replicate_succ']
      rw [e] at hbuf' hrun
      have hl1 : (l ++ List.replicate (m + 1) (0 : UInt8)).length = l.length + (m + 1) := by simp
      rw [hl1] at hrun hbuf'
      have H1 : Hid (BufAt w.heap.size w w' (.slice (some ⟨g', 0, none⟩) (l.length + (m + 1)) cap') (l ++ List.replicate (m + 1) 0)) := ⟨hbuf', (hat.out.2.trans ⟨hga.os, hga.tape, hga.output, hga.size, fun k hk => hga.block k (by omega) (by simp)⟩).trans hbel⟩
      clear hbuf' hbel hsrc hown hga h1 e hl1
      go_wp2_with (at_builtin; refine Lib.wpList_append_run _ rfl _ _ _ _ rfl _ _ rfl rfl _ _ hrun ?_)
      go_roundw
      case rel => exact ⟨m + 1, .inr (by omega), H1, g', cap', rfl⟩
      case measure => simp; omega
    · have hm' : m = k + t.size - l.length := by rcases hm with h | h <;> omega
      have H0 : Hid (BufAt w.heap.size w wr (.slice (some ⟨g, 0, none⟩) (l.length + m) cap) (fillL (l ++ List.replicate m 0) k t.data.toList 0)) := by
        unfold Hid; rw [fillL_zero]; exact hat.out
      have hbl : k + t.size ≤ l.length + m := by omega
      have HM := Lib.hid hm'
      clear hat hm' hm
      go_wp2_with fail
      go_loopw [8] (fun i wr => ∃ j : Nat, j ≤ t.size ∧ i = .int .i64 j ∧ Hid (BufAt w.heap.size w wr (.slice (some ⟨g, 0, none⟩) (l.length + m) cap) (fillL (l ++ List.replicate m 0) k t.data.toList j))) (fun i _ => t.size - (RowKit.intOf i).toNat)
      case atStart => exact ⟨0, by omega, rfl, H0⟩
      case round =>
        clear H0
        obtain ⟨j, hj, rfl, hat⟩ := hrel
        have hbase : k + t.data.toList.length ≤ (l ++ List.replicate m (0 : UInt8)).length := by rw [HTS.out]; simp; omega
        have hfl := fillL_len hbase (i := j) (by rw [HTS.out]; exact hj)
        by_cases hjt : j < t.size
        · have hjt' : j < t.data.toList.length := by rw [HTS.out]; exact hjt
          have hst := fillL_step hbase hjt'
          obtain ⟨g', cap', hv', q1, q2, ⟨u, q3⟩, q4, q5, q6⟩ := buf_store hat.out.1 (k + j) (by rw [hfl]; simp; omega) (t.data.toList[j]'hjt')
          have hgg : g = g' ∧ cap = cap' := by
            injection hv' with e1 e2 e3
            injection e1 with e1
            injection e1 with e1
            exact ⟨e1, e3⟩
          obtain ⟨rfl, rfl⟩ := hgg
          rw [hfl] at q1
          have hbyte : (t.data.toList[j]'hjt') = t[j]'hjt := rfl
          have H1 : Hid (BufAt w.heap.size w (wr.setCell ⟨g, k + j, none⟩ (.int .u8 ((t[j]'hjt).toNat : Int))) (.slice (some ⟨g, 0, none⟩) (l.length + m) cap) (fillL (l ++ List.replicate m 0) k t.data.toList (j + 1))) := by
            rw [← hbyte]
            exact ⟨by rw [hst]; exact q5, hat.out.2.trans ⟨q6.os, q6.tape, q6.output, q6.size, fun i hi => q6.block i hi⟩⟩
          have qc : l.length + m ≤ cap := by simpa using q1
          clear q1 q5 q6 hv' hst hbyte hfl hbase hat
          go_wp2_with fail
          go_roundw
          case rel => exact ⟨j + 1, by omega, by go_num, H1⟩
          case measure => simp [RowKit.intOf]; omega
        · have hjj : j = t.data.toList.length := by rw [HTS.out]; omega
          have hstr := buf_string hat.out.1
          rw [hjj, HM.out, ← HTS.out, fillL_put] at hstr
          have HB : Hid (Below w.heap.size w wr) := hat.out.2
          rw [HTS.out, ← HM.out] at hstr
          clear hjj hfl hbase hat
          go_wp2_with fail
          go_ret
          exact ⟨rfl, HB.out⟩
end Go.Proofs.YtejddacjncpneaaGreatDoor.Di
