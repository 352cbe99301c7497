/- The contracts of Sync and Truncate. The contract of Truncate. The contract of Write. The contract of Write where it writes. One or two disks above a bound. Plain mathematics of the laws of layer disk. No program. Plain mathematics of DiskSynced. Plain mathematics of DiskArms. Plain mathematics of DiskSurvives. -/
import Derived.Test.YtejddacjncpneaaGreatDoorDi3
import Derived.Test.YtejddacjncpneaaGreatDoorDi1
set_option maxRecDepth 100000
namespace Go.Proofs.YtejddacjncpneaaGreatDoor.Di
open Go.RowKit Go.ChangeShapes Go.WideShapes
attribute [local go_sem ↓] Go.wp_at_zero Go.wp_at_succ

theorem goes_b {S : Nat → Prop} {p : Rep} {st : St} {w : World} (h : IsD S p st w) {b : Bool} (hb : (goes st).down = b) :
    Calls Tryz.prog 55 #[.pointer (some ⟨p.r, 0, none⟩)] w fun e w' => e = .returned (.bool b) ∧ Af S p.r (goes st) w w' := by
  rw [← hb]; exact goes_any h
theorem isF_tf {f : Int} (h : ¬ isF f = false) : isF f = true := by simpa using h
theorem settle_full {S : Nat → Prop} {p : Rep} {st : St} {w : World} (h : IsD S p st w) (f : Int) (hf : isF f = true) :
    Calls Tryz.prog 56 #[.pointer (some ⟨p.r, 0, none⟩), .int .i64 f] w fun e w' => e = .returned (.tuple #[]) ∧ Af S p.r (settle st f) w w' :=
  (settle_any h.core f hf h.wf.qlen (h.wf.len f) (fun s hs => ⟨(h.wf.q s hs).1, by have := (h.wf.q s hs).2; have := h.wf.len s.1; omega⟩) h.wf.nd).mono fun e w' ⟨he, p', hr, hc, hb⟩ => ⟨he, ⟨p', hr, hc.full (settle_wf h.wf hf)⟩, hb⟩

set_option maxHeartbeats 1000000 in
theorem sync_any {S : Nat → Prop} {p : Rep} {st : St} {w : World} (h : IsD S p st w) (f : Int) (_hf : -9223372036854775808 ≤ f ∧ f ≤ 9223372036854775807) :
    Calls Tryz.prog 33 #[.pointer (some ⟨p.r, 0, none⟩), .int .i64 f] w fun e w' => e = .returned (.int .i64 (syncR st f)) ∧ Af S p.r (sync st f) w w' := by
  by_cases hd : (goes st).down = true
  · have HG := Lib.hid (goes_b h hd)
    have HR : Hid (syncR st f = 8) := by unfold Hid syncR; rw [if_pos hd]
    have HS : Hid (sync st f = goes st) := by unfold Hid sync; rw [if_pos (.inl hd)]
    clear h hd
    go_enter Tryz.func33, Tryz.ntmps33
    go_wp2_with fail
    refine HG.out.mono ?_
    rintro e w1 ⟨rfl, haf⟩
    have HAF := Lib.hid haf
    clear haf
    go_wp2_with fail
    go_ret
    rw [HR.out, HS.out]
    exact ⟨rfl, HAF.out⟩
  · have hd' : (goes st).down = false := by simpa using hd
    have HG := Lib.hid (goes_b h hd')
    by_cases h1 : isF f = false
    · have HR : Hid (syncR st f = 1) := by unfold Hid syncR; rw [if_neg hd, if_pos h1]
      have HS : Hid (sync st f = goes st) := by unfold Hid sync; rw [if_pos (.inr h1)]
      have HF := Lib.hid h1
      clear h hd hd' h1
      go_enter Tryz.func33, Tryz.ntmps33
      go_wp2_with fail
      refine HG.out.mono ?_
      rintro e w1 ⟨rfl, haf⟩
      have HAF := Lib.hid haf
      clear haf
      go_wp2_with (go_at_call 50; refine (isFile_f f HF.out _).mono ?_; rintro e w' ⟨rfl, rfl⟩)
      go_ret
      rw [HR.out, HS.out]
      exact ⟨rfl, HAF.out⟩
    · have HF := Lib.hid (isF_tf h1)
      have hno : ¬ ((goes st).down = true ∨ isF f = false) := fun e => e.elim hd h1
      by_cases h2 : (goes st).lost > 0
      · have HR : Hid (syncR st f = 9) := by unfold Hid syncR; rw [if_neg hd, if_neg h1, if_pos h2]
        have HS : Hid (sync st f = { goes st with lost := (goes st).lost - 1 }) := by unfold Hid sync; rw [if_neg hno, if_pos h2]
        have HW : Hid (WF (sync st f)) := sync_wf h.wf f
        have HLB : Hid (0 ≤ (goes st).lost ∧ (goes st).lost ≤ 9223372036854775807) := (goes_wf h.wf).lost
        obtain ⟨n, hn⟩ : ∃ n, (goes st).lost = n := ⟨_, rfl⟩
        have HN := Lib.hid hn
        rw [hn] at h2
        clear h hd hd' h1 hno hn
        go_enter Tryz.func33, Tryz.ntmps33
        go_wp2_with fail
        refine HG.out.mono ?_
        rintro e w1 ⟨rfl, haf⟩
        have HAF := Lib.hid haf
        clear haf
        obtain ⟨⟨p1, hp1, hd1⟩, hb1⟩ := HAF.out
        have c5 := hd1.cell.2.2.2.2.2.1
        have f5 := hd1.froz 5
        rw [hp1] at c5 f5
        rw [HN.out] at c5
        have hlb := HLB.out
        rw [HN.out] at hlb
        have HFIN : Hid (Af S p.r (sync st f) w (w1.setCell ⟨p.r, 5, none⟩ (.int .i64 (n - 1)))) := by
          refine HAF.out.trans ?_
          have hw := HW.out
          rw [HS.out] at hw ⊢
          have := hd1.stepR (p' := p1) (st' := { goes st with lost := (goes st).lost - 1 }) rfl (grownBy_setCell' w1 p1.r 5 (.int .i64 (n - 1))) (by have := Lib.heap_setCell_same (i := 5) (hd1.holds .r) (.int .i64 (n - 1)); rw [← HN.out] at this ⊢; exact this) (fun s hs => ⟨fun hh => by cases s <;> first | exact hh | exact absurd rfl hs, rfl⟩) hw
          rw [hp1] at this
          exact ⟨⟨p1, hp1, this.1⟩, this.2⟩
        have HB := Lib.hid hb1
        clear hd1 hb1 hp1
        go_wp2_with (go_at_call 50; refine (isFile_t f HF.out _).mono ?_; rintro e w' ⟨rfl, rfl⟩)
        go_ret
        rw [HR.out]
        exact ⟨rfl, HFIN.out⟩
      · have HR : Hid (syncR st f = 0) := by unfold Hid syncR; rw [if_neg hd, if_neg h1, if_neg h2]
        have HS : Hid (sync st f = settle (goes st) f) := by unfold Hid sync; rw [if_neg hno, if_neg h2]
        have HLB : Hid (0 ≤ (goes st).lost ∧ (goes st).lost ≤ 9223372036854775807) := (goes_wf h.wf).lost
        obtain ⟨n, hn⟩ : ∃ n, (goes st).lost = n := ⟨_, rfl⟩
        have HN := Lib.hid hn
        rw [hn] at h2
        have h2' : decide (0 < n) = false := by simpa using h2
        clear h hd hd' h1 hno hn
        go_enter Tryz.func33, Tryz.ntmps33
        go_wp2_with fail
        refine HG.out.mono ?_
        rintro e w1 ⟨rfl, haf⟩
        have HAF := Lib.hid haf
        clear haf
        obtain ⟨⟨p1, hp1, hd1⟩, hb1⟩ := HAF.out
        have c5 := hd1.cell.2.2.2.2.2.1
        rw [hp1] at c5
        rw [HN.out] at c5
        have HST := Lib.hid (settle_full hd1 f HF.out)
        rw [hp1] at HST
        clear hd1 hb1 hp1
        go_wp2_with (go_at_call 50; refine (isFile_t f HF.out _).mono ?_; rintro e w' ⟨rfl, rfl⟩)
        refine HST.out.mono ?_
        rintro e w2 ⟨rfl, haf2⟩
        have HAF2 := Lib.hid haf2
        clear haf2
        go_wp2_with fail
        go_ret
        rw [HR.out, HS.out]
        exact ⟨rfl, HAF.out.trans HAF2.out⟩
end Go.Proofs.YtejddacjncpneaaGreatDoor.Di

namespace Go.Proofs.YtejddacjncpneaaGreatDoor.Di
open Go.RowKit Go.ChangeShapes Go.WideShapes
attribute [local go_sem ↓] Go.wp_at_zero Go.wp_at_succ

theorem grew_trans {S : Nat → Prop} {a b c : World} (h1 : a.heap.size ≤ b.heap.size) (h2 : b.heap.size ≤ c.heap.size) (i : Nat) (h : Grew (Grew S a b) b c i) : Grew S a c i := by
  rcases h with (h | ⟨h3, h4⟩) | ⟨h3, h4⟩
  · exact .inl h
  · exact .inr ⟨h3, by omega⟩
  · exact .inr ⟨by omega, h4⟩

set_option maxHeartbeats 1000000 in
theorem trunc_err {S : Nat → Prop} {p : Rep} {st : St} {w : World} (h : IsD S p st w) (f n : Int) (hf : -9223372036854775808 ≤ f ∧ f ≤ 9223372036854775807) (hn : -9223372036854775808 ≤ n ∧ n ≤ 9223372036854775807)
    (hx : (goes st).down = true ∨ isF f = false ∨ n < 0 ∨ n > ((goes st).now f).length) :
    Calls Tryz.prog 35 #[.pointer (some ⟨p.r, 0, none⟩), .int .i64 f, .int .i64 n] w fun e w' => e = .returned (.int .i64 (truncR st f n)) ∧ Af S p.r (trunc st f n) w w' := by
  have HS : Hid (trunc st f n = goes st) := by unfold Hid trunc; rw [if_pos hx]
  by_cases hd : (goes st).down = true
  · have HG := Lib.hid (goes_b h hd)
    have HR : Hid (truncR st f n = 8) := by unfold Hid truncR; rw [if_pos hd]
    clear h hd hx
    go_enter Tryz.func35, Tryz.ntmps35
    go_wp2_with fail
    refine HG.out.mono ?_
    rintro e w1 ⟨rfl, haf⟩
    have HAF := Lib.hid haf
    clear haf
    go_wp2_with fail
    go_ret
    rw [HR.out, HS.out]
    exact ⟨rfl, HAF.out⟩
  · have hd' : (goes st).down = false := by simpa using hd
    have HG := Lib.hid (goes_b h hd')
    have hx' : isF f = false ∨ n < 0 ∨ n > ((goes st).now f).length := hx.resolve_left hd
    have HR : Hid (truncR st f n = 1) := by unfold Hid truncR; rw [if_neg hd, if_pos hx']
    by_cases h1 : isF f = false
    · have HF := Lib.hid h1
      clear h hd hd' h1 hx hx'
      go_enter Tryz.func35, Tryz.ntmps35
      go_wp2_with fail
      refine HG.out.mono ?_
      rintro e w1 ⟨rfl, haf⟩
      have HAF := Lib.hid haf
      clear haf
      go_wp2_with (go_at_call 50; refine (isFile_f f HF.out _).mono ?_; rintro e w' ⟨rfl, rfl⟩)
      go_ret
      rw [HR.out, HS.out]
      exact ⟨rfl, HAF.out⟩
    · have HF := Lib.hid (isF_tf h1)
      by_cases h2 : n < 0
      · clear h hd hd' h1 hx hx'
        go_enter Tryz.func35, Tryz.ntmps35
        go_wp2_with fail
        refine HG.out.mono ?_
        rintro e w1 ⟨rfl, haf⟩
        have HAF := Lib.hid haf
        clear haf
        go_wp2_with (go_at_call 50; refine (isFile_t f HF.out _).mono ?_; rintro e w' ⟨rfl, rfl⟩)
        go_ret
        rw [HR.out, HS.out]
        exact ⟨rfl, HAF.out⟩
      · have h3 := (hx'.resolve_left h1).resolve_left h2
        have h20 : 0 ≤ n := by omega
        have h2' : decide (n < 0) = false := by simpa using h2
        obtain ⟨l, hl⟩ : ∃ l, ((goes st).now f).length = l := ⟨_, rfl⟩
        have HL := Lib.hid hl
        rw [hl] at h3
        have h3' : (l : Int) < n := h3
        clear h hd hd' h1 hx hx' h2 hl h3
        go_enter Tryz.func35, Tryz.ntmps35
        go_wp2_with fail
        refine HG.out.mono ?_
        rintro e w1 ⟨rfl, haf⟩
        have HAF := Lib.hid haf
        clear haf
        obtain ⟨⟨p1, hp1, hd1⟩, hb1⟩ := HAF.out
        have hsz := size_any hd1 f hf
        rw [hp1, HL.out] at hsz
        have HSZ := Lib.hid hsz
        clear hd1 hb1 hp1 hsz
        go_wp2_with (first | (go_at_call 50; refine (isFile_t f HF.out _).mono ?_; rintro e w' ⟨rfl, rfl⟩) | (go_at_call 27; refine HSZ.out.mono ?_; rintro e w' ⟨rfl, rfl⟩))
        go_ret
        rw [HR.out, HS.out]
        exact ⟨rfl, HAF.out⟩

set_option maxHeartbeats 1000000 in
theorem trunc_ok {S : Nat → Prop} {p : Rep} {st : St} {w : World} (h : IsD S p st w) (f : Int) (n : Nat) (hd : (goes st).down = false) (hf : isF f = true) (hn : n ≤ ((goes st).now f).length) :
    Calls Tryz.prog 35 #[.pointer (some ⟨p.r, 0, none⟩), .int .i64 f, .int .i64 n] w fun e w' => e = .returned (.int .i64 0) ∧ Af S p.r (cut (goes st) f n) w w' := by
  have HG := Lib.hid (goes_b h hd)
  have HF := Lib.hid hf
  have hfr := isF_t.1 hf
  have hnn : decide ((n : Int) < 0) = false := by simp
  obtain ⟨l, hl⟩ : ∃ l, ((goes st).now f).length = l := ⟨_, rfl⟩
  have hll : l ≤ 16777216 := by rw [← hl]; exact (goes_wf h.wf).len f
  have HL := Lib.hid hl
  rw [hl] at hn
  clear h hd hf hl
  go_enter Tryz.func35, Tryz.ntmps35
  go_wp2_with fail
  refine HG.out.mono ?_
  rintro e w1 ⟨rfl, haf⟩
  have HAF := Lib.hid haf
  clear haf
  obtain ⟨⟨p1, hp1, hd1⟩, hb1⟩ := HAF.out
  have hsz := size_any hd1 f (by omega)
  rw [hp1, HL.out] at hsz
  have HSZ := Lib.hid hsz
  obtain ⟨fa, fc, hlf, hof, hbf, hc1, hc2⟩ := hd1.lookF f (by omega)
  have hlF := hlf w1.drew rfl
  have hown : OwnB w1.drew (.slice fa n fc) (((goes st).now f).take n) := by
    have := (Own.take hof (m := n) (by rw [HL.out]; exact hn)).grown0 (grown_drew w1)
    unfold OwnB
    rw [Nat.mul_one] at this
    have e1 : (((goes st).now f).take n).length = n := by rw [List.length_take, HL.out]; omega
    have e2 : (Lib.byteCells ((goes st).now f)).take n = Lib.byteCells (((goes st).now f).take n) := by simp [Lib.byteCells, List.map_take]
    rw [e1, ← e2]
    exact this
  have hblk : blk (.slice fa n fc) = p1.at (.f f) := by rw [← hbf]; cases fa <;> cases fc <;> rfl
  obtain ⟨w2, hup, hc2', hb2, hg2, hs2⟩ := hd1.core.fput f (by omega) ((grown_drew w1).but _) hown (.inr (.inl hblk))
  have HST : Hid (Calls Tryz.prog 56 #[.pointer (some ⟨p.r, 0, none⟩), .int .i64 f] w2 fun e w' => e = .returned (.tuple #[]) ∧ Af S p.r (cut (goes st) f n) w w') := by
    have hwf := hd1.wf
    have hs := settle_any hc2' f HF.out hwf.qlen (by show (upd (goes st).now f (((goes st).now f).take n) f).length ≤ _; rw [upd_same, List.length_take]; have := hwf.len f; omega) (fun s hs => ⟨(hwf.q s hs).1, by have := (hwf.q s hs).2; have := hwf.len s.1; omega⟩) hwf.nd
    have hr2 : Rep.r { p1 with fv := upd p1.fv f (some (.slice fa n fc)) } = p.r := hp1
    rw [hr2] at hs
    refine hs.mono fun e w' ⟨he, p', hr, hc, hb⟩ => ⟨he, HAF.out.trans ⟨⟨p', hr, ?_⟩, ?_⟩⟩
    · exact (hc.full (cut_wf hwf HF.out)).mono (grew_trans hb2.size hb.size)
    · exact (hb2.mono fun i ⟨s, _, h⟩ => hd1.inS s i h).trans hb fun i hi h => by
        rcases h with h | ⟨h1, _⟩
        · exact h
        · omega
  have c0 : w1.cell? ⟨p.r, 0, none⟩ = some (.map (some p1.fm)) := by rw [← hp1]; exact hd1.cell.1
  rw [HL.out] at hlF hc1
  clear hd1 hb1 hp1 hsz hlf hof hbf hown hblk hc2' hb2 hg2 hs2
  go_wp2_with (first | (go_at_call 50; refine (isFile_t f HF.out _).mono ?_; rintro e w' ⟨rfl, rfl⟩) | (go_at_call 27; refine HSZ.out.mono ?_; rintro e w' ⟨rfl, rfl⟩))
  go_region
  go_wp2_with fail
  refine HST.out.mono ?_
  rintro e w3 ⟨rfl, haf3⟩
  have HAF3 := Lib.hid haf3
  clear haf3
  go_wp2_with fail
  go_ret
  exact ⟨rfl, HAF3.out⟩

theorem trunc_any {S : Nat → Prop} {p : Rep} {st : St} {w : World} (h : IsD S p st w) (f n : Int) (hf : -9223372036854775808 ≤ f ∧ f ≤ 9223372036854775807) (hn : -9223372036854775808 ≤ n ∧ n ≤ 9223372036854775807) :
    Calls Tryz.prog 35 #[.pointer (some ⟨p.r, 0, none⟩), .int .i64 f, .int .i64 n] w fun e w' => e = .returned (.int .i64 (truncR st f n)) ∧ Af S p.r (trunc st f n) w w' := by
  by_cases hx : (goes st).down = true ∨ isF f = false ∨ n < 0 ∨ n > ((goes st).now f).length
  · exact trunc_err h f n hf hn hx
  · have h1 : (goes st).down = false := by cases e : (goes st).down <;> simp_all
    have h2 : isF f = true := by cases e : isF f <;> simp_all
    have h3 : 0 ≤ n := by
      have : ¬ n < 0 := fun e => hx (.inr (.inr (.inl e)))
      omega
    have h4 : n ≤ ((goes st).now f).length := by
      have : ¬ n > ((goes st).now f).length := fun e => hx (.inr (.inr (.inr e)))
      omega
    obtain ⟨n, rfl⟩ : ∃ k : Nat, n = k := ⟨n.toNat, by omega⟩
    have e1 : trunc st f n = cut (goes st) f n := by unfold trunc; rw [if_neg hx]; simp
    have e2 : truncR st f n = 0 := by unfold truncR; rw [if_neg (by simp [h1]), if_neg (fun e => hx (.inr e))]
    rw [e1, e2]
    exact trunc_ok h f n h1 h2 (by omega)
end Go.Proofs.YtejddacjncpneaaGreatDoor.Di

namespace Go.Proofs.YtejddacjncpneaaGreatDoor.Di
open Go.RowKit Go.ChangeShapes Go.WideShapes
attribute [local go_sem ↓] Go.wp_at_zero Go.wp_at_succ

theorem now_wf {st : St} (h : WF st) {f : Int} {l : List UInt8} (hf : isF f = true) (h1 : (st.now f).length ≤ l.length) (h2 : l.length ≤ 16777216) : WF { st with now := upd st.now f l } := by
  refine ⟨fun g hg => ?_, fun g => ?_, fun g => ?_, fun s hs => ?_, h.nd, h.lost, h.calls, h.keep⟩
  · have : g ≠ f := fun e => by rw [e, hf] at hg; cases hg
    simp only [upd_other _ _ this]; exact h.nf g hg
  · by_cases e : g = f
    · subst e; simp only [upd_same]; exact h2
    · simp only [upd_other _ _ e]; exact h.len g
  · by_cases e : g = f
    · subst e; simp only [upd_same]; have := h.dl g; omega
    · simp only [upd_other _ _ e]; exact h.dl g
  · have := h.q s hs
    refine ⟨this.1, ?_⟩
    by_cases e : s.1 = f
    · simp only [e, upd_same]; have h3 := this.2; rw [e] at h3; omega
    · simp only [upd_other _ _ e]; exact this.2

/-- Nothing is written. -/
theorem write_no {S : Nat → Prop} {p : Rep} {st : St} {w : World} (h : IsD S p st w) (f a : Int) (s : ByteArray) (hf : -9223372036854775808 ≤ f ∧ f ≤ 9223372036854775807) (ha : -9223372036854775808 ≤ a ∧ a ≤ 9223372036854775807) (hs : s.size ≤ 4611686018427387904)
    (hx : chk st f a s.size ≠ 0 ∨ s.size = 0) :
    Calls Tryz.prog 30 #[.pointer (some ⟨p.r, 0, none⟩), .int .i64 f, .int .i64 a, .string s] w fun e w' => e = .returned (.int .i64 (writeR st f a s.data.toList)) ∧ Af S p.r (write st f a s.data.toList) w w' := by
  have hsz : s.data.toList.length = s.size := (Lib.size_eq s).symm
  have hw : write st f a s.data.toList = goes st := by
    unfold write
    rw [hsz]
    split
    · rename_i hc
      have h0 := hx.resolve_left (fun e => e hc)
      have : s.data.toList = [] := List.eq_nil_of_length_eq_zero (by omega)
      unfold wr
      rw [if_pos this]
    · rfl
  have HW := Lib.hid hw
  have HC := Lib.hid (check_any h f a s.size hf ha hs)
  obtain ⟨c, hc⟩ : ∃ c, chk st f a s.size = c := ⟨_, rfl⟩
  have hcb : c = 0 ∨ c = 1 ∨ c = 6 ∨ c = 8 := by
    rw [← hc]; unfold chk; split
    · simp
    · split
      · simp
      · split <;> simp
  rw [hc] at HC hx
  by_cases hd : (goes st).down = true
  · have HG := Lib.hid (goes_b h hd)
    have HR : Hid (writeR st f a s.data.toList = 8) := by unfold Hid writeR; rw [hw, if_pos hd]
    clear h hd hw hsz hc hf ha
    rcases hx with hx | hx
    · have hc0 : decide (c = 0) = false := by simpa using hx
      have hc1 : (c == 0) = false := by simpa using hx
      clear hcb
      go_enter Tryz.func30, Tryz.ntmps30
      go_wp2_with (first | (go_at_call 53; refine HC.out.mono ?_; rintro e w' ⟨rfl, rfl⟩) | (go_at_call 55; refine HG.out.mono ?_; rintro e w1 ⟨rfl, haf⟩))
      go_ret
      rw [HR.out, HW.out]
      exact ⟨rfl, haf⟩
    · have hse : s = ⟨#[]⟩ := by
        have : s.data.size = 0 := hx
        cases s; congr; exact Array.eq_empty_of_size_eq_zero this
      subst hse
      clear hx hs
      by_cases hc0 : c = 0
      · subst hc0
        clear hcb
        go_enter Tryz.func30, Tryz.ntmps30
        go_wp2_with (first | (go_at_call 53; refine HC.out.mono ?_; rintro e w' ⟨rfl, rfl⟩) | (go_at_call 55; refine HG.out.mono ?_; rintro e w1 ⟨rfl, haf⟩))
        go_ret
        rw [HR.out, HW.out]
        exact ⟨rfl, haf⟩
      · have hc1 : (c == 0) = false := by simpa using hc0
        have hc2 : decide (c = 0) = false := by simpa using hc0
        clear hcb hc0
        go_enter Tryz.func30, Tryz.ntmps30
        go_wp2_with (first | (go_at_call 53; refine HC.out.mono ?_; rintro e w' ⟨rfl, rfl⟩) | (go_at_call 55; refine HG.out.mono ?_; rintro e w1 ⟨rfl, haf⟩))
        go_ret
        rw [HR.out, HW.out]
        exact ⟨rfl, haf⟩
  · have hd' : (goes st).down = false := by simpa using hd
    have HG := Lib.hid (goes_b h hd')
    have HR : Hid (writeR st f a s.data.toList = c) := by unfold Hid writeR; rw [hw, if_neg hd, hsz, hc]
    clear h hd hd' hw hsz hc hf ha
    rcases hx with hx | hx
    · have hc0 : decide (c = 0) = false := by simpa using hx
      have hc1 : (c == 0) = false := by simpa using hx
      clear hcb
      go_enter Tryz.func30, Tryz.ntmps30
      go_wp2_with (first | (go_at_call 53; refine HC.out.mono ?_; rintro e w' ⟨rfl, rfl⟩) | (go_at_call 55; refine HG.out.mono ?_; rintro e w1 ⟨rfl, haf⟩))
      go_ret
      rw [HR.out, HW.out]
      exact ⟨rfl, haf⟩
    · have hse : s = ⟨#[]⟩ := by
        have : s.data.size = 0 := hx
        cases s; congr; exact Array.eq_empty_of_size_eq_zero this
      subst hse
      clear hx hs
      by_cases hc0 : c = 0
      · subst hc0
        clear hcb
        go_enter Tryz.func30, Tryz.ntmps30
        go_wp2_with (first | (go_at_call 53; refine HC.out.mono ?_; rintro e w' ⟨rfl, rfl⟩) | (go_at_call 55; refine HG.out.mono ?_; rintro e w1 ⟨rfl, haf⟩))
        go_ret
        rw [HR.out, HW.out]
        exact ⟨rfl, haf⟩
      · have hc1 : (c == 0) = false := by simpa using hc0
        have hc2 : decide (c = 0) = false := by simpa using hc0
        clear hcb hc0
        go_enter Tryz.func30, Tryz.ntmps30
        go_wp2_with (first | (go_at_call 53; refine HC.out.mono ?_; rintro e w' ⟨rfl, rfl⟩) | (go_at_call 55; refine HG.out.mono ?_; rintro e w1 ⟨rfl, haf⟩))
        go_ret
        rw [HR.out, HW.out]
        exact ⟨rfl, haf⟩
end Go.Proofs.YtejddacjncpneaaGreatDoor.Di

namespace Go.Proofs.YtejddacjncpneaaGreatDoor.Di
open Go.RowKit Go.ChangeShapes Go.WideShapes
attribute [local go_sem ↓] Go.wp_at_zero Go.wp_at_succ

def SeenF (p : Rep) (w' : World) : Prop := w'.cell? ⟨p.r, 0, none⟩ = some (.map (some p.fm))

def nowW (st : St) (f : Int) (a : Nat) (s : List UInt8) : St := { st with now := upd st.now f (putL (st.now f) a s) }

theorem wr_eq {st : St} {f : Int} {a : Nat} {s : List UInt8} (h : s ≠ []) : wr st f a s = withQ (nowW st f a s) (addQ (nowW st f a s).q (secs f a s.length)) := by
  unfold wr; rw [if_neg h]; rfl

theorem write_put {S : Nat → Prop} {p : Rep} {st : St} {w w3 : World} (h : IsD S p st w) (f : Int) (a : Nat) (s : ByteArray) (hf : isF f = true) (h0 : 0 < s.size) (ha : a + s.size ≤ 16777216)
    {fa : Option Addr} {fc : Nat} (hof : OwnB w (.slice fa (st.now f).length fc) (st.now f)) (hbf : blk (.slice fa (st.now f).length fc) = p.at (.f f)) (hg3 : w.grownBy w3 none) :
    Calls Tryz.prog 45 #[.slice fa (st.now f).length fc, .int .i64 a, .string s] w3 (fun e w4 => ∃ a4 n4 c4 w5, e = .returned (.slice a4 n4 c4) ∧ SeenF p w4 ∧ (Instr.mapUpdate 56 (.map (some p.fm)) (.int .i64 f) (.slice a4 n4 c4)).run Tryz.prog w4 = .ok () w5 ∧ SeenF p w5 ∧ Af S p.r (nowW st f a s.data.toList) w w5) := by
  have hfr := isF_t.1 hf
  have h3 := h.grown hg3
  have hlen := h.wf.len f
  have ho3 : OwnB w3 (.slice fa (st.now f).length fc) (st.now f) := Own.grown0 hof hg3
  refine (put_any _ _ a s w3 ho3 h0 hlen ha).mono ?_
  rintro e w4 ⟨v4, rfl, ho4, hg4, hb4⟩
  obtain ⟨a4, c4, rfl, _, _⟩ := ho4.shape
  rw [hbf] at hg4 hb4
  obtain ⟨w5, hup, hc5, hbut5, hg5, hs5⟩ := (h3.core).fput f (by omega) hg4 ho4 (by
    rcases hb4 with e | ⟨g, e1, e2⟩
    · exact .inr (.inl e)
    · exact .inr (.inr ⟨g, e1, e2⟩))
  have hlr : p.r < w.heap.size := h.lt (s := .r) rfl
  have hs3 := hg3.size
  have hs4 := hg4.size
  have ner : Rep.at p (.f f) ≠ some p.r := fun e => by have := h.inj (.f f) .r p.r e rfl; cases this
  have nefr : p.fm ≠ p.r := fun e => by have := h.inj .fm .r p.fm rfl (by rw [e]; rfl); cases this
  have k3r := hg3.block p.r hlr (by simp)
  have k4r := hg4.block p.r (by omega) (Ne.symm ner)
  have k5r := hg5.block p.r (by omega) (fun e => nefr (Option.some.inj e).symm)
  have hc0 := h.cell.1
  have seen : ∀ w', w'.heap[p.r]? = w.heap[p.r]? → SeenF p w' := fun w' e1 => by
    unfold SeenF
    rw [World.cell?_of_block (a := ⟨p.r, 0, none⟩) e1]; exact hc0
  refine ⟨a4, _, c4, w5, rfl, seen _ (k4r.trans k3r), hup, seen _ (k5r.trans (k4r.trans k3r)), ⟨{ p with fv := upd p.fv f (some (Value.slice a4 (putL (st.now f) a s.data.toList).length c4)) }, rfl, ?_⟩, ?_⟩
  · have hwf := now_wf (l := putL (st.now f) a s.data.toList) h.wf hf (by rw [putL_length]; omega) (by rw [putL_length]; have : s.data.toList.length = s.size := (Lib.size_eq s).symm; omega)
    refine (hc5.full hwf).mono fun b hb => ?_
    rcases hb with hb | ⟨h1, h2⟩
    · exact .inl hb
    · exact .inr ⟨by omega, h2⟩
  · exact ((But.of hg3 fun b e _ => by cases e) : But S w w3).trans hbut5 fun i hi ⟨s', _, hs'⟩ => h.inS s' i hs'

set_option maxHeartbeats 1000000 in
theorem write_yes {S : Nat → Prop} {p : Rep} {st : St} {w : World} (h : IsD S p st w) (f : Int) (a : Nat) (s : ByteArray) (h0 : 0 < s.size) (hx : chk st f a s.size = 0) :
    Calls Tryz.prog 30 #[.pointer (some ⟨p.r, 0, none⟩), .int .i64 f, .int .i64 a, .string s] w fun e w' => e = .returned (.int .i64 (writeR st f a s.data.toList)) ∧ Af S p.r (write st f a s.data.toList) w w' := by
  have hsz : s.data.toList.length = s.size := (Lib.size_eq s).symm
  obtain ⟨hdn, hf, ha0, hb0⟩ := chk_zero.1 hx
  have hfr := isF_t.1 hf
  have hab : a + s.size ≤ 16777216 := by omega
  have hne : s.data.toList ≠ [] := fun e => by rw [e] at hsz; simp at hsz; omega
  have HW : Hid (write st f a s.data.toList = goes (withQ (nowW st f a s.data.toList) (addQ (nowW st f a s.data.toList).q (secs f a s.size)))) := by
    unfold Hid write
    rw [hsz, if_pos hx]
    show goes (wr st f ((a : Int).toNat) s.data.toList) = _
    rw [Int.toNat_natCast, wr_eq hne, hsz]
  have HR : Hid (writeR st f a s.data.toList = if (goes (withQ (nowW st f a s.data.toList) (addQ (nowW st f a s.data.toList).q (secs f a s.size)))).down = true then 8 else 0) := by
    unfold Hid writeR
    rw [HW.out, hsz, hx]
  have HC := Lib.hid (check_any h f a s.size (by omega) (by omega) (by omega))
  rw [hx] at HC
  obtain ⟨fa, fc, hlf, hof, hbf, hc1, hc2⟩ := h.lookF f (by omega)
  have hl0 := hlf w.drew rfl
  have HPU := Lib.hid (fun w3 hg3 => write_put (w3 := w3) h f a s hf h0 hab hof hbf hg3)
  have hseen : SeenF p w.drew := h.cell.1
  have HF := Lib.hid hf
  have hnl : a + s.size ≤ ((nowW st f a s.data.toList).now f).length := by
    show _ ≤ (upd st.now f (putL (st.now f) a s.data.toList) f).length
    rw [upd_same, putL_length, hsz]; omega
  have HNL := Lib.hid hnl
  have HG3 : Hid (∀ n, w.grownBy (w.drewN n) none) := fun n => grown_drewN w n
  obtain ⟨l, hl⟩ : ∃ l, (st.now f).length = l := ⟨_, rfl⟩
  rw [hl] at hl0 hc1
  rw [hl] at HPU
  clear hdn hf ha0 hb0 hx hlf hof hbf h hl hnl hfr hsz
  have hs1 : (!s.toList.isEmpty) = true := by
    have : s.toList = s.data.toList := ByteArray.toList_eq s
    rw [this]
    cases e : s.data.toList with
    | nil => exact absurd e hne
    | cons x r => rfl
  unfold SeenF at hseen
  clear hne
  go_enter Tryz.func30, Tryz.ntmps30
  go_wp2_with (first | (go_at_call 53; refine HC.out.mono ?_; rintro e w' ⟨rfl, rfl⟩))
  go_region_held3 (fun w' => w'.cell? ⟨p.r, 0, none⟩ = some (.map (some p.fm)))
    (first | exact hseen | exact hs4 | exact hs5)
    (first | (go_at_call 45; refine (HPU.out _ (by first | exact grown_drewN w _ | exact grown_drew w | exact hg3 | assumption)).mono ?_; rintro e w4 ⟨a4, n4, c4, w5, rfl, hs4, hup, hs5, haf5⟩))
  all_goals
    have HA5 := Lib.hid haf5
    clear haf5 hup hs5 hs4 hl0 hseen
    obtain ⟨⟨p5, hp5, hd5⟩, hb5⟩ := HA5.out
    have hls := list_any hd5 f a s.size HF.out h0 HNL.out
    rw [hp5] at hls
    have HL := Lib.hid hls
    clear hd5 hb5 hp5 hls p5
    go_wp2_with (first | (go_at_call 54; refine HL.out.mono ?_; rintro e w6 ⟨rfl, haf6⟩))
    have HA6 := Lib.hid haf6
    clear haf6
    obtain ⟨⟨p6, hp6, hd6⟩, hb6⟩ := HA6.out
    have hgo := goes_any hd6
    rw [hp6] at hgo
    obtain ⟨b, hb⟩ : ∃ b, (goes (withQ (nowW st f a s.data.toList) (addQ (nowW st f a s.data.toList).q (secs f a s.size)))).down = b := ⟨_, rfl⟩
    rw [hb] at hgo
    have hR := HR.out
    rw [hb] at hR
    have HGO := Lib.hid hgo
    have HR2 := Lib.hid hR
    clear hd6 hb6 hp6 hgo hb hR p6
    cases b
    all_goals
      refine HGO.out.mono ?_
      rintro e w7 ⟨rfl, haf7⟩
      have HA7 := Lib.hid haf7
      clear haf7
      go_wp2_with fail
      go_ret
      rw [HR2.out, HW.out]
      exact ⟨rfl, HA5.out.trans (HA6.out.trans HA7.out)⟩

theorem write_any {S : Nat → Prop} {p : Rep} {st : St} {w : World} (h : IsD S p st w) (f a : Int) (s : ByteArray) (hf : -9223372036854775808 ≤ f ∧ f ≤ 9223372036854775807) (ha : -9223372036854775808 ≤ a ∧ a ≤ 9223372036854775807) (hs : s.size ≤ 4611686018427387904) :
    Calls Tryz.prog 30 #[.pointer (some ⟨p.r, 0, none⟩), .int .i64 f, .int .i64 a, .string s] w fun e w' => e = .returned (.int .i64 (writeR st f a s.data.toList)) ∧ Af S p.r (write st f a s.data.toList) w w' := by
  by_cases hx : chk st f a s.size ≠ 0 ∨ s.size = 0
  · exact write_no h f a s hf ha hs hx
  · have h0 : chk st f a s.size = 0 := by
      by_cases e : chk st f a s.size = 0
      · exact e
      · exact absurd (.inl e) hx
    have h1 : 0 < s.size := by
      have : s.size ≠ 0 := fun e => hx (.inr e)
      omega
    obtain ⟨n, rfl⟩ : ∃ n : Nat, a = n := ⟨a.toNat, by have := (chk_zero.1 h0).2.2.1; omega⟩
    exact write_yes h f n s h1 h0
end Go.Proofs.YtejddacjncpneaaGreatDoor.Di

namespace Go.Proofs.YtejddacjncpneaaGreatDoor.Di
open Go.RowKit Go.ChangeShapes Go.WideShapes

/-- What lay below B is as it was. -/
abbrev Ov (B : Nat) (w w' : World) : Prop := But (fun b => B ≤ b) w w'
def One (B r : Nat) (st : St) (w : World) : Prop := ∃ S, Disk S r st w ∧ ∀ b, S b → B ≤ b ∧ b < w.heap.size
def Two (B r1 : Nat) (st1 : St) (r2 : Nat) (st2 : St) (w : World) : Prop :=
  ∃ S1 S2, Disk S1 r1 st1 w ∧ Disk S2 r2 st2 w ∧ (∀ b, S1 b → ¬ S2 b) ∧ (∀ b, S1 b → B ≤ b ∧ b < w.heap.size) ∧ ∀ b, S2 b → B ≤ b ∧ b < w.heap.size

theorem Ov.refl (B : Nat) (w : World) : Ov B w w := But.refl _ w
theorem Ov.trans {B : Nat} {a b c : World} (h : Ov B a b) (k : Ov B b c) : Ov B a c := But.trans h k fun _ _ h => h
theorem Ov.grown {B : Nat} {w w' : World} (h : w.grownBy w' none) : Ov B w w' := But.of h fun b e _ => by cases e
theorem Ov.nothing {B : Nat} {w w' : World} (h : But Nothing w w') : Ov B w w' := h.mono fun _ h => h.elim
theorem Ov.below {B : Nat} {w w' : World} (h : Ov B w w') (hB : B ≤ w.heap.size) : Below B w w' := But.below h hB fun _ h => h

theorem One.l {B r : Nat} {st st' : St} {w : World} {f : FuncId} {args : Array Value} {v : Value} (h : One B r st w) (hB : B ≤ w.heap.size)
    (hc : ∀ S p, p.r = r → IsD S p st w → (∀ b, S b → B ≤ b) → Calls Tryz.prog f args w fun e w' => e = .returned v ∧ Af S r st' w w') :
    Calls Tryz.prog f args w fun e w' => e = .returned v ∧ One B r st' w' ∧ Ov B w w' := by
  obtain ⟨S, ⟨p, hp, hd⟩, hS⟩ := h
  refine (hc S p hp hd fun b hb => (hS b hb).1).mono ?_
  rintro e w' ⟨he, hdk, hb⟩
  have hz := hb.size
  exact ⟨he, ⟨_, hdk, fun b hg => hg.elim (fun h => ⟨(hS b h).1, by have := (hS b h).2; omega⟩) fun h => ⟨by omega, h.2⟩⟩, hb.mono fun b h => (hS b h).1⟩
theorem One.keep {B r : Nat} {st : St} {w w' : World} (h : One B r st w) (hb : ∀ b, B ≤ b → b < w.heap.size → w'.heap[b]? = w.heap[b]?) (hz : w.heap.size ≤ w'.heap.size) : One B r st w' := by
  obtain ⟨S, ⟨p, hp, hd⟩, hS⟩ := h
  exact ⟨S, ⟨p, hp, hd.kept fun b h hlt => hb b (hS b h).1 hlt⟩, fun b h => ⟨(hS b h).1, Nat.lt_of_lt_of_le (hS b h).2 hz⟩⟩
theorem One.keep0 {B r : Nat} {st : St} {w w' : World} (h : One B r st w) (hb : But Nothing w w') : One B r st w' := h.keep (fun b _ hlt => hb.block b hlt (fun h => h)) hb.size
theorem One.see {B r : Nat} {st : St} {w : World} {f : FuncId} {args : Array Value} {Q : Ending → World → Prop} (h : One B r st w)
    (hc : ∀ S p, p.r = r → IsD S p st w → Calls Tryz.prog f args w Q) : Calls Tryz.prog f args w Q := by
  obtain ⟨S, ⟨p, hp, hd⟩, hS⟩ := h
  exact hc S p hp hd
theorem One.wf {B r : Nat} {st : St} {w : World} (h : One B r st w) : WF st := by
  obtain ⟨S, ⟨p, hp, hd⟩, hS⟩ := h
  exact hd.wf

theorem Two.l {B r1 r2 : Nat} {st1 st1' st2 : St} {w : World} {f : FuncId} {args : Array Value} {v : Value} (h : Two B r1 st1 r2 st2 w) (hB : B ≤ w.heap.size)
    (hc : ∀ S p, p.r = r1 → IsD S p st1 w → (∀ b, S b → B ≤ b) → Calls Tryz.prog f args w fun e w' => e = .returned v ∧ Af S r1 st1' w w') :
    Calls Tryz.prog f args w fun e w' => e = .returned v ∧ Two B r1 st1' r2 st2 w' ∧ Ov B w w' := by
  obtain ⟨S1, S2, ⟨p, hp, hd⟩, hd2, hno, hS1, hS2⟩ := h
  refine (hc S1 p hp hd fun b hb => (hS1 b hb).1).mono ?_
  rintro e w' ⟨he, hdk, hb⟩
  have hz := hb.size
  refine ⟨he, ⟨_, S2, hdk, hd2.apart hb (fun b h2 h1 => hno b h1 h2), fun b hg h2 => ?_, fun b hg => hg.elim (fun h => ⟨(hS1 b h).1, by have := (hS1 b h).2; omega⟩) fun h => ⟨by omega, h.2⟩, fun b h => ⟨(hS2 b h).1, by have := (hS2 b h).2; omega⟩⟩, hb.mono fun b h => (hS1 b h).1⟩
  rcases hg with h1 | h1
  · exact hno b h1 h2
  · have := (hS2 b h2).2
    omega
theorem Two.swap {B r1 r2 : Nat} {st1 st2 : St} {w : World} (h : Two B r1 st1 r2 st2 w) : Two B r2 st2 r1 st1 w := by
  obtain ⟨S1, S2, h1, h2, h3, h4, h5⟩ := h
  exact ⟨S2, S1, h2, h1, fun b x y => h3 b y x, h5, h4⟩
theorem Two.r {B r1 r2 : Nat} {st1 st2 st2' : St} {w : World} {f : FuncId} {args : Array Value} {v : Value} (h : Two B r1 st1 r2 st2 w) (hB : B ≤ w.heap.size)
    (hc : ∀ S p, p.r = r2 → IsD S p st2 w → (∀ b, S b → B ≤ b) → Calls Tryz.prog f args w fun e w' => e = .returned v ∧ Af S r2 st2' w w') :
    Calls Tryz.prog f args w fun e w' => e = .returned v ∧ Two B r1 st1 r2 st2' w' ∧ Ov B w w' :=
  (h.swap.l hB hc).mono fun _ _ ⟨h1, h2, h3⟩ => ⟨h1, h2.swap, h3⟩
theorem Two.keep0 {B r1 r2 : Nat} {st1 st2 : St} {w w' : World} (h : Two B r1 st1 r2 st2 w) (hb : But Nothing w w') : Two B r1 st1 r2 st2 w' := by
  obtain ⟨S1, S2, ⟨p1, e1, h1⟩, ⟨p2, e2, h2⟩, h3, h4, h5⟩ := h
  have hz := hb.size
  exact ⟨S1, S2, ⟨p1, e1, h1.kept fun b _ hlt => hb.block b hlt (fun h => h)⟩, ⟨p2, e2, h2.kept fun b _ hlt => hb.block b hlt (fun h => h)⟩, h3, fun b h => ⟨(h4 b h).1, by have := (h4 b h).2; omega⟩, fun b h => ⟨(h5 b h).1, by have := (h5 b h).2; omega⟩⟩
theorem Two.one {B r1 r2 : Nat} {st1 st2 : St} {w : World} (h : Two B r1 st1 r2 st2 w) : One B r1 st1 w := by
  obtain ⟨S1, S2, h1, h2, h3, h4, h5⟩ := h
  exact ⟨S1, h1, h4⟩
theorem One.two {B r1 r2 : Nat} {st1 st2 : St} {w w' : World} (h : One B r1 st1 w) (hg : w.grownBy w' none) (h2 : Disk (fun b => w.heap.size ≤ b ∧ b < w'.heap.size) r2 st2 w') (hB : B ≤ w.heap.size) : Two B r1 st1 r2 st2 w' := by
  obtain ⟨S, ⟨p, hp, hd⟩, hS⟩ := h
  have hz := hg.size
  exact ⟨S, _, ⟨p, hp, hd.grown hg⟩, h2, fun b hb h => by have := (hS b hb).2; omega, fun b hb => ⟨(hS b hb).1, by have := (hS b hb).2; omega⟩, fun b h => ⟨by omega, h.2⟩⟩

theorem Ints.off_lt {w : World} {v : Value} {ks : List Int} (h : Ints w v ks) {b : Nat} (hb : Ints.off v b) : b < w.heap.size := by
  obtain ⟨a, cap, rfl, hc, hk⟩ := h
  obtain ⟨o, n, c, e⟩ := hb
  injection e with e1 e2 e3
  rcases hk with rfl | ⟨b', o', rfl, hk⟩
  · simp at e2
  · injection e1 with e1
    injection e1 with e1
    subst e1
    have := hk 0 (by omega)
    exact World.block_lt_of_cell? w _ this
end Go.Proofs.YtejddacjncpneaaGreatDoor.Di

namespace Go.Proofs.YtejddacjncpneaaGreatDoor.Di

theorem goes_zero {st : St} (h : st.calls = 0) : goes st = st := by unfold goes; rw [if_pos (.inr h)]
theorem write_ok {st : St} {f a : Int} {s : List UInt8} (hd : st.down = false) (hc : st.calls = 0) (hf : isF f = true) (ha : 0 ≤ a) (hb : a + s.length ≤ 16777216) : write st f a s = wr st f a.toNat s ∧ writeR st f a s = 0 := by
  have h0 : chk st f a s.length = 0 := chk_zero.2 ⟨hd, hf, ha, hb⟩
  have h1 : write st f a s = wr st f a.toNat s := by
    unfold write
    rw [if_pos h0]
    exact goes_zero (by unfold wr; split <;> exact hc)
  refine ⟨h1, ?_⟩
  unfold writeR
  rw [h1, h0]
  have : (wr st f a.toNat s).down = false := by unfold wr; split <;> exact hd
  rw [this]
  rfl
theorem wr_same (st : St) (f : Int) (a : Nat) (s : List UInt8) : (wr st f a s).down = st.down ∧ (wr st f a s).calls = st.calls ∧ (wr st f a s).dur = st.dur := by
  unfold wr; split <;> exact ⟨rfl, rfl, rfl⟩
theorem wr_now (st : St) (f : Int) (a : Nat) (s : List UInt8) (h : s ≠ []) : (wr st f a s).now f = putL (st.now f) a s := by
  unfold wr; rw [if_neg h]; exact upd_same _ _ _
theorem putL_read (b : List UInt8) (a : Nat) (s : List UInt8) : ((putL b a s).drop a).take s.length = s := by
  unfold putL
  have hl : ((b ++ List.replicate (a + s.length - b.length) (0 : UInt8)).take a).length = a := by simp; omega
  rw [List.append_assoc, List.drop_append_of_le_length (by omega), List.drop_of_length_le (by omega), List.nil_append, List.take_append_of_le_length (Nat.le_refl _), List.take_length]
theorem wr_read (st : St) (f : Int) (a : Nat) (s : List UInt8) : (((wr st f a s).now f).drop a).take s.length = s := by
  by_cases h : s = []
  · subst h; simp
  · rw [wr_now st f a s h, putL_read]
theorem surv_nil (i : Nat) : surv i [] = false := by simp [surv]
theorem durs_nil (now : Int → List UInt8) : ∀ (q : List (Int × Nat)) (i : Nat) (d : Int → List UInt8), durs now [] i q d = d
  | [], _, _ => rfl
  | s :: r, i, d => by
    show durs now [] (i + 1) r (keepOne now [] d i s) = d
    have : keepOne now [] d i s = d := by unfold keepOne; rw [surv_nil]; rfl
    rw [this]
    exact durs_nil now r (i + 1) d
theorem crash_nil {st : St} (h : st.down = false) : (crash st []).now = st.dur := by
  unfold crash
  rw [if_neg (by simp [h])]
  exact durs_nil _ _ _ _
theorem cut_dur (st : St) (f : Int) (n : Nat) : (cut st f n).dur f = (st.now f).take n := by
  unfold cut settle
  simp [upd_same]
theorem trunc_cut {st : St} {f n : Int} (hc : st.calls = 0) (hd : st.down = false) (hf : isF f = true) (h0 : 0 ≤ n) (hn : n ≤ (st.now f).length) : trunc st f n = cut st f n.toNat ∧ truncR st f n = 0 := by
  have hg := goes_zero hc
  unfold trunc truncR
  rw [hg]
  have h1 : ¬ (st.down = true ∨ isF f = false ∨ n < 0 ∨ n > (st.now f).length) := by
    rintro (h | h | h | h)
    · rw [hd] at h; cases h
    · rw [hf] at h; cases h
    · omega
    · omega
  rw [if_neg h1, if_neg (by simp [hd]), if_neg (fun h => h1 (.inr h))]
  exact ⟨rfl, rfl⟩
theorem readS_up {st : St} {f : Int} {a n : Int} (hd : st.down = false) (hf : isF f = true) (ha : 0 ≤ a) (hn : 0 ≤ n) : readS st f a n = ((st.now f).drop a.toNat).take n.toNat ∧ readR st f a n = 0 := by
  have h1 : ¬ (st.down = true ∨ isF f = false ∨ a < 0 ∨ n < 0) := by
    rintro (h | h | h | h)
    · rw [hd] at h; cases h
    · rw [hf] at h; cases h
    · omega
    · omega
  unfold readS readR
  rw [if_neg h1, if_neg (by simp [hd]), if_neg (fun h => h1 (.inr h))]
  exact ⟨rfl, rfl⟩
theorem readS_whole {st : St} {f : Int} (hw : WF st) (hd : st.down = false) (hf : isF f = true) : readS st f 0 16777216 = st.now f ∧ readR st f 0 16777216 = 0 := by
  obtain ⟨h1, h2⟩ := readS_up (a := 0) (n := 16777216) hd hf (by omega) (by omega)
  refine ⟨?_, h2⟩
  rw [h1]
  have := hw.len f
  exact List.take_of_length_le (by simpa using this)
theorem write_bad {st : St} {f a : Int} {s : List UInt8} (_hc : st.calls = 0) (h : st.down = true ∨ isF f = false) : writeR st f a s ≠ 0 := by
  have hk : chk st f a s.length ≠ 0 := fun e => by
    obtain ⟨h1, h2, _⟩ := chk_zero.1 e
    rcases h with h | h
    · rw [h1] at h; cases h
    · rw [h2] at h; cases h
  unfold writeR
  split
  · decide
  · exact hk

/-! ### DiskReads -/
theorem last_read {st : St} {f : Int} {n : Nat} (hw : WF st) (hc : st.calls = 0) (hd : st.down = false) (hf : isF f = true) (hn : n ≤ (st.now f).length) :
    truncR st f n = 0 ∧ readS (start (crash (trunc st f n) [])) f 0 16777216 = (st.now f).take n ∧ readR (start (crash (trunc st f n) [])) f 0 16777216 = 0 := by
  obtain ⟨h1, h2⟩ := trunc_cut (n := (n : Int)) hc hd hf (by omega) (by omega)
  refine ⟨h2, ?_⟩
  have hw2 : WF (start (crash (trunc st f n) [])) := start_wf (crash_wf (trunc_wf hw f n) _)
  obtain ⟨h3, h4⟩ := readS_whole hw2 rfl hf
  rw [h3, h4]
  refine ⟨?_, rfl⟩
  show (crash (trunc st f n) []).now f = _
  rw [h1, crash_nil (by exact hd), cut_dur]
  rfl
end Go.Proofs.YtejddacjncpneaaGreatDoor.Di

namespace Go.Proofs.YtejddacjncpneaaGreatDoor.Di

structure Syn (st : St) (f : Int) (L : List UInt8) : Prop where
  now : st.now f = L
  dur : st.dur f = L
  q : ∀ s ∈ st.q, s.1 ≠ f

theorem goes_up {st : St} (h : (goes st).down = false) : (goes st).now = st.now ∧ (goes st).dur = st.dur ∧ (goes st).q = st.q ∧ st.down = false ∧ (goes st).lost = st.lost := by
  unfold goes at h ⊢
  split at h
  · rename_i hc; rw [if_pos hc]; exact ⟨rfl, rfl, rfl, h, rfl⟩
  · rename_i hc
    rw [if_neg hc]
    split at h
    · rename_i h1
      exfalso
      unfold crash at h
      split at h
      · rename_i hd; rw [hd] at h; cases h
      · cases h
    · rename_i h1
      rw [if_neg h1]
      exact ⟨rfl, rfl, rfl, h, rfl⟩
theorem durs_other {now : Int → List UInt8} {keep : List Int} {f : Int} : ∀ (q : List (Int × Nat)) (i : Nat) (d : Int → List UInt8), (∀ s ∈ q, s.1 ≠ f) → durs now keep i q d f = d f
  | [], _, _, _ => rfl
  | s :: r, i, d, h => by
    show durs now keep (i + 1) r (keepOne now keep d i s) f = d f
    rw [durs_other r (i + 1) _ fun x hx => h x (by simp [hx])]
    unfold keepOne
    split
    · exact upd_other _ _ (Ne.symm (h s (by simp)))
    · rfl
theorem Syn.crash {st : St} {f : Int} {L : List UInt8} (h : Syn st f L) (keep : List Int) : Syn (crash st keep) f L := by
  unfold Go.Proofs.YtejddacjncpneaaGreatDoor.Di.crash
  split
  · exact h
  · have e := durs_other (now := st.now) (keep := keep) st.q 0 st.dur h.q
    exact ⟨e.trans h.dur, e.trans h.dur, fun s hs => by cases hs⟩
theorem Syn.goes {st : St} {f : Int} {L : List UInt8} (h : Syn st f L) : Syn (goes st) f L := by
  unfold Go.Proofs.YtejddacjncpneaaGreatDoor.Di.goes
  split
  · exact h
  · split
    · exact h.crash _
    · exact ⟨h.now, h.dur, h.q⟩
theorem Syn.wr {st : St} {f g : Int} {L : List UInt8} (h : Syn st f L) (hg : g ≠ f) (a : Nat) (s : List UInt8) : Syn (wr st g a s) f L := by
  unfold Go.Proofs.YtejddacjncpneaaGreatDoor.Di.wr
  split
  · exact h
  · rename_i hs
    have hpos : 0 < s.length := by cases s <;> simp_all
    refine ⟨(upd_other _ _ (Ne.symm hg)).trans h.now, h.dur, fun x hx => ?_⟩
    rcases mem_addQ.1 hx with hx | hx
    · exact h.q x hx
    · rw [(mem_secs hx hpos).1]; exact hg
theorem Syn.settle {st : St} {f g : Int} {L : List UInt8} (h : Syn st f L) (hg : g ≠ f) : Syn (settle st g) f L :=
  ⟨h.now, (upd_other _ _ (Ne.symm hg)).trans h.dur, fun x hx => h.q x (List.mem_filter.1 hx).1⟩
theorem Syn.cut {st : St} {f g : Int} {L : List UInt8} (h : Syn st f L) (hg : g ≠ f) (n : Nat) : Syn (cut st g n) f L :=
  Syn.settle (st := { st with now := upd st.now g ((st.now g).take n) }) ⟨(upd_other _ _ (Ne.symm hg)).trans h.now, h.dur, h.q⟩ hg
theorem Syn.write {st : St} {f g a : Int} {L s : List UInt8} (h : Syn st f L) (hg : g ≠ f) : Syn (write st g a s) f L := by
  unfold Go.Proofs.YtejddacjncpneaaGreatDoor.Di.write
  refine Syn.goes ?_
  split
  · exact h.wr hg _ _
  · exact h
theorem Syn.sync {st : St} {f g : Int} {L : List UInt8} (h : Syn st f L) (hg : g ≠ f) : Syn (sync st g) f L := by
  unfold Go.Proofs.YtejddacjncpneaaGreatDoor.Di.sync
  have := h.goes
  split
  · exact this
  · split
    · exact ⟨this.now, this.dur, this.q⟩
    · exact this.settle hg
theorem Syn.trunc {st : St} {f g n : Int} {L : List UInt8} (h : Syn st f L) (hg : g ≠ f) : Syn (trunc st g n) f L := by
  unfold Go.Proofs.YtejddacjncpneaaGreatDoor.Di.trunc
  have := h.goes
  split
  · exact this
  · exact this.cut hg _
theorem settle_syn (st : St) (f : Int) : Syn (settle st f) f (st.now f) :=
  ⟨rfl, upd_same _ _ _, fun s hs => by have := (List.mem_filter.1 hs).2; simpa using this⟩
/-- What a successful Sync tells. -/
theorem sync_ok {st : St} {f : Int} (_hw : WF st) (h : syncR st f = 0) : st.down = false ∧ isF f = true ∧ (sync st f).down = false ∧ (sync st f).now f = st.now f ∧ Syn (sync st f) f (st.now f) := by
  unfold syncR at h
  split at h
  · cases h
  · rename_i h1
    split at h
    · cases h
    · rename_i h2
      split at h
      · cases h
      · rename_i h3
        have h1' : (goes st).down = false := by simpa using h1
        have h2' : isF f = true := by simpa using h2
        obtain ⟨e1, e2, e3, e4, e5⟩ := goes_up h1'
        have es : sync st f = settle (goes st) f := by
          unfold sync
          rw [if_neg (fun h => h.elim h1 h2), if_neg h3]
        rw [es]
        have := settle_syn (goes st) f
        rw [e1] at this
        exact ⟨e4, h2', h1', by show (goes st).now f = _; rw [e1], this⟩
theorem syn_last {st : St} {f : Int} {L : List UInt8} (hw : WF st) (h : Syn st f L) (hf : isF f = true) (keep : List Int) : readS (start (crash st keep)) f 0 16777216 = L ∧ readR (start (crash st keep)) f 0 16777216 = 0 := by
  obtain ⟨h1, h2⟩ := readS_whole (start_wf (crash_wf hw keep)) rfl hf
  exact ⟨h1.trans (h.crash keep).now, h2⟩
end Go.Proofs.YtejddacjncpneaaGreatDoor.Di

namespace Go.Proofs.YtejddacjncpneaaGreatDoor.Di

def armed (st : St) (m : Int) (ks : List Int) : St := { st with calls := m, keep := ks }
theorem crash_armed {X : St} (m : Int) (ks ls : List Int) (hd : X.down = false) : crash (armed X m ks) ls = crash X ls := by
  unfold crash
  have e : (armed X m ks).down = false := hd
  rw [if_neg (by simp [e]), if_neg (by simp [hd])]
  rfl
theorem armed_more {X : St} {m : Int} {ks : List Int} (hd : X.down = false) (hm : 2 ≤ m) : goes (armed X m ks) = armed X (m - 1) ks := by
  unfold goes
  have h1 : ¬ ((armed X m ks).down = true ∨ (armed X m ks).calls = 0) := by
    rintro (h | h)
    · have : (armed X m ks).down = X.down := rfl
      rw [this, hd] at h; cases h
    · have : (armed X m ks).calls = m := rfl
      omega
  have h2 : ¬ (armed X m ks).calls = 1 := by
    have : (armed X m ks).calls = m := rfl
    omega
  rw [if_neg h1, if_neg h2]
  rfl
theorem armed_one {X : St} {ks : List Int} (hd : X.down = false) : goes (armed X 1 ks) = crash X ks := by
  unfold goes
  have h1 : ¬ ((armed X 1 ks).down = true ∨ (armed X 1 ks).calls = 0) := by
    rintro (h | h)
    · have : (armed X 1 ks).down = X.down := rfl
      rw [this, hd] at h; cases h
    · have : (armed X 1 ks).calls = 1 := rfl
      omega
  rw [if_neg h1, if_pos (show (armed X 1 ks).calls = 1 from rfl)]
  exact crash_armed _ _ _ hd
theorem crash_down (X : St) (ks : List Int) : (crash X ks).down = true := by
  unfold crash
  split
  · assumption
  · rfl
theorem armed_chk (X : St) (m : Int) (ks : List Int) (f a : Int) (n : Nat) : chk (armed X m ks) f a n = chk X f a n := rfl
theorem armed_wr (X : St) (m : Int) (ks : List Int) (f : Int) (a : Nat) (s : List UInt8) : wr (armed X m ks) f a s = armed (wr X f a s) m ks := by
  unfold wr; split <;> rfl
def perf (X : St) (f a : Int) (s : List UInt8) : St := if chk X f a s.length = 0 then wr X f a.toNat s else X
theorem write_perf (X : St) (f a : Int) (s : List UInt8) : write X f a s = goes (perf X f a s) := rfl
theorem perf_same (X : St) (f a : Int) (s : List UInt8) : (perf X f a s).down = X.down ∧ (perf X f a s).calls = X.calls := by
  unfold perf; split
  · exact ⟨(wr_same _ _ _ _).1, (wr_same _ _ _ _).2.1⟩
  · exact ⟨rfl, rfl⟩
theorem perf_armed (X : St) (m : Int) (ks : List Int) (f a : Int) (s : List UInt8) : perf (armed X m ks) f a s = armed (perf X f a s) m ks := by
  unfold perf
  rw [armed_chk]
  split
  · exact armed_wr _ _ _ _ _ _
  · rfl
theorem write_more {X : St} {m : Int} {ks : List Int} (hc : X.calls = 0) (hd : X.down = false) (hm : 2 ≤ m) (f a : Int) (s : List UInt8) :
    write (armed X m ks) f a s = armed (write X f a s) (m - 1) ks ∧ writeR (armed X m ks) f a s = writeR X f a s ∧ (write X f a s).calls = 0 ∧ (write X f a s).down = false := by
  obtain ⟨p1, p2⟩ := perf_same X f a s
  have e0 : write X f a s = perf X f a s := by rw [write_perf]; exact goes_zero (p2.trans hc)
  have e1 : write (armed X m ks) f a s = armed (write X f a s) (m - 1) ks := by
    rw [write_perf, perf_armed, armed_more (p1.trans hd) hm, e0]
  refine ⟨e1, ?_, by rw [e0]; exact p2.trans hc, by rw [e0]; exact p1.trans hd⟩
  unfold writeR
  rw [e1]
  rfl
theorem write_one' {X : St} {ks : List Int} (hc : X.calls = 0) (hd : X.down = false) (f a : Int) (s : List UInt8) :
    write (armed X 1 ks) f a s = crash (write X f a s) ks ∧ writeR (armed X 1 ks) f a s = 8 := by
  obtain ⟨p1, p2⟩ := perf_same X f a s
  have e0 : write X f a s = perf X f a s := by rw [write_perf]; exact goes_zero (p2.trans hc)
  have e1 : write (armed X 1 ks) f a s = crash (write X f a s) ks := by
    rw [write_perf, perf_armed, armed_one (p1.trans hd), e0]
  refine ⟨e1, ?_⟩
  unfold writeR
  rw [e1, if_pos (crash_down _ _)]
theorem sync_more {X : St} {m : Int} {ks : List Int} (hc : X.calls = 0) (hd : X.down = false) (hm : 2 ≤ m) (f : Int) :
    sync (armed X m ks) f = armed (sync X f) (m - 1) ks ∧ syncR (armed X m ks) f = syncR X f ∧ (sync X f).calls = 0 ∧ (sync X f).down = false := by
  have g0 := goes_zero hc
  have g1 := armed_more (ks := ks) hd hm
  unfold sync syncR
  rw [g0, g1]
  have d1 : (armed X (m - 1) ks).down = X.down := rfl
  have d2 : (armed X (m - 1) ks).lost = X.lost := rfl
  rw [d1, d2]
  refine ⟨?_, rfl, ?_, ?_⟩
  · split
    · rfl
    · split <;> rfl
  · split
    · exact hc
    · split
      · exact hc
      · exact hc
  · split
    · exact hd
    · split
      · exact hd
      · exact hd
theorem sync_one' {X : St} {ks : List Int} (hd : X.down = false) (f : Int) : sync (armed X 1 ks) f = crash X ks ∧ syncR (armed X 1 ks) f = 8 := by
  have g1 := armed_one (ks := ks) hd
  unfold sync syncR
  rw [g1, if_pos (.inl (crash_down _ _)), if_pos (crash_down _ _)]
  exact ⟨rfl, rfl⟩
theorem trunc_more {X : St} {m : Int} {ks : List Int} (hc : X.calls = 0) (hd : X.down = false) (hm : 2 ≤ m) (f n : Int) :
    trunc (armed X m ks) f n = armed (trunc X f n) (m - 1) ks ∧ truncR (armed X m ks) f n = truncR X f n ∧ (trunc X f n).calls = 0 ∧ (trunc X f n).down = false := by
  have g0 := goes_zero hc
  have g1 := armed_more (ks := ks) hd hm
  unfold trunc truncR
  rw [g0, g1]
  have d1 : (armed X (m - 1) ks).down = X.down := rfl
  have d2 : (armed X (m - 1) ks).now = X.now := rfl
  rw [d1, d2]
  refine ⟨?_, rfl, ?_, ?_⟩
  · split <;> rfl
  · split <;> exact hc
  · split <;> exact hd
theorem trunc_one' {X : St} {ks : List Int} (hd : X.down = false) (f n : Int) : trunc (armed X 1 ks) f n = crash X ks ∧ truncR (armed X 1 ks) f n = 8 := by
  have g1 := armed_one (ks := ks) hd
  unfold trunc truncR
  rw [g1, if_pos (.inl (crash_down _ _)), if_pos (crash_down _ _)]
  exact ⟨rfl, rfl⟩
theorem goes_dn {X : St} (h : X.down = true) : goes X = X := by unfold goes; rw [if_pos (.inl h)]
theorem write_dn {X : St} (h : X.down = true) (f a : Int) (s : List UInt8) : write X f a s = X ∧ writeR X f a s = 8 := by
  have hk : ¬ chk X f a s.length = 0 := by unfold chk; rw [if_pos h]; decide
  have e : write X f a s = X := by unfold write; rw [if_neg hk]; exact goes_dn h
  refine ⟨e, ?_⟩
  unfold writeR
  rw [e, if_pos h]
theorem sync_dn {X : St} (h : X.down = true) (f : Int) : sync X f = X ∧ syncR X f = 8 := by
  unfold sync syncR
  rw [goes_dn h, if_pos (.inl h), if_pos h]
  exact ⟨rfl, rfl⟩
theorem trunc_dn {X : St} (h : X.down = true) (f n : Int) : trunc X f n = X ∧ truncR X f n = 8 := by
  unfold trunc truncR
  rw [goes_dn h, if_pos (.inl h), if_pos h]
  exact ⟨rfl, rfl⟩
end Go.Proofs.YtejddacjncpneaaGreatDoor.Di

namespace Go.Proofs.YtejddacjncpneaaGreatDoor.Di

/-- What is not pending is durable. -/
structure Inv (st : St) : Prop where
  same : ∀ f i, (f, i / 64) ∉ st.q → (st.dur f).getD i 0 = (st.now f).getD i 0
  last : ∀ f, (st.dur f).length < (st.now f).length → (f, ((st.now f).length - 1) / 64) ∈ st.q

theorem Inv.of {a b : St} (h : Inv a) (e1 : b.now = a.now) (e2 : b.dur = a.dur) (e3 : b.q = a.q) : Inv b :=
  ⟨fun f i hq => by rw [e1, e2]; exact h.same f i (by rw [← e3]; exact hq), fun f hl => by rw [e1, e3]; rw [e1, e2] at hl; exact h.last f hl⟩
theorem new_inv : Inv St.new := ⟨fun _ _ _ => rfl, fun f h => by simp [St.new] at h⟩
theorem wr_inv {st : St} (h : Inv st) (f : Int) (a : Nat) (s : List UInt8) : Inv (wr st f a s) := by
  unfold wr
  split
  · exact h
  · rename_i hne
    have hpos : 0 < s.length := by cases s <;> simp_all
    refine ⟨fun g i hq => ?_, fun g hl => ?_⟩
    · have hq1 : (g, i / 64) ∉ st.q := fun e => hq (mem_addQ.2 (.inl e))
      have hq2 : (g, i / 64) ∉ secs f a s.length := fun e => hq (mem_addQ.2 (.inr e))
      show (st.dur g).getD i 0 = (upd st.now f (putL (st.now f) a s) g).getD i 0
      by_cases e : g = f
      · subst e
        rw [upd_same, putL_getD, if_neg, h.same g i hq1]
        rintro ⟨h1, h2⟩
        exact hq2 (secs_mem (by omega) (by omega))
      · rw [upd_other _ _ e]; exact h.same g i hq1
    · have hl' : (st.dur g).length < (upd st.now f (putL (st.now f) a s) g).length := hl
      show (g, ((upd st.now f (putL (st.now f) a s) g).length - 1) / 64) ∈ addQ st.q (secs f a s.length)
      by_cases e : g = f
      · subst e
        rw [upd_same, putL_length] at hl' ⊢
        by_cases hm : (st.now g).length ≤ a + s.length
        · rw [Nat.max_eq_right hm]
          exact mem_addQ.2 (.inr (secs_mem (by omega) (by omega)))
        · rw [Nat.max_eq_left (by omega)] at hl' ⊢
          exact mem_addQ.2 (.inl (h.last g hl'))
      · rw [upd_other _ _ e] at hl' ⊢
        exact mem_addQ.2 (.inl (h.last g hl'))
theorem crash_inv {st : St} (h : Inv st) (ks : List Int) : Inv (crash st ks) := by
  unfold crash
  split
  · exact h
  · exact ⟨fun _ _ _ => rfl, fun f hl => absurd hl (Nat.lt_irrefl _)⟩
theorem goes_inv {st : St} (h : Inv st) : Inv (goes st) := by
  unfold goes
  split
  · exact h
  · split
    · exact crash_inv h _
    · exact h.of rfl rfl rfl
theorem settle_inv {st : St} (h : ∀ f i, (f, i / 64) ∉ st.q → ∀ g, f ≠ g → (st.dur f).getD i 0 = (st.now f).getD i 0) (h2 : ∀ f, (st.dur f).length < (st.now f).length → ∀ g, f ≠ g → (f, ((st.now f).length - 1) / 64) ∈ st.q) (g : Int) : Inv (settle st g) := by
  refine ⟨fun f i hq => ?_, fun f hl => ?_⟩
  · show (upd st.dur g (st.now g) f).getD i 0 = (st.now f).getD i 0
    by_cases e : f = g
    · subst e; rw [upd_same]
    · rw [upd_other _ _ e]
      refine h f i (fun hm => hq ?_) g e
      exact List.mem_filter.2 ⟨hm, by simpa using e⟩
  · have hl' : (upd st.dur g (st.now g) f).length < (st.now f).length := hl
    by_cases e : f = g
    · subst e; rw [upd_same] at hl'; omega
    · rw [upd_other _ _ e] at hl'
      exact List.mem_filter.2 ⟨h2 f hl' g e, by simpa using e⟩
theorem settle_inv' {st : St} (h : Inv st) (g : Int) : Inv (settle st g) := settle_inv (fun f i hq _ _ => h.same f i hq) (fun f hl _ _ => h.last f hl) g
theorem cut_inv {st : St} (h : Inv st) (g : Int) (n : Nat) : Inv (cut st g n) := by
  refine ⟨fun f i hq => ?_, fun f hl => ?_⟩
  · show (upd st.dur g ((upd st.now g ((st.now g).take n)) g) f).getD i 0 = (upd st.now g ((st.now g).take n) f).getD i 0
    by_cases e : f = g
    · subst e; rw [upd_same, upd_same]
    · rw [upd_other _ _ e, upd_other _ _ e]
      exact h.same f i fun hm => hq (List.mem_filter.2 ⟨hm, by simpa using e⟩)
  · have hl' : (upd st.dur g ((upd st.now g ((st.now g).take n)) g) f).length < (upd st.now g ((st.now g).take n) f).length := hl
    show (f, ((upd st.now g ((st.now g).take n) f).length - 1) / 64) ∈ st.q.filter _
    by_cases e : f = g
    · subst e; rw [upd_same, upd_same] at hl'; omega
    · rw [upd_other _ _ e, upd_other _ _ e] at hl'
      rw [upd_other _ _ e]
      exact List.mem_filter.2 ⟨h.last f hl', by simpa using e⟩
theorem write_inv {st : St} (h : Inv st) (f a : Int) (s : List UInt8) : Inv (write st f a s) := by
  unfold write
  refine goes_inv ?_
  split
  · exact wr_inv h _ _ _
  · exact h
theorem sync_inv {st : St} (h : Inv st) (f : Int) : Inv (sync st f) := by
  have g := goes_inv h
  unfold sync
  split
  · exact g
  · split
    · exact g.of rfl rfl rfl
    · exact settle_inv' g f
theorem trunc_inv {st : St} (h : Inv st) (f n : Int) : Inv (trunc st f n) := by
  have g := goes_inv h
  unfold trunc
  split
  · exact g
  · exact cut_inv g f _

/-! ### what a crash leaves -/
theorem keepOne_getD (now : Int → List UInt8) (ks : List Int) (d : Int → List UInt8) (i : Nat) (s : Int × Nat) (f : Int) (j : Nat) (hd : (d f).length ≤ (now f).length) :
    (keepOne now ks d i s f).getD j 0 = if surv i ks = true ∧ s = (f, j / 64) then (now f).getD j 0 else (d f).getD j 0 := by
  unfold keepOne
  by_cases hs : surv i ks = true
  · rw [if_pos hs]
    by_cases e : s.1 = f
    · obtain ⟨s1, n⟩ := s
      simp only at e
      subst e
      simp only [upd_same, putL_getD, hs, true_and, chunk, List.length_take, List.length_drop]
      by_cases e2 : n = j / 64
      · subst e2
        rw [if_pos rfl]
        by_cases hj : j < (now s1).length
        · rw [if_pos (by omega)]
          simp only [List.getD_eq_getElem?_getD, List.getElem?_take, List.getElem?_drop]
          rw [if_pos (by omega), show 64 * (j / 64) + (j - 64 * (j / 64)) = j by omega]
        · rw [if_neg (by omega)]
          simp only [List.getD_eq_getElem?_getD]
          rw [List.getElem?_eq_none (by omega), List.getElem?_eq_none (by omega)]
      · rw [if_neg (by omega), if_neg (by intro e; cases e; exact e2 rfl)]
    · rw [upd_other _ _ (Ne.symm e), if_neg (by rintro ⟨_, e2⟩; rw [e2] at e; exact e rfl)]
  · rw [if_neg hs, if_neg (fun h => hs h.1)]
theorem keepOne_mono (now : Int → List UInt8) (ks : List Int) (d : Int → List UInt8) (i : Nat) (s : Int × Nat) (f : Int) : (d f).length ≤ (keepOne now ks d i s f).length := by
  unfold keepOne
  split
  · by_cases e : f = s.1
    · subst e; rw [upd_same, putL_length]; omega
    · rw [upd_other _ _ e]; exact Nat.le_refl _
  · exact Nat.le_refl _
theorem durs_mono (now : Int → List UInt8) (ks : List Int) (f : Int) : ∀ (q : List (Int × Nat)) (i : Nat) (d : Int → List UInt8), (d f).length ≤ (durs now ks i q d f).length
  | [], _, _ => Nat.le_refl _
  | s :: r, i, d => Nat.le_trans (keepOne_mono now ks d i s f) (durs_mono now ks f r (i + 1) _)
/-- Each sector is wholly new or wholly old. -/
theorem durs_sector (now : Int → List UInt8) (ks : List Int) (f : Int) (n : Nat) (D : List UInt8) : ∀ (q : List (Int × Nat)) (i : Nat) (d : Int → List UInt8), (∀ f, (d f).length ≤ (now f).length) → (∀ s ∈ q, 64 * s.2 < (now s.1).length) →
    ((∀ j, j / 64 = n → (d f).getD j 0 = (now f).getD j 0) ∨ (∀ j, j / 64 = n → (d f).getD j 0 = D.getD j 0)) →
    (∀ j, j / 64 = n → (durs now ks i q d f).getD j 0 = (now f).getD j 0) ∨ (∀ j, j / 64 = n → (durs now ks i q d f).getD j 0 = D.getD j 0)
  | [], _, _, _, _, h => h
  | s :: r, i, d, hd, hq, h => by
    refine durs_sector now ks f n D r (i + 1) _ (fun g => keepOne_len hd (hq s (by simp)) g) (fun x hx => hq x (by simp [hx])) ?_
    by_cases hs : surv i ks = true ∧ s = (f, n)
    · left
      intro j hj
      rw [keepOne_getD now ks d i s f j (hd f), if_pos ⟨hs.1, by rw [hs.2, hj]⟩]
    · have he : ∀ j, j / 64 = n → (keepOne now ks d i s f).getD j 0 = (d f).getD j 0 := fun j hj => by
        rw [keepOne_getD now ks d i s f j (hd f), if_neg (fun h => hs ⟨h.1, by rw [h.2, hj]⟩)]
      rcases h with h | h
      · exact .inl fun j hj => (he j hj).trans (h j hj)
      · exact .inr fun j hj => (he j hj).trans (h j hj)
theorem durs_all (now : Int → List UInt8) (ks : List Int) (hs : ∀ i, surv i ks = true) (f : Int) (j : Nat) : ∀ (q : List (Int × Nat)) (i : Nat) (d : Int → List UInt8), (∀ f, (d f).length ≤ (now f).length) → (∀ s ∈ q, 64 * s.2 < (now s.1).length) →
    ((f, j / 64) ∈ q ∨ (d f).getD j 0 = (now f).getD j 0) → (durs now ks i q d f).getD j 0 = (now f).getD j 0
  | [], _, _, _, _, h => h.elim (fun h => by cases h) id
  | s :: r, i, d, hd, hq, h => by
    refine durs_all now ks hs f j r (i + 1) _ (fun g => keepOne_len hd (hq s (by simp)) g) (fun x hx => hq x (by simp [hx])) ?_
    by_cases e : s = (f, j / 64)
    · right
      rw [keepOne_getD now ks d i s f j (hd f), if_pos ⟨hs i, e⟩]
    · rcases h with h | h
      · rcases List.mem_cons.1 h with h | h
        · exact absurd h.symm e
        · exact .inl h
      · right
        rw [keepOne_getD now ks d i s f j (hd f), if_neg (fun h => e h.2)]
        exact h
theorem durs_full (now : Int → List UInt8) (ks : List Int) (hs : ∀ i, surv i ks = true) (f : Int) : ∀ (q : List (Int × Nat)) (i : Nat) (d : Int → List UInt8), ((f, ((now f).length - 1) / 64) ∈ q ∨ (now f).length ≤ (d f).length) → (now f).length ≤ (durs now ks i q d f).length
  | [], _, _, h => h.elim (fun h => by cases h) id
  | s :: r, i, d, h => by
    refine durs_full now ks hs f r (i + 1) _ ?_
    by_cases e : s = (f, ((now f).length - 1) / 64)
    · right
      unfold keepOne
      rw [if_pos (hs i), e]
      simp only [upd_same, putL_length, chunk, List.length_take, List.length_drop]
      omega
    · rcases h with h | h
      · rcases List.mem_cons.1 h with h | h
        · exact absurd h.symm e
        · exact .inl h
      · exact .inr (Nat.le_trans h (keepOne_mono now ks d i s f))
theorem surv_one (i : Nat) : surv i [1] = true := by
  unfold surv
  have : i % [(1 : Int)].length = 0 := Nat.mod_one i
  rw [this]
  decide
theorem crash_now {st : St} (hd : st.down = false) (ks : List Int) : (crash st ks).now = durs st.now ks 0 st.q st.dur := by
  unfold crash
  rw [if_neg (by simp [hd])]
theorem all_now {st : St} (hw : WF st) (hi : Inv st) (hd : st.down = false) (f : Int) : (crash st [1]).now f = st.now f := by
  rw [crash_now hd]
  have hq : ∀ s ∈ st.q, 64 * s.2 < (st.now s.1).length := fun s hs => (hw.q s hs).2
  have h1 := durs_len (keep := [1]) st.q 0 st.dur hw.dl hq f
  have h2 : (st.now f).length ≤ (durs st.now [1] 0 st.q st.dur f).length := by
    refine durs_full st.now [1] surv_one f st.q 0 st.dur ?_
    by_cases e : (st.dur f).length < (st.now f).length
    · exact .inl (hi.last f e)
    · exact .inr (by omega)
  refine ext_getD (by omega) fun j _ => durs_all st.now [1] surv_one f j st.q 0 st.dur hw.dl hq ?_
  by_cases e : (f, j / 64) ∈ st.q
  · exact .inl e
  · exact .inr (hi.same f j e)
theorem some_now {st : St} (hw : WF st) (hd : st.down = false) (ks : List Int) (f : Int) :
    (st.dur f).length ≤ ((crash st ks).now f).length ∧ ((crash st ks).now f).length ≤ (st.now f).length ∧
    ∀ n, (∀ j, j / 64 = n → ((crash st ks).now f).getD j 0 = (st.now f).getD j 0) ∨ (∀ j, j / 64 = n → ((crash st ks).now f).getD j 0 = (st.dur f).getD j 0) := by
  have hq : ∀ s ∈ st.q, 64 * s.2 < (st.now s.1).length := fun s hs => (hw.q s hs).2
  rw [crash_now hd]
  exact ⟨durs_mono _ _ _ _ _ _, durs_len st.q 0 st.dur hw.dl hq f, fun n => durs_sector st.now ks f n (st.dur f) st.q 0 st.dur hw.dl hq (.inr fun _ _ => rfl)⟩
end Go.Proofs.YtejddacjncpneaaGreatDoor.Di
