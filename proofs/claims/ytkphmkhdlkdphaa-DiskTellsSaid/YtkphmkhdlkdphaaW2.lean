/- The contract of Truncate. -/
import Derived.Test.YtkphmkhdlkdphaaW
namespace Go.Proofs.Ytkphmkhdlkdphaa
open Go.RowKit Go.ChangeShapes Go.WideShapes
attribute [local go_sem ↓] Go.wp_at_zero Go.wp_at_succ

theorem grew_trans {S : Nat → Prop} {a b c : World} (h1 : a.heap.size ≤ b.heap.size) (h2 : b.heap.size ≤ c.heap.size) (i : Nat) (h : Grew (Grew S a b) b c i) : Grew S a c i := by
  rcases h with (h | ⟨h3, h4⟩) | ⟨h3, h4⟩
  · exact .inl h
  · exact .inr ⟨h3, by omega⟩
  · exact .inr ⟨by omega, h4⟩

set_option maxHeartbeats 1000000 in
theorem trunc_err {S : Nat → Prop} {p : Rep} {st : St} {w : World} (h : IsD S p st w) (f n : Int) (hf : -9223372036854775808 ≤ f ∧ f ≤ 9223372036854775807) (hn : -9223372036854775808 ≤ n ∧ n ≤ 9223372036854775807)
    (hx : (goes st).down = true ∨ isF f = false ∨ n < 0 ∨ n > ((goes st).now f).length) :
    Calls Try.prog 30 #[.pointer (some ⟨p.r, 0, none⟩), .int .i64 f, .int .i64 n] w fun e w' => e = .returned (.int .i64 (truncR st f n)) ∧ Af S p.r (trunc st f n) w w' := by
  have HS : Hid (trunc st f n = goes st) := by unfold Hid trunc; rw [if_pos hx]
  by_cases hd : (goes st).down = true
  · have HG := Lib.hid (goes_b h hd)
    have HR : Hid (truncR st f n = 8) := by unfold Hid truncR; rw [if_pos hd]
    clear h hd hx
    go_enter Try.func30, Try.ntmps30
    go_wp2_with fail
    refine HG.out.mono ?_
    rintro e w1 ⟨rfl, haf⟩
    have HAF := Lib.hid haf
    clear haf
    go_wp2_with fail
    go_ret
    rw [HR.out, HS.out]
    exact ⟨rfl, HAF.out⟩
  · have hd' : (goes st).down = false := by simpa using hd
    have HG := Lib.hid (goes_b h hd')
    have hx' : isF f = false ∨ n < 0 ∨ n > ((goes st).now f).length := hx.resolve_left hd
    have HR : Hid (truncR st f n = 1) := by unfold Hid truncR; rw [if_neg hd, if_pos hx']
    by_cases h1 : isF f = false
    · have HF := Lib.hid h1
      clear h hd hd' h1 hx hx'
      go_enter Try.func30, Try.ntmps30
      go_wp2_with fail
      refine HG.out.mono ?_
      rintro e w1 ⟨rfl, haf⟩
      have HAF := Lib.hid haf
      clear haf
      go_wp2_with (go_at_call 45; refine (isFile_f f HF.out _).mono ?_; rintro e w' ⟨rfl, rfl⟩)
      go_ret
      rw [HR.out, HS.out]
      exact ⟨rfl, HAF.out⟩
    · have HF := Lib.hid (isF_tf h1)
      by_cases h2 : n < 0
      · clear h hd hd' h1 hx hx'
        go_enter Try.func30, Try.ntmps30
        go_wp2_with fail
        refine HG.out.mono ?_
        rintro e w1 ⟨rfl, haf⟩
        have HAF := Lib.hid haf
        clear haf
        go_wp2_with (go_at_call 45; refine (isFile_t f HF.out _).mono ?_; rintro e w' ⟨rfl, rfl⟩)
        go_ret
        rw [HR.out, HS.out]
        exact ⟨rfl, HAF.out⟩
      · have h3 := (hx'.resolve_left h1).resolve_left h2
        have h20 : 0 ≤ n := by omega
        have h2' : decide (n < 0) = false := by simpa using h2
        obtain ⟨l, hl⟩ : ∃ l, ((goes st).now f).length = l := ⟨_, rfl⟩
        have HL := Lib.hid hl
        rw [hl] at h3
        have h3' : (l : Int) < n := h3
        clear h hd hd' h1 hx hx' h2 hl h3
        go_enter Try.func30, Try.ntmps30
        go_wp2_with fail
        refine HG.out.mono ?_
        rintro e w1 ⟨rfl, haf⟩
        have HAF := Lib.hid haf
        clear haf
        obtain ⟨⟨p1, hp1, hd1⟩, hb1⟩ := HAF.out
        have hsz := size_any hd1 f hf
        rw [hp1, HL.out] at hsz
        have HSZ := Lib.hid hsz
        clear hd1 hb1 hp1 hsz
        go_wp2_with (first | (go_at_call 45; refine (isFile_t f HF.out _).mono ?_; rintro e w' ⟨rfl, rfl⟩) | (go_at_call 16; refine HSZ.out.mono ?_; rintro e w' ⟨rfl, rfl⟩))
        go_ret
        rw [HR.out, HS.out]
        exact ⟨rfl, HAF.out⟩

set_option maxHeartbeats 1000000 in
theorem trunc_ok {S : Nat → Prop} {p : Rep} {st : St} {w : World} (h : IsD S p st w) (f : Int) (n : Nat) (hd : (goes st).down = false) (hf : isF f = true) (hn : n ≤ ((goes st).now f).length) :
    Calls Try.prog 30 #[.pointer (some ⟨p.r, 0, none⟩), .int .i64 f, .int .i64 n] w fun e w' => e = .returned (.int .i64 0) ∧ Af S p.r (cut (goes st) f n) w w' := by
  have HG := Lib.hid (goes_b h hd)
  have HF := Lib.hid hf
  have hfr := isF_t.1 hf
  have hnn : decide ((n : Int) < 0) = false := by simp
  obtain ⟨l, hl⟩ : ∃ l, ((goes st).now f).length = l := ⟨_, rfl⟩
  have hll : l ≤ 16777216 := by rw [← hl]; exact (goes_wf h.wf).len f
  have HL := Lib.hid hl
  rw [hl] at hn
  clear h hd hf hl
  go_enter Try.func30, Try.ntmps30
  go_wp2_with fail
  refine HG.out.mono ?_
  rintro e w1 ⟨rfl, haf⟩
  have HAF := Lib.hid haf
  clear haf
  obtain ⟨⟨p1, hp1, hd1⟩, hb1⟩ := HAF.out
  have hsz := size_any hd1 f (by omega)
  rw [hp1, HL.out] at hsz
  have HSZ := Lib.hid hsz
  obtain ⟨fa, fc, hlf, hof, hbf, hc1, hc2⟩ := hd1.lookF f (by omega)
  have hlF := hlf w1.drew rfl
  have hown : OwnB w1.drew (.slice fa n fc) (((goes st).now f).take n) := by
    have := (Own.take hof (m := n) (by rw [HL.out]; exact hn)).grown0 (grown_drew w1)
    unfold OwnB
    rw [Nat.mul_one] at this
    have e1 : (((goes st).now f).take n).length = n := by rw [List.length_take, HL.out]; omega
    have e2 : (Lib.byteCells ((goes st).now f)).take n = Lib.byteCells (((goes st).now f).take n) := by simp [Lib.byteCells, List.map_take]
    rw [e1, ← e2]
    exact this
  have hblk : blk (.slice fa n fc) = p1.at (.f f) := by rw [← hbf]; cases fa <;> cases fc <;> rfl
  obtain ⟨w2, hup, hc2', hb2, hg2, hs2⟩ := hd1.core.fput f (by omega) ((grown_drew w1).but _) hown (.inr (.inl hblk))
  have HST : Hid (Calls Try.prog 46 #[.pointer (some ⟨p.r, 0, none⟩), .int .i64 f] w2 fun e w' => e = .returned (.tuple #[]) ∧ Af S p.r (cut (goes st) f n) w w') := by
    have hwf := hd1.wf
    have hs := settle_any hc2' f HF.out hwf.qlen (by show (upd (goes st).now f (((goes st).now f).take n) f).length ≤ _; rw [upd_same, List.length_take]; have := hwf.len f; omega) (fun s hs => ⟨(hwf.q s hs).1, by have := (hwf.q s hs).2; have := hwf.len s.1; omega⟩) hwf.nd
    have hr2 : Rep.r { p1 with fv := upd p1.fv f (some (.slice fa n fc)) } = p.r := hp1
    rw [hr2] at hs
    refine hs.mono fun e w' ⟨he, p', hr, hc, hb⟩ => ⟨he, HAF.out.trans ⟨⟨p', hr, ?_⟩, ?_⟩⟩
    · exact (hc.full (cut_wf hwf HF.out)).mono (grew_trans hb2.size hb.size)
    · exact (hb2.mono fun i ⟨s, _, h⟩ => hd1.inS s i h).trans hb fun i hi h => by
        rcases h with h | ⟨h1, _⟩
        · exact h
        · omega
  have c0 : w1.cell? ⟨p.r, 0, none⟩ = some (.map (some p1.fm)) := by rw [← hp1]; exact hd1.cell.1
  rw [HL.out] at hlF hc1
  clear hd1 hb1 hp1 hsz hlf hof hbf hown hblk hc2' hb2 hg2 hs2
  go_wp2_with (first | (go_at_call 45; refine (isFile_t f HF.out _).mono ?_; rintro e w' ⟨rfl, rfl⟩) | (go_at_call 16; refine HSZ.out.mono ?_; rintro e w' ⟨rfl, rfl⟩))
  go_region
  go_wp2_with fail
  refine HST.out.mono ?_
  rintro e w3 ⟨rfl, haf3⟩
  have HAF3 := Lib.hid haf3
  clear haf3
  go_wp2_with fail
  go_ret
  exact ⟨rfl, HAF3.out⟩

theorem trunc_any {S : Nat → Prop} {p : Rep} {st : St} {w : World} (h : IsD S p st w) (f n : Int) (hf : -9223372036854775808 ≤ f ∧ f ≤ 9223372036854775807) (hn : -9223372036854775808 ≤ n ∧ n ≤ 9223372036854775807) :
    Calls Try.prog 30 #[.pointer (some ⟨p.r, 0, none⟩), .int .i64 f, .int .i64 n] w fun e w' => e = .returned (.int .i64 (truncR st f n)) ∧ Af S p.r (trunc st f n) w w' := by
  by_cases hx : (goes st).down = true ∨ isF f = false ∨ n < 0 ∨ n > ((goes st).now f).length
  · exact trunc_err h f n hf hn hx
  · have h1 : (goes st).down = false := by cases e : (goes st).down <;> simp_all
    have h2 : isF f = true := by cases e : isF f <;> simp_all
    have h3 : 0 ≤ n := by
      have : ¬ n < 0 := fun e => hx (.inr (.inr (.inl e)))
      omega
    have h4 : n ≤ ((goes st).now f).length := by
      have : ¬ n > ((goes st).now f).length := fun e => hx (.inr (.inr (.inr e)))
      omega
    obtain ⟨n, rfl⟩ : ∃ k : Nat, n = k := ⟨n.toNat, by omega⟩
    have e1 : trunc st f n = cut (goes st) f n := by unfold trunc; rw [if_neg hx]; simp
    have e2 : truncR st f n = 0 := by unfold truncR; rw [if_neg (by simp [h1]), if_neg (fun e => hx (.inr e))]
    rw [e1, e2]
    exact trunc_ok h f n h1 h2 (by omega)
end Go.Proofs.Ytkphmkhdlkdphaa
