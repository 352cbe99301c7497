/- DiskSynced, walked. -/
import Derived.Test.YtkphmkhdlkdphaaR2
import Derived.Test.YtkphmkhdlkdphaaQ2
namespace Go.Proofs.Ytkphmkhdlkdphaa
open Go.RowKit Go.ChangeShapes Go.WideShapes

theorem sync_one {B r : Nat} {st : St} {w : World} (h : One B r st w) (hB : B ≤ w.heap.size) (f : Int) (hf : -9223372036854775808 ≤ f ∧ f ≤ 9223372036854775807) {c : Int} (h2 : syncR st f = c) :
    Calls Try.prog 19 #[.pointer (some ⟨r, 0, none⟩), .int .i64 f] w fun e w' => e = .returned (.int .i64 c) ∧ One B r (sync st f) w' ∧ Ov B w w' :=
  h.l hB fun S p hp hd hS => by subst hp; subst h2; exact sync_any hd f hf

theorem Syn.run {st : St} {f : Int} {L : List UInt8} (h : Syn st f L) (v : Ac) (hv : (v.knd < 4 ∧ v.f ≠ f) ∨ v.knd = 4) : Syn (v.run st) f L := by
  unfold Ac.run
  rcases hv with ⟨h4, hne⟩ | h4
  · split
    · exact h.sync hne
    · split
      · exact h.trunc hne
      · rw [if_neg (by omega), if_neg (by omega), if_neg (by omega), if_neg (by omega)]
        exact h.write hne
  · rw [if_neg (by omega), if_neg (by omega), if_pos h4]
    exact ⟨h.now, h.dur, h.q⟩

set_option maxRecDepth 100000 in
set_option maxHeartbeats 4000000 in
theorem synced_out (a a2 a3 : Option Addr) (cap cap2 cap3 : Nat) (vs us : List Ac) (ks : List Int) (f : Int) (w : World) (hv : ACells w a vs) (hl : vs.length ≤ 9223372036854775807) (hu : ACells w a2 us) (hl2 : us.length ≤ 9223372036854775807) (hl3 : ks.length ≤ 9223372036854775807)
    (hx : few vs = false ∨ few us = false ∨ 60 < ks.length) :
    Calls Try.prog 5 #[.slice a vs.length cap, .int .i64 f, .slice a2 us.length cap2, .slice a3 ks.length cap3] w (Gives (.bool true) w) := by
  obtain ⟨b, hb⟩ : ∃ b, few vs = b := ⟨_, rfl⟩
  obtain ⟨b2, hb2⟩ : ∃ b, few us = b := ⟨_, rfl⟩
  rw [hb, hb2] at hx
  have HF := Lib.hid (fun w1 (hw : Ov w.heap.size w w1) => few_later (cap := cap) hv hl hw hb)
  have HF2 := Lib.hid (fun w1 (hw : Ov w.heap.size w w1) => few_later (cap := cap2) hu hl2 hw hb2)
  clear hb hv hb2 hu
  cases b
  · clear hx
    go_enter Try.func5, Try.ntmps5
    go_wp2_with fail
    refine (small_any w).mono ?_
    rintro e w1 ⟨rfl, h1⟩
    have H1 := Lib.hid h1
    clear h1
    go_wp2_with fail
    refine (HF.out _ H1.out).mono ?_
    rintro e w2 ⟨rfl, rfl⟩
    go_wp2_with fail
    go_ret
    exact gives_ov H1.out
  · cases b2
    · clear hx
      go_enter Try.func5, Try.ntmps5
      go_wp2_with fail
      refine (small_any w).mono ?_
      rintro e w1 ⟨rfl, h1⟩
      have H1 := Lib.hid h1
      clear h1
      go_wp2_with fail
      refine (HF.out _ H1.out).mono ?_
      rintro e w2 ⟨rfl, rfl⟩
      go_wp2_with fail
      refine (HF2.out _ H1.out).mono ?_
      rintro e w2 ⟨rfl, rfl⟩
      go_wp2_with fail
      go_ret
      exact gives_ov H1.out
    · have h60 : 60 < ks.length := by rcases hx with h | h | h <;> first | (cases h; done) | exact h
      clear hx
      go_enter Try.func5, Try.ntmps5
      go_wp2_with fail
      refine (small_any w).mono ?_
      rintro e w1 ⟨rfl, h1⟩
      have H1 := Lib.hid h1
      clear h1
      go_wp2_with fail
      refine (HF.out _ H1.out).mono ?_
      rintro e w2 ⟨rfl, rfl⟩
      go_wp2_with fail
      refine (HF2.out _ H1.out).mono ?_
      rintro e w2 ⟨rfl, rfl⟩
      go_wp2_with fail
      go_ret
      exact gives_ov H1.out

set_option maxRecDepth 100000 in
set_option maxHeartbeats 4000000 in
theorem synced_fail (a a2 a3 : Option Addr) (cap cap2 cap3 : Nat) (vs us : List Ac) (ks : List Int) (f : Int) (w : World) (hv : ACells w a vs) (hl : vs.length ≤ 9223372036854775807) (hu : ACells w a2 us) (hl2 : us.length ≤ 9223372036854775807) (hl3 : ks.length ≤ 60)
    (hb : few vs = true) (hb2 : few us = true) (hf : -9223372036854775808 ≤ f ∧ f ≤ 9223372036854775807) (hx : syncR (runs vs St.new) f ≠ 0) :
    Calls Try.prog 5 #[.slice a vs.length cap, .int .i64 f, .slice a2 us.length cap2, .slice a3 ks.length cap3] w (Gives (.bool true) w) := by
  have HF := Lib.hid (fun w1 (hw : Ov w.heap.size w w1) => few_later (cap := cap) hv hl hw hb)
  have HF2 := Lib.hid (fun w1 (hw : Ov w.heap.size w w1) => few_later (cap := cap2) hu hl2 hw hb2)
  have HP := Lib.hid (fun w1 (hw : Ov w.heap.size w w1) => played_later (cap := cap) hv hb hw)
  obtain ⟨c, hc⟩ : ∃ c, syncR (runs vs St.new) f = c := ⟨_, rfl⟩
  rw [hc] at hx
  have HC := Lib.hid hc
  obtain ⟨X, hX⟩ : ∃ X : ByteArray, readS (runs vs St.new) f 0 16777216 = X.data.toList := ⟨⟨(readS (runs vs St.new) f 0 16777216).toArray⟩, rfl⟩
  have HX := Lib.hid hX
  have hc1 : (c == 0) = false := by simpa using hx
  have hc2 : decide (c = 0) = false := by simpa using hx
  have hc3 : (c != 0) = true := by simpa using hx
  clear hb hv hb2 hu hx hc hX
  go_enter Try.func5, Try.ntmps5
  go_wp2_with fail
  refine (small_any w).mono ?_
  rintro e w1 ⟨rfl, h1⟩
  have H1 := Lib.hid h1
  clear h1
  go_wp2_with fail
  refine (HF.out _ H1.out).mono ?_
  rintro e w2 ⟨rfl, rfl⟩
  go_wp2_with fail
  refine (HF2.out _ H1.out).mono ?_
  rintro e w2 ⟨rfl, rfl⟩
  go_wp2_with fail
  refine (HP.out _ H1.out).mono ?_
  rintro e w2 ⟨r, rfl, h2, hb2⟩
  have hz : w.heap.size ≤ w2.heap.size := (H1.out.trans hb2).size
  have HO : Hid (Ov w.heap.size w w2) := H1.out.trans hb2
  have HN := Lib.hid (read_one h2 f 0 16777216 hf (by omega) (by omega) HX.out rfl)
  have H2 := Lib.hid h2
  clear h2 hb2 H1
  go_wp2_with fail
  refine HN.out.mono ?_
  clear HN
  rintro e w3 ⟨rfl, hb3⟩
  have h3 := H2.out.keep0 hb3
  have hz3 : w.heap.size ≤ w3.heap.size := Nat.le_trans hz hb3.size
  have HO3 : Hid (Ov w.heap.size w w3) := HO.out.trans (Ov.nothing hb3)
  have HN := Lib.hid (sync_one h3 hz3 f hf HC.out)
  clear h3 hb3
  go_wp2_with fail
  refine HN.out.mono ?_
  clear HN
  rintro e w4 ⟨rfl, h4, hb4⟩
  have HO4 : Hid (Ov w.heap.size w w4) := HO3.out.trans hb4
  clear h4 hb4
  go_wp2_with fail
  go_ret
  exact gives_ov HO4.out

def SynAt (B r : Nat) (f : Int) (L : List UInt8) (w wr : World) : Prop := ∃ st, One B r st wr ∧ Syn st f L ∧ Ov B w wr

set_option maxRecDepth 100000 in
set_option maxHeartbeats 4000000 in
theorem synced_main (a a2 a3 : Option Addr) (cap cap2 cap3 : Nat) (vs us : List Ac) (ks : List Int) (f : Int) (w : World) (hv : ACells w a vs) (hl : vs.length ≤ 9223372036854775807) (hu : ACells w a2 us) (hl2 : us.length ≤ 9223372036854775807) (hl3 : ks.length ≤ 60)
    (hk : Ints w (.slice a3 ks.length cap3) ks) (hkb : ∀ x ∈ ks, -9223372036854775808 ≤ x ∧ x ≤ 9223372036854775807)
    (hb : few vs = true) (hb2 : few us = true) (hf : -9223372036854775808 ≤ f ∧ f ≤ 9223372036854775807) (hx : syncR (runs vs St.new) f = 0) :
    Calls Try.prog 5 #[.slice a vs.length cap, .int .i64 f, .slice a2 us.length cap2, .slice a3 ks.length cap3] w (Gives (.bool true) w) := by
  have HF := Lib.hid (fun w1 (hw : Ov w.heap.size w w1) => few_later (cap := cap) hv hl hw hb)
  have HF2 := Lib.hid (fun w1 (hw : Ov w.heap.size w w1) => few_later (cap := cap2) hu hl2 hw hb2)
  have HP := Lib.hid (fun w1 (hw : Ov w.heap.size w w1) => played_later (cap := cap) hv hb hw)
  have HC := Lib.hid hx
  have HALL := Lib.hid (few_iff.1 hb2).1
  obtain ⟨st, hst⟩ : ∃ st, runs vs St.new = st := ⟨_, rfl⟩
  rw [hst] at HP HC
  obtain ⟨X, hX⟩ : ∃ X : ByteArray, st.now f = X.data.toList := ⟨⟨(st.now f).toArray⟩, rfl⟩
  have HX := Lib.hid hX
  have HU := Lib.hid hu
  have HK := Lib.hid hk
  have HKB := Lib.hid hkb
  have hbox : ∃ b off, us ≠ [] → a2 = some ⟨b, off, none⟩ := by
    rcases hu with h | ⟨b, o, h, _⟩
    · exact ⟨0, 0, fun e => absurd h e⟩
    · exact ⟨b, o, fun _ => h⟩
  have HBOX := Lib.hid hbox
  clear hb hv hb2 hu hx hX hst hk hkb hbox
  go_enter Try.func5, Try.ntmps5
  go_wp2_with fail
  refine (small_any w).mono ?_
  rintro e w1 ⟨rfl, h1⟩
  have H1 := Lib.hid h1
  clear h1
  go_wp2_with fail
  refine (HF.out _ H1.out).mono ?_
  rintro e w2 ⟨rfl, rfl⟩
  go_wp2_with fail
  refine (HF2.out _ H1.out).mono ?_
  rintro e w2 ⟨rfl, rfl⟩
  go_wp2_with fail
  refine (HP.out _ H1.out).mono ?_
  rintro e w2 ⟨r, rfl, h2, hb2⟩
  have hz : w.heap.size ≤ w2.heap.size := (H1.out.trans hb2).size
  have HO : Hid (Ov w.heap.size w w2) := H1.out.trans hb2
  have HSO := Lib.hid (sync_ok h2.wf HC.out)
  have hrd := readS_whole h2.wf HSO.out.1 HSO.out.2.1
  have HN := Lib.hid (read_one h2 f 0 16777216 hf (by omega) (by omega) (hrd.1.trans HX.out) hrd.2)
  have H2 := Lib.hid h2
  clear h2 hb2 H1 hrd
  go_wp2_with fail
  refine HN.out.mono ?_
  clear HN
  rintro e w3 ⟨rfl, hb3⟩
  have h3 := H2.out.keep0 hb3
  have hz3 : w.heap.size ≤ w3.heap.size := Nat.le_trans hz hb3.size
  have HO3 : Hid (Ov w.heap.size w w3) := HO.out.trans (Ov.nothing hb3)
  have HN := Lib.hid (sync_one h3 hz3 f hf HC.out)
  clear h3 hb3
  go_wp2_with fail
  refine HN.out.mono ?_
  clear HN
  rintro e w4 ⟨rfl, h4, hb4⟩
  have hz4 : w.heap.size ≤ w4.heap.size := Nat.le_trans hz3 hb4.size
  have HO4 : Hid (Ov w.heap.size w w4) := HO3.out.trans hb4
  have hrd := readS_whole h4.wf HSO.out.2.2.1 HSO.out.2.1
  have HN := Lib.hid (read_one h4 f 0 16777216 hf (by omega) (by omega) (hrd.1.trans (HSO.out.2.2.2.1.trans HX.out)) hrd.2)
  have H4 := Lib.hid h4
  clear h4 hb4 hrd
  go_wp2_with fail
  refine HN.out.mono ?_
  clear HN
  rintro e w5 ⟨rfl, hb5⟩
  have h5 := H4.out.keep0 hb5
  have hz5 : w.heap.size ≤ w5.heap.size := Nat.le_trans hz4 hb5.size
  have HAT : Hid (SynAt w.heap.size r f X.data.toList w w5) := ⟨_, h5, by rw [← HX.out]; exact HSO.out.2.2.2.2, HO4.out.trans (Ov.nothing hb5)⟩
  have HISF := Lib.hid HSO.out.2.1
  clear h5 hb5 HO4 HO3 HO H2 H4 HSO HC HP HF HF2 hz hz3 hz4 HX
  go_wp2_with fail
  go_loopw [15] (fun i wr => ∃ k : Nat, k ≤ us.length ∧ i = .int .i64 k ∧ Hid (SynAt w.heap.size r f X.data.toList w wr)) (fun i _ => us.length - (RowKit.intOf i).toNat)
  case atStart => exact ⟨0, by omega, rfl, HAT⟩
  case round =>
    clear HAT hz5
    obtain ⟨k, hk, rfl, hat⟩ := hrel
    by_cases hlt : k < us.length
    · obtain ⟨b, off, hne⟩ := HBOX.out
      obtain rfl := hne (fun e => by rw [e] at hlt; simp at hlt)
      clear hne
      obtain ⟨v, hvk⟩ : ∃ v, v = us[k] := ⟨_, rfl⟩
      obtain ⟨st', h1', h2', h3'⟩ := hat.out
      have hvl := HU.out.later (B := w.heap.size) (Nat.le_refl _) h3'
      have hcok : (∀ j u, v.cells[j]? = some u → wr.cell? ⟨b, off + k * 5 + j, none⟩ = some u) ∧ AOk w v := by
        rcases hvl with h | ⟨b', o', e, hc⟩
        · rw [h] at hlt; simp at hlt
        · cases e
          rw [hvk]
          refine ⟨(hc k hlt).1, ?_⟩
          rcases HU.out with h | ⟨b', o', e, hc0⟩
          · rw [h] at hlt; simp at hlt
          · exact (hc0 k hlt).2
      obtain ⟨hck, hok⟩ := hcok
      have f0 : wr.cell? ⟨b, off + k * 5, none⟩ = some (.int .i64 v.kd) := hck 0 _ rfl
      have f1 : wr.cell? ⟨b, off + k * 5 + 1, none⟩ = some (.int .i64 v.f) := hck 1 _ rfl
      have f2 : wr.cell? ⟨b, off + k * 5 + 2, none⟩ = some (.int .i64 v.n) := hck 2 _ rfl
      have f3 : wr.cell? ⟨b, off + k * 5 + 3, none⟩ = some (.string v.s) := hck 3 _ rfl
      have f4 : wr.cell? ⟨b, off + k * 5 + 4, none⟩ = some (.slice v.ka v.k.length v.kc) := hck 4 _ rfl
      have hz : w.heap.size ≤ wr.heap.size := h3'.size
      have HD := Lib.hid (do_one h1' hz v (HALL.out v (by rw [hvk]; exact List.getElem_mem hlt)) hok (Nat.le_refl _) h3')
      have hlb := hok.lb
      have hsb := hok.sb
      have HS2 := Lib.hid h2'
      have HO := Lib.hid h3'
      obtain ⟨kd, hkd⟩ : ∃ kd, v.knd = kd := ⟨_, rfl⟩
      have HKD := Lib.hid hkd
      unfold Ac.knd at hkd
      clear hvk hvl hck hok h1' h2' h3'
      by_cases hdo : (kd < 4 ∧ v.f ≠ f) ∨ kd = 4
      · have HSY : Hid (Syn (v.run st') f X.data.toList) := HS2.out.run v (by rw [HKD.out]; exact hdo)
        rcases hdo with ⟨h4, hne⟩ | rfl
        · have g1 : (v.f == f) = false := by simpa using hne
          have g2 : decide (v.f = f) = false := by simpa using hne
          have g3 : (v.f != f) = true := by simpa using hne
          clear hne
          go_wp2_with fail
          refine HD.out.mono ?_
          rintro e w6 ⟨rfl, h6, hb6⟩
          have H6 : Hid (SynAt w.heap.size r f X.data.toList w w6) := ⟨_, h6, HSY.out, HO.out.trans hb6⟩
          clear h6 hb6
          go_wp2_with fail
          go_roundw
          case rel => exact ⟨k + 1, by omega, by go_num, H6⟩
          case measure => simp [RowKit.intOf]; omega
        · go_wp2_with fail
          refine HD.out.mono ?_
          rintro e w6 ⟨rfl, h6, hb6⟩
          have H6 : Hid (SynAt w.heap.size r f X.data.toList w w6) := ⟨_, h6, HSY.out, HO.out.trans hb6⟩
          clear h6 hb6
          go_wp2_with fail
          go_roundw
          case rel => exact ⟨k + 1, by omega, by go_num, H6⟩
          case measure => simp [RowKit.intOf]; omega
      · have h4 : ¬ kd = 4 := fun e => hdo (.inr e)
        have g4 : (kd == 4) = false := by simpa using h4
        have g5 : decide (kd = 4) = false := by simpa using h4
        by_cases h5 : kd < 4
        · have hvf : v.f = f := by
            by_cases e : v.f = f
            · exact e
            · exact absurd (.inl ⟨h5, e⟩) hdo
          clear hdo h4
          rw [hvf] at f1
          clear hvf
          go_wp2_with fail
          go_roundw
          case rel => exact ⟨k + 1, by omega, by go_num, hat⟩
          case measure => simp [RowKit.intOf]; omega
        · clear hdo h4
          go_wp2_with fail
          go_roundw
          case rel => exact ⟨k + 1, by omega, by go_num, hat⟩
          case measure => simp [RowKit.intOf]; omega
    · obtain ⟨st', h1', h2', h3'⟩ := hat.out
      have hz : w.heap.size ≤ wr.heap.size := h3'.size
      have hrd := syn_last h1'.wf h2' HISF.out ks
      have HRD := Lib.hid hrd
      have HN := Lib.hid (crash_one h1' hz _ ks HK.out (Nat.le_refl _) h3' ⟨by omega, HKB.out⟩)
      have HO := Lib.hid h3'
      clear h1' h2' h3' hrd
      go_wp2_with fail
      refine HN.out.mono ?_
      clear HN
      rintro e w6 ⟨rfl, h6, hb6⟩
      have hz6 : w.heap.size ≤ w6.heap.size := Nat.le_trans hz hb6.size
      have HO6 : Hid (Ov w.heap.size w w6) := HO.out.trans hb6
      have HN := Lib.hid (start_one h6 hz6)
      clear h6 hb6
      go_wp2_with fail
      refine HN.out.mono ?_
      clear HN
      rintro e w7 ⟨rfl, h7, hb7⟩
      have HO7 : Hid (Ov w.heap.size w w7) := HO6.out.trans hb7
      have HN := Lib.hid (read_one h7 f 0 16777216 hf (by omega) (by omega) HRD.out.1 HRD.out.2)
      clear h7 hb7
      go_wp2_with fail
      refine HN.out.mono ?_
      clear HN
      rintro e w8 ⟨rfl, hb8⟩
      have HO8 : Hid (Ov w.heap.size w w8) := HO7.out.trans (Ov.nothing hb8)
      clear hb8
      go_wp2_with fail
      go_ret
      exact gives_ov HO8.out
end Go.Proofs.Ytkphmkhdlkdphaa
