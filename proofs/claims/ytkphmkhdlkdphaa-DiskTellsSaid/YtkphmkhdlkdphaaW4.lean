/- The contract of Write where it writes. -/
import Derived.Test.YtkphmkhdlkdphaaW3
namespace Go.Proofs.Ytkphmkhdlkdphaa
open Go.RowKit Go.ChangeShapes Go.WideShapes
attribute [local go_sem ↓] Go.wp_at_zero Go.wp_at_succ

def SeenF (p : Rep) (w' : World) : Prop := w'.cell? ⟨p.r, 0, none⟩ = some (.map (some p.fm))

def nowW (st : St) (f : Int) (a : Nat) (s : List UInt8) : St := { st with now := upd st.now f (putL (st.now f) a s) }

theorem wr_eq {st : St} {f : Int} {a : Nat} {s : List UInt8} (h : s ≠ []) : wr st f a s = withQ (nowW st f a s) (addQ (nowW st f a s).q (secs f a s.length)) := by
  unfold wr; rw [if_neg h]; rfl

theorem write_put {S : Nat → Prop} {p : Rep} {st : St} {w w3 : World} (h : IsD S p st w) (f : Int) (a : Nat) (s : ByteArray) (hf : isF f = true) (h0 : 0 < s.size) (ha : a + s.size ≤ 16777216)
    {fa : Option Addr} {fc : Nat} (hof : OwnB w (.slice fa (st.now f).length fc) (st.now f)) (hbf : blk (.slice fa (st.now f).length fc) = p.at (.f f)) (hg3 : w.grownBy w3 none) :
    Calls Try.prog 49 #[.slice fa (st.now f).length fc, .int .i64 a, .string s] w3 (fun e w4 => ∃ a4 n4 c4 w5, e = .returned (.slice a4 n4 c4) ∧ SeenF p w4 ∧ (Instr.mapUpdate 52 (.map (some p.fm)) (.int .i64 f) (.slice a4 n4 c4)).run Try.prog w4 = .ok () w5 ∧ SeenF p w5 ∧ Af S p.r (nowW st f a s.data.toList) w w5) := by
  have hfr := isF_t.1 hf
  have h3 := h.grown hg3
  have hlen := h.wf.len f
  have ho3 : OwnB w3 (.slice fa (st.now f).length fc) (st.now f) := Own.grown0 hof hg3
  refine (put_any _ _ a s w3 ho3 h0 hlen ha).mono ?_
  rintro e w4 ⟨v4, rfl, ho4, hg4, hb4⟩
  obtain ⟨a4, c4, rfl, _, _⟩ := ho4.shape
  rw [hbf] at hg4 hb4
  obtain ⟨w5, hup, hc5, hbut5, hg5, hs5⟩ := (h3.core).fput f (by omega) hg4 ho4 (by
    rcases hb4 with e | ⟨g, e1, e2⟩
    · exact .inr (.inl e)
    · exact .inr (.inr ⟨g, e1, e2⟩))
  have hlr : p.r < w.heap.size := h.lt (s := .r) rfl
  have hs3 := hg3.size
  have hs4 := hg4.size
  have ner : Rep.at p (.f f) ≠ some p.r := fun e => by have := h.inj (.f f) .r p.r e rfl; cases this
  have nefr : p.fm ≠ p.r := fun e => by have := h.inj .fm .r p.fm rfl (by rw [e]; rfl); cases this
  have k3r := hg3.block p.r hlr (by simp)
  have k4r := hg4.block p.r (by omega) (Ne.symm ner)
  have k5r := hg5.block p.r (by omega) (fun e => nefr (Option.some.inj e).symm)
  have hc0 := h.cell.1
  have seen : ∀ w', w'.heap[p.r]? = w.heap[p.r]? → SeenF p w' := fun w' e1 => by
    unfold SeenF
    rw [World.cell?_of_block (a := ⟨p.r, 0, none⟩) e1]; exact hc0
  refine ⟨a4, _, c4, w5, rfl, seen _ (k4r.trans k3r), hup, seen _ (k5r.trans (k4r.trans k3r)), ⟨{ p with fv := upd p.fv f (some (Value.slice a4 (putL (st.now f) a s.data.toList).length c4)) }, rfl, ?_⟩, ?_⟩
  · have hwf := now_wf (l := putL (st.now f) a s.data.toList) h.wf hf (by rw [putL_length]; omega) (by rw [putL_length]; have : s.data.toList.length = s.size := (Lib.size_eq s).symm; omega)
    refine (hc5.full hwf).mono fun b hb => ?_
    rcases hb with hb | ⟨h1, h2⟩
    · exact .inl hb
    · exact .inr ⟨by omega, h2⟩
  · exact ((But.of hg3 fun b e _ => by cases e) : But S w w3).trans hbut5 fun i hi ⟨s', _, hs'⟩ => h.inS s' i hs'

set_option maxHeartbeats 1000000 in
theorem write_yes {S : Nat → Prop} {p : Rep} {st : St} {w : World} (h : IsD S p st w) (f : Int) (a : Nat) (s : ByteArray) (h0 : 0 < s.size) (hx : chk st f a s.size = 0) :
    Calls Try.prog 29 #[.pointer (some ⟨p.r, 0, none⟩), .int .i64 f, .int .i64 a, .string s] w fun e w' => e = .returned (.int .i64 (writeR st f a s.data.toList)) ∧ Af S p.r (write st f a s.data.toList) w w' := by
  have hsz : s.data.toList.length = s.size := (Lib.size_eq s).symm
  obtain ⟨hdn, hf, ha0, hb0⟩ := chk_zero.1 hx
  have hfr := isF_t.1 hf
  have hab : a + s.size ≤ 16777216 := by omega
  have hne : s.data.toList ≠ [] := fun e => by rw [e] at hsz; simp at hsz; omega
  have HW : Hid (write st f a s.data.toList = goes (withQ (nowW st f a s.data.toList) (addQ (nowW st f a s.data.toList).q (secs f a s.size)))) := by
    unfold Hid write
    rw [hsz, if_pos hx]
    show goes (wr st f ((a : Int).toNat) s.data.toList) = _
    rw [Int.toNat_natCast, wr_eq hne, hsz]
  have HR : Hid (writeR st f a s.data.toList = if (goes (withQ (nowW st f a s.data.toList) (addQ (nowW st f a s.data.toList).q (secs f a s.size)))).down = true then 8 else 0) := by
    unfold Hid writeR
    rw [HW.out, hsz, hx]
  have HC := Lib.hid (check_any h f a s.size (by omega) (by omega) (by omega))
  rw [hx] at HC
  obtain ⟨fa, fc, hlf, hof, hbf, hc1, hc2⟩ := h.lookF f (by omega)
  have hl0 := hlf w.drew rfl
  have HPU := Lib.hid (fun w3 hg3 => write_put (w3 := w3) h f a s hf h0 hab hof hbf hg3)
  have hseen : SeenF p w.drew := h.cell.1
  have HF := Lib.hid hf
  have hnl : a + s.size ≤ ((nowW st f a s.data.toList).now f).length := by
    show _ ≤ (upd st.now f (putL (st.now f) a s.data.toList) f).length
    rw [upd_same, putL_length, hsz]; omega
  have HNL := Lib.hid hnl
  have HG3 : Hid (∀ n, w.grownBy (w.drewN n) none) := fun n => grown_drewN w n
  obtain ⟨l, hl⟩ : ∃ l, (st.now f).length = l := ⟨_, rfl⟩
  rw [hl] at hl0 hc1
  rw [hl] at HPU
  clear hdn hf ha0 hb0 hx hlf hof hbf h hl hnl hfr hsz
  have hs1 : (!s.toList.isEmpty) = true := by
    have : s.toList = s.data.toList := ByteArray.toList_eq s
    rw [this]
    cases e : s.data.toList with
    | nil => exact absurd e hne
    | cons x r => rfl
  unfold SeenF at hseen
  clear hne
  go_enter Try.func29, Try.ntmps29
  go_wp2_with (first | (go_at_call 51; refine HC.out.mono ?_; rintro e w' ⟨rfl, rfl⟩))
  go_region_held3 (fun w' => w'.cell? ⟨p.r, 0, none⟩ = some (.map (some p.fm)))
    (first | exact hseen | exact hs4 | exact hs5)
    (first | (go_at_call 49; refine (HPU.out _ (by first | exact grown_drewN w _ | exact grown_drew w | exact hg3 | assumption)).mono ?_; rintro e w4 ⟨a4, n4, c4, w5, rfl, hs4, hup, hs5, haf5⟩))
  all_goals
    have HA5 := Lib.hid haf5
    clear haf5 hup hs5 hs4 hl0 hseen
    obtain ⟨⟨p5, hp5, hd5⟩, hb5⟩ := HA5.out
    have hls := list_any hd5 f a s.size HF.out h0 HNL.out
    rw [hp5] at hls
    have HL := Lib.hid hls
    clear hd5 hb5 hp5 hls p5
    go_wp2_with (first | (go_at_call 52; refine HL.out.mono ?_; rintro e w6 ⟨rfl, haf6⟩))
    have HA6 := Lib.hid haf6
    clear haf6
    obtain ⟨⟨p6, hp6, hd6⟩, hb6⟩ := HA6.out
    have hgo := goes_any hd6
    rw [hp6] at hgo
    obtain ⟨b, hb⟩ : ∃ b, (goes (withQ (nowW st f a s.data.toList) (addQ (nowW st f a s.data.toList).q (secs f a s.size)))).down = b := ⟨_, rfl⟩
    rw [hb] at hgo
    have hR := HR.out
    rw [hb] at hR
    have HGO := Lib.hid hgo
    have HR2 := Lib.hid hR
    clear hd6 hb6 hp6 hgo hb hR p6
    cases b
    all_goals
      refine HGO.out.mono ?_
      rintro e w7 ⟨rfl, haf7⟩
      have HA7 := Lib.hid haf7
      clear haf7
      go_wp2_with fail
      go_ret
      rw [HR2.out, HW.out]
      exact ⟨rfl, HA5.out.trans (HA6.out.trans HA7.out)⟩

theorem write_any {S : Nat → Prop} {p : Rep} {st : St} {w : World} (h : IsD S p st w) (f a : Int) (s : ByteArray) (hf : -9223372036854775808 ≤ f ∧ f ≤ 9223372036854775807) (ha : -9223372036854775808 ≤ a ∧ a ≤ 9223372036854775807) (hs : s.size ≤ 4611686018427387904) :
    Calls Try.prog 29 #[.pointer (some ⟨p.r, 0, none⟩), .int .i64 f, .int .i64 a, .string s] w fun e w' => e = .returned (.int .i64 (writeR st f a s.data.toList)) ∧ Af S p.r (write st f a s.data.toList) w w' := by
  by_cases hx : chk st f a s.size ≠ 0 ∨ s.size = 0
  · exact write_no h f a s hf ha hs hx
  · have h0 : chk st f a s.size = 0 := by
      by_cases e : chk st f a s.size = 0
      · exact e
      · exact absurd (.inl e) hx
    have h1 : 0 < s.size := by
      have : s.size ≠ 0 := fun e => hx (.inr e)
      omega
    obtain ⟨n, rfl⟩ : ∃ n : Nat, a = n := ⟨a.toNat, by have := (chk_zero.1 h0).2.2.1; omega⟩
    exact write_yes h f n s h1 h0
end Go.Proofs.Ytkphmkhdlkdphaa
