/- DiskTells, walked. -/
import Derived.Test.YtkphmkhdlkdphaaE17
namespace Go.Proofs.Ytkphmkhdlkdphaa
open Go.RowKit Go.ChangeShapes Go.WideShapes

set_option maxRecDepth 100000 in
set_option maxHeartbeats 4000000 in
theorem tells_out (a : Option Addr) (cap : Nat) (vs : List Ac) (f k n : Int) (w : World) (hv : ACells w a vs) (hl : vs.length ≤ 9223372036854775807) (hb : few vs = false) :
    Calls Try.prog 3 #[.slice a vs.length cap, .int .i64 f, .int .i64 k, .int .i64 n] w (Gives (.bool true) w) := by
  have HF := Lib.hid (fun w1 (hw : Ov w.heap.size w w1) => few_later (cap := cap) hv hl hw hb)
  clear hb hv
  go_enter Try.func3, Try.ntmps3
  go_wp2_with fail
  refine (small_any w).mono ?_
  rintro e w1 ⟨rfl, h1⟩
  have H1 := Lib.hid h1
  clear h1
  go_wp2_with fail
  refine (HF.out _ H1.out).mono ?_
  rintro e w2 ⟨rfl, rfl⟩
  go_wp2_with fail
  go_ret
  exact gives_ov H1.out

theorem new_rel : Rel ⟨[], [], 0, false, 0, []⟩ St.new :=
  ⟨⟨⟨by simp, fun x hx => by cases hx⟩, fun f => rfl, fun f => rfl⟩, rfl, rfl, rfl, rfl, fun h => absurd rfl h, by simp, new_wf⟩
def SameAt (B r1 r2 : Nat) (w wr : World) : Prop := ∃ st, PR B r1 st r2 st wr ∧ Ov B w wr

set_option maxRecDepth 100000 in
set_option maxHeartbeats 8000000 in
theorem tells_main (a : Option Addr) (cap : Nat) (us : List Ac) (f x y : Int) (w : World) (hv : ACells w a us) (hl : us.length ≤ 9223372036854775807) (hb : few us = true)
    (hf : -9223372036854775808 ≤ f ∧ f ≤ 9223372036854775807) (hx : -9223372036854775808 ≤ x ∧ x ≤ 9223372036854775807) (hy : -9223372036854775808 ≤ y ∧ y ≤ 9223372036854775807) :
    Calls Try.prog 3 #[.slice a us.length cap, .int .i64 f, .int .i64 x, .int .i64 y] w (Gives (.bool true) w) := by
  have HF := Lib.hid (fun w1 (hw : Ov w.heap.size w w1) => few_later (cap := cap) hv hl hw hb)
  have HALL := Lib.hid (few_iff.1 hb).1
  have h40 := (few_iff.1 hb).2
  have HU := Lib.hid hv
  have hbox : ∃ b off, us ≠ [] → a = some ⟨b, off, none⟩ ∧ b < w.heap.size := by
    rcases hv with h | ⟨b, o, h, hc⟩
    · exact ⟨0, 0, fun e => absurd h e⟩
    · refine ⟨b, o, fun hne => ⟨h, ?_⟩⟩
      have h0 : 0 < us.length := by cases us with | nil => exact absurd rfl hne | cons => simp
      exact World.block_lt_of_cell? w _ ((hc 0 h0).1 0 _ rfl)
  have HBOX := Lib.hid hbox
  clear hb hv hbox
  go_enter Try.func3, Try.ntmps3
  go_wp2_with fail
  refine (small_any w).mono ?_
  rintro e w1 ⟨rfl, h1⟩
  have H1 := Lib.hid h1
  have hz1 : w.heap.size ≤ w1.heap.size := h1.size
  clear h1
  go_wp2_with fail
  refine (HF.out _ H1.out).mono ?_
  rintro e w2 ⟨rfl, rfl⟩
  go_wp2_with fail
  refine (new_any w1).mono ?_
  rintro e w2 ⟨r1, rfl, hdk, hg⟩
  have H2 : Hid (Disk (fun b => w1.heap.size ≤ b ∧ b < w2.heap.size) r1 St.new w2 ∧ Ov w.heap.size w w2 ∧ w1.heap.size ≤ w2.heap.size) := ⟨hdk, H1.out.trans (Ov.grown hg), hg.size⟩
  clear hdk hg
  go_wp2_with fail
  refine (rnew_any w2).mono ?_
  rintro e w3 ⟨r2, rfl, hrf, hg⟩
  have H3 : Hid (SameAt w.heap.size r1 r2 w w3) := by
    obtain ⟨⟨p, hp, hd⟩, ho, hz⟩ := H2.out
    have hz3 := hg.size
    refine ⟨St.new, ⟨_, _, ⟨p, hp, hd.grown hg⟩, ⟨_, hrf, new_rel⟩, fun b h1 h2 => by omega, fun b h => ⟨by omega, by omega⟩, fun b h => ⟨by omega, h.2⟩⟩, ho.trans (Ov.grown hg)⟩
  clear hrf hg H2 HF hz1
  go_wp2_with fail
  go_loopw [10, 12] (fun d i wr => ∃ (k q : Nat), k ≤ us.length ∧ d = .pointer (some ⟨q, 0, none⟩) ∧ i = .int .i64 k ∧ Hid (SameAt w.heap.size q r2 w wr)) (fun _ i _ => us.length - (RowKit.intOf i).toNat)
  case atStart => exact ⟨0, r1, by omega, rfl, rfl, H3⟩
  case round =>
    clear H3
    obtain ⟨k, q, hk, rfl, rfl, hat⟩ := hrel
    by_cases hlt : k < us.length
    · obtain ⟨b, off, hne⟩ := HBOX.out
      obtain ⟨rfl, hbw⟩ := hne (fun e => by rw [e] at hlt; simp at hlt)
      clear hne
      obtain ⟨st, hpr, hov⟩ := hat.out
      obtain ⟨hcl, hok⟩ := acell HU.out (Nat.le_refl _) hov hlt
      obtain ⟨v, hvk⟩ : ∃ v, us[k] = v := ⟨_, rfl⟩
      have HV : Hid (fewA v = true) := HALL.out v (by rw [← hvk]; exact List.getElem_mem hlt)
      rw [hvk] at hcl hok
      have HOK := Lib.hid hok
      have hlb := hok.lb
      have hsb := hok.sb
      have HAT : Hid (At w.heap.size q st r2 st b (off + k * 5) v w wr) := ⟨hpr, hov, hcl 0 _ rfl, hcl 1 _ rfl, hcl 2 _ rfl, hcl 3 _ rfl, hcl 4 _ rfl⟩
      obtain ⟨f0, f1, f2, f3, f4⟩ := HAT.out.ac
      obtain ⟨res, hres⟩ : ∃ res, v.res st = res := ⟨_, rfl⟩
      obtain ⟨st', hst'⟩ : ∃ x, v.run st = x := ⟨_, rfl⟩
      obtain ⟨dn, hdn⟩ : ∃ x, st'.down = x := ⟨_, rfl⟩
      obtain ⟨sz, hsz⟩ : ∃ x : Int, ((st'.now f).length : Int) = x := ⟨_, rfl⟩
      have HDO : Hid (∀ W, At w.heap.size q st r2 st b (off + k * 5) v w W → Calls Try.prog 12 #[.pointer (some ⟨q, 0, none⟩), .agg #[.int .i64 v.kd, .int .i64 v.f, .int .i64 v.n, .string v.s, .slice v.ka v.k.length v.kc]] W fun e w' => e = .returned (.int .i64 res) ∧ At w.heap.size q st' r2 st b (off + k * 5) v w w') := fun W h => by
        rw [← hres, ← hst']; exact at_do h HV.out HOK.out (Nat.le_refl _) hbw
      have HTE : Hid (∀ W, At w.heap.size q st' r2 st b (off + k * 5) v w W → Calls Try.prog 13 #[.pointer (some ⟨r2, 0, none⟩), .agg #[.int .i64 v.kd, .int .i64 v.f, .int .i64 v.n, .string v.s, .slice v.ka v.k.length v.kc]] W fun e w' => e = .returned (.int .i64 res) ∧ At w.heap.size q st' r2 st' b (off + k * 5) v w w') := fun W h => by
        rw [← hres]
        have := at_tell h HV.out HOK.out (Nat.le_refl _) hbw
        rw [hst'] at this
        exact this
      have HDN : Hid (∀ W, At w.heap.size q st' r2 st' b (off + k * 5) v w W → Calls Try.prog 14 #[.pointer (some ⟨q, 0, none⟩)] W fun e w' => e = .returned (.bool dn) ∧ W = w') := fun W h => at_down h hdn
      have HDR : Hid (∀ W, At w.heap.size q st' r2 st' b (off + k * 5) v w W → Calls Try.prog 15 #[.pointer (some ⟨r2, 0, none⟩)] W fun e w' => e = .returned (.bool dn) ∧ W = w') := fun W h => at_rdown h hdn
      have HSZ : Hid (∀ W, At w.heap.size q st' r2 st' b (off + k * 5) v w W → Calls Try.prog 16 #[.pointer (some ⟨q, 0, none⟩), .int .i64 f] W fun e w' => e = .returned (.int .i64 sz) ∧ W = w') := fun W h => at_size h f hf hsz
      have HSR : Hid (∀ W, At w.heap.size q st' r2 st' b (off + k * 5) v w W → Calls Try.prog 17 #[.pointer (some ⟨r2, 0, none⟩), .int .i64 f] W fun e w' => e = .returned (.int .i64 sz) ∧ At w.heap.size q st' r2 st' b (off + k * 5) v w w') := fun W h => at_rsize h f hsz hbw
      have HATD := Lib.hid HAT.out.drew
      clear hvk hcl hok hpr hov hres hst' hdn hsz
      go_upto_region 11 with fail
      go_cut [61] from 33 to 79 (fun c wx => c = .bool false ∧ Hid (At w.heap.size q st' r2 st' b (off + k * 5) v w wx))
      case first =>
        go_region_with (first
          | (go_at_call 12; (with_reducible refine (HDO.out _ ?_).mono ?_); (focus (first | exact HATD.out | exact HAT.out)); rintro e w5 ⟨rfl, hA5⟩; obtain ⟨x0, x1, x2, x3, x4⟩ := hA5.ac)
          | (go_at_call 13; (with_reducible refine (HTE.out _ ?_).mono ?_); (focus assumption); rintro e w6 ⟨rfl, hA6⟩)
          | (go_at_call 14; (with_reducible refine (HDN.out _ ?_).mono ?_); (focus assumption); rintro e w' ⟨rfl, rfl⟩)
          | (go_at_call 15; (with_reducible refine (HDR.out _ ?_).mono ?_); (focus assumption); rintro e w' ⟨rfl, rfl⟩)
          | (go_at_call 16; (with_reducible refine (HSZ.out _ ?_).mono ?_); (focus assumption); rintro e w' ⟨rfl, rfl⟩)
          | (go_at_call 17; (with_reducible refine (HSR.out _ ?_).mono ?_); (focus assumption); rintro e w7 ⟨rfl, hA7⟩))
        all_goals (go_wp2_with fail; go_meet; exact ⟨rfl, hA7⟩)
      case rest =>
        obtain ⟨rfl, hAw⟩ := hcut
        clear HDO HTE HDN HDR HSZ HSR HATD HAT f0 f1 f2 f3 f4 hat
        have HS : Hid (SameAt w.heap.size q r2 w wc) := ⟨st', hAw.out.pr, hAw.out.ov⟩
        by_cases hhalf : k = us.length / 2
        · have hq1 : ((us.length : Int) / 2) = (k : Int) := by omega
          have h0l : 0 < us.length := by omega
          clear hhalf
          obtain ⟨v0, hv0⟩ : ∃ v0, us[0] = v0 := ⟨_, rfl⟩
          have HV0 : Hid (fewA v0 = true) := HALL.out v0 (by rw [← hv0]; exact List.getElem_mem h0l)
          have hok0 := (acell HU.out (Nat.le_refl _) hAw.out.ov h0l).2
          rw [hv0] at hok0
          have HOK0 := Lib.hid hok0
          have hlb0 := hok0.lb
          have hsb0 := hok0.sb
          have HC0 : Hid (∀ W, Ov w.heap.size w W → ACell b off v0 W) := fun W ho => by
            have hh := (acell HU.out (Nat.le_refl _) ho h0l).1
            rw [hv0] at hh
            have z0 := hh 0 _ rfl
            have z1 := hh 1 _ rfl
            have z2 := hh 2 _ rfl
            have z3 := hh 3 _ rfl
            have z4 := hh 4 _ rfl
            rw [Nat.zero_mul, Nat.add_zero] at z0 z1 z2 z3 z4
            exact ⟨z0, z1, z2, z3, z4⟩
          have HCP := Lib.hid (hAw.out.pr.one.see (f := 18) (args := #[.pointer (some ⟨q, 0, none⟩)]) (Q := Copd st' wc) fun S p hp hd => by subst hp; exact copy_any hd)
          clear hv0 hok0
          go_wp2_with fail
          refine HCP.out.mono ?_
          rintro e w5 ⟨r3, rfl, hdk, hg5⟩
          have HT5 : Hid (Tri w.heap.size q st' r3 st' r2 st' w5 ∧ Ov w.heap.size w w5) := ⟨hAw.out.pr.tri hg5 hdk, hAw.out.ov.trans (Ov.grown hg5)⟩
          obtain ⟨g0, g1, g2, g3, g4⟩ := HC0.out w5 HT5.out.2
          have HDO := Lib.hid (HT5.out.1.l (f := 12) (args := #[.pointer (some ⟨q, 0, none⟩), .agg #[.int .i64 v0.kd, .int .i64 v0.f, .int .i64 v0.n, .string v0.s, .slice v0.ka v0.k.length v0.kc]]) (st0' := v0.run st') (v := .int .i64 (v0.res st')) fun S p hp hd hS => by
            subst hp
            obtain ⟨u1, u2, _⟩ := fewA_iff.1 HV0.out
            exact do_any hd v0 u1 u2 (HOK0.out.later (Nat.le_refl _) HT5.out.2) fun b hb' hs => by have := HOK0.out.ints.off_lt hb'; have := hS b hs; omega)
          clear hdk hg5
          go_wp2_with fail
          refine HDO.out.mono ?_
          rintro e w6 ⟨rfl, h6, ho6⟩
          have HT6 : Hid (Tri w.heap.size q (v0.run st') r3 st' r2 st' w6 ∧ Ov w.heap.size w w6) := ⟨h6, HT5.out.2.trans ho6⟩
          have HSY := Lib.hid (HT6.out.1.l (f := 19) (args := #[.pointer (some ⟨q, 0, none⟩), .int .i64 f]) (st0' := sync (v0.run st') f) (v := .int .i64 (syncR (v0.run st') f)) fun S p hp hd hS => by
            subst hp
            exact sync_any hd f hf)
          clear h6 ho6 g0 g1 g2 g3 g4
          go_wp2_with fail
          refine HSY.out.mono ?_
          rintro e w7 ⟨rfl, h7, ho7⟩
          have HT7 : Hid (SameAt w.heap.size r3 r2 w w7) := ⟨st', h7.pr, HT6.out.2.trans ho7⟩
          clear h7 ho7
          go_wp2_with fail
          go_roundw
          case rel => exact ⟨k + 1, r3, by omega, rfl, by go_num, HT7⟩
          case measure => simp [RowKit.intOf]; omega
        · have hq1 : ((us.length : Int) / 2) = ((us.length / 2 : Nat) : Int) := by omega
          obtain ⟨hf2, hhf⟩ : ∃ h2, us.length / 2 = h2 := ⟨_, rfl⟩
          rw [hhf] at hhalf hq1
          have g1 : ((k : Int) == (hf2 : Int)) = false := by simp; omega
          have g2 : decide ((k : Int) = (hf2 : Int)) = false := by simp; omega
          have g3 : (k == hf2) = false := by simp; omega
          have g4 : decide (k = hf2) = false := by simp; omega
          clear hhalf hhf
          go_wp2_with fail
          go_roundw
          case rel => exact ⟨k + 1, q, by omega, rfl, by go_num, HS⟩
          case measure => simp [RowKit.intOf]; omega
    · obtain ⟨st, hpr, hov⟩ := hat.out
      obtain ⟨X, hX⟩ : ∃ X : ByteArray, readS st f x y = X.data.toList := ⟨⟨(readS st f x y).toArray⟩, rfl⟩
      have HPR := Lib.hid hpr
      have HO := Lib.hid hov
      have HX := Lib.hid hX
      obtain ⟨c, hc⟩ : ∃ c, readR st f x y = c := ⟨_, rfl⟩
      have HCC := Lib.hid hc
      have HRD := Lib.hid (read_one hpr.one f x y hf hx hy hX hc)
      clear hpr hov hX hat hc
      go_wp2_with fail
      refine HRD.out.mono ?_
      rintro e w5 ⟨rfl, hb5⟩
      have h5 := HPR.out.keep0 hb5
      have HO5 : Hid (Ov w.heap.size w w5) := HO.out.trans (Ov.nothing hb5)
      have HRR := Lib.hid (h5.see (f := 21) (args := #[.pointer (some ⟨r2, 0, none⟩), .int .i64 f, .int .i64 x, .int .i64 y]) (Q := fun e w' => e = .returned (.tuple #[.string X, .int .i64 c]) ∧ w5.grownBy w' none) fun S fv qv kv a hri hr => rread_any hri hr f x y hx hy HX.out HCC.out)
      clear h5 hb5
      go_wp2_with fail
      refine HRR.out.mono ?_
      rintro e w6 ⟨rfl, hg6⟩
      have HO6 : Hid (Ov w.heap.size w w6) := HO5.out.trans (Ov.grown hg6)
      clear hg6
      go_wp2_with fail
      go_ret
      exact gives_ov HO6.out
end Go.Proofs.Ytkphmkhdlkdphaa
