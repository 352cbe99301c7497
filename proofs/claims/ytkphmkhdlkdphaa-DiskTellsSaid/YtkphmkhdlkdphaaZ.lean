/- Acts on an armed disk, and the contract of same. -/
import Derived.Test.YtkphmkhdlkdphaaR2
import Derived.Test.YtkphmkhdlkdphaaQ3
namespace Go.Proofs.Ytkphmkhdlkdphaa
open Go.RowKit Go.ChangeShapes Go.WideShapes

theorem run_more (v : Ac) {X : St} {m : Int} {ks : List Int} (hk : v.knd < 4) (hc : X.calls = 0) (hd : X.down = false) (hm : 2 ≤ m) :
    v.run (armed X m ks) = armed (v.run X) (m - 1) ks ∧ v.res (armed X m ks) = v.res X ∧ (v.run X).calls = 0 ∧ (v.run X).down = false := by
  unfold Ac.run Ac.res
  by_cases h2 : v.knd = 2
  · simp only [if_pos h2]; exact sync_more hc hd hm _
  · simp only [if_neg h2]
    by_cases h3 : v.knd = 3
    · simp only [if_pos h3]; exact trunc_more hc hd hm _ _
    · simp only [if_neg h3, if_neg (show ¬ v.knd = 4 by omega), if_neg (show ¬ v.knd = 5 by omega), if_neg (show ¬ v.knd = 6 by omega), if_neg (show ¬ v.knd = 7 by omega)]
      exact write_more hc hd hm _ _ _
theorem run_one2 (v : Ac) {X : St} {ks : List Int} (hk : v.knd < 4) (h2' : 2 ≤ v.knd) (hd : X.down = false) :
    v.run (armed X 1 ks) = crash X ks ∧ v.res (armed X 1 ks) = 8 := by
  unfold Ac.run Ac.res
  by_cases h2 : v.knd = 2
  · simp only [if_pos h2]; exact sync_one' hd _
  · simp only [if_neg h2, if_pos (show v.knd = 3 by omega)]; exact trunc_one' hd _ _
theorem run_one1 (v : Ac) {X : St} {ks : List Int} (hk : v.knd < 2) (hc : X.calls = 0) (hd : X.down = false) :
    v.run (armed X 1 ks) = crash (v.run X) ks ∧ v.res (armed X 1 ks) = 8 := by
  unfold Ac.run Ac.res
  simp only [if_neg (show ¬ v.knd = 2 by omega), if_neg (show ¬ v.knd = 3 by omega), if_neg (show ¬ v.knd = 4 by omega), if_neg (show ¬ v.knd = 5 by omega), if_neg (show ¬ v.knd = 6 by omega), if_neg (show ¬ v.knd = 7 by omega)]
  exact write_one' hc hd _ _ _
theorem run_lose (v : Ac) {X : St} (hk : v.knd = 4) : v.run X = lose X v.low ∧ v.res X = 0 := by
  unfold Ac.run Ac.res
  rw [hk]
  exact ⟨rfl, rfl⟩
theorem run_dn (v : Ac) {X : St} (hk : v.knd < 4) (hd : X.down = true) : v.run X = X ∧ v.res X = 8 := by
  unfold Ac.run Ac.res
  by_cases h2 : v.knd = 2
  · simp only [if_pos h2]; exact sync_dn hd _
  · simp only [if_neg h2]
    by_cases h3 : v.knd = 3
    · simp only [if_pos h3]; exact trunc_dn hd _ _
    · simp only [if_neg h3, if_neg (show ¬ v.knd = 4 by omega), if_neg (show ¬ v.knd = 5 by omega), if_neg (show ¬ v.knd = 6 by omega), if_neg (show ¬ v.knd = 7 by omega)]
      exact write_dn hd _ _ _

theorem do_l {B r1 r2 : Nat} {st1 st2 : St} {w w0 : World} (h : Two B r1 st1 r2 st2 w) (hB : B ≤ w.heap.size) (v : Ac) (hf : fewA v = true) (hv : AOk w0 v) (hw : w0.heap.size ≤ B) (hb : Ov B w0 w) {st' : St} {c : Int} (e1 : v.run st1 = st') (e2 : v.res st1 = c) :
    Calls Try.prog 12 #[.pointer (some ⟨r1, 0, none⟩), .agg #[.int .i64 v.kd, .int .i64 v.f, .int .i64 v.n, .string v.s, .slice v.ka v.k.length v.kc]] w fun e w' => e = .returned (.int .i64 c) ∧ Two B r1 st' r2 st2 w' ∧ Ov B w w' := by
  obtain ⟨h1, h2, _⟩ := fewA_iff.1 hf
  exact h.l hB fun S p hp hd hS => by
    subst hp; subst e1; subst e2
    exact do_any hd v h1 h2 (hv.later hw hb) fun b hb' hs => by have := hv.ints.off_lt hb'; have := hS b hs; omega
theorem do_r {B r1 r2 : Nat} {st1 st2 : St} {w w0 : World} (h : Two B r1 st1 r2 st2 w) (hB : B ≤ w.heap.size) (v : Ac) (hf : fewA v = true) (hv : AOk w0 v) (hw : w0.heap.size ≤ B) (hb : Ov B w0 w) {st' : St} {c : Int} (e1 : v.run st2 = st') (e2 : v.res st2 = c) :
    Calls Try.prog 12 #[.pointer (some ⟨r2, 0, none⟩), .agg #[.int .i64 v.kd, .int .i64 v.f, .int .i64 v.n, .string v.s, .slice v.ka v.k.length v.kc]] w fun e w' => e = .returned (.int .i64 c) ∧ Two B r1 st1 r2 st' w' ∧ Ov B w w' :=
  (do_l h.swap hB v hf hv hw hb e1 e2).mono fun _ _ ⟨h1, h2, h3⟩ => ⟨h1, h2.swap, h3⟩

theorem acell {w0 wr : World} {B b off : Nat} {us : List Ac} {k : Nat} (hu : ACells w0 (some ⟨b, off, none⟩) us) (hw : w0.heap.size ≤ B) (hb : Ov B w0 wr) (hlt : k < us.length) :
    (∀ j u, us[k].cells[j]? = some u → wr.cell? ⟨b, off + k * 5 + j, none⟩ = some u) ∧ AOk w0 us[k] := by
  rcases hu.later hw hb with h | ⟨b', o', e, hc⟩
  · rw [h] at hlt; simp at hlt
  · cases e
    refine ⟨(hc k hlt).1, ?_⟩
    rcases hu with h | ⟨b', o', e, hc0⟩
    · rw [h] at hlt; simp at hlt
    · exact (hc0 k hlt).2

theorem read_same {B r1 r2 : Nat} {st1 st2 : St} {w : World} (h : Two B r1 st1 r2 st2 w) (f : Int) (hf : -9223372036854775808 ≤ f ∧ f ≤ 9223372036854775807) {s : ByteArray} {c : Int} (h1 : readS st1 f 0 16777216 = s.data.toList) (h2 : readR st1 f 0 16777216 = c) :
    Calls Try.prog 20 #[.pointer (some ⟨r1, 0, none⟩), .int .i64 f, .int .i64 0, .int .i64 16777216] w (ReadsB w s c) := read_one h.one f 0 16777216 hf (by omega) (by omega) h1 h2

set_option maxRecDepth 100000 in
set_option maxHeartbeats 4000000 in
theorem same_any {B r1 r2 : Nat} {st1 st2 : St} {w w0 : World} (h : Two B r1 st1 r2 st2 w) (a : Option Addr) (cap : Nat) (us : List Ac) (hu : ACells w0 a us) (hl : us.length ≤ 40) (hw : w0.heap.size ≤ B) (hb : Ov B w0 w) (hd : st1.down = st2.down) (hn : st1.now = st2.now) :
    Calls Try.prog 28 #[.pointer (some ⟨r1, 0, none⟩), .pointer (some ⟨r2, 0, none⟩), .slice a us.length cap] w fun e w' => e = .returned (.bool true) ∧ But Nothing w w' := by
  have hbox : ∃ b off, us ≠ [] → a = some ⟨b, off, none⟩ := by
    rcases hu with h | ⟨b, o, h, _⟩
    · exact ⟨0, 0, fun e => absurd h e⟩
    · exact ⟨b, o, fun _ => h⟩
  have HBOX := Lib.hid hbox
  have HU := Lib.hid hu
  have H := Lib.hid h
  have HB := Lib.hid hb
  obtain ⟨dn, hdn⟩ : ∃ dn, st2.down = dn := ⟨_, rfl⟩
  have HD1 := Lib.hid (down_one h.one (hd.trans hdn))
  have HD2 := Lib.hid (down_one h.swap.one hdn)
  have HRS : Hid (∀ f, readS st1 f 0 16777216 = readS st2 f 0 16777216 ∧ readR st1 f 0 16777216 = readR st2 f 0 16777216 ∧ ((st1.now f).length : Int) = (st2.now f).length) := fun f => by
    unfold readS readR
    rw [hd, hn]
    exact ⟨rfl, rfl, rfl⟩
  have HW := Lib.hid hw
  clear h hu hb hd hn hdn hbox hw
  go_enter Try.func28, Try.ntmps28
  cases dn
  all_goals
    go_wp2_with fail
    refine HD1.out.mono ?_
    rintro e w' ⟨rfl, rfl⟩
    go_wp2_with fail
    refine HD2.out.mono ?_
    rintro e w' ⟨rfl, rfl⟩
    go_wp2_with fail
    go_loopw [7] (fun i wr => ∃ k : Nat, k ≤ us.length ∧ i = .int .i64 k ∧ Hid (But Nothing w wr)) (fun i _ => us.length - (RowKit.intOf i).toNat)
    case atStart => exact ⟨0, by omega, rfl, But.refl _ _⟩
    case round =>
      obtain ⟨k, hk, rfl, hat⟩ := hrel
      by_cases hlt : k < us.length
      · obtain ⟨b, off, hne⟩ := HBOX.out
        obtain rfl := hne (fun e => by rw [e] at hlt; simp at hlt)
        clear hne
        obtain ⟨hck, hok⟩ := acell HU.out HW.out (HB.out.trans (Ov.nothing hat.out)) hlt
        obtain ⟨v, hvk⟩ : ∃ v, us[k] = v := ⟨_, rfl⟩
        rw [hvk] at hck hok
        have f1 : wr.cell? ⟨b, off + k * 5 + 1, none⟩ = some (.int .i64 v.f) := hck 1 _ rfl
        have F1 := Lib.hid f1
        have hfb := hok.fb
        obtain ⟨X, hX⟩ : ∃ X : ByteArray, readS st1 v.f 0 16777216 = X.data.toList := ⟨⟨(readS st1 v.f 0 16777216).toArray⟩, rfl⟩
        obtain ⟨c, hc⟩ : ∃ c, readR st1 v.f 0 16777216 = c := ⟨_, rfl⟩
        obtain ⟨n, hn⟩ : ∃ n : Int, ((st1.now v.f).length : Int) = n := ⟨_, rfl⟩
        have HX : Hid (readS st1 v.f 0 16777216 = X.data.toList ∧ readR st1 v.f 0 16777216 = c ∧ ((st1.now v.f).length : Int) = n) := ⟨hX, hc, hn⟩
        have HX2 : Hid (readS st2 v.f 0 16777216 = X.data.toList ∧ readR st2 v.f 0 16777216 = c ∧ ((st2.now v.f).length : Int) = n) := by
          obtain ⟨e1, e2, e3⟩ := HRS.out v.f
          exact ⟨e1.symm.trans hX, e2.symm.trans hc, e3.symm.trans hn⟩
        have hat1 := H.out.keep0 hat.out
        have HN := Lib.hid (read_same hat1 v.f hfb HX.out.1 HX.out.2.1)
        clear hX hc hn hck hok hat1 hvk
        go_wp2_with fail
        refine HN.out.mono ?_
        clear HN
        rintro e w2 ⟨rfl, hb2⟩
        have f2 : w2.cell? ⟨b, off + k * 5 + 1, none⟩ = some (.int .i64 v.f) := cell_same (hb2.block b (World.block_lt_of_cell? wr _ F1.out) (fun h => h)) _ F1.out
        have F2 := Lib.hid f2
        have hat2 := (hat.out.trans hb2 fun _ _ h => h)
        have HAT2 := Lib.hid hat2
        have HN := Lib.hid (read_same (H.out.keep0 hat2).swap v.f hfb HX2.out.1 HX2.out.2.1)
        clear hb2 hat2 f1
        go_wp2_with fail
        refine HN.out.mono ?_
        clear HN
        rintro e w3 ⟨rfl, hb3⟩
        have f3 : w3.cell? ⟨b, off + k * 5 + 1, none⟩ = some (.int .i64 v.f) := cell_same (hb3.block b (World.block_lt_of_cell? w2 _ F2.out) (fun h => h)) _ F2.out
        have hat3 : But Nothing w w3 := (HAT2.out.trans hb3 fun _ _ h => h)
        have HAT3 := Lib.hid hat3
        have HS : Hid (∀ m q, q = r1 ∨ q = r2 → Calls Try.prog 16 #[.pointer (some ⟨q, 0, none⟩), .int .i64 v.f] (w3.drewN m) fun e w' => e = .returned (.int .i64 n) ∧ w' = w3.drewN m) := fun m q hq => by
          have h3 := (H.out.keep0 hat3).keep0 (but_drewN w3 m)
          rcases hq with rfl | rfl
          · exact (size_one h3.one v.f hfb HX.out.2.2).mono fun _ _ ⟨h1, h2⟩ => ⟨h1, h2.symm⟩
          · exact (size_one h3.swap.one v.f hfb HX2.out.2.2).mono fun _ _ ⟨h1, h2⟩ => ⟨h1, h2.symm⟩
        clear hb3 hat3 f2 HX HX2
        go_wp2_with fail
        go_quiet ((go_at_call 16; exact Calls.quiet_of_same (HS.out _ _ (by first | exact .inl rfl | exact .inr rfl))))
        have HFIN : Hid (But Nothing w (w3.drewN nq)) := HAT3.out.trans (but_drewN w3 nq) fun _ _ h => h
        go_wp2_with fail
        go_roundw
        case rel => exact ⟨k + 1, by omega, by go_num, HFIN⟩
        case measure => simp [RowKit.intOf]; omega
      · go_wp2_with fail
        go_ret
        exact ⟨rfl, hat.out⟩
end Go.Proofs.Ytkphmkhdlkdphaa
