/- DiskArms, walked. -/
import Derived.Test.YtkphmkhdlkdphaaZ
namespace Go.Proofs.Ytkphmkhdlkdphaa
open Go.RowKit Go.ChangeShapes Go.WideShapes

def ArmAt (B r1 r2 : Nat) (n : Nat) (ks : List Int) (c : Nat) (w wr : World) : Prop :=
  Ov B w wr ∧ ((∃ sc : St, c < n ∧ sc.calls = 0 ∧ sc.down = false ∧ Two B r1 (armed sc ((n - c : Nat) : Int) ks) r2 sc wr) ∨
    (∃ sd sc : St, n ≤ c ∧ sd.down = true ∧ sc.down = true ∧ sd.now = sc.now ∧ Two B r1 sd r2 sc wr))

theorem ArmAt.same {B r1 r2 n : Nat} {ks : List Int} {c : Nat} {w wr : World} (h : ArmAt B r1 r2 n ks c w wr) : ∃ sd sc : St, sd.down = sc.down ∧ sd.now = sc.now ∧ Two B r1 sd r2 sc wr := by
  rcases h.2 with ⟨sc, _, _, _, h⟩ | ⟨sd, sc, _, h1, h2, h3, h⟩
  · exact ⟨armed sc ((n - c : Nat) : Int) ks, sc, rfl, rfl, h⟩
  · exact ⟨sd, sc, h1.trans h2.symm, h3, h⟩

theorem arm_l {B r1 r2 : Nat} {st1 st2 : St} {w w0 : World} (h : Two B r1 st1 r2 st2 w) (hB : B ≤ w.heap.size) (n : Int) (hn : -9223372036854775808 ≤ n ∧ n ≤ 9223372036854775807) (v : Value) (ks : List Int) (hv : Ints w0 v ks) (h0 : w0.heap.size ≤ B) (hw : Ov B w0 w) (hk : ks.length ≤ 1000000000 ∧ ∀ x ∈ ks, -9223372036854775808 ≤ x ∧ x ≤ 9223372036854775807) :
    Calls Try.prog 27 #[.pointer (some ⟨r1, 0, none⟩), .int .i64 n, v] w fun e w' => e = .returned (.tuple #[]) ∧ Two B r1 (arm st1 n ks) r2 st2 w' ∧ Ov B w w' :=
  h.l hB fun S p hp hd hS => by
    subst hp
    exact arm_any hd n hn v ks (hv.kept fun b _ hlt => hw.block b hlt (by omega)) hk
theorem crash_r {B r1 r2 : Nat} {st1 st2 : St} {w w0 : World} (h : Two B r1 st1 r2 st2 w) (hB : B ≤ w.heap.size) (v : Value) (ks : List Int) (hv : Ints w0 v ks) (h0 : w0.heap.size ≤ B) (hw : Ov B w0 w) (hk : ks.length ≤ 1000000000 ∧ ∀ x ∈ ks, -9223372036854775808 ≤ x ∧ x ≤ 9223372036854775807) :
    Calls Try.prog 25 #[.pointer (some ⟨r2, 0, none⟩), v] w fun e w' => e = .returned (.tuple #[]) ∧ Two B r1 st1 r2 (crash st2 ks) w' ∧ Ov B w w' :=
  h.r hB fun S p hp hd hS => by
    subst hp
    exact crash_any hd v ks (hv.kept fun b _ hlt => hw.block b hlt (by omega)) hk fun b hb s hs => by
      have := hv.off_lt hb
      have := hS b (hd.inS s b hs)
      omega
theorem start_l {B r1 r2 : Nat} {st1 st2 : St} {w : World} (h : Two B r1 st1 r2 st2 w) (hB : B ≤ w.heap.size) :
    Calls Try.prog 26 #[.pointer (some ⟨r1, 0, none⟩)] w fun e w' => e = .returned (.tuple #[]) ∧ Two B r1 (start st1) r2 st2 w' ∧ Ov B w w' :=
  h.l hB fun S p hp hd hS => by subst hp; exact start_any hd
theorem start_r {B r1 r2 : Nat} {st1 st2 : St} {w : World} (h : Two B r1 st1 r2 st2 w) (hB : B ≤ w.heap.size) :
    Calls Try.prog 26 #[.pointer (some ⟨r2, 0, none⟩)] w fun e w' => e = .returned (.tuple #[]) ∧ Two B r1 st1 r2 (start st2) w' ∧ Ov B w w' :=
  h.r hB fun S p hp hd hS => by subst hp; exact start_any hd

set_option maxRecDepth 100000 in
set_option maxHeartbeats 4000000 in
theorem arms_out (a a3 : Option Addr) (cap cap3 : Nat) (vs : List Ac) (ks : List Int) (n : Int) (w : World) (hv : ACells w a vs) (hl : vs.length ≤ 9223372036854775807) (hl3 : ks.length ≤ 9223372036854775807)
    (hx : few vs = false ∨ 60 < ks.length ∨ n < 1 ∨ 60 < n) :
    Calls Try.prog 6 #[.slice a vs.length cap, .int .i64 n, .slice a3 ks.length cap3] w (Gives (.bool true) w) := by
  obtain ⟨b, hb⟩ : ∃ b, few vs = b := ⟨_, rfl⟩
  rw [hb] at hx
  have HF := Lib.hid (fun w1 (hw : Ov w.heap.size w w1) => few_later (cap := cap) hv hl hw hb)
  clear hb hv
  cases b
  · clear hx
    go_enter Try.func6, Try.ntmps6
    go_wp2_with fail
    refine (small_any w).mono ?_
    rintro e w1 ⟨rfl, h1⟩
    have H1 := Lib.hid h1
    clear h1
    go_wp2_with fail
    refine (HF.out _ H1.out).mono ?_
    rintro e w2 ⟨rfl, rfl⟩
    go_wp2_with fail
    go_ret
    exact gives_ov H1.out
  · have hx' : 60 < ks.length ∨ (¬ 60 < ks.length ∧ n < 1) ∨ (¬ 60 < ks.length ∧ ¬ n < 1 ∧ 60 < n) := by
      rcases hx with h | h | h | h
      · cases h
      all_goals omega
    clear hx
    rcases hx' with h | ⟨g1, h⟩ | ⟨g1, g2, h⟩
    all_goals
      go_enter Try.func6, Try.ntmps6
      go_wp2_with fail
      refine (small_any w).mono ?_
      rintro e w1 ⟨rfl, h1⟩
      have H1 := Lib.hid h1
      clear h1
      go_wp2_with fail
      refine (HF.out _ H1.out).mono ?_
      rintro e w2 ⟨rfl, rfl⟩
      go_wp2_with fail
      go_ret
      exact gives_ov H1.out

set_option maxRecDepth 100000 in
set_option maxHeartbeats 8000000 in
theorem arms_main (a a3 : Option Addr) (cap cap3 : Nat) (us : List Ac) (ks : List Int) (n : Nat) (w : World) (hv : ACells w a us) (hl : us.length ≤ 9223372036854775807) (hl3 : ks.length ≤ 60)
    (hk : Ints w (.slice a3 ks.length cap3) ks) (hkb : ∀ x ∈ ks, -9223372036854775808 ≤ x ∧ x ≤ 9223372036854775807) (hb : few us = true) (hn1 : 1 ≤ n) (hn2 : n ≤ 60) :
    Calls Try.prog 6 #[.slice a us.length cap, .int .i64 n, .slice a3 ks.length cap3] w (Gives (.bool true) w) := by
  have HF := Lib.hid (fun w1 (hw : Ov w.heap.size w w1) => few_later (cap := cap) hv hl hw hb)
  have HALL := Lib.hid (few_iff.1 hb).1
  have h40 := (few_iff.1 hb).2
  have HU := Lib.hid hv
  have HK := Lib.hid hk
  have HKB := Lib.hid hkb
  have hbox : ∃ b off, us ≠ [] → a = some ⟨b, off, none⟩ := by
    rcases hv with h | ⟨b, o, h, _⟩
    · exact ⟨0, 0, fun e => absurd h e⟩
    · exact ⟨b, o, fun _ => h⟩
  have HBOX := Lib.hid hbox
  clear hb hv hk hkb hbox
  go_enter Try.func6, Try.ntmps6
  go_wp2_with fail
  refine (small_any w).mono ?_
  rintro e w1 ⟨rfl, h1⟩
  have H1 := Lib.hid h1
  have hz1 : w.heap.size ≤ w1.heap.size := h1.size
  clear h1
  go_wp2_with fail
  refine (HF.out _ H1.out).mono ?_
  rintro e w2 ⟨rfl, rfl⟩
  go_wp2_with fail
  refine (new_any w1).mono ?_
  rintro e w2 ⟨r1, rfl, hdk, hg⟩
  have h2 : One w.heap.size r1 St.new w2 := ⟨_, hdk, fun b h => ⟨by omega, h.2⟩⟩
  have hz2 : w.heap.size ≤ w2.heap.size := Nat.le_trans hz1 hg.size
  have HO2 : Hid (Ov w.heap.size w w2) := H1.out.trans (Ov.grown hg)
  have H2 := Lib.hid h2
  clear h2 hdk hg H1 hz1
  go_wp2_with fail
  refine (new_any w2).mono ?_
  rintro e w3 ⟨r2, rfl, hdk, hg⟩
  have h3 : Two w.heap.size r1 St.new r2 St.new w3 := H2.out.two hg hdk hz2
  have hz3 : w.heap.size ≤ w3.heap.size := Nat.le_trans hz2 hg.size
  have HO3 : Hid (Ov w.heap.size w w3) := HO2.out.trans (Ov.grown hg)
  have HN := Lib.hid (arm_l h3 hz3 n (by omega) _ ks HK.out (Nat.le_refl _) HO3.out ⟨by omega, HKB.out⟩)
  clear h3 hdk hg H2 HO2 hz2
  go_wp2_with fail
  refine HN.out.mono ?_
  clear HN
  rintro e w4 ⟨rfl, h4, hb4⟩
  have HAT : Hid (ArmAt w.heap.size r1 r2 n ks 0 w w4) := ⟨HO3.out.trans hb4, .inl ⟨St.new, by omega, rfl, rfl, by
    have e : armed St.new ((n - 0 : Nat) : Int) ks = arm St.new n ks := by
      show St.mk _ _ _ _ _ _ _ = St.mk _ _ _ _ _ _ _
      congr 1
      omega
    rw [e]; exact h4⟩⟩
  clear h4 hb4 HO3 HF hz3
  go_wp2_with fail
  go_loopw [10, 11] (fun cnt i wr => ∃ k c : Nat, k ≤ us.length ∧ c ≤ k ∧ i = .int .i64 k ∧ cnt = .int .i64 c ∧ Hid (ArmAt w.heap.size r1 r2 n ks c w wr)) (fun _ i _ => us.length - (RowKit.intOf i).toNat)
  case atStart => exact ⟨0, 0, by omega, by omega, rfl, rfl, HAT⟩
  case round =>
    clear HAT
    obtain ⟨k, c, hk, hck, rfl, rfl, hat⟩ := hrel
    by_cases hlt : k < us.length
    · obtain ⟨b, off, hne⟩ := HBOX.out
      obtain rfl := hne (fun e => by rw [e] at hlt; simp at hlt)
      clear hne
      obtain ⟨hcl, hok⟩ := acell HU.out (Nat.le_refl _) hat.out.1 hlt
      obtain ⟨v, hvk⟩ : ∃ v, us[k] = v := ⟨_, rfl⟩
      have HV : Hid (fewA v = true) := HALL.out v (by rw [← hvk]; exact List.getElem_mem hlt)
      have HCL := Lib.hid (fun wr' (hb : Ov w.heap.size w wr') => (acell HU.out (Nat.le_refl _) hb hlt).1)
      rw [hvk] at hcl hok HCL
      have HOK := Lib.hid hok
      have hlb := hok.lb
      have hsb := hok.sb
      obtain ⟨kd, hkd⟩ : ∃ kd, v.knd = kd := ⟨_, rfl⟩
      have HKD := Lib.hid hkd
      unfold Ac.knd at hkd
      have f0 : wr.cell? ⟨b, off + k * 5, none⟩ = some (.int .i64 v.kd) := hcl 0 _ rfl
      have f1 : wr.cell? ⟨b, off + k * 5 + 1, none⟩ = some (.int .i64 v.f) := hcl 1 _ rfl
      have f2 : wr.cell? ⟨b, off + k * 5 + 2, none⟩ = some (.int .i64 v.n) := hcl 2 _ rfl
      have f3 : wr.cell? ⟨b, off + k * 5 + 3, none⟩ = some (.string v.s) := hcl 3 _ rfl
      have f4 : wr.cell? ⟨b, off + k * 5 + 4, none⟩ = some (.slice v.ka v.k.length v.kc) := hcl 4 _ rfl
      clear hvk hcl hok
      by_cases h5 : 4 < kd
      · have HO : Hid (Ov w.heap.size w wr) := hat.out.1
        go_wp2_with fail
        go_ret
        exact gives_ov HO.out
      obtain ⟨hov, hph⟩ := hat.out
      have HO := Lib.hid hov
      have hz : w.heap.size ≤ wr.heap.size := hov.size
      clear hov
      by_cases h4 : kd = 4
      · subst h4
        rcases hph with ⟨sc, p1, p2, p3, hT⟩ | ⟨sd, sc, p1, p2, p3, p4, hT⟩
        · have HT := Lib.hid hT
          have HP : Hid (sc.calls = 0 ∧ sc.down = false) := ⟨p2, p3⟩
          have HN := Lib.hid (do_l hT hz v HV.out HOK.out (Nat.le_refl _) HO.out rfl (run_lose v HKD.out).2)
          have HR1 : Hid (v.run (armed sc ((n - c : Nat) : Int) ks) = armed (v.run sc) ((n - c : Nat) : Int) ks ∧ (v.run sc).calls = 0 ∧ (v.run sc).down = false) := by
            unfold Hid
            rw [(run_lose v HKD.out).1, (run_lose v HKD.out).1]
            exact ⟨rfl, p2, p3⟩
          clear hT p2 p3
          go_wp2_with fail
          refine HN.out.mono ?_
          clear HN
          rintro e w5 ⟨rfl, h5', hb5⟩
          have hz5 : w.heap.size ≤ w5.heap.size := Nat.le_trans hz hb5.size
          have HO5 : Hid (Ov w.heap.size w w5) := HO.out.trans hb5
          have hcl5 := HCL.out w5 HO5.out
          have x0 : w5.cell? ⟨b, off + k * 5, none⟩ = some (.int .i64 v.kd) := hcl5 0 _ rfl
          have x1 : w5.cell? ⟨b, off + k * 5 + 1, none⟩ = some (.int .i64 v.f) := hcl5 1 _ rfl
          have x2 : w5.cell? ⟨b, off + k * 5 + 2, none⟩ = some (.int .i64 v.n) := hcl5 2 _ rfl
          have x3 : w5.cell? ⟨b, off + k * 5 + 3, none⟩ = some (.string v.s) := hcl5 3 _ rfl
          have x4 : w5.cell? ⟨b, off + k * 5 + 4, none⟩ = some (.slice v.ka v.k.length v.kc) := hcl5 4 _ rfl
          clear hb5 hcl5 f0 f1 f2 f3 f4
          have HN := Lib.hid (do_r h5' hz5 v HV.out HOK.out (Nat.le_refl _) HO5.out rfl (run_lose v HKD.out).2)
          clear h5'
          go_wp2_with fail
          refine HN.out.mono ?_
          clear HN
          rintro e w6 ⟨rfl, h6, hb6⟩
          have hz6 : w.heap.size ≤ w6.heap.size := Nat.le_trans hz5 hb6.size
          have HO6 : Hid (Ov w.heap.size w w6) := HO5.out.trans hb6
          clear hb6 x0 x1 x2 x3 x4
          have HAT2 : Hid (ArmAt w.heap.size r1 r2 n ks c w w6) := ⟨HO6.out, .inl ⟨v.run sc, p1, HR1.out.2.1, HR1.out.2.2, by rw [← HR1.out.1]; exact h6⟩⟩
          clear h6
          go_wp2_with fail
          go_roundw
          case rel => exact ⟨k + 1, c, by omega, by omega, by go_num, rfl, HAT2⟩
          case measure => simp [RowKit.intOf]; omega
        · have HP : Hid (sd.down = true ∧ sc.down = true ∧ sd.now = sc.now) := ⟨p2, p3, p4⟩
          have HR1 : Hid ((v.run sd).down = true ∧ (v.run sd).now = sd.now) := by
            unfold Hid
            rw [(run_lose v HKD.out).1]
            exact ⟨p2, rfl⟩
          have HN := Lib.hid (do_l hT hz v HV.out HOK.out (Nat.le_refl _) HO.out rfl (run_lose v HKD.out).2)
          clear hT p2 p3 p4
          have hcn : ¬ ((c : Int) < n) := by omega
          by_cases hce : c = n
          · subst hce
            go_wp2_with fail
            refine HN.out.mono ?_
            clear HN
            rintro e w5 ⟨rfl, h5', hb5⟩
            have hz5 : w.heap.size ≤ w5.heap.size := Nat.le_trans hz hb5.size
            have HO5 : Hid (Ov w.heap.size w w5) := HO.out.trans hb5
            have hcl5 := HCL.out w5 HO5.out
            have x0 : w5.cell? ⟨b, off + k * 5, none⟩ = some (.int .i64 v.kd) := hcl5 0 _ rfl
            have x1 : w5.cell? ⟨b, off + k * 5 + 1, none⟩ = some (.int .i64 v.f) := hcl5 1 _ rfl
            have x2 : w5.cell? ⟨b, off + k * 5 + 2, none⟩ = some (.int .i64 v.n) := hcl5 2 _ rfl
            have x3 : w5.cell? ⟨b, off + k * 5 + 3, none⟩ = some (.string v.s) := hcl5 3 _ rfl
            have x4 : w5.cell? ⟨b, off + k * 5 + 4, none⟩ = some (.slice v.ka v.k.length v.kc) := hcl5 4 _ rfl
            clear hb5 hcl5 f0 f1 f2 f3 f4
            have HDn := Lib.hid (down_one h5'.one HR1.out.1)
            have HAT2 : Hid (ArmAt w.heap.size r1 r2 c ks c w w5) := ⟨HO5.out, .inr ⟨_, sc, p1, HR1.out.1, HP.out.2.1, HR1.out.2.trans HP.out.2.2, h5'⟩⟩
            clear h5'
            go_wp2_with (go_at_call 14; refine HDn.out.mono ?_; rintro e w' ⟨rfl, rfl⟩)
            go_roundw
            case rel => exact ⟨k + 1, c, by omega, by omega, by go_num, rfl, HAT2⟩
            case measure => simp [RowKit.intOf]; omega
          · have g1 : ((c : Int) == (n : Int)) = false := by simp; omega
            have g2 : decide ((c : Int) = (n : Int)) = false := by simp; omega
            have g3 : (c == n) = false := by simp; omega
            have g4 : decide (c = n) = false := by simp; omega
            go_wp2_with fail
            refine HN.out.mono ?_
            clear HN
            rintro e w5 ⟨rfl, h5', hb5⟩
            have hz5 : w.heap.size ≤ w5.heap.size := Nat.le_trans hz hb5.size
            have HO5 : Hid (Ov w.heap.size w w5) := HO.out.trans hb5
            have hcl5 := HCL.out w5 HO5.out
            have x0 : w5.cell? ⟨b, off + k * 5, none⟩ = some (.int .i64 v.kd) := hcl5 0 _ rfl
            have x1 : w5.cell? ⟨b, off + k * 5 + 1, none⟩ = some (.int .i64 v.f) := hcl5 1 _ rfl
            have x2 : w5.cell? ⟨b, off + k * 5 + 2, none⟩ = some (.int .i64 v.n) := hcl5 2 _ rfl
            have x3 : w5.cell? ⟨b, off + k * 5 + 3, none⟩ = some (.string v.s) := hcl5 3 _ rfl
            have x4 : w5.cell? ⟨b, off + k * 5 + 4, none⟩ = some (.slice v.ka v.k.length v.kc) := hcl5 4 _ rfl
            clear hb5 hcl5 f0 f1 f2 f3 f4
            have HDn := Lib.hid (down_one h5'.one HR1.out.1)
            have HAT2 : Hid (ArmAt w.heap.size r1 r2 n ks c w w5) := ⟨HO5.out, .inr ⟨_, sc, p1, HR1.out.1, HP.out.2.1, HR1.out.2.trans HP.out.2.2, h5'⟩⟩
            clear h5'
            go_wp2_with (go_at_call 14; refine HDn.out.mono ?_; rintro e w' ⟨rfl, rfl⟩)
            go_roundw
            case rel => exact ⟨k + 1, c, by omega, by omega, by go_num, rfl, HAT2⟩
            case measure => simp [RowKit.intOf]; omega
      · have hlt4 : kd < 4 := by omega
        have g40 : (kd == 4) = false := by simpa using h4
        have g41 : decide (kd = 4) = false := by simpa using h4
        clear h4 h5
        rcases hph with ⟨sc, p1, p2, p3, hT⟩ | ⟨sd, sc, p1, p2, p3, p4, hT⟩
        · by_cases hmore : c + 1 < n
          · have HR1 := Lib.hid (run_more v (m := ((n - c : Nat) : Int)) (ks := ks) (by rw [HKD.out]; exact hlt4) p2 p3 (by omega))
            obtain ⟨res, hres⟩ : ∃ res, v.res sc = res := ⟨_, rfl⟩
            have HRES := Lib.hid hres
            have HN := Lib.hid (do_l hT hz v HV.out HOK.out (Nat.le_refl _) HO.out rfl (HR1.out.2.1.trans hres))
            clear hT p2 p3 hres
            have hcn : (c : Int) + 1 < n := by omega
            go_wp2_with fail
            refine HN.out.mono ?_
            clear HN
            rintro e w5 ⟨rfl, h5', hb5⟩
            have hz5 : w.heap.size ≤ w5.heap.size := Nat.le_trans hz hb5.size
            have HO5 : Hid (Ov w.heap.size w w5) := HO.out.trans hb5
            have hcl5 := HCL.out w5 HO5.out
            have x0 : w5.cell? ⟨b, off + k * 5, none⟩ = some (.int .i64 v.kd) := hcl5 0 _ rfl
            have x1 : w5.cell? ⟨b, off + k * 5 + 1, none⟩ = some (.int .i64 v.f) := hcl5 1 _ rfl
            have x2 : w5.cell? ⟨b, off + k * 5 + 2, none⟩ = some (.int .i64 v.n) := hcl5 2 _ rfl
            have x3 : w5.cell? ⟨b, off + k * 5 + 3, none⟩ = some (.string v.s) := hcl5 3 _ rfl
            have x4 : w5.cell? ⟨b, off + k * 5 + 4, none⟩ = some (.slice v.ka v.k.length v.kc) := hcl5 4 _ rfl
            clear hb5 hcl5 f0 f1 f2 f3 f4
            have HN := Lib.hid (do_r h5' hz5 v HV.out HOK.out (Nat.le_refl _) HO5.out rfl HRES.out)
            clear h5'
            go_wp2_with fail
            refine HN.out.mono ?_
            clear HN
            rintro e w6 ⟨rfl, h6, hb6⟩
            have hz6 : w.heap.size ≤ w6.heap.size := Nat.le_trans hz5 hb6.size
            have HO6 : Hid (Ov w.heap.size w w6) := HO5.out.trans hb6
            clear hb6 x0 x1 x2 x3 x4
            have HAT2 : Hid (ArmAt w.heap.size r1 r2 n ks (c + 1) w w6) := ⟨HO6.out, .inl ⟨v.run sc, hmore, HR1.out.2.2.1, HR1.out.2.2.2, by
              have e := HR1.out.1
              rw [show ((n - c : Nat) : Int) - 1 = ((n - (c + 1) : Nat) : Int) by omega] at e
              rw [← e]; exact h6⟩⟩
            clear h6
            go_wp2_with fail
            go_roundw
            case rel => exact ⟨k + 1, c + 1, by omega, by omega, by go_num, by go_num, HAT2⟩
            case measure => simp [RowKit.intOf]; omega
          · have hcn1 : c + 1 = n := by omega
            have hm1 : ((n - c : Nat) : Int) = 1 := by omega
            rw [hm1] at hT
            by_cases h2 : kd < 2
            · have HR1 := Lib.hid (run_one1 v (ks := ks) (by rw [HKD.out]; exact h2) p2 p3)
              have HN := Lib.hid (do_l hT hz v HV.out HOK.out (Nat.le_refl _) HO.out HR1.out.1 HR1.out.2)
              clear hT p2 p3 hm1 hmore p1
              have e1 : ((c : Int) + 1 == (n : Int)) = true := by simp; omega
              have e2 : decide ((c : Int) + 1 = (n : Int)) = true := by simp; omega
              have e3 : ¬ ((c : Int) + 1 < n) := by omega
              have HCN := Lib.hid hcn1
              clear hcn1
              go_wp2_with fail
              refine HN.out.mono ?_
              clear HN
              rintro e w5 ⟨rfl, h5', hb5⟩
              have hz5 : w.heap.size ≤ w5.heap.size := Nat.le_trans hz hb5.size
              have HO5 : Hid (Ov w.heap.size w w5) := HO.out.trans hb5
              have hcl5 := HCL.out w5 HO5.out
              have x0 : w5.cell? ⟨b, off + k * 5, none⟩ = some (.int .i64 v.kd) := hcl5 0 _ rfl
              have x1 : w5.cell? ⟨b, off + k * 5 + 1, none⟩ = some (.int .i64 v.f) := hcl5 1 _ rfl
              have x2 : w5.cell? ⟨b, off + k * 5 + 2, none⟩ = some (.int .i64 v.n) := hcl5 2 _ rfl
              have x3 : w5.cell? ⟨b, off + k * 5 + 3, none⟩ = some (.string v.s) := hcl5 3 _ rfl
              have x4 : w5.cell? ⟨b, off + k * 5 + 4, none⟩ = some (.slice v.ka v.k.length v.kc) := hcl5 4 _ rfl
              clear hb5 hcl5 f0 f1 f2 f3 f4
              have HN := Lib.hid (do_r h5' hz5 v HV.out HOK.out (Nat.le_refl _) HO5.out rfl rfl)
              clear h5'
              go_wp2_with fail
              refine HN.out.mono ?_
              clear HN
              rintro e w6 ⟨rfl, h6, hb6⟩
              have hz6 : w.heap.size ≤ w6.heap.size := Nat.le_trans hz5 hb6.size
              have HO6 : Hid (Ov w.heap.size w w6) := HO5.out.trans hb6
              clear hb6 x0 x1 x2 x3 x4
              have HN := Lib.hid (crash_r h6 hz6 _ ks HK.out (Nat.le_refl _) HO6.out ⟨by omega, HKB.out⟩)
              clear h6
              go_wp2_with fail
              refine HN.out.mono ?_
              clear HN
              rintro e w7 ⟨rfl, h7, hb7⟩
              have HDn := Lib.hid (down_one h7.one (crash_down _ _))
              have HAT2 : Hid (ArmAt w.heap.size r1 r2 n ks (c + 1) w w7) := ⟨HO6.out.trans hb7, .inr ⟨_, _, Nat.le_of_eq HCN.out.symm, crash_down _ _, crash_down _ _, rfl, h7⟩⟩
              clear h7 hb7
              go_wp2_with (go_at_call 14; refine HDn.out.mono ?_; rintro e w' ⟨rfl, rfl⟩)
              go_roundw
              case rel => exact ⟨k + 1, c + 1, by omega, by omega, by go_num, by go_num, HAT2⟩
              case measure => simp [RowKit.intOf]; omega
            · have HR1 := Lib.hid (run_one2 v (ks := ks) (by rw [HKD.out]; exact hlt4) (by rw [HKD.out]; omega) p3)
              have HN := Lib.hid (do_l hT hz v HV.out HOK.out (Nat.le_refl _) HO.out HR1.out.1 HR1.out.2)
              clear hT p2 p3 hm1 hmore p1
              have e1 : ((c : Int) + 1 == (n : Int)) = true := by simp; omega
              have e2 : decide ((c : Int) + 1 = (n : Int)) = true := by simp; omega
              have e3 : ¬ ((c : Int) + 1 < n) := by omega
              have HCN := Lib.hid hcn1
              clear hcn1
              go_wp2_with fail
              refine HN.out.mono ?_
              clear HN
              rintro e w5 ⟨rfl, h5', hb5⟩
              have hz5 : w.heap.size ≤ w5.heap.size := Nat.le_trans hz hb5.size
              have HO5 : Hid (Ov w.heap.size w w5) := HO.out.trans hb5
              have hcl5 := HCL.out w5 HO5.out
              have x0 : w5.cell? ⟨b, off + k * 5, none⟩ = some (.int .i64 v.kd) := hcl5 0 _ rfl
              have x1 : w5.cell? ⟨b, off + k * 5 + 1, none⟩ = some (.int .i64 v.f) := hcl5 1 _ rfl
              have x2 : w5.cell? ⟨b, off + k * 5 + 2, none⟩ = some (.int .i64 v.n) := hcl5 2 _ rfl
              have x3 : w5.cell? ⟨b, off + k * 5 + 3, none⟩ = some (.string v.s) := hcl5 3 _ rfl
              have x4 : w5.cell? ⟨b, off + k * 5 + 4, none⟩ = some (.slice v.ka v.k.length v.kc) := hcl5 4 _ rfl
              clear hb5 hcl5 f0 f1 f2 f3 f4
              have HN := Lib.hid (crash_r h5' hz5 _ ks HK.out (Nat.le_refl _) HO5.out ⟨by omega, HKB.out⟩)
              clear h5'
              go_wp2_with fail
              refine HN.out.mono ?_
              clear HN
              rintro e w7 ⟨rfl, h7, hb7⟩
              have HDn := Lib.hid (down_one h7.one (crash_down _ _))
              have HAT2 : Hid (ArmAt w.heap.size r1 r2 n ks (c + 1) w w7) := ⟨HO5.out.trans hb7, .inr ⟨_, _, Nat.le_of_eq HCN.out.symm, crash_down _ _, crash_down _ _, rfl, h7⟩⟩
              clear h7 hb7
              go_wp2_with (go_at_call 14; refine HDn.out.mono ?_; rintro e w' ⟨rfl, rfl⟩)
              go_roundw
              case rel => exact ⟨k + 1, c + 1, by omega, by omega, by go_num, by go_num, HAT2⟩
              case measure => simp [RowKit.intOf]; omega
        · have HP : Hid (sd.down = true ∧ sc.down = true ∧ sd.now = sc.now) := ⟨p2, p3, p4⟩
          have HR1 := Lib.hid (run_dn v (by rw [HKD.out]; exact hlt4) p2)
          have HN := Lib.hid (do_l hT hz v HV.out HOK.out (Nat.le_refl _) HO.out HR1.out.1 HR1.out.2)
          clear hT p2 p3 p4
          have hcn : ¬ ((c : Int) + 1 < n) := by omega
          have g1 : ((c : Int) + 1 == (n : Int)) = false := by simp; omega
          have g2 : decide ((c : Int) + 1 = (n : Int)) = false := by simp; omega
          go_wp2_with fail
          refine HN.out.mono ?_
          clear HN
          rintro e w5 ⟨rfl, h5', hb5⟩
          have hz5 : w.heap.size ≤ w5.heap.size := Nat.le_trans hz hb5.size
          have HO5 : Hid (Ov w.heap.size w w5) := HO.out.trans hb5
          have hcl5 := HCL.out w5 HO5.out
          have x0 : w5.cell? ⟨b, off + k * 5, none⟩ = some (.int .i64 v.kd) := hcl5 0 _ rfl
          have x1 : w5.cell? ⟨b, off + k * 5 + 1, none⟩ = some (.int .i64 v.f) := hcl5 1 _ rfl
          have x2 : w5.cell? ⟨b, off + k * 5 + 2, none⟩ = some (.int .i64 v.n) := hcl5 2 _ rfl
          have x3 : w5.cell? ⟨b, off + k * 5 + 3, none⟩ = some (.string v.s) := hcl5 3 _ rfl
          have x4 : w5.cell? ⟨b, off + k * 5 + 4, none⟩ = some (.slice v.ka v.k.length v.kc) := hcl5 4 _ rfl
          clear hb5 hcl5 f0 f1 f2 f3 f4
          have HDn := Lib.hid (down_one h5'.one HP.out.1)
          have HAT2 : Hid (ArmAt w.heap.size r1 r2 n ks (c + 1) w w5) := ⟨HO5.out, .inr ⟨sd, sc, by omega, HP.out.1, HP.out.2.1, HP.out.2.2, h5'⟩⟩
          clear h5'
          go_wp2_with (go_at_call 14; refine HDn.out.mono ?_; rintro e w' ⟨rfl, rfl⟩)
          go_roundw
          case rel => exact ⟨k + 1, c + 1, by omega, by omega, by go_num, by go_num, HAT2⟩
          case measure => simp [RowKit.intOf]; omega
    · obtain ⟨sd, sc, s1, s2, hT⟩ := hat.out.same
      have HO : Hid (Ov w.heap.size w wr) := hat.out.1
      have hz : w.heap.size ≤ wr.heap.size := HO.out.size
      have HSM := Lib.hid (same_any hT a cap us HU.out h40 (Nat.le_refl _) HO.out s1 s2)
      have HT := Lib.hid hT
      have HS : Hid (sd.down = sc.down ∧ sd.now = sc.now) := ⟨s1, s2⟩
      clear hT s1 s2
      go_wp2_with fail
      refine HSM.out.mono ?_
      clear HSM
      rintro e w5 ⟨rfl, hb5⟩
      have h5 := HT.out.keep0 hb5
      have hz5 : w.heap.size ≤ w5.heap.size := Nat.le_trans hz hb5.size
      have HO5 : Hid (Ov w.heap.size w w5) := HO.out.trans (Ov.nothing hb5)
      have HN := Lib.hid (start_l h5 hz5)
      clear h5 hb5
      go_wp2_with fail
      refine HN.out.mono ?_
      clear HN
      rintro e w6 ⟨rfl, h6, hb6⟩
      have hz6 : w.heap.size ≤ w6.heap.size := Nat.le_trans hz5 hb6.size
      have HO6 : Hid (Ov w.heap.size w w6) := HO5.out.trans hb6
      have HN := Lib.hid (start_r h6 hz6)
      clear h6 hb6
      go_wp2_with fail
      refine HN.out.mono ?_
      clear HN
      rintro e w7 ⟨rfl, h7, hb7⟩
      have HO7 : Hid (Ov w.heap.size w w7) := HO6.out.trans hb7
      have HSM := Lib.hid (same_any h7 a cap us HU.out h40 (Nat.le_refl _) HO7.out rfl HS.out.2)
      clear h7 hb7
      go_wp2_with fail
      refine HSM.out.mono ?_
      clear HSM
      rintro e w8 ⟨rfl, hb8⟩
      have HO8 : Hid (Ov w.heap.size w w8) := HO7.out.trans (Ov.nothing hb8)
      clear hb8
      go_wp2_with fail
      go_ret
      exact gives_ov HO8.out
end Go.Proofs.Ytkphmkhdlkdphaa
