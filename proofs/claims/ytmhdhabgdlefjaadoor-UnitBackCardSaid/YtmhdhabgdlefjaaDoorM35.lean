/- The contracts of the laws' means, fails, sane. What the laws of unit share. -/
import Derived.Deep.RegionHeld3
import Derived.Test.YtmhdhabgdlefjaaDoorM34
import Derived.Test.YtmhdhabgdlefjaaDoorM31
import Derived.Test.YtmhdhabgdlefjaaDoorM14
set_option maxRecDepth 100000
namespace Go.Proofs.YtmhdhabgdlefjaaDoor.Un
open Go.RowKit Bi Dm

def meansB (s d : List UInt8) (p q : Int) : Bool := match itemsL s with
  | none => false
  | some l => match evL l zf 1 with
    | none => false
    | some (f, r) => ok f && (decide (tx f = d) && decide (r = Rat.divInt p q))
theorem means_of {s d : List UInt8} {p q : Int} (h : meansB s d p q = true) : ∃ l f, itemsL s = some l ∧ evL l zf 1 = some (f, Rat.divInt p q) ∧ ok f = true ∧ tx f = d := by
  unfold meansB at h
  split at h
  · cases h
  · rename_i l hl
    split at h
    · cases h
    · rename_i f r hf
      simp only [Bool.and_eq_true, decide_eq_true_eq] at h
      obtain ⟨h1, h2, rfl⟩ := h
      exact ⟨l, f, hl, hf, h1, h2⟩
def failsI (s : List UInt8) : Int := match itemsL s with
  | none => 12
  | some l => match evL l zf 1 with
    | none => 11
    | some (f, _) => if ok f then 0 else 3
theorem read_fails {s : List UInt8} {z : Int} (h : failsI s = z) (h0 : z ≠ 0) {w w' : World} {e : Ending} (g : ReadE s w e w') : UZE z w e w' := by
  subst h
  unfold failsI at h0 ⊢
  unfold ReadE at g
  rcases h1 : itemsL s with _ | l
  · rw [h1] at g; exact g
  · rw [h1] at g h0
    dsimp only at g h0 ⊢
    rcases h2 : evL l zf 1 with _ | ⟨f, r⟩
    · rw [h2] at g; exact g
    · rw [h2] at g h0
      dsimp only at g h0 ⊢
      rcases h3 : ok f with _ | _
      · rw [h3] at g; exact g
      · rw [h3] at h0; exact absurd rfl h0
theorem read_gives {s : List UInt8} {l : List (List UInt8 × Int)} {f : Nat → Int} {r : Rat} (h1 : itemsL s = some l) (h2 : evL l zf 1 = some (f, r)) (h3 : ok f = true) {w w' : World} {e : Ending} (g : ReadE s w e w') : UVE f r 0 w e w' := by
  unfold ReadE at g
  rw [h1] at g; dsimp only at g
  rw [h2] at g; dsimp only at g
  rwa [h3] at g

set_option maxHeartbeats 2000000 in
theorem lmeans_t (s d : ByteArray) (p q : Int) (h : meansB s.data.toList d.data.toList p q = true) (hp : -9223372036854775808 ≤ p ∧ p ≤ 9223372036854775807) (hq : -9223372036854775808 ≤ q ∧ q ≤ 9223372036854775807) (h0 : q ≠ 0) (w : World) (he : EnvU w) :
    Calls Tryd.prog 12 #[.string s, .string d, .int .i64 p, .int .i64 q] w fun e w' => e = .returned (.bool true) ∧ RowKit.Below w.heap.size w w' := by
  obtain ⟨l, f, h1, h2, h3, h4⟩ := means_of h
  have HR : Hid (∀ W, EnvU W → Calls Tryd.prog 14 #[.string s] W (UVE f (Rat.divInt p q) 0 W)) := Lib.hid (fun W he => (uread_any s W he).mono fun _ _ g => read_gives h1 h2 h3 g)
  have HE := Lib.hid he
  have hd : (⟨(tx f).toArray⟩ : ByteArray) = d := by apply ByteArray.ext; apply Array.ext'; rw [h4]
  have HT : Hid (∀ W, EnvU W → Calls Tryd.prog 25 #[.agg (cl f)] W (Dm.Gives (.string d) W)) := Lib.hid (fun W he => by have := text_any f W he.dim; unfold sv at this; rwa [hd] at this)
  obtain ⟨r, hr⟩ : ∃ r, Rat.divInt p q = r := ⟨_, rfl⟩
  rw [hr] at HR
  have HO := Lib.hid (fun W => rfof_r p q hp hq h0 hr W)
  have s0 := (Sf.start w)
  have S0 := Lib.hid s0
  clear s0 h h1 h2 h3 h4 hp hq h0 he hd hr
  unfold cl at HT
  go_enter Tryd.func12, Tryd.ntmps12
  go_wp2_with fail
  refine (HR.out _ HE.out).mono ?_
  rintro e w1 ⟨sx1, ax1, nx1, cx1, bx1, mx1, dx1, rfl, hr, hb, hf, hg⟩
  have E1 := Lib.hid hr.1.1
  have R1 := Lib.hid (S0.out.ret2 hb hr.1.2 hf hr.2.2 hg)
  have FF1 := Lib.hid (hf.mono S0.out.below.size)
  have FG1 := Lib.hid (hg.mono S0.out.below.size)
  clear hr hb hf hg
  have P1 := Lib.hid (R1.out.put [.int .i64 0, .int .i64 0, .int .i64 0, .int .i64 0, .int .i64 0, .int .i64 0, .int .i64 0, .slice none 0 0, .int .i64 0, .slice none 0 0] 30)
  have Q1 := Lib.hid (Sf.row (pre := []) P1.out [.int .i64 (f 0), .int .i64 (f 1), .int .i64 (f 2), .int .i64 (f 3), .int .i64 (f 4), .int .i64 (f 5), .int .i64 sx1, .slice ax1 nx1 cx1, .int .i64 1, .slice bx1 mx1 dx1])
  go_wp2_with (first | refine wpList_store_row rfl _ _ _ rfl _ #[.int .i64 (f 0), .int .i64 (f 1), .int .i64 (f 2), .int .i64 (f 3), .int .i64 (f 4), .int .i64 (f 5), .int .i64 sx1, .slice ax1 nx1 cx1, .int .i64 1, .slice bx1 mx1 dx1] rfl rfl _ _ (P1.out.box _ List.mem_cons_self) (by kernel_rfl) rfl (by simp [Value.oneCell']) ?_)
  refine (HO.out _).mono ?_
  rintro e w2 ⟨sx2, ax2, nx2, cx2, bx2, mx2, dx2, rfl, hr, hb, hf, hg⟩
  have E2 := Lib.hid hr.1.1
  have R2 := Lib.hid (Q1.out.ret2 hb hr.1.2 hf hr.2.2 hg)
  have FF2 := Lib.hid (hf.mono Q1.out.below.size)
  have FG2 := Lib.hid (hg.mono Q1.out.below.size)
  clear hr hb hf hg
  have P2 := Lib.hid (R2.out.put [.int .i64 0, .slice none 0 0, .int .i64 0, .slice none 0 0] 28)
  have Q2 := Lib.hid (Sf.row (pre := []) P2.out [.int .i64 sx2, .slice ax2 nx2 cx2, .int .i64 1, .slice bx2 mx2 dx2])
  have q3 := (Q2.out.box (w1.heap.size, 30, [.int .i64 (f 0), .int .i64 (f 1), .int .i64 (f 2), .int .i64 (f 3), .int .i64 (f 4), .int .i64 (f 5), .int .i64 sx1, .slice ax1 nx1 cx1, .int .i64 1, .slice bx1 mx1 dx1]) (List.mem_cons_of_mem _ List.mem_cons_self)).cell 0
  have q4 := (Q2.out.box (w1.heap.size, 30, [.int .i64 (f 0), .int .i64 (f 1), .int .i64 (f 2), .int .i64 (f 3), .int .i64 (f 4), .int .i64 (f 5), .int .i64 sx1, .slice ax1 nx1 cx1, .int .i64 1, .slice bx1 mx1 dx1]) (List.mem_cons_of_mem _ List.mem_cons_self)).cell 1
  have q5 := (Q2.out.box (w1.heap.size, 30, [.int .i64 (f 0), .int .i64 (f 1), .int .i64 (f 2), .int .i64 (f 3), .int .i64 (f 4), .int .i64 (f 5), .int .i64 sx1, .slice ax1 nx1 cx1, .int .i64 1, .slice bx1 mx1 dx1]) (List.mem_cons_of_mem _ List.mem_cons_self)).cell 2
  have q6 := (Q2.out.box (w1.heap.size, 30, [.int .i64 (f 0), .int .i64 (f 1), .int .i64 (f 2), .int .i64 (f 3), .int .i64 (f 4), .int .i64 (f 5), .int .i64 sx1, .slice ax1 nx1 cx1, .int .i64 1, .slice bx1 mx1 dx1]) (List.mem_cons_of_mem _ List.mem_cons_self)).cell 3
  have q7 := (Q2.out.box (w1.heap.size, 30, [.int .i64 (f 0), .int .i64 (f 1), .int .i64 (f 2), .int .i64 (f 3), .int .i64 (f 4), .int .i64 (f 5), .int .i64 sx1, .slice ax1 nx1 cx1, .int .i64 1, .slice bx1 mx1 dx1]) (List.mem_cons_of_mem _ List.mem_cons_self)).cell 4
  have q8 := (Q2.out.box (w1.heap.size, 30, [.int .i64 (f 0), .int .i64 (f 1), .int .i64 (f 2), .int .i64 (f 3), .int .i64 (f 4), .int .i64 (f 5), .int .i64 sx1, .slice ax1 nx1 cx1, .int .i64 1, .slice bx1 mx1 dx1]) (List.mem_cons_of_mem _ List.mem_cons_self)).cell 5
  have q9 := (Q2.out.box (w1.heap.size, 30, [.int .i64 (f 0), .int .i64 (f 1), .int .i64 (f 2), .int .i64 (f 3), .int .i64 (f 4), .int .i64 (f 5), .int .i64 sx1, .slice ax1 nx1 cx1, .int .i64 1, .slice bx1 mx1 dx1]) (List.mem_cons_of_mem _ List.mem_cons_self)).cell 6
  have q10 := (Q2.out.box (w1.heap.size, 30, [.int .i64 (f 0), .int .i64 (f 1), .int .i64 (f 2), .int .i64 (f 3), .int .i64 (f 4), .int .i64 (f 5), .int .i64 sx1, .slice ax1 nx1 cx1, .int .i64 1, .slice bx1 mx1 dx1]) (List.mem_cons_of_mem _ List.mem_cons_self)).cell 7
  have q11 := (Q2.out.box (w1.heap.size, 30, [.int .i64 (f 0), .int .i64 (f 1), .int .i64 (f 2), .int .i64 (f 3), .int .i64 (f 4), .int .i64 (f 5), .int .i64 sx1, .slice ax1 nx1 cx1, .int .i64 1, .slice bx1 mx1 dx1]) (List.mem_cons_of_mem _ List.mem_cons_self)).cell 8
  have q12 := (Q2.out.box (w1.heap.size, 30, [.int .i64 (f 0), .int .i64 (f 1), .int .i64 (f 2), .int .i64 (f 3), .int .i64 (f 4), .int .i64 (f 5), .int .i64 sx1, .slice ax1 nx1 cx1, .int .i64 1, .slice bx1 mx1 dx1]) (List.mem_cons_of_mem _ List.mem_cons_self)).cell 9
  simp only [List.getElem?_cons_succ, List.getElem?_cons_zero] at q3 q4 q5 q6 q7 q8 q9 q10 q11 q12
  go_wp2_with (first | refine wpList_store_row rfl _ _ _ rfl _ #[.int .i64 sx2, .slice ax2 nx2 cx2, .int .i64 1, .slice bx2 mx2 dx2] rfl rfl _ _ (P2.out.box _ List.mem_cons_self) (by kernel_rfl) rfl (by simp [Value.oneCell']) ?_)
  clear q3 q4 q5 q6 q7 q8 q9 q10 q11 q12
  refine (HT.out _ (HE.out.below Q2.out.below)).mono ?_
  rintro e w3 ⟨rfl, hb⟩
  have R3 := Lib.hid (Q2.out.later hb)
  clear hb
  have q13 := (R3.out.box (w2.heap.size, 28, [.int .i64 sx2, .slice ax2 nx2 cx2, .int .i64 1, .slice bx2 mx2 dx2]) List.mem_cons_self).cell 0
  have q14 := (R3.out.box (w2.heap.size, 28, [.int .i64 sx2, .slice ax2 nx2 cx2, .int .i64 1, .slice bx2 mx2 dx2]) List.mem_cons_self).cell 1
  have q15 := (R3.out.box (w2.heap.size, 28, [.int .i64 sx2, .slice ax2 nx2 cx2, .int .i64 1, .slice bx2 mx2 dx2]) List.mem_cons_self).cell 2
  have q16 := (R3.out.box (w2.heap.size, 28, [.int .i64 sx2, .slice ax2 nx2 cx2, .int .i64 1, .slice bx2 mx2 dx2]) List.mem_cons_self).cell 3
  simp only [List.getElem?_cons_succ, List.getElem?_cons_zero] at q13 q14 q15 q16
  have q17 := (R3.out.box (w1.heap.size, 30, [.int .i64 (f 0), .int .i64 (f 1), .int .i64 (f 2), .int .i64 (f 3), .int .i64 (f 4), .int .i64 (f 5), .int .i64 sx1, .slice ax1 nx1 cx1, .int .i64 1, .slice bx1 mx1 dx1]) (List.mem_cons_of_mem _ List.mem_cons_self)).cell 0
  have q18 := (R3.out.box (w1.heap.size, 30, [.int .i64 (f 0), .int .i64 (f 1), .int .i64 (f 2), .int .i64 (f 3), .int .i64 (f 4), .int .i64 (f 5), .int .i64 sx1, .slice ax1 nx1 cx1, .int .i64 1, .slice bx1 mx1 dx1]) (List.mem_cons_of_mem _ List.mem_cons_self)).cell 1
  have q19 := (R3.out.box (w1.heap.size, 30, [.int .i64 (f 0), .int .i64 (f 1), .int .i64 (f 2), .int .i64 (f 3), .int .i64 (f 4), .int .i64 (f 5), .int .i64 sx1, .slice ax1 nx1 cx1, .int .i64 1, .slice bx1 mx1 dx1]) (List.mem_cons_of_mem _ List.mem_cons_self)).cell 2
  have q20 := (R3.out.box (w1.heap.size, 30, [.int .i64 (f 0), .int .i64 (f 1), .int .i64 (f 2), .int .i64 (f 3), .int .i64 (f 4), .int .i64 (f 5), .int .i64 sx1, .slice ax1 nx1 cx1, .int .i64 1, .slice bx1 mx1 dx1]) (List.mem_cons_of_mem _ List.mem_cons_self)).cell 3
  have q21 := (R3.out.box (w1.heap.size, 30, [.int .i64 (f 0), .int .i64 (f 1), .int .i64 (f 2), .int .i64 (f 3), .int .i64 (f 4), .int .i64 (f 5), .int .i64 sx1, .slice ax1 nx1 cx1, .int .i64 1, .slice bx1 mx1 dx1]) (List.mem_cons_of_mem _ List.mem_cons_self)).cell 4
  have q22 := (R3.out.box (w1.heap.size, 30, [.int .i64 (f 0), .int .i64 (f 1), .int .i64 (f 2), .int .i64 (f 3), .int .i64 (f 4), .int .i64 (f 5), .int .i64 sx1, .slice ax1 nx1 cx1, .int .i64 1, .slice bx1 mx1 dx1]) (List.mem_cons_of_mem _ List.mem_cons_self)).cell 5
  have q23 := (R3.out.box (w1.heap.size, 30, [.int .i64 (f 0), .int .i64 (f 1), .int .i64 (f 2), .int .i64 (f 3), .int .i64 (f 4), .int .i64 (f 5), .int .i64 sx1, .slice ax1 nx1 cx1, .int .i64 1, .slice bx1 mx1 dx1]) (List.mem_cons_of_mem _ List.mem_cons_self)).cell 6
  have q24 := (R3.out.box (w1.heap.size, 30, [.int .i64 (f 0), .int .i64 (f 1), .int .i64 (f 2), .int .i64 (f 3), .int .i64 (f 4), .int .i64 (f 5), .int .i64 sx1, .slice ax1 nx1 cx1, .int .i64 1, .slice bx1 mx1 dx1]) (List.mem_cons_of_mem _ List.mem_cons_self)).cell 7
  have q25 := (R3.out.box (w1.heap.size, 30, [.int .i64 (f 0), .int .i64 (f 1), .int .i64 (f 2), .int .i64 (f 3), .int .i64 (f 4), .int .i64 (f 5), .int .i64 sx1, .slice ax1 nx1 cx1, .int .i64 1, .slice bx1 mx1 dx1]) (List.mem_cons_of_mem _ List.mem_cons_self)).cell 8
  have q26 := (R3.out.box (w1.heap.size, 30, [.int .i64 (f 0), .int .i64 (f 1), .int .i64 (f 2), .int .i64 (f 3), .int .i64 (f 4), .int .i64 (f 5), .int .i64 sx1, .slice ax1 nx1 cx1, .int .i64 1, .slice bx1 mx1 dx1]) (List.mem_cons_of_mem _ List.mem_cons_self)).cell 9
  simp only [List.getElem?_cons_succ, List.getElem?_cons_zero] at q17 q18 q19 q20 q21 q22 q23 q24 q25 q26
  go_wp2_with fail
  clear q13 q14 q15 q16 q17 q18 q19 q20 q21 q22 q23 q24 q25 q26
  refine (rfsame_t (R3.out.fr (v := .slice ax1 nx1 cx1) (u := .slice bx1 mx1 dx1) (r := r) (List.mem_cons_of_mem _ (List.mem_cons_of_mem _ List.mem_cons_self)) (List.mem_cons_of_mem _ (List.mem_cons_of_mem _ (List.mem_cons_of_mem _ List.mem_cons_self))) E1.out) (R3.out.fr (v := .slice ax2 nx2 cx2) (u := .slice bx2 mx2 dx2) (r := r) List.mem_cons_self (List.mem_cons_of_mem _ List.mem_cons_self) E2.out) rfl).mono ?_
  rintro e w4 ⟨rfl, hb⟩
  have R4 := Lib.hid (R3.out.later hb)
  clear hb
  go_wp2_with fail
  go_ret
  exact ⟨rfl, R4.out.below⟩

set_option maxHeartbeats 2000000 in
theorem lfails_t (s : ByteArray) (z : Int) (h : failsI s.data.toList = z) (h0 : z ≠ 0) (w : World) (he : EnvU w) :
    Calls Tryd.prog 13 #[.string s, .int .i64 z] w fun e w' => e = .returned (.bool true) ∧ RowKit.Below w.heap.size w w' := by
  have HR : Hid (∀ W, EnvU W → Calls Tryd.prog 14 #[.string s] W (UZE z W)) := Lib.hid (fun W he => (uread_any s W he).mono fun _ _ g => read_fails h h0 g)
  have HE := Lib.hid he
  have S0 := Lib.hid (Sf.start w)
  clear h h0 he
  unfold UZE uc at HR
  go_enter Tryd.func13, Tryd.ntmps13
  go_wp2_with fail
  refine (HR.out _ HE.out).mono ?_
  rintro e w1 ⟨rfl, hb⟩
  have R1 := Lib.hid (S0.out.later hb)
  clear hb
  have P1 := Lib.hid (R1.out.put [.int .i64 0, .int .i64 0, .int .i64 0, .int .i64 0, .int .i64 0, .int .i64 0, .int .i64 0, .slice none 0 0, .int .i64 0, .slice none 0 0] 30)
  have Q1 := Lib.hid (Sf.row (pre := []) P1.out [.int .i64 (zf 0), .int .i64 (zf 1), .int .i64 (zf 2), .int .i64 (zf 3), .int .i64 (zf 4), .int .i64 (zf 5), .int .i64 0, .slice none 0 0, .int .i64 0, .slice none 0 0])
  go_wp2_with (first | refine wpList_store_row rfl _ _ _ rfl _ #[.int .i64 (zf 0), .int .i64 (zf 1), .int .i64 (zf 2), .int .i64 (zf 3), .int .i64 (zf 4), .int .i64 (zf 5), .int .i64 0, .slice none 0 0, .int .i64 0, .slice none 0 0] rfl rfl _ _ (P1.out.box _ List.mem_cons_self) (by kernel_rfl) rfl (by simp [Value.oneCell']) ?_)
  go_ret
  exact ⟨rfl, Q1.out.below⟩

theorem kwh_read : ∃ f, ∀ W, EnvU W → Calls Tryd.prog 14 #[.string ⟨#[107, 87, 104]⟩] W (UVE f 3600000 0 W) ∧ ok f = true := by
  obtain ⟨l, f, h1, h2, h3, _⟩ := means_of (show meansB [107, 87, 104] [74] 3600000 1 = true by decide +kernel)
  refine ⟨f, fun W he => ⟨(uread_any ⟨#[107, 87, 104]⟩ W he).mono fun _ _ g => ?_, h3⟩⟩
  have := read_gives h1 h2 h3 g
  rwa [show Rat.divInt 3600000 1 = 3600000 by decide +kernel] at this

set_option maxHeartbeats 8000000 in
theorem sane_t (w : World) (he : EnvU w) : Calls Tryd.prog 4 #[] w fun e w' => e = .returned (.bool true) ∧ RowKit.Below w.heap.size w w' := by
  obtain ⟨f, hk⟩ := kwh_read
  have HK := Lib.hid (fun W he => (hk W he).1)
  have hf : ok f = true := (hk w he).2
  have Of := Lib.hid hf
  have HE := Lib.hid he
  have HO := Lib.hid (fun W => rfof_r (r := 3 / 2) 3 2 (by decide) (by decide) (by decide) (by decide +kernel) W)
  have HI := Lib.hid (fun W => rfint_r (z := 5400000) (r := 5400000) (by decide) rfl W)
  have LH : Hid (FSz 1000 (3 / 2 : Rat)) := Lib.hid ((FSz.one (by decide +kernel) (by decide +kernel)).mono)
  have LK : Hid (FSz 1000 (3600000 : Rat)) := Lib.hid (FSz.mono (i := 2) ⟨by show ((3600000 : Int).natAbs : Int) < _; simp [P], by show ((1 : Int).natAbs : Int) < _; simp [P]⟩)
  have HRR : Hid ((3 / 2 : Rat) * 3600000 = 5400000) := Lib.hid (by decide +kernel)
  have S0 := Lib.hid (Sf.start w)
  clear hk he hf
  have M0 := Lib.hid (fun W he => lmeans_t ⟨#[107, 87, 104]⟩ ⟨#[74]⟩ 3600000 1 (by decide +kernel) (by decide) (by decide) (by decide) W he)
  have M1 := Lib.hid (fun W he => lmeans_t ⟨#[107, 103, 47, 109, 51]⟩ ⟨#[103, 47, 109, 51]⟩ 1000 1 (by decide +kernel) (by decide) (by decide) (by decide) W he)
  have M2 := Lib.hid (fun W he => lmeans_t ⟨#[108, 47, 104]⟩ ⟨#[109, 51, 47, 115]⟩ 1 3600000 (by decide +kernel) (by decide) (by decide) (by decide) W he)
  have M3 := Lib.hid (fun W he => lmeans_t ⟨#[49, 47, 100, 50]⟩ ⟨#[49, 47, 115, 50]⟩ 1 7464960000 (by decide +kernel) (by decide) (by decide) (by decide) W he)
  have M4 := Lib.hid (fun W he => lmeans_t ⟨#[109, 109, 50]⟩ ⟨#[109, 50]⟩ 1 1000000 (by decide +kernel) (by decide) (by decide) (by decide) W he)
  have M5 := Lib.hid (fun W he => lmeans_t ⟨#[]⟩ ⟨#[49]⟩ 1 1 (by decide +kernel) (by decide) (by decide) (by decide) W he)
  have M6 := Lib.hid (fun W he => lmeans_t ⟨#[49]⟩ ⟨#[49]⟩ 1 1 (by decide +kernel) (by decide) (by decide) (by decide) W he)
  have M7 := Lib.hid (fun W he => lmeans_t ⟨#[109, 57, 42, 109, 47, 109]⟩ ⟨#[109, 57]⟩ 1 1 (by decide +kernel) (by decide) (by decide) (by decide) W he)
  have F0 := Lib.hid (fun W he => lfails_t ⟨#[107, 116]⟩ 11 (by decide +kernel) (by decide) W he)
  have F1 := Lib.hid (fun W he => lfails_t ⟨#[87]⟩ 11 (by decide +kernel) (by decide) W he)
  have F2 := Lib.hid (fun W he => lfails_t ⟨#[103, 47]⟩ 12 (by decide +kernel) (by decide) W he)
  have F3 := Lib.hid (fun W he => lfails_t ⟨#[103, 49]⟩ 12 (by decide +kernel) (by decide) W he)
  have F4 := Lib.hid (fun W he => lfails_t ⟨#[50]⟩ 12 (by decide +kernel) (by decide) W he)
  have F5 := Lib.hid (fun W he => lfails_t ⟨#[49, 103]⟩ 12 (by decide +kernel) (by decide) W he)
  have F6 := Lib.hid (fun W he => lfails_t ⟨#[109, 57, 42, 109]⟩ 3 (by decide +kernel) (by decide) W he)
  go_enter Tryd.func4, Tryd.ntmps4
  go_wp2_with fail
  refine (M0.out _ (HE.out.below S0.out.below)).mono ?_
  rintro e w1 ⟨rfl, hb⟩
  have R1 := Lib.hid (S0.out.later hb)
  clear hb
  go_wp2_with fail
  refine (M1.out _ (HE.out.below R1.out.below)).mono ?_
  rintro e w2 ⟨rfl, hb⟩
  have R2 := Lib.hid (R1.out.later hb)
  clear hb
  go_wp2_with fail
  refine (M2.out _ (HE.out.below R2.out.below)).mono ?_
  rintro e w3 ⟨rfl, hb⟩
  have R3 := Lib.hid (R2.out.later hb)
  clear hb
  go_wp2_with fail
  refine (M3.out _ (HE.out.below R3.out.below)).mono ?_
  rintro e w4 ⟨rfl, hb⟩
  have R4 := Lib.hid (R3.out.later hb)
  clear hb
  go_wp2_with fail
  refine (M4.out _ (HE.out.below R4.out.below)).mono ?_
  rintro e w5 ⟨rfl, hb⟩
  have R5 := Lib.hid (R4.out.later hb)
  clear hb
  go_wp2_with fail
  refine (M5.out _ (HE.out.below R5.out.below)).mono ?_
  rintro e w6 ⟨rfl, hb⟩
  have R6 := Lib.hid (R5.out.later hb)
  clear hb
  go_wp2_with fail
  refine (M6.out _ (HE.out.below R6.out.below)).mono ?_
  rintro e w7 ⟨rfl, hb⟩
  have R7 := Lib.hid (R6.out.later hb)
  clear hb
  go_wp2_with fail
  refine (M7.out _ (HE.out.below R7.out.below)).mono ?_
  rintro e w8 ⟨rfl, hb⟩
  have R8 := Lib.hid (R7.out.later hb)
  clear hb
  go_wp2_with fail
  refine (F0.out _ (HE.out.below R8.out.below)).mono ?_
  rintro e w9 ⟨rfl, hb⟩
  have R9 := Lib.hid (R8.out.later hb)
  clear hb
  go_wp2_with fail
  refine (F1.out _ (HE.out.below R9.out.below)).mono ?_
  rintro e w10 ⟨rfl, hb⟩
  have R10 := Lib.hid (R9.out.later hb)
  clear hb
  go_wp2_with fail
  refine (F2.out _ (HE.out.below R10.out.below)).mono ?_
  rintro e w11 ⟨rfl, hb⟩
  have R11 := Lib.hid (R10.out.later hb)
  clear hb
  go_wp2_with fail
  refine (F3.out _ (HE.out.below R11.out.below)).mono ?_
  rintro e w12 ⟨rfl, hb⟩
  have R12 := Lib.hid (R11.out.later hb)
  clear hb
  go_wp2_with fail
  refine (F4.out _ (HE.out.below R12.out.below)).mono ?_
  rintro e w13 ⟨rfl, hb⟩
  have R13 := Lib.hid (R12.out.later hb)
  clear hb
  go_wp2_with fail
  refine (F5.out _ (HE.out.below R13.out.below)).mono ?_
  rintro e w14 ⟨rfl, hb⟩
  have R14 := Lib.hid (R13.out.later hb)
  clear hb
  go_wp2_with fail
  refine (F6.out _ (HE.out.below R14.out.below)).mono ?_
  rintro e w15 ⟨rfl, hb⟩
  have R15 := Lib.hid (R14.out.later hb)
  clear hb
  go_wp2_with fail
  refine (HK.out _ (HE.out.below R15.out.below)).mono ?_
  rintro e w16 ⟨sx16, ax16, nx16, cx16, bx16, mx16, dx16, rfl, hr, hb, hf, hg⟩
  have E16 := Lib.hid hr.1.1
  have R16 := Lib.hid (R15.out.ret2 hb hr.1.2 hf hr.2.2 hg)
  have FF16 := Lib.hid (hf.mono R15.out.below.size)
  have FG16 := Lib.hid (hg.mono R15.out.below.size)
  clear hr hb hf hg
  have P1 := Lib.hid (R16.out.put [.int .i64 0, .int .i64 0, .int .i64 0, .int .i64 0, .int .i64 0, .int .i64 0, .int .i64 0, .slice none 0 0, .int .i64 0, .slice none 0 0] 30)
  have Q1 := Lib.hid (Sf.row (pre := []) P1.out [.int .i64 (f 0), .int .i64 (f 1), .int .i64 (f 2), .int .i64 (f 3), .int .i64 (f 4), .int .i64 (f 5), .int .i64 sx16, .slice ax16 nx16 cx16, .int .i64 1, .slice bx16 mx16 dx16])
  go_wp2_with (first | refine wpList_store_row rfl _ _ _ rfl _ #[.int .i64 (f 0), .int .i64 (f 1), .int .i64 (f 2), .int .i64 (f 3), .int .i64 (f 4), .int .i64 (f 5), .int .i64 sx16, .slice ax16 nx16 cx16, .int .i64 1, .slice bx16 mx16 dx16] rfl rfl _ _ (P1.out.box _ List.mem_cons_self) (by kernel_rfl) rfl (by simp [Value.oneCell']) ?_)
  refine (HO.out _).mono ?_
  rintro e w17 ⟨sx17, ax17, nx17, cx17, bx17, mx17, dx17, rfl, hr, hb, hf, hg⟩
  have E17 := Lib.hid hr.1.1
  have R17 := Lib.hid (Q1.out.ret2 hb hr.1.2 hf hr.2.2 hg)
  have FF17 := Lib.hid (hf.mono Q1.out.below.size)
  have FG17 := Lib.hid (hg.mono Q1.out.below.size)
  clear hr hb hf hg
  have P2 := Lib.hid (R17.out.put [.int .i64 0, .slice none 0 0, .int .i64 0, .slice none 0 0] 28)
  have Q2 := Lib.hid (Sf.row (pre := []) P2.out [.int .i64 sx17, .slice ax17 nx17 cx17, .int .i64 1, .slice bx17 mx17 dx17])
  have q3 := (Q2.out.box (w17.heap.size, 28, [.int .i64 sx17, .slice ax17 nx17 cx17, .int .i64 1, .slice bx17 mx17 dx17]) List.mem_cons_self).cell 0
  have q4 := (Q2.out.box (w17.heap.size, 28, [.int .i64 sx17, .slice ax17 nx17 cx17, .int .i64 1, .slice bx17 mx17 dx17]) List.mem_cons_self).cell 1
  have q5 := (Q2.out.box (w17.heap.size, 28, [.int .i64 sx17, .slice ax17 nx17 cx17, .int .i64 1, .slice bx17 mx17 dx17]) List.mem_cons_self).cell 2
  have q6 := (Q2.out.box (w17.heap.size, 28, [.int .i64 sx17, .slice ax17 nx17 cx17, .int .i64 1, .slice bx17 mx17 dx17]) List.mem_cons_self).cell 3
  simp only [List.getElem?_cons_succ, List.getElem?_cons_zero] at q3 q4 q5 q6
  have q7 := (Q2.out.box (w16.heap.size, 30, [.int .i64 (f 0), .int .i64 (f 1), .int .i64 (f 2), .int .i64 (f 3), .int .i64 (f 4), .int .i64 (f 5), .int .i64 sx16, .slice ax16 nx16 cx16, .int .i64 1, .slice bx16 mx16 dx16]) (List.mem_cons_of_mem _ List.mem_cons_self)).cell 0
  have q8 := (Q2.out.box (w16.heap.size, 30, [.int .i64 (f 0), .int .i64 (f 1), .int .i64 (f 2), .int .i64 (f 3), .int .i64 (f 4), .int .i64 (f 5), .int .i64 sx16, .slice ax16 nx16 cx16, .int .i64 1, .slice bx16 mx16 dx16]) (List.mem_cons_of_mem _ List.mem_cons_self)).cell 1
  have q9 := (Q2.out.box (w16.heap.size, 30, [.int .i64 (f 0), .int .i64 (f 1), .int .i64 (f 2), .int .i64 (f 3), .int .i64 (f 4), .int .i64 (f 5), .int .i64 sx16, .slice ax16 nx16 cx16, .int .i64 1, .slice bx16 mx16 dx16]) (List.mem_cons_of_mem _ List.mem_cons_self)).cell 2
  have q10 := (Q2.out.box (w16.heap.size, 30, [.int .i64 (f 0), .int .i64 (f 1), .int .i64 (f 2), .int .i64 (f 3), .int .i64 (f 4), .int .i64 (f 5), .int .i64 sx16, .slice ax16 nx16 cx16, .int .i64 1, .slice bx16 mx16 dx16]) (List.mem_cons_of_mem _ List.mem_cons_self)).cell 3
  have q11 := (Q2.out.box (w16.heap.size, 30, [.int .i64 (f 0), .int .i64 (f 1), .int .i64 (f 2), .int .i64 (f 3), .int .i64 (f 4), .int .i64 (f 5), .int .i64 sx16, .slice ax16 nx16 cx16, .int .i64 1, .slice bx16 mx16 dx16]) (List.mem_cons_of_mem _ List.mem_cons_self)).cell 4
  have q12 := (Q2.out.box (w16.heap.size, 30, [.int .i64 (f 0), .int .i64 (f 1), .int .i64 (f 2), .int .i64 (f 3), .int .i64 (f 4), .int .i64 (f 5), .int .i64 sx16, .slice ax16 nx16 cx16, .int .i64 1, .slice bx16 mx16 dx16]) (List.mem_cons_of_mem _ List.mem_cons_self)).cell 5
  have q13 := (Q2.out.box (w16.heap.size, 30, [.int .i64 (f 0), .int .i64 (f 1), .int .i64 (f 2), .int .i64 (f 3), .int .i64 (f 4), .int .i64 (f 5), .int .i64 sx16, .slice ax16 nx16 cx16, .int .i64 1, .slice bx16 mx16 dx16]) (List.mem_cons_of_mem _ List.mem_cons_self)).cell 6
  have q14 := (Q2.out.box (w16.heap.size, 30, [.int .i64 (f 0), .int .i64 (f 1), .int .i64 (f 2), .int .i64 (f 3), .int .i64 (f 4), .int .i64 (f 5), .int .i64 sx16, .slice ax16 nx16 cx16, .int .i64 1, .slice bx16 mx16 dx16]) (List.mem_cons_of_mem _ List.mem_cons_self)).cell 7
  have q15 := (Q2.out.box (w16.heap.size, 30, [.int .i64 (f 0), .int .i64 (f 1), .int .i64 (f 2), .int .i64 (f 3), .int .i64 (f 4), .int .i64 (f 5), .int .i64 sx16, .slice ax16 nx16 cx16, .int .i64 1, .slice bx16 mx16 dx16]) (List.mem_cons_of_mem _ List.mem_cons_self)).cell 8
  have q16 := (Q2.out.box (w16.heap.size, 30, [.int .i64 (f 0), .int .i64 (f 1), .int .i64 (f 2), .int .i64 (f 3), .int .i64 (f 4), .int .i64 (f 5), .int .i64 sx16, .slice ax16 nx16 cx16, .int .i64 1, .slice bx16 mx16 dx16]) (List.mem_cons_of_mem _ List.mem_cons_self)).cell 9
  simp only [List.getElem?_cons_succ, List.getElem?_cons_zero] at q7 q8 q9 q10 q11 q12 q13 q14 q15 q16
  go_wp2_with (first | refine wpList_store_row rfl _ _ _ rfl _ #[.int .i64 sx17, .slice ax17 nx17 cx17, .int .i64 1, .slice bx17 mx17 dx17] rfl rfl _ _ (P2.out.box _ List.mem_cons_self) (by kernel_rfl) rfl (by simp [Value.oneCell']) ?_)
  clear q3 q4 q5 q6 q7 q8 q9 q10 q11 q12 q13 q14 q15 q16
  refine (ufrom_k (Q2.out.fr (v := .slice ax17 nx17 cx17) (u := .slice bx17 mx17 dx17) (r := 3 / 2) List.mem_cons_self (List.mem_cons_of_mem _ List.mem_cons_self) E17.out) (Q2.out.fr (v := .slice ax16 nx16 cx16) (u := .slice bx16 mx16 dx16) (r := 3600000) (List.mem_cons_of_mem _ (List.mem_cons_of_mem _ List.mem_cons_self)) (List.mem_cons_of_mem _ (List.mem_cons_of_mem _ (List.mem_cons_of_mem _ List.mem_cons_self))) E16.out) LH.out LK.out Of.out (by decide +kernel) HRR.out).mono ?_
  rintro e w18 ⟨sx18, ax18, nx18, cx18, bx18, mx18, dx18, rfl, hr, hb, hf, hg⟩
  have E18 := Lib.hid hr.1.1
  have R18 := Lib.hid (Q2.out.ret2 hb hr.1.2 hf hr.2.2 hg)
  have FF18 := Lib.hid (hf.mono Q2.out.below.size)
  have FG18 := Lib.hid (hg.mono Q2.out.below.size)
  clear hr hb hf hg
  have P17 := Lib.hid (R18.out.put [.int .i64 0, .slice none 0 0, .int .i64 0, .slice none 0 0] 28)
  have Q17 := Lib.hid (Sf.row (pre := []) P17.out [.int .i64 sx18, .slice ax18 nx18 cx18, .int .i64 1, .slice bx18 mx18 dx18])
  go_upto_region 6 with (refine wpList_store_row rfl _ _ _ rfl _ #[.int .i64 sx18, .slice ax18 nx18 cx18, .int .i64 1, .slice bx18 mx18 dx18] rfl rfl _ _ (P17.out.box _ List.mem_cons_self) (by kernel_rfl) rfl (by simp [Value.oneCell']) ?_)
  obtain ⟨WZ, hWZ⟩ : ∃ W, ((w18.alloc (.cells #[.int .i64 0, .slice none 0 0, .int .i64 0, .slice none 0 0] 28)).setRow w18.heap.size #[.int .i64 sx18, .slice ax18 nx18 cx18, .int .i64 1, .slice bx18 mx18 dx18]) = W := ⟨_, rfl⟩
  rw [hWZ] at Q17 ⊢
  clear hWZ
  have K0 : ∀ W F, Sf w [(w18.heap.size, 28, [.int .i64 sx18, .slice ax18 nx18 cx18, .int .i64 1, .slice bx18 mx18 dx18]), (w17.heap.size, 28, [.int .i64 sx17, .slice ax17 nx17 cx17, .int .i64 1, .slice bx17 mx17 dx17]), (w16.heap.size, 30, [.int .i64 (f 0), .int .i64 (f 1), .int .i64 (f 2), .int .i64 (f 3), .int .i64 (f 4), .int .i64 (f 5), .int .i64 sx16, .slice ax16 nx16 cx16, .int .i64 1, .slice bx16 mx16 dx16])] F W → W.cell? ⟨w18.heap.size, 0, none⟩ = some (.int .i64 sx18) ∧ W.cell? ⟨w18.heap.size, 1, none⟩ = some (.slice ax18 nx18 cx18) ∧ W.cell? ⟨w18.heap.size, 2, none⟩ = some (.int .i64 1) ∧ W.cell? ⟨w18.heap.size, 3, none⟩ = some (.slice bx18 mx18 dx18) := fun W F h => ⟨(h.box (w18.heap.size, 28, [.int .i64 sx18, .slice ax18 nx18 cx18, .int .i64 1, .slice bx18 mx18 dx18]) List.mem_cons_self).cell 0, (h.box (w18.heap.size, 28, [.int .i64 sx18, .slice ax18 nx18 cx18, .int .i64 1, .slice bx18 mx18 dx18]) List.mem_cons_self).cell 1, (h.box (w18.heap.size, 28, [.int .i64 sx18, .slice ax18 nx18 cx18, .int .i64 1, .slice bx18 mx18 dx18]) List.mem_cons_self).cell 2, (h.box (w18.heap.size, 28, [.int .i64 sx18, .slice ax18 nx18 cx18, .int .i64 1, .slice bx18 mx18 dx18]) List.mem_cons_self).cell 3⟩
  have KK := Lib.hid K0
  clear K0
  have N0 := Lib.hid Q17.out.drew
  clear Q17
  have e0 := KK.out _ _ N0.out
  go_region_held3 (fun W => W.cell? ⟨w18.heap.size, 0, none⟩ = some (.int .i64 sx18) ∧ W.cell? ⟨w18.heap.size, 1, none⟩ = some (.slice ax18 nx18 cx18) ∧ W.cell? ⟨w18.heap.size, 2, none⟩ = some (.int .i64 1) ∧ W.cell? ⟨w18.heap.size, 3, none⟩ = some (.slice bx18 mx18 dx18))
    (first | (with_reducible exact e0) | (with_reducible exact e1) | (with_reducible exact e2))
    (((first | go_at_call 16 | go_at_call 11 | (rw [if_pos (by rfl)]; go_simp) | skip); (first
        | (have hG := N1; clear hG; go_at_call 11; (with_reducible refine (rfsame_t PN1_1.out PN1_2.out rfl).mono ?_); rintro e y19_1 ⟨rfl, hb⟩; have N2 := Lib.hid (N1.out.later hb); clear hb; have e2 := KK.out _ _ N2.out)
        | (have hG := N0; clear hG; go_at_call 16; (with_reducible refine (HI.out _).mono ?_); rintro e y19_0 ⟨sx19_0, ax19_0, nx19_0, cx19_0, bx19_0, mx19_0, dx19_0, rfl, hr, hb, hf, hg⟩; have E19_0 := Lib.hid hr.1.1; have N1 := Lib.hid (N0.out.ret2 hb hr.1.2 hf hr.2.2 hg); clear hr hb hf hg; have e1 := KK.out _ _ N1.out; have PN1_1 := Lib.hid (N1.out.fr (v := .slice ax18 nx18 cx18) (u := .slice bx18 mx18 dx18) (r := 5400000) (List.mem_cons_of_mem _ (List.mem_cons_of_mem _ List.mem_cons_self)) (List.mem_cons_of_mem _ (List.mem_cons_of_mem _ (List.mem_cons_of_mem _ List.mem_cons_self))) E18.out); have PN1_2 := Lib.hid (N1.out.fr (v := .slice ax19_0 nx19_0 cx19_0) (u := .slice bx19_0 mx19_0 dx19_0) (r := 5400000) List.mem_cons_self (List.mem_cons_of_mem _ List.mem_cons_self) E19_0.out))); (try dsimp only)))
  all_goals (go_wp2_with fail; go_ret; exact ⟨rfl, N2.out.below⟩)
end Go.Proofs.YtmhdhabgdlefjaaDoor.Un

namespace Go.Proofs.YtmhdhabgdlefjaaDoor.Un
open Go.RowKit Bi Dm

theorem sign_ne {x : Rat} (h : decide (0 < x.num.sign) = true) : x ≠ 0 := by
  intro e; subst e; revert h; decide
theorem sign_pos {x : Rat} : 0 < x.num.sign ↔ 0 < x := by
  rw [Int.sign_pos_iff, Rat.lt_iff]
  simp
theorem mul_div_back {x : Rat} (v : Rat) (h : x ≠ 0) : v * x / x = v := by
  rw [Rat.div_def, Rat.mul_assoc, Rat.mul_inv_cancel x h, Rat.mul_one]
theorem div_mul_back {x : Rat} (v : Rat) (h : x ≠ 0) : v / x * x = v := by
  rw [Rat.div_def, Rat.mul_assoc, Rat.inv_mul_cancel x h, Rat.mul_one]
theorem uR_good {f : Nat → Int} {s t : Int} {l k : List Int} (h : uR f s l t k = true) : ok f = true ∧ ∃ r : Rat, s = r.num.sign ∧ l = digs r.num.natAbs ∧ t = 1 ∧ k = digs (r.den : Int).natAbs ∧ decide (0 < r.num.sign) = true := by
  unfold uR at h
  simp only [Bool.and_eq_true] at h
  obtain ⟨h1, h2, h3⟩ := h
  obtain ⟨r, rfl, rfl, rfl, rfl⟩ := fright_of h2
  exact ⟨h1, r, rfl, rfl, rfl, rfl, h3⟩

set_option maxHeartbeats 2000000 in
theorem u9few_len {w : World} {f : Nat → Int} {s t : Int} {a b : Option Addr} {n c m d : Nat} (hn : n ≤ 9223372036854775807) (hm : m ≤ 9223372036854775807) {k : Bool} (hk : (decide ((n : Int) ≤ 12) && decide ((m : Int) ≤ 12)) = k) :
    Calls Tryd.prog 5 #[.agg #[.int .i64 (f 0), .int .i64 (f 1), .int .i64 (f 2), .int .i64 (f 3), .int .i64 (f 4), .int .i64 (f 5), .int .i64 s, .slice a n c, .int .i64 t, .slice b m d]] w fun e w' => e = .returned (.bool k) ∧ RowKit.Below w.heap.size w w' := by
  have HN := Lib.hid hn
  have HM := Lib.hid hm
  have HK := Lib.hid hk
  have s0 := ((Sf.start w).put [.int .i64 (f 0), .int .i64 (f 1), .int .i64 (f 2), .int .i64 (f 3), .int .i64 (f 4), .int .i64 (f 5), .int .i64 s, .slice a n c, .int .i64 t, .slice b m d] 30)
  try simp only [World.size_alloc] at s0
  have S0 := Lib.hid s0
  clear s0
  clear hn hm hk
  go_enter Tryd.func5, Tryd.ntmps5
  have q1 := (S0.out.box (w.heap.size, 30, [.int .i64 (f 0), .int .i64 (f 1), .int .i64 (f 2), .int .i64 (f 3), .int .i64 (f 4), .int .i64 (f 5), .int .i64 s, .slice a n c, .int .i64 t, .slice b m d]) List.mem_cons_self).cell 0
  have q2 := (S0.out.box (w.heap.size, 30, [.int .i64 (f 0), .int .i64 (f 1), .int .i64 (f 2), .int .i64 (f 3), .int .i64 (f 4), .int .i64 (f 5), .int .i64 s, .slice a n c, .int .i64 t, .slice b m d]) List.mem_cons_self).cell 1
  have q3 := (S0.out.box (w.heap.size, 30, [.int .i64 (f 0), .int .i64 (f 1), .int .i64 (f 2), .int .i64 (f 3), .int .i64 (f 4), .int .i64 (f 5), .int .i64 s, .slice a n c, .int .i64 t, .slice b m d]) List.mem_cons_self).cell 2
  have q4 := (S0.out.box (w.heap.size, 30, [.int .i64 (f 0), .int .i64 (f 1), .int .i64 (f 2), .int .i64 (f 3), .int .i64 (f 4), .int .i64 (f 5), .int .i64 s, .slice a n c, .int .i64 t, .slice b m d]) List.mem_cons_self).cell 3
  have q5 := (S0.out.box (w.heap.size, 30, [.int .i64 (f 0), .int .i64 (f 1), .int .i64 (f 2), .int .i64 (f 3), .int .i64 (f 4), .int .i64 (f 5), .int .i64 s, .slice a n c, .int .i64 t, .slice b m d]) List.mem_cons_self).cell 4
  have q6 := (S0.out.box (w.heap.size, 30, [.int .i64 (f 0), .int .i64 (f 1), .int .i64 (f 2), .int .i64 (f 3), .int .i64 (f 4), .int .i64 (f 5), .int .i64 s, .slice a n c, .int .i64 t, .slice b m d]) List.mem_cons_self).cell 5
  have q7 := (S0.out.box (w.heap.size, 30, [.int .i64 (f 0), .int .i64 (f 1), .int .i64 (f 2), .int .i64 (f 3), .int .i64 (f 4), .int .i64 (f 5), .int .i64 s, .slice a n c, .int .i64 t, .slice b m d]) List.mem_cons_self).cell 6
  have q8 := (S0.out.box (w.heap.size, 30, [.int .i64 (f 0), .int .i64 (f 1), .int .i64 (f 2), .int .i64 (f 3), .int .i64 (f 4), .int .i64 (f 5), .int .i64 s, .slice a n c, .int .i64 t, .slice b m d]) List.mem_cons_self).cell 7
  have q9 := (S0.out.box (w.heap.size, 30, [.int .i64 (f 0), .int .i64 (f 1), .int .i64 (f 2), .int .i64 (f 3), .int .i64 (f 4), .int .i64 (f 5), .int .i64 s, .slice a n c, .int .i64 t, .slice b m d]) List.mem_cons_self).cell 8
  have q10 := (S0.out.box (w.heap.size, 30, [.int .i64 (f 0), .int .i64 (f 1), .int .i64 (f 2), .int .i64 (f 3), .int .i64 (f 4), .int .i64 (f 5), .int .i64 s, .slice a n c, .int .i64 t, .slice b m d]) List.mem_cons_self).cell 9
  simp only [List.getElem?_cons_succ, List.getElem?_cons_zero] at q1 q2 q3 q4 q5 q6 q7 q8 q9 q10
  go_wp2_with fail
  clear q1 q2 q3 q4 q5 q6 q7 q8 q9 q10
  refine (ffew_len s a n c t b m d 12 _ HN.out HM.out k HK.out).mono ?_
  rintro e w1 ⟨rfl, hb⟩
  have R1 := Lib.hid (S0.out.later hb)
  clear hb
  go_wp2_with fail
  go_ret
  exact ⟨rfl, R1.out.below⟩
end Go.Proofs.YtmhdhabgdlefjaaDoor.Un
