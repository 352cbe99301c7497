/- The contract of Copy. -/
import Derived.Test.YtkphmkhdlkdphaaCp
namespace Go.Proofs.Ytkphmkhdlkdphaa
open Go.RowKit Go.ChangeShapes Go.WideShapes
attribute [local go_sem ↓] Go.wp_at_zero Go.wp_at_succ

def Copd (st : St) (w : World) (e : Ending) (w' : World) : Prop :=
  ∃ r, e = .returned (.pointer (some ⟨r, 0, none⟩)) ∧ Disk (fun b => w.heap.size ≤ b ∧ b < w'.heap.size) r st w' ∧ w.grownBy w' none

/-- What the loads and stores of the statements read. -/
def SeenC (_p : Rep) (r i j : Nat) (w' : World) : Prop :=
  w'.cell? ⟨r, i, none⟩ ≠ none ∧ w'.cell? ⟨r, j, none⟩ ≠ none ∧ w'.frozen? ⟨r, i, none⟩ = false ∧ w'.frozen? ⟨r, j, none⟩ = false
/-- A call that makes memory and writes none. -/
def Makes (p : Rep) (w1 : World) (C : Nat → Nat → Nat → World → Prop) (wc : World) (e : Ending) (w' : World) : Prop :=
  ∃ m, e = .returned (.map (some m)) ∧ (w'.heap[p.r]? = w1.heap[p.r]?) ∧ C wc.heap.size w'.heap.size m w' ∧ wc.grownBy w' none ∧ w1.grownBy w' none

theorem makes {p : Rep} {w1 : World} {C : Nat → Nat → Nat → World → Prop} {f : FuncId} {b : Nat} (hr : p.r < w1.heap.size)
    (hc : ∀ wc, w1.grownBy wc none → Calls Try.prog f #[.map (some b)] wc fun e w' => ∃ m, e = .returned (.map (some m)) ∧ C wc.heap.size w'.heap.size m w' ∧ wc.grownBy w' none)
    (wc : World) (hg : w1.grownBy wc none) : Calls Try.prog f #[.map (some b)] wc (Makes p w1 C wc) :=
  (hc wc hg).mono fun _ _ ⟨m, he, h1, h2⟩ => ⟨m, he, (hg.trans h2).block _ hr (by simp), h1, h2, hg.trans h2⟩

theorem cell_same {w w' : World} {b : Nat} (h : w'.heap[b]? = w.heap[b]?) (i : Nat) {u : Value} (hu : w.cell? ⟨b, i, none⟩ = some u) : w'.cell? ⟨b, i, none⟩ = some u := by
  rw [World.cell?_of_block (a := ⟨b, i, none⟩) h]; exact hu
theorem froz_same {w w' : World} {b : Nat} (h : w'.heap[b]? = w.heap[b]?) (i : Nat) {u : Bool} (hu : w.frozen? ⟨b, i, none⟩ = u) : w'.frozen? ⟨b, i, none⟩ = u := by
  rw [← hu]; simp [World.frozen?, h]

theorem set_seen {w : World} {q r i j : Nat} {v u : Value} (h : w.cell? ⟨q, j, none⟩ = some u) (hne : q ≠ r) : (w.setCell ⟨r, i, none⟩ v).cell? ⟨q, j, none⟩ = some u :=
  cell_same ((grownBy_setCell' w r i v).block q (World.block_lt_of_cell? w _ h) (by simpa using hne)) j h

/-- The files are copied; the struct holds the copies. -/
def Half (r : Nat) (l1 l2 : Int → List UInt8) (a2 a3 a4 a5 a6 a7 : Value) (w1 w5 : World) : Prop :=
  ∃ m1 m2 A1 B1 A2 B2, w5.heap[r]? = some (.cells #[.map (some m1), .map (some m2), a2, a3, a4, a5, a6, a7] 56 (0, 0)) ∧ CopF l1 A1 B1 m1 w5 ∧ CopF l2 A2 B2 m2 w5 ∧ r < A1 ∧ r < A2 ∧ B1 ≤ A2 ∧ B1 ≤ w5.heap.size ∧ B2 ≤ w5.heap.size ∧ But (fun b => b = r) w1 w5

theorem half {r m1 m2 A1 A2 : Nat} {l1 l2 : Int → List UInt8} {a0 a1 a2 a3 a4 a5 a6 a7 : Value} {w1 w2 w3 : World} (hz1 : w1.heap.size = r + 1) (hb1 : w1.heap[r]? = some (.cells #[a0, a1, a2, a3, a4, a5, a6, a7] 56 (0, 0)))
    (h1 : r < A1) (h2 : w2.heap.size ≤ A2) (c1 : CopF l1 A1 w2.heap.size m1 w2) (g12 : w1.grownBy w2 none) (c2 : CopF l2 A2 w3.heap.size m2 w3) (g23 : w2.grownBy w3 none) :
    Half r l1 l2 a2 a3 a4 a5 a6 a7 w1 ((w3.setCell ⟨r, 0, none⟩ (.map (some m1))).setCell ⟨r, 1, none⟩ (.map (some m2))) := by
  have hs2 := g12.size
  have hs3 := g23.size
  have hb3 : w3.heap[r]? = _ := ((g12.trans g23).block r (by omega) (by simp)).trans hb1
  have k1 := Lib.heap_setCell_same (i := 0) hb3 (.map (some m1))
  have k2 := Lib.heap_setCell_same (i := 1) k1 (.map (some m2))
  have gs : w3.grownBy ((w3.setCell ⟨r, 0, none⟩ (.map (some m1))).setCell ⟨r, 1, none⟩ (.map (some m2))) (some r) := (grownBy_setCell' _ _ _ _).trans (grownBy_setCell' _ _ _ _)
  have hs5 := gs.size
  refine ⟨m1, m2, A1, _, A2, _, k2, ?_, ?_, h1, by omega, h2, by omega, by omega, ?_⟩
  · refine c1.kept fun b hb1 hb2 => ?_
    rw [gs.block b (by omega) (by intro e; cases e; omega), g23.block b hb2 (by simp)]
  · refine c2.kept fun b hb1 hb2 => ?_
    rw [gs.block b (by omega) (by intro e; cases e; omega)]
  · exact ((But.of (g12.trans g23) fun b e _ => by cases e) : But (fun b => b = r) w1 w3).trans (S' := fun b => b = r) (But.of gs fun b e _ => by cases e; rfl) fun _ _ h => h

theorem whole {S : Nat → Prop} {p : Rep} {st : St} {w w1 w5 w7 w9 : World} {r m4 A3 B3 A4 A5 : Nat} {a2 a3 a7 v3 v5 : Value} (H : IsD S p st w) (hr : w.heap.size = r) (hg1 : w.grownBy w1 none) (hz1 : w1.heap.size = r + 1)
    (hh : Half r st.now st.dur a2 a3 (.bool st.down) (.int .i64 st.lost) (.int .i64 st.calls) a7 w1 w5) (h3 : w5.heap.size ≤ A3) (h4 : B3 ≤ A4) (g57 : w5.grownBy w7 none)
    (c3 : CopV 69 2 st.q.length (cellsQ st.q) A3 B3 v3 w7) (c4 : CopL st.q A4 w7.heap.size m4 w7) (h45 : w5.heap.size ≤ A4) (hB3 : B3 ≤ w7.heap.size)
    (h5 : w7.heap.size ≤ A5) (g89 : ((w7.setCell ⟨r, 2, none⟩ v3).setCell ⟨r, 3, none⟩ (.map (some m4))).grownBy w9 none)
    (c5 : CopV 3 1 st.keep.length (st.keep.map (Value.int .i64 ·)) A5 w9.heap.size v5 w9) :
    Disk (fun b => w.heap.size ≤ b ∧ b < (w9.setCell ⟨r, 7, none⟩ v5).heap.size) r st (w9.setCell ⟨r, 7, none⟩ v5) ∧ w.grownBy (w9.setCell ⟨r, 7, none⟩ v5) none := by
  obtain ⟨m1, m2, A1, B1, A2, B2, hb5, c1, c2, r1, r2, r3, r4, r5, hbut⟩ := hh
  have z1 := hbut.size
  have z57 := g57.size
  have gs : w7.grownBy ((w7.setCell ⟨r, 2, none⟩ v3).setCell ⟨r, 3, none⟩ (.map (some m4))) (some r) := (grownBy_setCell' _ _ _ _).trans (grownBy_setCell' _ _ _ _)
  have zs := gs.size
  have z89 := g89.size
  have gt := grownBy_setCell' w9 r 7 v5
  have zt := gt.size
  have hb7 : w7.heap[r]? = _ := (g57.block r (by omega) (by simp)).trans hb5
  have k1 := Lib.heap_setCell_same (i := 2) hb7 v3
  have k2 := Lib.heap_setCell_same (i := 3) k1 (.map (some m4))
  have k3 : w9.heap[r]? = _ := (g89.block r (by omega) (by simp)).trans k2
  have k4 := Lib.heap_setCell_same (i := 7) k3 v5
  have q7 : ∀ b, b < w7.heap.size → b ≠ r → (w9.setCell ⟨r, 7, none⟩ v5).heap[b]? = w7.heap[b]? := fun b hb hne => by
    rw [gt.block b (by omega) (by simpa using hne), g89.block b (by omega) (by simp), gs.block b hb (by simpa using hne)]
  have q5 : ∀ b, b < w5.heap.size → b ≠ r → (w9.setCell ⟨r, 7, none⟩ v5).heap[b]? = w5.heap[b]? := fun b hb hne => by
    rw [q7 b (by omega) hne, g57.block b hb (by simp)]
  refine ⟨copy_fin (A1 := A1) (B1 := B1) (A2 := A2) (B2 := B2) (A3 := A3) (B3 := B3) (A4 := A4) (B4 := w7.heap.size) (A5 := A5) (B5 := w9.heap.size) H.wf k4 ?_ ?_ ?_ ?_ ?_ ?_ ?_, ?_⟩
  · exact c1.kept fun b h1 h2 => q5 b (by omega) (by omega)
  · exact c2.kept fun b h1 h2 => q5 b (by omega) (by omega)
  · exact c3.kept fun b h1 h2 => q7 b (by omega) (by omega)
  · exact c4.kept fun b h1 h2 => q7 b (by omega) (by omega)
  · exact c5.kept fun b h1 h2 => gt.block b (by omega) (by intro e; cases e; omega)
  · refine ⟨by omega, by omega, by omega, by omega, by omega, by omega, by omega, by omega, by omega, by omega, by omega, by omega⟩
  · refine ⟨by omega, by omega, by omega, by omega, by omega, by omega, by omega, by omega, by omega, by omega⟩
  · refine ⟨?_, ?_, ?_, by have := hg1.size; omega, fun k hk _ => ?_⟩
    · rw [gt.os, g89.os, gs.os, g57.os, hbut.os, hg1.os]
    · rw [gt.tape, g89.tape, gs.tape, g57.tape, hbut.tape, hg1.tape]
    · rw [gt.output, g89.output, gs.output, g57.output, hbut.output, hg1.output]
    · rw [q5 k (by omega) (by omega), hbut.block k (by omega) (by omega), hg1.block k hk (by simp)]

theorem copy_any {S : Nat → Prop} {p : Rep} {st : St} {w : World} (h : IsD S p st w) :
    Calls Try.prog 18 #[.pointer (some ⟨p.r, 0, none⟩)] w (Copd st w) := by
  obtain ⟨c0, c1, c2, c3, c4, c5, c6, c7⟩ := h.cell
  obtain ⟨pa, pc, hpv, _, _⟩ := Own.shape (h.holds .pv)
  obtain ⟨ka, kc, hkv, _, _⟩ := Own.shape (h.holds .kv)
  obtain ⟨qn, hqn⟩ : ∃ n, st.q.length = n := ⟨_, rfl⟩
  obtain ⟨kn, hkn⟩ : ∃ n, st.keep.length = n := ⟨_, rfl⟩
  rw [hpv, hqn] at c2
  rw [hkv, hkn] at c7
  have H := Lib.hid h
  have HPV := Lib.hid hpv
  have HKV := Lib.hid hkv
  have HQN := Lib.hid hqn
  have HKN := Lib.hid hkn
  have hlr := h.lt (s := .r) rfl
  clear h hpv hkv hqn hkn
  go_enter Try.func18, Try.ntmps18
  go_wp2_with fail
  obtain ⟨r, hr⟩ : ∃ r, w.heap.size = r := ⟨_, rfl⟩
  have hb1 : (w.alloc (.cells #[.map (some p.fm), .map (some p.dm), .slice pa qn pc, .map (some p.lm), .bool st.down, .int .i64 st.lost, .int .i64 st.calls, .slice ka kn kc] 56)).heap[r]? = some (.cells #[.map (some p.fm), .map (some p.dm), .slice pa qn pc, .map (some p.lm), .bool st.down, .int .i64 st.lost, .int .i64 st.calls, .slice ka kn kc] 56 (0, 0)) := by rw [← hr]; exact (MapKept.heap_alloc w _).1
  have hg1 : w.grownBy (w.alloc (.cells #[.map (some p.fm), .map (some p.dm), .slice pa qn pc, .map (some p.lm), .bool st.down, .int .i64 st.lost, .int .i64 st.calls, .slice ka kn kc] 56)) none := World.grownBy_alloc _ _ _
  have hz1 : (w.alloc (.cells #[.map (some p.fm), .map (some p.dm), .slice pa qn pc, .map (some p.lm), .bool st.down, .int .i64 st.lost, .int .i64 st.calls, .slice ka kn kc] 56)).heap.size = r + 1 := by rw [← hr]; simp
  rw [hr]
  generalize (w.alloc (.cells #[.map (some p.fm), .map (some p.dm), .slice pa qn pc, .map (some p.lm), .bool st.down, .int .i64 st.lost, .int .i64 st.calls, .slice ka kn kc] 56)) = w1 at *
  have hd1 := H.out.grown hg1
  have HD1 := Lib.hid hd1
  have HR := Lib.hid hr
  have HB1 := Lib.hid hb1
  have HG1 := Lib.hid hg1
  have HZ1 := Lib.hid hz1
  obtain ⟨d0, d1, _, _, _, _, _, _⟩ := hd1.cell
  have CF := Lib.hid (fun wc hg => makes (w1 := w1) (C := CopF st.now) (hd1.lt (s := .r) rfl) (fun wc hg => copF_any (hd1.grown hg)) wc hg)
  have CD := Lib.hid (fun wc hg => makes (w1 := w1) (C := CopF st.dur) (hd1.lt (s := .r) rfl) (fun wc hg => copD_any (hd1.grown hg)) wc hg)
  have KR : Hid (∀ w' : World, w1.grownBy w' none → w'.cell? ⟨r, 0, none⟩ = some (.map (some p.fm)) ∧ w'.cell? ⟨r, 1, none⟩ = some (.map (some p.dm)) ∧ w'.frozen? ⟨r, 0, none⟩ = false ∧ w'.frozen? ⟨r, 1, none⟩ = false) := fun w' hg => by
    have hh : w'.heap[r]? = _ := (hg.block r (by omega) (by simp)).trans hb1
    exact ⟨by simp [World.cell?, hh], by simp [World.cell?, hh], by simp [World.frozen?, hh], by simp [World.frozen?, hh]⟩
  have hpr : p.r ≠ r := by omega
  clear c0 c1 c2 c3 c4 c5 c6 c7 hd1 hr hb1 hg1 hz1
  go_region_held3 (fun w' => w'.cell? ⟨p.r, 0, none⟩ = some (.map (some p.fm)) ∧ w'.cell? ⟨p.r, 1, none⟩ = some (.map (some p.dm)))
    (first | exact ⟨d0, d1⟩ | exact ⟨e0, e1⟩ | exact ⟨x0, x1⟩ | exact ⟨set_seen x0 hpr, set_seen x1 hpr⟩ | exact ⟨set_seen (set_seen x0 hpr) hpr, set_seen (set_seen x1 hpr) hpr⟩)
    (first
      | (go_at_call 40; ((with_reducible refine (CF.out _ (by first | exact grown_drewN w1 _ | exact grown_drew w1)).mono ?_)); rintro e w2 ⟨m1, rfl, hk2, hc2, hgc2, hg2⟩; have e0 := cell_same hk2 0 d0; have e1 := cell_same hk2 1 d1; clear hk2)
      | (go_at_call 40; ((with_reducible refine (CD.out _ (by first | exact hg2)).mono ?_)); rintro e w3 ⟨m2, rfl, hk3, hc3, hgc3, hg3⟩; have x0 := cell_same hk3 0 d0; have x1 := cell_same hk3 1 d1; obtain ⟨y0, y1, y2, y3⟩ := KR.out _ hg3; clear hk3 ))
  have hA1 : r < w1.drew.heap.size := by have := HZ1.out; show r < w1.heap.size; omega
  have HH : Hid (Half r st.now st.dur (.slice pa qn pc) (.map (some p.lm)) (.bool st.down) (.int .i64 st.lost) (.int .i64 st.calls) (.slice ka kn kc) w1 ((w3.setCell ⟨r, 0, none⟩ (.map (some m1))).setCell ⟨r, 1, none⟩ (.map (some m2)))) :=
    half (r := r) HZ1.out HB1.out hA1 (Nat.le_refl _) hc2 hg2 hc3 hgc3
  clear hA1 hc2 hg2 hc3 hgc3 hgc2 hg3 y0 y1 y2 y3 x0 x1 e0 e1 d0 d1 CF CD KR
  generalize (w3.setCell ⟨r, 0, none⟩ (.map (some m1))).setCell ⟨r, 1, none⟩ (.map (some m2)) = w5 at *
  have hd5 : IsD S p st w5 := H.out.kept fun b _ hlt => by
    have hbut := HH.out
    obtain ⟨_, _, _, _, _, _, _, _, _, _, _, _, _, _, hbut⟩ := hbut
    have := HR.out
    have := HZ1.out
    rw [hbut.block b (by omega) (by omega), HG1.out.block b hlt (by simp)]
  obtain ⟨_, _, c2, c3, _, _, _, c7⟩ := hd5.cell
  rw [HPV.out, HQN.out] at c2
  rw [HKV.out, HKN.out] at c7
  have CP := Lib.hid (fun (wc : World) (hg : w5.grownBy wc none) => copP_any (hd5.grown hg))
  have CL := Lib.hid (fun (wc : World) (hg : w5.grownBy wc none) => copL_any (hd5.grown hg))
  have CK := Lib.hid (fun (wc : World) (hg : ∀ b, b < w.heap.size → wc.heap[b]? = w.heap[b]?) => copK_any (H.out.kept fun b _ hlt => hg b hlt))
  rw [HPV.out, HQN.out] at CP
  rw [HKV.out, HKN.out] at CK
  have HD5 := Lib.hid hd5
  have KR : Hid (∀ w' : World, w5.grownBy w' none → w'.heap[p.r]? = w5.heap[p.r]? ∧ (∃ u, w'.cell? ⟨r, 2, none⟩ = some u) ∧ (∃ u, w'.cell? ⟨r, 3, none⟩ = some u) ∧ w'.frozen? ⟨r, 2, none⟩ = false ∧ w'.frozen? ⟨r, 3, none⟩ = false) := fun w' hg => by
    have hpr5 := hd5.lt (s := .r) rfl
    obtain ⟨_, _, _, _, _, _, hb, _⟩ := HH.out
    have hh : w'.heap[r]? = _ := (hg.block r (Array.getElem?_eq_some_iff.1 hb).1 (by simp)).trans hb
    exact ⟨hg.block _ hpr5 (by simp), ⟨_, by simp [World.cell?, hh]; rfl⟩, ⟨_, by simp [World.cell?, hh]; rfl⟩, by simp [World.frozen?, hh], by simp [World.frozen?, hh]⟩
  clear hd5
  go_wp2_with fail
  go_region_held3 (fun w' => w'.cell? ⟨p.r, 2, none⟩ = some (.slice pa qn pc) ∧ w'.cell? ⟨p.r, 3, none⟩ = some (.map (some p.lm)))
    (first | exact ⟨c2, c3⟩ | exact ⟨e2, e3⟩ | exact ⟨x2, x3⟩ | exact ⟨set_seen x2 hpr, set_seen x3 hpr⟩ | exact ⟨set_seen (set_seen x2 hpr) hpr, set_seen (set_seen x3 hpr) hpr⟩)
    (first
      | (go_at_call 41; ((with_reducible refine (CP.out _ (by first | exact grown_drewN w5 _ | exact grown_drew w5)).mono ?_)); rintro e w6 ⟨v3, rfl, hc6, hgc6⟩; obtain ⟨a3, k3, rfl, _, _⟩ := hc6.1.shape; have hg6 := ((grown_drew w5).trans hgc6); obtain ⟨hk6, _⟩ := KR.out _ hg6; have e2 := cell_same hk6 2 c2; have e3 := cell_same hk6 3 c3; clear hk6)
      | (go_at_call 42; ((with_reducible refine (CL.out _ (by first | exact hg6)).mono ?_)); rintro e w7 ⟨m4, rfl, hc7, hgc7⟩; have hg7 := (hg6.trans hgc7); obtain ⟨hk7, ⟨u2, y2⟩, ⟨u3, y3⟩, z2, z3⟩ := KR.out _ hg7; have x2 := cell_same hk7 2 c2; have x3 := cell_same hk7 3 c3; clear hk7))
  have hsz6 := hgc6.size
  have hsz7 := hgc7.size
  have hz6 : w5.heap.size ≤ w6.heap.size := hg6.size
  have gs : w7.grownBy ((w7.setCell ⟨r, 2, none⟩ (.slice a3 qn k3)).setCell ⟨r, 3, none⟩ (.map (some m4))) (some r) := (grownBy_setCell' _ _ _ _).trans (grownBy_setCell' _ _ _ _)
  have HGS := Lib.hid gs
  have HC6 := Lib.hid (hc6.kept (w' := w7) fun b _ hlt => hgc7.block b hlt (by simp))
  have HC7 := Lib.hid hc7
  have HG7 := Lib.hid hg7
  have HZ : Hid (w5.heap.size ≤ w6.heap.size ∧ w6.heap.size ≤ w7.heap.size) := ⟨hz6, hsz7⟩
  have K8 : Hid (∀ b, b < w.heap.size → ((w7.setCell ⟨r, 2, none⟩ (.slice a3 qn k3)).setCell ⟨r, 3, none⟩ (.map (some m4))).heap[b]? = w.heap[b]?) := fun b hlt => by
    obtain ⟨_, _, _, _, _, _, _, _, _, _, _, _, _, _, hbut⟩ := HH.out
    have h1 := HR.out
    have h2 := HZ1.out
    have h3 := hbut.size
    rw [gs.block b (by omega) (by intro e; cases e; omega), hg7.block b (by omega) (by simp), hbut.block b (by omega) (by omega), HG1.out.block b hlt (by simp)]
  have c7' := cell_same (K8.out p.r hlr) 7 H.out.cell.2.2.2.2.2.2.2
  rw [HKV.out, HKN.out] at c7'
  have HB8 : Hid (∃ b0 b1 b2 b3 b4 b5 b6 b7, ((w7.setCell ⟨r, 2, none⟩ (.slice a3 qn k3)).setCell ⟨r, 3, none⟩ (.map (some m4))).heap[r]? = some (.cells #[b0, b1, b2, b3, b4, b5, b6, b7] 56 (0, 0))) := by
    obtain ⟨_, _, _, _, _, _, hb, _⟩ := HH.out
    have hb7 : w7.heap[r]? = _ := (hg7.block r (Array.getElem?_eq_some_iff.1 hb).1 (by simp)).trans hb
    exact ⟨_, _, _, _, _, _, _, _, Lib.heap_setCell_same (i := 3) (Lib.heap_setCell_same (i := 2) hb7 _) _⟩
  have CK8 := Lib.hid (CK.out _ K8.out)
  obtain ⟨w8, hw8⟩ : ∃ w8, (w7.setCell ⟨r, 2, none⟩ (.slice a3 qn k3)).setCell ⟨r, 3, none⟩ (.map (some m4)) = w8 := ⟨_, rfl⟩
  rw [hw8] at c7' HB8 CK8 ⊢
  have HW8 := Lib.hid hw8
  clear hw8 gs hc6 hc7 hg7 hgc6 hgc7 hg6 hsz6 hsz7 hz6 e2 e3 y2 y3 z2 z3 x2 x3 c2 c3 c7 K8 HGS CK CP CL KR
  rename_i hheld
  clear hheld
  go_wp2_with fail
  refine CK8.out.mono ?_
  rintro e w9 ⟨v5, rfl, hc9, hg9⟩
  obtain ⟨a5, k5, rfl, _, _⟩ := hc9.1.shape
  have HFIN : Hid (Disk (fun b => w.heap.size ≤ b ∧ b < (w9.setCell ⟨r, 7, none⟩ (.slice a5 kn k5)).heap.size) r st (w9.setCell ⟨r, 7, none⟩ (.slice a5 kn k5)) ∧ w.grownBy (w9.setCell ⟨r, 7, none⟩ (.slice a5 kn k5)) none) := by
    have c6 := HC6.out
    have h8 := HW8.out
    subst h8
    have hq := HQN.out
    subst hq
    have hk := HKN.out
    subst hk
    have s1 := (grownBy_setCell' (w7.setCell ⟨r, 2, none⟩ (.slice a3 st.q.length k3)) r 3 (.map (some m4))).size
    have s2 := (grownBy_setCell' w7 r 2 (.slice a3 st.q.length k3)).size
    exact whole H.out HR.out HG1.out HZ1.out HH.out (Nat.le_refl _) (Nat.le_refl _) HG7.out c6 HC7.out HZ.out.1 HZ.out.2 (by omega) hg9 hc9
  have y9 : (∃ u, w9.cell? ⟨r, 7, none⟩ = some u) ∧ w9.frozen? ⟨r, 7, none⟩ = false := by
    obtain ⟨_, _, _, _, _, _, _, _, hb⟩ := HB8.out
    have hh : w9.heap[r]? = _ := (hg9.block r (Array.getElem?_eq_some_iff.1 hb).1 (by simp)).trans hb
    exact ⟨⟨_, by simp [World.cell?, hh]; rfl⟩, by simp [World.frozen?, hh]⟩
  obtain ⟨⟨u9, y9⟩, z9⟩ := y9
  clear hg9 hc9
  go_wp2_with fail
  go_ret
  exact ⟨r, rfl, HFIN.out.1, HFIN.out.2⟩
end Go.Proofs.Ytkphmkhdlkdphaa
