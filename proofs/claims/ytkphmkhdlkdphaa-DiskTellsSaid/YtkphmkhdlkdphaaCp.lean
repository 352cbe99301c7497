/- The contract of Copy: its parts. -/
import Derived.Test.YtkphmkhdlkdphaaW4
namespace Go.Proofs.Ytkphmkhdlkdphaa
open Go.RowKit Go.ChangeShapes Go.WideShapes
attribute [local go_sem ↓] Go.wp_at_zero Go.wp_at_succ

/-- A copy of files that lies in the blocks from A to B. -/
def CopF (l : Int → List UInt8) (A B m : Nat) (w' : World) : Prop :=
  ∃ g', A ≤ m ∧ m < B ∧ MapIs Try.prog 3 w' m (mapF g') ∧ (∀ n, OwnO w' (g' n) (l n)) ∧ (∀ n b, (g' n).bind blk = some b → A ≤ b ∧ b < B) ∧ (∀ n n' b, (g' n).bind blk = some b → (g' n').bind blk = some b → n = n') ∧ (∀ n, (g' n).bind blk ≠ some m)
def CopL (q : List (Int × Nat)) (A B m : Nat) (w' : World) : Prop := A ≤ m ∧ m < B ∧ MapIs Try.prog 69 w' m (setQ q)
def CopV (e size : Nat) (n : Nat) (xs : List Value) (A B : Nat) (v' : Value) (w' : World) : Prop := Own w' e size v' n xs ∧ ∀ b, blk v' = some b → A ≤ b ∧ b < B

theorem CopF.kept {l : Int → List UInt8} {A B m : Nat} {w w' : World} (h : CopF l A B m w) (hk : ∀ b, A ≤ b → b < B → w'.heap[b]? = w.heap[b]?) : CopF l A B m w' := by
  obtain ⟨g', h1, h2, h3, h4, h5, h6, h7⟩ := h
  exact ⟨g', h1, h2, h3.kept (hk m h1 h2), fun n => (h4 n).kept fun b hb => hk b (h5 n b hb).1 (h5 n b hb).2, h5, h6, h7⟩
theorem CopL.kept {q : List (Int × Nat)} {A B m : Nat} {w w' : World} (h : CopL q A B m w) (hk : ∀ b, A ≤ b → b < B → w'.heap[b]? = w.heap[b]?) : CopL q A B m w' :=
  ⟨h.1, h.2.1, h.2.2.kept (hk m h.1 h.2.1)⟩
theorem CopV.kept {e size n : Nat} {xs : List Value} {A B : Nat} {v' : Value} {w w' : World} (h : CopV e size n xs A B v' w) (hk : ∀ b, A ≤ b → b < B → w'.heap[b]? = w.heap[b]?) : CopV e size n xs A B v' w' :=
  ⟨h.1.kept fun b hb => hk b (h.2 b hb).1 (h.2 b hb).2, h.2⟩

theorem copF_any {S : Nat → Prop} {p : Rep} {st : St} {w : World} (h : IsD S p st w) :
    Calls Try.prog 40 #[.map (some p.fm)] w fun e w' => ∃ m, e = .returned (.map (some m)) ∧ CopF st.now w.heap.size w'.heap.size m w' ∧ w.grownBy w' none := by
  refine (copyFiles_any p.fm p.fv st.now w (h.holds .fm) (fun n => h.holds (.f n)) h.wf.len).mono ?_
  rintro e w' ⟨m, g', rfl, h1, h2, h3, h4, h5, h6⟩
  exact ⟨m, rfl, ⟨g', h1, h2.lt, h2, h3, fun n b hb => ⟨h4 n b hb, (h3 n).lt b hb⟩, h5, fun n e => by
    cases hg : g' n with
    | none => rw [hg] at e; cases e
    | some v => 
      have := h3 n
      rw [hg] at this e
      exact Own.ne_map (show Own w' 5 1 v _ _ from this) h2 e⟩, h6⟩
theorem copD_any {S : Nat → Prop} {p : Rep} {st : St} {w : World} (h : IsD S p st w) :
    Calls Try.prog 40 #[.map (some p.dm)] w fun e w' => ∃ m, e = .returned (.map (some m)) ∧ CopF st.dur w.heap.size w'.heap.size m w' ∧ w.grownBy w' none := by
  refine (copyFiles_any p.dm p.dv st.dur w (h.holds .dm) (fun n => h.holds (.d n)) (fun n => Nat.le_trans (h.wf.dl n) (h.wf.len n))).mono ?_
  rintro e w' ⟨m, g', rfl, h1, h2, h3, h4, h5, h6⟩
  exact ⟨m, rfl, ⟨g', h1, h2.lt, h2, h3, fun n b hb => ⟨h4 n b hb, (h3 n).lt b hb⟩, h5, fun n e => by
    cases hg : g' n with
    | none => rw [hg] at e; cases e
    | some v => 
      have := h3 n
      rw [hg] at this e
      exact Own.ne_map (show Own w' 5 1 v _ _ from this) h2 e⟩, h6⟩
theorem copL_any {S : Nat → Prop} {p : Rep} {st : St} {w : World} (h : IsD S p st w) :
    Calls Try.prog 42 #[.map (some p.lm)] w fun e w' => ∃ m, e = .returned (.map (some m)) ∧ CopL st.q w.heap.size w'.heap.size m w' ∧ w.grownBy w' none := by
  obtain ⟨es, clock, hb, hk⟩ := MapIs.entries (h.holds .lm)
  refine (mclone42 p.lm es clock w hb).mono ?_
  rintro e w' ⟨rfl, rfl⟩
  exact ⟨_, rfl, ⟨Nat.le_refl _, by simp, hk _ _ (MapKept.heap_alloc w _).1⟩, World.grownBy_alloc _ _ _⟩
theorem copP_any {S : Nat → Prop} {p : Rep} {st : St} {w : World} (h : IsD S p st w) :
    Calls Try.prog 41 #[p.pv] w fun e w' => ∃ v', e = .returned v' ∧ CopV 69 2 st.q.length (cellsQ st.q) w.heap.size w'.heap.size v' w' ∧ w.grownBy w' none := by
  have ho : Own w 69 2 p.pv st.q.length (cellsQ st.q) := h.holds .pv
  have ho2 : Own (w.alloc (.cells #[] 69)) 69 2 p.pv st.q.length (cellsQ st.q) := ho.grown0 (World.grownBy_alloc _ _ _)
  have hs := ho2.src (P := Try.prog) (tx := 54) (e' := 69) Try.underlying54 (fun u hu => by
    unfold cellsQ at hu
    obtain ⟨x, _, hx⟩ := List.mem_flatMap.1 hu
    simp at hx
    rcases hx with rfl | rfl <;> rfl)
  obtain ⟨a, cap, e, _, _⟩ := ho.shape
  have hq := h.wf.qlen
  rw [e] at hs ho ⊢
  refine (clone41 a _ cap _ w (by omega) (fun ha => by
    subst ha
    rcases ho.2 with ⟨b, he, h0⟩ | ⟨g, c, cur, he, _⟩
    · exact h0
    · cases he) hs).mono ?_
  rintro e w' ⟨v', rfl, h1, h2, h3⟩
  exact ⟨v', rfl, ⟨h1, fun b hb => ⟨h3 b hb, h1.lt b hb⟩⟩, h2⟩
theorem copK_any {S : Nat → Prop} {p : Rep} {st : St} {w : World} (h : IsD S p st w) :
    Calls Try.prog 43 #[p.kv] w fun e w' => ∃ v', e = .returned v' ∧ CopV 3 1 st.keep.length (st.keep.map (Value.int .i64 ·)) w.heap.size w'.heap.size v' w' ∧ w.grownBy w' none := by
  have ho : Own w 3 1 p.kv st.keep.length (st.keep.map (Value.int .i64 ·)) := h.holds .kv
  have ho2 : Own (w.alloc (.cells #[] 3)) 3 1 p.kv st.keep.length (st.keep.map (Value.int .i64 ·)) := ho.grown0 (World.grownBy_alloc _ _ _)
  have hs := ho2.src (P := Try.prog) (tx := 31) (e' := 3) Try.underlying31 (fun u hu => by
    obtain ⟨x, _, rfl⟩ := List.mem_map.1 hu
    rfl)
  obtain ⟨a, cap, e, _, _⟩ := ho.shape
  have hq := h.wf.keep.1
  rw [e] at hs ho ⊢
  refine (clone43 a _ cap _ w (by omega) (fun ha => by
    subst ha
    rcases ho.2 with ⟨b, he, h0⟩ | ⟨g, c, cur, he, _⟩
    · exact h0
    · cases he) hs).mono ?_
  rintro e w' ⟨v', rfl, h1, h2, h3⟩
  exact ⟨v', rfl, ⟨h1, fun b hb => ⟨h3 b hb, h1.lt b hb⟩⟩, h2⟩

/-- The copies of the parts are a disk. -/
theorem copy_fin {st : St} {w : World} {r m1 m2 m4 A1 B1 A2 B2 A3 B3 A4 B4 A5 B5 Z : Nat} {v3 v5 : Value} (hwf : WF st)
    (hr : w.heap[r]? = some (.cells #[.map (some m1), .map (some m2), v3, .map (some m4), .bool st.down, .int .i64 st.lost, .int .i64 st.calls, v5] 56 (0, 0)))
    (h1 : CopF st.now A1 B1 m1 w) (h2 : CopF st.dur A2 B2 m2 w) (h3 : CopV 69 2 st.q.length (cellsQ st.q) A3 B3 v3 w) (h4 : CopL st.q A4 B4 m4 w) (h5 : CopV 3 1 st.keep.length (st.keep.map (Value.int .i64 ·)) A5 B5 v5 w)
    (hz : Z ≤ r ∧ r < A1 ∧ r < A2 ∧ r < A3 ∧ r < A4 ∧ r < A5 ∧ B1 ≤ w.heap.size ∧ B2 ≤ w.heap.size ∧ B3 ≤ w.heap.size ∧ B4 ≤ w.heap.size ∧ B5 ≤ w.heap.size ∧ r < w.heap.size)
    (hd : (B1 ≤ A2 ∨ B2 ≤ A1) ∧ B1 ≤ A3 ∧ B1 ≤ A4 ∧ B1 ≤ A5 ∧ B2 ≤ A3 ∧ B2 ≤ A4 ∧ B2 ≤ A5 ∧ (B3 ≤ A4 ∨ B4 ≤ A3) ∧ B3 ≤ A5 ∧ B4 ≤ A5) :
    Disk (fun b => Z ≤ b ∧ b < w.heap.size) r st w := by
  obtain ⟨g1, a1, b1, M1, O1, I1, J1, N1⟩ := h1
  obtain ⟨g2, a2, b2, M2, O2, I2, J2, N2⟩ := h2
  obtain ⟨O3, I3⟩ := h3
  obtain ⟨a4, b4, M4⟩ := h4
  obtain ⟨O5, I5⟩ := h5
  obtain ⟨z0, z1, z2, z3, z4, z5, s1, s2, s3, s4, s5, s6⟩ := hz
  obtain ⟨d1, d2, d3, d4, d5, d6, d7, d8, d9, d10⟩ := hd
  have bd : ∀ s b, Rep.at ⟨r, m1, m2, m4, v3, v5, g1, g2⟩ s = some b → match s with
      | .r => b = r
      | .fm => b = m1 | .dm => b = m2 | .lm => b = m4
      | .pv => A3 ≤ b ∧ b < B3
      | .kv => A5 ≤ b ∧ b < B5
      | .f n => (A1 ≤ b ∧ b < B1) ∧ b ≠ m1
      | .d n => (A2 ≤ b ∧ b < B2) ∧ b ≠ m2 := fun s b e => by
    cases s with
    | r => exact (Option.some.inj e).symm
    | fm => exact (Option.some.inj e).symm
    | dm => exact (Option.some.inj e).symm
    | lm => exact (Option.some.inj e).symm
    | pv => exact I3 b e
    | kv => exact I5 b e
    | f n => exact ⟨I1 n b e, fun h => N1 n (by rw [← h]; exact e)⟩
    | d n => exact ⟨I2 n b e, fun h => N2 n (by rw [← h]; exact e)⟩
  refine ⟨⟨r, m1, m2, m4, v3, v5, g1, g2⟩, rfl, fun s => ?_, fun s s' b e1 e2 => ?_, fun s b e1 => ?_, hwf⟩
  · cases s with
    | r => exact hr
    | fm => exact M1
    | dm => exact M2
    | lm => exact M4
    | pv => exact O3
    | kv => exact O5
    | f n => exact O1 n
    | d n => exact O2 n
  · have x1 := bd s b e1
    have x2 := bd s' b e2
    cases s <;> cases s' <;> simp only at x1 x2 <;> first | rfl | (exfalso; omega) | (rw [J1 _ _ b e1 e2]) | (rw [J2 _ _ b e1 e2])
  · have x1 := bd s b e1
    cases s <;> simp only at x1 <;> exact ⟨by omega, by omega⟩
end Go.Proofs.Ytkphmkhdlkdphaa
