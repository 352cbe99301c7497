/- Journal and reference side by side. -/
import Derived.Test.YtejddacjncpneaaGreatDoorJoK2
import Derived.Test.YtejddacjncpneaaGreatDoorJoL
set_option maxRecDepth 100000
namespace Go.Proofs.YtejddacjncpneaaGreatDoor.Jo
open Go.RowKit Go.WideShapes Go.ChangeShapes Di
open Wi (StrCells)

def TE (U E : Nat → Prop) (b : Nat) : Prop := U b ∨ E b
def KE (P X : World → Prop) (w : World) : Prop := P w ∧ X w
/-- What lies where: the reference's blocks, what is kept beside. -/
structure UE (B : Nat) (U E : Nat → Prop) (X : World → Prop) : Prop where
  ub : ∀ b, U b → B ≤ b
  ue : ∀ b, U b → ¬ E b
  xk : ∀ w, X w → Keeps E X w
section
variable {B r q : Nat} {st st' st2 : St} {f : Int} {jb kb : Nat} {R R' : List ByteArray} {bad bad' : Bool} {v lv : Value} {U E E' : Nat → Prop} {P P' X X' : World → Prop} {w w' : World}
theorem keeps_rj (h : RJ U q st f kb R bad lv w) : Keeps U (RJ U q st f kb R bad lv) w := fun _ hb => h.kept fun b hs _ => hb b hs
theorem keeps_rd (h : RD U q st w) : Keeps U (RD U q st) w := fun _ hb => h.kept fun b hs _ => hb b hs
theorem UE.grew (h : UE B U E X) (hB : B ≤ w.heap.size) (hE : ∀ b, E b → b < w.heap.size) : UE B (Grew U w w') E X :=
  ⟨fun b hb => hb.elim (h.ub b) fun hh => by omega, fun b hb he => hb.elim (fun hu => h.ue b hu he) fun hh => by have := hE b he; omega, h.xk⟩
theorem JK.ref (h : JK B r st f jb R bad v (TE U E) (KE P X) w) (hu : UE B U E X) (hb : But U w w') (hP : Keeps (Grew U w w') P' w') : JK B r st f jb R bad v (TE (Grew U w w') E) (KE P' X) w' := by
  have hX := hu.xk w h.keeps.self.2
  refine h.turn hb.size (fun b hlt hn => hb.block b hlt fun hU => hn (.inl hU)) (fun b hb' => ?_) (hP.and (hX.step fun b he => hb.block b (h.T_lt (.inr he)) fun hU => hu.ue b hU he))
  rcases hb' with (hb' | ⟨h1, h2⟩) | hb'
  · exact ⟨.inl (.inl hb'), Nat.lt_of_lt_of_le (h.T_lt (.inl hb')) hb.size⟩
  · exact ⟨.inr h1, h2⟩
  · exact ⟨.inl (.inr hb'), Nat.lt_of_lt_of_le (h.T_lt (.inr hb')) hb.size⟩
theorem DK.ref (h : DK B r st (TE U E) (KE P X) w) (hu : UE B U E X) (hb : But U w w') (hP : Keeps (Grew U w w') P' w') : DK B r st (TE (Grew U w w') E) (KE P' X) w' := by
  have hX := hu.xk w h.keeps.self.2
  refine h.turn hb.size (fun b hlt hn => hb.block b hlt fun hU => hn (.inl hU)) (fun b hb' => ?_) (hP.and (hX.step fun b he => hb.block b (h.T_lt (.inr he)) fun hU => hu.ue b hU he))
  rcases hb' with (hb' | ⟨h1, h2⟩) | hb'
  · exact ⟨.inl (.inl hb'), Nat.lt_of_lt_of_le (h.T_lt (.inl hb')) hb.size⟩
  · exact ⟨.inr h1, h2⟩
  · exact ⟨.inl (.inr hb'), Nat.lt_of_lt_of_le (h.T_lt (.inr hb')) hb.size⟩
/-- A journal is opened at the reference, too. -/
theorem same_refl (w : World) : Same w w := ⟨Nat.le_refl _, fun _ _ => rfl⟩

/-- No journals. -/
def Bn (B r q : Nat) (st' st : St) (E : Nat → Prop) (X : World → Prop) (w : World) : Prop := ∃ U, UE B U E X ∧ DK B r st' (TE U E) (KE (RD U q st) X) w
/-- A journal here, none there yet. -/
def Bh (B r q : Nat) (st' st : St) (jb : Nat) (R : List ByteArray) (bad : Bool) (E : Nat → Prop) (X : World → Prop) (w : World) : Prop := ∃ U v, UE B U E X ∧ JK B r st' 3 jb R bad v (TE U E) (KE (RD U q st) X) w
/-- Both journals. -/
def Bj (B r q : Nat) (st' st : St) (jb kb : Nat) (R' : List ByteArray) (bad' : Bool) (R : List ByteArray) (bad : Bool) (E : Nat → Prop) (X : World → Prop) (w : World) : Prop :=
  ∃ U v lv, UE B U E X ∧ JK B r st' 3 jb R' bad' v (TE U E) (KE (RJ U q st 3 kb R bad lv) X) w

theorem Bn.x (h : Bn B r q st' st E X w) : X w := by
  obtain ⟨U, _, h⟩ := h
  exact h.kept.2
theorem Bj.x (h : Bj B r q st' st jb kb R' bad' R bad E X w) : X w := by
  obtain ⟨U, v, lv, _, h⟩ := h
  exact h.keeps.self.2
theorem Bh.x (h : Bh B r q st' st jb R bad E X w) : X w := by
  obtain ⟨U, v, _, h⟩ := h
  exact h.keeps.self.2
theorem Bn.swapE (h : Bn B r q st' st E X w) (hs : Same w w') (hE' : ∀ b, E' b → (E b ∨ w.heap.size ≤ b) ∧ b < w'.heap.size) (hX' : X' w') (hxk : ∀ w, X' w → Keeps E' X' w) : Bn B r q st' st E' X' w' := by
  obtain ⟨U, hu, h⟩ := h
  refine ⟨U, ⟨hu.ub, fun b hb he => (hE' b he).1.elim (hu.ue b hb) fun hh => by have := h.T_lt (.inl hb); omega, hxk⟩, h.swap hs (fun b hb => ?_) ((keeps_rd (h.kept.1.same hs)).and (hxk _ hX'))⟩
  rcases hb with hb | hb
  · exact ⟨.inl (.inl hb), Nat.lt_of_lt_of_le (h.T_lt (.inl hb)) hs.1⟩
  · exact ⟨(hE' b hb).1.imp .inr id, (hE' b hb).2⟩
theorem Bj.swapE (h : Bj B r q st' st jb kb R' bad' R bad E X w) (hs : Same w w') (hE' : ∀ b, E' b → (E b ∨ w.heap.size ≤ b) ∧ b < w'.heap.size) (hX' : X' w') (hxk : ∀ w, X' w → Keeps E' X' w) : Bj B r q st' st jb kb R' bad' R bad E' X' w' := by
  obtain ⟨U, v, lv, hu, h⟩ := h
  refine ⟨U, v, lv, ⟨hu.ub, fun b hb he => (hE' b he).1.elim (hu.ue b hb) fun hh => by have := h.T_lt (.inl hb); omega, hxk⟩, h.swap hs (fun b hb => ?_) ((keeps_rj (h.keeps.self.1.same hs)).and (hxk _ hX'))⟩
  rcases hb with hb | hb
  · exact ⟨.inl (.inl hb), Nat.lt_of_lt_of_le (h.T_lt (.inl hb)) hs.1⟩
  · exact ⟨(hE' b hb).1.imp .inr id, (hE' b hb).2⟩
theorem Bj.bn (h : Bj B r q st' st jb kb R' bad' R bad E X w) : Bn B r q st' st E X w := by
  obtain ⟨U, v, lv, hu, h⟩ := h
  have hk := h.keeps.self
  exact ⟨U, hu, h.toDK.swap (same_refl w) (fun b hb => ⟨.inl hb, h.T_lt hb⟩) ((keeps_rd hk.1.rd).and (hu.xk w hk.2))⟩
/-- The reference's disk is called. -/
theorem Bn.rcall {g : FuncId} {args : Array Value} {x : Value} (h : Bn B r q st' st E X w) (hB : B ≤ w.heap.size) (hc : ∀ S0 fv qv kv a, (∀ b, S0 b → B ≤ b) → RIs S0 q fv qv kv a w → Rel a st → Calls Tryz.prog g args w (RPost S0 q st2 w x)) :
    Calls Tryz.prog g args w fun e w' => e = .returned x ∧ Bn B r q st' st2 E X w' ∧ Ov B w w' := by
  obtain ⟨U, hu, h⟩ := h
  exact (h.kept.1.call fun fv qv kv a => hc U fv qv kv a hu.ub).mono fun e w' ⟨e1, e2, e3⟩ => ⟨e1, ⟨_, hu.grew hB (fun b he => h.T_lt (.inr he)), h.ref hu e3 (keeps_rd e2)⟩, e3.mono hu.ub⟩
theorem Bj.rcall {g : FuncId} {args : Array Value} {x : Value} (h : Bj B r q st' st jb kb R' bad' R bad E X w) (hB : B ≤ w.heap.size) (hc : ∀ S0 fv qv kv a, (∀ b, S0 b → B ≤ b) → RIs S0 q fv qv kv a w → Rel a st → Calls Tryz.prog g args w (RPost S0 q st2 w x)) :
    Calls Tryz.prog g args w fun e w' => e = .returned x ∧ Bj B r q st' st2 jb kb R' bad' R bad E X w' ∧ Ov B w w' := by
  obtain ⟨U, v, lv, hu, h⟩ := h
  exact (h.keeps.self.1.call fun S0 fv qv kv a hs => hc S0 fv qv kv a fun b hb => hu.ub b (hs b hb)).mono fun e w' ⟨e1, e2, e3⟩ => ⟨e1, ⟨_, _, _, hu.grew hB (fun b he => h.T_lt (.inr he)), h.ref hu e3 (keeps_rj e2)⟩, e3.mono hu.ub⟩
theorem Bj.app (h : Bj B r q st st jb kb R bad R bad E X w) (hB : B ≤ w.heap.size) (he : Wi.Env w) (x : ByteArray) (hx : x.size ≤ 9223372036854775807) (hL : (forms R).length ≤ 100000000) :
    Calls Tryz.prog 12 #[.pointer (some ⟨jb, 0, none⟩), .string x] w fun e w' => e = .returned (.int .i64 (appC st 3 R bad x)) ∧ Bj B r q (appS st 3 R bad x) st jb kb (appR st 3 R bad x) (appB st 3 R bad x) R bad E X w' ∧ Ov B w w' := by
  obtain ⟨U, v, lv, hu, h⟩ := h
  exact (append_any h hB he x hx (by omega) hL).mono fun e w' ⟨e1, ⟨v', e2⟩, e3⟩ => ⟨e1, ⟨U, v', lv, hu, e2⟩, e3⟩
theorem Bj.rapp (h : Bj B r q st' st jb kb R' bad' R bad E X w) (hB : B ≤ w.heap.size) (x : ByteArray) (hx : x.size ≤ 20000) (hL : (forms R).length + (form x).length ≤ 1048576) (hsm : Small R) :
    Calls Tryz.prog 13 #[.pointer (some ⟨kb, 0, none⟩), .string x] w fun e w' => e = .returned (.int .i64 (appC st 3 R bad x)) ∧ Bj B r q st' (appS st 3 R bad x) jb kb R' bad' (appR st 3 R bad x) (appB st 3 R bad x) E X w' ∧ Ov B w w' := by
  obtain ⟨U, v, lv, hu, h⟩ := h
  exact (appendK h.keeps.self.1 x hx hL hsm).mono fun e w' ⟨e1, ⟨v', e2⟩, e3⟩ => ⟨e1, ⟨_, _, v', hu.grew hB (fun b he => h.T_lt (.inr he)), h.ref hu e3 (keeps_rj e2)⟩, e3.mono hu.ub⟩
theorem Bj.sync (h : Bj B r q st st jb kb R bad R bad E X w) (hB : B ≤ w.heap.size) :
    Calls Tryz.prog 14 #[.pointer (some ⟨jb, 0, none⟩)] w fun e w' => e = .returned (.int .i64 (syC st 3 bad)) ∧ Bj B r q (syS st 3 bad) st jb kb R (syB st 3 bad) R bad E X w' ∧ Ov B w w' := by
  obtain ⟨U, v, lv, hu, h⟩ := h
  exact (sync_any' h hB (by omega)).mono fun e w' ⟨e1, e2, e3⟩ => ⟨e1, ⟨U, v, lv, hu, e2⟩, e3⟩
theorem Bj.rsync (h : Bj B r q st' st jb kb R' bad' R bad E X w) (hB : B ≤ w.heap.size) :
    Calls Tryz.prog 15 #[.pointer (some ⟨kb, 0, none⟩)] w fun e w' => e = .returned (.int .i64 (syC st 3 bad)) ∧ Bj B r q st' (syS st 3 bad) jb kb R' bad' R (syB st 3 bad) E X w' ∧ Ov B w w' := by
  obtain ⟨U, v, lv, hu, h⟩ := h
  exact (syncK h.keeps.self.1).mono fun e w' ⟨e1, e2, e3⟩ => ⟨e1, ⟨_, _, _, hu.grew hB (fun b he => h.T_lt (.inr he)), h.ref hu e3 (keeps_rj e2)⟩, e3.mono hu.ub⟩
/-- Open here. -/
theorem Bn.opens (h : Bn B r q st st E X w) (hB : B ≤ w.heap.size) (hB6 : 6 ≤ B) (he : Wi.Env w) :
    Calls Tryz.prog 8 #[.pointer (some ⟨r, 0, none⟩), .int .i64 3] w fun e w' => Ov B w w' ∧ ((opC st 3 ≠ 0 ∧ e = .returned (.tuple #[.pointer none, .int .i64 (opC st 3)]) ∧ Bn B r q (opS st 3) st E X w') ∨
      (opC st 3 = 0 ∧ ∃ jb, e = .returned (.tuple #[.pointer (some ⟨jb, 0, none⟩), .int .i64 0]) ∧ Bh B r q (opS st 3) st jb (opR st 3) false E X w')) := by
  obtain ⟨U, hu, h⟩ := h
  refine (open_any h hB hB6 he (f := 3) (by omega)).mono fun e w' ⟨ho, hh⟩ => ⟨ho, hh.imp (fun ⟨e1, e2, e3⟩ => ⟨e1, e2, U, hu, e3⟩) fun ⟨e1, jb, v, e2, e3⟩ => ⟨e1, jb, e2, U, v, hu, e3⟩⟩
/-- Open at the reference. -/
theorem Bn.ropens (h : Bn B r q st' st E X w) (hB : B ≤ w.heap.size) (hc : opC st 3 ≠ 0) :
    Calls Tryz.prog 9 #[.pointer (some ⟨q, 0, none⟩), .int .i64 3] w fun e w' => Ov B w w' ∧ e = .returned (.tuple #[.pointer none, .int .i64 (opC st 3)]) ∧ Bn B r q st' (opS st 3) E X w' := by
  obtain ⟨U, hu, h⟩ := h
  refine (openK h.kept.1 3 (by decide)).mono fun e w' ⟨hb, hh⟩ => ⟨hb.mono hu.ub, ?_⟩
  rcases hh with ⟨_, e2, e3⟩ | ⟨e1, _⟩
  · exact ⟨e2, _, hu.grew hB (fun b he => h.T_lt (.inr he)), h.ref hu hb (keeps_rd e3)⟩
  · exact absurd e1 hc
theorem Bh.ropens (h : Bh B r q st' st jb R' bad' E X w) (hB : B ≤ w.heap.size) (hc : opC st 3 = 0) :
    Calls Tryz.prog 9 #[.pointer (some ⟨q, 0, none⟩), .int .i64 3] w fun e w' => Ov B w w' ∧ ∃ kb, e = .returned (.tuple #[.pointer (some ⟨kb, 0, none⟩), .int .i64 0]) ∧ Bj B r q st' (opS st 3) jb kb R' bad' (opR st 3) false E X w' := by
  obtain ⟨U, v, hu, h⟩ := h
  refine (openK h.keeps.self.1 3 (by decide)).mono fun e w' ⟨hb, hh⟩ => ⟨hb.mono hu.ub, ?_⟩
  rcases hh with ⟨e1, _⟩ | ⟨_, kb, lv, e2, e3⟩
  · exact absurd hc e1
  · exact ⟨kb, e2, _, v, lv, hu.grew hB (fun b he => h.T_lt (.inr he)), h.ref hu hb (keeps_rj e3)⟩
/-- The disk is called. -/
theorem Bn.call {g : FuncId} {args : Array Value} {x : Value} (h : Bn B r q st st2 E X w) (hB : B ≤ w.heap.size) (hc : ∀ S p, p.r = r → IsD S p st w → (∀ b, S b → B ≤ b) → Calls Tryz.prog g args w fun e w' => e = .returned x ∧ Af S r st' w w') :
    Calls Tryz.prog g args w fun e w' => e = .returned x ∧ Bn B r q st' st2 E X w' ∧ Ov B w w' := by
  obtain ⟨U, hu, h⟩ := h
  exact (h.call (st' := st') (v := x) hB hc).mono fun e w' ⟨e1, e2, e3⟩ => ⟨e1, ⟨U, hu, e2⟩, e3⟩
theorem Bj.call {g : FuncId} {args : Array Value} {x : Value} (h : Bj B r q st st2 jb kb R' bad' R bad E X w) (hB : B ≤ w.heap.size) (hc : ∀ S p, p.r = r → IsD S p st w → (∀ b, S b → B ≤ b) → Calls Tryz.prog g args w fun e w' => e = .returned x ∧ Af S r st' w w') :
    Calls Tryz.prog g args w fun e w' => e = .returned x ∧ Bj B r q st' st2 jb kb R' bad' R bad E X w' ∧ Ov B w w' := by
  obtain ⟨U, v, lv, hu, h⟩ := h
  exact (h.call (st' := st') (x := x) hB hc).mono fun e w' ⟨e1, e2, e3⟩ => ⟨e1, ⟨U, v, lv, hu, e2⟩, e3⟩
end

def Nn (_ : Nat) : Prop := False
def Tt (_ : World) : Prop := True
def Eo (ob b : Nat) : Prop := b = ob
def Xo (ob : Nat) (x : Option Obj) (w : World) : Prop := w.heap[ob]? = x
theorem nn_keeps (w : World) (_ : Tt w) : Keeps Nn Tt w := fun _ _ => trivial
theorem xo_keeps (ob : Nat) (x : Option Obj) (w : World) (h : Xo ob x w) : Keeps (Eo ob) (Xo ob x) w := fun _ hb => (hb ob rfl).trans h

/-- Both sides, with or without journals. -/
def Bm (B r q : Nat) (st : St) (j k : Value) (A : List ByteArray) (E : Nat → Prop) (X : World → Prop) (w : World) : Prop :=
  (j = .pointer none ∧ k = .pointer none ∧ Bn B r q st st E X w) ∨ ∃ jb kb R bad, j = .pointer (some ⟨jb, 0, none⟩) ∧ k = .pointer (some ⟨kb, 0, none⟩) ∧ Bj B r q st st jb kb R bad R bad E X w ∧ JR st 3 R bad A
theorem Bm.swapE {B r q : Nat} {st : St} {j k : Value} {A : List ByteArray} {E E' : Nat → Prop} {X X' : World → Prop} {w w' : World} (h : Bm B r q st j k A E X w) (hs : Same w w') (hE' : ∀ b, E' b → (E b ∨ w.heap.size ≤ b) ∧ b < w'.heap.size) (hX' : X' w') (hxk : ∀ w, X' w → Keeps E' X' w) : Bm B r q st j k A E' X' w' := by
  rcases h with ⟨e1, e2, h⟩ | ⟨jb, kb, R, bad, e1, e2, h, hr⟩
  · exact .inl ⟨e1, e2, h.swapE hs hE' hX' hxk⟩
  · exact .inr ⟨jb, kb, R, bad, e1, e2, h.swapE hs hE' hX' hxk, hr⟩
theorem Bm.enter {B r q : Nat} {st : St} {j k : Value} {A : List ByteArray} {w : World} (h : Bm B r q st j k A Nn Tt w) (cs : Array Value) (t : TypeId) :
    Bm B r q st j k A (Eo w.heap.size) (Xo w.heap.size (some (.cells cs t (0, 0)))) (w.alloc (.cells cs t)) :=
  h.swapE (same_grown (World.grownBy_alloc _ _ _)) (fun b hb => by rw [show b = w.heap.size from hb]; exact ⟨.inr (Nat.le_refl _), by simp⟩) (heap_alloc_new _ _) (xo_keeps _ _)
theorem Bm.leave {B r q ob : Nat} {st : St} {j k : Value} {A : List ByteArray} {x : Option Obj} {w : World} (h : Bm B r q st j k A (Eo ob) (Xo ob x) w) : Bm B r q st j k A Nn Tt w :=
  h.swapE (same_refl w) (fun _ hb => hb.elim) trivial nn_keeps
theorem Bm.bn {B r q : Nat} {st : St} {j k : Value} {A : List ByteArray} {E : Nat → Prop} {X : World → Prop} {w : World} (h : Bm B r q st j k A E X w) : Bn B r q st st E X w := by
  rcases h with ⟨_, _, h⟩ | ⟨jb, kb, R, bad, _, _, h, _⟩
  · exact h
  · exact h.bn
theorem xo_cells {ob : Nat} {w : World} {c0 c1 c2 c3 : Value} {t : TypeId} (h : Xo ob (some (.cells #[c0, c1, c2, c3] t (0, 0))) w) :
    w.cell? ⟨ob, 0, none⟩ = some c0 ∧ w.cell? ⟨ob, 1, none⟩ = some c1 ∧ w.cell? ⟨ob, 2, none⟩ = some c2 ∧ w.cell? ⟨ob, 3, none⟩ = some c3 := by
  have : w.heap[ob]? = _ := h
  simp [World.cell?, this]

/-- What holds at the head of a round. -/
structure LT (B r q n : Nat) (st : St) (j k : Value) (S A : List ByteArray) (w : World) : Prop where
  bm : Bm B r q st j k A Nn Tt w
  ji : JI st 3 S A
  sz : ∀ x ∈ A, x.size ≤ 200
  len : A.length ≤ n
  sm : Small S
theorem LT.same {B r q n : Nat} {st : St} {j k : Value} {S A : List ByteArray} {w w' : World} (h : LT B r q n st j k S A w) (hs : Same w w') : LT B r q n st j k S A w' :=
  ⟨h.bm.swapE hs (fun _ hb => hb.elim) trivial nn_keeps, h.ji, h.sz, h.len, h.sm⟩
theorem Bm.x {B r q : Nat} {st : St} {j k : Value} {A : List ByteArray} {E : Nat → Prop} {X : World → Prop} {w : World} (h : Bm B r q st j k A E X w) : X w := by
  rcases h with ⟨_, _, h⟩ | ⟨jb, kb, R, bad, _, _, h, _⟩
  · exact h.x
  · exact h.x
theorem xo_lt {ob : Nat} {o : Obj} {w : World} (h : Xo ob (some o) w) : ob < w.heap.size := (Array.getElem?_eq_some_iff.1 (show w.heap[ob]? = some o from h)).1
theorem Bm.sameO {B r q ob : Nat} {st : St} {j k : Value} {A : List ByteArray} {o : Obj} {w w' : World} (h : Bm B r q st j k A (Eo ob) (Xo ob (some o)) w) (hs : Same w w') : Bm B r q st j k A (Eo ob) (Xo ob (some o)) w' := by
  have hl := xo_lt h.x
  exact h.swapE hs (fun b hb => by rw [show b = ob from hb]; exact ⟨.inl rfl, Nat.lt_of_lt_of_le hl hs.1⟩) ((hs.2 ob hl).trans h.x) (xo_keeps _ _)
theorem new_relJ : Rel ⟨[], [], 0, false, 0, []⟩ St.new :=
  ⟨⟨⟨by simp, fun x hx => by cases hx⟩, fun f => rfl, fun f => rfl⟩, rfl, rfl, rfl, rfl, fun h => absurd rfl h, by simp, new_wf⟩
section
variable {B r q : Nat} {st st' st2 : St} {jb kb : Nat} {R R' : List ByteArray} {bad bad' : Bool} {E : Nat → Prop} {X : World → Prop} {w : World}
theorem Bn.crash (h : Bn B r q st st2 E X w) (hB : B ≤ w.heap.size) (x : Value) (ks : List Int) (hi : Ints w x ks) (hoff : ∀ b, Ints.off x b → b < B) (hk : ks.length ≤ 1000000000 ∧ ∀ x ∈ ks, -9223372036854775808 ≤ x ∧ x ≤ 9223372036854775807) :
    Calls Tryz.prog 20 #[.pointer (some ⟨r, 0, none⟩), x] w fun e w' => e = .returned (.tuple #[]) ∧ Bn B r q (Di.crash st ks) st2 E X w' ∧ Ov B w w' := by
  obtain ⟨U, hu, h⟩ := h
  exact (h.crash hB x ks hi hoff hk).mono fun e w' ⟨e1, e2, e3⟩ => ⟨e1, ⟨U, hu, e2⟩, e3⟩
theorem Bn.rcrash (h : Bn B r q st' st E X w) (hB : B ≤ w.heap.size) (x : Value) (ks : List Int) (hi : Ints w x ks) (hoff : ∀ b, Ints.off x b → b < B) (hk : ks.length ≤ 1000000000 ∧ ∀ x ∈ ks, -9223372036854775808 ≤ x ∧ x ≤ 9223372036854775807) :
    Calls Tryz.prog 21 #[.pointer (some ⟨q, 0, none⟩), x] w fun e w' => e = .returned (.tuple #[]) ∧ Bn B r q st' (Di.crash st ks) E X w' ∧ Ov B w w' :=
  h.rcall (st2 := Di.crash st ks) hB fun S0 _ _ _ _ hS k1 k2 => rcrash_any k1 k2 x ks hi hk fun b hb e => by have h1 := hoff b hb; have h2 := hS q k1.sr; omega
theorem Bn.start (h : Bn B r q st st2 E X w) (hB : B ≤ w.heap.size) :
    Calls Tryz.prog 22 #[.pointer (some ⟨r, 0, none⟩)] w fun e w' => e = .returned (.tuple #[]) ∧ Bn B r q (Di.start st) st2 E X w' ∧ Ov B w w' :=
  h.call (st' := Di.start st) hB fun S p hp hd _ => by subst hp; exact start_any hd
theorem Bn.rstart (h : Bn B r q st' st E X w) (hB : B ≤ w.heap.size) :
    Calls Tryz.prog 23 #[.pointer (some ⟨q, 0, none⟩)] w fun e w' => e = .returned (.tuple #[]) ∧ Bn B r q st' (Di.start st) E X w' ∧ Ov B w w' :=
  h.rcall (st2 := Di.start st) hB fun _ _ _ _ _ _ k1 k2 => rstart2_any k1 k2
theorem Bn.lose (h : Bn B r q st st2 E X w) (hB : B ≤ w.heap.size) (n : Int) (hn : -9223372036854775808 ≤ n ∧ n ≤ 9223372036854775807) :
    Calls Tryz.prog 16 #[.pointer (some ⟨r, 0, none⟩), .int .i64 n] w fun e w' => e = .returned (.tuple #[]) ∧ Bn B r q (Di.lose st n) st2 E X w' ∧ Ov B w w' :=
  h.call (st' := Di.lose st n) hB fun S p hp hd _ => by subst hp; exact lose_any hd n hn
theorem Bn.rlose (h : Bn B r q st' st E X w) (hB : B ≤ w.heap.size) (n : Int) (hn : -9223372036854775808 ≤ n ∧ n ≤ 9223372036854775807) :
    Calls Tryz.prog 17 #[.pointer (some ⟨q, 0, none⟩), .int .i64 n] w fun e w' => e = .returned (.tuple #[]) ∧ Bn B r q st' (Di.lose st n) E X w' ∧ Ov B w w' :=
  h.rcall (st2 := Di.lose st n) hB fun _ _ _ _ _ _ k1 k2 => rlose2_any k1 k2 n hn
theorem Bj.lose (h : Bj B r q st st2 jb kb R' bad' R bad E X w) (hB : B ≤ w.heap.size) (n : Int) (hn : -9223372036854775808 ≤ n ∧ n ≤ 9223372036854775807) :
    Calls Tryz.prog 16 #[.pointer (some ⟨r, 0, none⟩), .int .i64 n] w fun e w' => e = .returned (.tuple #[]) ∧ Bj B r q (Di.lose st n) st2 jb kb R' bad' R bad E X w' ∧ Ov B w w' :=
  h.call (st' := Di.lose st n) hB fun S p hp hd _ => by subst hp; exact lose_any hd n hn
theorem Bj.rlose (h : Bj B r q st' st jb kb R' bad' R bad E X w) (hB : B ≤ w.heap.size) (n : Int) (hn : -9223372036854775808 ≤ n ∧ n ≤ 9223372036854775807) :
    Calls Tryz.prog 17 #[.pointer (some ⟨q, 0, none⟩), .int .i64 n] w fun e w' => e = .returned (.tuple #[]) ∧ Bj B r q st' (Di.lose st n) jb kb R' bad' R bad E X w' ∧ Ov B w w' :=
  h.rcall (st2 := Di.lose st n) hB fun _ _ _ _ _ _ k1 k2 => rlose2_any k1 k2 n hn
theorem Bn.arm (h : Bn B r q st st2 E X w) (hB : B ≤ w.heap.size) (n : Int) (hn : -9223372036854775808 ≤ n ∧ n ≤ 9223372036854775807) (x : Value) (ks : List Int) (hi : Ints w x ks) (hk : ks.length ≤ 1000000000 ∧ ∀ x ∈ ks, -9223372036854775808 ≤ x ∧ x ≤ 9223372036854775807) :
    Calls Tryz.prog 18 #[.pointer (some ⟨r, 0, none⟩), .int .i64 n, x] w fun e w' => e = .returned (.tuple #[]) ∧ Bn B r q (Di.arm st n ks) st2 E X w' ∧ Ov B w w' :=
  h.call (st' := Di.arm st n ks) hB fun S p hp hd _ => by subst hp; exact arm_any hd n hn x ks hi hk
theorem Bn.rarm (h : Bn B r q st' st E X w) (hB : B ≤ w.heap.size) (n : Int) (hn : -9223372036854775808 ≤ n ∧ n ≤ 9223372036854775807) (x : Value) (ks : List Int) (hi : Ints w x ks) (hoff : ∀ b, Ints.off x b → b < B) (hk : ks.length ≤ 1000000000 ∧ ∀ x ∈ ks, -9223372036854775808 ≤ x ∧ x ≤ 9223372036854775807) :
    Calls Tryz.prog 19 #[.pointer (some ⟨q, 0, none⟩), .int .i64 n, x] w fun e w' => e = .returned (.tuple #[]) ∧ Bn B r q st' (Di.arm st n ks) E X w' ∧ Ov B w w' :=
  h.rcall (st2 := Di.arm st n ks) hB fun S0 _ _ _ _ hS k1 k2 => rarm_any k1 k2 n hn x ks hi hk fun b hb e => by have h1 := hoff b hb; have h2 := hS q k1.sr; omega
theorem Bj.arm (h : Bj B r q st st2 jb kb R' bad' R bad E X w) (hB : B ≤ w.heap.size) (n : Int) (hn : -9223372036854775808 ≤ n ∧ n ≤ 9223372036854775807) (x : Value) (ks : List Int) (hi : Ints w x ks) (hk : ks.length ≤ 1000000000 ∧ ∀ x ∈ ks, -9223372036854775808 ≤ x ∧ x ≤ 9223372036854775807) :
    Calls Tryz.prog 18 #[.pointer (some ⟨r, 0, none⟩), .int .i64 n, x] w fun e w' => e = .returned (.tuple #[]) ∧ Bj B r q (Di.arm st n ks) st2 jb kb R' bad' R bad E X w' ∧ Ov B w w' :=
  h.call (st' := Di.arm st n ks) hB fun S p hp hd _ => by subst hp; exact arm_any hd n hn x ks hi hk
theorem Bj.rarm (h : Bj B r q st' st jb kb R' bad' R bad E X w) (hB : B ≤ w.heap.size) (n : Int) (hn : -9223372036854775808 ≤ n ∧ n ≤ 9223372036854775807) (x : Value) (ks : List Int) (hi : Ints w x ks) (hoff : ∀ b, Ints.off x b → b < B) (hk : ks.length ≤ 1000000000 ∧ ∀ x ∈ ks, -9223372036854775808 ≤ x ∧ x ≤ 9223372036854775807) :
    Calls Tryz.prog 19 #[.pointer (some ⟨q, 0, none⟩), .int .i64 n, x] w fun e w' => e = .returned (.tuple #[]) ∧ Bj B r q st' (Di.arm st n ks) jb kb R' bad' R bad E X w' ∧ Ov B w w' :=
  h.rcall (st2 := Di.arm st n ks) hB fun S0 _ _ _ _ hS k1 k2 => rarm_any k1 k2 n hn x ks hi hk fun b hb e => by have h1 := hoff b hb; have h2 := hS q k1.sr; omega
end
end Go.Proofs.YtejddacjncpneaaGreatDoor.Jo
