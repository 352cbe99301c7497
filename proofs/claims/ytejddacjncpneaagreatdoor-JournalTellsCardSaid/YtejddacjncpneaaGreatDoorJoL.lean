/- The law JournalLasts, walked: it returns true, and turns nothing that was there. -/
import Derived.Test.YtejddacjncpneaaGreatDoorJoSt
import Derived.Deep.RegionLaw
set_option maxRecDepth 100000
namespace Go.Proofs.YtejddacjncpneaaGreatDoor.Jo
open Go.RowKit Go.WideShapes Go.ChangeShapes Di
open Wi (StrCells)

theorem JR.of {st st' : St} {f : Int} {R a : List ByteArray} {bad : Bool} (h : JR st f R bad a) (h1 : st'.now f = st.now f) : JR st' f R bad a :=
  ⟨fun hb => ⟨(h.good hb).1, h1.trans (h.good hb).2⟩, h.pre⟩
theorem app_cases {st : St} {f : Int} {R a : List ByteArray} {bad : Bool} {x : ByteArray} (hr : JR st f R bad a) (hf : isF f = true) (hx : x.size ≤ 200) (ha : ∀ x ∈ a, x.size ≤ 200) (hl : a.length ≤ 100) :
    (appC st f R bad x = 0 ∧ appR st f R bad x = R ++ [x]) ∨ (appC st f R bad x = 8 ∧ appR st f R bad x = R) ∨ (appC st f R bad x = 7 ∧ appR st f R bad x = R) := by
  cases bad
  · obtain ⟨rfl, hn⟩ := hr.good rfl
    have h1 := forms_len200 a ha
    have h2 := form_len200 hx
    have eC : appC st f a false x = writeR st f (forms a).length (form x) := by
      unfold appC; rw [if_neg (by simp), if_neg (by omega), if_neg (by omega)]
    unfold appR
    rw [eC]
    rcases writeR_end (st := st) (R := a) (x := x) hf (by omega) with e | ⟨e, _⟩
    · rw [e]; exact .inr (.inl ⟨rfl, rfl⟩)
    · rw [e]; exact .inl ⟨rfl, rfl⟩
  · exact .inr (.inr ⟨by simp [appC], by simp [appR, appC]⟩)

def T2 (a s : Value) (b : Nat) : Prop := blk a = some b ∨ blk s = some b
def K2 (a : Value) (A : List ByteArray) (s : Value) (S : List ByteArray) (w : World) : Prop := Own w 9 1 a A.length (A.map Value.string) ∧ Own w 9 1 s S.length (S.map Value.string)
theorem keeps_own {w : World} {v : Value} {n : Nat} {xs : List Value} (h : Own w 9 1 v n xs) : Keeps (fun b => blk v = some b) (fun w => Own w 9 1 v n xs) w := fun _ hb => h.kept hb
theorem keeps_blk {w : World} {b : Nat} {x : Option Obj} (h : w.heap[b]? = x) : Keeps (fun c => c = b) (fun w => w.heap[b]? = x) w := fun _ hb => (hb b rfl).trans h

/-- The disk, and perhaps a journal, beside what is kept. -/
def DJ (B r : Nat) (st : St) (j : Value) (A : List ByteArray) (T : Nat → Prop) (K : World → Prop) (w : World) : Prop :=
  (j = .pointer none ∧ DK B r st T K w) ∨ ∃ jb R bad v, j = .pointer (some ⟨jb, 0, none⟩) ∧ JK B r st 3 jb R bad v T K w ∧ JR st 3 R bad A
section
variable {B r : Nat} {st : St} {j : Value} {A : List ByteArray} {T T' : Nat → Prop} {K K' : World → Prop} {w w' : World}
theorem DJ.dk (h : DJ B r st j A T K w) : DK B r st T K w := by
  rcases h with ⟨_, h⟩ | ⟨jb, R, bad, v, _, h, _⟩
  · exact h
  · exact h.toDK
theorem DJ.swap (h : DJ B r st j A T K w) (hs : Same w w') (hT' : ∀ b, T' b → (T b ∨ w.heap.size ≤ b) ∧ b < w'.heap.size) (hK' : Keeps T' K' w') : DJ B r st j A T' K' w' := by
  rcases h with ⟨e, h⟩ | ⟨jb, R, bad, v, e, h, hr⟩
  · exact .inl ⟨e, h.swap hs hT' hK'⟩
  · exact .inr ⟨jb, R, bad, v, e, h.swap hs hT' hK', hr⟩
theorem DJ.lose (h : DJ B r st j A T K w) (hB : B ≤ w.heap.size) (n : Int) (hn : -9223372036854775808 ≤ n ∧ n ≤ 9223372036854775807) :
    Calls Tryz.prog 16 #[.pointer (some ⟨r, 0, none⟩), .int .i64 n] w fun e w' => e = .returned (.tuple #[]) ∧ DJ B r (Di.lose st n) j A T K w' ∧ Ov B w w' := by
  rcases h with ⟨e, h⟩ | ⟨jb, R, bad, v, e, h, hr⟩
  · exact (h.lose hB n hn).mono fun _ _ ⟨e1, e2, e3⟩ => ⟨e1, .inl ⟨e, e2⟩, e3⟩
  · exact (h.lose hB n hn).mono fun _ _ ⟨e1, e2, e3⟩ => ⟨e1, .inr ⟨jb, R, bad, v, e, e2, hr.of rfl⟩, e3⟩
theorem DJ.arm (h : DJ B r st j A T K w) (hB : B ≤ w.heap.size) (n : Int) (hn : -9223372036854775808 ≤ n ∧ n ≤ 9223372036854775807) (x : Value) (ks : List Int) (hi : Ints w x ks)
    (hk : ks.length ≤ 1000000000 ∧ ∀ x ∈ ks, -9223372036854775808 ≤ x ∧ x ≤ 9223372036854775807) :
    Calls Tryz.prog 18 #[.pointer (some ⟨r, 0, none⟩), .int .i64 n, x] w fun e w' => e = .returned (.tuple #[]) ∧ DJ B r (Di.arm st n ks) j A T K w' ∧ Ov B w w' := by
  rcases h with ⟨e, h⟩ | ⟨jb, R, bad, v, e, h, hr⟩
  · exact (h.call (st' := Di.arm st n ks) (v := .tuple #[]) hB fun S p hp hd _ => by subst hp; exact arm_any hd n hn x ks hi hk).mono fun _ _ ⟨e1, e2, e3⟩ => ⟨e1, .inl ⟨e, e2⟩, e3⟩
  · exact (h.call (st' := Di.arm st n ks) (x := .tuple #[]) hB fun S p hp hd _ => by subst hp; exact arm_any hd n hn x ks hi hk).mono fun _ _ ⟨e1, e2, e3⟩ => ⟨e1, .inr ⟨jb, R, bad, v, e, e2, hr.of rfl⟩, e3⟩
theorem DJ.keeps (h : DJ B r st j A T K w) : Keeps T K w := h.dk.keeps
theorem DJ.T_lt (h : DJ B r st j A T K w) {b : Nat} (hb : T b) : b < w.heap.size := h.dk.T_lt hb
end

/-- What holds at the head of a round. -/
structure LW (B r n : Nat) (st : St) (j a s : Value) (A S : List ByteArray) (w : World) : Prop where
  dj : DJ B r st j A (T2 a s) (K2 a A s S) w
  ji : JI st 3 S A
  sz : ∀ x ∈ A, x.size ≤ 200
  len : A.length ≤ n
  sm : Small S
  tb : ∀ b, T2 a s b → B ≤ b
theorem LW.mono {B r n m : Nat} {st : St} {j a s : Value} {A S : List ByteArray} {w : World} (h : LW B r n st j a s A S w) (hm : n ≤ m) : LW B r m st j a s A S w := ⟨h.dj, h.ji, h.sz, Nat.le_trans h.len hm, h.sm, h.tb⟩

theorem LW.same {B r n : Nat} {st : St} {j a s : Value} {A S : List ByteArray} {w w' : World} (h : LW B r n st j a s A S w) (hs : Same w w') : LW B r n st j a s A S w' :=
  ⟨h.dj.swap hs (fun _ hb => ⟨.inl hb, Nat.lt_of_lt_of_le (h.dj.T_lt hb) hs.1⟩) (h.dj.keeps.step fun b hb => hs.2 b (h.dj.T_lt hb)), h.ji, h.sz, h.len, h.sm, h.tb⟩

/-- In a round, beside the operation. -/
def TI (a s : Value) (ob b : Nat) : Prop := T2 a s b ∨ b = ob
def KI (a : Value) (A : List ByteArray) (s : Value) (S : List ByteArray) (ob : Nat) (x : Option Obj) (w : World) : Prop := K2 a A s S w ∧ w.heap[ob]? = x

theorem DJ.drop {B r : Nat} {st : St} {j : Value} {A : List ByteArray} {T T' : Nat → Prop} {K K' : World → Prop} {w : World} (h : DJ B r st j A T K w) (hT : ∀ b, T' b → T b) (hK : Keeps T' K' w) : DJ B r st j A T' K' w :=
  h.swap ⟨Nat.le_refl _, fun _ _ => rfl⟩ (fun b hb => ⟨.inl (hT b hb), h.T_lt (hT b hb)⟩) hK
theorem LW.enter {B r n : Nat} {st : St} {j a s : Value} {A S : List ByteArray} {w : World} (h : LW B r n st j a s A S w) (cs : Array Value) (t : TypeId) :
    DJ B r st j A (TI a s w.heap.size) (KI a A s S w.heap.size (some (.cells cs t (0, 0)))) (w.alloc (.cells cs t)) := by
  have hs : Same w (w.alloc (.cells cs t)) := same_grown (World.grownBy_alloc _ _ _)
  refine h.dj.swap hs (fun b hb => ?_) ((h.dj.keeps.step fun b hb => hs.2 b (h.dj.T_lt hb)).and (keeps_blk (heap_alloc_new _ _)))
  rcases hb with hb | rfl
  · exact ⟨.inl hb, Nat.lt_of_lt_of_le (h.dj.T_lt hb) hs.1⟩
  · exact ⟨.inr (Nat.le_refl _), by simp⟩
/-- The round ends. -/
theorem DJ.leave {B r : Nat} {st : St} {j a s : Value} {A S : List ByteArray} {ob : Nat} {x : Option Obj} {w : World} (h : DJ B r st j A (TI a s ob) (KI a A s S ob x) w) : DJ B r st j A (T2 a s) (K2 a A s S) w := by
  have hk := h.keeps.self
  exact h.drop (fun _ hb => .inl hb) ((keeps_own hk.1.1).and (keeps_own hk.1.2))
theorem ki_cells {a s : Value} {A S : List ByteArray} {ob : Nat} {w : World} {c0 c1 c2 c3 : Value} {t : TypeId} (h : KI a A s S ob (some (.cells #[c0, c1, c2, c3] t (0, 0))) w) :
    w.cell? ⟨ob, 0, none⟩ = some c0 ∧ w.cell? ⟨ob, 1, none⟩ = some c1 ∧ w.cell? ⟨ob, 2, none⟩ = some c2 ∧ w.cell? ⟨ob, 3, none⟩ = some c3 := by
  have := h.2
  simp [World.cell?, this]
/-- The list of the call's own beside a journal. -/
theorem JK.withRow {B r : Nat} {st : St} {f : Int} {jb : Nat} {R : List ByteArray} {bad : Bool} {v x : Value} {T : Nat → Prop} {K : World → Prop} {w w' : World} {n : Nat} {xs : List Value} (h : JK B r st f jb R bad v T K w) (hs : Same w w')
    (hown : Own w' 9 1 x n xs) (hbl : ∀ b, blk x = some b → w.heap.size ≤ b) : JK B r st f jb R bad v (fun b => T b ∨ blk x = some b) (fun w => K w ∧ Own w 9 1 x n xs) w' := by
  refine h.swap hs (fun b hb => ?_) ((h.keeps.step fun b hb => hs.2 b (h.T_lt hb)).and (keeps_own hown))
  rcases hb with hb | hb
  · exact ⟨.inl hb, Nat.lt_of_lt_of_le (h.T_lt hb) hs.1⟩
  · exact ⟨.inr (hbl b hb), hown.lt b hb⟩

theorem gR (w : World) : w.grownBy w none := World.grownBy.refl _ _
theorem gA {w W : World} (x : Obj) (h : w.grownBy W none) : w.grownBy (W.alloc x) none := h.trans (World.grownBy_alloc _ _ _)
theorem gD {w W : World} (h : w.grownBy W none) : w.grownBy W.drew none := h.trans (grown_drew _)
theorem gDN {w W : World} (n : Nat) (h : w.grownBy W none) : w.grownBy (W.drewN n) none := h.trans (grown_drewN _ _)
theorem heap_alloc_at {W : World} {g : Nat} {x : Obj} (h : W.heap.size = g) : (W.alloc x).heap[g]? = some x := by subst h; exact heap_alloc_new _ _
theorem heap_alloc_lt {W : World} {g : Nat} {x : Obj} {y : Option Obj} (hg : g < W.heap.size) (h : W.heap[g]? = y) : (W.alloc x).heap[g]? = y := (heap_alloc_old _ x hg).trans h
theorem heap_drew_of {W : World} {g : Nat} {y : Option Obj} (h : W.heap[g]? = y) : W.drew.heap[g]? = y := h
theorem heap_drewN_of {W : World} {g n : Nat} {y : Option Obj} (h : W.heap[g]? = y) : (W.drewN n).heap[g]? = y := h
theorem srcB {P : Program} {tx e' : TypeId} {W : World} {g : Nat} {x : ByteArray} (hk : P.underlying tx = some (.slice e')) (h : W.heap[g]? = some (.cells #[.string x] 9 (0, 0))) : Src P 1 tx (.slice (some ⟨g, 0, none⟩) 1 1) 1 [.string x] W :=
  Src.ofSlice _ hk _ 1 1 [.string x] (by simp) (World.news_of_block (cs := #[.string x]) (t := 9) (fr := (0, 0)) h) (by simp [Value.oneCell'])
theorem wpList_append_OwnG {P : Program} {w : World} {e size : Nat} {v : Value} {n : Nat} {xs : List Value} {ops : Array Oper} {rest : List Oper} {o : Oper} {a : Act} {Q : Exit → Act → World → Prop} (hwd : Region.wanted o (yielded ops a.tmps) = true) (s x : Operand) (t tx : TypeId)
    (ho : o.op = .call { callee := .builtin .append, args := #[s, x], argTypes := #[t, tx] }) {i : TypeInfo} {z : Value} {m bytes : Nat} {news : List Value} (ht : P.underlying t = some (.slice e)) (hi : P.info? e = some i) (hz : i.zero = some z)
    (hsize : i.size = size) (hby : i.bytes = bytes) (hzs : z.cells.size = size) (hs : a.eval s = v) (h : Own w e size v n xs) (vx : Value) (hx : a.eval x = vx) (hsrc : Src P size tx vx m news w) (h63 : n + m ≤ maxLen) (hbytes : (n + m) * bytes ≤ 140737488355328)
    (hk : ∀ v' w', Own w' e size v' (n + m) (xs ++ news) → w.grownBy w' (blk v) → (blk v' = none ∨ blk v' = blk v ∨ blk v' = some w.heap.size) → wpList P ops Q rest (a.put o.dst v') w') : wpList P ops Q (o :: rest) a w := by
  refine wpList_step fun K hK => ?_
  rw [if_pos hwd]
  obtain ⟨v', w', hr, h1, h2, h3⟩ := own_append (P := P) (ty := o.type) ht hi hz hsize hby hzs h hsrc h63 hbytes
  unfold Oper.wp execOp
  simp only [ho, resolve, invoke, builtin, Sem.run_bind, Sem.run_pure, Result.andThen_ok, List.map_toArray, List.map_cons, List.map_nil, hs, hx, hr]
  exact hK _ _ (hk v' w' h1 h2 h3)
/-- The list behind the two appends. -/
def RP (w : World) (l : List ByteArray) (x : Value) (w' : World) : Prop := Own w' 9 1 x l.length (l.map Value.string) ∧ w.grownBy w' none ∧ ∀ b, blk x = some b → w.heap.size ≤ b

theorem ge_of {v : Value} {n m : Nat} (h : blk v = none ∨ blk v = none ∨ blk v = some m) (hm : n ≤ m) : ∀ b, blk v = some b → n ≤ b := fun b e => by
  rcases h with h | h | h
  · rw [h] at e; cases e
  · rw [h] at e; cases e
  · rw [h] at e; cases e; exact hm
theorem rp_fin {w w7 W8 w8 : World} {A : List ByteArray} {x : ByteArray} {v7 v8 : Value} (hg7 : w.grownBy w7 none) (h8 : w7.grownBy W8 none) (hown : Own w8 9 1 v8 (A.length + 1) (A.map Value.string ++ [Value.string x]))
    (hg : W8.grownBy w8 (blk v7)) (hb : blk v8 = none ∨ blk v8 = blk v7 ∨ blk v8 = some W8.heap.size) (hv7 : ∀ b, blk v7 = some b → w.heap.size ≤ b) : RP w (A ++ [x]) v8 w8 := by
  have h78 := hg7.trans h8
  refine ⟨by simpa using hown, ⟨hg.os.trans h78.os, hg.tape.trans h78.tape, hg.output.trans h78.output, Nat.le_trans h78.size hg.size, fun k hk _ => ?_⟩, fun b e => ?_⟩
  · refine (hg.block k (Nat.lt_of_lt_of_le hk h78.size) fun e => ?_).trans (h78.block k hk (by simp))
    have := hv7 k e.symm
    omega
  · rcases hb with h | h | h
    · rw [h] at e; cases e
    · exact hv7 b (h ▸ e)
    · rw [h] at e; cases e; exact h78.size

theorem new_sx3 : JI St.new 3 [] [] := ⟨new_wf, Torn.refl _, Torn.refl _, List.prefix_refl _, List.prefix_refl _⟩

end Go.Proofs.YtejddacjncpneaaGreatDoor.Jo
