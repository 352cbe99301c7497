/- Regions that draw their order, walked by states: an append to an empty slice, another one of a new record, a call with the result, two boxes beside. -/
import Derived.Test.YtmhjejnkphdjpaaPB28
import Derived.OrdersHeld
import Derived.Test.YtmhjejnkphdjpaaPB29
import Derived.Test.YtmhjejnkphdjpaaLaw
import Derived.Test.YtmhjejnkphdjpaaRows
import Derived.ProofKit
import Derived.Test.YtmhjejnkphdjpaaQSl4
set_option maxRecDepth 100000
namespace Go.Proofs.Ytmhjejnkphdjpaa.Sc
open Go.RowKit Bi

/-- A slot. -/
def sl (a : Act) (j : Nat) : Value := a.tmps.getD j undef
theorem sl_put {a : Act} {d : Nat} {v : Value} {j : Nat} (h : d < a.tmps.size) : sl (a.put (some d) v) j = if j = d then v else sl a j := by
  unfold sl Act.put
  simp only [Array.getD_eq_getD_getElem?, Array.getElem?_setIfInBounds]
  by_cases e : d = j
  · subst e; simp [h]
  · rw [if_neg e, if_neg (fun h => e h.symm)]
theorem sl_at {a : Act} {d : Nat} {v : Value} (h : d < a.tmps.size) : sl (a.put (some d) v) d = v := by rw [sl_put h, if_pos rfl]
theorem sl_ne {a : Act} {d : Nat} {v : Value} {j : Nat} (h : d < a.tmps.size) (hj : (j == d) = false) : sl (a.put (some d) v) j = sl a j := by rw [sl_put h, if_neg (by simpa using hj)]
theorem put_size {a : Act} {d : Option Tmp} {v : Value} : (a.put d v).tmps.size = a.tmps.size := by
  cases d <;> simp [Act.put]
theorem put_defers {a : Act} {d : Option Tmp} {v : Value} : (a.put d v).defers = a.defers := by
  cases d <;> rfl
section
variable {P : Program} {ops : Array Oper} {Q : Exit → Act → World → Prop} {i : Nat} {o : Oper} {K : Act → World → Prop} {a : Act} {w w' : World}
theorem st_val {v : Value} (ho : ops[i]? = some o) (hg : o.guard = none) (hr : (execOp a.eval o).run P w = .ok (.value v) w') (hK : K (a.put o.dst v) w') : wpOp P ops Q i K a w := by
  unfold wpOp
  simp only [ho]
  have hw : Region.wanted o (yielded ops a.tmps) = true := by simp [Region.wanted, hg]
  rw [if_pos hw]
  left
  unfold Oper.wp
  rw [hr]
  exact hK
theorem st_skip (ho : ops[i]? = some o) (hg : o.guard = none) (hr : (execOp a.eval o).run P w = .ok .skip w') (hK : K (a.put o.dst undef) w') : wpOp P ops Q i K a w := by
  unfold wpOp
  simp only [ho]
  have hw : Region.wanted o (yielded ops a.tmps) = true := by simp [Region.wanted, hg]
  rw [if_pos hw]
  left
  unfold Oper.wp
  rw [hr]
  exact hK
theorem st_call {f : FuncId} {args : Array Value} (ho : ops[i]? = some o) (hg : o.guard = none) (hr : (execOp a.eval o).run P w = .ok (.enter f args) w) (hK : Calls P f args w fun e w' => ∃ v, e = .returned v ∧ K (a.put o.dst v) w') : wpOp P ops Q i K a w := by
  unfold wpOp
  simp only [ho]
  have hw : Region.wanted o (yielded ops a.tmps) = true := by simp [Region.wanted, hg]
  rw [if_pos hw]
  left
  unfold Oper.wp
  rw [hr]
  refine hK.mono ?_
  rintro e w' ⟨v, rfl, hk⟩
  exact hk
theorem ex_append {v' : Value} (m x : Operand) (t kt : TypeId) (ho : o.op = .call { callee := .builtin .append, args := #[m, x], argTypes := #[t, kt] }) (vm vx : Value) (hm : a.eval m = vm) (hx : a.eval x = vx) (hr : (Builtin.append_ #[t, kt] o.type #[vm, vx]).run P w = .ok v' w') :
    (execOp a.eval o).run P w = .ok (.value v') w' := by
  unfold execOp
  simp only [ho, resolve, invoke, builtin, Sem.run_bind, Sem.run_pure, Result.andThen_ok, List.map_toArray, List.map_cons, List.map_nil, hm, hx, hr]
end
/-- Nothing but the region's own slots has turned. -/
structure Kp (D : List Nat) (a0 a : Act) : Prop where
  size : a.tmps.size = a0.tmps.size
  df : a.defers = a0.defers
  keep : ∀ j, j ∉ D → sl a j = sl a0 j
theorem Kp.refl (D : List Nat) (a : Act) : Kp D a a := ⟨rfl, rfl, fun _ _ => rfl⟩
theorem Kp.put {D : List Nat} {a0 a : Act} (h : Kp D a0 a) {d : Nat} (hd : d ∈ D) (hs : d < a0.tmps.size) (v : Value) : Kp D a0 (a.put (some d) v) :=
  ⟨put_size.trans h.size, put_defers.trans h.df, fun j hj => by
    rw [sl_put (by rw [h.size]; exact hs), if_neg (fun e => hj (by rw [e]; exact hd))]
    exact h.keep j hj⟩
theorem Kp.nop {D : List Nat} {a0 a : Act} (h : Kp D a0 a) (v : Value) : Kp D a0 (a.put none v) := h
theorem act_ext {a b : Act} (hs : a.tmps.size = b.tmps.size) (hd : a.defers = b.defers) (h : ∀ j, sl a j = sl b j) : a = b := by
  obtain ⟨t, d⟩ := a
  obtain ⟨t', d'⟩ := b
  simp only at hs hd
  subst hd
  congr 1
  refine Array.ext hs fun i h1 h2 => ?_
  have := h i
  unfold sl at this
  simpa [h1, h2] using this
/-- The slots of a fraction's cells are off a block. -/
def agOff (v : Value) (g : Nat) : Prop := ∃ s x t y, v = .agg #[s, x, t, y] ∧ Off x g ∧ Off y g
theorem blk_lt {W : World} {e n : Nat} {v : Value} {L : List (Nat → Int)} (h : OwnR W e n v L) {g : Nat} (hg : W.heap.size ≤ g) : Dm.blk v ≠ some g := fun e => by have := Dm.Own.lt h g e; omega
theorem fb_grown {W W' : World} {row : Option Nat} {x : FBox} (h : Fb x W) (hg : W.grownBy W' row) (hne : row ≠ some x.1) : Fb x W' :=
  (hg.block x.1 (Array.getElem?_eq_some_iff.1 h).1 (fun e => hne e.symm)).trans h
theorem fb_lt {W : World} {x : FBox} (h : Fb x W) : x.1 < W.heap.size := (Array.getElem?_eq_some_iff.1 h).1
/-! ## Region 5 -/
def op5_0 : Oper := { dst := some 47, op := Go.Op.move (Go.Operand.tmp 0), type := 22, pos := "law.go:131", after := #[], guard := none }
def op5_1 : Oper := { dst := some 48, op := Go.Op.buildSlice 23 0 #[], type := 23, pos := "law.go:131", after := #[], guard := none }
def op5_2 : Oper := { dst := some 49, op := Go.Op.move (Go.Operand.tmp 1), type := 23, pos := "law.go:131", after := #[], guard := none }
def op5_3 : Oper := { dst := some 50, op := Go.Op.call { callee := Go.Callee.builtin Go.Builtin.append, args := #[Go.Operand.tmp 48, Go.Operand.tmp 49], argTypes := #[23, 23] }, type := 23, pos := "law.go:131", after := #[{ on := 1, ground := Go.Ground.data }, { on := 2, ground := Go.Ground.data }], guard := none }
def op5_4 : Oper := { dst := some 51, op := Go.Op.load 52 (Go.Operand.tmp 12), type := 52, pos := "law.go:131", after := #[], guard := none }
def op5_5 : Oper := { dst := some 52, op := Go.Op.buildSlice 23 1 #[(0, Go.Operand.tmp 51)], type := 23, pos := "law.go:131", after := #[{ on := 4, ground := Go.Ground.data }], guard := none }
def op5_6 : Oper := { dst := some 53, op := Go.Op.call { callee := Go.Callee.builtin Go.Builtin.append, args := #[Go.Operand.tmp 50, Go.Operand.tmp 52], argTypes := #[23, 23] }, type := 23, pos := "law.go:131", after := #[{ on := 3, ground := Go.Ground.data }, { on := 5, ground := Go.Ground.data }, { on := 3, ground := Go.Ground.chain }], guard := none }
def op5_7 : Oper := { dst := some 54, op := Go.Op.move (Go.Operand.tmp 2), type := 3, pos := "law.go:131", after := #[], guard := none }
def op5_8 : Oper := { dst := some 55, op := Go.Op.move (Go.Operand.tmp 3), type := 3, pos := "law.go:131", after := #[], guard := none }
def op5_9 : Oper := { dst := some 56, op := Go.Op.move (Go.Operand.tmp 4), type := 3, pos := "law.go:131", after := #[], guard := none }
def op5_10 : Oper := { dst := some 57, op := Go.Op.call { callee := Go.Callee.value (Go.Operand.func 14), args := #[Go.Operand.tmp 47, Go.Operand.tmp 53, Go.Operand.tmp 54, Go.Operand.tmp 55, Go.Operand.tmp 56], argTypes := #[22, 23, 3, 3, 3] }, type := 37, pos := "law.go:131", after := #[{ on := 0, ground := Go.Ground.data }, { on := 6, ground := Go.Ground.data }, { on := 7, ground := Go.Ground.data }, { on := 8, ground := Go.Ground.data }, { on := 9, ground := Go.Ground.data }, { on := 6, ground := Go.Ground.chain }], guard := none }
def op5_11 : Oper := { dst := some 46, op := Go.Op.move (Go.Operand.tmp 57), type := 37, pos := "law.go:131", after := #[{ on := 10, ground := Go.Ground.data }], guard := none }
def op5_12 : Oper := { dst := some 58, op := Go.Op.extract (Go.Operand.tmp 46) 0, type := 34, pos := "law.go:131", after := #[{ on := 11, ground := Go.Ground.data }], guard := none }
def op5_13 : Oper := { dst := some 59, op := Go.Op.extract (Go.Operand.tmp 46) 1, type := 34, pos := "law.go:131", after := #[{ on := 11, ground := Go.Ground.data }, { on := 17, ground := Go.Ground.gcOnly Go.Departure.lateStores }], guard := none }
def op5_14 : Oper := { dst := some 60, op := Go.Op.extract (Go.Operand.tmp 46) 2, type := 4, pos := "law.go:131", after := #[{ on := 11, ground := Go.Ground.data }, { on := 18, ground := Go.Ground.gcOnly Go.Departure.lateStores }], guard := none }
def op5_15 : Oper := { dst := some 19, op := Go.Op.alloc 34, type := 0, pos := "law.go:131", after := #[], guard := none }
def op5_16 : Oper := { dst := some 20, op := Go.Op.alloc 34, type := 0, pos := "law.go:131", after := #[], guard := none }
def op5_17 : Oper := { dst := none, op := Go.Op.store 34 (Go.Operand.tmp 19) (Go.Operand.tmp 58), type := 0, pos := "law.go:131", after := #[{ on := 15, ground := Go.Ground.data }, { on := 12, ground := Go.Ground.data }, { on := 10, ground := Go.Ground.chain }, { on := 0, ground := Go.Ground.phase }, { on := 1, ground := Go.Ground.phase }, { on := 2, ground := Go.Ground.phase }, { on := 3, ground := Go.Ground.phase }, { on := 4, ground := Go.Ground.phase }, { on := 5, ground := Go.Ground.phase }, { on := 6, ground := Go.Ground.phase }, { on := 7, ground := Go.Ground.phase }, { on := 8, ground := Go.Ground.phase }, { on := 9, ground := Go.Ground.phase }, { on := 10, ground := Go.Ground.phase }, { on := 11, ground := Go.Ground.phase }, { on := 12, ground := Go.Ground.phase }, { on := 13, ground := Go.Ground.textOnly Go.Departure.lateStores }, { on := 14, ground := Go.Ground.textOnly Go.Departure.lateStores }, { on := 15, ground := Go.Ground.phase }, { on := 16, ground := Go.Ground.phase }], guard := none }
def op5_18 : Oper := { dst := none, op := Go.Op.store 34 (Go.Operand.tmp 20) (Go.Operand.tmp 59), type := 0, pos := "law.go:131", after := #[{ on := 16, ground := Go.Ground.data }, { on := 13, ground := Go.Ground.data }, { on := 17, ground := Go.Ground.chain }, { on := 0, ground := Go.Ground.phase }, { on := 1, ground := Go.Ground.phase }, { on := 2, ground := Go.Ground.phase }, { on := 3, ground := Go.Ground.phase }, { on := 4, ground := Go.Ground.phase }, { on := 5, ground := Go.Ground.phase }, { on := 6, ground := Go.Ground.phase }, { on := 7, ground := Go.Ground.phase }, { on := 8, ground := Go.Ground.phase }, { on := 9, ground := Go.Ground.phase }, { on := 10, ground := Go.Ground.phase }, { on := 11, ground := Go.Ground.phase }, { on := 12, ground := Go.Ground.phase }, { on := 13, ground := Go.Ground.phase }, { on := 14, ground := Go.Ground.textOnly Go.Departure.lateStores }, { on := 15, ground := Go.Ground.phase }, { on := 16, ground := Go.Ground.phase }, { on := 17, ground := Go.Ground.phase }], guard := none }
def op5_19 : Oper := { dst := some 21, op := Go.Op.assign (Go.Operand.tmp 60), type := 4, pos := "law.go:131", after := #[{ on := 14, ground := Go.Ground.data }, { on := 18, ground := Go.Ground.chain }, { on := 0, ground := Go.Ground.phase }, { on := 1, ground := Go.Ground.phase }, { on := 2, ground := Go.Ground.phase }, { on := 3, ground := Go.Ground.phase }, { on := 4, ground := Go.Ground.phase }, { on := 5, ground := Go.Ground.phase }, { on := 6, ground := Go.Ground.phase }, { on := 7, ground := Go.Ground.phase }, { on := 8, ground := Go.Ground.phase }, { on := 9, ground := Go.Ground.phase }, { on := 10, ground := Go.Ground.phase }, { on := 11, ground := Go.Ground.phase }, { on := 12, ground := Go.Ground.phase }, { on := 13, ground := Go.Ground.phase }, { on := 14, ground := Go.Ground.phase }, { on := 15, ground := Go.Ground.phase }, { on := 16, ground := Go.Ground.phase }, { on := 17, ground := Go.Ground.phase }, { on := 18, ground := Go.Ground.phase }], guard := none }
def ops5 : Array Oper := #[op5_0, op5_1, op5_2, op5_3, op5_4, op5_5, op5_6, op5_7, op5_8, op5_9, op5_10, op5_11, op5_12, op5_13, op5_14, op5_15, op5_16, op5_17, op5_18, op5_19]
/-- What has come up. -/
def ls5 (A0 P1 A1 P2 C b1 b2 : Bool) : Array Bool := #[true, A0, true, P1, true, A1, P2, true, true, true, C, C, C, C, C, b1, b2, false, false, false]
def fu5 (A0 P1 A1 P2 C b1 b2 : Bool) : Nat := 3 + (!A0).toNat + (!P1).toNat + (!A1).toNat + (!P2).toNat + 5 * (!C).toNat + (!b1).toNat + (!b2).toNat
def ok5 (A0 P1 A1 P2 C b1 b2 : Bool) : Bool := ((!P1 || A0) && (!P2 || (P1 && A1)) && (!C || P2)) && (b1 || true) && (b2 || true)
def fin5 (A0 P1 A1 P2 C b1 b2 : Bool) : Bool := A0 && P1 && A1 && P2 && C && b1 && b2
theorem rdy5 : ∀ A0 P1 A1 P2 C b1 b2 : Bool, ok5 A0 P1 A1 P2 C b1 b2 = true → fin5 A0 P1 A1 P2 C b1 b2 = false → ∀ i ∈ Region.ready .any ops5 (ls5 A0 P1 A1 P2 C b1 b2), (i = 1 ∧ A0 = false) ∨ (i = 3 ∧ A0 = true ∧ P1 = false) ∨ (i = 5 ∧ A1 = false) ∨ (i = 6 ∧ P1 = true ∧ A1 = true ∧ P2 = false) ∨ (i = 10 ∧ P2 = true ∧ C = false) ∨ (i = 15 ∧ b1 = false) ∨ (i = 16 ∧ b2 = false) := by
  intro A0 P1 A1 P2 C b1 b2
  cases A0 <;> cases P1 <;> cases A1 <;> cases P2 <;> cases C <;> cases b1 <;> cases b2 <;> first | (intro h; cases h; done) | (intro _ h; cases h; done) | (intro _ _; decide +kernel)
theorem rdyne5 : ∀ A0 P1 A1 P2 C b1 b2 : Bool, ok5 A0 P1 A1 P2 C b1 b2 = true → fin5 A0 P1 A1 P2 C b1 b2 = false → Region.ready .any ops5 (ls5 A0 P1 A1 P2 C b1 b2) ≠ [] := by
  intro A0 P1 A1 P2 C b1 b2
  cases A0 <;> cases P1 <;> cases A1 <;> cases P2 <;> cases C <;> cases b1 <;> cases b2 <;> first | (intro h; cases h; done) | (intro _ h; cases h; done) | (intro _ _; decide +kernel)
/-- What holds of the values and of the memory. -/
structure J5 (w0 : World) (m : Nat) (rl : List (Int × Int)) (x : Int × Int) (D E : RF) (kk : Bool) (A0 P1 A1 P2 C b1 b2 : Bool) (v48 v50 v52 v53 v58 v59 v60 v19 v20 : Value) (w : World) : Prop where
  below : RowKit.Below w0.heap.size w0 w
  f1 : A0 = true → ∃ g, v48 = .slice (some ⟨g, 0, none⟩) 0 0
  f3 : P1 = true → P2 = false → ∃ a' c', v50 = .slice a' m c' ∧ Grow w0 w 52 2 a' m c' (rl.map rrow)
  f5 : A1 = true → P2 = false → ∃ g, v52 = .slice (some ⟨g, 0, none⟩) 1 1 ∧ Fb (g, 52, [.int .i64 x.1, .int .i64 x.2]) w
  f6 : P2 = true → C = false → ∃ a' c', v53 = .slice a' (m + 1) c' ∧ Rs w a' (rl ++ [x])
  f10 : C = true → v60 = .bool kk ∧ ∃ a n c b d e a2 n2 c2 b2 d2 e2, v58 = .agg #[.int .i64 D.s, .slice a n c, .int .i64 D.t, .slice b d e] ∧ v59 = .agg #[.int .i64 E.s, .slice a2 n2 c2, .int .i64 E.t, .slice b2 d2 e2] ∧ Ints w (.slice a n c) D.l ∧ Ints w (.slice b d e) D.k ∧ Ints w (.slice a2 n2 c2) E.l ∧ Ints w (.slice b2 d2 e2) E.k
  f15 : b1 = true → ∃ g, v19 = .pointer (some ⟨g, 0, none⟩) ∧ w0.heap.size ≤ g ∧ Fb (g, 34, [.int .i64 0, .slice none 0 0, .int .i64 0, .slice none 0 0]) w ∧ (P1 = true → P2 = false → Dm.blk v50 ≠ some g) ∧ (C = true → agOff v58 g ∧ agOff v59 g)
  f16 : b2 = true → ∃ g, v20 = .pointer (some ⟨g, 0, none⟩) ∧ w0.heap.size ≤ g ∧ Fb (g, 34, [.int .i64 0, .slice none 0 0, .int .i64 0, .slice none 0 0]) w ∧ (P1 = true → P2 = false → Dm.blk v50 ≠ some g) ∧ (C = true → agOff v58 g ∧ agOff v59 g)
  ne : b1 = true → b2 = true → v19 ≠ v20
theorem J5.later {w0 : World} {m : Nat} {rl : List (Int × Int)} {x : Int × Int} {D E : RF} {kk : Bool} {A0 P1 A1 P2 C b1 b2 : Bool} {v48 v50 v52 v53 v58 v59 v60 v19 v20 : Value} {w w' : World} (h : J5 w0 m rl x D E kk A0 P1 A1 P2 C b1 b2 v48 v50 v52 v53 v58 v59 v60 v19 v20 w) (hb : RowKit.Below w.heap.size w w') : J5 w0 m rl x D E kk A0 P1 A1 P2 C b1 b2 v48 v50 v52 v53 v58 v59 v60 v19 v20 w' :=
  ⟨h.below.trans (hb.mono h.below.size), h.f1,
    fun h1 h2 => by obtain ⟨a, c, e, g⟩ := h.f3 h1 h2; exact ⟨a, c, e, g.later hb⟩,
    fun h1 h2 => by obtain ⟨g, e, f⟩ := h.f5 h1 h2; exact ⟨g, e, f.later hb⟩,
    fun h1 h2 => by obtain ⟨a, c, e, f⟩ := h.f6 h1 h2; exact ⟨a, c, e, f.later hb⟩,
    fun h1 => by obtain ⟨e0, a, n, c, b, d, e, a2, n2, c2, b2, d2, e2, e3, e4, i1, i2, i3, i4⟩ := h.f10 h1; exact ⟨e0, a, n, c, b, d, e, a2, n2, c2, b2, d2, e2, e3, e4, i1.later hb, i2.later hb, i3.later hb, i4.later hb⟩,
    fun h1 => by obtain ⟨g, e, h2, h3, h4⟩ := h.f15 h1; exact ⟨g, e, h2, h3.later hb, h4⟩,
    fun h1 => by obtain ⟨g, e, h2, h3, h4⟩ := h.f16 h1; exact ⟨g, e, h2, h3.later hb, h4⟩, h.ne⟩
theorem J5.a0 {w0 : World} {m : Nat} {rl : List (Int × Int)} {x : Int × Int} {D E : RF} {kk : Bool} {P1 A1 P2 C b1 b2 : Bool} {v48 v50 v52 v53 v58 v59 v60 v19 v20 : Value} {w : World} (h : J5 w0 m rl x D E kk false P1 A1 P2 C b1 b2 v48 v50 v52 v53 v58 v59 v60 v19 v20 w) : J5 w0 m rl x D E kk true P1 A1 P2 C b1 b2 (.slice (some ⟨w.heap.size, 0, none⟩) 0 0) v50 v52 v53 v58 v59 v60 v19 v20 (w.alloc (.cells #[] 52)) := by
  have h := h.later (below_alloc w (.cells #[] 52))
  exact ⟨h.below, fun _ => ⟨_, rfl⟩, h.f3, h.f5, h.f6, h.f10, h.f15, h.f16, h.ne⟩
theorem J5.p1 {w0 : World} {m : Nat} {rl : List (Int × Int)} {x : Int × Int} {D E : RF} {kk : Bool} {A1 b1 b2 : Bool} {v48 v50 v52 v53 v58 v59 v60 v19 v20 : Value} {w : World} {ar : Option Addr} {cr : Nat} (h : J5 w0 m rl x D E kk true false A1 false false b1 b2 v48 v50 v52 v53 v58 v59 v60 v19 v20 w) (hr : Rs w ar rl) (hm : rl.length = m) (hl : m ≤ 1000) :
    ∃ a' c' w', (∀ t, (Builtin.append_ #[23, 23] t #[v48, .slice ar m cr]).run Try.prog w = .ok (.slice a' m c') w') ∧ J5 w0 m rl x D E kk true true A1 false false b1 b2 v48 (.slice a' m c') v52 v53 v58 v59 v60 v19 v20 w' := by
  obtain ⟨g, rfl⟩ := h.f1 rfl
  have hs : Src Try.prog 2 23 (.slice ar (rl.map rrow).length cr) (rl.map rrow).length (flat 2 (rl.map rrow)) w := rec_src Try.underlying23 (by decide) hr (fun _ => by cases ar <;> simp)
  obtain ⟨a', c', w', hrun, g1, g2, g3⟩ := OwnR.app (OwnR.nil w 52 2 (some ⟨g, 0, none⟩)) Try.underlying23 infoR3 hs (by simp; omega)
  rw [Dm.blk_zero] at g2 g3
  have hb : RowKit.Below w.heap.size w w' := ⟨g2.os, g2.tape, g2.output, g2.size, fun k hk => g2.block k hk (by simp)⟩
  simp only [List.nil_append, List.length_map, hm] at hrun g1 g3
  have h' := h.later hb
  have hG : Grow w0 w' 52 2 a' m c' (rl.map rrow) := ⟨g1, by rw [List.length_map, hm], h'.below, fun g hg => by
    rcases g3 with g4 | g4 | g4
    · rw [g4] at hg; cases hg
    · rw [g4] at hg; cases hg
    · rw [g4] at hg; cases hg; exact h.below.size⟩
  have hne : ∀ k, k < w.heap.size → Dm.blk (.slice a' m c') ≠ some k := fun k hk e => by
    rcases g3 with g4 | g4 | g4
    · rw [g4] at e; cases e
    · rw [g4] at e; cases e
    · rw [g4] at e; cases e; omega
  refine ⟨a', c', w', hrun, h'.below, h'.f1, fun _ _ => ⟨a', c', rfl, hG⟩, h'.f5, h'.f6, h'.f10, fun h1 => ?_, fun h1 => ?_, h'.ne⟩
  · obtain ⟨k, e, k1, k2, k3, k4⟩ := h.f15 h1
    exact ⟨k, e, k1, k2.later hb, fun _ _ => hne k (fb_lt k2), k4⟩
  · obtain ⟨k, e, k1, k2, k3, k4⟩ := h.f16 h1
    exact ⟨k, e, k1, k2.later hb, fun _ _ => hne k (fb_lt k2), k4⟩
theorem J5.a1 {w0 : World} {m : Nat} {rl : List (Int × Int)} {x : Int × Int} {D E : RF} {kk : Bool} {A0 P1 P2 C b1 b2 : Bool} {v48 v50 v52 v53 v58 v59 v60 v19 v20 : Value} {w : World} (h : J5 w0 m rl x D E kk A0 P1 false P2 C b1 b2 v48 v50 v52 v53 v58 v59 v60 v19 v20 w) : J5 w0 m rl x D E kk A0 P1 true P2 C b1 b2 v48 v50 (.slice (some ⟨w.heap.size, 0, none⟩) 1 1) v53 v58 v59 v60 v19 v20 (w.alloc (.cells #[.int .i64 x.1, .int .i64 x.2] 52)) := by
  have h' := h.later (below_alloc w (.cells #[.int .i64 x.1, .int .i64 x.2] 52))
  exact ⟨h'.below, h'.f1, h'.f3, fun _ _ => ⟨_, rfl, alloc_at w _⟩, h'.f6, h'.f10, h'.f15, h'.f16, h'.ne⟩
theorem J5.p2 {w0 : World} {m : Nat} {rl : List (Int × Int)} {x : Int × Int} {D E : RF} {kk : Bool} {A0 b1 b2 : Bool} {v48 v50 v52 v53 v58 v59 v60 v19 v20 : Value} {w : World} (h : J5 w0 m rl x D E kk A0 true true false false b1 b2 v48 v50 v52 v53 v58 v59 v60 v19 v20 w) (hl : m ≤ 1000) :
    ∃ a' c' w', (∀ t, (Builtin.append_ #[23, 23] t #[v50, v52]).run Try.prog w = .ok (.slice a' (m + 1) c') w') ∧ J5 w0 m rl x D E kk A0 true true true false b1 b2 v48 v50 v52 (.slice a' (m + 1) c') v58 v59 v60 v19 v20 w' := by
  obtain ⟨a1, c1, rfl, hG⟩ := h.f3 rfl rfl
  obtain ⟨g, rfl, hf⟩ := h.f5 rfl rfl
  obtain ⟨a', c', w', hr, hg, hk⟩ := hG.app Try.underlying23 infoR3 (one_srcR (x := x) hf) (by simp; omega)
  have hbx : ∀ (k : Nat) (cs : List Value), Fb (k, 34, cs) w → Dm.blk (.slice a1 m c1) ≠ some k → Fb (k, 34, cs) w' := fun k cs hf hne => by
    rcases hk with hb | ⟨G, hG1, hG2⟩
    · exact hf.later hb
    · exact fb_grown hf hG2 (fun e => hne (hG1.trans e))
  have hRs : Rs w' a' (rl ++ [x]) := by
    have := hg.recs
    unfold Rs
    rw [List.map_append]
    exact this
  refine ⟨a', c', w', hr, hg.below, h.f1, fun _ h2 => (by cases h2), fun _ h2 => (by cases h2), fun _ _ => ⟨a', c', rfl, hRs⟩, fun h1 => (by cases h1), fun h1 => ?_, fun h1 => ?_, h.ne⟩
  · obtain ⟨k, e, k1, k2, k3, k4⟩ := h.f15 h1
    exact ⟨k, e, k1, hbx k _ k2 (k3 rfl rfl), fun _ h2 => (by cases h2), fun h2 => (by cases h2)⟩
  · obtain ⟨k, e, k1, k2, k3, k4⟩ := h.f16 h1
    exact ⟨k, e, k1, hbx k _ k2 (k3 rfl rfl), fun _ h2 => (by cases h2), fun h2 => (by cases h2)⟩
theorem J5.b1s {w0 : World} {m : Nat} {rl : List (Int × Int)} {x : Int × Int} {D E : RF} {kk : Bool} {A0 P1 A1 P2 C b2 : Bool} {v48 v50 v52 v53 v58 v59 v60 v19 v20 : Value} {w : World} (h : J5 w0 m rl x D E kk A0 P1 A1 P2 C false b2 v48 v50 v52 v53 v58 v59 v60 v19 v20 w) : J5 w0 m rl x D E kk A0 P1 A1 P2 C true b2 v48 v50 v52 v53 v58 v59 v60 (.pointer (some ⟨w.heap.size, 0, none⟩)) v20 (w.alloc (.cells #[.int .i64 0, .slice none 0 0, .int .i64 0, .slice none 0 0] 34)) := by
  have h' := h.later (below_alloc w (.cells #[.int .i64 0, .slice none 0 0, .int .i64 0, .slice none 0 0] 34))
  exact ⟨h'.below, h'.f1, h'.f3, h'.f5, h'.f6, h'.f10, fun _ => ⟨w.heap.size, rfl, h.below.size, alloc_at w _, fun h1 h2 => by obtain ⟨a, c, rfl, hG⟩ := h.f3 h1 h2; exact blk_lt hG.own (Nat.le_refl _), fun h1 => by
    obtain ⟨_, a, n, c, b, d, e, a2, n2, c2, b2, d2, e2, rfl, rfl, i1, i2, i3, i4⟩ := h.f10 h1
    exact ⟨⟨_, _, _, _, rfl, i1.off (Nat.le_refl _), i2.off (Nat.le_refl _)⟩, ⟨_, _, _, _, rfl, i3.off (Nat.le_refl _), i4.off (Nat.le_refl _)⟩⟩⟩, h'.f16, fun _ h2 e => by
    obtain ⟨k, e2, _, k2, _⟩ := h.f16 h2
    have := fb_lt k2
    rw [e2] at e
    simp at e; try omega⟩
theorem J5.b2s {w0 : World} {m : Nat} {rl : List (Int × Int)} {x : Int × Int} {D E : RF} {kk : Bool} {A0 P1 A1 P2 C b1 : Bool} {v48 v50 v52 v53 v58 v59 v60 v19 v20 : Value} {w : World} (h : J5 w0 m rl x D E kk A0 P1 A1 P2 C b1 false v48 v50 v52 v53 v58 v59 v60 v19 v20 w) : J5 w0 m rl x D E kk A0 P1 A1 P2 C b1 true v48 v50 v52 v53 v58 v59 v60 v19 (.pointer (some ⟨w.heap.size, 0, none⟩)) (w.alloc (.cells #[.int .i64 0, .slice none 0 0, .int .i64 0, .slice none 0 0] 34)) := by
  have h' := h.later (below_alloc w (.cells #[.int .i64 0, .slice none 0 0, .int .i64 0, .slice none 0 0] 34))
  exact ⟨h'.below, h'.f1, h'.f3, h'.f5, h'.f6, h'.f10, h'.f15, fun _ => ⟨w.heap.size, rfl, h.below.size, alloc_at w _, fun h1 h2 => by obtain ⟨a, c, rfl, hG⟩ := h.f3 h1 h2; exact blk_lt hG.own (Nat.le_refl _), fun h1 => by
    obtain ⟨_, a, n, c, b, d, e, a2, n2, c2, b2, d2, e2, rfl, rfl, i1, i2, i3, i4⟩ := h.f10 h1
    exact ⟨⟨_, _, _, _, rfl, i1.off (Nat.le_refl _), i2.off (Nat.le_refl _)⟩, ⟨_, _, _, _, rfl, i3.off (Nat.le_refl _), i4.off (Nat.le_refl _)⟩⟩⟩, fun h2 _ e => by
    obtain ⟨k, e2, _, k2, _⟩ := h.f15 h2
    have := fb_lt k2
    rw [e2] at e
    simp at e; try omega⟩
theorem J5.cs {w0 : World} {m : Nat} {rl : List (Int × Int)} {x : Int × Int} {D E : RF} {kk : Bool} {A0 P1 A1 b1 b2 : Bool} {v48 v50 v52 v53 v58 v59 v60 v19 v20 : Value} {w w' : World} {a b a2 b2' : Option Addr} {n c d e n2 c2 d2 e2 : Nat} (h : J5 w0 m rl x D E kk A0 P1 A1 true false b1 b2 v48 v50 v52 v53 v58 v59 v60 v19 v20 w) (hb : RowKit.Below w.heap.size w w') (i1 : Ints w' (.slice a n c) D.l) (i2 : Ints w' (.slice b d e) D.k) (i3 : Ints w' (.slice a2 n2 c2) E.l) (i4 : Ints w' (.slice b2' d2 e2) E.k)
    (h1 : Fresh w.heap.size (.slice a n c)) (h2 : Fresh w.heap.size (.slice b d e)) (h3 : Fresh w.heap.size (.slice a2 n2 c2)) (h4 : Fresh w.heap.size (.slice b2' d2 e2)) :
    J5 w0 m rl x D E kk A0 P1 A1 true true b1 b2 v48 v50 v52 v53 (.agg #[.int .i64 D.s, .slice a n c, .int .i64 D.t, .slice b d e]) (.agg #[.int .i64 E.s, .slice a2 n2 c2, .int .i64 E.t, .slice b2' d2 e2]) (.bool kk) v19 v20 w' := by
  have h' := h.later hb
  refine ⟨h'.below, h'.f1, h'.f3, h'.f5, fun _ h2 => (by cases h2), fun _ => ⟨rfl, _, _, _, _, _, _, _, _, _, _, _, _, rfl, rfl, i1, i2, i3, i4⟩, fun hb1 => ?_, fun hb1 => ?_, h'.ne⟩
  · obtain ⟨k, e, k1, k2, k3, _⟩ := h.f15 hb1
    have := fb_lt k2
    exact ⟨k, e, k1, k2.later hb, fun _ h2 => (by cases h2), fun _ => ⟨⟨_, _, _, _, rfl, h1 k this, h2 k this⟩, ⟨_, _, _, _, rfl, h3 k this, h4 k this⟩⟩⟩
  · obtain ⟨k, e, k1, k2, k3, _⟩ := h.f16 hb1
    have := fb_lt k2
    exact ⟨k, e, k1, k2.later hb, fun _ h2 => (by cases h2), fun _ => ⟨⟨_, _, _, _, rfl, h1 k this, h2 k this⟩, ⟨_, _, _, _, rfl, h3 k this, h4 k this⟩⟩⟩
/-! ## Region 18 -/
def op18_0 : Oper := { dst := some 150, op := Go.Op.buildSlice 22 0 #[], type := 22, pos := "law.go:149", after := #[], guard := none }
def op18_1 : Oper := { dst := some 151, op := Go.Op.move (Go.Operand.tmp 0), type := 22, pos := "law.go:149", after := #[], guard := none }
def op18_2 : Oper := { dst := some 152, op := Go.Op.call { callee := Go.Callee.builtin Go.Builtin.append, args := #[Go.Operand.tmp 150, Go.Operand.tmp 151], argTypes := #[22, 22] }, type := 22, pos := "law.go:149", after := #[{ on := 0, ground := Go.Ground.data }, { on := 1, ground := Go.Ground.data }], guard := none }
def op18_3 : Oper := { dst := some 153, op := Go.Op.load 25 (Go.Operand.tmp 13), type := 25, pos := "law.go:149", after := #[], guard := none }
def op18_4 : Oper := { dst := some 154, op := Go.Op.buildSlice 22 1 #[(0, Go.Operand.tmp 153)], type := 22, pos := "law.go:149", after := #[{ on := 3, ground := Go.Ground.data }], guard := none }
def op18_5 : Oper := { dst := some 155, op := Go.Op.call { callee := Go.Callee.builtin Go.Builtin.append, args := #[Go.Operand.tmp 152, Go.Operand.tmp 154], argTypes := #[22, 22] }, type := 22, pos := "law.go:149", after := #[{ on := 2, ground := Go.Ground.data }, { on := 4, ground := Go.Ground.data }, { on := 2, ground := Go.Ground.chain }], guard := none }
def op18_6 : Oper := { dst := some 156, op := Go.Op.move (Go.Operand.tmp 2), type := 3, pos := "law.go:149", after := #[], guard := none }
def op18_7 : Oper := { dst := some 157, op := Go.Op.move (Go.Operand.tmp 4), type := 3, pos := "law.go:149", after := #[], guard := none }
def op18_8 : Oper := { dst := some 158, op := Go.Op.call { callee := Go.Callee.value (Go.Operand.func 10), args := #[Go.Operand.tmp 155, Go.Operand.tmp 156, Go.Operand.tmp 157], argTypes := #[22, 3, 3] }, type := 28, pos := "law.go:149", after := #[{ on := 5, ground := Go.Ground.data }, { on := 6, ground := Go.Ground.data }, { on := 7, ground := Go.Ground.data }, { on := 5, ground := Go.Ground.chain }], guard := none }
def op18_9 : Oper := { dst := some 149, op := Go.Op.move (Go.Operand.tmp 158), type := 28, pos := "law.go:149", after := #[{ on := 8, ground := Go.Ground.data }], guard := none }
def op18_10 : Oper := { dst := some 159, op := Go.Op.extract (Go.Operand.tmp 149) 0, type := 3, pos := "law.go:149", after := #[{ on := 9, ground := Go.Ground.data }], guard := none }
def op18_11 : Oper := { dst := some 160, op := Go.Op.extract (Go.Operand.tmp 149) 1, type := 4, pos := "law.go:149", after := #[{ on := 9, ground := Go.Ground.data }, { on := 12, ground := Go.Ground.gcOnly Go.Departure.lateStores }], guard := none }
def op18_12 : Oper := { dst := some 24, op := Go.Op.assign (Go.Operand.tmp 159), type := 3, pos := "law.go:149", after := #[{ on := 10, ground := Go.Ground.data }, { on := 8, ground := Go.Ground.chain }, { on := 0, ground := Go.Ground.phase }, { on := 1, ground := Go.Ground.phase }, { on := 2, ground := Go.Ground.phase }, { on := 3, ground := Go.Ground.phase }, { on := 4, ground := Go.Ground.phase }, { on := 5, ground := Go.Ground.phase }, { on := 6, ground := Go.Ground.phase }, { on := 7, ground := Go.Ground.phase }, { on := 8, ground := Go.Ground.phase }, { on := 9, ground := Go.Ground.phase }, { on := 10, ground := Go.Ground.phase }, { on := 11, ground := Go.Ground.textOnly Go.Departure.lateStores }], guard := none }
def op18_13 : Oper := { dst := some 25, op := Go.Op.assign (Go.Operand.tmp 160), type := 4, pos := "law.go:149", after := #[{ on := 11, ground := Go.Ground.data }, { on := 12, ground := Go.Ground.chain }, { on := 0, ground := Go.Ground.phase }, { on := 1, ground := Go.Ground.phase }, { on := 2, ground := Go.Ground.phase }, { on := 3, ground := Go.Ground.phase }, { on := 4, ground := Go.Ground.phase }, { on := 5, ground := Go.Ground.phase }, { on := 6, ground := Go.Ground.phase }, { on := 7, ground := Go.Ground.phase }, { on := 8, ground := Go.Ground.phase }, { on := 9, ground := Go.Ground.phase }, { on := 10, ground := Go.Ground.phase }, { on := 11, ground := Go.Ground.phase }, { on := 12, ground := Go.Ground.phase }], guard := none }
def ops18 : Array Oper := #[op18_0, op18_1, op18_2, op18_3, op18_4, op18_5, op18_6, op18_7, op18_8, op18_9, op18_10, op18_11, op18_12, op18_13]
/-- What has come up. -/
def ls18 (A0 P1 A1 P2 C : Bool) : Array Bool := #[A0, true, P1, true, A1, P2, true, true, C, C, C, C, false, false]
def fu18 (A0 P1 A1 P2 C : Bool) : Nat := 2 + (!A0).toNat + (!P1).toNat + (!A1).toNat + (!P2).toNat + 4 * (!C).toNat
def ok18 (A0 P1 A1 P2 C : Bool) : Bool := ((!P1 || A0) && (!P2 || (P1 && A1)) && (!C || P2))
def fin18 (A0 P1 A1 P2 C : Bool) : Bool := A0 && P1 && A1 && P2 && C
theorem rdy18 : ∀ A0 P1 A1 P2 C : Bool, ok18 A0 P1 A1 P2 C = true → fin18 A0 P1 A1 P2 C = false → ∀ i ∈ Region.ready .any ops18 (ls18 A0 P1 A1 P2 C), (i = 0 ∧ A0 = false) ∨ (i = 2 ∧ A0 = true ∧ P1 = false) ∨ (i = 4 ∧ A1 = false) ∨ (i = 5 ∧ P1 = true ∧ A1 = true ∧ P2 = false) ∨ (i = 8 ∧ P2 = true ∧ C = false) := by
  intro A0 P1 A1 P2 C
  cases A0 <;> cases P1 <;> cases A1 <;> cases P2 <;> cases C <;> first | (intro h; cases h; done) | (intro _ h; cases h; done) | (intro _ _; decide +kernel)
theorem rdyne18 : ∀ A0 P1 A1 P2 C : Bool, ok18 A0 P1 A1 P2 C = true → fin18 A0 P1 A1 P2 C = false → Region.ready .any ops18 (ls18 A0 P1 A1 P2 C) ≠ [] := by
  intro A0 P1 A1 P2 C
  cases A0 <;> cases P1 <;> cases A1 <;> cases P2 <;> cases C <;> first | (intro h; cases h; done) | (intro _ h; cases h; done) | (intro _ _; decide +kernel)
/-- What holds of the values and of the memory. -/
structure J18 (w0 : World) (m : Nat) (rl : List (Ct)) (x : Ct) (fi : Nat) (fk : Bool) (A0 P1 A1 P2 C : Bool) (v48 v50 v52 v53 v58 v59 : Value) (w : World) : Prop where
  below : RowKit.Below w0.heap.size w0 w
  f1 : A0 = true → ∃ g, v48 = .slice (some ⟨g, 0, none⟩) 0 0
  f3 : P1 = true → P2 = false → ∃ a' c', v50 = .slice a' m c' ∧ Grow w0 w 25 6 a' m c' (rl.map Ct.row)
  f5 : A1 = true → P2 = false → ∃ g, v52 = .slice (some ⟨g, 0, none⟩) 1 1 ∧ Fb (g, 25, [.int .i64 x.sc, .int .i64 x.fr, .int .i64 x.un, .int .i64 x.ut, .int .i64 x.pm, .int .i64 x.dr]) w
  f6 : P2 = true → C = false → ∃ a' c', v53 = .slice a' (m + 1) c' ∧ Cs w a' (rl ++ [x])
  f10 : C = true → v58 = .int .i64 (fi : Int) ∧ v59 = .bool fk
theorem J18.later {w0 : World} {m : Nat} {rl : List (Ct)} {x : Ct} {fi : Nat} {fk : Bool} {A0 P1 A1 P2 C : Bool} {v48 v50 v52 v53 v58 v59 : Value} {w w' : World} (h : J18 w0 m rl x fi fk A0 P1 A1 P2 C v48 v50 v52 v53 v58 v59 w) (hb : RowKit.Below w.heap.size w w') : J18 w0 m rl x fi fk A0 P1 A1 P2 C v48 v50 v52 v53 v58 v59 w' :=
  ⟨h.below.trans (hb.mono h.below.size), h.f1,
    fun h1 h2 => by obtain ⟨a, c, e, g⟩ := h.f3 h1 h2; exact ⟨a, c, e, g.later hb⟩,
    fun h1 h2 => by obtain ⟨g, e, f⟩ := h.f5 h1 h2; exact ⟨g, e, f.later hb⟩,
    fun h1 h2 => by obtain ⟨a, c, e, f⟩ := h.f6 h1 h2; exact ⟨a, c, e, f.later hb⟩,
    h.f10⟩
theorem J18.a0 {w0 : World} {m : Nat} {rl : List (Ct)} {x : Ct} {fi : Nat} {fk : Bool} {P1 A1 P2 C : Bool} {v48 v50 v52 v53 v58 v59 : Value} {w : World} (h : J18 w0 m rl x fi fk false P1 A1 P2 C v48 v50 v52 v53 v58 v59 w) : J18 w0 m rl x fi fk true P1 A1 P2 C (.slice (some ⟨w.heap.size, 0, none⟩) 0 0) v50 v52 v53 v58 v59 (w.alloc (.cells #[] 25)) := by
  have h := h.later (below_alloc w (.cells #[] 25))
  exact ⟨h.below, fun _ => ⟨_, rfl⟩, h.f3, h.f5, h.f6, h.f10⟩
theorem J18.p1 {w0 : World} {m : Nat} {rl : List (Ct)} {x : Ct} {fi : Nat} {fk : Bool} {A1 : Bool} {v48 v50 v52 v53 v58 v59 : Value} {w : World} {ar : Option Addr} {cr : Nat} (h : J18 w0 m rl x fi fk true false A1 false false v48 v50 v52 v53 v58 v59 w) (hr : Cs w ar rl) (hm : rl.length = m) (hl : m ≤ 1000) :
    ∃ a' c' w', (∀ t, (Builtin.append_ #[22, 22] t #[v48, .slice ar m cr]).run Try.prog w = .ok (.slice a' m c') w') ∧ J18 w0 m rl x fi fk true true A1 false false v48 (.slice a' m c') v52 v53 v58 v59 w' := by
  obtain ⟨g, rfl⟩ := h.f1 rfl
  have hs : Src Try.prog 6 22 (.slice ar (rl.map Ct.row).length cr) (rl.map Ct.row).length (flat 6 (rl.map Ct.row)) w := rec_src Try.underlying22 (by decide) hr (fun _ => by cases ar <;> simp)
  obtain ⟨a', c', w', hrun, g1, g2, g3⟩ := OwnR.app (OwnR.nil w 25 6 (some ⟨g, 0, none⟩)) Try.underlying22 infoC3 hs (by simp; omega)
  rw [Dm.blk_zero] at g2 g3
  have hb : RowKit.Below w.heap.size w w' := ⟨g2.os, g2.tape, g2.output, g2.size, fun k hk => g2.block k hk (by simp)⟩
  simp only [List.nil_append, List.length_map, hm] at hrun g1 g3
  have h' := h.later hb
  have hG : Grow w0 w' 25 6 a' m c' (rl.map Ct.row) := ⟨g1, by rw [List.length_map, hm], h'.below, fun g hg => by
    rcases g3 with g4 | g4 | g4
    · rw [g4] at hg; cases hg
    · rw [g4] at hg; cases hg
    · rw [g4] at hg; cases hg; exact h.below.size⟩
  exact ⟨a', c', w', hrun, h'.below, h'.f1, fun _ _ => ⟨a', c', rfl, hG⟩, h'.f5, h'.f6, h'.f10⟩
theorem J18.a1 {w0 : World} {m : Nat} {rl : List (Ct)} {x : Ct} {fi : Nat} {fk : Bool} {A0 P1 P2 C : Bool} {v48 v50 v52 v53 v58 v59 : Value} {w : World} (h : J18 w0 m rl x fi fk A0 P1 false P2 C v48 v50 v52 v53 v58 v59 w) : J18 w0 m rl x fi fk A0 P1 true P2 C v48 v50 (.slice (some ⟨w.heap.size, 0, none⟩) 1 1) v53 v58 v59 (w.alloc (.cells #[.int .i64 x.sc, .int .i64 x.fr, .int .i64 x.un, .int .i64 x.ut, .int .i64 x.pm, .int .i64 x.dr] 25)) := by
  have h' := h.later (below_alloc w (.cells #[.int .i64 x.sc, .int .i64 x.fr, .int .i64 x.un, .int .i64 x.ut, .int .i64 x.pm, .int .i64 x.dr] 25))
  exact ⟨h'.below, h'.f1, h'.f3, fun _ _ => ⟨_, rfl, alloc_at w _⟩, h'.f6, h'.f10⟩
theorem J18.p2 {w0 : World} {m : Nat} {rl : List (Ct)} {x : Ct} {fi : Nat} {fk : Bool} {A0 : Bool} {v48 v50 v52 v53 v58 v59 : Value} {w : World} (h : J18 w0 m rl x fi fk A0 true true false false v48 v50 v52 v53 v58 v59 w) (hl : m ≤ 1000) :
    ∃ a' c' w', (∀ t, (Builtin.append_ #[22, 22] t #[v50, v52]).run Try.prog w = .ok (.slice a' (m + 1) c') w') ∧ J18 w0 m rl x fi fk A0 true true true false v48 v50 v52 (.slice a' (m + 1) c') v58 v59 w' := by
  obtain ⟨a1, c1, rfl, hG⟩ := h.f3 rfl rfl
  obtain ⟨g, rfl, hf⟩ := h.f5 rfl rfl
  obtain ⟨a', c', w', hr, hg, _⟩ := hG.app Try.underlying22 infoC3 (one_src (c := x) hf) (by simp; omega)
  have hRs : Cs w' a' (rl ++ [x]) := by
    have := hg.recs
    unfold Cs
    rw [List.map_append]
    exact this
  exact ⟨a', c', w', hr, hg.below, h.f1, fun _ h2 => (by cases h2), fun _ h2 => (by cases h2), fun _ _ => ⟨a', c', rfl, hRs⟩, fun h1 => (by cases h1)⟩
theorem J18.cs {w0 : World} {m : Nat} {rl : List (Ct)} {x : Ct} {fi : Nat} {fk : Bool} {A0 P1 A1 : Bool} {v48 v50 v52 v53 v58 v59 : Value} {w w' : World} (h : J18 w0 m rl x fi fk A0 P1 A1 true false v48 v50 v52 v53 v58 v59 w) (hb : RowKit.Below w.heap.size w w') : J18 w0 m rl x fi fk A0 P1 A1 true true v48 v50 v52 v53 (.int .i64 (fi : Int)) (.bool fk) w' := by
  have h' := h.later hb
  exact ⟨h'.below, h'.f1, h'.f3, h'.f5, fun _ h2 => (by cases h2), fun _ => ⟨rfl, rfl⟩⟩
end Go.Proofs.Ytmhjejnkphdjpaa.Sc
