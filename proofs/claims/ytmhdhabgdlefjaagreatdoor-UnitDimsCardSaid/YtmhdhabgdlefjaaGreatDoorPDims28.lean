/- The contracts of the reference of unit: Word. The contract of the reference of unit: power. The contracts of the reference of unit: Same, Few. Slices of items: append; the contract of the reference's Items. The contract of the reference's Items. How many items a text has, how large their exponents, dimensions and factors are. The elements of a slice of items; a dimension's exponents added one by one. The listed table of symbols; suffixes. The contract of unit's readWord. Slices of the program's items; the contract of unit's split. The contracts of unit: Right, Mul, Div, To, From, for any arguments; those of its reference at arguments that are not valid. -/
import Derived.Test.YtmhdhabgdlefjaaGreatDoorPDims27
import Derived.Test.YtmhdhabgdlefjaaGreatDoorPDims24
import Derived.Lib.ReflectliteSwap
import Derived.Test.YtmhdhabgdlefjaaGreatDoorPDims26
import Derived.Deep.LoopGhost
import Derived.Deep.CutRange
import Derived.Deep.CutBlock
import Derived.Test.YtmhdhabgdlefjaaGreatDoorPDims21
set_option maxRecDepth 100000
namespace Go.Proofs.YtmhdhabgdlefjaaGreatDoor.Un
open Go.RowKit Bi Dm

/-- What Word gives. -/
def WordEnd (L : List UInt8) (w : World) (e : Ending) (w' : World) : Prop := match wordL L with
  | some (b, n, q) => UVB (up zf b n) q true w e w'
  | none => Gives (.tuple #[.agg (uc zf 0 (.slice none 0 0) 0 (.slice none 0 0)), .bool false]) w e w'
theorem word_none {L : List UInt8} (h : wordL L = none) {w : World} {e : Ending} {w' : World} (g : Gives (.tuple #[.agg (uc zf 0 (.slice none 0 0) 0 (.slice none 0 0)), .bool false]) w e w') : WordEnd L w e w' := by
  unfold WordEnd; rw [h]; exact g
theorem word_some {L : List UInt8} {b : Nat} {n : Int} {q : Rat} (h : wordL L = some (b, n, q)) {w : World} {e : Ending} {w' : World} (g : UVB (up zf b n) q true w e w') : WordEnd L w e w' := by
  unfold WordEnd; rw [h]; exact g
theorem u9sym_at (s : ByteArray) {b : Nat} {n : Int} {q : Rat} (h : symL s.data.toList = some (b, n, q)) (w : World) : Calls Tryz.prog 31 #[.string s] w (UVB (up zf b n) q true w) := u9sym_some _ h w
theorem sym_sz {l : List UInt8} {b : Nat} {n : Int} {q : Rat} (h : symL l = some (b, n, q)) : FSz 1 q ∧ 0 < q ∧ b < 6 := by
  unfold symL at h
  by_cases e0 : l = [103]
  · rw [if_pos e0] at h; injection h with h; injection h with h1 h2; injection h2 with h2 h3; subst h1 h3; exact ⟨FSz.one (by decide +kernel) (by decide +kernel), by decide +kernel, by decide⟩
  rw [if_neg e0] at h
  by_cases e1 : l = [116]
  · rw [if_pos e1] at h; injection h with h; injection h with h1 h2; injection h2 with h2 h3; subst h1 h3; exact ⟨FSz.one (by decide +kernel) (by decide +kernel), by decide +kernel, by decide⟩
  rw [if_neg e1] at h
  by_cases e2 : l = [109]
  · rw [if_pos e2] at h; injection h with h; injection h with h1 h2; injection h2 with h2 h3; subst h1 h3; exact ⟨FSz.one (by decide +kernel) (by decide +kernel), by decide +kernel, by decide⟩
  rw [if_neg e2] at h
  by_cases e3 : l = [108]
  · rw [if_pos e3] at h; injection h with h; injection h with h1 h2; injection h2 with h2 h3; subst h1 h3; exact ⟨FSz.one (by decide +kernel) (by decide +kernel), by decide +kernel, by decide⟩
  rw [if_neg e3] at h
  by_cases e4 : l = [115]
  · rw [if_pos e4] at h; injection h with h; injection h with h1 h2; injection h2 with h2 h3; subst h1 h3; exact ⟨FSz.one (by decide +kernel) (by decide +kernel), by decide +kernel, by decide⟩
  rw [if_neg e4] at h
  by_cases e5 : l = [104]
  · rw [if_pos e5] at h; injection h with h; injection h with h1 h2; injection h2 with h2 h3; subst h1 h3; exact ⟨FSz.one (by decide +kernel) (by decide +kernel), by decide +kernel, by decide⟩
  rw [if_neg e5] at h
  by_cases e6 : l = [100]
  · rw [if_pos e6] at h; injection h with h; injection h with h1 h2; injection h2 with h2 h3; subst h1 h3; exact ⟨FSz.one (by decide +kernel) (by decide +kernel), by decide +kernel, by decide⟩
  rw [if_neg e6] at h
  by_cases e7 : l = [74]
  · rw [if_pos e7] at h; injection h with h; injection h with h1 h2; injection h2 with h2 h3; subst h1 h3; exact ⟨FSz.one (by decide +kernel) (by decide +kernel), by decide +kernel, by decide⟩
  rw [if_neg e7] at h
  by_cases e8 : l = [87, 104]
  · rw [if_pos e8] at h; injection h with h; injection h with h1 h2; injection h2 with h2 h3; subst h1 h3; exact ⟨FSz.one (by decide +kernel) (by decide +kernel), by decide +kernel, by decide⟩
  rw [if_neg e8] at h
  by_cases e9 : l = [99, 101, 110, 116]
  · rw [if_pos e9] at h; injection h with h; injection h with h1 h2; injection h2 with h2 h3; subst h1 h3; exact ⟨FSz.one (by decide +kernel) (by decide +kernel), by decide +kernel, by decide⟩
  rw [if_neg e9] at h
  by_cases e10 : l = [101, 117, 114]
  · rw [if_pos e10] at h; injection h with h; injection h with h1 h2; injection h2 with h2 h3; subst h1 h3; exact ⟨FSz.one (by decide +kernel) (by decide +kernel), by decide +kernel, by decide⟩
  rw [if_neg e10] at h
  by_cases e11 : l = [112, 99]
  · rw [if_pos e11] at h; injection h with h; injection h with h1 h2; injection h2 with h2 h3; subst h1 h3; exact ⟨FSz.one (by decide +kernel) (by decide +kernel), by decide +kernel, by decide⟩
  rw [if_neg e11] at h
  cases h
theorem pre_sz {c : UInt8} {p : Rat} (h : preL c = some p) : FSz 2 p ∧ 0 < p := by
  unfold preL at h
  by_cases e0 : c = 107
  · rw [if_pos e0] at h; injection h with h; subst h; exact ⟨(FSz.one (by decide +kernel) (by decide +kernel)).mono, by decide +kernel⟩
  rw [if_neg e0] at h
  by_cases e1 : c = 77
  · rw [if_pos e1] at h; injection h with h; subst h; exact ⟨(FSz.one (by decide +kernel) (by decide +kernel)).mono, by decide +kernel⟩
  rw [if_neg e1] at h
  by_cases e2 : c = 71
  · rw [if_pos e2] at h; injection h with h; subst h; exact ⟨⟨by show ((1000000000 : Int).natAbs : Int) < _; simp [P], by show ((1 : Int).natAbs : Int) < _; simp [P]⟩, by decide +kernel⟩
  rw [if_neg e2] at h
  by_cases e3 : c = 109
  · rw [if_pos e3] at h; injection h with h; subst h; exact ⟨(FSz.one (by decide +kernel) (by decide +kernel)).mono, by decide +kernel⟩
  rw [if_neg e3] at h
  cases h
/-- Four cells are stored into a box, from one of its cells on. -/
theorem wpList_store4 {ops : Array Oper} {rest : List Oper} {o : Oper} {a : Act} {w : World} {Q : Exit → Act → World → Prop} (hgd : o.guard = none) (ty : TypeId) (x y : Operand) (ho : o.op = .store ty x y)
    (g k k1 k2 k3 : Nat) (e1 : k1 = k + 1) (e2 : k2 = k + 2) (e3 : k3 = k + 3) (v0 v1 v2 v3 : Value) (hx : a.eval x = .pointer (some ⟨g, k, none⟩)) (hy : a.eval y = .agg #[v0, v1, v2, v3])
    {cs : List Value} {t : TypeId} (hb : Fb (g, t, cs) w) (hk : k + 4 ≤ cs.length) (hi : ∃ ie, Tryz.prog.info? ty = some ie ∧ 4 = ie.size) (h1 : ∀ v ∈ [v0, v1, v2, v3], v.oneCell' = true)
    (h : wpList Tryz.prog ops Q rest (a.put o.dst undef) ((((w.setCell ⟨g, k, none⟩ v0).setCell ⟨g, k1, none⟩ v1).setCell ⟨g, k2, none⟩ v2).setCell ⟨g, k3, none⟩ v3)) : wpList Tryz.prog ops Q (o :: rest) a w := by
  obtain ⟨ie, hie, hs⟩ := hi
  subst e1 e2 e3
  refine wpList_plain hgd fun _ hK => ?_
  have hr := Lib.rl_storeVar_cells (P := Tryz.prog) ty ie hie g k [v0, v1, v2, v3] hs h1 w
    (fun j hj => by rw [hb.cell, List.getElem?_eq_getElem (by simp at hj; omega)]; rfl) (fun j hj => hb.free _)
  have h2 := hK _ _ h
  unfold Oper.wp execOp
  simp only [ho, hx, hy, Instr.storeAt, Instr.sureAddr, Sem.run_bind, Sem.run_pure, Result.andThen_ok, hr]
  exact h2
/-- The state then. -/
theorem Sf.part {w W : World} {pre post : List FBox} {F : List (Value × List Int)} {b : Nat} {ty : TypeId} {cs : List Value} (h : Sf w (pre ++ (b, ty, cs) :: post) F W) (k k1 k2 k3 : Nat) (_e1 : k1 = k + 1) (_e2 : k2 = k + 2) (_e3 : k3 = k + 3) (v0 v1 v2 v3 : Value) :
    Sf w (pre ++ (b, ty, (((cs.set k v0).set k1 v1).set k2 v2).set k3 v3) :: post) F ((((W.setCell ⟨b, k, none⟩ v0).setCell ⟨b, k1, none⟩ v1).setCell ⟨b, k2, none⟩ v2).setCell ⟨b, k3, none⟩ v3) :=
  (((h.set k v0).set k1 v1).set k2 v2).set k3 v3
theorem infoFrac : ∃ ie, Tryz.prog.info? 28 = some ie ∧ 4 = ie.size := ⟨_, rfl, rfl⟩

end Go.Proofs.YtmhdhabgdlefjaaGreatDoor.Un

namespace Go.Proofs.YtmhdhabgdlefjaaGreatDoor.Un
open Go.RowKit Bi Dm

theorem pwD_step {q : Rat} (h : q ≠ 0) (k : Nat) : 1 / pwN q k / q = 1 / pwN q (k + 1) := by
  have := pwN_ne h k
  show _ = 1 / (pwN q k * q)
  grind
theorem Sf.facts {w W : World} {L : List FBox} {F F' : List (Value × List Int)} (h : Sf w L F W) (hs : ∀ f ∈ F', f ∈ F) : Sf w L F' W :=
  ⟨h.below, h.le, h.box, fun f hf => h.ints f (hs f hf), fun f hf => h.off f (hs f hf), h.pw⟩

end Go.Proofs.YtmhdhabgdlefjaaGreatDoor.Un

namespace Go.Proofs.YtmhdhabgdlefjaaGreatDoor.Un
open Go.RowKit Bi Dm

set_option maxHeartbeats 8000000 in
theorem u9same_k {w : World} {f g : Nat → Int} {s1 : Int} {a1 b1 : Option Addr} {n1 c1 m1 d1 : Nat} {x : Rat} {s2 : Int} {a2 b2 : Option Addr} {n2 c2 m2 d2 : Nat} {y : Rat} (hx : Fr w s1 (.slice a1 n1 c1) (.slice b1 m1 d1) x) (hy : Fr w s2 (.slice a2 n2 c2) (.slice b2 m2 d2) y) (hd : eqB f g = true) {k : Bool} (hk : decide (x = y) = k) :
    Calls Tryz.prog 16 #[.agg (uc f s1 (.slice a1 n1 c1) 1 (.slice b1 m1 d1)), .agg (uc g s2 (.slice a2 n2 c2) 1 (.slice b2 m2 d2))] w fun e w' => e = .returned (.bool k) ∧ RowKit.Below w.heap.size w w' := by
  have Ex := Lib.hid hx.1.1
  have Ey := Lib.hid hy.1.1
  have heq := eq_dim f g
  rw [hd] at heq
  have HK := Lib.hid hk
  have s0 := (((((((Sf.start w).arg hx.2.2).arg hx.1.2).arg hy.2.2).arg hy.1.2).put [.int .i64 (f 0), .int .i64 (f 1), .int .i64 (f 2), .int .i64 (f 3), .int .i64 (f 4), .int .i64 (f 5), .int .i64 s1, .slice a1 n1 c1, .int .i64 1, .slice b1 m1 d1] 30).put [.int .i64 (g 0), .int .i64 (g 1), .int .i64 (g 2), .int .i64 (g 3), .int .i64 (g 4), .int .i64 (g 5), .int .i64 s2, .slice a2 n2 c2, .int .i64 1, .slice b2 m2 d2] 30)
  try simp only [World.size_alloc] at s0
  have S0 := Lib.hid s0
  clear s0
  clear hx hy hd hk
  unfold uc
  unfold cl at heq
  go_enter Tryz.func16, Tryz.ntmps16
  obtain ⟨q1, q2, q3, q4, q5, q6, q7, q8, q9, q10⟩ := Fb.cells10 (S0.out.box (w.heap.size + 1, 30, [.int .i64 (g 0), .int .i64 (g 1), .int .i64 (g 2), .int .i64 (g 3), .int .i64 (g 4), .int .i64 (g 5), .int .i64 s2, .slice a2 n2 c2, .int .i64 1, .slice b2 m2 d2]) mq0)
  obtain ⟨q11, q12, q13, q14, q15, q16, q17, q18, q19, q20⟩ := Fb.cells10 (S0.out.box (w.heap.size, 30, [.int .i64 (f 0), .int .i64 (f 1), .int .i64 (f 2), .int .i64 (f 3), .int .i64 (f 4), .int .i64 (f 5), .int .i64 s1, .slice a1 n1 c1, .int .i64 1, .slice b1 m1 d1]) mq1)
  go_wp2_with fail
  clear q1 q2 q3 q4 q5 q6 q7 q8 q9 q10 q11 q12 q13 q14 q15 q16 q17 q18 q19 q20
  refine (rfsame_k (S0.out.fr (v := .slice a1 n1 c1) (u := .slice b1 m1 d1) (r := x) mq2 mq3 Ex.out) (S0.out.fr (v := .slice a2 n2 c2) (u := .slice b2 m2 d2) (r := y) mq0 mq1 Ey.out) HK.out).mono ?_
  rintro e w1 ⟨rfl, hb⟩
  have R1 := Lib.hid (S0.out.later hb)
  clear hb
  go_wp2_with fail
  go_ret
  exact ⟨rfl, R1.out.below⟩

end Go.Proofs.YtmhdhabgdlefjaaGreatDoor.Un

namespace Go.Proofs.YtmhdhabgdlefjaaGreatDoor.Un
open Go.RowKit Dm

def itc (x : List UInt8 × Int) : List Value := [sv x.1, .int .i64 x.2]
/-- The slice v has the items l, at the head of a block of its own if it has room for any. -/
def OwnIt (w : World) (v : Value) (l : List (List UInt8 × Int)) : Prop := Own w 70 2 v l.length (l.flatMap itc)
theorem OwnIt.nil (w : World) : OwnIt w (.slice none 0 0) [] := Own.nil w _ 2
theorem infoIt : (Tryz.prog.info? 70).map (fun i => (i.zero, i.size, i.bytes)) = some (some (.agg #[.string ⟨#[]⟩, .int .i64 0]), 2, 24) := by kernel_rfl
theorem OwnIt.snoc {w : World} {v : Value} {l : List (List UInt8 × Int)} (h : OwnIt w v l) (hl : l.length ≤ 1000000) (x : List UInt8 × Int) :
    ∃ a c w', (∀ ty, (Builtin.append_ #[43, 43] ty #[v, .slice (some ⟨w.heap.size, 0, none⟩) 1 1]).run Tryz.prog (w.alloc (.cells #[sv x.1, .int .i64 x.2] 70)) = .ok (.slice a (l.length + 1) c) w') ∧ OwnIt w' (.slice a (l.length + 1) c) (l ++ [x]) ∧
      (w.alloc (.cells #[sv x.1, .int .i64 x.2] 70)).grownBy w' (blk v) ∧ (blk (.slice a (l.length + 1) c) = none ∨ blk (.slice a (l.length + 1) c) = blk v ∨ blk (.slice a (l.length + 1) c) = some (w.heap.size + 1)) := by
  obtain ⟨i0, hi, hz0, hz1, hz2⟩ := info_parts infoIt
  have hown : Own (w.alloc (.cells #[sv x.1, .int .i64 x.2] 70)) 70 2 v l.length (l.flatMap itc) := Own.grown h (World.grownBy_alloc w _ none) (by cases hb : blk v <;> simp)
  have hsrc : Src Tryz.prog 2 43 (.slice (some ⟨w.heap.size, 0, none⟩) 1 1) 1 [sv x.1, .int .i64 x.2] (w.alloc (.cells #[sv x.1, .int .i64 x.2] 70)) :=
    Src.ofSlice _ Tryz.underlying43 _ 1 1 [sv x.1, .int .i64 x.2] (by simp) (World.news_of_block (cs := #[sv x.1, .int .i64 x.2]) (t := 70) (fr := (0, 0)) (alloc_at w _)) (by simp [Value.oneCell', sv])
  have hrun := fun ty => own_append (P := Tryz.prog) (t := 43) (tx := 43) (ty := ty) Tryz.underlying43 hi hz0 hz1 hz2 rfl hown hsrc (by unfold maxLen; omega) (by omega)
  obtain ⟨v', w', hr, h1, h2, h3⟩ := hrun 0
  obtain ⟨a, c, rfl, _, _⟩ := h1.shape
  refine ⟨a, c, w', fun ty => ?_, by unfold OwnIt; simpa [itc] using h1, h2, by simpa using h3⟩
  have : Builtin.append_ #[43, 43] ty #[v, .slice (some ⟨w.heap.size, 0, none⟩) 1 1] = Builtin.append_ #[43, 43] 0 #[v, .slice (some ⟨w.heap.size, 0, none⟩) 1 1] := rfl
  rw [this]; exact hr
theorem exp_suffix (s : List UInt8) : ∃ d, s = d ++ (expL s).2 := by
  cases s with
  | nil => exact ⟨[], rfl⟩
  | cons c r =>
    rw [expL]
    split
    · exact ⟨[c], rfl⟩
    · exact ⟨[], rfl⟩
theorem item_suffix {s r : List UInt8} {x : List UInt8 × Nat} (h : itemL s = some (x, r)) : ∃ d, s = d ++ r := by
  unfold itemL at h
  split at h
  · cases h
  · simp only [Option.some.injEq, Prod.mk.injEq] at h
    obtain ⟨d, hd⟩ := exp_suffix (s.dropWhile letterB)
    rw [h.2] at hd
    exact ⟨s.takeWhile letterB ++ d, by rw [List.append_assoc, ← hd, List.takeWhile_append_dropWhile]⟩
theorem drop_suffix {s r : List UInt8} {x : List UInt8 × Nat} {a : Nat} {S : List UInt8} (hS : S.drop a = s) (ha : a ≤ S.length) (h : itemL s = some (x, r)) : S.drop (S.length - r.length) = r ∧ a < S.length - r.length ∧ r.length ≤ S.length := by
  obtain ⟨d, hd⟩ := item_suffix h
  have hl := item_len h
  have h1 : s.length = S.length - a := by rw [← hS, List.length_drop]
  have h2 : S = S.take a ++ (d ++ r) := by rw [← hd, ← hS, List.take_append_drop]
  refine ⟨?_, by omega, by omega⟩
  conv => lhs; arg 2; rw [h2]
  rw [show S.length - r.length = (S.take a ++ d).length by
    have := congrArg List.length h2
    simp only [List.length_append] at this ⊢; omega, ← List.append_assoc, List.drop_left]
end Go.Proofs.YtmhdhabgdlefjaaGreatDoor.Un

namespace Go.Proofs.YtmhdhabgdlefjaaGreatDoor.Un
open Go.RowKit Dm

/-- What holds in the loop. -/
structure Im (w : World) (S : List UInt8) (p : Nat) (l : List (List UInt8 × Int)) (v : Value) (wr : World) : Prop where
  own : OwnIt wr v l
  below : RowKit.Below w.heap.size w wr
  new : ∀ b, blk v = some b → w.heap.size ≤ b
  eq : itemsL S = (tailL (S.drop p)).map (l ++ ·)
  le : p ≤ S.length
  len : l.length ≤ p
theorem Im.later {w wr w' : World} {S : List UInt8} {p : Nat} {l : List (List UInt8 × Int)} {v : Value} (h : Im w S p l v wr) (hb : RowKit.Below wr.heap.size wr w') : Im w S p l v w' :=
  ⟨Own.grown h.own (grownBy_none hb) (by cases h' : blk v <;> simp), h.below.trans (hb.mono h.below.size), h.new, h.eq, h.le, h.len⟩
/-- One more item. -/
theorem Im.snoc {w wr w' : World} {S r v : List UInt8} {n p : Nat} {m : Int} {c : UInt8} {l : List (List UInt8 × Int)} {u u' : Value} {B : Nat} (h : Im w S p l u wr) (hc : signB c = true) (hd : S.drop p = c :: S.drop (p + 1)) (hp : p < S.length) (hi : itemL (S.drop (p + 1)) = some ((v, n), r)) (hm : m = if c = 47 then -(n : Int) else (n : Int))
    (ho : OwnIt w' u' (l ++ [(v, m)])) (hg : (wr.alloc (.cells #[sv v, .int .i64 m] 70)).grownBy w' (blk u)) (hB : B = wr.heap.size + 1) (hb : blk u' = none ∨ blk u' = blk u ∨ blk u' = some B) : Im w S (S.length - r.length) (l ++ [(v, m)]) u' w' := by
  obtain ⟨h1, h2, h3⟩ := drop_suffix rfl (by omega) hi
  refine ⟨ho, ?_, fun b e => ?_, ?_, by omega, by simp; have := h.len; omega⟩
  · exact (h.below.alloc h.below.size _).grown hg (by simp; exact Nat.le_succ_of_le h.below.size) (fun b e => h.new b e)
  · rcases hb with hb | hb | hb
    · rw [hb] at e; cases e
    · rw [hb] at e; exact h.new b e
    · rw [hb] at e; injection e with e; have := h.below.size; omega
  · rw [h.eq, hd, tailL_some hc hi, h1, Option.map_map, ← hm]
    congr 1
    funext t
    simp

theorem exp_le (s : List UInt8) : (expL s).1 ≤ 9 := by
  cases s with
  | nil => show 1 ≤ 9; omega
  | cons c r =>
    rw [expL]
    split
    · rename_i h
      unfold digitB at h
      simp only [Bool.and_eq_true, decide_eq_true_eq] at h
      show c.toNat - 48 ≤ 9; omega
    · show 1 ≤ 9; omega
theorem item_exp {s r v : List UInt8} {n : Nat} (h : itemL s = some ((v, n), r)) : n ≤ 9 := by
  unfold itemL at h
  split at h
  · cases h
  · simp only [Option.some.injEq, Prod.mk.injEq] at h
    have := exp_le (s.dropWhile letterB)
    rw [h.1.2] at this; exact this

theorem Im.first {w wr w' : World} {S r v : List UInt8} {n : Nat} {u' : Value} {B : Nat} (hb0 : RowKit.Below w.heap.size w wr) (hS : S.length ≤ 40) (hn : S.head? ≠ some 49) (hi : itemL S = some ((v, n), r))
    (ho : OwnIt w' u' ([] ++ [(v, (n : Int))])) (hg : (wr.alloc (.cells #[sv v, .int .i64 (n : Int)] 70)).grownBy w' (blk (.slice none 0 0))) (hB : B = wr.heap.size + 1) (hb : blk u' = none ∨ blk u' = blk (.slice none 0 0) ∨ blk u' = some B) : Im w S (S.length - r.length) [(v, (n : Int))] u' w' := by
  obtain ⟨h1, h2, h3⟩ := drop_suffix (S := S) (a := 0) List.drop_zero (by omega) hi
  have hne : S ≠ [] := by intro e; rw [e] at hi; cases hi
  refine ⟨ho, ?_, fun b e => ?_, ?_, by omega, by simp; omega⟩
  · exact (hb0.alloc hb0.size _).grown hg (by simp; exact Nat.le_succ_of_le hb0.size) (fun b e => by cases e)
  · rcases hb with hb | hb | hb
    · rw [hb] at e; cases e
    · rw [hb] at e; cases e
    · rw [hb] at e; injection e with e; have := hb0.size; omega
  · rw [items_star hS hn hne, tailL_some (by decide) hi, h1, if_neg (by decide)]
    rfl

end Go.Proofs.YtmhdhabgdlefjaaGreatDoor.Un

namespace Go.Proofs.YtmhdhabgdlefjaaGreatDoor.Un
open Go.RowKit Bi Dm

theorem pwN_szj {j : Nat} {q : Rat} (h : FSz j q) : ∀ k, FSz (j * k + 1) (pwN q k)
  | 0 => (FSz.one (by decide) (by decide) : FSz 1 (1 : Rat)).mono (by omega)
  | k + 1 => (pwN_szj h k).mul h (k := j * (k + 1) + 1) (by rw [Nat.mul_succ]; omega)
theorem pwZ_sz {j : Nat} {q : Rat} (h : FSz j q) (h0 : q ≠ 0) {n : Int} (hn : -9 ≤ n ∧ n ≤ 9) : FSz (9 * j + 2) (pwZ q n) ∧ pwZ q n ≠ 0 := by
  have hm : ∀ k : Nat, k ≤ 9 → j * k ≤ 9 * j := fun k hk => by rw [Nat.mul_comm 9 j]; exact Nat.mul_le_mul_left _ hk
  unfold pwZ
  split
  · exact ⟨(pwN_szj h n.toNat).mono (by have := hm n.toNat (by omega); omega), pwN_ne h0 _⟩
  · have hne := pwN_ne h0 (-n).toNat
    refine ⟨((FSz.one (by decide) (by decide) : FSz 1 (1 : Rat)).div (pwN_szj h (-n).toNat) hne (k := 1 + (j * (-n).toNat + 1)) rfl).mono (by have := hm (-n).toNat (by omega); omega), ?_⟩
    rw [Rat.div_def, Rat.one_mul]
    intro e
    have h1 := Rat.mul_inv_cancel _ hne
    rw [e, Rat.mul_zero] at h1
    revert h1; decide
theorem tail_bound : ∀ (k : Nat) (s : List UInt8) (l : List (List UInt8 × Int)), s.length ≤ k → tailL s = some l → 2 * l.length ≤ s.length ∧ ∀ x ∈ l, -9 ≤ x.2 ∧ x.2 ≤ 9
  | _, [], l, _, h => by
    rw [tailL_nil] at h; injection h with h; subst h
    exact ⟨Nat.zero_le _, fun x hx => by cases hx⟩
  | 0, c :: r, l, hl, _ => by simp at hl
  | k + 1, c :: r, l, hl, h => by
    by_cases hc : signB c = true
    · rcases hi : itemL r with _ | ⟨⟨v, n⟩, r'⟩
      · rw [tailL_none hi] at h; cases h
      · rw [tailL_some hc hi] at h
        rcases ht : tailL r' with _ | l'
        · rw [ht] at h; cases h
        · rw [ht] at h
          simp only [Option.map_some, Option.some.injEq] at h
          subst h
          have h1 := item_len hi
          simp only [List.length_cons] at hl
          have h2 := tail_bound k r' l' (by omega) ht
          have h3 := item_exp hi
          refine ⟨by simp only [List.length_cons]; omega, fun x hx => ?_⟩
          rcases List.mem_cons.1 hx with rfl | hx
          · dsimp only; split <;> omega
          · exact h2.2 x hx
    · rw [tailL_bad (by simpa using hc)] at h; cases h
theorem items_bound {s : List UInt8} {l : List (List UInt8 × Int)} (h : itemsL s = some l) : l.length ≤ 20 ∧ ∀ x ∈ l, -9 ≤ x.2 ∧ x.2 ≤ 9 := by
  unfold itemsL at h
  by_cases h40 : 40 < s.length
  · rw [if_pos h40] at h; cases h
  · rw [if_neg h40] at h
    cases s with
    | nil => injection h with h; subst h; exact ⟨Nat.zero_le _, fun x hx => by cases hx⟩
    | cons c r =>
      dsimp only at h
      simp only [List.length_cons] at h40
      by_cases hc : c = 49
      · rw [if_pos hc] at h
        have := tail_bound _ r l (Nat.le_refl _) h
        exact ⟨by omega, this.2⟩
      · rw [if_neg hc] at h
        have := tail_bound _ (42 :: c :: r) l (Nat.le_refl _) h
        simp only [List.length_cons] at this
        exact ⟨by omega, this.2⟩
theorem sym_n {l : List UInt8} {b : Nat} {n : Int} {q : Rat} (h : symL l = some (b, n, q)) : 1 ≤ n ∧ n ≤ 3 := by
  unfold symL at h
  by_cases e0 : l = [103]
  · rw [if_pos e0] at h; injection h with h; injection h with h1 h2; injection h2 with h2 h3; subst h2; decide
  rw [if_neg e0] at h
  by_cases e1 : l = [116]
  · rw [if_pos e1] at h; injection h with h; injection h with h1 h2; injection h2 with h2 h3; subst h2; decide
  rw [if_neg e1] at h
  by_cases e2 : l = [109]
  · rw [if_pos e2] at h; injection h with h; injection h with h1 h2; injection h2 with h2 h3; subst h2; decide
  rw [if_neg e2] at h
  by_cases e3 : l = [108]
  · rw [if_pos e3] at h; injection h with h; injection h with h1 h2; injection h2 with h2 h3; subst h2; decide
  rw [if_neg e3] at h
  by_cases e4 : l = [115]
  · rw [if_pos e4] at h; injection h with h; injection h with h1 h2; injection h2 with h2 h3; subst h2; decide
  rw [if_neg e4] at h
  by_cases e5 : l = [104]
  · rw [if_pos e5] at h; injection h with h; injection h with h1 h2; injection h2 with h2 h3; subst h2; decide
  rw [if_neg e5] at h
  by_cases e6 : l = [100]
  · rw [if_pos e6] at h; injection h with h; injection h with h1 h2; injection h2 with h2 h3; subst h2; decide
  rw [if_neg e6] at h
  by_cases e7 : l = [74]
  · rw [if_pos e7] at h; injection h with h; injection h with h1 h2; injection h2 with h2 h3; subst h2; decide
  rw [if_neg e7] at h
  by_cases e8 : l = [87, 104]
  · rw [if_pos e8] at h; injection h with h; injection h with h1 h2; injection h2 with h2 h3; subst h2; decide
  rw [if_neg e8] at h
  by_cases e9 : l = [99, 101, 110, 116]
  · rw [if_pos e9] at h; injection h with h; injection h with h1 h2; injection h2 with h2 h3; subst h2; decide
  rw [if_neg e9] at h
  by_cases e10 : l = [101, 117, 114]
  · rw [if_pos e10] at h; injection h with h; injection h with h1 h2; injection h2 with h2 h3; subst h2; decide
  rw [if_neg e10] at h
  by_cases e11 : l = [112, 99]
  · rw [if_pos e11] at h; injection h with h; injection h with h1 h2; injection h2 with h2 h3; subst h2; decide
  rw [if_neg e11] at h
  cases h
theorem mul_ne {a b : Rat} (ha : a ≠ 0) (hb : b ≠ 0) : a * b ≠ 0 := by
  intro e
  rcases Rat.mul_eq_zero.1 e with h | h
  · exact ha h
  · exact hb h
theorem pos_ne {q : Rat} (h : 0 < q) : q ≠ 0 := by
  intro e; rw [e] at h; exact absurd h (by decide)
theorem word_bound {l : List UInt8} {b : Nat} {n : Int} {q : Rat} (h : wordL l = some (b, n, q)) : b < 6 ∧ (1 ≤ n ∧ n ≤ 3) ∧ FSz 3 q ∧ q ≠ 0 := by
  unfold wordL at h
  rcases hs : symL l with _ | ⟨b', n', q'⟩
  · rw [hs] at h
    cases l with
    | nil => cases h
    | cons c r =>
      dsimp only at h
      rcases hp : preL c with _ | p
      · rw [hp] at h; cases h
      · rw [hp] at h
        dsimp only at h
        by_cases hc : canP r = true
        · rw [if_pos hc] at h
          rcases hr : symL r with _ | ⟨b', n', q'⟩
          · rw [hr] at h; cases h
          · rw [hr] at h
            simp only [Option.map_some, Option.some.injEq, Prod.mk.injEq] at h
            obtain ⟨rfl, rfl, rfl⟩ := h
            have h1 := sym_sz hr
            have h2 := pre_sz hp
            exact ⟨h1.2.2, sym_n hr, h1.1.mul h2.1 (k := 3) rfl, mul_ne (pos_ne h1.2.1) (pos_ne h2.2)⟩
        · rw [if_neg hc] at h; cases h
  · rw [hs] at h
    simp only [Option.some.injEq, Prod.mk.injEq] at h
    obtain ⟨rfl, rfl, rfl⟩ := h
    have h1 := sym_sz hs
    exact ⟨h1.2.2, sym_n hs, h1.1.mono (by decide), pos_ne h1.2.1⟩
theorem ev_bound : ∀ (l : List (List UInt8 × Int)) (f g : Nat → Int) (r R : Rat) (j : Nat) (m : Int), (∀ x ∈ l, -9 ≤ x.2 ∧ x.2 ≤ 9) → (∀ i, -m ≤ f i ∧ f i ≤ m) → FSz j r → r ≠ 0 → evL l f r = some (g, R) →
    (∀ i, -(m + 27 * l.length) ≤ g i ∧ g i ≤ m + 27 * l.length) ∧ FSz (j + 29 * l.length) R ∧ R ≠ 0
  | [], f, g, r, R, j, m, _, hf, hr, h0, h => by
    rw [evL] at h
    simp only [Option.some.injEq, Prod.mk.injEq] at h
    obtain ⟨rfl, rfl⟩ := h
    exact ⟨fun i => by have := hf i; simp; omega, hr, h0⟩
  | (w, n) :: l, f, g, r, R, j, m, hx, hf, hr, h0, h => by
    rw [evL] at h
    rcases hw : wordL w with _ | ⟨b, e, q⟩
    · rw [hw] at h; cases h
    · rw [hw] at h
      dsimp only at h
      obtain ⟨hb, he, hq, hq0⟩ := word_bound hw
      have hn := hx (w, n) List.mem_cons_self
      dsimp only at hn
      have hp := pwZ_sz hq hq0 hn
      have hen : -27 ≤ e * n ∧ e * n ≤ 27 := by
        obtain rfl | rfl | rfl : e = 1 ∨ e = 2 ∨ e = 3 := by omega
        all_goals omega
      have ih := ev_bound l _ g _ R (j + 29) (m + 27) (fun x h => hx x (List.mem_cons_of_mem _ h)) (fun i => by
        have := hf i
        split <;> omega) (hr.mul hp.1 (k := j + 29) rfl) (mul_ne h0 hp.2) h
      refine ⟨fun i => ?_, ?_, ih.2.2⟩
      · have := ih.1 i; simp only [List.length_cons]; omega
      · exact ih.2.1.mono (by simp only [List.length_cons]; omega)
end Go.Proofs.YtmhdhabgdlefjaaGreatDoor.Un

namespace Go.Proofs.YtmhdhabgdlefjaaGreatDoor.Un
open Go.RowKit Bi Dm

theorem OwnIt.later {w w' : World} {v : Value} {l : List (List UInt8 × Int)} (h : OwnIt w v l) (hb : RowKit.Below w.heap.size w w') : OwnIt w' v l :=
  Dm.Own.grown h (Dm.grownBy_none hb) (by cases h' : Dm.blk v <;> simp)
theorem Sf.tail {w W : World} {x : FBox} {L : List FBox} {F : List (Value × List Int)} (h : Sf w (x :: L) F W) : Sf w L F W :=
  ⟨h.below, fun y hy => h.le y (List.mem_cons_of_mem _ hy), fun y hy => h.box y (List.mem_cons_of_mem _ hy), h.ints, fun f hf y hy => h.off f hf y (List.mem_cons_of_mem _ hy), (List.pairwise_cons.1 h.pw).2⟩
theorem itc_get : ∀ (l : List (List UInt8 × Int)) (k j : Nat) (h : k < l.length) (u : Value), (itc l[k])[j]? = some u → (l.flatMap itc)[k * 2 + j]? = some u
  | x :: l, 0, j, _, u, hu => by
    simp only [List.flatMap_cons, Nat.zero_mul, Nat.zero_add]
    rw [List.getElem?_append_left]
    · exact hu
    · exact (List.getElem?_eq_some_iff.1 hu).1
  | x :: l, k + 1, j, h, u, hu => by
    simp only [List.flatMap_cons]
    rw [List.getElem?_append_right (by simp [itc]; omega)]
    have := itc_get l k j (by simpa using h) u (by simpa using hu)
    rw [← this]; congr 1; simp [itc]; omega
/-- An item of the slice, in its cells. -/
theorem OwnIt.at {w : World} {a : Option Addr} {c : Nat} {l : List (List UInt8 × Int)} (h : OwnIt w (.slice a l.length c) l) {k : Nat} (hk : k < l.length) :
    ∃ g, a = some ⟨g, 0, none⟩ ∧ w.cell? ⟨g, k * 2, none⟩ = some (sv l[k].1) ∧ w.cell? ⟨g, k * 2 + 1, none⟩ = some (.int .i64 l[k].2) := by
  obtain ⟨g, hg, h0⟩ := Dm.Own.cell h (itc_get l k 0 hk _ rfl)
  obtain ⟨g', hg', h1⟩ := Dm.Own.cell h (itc_get l k 1 hk _ rfl)
  rw [hg] at hg'
  injection hg' with e
  injection e with e
  subst e
  exact ⟨g, hg, h0, h1⟩
theorem dim_cell (f : Nat → Int) (r : List Value) (j : Nat) (hj : j < 6) : (.int .i64 (f 0) :: .int .i64 (f 1) :: .int .i64 (f 2) :: .int .i64 (f 3) :: .int .i64 (f 4) :: .int .i64 (f 5) :: r)[j]? = some (Value.int .i64 (f j)) := by
  obtain rfl | rfl | rfl | rfl | rfl | rfl : j = 0 ∨ j = 1 ∨ j = 2 ∨ j = 3 ∨ j = 4 ∨ j = 5 := by omega
  all_goals rfl
/-- The first j exponents are those of g, the others those of f. -/
def mix (f g : Nat → Int) (j : Nat) : Nat → Int := fun i => if i < j then g i else f i
theorem mix_zero (f g : Nat → Int) : mix f g 0 = f := by funext i; unfold mix; simp
theorem mix_all (f g : Nat → Int) (h : ∀ i, 6 ≤ i → f i = g i) : mix f g 6 = g := by
  funext i; unfold mix; split
  · rfl
  · exact h i (by omega)
theorem mix_cells (f g : Nat → Int) (j : Nat) (r : List Value) (hj : j < 6) :
    (.int .i64 (mix f g j 0) :: .int .i64 (mix f g j 1) :: .int .i64 (mix f g j 2) :: .int .i64 (mix f g j 3) :: .int .i64 (mix f g j 4) :: .int .i64 (mix f g j 5) :: r).set j (.int .i64 (g j)) =
      .int .i64 (mix f g (j + 1) 0) :: .int .i64 (mix f g (j + 1) 1) :: .int .i64 (mix f g (j + 1) 2) :: .int .i64 (mix f g (j + 1) 3) :: .int .i64 (mix f g (j + 1) 4) :: .int .i64 (mix f g (j + 1) 5) :: r := by
  obtain rfl | rfl | rfl | rfl | rfl | rfl : j = 0 ∨ j = 1 ∨ j = 2 ∨ j = 3 ∨ j = 4 ∨ j = 5 := by omega
  all_goals simp [mix]
theorem mix_at (f g : Nat → Int) (j : Nat) : mix f g j j = f j := by unfold mix; simp
/-- One item more is evaluated. -/
theorem ev_take {l : List (List UInt8 × Int)} {k : Nat} (hk : k < l.length) {f : Nat → Int} {r : Rat} (h : evL (l.take k) zf 1 = some (f, r)) :
    evL (l.take (k + 1)) zf 1 = (wordL l[k].1).map (fun u => ((fun i => f i + (if i = u.1 then u.2.1 * l[k].2 else 0)), r * pwZ u.2.2 l[k].2)) := by
  rw [List.take_succ_eq_append_getElem hk, evL_app, h]
  show evL [(l[k].1, l[k].2)] f r = _
  rw [evL]
  rcases wordL l[k].1 with _ | ⟨b, e, q⟩ <;> rfl
end Go.Proofs.YtmhdhabgdlefjaaGreatDoor.Un

namespace Go.Proofs.YtmhdhabgdlefjaaGreatDoor.Un
open Go.RowKit Bi Dm

def rowOf (x : List UInt8 × Nat × Int × Int × Int × Bool) : Array Value := #[.string ⟨x.1.toArray⟩, .int .i64 (x.2.1 : Int), .int .i64 x.2.2.1, .int .i64 x.2.2.2.1, .int .i64 x.2.2.2.2.1, .bool x.2.2.2.2.2]
def symC : List Value := symT.flatMap fun x => (rowOf x).toList
def symCells : Array Value := symC.toArray
/-- What the calls read of the package-level variables. -/
structure EnvU (w : World) : Prop where
  dim : Dm.Env w
  tab : ∃ t fr, w.heap[0]? = some (.cells symCells t fr)
theorem EnvU.below {w w' : World} (he : EnvU w) (h : RowKit.Below w.heap.size w w') : EnvU w' := by
  obtain ⟨t, fr, hg⟩ := he.tab
  exact ⟨he.dim.below h, ⟨t, fr, by rw [h.block _ (lt_of_heap hg)]; exact hg⟩⟩
theorem sym_index {k : Nat} {x : List UInt8 × Nat × Int × Int × Int × Bool} (h : symT[k]? = some x) (W : World) : (Instr.index 92 (.agg symCells) (.int .i64 (k : Int))).run Tryz.prog W = .ok (.agg (rowOf x)) W := by
  have hl : k < 12 := (List.getElem?_eq_some_iff.1 h).1
  obtain rfl | rfl | rfl | rfl | rfl | rfl | rfl | rfl | rfl | rfl | rfl | rfl := lt12 hl
  all_goals
    simp only [symT, List.getElem?_cons_succ, List.getElem?_cons_zero, Option.some.injEq] at h
    subst h
    rfl
theorem infoTab : (Tryz.prog.info? 92).map (·.size) = some symCells.size := by kernel_rfl
theorem suf_is {L p nm : List UInt8} (h : L = p ++ nm) : Lib.hasSuffix L nm = true ∧ Lib.trimSuffix L nm = p := by
  subst h
  have h1 : Lib.hasSuffix (p ++ nm) nm = true := by unfold Lib.hasSuffix; rw [List.isSuffixOf_iff_suffix]; exact List.suffix_append _ _
  refine ⟨h1, ?_⟩
  unfold Lib.trimSuffix; rw [if_pos h1]; simp
theorem suf_of {L nm : List UInt8} (h : Lib.hasSuffix L nm = true) : L = Lib.trimSuffix L nm ++ nm := by
  have h1 : nm <:+ L := by unfold Lib.hasSuffix at h; rwa [List.isSuffixOf_iff_suffix] at h
  obtain ⟨t, rfl⟩ := h1
  rw [(suf_is rfl).2]
theorem miss_step {L : List UInt8} {k : Nat} (h : Miss L k) {nm : List UInt8} {b : Nat} {n xa xb : Int} {t : Bool} (hk : symT[k]? = some (nm, b, n, xa, xb, t))
    (hb : Lib.hasSuffix L nm = true → ∀ a c, preP (Lib.trimSuffix L nm) = some (a, c) → (Lib.trimSuffix L nm = [] ∨ t = true) → False) : Miss L (k + 1) := by
  intro i hi nm' b' n' xa' xb' t' hi' p a c hp ht e
  by_cases hik : i = k
  · subst hik
    rw [hk] at hi'
    simp only [Option.some.injEq, Prod.mk.injEq] at hi'
    obtain ⟨rfl, rfl, rfl, rfl, rfl, rfl⟩ := hi'
    obtain ⟨h1, h2⟩ := suf_is e
    exact hb h1 a c (by rw [h2]; exact hp) (by rw [h2]; exact ht)
  · exact h i (by omega) nm' b' n' xa' xb' t' hi' p a c hp ht e
theorem zu_cell (b : Nat) (hb : b < 6) : (([.int .i64 0, .int .i64 0, .int .i64 0, .int .i64 0, .int .i64 0, .int .i64 0, .int .i64 0, .slice none 0 0, .int .i64 0, .slice none 0 0] : List Value))[b]? = some (.int .i64 0) := by
  rcases lt6 hb with rfl | rfl | rfl | rfl | rfl | rfl <;> rfl
theorem zu_set (b : Nat) (hb : b < 6) (n : Int) : ([.int .i64 0, .int .i64 0, .int .i64 0, .int .i64 0, .int .i64 0, .int .i64 0, .int .i64 0, .slice none 0 0, .int .i64 0, .slice none 0 0] : List Value).set b (.int .i64 n) = [.int .i64 (up zf b n 0), .int .i64 (up zf b n 1), .int .i64 (up zf b n 2), .int .i64 (up zf b n 3), .int .i64 (up zf b n 4), .int .i64 (up zf b n 5), .int .i64 0, .slice none 0 0, .int .i64 0, .slice none 0 0] := by
  rcases lt6 hb with rfl | rfl | rfl | rfl | rfl | rfl <;> rfl
theorem str_empty (s : ByteArray) (b nb : Bool) (h : decide (s.data.toList = []) = b) (hn : (!b) = nb) : (s.toList == (⟨#[]⟩ : ByteArray).toList) = b ∧ (s.toList != (⟨#[]⟩ : ByteArray).toList) = nb ∧ (s.toList == []) = b ∧ (s.toList != []) = nb ∧ s.toList.isEmpty = b := by
  have h1 : (s.toList == []) = b := by
    rw [ByteArray.toList_eq, ← h]
    cases s.data.toList <;> rfl
  have h2 : (s.toList == (⟨#[]⟩ : ByteArray).toList) = b := by rw [ByteArray.toList_eq ⟨#[]⟩]; exact h1
  subst hn
  refine ⟨h2, by simp only [bne, h2], h1, by simp only [bne, h1], ?_⟩
  rw [← h1]; cases s.toList <;> rfl
end Go.Proofs.YtmhdhabgdlefjaaGreatDoor.Un

namespace Go.Proofs.YtmhdhabgdlefjaaGreatDoor.Un
open Go.RowKit Bi Dm

set_option maxHeartbeats 20000000 in
theorem wordP_any (s : ByteArray) (hs : s.size ≤ 1000) (w : World) (he : EnvU w) : Calls Tryz.prog 37 #[.string s] w (WordEnd s.data.toList w) := by
  obtain ⟨t0, fr0, hg⟩ := he.tab
  have HIX := Lib.hid (fun (k : Nat) x (h : symT[k]? = some x) W => sym_index h W)
  have HI := Lib.hid infoTab
  obtain ⟨SC, hSC⟩ : ∃ SC, symCells = SC := ⟨_, rfl⟩
  rw [hSC] at HIX HI hg
  obtain ⟨L, hL⟩ : ∃ L, s.data.toList = L := ⟨_, rfl⟩
  have HWS := Lib.hid (fun (b : Nat) (n : Int) (q : Rat) (h : wordL L = some (b, n, q)) (e : Ending) (w' : World) (g : UVB (up zf b n) q true w e w') => word_some h g)
  have HWN := Lib.hid (fun (h : wordL L = none) (e : Ending) (w' : World) (g : Gives (.tuple #[.agg (uc zf 0 (.slice none 0 0) 0 (.slice none 0 0)), .bool false]) w e w') => word_none h g)
  have HCS : Hid (∀ (NM : ByteArray) (W : World), Calls Tryz.prog 67 #[.string s, .string NM] W fun e w' => e = .returned (.tuple #[.string ⟨(Lib.trimSuffix L NM.data.toList).toArray⟩, .bool (Lib.hasSuffix L NM.data.toList)]) ∧ w' = W) := Lib.hid (fun NM W => by
    have := Tryz.strings_CutSuffix s NM W (by omega)
    rwa [hL] at this)
  have hg0 : (w.alloc (.cells #[.int .i64 0, .int .i64 0, .int .i64 0, .int .i64 0, .int .i64 0, .int .i64 0, .int .i64 0, .slice none 0 0, .int .i64 0, .slice none 0 0] 30)).heap[0]? = some (.cells SC t0 fr0) := by
    rw [(Bi.below_alloc w _).block _ (lt_of_heap hg)]; exact hg
  have HG := Lib.hid hg0
  rw [hL]
  clear he hg hSC hL hg0
  unfold Dm.Gives uc at HWN
  have s0 := ((Sf.start w).put [.int .i64 0, .int .i64 0, .int .i64 0, .int .i64 0, .int .i64 0, .int .i64 0, .int .i64 0, .slice none 0 0, .int .i64 0, .slice none 0 0] 30)
  try simp only [World.size_alloc] at s0
  have S0 := Lib.hid s0
  clear s0
  go_enter Tryz.func37, Tryz.ntmps37
  go_wp2_with (refine wpList_load_row rfl _ _ rfl _ rfl _ SC fr0 _ HG.out Tryz.underlying92 rfl HI.out ?_)
  go_loopw [13] (fun t wr => ∃ k : Nat, k ≤ 12 ∧ t = .int .i64 (k : Int) ∧ Miss L k ∧ Sf w [(w.heap.size, 30, [.int .i64 0, .int .i64 0, .int .i64 0, .int .i64 0, .int .i64 0, .int .i64 0, .int .i64 0, .slice none 0 0, .int .i64 0, .slice none 0 0])] [] wr) (fun t _ => 13 - (RowKit.intOf t).toNat)
  case atStart => exact ⟨0, by omega, rfl, miss_zero L, S0.out⟩
  case round =>
    obtain ⟨k, hk, rfl, hmi, hS⟩ := hrel
    have HS := Lib.hid hS
    have HMI := Lib.hid hmi
    clear hmi hS
    by_cases hlt : k < 12
    · have hlt2 : decide ((k : Int) < 12) = true := by simp; omega
      obtain ⟨⟨nm, b, n, xa, xb, t⟩, hx⟩ : ∃ x, symT[k]? = some x := ⟨_, List.getElem?_eq_getElem (show k < symT.length from hlt)⟩
      have hix := HIX.out k _ hx
      unfold rowOf at hix
      dsimp only at hix
      have hms := HMI.out
      have HMS := Lib.hid (fun hb => miss_step hms hx hb)
      have HHT := Lib.hid (fun p a c (hp : preP p = some (a, c)) (ht : p = [] ∨ t = true) => word_hit hx hp ht)
      have HSU := Lib.hid (fun (h : Lib.hasSuffix L nm = true) => suf_of h)
      have HC := HCS.out ⟨nm.toArray⟩
      rw [show (⟨nm.toArray⟩ : ByteArray).data.toList = nm from rfl] at HC
      obtain ⟨NM, hNM⟩ : ∃ NM : ByteArray, (⟨nm.toArray⟩ : ByteArray) = NM := ⟨_, rfl⟩
      rw [hNM] at hix HC
      obtain ⟨P, hP⟩ : ∃ P, Lib.trimSuffix L nm = P := ⟨_, rfl⟩
      have HPR := prefixP_any ⟨P.toArray⟩
      rw [show (⟨P.toArray⟩ : ByteArray).data.toList = P from rfl] at HPR
      rw [hP] at HC HMS HSU
      have HEM := str_empty ⟨P.toArray⟩
      rw [show (⟨P.toArray⟩ : ByteArray).data.toList = P from rfl] at HEM
      obtain ⟨PX, hPX⟩ : ∃ PX : ByteArray, (⟨P.toArray⟩ : ByteArray) = PX := ⟨_, rfl⟩
      rw [hPX] at HC HPR HEM
      obtain ⟨fd, hfd⟩ : ∃ fd, Lib.hasSuffix L nm = fd := ⟨_, rfl⟩
      rw [hfd] at HC HMS HSU
      have HC := Lib.hid HC
      obtain ⟨BB, hBB⟩ : ∃ BB : Int, (b : Int) = BB := ⟨_, rfl⟩
      rw [hBB] at hix
      clear hNM hP hPX hfd hms hx
      rcases hpp : preP P with _ | ⟨a, c⟩
      · have HP2 : Hid (∀ W, Calls Tryz.prog 68 #[.string PX] W fun e w' => e = .returned (.tuple #[.int .i64 0, .int .i64 0, .bool false]) ∧ w' = W) := Lib.hid (fun W => by have := HPR W; unfold preV at this; rwa [hpp] at this)
        clear HPR HHT HSU
        rcases hpe : decide (P = []) with _ | _
        · obtain ⟨m1, m2, m3, m4, m5⟩ := HEM false true hpe rfl
          clear HEM
          cases fd
          · skip
            have P1 := Lib.hid (HS.out.put [.string ⟨#[]⟩, .int .i64 0, .int .i64 0, .int .i64 0, .int .i64 0, .bool false] 91)
            have Q1 := Lib.hid (Sf.row (pre := []) P1.out [.string NM, .int .i64 BB, .int .i64 n, .int .i64 xa, .int .i64 xb, .bool t])
            obtain ⟨q2, q3, q4, q5, q6, q7⟩ := Fb.cells6 (Q1.out.box (wr.heap.size, 91, [.string NM, .int .i64 BB, .int .i64 n, .int .i64 xa, .int .i64 xb, .bool t]) mq0)
            go_wp2_with (first | refine wpList_store_row rfl _ _ _ rfl _ #[.string NM, .int .i64 BB, .int .i64 n, .int .i64 xa, .int .i64 xb, .bool t] rfl rfl _ _ (P1.out.box _ List.mem_cons_self) (by kernel_rfl) rfl (by simp [Value.oneCell']) ?_)
            refine (HC.out _).mono ?_
            rintro e _ ⟨rfl, rfl⟩
            go_wp2_with fail
            refine (HP2.out _).mono ?_
            rintro e _ ⟨rfl, rfl⟩
            go_wp2_with fail
            clear q2 q3 q4 q5 q6 q7
            have HM2 := Lib.hid (HMS.out (fun _ a c h _ => by rw [hpp] at h; cases h))
            have HT := Lib.hid (Sf.tail Q1.out)
            go_roundw
            case rel => exact ⟨k + 1, hlt, by go_num, HM2.out, HT.out⟩
            case measure => simp [RowKit.intOf]; omega
          · skip
            have P8 := Lib.hid (HS.out.put [.string ⟨#[]⟩, .int .i64 0, .int .i64 0, .int .i64 0, .int .i64 0, .bool false] 91)
            have Q8 := Lib.hid (Sf.row (pre := []) P8.out [.string NM, .int .i64 BB, .int .i64 n, .int .i64 xa, .int .i64 xb, .bool t])
            obtain ⟨q9, q10, q11, q12, q13, q14⟩ := Fb.cells6 (Q8.out.box (wr.heap.size, 91, [.string NM, .int .i64 BB, .int .i64 n, .int .i64 xa, .int .i64 xb, .bool t]) mq0)
            go_wp2_with (first | refine wpList_store_row rfl _ _ _ rfl _ #[.string NM, .int .i64 BB, .int .i64 n, .int .i64 xa, .int .i64 xb, .bool t] rfl rfl _ _ (P8.out.box _ List.mem_cons_self) (by kernel_rfl) rfl (by simp [Value.oneCell']) ?_)
            refine (HC.out _).mono ?_
            rintro e _ ⟨rfl, rfl⟩
            go_wp2_with fail
            refine (HP2.out _).mono ?_
            rintro e _ ⟨rfl, rfl⟩
            go_wp2_with fail
            clear q9 q10 q11 q12 q13 q14
            have HM2 := Lib.hid (HMS.out (fun _ a c h _ => by rw [hpp] at h; cases h))
            have HT := Lib.hid (Sf.tail Q8.out)
            go_roundw
            case rel => exact ⟨k + 1, hlt, by go_num, HM2.out, HT.out⟩
            case measure => simp [RowKit.intOf]; omega
        · obtain ⟨m1, m2, m3, m4, m5⟩ := HEM true false hpe rfl
          clear HEM
          cases fd
          · skip
            have P15 := Lib.hid (HS.out.put [.string ⟨#[]⟩, .int .i64 0, .int .i64 0, .int .i64 0, .int .i64 0, .bool false] 91)
            have Q15 := Lib.hid (Sf.row (pre := []) P15.out [.string NM, .int .i64 BB, .int .i64 n, .int .i64 xa, .int .i64 xb, .bool t])
            obtain ⟨q16, q17, q18, q19, q20, q21⟩ := Fb.cells6 (Q15.out.box (wr.heap.size, 91, [.string NM, .int .i64 BB, .int .i64 n, .int .i64 xa, .int .i64 xb, .bool t]) mq0)
            go_wp2_with (first | refine wpList_store_row rfl _ _ _ rfl _ #[.string NM, .int .i64 BB, .int .i64 n, .int .i64 xa, .int .i64 xb, .bool t] rfl rfl _ _ (P15.out.box _ List.mem_cons_self) (by kernel_rfl) rfl (by simp [Value.oneCell']) ?_)
            refine (HC.out _).mono ?_
            rintro e _ ⟨rfl, rfl⟩
            go_wp2_with fail
            refine (HP2.out _).mono ?_
            rintro e _ ⟨rfl, rfl⟩
            go_wp2_with fail
            clear q16 q17 q18 q19 q20 q21
            have HM2 := Lib.hid (HMS.out (fun _ a c h _ => by rw [hpp] at h; cases h))
            have HT := Lib.hid (Sf.tail Q15.out)
            go_roundw
            case rel => exact ⟨k + 1, hlt, by go_num, HM2.out, HT.out⟩
            case measure => simp [RowKit.intOf]; omega
          · skip
            have P22 := Lib.hid (HS.out.put [.string ⟨#[]⟩, .int .i64 0, .int .i64 0, .int .i64 0, .int .i64 0, .bool false] 91)
            have Q22 := Lib.hid (Sf.row (pre := []) P22.out [.string NM, .int .i64 BB, .int .i64 n, .int .i64 xa, .int .i64 xb, .bool t])
            obtain ⟨q23, q24, q25, q26, q27, q28⟩ := Fb.cells6 (Q22.out.box (wr.heap.size, 91, [.string NM, .int .i64 BB, .int .i64 n, .int .i64 xa, .int .i64 xb, .bool t]) mq0)
            go_wp2_with (first | refine wpList_store_row rfl _ _ _ rfl _ #[.string NM, .int .i64 BB, .int .i64 n, .int .i64 xa, .int .i64 xb, .bool t] rfl rfl _ _ (P22.out.box _ List.mem_cons_self) (by kernel_rfl) rfl (by simp [Value.oneCell']) ?_)
            refine (HC.out _).mono ?_
            rintro e _ ⟨rfl, rfl⟩
            go_wp2_with fail
            refine (HP2.out _).mono ?_
            rintro e _ ⟨rfl, rfl⟩
            go_wp2_with fail
            clear q23 q24 q25 q26 q27 q28
            have HM2 := Lib.hid (HMS.out (fun _ a c h _ => by rw [hpp] at h; cases h))
            have HT := Lib.hid (Sf.tail Q22.out)
            go_roundw
            case rel => exact ⟨k + 1, hlt, by go_num, HM2.out, HT.out⟩
            case measure => simp [RowKit.intOf]; omega
      · have HP2 : Hid (∀ W, Calls Tryz.prog 68 #[.string PX] W fun e w' => e = .returned (.tuple #[.int .i64 a, .int .i64 c, .bool true]) ∧ w' = W) := Lib.hid (fun W => by have := HPR W; unfold preV at this; rwa [hpp] at this)
        clear HPR
        rcases hpe : decide (P = []) with _ | _
        · obtain ⟨m1, m2, m3, m4, m5⟩ := HEM false true hpe rfl
          clear HEM
          cases fd
          · clear HHT HSU
            have P29 := Lib.hid (HS.out.put [.string ⟨#[]⟩, .int .i64 0, .int .i64 0, .int .i64 0, .int .i64 0, .bool false] 91)
            have Q29 := Lib.hid (Sf.row (pre := []) P29.out [.string NM, .int .i64 BB, .int .i64 n, .int .i64 xa, .int .i64 xb, .bool t])
            obtain ⟨q30, q31, q32, q33, q34, q35⟩ := Fb.cells6 (Q29.out.box (wr.heap.size, 91, [.string NM, .int .i64 BB, .int .i64 n, .int .i64 xa, .int .i64 xb, .bool t]) mq0)
            go_wp2_with (first | refine wpList_store_row rfl _ _ _ rfl _ #[.string NM, .int .i64 BB, .int .i64 n, .int .i64 xa, .int .i64 xb, .bool t] rfl rfl _ _ (P29.out.box _ List.mem_cons_self) (by kernel_rfl) rfl (by simp [Value.oneCell']) ?_)
            refine (HC.out _).mono ?_
            rintro e _ ⟨rfl, rfl⟩
            go_wp2_with fail
            refine (HP2.out _).mono ?_
            rintro e _ ⟨rfl, rfl⟩
            go_wp2_with fail
            clear q30 q31 q32 q33 q34 q35
            have HM2 := Lib.hid (HMS.out (fun h => by cases h))
            have HT := Lib.hid (Sf.tail Q29.out)
            go_roundw
            case rel => exact ⟨k + 1, hlt, by go_num, HM2.out, HT.out⟩
            case measure => simp [RowKit.intOf]; omega
          · skip
            cases t
            · skip
              clear HHT HSU
              have P36 := Lib.hid (HS.out.put [.string ⟨#[]⟩, .int .i64 0, .int .i64 0, .int .i64 0, .int .i64 0, .bool false] 91)
              have Q36 := Lib.hid (Sf.row (pre := []) P36.out [.string NM, .int .i64 BB, .int .i64 n, .int .i64 xa, .int .i64 xb, .bool false])
              obtain ⟨q37, q38, q39, q40, q41, q42⟩ := Fb.cells6 (Q36.out.box (wr.heap.size, 91, [.string NM, .int .i64 BB, .int .i64 n, .int .i64 xa, .int .i64 xb, .bool false]) mq0)
              go_wp2_with (first | refine wpList_store_row rfl _ _ _ rfl _ #[.string NM, .int .i64 BB, .int .i64 n, .int .i64 xa, .int .i64 xb, .bool false] rfl rfl _ _ (P36.out.box _ List.mem_cons_self) (by kernel_rfl) rfl (by simp [Value.oneCell']) ?_)
              refine (HC.out _).mono ?_
              rintro e _ ⟨rfl, rfl⟩
              go_wp2_with fail
              refine (HP2.out _).mono ?_
              rintro e _ ⟨rfl, rfl⟩
              go_wp2_with fail
              clear q37 q38 q39 q40 q41 q42
              have HM2 := Lib.hid (HMS.out (fun _ _ _ _ h => by rcases h with h | h; exact absurd h (of_decide_eq_false hpe); cases h))
              have HT := Lib.hid (Sf.tail Q36.out)
              go_roundw
              case rel => exact ⟨k + 1, hlt, by go_num, HM2.out, HT.out⟩
              case measure => simp [RowKit.intOf]; omega
            · skip
              have hw := HHT.out P a c hpp (.inr rfl)
              rw [← HSU.out rfl] at hw
              obtain ⟨hwd, hb6, hba, hbc, hbx, hbz⟩ := hw
              obtain ⟨q, hq⟩ : ∃ q, facP a c xa xb = q := ⟨_, rfl⟩
              rw [hq] at hwd
              have HWD := Lib.hid hwd
              have hx1 : 1 ≤ a * xa ∧ a * xa ≤ 1000000000 * 1000000 := ⟨by have := Int.mul_le_mul hba.1 hbx.1 (by decide) (by omega); omega, Int.mul_le_mul hba.2 hbx.2 (by omega) (by decide)⟩
              have hx2 : 1 ≤ c * xb ∧ c * xb ≤ 1000 * 1000 := ⟨by have := Int.mul_le_mul hbc.1 hbz.1 (by decide) (by omega); omega, Int.mul_le_mul hbc.2 hbz.2 (by omega) (by decide)⟩
              have hw1 : IntKind.i64.wrap (a * xa) = a * xa := IntWalk.i64_in _ (by omega)
              have hw2 : IntKind.i64.wrap (c * xb) = c * xb := IntWalk.i64_in _ (by omega)
              have HOF : Hid (∀ W, Calls Tryz.prog 69 #[.int .i64 (a * xa), .int .i64 (c * xb)] W (FVE q 0 W)) := Lib.hid (fun W => by
                have := fof_k (a * xa) (c * xb) (by omega) (by omega) (by omega) W
                unfold facP at hq; rwa [hq] at this)
              have HB6 := Lib.hid hb6
              have hzu := zu_cell b hb6
              have HZS := Lib.hid (zu_set b hb6 n)
              clear hwd hb6 hba hbc hbx hbz hx1 hx2 hq HHT HSU HMS hpp hpe
              have P43 := Lib.hid (HS.out.put [.string ⟨#[]⟩, .int .i64 0, .int .i64 0, .int .i64 0, .int .i64 0, .bool false] 91)
              have Q43 := Lib.hid (Sf.row (pre := []) P43.out [.string NM, .int .i64 BB, .int .i64 n, .int .i64 xa, .int .i64 xb, .bool true])
              obtain ⟨q44, q45, q46, q47, q48, q49⟩ := Fb.cells6 (Q43.out.box (wr.heap.size, 91, [.string NM, .int .i64 BB, .int .i64 n, .int .i64 xa, .int .i64 xb, .bool true]) mq0)
              go_wp2_with (first | refine wpList_store_row rfl _ _ _ rfl _ #[.string NM, .int .i64 BB, .int .i64 n, .int .i64 xa, .int .i64 xb, .bool true] rfl rfl _ _ (P43.out.box _ List.mem_cons_self) (by kernel_rfl) rfl (by simp [Value.oneCell']) ?_)
              refine (HC.out _).mono ?_
              rintro e _ ⟨rfl, rfl⟩
              go_wp2_with fail
              refine (HP2.out _).mono ?_
              rintro e _ ⟨rfl, rfl⟩
              clear q44 q45 q46 q47 q48 q49
              obtain ⟨W1, hW1⟩ : ∃ W, ((wr.alloc (.cells #[.string ⟨#[]⟩, .int .i64 0, .int .i64 0, .int .i64 0, .int .i64 0, .bool false] 91)).setRow wr.heap.size #[.string NM, .int .i64 BB, .int .i64 n, .int .i64 xa, .int .i64 xb, .bool true]) = W := ⟨_, rfl⟩
              rw [hW1] at Q43 ⊢
              clear hW1
              obtain ⟨q50, q51, q52, q53, q54, q55⟩ := Fb.cells6 (Q43.out.box (wr.heap.size, 91, [.string NM, .int .i64 BB, .int .i64 n, .int .i64 xa, .int .i64 xb, .bool true]) mq0)
              have P56 := Lib.hid (Q43.out.put [.int .i64 0, .int .i64 0, .int .i64 0, .int .i64 0, .int .i64 0, .int .i64 0, .int .i64 0, .slice none 0 0, .int .i64 0, .slice none 0 0] 30)
              obtain ⟨q57, q58, q59, q60, q61, q62⟩ := Fb.cells6 (P56.out.box (wr.heap.size, 91, [.string NM, .int .i64 BB, .int .i64 n, .int .i64 xa, .int .i64 xb, .bool true]) mq1)
              have hcb := (P56.out.box _ List.mem_cons_self).cell b
              have hfb := (P56.out.box _ List.mem_cons_self).free b
              rw [hzu] at hcb
              have hia := ia_at (W1.heap.size) b HB6.out
              rw [hBB] at hia
              go_upto_region 9 with fail
              clear q50 q51 q52 q53 q54 q55 q57 q58 q59 q60 q61 q62
              clear hcb hfb hia hzu
              rw [HZS.out]
              have Q63 := Lib.hid (Sf.put Q43.out [.int .i64 (up zf b n 0), .int .i64 (up zf b n 1), .int .i64 (up zf b n 2), .int .i64 (up zf b n 3), .int .i64 (up zf b n 4), .int .i64 (up zf b n 5), .int .i64 0, .slice none 0 0, .int .i64 0, .slice none 0 0] 30)
              obtain ⟨F, hF⟩ : ∃ F, up zf b n = F := ⟨_, rfl⟩
              rw [hF] at Q63 ⊢
              have HWS2 := Lib.hid (HWS.out b n q HWD.out)
              rw [hF] at HWS2
              obtain ⟨U, hU⟩ : ∃ U, (W1.alloc (.cells #[.int .i64 (F 0), .int .i64 (F 1), .int .i64 (F 2), .int .i64 (F 3), .int .i64 (F 4), .int .i64 (F 5), .int .i64 0, .slice none 0 0, .int .i64 0, .slice none 0 0] 30)) = U := ⟨_, rfl⟩
              rw [hU] at Q63 ⊢
              obtain ⟨BU, hBU⟩ : ∃ BU, W1.heap.size = BU := ⟨_, rfl⟩
              rw [hBU] at Q63 ⊢
              obtain ⟨q64, q65, q66, q67, q68, q69⟩ := Fb.cells6 (Q63.out.box (wr.heap.size, 91, [.string NM, .int .i64 BB, .int .i64 n, .int .i64 xa, .int .i64 xb, .bool true]) mq1)
              go_wp2_with fail
              clear q64 q65 q66 q67 q68 q69
              refine (HOF.out _).mono ?_
              rintro e w1 ⟨sx1, ax1, nx1, cx1, bx1, mx1, dx1, rfl, hr, hb, hf, hg⟩
              have E1 := Lib.hid hr.1.1
              have R1 := Lib.hid (Q63.out.ret2 hb hr.1.2 hf hr.2.2 hg)
              have FF1 := Lib.hid (hf.mono Q63.out.below.size)
              have FG1 := Lib.hid (hg.mono Q63.out.below.size)
              clear hr hb hf hg
              have Q70 : Hid (Sf w ([] ++ (BU, 30, [.int .i64 (F 0), .int .i64 (F 1), .int .i64 (F 2), .int .i64 (F 3), .int .i64 (F 4), .int .i64 (F 5), .int .i64 sx1, .slice ax1 nx1 cx1, .int .i64 1, .slice bx1 mx1 dx1]) :: [(wr.heap.size, 91, [.string NM, .int .i64 BB, .int .i64 n, .int .i64 xa, .int .i64 xb, .bool true]), (w.heap.size, 30, [.int .i64 0, .int .i64 0, .int .i64 0, .int .i64 0, .int .i64 0, .int .i64 0, .int .i64 0, .slice none 0 0, .int .i64 0, .slice none 0 0])]) _ _) := Lib.hid (Sf.part (pre := []) R1.out 6 7 8 9 rfl rfl rfl (.int .i64 sx1) (.slice ax1 nx1 cx1) (.int .i64 1) (.slice bx1 mx1 dx1))
              obtain ⟨V70, hV70⟩ : ∃ V, (((((w1).setCell ⟨BU, 6, none⟩ (.int .i64 sx1)).setCell ⟨BU, 7, none⟩ (.slice ax1 nx1 cx1)).setCell ⟨BU, 8, none⟩ (.int .i64 1)).setCell ⟨BU, 9, none⟩ (.slice bx1 mx1 dx1)) = V := ⟨_, rfl⟩
              rw [hV70] at Q70
              have HV70 := Lib.hid hV70
              clear hV70
              obtain ⟨q71, q72, q73, q74, q75, q76, q77, q78, q79, q80⟩ := Fb.cells10 (Q70.out.box (BU, 30, [.int .i64 (F 0), .int .i64 (F 1), .int .i64 (F 2), .int .i64 (F 3), .int .i64 (F 4), .int .i64 (F 5), .int .i64 sx1, .slice ax1 nx1 cx1, .int .i64 1, .slice bx1 mx1 dx1]) mq0)
              have Q81 := Lib.hid (Sf.row (pre := [(BU, 30, [.int .i64 (F 0), .int .i64 (F 1), .int .i64 (F 2), .int .i64 (F 3), .int .i64 (F 4), .int .i64 (F 5), .int .i64 sx1, .slice ax1 nx1 cx1, .int .i64 1, .slice bx1 mx1 dx1]), (wr.heap.size, 91, [.string NM, .int .i64 BB, .int .i64 n, .int .i64 xa, .int .i64 xb, .bool true])]) Q70.out [.int .i64 (F 0), .int .i64 (F 1), .int .i64 (F 2), .int .i64 (F 3), .int .i64 (F 4), .int .i64 (F 5), .int .i64 sx1, .slice ax1 nx1 cx1, .int .i64 1, .slice bx1 mx1 dx1])
              go_wp2_with (first | (refine wpList_store4 rfl _ _ _ rfl _ 6 7 8 9 rfl rfl rfl (.int .i64 sx1) (.slice ax1 nx1 cx1) (.int .i64 1) (.slice bx1 mx1 dx1) rfl rfl (R1.out.box _ mq0) (Nat.le_of_ble_eq_true rfl) infoFrac (by simp [Value.oneCell']) ?_; rw [HV70.out]) | refine wpList_store_row rfl _ _ _ rfl _ #[.int .i64 (F 0), .int .i64 (F 1), .int .i64 (F 2), .int .i64 (F 3), .int .i64 (F 4), .int .i64 (F 5), .int .i64 sx1, .slice ax1 nx1 cx1, .int .i64 1, .slice bx1 mx1 dx1] rfl rfl _ _ (Q70.out.box _ mq2) (by kernel_rfl) rfl (by simp [Value.oneCell']) ?_)
              clear q71 q72 q73 q74 q75 q76 q77 q78 q79 q80
              refine bodyPost_ret (ret_row rfl _ _ _ _ rfl (run_loadVar_row _ _ _ _ _ (0, 0) _ (Q81.out.box _ mq2) Tryz.underlying30 rfl (by kernel_rfl))) rfl (HWS2.out _ _ ⟨_, _, _, _, _, _, _, rfl, (Q81.out.fr (v := .slice ax1 nx1 cx1) (u := .slice bx1 mx1 dx1) (r := q) mq0 mq1 E1.out), Q81.out.below, FF1.out, FG1.out⟩)
        · obtain ⟨m1, m2, m3, m4, m5⟩ := HEM true false hpe rfl
          clear HEM
          cases fd
          · clear HHT HSU
            have P82 := Lib.hid (HS.out.put [.string ⟨#[]⟩, .int .i64 0, .int .i64 0, .int .i64 0, .int .i64 0, .bool false] 91)
            have Q82 := Lib.hid (Sf.row (pre := []) P82.out [.string NM, .int .i64 BB, .int .i64 n, .int .i64 xa, .int .i64 xb, .bool t])
            obtain ⟨q83, q84, q85, q86, q87, q88⟩ := Fb.cells6 (Q82.out.box (wr.heap.size, 91, [.string NM, .int .i64 BB, .int .i64 n, .int .i64 xa, .int .i64 xb, .bool t]) mq0)
            go_wp2_with (first | refine wpList_store_row rfl _ _ _ rfl _ #[.string NM, .int .i64 BB, .int .i64 n, .int .i64 xa, .int .i64 xb, .bool t] rfl rfl _ _ (P82.out.box _ List.mem_cons_self) (by kernel_rfl) rfl (by simp [Value.oneCell']) ?_)
            refine (HC.out _).mono ?_
            rintro e _ ⟨rfl, rfl⟩
            go_wp2_with fail
            refine (HP2.out _).mono ?_
            rintro e _ ⟨rfl, rfl⟩
            go_wp2_with fail
            clear q83 q84 q85 q86 q87 q88
            have HM2 := Lib.hid (HMS.out (fun h => by cases h))
            have HT := Lib.hid (Sf.tail Q82.out)
            go_roundw
            case rel => exact ⟨k + 1, hlt, by go_num, HM2.out, HT.out⟩
            case measure => simp [RowKit.intOf]; omega
          · skip
            have hw := HHT.out P a c hpp (.inl (of_decide_eq_true hpe))
            rw [← HSU.out rfl] at hw
            obtain ⟨hwd, hb6, hba, hbc, hbx, hbz⟩ := hw
            obtain ⟨q, hq⟩ : ∃ q, facP a c xa xb = q := ⟨_, rfl⟩
            rw [hq] at hwd
            have HWD := Lib.hid hwd
            have hx1 : 1 ≤ a * xa ∧ a * xa ≤ 1000000000 * 1000000 := ⟨by have := Int.mul_le_mul hba.1 hbx.1 (by decide) (by omega); omega, Int.mul_le_mul hba.2 hbx.2 (by omega) (by decide)⟩
            have hx2 : 1 ≤ c * xb ∧ c * xb ≤ 1000 * 1000 := ⟨by have := Int.mul_le_mul hbc.1 hbz.1 (by decide) (by omega); omega, Int.mul_le_mul hbc.2 hbz.2 (by omega) (by decide)⟩
            have hw1 : IntKind.i64.wrap (a * xa) = a * xa := IntWalk.i64_in _ (by omega)
            have hw2 : IntKind.i64.wrap (c * xb) = c * xb := IntWalk.i64_in _ (by omega)
            have HOF : Hid (∀ W, Calls Tryz.prog 69 #[.int .i64 (a * xa), .int .i64 (c * xb)] W (FVE q 0 W)) := Lib.hid (fun W => by
              have := fof_k (a * xa) (c * xb) (by omega) (by omega) (by omega) W
              unfold facP at hq; rwa [hq] at this)
            have HB6 := Lib.hid hb6
            have hzu := zu_cell b hb6
            have HZS := Lib.hid (zu_set b hb6 n)
            clear hwd hb6 hba hbc hbx hbz hx1 hx2 hq HHT HSU HMS hpp hpe
            have P89 := Lib.hid (HS.out.put [.string ⟨#[]⟩, .int .i64 0, .int .i64 0, .int .i64 0, .int .i64 0, .bool false] 91)
            have Q89 := Lib.hid (Sf.row (pre := []) P89.out [.string NM, .int .i64 BB, .int .i64 n, .int .i64 xa, .int .i64 xb, .bool t])
            obtain ⟨q90, q91, q92, q93, q94, q95⟩ := Fb.cells6 (Q89.out.box (wr.heap.size, 91, [.string NM, .int .i64 BB, .int .i64 n, .int .i64 xa, .int .i64 xb, .bool t]) mq0)
            go_wp2_with (first | refine wpList_store_row rfl _ _ _ rfl _ #[.string NM, .int .i64 BB, .int .i64 n, .int .i64 xa, .int .i64 xb, .bool t] rfl rfl _ _ (P89.out.box _ List.mem_cons_self) (by kernel_rfl) rfl (by simp [Value.oneCell']) ?_)
            refine (HC.out _).mono ?_
            rintro e _ ⟨rfl, rfl⟩
            go_wp2_with fail
            refine (HP2.out _).mono ?_
            rintro e _ ⟨rfl, rfl⟩
            clear q90 q91 q92 q93 q94 q95
            obtain ⟨W1, hW1⟩ : ∃ W, ((wr.alloc (.cells #[.string ⟨#[]⟩, .int .i64 0, .int .i64 0, .int .i64 0, .int .i64 0, .bool false] 91)).setRow wr.heap.size #[.string NM, .int .i64 BB, .int .i64 n, .int .i64 xa, .int .i64 xb, .bool t]) = W := ⟨_, rfl⟩
            rw [hW1] at Q89 ⊢
            clear hW1
            obtain ⟨q96, q97, q98, q99, q100, q101⟩ := Fb.cells6 (Q89.out.box (wr.heap.size, 91, [.string NM, .int .i64 BB, .int .i64 n, .int .i64 xa, .int .i64 xb, .bool t]) mq0)
            have P102 := Lib.hid (Q89.out.put [.int .i64 0, .int .i64 0, .int .i64 0, .int .i64 0, .int .i64 0, .int .i64 0, .int .i64 0, .slice none 0 0, .int .i64 0, .slice none 0 0] 30)
            obtain ⟨q103, q104, q105, q106, q107, q108⟩ := Fb.cells6 (P102.out.box (wr.heap.size, 91, [.string NM, .int .i64 BB, .int .i64 n, .int .i64 xa, .int .i64 xb, .bool t]) mq1)
            have hcb := (P102.out.box _ List.mem_cons_self).cell b
            have hfb := (P102.out.box _ List.mem_cons_self).free b
            rw [hzu] at hcb
            have hia := ia_at (W1.heap.size) b HB6.out
            rw [hBB] at hia
            go_upto_region 9 with fail
            clear q96 q97 q98 q99 q100 q101 q103 q104 q105 q106 q107 q108
            clear hcb hfb hia hzu
            rw [HZS.out]
            have Q109 := Lib.hid (Sf.put Q89.out [.int .i64 (up zf b n 0), .int .i64 (up zf b n 1), .int .i64 (up zf b n 2), .int .i64 (up zf b n 3), .int .i64 (up zf b n 4), .int .i64 (up zf b n 5), .int .i64 0, .slice none 0 0, .int .i64 0, .slice none 0 0] 30)
            obtain ⟨F, hF⟩ : ∃ F, up zf b n = F := ⟨_, rfl⟩
            rw [hF] at Q109 ⊢
            have HWS2 := Lib.hid (HWS.out b n q HWD.out)
            rw [hF] at HWS2
            obtain ⟨U, hU⟩ : ∃ U, (W1.alloc (.cells #[.int .i64 (F 0), .int .i64 (F 1), .int .i64 (F 2), .int .i64 (F 3), .int .i64 (F 4), .int .i64 (F 5), .int .i64 0, .slice none 0 0, .int .i64 0, .slice none 0 0] 30)) = U := ⟨_, rfl⟩
            rw [hU] at Q109 ⊢
            obtain ⟨BU, hBU⟩ : ∃ BU, W1.heap.size = BU := ⟨_, rfl⟩
            rw [hBU] at Q109 ⊢
            obtain ⟨q110, q111, q112, q113, q114, q115⟩ := Fb.cells6 (Q109.out.box (wr.heap.size, 91, [.string NM, .int .i64 BB, .int .i64 n, .int .i64 xa, .int .i64 xb, .bool t]) mq1)
            go_wp2_with fail
            clear q110 q111 q112 q113 q114 q115
            refine (HOF.out _).mono ?_
            rintro e w1 ⟨sx1, ax1, nx1, cx1, bx1, mx1, dx1, rfl, hr, hb, hf, hg⟩
            have E1 := Lib.hid hr.1.1
            have R1 := Lib.hid (Q109.out.ret2 hb hr.1.2 hf hr.2.2 hg)
            have FF1 := Lib.hid (hf.mono Q109.out.below.size)
            have FG1 := Lib.hid (hg.mono Q109.out.below.size)
            clear hr hb hf hg
            have Q116 : Hid (Sf w ([] ++ (BU, 30, [.int .i64 (F 0), .int .i64 (F 1), .int .i64 (F 2), .int .i64 (F 3), .int .i64 (F 4), .int .i64 (F 5), .int .i64 sx1, .slice ax1 nx1 cx1, .int .i64 1, .slice bx1 mx1 dx1]) :: [(wr.heap.size, 91, [.string NM, .int .i64 BB, .int .i64 n, .int .i64 xa, .int .i64 xb, .bool t]), (w.heap.size, 30, [.int .i64 0, .int .i64 0, .int .i64 0, .int .i64 0, .int .i64 0, .int .i64 0, .int .i64 0, .slice none 0 0, .int .i64 0, .slice none 0 0])]) _ _) := Lib.hid (Sf.part (pre := []) R1.out 6 7 8 9 rfl rfl rfl (.int .i64 sx1) (.slice ax1 nx1 cx1) (.int .i64 1) (.slice bx1 mx1 dx1))
            obtain ⟨V116, hV116⟩ : ∃ V, (((((w1).setCell ⟨BU, 6, none⟩ (.int .i64 sx1)).setCell ⟨BU, 7, none⟩ (.slice ax1 nx1 cx1)).setCell ⟨BU, 8, none⟩ (.int .i64 1)).setCell ⟨BU, 9, none⟩ (.slice bx1 mx1 dx1)) = V := ⟨_, rfl⟩
            rw [hV116] at Q116
            have HV116 := Lib.hid hV116
            clear hV116
            obtain ⟨q117, q118, q119, q120, q121, q122, q123, q124, q125, q126⟩ := Fb.cells10 (Q116.out.box (BU, 30, [.int .i64 (F 0), .int .i64 (F 1), .int .i64 (F 2), .int .i64 (F 3), .int .i64 (F 4), .int .i64 (F 5), .int .i64 sx1, .slice ax1 nx1 cx1, .int .i64 1, .slice bx1 mx1 dx1]) mq0)
            have Q127 := Lib.hid (Sf.row (pre := [(BU, 30, [.int .i64 (F 0), .int .i64 (F 1), .int .i64 (F 2), .int .i64 (F 3), .int .i64 (F 4), .int .i64 (F 5), .int .i64 sx1, .slice ax1 nx1 cx1, .int .i64 1, .slice bx1 mx1 dx1]), (wr.heap.size, 91, [.string NM, .int .i64 BB, .int .i64 n, .int .i64 xa, .int .i64 xb, .bool t])]) Q116.out [.int .i64 (F 0), .int .i64 (F 1), .int .i64 (F 2), .int .i64 (F 3), .int .i64 (F 4), .int .i64 (F 5), .int .i64 sx1, .slice ax1 nx1 cx1, .int .i64 1, .slice bx1 mx1 dx1])
            go_wp2_with (first | (refine wpList_store4 rfl _ _ _ rfl _ 6 7 8 9 rfl rfl rfl (.int .i64 sx1) (.slice ax1 nx1 cx1) (.int .i64 1) (.slice bx1 mx1 dx1) rfl rfl (R1.out.box _ mq0) (Nat.le_of_ble_eq_true rfl) infoFrac (by simp [Value.oneCell']) ?_; rw [HV116.out]) | refine wpList_store_row rfl _ _ _ rfl _ #[.int .i64 (F 0), .int .i64 (F 1), .int .i64 (F 2), .int .i64 (F 3), .int .i64 (F 4), .int .i64 (F 5), .int .i64 sx1, .slice ax1 nx1 cx1, .int .i64 1, .slice bx1 mx1 dx1] rfl rfl _ _ (Q116.out.box _ mq2) (by kernel_rfl) rfl (by simp [Value.oneCell']) ?_)
            clear q117 q118 q119 q120 q121 q122 q123 q124 q125 q126
            refine bodyPost_ret (ret_row rfl _ _ _ _ rfl (run_loadVar_row _ _ _ _ _ (0, 0) _ (Q127.out.box _ mq2) Tryz.underlying30 rfl (by kernel_rfl))) rfl (HWS2.out _ _ ⟨_, _, _, _, _, _, _, rfl, (Q127.out.fr (v := .slice ax1 nx1 cx1) (u := .slice bx1 mx1 dx1) (r := q) mq0 mq1 E1.out), Q127.out.below, FF1.out, FG1.out⟩)
    · obtain rfl : k = 12 := by omega
      have hlt2 : decide (((12 : Nat) : Int) < 12) = false := by decide
      have HWE := Lib.hid (HWN.out (word_miss HMI.out))
      have Q128 := Lib.hid (Sf.row (pre := []) HS.out [.int .i64 0, .int .i64 0, .int .i64 0, .int .i64 0, .int .i64 0, .int .i64 0, .int .i64 0, .slice none 0 0, .int .i64 0, .slice none 0 0])
      go_wp2_with (first | refine wpList_store_row rfl _ _ _ rfl _ #[.int .i64 0, .int .i64 0, .int .i64 0, .int .i64 0, .int .i64 0, .int .i64 0, .int .i64 0, .slice none 0 0, .int .i64 0, .slice none 0 0] rfl rfl _ _ (HS.out.box _ mq0) (by kernel_rfl) rfl (by simp [Value.oneCell']) ?_)
      refine bodyPost_ret (ret_row rfl _ _ _ _ rfl (run_loadVar_row _ _ _ _ _ (0, 0) _ (Q128.out.box _ mq0) Tryz.underlying30 rfl (by kernel_rfl))) rfl (HWE.out _ _ ⟨rfl, Q128.out.below⟩)
end Go.Proofs.YtmhdhabgdlefjaaGreatDoor.Un

namespace Go.Proofs.YtmhdhabgdlefjaaGreatDoor.Un
open Go.RowKit Dm

/-- The slice v has the items l, at the head of a block of its own if it has room for any. -/
def OwnJ (w : World) (v : Value) (l : List (List UInt8 × Int)) : Prop := Own w 67 2 v l.length (l.flatMap itc)
theorem OwnJ.nil (w : World) : OwnJ w (.slice none 0 0) [] := Own.nil w _ 2
theorem infoJt : (Tryz.prog.info? 67).map (fun i => (i.zero, i.size, i.bytes)) = some (some (.agg #[.string ⟨#[]⟩, .int .i64 0]), 2, 24) := by kernel_rfl
theorem OwnJ.snoc {w : World} {v : Value} {l : List (List UInt8 × Int)} (h : OwnJ w v l) (hl : l.length ≤ 1000000) (x : List UInt8 × Int) :
    ∃ a c w', (∀ ty, (Builtin.append_ #[63, 63] ty #[v, .slice (some ⟨w.heap.size, 0, none⟩) 1 1]).run Tryz.prog (w.alloc (.cells #[sv x.1, .int .i64 x.2] 67)) = .ok (.slice a (l.length + 1) c) w') ∧ OwnJ w' (.slice a (l.length + 1) c) (l ++ [x]) ∧
      (w.alloc (.cells #[sv x.1, .int .i64 x.2] 67)).grownBy w' (blk v) ∧ (blk (.slice a (l.length + 1) c) = none ∨ blk (.slice a (l.length + 1) c) = blk v ∨ blk (.slice a (l.length + 1) c) = some (w.heap.size + 1)) := by
  obtain ⟨i0, hi, hz0, hz1, hz2⟩ := info_parts infoJt
  have hown : Own (w.alloc (.cells #[sv x.1, .int .i64 x.2] 67)) 67 2 v l.length (l.flatMap itc) := Own.grown h (World.grownBy_alloc w _ none) (by cases hb : blk v <;> simp)
  have hsrc : Src Tryz.prog 2 63 (.slice (some ⟨w.heap.size, 0, none⟩) 1 1) 1 [sv x.1, .int .i64 x.2] (w.alloc (.cells #[sv x.1, .int .i64 x.2] 67)) :=
    Src.ofSlice _ Tryz.underlying63 _ 1 1 [sv x.1, .int .i64 x.2] (by simp) (World.news_of_block (cs := #[sv x.1, .int .i64 x.2]) (t := 67) (fr := (0, 0)) (alloc_at w _)) (by simp [Value.oneCell', sv])
  have hrun := fun ty => own_append (P := Tryz.prog) (t := 63) (tx := 63) (ty := ty) Tryz.underlying63 hi hz0 hz1 hz2 rfl hown hsrc (by unfold maxLen; omega) (by omega)
  obtain ⟨v', w', hr, h1, h2, h3⟩ := hrun 0
  obtain ⟨a, c, rfl, _, _⟩ := h1.shape
  refine ⟨a, c, w', fun ty => ?_, by unfold OwnJ; simpa [itc] using h1, h2, by simpa using h3⟩
  have : Builtin.append_ #[63, 63] ty #[v, .slice (some ⟨w.heap.size, 0, none⟩) 1 1] = Builtin.append_ #[63, 63] 0 #[v, .slice (some ⟨w.heap.size, 0, none⟩) 1 1] := rfl
  rw [this]; exact hr
theorem OwnJ.later {w w' : World} {v : Value} {l : List (List UInt8 × Int)} (h : OwnJ w v l) (hb : RowKit.Below w.heap.size w w') : OwnJ w' v l :=
  Dm.Own.grown h (Dm.grownBy_none hb) (by cases h' : Dm.blk v <;> simp)
/-- An item of the slice, in its cells. -/
theorem OwnJ.at {w : World} {a : Option Addr} {c : Nat} {l : List (List UInt8 × Int)} (h : OwnJ w (.slice a l.length c) l) {k : Nat} (hk : k < l.length) :
    ∃ g, a = some ⟨g, 0, none⟩ ∧ w.cell? ⟨g, k * 2, none⟩ = some (sv l[k].1) ∧ w.cell? ⟨g, k * 2 + 1, none⟩ = some (.int .i64 l[k].2) := by
  obtain ⟨g, hg, h0⟩ := Dm.Own.cell h (itc_get l k 0 hk _ rfl)
  obtain ⟨g', hg', h1⟩ := Dm.Own.cell h (itc_get l k 1 hk _ rfl)
  rw [hg] at hg'
  injection hg' with e
  injection e with e
  subst e
  exact ⟨g, hg, h0, h1⟩
theorem jt_at (g n c k : Nat) (hk : k < n) (_hn : n ≤ 1000) (W : World) : (Instr.indexAt 63 (.slice (some ⟨g, 0, none⟩) n c) (.int .i64 (k : Int))).run Tryz.prog W = .ok (.pointer (some ⟨g, k * 2, none⟩)) W := by
  have ha : (asIntOf (.int .i64 (k : Int))).run Tryz.prog W = .ok (IntKind.i64, (k : Int)) W := rfl
  obtain ⟨i0, hi, _, hs, _⟩ := info_parts infoJt
  simp [Instr.indexAt, run_underlying Tryz.underlying63, hk, ha, Addr.add, sizeOf, typeInfo, hi, hs]
  intro e; exact e.symm

/-- What split returns. -/
def SplitEnd (L : List UInt8) (w : World) (e : Ending) (w' : World) : Prop := match itemsL L with
  | none => e = .returned (.tuple #[.slice none 0 0, .bool false]) ∧ RowKit.Below w.heap.size w w'
  | some l => ∃ a c, e = .returned (.tuple #[.slice a l.length c, .bool true]) ∧ OwnJ w' (.slice a l.length c) l ∧ RowKit.Below w.heap.size w w' ∧ ∀ b, blk (.slice a l.length c) = some b → w.heap.size ≤ b
theorem sp_none {L : List UInt8} {w w' : World} {e : Ending} (h : itemsL L = none) (he : e = .returned (.tuple #[.slice none 0 0, .bool false])) (hb : RowKit.Below w.heap.size w w') : SplitEnd L w e w' := by
  unfold SplitEnd; rw [h]; exact ⟨he, hb⟩
theorem sp_some {L : List UInt8} {w w' : World} {e : Ending} {l : List (List UInt8 × Int)} {a : Option Addr} {c : Nat} (h : itemsL L = some l) (he : e = .returned (.tuple #[.slice a l.length c, .bool true])) (ho : OwnJ w' (.slice a l.length c) l) (hb : RowKit.Below w.heap.size w w')
    (hn : ∀ b, blk (.slice a l.length c) = some b → w.heap.size ≤ b) : SplitEnd L w e w' := by
  unfold SplitEnd; rw [h]; exact ⟨a, c, he, ho, hb, hn⟩
/-- What holds in the loop. -/
structure Jm (w : World) (S R : List UInt8) (l : List (List UInt8 × Int)) (v : Value) (wr : World) : Prop where
  own : OwnJ wr v l
  below : RowKit.Below w.heap.size w wr
  new : ∀ b, blk v = some b → w.heap.size ≤ b
  eq : itemsL S = (tailL R).map (l ++ ·)
  len : l.length + R.length ≤ 41
theorem Jm.later {w wr w' : World} {S R : List UInt8} {l : List (List UInt8 × Int)} {v : Value} (h : Jm w S R l v wr) (hb : RowKit.Below wr.heap.size wr w') : Jm w S R l v w' :=
  ⟨Own.grown h.own (grownBy_none hb) (by cases h' : blk v <;> simp), h.below.trans (hb.mono h.below.size), h.new, h.eq, h.len⟩
theorem Jm.snoc {w wr w' : World} {S L r v : List UInt8} {n : Nat} {m : Int} {c : UInt8} {l : List (List UInt8 × Int)} {u u' : Value} {B : Nat} (h : Jm w S (c :: L) l u wr) (hc : signB c = true) (hi : itemL L = some ((v, n), r)) (hm : m = if c = 47 then -(n : Int) else (n : Int))
    (ho : OwnJ w' u' (l ++ [(v, m)])) (hg : (wr.alloc (.cells #[sv v, .int .i64 m] 67)).grownBy w' (blk u)) (hB : B = wr.heap.size + 1) (hb : blk u' = none ∨ blk u' = blk u ∨ blk u' = some B) : Jm w S r (l ++ [(v, m)]) u' w' := by
  have hl := item_len hi
  refine ⟨ho, ?_, fun b e => ?_, ?_, by have := h.len; simp at this ⊢; omega⟩
  · exact (h.below.alloc h.below.size _).grown hg (by simp; exact Nat.le_succ_of_le h.below.size) (fun b e => h.new b e)
  · rcases hb with hb | hb | hb
    · rw [hb] at e; cases e
    · rw [hb] at e; exact h.new b e
    · rw [hb] at e; injection e with e; have := h.below.size; omega
  · rw [h.eq, tailL_some hc hi, Option.map_map, ← hm]
    congr 1
    funext t
    simp
def lenOf : Value → Nat
  | .string s => s.size
  | _ => 0
theorem sl_run (s : ByteArray) (q : Nat) (h : q ≤ s.size) (W : World) : (Instr.slice 9 (.string s) (some (.int .i64 (q : Int))) none none).run Tryz.prog W = .ok (.string (s.extract q s.size)) W := by
  rw [run_slice_string_l _ _ _ Tryz.underlying9 .i64 (q : Int) (by omega) (by omega)]
  rfl
theorem ext_rest (s : ByteArray) (q : Nat) (h : q ≤ s.size) : (s.extract q s.size).data.toList = s.data.toList.drop q := by
  have := ext_take s q (s.size - q)
  rw [show q + (s.size - q) = s.size by omega] at this
  rw [this]
  show (s.data.toList.drop q).take (s.size - q) = _
  rw [List.take_of_length_le]; rw [List.length_drop, sizeL]; omega
theorem rest_drop {c : UInt8} {L r : List UInt8} {x : List UInt8 × Nat} (h : itemL L = some (x, r)) : (c :: L).drop (L.length + 1 - r.length) = r ∧ r.length < L.length := by
  obtain ⟨d, hd⟩ := item_suffix h
  refine ⟨?_, item_len h⟩
  have h1 : L.length = d.length + r.length := by rw [hd, List.length_append]
  rw [show L.length + 1 - r.length = d.length + 1 by omega, List.drop_succ_cons, hd, List.drop_left]

set_option maxHeartbeats 1000000 in
theorem split_empty (w : World) : Calls Tryz.prog 35 #[.string ⟨#[]⟩] w (SplitEnd [] w) := by
  go_enter Tryz.func35, Tryz.ntmps35
  go_wp2_with fail
  go_ret2
  exact sp_some (l := []) rfl rfl (OwnJ.nil w) (Below.refl _ _) (fun b h => (by cases h))
set_option maxHeartbeats 1000000 in
theorem split_long (s : ByteArray) (h0 : 40 < s.size) (w : World) : Calls Tryz.prog 35 #[.string s] w (SplitEnd s.data.toList w) := by
  obtain ⟨g0, g1, g2, g3, g4⟩ := str_empty s false true (by
    rw [decide_eq_false_iff_not]; intro e; have h3 := sizeL s; rw [e] at h3; simp at h3; omega) rfl
  have g40 : decide (40 < s.size) = true := by simp; omega
  have g40' : decide (40 < (s.size : Int)) = true := by simp; omega
  have HV : Hid (itemsL s.data.toList = none) := Lib.hid (by unfold itemsL; rw [if_pos (by rw [sizeL]; exact h0)])
  go_enter Tryz.func35, Tryz.ntmps35
  go_wp2_with fail
  go_ret2
  exact sp_none HV.out rfl (Below.refl _ _)

set_option maxHeartbeats 8000000 in
theorem split_one (s : ByteArray) (hs : s.size ≤ 40) (h0 : 0 < s.size) (h49 : s.data.toList.head? = some 49) (w : World) : Calls Tryz.prog 35 #[.string s] w (SplitEnd s.data.toList w) := by
  obtain ⟨g0, g1, g2, g3, g4⟩ := str_empty s false true (by
    rw [decide_eq_false_iff_not]; intro e; have h3 := sizeL s; rw [e] at h3; simp at h3; omega) rfl
  have g40 : decide (40 < s.size) = false := by simp; omega
  have g40' : decide (40 < (s.size : Int)) = false := by simp; omega
  have hsl := sizeL s
  obtain ⟨y, Y, hy⟩ : ∃ y Y, s.data.toList = y :: Y := by
    cases h : s.data.toList with
    | nil => rw [h] at hsl; simp at hsl; omega
    | cons y Y => exact ⟨y, Y, rfl⟩
  have hcp := fun W => Tryz.strings_CutPrefix s ⟨#[49]⟩ W
  obtain rfl : y = 49 := by rw [hy] at h49; simpa using h49
  have hp1 : Lib.hasPrefix s.data.toList (⟨#[49]⟩ : ByteArray).data.toList = true := by rw [hy]; rfl
  have hp2 : Lib.trimPrefix s.data.toList (⟨#[49]⟩ : ByteArray).data.toList = Y := by unfold Lib.trimPrefix; rw [if_pos hp1, hy]; rfl
  have HEQ : Hid (itemsL s.data.toList = (tailL Y).map ([] ++ ·)) := Lib.hid (by
    unfold itemsL
    rw [if_neg (by omega), hy]
    simp)
  rw [hp1, hp2] at hcp
  obtain ⟨R0, hR0⟩ : ∃ R0 : ByteArray, (⟨Y.toArray⟩ : ByteArray) = R0 := ⟨_, rfl⟩
  rw [hR0] at hcp
  have HR0 : Hid (R0.data.toList = Y) := Lib.hid (by rw [← hR0])
  have HRS : Hid (R0.size ≤ 41) := Lib.hid (by rw [← sizeL, HR0.out]; rw [hy] at hsl; simp at hsl; omega)
  have HST : Hid (Jm w s.data.toList R0.data.toList [] (.slice none 0 0) w) := Lib.hid ⟨OwnJ.nil w, Below.refl _ _, fun b h => (by cases h), by rw [HR0.out]; exact HEQ.out, by rw [sizeL]; simpa using HRS.out⟩
  have HCP := Lib.hid hcp
  clear hcp hp1 hp2 hy hR0 hsl h49
  go_enter Tryz.func35, Tryz.ntmps35
  go_wp2_with fail
  refine (HCP.out _).mono ?_
  rintro e w1 ⟨rfl, hw1⟩
  rw [hw1]
  clear hw1 w1
  go_wp2_with fail
  go_loopw [4, 6] (fun r v wr => ∃ (R : ByteArray) (l : List (List UInt8 × Int)) (a : Option Addr) (c : Nat), r = .string R ∧ v = .slice a l.length c ∧ R.size ≤ 41 ∧ Jm w s.data.toList R.data.toList l (.slice a l.length c) wr) (fun r _ _ => lenOf r)
  case atStart => exact ⟨R0, [], none, 0, rfl, rfl, HRS.out, HST.out⟩
  case round =>
    obtain ⟨R, l, a, c, rfl, rfl, hR, hI⟩ := hrel
    have HI := Lib.hid hI
    have HRS := Lib.hid (sizeL R)
    rcases hRl : R.data.toList with _ | ⟨x, L⟩
    · obtain ⟨m1, m2, m3, m4, m5⟩ := str_empty R true false (by rw [hRl]; rfl) rfl
      have HV : Hid (itemsL s.data.toList = some l) := Lib.hid (by have := HI.out.eq; rw [hRl, tailL_nil] at this; rw [this]; simp)
      clear hI hRl hR
      go_wp2_with fail
      go_ret2
      exact sp_some HV.out rfl HI.out.own HI.out.below HI.out.new
    · obtain ⟨m1, m2, m3, m4, m5⟩ := str_empty R false true (by rw [hRl]; rfl) rfl
      rw [hRl] at HI HRS
      have HSP : Hid (Calls Tryz.prog 66 #[.string R] wr (Gives (readItemV x L) wr)) := Lib.hid (readitem_any R hRl (by omega) wr)
      by_cases hc : signB x = true ∧ itemL L ≠ none
      · obtain ⟨hc, hit⟩ := hc
        rcases hit2 : itemL L with _ | ⟨⟨v, n⟩, r⟩
        · exact absurd hit2 hit
        have HIT := Lib.hid hit2
        have HC := Lib.hid hc
        obtain ⟨m, hm⟩ : ∃ m : Int, (if x = 47 then -(n : Int) else (n : Int)) = m := ⟨_, rfl⟩
        have hsv : readItemV x L = riV v m ((L.length : Int) + 1 - r.length) := by unfold readItemV; rw [hc, hit2, ← hm]; rfl
        rw [hsv] at HSP
        have HM := Lib.hid hm.symm
        obtain ⟨V, hV⟩ : ∃ V : ByteArray, (⟨v.toArray⟩ : ByteArray) = V := ⟨_, rfl⟩
        have HVV : Hid (sv v = .string V) := Lib.hid (by unfold sv; rw [hV])
        obtain ⟨hrd, hrl⟩ := rest_drop (c := x) hit2
        obtain ⟨q, hq⟩ : ∃ q : Nat, L.length + 1 - r.length = q := ⟨_, rfl⟩
        have hsz : R.size = L.length + 1 := by have := HRS.out; simp at this; omega
        have HQL : Hid (1 < q ∧ q ≤ R.size ∧ (R.extract q R.size).size < R.size ∧ (R.extract q R.size).size ≤ 41) := Lib.hid (by
          have h1 := sizeL (R.extract q R.size)
          rw [ext_rest R q (by omega), hRl, ← hq, hrd] at h1
          rw [hq] at h1
          omega)
        rw [show ((L.length : Int) + 1 - r.length) = (q : Int) by omega] at HSP
        have hsl := sl_run R q (by omega)
        have HER : Hid ((R.extract q R.size).data.toList = r) := Lib.hid (by rw [ext_rest R q (by omega), hRl, ← hq]; exact hrd)
        obtain ⟨R2, hR2⟩ : ∃ R2, R.extract q R.size = R2 := ⟨_, rfl⟩
        rw [hR2] at hsl HER HQL
        unfold riV at HSP
        rw [HVV.out] at HSP
        have gq : ((q : Int) == 0) = false := by rw [beq_eq_false_iff_ne]; omega
        clear hI hc hit hit2 hV hrd hrl hq hsv hm hR2 hRl hsz hR
        go_wp2_with fail
        refine HSP.out.mono ?_
        rintro e w5 ⟨rfl, hb5⟩
        have HP5 : Hid (Jt (w5.alloc (.cells #[.string ⟨#[]⟩, .int .i64 0] 67)) w5.heap.size (.string ⟨#[]⟩) 0) := Lib.hid (heap_alloc_new w5 _)
        have HP7 := Lib.hid (HP5.out.row (.string V) m)
        have HI7 : Hid (Jm w s.data.toList (x :: L) l (.slice a l.length c) ((w5.alloc (.cells #[.string ⟨#[]⟩, .int .i64 0] 67)).setRow w5.heap.size #[.string V, .int .i64 m])) := Lib.hid ((HI.out.later hb5).later (below_row (below_alloc w5 (.cells #[.string ⟨#[]⟩, .int .i64 0] 67)) (b := w5.heap.size) (Nat.le_refl _) _))
        clear hb5
        go_upto_region 13 with (first | refine wpList_store_row rfl _ _ _ rfl _ _ rfl rfl _ _ HP5.out (infoJ _ _) rfl (by simp [Value.oneCell']) ?_ | fail)
        obtain ⟨W1, hW1⟩ : ∃ W, ((w5.alloc (.cells #[.string ⟨#[]⟩, .int .i64 0] 67)).setRow w5.heap.size #[.string V, .int .i64 m]) = W := ⟨_, rfl⟩
        rw [hW1] at HI7 HP7 ⊢
        obtain ⟨b1, hb1⟩ : ∃ b, w5.heap.size = b := ⟨_, rfl⟩
        rw [hb1] at HP7 ⊢
        obtain ⟨a5, c5, w6, hrun, ho, hg, hb⟩ := HI7.out.own.snoc (by have := HI7.out.len; omega) (v, m)
        rw [HVV.out] at hrun
        have HN := Lib.hid (HI7.out.snoc HC.out HIT.out HM.out ho hg rfl hb)
        clear ho hg hb hW1 hb1 HP5
        go_wp2_with (first | refine wpList_load_row rfl _ _ rfl _ rfl _ _ _ _ HP7.out Tryz.underlying67 rfl (infoJ _ _) ?_ | (at_builtin; refine Lib.wpList_append_run _ rfl _ _ _ _ rfl _ _ rfl rfl _ _ (hrun _) ?_))
        clear hrun
        go_roundw
        case rel => exact ⟨R2, l ++ [(v, m)], a5, c5, rfl, by simp, HQL.out.2.2.2, by rw [HER.out]; simpa using HN.out⟩
        case measure => exact HQL.out.2.2.1
      · have HV : Hid (itemsL s.data.toList = none) := Lib.hid (by
          rw [HI.out.eq]
          rcases hs : signB x with _ | _
          · rw [tailL_bad hs]; rfl
          · rcases hit : itemL L with _ | y
            · rw [tailL_none hit]; rfl
            · exact absurd ⟨hs, by rw [hit]; simp⟩ hc)
        have hsv : readItemV x L = riV [] 0 0 := by
          unfold readItemV
          rcases hs : signB x with _ | _
          · rfl
          · rcases hit : itemL L with _ | y
            · rfl
            · exact absurd ⟨hs, by rw [hit]; simp⟩ hc
        rw [hsv] at HSP
        unfold riV sv at HSP
        have HBW := Lib.hid HI.out.below
        clear hI hc hsv hRl hR
        go_wp2_with fail
        refine HSP.out.mono ?_
        rintro e w5 ⟨rfl, hb5⟩
        have HB5 := Lib.hid (HBW.out.trans (hb5.mono HBW.out.size))
        have HP5 : Hid (Jt (w5.alloc (.cells #[.string ⟨#[]⟩, .int .i64 0] 67)) w5.heap.size (.string ⟨#[]⟩) 0) := Lib.hid (heap_alloc_new w5 _)
        have HB6 := Lib.hid (fun (c : Array Value) => below_row (HB5.out.alloc HB5.out.size (.cells #[.string ⟨#[]⟩, .int .i64 0] 67)) (b := w5.heap.size) HB5.out.size c)
        clear hb5
        go_wp2_with (first | refine wpList_store_row rfl _ _ _ rfl _ #[.string ⟨#[]⟩, .int .i64 0] rfl rfl _ _ HP5.out (infoJ _ _) rfl (by simp [Value.oneCell']) ?_)
        all_goals (go_ret2; first | exact sp_none HV.out rfl (HB6.out _) | exact sp_none HV.out rfl (HB5.out.alloc HB5.out.size _))

set_option maxHeartbeats 8000000 in
theorem split_item (s : ByteArray) (hs : s.size ≤ 40) (h0 : 0 < s.size) (h49 : s.data.toList.head? ≠ some 49) (w : World) : Calls Tryz.prog 35 #[.string s] w (SplitEnd s.data.toList w) := by
  obtain ⟨g0, g1, g2, g3, g4⟩ := str_empty s false true (by
    rw [decide_eq_false_iff_not]; intro e; have h3 := sizeL s; rw [e] at h3; simp at h3; omega) rfl
  have g40 : decide (40 < s.size) = false := by simp; omega
  have g40' : decide (40 < (s.size : Int)) = false := by simp; omega
  have hsl := sizeL s
  obtain ⟨y, Y, hy⟩ : ∃ y Y, s.data.toList = y :: Y := by
    cases h : s.data.toList with
    | nil => rw [h] at hsl; simp at hsl; omega
    | cons y Y => exact ⟨y, Y, rfl⟩
  have hcp := fun W => Tryz.strings_CutPrefix s ⟨#[49]⟩ W
  have hy2 : y ≠ 49 := fun e => h49 (by rw [hy, e]; rfl)
  have hp1 : Lib.hasPrefix s.data.toList (⟨#[49]⟩ : ByteArray).data.toList = false := by
    rw [hy]
    show List.isPrefixOf [49] (y :: Y) = false
    simp [List.isPrefixOf]
    exact fun e => hy2 e.symm
  have hp2 : Lib.trimPrefix s.data.toList (⟨#[49]⟩ : ByteArray).data.toList = s.data.toList := by unfold Lib.trimPrefix; rw [if_neg (by rw [hp1]; decide)]
  have HEQ : Hid (itemsL s.data.toList = (tailL (42 :: s.data.toList)).map ([] ++ ·)) := Lib.hid (by
    rw [items_star (by omega) (by rw [hy]; simpa using hy2) (by rw [hy]; simp)]
    simp)
  rw [hp1, hp2] at hcp
  have hs2 : (⟨s.data.toList.toArray⟩ : ByteArray) = s := by apply ByteArray.ext; simp
  rw [hs2] at hcp
  have hadd : ∀ W : World, (Op.stringOp .add ⟨#[42]⟩ s).run Tryz.prog W = .ok (.string ⟨(42 :: s.data.toList).toArray⟩) W := fun W => by
    have := run_string_add_lists (P := Tryz.prog) (w := W) [42] s.data.toList (by decide) (by omega)
    rw [hs2] at this; exact this
  obtain ⟨R0, hR0⟩ : ∃ R0 : ByteArray, (⟨(42 :: s.data.toList).toArray⟩ : ByteArray) = R0 := ⟨_, rfl⟩
  rw [hR0] at hadd
  have HR0 : Hid (R0.data.toList = 42 :: s.data.toList) := Lib.hid (by rw [← hR0])
  have HRS : Hid (R0.size ≤ 41) := Lib.hid (by rw [← sizeL, HR0.out]; simp; omega)
  have HST : Hid (Jm w s.data.toList R0.data.toList [] (.slice none 0 0) w) := Lib.hid ⟨OwnJ.nil w, Below.refl _ _, fun b h => (by cases h), by rw [HR0.out]; exact HEQ.out, by rw [sizeL]; simpa using HRS.out⟩
  have HCP := Lib.hid hcp
  clear hcp hp1 hp2 hy hR0 hsl h49 hs2 hy2
  go_enter Tryz.func35, Tryz.ntmps35
  go_wp2_with fail
  refine (HCP.out _).mono ?_
  rintro e w1 ⟨rfl, hw1⟩
  rw [hw1]
  clear hw1 w1
  go_wp2_with fail
  go_loopw [4, 6] (fun r v wr => ∃ (R : ByteArray) (l : List (List UInt8 × Int)) (a : Option Addr) (c : Nat), r = .string R ∧ v = .slice a l.length c ∧ R.size ≤ 41 ∧ Jm w s.data.toList R.data.toList l (.slice a l.length c) wr) (fun r _ _ => lenOf r)
  case atStart => exact ⟨R0, [], none, 0, rfl, rfl, HRS.out, HST.out⟩
  case round =>
    obtain ⟨R, l, a, c, rfl, rfl, hR, hI⟩ := hrel
    have HI := Lib.hid hI
    have HRS := Lib.hid (sizeL R)
    rcases hRl : R.data.toList with _ | ⟨x, L⟩
    · obtain ⟨m1, m2, m3, m4, m5⟩ := str_empty R true false (by rw [hRl]; rfl) rfl
      have HV : Hid (itemsL s.data.toList = some l) := Lib.hid (by have := HI.out.eq; rw [hRl, tailL_nil] at this; rw [this]; simp)
      clear hI hRl hR
      go_wp2_with fail
      go_ret2
      exact sp_some HV.out rfl HI.out.own HI.out.below HI.out.new
    · obtain ⟨m1, m2, m3, m4, m5⟩ := str_empty R false true (by rw [hRl]; rfl) rfl
      rw [hRl] at HI HRS
      have HSP : Hid (Calls Tryz.prog 66 #[.string R] wr (Gives (readItemV x L) wr)) := Lib.hid (readitem_any R hRl (by omega) wr)
      by_cases hc : signB x = true ∧ itemL L ≠ none
      · obtain ⟨hc, hit⟩ := hc
        rcases hit2 : itemL L with _ | ⟨⟨v, n⟩, r⟩
        · exact absurd hit2 hit
        have HIT := Lib.hid hit2
        have HC := Lib.hid hc
        obtain ⟨m, hm⟩ : ∃ m : Int, (if x = 47 then -(n : Int) else (n : Int)) = m := ⟨_, rfl⟩
        have hsv : readItemV x L = riV v m ((L.length : Int) + 1 - r.length) := by unfold readItemV; rw [hc, hit2, ← hm]; rfl
        rw [hsv] at HSP
        have HM := Lib.hid hm.symm
        obtain ⟨V, hV⟩ : ∃ V : ByteArray, (⟨v.toArray⟩ : ByteArray) = V := ⟨_, rfl⟩
        have HVV : Hid (sv v = .string V) := Lib.hid (by unfold sv; rw [hV])
        obtain ⟨hrd, hrl⟩ := rest_drop (c := x) hit2
        obtain ⟨q, hq⟩ : ∃ q : Nat, L.length + 1 - r.length = q := ⟨_, rfl⟩
        have hsz : R.size = L.length + 1 := by have := HRS.out; simp at this; omega
        have HQL : Hid (1 < q ∧ q ≤ R.size ∧ (R.extract q R.size).size < R.size ∧ (R.extract q R.size).size ≤ 41) := Lib.hid (by
          have h1 := sizeL (R.extract q R.size)
          rw [ext_rest R q (by omega), hRl, ← hq, hrd] at h1
          rw [hq] at h1
          omega)
        rw [show ((L.length : Int) + 1 - r.length) = (q : Int) by omega] at HSP
        have hsl := sl_run R q (by omega)
        have HER : Hid ((R.extract q R.size).data.toList = r) := Lib.hid (by rw [ext_rest R q (by omega), hRl, ← hq]; exact hrd)
        obtain ⟨R2, hR2⟩ : ∃ R2, R.extract q R.size = R2 := ⟨_, rfl⟩
        rw [hR2] at hsl HER HQL
        unfold riV at HSP
        rw [HVV.out] at HSP
        have gq : ((q : Int) == 0) = false := by rw [beq_eq_false_iff_ne]; omega
        clear hI hc hit hit2 hV hrd hrl hq hsv hm hR2 hRl hsz hR
        go_wp2_with fail
        refine HSP.out.mono ?_
        rintro e w5 ⟨rfl, hb5⟩
        have HP5 : Hid (Jt (w5.alloc (.cells #[.string ⟨#[]⟩, .int .i64 0] 67)) w5.heap.size (.string ⟨#[]⟩) 0) := Lib.hid (heap_alloc_new w5 _)
        have HP7 := Lib.hid (HP5.out.row (.string V) m)
        have HI7 : Hid (Jm w s.data.toList (x :: L) l (.slice a l.length c) ((w5.alloc (.cells #[.string ⟨#[]⟩, .int .i64 0] 67)).setRow w5.heap.size #[.string V, .int .i64 m])) := Lib.hid ((HI.out.later hb5).later (below_row (below_alloc w5 (.cells #[.string ⟨#[]⟩, .int .i64 0] 67)) (b := w5.heap.size) (Nat.le_refl _) _))
        clear hb5
        go_upto_region 13 with (first | refine wpList_store_row rfl _ _ _ rfl _ _ rfl rfl _ _ HP5.out (infoJ _ _) rfl (by simp [Value.oneCell']) ?_ | fail)
        obtain ⟨W1, hW1⟩ : ∃ W, ((w5.alloc (.cells #[.string ⟨#[]⟩, .int .i64 0] 67)).setRow w5.heap.size #[.string V, .int .i64 m]) = W := ⟨_, rfl⟩
        rw [hW1] at HI7 HP7 ⊢
        obtain ⟨b1, hb1⟩ : ∃ b, w5.heap.size = b := ⟨_, rfl⟩
        rw [hb1] at HP7 ⊢
        obtain ⟨a5, c5, w6, hrun, ho, hg, hb⟩ := HI7.out.own.snoc (by have := HI7.out.len; omega) (v, m)
        rw [HVV.out] at hrun
        have HN := Lib.hid (HI7.out.snoc HC.out HIT.out HM.out ho hg rfl hb)
        clear ho hg hb hW1 hb1 HP5
        go_wp2_with (first | refine wpList_load_row rfl _ _ rfl _ rfl _ _ _ _ HP7.out Tryz.underlying67 rfl (infoJ _ _) ?_ | (at_builtin; refine Lib.wpList_append_run _ rfl _ _ _ _ rfl _ _ rfl rfl _ _ (hrun _) ?_))
        clear hrun
        go_roundw
        case rel => exact ⟨R2, l ++ [(v, m)], a5, c5, rfl, by simp, HQL.out.2.2.2, by rw [HER.out]; simpa using HN.out⟩
        case measure => exact HQL.out.2.2.1
      · have HV : Hid (itemsL s.data.toList = none) := Lib.hid (by
          rw [HI.out.eq]
          rcases hs : signB x with _ | _
          · rw [tailL_bad hs]; rfl
          · rcases hit : itemL L with _ | y
            · rw [tailL_none hit]; rfl
            · exact absurd ⟨hs, by rw [hit]; simp⟩ hc)
        have hsv : readItemV x L = riV [] 0 0 := by
          unfold readItemV
          rcases hs : signB x with _ | _
          · rfl
          · rcases hit : itemL L with _ | y
            · rfl
            · exact absurd ⟨hs, by rw [hit]; simp⟩ hc
        rw [hsv] at HSP
        unfold riV sv at HSP
        have HBW := Lib.hid HI.out.below
        clear hI hc hsv hRl hR
        go_wp2_with fail
        refine HSP.out.mono ?_
        rintro e w5 ⟨rfl, hb5⟩
        have HB5 := Lib.hid (HBW.out.trans (hb5.mono HBW.out.size))
        have HP5 : Hid (Jt (w5.alloc (.cells #[.string ⟨#[]⟩, .int .i64 0] 67)) w5.heap.size (.string ⟨#[]⟩) 0) := Lib.hid (heap_alloc_new w5 _)
        have HB6 := Lib.hid (fun (c : Array Value) => below_row (HB5.out.alloc HB5.out.size (.cells #[.string ⟨#[]⟩, .int .i64 0] 67)) (b := w5.heap.size) HB5.out.size c)
        clear hb5
        go_wp2_with (first | refine wpList_store_row rfl _ _ _ rfl _ #[.string ⟨#[]⟩, .int .i64 0] rfl rfl _ _ HP5.out (infoJ _ _) rfl (by simp [Value.oneCell']) ?_)
        all_goals (go_ret2; first | exact sp_none HV.out rfl (HB6.out _) | exact sp_none HV.out rfl (HB5.out.alloc HB5.out.size _))
theorem splitP_any (s : ByteArray) (w : World) : Calls Tryz.prog 35 #[.string s] w (SplitEnd s.data.toList w) := by
  by_cases h : 40 < s.size
  · exact split_long s h w
  · by_cases h0 : 0 < s.size
    · by_cases h49 : s.data.toList.head? = some 49
      · exact split_one s (by omega) h0 h49 w
      · exact split_item s (by omega) h0 h49 w
    · have e : s = ⟨#[]⟩ := by
        apply ByteArray.ext
        apply Array.ext'
        have := sizeL s
        exact List.eq_nil_of_length_eq_zero (by omega)
      subst e
      exact split_empty w
end Go.Proofs.YtmhdhabgdlefjaaGreatDoor.Un

namespace Go.Proofs.YtmhdhabgdlefjaaGreatDoor.Un
open Go.RowKit Bi Dm

/-- A unit's Right, for any cells. -/
def uR (f : Nat → Int) (s : Int) (l : List Int) (t : Int) (k : List Int) : Bool := ok f && (fRightB s l t k && decide (0 < s))
theorem uR_is {f : Nat → Int} {r : Rat} : uR f r.num.sign (digs r.num.natAbs) 1 (digs (r.den : Int).natAbs) = (ok f && decide (0 < r.num.sign)) := by
  unfold uR; rw [fright_is, Bool.true_and]
theorem fsign_any {w : World} {s t : Int} {a b : Option Addr} {n c m d : Nat} {l k : List Int} (hl : Ints w (.slice a n c) l) (hk : Ints w (.slice b m d) k) (ll : l.length ≤ 1000) (lk : k.length ≤ 1000) :
    Calls Tryz.prog 50 #[.agg #[.int .i64 s, .slice a n c, .int .i64 t, .slice b m d]] w fun e w' => e = .returned (.int .i64 (if fRightB s l t k then s else 0)) ∧ RowKit.Below w.heap.size w w' := by
  rcases h : fRightB s l t k with _ | _
  · exact fsign_bad s a n c l t b m d k w hl hk (by omega) (by omega) h
  · obtain ⟨r, rfl, rfl, rfl, rfl⟩ := fright_of h
    exact fsign_k (⟨⟨rfl, hl⟩, ⟨(den_sign r).symm, hk⟩⟩ : Fr w _ _ _ r) ⟨Sz.of ll, Sz.of lk⟩
set_option maxHeartbeats 8000000 in
theorem uright_raw {w : World} {f : Nat → Int} {s1 t1 : Int} {a1 b1 : Option Addr} {n1 c1 m1 d1 : Nat} {l1 k1 : List Int} (hl1 : Ints w (.slice a1 n1 c1) l1) (hk1 : Ints w (.slice b1 m1 d1) k1) (ll1 : l1.length ≤ 1000) (lk1 : k1.length ≤ 1000) {r : Bool} (hr : uR f s1 l1 t1 k1 = r) :
    Calls Tryz.prog 22 #[.agg #[.int .i64 (f 0), .int .i64 (f 1), .int .i64 (f 2), .int .i64 (f 3), .int .i64 (f 4), .int .i64 (f 5), .int .i64 s1, .slice a1 n1 c1, .int .i64 t1, .slice b1 m1 d1]] w fun e w' => e = .returned (.bool r) ∧ RowKit.Below w.heap.size w w' := by
  have HD := Lib.hid (fun W => rightG f W)
  unfold uR at hr
  rcases ho : ok f with _ | _
  · rw [ho] at HD hr
    have LL1 := Lib.hid ll1
    have LK1 := Lib.hid lk1
    obtain rfl : false = r := hr
    have s0 := ((((Sf.start w).arg hk1).arg hl1).put [.int .i64 (f 0), .int .i64 (f 1), .int .i64 (f 2), .int .i64 (f 3), .int .i64 (f 4), .int .i64 (f 5), .int .i64 s1, .slice a1 n1 c1, .int .i64 t1, .slice b1 m1 d1] 30)
    try simp only [World.size_alloc] at s0
    have S0 := Lib.hid s0
    clear s0
    clear hl1 hk1 ll1 lk1 ho
    go_enter Tryz.func22, Tryz.ntmps22
    go_wp2_with fail
    refine (HD.out _).mono ?_
    rintro e w1 ⟨rfl, hb⟩
    have R1 := Lib.hid (S0.out.later hb)
    clear hb
    go_wp2_with fail
    go_ret
    exact ⟨rfl, R1.out.below⟩
  · rw [ho] at HD hr
    rcases hq : fRightB s1 l1 t1 k1 with _ | _
    · rw [hq] at hr
      have LL1 := Lib.hid ll1
      have LK1 := Lib.hid lk1
      have HQ := Lib.hid hq
      obtain rfl : false = r := hr
      have s0 := ((((Sf.start w).arg hk1).arg hl1).put [.int .i64 (f 0), .int .i64 (f 1), .int .i64 (f 2), .int .i64 (f 3), .int .i64 (f 4), .int .i64 (f 5), .int .i64 s1, .slice a1 n1 c1, .int .i64 t1, .slice b1 m1 d1] 30)
      try simp only [World.size_alloc] at s0
      have S0 := Lib.hid s0
      clear s0
      clear hl1 hk1 ll1 lk1 ho hq
      have HS : Hid (∀ W, RowKit.Below w.heap.size w W → Ints W (.slice a1 n1 c1) l1 → Ints W (.slice b1 m1 d1) k1 → Calls Tryz.prog 50 #[.agg #[.int .i64 s1, .slice a1 n1 c1, .int .i64 t1, .slice b1 m1 d1]] W fun e w' => e = .returned (.int .i64 0) ∧ RowKit.Below W.heap.size W w') := Lib.hid (fun W _ h1 h2 => by
        have := fsign_any (w := W) (s := s1) (t := t1) h1 h2 LL1.out LK1.out
        rw [HQ.out] at this; exact this)
      go_enter Tryz.func22, Tryz.ntmps22
      go_wp2_with fail
      refine (HD.out _).mono ?_
      rintro e w1 ⟨rfl, hb⟩
      have R1 := Lib.hid (S0.out.later hb)
      clear hb
      obtain ⟨q1, q2, q3, q4, q5, q6, q7, q8, q9, q10⟩ := Fb.cells10 (R1.out.box (w.heap.size, 30, [.int .i64 (f 0), .int .i64 (f 1), .int .i64 (f 2), .int .i64 (f 3), .int .i64 (f 4), .int .i64 (f 5), .int .i64 s1, .slice a1 n1 c1, .int .i64 t1, .slice b1 m1 d1]) mq0)
      go_wp2_with fail
      clear q1 q2 q3 q4 q5 q6 q7 q8 q9 q10
      refine (HS.out _ R1.out.below (R1.out.ints (.slice a1 n1 c1, l1) mq0) (R1.out.ints (.slice b1 m1 d1, k1) mq1)).mono ?_
      rintro e w2 ⟨rfl, hb⟩
      have R2 := Lib.hid (R1.out.later hb)
      clear hb
      go_wp2_with fail
      go_ret
      exact ⟨rfl, R2.out.below⟩
    · rw [hq] at hr
      have LL1 := Lib.hid ll1
      have LK1 := Lib.hid lk1
      have HQ := Lib.hid hq
      obtain rfl : decide (0 < s1) = r := by simpa using hr
      have s0 := ((((Sf.start w).arg hk1).arg hl1).put [.int .i64 (f 0), .int .i64 (f 1), .int .i64 (f 2), .int .i64 (f 3), .int .i64 (f 4), .int .i64 (f 5), .int .i64 s1, .slice a1 n1 c1, .int .i64 t1, .slice b1 m1 d1] 30)
      try simp only [World.size_alloc] at s0
      have S0 := Lib.hid s0
      clear s0
      clear hl1 hk1 ll1 lk1 ho hq
      have HS : Hid (∀ W, RowKit.Below w.heap.size w W → Ints W (.slice a1 n1 c1) l1 → Ints W (.slice b1 m1 d1) k1 → Calls Tryz.prog 50 #[.agg #[.int .i64 s1, .slice a1 n1 c1, .int .i64 t1, .slice b1 m1 d1]] W fun e w' => e = .returned (.int .i64 s1) ∧ RowKit.Below W.heap.size W w') := Lib.hid (fun W _ h1 h2 => by
        have := fsign_any (w := W) (s := s1) (t := t1) h1 h2 LL1.out LK1.out
        rw [HQ.out] at this; exact this)
      go_enter Tryz.func22, Tryz.ntmps22
      go_wp2_with fail
      refine (HD.out _).mono ?_
      rintro e w1 ⟨rfl, hb⟩
      have R1 := Lib.hid (S0.out.later hb)
      clear hb
      obtain ⟨q1, q2, q3, q4, q5, q6, q7, q8, q9, q10⟩ := Fb.cells10 (R1.out.box (w.heap.size, 30, [.int .i64 (f 0), .int .i64 (f 1), .int .i64 (f 2), .int .i64 (f 3), .int .i64 (f 4), .int .i64 (f 5), .int .i64 s1, .slice a1 n1 c1, .int .i64 t1, .slice b1 m1 d1]) mq0)
      go_wp2_with fail
      clear q1 q2 q3 q4 q5 q6 q7 q8 q9 q10
      refine (HS.out _ R1.out.below (R1.out.ints (.slice a1 n1 c1, l1) mq0) (R1.out.ints (.slice b1 m1 d1, k1) mq1)).mono ?_
      rintro e w2 ⟨rfl, hb⟩
      have R2 := Lib.hid (R1.out.later hb)
      clear hb
      go_wp2_with fail
      go_ret
      exact ⟨rfl, R2.out.below⟩
theorem uright_v {w : World} {f : Nat → Int} {s : Int} {aa ba : Option Addr} {na ca ma da : Nat} {r : Rat} (hf : ok f = true) (h : Fr w s (.slice aa na ca) (.slice ba ma da) r) (l : FSz 1000 r) {b : Bool} (hb : decide (0 < r.num.sign) = b) :
    Calls Tryz.prog 22 #[.agg (uc f s (.slice aa na ca) 1 (.slice ba ma da))] w fun e w' => e = .returned (.bool b) ∧ RowKit.Below w.heap.size w w' := by
  obtain ⟨⟨rfl, h1⟩, ⟨_, h2⟩⟩ := h
  exact uright_raw h1 h2 (digs_le l.1) (digs_le l.2) (by rw [uR_is, hf, hb]; rfl)

set_option maxHeartbeats 8000000 in
theorem ufrom_k {w : World} {f : Nat → Int} {s3 : Int} {a3 b3 : Option Addr} {n3 c3 m3 d3 : Nat} {v : Rat} {s1 : Int} {a1 b1 : Option Addr} {n1 c1 m1 d1 : Nat} {x : Rat} (hv : Fr w s3 (.slice a3 n3 c3) (.slice b3 m3 d3) v) (hx : Fr w s1 (.slice a1 n1 c1) (.slice b1 m1 d1) x) (lv : FSz 1000 v) (lx : FSz 1000 x) (hf : ok f = true) (px : decide (0 < x.num.sign) = true) {r : Rat} (hr : v * x = r) :
    Calls Tryz.prog 19 #[.agg #[.int .i64 s3, .slice a3 n3 c3, .int .i64 1, .slice b3 m3 d3], .agg (uc f s1 (.slice a1 n1 c1) 1 (.slice b1 m1 d1))] w (FVE r 0 w) := by
  have Ev := Lib.hid hv.1.1
  have Lv := Lib.hid lv
  have Ex := Lib.hid hx.1.1
  have Lx := Lib.hid lx
  have Of := Lib.hid hf
  have Px := Lib.hid px
  have HRR := Lib.hid hr
  have s0 := ((((((((Sf.start w).arg hv.2.2).arg hv.1.2).arg hx.2.2).arg hx.1.2).put [.int .i64 s3, .slice a3 n3 c3, .int .i64 1, .slice b3 m3 d3] 28).put [.int .i64 (f 0), .int .i64 (f 1), .int .i64 (f 2), .int .i64 (f 3), .int .i64 (f 4), .int .i64 (f 5), .int .i64 s1, .slice a1 n1 c1, .int .i64 1, .slice b1 m1 d1] 30).put [.int .i64 0, .slice none 0 0, .int .i64 0, .slice none 0 0] 28)
  try simp only [World.size_alloc] at s0
  have S0 := Lib.hid s0
  clear s0
  clear hv hx lv lx hf px hr
  unfold uc
  go_enter Tryz.func19, Tryz.ntmps19
  go_wp2_with fail
  refine (uright_v Of.out (S0.out.fr (v := .slice a1 n1 c1) (u := .slice b1 m1 d1) (r := x) mq0 mq1 Ex.out) Lx.out Px.out).mono ?_
  rintro e w1 ⟨rfl, hb⟩
  have R1 := Lib.hid (S0.out.later hb)
  clear hb
  obtain ⟨q1, q2, q3, q4⟩ := Fb.cells4 (R1.out.box (w.heap.size, 28, [.int .i64 s3, .slice a3 n3 c3, .int .i64 1, .slice b3 m3 d3]) mq2)
  obtain ⟨q5, q6, q7, q8, q9, q10, q11, q12, q13, q14⟩ := Fb.cells10 (R1.out.box (w.heap.size + 1, 30, [.int .i64 (f 0), .int .i64 (f 1), .int .i64 (f 2), .int .i64 (f 3), .int .i64 (f 4), .int .i64 (f 5), .int .i64 s1, .slice a1 n1 c1, .int .i64 1, .slice b1 m1 d1]) mq1)
  go_wp2_with fail
  clear q1 q2 q3 q4 q5 q6 q7 q8 q9 q10 q11 q12 q13 q14
  refine (fmul_r (R1.out.fr (v := .slice a3 n3 c3) (u := .slice b3 m3 d3) (r := v) mq2 mq3 Ev.out) (R1.out.fr (v := .slice a1 n1 c1) (u := .slice b1 m1 d1) (r := x) mq0 mq1 Ex.out) Lv.out Lx.out HRR.out).mono ?_
  rintro e w2 ⟨sx2, ax2, nx2, cx2, bx2, mx2, dx2, rfl, hr, hb, hf, hg⟩
  have E2 := Lib.hid hr.1.1
  have R2 := Lib.hid (R1.out.ret2 hb hr.1.2 hf hr.2.2 hg)
  have FF2 := Lib.hid (hf.mono R1.out.below.size)
  have FG2 := Lib.hid (hg.mono R1.out.below.size)
  clear hr hb hf hg
  have Q15 := Lib.hid (Sf.row (pre := []) R2.out [.int .i64 sx2, .slice ax2 nx2 cx2, .int .i64 1, .slice bx2 mx2 dx2])
  go_wp2_with (first | refine wpList_store_row rfl _ _ _ rfl _ #[.int .i64 sx2, .slice ax2 nx2 cx2, .int .i64 1, .slice bx2 mx2 dx2] rfl rfl _ _ (R2.out.box _ mq0) (by kernel_rfl) rfl (by simp [Value.oneCell']) ?_)
  refine bodyPost_ret (ret_row rfl _ _ _ _ rfl (run_loadVar_row _ _ _ _ _ (0, 0) _ (Q15.out.box _ mq0) Tryz.underlying28 rfl (by kernel_rfl))) rfl ⟨_, _, _, _, _, _, _, rfl, (Q15.out.fr (v := .slice ax2 nx2 cx2) (u := .slice bx2 mx2 dx2) (r := r) mq0 mq1 E2.out), Q15.out.below, FF2.out, FG2.out⟩

end Go.Proofs.YtmhdhabgdlefjaaGreatDoor.Un
