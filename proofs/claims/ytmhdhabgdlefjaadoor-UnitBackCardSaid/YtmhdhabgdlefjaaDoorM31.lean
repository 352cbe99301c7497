/- The contracts of the reference of unit: Word. The contract of the reference of unit: power. The contracts of the reference of unit: Same, Few. Slices of items: append; the contract of the reference's Items. The contract of the reference's Items. How many items a text has, how large their exponents, dimensions and factors are. The elements of a slice of items; a dimension's exponents added one by one. The table of symbols that the program of unit goes through; plain mathematics. No program. The contracts of unit: isLetter, readPrefix, readItem. The listed table of symbols; suffixes. -/
import Derived.Test.YtmhdhabgdlefjaaDoorM30
import Derived.Test.YtmhdhabgdlefjaaDoorM28
import Derived.Lib.ReflectliteSwap
import Derived.Test.YtmhdhabgdlefjaaDoorM29
import Derived.Test.YtmhdhabgdlefjaaDoorM25
import Derived.Deep.LoopGhost
import Derived.Deep.CutRange
import Derived.Deep.CutBlock
set_option maxRecDepth 100000
namespace Go.Proofs.YtmhdhabgdlefjaaDoor.Un
open Go.RowKit Bi Dm

/-- What Word gives. -/
def WordEnd (L : List UInt8) (w : World) (e : Ending) (w' : World) : Prop := match wordL L with
  | some (b, n, q) => UVB (up zf b n) q true w e w'
  | none => Gives (.tuple #[.agg (uc zf 0 (.slice none 0 0) 0 (.slice none 0 0)), .bool false]) w e w'
theorem word_none {L : List UInt8} (h : wordL L = none) {w : World} {e : Ending} {w' : World} (g : Gives (.tuple #[.agg (uc zf 0 (.slice none 0 0) 0 (.slice none 0 0)), .bool false]) w e w') : WordEnd L w e w' := by
  unfold WordEnd; rw [h]; exact g
theorem word_some {L : List UInt8} {b : Nat} {n : Int} {q : Rat} (h : wordL L = some (b, n, q)) {w : World} {e : Ending} {w' : World} (g : UVB (up zf b n) q true w e w') : WordEnd L w e w' := by
  unfold WordEnd; rw [h]; exact g
theorem sym_sz {l : List UInt8} {b : Nat} {n : Int} {q : Rat} (h : symL l = some (b, n, q)) : FSz 1 q ∧ 0 < q ∧ b < 6 := by
  unfold symL at h
  by_cases e0 : l = [103]
  · rw [if_pos e0] at h; injection h with h; injection h with h1 h2; injection h2 with h2 h3; subst h1 h3; exact ⟨FSz.one (by decide +kernel) (by decide +kernel), by decide +kernel, by decide⟩
  rw [if_neg e0] at h
  by_cases e1 : l = [116]
  · rw [if_pos e1] at h; injection h with h; injection h with h1 h2; injection h2 with h2 h3; subst h1 h3; exact ⟨FSz.one (by decide +kernel) (by decide +kernel), by decide +kernel, by decide⟩
  rw [if_neg e1] at h
  by_cases e2 : l = [109]
  · rw [if_pos e2] at h; injection h with h; injection h with h1 h2; injection h2 with h2 h3; subst h1 h3; exact ⟨FSz.one (by decide +kernel) (by decide +kernel), by decide +kernel, by decide⟩
  rw [if_neg e2] at h
  by_cases e3 : l = [108]
  · rw [if_pos e3] at h; injection h with h; injection h with h1 h2; injection h2 with h2 h3; subst h1 h3; exact ⟨FSz.one (by decide +kernel) (by decide +kernel), by decide +kernel, by decide⟩
  rw [if_neg e3] at h
  by_cases e4 : l = [115]
  · rw [if_pos e4] at h; injection h with h; injection h with h1 h2; injection h2 with h2 h3; subst h1 h3; exact ⟨FSz.one (by decide +kernel) (by decide +kernel), by decide +kernel, by decide⟩
  rw [if_neg e4] at h
  by_cases e5 : l = [104]
  · rw [if_pos e5] at h; injection h with h; injection h with h1 h2; injection h2 with h2 h3; subst h1 h3; exact ⟨FSz.one (by decide +kernel) (by decide +kernel), by decide +kernel, by decide⟩
  rw [if_neg e5] at h
  by_cases e6 : l = [100]
  · rw [if_pos e6] at h; injection h with h; injection h with h1 h2; injection h2 with h2 h3; subst h1 h3; exact ⟨FSz.one (by decide +kernel) (by decide +kernel), by decide +kernel, by decide⟩
  rw [if_neg e6] at h
  by_cases e7 : l = [74]
  · rw [if_pos e7] at h; injection h with h; injection h with h1 h2; injection h2 with h2 h3; subst h1 h3; exact ⟨FSz.one (by decide +kernel) (by decide +kernel), by decide +kernel, by decide⟩
  rw [if_neg e7] at h
  by_cases e8 : l = [87, 104]
  · rw [if_pos e8] at h; injection h with h; injection h with h1 h2; injection h2 with h2 h3; subst h1 h3; exact ⟨FSz.one (by decide +kernel) (by decide +kernel), by decide +kernel, by decide⟩
  rw [if_neg e8] at h
  by_cases e9 : l = [99, 101, 110, 116]
  · rw [if_pos e9] at h; injection h with h; injection h with h1 h2; injection h2 with h2 h3; subst h1 h3; exact ⟨FSz.one (by decide +kernel) (by decide +kernel), by decide +kernel, by decide⟩
  rw [if_neg e9] at h
  by_cases e10 : l = [101, 117, 114]
  · rw [if_pos e10] at h; injection h with h; injection h with h1 h2; injection h2 with h2 h3; subst h1 h3; exact ⟨FSz.one (by decide +kernel) (by decide +kernel), by decide +kernel, by decide⟩
  rw [if_neg e10] at h
  by_cases e11 : l = [112, 99]
  · rw [if_pos e11] at h; injection h with h; injection h with h1 h2; injection h2 with h2 h3; subst h1 h3; exact ⟨FSz.one (by decide +kernel) (by decide +kernel), by decide +kernel, by decide⟩
  rw [if_neg e11] at h
  cases h
theorem pre_sz {c : UInt8} {p : Rat} (h : preL c = some p) : FSz 2 p ∧ 0 < p := by
  unfold preL at h
  by_cases e0 : c = 107
  · rw [if_pos e0] at h; injection h with h; subst h; exact ⟨(FSz.one (by decide +kernel) (by decide +kernel)).mono, by decide +kernel⟩
  rw [if_neg e0] at h
  by_cases e1 : c = 77
  · rw [if_pos e1] at h; injection h with h; subst h; exact ⟨(FSz.one (by decide +kernel) (by decide +kernel)).mono, by decide +kernel⟩
  rw [if_neg e1] at h
  by_cases e2 : c = 71
  · rw [if_pos e2] at h; injection h with h; subst h; exact ⟨⟨by show ((1000000000 : Int).natAbs : Int) < _; simp [P], by show ((1 : Int).natAbs : Int) < _; simp [P]⟩, by decide +kernel⟩
  rw [if_neg e2] at h
  by_cases e3 : c = 109
  · rw [if_pos e3] at h; injection h with h; subst h; exact ⟨(FSz.one (by decide +kernel) (by decide +kernel)).mono, by decide +kernel⟩
  rw [if_neg e3] at h
  cases h
theorem sl_run1 (s : ByteArray) (h : 1 ≤ s.size) (W : World) : (Instr.slice 9 (.string s) (some (.int .i64 1)) none none).run Tryd.prog W = .ok (.string (s.extract 1 s.size)) W := by
  rw [run_slice_string_l _ _ _ Tryd.underlying9 .i64 1 (by omega) (by omega)]
  rfl
/-- Four cells are stored into a box, from one of its cells on. -/
theorem wpList_store4 {ops : Array Oper} {rest : List Oper} {o : Oper} {a : Act} {w : World} {Q : Exit → Act → World → Prop} (hgd : o.guard = none) (ty : TypeId) (x y : Operand) (ho : o.op = .store ty x y)
    (g k k1 k2 k3 : Nat) (e1 : k1 = k + 1) (e2 : k2 = k + 2) (e3 : k3 = k + 3) (v0 v1 v2 v3 : Value) (hx : a.eval x = .pointer (some ⟨g, k, none⟩)) (hy : a.eval y = .agg #[v0, v1, v2, v3])
    {cs : List Value} {t : TypeId} (hb : Fb (g, t, cs) w) (hk : k + 4 ≤ cs.length) (hi : ∃ ie, Tryd.prog.info? ty = some ie ∧ 4 = ie.size) (h1 : ∀ v ∈ [v0, v1, v2, v3], v.oneCell' = true)
    (h : wpList Tryd.prog ops Q rest (a.put o.dst undef) ((((w.setCell ⟨g, k, none⟩ v0).setCell ⟨g, k1, none⟩ v1).setCell ⟨g, k2, none⟩ v2).setCell ⟨g, k3, none⟩ v3)) : wpList Tryd.prog ops Q (o :: rest) a w := by
  obtain ⟨ie, hie, hs⟩ := hi
  subst e1 e2 e3
  refine wpList_plain hgd fun _ hK => ?_
  have hr := Lib.rl_storeVar_cells (P := Tryd.prog) ty ie hie g k [v0, v1, v2, v3] hs h1 w
    (fun j hj => by rw [hb.cell, List.getElem?_eq_getElem (by simp at hj; omega)]; rfl) (fun j hj => hb.free _)
  have h2 := hK _ _ h
  unfold Oper.wp execOp
  simp only [ho, hx, hy, Instr.storeAt, Instr.sureAddr, Sem.run_bind, Sem.run_pure, Result.andThen_ok, hr]
  exact h2
/-- The state then. -/
theorem Sf.part {w W : World} {pre post : List FBox} {F : List (Value × List Int)} {b : Nat} {ty : TypeId} {cs : List Value} (h : Sf w (pre ++ (b, ty, cs) :: post) F W) (k k1 k2 k3 : Nat) (_e1 : k1 = k + 1) (_e2 : k2 = k + 2) (_e3 : k3 = k + 3) (v0 v1 v2 v3 : Value) :
    Sf w (pre ++ (b, ty, (((cs.set k v0).set k1 v1).set k2 v2).set k3 v3) :: post) F ((((W.setCell ⟨b, k, none⟩ v0).setCell ⟨b, k1, none⟩ v1).setCell ⟨b, k2, none⟩ v2).setCell ⟨b, k3, none⟩ v3) :=
  (((h.set k v0).set k1 v1).set k2 v2).set k3 v3
theorem infoFrac : ∃ ie, Tryd.prog.info? 28 = some ie ∧ 4 = ie.size := ⟨_, rfl, rfl⟩

theorem word_list (s : ByteArray) (h : 2 ≤ s.size) : s.data.toList = s[0] :: s.data.toList.drop 1 ∧ (s.extract 1 s.size).data.toList = s.data.toList.drop 1 := by
  refine ⟨?_, ?_⟩
  · have := List.drop_eq_getElem_cons (l := s.data.toList) (i := 0) (by rw [sizeL]; omega)
    rw [List.drop_zero] at this
    rw [this]; rfl
  · have := ext_take s 1 (s.size - 1)
    rw [show 1 + (s.size - 1) = s.size by omega] at this
    rw [this]
    show ((s.data.toList.drop 1).take (s.size - 1)) = _
    rw [List.take_of_length_le]; rw [List.length_drop, sizeL]; omega
theorem word_far {s : ByteArray} {c : UInt8} {S : ByteArray} (h : symL s.data.toList = none) (hs : s.data.toList = c :: S.data.toList) (hb : preL c = none ∨ symL S.data.toList = none ∨ canP S.data.toList = false) : wordL s.data.toList = none := by
  unfold wordL; rw [h, hs]; dsimp only
  rcases hp : preL c with _ | p
  · rfl
  · dsimp only
    rcases hb with hb | hb | hb
    · rw [hp] at hb; cases hb
    · rw [hb]; cases canP S.data.toList <;> rfl
    · rw [hb]; rfl
theorem word_good {s : ByteArray} {c : UInt8} {S : ByteArray} {p : Rat} {b : Nat} {n : Int} {q r : Rat} (h : symL s.data.toList = none) (hs : s.data.toList = c :: S.data.toList) (hp : preL c = some p) (hq : symL S.data.toList = some (b, n, q)) (hc : canP S.data.toList = true) (hr : q * p = r) : wordL s.data.toList = some (b, n, r) := by
  unfold wordL; rw [h, hs]; dsimp only
  rw [hp]; dsimp only
  rw [hc, hq]; subst hr; rfl

end Go.Proofs.YtmhdhabgdlefjaaDoor.Un

namespace Go.Proofs.YtmhdhabgdlefjaaDoor.Un
open Go.RowKit Bi Dm

theorem pwN_sz {q : Rat} (h : FSz 100 q) : ∀ k, FSz (100 * k + 1) (pwN q k)
  | 0 => (FSz.one (by decide) (by decide) : FSz 1 (1 : Rat))
  | k + 1 => by
    have := (pwN_sz h k).mul h (k := 100 * (k + 1) + 1) (by omega)
    exact this
theorem pwN_le {q : Rat} (h : FSz 100 q) {k : Nat} (hk : k ≤ 9) : FSz 1000 (pwN q k) := (pwN_sz h k).mono (by omega)
theorem pwD_step {q : Rat} (h : q ≠ 0) (k : Nat) : 1 / pwN q k / q = 1 / pwN q (k + 1) := by
  have := pwN_ne h k
  show _ = 1 / (pwN q k * q)
  grind
theorem pwD_le {q : Rat} (h : FSz 100 q) (h0 : q ≠ 0) {k : Nat} (hk : k ≤ 9) : FSz 1000 (1 / pwN q k) :=
  ((FSz.one (by decide) (by decide) : FSz 1 (1 : Rat)).div (pwN_sz h k) (pwN_ne h0 k) (k := 100 * k + 2) (by omega)).mono (by omega)
theorem Sf.facts {w W : World} {L : List FBox} {F F' : List (Value × List Int)} (h : Sf w L F W) (hs : ∀ f ∈ F', f ∈ F) : Sf w L F' W :=
  ⟨h.below, h.le, h.box, fun f hf => h.ints f (hs f hf), fun f hf => h.off f (hs f hf), h.pw⟩

end Go.Proofs.YtmhdhabgdlefjaaDoor.Un

namespace Go.Proofs.YtmhdhabgdlefjaaDoor.Un
open Go.RowKit Bi Dm

set_option maxHeartbeats 4000000 in
theorem u9few_k {w : World} {f : Nat → Int} {s1 : Int} {a1 b1 : Option Addr} {n1 c1 m1 d1 : Nat} {x : Rat} (hx : Fr w s1 (.slice a1 n1 c1) (.slice b1 m1 d1) x) {k : Bool} (hk : (decide (((digs x.num.natAbs).length : Int) ≤ 12) && decide (((digs (x.den : Int).natAbs).length : Int) ≤ 12)) = k) :
    Calls Tryd.prog 5 #[.agg (uc f s1 (.slice a1 n1 c1) 1 (.slice b1 m1 d1))] w fun e w' => e = .returned (.bool k) ∧ RowKit.Below w.heap.size w w' := by
  have HK := Lib.hid hk
  have s0 := ((((Sf.start w).arg hx.2.2).arg hx.1.2).put [.int .i64 (f 0), .int .i64 (f 1), .int .i64 (f 2), .int .i64 (f 3), .int .i64 (f 4), .int .i64 (f 5), .int .i64 s1, .slice a1 n1 c1, .int .i64 1, .slice b1 m1 d1] 30)
  try simp only [World.size_alloc] at s0
  have S0 := Lib.hid s0
  clear s0
  clear hx hk
  unfold uc
  go_enter Tryd.func5, Tryd.ntmps5
  have q1 := (S0.out.box (w.heap.size, 30, [.int .i64 (f 0), .int .i64 (f 1), .int .i64 (f 2), .int .i64 (f 3), .int .i64 (f 4), .int .i64 (f 5), .int .i64 s1, .slice a1 n1 c1, .int .i64 1, .slice b1 m1 d1]) List.mem_cons_self).cell 0
  have q2 := (S0.out.box (w.heap.size, 30, [.int .i64 (f 0), .int .i64 (f 1), .int .i64 (f 2), .int .i64 (f 3), .int .i64 (f 4), .int .i64 (f 5), .int .i64 s1, .slice a1 n1 c1, .int .i64 1, .slice b1 m1 d1]) List.mem_cons_self).cell 1
  have q3 := (S0.out.box (w.heap.size, 30, [.int .i64 (f 0), .int .i64 (f 1), .int .i64 (f 2), .int .i64 (f 3), .int .i64 (f 4), .int .i64 (f 5), .int .i64 s1, .slice a1 n1 c1, .int .i64 1, .slice b1 m1 d1]) List.mem_cons_self).cell 2
  have q4 := (S0.out.box (w.heap.size, 30, [.int .i64 (f 0), .int .i64 (f 1), .int .i64 (f 2), .int .i64 (f 3), .int .i64 (f 4), .int .i64 (f 5), .int .i64 s1, .slice a1 n1 c1, .int .i64 1, .slice b1 m1 d1]) List.mem_cons_self).cell 3
  have q5 := (S0.out.box (w.heap.size, 30, [.int .i64 (f 0), .int .i64 (f 1), .int .i64 (f 2), .int .i64 (f 3), .int .i64 (f 4), .int .i64 (f 5), .int .i64 s1, .slice a1 n1 c1, .int .i64 1, .slice b1 m1 d1]) List.mem_cons_self).cell 4
  have q6 := (S0.out.box (w.heap.size, 30, [.int .i64 (f 0), .int .i64 (f 1), .int .i64 (f 2), .int .i64 (f 3), .int .i64 (f 4), .int .i64 (f 5), .int .i64 s1, .slice a1 n1 c1, .int .i64 1, .slice b1 m1 d1]) List.mem_cons_self).cell 5
  have q7 := (S0.out.box (w.heap.size, 30, [.int .i64 (f 0), .int .i64 (f 1), .int .i64 (f 2), .int .i64 (f 3), .int .i64 (f 4), .int .i64 (f 5), .int .i64 s1, .slice a1 n1 c1, .int .i64 1, .slice b1 m1 d1]) List.mem_cons_self).cell 6
  have q8 := (S0.out.box (w.heap.size, 30, [.int .i64 (f 0), .int .i64 (f 1), .int .i64 (f 2), .int .i64 (f 3), .int .i64 (f 4), .int .i64 (f 5), .int .i64 s1, .slice a1 n1 c1, .int .i64 1, .slice b1 m1 d1]) List.mem_cons_self).cell 7
  have q9 := (S0.out.box (w.heap.size, 30, [.int .i64 (f 0), .int .i64 (f 1), .int .i64 (f 2), .int .i64 (f 3), .int .i64 (f 4), .int .i64 (f 5), .int .i64 s1, .slice a1 n1 c1, .int .i64 1, .slice b1 m1 d1]) List.mem_cons_self).cell 8
  have q10 := (S0.out.box (w.heap.size, 30, [.int .i64 (f 0), .int .i64 (f 1), .int .i64 (f 2), .int .i64 (f 3), .int .i64 (f 4), .int .i64 (f 5), .int .i64 s1, .slice a1 n1 c1, .int .i64 1, .slice b1 m1 d1]) List.mem_cons_self).cell 9
  simp only [List.getElem?_cons_succ, List.getElem?_cons_zero] at q1 q2 q3 q4 q5 q6 q7 q8 q9 q10
  go_wp2_with fail
  clear q1 q2 q3 q4 q5 q6 q7 q8 q9 q10
  refine (ffew_any s1 a1 n1 c1 _ 1 b1 m1 d1 _ 12 _ (S0.out.ints _ List.mem_cons_self) (S0.out.ints _ (List.mem_cons_of_mem _ List.mem_cons_self)) k HK.out).mono ?_
  rintro e w1 ⟨rfl, hb⟩
  have R1 := Lib.hid (S0.out.later hb)
  clear hb
  go_wp2_with fail
  go_ret
  exact ⟨rfl, R1.out.below⟩
end Go.Proofs.YtmhdhabgdlefjaaDoor.Un

namespace Go.Proofs.YtmhdhabgdlefjaaDoor.Un
open Go.RowKit Dm

def itc (x : List UInt8 × Int) : List Value := [sv x.1, .int .i64 x.2]
theorem exp_suffix (s : List UInt8) : ∃ d, s = d ++ (expL s).2 := by
  cases s with
  | nil => exact ⟨[], rfl⟩
  | cons c r =>
    rw [expL]
    split
    · exact ⟨[c], rfl⟩
    · exact ⟨[], rfl⟩
theorem item_suffix {s r : List UInt8} {x : List UInt8 × Nat} (h : itemL s = some (x, r)) : ∃ d, s = d ++ r := by
  unfold itemL at h
  split at h
  · cases h
  · simp only [Option.some.injEq, Prod.mk.injEq] at h
    obtain ⟨d, hd⟩ := exp_suffix (s.dropWhile letterB)
    rw [h.2] at hd
    exact ⟨s.takeWhile letterB ++ d, by rw [List.append_assoc, ← hd, List.takeWhile_append_dropWhile]⟩
theorem drop_suffix {s r : List UInt8} {x : List UInt8 × Nat} {a : Nat} {S : List UInt8} (hS : S.drop a = s) (ha : a ≤ S.length) (h : itemL s = some (x, r)) : S.drop (S.length - r.length) = r ∧ a < S.length - r.length ∧ r.length ≤ S.length := by
  obtain ⟨d, hd⟩ := item_suffix h
  have hl := item_len h
  have h1 : s.length = S.length - a := by rw [← hS, List.length_drop]
  have h2 : S = S.take a ++ (d ++ r) := by rw [← hd, ← hS, List.take_append_drop]
  refine ⟨?_, by omega, by omega⟩
  conv => lhs; arg 2; rw [h2]
  rw [show S.length - r.length = (S.take a ++ d).length by
    have := congrArg List.length h2
    simp only [List.length_append] at this ⊢; omega, ← List.append_assoc, List.drop_left]
end Go.Proofs.YtmhdhabgdlefjaaDoor.Un

namespace Go.Proofs.YtmhdhabgdlefjaaDoor.Un
open Go.RowKit Dm

theorem exp_le (s : List UInt8) : (expL s).1 ≤ 9 := by
  cases s with
  | nil => show 1 ≤ 9; omega
  | cons c r =>
    rw [expL]
    split
    · rename_i h
      unfold digitB at h
      simp only [Bool.and_eq_true, decide_eq_true_eq] at h
      show c.toNat - 48 ≤ 9; omega
    · show 1 ≤ 9; omega
theorem item_exp {s r v : List UInt8} {n : Nat} (h : itemL s = some ((v, n), r)) : n ≤ 9 := by
  unfold itemL at h
  split at h
  · cases h
  · simp only [Option.some.injEq, Prod.mk.injEq] at h
    have := exp_le (s.dropWhile letterB)
    rw [h.1.2] at this; exact this

end Go.Proofs.YtmhdhabgdlefjaaDoor.Un

namespace Go.Proofs.YtmhdhabgdlefjaaDoor.Un
open Go.RowKit Bi Dm

theorem pwN_szj {j : Nat} {q : Rat} (h : FSz j q) : ∀ k, FSz (j * k + 1) (pwN q k)
  | 0 => (FSz.one (by decide) (by decide) : FSz 1 (1 : Rat)).mono (by omega)
  | k + 1 => (pwN_szj h k).mul h (k := j * (k + 1) + 1) (by rw [Nat.mul_succ]; omega)
theorem pwZ_sz {j : Nat} {q : Rat} (h : FSz j q) (h0 : q ≠ 0) {n : Int} (hn : -9 ≤ n ∧ n ≤ 9) : FSz (9 * j + 2) (pwZ q n) ∧ pwZ q n ≠ 0 := by
  have hm : ∀ k : Nat, k ≤ 9 → j * k ≤ 9 * j := fun k hk => by rw [Nat.mul_comm 9 j]; exact Nat.mul_le_mul_left _ hk
  unfold pwZ
  split
  · exact ⟨(pwN_szj h n.toNat).mono (by have := hm n.toNat (by omega); omega), pwN_ne h0 _⟩
  · have hne := pwN_ne h0 (-n).toNat
    refine ⟨((FSz.one (by decide) (by decide) : FSz 1 (1 : Rat)).div (pwN_szj h (-n).toNat) hne (k := 1 + (j * (-n).toNat + 1)) rfl).mono (by have := hm (-n).toNat (by omega); omega), ?_⟩
    rw [Rat.div_def, Rat.one_mul]
    intro e
    have h1 := Rat.mul_inv_cancel _ hne
    rw [e, Rat.mul_zero] at h1
    revert h1; decide
theorem tail_bound : ∀ (k : Nat) (s : List UInt8) (l : List (List UInt8 × Int)), s.length ≤ k → tailL s = some l → 2 * l.length ≤ s.length ∧ ∀ x ∈ l, -9 ≤ x.2 ∧ x.2 ≤ 9
  | _, [], l, _, h => by
    rw [tailL_nil] at h; injection h with h; subst h
    exact ⟨Nat.zero_le _, fun x hx => by cases hx⟩
  | 0, c :: r, l, hl, _ => by simp at hl
  | k + 1, c :: r, l, hl, h => by
    by_cases hc : signB c = true
    · rcases hi : itemL r with _ | ⟨⟨v, n⟩, r'⟩
      · rw [tailL_none hi] at h; cases h
      · rw [tailL_some hc hi] at h
        rcases ht : tailL r' with _ | l'
        · rw [ht] at h; cases h
        · rw [ht] at h
          simp only [Option.map_some, Option.some.injEq] at h
          subst h
          have h1 := item_len hi
          simp only [List.length_cons] at hl
          have h2 := tail_bound k r' l' (by omega) ht
          have h3 := item_exp hi
          refine ⟨by simp only [List.length_cons]; omega, fun x hx => ?_⟩
          rcases List.mem_cons.1 hx with rfl | hx
          · dsimp only; split <;> omega
          · exact h2.2 x hx
    · rw [tailL_bad (by simpa using hc)] at h; cases h
theorem items_bound {s : List UInt8} {l : List (List UInt8 × Int)} (h : itemsL s = some l) : l.length ≤ 20 ∧ ∀ x ∈ l, -9 ≤ x.2 ∧ x.2 ≤ 9 := by
  unfold itemsL at h
  by_cases h40 : 40 < s.length
  · rw [if_pos h40] at h; cases h
  · rw [if_neg h40] at h
    cases s with
    | nil => injection h with h; subst h; exact ⟨Nat.zero_le _, fun x hx => by cases hx⟩
    | cons c r =>
      dsimp only at h
      simp only [List.length_cons] at h40
      by_cases hc : c = 49
      · rw [if_pos hc] at h
        have := tail_bound _ r l (Nat.le_refl _) h
        exact ⟨by omega, this.2⟩
      · rw [if_neg hc] at h
        have := tail_bound _ (42 :: c :: r) l (Nat.le_refl _) h
        simp only [List.length_cons] at this
        exact ⟨by omega, this.2⟩
theorem sym_n {l : List UInt8} {b : Nat} {n : Int} {q : Rat} (h : symL l = some (b, n, q)) : 1 ≤ n ∧ n ≤ 3 := by
  unfold symL at h
  by_cases e0 : l = [103]
  · rw [if_pos e0] at h; injection h with h; injection h with h1 h2; injection h2 with h2 h3; subst h2; decide
  rw [if_neg e0] at h
  by_cases e1 : l = [116]
  · rw [if_pos e1] at h; injection h with h; injection h with h1 h2; injection h2 with h2 h3; subst h2; decide
  rw [if_neg e1] at h
  by_cases e2 : l = [109]
  · rw [if_pos e2] at h; injection h with h; injection h with h1 h2; injection h2 with h2 h3; subst h2; decide
  rw [if_neg e2] at h
  by_cases e3 : l = [108]
  · rw [if_pos e3] at h; injection h with h; injection h with h1 h2; injection h2 with h2 h3; subst h2; decide
  rw [if_neg e3] at h
  by_cases e4 : l = [115]
  · rw [if_pos e4] at h; injection h with h; injection h with h1 h2; injection h2 with h2 h3; subst h2; decide
  rw [if_neg e4] at h
  by_cases e5 : l = [104]
  · rw [if_pos e5] at h; injection h with h; injection h with h1 h2; injection h2 with h2 h3; subst h2; decide
  rw [if_neg e5] at h
  by_cases e6 : l = [100]
  · rw [if_pos e6] at h; injection h with h; injection h with h1 h2; injection h2 with h2 h3; subst h2; decide
  rw [if_neg e6] at h
  by_cases e7 : l = [74]
  · rw [if_pos e7] at h; injection h with h; injection h with h1 h2; injection h2 with h2 h3; subst h2; decide
  rw [if_neg e7] at h
  by_cases e8 : l = [87, 104]
  · rw [if_pos e8] at h; injection h with h; injection h with h1 h2; injection h2 with h2 h3; subst h2; decide
  rw [if_neg e8] at h
  by_cases e9 : l = [99, 101, 110, 116]
  · rw [if_pos e9] at h; injection h with h; injection h with h1 h2; injection h2 with h2 h3; subst h2; decide
  rw [if_neg e9] at h
  by_cases e10 : l = [101, 117, 114]
  · rw [if_pos e10] at h; injection h with h; injection h with h1 h2; injection h2 with h2 h3; subst h2; decide
  rw [if_neg e10] at h
  by_cases e11 : l = [112, 99]
  · rw [if_pos e11] at h; injection h with h; injection h with h1 h2; injection h2 with h2 h3; subst h2; decide
  rw [if_neg e11] at h
  cases h
theorem mul_ne {a b : Rat} (ha : a ≠ 0) (hb : b ≠ 0) : a * b ≠ 0 := by
  intro e
  rcases Rat.mul_eq_zero.1 e with h | h
  · exact ha h
  · exact hb h
theorem pos_ne {q : Rat} (h : 0 < q) : q ≠ 0 := by
  intro e; rw [e] at h; exact absurd h (by decide)
theorem word_bound {l : List UInt8} {b : Nat} {n : Int} {q : Rat} (h : wordL l = some (b, n, q)) : b < 6 ∧ (1 ≤ n ∧ n ≤ 3) ∧ FSz 3 q ∧ q ≠ 0 := by
  unfold wordL at h
  rcases hs : symL l with _ | ⟨b', n', q'⟩
  · rw [hs] at h
    cases l with
    | nil => cases h
    | cons c r =>
      dsimp only at h
      rcases hp : preL c with _ | p
      · rw [hp] at h; cases h
      · rw [hp] at h
        dsimp only at h
        by_cases hc : canP r = true
        · rw [if_pos hc] at h
          rcases hr : symL r with _ | ⟨b', n', q'⟩
          · rw [hr] at h; cases h
          · rw [hr] at h
            simp only [Option.map_some, Option.some.injEq, Prod.mk.injEq] at h
            obtain ⟨rfl, rfl, rfl⟩ := h
            have h1 := sym_sz hr
            have h2 := pre_sz hp
            exact ⟨h1.2.2, sym_n hr, h1.1.mul h2.1 (k := 3) rfl, mul_ne (pos_ne h1.2.1) (pos_ne h2.2)⟩
        · rw [if_neg hc] at h; cases h
  · rw [hs] at h
    simp only [Option.some.injEq, Prod.mk.injEq] at h
    obtain ⟨rfl, rfl, rfl⟩ := h
    have h1 := sym_sz hs
    exact ⟨h1.2.2, sym_n hs, h1.1.mono (by decide), pos_ne h1.2.1⟩
theorem ev_bound : ∀ (l : List (List UInt8 × Int)) (f g : Nat → Int) (r R : Rat) (j : Nat) (m : Int), (∀ x ∈ l, -9 ≤ x.2 ∧ x.2 ≤ 9) → (∀ i, -m ≤ f i ∧ f i ≤ m) → FSz j r → r ≠ 0 → evL l f r = some (g, R) →
    (∀ i, -(m + 27 * l.length) ≤ g i ∧ g i ≤ m + 27 * l.length) ∧ FSz (j + 29 * l.length) R ∧ R ≠ 0
  | [], f, g, r, R, j, m, _, hf, hr, h0, h => by
    rw [evL] at h
    simp only [Option.some.injEq, Prod.mk.injEq] at h
    obtain ⟨rfl, rfl⟩ := h
    exact ⟨fun i => by have := hf i; simp; omega, hr, h0⟩
  | (w, n) :: l, f, g, r, R, j, m, hx, hf, hr, h0, h => by
    rw [evL] at h
    rcases hw : wordL w with _ | ⟨b, e, q⟩
    · rw [hw] at h; cases h
    · rw [hw] at h
      dsimp only at h
      obtain ⟨hb, he, hq, hq0⟩ := word_bound hw
      have hn := hx (w, n) List.mem_cons_self
      dsimp only at hn
      have hp := pwZ_sz hq hq0 hn
      have hen : -27 ≤ e * n ∧ e * n ≤ 27 := by
        obtain rfl | rfl | rfl : e = 1 ∨ e = 2 ∨ e = 3 := by omega
        all_goals omega
      have ih := ev_bound l _ g _ R (j + 29) (m + 27) (fun x h => hx x (List.mem_cons_of_mem _ h)) (fun i => by
        have := hf i
        split <;> omega) (hr.mul hp.1 (k := j + 29) rfl) (mul_ne h0 hp.2) h
      refine ⟨fun i => ?_, ?_, ih.2.2⟩
      · have := ih.1 i; simp only [List.length_cons]; omega
      · exact ih.2.1.mono (by simp only [List.length_cons]; omega)
end Go.Proofs.YtmhdhabgdlefjaaDoor.Un

namespace Go.Proofs.YtmhdhabgdlefjaaDoor.Un
open Go.RowKit Bi Dm

theorem Sf.tail {w W : World} {x : FBox} {L : List FBox} {F : List (Value × List Int)} (h : Sf w (x :: L) F W) : Sf w L F W :=
  ⟨h.below, fun y hy => h.le y (List.mem_cons_of_mem _ hy), fun y hy => h.box y (List.mem_cons_of_mem _ hy), h.ints, fun f hf y hy => h.off f hf y (List.mem_cons_of_mem _ hy), (List.pairwise_cons.1 h.pw).2⟩
theorem itc_get : ∀ (l : List (List UInt8 × Int)) (k j : Nat) (h : k < l.length) (u : Value), (itc l[k])[j]? = some u → (l.flatMap itc)[k * 2 + j]? = some u
  | x :: l, 0, j, _, u, hu => by
    simp only [List.flatMap_cons, Nat.zero_mul, Nat.zero_add]
    rw [List.getElem?_append_left]
    · exact hu
    · exact (List.getElem?_eq_some_iff.1 hu).1
  | x :: l, k + 1, j, h, u, hu => by
    simp only [List.flatMap_cons]
    rw [List.getElem?_append_right (by simp [itc]; omega)]
    have := itc_get l k j (by simpa using h) u (by simpa using hu)
    rw [← this]; congr 1; simp [itc]; omega
theorem dim_cell (f : Nat → Int) (r : List Value) (j : Nat) (hj : j < 6) : (.int .i64 (f 0) :: .int .i64 (f 1) :: .int .i64 (f 2) :: .int .i64 (f 3) :: .int .i64 (f 4) :: .int .i64 (f 5) :: r)[j]? = some (Value.int .i64 (f j)) := by
  obtain rfl | rfl | rfl | rfl | rfl | rfl : j = 0 ∨ j = 1 ∨ j = 2 ∨ j = 3 ∨ j = 4 ∨ j = 5 := by omega
  all_goals rfl
/-- The first j exponents are those of g, the others those of f. -/
def mix (f g : Nat → Int) (j : Nat) : Nat → Int := fun i => if i < j then g i else f i
theorem mix_zero (f g : Nat → Int) : mix f g 0 = f := by funext i; unfold mix; simp
theorem mix_all (f g : Nat → Int) (h : ∀ i, 6 ≤ i → f i = g i) : mix f g 6 = g := by
  funext i; unfold mix; split
  · rfl
  · exact h i (by omega)
theorem mix_cells (f g : Nat → Int) (j : Nat) (r : List Value) (hj : j < 6) :
    (.int .i64 (mix f g j 0) :: .int .i64 (mix f g j 1) :: .int .i64 (mix f g j 2) :: .int .i64 (mix f g j 3) :: .int .i64 (mix f g j 4) :: .int .i64 (mix f g j 5) :: r).set j (.int .i64 (g j)) =
      .int .i64 (mix f g (j + 1) 0) :: .int .i64 (mix f g (j + 1) 1) :: .int .i64 (mix f g (j + 1) 2) :: .int .i64 (mix f g (j + 1) 3) :: .int .i64 (mix f g (j + 1) 4) :: .int .i64 (mix f g (j + 1) 5) :: r := by
  obtain rfl | rfl | rfl | rfl | rfl | rfl : j = 0 ∨ j = 1 ∨ j = 2 ∨ j = 3 ∨ j = 4 ∨ j = 5 := by omega
  all_goals simp [mix]
theorem mix_at (f g : Nat → Int) (j : Nat) : mix f g j j = f j := by unfold mix; simp
/-- One item more is evaluated. -/
theorem ev_take {l : List (List UInt8 × Int)} {k : Nat} (hk : k < l.length) {f : Nat → Int} {r : Rat} (h : evL (l.take k) zf 1 = some (f, r)) :
    evL (l.take (k + 1)) zf 1 = (wordL l[k].1).map (fun u => ((fun i => f i + (if i = u.1 then u.2.1 * l[k].2 else 0)), r * pwZ u.2.2 l[k].2)) := by
  rw [List.take_succ_eq_append_getElem hk, evL_app, h]
  show evL [(l[k].1, l[k].2)] f r = _
  rw [evL]
  rcases wordL l[k].1 with _ | ⟨b, e, q⟩ <;> rfl
theorem ev_none {l : List (List UInt8 × Int)} {k : Nat} (_hk : k < l.length) (h : evL (l.take k) zf 1 = none) : evL l zf 1 = none := by
  rw [← List.take_append_drop k l, evL_app, h]; rfl
end Go.Proofs.YtmhdhabgdlefjaaDoor.Un

namespace Go.Proofs.YtmhdhabgdlefjaaDoor.Un
open Go Dm

/-- The name, the base, the power, above, below, and whether prefixes are allowed. -/
def symT : List (List UInt8 × Nat × Int × Int × Int × Bool) :=
  [([103], 0, 1, 1, 1, true), ([116], 0, 1, 1000000, 1, false), ([109], 1, 1, 1, 1, true), ([108], 1, 3, 1, 1000, true), ([115], 2, 1, 1, 1, true), ([104], 2, 1, 3600, 1, false),
   ([100], 2, 1, 86400, 1, false), ([74], 3, 1, 1, 1, true), ([87, 104], 3, 1, 3600, 1, true), ([99, 101, 110, 116], 4, 1, 1, 1, false), ([101, 117, 114], 4, 1, 100, 1, false), ([112, 99], 5, 1, 1, 1, false)]
/-- The factor of a prefix, or of none. -/
def preP (p : List UInt8) : Option (Int × Int) :=
  if p = [] then some (1, 1) else if p = [107] then some (1000, 1) else if p = [77] then some (1000000, 1) else if p = [71] then some (1000000000, 1) else if p = [109] then some (1, 1000) else none
theorem preP_cases {p : List UInt8} {a b : Int} (h : preP p = some (a, b)) : (p = [] ∧ a = 1 ∧ b = 1) ∨ (p = [107] ∧ a = 1000 ∧ b = 1) ∨ (p = [77] ∧ a = 1000000 ∧ b = 1) ∨ (p = [71] ∧ a = 1000000000 ∧ b = 1) ∨ (p = [109] ∧ a = 1 ∧ b = 1000) := by
  unfold preP at h
  by_cases e0 : p = []
  · rw [if_pos e0] at h; injection h with h; injection h with h1 h2; exact .inl ⟨e0, h1.symm, h2.symm⟩
  rw [if_neg e0] at h
  by_cases e1 : p = [107]
  · rw [if_pos e1] at h; injection h with h; injection h with h1 h2; exact .inr (.inl ⟨e1, h1.symm, h2.symm⟩)
  rw [if_neg e1] at h
  by_cases e2 : p = [77]
  · rw [if_pos e2] at h; injection h with h; injection h with h1 h2; exact .inr (.inr (.inl ⟨e2, h1.symm, h2.symm⟩))
  rw [if_neg e2] at h
  by_cases e3 : p = [71]
  · rw [if_pos e3] at h; injection h with h; injection h with h1 h2; exact .inr (.inr (.inr (.inl ⟨e3, h1.symm, h2.symm⟩)))
  rw [if_neg e3] at h
  by_cases e4 : p = [109]
  · rw [if_pos e4] at h; injection h with h; injection h with h1 h2; exact .inr (.inr (.inr (.inr ⟨e4, h1.symm, h2.symm⟩)))
  rw [if_neg e4] at h; cases h
/-- The factor as the program computes it. -/
def facP (a b xa xb : Int) : Rat := Rat.divInt (a * xa) (b * xb)
theorem lt12 {k : Nat} (h : k < 12) : k = 0 ∨ k = 1 ∨ k = 2 ∨ k = 3 ∨ k = 4 ∨ k = 5 ∨ k = 6 ∨ k = 7 ∨ k = 8 ∨ k = 9 ∨ k = 10 ∨ k = 11 := by omega
/-- A prefix and the name of a symbol that can have it are a word. -/
theorem word_hit {k : Nat} {p nm : List UInt8} {b : Nat} {n xa xb a c : Int} {t : Bool} (hk : symT[k]? = some (nm, b, n, xa, xb, t)) (hp : preP p = some (a, c)) (ht : p = [] ∨ t = true) :
    wordL (p ++ nm) = some (b, n, facP a c xa xb) ∧ b < 6 ∧ (1 ≤ a ∧ a ≤ 1000000000) ∧ (1 ≤ c ∧ c ≤ 1000) ∧ (1 ≤ xa ∧ xa ≤ 1000000) ∧ (1 ≤ xb ∧ xb ≤ 1000) := by
  have hl : k < 12 := (List.getElem?_eq_some_iff.1 hk).1
  have hp := preP_cases hp
  obtain rfl | rfl | rfl | rfl | rfl | rfl | rfl | rfl | rfl | rfl | rfl | rfl := lt12 hl
  all_goals
    simp only [symT, List.getElem?_cons_succ, List.getElem?_cons_zero, Option.some.injEq, Prod.mk.injEq] at hk
    obtain ⟨rfl, rfl, rfl, rfl, rfl, rfl⟩ := hk
    rcases hp with ⟨rfl, rfl, rfl⟩ | ⟨rfl, rfl, rfl⟩ | ⟨rfl, rfl, rfl⟩ | ⟨rfl, rfl, rfl⟩ | ⟨rfl, rfl, rfl⟩
  all_goals first
    | (exfalso; revert ht; decide)
    | exact ⟨by decide +kernel, by decide, by decide, by decide, by decide, by decide⟩
theorem sym_in {l : List UInt8} {u : Nat × Int × Rat} (h : symL l = some u) : ∃ (k b : Nat) (n xa xb : Int) (t : Bool), symT[k]? = some (l, b, n, xa, xb, t) ∧ (canP l = true → t = true) := by
  unfold symL at h
  by_cases e0 : l = [103]
  · subst e0; exact ⟨0, _, _, _, _, _, rfl, by decide⟩
  rw [if_neg e0] at h
  by_cases e1 : l = [116]
  · subst e1; exact ⟨1, _, _, _, _, _, rfl, by decide⟩
  rw [if_neg e1] at h
  by_cases e2 : l = [109]
  · subst e2; exact ⟨2, _, _, _, _, _, rfl, by decide⟩
  rw [if_neg e2] at h
  by_cases e3 : l = [108]
  · subst e3; exact ⟨3, _, _, _, _, _, rfl, by decide⟩
  rw [if_neg e3] at h
  by_cases e4 : l = [115]
  · subst e4; exact ⟨4, _, _, _, _, _, rfl, by decide⟩
  rw [if_neg e4] at h
  by_cases e5 : l = [104]
  · subst e5; exact ⟨5, _, _, _, _, _, rfl, by decide⟩
  rw [if_neg e5] at h
  by_cases e6 : l = [100]
  · subst e6; exact ⟨6, _, _, _, _, _, rfl, by decide⟩
  rw [if_neg e6] at h
  by_cases e7 : l = [74]
  · subst e7; exact ⟨7, _, _, _, _, _, rfl, by decide⟩
  rw [if_neg e7] at h
  by_cases e8 : l = [87, 104]
  · subst e8; exact ⟨8, _, _, _, _, _, rfl, by decide⟩
  rw [if_neg e8] at h
  by_cases e9 : l = [99, 101, 110, 116]
  · subst e9; exact ⟨9, _, _, _, _, _, rfl, by decide⟩
  rw [if_neg e9] at h
  by_cases e10 : l = [101, 117, 114]
  · subst e10; exact ⟨10, _, _, _, _, _, rfl, by decide⟩
  rw [if_neg e10] at h
  by_cases e11 : l = [112, 99]
  · subst e11; exact ⟨11, _, _, _, _, _, rfl, by decide⟩
  rw [if_neg e11] at h; cases h
theorem pre_in {c : UInt8} {r : Rat} (h : preL c = some r) : ∃ a b, preP [c] = some (a, b) := by
  unfold preL at h
  by_cases e1 : c = 107
  · subst e1; exact ⟨_, _, rfl⟩
  rw [if_neg e1] at h
  by_cases e2 : c = 77
  · subst e2; exact ⟨_, _, rfl⟩
  rw [if_neg e2] at h
  by_cases e3 : c = 71
  · subst e3; exact ⟨_, _, rfl⟩
  rw [if_neg e3] at h
  by_cases e4 : c = 109
  · subst e4; exact ⟨_, _, rfl⟩
  rw [if_neg e4] at h; cases h
/-- No symbol fits. -/
def Miss (l : List UInt8) (k : Nat) : Prop := ∀ i, i < k → ∀ nm b n xa xb t, symT[i]? = some (nm, b, n, xa, xb, t) → ∀ p a c, preP p = some (a, c) → (p = [] ∨ t = true) → l ≠ p ++ nm
theorem miss_zero (l : List UInt8) : Miss l 0 := fun i hi => absurd hi (by omega)
theorem word_miss {l : List UInt8} (h : Miss l 12) : wordL l = none := by
  have hs : symL l = none := by
    rcases e : symL l with _ | u
    · rfl
    · obtain ⟨k, b, n, xa, xb, t, hk, _⟩ := sym_in e
      exact absurd rfl (h k (List.getElem?_eq_some_iff.1 hk).1 l b n xa xb t hk [] 1 1 rfl (.inl rfl))
  unfold wordL
  rw [hs]
  cases l with
  | nil => rfl
  | cons c r =>
    simp only
    rcases e : preL c with _ | p
    · rfl
    · simp only
      by_cases hc : canP r = true
      · rw [if_pos hc]
        rcases e2 : symL r with _ | u
        · rfl
        · exfalso
          obtain ⟨k, b, n, xa, xb, t, hk, ht⟩ := sym_in e2
          obtain ⟨a, b', hab⟩ := pre_in e
          exact h k (List.getElem?_eq_some_iff.1 hk).1 r b n xa xb t hk [c] a b' hab (.inr (ht hc)) rfl
      · rw [if_neg hc]
end Go.Proofs.YtmhdhabgdlefjaaDoor.Un

namespace Go.Proofs.YtmhdhabgdlefjaaDoor.Un
open Go.RowKit Dm

theorem letterP_any (c : UInt8) (w : World) : Calls Tryd.prog 70 #[.int .u8 (c.toNat : Int)] w fun e w' => e = .returned (.bool (letterB c)) ∧ w' = w := by
  obtain ⟨R, hR⟩ : ∃ R : Int, (c.toNat : Int) = R := ⟨_, rfl⟩
  have hb : letterB c = ((decide (97 ≤ R) && decide (R ≤ 122)) || (decide (65 ≤ R) && decide (R ≤ 90))) := by
    unfold letterB; rw [Bool.eq_iff_iff]; simp; omega
  rw [hb, hR]
  clear hb hR
  by_cases h1 : 97 ≤ R <;> by_cases h2 : R ≤ 122 <;> by_cases h3 : 65 ≤ R <;> by_cases h4 : R ≤ 90
  all_goals
    first
    | (exfalso; omega)
    | (go_enter Tryd.func70, Tryd.ntmps70
       go_wp2
       go_ret
       exact ⟨by simp [h1, h2, h3, h4], rfl⟩)

/-- What readPrefix gives. -/
def preV (p : List UInt8) : Value := match preP p with
  | none => .tuple #[.int .i64 0, .int .i64 0, .bool false]
  | some (a, b) => .tuple #[.int .i64 a, .int .i64 b, .bool true]
set_option maxHeartbeats 1000000 in
theorem prefixP_any (s : ByteArray) (w : World) : Calls Tryd.prog 47 #[.string s] w fun e w' => e = .returned (preV s.data.toList) ∧ w' = w := by
  by_cases e0 : s.data.toList = []
  · have hs : s = ⟨#[]⟩ := by apply ByteArray.ext; apply Array.ext'; rw [e0]
    clear e0
    subst hs
    go_enter Tryd.func47, Tryd.ntmps47
    go_wp2
    exact bodyPost_ret (results_tmp3 rfl _ _ _) rfl ⟨rfl, rfl⟩
  by_cases e1 : s.data.toList = [107]
  · have hs : s = ⟨#[107]⟩ := by apply ByteArray.ext; apply Array.ext'; rw [e1]
    clear e1
    subst hs
    go_enter Tryd.func47, Tryd.ntmps47
    go_wp2
    exact bodyPost_ret (results_tmp3 rfl _ _ _) rfl ⟨rfl, rfl⟩
  by_cases e2 : s.data.toList = [77]
  · have hs : s = ⟨#[77]⟩ := by apply ByteArray.ext; apply Array.ext'; rw [e2]
    clear e2
    subst hs
    go_enter Tryd.func47, Tryd.ntmps47
    go_wp2
    exact bodyPost_ret (results_tmp3 rfl _ _ _) rfl ⟨rfl, rfl⟩
  by_cases e3 : s.data.toList = [71]
  · have hs : s = ⟨#[71]⟩ := by apply ByteArray.ext; apply Array.ext'; rw [e3]
    clear e3
    subst hs
    go_enter Tryd.func47, Tryd.ntmps47
    go_wp2
    exact bodyPost_ret (results_tmp3 rfl _ _ _) rfl ⟨rfl, rfl⟩
  by_cases e4 : s.data.toList = [109]
  · have hs : s = ⟨#[109]⟩ := by apply ByteArray.ext; apply Array.ext'; rw [e4]
    clear e4
    subst hs
    go_enter Tryd.func47, Tryd.ntmps47
    go_wp2
    exact bodyPost_ret (results_tmp3 rfl _ _ _) rfl ⟨rfl, rfl⟩
  have hv : preV s.data.toList = .tuple #[.int .i64 0, .int .i64 0, .bool false] := by
    unfold preV preP; rw [if_neg e0, if_neg e1, if_neg e2, if_neg e3, if_neg e4]
  rw [hv]
  obtain ⟨g0, h0, i0⟩ := no_bytes s [] e0
  obtain ⟨g1, h1, i1⟩ := no_bytes s [107] e1
  obtain ⟨g2, h2, i2⟩ := no_bytes s [77] e2
  obtain ⟨g3, h3, i3⟩ := no_bytes s [71] e3
  obtain ⟨g4, h4, i4⟩ := no_bytes s [109] e4
  clear hv e0 e1 e2 e3 e4
  go_enter Tryd.func47, Tryd.ntmps47
  go_wp2
  exact bodyPost_ret (results_tmp3 rfl _ _ _) rfl ⟨rfl, rfl⟩

/-- An item and a size, as results. -/
def riV (v : List UInt8) (n : Int) (i : Int) : Value := .tuple #[.agg #[sv v, .int .i64 n], .int .i64 i]
/-- What readItem gives for a sign and what follows. -/
def readItemV (c : UInt8) (r : List UInt8) : Value := if signB c then (match itemL r with
  | none => riV [] 0 0
  | some ((v, n), r') => riV v (if c = 47 then -(n : Int) else (n : Int)) ((r.length : Int) + 1 - r'.length)) else riV [] 0 0
theorem ri_sign {c : UInt8} (h : signB c = false) (r : List UInt8) : readItemV c r = riV [] 0 0 := by unfold readItemV; rw [h]; rfl
theorem ri_no {c : UInt8} {r : List UInt8} (h : (r.takeWhile letterB).length = 0) : readItemV c r = riV [] 0 0 := by
  have : itemL r = none := by unfold itemL; rw [if_pos (List.eq_nil_of_length_eq_zero h)]
  unfold readItemV; rw [this]; split <;> rfl
theorem ri_yes {c : UInt8} {r : List UInt8} {m : Nat} (hc : signB c = true) (h : (r.takeWhile letterB).length = m) (h0 : 0 < m) :
    readItemV c r = riV (r.take m) (if c = 47 then -((expL (r.drop m)).1 : Int) else ((expL (r.drop m)).1 : Int)) ((r.length : Int) + 1 - (expL (r.drop m)).2.length) := by
  have ht := tw_take (p := letterB) r
  rw [h] at ht
  have : itemL r = some ((r.take m, (expL (r.drop m)).1), (expL (r.drop m)).2) := by
    unfold itemL
    rw [if_neg (fun e => by rw [e] at h; simp at h; omega), ht.1, ht.2]
  unfold readItemV; rw [this, hc]; rfl
theorem sign_bytes {c : UInt8} (h : signB c = true) : (c = 42 ∧ (c.toNat : Int) = 42) ∨ (c = 47 ∧ (c.toNat : Int) = 47) := by
  unfold signB at h
  simp only [Bool.or_eq_true, decide_eq_true_eq] at h
  rcases h with rfl | rfl
  · exact .inl ⟨rfl, rfl⟩
  · exact .inr ⟨rfl, rfl⟩
theorem sign_not {c : UInt8} (h : signB c = false) : ((c.toNat : Int) == 42) = false ∧ ((c.toNat : Int) == 47) = false := by
  unfold signB at h
  simp only [Bool.or_eq_false_iff, decide_eq_false_iff_not] at h
  refine ⟨beq_eq_false_iff_ne.2 fun e => h.1 ?_, beq_eq_false_iff_ne.2 fun e => h.2 ?_⟩
  · apply UInt8.toNat.inj; show c.toNat = 42; omega
  · apply UInt8.toNat.inj; show c.toNat = 47; omega
/-- The block b holds an item. -/
def Jt (w : World) (b : Nat) (x : Value) (n : Int) : Prop := w.heap[b]? = some (.cells #[x, .int .i64 n] 58 (0, 0))
theorem Jt.lt {w : World} {b : Nat} {x : Value} {n : Int} (h : Jt w b x n) : b < w.heap.size := (Array.getElem?_eq_some_iff.1 h).1
theorem Jt.alloc {w : World} {b : Nat} {x : Value} {n : Int} (h : Jt w b x n) (o : Obj) : Jt (w.alloc o) b x n := (Below.heap_alloc w o b h.lt).trans h
theorem Jt.oth {w : World} {b b' : Nat} {x : Value} {n : Int} (h : Jt w b x n) (hne : b ≠ b') (c : Array Value) : Jt (w.setRow b' c) b x n := (setRow_other w b' b c hne).trans h
theorem Jt.row {w : World} {b : Nat} {x : Value} {n : Int} (h : Jt w b x n) (y : Value) (m : Int) : Jt (w.setRow b #[y, .int .i64 m]) b y m := setRow_heap w b _ _ _ _ h
theorem Jt.set {w : World} {b : Nat} {x : Value} {n : Int} (h : Jt w b x n) (m : Int) : Jt (w.setCell ⟨b, 1, none⟩ (.int .i64 m)) b x m := by
  have := heap_setCell_same w b 1 _ _ (.int .i64 m) h
  exact this
theorem Jt.other {w : World} {b b' : Nat} {x : Value} {n : Int} (h : Jt w b x n) (hne : b ≠ b') (k : Nat) (v : Value) : Jt (w.setCell ⟨b', k, none⟩ v) b x n := (Below.heap_setCell _ _ _ _ hne).trans h
theorem Jt.cells {w : World} {b : Nat} {x : Value} {n : Int} (h : Jt w b x n) : w.cell? ⟨b, 0, none⟩ = some x ∧ w.cell? ⟨b, 1, none⟩ = some (.int .i64 n) ∧ w.frozen? ⟨b, 1, none⟩ = false :=
  ⟨by rw [cell_of_row w b 0 _ _ _ h]; rfl, by rw [cell_of_row w b 1 _ _ _ h]; rfl, frozen_of_row w b 1 _ _ h⟩
theorem infoJ (x y : Value) : (Tryd.prog.info? 58).map (·.size) = some (#[x, y] : Array Value).size := by kernel_rfl

set_option maxHeartbeats 40000000 in
theorem readitem_any (s : ByteArray) {c : UInt8} {l : List UInt8} (hcl : s.data.toList = c :: l) (hs : s.size ≤ 1000) (w : World) : Calls Tryd.prog 45 #[.string s] w (Gives (readItemV c l) w) := by
  obtain ⟨W0, hW0⟩ : ∃ W0, w.alloc (.cells #[.string ⟨#[]⟩, .int .i64 0] 58) = W0 := ⟨_, rfl⟩
  have HB : Hid (RowKit.Below w.heap.size w W0) := Lib.hid (by rw [← hW0]; exact below_alloc _ _)
  have H0 : Hid (Jt W0 w.heap.size (.string ⟨#[]⟩) 0) := Lib.hid (by rw [← hW0]; exact heap_alloc_new w _)
  have HW := Lib.hid hW0
  have HL := Lib.hid (letterP_any)
  have hD1 : s.data.toList.drop 1 = l := by rw [hcl]; rfl
  have hsz : s.size = l.length + 1 := by rw [← sizeL s, hcl]; rfl
  have HLE := Lib.hid hD1
  have HSZ := Lib.hid hsz
  have hlt0 : decide ((0 : Int) < (s.size : Int)) = true := by simp; omega
  have hs1 : 0 < s.size := by omega
  have h0b : s[0]'hs1 = c := by
    have h := byte_at s 0 0 (by omega) (by simp [hcl])
    simp only [List.drop_zero, hcl, List.getElem_cons_zero, Nat.add_zero] at h
    exact h.symm
  have HC0 := Lib.hid h0b
  clear hW0 hD1 hcl h0b hlt0 hsz
  go_enter Tryd.func45, Tryd.ntmps45
  go_wp2_with fail
  rw [HW.out]
  go_loop [4] (fun i => ∃ k : Nat, k ≤ (l.takeWhile letterB).length ∧ i = .int .i64 ((1 + k : Nat) : Int)) (fun i => 1001 - (RowKit.intOf i).toNat)
  case atStart => exact ⟨0, by omega, rfl⟩
  case round =>
    obtain ⟨k, hk, rfl⟩ := hrel
    have htl := tw_len (p := letterB) l
    have hln : l.length = s.size - 1 := by have := HSZ.out; omega
    obtain ⟨N, hN⟩ : ∃ N, 1 + k = N := ⟨_, rfl⟩
    have hc0 := HC0.out
    by_cases hlt : N < s.size
    · have hlt2 : decide ((N : Int) < (s.size : Int)) = true := by simp; omega
      have hby := byte_at s 1 k (by omega) (by rw [HLE.out]; omega)
      have hstep : letterB s[N] = true → k + 1 ≤ (l.takeWhile letterB).length := fun h => tw_more l k hk (by omega) (by
        rw [← h]; congr 1; rw [show l[k] = (s.data.toList.drop 1)[k]'(by rw [HLE.out]; omega) by simp [HLE.out], hby]; simp [hN])
      have hstop : letterB s[N] = false → (l.takeWhile letterB).length = k := fun h => tw_stop l k hk (by omega) (by
        rw [← h]; congr 1; rw [show l[k] = (s.data.toList.drop 1)[k]'(by rw [HLE.out]; omega) by simp [HLE.out], hby]; simp [hN])
      rw [hN]
      by_cases hlet : letterB s[N] = true
      · have HST := Lib.hid (hstep hlet)
        have HLT : Hid (∀ w, Calls Tryd.prog 70 #[.int .u8 ((s[N]).toNat : Int)] w fun e w' => e = .returned (.bool true) ∧ w' = w) := Lib.hid (fun w => by have := HL.out (s[N]) w; rwa [hlet] at this)
        have HN1 : Hid (N + 1 ≤ 1000 ∧ N + 1 = 1 + (k + 1)) := Lib.hid ⟨by omega, by omega⟩
        obtain ⟨x, hx⟩ : ∃ x, s[N] = x := ⟨_, rfl⟩
        rw [hx] at HLT
        clear hstep hstop hby hlet hc0
        go_wp2_with fail
        refine (HLT.out _).mono ?_
        rintro e w5 ⟨rfl, rfl⟩
        go_wp2_with fail
        go_round
        case rel => exact ⟨k + 1, HST.out, by rw [← HN1.out.2]; rfl⟩
        case measure => have := HN1.out; simp [RowKit.intOf]; omega
      · have hm := hstop (by simpa using hlet)
        have HLT : Hid (∀ w, Calls Tryd.prog 70 #[.int .u8 ((s[N]).toNat : Int)] w fun e w' => e = .returned (.bool false) ∧ w' = w) := Lib.hid (fun w => by have := HL.out (s[N]) w; rwa [show letterB s[N] = false by simpa using hlet] at this)
        obtain ⟨x, hx⟩ : ∃ x, s[N] = x := ⟨_, rfl⟩
        rw [hx] at HLT
        clear hstep hstop hlet
        by_cases k0 : k = 0
        · have gk : ((N : Int) == 1) = true := by rw [beq_iff_eq]; omega
          have HV : Hid (readItemV c l = riV [] 0 0) := Lib.hid (ri_no (hm.trans k0))
          clear hm k0 hc0
          go_wp2_with fail
          refine (HLT.out _).mono ?_
          rintro e w5 ⟨rfl, rfl⟩
          go_wp2_with (first | refine wpList_store_row rfl _ _ _ rfl _ #[.string ⟨#[]⟩, .int .i64 0] rfl rfl _ _ H0.out (infoJ _ _) rfl (by simp [Value.oneCell']) ?_)
          refine bodyPost_ret (ret_row rfl _ _ _ _ rfl (run_loadVar_row _ _ _ _ _ (0, 0) _ (H0.out.row (.string ⟨#[]⟩) 0) Tryd.underlying58 rfl (infoJ _ _))) rfl ⟨by rw [HV.out]; rfl, below_row HB.out (Nat.le_refl _) _⟩
        have gk : ((N : Int) == 1) = false := by rw [beq_eq_false_iff_ne]; omega
        rcases hsg : signB c with _ | _
        · have HV : Hid (readItemV c l = riV [] 0 0) := Lib.hid (ri_sign hsg l)
          have gs := sign_not hsg
          have gs1 : ((c.toNat : Int) != 42) = true := by simp only [bne, gs.1]; rfl
          have gs2 : ((c.toNat : Int) != 47) = true := by simp only [bne, gs.2]; rfl
          obtain ⟨R0, hR0⟩ : ∃ R0 : Int, (c.toNat : Int) = R0 := ⟨_, rfl⟩
          rw [hR0] at gs1 gs2
          clear hm k0 gs hsg
          go_wp2_with fail
          refine (HLT.out _).mono ?_
          rintro e w5 ⟨rfl, rfl⟩
          go_wp2_with (first | refine wpList_store_row rfl _ _ _ rfl _ #[.string ⟨#[]⟩, .int .i64 0] rfl rfl _ _ H0.out (infoJ _ _) rfl (by simp [Value.oneCell']) ?_)
          refine bodyPost_ret (ret_row rfl _ _ _ _ rfl (run_loadVar_row _ _ _ _ _ (0, 0) _ (H0.out.row (.string ⟨#[]⟩) 0) Tryd.underlying58 rfl (infoJ _ _))) rfl ⟨by rw [HV.out]; rfl, below_row HB.out (Nat.le_refl _) _⟩
        have hry := ri_yes hsg hm (by omega)
        have hsl := slice_run s 1 N (by omega) (by omega)
        have hE := ext_take s 1 k
        rw [hN, HLE.out] at hE
        rw [hE] at hsl
        obtain ⟨X, hEE⟩ : ∃ X : ByteArray, (⟨(l.take k).toArray⟩ : ByteArray) = X := ⟨_, rfl⟩
        rw [hEE] at hsl
        have hs2 : ∀ W, (Instr.slice 9 (.string s) (some (.int .i64 1)) (some (.int .i64 (N : Int))) none).run Tryd.prog W = .ok (.string X) W := hsl
        have HE1 : Hid (sv (l.take k) = .string X) := Lib.hid (by unfold sv; rw [hEE])
        have HP : Hid (Jt (W0.alloc (.cells #[.string ⟨#[]⟩, .int .i64 0] 58)) W0.heap.size (.string ⟨#[]⟩) 0) := Lib.hid (heap_alloc_new W0 _)
        have P8 := HP.out.row (.string X) 1
        have P4 := (H0.out.alloc (.cells #[.string ⟨#[]⟩, .int .i64 0] 58)).oth (b' := W0.heap.size) (by have := H0.out.lt; omega) #[.string X, .int .i64 1]
        have PB := below_row ((HB.out).alloc HB.out.size (.cells #[.string ⟨#[]⟩, .int .i64 0] 58)) (b := W0.heap.size) HB.out.size #[.string X, .int .i64 1]
        clear hE hEE hsl
        have hD : l.drop k = x :: l.drop (k + 1) := by
          rw [List.drop_eq_getElem_cons (by omega)]
          congr 1
          rw [← hx, show l[k]'(by omega) = (s.data.toList.drop 1)[k]'(by rw [HLE.out]; omega) by simp [HLE.out], hby]; simp [hN]
        have hdl : (l.drop (k + 1)).length = s.size - N - 1 := by rw [List.length_drop]; omega
        have hsb : s[N] = x := hx
        rcases sign_bytes hsg with ⟨hc, hcb⟩ | ⟨hc, hcb⟩
        · rw [if_neg (by rw [hc]; decide)] at hry
          have gs1 : ((c.toNat : Int) != 42) = false := by rw [hcb]; decide
          have gs2 : ((c.toNat : Int) != 47) = true := by rw [hcb]; decide
          have gs3 : ((c.toNat : Int) == 47) = false := by rw [hcb]; decide
          clear hcb hc
          obtain ⟨R0, hR0⟩ : ∃ R0 : Int, (c.toNat : Int) = R0 := ⟨_, rfl⟩
          rw [hR0] at gs1 gs2 gs3
          by_cases h1 : 50 ≤ x.toNat
          · by_cases h2 : x.toNat ≤ 57
            · skip
              have hd : digitB x = true := by unfold digitB; simp [h1, h2]
              have g1 : decide (50 ≤ (x.toNat : Int)) = true := by simp; omega
              have g2 : decide ((x.toNat : Int) ≤ 57) = true := by simp; omega
              obtain ⟨R, hR⟩ : ∃ R : Int, (x.toNat : Int) - 48 = R := ⟨_, rfl⟩
              have hw1 : IntKind.u8.wrap R = R := IntWalk.u8_in _ (by omega)
              have hw2 : IntKind.i64.wrap R = R := IntWalk.i64_in _ (by omega)
              have hw3 : IntKind.i64.wrap (-R) = -R := IntWalk.i64_in _ (by omega)
              have HV : Hid (readItemV c l = riV (l.take k) (R) ((N : Int) + 1)) := Lib.hid (by
                rw [hry, hD, expL, if_pos hd]
                show riV _ (((x.toNat - 48 : Nat) : Int)) ((l.length : Int) + 1 - ((l.drop (k + 1)).length : Int)) = _
                rw [hdl]; congr 1 <;> omega)
              have HR := Lib.hid hR
              clear hm k0 hD hd hdl hby hry hsg
              have Q8 := P8.set R
              have Q4 := P4.other (b' := W0.heap.size) (by have := H0.out.lt; omega) 1 (.int .i64 R)
              have QB := (PB.setCell (p := ⟨W0.heap.size, 1, none⟩) HB.out.size (.int .i64 R))
              have hc8 := P8.cells
              have HZ8 := Lib.hid Q8
              have HZ4 := Lib.hid Q4
              have HZB := Lib.hid QB
              clear P8 P4 PB Q8 Q4 QB
              go_wp2_with fail
              refine (HLT.out _).mono ?_
              rintro e w5 ⟨rfl, rfl⟩
              go_wp2_with (first | refine wpList_store_row rfl _ _ _ rfl _ _ rfl rfl _ _ HP.out (infoJ _ _) rfl (by simp [Value.oneCell']) ?_ | refine wpList_load_row rfl _ _ rfl _ rfl _ _ _ _ HZ8.out Tryd.underlying58 rfl (infoJ _ _) ?_ | refine wpList_store_row rfl _ _ _ rfl _ _ rfl rfl _ _ HZ4.out (infoJ _ _) rfl (by simp [Value.oneCell']) ?_)
              refine bodyPost_ret (ret_row rfl _ _ _ _ rfl (run_loadVar_row _ _ _ _ _ (0, 0) _ (HZ4.out.row (.string X) (R)) Tryd.underlying58 rfl (infoJ _ _))) rfl ⟨by rw [HV.out, ← HE1.out]; rfl, below_row HZB.out (Nat.le_refl _) _⟩
            · skip
              have hd : digitB x = false := by unfold digitB; simp; omega
              have g1 : decide (50 ≤ (x.toNat : Int)) = true := by simp; omega
              have g2 : decide ((x.toNat : Int) ≤ 57) = false := by simp; omega
              have HV : Hid (readItemV c l = riV (l.take k) (1) (N : Int)) := Lib.hid (by
                rw [hry, hD, expL, hd]
                show riV _ (1) ((l.length : Int) + 1 - ((x :: l.drop (k + 1)).length : Int)) = _
                rw [List.length_cons, hdl]; congr 1; omega)
              clear hm k0 hD hd hdl hby hry hsg
              have HZ8 := Lib.hid P8
              have HZ4 := Lib.hid P4
              have HZB := Lib.hid PB
              clear P8 P4 PB
              go_wp2_with fail
              refine (HLT.out _).mono ?_
              rintro e w5 ⟨rfl, rfl⟩
              go_wp2_with (first | refine wpList_store_row rfl _ _ _ rfl _ _ rfl rfl _ _ HP.out (infoJ _ _) rfl (by simp [Value.oneCell']) ?_ | refine wpList_load_row rfl _ _ rfl _ rfl _ _ _ _ HZ8.out Tryd.underlying58 rfl (infoJ _ _) ?_ | refine wpList_store_row rfl _ _ _ rfl _ _ rfl rfl _ _ HZ4.out (infoJ _ _) rfl (by simp [Value.oneCell']) ?_)
              refine bodyPost_ret (ret_row rfl _ _ _ _ rfl (run_loadVar_row _ _ _ _ _ (0, 0) _ (HZ4.out.row (.string X) (1)) Tryd.underlying58 rfl (infoJ _ _))) rfl ⟨by rw [HV.out, ← HE1.out]; rfl, below_row HZB.out (Nat.le_refl _) _⟩
          · skip
            have hd : digitB x = false := by unfold digitB; simp; omega
            have g1 : decide (50 ≤ (x.toNat : Int)) = false := by simp; omega
            have HV : Hid (readItemV c l = riV (l.take k) (1) (N : Int)) := Lib.hid (by
              rw [hry, hD, expL, hd]
              show riV _ (1) ((l.length : Int) + 1 - ((x :: l.drop (k + 1)).length : Int)) = _
              rw [List.length_cons, hdl]; congr 1; omega)
            clear hm k0 hD hd hdl hby hry hsg
            have HZ8 := Lib.hid P8
            have HZ4 := Lib.hid P4
            have HZB := Lib.hid PB
            clear P8 P4 PB
            go_wp2_with fail
            refine (HLT.out _).mono ?_
            rintro e w5 ⟨rfl, rfl⟩
            go_wp2_with (first | refine wpList_store_row rfl _ _ _ rfl _ _ rfl rfl _ _ HP.out (infoJ _ _) rfl (by simp [Value.oneCell']) ?_ | refine wpList_load_row rfl _ _ rfl _ rfl _ _ _ _ HZ8.out Tryd.underlying58 rfl (infoJ _ _) ?_ | refine wpList_store_row rfl _ _ _ rfl _ _ rfl rfl _ _ HZ4.out (infoJ _ _) rfl (by simp [Value.oneCell']) ?_)
            refine bodyPost_ret (ret_row rfl _ _ _ _ rfl (run_loadVar_row _ _ _ _ _ (0, 0) _ (HZ4.out.row (.string X) (1)) Tryd.underlying58 rfl (infoJ _ _))) rfl ⟨by rw [HV.out, ← HE1.out]; rfl, below_row HZB.out (Nat.le_refl _) _⟩
        · rw [if_pos hc] at hry
          have gs1 : ((c.toNat : Int) != 42) = true := by rw [hcb]; decide
          have gs2 : ((c.toNat : Int) != 47) = false := by rw [hcb]; decide
          have gs3 : ((c.toNat : Int) == 47) = true := by rw [hcb]; decide
          clear hcb hc
          obtain ⟨R0, hR0⟩ : ∃ R0 : Int, (c.toNat : Int) = R0 := ⟨_, rfl⟩
          rw [hR0] at gs1 gs2 gs3
          by_cases h1 : 50 ≤ x.toNat
          · by_cases h2 : x.toNat ≤ 57
            · skip
              have hd : digitB x = true := by unfold digitB; simp [h1, h2]
              have g1 : decide (50 ≤ (x.toNat : Int)) = true := by simp; omega
              have g2 : decide ((x.toNat : Int) ≤ 57) = true := by simp; omega
              obtain ⟨R, hR⟩ : ∃ R : Int, (x.toNat : Int) - 48 = R := ⟨_, rfl⟩
              have hw1 : IntKind.u8.wrap R = R := IntWalk.u8_in _ (by omega)
              have hw2 : IntKind.i64.wrap R = R := IntWalk.i64_in _ (by omega)
              have hw3 : IntKind.i64.wrap (-R) = -R := IntWalk.i64_in _ (by omega)
              have HV : Hid (readItemV c l = riV (l.take k) (-R) ((N : Int) + 1)) := Lib.hid (by
                rw [hry, hD, expL, if_pos hd]
                show riV _ (-((x.toNat - 48 : Nat) : Int)) ((l.length : Int) + 1 - ((l.drop (k + 1)).length : Int)) = _
                rw [hdl]; congr 1 <;> omega)
              have HR := Lib.hid hR
              clear hm k0 hD hd hdl hby hry hsg
              have Q8 := P8.set R
              have Q4 := P4.other (b' := W0.heap.size) (by have := H0.out.lt; omega) 1 (.int .i64 R)
              have QB := (PB.setCell (p := ⟨W0.heap.size, 1, none⟩) HB.out.size (.int .i64 R))
              have hc8 := P8.cells
              have hc9 := Q8.cells
              have M8 := Q8.set (-R)
              have M4 := Q4.other (b' := W0.heap.size) (by have := H0.out.lt; omega) 1 (.int .i64 (-R))
              have MB := (QB.setCell (p := ⟨W0.heap.size, 1, none⟩) HB.out.size (.int .i64 (-R)))
              have HZ8 := Lib.hid M8
              have HZ4 := Lib.hid M4
              have HZB := Lib.hid MB
              clear P8 P4 PB Q8 Q4 QB M8 M4 MB
              go_wp2_with fail
              refine (HLT.out _).mono ?_
              rintro e w5 ⟨rfl, rfl⟩
              go_wp2_with (first | refine wpList_store_row rfl _ _ _ rfl _ _ rfl rfl _ _ HP.out (infoJ _ _) rfl (by simp [Value.oneCell']) ?_ | refine wpList_load_row rfl _ _ rfl _ rfl _ _ _ _ HZ8.out Tryd.underlying58 rfl (infoJ _ _) ?_ | refine wpList_store_row rfl _ _ _ rfl _ _ rfl rfl _ _ HZ4.out (infoJ _ _) rfl (by simp [Value.oneCell']) ?_)
              refine bodyPost_ret (ret_row rfl _ _ _ _ rfl (run_loadVar_row _ _ _ _ _ (0, 0) _ (HZ4.out.row (.string X) (-R)) Tryd.underlying58 rfl (infoJ _ _))) rfl ⟨by rw [HV.out, ← HE1.out]; rfl, below_row HZB.out (Nat.le_refl _) _⟩
            · skip
              have hd : digitB x = false := by unfold digitB; simp; omega
              have g1 : decide (50 ≤ (x.toNat : Int)) = true := by simp; omega
              have g2 : decide ((x.toNat : Int) ≤ 57) = false := by simp; omega
              have HV : Hid (readItemV c l = riV (l.take k) (-1) (N : Int)) := Lib.hid (by
                rw [hry, hD, expL, hd]
                show riV _ (-1) ((l.length : Int) + 1 - ((x :: l.drop (k + 1)).length : Int)) = _
                rw [List.length_cons, hdl]; congr 1; omega)
              clear hm k0 hD hd hdl hby hry hsg
              have hc9 := P8.cells
              have M8 := P8.set (-1)
              have M4 := P4.other (b' := W0.heap.size) (by have := H0.out.lt; omega) 1 (.int .i64 (-1))
              have MB := (PB.setCell (p := ⟨W0.heap.size, 1, none⟩) HB.out.size (.int .i64 (-1)))
              have HZ8 := Lib.hid M8
              have HZ4 := Lib.hid M4
              have HZB := Lib.hid MB
              clear P8 P4 PB M8 M4 MB
              go_wp2_with fail
              refine (HLT.out _).mono ?_
              rintro e w5 ⟨rfl, rfl⟩
              go_wp2_with (first | refine wpList_store_row rfl _ _ _ rfl _ _ rfl rfl _ _ HP.out (infoJ _ _) rfl (by simp [Value.oneCell']) ?_ | refine wpList_load_row rfl _ _ rfl _ rfl _ _ _ _ HZ8.out Tryd.underlying58 rfl (infoJ _ _) ?_ | refine wpList_store_row rfl _ _ _ rfl _ _ rfl rfl _ _ HZ4.out (infoJ _ _) rfl (by simp [Value.oneCell']) ?_)
              refine bodyPost_ret (ret_row rfl _ _ _ _ rfl (run_loadVar_row _ _ _ _ _ (0, 0) _ (HZ4.out.row (.string X) (-1)) Tryd.underlying58 rfl (infoJ _ _))) rfl ⟨by rw [HV.out, ← HE1.out]; rfl, below_row HZB.out (Nat.le_refl _) _⟩
          · skip
            have hd : digitB x = false := by unfold digitB; simp; omega
            have g1 : decide (50 ≤ (x.toNat : Int)) = false := by simp; omega
            have HV : Hid (readItemV c l = riV (l.take k) (-1) (N : Int)) := Lib.hid (by
              rw [hry, hD, expL, hd]
              show riV _ (-1) ((l.length : Int) + 1 - ((x :: l.drop (k + 1)).length : Int)) = _
              rw [List.length_cons, hdl]; congr 1; omega)
            clear hm k0 hD hd hdl hby hry hsg
            have hc9 := P8.cells
            have M8 := P8.set (-1)
            have M4 := P4.other (b' := W0.heap.size) (by have := H0.out.lt; omega) 1 (.int .i64 (-1))
            have MB := (PB.setCell (p := ⟨W0.heap.size, 1, none⟩) HB.out.size (.int .i64 (-1)))
            have HZ8 := Lib.hid M8
            have HZ4 := Lib.hid M4
            have HZB := Lib.hid MB
            clear P8 P4 PB M8 M4 MB
            go_wp2_with fail
            refine (HLT.out _).mono ?_
            rintro e w5 ⟨rfl, rfl⟩
            go_wp2_with (first | refine wpList_store_row rfl _ _ _ rfl _ _ rfl rfl _ _ HP.out (infoJ _ _) rfl (by simp [Value.oneCell']) ?_ | refine wpList_load_row rfl _ _ rfl _ rfl _ _ _ _ HZ8.out Tryd.underlying58 rfl (infoJ _ _) ?_ | refine wpList_store_row rfl _ _ _ rfl _ _ rfl rfl _ _ HZ4.out (infoJ _ _) rfl (by simp [Value.oneCell']) ?_)
            refine bodyPost_ret (ret_row rfl _ _ _ _ rfl (run_loadVar_row _ _ _ _ _ (0, 0) _ (HZ4.out.row (.string X) (-1)) Tryd.underlying58 rfl (infoJ _ _))) rfl ⟨by rw [HV.out, ← HE1.out]; rfl, below_row HZB.out (Nat.le_refl _) _⟩
    · have hm : (l.takeWhile letterB).length = k := by omega
      have hlt2 : decide ((N : Int) < (s.size : Int)) = false := by simp; omega
      rw [hN]
      by_cases k0 : k = 0
      · have gk : ((N : Int) == 1) = true := by rw [beq_iff_eq]; omega
        have HV : Hid (readItemV c l = riV [] 0 0) := Lib.hid (ri_no (hm.trans k0))
        clear hm k0 hc0
        go_wp2_with (first | refine wpList_store_row rfl _ _ _ rfl _ #[.string ⟨#[]⟩, .int .i64 0] rfl rfl _ _ H0.out (infoJ _ _) rfl (by simp [Value.oneCell']) ?_)
        refine bodyPost_ret (ret_row rfl _ _ _ _ rfl (run_loadVar_row _ _ _ _ _ (0, 0) _ (H0.out.row (.string ⟨#[]⟩) 0) Tryd.underlying58 rfl (infoJ _ _))) rfl ⟨by rw [HV.out]; rfl, below_row HB.out (Nat.le_refl _) _⟩
      have gk : ((N : Int) == 1) = false := by rw [beq_eq_false_iff_ne]; omega
      rcases hsg : signB c with _ | _
      · have HV : Hid (readItemV c l = riV [] 0 0) := Lib.hid (ri_sign hsg l)
        have gs := sign_not hsg
        have gs1 : ((c.toNat : Int) != 42) = true := by simp only [bne, gs.1]; rfl
        have gs2 : ((c.toNat : Int) != 47) = true := by simp only [bne, gs.2]; rfl
        obtain ⟨R0, hR0⟩ : ∃ R0 : Int, (c.toNat : Int) = R0 := ⟨_, rfl⟩
        rw [hR0] at gs1 gs2
        clear hm k0 gs hsg
        go_wp2_with (first | refine wpList_store_row rfl _ _ _ rfl _ #[.string ⟨#[]⟩, .int .i64 0] rfl rfl _ _ H0.out (infoJ _ _) rfl (by simp [Value.oneCell']) ?_)
        refine bodyPost_ret (ret_row rfl _ _ _ _ rfl (run_loadVar_row _ _ _ _ _ (0, 0) _ (H0.out.row (.string ⟨#[]⟩) 0) Tryd.underlying58 rfl (infoJ _ _))) rfl ⟨by rw [HV.out]; rfl, below_row HB.out (Nat.le_refl _) _⟩
      have hry := ri_yes hsg hm (by omega)
      have hsl := slice_run s 1 N (by omega) (by omega)
      have hE := ext_take s 1 k
      rw [hN, HLE.out] at hE
      rw [hE] at hsl
      obtain ⟨X, hEE⟩ : ∃ X : ByteArray, (⟨(l.take k).toArray⟩ : ByteArray) = X := ⟨_, rfl⟩
      rw [hEE] at hsl
      have hs2 : ∀ W, (Instr.slice 9 (.string s) (some (.int .i64 1)) (some (.int .i64 (N : Int))) none).run Tryd.prog W = .ok (.string X) W := hsl
      have HE1 : Hid (sv (l.take k) = .string X) := Lib.hid (by unfold sv; rw [hEE])
      have HP : Hid (Jt (W0.alloc (.cells #[.string ⟨#[]⟩, .int .i64 0] 58)) W0.heap.size (.string ⟨#[]⟩) 0) := Lib.hid (heap_alloc_new W0 _)
      have P8 := HP.out.row (.string X) 1
      have P4 := (H0.out.alloc (.cells #[.string ⟨#[]⟩, .int .i64 0] 58)).oth (b' := W0.heap.size) (by have := H0.out.lt; omega) #[.string X, .int .i64 1]
      have PB := below_row ((HB.out).alloc HB.out.size (.cells #[.string ⟨#[]⟩, .int .i64 0] 58)) (b := W0.heap.size) HB.out.size #[.string X, .int .i64 1]
      clear hE hEE hsl
      have hD : l.drop k = [] := List.drop_eq_nil_of_le (by omega)
      rcases sign_bytes hsg with ⟨hc, hcb⟩ | ⟨hc, hcb⟩
      · rw [if_neg (by rw [hc]; decide)] at hry
        have gs1 : ((c.toNat : Int) != 42) = false := by rw [hcb]; decide
        have gs2 : ((c.toNat : Int) != 47) = true := by rw [hcb]; decide
        have gs3 : ((c.toNat : Int) == 47) = false := by rw [hcb]; decide
        clear hcb hc
        obtain ⟨R0, hR0⟩ : ∃ R0 : Int, (c.toNat : Int) = R0 := ⟨_, rfl⟩
        rw [hR0] at gs1 gs2 gs3
        have HV : Hid (readItemV c l = riV (l.take k) (1) (N : Int)) := Lib.hid (by
          rw [hry, hD]
          show riV _ (1) ((l.length : Int) + 1 - (([] : List UInt8).length : Int)) = _
          congr 1; simp; omega)
        clear hm k0 hD hry hsg
        have HZ8 := Lib.hid P8
        have HZ4 := Lib.hid P4
        have HZB := Lib.hid PB
        clear P8 P4 PB
        go_wp2_with (first | refine wpList_store_row rfl _ _ _ rfl _ _ rfl rfl _ _ HP.out (infoJ _ _) rfl (by simp [Value.oneCell']) ?_ | refine wpList_load_row rfl _ _ rfl _ rfl _ _ _ _ HZ8.out Tryd.underlying58 rfl (infoJ _ _) ?_ | refine wpList_store_row rfl _ _ _ rfl _ _ rfl rfl _ _ HZ4.out (infoJ _ _) rfl (by simp [Value.oneCell']) ?_)
        refine bodyPost_ret (ret_row rfl _ _ _ _ rfl (run_loadVar_row _ _ _ _ _ (0, 0) _ (HZ4.out.row (.string X) (1)) Tryd.underlying58 rfl (infoJ _ _))) rfl ⟨by rw [HV.out, ← HE1.out]; rfl, below_row HZB.out (Nat.le_refl _) _⟩
      · rw [if_pos hc] at hry
        have gs1 : ((c.toNat : Int) != 42) = true := by rw [hcb]; decide
        have gs2 : ((c.toNat : Int) != 47) = false := by rw [hcb]; decide
        have gs3 : ((c.toNat : Int) == 47) = true := by rw [hcb]; decide
        clear hcb hc
        obtain ⟨R0, hR0⟩ : ∃ R0 : Int, (c.toNat : Int) = R0 := ⟨_, rfl⟩
        rw [hR0] at gs1 gs2 gs3
        have HV : Hid (readItemV c l = riV (l.take k) (-1) (N : Int)) := Lib.hid (by
          rw [hry, hD]
          show riV _ (-1) ((l.length : Int) + 1 - (([] : List UInt8).length : Int)) = _
          congr 1; simp; omega)
        clear hm k0 hD hry hsg
        have hc9 := P8.cells
        have M8 := P8.set (-1)
        have M4 := P4.other (b' := W0.heap.size) (by have := H0.out.lt; omega) 1 (.int .i64 (-1))
        have MB := (PB.setCell (p := ⟨W0.heap.size, 1, none⟩) HB.out.size (.int .i64 (-1)))
        have HZ8 := Lib.hid M8
        have HZ4 := Lib.hid M4
        have HZB := Lib.hid MB
        clear P8 P4 PB M8 M4 MB
        go_wp2_with (first | refine wpList_store_row rfl _ _ _ rfl _ _ rfl rfl _ _ HP.out (infoJ _ _) rfl (by simp [Value.oneCell']) ?_ | refine wpList_load_row rfl _ _ rfl _ rfl _ _ _ _ HZ8.out Tryd.underlying58 rfl (infoJ _ _) ?_ | refine wpList_store_row rfl _ _ _ rfl _ _ rfl rfl _ _ HZ4.out (infoJ _ _) rfl (by simp [Value.oneCell']) ?_)
        refine bodyPost_ret (ret_row rfl _ _ _ _ rfl (run_loadVar_row _ _ _ _ _ (0, 0) _ (HZ4.out.row (.string X) (-1)) Tryd.underlying58 rfl (infoJ _ _))) rfl ⟨by rw [HV.out, ← HE1.out]; rfl, below_row HZB.out (Nat.le_refl _) _⟩
end Go.Proofs.YtmhdhabgdlefjaaDoor.Un

namespace Go.Proofs.YtmhdhabgdlefjaaDoor.Un
open Go.RowKit Bi Dm

def rowOf (x : List UInt8 × Nat × Int × Int × Int × Bool) : Array Value := #[.string ⟨x.1.toArray⟩, .int .i64 (x.2.1 : Int), .int .i64 x.2.2.1, .int .i64 x.2.2.2.1, .int .i64 x.2.2.2.2.1, .bool x.2.2.2.2.2]
def symC : List Value := symT.flatMap fun x => (rowOf x).toList
def symCells : Array Value := symC.toArray
/-- What the calls read of the package-level variables. -/
structure EnvU (w : World) : Prop where
  dim : Dm.Env w
  tab : ∃ t fr, w.heap[0]? = some (.cells symCells t fr)
theorem EnvU.below {w w' : World} (he : EnvU w) (h : RowKit.Below w.heap.size w w') : EnvU w' := by
  obtain ⟨t, fr, hg⟩ := he.tab
  exact ⟨he.dim.below h, ⟨t, fr, by rw [h.block _ (lt_of_heap hg)]; exact hg⟩⟩
theorem sym_index {k : Nat} {x : List UInt8 × Nat × Int × Int × Int × Bool} (h : symT[k]? = some x) (W : World) : (Instr.index 84 (.agg symCells) (.int .i64 (k : Int))).run Tryd.prog W = .ok (.agg (rowOf x)) W := by
  have hl : k < 12 := (List.getElem?_eq_some_iff.1 h).1
  obtain rfl | rfl | rfl | rfl | rfl | rfl | rfl | rfl | rfl | rfl | rfl | rfl := lt12 hl
  all_goals
    simp only [symT, List.getElem?_cons_succ, List.getElem?_cons_zero, Option.some.injEq] at h
    subst h
    rfl
theorem infoTab : (Tryd.prog.info? 84).map (·.size) = some symCells.size := by kernel_rfl
theorem suf_is {L p nm : List UInt8} (h : L = p ++ nm) : Lib.hasSuffix L nm = true ∧ Lib.trimSuffix L nm = p := by
  subst h
  have h1 : Lib.hasSuffix (p ++ nm) nm = true := by unfold Lib.hasSuffix; rw [List.isSuffixOf_iff_suffix]; exact List.suffix_append _ _
  refine ⟨h1, ?_⟩
  unfold Lib.trimSuffix; rw [if_pos h1]; simp
theorem suf_of {L nm : List UInt8} (h : Lib.hasSuffix L nm = true) : L = Lib.trimSuffix L nm ++ nm := by
  have h1 : nm <:+ L := by unfold Lib.hasSuffix at h; rwa [List.isSuffixOf_iff_suffix] at h
  obtain ⟨t, rfl⟩ := h1
  rw [(suf_is rfl).2]
theorem miss_step {L : List UInt8} {k : Nat} (h : Miss L k) {nm : List UInt8} {b : Nat} {n xa xb : Int} {t : Bool} (hk : symT[k]? = some (nm, b, n, xa, xb, t))
    (hb : Lib.hasSuffix L nm = true → ∀ a c, preP (Lib.trimSuffix L nm) = some (a, c) → (Lib.trimSuffix L nm = [] ∨ t = true) → False) : Miss L (k + 1) := by
  intro i hi nm' b' n' xa' xb' t' hi' p a c hp ht e
  by_cases hik : i = k
  · subst hik
    rw [hk] at hi'
    simp only [Option.some.injEq, Prod.mk.injEq] at hi'
    obtain ⟨rfl, rfl, rfl, rfl, rfl, rfl⟩ := hi'
    obtain ⟨h1, h2⟩ := suf_is e
    exact hb h1 a c (by rw [h2]; exact hp) (by rw [h2]; exact ht)
  · exact h i (by omega) nm' b' n' xa' xb' t' hi' p a c hp ht e
theorem zu_cell (b : Nat) (hb : b < 6) : (([.int .i64 0, .int .i64 0, .int .i64 0, .int .i64 0, .int .i64 0, .int .i64 0, .int .i64 0, .slice none 0 0, .int .i64 0, .slice none 0 0] : List Value))[b]? = some (.int .i64 0) := by
  rcases lt6 hb with rfl | rfl | rfl | rfl | rfl | rfl <;> rfl
theorem zu_set (b : Nat) (hb : b < 6) (n : Int) : ([.int .i64 0, .int .i64 0, .int .i64 0, .int .i64 0, .int .i64 0, .int .i64 0, .int .i64 0, .slice none 0 0, .int .i64 0, .slice none 0 0] : List Value).set b (.int .i64 n) = [.int .i64 (up zf b n 0), .int .i64 (up zf b n 1), .int .i64 (up zf b n 2), .int .i64 (up zf b n 3), .int .i64 (up zf b n 4), .int .i64 (up zf b n 5), .int .i64 0, .slice none 0 0, .int .i64 0, .slice none 0 0] := by
  rcases lt6 hb with rfl | rfl | rfl | rfl | rfl | rfl <;> rfl
theorem str_empty (s : ByteArray) (b nb : Bool) (h : decide (s.data.toList = []) = b) (hn : (!b) = nb) : (s.toList == (⟨#[]⟩ : ByteArray).toList) = b ∧ (s.toList != (⟨#[]⟩ : ByteArray).toList) = nb ∧ (s.toList == []) = b ∧ (s.toList != []) = nb ∧ s.toList.isEmpty = b := by
  have h1 : (s.toList == []) = b := by
    rw [ByteArray.toList_eq, ← h]
    cases s.data.toList <;> rfl
  have h2 : (s.toList == (⟨#[]⟩ : ByteArray).toList) = b := by rw [ByteArray.toList_eq ⟨#[]⟩]; exact h1
  subst hn
  refine ⟨h2, by simp only [bne, h2], h1, by simp only [bne, h1], ?_⟩
  rw [← h1]; cases s.toList <;> rfl
end Go.Proofs.YtmhdhabgdlefjaaDoor.Un
