/- Both regions of ScaleRecalls that draw their order and append: whatever comes up. -/
import Derived.Test.YtmhjejnkphdjpaaPB28
import Derived.OrdersHeld
import Derived.Test.YtmhjejnkphdjpaaPB29
import Derived.Test.YtmhjejnkphdjpaaLaw
import Derived.Test.YtmhjejnkphdjpaaRows
import Derived.ProofKit
import Derived.Test.YtmhjejnkphdjpaaQSm1
set_option maxRecDepth 100000
namespace Go.Proofs.Ytmhjejnkphdjpaa.Sc
open Go.RowKit Bi

theorem ex_call {P : Program} {o : Oper} {a : Act} {w : World} {f : FuncId} {args : Array Operand} {ts : Array TypeId} {fn : Func} (hf : P.funcs[f]? = some fn) (hn : (fn.name == "runtime.NumGoroutine") = false) (hb : fn.body.isNone = false) (ho : o.op = .call { callee := .value (.func f), args := args, argTypes := ts }) : (execOp a.eval o).run P w = .ok (.enter f (args.map a.eval)) w := by
  have hn' : ¬ fn.name = "runtime.NumGoroutine" := by simpa using hn
  have hb' : ¬ fn.body = none := by cases h : fn.body <;> simp_all
  unfold execOp
  simp [ho, resolve, invoke, Act.eval, Deferred.ofValue, callFunc, go_sem, hf, hn', hb']
theorem st_still {P : Program} {ops : Array Oper} {Q : Exit → Act → World → Prop} {i : Nat} {o : Oper} {K : Act → World → Prop} {a : Act} {w : World} {v : Value} (ho : ops[i]? = some o) (hg : o.guard = none) (hr : (execOp a.eval o).run P w = .ok (.value v) w) (hK : K (a.put o.dst v) w) : wpOp P ops Q i K a w := st_val ho hg hr hK
theorem store_run {o : Oper} {a : Act} {w : World} {x y : Operand} {g : Nat} {v0 v1 v2 v3 : Value} {cs : List Value} {t : TypeId} (ho : o.op = .store 34 x y) (hx : a.eval x = .pointer (some ⟨g, 0, none⟩)) (hy : a.eval y = .agg #[v0, v1, v2, v3]) (hb : Fb (g, t, cs) w) (hk : 4 ≤ cs.length) (h1 : ∀ v ∈ [v0, v1, v2, v3], v.oneCell' = true) :
    (execOp a.eval o).run Try.prog w = .ok .skip ((((w.setCell ⟨g, 0, none⟩ v0).setCell ⟨g, 1, none⟩ v1).setCell ⟨g, 2, none⟩ v2).setCell ⟨g, 3, none⟩ v3) := by
  obtain ⟨ie, hie, hs⟩ := infoFrac
  have hr := Lib.rl_storeVar_cells (P := Try.prog) 34 ie hie g 0 [v0, v1, v2, v3] hs h1 w
    (fun j hj => by rw [hb.cell, List.getElem?_eq_getElem (by simp at hj; omega)]; rfl) (fun j hj => hb.free _)
  unfold execOp
  simp only [ho, hx, hy, Instr.storeAt, Instr.sureAddr, Sem.run_bind, Sem.run_pure, Result.andThen_ok, hr]
  rfl
theorem grown4 (w : World) (g : Nat) (v0 v1 v2 v3 : Value) : w.grownBy ((((w.setCell ⟨g, 0, none⟩ v0).setCell ⟨g, 1, none⟩ v1).setCell ⟨g, 2, none⟩ v2).setCell ⟨g, 3, none⟩ v3) (some g) :=
  on_set (on_set (on_set (on_set (on_refl _ _) _ _) _ _) _ _) _ _
theorem mkSf {w0 w : World} {g : Nat} {ty : TypeId} {cs : List Value} {F : List (Value × List Int)} (hb : RowKit.Below w0.heap.size w0 w) (hg : w0.heap.size ≤ g) (hf : Fb (g, ty, cs) w) (hi : ∀ f ∈ F, Ints w f.1 f.2) (ho : ∀ f ∈ F, Off f.1 g) : Sf w0 [(g, ty, cs)] F w :=
  ⟨hb, fun x hx => by rw [List.mem_singleton.1 hx]; exact hg, fun x hx => by rw [List.mem_singleton.1 hx]; exact hf, hi, fun f hf x hx => by rw [List.mem_singleton.1 hx]; exact ho f hf, List.pairwise_singleton _ _⟩
theorem fr5_11 : ∀ b1 b2 : Bool, Region.free .any ops5 ((ls5 true true true true false b1 b2).setIfInBounds 10 true) 11 = true := by intro b1 b2; cases b1 <;> cases b2 <;> decide +kernel
theorem rc5_11 : ∀ b1 b2 : Bool, (Region.ready .any ops5 ((ls5 true true true true false b1 b2).setIfInBounds 10 true)).contains 11 = true := by intro b1 b2; cases b1 <;> cases b2 <;> decide +kernel
theorem fr5_12 : ∀ b1 b2 : Bool, Region.free .any ops5 (((ls5 true true true true false b1 b2).setIfInBounds 10 true).setIfInBounds 11 true) 12 = true := by intro b1 b2; cases b1 <;> cases b2 <;> decide +kernel
theorem rc5_12 : ∀ b1 b2 : Bool, (Region.ready .any ops5 (((ls5 true true true true false b1 b2).setIfInBounds 10 true).setIfInBounds 11 true)).contains 12 = true := by intro b1 b2; cases b1 <;> cases b2 <;> decide +kernel
theorem fr5_13 : ∀ b1 b2 : Bool, Region.free .any ops5 ((((ls5 true true true true false b1 b2).setIfInBounds 10 true).setIfInBounds 11 true).setIfInBounds 12 true) 13 = true := by intro b1 b2; cases b1 <;> cases b2 <;> decide +kernel
theorem rc5_13 : ∀ b1 b2 : Bool, (Region.ready .any ops5 ((((ls5 true true true true false b1 b2).setIfInBounds 10 true).setIfInBounds 11 true).setIfInBounds 12 true)).contains 13 = true := by intro b1 b2; cases b1 <;> cases b2 <;> decide +kernel
theorem fr5_14 : ∀ b1 b2 : Bool, Region.free .any ops5 (((((ls5 true true true true false b1 b2).setIfInBounds 10 true).setIfInBounds 11 true).setIfInBounds 12 true).setIfInBounds 13 true) 14 = true := by intro b1 b2; cases b1 <;> cases b2 <;> decide +kernel
theorem rc5_14 : ∀ b1 b2 : Bool, (Region.ready .any ops5 (((((ls5 true true true true false b1 b2).setIfInBounds 10 true).setIfInBounds 11 true).setIfInBounds 12 true).setIfInBounds 13 true)).contains 14 = true := by intro b1 b2; cases b1 <;> cases b2 <;> decide +kernel
theorem nos5 : Region.noSelect ops5 = true := by decide +kernel
theorem e5_17 : Region.ready .any ops5 (ls5 true true true true true true true) = [17] := by decide +kernel
theorem e5_18 : Region.ready .any ops5 ((ls5 true true true true true true true).setIfInBounds 17 true) = [18] := by decide +kernel
theorem e5_19 : Region.ready .any ops5 (((ls5 true true true true true true true).setIfInBounds 17 true).setIfInBounds 18 true) = [19] := by decide +kernel
theorem e5_end : Region.ready .any ops5 ((((ls5 true true true true true true true).setIfInBounds 17 true).setIfInBounds 18 true).setIfInBounds 19 true) = [] := by decide +kernel

set_option maxHeartbeats 16000000 in
theorem region5 {Q : Exit → Act → World → Prop} {S : World → Prop} {a0 : Act} {w0 : World} {m : Nat} {rl : List (Int × Int)} {x : Int × Int} {DD EE : RF} {kk : Bool} (hQp : ∀ (d : Option Tmp) (v : Value) (ch : List PanicEntry) (a : Act) (w : World), Q (.panic ch) (a.put d v) w → Q (.panic ch) a w) (hS : ∀ W, RowKit.Below w0.heap.size w0 W → S W) (hs0 : 60 < a0.tmps.size) {ac ar : Option Addr} {n cap cr : Nat} {l : List Ct} {s r d : Int} (e47 : sl a0 47 = .slice ac n cap) (e49 : sl a0 49 = .slice ar m cr) (e51 : sl a0 51 = .agg #[.int .i64 x.1, .int .i64 x.2]) (e54 : sl a0 54 = .int .i64 s) (e55 : sl a0 55 = .int .i64 r) (e56 : sl a0 56 = .int .i64 d)
    (hC : Cs w0 ac l) (hn : l.length = n) (hl : n ≤ 1000000) (hR : Rs w0 ar rl) (hm : rl.length = m) (hm1 : m ≤ 1000) (hD : ivL s r d l (rl ++ [x]) = DD) (hE : ivH s r d l (rl ++ [x]) = EE) (hk : ivB s r d l (rl ++ [x]) = kk)
    (hQ : ∀ (v46 v48 v50 v52 v53 v57 : Value) (q1 q4 q7 y1 : Option Addr) (q2 q3 q5 q6 q8 q9 y2 y3 g1 g2 : Nat) (w' : World), RowKit.Below w0.heap.size w0 w' → Fb (g1, 34, [.int .i64 DD.s, .slice q1 q2 q3, .int .i64 DD.t, .slice q4 q5 q6]) w' → Fb (g2, 34, [.int .i64 EE.s, .slice q7 q8 q9, .int .i64 EE.t, .slice y1 y2 y3]) w' → Ints w' (.slice q1 q2 q3) DD.l → Ints w' (.slice q4 q5 q6) DD.k → Ints w' (.slice q7 q8 q9) EE.l → Ints w' (.slice y1 y2 y3) EE.k → Q .normal ((((((((((((a0.put (some 46) (v46)).put (some 48) (v48)).put (some 50) (v50)).put (some 52) (v52)).put (some 53) (v53)).put (some 57) (v57)).put (some 58) (.agg #[.int .i64 DD.s, .slice q1 q2 q3, .int .i64 DD.t, .slice q4 q5 q6])).put (some 59) (.agg #[.int .i64 EE.s, .slice q7 q8 q9, .int .i64 EE.t, .slice y1 y2 y3])).put (some 60) (.bool kk)).put (some 19) (.pointer (some ⟨g1, 0, none⟩))).put (some 20) (.pointer (some ⟨g2, 0, none⟩))).put (some 21) (.bool kk)) w') :
    ∀ (k : Nat) (A0 P1 A1 P2 C b1 b2 : Bool) (a : Act) (w : World), k = fu5 A0 P1 A1 P2 C b1 b2 → ok5 A0 P1 A1 P2 C b1 b2 = true → Kp [19, 20, 21, 46, 48, 50, 52, 53, 57, 58, 59, 60] a0 a → J5 w0 m rl x DD EE kk A0 P1 A1 P2 C b1 b2 (sl a 48) (sl a 50) (sl a 52) (sl a 53) (sl a 58) (sl a 59) (sl a 60) (sl a 19) (sl a 20) w → wpAnyH Try.prog .any ops5 Q S k (ls5 A0 P1 A1 P2 C b1 b2) a w := by
  intro k
  induction k using Nat.strongRecOn with
  | ind k ih =>
  intro A0 P1 A1 P2 C b1 b2 a w hk0 hok hkp hJ
  have s19 : 19 < a.tmps.size := by rw [hkp.size]; omega
  have s20 : 20 < a.tmps.size := by rw [hkp.size]; omega
  have s21 : 21 < a.tmps.size := by rw [hkp.size]; omega
  have s46 : 46 < a.tmps.size := by rw [hkp.size]; omega
  have s48 : 48 < a.tmps.size := by rw [hkp.size]; omega
  have s50 : 50 < a.tmps.size := by rw [hkp.size]; omega
  have s52 : 52 < a.tmps.size := by rw [hkp.size]; omega
  have s53 : 53 < a.tmps.size := by rw [hkp.size]; omega
  have s57 : 57 < a.tmps.size := by rw [hkp.size]; omega
  have s58 : 58 < a.tmps.size := by rw [hkp.size]; omega
  have s59 : 59 < a.tmps.size := by rw [hkp.size]; omega
  have s60 : 60 < a.tmps.size := by rw [hkp.size]; omega
  have k47 : sl a 47 = _ := (hkp.keep 47 (by decide)).trans e47
  have k49 : sl a 49 = _ := (hkp.keep 49 (by decide)).trans e49
  have k51 : sl a 51 = _ := (hkp.keep 51 (by decide)).trans e51
  have k54 : sl a 54 = _ := (hkp.keep 54 (by decide)).trans e54
  have k55 : sl a 55 = _ := (hkp.keep 55 (by decide)).trans e55
  have k56 : sl a 56 = _ := (hkp.keep 56 (by decide)).trans e56
  rcases hf : fin5 A0 P1 A1 P2 C b1 b2 with _ | _
  · obtain ⟨k', rfl⟩ : ∃ k', k = k' + 1 := ⟨k - 1, by unfold fu5 at hk0; omega⟩
    refine ⟨fun h => absurd h (rdyne5 _ _ _ _ _ _ _ hok hf), fun i hi => ?_⟩
    have hi := rdy5 _ _ _ _ _ _ _ hok hf i hi
    clear hf
    rcases hi with ⟨rfl, rfl⟩ | ⟨rfl, rfl, rfl⟩ | ⟨rfl, rfl⟩ | ⟨rfl, rfl, rfl, rfl⟩ | ⟨rfl, rfl, rfl⟩ | ⟨rfl, rfl⟩ | ⟨rfl, rfl⟩
    · have hn' := ih k' (by omega) true P1 A1 P2 C b1 b2 (a.put (some 48) (.slice (some ⟨w.heap.size, 0, none⟩) 0 0)) (w.alloc (.cells #[] 52)) (by unfold fu5 at *; simp at *; omega) (by revert hok; cases P1 <;> cases A1 <;> cases P2 <;> cases C <;> cases b1 <;> cases b2 <;> decide) (hkp.put (by decide) (by omega) _) (by rw [sl_at s48, sl_ne (j := 50) s48 rfl, sl_ne (j := 52) s48 rfl, sl_ne (j := 53) s48 rfl, sl_ne (j := 58) s48 rfl, sl_ne (j := 59) s48 rfl, sl_ne (j := 60) s48 rfl, sl_ne (j := 19) s48 rfl, sl_ne (j := 20) s48 rfl]; exact hJ.a0)
      exact st_val (o := op5_1) rfl rfl (by simp [op5_1, execOp, Instr.buildSlice, go_sem]) ⟨hS _ hJ.a0.below, hn'⟩
    · skip
      obtain rfl : P2 = false := by cases P2 <;> first | rfl | (exfalso; revert hok; cases A1 <;> cases C <;> cases b1 <;> cases b2 <;> decide)
      obtain rfl : C = false := by cases C <;> first | rfl | (exfalso; revert hok; cases A1 <;> cases b1 <;> cases b2 <;> decide)
      obtain ⟨a', c', w', hrun, hJ'⟩ := hJ.p1 (cr := cr) (hR.later hJ.below) hm hm1
      have hn' := ih k' (by omega) true true A1 false false b1 b2 (a.put (some 50) (.slice a' m c')) w' (by unfold fu5 at *; simp at *; omega) (by revert hok; cases A1 <;> cases b1 <;> cases b2 <;> decide) (hkp.put (by decide) (by omega) _) (by rw [sl_ne (j := 48) s50 rfl, sl_at s50, sl_ne (j := 52) s50 rfl, sl_ne (j := 53) s50 rfl, sl_ne (j := 58) s50 rfl, sl_ne (j := 59) s50 rfl, sl_ne (j := 60) s50 rfl, sl_ne (j := 19) s50 rfl, sl_ne (j := 20) s50 rfl]; exact hJ')
      exact st_val (o := op5_3) rfl rfl (ex_append (.tmp 48) (.tmp 49) _ _ rfl (sl a 48) (.slice ar m cr) rfl k49 (hrun _)) ⟨hS _ hJ'.below, hn'⟩
    · have hn' := ih k' (by omega) A0 P1 true P2 C b1 b2 (a.put (some 52) (.slice (some ⟨w.heap.size, 0, none⟩) 1 1)) (w.alloc (.cells #[.int .i64 x.1, .int .i64 x.2] 52)) (by unfold fu5 at *; simp at *; omega) (by revert hok; cases A0 <;> cases P1 <;> cases P2 <;> cases C <;> cases b1 <;> cases b2 <;> decide) (hkp.put (by decide) (by omega) _) (by rw [sl_ne (j := 48) s52 rfl, sl_ne (j := 50) s52 rfl, sl_at s52, sl_ne (j := 53) s52 rfl, sl_ne (j := 58) s52 rfl, sl_ne (j := 59) s52 rfl, sl_ne (j := 60) s52 rfl, sl_ne (j := 19) s52 rfl, sl_ne (j := 20) s52 rfl]; exact hJ.a1)
      have kx := k51
      unfold sl at kx
      rw [Array.getD_eq_getD_getElem?] at kx
      exact st_val (o := op5_5) rfl rfl (by simp [op5_5, execOp, Instr.buildSlice, go_sem, Act.eval, kx]) ⟨hS _ hJ.a1.below, hn'⟩
    · skip
      obtain rfl : C = false := by cases C <;> first | rfl | (exfalso; revert hok; cases A0 <;> cases b1 <;> cases b2 <;> decide)
      obtain ⟨a', c', w', hrun, hJ'⟩ := hJ.p2 hm1
      have hn' := ih k' (by omega) A0 true true true false b1 b2 (a.put (some 53) (.slice a' (m + 1) c')) w' (by unfold fu5 at *; simp at *; omega) (by revert hok; cases A0 <;> cases b1 <;> cases b2 <;> decide) (hkp.put (by decide) (by omega) _) (by rw [sl_ne (j := 48) s53 rfl, sl_ne (j := 50) s53 rfl, sl_ne (j := 52) s53 rfl, sl_at s53, sl_ne (j := 58) s53 rfl, sl_ne (j := 59) s53 rfl, sl_ne (j := 60) s53 rfl, sl_ne (j := 19) s53 rfl, sl_ne (j := 20) s53 rfl]; exact hJ')
      exact st_val (o := op5_6) rfl rfl (ex_append (.tmp 50) (.tmp 52) _ _ rfl (sl a 50) (sl a 52) rfl rfl (hrun _)) ⟨hS _ hJ'.below, hn'⟩
    · skip
      obtain rfl : P1 = true := by cases P1 <;> first | rfl | (exfalso; revert hok; cases A0 <;> cases A1 <;> cases b1 <;> cases b2 <;> decide)
      obtain rfl : A1 = true := by cases A1 <;> first | rfl | (exfalso; revert hok; cases A0 <;> cases b1 <;> cases b2 <;> decide)
      obtain rfl : A0 = true := by cases A0 <;> first | rfl | (exfalso; revert hok; cases b1 <;> cases b2 <;> decide)
      obtain ⟨a', c', ev, hRs⟩ := hJ.f6 rfl rfl
      have hc := ivl_raw (cap := cap) (m := m + 1) (cap2 := c') (hC.later hJ.below) hn hl hRs (by simp [hm]) (by omega) hD hE hk
      refine st_call (o := op5_10) rfl rfl (ex_call Try.func14 (by kernel_rfl) (by kernel_rfl) rfl) ?_
      have ea : (#[Operand.tmp 47, .tmp 53, .tmp 54, .tmp 55, .tmp 56].map a.eval : Array Value) = #[.slice ac n cap, .slice a' (m + 1) c', .int .i64 s, .int .i64 r, .int .i64 d] := by
        simp only [List.map_toArray, List.map_cons, List.map_nil]
        show #[sl a 47, sl a 53, sl a 54, sl a 55, sl a 56] = _
        rw [k47, ev, k54, k55, k56]
      rw [ea]
      refine hc.mono ?_
      rintro e w' ⟨q1, q2, q3, q4, q5, q6, q7, q8, q9, y1, y2, y3, rfl, i1, i2, i3, i4, hb, h1, h2, h3, h4⟩
      have hJ' := hJ.cs hb i1 i2 i3 i4 h1 h2 h3 h4
      refine ⟨_, rfl, hS _ hJ'.below, ?_⟩
      obtain ⟨k2, rfl⟩ : ∃ k2, k' = k2 + 4 := ⟨k' - 4, by unfold fu5 at hk0; simp at hk0; omega⟩
      show wpAnyH Try.prog .any ops5 Q S _ _ (a.put (some 57) (.tuple #[.agg #[.int .i64 DD.s, .slice q1 q2 q3, .int .i64 DD.t, .slice q4 q5 q6], .agg #[.int .i64 EE.s, .slice q7 q8 q9, .int .i64 EE.t, .slice y1 y2 y3], .bool kk])) w'
      have x11 : sl (a.put (some 57) (.tuple #[.agg #[.int .i64 DD.s, .slice q1 q2 q3, .int .i64 DD.t, .slice q4 q5 q6], .agg #[.int .i64 EE.s, .slice q7 q8 q9, .int .i64 EE.t, .slice y1 y2 y3], .bool kk])) 57 = (.tuple #[.agg #[.int .i64 DD.s, .slice q1 q2 q3, .int .i64 DD.t, .slice q4 q5 q6], .agg #[.int .i64 EE.s, .slice q7 q8 q9, .int .i64 EE.t, .slice y1 y2 y3], .bool kk]) := by simp [sl_put, s57]
      unfold sl at x11
      rw [Array.getD_eq_getD_getElem?] at x11
      refine wpAnyH_take (i := 11) (oi := op5_11) (v := (.tuple #[.agg #[.int .i64 DD.s, .slice q1 q2 q3, .int .i64 DD.t, .slice q4 q5 q6], .agg #[.int .i64 EE.s, .slice q7 q8 q9, .int .i64 EE.t, .slice y1 y2 y3], .bool kk])) rfl nos5 (fr5_11 _ _) (rc5_11 _ _) (fun _ _ _ h => hQp _ _ _ _ _ h) (Or.inl ⟨by simp [op5_11, Region.wanted], fun w _ => by simp [op5_11, execOp, go_sem, Act.eval, s57]⟩) (hS _ hJ'.below) ?_
      show wpAnyH Try.prog .any ops5 Q S _ _ ((a.put (some 57) (.tuple #[.agg #[.int .i64 DD.s, .slice q1 q2 q3, .int .i64 DD.t, .slice q4 q5 q6], .agg #[.int .i64 EE.s, .slice q7 q8 q9, .int .i64 EE.t, .slice y1 y2 y3], .bool kk])).put (some 46) (.tuple #[.agg #[.int .i64 DD.s, .slice q1 q2 q3, .int .i64 DD.t, .slice q4 q5 q6], .agg #[.int .i64 EE.s, .slice q7 q8 q9, .int .i64 EE.t, .slice y1 y2 y3], .bool kk])) w'
      have x12 : sl ((a.put (some 57) (.tuple #[.agg #[.int .i64 DD.s, .slice q1 q2 q3, .int .i64 DD.t, .slice q4 q5 q6], .agg #[.int .i64 EE.s, .slice q7 q8 q9, .int .i64 EE.t, .slice y1 y2 y3], .bool kk])).put (some 46) (.tuple #[.agg #[.int .i64 DD.s, .slice q1 q2 q3, .int .i64 DD.t, .slice q4 q5 q6], .agg #[.int .i64 EE.s, .slice q7 q8 q9, .int .i64 EE.t, .slice y1 y2 y3], .bool kk])) 46 = (.tuple #[.agg #[.int .i64 DD.s, .slice q1 q2 q3, .int .i64 DD.t, .slice q4 q5 q6], .agg #[.int .i64 EE.s, .slice q7 q8 q9, .int .i64 EE.t, .slice y1 y2 y3], .bool kk]) := by simp [sl_put, put_size, s46]
      unfold sl at x12
      rw [Array.getD_eq_getD_getElem?] at x12
      refine wpAnyH_take (i := 12) (oi := op5_12) (v := (.agg #[.int .i64 DD.s, .slice q1 q2 q3, .int .i64 DD.t, .slice q4 q5 q6])) rfl nos5 (fr5_12 _ _) (rc5_12 _ _) (fun _ _ _ h => hQp _ _ _ _ _ h) (Or.inl ⟨by simp [op5_12, Region.wanted], fun w _ => by simp [op5_12, execOp, Instr.extract, go_sem, Act.eval, s46]⟩) (hS _ hJ'.below) ?_
      show wpAnyH Try.prog .any ops5 Q S _ _ (((a.put (some 57) (.tuple #[.agg #[.int .i64 DD.s, .slice q1 q2 q3, .int .i64 DD.t, .slice q4 q5 q6], .agg #[.int .i64 EE.s, .slice q7 q8 q9, .int .i64 EE.t, .slice y1 y2 y3], .bool kk])).put (some 46) (.tuple #[.agg #[.int .i64 DD.s, .slice q1 q2 q3, .int .i64 DD.t, .slice q4 q5 q6], .agg #[.int .i64 EE.s, .slice q7 q8 q9, .int .i64 EE.t, .slice y1 y2 y3], .bool kk])).put (some 58) (.agg #[.int .i64 DD.s, .slice q1 q2 q3, .int .i64 DD.t, .slice q4 q5 q6])) w'
      have x13 : sl (((a.put (some 57) (.tuple #[.agg #[.int .i64 DD.s, .slice q1 q2 q3, .int .i64 DD.t, .slice q4 q5 q6], .agg #[.int .i64 EE.s, .slice q7 q8 q9, .int .i64 EE.t, .slice y1 y2 y3], .bool kk])).put (some 46) (.tuple #[.agg #[.int .i64 DD.s, .slice q1 q2 q3, .int .i64 DD.t, .slice q4 q5 q6], .agg #[.int .i64 EE.s, .slice q7 q8 q9, .int .i64 EE.t, .slice y1 y2 y3], .bool kk])).put (some 58) (.agg #[.int .i64 DD.s, .slice q1 q2 q3, .int .i64 DD.t, .slice q4 q5 q6])) 46 = (.tuple #[.agg #[.int .i64 DD.s, .slice q1 q2 q3, .int .i64 DD.t, .slice q4 q5 q6], .agg #[.int .i64 EE.s, .slice q7 q8 q9, .int .i64 EE.t, .slice y1 y2 y3], .bool kk]) := by simp [sl_put, put_size, s46, s58]
      unfold sl at x13
      rw [Array.getD_eq_getD_getElem?] at x13
      refine wpAnyH_take (i := 13) (oi := op5_13) (v := (.agg #[.int .i64 EE.s, .slice q7 q8 q9, .int .i64 EE.t, .slice y1 y2 y3])) rfl nos5 (fr5_13 _ _) (rc5_13 _ _) (fun _ _ _ h => hQp _ _ _ _ _ h) (Or.inl ⟨by simp [op5_13, Region.wanted], fun w _ => by simp [op5_13, execOp, Instr.extract, go_sem, Act.eval, s46]⟩) (hS _ hJ'.below) ?_
      show wpAnyH Try.prog .any ops5 Q S _ _ ((((a.put (some 57) (.tuple #[.agg #[.int .i64 DD.s, .slice q1 q2 q3, .int .i64 DD.t, .slice q4 q5 q6], .agg #[.int .i64 EE.s, .slice q7 q8 q9, .int .i64 EE.t, .slice y1 y2 y3], .bool kk])).put (some 46) (.tuple #[.agg #[.int .i64 DD.s, .slice q1 q2 q3, .int .i64 DD.t, .slice q4 q5 q6], .agg #[.int .i64 EE.s, .slice q7 q8 q9, .int .i64 EE.t, .slice y1 y2 y3], .bool kk])).put (some 58) (.agg #[.int .i64 DD.s, .slice q1 q2 q3, .int .i64 DD.t, .slice q4 q5 q6])).put (some 59) (.agg #[.int .i64 EE.s, .slice q7 q8 q9, .int .i64 EE.t, .slice y1 y2 y3])) w'
      have x14 : sl ((((a.put (some 57) (.tuple #[.agg #[.int .i64 DD.s, .slice q1 q2 q3, .int .i64 DD.t, .slice q4 q5 q6], .agg #[.int .i64 EE.s, .slice q7 q8 q9, .int .i64 EE.t, .slice y1 y2 y3], .bool kk])).put (some 46) (.tuple #[.agg #[.int .i64 DD.s, .slice q1 q2 q3, .int .i64 DD.t, .slice q4 q5 q6], .agg #[.int .i64 EE.s, .slice q7 q8 q9, .int .i64 EE.t, .slice y1 y2 y3], .bool kk])).put (some 58) (.agg #[.int .i64 DD.s, .slice q1 q2 q3, .int .i64 DD.t, .slice q4 q5 q6])).put (some 59) (.agg #[.int .i64 EE.s, .slice q7 q8 q9, .int .i64 EE.t, .slice y1 y2 y3])) 46 = (.tuple #[.agg #[.int .i64 DD.s, .slice q1 q2 q3, .int .i64 DD.t, .slice q4 q5 q6], .agg #[.int .i64 EE.s, .slice q7 q8 q9, .int .i64 EE.t, .slice y1 y2 y3], .bool kk]) := by simp [sl_put, put_size, s46, s58, s59]
      unfold sl at x14
      rw [Array.getD_eq_getD_getElem?] at x14
      refine wpAnyH_take (i := 14) (oi := op5_14) (v := (.bool kk)) rfl nos5 (fr5_14 _ _) (rc5_14 _ _) (fun _ _ _ h => hQp _ _ _ _ _ h) (Or.inl ⟨by simp [op5_14, Region.wanted], fun w _ => by simp [op5_14, execOp, Instr.extract, go_sem, Act.eval, s46]⟩) (hS _ hJ'.below) ?_
      show wpAnyH Try.prog .any ops5 Q S _ _ (((((a.put (some 57) (.tuple #[.agg #[.int .i64 DD.s, .slice q1 q2 q3, .int .i64 DD.t, .slice q4 q5 q6], .agg #[.int .i64 EE.s, .slice q7 q8 q9, .int .i64 EE.t, .slice y1 y2 y3], .bool kk])).put (some 46) (.tuple #[.agg #[.int .i64 DD.s, .slice q1 q2 q3, .int .i64 DD.t, .slice q4 q5 q6], .agg #[.int .i64 EE.s, .slice q7 q8 q9, .int .i64 EE.t, .slice y1 y2 y3], .bool kk])).put (some 58) (.agg #[.int .i64 DD.s, .slice q1 q2 q3, .int .i64 DD.t, .slice q4 q5 q6])).put (some 59) (.agg #[.int .i64 EE.s, .slice q7 q8 q9, .int .i64 EE.t, .slice y1 y2 y3])).put (some 60) (.bool kk)) w'
      refine ih k2 (by omega) true true true true true b1 b2 (((((a.put (some 57) (.tuple #[.agg #[.int .i64 DD.s, .slice q1 q2 q3, .int .i64 DD.t, .slice q4 q5 q6], .agg #[.int .i64 EE.s, .slice q7 q8 q9, .int .i64 EE.t, .slice y1 y2 y3], .bool kk])).put (some 46) (.tuple #[.agg #[.int .i64 DD.s, .slice q1 q2 q3, .int .i64 DD.t, .slice q4 q5 q6], .agg #[.int .i64 EE.s, .slice q7 q8 q9, .int .i64 EE.t, .slice y1 y2 y3], .bool kk])).put (some 58) (.agg #[.int .i64 DD.s, .slice q1 q2 q3, .int .i64 DD.t, .slice q4 q5 q6])).put (some 59) (.agg #[.int .i64 EE.s, .slice q7 q8 q9, .int .i64 EE.t, .slice y1 y2 y3])).put (some 60) (.bool kk)) w' (by unfold fu5 at *; simp at *; omega) (by revert hok; cases b1 <;> cases b2 <;> decide) ?_ ?_
      · exact ((((hkp.put (d := 57) (by decide) (by omega) _).put (d := 46) (by decide) (by omega) _).put (d := 58) (by decide) (by omega) _).put (d := 59) (by decide) (by omega) _).put (d := 60) (by decide) (by omega) _
      · simpa [sl_put, put_size, s19, s20, s21, s46, s48, s50, s52, s53, s57, s58, s59, s60] using hJ'
    · have hn' := ih k' (by omega) A0 P1 A1 P2 C true b2 (a.put (some 19) (.pointer (some ⟨w.heap.size, 0, none⟩))) (w.alloc (.cells #[.int .i64 0, .slice none 0 0, .int .i64 0, .slice none 0 0] 34)) (by unfold fu5 at *; simp at *; omega) (by revert hok; cases A0 <;> cases P1 <;> cases A1 <;> cases P2 <;> cases C <;> cases b2 <;> decide) (hkp.put (by decide) (by omega) _) (by rw [sl_ne (j := 48) s19 rfl, sl_ne (j := 50) s19 rfl, sl_ne (j := 52) s19 rfl, sl_ne (j := 53) s19 rfl, sl_ne (j := 58) s19 rfl, sl_ne (j := 59) s19 rfl, sl_ne (j := 60) s19 rfl, sl_at s19, sl_ne (j := 20) s19 rfl]; exact hJ.b1s)
      exact st_val (o := op5_15) rfl rfl (by simp [op5_15, execOp, Instr.alloc, go_sem]) ⟨hS _ hJ.b1s.below, hn'⟩
    · have hn' := ih k' (by omega) A0 P1 A1 P2 C b1 true (a.put (some 20) (.pointer (some ⟨w.heap.size, 0, none⟩))) (w.alloc (.cells #[.int .i64 0, .slice none 0 0, .int .i64 0, .slice none 0 0] 34)) (by unfold fu5 at *; simp at *; omega) (by revert hok; cases A0 <;> cases P1 <;> cases A1 <;> cases P2 <;> cases C <;> cases b1 <;> decide) (hkp.put (by decide) (by omega) _) (by rw [sl_ne (j := 48) s20 rfl, sl_ne (j := 50) s20 rfl, sl_ne (j := 52) s20 rfl, sl_ne (j := 53) s20 rfl, sl_ne (j := 58) s20 rfl, sl_ne (j := 59) s20 rfl, sl_ne (j := 60) s20 rfl, sl_ne (j := 19) s20 rfl, sl_at s20]; exact hJ.b2s)
      exact st_val (o := op5_16) rfl rfl (by simp [op5_16, execOp, Instr.alloc, go_sem]) ⟨hS _ hJ.b2s.below, hn'⟩
  · obtain ⟨rfl, rfl, rfl, rfl, rfl, rfl, rfl⟩ : A0 = true ∧ P1 = true ∧ A1 = true ∧ P2 = true ∧ C = true ∧ b1 = true ∧ b2 = true := by unfold fin5 at hf; simpa [and_assoc] using hf
    obtain rfl : k = 3 := hk0
    clear hok hf ih
    obtain ⟨e60, q1, q2, q3, q4, q5, q6, q7, q8, q9, y1, y2, y3, e58, e59, i1, i2, i3, i4⟩ := hJ.f10 rfl
    obtain ⟨g1, e19, hg1, hf1, _, ho1⟩ := hJ.f15 rfl
    obtain ⟨g2, e20, hg2, hf2, _, ho2⟩ := hJ.f16 rfl
    have hne : g1 ≠ g2 := fun e => hJ.ne rfl rfl (by rw [e19, e20, e])
    have off : ∀ g, agOff (sl a 58) g ∧ agOff (sl a 59) g → ∀ f ∈ [((.slice q1 q2 q3 : Value), DD.l), (.slice q4 q5 q6, DD.k), (.slice q7 q8 q9, EE.l), (.slice y1 y2 y3, EE.k)], Off f.1 g := fun g hg f hf => by
      rw [e58, e59] at hg
      obtain ⟨⟨_, _, _, _, z1, o1, o2⟩, ⟨_, _, _, _, z2, o3, o4⟩⟩ := hg
      cases z1
      cases z2
      simp only [List.mem_cons, List.not_mem_nil, or_false] at hf
      rcases hf with rfl | rfl | rfl | rfl
      · exact o1
      · exact o2
      · exact o3
      · exact o4
    have hi : ∀ f ∈ [((.slice q1 q2 q3 : Value), DD.l), (.slice q4 q5 q6, DD.k), (.slice q7 q8 q9, EE.l), (.slice y1 y2 y3, EE.k)], Ints w f.1 f.2 := fun f hf => by
      simp only [List.mem_cons, List.not_mem_nil, or_false] at hf
      rcases hf with rfl | rfl | rfl | rfl
      · exact i1
      · exact i2
      · exact i3
      · exact i4
    have S1 := Sf.set4 (pre := []) (post := []) (mkSf hJ.below hg1 hf1 hi (off g1 (ho1 rfl))) (.int .i64 DD.s) (.slice q1 q2 q3) (.int .i64 DD.t) (.slice q4 q5 q6)
    have hf2' := fb_grown hf2 (grown4 w g1 (.int .i64 DD.s) (.slice q1 q2 q3) (.int .i64 DD.t) (.slice q4 q5 q6)) (by simpa using hne)
    have S2 := Sf.set4 (pre := []) (post := []) (mkSf S1.below hg2 hf2' S1.ints (off g2 (ho2 rfl))) (.int .i64 EE.s) (.slice q7 q8 q9) (.int .i64 EE.t) (.slice y1 y2 y3)
    have hf1' := fb_grown (S1.box _ List.mem_cons_self) (grown4 _ g2 (.int .i64 EE.s) (.slice q7 q8 q9) (.int .i64 EE.t) (.slice y1 y2 y3)) (by simpa using hne.symm)
    refine ⟨fun h => absurd h (by rw [e5_17]; simp), fun i hi => ?_⟩
    rw [e5_17] at hi
    obtain rfl := List.mem_singleton.1 hi
    clear hi
    refine st_skip (o := op5_17) rfl rfl (store_run rfl e19 e58 hf1 (by decide) (by simp [Value.oneCell'])) ⟨hS _ S1.below, ?_⟩
    refine ⟨fun h => absurd h (by rw [e5_18]; simp), fun i hi => ?_⟩
    rw [e5_18] at hi
    obtain rfl := List.mem_singleton.1 hi
    clear hi
    refine st_skip (o := op5_18) rfl rfl (store_run rfl e20 e59 hf2' (by decide) (by simp [Value.oneCell'])) ⟨hS _ S2.below, ?_⟩
    refine ⟨fun h => absurd h (by rw [e5_19]; simp), fun i hi => ?_⟩
    rw [e5_19] at hi
    obtain rfl := List.mem_singleton.1 hi
    clear hi
    refine st_still (o := op5_19) (v := .bool kk) rfl rfl (by
      have kx := e60
      unfold sl at kx
      rw [Array.getD_eq_getD_getElem?] at kx
      simp [op5_19, op5_17, op5_18, execOp, go_sem, Act.put, Act.eval, kx]) ⟨hS _ S2.below, ?_⟩
    refine ⟨e5_end, ?_⟩
    have hfin := hQ (sl a 46) (sl a 48) (sl a 50) (sl a 52) (sl a 53) (sl a 57) q1 q4 q7 y1 q2 q3 q5 q6 q8 q9 y2 y3 g1 g2 _ S2.below hf1' (S2.box _ List.mem_cons_self) (S2.ints (.slice q1 q2 q3, DD.l) (by simp)) (S2.ints (.slice q4 q5 q6, DD.k) (by simp)) (S2.ints (.slice q7 q8 q9, EE.l) (by simp)) (S2.ints (.slice y1 y2 y3, EE.k) (by simp))
    have t19 : 19 < a0.tmps.size := by omega
    have t20 : 20 < a0.tmps.size := by omega
    have t21 : 21 < a0.tmps.size := by omega
    have t46 : 46 < a0.tmps.size := by omega
    have t48 : 48 < a0.tmps.size := by omega
    have t50 : 50 < a0.tmps.size := by omega
    have t52 : 52 < a0.tmps.size := by omega
    have t53 : 53 < a0.tmps.size := by omega
    have t57 : 57 < a0.tmps.size := by omega
    have t58 : 58 < a0.tmps.size := by omega
    have t59 : 59 < a0.tmps.size := by omega
    have t60 : 60 < a0.tmps.size := by omega
    have hact : (a.put (some 21) (.bool kk)) = ((((((((((((a0.put (some 46) ((sl a 46))).put (some 48) ((sl a 48))).put (some 50) ((sl a 50))).put (some 52) ((sl a 52))).put (some 53) ((sl a 53))).put (some 57) ((sl a 57))).put (some 58) (.agg #[.int .i64 DD.s, .slice q1 q2 q3, .int .i64 DD.t, .slice q4 q5 q6])).put (some 59) (.agg #[.int .i64 EE.s, .slice q7 q8 q9, .int .i64 EE.t, .slice y1 y2 y3])).put (some 60) (.bool kk)).put (some 19) (.pointer (some ⟨g1, 0, none⟩))).put (some 20) (.pointer (some ⟨g2, 0, none⟩))).put (some 21) (.bool kk)) := by
      refine act_ext (by simp [put_size, hkp.size]) (by simp [put_defers, hkp.df]) fun j => ?_
      by_cases h19 : j = 19
      · subst h19; simp [sl_put, put_size, s21, t19, t20, t21, e19]
      by_cases h20 : j = 20
      · subst h20; simp [sl_put, put_size, s21, t20, t21, e20]
      by_cases h21 : j = 21
      · subst h21; simp [sl_put, put_size, s21, t21]
      by_cases h46 : j = 46
      · subst h46; simp [sl_put, put_size, s21, t19, t20, t21, t46, t48, t50, t52, t53, t57, t58, t59, t60]
      by_cases h48 : j = 48
      · subst h48; simp [sl_put, put_size, s21, t19, t20, t21, t48, t50, t52, t53, t57, t58, t59, t60]
      by_cases h50 : j = 50
      · subst h50; simp [sl_put, put_size, s21, t19, t20, t21, t50, t52, t53, t57, t58, t59, t60]
      by_cases h52 : j = 52
      · subst h52; simp [sl_put, put_size, s21, t19, t20, t21, t52, t53, t57, t58, t59, t60]
      by_cases h53 : j = 53
      · subst h53; simp [sl_put, put_size, s21, t19, t20, t21, t53, t57, t58, t59, t60]
      by_cases h57 : j = 57
      · subst h57; simp [sl_put, put_size, s21, t19, t20, t21, t57, t58, t59, t60]
      by_cases h58 : j = 58
      · subst h58; simp [sl_put, put_size, s21, t19, t20, t21, t58, t59, t60, e58]
      by_cases h59 : j = 59
      · subst h59; simp [sl_put, put_size, s21, t19, t20, t21, t59, t60, e59]
      by_cases h60 : j = 60
      · subst h60; simp [sl_put, put_size, s21, t19, t20, t21, t60, e60]
      have hj : j ∉ ([19, 20, 21, 46, 48, 50, 52, 53, 57, 58, 59, 60] : List Nat) := by simp [h19, h20, h21, h46, h48, h50, h52, h53, h57, h58, h59, h60]
      simp [sl_put, put_size, s21, t19, t20, t21, t46, t48, t50, t52, t53, t57, t58, t59, t60, h19, h20, h21, h46, h48, h50, h52, h53, h57, h58, h59, h60, hkp.keep j hj]
    have hgo : ∀ {x y : Act} {W : World}, x = y → Q .normal y W → Q .normal x W := fun e h => by rw [e]; exact h
    exact hgo hact hfin
theorem fr18_9 : Region.free .any ops18 ((ls18 true true true true false).setIfInBounds 8 true) 9 = true := by decide +kernel
theorem rc18_9 : (Region.ready .any ops18 ((ls18 true true true true false).setIfInBounds 8 true)).contains 9 = true := by decide +kernel
theorem fr18_10 : Region.free .any ops18 (((ls18 true true true true false).setIfInBounds 8 true).setIfInBounds 9 true) 10 = true := by decide +kernel
theorem rc18_10 : (Region.ready .any ops18 (((ls18 true true true true false).setIfInBounds 8 true).setIfInBounds 9 true)).contains 10 = true := by decide +kernel
theorem fr18_11 : Region.free .any ops18 ((((ls18 true true true true false).setIfInBounds 8 true).setIfInBounds 9 true).setIfInBounds 10 true) 11 = true := by decide +kernel
theorem rc18_11 : (Region.ready .any ops18 ((((ls18 true true true true false).setIfInBounds 8 true).setIfInBounds 9 true).setIfInBounds 10 true)).contains 11 = true := by decide +kernel
theorem nos18 : Region.noSelect ops18 = true := by decide +kernel
theorem e18_12 : Region.ready .any ops18 (ls18 true true true true true) = [12] := by decide +kernel
theorem e18_13 : Region.ready .any ops18 ((ls18 true true true true true).setIfInBounds 12 true) = [13] := by decide +kernel
theorem e18_end : Region.ready .any ops18 (((ls18 true true true true true).setIfInBounds 12 true).setIfInBounds 13 true) = [] := by decide +kernel

set_option maxHeartbeats 16000000 in
theorem region18 {Q : Exit → Act → World → Prop} {S : World → Prop} {a0 : Act} {w0 : World} {m : Nat} {rl : List (Ct)} {x : Ct} {fi : Nat} {fk : Bool} (hQp : ∀ (d : Option Tmp) (v : Value) (ch : List PanicEntry) (a : Act) (w : World), Q (.panic ch) (a.put d v) w → Q (.panic ch) a w) (hS : ∀ W, RowKit.Below w0.heap.size w0 W → S W) (hs0 : 160 < a0.tmps.size) {ar : Option Addr} {cr : Nat} {s d : Int} (e151 : sl a0 151 = .slice ar m cr) (e153 : sl a0 153 = .agg #[.int .i64 x.sc, .int .i64 x.fr, .int .i64 x.un, .int .i64 x.ut, .int .i64 x.pm, .int .i64 x.dr]) (e156 : sl a0 156 = .int .i64 s) (e157 : sl a0 157 = .int .i64 d)
    (hR : Cs w0 ar rl) (hm : rl.length = m) (hm1 : m ≤ 1000) (hD : fI s d (rl ++ [x]) = fi) (hE : fB s d (rl ++ [x]) = fk)
    (hQ : ∀ (v149 v48 v50 v52 v53 v57 : Value) (w' : World), RowKit.Below w0.heap.size w0 w' → Q .normal ((((((((((a0.put (some 149) (v149)).put (some 150) (v48)).put (some 152) (v50)).put (some 154) (v52)).put (some 155) (v53)).put (some 158) (v57)).put (some 159) (.int .i64 (fi : Int))).put (some 160) (.bool fk)).put (some 24) (.int .i64 (fi : Int))).put (some 25) (.bool fk)) w') :
    ∀ (k : Nat) (A0 P1 A1 P2 C : Bool) (a : Act) (w : World), k = fu18 A0 P1 A1 P2 C → ok18 A0 P1 A1 P2 C = true → Kp [24, 25, 149, 150, 152, 154, 155, 158, 159, 160] a0 a → J18 w0 m rl x fi fk A0 P1 A1 P2 C (sl a 150) (sl a 152) (sl a 154) (sl a 155) (sl a 159) (sl a 160) w → wpAnyH Try.prog .any ops18 Q S k (ls18 A0 P1 A1 P2 C) a w := by
  intro k
  induction k using Nat.strongRecOn with
  | ind k ih =>
  intro A0 P1 A1 P2 C a w hk0 hok hkp hJ
  have s24 : 24 < a.tmps.size := by rw [hkp.size]; omega
  have s25 : 25 < a.tmps.size := by rw [hkp.size]; omega
  have s149 : 149 < a.tmps.size := by rw [hkp.size]; omega
  have s150 : 150 < a.tmps.size := by rw [hkp.size]; omega
  have s152 : 152 < a.tmps.size := by rw [hkp.size]; omega
  have s154 : 154 < a.tmps.size := by rw [hkp.size]; omega
  have s155 : 155 < a.tmps.size := by rw [hkp.size]; omega
  have s158 : 158 < a.tmps.size := by rw [hkp.size]; omega
  have s159 : 159 < a.tmps.size := by rw [hkp.size]; omega
  have s160 : 160 < a.tmps.size := by rw [hkp.size]; omega
  have k151 : sl a 151 = _ := (hkp.keep 151 (by decide)).trans e151
  have k153 : sl a 153 = _ := (hkp.keep 153 (by decide)).trans e153
  have k156 : sl a 156 = _ := (hkp.keep 156 (by decide)).trans e156
  have k157 : sl a 157 = _ := (hkp.keep 157 (by decide)).trans e157
  rcases hf : fin18 A0 P1 A1 P2 C with _ | _
  · obtain ⟨k', rfl⟩ : ∃ k', k = k' + 1 := ⟨k - 1, by unfold fu18 at hk0; omega⟩
    refine ⟨fun h => absurd h (rdyne18 _ _ _ _ _ hok hf), fun i hi => ?_⟩
    have hi := rdy18 _ _ _ _ _ hok hf i hi
    clear hf
    rcases hi with ⟨rfl, rfl⟩ | ⟨rfl, rfl, rfl⟩ | ⟨rfl, rfl⟩ | ⟨rfl, rfl, rfl, rfl⟩ | ⟨rfl, rfl, rfl⟩
    · have hn' := ih k' (by omega) true P1 A1 P2 C (a.put (some 150) (.slice (some ⟨w.heap.size, 0, none⟩) 0 0)) (w.alloc (.cells #[] 25)) (by unfold fu18 at *; simp at *; omega) (by revert hok; cases P1 <;> cases A1 <;> cases P2 <;> cases C <;> decide) (hkp.put (by decide) (by omega) _) (by rw [sl_at s150, sl_ne (j := 152) s150 rfl, sl_ne (j := 154) s150 rfl, sl_ne (j := 155) s150 rfl, sl_ne (j := 159) s150 rfl, sl_ne (j := 160) s150 rfl]; exact hJ.a0)
      exact st_val (o := op18_0) rfl rfl (by simp [op18_0, execOp, Instr.buildSlice, go_sem]) ⟨hS _ hJ.a0.below, hn'⟩
    · skip
      obtain rfl : P2 = false := by cases P2 <;> first | rfl | (exfalso; revert hok; cases A1 <;> cases C <;> decide)
      obtain rfl : C = false := by cases C <;> first | rfl | (exfalso; revert hok; cases A1 <;> decide)
      obtain ⟨a', c', w', hrun, hJ'⟩ := hJ.p1 (cr := cr) (hR.later hJ.below) hm hm1
      have hn' := ih k' (by omega) true true A1 false false (a.put (some 152) (.slice a' m c')) w' (by unfold fu18 at *; simp at *; omega) (by revert hok; cases A1 <;> decide) (hkp.put (by decide) (by omega) _) (by rw [sl_ne (j := 150) s152 rfl, sl_at s152, sl_ne (j := 154) s152 rfl, sl_ne (j := 155) s152 rfl, sl_ne (j := 159) s152 rfl, sl_ne (j := 160) s152 rfl]; exact hJ')
      exact st_val (o := op18_2) rfl rfl (ex_append (.tmp 150) (.tmp 151) _ _ rfl (sl a 150) (.slice ar m cr) rfl k151 (hrun _)) ⟨hS _ hJ'.below, hn'⟩
    · have hn' := ih k' (by omega) A0 P1 true P2 C (a.put (some 154) (.slice (some ⟨w.heap.size, 0, none⟩) 1 1)) (w.alloc (.cells #[.int .i64 x.sc, .int .i64 x.fr, .int .i64 x.un, .int .i64 x.ut, .int .i64 x.pm, .int .i64 x.dr] 25)) (by unfold fu18 at *; simp at *; omega) (by revert hok; cases A0 <;> cases P1 <;> cases P2 <;> cases C <;> decide) (hkp.put (by decide) (by omega) _) (by rw [sl_ne (j := 150) s154 rfl, sl_ne (j := 152) s154 rfl, sl_at s154, sl_ne (j := 155) s154 rfl, sl_ne (j := 159) s154 rfl, sl_ne (j := 160) s154 rfl]; exact hJ.a1)
      have kx := k153
      unfold sl at kx
      rw [Array.getD_eq_getD_getElem?] at kx
      exact st_val (o := op18_4) rfl rfl (by simp [op18_4, execOp, Instr.buildSlice, go_sem, Act.eval, kx]) ⟨hS _ hJ.a1.below, hn'⟩
    · skip
      obtain rfl : C = false := by cases C <;> first | rfl | (exfalso; revert hok; cases A0 <;> decide)
      obtain ⟨a', c', w', hrun, hJ'⟩ := hJ.p2 hm1
      have hn' := ih k' (by omega) A0 true true true false (a.put (some 155) (.slice a' (m + 1) c')) w' (by unfold fu18 at *; simp at *; omega) (by revert hok; cases A0 <;> decide) (hkp.put (by decide) (by omega) _) (by rw [sl_ne (j := 150) s155 rfl, sl_ne (j := 152) s155 rfl, sl_ne (j := 154) s155 rfl, sl_at s155, sl_ne (j := 159) s155 rfl, sl_ne (j := 160) s155 rfl]; exact hJ')
      exact st_val (o := op18_5) rfl rfl (ex_append (.tmp 152) (.tmp 154) _ _ rfl (sl a 152) (sl a 154) rfl rfl (hrun _)) ⟨hS _ hJ'.below, hn'⟩
    · skip
      obtain rfl : P1 = true := by cases P1 <;> first | rfl | (exfalso; revert hok; cases A0 <;> cases A1 <;> decide)
      obtain rfl : A1 = true := by cases A1 <;> first | rfl | (exfalso; revert hok; cases A0 <;> decide)
      obtain rfl : A0 = true := by cases A0 <;> first | rfl | (exfalso; revert hok; decide)
      obtain ⟨a', c', ev, hRs⟩ := hJ.f6 rfl rfl
      have hc := find_any (n := m + 1) (cap := c') hRs (by simp [hm]) (by omega) hD hE
      refine st_call (o := op18_8) rfl rfl (ex_call Try.func10 (by kernel_rfl) (by kernel_rfl) rfl) ?_
      have ea : (#[Operand.tmp 155, .tmp 156, .tmp 157].map a.eval : Array Value) = #[.slice a' (m + 1) c', .int .i64 s, .int .i64 d] := by
        simp only [List.map_toArray, List.map_cons, List.map_nil]
        show #[sl a 155, sl a 156, sl a 157] = _
        rw [ev, k156, k157]
      rw [ea]
      refine hc.mono ?_
      rintro e w' ⟨rfl, hb⟩
      have hJ' := hJ.cs hb
      refine ⟨_, rfl, hS _ hJ'.below, ?_⟩
      obtain ⟨k2, rfl⟩ : ∃ k2, k' = k2 + 3 := ⟨k' - 3, by unfold fu18 at hk0; simp at hk0; omega⟩
      show wpAnyH Try.prog .any ops18 Q S _ _ (a.put (some 158) (.tuple #[.int .i64 (fi : Int), .bool fk])) w'
      have x9 : sl (a.put (some 158) (.tuple #[.int .i64 (fi : Int), .bool fk])) 158 = (.tuple #[.int .i64 (fi : Int), .bool fk]) := by simp [sl_put, s158]
      unfold sl at x9
      rw [Array.getD_eq_getD_getElem?] at x9
      refine wpAnyH_take (i := 9) (oi := op18_9) (v := (.tuple #[.int .i64 (fi : Int), .bool fk])) rfl nos18 (fr18_9) (rc18_9) (fun _ _ _ h => hQp _ _ _ _ _ h) (Or.inl ⟨by simp [op18_9, Region.wanted], fun w _ => by simp [op18_9, execOp, go_sem, Act.eval, s158]⟩) (hS _ hJ'.below) ?_
      show wpAnyH Try.prog .any ops18 Q S _ _ ((a.put (some 158) (.tuple #[.int .i64 (fi : Int), .bool fk])).put (some 149) (.tuple #[.int .i64 (fi : Int), .bool fk])) w'
      have x10 : sl ((a.put (some 158) (.tuple #[.int .i64 (fi : Int), .bool fk])).put (some 149) (.tuple #[.int .i64 (fi : Int), .bool fk])) 149 = (.tuple #[.int .i64 (fi : Int), .bool fk]) := by simp [sl_put, put_size, s149]
      unfold sl at x10
      rw [Array.getD_eq_getD_getElem?] at x10
      refine wpAnyH_take (i := 10) (oi := op18_10) (v := (.int .i64 (fi : Int))) rfl nos18 (fr18_10) (rc18_10) (fun _ _ _ h => hQp _ _ _ _ _ h) (Or.inl ⟨by simp [op18_10, Region.wanted], fun w _ => by simp [op18_10, execOp, Instr.extract, go_sem, Act.eval, s149]⟩) (hS _ hJ'.below) ?_
      show wpAnyH Try.prog .any ops18 Q S _ _ (((a.put (some 158) (.tuple #[.int .i64 (fi : Int), .bool fk])).put (some 149) (.tuple #[.int .i64 (fi : Int), .bool fk])).put (some 159) (.int .i64 (fi : Int))) w'
      have x11 : sl (((a.put (some 158) (.tuple #[.int .i64 (fi : Int), .bool fk])).put (some 149) (.tuple #[.int .i64 (fi : Int), .bool fk])).put (some 159) (.int .i64 (fi : Int))) 149 = (.tuple #[.int .i64 (fi : Int), .bool fk]) := by simp [sl_put, put_size, s149, s159]
      unfold sl at x11
      rw [Array.getD_eq_getD_getElem?] at x11
      refine wpAnyH_take (i := 11) (oi := op18_11) (v := (.bool fk)) rfl nos18 (fr18_11) (rc18_11) (fun _ _ _ h => hQp _ _ _ _ _ h) (Or.inl ⟨by simp [op18_11, Region.wanted], fun w _ => by simp [op18_11, execOp, Instr.extract, go_sem, Act.eval, s149]⟩) (hS _ hJ'.below) ?_
      show wpAnyH Try.prog .any ops18 Q S _ _ ((((a.put (some 158) (.tuple #[.int .i64 (fi : Int), .bool fk])).put (some 149) (.tuple #[.int .i64 (fi : Int), .bool fk])).put (some 159) (.int .i64 (fi : Int))).put (some 160) (.bool fk)) w'
      refine ih k2 (by omega) true true true true true ((((a.put (some 158) (.tuple #[.int .i64 (fi : Int), .bool fk])).put (some 149) (.tuple #[.int .i64 (fi : Int), .bool fk])).put (some 159) (.int .i64 (fi : Int))).put (some 160) (.bool fk)) w' (by unfold fu18 at *; simp at *; omega) (by decide) ?_ ?_
      · exact (((hkp.put (d := 158) (by decide) (by omega) _).put (d := 149) (by decide) (by omega) _).put (d := 159) (by decide) (by omega) _).put (d := 160) (by decide) (by omega) _
      · simpa [sl_put, put_size, s24, s25, s149, s150, s152, s154, s155, s158, s159, s160] using hJ'
  · obtain ⟨rfl, rfl, rfl, rfl, rfl⟩ : A0 = true ∧ P1 = true ∧ A1 = true ∧ P2 = true ∧ C = true := by unfold fin18 at hf; simpa [and_assoc] using hf
    obtain rfl : k = 2 := hk0
    clear hok hf ih
    obtain ⟨e159, e160⟩ := hJ.f10 rfl
    refine ⟨fun h => absurd h (by rw [e18_12]; simp), fun i hi => ?_⟩
    rw [e18_12] at hi
    obtain rfl := List.mem_singleton.1 hi
    clear hi
    refine st_still (o := op18_12) (v := .int .i64 (fi : Int)) rfl rfl (by
      have kx := e159
      unfold sl at kx
      rw [Array.getD_eq_getD_getElem?] at kx
      simp [op18_12, execOp, go_sem, Act.eval, kx]) ⟨hS _ hJ.below, ?_⟩
    refine ⟨fun h => absurd h (by rw [e18_13]; simp), fun i hi => ?_⟩
    rw [e18_13] at hi
    obtain rfl := List.mem_singleton.1 hi
    clear hi
    refine st_still (o := op18_13) (v := .bool fk) rfl rfl (by
      have kx := e160
      unfold sl at kx
      rw [Array.getD_eq_getD_getElem?] at kx
      simp [op18_12, op18_13, execOp, go_sem, Act.put, Act.eval, kx]) ⟨hS _ hJ.below, ?_⟩
    refine ⟨e18_end, ?_⟩
    have hfin := hQ (sl a 149) (sl a 150) (sl a 152) (sl a 154) (sl a 155) (sl a 158) _ hJ.below
    have t24 : 24 < a0.tmps.size := by omega
    have t25 : 25 < a0.tmps.size := by omega
    have t149 : 149 < a0.tmps.size := by omega
    have t150 : 150 < a0.tmps.size := by omega
    have t152 : 152 < a0.tmps.size := by omega
    have t154 : 154 < a0.tmps.size := by omega
    have t155 : 155 < a0.tmps.size := by omega
    have t158 : 158 < a0.tmps.size := by omega
    have t159 : 159 < a0.tmps.size := by omega
    have t160 : 160 < a0.tmps.size := by omega
    have hact : ((a.put (some 24) (.int .i64 (fi : Int))).put (some 25) (.bool fk)) = ((((((((((a0.put (some 149) ((sl a 149))).put (some 150) ((sl a 150))).put (some 152) ((sl a 152))).put (some 154) ((sl a 154))).put (some 155) ((sl a 155))).put (some 158) ((sl a 158))).put (some 159) (.int .i64 (fi : Int))).put (some 160) (.bool fk)).put (some 24) (.int .i64 (fi : Int))).put (some 25) (.bool fk)) := by
      refine act_ext (by simp [put_size, hkp.size]) (by simp [put_defers, hkp.df]) fun j => ?_
      by_cases h24 : j = 24
      · subst h24; simp [sl_put, put_size, s24, s25, t24, t25]
      by_cases h25 : j = 25
      · subst h25; simp [sl_put, put_size, s25, t25]
      by_cases h149 : j = 149
      · subst h149; simp [sl_put, put_size, s24, s25, t24, t25, t149, t150, t152, t154, t155, t158, t159, t160]
      by_cases h150 : j = 150
      · subst h150; simp [sl_put, put_size, s24, s25, t24, t25, t150, t152, t154, t155, t158, t159, t160]
      by_cases h152 : j = 152
      · subst h152; simp [sl_put, put_size, s24, s25, t24, t25, t152, t154, t155, t158, t159, t160]
      by_cases h154 : j = 154
      · subst h154; simp [sl_put, put_size, s24, s25, t24, t25, t154, t155, t158, t159, t160]
      by_cases h155 : j = 155
      · subst h155; simp [sl_put, put_size, s24, s25, t24, t25, t155, t158, t159, t160]
      by_cases h158 : j = 158
      · subst h158; simp [sl_put, put_size, s24, s25, t24, t25, t158, t159, t160]
      by_cases h159 : j = 159
      · subst h159; simp [sl_put, put_size, s24, s25, t24, t25, t159, t160, e159]
      by_cases h160 : j = 160
      · subst h160; simp [sl_put, put_size, s24, s25, t24, t25, t160, e160]
      have hj : j ∉ ([24, 25, 149, 150, 152, 154, 155, 158, 159, 160] : List Nat) := by simp [h24, h25, h149, h150, h152, h154, h155, h158, h159, h160]
      simp [sl_put, put_size, s24, s25, t24, t25, t149, t150, t152, t154, t155, t158, t159, t160, h24, h25, h149, h150, h152, h154, h155, h158, h159, h160, hkp.keep j hj]
    have hgo : ∀ {x y : Act} {W : World}, x = y → Q .normal y W → Q .normal x W := fun e h => by rw [e]; exact h
    exact hgo hact hfin
end Go.Proofs.Ytmhjejnkphdjpaa.Sc
