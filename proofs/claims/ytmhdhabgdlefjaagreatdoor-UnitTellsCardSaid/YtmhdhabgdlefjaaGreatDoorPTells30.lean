/- The contracts of the reference of unit: Word. The contract of the reference of unit: power. Slices of items: append; the contract of the reference's Items. -/
import Derived.Test.YtmhdhabgdlefjaaGreatDoorPTells28
import Derived.Test.YtmhdhabgdlefjaaGreatDoorPTells25
import Derived.Lib.ReflectliteSwap
import Derived.Test.YtmhdhabgdlefjaaGreatDoorPTells27
set_option maxRecDepth 100000
namespace Go.Proofs.YtmhdhabgdlefjaaGreatDoor.Un
open Go.RowKit Bi Dm

/-- What Word gives. -/
def WordEnd (L : List UInt8) (w : World) (e : Ending) (w' : World) : Prop := match wordL L with
  | some (b, n, q) => UVB (up zf b n) q true w e w'
  | none => Gives (.tuple #[.agg (uc zf 0 (.slice none 0 0) 0 (.slice none 0 0)), .bool false]) w e w'
theorem word_none {L : List UInt8} (h : wordL L = none) {w : World} {e : Ending} {w' : World} (g : Gives (.tuple #[.agg (uc zf 0 (.slice none 0 0) 0 (.slice none 0 0)), .bool false]) w e w') : WordEnd L w e w' := by
  unfold WordEnd; rw [h]; exact g
theorem word_some {L : List UInt8} {b : Nat} {n : Int} {q : Rat} (h : wordL L = some (b, n, q)) {w : World} {e : Ending} {w' : World} (g : UVB (up zf b n) q true w e w') : WordEnd L w e w' := by
  unfold WordEnd; rw [h]; exact g
theorem u9sym_at (s : ByteArray) {b : Nat} {n : Int} {q : Rat} (h : symL s.data.toList = some (b, n, q)) (w : World) : Calls Tryz.prog 31 #[.string s] w (UVB (up zf b n) q true w) := u9sym_some _ h w
theorem sym_sz {l : List UInt8} {b : Nat} {n : Int} {q : Rat} (h : symL l = some (b, n, q)) : FSz 1 q ∧ 0 < q ∧ b < 6 := by
  unfold symL at h
  by_cases e0 : l = [103]
  · rw [if_pos e0] at h; injection h with h; injection h with h1 h2; injection h2 with h2 h3; subst h1 h3; exact ⟨FSz.one (by decide +kernel) (by decide +kernel), by decide +kernel, by decide⟩
  rw [if_neg e0] at h
  by_cases e1 : l = [116]
  · rw [if_pos e1] at h; injection h with h; injection h with h1 h2; injection h2 with h2 h3; subst h1 h3; exact ⟨FSz.one (by decide +kernel) (by decide +kernel), by decide +kernel, by decide⟩
  rw [if_neg e1] at h
  by_cases e2 : l = [109]
  · rw [if_pos e2] at h; injection h with h; injection h with h1 h2; injection h2 with h2 h3; subst h1 h3; exact ⟨FSz.one (by decide +kernel) (by decide +kernel), by decide +kernel, by decide⟩
  rw [if_neg e2] at h
  by_cases e3 : l = [108]
  · rw [if_pos e3] at h; injection h with h; injection h with h1 h2; injection h2 with h2 h3; subst h1 h3; exact ⟨FSz.one (by decide +kernel) (by decide +kernel), by decide +kernel, by decide⟩
  rw [if_neg e3] at h
  by_cases e4 : l = [115]
  · rw [if_pos e4] at h; injection h with h; injection h with h1 h2; injection h2 with h2 h3; subst h1 h3; exact ⟨FSz.one (by decide +kernel) (by decide +kernel), by decide +kernel, by decide⟩
  rw [if_neg e4] at h
  by_cases e5 : l = [104]
  · rw [if_pos e5] at h; injection h with h; injection h with h1 h2; injection h2 with h2 h3; subst h1 h3; exact ⟨FSz.one (by decide +kernel) (by decide +kernel), by decide +kernel, by decide⟩
  rw [if_neg e5] at h
  by_cases e6 : l = [100]
  · rw [if_pos e6] at h; injection h with h; injection h with h1 h2; injection h2 with h2 h3; subst h1 h3; exact ⟨FSz.one (by decide +kernel) (by decide +kernel), by decide +kernel, by decide⟩
  rw [if_neg e6] at h
  by_cases e7 : l = [74]
  · rw [if_pos e7] at h; injection h with h; injection h with h1 h2; injection h2 with h2 h3; subst h1 h3; exact ⟨FSz.one (by decide +kernel) (by decide +kernel), by decide +kernel, by decide⟩
  rw [if_neg e7] at h
  by_cases e8 : l = [87, 104]
  · rw [if_pos e8] at h; injection h with h; injection h with h1 h2; injection h2 with h2 h3; subst h1 h3; exact ⟨FSz.one (by decide +kernel) (by decide +kernel), by decide +kernel, by decide⟩
  rw [if_neg e8] at h
  by_cases e9 : l = [99, 101, 110, 116]
  · rw [if_pos e9] at h; injection h with h; injection h with h1 h2; injection h2 with h2 h3; subst h1 h3; exact ⟨FSz.one (by decide +kernel) (by decide +kernel), by decide +kernel, by decide⟩
  rw [if_neg e9] at h
  by_cases e10 : l = [101, 117, 114]
  · rw [if_pos e10] at h; injection h with h; injection h with h1 h2; injection h2 with h2 h3; subst h1 h3; exact ⟨FSz.one (by decide +kernel) (by decide +kernel), by decide +kernel, by decide⟩
  rw [if_neg e10] at h
  by_cases e11 : l = [112, 99]
  · rw [if_pos e11] at h; injection h with h; injection h with h1 h2; injection h2 with h2 h3; subst h1 h3; exact ⟨FSz.one (by decide +kernel) (by decide +kernel), by decide +kernel, by decide⟩
  rw [if_neg e11] at h
  cases h
theorem pre_sz {c : UInt8} {p : Rat} (h : preL c = some p) : FSz 2 p ∧ 0 < p := by
  unfold preL at h
  by_cases e0 : c = 107
  · rw [if_pos e0] at h; injection h with h; subst h; exact ⟨(FSz.one (by decide +kernel) (by decide +kernel)).mono, by decide +kernel⟩
  rw [if_neg e0] at h
  by_cases e1 : c = 77
  · rw [if_pos e1] at h; injection h with h; subst h; exact ⟨(FSz.one (by decide +kernel) (by decide +kernel)).mono, by decide +kernel⟩
  rw [if_neg e1] at h
  by_cases e2 : c = 71
  · rw [if_pos e2] at h; injection h with h; subst h; exact ⟨⟨by show ((1000000000 : Int).natAbs : Int) < _; simp [P], by show ((1 : Int).natAbs : Int) < _; simp [P]⟩, by decide +kernel⟩
  rw [if_neg e2] at h
  by_cases e3 : c = 109
  · rw [if_pos e3] at h; injection h with h; subst h; exact ⟨(FSz.one (by decide +kernel) (by decide +kernel)).mono, by decide +kernel⟩
  rw [if_neg e3] at h
  cases h
/-- Four cells are stored into a box, from one of its cells on. -/
theorem wpList_store4 {ops : Array Oper} {rest : List Oper} {o : Oper} {a : Act} {w : World} {Q : Exit → Act → World → Prop} (hgd : o.guard = none) (ty : TypeId) (x y : Operand) (ho : o.op = .store ty x y)
    (g k k1 k2 k3 : Nat) (e1 : k1 = k + 1) (e2 : k2 = k + 2) (e3 : k3 = k + 3) (v0 v1 v2 v3 : Value) (hx : a.eval x = .pointer (some ⟨g, k, none⟩)) (hy : a.eval y = .agg #[v0, v1, v2, v3])
    {cs : List Value} {t : TypeId} (hb : Fb (g, t, cs) w) (hk : k + 4 ≤ cs.length) (hi : ∃ ie, Tryz.prog.info? ty = some ie ∧ 4 = ie.size) (h1 : ∀ v ∈ [v0, v1, v2, v3], v.oneCell' = true)
    (h : wpList Tryz.prog ops Q rest (a.put o.dst undef) ((((w.setCell ⟨g, k, none⟩ v0).setCell ⟨g, k1, none⟩ v1).setCell ⟨g, k2, none⟩ v2).setCell ⟨g, k3, none⟩ v3)) : wpList Tryz.prog ops Q (o :: rest) a w := by
  obtain ⟨ie, hie, hs⟩ := hi
  subst e1 e2 e3
  refine wpList_plain hgd fun _ hK => ?_
  have hr := Lib.rl_storeVar_cells (P := Tryz.prog) ty ie hie g k [v0, v1, v2, v3] hs h1 w
    (fun j hj => by rw [hb.cell, List.getElem?_eq_getElem (by simp at hj; omega)]; rfl) (fun j hj => hb.free _)
  have h2 := hK _ _ h
  unfold Oper.wp execOp
  simp only [ho, hx, hy, Instr.storeAt, Instr.sureAddr, Sem.run_bind, Sem.run_pure, Result.andThen_ok, hr]
  exact h2
/-- The state then. -/
theorem Sf.part {w W : World} {pre post : List FBox} {F : List (Value × List Int)} {b : Nat} {ty : TypeId} {cs : List Value} (h : Sf w (pre ++ (b, ty, cs) :: post) F W) (k k1 k2 k3 : Nat) (_e1 : k1 = k + 1) (_e2 : k2 = k + 2) (_e3 : k3 = k + 3) (v0 v1 v2 v3 : Value) :
    Sf w (pre ++ (b, ty, (((cs.set k v0).set k1 v1).set k2 v2).set k3 v3) :: post) F ((((W.setCell ⟨b, k, none⟩ v0).setCell ⟨b, k1, none⟩ v1).setCell ⟨b, k2, none⟩ v2).setCell ⟨b, k3, none⟩ v3) :=
  (((h.set k v0).set k1 v1).set k2 v2).set k3 v3
theorem infoFrac : ∃ ie, Tryz.prog.info? 28 = some ie ∧ 4 = ie.size := ⟨_, rfl, rfl⟩

set_option maxHeartbeats 4000000 in
theorem u9word_sym (s : ByteArray) {bb : Nat} {nn : Int} {q : Rat} (h : symL s.data.toList = some (bb, nn, q)) (w : World) : Calls Tryz.prog 39 #[.string s] w (WordEnd s.data.toList w) := by
  have HW := Lib.hid (fun (e : Ending) (w' : World) (g : UVB (up zf bb nn) q true w e w') => word_some (L := s.data.toList) (by unfold wordL; rw [h]) g)
  have HC : Hid (Calls Tryz.prog 31 #[.string s] _ _) := Lib.hid (u9sym_at s h (w.alloc (.cells #[.int .i64 0, .int .i64 0, .int .i64 0, .int .i64 0, .int .i64 0, .int .i64 0, .int .i64 0, .slice none 0 0, .int .i64 0, .slice none 0 0] 30)))
  clear h
  have s0 := ((Sf.start w).put [.int .i64 0, .int .i64 0, .int .i64 0, .int .i64 0, .int .i64 0, .int .i64 0, .int .i64 0, .slice none 0 0, .int .i64 0, .slice none 0 0] 30)
  try simp only [World.size_alloc] at s0
  have S0 := Lib.hid s0
  clear s0
  obtain ⟨F, hF⟩ : ∃ F, up zf bb nn = F := ⟨_, rfl⟩
  rw [hF] at HW HC
  clear hF
  go_enter Tryz.func39, Tryz.ntmps39
  go_wp2_with fail
  refine (HC.out).mono ?_
  rintro e w1 ⟨sx1, ax1, nx1, cx1, bx1, mx1, dx1, rfl, hr, hb, hf, hg⟩
  have E1 := Lib.hid hr.1.1
  have R1 := Lib.hid (S0.out.ret2 hb hr.1.2 hf hr.2.2 hg)
  have FF1 := Lib.hid (hf.mono S0.out.below.size)
  have FG1 := Lib.hid (hg.mono S0.out.below.size)
  clear hr hb hf hg
  have P1 := Lib.hid (R1.out.put [.int .i64 0, .int .i64 0, .int .i64 0, .int .i64 0, .int .i64 0, .int .i64 0, .int .i64 0, .slice none 0 0, .int .i64 0, .slice none 0 0] 30)
  have Q1 := Lib.hid (Sf.row (pre := []) P1.out [.int .i64 (F 0), .int .i64 (F 1), .int .i64 (F 2), .int .i64 (F 3), .int .i64 (F 4), .int .i64 (F 5), .int .i64 sx1, .slice ax1 nx1 cx1, .int .i64 1, .slice bx1 mx1 dx1])
  obtain ⟨q2, q3, q4, q5, q6, q7, q8, q9, q10, q11⟩ := Fb.cells10 (Q1.out.box (w1.heap.size, 30, [.int .i64 (F 0), .int .i64 (F 1), .int .i64 (F 2), .int .i64 (F 3), .int .i64 (F 4), .int .i64 (F 5), .int .i64 sx1, .slice ax1 nx1 cx1, .int .i64 1, .slice bx1 mx1 dx1]) mq0)
  have Q12 := Lib.hid (Sf.row (pre := [(w1.heap.size, 30, [.int .i64 (F 0), .int .i64 (F 1), .int .i64 (F 2), .int .i64 (F 3), .int .i64 (F 4), .int .i64 (F 5), .int .i64 sx1, .slice ax1 nx1 cx1, .int .i64 1, .slice bx1 mx1 dx1])]) Q1.out [.int .i64 (F 0), .int .i64 (F 1), .int .i64 (F 2), .int .i64 (F 3), .int .i64 (F 4), .int .i64 (F 5), .int .i64 sx1, .slice ax1 nx1 cx1, .int .i64 1, .slice bx1 mx1 dx1])
  go_wp2_with (first | refine wpList_store_row rfl _ _ _ rfl _ #[.int .i64 (F 0), .int .i64 (F 1), .int .i64 (F 2), .int .i64 (F 3), .int .i64 (F 4), .int .i64 (F 5), .int .i64 sx1, .slice ax1 nx1 cx1, .int .i64 1, .slice bx1 mx1 dx1] rfl rfl _ _ (P1.out.box _ List.mem_cons_self) (by kernel_rfl) rfl (by simp [Value.oneCell']) ?_ | refine wpList_store_row rfl _ _ _ rfl _ #[.int .i64 (F 0), .int .i64 (F 1), .int .i64 (F 2), .int .i64 (F 3), .int .i64 (F 4), .int .i64 (F 5), .int .i64 sx1, .slice ax1 nx1 cx1, .int .i64 1, .slice bx1 mx1 dx1] rfl rfl _ _ (Q1.out.box _ mq1) (by kernel_rfl) rfl (by simp [Value.oneCell']) ?_)
  clear q2 q3 q4 q5 q6 q7 q8 q9 q10 q11
  refine bodyPost_ret (ret_row rfl _ _ _ _ rfl (run_loadVar_row _ _ _ _ _ (0, 0) _ (Q12.out.box _ mq1) Tryz.underlying30 rfl (by kernel_rfl))) rfl (HW.out _ _ ⟨_, _, _, _, _, _, _, rfl, (Q12.out.fr (v := .slice ax1 nx1 cx1) (u := .slice bx1 mx1 dx1) (r := q) mq0 mq1 E1.out), Q12.out.below, FF1.out, FG1.out⟩)

set_option maxHeartbeats 4000000 in
theorem u9word_short (s : ByteArray) (h : symL s.data.toList = none) (hs : s.size < 2) (w : World) : Calls Tryz.prog 39 #[.string s] w (WordEnd s.data.toList w) := by
  have hl := sizeL s
  have HW := Lib.hid (fun (e : Ending) (w' : World) (g : Gives (.tuple #[.agg (uc zf 0 (.slice none 0 0) 0 (.slice none 0 0)), .bool false]) w e w') => word_none (L := s.data.toList) (by
    unfold wordL; rw [h]
    match hL : s.data.toList, hl with
    | [], _ => rfl
    | [c], _ => cases hp : preL c with
      | none => simp only [hp]
      | some p => simp only [hp]; rfl
    | _ :: _ :: r, hl => simp at hl; omega) g)
  have HC : Hid (Calls Tryz.prog 31 #[.string s] _ _) := Lib.hid (u9sym_none s h (w.alloc (.cells #[.int .i64 0, .int .i64 0, .int .i64 0, .int .i64 0, .int .i64 0, .int .i64 0, .int .i64 0, .slice none 0 0, .int .i64 0, .slice none 0 0] 30)))
  have h2 : decide ((s.size : Int) < 2) = true := by simp; omega
  clear h hl hs
  have s0 := ((Sf.start w).put [.int .i64 0, .int .i64 0, .int .i64 0, .int .i64 0, .int .i64 0, .int .i64 0, .int .i64 0, .slice none 0 0, .int .i64 0, .slice none 0 0] 30)
  try simp only [World.size_alloc] at s0
  have S0 := Lib.hid s0
  clear s0
  unfold uc at HC HW
  go_enter Tryz.func39, Tryz.ntmps39
  go_wp2_with fail
  refine (HC.out).mono ?_
  rintro e w1 ⟨rfl, hb⟩
  have R1 := Lib.hid (S0.out.later hb)
  clear hb
  have P1 := Lib.hid (R1.out.put [.int .i64 0, .int .i64 0, .int .i64 0, .int .i64 0, .int .i64 0, .int .i64 0, .int .i64 0, .slice none 0 0, .int .i64 0, .slice none 0 0] 30)
  have Q1 := Lib.hid (Sf.row (pre := []) P1.out [.int .i64 (zf 0), .int .i64 (zf 1), .int .i64 (zf 2), .int .i64 (zf 3), .int .i64 (zf 4), .int .i64 (zf 5), .int .i64 0, .slice none 0 0, .int .i64 0, .slice none 0 0])
  obtain ⟨q2, q3, q4, q5, q6, q7, q8, q9, q10, q11⟩ := Fb.cells10 (Q1.out.box (w1.heap.size, 30, [.int .i64 (zf 0), .int .i64 (zf 1), .int .i64 (zf 2), .int .i64 (zf 3), .int .i64 (zf 4), .int .i64 (zf 5), .int .i64 0, .slice none 0 0, .int .i64 0, .slice none 0 0]) mq0)
  have Q12 := Lib.hid (Sf.row (pre := [(w1.heap.size, 30, [.int .i64 (zf 0), .int .i64 (zf 1), .int .i64 (zf 2), .int .i64 (zf 3), .int .i64 (zf 4), .int .i64 (zf 5), .int .i64 0, .slice none 0 0, .int .i64 0, .slice none 0 0])]) Q1.out [.int .i64 0, .int .i64 0, .int .i64 0, .int .i64 0, .int .i64 0, .int .i64 0, .int .i64 0, .slice none 0 0, .int .i64 0, .slice none 0 0])
  go_wp2_with (first | refine wpList_store_row rfl _ _ _ rfl _ #[.int .i64 (zf 0), .int .i64 (zf 1), .int .i64 (zf 2), .int .i64 (zf 3), .int .i64 (zf 4), .int .i64 (zf 5), .int .i64 0, .slice none 0 0, .int .i64 0, .slice none 0 0] rfl rfl _ _ (P1.out.box _ List.mem_cons_self) (by kernel_rfl) rfl (by simp [Value.oneCell']) ?_ | refine wpList_store_row rfl _ _ _ rfl _ #[.int .i64 0, .int .i64 0, .int .i64 0, .int .i64 0, .int .i64 0, .int .i64 0, .int .i64 0, .slice none 0 0, .int .i64 0, .slice none 0 0] rfl rfl _ _ (Q1.out.box _ mq1) (by kernel_rfl) rfl (by simp [Value.oneCell']) ?_)
  clear q2 q3 q4 q5 q6 q7 q8 q9 q10 q11
  refine bodyPost_ret (ret_row rfl _ _ _ _ rfl (run_loadVar_row _ _ _ _ _ (0, 0) _ (Q12.out.box _ mq1) Tryz.underlying30 rfl (by kernel_rfl))) rfl (HW.out _ _ ⟨rfl, Q12.out.below⟩)

theorem word_list (s : ByteArray) (h : 2 ≤ s.size) : s.data.toList = s[0] :: s.data.toList.drop 1 ∧ (s.extract 1 s.size).data.toList = s.data.toList.drop 1 := by
  refine ⟨?_, ?_⟩
  · have := List.drop_eq_getElem_cons (l := s.data.toList) (i := 0) (by rw [sizeL]; omega)
    rw [List.drop_zero] at this
    rw [this]; rfl
  · have := ext_take s 1 (s.size - 1)
    rw [show 1 + (s.size - 1) = s.size by omega] at this
    rw [this]
    show ((s.data.toList.drop 1).take (s.size - 1)) = _
    rw [List.take_of_length_le]; rw [List.length_drop, sizeL]; omega
theorem word_far {s : ByteArray} {c : UInt8} {S : ByteArray} (h : symL s.data.toList = none) (hs : s.data.toList = c :: S.data.toList) (hb : preL c = none ∨ symL S.data.toList = none ∨ canP S.data.toList = false) : wordL s.data.toList = none := by
  unfold wordL; rw [h, hs]; dsimp only
  rcases hp : preL c with _ | p
  · rfl
  · dsimp only
    rcases hb with hb | hb | hb
    · rw [hp] at hb; cases hb
    · rw [hb]; cases canP S.data.toList <;> rfl
    · rw [hb]; rfl
theorem word_good {s : ByteArray} {c : UInt8} {S : ByteArray} {p : Rat} {b : Nat} {n : Int} {q r : Rat} (h : symL s.data.toList = none) (hs : s.data.toList = c :: S.data.toList) (hp : preL c = some p) (hq : symL S.data.toList = some (b, n, q)) (hc : canP S.data.toList = true) (hr : q * p = r) : wordL s.data.toList = some (b, n, r) := by
  unfold wordL; rw [h, hs]; dsimp only
  rw [hp]; dsimp only
  rw [hc, hq]; subst hr; rfl

set_option maxHeartbeats 8000000 in
theorem u9word_nn (s : ByteArray) (h : symL s.data.toList = none) (hs : 2 ≤ s.size) (hp : preL s[0] = none) (hq : symL (s.extract 1 s.size).data.toList = none) (w : World) : Calls Tryz.prog 39 #[.string s] w (WordEnd s.data.toList w) := by
  obtain ⟨hl1, hl2⟩ := word_list s hs
  rw [← hl2] at hl1
  have HC := Lib.hid (u9sym_none s h)
  obtain ⟨c, hy⟩ : ∃ c, s[0] = c := ⟨_, rfl⟩
  obtain ⟨S, hS⟩ : ∃ S, s.extract 1 s.size = S := ⟨_, rfl⟩
  rw [hy] at hl1 hp
  rw [hS] at hl1 hq
  have h0 : 0 < s.size := by omega
  have h2 : decide ((s.size : Int) < 2) = false := by simp; omega
  have HP := Lib.hid (fun W => u9prefix_none c hp W)
  have HQ := Lib.hid (fun W => u9sym_none S hq W)
  have HW := Lib.hid (fun (e : Ending) (w' : World) (g : Gives (.tuple #[.agg (uc zf 0 (.slice none 0 0) 0 (.slice none 0 0)), .bool false]) w e w') => word_none (L := s.data.toList) (word_far h hl1 (.inl hp)) g)
  clear h hl1 hl2 hp hq
  have s0 := ((Sf.start w).put [.int .i64 0, .int .i64 0, .int .i64 0, .int .i64 0, .int .i64 0, .int .i64 0, .int .i64 0, .slice none 0 0, .int .i64 0, .slice none 0 0] 30)
  try simp only [World.size_alloc] at s0
  have S0 := Lib.hid s0
  clear s0
  unfold uc at HC HW HQ
  go_enter Tryz.func39, Tryz.ntmps39
  go_wp2_with fail
  refine (HC.out _).mono ?_
  rintro e w1 ⟨rfl, hb⟩
  have R1 := Lib.hid (S0.out.later hb)
  clear hb
  have P1 := Lib.hid (R1.out.put [.int .i64 0, .int .i64 0, .int .i64 0, .int .i64 0, .int .i64 0, .int .i64 0, .int .i64 0, .slice none 0 0, .int .i64 0, .slice none 0 0] 30)
  have Q1 := Lib.hid (Sf.row (pre := []) P1.out [.int .i64 (zf 0), .int .i64 (zf 1), .int .i64 (zf 2), .int .i64 (zf 3), .int .i64 (zf 4), .int .i64 (zf 5), .int .i64 0, .slice none 0 0, .int .i64 0, .slice none 0 0])
  go_wp2_with (first | refine wpList_store_row rfl _ _ _ rfl _ #[.int .i64 (zf 0), .int .i64 (zf 1), .int .i64 (zf 2), .int .i64 (zf 3), .int .i64 (zf 4), .int .i64 (zf 5), .int .i64 0, .slice none 0 0, .int .i64 0, .slice none 0 0] rfl rfl _ _ (P1.out.box _ List.mem_cons_self) (by kernel_rfl) rfl (by simp [Value.oneCell']) ?_)
  refine (HP.out _).mono ?_
  rintro e w2 ⟨rfl, hb⟩
  have R2 := Lib.hid (Q1.out.later hb)
  clear hb
  have P2 := Lib.hid (R2.out.put [.int .i64 0, .slice none 0 0, .int .i64 0, .slice none 0 0] 28)
  have Q2 := Lib.hid (Sf.row (pre := []) P2.out [.int .i64 0, .slice none 0 0, .int .i64 0, .slice none 0 0])
  go_wp2_with (first | refine wpList_store_row rfl _ _ _ rfl _ #[.int .i64 0, .slice none 0 0, .int .i64 0, .slice none 0 0] rfl rfl _ _ (P2.out.box _ List.mem_cons_self) (by kernel_rfl) rfl (by simp [Value.oneCell']) ?_)
  refine (HQ.out _).mono ?_
  rintro e w3 ⟨rfl, hb⟩
  have R3 := Lib.hid (Q2.out.later hb)
  clear hb
  have P3 := Lib.hid (R3.out.put [.int .i64 0, .int .i64 0, .int .i64 0, .int .i64 0, .int .i64 0, .int .i64 0, .int .i64 0, .slice none 0 0, .int .i64 0, .slice none 0 0] 30)
  have Q3 := Lib.hid (Sf.row (pre := []) P3.out [.int .i64 (zf 0), .int .i64 (zf 1), .int .i64 (zf 2), .int .i64 (zf 3), .int .i64 (zf 4), .int .i64 (zf 5), .int .i64 0, .slice none 0 0, .int .i64 0, .slice none 0 0])
  have Q4 := Lib.hid (Sf.row (pre := [(w3.heap.size, 30, [.int .i64 (zf 0), .int .i64 (zf 1), .int .i64 (zf 2), .int .i64 (zf 3), .int .i64 (zf 4), .int .i64 (zf 5), .int .i64 0, .slice none 0 0, .int .i64 0, .slice none 0 0]), (w2.heap.size, 28, [.int .i64 0, .slice none 0 0, .int .i64 0, .slice none 0 0]), (w1.heap.size, 30, [.int .i64 (zf 0), .int .i64 (zf 1), .int .i64 (zf 2), .int .i64 (zf 3), .int .i64 (zf 4), .int .i64 (zf 5), .int .i64 0, .slice none 0 0, .int .i64 0, .slice none 0 0])]) Q3.out [.int .i64 0, .int .i64 0, .int .i64 0, .int .i64 0, .int .i64 0, .int .i64 0, .int .i64 0, .slice none 0 0, .int .i64 0, .slice none 0 0])
  go_wp2_with (first | refine wpList_store_row rfl _ _ _ rfl _ #[.int .i64 (zf 0), .int .i64 (zf 1), .int .i64 (zf 2), .int .i64 (zf 3), .int .i64 (zf 4), .int .i64 (zf 5), .int .i64 0, .slice none 0 0, .int .i64 0, .slice none 0 0] rfl rfl _ _ (P3.out.box _ List.mem_cons_self) (by kernel_rfl) rfl (by simp [Value.oneCell']) ?_ | refine wpList_store_row rfl _ _ _ rfl _ #[.int .i64 0, .int .i64 0, .int .i64 0, .int .i64 0, .int .i64 0, .int .i64 0, .int .i64 0, .slice none 0 0, .int .i64 0, .slice none 0 0] rfl rfl _ _ (Q3.out.box _ mq3) (by kernel_rfl) rfl (by simp [Value.oneCell']) ?_)
  refine bodyPost_ret (ret_row rfl _ _ _ _ rfl (run_loadVar_row _ _ _ _ _ (0, 0) _ (Q4.out.box _ mq3) Tryz.underlying30 rfl (by kernel_rfl))) rfl (HW.out _ _ ⟨rfl, Q4.out.below⟩)

set_option maxHeartbeats 8000000 in
theorem u9word_ns (s : ByteArray) (h : symL s.data.toList = none) (hs : 2 ≤ s.size) {bb : Nat} {nn : Int} {q : Rat} (hp : preL s[0] = none) (hq : symL (s.extract 1 s.size).data.toList = some (bb, nn, q)) (w : World) : Calls Tryz.prog 39 #[.string s] w (WordEnd s.data.toList w) := by
  obtain ⟨hl1, hl2⟩ := word_list s hs
  rw [← hl2] at hl1
  have HC := Lib.hid (u9sym_none s h)
  obtain ⟨c, hy⟩ : ∃ c, s[0] = c := ⟨_, rfl⟩
  obtain ⟨S, hS⟩ : ∃ S, s.extract 1 s.size = S := ⟨_, rfl⟩
  rw [hy] at hl1 hp
  rw [hS] at hl1 hq
  have h0 : 0 < s.size := by omega
  have h2 : decide ((s.size : Int) < 2) = false := by simp; omega
  have HP := Lib.hid (fun W => u9prefix_none c hp W)
  have HQ := Lib.hid (fun W => u9sym_at S hq W)
  have HW := Lib.hid (fun (e : Ending) (w' : World) (g : Gives (.tuple #[.agg (uc zf 0 (.slice none 0 0) 0 (.slice none 0 0)), .bool false]) w e w') => word_none (L := s.data.toList) (word_far h hl1 (.inl hp)) g)
  obtain ⟨F, hF⟩ : ∃ F, up zf bb nn = F := ⟨_, rfl⟩
  rw [hF] at HQ
  clear hF
  clear h hl1 hl2 hp hq
  have s0 := ((Sf.start w).put [.int .i64 0, .int .i64 0, .int .i64 0, .int .i64 0, .int .i64 0, .int .i64 0, .int .i64 0, .slice none 0 0, .int .i64 0, .slice none 0 0] 30)
  try simp only [World.size_alloc] at s0
  have S0 := Lib.hid s0
  clear s0
  unfold uc at HC HW
  go_enter Tryz.func39, Tryz.ntmps39
  go_wp2_with fail
  refine (HC.out _).mono ?_
  rintro e w1 ⟨rfl, hb⟩
  have R1 := Lib.hid (S0.out.later hb)
  clear hb
  have P1 := Lib.hid (R1.out.put [.int .i64 0, .int .i64 0, .int .i64 0, .int .i64 0, .int .i64 0, .int .i64 0, .int .i64 0, .slice none 0 0, .int .i64 0, .slice none 0 0] 30)
  have Q1 := Lib.hid (Sf.row (pre := []) P1.out [.int .i64 (zf 0), .int .i64 (zf 1), .int .i64 (zf 2), .int .i64 (zf 3), .int .i64 (zf 4), .int .i64 (zf 5), .int .i64 0, .slice none 0 0, .int .i64 0, .slice none 0 0])
  go_wp2_with (first | refine wpList_store_row rfl _ _ _ rfl _ #[.int .i64 (zf 0), .int .i64 (zf 1), .int .i64 (zf 2), .int .i64 (zf 3), .int .i64 (zf 4), .int .i64 (zf 5), .int .i64 0, .slice none 0 0, .int .i64 0, .slice none 0 0] rfl rfl _ _ (P1.out.box _ List.mem_cons_self) (by kernel_rfl) rfl (by simp [Value.oneCell']) ?_)
  refine (HP.out _).mono ?_
  rintro e w2 ⟨rfl, hb⟩
  have R2 := Lib.hid (Q1.out.later hb)
  clear hb
  have P2 := Lib.hid (R2.out.put [.int .i64 0, .slice none 0 0, .int .i64 0, .slice none 0 0] 28)
  have Q2 := Lib.hid (Sf.row (pre := []) P2.out [.int .i64 0, .slice none 0 0, .int .i64 0, .slice none 0 0])
  go_wp2_with (first | refine wpList_store_row rfl _ _ _ rfl _ #[.int .i64 0, .slice none 0 0, .int .i64 0, .slice none 0 0] rfl rfl _ _ (P2.out.box _ List.mem_cons_self) (by kernel_rfl) rfl (by simp [Value.oneCell']) ?_)
  refine (HQ.out _).mono ?_
  rintro e w3 ⟨sx3, ax3, nx3, cx3, bx3, mx3, dx3, rfl, hr, hb, hf, hg⟩
  have E3 := Lib.hid hr.1.1
  have R3 := Lib.hid (Q2.out.ret2 hb hr.1.2 hf hr.2.2 hg)
  have FF3 := Lib.hid (hf.mono Q2.out.below.size)
  have FG3 := Lib.hid (hg.mono Q2.out.below.size)
  clear hr hb hf hg
  have P3 := Lib.hid (R3.out.put [.int .i64 0, .int .i64 0, .int .i64 0, .int .i64 0, .int .i64 0, .int .i64 0, .int .i64 0, .slice none 0 0, .int .i64 0, .slice none 0 0] 30)
  have Q3 := Lib.hid (Sf.row (pre := []) P3.out [.int .i64 (F 0), .int .i64 (F 1), .int .i64 (F 2), .int .i64 (F 3), .int .i64 (F 4), .int .i64 (F 5), .int .i64 sx3, .slice ax3 nx3 cx3, .int .i64 1, .slice bx3 mx3 dx3])
  have Q4 := Lib.hid (Sf.row (pre := [(w3.heap.size, 30, [.int .i64 (F 0), .int .i64 (F 1), .int .i64 (F 2), .int .i64 (F 3), .int .i64 (F 4), .int .i64 (F 5), .int .i64 sx3, .slice ax3 nx3 cx3, .int .i64 1, .slice bx3 mx3 dx3]), (w2.heap.size, 28, [.int .i64 0, .slice none 0 0, .int .i64 0, .slice none 0 0]), (w1.heap.size, 30, [.int .i64 (zf 0), .int .i64 (zf 1), .int .i64 (zf 2), .int .i64 (zf 3), .int .i64 (zf 4), .int .i64 (zf 5), .int .i64 0, .slice none 0 0, .int .i64 0, .slice none 0 0])]) Q3.out [.int .i64 0, .int .i64 0, .int .i64 0, .int .i64 0, .int .i64 0, .int .i64 0, .int .i64 0, .slice none 0 0, .int .i64 0, .slice none 0 0])
  go_wp2_with (first | refine wpList_store_row rfl _ _ _ rfl _ #[.int .i64 (F 0), .int .i64 (F 1), .int .i64 (F 2), .int .i64 (F 3), .int .i64 (F 4), .int .i64 (F 5), .int .i64 sx3, .slice ax3 nx3 cx3, .int .i64 1, .slice bx3 mx3 dx3] rfl rfl _ _ (P3.out.box _ List.mem_cons_self) (by kernel_rfl) rfl (by simp [Value.oneCell']) ?_ | refine wpList_store_row rfl _ _ _ rfl _ #[.int .i64 0, .int .i64 0, .int .i64 0, .int .i64 0, .int .i64 0, .int .i64 0, .int .i64 0, .slice none 0 0, .int .i64 0, .slice none 0 0] rfl rfl _ _ (Q3.out.box _ mq3) (by kernel_rfl) rfl (by simp [Value.oneCell']) ?_)
  refine bodyPost_ret (ret_row rfl _ _ _ _ rfl (run_loadVar_row _ _ _ _ _ (0, 0) _ (Q4.out.box _ mq3) Tryz.underlying30 rfl (by kernel_rfl))) rfl (HW.out _ _ ⟨rfl, Q4.out.below⟩)

set_option maxHeartbeats 8000000 in
theorem u9word_sn (s : ByteArray) (h : symL s.data.toList = none) (hs : 2 ≤ s.size) {p : Rat} (hp : preL s[0] = some p) (hq : symL (s.extract 1 s.size).data.toList = none) (w : World) : Calls Tryz.prog 39 #[.string s] w (WordEnd s.data.toList w) := by
  obtain ⟨hl1, hl2⟩ := word_list s hs
  rw [← hl2] at hl1
  have HC := Lib.hid (u9sym_none s h)
  obtain ⟨c, hy⟩ : ∃ c, s[0] = c := ⟨_, rfl⟩
  obtain ⟨S, hS⟩ : ∃ S, s.extract 1 s.size = S := ⟨_, rfl⟩
  rw [hy] at hl1 hp
  rw [hS] at hl1 hq
  have h0 : 0 < s.size := by omega
  have h2 : decide ((s.size : Int) < 2) = false := by simp; omega
  have HP := Lib.hid (fun W => u9prefix_some c hp W)
  have HQ := Lib.hid (fun W => u9sym_none S hq W)
  have HW := Lib.hid (fun (e : Ending) (w' : World) (g : Gives (.tuple #[.agg (uc zf 0 (.slice none 0 0) 0 (.slice none 0 0)), .bool false]) w e w') => word_none (L := s.data.toList) (word_far h hl1 (.inr (.inl hq))) g)
  clear h hl1 hl2 hp hq
  have s0 := ((Sf.start w).put [.int .i64 0, .int .i64 0, .int .i64 0, .int .i64 0, .int .i64 0, .int .i64 0, .int .i64 0, .slice none 0 0, .int .i64 0, .slice none 0 0] 30)
  try simp only [World.size_alloc] at s0
  have S0 := Lib.hid s0
  clear s0
  unfold uc at HC HW HQ
  go_enter Tryz.func39, Tryz.ntmps39
  go_wp2_with fail
  refine (HC.out _).mono ?_
  rintro e w1 ⟨rfl, hb⟩
  have R1 := Lib.hid (S0.out.later hb)
  clear hb
  have P1 := Lib.hid (R1.out.put [.int .i64 0, .int .i64 0, .int .i64 0, .int .i64 0, .int .i64 0, .int .i64 0, .int .i64 0, .slice none 0 0, .int .i64 0, .slice none 0 0] 30)
  have Q1 := Lib.hid (Sf.row (pre := []) P1.out [.int .i64 (zf 0), .int .i64 (zf 1), .int .i64 (zf 2), .int .i64 (zf 3), .int .i64 (zf 4), .int .i64 (zf 5), .int .i64 0, .slice none 0 0, .int .i64 0, .slice none 0 0])
  go_wp2_with (first | refine wpList_store_row rfl _ _ _ rfl _ #[.int .i64 (zf 0), .int .i64 (zf 1), .int .i64 (zf 2), .int .i64 (zf 3), .int .i64 (zf 4), .int .i64 (zf 5), .int .i64 0, .slice none 0 0, .int .i64 0, .slice none 0 0] rfl rfl _ _ (P1.out.box _ List.mem_cons_self) (by kernel_rfl) rfl (by simp [Value.oneCell']) ?_)
  refine (HP.out _).mono ?_
  rintro e w2 ⟨sx2, ax2, nx2, cx2, bx2, mx2, dx2, rfl, hr, hb, hf, hg⟩
  have E2 := Lib.hid hr.1.1
  have R2 := Lib.hid (Q1.out.ret2 hb hr.1.2 hf hr.2.2 hg)
  have FF2 := Lib.hid (hf.mono Q1.out.below.size)
  have FG2 := Lib.hid (hg.mono Q1.out.below.size)
  clear hr hb hf hg
  have P2 := Lib.hid (R2.out.put [.int .i64 0, .slice none 0 0, .int .i64 0, .slice none 0 0] 28)
  have Q2 := Lib.hid (Sf.row (pre := []) P2.out [.int .i64 sx2, .slice ax2 nx2 cx2, .int .i64 1, .slice bx2 mx2 dx2])
  go_wp2_with (first | refine wpList_store_row rfl _ _ _ rfl _ #[.int .i64 sx2, .slice ax2 nx2 cx2, .int .i64 1, .slice bx2 mx2 dx2] rfl rfl _ _ (P2.out.box _ List.mem_cons_self) (by kernel_rfl) rfl (by simp [Value.oneCell']) ?_)
  refine (HQ.out _).mono ?_
  rintro e w3 ⟨rfl, hb⟩
  have R3 := Lib.hid (Q2.out.later hb)
  clear hb
  have P3 := Lib.hid (R3.out.put [.int .i64 0, .int .i64 0, .int .i64 0, .int .i64 0, .int .i64 0, .int .i64 0, .int .i64 0, .slice none 0 0, .int .i64 0, .slice none 0 0] 30)
  have Q3 := Lib.hid (Sf.row (pre := []) P3.out [.int .i64 (zf 0), .int .i64 (zf 1), .int .i64 (zf 2), .int .i64 (zf 3), .int .i64 (zf 4), .int .i64 (zf 5), .int .i64 0, .slice none 0 0, .int .i64 0, .slice none 0 0])
  have Q4 := Lib.hid (Sf.row (pre := [(w3.heap.size, 30, [.int .i64 (zf 0), .int .i64 (zf 1), .int .i64 (zf 2), .int .i64 (zf 3), .int .i64 (zf 4), .int .i64 (zf 5), .int .i64 0, .slice none 0 0, .int .i64 0, .slice none 0 0]), (w2.heap.size, 28, [.int .i64 sx2, .slice ax2 nx2 cx2, .int .i64 1, .slice bx2 mx2 dx2]), (w1.heap.size, 30, [.int .i64 (zf 0), .int .i64 (zf 1), .int .i64 (zf 2), .int .i64 (zf 3), .int .i64 (zf 4), .int .i64 (zf 5), .int .i64 0, .slice none 0 0, .int .i64 0, .slice none 0 0])]) Q3.out [.int .i64 0, .int .i64 0, .int .i64 0, .int .i64 0, .int .i64 0, .int .i64 0, .int .i64 0, .slice none 0 0, .int .i64 0, .slice none 0 0])
  go_wp2_with (first | refine wpList_store_row rfl _ _ _ rfl _ #[.int .i64 (zf 0), .int .i64 (zf 1), .int .i64 (zf 2), .int .i64 (zf 3), .int .i64 (zf 4), .int .i64 (zf 5), .int .i64 0, .slice none 0 0, .int .i64 0, .slice none 0 0] rfl rfl _ _ (P3.out.box _ List.mem_cons_self) (by kernel_rfl) rfl (by simp [Value.oneCell']) ?_ | refine wpList_store_row rfl _ _ _ rfl _ #[.int .i64 0, .int .i64 0, .int .i64 0, .int .i64 0, .int .i64 0, .int .i64 0, .int .i64 0, .slice none 0 0, .int .i64 0, .slice none 0 0] rfl rfl _ _ (Q3.out.box _ mq3) (by kernel_rfl) rfl (by simp [Value.oneCell']) ?_)
  refine bodyPost_ret (ret_row rfl _ _ _ _ rfl (run_loadVar_row _ _ _ _ _ (0, 0) _ (Q4.out.box _ mq3) Tryz.underlying30 rfl (by kernel_rfl))) rfl (HW.out _ _ ⟨rfl, Q4.out.below⟩)

set_option maxHeartbeats 8000000 in
theorem u9word_no (s : ByteArray) (h : symL s.data.toList = none) (hs : 2 ≤ s.size) {p : Rat} {bb : Nat} {nn : Int} {q : Rat} (hp : preL s[0] = some p) (hq : symL (s.extract 1 s.size).data.toList = some (bb, nn, q)) (hc : canP (s.extract 1 s.size).data.toList = false) (w : World) : Calls Tryz.prog 39 #[.string s] w (WordEnd s.data.toList w) := by
  obtain ⟨hl1, hl2⟩ := word_list s hs
  rw [← hl2] at hl1
  have HC := Lib.hid (u9sym_none s h)
  obtain ⟨c, hy⟩ : ∃ c, s[0] = c := ⟨_, rfl⟩
  obtain ⟨S, hS⟩ : ∃ S, s.extract 1 s.size = S := ⟨_, rfl⟩
  rw [hy] at hl1 hp
  rw [hS] at hl1 hq hc
  have h0 : 0 < s.size := by omega
  have h2 : decide ((s.size : Int) < 2) = false := by simp; omega
  have HP := Lib.hid (fun W => u9prefix_some c hp W)
  have HQ := Lib.hid (fun W => u9sym_at S hq W)
  have HW := Lib.hid (fun (e : Ending) (w' : World) (g : Gives (.tuple #[.agg (uc zf 0 (.slice none 0 0) 0 (.slice none 0 0)), .bool false]) w e w') => word_none (L := s.data.toList) (word_far h hl1 (.inr (.inr hc))) g)
  obtain ⟨F, hF⟩ : ∃ F, up zf bb nn = F := ⟨_, rfl⟩
  rw [hF] at HQ
  clear hF
  obtain ⟨_, k0, _⟩ := no_bytes S [103] (by intro e; rw [e] at hc; revert hc; decide)
  obtain ⟨_, k1, _⟩ := no_bytes S [109] (by intro e; rw [e] at hc; revert hc; decide)
  obtain ⟨_, k2, _⟩ := no_bytes S [108] (by intro e; rw [e] at hc; revert hc; decide)
  obtain ⟨_, k3, _⟩ := no_bytes S [115] (by intro e; rw [e] at hc; revert hc; decide)
  obtain ⟨_, k4, _⟩ := no_bytes S [74] (by intro e; rw [e] at hc; revert hc; decide)
  obtain ⟨_, k5, _⟩ := no_bytes S [87, 104] (by intro e; rw [e] at hc; revert hc; decide)
  clear h hl1 hl2 hp hq hc
  have s0 := ((Sf.start w).put [.int .i64 0, .int .i64 0, .int .i64 0, .int .i64 0, .int .i64 0, .int .i64 0, .int .i64 0, .slice none 0 0, .int .i64 0, .slice none 0 0] 30)
  try simp only [World.size_alloc] at s0
  have S0 := Lib.hid s0
  clear s0
  unfold uc at HC HW
  go_enter Tryz.func39, Tryz.ntmps39
  go_wp2_with fail
  refine (HC.out _).mono ?_
  rintro e w1 ⟨rfl, hb⟩
  have R1 := Lib.hid (S0.out.later hb)
  clear hb
  have P1 := Lib.hid (R1.out.put [.int .i64 0, .int .i64 0, .int .i64 0, .int .i64 0, .int .i64 0, .int .i64 0, .int .i64 0, .slice none 0 0, .int .i64 0, .slice none 0 0] 30)
  have Q1 := Lib.hid (Sf.row (pre := []) P1.out [.int .i64 (zf 0), .int .i64 (zf 1), .int .i64 (zf 2), .int .i64 (zf 3), .int .i64 (zf 4), .int .i64 (zf 5), .int .i64 0, .slice none 0 0, .int .i64 0, .slice none 0 0])
  go_wp2_with (first | refine wpList_store_row rfl _ _ _ rfl _ #[.int .i64 (zf 0), .int .i64 (zf 1), .int .i64 (zf 2), .int .i64 (zf 3), .int .i64 (zf 4), .int .i64 (zf 5), .int .i64 0, .slice none 0 0, .int .i64 0, .slice none 0 0] rfl rfl _ _ (P1.out.box _ List.mem_cons_self) (by kernel_rfl) rfl (by simp [Value.oneCell']) ?_)
  refine (HP.out _).mono ?_
  rintro e w2 ⟨sx2, ax2, nx2, cx2, bx2, mx2, dx2, rfl, hr, hb, hf, hg⟩
  have E2 := Lib.hid hr.1.1
  have R2 := Lib.hid (Q1.out.ret2 hb hr.1.2 hf hr.2.2 hg)
  have FF2 := Lib.hid (hf.mono Q1.out.below.size)
  have FG2 := Lib.hid (hg.mono Q1.out.below.size)
  clear hr hb hf hg
  have P2 := Lib.hid (R2.out.put [.int .i64 0, .slice none 0 0, .int .i64 0, .slice none 0 0] 28)
  have Q2 := Lib.hid (Sf.row (pre := []) P2.out [.int .i64 sx2, .slice ax2 nx2 cx2, .int .i64 1, .slice bx2 mx2 dx2])
  go_wp2_with (first | refine wpList_store_row rfl _ _ _ rfl _ #[.int .i64 sx2, .slice ax2 nx2 cx2, .int .i64 1, .slice bx2 mx2 dx2] rfl rfl _ _ (P2.out.box _ List.mem_cons_self) (by kernel_rfl) rfl (by simp [Value.oneCell']) ?_)
  refine (HQ.out _).mono ?_
  rintro e w3 ⟨sx3, ax3, nx3, cx3, bx3, mx3, dx3, rfl, hr, hb, hf, hg⟩
  have E3 := Lib.hid hr.1.1
  have R3 := Lib.hid (Q2.out.ret2 hb hr.1.2 hf hr.2.2 hg)
  have FF3 := Lib.hid (hf.mono Q2.out.below.size)
  have FG3 := Lib.hid (hg.mono Q2.out.below.size)
  clear hr hb hf hg
  have P3 := Lib.hid (R3.out.put [.int .i64 0, .int .i64 0, .int .i64 0, .int .i64 0, .int .i64 0, .int .i64 0, .int .i64 0, .slice none 0 0, .int .i64 0, .slice none 0 0] 30)
  have Q3 := Lib.hid (Sf.row (pre := []) P3.out [.int .i64 (F 0), .int .i64 (F 1), .int .i64 (F 2), .int .i64 (F 3), .int .i64 (F 4), .int .i64 (F 5), .int .i64 sx3, .slice ax3 nx3 cx3, .int .i64 1, .slice bx3 mx3 dx3])
  have Q4 := Lib.hid (Sf.row (pre := [(w3.heap.size, 30, [.int .i64 (F 0), .int .i64 (F 1), .int .i64 (F 2), .int .i64 (F 3), .int .i64 (F 4), .int .i64 (F 5), .int .i64 sx3, .slice ax3 nx3 cx3, .int .i64 1, .slice bx3 mx3 dx3]), (w2.heap.size, 28, [.int .i64 sx2, .slice ax2 nx2 cx2, .int .i64 1, .slice bx2 mx2 dx2]), (w1.heap.size, 30, [.int .i64 (zf 0), .int .i64 (zf 1), .int .i64 (zf 2), .int .i64 (zf 3), .int .i64 (zf 4), .int .i64 (zf 5), .int .i64 0, .slice none 0 0, .int .i64 0, .slice none 0 0])]) Q3.out [.int .i64 0, .int .i64 0, .int .i64 0, .int .i64 0, .int .i64 0, .int .i64 0, .int .i64 0, .slice none 0 0, .int .i64 0, .slice none 0 0])
  go_wp2_with (first | refine wpList_store_row rfl _ _ _ rfl _ #[.int .i64 (F 0), .int .i64 (F 1), .int .i64 (F 2), .int .i64 (F 3), .int .i64 (F 4), .int .i64 (F 5), .int .i64 sx3, .slice ax3 nx3 cx3, .int .i64 1, .slice bx3 mx3 dx3] rfl rfl _ _ (P3.out.box _ List.mem_cons_self) (by kernel_rfl) rfl (by simp [Value.oneCell']) ?_ | refine wpList_store_row rfl _ _ _ rfl _ #[.int .i64 0, .int .i64 0, .int .i64 0, .int .i64 0, .int .i64 0, .int .i64 0, .int .i64 0, .slice none 0 0, .int .i64 0, .slice none 0 0] rfl rfl _ _ (Q3.out.box _ mq3) (by kernel_rfl) rfl (by simp [Value.oneCell']) ?_)
  refine bodyPost_ret (ret_row rfl _ _ _ _ rfl (run_loadVar_row _ _ _ _ _ (0, 0) _ (Q4.out.box _ mq3) Tryz.underlying30 rfl (by kernel_rfl))) rfl (HW.out _ _ ⟨rfl, Q4.out.below⟩)

set_option maxHeartbeats 8000000 in
theorem u9word_pg (s : ByteArray) (h : symL s.data.toList = none) (hs : 2 ≤ s.size) {p : Rat} {bb : Nat} {nn : Int} {q : Rat} (hp : preL s[0] = some p) (hq : symL (s.extract 1 s.size).data.toList = some (bb, nn, q)) (hc : (s.extract 1 s.size).data.toList = [103]) (w : World) : Calls Tryz.prog 39 #[.string s] w (WordEnd s.data.toList w) := by
  obtain ⟨hl1, hl2⟩ := word_list s hs
  rw [← hl2] at hl1
  have HC := Lib.hid (u9sym_none s h)
  obtain ⟨c, hy⟩ : ∃ c, s[0] = c := ⟨_, rfl⟩
  obtain ⟨S, hS⟩ : ∃ S, s.extract 1 s.size = S := ⟨_, rfl⟩
  rw [hy] at hl1 hp
  rw [hS] at hl1 hq hc
  have h0 : 0 < s.size := by omega
  have h2 : decide ((s.size : Int) < 2) = false := by simp; omega
  have HP := Lib.hid (fun W => u9prefix_some c hp W)
  have HQ := Lib.hid (fun W => u9sym_at S hq W)
  have HW := Lib.hid (fun (r : Rat) (hr : q * p = r) (e : Ending) (w' : World) (g : UVB (up zf bb nn) r true w e w') => word_some (L := s.data.toList) (word_good h hl1 hp hq (by rw [hc]; decide) hr) g)
  have LQ := Lib.hid ((sym_sz hq).1.mono (j := 1000))
  have LP := Lib.hid ((pre_sz hp).1.mono (j := 1000))
  obtain ⟨F, hF⟩ : ∃ F, up zf bb nn = F := ⟨_, rfl⟩
  rw [hF] at HW HQ
  obtain ⟨r, hr⟩ : ∃ r, q * p = r := ⟨_, rfl⟩
  have HRR := Lib.hid hr
  have hSS : S = ⟨#[103]⟩ := by
    apply ByteArray.ext; apply Array.ext'; rw [hc]
  subst hSS
  clear hF hr
  clear h hl1 hl2 hp hq hc
  have s0 := ((Sf.start w).put [.int .i64 0, .int .i64 0, .int .i64 0, .int .i64 0, .int .i64 0, .int .i64 0, .int .i64 0, .slice none 0 0, .int .i64 0, .slice none 0 0] 30)
  try simp only [World.size_alloc] at s0
  have S0 := Lib.hid s0
  clear s0
  unfold uc at HC
  go_enter Tryz.func39, Tryz.ntmps39
  go_wp2_with fail
  refine (HC.out _).mono ?_
  rintro e w1 ⟨rfl, hb⟩
  have R1 := Lib.hid (S0.out.later hb)
  clear hb
  have P1 := Lib.hid (R1.out.put [.int .i64 0, .int .i64 0, .int .i64 0, .int .i64 0, .int .i64 0, .int .i64 0, .int .i64 0, .slice none 0 0, .int .i64 0, .slice none 0 0] 30)
  have Q1 := Lib.hid (Sf.row (pre := []) P1.out [.int .i64 (zf 0), .int .i64 (zf 1), .int .i64 (zf 2), .int .i64 (zf 3), .int .i64 (zf 4), .int .i64 (zf 5), .int .i64 0, .slice none 0 0, .int .i64 0, .slice none 0 0])
  go_wp2_with (first | refine wpList_store_row rfl _ _ _ rfl _ #[.int .i64 (zf 0), .int .i64 (zf 1), .int .i64 (zf 2), .int .i64 (zf 3), .int .i64 (zf 4), .int .i64 (zf 5), .int .i64 0, .slice none 0 0, .int .i64 0, .slice none 0 0] rfl rfl _ _ (P1.out.box _ List.mem_cons_self) (by kernel_rfl) rfl (by simp [Value.oneCell']) ?_)
  refine (HP.out _).mono ?_
  rintro e w2 ⟨sx2, ax2, nx2, cx2, bx2, mx2, dx2, rfl, hr, hb, hf, hg⟩
  have E2 := Lib.hid hr.1.1
  have R2 := Lib.hid (Q1.out.ret2 hb hr.1.2 hf hr.2.2 hg)
  have FF2 := Lib.hid (hf.mono Q1.out.below.size)
  have FG2 := Lib.hid (hg.mono Q1.out.below.size)
  clear hr hb hf hg
  have P2 := Lib.hid (R2.out.put [.int .i64 0, .slice none 0 0, .int .i64 0, .slice none 0 0] 28)
  have Q2 := Lib.hid (Sf.row (pre := []) P2.out [.int .i64 sx2, .slice ax2 nx2 cx2, .int .i64 1, .slice bx2 mx2 dx2])
  go_wp2_with (first | refine wpList_store_row rfl _ _ _ rfl _ #[.int .i64 sx2, .slice ax2 nx2 cx2, .int .i64 1, .slice bx2 mx2 dx2] rfl rfl _ _ (P2.out.box _ List.mem_cons_self) (by kernel_rfl) rfl (by simp [Value.oneCell']) ?_)
  refine (HQ.out _).mono ?_
  rintro e w3 ⟨sx3, ax3, nx3, cx3, bx3, mx3, dx3, rfl, hr, hb, hf, hg⟩
  have E3 := Lib.hid hr.1.1
  have R3 := Lib.hid (Q2.out.ret2 hb hr.1.2 hf hr.2.2 hg)
  have FF3 := Lib.hid (hf.mono Q2.out.below.size)
  have FG3 := Lib.hid (hg.mono Q2.out.below.size)
  clear hr hb hf hg
  have P3 := Lib.hid (R3.out.put [.int .i64 0, .int .i64 0, .int .i64 0, .int .i64 0, .int .i64 0, .int .i64 0, .int .i64 0, .slice none 0 0, .int .i64 0, .slice none 0 0] 30)
  have Q3 := Lib.hid (Sf.row (pre := []) P3.out [.int .i64 (F 0), .int .i64 (F 1), .int .i64 (F 2), .int .i64 (F 3), .int .i64 (F 4), .int .i64 (F 5), .int .i64 sx3, .slice ax3 nx3 cx3, .int .i64 1, .slice bx3 mx3 dx3])
  obtain ⟨q4, q5, q6, q7, q8, q9, q10, q11, q12, q13⟩ := Fb.cells10 (Q3.out.box (w3.heap.size, 30, [.int .i64 (F 0), .int .i64 (F 1), .int .i64 (F 2), .int .i64 (F 3), .int .i64 (F 4), .int .i64 (F 5), .int .i64 sx3, .slice ax3 nx3 cx3, .int .i64 1, .slice bx3 mx3 dx3]) mq0)
  obtain ⟨q14, q15, q16, q17⟩ := Fb.cells4 (Q3.out.box (w2.heap.size, 28, [.int .i64 sx2, .slice ax2 nx2 cx2, .int .i64 1, .slice bx2 mx2 dx2]) mq1)
  go_wp2_with (first | refine wpList_store_row rfl _ _ _ rfl _ #[.int .i64 (F 0), .int .i64 (F 1), .int .i64 (F 2), .int .i64 (F 3), .int .i64 (F 4), .int .i64 (F 5), .int .i64 sx3, .slice ax3 nx3 cx3, .int .i64 1, .slice bx3 mx3 dx3] rfl rfl _ _ (P3.out.box _ List.mem_cons_self) (by kernel_rfl) rfl (by simp [Value.oneCell']) ?_)
  clear q4 q5 q6 q7 q8 q9 q10 q11 q12 q13 q14 q15 q16 q17
  refine (rfmul_r (Q3.out.fr (v := .slice ax3 nx3 cx3) (u := .slice bx3 mx3 dx3) (r := q) mq0 mq1 E3.out) (Q3.out.fr (v := .slice ax2 nx2 cx2) (u := .slice bx2 mx2 dx2) (r := p) mq2 mq3 E2.out) LQ.out LP.out HRR.out).mono ?_
  rintro e w4 ⟨sx4, ax4, nx4, cx4, bx4, mx4, dx4, rfl, hr, hb, hf, hg⟩
  have E4 := Lib.hid hr.1.1
  have R4 := Lib.hid (Q3.out.ret2 hb hr.1.2 hf hr.2.2 hg)
  have FF4 := Lib.hid (hf.mono Q3.out.below.size)
  have FG4 := Lib.hid (hg.mono Q3.out.below.size)
  clear hr hb hf hg
  have Q18 : Hid (Sf w ([] ++ (w3.heap.size, 30, [.int .i64 (F 0), .int .i64 (F 1), .int .i64 (F 2), .int .i64 (F 3), .int .i64 (F 4), .int .i64 (F 5), .int .i64 sx4, .slice ax4 nx4 cx4, .int .i64 1, .slice bx4 mx4 dx4]) :: [(w2.heap.size, 28, [.int .i64 sx2, .slice ax2 nx2 cx2, .int .i64 1, .slice bx2 mx2 dx2]), (w1.heap.size, 30, [.int .i64 (zf 0), .int .i64 (zf 1), .int .i64 (zf 2), .int .i64 (zf 3), .int .i64 (zf 4), .int .i64 (zf 5), .int .i64 0, .slice none 0 0, .int .i64 0, .slice none 0 0]), (w.heap.size, 30, [.int .i64 0, .int .i64 0, .int .i64 0, .int .i64 0, .int .i64 0, .int .i64 0, .int .i64 0, .slice none 0 0, .int .i64 0, .slice none 0 0])]) _ _) := Lib.hid (Sf.part (pre := []) R4.out 6 7 8 9 rfl rfl rfl (.int .i64 sx4) (.slice ax4 nx4 cx4) (.int .i64 1) (.slice bx4 mx4 dx4))
  obtain ⟨V18, hV18⟩ : ∃ V, (((((w4).setCell ⟨w3.heap.size, 6, none⟩ (.int .i64 sx4)).setCell ⟨w3.heap.size, 7, none⟩ (.slice ax4 nx4 cx4)).setCell ⟨w3.heap.size, 8, none⟩ (.int .i64 1)).setCell ⟨w3.heap.size, 9, none⟩ (.slice bx4 mx4 dx4)) = V := ⟨_, rfl⟩
  rw [hV18] at Q18
  have HV18 := Lib.hid hV18
  clear hV18
  obtain ⟨q19, q20, q21, q22, q23, q24, q25, q26, q27, q28⟩ := Fb.cells10 (Q18.out.box (w3.heap.size, 30, [.int .i64 (F 0), .int .i64 (F 1), .int .i64 (F 2), .int .i64 (F 3), .int .i64 (F 4), .int .i64 (F 5), .int .i64 sx4, .slice ax4 nx4 cx4, .int .i64 1, .slice bx4 mx4 dx4]) mq0)
  have Q29 := Lib.hid (Sf.row (pre := [(w3.heap.size, 30, [.int .i64 (F 0), .int .i64 (F 1), .int .i64 (F 2), .int .i64 (F 3), .int .i64 (F 4), .int .i64 (F 5), .int .i64 sx4, .slice ax4 nx4 cx4, .int .i64 1, .slice bx4 mx4 dx4]), (w2.heap.size, 28, [.int .i64 sx2, .slice ax2 nx2 cx2, .int .i64 1, .slice bx2 mx2 dx2]), (w1.heap.size, 30, [.int .i64 (zf 0), .int .i64 (zf 1), .int .i64 (zf 2), .int .i64 (zf 3), .int .i64 (zf 4), .int .i64 (zf 5), .int .i64 0, .slice none 0 0, .int .i64 0, .slice none 0 0])]) Q18.out [.int .i64 (F 0), .int .i64 (F 1), .int .i64 (F 2), .int .i64 (F 3), .int .i64 (F 4), .int .i64 (F 5), .int .i64 sx4, .slice ax4 nx4 cx4, .int .i64 1, .slice bx4 mx4 dx4])
  go_wp2_with (first | (refine wpList_store4 rfl _ _ _ rfl _ 6 7 8 9 rfl rfl rfl (.int .i64 sx4) (.slice ax4 nx4 cx4) (.int .i64 1) (.slice bx4 mx4 dx4) rfl rfl (R4.out.box _ mq0) (Nat.le_of_ble_eq_true rfl) infoFrac (by simp [Value.oneCell']) ?_; rw [HV18.out]) | refine wpList_store_row rfl _ _ _ rfl _ #[.int .i64 (F 0), .int .i64 (F 1), .int .i64 (F 2), .int .i64 (F 3), .int .i64 (F 4), .int .i64 (F 5), .int .i64 sx4, .slice ax4 nx4 cx4, .int .i64 1, .slice bx4 mx4 dx4] rfl rfl _ _ (Q18.out.box _ mq3) (by kernel_rfl) rfl (by simp [Value.oneCell']) ?_)
  clear q19 q20 q21 q22 q23 q24 q25 q26 q27 q28
  refine bodyPost_ret (ret_row rfl _ _ _ _ rfl (run_loadVar_row _ _ _ _ _ (0, 0) _ (Q29.out.box _ mq3) Tryz.underlying30 rfl (by kernel_rfl))) rfl (HW.out _ HRR.out _ _ ⟨_, _, _, _, _, _, _, rfl, (Q29.out.fr (v := .slice ax4 nx4 cx4) (u := .slice bx4 mx4 dx4) (r := r) mq0 mq1 E4.out), Q29.out.below, FF4.out, FG4.out⟩)

set_option maxHeartbeats 8000000 in
theorem u9word_pm (s : ByteArray) (h : symL s.data.toList = none) (hs : 2 ≤ s.size) {p : Rat} {bb : Nat} {nn : Int} {q : Rat} (hp : preL s[0] = some p) (hq : symL (s.extract 1 s.size).data.toList = some (bb, nn, q)) (hc : (s.extract 1 s.size).data.toList = [109]) (w : World) : Calls Tryz.prog 39 #[.string s] w (WordEnd s.data.toList w) := by
  obtain ⟨hl1, hl2⟩ := word_list s hs
  rw [← hl2] at hl1
  have HC := Lib.hid (u9sym_none s h)
  obtain ⟨c, hy⟩ : ∃ c, s[0] = c := ⟨_, rfl⟩
  obtain ⟨S, hS⟩ : ∃ S, s.extract 1 s.size = S := ⟨_, rfl⟩
  rw [hy] at hl1 hp
  rw [hS] at hl1 hq hc
  have h0 : 0 < s.size := by omega
  have h2 : decide ((s.size : Int) < 2) = false := by simp; omega
  have HP := Lib.hid (fun W => u9prefix_some c hp W)
  have HQ := Lib.hid (fun W => u9sym_at S hq W)
  have HW := Lib.hid (fun (r : Rat) (hr : q * p = r) (e : Ending) (w' : World) (g : UVB (up zf bb nn) r true w e w') => word_some (L := s.data.toList) (word_good h hl1 hp hq (by rw [hc]; decide) hr) g)
  have LQ := Lib.hid ((sym_sz hq).1.mono (j := 1000))
  have LP := Lib.hid ((pre_sz hp).1.mono (j := 1000))
  obtain ⟨F, hF⟩ : ∃ F, up zf bb nn = F := ⟨_, rfl⟩
  rw [hF] at HW HQ
  obtain ⟨r, hr⟩ : ∃ r, q * p = r := ⟨_, rfl⟩
  have HRR := Lib.hid hr
  have hSS : S = ⟨#[109]⟩ := by
    apply ByteArray.ext; apply Array.ext'; rw [hc]
  subst hSS
  clear hF hr
  clear h hl1 hl2 hp hq hc
  have s0 := ((Sf.start w).put [.int .i64 0, .int .i64 0, .int .i64 0, .int .i64 0, .int .i64 0, .int .i64 0, .int .i64 0, .slice none 0 0, .int .i64 0, .slice none 0 0] 30)
  try simp only [World.size_alloc] at s0
  have S0 := Lib.hid s0
  clear s0
  unfold uc at HC
  go_enter Tryz.func39, Tryz.ntmps39
  go_wp2_with fail
  refine (HC.out _).mono ?_
  rintro e w1 ⟨rfl, hb⟩
  have R1 := Lib.hid (S0.out.later hb)
  clear hb
  have P1 := Lib.hid (R1.out.put [.int .i64 0, .int .i64 0, .int .i64 0, .int .i64 0, .int .i64 0, .int .i64 0, .int .i64 0, .slice none 0 0, .int .i64 0, .slice none 0 0] 30)
  have Q1 := Lib.hid (Sf.row (pre := []) P1.out [.int .i64 (zf 0), .int .i64 (zf 1), .int .i64 (zf 2), .int .i64 (zf 3), .int .i64 (zf 4), .int .i64 (zf 5), .int .i64 0, .slice none 0 0, .int .i64 0, .slice none 0 0])
  go_wp2_with (first | refine wpList_store_row rfl _ _ _ rfl _ #[.int .i64 (zf 0), .int .i64 (zf 1), .int .i64 (zf 2), .int .i64 (zf 3), .int .i64 (zf 4), .int .i64 (zf 5), .int .i64 0, .slice none 0 0, .int .i64 0, .slice none 0 0] rfl rfl _ _ (P1.out.box _ List.mem_cons_self) (by kernel_rfl) rfl (by simp [Value.oneCell']) ?_)
  refine (HP.out _).mono ?_
  rintro e w2 ⟨sx2, ax2, nx2, cx2, bx2, mx2, dx2, rfl, hr, hb, hf, hg⟩
  have E2 := Lib.hid hr.1.1
  have R2 := Lib.hid (Q1.out.ret2 hb hr.1.2 hf hr.2.2 hg)
  have FF2 := Lib.hid (hf.mono Q1.out.below.size)
  have FG2 := Lib.hid (hg.mono Q1.out.below.size)
  clear hr hb hf hg
  have P2 := Lib.hid (R2.out.put [.int .i64 0, .slice none 0 0, .int .i64 0, .slice none 0 0] 28)
  have Q2 := Lib.hid (Sf.row (pre := []) P2.out [.int .i64 sx2, .slice ax2 nx2 cx2, .int .i64 1, .slice bx2 mx2 dx2])
  go_wp2_with (first | refine wpList_store_row rfl _ _ _ rfl _ #[.int .i64 sx2, .slice ax2 nx2 cx2, .int .i64 1, .slice bx2 mx2 dx2] rfl rfl _ _ (P2.out.box _ List.mem_cons_self) (by kernel_rfl) rfl (by simp [Value.oneCell']) ?_)
  refine (HQ.out _).mono ?_
  rintro e w3 ⟨sx3, ax3, nx3, cx3, bx3, mx3, dx3, rfl, hr, hb, hf, hg⟩
  have E3 := Lib.hid hr.1.1
  have R3 := Lib.hid (Q2.out.ret2 hb hr.1.2 hf hr.2.2 hg)
  have FF3 := Lib.hid (hf.mono Q2.out.below.size)
  have FG3 := Lib.hid (hg.mono Q2.out.below.size)
  clear hr hb hf hg
  have P3 := Lib.hid (R3.out.put [.int .i64 0, .int .i64 0, .int .i64 0, .int .i64 0, .int .i64 0, .int .i64 0, .int .i64 0, .slice none 0 0, .int .i64 0, .slice none 0 0] 30)
  have Q3 := Lib.hid (Sf.row (pre := []) P3.out [.int .i64 (F 0), .int .i64 (F 1), .int .i64 (F 2), .int .i64 (F 3), .int .i64 (F 4), .int .i64 (F 5), .int .i64 sx3, .slice ax3 nx3 cx3, .int .i64 1, .slice bx3 mx3 dx3])
  obtain ⟨q4, q5, q6, q7, q8, q9, q10, q11, q12, q13⟩ := Fb.cells10 (Q3.out.box (w3.heap.size, 30, [.int .i64 (F 0), .int .i64 (F 1), .int .i64 (F 2), .int .i64 (F 3), .int .i64 (F 4), .int .i64 (F 5), .int .i64 sx3, .slice ax3 nx3 cx3, .int .i64 1, .slice bx3 mx3 dx3]) mq0)
  obtain ⟨q14, q15, q16, q17⟩ := Fb.cells4 (Q3.out.box (w2.heap.size, 28, [.int .i64 sx2, .slice ax2 nx2 cx2, .int .i64 1, .slice bx2 mx2 dx2]) mq1)
  go_wp2_with (first | refine wpList_store_row rfl _ _ _ rfl _ #[.int .i64 (F 0), .int .i64 (F 1), .int .i64 (F 2), .int .i64 (F 3), .int .i64 (F 4), .int .i64 (F 5), .int .i64 sx3, .slice ax3 nx3 cx3, .int .i64 1, .slice bx3 mx3 dx3] rfl rfl _ _ (P3.out.box _ List.mem_cons_self) (by kernel_rfl) rfl (by simp [Value.oneCell']) ?_)
  clear q4 q5 q6 q7 q8 q9 q10 q11 q12 q13 q14 q15 q16 q17
  refine (rfmul_r (Q3.out.fr (v := .slice ax3 nx3 cx3) (u := .slice bx3 mx3 dx3) (r := q) mq0 mq1 E3.out) (Q3.out.fr (v := .slice ax2 nx2 cx2) (u := .slice bx2 mx2 dx2) (r := p) mq2 mq3 E2.out) LQ.out LP.out HRR.out).mono ?_
  rintro e w4 ⟨sx4, ax4, nx4, cx4, bx4, mx4, dx4, rfl, hr, hb, hf, hg⟩
  have E4 := Lib.hid hr.1.1
  have R4 := Lib.hid (Q3.out.ret2 hb hr.1.2 hf hr.2.2 hg)
  have FF4 := Lib.hid (hf.mono Q3.out.below.size)
  have FG4 := Lib.hid (hg.mono Q3.out.below.size)
  clear hr hb hf hg
  have Q18 : Hid (Sf w ([] ++ (w3.heap.size, 30, [.int .i64 (F 0), .int .i64 (F 1), .int .i64 (F 2), .int .i64 (F 3), .int .i64 (F 4), .int .i64 (F 5), .int .i64 sx4, .slice ax4 nx4 cx4, .int .i64 1, .slice bx4 mx4 dx4]) :: [(w2.heap.size, 28, [.int .i64 sx2, .slice ax2 nx2 cx2, .int .i64 1, .slice bx2 mx2 dx2]), (w1.heap.size, 30, [.int .i64 (zf 0), .int .i64 (zf 1), .int .i64 (zf 2), .int .i64 (zf 3), .int .i64 (zf 4), .int .i64 (zf 5), .int .i64 0, .slice none 0 0, .int .i64 0, .slice none 0 0]), (w.heap.size, 30, [.int .i64 0, .int .i64 0, .int .i64 0, .int .i64 0, .int .i64 0, .int .i64 0, .int .i64 0, .slice none 0 0, .int .i64 0, .slice none 0 0])]) _ _) := Lib.hid (Sf.part (pre := []) R4.out 6 7 8 9 rfl rfl rfl (.int .i64 sx4) (.slice ax4 nx4 cx4) (.int .i64 1) (.slice bx4 mx4 dx4))
  obtain ⟨V18, hV18⟩ : ∃ V, (((((w4).setCell ⟨w3.heap.size, 6, none⟩ (.int .i64 sx4)).setCell ⟨w3.heap.size, 7, none⟩ (.slice ax4 nx4 cx4)).setCell ⟨w3.heap.size, 8, none⟩ (.int .i64 1)).setCell ⟨w3.heap.size, 9, none⟩ (.slice bx4 mx4 dx4)) = V := ⟨_, rfl⟩
  rw [hV18] at Q18
  have HV18 := Lib.hid hV18
  clear hV18
  obtain ⟨q19, q20, q21, q22, q23, q24, q25, q26, q27, q28⟩ := Fb.cells10 (Q18.out.box (w3.heap.size, 30, [.int .i64 (F 0), .int .i64 (F 1), .int .i64 (F 2), .int .i64 (F 3), .int .i64 (F 4), .int .i64 (F 5), .int .i64 sx4, .slice ax4 nx4 cx4, .int .i64 1, .slice bx4 mx4 dx4]) mq0)
  have Q29 := Lib.hid (Sf.row (pre := [(w3.heap.size, 30, [.int .i64 (F 0), .int .i64 (F 1), .int .i64 (F 2), .int .i64 (F 3), .int .i64 (F 4), .int .i64 (F 5), .int .i64 sx4, .slice ax4 nx4 cx4, .int .i64 1, .slice bx4 mx4 dx4]), (w2.heap.size, 28, [.int .i64 sx2, .slice ax2 nx2 cx2, .int .i64 1, .slice bx2 mx2 dx2]), (w1.heap.size, 30, [.int .i64 (zf 0), .int .i64 (zf 1), .int .i64 (zf 2), .int .i64 (zf 3), .int .i64 (zf 4), .int .i64 (zf 5), .int .i64 0, .slice none 0 0, .int .i64 0, .slice none 0 0])]) Q18.out [.int .i64 (F 0), .int .i64 (F 1), .int .i64 (F 2), .int .i64 (F 3), .int .i64 (F 4), .int .i64 (F 5), .int .i64 sx4, .slice ax4 nx4 cx4, .int .i64 1, .slice bx4 mx4 dx4])
  go_wp2_with (first | (refine wpList_store4 rfl _ _ _ rfl _ 6 7 8 9 rfl rfl rfl (.int .i64 sx4) (.slice ax4 nx4 cx4) (.int .i64 1) (.slice bx4 mx4 dx4) rfl rfl (R4.out.box _ mq0) (Nat.le_of_ble_eq_true rfl) infoFrac (by simp [Value.oneCell']) ?_; rw [HV18.out]) | refine wpList_store_row rfl _ _ _ rfl _ #[.int .i64 (F 0), .int .i64 (F 1), .int .i64 (F 2), .int .i64 (F 3), .int .i64 (F 4), .int .i64 (F 5), .int .i64 sx4, .slice ax4 nx4 cx4, .int .i64 1, .slice bx4 mx4 dx4] rfl rfl _ _ (Q18.out.box _ mq3) (by kernel_rfl) rfl (by simp [Value.oneCell']) ?_)
  clear q19 q20 q21 q22 q23 q24 q25 q26 q27 q28
  refine bodyPost_ret (ret_row rfl _ _ _ _ rfl (run_loadVar_row _ _ _ _ _ (0, 0) _ (Q29.out.box _ mq3) Tryz.underlying30 rfl (by kernel_rfl))) rfl (HW.out _ HRR.out _ _ ⟨_, _, _, _, _, _, _, rfl, (Q29.out.fr (v := .slice ax4 nx4 cx4) (u := .slice bx4 mx4 dx4) (r := r) mq0 mq1 E4.out), Q29.out.below, FF4.out, FG4.out⟩)

set_option maxHeartbeats 8000000 in
theorem u9word_pl (s : ByteArray) (h : symL s.data.toList = none) (hs : 2 ≤ s.size) {p : Rat} {bb : Nat} {nn : Int} {q : Rat} (hp : preL s[0] = some p) (hq : symL (s.extract 1 s.size).data.toList = some (bb, nn, q)) (hc : (s.extract 1 s.size).data.toList = [108]) (w : World) : Calls Tryz.prog 39 #[.string s] w (WordEnd s.data.toList w) := by
  obtain ⟨hl1, hl2⟩ := word_list s hs
  rw [← hl2] at hl1
  have HC := Lib.hid (u9sym_none s h)
  obtain ⟨c, hy⟩ : ∃ c, s[0] = c := ⟨_, rfl⟩
  obtain ⟨S, hS⟩ : ∃ S, s.extract 1 s.size = S := ⟨_, rfl⟩
  rw [hy] at hl1 hp
  rw [hS] at hl1 hq hc
  have h0 : 0 < s.size := by omega
  have h2 : decide ((s.size : Int) < 2) = false := by simp; omega
  have HP := Lib.hid (fun W => u9prefix_some c hp W)
  have HQ := Lib.hid (fun W => u9sym_at S hq W)
  have HW := Lib.hid (fun (r : Rat) (hr : q * p = r) (e : Ending) (w' : World) (g : UVB (up zf bb nn) r true w e w') => word_some (L := s.data.toList) (word_good h hl1 hp hq (by rw [hc]; decide) hr) g)
  have LQ := Lib.hid ((sym_sz hq).1.mono (j := 1000))
  have LP := Lib.hid ((pre_sz hp).1.mono (j := 1000))
  obtain ⟨F, hF⟩ : ∃ F, up zf bb nn = F := ⟨_, rfl⟩
  rw [hF] at HW HQ
  obtain ⟨r, hr⟩ : ∃ r, q * p = r := ⟨_, rfl⟩
  have HRR := Lib.hid hr
  have hSS : S = ⟨#[108]⟩ := by
    apply ByteArray.ext; apply Array.ext'; rw [hc]
  subst hSS
  clear hF hr
  clear h hl1 hl2 hp hq hc
  have s0 := ((Sf.start w).put [.int .i64 0, .int .i64 0, .int .i64 0, .int .i64 0, .int .i64 0, .int .i64 0, .int .i64 0, .slice none 0 0, .int .i64 0, .slice none 0 0] 30)
  try simp only [World.size_alloc] at s0
  have S0 := Lib.hid s0
  clear s0
  unfold uc at HC
  go_enter Tryz.func39, Tryz.ntmps39
  go_wp2_with fail
  refine (HC.out _).mono ?_
  rintro e w1 ⟨rfl, hb⟩
  have R1 := Lib.hid (S0.out.later hb)
  clear hb
  have P1 := Lib.hid (R1.out.put [.int .i64 0, .int .i64 0, .int .i64 0, .int .i64 0, .int .i64 0, .int .i64 0, .int .i64 0, .slice none 0 0, .int .i64 0, .slice none 0 0] 30)
  have Q1 := Lib.hid (Sf.row (pre := []) P1.out [.int .i64 (zf 0), .int .i64 (zf 1), .int .i64 (zf 2), .int .i64 (zf 3), .int .i64 (zf 4), .int .i64 (zf 5), .int .i64 0, .slice none 0 0, .int .i64 0, .slice none 0 0])
  go_wp2_with (first | refine wpList_store_row rfl _ _ _ rfl _ #[.int .i64 (zf 0), .int .i64 (zf 1), .int .i64 (zf 2), .int .i64 (zf 3), .int .i64 (zf 4), .int .i64 (zf 5), .int .i64 0, .slice none 0 0, .int .i64 0, .slice none 0 0] rfl rfl _ _ (P1.out.box _ List.mem_cons_self) (by kernel_rfl) rfl (by simp [Value.oneCell']) ?_)
  refine (HP.out _).mono ?_
  rintro e w2 ⟨sx2, ax2, nx2, cx2, bx2, mx2, dx2, rfl, hr, hb, hf, hg⟩
  have E2 := Lib.hid hr.1.1
  have R2 := Lib.hid (Q1.out.ret2 hb hr.1.2 hf hr.2.2 hg)
  have FF2 := Lib.hid (hf.mono Q1.out.below.size)
  have FG2 := Lib.hid (hg.mono Q1.out.below.size)
  clear hr hb hf hg
  have P2 := Lib.hid (R2.out.put [.int .i64 0, .slice none 0 0, .int .i64 0, .slice none 0 0] 28)
  have Q2 := Lib.hid (Sf.row (pre := []) P2.out [.int .i64 sx2, .slice ax2 nx2 cx2, .int .i64 1, .slice bx2 mx2 dx2])
  go_wp2_with (first | refine wpList_store_row rfl _ _ _ rfl _ #[.int .i64 sx2, .slice ax2 nx2 cx2, .int .i64 1, .slice bx2 mx2 dx2] rfl rfl _ _ (P2.out.box _ List.mem_cons_self) (by kernel_rfl) rfl (by simp [Value.oneCell']) ?_)
  refine (HQ.out _).mono ?_
  rintro e w3 ⟨sx3, ax3, nx3, cx3, bx3, mx3, dx3, rfl, hr, hb, hf, hg⟩
  have E3 := Lib.hid hr.1.1
  have R3 := Lib.hid (Q2.out.ret2 hb hr.1.2 hf hr.2.2 hg)
  have FF3 := Lib.hid (hf.mono Q2.out.below.size)
  have FG3 := Lib.hid (hg.mono Q2.out.below.size)
  clear hr hb hf hg
  have P3 := Lib.hid (R3.out.put [.int .i64 0, .int .i64 0, .int .i64 0, .int .i64 0, .int .i64 0, .int .i64 0, .int .i64 0, .slice none 0 0, .int .i64 0, .slice none 0 0] 30)
  have Q3 := Lib.hid (Sf.row (pre := []) P3.out [.int .i64 (F 0), .int .i64 (F 1), .int .i64 (F 2), .int .i64 (F 3), .int .i64 (F 4), .int .i64 (F 5), .int .i64 sx3, .slice ax3 nx3 cx3, .int .i64 1, .slice bx3 mx3 dx3])
  obtain ⟨q4, q5, q6, q7, q8, q9, q10, q11, q12, q13⟩ := Fb.cells10 (Q3.out.box (w3.heap.size, 30, [.int .i64 (F 0), .int .i64 (F 1), .int .i64 (F 2), .int .i64 (F 3), .int .i64 (F 4), .int .i64 (F 5), .int .i64 sx3, .slice ax3 nx3 cx3, .int .i64 1, .slice bx3 mx3 dx3]) mq0)
  obtain ⟨q14, q15, q16, q17⟩ := Fb.cells4 (Q3.out.box (w2.heap.size, 28, [.int .i64 sx2, .slice ax2 nx2 cx2, .int .i64 1, .slice bx2 mx2 dx2]) mq1)
  go_wp2_with (first | refine wpList_store_row rfl _ _ _ rfl _ #[.int .i64 (F 0), .int .i64 (F 1), .int .i64 (F 2), .int .i64 (F 3), .int .i64 (F 4), .int .i64 (F 5), .int .i64 sx3, .slice ax3 nx3 cx3, .int .i64 1, .slice bx3 mx3 dx3] rfl rfl _ _ (P3.out.box _ List.mem_cons_self) (by kernel_rfl) rfl (by simp [Value.oneCell']) ?_)
  clear q4 q5 q6 q7 q8 q9 q10 q11 q12 q13 q14 q15 q16 q17
  refine (rfmul_r (Q3.out.fr (v := .slice ax3 nx3 cx3) (u := .slice bx3 mx3 dx3) (r := q) mq0 mq1 E3.out) (Q3.out.fr (v := .slice ax2 nx2 cx2) (u := .slice bx2 mx2 dx2) (r := p) mq2 mq3 E2.out) LQ.out LP.out HRR.out).mono ?_
  rintro e w4 ⟨sx4, ax4, nx4, cx4, bx4, mx4, dx4, rfl, hr, hb, hf, hg⟩
  have E4 := Lib.hid hr.1.1
  have R4 := Lib.hid (Q3.out.ret2 hb hr.1.2 hf hr.2.2 hg)
  have FF4 := Lib.hid (hf.mono Q3.out.below.size)
  have FG4 := Lib.hid (hg.mono Q3.out.below.size)
  clear hr hb hf hg
  have Q18 : Hid (Sf w ([] ++ (w3.heap.size, 30, [.int .i64 (F 0), .int .i64 (F 1), .int .i64 (F 2), .int .i64 (F 3), .int .i64 (F 4), .int .i64 (F 5), .int .i64 sx4, .slice ax4 nx4 cx4, .int .i64 1, .slice bx4 mx4 dx4]) :: [(w2.heap.size, 28, [.int .i64 sx2, .slice ax2 nx2 cx2, .int .i64 1, .slice bx2 mx2 dx2]), (w1.heap.size, 30, [.int .i64 (zf 0), .int .i64 (zf 1), .int .i64 (zf 2), .int .i64 (zf 3), .int .i64 (zf 4), .int .i64 (zf 5), .int .i64 0, .slice none 0 0, .int .i64 0, .slice none 0 0]), (w.heap.size, 30, [.int .i64 0, .int .i64 0, .int .i64 0, .int .i64 0, .int .i64 0, .int .i64 0, .int .i64 0, .slice none 0 0, .int .i64 0, .slice none 0 0])]) _ _) := Lib.hid (Sf.part (pre := []) R4.out 6 7 8 9 rfl rfl rfl (.int .i64 sx4) (.slice ax4 nx4 cx4) (.int .i64 1) (.slice bx4 mx4 dx4))
  obtain ⟨V18, hV18⟩ : ∃ V, (((((w4).setCell ⟨w3.heap.size, 6, none⟩ (.int .i64 sx4)).setCell ⟨w3.heap.size, 7, none⟩ (.slice ax4 nx4 cx4)).setCell ⟨w3.heap.size, 8, none⟩ (.int .i64 1)).setCell ⟨w3.heap.size, 9, none⟩ (.slice bx4 mx4 dx4)) = V := ⟨_, rfl⟩
  rw [hV18] at Q18
  have HV18 := Lib.hid hV18
  clear hV18
  obtain ⟨q19, q20, q21, q22, q23, q24, q25, q26, q27, q28⟩ := Fb.cells10 (Q18.out.box (w3.heap.size, 30, [.int .i64 (F 0), .int .i64 (F 1), .int .i64 (F 2), .int .i64 (F 3), .int .i64 (F 4), .int .i64 (F 5), .int .i64 sx4, .slice ax4 nx4 cx4, .int .i64 1, .slice bx4 mx4 dx4]) mq0)
  have Q29 := Lib.hid (Sf.row (pre := [(w3.heap.size, 30, [.int .i64 (F 0), .int .i64 (F 1), .int .i64 (F 2), .int .i64 (F 3), .int .i64 (F 4), .int .i64 (F 5), .int .i64 sx4, .slice ax4 nx4 cx4, .int .i64 1, .slice bx4 mx4 dx4]), (w2.heap.size, 28, [.int .i64 sx2, .slice ax2 nx2 cx2, .int .i64 1, .slice bx2 mx2 dx2]), (w1.heap.size, 30, [.int .i64 (zf 0), .int .i64 (zf 1), .int .i64 (zf 2), .int .i64 (zf 3), .int .i64 (zf 4), .int .i64 (zf 5), .int .i64 0, .slice none 0 0, .int .i64 0, .slice none 0 0])]) Q18.out [.int .i64 (F 0), .int .i64 (F 1), .int .i64 (F 2), .int .i64 (F 3), .int .i64 (F 4), .int .i64 (F 5), .int .i64 sx4, .slice ax4 nx4 cx4, .int .i64 1, .slice bx4 mx4 dx4])
  go_wp2_with (first | (refine wpList_store4 rfl _ _ _ rfl _ 6 7 8 9 rfl rfl rfl (.int .i64 sx4) (.slice ax4 nx4 cx4) (.int .i64 1) (.slice bx4 mx4 dx4) rfl rfl (R4.out.box _ mq0) (Nat.le_of_ble_eq_true rfl) infoFrac (by simp [Value.oneCell']) ?_; rw [HV18.out]) | refine wpList_store_row rfl _ _ _ rfl _ #[.int .i64 (F 0), .int .i64 (F 1), .int .i64 (F 2), .int .i64 (F 3), .int .i64 (F 4), .int .i64 (F 5), .int .i64 sx4, .slice ax4 nx4 cx4, .int .i64 1, .slice bx4 mx4 dx4] rfl rfl _ _ (Q18.out.box _ mq3) (by kernel_rfl) rfl (by simp [Value.oneCell']) ?_)
  clear q19 q20 q21 q22 q23 q24 q25 q26 q27 q28
  refine bodyPost_ret (ret_row rfl _ _ _ _ rfl (run_loadVar_row _ _ _ _ _ (0, 0) _ (Q29.out.box _ mq3) Tryz.underlying30 rfl (by kernel_rfl))) rfl (HW.out _ HRR.out _ _ ⟨_, _, _, _, _, _, _, rfl, (Q29.out.fr (v := .slice ax4 nx4 cx4) (u := .slice bx4 mx4 dx4) (r := r) mq0 mq1 E4.out), Q29.out.below, FF4.out, FG4.out⟩)

set_option maxHeartbeats 8000000 in
theorem u9word_ps (s : ByteArray) (h : symL s.data.toList = none) (hs : 2 ≤ s.size) {p : Rat} {bb : Nat} {nn : Int} {q : Rat} (hp : preL s[0] = some p) (hq : symL (s.extract 1 s.size).data.toList = some (bb, nn, q)) (hc : (s.extract 1 s.size).data.toList = [115]) (w : World) : Calls Tryz.prog 39 #[.string s] w (WordEnd s.data.toList w) := by
  obtain ⟨hl1, hl2⟩ := word_list s hs
  rw [← hl2] at hl1
  have HC := Lib.hid (u9sym_none s h)
  obtain ⟨c, hy⟩ : ∃ c, s[0] = c := ⟨_, rfl⟩
  obtain ⟨S, hS⟩ : ∃ S, s.extract 1 s.size = S := ⟨_, rfl⟩
  rw [hy] at hl1 hp
  rw [hS] at hl1 hq hc
  have h0 : 0 < s.size := by omega
  have h2 : decide ((s.size : Int) < 2) = false := by simp; omega
  have HP := Lib.hid (fun W => u9prefix_some c hp W)
  have HQ := Lib.hid (fun W => u9sym_at S hq W)
  have HW := Lib.hid (fun (r : Rat) (hr : q * p = r) (e : Ending) (w' : World) (g : UVB (up zf bb nn) r true w e w') => word_some (L := s.data.toList) (word_good h hl1 hp hq (by rw [hc]; decide) hr) g)
  have LQ := Lib.hid ((sym_sz hq).1.mono (j := 1000))
  have LP := Lib.hid ((pre_sz hp).1.mono (j := 1000))
  obtain ⟨F, hF⟩ : ∃ F, up zf bb nn = F := ⟨_, rfl⟩
  rw [hF] at HW HQ
  obtain ⟨r, hr⟩ : ∃ r, q * p = r := ⟨_, rfl⟩
  have HRR := Lib.hid hr
  have hSS : S = ⟨#[115]⟩ := by
    apply ByteArray.ext; apply Array.ext'; rw [hc]
  subst hSS
  clear hF hr
  clear h hl1 hl2 hp hq hc
  have s0 := ((Sf.start w).put [.int .i64 0, .int .i64 0, .int .i64 0, .int .i64 0, .int .i64 0, .int .i64 0, .int .i64 0, .slice none 0 0, .int .i64 0, .slice none 0 0] 30)
  try simp only [World.size_alloc] at s0
  have S0 := Lib.hid s0
  clear s0
  unfold uc at HC
  go_enter Tryz.func39, Tryz.ntmps39
  go_wp2_with fail
  refine (HC.out _).mono ?_
  rintro e w1 ⟨rfl, hb⟩
  have R1 := Lib.hid (S0.out.later hb)
  clear hb
  have P1 := Lib.hid (R1.out.put [.int .i64 0, .int .i64 0, .int .i64 0, .int .i64 0, .int .i64 0, .int .i64 0, .int .i64 0, .slice none 0 0, .int .i64 0, .slice none 0 0] 30)
  have Q1 := Lib.hid (Sf.row (pre := []) P1.out [.int .i64 (zf 0), .int .i64 (zf 1), .int .i64 (zf 2), .int .i64 (zf 3), .int .i64 (zf 4), .int .i64 (zf 5), .int .i64 0, .slice none 0 0, .int .i64 0, .slice none 0 0])
  go_wp2_with (first | refine wpList_store_row rfl _ _ _ rfl _ #[.int .i64 (zf 0), .int .i64 (zf 1), .int .i64 (zf 2), .int .i64 (zf 3), .int .i64 (zf 4), .int .i64 (zf 5), .int .i64 0, .slice none 0 0, .int .i64 0, .slice none 0 0] rfl rfl _ _ (P1.out.box _ List.mem_cons_self) (by kernel_rfl) rfl (by simp [Value.oneCell']) ?_)
  refine (HP.out _).mono ?_
  rintro e w2 ⟨sx2, ax2, nx2, cx2, bx2, mx2, dx2, rfl, hr, hb, hf, hg⟩
  have E2 := Lib.hid hr.1.1
  have R2 := Lib.hid (Q1.out.ret2 hb hr.1.2 hf hr.2.2 hg)
  have FF2 := Lib.hid (hf.mono Q1.out.below.size)
  have FG2 := Lib.hid (hg.mono Q1.out.below.size)
  clear hr hb hf hg
  have P2 := Lib.hid (R2.out.put [.int .i64 0, .slice none 0 0, .int .i64 0, .slice none 0 0] 28)
  have Q2 := Lib.hid (Sf.row (pre := []) P2.out [.int .i64 sx2, .slice ax2 nx2 cx2, .int .i64 1, .slice bx2 mx2 dx2])
  go_wp2_with (first | refine wpList_store_row rfl _ _ _ rfl _ #[.int .i64 sx2, .slice ax2 nx2 cx2, .int .i64 1, .slice bx2 mx2 dx2] rfl rfl _ _ (P2.out.box _ List.mem_cons_self) (by kernel_rfl) rfl (by simp [Value.oneCell']) ?_)
  refine (HQ.out _).mono ?_
  rintro e w3 ⟨sx3, ax3, nx3, cx3, bx3, mx3, dx3, rfl, hr, hb, hf, hg⟩
  have E3 := Lib.hid hr.1.1
  have R3 := Lib.hid (Q2.out.ret2 hb hr.1.2 hf hr.2.2 hg)
  have FF3 := Lib.hid (hf.mono Q2.out.below.size)
  have FG3 := Lib.hid (hg.mono Q2.out.below.size)
  clear hr hb hf hg
  have P3 := Lib.hid (R3.out.put [.int .i64 0, .int .i64 0, .int .i64 0, .int .i64 0, .int .i64 0, .int .i64 0, .int .i64 0, .slice none 0 0, .int .i64 0, .slice none 0 0] 30)
  have Q3 := Lib.hid (Sf.row (pre := []) P3.out [.int .i64 (F 0), .int .i64 (F 1), .int .i64 (F 2), .int .i64 (F 3), .int .i64 (F 4), .int .i64 (F 5), .int .i64 sx3, .slice ax3 nx3 cx3, .int .i64 1, .slice bx3 mx3 dx3])
  obtain ⟨q4, q5, q6, q7, q8, q9, q10, q11, q12, q13⟩ := Fb.cells10 (Q3.out.box (w3.heap.size, 30, [.int .i64 (F 0), .int .i64 (F 1), .int .i64 (F 2), .int .i64 (F 3), .int .i64 (F 4), .int .i64 (F 5), .int .i64 sx3, .slice ax3 nx3 cx3, .int .i64 1, .slice bx3 mx3 dx3]) mq0)
  obtain ⟨q14, q15, q16, q17⟩ := Fb.cells4 (Q3.out.box (w2.heap.size, 28, [.int .i64 sx2, .slice ax2 nx2 cx2, .int .i64 1, .slice bx2 mx2 dx2]) mq1)
  go_wp2_with (first | refine wpList_store_row rfl _ _ _ rfl _ #[.int .i64 (F 0), .int .i64 (F 1), .int .i64 (F 2), .int .i64 (F 3), .int .i64 (F 4), .int .i64 (F 5), .int .i64 sx3, .slice ax3 nx3 cx3, .int .i64 1, .slice bx3 mx3 dx3] rfl rfl _ _ (P3.out.box _ List.mem_cons_self) (by kernel_rfl) rfl (by simp [Value.oneCell']) ?_)
  clear q4 q5 q6 q7 q8 q9 q10 q11 q12 q13 q14 q15 q16 q17
  refine (rfmul_r (Q3.out.fr (v := .slice ax3 nx3 cx3) (u := .slice bx3 mx3 dx3) (r := q) mq0 mq1 E3.out) (Q3.out.fr (v := .slice ax2 nx2 cx2) (u := .slice bx2 mx2 dx2) (r := p) mq2 mq3 E2.out) LQ.out LP.out HRR.out).mono ?_
  rintro e w4 ⟨sx4, ax4, nx4, cx4, bx4, mx4, dx4, rfl, hr, hb, hf, hg⟩
  have E4 := Lib.hid hr.1.1
  have R4 := Lib.hid (Q3.out.ret2 hb hr.1.2 hf hr.2.2 hg)
  have FF4 := Lib.hid (hf.mono Q3.out.below.size)
  have FG4 := Lib.hid (hg.mono Q3.out.below.size)
  clear hr hb hf hg
  have Q18 : Hid (Sf w ([] ++ (w3.heap.size, 30, [.int .i64 (F 0), .int .i64 (F 1), .int .i64 (F 2), .int .i64 (F 3), .int .i64 (F 4), .int .i64 (F 5), .int .i64 sx4, .slice ax4 nx4 cx4, .int .i64 1, .slice bx4 mx4 dx4]) :: [(w2.heap.size, 28, [.int .i64 sx2, .slice ax2 nx2 cx2, .int .i64 1, .slice bx2 mx2 dx2]), (w1.heap.size, 30, [.int .i64 (zf 0), .int .i64 (zf 1), .int .i64 (zf 2), .int .i64 (zf 3), .int .i64 (zf 4), .int .i64 (zf 5), .int .i64 0, .slice none 0 0, .int .i64 0, .slice none 0 0]), (w.heap.size, 30, [.int .i64 0, .int .i64 0, .int .i64 0, .int .i64 0, .int .i64 0, .int .i64 0, .int .i64 0, .slice none 0 0, .int .i64 0, .slice none 0 0])]) _ _) := Lib.hid (Sf.part (pre := []) R4.out 6 7 8 9 rfl rfl rfl (.int .i64 sx4) (.slice ax4 nx4 cx4) (.int .i64 1) (.slice bx4 mx4 dx4))
  obtain ⟨V18, hV18⟩ : ∃ V, (((((w4).setCell ⟨w3.heap.size, 6, none⟩ (.int .i64 sx4)).setCell ⟨w3.heap.size, 7, none⟩ (.slice ax4 nx4 cx4)).setCell ⟨w3.heap.size, 8, none⟩ (.int .i64 1)).setCell ⟨w3.heap.size, 9, none⟩ (.slice bx4 mx4 dx4)) = V := ⟨_, rfl⟩
  rw [hV18] at Q18
  have HV18 := Lib.hid hV18
  clear hV18
  obtain ⟨q19, q20, q21, q22, q23, q24, q25, q26, q27, q28⟩ := Fb.cells10 (Q18.out.box (w3.heap.size, 30, [.int .i64 (F 0), .int .i64 (F 1), .int .i64 (F 2), .int .i64 (F 3), .int .i64 (F 4), .int .i64 (F 5), .int .i64 sx4, .slice ax4 nx4 cx4, .int .i64 1, .slice bx4 mx4 dx4]) mq0)
  have Q29 := Lib.hid (Sf.row (pre := [(w3.heap.size, 30, [.int .i64 (F 0), .int .i64 (F 1), .int .i64 (F 2), .int .i64 (F 3), .int .i64 (F 4), .int .i64 (F 5), .int .i64 sx4, .slice ax4 nx4 cx4, .int .i64 1, .slice bx4 mx4 dx4]), (w2.heap.size, 28, [.int .i64 sx2, .slice ax2 nx2 cx2, .int .i64 1, .slice bx2 mx2 dx2]), (w1.heap.size, 30, [.int .i64 (zf 0), .int .i64 (zf 1), .int .i64 (zf 2), .int .i64 (zf 3), .int .i64 (zf 4), .int .i64 (zf 5), .int .i64 0, .slice none 0 0, .int .i64 0, .slice none 0 0])]) Q18.out [.int .i64 (F 0), .int .i64 (F 1), .int .i64 (F 2), .int .i64 (F 3), .int .i64 (F 4), .int .i64 (F 5), .int .i64 sx4, .slice ax4 nx4 cx4, .int .i64 1, .slice bx4 mx4 dx4])
  go_wp2_with (first | (refine wpList_store4 rfl _ _ _ rfl _ 6 7 8 9 rfl rfl rfl (.int .i64 sx4) (.slice ax4 nx4 cx4) (.int .i64 1) (.slice bx4 mx4 dx4) rfl rfl (R4.out.box _ mq0) (Nat.le_of_ble_eq_true rfl) infoFrac (by simp [Value.oneCell']) ?_; rw [HV18.out]) | refine wpList_store_row rfl _ _ _ rfl _ #[.int .i64 (F 0), .int .i64 (F 1), .int .i64 (F 2), .int .i64 (F 3), .int .i64 (F 4), .int .i64 (F 5), .int .i64 sx4, .slice ax4 nx4 cx4, .int .i64 1, .slice bx4 mx4 dx4] rfl rfl _ _ (Q18.out.box _ mq3) (by kernel_rfl) rfl (by simp [Value.oneCell']) ?_)
  clear q19 q20 q21 q22 q23 q24 q25 q26 q27 q28
  refine bodyPost_ret (ret_row rfl _ _ _ _ rfl (run_loadVar_row _ _ _ _ _ (0, 0) _ (Q29.out.box _ mq3) Tryz.underlying30 rfl (by kernel_rfl))) rfl (HW.out _ HRR.out _ _ ⟨_, _, _, _, _, _, _, rfl, (Q29.out.fr (v := .slice ax4 nx4 cx4) (u := .slice bx4 mx4 dx4) (r := r) mq0 mq1 E4.out), Q29.out.below, FF4.out, FG4.out⟩)

set_option maxHeartbeats 8000000 in
theorem u9word_pJ (s : ByteArray) (h : symL s.data.toList = none) (hs : 2 ≤ s.size) {p : Rat} {bb : Nat} {nn : Int} {q : Rat} (hp : preL s[0] = some p) (hq : symL (s.extract 1 s.size).data.toList = some (bb, nn, q)) (hc : (s.extract 1 s.size).data.toList = [74]) (w : World) : Calls Tryz.prog 39 #[.string s] w (WordEnd s.data.toList w) := by
  obtain ⟨hl1, hl2⟩ := word_list s hs
  rw [← hl2] at hl1
  have HC := Lib.hid (u9sym_none s h)
  obtain ⟨c, hy⟩ : ∃ c, s[0] = c := ⟨_, rfl⟩
  obtain ⟨S, hS⟩ : ∃ S, s.extract 1 s.size = S := ⟨_, rfl⟩
  rw [hy] at hl1 hp
  rw [hS] at hl1 hq hc
  have h0 : 0 < s.size := by omega
  have h2 : decide ((s.size : Int) < 2) = false := by simp; omega
  have HP := Lib.hid (fun W => u9prefix_some c hp W)
  have HQ := Lib.hid (fun W => u9sym_at S hq W)
  have HW := Lib.hid (fun (r : Rat) (hr : q * p = r) (e : Ending) (w' : World) (g : UVB (up zf bb nn) r true w e w') => word_some (L := s.data.toList) (word_good h hl1 hp hq (by rw [hc]; decide) hr) g)
  have LQ := Lib.hid ((sym_sz hq).1.mono (j := 1000))
  have LP := Lib.hid ((pre_sz hp).1.mono (j := 1000))
  obtain ⟨F, hF⟩ : ∃ F, up zf bb nn = F := ⟨_, rfl⟩
  rw [hF] at HW HQ
  obtain ⟨r, hr⟩ : ∃ r, q * p = r := ⟨_, rfl⟩
  have HRR := Lib.hid hr
  have hSS : S = ⟨#[74]⟩ := by
    apply ByteArray.ext; apply Array.ext'; rw [hc]
  subst hSS
  clear hF hr
  clear h hl1 hl2 hp hq hc
  have s0 := ((Sf.start w).put [.int .i64 0, .int .i64 0, .int .i64 0, .int .i64 0, .int .i64 0, .int .i64 0, .int .i64 0, .slice none 0 0, .int .i64 0, .slice none 0 0] 30)
  try simp only [World.size_alloc] at s0
  have S0 := Lib.hid s0
  clear s0
  unfold uc at HC
  go_enter Tryz.func39, Tryz.ntmps39
  go_wp2_with fail
  refine (HC.out _).mono ?_
  rintro e w1 ⟨rfl, hb⟩
  have R1 := Lib.hid (S0.out.later hb)
  clear hb
  have P1 := Lib.hid (R1.out.put [.int .i64 0, .int .i64 0, .int .i64 0, .int .i64 0, .int .i64 0, .int .i64 0, .int .i64 0, .slice none 0 0, .int .i64 0, .slice none 0 0] 30)
  have Q1 := Lib.hid (Sf.row (pre := []) P1.out [.int .i64 (zf 0), .int .i64 (zf 1), .int .i64 (zf 2), .int .i64 (zf 3), .int .i64 (zf 4), .int .i64 (zf 5), .int .i64 0, .slice none 0 0, .int .i64 0, .slice none 0 0])
  go_wp2_with (first | refine wpList_store_row rfl _ _ _ rfl _ #[.int .i64 (zf 0), .int .i64 (zf 1), .int .i64 (zf 2), .int .i64 (zf 3), .int .i64 (zf 4), .int .i64 (zf 5), .int .i64 0, .slice none 0 0, .int .i64 0, .slice none 0 0] rfl rfl _ _ (P1.out.box _ List.mem_cons_self) (by kernel_rfl) rfl (by simp [Value.oneCell']) ?_)
  refine (HP.out _).mono ?_
  rintro e w2 ⟨sx2, ax2, nx2, cx2, bx2, mx2, dx2, rfl, hr, hb, hf, hg⟩
  have E2 := Lib.hid hr.1.1
  have R2 := Lib.hid (Q1.out.ret2 hb hr.1.2 hf hr.2.2 hg)
  have FF2 := Lib.hid (hf.mono Q1.out.below.size)
  have FG2 := Lib.hid (hg.mono Q1.out.below.size)
  clear hr hb hf hg
  have P2 := Lib.hid (R2.out.put [.int .i64 0, .slice none 0 0, .int .i64 0, .slice none 0 0] 28)
  have Q2 := Lib.hid (Sf.row (pre := []) P2.out [.int .i64 sx2, .slice ax2 nx2 cx2, .int .i64 1, .slice bx2 mx2 dx2])
  go_wp2_with (first | refine wpList_store_row rfl _ _ _ rfl _ #[.int .i64 sx2, .slice ax2 nx2 cx2, .int .i64 1, .slice bx2 mx2 dx2] rfl rfl _ _ (P2.out.box _ List.mem_cons_self) (by kernel_rfl) rfl (by simp [Value.oneCell']) ?_)
  refine (HQ.out _).mono ?_
  rintro e w3 ⟨sx3, ax3, nx3, cx3, bx3, mx3, dx3, rfl, hr, hb, hf, hg⟩
  have E3 := Lib.hid hr.1.1
  have R3 := Lib.hid (Q2.out.ret2 hb hr.1.2 hf hr.2.2 hg)
  have FF3 := Lib.hid (hf.mono Q2.out.below.size)
  have FG3 := Lib.hid (hg.mono Q2.out.below.size)
  clear hr hb hf hg
  have P3 := Lib.hid (R3.out.put [.int .i64 0, .int .i64 0, .int .i64 0, .int .i64 0, .int .i64 0, .int .i64 0, .int .i64 0, .slice none 0 0, .int .i64 0, .slice none 0 0] 30)
  have Q3 := Lib.hid (Sf.row (pre := []) P3.out [.int .i64 (F 0), .int .i64 (F 1), .int .i64 (F 2), .int .i64 (F 3), .int .i64 (F 4), .int .i64 (F 5), .int .i64 sx3, .slice ax3 nx3 cx3, .int .i64 1, .slice bx3 mx3 dx3])
  obtain ⟨q4, q5, q6, q7, q8, q9, q10, q11, q12, q13⟩ := Fb.cells10 (Q3.out.box (w3.heap.size, 30, [.int .i64 (F 0), .int .i64 (F 1), .int .i64 (F 2), .int .i64 (F 3), .int .i64 (F 4), .int .i64 (F 5), .int .i64 sx3, .slice ax3 nx3 cx3, .int .i64 1, .slice bx3 mx3 dx3]) mq0)
  obtain ⟨q14, q15, q16, q17⟩ := Fb.cells4 (Q3.out.box (w2.heap.size, 28, [.int .i64 sx2, .slice ax2 nx2 cx2, .int .i64 1, .slice bx2 mx2 dx2]) mq1)
  go_wp2_with (first | refine wpList_store_row rfl _ _ _ rfl _ #[.int .i64 (F 0), .int .i64 (F 1), .int .i64 (F 2), .int .i64 (F 3), .int .i64 (F 4), .int .i64 (F 5), .int .i64 sx3, .slice ax3 nx3 cx3, .int .i64 1, .slice bx3 mx3 dx3] rfl rfl _ _ (P3.out.box _ List.mem_cons_self) (by kernel_rfl) rfl (by simp [Value.oneCell']) ?_)
  clear q4 q5 q6 q7 q8 q9 q10 q11 q12 q13 q14 q15 q16 q17
  refine (rfmul_r (Q3.out.fr (v := .slice ax3 nx3 cx3) (u := .slice bx3 mx3 dx3) (r := q) mq0 mq1 E3.out) (Q3.out.fr (v := .slice ax2 nx2 cx2) (u := .slice bx2 mx2 dx2) (r := p) mq2 mq3 E2.out) LQ.out LP.out HRR.out).mono ?_
  rintro e w4 ⟨sx4, ax4, nx4, cx4, bx4, mx4, dx4, rfl, hr, hb, hf, hg⟩
  have E4 := Lib.hid hr.1.1
  have R4 := Lib.hid (Q3.out.ret2 hb hr.1.2 hf hr.2.2 hg)
  have FF4 := Lib.hid (hf.mono Q3.out.below.size)
  have FG4 := Lib.hid (hg.mono Q3.out.below.size)
  clear hr hb hf hg
  have Q18 : Hid (Sf w ([] ++ (w3.heap.size, 30, [.int .i64 (F 0), .int .i64 (F 1), .int .i64 (F 2), .int .i64 (F 3), .int .i64 (F 4), .int .i64 (F 5), .int .i64 sx4, .slice ax4 nx4 cx4, .int .i64 1, .slice bx4 mx4 dx4]) :: [(w2.heap.size, 28, [.int .i64 sx2, .slice ax2 nx2 cx2, .int .i64 1, .slice bx2 mx2 dx2]), (w1.heap.size, 30, [.int .i64 (zf 0), .int .i64 (zf 1), .int .i64 (zf 2), .int .i64 (zf 3), .int .i64 (zf 4), .int .i64 (zf 5), .int .i64 0, .slice none 0 0, .int .i64 0, .slice none 0 0]), (w.heap.size, 30, [.int .i64 0, .int .i64 0, .int .i64 0, .int .i64 0, .int .i64 0, .int .i64 0, .int .i64 0, .slice none 0 0, .int .i64 0, .slice none 0 0])]) _ _) := Lib.hid (Sf.part (pre := []) R4.out 6 7 8 9 rfl rfl rfl (.int .i64 sx4) (.slice ax4 nx4 cx4) (.int .i64 1) (.slice bx4 mx4 dx4))
  obtain ⟨V18, hV18⟩ : ∃ V, (((((w4).setCell ⟨w3.heap.size, 6, none⟩ (.int .i64 sx4)).setCell ⟨w3.heap.size, 7, none⟩ (.slice ax4 nx4 cx4)).setCell ⟨w3.heap.size, 8, none⟩ (.int .i64 1)).setCell ⟨w3.heap.size, 9, none⟩ (.slice bx4 mx4 dx4)) = V := ⟨_, rfl⟩
  rw [hV18] at Q18
  have HV18 := Lib.hid hV18
  clear hV18
  obtain ⟨q19, q20, q21, q22, q23, q24, q25, q26, q27, q28⟩ := Fb.cells10 (Q18.out.box (w3.heap.size, 30, [.int .i64 (F 0), .int .i64 (F 1), .int .i64 (F 2), .int .i64 (F 3), .int .i64 (F 4), .int .i64 (F 5), .int .i64 sx4, .slice ax4 nx4 cx4, .int .i64 1, .slice bx4 mx4 dx4]) mq0)
  have Q29 := Lib.hid (Sf.row (pre := [(w3.heap.size, 30, [.int .i64 (F 0), .int .i64 (F 1), .int .i64 (F 2), .int .i64 (F 3), .int .i64 (F 4), .int .i64 (F 5), .int .i64 sx4, .slice ax4 nx4 cx4, .int .i64 1, .slice bx4 mx4 dx4]), (w2.heap.size, 28, [.int .i64 sx2, .slice ax2 nx2 cx2, .int .i64 1, .slice bx2 mx2 dx2]), (w1.heap.size, 30, [.int .i64 (zf 0), .int .i64 (zf 1), .int .i64 (zf 2), .int .i64 (zf 3), .int .i64 (zf 4), .int .i64 (zf 5), .int .i64 0, .slice none 0 0, .int .i64 0, .slice none 0 0])]) Q18.out [.int .i64 (F 0), .int .i64 (F 1), .int .i64 (F 2), .int .i64 (F 3), .int .i64 (F 4), .int .i64 (F 5), .int .i64 sx4, .slice ax4 nx4 cx4, .int .i64 1, .slice bx4 mx4 dx4])
  go_wp2_with (first | (refine wpList_store4 rfl _ _ _ rfl _ 6 7 8 9 rfl rfl rfl (.int .i64 sx4) (.slice ax4 nx4 cx4) (.int .i64 1) (.slice bx4 mx4 dx4) rfl rfl (R4.out.box _ mq0) (Nat.le_of_ble_eq_true rfl) infoFrac (by simp [Value.oneCell']) ?_; rw [HV18.out]) | refine wpList_store_row rfl _ _ _ rfl _ #[.int .i64 (F 0), .int .i64 (F 1), .int .i64 (F 2), .int .i64 (F 3), .int .i64 (F 4), .int .i64 (F 5), .int .i64 sx4, .slice ax4 nx4 cx4, .int .i64 1, .slice bx4 mx4 dx4] rfl rfl _ _ (Q18.out.box _ mq3) (by kernel_rfl) rfl (by simp [Value.oneCell']) ?_)
  clear q19 q20 q21 q22 q23 q24 q25 q26 q27 q28
  refine bodyPost_ret (ret_row rfl _ _ _ _ rfl (run_loadVar_row _ _ _ _ _ (0, 0) _ (Q29.out.box _ mq3) Tryz.underlying30 rfl (by kernel_rfl))) rfl (HW.out _ HRR.out _ _ ⟨_, _, _, _, _, _, _, rfl, (Q29.out.fr (v := .slice ax4 nx4 cx4) (u := .slice bx4 mx4 dx4) (r := r) mq0 mq1 E4.out), Q29.out.below, FF4.out, FG4.out⟩)

set_option maxHeartbeats 8000000 in
theorem u9word_pWh (s : ByteArray) (h : symL s.data.toList = none) (hs : 2 ≤ s.size) {p : Rat} {bb : Nat} {nn : Int} {q : Rat} (hp : preL s[0] = some p) (hq : symL (s.extract 1 s.size).data.toList = some (bb, nn, q)) (hc : (s.extract 1 s.size).data.toList = [87, 104]) (w : World) : Calls Tryz.prog 39 #[.string s] w (WordEnd s.data.toList w) := by
  obtain ⟨hl1, hl2⟩ := word_list s hs
  rw [← hl2] at hl1
  have HC := Lib.hid (u9sym_none s h)
  obtain ⟨c, hy⟩ : ∃ c, s[0] = c := ⟨_, rfl⟩
  obtain ⟨S, hS⟩ : ∃ S, s.extract 1 s.size = S := ⟨_, rfl⟩
  rw [hy] at hl1 hp
  rw [hS] at hl1 hq hc
  have h0 : 0 < s.size := by omega
  have h2 : decide ((s.size : Int) < 2) = false := by simp; omega
  have HP := Lib.hid (fun W => u9prefix_some c hp W)
  have HQ := Lib.hid (fun W => u9sym_at S hq W)
  have HW := Lib.hid (fun (r : Rat) (hr : q * p = r) (e : Ending) (w' : World) (g : UVB (up zf bb nn) r true w e w') => word_some (L := s.data.toList) (word_good h hl1 hp hq (by rw [hc]; decide) hr) g)
  have LQ := Lib.hid ((sym_sz hq).1.mono (j := 1000))
  have LP := Lib.hid ((pre_sz hp).1.mono (j := 1000))
  obtain ⟨F, hF⟩ : ∃ F, up zf bb nn = F := ⟨_, rfl⟩
  rw [hF] at HW HQ
  obtain ⟨r, hr⟩ : ∃ r, q * p = r := ⟨_, rfl⟩
  have HRR := Lib.hid hr
  have hSS : S = ⟨#[87, 104]⟩ := by
    apply ByteArray.ext; apply Array.ext'; rw [hc]
  subst hSS
  clear hF hr
  clear h hl1 hl2 hp hq hc
  have s0 := ((Sf.start w).put [.int .i64 0, .int .i64 0, .int .i64 0, .int .i64 0, .int .i64 0, .int .i64 0, .int .i64 0, .slice none 0 0, .int .i64 0, .slice none 0 0] 30)
  try simp only [World.size_alloc] at s0
  have S0 := Lib.hid s0
  clear s0
  unfold uc at HC
  go_enter Tryz.func39, Tryz.ntmps39
  go_wp2_with fail
  refine (HC.out _).mono ?_
  rintro e w1 ⟨rfl, hb⟩
  have R1 := Lib.hid (S0.out.later hb)
  clear hb
  have P1 := Lib.hid (R1.out.put [.int .i64 0, .int .i64 0, .int .i64 0, .int .i64 0, .int .i64 0, .int .i64 0, .int .i64 0, .slice none 0 0, .int .i64 0, .slice none 0 0] 30)
  have Q1 := Lib.hid (Sf.row (pre := []) P1.out [.int .i64 (zf 0), .int .i64 (zf 1), .int .i64 (zf 2), .int .i64 (zf 3), .int .i64 (zf 4), .int .i64 (zf 5), .int .i64 0, .slice none 0 0, .int .i64 0, .slice none 0 0])
  go_wp2_with (first | refine wpList_store_row rfl _ _ _ rfl _ #[.int .i64 (zf 0), .int .i64 (zf 1), .int .i64 (zf 2), .int .i64 (zf 3), .int .i64 (zf 4), .int .i64 (zf 5), .int .i64 0, .slice none 0 0, .int .i64 0, .slice none 0 0] rfl rfl _ _ (P1.out.box _ List.mem_cons_self) (by kernel_rfl) rfl (by simp [Value.oneCell']) ?_)
  refine (HP.out _).mono ?_
  rintro e w2 ⟨sx2, ax2, nx2, cx2, bx2, mx2, dx2, rfl, hr, hb, hf, hg⟩
  have E2 := Lib.hid hr.1.1
  have R2 := Lib.hid (Q1.out.ret2 hb hr.1.2 hf hr.2.2 hg)
  have FF2 := Lib.hid (hf.mono Q1.out.below.size)
  have FG2 := Lib.hid (hg.mono Q1.out.below.size)
  clear hr hb hf hg
  have P2 := Lib.hid (R2.out.put [.int .i64 0, .slice none 0 0, .int .i64 0, .slice none 0 0] 28)
  have Q2 := Lib.hid (Sf.row (pre := []) P2.out [.int .i64 sx2, .slice ax2 nx2 cx2, .int .i64 1, .slice bx2 mx2 dx2])
  go_wp2_with (first | refine wpList_store_row rfl _ _ _ rfl _ #[.int .i64 sx2, .slice ax2 nx2 cx2, .int .i64 1, .slice bx2 mx2 dx2] rfl rfl _ _ (P2.out.box _ List.mem_cons_self) (by kernel_rfl) rfl (by simp [Value.oneCell']) ?_)
  refine (HQ.out _).mono ?_
  rintro e w3 ⟨sx3, ax3, nx3, cx3, bx3, mx3, dx3, rfl, hr, hb, hf, hg⟩
  have E3 := Lib.hid hr.1.1
  have R3 := Lib.hid (Q2.out.ret2 hb hr.1.2 hf hr.2.2 hg)
  have FF3 := Lib.hid (hf.mono Q2.out.below.size)
  have FG3 := Lib.hid (hg.mono Q2.out.below.size)
  clear hr hb hf hg
  have P3 := Lib.hid (R3.out.put [.int .i64 0, .int .i64 0, .int .i64 0, .int .i64 0, .int .i64 0, .int .i64 0, .int .i64 0, .slice none 0 0, .int .i64 0, .slice none 0 0] 30)
  have Q3 := Lib.hid (Sf.row (pre := []) P3.out [.int .i64 (F 0), .int .i64 (F 1), .int .i64 (F 2), .int .i64 (F 3), .int .i64 (F 4), .int .i64 (F 5), .int .i64 sx3, .slice ax3 nx3 cx3, .int .i64 1, .slice bx3 mx3 dx3])
  obtain ⟨q4, q5, q6, q7, q8, q9, q10, q11, q12, q13⟩ := Fb.cells10 (Q3.out.box (w3.heap.size, 30, [.int .i64 (F 0), .int .i64 (F 1), .int .i64 (F 2), .int .i64 (F 3), .int .i64 (F 4), .int .i64 (F 5), .int .i64 sx3, .slice ax3 nx3 cx3, .int .i64 1, .slice bx3 mx3 dx3]) mq0)
  obtain ⟨q14, q15, q16, q17⟩ := Fb.cells4 (Q3.out.box (w2.heap.size, 28, [.int .i64 sx2, .slice ax2 nx2 cx2, .int .i64 1, .slice bx2 mx2 dx2]) mq1)
  go_wp2_with (first | refine wpList_store_row rfl _ _ _ rfl _ #[.int .i64 (F 0), .int .i64 (F 1), .int .i64 (F 2), .int .i64 (F 3), .int .i64 (F 4), .int .i64 (F 5), .int .i64 sx3, .slice ax3 nx3 cx3, .int .i64 1, .slice bx3 mx3 dx3] rfl rfl _ _ (P3.out.box _ List.mem_cons_self) (by kernel_rfl) rfl (by simp [Value.oneCell']) ?_)
  clear q4 q5 q6 q7 q8 q9 q10 q11 q12 q13 q14 q15 q16 q17
  refine (rfmul_r (Q3.out.fr (v := .slice ax3 nx3 cx3) (u := .slice bx3 mx3 dx3) (r := q) mq0 mq1 E3.out) (Q3.out.fr (v := .slice ax2 nx2 cx2) (u := .slice bx2 mx2 dx2) (r := p) mq2 mq3 E2.out) LQ.out LP.out HRR.out).mono ?_
  rintro e w4 ⟨sx4, ax4, nx4, cx4, bx4, mx4, dx4, rfl, hr, hb, hf, hg⟩
  have E4 := Lib.hid hr.1.1
  have R4 := Lib.hid (Q3.out.ret2 hb hr.1.2 hf hr.2.2 hg)
  have FF4 := Lib.hid (hf.mono Q3.out.below.size)
  have FG4 := Lib.hid (hg.mono Q3.out.below.size)
  clear hr hb hf hg
  have Q18 : Hid (Sf w ([] ++ (w3.heap.size, 30, [.int .i64 (F 0), .int .i64 (F 1), .int .i64 (F 2), .int .i64 (F 3), .int .i64 (F 4), .int .i64 (F 5), .int .i64 sx4, .slice ax4 nx4 cx4, .int .i64 1, .slice bx4 mx4 dx4]) :: [(w2.heap.size, 28, [.int .i64 sx2, .slice ax2 nx2 cx2, .int .i64 1, .slice bx2 mx2 dx2]), (w1.heap.size, 30, [.int .i64 (zf 0), .int .i64 (zf 1), .int .i64 (zf 2), .int .i64 (zf 3), .int .i64 (zf 4), .int .i64 (zf 5), .int .i64 0, .slice none 0 0, .int .i64 0, .slice none 0 0]), (w.heap.size, 30, [.int .i64 0, .int .i64 0, .int .i64 0, .int .i64 0, .int .i64 0, .int .i64 0, .int .i64 0, .slice none 0 0, .int .i64 0, .slice none 0 0])]) _ _) := Lib.hid (Sf.part (pre := []) R4.out 6 7 8 9 rfl rfl rfl (.int .i64 sx4) (.slice ax4 nx4 cx4) (.int .i64 1) (.slice bx4 mx4 dx4))
  obtain ⟨V18, hV18⟩ : ∃ V, (((((w4).setCell ⟨w3.heap.size, 6, none⟩ (.int .i64 sx4)).setCell ⟨w3.heap.size, 7, none⟩ (.slice ax4 nx4 cx4)).setCell ⟨w3.heap.size, 8, none⟩ (.int .i64 1)).setCell ⟨w3.heap.size, 9, none⟩ (.slice bx4 mx4 dx4)) = V := ⟨_, rfl⟩
  rw [hV18] at Q18
  have HV18 := Lib.hid hV18
  clear hV18
  obtain ⟨q19, q20, q21, q22, q23, q24, q25, q26, q27, q28⟩ := Fb.cells10 (Q18.out.box (w3.heap.size, 30, [.int .i64 (F 0), .int .i64 (F 1), .int .i64 (F 2), .int .i64 (F 3), .int .i64 (F 4), .int .i64 (F 5), .int .i64 sx4, .slice ax4 nx4 cx4, .int .i64 1, .slice bx4 mx4 dx4]) mq0)
  have Q29 := Lib.hid (Sf.row (pre := [(w3.heap.size, 30, [.int .i64 (F 0), .int .i64 (F 1), .int .i64 (F 2), .int .i64 (F 3), .int .i64 (F 4), .int .i64 (F 5), .int .i64 sx4, .slice ax4 nx4 cx4, .int .i64 1, .slice bx4 mx4 dx4]), (w2.heap.size, 28, [.int .i64 sx2, .slice ax2 nx2 cx2, .int .i64 1, .slice bx2 mx2 dx2]), (w1.heap.size, 30, [.int .i64 (zf 0), .int .i64 (zf 1), .int .i64 (zf 2), .int .i64 (zf 3), .int .i64 (zf 4), .int .i64 (zf 5), .int .i64 0, .slice none 0 0, .int .i64 0, .slice none 0 0])]) Q18.out [.int .i64 (F 0), .int .i64 (F 1), .int .i64 (F 2), .int .i64 (F 3), .int .i64 (F 4), .int .i64 (F 5), .int .i64 sx4, .slice ax4 nx4 cx4, .int .i64 1, .slice bx4 mx4 dx4])
  go_wp2_with (first | (refine wpList_store4 rfl _ _ _ rfl _ 6 7 8 9 rfl rfl rfl (.int .i64 sx4) (.slice ax4 nx4 cx4) (.int .i64 1) (.slice bx4 mx4 dx4) rfl rfl (R4.out.box _ mq0) (Nat.le_of_ble_eq_true rfl) infoFrac (by simp [Value.oneCell']) ?_; rw [HV18.out]) | refine wpList_store_row rfl _ _ _ rfl _ #[.int .i64 (F 0), .int .i64 (F 1), .int .i64 (F 2), .int .i64 (F 3), .int .i64 (F 4), .int .i64 (F 5), .int .i64 sx4, .slice ax4 nx4 cx4, .int .i64 1, .slice bx4 mx4 dx4] rfl rfl _ _ (Q18.out.box _ mq3) (by kernel_rfl) rfl (by simp [Value.oneCell']) ?_)
  clear q19 q20 q21 q22 q23 q24 q25 q26 q27 q28
  refine bodyPost_ret (ret_row rfl _ _ _ _ rfl (run_loadVar_row _ _ _ _ _ (0, 0) _ (Q29.out.box _ mq3) Tryz.underlying30 rfl (by kernel_rfl))) rfl (HW.out _ HRR.out _ _ ⟨_, _, _, _, _, _, _, rfl, (Q29.out.fr (v := .slice ax4 nx4 cx4) (u := .slice bx4 mx4 dx4) (r := r) mq0 mq1 E4.out), Q29.out.below, FF4.out, FG4.out⟩)

theorem u9word_any (s : ByteArray) (w : World) : Calls Tryz.prog 39 #[.string s] w (WordEnd s.data.toList w) := by
  rcases h : symL s.data.toList with _ | ⟨b, n, q⟩
  · by_cases hs : s.size < 2
    · exact u9word_short s h hs w
    · have hs : 2 ≤ s.size := by omega
      rcases hp : preL s[0] with _ | p <;> rcases hq : symL (s.extract 1 s.size).data.toList with _ | ⟨b, n, q⟩
      · exact u9word_nn s h hs hp hq w
      · exact u9word_ns s h hs hp hq w
      · exact u9word_sn s h hs hp hq w
      · cases hc : canP (s.extract 1 s.size).data.toList with
        | false => exact u9word_no s h hs hp hq hc w
        | true =>
          unfold canP at hc
          simp only [Bool.or_eq_true, decide_eq_true_eq] at hc
          rcases hc with ((((hc | hc) | hc) | hc) | hc) | hc
          · exact u9word_pg s h hs hp hq hc w
          · exact u9word_pm s h hs hp hq hc w
          · exact u9word_pl s h hs hp hq hc w
          · exact u9word_ps s h hs hp hq hc w
          · exact u9word_pJ s h hs hp hq hc w
          · exact u9word_pWh s h hs hp hq hc w
  · exact u9word_sym s h w
end Go.Proofs.YtmhdhabgdlefjaaGreatDoor.Un

namespace Go.Proofs.YtmhdhabgdlefjaaGreatDoor.Un
open Go.RowKit Bi Dm

theorem pwN_sz {q : Rat} (h : FSz 100 q) : ∀ k, FSz (100 * k + 1) (pwN q k)
  | 0 => (FSz.one (by decide) (by decide) : FSz 1 (1 : Rat))
  | k + 1 => by
    have := (pwN_sz h k).mul h (k := 100 * (k + 1) + 1) (by omega)
    exact this
theorem pwN_le {q : Rat} (h : FSz 100 q) {k : Nat} (hk : k ≤ 9) : FSz 1000 (pwN q k) := (pwN_sz h k).mono (by omega)
theorem pwD_step {q : Rat} (h : q ≠ 0) (k : Nat) : 1 / pwN q k / q = 1 / pwN q (k + 1) := by
  have := pwN_ne h k
  show _ = 1 / (pwN q k * q)
  grind
theorem pwD_le {q : Rat} (h : FSz 100 q) (h0 : q ≠ 0) {k : Nat} (hk : k ≤ 9) : FSz 1000 (1 / pwN q k) :=
  ((FSz.one (by decide) (by decide) : FSz 1 (1 : Rat)).div (pwN_sz h k) (pwN_ne h0 k) (k := 100 * k + 2) (by omega)).mono (by omega)
theorem Sf.facts {w W : World} {L : List FBox} {F F' : List (Value × List Int)} (h : Sf w L F W) (hs : ∀ f ∈ F', f ∈ F) : Sf w L F' W :=
  ⟨h.below, h.le, h.box, fun f hf => h.ints f (hs f hf), fun f hf => h.off f (hs f hf), h.pw⟩

set_option maxHeartbeats 8000000 in
theorem u9power_up {w : World} {s1 : Int} {a1 b1 : Option Addr} {n1 c1 m1 d1 : Nat} {x : Rat} (hx : Fr w s1 (.slice a1 n1 c1) (.slice b1 m1 d1) x) (lx : FSz 100 x) (NN : Nat) (hn : NN ≤ 9) :
    Calls Tryz.prog 41 #[.agg #[.int .i64 s1, .slice a1 n1 c1, .int .i64 1, .slice b1 m1 d1], .int .i64 (NN : Int)] w (FV (pwN x NN) w) := by
  have Ex := Lib.hid hx.1.1
  have Lx := Lib.hid lx
  have LX := Lib.hid (Lx.out.mono (j := 1000))
  have HO := Lib.hid (fun W => rfint_r (z := 1) (r := 1) (by decide) rfl W)
  have s0 := (((((Sf.start w).arg hx.2.2).arg hx.1.2).put [.int .i64 s1, .slice a1 n1 c1, .int .i64 1, .slice b1 m1 d1] 28).put [.int .i64 0, .slice none 0 0, .int .i64 0, .slice none 0 0] 28)
  try simp only [World.size_alloc] at s0
  have S0 := Lib.hid s0
  clear s0
  clear hx lx
  go_enter Tryz.func41, Tryz.ntmps41
  go_wp2_with fail
  refine (HO.out _).mono ?_
  rintro e w1 ⟨sx1, ax1, nx1, cx1, bx1, mx1, dx1, rfl, hr, hb, hf, hg⟩
  have E1 := Lib.hid hr.1.1
  have R1 := Lib.hid (S0.out.ret2 hb hr.1.2 hf hr.2.2 hg)
  have FF1 := Lib.hid (hf.mono S0.out.below.size)
  have FG1 := Lib.hid (hg.mono S0.out.below.size)
  clear hr hb hf hg
  have P1 := Lib.hid (R1.out.put [.int .i64 0, .slice none 0 0, .int .i64 0, .slice none 0 0] 28)
  have Q1 := Lib.hid (Sf.row (pre := []) P1.out [.int .i64 sx1, .slice ax1 nx1 cx1, .int .i64 1, .slice bx1 mx1 dx1])
  go_wp2_with (first | refine wpList_store_row rfl _ _ _ rfl _ #[.int .i64 sx1, .slice ax1 nx1 cx1, .int .i64 1, .slice bx1 mx1 dx1] rfl rfl _ _ (P1.out.box _ List.mem_cons_self) (by kernel_rfl) rfl (by simp [Value.oneCell']) ?_)
  obtain ⟨B, hB⟩ : ∃ B, w1.heap.size = B := ⟨_, rfl⟩
  rw [hB] at Q1 ⊢
  obtain ⟨W0, hW0⟩ : ∃ W0, (w1.alloc (.cells #[.int .i64 0, .slice none 0 0, .int .i64 0, .slice none 0 0] 28)).setRow B #[.int .i64 sx1, .slice ax1 nx1 cx1, .int .i64 1, .slice bx1 mx1 dx1] = W0 := ⟨_, rfl⟩
  rw [hW0] at Q1 ⊢
  clear P1 hB hW0
  go_loopw [6] (fun t wr => ∃ (k : Nat) (s : Int) (a : Option Addr) (n c : Nat) (b : Option Addr) (m d : Nat) (R : Rat), k ≤ NN ∧ t = .int .i64 (k : Int) ∧ R = pwN x k ∧ s = R.num.sign ∧ Fresh w.heap.size (.slice a n c) ∧ Fresh w.heap.size (.slice b m d) ∧ Sf w [(B, 28, [.int .i64 s, .slice a n c, .int .i64 1, .slice b m d]), (w.heap.size + 1, 28, [.int .i64 0, .slice none 0 0, .int .i64 0, .slice none 0 0]), (w.heap.size, 28, [.int .i64 s1, .slice a1 n1 c1, .int .i64 1, .slice b1 m1 d1])] [(.slice a n c, digs (R).num.natAbs), (.slice b m d, digs (((R).den : Int)).natAbs), (.slice a1 n1 c1, digs (x).num.natAbs), (.slice b1 m1 d1, digs (((x).den : Int)).natAbs)] wr) (fun t _ => 10 - (RowKit.intOf t).toNat)
  case atStart => exact ⟨0, _, _, _, _, _, _, _, 1, Nat.zero_le _, rfl, rfl, E1.out, FF1.out, FG1.out, Q1.out⟩
  case round =>
    obtain ⟨k, sk, ak, nk, ck, bk, mk, dk, R, hk, rfl, hR, es, hfa, hfb, hS⟩ := hrel
    have ER := Lib.hid es
    have HS := Lib.hid hS
    have HFA := Lib.hid hfa
    have HFB := Lib.hid hfb
    clear es hS hfa hfb
    by_cases hlt : k < NN
    · have hlt2 : decide ((k : Int) < (NN : Int)) = true := by simp; omega
      have hw1 : IntKind.i64.wrap ((k : Int) + 1) = (k : Int) + 1 := IntWalk.i64_in _ (by omega)
      have LR := Lib.hid (show FSz 1000 R from by rw [hR]; exact pwN_le Lx.out (by omega))
      have HRR := Lib.hid (show R * x = pwN x (k + 1) from by rw [hR]; rfl)
      clear hR
      obtain ⟨q2, q3, q4, q5⟩ := Fb.cells4 (HS.out.box (B, 28, [.int .i64 sk, .slice ak nk ck, .int .i64 1, .slice bk mk dk]) mq0)
      obtain ⟨q6, q7, q8, q9⟩ := Fb.cells4 (HS.out.box (w.heap.size, 28, [.int .i64 s1, .slice a1 n1 c1, .int .i64 1, .slice b1 m1 d1]) mq2)
      go_wp2_with fail
      clear q2 q3 q4 q5 q6 q7 q8 q9
      refine (rfmul_r (HS.out.fr (v := .slice ak nk ck) (u := .slice bk mk dk) (r := R) mq0 mq1 ER.out) (HS.out.fr (v := .slice a1 n1 c1) (u := .slice b1 m1 d1) (r := x) mq2 mq3 Ex.out) LR.out LX.out HRR.out).mono ?_
      rintro e w2 ⟨sx2, ax2, nx2, cx2, bx2, mx2, dx2, rfl, hr, hb, hf, hg⟩
      have E2 := Lib.hid hr.1.1
      have R2 := Lib.hid (HS.out.ret2 hb hr.1.2 hf hr.2.2 hg)
      have FF2 := Lib.hid (hf.mono HS.out.below.size)
      have FG2 := Lib.hid (hg.mono HS.out.below.size)
      clear hr hb hf hg
      have Q10 := Lib.hid (Sf.row (pre := []) R2.out [.int .i64 sx2, .slice ax2 nx2 cx2, .int .i64 1, .slice bx2 mx2 dx2])
      go_wp2_with (first | refine wpList_store_row rfl _ _ _ rfl _ #[.int .i64 sx2, .slice ax2 nx2 cx2, .int .i64 1, .slice bx2 mx2 dx2] rfl rfl _ _ (R2.out.box _ mq0) (by kernel_rfl) rfl (by simp [Value.oneCell']) ?_)
      go_roundw
      case rel => exact ⟨k + 1, _, _, _, _, _, _, _, _, hlt, by go_num, rfl, E2.out, FF2.out, FG2.out, Sf.facts Q10.out (by simp)⟩
      case measure => simp [RowKit.intOf]; omega
    · obtain rfl : k = NN := by omega
      have hlt2 : decide ((k : Int) < (k : Int)) = false := by simp
      have hlt3 : decide (k < k) = false := by simp
      have hlt4 : decide ((k : Int) < 0) = false := by simp
      have hlt5 : decide (0 > (k : Int)) = false := by simp
      go_wp2_with fail
      go_loopw [7] (fun t wr2 => t = .int .i64 0 ∧ wr2 = wr) (fun t _ => 1)
      case atStart => exact ⟨rfl, rfl⟩
      case round =>
        obtain ⟨rfl, rfl⟩ := hrel
        obtain ⟨q11, q12, q13, q14⟩ := Fb.cells4 (HS.out.box (B, 28, [.int .i64 sk, .slice ak nk ck, .int .i64 1, .slice bk mk dk]) mq0)
        have Q15 := Lib.hid (Sf.row (pre := [(B, 28, [.int .i64 sk, .slice ak nk ck, .int .i64 1, .slice bk mk dk])]) HS.out [.int .i64 sk, .slice ak nk ck, .int .i64 1, .slice bk mk dk])
        go_wp2_with (first | refine wpList_store_row rfl _ _ _ rfl _ #[.int .i64 sk, .slice ak nk ck, .int .i64 1, .slice bk mk dk] rfl rfl _ _ (HS.out.box _ mq1) (by kernel_rfl) rfl (by simp [Value.oneCell']) ?_)
        clear q11 q12 q13 q14
        refine bodyPost_ret (results_cell_row rfl _ _ _ _ _ (0, 0) _ rfl (Q15.out.box _ mq1) Tryz.underlying28 rfl (by kernel_rfl)) rfl ⟨_, _, _, _, _, _, _, rfl, hR ▸ (Q15.out.fr (v := .slice ak nk ck) (u := .slice bk mk dk) (r := R) mq0 mq1 ER.out), Q15.out.below, HFA.out, HFB.out⟩

set_option maxHeartbeats 8000000 in
theorem u9power_down {w : World} {s1 : Int} {a1 b1 : Option Addr} {n1 c1 m1 d1 : Nat} {x : Rat} (hx : Fr w s1 (.slice a1 n1 c1) (.slice b1 m1 d1) x) (lx : FSz 100 x) (x0 : x ≠ 0) (NN : Nat) (hn : NN ≤ 9) (hn0 : 0 < NN) :
    Calls Tryz.prog 41 #[.agg #[.int .i64 s1, .slice a1 n1 c1, .int .i64 1, .slice b1 m1 d1], .int .i64 (-(NN : Int))] w (FV (1 / pwN x NN) w) := by
  have Ex := Lib.hid hx.1.1
  have Lx := Lib.hid lx
  have LX := Lib.hid (Lx.out.mono (j := 1000))
  have HO := Lib.hid (fun W => rfint_r (z := 1) (r := 1) (by decide) rfl W)
  have s0 := (((((Sf.start w).arg hx.2.2).arg hx.1.2).put [.int .i64 s1, .slice a1 n1 c1, .int .i64 1, .slice b1 m1 d1] 28).put [.int .i64 0, .slice none 0 0, .int .i64 0, .slice none 0 0] 28)
  try simp only [World.size_alloc] at s0
  have S0 := Lib.hid s0
  clear s0
  clear hx lx
  have X0 := Lib.hid x0
  clear x0
  go_enter Tryz.func41, Tryz.ntmps41
  go_wp2_with fail
  refine (HO.out _).mono ?_
  rintro e w1 ⟨sx1, ax1, nx1, cx1, bx1, mx1, dx1, rfl, hr, hb, hf, hg⟩
  have E1 := Lib.hid hr.1.1
  have R1 := Lib.hid (S0.out.ret2 hb hr.1.2 hf hr.2.2 hg)
  have FF1 := Lib.hid (hf.mono S0.out.below.size)
  have FG1 := Lib.hid (hg.mono S0.out.below.size)
  clear hr hb hf hg
  have P1 := Lib.hid (R1.out.put [.int .i64 0, .slice none 0 0, .int .i64 0, .slice none 0 0] 28)
  have Q1 := Lib.hid (Sf.row (pre := []) P1.out [.int .i64 sx1, .slice ax1 nx1 cx1, .int .i64 1, .slice bx1 mx1 dx1])
  go_wp2_with (first | refine wpList_store_row rfl _ _ _ rfl _ #[.int .i64 sx1, .slice ax1 nx1 cx1, .int .i64 1, .slice bx1 mx1 dx1] rfl rfl _ _ (P1.out.box _ List.mem_cons_self) (by kernel_rfl) rfl (by simp [Value.oneCell']) ?_)
  obtain ⟨B, hB⟩ : ∃ B, w1.heap.size = B := ⟨_, rfl⟩
  rw [hB] at Q1 ⊢
  obtain ⟨W0, hW0⟩ : ∃ W0, (w1.alloc (.cells #[.int .i64 0, .slice none 0 0, .int .i64 0, .slice none 0 0] 28)).setRow B #[.int .i64 sx1, .slice ax1 nx1 cx1, .int .i64 1, .slice bx1 mx1 dx1] = W0 := ⟨_, rfl⟩
  rw [hW0] at Q1 ⊢
  clear P1 hB hW0
  have hlt6 : decide ((0 : Int) < -(NN : Int)) = false := decide_eq_false (by omega)
  have hlt7 : (0 : Int) < -(NN : Int) ↔ False := iff_false_intro (by omega)
  go_loopw [6] (fun t wr2 => t = .int .i64 0 ∧ wr2 = W0) (fun t _ => 1)
  case atStart => exact ⟨rfl, rfl⟩
  case round =>
    obtain ⟨rfl, rfl⟩ := hrel
    go_wp2_with fail
    clear hlt6 hlt7
    go_loopw [7] (fun t wr => ∃ (k : Nat) (s : Int) (a : Option Addr) (n c : Nat) (b : Option Addr) (m d : Nat) (R : Rat), k ≤ NN ∧ t = .int .i64 (-(k : Int)) ∧ R = 1 / pwN x k ∧ s = R.num.sign ∧ Fresh w.heap.size (.slice a n c) ∧ Fresh w.heap.size (.slice b m d) ∧ Sf w [(B, 28, [.int .i64 s, .slice a n c, .int .i64 1, .slice b m d]), (w.heap.size + 1, 28, [.int .i64 0, .slice none 0 0, .int .i64 0, .slice none 0 0]), (w.heap.size, 28, [.int .i64 s1, .slice a1 n1 c1, .int .i64 1, .slice b1 m1 d1])] [(.slice a n c, digs (R).num.natAbs), (.slice b m d, digs (((R).den : Int)).natAbs), (.slice a1 n1 c1, digs (x).num.natAbs), (.slice b1 m1 d1, digs (((x).den : Int)).natAbs)] wr) (fun t _ => (10 + RowKit.intOf t).toNat)
    case atStart => exact ⟨0, _, _, _, _, _, _, _, 1, Nat.zero_le _, rfl, (by show (1 : Rat) = 1 / 1; rw [one_one]), E1.out, FF1.out, FG1.out, Q1.out⟩
    case round =>
      obtain ⟨k, sk, ak, nk, ck, bk, mk, dk, R, hk, rfl, hR, es, hfa, hfb, hS⟩ := hrel
      have ER := Lib.hid es
      have HS := Lib.hid hS
      have HFA := Lib.hid hfa
      have HFB := Lib.hid hfb
      clear es hS hfa hfb
      by_cases hlt : k < NN
      · have hlt2 : decide (-(NN : Int) < -(k : Int)) = true := by simp; omega
        have hlt3 : -(NN : Int) < -(k : Int) := by omega
        have hw1 : IntKind.i64.wrap (-(k : Int) - 1) = -(k : Int) - 1 := IntWalk.i64_in _ (by omega)
        have LR := Lib.hid (show FSz 1000 R from by rw [hR]; exact pwD_le Lx.out X0.out (by omega))
        have HRR := Lib.hid (show R / x = 1 / pwN x (k + 1) from by rw [hR]; exact pwD_step X0.out k)
        clear hR
        obtain ⟨q2, q3, q4, q5⟩ := Fb.cells4 (HS.out.box (B, 28, [.int .i64 sk, .slice ak nk ck, .int .i64 1, .slice bk mk dk]) mq0)
        obtain ⟨q6, q7, q8, q9⟩ := Fb.cells4 (HS.out.box (w.heap.size, 28, [.int .i64 s1, .slice a1 n1 c1, .int .i64 1, .slice b1 m1 d1]) mq2)
        go_wp2_with fail
        clear q2 q3 q4 q5 q6 q7 q8 q9
        refine (rfdiv_r (HS.out.fr (v := .slice ak nk ck) (u := .slice bk mk dk) (r := R) mq0 mq1 ER.out) (HS.out.fr (v := .slice a1 n1 c1) (u := .slice b1 m1 d1) (r := x) mq2 mq3 Ex.out) LR.out LX.out X0.out HRR.out).mono ?_
        rintro e w2 ⟨sx2, ax2, nx2, cx2, bx2, mx2, dx2, rfl, hr, hb, hf, hg⟩
        have E2 := Lib.hid hr.1.1
        have R2 := Lib.hid (HS.out.ret2 hb hr.1.2 hf hr.2.2 hg)
        have FF2 := Lib.hid (hf.mono HS.out.below.size)
        have FG2 := Lib.hid (hg.mono HS.out.below.size)
        clear hr hb hf hg
        have Q10 := Lib.hid (Sf.row (pre := []) R2.out [.int .i64 sx2, .slice ax2 nx2 cx2, .int .i64 1, .slice bx2 mx2 dx2])
        go_wp2_with (first | refine wpList_store_row rfl _ _ _ rfl _ #[.int .i64 sx2, .slice ax2 nx2 cx2, .int .i64 1, .slice bx2 mx2 dx2] rfl rfl _ _ (R2.out.box _ mq0) (by kernel_rfl) rfl (by simp [Value.oneCell']) ?_)
        go_roundw
        case rel => exact ⟨k + 1, _, _, _, _, _, _, _, _, hlt, by (first | go_num | (congr 1; omega)), rfl, E2.out, FF2.out, FG2.out, Sf.facts Q10.out (by simp)⟩
        case measure => simp [RowKit.intOf]; omega
      · obtain rfl : k = NN := by omega
        have hlt2 : decide (-(k : Int) < -(k : Int)) = false := by simp
        have hlt3 : decide (k < k) = false := by simp
        obtain ⟨q11, q12, q13, q14⟩ := Fb.cells4 (HS.out.box (B, 28, [.int .i64 sk, .slice ak nk ck, .int .i64 1, .slice bk mk dk]) mq0)
        have Q15 := Lib.hid (Sf.row (pre := [(B, 28, [.int .i64 sk, .slice ak nk ck, .int .i64 1, .slice bk mk dk])]) HS.out [.int .i64 sk, .slice ak nk ck, .int .i64 1, .slice bk mk dk])
        go_wp2_with (first | refine wpList_store_row rfl _ _ _ rfl _ #[.int .i64 sk, .slice ak nk ck, .int .i64 1, .slice bk mk dk] rfl rfl _ _ (HS.out.box _ mq1) (by kernel_rfl) rfl (by simp [Value.oneCell']) ?_)
        clear q11 q12 q13 q14
        refine bodyPost_ret (results_cell_row rfl _ _ _ _ _ (0, 0) _ rfl (Q15.out.box _ mq1) Tryz.underlying28 rfl (by kernel_rfl)) rfl ⟨_, _, _, _, _, _, _, rfl, hR ▸ (Q15.out.fr (v := .slice ak nk ck) (u := .slice bk mk dk) (r := R) mq0 mq1 ER.out), Q15.out.below, HFA.out, HFB.out⟩

/-- Any power from -9 to 9. -/
theorem u9power_k {w : World} {s1 : Int} {a1 b1 : Option Addr} {n1 c1 m1 d1 : Nat} {x : Rat} (hx : Fr w s1 (.slice a1 n1 c1) (.slice b1 m1 d1) x) (lx : FSz 100 x) (x0 : x ≠ 0) (n : Int) (hn : -9 ≤ n ∧ n ≤ 9) {r : Rat} (hr : pwZ x n = r) :
    Calls Tryz.prog 41 #[.agg #[.int .i64 s1, .slice a1 n1 c1, .int .i64 1, .slice b1 m1 d1], .int .i64 n] w (FV r w) := by
  subst hr
  unfold pwZ
  by_cases h : 0 ≤ n
  · rw [if_pos h]
    obtain ⟨k, rfl⟩ := Int.eq_ofNat_of_zero_le h
    rw [Int.toNat_natCast]
    exact u9power_up hx lx k (by omega)
  · rw [if_neg h]
    obtain ⟨k, hk⟩ := Int.eq_ofNat_of_zero_le (show 0 ≤ -n by omega)
    obtain rfl : n = -(k : Int) := by omega
    rw [Int.neg_neg, Int.toNat_natCast]
    exact u9power_down hx lx x0 k (by omega) (by omega)
end Go.Proofs.YtmhdhabgdlefjaaGreatDoor.Un

namespace Go.Proofs.YtmhdhabgdlefjaaGreatDoor.Un
open Go.RowKit Dm

def itc (x : List UInt8 × Int) : List Value := [sv x.1, .int .i64 x.2]
/-- The slice v has the items l, at the head of a block of its own if it has room for any. -/
def OwnIt (w : World) (v : Value) (l : List (List UInt8 × Int)) : Prop := Own w 70 2 v l.length (l.flatMap itc)
theorem OwnIt.nil (w : World) : OwnIt w (.slice none 0 0) [] := Own.nil w _ 2
theorem infoIt : (Tryz.prog.info? 70).map (fun i => (i.zero, i.size, i.bytes)) = some (some (.agg #[.string ⟨#[]⟩, .int .i64 0]), 2, 24) := by kernel_rfl
theorem OwnIt.snoc {w : World} {v : Value} {l : List (List UInt8 × Int)} (h : OwnIt w v l) (hl : l.length ≤ 1000000) (x : List UInt8 × Int) :
    ∃ a c w', (∀ ty, (Builtin.append_ #[43, 43] ty #[v, .slice (some ⟨w.heap.size, 0, none⟩) 1 1]).run Tryz.prog (w.alloc (.cells #[sv x.1, .int .i64 x.2] 70)) = .ok (.slice a (l.length + 1) c) w') ∧ OwnIt w' (.slice a (l.length + 1) c) (l ++ [x]) ∧
      (w.alloc (.cells #[sv x.1, .int .i64 x.2] 70)).grownBy w' (blk v) ∧ (blk (.slice a (l.length + 1) c) = none ∨ blk (.slice a (l.length + 1) c) = blk v ∨ blk (.slice a (l.length + 1) c) = some (w.heap.size + 1)) := by
  obtain ⟨i0, hi, hz0, hz1, hz2⟩ := info_parts infoIt
  have hown : Own (w.alloc (.cells #[sv x.1, .int .i64 x.2] 70)) 70 2 v l.length (l.flatMap itc) := Own.grown h (World.grownBy_alloc w _ none) (by cases hb : blk v <;> simp)
  have hsrc : Src Tryz.prog 2 43 (.slice (some ⟨w.heap.size, 0, none⟩) 1 1) 1 [sv x.1, .int .i64 x.2] (w.alloc (.cells #[sv x.1, .int .i64 x.2] 70)) :=
    Src.ofSlice _ Tryz.underlying43 _ 1 1 [sv x.1, .int .i64 x.2] (by simp) (World.news_of_block (cs := #[sv x.1, .int .i64 x.2]) (t := 70) (fr := (0, 0)) (alloc_at w _)) (by simp [Value.oneCell', sv])
  have hrun := fun ty => own_append (P := Tryz.prog) (t := 43) (tx := 43) (ty := ty) Tryz.underlying43 hi hz0 hz1 hz2 rfl hown hsrc (by unfold maxLen; omega) (by omega)
  obtain ⟨v', w', hr, h1, h2, h3⟩ := hrun 0
  obtain ⟨a, c, rfl, _, _⟩ := h1.shape
  refine ⟨a, c, w', fun ty => ?_, by unfold OwnIt; simpa [itc] using h1, h2, by simpa using h3⟩
  have : Builtin.append_ #[43, 43] ty #[v, .slice (some ⟨w.heap.size, 0, none⟩) 1 1] = Builtin.append_ #[43, 43] 0 #[v, .slice (some ⟨w.heap.size, 0, none⟩) 1 1] := rfl
  rw [this]; exact hr
theorem exp_suffix (s : List UInt8) : ∃ d, s = d ++ (expL s).2 := by
  cases s with
  | nil => exact ⟨[], rfl⟩
  | cons c r =>
    rw [expL]
    split
    · exact ⟨[c], rfl⟩
    · exact ⟨[], rfl⟩
theorem item_suffix {s r : List UInt8} {x : List UInt8 × Nat} (h : itemL s = some (x, r)) : ∃ d, s = d ++ r := by
  unfold itemL at h
  split at h
  · cases h
  · simp only [Option.some.injEq, Prod.mk.injEq] at h
    obtain ⟨d, hd⟩ := exp_suffix (s.dropWhile letterB)
    rw [h.2] at hd
    exact ⟨s.takeWhile letterB ++ d, by rw [List.append_assoc, ← hd, List.takeWhile_append_dropWhile]⟩
theorem drop_suffix {s r : List UInt8} {x : List UInt8 × Nat} {a : Nat} {S : List UInt8} (hS : S.drop a = s) (ha : a ≤ S.length) (h : itemL s = some (x, r)) : S.drop (S.length - r.length) = r ∧ a < S.length - r.length ∧ r.length ≤ S.length := by
  obtain ⟨d, hd⟩ := item_suffix h
  have hl := item_len h
  have h1 : s.length = S.length - a := by rw [← hS, List.length_drop]
  have h2 : S = S.take a ++ (d ++ r) := by rw [← hd, ← hS, List.take_append_drop]
  refine ⟨?_, by omega, by omega⟩
  conv => lhs; arg 2; rw [h2]
  rw [show S.length - r.length = (S.take a ++ d).length by
    have := congrArg List.length h2
    simp only [List.length_append] at this ⊢; omega, ← List.append_assoc, List.drop_left]
end Go.Proofs.YtmhdhabgdlefjaaGreatDoor.Un
