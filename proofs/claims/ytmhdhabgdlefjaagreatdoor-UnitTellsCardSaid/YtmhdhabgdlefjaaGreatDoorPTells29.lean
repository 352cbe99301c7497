/- The contracts of unit: isLetter, readPrefix, readItem. -/
import Derived.Test.YtmhdhabgdlefjaaGreatDoorPTells28
set_option maxRecDepth 100000
namespace Go.Proofs.YtmhdhabgdlefjaaGreatDoor.Un
open Go.RowKit Dm

theorem letterP_any (c : UInt8) (w : World) : Calls Tryz.prog 96 #[.int .u8 (c.toNat : Int)] w fun e w' => e = .returned (.bool (letterB c)) ∧ w' = w := by
  obtain ⟨R, hR⟩ : ∃ R : Int, (c.toNat : Int) = R := ⟨_, rfl⟩
  have hb : letterB c = ((decide (97 ≤ R) && decide (R ≤ 122)) || (decide (65 ≤ R) && decide (R ≤ 90))) := by
    unfold letterB; rw [Bool.eq_iff_iff]; simp; omega
  rw [hb, hR]
  clear hb hR
  by_cases h1 : 97 ≤ R <;> by_cases h2 : R ≤ 122 <;> by_cases h3 : 65 ≤ R <;> by_cases h4 : R ≤ 90
  all_goals
    first
    | (exfalso; omega)
    | (go_enter Tryz.func96, Tryz.ntmps96
       go_wp2
       go_ret
       exact ⟨by simp [h1, h2, h3, h4], rfl⟩)

/-- What readPrefix gives. -/
def preV (p : List UInt8) : Value := match preP p with
  | none => .tuple #[.int .i64 0, .int .i64 0, .bool false]
  | some (a, b) => .tuple #[.int .i64 a, .int .i64 b, .bool true]
set_option maxHeartbeats 1000000 in
theorem prefixP_any (s : ByteArray) (w : World) : Calls Tryz.prog 68 #[.string s] w fun e w' => e = .returned (preV s.data.toList) ∧ w' = w := by
  by_cases e0 : s.data.toList = []
  · have hs : s = ⟨#[]⟩ := by apply ByteArray.ext; apply Array.ext'; rw [e0]
    clear e0
    subst hs
    go_enter Tryz.func68, Tryz.ntmps68
    go_wp2
    exact bodyPost_ret (results_tmp3 rfl _ _ _) rfl ⟨rfl, rfl⟩
  by_cases e1 : s.data.toList = [107]
  · have hs : s = ⟨#[107]⟩ := by apply ByteArray.ext; apply Array.ext'; rw [e1]
    clear e1
    subst hs
    go_enter Tryz.func68, Tryz.ntmps68
    go_wp2
    exact bodyPost_ret (results_tmp3 rfl _ _ _) rfl ⟨rfl, rfl⟩
  by_cases e2 : s.data.toList = [77]
  · have hs : s = ⟨#[77]⟩ := by apply ByteArray.ext; apply Array.ext'; rw [e2]
    clear e2
    subst hs
    go_enter Tryz.func68, Tryz.ntmps68
    go_wp2
    exact bodyPost_ret (results_tmp3 rfl _ _ _) rfl ⟨rfl, rfl⟩
  by_cases e3 : s.data.toList = [71]
  · have hs : s = ⟨#[71]⟩ := by apply ByteArray.ext; apply Array.ext'; rw [e3]
    clear e3
    subst hs
    go_enter Tryz.func68, Tryz.ntmps68
    go_wp2
    exact bodyPost_ret (results_tmp3 rfl _ _ _) rfl ⟨rfl, rfl⟩
  by_cases e4 : s.data.toList = [109]
  · have hs : s = ⟨#[109]⟩ := by apply ByteArray.ext; apply Array.ext'; rw [e4]
    clear e4
    subst hs
    go_enter Tryz.func68, Tryz.ntmps68
    go_wp2
    exact bodyPost_ret (results_tmp3 rfl _ _ _) rfl ⟨rfl, rfl⟩
  have hv : preV s.data.toList = .tuple #[.int .i64 0, .int .i64 0, .bool false] := by
    unfold preV preP; rw [if_neg e0, if_neg e1, if_neg e2, if_neg e3, if_neg e4]
  rw [hv]
  obtain ⟨g0, h0, i0⟩ := no_bytes s [] e0
  obtain ⟨g1, h1, i1⟩ := no_bytes s [107] e1
  obtain ⟨g2, h2, i2⟩ := no_bytes s [77] e2
  obtain ⟨g3, h3, i3⟩ := no_bytes s [71] e3
  obtain ⟨g4, h4, i4⟩ := no_bytes s [109] e4
  clear hv e0 e1 e2 e3 e4
  go_enter Tryz.func68, Tryz.ntmps68
  go_wp2
  exact bodyPost_ret (results_tmp3 rfl _ _ _) rfl ⟨rfl, rfl⟩

/-- An item and a size, as results. -/
def riV (v : List UInt8) (n : Int) (i : Int) : Value := .tuple #[.agg #[sv v, .int .i64 n], .int .i64 i]
/-- What readItem gives for a sign and what follows. -/
def readItemV (c : UInt8) (r : List UInt8) : Value := if signB c then (match itemL r with
  | none => riV [] 0 0
  | some ((v, n), r') => riV v (if c = 47 then -(n : Int) else (n : Int)) ((r.length : Int) + 1 - r'.length)) else riV [] 0 0
theorem ri_sign {c : UInt8} (h : signB c = false) (r : List UInt8) : readItemV c r = riV [] 0 0 := by unfold readItemV; rw [h]; rfl
theorem ri_no {c : UInt8} {r : List UInt8} (h : (r.takeWhile letterB).length = 0) : readItemV c r = riV [] 0 0 := by
  have : itemL r = none := by unfold itemL; rw [if_pos (List.eq_nil_of_length_eq_zero h)]
  unfold readItemV; rw [this]; split <;> rfl
theorem ri_yes {c : UInt8} {r : List UInt8} {m : Nat} (hc : signB c = true) (h : (r.takeWhile letterB).length = m) (h0 : 0 < m) :
    readItemV c r = riV (r.take m) (if c = 47 then -((expL (r.drop m)).1 : Int) else ((expL (r.drop m)).1 : Int)) ((r.length : Int) + 1 - (expL (r.drop m)).2.length) := by
  have ht := tw_take (p := letterB) r
  rw [h] at ht
  have : itemL r = some ((r.take m, (expL (r.drop m)).1), (expL (r.drop m)).2) := by
    unfold itemL
    rw [if_neg (fun e => by rw [e] at h; simp at h; omega), ht.1, ht.2]
  unfold readItemV; rw [this, hc]; rfl
theorem sign_bytes {c : UInt8} (h : signB c = true) : (c = 42 ∧ (c.toNat : Int) = 42) ∨ (c = 47 ∧ (c.toNat : Int) = 47) := by
  unfold signB at h
  simp only [Bool.or_eq_true, decide_eq_true_eq] at h
  rcases h with rfl | rfl
  · exact .inl ⟨rfl, rfl⟩
  · exact .inr ⟨rfl, rfl⟩
theorem sign_not {c : UInt8} (h : signB c = false) : ((c.toNat : Int) == 42) = false ∧ ((c.toNat : Int) == 47) = false := by
  unfold signB at h
  simp only [Bool.or_eq_false_iff, decide_eq_false_iff_not] at h
  refine ⟨beq_eq_false_iff_ne.2 fun e => h.1 ?_, beq_eq_false_iff_ne.2 fun e => h.2 ?_⟩
  · apply UInt8.toNat.inj; show c.toNat = 42; omega
  · apply UInt8.toNat.inj; show c.toNat = 47; omega
/-- The block b holds an item. -/
def Jt (w : World) (b : Nat) (x : Value) (n : Int) : Prop := w.heap[b]? = some (.cells #[x, .int .i64 n] 67 (0, 0))
theorem Jt.lt {w : World} {b : Nat} {x : Value} {n : Int} (h : Jt w b x n) : b < w.heap.size := (Array.getElem?_eq_some_iff.1 h).1
theorem Jt.alloc {w : World} {b : Nat} {x : Value} {n : Int} (h : Jt w b x n) (o : Obj) : Jt (w.alloc o) b x n := (Below.heap_alloc w o b h.lt).trans h
theorem Jt.oth {w : World} {b b' : Nat} {x : Value} {n : Int} (h : Jt w b x n) (hne : b ≠ b') (c : Array Value) : Jt (w.setRow b' c) b x n := (setRow_other w b' b c hne).trans h
theorem Jt.row {w : World} {b : Nat} {x : Value} {n : Int} (h : Jt w b x n) (y : Value) (m : Int) : Jt (w.setRow b #[y, .int .i64 m]) b y m := setRow_heap w b _ _ _ _ h
theorem Jt.set {w : World} {b : Nat} {x : Value} {n : Int} (h : Jt w b x n) (m : Int) : Jt (w.setCell ⟨b, 1, none⟩ (.int .i64 m)) b x m := by
  have := heap_setCell_same w b 1 _ _ (.int .i64 m) h
  exact this
theorem Jt.other {w : World} {b b' : Nat} {x : Value} {n : Int} (h : Jt w b x n) (hne : b ≠ b') (k : Nat) (v : Value) : Jt (w.setCell ⟨b', k, none⟩ v) b x n := (Below.heap_setCell _ _ _ _ hne).trans h
theorem Jt.cells {w : World} {b : Nat} {x : Value} {n : Int} (h : Jt w b x n) : w.cell? ⟨b, 0, none⟩ = some x ∧ w.cell? ⟨b, 1, none⟩ = some (.int .i64 n) ∧ w.frozen? ⟨b, 1, none⟩ = false :=
  ⟨by rw [cell_of_row w b 0 _ _ _ h]; rfl, by rw [cell_of_row w b 1 _ _ _ h]; rfl, frozen_of_row w b 1 _ _ h⟩
theorem infoJ (x y : Value) : (Tryz.prog.info? 67).map (·.size) = some (#[x, y] : Array Value).size := by kernel_rfl

set_option maxHeartbeats 40000000 in
theorem readitem_any (s : ByteArray) {c : UInt8} {l : List UInt8} (hcl : s.data.toList = c :: l) (hs : s.size ≤ 1000) (w : World) : Calls Tryz.prog 66 #[.string s] w (Gives (readItemV c l) w) := by
  obtain ⟨W0, hW0⟩ : ∃ W0, w.alloc (.cells #[.string ⟨#[]⟩, .int .i64 0] 67) = W0 := ⟨_, rfl⟩
  have HB : Hid (RowKit.Below w.heap.size w W0) := Lib.hid (by rw [← hW0]; exact below_alloc _ _)
  have H0 : Hid (Jt W0 w.heap.size (.string ⟨#[]⟩) 0) := Lib.hid (by rw [← hW0]; exact heap_alloc_new w _)
  have HW := Lib.hid hW0
  have HL := Lib.hid (letterP_any)
  have hD1 : s.data.toList.drop 1 = l := by rw [hcl]; rfl
  have hsz : s.size = l.length + 1 := by rw [← sizeL s, hcl]; rfl
  have HLE := Lib.hid hD1
  have HSZ := Lib.hid hsz
  have hlt0 : decide ((0 : Int) < (s.size : Int)) = true := by simp; omega
  have hs1 : 0 < s.size := by omega
  have h0b : s[0]'hs1 = c := by
    have h := byte_at s 0 0 (by omega) (by simp [hcl])
    simp only [List.drop_zero, hcl, List.getElem_cons_zero, Nat.add_zero] at h
    exact h.symm
  have HC0 := Lib.hid h0b
  clear hW0 hD1 hcl h0b hlt0 hsz
  go_enter Tryz.func66, Tryz.ntmps66
  go_wp2_with fail
  rw [HW.out]
  go_loop [4] (fun i => ∃ k : Nat, k ≤ (l.takeWhile letterB).length ∧ i = .int .i64 ((1 + k : Nat) : Int)) (fun i => 1001 - (RowKit.intOf i).toNat)
  case atStart => exact ⟨0, by omega, rfl⟩
  case round =>
    obtain ⟨k, hk, rfl⟩ := hrel
    have htl := tw_len (p := letterB) l
    have hln : l.length = s.size - 1 := by have := HSZ.out; omega
    obtain ⟨N, hN⟩ : ∃ N, 1 + k = N := ⟨_, rfl⟩
    have hc0 := HC0.out
    by_cases hlt : N < s.size
    · have hlt2 : decide ((N : Int) < (s.size : Int)) = true := by simp; omega
      have hby := byte_at s 1 k (by omega) (by rw [HLE.out]; omega)
      have hstep : letterB s[N] = true → k + 1 ≤ (l.takeWhile letterB).length := fun h => tw_more l k hk (by omega) (by
        rw [← h]; congr 1; rw [show l[k] = (s.data.toList.drop 1)[k]'(by rw [HLE.out]; omega) by simp [HLE.out], hby]; simp [hN])
      have hstop : letterB s[N] = false → (l.takeWhile letterB).length = k := fun h => tw_stop l k hk (by omega) (by
        rw [← h]; congr 1; rw [show l[k] = (s.data.toList.drop 1)[k]'(by rw [HLE.out]; omega) by simp [HLE.out], hby]; simp [hN])
      rw [hN]
      by_cases hlet : letterB s[N] = true
      · have HST := Lib.hid (hstep hlet)
        have HLT : Hid (∀ w, Calls Tryz.prog 96 #[.int .u8 ((s[N]).toNat : Int)] w fun e w' => e = .returned (.bool true) ∧ w' = w) := Lib.hid (fun w => by have := HL.out (s[N]) w; rwa [hlet] at this)
        have HN1 : Hid (N + 1 ≤ 1000 ∧ N + 1 = 1 + (k + 1)) := Lib.hid ⟨by omega, by omega⟩
        obtain ⟨x, hx⟩ : ∃ x, s[N] = x := ⟨_, rfl⟩
        rw [hx] at HLT
        clear hstep hstop hby hlet hc0
        go_wp2_with fail
        refine (HLT.out _).mono ?_
        rintro e w5 ⟨rfl, rfl⟩
        go_wp2_with fail
        go_round
        case rel => exact ⟨k + 1, HST.out, by rw [← HN1.out.2]; rfl⟩
        case measure => have := HN1.out; simp [RowKit.intOf]; omega
      · have hm := hstop (by simpa using hlet)
        have HLT : Hid (∀ w, Calls Tryz.prog 96 #[.int .u8 ((s[N]).toNat : Int)] w fun e w' => e = .returned (.bool false) ∧ w' = w) := Lib.hid (fun w => by have := HL.out (s[N]) w; rwa [show letterB s[N] = false by simpa using hlet] at this)
        obtain ⟨x, hx⟩ : ∃ x, s[N] = x := ⟨_, rfl⟩
        rw [hx] at HLT
        clear hstep hstop hlet
        by_cases k0 : k = 0
        · have gk : ((N : Int) == 1) = true := by rw [beq_iff_eq]; omega
          have HV : Hid (readItemV c l = riV [] 0 0) := Lib.hid (ri_no (hm.trans k0))
          clear hm k0 hc0
          go_wp2_with fail
          refine (HLT.out _).mono ?_
          rintro e w5 ⟨rfl, rfl⟩
          go_wp2_with (first | refine wpList_store_row rfl _ _ _ rfl _ #[.string ⟨#[]⟩, .int .i64 0] rfl rfl _ _ H0.out (infoJ _ _) rfl (by simp [Value.oneCell']) ?_)
          refine bodyPost_ret (ret_row rfl _ _ _ _ rfl (run_loadVar_row _ _ _ _ _ (0, 0) _ (H0.out.row (.string ⟨#[]⟩) 0) Tryz.underlying67 rfl (infoJ _ _))) rfl ⟨by rw [HV.out]; rfl, below_row HB.out (Nat.le_refl _) _⟩
        have gk : ((N : Int) == 1) = false := by rw [beq_eq_false_iff_ne]; omega
        rcases hsg : signB c with _ | _
        · have HV : Hid (readItemV c l = riV [] 0 0) := Lib.hid (ri_sign hsg l)
          have gs := sign_not hsg
          have gs1 : ((c.toNat : Int) != 42) = true := by simp only [bne, gs.1]; rfl
          have gs2 : ((c.toNat : Int) != 47) = true := by simp only [bne, gs.2]; rfl
          obtain ⟨R0, hR0⟩ : ∃ R0 : Int, (c.toNat : Int) = R0 := ⟨_, rfl⟩
          rw [hR0] at gs1 gs2
          clear hm k0 gs hsg
          go_wp2_with fail
          refine (HLT.out _).mono ?_
          rintro e w5 ⟨rfl, rfl⟩
          go_wp2_with (first | refine wpList_store_row rfl _ _ _ rfl _ #[.string ⟨#[]⟩, .int .i64 0] rfl rfl _ _ H0.out (infoJ _ _) rfl (by simp [Value.oneCell']) ?_)
          refine bodyPost_ret (ret_row rfl _ _ _ _ rfl (run_loadVar_row _ _ _ _ _ (0, 0) _ (H0.out.row (.string ⟨#[]⟩) 0) Tryz.underlying67 rfl (infoJ _ _))) rfl ⟨by rw [HV.out]; rfl, below_row HB.out (Nat.le_refl _) _⟩
        have hry := ri_yes hsg hm (by omega)
        have hsl := slice_run s 1 N (by omega) (by omega)
        have hE := ext_take s 1 k
        rw [hN, HLE.out] at hE
        rw [hE] at hsl
        obtain ⟨X, hEE⟩ : ∃ X : ByteArray, (⟨(l.take k).toArray⟩ : ByteArray) = X := ⟨_, rfl⟩
        rw [hEE] at hsl
        have hs2 : ∀ W, (Instr.slice 9 (.string s) (some (.int .i64 1)) (some (.int .i64 (N : Int))) none).run Tryz.prog W = .ok (.string X) W := hsl
        have HE1 : Hid (sv (l.take k) = .string X) := Lib.hid (by unfold sv; rw [hEE])
        have HP : Hid (Jt (W0.alloc (.cells #[.string ⟨#[]⟩, .int .i64 0] 67)) W0.heap.size (.string ⟨#[]⟩) 0) := Lib.hid (heap_alloc_new W0 _)
        have P8 := HP.out.row (.string X) 1
        have P4 := (H0.out.alloc (.cells #[.string ⟨#[]⟩, .int .i64 0] 67)).oth (b' := W0.heap.size) (by have := H0.out.lt; omega) #[.string X, .int .i64 1]
        have PB := below_row ((HB.out).alloc HB.out.size (.cells #[.string ⟨#[]⟩, .int .i64 0] 67)) (b := W0.heap.size) HB.out.size #[.string X, .int .i64 1]
        clear hE hEE hsl
        have hD : l.drop k = x :: l.drop (k + 1) := by
          rw [List.drop_eq_getElem_cons (by omega)]
          congr 1
          rw [← hx, show l[k]'(by omega) = (s.data.toList.drop 1)[k]'(by rw [HLE.out]; omega) by simp [HLE.out], hby]; simp [hN]
        have hdl : (l.drop (k + 1)).length = s.size - N - 1 := by rw [List.length_drop]; omega
        have hsb : s[N] = x := hx
        rcases sign_bytes hsg with ⟨hc, hcb⟩ | ⟨hc, hcb⟩
        · rw [if_neg (by rw [hc]; decide)] at hry
          have gs1 : ((c.toNat : Int) != 42) = false := by rw [hcb]; decide
          have gs2 : ((c.toNat : Int) != 47) = true := by rw [hcb]; decide
          have gs3 : ((c.toNat : Int) == 47) = false := by rw [hcb]; decide
          clear hcb hc
          obtain ⟨R0, hR0⟩ : ∃ R0 : Int, (c.toNat : Int) = R0 := ⟨_, rfl⟩
          rw [hR0] at gs1 gs2 gs3
          by_cases h1 : 50 ≤ x.toNat
          · by_cases h2 : x.toNat ≤ 57
            · skip
              have hd : digitB x = true := by unfold digitB; simp [h1, h2]
              have g1 : decide (50 ≤ (x.toNat : Int)) = true := by simp; omega
              have g2 : decide ((x.toNat : Int) ≤ 57) = true := by simp; omega
              obtain ⟨R, hR⟩ : ∃ R : Int, (x.toNat : Int) - 48 = R := ⟨_, rfl⟩
              have hw1 : IntKind.u8.wrap R = R := IntWalk.u8_in _ (by omega)
              have hw2 : IntKind.i64.wrap R = R := IntWalk.i64_in _ (by omega)
              have hw3 : IntKind.i64.wrap (-R) = -R := IntWalk.i64_in _ (by omega)
              have HV : Hid (readItemV c l = riV (l.take k) (R) ((N : Int) + 1)) := Lib.hid (by
                rw [hry, hD, expL, if_pos hd]
                show riV _ (((x.toNat - 48 : Nat) : Int)) ((l.length : Int) + 1 - ((l.drop (k + 1)).length : Int)) = _
                rw [hdl]; congr 1 <;> omega)
              have HR := Lib.hid hR
              clear hm k0 hD hd hdl hby hry hsg
              have Q8 := P8.set R
              have Q4 := P4.other (b' := W0.heap.size) (by have := H0.out.lt; omega) 1 (.int .i64 R)
              have QB := (PB.setCell (p := ⟨W0.heap.size, 1, none⟩) HB.out.size (.int .i64 R))
              have hc8 := P8.cells
              have HZ8 := Lib.hid Q8
              have HZ4 := Lib.hid Q4
              have HZB := Lib.hid QB
              clear P8 P4 PB Q8 Q4 QB
              go_wp2_with fail
              refine (HLT.out _).mono ?_
              rintro e w5 ⟨rfl, rfl⟩
              go_wp2_with (first | refine wpList_store_row rfl _ _ _ rfl _ _ rfl rfl _ _ HP.out (infoJ _ _) rfl (by simp [Value.oneCell']) ?_ | refine wpList_load_row rfl _ _ rfl _ rfl _ _ _ _ HZ8.out Tryz.underlying67 rfl (infoJ _ _) ?_ | refine wpList_store_row rfl _ _ _ rfl _ _ rfl rfl _ _ HZ4.out (infoJ _ _) rfl (by simp [Value.oneCell']) ?_)
              refine bodyPost_ret (ret_row rfl _ _ _ _ rfl (run_loadVar_row _ _ _ _ _ (0, 0) _ (HZ4.out.row (.string X) (R)) Tryz.underlying67 rfl (infoJ _ _))) rfl ⟨by rw [HV.out, ← HE1.out]; rfl, below_row HZB.out (Nat.le_refl _) _⟩
            · skip
              have hd : digitB x = false := by unfold digitB; simp; omega
              have g1 : decide (50 ≤ (x.toNat : Int)) = true := by simp; omega
              have g2 : decide ((x.toNat : Int) ≤ 57) = false := by simp; omega
              have HV : Hid (readItemV c l = riV (l.take k) (1) (N : Int)) := Lib.hid (by
                rw [hry, hD, expL, hd]
                show riV _ (1) ((l.length : Int) + 1 - ((x :: l.drop (k + 1)).length : Int)) = _
                rw [List.length_cons, hdl]; congr 1; omega)
              clear hm k0 hD hd hdl hby hry hsg
              have HZ8 := Lib.hid P8
              have HZ4 := Lib.hid P4
              have HZB := Lib.hid PB
              clear P8 P4 PB
              go_wp2_with fail
              refine (HLT.out _).mono ?_
              rintro e w5 ⟨rfl, rfl⟩
              go_wp2_with (first | refine wpList_store_row rfl _ _ _ rfl _ _ rfl rfl _ _ HP.out (infoJ _ _) rfl (by simp [Value.oneCell']) ?_ | refine wpList_load_row rfl _ _ rfl _ rfl _ _ _ _ HZ8.out Tryz.underlying67 rfl (infoJ _ _) ?_ | refine wpList_store_row rfl _ _ _ rfl _ _ rfl rfl _ _ HZ4.out (infoJ _ _) rfl (by simp [Value.oneCell']) ?_)
              refine bodyPost_ret (ret_row rfl _ _ _ _ rfl (run_loadVar_row _ _ _ _ _ (0, 0) _ (HZ4.out.row (.string X) (1)) Tryz.underlying67 rfl (infoJ _ _))) rfl ⟨by rw [HV.out, ← HE1.out]; rfl, below_row HZB.out (Nat.le_refl _) _⟩
          · skip
            have hd : digitB x = false := by unfold digitB; simp; omega
            have g1 : decide (50 ≤ (x.toNat : Int)) = false := by simp; omega
            have HV : Hid (readItemV c l = riV (l.take k) (1) (N : Int)) := Lib.hid (by
              rw [hry, hD, expL, hd]
              show riV _ (1) ((l.length : Int) + 1 - ((x :: l.drop (k + 1)).length : Int)) = _
              rw [List.length_cons, hdl]; congr 1; omega)
            clear hm k0 hD hd hdl hby hry hsg
            have HZ8 := Lib.hid P8
            have HZ4 := Lib.hid P4
            have HZB := Lib.hid PB
            clear P8 P4 PB
            go_wp2_with fail
            refine (HLT.out _).mono ?_
            rintro e w5 ⟨rfl, rfl⟩
            go_wp2_with (first | refine wpList_store_row rfl _ _ _ rfl _ _ rfl rfl _ _ HP.out (infoJ _ _) rfl (by simp [Value.oneCell']) ?_ | refine wpList_load_row rfl _ _ rfl _ rfl _ _ _ _ HZ8.out Tryz.underlying67 rfl (infoJ _ _) ?_ | refine wpList_store_row rfl _ _ _ rfl _ _ rfl rfl _ _ HZ4.out (infoJ _ _) rfl (by simp [Value.oneCell']) ?_)
            refine bodyPost_ret (ret_row rfl _ _ _ _ rfl (run_loadVar_row _ _ _ _ _ (0, 0) _ (HZ4.out.row (.string X) (1)) Tryz.underlying67 rfl (infoJ _ _))) rfl ⟨by rw [HV.out, ← HE1.out]; rfl, below_row HZB.out (Nat.le_refl _) _⟩
        · rw [if_pos hc] at hry
          have gs1 : ((c.toNat : Int) != 42) = true := by rw [hcb]; decide
          have gs2 : ((c.toNat : Int) != 47) = false := by rw [hcb]; decide
          have gs3 : ((c.toNat : Int) == 47) = true := by rw [hcb]; decide
          clear hcb hc
          obtain ⟨R0, hR0⟩ : ∃ R0 : Int, (c.toNat : Int) = R0 := ⟨_, rfl⟩
          rw [hR0] at gs1 gs2 gs3
          by_cases h1 : 50 ≤ x.toNat
          · by_cases h2 : x.toNat ≤ 57
            · skip
              have hd : digitB x = true := by unfold digitB; simp [h1, h2]
              have g1 : decide (50 ≤ (x.toNat : Int)) = true := by simp; omega
              have g2 : decide ((x.toNat : Int) ≤ 57) = true := by simp; omega
              obtain ⟨R, hR⟩ : ∃ R : Int, (x.toNat : Int) - 48 = R := ⟨_, rfl⟩
              have hw1 : IntKind.u8.wrap R = R := IntWalk.u8_in _ (by omega)
              have hw2 : IntKind.i64.wrap R = R := IntWalk.i64_in _ (by omega)
              have hw3 : IntKind.i64.wrap (-R) = -R := IntWalk.i64_in _ (by omega)
              have HV : Hid (readItemV c l = riV (l.take k) (-R) ((N : Int) + 1)) := Lib.hid (by
                rw [hry, hD, expL, if_pos hd]
                show riV _ (-((x.toNat - 48 : Nat) : Int)) ((l.length : Int) + 1 - ((l.drop (k + 1)).length : Int)) = _
                rw [hdl]; congr 1 <;> omega)
              have HR := Lib.hid hR
              clear hm k0 hD hd hdl hby hry hsg
              have Q8 := P8.set R
              have Q4 := P4.other (b' := W0.heap.size) (by have := H0.out.lt; omega) 1 (.int .i64 R)
              have QB := (PB.setCell (p := ⟨W0.heap.size, 1, none⟩) HB.out.size (.int .i64 R))
              have hc8 := P8.cells
              have hc9 := Q8.cells
              have M8 := Q8.set (-R)
              have M4 := Q4.other (b' := W0.heap.size) (by have := H0.out.lt; omega) 1 (.int .i64 (-R))
              have MB := (QB.setCell (p := ⟨W0.heap.size, 1, none⟩) HB.out.size (.int .i64 (-R)))
              have HZ8 := Lib.hid M8
              have HZ4 := Lib.hid M4
              have HZB := Lib.hid MB
              clear P8 P4 PB Q8 Q4 QB M8 M4 MB
              go_wp2_with fail
              refine (HLT.out _).mono ?_
              rintro e w5 ⟨rfl, rfl⟩
              go_wp2_with (first | refine wpList_store_row rfl _ _ _ rfl _ _ rfl rfl _ _ HP.out (infoJ _ _) rfl (by simp [Value.oneCell']) ?_ | refine wpList_load_row rfl _ _ rfl _ rfl _ _ _ _ HZ8.out Tryz.underlying67 rfl (infoJ _ _) ?_ | refine wpList_store_row rfl _ _ _ rfl _ _ rfl rfl _ _ HZ4.out (infoJ _ _) rfl (by simp [Value.oneCell']) ?_)
              refine bodyPost_ret (ret_row rfl _ _ _ _ rfl (run_loadVar_row _ _ _ _ _ (0, 0) _ (HZ4.out.row (.string X) (-R)) Tryz.underlying67 rfl (infoJ _ _))) rfl ⟨by rw [HV.out, ← HE1.out]; rfl, below_row HZB.out (Nat.le_refl _) _⟩
            · skip
              have hd : digitB x = false := by unfold digitB; simp; omega
              have g1 : decide (50 ≤ (x.toNat : Int)) = true := by simp; omega
              have g2 : decide ((x.toNat : Int) ≤ 57) = false := by simp; omega
              have HV : Hid (readItemV c l = riV (l.take k) (-1) (N : Int)) := Lib.hid (by
                rw [hry, hD, expL, hd]
                show riV _ (-1) ((l.length : Int) + 1 - ((x :: l.drop (k + 1)).length : Int)) = _
                rw [List.length_cons, hdl]; congr 1; omega)
              clear hm k0 hD hd hdl hby hry hsg
              have hc9 := P8.cells
              have M8 := P8.set (-1)
              have M4 := P4.other (b' := W0.heap.size) (by have := H0.out.lt; omega) 1 (.int .i64 (-1))
              have MB := (PB.setCell (p := ⟨W0.heap.size, 1, none⟩) HB.out.size (.int .i64 (-1)))
              have HZ8 := Lib.hid M8
              have HZ4 := Lib.hid M4
              have HZB := Lib.hid MB
              clear P8 P4 PB M8 M4 MB
              go_wp2_with fail
              refine (HLT.out _).mono ?_
              rintro e w5 ⟨rfl, rfl⟩
              go_wp2_with (first | refine wpList_store_row rfl _ _ _ rfl _ _ rfl rfl _ _ HP.out (infoJ _ _) rfl (by simp [Value.oneCell']) ?_ | refine wpList_load_row rfl _ _ rfl _ rfl _ _ _ _ HZ8.out Tryz.underlying67 rfl (infoJ _ _) ?_ | refine wpList_store_row rfl _ _ _ rfl _ _ rfl rfl _ _ HZ4.out (infoJ _ _) rfl (by simp [Value.oneCell']) ?_)
              refine bodyPost_ret (ret_row rfl _ _ _ _ rfl (run_loadVar_row _ _ _ _ _ (0, 0) _ (HZ4.out.row (.string X) (-1)) Tryz.underlying67 rfl (infoJ _ _))) rfl ⟨by rw [HV.out, ← HE1.out]; rfl, below_row HZB.out (Nat.le_refl _) _⟩
          · skip
            have hd : digitB x = false := by unfold digitB; simp; omega
            have g1 : decide (50 ≤ (x.toNat : Int)) = false := by simp; omega
            have HV : Hid (readItemV c l = riV (l.take k) (-1) (N : Int)) := Lib.hid (by
              rw [hry, hD, expL, hd]
              show riV _ (-1) ((l.length : Int) + 1 - ((x :: l.drop (k + 1)).length : Int)) = _
              rw [List.length_cons, hdl]; congr 1; omega)
            clear hm k0 hD hd hdl hby hry hsg
            have hc9 := P8.cells
            have M8 := P8.set (-1)
            have M4 := P4.other (b' := W0.heap.size) (by have := H0.out.lt; omega) 1 (.int .i64 (-1))
            have MB := (PB.setCell (p := ⟨W0.heap.size, 1, none⟩) HB.out.size (.int .i64 (-1)))
            have HZ8 := Lib.hid M8
            have HZ4 := Lib.hid M4
            have HZB := Lib.hid MB
            clear P8 P4 PB M8 M4 MB
            go_wp2_with fail
            refine (HLT.out _).mono ?_
            rintro e w5 ⟨rfl, rfl⟩
            go_wp2_with (first | refine wpList_store_row rfl _ _ _ rfl _ _ rfl rfl _ _ HP.out (infoJ _ _) rfl (by simp [Value.oneCell']) ?_ | refine wpList_load_row rfl _ _ rfl _ rfl _ _ _ _ HZ8.out Tryz.underlying67 rfl (infoJ _ _) ?_ | refine wpList_store_row rfl _ _ _ rfl _ _ rfl rfl _ _ HZ4.out (infoJ _ _) rfl (by simp [Value.oneCell']) ?_)
            refine bodyPost_ret (ret_row rfl _ _ _ _ rfl (run_loadVar_row _ _ _ _ _ (0, 0) _ (HZ4.out.row (.string X) (-1)) Tryz.underlying67 rfl (infoJ _ _))) rfl ⟨by rw [HV.out, ← HE1.out]; rfl, below_row HZB.out (Nat.le_refl _) _⟩
    · have hm : (l.takeWhile letterB).length = k := by omega
      have hlt2 : decide ((N : Int) < (s.size : Int)) = false := by simp; omega
      rw [hN]
      by_cases k0 : k = 0
      · have gk : ((N : Int) == 1) = true := by rw [beq_iff_eq]; omega
        have HV : Hid (readItemV c l = riV [] 0 0) := Lib.hid (ri_no (hm.trans k0))
        clear hm k0 hc0
        go_wp2_with (first | refine wpList_store_row rfl _ _ _ rfl _ #[.string ⟨#[]⟩, .int .i64 0] rfl rfl _ _ H0.out (infoJ _ _) rfl (by simp [Value.oneCell']) ?_)
        refine bodyPost_ret (ret_row rfl _ _ _ _ rfl (run_loadVar_row _ _ _ _ _ (0, 0) _ (H0.out.row (.string ⟨#[]⟩) 0) Tryz.underlying67 rfl (infoJ _ _))) rfl ⟨by rw [HV.out]; rfl, below_row HB.out (Nat.le_refl _) _⟩
      have gk : ((N : Int) == 1) = false := by rw [beq_eq_false_iff_ne]; omega
      rcases hsg : signB c with _ | _
      · have HV : Hid (readItemV c l = riV [] 0 0) := Lib.hid (ri_sign hsg l)
        have gs := sign_not hsg
        have gs1 : ((c.toNat : Int) != 42) = true := by simp only [bne, gs.1]; rfl
        have gs2 : ((c.toNat : Int) != 47) = true := by simp only [bne, gs.2]; rfl
        obtain ⟨R0, hR0⟩ : ∃ R0 : Int, (c.toNat : Int) = R0 := ⟨_, rfl⟩
        rw [hR0] at gs1 gs2
        clear hm k0 gs hsg
        go_wp2_with (first | refine wpList_store_row rfl _ _ _ rfl _ #[.string ⟨#[]⟩, .int .i64 0] rfl rfl _ _ H0.out (infoJ _ _) rfl (by simp [Value.oneCell']) ?_)
        refine bodyPost_ret (ret_row rfl _ _ _ _ rfl (run_loadVar_row _ _ _ _ _ (0, 0) _ (H0.out.row (.string ⟨#[]⟩) 0) Tryz.underlying67 rfl (infoJ _ _))) rfl ⟨by rw [HV.out]; rfl, below_row HB.out (Nat.le_refl _) _⟩
      have hry := ri_yes hsg hm (by omega)
      have hsl := slice_run s 1 N (by omega) (by omega)
      have hE := ext_take s 1 k
      rw [hN, HLE.out] at hE
      rw [hE] at hsl
      obtain ⟨X, hEE⟩ : ∃ X : ByteArray, (⟨(l.take k).toArray⟩ : ByteArray) = X := ⟨_, rfl⟩
      rw [hEE] at hsl
      have hs2 : ∀ W, (Instr.slice 9 (.string s) (some (.int .i64 1)) (some (.int .i64 (N : Int))) none).run Tryz.prog W = .ok (.string X) W := hsl
      have HE1 : Hid (sv (l.take k) = .string X) := Lib.hid (by unfold sv; rw [hEE])
      have HP : Hid (Jt (W0.alloc (.cells #[.string ⟨#[]⟩, .int .i64 0] 67)) W0.heap.size (.string ⟨#[]⟩) 0) := Lib.hid (heap_alloc_new W0 _)
      have P8 := HP.out.row (.string X) 1
      have P4 := (H0.out.alloc (.cells #[.string ⟨#[]⟩, .int .i64 0] 67)).oth (b' := W0.heap.size) (by have := H0.out.lt; omega) #[.string X, .int .i64 1]
      have PB := below_row ((HB.out).alloc HB.out.size (.cells #[.string ⟨#[]⟩, .int .i64 0] 67)) (b := W0.heap.size) HB.out.size #[.string X, .int .i64 1]
      clear hE hEE hsl
      have hD : l.drop k = [] := List.drop_eq_nil_of_le (by omega)
      rcases sign_bytes hsg with ⟨hc, hcb⟩ | ⟨hc, hcb⟩
      · rw [if_neg (by rw [hc]; decide)] at hry
        have gs1 : ((c.toNat : Int) != 42) = false := by rw [hcb]; decide
        have gs2 : ((c.toNat : Int) != 47) = true := by rw [hcb]; decide
        have gs3 : ((c.toNat : Int) == 47) = false := by rw [hcb]; decide
        clear hcb hc
        obtain ⟨R0, hR0⟩ : ∃ R0 : Int, (c.toNat : Int) = R0 := ⟨_, rfl⟩
        rw [hR0] at gs1 gs2 gs3
        have HV : Hid (readItemV c l = riV (l.take k) (1) (N : Int)) := Lib.hid (by
          rw [hry, hD]
          show riV _ (1) ((l.length : Int) + 1 - (([] : List UInt8).length : Int)) = _
          congr 1; simp; omega)
        clear hm k0 hD hry hsg
        have HZ8 := Lib.hid P8
        have HZ4 := Lib.hid P4
        have HZB := Lib.hid PB
        clear P8 P4 PB
        go_wp2_with (first | refine wpList_store_row rfl _ _ _ rfl _ _ rfl rfl _ _ HP.out (infoJ _ _) rfl (by simp [Value.oneCell']) ?_ | refine wpList_load_row rfl _ _ rfl _ rfl _ _ _ _ HZ8.out Tryz.underlying67 rfl (infoJ _ _) ?_ | refine wpList_store_row rfl _ _ _ rfl _ _ rfl rfl _ _ HZ4.out (infoJ _ _) rfl (by simp [Value.oneCell']) ?_)
        refine bodyPost_ret (ret_row rfl _ _ _ _ rfl (run_loadVar_row _ _ _ _ _ (0, 0) _ (HZ4.out.row (.string X) (1)) Tryz.underlying67 rfl (infoJ _ _))) rfl ⟨by rw [HV.out, ← HE1.out]; rfl, below_row HZB.out (Nat.le_refl _) _⟩
      · rw [if_pos hc] at hry
        have gs1 : ((c.toNat : Int) != 42) = true := by rw [hcb]; decide
        have gs2 : ((c.toNat : Int) != 47) = false := by rw [hcb]; decide
        have gs3 : ((c.toNat : Int) == 47) = true := by rw [hcb]; decide
        clear hcb hc
        obtain ⟨R0, hR0⟩ : ∃ R0 : Int, (c.toNat : Int) = R0 := ⟨_, rfl⟩
        rw [hR0] at gs1 gs2 gs3
        have HV : Hid (readItemV c l = riV (l.take k) (-1) (N : Int)) := Lib.hid (by
          rw [hry, hD]
          show riV _ (-1) ((l.length : Int) + 1 - (([] : List UInt8).length : Int)) = _
          congr 1; simp; omega)
        clear hm k0 hD hry hsg
        have hc9 := P8.cells
        have M8 := P8.set (-1)
        have M4 := P4.other (b' := W0.heap.size) (by have := H0.out.lt; omega) 1 (.int .i64 (-1))
        have MB := (PB.setCell (p := ⟨W0.heap.size, 1, none⟩) HB.out.size (.int .i64 (-1)))
        have HZ8 := Lib.hid M8
        have HZ4 := Lib.hid M4
        have HZB := Lib.hid MB
        clear P8 P4 PB M8 M4 MB
        go_wp2_with (first | refine wpList_store_row rfl _ _ _ rfl _ _ rfl rfl _ _ HP.out (infoJ _ _) rfl (by simp [Value.oneCell']) ?_ | refine wpList_load_row rfl _ _ rfl _ rfl _ _ _ _ HZ8.out Tryz.underlying67 rfl (infoJ _ _) ?_ | refine wpList_store_row rfl _ _ _ rfl _ _ rfl rfl _ _ HZ4.out (infoJ _ _) rfl (by simp [Value.oneCell']) ?_)
        refine bodyPost_ret (ret_row rfl _ _ _ _ rfl (run_loadVar_row _ _ _ _ _ (0, 0) _ (HZ4.out.row (.string X) (-1)) Tryz.underlying67 rfl (infoJ _ _))) rfl ⟨by rw [HV.out, ← HE1.out]; rfl, below_row HZB.out (Nat.le_refl _) _⟩
end Go.Proofs.YtmhdhabgdlefjaaGreatDoor.Un
