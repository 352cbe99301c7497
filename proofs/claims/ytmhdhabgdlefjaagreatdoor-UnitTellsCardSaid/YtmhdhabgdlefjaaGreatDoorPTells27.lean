/- The contracts of the reference of unit: letter, split. -/
import Derived.Laws.RangeString
import Derived.Test.YtmhdhabgdlefjaaGreatDoorPTells25
import Derived.Test.YtmhdhabgdlefjaaGreatDoorPTells23
import Derived.Test.YtmhdhabgdlefjaaGreatDoorPTells26
set_option maxRecDepth 100000
namespace Go.Proofs.YtmhdhabgdlefjaaGreatDoor.Un
open Go.RowKit Dm

theorem letter9_any (c : UInt8) (w : World) : Calls Tryz.prog 76 #[.int .u8 (c.toNat : Int)] w fun e w' => e = .returned (.bool (letterB c)) ∧ w' = w := by
  obtain ⟨R, hR⟩ : ∃ R : Int, (c.toNat : Int) = R := ⟨_, rfl⟩
  have hb : letterB c = ((decide (97 ≤ R) && decide (R ≤ 122)) || (decide (65 ≤ R) && decide (R ≤ 90))) := by
    unfold letterB; rw [Bool.eq_iff_iff]; simp; omega
  rw [hb, hR]
  clear hb hR
  by_cases h1 : 97 ≤ R <;> by_cases h2 : R ≤ 122 <;> by_cases h3 : 65 ≤ R <;> by_cases h4 : R ≤ 90
  all_goals
    first
    | (exfalso; omega)
    | (go_enter Tryz.func76, Tryz.ntmps76
       go_wp2
       go_ret
       exact ⟨by simp [h1, h2, h3, h4], rfl⟩)

section
variable {p : UInt8 → Bool}
theorem tw_take : ∀ l : List UInt8, l.takeWhile p = l.take (l.takeWhile p).length ∧ l.dropWhile p = l.drop (l.takeWhile p).length
  | [] => ⟨rfl, rfl⟩
  | c :: l => by
    have ih := tw_take l
    by_cases h : p c = true
    · simp only [List.takeWhile_cons, List.dropWhile_cons, h, if_true, List.length_cons, List.take_succ_cons, List.drop_succ_cons]
      exact ⟨by rw [← ih.1], ih.2⟩
    · simp [h]
theorem tw_more : ∀ (l : List UInt8) (k : Nat), k ≤ (l.takeWhile p).length → ∀ h : k < l.length, p l[k] = true → k + 1 ≤ (l.takeWhile p).length
  | [], k, _, h, _ => by simp at h
  | c :: l, 0, _, _, hp => by
    have : p c = true := hp
    simp [this]
  | c :: l, k + 1, hk, h, hp => by
    by_cases hc : p c = true
    · simp only [List.takeWhile_cons, hc, if_true, List.length_cons] at hk ⊢
      have := tw_more l k (by omega) (by simpa using h) hp
      omega
    · simp [hc] at hk
theorem tw_stop : ∀ (l : List UInt8) (k : Nat), k ≤ (l.takeWhile p).length → ∀ h : k < l.length, p l[k] = false → (l.takeWhile p).length = k
  | [], k, _, h, _ => by simp at h
  | c :: l, 0, _, _, hp => by
    have : p c = false := hp
    simp [this]
  | c :: l, k + 1, hk, h, hp => by
    by_cases hc : p c = true
    · simp only [List.takeWhile_cons, hc, if_true, List.length_cons] at hk ⊢
      have := tw_stop l k (by omega) (by simpa using h) hp
      omega
    · simp [hc] at hk
theorem tw_len (l : List UInt8) : (l.takeWhile p).length ≤ l.length := by
  have := (tw_take (p := p) l).1
  rw [this, List.length_take]; omega
end

/-- An item and an error, as results. -/
def iV (v : List UInt8) (n : Int) (i : Int) (b : Bool) : Value := .tuple #[.agg #[sv v, .int .i64 n], .int .i64 i, .bool b]
/-- What split returns. -/
def splitV (s : ByteArray) (a : Nat) : Value := match itemL (s.data.toList.drop a) with
  | none => iV [] 0 (a : Int) false
  | some ((v, n), r) => iV v (n : Int) ((s.size : Int) - r.length) true
theorem sizeL (s : ByteArray) : s.data.toList.length = s.size := Array.length_toList
theorem byte_at (s : ByteArray) (a k : Nat) (h : a + k < s.size) (h2 : k < (s.data.toList.drop a).length) : (s.data.toList.drop a)[k] = s[a + k] := by
  rw [List.getElem_drop, Array.getElem_toList]; rfl
theorem slice_run (s : ByteArray) (a b : Nat) (h1 : a ≤ b) (h2 : b ≤ s.size) (W : World) : (Instr.slice 9 (.string s) (some (.int .i64 (a : Int))) (some (.int .i64 (b : Int))) none).run Tryz.prog W = .ok (.string (s.extract a b)) W := by
  rw [run_slice_string W 9 _ .i64 .i64 _ _ Tryz.underlying9 (by omega) (by omega) (by omega)]
  congr 2
theorem ext_take (s : ByteArray) (a m : Nat) : s.extract a (a + m) = ⟨((s.data.toList.drop a).take m).toArray⟩ := by
  apply ByteArray.ext
  apply Array.ext'
  simp [ByteArray.data_extract, List.extract_eq_take_drop]
theorem split_no (s : ByteArray) (a : Nat) (h : ((s.data.toList.drop a).takeWhile letterB).length = 0) : splitV s a = iV [] 0 (a : Int) false := by
  unfold splitV itemL
  rw [if_pos (List.eq_nil_of_length_eq_zero h)]
theorem split_yes (s : ByteArray) (a m : Nat) (h : ((s.data.toList.drop a).takeWhile letterB).length = m) (h0 : 0 < m) : splitV s a = iV ((s.data.toList.drop a).take m) (expL ((s.data.toList.drop a).drop m)).1 ((s.size : Int) - (expL ((s.data.toList.drop a).drop m)).2.length) true := by
  have ht := tw_take (p := letterB) (s.data.toList.drop a)
  rw [h] at ht
  unfold splitV itemL
  rw [if_neg (fun e => by rw [e] at h; simp at h; omega), ht.1, ht.2]
/-- The block b holds an item. -/
def It (w : World) (b : Nat) (x : Value) (n : Int) : Prop := w.heap[b]? = some (.cells #[x, .int .i64 n] 70 (0, 0))
theorem It.lt {w : World} {b : Nat} {x : Value} {n : Int} (h : It w b x n) : b < w.heap.size := (Array.getElem?_eq_some_iff.1 h).1
theorem It.alloc {w : World} {b : Nat} {x : Value} {n : Int} (h : It w b x n) (o : Obj) : It (w.alloc o) b x n := (Below.heap_alloc w o b h.lt).trans h
theorem It.oth {w : World} {b b' : Nat} {x : Value} {n : Int} (h : It w b x n) (hne : b ≠ b') (c : Array Value) : It (w.setRow b' c) b x n := (setRow_other w b' b c hne).trans h
theorem It.row {w : World} {b : Nat} {x : Value} {n : Int} (h : It w b x n) (y : Value) (m : Int) : It (w.setRow b #[y, .int .i64 m]) b y m := setRow_heap w b _ _ _ _ h
theorem It.set {w : World} {b : Nat} {x : Value} {n : Int} (h : It w b x n) (m : Int) : It (w.setCell ⟨b, 1, none⟩ (.int .i64 m)) b x m := by
  have := heap_setCell_same w b 1 _ _ (.int .i64 m) h
  exact this
theorem It.other {w : World} {b b' : Nat} {x : Value} {n : Int} (h : It w b x n) (hne : b ≠ b') (k : Nat) (v : Value) : It (w.setCell ⟨b', k, none⟩ v) b x n := (Below.heap_setCell _ _ _ _ hne).trans h
theorem It.cells {w : World} {b : Nat} {x : Value} {n : Int} (h : It w b x n) : w.cell? ⟨b, 0, none⟩ = some x ∧ w.cell? ⟨b, 1, none⟩ = some (.int .i64 n) ∧ w.frozen? ⟨b, 1, none⟩ = false :=
  ⟨by rw [cell_of_row w b 0 _ _ _ h]; rfl, by rw [cell_of_row w b 1 _ _ _ h]; rfl, frozen_of_row w b 1 _ _ h⟩
theorem ret_item {fn : Func} {p u v : Tmp} {ty : TypeId} (h : fn.results = #[.cell p ty, .tmp u, .tmp v]) (tmps : Array Value) (w : World) (b : Nat) (cs : Array Value) (hp : tmps.getD p undef = .pointer (some ⟨b, 0, none⟩)) (hl : (loadVar ty ⟨b, 0, none⟩).run Tryz.prog w = .ok (.agg cs) w) :
    (results fn tmps).run Tryz.prog w = .ok (.tuple #[.agg cs, tmps.getD u undef, tmps.getD v undef]) w := by
  have hp' : tmps[p]?.getD undef = .pointer (some ⟨b, 0, none⟩) := by simpa using hp
  simp [results, h, hp', asAddr, hl]
theorem infoItem (x y : Value) : (Tryz.prog.info? 70).map (·.size) = some (#[x, y] : Array Value).size := by kernel_rfl

set_option maxHeartbeats 4000000 in
theorem split9_any (s : ByteArray) (hs : s.size ≤ 1000) (a : Nat) (ha : a ≤ s.size) (w : World) : Calls Tryz.prog 52 #[.string s, .int .i64 (a : Int)] w (Gives (splitV s a) w) := by
  obtain ⟨W0, hW0⟩ : ∃ W0, w.alloc (.cells #[.string ⟨#[]⟩, .int .i64 0] 70) = W0 := ⟨_, rfl⟩
  have HB : Hid (RowKit.Below w.heap.size w W0) := Lib.hid (by rw [← hW0]; exact below_alloc _ _)
  have H0 : Hid (It W0 w.heap.size (.string ⟨#[]⟩) 0) := Lib.hid (by rw [← hW0]; exact heap_alloc_new w _)
  have HSZ : Hid (W0.heap.size = w.heap.size + 1) := Lib.hid (by rw [← hW0]; simp)
  have HW := Lib.hid hW0
  have HL := Lib.hid (letter9_any)
  have HLEN := Lib.hid (sizeL s)
  have hll : (s.data.toList.drop a).length = s.size - a := by rw [List.length_drop, sizeL]
  have HLL := Lib.hid hll
  obtain ⟨l, hl⟩ : ∃ l, s.data.toList.drop a = l := ⟨_, rfl⟩
  have HLE := Lib.hid hl
  clear hW0 hll hl
  go_enter Tryz.func52, Tryz.ntmps52
  go_wp2_with fail
  rw [HW.out]
  go_loop [7] (fun i => ∃ k : Nat, k ≤ (l.takeWhile letterB).length ∧ i = .int .i64 ((a + k : Nat) : Int)) (fun i => 1001 - (RowKit.intOf i).toNat)
  case atStart => exact ⟨0, by omega, rfl⟩
  case round =>
    obtain ⟨k, hk, rfl⟩ := hrel
    have htl := tw_len (p := letterB) l
    have hln : l.length = s.size - a := by rw [← HLE.out]; exact HLL.out
    obtain ⟨N, hN⟩ : ∃ N, a + k = N := ⟨_, rfl⟩
    by_cases hlt : N < s.size
    · have hmin : min (N : Int) ((s.size : Int) - 1) = (N : Int) := by omega
      have hlt2 : decide ((N : Int) < (s.size : Int)) = true := by simp; omega
      have hby := byte_at s a k (by omega) (by rw [HLE.out]; omega)
      have hstep : letterB s[N] = true → k + 1 ≤ (l.takeWhile letterB).length := fun h => tw_more l k hk (by omega) (by
        rw [← h]; congr 1; rw [show l[k] = (s.data.toList.drop a)[k]'(by rw [HLE.out]; omega) by simp [HLE.out], hby]; simp [hN])
      have hstop : letterB s[N] = false → (l.takeWhile letterB).length = k := fun h => tw_stop l k hk (by omega) (by
        rw [← h]; congr 1; rw [show l[k] = (s.data.toList.drop a)[k]'(by rw [HLE.out]; omega) by simp [HLE.out], hby]; simp [hN])
      rw [hN]
      by_cases hlet : letterB s[N] = true
      · have HST := Lib.hid (hstep hlet)
        have HLT : Hid (∀ w, Calls Tryz.prog 76 #[.int .u8 ((s[N]).toNat : Int)] w fun e w' => e = .returned (.bool true) ∧ w' = w) := Lib.hid (fun w => by have := HL.out (s[N]) w; rwa [hlet] at this)
        have HN1 : Hid (N + 1 ≤ 1000 ∧ N + 1 = a + (k + 1)) := Lib.hid ⟨by omega, by omega⟩
        obtain ⟨x, hx⟩ : ∃ x, s[N] = x := ⟨_, rfl⟩
        rw [hx] at HLT
        clear hstep hstop hby hlet
        go_wp2_with fail
        refine (HLT.out _).mono ?_
        rintro e w5 ⟨rfl, rfl⟩
        go_wp2_with fail
        go_round
        case rel => exact ⟨k + 1, HST.out, by rw [← HN1.out.2]; rfl⟩
        case measure => have := HN1.out; simp [RowKit.intOf]; omega
      · have hm := hstop (by simpa using hlet)
        have HLT : Hid (∀ w, Calls Tryz.prog 76 #[.int .u8 ((s[N]).toNat : Int)] w fun e w' => e = .returned (.bool false) ∧ w' = w) := Lib.hid (fun w => by have := HL.out (s[N]) w; rwa [show letterB s[N] = false by simpa using hlet] at this)
        obtain ⟨x, hx⟩ : ∃ x, s[N] = x := ⟨_, rfl⟩
        rw [hx] at HLT
        clear hstep hstop hlet
        have HSN : Hid (∀ m, (l.takeWhile letterB).length = m → m = 0 → splitV s a = iV [] 0 (a : Int) false) := Lib.hid (fun m h e => by rw [← HLE.out] at h; exact split_no s a (h.trans e))
        have HSY : Hid (0 < k → splitV s a = iV (l.take k) (expL (l.drop k)).1 ((s.size : Int) - (expL (l.drop k)).2.length) true) := Lib.hid (fun h => by
          have := split_yes s a k (by rw [HLE.out]; exact hm) h
          rw [HLE.out] at this; exact this)
        have hsl := slice_run s a N (by omega) (by omega)
        have hE := ext_take s a k
        rw [hN, HLE.out] at hE
        rw [hE] at hsl
        obtain ⟨X, hEE⟩ : ∃ X : ByteArray, (⟨(l.take k).toArray⟩ : ByteArray) = X := ⟨_, rfl⟩
        rw [hEE] at hsl
        have HE1 : Hid (sv (l.take k) = .string X) := Lib.hid (by unfold sv; rw [hEE])
        have HP : Hid (It (W0.alloc (.cells #[.string ⟨#[]⟩, .int .i64 0] 70)) W0.heap.size (.string ⟨#[]⟩) 0) := Lib.hid (heap_alloc_new W0 _)
        have P8 := HP.out.row (.string X) 1
        have P4 := (H0.out.alloc (.cells #[.string ⟨#[]⟩, .int .i64 0] 70)).oth (b' := W0.heap.size) (by have := H0.out.lt; omega) #[.string X, .int .i64 1]
        have PB := below_row ((HB.out).alloc HB.out.size (.cells #[.string ⟨#[]⟩, .int .i64 0] 70)) (b := W0.heap.size) HB.out.size #[.string X, .int .i64 1]
        clear hE hEE
        by_cases k0 : k = 0
        · have gk : ((N : Int) == (a : Int)) = true := by rw [beq_iff_eq]; omega
          have HV : Hid (splitV s a = iV [] 0 (a : Int) false) := Lib.hid (HSN.out k hm k0)
          have HZ4 := Lib.hid P4
          have HZB := Lib.hid PB
          clear P8 P4 PB hm k0
          go_wp2_with fail
          refine (HLT.out _).mono ?_
          rintro e w5 ⟨rfl, rfl⟩
          go_wp2_with (first | refine wpList_store_row rfl _ _ _ rfl _ _ rfl rfl _ _ HP.out (infoItem _ _) rfl (by simp [Value.oneCell']) ?_ | refine wpList_store_row rfl _ _ _ rfl _ #[.string ⟨#[]⟩, .int .i64 0] rfl rfl _ _ HZ4.out (infoItem _ _) rfl (by simp [Value.oneCell']) ?_)
          refine bodyPost_ret (ret_item rfl _ _ _ _ rfl (run_loadVar_row _ _ _ _ _ (0, 0) _ (HZ4.out.row (.string ⟨#[]⟩) 0) Tryz.underlying70 rfl (infoItem _ _))) rfl ⟨by rw [HV.out]; rfl, below_row HZB.out (Nat.le_refl _) _⟩
        · skip
          have hD : l.drop k = x :: l.drop (k + 1) := by
            rw [List.drop_eq_getElem_cons (by omega)]
            congr 1
            rw [← hx, show l[k]'(by omega) = (s.data.toList.drop a)[k]'(by rw [HLE.out]; omega) by simp [HLE.out], hby]; simp [hN]
          have hdl : (l.drop (k + 1)).length = s.size - N - 1 := by rw [List.length_drop]; omega
          have gk : ((N : Int) == (a : Int)) = false := by rw [beq_eq_false_iff_ne]; omega
          by_cases h1 : 50 ≤ x.toNat
          · by_cases h2 : x.toNat ≤ 57
            · have hd : digitB x = true := by unfold digitB; simp [h1, h2]
              have HV : Hid (splitV s a = iV (l.take k) ((x.toNat : Int) - 48) ((N : Int) + 1) true) := Lib.hid (by
                rw [HSY.out (by omega), hD, expL, if_pos hd]
                show iV _ ((x.toNat - 48 : Nat) : Int) ((s.size : Int) - ((l.drop (k + 1)).length : Int)) true = _
                rw [hdl]; congr 1 <;> omega)
              have g1 : decide (50 ≤ (x.toNat : Int)) = true := by simp; omega
              have g2 : decide ((x.toNat : Int) ≤ 57) = true := by simp; omega
              obtain ⟨R, hR⟩ : ∃ R : Int, (x.toNat : Int) - 48 = R := ⟨_, rfl⟩
              have hw1 : IntKind.u8.wrap R = R := IntWalk.u8_in _ (by omega)
              have hw2 : IntKind.i64.wrap R = R := IntWalk.i64_in _ (by omega)
              have hR2 := hR
              rw [hR] at HV
              have Q8 := P8.set R
              have Q4 := P4.other (b' := W0.heap.size) (by have := H0.out.lt; omega) 1 (.int .i64 R)
              have QB := (PB.setCell (p := ⟨W0.heap.size, 1, none⟩) HB.out.size (.int .i64 R))
              have hc8 := P8.cells
              have HZ8 := Lib.hid Q8
              have HZ4 := Lib.hid Q4
              have HZB := Lib.hid QB
              have HR := Lib.hid hR
              have hsb : s[N] = x := hx
              clear P8 P4 PB Q8 Q4 QB hm k0 hD hd hdl hby hR2
              go_wp2_with fail
              refine (HLT.out _).mono ?_
              rintro e w5 ⟨rfl, rfl⟩
              go_wp2_with (first | refine wpList_store_row rfl _ _ _ rfl _ _ rfl rfl _ _ HP.out (infoItem _ _) rfl (by simp [Value.oneCell']) ?_ | refine wpList_load_row rfl _ _ rfl _ rfl _ _ _ _ HZ8.out Tryz.underlying70 rfl (infoItem _ _) ?_ | refine wpList_store_row rfl _ _ _ rfl _ _ rfl rfl _ _ HZ4.out (infoItem _ _) rfl (by simp [Value.oneCell']) ?_)
              refine bodyPost_ret (ret_item rfl _ _ _ _ rfl (run_loadVar_row _ _ _ _ _ (0, 0) _ (HZ4.out.row (.string X) R) Tryz.underlying70 rfl (infoItem _ _))) rfl ⟨by rw [HV.out, ← HE1.out]; rfl, below_row HZB.out (Nat.le_refl _) _⟩
            · have hd : digitB x = false := by unfold digitB; simp; omega
              have HV : Hid (splitV s a = iV (l.take k) 1 (N : Int) true) := Lib.hid (by
                rw [HSY.out (by omega), hD, expL, hd]
                show iV _ 1 ((s.size : Int) - ((x :: l.drop (k + 1)).length : Int)) true = _
                rw [List.length_cons, hdl]; congr 1; omega)
              have g1 : decide (50 ≤ (x.toNat : Int)) = true := by simp; omega
              have g2 : decide ((x.toNat : Int) ≤ 57) = false := by simp; omega
              clear hd hdl hby
              have HZ8 := Lib.hid P8
              have HZ4 := Lib.hid P4
              have HZB := Lib.hid PB
              clear P8 P4 PB hm k0 hD
              go_wp2_with fail
              refine (HLT.out _).mono ?_
              rintro e w5 ⟨rfl, rfl⟩
              go_wp2_with (first | refine wpList_store_row rfl _ _ _ rfl _ _ rfl rfl _ _ HP.out (infoItem _ _) rfl (by simp [Value.oneCell']) ?_ | refine wpList_load_row rfl _ _ rfl _ rfl _ _ _ _ HZ8.out Tryz.underlying70 rfl (infoItem _ _) ?_ | refine wpList_store_row rfl _ _ _ rfl _ _ rfl rfl _ _ HZ4.out (infoItem _ _) rfl (by simp [Value.oneCell']) ?_)
              refine bodyPost_ret (ret_item rfl _ _ _ _ rfl (run_loadVar_row _ _ _ _ _ (0, 0) _ (HZ4.out.row (.string X) 1) Tryz.underlying70 rfl (infoItem _ _))) rfl ⟨by rw [HV.out, ← HE1.out]; rfl, below_row HZB.out (Nat.le_refl _) _⟩
          · have hd : digitB x = false := by unfold digitB; simp; omega
            have HV : Hid (splitV s a = iV (l.take k) 1 (N : Int) true) := Lib.hid (by
              rw [HSY.out (by omega), hD, expL, hd]
              show iV _ 1 ((s.size : Int) - ((x :: l.drop (k + 1)).length : Int)) true = _
              rw [List.length_cons, hdl]; congr 1; omega)
            have g1 : decide (50 ≤ (x.toNat : Int)) = false := by simp; omega
            clear hd hdl hby
            have HZ8 := Lib.hid P8
            have HZ4 := Lib.hid P4
            have HZB := Lib.hid PB
            clear P8 P4 PB hm k0 hD
            go_wp2_with fail
            refine (HLT.out _).mono ?_
            rintro e w5 ⟨rfl, rfl⟩
            go_wp2_with (first | refine wpList_store_row rfl _ _ _ rfl _ _ rfl rfl _ _ HP.out (infoItem _ _) rfl (by simp [Value.oneCell']) ?_ | refine wpList_load_row rfl _ _ rfl _ rfl _ _ _ _ HZ8.out Tryz.underlying70 rfl (infoItem _ _) ?_ | refine wpList_store_row rfl _ _ _ rfl _ _ rfl rfl _ _ HZ4.out (infoItem _ _) rfl (by simp [Value.oneCell']) ?_)
            refine bodyPost_ret (ret_item rfl _ _ _ _ rfl (run_loadVar_row _ _ _ _ _ (0, 0) _ (HZ4.out.row (.string X) 1) Tryz.underlying70 rfl (infoItem _ _))) rfl ⟨by rw [HV.out, ← HE1.out]; rfl, below_row HZB.out (Nat.le_refl _) _⟩
    · have hm : (l.takeWhile letterB).length = k := by omega
      have hlt2 : decide ((N : Int) < (s.size : Int)) = false := by simp; omega
      rw [hN]
      have HSN : Hid (∀ m, (l.takeWhile letterB).length = m → m = 0 → splitV s a = iV [] 0 (a : Int) false) := Lib.hid (fun m h e => by rw [← HLE.out] at h; exact split_no s a (h.trans e))
      have HSY : Hid (0 < k → splitV s a = iV (l.take k) (expL (l.drop k)).1 ((s.size : Int) - (expL (l.drop k)).2.length) true) := Lib.hid (fun h => by
        have := split_yes s a k (by rw [HLE.out]; exact hm) h
        rw [HLE.out] at this; exact this)
      have hsl := slice_run s a N (by omega) (by omega)
      have hE := ext_take s a k
      rw [hN, HLE.out] at hE
      rw [hE] at hsl
      obtain ⟨X, hEE⟩ : ∃ X : ByteArray, (⟨(l.take k).toArray⟩ : ByteArray) = X := ⟨_, rfl⟩
      rw [hEE] at hsl
      have HE1 : Hid (sv (l.take k) = .string X) := Lib.hid (by unfold sv; rw [hEE])
      have HP : Hid (It (W0.alloc (.cells #[.string ⟨#[]⟩, .int .i64 0] 70)) W0.heap.size (.string ⟨#[]⟩) 0) := Lib.hid (heap_alloc_new W0 _)
      have P8 := HP.out.row (.string X) 1
      have P4 := (H0.out.alloc (.cells #[.string ⟨#[]⟩, .int .i64 0] 70)).oth (b' := W0.heap.size) (by have := H0.out.lt; omega) #[.string X, .int .i64 1]
      have PB := below_row ((HB.out).alloc HB.out.size (.cells #[.string ⟨#[]⟩, .int .i64 0] 70)) (b := W0.heap.size) HB.out.size #[.string X, .int .i64 1]
      clear hE hEE
      by_cases k0 : k = 0
      · have gk : ((N : Int) == (a : Int)) = true := by rw [beq_iff_eq]; omega
        have HV : Hid (splitV s a = iV [] 0 (a : Int) false) := Lib.hid (HSN.out k hm k0)
        have HZ4 := Lib.hid P4
        have HZB := Lib.hid PB
        clear P8 P4 PB hm k0
        go_wp2_with (first | refine wpList_store_row rfl _ _ _ rfl _ _ rfl rfl _ _ HP.out (infoItem _ _) rfl (by simp [Value.oneCell']) ?_ | refine wpList_store_row rfl _ _ _ rfl _ #[.string ⟨#[]⟩, .int .i64 0] rfl rfl _ _ HZ4.out (infoItem _ _) rfl (by simp [Value.oneCell']) ?_)
        refine bodyPost_ret (ret_item rfl _ _ _ _ rfl (run_loadVar_row _ _ _ _ _ (0, 0) _ (HZ4.out.row (.string ⟨#[]⟩) 0) Tryz.underlying70 rfl (infoItem _ _))) rfl ⟨by rw [HV.out]; rfl, below_row HZB.out (Nat.le_refl _) _⟩
      · have hD : l.drop k = [] := List.drop_eq_nil_of_le (by omega)
        have gk : ((N : Int) == (a : Int)) = false := by rw [beq_eq_false_iff_ne]; omega
        have HV : Hid (splitV s a = iV (l.take k) 1 (N : Int) true) := Lib.hid (by
          rw [HSY.out (by omega), hD]
          show iV _ 1 ((s.size : Int) - (([] : List UInt8).length : Int)) true = _
          congr 1; simp; omega)
        have HZ8 := Lib.hid P8
        have HZ4 := Lib.hid P4
        have HZB := Lib.hid PB
        clear P8 P4 PB hm k0 hD
        go_wp2_with (first | refine wpList_store_row rfl _ _ _ rfl _ _ rfl rfl _ _ HP.out (infoItem _ _) rfl (by simp [Value.oneCell']) ?_ | refine wpList_load_row rfl _ _ rfl _ rfl _ _ _ _ HZ8.out Tryz.underlying70 rfl (infoItem _ _) ?_ | refine wpList_store_row rfl _ _ _ rfl _ _ rfl rfl _ _ HZ4.out (infoItem _ _) rfl (by simp [Value.oneCell']) ?_)
        refine bodyPost_ret (ret_item rfl _ _ _ _ rfl (run_loadVar_row _ _ _ _ _ (0, 0) _ (HZ4.out.row (.string X) 1) Tryz.underlying70 rfl (infoItem _ _))) rfl ⟨by rw [HV.out, ← HE1.out]; rfl, below_row HZB.out (Nat.le_refl _) _⟩
end Go.Proofs.YtmhdhabgdlefjaaGreatDoor.Un
