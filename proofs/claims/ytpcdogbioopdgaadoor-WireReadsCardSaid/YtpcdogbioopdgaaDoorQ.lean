/- Reading inverts writing. -/
import Derived.Test.YtpcdogbioopdgaaDoorH
namespace Go.Proofs.YtpcdogbioopdgaaDoor
open Go.RowKit Go.Sort

theorem pInt_encInt (n : Int) (h : -9223372036854775808 ≤ n ∧ n ≤ 9223372036854775807) (r : List UInt8) : pInt 59 (encInt n ++ r) = some (n, r) := by
  have := pInt_enc 59 n r h.1 h.2 (by decide)
  simpa [encInt] using this
theorem pNum_enc (c : UInt8) (n : Int) (h0 : 0 ≤ n) (h1 : n ≤ 9223372036854775807) (hc : c.toNat ≠ 45 ∧ 57 < c.toNat) (r : List UInt8) : pNum c (Lib.itoa n ++ c :: r) = some (n, r) := by
  unfold pNum; rw [pInt_enc c n r (by omega) h1 hc]; simp; omega
theorem pNum_encInt (n : Int) (h0 : 0 ≤ n) (h1 : n ≤ 9223372036854775807) (r : List UInt8) : pNum 59 (encInt n ++ r) = some (n, r) := by
  have := pNum_enc 59 n h0 h1 (by decide) r
  simpa [encInt] using this
set_option maxRecDepth 100000 in
theorem pText_enc (s : ByteArray) (hs : s.size ≤ 9223372036854775807) (r : List UInt8) : pText (encText s.data.toList ++ r) = some (s, r) := by
  have hl : s.data.toList.length = s.size := by rw [Array.length_toList]; rfl
  have h := pNum_enc 58 (s.size : Int) (by omega) (by omega) (by decide) (s.data.toList ++ 44 :: r)
  unfold pText
  have e : encText s.data.toList ++ r = Lib.itoa (s.size : Int) ++ 58 :: (s.data.toList ++ 44 :: r) := by simp [encText, hl]
  rw [e, h]
  simp only [Int.toNat_natCast]
  rw [if_pos ⟨by simp [hl], by simp [List.getElem?_append, hl]⟩]
  have e1 : (s.data.toList ++ 44 :: r).take s.size = s.data.toList := by rw [← hl]; simp
  have e2 : (s.data.toList ++ 44 :: r).drop (s.size + 1) = r := by rw [← hl, ← List.drop_drop, List.drop_left]; rfl
  rw [e1, e2]
set_option maxRecDepth 100000 in
theorem run_enc {α : Type} (p : List UInt8 → Option (α × List UInt8)) (enc : α → List UInt8) (r : List UInt8) :
    ∀ (l : List α), (∀ v ∈ l, ∀ r, p (enc v ++ r) = some (v, r)) → ∀ k, k ≤ l.length → run p k (l.flatMap enc ++ r) = some (l.take k, (l.drop k).flatMap enc ++ r) := by
  intro l hl k
  induction k with
  | zero => intro _; simp [run]
  | succ k ih =>
    intro hk
    simp only [run]
    rw [ih (by omega)]
    have hd : l.drop k = l[k] :: l.drop (k + 1) := List.drop_eq_getElem_cons (by omega)
    simp only [hd, List.flatMap_cons, List.append_assoc]
    rw [hl l[k] (List.getElem_mem _)]
    simp only [List.take_succ_eq_append_getElem (show k < l.length by omega)]
theorem pList_enc {α : Type} (p : List UInt8 → Option (α × List UInt8)) (enc : α → List UInt8) (l : List α) (hlen : l.length ≤ 9223372036854775807) (hl : ∀ v ∈ l, ∀ r, p (enc v ++ r) = some (v, r)) (r : List UInt8) :
    pList p (Lib.itoa l.length ++ [91] ++ l.flatMap enc ++ [93] ++ r) = some (l, r) := by
  have h := pNum_enc 91 (l.length : Int) (by omega) (by omega) (by decide) (l.flatMap enc ++ (93 :: r))
  have e : Lib.itoa l.length ++ [91] ++ l.flatMap enc ++ [93] ++ r = Lib.itoa l.length ++ 91 :: (l.flatMap enc ++ (93 :: r)) := by simp
  unfold pList
  rw [e, h]
  simp only [Int.toNat_natCast]
  rw [run_enc p enc (93 :: r) l hl l.length (Nat.le_refl _)]
  simp
theorem pNums_enc (l : List Int) (hlen : l.length ≤ 9223372036854775807) (hok : IntsOk l) (r : List UInt8) : pList (pInt 59) (encNums l ++ r) = some (l, r) :=
  pList_enc (pInt 59) encInt l hlen (fun v hv r => pInt_encInt v (hok v hv) r) r
theorem pTexts_enc (l : List ByteArray) (hlen : l.length ≤ 9223372036854775807) (hok : ∀ z ∈ l, z.size ≤ 9223372036854775807) (r : List UInt8) : pList pText (encTexts l ++ r) = some (l, r) :=
  pList_enc pText encS l hlen (fun v hv r => pText_enc v (hok v hv) r) r

/-- What the law keeps of the world in which it was called. -/
def Old (W0 w : World) : Prop := RowKit.Below W0.heap.size W0 w
theorem Old.on {W0 w w' : World} {b : Nat} (h : Old W0 w) (hb : W0.heap.size ≤ b) (ho : w.grownBy w' (some b)) : Old W0 w' := below_on h hb ho
theorem Old.step {W0 w w' : World} (h : Old W0 w) (hb : RowKit.Below w.heap.size w w') : Old W0 w' := RowKit.Below.trans h (hb.mono h.size)
theorem cell_on {w w' : World} {b b' o : Nat} {v : Value} (h : w.cell? ⟨b', o, none⟩ = some v) (ho : w.grownBy w' (some b)) (hne : b' ≠ b) : w'.cell? ⟨b', o, none⟩ = some v := by
  rw [World.cell?_of_block (w := w) (a := ⟨b', o, none⟩) (ho.block b' (cell_lt h) (by simp [hne]))]; exact h
theorem keepOn {W0 wi w' : World} {A : Prop} {b bx o : Nat} {n : Value} (ho : wi.grownBy w' (some b)) (hne : bx ≠ b) (hb : W0.heap.size ≤ b) (h : wi.cell? ⟨bx, o, none⟩ = some n ∧ A ∧ Old W0 wi) :
    w'.cell? ⟨bx, o, none⟩ = some n ∧ A ∧ Old W0 w' := ⟨cell_on h.1 ho hne, h.2.1, h.2.2.on hb ho⟩
theorem keepBelow {W0 wi w' : World} {A : Prop} {bx o : Nat} {n : Value} (hb : RowKit.Below wi.heap.size wi w') (h : wi.cell? ⟨bx, o, none⟩ = some n ∧ A ∧ Old W0 wi) :
    w'.cell? ⟨bx, o, none⟩ = some n ∧ A ∧ Old W0 w' := ⟨cell_later h.1 hb, h.2.1, h.2.2.step hb⟩
theorem oldOf {W0 w' : World} {A B : Prop} (h : A ∧ B ∧ Old W0 w') : Old W0 w' := h.2.2

set_option maxRecDepth 100000 in
set_option maxHeartbeats 4000000 in
theorem sameTexts (a a' : Option Addr) (cap cap' : Nat) (zs : List ByteArray) (hl : zs.length ≤ 100000) (w : World) (h : StrCells w a zs) (h' : StrCells w a' zs) :
    Calls Tryd.prog 33 #[.slice a zs.length cap, .slice a' zs.length cap'] w (Gives (.bool true) w) := by
  by_cases h0 : zs.length = 0
  · go_enter Tryd.func33, Tryd.ntmps33
    go_wp2_with fail
    go_loopw [5] (fun i wr => i = .int .i64 0 ∧ wr = w) (fun _ _ => 0)
    case atStart => exact ⟨rfl, rfl⟩
    case round =>
      obtain ⟨rfl, rfl⟩ := hrel
      go_wp2_with fail
      go_ret
      exact ⟨rfl, Below.refl _ _⟩
  · have hne : zs ≠ [] := fun e => h0 (by rw [e]; rfl)
    obtain ⟨b, o, rfl, hc⟩ := h.resolve_left hne
    obtain ⟨b', o', rfl, hc'⟩ := h'.resolve_left hne
    clear h h' h0 hne
    go_enter Tryd.func33, Tryd.ntmps33
    go_wp2_with fail
    go_loopw [5] (fun i wr => ∃ k : Nat, k ≤ zs.length ∧ i = .int .i64 k ∧ RowKit.Below w.heap.size w wr) (fun i _ => zs.length - (RowKit.intOf i).toNat)
    case atStart => exact ⟨0, by omega, rfl, Below.refl _ _⟩
    case round =>
      obtain ⟨k, hk, rfl, hb⟩ := hrel
      by_cases hlt : k < zs.length
      · have f1 := cell_later (hc k hlt) hb
        have f2 := cell_later (hc' k hlt) hb
        clear hc hc'
        obtain ⟨z, hzz⟩ : ∃ z, z = zs[k] := ⟨_, rfl⟩
        rw [← hzz] at f1 f2
        clear hzz
        go_wp2_with fail
        go_quiet (fail)
        go_wp2_with fail
        go_roundw
        case rel => exact ⟨k + 1, by omega, by go_num, below_drewN hb _⟩
        case measure => simp [RowKit.intOf]; omega
      · go_wp2_with fail
        go_ret
        exact ⟨rfl, hb⟩
end Go.Proofs.YtpcdogbioopdgaaDoor
