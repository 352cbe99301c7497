/- What the laws of the lexer say, of plain lists of bytes. Of no program. -/
import Derived.Test.YtagkdhcclkbjgaaDoorLe1
set_option maxRecDepth 100000
namespace Go.Proofs.YtagkdhcclkbjgaaDoor.Le
open Go

theorem sc_ind {M : Bool → Nat → List UInt8 → R → Prop}
    (done : ∀ c p s, s.drop (skip c s) = [] → M c p s (.ok []))
    (bad : ∀ c p s d r e, s.drop (skip c s) = d :: r → tokL (d :: r) = .bad e → M c p s (.bad (p + skip c s) e))
    (tok : ∀ c p s d r k t n z, s.drop (skip c s) = d :: r → tokL (d :: r) = .tok k t n z → (r.drop (z - 1)).length < s.length → M false (p + skip c s + z) (r.drop (z - 1)) (sc false (p + skip c s + z) (r.drop (z - 1))) →
      M c p s (R.pre [⟨k, t, n, p + skip c s⟩] (sc false (p + skip c s + z) (r.drop (z - 1))))) :
    ∀ (m : Nat) (c : Bool) (p : Nat) (s : List UInt8), s.length ≤ m → M c p s (sc c p s) := by
  intro m
  induction m with
  | zero =>
    intro c p s hs
    have : s = [] := List.eq_nil_of_length_eq_zero (by omega)
    subst this
    have h : ([] : List UInt8).drop (skip c []) = [] := by simp
    rw [sc_done h]; exact done c p [] h
  | succ m ih =>
    intro c p s hs
    rcases h : s.drop (skip c s) with _ | ⟨d, r⟩
    · rw [sc_done h]; exact done c p s h
    · rcases ht : tokL (d :: r) with e | ⟨k, t, n, z⟩
      · rw [sc_bad h ht]; exact bad c p s d r e h ht
      · rw [sc_tok h ht]
        have hl := congrArg List.length h
        simp only [List.length_drop, List.length_cons] at hl
        have hl2 : (r.drop (z - 1)).length < s.length := by rw [List.length_drop]; omega
        exact tok c p s d r k t n z h ht hl2 (ih false _ _ (by omega))

/-- The bytes of s from an offset on. -/
theorem drop_cons {s : List UInt8} {g : Nat} {d : UInt8} {r : List UInt8} (h : s.drop g = d :: r) : g < s.length ∧ r = s.drop (g + 1) ∧ ∀ (hg : g < s.length), s[g] = d := by
  have hl := congrArg List.length h
  simp only [List.length_drop, List.length_cons] at hl
  have hg : g < s.length := by omega
  rw [List.drop_eq_getElem_cons hg] at h
  obtain ⟨h1, h2⟩ := List.cons.inj h
  exact ⟨hg, h2.symm, fun _ => h1⟩
theorem drop_rest {s : List UInt8} {g : Nat} {d : UInt8} {r : List UInt8} (h : s.drop g = d :: r) {z : Nat} (hz : 1 ≤ z) : r.drop (z - 1) = s.drop (g + z) := by
  rw [(drop_cons h).2.1, List.drop_drop]; congr 1; omega

/-! a line feed between two texts -/
def joinR (q : Nat) (y : List UInt8) : R → R
  | .bad p e => .bad p e
  | .ok L => R.pre L (sc false q y)
theorem joinR_pre (q : Nat) (y : List UInt8) (l : List Tok) (r : R) : joinR q y (R.pre l r) = R.pre l (joinR q y r) := by
  cases r
  · simp only [joinR, R.pre]; exact (R.pre_pre _ _ _).symm
  · rfl
theorem sc_join (y : List UInt8) : ∀ (m : Nat) (c : Bool) (p : Nat) (x : List UInt8), x.length ≤ m → sc c p (x ++ 10 :: y) = joinR (p + x.length + 1) y (sc c p x) := by
  refine sc_ind (M := fun c p x r => sc c p (x ++ 10 :: y) = joinR (p + x.length + 1) y r) ?_ ?_ ?_
  · intro c p s h
    have hl : skip c s = s.length := by
      have := skip_le s c
      have h2 := congrArg List.length h
      rw [List.length_drop, List.length_nil] at h2; omega
    have e := skip_nl s y c hl
    simp only [joinR, R.pre_nil]
    have hd : (s ++ 10 :: y).drop (skip c (s ++ 10 :: y)) = y.drop (skip false y) := by
      rw [e, List.drop_append, show s.length + 1 + skip false y - s.length = skip false y + 1 by omega, List.drop_of_length_le (by omega)]; rfl
    rcases h1 : y.drop (skip false y) with _ | ⟨d, r⟩
    · rw [sc_done h1, sc_done (hd.trans h1)]
    · rcases ht : tokL (d :: r) with e' | ⟨k, t, n, z⟩
      · rw [sc_bad h1 ht, sc_bad (hd.trans h1) ht, e]; congr 1; omega
      · rw [sc_tok h1 ht, sc_tok (hd.trans h1) ht, e]
        rw [show p + (s.length + 1 + skip false y) = p + s.length + 1 + skip false y by omega]
  · intro c p s d r e h ht
    obtain ⟨hg, hr, _⟩ := drop_cons h
    have e1 := skip_app_lt s (10 :: y) c hg
    have hd : (s ++ 10 :: y).drop (skip c (s ++ 10 :: y)) = d :: (r ++ 10 :: y) := by
      rw [e1, List.drop_append_of_le_length (by omega), h]; rfl
    rw [sc_bad hd (by rw [tokL_nl]; exact ht), e1]; rfl
  · intro c p s d r k t n z h ht hl ih
    obtain ⟨hg, hr, _⟩ := drop_cons h
    have e1 := skip_app_lt s (10 :: y) c hg
    have hd : (s ++ 10 :: y).drop (skip c (s ++ 10 :: y)) = d :: (r ++ 10 :: y) := by
      rw [e1, List.drop_append_of_le_length (by omega), h]; rfl
    obtain ⟨_, _, hz1, hz2, _⟩ := tokL_ok ht
    rw [sc_tok hd (by rw [tokL_nl]; exact ht), e1, joinR_pre]
    rw [List.drop_append_of_le_length (by omega), ih]
    have hl2 := congrArg List.length h
    simp only [List.length_drop, List.length_cons] at hl2
    rw [List.length_drop, show p + skip c s + z + (r.length - (z - 1)) + 1 = p + s.length + 1 by omega]

/-! errors -/
theorem tokL_bad {d : UInt8} {r : List UInt8} {e : Int} (h : tokL (d :: r) = .bad e) : e = 10 ∨ e = 3 ∨ e = 2 := by
  simp only [tokL] at h
  split at h
  · split at h
    · cases h
    · injection h; omega
  · split at h
    · unfold tokN at h
      split at h
      · injection h; omega
      · cases h
    · split at h
      · unfold tokS at h
        split at h
        · injection h; omega
        · split at h
          · cases h
          · injection h; omega
      · split at h
        · cases h
        · injection h; omega
/-- What is so of an error: where it is, what precedes it, and what begins there. -/
def Errs (c : Bool) (p : Nat) (s : List UInt8) : R → Prop
  | .ok _ => True
  | .bad q e => p ≤ q ∧ q < p + s.length ∧ (∃ L, sc c p (s.take (q - p)) = .ok L) ∧ (∀ p', sc false p' (s.drop (q - p)) = .bad p' e) ∧ (e = 10 ∨ e = 3 ∨ e = 2)
theorem sc_errs : ∀ (m : Nat) (c : Bool) (p : Nat) (s : List UInt8), s.length ≤ m → Errs c p s (sc c p s) := by
  refine sc_ind (M := Errs) ?_ ?_ ?_
  · intro c p s _; trivial
  · intro c p s d r e h ht
    obtain ⟨hg, hr, _⟩ := drop_cons h
    refine ⟨by omega, by omega, ⟨[], sc_done ?_⟩, fun p' => ?_, tokL_bad ht⟩
    · rw [show p + skip c s - p = skip c s by omega, skip_take s c _ (Nat.le_refl _), List.drop_length]
    · rw [show p + skip c s - p = skip c s by omega]
      have e1 := skip_drop s c
      rw [sc_bad (c := false) (p := p') (by rw [e1]; exact h) ht, e1]; rfl
  · intro c p s d r k t n z h ht hl ih
    obtain ⟨hg, hr, _⟩ := drop_cons h
    obtain ⟨_, _, hz1, hz2, _⟩ := tokL_ok ht
    have hl2 := congrArg List.length h
    simp only [List.length_drop, List.length_cons] at hl2
    rcases hR : sc false (p + skip c s + z) (r.drop (z - 1)) with L | ⟨q, e⟩
    · trivial
    · rw [hR] at ih
      obtain ⟨i1, i2, ⟨L, i3⟩, i4, i5⟩ := ih
      rw [List.length_drop] at i2
      refine ⟨by omega, by omega, ?_, fun p' => ?_, i5⟩
      · obtain ⟨j, hj⟩ : ∃ j, q = p + skip c s + z + j := ⟨q - (p + skip c s + z), by omega⟩
        have e0 : q - p = skip c s + (z + j) := by omega
        have hs1 : s.take (q - p) = s.take (skip c s) ++ d :: r.take (z + j - 1) := by
          rw [e0, List.take_add, h]
          congr 1
          rw [show z + j = (z + j - 1) + 1 by omega, List.take_succ_cons]; rfl
        have hk : skip c (s.take (q - p)) = skip c s := by
          have h1 : s = s.take (q - p) ++ s.drop (q - p) := (List.take_append_drop _ _).symm
          have h2 : skip c (s.take (q - p)) ≤ (s.take (q - p)).length := skip_le _ _
          rcases Nat.lt_or_ge (skip c (s.take (q - p))) (s.take (q - p)).length with h3 | h3
          · have := skip_app_lt _ (s.drop (q - p)) c h3
            rw [List.take_append_drop] at this; exact this.symm
          · obtain ⟨c', h4, _⟩ := skip_app_all _ (s.drop (q - p)) c (Nat.le_antisymm h2 h3)
            rw [List.take_append_drop, List.length_take] at h4
            omega
        have hd : (s.take (q - p)).drop (skip c (s.take (q - p))) = d :: r.take (z + j - 1) := by
          rw [hk, hs1, List.drop_append, List.drop_of_length_le (by rw [List.length_take]; omega), List.length_take, show skip c s - min (skip c s) s.length = 0 by omega]; rfl
        rw [sc_tok hd (tokL_take ht _ (by omega)), hk]
        rw [show q - (p + skip c s + z) = j by omega] at i3
        rw [List.drop_take, show z + j - 1 - (z - 1) = j by omega, i3]
        exact ⟨_, rfl⟩
      · have := i4 p'
        rw [drop_rest h hz1, List.drop_drop, show skip c s + z + (q - (p + skip c s + z)) = q - p by omega] at this
        exact this

/-! places -/
inductive Placed (t : List UInt8) : Nat → List Tok → Prop
  | nil (e : Nat) : e ≤ t.length → skip false (t.drop e) = (t.drop e).length → Placed t e []
  | cons (e : Nat) (x : Tok) (L : List Tok) : e ≤ x.pos → okT x.kind x.text x.n → x.pos + (enc x.kind x.text).length ≤ t.length → 1 ≤ (enc x.kind x.text).length → (t.drop x.pos).take (enc x.kind x.text).length = enc x.kind x.text →
      skip false ((t.drop e).take (x.pos - e)) = x.pos - e → Placed t (x.pos + (enc x.kind x.text).length) L → Placed t e (x :: L)
theorem sc_placed (t : List UInt8) : ∀ (m : Nat) (c : Bool) (p : Nat) (s : List UInt8), s.length ≤ m → c = false → p ≤ t.length → s = t.drop p → ∀ L, sc c p s = .ok L → Placed t p L := by
  refine sc_ind (M := fun c p s r => c = false → p ≤ t.length → s = t.drop p → ∀ L, r = .ok L → Placed t p L) ?_ ?_ ?_
  · rintro c p s h rfl hp rfl L hL
    injection hL with hL; subst hL
    have := skip_le (t.drop p) false
    have h2 := congrArg List.length h
    rw [List.length_drop, List.length_nil] at h2
    exact .nil _ hp (by omega)
  · intro c p s d r e h ht _ _ _ L hL; cases hL
  · rintro c p s d r k x n z h ht hl ih rfl hp rfl L hL
    obtain ⟨hok, hz, hz1, hz2, htk⟩ := tokL_ok ht
    have hl2 := congrArg List.length h
    simp only [List.length_drop, List.length_cons] at hl2
    rcases hR : sc false (p + skip false (t.drop p) + z) (r.drop (z - 1)) with M | ⟨q, e⟩
    · rw [hR] at hL ih
      injection hL with hL
      subst hL
      have hd := drop_rest h hz1
      rw [List.drop_drop, ← Nat.add_assoc] at hd
      rw [List.drop_drop] at h
      refine .cons _ _ _ (by simp) hok (by rw [← hz]; simp only; omega) (by rw [← hz]; exact hz1) (by rw [← hz]; simp only; rw [h]; exact htk) ?_ ?_
      · simp only
        rw [show p + skip false (t.drop p) - p = skip false (t.drop p) by omega, skip_take _ _ _ (Nat.le_refl _), List.length_take, Nat.min_eq_left (skip_le _ _)]
      · simp only; rw [← hz]; exact ih rfl (by omega) hd M rfl
    · rw [hR] at hL; cases hL

/-- The bytes of the tokens, with a blank before each. -/
def withB (L : List Tok) : List UInt8 := L.flatMap fun x => 32 :: enc x.kind x.text
def printL : List Tok → List UInt8
  | [] => []
  | x :: L => enc x.kind x.text ++ withB L
theorem printL_le (L : List Tok) : (printL L).length ≤ (withB L).length := by
  cases L with
  | nil => simp [printL]
  | cons x L => simp [printL, withB]
theorem printL_snoc (L : List Tok) (x : Tok) : printL (L ++ [x]) = printL L ++ (if L.length = 0 then [] else [32]) ++ enc x.kind x.text := by
  cases L with
  | nil => simp [printL, withB]
  | cons y L => simp [printL, withB]
def okR (s : List UInt8) : R → Prop
  | .ok L => (∀ x ∈ L, okT x.kind x.text x.n) ∧ (withB L).length ≤ 2 * s.length ∧ L.length ≤ s.length
  | .bad _ _ => True
theorem sc_okR : ∀ (m : Nat) (c : Bool) (p : Nat) (s : List UInt8), s.length ≤ m → okR s (sc c p s) := by
  refine sc_ind (M := fun c p s r => okR s r) ?_ ?_ ?_
  · intro c p s h; exact ⟨by simp, by simp [withB], by simp⟩
  · intro c p s d r e h ht; trivial
  · intro c p s d r k x n z h ht hl ih
    obtain ⟨hok, hz, hz1, hz2, htk⟩ := tokL_ok ht
    have hl2 := congrArg List.length h
    simp only [List.length_drop, List.length_cons] at hl2
    rcases hR : sc false (p + skip c s + z) (r.drop (z - 1)) with M | ⟨q, e⟩
    · rw [hR] at ih
      obtain ⟨h1, h2, h3⟩ := ih
      rw [List.length_drop] at h2 h3
      refine ⟨?_, ?_, ?_⟩
      · intro y hy
        simp at hy
        rcases hy with rfl | hy
        · exact hok
        · exact h1 y hy
      · simp only [withB, List.cons_append, List.nil_append, List.flatMap_cons, List.length_append, List.length_cons] at h2 ⊢
        rw [← hz]; omega
      · simp; omega
    · trivial

/-! texts that are printed -/
def plc : Nat → List Tok → List Tok
  | _, [] => []
  | p, x :: L => ⟨x.kind, x.text, x.n, p⟩ :: plc (p + (enc x.kind x.text).length + 1) L
theorem plc_print : ∀ (L : List Tok) (p : Nat), withB (plc p L) = withB L
  | [], _ => rfl
  | x :: L, p => by
    have ih := plc_print L (p + (enc x.kind x.text).length + 1)
    simp only [withB, plc, List.flatMap_cons] at *
    rw [ih]
theorem plc_printL (L : List Tok) (p : Nat) : printL (plc p L) = printL L := by
  cases L with
  | nil => rfl
  | cons x L => simp [printL, plc, plc_print]
theorem plc_len : ∀ (L : List Tok) (p : Nat), (plc p L).length = L.length
  | [], _ => rfl
  | x :: L, p => by simp [plc, plc_len L]
theorem plc_get : ∀ (L : List Tok) (p i : Nat) (h : i < L.length) (h2 : i < (plc p L).length), (plc p L)[i].kind = L[i].kind ∧ (plc p L)[i].text = L[i].text ∧ (plc p L)[i].n = L[i].n
  | x :: L, p, 0, _, _ => ⟨rfl, rfl, rfl⟩
  | x :: L, p, i + 1, h, h2 => by simpa [plc] using plc_get L _ i (by simpa using h) (by simpa [plc] using h2)
theorem sc_enc {k : Int} {t : List UInt8} {n : Int} (h : okT k t n) (m : List UInt8) (hm : m = [] ∨ ∃ m', m = 32 :: m') (p : Nat) :
    sc false p (enc k t ++ m) = R.pre [⟨k, t, n, p⟩] (sc false (p + (enc k t).length) m) := by
  obtain ⟨d, r, e1, e2, e3, e4⟩ := tokL_enc h m hm
  have h10 : ¬ d.toNat = 10 := fun e => by unfold blankB at e3; simp at e3; omega
  have hk : skip false (enc k t ++ m) = 0 := by
    rw [e1]; simp only [skip]; rw [if_neg h10, if_neg (by simp), if_neg (by rw [e3]; simp), if_neg e4]
  obtain ⟨_, hz, hz1, hz2, _⟩ := tokL_ok e2
  have hd : (enc k t ++ m).drop (skip false (enc k t ++ m)) = d :: r := by rw [hk, e1]; rfl
  rw [sc_tok hd e2, hk]
  have hr : r.drop ((enc k t).length - 1) = m := by
    have h1 : (d :: r).drop (enc k t).length = m := by rw [← e1]; simp
    obtain ⟨j, hj⟩ : ∃ j, (enc k t).length = j + 1 := ⟨(enc k t).length - 1, by omega⟩
    rw [hj] at h1 ⊢
    simpa using h1
  rw [hr]; rfl
theorem sc_32 (p : Nat) (m : List UInt8) : sc false p (32 :: m) = sc false (p + 1) m := by
  have e : skip false (32 :: m) = skip false m + 1 := by
    simp only [skip]; rw [if_neg (by decide), if_neg (by simp), if_pos (by decide)]
  have hd : (32 :: m).drop (skip false (32 :: m)) = m.drop (skip false m) := by rw [e]; rfl
  rcases h1 : m.drop (skip false m) with _ | ⟨d, r⟩
  · rw [sc_done h1, sc_done (hd.trans h1)]
  · rcases ht : tokL (d :: r) with e' | ⟨k, t, n, z⟩
    · rw [sc_bad h1 ht, sc_bad (hd.trans h1) ht, e]; congr 1; omega
    · rw [sc_tok h1 ht, sc_tok (hd.trans h1) ht, e]
      rw [show p + (skip false m + 1) = p + 1 + skip false m by omega]
theorem withB_head (L : List Tok) : withB L = [] ∨ ∃ m', withB L = 32 :: m' := by
  cases L with
  | nil => exact .inl rfl
  | cons x L => exact .inr ⟨enc x.kind x.text ++ withB L, by simp [withB]⟩
theorem sc_nil (p : Nat) (c : Bool) : sc c p [] = .ok [] := sc_done (by simp)
theorem sc_withB : ∀ (L : List Tok) (p : Nat), (∀ x ∈ L, okT x.kind x.text x.n) → sc false p (withB L) = .ok (plc (p + 1) L)
  | [], p, _ => sc_nil p false
  | x :: L, p, h => by
    have e : withB (x :: L) = 32 :: (enc x.kind x.text ++ withB L) := by simp [withB]
    rw [e, sc_32, sc_enc (h x (by simp)) _ (withB_head L), sc_withB L _ (fun y hy => h y (by simp [hy]))]
    rfl
theorem sc_print (L : List Tok) (p : Nat) (h : ∀ x ∈ L, okT x.kind x.text x.n) : sc false p (printL L) = .ok (plc p L) := by
  cases L with
  | nil => exact sc_nil p false
  | cons x L =>
    rw [printL, sc_enc (h x (by simp)) _ (withB_head L), sc_withB L _ (fun y hy => h y (by simp [hy]))]
    rfl
theorem sc_one {k : Int} {t : List UInt8} {n : Int} (h : okT k t n) : sc false 0 (enc k t) = .ok [⟨k, t, n, 0⟩] := by
  have := sc_enc h [] (.inl rfl) 0
  rw [List.append_nil, sc_nil] at this
  exact this
theorem sc_blanks (k p : Nat) : sc false p (List.replicate k 32) = .ok [] := by
  induction k generalizing p with
  | zero => exact sc_nil p false
  | succ k ih => rw [List.replicate_succ, sc_32]; exact ih _
end Go.Proofs.YtagkdhcclkbjgaaDoor.Le
