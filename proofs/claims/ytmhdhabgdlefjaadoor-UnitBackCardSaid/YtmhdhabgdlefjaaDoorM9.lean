/- Numbers as decimal texts: of no program. The contracts of strings.Builder's WriteString and WriteByte at this program. -/
import Derived.Lib.ItoaMem
import Derived.Test.YtmhdhabgdlefjaaDoorM8
import Derived.WalkKit
set_option maxRecDepth 100000
namespace Go.Proofs.YtmhdhabgdlefjaaDoor.Bi
open Go.Lib (decDigits itoa)

def ch (d : Nat) : UInt8 := UInt8.ofNat (48 + d)
theorem ch_nat {d : Nat} (h : d < 10) : (ch d).toNat = 48 + d := by
  unfold ch
  rw [UInt8.toNat_ofNat']; omega
theorem ch_dgt {d : Nat} (h : d < 10) : dgt (ch d) = true := by simp [dgt, ch_nat h]; omega
theorem ch_of {c : UInt8} (h : dgt c = true) : ch (c.toNat - 48) = c := by
  have := dgt_of h
  rw [← UInt8.toNat_inj, ch_nat (by omega)]; omega
theorem dec_small {n : Nat} (h : n < 10) : decDigits n = [ch n] := by rw [decDigits, dif_pos h]; rfl
theorem dec_big {n : Nat} (h : ¬ n < 10) : decDigits n = decDigits (n / 10) ++ [ch (n % 10)] := by rw [decDigits, dif_neg h]; rfl
theorem dec_snoc {x d : Nat} (hx : 0 < x) (hd : d < 10) : decDigits (x * 10 + d) = decDigits x ++ [ch d] := by
  rw [dec_big (by omega), show (x * 10 + d) / 10 = x by omega, show (x * 10 + d) % 10 = d by omega]
theorem head_app {M N : List UInt8} (h : M ≠ []) : (M ++ N).head? = M.head? := by
  cases M with
  | nil => exact absurd rfl h
  | cons => rfl
/-- k digits of a number. -/
def pad : Nat → Nat → List UInt8
  | 0, _ => []
  | k + 1, g => pad k (g / 10) ++ [ch (g % 10)]
theorem dec_pow : ∀ (k x g : Nat), 0 < x → g < 10 ^ k → decDigits (x * 10 ^ k + g) = decDigits x ++ pad k g
  | 0, x, g, _, hg => by
    have : g = 0 := by simpa using hg
    subst this; simp [pad]
  | k + 1, x, g, hx, hg => by
    rw [Nat.pow_succ] at hg
    have hpos : 0 < x * 10 ^ k := Nat.mul_pos hx (Nat.pow_pos (by decide))
    have e : x * 10 ^ (k + 1) + g = (x * 10 ^ k + g / 10) * 10 + g % 10 := by
      rw [Nat.pow_succ, ← Nat.mul_assoc]; omega
    rw [e, dec_snoc (by omega) (by omega), dec_pow k x (g / 10) hx (by omega), pad, List.append_assoc]
theorem pad_zero : ∀ k, pad k 0 = List.replicate k 48
  | 0 => rfl
  | k + 1 => by rw [pad, pad_zero k, List.replicate_succ']; rfl
theorem dec_len_pos (n : Nat) : 0 < (decDigits n).length := by
  by_cases h : n < 10
  · rw [dec_small h]; simp
  · rw [dec_big h]; simp
theorem pad_dec : ∀ (k g : Nat), g < 10 ^ k → 0 < k → (decDigits g).length ≤ k ∧ pad k g = List.replicate (k - (decDigits g).length) 48 ++ decDigits g
  | 0, _, _, h => by omega
  | k + 1, g, hg, _ => by
    rw [Nat.pow_succ] at hg
    by_cases h : g < 10
    · rw [dec_small h, pad, show g / 10 = 0 by omega, pad_zero, show g % 10 = g by omega]
      exact ⟨by simp, by simp⟩
    · have hk : 0 < k := by
        rcases Nat.eq_zero_or_pos k with e | e
        · subst e; simp at hg; omega
        · exact e
      obtain ⟨h1, h2⟩ := pad_dec k (g / 10) (by omega) hk
      rw [dec_big h, pad, h2]
      refine ⟨by simp; omega, ?_⟩
      rw [List.length_append, List.length_singleton, Nat.add_sub_add_right, List.append_assoc]
theorem dec_dgt (n : Nat) : ∀ c ∈ decDigits n, dgt c = true := by
  induction n using Nat.strongRecOn with
  | _ n ih =>
    by_cases h : n < 10
    · rw [dec_small h]
      intro c hc
      rw [List.mem_singleton] at hc
      rw [hc]; exact ch_dgt h
    · rw [dec_big h]
      intro c hc
      rcases List.mem_append.1 hc with hc | hc
      · exact ih _ (by omega) c hc
      · rw [List.mem_singleton] at hc
        rw [hc]; exact ch_dgt (by omega)
theorem dec_numB (n : Nat) : numB (decDigits n) = n := by
  induction n using Nat.strongRecOn with
  | _ n ih =>
    by_cases h : n < 10
    · rw [dec_small h]; simp [numB, ch_nat h]
    · rw [dec_big h, numB_snoc, ih _ (by omega), ch_nat (by omega)]; omega
theorem dec_head {n : Nat} (h : 0 < n) : (decDigits n).head? ≠ some 48 := by
  induction n using Nat.strongRecOn with
  | _ n ih =>
    by_cases h1 : n < 10
    · rw [dec_small h1]
      intro e
      have := congrArg UInt8.toNat (Option.some.inj e)
      rw [ch_nat h1] at this
      simp at this; omega
    · rw [dec_big h1]
      have := ih (n / 10) (by omega) (by omega)
      intro e
      apply this
      have hne : decDigits (n / 10) ≠ [] := fun e' => by have := dec_len_pos (n / 10); rw [e'] at this; simp at this
      rw [head_app hne] at e
      exact e
theorem dec_of_numB : ∀ (k : Nat) (D : List UInt8), D.length = k + 1 → (∀ c ∈ D, dgt c = true) → (k = 0 ∨ D.head? ≠ some 48) → decDigits (numB D) = D ∧ (D.head? ≠ some 48 → 0 < numB D) := by
  intro k
  induction k with
  | zero =>
    intro D hl hd _
    match D, hl with
    | [c], _ =>
      have hc := hd c (by simp)
      have hc' := dgt_of hc
      have e : numB [c] = c.toNat - 48 := by simp [numB]
      rw [e, dec_small (by omega), ch_of hc]
      refine ⟨rfl, fun hne => ?_⟩
      have : c.toNat ≠ 48 := fun e => hne (by simp; rw [← UInt8.toNat_inj]; exact e)
      omega
  | succ k ih =>
    intro D hl hd hh
    have hh' : D.head? ≠ some 48 := hh.resolve_left (by omega)
    obtain ⟨M, c, rfl⟩ : ∃ M c, D = M ++ [c] := by
      rcases List.eq_nil_or_concat D with rfl | ⟨M, c, rfl⟩
      · simp at hl
      · exact ⟨M, c, by simp⟩
    have hM : M ≠ [] := fun e => by rw [e] at hl; simp at hl
    rw [head_app hM] at hh'
    obtain ⟨h1, h2⟩ := ih M (by simp at hl; omega) (fun c' h => hd c' (by simp [h])) (.inr hh')
    have hc := hd c (by simp)
    have hc' := dgt_of hc
    have h3 := h2 hh'
    rw [numB_snoc, dec_snoc h3 (by omega), h1, ch_of hc]
    exact ⟨rfl, fun _ => by omega⟩

theorem neg_cons (l : List UInt8) : negB (45 :: l) = true ∧ bodyB (45 :: l) = l := by
  have : Go.Lib.hasPrefix (45 :: l) [45] = true := by simp [Go.Lib.hasPrefix, List.isPrefixOf]
  exact ⟨this, by unfold bodyB Go.Lib.trimPrefix; rw [this]; simp⟩
theorem neg_not {l : List UInt8} (h : l.head? ≠ some 45) : negB l = false ∧ bodyB l = l := by
  have : Go.Lib.hasPrefix l [45] = false := by
    cases l with
    | nil => rfl
    | cons c l =>
      have hc : c ≠ 45 := fun e => h (by rw [e]; rfl)
      have hc' : ¬ 45 = c := fun e => hc e.symm
      simp [Go.Lib.hasPrefix, List.isPrefixOf, hc']
  exact ⟨this, by unfold bodyB Go.Lib.trimPrefix; rw [this]; rfl⟩
theorem neg_cases (l : List UInt8) : (∃ D, l = 45 :: D) ∨ l.head? ≠ some 45 := by
  cases l with
  | nil => right; simp
  | cons c D =>
    by_cases h : c = 45
    · left; exact ⟨D, by rw [h]⟩
    · right; simpa using h
theorem dec_head45 (n : Nat) : (decDigits n).head? ≠ some 45 := by
  intro e
  cases hl : decDigits n with
  | nil => rw [hl] at e; cases e
  | cons c D =>
    rw [hl] at e
    have hc := dgt_of (dec_dgt n c (by rw [hl]; simp))
    simp at e
    rw [e] at hc
    simp at hc
theorem dec_decB (n : Nat) : decB (decDigits n) = true := by
  unfold decB
  have h1 : (decDigits n).isEmpty = false := by
    cases hl : decDigits n with
    | nil => have := dec_len_pos n; rw [hl] at this; simp at this
    | cons c D => rfl
  have h2 : (decDigits n).all dgt = true := List.all_eq_true.2 (dec_dgt n)
  rw [h1, h2]; rfl
theorem read_itoa (z : Int) : readS (itoa z) = some z := by
  unfold itoa
  by_cases hz : z < 0
  · rw [if_pos hz]
    obtain ⟨h1, h2⟩ := neg_cons (decDigits z.natAbs)
    unfold readS
    rw [h1, h2, if_pos ⟨dec_decB _, fun h => dec_head (by omega) h.1⟩, dec_numB]
    simp; omega
  · rw [if_neg hz]
    obtain ⟨h1, h2⟩ := neg_not (dec_head45 z.toNat)
    unfold readS
    rw [h1, h2, if_pos, dec_numB]
    · simp; omega
    · refine ⟨dec_decB _, fun h => ?_⟩
      rcases Nat.eq_zero_or_pos z.toNat with e | e
      · rw [e] at h; exact h.2 (by rw [dec_small (by omega)]; rfl)
      · exact dec_head e h.1
theorem dec_split {D : List UInt8} (h : decB D = true) : (∀ c ∈ D, dgt c = true) ∧ ∃ k, D.length = k + 1 := by
  simp only [decB, Bool.and_eq_true] at h
  refine ⟨List.all_eq_true.1 h.2, ?_⟩
  cases D with
  | nil => simp at h
  | cons c D => exact ⟨D.length, rfl⟩
theorem itoa_read {l : List UInt8} {z : Int} (h : readS l = some z) : itoa z = l := by
  unfold readS at h
  split at h
  · rename_i hc
    obtain ⟨hd, k, hk⟩ := dec_split hc.1
    have h' := Option.some.inj h
    rcases neg_cases l with ⟨D, rfl⟩ | hn
    · obtain ⟨e1, e2⟩ := neg_cons D
      rw [e1, e2, if_pos rfl] at h'
      rw [e2] at hc hd hk
      have hh : D.head? ≠ some 48 := fun e => hc.2 ⟨e, by simp⟩
      obtain ⟨h1, h2⟩ := dec_of_numB k D hk hd (.inr hh)
      have := h2 hh
      unfold itoa
      rw [if_pos (by omega), show z.natAbs = numB D by omega, h1]
    · obtain ⟨e1, e2⟩ := neg_not hn
      rw [e1, e2] at h'
      rw [e2] at hc hd hk
      simp at h'
      unfold itoa
      rw [if_neg (by omega), show z.toNat = numB l by omega]
      by_cases hh : l.head? = some 48
      · have : l = [48] := Classical.byContradiction fun hne => hc.2 ⟨hh, hne⟩
        rw [this]
        have : numB [48] = 0 := by simp [numB]
        rw [this, dec_small (by omega)]; rfl
      · exact (dec_of_numB k l hk hd (.inr hh)).1
  · cases h
theorem itoa_inj {a b : Int} (h : itoa a = itoa b) : a = b := by
  have h1 := read_itoa a
  rw [h, read_itoa b] at h1
  exact (Option.some.inj h1).symm

/-- The text of groups of twelve digits, the highest first. -/
def render : List Nat → List UInt8
  | [] => []
  | g :: r => decDigits g ++ r.flatMap (pad 12)
def hval : List Nat → Nat → Nat
  | [], a => a
  | g :: r, a => hval r (a * 1000000000000 + g)
theorem hval_dec : ∀ (r : List Nat) (a : Nat), 0 < a → (∀ g ∈ r, g < 1000000000000) → decDigits (hval r a) = decDigits a ++ r.flatMap (pad 12)
  | [], a, _, _ => by simp [hval]
  | g :: r, a, ha, h => by
    have hg := h g (by simp)
    have e : a * 1000000000000 + g = a * 10 ^ 12 + g := by simp
    rw [hval, hval_dec r _ (by omega) (fun x hx => h x (by simp [hx])), e, dec_pow 12 a g ha (by simpa using hg), List.append_assoc]; rfl
theorem render_dec (g : Nat) (r : List Nat) (hg : 0 < g) (h : ∀ x ∈ r, x < 1000000000000) : render (g :: r) = decDigits (hval r g) := by rw [hval_dec r g hg h]; rfl
theorem hval_app : ∀ (r q : List Nat) (a : Nat), hval (r ++ q) a = hval q (hval r a)
  | [], _q, _a => rfl
  | _g :: r, q, _a => hval_app r q _
/-- The value of groups, the lowest first. -/
def lval : List Nat → Nat
  | [] => 0
  | g :: r => g + 1000000000000 * lval r
theorem lval_app (a : List Nat) (g : Nat) : lval (a ++ [g]) = lval a + 1000000000000 ^ a.length * g := by
  induction a with
  | nil => simp [lval]
  | cons x a ih => rw [List.cons_append, lval, ih, lval, List.length_cons, Nat.pow_succ]; grind
theorem hval_rev : ∀ (r : List Nat), hval r.reverse 0 = lval r
  | [] => rfl
  | g :: r => by rw [List.reverse_cons, hval_app, hval_rev r, lval, hval, hval]; omega
end Go.Proofs.YtmhdhabgdlefjaaDoor.Bi

namespace Go.Proofs.YtmhdhabgdlefjaaDoor.Bi
open Go.RowKit

theorem infoByte : (Tryd.prog.info? 5).map (fun i => (i.zero, i.size, i.bytes)) = some (some (.int .u8 0), 1, 1) := by kernel_rfl
theorem sizeBuilder : (Tryd.prog.info? 100).map (·.size) = some 2 := by kernel_rfl
theorem liesBuilder : liesAt Tryd.prog Tryd.prog.depth 100 (2 / Tryd.prog.cellsOf 100) 0 100 1 = true := by kernel_rfl

set_option maxHeartbeats 1000000 in
set_option maxRecDepth 100000 in
theorem copyCheck_used (b : Nat) (w : World) (h0 : w.cell? ⟨b, 0, none⟩ = some (.pointer (some ⟨b, 0, none⟩))) :
    Calls Tryd.prog 81 #[.pointer (some ⟨b, 0, none⟩)] w fun e w' => e = .returned (.tuple #[]) ∧ w = w' := by
  obtain ⟨j, hj, _⟩ := Option.map_eq_some_iff.1 sizeBuilder
  go_enter Tryd.func81, Tryd.ntmps81
  go_wp2
  rw [Lib.run_neq_ptr_same w _ Tryd.underlying97 hj]
  go_wp2
  go_end0
  exact ⟨rfl, rfl⟩

set_option maxHeartbeats 1000000 in
set_option maxRecDepth 100000 in
theorem copyCheck_fresh (b : Nat) (w : World) (h0 : w.cell? ⟨b, 0, none⟩ = some (.pointer none)) (hsh : w.shape? b = some (100, 2)) (hfz : w.frozen? ⟨b, 0, none⟩ = false) :
    Calls Tryd.prog 81 #[.pointer (some ⟨b, 0, none⟩)] w fun e w' => e = .returned (.tuple #[]) ∧ w' = w.setCell ⟨b, 0, none⟩ (.pointer (some ⟨b, 0, none⟩)) := by
  obtain ⟨j, hj, hjs⟩ := Option.map_eq_some_iff.1 sizeBuilder
  go_enter Tryd.func81, Tryd.ntmps81
  go_wp2
  rw [Lib.run_to_unsafe w ⟨b, 0, none⟩ Tryd.underlying97 Tryd.underlying114 hj (by rw [hjs]; decide) hsh (Nat.zero_lt_succ 1)]
  simp only [Result.andThen]
  rw [Oper.upon_value]
  go_wp2
  rw [run_callFunc_extern Tryd.func89 (by kernel_rfl) (by kernel_rfl) (by kernel_rfl) (e := Extern.AbiNoEscape.same) (by kernel_rfl)]
  rw [Lib.run_noEscape]
  simp only [Result.andThen]
  rw [Oper.upon_value]
  go_wp2
  rw [Lib.run_from_unsafe w ⟨b, 0, none⟩ Tryd.underlying114 Tryd.underlying97 hj hsh liesBuilder]
  simp only [Result.andThen]
  rw [Oper.upon_value]
  go_wp2
  go_end0
  exact ⟨rfl, rfl⟩

theorem copyCheck_k (B b : Nat) (bs : List Value) (w : World) (h : Lib.IsBuilderF 100 5 B b bs w) :
    Calls Tryd.prog 81 #[.pointer (some ⟨b, 0, none⟩)] w fun e w' => e = .returned (.tuple #[]) ∧ (Lib.BuilderAtF 100 5 B b (.pointer (some ⟨b, 0, none⟩)) bs w' ∧ RowKit.Below B w w' ∧ Lib.OthersKept 5 (some b) w w') := by
  rcases h with h | h
  · refine (copyCheck_fresh b w h.cell0 h.shape h.frozen0).mono ?_
    rintro e w' ⟨rfl, rfl⟩
    exact ⟨rfl, h.used _, (Below.refl B w).setCell (p := ⟨b, 0, none⟩) h.1 _, (Lib.OthersKept.refl _ _ w).setCell ⟨b, 0, none⟩ rfl _⟩
  · refine (copyCheck_used b w h.cell0).mono ?_
    rintro e w' ⟨rfl, rfl⟩
    exact ⟨rfl, h, Below.refl B _, Lib.OthersKept.refl _ _ _⟩

set_option maxHeartbeats 2000000 in
set_option maxRecDepth 100000 in
theorem writeString_k (B b : Nat) (bs : List Value) (s : ByteArray) (w : World) (h : Lib.IsBuilderF 100 5 B b bs w) (hlen : bs.length + s.size ≤ 140737488355328) (hBw : B ≤ w.heap.size) :
    Calls Tryd.prog 67 #[.pointer (some ⟨b, 0, none⟩), .string s] w fun e w' => e = .returned (.tuple #[.int .i64 s.size, .nilIface]) ∧ (Lib.BuilderAtF 100 5 B b (.pointer (some ⟨b, 0, none⟩)) (bs ++ Lib.strCells s) w' ∧ RowKit.Below B w w' ∧ Lib.OthersKept 5 (some b) w w') := by
  obtain ⟨i0, hi, hz0, hz1, hz2⟩ := info_parts infoByte
  go_enter Tryd.func67, Tryd.ntmps67
  go_wp2_with (go_at_call 81; refine (copyCheck_k B b bs _ h).mono ?_)
  rintro e w1 ⟨rfl, h1, hb1, hk1⟩
  obtain ⟨hB, v, hbk, hown, hne⟩ := h1
  have c0 : w1.cell? ⟨b, 0, none⟩ = some (.pointer (some ⟨b, 0, none⟩)) := by rw [Lib.cell_of_heap hbk]; rfl
  have c1 : w1.cell? ⟨b, 1, none⟩ = some v := by rw [Lib.cell_of_heap hbk]; rfl
  go_wp2_with (at_builtin; refine Lib.wpList_append_own_stringF _ rfl _ _ 98 9 rfl B 5 i0 Tryd.underlying98 Tryd.underlying9 hi hz0 hz1 hz2 _ _ _ rfl hown s rfl ?c3 ?c4 ?c5 ?_)
  case c3 => unfold maxLen; omega
  case c4 => omega
  case c5 => have := hb1.size; omega
  intro v' w2 hown' hgrow _
  have hlt : b < w1.heap.size := by
    rcases Nat.lt_or_ge b w1.heap.size with h' | h'
    · exact h'
    · simp [Array.getElem?_eq_none h'] at hbk
  have hb2 : w2.heap[b]? = some (.cells #[.pointer (some ⟨b, 0, none⟩), v] 100 (0, 0)) := by
    rw [hgrow.block b hlt (fun e => hne e.symm)]
    exact hbk
  have d0 : w2.cell? ⟨b, 0, none⟩ = some (.pointer (some ⟨b, 0, none⟩)) := by rw [Lib.cell_of_heap hb2]; rfl
  have d1 : w2.cell? ⟨b, 1, none⟩ = some v := by rw [Lib.cell_of_heap hb2]; rfl
  have f1 : w2.frozen? ⟨b, 1, none⟩ = false := Lib.frozen_of_heap hb2 1
  obtain ⟨ao, n', cap, rfl⟩ : ∃ ao n' cap, v' = .slice ao n' cap := by
    rcases hown'.2 with ⟨hv, _⟩ | ⟨g, cap, cur, fz, hv, _⟩
    · exact ⟨_, _, _, hv⟩
    · exact ⟨_, _, _, hv⟩
  go_wp2
  go_ret2
  refine ⟨rfl, ?_, ?_, (hk1.grown hgrow (Lib.ownsRowF_kind hown)).setCell ⟨b, 1, none⟩ rfl _⟩
  · exact Lib.BuilderAtF.put (T := 100) (e := 5) hB hb2 (bs' := bs ++ Lib.strCells s) (by simpa [Lib.strCells_length] using hown') (by decide)
  · exact (hb1.grown hgrow (by have := hb1.size; omega) (fun k hk => (hown.lt k hk).1)).setCell (p := ⟨b, 1, none⟩) hB _
end Go.Proofs.YtmhdhabgdlefjaaDoor.Bi
