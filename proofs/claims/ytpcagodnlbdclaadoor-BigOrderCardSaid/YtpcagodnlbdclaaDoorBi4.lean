/- A block of digits that is written in place. The contracts of add, combine, signed, times. -/
import Derived.Test.YtpcagodnlbdclaaDoorBi3
set_option maxRecDepth 100000
namespace Go.Proofs.YtpcagodnlbdclaaDoor.Bi
open Go.RowKit

/-- Block g is one of ints; it begins with R. -/
def Mem (w : World) (g : Nat) (R : List Int) : Prop := ∃ cur, w.heap[g]? = some (.cells cur 3 (0, 0)) ∧ ∀ j, j < R.length → cur[j]? = some (.int .i64 (R.getD j 0))
theorem Mem.cell {w : World} {g : Nat} {R : List Int} (h : Mem w g R) {j : Nat} (hj : j < R.length) : w.cell? ⟨g, j, none⟩ = some (.int .i64 (R.getD j 0)) := by
  obtain ⟨cur, h1, h2⟩ := h
  rw [cell_of_row w g j cur 3 (0, 0) h1]
  exact h2 j hj
theorem Mem.free {w : World} {g : Nat} {R : List Int} (h : Mem w g R) (j : Nat) : w.frozen? ⟨g, j, none⟩ = false := by
  obtain ⟨cur, h1, _⟩ := h
  simp [World.frozen?, h1]
theorem Mem.lt {w : World} {g : Nat} {R : List Int} (h : Mem w g R) : g < w.heap.size := by
  obtain ⟨cur, h1, _⟩ := h
  exact (Array.getElem?_eq_some_iff.1 h1).1
theorem Mem.set {w : World} {g : Nat} {R : List Int} (h : Mem w g R) {j : Nat} (hj : j < R.length) (v : Int) : Mem (w.setCell ⟨g, j, none⟩ (.int .i64 v)) g (R.set j v) := by
  obtain ⟨cur, h1, h2⟩ := h
  refine ⟨cur.setIfInBounds j (.int .i64 v), by simp [World.setCell, Array.getElem?_modify, h1], fun k hk => ?_⟩
  rw [List.length_set] at hk
  have hc := (Array.getElem?_eq_some_iff.1 (h2 k hk)).1
  by_cases e : j = k
  · subst e
    rw [getD_set_eq hj, Array.getElem?_setIfInBounds_self_of_lt hc]
  · rw [getD_set_ne e, Array.getElem?_setIfInBounds_ne e]
    exact h2 k hk
theorem Mem.kept {w w' : World} {g : Nat} {R : List Int} (h : Mem w g R) (hg : w'.heap[g]? = w.heap[g]?) : Mem w' g R := by
  obtain ⟨cur, h1, h2⟩ := h
  exact ⟨cur, hg.trans h1, h2⟩
theorem Mem.later {w w' : World} {g : Nat} {R : List Int} (h : Mem w g R) (hb : RowKit.Below w.heap.size w w') : Mem w' g R := h.kept (hb.block g h.lt)
theorem Mem.take {w : World} {g : Nat} {R : List Int} (h : Mem w g R) (k : Nat) : Mem w g (R.take k) := by
  obtain ⟨cur, h1, h2⟩ := h
  refine ⟨cur, h1, fun j hj => ?_⟩
  rw [List.length_take] at hj
  rw [h2 j (by omega), List.getD_eq_getElem?_getD, List.getD_eq_getElem?_getD, List.getElem?_take, if_pos (by omega)]
theorem Mem.row {w : World} {g : Nat} {R : List Int} (h : Mem w g R) (i n : Nat) (hn : i + n ≤ R.length) : Row w g i ((R.drop i).take n) := by
  intro j hj
  rw [List.length_take, List.length_drop] at hj
  rw [h.cell (by omega), List.getD_eq_getElem?_getD, List.getD_eq_getElem?_getD, List.getElem?_take, if_pos (by omega), List.getElem?_drop]
theorem Mem.ints {w : World} {g : Nat} {R : List Int} (h : Mem w g R) (i n cap : Nat) (hn : i + n ≤ R.length) (h1 : n ≤ cap) (h2 : cap ≤ 1000000000) : Ints w (.slice (some ⟨g, i, none⟩) n cap) ((R.drop i).take n) := by
  have e : ((R.drop i).take n).length = n := by rw [List.length_take, List.length_drop]; omega
  exact ⟨_, cap, by rw [e], by omega, by omega, .inr ⟨g, i, rfl, h.lt, h.row i n hn⟩⟩
theorem Mem.ints0 {w : World} {g : Nat} {R : List Int} (h : Mem w g R) (cap : Nat) (h1 : R.length ≤ cap) (h2 : cap ≤ 1000000000) : Ints w (.slice (some ⟨g, 0, none⟩) R.length cap) R := by
  have := h.ints 0 R.length cap (by omega) h1 h2
  simpa using this

theorem on_trans {b : Option Nat} {a c d : World} (h : a.grownBy c b) (k : c.grownBy d b) : a.grownBy d b :=
  ⟨k.os.trans h.os, k.tape.trans h.tape, k.output.trans h.output, Nat.le_trans h.size k.size, fun i hi hne => (k.block i (Nat.lt_of_lt_of_le hi h.size) hne).trans (h.block i hi hne)⟩
theorem on_set {b : Nat} {a c : World} (h : a.grownBy c (some b)) (o : Nat) (v : Value) : a.grownBy (c.setCell ⟨b, o, none⟩ v) (some b) :=
  on_trans h ⟨rfl, rfl, rfl, by simp [World.setCell], fun k _ hk => Below.heap_setCell _ _ _ _ (fun e => hk (by simp [e]))⟩
theorem on_refl (b : Option Nat) (w : World) : w.grownBy w b := ⟨rfl, rfl, rfl, Nat.le_refl _, fun _ _ _ => rfl⟩
theorem on_below {b : Option Nat} {w w' : World} (h : RowKit.Below w.heap.size w w') : w.grownBy w' b := ⟨h.os, h.tape, h.output, h.size, fun k hk _ => h.block k hk⟩
theorem below_on {B b : Nat} {w w' : World} (h : w.grownBy w' (some b)) (hB : B ≤ w.heap.size) (hb : B ≤ b) : RowKit.Below B w w' :=
  ⟨h.os, h.tape, h.output, h.size, fun k hk => h.block k (by omega) (fun e => by cases e; omega)⟩

/-- The slice is not one of block g. -/
def Off (v : Value) (g : Nat) : Prop := ∀ a n c, v = .slice (some a) n c → 0 < n → a.block ≠ g
theorem Ints.grown {w w' : World} {v : Value} {l : List Int} {g : Nat} (h : Ints w v l) (ho : Off v g) (hg : w.grownBy w' (some g)) : Ints w' v l := by
  obtain ⟨a, cap, rfl, h1, h2, h3⟩ := h
  refine ⟨a, cap, rfl, h1, h2, ?_⟩
  rcases h3 with rfl | ⟨b, o, rfl, hlt, hr⟩
  · exact .inl rfl
  · by_cases hl : l = []
    · exact .inl hl
    · have hne := ho _ _ _ rfl (List.length_pos_iff.2 hl)
      refine .inr ⟨b, o, rfl, Nat.lt_of_lt_of_le hlt hg.size, fun i hi => ?_⟩
      rw [World.cell?_of_block (w := w) (hg.block b hlt (fun e => hne (by simpa using e)))]
      exact hr i hi
theorem Ints.off {w : World} {v : Value} {l : List Int} {g : Nat} (h : Ints w v l) (hg : w.heap.size ≤ g) : Off v g := by
  intro a n c hv h0 e
  subst hv
  obtain ⟨rfl, _, _, h3⟩ := h.shape
  obtain ⟨b, o, e1, hlt, _⟩ := h3 h0
  cases e1
  simp at e
  omega

theorem Ints.set {w : World} {v : Value} {l : List Int} {g : Nat} (h : Ints w v l) (ho : Off v g) (o : Nat) (u : Value) : Ints (w.setCell ⟨g, o, none⟩ u) v l := h.grown ho (on_set (on_refl _ _) _ _)
/-- The slice lies in blocks from B on. -/
def Fresh (B : Nat) (v : Value) : Prop := ∀ g, g < B → Off v g
theorem fresh_mem {B g i n c : Nat} (h : B ≤ g) : Fresh B (.slice (some ⟨g, i, none⟩) n c) := by
  intro g' hg a n' c' e _ e2
  simp at e
  obtain ⟨rfl, rfl, rfl⟩ := e
  simp at e2
  omega
theorem off_nil (g : Nat) (n c : Nat) : Off (.slice none n c) g := by
  intro a n' c' e
  simp at e
theorem Fresh.mono {B B' : Nat} {v : Value} (h : Fresh B v) (hb : B' ≤ B) : Fresh B' v := fun g hg => h g (by omega)
theorem Off.shorter {a : Option Addr} {n m c g : Nat} (h : Off (.slice a n c) g) (hm : m ≤ n) : Off (.slice a m c) g := by
  intro a' n' c' e h0
  simp at e
  obtain ⟨rfl, rfl, rfl⟩ := e
  exact h a' n c rfl (by omega)
theorem mul_bd {q d A : Int} (h1 : -A ≤ q) (h2 : q ≤ A) (h3 : 0 ≤ d) (h4 : d < 1048576) (hA : 0 ≤ A) : -(A * 1048575) ≤ q * d ∧ q * d ≤ A * 1048575 := by
  have e1 : q * d ≤ A * d := Int.mul_le_mul_of_nonneg_right h2 h3
  have e2 : -A * d ≤ q * d := Int.mul_le_mul_of_nonneg_right h1 h3
  have e3 : A * d ≤ A * 1048575 := Int.mul_le_mul_of_nonneg_left (by omega) hA
  have e4 : -A * d = -(A * d) := Int.neg_mul _ _
  omega

/-- The digits of y, q times, have been added to those from i on. -/
def Added (g i n : Nat) (R : List Int) (V : Int) (w : World) (e : Ending) (w' : World) : Prop :=
  ∃ R', e = .returned (.tuple #[]) ∧ Mem w' g R' ∧ w.grownBy w' (some g) ∧ R'.length = R.length ∧ (∀ j, j < i ∨ i + n < j → R'.getD j 0 = R.getD j 0) ∧
    (∀ j, i ≤ j → j < i + n → 0 ≤ R'.getD j 0 ∧ R'.getD j 0 < 1048576) ∧ val R' = val R + P i * V

theorem add_step (VR VR' VR2 Pi Pk Pik c q d s t o : Int) (h1 : VR' + Pik * c = VR + Pi * (q * t)) (hp : Pik = Pi * Pk) (h2 : VR2 = VR' + Pik * (s % 1048576 - o)) (hs : s = c + (o + q * d)) :
   VR2 + 1048576 * Pik * (s / 1048576) = VR + Pi * (q * (t + Pk * d)) := by
  have h3 : s % 1048576 = s - 1048576 * (s / 1048576) := by omega
  rw [h3] at h2
  grind

set_option maxHeartbeats 1000000 in
theorem add_any (g i n cap capy : Nat) (R : List Int) (ay : Option Addr) (ly : List Int) (q : Int) (hn : ly.length = n) (w : World) (hM : Mem w g R) (hlen : i + n + 1 ≤ R.length) (hcap : n + 1 ≤ cap) (hcap' : cap ≤ 1000000000) (hi : i ≤ 1000000000) (hdy : Dig ly)
    (hdR : ∀ j, i ≤ j → j < i + n → 0 ≤ R.getD j 0 ∧ R.getD j 0 < 1048576) (htop : -4294967296 ≤ R.getD (i + n) 0 ∧ R.getD (i + n) 0 ≤ 4294967296) (hq : -2097152 ≤ q ∧ q ≤ 2097152) (hy : Ints w (.slice ay n capy) ly) (hoff : Off (.slice ay n capy) g) :
    Calls Tryd.prog 74 #[.slice (some ⟨g, i, none⟩) (n + 1) cap, .slice ay n capy, .int .i64 q] w (Added g i n R (q * val ly) w) := by
  obtain ⟨hy0, hy1, hy2, hy3⟩ := hy.shape
  have HY : Hid (∀ w', w.grownBy w' (some g) → ∀ k, k < n → ∃ b o, ay = some ⟨b, o, none⟩ ∧ w'.cell? ⟨b, o + k, none⟩ = some (.int .i64 (ly.getD k 0))) := by
    intro w' hw k hk
    obtain ⟨b, o, e, hlt, hr⟩ := hy3 (by omega)
    refine ⟨b, o, e, ?_⟩
    rw [World.cell?_of_block (w := w) (hw.block b hlt (fun e' => hoff ⟨b, o, none⟩ n capy (by rw [e]) (by omega) (by simpa using e')))]
    exact hr k (by omega)
  have HDy := Lib.hid hdy
  have HDR := Lib.hid hdR
  have HM := Lib.hid hM
  have HT := Lib.hid htop
  have HN := Lib.hid hn
  clear hy0 hy3 hy hoff hdy hdR hM htop hn
  go_enter Tryd.func74, Tryd.ntmps74
  go_wp2
  go_loopw [6, 11] (fun c t wr => ∃ (k : Nat) (C : Int) (R' : List Int), k ≤ n ∧ t = .int .i64 k ∧ c = .int .i64 C ∧ -2097160 ≤ C ∧ C ≤ 2097160 ∧ Mem wr g R' ∧ w.grownBy wr (some g) ∧ R'.length = R.length ∧ (∀ j, j < i ∨ i + k ≤ j → R'.getD j 0 = R.getD j 0) ∧
    (∀ j, i ≤ j → j < i + k → 0 ≤ R'.getD j 0 ∧ R'.getD j 0 < 1048576) ∧ val R' + P (i + k) * C = val R + P i * (q * val (ly.take k))) (fun _ t _ => n - (intOf t).toNat)
  case atStart => exact ⟨0, 0, R, Nat.zero_le _, rfl, rfl, by omega, by omega, HM.out, on_refl _ _, rfl, fun _ _ => rfl, fun j h1 h2 => by omega, by simp [val]⟩
  case round =>
    obtain ⟨k, C, R', hk, rfl, rfl, hC1, hC2, hM, hg, hl, hout, hdig, hval⟩ := hrel
    have HG := Lib.hid hg
    have HL := Lib.hid hl
    have HO := Lib.hid hout
    have HD := Lib.hid hdig
    have HV := Lib.hid hval
    have HMM := Lib.hid hM
    clear hg hl hout hdig hval hM
    by_cases hlt : k < n
    · obtain ⟨b, o, rfl, hcy⟩ := HY.out wr HG.out k hlt
      have hcl := HMM.out.cell (j := i + k) (by have := HL.out; omega)
      have hfl := HMM.out.free (i + k)
      rw [HO.out (i + k) (.inr (Nat.le_refl _))] at hcl
      have bo := HDR.out (i + k) (by omega) (by omega)
      have bd := HDy.out.get k
      obtain ⟨old, ho⟩ : ∃ old, R.getD (i + k) 0 = old := ⟨_, rfl⟩
      obtain ⟨d, hd⟩ : ∃ d, ly.getD k 0 = d := ⟨_, rfl⟩
      rw [ho] at hcl bo
      rw [hd] at hcy bd
      have bm := mul_bd (q := q) (d := d) (A := 2097152) (by omega) (by omega) bd.1 bd.2 (by omega)
      have HOl := Lib.hid ho
      have HDd := Lib.hid hd
      clear ho hd


      go_wp2
      go_roundw
      case rel =>
        have hcl2 := HL.out
        have e1 : C + (old + q * d) = C + (old + q * d) := rfl
        refine ⟨k + 1, (C + (old + q * d)) / 1048576, R'.set (i + k) ((C + (old + q * d)) % 1048576), by omega, by go_num, by rfl, by omega, by omega, ?_, ?_, by rw [List.length_set]; exact HL.out, ?_, ?_, ?_⟩
        · rw [mask20]
          exact HMM.out.set (by omega) _
        · exact on_set HG.out _ _
        · intro j hj
          rw [getD_set_ne (by omega)]
          exact HO.out j (by omega)
        · intro j h1 h2
          by_cases e : i + k = j
          · subst e
            rw [getD_set_eq (by omega)]
            omega
          · rw [getD_set_ne e]
            exact HD.out j h1 (by omega)
        · rw [show i + (k + 1) = (i + k) + 1 by omega, P_succ, val_take, HDd.out]
          refine add_step (val R) (val R') _ (P i) (P k) (P (i + k)) C q d _ (val (ly.take k)) old HV.out (P_add i k) ?_ rfl
          rw [val_set _ _ _ (by omega), HO.out (i + k) (.inr (Nat.le_refl _)), HOl.out]
      case measure => simp [intOf]; omega
    · obtain rfl : k = n := by omega
      have hcl2 := HL.out
      have hcl := HMM.out.cell (j := i + k) (by omega)
      have hfl := HMM.out.free (i + k)
      rw [HO.out (i + k) (.inr (Nat.le_refl _))] at hcl
      have bo := HT.out
      obtain ⟨old, ho⟩ : ∃ old, R.getD (i + k) 0 = old := ⟨_, rfl⟩
      rw [ho] at hcl bo
      have HOl := Lib.hid ho
      clear ho hcl2
      go_wp2
      go_end0
      have hcl2 := HL.out
      refine ⟨R'.set (i + k) (old + C), rfl, HMM.out.set (by omega) _, on_set HG.out _ _, by rw [List.length_set]; exact HL.out, ?_, ?_, ?_⟩
      · intro j hj
        rw [getD_set_ne (by omega)]
        exact HO.out j (by omega)
      · intro j h1 h2
        rw [getD_set_ne (by omega)]
        exact HD.out j h1 h2
      · rw [val_set _ _ _ (by omega), HO.out (i + k) (.inr (Nat.le_refl _)), HOl.out]
        have h1 := HV.out
        rw [val_take_all _ (by have := HN.out; omega)] at h1
        grind

theorem infoI : (Tryd.prog.info? 3).map (fun i => (i.zero, i.size, i.bytes)) = some (some (.int .i64 0), 1, 8) := by kernel_rfl
theorem make_any (N : Nat) (h : N ≤ 1000000000) : ∃ O : Obj, (∀ w, (Instr.makeSlice 22 (.int .i64 (N : Int)) (.int .i64 (N : Int))).run Tryd.prog w = .ok (.slice (some ⟨w.heap.size, 0, none⟩) N N) (w.alloc O)) ∧
    ∀ (w : World) g, w.heap[g]? = some O → Mem w g (List.replicate N 0) := by
  obtain ⟨i0, hi, hz0, hz1, hz2⟩ := info_parts infoI
  refine ⟨.cells (madeCells (Value.int .i64 0).cells ((N : Int).toNat * i0.size)) 3, fun w => ?_, fun w g hg => ⟨_, hg, fun j hj => ?_⟩⟩
  · have := run_make (P := Tryd.prog) w 22 3 i0 (.int .i64 0) Tryd.underlying22 hi hz0 .i64 .i64 N N (by omega) (by omega) (by rw [hz2]; omega) (by omega)
    simpa using this
  · rw [List.length_replicate] at hj
    rw [hz1]
    simp [madeCells, Value.cells, hj, Nat.mod_one]
theorem below_alloc (w : World) (O : Obj) : RowKit.Below w.heap.size w (w.alloc O) := (Below.refl _ _).alloc (Nat.le_refl _) _
theorem alloc_at (w : World) (O : Obj) : (w.alloc O).heap[w.heap.size]? = some O := by
  show (w.heap.push O)[w.heap.size]? = _
  simp
end Go.Proofs.YtpcagodnlbdclaaDoor.Bi
