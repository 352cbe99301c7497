/- The law JournalStays, walked: it returns true, and turns nothing that was there. -/
import Derived.Test.YtejddacjncpneaaDoorJo3
import Derived.Test.YtejddacjncpneaaDoorJoM
set_option maxRecDepth 100000
namespace Go.Proofs.YtejddacjncpneaaDoor.Jo
open Go.RowKit Go.WideShapes Go.ChangeShapes Di
open Wi (StrCells)

theorem ov_same {w w' : World} (h : Ov w.heap.size w w') : Same w w' := ⟨h.size, fun b hb => h.block b hb (by omega)⟩
theorem own_strs' {w : World} {v : Value} {l : List ByteArray} (h : Own w 9 1 v l.length (l.map Value.string)) : ∃ a cap, v = .slice a l.length cap ∧ StrCells w a l := by
  obtain ⟨a, cap, rfl, _, _⟩ := h.shape
  refine ⟨a, cap, rfl, ?_⟩
  cases l with
  | nil => exact .inl rfl
  | cons x l =>
    obtain ⟨g, rfl, _⟩ := h.cell (j := 0) (u := .string x) (by simp)
    refine .inr ⟨g, 0, rfl, fun i hi => ?_⟩
    obtain ⟨g', e, hc⟩ := h.cell (j := i) (u := .string (x :: l)[i]) (by rw [List.getElem?_map, List.getElem?_eq_getElem hi]; rfl)
    cases e
    rw [Nat.zero_add]
    exact hc

section
variable {B r : Nat} {st : St} {f : Int} {jb : Nat} {R : List ByteArray} {bad : Bool} {v : Value} {T T' : Nat → Prop} {K K' : World → Prop} {w w' : World}
/-- What is kept beside a journal is written. -/
theorem JK.turn (h : JK B r st f jb R bad v T K w) (hz : w.heap.size ≤ w'.heap.size) (hs : ∀ b, b < w.heap.size → ¬ T b → w'.heap[b]? = w.heap[b]?)
    (hT' : ∀ b, T' b → (T b ∨ w.heap.size ≤ b) ∧ b < w'.heap.size) (hK' : Keeps T' K' w') : JK B r st f jb R bad v T' K' w' := by
  have hlt := h.lt
  have hv := h.isJ.2.lt
  have hj : IsJ r f jb v R bad w' := ⟨(hs jb hlt h.nj).trans h.isJ.1, h.isJ.2.kept fun b e => hs b (hv b e) (h.nv b e).1⟩
  have hm := JK.mk' (w := w') (fun b hb => (hT' b hb).2) hj hK'
  refine ⟨h.dk.turn hz (fun b hb hn => hs b hb fun ht => hn (.inl ht)) (fun b hb => ⟨?_, hm.1 b hb⟩) hm.2, fun e => ?_, fun b e => ⟨fun e' => ?_, (h.nv b e).2⟩, h.bj, hK'⟩
  · rcases hb with h1 | h1 | h1
    · exact (hT' b h1).1.imp .inl id
    · exact .inl (.inr (.inl h1))
    · exact .inl (.inr (.inr h1))
  · rcases (hT' jb e).1 with h1 | h1
    · exact h.nj h1
    · omega
  · rcases (hT' b e').1 with h1 | h1
    · exact (h.nv b e).1 h1
    · have := hv b e
      omega
theorem JK.lose (h : JK B r st f jb R bad v T K w) (hB : B ≤ w.heap.size) (n : Int) (hn : -9223372036854775808 ≤ n ∧ n ≤ 9223372036854775807) :
    Calls Tryd.prog 10 #[.pointer (some ⟨r, 0, none⟩), .int .i64 n] w fun e w' => e = .returned (.tuple #[]) ∧ JK B r (Di.lose st n) f jb R bad v T K w' ∧ Ov B w w' :=
  h.call hB fun S p hp hd _ => by subst hp; exact lose_any hd n hn
end

/-! ### what holds while the law runs -/
/-- The disk, and perhaps a journal. -/
def StJ (B r n : Nat) (j : Value) (w : World) : Prop :=
  ∃ st, (j = .pointer none ∧ DK B r st (fun _ => False) (fun _ => True) w ∧ Sx st 0 n) ∨
    ∃ jb R bad v, j = .pointer (some ⟨jb, 0, none⟩) ∧ JK B r st 0 jb R bad v (fun _ => False) (fun _ => True) w ∧ Sj st 0 R n
/-- The journal, and the list that is wanted. -/
def StW (B r jb n : Nat) (x : Value) (w : World) : Prop :=
  (∀ b, blk x = some b → B ≤ b) ∧ ∃ st R bad v, JK B r st 0 jb R bad v (fun b => blk x = some b) (fun w => Own w 9 1 x R.length (R.map Value.string)) w ∧ Sj st 0 R n
/-- The journal behind a sync. -/
def StF (B r : Nat) (R : List ByteArray) (x j : Value) (w : World) : Prop :=
  ∃ st jb bad v, j = .pointer (some ⟨jb, 0, none⟩) ∧ JK B r st 0 jb R bad v (fun b => blk x = some b) (fun w => Own w 9 1 x R.length (R.map Value.string)) w ∧ Fin st 0 R

section
variable {B r n m : Nat} {j : Value} {w : World}
theorem StJ.mono (h : StJ B r n j w) (hm : n ≤ m) : StJ B r m j w := by
  obtain ⟨st, ⟨h1, h2, h3⟩ | ⟨jb, R, bad, v, h1, h2, h3⟩⟩ := h
  · exact ⟨st, .inl ⟨h1, h2, h3.mono hm⟩⟩
  · exact ⟨st, .inr ⟨jb, R, bad, v, h1, h2, h3.mono hm⟩⟩
theorem StJ.dk (h : StJ B r n j w) : ∃ st, DK B r st (fun _ => False) (fun _ => True) w ∧ Sx st 0 n := by
  obtain ⟨st, ⟨_, h2, h3⟩ | ⟨jb, R, bad, v, _, h2, h3⟩⟩ := h
  · exact ⟨st, h2, h3⟩
  · exact ⟨st, h2.toDK, h3.sx⟩
theorem StJ.lose (h : StJ B r n j w) (hB : B ≤ w.heap.size) (k : Int) (hk : -9223372036854775808 ≤ k ∧ k ≤ 9223372036854775807) :
    Calls Tryd.prog 10 #[.pointer (some ⟨r, 0, none⟩), .int .i64 k] w fun e w' => e = .returned (.tuple #[]) ∧ StJ B r n j w' ∧ Ov B w w' := by
  obtain ⟨st, ⟨h1, h2, h3⟩ | ⟨jb, R, bad, v, h1, h2, h3⟩⟩ := h
  · exact (h2.lose hB k hk).mono fun e w' ⟨e1, e2, e3⟩ => ⟨e1, ⟨_, .inl ⟨h1, e2, h3.lose hk.2⟩⟩, e3⟩
  · exact (h2.lose hB k hk).mono fun e w' ⟨e1, e2, e3⟩ => ⟨e1, ⟨_, .inr ⟨jb, R, bad, v, h1, e2, h3.lose hk.2⟩⟩, e3⟩
theorem OpPost.stJ {st : St} {e : Ending} {w' : World} (h : OpPost B r st 0 (fun _ => False) (fun _ => True) w e w') (hx : Sx st 0 n) :
    ∃ j c, e = .returned (.tuple #[j, .int .i64 c]) ∧ StJ B r n j w' ∧ Ov B w w' := by
  obtain ⟨ho, ⟨_, h2, h3⟩ | ⟨h1, jb, v, h2, h3⟩⟩ := h
  · exact ⟨_, _, h2, ⟨_, .inl ⟨rfl, h3, hx.op⟩⟩, ho⟩
  · exact ⟨_, _, h2, ⟨_, .inr ⟨jb, _, _, v, rfl, h3, hx.opJ h1⟩⟩, ho⟩
end

set_option maxHeartbeats 1000000 in
theorem stays_out (a a2 a3 a4 : Option Addr) (cap cap2 cap3 cap4 : Nat) (vs : List Opn) (s : List ByteArray) (o1 o2 : List Int) (w : World) (he : Wi.Env w)
    (hv : OCells w a vs) (hs : StrCells w a2 s) (hvl : vs.length ≤ 9223372036854775807) (hsl : s.length ≤ 9223372036854775807) (hsz : ∀ x ∈ s, x.size ≤ 9223372036854775807)
    (h : few vs = false ∨ (few vs = true ∧ textsB s = false) ∨ (few vs = true ∧ textsB s = true ∧ 50 < o1.length) ∨ (few vs = true ∧ textsB s = true ∧ o1.length ≤ 50 ∧ 50 < o2.length)) :
    Calls Tryd.prog 4 #[.slice a vs.length cap, .slice a2 s.length cap2, .slice a3 o1.length cap3, .slice a4 o2.length cap4] w (Gives (.bool true) w) := by
  go_enter Tryd.func4, Tryd.ntmps4
  go_wp2_with fail
  refine (small_any w he).mono ?_
  rintro e w1 ⟨rfl, ho⟩
  have HF := Lib.hid (few_any vs a cap w1 (hv.later (Nat.le_refl _) ho) hvl)
  have HT := Lib.hid (texts_any s a2 cap2 w1 (StrCells.same hs (ov_same ho)) hsz hsl)
  have HO := Lib.hid ho
  clear ho hv hs hsz he
  rcases h with h1 | ⟨h1, h2⟩ | ⟨h1, h2, h3⟩ | ⟨h1, h2, h3, h4⟩
  · rw [h1] at HF
    clear h1 HT
    go_wp2_with fail
    refine HF.out.mono ?_
    rintro e w2 ⟨rfl, rfl⟩
    go_wp2_with fail
    go_ret
    exact ⟨rfl, HO.out.below (Nat.le_refl _)⟩
  all_goals
    rw [h1] at HF
    rw [h2] at HT
    clear h1 h2
    go_wp2_with fail
    refine HF.out.mono ?_
    rintro e w2 ⟨rfl, rfl⟩
    go_wp2_with fail
    refine HT.out.mono ?_
    rintro e w2 ⟨rfl, rfl⟩
    go_wp2_with fail
    go_ret
    exact ⟨rfl, HO.out.below (Nat.le_refl _)⟩

theorem ocell {w0 wr : World} {B b off : Nat} {us : List Opn} {k : Nat} (hu : OCells w0 (some ⟨b, off, none⟩) us) (hw : w0.heap.size ≤ B) (hb : Ov B w0 wr) (hlt : k < us.length) :
    (∀ j u, us[k].cells[j]? = some u → wr.cell? ⟨b, off + k * 4 + j, none⟩ = some u) ∧ OOk w0 us[k] ∧ OOk wr us[k] := by
  rcases hu.later hw hb with h | ⟨b', o', e, hc⟩
  · rw [h] at hlt; simp at hlt
  · cases e
    refine ⟨(hc k hlt).1, ?_, (hc k hlt).2⟩
    rcases hu with h | ⟨b', o', e, hc0⟩
    · rw [h] at hlt; simp at hlt
    · exact (hc0 k hlt).2
theorem ocells_box {w : World} {a : Option Addr} {us : List Opn} {k : Nat} (h : OCells w a us) (hlt : k < us.length) : ∃ b off, a = some ⟨b, off, none⟩ := by
  rcases h with h | ⟨b, o, e, _⟩
  · rw [h] at hlt; simp at hlt
  · exact ⟨b, o, e⟩
theorem strs_box {w : World} {a : Option Addr} {us : List ByteArray} {k : Nat} (h : StrCells w a us) (hlt : k < us.length) : ∃ b off, a = some ⟨b, off, none⟩ := by
  rcases h with h | ⟨b, o, e, _⟩
  · rw [h] at hlt; simp at hlt
  · exact ⟨b, o, e⟩
theorem strs_cell {w wr : World} {B b off : Nat} {us : List ByteArray} {k : Nat} (h : StrCells w (some ⟨b, off, none⟩) us) (hw : w.heap.size ≤ B) (hb : Ov B w wr) (hlt : k < us.length) : wr.cell? ⟨b, off + k, none⟩ = some (.string us[k]) := by
  rcases h with h | ⟨b', o', e, hc⟩
  · rw [h] at hlt; simp at hlt
  · cases e
    have h1 := hc k hlt
    have h2 := Wi.cell_lt h1
    exact cell_same (hb.block b h2 (by omega)) _ h1

set_option maxHeartbeats 8000000 in
theorem stays_in (a a2 a3 a4 : Option Addr) (cap cap2 cap3 cap4 : Nat) (vs : List Opn) (s : List ByteArray) (o1 o2 : List Int) (w : World) (he : Wi.Env w)
    (hv : OCells w a vs) (hs : StrCells w a2 s) (hfew : few vs = true) (htx : textsB s = true)
    (hi1 : Ints w (.slice a3 o1.length cap3) o1) (hi2 : Ints w (.slice a4 o2.length cap4) o2)
    (hk1 : o1.length ≤ 50 ∧ ∀ x ∈ o1, -9223372036854775808 ≤ x ∧ x ≤ 9223372036854775807) (hk2 : o2.length ≤ 50 ∧ ∀ x ∈ o2, -9223372036854775808 ≤ x ∧ x ≤ 9223372036854775807) :
    Calls Tryd.prog 4 #[.slice a vs.length cap, .slice a2 s.length cap2, .slice a3 o1.length cap3, .slice a4 o2.length cap4] w (Gives (.bool true) w) := by
  have h6 := he.size
  have HE0 := Lib.hid he
  obtain ⟨hfl, hvl⟩ := few_iff.1 hfew
  obtain ⟨htl, hsl⟩ := textsB_iff.1 htx
  have HFW := Lib.hid hfl
  have HTX := Lib.hid htl
  have HV := Lib.hid hv
  have HS := Lib.hid hs
  have HI1 := Lib.hid hi1
  have HI2 := Lib.hid hi2
  have HK1 := Lib.hid hk1
  have HK2 := Lib.hid hk2
  obtain ⟨hl1, _⟩ := hk1
  obtain ⟨hl2, _⟩ := hk2
  have HFC : Hid (∀ w1, Ov w.heap.size w w1 → Calls Tryd.prog 7 #[.slice a vs.length cap] w1 fun e w' => e = .returned (.bool true) ∧ w1 = w') := fun w1 ho => by
    have := few_any vs a cap w1 (hv.later (Nat.le_refl _) ho) (by omega)
    rwa [hfew] at this
  have HTC : Hid (∀ w1, Ov w.heap.size w w1 → Calls Tryd.prog 20 #[.slice a2 s.length cap2] w1 fun e w' => e = .returned (.bool true) ∧ w1 = w') := fun w1 ho => by
    have := texts_any s a2 cap2 w1 (StrCells.same hs (ov_same ho)) (fun x hx => by have := htl x hx; omega) (by omega)
    rwa [htx] at this
  clear he hv hs hfew htx hi1 hi2 hfl htl
  go_enter Tryd.func4, Tryd.ntmps4
  go_wp2_with fail
  refine (small_any w HE0.out).mono ?_
  rintro e w1 ⟨rfl, ho1⟩
  have HF := Lib.hid (HFC.out w1 ho1)
  have HT := Lib.hid (HTC.out w1 ho1)
  have HO1 := Lib.hid ho1
  clear ho1 HFC HTC
  go_wp2_with fail
  refine HF.out.mono ?_
  rintro e w2 ⟨rfl, rfl⟩
  go_wp2_with fail
  refine HT.out.mono ?_
  rintro e w2 ⟨rfl, rfl⟩
  clear HF HT
  go_wp2_with fail
  refine (new_any w1).mono ?_
  rintro e w2 ⟨r, rfl, hdk, hg⟩
  have hk := (new_dk hdk).lower HO1.out.size
  have HO2 : Hid (Ov w.heap.size w w2) := HO1.out.trans (Ov.grown hg)
  have hz2 : w.heap.size ≤ w2.heap.size := HO2.out.size
  have HE := Lib.hid (env_ov HE0.out HO2.out h6)
  have HN := Lib.hid (open_any hk hz2 h6 HE.out (f := 0) (by omega))
  clear hdk hg hk HO1
  go_wp2_with fail
  refine HN.out.mono ?_
  clear HN
  rintro e w3 hp
  obtain ⟨j, c, rfl, hst, ho⟩ := hp.stJ new_sx
  have HO3 : Hid (Ov w.heap.size w w3) := HO2.out.trans ho
  have HST := Lib.hid hst
  clear hp hst ho HO2 hz2 HE
  go_wp2_with fail
  go_loopw [11, 13] (fun j i wr => ∃ k : Nat, k ≤ vs.length ∧ i = .int .i64 k ∧ Hid (Ov w.heap.size w wr) ∧ Hid (StJ w.heap.size r (243 * k) j wr)) (fun _ i _ => vs.length - (RowKit.intOf i).toNat)
  case atStart => exact ⟨0, by omega, rfl, HO3.out, HST.out⟩
  case round =>
    clear HO3 HST
    obtain ⟨k, hk, rfl, HO, HJ⟩ := hrel
    have hz : w.heap.size ≤ wr.heap.size := HO.out.size
    have HE := Lib.hid (env_ov HE0.out HO.out h6)
    by_cases hlt : k < vs.length
    · obtain ⟨b, off, rfl⟩ := ocells_box HV.out hlt
      obtain ⟨hck, hok0, hok⟩ := ocell HV.out (Nat.le_refl _) HO.out hlt
      obtain ⟨v, hvk⟩ : ∃ v, vs[k] = v := ⟨_, rfl⟩
      have hmem : v ∈ vs := by rw [← hvk]; exact List.getElem_mem hlt
      obtain ⟨hvs, hvk2⟩ := fewO_iff.1 (HFW.out v hmem)
      rw [hvk] at hck hok hok0
      have f0 : wr.cell? ⟨b, off + k * 4, none⟩ = some (.int .i64 v.kd) := hck 0 _ rfl
      have f1 : wr.cell? ⟨b, off + k * 4 + 1, none⟩ = some (.string v.s) := hck 1 _ rfl
      have f2 : wr.cell? ⟨b, off + k * 4 + 2, none⟩ = some (.int .i64 v.n) := hck 2 _ rfl
      have f3 : wr.cell? ⟨b, off + k * 4 + 3, none⟩ = some (.slice v.ka v.k.length v.kc) := hck 3 _ rfl
      have hkb := hok.kb
      have hnb := hok.nb
      have hkd : v.kd = 0 ∨ v.kd = 1 ∨ v.kd = 2 ∨ v.kd = 4 ∨ ((v.kd == 0) = false ∧ (v.kd == 1) = false ∧ (v.kd == 2) = false ∧ (v.kd == 4) = false) := by
        by_cases h0 : v.kd = 0
        · exact .inl h0
        · by_cases h1 : v.kd = 1
          · exact .inr (.inl h1)
          · by_cases h2 : v.kd = 2
            · exact .inr (.inr (.inl h2))
            · by_cases h4 : v.kd = 4
              · exact .inr (.inr (.inr (.inl h4)))
              · exact .inr (.inr (.inr (.inr ⟨by simpa using h0, by simpa using h1, by simpa using h2, by simpa using h4⟩)))
      have HOK0 := Lib.hid hok0
      have HOK := Lib.hid hok
      have HMO : Hid (StJ w.heap.size r (243 * (k + 1)) u11 wr) := HJ.out.mono (by omega)
      clear hck hok0 hok hvk hmem
      rcases hkd with h0 | h1 | h2 | h4 | ⟨h0, h1, h2, h4⟩
      · rw [h0] at f0
        clear hkb h0 f2 f3 HOK0 HOK
        obtain ⟨st, ⟨rfl, _, _⟩ | ⟨jb, R, bad, u, rfl, hj, hsj⟩⟩ := HJ.out
        · clear f1
          go_wp2_with fail
          go_roundw
          case rel => exact ⟨k + 1, by omega, by go_num, HO, HMO⟩
          case measure => simp [RowKit.intOf]; omega
        · have hlen := hsj.sx.len
          rw [hsj.now] at hlen
          obtain ⟨hsj2, _⟩ := hsj.app (bad := bad) (show isF 0 = true by decide) hvs (by omega)
          have HN := Lib.hid (append_any hj hz HE.out v.s (by omega) (by omega) (by omega))
          have HSJ := Lib.hid hsj2
          clear hj hsj hsj2 HMO HJ hlen
          go_wp2_with fail
          refine HN.out.mono ?_
          clear HN
          rintro e w4 ⟨rfl, ⟨u', hj⟩, ho⟩
          have HO4 : Hid (Ov w.heap.size w w4) := HO.out.trans ho
          have HJ4 : Hid (StJ w.heap.size r (243 * (k + 1)) (.pointer (some ⟨jb, 0, none⟩)) w4) := ⟨_, .inr ⟨jb, _, _, u', rfl, hj, HSJ.out.mono (by omega)⟩⟩
          clear hj ho HSJ
          go_wp2_with fail
          go_roundw
          case rel => exact ⟨k + 1, by omega, by go_num, HO4, HJ4⟩
          case measure => simp [RowKit.intOf]; omega
      · rw [h1] at f0
        clear hkb h1 f2 f3 HOK0 HOK f1
        obtain ⟨st, ⟨rfl, _, _⟩ | ⟨jb, R, bad, u, rfl, hj, hsj⟩⟩ := HJ.out
        · go_wp2_with fail
          go_roundw
          case rel => exact ⟨k + 1, by omega, by go_num, HO, HMO⟩
          case measure => simp [RowKit.intOf]; omega
        · have HN := Lib.hid (sync_any' hj hz (by omega))
          have HSJ := Lib.hid (hsj.sy (bad := bad))
          clear hj hsj HMO HJ
          go_wp2_with fail
          refine HN.out.mono ?_
          clear HN
          rintro e w4 ⟨rfl, hj, ho⟩
          have HO4 : Hid (Ov w.heap.size w w4) := HO.out.trans ho
          have HJ4 : Hid (StJ w.heap.size r (243 * (k + 1)) (.pointer (some ⟨jb, 0, none⟩)) w4) := ⟨_, .inr ⟨jb, _, _, u, rfl, hj, HSJ.out.mono (by omega)⟩⟩
          clear hj ho HSJ
          go_wp2_with fail
          go_roundw
          case rel => exact ⟨k + 1, by omega, by go_num, HO4, HJ4⟩
          case measure => simp [RowKit.intOf]; omega
      · rw [h2] at f0
        clear hkb h2 f1 f3 HOK0 HOK
        have HN := Lib.hid (HMO.out.lose hz v.n hnb)
        clear HMO HJ
        go_wp2_with fail
        refine HN.out.mono ?_
        clear HN
        rintro e w4 ⟨rfl, hj, ho⟩
        have HO4 : Hid (Ov w.heap.size w w4) := HO.out.trans ho
        have HJ4 := Lib.hid hj
        clear hj ho
        go_wp2_with fail
        go_roundw
        case rel => exact ⟨k + 1, by omega, by go_num, HO4, HJ4⟩
        case measure => simp [RowKit.intOf]; omega
      · rw [h4] at f0
        obtain ⟨st, hdk, hsx⟩ := HMO.out.dk
        have HN := Lib.hid (hdk.crash hz (.slice v.ka v.k.length v.kc) v.k HOK.out.ints (fun b hb => HOK0.out.ints.off_lt hb) ⟨by omega, HOK0.out.ib⟩)
        have HSX := Lib.hid (hsx.crash v.k)
        clear hkb h4 f1 f2 HOK0 HOK HMO HJ hdk hsx
        go_wp2_with fail
        refine HN.out.mono ?_
        clear HN
        rintro e w4 ⟨rfl, hk4, ho⟩
        have HO4 : Hid (Ov w.heap.size w w4) := HO.out.trans ho
        have hz4 : w.heap.size ≤ w4.heap.size := HO4.out.size
        have HN := Lib.hid (hk4.start hz4)
        clear hk4 ho f3
        go_wp2_with fail
        refine HN.out.mono ?_
        clear HN
        rintro e w5 ⟨rfl, hk5, ho⟩
        have HO5 : Hid (Ov w.heap.size w w5) := HO4.out.trans ho
        have hz5 : w.heap.size ≤ w5.heap.size := HO5.out.size
        have HE5 := Lib.hid (env_ov HE0.out HO5.out h6)
        have HN := Lib.hid (open_any hk5 hz5 h6 HE5.out (f := 0) (by omega))
        clear hk5 ho HO4 hz4
        go_wp2_with fail
        refine HN.out.mono ?_
        clear HN
        rintro e w6 hp
        obtain ⟨j', c, rfl, hst, ho⟩ := hp.stJ HSX.out
        have HO6 : Hid (Ov w.heap.size w w6) := HO5.out.trans ho
        have HJ6 := Lib.hid hst
        clear hp hst ho HSX HO5 hz5 HE5
        go_wp2_with fail
        go_roundw
        case rel => exact ⟨k + 1, by omega, by go_num, HO6, HJ6⟩
        case measure => simp [RowKit.intOf]; omega
      · clear hkb f1 f2 f3 HOK0 HOK HJ
        go_wp2_with fail
        go_roundw
        case rel => exact ⟨k + 1, by omega, by go_num, HO, HMO⟩
        case measure => simp [RowKit.intOf]; omega
    · have hkn : 243 * k ≤ 6075 := by omega
      obtain ⟨st, ⟨rfl, _, _⟩ | ⟨jb, R, bad, u, rfl, hj, hsj⟩⟩ := HJ.out
      · go_wp2_with fail
        go_ret
        exact ⟨rfl, HO.out.below (Nat.le_refl _)⟩
      · have hrc := hsj.count
        have HN := Lib.hid (all_any hj (by omega))
        have HSJ := Lib.hid (hsj.mono hkn)
        have HJJ := Lib.hid hj
        clear hj hsj HJ HE
        go_wp2_with fail
        refine HN.out.mono ?_
        clear HN
        rintro e w4 ⟨x4, rfl, hrow, hb4⟩
        obtain ⟨hown, hbl⟩ := own_of_row hrow
        have hj4 := HJJ.out.swap (same_below hb4) (T' := fun b => blk x4 = some b) (K' := fun w => Own w 9 1 x4 R.length (R.map Value.string)) (fun b hb => ⟨.inr (hbl b hb), hown.lt b hb⟩) (fun w' hb => hown.kept hb)
        obtain ⟨xa, xc, hx4, _, _⟩ := hown.shape
        have HO4 : Hid (Ov w.heap.size w w4) := HO.out.trans (ovBelow hb4)
        have HW4 : Hid (StW w.heap.size r jb 6075 x4 w4) := ⟨fun b e => Nat.le_trans hz (hbl b e), _, _, _, _, hj4, HSJ.out⟩
        subst hx4
        clear hrow hown hbl hb4 hj4 HJJ HSJ HO hz hrc
        go_wp2_with fail
        go_loopw [14, 15] (fun x i wr => ∃ m : Nat, m ≤ s.length ∧ i = .int .i64 m ∧ Hid (Ov w.heap.size w wr) ∧ Hid (StW w.heap.size r jb (6075 + 243 * m) x wr)) (fun _ i _ => s.length - (RowKit.intOf i).toNat)
        case atStart => exact ⟨0, by omega, rfl, HO4.out, HW4.out⟩
        case round =>
          clear HO4 HW4
          obtain ⟨m, hm, rfl, HO, HW⟩ := hrel
          have hz : w.heap.size ≤ wr.heap.size := HO.out.size
          have HE := Lib.hid (env_ov HE0.out HO.out h6)
          obtain ⟨hxb, st, R, bad, u, hj, hsj⟩ := HW.out
          have hown := hj.keeps.self
          obtain ⟨xa, xc, hx, hxl, hxm⟩ := hown.shape
          have hrc := hsj.count
          have hlen := hsj.sx.len
          rw [hsj.now] at hlen
          by_cases hlt2 : m < s.length
          · obtain ⟨b, off, rfl⟩ := strs_box HS.out hlt2
            have hb0 := HS.out
            obtain ⟨z, hzz⟩ : ∃ z, s[m] = z := ⟨_, rfl⟩
            have hzs : z.size ≤ 200 := HTX.out z (by rw [← hzz]; exact List.getElem_mem hlt2)
            have FC : Hid (∀ w', Ov w.heap.size w w' → w'.cell? ⟨b, off + m, none⟩ = some (.string z)) := fun w' ho => by
              have := strs_cell hb0 (Nat.le_refl _) ho hlt2
              rwa [hzz] at this
            have f1 := FC.out wr HO.out
            have HN := Lib.hid (append_any hj hz HE.out z (by omega) (by omega) (by omega))
            obtain ⟨hsj2, hcase⟩ := hsj.app (bad := bad) (show isF 0 = true by decide) hzs (by omega)
            have HSJ := Lib.hid (hsj2.mono (show 6075 + 243 * m + 243 ≤ 6075 + 243 * (m + 1) by omega))
            clear hj hsj hsj2 hb0 hzz hown
            subst hx
            have HXB := Lib.hid hxb
            clear HW hxb
            rcases hcase with ⟨hc, hR⟩ | ⟨hc, hR⟩
            · rw [hR] at HSJ
              go_wp2_with fail
              refine HN.out.mono ?_
              clear HN
              rintro e w4 ⟨rfl, ⟨u', hj⟩, ho⟩
              rw [hc]
              rw [hR] at hj
              have hbw := hj.keeps.self
              have HO4 : Hid (Ov w.heap.size w w4) := HO.out.trans ho
              have hz4 : w.heap.size ≤ w4.heap.size := HO4.out.size
              have f2 := FC.out w4 HO4.out
              have HJ4 := Lib.hid hj
              have HOW := Lib.hid hbw
              obtain ⟨i0, hi, hi0, hi1, hi2⟩ := info_parts infoStr
              clear hj ho hc hR hbw f1 HO hz
              go_wp2_with (at_builtin; refine wpList_append_Own (by rfl) _ _ _ _ (by rfl) Tryd.underlying32 hi hi0 hi1 hi2 rfl (by rfl) (HOW.out.grown (World.grownBy_alloc _ (.cells #[.string z] 9) none) (by cases blk (.slice xa R.length xc) <;> simp)) _ (by rfl) (Src.ofSlice _ Tryd.underlying32 _ 1 1 [.string z] (by simp) (World.news_of_block (cs := #[.string z]) (t := 9) (fr := (0, 0)) (heap_alloc_new _ _)) (by simp [Value.oneCell'])) (by unfold maxLen; omega) (by omega) ?_)
              intro x' w5 hown5 hgr hbl
              have hall : w4.grownBy w5 (blk (.slice xa R.length xc)) := (World.grownBy_alloc _ _ _).trans hgr
              have hown5' : Own w5 9 1 x' (R ++ [z]).length ((R ++ [z]).map Value.string) := by simpa using hown5
              have hblw := HXB.out
              have hj5 := HJ4.out.turn (w' := w5) hall.size (fun b hb hn => hall.block b hb (Ne.symm hn)) (T' := fun b => blk x' = some b) (K' := fun w => Own w 9 1 x' (R ++ [z]).length ((R ++ [z]).map Value.string))
                (fun b hb => ⟨by
                  rcases hbl with h | h | h
                  · rw [h] at hb; cases hb
                  · exact .inl (h ▸ hb)
                  · rw [h] at hb; cases hb; exact .inr (by simp), hown5'.lt b hb⟩) (fun w' hb => hown5'.kept hb)
              have HO5 : Hid (Ov w.heap.size w w5) := HO4.out.trans (But.of hall fun b e _ => hblw b e)
              have HW5 : Hid (StW w.heap.size r jb (6075 + 243 * (m + 1)) x' w5) := ⟨fun b e => by
                rcases hbl with h | h | h
                · rw [h] at e; cases e
                · exact hblw b (h ▸ e)
                · rw [h] at e; cases e; exact Nat.le_succ_of_le hz4, _, _, _, _, hj5, HSJ.out⟩
              clear hgr hbl hall hown5 hown5' hblw hj5 HJ4 HOW HSJ HO4 hz4 f2
              go_wp2_with fail
              go_roundw
              case rel => exact ⟨m + 1, by omega, by go_num, HO5, HW5⟩
              case measure => simp [RowKit.intOf]; omega
            · rw [hR] at HSJ
              go_wp2_with fail
              refine HN.out.mono ?_
              clear HN
              rintro e w4 ⟨rfl, ⟨u', hj⟩, ho⟩
              rw [hc]
              rw [hR] at hj
              have HO4 : Hid (Ov w.heap.size w w4) := HO.out.trans ho
              have HW4 : Hid (StW w.heap.size r jb (6075 + 243 * (m + 1)) (.slice xa R.length xc) w4) := ⟨HXB.out, _, _, _, _, hj, HSJ.out⟩
              clear hj ho hc hR HSJ f1
              go_wp2_with fail
              go_roundw
              case rel => exact ⟨m + 1, by omega, by go_num, HO4, HW4⟩
              case measure => simp [RowKit.intOf]; omega
          · have HN := Lib.hid (sync_any' hj hz (by omega))
            subst hx
            have hRn : R.length ≤ 100000 := by omega
            by_cases hc : syC st 0 bad = 0
            · have HFI := Lib.hid (hsj.fin (bad := bad) hc)
              clear hj hsj HW hxb hown hlen hrc HE
              go_wp2_with fail
              refine HN.out.mono ?_
              clear HN
              rintro e w4 ⟨rfl, hj, ho⟩
              rw [hc]
              have HO4 : Hid (Ov w.heap.size w w4) := HO.out.trans ho
              have hz4 : w.heap.size ≤ w4.heap.size := HO4.out.size
              have HN := Lib.hid (hj.lose hz4 0 (by omega))
              clear hj ho HO hz hc
              go_wp2_with fail
              refine HN.out.mono ?_
              clear HN
              rintro e w5 ⟨rfl, hj, ho⟩
              have HO5 : Hid (Ov w.heap.size w w5) := HO4.out.trans ho
              have HF5 : Hid (StF w.heap.size r R (.slice xa R.length xc) (.pointer (some ⟨jb, 0, none⟩)) w5) := ⟨_, jb, _, _, rfl, hj, HFI.out⟩
              clear hj ho HFI HO4 hz4
              go_wp2_with fail
              go_loopw [11, 17] (fun j i wr => ∃ q : Nat, q ≤ 2 ∧ i = .int .i64 q ∧ Hid (Ov w.heap.size w wr) ∧ Hid (StF w.heap.size r R (.slice xa R.length xc) j wr)) (fun _ i _ => 2 - (RowKit.intOf i).toNat)
              case atStart => exact ⟨0, by omega, rfl, HO5.out, HF5.out⟩
              case round =>
                clear HO5 HF5
                obtain ⟨q, hq, rfl, HO, HF⟩ := hrel
                have hz := HO.out.size
                obtain ⟨st, kb, bad, v, rfl, hj, hfi⟩ := HF.out
                have HN := Lib.hid (all_any hj (by omega))
                have HJJ := Lib.hid hj
                have HFI := Lib.hid hfi
                clear hj hfi HF
                by_cases hq2 : q < 2
                · go_wp2_with fail
                  refine HN.out.mono ?_
                  clear HN
                  rintro e w6 hl
                  obtain ⟨ya, yc, rfl, hy, _, _, hb6⟩ := hl.open
                  have hj := HJJ.out.same (same_below hb6)
                  have HO6 : Hid (Ov w.heap.size w w6) := HO.out.trans (ovBelow hb6)
                  obtain ⟨xa', xc', hx', hxs⟩ := own_strs' hj.keeps.self
                  cases hx'
                  have HN := Lib.hid (same_any ya xa yc xc R R (by omega) (by omega) w6 hy hxs)
                  rw [decide_eq_true (rfl : R = R)] at HN
                  have HJ6 := Lib.hid hj
                  clear hl hy hb6 hj hxs HJJ HO hz
                  go_wp2_with fail
                  refine HN.out.mono ?_
                  clear HN
                  rintro e w7 ⟨rfl, hb7⟩
                  have hj := HJ6.out.same (same_below hb7)
                  have HO7 : Hid (Ov w.heap.size w w7) := HO6.out.trans (ovBelow hb7)
                  have hz7 := HO7.out.size
                  have hdk := hj.toDK
                  clear HJ6 HO6 hb7 hj
                  have hqq : q = 0 ∨ q = 1 := by omega
                  rcases hqq with rfl | rfl
                  · have hi := HI1.out.kept (fun b _ hlt => HO7.out.block b hlt (by omega))
                    have HN := Lib.hid (hdk.crash hz7 (.slice a3 o1.length cap3) o1 hi (fun b hb => HI1.out.off_lt hb) ⟨by omega, HK1.out.2⟩)
                    obtain ⟨h0, hR, hfi⟩ := HFI.out.step (show isF 0 = true by decide) o1
                    have HR := Lib.hid (show opC _ 0 = 0 ∧ opR _ 0 = R ∧ Fin _ 0 R from ⟨h0, hR, hfi⟩)
                    clear hi hdk HFI h0 hR hfi
                    go_wp2_with fail
                    refine HN.out.mono ?_
                    clear HN
                    rintro e w8 ⟨rfl, hk8, ho⟩
                    have HO8 : Hid (Ov w.heap.size w w8) := HO7.out.trans ho
                    have hz8 := HO8.out.size
                    have HN := Lib.hid (hk8.start hz8)
                    clear hk8 ho HO7 hz7
                    go_wp2_with fail
                    refine HN.out.mono ?_
                    clear HN
                    rintro e w9 ⟨rfl, hk9, ho⟩
                    have HO9 : Hid (Ov w.heap.size w w9) := HO8.out.trans ho
                    have hz9 := HO9.out.size
                    have HE9 := Lib.hid (env_ov HE0.out HO9.out h6)
                    have HN := Lib.hid (open_any hk9 hz9 h6 HE9.out (f := 0) (by omega))
                    clear hk9 ho HO8 hz8
                    go_wp2_with fail
                    refine HN.out.mono ?_
                    clear HN
                    rintro e w10 hp
                    obtain ⟨kb', v', rfl, hj, ho⟩ := hp.ok HR.out.1 HR.out.2.1
                    have HO10 : Hid (Ov w.heap.size w w10) := HO9.out.trans ho
                    have HF10 : Hid (StF w.heap.size r R (.slice xa R.length xc) (.pointer (some ⟨kb', 0, none⟩)) w10) := ⟨_, kb', _, _, rfl, hj, HR.out.2.2⟩
                    clear hp hj ho HO9 hz9 HE9 HR
                    go_wp2_with fail
                    go_roundw
                    case rel => exact ⟨1, by omega, rfl, HO10, HF10⟩
                    case measure => simp [RowKit.intOf]
                  · have hi := HI2.out.kept (fun b _ hlt => HO7.out.block b hlt (by omega))
                    have HN := Lib.hid (hdk.crash hz7 (.slice a4 o2.length cap4) o2 hi (fun b hb => HI2.out.off_lt hb) ⟨by omega, HK2.out.2⟩)
                    obtain ⟨h0, hR, hfi⟩ := HFI.out.step (show isF 0 = true by decide) o2
                    have HR := Lib.hid (show opC _ 0 = 0 ∧ opR _ 0 = R ∧ Fin _ 0 R from ⟨h0, hR, hfi⟩)
                    clear hi hdk HFI h0 hR hfi
                    go_wp2_with fail
                    refine HN.out.mono ?_
                    clear HN
                    rintro e w8 ⟨rfl, hk8, ho⟩
                    have HO8 : Hid (Ov w.heap.size w w8) := HO7.out.trans ho
                    have hz8 := HO8.out.size
                    have HN := Lib.hid (hk8.start hz8)
                    clear hk8 ho HO7 hz7
                    go_wp2_with fail
                    refine HN.out.mono ?_
                    clear HN
                    rintro e w9 ⟨rfl, hk9, ho⟩
                    have HO9 : Hid (Ov w.heap.size w w9) := HO8.out.trans ho
                    have hz9 := HO9.out.size
                    have HE9 := Lib.hid (env_ov HE0.out HO9.out h6)
                    have HN := Lib.hid (open_any hk9 hz9 h6 HE9.out (f := 0) (by omega))
                    clear hk9 ho HO8 hz8
                    go_wp2_with fail
                    refine HN.out.mono ?_
                    clear HN
                    rintro e w10 hp
                    obtain ⟨kb', v', rfl, hj, ho⟩ := hp.ok HR.out.1 HR.out.2.1
                    have HO10 : Hid (Ov w.heap.size w w10) := HO9.out.trans ho
                    have HF10 : Hid (StF w.heap.size r R (.slice xa R.length xc) (.pointer (some ⟨kb', 0, none⟩)) w10) := ⟨_, kb', _, _, rfl, hj, HR.out.2.2⟩
                    clear hp hj ho HO9 hz9 HE9 HR
                    go_wp2_with fail
                    go_roundw
                    case rel => exact ⟨2, by omega, rfl, HO10, HF10⟩
                    case measure => simp [RowKit.intOf]
                · obtain rfl : q = 2 := by omega
                  go_wp2_with fail
                  refine HN.out.mono ?_
                  clear HN
                  rintro e w6 hl
                  obtain ⟨ya, yc, rfl, hy, _, _, hb6⟩ := hl.open
                  have hj := HJJ.out.same (same_below hb6)
                  have HO6 : Hid (Ov w.heap.size w w6) := HO.out.trans (ovBelow hb6)
                  obtain ⟨xa', xc', hx', hxs⟩ := own_strs' hj.keeps.self
                  cases hx'
                  have HN := Lib.hid (same_any ya xa yc xc R R (by omega) (by omega) w6 hy hxs)
                  rw [decide_eq_true (rfl : R = R)] at HN
                  clear hl hy hb6 hj hxs HJJ HO hz
                  go_wp2_with fail
                  refine HN.out.mono ?_
                  clear HN
                  rintro e w7 ⟨rfl, hb7⟩
                  have HO7 : Hid (Ov w.heap.size w w7) := HO6.out.trans (ovBelow hb7)
                  clear HO6 hb7
                  go_wp2_with fail
                  go_ret
                  exact ⟨rfl, HO7.out.below (Nat.le_refl _)⟩
            · obtain ⟨c, hcc⟩ : ∃ c, syC st 0 bad = c := ⟨_, rfl⟩
              rw [hcc] at hc
              have hc' : (c != 0) = true := by simpa using hc
              clear hj hsj HW hxb hown hlen hrc HE hc
              go_wp2_with fail
              refine HN.out.mono ?_
              clear HN
              rintro e w4 ⟨rfl, hj, ho⟩
              rw [hcc]
              have HO4 : Hid (Ov w.heap.size w w4) := HO.out.trans ho
              have HN := Lib.hid (all_any hj (by omega))
              have HJJ := Lib.hid hj
              clear hj ho HO hz hcc
              go_wp2_with fail
              refine HN.out.mono ?_
              clear HN
              rintro e w6 hl
              obtain ⟨ya, yc, rfl, hy, _, _, hb6⟩ := hl.open
              have hj := HJJ.out.same (same_below hb6)
              have HO6 : Hid (Ov w.heap.size w w6) := HO4.out.trans (ovBelow hb6)
              obtain ⟨xa', xc', hx', hxs⟩ := own_strs' hj.keeps.self
              cases hx'
              have HN := Lib.hid (same_any ya xa yc xc R R (by omega) (by omega) w6 hy hxs)
              rw [decide_eq_true (rfl : R = R)] at HN
              clear hl hy hb6 hj hxs HJJ HO4
              go_wp2_with fail
              refine HN.out.mono ?_
              clear HN
              rintro e w7 ⟨rfl, hb7⟩
              have HO7 : Hid (Ov w.heap.size w w7) := HO6.out.trans (ovBelow hb7)
              clear HO6 hb7
              go_wp2_with fail
              go_ret
              exact ⟨rfl, HO7.out.below (Nat.le_refl _)⟩

theorem stays_any (a a2 a3 a4 : Option Addr) (cap cap2 cap3 cap4 : Nat) (vs : List Opn) (s : List ByteArray) (o1 o2 : List Int) (w : World) (he : Wi.Env w)
    (hv : OCells w a vs) (hs : StrCells w a2 s) (hvl : vs.length ≤ 9223372036854775807) (hsl : s.length ≤ 9223372036854775807) (hsz : ∀ x ∈ s, x.size ≤ 9223372036854775807)
    (hi1 : Ints w (.slice a3 o1.length cap3) o1) (hi2 : Ints w (.slice a4 o2.length cap4) o2)
    (hk1 : ∀ x ∈ o1, -9223372036854775808 ≤ x ∧ x ≤ 9223372036854775807) (hk2 : ∀ x ∈ o2, -9223372036854775808 ≤ x ∧ x ≤ 9223372036854775807) :
    Calls Tryd.prog 4 #[.slice a vs.length cap, .slice a2 s.length cap2, .slice a3 o1.length cap3, .slice a4 o2.length cap4] w (Gives (.bool true) w) := by
  cases h1 : few vs
  · exact stays_out a a2 a3 a4 cap cap2 cap3 cap4 vs s o1 o2 w he hv hs hvl hsl hsz (.inl h1)
  · cases h2 : textsB s
    · exact stays_out a a2 a3 a4 cap cap2 cap3 cap4 vs s o1 o2 w he hv hs hvl hsl hsz (.inr (.inl ⟨h1, h2⟩))
    · by_cases h3 : o1.length ≤ 50
      · by_cases h4 : o2.length ≤ 50
        · exact stays_in a a2 a3 a4 cap cap2 cap3 cap4 vs s o1 o2 w he hv hs h1 h2 hi1 hi2 ⟨h3, hk1⟩ ⟨h4, hk2⟩
        · exact stays_out a a2 a3 a4 cap cap2 cap3 cap4 vs s o1 o2 w he hv hs hvl hsl hsz (.inr (.inr (.inr ⟨h1, h2, h3, by omega⟩)))
      · exact stays_out a a2 a3 a4 cap cap2 cap3 cap4 vs s o1 o2 w he hv hs hvl hsl hsz (.inr (.inr (.inl ⟨h1, h2, by omega⟩)))
end Go.Proofs.YtejddacjncpneaaDoor.Jo
