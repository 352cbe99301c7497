/- Slices of tokens; the contracts of both functions Scan. -/
import Derived.Deep.LoopGhost
import Derived.Test.YtagkdhcclkbjgaaDoorLe14
set_option maxRecDepth 100000
namespace Go.Proofs.YtagkdhcclkbjgaaDoor.Le
open Go.RowKit

theorem sc_skip (c : Bool) (q : Nat) (s : List UInt8) : sc c q s = sc false (q + skip c s) (s.drop (skip c s)) := by
  have e := skip_drop s c
  have hd : (s.drop (skip c s)).drop (skip false (s.drop (skip c s))) = s.drop (skip c s) := by rw [e]; rfl
  rcases h1 : s.drop (skip c s) with _ | ⟨d, r⟩
  · rw [sc_done h1, sc_nil]
  · rw [h1] at hd e
    rcases ht : tokL (d :: r) with e' | ⟨k, t, n, z⟩
    · rw [sc_bad h1 ht, sc_bad hd ht, e]; rfl
    · rw [sc_tok h1 ht, sc_tok hd ht, e]; rfl

/-- A token as memory holds it. -/
structure Tk where
  kind : Int
  text : ByteArray
  n : Int
  pos : Int
def Tok.tk (x : Tok) : Tk := ⟨x.kind, ⟨x.text.toArray⟩, x.n, x.pos⟩
def Tk.cells (x : Tk) : List Value := [.int .i64 x.kind, .string x.text, .int .i64 x.n, .int .i64 x.pos]
def tcells (L : List Tk) : List Value := L.flatMap Tk.cells
theorem tcells_len : ∀ L : List Tk, (tcells L).length = L.length * 4
  | [] => rfl
  | x :: L => by
    have := tcells_len L
    simp only [tcells, List.flatMap_cons, List.length_append, Tk.cells, List.length_cons, List.length_nil] at *; omega
theorem tcells_app (L M : List Tk) : tcells (L ++ M) = tcells L ++ tcells M := by simp [tcells]
theorem tcells_get : ∀ (L : List Tk) (i j : Nat) (h : i < L.length) (u : Value), L[i].cells[j]? = some u → (tcells L)[i * 4 + j]? = some u
  | x :: L, 0, j, h, u, hu => by
    have hj : j < 4 := (List.getElem?_eq_some_iff.1 hu).1
    simp only [tcells, List.flatMap_cons, Nat.zero_mul, Nat.zero_add]
    rw [List.getElem?_append_left hj]; exact hu
  | x :: L, i + 1, j, h, u, hu => by
    have := tcells_get L i j (by simpa using h) u (by simpa using hu)
    simp only [tcells, List.flatMap_cons] at *
    rw [List.getElem?_append_right (by simp [Tk.cells]; omega)]
    have e : (i + 1) * 4 + j - x.cells.length = i * 4 + j := by simp [Tk.cells]; omega
    rw [e]; exact this
/-- The cells of a slice of tokens. -/
def TCells (w : World) (a : Option Addr) (L : List Tk) : Prop :=
  L = [] ∨ ∃ b off, a = some ⟨b, off, none⟩ ∧ ∀ i (h : i < L.length) j u, L[i].cells[j]? = some u → w.cell? ⟨b, off + i * 4 + j, none⟩ = some u
theorem TCells.later {w w' : World} {a : Option Addr} {L : List Tk} (h : TCells w a L) (hb : RowKit.Below w.heap.size w w') : TCells w' a L := by
  rcases h with h | ⟨b, off, h1, h2⟩
  · exact .inl h
  · refine .inr ⟨b, off, h1, fun i hi j u hu => ?_⟩
    have := h2 i hi j u hu
    rw [hb.cell (p := ⟨b, off + i * 4 + j, none⟩) (lt_of_cell this)]; exact this
theorem TCells.drewN {w : World} {a : Option Addr} {L : List Tk} (h : TCells w a L) (n : Nat) : TCells (w.drewN n) a L := by
  rcases h with h | ⟨b, off, h1, h2⟩
  · exact .inl h
  · exact .inr ⟨b, off, h1, fun i hi j u hu => by simpa using h2 i hi j u hu⟩
def OwnT (w : World) (base : Nat) (v : Value) (L : List Tk) : Prop := w.ownsRow base 25 4 v L.length (tcells L)
theorem OwnT.cells {w : World} {base : Nat} {v : Value} {L : List Tk} (h : OwnT w base v L) : ∃ a cap, v = .slice a L.length cap ∧ TCells w a L := by
  rcases h.2 with ⟨rfl, h0⟩ | ⟨g, cap, cur, rfl, hb, hg, hnc, hcm, hcs, htake⟩
  · exact ⟨none, 0, by rw [h0], .inl (List.length_eq_zero_iff.1 h0)⟩
  · refine ⟨_, _, rfl, .inr ⟨g, 0, rfl, fun i hi j u hu => ?_⟩⟩
    have h1 := tcells_get L i j hi u hu
    have hlt := (List.getElem?_eq_some_iff.1 h1).1
    rw [← htake] at h1
    rw [List.getElem?_take] at h1
    split at h1
    · simp only [World.cell?, hg]
      simpa [Nat.zero_add] using h1
    · cases h1
theorem infoTok : (Tryd.prog.info? 25).map (fun i => (i.zero, i.size, i.bytes)) = some (some (.agg #[.int .i64 0, .string ⟨#[]⟩, .int .i64 0, .int .i64 0]), 4, 40) := by kernel_rfl
theorem info_parts {e : TypeId} {z : Value} {size bytes : Nat} (h : (Tryd.prog.info? e).map (fun i => (i.zero, i.size, i.bytes)) = some (some z, size, bytes)) : ∃ i, Tryd.prog.info? e = some i ∧ i.zero = some z ∧ i.size = size ∧ i.bytes = bytes := by
  obtain ⟨i, hi, he⟩ := Option.map_eq_some_iff.1 h
  simp only [Prod.mk.injEq] at he
  exact ⟨i, hi, he.1, he.2.1, he.2.2⟩

/-- How Scan ends. -/
def ScanEnd (l : List UInt8) (w : World) (e : Ending) (w' : World) : Prop :=
  RowKit.Below w.heap.size w w' ∧
    match sc false 0 l with
    | .ok L => ∃ a cap, e = .returned (.tuple #[.slice a L.length cap, .int .i64 0, .int .i64 0]) ∧ TCells w' a (L.map Tok.tk)
    | .bad p x => e = .returned (.tuple #[.slice none 0 0, .int .i64 (p : Int), .int .i64 x])
theorem ext_end (s : ByteArray) (p : Nat) : (s.extract p s.size).data.toList = s.data.toList.drop p := by
  rw [extL, List.take_of_length_le (by rw [List.length_drop, sizeB]; omega)]
theorem ext_endS (s : ByteArray) (p : Nat) (h : p ≤ s.size) : (s.extract p s.size).size = s.size - p := extLS s p s.size h (Nat.le_refl _)

theorem slice_low (s : ByteArray) (p : Nat) (h : p ≤ s.size) (W : World) : (Instr.slice 9 (.string s) (some (.int .i64 (p : Int))) none none).run Tryd.prog W = .ok (.string (s.extract p s.size)) W := by
  rw [run_slice_string_l (w := W) (t := 9) (s := s) Tryd.underlying9 .i64 (p : Int) (by omega) (by omega)]
  congr 2

set_option maxHeartbeats 4000000 in
theorem scan_le (s : ByteArray) (hs : s.size ≤ 4000) (w : World) (he : Env w) : Calls Tryd.prog 11 #[.string s] w (ScanEnd s.data.toList w) := by
  have HE := Lib.hid he
  have HG := Lib.hid (gap_any s (by omega))
  have hgl := skip_le s.data.toList false
  rw [sizeB] at hgl
  have HS := Lib.hid (sc_skip false 0 s.data.toList)
  have HK := Lib.hid (skip_drop s.data.toList false)
  obtain ⟨g, hg⟩ : ∃ g, skip false s.data.toList = g := ⟨_, rfl⟩
  rw [hg] at HG HS HK hgl
  rw [Nat.zero_add] at HS
  have hs2 : decide (4000 < (s.size : Int)) = false := by simp; omega
  clear he hg
  go_enter Tryd.func11, Tryd.ntmps11
  go_wp2_with fail
  refine (HG.out _).mono ?_
  rintro e w ⟨rfl, rfl⟩
  go_wp2_with fail
  go_loopw [5, 6] (fun l i wr => ∃ (p : Nat) (L : List Tok), p ≤ s.size ∧ i = .int .i64 p ∧ OwnT wr w.heap.size l (L.map Tok.tk) ∧ L.length ≤ p ∧ sc false 0 s.data.toList = R.pre L (sc false p (s.data.toList.drop p)) ∧ skip false (s.data.toList.drop p) = 0 ∧ RowKit.Below w.heap.size w wr) (fun _ i _ => s.size - (intOf i).toNat)
  case atStart => exact ⟨g, [], hgl, rfl, World.ownsRow_nil _ _ _ _, by simp, by rw [R.pre_nil]; exact HS.out, HK.out, Below.refl _ _⟩
  case round =>
    clear HS HK hgl HG
    obtain ⟨p, L, hp, rfl, hown, hLp, hsc, hsk, hb⟩ := hrel
    obtain ⟨a0, c0, rfl, _⟩ := hown.cells
    have HOWN := Lib.hid hown
    have HSC := Lib.hid hsc
    have HSK := Lib.hid hsk
    have HB := Lib.hid hb
    clear hown hsc hsk hb
    by_cases hlt : p < s.size
    · have hrun : ∀ W : World, (Instr.slice 9 (.string s) (some (.int .i64 (p : Int))) none none).run Tryd.prog W = .ok (.string (s.extract p s.size)) W := fun W => slice_low s p hp W
      have hrd := readToken_any (s.extract p s.size) (by rw [ext_endS s p hp]; omega) (by rw [ext_endS s p hp]; omega)
      rw [ext_end] at hrd
      obtain ⟨E, hE⟩ : ∃ E, s.extract p s.size = E := ⟨_, rfl⟩
      rw [hE] at hrun hrd
      have hdr := dropB s p hlt
      have hd0 : (s.data.toList.drop p).drop (skip false (s.data.toList.drop p)) = s[p] :: s.data.toList.drop (p + 1) := by rw [HSK.out]; exact hdr
      rcases ht : tokL (s.data.toList.drop p) with x | ⟨k, t, n, z⟩
      · have hfin : sc false 0 s.data.toList = .bad p x := by
          rw [HSC.out, sc_bad hd0 (by rw [← hdr]; exact ht), HSK.out]; rfl
        have hx := tokL_bad (by rw [← hdr]; exact ht)
        rw [ht] at hrd
        simp only [tokV] at hrd
        have HRD := Lib.hid hrd
        have HFIN := Lib.hid hfin
        have hxne : (x != 0) = true := by simp; omega
        have hxne' : (x == 0) = false := by simp; omega
        clear hfin hx hrd ht hd0 hdr hE
        go_wp2_with fail
        refine (HRD.out _ (HE.out.below HB.out)).mono ?_
        rintro e w2 ⟨rfl, hb⟩
        have HB2 := Lib.hid (HB.out.trans (hb.mono HB.out.size))
        clear hb
        go_wp2_with fail
        go_ret3
        have HB3 := Lib.hid (HB2.out.alloc HB2.out.size (.cells #[.int .i64 0, .string ⟨#[]⟩, .int .i64 0, .int .i64 0] 25))
        unfold ScanEnd
        rw [HFIN.out]
        exact ⟨HB3.out, rfl⟩
      · rw [ht] at hrd
        simp only [tokV] at hrd
        have hok := tokL_ok (by rw [← hdr]; exact ht)
        have hz1 := hok.2.2.1
        have hz2 := hok.2.2.2.1
        clear hok
        rw [List.length_drop, sizeB] at hz2
        have hzs : p + z ≤ s.size := by omega
        have hst := sc_tok (c := false) (p := p) hd0 (by rw [← hdr]; exact ht)
        rw [HSK.out, Nat.add_zero, drop_rest hdr hz1] at hst
        have hsk2 := sc_skip false (p + z) (s.data.toList.drop (p + z))
        rw [List.drop_drop] at hsk2
        have hsk3 := skip_drop (s.data.toList.drop (p + z)) false
        rw [List.drop_drop] at hsk3
        have hgle := skip_le (s.data.toList.drop (p + z)) false
        rw [List.length_drop, sizeB] at hgle
        have hgap := gap_any (s.extract (p + z) s.size) (by rw [ext_endS s _ hzs]; omega)
        rw [ext_end] at hgap
        obtain ⟨g2, hg2⟩ : ∃ g2, skip false (s.data.toList.drop (p + z)) = g2 := ⟨_, rfl⟩
        rw [hg2] at hsk2 hsk3 hgle hgap
        have HREL : Hid (sc false 0 s.data.toList = R.pre (L ++ [⟨k, t, n, p⟩]) (sc false (p + z + g2) (s.data.toList.drop (p + z + g2)))) := Lib.hid (by
          rw [HSC.out, hst, hsk2, R.pre_pre])
        have HSK3 := Lib.hid hsk3
        have hrun2 : ∀ W : World, (Instr.slice 9 (.string s) (some (.int .i64 ((p : Int) + (z : Int)))) none none).run Tryd.prog W = .ok (.string (s.extract (p + z) s.size)) W := fun W => slice_low s (p + z) hzs W
        obtain ⟨E2, hE2⟩ : ∃ E2, s.extract (p + z) s.size = E2 := ⟨_, rfl⟩
        rw [hE2] at hrun2 hgap
        obtain ⟨q, hq⟩ : ∃ q : Nat, p + z = q := ⟨_, rfl⟩
        have HGAP := Lib.hid hgap
        have HRD := Lib.hid hrd
        have HBd := Lib.hid hgle
        have HZ1 := Lib.hid hz1
        clear hrd hd0 hdr hE hE2 hst hsk2 hsk3 hgap hg2 ht hz1 hz2 hq
        go_wp2_with fail
        refine (HRD.out _ (HE.out.below HB.out)).mono ?_
        rintro e w2 ⟨rfl, hb⟩
        have HB2 := Lib.hid (HB.out.trans (hb.mono HB.out.size))
        have hown2 : w2.ownsRow w.heap.size 25 4 (.slice a0 L.length c0) L.length (tcells (L.map Tok.tk)) := by
          have := HOWN.out.kept (grownBy_none hb) (by cases hv : (Value.slice a0 (List.map Tok.tk L).length c0).ownBlock <;> simp)
          rwa [List.length_map] at this
        have hz2 : w.heap.size ≤ w2.heap.size := HB2.out.size
        obtain ⟨i0, hi0, hz0, hz1, hzb⟩ := info_parts infoTok
        clear hb
        go_wp2_with (at_builtin; refine wpList_append_own _ rfl _ _ 22 rfl w.heap.size 25 i0 (.agg #[.int .i64 0, .string ⟨#[]⟩, .int .i64 0, .int .i64 0]) 4 40 Tryd.underlying22 hi0 hz0 hz1 hzb rfl (by decide) _ _ _ rfl ((hown2.alloc _).alloc _) ⟨w2.heap.size + 1, 0, none⟩ 1 1 [.int .i64 k, .string ⟨t.toArray⟩, .int .i64 n, .int .i64 (p : Int)] rfl rfl ?c1 ?c2 ?c3 ?c4 ?c5 ?_)
        case c1 =>
          intro j u hj
          match j, hj with
          | 0, hj => simp at hj; subst hj; simp [Addr.add]
          | 1, hj => simp at hj; subst hj; simp [Addr.add]
          | 2, hj => simp at hj; subst hj; simp [Addr.add]
          | 3, hj => simp at hj; subst hj; simp [Addr.add]
        case c2 => intro u hu; simp at hu; rcases hu with rfl | rfl | rfl | rfl <;> rfl
        case c3 => unfold maxLen; omega
        case c4 => omega
        case c5 => simp; omega
        intro v' w3 hown3 hgrow _
        have HOWN3 : Hid (OwnT w3 w.heap.size v' ((L ++ [(⟨k, t, n, p⟩ : Tok)]).map Tok.tk)) := Lib.hid (by
          unfold OwnT
          rw [List.map_append, tcells_app, List.length_append, List.length_map]
          exact hown3)
        have hlt0 := hown2.lt
        have HB3 := Lib.hid (((HB2.out.alloc hz2 (.cells #[.int .i64 k, .string ⟨t.toArray⟩, .int .i64 n, .int .i64 (p : Int)] 25)).alloc (by simp; omega) (.cells #[.int .i64 k, .string ⟨t.toArray⟩, .int .i64 n, .int .i64 (p : Int)] 25)).grown hgrow (by simp; omega) (fun j hj => (hlt0 j hj).1))
        clear hown2 hown3 hgrow hlt0
        go_wp2_with fail
        with_reducible refine (HGAP.out _).mono ?_
        rintro e w4 ⟨rfl, rfl⟩
        go_wp2_with fail
        go_roundw
        case rel => exact ⟨p + z + g2, L ++ [⟨k, t, n, p⟩], by omega, by go_num, HOWN3.out, by have := HZ1.out; simp; omega, HREL.out, HSK3.out, HB3.out⟩
        case measure => have := HZ1.out; simp [intOf]; omega
    · have hfin : sc false 0 s.data.toList = .ok L := by
        rw [HSC.out, drop_end s p hlt, sc_nil]; simp [R.pre]
      have HFIN := Lib.hid hfin
      clear hfin
      go_wp2_with fail
      go_ret3
      unfold ScanEnd
      rw [HFIN.out]
      obtain ⟨a, c, hv, hc⟩ := HOWN.out.cells
      injection hv with e1 e2 e3
      refine ⟨HB.out, a0, c0, ?_, by rw [e1]; exact hc⟩
      show Ending.returned (.tuple #[.slice a0 (L.map Tok.tk).length c0, .int .i64 0, .int .i64 0]) = _
      rw [List.length_map]

theorem scan_any (s : ByteArray) (hs : s.size ≤ 4000) (w : World) (he : Env w) : Calls Tryd.prog 11 #[.string s] w (ScanEnd s.data.toList w) := scan_le s hs w he
theorem scan_full (s : ByteArray) (hs : 4000 < s.size) (w : World) : Calls Tryd.prog 11 #[.string s] w fun e w' => e = .returned (.tuple #[.slice none 0 0, .int .i64 0, .int .i64 6]) ∧ w' = w := by
  have hs2 : decide (4000 < (s.size : Int)) = true := by simp; omega
  go_enter Tryd.func11, Tryd.ntmps11
  go_wp2_with fail
  go_ret3
  exact ⟨rfl, rfl⟩
end Go.Proofs.YtagkdhcclkbjgaaDoor.Le
