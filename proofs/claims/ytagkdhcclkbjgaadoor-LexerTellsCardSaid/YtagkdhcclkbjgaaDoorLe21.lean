/- How a slice of tokens is read as an argument; the contract of LexerTells. -/
import Derived.Deep.Slices
import Derived.ChangeSame
import Derived.Test.YtagkdhcclkbjgaaDoorLe20
set_option maxRecDepth 100000
namespace Go.Proofs.YtagkdhcclkbjgaaDoor.Le
open Go.RowKit Go.ChangeShapes Go.WideShapes

theorem cellsOfTok : Tryd.prog.cellsOf 25 = 4 := by kernel_rfl
theorem cellsOf3 : Tryd.prog.cellsOf 3 = 1 := by kernel_rfl
theorem cellsOf9 : Tryd.prog.cellsOf 9 = 1 := by kernel_rfl
section
variable {H : Type} {enc : TypeId × Value → H} {w : World} {base : Nat} {held : Bool}
theorem read_T {fuel : Nat} {cs : List Value} {x : DataW H × List MemPlace} (h : DataW.trod enc Tryd.prog w base (fun _ => true) held fuel 25 cs = some x) :
    ∃ v : Tk, cs = v.cells ∧ v.text.size ≤ 9223372036854775807 := by
  obtain ⟨ys, n, _, _, hlen, hyl, hf⟩ := DataW.trod_struct Tryd.underlying25 h
  rw [cellsOfTok] at hlen
  match cs, hlen with
  | [c0, c1, c2, c3], _ =>
    match ys, hyl with
    | [y0, y1, y2, y3], _ =>
      have h0 : DataW.trod enc Tryd.prog w base (fun _ => true) held n 3 [c0] = some y0 := by simpa [cellsOf3] using hf 0 _ rfl
      have h1 : DataW.trod enc Tryd.prog w base (fun _ => true) held n 9 [c1] = some y1 := by simpa [cellsOf9] using hf 1 _ rfl
      have h2 : DataW.trod enc Tryd.prog w base (fun _ => true) held n 3 [c2] = some y2 := by simpa [cellsOf3] using hf 2 _ rfl
      have h3 : DataW.trod enc Tryd.prog w base (fun _ => true) held n 3 [c3] = some y3 := by simpa [cellsOf3] using hf 3 _ rfl
      obtain ⟨a, e0, _, _⟩ := DataW.trod_int Tryd.underlying3 h0
      obtain ⟨s, e1, _, w1⟩ := DataW.trod_string Tryd.underlying9 h1
      obtain ⟨b, e2, _, _⟩ := DataW.trod_int Tryd.underlying3 h2
      obtain ⟨c, e3, _, _⟩ := DataW.trod_int Tryd.underlying3 h3
      simp at e0 e1 e2 e3
      subst e0 e1 e2 e3
      rw [maxLen_eq] at w1
      exact ⟨⟨a, s, b, c⟩, rfl, w1⟩
theorem read_toks {fuel : Nat} {cs : List Value} {x : DataW H × List MemPlace} (h : DataW.trod enc Tryd.prog w base (fun _ => true) held fuel 22 cs = some x) :
    ∃ (a : Option Addr) (vs : List Tk) (cap : Nat), cs = [.slice a vs.length cap] ∧ vs.length ≤ 9223372036854775807 ∧ TCells w a vs := by
  rcases Go.Deep.open_slice Tryd.underlying22 h with ⟨rfl, _⟩ | ⟨a, len, cap, m, n, D, Pl, rfl, _, hl, hm, hmm, _, hi⟩
  · exact ⟨none, [], 0, rfl, by simp, .inl rfl⟩
  · rw [if_pos rfl] at hmm
    rw [maxLen_eq] at hm
    rw [cellsOfTok] at hi
    have hi' : ∀ i, i < len → ∃ v : Tk, (∀ j u, v.cells[j]? = some u → w.cell? ((a.add (i * 4)).add j) = some u) := by
      intro i hil
      obtain ⟨cs', hc, ht⟩ := hi i (by omega)
      obtain ⟨v, hcs, _⟩ := read_T ht
      refine ⟨v, fun j u hj => ?_⟩
      obtain ⟨_, hcl, hat⟩ := World.cells?_some hc
      have hj5 : j < 4 := by
        have := (List.getElem?_eq_some_iff.1 hj).1
        simpa [Tk.cells] using this
      rw [hat j hj5, hcs]
      exact hj
    refine ⟨some a, List.ofFn (fun i : Fin len => Classical.choose (hi' i i.2)), cap, by simp, by simp; omega, ?_⟩
    by_cases h0 : len = 0
    · left; subst h0; simp
    · right
      have hspot : a.spot = none := by
        have h5 := (Classical.choose_spec (hi' 0 (by omega))) 0 _ rfl
        simp only [Nat.zero_mul] at h5
        simpa [Addr.add] using World.cell?_spot h5
      obtain ⟨b, off, sp⟩ := a
      simp at hspot; subst hspot
      refine ⟨b, off, rfl, fun i hi2 j u hj => ?_⟩
      have hil : i < len := by simpa using hi2
      have hsp := Classical.choose_spec (hi' i hil)
      simp only [List.getElem_ofFn] at hj
      have h6 := hsp j u hj
      rw [add_plain, add_plain] at h6
      exact h6
end

/-- What Scan returns besides memory: the tokens, the offset, the error. -/
def scT (l : List UInt8) : List Tok := match sc false 0 l with | .ok L => L | .bad _ _ => []
def scP (l : List UInt8) : Int := match sc false 0 l with | .ok _ => 0 | .bad p _ => p
def scX (l : List UInt8) : Int := match sc false 0 l with | .ok _ => 0 | .bad _ x => x
theorem scanEnd_tot {l : List UInt8} {w w' : World} {e : Ending} (h : ScanEnd l w e w') : ∃ a cap, e = .returned (.tuple #[.slice a (scT l).length cap, .int .i64 (scP l), .int .i64 (scX l)]) ∧ TCells w' a ((scT l).map Tok.tk) ∧ RowKit.Below w.heap.size w w' := by
  obtain ⟨hb, hm⟩ := h
  unfold scT scP scX
  rcases hs : sc false 0 l with L | ⟨p, x⟩
  · rw [hs] at hm
    obtain ⟨a, cap, h1, h2⟩ := hm
    exact ⟨a, cap, h1, h2, hb⟩
  · rw [hs] at hm
    exact ⟨none, 0, hm, .inl rfl, hb⟩
theorem numV_shape (l : List UInt8) : ∃ (u : Int) (b : Bool), numV l = .tuple #[.int .i64 u, .bool b] := by
  unfold numV
  split
  · exact ⟨_, _, rfl⟩
  · exact ⟨_, _, rfl⟩
theorem quoV_shape (l : List UInt8) : ∃ (q : ByteArray) (b : Bool), quoV l = .tuple #[.string q, .bool b] := by
  unfold quoV
  split
  · exact ⟨_, _, rfl⟩
  · exact ⟨_, _, rfl⟩

set_option maxHeartbeats 8000000 in
theorem LexerTells_any (s : ByteArray) (hs : s.size ≤ 9223372036854775807) (ad : Option Addr) (cap : Nat) (L : List Tk) (hLm : L.length ≤ 9223372036854775807) (w : World) (hT : TCells w ad L) (he : Env w) : Calls Tryd.prog 3 #[.string s, .slice ad L.length cap] w (Gives (.bool true) w) := by
  have HE := Lib.hid he
  have HT := Lib.hid hT
  obtain ⟨N, hN⟩ : ∃ N, L.length = N := ⟨_, rfl⟩
  have HN := Lib.hid hN
  rw [hN] at hLm ⊢
  clear he hT hN
  by_cases h100 : N ≤ 100
  · have h1' : decide (100 < (N : Int)) = false := by simp; omega
    have HC := Lib.hid (cut_any s hs)
    have hcs := cutB_size s
    obtain ⟨t, ht⟩ : ∃ t, cutB s = t := ⟨_, rfl⟩
    rw [ht] at HC hcs
    have HS1 := Lib.hid (fun W hW => (scan_any t (by omega) W hW).mono fun _ _ h => scanEnd_tot h)
    have HS2 := Lib.hid (fun W => (rscan_in t (by omega) W).mono fun _ _ h => scanEnd_tot h)
    obtain ⟨nu, nb, hnv⟩ := numV_shape t.data.toList
    obtain ⟨qs, qb, hqv⟩ := quoV_shape t.data.toList
    have hn1 := fun W hW => number_any t (by omega) W hW
    unfold NumEnd at hn1
    have hn2 := rnumber_any t (by omega)
    have hq1 := quote_any t (by omega)
    have hq2 := rquote_any t (by omega)
    rw [hnv] at hn1 hn2
    rw [hqv] at hq1 hq2
    have HN1 := Lib.hid hn1
    have HN2 := Lib.hid hn2
    have HQ1 := Lib.hid hq1
    have HQ2 := Lib.hid hq2
    have HM1 := Lib.hid (name_any t (by omega))
    have HM2 := Lib.hid (rname_any t (by omega))
    have hM : (scT t.data.toList).length ≤ 4000 := by
      unfold scT
      rcases hs : sc false 0 t.data.toList with M | _
      · have := (few_of (by rw [sizeB]; exact hcs) hs).2.2.1; simp only; omega
      · simp
    have HM : Hid (∀ (a b : Option Addr) (ca cb : Nat) (W : World), TCells W a ((scT t.data.toList).map Tok.tk) → TCells W b ((scT t.data.toList).map Tok.tk) → Calls Tryd.prog 17 #[.slice a (scT t.data.toList).length ca, .slice b (scT t.data.toList).length cb] W (Drew (.bool true) W)) := Lib.hid (by
      intro a b ca cb W hA hB
      have := same_any a b ca cb ((scT t.data.toList).map Tok.tk) (by rw [List.length_map]; exact hM) W hA hB
      rwa [List.length_map] at this)
    obtain ⟨nm, hnm⟩ : ∃ nm, nameOk t.data.toList = nm := ⟨_, rfl⟩
    obtain ⟨K, hK⟩ : ∃ K, (scT t.data.toList).length = K := ⟨_, rfl⟩
    obtain ⟨P, hP⟩ : ∃ P, scP t.data.toList = P := ⟨_, rfl⟩
    obtain ⟨X, hX⟩ : ∃ X, scX t.data.toList = X := ⟨_, rfl⟩
    rw [hK] at HM HS1 HS2
    rw [hP, hX] at HS1 HS2
    rw [hnm] at HM1 HM2
    clear ht hnv hqv hn1 hn2 hq1 hq2 hM hnm hK hP hX
    go_enter Tryd.func3, Tryd.ntmps3
    go_wp2_with fail
    refine (sane_any _ HE.out).mono ?_
    rintro e w1 ⟨rfl, hb⟩
    have HB1 := Lib.hid hb
    have HT1 := Lib.hid (HT.out.later hb)
    clear hb HT
    go_wp2_with fail
    go_loop [6] (fun i => ∃ k : Nat, k ≤ N ∧ i = .int .i64 k ∧ ∀ x ∈ L.take k, x.text.size ≤ 100) (fun i => N - (intOf i).toNat)
    case atStart => exact ⟨0, by omega, rfl, by simp⟩
    case round =>
      obtain ⟨k, hk, rfl, hall⟩ := hrel
      have HA := Lib.hid hall
      clear hall
      by_cases hlt : k < N
      · have hkL : k < L.length := by rw [HN.out]; exact hlt
        obtain ⟨b, off, rfl, c0, c1, c2, c3⟩ := HT1.out.at k hkL
        have HSN := Lib.hid (take_snocT L k hkL)
        obtain ⟨x, hx⟩ : ∃ x, L[k]'hkL = x := ⟨_, rfl⟩
        rw [hx] at c0 c1 c2 c3 HSN
        clear hx hkL
        obtain ⟨xk, xt, xn, xp⟩ := x
        simp only at c0 c1 c2 c3
        by_cases hz : xt.size ≤ 100
        · have hz' : decide (100 < (xt.size : Int)) = false := by simp; omega
          go_wp2_with fail
          go_round
          case rel =>
            refine ⟨k + 1, by omega, by go_num, fun x hx => ?_⟩
            rw [HSN.out, List.mem_append] at hx
            rcases hx with hx | hx
            · exact HA.out x hx
            · rw [List.mem_singleton] at hx; rw [hx]; exact hz
          case measure => simp [intOf]; omega
        · have hz' : decide (100 < (xt.size : Int)) = true := by simp; omega
          go_wp2_with fail
          go_ret
          exact ⟨rfl, HB1.out⟩
      · have hF : FewT L := by
          refine ⟨by rw [HN.out]; omega, fun x hx => ?_⟩
          have := HA.out x (by rw [List.take_of_length_le (by rw [HN.out]; omega)]; exact hx)
          omega
        have HP1 : Hid (∀ (W : World), TCells W ad L → Calls Tryd.prog 20 #[.slice ad N cap] W (Gives (.string ⟨(printK L).toArray⟩) W)) := Lib.hid (by
          intro W hT
          have := print_any ad cap L hF W hT
          rwa [HN.out] at this)
        have HP2 : Hid (∀ (W : World), TCells W ad L → Calls Tryd.prog 21 #[.slice ad N cap] W fun e w' => e = .returned (.string ⟨(printK L).toArray⟩) ∧ w' = W) := Lib.hid (by
          intro W hT
          have := rprint_any ad cap L hF W hT
          rwa [HN.out] at this)
        obtain ⟨PK, hPK⟩ : ∃ PK : ByteArray, (⟨(printK L).toArray⟩ : ByteArray) = PK := ⟨_, rfl⟩
        rw [hPK] at HP1 HP2
        clear hF HA hPK
        go_wp2_with fail
        with_reducible refine (HC.out _).mono ?_
        rintro e w1 ⟨rfl, rfl⟩
        go_wp2_with fail
        refine (HS1.out _ (HE.out.below HB1.out)).mono ?_
        rintro e w2 ⟨a2, c2, rfl, hu, hb⟩
        have HU2 := Lib.hid hu
        have HB2 := Lib.hid (HB1.out.trans (hb.mono HB1.out.size))
        have HT2 := Lib.hid (HT1.out.later hb)
        clear hb hu
        go_wp2_with fail
        refine (HS2.out _).mono ?_
        rintro e w3 ⟨a3, c3, rfl, hu, hb⟩
        have HV3 := Lib.hid hu
        have HU3 := Lib.hid (HU2.out.later hb)
        have HB3 := Lib.hid (HB2.out.trans (hb.mono HB2.out.size))
        have HT3 := Lib.hid (HT2.out.later hb)
        clear hb hu
        go_wp2_with fail
        refine (HN1.out _ (HE.out.below HB3.out)).mono ?_
        rintro e w4 ⟨rfl, hb⟩
        have HV4 := Lib.hid (HV3.out.later hb)
        have HU4 := Lib.hid (HU3.out.later hb)
        have HB4 := Lib.hid (HB3.out.trans (hb.mono HB3.out.size))
        have HT4 := Lib.hid (HT3.out.later hb)
        clear hb
        go_wp2_with fail
        refine (HN2.out _).mono ?_
        rintro e w4 ⟨rfl, rfl⟩
        go_wp2_with fail
        refine (HQ1.out _).mono ?_
        rintro e w5 ⟨rfl, hb⟩
        have HV5 := Lib.hid (HV4.out.later hb)
        have HU5 := Lib.hid (HU4.out.later hb)
        have HB5 := Lib.hid (HB4.out.trans (hb.mono HB4.out.size))
        have HT5 := Lib.hid (HT4.out.later hb)
        clear hb
        go_wp2_with fail
        refine (HQ2.out _).mono ?_
        rintro e w5 ⟨rfl, rfl⟩
        go_wp2_with fail
        refine (HM.out _ _ _ _ _ HU5.out HV5.out).mono ?_
        rintro e w6 ⟨rfl, n6, rfl⟩
        have HB6 := Lib.hid (below_drewN HB5.out n6)
        have HT6 := Lib.hid (HT5.out.drewN n6)
        go_wp2_with fail
        refine (HM1.out _).mono ?_
        rintro e w6 ⟨rfl, rfl⟩
        go_wp2_with fail
        refine (HM2.out _).mono ?_
        rintro e w6 ⟨rfl, rfl⟩
        go_wp2_with fail
        refine (HP1.out _ HT6.out).mono ?_
        rintro e w7 ⟨rfl, hb⟩
        have HB7 := Lib.hid (HB6.out.trans (hb.mono HB6.out.size))
        have HT7 := Lib.hid (HT6.out.later hb)
        clear hb
        go_wp2_with fail
        refine (HP2.out _ HT7.out).mono ?_
        rintro e w7 ⟨rfl, rfl⟩
        go_wp2_with fail
        go_ret
        exact ⟨rfl, HB7.out⟩
  · have h1' : decide (100 < (N : Int)) = true := by simp; omega
    go_enter Tryd.func3, Tryd.ntmps3
    go_wp2_with fail
    refine (sane_any _ HE.out).mono ?_
    rintro e w1 ⟨rfl, hb⟩
    go_wp2_with fail
    go_ret
    exact ⟨rfl, hb⟩
end Go.Proofs.YtagkdhcclkbjgaaDoor.Le
