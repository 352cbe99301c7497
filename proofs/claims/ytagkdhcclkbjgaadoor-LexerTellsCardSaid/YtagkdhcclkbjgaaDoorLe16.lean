/- The contract of the reference's Scan. -/
import Derived.Test.YtagkdhcclkbjgaaDoorLe15
set_option maxRecDepth 100000
namespace Go.Proofs.YtagkdhcclkbjgaaDoor.Le
open Go.RowKit

theorem sc_move {c c' : Bool} {p d : Nat} {s s' : List UInt8} (h : skip c s = skip c' s' + d) (hs : s' = s.drop d) : sc c p s = sc c' (p + d) s' := by
  rw [sc_skip c p s, sc_skip c' (p + d) s', h, hs, List.drop_drop]
  congr 1
  · omega
  · congr 1; omega
theorem bool_true {b : Bool} (h : b = true) : Value.bool b = .bool true := by rw [h]
theorem fixT {w : World} {base c : Nat} {a : Option Addr} {L : List Tok} {M : List Tk} (h : OwnT w base (.slice a (L.map Tok.tk).length c) M) : OwnT w base (.slice a L.length c) M := by rwa [List.length_map] at h
def flagM : Value → Nat
  | .bool true => 0
  | _ => 1

set_option maxHeartbeats 4000000 in
theorem rscan_in (s : ByteArray) (hs : s.size ≤ 4000) (w : World) : Calls Tryd.prog 12 #[.string s] w (ScanEnd s.data.toList w) := by
  have hs2 : decide (4000 < (s.size : Int)) = false := by simp; omega
  go_enter Tryd.func12, Tryd.ntmps12
  go_wp2_with fail
  go_loopw [5, 6, 7] (fun l i c wr => ∃ (p : Nat) (b : Bool) (L : List Tok), p ≤ s.size ∧ i = .int .i64 p ∧ c = .bool b ∧ OwnT wr w.heap.size l (L.map Tok.tk) ∧ L.length ≤ p ∧ sc false 0 s.data.toList = R.pre L (sc b p (s.data.toList.drop p)) ∧ RowKit.Below w.heap.size w wr) (fun _ i c _ => 2 * (s.size - (intOf i).toNat) + flagM c)
  case atStart => exact ⟨0, false, [], by omega, rfl, rfl, World.ownsRow_nil _ _ _ _, by simp, by rw [R.pre_nil]; rfl, Below.refl _ _⟩
  case round =>
    obtain ⟨p, c, L, hp, rfl, rfl, hown, hLp, hsc, hb⟩ := hrel
    obtain ⟨a0, c0, rfl, _⟩ := hown.cells
    have HOWN := Lib.hid hown
    have HSC := Lib.hid hsc
    have HB := Lib.hid hb
    clear hown hsc hb
    by_cases hlt : p < s.size
    · have hdr := dropB s p hlt
      have hblank := blank_any s[p]
      have htk := token_any s (by omega) p hlt
      obtain ⟨x, hx⟩ : ∃ x, s[p] = x := ⟨_, rfl⟩
      rw [hx] at hdr hblank
      by_cases h10 : x.toNat = 10
      · have hn : sc false 0 s.data.toList = R.pre L (sc false (p + 1) (s.data.toList.drop (p + 1))) := by
          rw [HSC.out]; congr 1
          exact sc_move (by rw [hdr, skip_10 c h10]) (by rw [hdr]; rfl)
        have HN := Lib.hid hn
        have t10 : ((x.toNat : Int) == 10) = true := by simp; omega
        rw [show blankB x = true by unfold blankB; simp; omega] at hblank
        have HBL := Lib.hid hblank
        clear hn h10 hblank htk hdr
        go_wp2_with fail
        refine (HBL.out _).mono ?_
        rintro e w1 ⟨rfl, rfl⟩
        go_wp2_with fail
        go_roundw
        case rel => exact ⟨p + 1, false, L, by omega, by go_num, rfl, fixT HOWN.out, by omega, HN.out, HB.out⟩
        case measure => cases c <;> simp [intOf, flagM] <;> omega
      · have t10 : ((x.toNat : Int) == 10) = false := by simp; omega
        cases c
        · rcases hbl : blankB x with _ | _
          · rw [hbl] at hblank
            have HBL := Lib.hid hblank
            by_cases h35 : x.toNat = 35
            · have t35 : ((x.toNat : Int) == 35) = true := by simp; omega
              have hn : sc false 0 s.data.toList = R.pre L (sc true p (s.data.toList.drop p)) := by
                rw [HSC.out]; congr 1
                exact sc_move (d := 0) (by rw [hdr, skip_35 false h35, skip_35 true h35]) rfl
              have HN := Lib.hid hn
              clear hn h10 hblank htk hdr hbl h35
              go_wp2_with fail
              refine (HBL.out _).mono ?_
              rintro e w1 ⟨rfl, rfl⟩
              go_wp2_with fail
              go_roundw
              case rel => exact ⟨p, true, L, by omega, rfl, rfl, fixT HOWN.out, by omega, HN.out, HB.out⟩
              case measure => simp [intOf, flagM]
            · have t35 : ((x.toNat : Int) == 35) = false := by simp; omega
              have hsk : skip false (s.data.toList.drop p) = 0 := by rw [hdr]; exact skip_f hbl h35
              have hd0 : (s.data.toList.drop p).drop (skip false (s.data.toList.drop p)) = x :: s.data.toList.drop (p + 1) := by rw [hsk]; exact hdr
              rcases ht : tokL (s.data.toList.drop p) with y | ⟨k, t, n, z⟩
              · have hfin : sc false 0 s.data.toList = .bad p y := by
                  rw [HSC.out, sc_bad hd0 (by rw [← hdr]; exact ht), hsk]; rfl
                have hy := tokL_bad (by rw [← hdr]; exact ht)
                rw [ht] at htk
                simp only [tokV] at htk
                have HTK := Lib.hid htk
                have HFIN := Lib.hid hfin
                have hxne : (y != 0) = true := by simp; omega
                have hxne' : (y == 0) = false := by simp; omega
                clear hfin hy htk ht hd0 hdr hsk hblank hbl h35 h10
                go_wp2_with fail
                refine (HBL.out _).mono ?_
                rintro e w1 ⟨rfl, rfl⟩
                go_wp2_with fail
                with_reducible refine (HTK.out _).mono ?_
                rintro e w2 ⟨rfl, hb⟩
                have HB2 := Lib.hid (HB.out.trans (hb.mono HB.out.size))
                clear hb
                go_wp2_with fail
                go_ret3
                have HB3 := Lib.hid (HB2.out.alloc HB2.out.size (.cells #[.int .i64 0, .string ⟨#[]⟩, .int .i64 0, .int .i64 0] 25))
                unfold ScanEnd
                rw [HFIN.out]
                exact ⟨HB3.out, rfl⟩
              · rw [ht] at htk
                simp only [tokV] at htk
                have hok := tokL_ok (by rw [← hdr]; exact ht)
                have hz1 := hok.2.2.1
                have hz2 := hok.2.2.2.1
                clear hok
                rw [List.length_drop, sizeB] at hz2
                have hzs : p + z ≤ s.size := by omega
                have hst := sc_tok (c := false) (p := p) hd0 (by rw [← hdr]; exact ht)
                rw [hsk, Nat.add_zero, drop_rest hdr hz1] at hst
                have HREL : Hid (sc false 0 s.data.toList = R.pre (L ++ [⟨k, t, n, p⟩]) (sc false (p + z) (s.data.toList.drop (p + z)))) := Lib.hid (by
                  rw [HSC.out, hst, R.pre_pre])
                have HTK := Lib.hid htk
                have HZ1 := Lib.hid hz1
                clear htk hd0 hdr hst ht hz1 hz2 hsk hblank hbl h35 h10
                go_wp2_with fail
                refine (HBL.out _).mono ?_
                rintro e w1 ⟨rfl, rfl⟩
                go_wp2_with fail
                with_reducible refine (HTK.out _).mono ?_
                rintro e w2 ⟨rfl, hb⟩
                have HB2 := Lib.hid (HB.out.trans (hb.mono HB.out.size))
                have hown2 : w2.ownsRow w.heap.size 25 4 (.slice a0 L.length c0) L.length (tcells (L.map Tok.tk)) := by
                  have := HOWN.out.kept (grownBy_none hb) (by cases hv : (Value.slice a0 (List.map Tok.tk L).length c0).ownBlock <;> simp)
                  rwa [List.length_map] at this
                have hz2 : w.heap.size ≤ w2.heap.size := HB2.out.size
                obtain ⟨i0, hi0, hz0, hz1, hzb⟩ := info_parts infoTok
                clear hb
                go_wp2_with (at_builtin; refine wpList_append_own _ rfl _ _ 22 rfl w.heap.size 25 i0 (.agg #[.int .i64 0, .string ⟨#[]⟩, .int .i64 0, .int .i64 0]) 4 40 Tryd.underlying22 hi0 hz0 hz1 hzb rfl (by decide) _ _ _ rfl ((hown2.alloc _).alloc _) ⟨w2.heap.size + 1, 0, none⟩ 1 1 [.int .i64 k, .string ⟨t.toArray⟩, .int .i64 n, .int .i64 (p : Int)] rfl rfl ?c1 ?c2 ?c3 ?c4 ?c5 ?_)
                case c1 =>
                  intro j u hj
                  match j, hj with
                  | 0, hj => simp at hj; subst hj; simp [Addr.add]
                  | 1, hj => simp at hj; subst hj; simp [Addr.add]
                  | 2, hj => simp at hj; subst hj; simp [Addr.add]
                  | 3, hj => simp at hj; subst hj; simp [Addr.add]
                case c2 => intro u hu; simp at hu; rcases hu with rfl | rfl | rfl | rfl <;> rfl
                case c3 => unfold maxLen; omega
                case c4 => omega
                case c5 => simp; omega
                intro v' w3 hown3 hgrow _
                have HOWN3 : Hid (OwnT w3 w.heap.size v' ((L ++ [(⟨k, t, n, p⟩ : Tok)]).map Tok.tk)) := Lib.hid (by
                  unfold OwnT
                  rw [List.map_append, tcells_app, List.length_append, List.length_map]
                  exact hown3)
                have hlt0 := hown2.lt
                have HB3 := Lib.hid (((HB2.out.alloc hz2 (.cells #[.int .i64 k, .string ⟨t.toArray⟩, .int .i64 n, .int .i64 (p : Int)] 25)).alloc (by simp; omega) (.cells #[.int .i64 k, .string ⟨t.toArray⟩, .int .i64 n, .int .i64 (p : Int)] 25)).grown hgrow (by simp; omega) (fun j hj => (hlt0 j hj).1))
                clear hown2 hown3 hgrow hlt0
                go_wp2_with fail
                go_roundw
                case rel => exact ⟨p + z, false, L ++ [⟨k, t, n, p⟩], by omega, by go_num, rfl, HOWN3.out, by have := HZ1.out; simp; omega, HREL.out, HB3.out⟩
                case measure => have := HZ1.out; simp [intOf, flagM]; omega
          · rw [hbl] at hblank
            have HBL := Lib.hid hblank
            have hn : sc false 0 s.data.toList = R.pre L (sc false (p + 1) (s.data.toList.drop (p + 1))) := by
              rw [HSC.out]; congr 1
              exact sc_move (by rw [hdr, skip_b false (by unfold blankB at hbl; simp at hbl; omega)]) (by rw [hdr]; rfl)
            have HN := Lib.hid hn
            clear hn h10 hblank htk hdr hbl
            go_wp2_with fail
            refine (HBL.out _).mono ?_
            rintro e w1 ⟨rfl, rfl⟩
            go_wp2_with fail
            go_roundw
            case rel => exact ⟨p + 1, false, L, by omega, by go_num, rfl, fixT HOWN.out, by omega, HN.out, HB.out⟩
            case measure => simp [intOf, flagM]; omega
        · have hn : sc false 0 s.data.toList = R.pre L (sc true (p + 1) (s.data.toList.drop (p + 1))) := by
            rw [HSC.out]; congr 1
            exact sc_move (by rw [hdr, skip_t h10]) (by rw [hdr]; rfl)
          have HN := Lib.hid hn
          clear hn h10 hblank htk hdr
          go_wp2_with fail
          go_roundw
          case rel => exact ⟨p + 1, true, L, by omega, by go_num, rfl, HOWN.out, by omega, HN.out, HB.out⟩
          case measure => simp [intOf, flagM]; omega
    · have hfin : sc false 0 s.data.toList = .ok L := by
        rw [HSC.out, drop_end s p hlt, sc_nil]; simp [R.pre]
      have HFIN := Lib.hid hfin
      clear hfin
      go_wp2_with fail
      go_ret3
      unfold ScanEnd
      rw [HFIN.out]
      obtain ⟨a, cc, hv, hc⟩ := HOWN.out.cells
      injection hv with e1 e2 e3
      refine ⟨HB.out, a0, c0, ?_, by rw [e1]; exact hc⟩
      show Ending.returned (.tuple #[.slice a0 (L.map Tok.tk).length c0, .int .i64 0, .int .i64 0]) = _
      rw [List.length_map]
end Go.Proofs.YtagkdhcclkbjgaaDoor.Le
