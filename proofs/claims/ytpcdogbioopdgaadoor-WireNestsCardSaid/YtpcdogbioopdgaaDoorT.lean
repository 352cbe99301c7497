/- WireNests. -/
import Derived.Test.YtpcdogbioopdgaaDoorN
namespace Go.Proofs.YtpcdogbioopdgaaDoor
open Go.RowKit Go.Sort

def bytes (l : List UInt8) : ByteArray := ⟨l.toArray⟩

theorem flat_sizes (t : List ByteArray) (h : ∀ z ∈ t, z.size ≤ 400) : (t.flatMap encS).length ≤ sizes t + 24 * t.length := by
  induction t with
  | nil => simp
  | cons x t ih =>
    have h1 := encS_len x.size x (Nat.le_refl _) (by have := h x (by simp); omega)
    have h2 := ih (fun z hz => h z (by simp [hz]))
    simp only [List.flatMap_cons, List.length_append, sizes, List.map_cons, List.sum_cons, List.length_cons] at *
    omega
theorem enc_short {w : World} {v : V} (hv : VOk w v) (h : v.weight ≤ 400) : v.enc.length ≤ 20000 := by
  have hq := weight_bounds h
  have hw := h
  simp only [V.weight] at hw
  unfold V.enc
  split
  · have := encInt_len _ ⟨by have := (numOf_bd hv.nb).1; omega, (numOf_bd hv.nb).2⟩; omega
  split
  · have := encInt_len _ hv.nb; omega
  split
  · have := encS_len 400 v.s hq.1 (by omega); unfold encS at this; omega
  split
  · have h1 := flat_len encInt 22 v.l (fun z hz => encInt_len z (hv.lok z hz))
    have h2 := Lib.itoa_length_le v.l.length (by omega) (by omega)
    simp only [encNums, List.length_append, List.length_cons, List.length_nil]; omega
  · have h1 := flat_sizes v.t hq.2.2.2.2
    have h2 := Lib.itoa_length_le v.t.length (by omega) (by omega)
    simp only [encTexts, List.length_append, List.length_cons, List.length_nil]; omega
def parts (vs : List V) : List ByteArray := vs.map fun v => bytes v.enc
theorem parts_snoc (vs : List V) (k : Nat) (h : k < vs.length) : parts (vs.take (k + 1)) = parts (vs.take k) ++ [bytes vs[k].enc] := by
  unfold parts; rw [List.take_succ_eq_append_getElem h, List.map_append]; rfl
theorem parts_length (vs : List V) : (parts vs).length = vs.length := by simp [parts]

theorem own_all {wr : World} {B k : Nat} {v : Value} (vs : List V) (hkk : k = vs.length) (h : wr.ownsRow B 9 1 v k ((parts (vs.take k)).map Value.string)) : wr.ownsRow B 9 1 v (parts vs).length ((parts vs).map Value.string) := by
  subst hkk; rw [List.take_of_length_le (Nat.le_refl _)] at h; rw [parts_length]; exact h

set_option maxRecDepth 100000 in
set_option maxHeartbeats 8000000 in
theorem nests_few (a : Option Addr) (cap : Nat) (vs : List V) (hvm : vs.length ≤ 9223372036854775807) (w : World) (he : Env w) (hv : VCells w a vs) (hf : ¬ (vs.length ≤ 20 ∧ weights vs ≤ 400)) :
    Calls Tryd.prog 8 #[.slice a vs.length cap] w (Gives (.bool true) w) := by
  have HV := Lib.hid hv
  have HF := Lib.hid hf
  clear hv hf
  go_enter Tryd.func8, Tryd.ntmps8
  go_wp2_with fail
  refine (small_any _ he).mono ?_
  rintro e w1 ⟨rfl, b1⟩
  go_wp2_with fail
  refine (few_no a cap vs hvm _ (HV.out.later b1) HF.out).mono ?_
  rintro e w2 ⟨rfl, b2⟩
  go_wp2_with fail
  go_ret
  exact ⟨rfl, b1.trans (b2.mono b1.size)⟩

set_option maxRecDepth 100000 in
set_option maxHeartbeats 8000000 in
theorem nests_main (a : Option Addr) (cap : Nat) (vs : List V) (w : World) (he : Env w) (hv : VCells w a vs) (hf : vs.length ≤ 20 ∧ weights vs ≤ 400) :
    Calls Tryd.prog 8 #[.slice a vs.length cap] w (Gives (.bool true) w) := by
  obtain ⟨i0, hi, hz0, hz1, hz2⟩ := info_parts infoStr
  have HV := Lib.hid hv
  have HF := Lib.hid hf
  have HE := Lib.hid he
  have h20 := hf.1
  have hz := he.size
  have hel : Hid (∀ v ∈ vs, v.enc.length ≤ 20000) := by
    intro v hvm
    rcases hv with h0 | ⟨b, o, _, hc⟩
    · subst h0; cases hvm
    · obtain ⟨k, hk, rfl⟩ := List.getElem_of_mem hvm
      exact enc_short (hc k hk).2 (weight_le hf.2 k hk)
  clear hf
  rcases hv with h0' | ⟨ba, off, rfl, hc⟩
  have h0 := Lib.hid h0'; clear h0'
  all_goals
    go_enter Tryd.func8, Tryd.ntmps8
    go_wp2_with fail
    refine (small_any _ he).mono ?_
    rintro e w1 ⟨rfl, b1⟩
    go_wp2_with fail
    refine (few_yes _ cap vs _ (HV.out.later b1) HF.out).mono ?_
    rintro e w2 ⟨rfl, b2⟩
    have B2 : Old w w2 := b1.trans (b2.mono b1.size)
    clear b1 b2 he
    go_wp2_with fail
    go_loopw [4, 5] (fun l i wr => ∃ k : Nat, k ≤ vs.length ∧ i = .int .i64 k ∧ wr.ownsRow w.heap.size 9 1 l k ((parts (vs.take k)).map Value.string) ∧ Old w wr) (fun _ i _ => vs.length - (RowKit.intOf i).toNat)
    case atStart => exact ⟨0, by omega, rfl, World.ownsRow_nil _ _ _ _, B2⟩
    case round =>
      clear B2
      obtain ⟨k, hk, rfl, hown, hb⟩ := hrel
      by_cases hlt : k < vs.length
      · first
        | (exfalso; simp [h0.out] at hlt; done)
        | (obtain ⟨v, hvk⟩ : ∃ v, v = vs[k] := ⟨_, rfl⟩
           have hck := (hc k hlt).1
           have hok := (hc k hlt).2
           have hwk := weight_le HF.out.2 k hlt
           rw [← hvk] at hck hok hwk
           have f0 : wr.cell? ⟨ba, off + k * 5, none⟩ = some (.int .i64 v.kd) := cell_later (hck 0 _ rfl) hb
           have f1 : wr.cell? ⟨ba, off + k * 5 + 1, none⟩ = some (.int .i64 v.nn) := cell_later (hck 1 _ rfl) hb
           have f2 : wr.cell? ⟨ba, off + k * 5 + 2, none⟩ = some (.string v.s) := cell_later (hck 2 _ rfl) hb
           have f3 : wr.cell? ⟨ba, off + k * 5 + 3, none⟩ = some (.slice v.la v.l.length v.lc) := cell_later (hck 3 _ rfl) hb
           have f4 : wr.cell? ⟨ba, off + k * 5 + 4, none⟩ = some (.slice v.ta v.t.length v.tc) := cell_later (hck 4 _ rfl) hb
           have HVK := Lib.hid hvk
           have HOK := Lib.hid (hok.later hb)
           have HW := Lib.hid hown
           clear hck hok hc hvk hown
           go_wp2_with fail
           refine (write_any v _ (HE.out.below hb hz) HOK.out hwk).mono ?_
           rintro e w3 ⟨rfl, b3⟩
           have hown2 := HW.out.kept (grownBy_none b3) (by cases hv : (Value.ownBlock _) <;> simp)
           have O3 := hb.step b3
           clear b3
           go_wp2_with (at_builtin; refine wpList_append_own _ rfl _ _ 23 rfl w.heap.size 9 i0 (.string ⟨#[]⟩) 1 16 Tryd.underlying23 hi hz0 hz1 hz2 rfl (by decide) _ _ _ rfl (hown2.alloc _) ⟨w3.heap.size, 0, none⟩ 1 1 [.string (bytes v.enc)] rfl rfl ?c1 ?c2 ?c3 ?c4 ?c5 ?_)
           case c1 => exact new_cell _ _ _
           case c2 => intro u hu; simp at hu; subst hu; rfl
           case c3 => unfold maxLen; omega
           case c4 => omega
           case c5 => have := O3.size; simp; omega
           intro v' w4 hown3 hgrow _
           have O4 : Hid (Old w w4) := RowKit.Below.grown (RowKit.Below.alloc O3 O3.size (.cells #[.string (bytes v.enc)] 9)) hgrow (by have := O3.size; simp; omega) (own_block HW.out)
           have HW4 : Hid (w4.ownsRow w.heap.size 9 1 v' (k + 1) ((parts (vs.take (k + 1))).map Value.string)) := by
             unfold Hid; rw [parts_snoc vs k hlt, ← HVK.out, List.map_append]; exact hown3
           clear hown3 hgrow O3
           go_wp2_with fail
           go_roundw
           case rel => exact ⟨k + 1, by omega, by go_num, HW4.out, O4.out⟩
           case measure => simp [RowKit.intOf]; omega)
      · have hkk : k = vs.length := by omega
        have hown2 := own_all vs hkk hown
        obtain ⟨a2, cap2, rfl, hcells⟩ := own_strs hown2
        have HC2 := Lib.hid hcells
        clear hown hown2 hcells
        have hpm : Hid (∀ z ∈ parts vs, z.size ≤ 20000) := by
          intro z hz
          obtain ⟨v, hv, rfl⟩ := List.mem_map.1 hz
          have := hel.out v hv
          simpa [bytes, ByteArray.size] using this
        have hpl := parts_length vs
        have htl : (encTexts (parts vs)).length ≤ 900000 := by
          have h1 := flat_len encS 20024 (parts vs) (fun z hz => encS_len 20000 z (hpm.out z hz) (by omega))
          have h2 := Lib.itoa_length_le (parts vs).length (by omega) (by omega)
          simp only [encTexts, List.length_append, List.length_cons, List.length_nil]
          have h3 : 20024 * (parts vs).length ≤ 20024 * 20 := Nat.mul_le_mul_left _ (by omega)
          omega
        obtain ⟨tx, htx⟩ : ∃ tx, tx = encTexts (parts vs) := ⟨_, rfl⟩
        rw [← htx] at htl
        have HTX := Lib.hid htx
        clear htx
        have hE := Lib.hid (HE.out.below hb hz)
        go_wp2_with fail
        have T1 := texts_any a2 cap2 (parts vs) 20000 (by omega) (by omega) (by rw [hpl]; omega) _ hE.out HC2.out hpm.out
        rw [hpl] at T1
        refine T1.mono ?_
        clear T1
        rintro e w3 ⟨rfl, b3⟩
        rw [← HTX.out]
        have O3 := hb.step b3
        clear b3 hE hb
        go_wp2_with fail
        refine (text_any ⟨tx.toArray⟩ (Nat.le_trans htl (by omega)) _ (HE.out.below O3 hz)).mono ?_
        rintro e w4 ⟨rfl, b4⟩
        have O4 := O3.step b4
        have hil := Lib.itoa_length_le tx.length (by omega) (by omega)
        have hxl : (encText tx).length ≤ 900030 := by
          simp only [encText, List.length_append, List.length_cons, List.length_nil]; omega
        clear b4 O3 hil
        go_wp2_with fail
        refine (open_any _ _).mono ?_
        rintro e w5 ⟨rfl, h5⟩
        have O5 : Old w w5 := by rw [h5]; exact RowKit.Below.alloc O4 O4.size _
        have I5 : IsR w4.heap.size (encText tx ++ []) false w5 := by rw [h5, List.append_nil]; exact fresh_R _ _
        have hs4 := O4.size
        obtain ⟨ro, hro⟩ : ∃ ro, ro = w4.heap.size := ⟨_, rfl⟩
        rw [← hro] at I5 hs4
        rw [← hro]
        clear h5 O4 hro
        go_wp2_with fail
        refine (rtext_any ro _ false (by rw [List.append_nil]; omega) _ I5 (HE.out.below O5 hz)).mono ?_
        rintro e w6 hr
        obtain ⟨ho6, rfl, I6⟩ := Reads.some' hr (pText_enc ⟨tx.toArray⟩ (Nat.le_trans htl (by omega)) [])
        have O6 := Old.on O5 hs4 ho6
        clear hr ho6 O5 I5
        go_wp2_with fail
        refine (open_any _ _).mono ?_
        rintro e w7 ⟨rfl, h7⟩
        have O7 : Old w w7 := by rw [h7]; exact RowKit.Below.alloc O6 O6.size _
        have I7 : IsR w6.heap.size (tx ++ []) false w7 := by rw [h7, List.append_nil]; exact fresh_R _ _
        have I6' : IsR ro [] false w7 := I6.later (by rw [h7]; exact (Below.refl _ _).alloc (Nat.le_refl _) _)
        have hs6 := O6.size
        obtain ⟨ri, hri⟩ : ∃ ri, ri = w6.heap.size := ⟨_, rfl⟩
        rw [← hri] at I7 hs6
        rw [← hri]
        clear h7 O6 I6 hri
        go_wp2_with fail
        refine (done_any ro [] false _ I6').mono ?_
        rintro e w8 ⟨rfl, rfl⟩
        go_wp2_with fail
        refine (rtexts_any ri _ (by rw [List.append_nil]; omega) _ I7 (HE.out.below O7 hz) (Nat.le_trans hz hs6)).mono ?_
        rintro e w8 hr
        obtain ⟨ho8, a3, cap3, rfl, hc3, I8⟩ := ReadsT.some' hr (by rw [HTX.out]; exact pTexts_enc (parts vs) (by rw [hpl]; omega) (fun z hz => Nat.le_trans (hpm.out z hz) (by omega)) [])
        have O8 := Old.on O7 hs6 ho8
        clear hr ho8 O7 I7 I6'
        rcases hc3 with hn | ⟨b3, o3, rfl, hc3⟩
        have hn0 := Lib.hid hn; clear hn
        rotate_left
        have HC3 := Lib.hid hc3; clear hc3
        rotate_left
        all_goals
          go_wp2_with fail
          refine (done_any ri [] false _ I8).mono ?_
          rintro e w9 ⟨rfl, rfl⟩
          go_wp2_with fail
          go_loopw [9] (fun i wr => ∃ j : Nat, j ≤ vs.length ∧ i = .int .i64 j ∧ Old w wr ∧ Old w8 wr) (fun i _ => vs.length - (RowKit.intOf i).toNat)
          case atStart => exact ⟨0, by omega, rfl, O8, Below.refl _ _⟩
          case round =>
            have hs8 := O8.size
            clear O8 I8 hlt
            obtain ⟨j, hj, rfl, hb, hb8⟩ := hrel
            by_cases hjt : j < vs.length
            · first
              | (exfalso; simp [h0.out] at hjt; done)
              | (exfalso; rw [← hpl, hn0.out] at hjt; simp at hjt; done)
              | (obtain ⟨v, hvk⟩ : ∃ v, v = vs[j] := ⟨_, rfl⟩
                 have hck := (hc j hjt).1
                 have hok := (hc j hjt).2
                 have hwk := weight_le HF.out.2 j hjt
                 have hvl := hel.out _ (List.getElem_mem hjt)
                 rw [← hvk] at hck hok hwk hvl
                 have hc3 := HC3.out
                 · have fs : wr.cell? ⟨b3, o3 + j, none⟩ = some (.string ⟨v.enc.toArray⟩) := by
                     have h := cell_later (hc3 j (by rw [hpl]; exact hjt)) hb8
                     have e : (parts vs)[j]'(by rw [hpl]; exact hjt) = ⟨v.enc.toArray⟩ := by simp [parts, bytes, hvk]
                     rw [e] at h; exact h
                   have F0 := Lib.hid (hck 0 _ rfl)
                   have F1 := Lib.hid (hck 1 _ rfl)
                   have F2 := Lib.hid (hck 2 _ rfl)
                   have F3 := Lib.hid (hck 3 _ rfl)
                   have F4 := Lib.hid (hck 4 _ rfl)
                   have HOK := Lib.hid hok
                   clear hck hok hc hvk hc3
                   go_wp2_with fail
                   refine (open_any _ _).mono ?_
                   rintro e wa ⟨rfl, ha⟩
                   have Oa : Old w wa := by rw [ha]; exact RowKit.Below.alloc hb hb.size _
                   have Ka : Old w8 wa := by rw [ha]; exact RowKit.Below.alloc hb8 hb8.size _
                   have Ia : IsR wr.heap.size (v.enc ++ []) false wa := by rw [ha, List.append_nil]; exact fresh_R _ _
                   have hsr := hb.size
                   have hsr8 := hb8.size
                   obtain ⟨rb, hrb⟩ : ∃ rb, rb = wr.heap.size := ⟨_, rfl⟩
                   rw [← hrb] at Ia hsr hsr8
                   rw [← hrb]
                   clear ha hb hb8 fs hrb
                   have f0 : wa.cell? ⟨ba, off + j * 5, none⟩ = some (.int .i64 v.kd) := cell_later F0.out Oa
                   have f1 : wa.cell? ⟨ba, off + j * 5 + 1, none⟩ = some (.int .i64 v.nn) := cell_later F1.out Oa
                   have f2 : wa.cell? ⟨ba, off + j * 5 + 2, none⟩ = some (.string v.s) := cell_later F2.out Oa
                   have f3 : wa.cell? ⟨ba, off + j * 5 + 3, none⟩ = some (.slice v.la v.l.length v.lc) := cell_later F3.out Oa
                   have f4 : wa.cell? ⟨ba, off + j * 5 + 4, none⟩ = some (.slice v.ta v.t.length v.tc) := cell_later F4.out Oa
                   go_wp2_with fail
                   refine (equal_any w rb v [] wa (HE.out.below Oa hz) HOK.out hwk Oa hsr hz Ia (by rw [List.append_nil]; omega)).mono ?_
                   rintro e wb ⟨rfl, Ob, hob, Ib⟩
                   have Kb := Old.on Ka hsr8 hob
                   clear hob Oa Ka Ia f0 f1 f2 f3 f4
                   go_wp2_with fail
                   refine (done_any rb [] false _ Ib).mono ?_
                   rintro e wc ⟨rfl, rfl⟩
                   go_wp2_with fail
                   go_roundw
                   case rel => exact ⟨j + 1, by omega, by go_num, Ob, Kb⟩
                   case measure => simp [RowKit.intOf]; omega)
            · go_wp2_with fail
              go_ret
              exact ⟨rfl, hb⟩
end Go.Proofs.YtpcdogbioopdgaaDoor
