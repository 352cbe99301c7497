/- WireBack. -/
import Derived.Test.YtpcdogbioopdgaaDoorK
namespace Go.Proofs.YtpcdogbioopdgaaDoor
open Go.RowKit Go.Sort

theorem few_yes (a : Option Addr) (cap : Nat) (vs : List V) (w : World) (hv : VCells w a vs) (hf : vs.length ≤ 20 ∧ weights vs ≤ 400) :
    Calls Tryd.prog 10 #[.slice a vs.length cap] w (Gives (.bool true) w) := by
  refine (few_any a cap vs hf.1 w hv).mono ?_
  rintro e w' ⟨r, rfl, hb, hr⟩
  obtain rfl : r = true := hr.2 hf
  exact ⟨rfl, hb⟩
theorem few_no (a : Option Addr) (cap : Nat) (vs : List V) (hm : vs.length ≤ 9223372036854775807) (w : World) (hv : VCells w a vs) (hf : ¬ (vs.length ≤ 20 ∧ weights vs ≤ 400)) :
    Calls Tryd.prog 10 #[.slice a vs.length cap] w (Gives (.bool false) w) := by
  have h : Calls Tryd.prog 10 #[.slice a vs.length cap] w (FewPost vs w) := by
    by_cases h20 : vs.length ≤ 20
    · exact few_any a cap vs h20 w hv
    · exact few_long a cap vs (by omega) hm w
  refine h.mono ?_
  rintro e w' ⟨r, rfl, hb, hr⟩
  cases r
  · exact ⟨rfl, hb⟩
  · exact absurd (hr.1 rfl) hf
theorem VCells.later {w w' : World} {a : Option Addr} {vs : List V} (h : VCells w a vs) (hb : RowKit.Below w.heap.size w w') : VCells w' a vs :=
  h.elim .inl (fun ⟨b, o, e, hc⟩ => .inr ⟨b, o, e, fun i hi => ⟨fun j v hj => cell_later ((hc i hi).1 j v hj) hb, (hc i hi).2.later hb⟩⟩)
def encs (vs : List V) : List UInt8 := vs.flatMap V.enc
theorem encs_len {vs : List V} (m : Nat) (h : ∀ v ∈ vs, v.enc.length ≤ m) : (encs vs).length ≤ m * vs.length := flat_len V.enc m vs h
theorem encs_snoc (vs : List V) (k : Nat) (h : k < vs.length) : encs (vs.take (k + 1)) = encs (vs.take k) ++ vs[k].enc := flat_snoc V.enc vs k h
theorem encs_drop (vs : List V) (k : Nat) (h : k < vs.length) : encs (vs.drop k) = vs[k].enc ++ encs (vs.drop (k + 1)) := by
  unfold encs; rw [List.drop_eq_getElem_cons h, List.flatMap_cons]

set_option maxRecDepth 100000 in
set_option maxHeartbeats 8000000 in
theorem back_few (a : Option Addr) (cap : Nat) (vs : List V) (tl : List UInt8) (htm : tl.length ≤ 9223372036854775807) (hvm : vs.length ≤ 9223372036854775807) (w : World) (he : Env w) (hv : VCells w a vs) (hf : ¬ (vs.length ≤ 20 ∧ weights vs ≤ 400)) :
    Calls Tryd.prog 5 #[.slice a vs.length cap, .string ⟨tl.toArray⟩] w (Gives (.bool true) w) := by
  have HV := Lib.hid hv
  have HF := Lib.hid hf
  clear hv hf
  go_enter Tryd.func5, Tryd.ntmps5
  go_wp2_with fail
  refine (small_any _ he).mono ?_
  rintro e w1 ⟨rfl, b1⟩
  go_wp2_with fail
  refine (few_no a cap vs hvm _ (HV.out.later b1) HF.out).mono ?_
  rintro e w2 ⟨rfl, b2⟩
  go_wp2_with fail
  go_ret
  exact ⟨rfl, b1.trans (b2.mono b1.size)⟩
set_option maxRecDepth 100000 in
set_option maxHeartbeats 8000000 in
theorem back_long (a : Option Addr) (cap : Nat) (vs : List V) (tl : List UInt8) (htm : tl.length ≤ 9223372036854775807) (w : World) (he : Env w) (hv : VCells w a vs) (hf : vs.length ≤ 20 ∧ weights vs ≤ 400) (ht : 400 < tl.length) :
    Calls Tryd.prog 5 #[.slice a vs.length cap, .string ⟨tl.toArray⟩] w (Gives (.bool true) w) := by
  have HV := Lib.hid hv
  have HF := Lib.hid hf
  have h20 := hf.1
  clear hv hf
  go_enter Tryd.func5, Tryd.ntmps5
  go_wp2_with fail
  refine (small_any _ he).mono ?_
  rintro e w1 ⟨rfl, b1⟩
  go_wp2_with fail
  refine (few_yes a cap vs _ (HV.out.later b1) HF.out).mono ?_
  rintro e w2 ⟨rfl, b2⟩
  go_wp2_with fail
  go_ret
  exact ⟨rfl, b1.trans (b2.mono b1.size)⟩

theorem weight_le {vs : List V} (h : weights vs ≤ 400) (k : Nat) (hk : k < vs.length) : vs[k].weight ≤ 400 := Nat.le_trans (weight_mem vs k hk) h

set_option maxRecDepth 100000 in
set_option maxHeartbeats 8000000 in
theorem back_main (a : Option Addr) (cap : Nat) (vs : List V) (tl : List UInt8) (w : World) (he : Env w) (hv : VCells w a vs) (hf : vs.length ≤ 20 ∧ weights vs ≤ 400) (ht : tl.length ≤ 400) :
    Calls Tryd.prog 5 #[.slice a vs.length cap, .string ⟨tl.toArray⟩] w (Gives (.bool true) w) := by
  have HV := Lib.hid hv
  have HF := Lib.hid hf
  have HE := Lib.hid he
  have h20 := hf.1
  have hz := he.size
  have hel : Hid (∀ v ∈ vs, v.enc.length ≤ 1000000) := by
    intro v hvm
    rcases hv with h0 | ⟨b, o, _, hc⟩
    · subst h0; cases hvm
    · obtain ⟨k, hk, rfl⟩ := List.getElem_of_mem hvm
      exact enc_len (hc k hk).2 (weight_le hf.2 k hk)
  have htot : (encs vs).length ≤ 20000000 := Nat.le_trans (encs_len 1000000 hel.out) (by omega)
  clear hf
  rcases hv with h0' | ⟨ba, off, rfl, hc⟩
  have h0 := Lib.hid h0'; clear h0'
  all_goals
    go_enter Tryd.func5, Tryd.ntmps5
    go_wp2_with fail
    refine (small_any _ he).mono ?_
    rintro e w1 ⟨rfl, b1⟩
    go_wp2_with fail
    refine (few_yes _ cap vs _ (HV.out.later b1) HF.out).mono ?_
    rintro e w2 ⟨rfl, b2⟩
    have B2 : Old w w2 := b1.trans (b2.mono b1.size)
    clear b1 b2 he
    go_wp2_with fail
    go_loopw [6, 7] (fun s i wr => ∃ k : Nat, k ≤ vs.length ∧ i = .int .i64 k ∧ s = .string ⟨(encs (vs.take k)).toArray⟩ ∧ Old w wr) (fun _ i _ => vs.length - (RowKit.intOf i).toNat)
    case atStart => exact ⟨0, by omega, rfl, rfl, B2⟩
    case round =>
      clear B2
      obtain ⟨k, hk, rfl, rfl, hb⟩ := hrel
      obtain ⟨acc, hacc⟩ : ∃ acc, acc = encs (vs.take k) := ⟨_, rfl⟩
      have hal : acc.length ≤ 20000000 := by
        rw [hacc]; exact Nat.le_trans (encs_len 1000000 (fun v hv => hel.out v (List.mem_of_mem_take hv))) (by simp; omega)
      rw [← hacc]
      have HA := Lib.hid hacc
      clear hacc
      by_cases hlt : k < vs.length
      · first
        | (exfalso; simp [h0.out] at hlt; done)
        | (obtain ⟨v, hvk⟩ : ∃ v, v = vs[k] := ⟨_, rfl⟩
           have hck := (hc k hlt).1
           have hok := (hc k hlt).2
           have hwk := weight_le HF.out.2 k hlt
           have hvl := hel.out _ (List.getElem_mem hlt)
           rw [← hvk] at hck hok hwk hvl
           have f0 : wr.cell? ⟨ba, off + k * 5, none⟩ = some (.int .i64 v.kd) := cell_later (hck 0 _ rfl) hb
           have f1 : wr.cell? ⟨ba, off + k * 5 + 1, none⟩ = some (.int .i64 v.nn) := cell_later (hck 1 _ rfl) hb
           have f2 : wr.cell? ⟨ba, off + k * 5 + 2, none⟩ = some (.string v.s) := cell_later (hck 2 _ rfl) hb
           have f3 : wr.cell? ⟨ba, off + k * 5 + 3, none⟩ = some (.slice v.la v.l.length v.lc) := cell_later (hck 3 _ rfl) hb
           have f4 : wr.cell? ⟨ba, off + k * 5 + 4, none⟩ = some (.slice v.ta v.t.length v.tc) := cell_later (hck 4 _ rfl) hb
           have HVK := Lib.hid hvk
           have HOK := Lib.hid (hok.later hb)
           clear hck hok hc hvk
           go_wp2_with fail
           refine (write_any v _ (HE.out.below hb hz) HOK.out hwk).mono ?_
           rintro e w3 ⟨rfl, b3⟩
           go_wp2_with fail
           go_roundw
           case rel => exact ⟨k + 1, by omega, by go_num, by rw [encs_snoc vs k hlt, ← HA.out, ← HVK.out]; simp [ba_app], hb.step b3⟩
           case measure => simp [RowKit.intOf]; omega)
      · have hkk : acc = encs vs := by rw [HA.out, List.take_of_length_le (by omega)]
        have HK := Lib.hid hkk
        clear hkk
        go_wp2_with fail
        refine (open_any _ _).mono ?_
        rintro e w3 ⟨rfl, h3⟩
        have O3 : Old w w3 := by rw [h3]; exact RowKit.Below.alloc hb hb.size _
        have I3 : IsR wr.heap.size (encs vs ++ tl) false w3 := by rw [h3, ← HK.out, ba_app]; exact fresh_R _ _
        have hbs := hb.size
        obtain ⟨rb, hrb⟩ : ∃ rb, rb = wr.heap.size := ⟨_, rfl⟩
        rw [← hrb] at I3 hbs
        rw [← hrb]
        clear h3 hb hrb
        go_wp2_with fail
        go_loopw [9] (fun i wr => ∃ j : Nat, j ≤ vs.length ∧ i = .int .i64 j ∧ Old w wr ∧ IsR rb (encs (vs.drop j) ++ tl) false wr) (fun i _ => vs.length - (RowKit.intOf i).toNat)
        case atStart => exact ⟨0, by omega, rfl, O3, I3⟩
        case round =>
          clear O3 I3
          obtain ⟨j, hj, rfl, hb, hir⟩ := hrel
          have HIR := Lib.hid hir
          clear hir
          by_cases hjt : j < vs.length
          · first
            | (exfalso; simp [h0.out] at hjt; done)
            | (obtain ⟨v, hvk⟩ : ∃ v, v = vs[j] := ⟨_, rfl⟩
               have hck := (hc j hjt).1
               have hok := (hc j hjt).2
               have hwk := weight_le HF.out.2 j hjt
               rw [← hvk] at hck hok hwk
               have f0 : wr.cell? ⟨ba, off + j * 5, none⟩ = some (.int .i64 v.kd) := cell_later (hck 0 _ rfl) hb
               have f1 : wr.cell? ⟨ba, off + j * 5 + 1, none⟩ = some (.int .i64 v.nn) := cell_later (hck 1 _ rfl) hb
               have f2 : wr.cell? ⟨ba, off + j * 5 + 2, none⟩ = some (.string v.s) := cell_later (hck 2 _ rfl) hb
               have f3 : wr.cell? ⟨ba, off + j * 5 + 3, none⟩ = some (.slice v.la v.l.length v.lc) := cell_later (hck 3 _ rfl) hb
               have f4 : wr.cell? ⟨ba, off + j * 5 + 4, none⟩ = some (.slice v.ta v.t.length v.tc) := cell_later (hck 4 _ rfl) hb
               have hen : encs (vs.drop j) ++ tl = v.enc ++ (encs (vs.drop (j + 1)) ++ tl) := by rw [encs_drop vs j hjt, ← hvk, List.append_assoc]
               have hle : (v.enc ++ (encs (vs.drop (j + 1)) ++ tl)).length ≤ 100000000 := by
                 rw [← hen, List.length_append]
                 have h1 := encs_len (vs := vs.drop j) 1000000 (fun v hv => hel.out v (List.mem_of_mem_drop hv))
                 have h2 : (vs.drop j).length ≤ 20 := by simp; omega
                 omega
               have HIR2 : Hid (IsR rb (v.enc ++ (encs (vs.drop (j + 1)) ++ tl)) false wr) := by unfold Hid; rw [← hen]; exact HIR.out
               have HLE := Lib.hid hle
               have HOK := Lib.hid hok
               clear hck hok hc hvk hen hle
               go_wp2_with fail
               refine (equal_any w rb v (encs (vs.drop (j + 1)) ++ tl) wr (HE.out.below hb hz) HOK.out hwk hb hbs hz HIR2.out HLE.out).mono ?_
               rintro e w4 ⟨rfl, o4, _, i4⟩
               go_wp2_with fail
               go_roundw
               case rel => exact ⟨j + 1, by omega, by go_num, o4, i4⟩
               case measure => simp [RowKit.intOf]; omega)
          · have hir : IsR rb tl false wr := by
              have := HIR.out
              rw [List.drop_of_length_le (by omega)] at this
              exact this
            clear hlt
            rcases htl : tl with _ | ⟨t1, t2⟩
            · subst htl
              go_wp2_with fail
              refine (left_any _ _ _ _ hir).mono ?_
              rintro e w4 ⟨rfl, rfl⟩
              go_wp2_with fail
              refine (done_any _ _ _ _ hir).mono ?_
              rintro e w4 ⟨rfl, rfl⟩
              go_wp2_with fail
              refine (rest_any _ _ _ _ hir).mono ?_
              rintro e w4 ⟨rfl, ho4, i4⟩
              have o4 : Old w w4 := below_on hb hbs ho4
              go_wp2_with fail
              refine (done_any _ _ _ _ i4).mono ?_
              rintro e w5 ⟨rfl, rfl⟩
              go_wp2_with fail
              refine (left_any _ _ _ _ i4).mono ?_
              rintro e w5 ⟨rfl, rfl⟩
              go_wp2_with fail
              go_ret
              exact ⟨rfl, o4⟩
            · rw [← htl]
              have hne : tl.isEmpty = false := by rw [htl]; rfl
              have hne2 : ¬ tl = [] := by rw [htl]; simp
              have HTL := Lib.hid htl
              clear htl
              go_wp2_with fail
              refine (left_any _ _ _ _ hir).mono ?_
              rintro e w4 ⟨rfl, rfl⟩
              go_wp2_with fail
              refine (done_any _ _ _ _ hir).mono ?_
              rintro e w4 ⟨rfl, rfl⟩
              go_wp2_with fail
              refine (rest_any _ _ _ _ hir).mono ?_
              rintro e w4 ⟨rfl, ho4, i4⟩
              have o4 : Old w w4 := below_on hb hbs ho4
              go_wp2_with fail
              refine (done_any _ _ _ _ i4).mono ?_
              rintro e w5 ⟨rfl, rfl⟩
              go_wp2_with fail
              refine (left_any _ _ _ _ i4).mono ?_
              rintro e w5 ⟨rfl, rfl⟩
              go_wp2_with fail
              go_ret
              exact ⟨rfl, o4⟩
end Go.Proofs.YtpcdogbioopdgaaDoor
