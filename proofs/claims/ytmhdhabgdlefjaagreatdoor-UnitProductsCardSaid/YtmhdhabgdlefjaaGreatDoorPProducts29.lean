/- Slices of the program's items; the contract of unit's split. The contracts of unit: Right, Mul, Div, To, From, for any arguments; those of its reference at arguments that are not valid. The contract of unit's multiply. -/
import Derived.Deep.LoopGhost
import Derived.Deep.CutRange
import Derived.Deep.CutBlock
import Derived.Test.YtmhdhabgdlefjaaGreatDoorPProducts28
import Derived.Test.YtmhdhabgdlefjaaGreatDoorPProducts24
import Derived.Test.YtmhdhabgdlefjaaGreatDoorPProducts21
set_option maxRecDepth 100000
namespace Go.Proofs.YtmhdhabgdlefjaaGreatDoor.Un
open Go.RowKit Dm

/-- The slice v has the items l, at the head of a block of its own if it has room for any. -/
def OwnJ (w : World) (v : Value) (l : List (List UInt8 × Int)) : Prop := Own w 67 2 v l.length (l.flatMap itc)
theorem OwnJ.nil (w : World) : OwnJ w (.slice none 0 0) [] := Own.nil w _ 2
theorem infoJt : (Tryz.prog.info? 67).map (fun i => (i.zero, i.size, i.bytes)) = some (some (.agg #[.string ⟨#[]⟩, .int .i64 0]), 2, 24) := by kernel_rfl
theorem OwnJ.snoc {w : World} {v : Value} {l : List (List UInt8 × Int)} (h : OwnJ w v l) (hl : l.length ≤ 1000000) (x : List UInt8 × Int) :
    ∃ a c w', (∀ ty, (Builtin.append_ #[63, 63] ty #[v, .slice (some ⟨w.heap.size, 0, none⟩) 1 1]).run Tryz.prog (w.alloc (.cells #[sv x.1, .int .i64 x.2] 67)) = .ok (.slice a (l.length + 1) c) w') ∧ OwnJ w' (.slice a (l.length + 1) c) (l ++ [x]) ∧
      (w.alloc (.cells #[sv x.1, .int .i64 x.2] 67)).grownBy w' (blk v) ∧ (blk (.slice a (l.length + 1) c) = none ∨ blk (.slice a (l.length + 1) c) = blk v ∨ blk (.slice a (l.length + 1) c) = some (w.heap.size + 1)) := by
  obtain ⟨i0, hi, hz0, hz1, hz2⟩ := info_parts infoJt
  have hown : Own (w.alloc (.cells #[sv x.1, .int .i64 x.2] 67)) 67 2 v l.length (l.flatMap itc) := Own.grown h (World.grownBy_alloc w _ none) (by cases hb : blk v <;> simp)
  have hsrc : Src Tryz.prog 2 63 (.slice (some ⟨w.heap.size, 0, none⟩) 1 1) 1 [sv x.1, .int .i64 x.2] (w.alloc (.cells #[sv x.1, .int .i64 x.2] 67)) :=
    Src.ofSlice _ Tryz.underlying63 _ 1 1 [sv x.1, .int .i64 x.2] (by simp) (World.news_of_block (cs := #[sv x.1, .int .i64 x.2]) (t := 67) (fr := (0, 0)) (alloc_at w _)) (by simp [Value.oneCell', sv])
  have hrun := fun ty => own_append (P := Tryz.prog) (t := 63) (tx := 63) (ty := ty) Tryz.underlying63 hi hz0 hz1 hz2 rfl hown hsrc (by unfold maxLen; omega) (by omega)
  obtain ⟨v', w', hr, h1, h2, h3⟩ := hrun 0
  obtain ⟨a, c, rfl, _, _⟩ := h1.shape
  refine ⟨a, c, w', fun ty => ?_, by unfold OwnJ; simpa [itc] using h1, h2, by simpa using h3⟩
  have : Builtin.append_ #[63, 63] ty #[v, .slice (some ⟨w.heap.size, 0, none⟩) 1 1] = Builtin.append_ #[63, 63] 0 #[v, .slice (some ⟨w.heap.size, 0, none⟩) 1 1] := rfl
  rw [this]; exact hr
theorem OwnJ.later {w w' : World} {v : Value} {l : List (List UInt8 × Int)} (h : OwnJ w v l) (hb : RowKit.Below w.heap.size w w') : OwnJ w' v l :=
  Dm.Own.grown h (Dm.grownBy_none hb) (by cases h' : Dm.blk v <;> simp)
/-- An item of the slice, in its cells. -/
theorem OwnJ.at {w : World} {a : Option Addr} {c : Nat} {l : List (List UInt8 × Int)} (h : OwnJ w (.slice a l.length c) l) {k : Nat} (hk : k < l.length) :
    ∃ g, a = some ⟨g, 0, none⟩ ∧ w.cell? ⟨g, k * 2, none⟩ = some (sv l[k].1) ∧ w.cell? ⟨g, k * 2 + 1, none⟩ = some (.int .i64 l[k].2) := by
  obtain ⟨g, hg, h0⟩ := Dm.Own.cell h (itc_get l k 0 hk _ rfl)
  obtain ⟨g', hg', h1⟩ := Dm.Own.cell h (itc_get l k 1 hk _ rfl)
  rw [hg] at hg'
  injection hg' with e
  injection e with e
  subst e
  exact ⟨g, hg, h0, h1⟩
theorem jt_at (g n c k : Nat) (hk : k < n) (_hn : n ≤ 1000) (W : World) : (Instr.indexAt 63 (.slice (some ⟨g, 0, none⟩) n c) (.int .i64 (k : Int))).run Tryz.prog W = .ok (.pointer (some ⟨g, k * 2, none⟩)) W := by
  have ha : (asIntOf (.int .i64 (k : Int))).run Tryz.prog W = .ok (IntKind.i64, (k : Int)) W := rfl
  obtain ⟨i0, hi, _, hs, _⟩ := info_parts infoJt
  simp [Instr.indexAt, run_underlying Tryz.underlying63, hk, ha, Addr.add, sizeOf, typeInfo, hi, hs]
  intro e; exact e.symm

/-- What split returns. -/
def SplitEnd (L : List UInt8) (w : World) (e : Ending) (w' : World) : Prop := match itemsL L with
  | none => e = .returned (.tuple #[.slice none 0 0, .bool false]) ∧ RowKit.Below w.heap.size w w'
  | some l => ∃ a c, e = .returned (.tuple #[.slice a l.length c, .bool true]) ∧ OwnJ w' (.slice a l.length c) l ∧ RowKit.Below w.heap.size w w' ∧ ∀ b, blk (.slice a l.length c) = some b → w.heap.size ≤ b
theorem sp_none {L : List UInt8} {w w' : World} {e : Ending} (h : itemsL L = none) (he : e = .returned (.tuple #[.slice none 0 0, .bool false])) (hb : RowKit.Below w.heap.size w w') : SplitEnd L w e w' := by
  unfold SplitEnd; rw [h]; exact ⟨he, hb⟩
theorem sp_some {L : List UInt8} {w w' : World} {e : Ending} {l : List (List UInt8 × Int)} {a : Option Addr} {c : Nat} (h : itemsL L = some l) (he : e = .returned (.tuple #[.slice a l.length c, .bool true])) (ho : OwnJ w' (.slice a l.length c) l) (hb : RowKit.Below w.heap.size w w')
    (hn : ∀ b, blk (.slice a l.length c) = some b → w.heap.size ≤ b) : SplitEnd L w e w' := by
  unfold SplitEnd; rw [h]; exact ⟨a, c, he, ho, hb, hn⟩
/-- What holds in the loop. -/
structure Jm (w : World) (S R : List UInt8) (l : List (List UInt8 × Int)) (v : Value) (wr : World) : Prop where
  own : OwnJ wr v l
  below : RowKit.Below w.heap.size w wr
  new : ∀ b, blk v = some b → w.heap.size ≤ b
  eq : itemsL S = (tailL R).map (l ++ ·)
  len : l.length + R.length ≤ 41
theorem Jm.later {w wr w' : World} {S R : List UInt8} {l : List (List UInt8 × Int)} {v : Value} (h : Jm w S R l v wr) (hb : RowKit.Below wr.heap.size wr w') : Jm w S R l v w' :=
  ⟨Own.grown h.own (grownBy_none hb) (by cases h' : blk v <;> simp), h.below.trans (hb.mono h.below.size), h.new, h.eq, h.len⟩
theorem Jm.snoc {w wr w' : World} {S L r v : List UInt8} {n : Nat} {m : Int} {c : UInt8} {l : List (List UInt8 × Int)} {u u' : Value} {B : Nat} (h : Jm w S (c :: L) l u wr) (hc : signB c = true) (hi : itemL L = some ((v, n), r)) (hm : m = if c = 47 then -(n : Int) else (n : Int))
    (ho : OwnJ w' u' (l ++ [(v, m)])) (hg : (wr.alloc (.cells #[sv v, .int .i64 m] 67)).grownBy w' (blk u)) (hB : B = wr.heap.size + 1) (hb : blk u' = none ∨ blk u' = blk u ∨ blk u' = some B) : Jm w S r (l ++ [(v, m)]) u' w' := by
  have hl := item_len hi
  refine ⟨ho, ?_, fun b e => ?_, ?_, by have := h.len; simp at this ⊢; omega⟩
  · exact (h.below.alloc h.below.size _).grown hg (by simp; exact Nat.le_succ_of_le h.below.size) (fun b e => h.new b e)
  · rcases hb with hb | hb | hb
    · rw [hb] at e; cases e
    · rw [hb] at e; exact h.new b e
    · rw [hb] at e; injection e with e; have := h.below.size; omega
  · rw [h.eq, tailL_some hc hi, Option.map_map, ← hm]
    congr 1
    funext t
    simp
def lenOf : Value → Nat
  | .string s => s.size
  | _ => 0
theorem sl_run (s : ByteArray) (q : Nat) (h : q ≤ s.size) (W : World) : (Instr.slice 9 (.string s) (some (.int .i64 (q : Int))) none none).run Tryz.prog W = .ok (.string (s.extract q s.size)) W := by
  rw [run_slice_string_l _ _ _ Tryz.underlying9 .i64 (q : Int) (by omega) (by omega)]
  rfl
theorem ext_rest (s : ByteArray) (q : Nat) (h : q ≤ s.size) : (s.extract q s.size).data.toList = s.data.toList.drop q := by
  have := ext_take s q (s.size - q)
  rw [show q + (s.size - q) = s.size by omega] at this
  rw [this]
  show (s.data.toList.drop q).take (s.size - q) = _
  rw [List.take_of_length_le]; rw [List.length_drop, sizeL]; omega
theorem rest_drop {c : UInt8} {L r : List UInt8} {x : List UInt8 × Nat} (h : itemL L = some (x, r)) : (c :: L).drop (L.length + 1 - r.length) = r ∧ r.length < L.length := by
  obtain ⟨d, hd⟩ := item_suffix h
  refine ⟨?_, item_len h⟩
  have h1 : L.length = d.length + r.length := by rw [hd, List.length_append]
  rw [show L.length + 1 - r.length = d.length + 1 by omega, List.drop_succ_cons, hd, List.drop_left]

set_option maxHeartbeats 1000000 in
theorem split_empty (w : World) : Calls Tryz.prog 35 #[.string ⟨#[]⟩] w (SplitEnd [] w) := by
  go_enter Tryz.func35, Tryz.ntmps35
  go_wp2_with fail
  go_ret2
  exact sp_some (l := []) rfl rfl (OwnJ.nil w) (Below.refl _ _) (fun b h => (by cases h))
set_option maxHeartbeats 1000000 in
theorem split_long (s : ByteArray) (h0 : 40 < s.size) (w : World) : Calls Tryz.prog 35 #[.string s] w (SplitEnd s.data.toList w) := by
  obtain ⟨g0, g1, g2, g3, g4⟩ := str_empty s false true (by
    rw [decide_eq_false_iff_not]; intro e; have h3 := sizeL s; rw [e] at h3; simp at h3; omega) rfl
  have g40 : decide (40 < s.size) = true := by simp; omega
  have g40' : decide (40 < (s.size : Int)) = true := by simp; omega
  have HV : Hid (itemsL s.data.toList = none) := Lib.hid (by unfold itemsL; rw [if_pos (by rw [sizeL]; exact h0)])
  go_enter Tryz.func35, Tryz.ntmps35
  go_wp2_with fail
  go_ret2
  exact sp_none HV.out rfl (Below.refl _ _)

set_option maxHeartbeats 8000000 in
theorem split_one (s : ByteArray) (hs : s.size ≤ 40) (h0 : 0 < s.size) (h49 : s.data.toList.head? = some 49) (w : World) : Calls Tryz.prog 35 #[.string s] w (SplitEnd s.data.toList w) := by
  obtain ⟨g0, g1, g2, g3, g4⟩ := str_empty s false true (by
    rw [decide_eq_false_iff_not]; intro e; have h3 := sizeL s; rw [e] at h3; simp at h3; omega) rfl
  have g40 : decide (40 < s.size) = false := by simp; omega
  have g40' : decide (40 < (s.size : Int)) = false := by simp; omega
  have hsl := sizeL s
  obtain ⟨y, Y, hy⟩ : ∃ y Y, s.data.toList = y :: Y := by
    cases h : s.data.toList with
    | nil => rw [h] at hsl; simp at hsl; omega
    | cons y Y => exact ⟨y, Y, rfl⟩
  have hcp := fun W => Tryz.strings_CutPrefix s ⟨#[49]⟩ W
  obtain rfl : y = 49 := by rw [hy] at h49; simpa using h49
  have hp1 : Lib.hasPrefix s.data.toList (⟨#[49]⟩ : ByteArray).data.toList = true := by rw [hy]; rfl
  have hp2 : Lib.trimPrefix s.data.toList (⟨#[49]⟩ : ByteArray).data.toList = Y := by unfold Lib.trimPrefix; rw [if_pos hp1, hy]; rfl
  have HEQ : Hid (itemsL s.data.toList = (tailL Y).map ([] ++ ·)) := Lib.hid (by
    unfold itemsL
    rw [if_neg (by omega), hy]
    simp)
  rw [hp1, hp2] at hcp
  obtain ⟨R0, hR0⟩ : ∃ R0 : ByteArray, (⟨Y.toArray⟩ : ByteArray) = R0 := ⟨_, rfl⟩
  rw [hR0] at hcp
  have HR0 : Hid (R0.data.toList = Y) := Lib.hid (by rw [← hR0])
  have HRS : Hid (R0.size ≤ 41) := Lib.hid (by rw [← sizeL, HR0.out]; rw [hy] at hsl; simp at hsl; omega)
  have HST : Hid (Jm w s.data.toList R0.data.toList [] (.slice none 0 0) w) := Lib.hid ⟨OwnJ.nil w, Below.refl _ _, fun b h => (by cases h), by rw [HR0.out]; exact HEQ.out, by rw [sizeL]; simpa using HRS.out⟩
  have HCP := Lib.hid hcp
  clear hcp hp1 hp2 hy hR0 hsl h49
  go_enter Tryz.func35, Tryz.ntmps35
  go_wp2_with fail
  refine (HCP.out _).mono ?_
  rintro e w1 ⟨rfl, hw1⟩
  rw [hw1]
  clear hw1 w1
  go_wp2_with fail
  go_loopw [4, 6] (fun r v wr => ∃ (R : ByteArray) (l : List (List UInt8 × Int)) (a : Option Addr) (c : Nat), r = .string R ∧ v = .slice a l.length c ∧ R.size ≤ 41 ∧ Jm w s.data.toList R.data.toList l (.slice a l.length c) wr) (fun r _ _ => lenOf r)
  case atStart => exact ⟨R0, [], none, 0, rfl, rfl, HRS.out, HST.out⟩
  case round =>
    obtain ⟨R, l, a, c, rfl, rfl, hR, hI⟩ := hrel
    have HI := Lib.hid hI
    have HRS := Lib.hid (sizeL R)
    rcases hRl : R.data.toList with _ | ⟨x, L⟩
    · obtain ⟨m1, m2, m3, m4, m5⟩ := str_empty R true false (by rw [hRl]; rfl) rfl
      have HV : Hid (itemsL s.data.toList = some l) := Lib.hid (by have := HI.out.eq; rw [hRl, tailL_nil] at this; rw [this]; simp)
      clear hI hRl hR
      go_wp2_with fail
      go_ret2
      exact sp_some HV.out rfl HI.out.own HI.out.below HI.out.new
    · obtain ⟨m1, m2, m3, m4, m5⟩ := str_empty R false true (by rw [hRl]; rfl) rfl
      rw [hRl] at HI HRS
      have HSP : Hid (Calls Tryz.prog 66 #[.string R] wr (Gives (readItemV x L) wr)) := Lib.hid (readitem_any R hRl (by omega) wr)
      by_cases hc : signB x = true ∧ itemL L ≠ none
      · obtain ⟨hc, hit⟩ := hc
        rcases hit2 : itemL L with _ | ⟨⟨v, n⟩, r⟩
        · exact absurd hit2 hit
        have HIT := Lib.hid hit2
        have HC := Lib.hid hc
        obtain ⟨m, hm⟩ : ∃ m : Int, (if x = 47 then -(n : Int) else (n : Int)) = m := ⟨_, rfl⟩
        have hsv : readItemV x L = riV v m ((L.length : Int) + 1 - r.length) := by unfold readItemV; rw [hc, hit2, ← hm]; rfl
        rw [hsv] at HSP
        have HM := Lib.hid hm.symm
        obtain ⟨V, hV⟩ : ∃ V : ByteArray, (⟨v.toArray⟩ : ByteArray) = V := ⟨_, rfl⟩
        have HVV : Hid (sv v = .string V) := Lib.hid (by unfold sv; rw [hV])
        obtain ⟨hrd, hrl⟩ := rest_drop (c := x) hit2
        obtain ⟨q, hq⟩ : ∃ q : Nat, L.length + 1 - r.length = q := ⟨_, rfl⟩
        have hsz : R.size = L.length + 1 := by have := HRS.out; simp at this; omega
        have HQL : Hid (1 < q ∧ q ≤ R.size ∧ (R.extract q R.size).size < R.size ∧ (R.extract q R.size).size ≤ 41) := Lib.hid (by
          have h1 := sizeL (R.extract q R.size)
          rw [ext_rest R q (by omega), hRl, ← hq, hrd] at h1
          rw [hq] at h1
          omega)
        rw [show ((L.length : Int) + 1 - r.length) = (q : Int) by omega] at HSP
        have hsl := sl_run R q (by omega)
        have HER : Hid ((R.extract q R.size).data.toList = r) := Lib.hid (by rw [ext_rest R q (by omega), hRl, ← hq]; exact hrd)
        obtain ⟨R2, hR2⟩ : ∃ R2, R.extract q R.size = R2 := ⟨_, rfl⟩
        rw [hR2] at hsl HER HQL
        unfold riV at HSP
        rw [HVV.out] at HSP
        have gq : ((q : Int) == 0) = false := by rw [beq_eq_false_iff_ne]; omega
        clear hI hc hit hit2 hV hrd hrl hq hsv hm hR2 hRl hsz hR
        go_wp2_with fail
        refine HSP.out.mono ?_
        rintro e w5 ⟨rfl, hb5⟩
        have HP5 : Hid (Jt (w5.alloc (.cells #[.string ⟨#[]⟩, .int .i64 0] 67)) w5.heap.size (.string ⟨#[]⟩) 0) := Lib.hid (heap_alloc_new w5 _)
        have HP7 := Lib.hid (HP5.out.row (.string V) m)
        have HI7 : Hid (Jm w s.data.toList (x :: L) l (.slice a l.length c) ((w5.alloc (.cells #[.string ⟨#[]⟩, .int .i64 0] 67)).setRow w5.heap.size #[.string V, .int .i64 m])) := Lib.hid ((HI.out.later hb5).later (below_row (below_alloc w5 (.cells #[.string ⟨#[]⟩, .int .i64 0] 67)) (b := w5.heap.size) (Nat.le_refl _) _))
        clear hb5
        go_upto_region 13 with (first | refine wpList_store_row rfl _ _ _ rfl _ _ rfl rfl _ _ HP5.out (infoJ _ _) rfl (by simp [Value.oneCell']) ?_ | fail)
        obtain ⟨W1, hW1⟩ : ∃ W, ((w5.alloc (.cells #[.string ⟨#[]⟩, .int .i64 0] 67)).setRow w5.heap.size #[.string V, .int .i64 m]) = W := ⟨_, rfl⟩
        rw [hW1] at HI7 HP7 ⊢
        obtain ⟨b1, hb1⟩ : ∃ b, w5.heap.size = b := ⟨_, rfl⟩
        rw [hb1] at HP7 ⊢
        obtain ⟨a5, c5, w6, hrun, ho, hg, hb⟩ := HI7.out.own.snoc (by have := HI7.out.len; omega) (v, m)
        rw [HVV.out] at hrun
        have HN := Lib.hid (HI7.out.snoc HC.out HIT.out HM.out ho hg rfl hb)
        clear ho hg hb hW1 hb1 HP5
        go_wp2_with (first | refine wpList_load_row rfl _ _ rfl _ rfl _ _ _ _ HP7.out Tryz.underlying67 rfl (infoJ _ _) ?_ | (at_builtin; refine Lib.wpList_append_run _ rfl _ _ _ _ rfl _ _ rfl rfl _ _ (hrun _) ?_))
        clear hrun
        go_roundw
        case rel => exact ⟨R2, l ++ [(v, m)], a5, c5, rfl, by simp, HQL.out.2.2.2, by rw [HER.out]; simpa using HN.out⟩
        case measure => exact HQL.out.2.2.1
      · have HV : Hid (itemsL s.data.toList = none) := Lib.hid (by
          rw [HI.out.eq]
          rcases hs : signB x with _ | _
          · rw [tailL_bad hs]; rfl
          · rcases hit : itemL L with _ | y
            · rw [tailL_none hit]; rfl
            · exact absurd ⟨hs, by rw [hit]; simp⟩ hc)
        have hsv : readItemV x L = riV [] 0 0 := by
          unfold readItemV
          rcases hs : signB x with _ | _
          · rfl
          · rcases hit : itemL L with _ | y
            · rfl
            · exact absurd ⟨hs, by rw [hit]; simp⟩ hc
        rw [hsv] at HSP
        unfold riV sv at HSP
        have HBW := Lib.hid HI.out.below
        clear hI hc hsv hRl hR
        go_wp2_with fail
        refine HSP.out.mono ?_
        rintro e w5 ⟨rfl, hb5⟩
        have HB5 := Lib.hid (HBW.out.trans (hb5.mono HBW.out.size))
        have HP5 : Hid (Jt (w5.alloc (.cells #[.string ⟨#[]⟩, .int .i64 0] 67)) w5.heap.size (.string ⟨#[]⟩) 0) := Lib.hid (heap_alloc_new w5 _)
        have HB6 := Lib.hid (fun (c : Array Value) => below_row (HB5.out.alloc HB5.out.size (.cells #[.string ⟨#[]⟩, .int .i64 0] 67)) (b := w5.heap.size) HB5.out.size c)
        clear hb5
        go_wp2_with (first | refine wpList_store_row rfl _ _ _ rfl _ #[.string ⟨#[]⟩, .int .i64 0] rfl rfl _ _ HP5.out (infoJ _ _) rfl (by simp [Value.oneCell']) ?_)
        all_goals (go_ret2; first | exact sp_none HV.out rfl (HB6.out _) | exact sp_none HV.out rfl (HB5.out.alloc HB5.out.size _))

set_option maxHeartbeats 8000000 in
theorem split_item (s : ByteArray) (hs : s.size ≤ 40) (h0 : 0 < s.size) (h49 : s.data.toList.head? ≠ some 49) (w : World) : Calls Tryz.prog 35 #[.string s] w (SplitEnd s.data.toList w) := by
  obtain ⟨g0, g1, g2, g3, g4⟩ := str_empty s false true (by
    rw [decide_eq_false_iff_not]; intro e; have h3 := sizeL s; rw [e] at h3; simp at h3; omega) rfl
  have g40 : decide (40 < s.size) = false := by simp; omega
  have g40' : decide (40 < (s.size : Int)) = false := by simp; omega
  have hsl := sizeL s
  obtain ⟨y, Y, hy⟩ : ∃ y Y, s.data.toList = y :: Y := by
    cases h : s.data.toList with
    | nil => rw [h] at hsl; simp at hsl; omega
    | cons y Y => exact ⟨y, Y, rfl⟩
  have hcp := fun W => Tryz.strings_CutPrefix s ⟨#[49]⟩ W
  have hy2 : y ≠ 49 := fun e => h49 (by rw [hy, e]; rfl)
  have hp1 : Lib.hasPrefix s.data.toList (⟨#[49]⟩ : ByteArray).data.toList = false := by
    rw [hy]
    show List.isPrefixOf [49] (y :: Y) = false
    simp [List.isPrefixOf]
    exact fun e => hy2 e.symm
  have hp2 : Lib.trimPrefix s.data.toList (⟨#[49]⟩ : ByteArray).data.toList = s.data.toList := by unfold Lib.trimPrefix; rw [if_neg (by rw [hp1]; decide)]
  have HEQ : Hid (itemsL s.data.toList = (tailL (42 :: s.data.toList)).map ([] ++ ·)) := Lib.hid (by
    rw [items_star (by omega) (by rw [hy]; simpa using hy2) (by rw [hy]; simp)]
    simp)
  rw [hp1, hp2] at hcp
  have hs2 : (⟨s.data.toList.toArray⟩ : ByteArray) = s := by apply ByteArray.ext; simp
  rw [hs2] at hcp
  have hadd : ∀ W : World, (Op.stringOp .add ⟨#[42]⟩ s).run Tryz.prog W = .ok (.string ⟨(42 :: s.data.toList).toArray⟩) W := fun W => by
    have := run_string_add_lists (P := Tryz.prog) (w := W) [42] s.data.toList (by decide) (by omega)
    rw [hs2] at this; exact this
  obtain ⟨R0, hR0⟩ : ∃ R0 : ByteArray, (⟨(42 :: s.data.toList).toArray⟩ : ByteArray) = R0 := ⟨_, rfl⟩
  rw [hR0] at hadd
  have HR0 : Hid (R0.data.toList = 42 :: s.data.toList) := Lib.hid (by rw [← hR0])
  have HRS : Hid (R0.size ≤ 41) := Lib.hid (by rw [← sizeL, HR0.out]; simp; omega)
  have HST : Hid (Jm w s.data.toList R0.data.toList [] (.slice none 0 0) w) := Lib.hid ⟨OwnJ.nil w, Below.refl _ _, fun b h => (by cases h), by rw [HR0.out]; exact HEQ.out, by rw [sizeL]; simpa using HRS.out⟩
  have HCP := Lib.hid hcp
  clear hcp hp1 hp2 hy hR0 hsl h49 hs2 hy2
  go_enter Tryz.func35, Tryz.ntmps35
  go_wp2_with fail
  refine (HCP.out _).mono ?_
  rintro e w1 ⟨rfl, hw1⟩
  rw [hw1]
  clear hw1 w1
  go_wp2_with fail
  go_loopw [4, 6] (fun r v wr => ∃ (R : ByteArray) (l : List (List UInt8 × Int)) (a : Option Addr) (c : Nat), r = .string R ∧ v = .slice a l.length c ∧ R.size ≤ 41 ∧ Jm w s.data.toList R.data.toList l (.slice a l.length c) wr) (fun r _ _ => lenOf r)
  case atStart => exact ⟨R0, [], none, 0, rfl, rfl, HRS.out, HST.out⟩
  case round =>
    obtain ⟨R, l, a, c, rfl, rfl, hR, hI⟩ := hrel
    have HI := Lib.hid hI
    have HRS := Lib.hid (sizeL R)
    rcases hRl : R.data.toList with _ | ⟨x, L⟩
    · obtain ⟨m1, m2, m3, m4, m5⟩ := str_empty R true false (by rw [hRl]; rfl) rfl
      have HV : Hid (itemsL s.data.toList = some l) := Lib.hid (by have := HI.out.eq; rw [hRl, tailL_nil] at this; rw [this]; simp)
      clear hI hRl hR
      go_wp2_with fail
      go_ret2
      exact sp_some HV.out rfl HI.out.own HI.out.below HI.out.new
    · obtain ⟨m1, m2, m3, m4, m5⟩ := str_empty R false true (by rw [hRl]; rfl) rfl
      rw [hRl] at HI HRS
      have HSP : Hid (Calls Tryz.prog 66 #[.string R] wr (Gives (readItemV x L) wr)) := Lib.hid (readitem_any R hRl (by omega) wr)
      by_cases hc : signB x = true ∧ itemL L ≠ none
      · obtain ⟨hc, hit⟩ := hc
        rcases hit2 : itemL L with _ | ⟨⟨v, n⟩, r⟩
        · exact absurd hit2 hit
        have HIT := Lib.hid hit2
        have HC := Lib.hid hc
        obtain ⟨m, hm⟩ : ∃ m : Int, (if x = 47 then -(n : Int) else (n : Int)) = m := ⟨_, rfl⟩
        have hsv : readItemV x L = riV v m ((L.length : Int) + 1 - r.length) := by unfold readItemV; rw [hc, hit2, ← hm]; rfl
        rw [hsv] at HSP
        have HM := Lib.hid hm.symm
        obtain ⟨V, hV⟩ : ∃ V : ByteArray, (⟨v.toArray⟩ : ByteArray) = V := ⟨_, rfl⟩
        have HVV : Hid (sv v = .string V) := Lib.hid (by unfold sv; rw [hV])
        obtain ⟨hrd, hrl⟩ := rest_drop (c := x) hit2
        obtain ⟨q, hq⟩ : ∃ q : Nat, L.length + 1 - r.length = q := ⟨_, rfl⟩
        have hsz : R.size = L.length + 1 := by have := HRS.out; simp at this; omega
        have HQL : Hid (1 < q ∧ q ≤ R.size ∧ (R.extract q R.size).size < R.size ∧ (R.extract q R.size).size ≤ 41) := Lib.hid (by
          have h1 := sizeL (R.extract q R.size)
          rw [ext_rest R q (by omega), hRl, ← hq, hrd] at h1
          rw [hq] at h1
          omega)
        rw [show ((L.length : Int) + 1 - r.length) = (q : Int) by omega] at HSP
        have hsl := sl_run R q (by omega)
        have HER : Hid ((R.extract q R.size).data.toList = r) := Lib.hid (by rw [ext_rest R q (by omega), hRl, ← hq]; exact hrd)
        obtain ⟨R2, hR2⟩ : ∃ R2, R.extract q R.size = R2 := ⟨_, rfl⟩
        rw [hR2] at hsl HER HQL
        unfold riV at HSP
        rw [HVV.out] at HSP
        have gq : ((q : Int) == 0) = false := by rw [beq_eq_false_iff_ne]; omega
        clear hI hc hit hit2 hV hrd hrl hq hsv hm hR2 hRl hsz hR
        go_wp2_with fail
        refine HSP.out.mono ?_
        rintro e w5 ⟨rfl, hb5⟩
        have HP5 : Hid (Jt (w5.alloc (.cells #[.string ⟨#[]⟩, .int .i64 0] 67)) w5.heap.size (.string ⟨#[]⟩) 0) := Lib.hid (heap_alloc_new w5 _)
        have HP7 := Lib.hid (HP5.out.row (.string V) m)
        have HI7 : Hid (Jm w s.data.toList (x :: L) l (.slice a l.length c) ((w5.alloc (.cells #[.string ⟨#[]⟩, .int .i64 0] 67)).setRow w5.heap.size #[.string V, .int .i64 m])) := Lib.hid ((HI.out.later hb5).later (below_row (below_alloc w5 (.cells #[.string ⟨#[]⟩, .int .i64 0] 67)) (b := w5.heap.size) (Nat.le_refl _) _))
        clear hb5
        go_upto_region 13 with (first | refine wpList_store_row rfl _ _ _ rfl _ _ rfl rfl _ _ HP5.out (infoJ _ _) rfl (by simp [Value.oneCell']) ?_ | fail)
        obtain ⟨W1, hW1⟩ : ∃ W, ((w5.alloc (.cells #[.string ⟨#[]⟩, .int .i64 0] 67)).setRow w5.heap.size #[.string V, .int .i64 m]) = W := ⟨_, rfl⟩
        rw [hW1] at HI7 HP7 ⊢
        obtain ⟨b1, hb1⟩ : ∃ b, w5.heap.size = b := ⟨_, rfl⟩
        rw [hb1] at HP7 ⊢
        obtain ⟨a5, c5, w6, hrun, ho, hg, hb⟩ := HI7.out.own.snoc (by have := HI7.out.len; omega) (v, m)
        rw [HVV.out] at hrun
        have HN := Lib.hid (HI7.out.snoc HC.out HIT.out HM.out ho hg rfl hb)
        clear ho hg hb hW1 hb1 HP5
        go_wp2_with (first | refine wpList_load_row rfl _ _ rfl _ rfl _ _ _ _ HP7.out Tryz.underlying67 rfl (infoJ _ _) ?_ | (at_builtin; refine Lib.wpList_append_run _ rfl _ _ _ _ rfl _ _ rfl rfl _ _ (hrun _) ?_))
        clear hrun
        go_roundw
        case rel => exact ⟨R2, l ++ [(v, m)], a5, c5, rfl, by simp, HQL.out.2.2.2, by rw [HER.out]; simpa using HN.out⟩
        case measure => exact HQL.out.2.2.1
      · have HV : Hid (itemsL s.data.toList = none) := Lib.hid (by
          rw [HI.out.eq]
          rcases hs : signB x with _ | _
          · rw [tailL_bad hs]; rfl
          · rcases hit : itemL L with _ | y
            · rw [tailL_none hit]; rfl
            · exact absurd ⟨hs, by rw [hit]; simp⟩ hc)
        have hsv : readItemV x L = riV [] 0 0 := by
          unfold readItemV
          rcases hs : signB x with _ | _
          · rfl
          · rcases hit : itemL L with _ | y
            · rfl
            · exact absurd ⟨hs, by rw [hit]; simp⟩ hc
        rw [hsv] at HSP
        unfold riV sv at HSP
        have HBW := Lib.hid HI.out.below
        clear hI hc hsv hRl hR
        go_wp2_with fail
        refine HSP.out.mono ?_
        rintro e w5 ⟨rfl, hb5⟩
        have HB5 := Lib.hid (HBW.out.trans (hb5.mono HBW.out.size))
        have HP5 : Hid (Jt (w5.alloc (.cells #[.string ⟨#[]⟩, .int .i64 0] 67)) w5.heap.size (.string ⟨#[]⟩) 0) := Lib.hid (heap_alloc_new w5 _)
        have HB6 := Lib.hid (fun (c : Array Value) => below_row (HB5.out.alloc HB5.out.size (.cells #[.string ⟨#[]⟩, .int .i64 0] 67)) (b := w5.heap.size) HB5.out.size c)
        clear hb5
        go_wp2_with (first | refine wpList_store_row rfl _ _ _ rfl _ #[.string ⟨#[]⟩, .int .i64 0] rfl rfl _ _ HP5.out (infoJ _ _) rfl (by simp [Value.oneCell']) ?_)
        all_goals (go_ret2; first | exact sp_none HV.out rfl (HB6.out _) | exact sp_none HV.out rfl (HB5.out.alloc HB5.out.size _))
theorem splitP_any (s : ByteArray) (w : World) : Calls Tryz.prog 35 #[.string s] w (SplitEnd s.data.toList w) := by
  by_cases h : 40 < s.size
  · exact split_long s h w
  · by_cases h0 : 0 < s.size
    · by_cases h49 : s.data.toList.head? = some 49
      · exact split_one s (by omega) h0 h49 w
      · exact split_item s (by omega) h0 h49 w
    · have e : s = ⟨#[]⟩ := by
        apply ByteArray.ext
        apply Array.ext'
        have := sizeL s
        exact List.eq_nil_of_length_eq_zero (by omega)
      subst e
      exact split_empty w
end Go.Proofs.YtmhdhabgdlefjaaGreatDoor.Un

namespace Go.Proofs.YtmhdhabgdlefjaaGreatDoor.Un
open Go.RowKit Bi Dm

/-- A unit's Right, for any cells. -/
def uR (f : Nat → Int) (s : Int) (l : List Int) (t : Int) (k : List Int) : Bool := ok f && (fRightB s l t k && decide (0 < s))
theorem uR_is {f : Nat → Int} {r : Rat} : uR f r.num.sign (digs r.num.natAbs) 1 (digs (r.den : Int).natAbs) = (ok f && decide (0 < r.num.sign)) := by
  unfold uR; rw [fright_is, Bool.true_and]
theorem fsign_any {w : World} {s t : Int} {a b : Option Addr} {n c m d : Nat} {l k : List Int} (hl : Ints w (.slice a n c) l) (hk : Ints w (.slice b m d) k) (ll : l.length ≤ 1000) (lk : k.length ≤ 1000) :
    Calls Tryz.prog 50 #[.agg #[.int .i64 s, .slice a n c, .int .i64 t, .slice b m d]] w fun e w' => e = .returned (.int .i64 (if fRightB s l t k then s else 0)) ∧ RowKit.Below w.heap.size w w' := by
  rcases h : fRightB s l t k with _ | _
  · exact fsign_bad s a n c l t b m d k w hl hk (by omega) (by omega) h
  · obtain ⟨r, rfl, rfl, rfl, rfl⟩ := fright_of h
    exact fsign_k (⟨⟨rfl, hl⟩, ⟨(den_sign r).symm, hk⟩⟩ : Fr w _ _ _ r) ⟨Sz.of ll, Sz.of lk⟩
set_option maxHeartbeats 8000000 in
theorem uright_raw {w : World} {f : Nat → Int} {s1 t1 : Int} {a1 b1 : Option Addr} {n1 c1 m1 d1 : Nat} {l1 k1 : List Int} (hl1 : Ints w (.slice a1 n1 c1) l1) (hk1 : Ints w (.slice b1 m1 d1) k1) (ll1 : l1.length ≤ 1000) (lk1 : k1.length ≤ 1000) {r : Bool} (hr : uR f s1 l1 t1 k1 = r) :
    Calls Tryz.prog 22 #[.agg #[.int .i64 (f 0), .int .i64 (f 1), .int .i64 (f 2), .int .i64 (f 3), .int .i64 (f 4), .int .i64 (f 5), .int .i64 s1, .slice a1 n1 c1, .int .i64 t1, .slice b1 m1 d1]] w fun e w' => e = .returned (.bool r) ∧ RowKit.Below w.heap.size w w' := by
  have HD := Lib.hid (fun W => rightG f W)
  unfold uR at hr
  rcases ho : ok f with _ | _
  · rw [ho] at HD hr
    have LL1 := Lib.hid ll1
    have LK1 := Lib.hid lk1
    obtain rfl : false = r := hr
    have s0 := ((((Sf.start w).arg hk1).arg hl1).put [.int .i64 (f 0), .int .i64 (f 1), .int .i64 (f 2), .int .i64 (f 3), .int .i64 (f 4), .int .i64 (f 5), .int .i64 s1, .slice a1 n1 c1, .int .i64 t1, .slice b1 m1 d1] 30)
    try simp only [World.size_alloc] at s0
    have S0 := Lib.hid s0
    clear s0
    clear hl1 hk1 ll1 lk1 ho
    go_enter Tryz.func22, Tryz.ntmps22
    go_wp2_with fail
    refine (HD.out _).mono ?_
    rintro e w1 ⟨rfl, hb⟩
    have R1 := Lib.hid (S0.out.later hb)
    clear hb
    go_wp2_with fail
    go_ret
    exact ⟨rfl, R1.out.below⟩
  · rw [ho] at HD hr
    rcases hq : fRightB s1 l1 t1 k1 with _ | _
    · rw [hq] at hr
      have LL1 := Lib.hid ll1
      have LK1 := Lib.hid lk1
      have HQ := Lib.hid hq
      obtain rfl : false = r := hr
      have s0 := ((((Sf.start w).arg hk1).arg hl1).put [.int .i64 (f 0), .int .i64 (f 1), .int .i64 (f 2), .int .i64 (f 3), .int .i64 (f 4), .int .i64 (f 5), .int .i64 s1, .slice a1 n1 c1, .int .i64 t1, .slice b1 m1 d1] 30)
      try simp only [World.size_alloc] at s0
      have S0 := Lib.hid s0
      clear s0
      clear hl1 hk1 ll1 lk1 ho hq
      have HS : Hid (∀ W, RowKit.Below w.heap.size w W → Ints W (.slice a1 n1 c1) l1 → Ints W (.slice b1 m1 d1) k1 → Calls Tryz.prog 50 #[.agg #[.int .i64 s1, .slice a1 n1 c1, .int .i64 t1, .slice b1 m1 d1]] W fun e w' => e = .returned (.int .i64 0) ∧ RowKit.Below W.heap.size W w') := Lib.hid (fun W _ h1 h2 => by
        have := fsign_any (w := W) (s := s1) (t := t1) h1 h2 LL1.out LK1.out
        rw [HQ.out] at this; exact this)
      go_enter Tryz.func22, Tryz.ntmps22
      go_wp2_with fail
      refine (HD.out _).mono ?_
      rintro e w1 ⟨rfl, hb⟩
      have R1 := Lib.hid (S0.out.later hb)
      clear hb
      obtain ⟨q1, q2, q3, q4, q5, q6, q7, q8, q9, q10⟩ := Fb.cells10 (R1.out.box (w.heap.size, 30, [.int .i64 (f 0), .int .i64 (f 1), .int .i64 (f 2), .int .i64 (f 3), .int .i64 (f 4), .int .i64 (f 5), .int .i64 s1, .slice a1 n1 c1, .int .i64 t1, .slice b1 m1 d1]) mq0)
      go_wp2_with fail
      clear q1 q2 q3 q4 q5 q6 q7 q8 q9 q10
      refine (HS.out _ R1.out.below (R1.out.ints (.slice a1 n1 c1, l1) mq0) (R1.out.ints (.slice b1 m1 d1, k1) mq1)).mono ?_
      rintro e w2 ⟨rfl, hb⟩
      have R2 := Lib.hid (R1.out.later hb)
      clear hb
      go_wp2_with fail
      go_ret
      exact ⟨rfl, R2.out.below⟩
    · rw [hq] at hr
      have LL1 := Lib.hid ll1
      have LK1 := Lib.hid lk1
      have HQ := Lib.hid hq
      obtain rfl : decide (0 < s1) = r := by simpa using hr
      have s0 := ((((Sf.start w).arg hk1).arg hl1).put [.int .i64 (f 0), .int .i64 (f 1), .int .i64 (f 2), .int .i64 (f 3), .int .i64 (f 4), .int .i64 (f 5), .int .i64 s1, .slice a1 n1 c1, .int .i64 t1, .slice b1 m1 d1] 30)
      try simp only [World.size_alloc] at s0
      have S0 := Lib.hid s0
      clear s0
      clear hl1 hk1 ll1 lk1 ho hq
      have HS : Hid (∀ W, RowKit.Below w.heap.size w W → Ints W (.slice a1 n1 c1) l1 → Ints W (.slice b1 m1 d1) k1 → Calls Tryz.prog 50 #[.agg #[.int .i64 s1, .slice a1 n1 c1, .int .i64 t1, .slice b1 m1 d1]] W fun e w' => e = .returned (.int .i64 s1) ∧ RowKit.Below W.heap.size W w') := Lib.hid (fun W _ h1 h2 => by
        have := fsign_any (w := W) (s := s1) (t := t1) h1 h2 LL1.out LK1.out
        rw [HQ.out] at this; exact this)
      go_enter Tryz.func22, Tryz.ntmps22
      go_wp2_with fail
      refine (HD.out _).mono ?_
      rintro e w1 ⟨rfl, hb⟩
      have R1 := Lib.hid (S0.out.later hb)
      clear hb
      obtain ⟨q1, q2, q3, q4, q5, q6, q7, q8, q9, q10⟩ := Fb.cells10 (R1.out.box (w.heap.size, 30, [.int .i64 (f 0), .int .i64 (f 1), .int .i64 (f 2), .int .i64 (f 3), .int .i64 (f 4), .int .i64 (f 5), .int .i64 s1, .slice a1 n1 c1, .int .i64 t1, .slice b1 m1 d1]) mq0)
      go_wp2_with fail
      clear q1 q2 q3 q4 q5 q6 q7 q8 q9 q10
      refine (HS.out _ R1.out.below (R1.out.ints (.slice a1 n1 c1, l1) mq0) (R1.out.ints (.slice b1 m1 d1, k1) mq1)).mono ?_
      rintro e w2 ⟨rfl, hb⟩
      have R2 := Lib.hid (R1.out.later hb)
      clear hb
      go_wp2_with fail
      go_ret
      exact ⟨rfl, R2.out.below⟩
theorem uright_v {w : World} {f : Nat → Int} {s : Int} {aa ba : Option Addr} {na ca ma da : Nat} {r : Rat} (hf : ok f = true) (h : Fr w s (.slice aa na ca) (.slice ba ma da) r) (l : FSz 1000 r) {b : Bool} (hb : decide (0 < r.num.sign) = b) :
    Calls Tryz.prog 22 #[.agg (uc f s (.slice aa na ca) 1 (.slice ba ma da))] w fun e w' => e = .returned (.bool b) ∧ RowKit.Below w.heap.size w w' := by
  obtain ⟨⟨rfl, h1⟩, ⟨_, h2⟩⟩ := h
  exact uright_raw h1 h2 (digs_le l.1) (digs_le l.2) (by rw [uR_is, hf, hb]; rfl)

set_option maxHeartbeats 8000000 in
theorem umul_k {w : World} {f g V : Nat → Int} {s1 : Int} {a1 b1 : Option Addr} {n1 c1 m1 d1 : Nat} {x : Rat} {s2 : Int} {a2 b2 : Option Addr} {n2 c2 m2 d2 : Nat} {y : Rat} (hx : Fr w s1 (.slice a1 n1 c1) (.slice b1 m1 d1) x) (hy : Fr w s2 (.slice a2 n2 c2) (.slice b2 m2 d2) y) (lx : FSz 1000 x) (ly : FSz 1000 y) (hf : ok f = true) (hg : ok g = true) (px : decide (0 < x.num.sign) = true) (py : decide (0 < y.num.sign) = true) {r : Rat} (hr : x * y = r)
    (hv : mulR f g = DE V 0) :
    Calls Tryz.prog 12 #[.agg (uc f s1 (.slice a1 n1 c1) 1 (.slice b1 m1 d1)), .agg (uc g s2 (.slice a2 n2 c2) 1 (.slice b2 m2 d2))] w (UVE V r 0 w) := by
  have Ex := Lib.hid hx.1.1
  have Lx := Lib.hid lx
  have Ey := Lib.hid hy.1.1
  have Ly := Lib.hid ly
  have Of := Lib.hid hf
  have Og := Lib.hid hg
  have Px := Lib.hid px
  have Py := Lib.hid py
  have HRR := Lib.hid hr
  have HV := Lib.hid hv
  have s0 := ((((((((Sf.start w).arg hx.2.2).arg hx.1.2).arg hy.2.2).arg hy.1.2).put [.int .i64 (f 0), .int .i64 (f 1), .int .i64 (f 2), .int .i64 (f 3), .int .i64 (f 4), .int .i64 (f 5), .int .i64 s1, .slice a1 n1 c1, .int .i64 1, .slice b1 m1 d1] 30).put [.int .i64 (g 0), .int .i64 (g 1), .int .i64 (g 2), .int .i64 (g 3), .int .i64 (g 4), .int .i64 (g 5), .int .i64 s2, .slice a2 n2 c2, .int .i64 1, .slice b2 m2 d2] 30).put [.int .i64 0, .int .i64 0, .int .i64 0, .int .i64 0, .int .i64 0, .int .i64 0, .int .i64 0, .slice none 0 0, .int .i64 0, .slice none 0 0] 30)
  try simp only [World.size_alloc] at s0
  have S0 := Lib.hid s0
  clear s0
  have HD : Hid (∀ W, Calls Tryz.prog 26 #[.agg (cl f), .agg (cl g)] W (Gives (DE V 0) W)) := Lib.hid (fun W => by have := mul_any f g W; rwa [hv] at this)
  clear hx hy lx ly hf hg px py hr hv
  unfold uc
  unfold DE cl at HD
  go_enter Tryz.func12, Tryz.ntmps12
  go_wp2_with fail
  refine (uright_v Of.out (S0.out.fr (v := .slice a1 n1 c1) (u := .slice b1 m1 d1) (r := x) mq2 mq3 Ex.out) Lx.out Px.out).mono ?_
  rintro e w1 ⟨rfl, hb⟩
  have R1 := Lib.hid (S0.out.later hb)
  clear hb
  obtain ⟨q1, q2, q3, q4, q5, q6, q7, q8, q9, q10⟩ := Fb.cells10 (R1.out.box (w.heap.size + 1, 30, [.int .i64 (g 0), .int .i64 (g 1), .int .i64 (g 2), .int .i64 (g 3), .int .i64 (g 4), .int .i64 (g 5), .int .i64 s2, .slice a2 n2 c2, .int .i64 1, .slice b2 m2 d2]) mq1)
  go_wp2_with fail
  clear q1 q2 q3 q4 q5 q6 q7 q8 q9 q10
  refine (uright_v Og.out (R1.out.fr (v := .slice a2 n2 c2) (u := .slice b2 m2 d2) (r := y) mq0 mq1 Ey.out) Ly.out Py.out).mono ?_
  rintro e w2 ⟨rfl, hb⟩
  have R2 := Lib.hid (R1.out.later hb)
  clear hb
  obtain ⟨q11, q12, q13, q14, q15, q16, q17, q18, q19, q20⟩ := Fb.cells10 (R2.out.box (w.heap.size, 30, [.int .i64 (f 0), .int .i64 (f 1), .int .i64 (f 2), .int .i64 (f 3), .int .i64 (f 4), .int .i64 (f 5), .int .i64 s1, .slice a1 n1 c1, .int .i64 1, .slice b1 m1 d1]) mq2)
  obtain ⟨q21, q22, q23, q24, q25, q26, q27, q28, q29, q30⟩ := Fb.cells10 (R2.out.box (w.heap.size + 1, 30, [.int .i64 (g 0), .int .i64 (g 1), .int .i64 (g 2), .int .i64 (g 3), .int .i64 (g 4), .int .i64 (g 5), .int .i64 s2, .slice a2 n2 c2, .int .i64 1, .slice b2 m2 d2]) mq1)
  go_wp2_with fail
  clear q11 q12 q13 q14 q15 q16 q17 q18 q19 q20 q21 q22 q23 q24 q25 q26 q27 q28 q29 q30
  refine (HD.out _).mono ?_
  rintro e w3 ⟨rfl, hb⟩
  have R3 := Lib.hid (R2.out.later hb)
  clear hb
  have P31 := Lib.hid (R3.out.put [.int .i64 0, .int .i64 0, .int .i64 0, .int .i64 0, .int .i64 0, .int .i64 0] 23)
  have Q31 := Lib.hid (Sf.row (pre := []) P31.out [.int .i64 (V 0), .int .i64 (V 1), .int .i64 (V 2), .int .i64 (V 3), .int .i64 (V 4), .int .i64 (V 5)])
  obtain ⟨q32, q33, q34, q35, q36, q37, q38, q39, q40, q41⟩ := Fb.cells10 (Q31.out.box (w.heap.size, 30, [.int .i64 (f 0), .int .i64 (f 1), .int .i64 (f 2), .int .i64 (f 3), .int .i64 (f 4), .int .i64 (f 5), .int .i64 s1, .slice a1 n1 c1, .int .i64 1, .slice b1 m1 d1]) mq3)
  obtain ⟨q42, q43, q44, q45, q46, q47, q48, q49, q50, q51⟩ := Fb.cells10 (Q31.out.box (w.heap.size + 1, 30, [.int .i64 (g 0), .int .i64 (g 1), .int .i64 (g 2), .int .i64 (g 3), .int .i64 (g 4), .int .i64 (g 5), .int .i64 s2, .slice a2 n2 c2, .int .i64 1, .slice b2 m2 d2]) mq2)
  go_wp2_with (first | refine wpList_store_row rfl _ _ _ rfl _ #[.int .i64 (V 0), .int .i64 (V 1), .int .i64 (V 2), .int .i64 (V 3), .int .i64 (V 4), .int .i64 (V 5)] rfl rfl _ _ (P31.out.box _ List.mem_cons_self) (by kernel_rfl) rfl (by simp [Value.oneCell']) ?_)
  clear q32 q33 q34 q35 q36 q37 q38 q39 q40 q41 q42 q43 q44 q45 q46 q47 q48 q49 q50 q51
  refine (fmul_r (Q31.out.fr (v := .slice a1 n1 c1) (u := .slice b1 m1 d1) (r := x) mq2 mq3 Ex.out) (Q31.out.fr (v := .slice a2 n2 c2) (u := .slice b2 m2 d2) (r := y) mq0 mq1 Ey.out) Lx.out Ly.out HRR.out).mono ?_
  rintro e w4 ⟨sx4, ax4, nx4, cx4, bx4, mx4, dx4, rfl, hr, hb, hf, hg⟩
  have E4 := Lib.hid hr.1.1
  have R4 := Lib.hid (Q31.out.ret2 hb hr.1.2 hf hr.2.2 hg)
  have FF4 := Lib.hid (hf.mono Q31.out.below.size)
  have FG4 := Lib.hid (hg.mono Q31.out.below.size)
  clear hr hb hf hg
  have P52 := Lib.hid (R4.out.put [.int .i64 0, .slice none 0 0, .int .i64 0, .slice none 0 0] 28)
  have Q52 := Lib.hid (Sf.row (pre := []) P52.out [.int .i64 sx4, .slice ax4 nx4 cx4, .int .i64 1, .slice bx4 mx4 dx4])
  obtain ⟨q53, q54, q55, q56⟩ := Fb.cells4 (Q52.out.box (w4.heap.size, 28, [.int .i64 sx4, .slice ax4 nx4 cx4, .int .i64 1, .slice bx4 mx4 dx4]) mq0)
  obtain ⟨q57, q58, q59, q60, q61, q62⟩ := Fb.cells6 (Q52.out.box (w3.heap.size, 23, [.int .i64 (V 0), .int .i64 (V 1), .int .i64 (V 2), .int .i64 (V 3), .int .i64 (V 4), .int .i64 (V 5)]) mq1)
  have Q63 := Lib.hid (Sf.row (pre := [(w4.heap.size, 28, [.int .i64 sx4, .slice ax4 nx4 cx4, .int .i64 1, .slice bx4 mx4 dx4]), (w3.heap.size, 23, [.int .i64 (V 0), .int .i64 (V 1), .int .i64 (V 2), .int .i64 (V 3), .int .i64 (V 4), .int .i64 (V 5)])]) Q52.out [.int .i64 (V 0), .int .i64 (V 1), .int .i64 (V 2), .int .i64 (V 3), .int .i64 (V 4), .int .i64 (V 5), .int .i64 sx4, .slice ax4 nx4 cx4, .int .i64 1, .slice bx4 mx4 dx4])
  go_wp2_with (first | refine wpList_store_row rfl _ _ _ rfl _ #[.int .i64 sx4, .slice ax4 nx4 cx4, .int .i64 1, .slice bx4 mx4 dx4] rfl rfl _ _ (P52.out.box _ List.mem_cons_self) (by kernel_rfl) rfl (by simp [Value.oneCell']) ?_ | refine wpList_store_row rfl _ _ _ rfl _ #[.int .i64 (V 0), .int .i64 (V 1), .int .i64 (V 2), .int .i64 (V 3), .int .i64 (V 4), .int .i64 (V 5), .int .i64 sx4, .slice ax4 nx4 cx4, .int .i64 1, .slice bx4 mx4 dx4] rfl rfl _ _ (Q52.out.box _ mq2) (by kernel_rfl) rfl (by simp [Value.oneCell']) ?_)
  clear q53 q54 q55 q56 q57 q58 q59 q60 q61 q62
  refine bodyPost_ret (ret_row rfl _ _ _ _ rfl (run_loadVar_row _ _ _ _ _ (0, 0) _ (Q63.out.box _ mq2) Tryz.underlying30 rfl (by kernel_rfl))) rfl ⟨_, _, _, _, _, _, _, rfl, (Q63.out.fr (v := .slice ax4 nx4 cx4) (u := .slice bx4 mx4 dx4) (r := r) mq0 mq1 E4.out), Q63.out.below, FF4.out, FG4.out⟩

set_option maxHeartbeats 8000000 in
theorem umul_far {w : World} {f g : Nat → Int} {s1 : Int} {a1 b1 : Option Addr} {n1 c1 m1 d1 : Nat} {x : Rat} {s2 : Int} {a2 b2 : Option Addr} {n2 c2 m2 d2 : Nat} {y : Rat} (hx : Fr w s1 (.slice a1 n1 c1) (.slice b1 m1 d1) x) (hy : Fr w s2 (.slice a2 n2 c2) (.slice b2 m2 d2) y) (lx : FSz 1000 x) (ly : FSz 1000 y) (hf : ok f = true) (hg : ok g = true) (px : decide (0 < x.num.sign) = true) (py : decide (0 < y.num.sign) = true) {r : Rat} (hr : x * y = r)
    (hv : mulR f g = DE zf 3) :
    Calls Tryz.prog 12 #[.agg (uc f s1 (.slice a1 n1 c1) 1 (.slice b1 m1 d1)), .agg (uc g s2 (.slice a2 n2 c2) 1 (.slice b2 m2 d2))] w (UZE 3 w) := by
  have Ex := Lib.hid hx.1.1
  have Lx := Lib.hid lx
  have Ey := Lib.hid hy.1.1
  have Ly := Lib.hid ly
  have Of := Lib.hid hf
  have Og := Lib.hid hg
  have Px := Lib.hid px
  have Py := Lib.hid py
  have HRR := Lib.hid hr
  have HV := Lib.hid hv
  have s0 := ((((((((Sf.start w).arg hx.2.2).arg hx.1.2).arg hy.2.2).arg hy.1.2).put [.int .i64 (f 0), .int .i64 (f 1), .int .i64 (f 2), .int .i64 (f 3), .int .i64 (f 4), .int .i64 (f 5), .int .i64 s1, .slice a1 n1 c1, .int .i64 1, .slice b1 m1 d1] 30).put [.int .i64 (g 0), .int .i64 (g 1), .int .i64 (g 2), .int .i64 (g 3), .int .i64 (g 4), .int .i64 (g 5), .int .i64 s2, .slice a2 n2 c2, .int .i64 1, .slice b2 m2 d2] 30).put [.int .i64 0, .int .i64 0, .int .i64 0, .int .i64 0, .int .i64 0, .int .i64 0, .int .i64 0, .slice none 0 0, .int .i64 0, .slice none 0 0] 30)
  try simp only [World.size_alloc] at s0
  have S0 := Lib.hid s0
  clear s0
  have HD : Hid (∀ W, Calls Tryz.prog 26 #[.agg (cl f), .agg (cl g)] W (Gives (DE zf 3) W)) := Lib.hid (fun W => by have := mul_any f g W; rwa [hv] at this)
  clear hx hy lx ly hf hg px py hr hv
  unfold uc
  unfold DE cl at HD
  go_enter Tryz.func12, Tryz.ntmps12
  go_wp2_with fail
  refine (uright_v Of.out (S0.out.fr (v := .slice a1 n1 c1) (u := .slice b1 m1 d1) (r := x) mq2 mq3 Ex.out) Lx.out Px.out).mono ?_
  rintro e w1 ⟨rfl, hb⟩
  have R1 := Lib.hid (S0.out.later hb)
  clear hb
  obtain ⟨q1, q2, q3, q4, q5, q6, q7, q8, q9, q10⟩ := Fb.cells10 (R1.out.box (w.heap.size + 1, 30, [.int .i64 (g 0), .int .i64 (g 1), .int .i64 (g 2), .int .i64 (g 3), .int .i64 (g 4), .int .i64 (g 5), .int .i64 s2, .slice a2 n2 c2, .int .i64 1, .slice b2 m2 d2]) mq1)
  go_wp2_with fail
  clear q1 q2 q3 q4 q5 q6 q7 q8 q9 q10
  refine (uright_v Og.out (R1.out.fr (v := .slice a2 n2 c2) (u := .slice b2 m2 d2) (r := y) mq0 mq1 Ey.out) Ly.out Py.out).mono ?_
  rintro e w2 ⟨rfl, hb⟩
  have R2 := Lib.hid (R1.out.later hb)
  clear hb
  obtain ⟨q11, q12, q13, q14, q15, q16, q17, q18, q19, q20⟩ := Fb.cells10 (R2.out.box (w.heap.size, 30, [.int .i64 (f 0), .int .i64 (f 1), .int .i64 (f 2), .int .i64 (f 3), .int .i64 (f 4), .int .i64 (f 5), .int .i64 s1, .slice a1 n1 c1, .int .i64 1, .slice b1 m1 d1]) mq2)
  obtain ⟨q21, q22, q23, q24, q25, q26, q27, q28, q29, q30⟩ := Fb.cells10 (R2.out.box (w.heap.size + 1, 30, [.int .i64 (g 0), .int .i64 (g 1), .int .i64 (g 2), .int .i64 (g 3), .int .i64 (g 4), .int .i64 (g 5), .int .i64 s2, .slice a2 n2 c2, .int .i64 1, .slice b2 m2 d2]) mq1)
  go_wp2_with fail
  clear q11 q12 q13 q14 q15 q16 q17 q18 q19 q20 q21 q22 q23 q24 q25 q26 q27 q28 q29 q30
  refine (HD.out _).mono ?_
  rintro e w3 ⟨rfl, hb⟩
  have R3 := Lib.hid (R2.out.later hb)
  clear hb
  have P31 := Lib.hid (R3.out.put [.int .i64 0, .int .i64 0, .int .i64 0, .int .i64 0, .int .i64 0, .int .i64 0] 23)
  have Q31 := Lib.hid (Sf.row (pre := []) P31.out [.int .i64 (zf 0), .int .i64 (zf 1), .int .i64 (zf 2), .int .i64 (zf 3), .int .i64 (zf 4), .int .i64 (zf 5)])
  have Q32 := Lib.hid (Sf.row (pre := [(w3.heap.size, 23, [.int .i64 (zf 0), .int .i64 (zf 1), .int .i64 (zf 2), .int .i64 (zf 3), .int .i64 (zf 4), .int .i64 (zf 5)])]) Q31.out [.int .i64 0, .int .i64 0, .int .i64 0, .int .i64 0, .int .i64 0, .int .i64 0, .int .i64 0, .slice none 0 0, .int .i64 0, .slice none 0 0])
  go_wp2_with (first | refine wpList_store_row rfl _ _ _ rfl _ #[.int .i64 (zf 0), .int .i64 (zf 1), .int .i64 (zf 2), .int .i64 (zf 3), .int .i64 (zf 4), .int .i64 (zf 5)] rfl rfl _ _ (P31.out.box _ List.mem_cons_self) (by kernel_rfl) rfl (by simp [Value.oneCell']) ?_ | refine wpList_store_row rfl _ _ _ rfl _ #[.int .i64 0, .int .i64 0, .int .i64 0, .int .i64 0, .int .i64 0, .int .i64 0, .int .i64 0, .slice none 0 0, .int .i64 0, .slice none 0 0] rfl rfl _ _ (Q31.out.box _ mq1) (by kernel_rfl) rfl (by simp [Value.oneCell']) ?_)
  refine bodyPost_ret (ret_row rfl _ _ _ _ rfl (run_loadVar_row _ _ _ _ _ (0, 0) _ (Q32.out.box _ mq1) Tryz.underlying30 rfl (by kernel_rfl))) rfl ⟨rfl, Q32.out.below⟩

set_option maxHeartbeats 8000000 in
theorem udiv_k {w : World} {f g V : Nat → Int} {s1 : Int} {a1 b1 : Option Addr} {n1 c1 m1 d1 : Nat} {x : Rat} {s2 : Int} {a2 b2 : Option Addr} {n2 c2 m2 d2 : Nat} {y : Rat} (hx : Fr w s1 (.slice a1 n1 c1) (.slice b1 m1 d1) x) (hy : Fr w s2 (.slice a2 n2 c2) (.slice b2 m2 d2) y) (lx : FSz 1000 x) (ly : FSz 1000 y) (hf : ok f = true) (hg : ok g = true) (px : decide (0 < x.num.sign) = true) (py : decide (0 < y.num.sign) = true) (y0 : y ≠ 0) {r : Rat} (hr : x / y = r)
    (hv : divR f g = DE V 0) :
    Calls Tryz.prog 14 #[.agg (uc f s1 (.slice a1 n1 c1) 1 (.slice b1 m1 d1)), .agg (uc g s2 (.slice a2 n2 c2) 1 (.slice b2 m2 d2))] w (UVE V r 0 w) := by
  have Ex := Lib.hid hx.1.1
  have Lx := Lib.hid lx
  have Ey := Lib.hid hy.1.1
  have Ly := Lib.hid ly
  have Of := Lib.hid hf
  have Og := Lib.hid hg
  have Px := Lib.hid px
  have Py := Lib.hid py
  have HRR := Lib.hid hr
  have HV := Lib.hid hv
  have Y0 := Lib.hid y0
  have s0 := ((((((((Sf.start w).arg hx.2.2).arg hx.1.2).arg hy.2.2).arg hy.1.2).put [.int .i64 (f 0), .int .i64 (f 1), .int .i64 (f 2), .int .i64 (f 3), .int .i64 (f 4), .int .i64 (f 5), .int .i64 s1, .slice a1 n1 c1, .int .i64 1, .slice b1 m1 d1] 30).put [.int .i64 (g 0), .int .i64 (g 1), .int .i64 (g 2), .int .i64 (g 3), .int .i64 (g 4), .int .i64 (g 5), .int .i64 s2, .slice a2 n2 c2, .int .i64 1, .slice b2 m2 d2] 30).put [.int .i64 0, .int .i64 0, .int .i64 0, .int .i64 0, .int .i64 0, .int .i64 0, .int .i64 0, .slice none 0 0, .int .i64 0, .slice none 0 0] 30)
  try simp only [World.size_alloc] at s0
  have S0 := Lib.hid s0
  clear s0
  have HD : Hid (∀ W, Calls Tryz.prog 44 #[.agg (cl f), .agg (cl g)] W (Gives (DE V 0) W)) := Lib.hid (fun W => by have := div_any f g W; rwa [hv] at this)
  clear hx hy lx ly hf hg px py hr hv y0
  unfold uc
  unfold DE cl at HD
  go_enter Tryz.func14, Tryz.ntmps14
  go_wp2_with fail
  refine (uright_v Of.out (S0.out.fr (v := .slice a1 n1 c1) (u := .slice b1 m1 d1) (r := x) mq2 mq3 Ex.out) Lx.out Px.out).mono ?_
  rintro e w1 ⟨rfl, hb⟩
  have R1 := Lib.hid (S0.out.later hb)
  clear hb
  obtain ⟨q1, q2, q3, q4, q5, q6, q7, q8, q9, q10⟩ := Fb.cells10 (R1.out.box (w.heap.size + 1, 30, [.int .i64 (g 0), .int .i64 (g 1), .int .i64 (g 2), .int .i64 (g 3), .int .i64 (g 4), .int .i64 (g 5), .int .i64 s2, .slice a2 n2 c2, .int .i64 1, .slice b2 m2 d2]) mq1)
  go_wp2_with fail
  clear q1 q2 q3 q4 q5 q6 q7 q8 q9 q10
  refine (uright_v Og.out (R1.out.fr (v := .slice a2 n2 c2) (u := .slice b2 m2 d2) (r := y) mq0 mq1 Ey.out) Ly.out Py.out).mono ?_
  rintro e w2 ⟨rfl, hb⟩
  have R2 := Lib.hid (R1.out.later hb)
  clear hb
  obtain ⟨q11, q12, q13, q14, q15, q16, q17, q18, q19, q20⟩ := Fb.cells10 (R2.out.box (w.heap.size, 30, [.int .i64 (f 0), .int .i64 (f 1), .int .i64 (f 2), .int .i64 (f 3), .int .i64 (f 4), .int .i64 (f 5), .int .i64 s1, .slice a1 n1 c1, .int .i64 1, .slice b1 m1 d1]) mq2)
  obtain ⟨q21, q22, q23, q24, q25, q26, q27, q28, q29, q30⟩ := Fb.cells10 (R2.out.box (w.heap.size + 1, 30, [.int .i64 (g 0), .int .i64 (g 1), .int .i64 (g 2), .int .i64 (g 3), .int .i64 (g 4), .int .i64 (g 5), .int .i64 s2, .slice a2 n2 c2, .int .i64 1, .slice b2 m2 d2]) mq1)
  go_wp2_with fail
  clear q11 q12 q13 q14 q15 q16 q17 q18 q19 q20 q21 q22 q23 q24 q25 q26 q27 q28 q29 q30
  refine (HD.out _).mono ?_
  rintro e w3 ⟨rfl, hb⟩
  have R3 := Lib.hid (R2.out.later hb)
  clear hb
  have P31 := Lib.hid (R3.out.put [.int .i64 0, .int .i64 0, .int .i64 0, .int .i64 0, .int .i64 0, .int .i64 0] 23)
  have Q31 := Lib.hid (Sf.row (pre := []) P31.out [.int .i64 (V 0), .int .i64 (V 1), .int .i64 (V 2), .int .i64 (V 3), .int .i64 (V 4), .int .i64 (V 5)])
  obtain ⟨q32, q33, q34, q35, q36, q37, q38, q39, q40, q41⟩ := Fb.cells10 (Q31.out.box (w.heap.size, 30, [.int .i64 (f 0), .int .i64 (f 1), .int .i64 (f 2), .int .i64 (f 3), .int .i64 (f 4), .int .i64 (f 5), .int .i64 s1, .slice a1 n1 c1, .int .i64 1, .slice b1 m1 d1]) mq3)
  obtain ⟨q42, q43, q44, q45, q46, q47, q48, q49, q50, q51⟩ := Fb.cells10 (Q31.out.box (w.heap.size + 1, 30, [.int .i64 (g 0), .int .i64 (g 1), .int .i64 (g 2), .int .i64 (g 3), .int .i64 (g 4), .int .i64 (g 5), .int .i64 s2, .slice a2 n2 c2, .int .i64 1, .slice b2 m2 d2]) mq2)
  go_wp2_with (first | refine wpList_store_row rfl _ _ _ rfl _ #[.int .i64 (V 0), .int .i64 (V 1), .int .i64 (V 2), .int .i64 (V 3), .int .i64 (V 4), .int .i64 (V 5)] rfl rfl _ _ (P31.out.box _ List.mem_cons_self) (by kernel_rfl) rfl (by simp [Value.oneCell']) ?_)
  clear q32 q33 q34 q35 q36 q37 q38 q39 q40 q41 q42 q43 q44 q45 q46 q47 q48 q49 q50 q51
  refine (fdiv_r (Q31.out.fr (v := .slice a1 n1 c1) (u := .slice b1 m1 d1) (r := x) mq2 mq3 Ex.out) (Q31.out.fr (v := .slice a2 n2 c2) (u := .slice b2 m2 d2) (r := y) mq0 mq1 Ey.out) Lx.out Ly.out Y0.out HRR.out).mono ?_
  rintro e w4 ⟨sx4, ax4, nx4, cx4, bx4, mx4, dx4, rfl, hr, hb, hf, hg⟩
  have E4 := Lib.hid hr.1.1
  have R4 := Lib.hid (Q31.out.ret2 hb hr.1.2 hf hr.2.2 hg)
  have FF4 := Lib.hid (hf.mono Q31.out.below.size)
  have FG4 := Lib.hid (hg.mono Q31.out.below.size)
  clear hr hb hf hg
  have P52 := Lib.hid (R4.out.put [.int .i64 0, .slice none 0 0, .int .i64 0, .slice none 0 0] 28)
  have Q52 := Lib.hid (Sf.row (pre := []) P52.out [.int .i64 sx4, .slice ax4 nx4 cx4, .int .i64 1, .slice bx4 mx4 dx4])
  obtain ⟨q53, q54, q55, q56⟩ := Fb.cells4 (Q52.out.box (w4.heap.size, 28, [.int .i64 sx4, .slice ax4 nx4 cx4, .int .i64 1, .slice bx4 mx4 dx4]) mq0)
  obtain ⟨q57, q58, q59, q60, q61, q62⟩ := Fb.cells6 (Q52.out.box (w3.heap.size, 23, [.int .i64 (V 0), .int .i64 (V 1), .int .i64 (V 2), .int .i64 (V 3), .int .i64 (V 4), .int .i64 (V 5)]) mq1)
  have Q63 := Lib.hid (Sf.row (pre := [(w4.heap.size, 28, [.int .i64 sx4, .slice ax4 nx4 cx4, .int .i64 1, .slice bx4 mx4 dx4]), (w3.heap.size, 23, [.int .i64 (V 0), .int .i64 (V 1), .int .i64 (V 2), .int .i64 (V 3), .int .i64 (V 4), .int .i64 (V 5)])]) Q52.out [.int .i64 (V 0), .int .i64 (V 1), .int .i64 (V 2), .int .i64 (V 3), .int .i64 (V 4), .int .i64 (V 5), .int .i64 sx4, .slice ax4 nx4 cx4, .int .i64 1, .slice bx4 mx4 dx4])
  go_wp2_with (first | refine wpList_store_row rfl _ _ _ rfl _ #[.int .i64 sx4, .slice ax4 nx4 cx4, .int .i64 1, .slice bx4 mx4 dx4] rfl rfl _ _ (P52.out.box _ List.mem_cons_self) (by kernel_rfl) rfl (by simp [Value.oneCell']) ?_ | refine wpList_store_row rfl _ _ _ rfl _ #[.int .i64 (V 0), .int .i64 (V 1), .int .i64 (V 2), .int .i64 (V 3), .int .i64 (V 4), .int .i64 (V 5), .int .i64 sx4, .slice ax4 nx4 cx4, .int .i64 1, .slice bx4 mx4 dx4] rfl rfl _ _ (Q52.out.box _ mq2) (by kernel_rfl) rfl (by simp [Value.oneCell']) ?_)
  clear q53 q54 q55 q56 q57 q58 q59 q60 q61 q62
  refine bodyPost_ret (ret_row rfl _ _ _ _ rfl (run_loadVar_row _ _ _ _ _ (0, 0) _ (Q63.out.box _ mq2) Tryz.underlying30 rfl (by kernel_rfl))) rfl ⟨_, _, _, _, _, _, _, rfl, (Q63.out.fr (v := .slice ax4 nx4 cx4) (u := .slice bx4 mx4 dx4) (r := r) mq0 mq1 E4.out), Q63.out.below, FF4.out, FG4.out⟩

set_option maxHeartbeats 8000000 in
theorem udiv_far {w : World} {f g : Nat → Int} {s1 : Int} {a1 b1 : Option Addr} {n1 c1 m1 d1 : Nat} {x : Rat} {s2 : Int} {a2 b2 : Option Addr} {n2 c2 m2 d2 : Nat} {y : Rat} (hx : Fr w s1 (.slice a1 n1 c1) (.slice b1 m1 d1) x) (hy : Fr w s2 (.slice a2 n2 c2) (.slice b2 m2 d2) y) (lx : FSz 1000 x) (ly : FSz 1000 y) (hf : ok f = true) (hg : ok g = true) (px : decide (0 < x.num.sign) = true) (py : decide (0 < y.num.sign) = true) (y0 : y ≠ 0) {r : Rat} (hr : x / y = r)
    (hv : divR f g = DE zf 3) :
    Calls Tryz.prog 14 #[.agg (uc f s1 (.slice a1 n1 c1) 1 (.slice b1 m1 d1)), .agg (uc g s2 (.slice a2 n2 c2) 1 (.slice b2 m2 d2))] w (UZE 3 w) := by
  have Ex := Lib.hid hx.1.1
  have Lx := Lib.hid lx
  have Ey := Lib.hid hy.1.1
  have Ly := Lib.hid ly
  have Of := Lib.hid hf
  have Og := Lib.hid hg
  have Px := Lib.hid px
  have Py := Lib.hid py
  have HRR := Lib.hid hr
  have HV := Lib.hid hv
  have Y0 := Lib.hid y0
  have s0 := ((((((((Sf.start w).arg hx.2.2).arg hx.1.2).arg hy.2.2).arg hy.1.2).put [.int .i64 (f 0), .int .i64 (f 1), .int .i64 (f 2), .int .i64 (f 3), .int .i64 (f 4), .int .i64 (f 5), .int .i64 s1, .slice a1 n1 c1, .int .i64 1, .slice b1 m1 d1] 30).put [.int .i64 (g 0), .int .i64 (g 1), .int .i64 (g 2), .int .i64 (g 3), .int .i64 (g 4), .int .i64 (g 5), .int .i64 s2, .slice a2 n2 c2, .int .i64 1, .slice b2 m2 d2] 30).put [.int .i64 0, .int .i64 0, .int .i64 0, .int .i64 0, .int .i64 0, .int .i64 0, .int .i64 0, .slice none 0 0, .int .i64 0, .slice none 0 0] 30)
  try simp only [World.size_alloc] at s0
  have S0 := Lib.hid s0
  clear s0
  have HD : Hid (∀ W, Calls Tryz.prog 44 #[.agg (cl f), .agg (cl g)] W (Gives (DE zf 3) W)) := Lib.hid (fun W => by have := div_any f g W; rwa [hv] at this)
  clear hx hy lx ly hf hg px py hr hv y0
  unfold uc
  unfold DE cl at HD
  go_enter Tryz.func14, Tryz.ntmps14
  go_wp2_with fail
  refine (uright_v Of.out (S0.out.fr (v := .slice a1 n1 c1) (u := .slice b1 m1 d1) (r := x) mq2 mq3 Ex.out) Lx.out Px.out).mono ?_
  rintro e w1 ⟨rfl, hb⟩
  have R1 := Lib.hid (S0.out.later hb)
  clear hb
  obtain ⟨q1, q2, q3, q4, q5, q6, q7, q8, q9, q10⟩ := Fb.cells10 (R1.out.box (w.heap.size + 1, 30, [.int .i64 (g 0), .int .i64 (g 1), .int .i64 (g 2), .int .i64 (g 3), .int .i64 (g 4), .int .i64 (g 5), .int .i64 s2, .slice a2 n2 c2, .int .i64 1, .slice b2 m2 d2]) mq1)
  go_wp2_with fail
  clear q1 q2 q3 q4 q5 q6 q7 q8 q9 q10
  refine (uright_v Og.out (R1.out.fr (v := .slice a2 n2 c2) (u := .slice b2 m2 d2) (r := y) mq0 mq1 Ey.out) Ly.out Py.out).mono ?_
  rintro e w2 ⟨rfl, hb⟩
  have R2 := Lib.hid (R1.out.later hb)
  clear hb
  obtain ⟨q11, q12, q13, q14, q15, q16, q17, q18, q19, q20⟩ := Fb.cells10 (R2.out.box (w.heap.size, 30, [.int .i64 (f 0), .int .i64 (f 1), .int .i64 (f 2), .int .i64 (f 3), .int .i64 (f 4), .int .i64 (f 5), .int .i64 s1, .slice a1 n1 c1, .int .i64 1, .slice b1 m1 d1]) mq2)
  obtain ⟨q21, q22, q23, q24, q25, q26, q27, q28, q29, q30⟩ := Fb.cells10 (R2.out.box (w.heap.size + 1, 30, [.int .i64 (g 0), .int .i64 (g 1), .int .i64 (g 2), .int .i64 (g 3), .int .i64 (g 4), .int .i64 (g 5), .int .i64 s2, .slice a2 n2 c2, .int .i64 1, .slice b2 m2 d2]) mq1)
  go_wp2_with fail
  clear q11 q12 q13 q14 q15 q16 q17 q18 q19 q20 q21 q22 q23 q24 q25 q26 q27 q28 q29 q30
  refine (HD.out _).mono ?_
  rintro e w3 ⟨rfl, hb⟩
  have R3 := Lib.hid (R2.out.later hb)
  clear hb
  have P31 := Lib.hid (R3.out.put [.int .i64 0, .int .i64 0, .int .i64 0, .int .i64 0, .int .i64 0, .int .i64 0] 23)
  have Q31 := Lib.hid (Sf.row (pre := []) P31.out [.int .i64 (zf 0), .int .i64 (zf 1), .int .i64 (zf 2), .int .i64 (zf 3), .int .i64 (zf 4), .int .i64 (zf 5)])
  have Q32 := Lib.hid (Sf.row (pre := [(w3.heap.size, 23, [.int .i64 (zf 0), .int .i64 (zf 1), .int .i64 (zf 2), .int .i64 (zf 3), .int .i64 (zf 4), .int .i64 (zf 5)])]) Q31.out [.int .i64 0, .int .i64 0, .int .i64 0, .int .i64 0, .int .i64 0, .int .i64 0, .int .i64 0, .slice none 0 0, .int .i64 0, .slice none 0 0])
  go_wp2_with (first | refine wpList_store_row rfl _ _ _ rfl _ #[.int .i64 (zf 0), .int .i64 (zf 1), .int .i64 (zf 2), .int .i64 (zf 3), .int .i64 (zf 4), .int .i64 (zf 5)] rfl rfl _ _ (P31.out.box _ List.mem_cons_self) (by kernel_rfl) rfl (by simp [Value.oneCell']) ?_ | refine wpList_store_row rfl _ _ _ rfl _ #[.int .i64 0, .int .i64 0, .int .i64 0, .int .i64 0, .int .i64 0, .int .i64 0, .int .i64 0, .slice none 0 0, .int .i64 0, .slice none 0 0] rfl rfl _ _ (Q31.out.box _ mq1) (by kernel_rfl) rfl (by simp [Value.oneCell']) ?_)
  refine bodyPost_ret (ret_row rfl _ _ _ _ rfl (run_loadVar_row _ _ _ _ _ (0, 0) _ (Q32.out.box _ mq1) Tryz.underlying30 rfl (by kernel_rfl))) rfl ⟨rfl, Q32.out.below⟩

set_option maxHeartbeats 8000000 in
theorem ufrom_k {w : World} {f : Nat → Int} {s3 : Int} {a3 b3 : Option Addr} {n3 c3 m3 d3 : Nat} {v : Rat} {s1 : Int} {a1 b1 : Option Addr} {n1 c1 m1 d1 : Nat} {x : Rat} (hv : Fr w s3 (.slice a3 n3 c3) (.slice b3 m3 d3) v) (hx : Fr w s1 (.slice a1 n1 c1) (.slice b1 m1 d1) x) (lv : FSz 1000 v) (lx : FSz 1000 x) (hf : ok f = true) (px : decide (0 < x.num.sign) = true) {r : Rat} (hr : v * x = r) :
    Calls Tryz.prog 19 #[.agg #[.int .i64 s3, .slice a3 n3 c3, .int .i64 1, .slice b3 m3 d3], .agg (uc f s1 (.slice a1 n1 c1) 1 (.slice b1 m1 d1))] w (FVE r 0 w) := by
  have Ev := Lib.hid hv.1.1
  have Lv := Lib.hid lv
  have Ex := Lib.hid hx.1.1
  have Lx := Lib.hid lx
  have Of := Lib.hid hf
  have Px := Lib.hid px
  have HRR := Lib.hid hr
  have s0 := ((((((((Sf.start w).arg hv.2.2).arg hv.1.2).arg hx.2.2).arg hx.1.2).put [.int .i64 s3, .slice a3 n3 c3, .int .i64 1, .slice b3 m3 d3] 28).put [.int .i64 (f 0), .int .i64 (f 1), .int .i64 (f 2), .int .i64 (f 3), .int .i64 (f 4), .int .i64 (f 5), .int .i64 s1, .slice a1 n1 c1, .int .i64 1, .slice b1 m1 d1] 30).put [.int .i64 0, .slice none 0 0, .int .i64 0, .slice none 0 0] 28)
  try simp only [World.size_alloc] at s0
  have S0 := Lib.hid s0
  clear s0
  clear hv hx lv lx hf px hr
  unfold uc
  go_enter Tryz.func19, Tryz.ntmps19
  go_wp2_with fail
  refine (uright_v Of.out (S0.out.fr (v := .slice a1 n1 c1) (u := .slice b1 m1 d1) (r := x) mq0 mq1 Ex.out) Lx.out Px.out).mono ?_
  rintro e w1 ⟨rfl, hb⟩
  have R1 := Lib.hid (S0.out.later hb)
  clear hb
  obtain ⟨q1, q2, q3, q4⟩ := Fb.cells4 (R1.out.box (w.heap.size, 28, [.int .i64 s3, .slice a3 n3 c3, .int .i64 1, .slice b3 m3 d3]) mq2)
  obtain ⟨q5, q6, q7, q8, q9, q10, q11, q12, q13, q14⟩ := Fb.cells10 (R1.out.box (w.heap.size + 1, 30, [.int .i64 (f 0), .int .i64 (f 1), .int .i64 (f 2), .int .i64 (f 3), .int .i64 (f 4), .int .i64 (f 5), .int .i64 s1, .slice a1 n1 c1, .int .i64 1, .slice b1 m1 d1]) mq1)
  go_wp2_with fail
  clear q1 q2 q3 q4 q5 q6 q7 q8 q9 q10 q11 q12 q13 q14
  refine (fmul_r (R1.out.fr (v := .slice a3 n3 c3) (u := .slice b3 m3 d3) (r := v) mq2 mq3 Ev.out) (R1.out.fr (v := .slice a1 n1 c1) (u := .slice b1 m1 d1) (r := x) mq0 mq1 Ex.out) Lv.out Lx.out HRR.out).mono ?_
  rintro e w2 ⟨sx2, ax2, nx2, cx2, bx2, mx2, dx2, rfl, hr, hb, hf, hg⟩
  have E2 := Lib.hid hr.1.1
  have R2 := Lib.hid (R1.out.ret2 hb hr.1.2 hf hr.2.2 hg)
  have FF2 := Lib.hid (hf.mono R1.out.below.size)
  have FG2 := Lib.hid (hg.mono R1.out.below.size)
  clear hr hb hf hg
  have Q15 := Lib.hid (Sf.row (pre := []) R2.out [.int .i64 sx2, .slice ax2 nx2 cx2, .int .i64 1, .slice bx2 mx2 dx2])
  go_wp2_with (first | refine wpList_store_row rfl _ _ _ rfl _ #[.int .i64 sx2, .slice ax2 nx2 cx2, .int .i64 1, .slice bx2 mx2 dx2] rfl rfl _ _ (R2.out.box _ mq0) (by kernel_rfl) rfl (by simp [Value.oneCell']) ?_)
  refine bodyPost_ret (ret_row rfl _ _ _ _ rfl (run_loadVar_row _ _ _ _ _ (0, 0) _ (Q15.out.box _ mq0) Tryz.underlying28 rfl (by kernel_rfl))) rfl ⟨_, _, _, _, _, _, _, rfl, (Q15.out.fr (v := .slice ax2 nx2 cx2) (u := .slice bx2 mx2 dx2) (r := r) mq0 mq1 E2.out), Q15.out.below, FF2.out, FG2.out⟩

end Go.Proofs.YtmhdhabgdlefjaaGreatDoor.Un

namespace Go.Proofs.YtmhdhabgdlefjaaGreatDoor.Un
open Go.RowKit Bi Dm

/-- A unit as a result. -/
def UV (f : Nat → Int) (r : Rat) (w : World) (e : Ending) (w' : World) : Prop := ∃ s a n c b m d, e = .returned (.agg (uc f s (.slice a n c) 1 (.slice b m d))) ∧ Fr w' s (.slice a n c) (.slice b m d) r ∧ RowKit.Below w.heap.size w w' ∧ Fresh w.heap.size (.slice a n c) ∧ Fresh w.heap.size (.slice b m d)
theorem mu_step (R q : Rat) (k : Nat) : R * pwN q k * q = R * pwN q (k + 1) := by rw [Rat.mul_assoc]; rfl
theorem md_step {q : Rat} (h : q ≠ 0) (R : Rat) (k : Nat) : R * (1 / pwN q k) / q = R * (1 / pwN q (k + 1)) := by
  rw [← pwD_step h k, Rat.div_def (1 / pwN q k), ← Rat.mul_assoc, ← Rat.div_def]
theorem mu_le {R q : Rat} (hR : FSz 900 R) (h : FSz 3 q) {k : Nat} (hk : k ≤ 9) : FSz 1000 (R * pwN q k) := by
  have h1 := pwN_szj h k
  exact (hR.mul h1 (k := 900 + (3 * k + 1)) rfl).mono (by omega)
theorem md_le {R q : Rat} (hR : FSz 900 R) (h : FSz 3 q) (h0 : q ≠ 0) {k : Nat} (hk : k ≤ 9) : FSz 1000 (R * (1 / pwN q k)) := by
  have h1 := (FSz.one (by decide) (by decide) : FSz 1 (1 : Rat)).div (pwN_szj h k) (pwN_ne h0 k) (k := 1 + (3 * k + 1)) (by omega)
  exact (hR.mul h1 (k := 900 + (1 + (3 * k + 1))) rfl).mono (by omega)
theorem max_up (n : Nat) : max (n : Int) (-(n : Int)) = (n : Int) := by omega
theorem max_dn (n : Nat) : max (-(n : Int)) (n : Int) = (n : Int) := by omega

set_option maxHeartbeats 8000000 in
theorem umultiply_up {w : World} {f U G : Nat → Int} {s1 : Int} {a1 b1 : Option Addr} {n1 c1 m1 d1 : Nat} {x : Rat} {s2 : Int} {a2 b2 : Option Addr} {n2 c2 m2 d2 : Nat} {y : Rat} (hx : Fr w s1 (.slice a1 n1 c1) (.slice b1 m1 d1) x) (hy : Fr w s2 (.slice a2 n2 c2) (.slice b2 m2 d2) y) (lx : FSz 900 x) (ly : FSz 3 y) (y0 : y ≠ 0) (NN : Nat) (hn : NN ≤ 9) (hn0 : 0 < NN)
    (hG : ∀ j, j < 6 → G j = f j + U j * (NN : Int) ∧ -1000 ≤ U j * (NN : Int) ∧ U j * (NN : Int) ≤ 1000 ∧ -1000 ≤ f j ∧ f j ≤ 1000) (hG6 : ∀ i, 6 ≤ i → f i = G i) :
    Calls Tryz.prog 38 #[.agg (uc f s1 (.slice a1 n1 c1) 1 (.slice b1 m1 d1)), .agg (uc U s2 (.slice a2 n2 c2) 1 (.slice b2 m2 d2)), .int .i64 (NN : Int)] w (UV G (x * pwN y NN) w) := by
  have Ex := Lib.hid hx.1.1
  have Ey := Lib.hid hy.1.1
  have Lx := Lib.hid lx
  have Ly := Lib.hid ly
  have LY := Lib.hid (ly.mono (j := 1000))
  have Y0 := Lib.hid y0
  have HG := Lib.hid hG
  have HG6 := Lib.hid hG6
  have HI : Hid (∀ k : Nat, k < 6 → ∀ w, (Instr.index 23 (.agg (cl U)) (.int .i64 (k : Int))).run Tryz.prog w = .ok (.int .i64 (U k)) w) := Lib.hid (fun k hk w => idx_at U k hk w)
  unfold cl at HI
  have s0 := ((((((((Sf.start w).arg hx.2.2).arg hx.1.2).arg hy.2.2).arg hy.1.2).put [.int .i64 (f 0), .int .i64 (f 1), .int .i64 (f 2), .int .i64 (f 3), .int .i64 (f 4), .int .i64 (f 5), .int .i64 s1, .slice a1 n1 c1, .int .i64 1, .slice b1 m1 d1] 30).put [.int .i64 (U 0), .int .i64 (U 1), .int .i64 (U 2), .int .i64 (U 3), .int .i64 (U 4), .int .i64 (U 5), .int .i64 s2, .slice a2 n2 c2, .int .i64 1, .slice b2 m2 d2] 30).put [.int .i64 0, .int .i64 0, .int .i64 0, .int .i64 0, .int .i64 0, .int .i64 0, .int .i64 0, .slice none 0 0, .int .i64 0, .slice none 0 0] 30)
  try simp only [World.size_alloc] at s0
  have S0 := Lib.hid s0
  clear s0
  obtain ⟨XX, hXX⟩ : ∃ XX : Int, (NN : Int) = XX := ⟨_, rfl⟩
  have HXX := Lib.hid hXX
  rw [hXX] at HG ⊢
  clear hx hy lx ly y0 hG hG6 hXX
  unfold UV uc
  go_enter Tryz.func38, Tryz.ntmps38
  obtain ⟨q1, q2, q3, q4, q5, q6, q7, q8, q9, q10⟩ := Fb.cells10 (S0.out.box (w.heap.size + 1, 30, [.int .i64 (U 0), .int .i64 (U 1), .int .i64 (U 2), .int .i64 (U 3), .int .i64 (U 4), .int .i64 (U 5), .int .i64 s2, .slice a2 n2 c2, .int .i64 1, .slice b2 m2 d2]) mq1)
  go_wp2_with fail
  clear q1 q2 q3 q4 q5 q6 q7 q8 q9 q10
  go_loopw [12] (fun t wz => ∃ j : Nat, j ≤ 6 ∧ t = .int .i64 (j : Int) ∧ Sf w [(w.heap.size + 1 + 1, 30, [.int .i64 0, .int .i64 0, .int .i64 0, .int .i64 0, .int .i64 0, .int .i64 0, .int .i64 0, .slice none 0 0, .int .i64 0, .slice none 0 0]), (w.heap.size + 1, 30, [.int .i64 (U 0), .int .i64 (U 1), .int .i64 (U 2), .int .i64 (U 3), .int .i64 (U 4), .int .i64 (U 5), .int .i64 s2, .slice a2 n2 c2, .int .i64 1, .slice b2 m2 d2]), (w.heap.size, 30, [.int .i64 ((mix f G j) 0), .int .i64 ((mix f G j) 1), .int .i64 ((mix f G j) 2), .int .i64 ((mix f G j) 3), .int .i64 ((mix f G j) 4), .int .i64 ((mix f G j) 5), .int .i64 s1, .slice a1 n1 c1, .int .i64 1, .slice b1 m1 d1])] [(.slice a2 n2 c2, digs (y).num.natAbs), (.slice b2 m2 d2, digs (((y).den : Int)).natAbs), (.slice a1 n1 c1, digs (x).num.natAbs), (.slice b1 m1 d1, digs (((x).den : Int)).natAbs)] wz) (fun t _ => 6 - (RowKit.intOf t).toNat)
  case atStart => exact ⟨0, by omega, rfl, by rw [mix_zero]; exact S0.out⟩
  case round =>
    obtain ⟨j, hj, rfl, hz⟩ := hrel
    have HZ := Lib.hid hz
    by_cases hjl : j < 6
    · have hca : wr.cell? ⟨w.heap.size, j, none⟩ = some (.int .i64 (f j)) := by rw [(hz.box _ (List.mem_cons_of_mem _ (List.mem_cons_of_mem _ List.mem_cons_self))).cell, dim_cell _ _ j hjl, mix_at]
      have hfr : wr.frozen? ⟨w.heap.size, j, none⟩ = false := (hz.box _ (List.mem_cons_of_mem _ (List.mem_cons_of_mem _ List.mem_cons_self))).free j
      have hi1 := ia_at w.heap.size j hjl
      have hix := HI.out j hjl
      have hlt2 : decide ((j : Int) < 6) = true := by simp; omega
      have hbd := HG.out j hjl
      have HN : Hid (∀ W : World, W.heap = wr.heap → W.os = wr.os → W.tape = wr.tape → W.output = wr.output → Sf w [(w.heap.size + 1 + 1, 30, [.int .i64 0, .int .i64 0, .int .i64 0, .int .i64 0, .int .i64 0, .int .i64 0, .int .i64 0, .slice none 0 0, .int .i64 0, .slice none 0 0]), (w.heap.size + 1, 30, [.int .i64 (U 0), .int .i64 (U 1), .int .i64 (U 2), .int .i64 (U 3), .int .i64 (U 4), .int .i64 (U 5), .int .i64 s2, .slice a2 n2 c2, .int .i64 1, .slice b2 m2 d2]), (w.heap.size, 30, [.int .i64 ((mix f G (j + 1)) 0), .int .i64 ((mix f G (j + 1)) 1), .int .i64 ((mix f G (j + 1)) 2), .int .i64 ((mix f G (j + 1)) 3), .int .i64 ((mix f G (j + 1)) 4), .int .i64 ((mix f G (j + 1)) 5), .int .i64 s1, .slice a1 n1 c1, .int .i64 1, .slice b1 m1 d1])] [(.slice a2 n2 c2, digs (y).num.natAbs), (.slice b2 m2 d2, digs (((y).den : Int)).natAbs), (.slice a1 n1 c1, digs (x).num.natAbs), (.slice b1 m1 d1, digs (((x).den : Int)).natAbs)] (W.setCell ⟨w.heap.size, j, none⟩ (.int .i64 (G j)))) := Lib.hid (fun W e1 e2 e3 e4 => by
        have h := Sf.set (pre := [(w.heap.size + 1 + 1, 30, [.int .i64 0, .int .i64 0, .int .i64 0, .int .i64 0, .int .i64 0, .int .i64 0, .int .i64 0, .slice none 0 0, .int .i64 0, .slice none 0 0]), (w.heap.size + 1, 30, [.int .i64 (U 0), .int .i64 (U 1), .int .i64 (U 2), .int .i64 (U 3), .int .i64 (U 4), .int .i64 (U 5), .int .i64 s2, .slice a2 n2 c2, .int .i64 1, .slice b2 m2 d2])]) (HZ.out.heap e1 e2 e3 e4) j (.int .i64 (G j))
        rw [mix_cells _ _ j _ hjl] at h
        exact h)
      obtain ⟨y1, hy1⟩ : ∃ y, U j = y := ⟨_, rfl⟩
      obtain ⟨v, hv⟩ : ∃ v, f j = v := ⟨_, rfl⟩
      rw [hv] at hca hbd
      rw [hy1] at hix hbd
      have hw1 : IntKind.i64.wrap (y1 * XX) = y1 * XX := IntWalk.i64_in _ (by omega)
      have hw2 : IntKind.i64.wrap (v + y1 * XX) = v + y1 * XX := IntWalk.i64_in _ (by omega)
      rw [hbd.1] at HN
      clear hz hbd hy1 hv
      go_wp2_with fail
      have HM := Lib.hid (HN.out wr rfl rfl rfl rfl)
      go_roundw
      case rel => exact ⟨j + 1, hjl, by go_num, HM.out⟩
      case measure => simp [RowKit.intOf]; omega
    · obtain rfl : j = 6 := by omega
      have hlt2 : decide (((6 : Nat) : Int) < 6) = false := by decide
      rw [mix_all f G HG6.out] at hz
      have HZ2 := Lib.hid hz
      have HXX2 := HXX.out
      clear hz HZ
      have gx : decide ((NN : Int) < 0) = false := by simp
      have hmx := max_up NN
      have hwn : IntKind.i64.wrap (-(NN : Int)) = -(NN : Int) := IntWalk.i64_in _ (by omega)
      subst HXX2
      go_wp2_with fail
      have h00 : x * pwN y 0 = x := by show x * 1 = x; rw [Rat.mul_one]
      go_loopw [33] (fun t wz => ∃ (k : Nat) (s : Int) (a : Option Addr) (n c : Nat) (b : Option Addr) (m d : Nat), k ≤ NN ∧ t = .int .i64 (k : Int) ∧ s = (x * pwN y k).num.sign ∧ (0 < k → Fresh w.heap.size (.slice a n c) ∧ Fresh w.heap.size (.slice b m d)) ∧ Sf w [(w.heap.size + 1 + 1, 30, [.int .i64 0, .int .i64 0, .int .i64 0, .int .i64 0, .int .i64 0, .int .i64 0, .int .i64 0, .slice none 0 0, .int .i64 0, .slice none 0 0]), (w.heap.size + 1, 30, [.int .i64 (U 0), .int .i64 (U 1), .int .i64 (U 2), .int .i64 (U 3), .int .i64 (U 4), .int .i64 (U 5), .int .i64 s2, .slice a2 n2 c2, .int .i64 1, .slice b2 m2 d2]), (w.heap.size, 30, [.int .i64 (G 0), .int .i64 (G 1), .int .i64 (G 2), .int .i64 (G 3), .int .i64 (G 4), .int .i64 (G 5), .int .i64 s, .slice a n c, .int .i64 1, .slice b m d])] [(.slice a n c, digs (x * pwN y k).num.natAbs), (.slice b m d, digs (((x * pwN y k).den : Int)).natAbs), (.slice a2 n2 c2, digs (y).num.natAbs), (.slice b2 m2 d2, digs (((y).den : Int)).natAbs)] wz) (fun t _ => 10 - (RowKit.intOf t).toNat)
      case atStart => exact ⟨0, s1, a1, n1, c1, b1, m1, d1, Nat.zero_le _, rfl, by rw [h00]; exact Ex.out, fun h => absurd h (by decide), by rw [h00]; exact Sf.facts HZ2.out (by simp)⟩
      case round =>
        obtain ⟨k, sk, ak, nk, ck, bk, mk, dk, hk, rfl, es, hfr, hS⟩ := hrel
        have ER := Lib.hid es
        have HS := Lib.hid hS
        have HFR := Lib.hid hfr
        clear es hS hfr h00
        by_cases hlt : k < NN
        · have hlt2 : decide ((k : Int) < (NN : Int)) = true := by simp; omega
          have LR : Hid (FSz 1000 (x * pwN y k)) := Lib.hid (mu_le Lx.out Ly.out (by omega))
          have HRR : Hid (x * pwN y k * y = x * pwN y (k + 1)) := Lib.hid (mu_step x y k)
          obtain ⟨R, hR⟩ : ∃ R, x * pwN y k = R := ⟨_, rfl⟩
          rw [hR] at ER HS LR HRR
          clear hR
          obtain ⟨q11, q12, q13, q14, q15, q16, q17, q18, q19, q20⟩ := Fb.cells10 (HS.out.box (w.heap.size + 1, 30, [.int .i64 (U 0), .int .i64 (U 1), .int .i64 (U 2), .int .i64 (U 3), .int .i64 (U 4), .int .i64 (U 5), .int .i64 s2, .slice a2 n2 c2, .int .i64 1, .slice b2 m2 d2]) mq1)
          obtain ⟨q21, q22, q23, q24, q25, q26, q27, q28, q29, q30⟩ := Fb.cells10 (HS.out.box (w.heap.size, 30, [.int .i64 (G 0), .int .i64 (G 1), .int .i64 (G 2), .int .i64 (G 3), .int .i64 (G 4), .int .i64 (G 5), .int .i64 sk, .slice ak nk ck, .int .i64 1, .slice bk mk dk]) mq2)
          go_wp2_with fail
          clear q11 q12 q13 q14 q15 q16 q17 q18 q19 q20 q21 q22 q23 q24 q25 q26 q27 q28 q29 q30
          refine (fmul_r (HS.out.fr (v := .slice ak nk ck) (u := .slice bk mk dk) (r := R) mq0 mq1 ER.out) (HS.out.fr (v := .slice a2 n2 c2) (u := .slice b2 m2 d2) (r := y) mq2 mq3 Ey.out) LR.out LY.out HRR.out).mono ?_
          rintro e w1 ⟨sx1, ax1, nx1, cx1, bx1, mx1, dx1, rfl, hr, hb, hf, hg⟩
          have E1 := Lib.hid hr.1.1
          have R1 := Lib.hid (HS.out.ret2 hb hr.1.2 hf hr.2.2 hg)
          have FF1 := Lib.hid (hf.mono HS.out.below.size)
          have FG1 := Lib.hid (hg.mono HS.out.below.size)
          clear hr hb hf hg
          have Q31 : Hid (Sf w ([(w.heap.size + 1 + 1, 30, [.int .i64 0, .int .i64 0, .int .i64 0, .int .i64 0, .int .i64 0, .int .i64 0, .int .i64 0, .slice none 0 0, .int .i64 0, .slice none 0 0]), (w.heap.size + 1, 30, [.int .i64 (U 0), .int .i64 (U 1), .int .i64 (U 2), .int .i64 (U 3), .int .i64 (U 4), .int .i64 (U 5), .int .i64 s2, .slice a2 n2 c2, .int .i64 1, .slice b2 m2 d2])] ++ (w.heap.size, 30, [.int .i64 (G 0), .int .i64 (G 1), .int .i64 (G 2), .int .i64 (G 3), .int .i64 (G 4), .int .i64 (G 5), .int .i64 sx1, .slice ax1 nx1 cx1, .int .i64 1, .slice bx1 mx1 dx1]) :: []) _ _) := Lib.hid (Sf.part (pre := [(w.heap.size + 1 + 1, 30, [.int .i64 0, .int .i64 0, .int .i64 0, .int .i64 0, .int .i64 0, .int .i64 0, .int .i64 0, .slice none 0 0, .int .i64 0, .slice none 0 0]), (w.heap.size + 1, 30, [.int .i64 (U 0), .int .i64 (U 1), .int .i64 (U 2), .int .i64 (U 3), .int .i64 (U 4), .int .i64 (U 5), .int .i64 s2, .slice a2 n2 c2, .int .i64 1, .slice b2 m2 d2])]) R1.out 6 7 8 9 rfl rfl rfl (.int .i64 sx1) (.slice ax1 nx1 cx1) (.int .i64 1) (.slice bx1 mx1 dx1))
          obtain ⟨V31, hV31⟩ : ∃ V, (((((w1).setCell ⟨w.heap.size, 6, none⟩ (.int .i64 sx1)).setCell ⟨w.heap.size, 7, none⟩ (.slice ax1 nx1 cx1)).setCell ⟨w.heap.size, 8, none⟩ (.int .i64 1)).setCell ⟨w.heap.size, 9, none⟩ (.slice bx1 mx1 dx1)) = V := ⟨_, rfl⟩
          rw [hV31] at Q31
          have HV31 := Lib.hid hV31
          clear hV31
          go_wp2_with (first | (refine wpList_store4 rfl _ _ _ rfl _ 6 7 8 9 rfl rfl rfl (.int .i64 sx1) (.slice ax1 nx1 cx1) (.int .i64 1) (.slice bx1 mx1 dx1) rfl rfl (R1.out.box _ mq2) (Nat.le_of_ble_eq_true rfl) infoFrac (by simp [Value.oneCell']) ?_; rw [HV31.out]))
          go_roundw
          case rel => exact ⟨k + 1, _, _, _, _, _, _, _, hlt, by go_num, E1.out, fun _ => ⟨FF1.out, FG1.out⟩, Sf.facts Q31.out (by simp)⟩
          case measure => simp [RowKit.intOf]; omega
        · obtain rfl : k = NN := by omega
          have hlt2 : decide ((k : Int) < (k : Int)) = false := by simp
          have hlt3 : decide (k < k) = false := by simp
          have hfr := HFR.out hn0
          have HFA := Lib.hid hfr.1
          have HFB := Lib.hid hfr.2
          clear hfr HFR
          obtain ⟨q32, q33, q34, q35, q36, q37, q38, q39, q40, q41⟩ := Fb.cells10 (HS.out.box (w.heap.size, 30, [.int .i64 (G 0), .int .i64 (G 1), .int .i64 (G 2), .int .i64 (G 3), .int .i64 (G 4), .int .i64 (G 5), .int .i64 sk, .slice ak nk ck, .int .i64 1, .slice bk mk dk]) mq2)
          have Q42 := Lib.hid (Sf.row (pre := []) HS.out [.int .i64 (G 0), .int .i64 (G 1), .int .i64 (G 2), .int .i64 (G 3), .int .i64 (G 4), .int .i64 (G 5), .int .i64 sk, .slice ak nk ck, .int .i64 1, .slice bk mk dk])
          go_wp2_with (first | refine wpList_store_row rfl _ _ _ rfl _ #[.int .i64 (G 0), .int .i64 (G 1), .int .i64 (G 2), .int .i64 (G 3), .int .i64 (G 4), .int .i64 (G 5), .int .i64 sk, .slice ak nk ck, .int .i64 1, .slice bk mk dk] rfl rfl _ _ (HS.out.box _ mq0) (by kernel_rfl) rfl (by simp [Value.oneCell']) ?_)
          clear q32 q33 q34 q35 q36 q37 q38 q39 q40 q41
          refine bodyPost_ret (results_cell_row rfl _ _ _ _ _ (0, 0) _ rfl (Q42.out.box _ mq0) Tryz.underlying30 rfl (by kernel_rfl)) rfl ⟨_, _, _, _, _, _, _, rfl, (Q42.out.fr (v := .slice ak nk ck) (u := .slice bk mk dk) (r := x * pwN y k) mq0 mq1 ER.out), Q42.out.below, HFA.out, HFB.out⟩

set_option maxHeartbeats 8000000 in
theorem umultiply_down {w : World} {f U G : Nat → Int} {s1 : Int} {a1 b1 : Option Addr} {n1 c1 m1 d1 : Nat} {x : Rat} {s2 : Int} {a2 b2 : Option Addr} {n2 c2 m2 d2 : Nat} {y : Rat} (hx : Fr w s1 (.slice a1 n1 c1) (.slice b1 m1 d1) x) (hy : Fr w s2 (.slice a2 n2 c2) (.slice b2 m2 d2) y) (lx : FSz 900 x) (ly : FSz 3 y) (y0 : y ≠ 0) (NN : Nat) (hn : NN ≤ 9) (hn0 : 0 < NN)
    (hG : ∀ j, j < 6 → G j = f j + U j * (-(NN : Int)) ∧ -1000 ≤ U j * (-(NN : Int)) ∧ U j * (-(NN : Int)) ≤ 1000 ∧ -1000 ≤ f j ∧ f j ≤ 1000) (hG6 : ∀ i, 6 ≤ i → f i = G i) :
    Calls Tryz.prog 38 #[.agg (uc f s1 (.slice a1 n1 c1) 1 (.slice b1 m1 d1)), .agg (uc U s2 (.slice a2 n2 c2) 1 (.slice b2 m2 d2)), .int .i64 (-(NN : Int))] w (UV G (x * (1 / pwN y NN)) w) := by
  have Ex := Lib.hid hx.1.1
  have Ey := Lib.hid hy.1.1
  have Lx := Lib.hid lx
  have Ly := Lib.hid ly
  have LY := Lib.hid (ly.mono (j := 1000))
  have Y0 := Lib.hid y0
  have HG := Lib.hid hG
  have HG6 := Lib.hid hG6
  have HI : Hid (∀ k : Nat, k < 6 → ∀ w, (Instr.index 23 (.agg (cl U)) (.int .i64 (k : Int))).run Tryz.prog w = .ok (.int .i64 (U k)) w) := Lib.hid (fun k hk w => idx_at U k hk w)
  unfold cl at HI
  have s0 := ((((((((Sf.start w).arg hx.2.2).arg hx.1.2).arg hy.2.2).arg hy.1.2).put [.int .i64 (f 0), .int .i64 (f 1), .int .i64 (f 2), .int .i64 (f 3), .int .i64 (f 4), .int .i64 (f 5), .int .i64 s1, .slice a1 n1 c1, .int .i64 1, .slice b1 m1 d1] 30).put [.int .i64 (U 0), .int .i64 (U 1), .int .i64 (U 2), .int .i64 (U 3), .int .i64 (U 4), .int .i64 (U 5), .int .i64 s2, .slice a2 n2 c2, .int .i64 1, .slice b2 m2 d2] 30).put [.int .i64 0, .int .i64 0, .int .i64 0, .int .i64 0, .int .i64 0, .int .i64 0, .int .i64 0, .slice none 0 0, .int .i64 0, .slice none 0 0] 30)
  try simp only [World.size_alloc] at s0
  have S0 := Lib.hid s0
  clear s0
  obtain ⟨XX, hXX⟩ : ∃ XX : Int, (-(NN : Int)) = XX := ⟨_, rfl⟩
  have HXX := Lib.hid hXX
  rw [hXX] at HG ⊢
  clear hx hy lx ly y0 hG hG6 hXX
  unfold UV uc
  go_enter Tryz.func38, Tryz.ntmps38
  obtain ⟨q1, q2, q3, q4, q5, q6, q7, q8, q9, q10⟩ := Fb.cells10 (S0.out.box (w.heap.size + 1, 30, [.int .i64 (U 0), .int .i64 (U 1), .int .i64 (U 2), .int .i64 (U 3), .int .i64 (U 4), .int .i64 (U 5), .int .i64 s2, .slice a2 n2 c2, .int .i64 1, .slice b2 m2 d2]) mq1)
  go_wp2_with fail
  clear q1 q2 q3 q4 q5 q6 q7 q8 q9 q10
  go_loopw [12] (fun t wz => ∃ j : Nat, j ≤ 6 ∧ t = .int .i64 (j : Int) ∧ Sf w [(w.heap.size + 1 + 1, 30, [.int .i64 0, .int .i64 0, .int .i64 0, .int .i64 0, .int .i64 0, .int .i64 0, .int .i64 0, .slice none 0 0, .int .i64 0, .slice none 0 0]), (w.heap.size + 1, 30, [.int .i64 (U 0), .int .i64 (U 1), .int .i64 (U 2), .int .i64 (U 3), .int .i64 (U 4), .int .i64 (U 5), .int .i64 s2, .slice a2 n2 c2, .int .i64 1, .slice b2 m2 d2]), (w.heap.size, 30, [.int .i64 ((mix f G j) 0), .int .i64 ((mix f G j) 1), .int .i64 ((mix f G j) 2), .int .i64 ((mix f G j) 3), .int .i64 ((mix f G j) 4), .int .i64 ((mix f G j) 5), .int .i64 s1, .slice a1 n1 c1, .int .i64 1, .slice b1 m1 d1])] [(.slice a2 n2 c2, digs (y).num.natAbs), (.slice b2 m2 d2, digs (((y).den : Int)).natAbs), (.slice a1 n1 c1, digs (x).num.natAbs), (.slice b1 m1 d1, digs (((x).den : Int)).natAbs)] wz) (fun t _ => 6 - (RowKit.intOf t).toNat)
  case atStart => exact ⟨0, by omega, rfl, by rw [mix_zero]; exact S0.out⟩
  case round =>
    obtain ⟨j, hj, rfl, hz⟩ := hrel
    have HZ := Lib.hid hz
    by_cases hjl : j < 6
    · have hca : wr.cell? ⟨w.heap.size, j, none⟩ = some (.int .i64 (f j)) := by rw [(hz.box _ (List.mem_cons_of_mem _ (List.mem_cons_of_mem _ List.mem_cons_self))).cell, dim_cell _ _ j hjl, mix_at]
      have hfr : wr.frozen? ⟨w.heap.size, j, none⟩ = false := (hz.box _ (List.mem_cons_of_mem _ (List.mem_cons_of_mem _ List.mem_cons_self))).free j
      have hi1 := ia_at w.heap.size j hjl
      have hix := HI.out j hjl
      have hlt2 : decide ((j : Int) < 6) = true := by simp; omega
      have hbd := HG.out j hjl
      have HN : Hid (∀ W : World, W.heap = wr.heap → W.os = wr.os → W.tape = wr.tape → W.output = wr.output → Sf w [(w.heap.size + 1 + 1, 30, [.int .i64 0, .int .i64 0, .int .i64 0, .int .i64 0, .int .i64 0, .int .i64 0, .int .i64 0, .slice none 0 0, .int .i64 0, .slice none 0 0]), (w.heap.size + 1, 30, [.int .i64 (U 0), .int .i64 (U 1), .int .i64 (U 2), .int .i64 (U 3), .int .i64 (U 4), .int .i64 (U 5), .int .i64 s2, .slice a2 n2 c2, .int .i64 1, .slice b2 m2 d2]), (w.heap.size, 30, [.int .i64 ((mix f G (j + 1)) 0), .int .i64 ((mix f G (j + 1)) 1), .int .i64 ((mix f G (j + 1)) 2), .int .i64 ((mix f G (j + 1)) 3), .int .i64 ((mix f G (j + 1)) 4), .int .i64 ((mix f G (j + 1)) 5), .int .i64 s1, .slice a1 n1 c1, .int .i64 1, .slice b1 m1 d1])] [(.slice a2 n2 c2, digs (y).num.natAbs), (.slice b2 m2 d2, digs (((y).den : Int)).natAbs), (.slice a1 n1 c1, digs (x).num.natAbs), (.slice b1 m1 d1, digs (((x).den : Int)).natAbs)] (W.setCell ⟨w.heap.size, j, none⟩ (.int .i64 (G j)))) := Lib.hid (fun W e1 e2 e3 e4 => by
        have h := Sf.set (pre := [(w.heap.size + 1 + 1, 30, [.int .i64 0, .int .i64 0, .int .i64 0, .int .i64 0, .int .i64 0, .int .i64 0, .int .i64 0, .slice none 0 0, .int .i64 0, .slice none 0 0]), (w.heap.size + 1, 30, [.int .i64 (U 0), .int .i64 (U 1), .int .i64 (U 2), .int .i64 (U 3), .int .i64 (U 4), .int .i64 (U 5), .int .i64 s2, .slice a2 n2 c2, .int .i64 1, .slice b2 m2 d2])]) (HZ.out.heap e1 e2 e3 e4) j (.int .i64 (G j))
        rw [mix_cells _ _ j _ hjl] at h
        exact h)
      obtain ⟨y1, hy1⟩ : ∃ y, U j = y := ⟨_, rfl⟩
      obtain ⟨v, hv⟩ : ∃ v, f j = v := ⟨_, rfl⟩
      rw [hv] at hca hbd
      rw [hy1] at hix hbd
      have hw1 : IntKind.i64.wrap (y1 * XX) = y1 * XX := IntWalk.i64_in _ (by omega)
      have hw2 : IntKind.i64.wrap (v + y1 * XX) = v + y1 * XX := IntWalk.i64_in _ (by omega)
      rw [hbd.1] at HN
      clear hz hbd hy1 hv
      go_wp2_with fail
      have HM := Lib.hid (HN.out wr rfl rfl rfl rfl)
      go_roundw
      case rel => exact ⟨j + 1, hjl, by go_num, HM.out⟩
      case measure => simp [RowKit.intOf]; omega
    · obtain rfl : j = 6 := by omega
      have hlt2 : decide (((6 : Nat) : Int) < 6) = false := by decide
      rw [mix_all f G HG6.out] at hz
      have HZ2 := Lib.hid hz
      have HXX2 := HXX.out
      clear hz HZ
      have gx : decide (-(NN : Int) < 0) = true := by simp; omega
      have gx2 : -(NN : Int) < 0 := by omega
      have hmx := max_dn NN
      have hwn : IntKind.i64.wrap (NN : Int) = (NN : Int) := IntWalk.i64_in _ (by omega)
      subst HXX2
      go_wp2_with fail
      have h00 : x * (1 / pwN y 0) = x := by show x * (1 / 1) = x; rw [one_one, Rat.mul_one]
      go_loopw [33] (fun t wz => ∃ (k : Nat) (s : Int) (a : Option Addr) (n c : Nat) (b : Option Addr) (m d : Nat), k ≤ NN ∧ t = .int .i64 (k : Int) ∧ s = (x * (1 / pwN y k)).num.sign ∧ (0 < k → Fresh w.heap.size (.slice a n c) ∧ Fresh w.heap.size (.slice b m d)) ∧ Sf w [(w.heap.size + 1 + 1, 30, [.int .i64 0, .int .i64 0, .int .i64 0, .int .i64 0, .int .i64 0, .int .i64 0, .int .i64 0, .slice none 0 0, .int .i64 0, .slice none 0 0]), (w.heap.size + 1, 30, [.int .i64 (U 0), .int .i64 (U 1), .int .i64 (U 2), .int .i64 (U 3), .int .i64 (U 4), .int .i64 (U 5), .int .i64 s2, .slice a2 n2 c2, .int .i64 1, .slice b2 m2 d2]), (w.heap.size, 30, [.int .i64 (G 0), .int .i64 (G 1), .int .i64 (G 2), .int .i64 (G 3), .int .i64 (G 4), .int .i64 (G 5), .int .i64 s, .slice a n c, .int .i64 1, .slice b m d])] [(.slice a n c, digs (x * (1 / pwN y k)).num.natAbs), (.slice b m d, digs (((x * (1 / pwN y k)).den : Int)).natAbs), (.slice a2 n2 c2, digs (y).num.natAbs), (.slice b2 m2 d2, digs (((y).den : Int)).natAbs)] wz) (fun t _ => 10 - (RowKit.intOf t).toNat)
      case atStart => exact ⟨0, s1, a1, n1, c1, b1, m1, d1, Nat.zero_le _, rfl, by rw [h00]; exact Ex.out, fun h => absurd h (by decide), by rw [h00]; exact Sf.facts HZ2.out (by simp)⟩
      case round =>
        obtain ⟨k, sk, ak, nk, ck, bk, mk, dk, hk, rfl, es, hfr, hS⟩ := hrel
        have ER := Lib.hid es
        have HS := Lib.hid hS
        have HFR := Lib.hid hfr
        clear es hS hfr h00
        by_cases hlt : k < NN
        · have hlt2 : decide ((k : Int) < (NN : Int)) = true := by simp; omega
          have LR : Hid (FSz 1000 (x * (1 / pwN y k))) := Lib.hid (md_le Lx.out Ly.out Y0.out (by omega))
          have HRR : Hid (x * (1 / pwN y k) / y = x * (1 / pwN y (k + 1))) := Lib.hid (md_step Y0.out x k)
          obtain ⟨R, hR⟩ : ∃ R, x * (1 / pwN y k) = R := ⟨_, rfl⟩
          rw [hR] at ER HS LR HRR
          clear hR
          obtain ⟨q11, q12, q13, q14, q15, q16, q17, q18, q19, q20⟩ := Fb.cells10 (HS.out.box (w.heap.size + 1, 30, [.int .i64 (U 0), .int .i64 (U 1), .int .i64 (U 2), .int .i64 (U 3), .int .i64 (U 4), .int .i64 (U 5), .int .i64 s2, .slice a2 n2 c2, .int .i64 1, .slice b2 m2 d2]) mq1)
          obtain ⟨q21, q22, q23, q24, q25, q26, q27, q28, q29, q30⟩ := Fb.cells10 (HS.out.box (w.heap.size, 30, [.int .i64 (G 0), .int .i64 (G 1), .int .i64 (G 2), .int .i64 (G 3), .int .i64 (G 4), .int .i64 (G 5), .int .i64 sk, .slice ak nk ck, .int .i64 1, .slice bk mk dk]) mq2)
          go_wp2_with fail
          clear q11 q12 q13 q14 q15 q16 q17 q18 q19 q20 q21 q22 q23 q24 q25 q26 q27 q28 q29 q30
          refine (fdiv_r (HS.out.fr (v := .slice ak nk ck) (u := .slice bk mk dk) (r := R) mq0 mq1 ER.out) (HS.out.fr (v := .slice a2 n2 c2) (u := .slice b2 m2 d2) (r := y) mq2 mq3 Ey.out) LR.out LY.out Y0.out HRR.out).mono ?_
          rintro e w1 ⟨sx1, ax1, nx1, cx1, bx1, mx1, dx1, rfl, hr, hb, hf, hg⟩
          have E1 := Lib.hid hr.1.1
          have R1 := Lib.hid (HS.out.ret2 hb hr.1.2 hf hr.2.2 hg)
          have FF1 := Lib.hid (hf.mono HS.out.below.size)
          have FG1 := Lib.hid (hg.mono HS.out.below.size)
          clear hr hb hf hg
          have Q31 : Hid (Sf w ([(w.heap.size + 1 + 1, 30, [.int .i64 0, .int .i64 0, .int .i64 0, .int .i64 0, .int .i64 0, .int .i64 0, .int .i64 0, .slice none 0 0, .int .i64 0, .slice none 0 0]), (w.heap.size + 1, 30, [.int .i64 (U 0), .int .i64 (U 1), .int .i64 (U 2), .int .i64 (U 3), .int .i64 (U 4), .int .i64 (U 5), .int .i64 s2, .slice a2 n2 c2, .int .i64 1, .slice b2 m2 d2])] ++ (w.heap.size, 30, [.int .i64 (G 0), .int .i64 (G 1), .int .i64 (G 2), .int .i64 (G 3), .int .i64 (G 4), .int .i64 (G 5), .int .i64 sx1, .slice ax1 nx1 cx1, .int .i64 1, .slice bx1 mx1 dx1]) :: []) _ _) := Lib.hid (Sf.part (pre := [(w.heap.size + 1 + 1, 30, [.int .i64 0, .int .i64 0, .int .i64 0, .int .i64 0, .int .i64 0, .int .i64 0, .int .i64 0, .slice none 0 0, .int .i64 0, .slice none 0 0]), (w.heap.size + 1, 30, [.int .i64 (U 0), .int .i64 (U 1), .int .i64 (U 2), .int .i64 (U 3), .int .i64 (U 4), .int .i64 (U 5), .int .i64 s2, .slice a2 n2 c2, .int .i64 1, .slice b2 m2 d2])]) R1.out 6 7 8 9 rfl rfl rfl (.int .i64 sx1) (.slice ax1 nx1 cx1) (.int .i64 1) (.slice bx1 mx1 dx1))
          obtain ⟨V31, hV31⟩ : ∃ V, (((((w1).setCell ⟨w.heap.size, 6, none⟩ (.int .i64 sx1)).setCell ⟨w.heap.size, 7, none⟩ (.slice ax1 nx1 cx1)).setCell ⟨w.heap.size, 8, none⟩ (.int .i64 1)).setCell ⟨w.heap.size, 9, none⟩ (.slice bx1 mx1 dx1)) = V := ⟨_, rfl⟩
          rw [hV31] at Q31
          have HV31 := Lib.hid hV31
          clear hV31
          go_wp2_with (first | (refine wpList_store4 rfl _ _ _ rfl _ 6 7 8 9 rfl rfl rfl (.int .i64 sx1) (.slice ax1 nx1 cx1) (.int .i64 1) (.slice bx1 mx1 dx1) rfl rfl (R1.out.box _ mq2) (Nat.le_of_ble_eq_true rfl) infoFrac (by simp [Value.oneCell']) ?_; rw [HV31.out]))
          go_roundw
          case rel => exact ⟨k + 1, _, _, _, _, _, _, _, hlt, by go_num, E1.out, fun _ => ⟨FF1.out, FG1.out⟩, Sf.facts Q31.out (by simp)⟩
          case measure => simp [RowKit.intOf]; omega
        · obtain rfl : k = NN := by omega
          have hlt2 : decide ((k : Int) < (k : Int)) = false := by simp
          have hlt3 : decide (k < k) = false := by simp
          have hfr := HFR.out hn0
          have HFA := Lib.hid hfr.1
          have HFB := Lib.hid hfr.2
          clear hfr HFR
          obtain ⟨q32, q33, q34, q35, q36, q37, q38, q39, q40, q41⟩ := Fb.cells10 (HS.out.box (w.heap.size, 30, [.int .i64 (G 0), .int .i64 (G 1), .int .i64 (G 2), .int .i64 (G 3), .int .i64 (G 4), .int .i64 (G 5), .int .i64 sk, .slice ak nk ck, .int .i64 1, .slice bk mk dk]) mq2)
          have Q42 := Lib.hid (Sf.row (pre := []) HS.out [.int .i64 (G 0), .int .i64 (G 1), .int .i64 (G 2), .int .i64 (G 3), .int .i64 (G 4), .int .i64 (G 5), .int .i64 sk, .slice ak nk ck, .int .i64 1, .slice bk mk dk])
          go_wp2_with (first | refine wpList_store_row rfl _ _ _ rfl _ #[.int .i64 (G 0), .int .i64 (G 1), .int .i64 (G 2), .int .i64 (G 3), .int .i64 (G 4), .int .i64 (G 5), .int .i64 sk, .slice ak nk ck, .int .i64 1, .slice bk mk dk] rfl rfl _ _ (HS.out.box _ mq0) (by kernel_rfl) rfl (by simp [Value.oneCell']) ?_)
          clear q32 q33 q34 q35 q36 q37 q38 q39 q40 q41
          refine bodyPost_ret (results_cell_row rfl _ _ _ _ _ (0, 0) _ rfl (Q42.out.box _ mq0) Tryz.underlying30 rfl (by kernel_rfl)) rfl ⟨_, _, _, _, _, _, _, rfl, (Q42.out.fr (v := .slice ak nk ck) (u := .slice bk mk dk) (r := x * (1 / pwN y k)) mq0 mq1 ER.out), Q42.out.below, HFA.out, HFB.out⟩
/-- Any exponent of an item. -/
theorem umultiply_k {w : World} {f U G : Nat → Int} {s1 : Int} {a1 b1 : Option Addr} {n1 c1 m1 d1 : Nat} {x : Rat} {s2 : Int} {a2 b2 : Option Addr} {n2 c2 m2 d2 : Nat} {y : Rat} (hx : Fr w s1 (.slice a1 n1 c1) (.slice b1 m1 d1) x) (hy : Fr w s2 (.slice a2 n2 c2) (.slice b2 m2 d2) y) (lx : FSz 900 x) (ly : FSz 3 y) (y0 : y ≠ 0) (z : Int) (hz : -9 ≤ z ∧ z ≤ 9) (hz0 : z ≠ 0) {r : Rat} (hr : x * pwZ y z = r)
    (hG : ∀ j, j < 6 → G j = f j + U j * z ∧ -1000 ≤ U j * z ∧ U j * z ≤ 1000 ∧ -1000 ≤ f j ∧ f j ≤ 1000) (hG6 : ∀ i, 6 ≤ i → f i = G i) :
    Calls Tryz.prog 38 #[.agg (uc f s1 (.slice a1 n1 c1) 1 (.slice b1 m1 d1)), .agg (uc U s2 (.slice a2 n2 c2) 1 (.slice b2 m2 d2)), .int .i64 z] w (UV G r w) := by
  subst hr
  by_cases h : 0 ≤ z
  · obtain ⟨n, rfl⟩ := Int.eq_ofNat_of_zero_le h
    have e : pwZ y (n : Int) = pwN y n := by unfold pwZ; rw [if_pos h]; rfl
    rw [e]
    exact umultiply_up hx hy lx ly y0 n (by omega) (by omega) hG hG6
  · obtain ⟨n, hn⟩ := Int.eq_ofNat_of_zero_le (a := -z) (by omega)
    obtain rfl : z = -(n : Int) := by omega
    have e : pwZ y (-(n : Int)) = 1 / pwN y n := by unfold pwZ; rw [if_neg h]; simp
    rw [e]
    exact umultiply_down hx hy lx ly y0 n (by omega) (by omega) hG hG6
end Go.Proofs.YtmhdhabgdlefjaaGreatDoor.Un
