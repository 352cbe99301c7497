/- The contract of the reference's Items. -/
import Derived.Deep.LoopGhost
import Derived.Deep.CutRange
import Derived.Deep.CutBlock
import Derived.Test.YtmhdhabgdlefjaaGreatDoorPTells30
set_option maxRecDepth 100000
namespace Go.Proofs.YtmhdhabgdlefjaaGreatDoor.Un
open Go.RowKit Dm

/-- What Items returns. -/
def ItemsEnd (L : List UInt8) (w : World) (e : Ending) (w' : World) : Prop := match itemsL L with
  | none => e = .returned (.tuple #[.slice none 0 0, .bool false]) ∧ RowKit.Below w.heap.size w w'
  | some l => ∃ a c, e = .returned (.tuple #[.slice a l.length c, .bool true]) ∧ OwnIt w' (.slice a l.length c) l ∧ RowKit.Below w.heap.size w w' ∧ ∀ b, blk (.slice a l.length c) = some b → w.heap.size ≤ b
theorem items_none {L : List UInt8} {w w' : World} {e : Ending} (h : itemsL L = none) (he : e = .returned (.tuple #[.slice none 0 0, .bool false])) (hb : RowKit.Below w.heap.size w w') : ItemsEnd L w e w' := by
  unfold ItemsEnd; rw [h]; exact ⟨he, hb⟩
theorem items_some {L : List UInt8} {w w' : World} {e : Ending} {l : List (List UInt8 × Int)} {a : Option Addr} {c : Nat} (h : itemsL L = some l) (he : e = .returned (.tuple #[.slice a l.length c, .bool true])) (ho : OwnIt w' (.slice a l.length c) l) (hb : RowKit.Below w.heap.size w w') (hn : ∀ b, blk (.slice a l.length c) = some b → w.heap.size ≤ b) : ItemsEnd L w e w' := by
  unfold ItemsEnd; rw [h]; exact ⟨a, c, he, ho, hb, hn⟩
/-- What holds in the loop. -/
structure Im (w : World) (S : List UInt8) (p : Nat) (l : List (List UInt8 × Int)) (v : Value) (wr : World) : Prop where
  own : OwnIt wr v l
  below : RowKit.Below w.heap.size w wr
  new : ∀ b, blk v = some b → w.heap.size ≤ b
  eq : itemsL S = (tailL (S.drop p)).map (l ++ ·)
  le : p ≤ S.length
  len : l.length ≤ p
theorem Im.later {w wr w' : World} {S : List UInt8} {p : Nat} {l : List (List UInt8 × Int)} {v : Value} (h : Im w S p l v wr) (hb : RowKit.Below wr.heap.size wr w') : Im w S p l v w' :=
  ⟨Own.grown h.own (grownBy_none hb) (by cases h' : blk v <;> simp), h.below.trans (hb.mono h.below.size), h.new, h.eq, h.le, h.len⟩
/-- One more item. -/
theorem Im.snoc {w wr w' : World} {S r v : List UInt8} {n p : Nat} {m : Int} {c : UInt8} {l : List (List UInt8 × Int)} {u u' : Value} {B : Nat} (h : Im w S p l u wr) (hc : signB c = true) (hd : S.drop p = c :: S.drop (p + 1)) (hp : p < S.length) (hi : itemL (S.drop (p + 1)) = some ((v, n), r)) (hm : m = if c = 47 then -(n : Int) else (n : Int))
    (ho : OwnIt w' u' (l ++ [(v, m)])) (hg : (wr.alloc (.cells #[sv v, .int .i64 m] 70)).grownBy w' (blk u)) (hB : B = wr.heap.size + 1) (hb : blk u' = none ∨ blk u' = blk u ∨ blk u' = some B) : Im w S (S.length - r.length) (l ++ [(v, m)]) u' w' := by
  obtain ⟨h1, h2, h3⟩ := drop_suffix rfl (by omega) hi
  refine ⟨ho, ?_, fun b e => ?_, ?_, by omega, by simp; have := h.len; omega⟩
  · exact (h.below.alloc h.below.size _).grown hg (by simp; exact Nat.le_succ_of_le h.below.size) (fun b e => h.new b e)
  · rcases hb with hb | hb | hb
    · rw [hb] at e; cases e
    · rw [hb] at e; exact h.new b e
    · rw [hb] at e; injection e with e; have := h.below.size; omega
  · rw [h.eq, hd, tailL_some hc hi, h1, Option.map_map, ← hm]
    congr 1
    funext t
    simp

theorem exp_le (s : List UInt8) : (expL s).1 ≤ 9 := by
  cases s with
  | nil => show 1 ≤ 9; omega
  | cons c r =>
    rw [expL]
    split
    · rename_i h
      unfold digitB at h
      simp only [Bool.and_eq_true, decide_eq_true_eq] at h
      show c.toNat - 48 ≤ 9; omega
    · show 1 ≤ 9; omega
theorem item_exp {s r v : List UInt8} {n : Nat} (h : itemL s = some ((v, n), r)) : n ≤ 9 := by
  unfold itemL at h
  split at h
  · cases h
  · simp only [Option.some.injEq, Prod.mk.injEq] at h
    have := exp_le (s.dropWhile letterB)
    rw [h.1.2] at this; exact this

set_option maxHeartbeats 8000000 in
theorem items9_one (s : ByteArray) (hs : s.size ≤ 40) (h0 : 0 < s.size) (h49 : s[0] = 49) (w : World) : Calls Tryz.prog 24 #[.string s] w (ItemsEnd s.data.toList w) := by
  have g0 : (s.toList == (⟨#[]⟩ : ByteArray).toList) = false := by
    rw [ByteArray.toList_eq, ByteArray.toList_eq, beq_eq_false_iff_ne]
    intro e; have h3 := sizeL s; rw [e] at h3; simp at h3; omega
  have g0' : s.toList.isEmpty = false := by
    rw [ByteArray.toList_eq]
    cases h : s.data.toList with
    | nil => have h3 := sizeL s; rw [h] at h3; simp at h3; omega
    | cons _ _ => rfl
  have g40 : decide (40 < s.size) = false := by simp; omega
  have g40' : decide (40 < (s.size : Int)) = false := by simp; omega
  have hs0 : s.data.toList = s[0] :: s.data.toList.drop 1 := by
    have := List.drop_eq_getElem_cons (l := s.data.toList) (i := 0) (by rw [sizeL]; omega)
    rw [List.drop_zero] at this
    rw [this]; rfl
  have HEQ : Hid (itemsL s.data.toList = (tailL (s.data.toList.drop 1)).map ([] ++ ·)) := Lib.hid (by
    have hl := sizeL s
    unfold itemsL
    rw [if_neg (by omega)]
    rw [hs0]
    simp only
    rw [if_pos h49]
    simp)
  have HST : Hid (Im w s.data.toList 1 [] (.slice none 0 0) w) := Lib.hid ⟨OwnIt.nil w, Below.refl _ _, fun b h => (by cases h), HEQ.out, by rw [sizeL]; omega, by simp⟩
  obtain ⟨y, hy⟩ : ∃ y, s[0] = y := ⟨_, rfl⟩
  have gy : ((y.toNat : Int) != 49) = false := by rw [← hy, h49]; decide
  clear hs0 h49
  go_enter Tryz.func24, Tryz.ntmps24
  go_wp2_with fail
  go_loopw [4, 5] (fun v i wr => ∃ (p : Nat) (l : List (List UInt8 × Int)) (a : Option Addr) (c : Nat), v = .slice a l.length c ∧ i = .int .i64 (p : Int) ∧ Im w s.data.toList p l (.slice a l.length c) wr) (fun _ i _ => 1001 - (RowKit.intOf i).toNat)
  case atStart => exact ⟨1, [], none, 0, rfl, rfl, HST.out⟩
  case round =>
    obtain ⟨p, l, a, c, rfl, rfl, hI⟩ := hrel
    have HI := Lib.hid hI
    have hsz : s.data.toList.length = s.size := sizeL s
    by_cases hlt : p < s.size
    · have hlt2 : decide ((p : Int) < (s.size : Int)) = true := by simp; omega
      have hd0 : s.data.toList.drop p = s[p] :: s.data.toList.drop (p + 1) := by
        rw [List.drop_eq_getElem_cons (by omega)]; congr 1
      have HSP : Hid (Calls Tryz.prog 52 #[.string s, .int .i64 ((p : Int) + 1)] wr (Gives (splitV s (p + 1)) wr)) := Lib.hid (split9_any s (by omega) (p + 1) (by omega) wr)
      have hw1 : IntKind.i64.wrap ((p : Int) + 1) = (p : Int) + 1 := IntWalk.i64_in _ (by omega)
      obtain ⟨x, hx⟩ : ∃ x, s[p] = x := ⟨_, rfl⟩
      rw [hx] at hd0
      have HX := Lib.hid hx
      have HD := Lib.hid hd0
      have HPL : Hid (p < s.data.toList.length ∧ p ≤ 999) := Lib.hid ⟨by omega, by omega⟩
      by_cases hc : signB x = true
      · rcases hit : itemL (s.data.toList.drop (p + 1)) with _ | ⟨⟨v, n⟩, r⟩
        · have hsv : splitV s (p + 1) = iV [] 0 ((p + 1 : Nat) : Int) false := by unfold splitV; rw [hit]
          rw [hsv] at HSP
          have HV : Hid (itemsL s.data.toList = none) := Lib.hid (by rw [HI.out.eq, HD.out, tailL_none hit]; rfl)
          unfold iV sv at HSP
          have HBW := Lib.hid HI.out.below
          clear hI hd0 hit hsv
          go_wp2_with fail
          refine HSP.out.mono ?_
          rintro e w5 ⟨rfl, hb5⟩
          have HB5 := Lib.hid (HBW.out.trans (hb5.mono HBW.out.size))
          have HP5 : Hid (It (w5.alloc (.cells #[.string ⟨#[]⟩, .int .i64 0] 70)) w5.heap.size (.string ⟨#[]⟩) 0) := Lib.hid (heap_alloc_new w5 _)
          have HB6 := Lib.hid (fun (c : Array Value) => below_row (HB5.out.alloc HB5.out.size (.cells #[.string ⟨#[]⟩, .int .i64 0] 70)) (b := w5.heap.size) HB5.out.size c)
          clear hb5
          go_wp2_with (first | refine wpList_store_row rfl _ _ _ rfl _ _ rfl rfl _ _ HP5.out (infoItem _ _) rfl (by simp [Value.oneCell']) ?_)
          all_goals (go_ret2; exact items_none HV.out rfl (HB6.out _))
        · have hsv : splitV s (p + 1) = iV v (n : Int) ((s.size : Int) - r.length) true := by unfold splitV; rw [hit]
          rw [hsv] at HSP
          have HIT := Lib.hid hit
          have HC := Lib.hid hc
          obtain ⟨V, hV⟩ : ∃ V : ByteArray, (⟨v.toArray⟩ : ByteArray) = V := ⟨_, rfl⟩
          have HVV : Hid (sv v = .string V) := Lib.hid (by unfold sv; rw [hV])
          have hrl := (drop_suffix rfl (by omega) hit).2
          obtain ⟨q, hq⟩ : ∃ q : Nat, s.data.toList.length - r.length = q := ⟨_, rfl⟩
          have HQ := Lib.hid hq
          have HQL : Hid (p + 1 < q ∧ q ≤ s.size) := Lib.hid (by omega)
          rw [show ((s.size : Int) - r.length) = (q : Int) by omega] at HSP
          unfold iV at HSP
          rw [HVV.out] at HSP
          by_cases h47 : x = 47
          · have g1 : ((x.toNat : Int) != 42) = true := by rw [h47]; decide
            have g2 : ((x.toNat : Int) != 47) = false := by rw [h47]; decide
            have g3 : ((x.toNat : Int) == 47) = true := by rw [h47]; decide
            have g1' : ((x.toNat : Int) == 42) = false := by rw [h47]; decide
            have HM : Hid (-(n : Int) = if x = 47 then -(n : Int) else (n : Int)) := Lib.hid (by rw [if_pos h47])
            have hnb : n ≤ 9 := item_exp hit
            have hw2 : IntKind.i64.wrap (-(n : Int)) = -(n : Int) := IntWalk.i64_in _ (by omega)
            have HBW := Lib.hid HI.out.below
            clear hI hc hd0 hit hV hrl hq h47 hsv
            go_wp2_with fail
            refine HSP.out.mono ?_
            rintro e w5 ⟨rfl, hb5⟩
            have HP5 : Hid (It (w5.alloc (.cells #[.string ⟨#[]⟩, .int .i64 0] 70)) w5.heap.size (.string ⟨#[]⟩) 0) := Lib.hid (heap_alloc_new w5 _)
            have P5 := HP5.out.row (.string V) (n : Int)
            have HI6 : Hid (Im w s.data.toList p l (.slice a l.length c) ((w5.alloc (.cells #[.string ⟨#[]⟩, .int .i64 0] 70)).setRow w5.heap.size #[.string V, .int .i64 (n : Int)])) := Lib.hid ((HI.out.later hb5).later (below_row (below_alloc w5 (.cells #[.string ⟨#[]⟩, .int .i64 0] 70)) (b := w5.heap.size) (Nat.le_refl _) _))
            have hcs := P5.cells
            have P7 := P5.set (-(n : Int))
            have HI7 : Hid (Im w s.data.toList p l (.slice a l.length c) ((((w5.alloc (.cells #[.string ⟨#[]⟩, .int .i64 0] 70)).setRow w5.heap.size #[.string V, .int .i64 (n : Int)])).setCell ⟨w5.heap.size, 1, none⟩ (.int .i64 (-(n : Int))))) := Lib.hid ((HI.out.later hb5).later (((below_row (below_alloc w5 (.cells #[.string ⟨#[]⟩, .int .i64 0] 70)) (b := w5.heap.size) (Nat.le_refl _) _)).setCell (p := ⟨w5.heap.size, 1, none⟩) (Nat.le_refl _) _))
            have HP7 := Lib.hid P7
            clear P5 P7 hb5
            go_upto_region 20 with (first | refine wpList_store_row rfl _ _ _ rfl _ _ rfl rfl _ _ HP5.out (infoItem _ _) rfl (by simp [Value.oneCell']) ?_ | fail)
            obtain ⟨W1, hW1⟩ : ∃ W, ((w5.alloc (.cells #[.string ⟨#[]⟩, .int .i64 0] 70)).setRow w5.heap.size #[.string V, .int .i64 (n : Int)]).setCell ⟨w5.heap.size, 1, none⟩ (.int .i64 (-(n : Int))) = W := ⟨_, rfl⟩
            rw [hW1] at HI7 HP7 ⊢
            obtain ⟨b1, hb1⟩ : ∃ b, w5.heap.size = b := ⟨_, rfl⟩
            rw [hb1] at HP7 ⊢
            obtain ⟨a5, c5, w6, hrun, ho, hg, hb⟩ := HI7.out.own.snoc (by have := HI7.out.len; have := HPL.out; omega) (v, (-(n : Int)))
            rw [HVV.out] at hrun
            have HN := Lib.hid (HI7.out.snoc HC.out HD.out HPL.out.1 HIT.out HM.out ho hg rfl hb)
            rw [HQ.out] at HN
            clear ho hg hb hW1 hb1 HI6 HP5
            go_wp2_with (first | refine wpList_load_row rfl _ _ rfl _ rfl _ _ _ _ HP7.out Tryz.underlying70 rfl (infoItem _ _) ?_ | (at_builtin; refine Lib.wpList_append_run _ rfl _ _ _ _ rfl _ _ rfl rfl _ _ (hrun _) ?_))
            clear hrun
            go_roundw
            case rel => exact ⟨q, l ++ [(v, (-(n : Int)))], a5, c5, by simp, rfl, by simpa using HN.out⟩
            case measure => have := HQL.out; simp [RowKit.intOf]; omega
          · have h42 : x = 42 := by
              unfold signB at hc
              simp only [Bool.or_eq_true, decide_eq_true_eq] at hc
              rcases hc with h | h
              · exact h
              · exact absurd h h47
            have g1 : ((x.toNat : Int) != 42) = false := by rw [h42]; decide
            have g1' : ((x.toNat : Int) == 42) = true := by rw [h42]; decide
            have g3 : ((x.toNat : Int) == 47) = false := by rw [h42]; decide
            have g2 : ((x.toNat : Int) != 47) = true := by rw [h42]; decide
            have HM : Hid ((n : Int) = if x = 47 then -(n : Int) else (n : Int)) := Lib.hid (by rw [if_neg h47])
            have HBW := Lib.hid HI.out.below
            clear hI hc hd0 hit hV hrl hq h47 h42 hsv
            go_wp2_with fail
            refine HSP.out.mono ?_
            rintro e w5 ⟨rfl, hb5⟩
            have HP5 : Hid (It (w5.alloc (.cells #[.string ⟨#[]⟩, .int .i64 0] 70)) w5.heap.size (.string ⟨#[]⟩) 0) := Lib.hid (heap_alloc_new w5 _)
            have P5 := HP5.out.row (.string V) (n : Int)
            have HI6 : Hid (Im w s.data.toList p l (.slice a l.length c) ((w5.alloc (.cells #[.string ⟨#[]⟩, .int .i64 0] 70)).setRow w5.heap.size #[.string V, .int .i64 (n : Int)])) := Lib.hid ((HI.out.later hb5).later (below_row (below_alloc w5 (.cells #[.string ⟨#[]⟩, .int .i64 0] 70)) (b := w5.heap.size) (Nat.le_refl _) _))
            have HI7 := Lib.hid HI6.out
            have HP7 := Lib.hid P5
            clear P5 hb5
            go_upto_region 20 with (first | refine wpList_store_row rfl _ _ _ rfl _ _ rfl rfl _ _ HP5.out (infoItem _ _) rfl (by simp [Value.oneCell']) ?_ | fail)
            obtain ⟨W1, hW1⟩ : ∃ W, ((w5.alloc (.cells #[.string ⟨#[]⟩, .int .i64 0] 70)).setRow w5.heap.size #[.string V, .int .i64 (n : Int)]) = W := ⟨_, rfl⟩
            rw [hW1] at HI7 HP7 ⊢
            obtain ⟨b1, hb1⟩ : ∃ b, w5.heap.size = b := ⟨_, rfl⟩
            rw [hb1] at HP7 ⊢
            obtain ⟨a5, c5, w6, hrun, ho, hg, hb⟩ := HI7.out.own.snoc (by have := HI7.out.len; have := HPL.out; omega) (v, (n : Int))
            rw [HVV.out] at hrun
            have HN := Lib.hid (HI7.out.snoc HC.out HD.out HPL.out.1 HIT.out HM.out ho hg rfl hb)
            rw [HQ.out] at HN
            clear ho hg hb hW1 hb1 HI6 HP5
            go_wp2_with (first | refine wpList_load_row rfl _ _ rfl _ rfl _ _ _ _ HP7.out Tryz.underlying70 rfl (infoItem _ _) ?_ | (at_builtin; refine Lib.wpList_append_run _ rfl _ _ _ _ rfl _ _ rfl rfl _ _ (hrun _) ?_))
            clear hrun
            go_roundw
            case rel => exact ⟨q, l ++ [(v, (n : Int))], a5, c5, by simp, rfl, by simpa using HN.out⟩
            case measure => have := HQL.out; simp [RowKit.intOf]; omega
      · have hc' : signB x = false := by simpa using hc
        have HV : Hid (itemsL s.data.toList = none) := Lib.hid (by rw [HI.out.eq, HD.out, tailL_bad hc']; rfl)
        have hne : x ≠ 42 ∧ x ≠ 47 := by
          unfold signB at hc'
          simp only [Bool.or_eq_false_iff, decide_eq_false_iff_not] at hc'
          exact hc'
        have g1 : ((x.toNat : Int) != 42) = true := by rw [bne_iff_ne]; intro h; exact hne.1 (UInt8.toNat_inj.1 (show x.toNat = (42 : UInt8).toNat by have h2 : x.toNat = 42 := (by omega); exact h2))
        have g2 : ((x.toNat : Int) != 47) = true := by rw [bne_iff_ne]; intro h; exact hne.2 (UInt8.toNat_inj.1 (show x.toNat = (47 : UInt8).toNat by have h2 : x.toNat = 47 := (by omega); exact h2))
        have g1' : ((x.toNat : Int) == 42) = false := by rw [beq_eq_false_iff_ne]; intro h; exact hne.1 (UInt8.toNat_inj.1 (show x.toNat = (42 : UInt8).toNat by have h2 : x.toNat = 42 := (by omega); exact h2))
        have g2' : ((x.toNat : Int) == 47) = false := by rw [beq_eq_false_iff_ne]; intro h; exact hne.2 (UInt8.toNat_inj.1 (show x.toNat = (47 : UInt8).toNat by have h2 : x.toNat = 47 := (by omega); exact h2))
        obtain ⟨v0, n0, i0, b0, hsv⟩ : ∃ v n i b, splitV s (p + 1) = iV v n i b := by
          unfold splitV
          split <;> exact ⟨_, _, _, _, rfl⟩
        rw [hsv] at HSP
        unfold iV sv at HSP
        have HBW := Lib.hid HI.out.below
        clear hI hd0 hsv hne hc hc'
        go_wp2_with fail
        refine HSP.out.mono ?_
        rintro e w5 ⟨rfl, hb5⟩
        have HB5 := Lib.hid (HBW.out.trans (hb5.mono HBW.out.size))
        have HP5 : Hid (It (w5.alloc (.cells #[.string ⟨#[]⟩, .int .i64 0] 70)) w5.heap.size (.string ⟨#[]⟩) 0) := Lib.hid (heap_alloc_new w5 _)
        have HB6 := Lib.hid (fun (c : Array Value) => below_row (HB5.out.alloc HB5.out.size (.cells #[.string ⟨#[]⟩, .int .i64 0] 70)) (b := w5.heap.size) HB5.out.size c)
        clear hb5
        go_wp2_with (first | refine wpList_store_row rfl _ _ _ rfl _ _ rfl rfl _ _ HP5.out (infoItem _ _) rfl (by simp [Value.oneCell']) ?_)
        all_goals (go_ret2; exact items_none HV.out rfl (HB6.out _))
    · obtain rfl : p = s.size := by have := HI.out.le; omega
      have hlt2 : decide ((s.size : Int) < (s.size : Int)) = false := by simp
      have hlt3 : decide (s.size < s.size) = false := by simp
      have HV : Hid (itemsL s.data.toList = some l) := Lib.hid (by rw [HI.out.eq, List.drop_eq_nil_of_le (by omega), tailL_nil]; simp)
      clear hI
      go_wp2_with fail
      go_ret2
      exact items_some HV.out rfl HI.out.own HI.out.below HI.out.new
theorem Im.first {w wr w' : World} {S r v : List UInt8} {n : Nat} {u' : Value} {B : Nat} (hb0 : RowKit.Below w.heap.size w wr) (hS : S.length ≤ 40) (hn : S.head? ≠ some 49) (hi : itemL S = some ((v, n), r))
    (ho : OwnIt w' u' ([] ++ [(v, (n : Int))])) (hg : (wr.alloc (.cells #[sv v, .int .i64 (n : Int)] 70)).grownBy w' (blk (.slice none 0 0))) (hB : B = wr.heap.size + 1) (hb : blk u' = none ∨ blk u' = blk (.slice none 0 0) ∨ blk u' = some B) : Im w S (S.length - r.length) [(v, (n : Int))] u' w' := by
  obtain ⟨h1, h2, h3⟩ := drop_suffix (S := S) (a := 0) List.drop_zero (by omega) hi
  have hne : S ≠ [] := by intro e; rw [e] at hi; cases hi
  refine ⟨ho, ?_, fun b e => ?_, ?_, by omega, by simp; omega⟩
  · exact (hb0.alloc hb0.size _).grown hg (by simp; exact Nat.le_succ_of_le hb0.size) (fun b e => by cases e)
  · rcases hb with hb | hb | hb
    · rw [hb] at e; cases e
    · rw [hb] at e; cases e
    · rw [hb] at e; injection e with e; have := hb0.size; omega
  · rw [items_star hS hn hne, tailL_some (by decide) hi, h1, if_neg (by decide)]
    rfl

set_option maxHeartbeats 8000000 in
theorem items9_item (s : ByteArray) (hs : s.size ≤ 40) (h0 : 0 < s.size) (h49 : s[0] ≠ 49) (w : World) : Calls Tryz.prog 24 #[.string s] w (ItemsEnd s.data.toList w) := by
  have g0 : (s.toList == (⟨#[]⟩ : ByteArray).toList) = false := by
    rw [ByteArray.toList_eq, ByteArray.toList_eq, beq_eq_false_iff_ne]
    intro e; have h3 := sizeL s; rw [e] at h3; simp at h3; omega
  have g0' : s.toList.isEmpty = false := by
    rw [ByteArray.toList_eq]
    cases h : s.data.toList with
    | nil => have h3 := sizeL s; rw [h] at h3; simp at h3; omega
    | cons _ _ => rfl
  have g40 : decide (40 < s.size) = false := by simp; omega
  have g40' : decide (40 < (s.size : Int)) = false := by simp; omega
  have hsl := sizeL s
  have hs0 : s.data.toList = s[0] :: s.data.toList.drop 1 := by
    have := List.drop_eq_getElem_cons (l := s.data.toList) (i := 0) (by rw [sizeL]; omega)
    rw [List.drop_zero] at this
    rw [this]; rfl
  have hhd : s.data.toList.head? ≠ some 49 := by rw [hs0]; intro e; exact h49 (by simpa using e)
  have HHD := Lib.hid hhd
  have HSL := Lib.hid hsl
  have HSP : Hid (Calls Tryz.prog 52 #[.string s, .int .i64 0] w (Gives (splitV s 0) w)) := Lib.hid (split9_any s (by omega) 0 (by omega) w)
  obtain ⟨y, hy⟩ : ∃ y, s[0] = y := ⟨_, rfl⟩
  have gy : ((y.toNat : Int) != 49) = true := by
    rw [← hy, bne_iff_ne]; intro h; exact h49 (UInt8.toNat_inj.1 (show (s[0]).toNat = (49 : UInt8).toNat by have h2 : (s[0]).toNat = 49 := (by omega); exact h2))
  rcases hit : itemL s.data.toList with _ | ⟨⟨v, n⟩, r⟩
  · have hsv : splitV s 0 = iV [] 0 ((0 : Nat) : Int) false := by unfold splitV; rw [List.drop_zero, hit]
    rw [hsv] at HSP
    have HV : Hid (itemsL s.data.toList = none) := Lib.hid (by
      rw [items_star (by omega) hhd (by intro e; rw [e] at hsl; simp at hsl; omega), tailL_none hit])
    unfold iV sv at HSP
    have HBW : Hid (RowKit.Below w.heap.size w w) := Lib.hid (Below.refl _ _)
    clear hs0 h49 hhd hit hsv
    go_enter Tryz.func24, Tryz.ntmps24
    go_wp2_with fail
    refine HSP.out.mono ?_
    rintro e w5 ⟨rfl, hb5⟩
    have HB5 := Lib.hid (HBW.out.trans (hb5.mono HBW.out.size))
    have HP5 : Hid (It (w5.alloc (.cells #[.string ⟨#[]⟩, .int .i64 0] 70)) w5.heap.size (.string ⟨#[]⟩) 0) := Lib.hid (heap_alloc_new w5 _)
    have HB6 := Lib.hid (fun (c : Array Value) => below_row (HB5.out.alloc HB5.out.size (.cells #[.string ⟨#[]⟩, .int .i64 0] 70)) (b := w5.heap.size) HB5.out.size c)
    clear hb5
    go_wp2_with (first | refine wpList_store_row rfl _ _ _ rfl _ _ rfl rfl _ _ HP5.out (infoItem _ _) rfl (by simp [Value.oneCell']) ?_)
    all_goals (go_ret2; exact items_none HV.out rfl (HB6.out _))
  · have hsv : splitV s 0 = iV v (n : Int) ((s.size : Int) - r.length) true := by unfold splitV; rw [List.drop_zero, hit]
    rw [hsv] at HSP
    have HIT := Lib.hid hit
    obtain ⟨V, hV⟩ : ∃ V : ByteArray, (⟨v.toArray⟩ : ByteArray) = V := ⟨_, rfl⟩
    have HVV : Hid (sv v = .string V) := Lib.hid (by unfold sv; rw [hV])
    have hrl := (drop_suffix (S := s.data.toList) (a := 0) List.drop_zero (by omega) hit).2
    obtain ⟨q, hq⟩ : ∃ q : Nat, s.data.toList.length - r.length = q := ⟨_, rfl⟩
    have HQ := Lib.hid hq
    rw [show ((s.size : Int) - r.length) = (q : Int) by omega] at HSP
    unfold iV at HSP
    rw [HVV.out] at HSP
    clear hs0 h49 hhd hit hsv hV hrl hq
    go_enter Tryz.func24, Tryz.ntmps24
    go_wp2_with fail
    refine HSP.out.mono ?_
    rintro e w5 ⟨rfl, hb5⟩
    have HP5 : Hid (It (w5.alloc (.cells #[.string ⟨#[]⟩, .int .i64 0] 70)) w5.heap.size (.string ⟨#[]⟩) 0) := Lib.hid (heap_alloc_new w5 _)
    have P5 := HP5.out.row (.string V) (n : Int)
    have HB7 : Hid (RowKit.Below w.heap.size w ((w5.alloc (.cells #[.string ⟨#[]⟩, .int .i64 0] 70)).setRow w5.heap.size #[.string V, .int .i64 (n : Int)])) := Lib.hid (hb5.trans ((below_row (below_alloc w5 (.cells #[.string ⟨#[]⟩, .int .i64 0] 70)) (b := w5.heap.size) (Nat.le_refl _) _).mono hb5.size))
    have HP7 := Lib.hid P5
    clear P5 hb5
    go_upto_region 11 with (first | refine wpList_store_row rfl _ _ _ rfl _ _ rfl rfl _ _ HP5.out (infoItem _ _) rfl (by simp [Value.oneCell']) ?_ | fail)
    obtain ⟨W1, hW1⟩ : ∃ W, ((w5.alloc (.cells #[.string ⟨#[]⟩, .int .i64 0] 70)).setRow w5.heap.size #[.string V, .int .i64 (n : Int)]) = W := ⟨_, rfl⟩
    rw [hW1] at HB7 HP7 ⊢
    obtain ⟨b1, hb1⟩ : ∃ b, w5.heap.size = b := ⟨_, rfl⟩
    rw [hb1] at HP7 ⊢
    obtain ⟨a5, c5, w6, hrun, ho, hg, hb⟩ := (OwnIt.nil W1).snoc (by simp) (v, (n : Int))
    rw [HVV.out] at hrun
    have HN := Lib.hid (Im.first HB7.out (by rw [HSL.out]; exact hs) HHD.out HIT.out ho hg rfl hb)
    rw [HQ.out] at HN
    simp only [List.length_nil, Nat.zero_add] at hrun HN
    clear ho hg hb hW1 hb1 HP5 HB7
    go_upto_region 12 with (first | refine wpList_load_row rfl _ _ rfl _ rfl _ _ _ _ HP7.out Tryz.underlying70 rfl (infoItem _ _) ?_ | (at_builtin; refine Lib.wpList_append_run _ rfl _ _ _ _ rfl _ _ rfl rfl _ _ (hrun _) ?_))
    clear hrun
    go_wp2_with fail
    go_loopw [4, 5] (fun v i wr => ∃ (p : Nat) (l : List (List UInt8 × Int)) (a : Option Addr) (c : Nat), v = .slice a l.length c ∧ i = .int .i64 (p : Int) ∧ Im w s.data.toList p l (.slice a l.length c) wr) (fun _ i _ => 1001 - (RowKit.intOf i).toNat)
    case atStart => exact ⟨q, [(v, (n : Int))], a5, c5, rfl, rfl, HN.out⟩
    case round =>
      obtain ⟨p, l, a, c, rfl, rfl, hI⟩ := hrel
      have HI := Lib.hid hI
      have hsz : s.data.toList.length = s.size := sizeL s
      by_cases hlt : p < s.size
      · have hlt2 : decide ((p : Int) < (s.size : Int)) = true := by simp; omega
        have hd0 : s.data.toList.drop p = s[p] :: s.data.toList.drop (p + 1) := by
          rw [List.drop_eq_getElem_cons (by omega)]; congr 1
        have HSP : Hid (Calls Tryz.prog 52 #[.string s, .int .i64 ((p : Int) + 1)] wr (Gives (splitV s (p + 1)) wr)) := Lib.hid (split9_any s (by omega) (p + 1) (by omega) wr)
        have hw1 : IntKind.i64.wrap ((p : Int) + 1) = (p : Int) + 1 := IntWalk.i64_in _ (by omega)
        obtain ⟨x, hx⟩ : ∃ x, s[p] = x := ⟨_, rfl⟩
        rw [hx] at hd0
        have HX := Lib.hid hx
        have HD := Lib.hid hd0
        have HPL : Hid (p < s.data.toList.length ∧ p ≤ 999) := Lib.hid ⟨by omega, by omega⟩
        by_cases hc : signB x = true
        · rcases hit : itemL (s.data.toList.drop (p + 1)) with _ | ⟨⟨v, n⟩, r⟩
          · have hsv : splitV s (p + 1) = iV [] 0 ((p + 1 : Nat) : Int) false := by unfold splitV; rw [hit]
            rw [hsv] at HSP
            have HV : Hid (itemsL s.data.toList = none) := Lib.hid (by rw [HI.out.eq, HD.out, tailL_none hit]; rfl)
            unfold iV sv at HSP
            have HBW := Lib.hid HI.out.below
            clear hI hd0 hit hsv
            go_wp2_with fail
            refine HSP.out.mono ?_
            rintro e w5 ⟨rfl, hb5⟩
            have HB5 := Lib.hid (HBW.out.trans (hb5.mono HBW.out.size))
            have HP5 : Hid (It (w5.alloc (.cells #[.string ⟨#[]⟩, .int .i64 0] 70)) w5.heap.size (.string ⟨#[]⟩) 0) := Lib.hid (heap_alloc_new w5 _)
            have HB6 := Lib.hid (fun (c : Array Value) => below_row (HB5.out.alloc HB5.out.size (.cells #[.string ⟨#[]⟩, .int .i64 0] 70)) (b := w5.heap.size) HB5.out.size c)
            clear hb5
            go_wp2_with (first | refine wpList_store_row rfl _ _ _ rfl _ _ rfl rfl _ _ HP5.out (infoItem _ _) rfl (by simp [Value.oneCell']) ?_)
            all_goals (go_ret2; exact items_none HV.out rfl (HB6.out _))
          · have hsv : splitV s (p + 1) = iV v (n : Int) ((s.size : Int) - r.length) true := by unfold splitV; rw [hit]
            rw [hsv] at HSP
            have HIT := Lib.hid hit
            have HC := Lib.hid hc
            obtain ⟨V, hV⟩ : ∃ V : ByteArray, (⟨v.toArray⟩ : ByteArray) = V := ⟨_, rfl⟩
            have HVV : Hid (sv v = .string V) := Lib.hid (by unfold sv; rw [hV])
            have hrl := (drop_suffix rfl (by omega) hit).2
            obtain ⟨q, hq⟩ : ∃ q : Nat, s.data.toList.length - r.length = q := ⟨_, rfl⟩
            have HQ := Lib.hid hq
            have HQL : Hid (p + 1 < q ∧ q ≤ s.size) := Lib.hid (by omega)
            rw [show ((s.size : Int) - r.length) = (q : Int) by omega] at HSP
            unfold iV at HSP
            rw [HVV.out] at HSP
            by_cases h47 : x = 47
            · have g1 : ((x.toNat : Int) != 42) = true := by rw [h47]; decide
              have g2 : ((x.toNat : Int) != 47) = false := by rw [h47]; decide
              have g3 : ((x.toNat : Int) == 47) = true := by rw [h47]; decide
              have g1' : ((x.toNat : Int) == 42) = false := by rw [h47]; decide
              have HM : Hid (-(n : Int) = if x = 47 then -(n : Int) else (n : Int)) := Lib.hid (by rw [if_pos h47])
              have hnb : n ≤ 9 := item_exp hit
              have hw2 : IntKind.i64.wrap (-(n : Int)) = -(n : Int) := IntWalk.i64_in _ (by omega)
              have HBW := Lib.hid HI.out.below
              clear hI hc hd0 hit hV hrl hq h47 hsv
              go_wp2_with fail
              refine HSP.out.mono ?_
              rintro e w5 ⟨rfl, hb5⟩
              have HP5 : Hid (It (w5.alloc (.cells #[.string ⟨#[]⟩, .int .i64 0] 70)) w5.heap.size (.string ⟨#[]⟩) 0) := Lib.hid (heap_alloc_new w5 _)
              have P5 := HP5.out.row (.string V) (n : Int)
              have HI6 : Hid (Im w s.data.toList p l (.slice a l.length c) ((w5.alloc (.cells #[.string ⟨#[]⟩, .int .i64 0] 70)).setRow w5.heap.size #[.string V, .int .i64 (n : Int)])) := Lib.hid ((HI.out.later hb5).later (below_row (below_alloc w5 (.cells #[.string ⟨#[]⟩, .int .i64 0] 70)) (b := w5.heap.size) (Nat.le_refl _) _))
              have hcs := P5.cells
              have P7 := P5.set (-(n : Int))
              have HI7 : Hid (Im w s.data.toList p l (.slice a l.length c) ((((w5.alloc (.cells #[.string ⟨#[]⟩, .int .i64 0] 70)).setRow w5.heap.size #[.string V, .int .i64 (n : Int)])).setCell ⟨w5.heap.size, 1, none⟩ (.int .i64 (-(n : Int))))) := Lib.hid ((HI.out.later hb5).later (((below_row (below_alloc w5 (.cells #[.string ⟨#[]⟩, .int .i64 0] 70)) (b := w5.heap.size) (Nat.le_refl _) _)).setCell (p := ⟨w5.heap.size, 1, none⟩) (Nat.le_refl _) _))
              have HP7 := Lib.hid P7
              clear P5 P7 hb5
              go_upto_region 20 with (first | refine wpList_store_row rfl _ _ _ rfl _ _ rfl rfl _ _ HP5.out (infoItem _ _) rfl (by simp [Value.oneCell']) ?_ | fail)
              obtain ⟨W1, hW1⟩ : ∃ W, ((w5.alloc (.cells #[.string ⟨#[]⟩, .int .i64 0] 70)).setRow w5.heap.size #[.string V, .int .i64 (n : Int)]).setCell ⟨w5.heap.size, 1, none⟩ (.int .i64 (-(n : Int))) = W := ⟨_, rfl⟩
              rw [hW1] at HI7 HP7 ⊢
              obtain ⟨b1, hb1⟩ : ∃ b, w5.heap.size = b := ⟨_, rfl⟩
              rw [hb1] at HP7 ⊢
              obtain ⟨a5, c5, w6, hrun, ho, hg, hb⟩ := HI7.out.own.snoc (by have := HI7.out.len; have := HPL.out; omega) (v, (-(n : Int)))
              rw [HVV.out] at hrun
              have HN := Lib.hid (HI7.out.snoc HC.out HD.out HPL.out.1 HIT.out HM.out ho hg rfl hb)
              rw [HQ.out] at HN
              clear ho hg hb hW1 hb1 HI6 HP5
              go_wp2_with (first | refine wpList_load_row rfl _ _ rfl _ rfl _ _ _ _ HP7.out Tryz.underlying70 rfl (infoItem _ _) ?_ | (at_builtin; refine Lib.wpList_append_run _ rfl _ _ _ _ rfl _ _ rfl rfl _ _ (hrun _) ?_))
              clear hrun
              go_roundw
              case rel => exact ⟨q, l ++ [(v, (-(n : Int)))], a5, c5, by simp, rfl, by simpa using HN.out⟩
              case measure => have := HQL.out; simp [RowKit.intOf]; omega
            · have h42 : x = 42 := by
                unfold signB at hc
                simp only [Bool.or_eq_true, decide_eq_true_eq] at hc
                rcases hc with h | h
                · exact h
                · exact absurd h h47
              have g1 : ((x.toNat : Int) != 42) = false := by rw [h42]; decide
              have g1' : ((x.toNat : Int) == 42) = true := by rw [h42]; decide
              have g3 : ((x.toNat : Int) == 47) = false := by rw [h42]; decide
              have g2 : ((x.toNat : Int) != 47) = true := by rw [h42]; decide
              have HM : Hid ((n : Int) = if x = 47 then -(n : Int) else (n : Int)) := Lib.hid (by rw [if_neg h47])
              have HBW := Lib.hid HI.out.below
              clear hI hc hd0 hit hV hrl hq h47 h42 hsv
              go_wp2_with fail
              refine HSP.out.mono ?_
              rintro e w5 ⟨rfl, hb5⟩
              have HP5 : Hid (It (w5.alloc (.cells #[.string ⟨#[]⟩, .int .i64 0] 70)) w5.heap.size (.string ⟨#[]⟩) 0) := Lib.hid (heap_alloc_new w5 _)
              have P5 := HP5.out.row (.string V) (n : Int)
              have HI6 : Hid (Im w s.data.toList p l (.slice a l.length c) ((w5.alloc (.cells #[.string ⟨#[]⟩, .int .i64 0] 70)).setRow w5.heap.size #[.string V, .int .i64 (n : Int)])) := Lib.hid ((HI.out.later hb5).later (below_row (below_alloc w5 (.cells #[.string ⟨#[]⟩, .int .i64 0] 70)) (b := w5.heap.size) (Nat.le_refl _) _))
              have HI7 := Lib.hid HI6.out
              have HP7 := Lib.hid P5
              clear P5 hb5
              go_upto_region 20 with (first | refine wpList_store_row rfl _ _ _ rfl _ _ rfl rfl _ _ HP5.out (infoItem _ _) rfl (by simp [Value.oneCell']) ?_ | fail)
              obtain ⟨W1, hW1⟩ : ∃ W, ((w5.alloc (.cells #[.string ⟨#[]⟩, .int .i64 0] 70)).setRow w5.heap.size #[.string V, .int .i64 (n : Int)]) = W := ⟨_, rfl⟩
              rw [hW1] at HI7 HP7 ⊢
              obtain ⟨b1, hb1⟩ : ∃ b, w5.heap.size = b := ⟨_, rfl⟩
              rw [hb1] at HP7 ⊢
              obtain ⟨a5, c5, w6, hrun, ho, hg, hb⟩ := HI7.out.own.snoc (by have := HI7.out.len; have := HPL.out; omega) (v, (n : Int))
              rw [HVV.out] at hrun
              have HN := Lib.hid (HI7.out.snoc HC.out HD.out HPL.out.1 HIT.out HM.out ho hg rfl hb)
              rw [HQ.out] at HN
              clear ho hg hb hW1 hb1 HI6 HP5
              go_wp2_with (first | refine wpList_load_row rfl _ _ rfl _ rfl _ _ _ _ HP7.out Tryz.underlying70 rfl (infoItem _ _) ?_ | (at_builtin; refine Lib.wpList_append_run _ rfl _ _ _ _ rfl _ _ rfl rfl _ _ (hrun _) ?_))
              clear hrun
              go_roundw
              case rel => exact ⟨q, l ++ [(v, (n : Int))], a5, c5, by simp, rfl, by simpa using HN.out⟩
              case measure => have := HQL.out; simp [RowKit.intOf]; omega
        · have hc' : signB x = false := by simpa using hc
          have HV : Hid (itemsL s.data.toList = none) := Lib.hid (by rw [HI.out.eq, HD.out, tailL_bad hc']; rfl)
          have hne : x ≠ 42 ∧ x ≠ 47 := by
            unfold signB at hc'
            simp only [Bool.or_eq_false_iff, decide_eq_false_iff_not] at hc'
            exact hc'
          have g1 : ((x.toNat : Int) != 42) = true := by rw [bne_iff_ne]; intro h; exact hne.1 (UInt8.toNat_inj.1 (show x.toNat = (42 : UInt8).toNat by have h2 : x.toNat = 42 := (by omega); exact h2))
          have g2 : ((x.toNat : Int) != 47) = true := by rw [bne_iff_ne]; intro h; exact hne.2 (UInt8.toNat_inj.1 (show x.toNat = (47 : UInt8).toNat by have h2 : x.toNat = 47 := (by omega); exact h2))
          have g1' : ((x.toNat : Int) == 42) = false := by rw [beq_eq_false_iff_ne]; intro h; exact hne.1 (UInt8.toNat_inj.1 (show x.toNat = (42 : UInt8).toNat by have h2 : x.toNat = 42 := (by omega); exact h2))
          have g2' : ((x.toNat : Int) == 47) = false := by rw [beq_eq_false_iff_ne]; intro h; exact hne.2 (UInt8.toNat_inj.1 (show x.toNat = (47 : UInt8).toNat by have h2 : x.toNat = 47 := (by omega); exact h2))
          obtain ⟨v0, n0, i0, b0, hsv⟩ : ∃ v n i b, splitV s (p + 1) = iV v n i b := by
            unfold splitV
            split <;> exact ⟨_, _, _, _, rfl⟩
          rw [hsv] at HSP
          unfold iV sv at HSP
          have HBW := Lib.hid HI.out.below
          clear hI hd0 hsv hne hc hc'
          go_wp2_with fail
          refine HSP.out.mono ?_
          rintro e w5 ⟨rfl, hb5⟩
          have HB5 := Lib.hid (HBW.out.trans (hb5.mono HBW.out.size))
          have HP5 : Hid (It (w5.alloc (.cells #[.string ⟨#[]⟩, .int .i64 0] 70)) w5.heap.size (.string ⟨#[]⟩) 0) := Lib.hid (heap_alloc_new w5 _)
          have HB6 := Lib.hid (fun (c : Array Value) => below_row (HB5.out.alloc HB5.out.size (.cells #[.string ⟨#[]⟩, .int .i64 0] 70)) (b := w5.heap.size) HB5.out.size c)
          clear hb5
          go_wp2_with (first | refine wpList_store_row rfl _ _ _ rfl _ _ rfl rfl _ _ HP5.out (infoItem _ _) rfl (by simp [Value.oneCell']) ?_)
          all_goals (go_ret2; exact items_none HV.out rfl (HB6.out _))
      · obtain rfl : p = s.size := by have := HI.out.le; omega
        have hlt2 : decide ((s.size : Int) < (s.size : Int)) = false := by simp
        have hlt3 : decide (s.size < s.size) = false := by simp
        have HV : Hid (itemsL s.data.toList = some l) := Lib.hid (by rw [HI.out.eq, List.drop_eq_nil_of_le (by omega), tailL_nil]; simp)
        clear hI
        go_wp2_with fail
        go_ret2
        exact items_some HV.out rfl HI.out.own HI.out.below HI.out.new

set_option maxHeartbeats 1000000 in
theorem items9_empty (w : World) : Calls Tryz.prog 24 #[.string ⟨#[]⟩] w (ItemsEnd [] w) := by
  go_enter Tryz.func24, Tryz.ntmps24
  go_wp2_with fail
  go_ret2
  exact items_some (l := []) rfl rfl (OwnIt.nil w) (Below.refl _ _) (fun b h => (by cases h))
set_option maxHeartbeats 1000000 in
theorem items9_long (s : ByteArray) (h0 : 40 < s.size) (w : World) : Calls Tryz.prog 24 #[.string s] w (ItemsEnd s.data.toList w) := by
  have g0 : (s.toList == (⟨#[]⟩ : ByteArray).toList) = false := by
    rw [ByteArray.toList_eq, ByteArray.toList_eq, beq_eq_false_iff_ne]
    intro e; have h3 := sizeL s; rw [e] at h3; simp at h3; omega
  have g0' : s.toList.isEmpty = false := by
    rw [ByteArray.toList_eq]
    cases h : s.data.toList with
    | nil => have h3 := sizeL s; rw [h] at h3; simp at h3; omega
    | cons _ _ => rfl
  have g40 : decide (40 < s.size) = true := by simp; omega
  have g40' : decide (40 < (s.size : Int)) = true := by simp; omega
  have HV : Hid (itemsL s.data.toList = none) := Lib.hid (by unfold itemsL; rw [if_pos (by rw [sizeL]; exact h0)])
  go_enter Tryz.func24, Tryz.ntmps24
  go_wp2_with fail
  go_ret2
  exact items_none HV.out rfl (Below.refl _ _)
theorem items9_any (s : ByteArray) (w : World) : Calls Tryz.prog 24 #[.string s] w (ItemsEnd s.data.toList w) := by
  by_cases h : 40 < s.size
  · exact items9_long s h w
  · by_cases h0 : 0 < s.size
    · by_cases h49 : s[0] = 49
      · exact items9_one s (by omega) h0 h49 w
      · exact items9_item s (by omega) h0 h49 w
    · have e : s = ⟨#[]⟩ := by
        apply ByteArray.ext
        apply Array.ext'
        have := sizeL s
        exact List.eq_nil_of_length_eq_zero (by omega)
      subst e
      exact items9_empty w
end Go.Proofs.YtmhdhabgdlefjaaGreatDoor.Un
