/- The contracts of dim's power and Text, where only the symbols are read (for unit and later layers; in the place of Dm5). -/
import Derived.Laws.Concat
import Derived.Laws.Strings
import Derived.Test.YtmhdhabgdlefjaaGreatDoorShelf
import Derived.Test.YtmhdhabgdlefjaaGreatDoorPDims21
import Derived.Test.YtmhdhabgdlefjaaGreatDoorPDims24
set_option maxRecDepth 100000
namespace Go.Proofs.YtmhdhabgdlefjaaGreatDoor.Dm
open Go.RowKit

def sv (l : List UInt8) : Value := .string ⟨l.toArray⟩
def symV : Array Value := #[sv (sy 0), sv (sy 1), sv (sy 2), sv (sy 3), sv (sy 4), sv (sy 5)]
/-- What the calls read of the package-level variables. -/
structure Env (w : World) : Prop where
  sym : ∃ t fr, w.heap[1]? = some (.cells symV t fr)
theorem lt_of_heap {w : World} {b : Nat} {o : Obj} (h : w.heap[b]? = some o) : b < w.heap.size := (Array.getElem?_eq_some_iff.1 h).1
theorem Env.below {w w' : World} (he : Env w) (h : RowKit.Below w.heap.size w w') : Env w' := by
  obtain ⟨f, g, hg⟩ := he.sym
  refine ⟨⟨f, g, ?_⟩⟩
  rw [h.block _ (lt_of_heap hg)]; exact hg
theorem below_drewN (w : World) (q : Nat) : RowKit.Below w.heap.size w (w.drewN q) := ⟨rfl, rfl, rfl, Nat.le_refl _, fun _ _ => rfl⟩
theorem Env.sy {w : World} (he : Env w) (i : Nat) (h : i < 6) : w.cell? ⟨1, i, none⟩ = some (sv (sy i)) := by
  obtain ⟨t, fr, hg⟩ := he.sym
  rw [cell_of_row w _ i _ _ _ hg]
  rcases lt6 h with rfl | rfl | rfl | rfl | rfl | rfl <;> rfl
theorem sidx_at (r : Nat) (hr : r < 6) (W : World) : (Instr.indexAt 112 (.pointer (some ⟨1, 0, none⟩)) (.int .i64 (r : Int))).run Tryz.prog W = .ok (.pointer (some ⟨1, r, none⟩)) W := by
  rcases lt6 hr with rfl | rfl | rfl | rfl | rfl | rfl <;> rfl
theorem sy_len (i : Nat) : (sy i).length ≤ 4 := by
  unfold sy; split <;> decide

set_option maxHeartbeats 1000000 in
theorem power_any (i n : Nat) (hi : i < 6) (h1 : 1 ≤ n) (h2 : n ≤ 9) (w : World) (he : Env w) : Calls Tryz.prog 59 #[.int .i64 (i : Int), .int .i64 (n : Int)] w fun e w' => e = .returned (sv (pw i n)) ∧ ∃ q, w' = w.drewN q := by
  have hc := he.sy i hi
  have hx := sidx_at i hi
  have HI : Hid (∀ w, Calls Tryz.prog 88 #[.int .i64 (n : Int)] w fun e w' => e = .returned (sv [UInt8.ofNat (48 + n)]) ∧ w' = w) := fun w => by
    have := Tryz.strconv_Itoa_small n (by omega) w
    rw [Lib.decDigits_one (by omega)] at this
    exact this
  have hl := sy_len i
  have hadd : ∀ W : World, (Op.stringOp .add ⟨(sy i).toArray⟩ ⟨[UInt8.ofNat (48 + n)].toArray⟩).run Tryz.prog W = .ok (.string ⟨(sy i ++ [UInt8.ofNat (48 + n)]).toArray⟩) W := fun W => run_string_add_lists W _ _ (by omega) (by simp)
  unfold sv at hc HI
  by_cases e : n = 1
  · subst e
    have HR : Hid (pw i 1 = sy i) := Lib.hid rfl
    obtain ⟨s, hs⟩ : ∃ s, sy i = s := ⟨_, rfl⟩
    rw [hs] at hc HR
    clear hadd HI hl hs he
    go_enter Tryz.func59, Tryz.ntmps59
    go_wp2_with fail
    go_ret
    exact ⟨by rw [HR.out]; rfl, 0, rfl⟩
  · have g : ((n : Int) == 1) = false := by rw [beq_eq_false_iff_ne]; omega
    have HR : Hid (pw i n = sy i ++ [UInt8.ofNat (48 + n)]) := Lib.hid (by unfold pw; rw [if_neg e])
    obtain ⟨s, hs⟩ : ∃ s, sy i = s := ⟨_, rfl⟩
    obtain ⟨d, hd⟩ : ∃ d, [UInt8.ofNat (48 + n)] = d := ⟨_, rfl⟩
    rw [hs] at hc HR hadd
    rw [hd] at HI HR hadd
    clear hl hs hd he e
    go_enter Tryz.func59, Tryz.ntmps59
    go_wp2_with fail
    go_quiet ((go_at_call 88; with_reducible exact Calls.quiet_of_same (HI.out _)))
    all_goals go_wp2_with fail
    all_goals go_ret
    all_goals exact ⟨by rw [HR.out]; rfl, _, rfl⟩

theorem dns_mono (f : Nat → Int) (k : Nat) : ∀ m, lens (dns f k) ≤ lens (dns f (k + m))
  | 0 => Nat.le_refl _
  | m + 1 => by
    have ih := dns_mono f k m
    rw [show k + (m + 1) = (k + m) + 1 by omega, dns, lens_app]; omega
theorem part_len (f : Nat → Int) (k : Nat) (h : k ≤ 6) : (head f ++ tail (dns f k)).length ≤ 23 := by
  have h1 := txt_len f
  have h2 := dns_mono f k (6 - k)
  unfold txt at h1
  rw [show k + (6 - k) = 6 by omega] at h2
  rw [List.length_append, tail_len] at h1 ⊢
  omega
theorem tail_up (f : Nat → Int) (k : Nat) (h : f k < 0) : head f ++ tail (dns f (k + 1)) = head f ++ tail (dns f k) ++ (47 :: pw k (-(f k)).toNat) := by
  rw [dns, if_pos h, tail_app, tail_one, List.append_assoc]
theorem tail_no (f : Nat → Int) (k : Nat) (h : ¬ f k < 0) : head f ++ tail (dns f (k + 1)) = head f ++ tail (dns f k) := by
  rw [dns, if_neg h, List.append_nil]
theorem ups_len (f : Nat → Int) : ∀ k, (ups f k).length ≤ k
  | 0 => Nat.le_refl _
  | k + 1 => by
    have := ups_len f k
    rw [ups, List.length_append]
    split <;> simp <;> omega
theorem pw_len6 (i n : Nat) : (pw i n).length ≤ 5 := by have := pw_len i n; have := sy_len i; omega
theorem idx_cl (f : Nat → Int) (W : World) (k : Nat) (h : k < 6) : (Instr.index 23 (.agg (cl f)) (.int .i64 (k : Int))).run Tryz.prog W = .ok (.int .i64 (f k)) W := idx_at f k h W
/-- What holds in the first loop of Text. -/
structure Up (w : World) (f : Nat → Int) (k : Nat) (v : Value) (wr : World) : Prop where
  own : OwnS wr v (ups f k)
  box : At wr w.heap.size f
  below : RowKit.Below w.heap.size w wr
  new : ∀ b, blk v = some b → w.heap.size < b
theorem join_any (v : Value) (l : List (List UInt8)) (h0 : 0 < l.length) (hl : l.length ≤ 6) (hj : (Lib.join l [42]).length ≤ 1000) (w : World) (h : OwnS w v l) :
    Calls Tryz.prog 60 #[v, .string ⟨#[42]⟩] w (Gives (sv (Lib.join l [42])) w) := by
  obtain ⟨g, c, rfl, hc, _, hlt, hcell⟩ := h.cell h0
  have e : (l.map (fun x => (⟨x.toArray⟩ : ByteArray))).map (·.data.toList) = l := by
    rw [List.map_map]
    conv => rhs; rw [← List.map_id l]
    congr 1
  have hj' := Tryz.strings_Join g 0 c (l.map (fun x => (⟨x.toArray⟩ : ByteArray))) ⟨#[42]⟩ w (fun j x hx => by
      rw [List.getElem?_map] at hx
      obtain ⟨y, hy, rfl⟩ := Option.map_eq_some_iff.1 hx
      obtain ⟨hj, rfl⟩ := List.getElem?_eq_some_iff.1 hy
      rw [Nat.zero_add]; exact hcell j hj) hlt (by rw [List.length_map]; omega) (by rw [List.length_map]; exact hc) (by rw [e]; show (Lib.join l [42]).length ≤ _; omega)
  rw [e, List.length_map] at hj'
  exact hj'.mono fun e w' h => ⟨h.1, h.2⟩

set_option maxHeartbeats 1000000 in
theorem text_bad (f : Nat → Int) (hf : ok f = false) (w : World) : Calls Tryz.prog 29 #[.agg (cl f)] w (Gives (sv []) w) := by
  have HR := Lib.hid (fun w => rightG f w)
  rw [hf] at HR
  have H1 : Hid (At (w.alloc (.cells (cl f) 23)) w.heap.size f) := At.fresh w f
  have HB : Hid (RowKit.Below w.heap.size w (w.alloc (.cells (cl f) 23))) := Lib.hid (below_alloc _ _)
  have HF := Lib.hid (infoDim f)
  clear hf
  go_enter Tryz.func29, Tryz.ntmps29
  go_wp2_with (refine wpList_load_row rfl _ _ rfl _ rfl _ _ _ _ H1.out Tryz.underlying23 rfl HF.out ?_)
  refine (HR.out _).mono ?_
  rintro e w1 ⟨rfl, hb1⟩
  have HB1 := Lib.hid (HB.out.trans (hb1.mono HB.out.size))
  clear hb1 H1
  go_wp2_with fail
  go_ret
  exact ⟨rfl, HB1.out⟩

set_option maxHeartbeats 4000000 in
theorem text_good (f : Nat → Int) (hf : ok f = true) (w : World) (he : Env w) : Calls Tryz.prog 29 #[.agg (cl f)] w (Gives (sv (txt f)) w) := by
  have HR := Lib.hid (fun w => rightG f w)
  rw [hf] at HR
  have H1 : Hid (At (w.alloc (.cells (cl f) 23)) w.heap.size f) := At.fresh w f
  have HB : Hid (RowKit.Below w.heap.size w (w.alloc (.cells (cl f) 23))) := Lib.hid (below_alloc _ _)
  have HF := Lib.hid (infoDim f)
  have HI := Lib.hid (fun (k : Nat) (h : k < 6) (W : World) => idx_cl f W k h)
  have HE := Lib.hid he
  have HBD : Hid (∀ i, i < 6 → -9 ≤ f i ∧ f i ≤ 9) := Lib.hid ((ok_iff f).1 hf)
  have HT : Hid (txt f = head f ++ tail (dns f 6)) := Lib.hid rfl
  clear hf he
  go_enter Tryz.func29, Tryz.ntmps29
  go_wp2_with (refine wpList_load_row rfl _ _ rfl _ rfl _ _ _ _ H1.out Tryz.underlying23 rfl HF.out ?_)
  refine (HR.out _).mono ?_
  rintro e w1 ⟨rfl, hb1⟩
  have K1 := Lib.hid (H1.out.below0 hb1)
  have HB1 := Lib.hid (HB.out.trans (hb1.mono HB.out.size))
  clear hb1 H1 HB
  go_wp2_with (refine wpList_load_row rfl _ _ rfl _ rfl _ _ _ _ K1.out Tryz.underlying23 rfl HF.out ?_)
  go_loopw [3, 13] (fun v i wr => ∃ k : Nat, k ≤ 6 ∧ i = .int .i64 k ∧ Up w f k v wr) (fun _ i _ => 6 - (RowKit.intOf i).toNat)
  case atStart => exact ⟨0, by omega, rfl, OwnS.nil _, K1.out, HB1.out, fun b h => by cases h⟩
  case round =>
    obtain ⟨k, hk, rfl, hU⟩ := hrel
    have HU := Lib.hid hU
    obtain ⟨av, cv, rfl, _, _⟩ := hU.own.shape
    by_cases hlt : k < 6
    · have hidx := HI.out k hlt
      have hlt2 : decide ((k : Int) < 6) = true := by simp; omega
      have hbd := HBD.out k hlt
      by_cases h0 : 0 < f k
      · have HP := Lib.hid (fun w he => power_any k (f k).toNat hlt (by omega) (by omega) w he)
        have HUP : Hid (ups f (k + 1) = ups f k ++ [pw k (f k).toNat]) := Lib.hid (by rw [ups, if_pos h0])
        have hx : ((f k).toNat : Int) = f k := by omega
        rw [hx] at HP
        obtain ⟨p, hp⟩ : ∃ p, pw k (f k).toNat = p := ⟨_, rfl⟩
        rw [hp] at HP HUP
        obtain ⟨x, hxx⟩ : ∃ x, f k = x := ⟨_, rfl⟩
        rw [hxx] at hidx HP h0
        have g : decide (0 < x) = true := by simpa using h0
        have HEr := Lib.hid (HE.out.below hU.below)
        clear hU hbd hx hp hxx h0
        go_wp2_with fail
        refine (HP.out _ HEr.out).mono ?_
        rintro e w2 ⟨rfl, q, rfl⟩
        have hO2 : OwnS (wr.drewN q) (.slice av (ups f k).length cv) (ups f k) := Own.grown HU.out.own (grownBy_none (below_drewN wr q)) (by cases h : blk (.slice av (ups f k).length cv) <;> simp)
        obtain ⟨a5, c5, w5, hrun, hO5, hg5, hb5⟩ := hO2.snoc (by have := ups_len f k; omega) p
        have HU5 : Hid (Up w f (k + 1) (.slice a5 ((ups f k).length + 1) c5) w5) := Lib.hid (by
          have hsz : w.heap.size < wr.heap.size := HU.out.box.lt
          refine ⟨by rw [HUP.out]; exact hO5, ?_, ?_, ?_⟩
          · unfold At
            rw [hg5.block w.heap.size (by simp; exact Nat.lt_succ_of_lt hsz) (fun e => by have := HU.out.new _ e.symm; omega)]
            exact (HU.out.box.below0 (below_drewN wr q)).alloc _
          · exact ((HU.out.below.trans ((below_drewN wr q).mono HU.out.below.size)).alloc (by exact HU.out.below.size) _).grown hg5 (by simp; exact Nat.le_succ_of_le HU.out.below.size) (fun b e => by have := HU.out.new b e; omega)
          · intro b hb
            rcases hb5 with h | h | h
            · rw [h] at hb; cases hb
            · rw [h] at hb; exact HU.out.new b hb
            · rw [h] at hb; injection hb with hb; have : (wr.drewN q).heap.size = wr.heap.size := rfl; omega)
        clear hO2 hO5 hg5 hb5
        unfold sv
        unfold encStr at hrun
        go_wp2_with (at_builtin; refine Lib.wpList_append_run _ rfl _ _ _ _ rfl _ _ rfl rfl _ _ (hrun _) ?_)
        clear hrun
        go_roundw
        case rel => exact ⟨k + 1, by omega, by go_num, HU5.out⟩
        case measure => simp [RowKit.intOf]; omega
      · have HUP : Hid (ups f (k + 1) = ups f k) := Lib.hid (by rw [ups, if_neg h0, List.append_nil])
        obtain ⟨x, hxx⟩ : ∃ x, f k = x := ⟨_, rfl⟩
        rw [hxx] at hidx h0
        have g : decide (0 < x) = false := by simpa using h0
        clear hU hbd hxx h0
        go_wp2_with fail
        go_roundw
        case rel => exact ⟨k + 1, by omega, by go_num, by have h := HU.out; exact ⟨by rw [HUP.out]; exact h.own, h.box, h.below, h.new⟩⟩
        case measure => simp [RowKit.intOf]; omega
    · obtain rfl : k = 6 := by omega
      have hlt2 : decide (((6 : Nat) : Int) < 6) = false := by decide
      have hul := ups_len f 6
      by_cases hn : ups f 6 = []
      · have HH : Hid ([49] = head f ++ tail (dns f 0)) := Lib.hid (by unfold head; rw [if_pos hn]; rfl)
        have hn2 : (ups f 6).length = 0 := by rw [hn]; rfl
        rw [hn2]
        have KB := Lib.hid hU.box
        have KBel := Lib.hid hU.below
        clear HU hU hn hn2 hul
        go_wp2_with (refine wpList_load_row rfl _ _ rfl _ rfl _ _ _ _ KB.out Tryz.underlying23 rfl HF.out ?_)
        go_loopw [6, 32] (fun s i wz => ∃ j : Nat, j ≤ 6 ∧ i = .int .i64 j ∧ s = sv (head f ++ tail (dns f j)) ∧ RowKit.Below w.heap.size w wz) (fun _ i _ => 6 - (RowKit.intOf i).toNat)
        case atStart => exact ⟨0, by omega, rfl, by (first | (rw [← HH.out]; done) | (rw [← HH.out]; rfl)), KBel.out⟩
        case round =>
          obtain ⟨j, hj, rfl, rfl, hBl⟩ := hrel
          have HBl := Lib.hid hBl
          by_cases hlt : j < 6
          · have hidx := HI.out j hlt
            have hlt3 : decide ((j : Int) < 6) = true := by simp; omega
            have hbd := HBD.out j hlt
            by_cases h0 : f j < 0
            · have HP := Lib.hid (fun w he => power_any j (-(f j)).toNat hlt (by omega) (by omega) w he)
              have HUP := Lib.hid (tail_up f j h0)
              have hx : (((-(f j)).toNat : Nat) : Int) = -(f j) := by omega
              have hln := part_len f j hj
              have hpl := pw_len6 j (-(f j)).toNat
              rw [hx] at HP
              obtain ⟨p, hp⟩ : ∃ p, pw j (-(f j)).toNat = p := ⟨_, rfl⟩
              rw [hp] at HP HUP hpl
              obtain ⟨x, hxx⟩ : ∃ x, f j = x := ⟨_, rfl⟩
              obtain ⟨T, hT⟩ : ∃ T, head f ++ tail (dns f j) = T := ⟨_, rfl⟩
              rw [hT] at hln HUP ⊢
              rw [hxx] at hidx HP h0 hbd
              have g : decide (x < 0) = true := by simpa using h0
              have hw1 : IntKind.i64.wrap (-x) = -x := IntWalk.i64_in _ (by omega)
              have ha1 : ∀ W : World, (Op.stringOp .add ⟨#[47]⟩ ⟨p.toArray⟩).run Tryz.prog W = .ok (.string ⟨(47 :: p).toArray⟩) W := fun W => run_string_add_lists W [47] p (by simp) (by omega)
              have ha2 : ∀ W : World, (Op.stringOp .add ⟨T.toArray⟩ ⟨(47 :: p).toArray⟩).run Tryz.prog W = .ok (.string ⟨(T ++ 47 :: p).toArray⟩) W := fun W => run_string_add_lists W T (47 :: p) (by omega) (by simp; omega)
              have HEr := Lib.hid (HE.out.below hBl)
              clear hBl hbd hx hp hxx h0 hln hpl hT
              unfold sv
              go_wp2_with fail
              refine (HP.out _ HEr.out).mono ?_
              rintro e w2 ⟨rfl, q, rfl⟩
              have HB5 := Lib.hid (HBl.out.trans ((below_drewN wr q).mono HBl.out.size))
              unfold sv
              go_wp2_with fail
              go_roundw
              case rel => exact ⟨j + 1, by omega, by go_num, by rw [HUP.out], HB5.out⟩
              case measure => simp [RowKit.intOf]; omega
            · have HUP := Lib.hid (tail_no f j h0)
              obtain ⟨x, hxx⟩ : ∃ x, f j = x := ⟨_, rfl⟩
              rw [hxx] at hidx h0
              have g : decide (x < 0) = false := by simpa using h0
              clear hBl hbd hxx h0
              go_wp2_with fail
              go_roundw
              case rel => exact ⟨j + 1, by omega, by go_num, by rw [HUP.out], HBl.out⟩
              case measure => simp [RowKit.intOf]; omega
          · obtain rfl : j = 6 := by omega
            have hlt3 : decide (((6 : Nat) : Int) < 6) = false := by decide
            clear hBl
            go_wp2_with fail
            go_ret
            exact ⟨by rw [HT.out]; rfl, HBl.out⟩
      · have HH : Hid (head f = Lib.join (ups f 6) [42]) := Lib.hid (by unfold head; rw [if_neg hn])
        have hpos : 0 < (ups f 6).length := List.length_pos_iff.2 hn
        have HJ := Lib.hid (join_any _ (ups f 6) hpos hul (by have := lens_join (ups f 6); have := lens_both f 6; have : bnd 6 = 22 := rfl; omega) wr hU.own)
        rw [← HH.out] at HJ
        have KB0 := Lib.hid hU.box
        have KBel0 := Lib.hid hU.below
        obtain ⟨m, hm⟩ : ∃ m, (ups f 6).length = m := ⟨_, rfl⟩
        rw [hm] at hpos HJ hul ⊢
        have g : decide (0 < m) = true := by simpa using hpos
        have g' : decide (0 < (m : Int)) = true := by simpa using hpos
        clear HU hU hn hm hpos hul HH
        go_wp2_with fail
        refine HJ.out.mono ?_
        rintro e w3 ⟨rfl, hb3⟩
        have KB := Lib.hid (KB0.out.below0 hb3)
        have KBel := Lib.hid (KBel0.out.trans (hb3.mono KBel0.out.size))
        clear hb3 KB0 KBel0 HJ
        have HH : Hid (head f = head f ++ tail (dns f 0)) := Lib.hid (by simp [dns, tail])
        go_wp2_with (refine wpList_load_row rfl _ _ rfl _ rfl _ _ _ _ KB.out Tryz.underlying23 rfl HF.out ?_)
        go_loopw [6, 32] (fun s i wz => ∃ j : Nat, j ≤ 6 ∧ i = .int .i64 j ∧ s = sv (head f ++ tail (dns f j)) ∧ RowKit.Below w.heap.size w wz) (fun _ i _ => 6 - (RowKit.intOf i).toNat)
        case atStart => exact ⟨0, by omega, rfl, by (first | (rw [← HH.out]; done) | (rw [← HH.out]; rfl)), KBel.out⟩
        case round =>
          obtain ⟨j, hj, rfl, rfl, hBl⟩ := hrel
          have HBl := Lib.hid hBl
          by_cases hlt : j < 6
          · have hidx := HI.out j hlt
            have hlt3 : decide ((j : Int) < 6) = true := by simp; omega
            have hbd := HBD.out j hlt
            by_cases h0 : f j < 0
            · have HP := Lib.hid (fun w he => power_any j (-(f j)).toNat hlt (by omega) (by omega) w he)
              have HUP := Lib.hid (tail_up f j h0)
              have hx : (((-(f j)).toNat : Nat) : Int) = -(f j) := by omega
              have hln := part_len f j hj
              have hpl := pw_len6 j (-(f j)).toNat
              rw [hx] at HP
              obtain ⟨p, hp⟩ : ∃ p, pw j (-(f j)).toNat = p := ⟨_, rfl⟩
              rw [hp] at HP HUP hpl
              obtain ⟨x, hxx⟩ : ∃ x, f j = x := ⟨_, rfl⟩
              obtain ⟨T, hT⟩ : ∃ T, head f ++ tail (dns f j) = T := ⟨_, rfl⟩
              rw [hT] at hln HUP ⊢
              rw [hxx] at hidx HP h0 hbd
              have g : decide (x < 0) = true := by simpa using h0
              have hw1 : IntKind.i64.wrap (-x) = -x := IntWalk.i64_in _ (by omega)
              have ha1 : ∀ W : World, (Op.stringOp .add ⟨#[47]⟩ ⟨p.toArray⟩).run Tryz.prog W = .ok (.string ⟨(47 :: p).toArray⟩) W := fun W => run_string_add_lists W [47] p (by simp) (by omega)
              have ha2 : ∀ W : World, (Op.stringOp .add ⟨T.toArray⟩ ⟨(47 :: p).toArray⟩).run Tryz.prog W = .ok (.string ⟨(T ++ 47 :: p).toArray⟩) W := fun W => run_string_add_lists W T (47 :: p) (by omega) (by simp; omega)
              have HEr := Lib.hid (HE.out.below hBl)
              clear hBl hbd hx hp hxx h0 hln hpl hT
              unfold sv
              go_wp2_with fail
              refine (HP.out _ HEr.out).mono ?_
              rintro e w2 ⟨rfl, q, rfl⟩
              have HB5 := Lib.hid (HBl.out.trans ((below_drewN wr q).mono HBl.out.size))
              unfold sv
              go_wp2_with fail
              go_roundw
              case rel => exact ⟨j + 1, by omega, by go_num, by rw [HUP.out], HB5.out⟩
              case measure => simp [RowKit.intOf]; omega
            · have HUP := Lib.hid (tail_no f j h0)
              obtain ⟨x, hxx⟩ : ∃ x, f j = x := ⟨_, rfl⟩
              rw [hxx] at hidx h0
              have g : decide (x < 0) = false := by simpa using h0
              clear hBl hbd hxx h0
              go_wp2_with fail
              go_roundw
              case rel => exact ⟨j + 1, by omega, by go_num, by rw [HUP.out], HBl.out⟩
              case measure => simp [RowKit.intOf]; omega
          · obtain rfl : j = 6 := by omega
            have hlt3 : decide (((6 : Nat) : Int) < 6) = false := by decide
            clear hBl
            go_wp2_with fail
            go_ret
            exact ⟨by rw [HT.out]; rfl, HBl.out⟩
theorem text_any (f : Nat → Int) (w : World) (he : Env w) : Calls Tryz.prog 29 #[.agg (cl f)] w (Gives (sv (tx f)) w) := by
  unfold tx
  rcases hf : ok f with _ | _
  · exact text_bad f hf w
  · exact text_good f hf w he
end Go.Proofs.YtmhdhabgdlefjaaGreatDoor.Dm
