/- The contract of the reference of unit: Read. The program's and the reference's results are the same, for any arguments. The law UnitTells. -/
import Derived.Deep.RegionWith
import Derived.Deep.CutRange
import Derived.Deep.CutBlock
import Derived.Test.YtmhdhabgdlefjaaGreatDoorPTells32
import Derived.Test.YtmhdhabgdlefjaaGreatDoorPTells31
import Derived.Test.YtmhdhabgdlefjaaGreatDoorPTells34
set_option maxRecDepth 100000
namespace Go.Proofs.YtmhdhabgdlefjaaGreatDoor.Un
open Go.RowKit Bi Dm

/-- What Read gives. -/
def ReadEnd (L : List UInt8) (w : World) (e : Ending) (w' : World) : Prop := match itemsL L with
  | none => UZE 12 w e w'
  | some l => match evL l zf 1 with
    | none => UZE 11 w e w'
    | some (f, r) => if ok f then UVE f r 0 w e w' else UZE 3 w e w'
theorem read_syntax {L : List UInt8} (h : itemsL L = none) {w : World} {e : Ending} {w' : World} (g : UZE 12 w e w') : ReadEnd L w e w' := by
  unfold ReadEnd; rw [h]; exact g
theorem read_name {L : List UInt8} {l : List (List UInt8 × Int)} (h : itemsL L = some l) (h2 : evL l zf 1 = none) {w : World} {e : Ending} {w' : World} (g : UZE 11 w e w') : ReadEnd L w e w' := by
  unfold ReadEnd; rw [h]; dsimp only; rw [h2]; exact g
theorem read_ok {L : List UInt8} {l : List (List UInt8 × Int)} {f : Nat → Int} {r : Rat} (h : itemsL L = some l) (h2 : evL l zf 1 = some (f, r)) (h3 : ok f = true) {w : World} {e : Ending} {w' : World} (g : UVE f r 0 w e w') : ReadEnd L w e w' := by
  unfold ReadEnd; rw [h]; dsimp only; rw [h2]; dsimp only; rw [h3]; exact g
theorem read_range {L : List UInt8} {l : List (List UInt8 × Int)} {f : Nat → Int} {r : Rat} (h : itemsL L = some l) (h2 : evL l zf 1 = some (f, r)) (h3 : ok f = false) {w : World} {e : Ending} {w' : World} (g : UZE 3 w e w') : ReadEnd L w e w' := by
  unfold ReadEnd; rw [h]; dsimp only; rw [h2]; dsimp only; rw [h3]; exact g
theorem ev_app_none {l : List (List UInt8 × Int)} {k : Nat} (h : evL (l.take k) zf 1 = none) : evL l zf 1 = none := by
  rw [← List.take_append_drop k l, evL_app, h]; rfl

set_option maxHeartbeats 4000000 in
theorem u9read_bad (s : ByteArray) (h : itemsL s.data.toList = none) (w : World) : Calls Tryz.prog 11 #[.string s] w (ReadEnd s.data.toList w) := by
  have HI := Lib.hid (items9_any s)
  unfold ItemsEnd at HI
  rw [h] at HI
  have HW := Lib.hid (fun (e : Ending) (w' : World) (g : UZE 12 w e w') => read_syntax h g)
  unfold UZE uc at HW
  clear h
  have s0 := ((Sf.start w).put [.int .i64 0, .int .i64 0, .int .i64 0, .int .i64 0, .int .i64 0, .int .i64 0, .int .i64 0, .slice none 0 0, .int .i64 0, .slice none 0 0] 30)
  try simp only [World.size_alloc] at s0
  have S0 := Lib.hid s0
  clear s0
  go_enter Tryz.func11, Tryz.ntmps11
  go_wp2_with fail
  refine (HI.out _).mono ?_
  rintro e w1 ⟨rfl, hb⟩
  have R1 := Lib.hid (S0.out.later hb)
  clear hb
  have Q1 := Lib.hid (Sf.row (pre := []) R1.out [.int .i64 0, .int .i64 0, .int .i64 0, .int .i64 0, .int .i64 0, .int .i64 0, .int .i64 0, .slice none 0 0, .int .i64 0, .slice none 0 0])
  go_wp2_with (first | refine wpList_store_row rfl _ _ _ rfl _ #[.int .i64 0, .int .i64 0, .int .i64 0, .int .i64 0, .int .i64 0, .int .i64 0, .int .i64 0, .slice none 0 0, .int .i64 0, .slice none 0 0] rfl rfl _ _ (R1.out.box _ mq0) (by kernel_rfl) rfl (by simp [Value.oneCell']) ?_)
  refine bodyPost_ret (ret_row rfl _ _ _ _ rfl (run_loadVar_row _ _ _ _ _ (0, 0) _ (Q1.out.box _ mq0) Tryz.underlying30 rfl (by kernel_rfl))) rfl (HW.out _ _ ⟨rfl, Q1.out.below⟩)

set_option maxHeartbeats 4000000 in
theorem u9read_good (s : ByteArray) {l : List (List UInt8 × Int)} (h : itemsL s.data.toList = some l) (w : World) : Calls Tryz.prog 11 #[.string s] w (ReadEnd s.data.toList w) := by
  have HI := Lib.hid (items9_any s)
  unfold ItemsEnd at HI
  rw [h] at HI
  have HH := Lib.hid h
  have HO := Lib.hid (fun W => rfint_r (z := 1) (r := 1) (by decide) rfl W)
  clear h
  have s0 := ((Sf.start w).put [.int .i64 0, .int .i64 0, .int .i64 0, .int .i64 0, .int .i64 0, .int .i64 0, .int .i64 0, .slice none 0 0, .int .i64 0, .slice none 0 0] 30)
  try simp only [World.size_alloc] at s0
  have S0 := Lib.hid s0
  clear s0
  go_enter Tryz.func11, Tryz.ntmps11
  go_wp2_with fail
  refine (HI.out _).mono ?_
  rintro e w1 ⟨ai, ci, rfl, hO, hb, hn⟩
  have R1 := Lib.hid (S0.out.later hb)
  have HOW := Lib.hid hO
  clear hb hO hn HI
  go_wp2_with fail
  refine (HO.out _).mono ?_
  rintro e w2 ⟨sx2, ax2, nx2, cx2, bx2, mx2, dx2, rfl, hr, hb, hf, hg⟩
  have HB2 := Lib.hid hb
  have E2 := Lib.hid hr.1.1
  have R2 := Lib.hid (R1.out.ret2 hb hr.1.2 hf hr.2.2 hg)
  have FF2 := Lib.hid (hf.mono R1.out.below.size)
  have FG2 := Lib.hid (hg.mono R1.out.below.size)
  clear hr hb hf hg
  have P1 := Lib.hid (R2.out.put [.int .i64 0, .int .i64 0, .int .i64 0, .int .i64 0, .int .i64 0, .int .i64 0, .int .i64 0, .slice none 0 0, .int .i64 0, .slice none 0 0] 30)
  have Q1 := Lib.hid (Sf.row (pre := []) P1.out [.int .i64 (zf 0), .int .i64 (zf 1), .int .i64 (zf 2), .int .i64 (zf 3), .int .i64 (zf 4), .int .i64 (zf 5), .int .i64 sx2, .slice ax2 nx2 cx2, .int .i64 1, .slice bx2 mx2 dx2])
  go_wp2_with (first | refine wpList_store_row rfl _ _ _ rfl _ #[.int .i64 (zf 0), .int .i64 (zf 1), .int .i64 (zf 2), .int .i64 (zf 3), .int .i64 (zf 4), .int .i64 (zf 5), .int .i64 sx2, .slice ax2 nx2 cx2, .int .i64 1, .slice bx2 mx2 dx2] rfl rfl _ _ (P1.out.box _ List.mem_cons_self) (by kernel_rfl) rfl (by simp [Value.oneCell']) ?_)
  have HB0 := Lib.hid (below_row (HB2.out.alloc HB2.out.size (.cells #[.int .i64 0, .int .i64 0, .int .i64 0, .int .i64 0, .int .i64 0, .int .i64 0, .int .i64 0, .slice none 0 0, .int .i64 0, .slice none 0 0] 30)) (b := w2.heap.size) HB2.out.size #[.int .i64 (zf 0), .int .i64 (zf 1), .int .i64 (zf 2), .int .i64 (zf 3), .int .i64 (zf 4), .int .i64 (zf 5), .int .i64 sx2, .slice ax2 nx2 cx2, .int .i64 1, .slice bx2 mx2 dx2])
  have HLB := Lib.hid HB2.out.size
  clear HB2
  obtain ⟨B, hB⟩ : ∃ B, w2.heap.size = B := ⟨_, rfl⟩
  obtain ⟨W0, hW0⟩ : ∃ W0, ((w2.alloc (.cells #[.int .i64 0, .int .i64 0, .int .i64 0, .int .i64 0, .int .i64 0, .int .i64 0, .int .i64 0, .slice none 0 0, .int .i64 0, .slice none 0 0] 30)).setRow w2.heap.size #[.int .i64 (zf 0), .int .i64 (zf 1), .int .i64 (zf 2), .int .i64 (zf 3), .int .i64 (zf 4), .int .i64 (zf 5), .int .i64 sx2, .slice ax2 nx2 cx2, .int .i64 1, .slice bx2 mx2 dx2]) = W0 := ⟨_, rfl⟩
  rw [hW0] at Q1 HB0 ⊢
  rw [hB] at Q1 HLB hW0 ⊢
  have HL := Lib.hid (items_bound HH.out)
  clear P1 hW0 hB
  go_loopw [7] (fun t wr => ∃ (k : Nat) (f : Nat → Int) (R : Rat) (s : Int) (a : Option Addr) (n c : Nat) (b : Option Addr) (m d : Nat), k ≤ l.length ∧ t = .int .i64 (k : Int) ∧ evL (l.take k) zf 1 = some (f, R) ∧ s = R.num.sign ∧ Fresh w.heap.size (.slice a n c) ∧ Fresh w.heap.size (.slice b m d) ∧ RowKit.Below w1.heap.size w1 wr ∧ Sf w [(B, 30, [.int .i64 (f 0), .int .i64 (f 1), .int .i64 (f 2), .int .i64 (f 3), .int .i64 (f 4), .int .i64 (f 5), .int .i64 s, .slice a n c, .int .i64 1, .slice b m d]), (w.heap.size, 30, [.int .i64 0, .int .i64 0, .int .i64 0, .int .i64 0, .int .i64 0, .int .i64 0, .int .i64 0, .slice none 0 0, .int .i64 0, .slice none 0 0])] [(.slice a n c, digs R.num.natAbs), (.slice b m d, digs ((R.den : Int)).natAbs)] wr) (fun t _ => 21 - (RowKit.intOf t).toNat)
  case atStart => exact ⟨0, zf, 1, _, _, _, _, _, _, _, Nat.zero_le _, rfl, by rw [List.take_zero, evL], E2.out, FF2.out, FG2.out, HB0.out, Q1.out⟩
  case round =>
    obtain ⟨k, f, R, sk, ak, nk, ck, bk, mk, dk, hk, rfl, hev, es, hfa, hfb, hbl, hS⟩ := hrel
    have ER := Lib.hid es
    have HS := Lib.hid hS
    have HFA := Lib.hid hfa
    have HFB := Lib.hid hfb
    have HEV := Lib.hid hev
    have HIT := Lib.hid (OwnIt.later HOW.out hbl)
    clear es hS hfa hfb hev
    by_cases hlt : k < l.length
    · have hlt2 : decide ((k : Int) < (l.length : Int)) = true := by simp; omega
      obtain ⟨G, rfl, hc0, hc1⟩ := OwnIt.at HIT.out hlt
      have hia := it_at G l.length ci k hlt (by have := HL.out.1; omega)
      have HWD := Lib.hid (fun W => u9word_any ⟨l[k].1.toArray⟩ W)
      unfold sv at hc0
      rcases hw : wordL l[k].1 with _ | ⟨b0, n0, q0⟩
      · have HNO : Hid (evL l zf 1 = none) := Lib.hid (by
          have := ev_take hlt HEV.out
          rw [hw] at this
          exact ev_app_none this)
        have HRE := Lib.hid (fun (e : Ending) (w' : World) (g : UZE 11 w e w') => read_name HH.out HNO.out g)
        unfold UZE uc at HRE
        have HWD : Hid (∀ W, Calls Tryz.prog 39 #[.string ⟨l[k].1.toArray⟩] W (Gives (.tuple #[.agg (uc zf 0 (.slice none 0 0) 0 (.slice none 0 0)), .bool false]) W)) := Lib.hid (fun W => by
          have := HWD.out W
          unfold WordEnd at this
          rw [show (⟨l[k].1.toArray⟩ : ByteArray).data.toList = l[k].1 from rfl, hw] at this
          exact this)
        unfold uc at HWD
        obtain ⟨V, hV⟩ : ∃ V : ByteArray, (⟨l[k].1.toArray⟩ : ByteArray) = V := ⟨_, rfl⟩
        rw [hV] at HWD hc0
        clear hw hV hc1
        go_wp2_with fail
        clear hia hc0
        refine (HWD.out _).mono ?_
        rintro e w6 ⟨rfl, hb⟩
        have R6 := Lib.hid (HS.out.later hb)
        clear hb
        have P2 := Lib.hid (R6.out.put [.int .i64 0, .int .i64 0, .int .i64 0, .int .i64 0, .int .i64 0, .int .i64 0, .int .i64 0, .slice none 0 0, .int .i64 0, .slice none 0 0] 30)
        have Q2 := Lib.hid (Sf.row (pre := []) P2.out [.int .i64 (zf 0), .int .i64 (zf 1), .int .i64 (zf 2), .int .i64 (zf 3), .int .i64 (zf 4), .int .i64 (zf 5), .int .i64 0, .slice none 0 0, .int .i64 0, .slice none 0 0])
        have Q3 := Lib.hid (Sf.row (pre := [(w6.heap.size, 30, [.int .i64 (zf 0), .int .i64 (zf 1), .int .i64 (zf 2), .int .i64 (zf 3), .int .i64 (zf 4), .int .i64 (zf 5), .int .i64 0, .slice none 0 0, .int .i64 0, .slice none 0 0]), (B, 30, [.int .i64 (f 0), .int .i64 (f 1), .int .i64 (f 2), .int .i64 (f 3), .int .i64 (f 4), .int .i64 (f 5), .int .i64 sk, .slice ak nk ck, .int .i64 1, .slice bk mk dk])]) Q2.out [.int .i64 0, .int .i64 0, .int .i64 0, .int .i64 0, .int .i64 0, .int .i64 0, .int .i64 0, .slice none 0 0, .int .i64 0, .slice none 0 0])
        go_wp2_with (first | refine wpList_store_row rfl _ _ _ rfl _ #[.int .i64 (zf 0), .int .i64 (zf 1), .int .i64 (zf 2), .int .i64 (zf 3), .int .i64 (zf 4), .int .i64 (zf 5), .int .i64 0, .slice none 0 0, .int .i64 0, .slice none 0 0] rfl rfl _ _ (P2.out.box _ List.mem_cons_self) (by kernel_rfl) rfl (by simp [Value.oneCell']) ?_ | refine wpList_store_row rfl _ _ _ rfl _ #[.int .i64 0, .int .i64 0, .int .i64 0, .int .i64 0, .int .i64 0, .int .i64 0, .int .i64 0, .slice none 0 0, .int .i64 0, .slice none 0 0] rfl rfl _ _ (Q2.out.box _ mq2) (by kernel_rfl) rfl (by simp [Value.oneCell']) ?_)
        refine bodyPost_ret (ret_row rfl _ _ _ _ rfl (run_loadVar_row _ _ _ _ _ (0, 0) _ (Q3.out.box _ mq2) Tryz.underlying30 rfl (by kernel_rfl))) rfl (HRE.out _ _ ⟨rfl, Q3.out.below⟩)
      · skip
        have HWD : Hid (∀ W, Calls Tryz.prog 39 #[.string ⟨l[k].1.toArray⟩] W (UVB (up zf b0 n0) q0 true W)) := Lib.hid (fun W => by
          have := HWD.out W
          unfold WordEnd at this
          rw [show (⟨l[k].1.toArray⟩ : ByteArray).data.toList = l[k].1 from rfl, hw] at this
          exact this)
        obtain ⟨x, hx⟩ : ∃ x, l[k].2 = x := ⟨_, rfl⟩
        have HX := Lib.hid hx
        have HEN := Lib.hid (ev_take hlt HEV.out)
        rw [hw] at HEN
        have HWB := Lib.hid (word_bound hw)
        have HXB := Lib.hid (HL.out.2 l[k] (List.getElem_mem hlt))
        rw [hx] at HXB HEN
        obtain ⟨V, hV⟩ : ∃ V : ByteArray, (⟨l[k].1.toArray⟩ : ByteArray) = V := ⟨_, rfl⟩
        rw [hV] at HWD hc0
        obtain ⟨U, hU⟩ : ∃ U, up zf b0 n0 = U := ⟨_, rfl⟩
        rw [hU] at HWD
        have HU := Lib.hid hU
        have HIA := Lib.hid hia
        have HBL := Lib.hid hbl
        clear hw hV hc1 hx hU hbl
        go_wp2_with fail
        clear hia hc0
        refine (HWD.out _).mono ?_
        rintro e w6 ⟨sx6, ax6, nx6, cx6, bx6, mx6, dx6, rfl, hr, hb, hf, hg⟩
        have HB6 := Lib.hid hb
        have E6 := Lib.hid hr.1.1
        have R6 := Lib.hid (HS.out.ret2 hb hr.1.2 hf hr.2.2 hg)
        have FF6 := Lib.hid (hf.mono HS.out.below.size)
        have FG6 := Lib.hid (hg.mono HS.out.below.size)
        clear hr hb hf hg
        have HB6 := Lib.hid (HBL.out.trans (HB6.out.mono HBL.out.size))
        have P4 := Lib.hid (R6.out.put [.int .i64 0, .int .i64 0, .int .i64 0, .int .i64 0, .int .i64 0, .int .i64 0, .int .i64 0, .slice none 0 0, .int .i64 0, .slice none 0 0] 30)
        have Q4 := Lib.hid (Sf.row (pre := []) P4.out [.int .i64 (U 0), .int .i64 (U 1), .int .i64 (U 2), .int .i64 (U 3), .int .i64 (U 4), .int .i64 (U 5), .int .i64 sx6, .slice ax6 nx6 cx6, .int .i64 1, .slice bx6 mx6 dx6])
        go_wp2_with (first | refine wpList_store_row rfl _ _ _ rfl _ #[.int .i64 (U 0), .int .i64 (U 1), .int .i64 (U 2), .int .i64 (U 3), .int .i64 (U 4), .int .i64 (U 5), .int .i64 sx6, .slice ax6 nx6 cx6, .int .i64 1, .slice bx6 mx6 dx6] rfl rfl _ _ (P4.out.box _ List.mem_cons_self) (by kernel_rfl) rfl (by simp [Value.oneCell']) ?_)
        obtain ⟨BU, hBU⟩ : ∃ BU, w6.heap.size = BU := ⟨_, rfl⟩
        obtain ⟨W6, hW6⟩ : ∃ W6, ((w6.alloc (.cells #[.int .i64 0, .int .i64 0, .int .i64 0, .int .i64 0, .int .i64 0, .int .i64 0, .int .i64 0, .slice none 0 0, .int .i64 0, .slice none 0 0] 30)).setRow w6.heap.size #[.int .i64 (U 0), .int .i64 (U 1), .int .i64 (U 2), .int .i64 (U 3), .int .i64 (U 4), .int .i64 (U 5), .int .i64 sx6, .slice ax6 nx6 cx6, .int .i64 1, .slice bx6 mx6 dx6]) = W6 := ⟨_, rfl⟩
        have HB7 := Lib.hid (below_row (HB6.out.alloc HB6.out.size (.cells #[.int .i64 0, .int .i64 0, .int .i64 0, .int .i64 0, .int .i64 0, .int .i64 0, .int .i64 0, .slice none 0 0, .int .i64 0, .slice none 0 0] 30)) (b := w6.heap.size) HB6.out.size #[.int .i64 (U 0), .int .i64 (U 1), .int .i64 (U 2), .int .i64 (U 3), .int .i64 (U 4), .int .i64 (U 5), .int .i64 sx6, .slice ax6 nx6 cx6, .int .i64 1, .slice bx6 mx6 dx6])
        rw [hW6] at Q4 HB7 ⊢
        rw [hBU] at Q4 hW6 ⊢
        clear hW6 hBU HB6 P4
        obtain ⟨Gf, hGf⟩ : ∃ Gf : Nat → Int, (fun i => f i + (if i = b0 then n0 * x else 0)) = Gf := ⟨_, rfl⟩
        have HGf := Lib.hid hGf
        clear hGf
        go_loopw [10] (fun t wz => ∃ j : Nat, j ≤ 6 ∧ t = .int .i64 (j : Int) ∧ RowKit.Below w1.heap.size w1 wz ∧ Sf w [(BU, 30, [.int .i64 (U 0), .int .i64 (U 1), .int .i64 (U 2), .int .i64 (U 3), .int .i64 (U 4), .int .i64 (U 5), .int .i64 sx6, .slice ax6 nx6 cx6, .int .i64 1, .slice bx6 mx6 dx6]), (B, 30, [.int .i64 ((mix f Gf j) 0), .int .i64 ((mix f Gf j) 1), .int .i64 ((mix f Gf j) 2), .int .i64 ((mix f Gf j) 3), .int .i64 ((mix f Gf j) 4), .int .i64 ((mix f Gf j) 5), .int .i64 sk, .slice ak nk ck, .int .i64 1, .slice bk mk dk]), (w.heap.size, 30, [.int .i64 0, .int .i64 0, .int .i64 0, .int .i64 0, .int .i64 0, .int .i64 0, .int .i64 0, .slice none 0 0, .int .i64 0, .slice none 0 0])] [(.slice ax6 nx6 cx6, digs (q0).num.natAbs), (.slice bx6 mx6 dx6, digs (((q0).den : Int)).natAbs), (.slice ak nk ck, digs (R).num.natAbs), (.slice bk mk dk, digs (((R).den : Int)).natAbs)] wz) (fun t _ => 6 - (RowKit.intOf t).toNat)
        case atStart => exact ⟨0, by omega, rfl, HB7.out, by rw [mix_zero]; exact Q4.out⟩
        case round =>
          obtain ⟨j, hj, rfl, hbz, hz⟩ := hrel
          have HBZ := Lib.hid hbz
          have HZ := Lib.hid hz
          by_cases hjl : j < 6
          · have hca : wr.cell? ⟨B, j, none⟩ = some (.int .i64 (f j)) := by rw [(hz.box _ (List.mem_cons_of_mem _ List.mem_cons_self)).cell, dim_cell _ _ j hjl, mix_at]
            have hcu : wr.cell? ⟨BU, j, none⟩ = some (.int .i64 (U j)) := by rw [(hz.box _ List.mem_cons_self).cell, dim_cell _ _ j hjl]
            have hfr : wr.frozen? ⟨B, j, none⟩ = false := (hz.box _ (List.mem_cons_of_mem _ List.mem_cons_self)).free j
            have hcx := OwnIt.exp (OwnIt.later HOW.out hbz) hlt HX.out
            have hi1 := ia_at B j hjl
            have hi2 := ia_at BU j hjl
            have hi3 := HIA.out
            have hlt2 : decide ((j : Int) < 6) = true := by simp; omega
            have hbd : Gf j = f j + U j * x ∧ -1000 ≤ U j * x ∧ U j * x ≤ 1000 ∧ -1000 ≤ f j ∧ f j ≤ 1000 := by
              have e1 : Gf j = f j + (if j = b0 then n0 * x else 0) := by rw [← HGf.out]
              have e2 : U j * x = (if j = b0 then n0 * x else 0) := by
                rw [← HU.out]; unfold up zf
                by_cases hjb : j = b0
                · rw [if_pos hjb, if_pos hjb]
                · rw [if_neg hjb, if_neg hjb, Int.zero_mul]
              have h1 := (ev_bound (l.take k) zf f 1 R 1 0 (fun y hy => HL.out.2 y (List.mem_of_mem_take hy)) (fun i => by unfold zf; omega) (FSz.one (by decide) (by decide)) (by decide) HEV.out).1 j
              have h2 : (l.take k).length ≤ 20 := by rw [List.length_take]; have := HL.out.1; omega
              have h3 := HWB.out.2.1
              have h4 := HXB.out
              have h5 : -27 ≤ n0 * x ∧ n0 * x ≤ 27 := by
                obtain rfl | rfl | rfl : n0 = 1 ∨ n0 = 2 ∨ n0 = 3 := by omega
                all_goals omega
              refine ⟨by rw [e1, e2], ?_⟩
              rw [e2]
              split <;> omega
            have HN : Hid (∀ W : World, W.heap = wr.heap → W.os = wr.os → W.tape = wr.tape → W.output = wr.output → Sf w [(BU, 30, [.int .i64 (U 0), .int .i64 (U 1), .int .i64 (U 2), .int .i64 (U 3), .int .i64 (U 4), .int .i64 (U 5), .int .i64 sx6, .slice ax6 nx6 cx6, .int .i64 1, .slice bx6 mx6 dx6]), (B, 30, [.int .i64 ((mix f Gf (j + 1)) 0), .int .i64 ((mix f Gf (j + 1)) 1), .int .i64 ((mix f Gf (j + 1)) 2), .int .i64 ((mix f Gf (j + 1)) 3), .int .i64 ((mix f Gf (j + 1)) 4), .int .i64 ((mix f Gf (j + 1)) 5), .int .i64 sk, .slice ak nk ck, .int .i64 1, .slice bk mk dk]), (w.heap.size, 30, [.int .i64 0, .int .i64 0, .int .i64 0, .int .i64 0, .int .i64 0, .int .i64 0, .int .i64 0, .slice none 0 0, .int .i64 0, .slice none 0 0])] [(.slice ax6 nx6 cx6, digs (q0).num.natAbs), (.slice bx6 mx6 dx6, digs (((q0).den : Int)).natAbs), (.slice ak nk ck, digs (R).num.natAbs), (.slice bk mk dk, digs (((R).den : Int)).natAbs)] (W.setCell ⟨B, j, none⟩ (.int .i64 (Gf j)))) := Lib.hid (fun W e1 e2 e3 e4 => by
              have h := Sf.set (pre := [(BU, 30, [.int .i64 (U 0), .int .i64 (U 1), .int .i64 (U 2), .int .i64 (U 3), .int .i64 (U 4), .int .i64 (U 5), .int .i64 sx6, .slice ax6 nx6 cx6, .int .i64 1, .slice bx6 mx6 dx6])]) (HZ.out.heap e1 e2 e3 e4) j (.int .i64 (Gf j))
              rw [mix_cells _ _ j _ hjl] at h
              exact h)
            obtain ⟨y, hy⟩ : ∃ y, U j = y := ⟨_, rfl⟩
            obtain ⟨v, hv⟩ : ∃ v, f j = v := ⟨_, rfl⟩
            rw [hv] at hca hbd
            rw [hy] at hcu hbd
            have hw1 : IntKind.i64.wrap (y * x) = y * x := IntWalk.i64_in _ (by omega)
            have hw2 : IntKind.i64.wrap (v + y * x) = v + y * x := IntWalk.i64_in _ (by omega)
            rw [hbd.1] at HN
            clear hz hbz hbd hy hv
            go_wp2_with fail
            go_region
            have HM := Lib.hid (HN.out wr.drew rfl rfl rfl rfl)
            have HBM := Lib.hid (RowKit.Below.setCell (p := ⟨B, j, none⟩) (Below.drew HBZ.out) HLB.out (.int .i64 (v + y * x)))
            go_wp2_with fail
            go_roundw
            case rel => exact ⟨j + 1, hjl, by go_num, HBM.out, HM.out⟩
            case measure => simp [RowKit.intOf]; omega
          · obtain rfl : j = 6 := by omega
            have hlt2 : decide (((6 : Nat) : Int) < 6) = false := by decide
            have hGe : mix f Gf 6 = Gf := mix_all f Gf (fun i hi => by
              have h := HWB.out.1
              rw [← HGf.out]
              show f i = f i + (if i = b0 then n0 * x else 0)
              rw [if_neg (by omega), Int.add_zero])
            rw [hGe] at hz
            have HZ2 := Lib.hid hz
            have hcx := OwnIt.exp (OwnIt.later HOW.out hbz) hlt HX.out
            have hi3 := HIA.out
            obtain ⟨pq, hpq⟩ : ∃ pq, pwZ q0 x = pq := ⟨_, rfl⟩
            have HPQ := Lib.hid hpq
            have hps := pwZ_sz HWB.out.2.2.1 HWB.out.2.2.2 HXB.out
            rw [hpq] at hps
            have LPQ : Hid (FSz 1000 pq) := Lib.hid (hps.1.mono (by decide))
            have hrs := ev_bound (l.take k) zf f 1 R 1 0 (fun y hy => HL.out.2 y (List.mem_of_mem_take hy)) (fun i => by unfold zf; omega) (FSz.one (by decide) (by decide)) (by decide) HEV.out
            have hle : (l.take k).length ≤ 20 := by
              rw [List.length_take]
              have := HL.out.1
              omega
            have LR : Hid (FSz 1000 R) := Lib.hid (hrs.2.1.mono (by omega))
            have LQ : Hid (FSz 100 q0) := Lib.hid (HWB.out.2.2.1.mono (by decide))
            obtain ⟨RR, hRR⟩ : ∃ RR, R * pq = RR := ⟨_, rfl⟩
            have HRR := Lib.hid hRR
            have HEV2 : Hid (evL (l.take (k + 1)) zf 1 = some (Gf, RR)) := Lib.hid (by
              rw [HEN.out]; simp only [Option.map_some, hpq, hRR, HGf.out])
            clear hz hbz hGe hpq hps hrs hRR hle
            go_wp2_with fail
            have hw9 : IntKind.i64.wrap ((k : Int) + 1) = (k : Int) + 1 := IntWalk.i64_in _ (by have := HL.out.1; omega)
            have hk20 : k < 20 := by have := HL.out.1; omega
            have ND := Lib.hid HZ2.out.drew
            have HBD := Lib.hid (Below.drew HBZ.out)
            have hcx := OwnIt.exp (OwnIt.later HOW.out HBD.out) hlt HX.out
            obtain ⟨q5, q6, q7, q8, q9, q10, q11, q12, q13, q14⟩ := Fb.cells10 (ND.out.box (BU, 30, [.int .i64 (U 0), .int .i64 (U 1), .int .i64 (U 2), .int .i64 (U 3), .int .i64 (U 4), .int .i64 (U 5), .int .i64 sx6, .slice ax6 nx6 cx6, .int .i64 1, .slice bx6 mx6 dx6]) mq0)
            obtain ⟨q15, q16, q17, q18, q19, q20, q21, q22, q23, q24⟩ := Fb.cells10 (ND.out.box (B, 30, [.int .i64 (Gf 0), .int .i64 (Gf 1), .int .i64 (Gf 2), .int .i64 (Gf 3), .int .i64 (Gf 4), .int .i64 (Gf 5), .int .i64 sk, .slice ak nk ck, .int .i64 1, .slice bk mk dk]) mq1)
            have C1 := Lib.hid (u9power_k (ND.out.fr (v := .slice ax6 nx6 cx6) (u := .slice bx6 mx6 dx6) (r := q0) mq0 mq1 E6.out) LQ.out HWB.out.2.2.2 x HXB.out HPQ.out)
            go_region_with (first
              | (go_at_call 41; (with_reducible refine (C1.out).mono ?_); rintro e y1 ⟨sp, ap, np, cp, bp, mp, dp, rfl, hr, hb, hf, hg⟩; have EP := Lib.hid hr.1.1; have N1 := Lib.hid (ND.out.ret2 hb hr.1.2 hf hr.2.2 hg); have HB1_ := Lib.hid (HBD.out.trans (hb.mono HBD.out.size)); clear hr hb hf hg; have ty6 := (N1.out.box (B, 30, [.int .i64 (Gf 0), .int .i64 (Gf 1), .int .i64 (Gf 2), .int .i64 (Gf 3), .int .i64 (Gf 4), .int .i64 (Gf 5), .int .i64 sk, .slice ak nk ck, .int .i64 1, .slice bk mk dk]) mq1).cell 6; have ty7 := (N1.out.box (B, 30, [.int .i64 (Gf 0), .int .i64 (Gf 1), .int .i64 (Gf 2), .int .i64 (Gf 3), .int .i64 (Gf 4), .int .i64 (Gf 5), .int .i64 sk, .slice ak nk ck, .int .i64 1, .slice bk mk dk]) mq1).cell 7; have ty8 := (N1.out.box (B, 30, [.int .i64 (Gf 0), .int .i64 (Gf 1), .int .i64 (Gf 2), .int .i64 (Gf 3), .int .i64 (Gf 4), .int .i64 (Gf 5), .int .i64 sk, .slice ak nk ck, .int .i64 1, .slice bk mk dk]) mq1).cell 8; have ty9 := (N1.out.box (B, 30, [.int .i64 (Gf 0), .int .i64 (Gf 1), .int .i64 (Gf 2), .int .i64 (Gf 3), .int .i64 (Gf 4), .int .i64 (Gf 5), .int .i64 sk, .slice ak nk ck, .int .i64 1, .slice bk mk dk]) mq1).cell 9; simp only [List.getElem?_cons_succ, List.getElem?_cons_zero] at ty6 ty7 ty8 ty9)
              | (go_at_call 40; (with_reducible refine (rfmul_r (N1.out.fr (v := .slice ak nk ck) (u := .slice bk mk dk) (r := R) mq4 mq5 ER.out) (N1.out.fr (v := .slice ap np cp) (u := .slice bp mp dp) (r := pq) mq0 mq1 EP.out) LR.out LPQ.out HRR.out).mono ?_); rintro e y2 ⟨sm, am, nm, cm, bm, mm, dm, rfl, hr, hb, hf, hg⟩; have EM := Lib.hid hr.1.1; have N2 := Lib.hid (N1.out.ret2 hb hr.1.2 hf hr.2.2 hg); have FM := Lib.hid (hf.mono N1.out.below.size); have GM := Lib.hid (hg.mono N1.out.below.size); have HB2_ := Lib.hid (HB1_.out.trans (hb.mono HB1_.out.size)); clear hr hb hf hg; have tz6 := (N2.out.box (B, 30, [.int .i64 (Gf 0), .int .i64 (Gf 1), .int .i64 (Gf 2), .int .i64 (Gf 3), .int .i64 (Gf 4), .int .i64 (Gf 5), .int .i64 sk, .slice ak nk ck, .int .i64 1, .slice bk mk dk]) mq1).cell 6; have tz7 := (N2.out.box (B, 30, [.int .i64 (Gf 0), .int .i64 (Gf 1), .int .i64 (Gf 2), .int .i64 (Gf 3), .int .i64 (Gf 4), .int .i64 (Gf 5), .int .i64 sk, .slice ak nk ck, .int .i64 1, .slice bk mk dk]) mq1).cell 7; have tz8 := (N2.out.box (B, 30, [.int .i64 (Gf 0), .int .i64 (Gf 1), .int .i64 (Gf 2), .int .i64 (Gf 3), .int .i64 (Gf 4), .int .i64 (Gf 5), .int .i64 sk, .slice ak nk ck, .int .i64 1, .slice bk mk dk]) mq1).cell 8; have tz9 := (N2.out.box (B, 30, [.int .i64 (Gf 0), .int .i64 (Gf 1), .int .i64 (Gf 2), .int .i64 (Gf 3), .int .i64 (Gf 4), .int .i64 (Gf 5), .int .i64 sk, .slice ak nk ck, .int .i64 1, .slice bk mk dk]) mq1).cell 9; simp only [List.getElem?_cons_succ, List.getElem?_cons_zero] at tz6 tz7 tz8 tz9; have fz6 := (N2.out.box (B, 30, [.int .i64 (Gf 0), .int .i64 (Gf 1), .int .i64 (Gf 2), .int .i64 (Gf 3), .int .i64 (Gf 4), .int .i64 (Gf 5), .int .i64 sk, .slice ak nk ck, .int .i64 1, .slice bk mk dk]) mq1).free 6; have fz7 := (N2.out.box (B, 30, [.int .i64 (Gf 0), .int .i64 (Gf 1), .int .i64 (Gf 2), .int .i64 (Gf 3), .int .i64 (Gf 4), .int .i64 (Gf 5), .int .i64 sk, .slice ak nk ck, .int .i64 1, .slice bk mk dk]) mq1).free 7; have fz8 := (N2.out.box (B, 30, [.int .i64 (Gf 0), .int .i64 (Gf 1), .int .i64 (Gf 2), .int .i64 (Gf 3), .int .i64 (Gf 4), .int .i64 (Gf 5), .int .i64 sk, .slice ak nk ck, .int .i64 1, .slice bk mk dk]) mq1).free 8; have fz9 := (N2.out.box (B, 30, [.int .i64 (Gf 0), .int .i64 (Gf 1), .int .i64 (Gf 2), .int .i64 (Gf 3), .int .i64 (Gf 4), .int .i64 (Gf 5), .int .i64 sk, .slice ak nk ck, .int .i64 1, .slice bk mk dk]) mq1).free 9))
            clear q5 q6 q7 q8 q9 q10 q11 q12 q13 q14 q15 q16 q17 q18 q19 q20 q21 q22 q23 q24
            all_goals (go_wp2_with fail; go_roundw; (case rel => exact ⟨k + 1, Gf, RR, _, _, _, _, _, _, _, hlt, by go_num, HEV2.out, EM.out, FM.out, GM.out, (RowKit.Below.setCell (p := ⟨B, 9, none⟩) (RowKit.Below.setCell (p := ⟨B, 8, none⟩) (RowKit.Below.setCell (p := ⟨B, 7, none⟩) (RowKit.Below.setCell (p := ⟨B, 6, none⟩) HB2_.out HLB.out (.int .i64 sm)) HLB.out (.slice am nm cm)) HLB.out (.int .i64 1)) HLB.out (.slice bm mm dm)), Sf.facts (Sf.tail (Sf.part (pre := [(BU, 30, [.int .i64 (U 0), .int .i64 (U 1), .int .i64 (U 2), .int .i64 (U 3), .int .i64 (U 4), .int .i64 (U 5), .int .i64 sx6, .slice ax6 nx6 cx6, .int .i64 1, .slice bx6 mx6 dx6])]) N2.out 6 7 8 9 rfl rfl rfl (.int .i64 sm) (.slice am nm cm) (.int .i64 1) (.slice bm mm dm))) (by simp)⟩); (case measure => simp [RowKit.intOf]; omega))
    · obtain rfl : k = l.length := by omega
      have hlt2 : decide ((l.length : Int) < (l.length : Int)) = false := by simp
      have hlt3 : decide (l.length < l.length) = false := by simp
      rw [List.take_length] at HEV
      have HR := Lib.hid (fun W => r8right_any f W)
      unfold cl at HR
      rcases hok : ok f with _ | _
      · rw [hok] at HR
        have HRE := Lib.hid (fun (e : Ending) (w' : World) (g : UZE 3 w e w') => read_range HH.out HEV.out hok g)
        unfold UZE uc at HRE
        clear hok
        obtain ⟨q25, q26, q27, q28, q29, q30, q31, q32, q33, q34⟩ := Fb.cells10 (HS.out.box (B, 30, [.int .i64 (f 0), .int .i64 (f 1), .int .i64 (f 2), .int .i64 (f 3), .int .i64 (f 4), .int .i64 (f 5), .int .i64 sk, .slice ak nk ck, .int .i64 1, .slice bk mk dk]) mq0)
        go_wp2_with fail
        clear q25 q26 q27 q28 q29 q30 q31 q32 q33 q34
        refine (HR.out _).mono ?_
        rintro e w6 ⟨rfl, hb⟩
        have R6 := Lib.hid (HS.out.later hb)
        clear hb
        have Q35 := Lib.hid (Sf.row (pre := [(B, 30, [.int .i64 (f 0), .int .i64 (f 1), .int .i64 (f 2), .int .i64 (f 3), .int .i64 (f 4), .int .i64 (f 5), .int .i64 sk, .slice ak nk ck, .int .i64 1, .slice bk mk dk])]) R6.out [.int .i64 0, .int .i64 0, .int .i64 0, .int .i64 0, .int .i64 0, .int .i64 0, .int .i64 0, .slice none 0 0, .int .i64 0, .slice none 0 0])
        go_wp2_with (first | refine wpList_store_row rfl _ _ _ rfl _ #[.int .i64 0, .int .i64 0, .int .i64 0, .int .i64 0, .int .i64 0, .int .i64 0, .int .i64 0, .slice none 0 0, .int .i64 0, .slice none 0 0] rfl rfl _ _ (R6.out.box _ mq1) (by kernel_rfl) rfl (by simp [Value.oneCell']) ?_)
        refine bodyPost_ret (ret_row rfl _ _ _ _ rfl (run_loadVar_row _ _ _ _ _ (0, 0) _ (Q35.out.box _ mq1) Tryz.underlying30 rfl (by kernel_rfl))) rfl (HRE.out _ _ ⟨rfl, Q35.out.below⟩)
      · rw [hok] at HR
        have HRE := Lib.hid (fun (e : Ending) (w' : World) (g : UVE f R 0 w e w') => read_ok HH.out HEV.out hok g)
        clear hok
        obtain ⟨q36, q37, q38, q39, q40, q41, q42, q43, q44, q45⟩ := Fb.cells10 (HS.out.box (B, 30, [.int .i64 (f 0), .int .i64 (f 1), .int .i64 (f 2), .int .i64 (f 3), .int .i64 (f 4), .int .i64 (f 5), .int .i64 sk, .slice ak nk ck, .int .i64 1, .slice bk mk dk]) mq0)
        go_wp2_with fail
        clear q36 q37 q38 q39 q40 q41 q42 q43 q44 q45
        refine (HR.out _).mono ?_
        rintro e w6 ⟨rfl, hb⟩
        have R6 := Lib.hid (HS.out.later hb)
        clear hb
        obtain ⟨q46, q47, q48, q49, q50, q51, q52, q53, q54, q55⟩ := Fb.cells10 (R6.out.box (B, 30, [.int .i64 (f 0), .int .i64 (f 1), .int .i64 (f 2), .int .i64 (f 3), .int .i64 (f 4), .int .i64 (f 5), .int .i64 sk, .slice ak nk ck, .int .i64 1, .slice bk mk dk]) mq0)
        have Q56 := Lib.hid (Sf.row (pre := [(B, 30, [.int .i64 (f 0), .int .i64 (f 1), .int .i64 (f 2), .int .i64 (f 3), .int .i64 (f 4), .int .i64 (f 5), .int .i64 sk, .slice ak nk ck, .int .i64 1, .slice bk mk dk])]) R6.out [.int .i64 (f 0), .int .i64 (f 1), .int .i64 (f 2), .int .i64 (f 3), .int .i64 (f 4), .int .i64 (f 5), .int .i64 sk, .slice ak nk ck, .int .i64 1, .slice bk mk dk])
        go_wp2_with (first | refine wpList_store_row rfl _ _ _ rfl _ #[.int .i64 (f 0), .int .i64 (f 1), .int .i64 (f 2), .int .i64 (f 3), .int .i64 (f 4), .int .i64 (f 5), .int .i64 sk, .slice ak nk ck, .int .i64 1, .slice bk mk dk] rfl rfl _ _ (R6.out.box _ mq1) (by kernel_rfl) rfl (by simp [Value.oneCell']) ?_)
        clear q46 q47 q48 q49 q50 q51 q52 q53 q54 q55
        refine bodyPost_ret (ret_row rfl _ _ _ _ rfl (run_loadVar_row _ _ _ _ _ (0, 0) _ (Q56.out.box _ mq1) Tryz.underlying30 rfl (by kernel_rfl))) rfl (HRE.out _ _ ⟨_, _, _, _, _, _, _, rfl, (Q56.out.fr (v := .slice ak nk ck) (u := .slice bk mk dk) (r := R) mq0 mq1 ER.out), Q56.out.below, HFA.out, HFB.out⟩)
end Go.Proofs.YtmhdhabgdlefjaaGreatDoor.Un

namespace Go.Proofs.YtmhdhabgdlefjaaGreatDoor.Un
open Go.RowKit Bi Dm

/-- A unit and an error, in any cells. -/
def GU (z : Int) (f : Nat → Int) (s t : Int) (l k : List Int) (w : World) (e : Ending) (w' : World) : Prop := ∃ (a : Option Addr) (n c : Nat) (b : Option Addr) (m d : Nat), e = .returned (.tuple #[.agg (uc f s (.slice a n c) t (.slice b m d)), .int .i64 z]) ∧ Ints w' (.slice a n c) l ∧ Ints w' (.slice b m d) k ∧ RowKit.Below w.heap.size w w' ∧ Fresh w.heap.size (.slice a n c) ∧ Fresh w.heap.size (.slice b m d)
/-- A fraction and an error, in any cells. -/
def GF (z : Int) (s t : Int) (l k : List Int) (w : World) (e : Ending) (w' : World) : Prop := ∃ (a : Option Addr) (n c : Nat) (b : Option Addr) (m d : Nat), e = .returned (.tuple #[.agg #[.int .i64 s, .slice a n c, .int .i64 t, .slice b m d], .int .i64 z]) ∧ Ints w' (.slice a n c) l ∧ Ints w' (.slice b m d) k ∧ RowKit.Below w.heap.size w w' ∧ Fresh w.heap.size (.slice a n c) ∧ Fresh w.heap.size (.slice b m d)
theorem uve_gu {f : Nat → Int} {r : Rat} {w w' : World} {e : Ending} (h : UVE f r 0 w e w') : GU 0 f r.num.sign 1 (digs r.num.natAbs) (digs (r.den : Int).natAbs) w e w' := by
  obtain ⟨s, a, n, c, b, m, d, e1, hr, hb, hf, hg⟩ := h
  obtain ⟨⟨rfl, i1⟩, ⟨_, i2⟩⟩ := hr
  exact ⟨a, n, c, b, m, d, e1, i1, i2, hb, hf, hg⟩
theorem uze_gu {z : Int} {w w' : World} {e : Ending} (h : UZE z w e w') : GU z zf 0 0 [] [] w e w' :=
  ⟨none, 0, 0, none, 0, 0, h.1, Ints.nil _, Ints.nil _, h.2, fun g _ => off_nil g 0 0, fun g _ => off_nil g 0 0⟩
theorem fve_gf {r : Rat} {w w' : World} {e : Ending} (h : FVE r 0 w e w') : GF 0 r.num.sign 1 (digs r.num.natAbs) (digs (r.den : Int).natAbs) w e w' := by
  obtain ⟨s, a, n, c, b, m, d, e1, hr, hb, hf, hg⟩ := h
  obtain ⟨⟨rfl, i1⟩, ⟨_, i2⟩⟩ := hr
  exact ⟨a, n, c, b, m, d, e1, i1, i2, hb, hf, hg⟩
theorem fze_gf {z : Int} {w w' : World} {e : Ending} (h : FZE z w e w') : GF z 0 0 [] [] w e w' :=
  ⟨none, 0, 0, none, 0, 0, h.1, Ints.nil _, Ints.nil _, h.2, fun g _ => off_nil g 0 0, fun g _ => off_nil g 0 0⟩
theorem u9read_any (s : ByteArray) (w : World) : Calls Tryz.prog 11 #[.string s] w (ReadEnd s.data.toList w) := by
  rcases h : itemsL s.data.toList with _ | l
  · exact u9read_bad s h w
  · exact u9read_good s h w
theorem read_pair (s : ByteArray) : ∃ (z : Int) (f : Nat → Int) (q t : Int) (l k : List Int), (∀ W, EnvU W → Calls Tryz.prog 10 #[.string s] W (GU z f q t l k W)) ∧ (∀ W, Calls Tryz.prog 11 #[.string s] W (GU z f q t l k W)) := by
  have h1 := fun W he => uread_any s W he
  have h2 := fun W => u9read_any s W
  unfold ReadE at h1
  unfold ReadEnd at h2
  rcases hi : itemsL s.data.toList with _ | m
  · rw [hi] at h1 h2
    exact ⟨_, _, _, _, _, _, fun W he => (h1 W he).mono fun _ _ g => uze_gu g, fun W => (h2 W).mono fun _ _ g => uze_gu g⟩
  · rw [hi] at h1 h2
    dsimp only at h1 h2
    rcases hv : evL m zf 1 with _ | ⟨f, r⟩
    · rw [hv] at h1 h2
      exact ⟨_, _, _, _, _, _, fun W he => (h1 W he).mono fun _ _ g => uze_gu g, fun W => (h2 W).mono fun _ _ g => uze_gu g⟩
    · rw [hv] at h1 h2
      dsimp only at h1 h2
      rcases hk : ok f with _ | _
      · rw [hk] at h1 h2
        exact ⟨_, _, _, _, _, _, fun W he => (h1 W he).mono fun _ _ g => uze_gu g, fun W => (h2 W).mono fun _ _ g => uze_gu g⟩
      · rw [hk] at h1 h2
        exact ⟨_, _, _, _, _, _, fun W he => (h1 W he).mono fun _ _ g => uve_gu g, fun W => (h2 W).mono fun _ _ g => uve_gu g⟩
theorem mul_pair {f g : Nat → Int} {s1 t1 : Int} {a1 b1 : Option Addr} {n1 c1 m1 d1 : Nat} {l1 k1 : List Int} {s2 t2 : Int} {a2 b2 : Option Addr} {n2 c2 m2 d2 : Nat} {l2 k2 : List Int} (q1 : l1.length ≤ 12) (p1 : k1.length ≤ 12) (q2 : l2.length ≤ 12) (p2 : k2.length ≤ 12) : ∃ (z : Int) (F : Nat → Int) (q t : Int) (l k : List Int), ∀ W, Ints W (.slice a1 n1 c1) l1 → Ints W (.slice b1 m1 d1) k1 → Ints W (.slice a2 n2 c2) l2 → Ints W (.slice b2 m2 d2) k2 → Calls Tryz.prog 12 #[.agg #[.int .i64 (f 0), .int .i64 (f 1), .int .i64 (f 2), .int .i64 (f 3), .int .i64 (f 4), .int .i64 (f 5), .int .i64 s1, .slice a1 n1 c1, .int .i64 t1, .slice b1 m1 d1], .agg #[.int .i64 (g 0), .int .i64 (g 1), .int .i64 (g 2), .int .i64 (g 3), .int .i64 (g 4), .int .i64 (g 5), .int .i64 s2, .slice a2 n2 c2, .int .i64 t2, .slice b2 m2 d2]] W (GU z F q t l k W) ∧ Calls Tryz.prog 13 #[.agg #[.int .i64 (f 0), .int .i64 (f 1), .int .i64 (f 2), .int .i64 (f 3), .int .i64 (f 4), .int .i64 (f 5), .int .i64 s1, .slice a1 n1 c1, .int .i64 t1, .slice b1 m1 d1], .agg #[.int .i64 (g 0), .int .i64 (g 1), .int .i64 (g 2), .int .i64 (g 3), .int .i64 (g 4), .int .i64 (g 5), .int .i64 s2, .slice a2 n2 c2, .int .i64 t2, .slice b2 m2 d2]] W (GU z F q t l k W) := by
  rcases hv : uR f s1 l1 t1 k1 && uR g s2 l2 t2 k2 with _ | _
  · exact ⟨_, _, _, _, _, _, fun W h1 h2 h3 h4 => ⟨(umul_bad h1 h2 (by omega) (by omega) h3 h4 (by omega) (by omega) hv).mono fun _ _ g => uze_gu g, (u9mul_bad h1 h2 (by omega) (by omega) h3 h4 (by omega) (by omega) hv).mono fun _ _ g => uze_gu g⟩⟩
  · rw [Bool.and_eq_true] at hv
    obtain ⟨o1, x, rfl, rfl, rfl, rfl, g1⟩ := uR_good hv.1
    obtain ⟨o2, y, rfl, rfl, rfl, rfl, g2⟩ := uR_good hv.2
    have Z1 : FSz 1000 x := FSz.mono (i := 12) ⟨Sz.of q1, Sz.of p1⟩
    have Z2 : FSz 1000 y := FSz.mono (i := 12) ⟨Sz.of q2, Sz.of p2⟩
    rcases hs : ok (sumF f g) with _ | _
    · exact ⟨_, _, _, _, _, _, fun W h1 h2 h3 h4 => ⟨(umul_far (⟨⟨rfl, h1⟩, ⟨(den_sign x).symm, h2⟩⟩ : Fr W _ _ _ x) (⟨⟨rfl, h3⟩, ⟨(den_sign y).symm, h4⟩⟩ : Fr W _ _ _ y) Z1 Z2 o1 o2 g1 g2 rfl (mulR_far o1 o2 hs)).mono fun _ _ g => uze_gu g, (u9mul_far (⟨⟨rfl, h1⟩, ⟨(den_sign x).symm, h2⟩⟩ : Fr W _ _ _ x) (⟨⟨rfl, h3⟩, ⟨(den_sign y).symm, h4⟩⟩ : Fr W _ _ _ y) Z1 Z2 o1 o2 g1 g2 rfl (mulR_far o1 o2 hs)).mono fun _ _ g => uze_gu g⟩⟩
    · exact ⟨_, _, _, _, _, _, fun W h1 h2 h3 h4 => ⟨(umul_k (⟨⟨rfl, h1⟩, ⟨(den_sign x).symm, h2⟩⟩ : Fr W _ _ _ x) (⟨⟨rfl, h3⟩, ⟨(den_sign y).symm, h4⟩⟩ : Fr W _ _ _ y) Z1 Z2 o1 o2 g1 g2 rfl (mulR_is o1 o2 hs)).mono fun _ _ g => uve_gu g, (u9mul_k (⟨⟨rfl, h1⟩, ⟨(den_sign x).symm, h2⟩⟩ : Fr W _ _ _ x) (⟨⟨rfl, h3⟩, ⟨(den_sign y).symm, h4⟩⟩ : Fr W _ _ _ y) Z1 Z2 o1 o2 g1 g2 rfl (mulR_is o1 o2 hs)).mono fun _ _ g => uve_gu g⟩⟩
theorem div_pair {f g : Nat → Int} {s1 t1 : Int} {a1 b1 : Option Addr} {n1 c1 m1 d1 : Nat} {l1 k1 : List Int} {s2 t2 : Int} {a2 b2 : Option Addr} {n2 c2 m2 d2 : Nat} {l2 k2 : List Int} (q1 : l1.length ≤ 12) (p1 : k1.length ≤ 12) (q2 : l2.length ≤ 12) (p2 : k2.length ≤ 12) : ∃ (z : Int) (F : Nat → Int) (q t : Int) (l k : List Int), ∀ W, Ints W (.slice a1 n1 c1) l1 → Ints W (.slice b1 m1 d1) k1 → Ints W (.slice a2 n2 c2) l2 → Ints W (.slice b2 m2 d2) k2 → Calls Tryz.prog 14 #[.agg #[.int .i64 (f 0), .int .i64 (f 1), .int .i64 (f 2), .int .i64 (f 3), .int .i64 (f 4), .int .i64 (f 5), .int .i64 s1, .slice a1 n1 c1, .int .i64 t1, .slice b1 m1 d1], .agg #[.int .i64 (g 0), .int .i64 (g 1), .int .i64 (g 2), .int .i64 (g 3), .int .i64 (g 4), .int .i64 (g 5), .int .i64 s2, .slice a2 n2 c2, .int .i64 t2, .slice b2 m2 d2]] W (GU z F q t l k W) ∧ Calls Tryz.prog 15 #[.agg #[.int .i64 (f 0), .int .i64 (f 1), .int .i64 (f 2), .int .i64 (f 3), .int .i64 (f 4), .int .i64 (f 5), .int .i64 s1, .slice a1 n1 c1, .int .i64 t1, .slice b1 m1 d1], .agg #[.int .i64 (g 0), .int .i64 (g 1), .int .i64 (g 2), .int .i64 (g 3), .int .i64 (g 4), .int .i64 (g 5), .int .i64 s2, .slice a2 n2 c2, .int .i64 t2, .slice b2 m2 d2]] W (GU z F q t l k W) := by
  rcases hv : uR f s1 l1 t1 k1 && uR g s2 l2 t2 k2 with _ | _
  · exact ⟨_, _, _, _, _, _, fun W h1 h2 h3 h4 => ⟨(udiv_bad h1 h2 (by omega) (by omega) h3 h4 (by omega) (by omega) hv).mono fun _ _ g => uze_gu g, (u9div_bad h1 h2 (by omega) (by omega) h3 h4 (by omega) (by omega) hv).mono fun _ _ g => uze_gu g⟩⟩
  · rw [Bool.and_eq_true] at hv
    obtain ⟨o1, x, rfl, rfl, rfl, rfl, g1⟩ := uR_good hv.1
    obtain ⟨o2, y, rfl, rfl, rfl, rfl, g2⟩ := uR_good hv.2
    have Z1 : FSz 1000 x := FSz.mono (i := 12) ⟨Sz.of q1, Sz.of p1⟩
    have Z2 : FSz 1000 y := FSz.mono (i := 12) ⟨Sz.of q2, Sz.of p2⟩
    rcases hs : ok (difF f g) with _ | _
    · exact ⟨_, _, _, _, _, _, fun W h1 h2 h3 h4 => ⟨(udiv_far (⟨⟨rfl, h1⟩, ⟨(den_sign x).symm, h2⟩⟩ : Fr W _ _ _ x) (⟨⟨rfl, h3⟩, ⟨(den_sign y).symm, h4⟩⟩ : Fr W _ _ _ y) Z1 Z2 o1 o2 g1 g2 (sign_ne g2) rfl (divR_far o1 o2 hs)).mono fun _ _ g => uze_gu g, (u9div_far (⟨⟨rfl, h1⟩, ⟨(den_sign x).symm, h2⟩⟩ : Fr W _ _ _ x) (⟨⟨rfl, h3⟩, ⟨(den_sign y).symm, h4⟩⟩ : Fr W _ _ _ y) Z1 Z2 o1 o2 g1 g2 (sign_ne g2) rfl (divR_far o1 o2 hs)).mono fun _ _ g => uze_gu g⟩⟩
    · exact ⟨_, _, _, _, _, _, fun W h1 h2 h3 h4 => ⟨(udiv_k (⟨⟨rfl, h1⟩, ⟨(den_sign x).symm, h2⟩⟩ : Fr W _ _ _ x) (⟨⟨rfl, h3⟩, ⟨(den_sign y).symm, h4⟩⟩ : Fr W _ _ _ y) Z1 Z2 o1 o2 g1 g2 (sign_ne g2) rfl (divR_is o1 o2 hs)).mono fun _ _ g => uve_gu g, (u9div_k (⟨⟨rfl, h1⟩, ⟨(den_sign x).symm, h2⟩⟩ : Fr W _ _ _ x) (⟨⟨rfl, h3⟩, ⟨(den_sign y).symm, h4⟩⟩ : Fr W _ _ _ y) Z1 Z2 o1 o2 g1 g2 (sign_ne g2) rfl (divR_is o1 o2 hs)).mono fun _ _ g => uve_gu g⟩⟩
theorem to_pair {f : Nat → Int} {s3 t3 : Int} {a3 b3 : Option Addr} {n3 c3 m3 d3 : Nat} {l3 k3 : List Int} {s1 t1 : Int} {a1 b1 : Option Addr} {n1 c1 m1 d1 : Nat} {l1 k1 : List Int} (q1 : l1.length ≤ 12) (p1 : k1.length ≤ 12) (q3 : l3.length ≤ 6) (p3 : k3.length ≤ 6) : ∃ (z : Int) (q t : Int) (l k : List Int), ∀ W, Ints W (.slice a3 n3 c3) l3 → Ints W (.slice b3 m3 d3) k3 → Ints W (.slice a1 n1 c1) l1 → Ints W (.slice b1 m1 d1) k1 → Calls Tryz.prog 17 #[.agg #[.int .i64 s3, .slice a3 n3 c3, .int .i64 t3, .slice b3 m3 d3], .agg #[.int .i64 (f 0), .int .i64 (f 1), .int .i64 (f 2), .int .i64 (f 3), .int .i64 (f 4), .int .i64 (f 5), .int .i64 s1, .slice a1 n1 c1, .int .i64 t1, .slice b1 m1 d1]] W (GF z q t l k W) ∧ Calls Tryz.prog 18 #[.agg #[.int .i64 s3, .slice a3 n3 c3, .int .i64 t3, .slice b3 m3 d3], .agg #[.int .i64 (f 0), .int .i64 (f 1), .int .i64 (f 2), .int .i64 (f 3), .int .i64 (f 4), .int .i64 (f 5), .int .i64 s1, .slice a1 n1 c1, .int .i64 t1, .slice b1 m1 d1]] W (GF z q t l k W) := by
  rcases hv : uR f s1 l1 t1 k1 && fRightB s3 l3 t3 k3 with _ | _
  · exact ⟨_, _, _, _, _, fun W h3 h4 h1 h2 => ⟨(uto_bad h3 h4 (by omega) (by omega) h1 h2 (by omega) (by omega) hv).mono fun _ _ g => fze_gf g, (u9to_bad h3 h4 (by omega) (by omega) h1 h2 (by omega) (by omega) hv).mono fun _ _ g => fze_gf g⟩⟩
  · rw [Bool.and_eq_true] at hv
    obtain ⟨o1, x, rfl, rfl, rfl, rfl, g1⟩ := uR_good hv.1
    obtain ⟨v, rfl, rfl, rfl, rfl⟩ := fright_of hv.2
    have Z1 : FSz 1000 x := FSz.mono (i := 12) ⟨Sz.of q1, Sz.of p1⟩
    have Z3 : FSz 1000 v := FSz.mono (i := 6) ⟨Sz.of q3, Sz.of p3⟩
    exact ⟨_, _, _, _, _, fun W h3 h4 h1 h2 => ⟨(uto_k (⟨⟨rfl, h3⟩, ⟨(den_sign v).symm, h4⟩⟩ : Fr W _ _ _ v) (⟨⟨rfl, h1⟩, ⟨(den_sign x).symm, h2⟩⟩ : Fr W _ _ _ x) Z3 Z1 o1 g1 (sign_ne g1) rfl).mono fun _ _ g => fve_gf g, (u9to_k (⟨⟨rfl, h3⟩, ⟨(den_sign v).symm, h4⟩⟩ : Fr W _ _ _ v) (⟨⟨rfl, h1⟩, ⟨(den_sign x).symm, h2⟩⟩ : Fr W _ _ _ x) Z3 Z1 o1 g1 (sign_ne g1) rfl).mono fun _ _ g => fve_gf g⟩⟩
theorem from_pair {f : Nat → Int} {s3 t3 : Int} {a3 b3 : Option Addr} {n3 c3 m3 d3 : Nat} {l3 k3 : List Int} {s1 t1 : Int} {a1 b1 : Option Addr} {n1 c1 m1 d1 : Nat} {l1 k1 : List Int} (q1 : l1.length ≤ 12) (p1 : k1.length ≤ 12) (q3 : l3.length ≤ 6) (p3 : k3.length ≤ 6) : ∃ (z : Int) (q t : Int) (l k : List Int), ∀ W, Ints W (.slice a3 n3 c3) l3 → Ints W (.slice b3 m3 d3) k3 → Ints W (.slice a1 n1 c1) l1 → Ints W (.slice b1 m1 d1) k1 → Calls Tryz.prog 19 #[.agg #[.int .i64 s3, .slice a3 n3 c3, .int .i64 t3, .slice b3 m3 d3], .agg #[.int .i64 (f 0), .int .i64 (f 1), .int .i64 (f 2), .int .i64 (f 3), .int .i64 (f 4), .int .i64 (f 5), .int .i64 s1, .slice a1 n1 c1, .int .i64 t1, .slice b1 m1 d1]] W (GF z q t l k W) ∧ Calls Tryz.prog 20 #[.agg #[.int .i64 s3, .slice a3 n3 c3, .int .i64 t3, .slice b3 m3 d3], .agg #[.int .i64 (f 0), .int .i64 (f 1), .int .i64 (f 2), .int .i64 (f 3), .int .i64 (f 4), .int .i64 (f 5), .int .i64 s1, .slice a1 n1 c1, .int .i64 t1, .slice b1 m1 d1]] W (GF z q t l k W) := by
  rcases hv : uR f s1 l1 t1 k1 && fRightB s3 l3 t3 k3 with _ | _
  · exact ⟨_, _, _, _, _, fun W h3 h4 h1 h2 => ⟨(ufrom_bad h3 h4 (by omega) (by omega) h1 h2 (by omega) (by omega) hv).mono fun _ _ g => fze_gf g, (u9from_bad h3 h4 (by omega) (by omega) h1 h2 (by omega) (by omega) hv).mono fun _ _ g => fze_gf g⟩⟩
  · rw [Bool.and_eq_true] at hv
    obtain ⟨o1, x, rfl, rfl, rfl, rfl, g1⟩ := uR_good hv.1
    obtain ⟨v, rfl, rfl, rfl, rfl⟩ := fright_of hv.2
    have Z1 : FSz 1000 x := FSz.mono (i := 12) ⟨Sz.of q1, Sz.of p1⟩
    have Z3 : FSz 1000 v := FSz.mono (i := 6) ⟨Sz.of q3, Sz.of p3⟩
    exact ⟨_, _, _, _, _, fun W h3 h4 h1 h2 => ⟨(ufrom_k (⟨⟨rfl, h3⟩, ⟨(den_sign v).symm, h4⟩⟩ : Fr W _ _ _ v) (⟨⟨rfl, h1⟩, ⟨(den_sign x).symm, h2⟩⟩ : Fr W _ _ _ x) Z3 Z1 o1 g1 rfl).mono fun _ _ g => fve_gf g, (u9from_k (⟨⟨rfl, h3⟩, ⟨(den_sign v).symm, h4⟩⟩ : Fr W _ _ _ v) (⟨⟨rfl, h1⟩, ⟨(den_sign x).symm, h2⟩⟩ : Fr W _ _ _ x) Z3 Z1 o1 g1 rfl).mono fun _ _ g => fve_gf g⟩⟩
theorem rfsame_g {w : World} {s t : Int} {l k : List Int} {a1 b1 a2 b2 : Option Addr} {n1 c1 m1 d1 n2 c2 m2 d2 : Nat} (h1 : Ints w (.slice a1 n1 c1) l) (h2 : Ints w (.slice b1 m1 d1) k) (h3 : Ints w (.slice a2 n2 c2) l) (h4 : Ints w (.slice b2 m2 d2) k) :
    Calls Tryz.prog 21 #[.agg #[.int .i64 s, .slice a1 n1 c1, .int .i64 t, .slice b1 m1 d1], .agg #[.int .i64 s, .slice a2 n2 c2, .int .i64 t, .slice b2 m2 d2]] w fun e w' => e = .returned (.bool true) ∧ RowKit.Below w.heap.size w w' := by
  have := rfsame_raw s a1 n1 c1 l t b1 m1 d1 k s a2 n2 c2 l t b2 m2 d2 k w h1 h2 h3 h4
  simpa using this

set_option maxHeartbeats 2000000 in
theorem u9same_g {w : World} {f : Nat → Int} {s t : Int} {l k : List Int} {a1 b1 a2 b2 : Option Addr} {n1 c1 m1 d1 n2 c2 m2 d2 : Nat} (h1 : Ints w (.slice a1 n1 c1) l) (h2 : Ints w (.slice b1 m1 d1) k) (h3 : Ints w (.slice a2 n2 c2) l) (h4 : Ints w (.slice b2 m2 d2) k) :
    Calls Tryz.prog 16 #[.agg (uc f s (.slice a1 n1 c1) t (.slice b1 m1 d1)), .agg (uc f s (.slice a2 n2 c2) t (.slice b2 m2 d2))] w fun e w' => e = .returned (.bool true) ∧ RowKit.Below w.heap.size w w' := by
  have heq := eq_dim f f
  rw [eqB_refl] at heq
  have H1 := Lib.hid h1
  have H2 := Lib.hid h2
  have H3 := Lib.hid h3
  have H4 := Lib.hid h4
  have s0 := (((Sf.start w).put [.int .i64 (f 0), .int .i64 (f 1), .int .i64 (f 2), .int .i64 (f 3), .int .i64 (f 4), .int .i64 (f 5), .int .i64 s, .slice a1 n1 c1, .int .i64 t, .slice b1 m1 d1] 30).put [.int .i64 (f 0), .int .i64 (f 1), .int .i64 (f 2), .int .i64 (f 3), .int .i64 (f 4), .int .i64 (f 5), .int .i64 s, .slice a2 n2 c2, .int .i64 t, .slice b2 m2 d2] 30)
  try simp only [World.size_alloc] at s0
  have S0 := Lib.hid s0
  clear s0
  clear h1 h2 h3 h4
  unfold uc
  unfold cl at heq
  go_enter Tryz.func16, Tryz.ntmps16
  obtain ⟨q1, q2, q3, q4, q5, q6, q7, q8, q9, q10⟩ := Fb.cells10 (S0.out.box (w.heap.size + 1, 30, [.int .i64 (f 0), .int .i64 (f 1), .int .i64 (f 2), .int .i64 (f 3), .int .i64 (f 4), .int .i64 (f 5), .int .i64 s, .slice a2 n2 c2, .int .i64 t, .slice b2 m2 d2]) mq0)
  obtain ⟨q11, q12, q13, q14, q15, q16, q17, q18, q19, q20⟩ := Fb.cells10 (S0.out.box (w.heap.size, 30, [.int .i64 (f 0), .int .i64 (f 1), .int .i64 (f 2), .int .i64 (f 3), .int .i64 (f 4), .int .i64 (f 5), .int .i64 s, .slice a1 n1 c1, .int .i64 t, .slice b1 m1 d1]) mq1)
  go_wp2_with fail
  clear q1 q2 q3 q4 q5 q6 q7 q8 q9 q10 q11 q12 q13 q14 q15 q16 q17 q18 q19 q20
  refine (rfsame_g (H1.out.later S0.out.below) (H2.out.later S0.out.below) (H3.out.later S0.out.below) (H4.out.later S0.out.below)).mono ?_
  rintro e w1 ⟨rfl, hb⟩
  have R1 := Lib.hid (S0.out.later hb)
  clear hb
  go_wp2_with fail
  go_ret
  exact ⟨rfl, R1.out.below⟩
end Go.Proofs.YtmhdhabgdlefjaaGreatDoor.Un

namespace Go.Proofs.YtmhdhabgdlefjaaGreatDoor.Un
open Go.RowKit Bi Dm

set_option maxHeartbeats 4000000 in
theorem tells_long {w : World} {f g : Nat → Int} {s1 t1 : Int} {a1 b1 : Option Addr} {n1 c1 m1 d1 : Nat} {s2 t2 : Int} {a2 b2 : Option Addr} {n2 c2 m2 d2 : Nat} {s3 t3 : Int} {a3 b3 : Option Addr} {n3 c3 m3 d3 : Nat} (z : ByteArray) (hz : z.size ≤ 9223372036854775807) (hz2 : 100 < z.size) (he : EnvU w) :
    Calls Tryz.prog 3 #[.string z, .agg #[.int .i64 (f 0), .int .i64 (f 1), .int .i64 (f 2), .int .i64 (f 3), .int .i64 (f 4), .int .i64 (f 5), .int .i64 s1, .slice a1 n1 c1, .int .i64 t1, .slice b1 m1 d1], .agg #[.int .i64 (g 0), .int .i64 (g 1), .int .i64 (g 2), .int .i64 (g 3), .int .i64 (g 4), .int .i64 (g 5), .int .i64 s2, .slice a2 n2 c2, .int .i64 t2, .slice b2 m2 d2], .agg #[.int .i64 s3, .slice a3 n3 c3, .int .i64 t3, .slice b3 m3 d3]] w fun e w' => e = .returned (.bool true) ∧ RowKit.Below w.heap.size w w' := by
  have HE := Lib.hid he
  have g1 : decide (100 < (z.size : Int)) = true := by simp; omega
  have g1' : decide (100 < z.size) = true := by simp; omega
  have s0 := ((((Sf.start w).put [.int .i64 (f 0), .int .i64 (f 1), .int .i64 (f 2), .int .i64 (f 3), .int .i64 (f 4), .int .i64 (f 5), .int .i64 s1, .slice a1 n1 c1, .int .i64 t1, .slice b1 m1 d1] 30).put [.int .i64 (g 0), .int .i64 (g 1), .int .i64 (g 2), .int .i64 (g 3), .int .i64 (g 4), .int .i64 (g 5), .int .i64 s2, .slice a2 n2 c2, .int .i64 t2, .slice b2 m2 d2] 30).put [.int .i64 s3, .slice a3 n3 c3, .int .i64 t3, .slice b3 m3 d3] 28)
  try simp only [World.size_alloc] at s0
  have S0 := Lib.hid s0
  clear s0
  clear he
  go_enter Tryz.func3, Tryz.ntmps3
  go_wp2_with fail
  refine (sane_t _ (HE.out.below S0.out.below)).mono ?_
  rintro e w1 ⟨rfl, hb⟩
  have R1 := Lib.hid (S0.out.later hb)
  clear hb
  go_wp2_with fail
  go_ret
  exact ⟨rfl, R1.out.below⟩

set_option maxHeartbeats 8000000 in
theorem tells_no {w : World} {f g : Nat → Int} {s1 t1 : Int} {a1 b1 : Option Addr} {n1 c1 m1 d1 : Nat} {s2 t2 : Int} {a2 b2 : Option Addr} {n2 c2 m2 d2 : Nat} {s3 t3 : Int} {a3 b3 : Option Addr} {n3 c3 m3 d3 : Nat} (z : ByteArray) (hz : z.size ≤ 100) (he : EnvU w) (hn1 : n1 ≤ 9223372036854775807) (hm1 : m1 ≤ 9223372036854775807) (hn2 : n2 ≤ 9223372036854775807) (hm2 : m2 ≤ 9223372036854775807) (hn3 : n3 ≤ 9223372036854775807) (hm3 : m3 ≤ 9223372036854775807) (hno : ((decide ((n1 : Int) ≤ 12) && decide ((m1 : Int) ≤ 12)) && ((decide ((n2 : Int) ≤ 12) && decide ((m2 : Int) ≤ 12)) && (decide ((n3 : Int) ≤ 6) && decide ((m3 : Int) ≤ 6)))) = false) :
    Calls Tryz.prog 3 #[.string z, .agg #[.int .i64 (f 0), .int .i64 (f 1), .int .i64 (f 2), .int .i64 (f 3), .int .i64 (f 4), .int .i64 (f 5), .int .i64 s1, .slice a1 n1 c1, .int .i64 t1, .slice b1 m1 d1], .agg #[.int .i64 (g 0), .int .i64 (g 1), .int .i64 (g 2), .int .i64 (g 3), .int .i64 (g 4), .int .i64 (g 5), .int .i64 s2, .slice a2 n2 c2, .int .i64 t2, .slice b2 m2 d2], .agg #[.int .i64 s3, .slice a3 n3 c3, .int .i64 t3, .slice b3 m3 d3]] w fun e w' => e = .returned (.bool true) ∧ RowKit.Below w.heap.size w w' := by
  have HE := Lib.hid he
  have MN1 := Lib.hid hn1
  have MM1 := Lib.hid hm1
  obtain ⟨q1, hq1⟩ : ∃ q, (decide ((n1 : Int) ≤ 12) && decide ((m1 : Int) ≤ 12)) = q := ⟨_, rfl⟩
  have KW1 := Lib.hid hq1
  have MN2 := Lib.hid hn2
  have MM2 := Lib.hid hm2
  obtain ⟨q2, hq2⟩ : ∃ q, (decide ((n2 : Int) ≤ 12) && decide ((m2 : Int) ≤ 12)) = q := ⟨_, rfl⟩
  have KW2 := Lib.hid hq2
  have MN3 := Lib.hid hn3
  have MM3 := Lib.hid hm3
  obtain ⟨q3, hq3⟩ : ∃ q, (decide ((n3 : Int) ≤ 6) && decide ((m3 : Int) ≤ 6)) = q := ⟨_, rfl⟩
  have KW3 := Lib.hid hq3
  rw [hq1, hq2, hq3] at hno
  have HNO := Lib.hid hno
  clear he hno hn1 hm1 hq1 hn2 hm2 hq2 hn3 hm3 hq3
  have g1 : decide (100 < (z.size : Int)) = false := by simp; omega
  have g1' : decide (100 < z.size) = false := by simp; omega
  have s0 := ((((Sf.start w).put [.int .i64 (f 0), .int .i64 (f 1), .int .i64 (f 2), .int .i64 (f 3), .int .i64 (f 4), .int .i64 (f 5), .int .i64 s1, .slice a1 n1 c1, .int .i64 t1, .slice b1 m1 d1] 30).put [.int .i64 (g 0), .int .i64 (g 1), .int .i64 (g 2), .int .i64 (g 3), .int .i64 (g 4), .int .i64 (g 5), .int .i64 s2, .slice a2 n2 c2, .int .i64 t2, .slice b2 m2 d2] 30).put [.int .i64 s3, .slice a3 n3 c3, .int .i64 t3, .slice b3 m3 d3] 28)
  try simp only [World.size_alloc] at s0
  have S0 := Lib.hid s0
  clear s0
  go_enter Tryz.func3, Tryz.ntmps3
  go_wp2_with fail
  refine (sane_t _ (HE.out.below S0.out.below)).mono ?_
  rintro e w1 ⟨rfl, hb⟩
  have R1 := Lib.hid (S0.out.later hb)
  clear hb
  obtain ⟨q1, q2, q3, q4, q5, q6, q7, q8, q9, q10⟩ := Fb.cells10 (R1.out.box (w.heap.size, 30, [.int .i64 (f 0), .int .i64 (f 1), .int .i64 (f 2), .int .i64 (f 3), .int .i64 (f 4), .int .i64 (f 5), .int .i64 s1, .slice a1 n1 c1, .int .i64 t1, .slice b1 m1 d1]) mq2)
  go_wp2_with fail
  clear q1 q2 q3 q4 q5 q6 q7 q8 q9 q10
  refine (u9few_len (f := f) (s := s1) (t := t1) (a := a1) (b := b1) (c := c1) (d := d1) MN1.out MM1.out (k := q1) KW1.out).mono ?_
  rintro e w2 ⟨rfl, hb⟩
  have R2 := Lib.hid (R1.out.later hb)
  clear hb
  cases q1
  case false =>
    go_wp2_with fail
    go_ret
    exact ⟨rfl, R2.out.below⟩
  obtain ⟨q11, q12, q13, q14, q15, q16, q17, q18, q19, q20⟩ := Fb.cells10 (R2.out.box (w.heap.size + 1, 30, [.int .i64 (g 0), .int .i64 (g 1), .int .i64 (g 2), .int .i64 (g 3), .int .i64 (g 4), .int .i64 (g 5), .int .i64 s2, .slice a2 n2 c2, .int .i64 t2, .slice b2 m2 d2]) mq1)
  go_wp2_with fail
  clear q11 q12 q13 q14 q15 q16 q17 q18 q19 q20
  refine (u9few_len (f := g) (s := s2) (t := t2) (a := a2) (b := b2) (c := c2) (d := d2) MN2.out MM2.out (k := q2) KW2.out).mono ?_
  rintro e w3 ⟨rfl, hb⟩
  have R3 := Lib.hid (R2.out.later hb)
  clear hb
  cases q2
  case false =>
    go_wp2_with fail
    go_ret
    exact ⟨rfl, R3.out.below⟩
  obtain ⟨q21, q22, q23, q24⟩ := Fb.cells4 (R3.out.box (w.heap.size + 1 + 1, 28, [.int .i64 s3, .slice a3 n3 c3, .int .i64 t3, .slice b3 m3 d3]) mq0)
  go_wp2_with fail
  clear q21 q22 q23 q24
  refine (ffew_len s3 a3 n3 c3 t3 b3 m3 d3 6 _ MN3.out MM3.out q3 KW3.out).mono ?_
  rintro e w4 ⟨rfl, hb⟩
  have R4 := Lib.hid (R3.out.later hb)
  clear hb
  cases q3
  case false =>
    go_wp2_with fail
    go_ret
    exact ⟨rfl, R4.out.below⟩
  exact absurd HNO.out (by decide)

set_option maxHeartbeats 40000000 in
theorem tells_good {w : World} {f g : Nat → Int} {s1 t1 : Int} {a1 b1 : Option Addr} {n1 c1 m1 d1 : Nat} {l1 k1 : List Int} {s2 t2 : Int} {a2 b2 : Option Addr} {n2 c2 m2 d2 : Nat} {l2 k2 : List Int} {s3 t3 : Int} {a3 b3 : Option Addr} {n3 c3 m3 d3 : Nat} {l3 k3 : List Int} (z : ByteArray) (hz : z.size ≤ 100) (he : EnvU w) (hl1 : Ints w (.slice a1 n1 c1) l1) (hk1 : Ints w (.slice b1 m1 d1) k1) (hn1 : n1 ≤ 12) (hm1 : m1 ≤ 12) (el1 : l1.length = n1) (ek1 : k1.length = m1) (hl2 : Ints w (.slice a2 n2 c2) l2) (hk2 : Ints w (.slice b2 m2 d2) k2) (hn2 : n2 ≤ 12) (hm2 : m2 ≤ 12) (el2 : l2.length = n2) (ek2 : k2.length = m2) (hl3 : Ints w (.slice a3 n3 c3) l3) (hk3 : Ints w (.slice b3 m3 d3) k3) (hn3 : n3 ≤ 6) (hm3 : m3 ≤ 6) (el3 : l3.length = n3) (ek3 : k3.length = m3) :
    Calls Tryz.prog 3 #[.string z, .agg #[.int .i64 (f 0), .int .i64 (f 1), .int .i64 (f 2), .int .i64 (f 3), .int .i64 (f 4), .int .i64 (f 5), .int .i64 s1, .slice a1 n1 c1, .int .i64 t1, .slice b1 m1 d1], .agg #[.int .i64 (g 0), .int .i64 (g 1), .int .i64 (g 2), .int .i64 (g 3), .int .i64 (g 4), .int .i64 (g 5), .int .i64 s2, .slice a2 n2 c2, .int .i64 t2, .slice b2 m2 d2], .agg #[.int .i64 s3, .slice a3 n3 c3, .int .i64 t3, .slice b3 m3 d3]] w fun e w' => e = .returned (.bool true) ∧ RowKit.Below w.heap.size w w' := by
  have HE := Lib.hid he
  have g1 : decide (100 < (z.size : Int)) = false := by simp; omega
  have g1' : decide (100 < z.size) = false := by simp; omega
  obtain ⟨z4, F4, q4, t4, l4, k4, r4, r4'⟩ := read_pair z
  obtain ⟨z5, F5, q5, t5, l5, k5, r5⟩ := mul_pair (f := f) (g := g) (s1 := s1) (t1 := t1) (a1 := a1) (b1 := b1) (n1 := n1) (c1 := c1) (m1 := m1) (d1 := d1) (l1 := l1) (k1 := k1) (s2 := s2) (t2 := t2) (a2 := a2) (b2 := b2) (n2 := n2) (c2 := c2) (m2 := m2) (d2 := d2) (l2 := l2) (k2 := k2) (by omega) (by omega) (by omega) (by omega)
  obtain ⟨z6, F6, q6, t6, l6, k6, r6⟩ := div_pair (f := f) (g := g) (s1 := s1) (t1 := t1) (a1 := a1) (b1 := b1) (n1 := n1) (c1 := c1) (m1 := m1) (d1 := d1) (l1 := l1) (k1 := k1) (s2 := s2) (t2 := t2) (a2 := a2) (b2 := b2) (n2 := n2) (c2 := c2) (m2 := m2) (d2 := d2) (l2 := l2) (k2 := k2) (by omega) (by omega) (by omega) (by omega)
  obtain ⟨z7, q7, t7, l7, k7, r7⟩ := to_pair (f := f) (s3 := s3) (t3 := t3) (a3 := a3) (b3 := b3) (n3 := n3) (c3 := c3) (m3 := m3) (d3 := d3) (l3 := l3) (k3 := k3) (s1 := s1) (t1 := t1) (a1 := a1) (b1 := b1) (n1 := n1) (c1 := c1) (m1 := m1) (d1 := d1) (l1 := l1) (k1 := k1) (by omega) (by omega) (by omega) (by omega)
  obtain ⟨z8, q8, t8, l8, k8, r8⟩ := from_pair (f := f) (s3 := s3) (t3 := t3) (a3 := a3) (b3 := b3) (n3 := n3) (c3 := c3) (m3 := m3) (d3 := d3) (l3 := l3) (k3 := k3) (s1 := s1) (t1 := t1) (a1 := a1) (b1 := b1) (n1 := n1) (c1 := c1) (m1 := m1) (d1 := d1) (l1 := l1) (k1 := k1) (by omega) (by omega) (by omega) (by omega)
  have H4 := Lib.hid r4
  have H4' := Lib.hid r4'
  have H5 := Lib.hid r5
  have H6 := Lib.hid r6
  have H7 := Lib.hid r7
  have H8 := Lib.hid r8
  obtain ⟨rr, hrr⟩ : ∃ r, uR f s1 l1 t1 k1 = r := ⟨_, rfl⟩
  have HRR := Lib.hid hrr
  unfold GU uc at H4 H4' H5 H6
  unfold GF at H7 H8
  have b4 : (z4 != z4) = false := by simp
  have b5 : (z5 != z5) = false := by simp
  have b6 : (z6 != z6) = false := by simp
  have c7 : (z7 == z7) = true := by simp
  have c8 : (z8 == z8) = true := by simp
  have MN1 : Hid (n1 ≤ 9223372036854775807) := Lib.hid (by omega)
  have MM1 : Hid (m1 ≤ 9223372036854775807) := Lib.hid (by omega)
  have KW1 : Hid ((decide ((n1 : Int) ≤ 12) && decide ((m1 : Int) ≤ 12)) = true) := Lib.hid (by simp; omega)
  have LL1 : Hid (l1.length ≤ 1000) := Lib.hid (by omega)
  have LK1 : Hid (k1.length ≤ 1000) := Lib.hid (by omega)
  have MN2 : Hid (n2 ≤ 9223372036854775807) := Lib.hid (by omega)
  have MM2 : Hid (m2 ≤ 9223372036854775807) := Lib.hid (by omega)
  have KW2 : Hid ((decide ((n2 : Int) ≤ 12) && decide ((m2 : Int) ≤ 12)) = true) := Lib.hid (by simp; omega)
  have LL2 : Hid (l2.length ≤ 1000) := Lib.hid (by omega)
  have LK2 : Hid (k2.length ≤ 1000) := Lib.hid (by omega)
  have MN3 : Hid (n3 ≤ 9223372036854775807) := Lib.hid (by omega)
  have MM3 : Hid (m3 ≤ 9223372036854775807) := Lib.hid (by omega)
  have KW3 : Hid ((decide ((n3 : Int) ≤ 6) && decide ((m3 : Int) ≤ 6)) = true) := Lib.hid (by simp; omega)
  have LL3 : Hid (l3.length ≤ 1000) := Lib.hid (by omega)
  have LK3 : Hid (k3.length ≤ 1000) := Lib.hid (by omega)
  have s0 := ((((((((((Sf.start w).arg hk1).arg hl1).arg hk2).arg hl2).arg hk3).arg hl3).put [.int .i64 (f 0), .int .i64 (f 1), .int .i64 (f 2), .int .i64 (f 3), .int .i64 (f 4), .int .i64 (f 5), .int .i64 s1, .slice a1 n1 c1, .int .i64 t1, .slice b1 m1 d1] 30).put [.int .i64 (g 0), .int .i64 (g 1), .int .i64 (g 2), .int .i64 (g 3), .int .i64 (g 4), .int .i64 (g 5), .int .i64 s2, .slice a2 n2 c2, .int .i64 t2, .slice b2 m2 d2] 30).put [.int .i64 s3, .slice a3 n3 c3, .int .i64 t3, .slice b3 m3 d3] 28)
  try simp only [World.size_alloc] at s0
  have S0 := Lib.hid s0
  clear s0
  clear he hrr r4 r4' r5 r6 r7 r8 hl1 hk1 el1 ek1 hn1 hm1 hl2 hk2 el2 ek2 hn2 hm2 hl3 hk3 el3 ek3 hn3 hm3
  go_enter Tryz.func3, Tryz.ntmps3
  go_wp2_with fail
  refine (sane_t _ (HE.out.below S0.out.below)).mono ?_
  rintro e w1 ⟨rfl, hb⟩
  have R1 := Lib.hid (S0.out.later hb)
  clear hb
  obtain ⟨q1, q2, q3, q4, q5, q6, q7, q8, q9, q10⟩ := Fb.cells10 (R1.out.box (w.heap.size, 30, [.int .i64 (f 0), .int .i64 (f 1), .int .i64 (f 2), .int .i64 (f 3), .int .i64 (f 4), .int .i64 (f 5), .int .i64 s1, .slice a1 n1 c1, .int .i64 t1, .slice b1 m1 d1]) mq2)
  go_wp2_with fail
  clear q1 q2 q3 q4 q5 q6 q7 q8 q9 q10
  refine (u9few_len (f := f) (s := s1) (t := t1) (a := a1) (b := b1) (c := c1) (d := d1) MN1.out MM1.out (k := true) KW1.out).mono ?_
  rintro e w2 ⟨rfl, hb⟩
  have R2 := Lib.hid (R1.out.later hb)
  clear hb
  obtain ⟨q11, q12, q13, q14, q15, q16, q17, q18, q19, q20⟩ := Fb.cells10 (R2.out.box (w.heap.size + 1, 30, [.int .i64 (g 0), .int .i64 (g 1), .int .i64 (g 2), .int .i64 (g 3), .int .i64 (g 4), .int .i64 (g 5), .int .i64 s2, .slice a2 n2 c2, .int .i64 t2, .slice b2 m2 d2]) mq1)
  go_wp2_with fail
  clear q11 q12 q13 q14 q15 q16 q17 q18 q19 q20
  refine (u9few_len (f := g) (s := s2) (t := t2) (a := a2) (b := b2) (c := c2) (d := d2) MN2.out MM2.out (k := true) KW2.out).mono ?_
  rintro e w3 ⟨rfl, hb⟩
  have R3 := Lib.hid (R2.out.later hb)
  clear hb
  obtain ⟨q21, q22, q23, q24⟩ := Fb.cells4 (R3.out.box (w.heap.size + 1 + 1, 28, [.int .i64 s3, .slice a3 n3 c3, .int .i64 t3, .slice b3 m3 d3]) mq0)
  go_wp2_with fail
  clear q21 q22 q23 q24
  refine (ffew_len s3 a3 n3 c3 t3 b3 m3 d3 6 _ MN3.out MM3.out true KW3.out).mono ?_
  rintro e w4 ⟨rfl, hb⟩
  have R4 := Lib.hid (R3.out.later hb)
  clear hb
  go_wp2_with fail
  refine (H4.out _ (HE.out.below R4.out.below)).mono ?_
  rintro e w5 ⟨ax5, nx5, cx5, bx5, mx5, dx5, rfl, hi, hj, hb, hf, hg⟩
  have R5 := Lib.hid (R4.out.ret2 hb hi hf hj hg)
  clear hi hj hb hf hg
  have P25 := Lib.hid (R5.out.put [.int .i64 0, .int .i64 0, .int .i64 0, .int .i64 0, .int .i64 0, .int .i64 0, .int .i64 0, .slice none 0 0, .int .i64 0, .slice none 0 0] 30)
  have Q25 := Lib.hid (Sf.row (pre := []) P25.out [.int .i64 (F4 0), .int .i64 (F4 1), .int .i64 (F4 2), .int .i64 (F4 3), .int .i64 (F4 4), .int .i64 (F4 5), .int .i64 q4, .slice ax5 nx5 cx5, .int .i64 t4, .slice bx5 mx5 dx5])
  go_wp2_with (first | refine wpList_store_row rfl _ _ _ rfl _ #[.int .i64 (F4 0), .int .i64 (F4 1), .int .i64 (F4 2), .int .i64 (F4 3), .int .i64 (F4 4), .int .i64 (F4 5), .int .i64 q4, .slice ax5 nx5 cx5, .int .i64 t4, .slice bx5 mx5 dx5] rfl rfl _ _ (P25.out.box _ List.mem_cons_self) (by kernel_rfl) rfl (by simp [Value.oneCell']) ?_)
  refine (H4'.out _).mono ?_
  rintro e w6 ⟨ax6, nx6, cx6, bx6, mx6, dx6, rfl, hi, hj, hb, hf, hg⟩
  have R6 := Lib.hid (Q25.out.ret2 hb hi hf hj hg)
  clear hi hj hb hf hg
  have P26 := Lib.hid (R6.out.put [.int .i64 0, .int .i64 0, .int .i64 0, .int .i64 0, .int .i64 0, .int .i64 0, .int .i64 0, .slice none 0 0, .int .i64 0, .slice none 0 0] 30)
  have Q26 := Lib.hid (Sf.row (pre := []) P26.out [.int .i64 (F4 0), .int .i64 (F4 1), .int .i64 (F4 2), .int .i64 (F4 3), .int .i64 (F4 4), .int .i64 (F4 5), .int .i64 q4, .slice ax6 nx6 cx6, .int .i64 t4, .slice bx6 mx6 dx6])
  obtain ⟨q27, q28, q29, q30, q31, q32, q33, q34, q35, q36⟩ := Fb.cells10 (Q26.out.box (w.heap.size, 30, [.int .i64 (f 0), .int .i64 (f 1), .int .i64 (f 2), .int .i64 (f 3), .int .i64 (f 4), .int .i64 (f 5), .int .i64 s1, .slice a1 n1 c1, .int .i64 t1, .slice b1 m1 d1]) mq4)
  obtain ⟨q37, q38, q39, q40, q41, q42, q43, q44, q45, q46⟩ := Fb.cells10 (Q26.out.box (w.heap.size + 1, 30, [.int .i64 (g 0), .int .i64 (g 1), .int .i64 (g 2), .int .i64 (g 3), .int .i64 (g 4), .int .i64 (g 5), .int .i64 s2, .slice a2 n2 c2, .int .i64 t2, .slice b2 m2 d2]) mq3)
  go_wp2_with (first | refine wpList_store_row rfl _ _ _ rfl _ #[.int .i64 (F4 0), .int .i64 (F4 1), .int .i64 (F4 2), .int .i64 (F4 3), .int .i64 (F4 4), .int .i64 (F4 5), .int .i64 q4, .slice ax6 nx6 cx6, .int .i64 t4, .slice bx6 mx6 dx6] rfl rfl _ _ (P26.out.box _ List.mem_cons_self) (by kernel_rfl) rfl (by simp [Value.oneCell']) ?_)
  clear q27 q28 q29 q30 q31 q32 q33 q34 q35 q36 q37 q38 q39 q40 q41 q42 q43 q44 q45 q46
  refine ((H5.out _ (Q26.out.ints (.slice a1 n1 c1, l1) mq8) (Q26.out.ints (.slice b1 m1 d1, k1) mq9) (Q26.out.ints (.slice a2 n2 c2, l2) mq6) (Q26.out.ints (.slice b2 m2 d2, k2) mq7)).1).mono ?_
  rintro e w7 ⟨ax7, nx7, cx7, bx7, mx7, dx7, rfl, hi, hj, hb, hf, hg⟩
  have R7 := Lib.hid (Q26.out.ret2 hb hi hf hj hg)
  clear hi hj hb hf hg
  have P47 := Lib.hid (R7.out.put [.int .i64 0, .int .i64 0, .int .i64 0, .int .i64 0, .int .i64 0, .int .i64 0, .int .i64 0, .slice none 0 0, .int .i64 0, .slice none 0 0] 30)
  have Q47 := Lib.hid (Sf.row (pre := []) P47.out [.int .i64 (F5 0), .int .i64 (F5 1), .int .i64 (F5 2), .int .i64 (F5 3), .int .i64 (F5 4), .int .i64 (F5 5), .int .i64 q5, .slice ax7 nx7 cx7, .int .i64 t5, .slice bx7 mx7 dx7])
  obtain ⟨q48, q49, q50, q51, q52, q53, q54, q55, q56, q57⟩ := Fb.cells10 (Q47.out.box (w.heap.size, 30, [.int .i64 (f 0), .int .i64 (f 1), .int .i64 (f 2), .int .i64 (f 3), .int .i64 (f 4), .int .i64 (f 5), .int .i64 s1, .slice a1 n1 c1, .int .i64 t1, .slice b1 m1 d1]) mq5)
  obtain ⟨q58, q59, q60, q61, q62, q63, q64, q65, q66, q67⟩ := Fb.cells10 (Q47.out.box (w.heap.size + 1, 30, [.int .i64 (g 0), .int .i64 (g 1), .int .i64 (g 2), .int .i64 (g 3), .int .i64 (g 4), .int .i64 (g 5), .int .i64 s2, .slice a2 n2 c2, .int .i64 t2, .slice b2 m2 d2]) mq4)
  go_wp2_with (first | refine wpList_store_row rfl _ _ _ rfl _ #[.int .i64 (F5 0), .int .i64 (F5 1), .int .i64 (F5 2), .int .i64 (F5 3), .int .i64 (F5 4), .int .i64 (F5 5), .int .i64 q5, .slice ax7 nx7 cx7, .int .i64 t5, .slice bx7 mx7 dx7] rfl rfl _ _ (P47.out.box _ List.mem_cons_self) (by kernel_rfl) rfl (by simp [Value.oneCell']) ?_)
  clear q48 q49 q50 q51 q52 q53 q54 q55 q56 q57 q58 q59 q60 q61 q62 q63 q64 q65 q66 q67
  refine ((H5.out _ (Q47.out.ints (.slice a1 n1 c1, l1) mq10) (Q47.out.ints (.slice b1 m1 d1, k1) mq11) (Q47.out.ints (.slice a2 n2 c2, l2) mq8) (Q47.out.ints (.slice b2 m2 d2, k2) mq9)).2).mono ?_
  rintro e w8 ⟨ax8, nx8, cx8, bx8, mx8, dx8, rfl, hi, hj, hb, hf, hg⟩
  have R8 := Lib.hid (Q47.out.ret2 hb hi hf hj hg)
  clear hi hj hb hf hg
  have P68 := Lib.hid (R8.out.put [.int .i64 0, .int .i64 0, .int .i64 0, .int .i64 0, .int .i64 0, .int .i64 0, .int .i64 0, .slice none 0 0, .int .i64 0, .slice none 0 0] 30)
  have Q68 := Lib.hid (Sf.row (pre := []) P68.out [.int .i64 (F5 0), .int .i64 (F5 1), .int .i64 (F5 2), .int .i64 (F5 3), .int .i64 (F5 4), .int .i64 (F5 5), .int .i64 q5, .slice ax8 nx8 cx8, .int .i64 t5, .slice bx8 mx8 dx8])
  obtain ⟨q69, q70, q71, q72, q73, q74, q75, q76, q77, q78⟩ := Fb.cells10 (Q68.out.box (w.heap.size, 30, [.int .i64 (f 0), .int .i64 (f 1), .int .i64 (f 2), .int .i64 (f 3), .int .i64 (f 4), .int .i64 (f 5), .int .i64 s1, .slice a1 n1 c1, .int .i64 t1, .slice b1 m1 d1]) mq6)
  obtain ⟨q79, q80, q81, q82, q83, q84, q85, q86, q87, q88⟩ := Fb.cells10 (Q68.out.box (w.heap.size + 1, 30, [.int .i64 (g 0), .int .i64 (g 1), .int .i64 (g 2), .int .i64 (g 3), .int .i64 (g 4), .int .i64 (g 5), .int .i64 s2, .slice a2 n2 c2, .int .i64 t2, .slice b2 m2 d2]) mq5)
  go_wp2_with (first | refine wpList_store_row rfl _ _ _ rfl _ #[.int .i64 (F5 0), .int .i64 (F5 1), .int .i64 (F5 2), .int .i64 (F5 3), .int .i64 (F5 4), .int .i64 (F5 5), .int .i64 q5, .slice ax8 nx8 cx8, .int .i64 t5, .slice bx8 mx8 dx8] rfl rfl _ _ (P68.out.box _ List.mem_cons_self) (by kernel_rfl) rfl (by simp [Value.oneCell']) ?_)
  clear q69 q70 q71 q72 q73 q74 q75 q76 q77 q78 q79 q80 q81 q82 q83 q84 q85 q86 q87 q88
  refine ((H6.out _ (Q68.out.ints (.slice a1 n1 c1, l1) mq12) (Q68.out.ints (.slice b1 m1 d1, k1) mq13) (Q68.out.ints (.slice a2 n2 c2, l2) mq10) (Q68.out.ints (.slice b2 m2 d2, k2) mq11)).1).mono ?_
  rintro e w9 ⟨ax9, nx9, cx9, bx9, mx9, dx9, rfl, hi, hj, hb, hf, hg⟩
  have R9 := Lib.hid (Q68.out.ret2 hb hi hf hj hg)
  clear hi hj hb hf hg
  have P89 := Lib.hid (R9.out.put [.int .i64 0, .int .i64 0, .int .i64 0, .int .i64 0, .int .i64 0, .int .i64 0, .int .i64 0, .slice none 0 0, .int .i64 0, .slice none 0 0] 30)
  have Q89 := Lib.hid (Sf.row (pre := []) P89.out [.int .i64 (F6 0), .int .i64 (F6 1), .int .i64 (F6 2), .int .i64 (F6 3), .int .i64 (F6 4), .int .i64 (F6 5), .int .i64 q6, .slice ax9 nx9 cx9, .int .i64 t6, .slice bx9 mx9 dx9])
  obtain ⟨q90, q91, q92, q93, q94, q95, q96, q97, q98, q99⟩ := Fb.cells10 (Q89.out.box (w.heap.size, 30, [.int .i64 (f 0), .int .i64 (f 1), .int .i64 (f 2), .int .i64 (f 3), .int .i64 (f 4), .int .i64 (f 5), .int .i64 s1, .slice a1 n1 c1, .int .i64 t1, .slice b1 m1 d1]) mq7)
  obtain ⟨q100, q101, q102, q103, q104, q105, q106, q107, q108, q109⟩ := Fb.cells10 (Q89.out.box (w.heap.size + 1, 30, [.int .i64 (g 0), .int .i64 (g 1), .int .i64 (g 2), .int .i64 (g 3), .int .i64 (g 4), .int .i64 (g 5), .int .i64 s2, .slice a2 n2 c2, .int .i64 t2, .slice b2 m2 d2]) mq6)
  go_wp2_with (first | refine wpList_store_row rfl _ _ _ rfl _ #[.int .i64 (F6 0), .int .i64 (F6 1), .int .i64 (F6 2), .int .i64 (F6 3), .int .i64 (F6 4), .int .i64 (F6 5), .int .i64 q6, .slice ax9 nx9 cx9, .int .i64 t6, .slice bx9 mx9 dx9] rfl rfl _ _ (P89.out.box _ List.mem_cons_self) (by kernel_rfl) rfl (by simp [Value.oneCell']) ?_)
  clear q90 q91 q92 q93 q94 q95 q96 q97 q98 q99 q100 q101 q102 q103 q104 q105 q106 q107 q108 q109
  refine ((H6.out _ (Q89.out.ints (.slice a1 n1 c1, l1) mq14) (Q89.out.ints (.slice b1 m1 d1, k1) mq15) (Q89.out.ints (.slice a2 n2 c2, l2) mq12) (Q89.out.ints (.slice b2 m2 d2, k2) mq13)).2).mono ?_
  rintro e w10 ⟨ax10, nx10, cx10, bx10, mx10, dx10, rfl, hi, hj, hb, hf, hg⟩
  have R10 := Lib.hid (Q89.out.ret2 hb hi hf hj hg)
  clear hi hj hb hf hg
  have P110 := Lib.hid (R10.out.put [.int .i64 0, .int .i64 0, .int .i64 0, .int .i64 0, .int .i64 0, .int .i64 0, .int .i64 0, .slice none 0 0, .int .i64 0, .slice none 0 0] 30)
  have Q110 := Lib.hid (Sf.row (pre := []) P110.out [.int .i64 (F6 0), .int .i64 (F6 1), .int .i64 (F6 2), .int .i64 (F6 3), .int .i64 (F6 4), .int .i64 (F6 5), .int .i64 q6, .slice ax10 nx10 cx10, .int .i64 t6, .slice bx10 mx10 dx10])
  obtain ⟨q111, q112, q113, q114, q115, q116, q117, q118, q119, q120⟩ := Fb.cells10 (Q110.out.box (w5.heap.size, 30, [.int .i64 (F4 0), .int .i64 (F4 1), .int .i64 (F4 2), .int .i64 (F4 3), .int .i64 (F4 4), .int .i64 (F4 5), .int .i64 q4, .slice ax5 nx5 cx5, .int .i64 t4, .slice bx5 mx5 dx5]) mq5)
  obtain ⟨q121, q122, q123, q124, q125, q126, q127, q128, q129, q130⟩ := Fb.cells10 (Q110.out.box (w6.heap.size, 30, [.int .i64 (F4 0), .int .i64 (F4 1), .int .i64 (F4 2), .int .i64 (F4 3), .int .i64 (F4 4), .int .i64 (F4 5), .int .i64 q4, .slice ax6 nx6 cx6, .int .i64 t4, .slice bx6 mx6 dx6]) mq4)
  go_wp2_with (first | refine wpList_store_row rfl _ _ _ rfl _ #[.int .i64 (F6 0), .int .i64 (F6 1), .int .i64 (F6 2), .int .i64 (F6 3), .int .i64 (F6 4), .int .i64 (F6 5), .int .i64 q6, .slice ax10 nx10 cx10, .int .i64 t6, .slice bx10 mx10 dx10] rfl rfl _ _ (P110.out.box _ List.mem_cons_self) (by kernel_rfl) rfl (by simp [Value.oneCell']) ?_)
  clear q111 q112 q113 q114 q115 q116 q117 q118 q119 q120 q121 q122 q123 q124 q125 q126 q127 q128 q129 q130
  refine (u9same_g (Q110.out.ints (.slice ax5 nx5 cx5, l4) mq10) (Q110.out.ints (.slice bx5 mx5 dx5, k4) mq11) (Q110.out.ints (.slice ax6 nx6 cx6, l4) mq8) (Q110.out.ints (.slice bx6 mx6 dx6, k4) mq9)).mono ?_
  rintro e w11 ⟨rfl, hb⟩
  have R11 := Lib.hid (Q110.out.later hb)
  clear hb
  obtain ⟨q131, q132, q133, q134, q135, q136, q137, q138, q139, q140⟩ := Fb.cells10 (R11.out.box (w7.heap.size, 30, [.int .i64 (F5 0), .int .i64 (F5 1), .int .i64 (F5 2), .int .i64 (F5 3), .int .i64 (F5 4), .int .i64 (F5 5), .int .i64 q5, .slice ax7 nx7 cx7, .int .i64 t5, .slice bx7 mx7 dx7]) mq3)
  obtain ⟨q141, q142, q143, q144, q145, q146, q147, q148, q149, q150⟩ := Fb.cells10 (R11.out.box (w8.heap.size, 30, [.int .i64 (F5 0), .int .i64 (F5 1), .int .i64 (F5 2), .int .i64 (F5 3), .int .i64 (F5 4), .int .i64 (F5 5), .int .i64 q5, .slice ax8 nx8 cx8, .int .i64 t5, .slice bx8 mx8 dx8]) mq2)
  go_wp2_with fail
  clear q131 q132 q133 q134 q135 q136 q137 q138 q139 q140 q141 q142 q143 q144 q145 q146 q147 q148 q149 q150
  refine (u9same_g (R11.out.ints (.slice ax7 nx7 cx7, l5) mq6) (R11.out.ints (.slice bx7 mx7 dx7, k5) mq7) (R11.out.ints (.slice ax8 nx8 cx8, l5) mq4) (R11.out.ints (.slice bx8 mx8 dx8, k5) mq5)).mono ?_
  rintro e w12 ⟨rfl, hb⟩
  have R12 := Lib.hid (R11.out.later hb)
  clear hb
  obtain ⟨q151, q152, q153, q154, q155, q156, q157, q158, q159, q160⟩ := Fb.cells10 (R12.out.box (w9.heap.size, 30, [.int .i64 (F6 0), .int .i64 (F6 1), .int .i64 (F6 2), .int .i64 (F6 3), .int .i64 (F6 4), .int .i64 (F6 5), .int .i64 q6, .slice ax9 nx9 cx9, .int .i64 t6, .slice bx9 mx9 dx9]) mq1)
  obtain ⟨q161, q162, q163, q164, q165, q166, q167, q168, q169, q170⟩ := Fb.cells10 (R12.out.box (w10.heap.size, 30, [.int .i64 (F6 0), .int .i64 (F6 1), .int .i64 (F6 2), .int .i64 (F6 3), .int .i64 (F6 4), .int .i64 (F6 5), .int .i64 q6, .slice ax10 nx10 cx10, .int .i64 t6, .slice bx10 mx10 dx10]) mq0)
  go_wp2_with fail
  clear q151 q152 q153 q154 q155 q156 q157 q158 q159 q160 q161 q162 q163 q164 q165 q166 q167 q168 q169 q170
  refine (u9same_g (R12.out.ints (.slice ax9 nx9 cx9, l6) mq2) (R12.out.ints (.slice bx9 mx9 dx9, k6) mq3) (R12.out.ints (.slice ax10 nx10 cx10, l6) mq0) (R12.out.ints (.slice bx10 mx10 dx10, k6) mq1)).mono ?_
  rintro e w13 ⟨rfl, hb⟩
  have R13 := Lib.hid (R12.out.later hb)
  clear hb
  obtain ⟨q171, q172, q173, q174⟩ := Fb.cells4 (R13.out.box (w.heap.size + 1 + 1, 28, [.int .i64 s3, .slice a3 n3 c3, .int .i64 t3, .slice b3 m3 d3]) mq6)
  obtain ⟨q175, q176, q177, q178, q179, q180, q181, q182, q183, q184⟩ := Fb.cells10 (R13.out.box (w.heap.size, 30, [.int .i64 (f 0), .int .i64 (f 1), .int .i64 (f 2), .int .i64 (f 3), .int .i64 (f 4), .int .i64 (f 5), .int .i64 s1, .slice a1 n1 c1, .int .i64 t1, .slice b1 m1 d1]) mq8)
  go_wp2_with fail
  clear q171 q172 q173 q174 q175 q176 q177 q178 q179 q180 q181 q182 q183 q184
  refine ((H7.out _ (R13.out.ints (.slice a3 n3 c3, l3) mq12) (R13.out.ints (.slice b3 m3 d3, k3) mq13) (R13.out.ints (.slice a1 n1 c1, l1) mq16) (R13.out.ints (.slice b1 m1 d1, k1) mq17)).1).mono ?_
  rintro e w14 ⟨ax14, nx14, cx14, bx14, mx14, dx14, rfl, hi, hj, hb, hf, hg⟩
  have R14 := Lib.hid (R13.out.ret2 hb hi hf hj hg)
  clear hi hj hb hf hg
  have P185 := Lib.hid (R14.out.put [.int .i64 0, .slice none 0 0, .int .i64 0, .slice none 0 0] 28)
  have Q185 := Lib.hid (Sf.row (pre := []) P185.out [.int .i64 q7, .slice ax14 nx14 cx14, .int .i64 t7, .slice bx14 mx14 dx14])
  obtain ⟨q186, q187, q188, q189⟩ := Fb.cells4 (Q185.out.box (w.heap.size + 1 + 1, 28, [.int .i64 s3, .slice a3 n3 c3, .int .i64 t3, .slice b3 m3 d3]) mq7)
  obtain ⟨q190, q191, q192, q193, q194, q195, q196, q197, q198, q199⟩ := Fb.cells10 (Q185.out.box (w.heap.size, 30, [.int .i64 (f 0), .int .i64 (f 1), .int .i64 (f 2), .int .i64 (f 3), .int .i64 (f 4), .int .i64 (f 5), .int .i64 s1, .slice a1 n1 c1, .int .i64 t1, .slice b1 m1 d1]) mq9)
  go_wp2_with (first | refine wpList_store_row rfl _ _ _ rfl _ #[.int .i64 q7, .slice ax14 nx14 cx14, .int .i64 t7, .slice bx14 mx14 dx14] rfl rfl _ _ (P185.out.box _ List.mem_cons_self) (by kernel_rfl) rfl (by simp [Value.oneCell']) ?_)
  clear q186 q187 q188 q189 q190 q191 q192 q193 q194 q195 q196 q197 q198 q199
  refine ((H7.out _ (Q185.out.ints (.slice a3 n3 c3, l3) mq14) (Q185.out.ints (.slice b3 m3 d3, k3) mq15) (Q185.out.ints (.slice a1 n1 c1, l1) mq18) (Q185.out.ints (.slice b1 m1 d1, k1) mq19)).2).mono ?_
  rintro e w15 ⟨ax15, nx15, cx15, bx15, mx15, dx15, rfl, hi, hj, hb, hf, hg⟩
  have R15 := Lib.hid (Q185.out.ret2 hb hi hf hj hg)
  clear hi hj hb hf hg
  have P200 := Lib.hid (R15.out.put [.int .i64 0, .slice none 0 0, .int .i64 0, .slice none 0 0] 28)
  have Q200 := Lib.hid (Sf.row (pre := []) P200.out [.int .i64 q7, .slice ax15 nx15 cx15, .int .i64 t7, .slice bx15 mx15 dx15])
  obtain ⟨q201, q202, q203, q204⟩ := Fb.cells4 (Q200.out.box (w.heap.size + 1 + 1, 28, [.int .i64 s3, .slice a3 n3 c3, .int .i64 t3, .slice b3 m3 d3]) mq8)
  obtain ⟨q205, q206, q207, q208, q209, q210, q211, q212, q213, q214⟩ := Fb.cells10 (Q200.out.box (w.heap.size, 30, [.int .i64 (f 0), .int .i64 (f 1), .int .i64 (f 2), .int .i64 (f 3), .int .i64 (f 4), .int .i64 (f 5), .int .i64 s1, .slice a1 n1 c1, .int .i64 t1, .slice b1 m1 d1]) mq10)
  go_wp2_with (first | refine wpList_store_row rfl _ _ _ rfl _ #[.int .i64 q7, .slice ax15 nx15 cx15, .int .i64 t7, .slice bx15 mx15 dx15] rfl rfl _ _ (P200.out.box _ List.mem_cons_self) (by kernel_rfl) rfl (by simp [Value.oneCell']) ?_)
  clear q201 q202 q203 q204 q205 q206 q207 q208 q209 q210 q211 q212 q213 q214
  refine ((H8.out _ (Q200.out.ints (.slice a3 n3 c3, l3) mq16) (Q200.out.ints (.slice b3 m3 d3, k3) mq17) (Q200.out.ints (.slice a1 n1 c1, l1) mq20) (Q200.out.ints (.slice b1 m1 d1, k1) mq21)).1).mono ?_
  rintro e w16 ⟨ax16, nx16, cx16, bx16, mx16, dx16, rfl, hi, hj, hb, hf, hg⟩
  have R16 := Lib.hid (Q200.out.ret2 hb hi hf hj hg)
  clear hi hj hb hf hg
  have P215 := Lib.hid (R16.out.put [.int .i64 0, .slice none 0 0, .int .i64 0, .slice none 0 0] 28)
  have Q215 := Lib.hid (Sf.row (pre := []) P215.out [.int .i64 q8, .slice ax16 nx16 cx16, .int .i64 t8, .slice bx16 mx16 dx16])
  obtain ⟨q216, q217, q218, q219⟩ := Fb.cells4 (Q215.out.box (w.heap.size + 1 + 1, 28, [.int .i64 s3, .slice a3 n3 c3, .int .i64 t3, .slice b3 m3 d3]) mq9)
  obtain ⟨q220, q221, q222, q223, q224, q225, q226, q227, q228, q229⟩ := Fb.cells10 (Q215.out.box (w.heap.size, 30, [.int .i64 (f 0), .int .i64 (f 1), .int .i64 (f 2), .int .i64 (f 3), .int .i64 (f 4), .int .i64 (f 5), .int .i64 s1, .slice a1 n1 c1, .int .i64 t1, .slice b1 m1 d1]) mq11)
  go_wp2_with (first | refine wpList_store_row rfl _ _ _ rfl _ #[.int .i64 q8, .slice ax16 nx16 cx16, .int .i64 t8, .slice bx16 mx16 dx16] rfl rfl _ _ (P215.out.box _ List.mem_cons_self) (by kernel_rfl) rfl (by simp [Value.oneCell']) ?_)
  clear q216 q217 q218 q219 q220 q221 q222 q223 q224 q225 q226 q227 q228 q229
  refine ((H8.out _ (Q215.out.ints (.slice a3 n3 c3, l3) mq18) (Q215.out.ints (.slice b3 m3 d3, k3) mq19) (Q215.out.ints (.slice a1 n1 c1, l1) mq22) (Q215.out.ints (.slice b1 m1 d1, k1) mq23)).2).mono ?_
  rintro e w17 ⟨ax17, nx17, cx17, bx17, mx17, dx17, rfl, hi, hj, hb, hf, hg⟩
  have R17 := Lib.hid (Q215.out.ret2 hb hi hf hj hg)
  clear hi hj hb hf hg
  have P230 := Lib.hid (R17.out.put [.int .i64 0, .slice none 0 0, .int .i64 0, .slice none 0 0] 28)
  have Q230 := Lib.hid (Sf.row (pre := []) P230.out [.int .i64 q8, .slice ax17 nx17 cx17, .int .i64 t8, .slice bx17 mx17 dx17])
  go_upto_region 16 with (refine wpList_store_row rfl _ _ _ rfl _ #[.int .i64 q8, .slice ax17 nx17 cx17, .int .i64 t8, .slice bx17 mx17 dx17] rfl rfl _ _ (P230.out.box _ List.mem_cons_self) (by kernel_rfl) rfl (by simp [Value.oneCell']) ?_)
  obtain ⟨WQ, hWQ⟩ : ∃ W, ((w17.alloc (.cells #[.int .i64 0, .slice none 0 0, .int .i64 0, .slice none 0 0] 28)).setRow w17.heap.size #[.int .i64 q8, .slice ax17 nx17 cx17, .int .i64 t8, .slice bx17 mx17 dx17]) = W := ⟨_, rfl⟩
  rw [hWQ] at Q230 ⊢
  clear hWQ
  cases rr
  · skip
    have K0 : ∀ W F, Sf w [(w17.heap.size, 28, [.int .i64 q8, .slice ax17 nx17 cx17, .int .i64 t8, .slice bx17 mx17 dx17]), (w16.heap.size, 28, [.int .i64 q8, .slice ax16 nx16 cx16, .int .i64 t8, .slice bx16 mx16 dx16]), (w15.heap.size, 28, [.int .i64 q7, .slice ax15 nx15 cx15, .int .i64 t7, .slice bx15 mx15 dx15]), (w14.heap.size, 28, [.int .i64 q7, .slice ax14 nx14 cx14, .int .i64 t7, .slice bx14 mx14 dx14]), (w10.heap.size, 30, [.int .i64 (F6 0), .int .i64 (F6 1), .int .i64 (F6 2), .int .i64 (F6 3), .int .i64 (F6 4), .int .i64 (F6 5), .int .i64 q6, .slice ax10 nx10 cx10, .int .i64 t6, .slice bx10 mx10 dx10]), (w9.heap.size, 30, [.int .i64 (F6 0), .int .i64 (F6 1), .int .i64 (F6 2), .int .i64 (F6 3), .int .i64 (F6 4), .int .i64 (F6 5), .int .i64 q6, .slice ax9 nx9 cx9, .int .i64 t6, .slice bx9 mx9 dx9]), (w8.heap.size, 30, [.int .i64 (F5 0), .int .i64 (F5 1), .int .i64 (F5 2), .int .i64 (F5 3), .int .i64 (F5 4), .int .i64 (F5 5), .int .i64 q5, .slice ax8 nx8 cx8, .int .i64 t5, .slice bx8 mx8 dx8]), (w7.heap.size, 30, [.int .i64 (F5 0), .int .i64 (F5 1), .int .i64 (F5 2), .int .i64 (F5 3), .int .i64 (F5 4), .int .i64 (F5 5), .int .i64 q5, .slice ax7 nx7 cx7, .int .i64 t5, .slice bx7 mx7 dx7]), (w6.heap.size, 30, [.int .i64 (F4 0), .int .i64 (F4 1), .int .i64 (F4 2), .int .i64 (F4 3), .int .i64 (F4 4), .int .i64 (F4 5), .int .i64 q4, .slice ax6 nx6 cx6, .int .i64 t4, .slice bx6 mx6 dx6]), (w5.heap.size, 30, [.int .i64 (F4 0), .int .i64 (F4 1), .int .i64 (F4 2), .int .i64 (F4 3), .int .i64 (F4 4), .int .i64 (F4 5), .int .i64 q4, .slice ax5 nx5 cx5, .int .i64 t4, .slice bx5 mx5 dx5]), (w.heap.size + 1 + 1, 28, [.int .i64 s3, .slice a3 n3 c3, .int .i64 t3, .slice b3 m3 d3]), (w.heap.size + 1, 30, [.int .i64 (g 0), .int .i64 (g 1), .int .i64 (g 2), .int .i64 (g 3), .int .i64 (g 4), .int .i64 (g 5), .int .i64 s2, .slice a2 n2 c2, .int .i64 t2, .slice b2 m2 d2]), (w.heap.size, 30, [.int .i64 (f 0), .int .i64 (f 1), .int .i64 (f 2), .int .i64 (f 3), .int .i64 (f 4), .int .i64 (f 5), .int .i64 s1, .slice a1 n1 c1, .int .i64 t1, .slice b1 m1 d1])] F W → W.cell? ⟨w14.heap.size, 0, none⟩ = some (.int .i64 q7) ∧ W.cell? ⟨w14.heap.size, 1, none⟩ = some (.slice ax14 nx14 cx14) ∧ W.cell? ⟨w14.heap.size, 2, none⟩ = some (.int .i64 t7) ∧ W.cell? ⟨w14.heap.size, 3, none⟩ = some (.slice bx14 mx14 dx14) ∧ W.cell? ⟨w15.heap.size, 0, none⟩ = some (.int .i64 q7) ∧ W.cell? ⟨w15.heap.size, 1, none⟩ = some (.slice ax15 nx15 cx15) ∧ W.cell? ⟨w15.heap.size, 2, none⟩ = some (.int .i64 t7) ∧ W.cell? ⟨w15.heap.size, 3, none⟩ = some (.slice bx15 mx15 dx15) ∧ W.cell? ⟨w16.heap.size, 0, none⟩ = some (.int .i64 q8) ∧ W.cell? ⟨w16.heap.size, 1, none⟩ = some (.slice ax16 nx16 cx16) ∧ W.cell? ⟨w16.heap.size, 2, none⟩ = some (.int .i64 t8) ∧ W.cell? ⟨w16.heap.size, 3, none⟩ = some (.slice bx16 mx16 dx16) ∧ W.cell? ⟨w17.heap.size, 0, none⟩ = some (.int .i64 q8) ∧ W.cell? ⟨w17.heap.size, 1, none⟩ = some (.slice ax17 nx17 cx17) ∧ W.cell? ⟨w17.heap.size, 2, none⟩ = some (.int .i64 t8) ∧ W.cell? ⟨w17.heap.size, 3, none⟩ = some (.slice bx17 mx17 dx17) ∧ W.cell? ⟨w.heap.size, 0, none⟩ = some (.int .i64 (f 0)) ∧ W.cell? ⟨w.heap.size, 1, none⟩ = some (.int .i64 (f 1)) ∧ W.cell? ⟨w.heap.size, 2, none⟩ = some (.int .i64 (f 2)) ∧ W.cell? ⟨w.heap.size, 3, none⟩ = some (.int .i64 (f 3)) ∧ W.cell? ⟨w.heap.size, 4, none⟩ = some (.int .i64 (f 4)) ∧ W.cell? ⟨w.heap.size, 5, none⟩ = some (.int .i64 (f 5)) ∧ W.cell? ⟨w.heap.size, 6, none⟩ = some (.int .i64 s1) ∧ W.cell? ⟨w.heap.size, 7, none⟩ = some (.slice a1 n1 c1) ∧ W.cell? ⟨w.heap.size, 8, none⟩ = some (.int .i64 t1) ∧ W.cell? ⟨w.heap.size, 9, none⟩ = some (.slice b1 m1 d1) := fun W F h => ⟨(h.box (w14.heap.size, 28, [.int .i64 q7, .slice ax14 nx14 cx14, .int .i64 t7, .slice bx14 mx14 dx14]) mq3).cell 0, (h.box (w14.heap.size, 28, [.int .i64 q7, .slice ax14 nx14 cx14, .int .i64 t7, .slice bx14 mx14 dx14]) mq3).cell 1, (h.box (w14.heap.size, 28, [.int .i64 q7, .slice ax14 nx14 cx14, .int .i64 t7, .slice bx14 mx14 dx14]) mq3).cell 2, (h.box (w14.heap.size, 28, [.int .i64 q7, .slice ax14 nx14 cx14, .int .i64 t7, .slice bx14 mx14 dx14]) mq3).cell 3, (h.box (w15.heap.size, 28, [.int .i64 q7, .slice ax15 nx15 cx15, .int .i64 t7, .slice bx15 mx15 dx15]) mq2).cell 0, (h.box (w15.heap.size, 28, [.int .i64 q7, .slice ax15 nx15 cx15, .int .i64 t7, .slice bx15 mx15 dx15]) mq2).cell 1, (h.box (w15.heap.size, 28, [.int .i64 q7, .slice ax15 nx15 cx15, .int .i64 t7, .slice bx15 mx15 dx15]) mq2).cell 2, (h.box (w15.heap.size, 28, [.int .i64 q7, .slice ax15 nx15 cx15, .int .i64 t7, .slice bx15 mx15 dx15]) mq2).cell 3, (h.box (w16.heap.size, 28, [.int .i64 q8, .slice ax16 nx16 cx16, .int .i64 t8, .slice bx16 mx16 dx16]) mq1).cell 0, (h.box (w16.heap.size, 28, [.int .i64 q8, .slice ax16 nx16 cx16, .int .i64 t8, .slice bx16 mx16 dx16]) mq1).cell 1, (h.box (w16.heap.size, 28, [.int .i64 q8, .slice ax16 nx16 cx16, .int .i64 t8, .slice bx16 mx16 dx16]) mq1).cell 2, (h.box (w16.heap.size, 28, [.int .i64 q8, .slice ax16 nx16 cx16, .int .i64 t8, .slice bx16 mx16 dx16]) mq1).cell 3, (h.box (w17.heap.size, 28, [.int .i64 q8, .slice ax17 nx17 cx17, .int .i64 t8, .slice bx17 mx17 dx17]) mq0).cell 0, (h.box (w17.heap.size, 28, [.int .i64 q8, .slice ax17 nx17 cx17, .int .i64 t8, .slice bx17 mx17 dx17]) mq0).cell 1, (h.box (w17.heap.size, 28, [.int .i64 q8, .slice ax17 nx17 cx17, .int .i64 t8, .slice bx17 mx17 dx17]) mq0).cell 2, (h.box (w17.heap.size, 28, [.int .i64 q8, .slice ax17 nx17 cx17, .int .i64 t8, .slice bx17 mx17 dx17]) mq0).cell 3, (h.box (w.heap.size, 30, [.int .i64 (f 0), .int .i64 (f 1), .int .i64 (f 2), .int .i64 (f 3), .int .i64 (f 4), .int .i64 (f 5), .int .i64 s1, .slice a1 n1 c1, .int .i64 t1, .slice b1 m1 d1]) mq12).cell 0, (h.box (w.heap.size, 30, [.int .i64 (f 0), .int .i64 (f 1), .int .i64 (f 2), .int .i64 (f 3), .int .i64 (f 4), .int .i64 (f 5), .int .i64 s1, .slice a1 n1 c1, .int .i64 t1, .slice b1 m1 d1]) mq12).cell 1, (h.box (w.heap.size, 30, [.int .i64 (f 0), .int .i64 (f 1), .int .i64 (f 2), .int .i64 (f 3), .int .i64 (f 4), .int .i64 (f 5), .int .i64 s1, .slice a1 n1 c1, .int .i64 t1, .slice b1 m1 d1]) mq12).cell 2, (h.box (w.heap.size, 30, [.int .i64 (f 0), .int .i64 (f 1), .int .i64 (f 2), .int .i64 (f 3), .int .i64 (f 4), .int .i64 (f 5), .int .i64 s1, .slice a1 n1 c1, .int .i64 t1, .slice b1 m1 d1]) mq12).cell 3, (h.box (w.heap.size, 30, [.int .i64 (f 0), .int .i64 (f 1), .int .i64 (f 2), .int .i64 (f 3), .int .i64 (f 4), .int .i64 (f 5), .int .i64 s1, .slice a1 n1 c1, .int .i64 t1, .slice b1 m1 d1]) mq12).cell 4, (h.box (w.heap.size, 30, [.int .i64 (f 0), .int .i64 (f 1), .int .i64 (f 2), .int .i64 (f 3), .int .i64 (f 4), .int .i64 (f 5), .int .i64 s1, .slice a1 n1 c1, .int .i64 t1, .slice b1 m1 d1]) mq12).cell 5, (h.box (w.heap.size, 30, [.int .i64 (f 0), .int .i64 (f 1), .int .i64 (f 2), .int .i64 (f 3), .int .i64 (f 4), .int .i64 (f 5), .int .i64 s1, .slice a1 n1 c1, .int .i64 t1, .slice b1 m1 d1]) mq12).cell 6, (h.box (w.heap.size, 30, [.int .i64 (f 0), .int .i64 (f 1), .int .i64 (f 2), .int .i64 (f 3), .int .i64 (f 4), .int .i64 (f 5), .int .i64 s1, .slice a1 n1 c1, .int .i64 t1, .slice b1 m1 d1]) mq12).cell 7, (h.box (w.heap.size, 30, [.int .i64 (f 0), .int .i64 (f 1), .int .i64 (f 2), .int .i64 (f 3), .int .i64 (f 4), .int .i64 (f 5), .int .i64 s1, .slice a1 n1 c1, .int .i64 t1, .slice b1 m1 d1]) mq12).cell 8, (h.box (w.heap.size, 30, [.int .i64 (f 0), .int .i64 (f 1), .int .i64 (f 2), .int .i64 (f 3), .int .i64 (f 4), .int .i64 (f 5), .int .i64 s1, .slice a1 n1 c1, .int .i64 t1, .slice b1 m1 d1]) mq12).cell 9⟩
    have KK := Lib.hid K0
    clear K0
    have N0 := Lib.hid Q230.out.drew
    clear Q230
    have e0 := KK.out _ _ N0.out
    go_region_held3 (fun W => W.cell? ⟨w14.heap.size, 0, none⟩ = some (.int .i64 q7) ∧ W.cell? ⟨w14.heap.size, 1, none⟩ = some (.slice ax14 nx14 cx14) ∧ W.cell? ⟨w14.heap.size, 2, none⟩ = some (.int .i64 t7) ∧ W.cell? ⟨w14.heap.size, 3, none⟩ = some (.slice bx14 mx14 dx14) ∧ W.cell? ⟨w15.heap.size, 0, none⟩ = some (.int .i64 q7) ∧ W.cell? ⟨w15.heap.size, 1, none⟩ = some (.slice ax15 nx15 cx15) ∧ W.cell? ⟨w15.heap.size, 2, none⟩ = some (.int .i64 t7) ∧ W.cell? ⟨w15.heap.size, 3, none⟩ = some (.slice bx15 mx15 dx15) ∧ W.cell? ⟨w16.heap.size, 0, none⟩ = some (.int .i64 q8) ∧ W.cell? ⟨w16.heap.size, 1, none⟩ = some (.slice ax16 nx16 cx16) ∧ W.cell? ⟨w16.heap.size, 2, none⟩ = some (.int .i64 t8) ∧ W.cell? ⟨w16.heap.size, 3, none⟩ = some (.slice bx16 mx16 dx16) ∧ W.cell? ⟨w17.heap.size, 0, none⟩ = some (.int .i64 q8) ∧ W.cell? ⟨w17.heap.size, 1, none⟩ = some (.slice ax17 nx17 cx17) ∧ W.cell? ⟨w17.heap.size, 2, none⟩ = some (.int .i64 t8) ∧ W.cell? ⟨w17.heap.size, 3, none⟩ = some (.slice bx17 mx17 dx17) ∧ W.cell? ⟨w.heap.size, 0, none⟩ = some (.int .i64 (f 0)) ∧ W.cell? ⟨w.heap.size, 1, none⟩ = some (.int .i64 (f 1)) ∧ W.cell? ⟨w.heap.size, 2, none⟩ = some (.int .i64 (f 2)) ∧ W.cell? ⟨w.heap.size, 3, none⟩ = some (.int .i64 (f 3)) ∧ W.cell? ⟨w.heap.size, 4, none⟩ = some (.int .i64 (f 4)) ∧ W.cell? ⟨w.heap.size, 5, none⟩ = some (.int .i64 (f 5)) ∧ W.cell? ⟨w.heap.size, 6, none⟩ = some (.int .i64 s1) ∧ W.cell? ⟨w.heap.size, 7, none⟩ = some (.slice a1 n1 c1) ∧ W.cell? ⟨w.heap.size, 8, none⟩ = some (.int .i64 t1) ∧ W.cell? ⟨w.heap.size, 9, none⟩ = some (.slice b1 m1 d1))
      (first | (with_reducible exact e0) | (with_reducible exact e1) | (with_reducible exact e2) | (with_reducible exact e3) | (with_reducible exact e4))
      (((first | go_at_call 21 | go_at_call 23 | go_at_call 22 | (rw [if_pos (by rfl)]; go_simp) | skip); (first
          | (have hG := N3; clear hG; go_at_call 23; (with_reducible refine (u9rightR_raw (N3.out.ints (.slice a1 n1 c1, l1) mq24) (N3.out.ints (.slice b1 m1 d1, k1) mq25) LL1.out LK1.out HRR.out).mono ?_); rintro e y18_3 ⟨rfl, hb⟩; have N4 := Lib.hid (N3.out.later hb); clear hb; have e4 := KK.out _ _ N4.out)
          | (have hG := N2; clear hG; go_at_call 22; (with_reducible refine (uright_raw (N2.out.ints (.slice a1 n1 c1, l1) mq24) (N2.out.ints (.slice b1 m1 d1, k1) mq25) LL1.out LK1.out HRR.out).mono ?_); rintro e y18_2 ⟨rfl, hb⟩; have N3 := Lib.hid (N2.out.later hb); clear hb; have e3 := KK.out _ _ N3.out)
          | (have hG := N1; clear hG; go_at_call 21; (with_reducible refine (rfsame_g (N1.out.ints (.slice ax16 nx16 cx16, l8) mq2) (N1.out.ints (.slice bx16 mx16 dx16, k8) mq3) (N1.out.ints (.slice ax17 nx17 cx17, l8) mq0) (N1.out.ints (.slice bx17 mx17 dx17, k8) mq1)).mono ?_); rintro e y18_1 ⟨rfl, hb⟩; have N2 := Lib.hid (N1.out.later hb); clear hb; have e2 := KK.out _ _ N2.out)
          | (have hG := N0; clear hG; go_at_call 21; (with_reducible refine (rfsame_g (N0.out.ints (.slice ax14 nx14 cx14, l7) mq6) (N0.out.ints (.slice bx14 mx14 dx14, k7) mq7) (N0.out.ints (.slice ax15 nx15 cx15, l7) mq4) (N0.out.ints (.slice bx15 mx15 dx15, k7) mq5)).mono ?_); rintro e y18_0 ⟨rfl, hb⟩; have N1 := Lib.hid (N0.out.later hb); clear hb; have e1 := KK.out _ _ N1.out)); (try dsimp only)))
    all_goals (go_wp2_with fail; go_ret; exact ⟨rfl, N4.out.below⟩)
  · skip
    have K0 : ∀ W F, Sf w [(w17.heap.size, 28, [.int .i64 q8, .slice ax17 nx17 cx17, .int .i64 t8, .slice bx17 mx17 dx17]), (w16.heap.size, 28, [.int .i64 q8, .slice ax16 nx16 cx16, .int .i64 t8, .slice bx16 mx16 dx16]), (w15.heap.size, 28, [.int .i64 q7, .slice ax15 nx15 cx15, .int .i64 t7, .slice bx15 mx15 dx15]), (w14.heap.size, 28, [.int .i64 q7, .slice ax14 nx14 cx14, .int .i64 t7, .slice bx14 mx14 dx14]), (w10.heap.size, 30, [.int .i64 (F6 0), .int .i64 (F6 1), .int .i64 (F6 2), .int .i64 (F6 3), .int .i64 (F6 4), .int .i64 (F6 5), .int .i64 q6, .slice ax10 nx10 cx10, .int .i64 t6, .slice bx10 mx10 dx10]), (w9.heap.size, 30, [.int .i64 (F6 0), .int .i64 (F6 1), .int .i64 (F6 2), .int .i64 (F6 3), .int .i64 (F6 4), .int .i64 (F6 5), .int .i64 q6, .slice ax9 nx9 cx9, .int .i64 t6, .slice bx9 mx9 dx9]), (w8.heap.size, 30, [.int .i64 (F5 0), .int .i64 (F5 1), .int .i64 (F5 2), .int .i64 (F5 3), .int .i64 (F5 4), .int .i64 (F5 5), .int .i64 q5, .slice ax8 nx8 cx8, .int .i64 t5, .slice bx8 mx8 dx8]), (w7.heap.size, 30, [.int .i64 (F5 0), .int .i64 (F5 1), .int .i64 (F5 2), .int .i64 (F5 3), .int .i64 (F5 4), .int .i64 (F5 5), .int .i64 q5, .slice ax7 nx7 cx7, .int .i64 t5, .slice bx7 mx7 dx7]), (w6.heap.size, 30, [.int .i64 (F4 0), .int .i64 (F4 1), .int .i64 (F4 2), .int .i64 (F4 3), .int .i64 (F4 4), .int .i64 (F4 5), .int .i64 q4, .slice ax6 nx6 cx6, .int .i64 t4, .slice bx6 mx6 dx6]), (w5.heap.size, 30, [.int .i64 (F4 0), .int .i64 (F4 1), .int .i64 (F4 2), .int .i64 (F4 3), .int .i64 (F4 4), .int .i64 (F4 5), .int .i64 q4, .slice ax5 nx5 cx5, .int .i64 t4, .slice bx5 mx5 dx5]), (w.heap.size + 1 + 1, 28, [.int .i64 s3, .slice a3 n3 c3, .int .i64 t3, .slice b3 m3 d3]), (w.heap.size + 1, 30, [.int .i64 (g 0), .int .i64 (g 1), .int .i64 (g 2), .int .i64 (g 3), .int .i64 (g 4), .int .i64 (g 5), .int .i64 s2, .slice a2 n2 c2, .int .i64 t2, .slice b2 m2 d2]), (w.heap.size, 30, [.int .i64 (f 0), .int .i64 (f 1), .int .i64 (f 2), .int .i64 (f 3), .int .i64 (f 4), .int .i64 (f 5), .int .i64 s1, .slice a1 n1 c1, .int .i64 t1, .slice b1 m1 d1])] F W → W.cell? ⟨w14.heap.size, 0, none⟩ = some (.int .i64 q7) ∧ W.cell? ⟨w14.heap.size, 1, none⟩ = some (.slice ax14 nx14 cx14) ∧ W.cell? ⟨w14.heap.size, 2, none⟩ = some (.int .i64 t7) ∧ W.cell? ⟨w14.heap.size, 3, none⟩ = some (.slice bx14 mx14 dx14) ∧ W.cell? ⟨w15.heap.size, 0, none⟩ = some (.int .i64 q7) ∧ W.cell? ⟨w15.heap.size, 1, none⟩ = some (.slice ax15 nx15 cx15) ∧ W.cell? ⟨w15.heap.size, 2, none⟩ = some (.int .i64 t7) ∧ W.cell? ⟨w15.heap.size, 3, none⟩ = some (.slice bx15 mx15 dx15) ∧ W.cell? ⟨w16.heap.size, 0, none⟩ = some (.int .i64 q8) ∧ W.cell? ⟨w16.heap.size, 1, none⟩ = some (.slice ax16 nx16 cx16) ∧ W.cell? ⟨w16.heap.size, 2, none⟩ = some (.int .i64 t8) ∧ W.cell? ⟨w16.heap.size, 3, none⟩ = some (.slice bx16 mx16 dx16) ∧ W.cell? ⟨w17.heap.size, 0, none⟩ = some (.int .i64 q8) ∧ W.cell? ⟨w17.heap.size, 1, none⟩ = some (.slice ax17 nx17 cx17) ∧ W.cell? ⟨w17.heap.size, 2, none⟩ = some (.int .i64 t8) ∧ W.cell? ⟨w17.heap.size, 3, none⟩ = some (.slice bx17 mx17 dx17) ∧ W.cell? ⟨w.heap.size, 0, none⟩ = some (.int .i64 (f 0)) ∧ W.cell? ⟨w.heap.size, 1, none⟩ = some (.int .i64 (f 1)) ∧ W.cell? ⟨w.heap.size, 2, none⟩ = some (.int .i64 (f 2)) ∧ W.cell? ⟨w.heap.size, 3, none⟩ = some (.int .i64 (f 3)) ∧ W.cell? ⟨w.heap.size, 4, none⟩ = some (.int .i64 (f 4)) ∧ W.cell? ⟨w.heap.size, 5, none⟩ = some (.int .i64 (f 5)) ∧ W.cell? ⟨w.heap.size, 6, none⟩ = some (.int .i64 s1) ∧ W.cell? ⟨w.heap.size, 7, none⟩ = some (.slice a1 n1 c1) ∧ W.cell? ⟨w.heap.size, 8, none⟩ = some (.int .i64 t1) ∧ W.cell? ⟨w.heap.size, 9, none⟩ = some (.slice b1 m1 d1) := fun W F h => ⟨(h.box (w14.heap.size, 28, [.int .i64 q7, .slice ax14 nx14 cx14, .int .i64 t7, .slice bx14 mx14 dx14]) mq3).cell 0, (h.box (w14.heap.size, 28, [.int .i64 q7, .slice ax14 nx14 cx14, .int .i64 t7, .slice bx14 mx14 dx14]) mq3).cell 1, (h.box (w14.heap.size, 28, [.int .i64 q7, .slice ax14 nx14 cx14, .int .i64 t7, .slice bx14 mx14 dx14]) mq3).cell 2, (h.box (w14.heap.size, 28, [.int .i64 q7, .slice ax14 nx14 cx14, .int .i64 t7, .slice bx14 mx14 dx14]) mq3).cell 3, (h.box (w15.heap.size, 28, [.int .i64 q7, .slice ax15 nx15 cx15, .int .i64 t7, .slice bx15 mx15 dx15]) mq2).cell 0, (h.box (w15.heap.size, 28, [.int .i64 q7, .slice ax15 nx15 cx15, .int .i64 t7, .slice bx15 mx15 dx15]) mq2).cell 1, (h.box (w15.heap.size, 28, [.int .i64 q7, .slice ax15 nx15 cx15, .int .i64 t7, .slice bx15 mx15 dx15]) mq2).cell 2, (h.box (w15.heap.size, 28, [.int .i64 q7, .slice ax15 nx15 cx15, .int .i64 t7, .slice bx15 mx15 dx15]) mq2).cell 3, (h.box (w16.heap.size, 28, [.int .i64 q8, .slice ax16 nx16 cx16, .int .i64 t8, .slice bx16 mx16 dx16]) mq1).cell 0, (h.box (w16.heap.size, 28, [.int .i64 q8, .slice ax16 nx16 cx16, .int .i64 t8, .slice bx16 mx16 dx16]) mq1).cell 1, (h.box (w16.heap.size, 28, [.int .i64 q8, .slice ax16 nx16 cx16, .int .i64 t8, .slice bx16 mx16 dx16]) mq1).cell 2, (h.box (w16.heap.size, 28, [.int .i64 q8, .slice ax16 nx16 cx16, .int .i64 t8, .slice bx16 mx16 dx16]) mq1).cell 3, (h.box (w17.heap.size, 28, [.int .i64 q8, .slice ax17 nx17 cx17, .int .i64 t8, .slice bx17 mx17 dx17]) mq0).cell 0, (h.box (w17.heap.size, 28, [.int .i64 q8, .slice ax17 nx17 cx17, .int .i64 t8, .slice bx17 mx17 dx17]) mq0).cell 1, (h.box (w17.heap.size, 28, [.int .i64 q8, .slice ax17 nx17 cx17, .int .i64 t8, .slice bx17 mx17 dx17]) mq0).cell 2, (h.box (w17.heap.size, 28, [.int .i64 q8, .slice ax17 nx17 cx17, .int .i64 t8, .slice bx17 mx17 dx17]) mq0).cell 3, (h.box (w.heap.size, 30, [.int .i64 (f 0), .int .i64 (f 1), .int .i64 (f 2), .int .i64 (f 3), .int .i64 (f 4), .int .i64 (f 5), .int .i64 s1, .slice a1 n1 c1, .int .i64 t1, .slice b1 m1 d1]) mq12).cell 0, (h.box (w.heap.size, 30, [.int .i64 (f 0), .int .i64 (f 1), .int .i64 (f 2), .int .i64 (f 3), .int .i64 (f 4), .int .i64 (f 5), .int .i64 s1, .slice a1 n1 c1, .int .i64 t1, .slice b1 m1 d1]) mq12).cell 1, (h.box (w.heap.size, 30, [.int .i64 (f 0), .int .i64 (f 1), .int .i64 (f 2), .int .i64 (f 3), .int .i64 (f 4), .int .i64 (f 5), .int .i64 s1, .slice a1 n1 c1, .int .i64 t1, .slice b1 m1 d1]) mq12).cell 2, (h.box (w.heap.size, 30, [.int .i64 (f 0), .int .i64 (f 1), .int .i64 (f 2), .int .i64 (f 3), .int .i64 (f 4), .int .i64 (f 5), .int .i64 s1, .slice a1 n1 c1, .int .i64 t1, .slice b1 m1 d1]) mq12).cell 3, (h.box (w.heap.size, 30, [.int .i64 (f 0), .int .i64 (f 1), .int .i64 (f 2), .int .i64 (f 3), .int .i64 (f 4), .int .i64 (f 5), .int .i64 s1, .slice a1 n1 c1, .int .i64 t1, .slice b1 m1 d1]) mq12).cell 4, (h.box (w.heap.size, 30, [.int .i64 (f 0), .int .i64 (f 1), .int .i64 (f 2), .int .i64 (f 3), .int .i64 (f 4), .int .i64 (f 5), .int .i64 s1, .slice a1 n1 c1, .int .i64 t1, .slice b1 m1 d1]) mq12).cell 5, (h.box (w.heap.size, 30, [.int .i64 (f 0), .int .i64 (f 1), .int .i64 (f 2), .int .i64 (f 3), .int .i64 (f 4), .int .i64 (f 5), .int .i64 s1, .slice a1 n1 c1, .int .i64 t1, .slice b1 m1 d1]) mq12).cell 6, (h.box (w.heap.size, 30, [.int .i64 (f 0), .int .i64 (f 1), .int .i64 (f 2), .int .i64 (f 3), .int .i64 (f 4), .int .i64 (f 5), .int .i64 s1, .slice a1 n1 c1, .int .i64 t1, .slice b1 m1 d1]) mq12).cell 7, (h.box (w.heap.size, 30, [.int .i64 (f 0), .int .i64 (f 1), .int .i64 (f 2), .int .i64 (f 3), .int .i64 (f 4), .int .i64 (f 5), .int .i64 s1, .slice a1 n1 c1, .int .i64 t1, .slice b1 m1 d1]) mq12).cell 8, (h.box (w.heap.size, 30, [.int .i64 (f 0), .int .i64 (f 1), .int .i64 (f 2), .int .i64 (f 3), .int .i64 (f 4), .int .i64 (f 5), .int .i64 s1, .slice a1 n1 c1, .int .i64 t1, .slice b1 m1 d1]) mq12).cell 9⟩
    have KK := Lib.hid K0
    clear K0
    have N0 := Lib.hid Q230.out.drew
    clear Q230
    have e0 := KK.out _ _ N0.out
    go_region_held3 (fun W => W.cell? ⟨w14.heap.size, 0, none⟩ = some (.int .i64 q7) ∧ W.cell? ⟨w14.heap.size, 1, none⟩ = some (.slice ax14 nx14 cx14) ∧ W.cell? ⟨w14.heap.size, 2, none⟩ = some (.int .i64 t7) ∧ W.cell? ⟨w14.heap.size, 3, none⟩ = some (.slice bx14 mx14 dx14) ∧ W.cell? ⟨w15.heap.size, 0, none⟩ = some (.int .i64 q7) ∧ W.cell? ⟨w15.heap.size, 1, none⟩ = some (.slice ax15 nx15 cx15) ∧ W.cell? ⟨w15.heap.size, 2, none⟩ = some (.int .i64 t7) ∧ W.cell? ⟨w15.heap.size, 3, none⟩ = some (.slice bx15 mx15 dx15) ∧ W.cell? ⟨w16.heap.size, 0, none⟩ = some (.int .i64 q8) ∧ W.cell? ⟨w16.heap.size, 1, none⟩ = some (.slice ax16 nx16 cx16) ∧ W.cell? ⟨w16.heap.size, 2, none⟩ = some (.int .i64 t8) ∧ W.cell? ⟨w16.heap.size, 3, none⟩ = some (.slice bx16 mx16 dx16) ∧ W.cell? ⟨w17.heap.size, 0, none⟩ = some (.int .i64 q8) ∧ W.cell? ⟨w17.heap.size, 1, none⟩ = some (.slice ax17 nx17 cx17) ∧ W.cell? ⟨w17.heap.size, 2, none⟩ = some (.int .i64 t8) ∧ W.cell? ⟨w17.heap.size, 3, none⟩ = some (.slice bx17 mx17 dx17) ∧ W.cell? ⟨w.heap.size, 0, none⟩ = some (.int .i64 (f 0)) ∧ W.cell? ⟨w.heap.size, 1, none⟩ = some (.int .i64 (f 1)) ∧ W.cell? ⟨w.heap.size, 2, none⟩ = some (.int .i64 (f 2)) ∧ W.cell? ⟨w.heap.size, 3, none⟩ = some (.int .i64 (f 3)) ∧ W.cell? ⟨w.heap.size, 4, none⟩ = some (.int .i64 (f 4)) ∧ W.cell? ⟨w.heap.size, 5, none⟩ = some (.int .i64 (f 5)) ∧ W.cell? ⟨w.heap.size, 6, none⟩ = some (.int .i64 s1) ∧ W.cell? ⟨w.heap.size, 7, none⟩ = some (.slice a1 n1 c1) ∧ W.cell? ⟨w.heap.size, 8, none⟩ = some (.int .i64 t1) ∧ W.cell? ⟨w.heap.size, 9, none⟩ = some (.slice b1 m1 d1))
      (first | (with_reducible exact e0) | (with_reducible exact e1) | (with_reducible exact e2) | (with_reducible exact e3) | (with_reducible exact e4))
      (((first | go_at_call 21 | go_at_call 23 | go_at_call 22 | (rw [if_pos (by rfl)]; go_simp) | skip); (first
          | (have hG := N3; clear hG; go_at_call 23; (with_reducible refine (u9rightR_raw (N3.out.ints (.slice a1 n1 c1, l1) mq24) (N3.out.ints (.slice b1 m1 d1, k1) mq25) LL1.out LK1.out HRR.out).mono ?_); rintro e y18_3 ⟨rfl, hb⟩; have N4 := Lib.hid (N3.out.later hb); clear hb; have e4 := KK.out _ _ N4.out)
          | (have hG := N2; clear hG; go_at_call 22; (with_reducible refine (uright_raw (N2.out.ints (.slice a1 n1 c1, l1) mq24) (N2.out.ints (.slice b1 m1 d1, k1) mq25) LL1.out LK1.out HRR.out).mono ?_); rintro e y18_2 ⟨rfl, hb⟩; have N3 := Lib.hid (N2.out.later hb); clear hb; have e3 := KK.out _ _ N3.out)
          | (have hG := N1; clear hG; go_at_call 21; (with_reducible refine (rfsame_g (N1.out.ints (.slice ax16 nx16 cx16, l8) mq2) (N1.out.ints (.slice bx16 mx16 dx16, k8) mq3) (N1.out.ints (.slice ax17 nx17 cx17, l8) mq0) (N1.out.ints (.slice bx17 mx17 dx17, k8) mq1)).mono ?_); rintro e y18_1 ⟨rfl, hb⟩; have N2 := Lib.hid (N1.out.later hb); clear hb; have e2 := KK.out _ _ N2.out)
          | (have hG := N0; clear hG; go_at_call 21; (with_reducible refine (rfsame_g (N0.out.ints (.slice ax14 nx14 cx14, l7) mq6) (N0.out.ints (.slice bx14 mx14 dx14, k7) mq7) (N0.out.ints (.slice ax15 nx15 cx15, l7) mq4) (N0.out.ints (.slice bx15 mx15 dx15, k7) mq5)).mono ?_); rintro e y18_0 ⟨rfl, hb⟩; have N1 := Lib.hid (N0.out.later hb); clear hb; have e1 := KK.out _ _ N1.out)); (try dsimp only)))
    all_goals (go_wp2_with fail; go_ret; exact ⟨rfl, N4.out.below⟩)
theorem tells_all (z : ByteArray) (w : World) (he : EnvU w) (hz : z.size ≤ 9223372036854775807) {f g : Nat → Int} {s1 t1 : Int} {a1 b1 : Option Addr} {c1 d1 : Nat} {l1 k1 : List Int} {s2 t2 : Int} {a2 b2 : Option Addr} {c2 d2 : Nat} {l2 k2 : List Int} {s3 t3 : Int} {a3 b3 : Option Addr} {c3 d3 : Nat} {l3 k3 : List Int} (y1 : l1.length ≤ 9223372036854775807) (z1 : k1.length ≤ 9223372036854775807) (i1 : l1.length ≤ 1000000000 → Ints w (.slice a1 l1.length c1) l1) (j1 : k1.length ≤ 1000000000 → Ints w (.slice b1 k1.length d1) k1) (y2 : l2.length ≤ 9223372036854775807) (z2 : k2.length ≤ 9223372036854775807) (i2 : l2.length ≤ 1000000000 → Ints w (.slice a2 l2.length c2) l2) (j2 : k2.length ≤ 1000000000 → Ints w (.slice b2 k2.length d2) k2) (y3 : l3.length ≤ 9223372036854775807) (z3 : k3.length ≤ 9223372036854775807) (i3 : l3.length ≤ 1000000000 → Ints w (.slice a3 l3.length c3) l3) (j3 : k3.length ≤ 1000000000 → Ints w (.slice b3 k3.length d3) k3) :
    Calls Tryz.prog 3 #[.string z, .agg #[.int .i64 (f 0), .int .i64 (f 1), .int .i64 (f 2), .int .i64 (f 3), .int .i64 (f 4), .int .i64 (f 5), .int .i64 s1, .slice a1 l1.length c1, .int .i64 t1, .slice b1 k1.length d1], .agg #[.int .i64 (g 0), .int .i64 (g 1), .int .i64 (g 2), .int .i64 (g 3), .int .i64 (g 4), .int .i64 (g 5), .int .i64 s2, .slice a2 l2.length c2, .int .i64 t2, .slice b2 k2.length d2], .agg #[.int .i64 s3, .slice a3 l3.length c3, .int .i64 t3, .slice b3 k3.length d3]] w fun e w' => e = .returned (.bool true) ∧ RowKit.Below w.heap.size w w' := by
  by_cases h100 : 100 < z.size
  · exact tells_long z hz h100 he
  · rcases hq : ((decide ((l1.length : Int) ≤ 12) && decide ((k1.length : Int) ≤ 12)) && ((decide ((l2.length : Int) ≤ 12) && decide ((k2.length : Int) ≤ 12)) && (decide ((l3.length : Int) ≤ 6) && decide ((k3.length : Int) ≤ 6)))) with _ | _
    · exact tells_no z (by omega) he y1 z1 y2 z2 y3 z3 hq
    · simp only [Bool.and_eq_true, decide_eq_true_eq] at hq
      have Q1 : l1.length ≤ 12 := by omega
      have P1 : k1.length ≤ 12 := by omega
      have Q2 : l2.length ≤ 12 := by omega
      have P2 : k2.length ≤ 12 := by omega
      have Q3 : l3.length ≤ 6 := by omega
      have P3 : k3.length ≤ 6 := by omega
      exact tells_good z (by omega) he (i1 (by omega)) (j1 (by omega)) Q1 P1 rfl rfl (i2 (by omega)) (j2 (by omega)) Q2 P2 rfl rfl (i3 (by omega)) (j3 (by omega)) Q3 P3 rfl rfl
end Go.Proofs.YtmhdhabgdlefjaaGreatDoor.Un
