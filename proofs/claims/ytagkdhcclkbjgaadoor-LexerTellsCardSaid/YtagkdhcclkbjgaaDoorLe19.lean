/- The small examples of the laws. -/
import Derived.Test.YtagkdhcclkbjgaaDoorLe18
set_option maxRecDepth 100000
namespace Go.Proofs.YtagkdhcclkbjgaaDoor.Le
open Go.RowKit

theorem sc_step {p q : Nat} {s s2 : List UInt8} {d : UInt8} {r : List UInt8} {k : Int} {t : List UInt8} {n : Int} {z : Nat} {g : Nat} {R1 : R} (hg : skip false s = g) (h : s.drop g = d :: r) (ht : tokL (d :: r) = .tok k t n z) (hq : p + g = q) (h2 : r.drop (z - 1) = s2) (hR : sc false (q + z) s2 = R1) :
    sc false p s = R.pre [⟨k, t, n, q⟩] R1 := by
  subst hg hq h2 hR
  exact sc_tok h ht
def eA : List UInt8 := [97, 49, 32, 61, 32, 34, 120, 92, 34, 121, 34, 59, 32, 35, 32, 122]
def lA : List Tok := [⟨0, [97, 49], 0, 0⟩, ⟨3, [61], 0, 3⟩, ⟨2, [120, 34, 121], 0, 5⟩, ⟨3, [59], 0, 11⟩]
theorem scA : sc false 0 eA = .ok lA := by
  unfold eA
  rw [sc_step (d := 97) (r := [49, 32, 61, 32, 34, 120, 92, 34, 121, 34, 59, 32, 35, 32, 122]) (k := 0) (t := [97, 49]) (n := 0) (z := 2) (g := 0) (q := 0) (s2 := [32, 61, 32, 34, 120, 92, 34, 121, 34, 59, 32, 35, 32, 122]) rfl rfl rfl rfl rfl rfl]
  rw [sc_step (d := 61) (r := [32, 34, 120, 92, 34, 121, 34, 59, 32, 35, 32, 122]) (k := 3) (t := [61]) (n := 0) (z := 1) (g := 1) (q := 3) (s2 := [32, 34, 120, 92, 34, 121, 34, 59, 32, 35, 32, 122]) rfl rfl rfl rfl rfl rfl]
  rw [sc_step (d := 34) (r := [120, 92, 34, 121, 34, 59, 32, 35, 32, 122]) (k := 2) (t := [120, 34, 121]) (n := 0) (z := 6) (g := 1) (q := 5) (s2 := [59, 32, 35, 32, 122]) rfl rfl rfl rfl rfl rfl]
  rw [sc_step (d := 59) (r := [32, 35, 32, 122]) (k := 3) (t := [59]) (n := 0) (z := 1) (g := 0) (q := 11) (s2 := [32, 35, 32, 122]) rfl rfl rfl rfl rfl rfl]
  rw [sc_done (s := [32, 35, 32, 122]) rfl]
  rfl
def eB : List UInt8 := [120, 32, 48, 48, 55]
theorem tok007 : tokL [48, 48, 55] = .bad 3 := by
  show tokN [48, 48, 55] = _
  unfold tokN; rw [numL_none_zero (by decide)]
theorem scB : sc false 0 eB = .bad 2 3 := by
  unfold eB
  rw [sc_step (d := 120) (r := [32, 48, 48, 55]) (k := 0) (t := [120]) (n := 0) (z := 1) (g := 0) (q := 0) (s2 := [32, 48, 48, 55]) rfl rfl rfl rfl rfl rfl]
  rw [sc_bad (s := [32, 48, 48, 55]) (d := 48) (r := [48, 55]) (e := 3) rfl tok007]
  rfl
def eC : List UInt8 := [97, 32, 62, 32, 98]
theorem scC : sc false 0 eC = .bad 2 10 := by
  unfold eC
  rw [sc_step (d := 97) (r := [32, 62, 32, 98]) (k := 0) (t := [97]) (n := 0) (z := 1) (g := 0) (q := 0) (s2 := [32, 62, 32, 98]) rfl rfl rfl rfl rfl rfl]
  rw [sc_bad (s := [32, 62, 32, 98]) (d := 62) (r := [32, 98]) (e := 10) rfl rfl]
  rfl
def eD : List UInt8 := [34, 97, 98]
theorem scD : sc false 0 eD = .bad 0 2 := by
  rw [sc_bad (s := eD) (d := 34) (r := [97, 98]) (e := 2) rfl rfl]
  rfl
def eE : List UInt8 := [102, 40, 50, 44, 34, 97, 34, 41]
def lE : List Tok := [⟨0, [102], 0, 0⟩, ⟨3, [40], 0, 1⟩, ⟨1, [50], 2, 2⟩, ⟨3, [44], 0, 3⟩, ⟨2, [97], 0, 4⟩, ⟨3, [41], 0, 7⟩]
theorem num2 : numL [50] = some 2 := by
  have := numL_dec (u := 2) (by omega)
  rwa [dec_small (by omega)] at this
theorem tok2 : tokL [50, 44, 34, 97, 34, 41] = .tok 1 [50] 2 1 := by
  show tokN [50] = _
  unfold tokN; rw [num2]; rfl
theorem scE : sc false 0 eE = .ok lE := by
  unfold eE
  rw [sc_step (d := 102) (r := [40, 50, 44, 34, 97, 34, 41]) (k := 0) (t := [102]) (n := 0) (z := 1) (g := 0) (q := 0) (s2 := [40, 50, 44, 34, 97, 34, 41]) rfl rfl rfl rfl rfl rfl]
  rw [sc_step (d := 40) (r := [50, 44, 34, 97, 34, 41]) (k := 3) (t := [40]) (n := 0) (z := 1) (g := 0) (q := 1) (s2 := [50, 44, 34, 97, 34, 41]) rfl rfl rfl rfl rfl rfl]
  rw [sc_step (d := 50) (r := [44, 34, 97, 34, 41]) (k := 1) (t := [50]) (n := 2) (z := 1) (g := 0) (q := 2) (s2 := [44, 34, 97, 34, 41]) rfl rfl tok2 rfl rfl rfl]
  rw [sc_step (d := 44) (r := [34, 97, 34, 41]) (k := 3) (t := [44]) (n := 0) (z := 1) (g := 0) (q := 3) (s2 := [34, 97, 34, 41]) rfl rfl rfl rfl rfl rfl]
  rw [sc_step (d := 34) (r := [97, 34, 41]) (k := 2) (t := [97]) (n := 0) (z := 3) (g := 0) (q := 4) (s2 := [41]) rfl rfl rfl rfl rfl rfl]
  rw [sc_step (d := 41) (r := []) (k := 3) (t := [41]) (n := 0) (z := 1) (g := 0) (q := 7) (s2 := []) rfl rfl rfl rfl rfl rfl]
  rw [sc_done (s := []) rfl]
  rfl
theorem num12 : numV [49, 50] = .tuple #[.int .i64 12, .bool true] := by
  have := numL_dec (u := 12) (by omega)
  rw [dec_big (by omega), dec_small (by omega)] at this
  have h2 : numL [49, 50] = some 12 := this
  unfold numV; rw [h2]; rfl
theorem num012 : numV [48, 49, 50] = .tuple #[.int .i64 0, .bool false] := by
  unfold numV; rw [numL_none_zero (by decide)]
theorem printE : printL lE = [102, 32, 40, 32, 50, 32, 44, 32, 34, 97, 34, 32, 41] := rfl
theorem fewE : FewT (lE.map Tok.tk) := by
  refine ⟨by decide, ?_⟩
  intro x hx
  simp only [lE, List.map_cons, List.map_nil, List.mem_cons, List.not_mem_nil, or_false] at hx
  rcases hx with rfl | rfl | rfl | rfl | rfl | rfl <;> decide

theorem scan_ok (s : ByteArray) (l : List UInt8) (L : List Tok) (hl : s.data.toList = l) (hs : s.size ≤ 4000) (h : sc false 0 l = .ok L) (w : World) (he : Env w) :
    Calls Tryd.prog 11 #[.string s] w fun e w' => ∃ a cap, e = .returned (.tuple #[.slice a L.length cap, .int .i64 0, .int .i64 0]) ∧ TCells w' a (L.map Tok.tk) ∧ RowKit.Below w.heap.size w w' := by
  refine (scan_any s hs w he).mono ?_
  rintro e w' ⟨hb, hm⟩
  rw [hl, h] at hm
  obtain ⟨a, cap, h1, h2⟩ := hm
  exact ⟨a, cap, h1, h2, hb⟩
theorem scan_bad (s : ByteArray) (l : List UInt8) (p : Nat) (x : Int) (hl : s.data.toList = l) (hs : s.size ≤ 4000) (h : sc false 0 l = .bad p x) (w : World) (he : Env w) :
    Calls Tryd.prog 11 #[.string s] w fun e w' => e = .returned (.tuple #[.slice none 0 0, .int .i64 (p : Int), .int .i64 x]) ∧ RowKit.Below w.heap.size w w' := by
  refine (scan_any s hs w he).mono ?_
  rintro e w' ⟨hb, hm⟩
  rw [hl, h] at hm
  exact ⟨hm, hb⟩
theorem below_drewN {B : Nat} {w w' : World} (h : RowKit.Below B w w') (n : Nat) : RowKit.Below B w (w'.drewN n) := ⟨h.os, h.tape, h.output, h.size, h.block⟩

/-- The tokens of the first example, written down. -/
def wantA : Array Value := #[.int .i64 0, .string ⟨#[97, 49]⟩, .int .i64 0, .int .i64 0, .int .i64 3, .string ⟨#[61]⟩, .int .i64 0, .int .i64 3, .int .i64 2, .string ⟨#[120, 34, 121]⟩, .int .i64 0, .int .i64 5, .int .i64 3, .string ⟨#[59]⟩, .int .i64 0, .int .i64 11]
theorem want_cells (w : World) : TCells (w.alloc (.cells wantA 25)) (some ⟨w.heap.size, 0, none⟩) (lA.map Tok.tk) := by
  refine .inr ⟨w.heap.size, 0, rfl, fun i hi j u hu => ?_⟩
  have hb : (w.alloc (.cells wantA 25)).heap[w.heap.size]? = some (.cells wantA 25 (0, 0)) := Array.getElem?_push_size
  have h1 := tcells_get (lA.map Tok.tk) i j hi u hu
  have e : tcells (lA.map Tok.tk) = wantA.toList := rfl
  rw [e] at h1
  simp only [World.cell?, hb]
  simpa [Nat.zero_add] using h1
theorem numEnd12 (w : World) (he : Env w) : Calls Tryd.prog 13 #[.string ⟨#[49, 50]⟩] w (Gives (.tuple #[.int .i64 12, .bool true]) w) := by
  have := number_any ⟨#[49, 50]⟩ (by decide) w he
  unfold NumEnd at this
  rw [show (⟨#[49, 50]⟩ : ByteArray).data.toList = [49, 50] from rfl, num12] at this
  exact this
theorem numEnd012 (w : World) (he : Env w) : Calls Tryd.prog 13 #[.string ⟨#[48, 49, 50]⟩] w (Gives (.tuple #[.int .i64 0, .bool false]) w) := by
  have := number_any ⟨#[48, 49, 50]⟩ (by decide) w he
  unfold NumEnd at this
  rw [show (⟨#[48, 49, 50]⟩ : ByteArray).data.toList = [48, 49, 50] from rfl, num012] at this
  exact this
theorem name_yes (w : World) : Calls Tryd.prog 18 #[.string ⟨#[97, 95, 49]⟩] w fun e w' => e = .returned (.bool true) ∧ w' = w := name_any ⟨#[97, 95, 49]⟩ (by decide) w
theorem name_no (w : World) : Calls Tryd.prog 18 #[.string ⟨#[49, 97]⟩] w fun e w' => e = .returned (.bool false) ∧ w' = w := name_any ⟨#[49, 97]⟩ (by decide) w
theorem print_lE (a : Option Addr) (cap : Nat) (w : World) (h : TCells w a (lE.map Tok.tk)) : Calls Tryd.prog 20 #[.slice a 6 cap] w (Gives (.string ⟨#[102, 32, 40, 32, 50, 32, 44, 32, 34, 97, 34, 32, 41]⟩) w) := by
  have := print_any a cap (lE.map Tok.tk) fewE w h
  rw [printK_tk, printE] at this
  exact this

set_option maxHeartbeats 4000000 in
theorem sane_any (w : World) (he : Env w) : Calls Tryd.prog 9 #[] w (Gives (.bool true) w) := by
  have HE := Lib.hid he
  clear he
  go_enter Tryd.func9, Tryd.ntmps9
  go_wp2_with fail
  refine (scan_ok _ eA lA rfl (by decide) scA _ HE.out).mono ?_
  rintro e w1 ⟨a1, c1, rfl, ht1, hb⟩
  have HT1 := Lib.hid ht1
  have HB1 := Lib.hid hb
  clear ht1 hb
  go_wp2_with fail
  refine (scan_bad _ eB 2 3 rfl (by decide) scB _ (HE.out.below HB1.out)).mono ?_
  rintro e w2 ⟨rfl, hb⟩
  have HT2 := Lib.hid (HT1.out.later hb)
  have HB2 := Lib.hid (HB1.out.trans (hb.mono HB1.out.size))
  clear HT1 hb
  go_wp2_with fail
  refine (scan_bad _ eC 2 10 rfl (by decide) scC _ (HE.out.below HB2.out)).mono ?_
  rintro e w3 ⟨rfl, hb⟩
  have HT3 := Lib.hid (HT2.out.later hb)
  have HB3 := Lib.hid (HB2.out.trans (hb.mono HB2.out.size))
  clear HT2 hb
  go_wp2_with fail
  refine (scan_bad _ eD 0 2 rfl (by decide) scD _ (HE.out.below HB3.out)).mono ?_
  rintro e w4 ⟨rfl, hb⟩
  have HT4 := Lib.hid (HT3.out.later hb)
  have HB4 := Lib.hid (HB3.out.trans (hb.mono HB3.out.size))
  clear HT3 hb
  go_wp2_with fail
  refine (scan_ok _ eE lE rfl (by decide) scE _ (HE.out.below HB4.out)).mono ?_
  rintro e w5 ⟨a5, c5, rfl, ht5, hb⟩
  have HT5 := Lib.hid (HT4.out.later hb)
  have HU5 := Lib.hid ht5
  have HB5 := Lib.hid (HB4.out.trans (hb.mono HB4.out.size))
  clear HT4 hb ht5
  go_wp2_with fail
  refine (numEnd12 _ (HE.out.below (HB5.out.trans ((below_box w5 _).mono HB5.out.size)))).mono ?_
  rintro e w6 ⟨rfl, hb⟩
  have HW6 := Lib.hid ((want_cells w5).later hb)
  have HT6 := Lib.hid ((HT5.out.later (below_box w5 (.cells wantA 25))).later hb)
  have HU6 := Lib.hid ((HU5.out.later (below_box w5 (.cells wantA 25))).later hb)
  have HB6 := Lib.hid ((HB5.out.trans ((below_box w5 (.cells wantA 25)).mono HB5.out.size)).trans (hb.mono (by have := HB5.out.size; simp; omega)))
  clear hb HT5 HU5
  go_wp2_with fail
  refine (numEnd012 _ (HE.out.below HB6.out)).mono ?_
  rintro e w7 ⟨rfl, hb⟩
  have HW7 := Lib.hid (HW6.out.later hb)
  have HT7 := Lib.hid (HT6.out.later hb)
  have HU7 := Lib.hid (HU6.out.later hb)
  have HB7 := Lib.hid (HB6.out.trans (hb.mono HB6.out.size))
  clear hb HT6 HU6 HW6
  go_wp2_with fail
  refine (same_any a1 (some ⟨w5.heap.size, 0, none⟩) c1 4 (lA.map Tok.tk) (by decide) _ HT7.out HW7.out).mono ?_
  rintro e w8 ⟨rfl, n8, rfl⟩
  have HU8 := Lib.hid (HU7.out.drewN n8)
  have HB8 := Lib.hid (below_drewN HB7.out n8)
  clear HT7 HU7 HW7
  go_wp2_with fail
  refine (print_lE a5 c5 _ HU8.out).mono ?_
  rintro e w9 ⟨rfl, hb⟩
  have HB9 := Lib.hid (HB8.out.trans (hb.mono HB8.out.size))
  clear hb
  go_wp2_with fail
  refine (name_yes _).mono ?_
  rintro e w9 ⟨rfl, rfl⟩
  go_wp2_with fail
  refine (name_no _).mono ?_
  rintro e w9 ⟨rfl, rfl⟩
  go_wp2_with fail
  go_ret
  exact ⟨rfl, HB9.out⟩
end Go.Proofs.YtagkdhcclkbjgaaDoor.Le
