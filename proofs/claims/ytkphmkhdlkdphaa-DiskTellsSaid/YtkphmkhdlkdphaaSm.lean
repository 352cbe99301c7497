/- The contract of small, by program: every call is evaluated. -/
import Derived.Test.YtkphmkhdlkdphaaT
namespace Go.Proofs.Ytkphmkhdlkdphaa
open Go.RowKit Go.ChangeShapes Go.WideShapes

theorem One.grown {B r : Nat} {st : St} {w w' : World} (h : One B r st w) (hg : w.grownBy w' none) : One B r st w' := h.keep (fun b _ hlt => hg.block b hlt (by simp)) hg.size
theorem Two.grown {B r1 r2 : Nat} {st1 st2 : St} {w w' : World} (h : Two B r1 st1 r2 st2 w) (hg : w.grownBy w' none) : Two B r1 st1 r2 st2 w' := by
  obtain ⟨S1, S2, ⟨p1, e1, h1⟩, ⟨p2, e2, h2⟩, h3, h4, h5⟩ := h
  have hz := hg.size
  exact ⟨S1, S2, ⟨p1, e1, h1.grown hg⟩, ⟨p2, e2, h2.grown hg⟩, h3, fun b h => ⟨(h4 b h).1, by have := (h4 b h).2; omega⟩, fun b h => ⟨(h5 b h).1, by have := (h5 b h).2; omega⟩⟩
theorem Two.see {B r1 r2 : Nat} {st1 st2 : St} {w : World} {f : FuncId} {args : Array Value} {Q : Ending → World → Prop} (h : Two B r1 st1 r2 st2 w)
    (hc : ∀ S p, p.r = r1 → IsD S p st1 w → Calls Try.prog f args w Q) : Calls Try.prog f args w Q := h.one.see hc

def s1 : St := write St.new 0 0 [97, 98, 99]
def s2 : St := sync s1 0
def s3 : St := write s2 0 1 [88, 89]
def s4 : St := crash s3 [1]
def s5 : St := start s4
def c1 : St := crash s3 [0]
def c2 : St := start c1
def c3 : St := write c2 1 62 [97, 98, 99, 100]
def c4 : St := crash c3 [0, 1]
def c5 : St := start c4
def c6 : St := write c5 16 0 []
def c7 : St := write c6 1 16777216 [97]
theorem f1 : writeR St.new 0 0 [97, 98, 99] = 0 := by decide +kernel
theorem f2 : syncR s1 0 = 0 := by decide +kernel
theorem f3 : writeR s2 0 1 [88, 89] = 0 := by decide +kernel
theorem f4 : s4.down = true := by decide +kernel
theorem f5 : readS s4 0 0 9 = [] ∧ readR s4 0 0 9 = 8 := by decide +kernel
theorem f6 : readS s5 0 0 9 = [97, 88, 89] ∧ readR s5 0 0 9 = 0 := by decide +kernel
theorem f7 : readS c2 0 1 9 = [98, 99] ∧ readR c2 0 1 9 = 0 := by decide +kernel
theorem f8 : writeR c2 1 62 [97, 98, 99, 100] = 0 := by decide +kernel
theorem f9 : readS c5 1 60 100 = [0, 0, 0, 0, 99, 100] ∧ readR c5 1 60 100 = 0 := by decide +kernel
theorem f10 : ((c5.now 1).length : Int) = 66 := by decide +kernel
theorem f11 : writeR c5 16 0 [] = 1 := by decide +kernel
theorem f12 : writeR c6 1 16777216 [97] = 6 := by decide +kernel

theorem ints1 (w : World) (n : Int) : Ints (w.alloc (.cells #[.int .i64 n] 3)) (.slice (some ⟨w.heap.size, 0, none⟩) 1 1) [n] :=
  ⟨_, _, rfl, Nat.le_refl _, .inr ⟨w.heap.size, 0, rfl, fun i hi => by
    have : i = 0 := by simpa using hi
    subst this
    have := (MapKept.heap_alloc w (.cells #[.int .i64 n] 3)).1
    show (match (w.alloc (.cells #[.int .i64 n] 3)).heap[w.heap.size]? with | some (.cells c _ _) => c[0 + 0]? | _ => none) = _
    rw [this]
    rfl⟩⟩
theorem ints2 (w : World) (n m : Int) : Ints (w.alloc (.cells #[.int .i64 n, .int .i64 m] 3)) (.slice (some ⟨w.heap.size, 0, none⟩) 2 2) [n, m] :=
  ⟨_, _, rfl, Nat.le_refl _, .inr ⟨w.heap.size, 0, rfl, fun i hi => by
    have : i = 0 ∨ i = 1 := by simp at hi; omega
    have hh := (MapKept.heap_alloc w (.cells #[.int .i64 n, .int .i64 m] 3)).1
    rcases this with rfl | rfl
    · show (match (w.alloc (.cells #[.int .i64 n, .int .i64 m] 3)).heap[w.heap.size]? with | some (.cells c _ _) => c[0 + 0]? | _ => none) = _
      rw [hh]
      rfl
    · show (match (w.alloc (.cells #[.int .i64 n, .int .i64 m] 3)).heap[w.heap.size]? with | some (.cells c _ _) => c[0 + 1]? | _ => none) = _
      rw [hh]
      rfl⟩⟩
theorem Two.crashNew {B r1 r2 : Nat} {st1 st2 : St} {w w' : World} {ks : List Int} {n c : Nat} (h : Two B r1 st1 r2 st2 w) (hB : B ≤ w.heap.size) (hg : w.grownBy w' none) (hi : Ints w' (.slice (some ⟨w.heap.size, 0, none⟩) n c) ks)
    (hk : ks.length ≤ 1000000000 ∧ ∀ x ∈ ks, -9223372036854775808 ≤ x ∧ x ≤ 9223372036854775807) :
    Calls Try.prog 25 #[.pointer (some ⟨r1, 0, none⟩), .slice (some ⟨w.heap.size, 0, none⟩) n c] w' fun e w2 => e = .returned (.tuple #[]) ∧ Two B r1 (crash st1 ks) r2 st2 w2 ∧ Ov B w' w2 := by
  obtain ⟨S1, S2, ⟨p1, e1, h1⟩, ⟨p2, e2, h2⟩, h3, h4, h5⟩ := h
  have hz := hg.size
  have hs : Two B r1 st1 r2 st2 w' := ⟨S1, S2, ⟨p1, e1, h1.grown hg⟩, ⟨p2, e2, h2.grown hg⟩, h3, fun b h => ⟨(h4 b h).1, by have := (h4 b h).2; omega⟩, fun b h => ⟨(h5 b h).1, by have := (h5 b h).2; omega⟩⟩
  subst e1
  refine (crash_any (h1.grown hg) _ ks hi hk ?_).mono ?_
  · rintro b ⟨o, n', c', e⟩ s hs
    injection e with e1
    injection e1 with e1
    injection e1 with e1
    have := h1.lt hs
    omega
  · rintro e w2 ⟨he, haf⟩
    have hd2 : Disk S2 r2 st2 w' := ⟨p2, e2, h2.grown hg⟩
    have hz2 := haf.2.size
    refine ⟨he, ⟨_, S2, haf.1, hd2.apart haf.2 (fun b h2 h1 => h3 b h1 h2), fun b hg' h2 => ?_, fun b hg' => hg'.elim (fun h => ⟨(h4 b h).1, by have := (h4 b h).2; omega⟩) fun h => ⟨by omega, h.2⟩, fun b h => ⟨(h5 b h).1, by have := (h5 b h).2; omega⟩⟩, haf.2.mono fun b h => (h4 b h).1⟩
    rcases hg' with h1 | h1
    · exact h3 b h1 h2
    · have := (h5 b h2).2
      omega

set_option maxRecDepth 100000 in
set_option maxHeartbeats 4000000 in
theorem small_any (w : World) : Calls Try.prog 8 #[] w fun e w' => e = .returned (.bool true) ∧ Ov w.heap.size w w' := by
  obtain ⟨B, hB⟩ : ∃ B, w.heap.size = B := ⟨_, rfl⟩
  have HW0 : Hid (w.heap.size = B) := hB
  clear hB
  go_enter Try.func8, Try.ntmps8
  go_wp2_with fail
  refine (new_any w).mono ?_
  rintro e w1 ⟨r, rfl, hdk, hg⟩
  have hk : One B r St.new w1 := by rw [← HW0.out]; exact ⟨_, hdk, fun b h => h⟩
  have hz : B ≤ w1.heap.size := by rw [← HW0.out]; exact hg.size
  have HO : Hid (Ov B w w1) := Ov.grown hg
  clear hdk hg
  have HN := Lib.hid (hk.l (f := 29) (args := #[.pointer (some ⟨r, 0, none⟩), .int .i64 0, .int .i64 0, .string ⟨#[97, 98, 99]⟩]) (v := .int .i64 0) (st' := s1) hz fun S p hp hd hS => by
    subst hp
    have := write_any hd 0 0 ⟨#[97, 98, 99]⟩ (by omega) (by omega) (by simp [ByteArray.size]); rw [show writeR _ 0 0 (ByteArray.data ⟨#[97, 98, 99]⟩).toList = 0 from f1] at this; exact this)
  clear hk
  go_wp2_with fail
  refine HN.out.mono ?_
  clear HN
  rintro e w2 ⟨rfl, hk, hb⟩
  have hz : B ≤ w2.heap.size := Nat.le_trans hz hb.size
  have HO : Hid (Ov B w w2) := HO.out.trans hb
  clear hb
  have HN := Lib.hid (hk.l (f := 19) (args := #[.pointer (some ⟨r, 0, none⟩), .int .i64 0]) (v := .int .i64 0) (st' := s2) hz fun S p hp hd hS => by
    subst hp
    have := sync_any hd 0 (by omega); rw [show syncR s1 0 = 0 from f2] at this; exact this)
  clear hk
  go_wp2_with fail
  refine HN.out.mono ?_
  clear HN
  rintro e w3 ⟨rfl, hk, hb⟩
  have hz : B ≤ w3.heap.size := Nat.le_trans hz hb.size
  have HO : Hid (Ov B w w3) := HO.out.trans hb
  clear hb
  have HN := Lib.hid (hk.l (f := 29) (args := #[.pointer (some ⟨r, 0, none⟩), .int .i64 0, .int .i64 1, .string ⟨#[88, 89]⟩]) (v := .int .i64 0) (st' := s3) hz fun S p hp hd hS => by
    subst hp
    have := write_any hd 0 1 ⟨#[88, 89]⟩ (by omega) (by omega) (by simp [ByteArray.size]); rw [show writeR _ 0 1 (ByteArray.data ⟨#[88, 89]⟩).toList = 0 from f3] at this; exact this)
  clear hk
  go_wp2_with fail
  refine HN.out.mono ?_
  clear HN
  rintro e w4 ⟨rfl, hk, hb⟩
  have hz : B ≤ w4.heap.size := Nat.le_trans hz hb.size
  have HO : Hid (Ov B w w4) := HO.out.trans hb
  clear hb
  have HN := Lib.hid (hk.see (f := 18) (args := #[.pointer (some ⟨r, 0, none⟩)]) (Q := Copd s3 w4) fun S p hp hd => by
    subst hp
    exact copy_any hd)
  have HK := Lib.hid hk
  clear hk
  go_wp2_with fail
  refine HN.out.mono ?_
  clear HN
  rintro e w5 ⟨r2, rfl, hdk, hg⟩
  have hk : Two B r s3 r2 s3 w5 := HK.out.two hg hdk hz
  have hz : B ≤ w5.heap.size := Nat.le_trans hz hg.size
  have HO : Hid (Ov B w w5) := HO.out.trans (Ov.grown hg)
  clear HK hdk hg
  have hga : w5.grownBy (w5.alloc (.cells #[.int .i64 1] 3)) none := World.grownBy_alloc _ _ _
  have hin := ints1 w5 1
  have HN := Lib.hid (hk.crashNew (ks := [1]) (n := 1) (c := 1) hz hga hin (by simp))
  have HG := Lib.hid hga
  clear hk hga hin
  go_wp2_with fail
  refine HN.out.mono ?_
  clear HN
  rintro e w6 ⟨rfl, hk, hb⟩
  have hk : Two B r s4 _ _ w6 := hk
  have hz : B ≤ w6.heap.size := Nat.le_trans (Nat.le_trans hz HG.out.size) hb.size
  have HO : Hid (Ov B w w6) := (HO.out.trans (Ov.grown HG.out)).trans hb
  clear hb HG
  have HN := Lib.hid (hk.see (f := 14) (args := #[.pointer (some ⟨r, 0, none⟩)]) (Q := fun e w' => e = .returned (.bool true) ∧ w6 = w') fun S p hp hd => by
    subst hp
    have := down_any hd
    rw [show s4.down = true from f4] at this
    exact this)
  have HK := Lib.hid hk
  clear hk
  go_wp2_with fail
  refine HN.out.mono ?_
  clear HN
  rintro e w' ⟨rfl, rfl⟩
  have hk := HK.out
  clear HK
  have HN := Lib.hid (hk.see (f := 20) (args := #[.pointer (some ⟨r, 0, none⟩), .int .i64 0, .int .i64 0, .int .i64 9]) (Q := Reads w6 [] 8) fun S p hp hd => by
    subst hp
    have := read_any hd 0 0 9 (by omega) (by omega) (by omega)
    rw [show readS s4 0 0 9 = [] from f5.1, show readR s4 0 0 9 = 8 from f5.2] at this
    exact this)
  have HK := Lib.hid hk
  clear hk
  go_wp2_with fail
  refine HN.out.mono ?_
  clear HN
  rintro e w7 ⟨rfl, hb⟩
  have hk := HK.out.keep0 hb
  have hz : B ≤ w7.heap.size := Nat.le_trans hz hb.size
  have HO : Hid (Ov B w w7) := HO.out.trans (Ov.nothing hb)
  clear HK hb
  have HN := Lib.hid (hk.l (f := 26) (args := #[.pointer (some ⟨r, 0, none⟩)]) (v := .tuple #[]) (st1' := s5) hz fun S p hp hd hS => by
    subst hp
    exact start_any hd)
  clear hk
  go_wp2_with fail
  refine HN.out.mono ?_
  clear HN
  rintro e w8 ⟨rfl, hk, hb⟩
  have hz : B ≤ w8.heap.size := Nat.le_trans hz hb.size
  have HO : Hid (Ov B w w8) := HO.out.trans hb
  clear hb
  have HN := Lib.hid (hk.see (f := 20) (args := #[.pointer (some ⟨r, 0, none⟩), .int .i64 0, .int .i64 0, .int .i64 9]) (Q := Reads w8 [97, 88, 89] 0) fun S p hp hd => by
    subst hp
    have := read_any hd 0 0 9 (by omega) (by omega) (by omega)
    rw [show readS s5 0 0 9 = [97, 88, 89] from f6.1, show readR s5 0 0 9 = 0 from f6.2] at this
    exact this)
  have HK := Lib.hid hk
  clear hk
  go_wp2_with fail
  refine HN.out.mono ?_
  clear HN
  rintro e w9 ⟨rfl, hb⟩
  have hk := HK.out.keep0 hb
  have hz : B ≤ w9.heap.size := Nat.le_trans hz hb.size
  have HO : Hid (Ov B w w9) := HO.out.trans (Ov.nothing hb)
  clear HK hb
  have hk : Two B r2 s3 r s5 _ := hk.swap
  have hga : w9.grownBy (w9.alloc (.cells #[.int .i64 0] 3)) none := World.grownBy_alloc _ _ _
  have hin := ints1 w9 0
  have HN := Lib.hid (hk.crashNew (ks := [0]) (n := 1) (c := 1) hz hga hin (by simp))
  have HG := Lib.hid hga
  clear hk hga hin
  go_wp2_with fail
  refine HN.out.mono ?_
  clear HN
  rintro e w10 ⟨rfl, hk, hb⟩
  have hk : Two B r2 c1 _ _ w10 := hk
  have hz : B ≤ w10.heap.size := Nat.le_trans (Nat.le_trans hz HG.out.size) hb.size
  have HO : Hid (Ov B w w10) := (HO.out.trans (Ov.grown HG.out)).trans hb
  clear hb HG
  have HN := Lib.hid (hk.l (f := 26) (args := #[.pointer (some ⟨r2, 0, none⟩)]) (v := .tuple #[]) (st1' := c2) hz fun S p hp hd hS => by
    subst hp
    exact start_any hd)
  clear hk
  go_wp2_with fail
  refine HN.out.mono ?_
  clear HN
  rintro e w11 ⟨rfl, hk, hb⟩
  have hz : B ≤ w11.heap.size := Nat.le_trans hz hb.size
  have HO : Hid (Ov B w w11) := HO.out.trans hb
  clear hb
  have HN := Lib.hid (hk.see (f := 20) (args := #[.pointer (some ⟨r2, 0, none⟩), .int .i64 0, .int .i64 1, .int .i64 9]) (Q := Reads w11 [98, 99] 0) fun S p hp hd => by
    subst hp
    have := read_any hd 0 1 9 (by omega) (by omega) (by omega)
    rw [show readS c2 0 1 9 = [98, 99] from f7.1, show readR c2 0 1 9 = 0 from f7.2] at this
    exact this)
  have HK := Lib.hid hk
  clear hk
  go_wp2_with fail
  refine HN.out.mono ?_
  clear HN
  rintro e w12 ⟨rfl, hb⟩
  have hk := HK.out.keep0 hb
  have hz : B ≤ w12.heap.size := Nat.le_trans hz hb.size
  have HO : Hid (Ov B w w12) := HO.out.trans (Ov.nothing hb)
  clear HK hb
  have HN := Lib.hid (hk.l (f := 29) (args := #[.pointer (some ⟨r2, 0, none⟩), .int .i64 1, .int .i64 62, .string ⟨#[97, 98, 99, 100]⟩]) (v := .int .i64 0) (st1' := c3) hz fun S p hp hd hS => by
    subst hp
    have := write_any hd 1 62 ⟨#[97, 98, 99, 100]⟩ (by omega) (by omega) (by simp [ByteArray.size]); rw [show writeR _ 1 62 (ByteArray.data ⟨#[97, 98, 99, 100]⟩).toList = 0 from f8] at this; exact this)
  clear hk
  go_wp2_with fail
  refine HN.out.mono ?_
  clear HN
  rintro e w13 ⟨rfl, hk, hb⟩
  have hz : B ≤ w13.heap.size := Nat.le_trans hz hb.size
  have HO : Hid (Ov B w w13) := HO.out.trans hb
  clear hb
  have hga : w13.grownBy (w13.alloc (.cells #[.int .i64 0, .int .i64 1] 3)) none := World.grownBy_alloc _ _ _
  have hin := ints2 w13 0 1
  have HN := Lib.hid (hk.crashNew (ks := [0, 1]) (n := 2) (c := 2) hz hga hin (by simp))
  have HG := Lib.hid hga
  clear hk hga hin
  go_wp2_with fail
  refine HN.out.mono ?_
  clear HN
  rintro e w14 ⟨rfl, hk, hb⟩
  have hk : Two B r2 c4 _ _ w14 := hk
  have hz : B ≤ w14.heap.size := Nat.le_trans (Nat.le_trans hz HG.out.size) hb.size
  have HO : Hid (Ov B w w14) := (HO.out.trans (Ov.grown HG.out)).trans hb
  clear hb HG
  have HN := Lib.hid (hk.l (f := 26) (args := #[.pointer (some ⟨r2, 0, none⟩)]) (v := .tuple #[]) (st1' := c5) hz fun S p hp hd hS => by
    subst hp
    exact start_any hd)
  clear hk
  go_wp2_with fail
  refine HN.out.mono ?_
  clear HN
  rintro e w15 ⟨rfl, hk, hb⟩
  have hz : B ≤ w15.heap.size := Nat.le_trans hz hb.size
  have HO : Hid (Ov B w w15) := HO.out.trans hb
  clear hb
  have HN := Lib.hid (hk.see (f := 20) (args := #[.pointer (some ⟨r2, 0, none⟩), .int .i64 1, .int .i64 60, .int .i64 100]) (Q := Reads w15 [0, 0, 0, 0, 99, 100] 0) fun S p hp hd => by
    subst hp
    have := read_any hd 1 60 100 (by omega) (by omega) (by omega)
    rw [show readS c5 1 60 100 = [0, 0, 0, 0, 99, 100] from f9.1, show readR c5 1 60 100 = 0 from f9.2] at this
    exact this)
  have HK := Lib.hid hk
  clear hk
  go_wp2_with fail
  refine HN.out.mono ?_
  clear HN
  rintro e w16 ⟨rfl, hb⟩
  have hk := HK.out.keep0 hb
  have hz : B ≤ w16.heap.size := Nat.le_trans hz hb.size
  have HO : Hid (Ov B w w16) := HO.out.trans (Ov.nothing hb)
  clear HK hb
  have HN := Lib.hid (hk.see (f := 16) (args := #[.pointer (some ⟨r2, 0, none⟩), .int .i64 1]) (Q := fun e w' => e = .returned (.int .i64 66) ∧ w16 = w') fun S p hp hd => by
    subst hp
    have := size_any hd 1 (by omega)
    rw [show ((c5.now 1).length : Int) = 66 from f10] at this
    exact this)
  have HK := Lib.hid hk
  clear hk
  go_wp2_with fail
  refine HN.out.mono ?_
  clear HN
  rintro e w' ⟨rfl, rfl⟩
  have hk := HK.out
  clear HK
  have HN := Lib.hid (hk.l (f := 29) (args := #[.pointer (some ⟨r2, 0, none⟩), .int .i64 16, .int .i64 0, .string ⟨#[]⟩]) (v := .int .i64 1) (st1' := c6) hz fun S p hp hd hS => by
    subst hp
    have := write_any hd 16 0 ⟨#[]⟩ (by omega) (by omega) (by simp [ByteArray.size]); rw [show writeR _ 16 0 (ByteArray.data ⟨#[]⟩).toList = 1 from f11] at this; exact this)
  clear hk
  go_wp2_with fail
  refine HN.out.mono ?_
  clear HN
  rintro e w17 ⟨rfl, hk, hb⟩
  have hz : B ≤ w17.heap.size := Nat.le_trans hz hb.size
  have HO : Hid (Ov B w w17) := HO.out.trans hb
  clear hb
  have HN := Lib.hid (hk.l (f := 29) (args := #[.pointer (some ⟨r2, 0, none⟩), .int .i64 1, .int .i64 16777216, .string ⟨#[97]⟩]) (v := .int .i64 6) (st1' := c7) hz fun S p hp hd hS => by
    subst hp
    have := write_any hd 1 16777216 ⟨#[97]⟩ (by omega) (by omega) (by simp [ByteArray.size]); rw [show writeR _ 1 16777216 (ByteArray.data ⟨#[97]⟩).toList = 6 from f12] at this; exact this)
  clear hk
  go_wp2_with fail
  refine HN.out.mono ?_
  clear HN
  rintro e w18 ⟨rfl, hk, hb⟩
  have hz : B ≤ w18.heap.size := Nat.le_trans hz hb.size
  have HO : Hid (Ov B w w18) := HO.out.trans hb
  clear hb
  go_wp2_with fail
  go_ret
  rw [HW0.out]
  exact ⟨rfl, HO.out⟩
end Go.Proofs.Ytkphmkhdlkdphaa
