/- The contracts of the list writers. -/
import Derived.Outline
import Derived.Deep.LoopGhost
import Derived.Test.YtpcdogbioopdgaaDoorA
import Derived.Test.YtpcdogbioopdgaaDoorBld
namespace Go.Proofs.YtpcdogbioopdgaaDoor
open Go.RowKit Go.Sort

/-- The cells of a slice of ints. -/
def IntCells (w : World) (a : Option Addr) (zs : List Int) : Prop :=
  zs = [] ∨ ∃ b off, a = some ⟨b, off, none⟩ ∧ ∀ i, i < zs.length → w.cell? ⟨b, off + i, none⟩ = some (.int .i64 (zs.getD i 0))
theorem cell_lt {w : World} {b o : Nat} {v : Value} (h : w.cell? ⟨b, o, none⟩ = some v) : b < w.heap.size := by
  rcases Nat.lt_or_ge b w.heap.size with h' | h'
  · exact h'
  · simp [World.cell?, Array.getElem?_eq_none h'] at h
theorem cell_later {w w' : World} {b o : Nat} {v : Value} (h : w.cell? ⟨b, o, none⟩ = some v) (hb : RowKit.Below w.heap.size w w') : w'.cell? ⟨b, o, none⟩ = some v := by
  rw [hb.cell (p := ⟨b, o, none⟩) (cell_lt h)]; exact h
theorem flat_snoc {α β : Type} (f : α → List β) (l : List α) (k : Nat) (h : k < l.length) : (l.take (k+1)).flatMap f = (l.take k).flatMap f ++ f l[k] := by
  rw [List.take_succ_eq_append_getElem h, List.flatMap_append]; simp
def encNums (zs : List Int) : List UInt8 := Lib.itoa zs.length ++ [91] ++ zs.flatMap encInt ++ [93]


/-- The builder at block b holds the bytes l; below b all is as it was in w. -/
def BuildAt (w : World) (b : Nat) (l : List UInt8) (wr : World) : Prop :=
  Lib.IsBuilderF 66 5 w.heap.size b (Lib.byteCells l) wr ∧ RowKit.Below w.heap.size w wr

theorem grownBy_none {w w' : World} (h : RowKit.Below w.heap.size w w') : w.grownBy w' none := ⟨h.os, h.tape, h.output, h.size, fun k hk _ => h.block k hk⟩
theorem builderAt_later {B b : Nat} {p : Value} {bs : List Value} {w w' : World} (h : Lib.BuilderAtF 66 5 B b p bs w) (hw : RowKit.Below w.heap.size w w') : Lib.BuilderAtF 66 5 B b p bs w' := by
  have hlt := h.lt
  obtain ⟨hB, v, hb, hown, hne⟩ := h
  exact ⟨hB, v, (hw.block b hlt).trans hb, hown.kept (grownBy_none hw) (by cases hv : v.ownBlock <;> simp), hne⟩
theorem BuildAt.later {w wr w' : World} {b : Nat} {l : List UInt8} (h : BuildAt w b l wr) (hw : RowKit.Below wr.heap.size wr w') : BuildAt w b l w' :=
  ⟨h.1.elim (fun x => .inl (builderAt_later x hw)) (fun x => .inr (builderAt_later x hw)), h.2.trans (hw.mono h.2.size)⟩
theorem BuildAt.fresh (w : World) : BuildAt w w.heap.size [] (w.alloc (Obj.cells #[.pointer none, .slice none 0 0] 66)) :=
  ⟨.of (Lib.fresh_isBuilder 66 5 w), (Below.refl _ _).alloc (Nat.le_refl _) _⟩

theorem wb_any (w : World) (b : Nat) (l : List UInt8) (c : UInt8) (wr : World) (h : BuildAt w b l wr) (hl : l.length ≤ 100000000) :
    Calls Tryd.prog 60 #[.pointer (some ⟨b, 0, none⟩), .int .u8 c.toNat] wr fun e w' => e = .returned .nilIface ∧ BuildAt w b (l ++ [c]) w' := by
  refine (writeByte_k w.heap.size b _ _ wr h.1 (by rw [Lib.byteCells_length]; omega) h.2.size).mono ?_
  rintro e w' ⟨rfl, h1, h2, _⟩
  exact ⟨rfl, Or.inr (by rw [Lib.byteCells_append]; exact h1), h.2.trans h2⟩
theorem ws_any (w : World) (b : Nat) (l : List UInt8) (s : ByteArray) (wr : World) (h : BuildAt w b l wr) (hl : l.length ≤ 100000000) (hs : s.size ≤ 100000000) :
    Calls Tryd.prog 59 #[.pointer (some ⟨b, 0, none⟩), .string s] wr fun e w' => e = .returned (.tuple #[.int .i64 s.size, .nilIface]) ∧ BuildAt w b (l ++ s.data.toList) w' := by
  refine (writeString_k w.heap.size b _ _ wr h.1 (by rw [Lib.byteCells_length]; omega) h.2.size).mono ?_
  rintro e w' ⟨rfl, h1, h2, _⟩
  exact ⟨rfl, Or.inr (by rw [Lib.byteCells_append]; exact h1), h.2.trans h2⟩

theorem Env.tab_alloc {w : World} (h : Lib.TabIs Tryd.prog w "internal/strconv.uint64pow10" .u64 Lib.pow10Tab) (hz : 6 ≤ w.heap.size) (o : Obj) : Lib.TabIs Tryd.prog (w.alloc o) "internal/strconv.uint64pow10" .u64 Lib.pow10Tab :=
  var?_below ((Below.refl 6 w).alloc hz o) gPow (by omega) h


def IntsOk (zs : List Int) : Prop := ∀ z ∈ zs, -9223372036854775808 ≤ z ∧ z ≤ 9223372036854775807
theorem encInt_len (n : Int) (h : -9223372036854775808 ≤ n ∧ n ≤ 9223372036854775807) : (encInt n).length ≤ 22 := by
  have := Lib.itoa_length_le n h.1 h.2; simp [encInt]; omega
theorem flat_len {α β : Type} (f : α → List β) (m : Nat) (l : List α) (h : ∀ z ∈ l, (f z).length ≤ m) : (l.flatMap f).length ≤ m * l.length := by
  induction l with
  | nil => simp
  | cons x l ih => 
    have h1 := h x (by simp); have h2 := ih (fun z hz => h z (by simp [hz]))
    simp [Nat.mul_add] at *; omega
theorem getD_mem {α : Type} (l : List α) (k : Nat) (d : α) (h : k < l.length) : l.getD k d ∈ l := by
  rw [List.getD_eq_getElem?_getD, List.getElem?_eq_getElem h]; simp

set_option maxHeartbeats 1000000 in
set_option maxRecDepth 100000 in
theorem wl_int (a : Option Addr) (cap : Nat) (zs : List Int) (hl : zs.length ≤ 100000) (w : World) (he : Env w) (hcells : IntCells w a zs) (hok : IntsOk zs) :
    Calls Tryd.prog 46 #[.slice a zs.length cap, .func (.func 13) #[] #[]] w fun e w' => e = .returned (.string ⟨(encNums zs).toArray⟩) ∧ RowKit.Below w.heap.size w w' := by
  have ht := Lib.hid he.tab
  have HZ := Lib.hid he.size
  have HE := Lib.hid he
  have HOK := Lib.hid hok
  have hil := Lib.itoa_length_le zs.length (by omega) (by omega)
  clear he hok
  rcases hcells with h0' | ⟨ba, off, rfl, hc⟩
  have h0 := Lib.hid h0'; clear h0'
  all_goals
    go_enter Tryd.func46, Tryd.ntmps46
    go_wp2_with (go_at_call 44; refine (Tryd.strconv_Itoa zs.length (by omega) (by omega) _ (Env.tab_alloc ht.out HZ.out _)).mono ?_)
    rintro e w' ⟨rfl, k, os, rfl⟩
    have b0 : BuildAt w w.heap.size [] (grow ((w.alloc (Obj.cells #[.pointer none, .slice none 0 0] 66)).drewN k) os) :=
      (BuildAt.fresh w).later (Lib.below_grow _ _ (Nat.le_refl _) _ _)
    go_wp2_with fail
    refine (ws_any w _ _ ⟨(Lib.itoa zs.length).toArray⟩ _ b0 (by simp) (by simp [ByteArray.size]; omega)).mono ?_
    rintro e w1 ⟨rfl, h1⟩
    simp only [List.nil_append] at h1
    go_wp2_with fail
    refine (wb_any w _ _ 91 _ h1 (by omega)).mono ?_
    rintro e w2 ⟨rfl, h2⟩
    clear h1 b0
    go_wp2_with fail
    go_loopw [15] (fun i wr => ∃ k : Nat, k ≤ zs.length ∧ i = .int .i64 k ∧ BuildAt w w.heap.size (Lib.itoa zs.length ++ [91] ++ (zs.take k).flatMap encInt) wr) (fun i _ => zs.length - (RowKit.intOf i).toNat)
    case atStart => exact ⟨0, by omega, rfl, by simpa using h2⟩
    case round =>
      obtain ⟨k, hk, rfl, hb⟩ := hrel
      clear h2
      have hfl : ((zs.take k).flatMap encInt).length ≤ 22 * k := Nat.le_trans (flat_len encInt 22 _ (fun z hz => encInt_len z (HOK.out z (List.mem_of_mem_take hz)))) (Nat.mul_le_mul_left _ (by simp; omega))
      by_cases hlt : k < zs.length
      · first
        | (exfalso; simp [h0.out] at hlt; done)
        | (have hck := cell_later (hc k hlt) hb.2
           have HS := Lib.hid (flat_snoc encInt zs k hlt)
           have hz := HOK.out _ (List.getElem_mem hlt)
           have HE1 := Lib.hid (HE.out.below hb.2 HZ.out)
           clear hc
           go_wp2_with fail
           refine (int_any _ hz.1 hz.2 _ HE1.out).mono ?_
           rintro e w3 ⟨rfl, hb3⟩
           go_wp2_with fail
           have hel := encInt_len _ hz
           refine (ws_any w _ _ ⟨(encInt zs[k]).toArray⟩ _ (hb.later hb3) (by simp only [List.length_append, List.length_cons, List.length_nil]; omega) (by simp [ByteArray.size]; omega)).mono ?_
           rintro e w4 ⟨rfl, h4⟩
           go_wp2_with fail
           go_roundw
           case rel => exact ⟨k + 1, by omega, by go_num, by rw [HS.out]; simpa using h4⟩
           case measure => simp [RowKit.intOf]; omega)
      · have hkk : k = zs.length := by omega
        go_wp2_with fail
        refine (wb_any w _ _ 93 _ hb (by simp only [List.length_append, List.length_cons, List.length_nil]; omega)).mono ?_
        rintro e w4 ⟨rfl, h4⟩
        go_wp2_with fail
        refine (Tryd.Builder_String_any_k _ _ _ _ h4.1 h4.2.size).mono ?_
        rintro e w5 ⟨rfl, _, hb5, _⟩
        go_wp2_with fail
        go_ret
        exact ⟨by simp [encNums, hkk], h4.2.trans hb5⟩

theorem nums_any (a : Option Addr) (cap : Nat) (zs : List Int) (hl : zs.length ≤ 100000) (w : World) (he : Env w) (hcells : IntCells w a zs) (hok : IntsOk zs) :
    Calls Tryd.prog 17 #[.slice a zs.length cap] w fun e w' => e = .returned (.string ⟨(encNums zs).toArray⟩) ∧ RowKit.Below w.heap.size w w' := by
  have HC := Lib.hid hcells
  have HOK := Lib.hid hok
  clear hcells hok
  go_enter Tryd.func17, Tryd.ntmps17
  go_wp2_with fail
  refine (wl_int a cap zs hl _ he HC.out HOK.out).mono ?_
  rintro e w1 ⟨rfl, h1⟩
  go_wp2_with fail
  go_ret
  exact ⟨rfl, h1⟩

/-- The cells of a slice of strings. -/
def StrCells (w : World) (a : Option Addr) (ss : List ByteArray) : Prop :=
  ss = [] ∨ ∃ b off, a = some ⟨b, off, none⟩ ∧ ∀ i (h : i < ss.length), w.cell? ⟨b, off + i, none⟩ = some (.string ss[i])
def encS (s : ByteArray) : List UInt8 := encText s.data.toList
def encTexts (ss : List ByteArray) : List UInt8 := Lib.itoa ss.length ++ [91] ++ ss.flatMap encS ++ [93]
theorem encS_len (m : Nat) (s : ByteArray) (h : s.size ≤ m) (hm : m ≤ 1000000) : (encS s).length ≤ m + 24 := by
  have := Lib.itoa_length_le s.size (by omega) (by omega)
  simp only [encS, encText, List.length_append, List.length_cons, List.length_nil, Array.length_toList]
  have e : s.data.size = s.size := rfl
  rw [e]; omega
set_option maxHeartbeats 1000000 in
set_option maxRecDepth 100000 in
theorem wl_str (a : Option Addr) (cap : Nat) (zs : List ByteArray) (m : Nat) (hl : zs.length ≤ 100000) (hm : m ≤ 1000000) (hml : (m + 24) * zs.length ≤ 50000000) (w : World) (he : Env w) (hcells : StrCells w a zs) (hok : ∀ z ∈ zs, z.size ≤ m) :
    Calls Tryd.prog 47 #[.slice a zs.length cap, .func (.func 15) #[] #[]] w fun e w' => e = .returned (.string ⟨(encTexts zs).toArray⟩) ∧ RowKit.Below w.heap.size w w' := by
  have ht := Lib.hid he.tab
  have HZ := Lib.hid he.size
  have HE := Lib.hid he
  have HOK := Lib.hid hok
  have HML := Lib.hid hml
  have hil := Lib.itoa_length_le zs.length (by omega) (by omega)
  clear he hok hml
  rcases hcells with h0' | ⟨ba, off, rfl, hc⟩
  have h0 := Lib.hid h0'; clear h0'
  all_goals
    go_enter Tryd.func47, Tryd.ntmps47
    go_wp2_with (go_at_call 44; refine (Tryd.strconv_Itoa zs.length (by omega) (by omega) _ (Env.tab_alloc ht.out HZ.out _)).mono ?_)
    rintro e w' ⟨rfl, k, os, rfl⟩
    have b0 : BuildAt w w.heap.size [] (grow ((w.alloc (Obj.cells #[.pointer none, .slice none 0 0] 66)).drewN k) os) :=
      (BuildAt.fresh w).later (Lib.below_grow _ _ (Nat.le_refl _) _ _)
    go_wp2_with fail
    refine (ws_any w _ _ ⟨(Lib.itoa zs.length).toArray⟩ _ b0 (by simp) (by simp [ByteArray.size]; omega)).mono ?_
    rintro e w1 ⟨rfl, h1⟩
    simp only [List.nil_append] at h1
    go_wp2_with fail
    refine (wb_any w _ _ 91 _ h1 (by omega)).mono ?_
    rintro e w2 ⟨rfl, h2⟩
    clear h1 b0
    go_wp2_with fail
    go_loopw [15] (fun i wr => ∃ k : Nat, k ≤ zs.length ∧ i = .int .i64 k ∧ BuildAt w w.heap.size (Lib.itoa zs.length ++ [91] ++ (zs.take k).flatMap encS) wr) (fun i _ => zs.length - (RowKit.intOf i).toNat)
    case atStart => exact ⟨0, by omega, rfl, by simpa using h2⟩
    case round =>
      obtain ⟨k, hk, rfl, hb⟩ := hrel
      clear h2
      have hfl : ((zs.take k).flatMap encS).length ≤ 50000000 := Nat.le_trans (flat_len encS (m+24) _ (fun z hz => encS_len m z (HOK.out z (List.mem_of_mem_take hz)) hm)) (Nat.le_trans (Nat.mul_le_mul_left _ (List.length_take_le _ _)) (Nat.le_trans (Nat.mul_le_mul_left _ hk) HML.out))
      by_cases hlt : k < zs.length
      · first
        | (exfalso; simp [h0.out] at hlt; done)
        | (have hck := cell_later (hc k hlt) hb.2
           have HS := Lib.hid (flat_snoc encS zs k hlt)
           have hz := HOK.out _ (List.getElem_mem hlt)
           have HE1 := Lib.hid (HE.out.below hb.2 HZ.out)
           clear hc
           go_wp2_with fail
           refine (text_any _ (Nat.le_trans hz hm) _ HE1.out).mono ?_
           rintro e w3 ⟨rfl, hb3⟩
           go_wp2_with fail
           have hel := encS_len m _ hz hm
           refine (ws_any w _ _ ⟨(encS zs[k]).toArray⟩ _ (hb.later hb3) (by simp only [List.length_append, List.length_cons, List.length_nil]; omega) (by simp [ByteArray.size]; omega)).mono ?_
           rintro e w4 ⟨rfl, h4⟩
           go_wp2_with fail
           go_roundw
           case rel => exact ⟨k + 1, by omega, by go_num, by rw [HS.out]; simpa using h4⟩
           case measure => simp [RowKit.intOf]; omega)
      · have hkk : k = zs.length := by omega
        go_wp2_with fail
        refine (wb_any w _ _ 93 _ hb (by simp only [List.length_append, List.length_cons, List.length_nil]; omega)).mono ?_
        rintro e w4 ⟨rfl, h4⟩
        go_wp2_with fail
        refine (Tryd.Builder_String_any_k _ _ _ _ h4.1 h4.2.size).mono ?_
        rintro e w5 ⟨rfl, _, hb5, _⟩
        go_wp2_with fail
        go_ret
        exact ⟨by simp [encTexts, hkk], h4.2.trans hb5⟩

theorem texts_any (a : Option Addr) (cap : Nat) (zs : List ByteArray) (m : Nat) (hl : zs.length ≤ 100000) (hm : m ≤ 1000000) (hml : (m + 24) * zs.length ≤ 50000000) (w : World) (he : Env w) (hcells : StrCells w a zs) (hok : ∀ z ∈ zs, z.size ≤ m) :
    Calls Tryd.prog 19 #[.slice a zs.length cap] w fun e w' => e = .returned (.string ⟨(encTexts zs).toArray⟩) ∧ RowKit.Below w.heap.size w w' := by
  have HC := Lib.hid hcells
  have HOK := Lib.hid hok
  have HML := Lib.hid hml
  clear hcells hok hml
  go_enter Tryd.func19, Tryd.ntmps19
  go_wp2_with fail
  refine (wl_str a cap zs m hl hm HML.out _ he HC.out HOK.out).mono ?_
  rintro e w1 ⟨rfl, h1⟩
  go_wp2_with fail
  go_ret
  exact ⟨rfl, h1⟩
end Go.Proofs.YtpcdogbioopdgaaDoor
