/- DiskReads, walked: the ways behind the bounds. -/
import Derived.Test.YtkphmkhdlkdphaaR
namespace Go.Proofs.Ytkphmkhdlkdphaa
open Go.RowKit Go.ChangeShapes Go.WideShapes

theorem nil_ints (w : World) : Ints w (.slice none 0 0) [] := ⟨none, 0, rfl, Nat.le_refl _, .inl rfl⟩
theorem arm0_one {B r : Nat} {st : St} {w : World} (h : One B r st w) (hB : B ≤ w.heap.size) :
    Calls Try.prog 27 #[.pointer (some ⟨r, 0, none⟩), .int .i64 0, .slice none 0 0] w fun e w' => e = .returned (.tuple #[]) ∧ One B r (arm st 0 []) w' ∧ Ov B w w' :=
  h.l hB fun S p hp hd hS => by
    subst hp
    exact arm_any hd 0 (by omega) _ [] (nil_ints w) (by simp)
theorem down_one {B r : Nat} {st : St} {w : World} (h : One B r st w) {b : Bool} (hb : st.down = b) : Calls Try.prog 14 #[.pointer (some ⟨r, 0, none⟩)] w fun e w' => e = .returned (.bool b) ∧ w = w' :=
  h.see fun S p hp hd => by subst hp; subst hb; exact down_any hd
theorem size_one {B r : Nat} {st : St} {w : World} (h : One B r st w) (f : Int) (hf : -9223372036854775808 ≤ f ∧ f ≤ 9223372036854775807) {n : Int} (hn : ((st.now f).length : Int) = n) : Calls Try.prog 16 #[.pointer (some ⟨r, 0, none⟩), .int .i64 f] w fun e w' => e = .returned (.int .i64 n) ∧ w = w' :=
  h.see fun S p hp hd => by subst hp; subst hn; exact size_any hd f hf
theorem write_one {B r : Nat} {st : St} {w : World} (h : One B r st w) (hB : B ≤ w.heap.size) (f a : Int) (s : ByteArray) (hf : -9223372036854775808 ≤ f ∧ f ≤ 9223372036854775807) (ha : -9223372036854775808 ≤ a ∧ a ≤ 9223372036854775807) (hs : s.size ≤ 4611686018427387904) {st' : St} {c : Int} (h1 : write st f a s.data.toList = st') (h2 : writeR st f a s.data.toList = c) :
    Calls Try.prog 29 #[.pointer (some ⟨r, 0, none⟩), .int .i64 f, .int .i64 a, .string s] w fun e w' => e = .returned (.int .i64 c) ∧ One B r st' w' ∧ Ov B w w' :=
  h.l hB fun S p hp hd hS => by subst hp; subst h1; subst h2; exact write_any hd f a s hf ha hs
def ReadsB (w : World) (s : ByteArray) (r : Int) (e : Ending) (w' : World) : Prop := e = .returned (.tuple #[.string s, .int .i64 r]) ∧ But Nothing w w'
theorem read_one {B r : Nat} {st : St} {w : World} (h : One B r st w) (f a n : Int) (hf : -9223372036854775808 ≤ f ∧ f ≤ 9223372036854775807) (ha : -9223372036854775808 ≤ a ∧ a ≤ 9223372036854775807) (hn : -9223372036854775808 ≤ n ∧ n ≤ 9223372036854775807) {s : ByteArray} {c : Int} (h1 : readS st f a n = s.data.toList) (h2 : readR st f a n = c) :
    Calls Try.prog 20 #[.pointer (some ⟨r, 0, none⟩), .int .i64 f, .int .i64 a, .int .i64 n] w (ReadsB w s c) :=
  h.see fun S p hp hd => by
    subst hp; subst h2
    have := read_any hd f a n hf ha hn
    rw [h1] at this
    refine this.mono ?_
    rintro e w' ⟨he, hb⟩
    rw [ba_eq] at he
    exact ⟨he, hb⟩
theorem trunc_one {B r : Nat} {st : St} {w : World} (h : One B r st w) (hB : B ≤ w.heap.size) (f n : Int) (hf : -9223372036854775808 ≤ f ∧ f ≤ 9223372036854775807) (hn : -9223372036854775808 ≤ n ∧ n ≤ 9223372036854775807) {c : Int} (h2 : truncR st f n = c) :
    Calls Try.prog 30 #[.pointer (some ⟨r, 0, none⟩), .int .i64 f, .int .i64 n] w fun e w' => e = .returned (.int .i64 c) ∧ One B r (trunc st f n) w' ∧ Ov B w w' :=
  h.l hB fun S p hp hd hS => by subst hp; subst h2; exact trunc_any hd f n hf hn
theorem crash_one {B r : Nat} {st : St} {w w0 : World} (h : One B r st w) (hB : B ≤ w.heap.size) (v : Value) (ks : List Int) (hv : Ints w0 v ks) (h0 : w0.heap.size ≤ B) (hw : Ov B w0 w) (hk : ks.length ≤ 1000000000 ∧ ∀ x ∈ ks, -9223372036854775808 ≤ x ∧ x ≤ 9223372036854775807) :
    Calls Try.prog 25 #[.pointer (some ⟨r, 0, none⟩), v] w fun e w' => e = .returned (.tuple #[]) ∧ One B r (crash st ks) w' ∧ Ov B w w' :=
  h.l hB fun S p hp hd hS => by
    subst hp
    exact crash_any hd v ks (hv.kept fun b _ hlt => hw.block b hlt (by omega)) hk fun b hb s hs => by
      have := hv.off_lt hb
      have := hS b (hd.inS s b hs)
      omega
theorem start_one {B r : Nat} {st : St} {w : World} (h : One B r st w) (hB : B ≤ w.heap.size) :
    Calls Try.prog 26 #[.pointer (some ⟨r, 0, none⟩)] w fun e w' => e = .returned (.tuple #[]) ∧ One B r (start st) w' ∧ Ov B w w' :=
  h.l hB fun S p hp hd hS => by subst hp; exact start_any hd

set_option maxRecDepth 100000 in
set_option maxHeartbeats 4000000 in
theorem reads_down (a : Option Addr) (cap : Nat) (vs : List Ac) (f at' n : Int) (s : ByteArray) (w : World) (hv : ACells w a vs) (hl : vs.length ≤ 9223372036854775807) (hfw : few vs = true) (hs : s.size ≤ 300) (ha : 0 ≤ at' ∧ at' ≤ 3000) (hn : 0 ≤ n)
    (hf : -9223372036854775808 ≤ f ∧ f ≤ 9223372036854775807) (hx : (runs vs St.new).down = true ∨ f < 0 ∨ 15 < f) :
    Calls Try.prog 7 #[.slice a vs.length cap, .int .i64 f, .int .i64 at', .string s, .int .i64 n] w (Gives (.bool true) w) := by
  have HF := Lib.hid (fun w1 (hw : Ov w.heap.size w w1) => few_later (cap := cap) hv hl hw hfw)
  have HP := Lib.hid (fun w1 (hw : Ov w.heap.size w w1) => played_later (cap := cap) hv hfw hw)
  obtain ⟨c, hc⟩ : ∃ c, writeR (arm (runs vs St.new) 0 []) f at' s.data.toList = c := ⟨_, rfl⟩
  have hc0 : c ≠ 0 := by
    rw [← hc]
    refine write_bad (by simp [arm]) ?_
    rcases hx with h | h
    · exact .inl h
    · exact .inr (isF_no h)
  have hc1 : (c == 0) = false := by simpa using hc0
  have hc2 : decide (c = 0) = false := by simpa using hc0
  have hc3 : (c != 0) = true := by simpa using hc0
  have HC := Lib.hid hc
  have hx' : (runs vs St.new).down = true ∨ ((runs vs St.new).down = false ∧ f < 0) ∨ ((runs vs St.new).down = false ∧ ¬ f < 0 ∧ 15 < f) := by
    by_cases hd : (runs vs St.new).down = true
    · exact .inl hd
    · have hd' : (runs vs St.new).down = false := by simpa using hd
      have := hx.resolve_left hd
      by_cases hf0 : f < 0
      · exact .inr (.inl ⟨hd', hf0⟩)
      · exact .inr (.inr ⟨hd', hf0, by omega⟩)
  clear hc hc0 hv hfw hl hx
  rcases hx' with hd | ⟨hd, g⟩ | ⟨hd, g1, g2⟩
  all_goals
    have HD := Lib.hid hd
    clear hd
    go_enter Try.func7, Try.ntmps7
    go_wp2_with fail
    refine (small_any w).mono ?_
    rintro e w1 ⟨rfl, h1⟩
    have H1 := Lib.hid h1
    clear h1
    go_wp2_with (go_at_call 9; refine (HF.out _ H1.out).mono ?_; rintro e w2 ⟨rfl, rfl⟩)
    refine (HP.out _ H1.out).mono ?_
    rintro e w2 ⟨r, rfl, h2, hb2⟩
    have hz : w.heap.size ≤ w2.heap.size := (H1.out.trans hb2).size
    have HO : Hid (Ov w.heap.size w w2) := H1.out.trans hb2
    have HN := Lib.hid (arm0_one h2 hz)
    clear h2 hb2 H1
    go_wp2_with fail
    refine HN.out.mono ?_
    clear HN
    rintro e w3 ⟨rfl, h3, hb3⟩
    have hz3 : w.heap.size ≤ w3.heap.size := Nat.le_trans hz hb3.size
    have HO3 : Hid (Ov w.heap.size w w3) := HO.out.trans hb3
    have HN := Lib.hid (down_one h3 (b := _) HD.out)
    have HN2 := Lib.hid (write_one h3 hz3 f at' s hf (by omega) (by omega) rfl HC.out)
    clear h3 hb3
    go_wp2_with (first
      | (go_at_call 14; refine HN.out.mono ?_; rintro e w' ⟨rfl, rfl⟩)
      | (go_at_call 29; refine HN2.out.mono ?_; rintro e w4 ⟨rfl, h4, hb4⟩))
    have HF : Hid (Ov w.heap.size w w4) := HO3.out.trans hb4
    clear h4 hb4
    go_ret
    exact gives_ov HF.out
end Go.Proofs.Ytkphmkhdlkdphaa
