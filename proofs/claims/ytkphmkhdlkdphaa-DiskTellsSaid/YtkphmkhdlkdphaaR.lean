/- DiskReads, walked. -/
import Derived.Test.YtkphmkhdlkdphaaPl
import Derived.Test.YtkphmkhdlkdphaaQ
namespace Go.Proofs.Ytkphmkhdlkdphaa
open Go.RowKit Go.ChangeShapes Go.WideShapes

def Gives (v : Value) (w : World) (e : Ending) (w' : World) : Prop := e = .returned v ∧ Below w.heap.size w w'
theorem gives_ov {v : Value} {w w' : World} (h : Ov w.heap.size w w') : Gives v w (.returned v) w' := ⟨rfl, h.below (Nat.le_refl _)⟩

theorem few_later {w w1 : World} {a : Option Addr} {cap : Nat} {vs : List Ac} {b : Bool} (hv : ACells w a vs) (hl : vs.length ≤ 9223372036854775807) (hw : Ov w.heap.size w w1) (hb : few vs = b) :
    Calls Try.prog 9 #[.slice a vs.length cap] w1 fun e w' => e = .returned (.bool b) ∧ w1 = w' := by
  subst hb
  exact few_any vs a cap w1 (hv.later (Nat.le_refl _) hw) hl

theorem ba_eq (s : ByteArray) : (⟨s.data.toList.toArray⟩ : ByteArray) = s := by cases s; simp

set_option maxRecDepth 100000 in
set_option maxHeartbeats 4000000 in
theorem reads_out (a : Option Addr) (cap : Nat) (vs : List Ac) (f at' n : Int) (s : ByteArray) (w : World) (hv : ACells w a vs) (hl : vs.length ≤ 9223372036854775807) (hs : s.size ≤ 9223372036854775807)
    (hx : few vs = false ∨ 300 < s.size ∨ at' < 0 ∨ 3000 < at' ∨ n < 0) :
    Calls Try.prog 7 #[.slice a vs.length cap, .int .i64 f, .int .i64 at', .string s, .int .i64 n] w (Gives (.bool true) w) := by
  obtain ⟨b, hb⟩ : ∃ b, few vs = b := ⟨_, rfl⟩
  rw [hb] at hx
  have HF := Lib.hid (fun w1 (hw : Ov w.heap.size w w1) => few_later (cap := cap) hv hl hw hb)
  clear hb hv
  cases b
  · clear hx
    go_enter Try.func7, Try.ntmps7
    go_wp2_with fail
    refine (small_any w).mono ?_
    rintro e w1 ⟨rfl, h1⟩
    have H1 := Lib.hid h1
    clear h1
    go_wp2_with (go_at_call 9; refine (HF.out _ H1.out).mono ?_; rintro e w2 ⟨rfl, rfl⟩)
    go_ret
    exact gives_ov H1.out
  · have hx' : 300 < s.size ∨ (¬ 300 < s.size ∧ at' < 0) ∨ (¬ 300 < s.size ∧ ¬ at' < 0 ∧ 3000 < at') ∨ (¬ 300 < s.size ∧ ¬ at' < 0 ∧ ¬ 3000 < at' ∧ n < 0) := by
      rcases hx with h | h | h | h | h
      · cases h
      all_goals omega
    clear hx
    rcases hx' with h | ⟨g1, h⟩ | ⟨g1, g2, h⟩ | ⟨g1, g2, g3, h⟩
    all_goals
      go_enter Try.func7, Try.ntmps7
      go_wp2_with fail
      refine (small_any w).mono ?_
      rintro e w1 ⟨rfl, h1⟩
      have H1 := Lib.hid h1
      clear h1
      go_wp2_with (go_at_call 9; refine (HF.out _ H1.out).mono ?_; rintro e w2 ⟨rfl, rfl⟩)
      go_ret
      exact gives_ov H1.out

theorem played_later {w w1 : World} {a : Option Addr} {cap : Nat} {vs : List Ac} (hv : ACells w a vs) (hf : few vs = true) (hw : Ov w.heap.size w w1) :
    Calls Try.prog 22 #[.slice a vs.length cap] w1 (PlayedPost w.heap.size (runs vs St.new) w1) := by
  refine (played_any a cap vs w1 (hv.later (Nat.le_refl _) hw) hf).mono ?_
  rintro e w2 ⟨r, rfl, ⟨S, h1, h2⟩, h3⟩
  have := hw.size
  exact ⟨r, rfl, ⟨S, h1, fun b hb => ⟨by have := (h2 b hb).1; omega, (h2 b hb).2⟩⟩, h3.mono fun b hb => by omega⟩

theorem isF_no {f : Int} (h : f < 0 ∨ 15 < f) : isF f = false := isF_f.2 (by omega)
theorem isF_yes {f : Int} (h0 : 0 ≤ f) (h1 : f ≤ 15) : isF f = true := isF_t.2 (by omega)
end Go.Proofs.Ytkphmkhdlkdphaa
