/- The contracts of few, pair. -/
import Derived.Test.YtpcagodnlbdclaaDoorBi26
set_option maxRecDepth 100000
namespace Go.Proofs.YtpcagodnlbdclaaDoor.Bi
open Go.RowKit

theorem few_any (s : Int) (v : Value) (l : List Int) (n : Int) (w : World) (h : Ints w v l) (bb : Bool) (hb : decide ((l.length : Int) ≤ n) = bb) :
    Calls Tryd.prog 11 #[.agg #[.int .i64 s, v], .int .i64 n] w fun e w' => e = .returned (.bool bb) ∧ RowKit.Below w.heap.size w w' := by
  obtain ⟨a, c, rfl, h1, h2, h3⟩ := id h
  obtain ⟨m, em⟩ : ∃ m, l.length = m := ⟨_, rfl⟩
  rw [em] at hb h1 h2 ⊢
  have HB := Lib.hid hb
  clear h h3 em hb
  go_enter Tryd.func11, Tryd.ntmps11
  go_wp2_with fail
  go_ret
  rw [← HB.out]
  exact ⟨rfl, below_alloc _ _⟩

theorem rsame_t {w : World} {sa sb : Int} {va vb : Value} {a b : Int} (ha : Num w sa va a) (hb : Num w sb vb b) (h : a = b) : Calls Tryd.prog 18 #[.agg #[.int .i64 sa, va], .agg #[.int .i64 sb, vb]] w fun e w' => e = .returned (.bool true) ∧ RowKit.Below w.heap.size w w' := by
  have := rsame_any _ _ _ _ _ _ w ha.arg hb.arg
  rwa [decide_eq_decide.2 (num_eq (a := a) (b := b)), show decide (a = b) = true by simpa using h] at this

set_option maxHeartbeats 4000000 in
theorem pair_t (sa : Int) (aa : Option Addr) (na ca : Nat) (sb : Int) (ab : Option Addr) (nb cb : Nat) (q r : Int) (hq : -9223372036854775808 ≤ q ∧ q ≤ 9223372036854775807) (hr : -9223372036854775808 ≤ r ∧ r ≤ 9223372036854775807) (w : World)
    (ha : Num w sa (.slice aa na ca) q) (hb : Num w sb (.slice ab nb cb) r) :
    Calls Tryd.prog 38 #[.agg #[.int .i64 sa, .slice aa na ca], .agg #[.int .i64 sb, .slice ab nb cb], .int .i64 0, .int .i64 q, .int .i64 r] w fun e w' => e = .returned (.bool true) ∧ RowKit.Below w.heap.size w w' := by
  have HA := Lib.hid ha
  have HB := Lib.hid hb
  have HQ := Lib.hid hq
  have HR := Lib.hid hr
  have hx := Bo.start w sa (.slice aa na ca) sb (.slice ab nb cb)
  have HX0 := Lib.hid hx
  clear ha hb hq hr hx
  go_enter Tryd.func38, Tryd.ntmps38
  go_wp2_with fail
  have HXD : Hid (Bo w sa (.slice aa na ca) sb (.slice ab nb cb) (((w.alloc (.cells #[.int .i64 sa, .slice aa na ca] 24)).alloc (.cells #[.int .i64 sb, .slice ab nb cb] 24))).drew) := HX0.out.later ⟨rfl, rfl, rfl, Nat.le_refl _, fun _ _ => rfl⟩
  have e2 := HXD.out.cells
  go_region_held3 (fun W => W.cell? ⟨w.heap.size, 0, none⟩ = some (.int .i64 sa) ∧ W.cell? ⟨w.heap.size, 1, none⟩ = some (.slice aa na ca) ∧ W.cell? ⟨w.heap.size + 1, 0, none⟩ = some (.int .i64 sb) ∧ W.cell? ⟨w.heap.size + 1, 1, none⟩ = some (.slice ab nb cb))
    (first | (with_reducible exact e2) | (with_reducible exact x3) | (with_reducible exact x4) | (with_reducible exact x5) | (with_reducible exact x6))
    (first
      | (go_at_call 36; (with_reducible refine (of_k q HQ.out _).mono ?_); rintro e w3 ⟨s3, a3, n3, c3, rfl, hn3, hb3, _⟩; have HX3 := Lib.hid (HXD.out.later hb3); have x3 := HX3.out.cells; have HN3 := Lib.hid hn3; clear hn3 hb3)
      | (go_at_call 36; (with_reducible refine (of_k r HR.out _).mono ?_); rintro e w5 ⟨s5, a5, n5, c5, rfl, hn5, hb5, _⟩; have HX5 := Lib.hid (HX4.out.later hb5); have x5 := HX5.out.cells; have HN5 := Lib.hid hn5; clear hn5 hb5)
      | (go_at_call 31; (with_reducible refine (same_t (HA.out.later HX3.out.below) HN3.out rfl).mono ?_); rintro e w4 ⟨rfl, hb4⟩; have HX4 := Lib.hid (HX3.out.later hb4); have x4 := HX4.out.cells; clear hb4)
      | (go_at_call 31; (with_reducible refine (same_t (HB.out.later HX5.out.below) HN5.out rfl).mono ?_); rintro e w6 ⟨rfl, hb6⟩; have HX6 := Lib.hid (HX5.out.later hb6); have x6 := HX6.out.cells; clear hb6))
  go_wp2_with fail
  go_ret
  exact ⟨rfl, HX6.out.below⟩
end Go.Proofs.YtpcagodnlbdclaaDoor.Bi
