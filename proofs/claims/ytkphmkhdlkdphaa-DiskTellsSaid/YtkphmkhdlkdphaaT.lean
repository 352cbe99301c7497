/- One or two disks of the law's own, and the contracts of played and after. -/
import Derived.Test.YtkphmkhdlkdphaaB
namespace Go.Proofs.Ytkphmkhdlkdphaa
open Go.RowKit Go.ChangeShapes Go.WideShapes

/-- What lay below B is as it was. -/
abbrev Ov (B : Nat) (w w' : World) : Prop := But (fun b => B ≤ b) w w'
def One (B r : Nat) (st : St) (w : World) : Prop := ∃ S, Disk S r st w ∧ ∀ b, S b → B ≤ b ∧ b < w.heap.size
def Two (B r1 : Nat) (st1 : St) (r2 : Nat) (st2 : St) (w : World) : Prop :=
  ∃ S1 S2, Disk S1 r1 st1 w ∧ Disk S2 r2 st2 w ∧ (∀ b, S1 b → ¬ S2 b) ∧ (∀ b, S1 b → B ≤ b ∧ b < w.heap.size) ∧ ∀ b, S2 b → B ≤ b ∧ b < w.heap.size

theorem Ov.refl (B : Nat) (w : World) : Ov B w w := But.refl _ w
theorem Ov.trans {B : Nat} {a b c : World} (h : Ov B a b) (k : Ov B b c) : Ov B a c := But.trans h k fun _ _ h => h
theorem Ov.grown {B : Nat} {w w' : World} (h : w.grownBy w' none) : Ov B w w' := But.of h fun b e _ => by cases e
theorem Ov.nothing {B : Nat} {w w' : World} (h : But Nothing w w') : Ov B w w' := h.mono fun _ h => h.elim
theorem Ov.below {B : Nat} {w w' : World} (h : Ov B w w') (hB : B ≤ w.heap.size) : Below B w w' := But.below h hB fun _ h => h

theorem One.l {B r : Nat} {st st' : St} {w : World} {f : FuncId} {args : Array Value} {v : Value} (h : One B r st w) (hB : B ≤ w.heap.size)
    (hc : ∀ S p, p.r = r → IsD S p st w → (∀ b, S b → B ≤ b) → Calls Try.prog f args w fun e w' => e = .returned v ∧ Af S r st' w w') :
    Calls Try.prog f args w fun e w' => e = .returned v ∧ One B r st' w' ∧ Ov B w w' := by
  obtain ⟨S, ⟨p, hp, hd⟩, hS⟩ := h
  refine (hc S p hp hd fun b hb => (hS b hb).1).mono ?_
  rintro e w' ⟨he, hdk, hb⟩
  have hz := hb.size
  exact ⟨he, ⟨_, hdk, fun b hg => hg.elim (fun h => ⟨(hS b h).1, by have := (hS b h).2; omega⟩) fun h => ⟨by omega, h.2⟩⟩, hb.mono fun b h => (hS b h).1⟩
theorem One.keep {B r : Nat} {st : St} {w w' : World} (h : One B r st w) (hb : ∀ b, B ≤ b → b < w.heap.size → w'.heap[b]? = w.heap[b]?) (hz : w.heap.size ≤ w'.heap.size) : One B r st w' := by
  obtain ⟨S, ⟨p, hp, hd⟩, hS⟩ := h
  exact ⟨S, ⟨p, hp, hd.kept fun b h hlt => hb b (hS b h).1 hlt⟩, fun b h => ⟨(hS b h).1, Nat.lt_of_lt_of_le (hS b h).2 hz⟩⟩
theorem One.keep0 {B r : Nat} {st : St} {w w' : World} (h : One B r st w) (hb : But Nothing w w') : One B r st w' := h.keep (fun b _ hlt => hb.block b hlt (fun h => h)) hb.size
theorem One.see {B r : Nat} {st : St} {w : World} {f : FuncId} {args : Array Value} {Q : Ending → World → Prop} (h : One B r st w)
    (hc : ∀ S p, p.r = r → IsD S p st w → Calls Try.prog f args w Q) : Calls Try.prog f args w Q := by
  obtain ⟨S, ⟨p, hp, hd⟩, hS⟩ := h
  exact hc S p hp hd
theorem One.wf {B r : Nat} {st : St} {w : World} (h : One B r st w) : WF st := by
  obtain ⟨S, ⟨p, hp, hd⟩, hS⟩ := h
  exact hd.wf

theorem Two.l {B r1 r2 : Nat} {st1 st1' st2 : St} {w : World} {f : FuncId} {args : Array Value} {v : Value} (h : Two B r1 st1 r2 st2 w) (hB : B ≤ w.heap.size)
    (hc : ∀ S p, p.r = r1 → IsD S p st1 w → (∀ b, S b → B ≤ b) → Calls Try.prog f args w fun e w' => e = .returned v ∧ Af S r1 st1' w w') :
    Calls Try.prog f args w fun e w' => e = .returned v ∧ Two B r1 st1' r2 st2 w' ∧ Ov B w w' := by
  obtain ⟨S1, S2, ⟨p, hp, hd⟩, hd2, hno, hS1, hS2⟩ := h
  refine (hc S1 p hp hd fun b hb => (hS1 b hb).1).mono ?_
  rintro e w' ⟨he, hdk, hb⟩
  have hz := hb.size
  refine ⟨he, ⟨_, S2, hdk, hd2.apart hb (fun b h2 h1 => hno b h1 h2), fun b hg h2 => ?_, fun b hg => hg.elim (fun h => ⟨(hS1 b h).1, by have := (hS1 b h).2; omega⟩) fun h => ⟨by omega, h.2⟩, fun b h => ⟨(hS2 b h).1, by have := (hS2 b h).2; omega⟩⟩, hb.mono fun b h => (hS1 b h).1⟩
  rcases hg with h1 | h1
  · exact hno b h1 h2
  · have := (hS2 b h2).2
    omega
theorem Two.swap {B r1 r2 : Nat} {st1 st2 : St} {w : World} (h : Two B r1 st1 r2 st2 w) : Two B r2 st2 r1 st1 w := by
  obtain ⟨S1, S2, h1, h2, h3, h4, h5⟩ := h
  exact ⟨S2, S1, h2, h1, fun b x y => h3 b y x, h5, h4⟩
theorem Two.r {B r1 r2 : Nat} {st1 st2 st2' : St} {w : World} {f : FuncId} {args : Array Value} {v : Value} (h : Two B r1 st1 r2 st2 w) (hB : B ≤ w.heap.size)
    (hc : ∀ S p, p.r = r2 → IsD S p st2 w → (∀ b, S b → B ≤ b) → Calls Try.prog f args w fun e w' => e = .returned v ∧ Af S r2 st2' w w') :
    Calls Try.prog f args w fun e w' => e = .returned v ∧ Two B r1 st1 r2 st2' w' ∧ Ov B w w' :=
  (h.swap.l hB hc).mono fun _ _ ⟨h1, h2, h3⟩ => ⟨h1, h2.swap, h3⟩
theorem Two.keep0 {B r1 r2 : Nat} {st1 st2 : St} {w w' : World} (h : Two B r1 st1 r2 st2 w) (hb : But Nothing w w') : Two B r1 st1 r2 st2 w' := by
  obtain ⟨S1, S2, ⟨p1, e1, h1⟩, ⟨p2, e2, h2⟩, h3, h4, h5⟩ := h
  have hz := hb.size
  exact ⟨S1, S2, ⟨p1, e1, h1.kept fun b _ hlt => hb.block b hlt (fun h => h)⟩, ⟨p2, e2, h2.kept fun b _ hlt => hb.block b hlt (fun h => h)⟩, h3, fun b h => ⟨(h4 b h).1, by have := (h4 b h).2; omega⟩, fun b h => ⟨(h5 b h).1, by have := (h5 b h).2; omega⟩⟩
theorem Two.one {B r1 r2 : Nat} {st1 st2 : St} {w : World} (h : Two B r1 st1 r2 st2 w) : One B r1 st1 w := by
  obtain ⟨S1, S2, h1, h2, h3, h4, h5⟩ := h
  exact ⟨S1, h1, h4⟩
theorem One.two {B r1 r2 : Nat} {st1 st2 : St} {w w' : World} (h : One B r1 st1 w) (hg : w.grownBy w' none) (h2 : Disk (fun b => w.heap.size ≤ b ∧ b < w'.heap.size) r2 st2 w') (hB : B ≤ w.heap.size) : Two B r1 st1 r2 st2 w' := by
  obtain ⟨S, ⟨p, hp, hd⟩, hS⟩ := h
  have hz := hg.size
  exact ⟨S, _, ⟨p, hp, hd.grown hg⟩, h2, fun b hb h => by have := (hS b hb).2; omega, fun b hb => ⟨(hS b hb).1, by have := (hS b hb).2; omega⟩, fun b h => ⟨by omega, h.2⟩⟩

/-! ### acts in a later world -/
theorem Ints.off_lt {w : World} {v : Value} {ks : List Int} (h : Ints w v ks) {b : Nat} (hb : Ints.off v b) : b < w.heap.size := by
  obtain ⟨a, cap, rfl, hc, hk⟩ := h
  obtain ⟨o, n, c, e⟩ := hb
  injection e with e1 e2 e3
  rcases hk with rfl | ⟨b', o', rfl, hk⟩
  · simp at e2
  · injection e1 with e1
    injection e1 with e1
    subst e1
    have := hk 0 (by omega)
    exact World.block_lt_of_cell? w _ this
theorem AOk.later {B : Nat} {w w' : World} {v : Ac} (h : AOk w v) (hB : w.heap.size ≤ B) (hb : Ov B w w') : AOk w' v :=
  ⟨h.kb, h.fb, h.nb, h.sb, h.lb, h.ints.kept fun b _ hlt => hb.block b hlt (by omega), h.ib⟩
theorem ACells.later {B : Nat} {w w' : World} {a : Option Addr} {l : List Ac} (h : ACells w a l) (hB : w.heap.size ≤ B) (hb : Ov B w w') : ACells w' a l := by
  rcases h with h | ⟨b, o, rfl, hc⟩
  · exact .inl h
  · refine .inr ⟨b, o, rfl, fun i hi => ⟨fun j v hj => ?_, (hc i hi).2.later hB hb⟩⟩
    have := (hc i hi).1 j v hj
    exact cell_same (hb.block b (World.block_lt_of_cell? w _ this) (by have := World.block_lt_of_cell? w _ this; simp only at this; omega)) _ this

def runs (l : List Ac) (st : St) : St := l.foldl (fun s a => a.run s) st
theorem runs_snoc (l : List Ac) (st : St) (k : Nat) (h : k < l.length) : runs (l.take (k + 1)) st = l[k].run (runs (l.take k) st) := by
  unfold runs
  rw [List.take_succ_eq_append_getElem h, List.foldl_append]
  rfl

theorem do_one {B r : Nat} {st : St} {w w0 : World} (h : One B r st w) (hB : B ≤ w.heap.size) (v : Ac) (hf : fewA v = true) (hv : AOk w0 v) (hw : w0.heap.size ≤ B) (hb : Ov B w0 w) :
    Calls Try.prog 12 #[.pointer (some ⟨r, 0, none⟩), .agg #[.int .i64 v.kd, .int .i64 v.f, .int .i64 v.n, .string v.s, .slice v.ka v.k.length v.kc]] w fun e w' => e = .returned (.int .i64 (v.res st)) ∧ One B r (v.run st) w' ∧ Ov B w w' := by
  obtain ⟨h1, h2, _⟩ := fewA_iff.1 hf
  exact h.l hB fun S p hp hd hS => by
    subst hp
    exact do_any hd v h1 h2 (hv.later hw hb) fun b hb' hs => by have := hv.ints.off_lt hb'; have := hS b hs; omega

theorem after_any {S : Nat → Prop} {p : Rep} {st : St} {w : World} (h : IsD S p st w) (f : Int) (hf : -9223372036854775808 ≤ f ∧ f ≤ 9223372036854775807) (v : Value) (ks : List Int) (hv : Ints w v ks) (hk : ks.length ≤ 1000000000 ∧ ∀ x ∈ ks, -9223372036854775808 ≤ x ∧ x ≤ 9223372036854775807) :
    Calls Try.prog 23 #[.pointer (some ⟨p.r, 0, none⟩), .int .i64 f, v] w fun e w' => e = .returned (.tuple #[.string ⟨(readS (start (crash st ks)) f 0 16777216).toArray⟩, .bool (readR (start (crash st ks)) f 0 16777216 == 0)]) ∧ w.grownBy w' none := by
  have HC := Lib.hid (copy_any h)
  obtain ⟨a, cap, rfl, _⟩ := hv.shape
  have HV := Lib.hid hv
  have HK := Lib.hid hk
  have hz0 : 0 ≤ w.heap.size := Nat.zero_le _
  clear h hv hk
  go_enter Try.func23, Try.ntmps23
  go_wp2_with fail
  refine HC.out.mono ?_
  rintro e w1 ⟨r, rfl, hdk, hg⟩
  have h1 : One w.heap.size r st w1 := ⟨_, hdk, fun b h => h⟩
  have hz1 := hg.size
  have hv1 : Ints w1 (.slice a ks.length cap) ks := HV.out.kept fun b _ hlt => hg.block b hlt (by simp)
  have H2 := Lib.hid (h1.l (f := 25) (args := #[.pointer (some ⟨r, 0, none⟩), .slice a ks.length cap]) (v := .tuple #[]) (st' := crash st ks) hz1 fun S p hp hd hS => by
    subst hp
    exact crash_any hd _ ks hv1 HK.out fun b hb s hs => by
      have := HV.out.off_lt hb
      have := hS b (hd.inS s b hs)
      omega)
  have HG := Lib.hid hg
  clear hdk h1 hv1 hg
  go_wp2_with fail
  refine H2.out.mono ?_
  rintro e w2 ⟨rfl, h2, hb2⟩
  have hz2 : w.heap.size ≤ w2.heap.size := by have := hb2.size; omega
  have H3 := Lib.hid (h2.l (f := 26) (args := #[.pointer (some ⟨r, 0, none⟩)]) (v := .tuple #[]) (st' := start (crash st ks)) hz2 fun S p hp hd hS => by
    subst hp
    exact start_any hd)
  have HB2 := Lib.hid hb2
  clear h2 hb2
  go_wp2_with fail
  refine H3.out.mono ?_
  rintro e w3 ⟨rfl, h3, hb3⟩
  have H4 := Lib.hid (h3.see (f := 20) (args := #[.pointer (some ⟨r, 0, none⟩), .int .i64 f, .int .i64 0, .int .i64 16777216]) (Q := Reads w3 (readS (start (crash st ks)) f 0 16777216) (readR (start (crash st ks)) f 0 16777216)) fun S p hp hd => by
    subst hp
    exact read_any hd f 0 16777216 hf (by omega) (by omega))
  have HB3 := Lib.hid hb3
  clear h3 hb3
  go_wp2_with fail
  refine H4.out.mono ?_
  rintro e w4 ⟨rfl, hb4⟩
  have HFIN : Hid (w.grownBy w4 none) := by
    have hb := ((HB2.out.trans HB3.out).trans (Ov.nothing hb4))
    have hg := HG.out
    refine ⟨hb.os.trans hg.os, hb.tape.trans hg.tape, hb.output.trans hg.output, Nat.le_trans hg.size hb.size, fun k hk hn => ?_⟩
    rw [hb.block k (Nat.lt_of_lt_of_le hk hg.size) (by omega), hg.block k hk hn]
  clear hb4
  go_wp2_with fail
  go_ret2
  exact ⟨rfl, HFIN.out⟩
end Go.Proofs.Ytkphmkhdlkdphaa
