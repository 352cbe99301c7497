/- A disk and the reference's disk side by side. -/
import Derived.Test.YtkphmkhdlkdphaaE15
namespace Go.Proofs.Ytkphmkhdlkdphaa
open Go.RowKit Go.ChangeShapes Go.WideShapes

def RefD (S : Nat → Prop) (r : Nat) (st : St) (w : World) : Prop := ∃ a, Ref S r a w ∧ Rel a st
theorem RefD.kept {S : Nat → Prop} {r : Nat} {st : St} {w w' : World} (h : RefD S r st w) (hg : ∀ b, S b → b < w.heap.size → w'.heap[b]? = w.heap[b]?) : RefD S r st w' := by
  obtain ⟨a, ⟨fv, qv, kv, hri⟩, hr⟩ := h
  exact ⟨a, ⟨fv, qv, kv, hri.kept hg⟩, hr⟩
theorem RefD.apart {S T : Nat → Prop} {r : Nat} {st : St} {w w' : World} (h : RefD S r st w) (hb : But T w w') (ha : ∀ b, S b → ¬ T b) : RefD S r st w' := h.kept fun b hs hlt => hb.block b hlt (ha b hs)

/-- A disk r1 and the reference's disk r2, apart from each other, above B. -/
def PR (B r1 : Nat) (st1 : St) (r2 : Nat) (st2 : St) (w : World) : Prop :=
  ∃ S1 S2, Disk S1 r1 st1 w ∧ RefD S2 r2 st2 w ∧ (∀ b, S1 b → ¬ S2 b) ∧ (∀ b, S1 b → B ≤ b ∧ b < w.heap.size) ∧ ∀ b, S2 b → B ≤ b ∧ b < w.heap.size
theorem PR.kept {B r1 r2 : Nat} {st1 st2 : St} {w w' : World} (h : PR B r1 st1 r2 st2 w) (hg : ∀ b, B ≤ b → b < w.heap.size → w'.heap[b]? = w.heap[b]?) (hz : w.heap.size ≤ w'.heap.size) : PR B r1 st1 r2 st2 w' := by
  obtain ⟨S1, S2, ⟨p, hp, h1⟩, h2, h3, h4, h5⟩ := h
  exact ⟨S1, S2, ⟨p, hp, h1.kept fun b hb hlt => hg b (h4 b hb).1 hlt⟩, h2.kept fun b hb hlt => hg b (h5 b hb).1 hlt, h3, fun b hb => ⟨(h4 b hb).1, by have := (h4 b hb).2; omega⟩, fun b hb => ⟨(h5 b hb).1, by have := (h5 b hb).2; omega⟩⟩
theorem PR.grown {B r1 r2 : Nat} {st1 st2 : St} {w w' : World} (h : PR B r1 st1 r2 st2 w) (hg : w.grownBy w' none) : PR B r1 st1 r2 st2 w' := h.kept (fun b _ hlt => hg.block b hlt (by simp)) hg.size
theorem PR.keep0 {B r1 r2 : Nat} {st1 st2 : St} {w w' : World} (h : PR B r1 st1 r2 st2 w) (hb : But Nothing w w') : PR B r1 st1 r2 st2 w' := h.kept (fun b _ hlt => hb.block b hlt (fun h => h)) hb.size
theorem PR.one {B r1 r2 : Nat} {st1 st2 : St} {w : World} (h : PR B r1 st1 r2 st2 w) : One B r1 st1 w := by
  obtain ⟨S1, S2, h1, h2, h3, h4, h5⟩ := h
  exact ⟨S1, h1, h4⟩
theorem PR.see {B r1 r2 : Nat} {st1 st2 : St} {w : World} {f : FuncId} {args : Array Value} {Q : Ending → World → Prop} (h : PR B r1 st1 r2 st2 w)
    (hc : ∀ S fv qv kv a, RIs S r2 fv qv kv a w → Rel a st2 → Calls Try.prog f args w Q) : Calls Try.prog f args w Q := by
  obtain ⟨S1, S2, h1, ⟨a, ⟨fv, qv, kv, hri⟩, hr⟩, h3, h4, h5⟩ := h
  exact hc S2 fv qv kv a hri hr
theorem PR.l {B r1 r2 : Nat} {st1 st1' st2 : St} {w : World} {f : FuncId} {args : Array Value} {v : Value} (h : PR B r1 st1 r2 st2 w)
    (hc : ∀ S p, p.r = r1 → IsD S p st1 w → (∀ b, S b → B ≤ b) → Calls Try.prog f args w fun e w' => e = .returned v ∧ Af S r1 st1' w w') :
    Calls Try.prog f args w fun e w' => e = .returned v ∧ PR B r1 st1' r2 st2 w' ∧ Ov B w w' := by
  obtain ⟨S1, S2, ⟨p, hp, hd⟩, hd2, hno, hS1, hS2⟩ := h
  have hBr : B ≤ w.heap.size := by have a := (hS1 _ (hd.inS .r _ rfl)); omega
  refine (hc S1 p hp hd fun b hb => (hS1 b hb).1).mono ?_
  rintro e w' ⟨he, hdk, hb⟩
  have hz := hb.size
  refine ⟨he, ⟨_, S2, hdk, hd2.apart hb (fun b h2 h1 => hno b h1 h2), fun b hg h2 => ?_, fun b hg => hg.elim (fun h => ⟨(hS1 b h).1, by have := (hS1 b h).2; omega⟩) fun h => ⟨by omega, h.2⟩, fun b h => ⟨(hS2 b h).1, by have := (hS2 b h).2; omega⟩⟩, hb.mono fun b h => (hS1 b h).1⟩
  rcases hg with h1 | h1
  · exact hno b h1 h2
  · have := (hS2 b h2).2
    omega
theorem PR.r {B r1 r2 : Nat} {st1 st2 st2' : St} {w : World} {f : FuncId} {args : Array Value} {v : Value} (h : PR B r1 st1 r2 st2 w)
    (hc : ∀ S fv qv kv a, RIs S r2 fv qv kv a w → Rel a st2 → (∀ b, S b → B ≤ b) → Calls Try.prog f args w (RPost S r2 st2' w v)) :
    Calls Try.prog f args w fun e w' => e = .returned v ∧ PR B r1 st1 r2 st2' w' ∧ Ov B w w' := by
  obtain ⟨S1, S2, hd, ⟨a, ⟨fv, qv, kv, hri⟩, hr⟩, hno, hS1, hS2⟩ := h
  have hBr : B ≤ w.heap.size := by have a := (hS2 _ hri.sr); omega
  refine (hc S2 fv qv kv a hri hr fun b hb => (hS2 b hb).1).mono ?_
  rintro e w' ⟨he, a', ⟨hrf, hb⟩, hr'⟩
  have hz := hb.size
  refine ⟨he, ⟨S1, _, hd.apart hb (fun b h1 h2 => hno b h1 h2), ⟨a', hrf, hr'⟩, fun b h1 hg => ?_, fun b h => ⟨(hS1 b h).1, by have := (hS1 b h).2; omega⟩, fun b hg => hg.elim (fun h => ⟨(hS2 b h).1, by have := (hS2 b h).2; omega⟩) fun h => ⟨by omega, h.2⟩⟩, hb.mono fun b h => (hS2 b h).1⟩
  rcases hg with h2 | h2
  · exact hno b h1 h2
  · have := (hS1 b h1).2
    omega

/-- .. with a further disk r0 that is apart from both. -/
def Tri (B r0 : Nat) (st0 : St) (r1 : Nat) (st1 : St) (r2 : Nat) (st2 : St) (w : World) : Prop :=
  ∃ S0, Disk S0 r0 st0 w ∧ (∀ b, S0 b → B ≤ b ∧ b < w.heap.size) ∧ ∃ S1 S2, Disk S1 r1 st1 w ∧ RefD S2 r2 st2 w ∧ (∀ b, S1 b → ¬ S2 b) ∧ (∀ b, S1 b → B ≤ b ∧ b < w.heap.size) ∧ (∀ b, S2 b → B ≤ b ∧ b < w.heap.size) ∧ ∀ b, S0 b → ¬ S1 b ∧ ¬ S2 b
theorem Tri.pr {B r0 r1 r2 : Nat} {st0 st1 st2 : St} {w : World} (h : Tri B r0 st0 r1 st1 r2 st2 w) : PR B r1 st1 r2 st2 w := by
  obtain ⟨S0, h0, h0b, S1, S2, h1, h2, h3, h4, h5, h6⟩ := h
  exact ⟨S1, S2, h1, h2, h3, h4, h5⟩
theorem PR.tri {B r0 r1 r2 : Nat} {st1 st2 st3 : St} {w w' : World} (h : PR B r0 st1 r2 st2 w) (hg : w.grownBy w' none) (hc : Disk (fun b => w.heap.size ≤ b ∧ b < w'.heap.size) r1 st3 w') : Tri B r0 st1 r1 st3 r2 st2 w' := by
  obtain ⟨S1, S2, ⟨p, hp, hd⟩, h2, h3, h4, h5⟩ := h
  have hz := hg.size
  have hB : B ≤ w.heap.size := by have a := (h4 _ (hd.inS .r _ rfl)); omega
  exact ⟨S1, ⟨p, hp, hd.grown hg⟩, fun b hb => ⟨(h4 b hb).1, by have := (h4 b hb).2; omega⟩, _, S2, hc, h2.kept fun b _ hlt => hg.block b hlt (by simp), fun b hb h => by have := (h5 b h).2; omega, fun b hb => ⟨by omega, hb.2⟩, fun b hb => ⟨(h5 b hb).1, by have := (h5 b hb).2; omega⟩, fun b hb => ⟨fun h => by have := (h4 b hb).2; omega, h3 b hb⟩⟩
theorem Tri.l {B r0 r1 r2 : Nat} {st0 st0' st1 st2 : St} {w : World} {f : FuncId} {args : Array Value} {v : Value} (h : Tri B r0 st0 r1 st1 r2 st2 w)
    (hc : ∀ S p, p.r = r0 → IsD S p st0 w → (∀ b, S b → B ≤ b) → Calls Try.prog f args w fun e w' => e = .returned v ∧ Af S r0 st0' w w') :
    Calls Try.prog f args w fun e w' => e = .returned v ∧ Tri B r0 st0' r1 st1 r2 st2 w' ∧ Ov B w w' := by
  obtain ⟨S0, ⟨p, hp, hd⟩, h0b, S1, S2, h1, h2, h3, h4, h5, h6⟩ := h
  have hBr : B ≤ w.heap.size := by have a := (h0b _ (hd.inS .r _ rfl)); omega
  refine (hc S0 p hp hd fun b hb => (h0b b hb).1).mono ?_
  rintro e w' ⟨he, hdk, hb⟩
  have hz := hb.size
  refine ⟨he, ⟨_, hdk, fun b hg => hg.elim (fun h => ⟨(h0b b h).1, by have := (h0b b h).2; omega⟩) fun h => ⟨by omega, h.2⟩, S1, S2, h1.apart hb (fun b h1' h0 => (h6 b h0).1 h1'), h2.apart hb (fun b h2' h0 => (h6 b h0).2 h2'), h3, fun b h => ⟨(h4 b h).1, by have := (h4 b h).2; omega⟩, fun b h => ⟨(h5 b h).1, by have := (h5 b h).2; omega⟩, fun b hg => ?_⟩, hb.mono fun b h => (h0b b h).1⟩
  rcases hg with h | h
  · exact h6 b h
  · exact ⟨fun h' => by have := (h4 b h').2; omega, fun h' => by have := (h5 b h').2; omega⟩

/-- An act's cells. -/
def ACell (b o : Nat) (v : Ac) (w : World) : Prop :=
  w.cell? ⟨b, o, none⟩ = some (.int .i64 v.kd) ∧ w.cell? ⟨b, o + 1, none⟩ = some (.int .i64 v.f) ∧ w.cell? ⟨b, o + 2, none⟩ = some (.int .i64 v.n) ∧ w.cell? ⟨b, o + 3, none⟩ = some (.string v.s) ∧ w.cell? ⟨b, o + 4, none⟩ = some (.slice v.ka v.k.length v.kc)
/-- What holds while an act is played on both. -/
structure At (B r1 : Nat) (st1 : St) (r2 : Nat) (st2 : St) (b o : Nat) (v : Ac) (w0 w : World) : Prop where
  pr : PR B r1 st1 r2 st2 w
  ov : Ov B w0 w
  ac : ACell b o v w
theorem At.step {B r1 r1' r2 r2' : Nat} {st1 st2 st1' st2' : St} {b o : Nat} {v : Ac} {w0 w w' : World} (h : At B r1 st1 r2 st2 b o v w0 w) (hp : PR B r1' st1' r2' st2' w') (ho : Ov B w w') (hb : b < B) : At B r1' st1' r2' st2' b o v w0 w' :=
  ⟨hp, h.ov.trans ho, by
    obtain ⟨x0, x1, x2, x3, x4⟩ := h.ac
    have e := ho.block b (World.block_lt_of_cell? w _ x0) (by omega)
    exact ⟨cell_same e _ x0, cell_same e _ x1, cell_same e _ x2, cell_same e _ x3, cell_same e _ x4⟩⟩
theorem At.drew {B r1 r2 : Nat} {st1 st2 : St} {b o : Nat} {v : Ac} {w0 w : World} (h : At B r1 st1 r2 st2 b o v w0 w) : At B r1 st1 r2 st2 b o v w0 w.drew :=
  ⟨h.pr.grown (grown_drew w), h.ov.trans (Ov.grown (grown_drew w)), h.ac⟩
def ActV (v : Ac) : Value := .agg #[.int .i64 v.kd, .int .i64 v.f, .int .i64 v.n, .string v.s, .slice v.ka v.k.length v.kc]
theorem at_do {B r1 r2 : Nat} {st1 st2 : St} {b o : Nat} {v : Ac} {w0 w : World} (h : At B r1 st1 r2 st2 b o v w0 w) (hf : fewA v = true) (hv : AOk w0 v) (hw : w0.heap.size ≤ B) (hb : b < B) :
    Calls Try.prog 12 #[.pointer (some ⟨r1, 0, none⟩), .agg #[.int .i64 v.kd, .int .i64 v.f, .int .i64 v.n, .string v.s, .slice v.ka v.k.length v.kc]] w fun e w' => e = .returned (.int .i64 (v.res st1)) ∧ At B r1 (v.run st1) r2 st2 b o v w0 w' := by
  obtain ⟨h1, h2, _⟩ := fewA_iff.1 hf
  refine (h.pr.l (st1' := v.run st1) (v := .int .i64 (v.res st1)) fun S p hp hd hS => by
    subst hp
    exact do_any hd v h1 h2 (hv.later hw h.ov) fun b hb' hs => by have := hv.ints.off_lt hb'; have := hS b hs; omega).mono ?_
  rintro e w' ⟨he, hp, ho⟩
  exact ⟨he, h.step hp ho hb⟩
theorem at_tell {B r1 r2 : Nat} {st1 st2 : St} {b o : Nat} {v : Ac} {w0 w : World} (h : At B r1 st1 r2 st2 b o v w0 w) (hf : fewA v = true) (hv : AOk w0 v) (hw : w0.heap.size ≤ B) (hb : b < B) :
    Calls Try.prog 13 #[.pointer (some ⟨r2, 0, none⟩), .agg #[.int .i64 v.kd, .int .i64 v.f, .int .i64 v.n, .string v.s, .slice v.ka v.k.length v.kc]] w fun e w' => e = .returned (.int .i64 (v.res st2)) ∧ At B r1 st1 r2 (v.run st2) b o v w0 w' := by
  obtain ⟨h1, h2, _⟩ := fewA_iff.1 hf
  refine (h.pr.r (st2' := v.run st2) (v := .int .i64 (v.res st2)) fun S fv qv kv a hri hr hS =>
    tell_any hri hr v h1 h2 (hv.later hw h.ov) fun b hb' hs => by have := hv.ints.off_lt hb'; have := hS b hs; omega).mono ?_
  rintro e w' ⟨he, hp, ho⟩
  exact ⟨he, h.step hp ho hb⟩
theorem at_down {B r1 r2 : Nat} {st1 st2 : St} {b o : Nat} {v : Ac} {w0 w : World} (h : At B r1 st1 r2 st2 b o v w0 w) {d : Bool} (hd : st1.down = d) : Calls Try.prog 14 #[.pointer (some ⟨r1, 0, none⟩)] w fun e w' => e = .returned (.bool d) ∧ w = w' := down_one h.pr.one hd
theorem at_rdown {B r1 r2 : Nat} {st1 st2 : St} {b o : Nat} {v : Ac} {w0 w : World} (h : At B r1 st1 r2 st2 b o v w0 w) {d : Bool} (hd : st2.down = d) : Calls Try.prog 15 #[.pointer (some ⟨r2, 0, none⟩)] w fun e w' => e = .returned (.bool d) ∧ w = w' :=
  h.pr.see fun S fv qv kv a hri hr => by
    have := rdown_any hri
    rw [hr.down, hd] at this
    exact this
theorem at_size {B r1 r2 : Nat} {st1 st2 : St} {b o : Nat} {v : Ac} {w0 w : World} (h : At B r1 st1 r2 st2 b o v w0 w) (f : Int) (hf : -9223372036854775808 ≤ f ∧ f ≤ 9223372036854775807) {n : Int} (hn : ((st1.now f).length : Int) = n) : Calls Try.prog 16 #[.pointer (some ⟨r1, 0, none⟩), .int .i64 f] w fun e w' => e = .returned (.int .i64 n) ∧ w = w' := size_one h.pr.one f hf hn
theorem at_rsize {B r1 r2 : Nat} {st1 st2 : St} {b o : Nat} {v : Ac} {w0 w : World} (h : At B r1 st1 r2 st2 b o v w0 w) (f : Int) {n : Int} (hn : ((st2.now f).length : Int) = n) (hb : b < B) : Calls Try.prog 17 #[.pointer (some ⟨r2, 0, none⟩), .int .i64 f] w fun e w' => e = .returned (.int .i64 n) ∧ At B r1 st1 r2 st2 b o v w0 w' :=
  h.pr.see fun S fv qv kv a hri hr => by
    refine (rsize_any hri f).mono ?_
    rintro e w' ⟨he, hg⟩
    rw [hr.fl.nowsz, hn] at he
    exact ⟨he, h.step (h.pr.grown hg) (Ov.grown hg) hb⟩
end Go.Proofs.Ytkphmkhdlkdphaa
