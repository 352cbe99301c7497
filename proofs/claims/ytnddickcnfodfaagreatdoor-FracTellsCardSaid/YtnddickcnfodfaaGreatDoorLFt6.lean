/- FracTells: program and reference give the same, for arguments that are valid or not. WRITTEN by frac/gen_ft.py. -/
import Derived.Test.YtnddickcnfodfaaGreatDoorLFt5
set_option maxRecDepth 100000
namespace Go.Proofs.YtnddickcnfodfaaGreatDoor.Bi
open Go.RowKit

/-- A value that lies in no old block in which none of those of A lies. -/
def Far (A : List Value) (B : Nat) (v : Value) : Prop := ∀ g, g < B → (∀ x ∈ A, Off x g) → Off v g
theorem Fresh.far {B : Nat} {v : Value} (h : Fresh B v) (A : List Value) : Far A B v := fun g hg _ => h g hg
theorem far_mem {A : List Value} {v : Value} (h : v ∈ A) (B : Nat) : Far A B v := fun _ _ hA => hA v h
/-- A call that returns a fraction, valid or not, and a code. -/
def FG (A : List Value) (s : Int) (l : List Int) (t : Int) (k : List Int) (er : Int) (w : World) (e : Ending) (w' : World) : Prop :=
  ∃ a n c b m d, e = .returned (.tuple #[.agg #[.int .i64 s, .slice a n c, .int .i64 t, .slice b m d], .int .i64 er]) ∧ Ints w' (.slice a n c) l ∧ Ints w' (.slice b m d) k ∧ RowKit.Below w.heap.size w w' ∧ Far A w.heap.size (.slice a n c) ∧ Far A w.heap.size (.slice b m d)
/-- .. without a code. -/
def FG1 (A : List Value) (s : Int) (l : List Int) (t : Int) (k : List Int) (w : World) (e : Ending) (w' : World) : Prop :=
  ∃ a n c b m d, e = .returned (.agg #[.int .i64 s, .slice a n c, .int .i64 t, .slice b m d]) ∧ Ints w' (.slice a n c) l ∧ Ints w' (.slice b m d) k ∧ RowKit.Below w.heap.size w w' ∧ Far A w.heap.size (.slice a n c) ∧ Far A w.heap.size (.slice b m d)
theorem FVE.fg {r : Rat} {er : Int} {w w' : World} {e : Ending} (h : FVE r er w e w') (A : List Value) : FG A r.num.sign (digs r.num.natAbs) 1 (digs (r.den : Int).natAbs) er w e w' := by
  obtain ⟨s, a, n, c, b, m, d, rfl, hr, hb, hf, hg⟩ := h
  obtain rfl := hr.1.1
  exact ⟨a, n, c, b, m, d, rfl, hr.1.2, hr.2.2, hb, hf.far A, hg.far A⟩
theorem FV.fg {r : Rat} {w w' : World} {e : Ending} (h : FV r w e w') (A : List Value) : FG1 A r.num.sign (digs r.num.natAbs) 1 (digs (r.den : Int).natAbs) w e w' := by
  obtain ⟨s, a, n, c, b, m, d, rfl, hr, hb, hf, hg⟩ := h
  obtain rfl := hr.1.1
  exact ⟨a, n, c, b, m, d, rfl, hr.1.2, hr.2.2, hb, hf.far A, hg.far A⟩
theorem fresh_nil (B : Nat) : Fresh B (.slice none 0 0) := fun g _ => off_nil g 0 0
theorem FZE.fg {er : Int} {w w' : World} {e : Ending} (h : FZE er w e w') (A : List Value) : FG A 0 [] 0 [] er w e w' :=
  ⟨none, 0, 0, none, 0, 0, h.1, Ints.nil _, Ints.nil _, h.2, (fresh_nil _).far A, (fresh_nil _).far A⟩
theorem zero_fg {w w' : World} {e : Ending} (h : e = .returned (.agg #[.int .i64 0, .slice none 0 0, .int .i64 0, .slice none 0 0]) ∧ RowKit.Below w.heap.size w w') (A : List Value) : FG1 A 0 [] 0 [] w e w' :=
  ⟨none, 0, 0, none, 0, 0, h.1, Ints.nil _, Ints.nil _, h.2, (fresh_nil _).far A, (fresh_nil _).far A⟩
theorem zero_bv {w w' : World} {e : Ending} (h : e = .returned (.agg #[.int .i64 0, .slice none 0 0]) ∧ RowKit.Below w.heap.size w w') : BV 0 w e w' :=
  ⟨0, none, 0, 0, h.1, num_nil w', h.2, fresh_nil _⟩
theorem rmin_le {x y : Rat} (h : cmpR x y ≤ 0) : rmin x y = x := by
  unfold rmin; rw [if_neg (fun h2 => by have := cmpR_gt.2 h2; omega)]
theorem rmin_gt {x y : Rat} (h : 0 < cmpR x y) : rmin x y = y := by
  unfold rmin; rw [if_pos (cmpR_gt.1 (by have := cmpR_bd x y; omega))]
theorem rmax_ge {x y : Rat} (h : 0 ≤ cmpR x y) : rmax x y = x := by
  unfold rmax; rw [if_neg (fun h2 => by have := cmpR_lt.2 h2; omega)]
theorem rmax_lt {x y : Rat} (h : cmpR x y < 0) : rmax x y = y := by
  unfold rmax; rw [if_pos (cmpR_lt.1 (by have := cmpR_bd x y; omega))]

theorem fadd_pair (sa : Int) (aa : Option Addr) (na ca : Nat) (la : List Int) (ta : Int) (ba : Option Addr) (ma da : Nat) (ka : List Int) (sb : Int) (ab : Option Addr) (nb cb : Nat) (lb : List Int) (tb : Int) (bb : Option Addr) (mb db : Nat) (kb : List Int) (ua : la.length ≤ 40) (va : ka.length ≤ 40) (ub : lb.length ≤ 40) (vb : kb.length ≤ 40) : ∃ (s : Int) (l : List Int) (t : Int) (k : List Int) (er : Int), ∀ w, Ints w (.slice aa na ca) la → Ints w (.slice ba ma da) ka → Ints w (.slice ab nb cb) lb → Ints w (.slice bb mb db) kb →
    Calls Tryz.prog 6 #[.agg #[.int .i64 sa, .slice aa na ca, .int .i64 ta, .slice ba ma da], .agg #[.int .i64 sb, .slice ab nb cb, .int .i64 tb, .slice bb mb db]] w (FG [.slice aa na ca, .slice ba ma da, .slice ab nb cb, .slice bb mb db] s l t k er w) ∧ Calls Tryz.prog 7 #[.agg #[.int .i64 sa, .slice aa na ca, .int .i64 ta, .slice ba ma da], .agg #[.int .i64 sb, .slice ab nb cb, .int .i64 tb, .slice bb mb db]] w (FG [.slice aa na ca, .slice ba ma da, .slice ab nb cb, .slice bb mb db] s l t k er w) := by
  rcases ea : fRightB sa la ta ka with _ | _
  · exact ⟨0, [], 0, [], 1, fun w ha ga hb gb => ⟨(fadd_bad sa aa na ca la ta ba ma da ka sb ab nb cb lb tb bb mb db kb w ha ga (Nat.le_trans ua (by omega)) (Nat.le_trans va (by omega)) hb gb (Nat.le_trans ub (by omega)) (Nat.le_trans vb (by omega)) (by rw [ea]; rfl)).mono fun _ _ h => h.fg _, (rfadd_bad sa aa na ca la ta ba ma da ka sb ab nb cb lb tb bb mb db kb w ha ga (Nat.le_trans ua (by omega)) (Nat.le_trans va (by omega)) hb gb (Nat.le_trans ub (by omega)) (Nat.le_trans vb (by omega)) (by rw [ea]; rfl)).mono fun _ _ h => h.fg _⟩⟩
  rcases eb : fRightB sb lb tb kb with _ | _
  · exact ⟨0, [], 0, [], 1, fun w ha ga hb gb => ⟨(fadd_bad sa aa na ca la ta ba ma da ka sb ab nb cb lb tb bb mb db kb w ha ga (Nat.le_trans ua (by omega)) (Nat.le_trans va (by omega)) hb gb (Nat.le_trans ub (by omega)) (Nat.le_trans vb (by omega)) (by rw [ea, eb]; rfl)).mono fun _ _ h => h.fg _, (rfadd_bad sa aa na ca la ta ba ma da ka sb ab nb cb lb tb bb mb db kb w ha ga (Nat.le_trans ua (by omega)) (Nat.le_trans va (by omega)) hb gb (Nat.le_trans ub (by omega)) (Nat.le_trans vb (by omega)) (by rw [ea, eb]; rfl)).mono fun _ _ h => h.fg _⟩⟩
  obtain ⟨x, rfl, rfl, rfl, rfl⟩ := fright_of ea
  obtain ⟨y, rfl, rfl, rfl, rfl⟩ := fright_of eb
  have X : FSz 1000 x := FSz.mono ⟨Sz.of ua, Sz.of va⟩
  have Y : FSz 1000 y := FSz.mono ⟨Sz.of ub, Sz.of vb⟩
  exact ⟨_, _, _, _, 0, fun w ha ga hb gb => ⟨(fadd_k ⟨⟨rfl, ha⟩, ⟨(den_sign x).symm, ga⟩⟩ ⟨⟨rfl, hb⟩, ⟨(den_sign y).symm, gb⟩⟩ X Y).mono fun _ _ h => h.fg _, (rfadd_k ⟨⟨rfl, ha⟩, ⟨(den_sign x).symm, ga⟩⟩ ⟨⟨rfl, hb⟩, ⟨(den_sign y).symm, gb⟩⟩ X Y).mono fun _ _ h => h.fg _⟩⟩

theorem fsub_pair (sa : Int) (aa : Option Addr) (na ca : Nat) (la : List Int) (ta : Int) (ba : Option Addr) (ma da : Nat) (ka : List Int) (sb : Int) (ab : Option Addr) (nb cb : Nat) (lb : List Int) (tb : Int) (bb : Option Addr) (mb db : Nat) (kb : List Int) (ua : la.length ≤ 40) (va : ka.length ≤ 40) (ub : lb.length ≤ 40) (vb : kb.length ≤ 40) : ∃ (s : Int) (l : List Int) (t : Int) (k : List Int) (er : Int), ∀ w, Ints w (.slice aa na ca) la → Ints w (.slice ba ma da) ka → Ints w (.slice ab nb cb) lb → Ints w (.slice bb mb db) kb →
    Calls Tryz.prog 8 #[.agg #[.int .i64 sa, .slice aa na ca, .int .i64 ta, .slice ba ma da], .agg #[.int .i64 sb, .slice ab nb cb, .int .i64 tb, .slice bb mb db]] w (FG [.slice aa na ca, .slice ba ma da, .slice ab nb cb, .slice bb mb db] s l t k er w) ∧ Calls Tryz.prog 9 #[.agg #[.int .i64 sa, .slice aa na ca, .int .i64 ta, .slice ba ma da], .agg #[.int .i64 sb, .slice ab nb cb, .int .i64 tb, .slice bb mb db]] w (FG [.slice aa na ca, .slice ba ma da, .slice ab nb cb, .slice bb mb db] s l t k er w) := by
  rcases ea : fRightB sa la ta ka with _ | _
  · exact ⟨0, [], 0, [], 1, fun w ha ga hb gb => ⟨(fsub_bad sa aa na ca la ta ba ma da ka sb ab nb cb lb tb bb mb db kb w ha ga (Nat.le_trans ua (by omega)) (Nat.le_trans va (by omega)) hb gb (Nat.le_trans ub (by omega)) (Nat.le_trans vb (by omega)) (by rw [ea]; rfl)).mono fun _ _ h => h.fg _, (rfsub_bad sa aa na ca la ta ba ma da ka sb ab nb cb lb tb bb mb db kb w ha ga (Nat.le_trans ua (by omega)) (Nat.le_trans va (by omega)) hb gb (Nat.le_trans ub (by omega)) (Nat.le_trans vb (by omega)) (by rw [ea]; rfl)).mono fun _ _ h => h.fg _⟩⟩
  rcases eb : fRightB sb lb tb kb with _ | _
  · exact ⟨0, [], 0, [], 1, fun w ha ga hb gb => ⟨(fsub_bad sa aa na ca la ta ba ma da ka sb ab nb cb lb tb bb mb db kb w ha ga (Nat.le_trans ua (by omega)) (Nat.le_trans va (by omega)) hb gb (Nat.le_trans ub (by omega)) (Nat.le_trans vb (by omega)) (by rw [ea, eb]; rfl)).mono fun _ _ h => h.fg _, (rfsub_bad sa aa na ca la ta ba ma da ka sb ab nb cb lb tb bb mb db kb w ha ga (Nat.le_trans ua (by omega)) (Nat.le_trans va (by omega)) hb gb (Nat.le_trans ub (by omega)) (Nat.le_trans vb (by omega)) (by rw [ea, eb]; rfl)).mono fun _ _ h => h.fg _⟩⟩
  obtain ⟨x, rfl, rfl, rfl, rfl⟩ := fright_of ea
  obtain ⟨y, rfl, rfl, rfl, rfl⟩ := fright_of eb
  have X : FSz 1000 x := FSz.mono ⟨Sz.of ua, Sz.of va⟩
  have Y : FSz 1000 y := FSz.mono ⟨Sz.of ub, Sz.of vb⟩
  exact ⟨_, _, _, _, 0, fun w ha ga hb gb => ⟨(fsub_k ⟨⟨rfl, ha⟩, ⟨(den_sign x).symm, ga⟩⟩ ⟨⟨rfl, hb⟩, ⟨(den_sign y).symm, gb⟩⟩ X Y).mono fun _ _ h => h.fg _, (rfsub_k ⟨⟨rfl, ha⟩, ⟨(den_sign x).symm, ga⟩⟩ ⟨⟨rfl, hb⟩, ⟨(den_sign y).symm, gb⟩⟩ X Y).mono fun _ _ h => h.fg _⟩⟩

theorem fmul_pair (sa : Int) (aa : Option Addr) (na ca : Nat) (la : List Int) (ta : Int) (ba : Option Addr) (ma da : Nat) (ka : List Int) (sb : Int) (ab : Option Addr) (nb cb : Nat) (lb : List Int) (tb : Int) (bb : Option Addr) (mb db : Nat) (kb : List Int) (ua : la.length ≤ 40) (va : ka.length ≤ 40) (ub : lb.length ≤ 40) (vb : kb.length ≤ 40) : ∃ (s : Int) (l : List Int) (t : Int) (k : List Int) (er : Int), ∀ w, Ints w (.slice aa na ca) la → Ints w (.slice ba ma da) ka → Ints w (.slice ab nb cb) lb → Ints w (.slice bb mb db) kb →
    Calls Tryz.prog 11 #[.agg #[.int .i64 sa, .slice aa na ca, .int .i64 ta, .slice ba ma da], .agg #[.int .i64 sb, .slice ab nb cb, .int .i64 tb, .slice bb mb db]] w (FG [.slice aa na ca, .slice ba ma da, .slice ab nb cb, .slice bb mb db] s l t k er w) ∧ Calls Tryz.prog 12 #[.agg #[.int .i64 sa, .slice aa na ca, .int .i64 ta, .slice ba ma da], .agg #[.int .i64 sb, .slice ab nb cb, .int .i64 tb, .slice bb mb db]] w (FG [.slice aa na ca, .slice ba ma da, .slice ab nb cb, .slice bb mb db] s l t k er w) := by
  rcases ea : fRightB sa la ta ka with _ | _
  · exact ⟨0, [], 0, [], 1, fun w ha ga hb gb => ⟨(fmul_bad sa aa na ca la ta ba ma da ka sb ab nb cb lb tb bb mb db kb w ha ga (Nat.le_trans ua (by omega)) (Nat.le_trans va (by omega)) hb gb (Nat.le_trans ub (by omega)) (Nat.le_trans vb (by omega)) (by rw [ea]; rfl)).mono fun _ _ h => h.fg _, (rfmul_bad sa aa na ca la ta ba ma da ka sb ab nb cb lb tb bb mb db kb w ha ga (Nat.le_trans ua (by omega)) (Nat.le_trans va (by omega)) hb gb (Nat.le_trans ub (by omega)) (Nat.le_trans vb (by omega)) (by rw [ea]; rfl)).mono fun _ _ h => h.fg _⟩⟩
  rcases eb : fRightB sb lb tb kb with _ | _
  · exact ⟨0, [], 0, [], 1, fun w ha ga hb gb => ⟨(fmul_bad sa aa na ca la ta ba ma da ka sb ab nb cb lb tb bb mb db kb w ha ga (Nat.le_trans ua (by omega)) (Nat.le_trans va (by omega)) hb gb (Nat.le_trans ub (by omega)) (Nat.le_trans vb (by omega)) (by rw [ea, eb]; rfl)).mono fun _ _ h => h.fg _, (rfmul_bad sa aa na ca la ta ba ma da ka sb ab nb cb lb tb bb mb db kb w ha ga (Nat.le_trans ua (by omega)) (Nat.le_trans va (by omega)) hb gb (Nat.le_trans ub (by omega)) (Nat.le_trans vb (by omega)) (by rw [ea, eb]; rfl)).mono fun _ _ h => h.fg _⟩⟩
  obtain ⟨x, rfl, rfl, rfl, rfl⟩ := fright_of ea
  obtain ⟨y, rfl, rfl, rfl, rfl⟩ := fright_of eb
  have X : FSz 1000 x := FSz.mono ⟨Sz.of ua, Sz.of va⟩
  have Y : FSz 1000 y := FSz.mono ⟨Sz.of ub, Sz.of vb⟩
  exact ⟨_, _, _, _, 0, fun w ha ga hb gb => ⟨(fmul_k ⟨⟨rfl, ha⟩, ⟨(den_sign x).symm, ga⟩⟩ ⟨⟨rfl, hb⟩, ⟨(den_sign y).symm, gb⟩⟩ X Y).mono fun _ _ h => h.fg _, (rfmul_k ⟨⟨rfl, ha⟩, ⟨(den_sign x).symm, ga⟩⟩ ⟨⟨rfl, hb⟩, ⟨(den_sign y).symm, gb⟩⟩ X Y).mono fun _ _ h => h.fg _⟩⟩

theorem fdiv_pair (sa : Int) (aa : Option Addr) (na ca : Nat) (la : List Int) (ta : Int) (ba : Option Addr) (ma da : Nat) (ka : List Int) (sb : Int) (ab : Option Addr) (nb cb : Nat) (lb : List Int) (tb : Int) (bb : Option Addr) (mb db : Nat) (kb : List Int) (ua : la.length ≤ 40) (va : ka.length ≤ 40) (ub : lb.length ≤ 40) (vb : kb.length ≤ 40) : ∃ (s : Int) (l : List Int) (t : Int) (k : List Int) (er : Int), ∀ w, Ints w (.slice aa na ca) la → Ints w (.slice ba ma da) ka → Ints w (.slice ab nb cb) lb → Ints w (.slice bb mb db) kb →
    Calls Tryz.prog 13 #[.agg #[.int .i64 sa, .slice aa na ca, .int .i64 ta, .slice ba ma da], .agg #[.int .i64 sb, .slice ab nb cb, .int .i64 tb, .slice bb mb db]] w (FG [.slice aa na ca, .slice ba ma da, .slice ab nb cb, .slice bb mb db] s l t k er w) ∧ Calls Tryz.prog 14 #[.agg #[.int .i64 sa, .slice aa na ca, .int .i64 ta, .slice ba ma da], .agg #[.int .i64 sb, .slice ab nb cb, .int .i64 tb, .slice bb mb db]] w (FG [.slice aa na ca, .slice ba ma da, .slice ab nb cb, .slice bb mb db] s l t k er w) := by
  rcases ea : fRightB sa la ta ka with _ | _
  · exact ⟨0, [], 0, [], 1, fun w ha ga hb gb => ⟨(fdiv_bad sa aa na ca la ta ba ma da ka sb ab nb cb lb tb bb mb db kb w ha ga (Nat.le_trans ua (by omega)) (Nat.le_trans va (by omega)) hb gb (Nat.le_trans ub (by omega)) (Nat.le_trans vb (by omega)) (by rw [ea]; rfl)).mono fun _ _ h => h.fg _, (rfdiv_bad sa aa na ca la ta ba ma da ka sb ab nb cb lb tb bb mb db kb w ha ga (Nat.le_trans ua (by omega)) (Nat.le_trans va (by omega)) hb gb (Nat.le_trans ub (by omega)) (Nat.le_trans vb (by omega)) (by rw [ea]; rfl)).mono fun _ _ h => h.fg _⟩⟩
  rcases eb : fRightB sb lb tb kb with _ | _
  · exact ⟨0, [], 0, [], 1, fun w ha ga hb gb => ⟨(fdiv_bad sa aa na ca la ta ba ma da ka sb ab nb cb lb tb bb mb db kb w ha ga (Nat.le_trans ua (by omega)) (Nat.le_trans va (by omega)) hb gb (Nat.le_trans ub (by omega)) (Nat.le_trans vb (by omega)) (by rw [ea, eb]; rfl)).mono fun _ _ h => h.fg _, (rfdiv_bad sa aa na ca la ta ba ma da ka sb ab nb cb lb tb bb mb db kb w ha ga (Nat.le_trans ua (by omega)) (Nat.le_trans va (by omega)) hb gb (Nat.le_trans ub (by omega)) (Nat.le_trans vb (by omega)) (by rw [ea, eb]; rfl)).mono fun _ _ h => h.fg _⟩⟩
  obtain ⟨x, rfl, rfl, rfl, rfl⟩ := fright_of ea
  obtain ⟨y, rfl, rfl, rfl, rfl⟩ := fright_of eb
  have X : FSz 1000 x := FSz.mono ⟨Sz.of ua, Sz.of va⟩
  have Y : FSz 1000 y := FSz.mono ⟨Sz.of ub, Sz.of vb⟩
  by_cases h0 : y = 0
  · exact ⟨_, _, _, _, 15, fun w ha ga hb gb => ⟨(fdiv_zero ⟨⟨rfl, ha⟩, ⟨(den_sign x).symm, ga⟩⟩ ⟨⟨rfl, hb⟩, ⟨(den_sign y).symm, gb⟩⟩ X Y h0).mono fun _ _ h => h.fg _, (rfdiv_zero ⟨⟨rfl, ha⟩, ⟨(den_sign x).symm, ga⟩⟩ ⟨⟨rfl, hb⟩, ⟨(den_sign y).symm, gb⟩⟩ X Y h0).mono fun _ _ h => h.fg _⟩⟩
  · exact ⟨_, _, _, _, 0, fun w ha ga hb gb => ⟨(fdiv_k ⟨⟨rfl, ha⟩, ⟨(den_sign x).symm, ga⟩⟩ ⟨⟨rfl, hb⟩, ⟨(den_sign y).symm, gb⟩⟩ X Y h0).mono fun _ _ h => h.fg _, (rfdiv_k ⟨⟨rfl, ha⟩, ⟨(den_sign x).symm, ga⟩⟩ ⟨⟨rfl, hb⟩, ⟨(den_sign y).symm, gb⟩⟩ X Y h0).mono fun _ _ h => h.fg _⟩⟩

theorem fmin_pair (sa : Int) (aa : Option Addr) (na ca : Nat) (la : List Int) (ta : Int) (ba : Option Addr) (ma da : Nat) (ka : List Int) (sb : Int) (ab : Option Addr) (nb cb : Nat) (lb : List Int) (tb : Int) (bb : Option Addr) (mb db : Nat) (kb : List Int) (ua : la.length ≤ 40) (va : ka.length ≤ 40) (ub : lb.length ≤ 40) (vb : kb.length ≤ 40) : ∃ (s : Int) (l : List Int) (t : Int) (k : List Int) (er : Int), ∀ w, Ints w (.slice aa na ca) la → Ints w (.slice ba ma da) ka → Ints w (.slice ab nb cb) lb → Ints w (.slice bb mb db) kb →
    Calls Tryz.prog 26 #[.agg #[.int .i64 sa, .slice aa na ca, .int .i64 ta, .slice ba ma da], .agg #[.int .i64 sb, .slice ab nb cb, .int .i64 tb, .slice bb mb db]] w (FG [.slice aa na ca, .slice ba ma da, .slice ab nb cb, .slice bb mb db] s l t k er w) ∧ Calls Tryz.prog 27 #[.agg #[.int .i64 sa, .slice aa na ca, .int .i64 ta, .slice ba ma da], .agg #[.int .i64 sb, .slice ab nb cb, .int .i64 tb, .slice bb mb db]] w (FG [.slice aa na ca, .slice ba ma da, .slice ab nb cb, .slice bb mb db] s l t k er w) := by
  rcases ea : fRightB sa la ta ka with _ | _
  · exact ⟨0, [], 0, [], 1, fun w ha ga hb gb => ⟨(fmin_bad sa aa na ca la ta ba ma da ka sb ab nb cb lb tb bb mb db kb w ha ga (Nat.le_trans ua (by omega)) (Nat.le_trans va (by omega)) hb gb (Nat.le_trans ub (by omega)) (Nat.le_trans vb (by omega)) (by rw [ea]; rfl)).mono fun _ _ h => h.fg _, (rfmin_bad sa aa na ca la ta ba ma da ka sb ab nb cb lb tb bb mb db kb w ha ga (Nat.le_trans ua (by omega)) (Nat.le_trans va (by omega)) hb gb (Nat.le_trans ub (by omega)) (Nat.le_trans vb (by omega)) (by rw [ea]; rfl)).mono fun _ _ h => h.fg _⟩⟩
  rcases eb : fRightB sb lb tb kb with _ | _
  · exact ⟨0, [], 0, [], 1, fun w ha ga hb gb => ⟨(fmin_bad sa aa na ca la ta ba ma da ka sb ab nb cb lb tb bb mb db kb w ha ga (Nat.le_trans ua (by omega)) (Nat.le_trans va (by omega)) hb gb (Nat.le_trans ub (by omega)) (Nat.le_trans vb (by omega)) (by rw [ea, eb]; rfl)).mono fun _ _ h => h.fg _, (rfmin_bad sa aa na ca la ta ba ma da ka sb ab nb cb lb tb bb mb db kb w ha ga (Nat.le_trans ua (by omega)) (Nat.le_trans va (by omega)) hb gb (Nat.le_trans ub (by omega)) (Nat.le_trans vb (by omega)) (by rw [ea, eb]; rfl)).mono fun _ _ h => h.fg _⟩⟩
  obtain ⟨x, rfl, rfl, rfl, rfl⟩ := fright_of ea
  obtain ⟨y, rfl, rfl, rfl, rfl⟩ := fright_of eb
  have X : FSz 1000 x := FSz.mono ⟨Sz.of ua, Sz.of va⟩
  have Y : FSz 1000 y := FSz.mono ⟨Sz.of ub, Sz.of vb⟩
  by_cases h0 : cmpR x y ≤ 0
  · exact ⟨_, _, _, _, 0, fun w ha ga hb gb => ⟨(fmin_r ⟨⟨rfl, ha⟩, ⟨(den_sign x).symm, ga⟩⟩ ⟨⟨rfl, hb⟩, ⟨(den_sign y).symm, gb⟩⟩ X Y (rmin_le h0)).mono fun _ _ h => h.fg _, (rfmin_a ⟨⟨rfl, ha⟩, ⟨(den_sign x).symm, ga⟩⟩ ⟨⟨rfl, hb⟩, ⟨(den_sign y).symm, gb⟩⟩ X Y h0).mono (fun e w' h => ⟨_, _, _, _, _, _, h.1, ha.later h.2, ga.later h.2, h.2, far_mem List.mem_cons_self _, far_mem (List.mem_cons_of_mem _ List.mem_cons_self) _⟩)⟩⟩
  · exact ⟨_, _, _, _, 0, fun w ha ga hb gb => ⟨(fmin_r ⟨⟨rfl, ha⟩, ⟨(den_sign x).symm, ga⟩⟩ ⟨⟨rfl, hb⟩, ⟨(den_sign y).symm, gb⟩⟩ X Y (rmin_gt (by omega))).mono fun _ _ h => h.fg _, (rfmin_b ⟨⟨rfl, ha⟩, ⟨(den_sign x).symm, ga⟩⟩ ⟨⟨rfl, hb⟩, ⟨(den_sign y).symm, gb⟩⟩ X Y (by omega)).mono (fun e w' h => ⟨_, _, _, _, _, _, h.1, hb.later h.2, gb.later h.2, h.2, far_mem (List.mem_cons_of_mem _ (List.mem_cons_of_mem _ List.mem_cons_self)) _, far_mem (List.mem_cons_of_mem _ (List.mem_cons_of_mem _ (List.mem_cons_of_mem _ List.mem_cons_self))) _⟩)⟩⟩

theorem fmax_pair (sa : Int) (aa : Option Addr) (na ca : Nat) (la : List Int) (ta : Int) (ba : Option Addr) (ma da : Nat) (ka : List Int) (sb : Int) (ab : Option Addr) (nb cb : Nat) (lb : List Int) (tb : Int) (bb : Option Addr) (mb db : Nat) (kb : List Int) (ua : la.length ≤ 40) (va : ka.length ≤ 40) (ub : lb.length ≤ 40) (vb : kb.length ≤ 40) : ∃ (s : Int) (l : List Int) (t : Int) (k : List Int) (er : Int), ∀ w, Ints w (.slice aa na ca) la → Ints w (.slice ba ma da) ka → Ints w (.slice ab nb cb) lb → Ints w (.slice bb mb db) kb →
    Calls Tryz.prog 28 #[.agg #[.int .i64 sa, .slice aa na ca, .int .i64 ta, .slice ba ma da], .agg #[.int .i64 sb, .slice ab nb cb, .int .i64 tb, .slice bb mb db]] w (FG [.slice aa na ca, .slice ba ma da, .slice ab nb cb, .slice bb mb db] s l t k er w) ∧ Calls Tryz.prog 29 #[.agg #[.int .i64 sa, .slice aa na ca, .int .i64 ta, .slice ba ma da], .agg #[.int .i64 sb, .slice ab nb cb, .int .i64 tb, .slice bb mb db]] w (FG [.slice aa na ca, .slice ba ma da, .slice ab nb cb, .slice bb mb db] s l t k er w) := by
  rcases ea : fRightB sa la ta ka with _ | _
  · exact ⟨0, [], 0, [], 1, fun w ha ga hb gb => ⟨(fmax_bad sa aa na ca la ta ba ma da ka sb ab nb cb lb tb bb mb db kb w ha ga (Nat.le_trans ua (by omega)) (Nat.le_trans va (by omega)) hb gb (Nat.le_trans ub (by omega)) (Nat.le_trans vb (by omega)) (by rw [ea]; rfl)).mono fun _ _ h => h.fg _, (rfmax_bad sa aa na ca la ta ba ma da ka sb ab nb cb lb tb bb mb db kb w ha ga (Nat.le_trans ua (by omega)) (Nat.le_trans va (by omega)) hb gb (Nat.le_trans ub (by omega)) (Nat.le_trans vb (by omega)) (by rw [ea]; rfl)).mono fun _ _ h => h.fg _⟩⟩
  rcases eb : fRightB sb lb tb kb with _ | _
  · exact ⟨0, [], 0, [], 1, fun w ha ga hb gb => ⟨(fmax_bad sa aa na ca la ta ba ma da ka sb ab nb cb lb tb bb mb db kb w ha ga (Nat.le_trans ua (by omega)) (Nat.le_trans va (by omega)) hb gb (Nat.le_trans ub (by omega)) (Nat.le_trans vb (by omega)) (by rw [ea, eb]; rfl)).mono fun _ _ h => h.fg _, (rfmax_bad sa aa na ca la ta ba ma da ka sb ab nb cb lb tb bb mb db kb w ha ga (Nat.le_trans ua (by omega)) (Nat.le_trans va (by omega)) hb gb (Nat.le_trans ub (by omega)) (Nat.le_trans vb (by omega)) (by rw [ea, eb]; rfl)).mono fun _ _ h => h.fg _⟩⟩
  obtain ⟨x, rfl, rfl, rfl, rfl⟩ := fright_of ea
  obtain ⟨y, rfl, rfl, rfl, rfl⟩ := fright_of eb
  have X : FSz 1000 x := FSz.mono ⟨Sz.of ua, Sz.of va⟩
  have Y : FSz 1000 y := FSz.mono ⟨Sz.of ub, Sz.of vb⟩
  by_cases h0 : 0 ≤ cmpR x y
  · exact ⟨_, _, _, _, 0, fun w ha ga hb gb => ⟨(fmax_r ⟨⟨rfl, ha⟩, ⟨(den_sign x).symm, ga⟩⟩ ⟨⟨rfl, hb⟩, ⟨(den_sign y).symm, gb⟩⟩ X Y (rmax_ge h0)).mono fun _ _ h => h.fg _, (rfmax_a ⟨⟨rfl, ha⟩, ⟨(den_sign x).symm, ga⟩⟩ ⟨⟨rfl, hb⟩, ⟨(den_sign y).symm, gb⟩⟩ X Y h0).mono (fun e w' h => ⟨_, _, _, _, _, _, h.1, ha.later h.2, ga.later h.2, h.2, far_mem List.mem_cons_self _, far_mem (List.mem_cons_of_mem _ List.mem_cons_self) _⟩)⟩⟩
  · exact ⟨_, _, _, _, 0, fun w ha ga hb gb => ⟨(fmax_r ⟨⟨rfl, ha⟩, ⟨(den_sign x).symm, ga⟩⟩ ⟨⟨rfl, hb⟩, ⟨(den_sign y).symm, gb⟩⟩ X Y (rmax_lt (by omega))).mono fun _ _ h => h.fg _, (rfmax_b ⟨⟨rfl, ha⟩, ⟨(den_sign x).symm, ga⟩⟩ ⟨⟨rfl, hb⟩, ⟨(den_sign y).symm, gb⟩⟩ X Y (by omega)).mono (fun e w' h => ⟨_, _, _, _, _, _, h.1, hb.later h.2, gb.later h.2, h.2, far_mem (List.mem_cons_of_mem _ (List.mem_cons_of_mem _ List.mem_cons_self)) _, far_mem (List.mem_cons_of_mem _ (List.mem_cons_of_mem _ (List.mem_cons_of_mem _ List.mem_cons_self))) _⟩)⟩⟩

theorem fcmp_pair (sa : Int) (aa : Option Addr) (na ca : Nat) (la : List Int) (ta : Int) (ba : Option Addr) (ma da : Nat) (ka : List Int) (sb : Int) (ab : Option Addr) (nb cb : Nat) (lb : List Int) (tb : Int) (bb : Option Addr) (mb db : Nat) (kb : List Int) (ua : la.length ≤ 40) (va : ka.length ≤ 40) (ub : lb.length ≤ 40) (vb : kb.length ≤ 40) : ∃ c : Int, ∀ w, Ints w (.slice aa na ca) la → Ints w (.slice ba ma da) ka → Ints w (.slice ab nb cb) lb → Ints w (.slice bb mb db) kb →
    Calls Tryz.prog 23 #[.agg #[.int .i64 sa, .slice aa na ca, .int .i64 ta, .slice ba ma da], .agg #[.int .i64 sb, .slice ab nb cb, .int .i64 tb, .slice bb mb db]] w (fun e w' => e = .returned (.int .i64 c) ∧ RowKit.Below w.heap.size w w') ∧ Calls Tryz.prog 24 #[.agg #[.int .i64 sa, .slice aa na ca, .int .i64 ta, .slice ba ma da], .agg #[.int .i64 sb, .slice ab nb cb, .int .i64 tb, .slice bb mb db]] w (fun e w' => e = .returned (.int .i64 c) ∧ RowKit.Below w.heap.size w w') := by
  rcases ea : fRightB sa la ta ka with _ | _
  · exact ⟨0, fun w ha ga hb gb => ⟨(fcmp_bad sa aa na ca la ta ba ma da ka sb ab nb cb lb tb bb mb db kb w ha ga (Nat.le_trans ua (by omega)) (Nat.le_trans va (by omega)) hb gb (Nat.le_trans ub (by omega)) (Nat.le_trans vb (by omega)) (by rw [ea]; rfl)), (rfcmp_bad sa aa na ca la ta ba ma da ka sb ab nb cb lb tb bb mb db kb w ha ga (Nat.le_trans ua (by omega)) (Nat.le_trans va (by omega)) hb gb (Nat.le_trans ub (by omega)) (Nat.le_trans vb (by omega)) (by rw [ea]; rfl))⟩⟩
  rcases eb : fRightB sb lb tb kb with _ | _
  · exact ⟨0, fun w ha ga hb gb => ⟨(fcmp_bad sa aa na ca la ta ba ma da ka sb ab nb cb lb tb bb mb db kb w ha ga (Nat.le_trans ua (by omega)) (Nat.le_trans va (by omega)) hb gb (Nat.le_trans ub (by omega)) (Nat.le_trans vb (by omega)) (by rw [ea, eb]; rfl)), (rfcmp_bad sa aa na ca la ta ba ma da ka sb ab nb cb lb tb bb mb db kb w ha ga (Nat.le_trans ua (by omega)) (Nat.le_trans va (by omega)) hb gb (Nat.le_trans ub (by omega)) (Nat.le_trans vb (by omega)) (by rw [ea, eb]; rfl))⟩⟩
  obtain ⟨x, rfl, rfl, rfl, rfl⟩ := fright_of ea
  obtain ⟨y, rfl, rfl, rfl, rfl⟩ := fright_of eb
  have X : FSz 1000 x := FSz.mono ⟨Sz.of ua, Sz.of va⟩
  have Y : FSz 1000 y := FSz.mono ⟨Sz.of ub, Sz.of vb⟩
  exact ⟨_, fun w ha ga hb gb => ⟨fCompare_k ⟨⟨rfl, ha⟩, ⟨(den_sign x).symm, ga⟩⟩ ⟨⟨rfl, hb⟩, ⟨(den_sign y).symm, gb⟩⟩ X Y, rfcmp_k ⟨⟨rfl, ha⟩, ⟨(den_sign x).symm, ga⟩⟩ ⟨⟨rfl, hb⟩, ⟨(den_sign y).symm, gb⟩⟩ X Y⟩⟩

theorem fsign_pair (sa : Int) (aa : Option Addr) (na ca : Nat) (la : List Int) (ta : Int) (ba : Option Addr) (ma da : Nat) (ka : List Int) (ua : la.length ≤ 40) (va : ka.length ≤ 40) : ∃ c : Int, ∀ w, EnvF w → Ints w (.slice aa na ca) la → Ints w (.slice ba ma da) ka →
    Calls Tryz.prog 32 #[.agg #[.int .i64 sa, .slice aa na ca, .int .i64 ta, .slice ba ma da]] w (fun e w' => e = .returned (.int .i64 c) ∧ RowKit.Below w.heap.size w w') ∧ Calls Tryz.prog 33 #[.agg #[.int .i64 sa, .slice aa na ca, .int .i64 ta, .slice ba ma da]] w (fun e w' => e = .returned (.int .i64 c) ∧ RowKit.Below w.heap.size w w') := by
  rcases ea : fRightB sa la ta ka with _ | _
  · exact ⟨0, fun w _ ha ga => ⟨(fsign_bad sa aa na ca la ta ba ma da ka w ha ga (Nat.le_trans ua (by omega)) (Nat.le_trans va (by omega)) ea), (rfsign_bad sa aa na ca la ta ba ma da ka w ha ga (Nat.le_trans ua (by omega)) (Nat.le_trans va (by omega)) ea)⟩⟩
  obtain ⟨x, rfl, rfl, rfl, rfl⟩ := fright_of ea
  have X : FSz 1000 x := FSz.mono ⟨Sz.of ua, Sz.of va⟩
  exact ⟨_, fun w _ ha ga => ⟨fsign_k ⟨⟨rfl, ha⟩, ⟨(den_sign x).symm, ga⟩⟩ X, rfsign_k ⟨⟨rfl, ha⟩, ⟨(den_sign x).symm, ga⟩⟩ X⟩⟩

theorem ftext_pair (sa : Int) (aa : Option Addr) (na ca : Nat) (la : List Int) (ta : Int) (ba : Option Addr) (ma da : Nat) (ka : List Int) (ua : la.length ≤ 40) (va : ka.length ≤ 40) : ∃ c : ByteArray, ∀ w, EnvF w → Ints w (.slice aa na ca) la → Ints w (.slice ba ma da) ka →
    Calls Tryz.prog 36 #[.agg #[.int .i64 sa, .slice aa na ca, .int .i64 ta, .slice ba ma da]] w (fun e w' => e = .returned (.string c) ∧ RowKit.Below w.heap.size w w') ∧ Calls Tryz.prog 37 #[.agg #[.int .i64 sa, .slice aa na ca, .int .i64 ta, .slice ba ma da]] w (fun e w' => e = .returned (.string c) ∧ RowKit.Below w.heap.size w w') := by
  rcases ea : fRightB sa la ta ka with _ | _
  · exact ⟨⟨#[]⟩, fun w _ ha ga => ⟨(ftext_bad sa aa na ca la ta ba ma da ka w ha ga (Nat.le_trans ua (by omega)) (Nat.le_trans va (by omega)) ea), (rftext_bad sa aa na ca la ta ba ma da ka w ha ga (Nat.le_trans ua (by omega)) (Nat.le_trans va (by omega)) ea)⟩⟩
  obtain ⟨x, rfl, rfl, rfl, rfl⟩ := fright_of ea
  have X : FSz 1000 x := FSz.mono ⟨Sz.of ua, Sz.of va⟩
  exact ⟨_, fun w he ha ga => ⟨ftext_k ⟨⟨rfl, ha⟩, ⟨(den_sign x).symm, ga⟩⟩ X he.env, rftext_k ⟨⟨rfl, ha⟩, ⟨(den_sign x).symm, ga⟩⟩ X⟩⟩

theorem ffloor_pair (sa : Int) (aa : Option Addr) (na ca : Nat) (la : List Int) (ta : Int) (ba : Option Addr) (ma da : Nat) (ka : List Int) (ua : la.length ≤ 40) (va : ka.length ≤ 40) : ∃ z : Int, ∀ w, EnvF w → Ints w (.slice aa na ca) la → Ints w (.slice ba ma da) ka →
    Calls Tryz.prog 39 #[.agg #[.int .i64 sa, .slice aa na ca, .int .i64 ta, .slice ba ma da]] w (BV z w) ∧ Calls Tryz.prog 40 #[.agg #[.int .i64 sa, .slice aa na ca, .int .i64 ta, .slice ba ma da]] w (BV z w) := by
  rcases ea : fRightB sa la ta ka with _ | _
  · exact ⟨0, fun w _ ha ga => ⟨(ffloor_bad sa aa na ca la ta ba ma da ka w ha ga (Nat.le_trans ua (by omega)) (Nat.le_trans va (by omega)) ea).mono fun _ _ h => zero_bv h, (rffloor_bad sa aa na ca la ta ba ma da ka w ha ga (Nat.le_trans ua (by omega)) (Nat.le_trans va (by omega)) ea).mono fun _ _ h => zero_bv h⟩⟩
  obtain ⟨x, rfl, rfl, rfl, rfl⟩ := fright_of ea
  have X : FSz 1000 x := FSz.mono ⟨Sz.of ua, Sz.of va⟩
  exact ⟨_, fun w _ ha ga => ⟨ffloor_k ⟨⟨rfl, ha⟩, ⟨(den_sign x).symm, ga⟩⟩ X, rffloor_k ⟨⟨rfl, ha⟩, ⟨(den_sign x).symm, ga⟩⟩ X⟩⟩

theorem fneg_pair (sa : Int) (aa : Option Addr) (na ca : Nat) (la : List Int) (ta : Int) (ba : Option Addr) (ma da : Nat) (ka : List Int) (ab : Option Addr) (nb cb : Nat) (bb : Option Addr) (mb db : Nat) (ua : la.length ≤ 40) (va : ka.length ≤ 40) : ∃ (s : Int) (l : List Int) (t : Int) (k : List Int), ∀ w, EnvF w → Ints w (.slice aa na ca) la → Ints w (.slice ba ma da) ka →
    Calls Tryz.prog 30 #[.agg #[.int .i64 sa, .slice aa na ca, .int .i64 ta, .slice ba ma da]] w (FG1 [.slice aa na ca, .slice ba ma da, .slice ab nb cb, .slice bb mb db] s l t k w) ∧ Calls Tryz.prog 31 #[.agg #[.int .i64 sa, .slice aa na ca, .int .i64 ta, .slice ba ma da]] w (FG1 [.slice aa na ca, .slice ba ma da, .slice ab nb cb, .slice bb mb db] s l t k w) := by
  rcases ea : fRightB sa la ta ka with _ | _
  · exact ⟨0, [], 0, [], fun w _ ha ga => ⟨(fneg_bad sa aa na ca la ta ba ma da ka w ha ga (Nat.le_trans ua (by omega)) (Nat.le_trans va (by omega)) ea).mono fun _ _ h => zero_fg h _, (rfneg_bad sa aa na ca la ta ba ma da ka w ha ga (Nat.le_trans ua (by omega)) (Nat.le_trans va (by omega)) ea).mono fun _ _ h => zero_fg h _⟩⟩
  obtain ⟨x, rfl, rfl, rfl, rfl⟩ := fright_of ea
  have X : FSz 1000 x := FSz.mono ⟨Sz.of ua, Sz.of va⟩
  refine ⟨_, _, _, _, fun w _ ha ga => ⟨(fneg_k ⟨⟨rfl, ha⟩, ⟨(den_sign x).symm, ga⟩⟩ X).mono fun _ _ h => h.fg _, (rfneg_k ⟨⟨rfl, ha⟩, ⟨(den_sign x).symm, ga⟩⟩ X).mono ?_⟩⟩
  rintro e w' ⟨s, p, k, j, rfl, hn, hb, hf⟩
  obtain rfl := hn.1
  exact ⟨p, k, j, _, _, _, rfl, hn.2, ga.later hb, hb, hf.far _, far_mem (List.mem_cons_of_mem _ List.mem_cons_self) _⟩

theorem fright_pair (sa : Int) (aa : Option Addr) (na ca : Nat) (la : List Int) (ta : Int) (ba : Option Addr) (ma da : Nat) (ka : List Int) (ua : la.length ≤ 40) (va : ka.length ≤ 40) : ∃ c : Bool, ∀ w, Ints w (.slice aa na ca) la → Ints w (.slice ba ma da) ka → Calls Tryz.prog 21 #[.agg #[.int .i64 sa, .slice aa na ca, .int .i64 ta, .slice ba ma da]] w (fun e w' => e = .returned (.bool c) ∧ RowKit.Below w.heap.size w w') ∧ Calls Tryz.prog 22 #[.agg #[.int .i64 sa, .slice aa na ca, .int .i64 ta, .slice ba ma da]] w (fun e w' => e = .returned (.bool c) ∧ RowKit.Below w.heap.size w w') :=
  ⟨_, fun w ha ga => ⟨fright_any sa aa na ca  la ta ba ma da ka w ha ga (Nat.le_trans ua (by omega)) (Nat.le_trans va (by omega)) _ rfl, rfright_any sa aa na ca la ta ba ma da ka w ha ga (Nat.le_trans ua (by omega)) (Nat.le_trans va (by omega)) _ rfl⟩⟩
theorem fint_pair (n : Int) (hn : -9223372036854775808 ≤ n ∧ n ≤ 9223372036854775807) (A : List Value) : ∃ (s : Int) (l : List Int) (t : Int) (k : List Int), ∀ w, Calls Tryz.prog 34 #[.int .i64 n] w (FG1 A s l t k w) ∧ Calls Tryz.prog 35 #[.int .i64 n] w (FG1 A s l t k w) :=
  ⟨_, _, _, _, fun w => ⟨(fint_k n hn w).mono fun _ _ h => h.fg _, (rfint_k n hn w).mono fun _ _ h => h.fg _⟩⟩
theorem fof_pair (p q : Int) (hp : -9223372036854775808 ≤ p ∧ p ≤ 9223372036854775807) (hq : -9223372036854775808 ≤ q ∧ q ≤ 9223372036854775807) (A : List Value) : ∃ (s : Int) (l : List Int) (t : Int) (k : List Int) (er : Int), ∀ w, Calls Tryz.prog 15 #[.int .i64 p, .int .i64 q] w (FG A s l t k er w) ∧ Calls Tryz.prog 16 #[.int .i64 p, .int .i64 q] w (FG A s l t k er w) := by
  by_cases h0 : q = 0
  · exact ⟨_, _, _, _, 15, fun w => ⟨(fof_zero p q hp hq h0 w).mono fun _ _ h => h.fg _, (rfof_zero p q hp hq h0 w).mono fun _ _ h => h.fg _⟩⟩
  · exact ⟨_, _, _, _, 0, fun w => ⟨(fof_k p q hp hq h0 w).mono fun _ _ h => h.fg _, (rfof_k p q hp hq h0 w).mono fun _ _ h => h.fg _⟩⟩
theorem fread_pair (s : ByteArray) (hs : s.size ≤ 300) (A : List Value) : ∃ (z : Int) (l : List Int) (t : Int) (k : List Int) (er : Int), ∀ w, EnvF w → Calls Tryz.prog 17 #[.string s] w (FG A z l t k er w) ∧ Calls Tryz.prog 18 #[.string s] w (FG A z l t k er w) := by
  by_cases h : ∃ r, s.data.toList = fTextL r
  · obtain ⟨r, hr⟩ := h
    exact ⟨_, _, _, _, 0, fun w he => ⟨(fread_yes s (by omega) w he r hr).mono fun _ _ h => h.fg _, (rfread_yes s (by omega) w r hr).mono fun _ _ h => h.fg _⟩⟩
  · have h2 : ∀ r, s.data.toList ≠ fTextL r := fun r e => h ⟨r, e⟩
    exact ⟨_, _, _, _, 2, fun w he => ⟨(fread_no s (by omega) w he h2).mono fun _ _ h => h.fg _, (rfread_no s (by omega) w h2).mono fun _ _ h => h.fg _⟩⟩
theorem fnew_pair (sp : Int) (ap : Option Addr) (np cp : Nat) (lp : List Int) (sq : Int) (aq : Option Addr) (nq cq : Nat) (lq : List Int) (up : lp.length ≤ 40) (uq : lq.length ≤ 40) (A : List Value) : ∃ (s : Int) (l : List Int) (t : Int) (k : List Int) (er : Int), ∀ w, Ints w (.slice ap np cp) lp → Ints w (.slice aq nq cq) lq →
    Calls Tryz.prog 19 #[.agg #[.int .i64 sp, .slice ap np cp], .agg #[.int .i64 sq, .slice aq nq cq]] w (FG A s l t k er w) ∧ Calls Tryz.prog 20 #[.agg #[.int .i64 sp, .slice ap np cp], .agg #[.int .i64 sq, .slice aq nq cq]] w (FG A s l t k er w) := by
  rcases hr : rightB sp lp && rightB sq lq with _ | _
  · exact ⟨_, _, _, _, 1, fun w hp hq => ⟨(fnew_bad sp ap np cp lp sq aq nq cq lq w hp hq hr).mono fun _ _ h => h.fg _, (rfnew_bad sp ap np cp lp sq aq nq cq lq w hp hq hr).mono fun _ _ h => h.fg _⟩⟩
  · rw [Bool.and_eq_true] at hr
    obtain ⟨p, rfl, rfl⟩ := right_of hr.1
    obtain ⟨q, rfl, rfl⟩ := right_of hr.2
    have X : Len 100000 p := Nat.le_trans up (by omega)
    have Y : Len 100000 q := Nat.le_trans uq (by omega)
    by_cases h0 : q = 0
    · exact ⟨_, _, _, _, 15, fun w hp hq => ⟨(new_zero ⟨rfl, hp⟩ ⟨rfl, hq⟩ X h0).mono fun _ _ h => h.fg _, (rfnew_zero ⟨rfl, hp⟩ ⟨rfl, hq⟩ X Y h0).mono fun _ _ h => h.fg _⟩⟩
    · exact ⟨_, _, _, _, 0, fun w hp hq => ⟨(new_k ⟨rfl, hp⟩ ⟨rfl, hq⟩ X Y h0).mono fun _ _ h => h.fg _, (rfnew_r ⟨rfl, hp⟩ ⟨rfl, hq⟩ X Y h0 rfl).mono fun _ _ h => h.fg _⟩⟩
theorem rfsame_self {s t : Int} {l k : List Int} {ap : Option Addr} {np cp : Nat} {aq : Option Addr} {nq cq : Nat} {bp : Option Addr} {mp dp : Nat} {bq : Option Addr} {mq dq : Nat} {w : World} (hp : Ints w (.slice ap np cp) l) (hq : Ints w (.slice aq nq cq) k) (jp : Ints w (.slice bp mp dp) l) (jq : Ints w (.slice bq mq dq) k) :
    Calls Tryz.prog 10 #[.agg #[.int .i64 s, .slice ap np cp, .int .i64 t, .slice aq nq cq], .agg #[.int .i64 s, .slice bp mp dp, .int .i64 t, .slice bq mq dq]] w fun e w' => e = .returned (.bool true) ∧ RowKit.Below w.heap.size w w' := by
  have := rfsame_raw s ap np cp l t aq nq cq k s bp mp dp l t bq mq dq k w hp hq jp jq
  simpa using this
theorem fsame_pair (sa : Int) (aa : Option Addr) (na ca : Nat) (la : List Int) (ta : Int) (ba : Option Addr) (ma da : Nat) (ka : List Int) (sb : Int) (ab : Option Addr) (nb cb : Nat) (lb : List Int) (tb : Int) (bb : Option Addr) (mb db : Nat) (kb : List Int) : ∃ c : Bool, ∀ w, Ints w (.slice aa na ca) la → Ints w (.slice ba ma da) ka → Ints w (.slice ab nb cb) lb → Ints w (.slice bb mb db) kb → Calls Tryz.prog 25 #[.agg #[.int .i64 sa, .slice aa na ca, .int .i64 ta, .slice ba ma da], .agg #[.int .i64 sb, .slice ab nb cb, .int .i64 tb, .slice bb mb db]] w (fun e w' => e = .returned (.bool c) ∧ RowKit.Below w.heap.size w w') ∧ Calls Tryz.prog 10 #[.agg #[.int .i64 sa, .slice aa na ca, .int .i64 ta, .slice ba ma da], .agg #[.int .i64 sb, .slice ab nb cb, .int .i64 tb, .slice bb mb db]] w (fun e w' => e = .returned (.bool c) ∧ RowKit.Below w.heap.size w w') :=
  ⟨_, fun w ha ga hb gb => ⟨fsame_raw sa aa na ca la ta ba ma da ka sb ab nb cb lb tb bb mb db kb w ha ga hb gb, rfsame_raw sa aa na ca la ta ba ma da ka sb ab nb cb lb tb bb mb db kb w ha ga hb gb⟩⟩
/-- A call has returned a slice that lies in no box. -/
theorem Sf.retG {w W W' : World} {L : List FBox} {F : List (Value × List Int)} {A : List Value} (h : Sf w L F W) (hA : ∀ v ∈ A, ∀ g, w.heap.size ≤ g → Off v g) (hb : RowKit.Below W.heap.size W W') {v : Value} {l : List Int} (hi : Ints W' v l) (hf : Far A W.heap.size v) : Sf w L ((v, l) :: F) W' := by
  have h' := h.later hb
  refine ⟨h'.below, h'.le, h'.box, fun f hf' => ?_, fun f hf' x hx => ?_, h'.pw⟩
  · rcases List.mem_cons.1 hf' with rfl | hf'
    · exact hi
    · exact h'.ints f hf'
  · rcases List.mem_cons.1 hf' with rfl | hf'
    · exact hf x.1 (h.lt x hx) (fun v hv => hA v hv x.1 (h.le x hx))
    · exact h.off f hf' x hx
theorem Sf.retG2 {w W W' : World} {L : List FBox} {F : List (Value × List Int)} {A : List Value} (h : Sf w L F W) (hA : ∀ v ∈ A, ∀ g, w.heap.size ≤ g → Off v g) (hb : RowKit.Below W.heap.size W W') {v u : Value} {l m : List Int} (hi : Ints W' v l) (hj : Ints W' u m) (hf : Far A W.heap.size v) (hg : Far A W.heap.size u) : Sf w L ((v, l) :: (u, m) :: F) W' := by
  have h' := h.retG hA hb hj hg
  refine ⟨h'.below, h'.le, h'.box, fun f hf' => ?_, fun f hf' x hx => ?_, h'.pw⟩
  · rcases List.mem_cons.1 hf' with rfl | hf'
    · exact hi
    · exact h'.ints f hf'
  · rcases List.mem_cons.1 hf' with rfl | hf'
    · exact hf x.1 (h.lt x hx) (fun v hv => hA v hv x.1 (h.le x hx))
    · exact h'.off f hf' x hx
theorem far_args {w : World} {v1 v2 v3 v4 : Value} {l1 l2 l3 l4 : List Int} (h1 : Ints w v1 l1) (h2 : Ints w v2 l2) (h3 : Ints w v3 l3) (h4 : Ints w v4 l4) : ∀ v ∈ [v1, v2, v3, v4], ∀ g, w.heap.size ≤ g → Off v g := by
  intro v hv g hg
  simp only [List.mem_cons, List.not_mem_nil, or_false] at hv
  rcases hv with rfl | rfl | rfl | rfl
  · exact h1.off hg
  · exact h2.off hg
  · exact h3.off hg
  · exact h4.off hg
theorem few_40 {lp lq : List Int} (h : (decide ((lp.length : Int) ≤ 40) && decide ((lq.length : Int) ≤ 40)) = true) : lp.length ≤ 40 ∧ lq.length ≤ 40 := by
  simp only [Bool.and_eq_true, decide_eq_true_eq] at h
  omega
end Go.Proofs.YtnddickcnfodfaaGreatDoor.Bi
