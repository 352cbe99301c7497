/- The contract of do. -/
import Derived.Test.YtkphmkhdlkdphaaA
namespace Go.Proofs.Ytkphmkhdlkdphaa
open Go.RowKit Go.ChangeShapes Go.WideShapes

def Ac.knd (v : Ac) : Int := bits BinOp.and IntKind.i64 v.kd 7
def Ac.low (v : Ac) : Int := bits BinOp.and IntKind.i64 v.n 3
def Ac.run (v : Ac) (st : St) : St :=
  if v.knd = 2 then sync st v.f else if v.knd = 3 then trunc st v.f v.n else if v.knd = 4 then lose st v.low else if v.knd = 5 then arm st v.n v.k
  else if v.knd = 6 then crash st v.k else if v.knd = 7 then start st else write st v.f v.n v.s.data.toList
def Ac.res (v : Ac) (st : St) : Int :=
  if v.knd = 2 then syncR st v.f else if v.knd = 3 then truncR st v.f v.n else if v.knd = 4 then 0 else if v.knd = 5 then 0
  else if v.knd = 6 then 0 else if v.knd = 7 then 0 else writeR st v.f v.n v.s.data.toList

theorem low_bound (v : Ac) : -9223372036854775808 ≤ v.low ∧ v.low ≤ 9223372036854775807 := by
  unfold Ac.low
  have := wf_bits BinOp.and IntKind.i64 v.n 3
  exact wf64 this

theorem do_any {S : Nat → Prop} {p : Rep} {st : St} {w : World} (h : IsD S p st w) (v : Ac) (hs : v.s.size ≤ 300) (hl : v.k.length ≤ 60) (hv : AOk w v) (hoff : ∀ b, Ints.off (.slice v.ka v.k.length v.kc) b → ¬ S b) :
    Calls Try.prog 12 #[.pointer (some ⟨p.r, 0, none⟩), .agg #[.int .i64 v.kd, .int .i64 v.f, .int .i64 v.n, .string v.s, .slice v.ka v.k.length v.kc]] w fun e w' => e = .returned (.int .i64 (v.res st)) ∧ Af S p.r (v.run st) w w' := by
  obtain ⟨kb, fb, nb, _, _, hi, hib⟩ := hv
  have hg1 : w.grownBy (w.alloc (.cells #[.int .i64 v.kd, .int .i64 v.f, .int .i64 v.n, .string v.s, .slice v.ka v.k.length v.kc] 33)) none := World.grownBy_alloc _ _ _
  have h1 := (h.grown hg1).mono (S' := Grew S w (w.alloc (.cells #[.int .i64 v.kd, .int .i64 v.f, .int .i64 v.n, .string v.s, .slice v.ka v.k.length v.kc] 33))) fun b hb => .inl hb
  have hi1 := hi.alloc (.cells #[.int .i64 v.kd, .int .i64 v.f, .int .i64 v.n, .string v.s, .slice v.ka v.k.length v.kc] 33)
  have ht : ∀ st' w', Af (Grew S w (w.alloc (.cells #[.int .i64 v.kd, .int .i64 v.f, .int .i64 v.n, .string v.s, .slice v.ka v.k.length v.kc] 33))) p.r st' (w.alloc (.cells #[.int .i64 v.kd, .int .i64 v.f, .int .i64 v.n, .string v.s, .slice v.ka v.k.length v.kc] 33)) w' → Af S p.r st' w w' := fun st' w' haf =>
    Af.trans (st := st) ⟨⟨p, rfl, h1⟩, But.of hg1 fun b e _ => by cases e⟩ haf
  have HT := Lib.hid ht
  have hoff1 : ∀ b, Ints.off (.slice v.ka v.k.length v.kc) b → ∀ s, p.at s = some b → s = .kv := fun b hb s hs' => absurd (h.inS s b hs') (hoff b hb)
  have hlb := low_bound v
  have HS := Lib.hid (sync_any h1 v.f fb)
  have HTr := Lib.hid (trunc_any h1 v.f v.n fb nb)
  have HL := Lib.hid (lose_any h1 v.low hlb)
  have HA := Lib.hid (arm_any h1 v.n nb _ v.k hi1 ⟨by omega, hib⟩)
  have HC := Lib.hid (crash_any h1 _ v.k hi1 ⟨by omega, hib⟩ hoff1)
  have HSt := Lib.hid (start_any h1)
  have HW := Lib.hid (write_any h1 v.f v.n v.s fb nb (by omega))
  obtain ⟨k, hk⟩ : ∃ k, v.knd = k := ⟨_, rfl⟩
  have HR : Hid (v.res st = if k = 2 then syncR st v.f else if k = 3 then truncR st v.f v.n else if k = 4 then 0 else if k = 5 then 0
    else if k = 6 then 0 else if k = 7 then 0 else writeR st v.f v.n v.s.data.toList) := by unfold Hid Ac.res; rw [hk]
  have HRu : Hid (v.run st = if k = 2 then sync st v.f else if k = 3 then trunc st v.f v.n else if k = 4 then lose st v.low else if k = 5 then arm st v.n v.k
  else if k = 6 then crash st v.k else if k = 7 then start st else write st v.f v.n v.s.data.toList) := by unfold Hid Ac.run; rw [hk]
  obtain ⟨lo, hlo⟩ : ∃ lo, v.low = lo := ⟨_, rfl⟩
  rw [hlo] at HL HRu hlb
  unfold Ac.knd at hk
  unfold Ac.low at hlo
  clear h h1 hi hi1 ht hoff1 hg1 hib hoff
  by_cases k2 : k = 2
  · subst k2
    go_enter Try.func12, Try.ntmps12
    go_wp2_with fail
    refine HS.out.mono ?_
    rintro e w' ⟨rfl, haf⟩
    have HF := Lib.hid haf
    clear haf
    go_wp2_with fail
    go_ret
    rw [HR.out, HRu.out]
    exact ⟨rfl, HT.out _ _ HF.out⟩
  by_cases k3 : k = 3
  · subst k3
    clear k2
    go_enter Try.func12, Try.ntmps12
    go_wp2_with fail
    refine HTr.out.mono ?_
    rintro e w' ⟨rfl, haf⟩
    have HF := Lib.hid haf
    clear haf
    go_wp2_with fail
    go_ret
    rw [HR.out, HRu.out]
    exact ⟨rfl, HT.out _ _ HF.out⟩
  by_cases k4 : k = 4
  · subst k4
    clear k2 k3
    go_enter Try.func12, Try.ntmps12
    go_wp2_with fail
    refine HL.out.mono ?_
    rintro e w' ⟨rfl, haf⟩
    have HF := Lib.hid haf
    clear haf
    go_wp2_with fail
    go_ret
    rw [HR.out, HRu.out]
    exact ⟨rfl, HT.out _ _ HF.out⟩
  by_cases k5 : k = 5
  · subst k5
    clear k2 k3 k4
    go_enter Try.func12, Try.ntmps12
    go_wp2_with fail
    refine HA.out.mono ?_
    rintro e w' ⟨rfl, haf⟩
    have HF := Lib.hid haf
    clear haf
    go_wp2_with fail
    go_ret
    rw [HR.out, HRu.out]
    exact ⟨rfl, HT.out _ _ HF.out⟩
  by_cases k6 : k = 6
  · subst k6
    clear k2 k3 k4 k5
    go_enter Try.func12, Try.ntmps12
    go_wp2_with fail
    refine HC.out.mono ?_
    rintro e w' ⟨rfl, haf⟩
    have HF := Lib.hid haf
    clear haf
    go_wp2_with fail
    go_ret
    rw [HR.out, HRu.out]
    exact ⟨rfl, HT.out _ _ HF.out⟩
  by_cases k7 : k = 7
  · subst k7
    clear k2 k3 k4 k5 k6
    go_enter Try.func12, Try.ntmps12
    go_wp2_with fail
    refine HSt.out.mono ?_
    rintro e w' ⟨rfl, haf⟩
    have HF := Lib.hid haf
    clear haf
    go_wp2_with fail
    go_ret
    rw [HR.out, HRu.out]
    exact ⟨rfl, HT.out _ _ HF.out⟩
  · have e2 : (k == 2) = false := by simpa using k2
    have e3 : (k == 3) = false := by simpa using k3
    have e4 : (k == 4) = false := by simpa using k4
    have e5 : (k == 5) = false := by simpa using k5
    have e6 : (k == 6) = false := by simpa using k6
    have e7 : (k == 7) = false := by simpa using k7
    have HN : Hid (¬ k = 2 ∧ ¬ k = 3 ∧ ¬ k = 4 ∧ ¬ k = 5 ∧ ¬ k = 6 ∧ ¬ k = 7) := ⟨k2, k3, k4, k5, k6, k7⟩
    clear k2 k3 k4 k5 k6 k7
    go_enter Try.func12, Try.ntmps12
    go_wp2_with fail
    refine HW.out.mono ?_
    rintro e w' ⟨rfl, haf⟩
    have HF := Lib.hid haf
    clear haf
    go_wp2_with fail
    go_ret
    obtain ⟨k2, k3, k4, k5, k6, k7⟩ := HN.out
    rw [HR.out, HRu.out, if_neg k2, if_neg k3, if_neg k4, if_neg k5, if_neg k6, if_neg k7, if_neg k2, if_neg k3, if_neg k4, if_neg k5, if_neg k6, if_neg k7]
    exact ⟨rfl, HT.out _ _ HF.out⟩
end Go.Proofs.Ytkphmkhdlkdphaa
