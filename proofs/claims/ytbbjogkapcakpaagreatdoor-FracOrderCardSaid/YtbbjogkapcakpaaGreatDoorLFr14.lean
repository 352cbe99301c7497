/- The three cases of FracOrder. -/
import Derived.Test.YtbbjogkapcakpaaGreatDoorLFr13
set_option maxRecDepth 100000
namespace Go.Proofs.YtbbjogkapcakpaaGreatDoor.Bi
open Go.RowKit

/-- If signs and digits are those of two rationals, these are in the relation R. -/
def OrdF (sa : Int) (la ka : List Int) (sb : Int) (lb kb : List Int) (R : Rat → Rat → Prop) : Prop :=
  ∀ p q : Rat, sa = p.num.sign → la = digs p.num.natAbs → ka = digs (p.den : Int).natAbs → sb = q.num.sign → lb = digs q.num.natAbs → kb = digs (q.den : Int).natAbs → R p q
theorem rat_uniq {p q : Rat} (h1 : p.num.sign = q.num.sign) (h2 : digs p.num.natAbs = digs q.num.natAbs) (h3 : digs (p.den : Int).natAbs = digs (q.den : Int).natAbs) : p = q := by
  refine rat_eq.1 ⟨num_eq.1 ⟨h1, h2⟩, ?_⟩
  have := digs_inj h3
  omega
theorem ordF (sa : Int) (la ka : List Int) (sb : Int) (lb kb : List Int) : OrdF sa la ka sb lb kb (fun x y => x < y) ∨ OrdF sa la ka sb lb kb (fun x y => x = y) ∨ OrdF sa la ka sb lb kb (fun x y => y < x) := by
  by_cases h : ∃ p q : Rat, sa = p.num.sign ∧ la = digs p.num.natAbs ∧ ka = digs (p.den : Int).natAbs ∧ sb = q.num.sign ∧ lb = digs q.num.natAbs ∧ kb = digs (q.den : Int).natAbs
  · obtain ⟨p, q, rfl, rfl, rfl, rfl, rfl, rfl⟩ := h
    have key : ∀ R : Rat → Rat → Prop, R p q → OrdF p.num.sign (digs p.num.natAbs) (digs (p.den : Int).natAbs) q.num.sign (digs q.num.natAbs) (digs (q.den : Int).natAbs) R := by
      intro R hR p' q' e1 e2 e3 e4 e5 e6
      have hp := rat_uniq e1 e2 e3
      have hq := rat_uniq e4 e5 e6
      subst hp hq
      exact hR
    rcases rat_tri p q with hk | hk | hk
    · exact .inl (key _ hk)
    · exact .inr (.inl (key _ hk))
    · exact .inr (.inr (key _ hk))
  · exact .inl fun p q h1 h2 h3 h4 h5 h6 => absurd ⟨p, q, h1, h2, h3, h4, h5, h6⟩ h
end Go.Proofs.YtbbjogkapcakpaaGreatDoor.Bi
