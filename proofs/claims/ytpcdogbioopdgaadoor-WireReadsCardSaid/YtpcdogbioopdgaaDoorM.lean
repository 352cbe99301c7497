/- The contracts of the methods Nums, Texts, Rest, Left and Done of the reader. -/
import Derived.Test.YtpcdogbioopdgaaDoorR4
namespace Go.Proofs.YtpcdogbioopdgaaDoor
open Go.RowKit Go.Sort

theorem rnums_any (b : Nat) (s : List UInt8) (hs : s.length ≤ 100000000) (w : World) (h : IsR b s false w) (he : Env w) (hb6 : 6 ≤ b) :
    Calls Tryd.prog 31 #[.pointer (some ⟨b, 0, none⟩)] w (ReadsL b (pList (pInt 59) s) w) := by
  go_enter Tryd.func31, Tryd.ntmps31
  go_wp2_with fail
  refine (rl_int b s hs w h he hb6).mono ?_
  rintro e w1 hr
  rcases hp : pList (pInt 59) s with _ | ⟨l, r⟩
  · have HP := Lib.hid hp
    unfold ReadsL at hr; rw [hp] at hr
    obtain ⟨ho, rfl, hi⟩ := hr
    clear hp
    go_wp2_with fail
    go_ret
    exact ReadsL.mkn HP.out ho rfl hi
  · have HP := Lib.hid hp
    unfold ReadsL at hr; rw [hp] at hr
    obtain ⟨ho, a, cap, rfl, hc, hi⟩ := hr
    clear hp
    have HC := Lib.hid hc
    clear hc
    go_wp2_with fail
    go_ret
    exact ReadsL.mks HP.out ho a cap rfl HC.out hi
theorem rtexts_any (b : Nat) (s : List UInt8) (hs : s.length ≤ 100000000) (w : World) (h : IsR b s false w) (he : Env w) (hb6 : 6 ≤ b) :
    Calls Tryd.prog 34 #[.pointer (some ⟨b, 0, none⟩)] w (ReadsT b (pList pText s) w) := by
  go_enter Tryd.func34, Tryd.ntmps34
  go_wp2_with fail
  refine (rl_str b s hs w h he hb6).mono ?_
  rintro e w1 hr
  rcases hp : pList pText s with _ | ⟨l, r⟩
  · have HP := Lib.hid hp
    unfold ReadsT at hr; rw [hp] at hr
    obtain ⟨ho, rfl, hi⟩ := hr
    clear hp
    go_wp2_with fail
    go_ret
    exact ReadsT.mkn HP.out ho rfl hi
  · have HP := Lib.hid hp
    unfold ReadsT at hr; rw [hp] at hr
    obtain ⟨ho, a, cap, rfl, hc, hi⟩ := hr
    clear hp
    have HC := Lib.hid hc
    clear hc
    go_wp2_with fail
    go_ret
    exact ReadsT.mks HP.out ho a cap rfl HC.out hi
theorem rest_any (b : Nat) (s : List UInt8) (bad : Bool) (w : World) (h : IsR b s bad w) :
    Calls Tryd.prog 40 #[.pointer (some ⟨b, 0, none⟩)] w fun e w' => e = .returned (.string ⟨s.toArray⟩) ∧ w.grownBy w' (some b) ∧ IsR b [] bad w' := by
  have c0 := h.c0
  have f0 := h.f0 0
  go_enter Tryd.func40, Tryd.ntmps40
  go_wp2_with fail
  go_ret
  exact ⟨rfl, on_set (on_refl _ _) 0 _, h.set0 ⟨#[]⟩⟩
theorem left_any (b : Nat) (s : List UInt8) (bad : Bool) (w : World) (h : IsR b s bad w) :
    Calls Tryd.prog 36 #[.pointer (some ⟨b, 0, none⟩)] w fun e w' => e = .returned (.int .i64 s.length) ∧ w = w' := by
  have c0 := h.c0
  go_enter Tryd.func36, Tryd.ntmps36
  go_wp2_with fail
  go_ret
  exact ⟨rfl, rfl⟩
theorem done_any (b : Nat) (s : List UInt8) (bad : Bool) (w : World) (h : IsR b s bad w) :
    Calls Tryd.prog 38 #[.pointer (some ⟨b, 0, none⟩)] w fun e w' => e = .returned (.bool (!bad && s.isEmpty)) ∧ w = w' := by
  have c0 := h.c0
  have c1 := h.c1
  cases bad
  · cases s
    · go_enter Tryd.func38, Tryd.ntmps38
      go_wp2_with fail
      go_ret
      exact ⟨rfl, rfl⟩
    · go_enter Tryd.func38, Tryd.ntmps38
      go_wp2_with fail
      go_ret
      exact ⟨rfl, rfl⟩
  · go_enter Tryd.func38, Tryd.ntmps38
    go_wp2_with fail
    go_ret
    exact ⟨rfl, rfl⟩
end Go.Proofs.YtpcdogbioopdgaaDoor
