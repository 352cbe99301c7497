/- The reference's Text, Nums and Texts. -/
import Derived.Test.YtpcdogbioopdgaaDoorV2
import Derived.Test.YtpcdogbioopdgaaDoorR4
namespace Go.Proofs.YtpcdogbioopdgaaDoor
open Go.RowKit Go.Sort

theorem pNum_nil (c : UInt8) : pNum c [] = none := by
  rcases h : pNum c [] with _ | ⟨n, r⟩
  · rfl
  · have := pInt_len (pNum_some h).1; simp at this

set_option maxRecDepth 100000 in
set_option maxHeartbeats 4000000 in
theorem textQ (b : Nat) (s : List UInt8) (bad : Bool) (hbad : bad = true → s = []) (hs : s.length ≤ 100000000) (w : World) (h : IsQ b s bad w) :
    Calls Tryd.prog 29 #[.pointer (some ⟨b, 0, none⟩)] w (ReadsQ b (pText s) bad (.string ⟨#[]⟩) .string w) := by
  rcases hp : pNum 58 s with _ | ⟨n, r⟩
  · have HP := Lib.hid hp
    have HQ : Hid (pText s = none) := by unfold Hid pText; rw [hp]
    clear hp hbad
    go_enter Tryd.func29, Tryd.ntmps29
    go_wp2_with fail
    refine (numberQ b 58 s bad hs w h).mono ?_
    rintro e w1 hr
    obtain ⟨ho, rfl, hi⟩ := hr.none' HP.out
    clear hr
    have c0 := hi.c0
    have c1 := hi.c1
    go_wp2_with fail
    refine (failQ b [] true _ hi).mono ?_
    rintro e w2 ⟨rfl, ho2, hi2⟩
    go_wp2_with fail
    go_ret
    exact ReadsQ.mkn HQ.out (on_trans ho ho2) rfl hi2
  · obtain ⟨hpi, hn⟩ := pNum_some hp
    have hrl := pInt_len hpi
    have hnb := (pInt_some _ _ _ _ hpi).2
    obtain ⟨k, rfl⟩ : ∃ k : Nat, n = k := ⟨n.toNat, by omega⟩
    have HP := Lib.hid hp
    obtain rfl : bad = false := by
      cases bad
      · rfl
      · have := hbad rfl; subst this; simp at hrl
    clear hpi hbad
    by_cases hk : k < r.length
    · have hdrop : r.drop k = r[k] :: r.drop (k + 1) := List.drop_eq_getElem_cons hk
      have HDR := Lib.hid hdrop
      clear hdrop
      by_cases h44 : r[k] = 44
      · have HQ : Hid (pText s = some (⟨(r.take k).toArray⟩, r.drop (k + 1))) := by
          unfold Hid pText; rw [hp]; simp [hk, h44]
        clear hp
        have H44 := Lib.hid h44
        clear h44
        go_enter Tryd.func29, Tryd.ntmps29
        go_wp2_with fail
        refine (numberQ b 58 s false hs w h).mono ?_
        rintro e w1 hr
        obtain ⟨ho, rfl, hi⟩ := hr.some' HP.out
        clear hr
        have c0 := hi.c0
        have c1 := hi.c1
        have f0 := hi.f0 0
        go_wp2_with fail
        refine (closeQ b 44 (r.drop k) false (by rw [List.length_drop]; omega) _ (hi.drop k)).mono ?_
        rintro e w2 hcl
        obtain ⟨ho2, rfl, hi2⟩ := hcl.yes' HDR.out H44.out
        go_wp2_with fail
        go_ret
        exact ReadsQ.mks HQ.out (on_trans (on_set ho 0 _) ho2) (by rw [← text_ext r k (by omega)]; rfl) hi2
      · have HQ : Hid (pText s = none) := by
          unfold Hid pText; rw [hp]; simp [hk, h44]
        clear hp
        have H44 := Lib.hid h44
        clear h44
        go_enter Tryd.func29, Tryd.ntmps29
        go_wp2_with fail
        refine (numberQ b 58 s false hs w h).mono ?_
        rintro e w1 hr
        obtain ⟨ho, rfl, hi⟩ := hr.some' HP.out
        clear hr
        have c0 := hi.c0
        have c1 := hi.c1
        have f0 := hi.f0 0
        go_wp2_with fail
        refine (closeQ b 44 (r.drop k) false (by rw [List.length_drop]; omega) _ (hi.drop k)).mono ?_
        rintro e w2 hcl
        obtain ⟨ho2, rfl, hi2⟩ := hcl.no' (fun r2 e => by rw [HDR.out] at e; exact H44.out (List.cons.inj e).1)
        go_wp2_with fail
        go_ret
        exact ReadsQ.mkn HQ.out (on_trans (on_set ho 0 _) ho2) rfl hi2
    · have HQ : Hid (pText s = none) := by
        unfold Hid pText; rw [hp]; simp [hk]
      clear hp
      go_enter Tryd.func29, Tryd.ntmps29
      go_wp2_with fail
      refine (numberQ b 58 s false hs w h).mono ?_
      rintro e w1 hr
      obtain ⟨ho, rfl, hi⟩ := hr.some' HP.out
      clear hr
      have c0 := hi.c0
      have c1 := hi.c1
      have f0 := hi.f0 0
      go_wp2_with fail
      refine (failQ b r false _ hi).mono ?_
      rintro e w2 ⟨rfl, ho2, hi2⟩
      go_wp2_with fail
      go_ret
      exact ReadsQ.mkn HQ.out (on_trans ho ho2) rfl hi2

end Go.Proofs.YtpcdogbioopdgaaDoor
