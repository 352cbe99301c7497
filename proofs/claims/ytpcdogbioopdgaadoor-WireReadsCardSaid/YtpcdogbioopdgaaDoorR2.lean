/- The contracts of the readers of strings and of lists. -/
import Derived.Test.YtpcdogbioopdgaaDoorR
namespace Go.Proofs.YtpcdogbioopdgaaDoor
open Go.RowKit Go.Sort

def pText (s : List UInt8) : Option (ByteArray × List UInt8) :=
  match pNum 58 s with
  | some (n, r) => if n.toNat < r.length ∧ r.getD n.toNat 0 = 44 then some (⟨(r.take n.toNat).toArray⟩, r.drop (n.toNat + 1)) else none
  | none => none


theorem pInt_len {c : UInt8} {s : List UInt8} {n : Int} {r : List UInt8} (h : pInt c s = some (n, r)) : r.length < s.length := by
  have := (pInt_some c s n r h).1
  rw [this]; simp; omega
theorem pNum_some {c : UInt8} {s : List UInt8} {n : Int} {r : List UInt8} (h : pNum c s = some (n, r)) : pInt c s = some (n, r) ∧ 0 ≤ n := by
  unfold pNum at h
  split at h
  · rename_i m r' hm
    split at h
    · cases h
    · simp at h; obtain ⟨rfl, rfl⟩ := h; exact ⟨hm, by omega⟩
  · cases h
theorem text_ext (r : List UInt8) (k : Nat) (h : k ≤ r.length) : ((⟨r.toArray⟩ : ByteArray).extract 0 k) = ⟨(r.take k).toArray⟩ := by
  apply ByteArray.ext; simp [ByteArray.data_extract, List.extract_eq_take_drop]

set_option maxRecDepth 100000 in
set_option maxHeartbeats 2000000 in
theorem rtext_any (b : Nat) (s : List UInt8) (bad : Bool) (hs : s.length ≤ 100000000) (w : World) (h : IsR b s bad w) (he : Env w) :
    Calls Tryd.prog 28 #[.pointer (some ⟨b, 0, none⟩)] w (Reads b (pText s) bad (.string ⟨#[]⟩) .string w) := by
  rcases hp : pNum 58 s with _ | ⟨n, r⟩
  · have HP := Lib.hid hp
    have HQ : Hid (pText s = none) := by unfold Hid pText; rw [hp]
    clear hp
    go_enter Tryd.func28, Tryd.ntmps28
    go_wp2_with fail
    refine (number_any b 58 s bad hs w h he).mono ?_
    rintro e w1 hr
    obtain ⟨ho, rfl, hi⟩ := hr.none' HP.out
    clear hr
    have c0 := hi.c0
    go_wp2_with fail
    refine (fail_any b [] true _ hi).mono ?_
    rintro e w2 ⟨rfl, ho2, hi2⟩
    go_wp2_with fail
    go_ret
    exact Reads.mkn HQ.out (on_trans ho ho2) rfl hi2
  · obtain ⟨hpi, hn⟩ := pNum_some hp
    have hrl := pInt_len hpi
    have hnb := (pInt_some _ _ _ _ hpi).2
    obtain ⟨k, rfl⟩ : ∃ k : Nat, n = k := ⟨n.toNat, by omega⟩
    have HP := Lib.hid hp
    clear hpi
    by_cases hk : k < r.length
    · by_cases h44 : r[k] = 44
      · have HQ : Hid (pText s = some (⟨(r.take k).toArray⟩, r.drop (k + 1))) := by
          unfold Hid pText; rw [hp]; simp [hk, h44]
        clear hp
        have H44 := Lib.hid h44
        clear h44
        have hb : ((((⟨r.toArray⟩ : ByteArray)[k]'hk).toNat : Int) != 44) = false := by show ((r[k].toNat : Int) != 44) = false; rw [H44.out]; rfl
        go_enter Tryd.func28, Tryd.ntmps28
        go_wp2_with fail
        refine (number_any b 58 s bad hs w h he).mono ?_
        rintro e w1 hr
        obtain ⟨ho, rfl, hi⟩ := hr.some' HP.out
        clear hr
        have c0 := hi.c0
        have f0 := hi.f0 0
        go_wp2_with fail
        go_ret
        refine Reads.mks HQ.out (on_set ho 0 _) (by rw [← text_ext r k (by omega)]; rfl) (hi.drop _)
      · have HQ : Hid (pText s = none) := by
          unfold Hid pText; rw [hp]; simp [hk, h44]
        clear hp
        have H44 := Lib.hid h44
        have hb : ((((⟨r.toArray⟩ : ByteArray)[k]'hk).toNat : Int) != 44) = true := by
          show ((r[k].toNat : Int) != 44) = true
          simp; intro h; apply h44; apply UInt8.toNat_inj.1; have : (44 : UInt8).toNat = 44 := rfl; omega
        clear h44
        go_enter Tryd.func28, Tryd.ntmps28
        go_wp2_with fail
        refine (number_any b 58 s bad hs w h he).mono ?_
        rintro e w1 hr
        obtain ⟨ho, rfl, hi⟩ := hr.some' HP.out
        clear hr
        have c0 := hi.c0
        have f0 := hi.f0 0
        go_wp2_with fail
        refine (fail_any b r bad _ hi).mono ?_
        rintro e w2 ⟨rfl, ho2, hi2⟩
        go_wp2_with fail
        go_ret
        exact Reads.mkn HQ.out (on_trans ho ho2) rfl hi2
    · have HQ : Hid (pText s = none) := by
        unfold Hid pText; rw [hp]; simp [hk]
      clear hp
      go_enter Tryd.func28, Tryd.ntmps28
      go_wp2_with fail
      refine (number_any b 58 s bad hs w h he).mono ?_
      rintro e w1 hr
      obtain ⟨ho, rfl, hi⟩ := hr.some' HP.out
      clear hr
      have c0 := hi.c0
      have f0 := hi.f0 0
      go_wp2_with fail
      refine (fail_any b r bad _ hi).mono ?_
      rintro e w2 ⟨rfl, ho2, hi2⟩
      go_wp2_with fail
      go_ret
      exact Reads.mkn HQ.out (on_trans ho ho2) rfl hi2
end Go.Proofs.YtpcdogbioopdgaaDoor
