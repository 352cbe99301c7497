/- The contracts of the reference's writers of lists. -/
import Derived.Test.YtpcdogbioopdgaaDoorD
namespace Go.Proofs.YtpcdogbioopdgaaDoor
open Go.RowKit Go.Sort

set_option maxRecDepth 100000 in
set_option maxHeartbeats 2000000 in
theorem refNums (a : Option Addr) (cap : Nat) (zs : List Int) (hl : zs.length ≤ 100000) (w : World) (hcells : IntCells w a zs) (hok : IntsOk zs) :
    Calls Tryd.prog 18 #[.slice a zs.length cap] w (Gives (.string ⟨(encNums zs).toArray⟩) w) := by
  have HOK := Lib.hid hok
  have hil := itoa_len20 zs.length (by omega) (by omega)
  clear hok
  rcases hcells with h0' | ⟨ba, off, rfl, hc⟩
  have h0 := Lib.hid h0'; clear h0'
  all_goals
    go_enter Tryd.func18, Tryd.ntmps18
    go_wp2_with fail
    refine (digs (-(zs.length : Int)) (by omega) (by omega) _).mono ?_
    rintro e w1 ⟨rfl, hb1⟩
    rw [Int.neg_neg]
    go_wp2_with fail
    go_loopw [3, 4] (fun s i wr => ∃ k : Nat, k ≤ zs.length ∧ i = .int .i64 k ∧ s = .string ⟨(Lib.itoa zs.length ++ [91] ++ (zs.take k).flatMap encInt).toArray⟩ ∧ RowKit.Below w.heap.size w wr) (fun _ i _ => zs.length - (RowKit.intOf i).toNat)
    case atStart => exact ⟨0, by omega, rfl, by simp [ba_app], hb1⟩
    case round =>
      obtain ⟨k, hk, rfl, rfl, hb⟩ := hrel
      clear hb1
      have hfl : ((zs.take k).flatMap encInt).length ≤ 22 * k := Nat.le_trans (flat_len encInt 22 _ (fun z hz => encInt_len z (HOK.out z (List.mem_of_mem_take hz)))) (Nat.mul_le_mul_left _ (List.length_take_le _ _))
      obtain ⟨acc, hacc⟩ : ∃ acc, acc = Lib.itoa zs.length ++ [91] ++ (zs.take k).flatMap encInt := ⟨_, rfl⟩
      have hal : acc.length ≤ 21 + 22 * k := by rw [hacc]; simp only [List.length_append, List.length_cons, List.length_nil]; omega
      rw [← hacc]
      have HA := Lib.hid hacc
      clear hacc hfl
      by_cases hlt : k < zs.length
      · first
        | (exfalso; simp [h0.out] at hlt; done)
        | (have hck := cell_later (hc k hlt) hb
           have HS := Lib.hid (flat_snoc encInt zs k hlt)
           have hz := HOK.out _ (List.getElem_mem hlt)
           have hel := encInt_len _ hz
           clear hc
           go_wp2_with fail
           refine (refInt _ hz.1 hz.2 _).mono ?_
           rintro e w3 ⟨rfl, hb3⟩
           go_wp2_with fail
           go_roundw
           case rel => exact ⟨k + 1, by omega, by go_num, by rw [HS.out, HA.out]; simp [ba_app], hb.trans (hb3.mono hb.size)⟩
           case measure => simp [RowKit.intOf]; omega)
      · have hkk : k = zs.length := by omega
        have HK := Lib.hid hkk
        clear hkk
        go_wp2_with fail
        go_ret
        exact ⟨by simp [encNums, HK.out, ba_app, HA.out], hb⟩

set_option maxRecDepth 100000 in
set_option maxHeartbeats 2000000 in
theorem refTexts (a : Option Addr) (cap : Nat) (zs : List ByteArray) (m : Nat) (hl : zs.length ≤ 100000) (hm : m ≤ 1000000) (hml : (m + 24) * zs.length ≤ 50000000) (w : World) (hcells : StrCells w a zs) (hok : ∀ z ∈ zs, z.size ≤ m) :
    Calls Tryd.prog 20 #[.slice a zs.length cap] w (Gives (.string ⟨(encTexts zs).toArray⟩) w) := by
  have HOK := Lib.hid hok
  have HML := Lib.hid hml
  have hil := itoa_len20 zs.length (by omega) (by omega)
  clear hok hml
  rcases hcells with h0' | ⟨ba, off, rfl, hc⟩
  have h0 := Lib.hid h0'; clear h0'
  all_goals
    go_enter Tryd.func20, Tryd.ntmps20
    go_wp2_with fail
    refine (digs (-(zs.length : Int)) (by omega) (by omega) _).mono ?_
    rintro e w1 ⟨rfl, hb1⟩
    rw [Int.neg_neg]
    go_wp2_with fail
    go_loopw [3, 4] (fun s i wr => ∃ k : Nat, k ≤ zs.length ∧ i = .int .i64 k ∧ s = .string ⟨(Lib.itoa zs.length ++ [91] ++ (zs.take k).flatMap encS).toArray⟩ ∧ RowKit.Below w.heap.size w wr) (fun _ i _ => zs.length - (RowKit.intOf i).toNat)
    case atStart => exact ⟨0, by omega, rfl, by simp [ba_app], hb1⟩
    case round =>
      obtain ⟨k, hk, rfl, rfl, hb⟩ := hrel
      clear hb1
      have hfl : ((zs.take k).flatMap encS).length ≤ 50000000 := Nat.le_trans (flat_len encS (m+24) _ (fun z hz => encS_len m z (HOK.out z (List.mem_of_mem_take hz)) hm)) (Nat.le_trans (Nat.mul_le_mul_left _ (List.length_take_le _ _)) (Nat.le_trans (Nat.mul_le_mul_left _ hk) HML.out))
      obtain ⟨acc, hacc⟩ : ∃ acc, acc = Lib.itoa zs.length ++ [91] ++ (zs.take k).flatMap encS := ⟨_, rfl⟩
      have hal : acc.length ≤ 50000021 := by rw [hacc]; simp only [List.length_append, List.length_cons, List.length_nil]; omega
      rw [← hacc]
      have HA := Lib.hid hacc
      clear hacc hfl
      by_cases hlt : k < zs.length
      · first
        | (exfalso; simp [h0.out] at hlt; done)
        | (have hck := cell_later (hc k hlt) hb
           have HS := Lib.hid (flat_snoc encS zs k hlt)
           have hz := HOK.out _ (List.getElem_mem hlt)
           have hel := encS_len m _ hz hm
           clear hc
           go_wp2_with fail
           refine (refText _ (Nat.le_trans hz hm) _).mono ?_
           rintro e w3 ⟨rfl, hb3⟩
           have hel2 : (encText zs[k].data.toList).length ≤ m + 24 := hel
           go_wp2_with fail
           go_roundw
           case rel => exact ⟨k + 1, by omega, by go_num, by rw [HS.out, HA.out]; simp [ba_app, encS], hb.trans (hb3.mono hb.size)⟩
           case measure => simp [RowKit.intOf]; omega)
      · have hkk : k = zs.length := by omega
        have HK := Lib.hid hkk
        clear hkk
        go_wp2_with fail
        go_ret
        exact ⟨by simp [encTexts, HK.out, ba_app, HA.out], hb⟩
end Go.Proofs.YtpcdogbioopdgaaDoor
