/- The contract of played. -/
import Derived.Test.YtkphmkhdlkdphaaSm
namespace Go.Proofs.Ytkphmkhdlkdphaa
open Go.RowKit Go.ChangeShapes Go.WideShapes

def PlayedPost (B : Nat) (st : St) (w : World) (e : Ending) (w' : World) : Prop := ∃ r, e = .returned (.pointer (some ⟨r, 0, none⟩)) ∧ One B r st w' ∧ Ov B w w'

theorem runs_all (l : List Ac) (st : St) (k : Nat) (h : ¬ k < l.length) : runs (l.take k) st = runs l st := by
  rw [List.take_of_length_le (by omega)]

set_option maxHeartbeats 1000000 in
theorem played_any (a : Option Addr) (cap : Nat) (vs : List Ac) (w : World) (hv : ACells w a vs) (hf : few vs = true) :
    Calls Try.prog 22 #[.slice a vs.length cap] w (PlayedPost w.heap.size (runs vs St.new) w) := by
  obtain ⟨hall, h40⟩ := few_iff.1 hf
  obtain ⟨B, hB⟩ : ∃ B, w.heap.size = B := ⟨_, rfl⟩
  have HW0 : Hid (w.heap.size = B) := hB
  rw [hB]
  have HA := Lib.hid hall
  have HV := Lib.hid hv
  have hbox : ∃ b off, vs ≠ [] → a = some ⟨b, off, none⟩ := by
    rcases hv with h | ⟨b, o, h, _⟩
    · exact ⟨0, 0, fun e => absurd h e⟩
    · exact ⟨b, o, fun _ => h⟩
  have HBOX := Lib.hid hbox
  clear hB hall hv hf hbox
  go_enter Try.func22, Try.ntmps22
  go_wp2_with fail
  refine (new_any w).mono ?_
  rintro e w1 ⟨r, rfl, hdk, hg⟩
  have h1 : One B r St.new w1 := by rw [← HW0.out]; exact ⟨_, hdk, fun b h => h⟩
  have HH1 : Hid (One B r (runs (vs.take 0) St.new) w1 ∧ Ov B w w1) := ⟨h1, Ov.grown hg⟩
  clear hdk hg h1
  go_wp2_with fail
  go_loopw [4] (fun i wr => ∃ k : Nat, k ≤ vs.length ∧ i = .int .i64 k ∧ Hid (One B r (runs (vs.take k) St.new) wr ∧ Ov B w wr)) (fun i _ => vs.length - (RowKit.intOf i).toNat)
  case atStart => exact ⟨0, by omega, rfl, HH1⟩
  case round =>
    clear HH1
    obtain ⟨k, hk, rfl, hat⟩ := hrel
    by_cases hlt : k < vs.length
    · obtain ⟨b, off, hne⟩ := HBOX.out
      obtain rfl := hne (fun e => by rw [e] at hlt; simp at hlt)
      clear hne
      obtain ⟨v, hvk⟩ : ∃ v, v = vs[k] := ⟨_, rfl⟩
      have hvl := HV.out.later (B := B) (Nat.le_of_eq HW0.out) hat.out.2
      have hcok : (∀ j u, v.cells[j]? = some u → wr.cell? ⟨b, off + k * 5 + j, none⟩ = some u) ∧ AOk w v := by
        rcases hvl with h | ⟨b', o', e, hc⟩
        · rw [h] at hlt; simp at hlt
        · cases e
          rw [hvk]
          refine ⟨(hc k hlt).1, ?_⟩
          rcases HV.out with h | ⟨b', o', e, hc0⟩
          · rw [h] at hlt; simp at hlt
          · exact (hc0 k hlt).2
      obtain ⟨hck, hok⟩ := hcok
      have f0 : wr.cell? ⟨b, off + k * 5, none⟩ = some (.int .i64 v.kd) := hck 0 _ rfl
      have f1 : wr.cell? ⟨b, off + k * 5 + 1, none⟩ = some (.int .i64 v.f) := hck 1 _ rfl
      have f2 : wr.cell? ⟨b, off + k * 5 + 2, none⟩ = some (.int .i64 v.n) := hck 2 _ rfl
      have f3 : wr.cell? ⟨b, off + k * 5 + 3, none⟩ = some (.string v.s) := hck 3 _ rfl
      have f4 : wr.cell? ⟨b, off + k * 5 + 4, none⟩ = some (.slice v.ka v.k.length v.kc) := hck 4 _ rfl
      have hz : B ≤ wr.heap.size := by have := hat.out.2.size; have := HW0.out; omega
      have HD := Lib.hid (do_one hat.out.1 hz v (HA.out v (by rw [hvk]; exact List.getElem_mem hlt)) hok (Nat.le_of_eq HW0.out) hat.out.2)
      have HS : Hid (runs (vs.take (k + 1)) St.new = v.run (runs (vs.take k) St.new)) := by unfold Hid; rw [runs_snoc _ _ _ hlt, hvk]
      have hlb := hok.lb
      have hsb := hok.sb
      clear hvk hvl hck hok
      go_wp2_with fail
      refine HD.out.mono ?_
      rintro e w2 ⟨rfl, h2, hb⟩
      have H2 : Hid (One B r (runs (vs.take (k + 1)) St.new) w2 ∧ Ov B w w2) := ⟨by rw [HS.out]; exact h2, hat.out.2.trans hb⟩
      clear h2 hb
      go_wp2_with fail
      go_roundw
      case rel => exact ⟨k + 1, by omega, by go_num, H2⟩
      case measure => simp [RowKit.intOf]; omega
    · have HK : Hid (runs (vs.take k) St.new = runs vs St.new) := runs_all vs _ k hlt
      go_wp2_with fail
      go_ret
      refine ⟨r, rfl, ?_, hat.out.2⟩
      rw [← HK.out]
      exact hat.out.1
end Go.Proofs.Ytkphmkhdlkdphaa
