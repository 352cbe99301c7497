/- The law UnitDims. -/
import Derived.Deep.CutRange
import Derived.Deep.CutBlock
import Derived.Test.YtmhdhabgdlefjaaGreatDoorPDims29
set_option maxRecDepth 100000
namespace Go.Proofs.YtmhdhabgdlefjaaGreatDoor.Un
open Go.RowKit Bi Dm

set_option maxHeartbeats 2000000 in
theorem dims_long (f : Nat → Int) (s : ByteArray) (n : Int) (hs : 38 < s.size) (hs2 : s.size ≤ 9223372036854775807) (w : World) (he : EnvU w) : Calls Tryz.prog 6 #[.agg #[.int .i64 (f 0), .int .i64 (f 1), .int .i64 (f 2), .int .i64 (f 3), .int .i64 (f 4), .int .i64 (f 5)], .string s, .int .u8 n] w fun e w' => e = .returned (.bool true) ∧ RowKit.Below w.heap.size w w' := by
  have HE := Lib.hid he
  have g1 : decide (38 < (s.size : Int)) = true := by simp; omega
  have g1' : decide (38 < s.size) = true := by simp; omega
  have s0 := ((Sf.start w).put [.int .i64 (f 0), .int .i64 (f 1), .int .i64 (f 2), .int .i64 (f 3), .int .i64 (f 4), .int .i64 (f 5)] 23)
  try simp only [World.size_alloc] at s0
  have S0 := Lib.hid s0
  clear s0
  go_enter Tryz.func6, Tryz.ntmps6
  go_wp2_with fail
  refine (sane_t _ (HE.out.below S0.out.below)).mono ?_
  rintro e w1 ⟨rfl, hb⟩
  have R1 := Lib.hid (S0.out.later hb)
  clear hb
  go_wp2_with fail
  go_ret
  exact ⟨rfl, R1.out.below⟩

set_option maxHeartbeats 16000000 in
theorem dims_n_none (f : Nat → Int) (s : ByteArray) (n : Int) (hs : s.size ≤ 38) (hd : ok f = false) (_hn : 0 ≤ n ∧ n ≤ 255) (hy : symL s.data.toList = none) (w : World) (he : EnvU w) : Calls Tryz.prog 6 #[.agg #[.int .i64 (f 0), .int .i64 (f 1), .int .i64 (f 2), .int .i64 (f 3), .int .i64 (f 4), .int .i64 (f 5)], .string s, .int .u8 n] w fun e w' => e = .returned (.bool true) ∧ RowKit.Below w.heap.size w w' := by
  have HE := Lib.hid he
  have g1 : decide (38 < (s.size : Int)) = false := by simp; omega
  have g1' : decide (38 < s.size) = false := by simp; omega
  have HR0 := Lib.hid (fun W => rightG f W)
  rw [hd] at HR0
  unfold cl at HR0
  have HSY := Lib.hid (fun W => u9sym_none s hy W)
  unfold Dm.Gives uc at HSY
  clear hy
  have s0 := ((Sf.start w).put [.int .i64 (f 0), .int .i64 (f 1), .int .i64 (f 2), .int .i64 (f 3), .int .i64 (f 4), .int .i64 (f 5)] 23)
  try simp only [World.size_alloc] at s0
  have S0 := Lib.hid s0
  clear s0
  go_enter Tryz.func6, Tryz.ntmps6
  go_wp2_with fail
  refine (sane_t _ (HE.out.below S0.out.below)).mono ?_
  rintro e w1 ⟨rfl, hb⟩
  have R1 := Lib.hid (S0.out.later hb)
  clear hb
  clear he hd _hn
  obtain ⟨q1, q2, q3, q4, q5, q6⟩ := Fb.cells6 (R1.out.box (w.heap.size, 23, [.int .i64 (f 0), .int .i64 (f 1), .int .i64 (f 2), .int .i64 (f 3), .int .i64 (f 4), .int .i64 (f 5)]) mq0)
  go_wp2_with fail
  clear q1 q2 q3 q4 q5 q6
  refine (HR0.out _).mono ?_
  rintro e w2 ⟨rfl, hb⟩
  have R2 := Lib.hid (R1.out.later hb)
  clear hb
  go_wp2_with fail
  refine (HSY.out _).mono ?_
  rintro e w3 ⟨rfl, hb⟩
  have R3 := Lib.hid (R2.out.later hb)
  clear hb
  have P7 := Lib.hid (R3.out.put [.int .i64 0, .int .i64 0, .int .i64 0, .int .i64 0, .int .i64 0, .int .i64 0, .int .i64 0, .slice none 0 0, .int .i64 0, .slice none 0 0] 30)
  have Q7 := Lib.hid (Sf.row (pre := []) P7.out [.int .i64 (zf 0), .int .i64 (zf 1), .int .i64 (zf 2), .int .i64 (zf 3), .int .i64 (zf 4), .int .i64 (zf 5), .int .i64 0, .slice none 0 0, .int .i64 0, .slice none 0 0])
  go_wp2_with (first | refine wpList_store_row rfl _ _ _ rfl _ #[.int .i64 (zf 0), .int .i64 (zf 1), .int .i64 (zf 2), .int .i64 (zf 3), .int .i64 (zf 4), .int .i64 (zf 5), .int .i64 0, .slice none 0 0, .int .i64 0, .slice none 0 0] rfl rfl _ _ (P7.out.box _ List.mem_cons_self) (by kernel_rfl) rfl (by simp [Value.oneCell']) ?_)
  go_ret
  exact ⟨rfl, Q7.out.below⟩

set_option maxHeartbeats 16000000 in
theorem dims_n_far (f : Nat → Int) (s : ByteArray) (n : Int) (hs : s.size ≤ 38) (hd : ok f = false) (hn : 0 ≤ n ∧ n ≤ 255) {b : Nat} {nn : Int} {q : Rat} (hy : symL s.data.toList = some (b, nn, q)) (hc : canP s.data.toList = false) (w : World) (he : EnvU w) : Calls Tryz.prog 6 #[.agg #[.int .i64 (f 0), .int .i64 (f 1), .int .i64 (f 2), .int .i64 (f 3), .int .i64 (f 4), .int .i64 (f 5)], .string s, .int .u8 n] w fun e w' => e = .returned (.bool true) ∧ RowKit.Below w.heap.size w w' := by
  have HE := Lib.hid he
  have g1 : decide (38 < (s.size : Int)) = false := by simp; omega
  have g1' : decide (38 < s.size) = false := by simp; omega
  have HR0 := Lib.hid (fun W => rightG f W)
  rw [hd] at HR0
  unfold cl at HR0
  have HSY := Lib.hid (fun W => u9sym_yes s hy W)
  obtain ⟨k, hk4, hm1, hm2⟩ := rem4 hn
  have HK4 := Lib.hid hk4
  have hwn : IntKind.i64.wrap n = n := IntWalk.i64_in _ (by omega)
  have hwk : IntKind.i64.wrap (k : Int) = (k : Int) := IntWalk.i64_in _ (by omega)
  obtain ⟨y1, y2, y3⟩ := sym_letters hy
  have hwd : wordL s.data.toList = some (b, nn, q) := by unfold wordL; rw [hy]
  have i1 := letters_items y1 (by omega) y3
  have e1 := word_one hwd
  have o1 := up_ok (b := b) (sym_n hy)
  have HRS := Lib.hid (fun W he => (uread_any s W he).mono fun _ _ h => read_gives i1 e1 o1 h)
  have hpw := pre_any hk4 hy
  have i2 : itemsL (PC k :: s.data.toList) = some [(PC k :: s.data.toList, 1)] := letters_items (by simp) (by simp; omega) (fun c hc => by
    rcases List.mem_cons.1 hc with rfl | hc
    · exact pc_letter hk4
    · exact y3 c hc)
  rw [hc] at hpw
  have HAD : Hid (∀ W : World, (Op.stringOp .add ⟨#[PC k]⟩ s).run Tryz.prog W = .ok (.string ⟨(PC k :: s.data.toList).toArray⟩) W) := Lib.hid (fun W => by
    have := run_string_add_lists (P := Tryz.prog) (w := W) [PC k] s.data.toList (by show (1 : Int) ≤ 8388608; decide) (by rw [sizeL]; omega)
    rw [show (⟨s.data.toList.toArray⟩ : ByteArray) = s by apply ByteArray.ext; simp] at this
    exact this)
  have e2 := word_no (w := PC k :: s.data.toList) (by simpa using hpw)
  have HRC : Hid (∀ W, EnvU W → Calls Tryz.prog 10 #[.string ⟨(PC k :: s.data.toList).toArray⟩] W (UZE 11 W)) := Lib.hid (fun W he => (uread_any ⟨(PC k :: s.data.toList).toArray⟩ W he).mono fun _ _ h => read_fails (by show failsI (PC k :: s.data.toList) = 11; unfold failsI; rw [i2]; dsimp only; rw [e2]) (by decide) h)
  unfold UZE uc at HRC
  obtain ⟨c1, c2, c3, c4, c5, c6⟩ := can_not hc
  obtain ⟨v1, v2, v3, v4⟩ := str_lit s [103] false true (by simpa using c1) rfl
  obtain ⟨v5, v6, v7, v8⟩ := str_lit s [109] false true (by simpa using c2) rfl
  obtain ⟨v9, v10, v11, v12⟩ := str_lit s [108] false true (by simpa using c3) rfl
  obtain ⟨v13, v14, v15, v16⟩ := str_lit s [115] false true (by simpa using c4) rfl
  obtain ⟨v17, v18, v19, v20⟩ := str_lit s [74] false true (by simpa using c5) rfl
  obtain ⟨v21, v22, v23, v24⟩ := str_lit s [87, 104] false true (by simpa using c6) rfl
  clear c1 c2 c3 c4 c5 c6 e2
  obtain ⟨CS, hCS⟩ : ∃ T : ByteArray, ⟨(PC k :: s.data.toList).toArray⟩ = T := ⟨_, rfl⟩
  rw [hCS] at HAD HRC
  obtain ⟨PK, hPK⟩ : ∃ T : ByteArray, ⟨#[PC k]⟩ = T := ⟨_, rfl⟩
  rw [hPK] at HAD
  have HPK := Lib.hid hPK
  obtain ⟨G, hG⟩ : ∃ G, up zf b nn = G := ⟨_, rfl⟩
  rw [hG] at HSY HRS
  have HJ1 := Lib.hid (fun W => rfint_r (z := 1000) (r := PT 0) (by decide) rfl W)
  have HJ2 := Lib.hid (fun W => rfint_r (z := 1000000) (r := PT 1) (by decide) rfl W)
  have HJ3 := Lib.hid (fun W => rfint_r (z := 1000000000) (r := PT 2) (by decide) rfl W)
  have HJ4 := Lib.hid (fun W => rfof_r (r := PT 3) 1 1000 (by decide) (by decide) (by decide) (by decide +kernel) W)
  have heg := eq_dim G G
  rw [eqB_refl] at heg
  unfold cl at heg
  have HS0 := Lib.hid (sizeL s)
  clear y1 y2 y3 hwd i1 e1 o1 hpw i2 hCS hPK hG hy hc hk4
  have s0 := ((Sf.start w).put [.int .i64 (f 0), .int .i64 (f 1), .int .i64 (f 2), .int .i64 (f 3), .int .i64 (f 4), .int .i64 (f 5)] 23)
  try simp only [World.size_alloc] at s0
  have S0 := Lib.hid s0
  clear s0
  go_enter Tryz.func6, Tryz.ntmps6
  go_wp2_with fail
  refine (sane_t _ (HE.out.below S0.out.below)).mono ?_
  rintro e w1 ⟨rfl, hb⟩
  have R1 := Lib.hid (S0.out.later hb)
  clear hb
  clear he hd hn
  obtain ⟨q1, q2, q3, q4, q5, q6⟩ := Fb.cells6 (R1.out.box (w.heap.size, 23, [.int .i64 (f 0), .int .i64 (f 1), .int .i64 (f 2), .int .i64 (f 3), .int .i64 (f 4), .int .i64 (f 5)]) mq0)
  go_wp2_with fail
  clear q1 q2 q3 q4 q5 q6
  refine (HR0.out _).mono ?_
  rintro e w2 ⟨rfl, hb⟩
  have R2 := Lib.hid (R1.out.later hb)
  clear hb
  go_wp2_with fail
  refine (HSY.out _).mono ?_
  rintro e w3 ⟨sx3, ax3, nx3, cx3, bx3, mx3, dx3, rfl, hr, hb, hf, hg⟩
  have E3 := Lib.hid hr.1.1
  have R3 := Lib.hid (R2.out.ret2 hb hr.1.2 hf hr.2.2 hg)
  have FF3 := Lib.hid (hf.mono R2.out.below.size)
  have FG3 := Lib.hid (hg.mono R2.out.below.size)
  clear hr hb hf hg
  have P7 := Lib.hid (R3.out.put [.int .i64 0, .int .i64 0, .int .i64 0, .int .i64 0, .int .i64 0, .int .i64 0, .int .i64 0, .slice none 0 0, .int .i64 0, .slice none 0 0] 30)
  have Q7 := Lib.hid (Sf.row (pre := []) P7.out [.int .i64 (G 0), .int .i64 (G 1), .int .i64 (G 2), .int .i64 (G 3), .int .i64 (G 4), .int .i64 (G 5), .int .i64 sx3, .slice ax3 nx3 cx3, .int .i64 1, .slice bx3 mx3 dx3])
  go_upto_region 12 with (refine wpList_store_row rfl _ _ _ rfl _ #[.int .i64 (G 0), .int .i64 (G 1), .int .i64 (G 2), .int .i64 (G 3), .int .i64 (G 4), .int .i64 (G 5), .int .i64 sx3, .slice ax3 nx3 cx3, .int .i64 1, .slice bx3 mx3 dx3] rfl rfl _ _ (P7.out.box _ List.mem_cons_self) (by kernel_rfl) rfl (by simp [Value.oneCell']) ?_)
  obtain ⟨WB, hWB⟩ : ∃ W, ((w3.alloc (.cells #[.int .i64 0, .int .i64 0, .int .i64 0, .int .i64 0, .int .i64 0, .int .i64 0, .int .i64 0, .slice none 0 0, .int .i64 0, .slice none 0 0] 30)).setRow w3.heap.size #[.int .i64 (G 0), .int .i64 (G 1), .int .i64 (G 2), .int .i64 (G 3), .int .i64 (G 4), .int .i64 (G 5), .int .i64 sx3, .slice ax3 nx3 cx3, .int .i64 1, .slice bx3 mx3 dx3]) = W := ⟨_, rfl⟩
  rw [hWB] at Q7 ⊢
  clear hWB
  have P8 := Lib.hid (Q7.out.put [.string ⟨#[107]⟩, .string ⟨#[77]⟩, .string ⟨#[71]⟩, .string ⟨#[109]⟩] 9)
  go_upto_region 13 with fail
  obtain ⟨WC, hWC⟩ : ∃ W, (WB.alloc (.cells #[.string ⟨#[107]⟩, .string ⟨#[77]⟩, .string ⟨#[71]⟩, .string ⟨#[109]⟩] 9)) = W := ⟨_, rfl⟩
  rw [hWC] at P8 ⊢
  clear hWC
  obtain ⟨PB, hPB⟩ : ∃ B, WB.heap.size = B := ⟨_, rfl⟩
  rw [hPB] at P8 ⊢
  clear hPB
  go_cut [14] from 61 to 66 (fun u wx => Hid (∃ (gt : Nat) (sj1 : Int) (aj1 : Option Addr) (nj1 cj1 : Nat) (bj1 : Option Addr) (mj1 dj1 : Nat) (sj2 : Int) (aj2 : Option Addr) (nj2 cj2 : Nat) (bj2 : Option Addr) (mj2 dj2 : Nat) (sj3 : Int) (aj3 : Option Addr) (nj3 cj3 : Nat) (bj3 : Option Addr) (mj3 dj3 : Nat), u = .slice (some ⟨gt, 0, none⟩) 4 4 ∧ sj1 = (PT 0).num.sign ∧ sj2 = (PT 1).num.sign ∧ sj3 = (PT 2).num.sign ∧ Sf w ((gt, 28, [.int .i64 sj1, .slice aj1 nj1 cj1, .int .i64 1, .slice bj1 mj1 dj1, .int .i64 sj2, .slice aj2 nj2 cj2, .int .i64 1, .slice bj2 mj2 dj2, .int .i64 sj3, .slice aj3 nj3 cj3, .int .i64 1, .slice bj3 mj3 dj3, .int .i64 sx3, .slice ax3 nx3 cx3, .int .i64 1, .slice bx3 mx3 dx3]) :: [(PB, 9, [.string ⟨#[107]⟩, .string ⟨#[77]⟩, .string ⟨#[71]⟩, .string ⟨#[109]⟩]), (w3.heap.size, 30, [.int .i64 (G 0), .int .i64 (G 1), .int .i64 (G 2), .int .i64 (G 3), .int .i64 (G 4), .int .i64 (G 5), .int .i64 sx3, .slice ax3 nx3 cx3, .int .i64 1, .slice bx3 mx3 dx3]), (w.heap.size, 23, [.int .i64 (f 0), .int .i64 (f 1), .int .i64 (f 2), .int .i64 (f 3), .int .i64 (f 4), .int .i64 (f 5)])]) [(.slice aj3 nj3 cj3, digs (PT 2).num.natAbs), (.slice bj3 mj3 dj3, digs (((PT 2).den : Int)).natAbs), (.slice aj2 nj2 cj2, digs (PT 1).num.natAbs), (.slice bj2 mj2 dj2, digs (((PT 1).den : Int)).natAbs), (.slice aj1 nj1 cj1, digs (PT 0).num.natAbs), (.slice bj1 mj1 dj1, digs (((PT 0).den : Int)).natAbs), (.slice ax3 nx3 cx3, digs (q).num.natAbs), (.slice bx3 mx3 dx3, digs (((q).den : Int)).natAbs)] wx))
  case first =>
    have K0 : ∀ W F, Sf w [(PB, 9, [.string ⟨#[107]⟩, .string ⟨#[77]⟩, .string ⟨#[71]⟩, .string ⟨#[109]⟩]), (w3.heap.size, 30, [.int .i64 (G 0), .int .i64 (G 1), .int .i64 (G 2), .int .i64 (G 3), .int .i64 (G 4), .int .i64 (G 5), .int .i64 sx3, .slice ax3 nx3 cx3, .int .i64 1, .slice bx3 mx3 dx3]), (w.heap.size, 23, [.int .i64 (f 0), .int .i64 (f 1), .int .i64 (f 2), .int .i64 (f 3), .int .i64 (f 4), .int .i64 (f 5)])] F W → W.cell? ⟨w3.heap.size, 0, none⟩ = some (.int .i64 (G 0)) ∧ W.cell? ⟨w3.heap.size, 1, none⟩ = some (.int .i64 (G 1)) ∧ W.cell? ⟨w3.heap.size, 2, none⟩ = some (.int .i64 (G 2)) ∧ W.cell? ⟨w3.heap.size, 3, none⟩ = some (.int .i64 (G 3)) ∧ W.cell? ⟨w3.heap.size, 4, none⟩ = some (.int .i64 (G 4)) ∧ W.cell? ⟨w3.heap.size, 5, none⟩ = some (.int .i64 (G 5)) ∧ W.cell? ⟨w3.heap.size, 6, none⟩ = some (.int .i64 sx3) ∧ W.cell? ⟨w3.heap.size, 7, none⟩ = some (.slice ax3 nx3 cx3) ∧ W.cell? ⟨w3.heap.size, 8, none⟩ = some (.int .i64 1) ∧ W.cell? ⟨w3.heap.size, 9, none⟩ = some (.slice bx3 mx3 dx3) := fun W F h => ⟨(h.box (w3.heap.size, 30, [.int .i64 (G 0), .int .i64 (G 1), .int .i64 (G 2), .int .i64 (G 3), .int .i64 (G 4), .int .i64 (G 5), .int .i64 sx3, .slice ax3 nx3 cx3, .int .i64 1, .slice bx3 mx3 dx3]) mq1).cell 0, (h.box (w3.heap.size, 30, [.int .i64 (G 0), .int .i64 (G 1), .int .i64 (G 2), .int .i64 (G 3), .int .i64 (G 4), .int .i64 (G 5), .int .i64 sx3, .slice ax3 nx3 cx3, .int .i64 1, .slice bx3 mx3 dx3]) mq1).cell 1, (h.box (w3.heap.size, 30, [.int .i64 (G 0), .int .i64 (G 1), .int .i64 (G 2), .int .i64 (G 3), .int .i64 (G 4), .int .i64 (G 5), .int .i64 sx3, .slice ax3 nx3 cx3, .int .i64 1, .slice bx3 mx3 dx3]) mq1).cell 2, (h.box (w3.heap.size, 30, [.int .i64 (G 0), .int .i64 (G 1), .int .i64 (G 2), .int .i64 (G 3), .int .i64 (G 4), .int .i64 (G 5), .int .i64 sx3, .slice ax3 nx3 cx3, .int .i64 1, .slice bx3 mx3 dx3]) mq1).cell 3, (h.box (w3.heap.size, 30, [.int .i64 (G 0), .int .i64 (G 1), .int .i64 (G 2), .int .i64 (G 3), .int .i64 (G 4), .int .i64 (G 5), .int .i64 sx3, .slice ax3 nx3 cx3, .int .i64 1, .slice bx3 mx3 dx3]) mq1).cell 4, (h.box (w3.heap.size, 30, [.int .i64 (G 0), .int .i64 (G 1), .int .i64 (G 2), .int .i64 (G 3), .int .i64 (G 4), .int .i64 (G 5), .int .i64 sx3, .slice ax3 nx3 cx3, .int .i64 1, .slice bx3 mx3 dx3]) mq1).cell 5, (h.box (w3.heap.size, 30, [.int .i64 (G 0), .int .i64 (G 1), .int .i64 (G 2), .int .i64 (G 3), .int .i64 (G 4), .int .i64 (G 5), .int .i64 sx3, .slice ax3 nx3 cx3, .int .i64 1, .slice bx3 mx3 dx3]) mq1).cell 6, (h.box (w3.heap.size, 30, [.int .i64 (G 0), .int .i64 (G 1), .int .i64 (G 2), .int .i64 (G 3), .int .i64 (G 4), .int .i64 (G 5), .int .i64 sx3, .slice ax3 nx3 cx3, .int .i64 1, .slice bx3 mx3 dx3]) mq1).cell 7, (h.box (w3.heap.size, 30, [.int .i64 (G 0), .int .i64 (G 1), .int .i64 (G 2), .int .i64 (G 3), .int .i64 (G 4), .int .i64 (G 5), .int .i64 sx3, .slice ax3 nx3 cx3, .int .i64 1, .slice bx3 mx3 dx3]) mq1).cell 8, (h.box (w3.heap.size, 30, [.int .i64 (G 0), .int .i64 (G 1), .int .i64 (G 2), .int .i64 (G 3), .int .i64 (G 4), .int .i64 (G 5), .int .i64 sx3, .slice ax3 nx3 cx3, .int .i64 1, .slice bx3 mx3 dx3]) mq1).cell 9⟩
    have KK := Lib.hid K0
    clear K0
    have K0 : ∀ W F x, Sf w (x :: [(PB, 9, [.string ⟨#[107]⟩, .string ⟨#[77]⟩, .string ⟨#[71]⟩, .string ⟨#[109]⟩]), (w3.heap.size, 30, [.int .i64 (G 0), .int .i64 (G 1), .int .i64 (G 2), .int .i64 (G 3), .int .i64 (G 4), .int .i64 (G 5), .int .i64 sx3, .slice ax3 nx3 cx3, .int .i64 1, .slice bx3 mx3 dx3]), (w.heap.size, 23, [.int .i64 (f 0), .int .i64 (f 1), .int .i64 (f 2), .int .i64 (f 3), .int .i64 (f 4), .int .i64 (f 5)])]) F W → W.cell? ⟨w3.heap.size, 0, none⟩ = some (.int .i64 (G 0)) ∧ W.cell? ⟨w3.heap.size, 1, none⟩ = some (.int .i64 (G 1)) ∧ W.cell? ⟨w3.heap.size, 2, none⟩ = some (.int .i64 (G 2)) ∧ W.cell? ⟨w3.heap.size, 3, none⟩ = some (.int .i64 (G 3)) ∧ W.cell? ⟨w3.heap.size, 4, none⟩ = some (.int .i64 (G 4)) ∧ W.cell? ⟨w3.heap.size, 5, none⟩ = some (.int .i64 (G 5)) ∧ W.cell? ⟨w3.heap.size, 6, none⟩ = some (.int .i64 sx3) ∧ W.cell? ⟨w3.heap.size, 7, none⟩ = some (.slice ax3 nx3 cx3) ∧ W.cell? ⟨w3.heap.size, 8, none⟩ = some (.int .i64 1) ∧ W.cell? ⟨w3.heap.size, 9, none⟩ = some (.slice bx3 mx3 dx3) := fun W F x h => ⟨(h.box (w3.heap.size, 30, [.int .i64 (G 0), .int .i64 (G 1), .int .i64 (G 2), .int .i64 (G 3), .int .i64 (G 4), .int .i64 (G 5), .int .i64 sx3, .slice ax3 nx3 cx3, .int .i64 1, .slice bx3 mx3 dx3]) mq2).cell 0, (h.box (w3.heap.size, 30, [.int .i64 (G 0), .int .i64 (G 1), .int .i64 (G 2), .int .i64 (G 3), .int .i64 (G 4), .int .i64 (G 5), .int .i64 sx3, .slice ax3 nx3 cx3, .int .i64 1, .slice bx3 mx3 dx3]) mq2).cell 1, (h.box (w3.heap.size, 30, [.int .i64 (G 0), .int .i64 (G 1), .int .i64 (G 2), .int .i64 (G 3), .int .i64 (G 4), .int .i64 (G 5), .int .i64 sx3, .slice ax3 nx3 cx3, .int .i64 1, .slice bx3 mx3 dx3]) mq2).cell 2, (h.box (w3.heap.size, 30, [.int .i64 (G 0), .int .i64 (G 1), .int .i64 (G 2), .int .i64 (G 3), .int .i64 (G 4), .int .i64 (G 5), .int .i64 sx3, .slice ax3 nx3 cx3, .int .i64 1, .slice bx3 mx3 dx3]) mq2).cell 3, (h.box (w3.heap.size, 30, [.int .i64 (G 0), .int .i64 (G 1), .int .i64 (G 2), .int .i64 (G 3), .int .i64 (G 4), .int .i64 (G 5), .int .i64 sx3, .slice ax3 nx3 cx3, .int .i64 1, .slice bx3 mx3 dx3]) mq2).cell 4, (h.box (w3.heap.size, 30, [.int .i64 (G 0), .int .i64 (G 1), .int .i64 (G 2), .int .i64 (G 3), .int .i64 (G 4), .int .i64 (G 5), .int .i64 sx3, .slice ax3 nx3 cx3, .int .i64 1, .slice bx3 mx3 dx3]) mq2).cell 5, (h.box (w3.heap.size, 30, [.int .i64 (G 0), .int .i64 (G 1), .int .i64 (G 2), .int .i64 (G 3), .int .i64 (G 4), .int .i64 (G 5), .int .i64 sx3, .slice ax3 nx3 cx3, .int .i64 1, .slice bx3 mx3 dx3]) mq2).cell 6, (h.box (w3.heap.size, 30, [.int .i64 (G 0), .int .i64 (G 1), .int .i64 (G 2), .int .i64 (G 3), .int .i64 (G 4), .int .i64 (G 5), .int .i64 sx3, .slice ax3 nx3 cx3, .int .i64 1, .slice bx3 mx3 dx3]) mq2).cell 7, (h.box (w3.heap.size, 30, [.int .i64 (G 0), .int .i64 (G 1), .int .i64 (G 2), .int .i64 (G 3), .int .i64 (G 4), .int .i64 (G 5), .int .i64 sx3, .slice ax3 nx3 cx3, .int .i64 1, .slice bx3 mx3 dx3]) mq2).cell 8, (h.box (w3.heap.size, 30, [.int .i64 (G 0), .int .i64 (G 1), .int .i64 (G 2), .int .i64 (G 3), .int .i64 (G 4), .int .i64 (G 5), .int .i64 sx3, .slice ax3 nx3 cx3, .int .i64 1, .slice bx3 mx3 dx3]) mq2).cell 9⟩
    have KU := Lib.hid K0
    clear K0
    have N0 := Lib.hid P8.out.drew
    clear P8
    have e0 := KK.out _ _ N0.out
    go_region_held3 (fun W => W.cell? ⟨w3.heap.size, 0, none⟩ = some (.int .i64 (G 0)) ∧ W.cell? ⟨w3.heap.size, 1, none⟩ = some (.int .i64 (G 1)) ∧ W.cell? ⟨w3.heap.size, 2, none⟩ = some (.int .i64 (G 2)) ∧ W.cell? ⟨w3.heap.size, 3, none⟩ = some (.int .i64 (G 3)) ∧ W.cell? ⟨w3.heap.size, 4, none⟩ = some (.int .i64 (G 4)) ∧ W.cell? ⟨w3.heap.size, 5, none⟩ = some (.int .i64 (G 5)) ∧ W.cell? ⟨w3.heap.size, 6, none⟩ = some (.int .i64 sx3) ∧ W.cell? ⟨w3.heap.size, 7, none⟩ = some (.slice ax3 nx3 cx3) ∧ W.cell? ⟨w3.heap.size, 8, none⟩ = some (.int .i64 1) ∧ W.cell? ⟨w3.heap.size, 9, none⟩ = some (.slice bx3 mx3 dx3))
      (first | (with_reducible exact e0) | (with_reducible exact e1) | (with_reducible exact e2) | (with_reducible exact e3) | (with_reducible exact e4) | go_keep)
      (first
          | (have hG := N2; clear hG; go_at_call 30; (with_reducible refine (HJ3.out _).mono ?_); rintro e y3 ⟨sj3, aj3, nj3, cj3, bj3, mj3, dj3, rfl, hr, hb, hf, hg⟩; have EJ3 := Lib.hid hr.1.1; have N3 := Lib.hid (N2.out.ret2 hb hr.1.2 hf hr.2.2 hg); clear hr hb hf hg; have e3 := KK.out _ _ N3.out; have NP := Lib.hid (N3.out.put [.int .i64 sj1, .slice aj1 nj1 cj1, .int .i64 1, .slice bj1 mj1 dj1, .int .i64 sj2, .slice aj2 nj2 cj2, .int .i64 1, .slice bj2 mj2 dj2, .int .i64 sj3, .slice aj3 nj3 cj3, .int .i64 1, .slice bj3 mj3 dj3, .int .i64 sx3, .slice ax3 nx3 cx3, .int .i64 1, .slice bx3 mx3 dx3] 28); have e4 := KU.out _ _ _ NP.out)
          | (have hG := N1; clear hG; go_at_call 30; (with_reducible refine (HJ2.out _).mono ?_); rintro e y2 ⟨sj2, aj2, nj2, cj2, bj2, mj2, dj2, rfl, hr, hb, hf, hg⟩; have EJ2 := Lib.hid hr.1.1; have N2 := Lib.hid (N1.out.ret2 hb hr.1.2 hf hr.2.2 hg); clear hr hb hf hg; have e2 := KK.out _ _ N2.out)
          | (have hG := N0; clear hG; go_at_call 30; (with_reducible refine (HJ1.out _).mono ?_); rintro e y1 ⟨sj1, aj1, nj1, cj1, bj1, mj1, dj1, rfl, hr, hb, hf, hg⟩; have EJ1 := Lib.hid hr.1.1; have N1 := Lib.hid (N0.out.ret2 hb hr.1.2 hf hr.2.2 hg); clear hr hb hf hg; have e1 := KK.out _ _ N1.out))
    all_goals (go_wp2_with fail; go_meet; exact ⟨_, _, _, _, _, _, _, _, _, _, _, _, _, _, _, _, _, _, _, _, _, _, rfl, EJ1.out, EJ2.out, EJ3.out, NP.out⟩)
  case rest =>
  obtain ⟨gt, sj1, aj1, nj1, cj1, bj1, mj1, dj1, sj2, aj2, nj2, cj2, bj2, mj2, dj2, sj3, aj3, nj3, cj3, bj3, mj3, dj3, rfl, ej1, ej2, ej3, hsj⟩ := hcut.out
  obtain ⟨w61, rfl⟩ : ∃ W, W = wc := ⟨_, rfl⟩
  have R61 := Lib.hid hsj
  have EJ1 := Lib.hid ej1
  have EJ2 := Lib.hid ej2
  have EJ3 := Lib.hid ej3
  clear hcut ej1 ej2 ej3 hsj P8
  have hf3 : ∀ W : World, (Instr.indexAt 58 (.slice (some ⟨gt, 0, none⟩) 4 4) (.int .i64 3)).run Tryz.prog W = .ok (.pointer (some ⟨gt, 12, none⟩)) W := fun W => ft_at gt 3 (by decide) W
  go_wp2_with fail
  refine (HJ4.out _).mono ?_
  rintro e w62 ⟨sx62, ax62, nx62, cx62, bx62, mx62, dx62, rfl, hr, hb, hf, hg⟩
  have E62 := Lib.hid hr.1.1
  have R62 := Lib.hid (R61.out.ret2 hb hr.1.2 hf hr.2.2 hg)
  have FF62 := Lib.hid (hf.mono R61.out.below.size)
  have FG62 := Lib.hid (hg.mono R61.out.below.size)
  clear hr hb hf hg
  have Q9 : Hid (Sf w ([] ++ (gt, 28, [.int .i64 sj1, .slice aj1 nj1 cj1, .int .i64 1, .slice bj1 mj1 dj1, .int .i64 sj2, .slice aj2 nj2 cj2, .int .i64 1, .slice bj2 mj2 dj2, .int .i64 sj3, .slice aj3 nj3 cj3, .int .i64 1, .slice bj3 mj3 dj3, .int .i64 sx62, .slice ax62 nx62 cx62, .int .i64 1, .slice bx62 mx62 dx62]) :: [(PB, 9, [.string ⟨#[107]⟩, .string ⟨#[77]⟩, .string ⟨#[71]⟩, .string ⟨#[109]⟩]), (w3.heap.size, 30, [.int .i64 (G 0), .int .i64 (G 1), .int .i64 (G 2), .int .i64 (G 3), .int .i64 (G 4), .int .i64 (G 5), .int .i64 sx3, .slice ax3 nx3 cx3, .int .i64 1, .slice bx3 mx3 dx3]), (w.heap.size, 23, [.int .i64 (f 0), .int .i64 (f 1), .int .i64 (f 2), .int .i64 (f 3), .int .i64 (f 4), .int .i64 (f 5)])]) _ _) := Lib.hid (Sf.part (pre := []) R62.out 12 13 14 15 rfl rfl rfl (.int .i64 sx62) (.slice ax62 nx62 cx62) (.int .i64 1) (.slice bx62 mx62 dx62))
  obtain ⟨V9, hV9⟩ : ∃ V, (((((w62).setCell ⟨gt, 12, none⟩ (.int .i64 sx62)).setCell ⟨gt, 13, none⟩ (.slice ax62 nx62 cx62)).setCell ⟨gt, 14, none⟩ (.int .i64 1)).setCell ⟨gt, 15, none⟩ (.slice bx62 mx62 dx62)) = V := ⟨_, rfl⟩
  rw [hV9] at Q9
  have HV9 := Lib.hid hV9
  clear hV9
  go_upto_region 15 with ((refine wpList_store4 rfl _ _ _ rfl _ 12 13 14 15 rfl rfl rfl (.int .i64 sx62) (.slice ax62 nx62 cx62) (.int .i64 1) (.slice bx62 mx62 dx62) rfl rfl (R62.out.box _ mq0) (Nat.le_of_ble_eq_true rfl) infoFrac (by simp [Value.oneCell']) ?_; rw [HV9.out]))
  clear hf3
  obtain ⟨sk, ak, nk, ck, bk, mk, dk, hkc, hks, hkv, hku⟩ : ∃ (sk : Int) (ak : Option Addr) (nk ck : Nat) (bk : Option Addr) (mk dk : Nat), (∀ W, Fb (gt, 28, [.int .i64 sj1, .slice aj1 nj1 cj1, .int .i64 1, .slice bj1 mj1 dj1, .int .i64 sj2, .slice aj2 nj2 cj2, .int .i64 1, .slice bj2 mj2 dj2, .int .i64 sj3, .slice aj3 nj3 cj3, .int .i64 1, .slice bj3 mj3 dj3, .int .i64 sx62, .slice ax62 nx62 cx62, .int .i64 1, .slice bx62 mx62 dx62]) W → W.cell? ⟨gt, k * 4, none⟩ = some (.int .i64 sk) ∧ W.cell? ⟨gt, k * 4 + 1, none⟩ = some (.slice ak nk ck) ∧ W.cell? ⟨gt, k * 4 + 2, none⟩ = some (.int .i64 1) ∧ W.cell? ⟨gt, k * 4 + 3, none⟩ = some (.slice bk mk dk)) ∧ sk = (PT k).num.sign ∧ (.slice ak nk ck, digs (PT k).num.natAbs) ∈ ([(.slice ax62 nx62 cx62, digs (PT 3).num.natAbs), (.slice bx62 mx62 dx62, digs (((PT 3).den : Int)).natAbs), (.slice aj3 nj3 cj3, digs (PT 2).num.natAbs), (.slice bj3 mj3 dj3, digs (((PT 2).den : Int)).natAbs), (.slice aj2 nj2 cj2, digs (PT 1).num.natAbs), (.slice bj2 mj2 dj2, digs (((PT 1).den : Int)).natAbs), (.slice aj1 nj1 cj1, digs (PT 0).num.natAbs), (.slice bj1 mj1 dj1, digs (((PT 0).den : Int)).natAbs), (.slice ax3 nx3 cx3, digs (q).num.natAbs), (.slice bx3 mx3 dx3, digs (((q).den : Int)).natAbs)] : List (Value × List Int)) ∧ (.slice bk mk dk, digs (((PT k).den : Int)).natAbs) ∈ ([(.slice ax62 nx62 cx62, digs (PT 3).num.natAbs), (.slice bx62 mx62 dx62, digs (((PT 3).den : Int)).natAbs), (.slice aj3 nj3 cj3, digs (PT 2).num.natAbs), (.slice bj3 mj3 dj3, digs (((PT 2).den : Int)).natAbs), (.slice aj2 nj2 cj2, digs (PT 1).num.natAbs), (.slice bj2 mj2 dj2, digs (((PT 1).den : Int)).natAbs), (.slice aj1 nj1 cj1, digs (PT 0).num.natAbs), (.slice bj1 mj1 dj1, digs (((PT 0).den : Int)).natAbs), (.slice ax3 nx3 cx3, digs (q).num.natAbs), (.slice bx3 mx3 dx3, digs (((q).den : Int)).natAbs)] : List (Value × List Int)) := by
    obtain rfl | rfl | rfl | rfl := lt4 HK4.out
    · exact ⟨_, _, _, _, _, _, _, fun W h => ⟨h.cell 0, h.cell 1, h.cell 2, h.cell 3⟩, EJ1.out, mq6, mq7⟩
    · exact ⟨_, _, _, _, _, _, _, fun W h => ⟨h.cell 4, h.cell 5, h.cell 6, h.cell 7⟩, EJ2.out, mq4, mq5⟩
    · exact ⟨_, _, _, _, _, _, _, fun W h => ⟨h.cell 8, h.cell 9, h.cell 10, h.cell 11⟩, EJ3.out, mq2, mq3⟩
    · exact ⟨_, _, _, _, _, _, _, fun W h => ⟨h.cell 12, h.cell 13, h.cell 14, h.cell 15⟩, E62.out, mq0, mq1⟩
  have HKC := Lib.hid hkc
  have EK := Lib.hid hks
  have HKV := Lib.hid hkv
  have HKU := Lib.hid hku
  clear hkc hks hkv hku
  have HPC : Hid (∀ W, Fb (PB, 9, [.string ⟨#[107]⟩, .string ⟨#[77]⟩, .string ⟨#[71]⟩, .string ⟨#[109]⟩]) W → W.cell? ⟨PB, k, none⟩ = some (.string PK)) := Lib.hid (fun W h => by
    rw [← HPK.out]
    obtain rfl | rfl | rfl | rfl := lt4 HK4.out
    · exact h.cell 0
    · exact h.cell 1
    · exact h.cell 2
    · exact h.cell 3)
  go_wp2_with fail
  refine (HRS.out _ (HE.out.below Q9.out.below)).mono ?_
  rintro e w63 ⟨sx63, ax63, nx63, cx63, bx63, mx63, dx63, rfl, hr, hb, hf, hg⟩
  have E63 := Lib.hid hr.1.1
  have R63 := Lib.hid (Q9.out.ret2 hb hr.1.2 hf hr.2.2 hg)
  have FF63 := Lib.hid (hf.mono Q9.out.below.size)
  have FG63 := Lib.hid (hg.mono Q9.out.below.size)
  clear hr hb hf hg
  have P10 := Lib.hid (R63.out.put [.int .i64 0, .int .i64 0, .int .i64 0, .int .i64 0, .int .i64 0, .int .i64 0, .int .i64 0, .slice none 0 0, .int .i64 0, .slice none 0 0] 30)
  have Q10 := Lib.hid (Sf.row (pre := []) P10.out [.int .i64 (G 0), .int .i64 (G 1), .int .i64 (G 2), .int .i64 (G 3), .int .i64 (G 4), .int .i64 (G 5), .int .i64 sx63, .slice ax63 nx63 cx63, .int .i64 1, .slice bx63 mx63 dx63])
  have hst := st_at PB k HK4.out
  have had := HAD.out
  have hpc := HPC.out _ (Q10.out.box (PB, 9, [.string ⟨#[107]⟩, .string ⟨#[77]⟩, .string ⟨#[71]⟩, .string ⟨#[109]⟩]) mq2)
  go_wp2_with (first | refine wpList_store_row rfl _ _ _ rfl _ #[.int .i64 (G 0), .int .i64 (G 1), .int .i64 (G 2), .int .i64 (G 3), .int .i64 (G 4), .int .i64 (G 5), .int .i64 sx63, .slice ax63 nx63 cx63, .int .i64 1, .slice bx63 mx63 dx63] rfl rfl _ _ (P10.out.box _ List.mem_cons_self) (by kernel_rfl) rfl (by simp [Value.oneCell']) ?_)
  clear hst had hpc
  refine (HRC.out _ (HE.out.below Q10.out.below)).mono ?_
  rintro e w64 ⟨rfl, hb⟩
  have R64 := Lib.hid (Q10.out.later hb)
  clear hb
  have P11 := Lib.hid (R64.out.put [.int .i64 0, .int .i64 0, .int .i64 0, .int .i64 0, .int .i64 0, .int .i64 0, .int .i64 0, .slice none 0 0, .int .i64 0, .slice none 0 0] 30)
  have Q11 := Lib.hid (Sf.row (pre := []) P11.out [.int .i64 (zf 0), .int .i64 (zf 1), .int .i64 (zf 2), .int .i64 (zf 3), .int .i64 (zf 4), .int .i64 (zf 5), .int .i64 0, .slice none 0 0, .int .i64 0, .slice none 0 0])
  obtain ⟨q12, q13, q14, q15, q16, q17, q18, q19, q20, q21⟩ := Fb.cells10 (Q11.out.box (w3.heap.size, 30, [.int .i64 (G 0), .int .i64 (G 1), .int .i64 (G 2), .int .i64 (G 3), .int .i64 (G 4), .int .i64 (G 5), .int .i64 sx3, .slice ax3 nx3 cx3, .int .i64 1, .slice bx3 mx3 dx3]) mq4)
  obtain ⟨q22, q23, q24, q25, q26, q27, q28, q29, q30, q31⟩ := Fb.cells10 (Q11.out.box (w63.heap.size, 30, [.int .i64 (G 0), .int .i64 (G 1), .int .i64 (G 2), .int .i64 (G 3), .int .i64 (G 4), .int .i64 (G 5), .int .i64 sx63, .slice ax63 nx63 cx63, .int .i64 1, .slice bx63 mx63 dx63]) mq1)
  go_wp2_with (first | refine wpList_store_row rfl _ _ _ rfl _ #[.int .i64 (zf 0), .int .i64 (zf 1), .int .i64 (zf 2), .int .i64 (zf 3), .int .i64 (zf 4), .int .i64 (zf 5), .int .i64 0, .slice none 0 0, .int .i64 0, .slice none 0 0] rfl rfl _ _ (P11.out.box _ List.mem_cons_self) (by kernel_rfl) rfl (by simp [Value.oneCell']) ?_)
  clear q12 q13 q14 q15 q16 q17 q18 q19 q20 q21 q22 q23 q24 q25 q26 q27 q28 q29 q30 q31
  refine (u9same_k (Q11.out.fr (v := .slice ax3 nx3 cx3) (u := .slice bx3 mx3 dx3) (r := q) mq10 mq11 E3.out) (Q11.out.fr (v := .slice ax63 nx63 cx63) (u := .slice bx63 mx63 dx63) (r := q) mq0 mq1 E63.out) (eqB_refl G) (k := true) (by simp)).mono ?_
  rintro e w65 ⟨rfl, hb⟩
  have R65 := Lib.hid (Q11.out.later hb)
  clear hb
  go_wp2_with fail
  go_ret
  exact ⟨rfl, R65.out.below⟩

set_option maxHeartbeats 16000000 in
theorem dims_n_near (f : Nat → Int) (s : ByteArray) (n : Int) (hs : s.size ≤ 38) (hd : ok f = false) (hn : 0 ≤ n ∧ n ≤ 255) {b : Nat} {nn : Int} {q : Rat} (hy : symL s.data.toList = some (b, nn, q)) (hc : canP s.data.toList = true) (w : World) (he : EnvU w) : Calls Tryz.prog 6 #[.agg #[.int .i64 (f 0), .int .i64 (f 1), .int .i64 (f 2), .int .i64 (f 3), .int .i64 (f 4), .int .i64 (f 5)], .string s, .int .u8 n] w fun e w' => e = .returned (.bool true) ∧ RowKit.Below w.heap.size w w' := by
  have HE := Lib.hid he
  have g1 : decide (38 < (s.size : Int)) = false := by simp; omega
  have g1' : decide (38 < s.size) = false := by simp; omega
  have HR0 := Lib.hid (fun W => rightG f W)
  rw [hd] at HR0
  unfold cl at HR0
  have HSY := Lib.hid (fun W => u9sym_yes s hy W)
  obtain ⟨k, hk4, hm1, hm2⟩ := rem4 hn
  have HK4 := Lib.hid hk4
  have hwn : IntKind.i64.wrap n = n := IntWalk.i64_in _ (by omega)
  have hwk : IntKind.i64.wrap (k : Int) = (k : Int) := IntWalk.i64_in _ (by omega)
  obtain ⟨y1, y2, y3⟩ := sym_letters hy
  have hwd : wordL s.data.toList = some (b, nn, q) := by unfold wordL; rw [hy]
  have i1 := letters_items y1 (by omega) y3
  have e1 := word_one hwd
  have o1 := up_ok (b := b) (sym_n hy)
  have HRS := Lib.hid (fun W he => (uread_any s W he).mono fun _ _ h => read_gives i1 e1 o1 h)
  have hpw := pre_any hk4 hy
  have i2 : itemsL (PC k :: s.data.toList) = some [(PC k :: s.data.toList, 1)] := letters_items (by simp) (by simp; omega) (fun c hc => by
    rcases List.mem_cons.1 hc with rfl | hc
    · exact pc_letter hk4
    · exact y3 c hc)
  rw [hc] at hpw
  have HAD : Hid (∀ W : World, (Op.stringOp .add ⟨#[PC k]⟩ s).run Tryz.prog W = .ok (.string ⟨(PC k :: s.data.toList).toArray⟩) W) := Lib.hid (fun W => by
    have := run_string_add_lists (P := Tryz.prog) (w := W) [PC k] s.data.toList (by show (1 : Int) ≤ 8388608; decide) (by rw [sizeL]; omega)
    rw [show (⟨s.data.toList.toArray⟩ : ByteArray) = s by apply ByteArray.ext; simp] at this
    exact this)
  have e2 := word_one (w := PC k :: s.data.toList) (by simpa using hpw)
  have HRC : Hid (∀ W, EnvU W → Calls Tryz.prog 10 #[.string ⟨(PC k :: s.data.toList).toArray⟩] W (UVE (up zf b nn) (q * PT k) 0 W)) := Lib.hid (fun W he => (uread_any ⟨(PC k :: s.data.toList).toArray⟩ W he).mono fun _ _ h => read_gives i2 e2 o1 h)
  obtain ⟨Q, hQ⟩ : ∃ Q, q * PT k = Q := ⟨_, rfl⟩
  have HQ := Lib.hid hQ
  rw [hQ] at HRC
  have LQ := Lib.hid ((sym_sz hy).1.mono (j := 1000))
  have LP : Hid (FSz 1000 (PT k)) := Lib.hid (by
    refine FSz.mono (i := 2) ?_
    obtain rfl | rfl | rfl | rfl := lt4 hk4
    · exact ⟨by show ((1000 : Int).natAbs : Int) < _; simp [P], by show ((1 : Int).natAbs : Int) < _; simp [P]⟩
    · exact ⟨by show ((1000000 : Int).natAbs : Int) < _; simp [P], by show ((1 : Int).natAbs : Int) < _; simp [P]⟩
    · exact ⟨by show ((1000000000 : Int).natAbs : Int) < _; simp [P], by show ((1 : Int).natAbs : Int) < _; simp [P]⟩
    · exact (FSz.one (by decide +kernel) (by decide +kernel)).mono)
  have HCC := Lib.hid (can_cases hc)
  clear hQ e2
  obtain ⟨CS, hCS⟩ : ∃ T : ByteArray, ⟨(PC k :: s.data.toList).toArray⟩ = T := ⟨_, rfl⟩
  rw [hCS] at HAD HRC
  obtain ⟨PK, hPK⟩ : ∃ T : ByteArray, ⟨#[PC k]⟩ = T := ⟨_, rfl⟩
  rw [hPK] at HAD
  have HPK := Lib.hid hPK
  obtain ⟨G, hG⟩ : ∃ G, up zf b nn = G := ⟨_, rfl⟩
  rw [hG] at HSY HRS HRC
  have HJ1 := Lib.hid (fun W => rfint_r (z := 1000) (r := PT 0) (by decide) rfl W)
  have HJ2 := Lib.hid (fun W => rfint_r (z := 1000000) (r := PT 1) (by decide) rfl W)
  have HJ3 := Lib.hid (fun W => rfint_r (z := 1000000000) (r := PT 2) (by decide) rfl W)
  have HJ4 := Lib.hid (fun W => rfof_r (r := PT 3) 1 1000 (by decide) (by decide) (by decide) (by decide +kernel) W)
  have heg := eq_dim G G
  rw [eqB_refl] at heg
  unfold cl at heg
  have HS0 := Lib.hid (sizeL s)
  clear y1 y2 y3 hwd i1 e1 o1 hpw i2 hCS hPK hG hy hc hk4
  have s0 := ((Sf.start w).put [.int .i64 (f 0), .int .i64 (f 1), .int .i64 (f 2), .int .i64 (f 3), .int .i64 (f 4), .int .i64 (f 5)] 23)
  try simp only [World.size_alloc] at s0
  have S0 := Lib.hid s0
  clear s0
  go_enter Tryz.func6, Tryz.ntmps6
  go_wp2_with fail
  refine (sane_t _ (HE.out.below S0.out.below)).mono ?_
  rintro e w1 ⟨rfl, hb⟩
  have R1 := Lib.hid (S0.out.later hb)
  clear hb
  clear he hd hn
  obtain ⟨q1, q2, q3, q4, q5, q6⟩ := Fb.cells6 (R1.out.box (w.heap.size, 23, [.int .i64 (f 0), .int .i64 (f 1), .int .i64 (f 2), .int .i64 (f 3), .int .i64 (f 4), .int .i64 (f 5)]) mq0)
  go_wp2_with fail
  clear q1 q2 q3 q4 q5 q6
  refine (HR0.out _).mono ?_
  rintro e w2 ⟨rfl, hb⟩
  have R2 := Lib.hid (R1.out.later hb)
  clear hb
  go_wp2_with fail
  refine (HSY.out _).mono ?_
  rintro e w3 ⟨sx3, ax3, nx3, cx3, bx3, mx3, dx3, rfl, hr, hb, hf, hg⟩
  have E3 := Lib.hid hr.1.1
  have R3 := Lib.hid (R2.out.ret2 hb hr.1.2 hf hr.2.2 hg)
  have FF3 := Lib.hid (hf.mono R2.out.below.size)
  have FG3 := Lib.hid (hg.mono R2.out.below.size)
  clear hr hb hf hg
  have P7 := Lib.hid (R3.out.put [.int .i64 0, .int .i64 0, .int .i64 0, .int .i64 0, .int .i64 0, .int .i64 0, .int .i64 0, .slice none 0 0, .int .i64 0, .slice none 0 0] 30)
  have Q7 := Lib.hid (Sf.row (pre := []) P7.out [.int .i64 (G 0), .int .i64 (G 1), .int .i64 (G 2), .int .i64 (G 3), .int .i64 (G 4), .int .i64 (G 5), .int .i64 sx3, .slice ax3 nx3 cx3, .int .i64 1, .slice bx3 mx3 dx3])
  go_upto_region 12 with (refine wpList_store_row rfl _ _ _ rfl _ #[.int .i64 (G 0), .int .i64 (G 1), .int .i64 (G 2), .int .i64 (G 3), .int .i64 (G 4), .int .i64 (G 5), .int .i64 sx3, .slice ax3 nx3 cx3, .int .i64 1, .slice bx3 mx3 dx3] rfl rfl _ _ (P7.out.box _ List.mem_cons_self) (by kernel_rfl) rfl (by simp [Value.oneCell']) ?_)
  obtain ⟨WB, hWB⟩ : ∃ W, ((w3.alloc (.cells #[.int .i64 0, .int .i64 0, .int .i64 0, .int .i64 0, .int .i64 0, .int .i64 0, .int .i64 0, .slice none 0 0, .int .i64 0, .slice none 0 0] 30)).setRow w3.heap.size #[.int .i64 (G 0), .int .i64 (G 1), .int .i64 (G 2), .int .i64 (G 3), .int .i64 (G 4), .int .i64 (G 5), .int .i64 sx3, .slice ax3 nx3 cx3, .int .i64 1, .slice bx3 mx3 dx3]) = W := ⟨_, rfl⟩
  rw [hWB] at Q7 ⊢
  clear hWB
  have P8 := Lib.hid (Q7.out.put [.string ⟨#[107]⟩, .string ⟨#[77]⟩, .string ⟨#[71]⟩, .string ⟨#[109]⟩] 9)
  go_upto_region 13 with fail
  obtain ⟨WC, hWC⟩ : ∃ W, (WB.alloc (.cells #[.string ⟨#[107]⟩, .string ⟨#[77]⟩, .string ⟨#[71]⟩, .string ⟨#[109]⟩] 9)) = W := ⟨_, rfl⟩
  rw [hWC] at P8 ⊢
  clear hWC
  obtain ⟨PB, hPB⟩ : ∃ B, WB.heap.size = B := ⟨_, rfl⟩
  rw [hPB] at P8 ⊢
  clear hPB
  go_cut [14] from 61 to 66 (fun u wx => Hid (∃ (gt : Nat) (sj1 : Int) (aj1 : Option Addr) (nj1 cj1 : Nat) (bj1 : Option Addr) (mj1 dj1 : Nat) (sj2 : Int) (aj2 : Option Addr) (nj2 cj2 : Nat) (bj2 : Option Addr) (mj2 dj2 : Nat) (sj3 : Int) (aj3 : Option Addr) (nj3 cj3 : Nat) (bj3 : Option Addr) (mj3 dj3 : Nat), u = .slice (some ⟨gt, 0, none⟩) 4 4 ∧ sj1 = (PT 0).num.sign ∧ sj2 = (PT 1).num.sign ∧ sj3 = (PT 2).num.sign ∧ Sf w ((gt, 28, [.int .i64 sj1, .slice aj1 nj1 cj1, .int .i64 1, .slice bj1 mj1 dj1, .int .i64 sj2, .slice aj2 nj2 cj2, .int .i64 1, .slice bj2 mj2 dj2, .int .i64 sj3, .slice aj3 nj3 cj3, .int .i64 1, .slice bj3 mj3 dj3, .int .i64 sx3, .slice ax3 nx3 cx3, .int .i64 1, .slice bx3 mx3 dx3]) :: [(PB, 9, [.string ⟨#[107]⟩, .string ⟨#[77]⟩, .string ⟨#[71]⟩, .string ⟨#[109]⟩]), (w3.heap.size, 30, [.int .i64 (G 0), .int .i64 (G 1), .int .i64 (G 2), .int .i64 (G 3), .int .i64 (G 4), .int .i64 (G 5), .int .i64 sx3, .slice ax3 nx3 cx3, .int .i64 1, .slice bx3 mx3 dx3]), (w.heap.size, 23, [.int .i64 (f 0), .int .i64 (f 1), .int .i64 (f 2), .int .i64 (f 3), .int .i64 (f 4), .int .i64 (f 5)])]) [(.slice aj3 nj3 cj3, digs (PT 2).num.natAbs), (.slice bj3 mj3 dj3, digs (((PT 2).den : Int)).natAbs), (.slice aj2 nj2 cj2, digs (PT 1).num.natAbs), (.slice bj2 mj2 dj2, digs (((PT 1).den : Int)).natAbs), (.slice aj1 nj1 cj1, digs (PT 0).num.natAbs), (.slice bj1 mj1 dj1, digs (((PT 0).den : Int)).natAbs), (.slice ax3 nx3 cx3, digs (q).num.natAbs), (.slice bx3 mx3 dx3, digs (((q).den : Int)).natAbs)] wx))
  case first =>
    have K0 : ∀ W F, Sf w [(PB, 9, [.string ⟨#[107]⟩, .string ⟨#[77]⟩, .string ⟨#[71]⟩, .string ⟨#[109]⟩]), (w3.heap.size, 30, [.int .i64 (G 0), .int .i64 (G 1), .int .i64 (G 2), .int .i64 (G 3), .int .i64 (G 4), .int .i64 (G 5), .int .i64 sx3, .slice ax3 nx3 cx3, .int .i64 1, .slice bx3 mx3 dx3]), (w.heap.size, 23, [.int .i64 (f 0), .int .i64 (f 1), .int .i64 (f 2), .int .i64 (f 3), .int .i64 (f 4), .int .i64 (f 5)])] F W → W.cell? ⟨w3.heap.size, 0, none⟩ = some (.int .i64 (G 0)) ∧ W.cell? ⟨w3.heap.size, 1, none⟩ = some (.int .i64 (G 1)) ∧ W.cell? ⟨w3.heap.size, 2, none⟩ = some (.int .i64 (G 2)) ∧ W.cell? ⟨w3.heap.size, 3, none⟩ = some (.int .i64 (G 3)) ∧ W.cell? ⟨w3.heap.size, 4, none⟩ = some (.int .i64 (G 4)) ∧ W.cell? ⟨w3.heap.size, 5, none⟩ = some (.int .i64 (G 5)) ∧ W.cell? ⟨w3.heap.size, 6, none⟩ = some (.int .i64 sx3) ∧ W.cell? ⟨w3.heap.size, 7, none⟩ = some (.slice ax3 nx3 cx3) ∧ W.cell? ⟨w3.heap.size, 8, none⟩ = some (.int .i64 1) ∧ W.cell? ⟨w3.heap.size, 9, none⟩ = some (.slice bx3 mx3 dx3) := fun W F h => ⟨(h.box (w3.heap.size, 30, [.int .i64 (G 0), .int .i64 (G 1), .int .i64 (G 2), .int .i64 (G 3), .int .i64 (G 4), .int .i64 (G 5), .int .i64 sx3, .slice ax3 nx3 cx3, .int .i64 1, .slice bx3 mx3 dx3]) mq1).cell 0, (h.box (w3.heap.size, 30, [.int .i64 (G 0), .int .i64 (G 1), .int .i64 (G 2), .int .i64 (G 3), .int .i64 (G 4), .int .i64 (G 5), .int .i64 sx3, .slice ax3 nx3 cx3, .int .i64 1, .slice bx3 mx3 dx3]) mq1).cell 1, (h.box (w3.heap.size, 30, [.int .i64 (G 0), .int .i64 (G 1), .int .i64 (G 2), .int .i64 (G 3), .int .i64 (G 4), .int .i64 (G 5), .int .i64 sx3, .slice ax3 nx3 cx3, .int .i64 1, .slice bx3 mx3 dx3]) mq1).cell 2, (h.box (w3.heap.size, 30, [.int .i64 (G 0), .int .i64 (G 1), .int .i64 (G 2), .int .i64 (G 3), .int .i64 (G 4), .int .i64 (G 5), .int .i64 sx3, .slice ax3 nx3 cx3, .int .i64 1, .slice bx3 mx3 dx3]) mq1).cell 3, (h.box (w3.heap.size, 30, [.int .i64 (G 0), .int .i64 (G 1), .int .i64 (G 2), .int .i64 (G 3), .int .i64 (G 4), .int .i64 (G 5), .int .i64 sx3, .slice ax3 nx3 cx3, .int .i64 1, .slice bx3 mx3 dx3]) mq1).cell 4, (h.box (w3.heap.size, 30, [.int .i64 (G 0), .int .i64 (G 1), .int .i64 (G 2), .int .i64 (G 3), .int .i64 (G 4), .int .i64 (G 5), .int .i64 sx3, .slice ax3 nx3 cx3, .int .i64 1, .slice bx3 mx3 dx3]) mq1).cell 5, (h.box (w3.heap.size, 30, [.int .i64 (G 0), .int .i64 (G 1), .int .i64 (G 2), .int .i64 (G 3), .int .i64 (G 4), .int .i64 (G 5), .int .i64 sx3, .slice ax3 nx3 cx3, .int .i64 1, .slice bx3 mx3 dx3]) mq1).cell 6, (h.box (w3.heap.size, 30, [.int .i64 (G 0), .int .i64 (G 1), .int .i64 (G 2), .int .i64 (G 3), .int .i64 (G 4), .int .i64 (G 5), .int .i64 sx3, .slice ax3 nx3 cx3, .int .i64 1, .slice bx3 mx3 dx3]) mq1).cell 7, (h.box (w3.heap.size, 30, [.int .i64 (G 0), .int .i64 (G 1), .int .i64 (G 2), .int .i64 (G 3), .int .i64 (G 4), .int .i64 (G 5), .int .i64 sx3, .slice ax3 nx3 cx3, .int .i64 1, .slice bx3 mx3 dx3]) mq1).cell 8, (h.box (w3.heap.size, 30, [.int .i64 (G 0), .int .i64 (G 1), .int .i64 (G 2), .int .i64 (G 3), .int .i64 (G 4), .int .i64 (G 5), .int .i64 sx3, .slice ax3 nx3 cx3, .int .i64 1, .slice bx3 mx3 dx3]) mq1).cell 9⟩
    have KK := Lib.hid K0
    clear K0
    have K0 : ∀ W F x, Sf w (x :: [(PB, 9, [.string ⟨#[107]⟩, .string ⟨#[77]⟩, .string ⟨#[71]⟩, .string ⟨#[109]⟩]), (w3.heap.size, 30, [.int .i64 (G 0), .int .i64 (G 1), .int .i64 (G 2), .int .i64 (G 3), .int .i64 (G 4), .int .i64 (G 5), .int .i64 sx3, .slice ax3 nx3 cx3, .int .i64 1, .slice bx3 mx3 dx3]), (w.heap.size, 23, [.int .i64 (f 0), .int .i64 (f 1), .int .i64 (f 2), .int .i64 (f 3), .int .i64 (f 4), .int .i64 (f 5)])]) F W → W.cell? ⟨w3.heap.size, 0, none⟩ = some (.int .i64 (G 0)) ∧ W.cell? ⟨w3.heap.size, 1, none⟩ = some (.int .i64 (G 1)) ∧ W.cell? ⟨w3.heap.size, 2, none⟩ = some (.int .i64 (G 2)) ∧ W.cell? ⟨w3.heap.size, 3, none⟩ = some (.int .i64 (G 3)) ∧ W.cell? ⟨w3.heap.size, 4, none⟩ = some (.int .i64 (G 4)) ∧ W.cell? ⟨w3.heap.size, 5, none⟩ = some (.int .i64 (G 5)) ∧ W.cell? ⟨w3.heap.size, 6, none⟩ = some (.int .i64 sx3) ∧ W.cell? ⟨w3.heap.size, 7, none⟩ = some (.slice ax3 nx3 cx3) ∧ W.cell? ⟨w3.heap.size, 8, none⟩ = some (.int .i64 1) ∧ W.cell? ⟨w3.heap.size, 9, none⟩ = some (.slice bx3 mx3 dx3) := fun W F x h => ⟨(h.box (w3.heap.size, 30, [.int .i64 (G 0), .int .i64 (G 1), .int .i64 (G 2), .int .i64 (G 3), .int .i64 (G 4), .int .i64 (G 5), .int .i64 sx3, .slice ax3 nx3 cx3, .int .i64 1, .slice bx3 mx3 dx3]) mq2).cell 0, (h.box (w3.heap.size, 30, [.int .i64 (G 0), .int .i64 (G 1), .int .i64 (G 2), .int .i64 (G 3), .int .i64 (G 4), .int .i64 (G 5), .int .i64 sx3, .slice ax3 nx3 cx3, .int .i64 1, .slice bx3 mx3 dx3]) mq2).cell 1, (h.box (w3.heap.size, 30, [.int .i64 (G 0), .int .i64 (G 1), .int .i64 (G 2), .int .i64 (G 3), .int .i64 (G 4), .int .i64 (G 5), .int .i64 sx3, .slice ax3 nx3 cx3, .int .i64 1, .slice bx3 mx3 dx3]) mq2).cell 2, (h.box (w3.heap.size, 30, [.int .i64 (G 0), .int .i64 (G 1), .int .i64 (G 2), .int .i64 (G 3), .int .i64 (G 4), .int .i64 (G 5), .int .i64 sx3, .slice ax3 nx3 cx3, .int .i64 1, .slice bx3 mx3 dx3]) mq2).cell 3, (h.box (w3.heap.size, 30, [.int .i64 (G 0), .int .i64 (G 1), .int .i64 (G 2), .int .i64 (G 3), .int .i64 (G 4), .int .i64 (G 5), .int .i64 sx3, .slice ax3 nx3 cx3, .int .i64 1, .slice bx3 mx3 dx3]) mq2).cell 4, (h.box (w3.heap.size, 30, [.int .i64 (G 0), .int .i64 (G 1), .int .i64 (G 2), .int .i64 (G 3), .int .i64 (G 4), .int .i64 (G 5), .int .i64 sx3, .slice ax3 nx3 cx3, .int .i64 1, .slice bx3 mx3 dx3]) mq2).cell 5, (h.box (w3.heap.size, 30, [.int .i64 (G 0), .int .i64 (G 1), .int .i64 (G 2), .int .i64 (G 3), .int .i64 (G 4), .int .i64 (G 5), .int .i64 sx3, .slice ax3 nx3 cx3, .int .i64 1, .slice bx3 mx3 dx3]) mq2).cell 6, (h.box (w3.heap.size, 30, [.int .i64 (G 0), .int .i64 (G 1), .int .i64 (G 2), .int .i64 (G 3), .int .i64 (G 4), .int .i64 (G 5), .int .i64 sx3, .slice ax3 nx3 cx3, .int .i64 1, .slice bx3 mx3 dx3]) mq2).cell 7, (h.box (w3.heap.size, 30, [.int .i64 (G 0), .int .i64 (G 1), .int .i64 (G 2), .int .i64 (G 3), .int .i64 (G 4), .int .i64 (G 5), .int .i64 sx3, .slice ax3 nx3 cx3, .int .i64 1, .slice bx3 mx3 dx3]) mq2).cell 8, (h.box (w3.heap.size, 30, [.int .i64 (G 0), .int .i64 (G 1), .int .i64 (G 2), .int .i64 (G 3), .int .i64 (G 4), .int .i64 (G 5), .int .i64 sx3, .slice ax3 nx3 cx3, .int .i64 1, .slice bx3 mx3 dx3]) mq2).cell 9⟩
    have KU := Lib.hid K0
    clear K0
    have N0 := Lib.hid P8.out.drew
    clear P8
    have e0 := KK.out _ _ N0.out
    go_region_held3 (fun W => W.cell? ⟨w3.heap.size, 0, none⟩ = some (.int .i64 (G 0)) ∧ W.cell? ⟨w3.heap.size, 1, none⟩ = some (.int .i64 (G 1)) ∧ W.cell? ⟨w3.heap.size, 2, none⟩ = some (.int .i64 (G 2)) ∧ W.cell? ⟨w3.heap.size, 3, none⟩ = some (.int .i64 (G 3)) ∧ W.cell? ⟨w3.heap.size, 4, none⟩ = some (.int .i64 (G 4)) ∧ W.cell? ⟨w3.heap.size, 5, none⟩ = some (.int .i64 (G 5)) ∧ W.cell? ⟨w3.heap.size, 6, none⟩ = some (.int .i64 sx3) ∧ W.cell? ⟨w3.heap.size, 7, none⟩ = some (.slice ax3 nx3 cx3) ∧ W.cell? ⟨w3.heap.size, 8, none⟩ = some (.int .i64 1) ∧ W.cell? ⟨w3.heap.size, 9, none⟩ = some (.slice bx3 mx3 dx3))
      (first | (with_reducible exact e0) | (with_reducible exact e1) | (with_reducible exact e2) | (with_reducible exact e3) | (with_reducible exact e4) | go_keep)
      (first
          | (have hG := N2; clear hG; go_at_call 30; (with_reducible refine (HJ3.out _).mono ?_); rintro e y3 ⟨sj3, aj3, nj3, cj3, bj3, mj3, dj3, rfl, hr, hb, hf, hg⟩; have EJ3 := Lib.hid hr.1.1; have N3 := Lib.hid (N2.out.ret2 hb hr.1.2 hf hr.2.2 hg); clear hr hb hf hg; have e3 := KK.out _ _ N3.out; have NP := Lib.hid (N3.out.put [.int .i64 sj1, .slice aj1 nj1 cj1, .int .i64 1, .slice bj1 mj1 dj1, .int .i64 sj2, .slice aj2 nj2 cj2, .int .i64 1, .slice bj2 mj2 dj2, .int .i64 sj3, .slice aj3 nj3 cj3, .int .i64 1, .slice bj3 mj3 dj3, .int .i64 sx3, .slice ax3 nx3 cx3, .int .i64 1, .slice bx3 mx3 dx3] 28); have e4 := KU.out _ _ _ NP.out)
          | (have hG := N1; clear hG; go_at_call 30; (with_reducible refine (HJ2.out _).mono ?_); rintro e y2 ⟨sj2, aj2, nj2, cj2, bj2, mj2, dj2, rfl, hr, hb, hf, hg⟩; have EJ2 := Lib.hid hr.1.1; have N2 := Lib.hid (N1.out.ret2 hb hr.1.2 hf hr.2.2 hg); clear hr hb hf hg; have e2 := KK.out _ _ N2.out)
          | (have hG := N0; clear hG; go_at_call 30; (with_reducible refine (HJ1.out _).mono ?_); rintro e y1 ⟨sj1, aj1, nj1, cj1, bj1, mj1, dj1, rfl, hr, hb, hf, hg⟩; have EJ1 := Lib.hid hr.1.1; have N1 := Lib.hid (N0.out.ret2 hb hr.1.2 hf hr.2.2 hg); clear hr hb hf hg; have e1 := KK.out _ _ N1.out))
    all_goals (go_wp2_with fail; go_meet; exact ⟨_, _, _, _, _, _, _, _, _, _, _, _, _, _, _, _, _, _, _, _, _, _, rfl, EJ1.out, EJ2.out, EJ3.out, NP.out⟩)
  case rest =>
  obtain ⟨gt, sj1, aj1, nj1, cj1, bj1, mj1, dj1, sj2, aj2, nj2, cj2, bj2, mj2, dj2, sj3, aj3, nj3, cj3, bj3, mj3, dj3, rfl, ej1, ej2, ej3, hsj⟩ := hcut.out
  obtain ⟨w61, rfl⟩ : ∃ W, W = wc := ⟨_, rfl⟩
  have R61 := Lib.hid hsj
  have EJ1 := Lib.hid ej1
  have EJ2 := Lib.hid ej2
  have EJ3 := Lib.hid ej3
  clear hcut ej1 ej2 ej3 hsj P8
  have hf3 : ∀ W : World, (Instr.indexAt 58 (.slice (some ⟨gt, 0, none⟩) 4 4) (.int .i64 3)).run Tryz.prog W = .ok (.pointer (some ⟨gt, 12, none⟩)) W := fun W => ft_at gt 3 (by decide) W
  go_wp2_with fail
  refine (HJ4.out _).mono ?_
  rintro e w62 ⟨sx62, ax62, nx62, cx62, bx62, mx62, dx62, rfl, hr, hb, hf, hg⟩
  have E62 := Lib.hid hr.1.1
  have R62 := Lib.hid (R61.out.ret2 hb hr.1.2 hf hr.2.2 hg)
  have FF62 := Lib.hid (hf.mono R61.out.below.size)
  have FG62 := Lib.hid (hg.mono R61.out.below.size)
  clear hr hb hf hg
  have Q9 : Hid (Sf w ([] ++ (gt, 28, [.int .i64 sj1, .slice aj1 nj1 cj1, .int .i64 1, .slice bj1 mj1 dj1, .int .i64 sj2, .slice aj2 nj2 cj2, .int .i64 1, .slice bj2 mj2 dj2, .int .i64 sj3, .slice aj3 nj3 cj3, .int .i64 1, .slice bj3 mj3 dj3, .int .i64 sx62, .slice ax62 nx62 cx62, .int .i64 1, .slice bx62 mx62 dx62]) :: [(PB, 9, [.string ⟨#[107]⟩, .string ⟨#[77]⟩, .string ⟨#[71]⟩, .string ⟨#[109]⟩]), (w3.heap.size, 30, [.int .i64 (G 0), .int .i64 (G 1), .int .i64 (G 2), .int .i64 (G 3), .int .i64 (G 4), .int .i64 (G 5), .int .i64 sx3, .slice ax3 nx3 cx3, .int .i64 1, .slice bx3 mx3 dx3]), (w.heap.size, 23, [.int .i64 (f 0), .int .i64 (f 1), .int .i64 (f 2), .int .i64 (f 3), .int .i64 (f 4), .int .i64 (f 5)])]) _ _) := Lib.hid (Sf.part (pre := []) R62.out 12 13 14 15 rfl rfl rfl (.int .i64 sx62) (.slice ax62 nx62 cx62) (.int .i64 1) (.slice bx62 mx62 dx62))
  obtain ⟨V9, hV9⟩ : ∃ V, (((((w62).setCell ⟨gt, 12, none⟩ (.int .i64 sx62)).setCell ⟨gt, 13, none⟩ (.slice ax62 nx62 cx62)).setCell ⟨gt, 14, none⟩ (.int .i64 1)).setCell ⟨gt, 15, none⟩ (.slice bx62 mx62 dx62)) = V := ⟨_, rfl⟩
  rw [hV9] at Q9
  have HV9 := Lib.hid hV9
  clear hV9
  go_upto_region 15 with ((refine wpList_store4 rfl _ _ _ rfl _ 12 13 14 15 rfl rfl rfl (.int .i64 sx62) (.slice ax62 nx62 cx62) (.int .i64 1) (.slice bx62 mx62 dx62) rfl rfl (R62.out.box _ mq0) (Nat.le_of_ble_eq_true rfl) infoFrac (by simp [Value.oneCell']) ?_; rw [HV9.out]))
  clear hf3
  obtain ⟨sk, ak, nk, ck, bk, mk, dk, hkc, hks, hkv, hku⟩ : ∃ (sk : Int) (ak : Option Addr) (nk ck : Nat) (bk : Option Addr) (mk dk : Nat), (∀ W, Fb (gt, 28, [.int .i64 sj1, .slice aj1 nj1 cj1, .int .i64 1, .slice bj1 mj1 dj1, .int .i64 sj2, .slice aj2 nj2 cj2, .int .i64 1, .slice bj2 mj2 dj2, .int .i64 sj3, .slice aj3 nj3 cj3, .int .i64 1, .slice bj3 mj3 dj3, .int .i64 sx62, .slice ax62 nx62 cx62, .int .i64 1, .slice bx62 mx62 dx62]) W → W.cell? ⟨gt, k * 4, none⟩ = some (.int .i64 sk) ∧ W.cell? ⟨gt, k * 4 + 1, none⟩ = some (.slice ak nk ck) ∧ W.cell? ⟨gt, k * 4 + 2, none⟩ = some (.int .i64 1) ∧ W.cell? ⟨gt, k * 4 + 3, none⟩ = some (.slice bk mk dk)) ∧ sk = (PT k).num.sign ∧ (.slice ak nk ck, digs (PT k).num.natAbs) ∈ ([(.slice ax62 nx62 cx62, digs (PT 3).num.natAbs), (.slice bx62 mx62 dx62, digs (((PT 3).den : Int)).natAbs), (.slice aj3 nj3 cj3, digs (PT 2).num.natAbs), (.slice bj3 mj3 dj3, digs (((PT 2).den : Int)).natAbs), (.slice aj2 nj2 cj2, digs (PT 1).num.natAbs), (.slice bj2 mj2 dj2, digs (((PT 1).den : Int)).natAbs), (.slice aj1 nj1 cj1, digs (PT 0).num.natAbs), (.slice bj1 mj1 dj1, digs (((PT 0).den : Int)).natAbs), (.slice ax3 nx3 cx3, digs (q).num.natAbs), (.slice bx3 mx3 dx3, digs (((q).den : Int)).natAbs)] : List (Value × List Int)) ∧ (.slice bk mk dk, digs (((PT k).den : Int)).natAbs) ∈ ([(.slice ax62 nx62 cx62, digs (PT 3).num.natAbs), (.slice bx62 mx62 dx62, digs (((PT 3).den : Int)).natAbs), (.slice aj3 nj3 cj3, digs (PT 2).num.natAbs), (.slice bj3 mj3 dj3, digs (((PT 2).den : Int)).natAbs), (.slice aj2 nj2 cj2, digs (PT 1).num.natAbs), (.slice bj2 mj2 dj2, digs (((PT 1).den : Int)).natAbs), (.slice aj1 nj1 cj1, digs (PT 0).num.natAbs), (.slice bj1 mj1 dj1, digs (((PT 0).den : Int)).natAbs), (.slice ax3 nx3 cx3, digs (q).num.natAbs), (.slice bx3 mx3 dx3, digs (((q).den : Int)).natAbs)] : List (Value × List Int)) := by
    obtain rfl | rfl | rfl | rfl := lt4 HK4.out
    · exact ⟨_, _, _, _, _, _, _, fun W h => ⟨h.cell 0, h.cell 1, h.cell 2, h.cell 3⟩, EJ1.out, mq6, mq7⟩
    · exact ⟨_, _, _, _, _, _, _, fun W h => ⟨h.cell 4, h.cell 5, h.cell 6, h.cell 7⟩, EJ2.out, mq4, mq5⟩
    · exact ⟨_, _, _, _, _, _, _, fun W h => ⟨h.cell 8, h.cell 9, h.cell 10, h.cell 11⟩, EJ3.out, mq2, mq3⟩
    · exact ⟨_, _, _, _, _, _, _, fun W h => ⟨h.cell 12, h.cell 13, h.cell 14, h.cell 15⟩, E62.out, mq0, mq1⟩
  have HKC := Lib.hid hkc
  have EK := Lib.hid hks
  have HKV := Lib.hid hkv
  have HKU := Lib.hid hku
  clear hkc hks hkv hku
  have HPC : Hid (∀ W, Fb (PB, 9, [.string ⟨#[107]⟩, .string ⟨#[77]⟩, .string ⟨#[71]⟩, .string ⟨#[109]⟩]) W → W.cell? ⟨PB, k, none⟩ = some (.string PK)) := Lib.hid (fun W h => by
    rw [← HPK.out]
    obtain rfl | rfl | rfl | rfl := lt4 HK4.out
    · exact h.cell 0
    · exact h.cell 1
    · exact h.cell 2
    · exact h.cell 3)
  go_wp2_with fail
  refine (HRS.out _ (HE.out.below Q9.out.below)).mono ?_
  rintro e w63 ⟨sx63, ax63, nx63, cx63, bx63, mx63, dx63, rfl, hr, hb, hf, hg⟩
  have E63 := Lib.hid hr.1.1
  have R63 := Lib.hid (Q9.out.ret2 hb hr.1.2 hf hr.2.2 hg)
  have FF63 := Lib.hid (hf.mono Q9.out.below.size)
  have FG63 := Lib.hid (hg.mono Q9.out.below.size)
  clear hr hb hf hg
  have P10 := Lib.hid (R63.out.put [.int .i64 0, .int .i64 0, .int .i64 0, .int .i64 0, .int .i64 0, .int .i64 0, .int .i64 0, .slice none 0 0, .int .i64 0, .slice none 0 0] 30)
  have Q10 := Lib.hid (Sf.row (pre := []) P10.out [.int .i64 (G 0), .int .i64 (G 1), .int .i64 (G 2), .int .i64 (G 3), .int .i64 (G 4), .int .i64 (G 5), .int .i64 sx63, .slice ax63 nx63 cx63, .int .i64 1, .slice bx63 mx63 dx63])
  have hst := st_at PB k HK4.out
  have had := HAD.out
  have hpc := HPC.out _ (Q10.out.box (PB, 9, [.string ⟨#[107]⟩, .string ⟨#[77]⟩, .string ⟨#[71]⟩, .string ⟨#[109]⟩]) mq2)
  go_wp2_with (first | refine wpList_store_row rfl _ _ _ rfl _ #[.int .i64 (G 0), .int .i64 (G 1), .int .i64 (G 2), .int .i64 (G 3), .int .i64 (G 4), .int .i64 (G 5), .int .i64 sx63, .slice ax63 nx63 cx63, .int .i64 1, .slice bx63 mx63 dx63] rfl rfl _ _ (P10.out.box _ List.mem_cons_self) (by kernel_rfl) rfl (by simp [Value.oneCell']) ?_)
  clear hst had hpc
  refine (HRC.out _ (HE.out.below Q10.out.below)).mono ?_
  rintro e w64 ⟨sx64, ax64, nx64, cx64, bx64, mx64, dx64, rfl, hr, hb, hf, hg⟩
  have E64 := Lib.hid hr.1.1
  have R64 := Lib.hid (Q10.out.ret2 hb hr.1.2 hf hr.2.2 hg)
  have FF64 := Lib.hid (hf.mono Q10.out.below.size)
  have FG64 := Lib.hid (hg.mono Q10.out.below.size)
  clear hr hb hf hg
  have P11 := Lib.hid (R64.out.put [.int .i64 0, .int .i64 0, .int .i64 0, .int .i64 0, .int .i64 0, .int .i64 0, .int .i64 0, .slice none 0 0, .int .i64 0, .slice none 0 0] 30)
  have Q11 := Lib.hid (Sf.row (pre := []) P11.out [.int .i64 (G 0), .int .i64 (G 1), .int .i64 (G 2), .int .i64 (G 3), .int .i64 (G 4), .int .i64 (G 5), .int .i64 sx64, .slice ax64 nx64 cx64, .int .i64 1, .slice bx64 mx64 dx64])
  obtain ⟨q12, q13, q14, q15, q16, q17, q18, q19, q20, q21⟩ := Fb.cells10 (Q11.out.box (w3.heap.size, 30, [.int .i64 (G 0), .int .i64 (G 1), .int .i64 (G 2), .int .i64 (G 3), .int .i64 (G 4), .int .i64 (G 5), .int .i64 sx3, .slice ax3 nx3 cx3, .int .i64 1, .slice bx3 mx3 dx3]) mq4)
  obtain ⟨q22, q23, q24, q25, q26, q27, q28, q29, q30, q31⟩ := Fb.cells10 (Q11.out.box (w63.heap.size, 30, [.int .i64 (G 0), .int .i64 (G 1), .int .i64 (G 2), .int .i64 (G 3), .int .i64 (G 4), .int .i64 (G 5), .int .i64 sx63, .slice ax63 nx63 cx63, .int .i64 1, .slice bx63 mx63 dx63]) mq1)
  go_wp2_with (first | refine wpList_store_row rfl _ _ _ rfl _ #[.int .i64 (G 0), .int .i64 (G 1), .int .i64 (G 2), .int .i64 (G 3), .int .i64 (G 4), .int .i64 (G 5), .int .i64 sx64, .slice ax64 nx64 cx64, .int .i64 1, .slice bx64 mx64 dx64] rfl rfl _ _ (P11.out.box _ List.mem_cons_self) (by kernel_rfl) rfl (by simp [Value.oneCell']) ?_)
  clear q12 q13 q14 q15 q16 q17 q18 q19 q20 q21 q22 q23 q24 q25 q26 q27 q28 q29 q30 q31
  refine (u9same_k (Q11.out.fr (v := .slice ax3 nx3 cx3) (u := .slice bx3 mx3 dx3) (r := q) mq12 mq13 E3.out) (Q11.out.fr (v := .slice ax63 nx63 cx63) (u := .slice bx63 mx63 dx63) (r := q) mq2 mq3 E63.out) (eqB_refl G) (k := true) (by simp)).mono ?_
  rintro e w65 ⟨rfl, hb⟩
  have R65 := Lib.hid (Q11.out.later hb)
  clear hb
  go_upto_region 19 with fail
  go_cut [117] from 96 to 117 (fun u wx => u = .bool false ∧ wx = w65)
  case first =>
    rcases HCC.out with h | h | h | h | h | h
    · obtain ⟨v0, v1, v2, v3⟩ := str_lit s [103] true false (by rw [h]; decide) rfl
      go_wp2_with fail
      go_meet
      exact ⟨rfl, rfl⟩
    · obtain ⟨v0, v1, v2, v3⟩ := str_lit s [103] false true (by rw [h]; decide) rfl
      obtain ⟨v4, v5, v6, v7⟩ := str_lit s [109] true false (by rw [h]; decide) rfl
      go_wp2_with fail
      go_meet
      exact ⟨rfl, rfl⟩
    · obtain ⟨v0, v1, v2, v3⟩ := str_lit s [103] false true (by rw [h]; decide) rfl
      obtain ⟨v4, v5, v6, v7⟩ := str_lit s [109] false true (by rw [h]; decide) rfl
      obtain ⟨v8, v9, v10, v11⟩ := str_lit s [108] true false (by rw [h]; decide) rfl
      go_wp2_with fail
      go_meet
      exact ⟨rfl, rfl⟩
    · obtain ⟨v0, v1, v2, v3⟩ := str_lit s [103] false true (by rw [h]; decide) rfl
      obtain ⟨v4, v5, v6, v7⟩ := str_lit s [109] false true (by rw [h]; decide) rfl
      obtain ⟨v8, v9, v10, v11⟩ := str_lit s [108] false true (by rw [h]; decide) rfl
      obtain ⟨v12, v13, v14, v15⟩ := str_lit s [115] true false (by rw [h]; decide) rfl
      go_wp2_with fail
      go_meet
      exact ⟨rfl, rfl⟩
    · obtain ⟨v0, v1, v2, v3⟩ := str_lit s [103] false true (by rw [h]; decide) rfl
      obtain ⟨v4, v5, v6, v7⟩ := str_lit s [109] false true (by rw [h]; decide) rfl
      obtain ⟨v8, v9, v10, v11⟩ := str_lit s [108] false true (by rw [h]; decide) rfl
      obtain ⟨v12, v13, v14, v15⟩ := str_lit s [115] false true (by rw [h]; decide) rfl
      obtain ⟨v16, v17, v18, v19⟩ := str_lit s [74] true false (by rw [h]; decide) rfl
      go_wp2_with fail
      go_meet
      exact ⟨rfl, rfl⟩
    · obtain ⟨v0, v1, v2, v3⟩ := str_lit s [103] false true (by rw [h]; decide) rfl
      obtain ⟨v4, v5, v6, v7⟩ := str_lit s [109] false true (by rw [h]; decide) rfl
      obtain ⟨v8, v9, v10, v11⟩ := str_lit s [108] false true (by rw [h]; decide) rfl
      obtain ⟨v12, v13, v14, v15⟩ := str_lit s [115] false true (by rw [h]; decide) rfl
      obtain ⟨v16, v17, v18, v19⟩ := str_lit s [74] false true (by rw [h]; decide) rfl
      obtain ⟨v20, v21, v22, v23⟩ := str_lit s [87, 104] true false (by rw [h]; decide) rfl
      go_wp2_with fail
      go_meet
      exact ⟨rfl, rfl⟩
  case rest =>
  obtain ⟨rfl, rfl⟩ := hcut
  go_upto_region 21 with fail
  have hft := ft_at gt k HK4.out
  go_cut [19, 20] from 124 to 132 (fun u v wx => v = .int .i64 0 ∧ Hid (∃ gq sq aq nq cq bq mq dq, u = .pointer (some ⟨gq, 0, none⟩) ∧ sq = (Q).num.sign ∧ Sf w ((gq, 28, [.int .i64 sq, .slice aq nq cq, .int .i64 1, .slice bq mq dq]) :: [(w64.heap.size, 30, [.int .i64 (G 0), .int .i64 (G 1), .int .i64 (G 2), .int .i64 (G 3), .int .i64 (G 4), .int .i64 (G 5), .int .i64 sx64, .slice ax64 nx64 cx64, .int .i64 1, .slice bx64 mx64 dx64]), (w63.heap.size, 30, [.int .i64 (G 0), .int .i64 (G 1), .int .i64 (G 2), .int .i64 (G 3), .int .i64 (G 4), .int .i64 (G 5), .int .i64 sx63, .slice ax63 nx63 cx63, .int .i64 1, .slice bx63 mx63 dx63]), (gt, 28, [.int .i64 sj1, .slice aj1 nj1 cj1, .int .i64 1, .slice bj1 mj1 dj1, .int .i64 sj2, .slice aj2 nj2 cj2, .int .i64 1, .slice bj2 mj2 dj2, .int .i64 sj3, .slice aj3 nj3 cj3, .int .i64 1, .slice bj3 mj3 dj3, .int .i64 sx62, .slice ax62 nx62 cx62, .int .i64 1, .slice bx62 mx62 dx62]), (PB, 9, [.string ⟨#[107]⟩, .string ⟨#[77]⟩, .string ⟨#[71]⟩, .string ⟨#[109]⟩]), (w3.heap.size, 30, [.int .i64 (G 0), .int .i64 (G 1), .int .i64 (G 2), .int .i64 (G 3), .int .i64 (G 4), .int .i64 (G 5), .int .i64 sx3, .slice ax3 nx3 cx3, .int .i64 1, .slice bx3 mx3 dx3]), (w.heap.size, 23, [.int .i64 (f 0), .int .i64 (f 1), .int .i64 (f 2), .int .i64 (f 3), .int .i64 (f 4), .int .i64 (f 5)])]) ((.slice aq nq cq, digs (Q).num.natAbs) :: (.slice bq mq dq, digs (((Q).den : Int)).natAbs) :: [(.slice ax64 nx64 cx64, digs (Q).num.natAbs), (.slice bx64 mx64 dx64, digs (((Q).den : Int)).natAbs), (.slice ax63 nx63 cx63, digs (q).num.natAbs), (.slice bx63 mx63 dx63, digs (((q).den : Int)).natAbs), (.slice ax62 nx62 cx62, digs (PT 3).num.natAbs), (.slice bx62 mx62 dx62, digs (((PT 3).den : Int)).natAbs), (.slice aj3 nj3 cj3, digs (PT 2).num.natAbs), (.slice bj3 mj3 dj3, digs (((PT 2).den : Int)).natAbs), (.slice aj2 nj2 cj2, digs (PT 1).num.natAbs), (.slice bj2 mj2 dj2, digs (((PT 1).den : Int)).natAbs), (.slice aj1 nj1 cj1, digs (PT 0).num.natAbs), (.slice bj1 mj1 dj1, digs (((PT 0).den : Int)).natAbs), (.slice ax3 nx3 cx3, digs (q).num.natAbs), (.slice bx3 mx3 dx3, digs (((q).den : Int)).natAbs)]) wx))
  case first =>
    have K0 : ∀ W F, Sf w [(w64.heap.size, 30, [.int .i64 (G 0), .int .i64 (G 1), .int .i64 (G 2), .int .i64 (G 3), .int .i64 (G 4), .int .i64 (G 5), .int .i64 sx64, .slice ax64 nx64 cx64, .int .i64 1, .slice bx64 mx64 dx64]), (w63.heap.size, 30, [.int .i64 (G 0), .int .i64 (G 1), .int .i64 (G 2), .int .i64 (G 3), .int .i64 (G 4), .int .i64 (G 5), .int .i64 sx63, .slice ax63 nx63 cx63, .int .i64 1, .slice bx63 mx63 dx63]), (gt, 28, [.int .i64 sj1, .slice aj1 nj1 cj1, .int .i64 1, .slice bj1 mj1 dj1, .int .i64 sj2, .slice aj2 nj2 cj2, .int .i64 1, .slice bj2 mj2 dj2, .int .i64 sj3, .slice aj3 nj3 cj3, .int .i64 1, .slice bj3 mj3 dj3, .int .i64 sx62, .slice ax62 nx62 cx62, .int .i64 1, .slice bx62 mx62 dx62]), (PB, 9, [.string ⟨#[107]⟩, .string ⟨#[77]⟩, .string ⟨#[71]⟩, .string ⟨#[109]⟩]), (w3.heap.size, 30, [.int .i64 (G 0), .int .i64 (G 1), .int .i64 (G 2), .int .i64 (G 3), .int .i64 (G 4), .int .i64 (G 5), .int .i64 sx3, .slice ax3 nx3 cx3, .int .i64 1, .slice bx3 mx3 dx3]), (w.heap.size, 23, [.int .i64 (f 0), .int .i64 (f 1), .int .i64 (f 2), .int .i64 (f 3), .int .i64 (f 4), .int .i64 (f 5)])] F W → W.cell? ⟨w63.heap.size, 0, none⟩ = some (.int .i64 (G 0)) ∧ W.cell? ⟨w63.heap.size, 1, none⟩ = some (.int .i64 (G 1)) ∧ W.cell? ⟨w63.heap.size, 2, none⟩ = some (.int .i64 (G 2)) ∧ W.cell? ⟨w63.heap.size, 3, none⟩ = some (.int .i64 (G 3)) ∧ W.cell? ⟨w63.heap.size, 4, none⟩ = some (.int .i64 (G 4)) ∧ W.cell? ⟨w63.heap.size, 5, none⟩ = some (.int .i64 (G 5)) ∧ W.cell? ⟨w63.heap.size, 6, none⟩ = some (.int .i64 sx63) ∧ W.cell? ⟨w63.heap.size, 7, none⟩ = some (.slice ax63 nx63 cx63) ∧ W.cell? ⟨w63.heap.size, 8, none⟩ = some (.int .i64 1) ∧ W.cell? ⟨w63.heap.size, 9, none⟩ = some (.slice bx63 mx63 dx63) ∧ W.cell? ⟨gt, k * 4, none⟩ = some (.int .i64 sk) ∧ W.cell? ⟨gt, k * 4 + 1, none⟩ = some (.slice ak nk ck) ∧ W.cell? ⟨gt, k * 4 + 2, none⟩ = some (.int .i64 1) ∧ W.cell? ⟨gt, k * 4 + 3, none⟩ = some (.slice bk mk dk) := fun W F h => ⟨(h.box (w63.heap.size, 30, [.int .i64 (G 0), .int .i64 (G 1), .int .i64 (G 2), .int .i64 (G 3), .int .i64 (G 4), .int .i64 (G 5), .int .i64 sx63, .slice ax63 nx63 cx63, .int .i64 1, .slice bx63 mx63 dx63]) mq1).cell 0, (h.box (w63.heap.size, 30, [.int .i64 (G 0), .int .i64 (G 1), .int .i64 (G 2), .int .i64 (G 3), .int .i64 (G 4), .int .i64 (G 5), .int .i64 sx63, .slice ax63 nx63 cx63, .int .i64 1, .slice bx63 mx63 dx63]) mq1).cell 1, (h.box (w63.heap.size, 30, [.int .i64 (G 0), .int .i64 (G 1), .int .i64 (G 2), .int .i64 (G 3), .int .i64 (G 4), .int .i64 (G 5), .int .i64 sx63, .slice ax63 nx63 cx63, .int .i64 1, .slice bx63 mx63 dx63]) mq1).cell 2, (h.box (w63.heap.size, 30, [.int .i64 (G 0), .int .i64 (G 1), .int .i64 (G 2), .int .i64 (G 3), .int .i64 (G 4), .int .i64 (G 5), .int .i64 sx63, .slice ax63 nx63 cx63, .int .i64 1, .slice bx63 mx63 dx63]) mq1).cell 3, (h.box (w63.heap.size, 30, [.int .i64 (G 0), .int .i64 (G 1), .int .i64 (G 2), .int .i64 (G 3), .int .i64 (G 4), .int .i64 (G 5), .int .i64 sx63, .slice ax63 nx63 cx63, .int .i64 1, .slice bx63 mx63 dx63]) mq1).cell 4, (h.box (w63.heap.size, 30, [.int .i64 (G 0), .int .i64 (G 1), .int .i64 (G 2), .int .i64 (G 3), .int .i64 (G 4), .int .i64 (G 5), .int .i64 sx63, .slice ax63 nx63 cx63, .int .i64 1, .slice bx63 mx63 dx63]) mq1).cell 5, (h.box (w63.heap.size, 30, [.int .i64 (G 0), .int .i64 (G 1), .int .i64 (G 2), .int .i64 (G 3), .int .i64 (G 4), .int .i64 (G 5), .int .i64 sx63, .slice ax63 nx63 cx63, .int .i64 1, .slice bx63 mx63 dx63]) mq1).cell 6, (h.box (w63.heap.size, 30, [.int .i64 (G 0), .int .i64 (G 1), .int .i64 (G 2), .int .i64 (G 3), .int .i64 (G 4), .int .i64 (G 5), .int .i64 sx63, .slice ax63 nx63 cx63, .int .i64 1, .slice bx63 mx63 dx63]) mq1).cell 7, (h.box (w63.heap.size, 30, [.int .i64 (G 0), .int .i64 (G 1), .int .i64 (G 2), .int .i64 (G 3), .int .i64 (G 4), .int .i64 (G 5), .int .i64 sx63, .slice ax63 nx63 cx63, .int .i64 1, .slice bx63 mx63 dx63]) mq1).cell 8, (h.box (w63.heap.size, 30, [.int .i64 (G 0), .int .i64 (G 1), .int .i64 (G 2), .int .i64 (G 3), .int .i64 (G 4), .int .i64 (G 5), .int .i64 sx63, .slice ax63 nx63 cx63, .int .i64 1, .slice bx63 mx63 dx63]) mq1).cell 9, (HKC.out _ (h.box (gt, 28, [.int .i64 sj1, .slice aj1 nj1 cj1, .int .i64 1, .slice bj1 mj1 dj1, .int .i64 sj2, .slice aj2 nj2 cj2, .int .i64 1, .slice bj2 mj2 dj2, .int .i64 sj3, .slice aj3 nj3 cj3, .int .i64 1, .slice bj3 mj3 dj3, .int .i64 sx62, .slice ax62 nx62 cx62, .int .i64 1, .slice bx62 mx62 dx62]) mq2)).1, (HKC.out _ (h.box (gt, 28, [.int .i64 sj1, .slice aj1 nj1 cj1, .int .i64 1, .slice bj1 mj1 dj1, .int .i64 sj2, .slice aj2 nj2 cj2, .int .i64 1, .slice bj2 mj2 dj2, .int .i64 sj3, .slice aj3 nj3 cj3, .int .i64 1, .slice bj3 mj3 dj3, .int .i64 sx62, .slice ax62 nx62 cx62, .int .i64 1, .slice bx62 mx62 dx62]) mq2)).2.1, (HKC.out _ (h.box (gt, 28, [.int .i64 sj1, .slice aj1 nj1 cj1, .int .i64 1, .slice bj1 mj1 dj1, .int .i64 sj2, .slice aj2 nj2 cj2, .int .i64 1, .slice bj2 mj2 dj2, .int .i64 sj3, .slice aj3 nj3 cj3, .int .i64 1, .slice bj3 mj3 dj3, .int .i64 sx62, .slice ax62 nx62 cx62, .int .i64 1, .slice bx62 mx62 dx62]) mq2)).2.2.1, (HKC.out _ (h.box (gt, 28, [.int .i64 sj1, .slice aj1 nj1 cj1, .int .i64 1, .slice bj1 mj1 dj1, .int .i64 sj2, .slice aj2 nj2 cj2, .int .i64 1, .slice bj2 mj2 dj2, .int .i64 sj3, .slice aj3 nj3 cj3, .int .i64 1, .slice bj3 mj3 dj3, .int .i64 sx62, .slice ax62 nx62 cx62, .int .i64 1, .slice bx62 mx62 dx62]) mq2)).2.2.2⟩
    have KK := Lib.hid K0
    clear K0
    have K0 : ∀ W F x, Sf w (x :: [(w64.heap.size, 30, [.int .i64 (G 0), .int .i64 (G 1), .int .i64 (G 2), .int .i64 (G 3), .int .i64 (G 4), .int .i64 (G 5), .int .i64 sx64, .slice ax64 nx64 cx64, .int .i64 1, .slice bx64 mx64 dx64]), (w63.heap.size, 30, [.int .i64 (G 0), .int .i64 (G 1), .int .i64 (G 2), .int .i64 (G 3), .int .i64 (G 4), .int .i64 (G 5), .int .i64 sx63, .slice ax63 nx63 cx63, .int .i64 1, .slice bx63 mx63 dx63]), (gt, 28, [.int .i64 sj1, .slice aj1 nj1 cj1, .int .i64 1, .slice bj1 mj1 dj1, .int .i64 sj2, .slice aj2 nj2 cj2, .int .i64 1, .slice bj2 mj2 dj2, .int .i64 sj3, .slice aj3 nj3 cj3, .int .i64 1, .slice bj3 mj3 dj3, .int .i64 sx62, .slice ax62 nx62 cx62, .int .i64 1, .slice bx62 mx62 dx62]), (PB, 9, [.string ⟨#[107]⟩, .string ⟨#[77]⟩, .string ⟨#[71]⟩, .string ⟨#[109]⟩]), (w3.heap.size, 30, [.int .i64 (G 0), .int .i64 (G 1), .int .i64 (G 2), .int .i64 (G 3), .int .i64 (G 4), .int .i64 (G 5), .int .i64 sx3, .slice ax3 nx3 cx3, .int .i64 1, .slice bx3 mx3 dx3]), (w.heap.size, 23, [.int .i64 (f 0), .int .i64 (f 1), .int .i64 (f 2), .int .i64 (f 3), .int .i64 (f 4), .int .i64 (f 5)])]) F W → W.cell? ⟨w63.heap.size, 0, none⟩ = some (.int .i64 (G 0)) ∧ W.cell? ⟨w63.heap.size, 1, none⟩ = some (.int .i64 (G 1)) ∧ W.cell? ⟨w63.heap.size, 2, none⟩ = some (.int .i64 (G 2)) ∧ W.cell? ⟨w63.heap.size, 3, none⟩ = some (.int .i64 (G 3)) ∧ W.cell? ⟨w63.heap.size, 4, none⟩ = some (.int .i64 (G 4)) ∧ W.cell? ⟨w63.heap.size, 5, none⟩ = some (.int .i64 (G 5)) ∧ W.cell? ⟨w63.heap.size, 6, none⟩ = some (.int .i64 sx63) ∧ W.cell? ⟨w63.heap.size, 7, none⟩ = some (.slice ax63 nx63 cx63) ∧ W.cell? ⟨w63.heap.size, 8, none⟩ = some (.int .i64 1) ∧ W.cell? ⟨w63.heap.size, 9, none⟩ = some (.slice bx63 mx63 dx63) ∧ W.cell? ⟨gt, k * 4, none⟩ = some (.int .i64 sk) ∧ W.cell? ⟨gt, k * 4 + 1, none⟩ = some (.slice ak nk ck) ∧ W.cell? ⟨gt, k * 4 + 2, none⟩ = some (.int .i64 1) ∧ W.cell? ⟨gt, k * 4 + 3, none⟩ = some (.slice bk mk dk) := fun W F x h => ⟨(h.box (w63.heap.size, 30, [.int .i64 (G 0), .int .i64 (G 1), .int .i64 (G 2), .int .i64 (G 3), .int .i64 (G 4), .int .i64 (G 5), .int .i64 sx63, .slice ax63 nx63 cx63, .int .i64 1, .slice bx63 mx63 dx63]) mq2).cell 0, (h.box (w63.heap.size, 30, [.int .i64 (G 0), .int .i64 (G 1), .int .i64 (G 2), .int .i64 (G 3), .int .i64 (G 4), .int .i64 (G 5), .int .i64 sx63, .slice ax63 nx63 cx63, .int .i64 1, .slice bx63 mx63 dx63]) mq2).cell 1, (h.box (w63.heap.size, 30, [.int .i64 (G 0), .int .i64 (G 1), .int .i64 (G 2), .int .i64 (G 3), .int .i64 (G 4), .int .i64 (G 5), .int .i64 sx63, .slice ax63 nx63 cx63, .int .i64 1, .slice bx63 mx63 dx63]) mq2).cell 2, (h.box (w63.heap.size, 30, [.int .i64 (G 0), .int .i64 (G 1), .int .i64 (G 2), .int .i64 (G 3), .int .i64 (G 4), .int .i64 (G 5), .int .i64 sx63, .slice ax63 nx63 cx63, .int .i64 1, .slice bx63 mx63 dx63]) mq2).cell 3, (h.box (w63.heap.size, 30, [.int .i64 (G 0), .int .i64 (G 1), .int .i64 (G 2), .int .i64 (G 3), .int .i64 (G 4), .int .i64 (G 5), .int .i64 sx63, .slice ax63 nx63 cx63, .int .i64 1, .slice bx63 mx63 dx63]) mq2).cell 4, (h.box (w63.heap.size, 30, [.int .i64 (G 0), .int .i64 (G 1), .int .i64 (G 2), .int .i64 (G 3), .int .i64 (G 4), .int .i64 (G 5), .int .i64 sx63, .slice ax63 nx63 cx63, .int .i64 1, .slice bx63 mx63 dx63]) mq2).cell 5, (h.box (w63.heap.size, 30, [.int .i64 (G 0), .int .i64 (G 1), .int .i64 (G 2), .int .i64 (G 3), .int .i64 (G 4), .int .i64 (G 5), .int .i64 sx63, .slice ax63 nx63 cx63, .int .i64 1, .slice bx63 mx63 dx63]) mq2).cell 6, (h.box (w63.heap.size, 30, [.int .i64 (G 0), .int .i64 (G 1), .int .i64 (G 2), .int .i64 (G 3), .int .i64 (G 4), .int .i64 (G 5), .int .i64 sx63, .slice ax63 nx63 cx63, .int .i64 1, .slice bx63 mx63 dx63]) mq2).cell 7, (h.box (w63.heap.size, 30, [.int .i64 (G 0), .int .i64 (G 1), .int .i64 (G 2), .int .i64 (G 3), .int .i64 (G 4), .int .i64 (G 5), .int .i64 sx63, .slice ax63 nx63 cx63, .int .i64 1, .slice bx63 mx63 dx63]) mq2).cell 8, (h.box (w63.heap.size, 30, [.int .i64 (G 0), .int .i64 (G 1), .int .i64 (G 2), .int .i64 (G 3), .int .i64 (G 4), .int .i64 (G 5), .int .i64 sx63, .slice ax63 nx63 cx63, .int .i64 1, .slice bx63 mx63 dx63]) mq2).cell 9, (HKC.out _ (h.box (gt, 28, [.int .i64 sj1, .slice aj1 nj1 cj1, .int .i64 1, .slice bj1 mj1 dj1, .int .i64 sj2, .slice aj2 nj2 cj2, .int .i64 1, .slice bj2 mj2 dj2, .int .i64 sj3, .slice aj3 nj3 cj3, .int .i64 1, .slice bj3 mj3 dj3, .int .i64 sx62, .slice ax62 nx62 cx62, .int .i64 1, .slice bx62 mx62 dx62]) mq3)).1, (HKC.out _ (h.box (gt, 28, [.int .i64 sj1, .slice aj1 nj1 cj1, .int .i64 1, .slice bj1 mj1 dj1, .int .i64 sj2, .slice aj2 nj2 cj2, .int .i64 1, .slice bj2 mj2 dj2, .int .i64 sj3, .slice aj3 nj3 cj3, .int .i64 1, .slice bj3 mj3 dj3, .int .i64 sx62, .slice ax62 nx62 cx62, .int .i64 1, .slice bx62 mx62 dx62]) mq3)).2.1, (HKC.out _ (h.box (gt, 28, [.int .i64 sj1, .slice aj1 nj1 cj1, .int .i64 1, .slice bj1 mj1 dj1, .int .i64 sj2, .slice aj2 nj2 cj2, .int .i64 1, .slice bj2 mj2 dj2, .int .i64 sj3, .slice aj3 nj3 cj3, .int .i64 1, .slice bj3 mj3 dj3, .int .i64 sx62, .slice ax62 nx62 cx62, .int .i64 1, .slice bx62 mx62 dx62]) mq3)).2.2.1, (HKC.out _ (h.box (gt, 28, [.int .i64 sj1, .slice aj1 nj1 cj1, .int .i64 1, .slice bj1 mj1 dj1, .int .i64 sj2, .slice aj2 nj2 cj2, .int .i64 1, .slice bj2 mj2 dj2, .int .i64 sj3, .slice aj3 nj3 cj3, .int .i64 1, .slice bj3 mj3 dj3, .int .i64 sx62, .slice ax62 nx62 cx62, .int .i64 1, .slice bx62 mx62 dx62]) mq3)).2.2.2⟩
    have KU := Lib.hid K0
    clear K0
    have N0 := Lib.hid R65.out.drew
    have A0 := Lib.hid (R65.out.put [.int .i64 0, .slice none 0 0, .int .i64 0, .slice none 0 0] 28).drew
    clear R65
    have e0 := KK.out _ _ N0.out
    have f0 := KU.out _ _ _ A0.out
    have CN := Lib.hid (fmul_r (N0.out.fr (v := .slice ax63 nx63 cx63) (u := .slice bx63 mx63 dx63) (r := q) mq2 mq3 E63.out) (N0.out.fr (v := .slice ak nk ck) (u := .slice bk mk dk) (r := PT k) (List.mem_cons_of_mem _ (List.mem_cons_of_mem _ (List.mem_cons_of_mem _ (List.mem_cons_of_mem _ HKV.out)))) (List.mem_cons_of_mem _ (List.mem_cons_of_mem _ (List.mem_cons_of_mem _ (List.mem_cons_of_mem _ HKU.out)))) EK.out) LQ.out LP.out HQ.out)
    have CA := Lib.hid (fmul_r (A0.out.fr (v := .slice ax63 nx63 cx63) (u := .slice bx63 mx63 dx63) (r := q) mq2 mq3 E63.out) (A0.out.fr (v := .slice ak nk ck) (u := .slice bk mk dk) (r := PT k) (List.mem_cons_of_mem _ (List.mem_cons_of_mem _ (List.mem_cons_of_mem _ (List.mem_cons_of_mem _ HKV.out)))) (List.mem_cons_of_mem _ (List.mem_cons_of_mem _ (List.mem_cons_of_mem _ (List.mem_cons_of_mem _ HKU.out)))) EK.out) LQ.out LP.out HQ.out)
    go_region_held3 (fun W => W.cell? ⟨w63.heap.size, 0, none⟩ = some (.int .i64 (G 0)) ∧ W.cell? ⟨w63.heap.size, 1, none⟩ = some (.int .i64 (G 1)) ∧ W.cell? ⟨w63.heap.size, 2, none⟩ = some (.int .i64 (G 2)) ∧ W.cell? ⟨w63.heap.size, 3, none⟩ = some (.int .i64 (G 3)) ∧ W.cell? ⟨w63.heap.size, 4, none⟩ = some (.int .i64 (G 4)) ∧ W.cell? ⟨w63.heap.size, 5, none⟩ = some (.int .i64 (G 5)) ∧ W.cell? ⟨w63.heap.size, 6, none⟩ = some (.int .i64 sx63) ∧ W.cell? ⟨w63.heap.size, 7, none⟩ = some (.slice ax63 nx63 cx63) ∧ W.cell? ⟨w63.heap.size, 8, none⟩ = some (.int .i64 1) ∧ W.cell? ⟨w63.heap.size, 9, none⟩ = some (.slice bx63 mx63 dx63) ∧ W.cell? ⟨gt, k * 4, none⟩ = some (.int .i64 sk) ∧ W.cell? ⟨gt, k * 4 + 1, none⟩ = some (.slice ak nk ck) ∧ W.cell? ⟨gt, k * 4 + 2, none⟩ = some (.int .i64 1) ∧ W.cell? ⟨gt, k * 4 + 3, none⟩ = some (.slice bk mk dk))
      (first | (with_reducible exact e0) | (with_reducible exact f0) | (with_reducible exact k1) | (with_reducible exact l1) | (with_reducible exact q1_) | (with_reducible exact k2) | (with_reducible exact q2_) | go_keep)
      (first
          | (have hG := A0; clear hG; go_at_call 27; (with_reducible refine (CA.out).mono ?_); rintro e y2 ⟨sx, ax, nx, cx, bx, mx, dx, rfl, hr, hb, hf, hg⟩; have EA := Lib.hid hr.1.1; have A1 := Lib.hid (A0.out.ret2 hb hr.1.2 hf hr.2.2 hg); clear hr hb hf hg; have k2 := KU.out _ _ _ A1.out; obtain ⟨z0, z1, z2, z3⟩ := (A1.out.box _ List.mem_cons_self : Fb (wc.heap.size, 28, [.int .i64 0, .slice none 0 0, .int .i64 0, .slice none 0 0]) _).cells4; obtain ⟨u0, u1, u2, u3⟩ := (A1.out.box _ List.mem_cons_self : Fb (wc.heap.size, 28, [.int .i64 0, .slice none 0 0, .int .i64 0, .slice none 0 0]) _).free4; have R2_ := Lib.hid (A1.out.set4 (pre := []) (.int .i64 sx) (.slice ax nx cx) (.int .i64 1) (.slice bx mx dx)); have q2_ := KU.out _ _ _ R2_.out)
          | (have hG := N0; clear hG; go_at_call 27; (with_reducible refine (CN.out).mono ?_); rintro e y1 ⟨sx, ax, nx, cx, bx, mx, dx, rfl, hr, hb, hf, hg⟩; have EN := Lib.hid hr.1.1; have N1 := Lib.hid (N0.out.ret2 hb hr.1.2 hf hr.2.2 hg); clear hr hb hf hg; have k1 := KK.out _ _ N1.out; have Z1 := Lib.hid (N1.out.put [.int .i64 0, .slice none 0 0, .int .i64 0, .slice none 0 0] 28); have l1 := KU.out _ _ _ Z1.out; have R1_ := Lib.hid (N1.out.put [.int .i64 sx, .slice ax nx cx, .int .i64 1, .slice bx mx dx] 28); have q1_ := KU.out _ _ _ R1_.out))
    all_goals (go_wp2_with fail; go_meet; refine ⟨rfl, ?_⟩; first | exact ⟨_, _, _, _, _, _, _, _, rfl, EN.out, R1_.out⟩ | exact ⟨_, _, _, _, _, _, _, _, rfl, EA.out, R2_.out⟩)
  case rest =>
  obtain ⟨rfl, hq⟩ := hcut
  obtain ⟨gx66, sx66, ax66, nx66, cx66, bx66, mx66, dx66, rfl, esx66, hsx66⟩ := hq.out
  obtain ⟨w66, rfl⟩ : ∃ W, W = wc := ⟨_, rfl⟩
  have R66 := Lib.hid hsx66
  have E66 := Lib.hid esx66
  clear hq esx66 hsx66 R65
  obtain ⟨q32, q33, q34, q35, q36, q37, q38, q39, q40, q41⟩ := Fb.cells10 (R66.out.box (w64.heap.size, 30, [.int .i64 (G 0), .int .i64 (G 1), .int .i64 (G 2), .int .i64 (G 3), .int .i64 (G 4), .int .i64 (G 5), .int .i64 sx64, .slice ax64 nx64 cx64, .int .i64 1, .slice bx64 mx64 dx64]) mq1)
  obtain ⟨q42, q43, q44, q45, q46, q47, q48, q49, q50, q51⟩ := Fb.cells10 (R66.out.box (w63.heap.size, 30, [.int .i64 (G 0), .int .i64 (G 1), .int .i64 (G 2), .int .i64 (G 3), .int .i64 (G 4), .int .i64 (G 5), .int .i64 sx63, .slice ax63 nx63 cx63, .int .i64 1, .slice bx63 mx63 dx63]) mq2)
  obtain ⟨q52, q53, q54, q55⟩ := Fb.cells4 (R66.out.box (gx66, 28, [.int .i64 sx66, .slice ax66 nx66 cx66, .int .i64 1, .slice bx66 mx66 dx66]) mq0)
  go_wp2_with fail
  clear q32 q33 q34 q35 q36 q37 q38 q39 q40 q41 q42 q43 q44 q45 q46 q47 q48 q49 q50 q51 q52 q53 q54 q55
  refine (rfsame_t (R66.out.fr (v := .slice ax64 nx64 cx64) (u := .slice bx64 mx64 dx64) (r := Q) mq2 mq3 E64.out) (R66.out.fr (v := .slice ax66 nx66 cx66) (u := .slice bx66 mx66 dx66) (r := Q) mq0 mq1 E66.out) rfl).mono ?_
  rintro e w67 ⟨rfl, hb⟩
  have R67 := Lib.hid (R66.out.later hb)
  clear hb
  go_wp2_with fail
  go_ret
  exact ⟨rfl, R67.out.below⟩

set_option maxHeartbeats 16000000 in
theorem dims_d_none (f : Nat → Int) (s : ByteArray) (n : Int) (hs : s.size ≤ 38) (hd : ok f = true) (_hn : 0 ≤ n ∧ n ≤ 255) (hy : symL s.data.toList = none) (w : World) (he : EnvU w) : Calls Tryz.prog 6 #[.agg #[.int .i64 (f 0), .int .i64 (f 1), .int .i64 (f 2), .int .i64 (f 3), .int .i64 (f 4), .int .i64 (f 5)], .string s, .int .u8 n] w fun e w' => e = .returned (.bool true) ∧ RowKit.Below w.heap.size w w' := by
  have HE := Lib.hid he
  have g1 : decide (38 < (s.size : Int)) = false := by simp; omega
  have g1' : decide (38 < s.size) = false := by simp; omega
  have HR0 := Lib.hid (fun W => rightG f W)
  rw [hd] at HR0
  obtain ⟨l, g, r1, r2, r3, r4⟩ := dim_read hd
  have HT : Hid (∀ W, EnvU W → Calls Tryz.prog 29 #[.agg (cl f)] W (Dm.Gives (.string ⟨(tx f).toArray⟩) W)) := Lib.hid (fun W he => text_any f W he.dim)
  have HRD : Hid (∀ W, EnvU W → Calls Tryz.prog 10 #[.string ⟨(tx f).toArray⟩] W (UVE g 1 0 W)) := Lib.hid (fun W he => (uread_any ⟨(tx f).toArray⟩ W he).mono fun _ _ h => read_gives r1 r2 r4 h)
  obtain ⟨TX, hTX⟩ : ∃ T : ByteArray, ⟨(tx f).toArray⟩ = T := ⟨_, rfl⟩
  rw [hTX] at HT HRD
  have heq := eq_dim g f
  rw [show eqB g f = true from (eqB_iff g f).2 r3] at heq
  have HI1 := Lib.hid (fun W => rfint_r (z := 1) (r := 1) (by decide) rfl W)
  unfold cl at HT heq
  clear r1 r2 r3 r4 hTX
  unfold cl at HR0
  have HSY := Lib.hid (fun W => u9sym_none s hy W)
  unfold Dm.Gives uc at HSY
  clear hy
  have s0 := ((Sf.start w).put [.int .i64 (f 0), .int .i64 (f 1), .int .i64 (f 2), .int .i64 (f 3), .int .i64 (f 4), .int .i64 (f 5)] 23)
  try simp only [World.size_alloc] at s0
  have S0 := Lib.hid s0
  clear s0
  go_enter Tryz.func6, Tryz.ntmps6
  go_wp2_with fail
  refine (sane_t _ (HE.out.below S0.out.below)).mono ?_
  rintro e w1 ⟨rfl, hb⟩
  have R1 := Lib.hid (S0.out.later hb)
  clear hb
  clear he hd _hn
  obtain ⟨q1, q2, q3, q4, q5, q6⟩ := Fb.cells6 (R1.out.box (w.heap.size, 23, [.int .i64 (f 0), .int .i64 (f 1), .int .i64 (f 2), .int .i64 (f 3), .int .i64 (f 4), .int .i64 (f 5)]) mq0)
  go_wp2_with fail
  clear q1 q2 q3 q4 q5 q6
  refine (HR0.out _).mono ?_
  rintro e w2 ⟨rfl, hb⟩
  have R2 := Lib.hid (R1.out.later hb)
  clear hb
  obtain ⟨q7, q8, q9, q10, q11, q12⟩ := Fb.cells6 (R2.out.box (w.heap.size, 23, [.int .i64 (f 0), .int .i64 (f 1), .int .i64 (f 2), .int .i64 (f 3), .int .i64 (f 4), .int .i64 (f 5)]) mq0)
  go_wp2_with fail
  clear q7 q8 q9 q10 q11 q12
  refine (HT.out _ (HE.out.below R2.out.below)).mono ?_
  rintro e w3 ⟨rfl, hb⟩
  have R3 := Lib.hid (R2.out.later hb)
  clear hb
  go_wp2_with fail
  refine (HRD.out _ (HE.out.below R3.out.below)).mono ?_
  rintro e w4 ⟨sx4, ax4, nx4, cx4, bx4, mx4, dx4, rfl, hr, hb, hf, hg⟩
  have E4 := Lib.hid hr.1.1
  have R4 := Lib.hid (R3.out.ret2 hb hr.1.2 hf hr.2.2 hg)
  have FF4 := Lib.hid (hf.mono R3.out.below.size)
  have FG4 := Lib.hid (hg.mono R3.out.below.size)
  clear hr hb hf hg
  have P13 := Lib.hid (R4.out.put [.int .i64 0, .int .i64 0, .int .i64 0, .int .i64 0, .int .i64 0, .int .i64 0, .int .i64 0, .slice none 0 0, .int .i64 0, .slice none 0 0] 30)
  have Q13 := Lib.hid (Sf.row (pre := []) P13.out [.int .i64 (g 0), .int .i64 (g 1), .int .i64 (g 2), .int .i64 (g 3), .int .i64 (g 4), .int .i64 (g 5), .int .i64 sx4, .slice ax4 nx4 cx4, .int .i64 1, .slice bx4 mx4 dx4])
  go_upto_region 6 with (refine wpList_store_row rfl _ _ _ rfl _ #[.int .i64 (g 0), .int .i64 (g 1), .int .i64 (g 2), .int .i64 (g 3), .int .i64 (g 4), .int .i64 (g 5), .int .i64 sx4, .slice ax4 nx4 cx4, .int .i64 1, .slice bx4 mx4 dx4] rfl rfl _ _ (P13.out.box _ List.mem_cons_self) (by kernel_rfl) rfl (by simp [Value.oneCell']) ?_)
  obtain ⟨WA, hWA⟩ : ∃ W, ((w4.alloc (.cells #[.int .i64 0, .int .i64 0, .int .i64 0, .int .i64 0, .int .i64 0, .int .i64 0, .int .i64 0, .slice none 0 0, .int .i64 0, .slice none 0 0] 30)).setRow w4.heap.size #[.int .i64 (g 0), .int .i64 (g 1), .int .i64 (g 2), .int .i64 (g 3), .int .i64 (g 4), .int .i64 (g 5), .int .i64 sx4, .slice ax4 nx4 cx4, .int .i64 1, .slice bx4 mx4 dx4]) = W := ⟨_, rfl⟩
  rw [hWA] at Q13 ⊢
  clear hWA
  go_cut [48] from 34 to 48 (fun u wx => u = .bool false ∧ Hid (Sf w [(w4.heap.size, 30, [.int .i64 (g 0), .int .i64 (g 1), .int .i64 (g 2), .int .i64 (g 3), .int .i64 (g 4), .int .i64 (g 5), .int .i64 sx4, .slice ax4 nx4 cx4, .int .i64 1, .slice bx4 mx4 dx4]), (w.heap.size, 23, [.int .i64 (f 0), .int .i64 (f 1), .int .i64 (f 2), .int .i64 (f 3), .int .i64 (f 4), .int .i64 (f 5)])] [(.slice ax4 nx4 cx4, digs ((1 : Rat)).num.natAbs), (.slice bx4 mx4 dx4, digs ((((1 : Rat)).den : Int)).natAbs)] wx))
  case first =>
    have K0 : ∀ W F, Sf w [(w4.heap.size, 30, [.int .i64 (g 0), .int .i64 (g 1), .int .i64 (g 2), .int .i64 (g 3), .int .i64 (g 4), .int .i64 (g 5), .int .i64 sx4, .slice ax4 nx4 cx4, .int .i64 1, .slice bx4 mx4 dx4]), (w.heap.size, 23, [.int .i64 (f 0), .int .i64 (f 1), .int .i64 (f 2), .int .i64 (f 3), .int .i64 (f 4), .int .i64 (f 5)])] F W → W.cell? ⟨w4.heap.size, 0, none⟩ = some (.int .i64 (g 0)) ∧ W.cell? ⟨w4.heap.size, 1, none⟩ = some (.int .i64 (g 1)) ∧ W.cell? ⟨w4.heap.size, 2, none⟩ = some (.int .i64 (g 2)) ∧ W.cell? ⟨w4.heap.size, 3, none⟩ = some (.int .i64 (g 3)) ∧ W.cell? ⟨w4.heap.size, 4, none⟩ = some (.int .i64 (g 4)) ∧ W.cell? ⟨w4.heap.size, 5, none⟩ = some (.int .i64 (g 5)) ∧ W.cell? ⟨w4.heap.size, 6, none⟩ = some (.int .i64 sx4) ∧ W.cell? ⟨w4.heap.size, 7, none⟩ = some (.slice ax4 nx4 cx4) ∧ W.cell? ⟨w4.heap.size, 8, none⟩ = some (.int .i64 1) ∧ W.cell? ⟨w4.heap.size, 9, none⟩ = some (.slice bx4 mx4 dx4) ∧ W.cell? ⟨w.heap.size, 0, none⟩ = some (.int .i64 (f 0)) ∧ W.cell? ⟨w.heap.size, 1, none⟩ = some (.int .i64 (f 1)) ∧ W.cell? ⟨w.heap.size, 2, none⟩ = some (.int .i64 (f 2)) ∧ W.cell? ⟨w.heap.size, 3, none⟩ = some (.int .i64 (f 3)) ∧ W.cell? ⟨w.heap.size, 4, none⟩ = some (.int .i64 (f 4)) ∧ W.cell? ⟨w.heap.size, 5, none⟩ = some (.int .i64 (f 5)) := fun W F h => ⟨(h.box (w4.heap.size, 30, [.int .i64 (g 0), .int .i64 (g 1), .int .i64 (g 2), .int .i64 (g 3), .int .i64 (g 4), .int .i64 (g 5), .int .i64 sx4, .slice ax4 nx4 cx4, .int .i64 1, .slice bx4 mx4 dx4]) mq0).cell 0, (h.box (w4.heap.size, 30, [.int .i64 (g 0), .int .i64 (g 1), .int .i64 (g 2), .int .i64 (g 3), .int .i64 (g 4), .int .i64 (g 5), .int .i64 sx4, .slice ax4 nx4 cx4, .int .i64 1, .slice bx4 mx4 dx4]) mq0).cell 1, (h.box (w4.heap.size, 30, [.int .i64 (g 0), .int .i64 (g 1), .int .i64 (g 2), .int .i64 (g 3), .int .i64 (g 4), .int .i64 (g 5), .int .i64 sx4, .slice ax4 nx4 cx4, .int .i64 1, .slice bx4 mx4 dx4]) mq0).cell 2, (h.box (w4.heap.size, 30, [.int .i64 (g 0), .int .i64 (g 1), .int .i64 (g 2), .int .i64 (g 3), .int .i64 (g 4), .int .i64 (g 5), .int .i64 sx4, .slice ax4 nx4 cx4, .int .i64 1, .slice bx4 mx4 dx4]) mq0).cell 3, (h.box (w4.heap.size, 30, [.int .i64 (g 0), .int .i64 (g 1), .int .i64 (g 2), .int .i64 (g 3), .int .i64 (g 4), .int .i64 (g 5), .int .i64 sx4, .slice ax4 nx4 cx4, .int .i64 1, .slice bx4 mx4 dx4]) mq0).cell 4, (h.box (w4.heap.size, 30, [.int .i64 (g 0), .int .i64 (g 1), .int .i64 (g 2), .int .i64 (g 3), .int .i64 (g 4), .int .i64 (g 5), .int .i64 sx4, .slice ax4 nx4 cx4, .int .i64 1, .slice bx4 mx4 dx4]) mq0).cell 5, (h.box (w4.heap.size, 30, [.int .i64 (g 0), .int .i64 (g 1), .int .i64 (g 2), .int .i64 (g 3), .int .i64 (g 4), .int .i64 (g 5), .int .i64 sx4, .slice ax4 nx4 cx4, .int .i64 1, .slice bx4 mx4 dx4]) mq0).cell 6, (h.box (w4.heap.size, 30, [.int .i64 (g 0), .int .i64 (g 1), .int .i64 (g 2), .int .i64 (g 3), .int .i64 (g 4), .int .i64 (g 5), .int .i64 sx4, .slice ax4 nx4 cx4, .int .i64 1, .slice bx4 mx4 dx4]) mq0).cell 7, (h.box (w4.heap.size, 30, [.int .i64 (g 0), .int .i64 (g 1), .int .i64 (g 2), .int .i64 (g 3), .int .i64 (g 4), .int .i64 (g 5), .int .i64 sx4, .slice ax4 nx4 cx4, .int .i64 1, .slice bx4 mx4 dx4]) mq0).cell 8, (h.box (w4.heap.size, 30, [.int .i64 (g 0), .int .i64 (g 1), .int .i64 (g 2), .int .i64 (g 3), .int .i64 (g 4), .int .i64 (g 5), .int .i64 sx4, .slice ax4 nx4 cx4, .int .i64 1, .slice bx4 mx4 dx4]) mq0).cell 9, (h.box (w.heap.size, 23, [.int .i64 (f 0), .int .i64 (f 1), .int .i64 (f 2), .int .i64 (f 3), .int .i64 (f 4), .int .i64 (f 5)]) mq1).cell 0, (h.box (w.heap.size, 23, [.int .i64 (f 0), .int .i64 (f 1), .int .i64 (f 2), .int .i64 (f 3), .int .i64 (f 4), .int .i64 (f 5)]) mq1).cell 1, (h.box (w.heap.size, 23, [.int .i64 (f 0), .int .i64 (f 1), .int .i64 (f 2), .int .i64 (f 3), .int .i64 (f 4), .int .i64 (f 5)]) mq1).cell 2, (h.box (w.heap.size, 23, [.int .i64 (f 0), .int .i64 (f 1), .int .i64 (f 2), .int .i64 (f 3), .int .i64 (f 4), .int .i64 (f 5)]) mq1).cell 3, (h.box (w.heap.size, 23, [.int .i64 (f 0), .int .i64 (f 1), .int .i64 (f 2), .int .i64 (f 3), .int .i64 (f 4), .int .i64 (f 5)]) mq1).cell 4, (h.box (w.heap.size, 23, [.int .i64 (f 0), .int .i64 (f 1), .int .i64 (f 2), .int .i64 (f 3), .int .i64 (f 4), .int .i64 (f 5)]) mq1).cell 5⟩
    have KK := Lib.hid K0
    clear K0
    have N0 := Lib.hid Q13.out.drew
    clear Q13
    have e0 := KK.out _ _ N0.out
    go_region_held3 (fun W => W.cell? ⟨w4.heap.size, 0, none⟩ = some (.int .i64 (g 0)) ∧ W.cell? ⟨w4.heap.size, 1, none⟩ = some (.int .i64 (g 1)) ∧ W.cell? ⟨w4.heap.size, 2, none⟩ = some (.int .i64 (g 2)) ∧ W.cell? ⟨w4.heap.size, 3, none⟩ = some (.int .i64 (g 3)) ∧ W.cell? ⟨w4.heap.size, 4, none⟩ = some (.int .i64 (g 4)) ∧ W.cell? ⟨w4.heap.size, 5, none⟩ = some (.int .i64 (g 5)) ∧ W.cell? ⟨w4.heap.size, 6, none⟩ = some (.int .i64 sx4) ∧ W.cell? ⟨w4.heap.size, 7, none⟩ = some (.slice ax4 nx4 cx4) ∧ W.cell? ⟨w4.heap.size, 8, none⟩ = some (.int .i64 1) ∧ W.cell? ⟨w4.heap.size, 9, none⟩ = some (.slice bx4 mx4 dx4) ∧ W.cell? ⟨w.heap.size, 0, none⟩ = some (.int .i64 (f 0)) ∧ W.cell? ⟨w.heap.size, 1, none⟩ = some (.int .i64 (f 1)) ∧ W.cell? ⟨w.heap.size, 2, none⟩ = some (.int .i64 (f 2)) ∧ W.cell? ⟨w.heap.size, 3, none⟩ = some (.int .i64 (f 3)) ∧ W.cell? ⟨w.heap.size, 4, none⟩ = some (.int .i64 (f 4)) ∧ W.cell? ⟨w.heap.size, 5, none⟩ = some (.int .i64 (f 5)))
      (first | (with_reducible exact e0) | (with_reducible exact e1) | (with_reducible exact e2))
      (((first | go_at_call 30 | go_at_call 21 | (rw [if_pos (by rfl)]; go_simp) | skip); (first
          | (have hG := N1; clear hG; go_at_call 21; (with_reducible refine (rfsame_t PN1_1.out PN1_2.out rfl).mono ?_); rintro e y5_1 ⟨rfl, hb⟩; have N2 := Lib.hid (N1.out.later hb); clear hb; have e2 := KK.out _ _ N2.out)
          | (have hG := N0; clear hG; go_at_call 30; (with_reducible refine (HI1.out _).mono ?_); rintro e y5_0 ⟨sx5_0, ax5_0, nx5_0, cx5_0, bx5_0, mx5_0, dx5_0, rfl, hr, hb, hf, hg⟩; have E5_0 := Lib.hid hr.1.1; have N1 := Lib.hid (N0.out.ret2 hb hr.1.2 hf hr.2.2 hg); clear hr hb hf hg; have e1 := KK.out _ _ N1.out; have PN1_1 := Lib.hid (N1.out.fr (v := .slice ax4 nx4 cx4) (u := .slice bx4 mx4 dx4) (r := (1 : Rat)) mq2 mq3 E4.out); have PN1_2 := Lib.hid (N1.out.fr (v := .slice ax5_0 nx5_0 cx5_0) (u := .slice bx5_0 mx5_0 dx5_0) (r := (1 : Rat)) mq0 mq1 E5_0.out))); (try dsimp only)))
    all_goals (go_wp2_with fail; go_meet; exact ⟨rfl, Lib.hid (Sf.facts N2.out (by simp))⟩)
  case rest =>
  obtain ⟨rfl, hq⟩ := hcut
  obtain ⟨w5, rfl⟩ : ∃ W, W = wc := ⟨_, rfl⟩
  have R5 := Lib.hid hq.out
  clear hq Q13
  go_wp2_with fail
  refine (HSY.out _).mono ?_
  rintro e w6 ⟨rfl, hb⟩
  have R6 := Lib.hid (R5.out.later hb)
  clear hb
  have P14 := Lib.hid (R6.out.put [.int .i64 0, .int .i64 0, .int .i64 0, .int .i64 0, .int .i64 0, .int .i64 0, .int .i64 0, .slice none 0 0, .int .i64 0, .slice none 0 0] 30)
  have Q14 := Lib.hid (Sf.row (pre := []) P14.out [.int .i64 (zf 0), .int .i64 (zf 1), .int .i64 (zf 2), .int .i64 (zf 3), .int .i64 (zf 4), .int .i64 (zf 5), .int .i64 0, .slice none 0 0, .int .i64 0, .slice none 0 0])
  go_wp2_with (first | refine wpList_store_row rfl _ _ _ rfl _ #[.int .i64 (zf 0), .int .i64 (zf 1), .int .i64 (zf 2), .int .i64 (zf 3), .int .i64 (zf 4), .int .i64 (zf 5), .int .i64 0, .slice none 0 0, .int .i64 0, .slice none 0 0] rfl rfl _ _ (P14.out.box _ List.mem_cons_self) (by kernel_rfl) rfl (by simp [Value.oneCell']) ?_)
  go_ret
  exact ⟨rfl, Q14.out.below⟩

set_option maxHeartbeats 16000000 in
theorem dims_d_far (f : Nat → Int) (s : ByteArray) (n : Int) (hs : s.size ≤ 38) (hd : ok f = true) (hn : 0 ≤ n ∧ n ≤ 255) {b : Nat} {nn : Int} {q : Rat} (hy : symL s.data.toList = some (b, nn, q)) (hc : canP s.data.toList = false) (w : World) (he : EnvU w) : Calls Tryz.prog 6 #[.agg #[.int .i64 (f 0), .int .i64 (f 1), .int .i64 (f 2), .int .i64 (f 3), .int .i64 (f 4), .int .i64 (f 5)], .string s, .int .u8 n] w fun e w' => e = .returned (.bool true) ∧ RowKit.Below w.heap.size w w' := by
  have HE := Lib.hid he
  have g1 : decide (38 < (s.size : Int)) = false := by simp; omega
  have g1' : decide (38 < s.size) = false := by simp; omega
  have HR0 := Lib.hid (fun W => rightG f W)
  rw [hd] at HR0
  obtain ⟨l, g, r1, r2, r3, r4⟩ := dim_read hd
  have HT : Hid (∀ W, EnvU W → Calls Tryz.prog 29 #[.agg (cl f)] W (Dm.Gives (.string ⟨(tx f).toArray⟩) W)) := Lib.hid (fun W he => text_any f W he.dim)
  have HRD : Hid (∀ W, EnvU W → Calls Tryz.prog 10 #[.string ⟨(tx f).toArray⟩] W (UVE g 1 0 W)) := Lib.hid (fun W he => (uread_any ⟨(tx f).toArray⟩ W he).mono fun _ _ h => read_gives r1 r2 r4 h)
  obtain ⟨TX, hTX⟩ : ∃ T : ByteArray, ⟨(tx f).toArray⟩ = T := ⟨_, rfl⟩
  rw [hTX] at HT HRD
  have heq := eq_dim g f
  rw [show eqB g f = true from (eqB_iff g f).2 r3] at heq
  have HI1 := Lib.hid (fun W => rfint_r (z := 1) (r := 1) (by decide) rfl W)
  unfold cl at HT heq
  clear r1 r2 r3 r4 hTX
  unfold cl at HR0
  have HSY := Lib.hid (fun W => u9sym_yes s hy W)
  obtain ⟨k, hk4, hm1, hm2⟩ := rem4 hn
  have HK4 := Lib.hid hk4
  have hwn : IntKind.i64.wrap n = n := IntWalk.i64_in _ (by omega)
  have hwk : IntKind.i64.wrap (k : Int) = (k : Int) := IntWalk.i64_in _ (by omega)
  obtain ⟨y1, y2, y3⟩ := sym_letters hy
  have hwd : wordL s.data.toList = some (b, nn, q) := by unfold wordL; rw [hy]
  have i1 := letters_items y1 (by omega) y3
  have e1 := word_one hwd
  have o1 := up_ok (b := b) (sym_n hy)
  have HRS := Lib.hid (fun W he => (uread_any s W he).mono fun _ _ h => read_gives i1 e1 o1 h)
  have hpw := pre_any hk4 hy
  have i2 : itemsL (PC k :: s.data.toList) = some [(PC k :: s.data.toList, 1)] := letters_items (by simp) (by simp; omega) (fun c hc => by
    rcases List.mem_cons.1 hc with rfl | hc
    · exact pc_letter hk4
    · exact y3 c hc)
  rw [hc] at hpw
  have HAD : Hid (∀ W : World, (Op.stringOp .add ⟨#[PC k]⟩ s).run Tryz.prog W = .ok (.string ⟨(PC k :: s.data.toList).toArray⟩) W) := Lib.hid (fun W => by
    have := run_string_add_lists (P := Tryz.prog) (w := W) [PC k] s.data.toList (by show (1 : Int) ≤ 8388608; decide) (by rw [sizeL]; omega)
    rw [show (⟨s.data.toList.toArray⟩ : ByteArray) = s by apply ByteArray.ext; simp] at this
    exact this)
  have e2 := word_no (w := PC k :: s.data.toList) (by simpa using hpw)
  have HRC : Hid (∀ W, EnvU W → Calls Tryz.prog 10 #[.string ⟨(PC k :: s.data.toList).toArray⟩] W (UZE 11 W)) := Lib.hid (fun W he => (uread_any ⟨(PC k :: s.data.toList).toArray⟩ W he).mono fun _ _ h => read_fails (by show failsI (PC k :: s.data.toList) = 11; unfold failsI; rw [i2]; dsimp only; rw [e2]) (by decide) h)
  unfold UZE uc at HRC
  obtain ⟨c1, c2, c3, c4, c5, c6⟩ := can_not hc
  obtain ⟨v1, v2, v3, v4⟩ := str_lit s [103] false true (by simpa using c1) rfl
  obtain ⟨v5, v6, v7, v8⟩ := str_lit s [109] false true (by simpa using c2) rfl
  obtain ⟨v9, v10, v11, v12⟩ := str_lit s [108] false true (by simpa using c3) rfl
  obtain ⟨v13, v14, v15, v16⟩ := str_lit s [115] false true (by simpa using c4) rfl
  obtain ⟨v17, v18, v19, v20⟩ := str_lit s [74] false true (by simpa using c5) rfl
  obtain ⟨v21, v22, v23, v24⟩ := str_lit s [87, 104] false true (by simpa using c6) rfl
  clear c1 c2 c3 c4 c5 c6 e2
  obtain ⟨CS, hCS⟩ : ∃ T : ByteArray, ⟨(PC k :: s.data.toList).toArray⟩ = T := ⟨_, rfl⟩
  rw [hCS] at HAD HRC
  obtain ⟨PK, hPK⟩ : ∃ T : ByteArray, ⟨#[PC k]⟩ = T := ⟨_, rfl⟩
  rw [hPK] at HAD
  have HPK := Lib.hid hPK
  obtain ⟨G, hG⟩ : ∃ G, up zf b nn = G := ⟨_, rfl⟩
  rw [hG] at HSY HRS
  have HJ1 := Lib.hid (fun W => rfint_r (z := 1000) (r := PT 0) (by decide) rfl W)
  have HJ2 := Lib.hid (fun W => rfint_r (z := 1000000) (r := PT 1) (by decide) rfl W)
  have HJ3 := Lib.hid (fun W => rfint_r (z := 1000000000) (r := PT 2) (by decide) rfl W)
  have HJ4 := Lib.hid (fun W => rfof_r (r := PT 3) 1 1000 (by decide) (by decide) (by decide) (by decide +kernel) W)
  have heg := eq_dim G G
  rw [eqB_refl] at heg
  unfold cl at heg
  have HS0 := Lib.hid (sizeL s)
  clear y1 y2 y3 hwd i1 e1 o1 hpw i2 hCS hPK hG hy hc hk4
  have s0 := ((Sf.start w).put [.int .i64 (f 0), .int .i64 (f 1), .int .i64 (f 2), .int .i64 (f 3), .int .i64 (f 4), .int .i64 (f 5)] 23)
  try simp only [World.size_alloc] at s0
  have S0 := Lib.hid s0
  clear s0
  go_enter Tryz.func6, Tryz.ntmps6
  go_wp2_with fail
  refine (sane_t _ (HE.out.below S0.out.below)).mono ?_
  rintro e w1 ⟨rfl, hb⟩
  have R1 := Lib.hid (S0.out.later hb)
  clear hb
  clear he hd hn
  obtain ⟨q1, q2, q3, q4, q5, q6⟩ := Fb.cells6 (R1.out.box (w.heap.size, 23, [.int .i64 (f 0), .int .i64 (f 1), .int .i64 (f 2), .int .i64 (f 3), .int .i64 (f 4), .int .i64 (f 5)]) mq0)
  go_wp2_with fail
  clear q1 q2 q3 q4 q5 q6
  refine (HR0.out _).mono ?_
  rintro e w2 ⟨rfl, hb⟩
  have R2 := Lib.hid (R1.out.later hb)
  clear hb
  obtain ⟨q7, q8, q9, q10, q11, q12⟩ := Fb.cells6 (R2.out.box (w.heap.size, 23, [.int .i64 (f 0), .int .i64 (f 1), .int .i64 (f 2), .int .i64 (f 3), .int .i64 (f 4), .int .i64 (f 5)]) mq0)
  go_wp2_with fail
  clear q7 q8 q9 q10 q11 q12
  refine (HT.out _ (HE.out.below R2.out.below)).mono ?_
  rintro e w3 ⟨rfl, hb⟩
  have R3 := Lib.hid (R2.out.later hb)
  clear hb
  go_wp2_with fail
  refine (HRD.out _ (HE.out.below R3.out.below)).mono ?_
  rintro e w4 ⟨sx4, ax4, nx4, cx4, bx4, mx4, dx4, rfl, hr, hb, hf, hg⟩
  have E4 := Lib.hid hr.1.1
  have R4 := Lib.hid (R3.out.ret2 hb hr.1.2 hf hr.2.2 hg)
  have FF4 := Lib.hid (hf.mono R3.out.below.size)
  have FG4 := Lib.hid (hg.mono R3.out.below.size)
  clear hr hb hf hg
  have P13 := Lib.hid (R4.out.put [.int .i64 0, .int .i64 0, .int .i64 0, .int .i64 0, .int .i64 0, .int .i64 0, .int .i64 0, .slice none 0 0, .int .i64 0, .slice none 0 0] 30)
  have Q13 := Lib.hid (Sf.row (pre := []) P13.out [.int .i64 (g 0), .int .i64 (g 1), .int .i64 (g 2), .int .i64 (g 3), .int .i64 (g 4), .int .i64 (g 5), .int .i64 sx4, .slice ax4 nx4 cx4, .int .i64 1, .slice bx4 mx4 dx4])
  go_upto_region 6 with (refine wpList_store_row rfl _ _ _ rfl _ #[.int .i64 (g 0), .int .i64 (g 1), .int .i64 (g 2), .int .i64 (g 3), .int .i64 (g 4), .int .i64 (g 5), .int .i64 sx4, .slice ax4 nx4 cx4, .int .i64 1, .slice bx4 mx4 dx4] rfl rfl _ _ (P13.out.box _ List.mem_cons_self) (by kernel_rfl) rfl (by simp [Value.oneCell']) ?_)
  obtain ⟨WA, hWA⟩ : ∃ W, ((w4.alloc (.cells #[.int .i64 0, .int .i64 0, .int .i64 0, .int .i64 0, .int .i64 0, .int .i64 0, .int .i64 0, .slice none 0 0, .int .i64 0, .slice none 0 0] 30)).setRow w4.heap.size #[.int .i64 (g 0), .int .i64 (g 1), .int .i64 (g 2), .int .i64 (g 3), .int .i64 (g 4), .int .i64 (g 5), .int .i64 sx4, .slice ax4 nx4 cx4, .int .i64 1, .slice bx4 mx4 dx4]) = W := ⟨_, rfl⟩
  rw [hWA] at Q13 ⊢
  clear hWA
  go_cut [48] from 34 to 48 (fun u wx => u = .bool false ∧ Hid (Sf w [(w4.heap.size, 30, [.int .i64 (g 0), .int .i64 (g 1), .int .i64 (g 2), .int .i64 (g 3), .int .i64 (g 4), .int .i64 (g 5), .int .i64 sx4, .slice ax4 nx4 cx4, .int .i64 1, .slice bx4 mx4 dx4]), (w.heap.size, 23, [.int .i64 (f 0), .int .i64 (f 1), .int .i64 (f 2), .int .i64 (f 3), .int .i64 (f 4), .int .i64 (f 5)])] [(.slice ax4 nx4 cx4, digs ((1 : Rat)).num.natAbs), (.slice bx4 mx4 dx4, digs ((((1 : Rat)).den : Int)).natAbs)] wx))
  case first =>
    have K0 : ∀ W F, Sf w [(w4.heap.size, 30, [.int .i64 (g 0), .int .i64 (g 1), .int .i64 (g 2), .int .i64 (g 3), .int .i64 (g 4), .int .i64 (g 5), .int .i64 sx4, .slice ax4 nx4 cx4, .int .i64 1, .slice bx4 mx4 dx4]), (w.heap.size, 23, [.int .i64 (f 0), .int .i64 (f 1), .int .i64 (f 2), .int .i64 (f 3), .int .i64 (f 4), .int .i64 (f 5)])] F W → W.cell? ⟨w4.heap.size, 0, none⟩ = some (.int .i64 (g 0)) ∧ W.cell? ⟨w4.heap.size, 1, none⟩ = some (.int .i64 (g 1)) ∧ W.cell? ⟨w4.heap.size, 2, none⟩ = some (.int .i64 (g 2)) ∧ W.cell? ⟨w4.heap.size, 3, none⟩ = some (.int .i64 (g 3)) ∧ W.cell? ⟨w4.heap.size, 4, none⟩ = some (.int .i64 (g 4)) ∧ W.cell? ⟨w4.heap.size, 5, none⟩ = some (.int .i64 (g 5)) ∧ W.cell? ⟨w4.heap.size, 6, none⟩ = some (.int .i64 sx4) ∧ W.cell? ⟨w4.heap.size, 7, none⟩ = some (.slice ax4 nx4 cx4) ∧ W.cell? ⟨w4.heap.size, 8, none⟩ = some (.int .i64 1) ∧ W.cell? ⟨w4.heap.size, 9, none⟩ = some (.slice bx4 mx4 dx4) ∧ W.cell? ⟨w.heap.size, 0, none⟩ = some (.int .i64 (f 0)) ∧ W.cell? ⟨w.heap.size, 1, none⟩ = some (.int .i64 (f 1)) ∧ W.cell? ⟨w.heap.size, 2, none⟩ = some (.int .i64 (f 2)) ∧ W.cell? ⟨w.heap.size, 3, none⟩ = some (.int .i64 (f 3)) ∧ W.cell? ⟨w.heap.size, 4, none⟩ = some (.int .i64 (f 4)) ∧ W.cell? ⟨w.heap.size, 5, none⟩ = some (.int .i64 (f 5)) := fun W F h => ⟨(h.box (w4.heap.size, 30, [.int .i64 (g 0), .int .i64 (g 1), .int .i64 (g 2), .int .i64 (g 3), .int .i64 (g 4), .int .i64 (g 5), .int .i64 sx4, .slice ax4 nx4 cx4, .int .i64 1, .slice bx4 mx4 dx4]) mq0).cell 0, (h.box (w4.heap.size, 30, [.int .i64 (g 0), .int .i64 (g 1), .int .i64 (g 2), .int .i64 (g 3), .int .i64 (g 4), .int .i64 (g 5), .int .i64 sx4, .slice ax4 nx4 cx4, .int .i64 1, .slice bx4 mx4 dx4]) mq0).cell 1, (h.box (w4.heap.size, 30, [.int .i64 (g 0), .int .i64 (g 1), .int .i64 (g 2), .int .i64 (g 3), .int .i64 (g 4), .int .i64 (g 5), .int .i64 sx4, .slice ax4 nx4 cx4, .int .i64 1, .slice bx4 mx4 dx4]) mq0).cell 2, (h.box (w4.heap.size, 30, [.int .i64 (g 0), .int .i64 (g 1), .int .i64 (g 2), .int .i64 (g 3), .int .i64 (g 4), .int .i64 (g 5), .int .i64 sx4, .slice ax4 nx4 cx4, .int .i64 1, .slice bx4 mx4 dx4]) mq0).cell 3, (h.box (w4.heap.size, 30, [.int .i64 (g 0), .int .i64 (g 1), .int .i64 (g 2), .int .i64 (g 3), .int .i64 (g 4), .int .i64 (g 5), .int .i64 sx4, .slice ax4 nx4 cx4, .int .i64 1, .slice bx4 mx4 dx4]) mq0).cell 4, (h.box (w4.heap.size, 30, [.int .i64 (g 0), .int .i64 (g 1), .int .i64 (g 2), .int .i64 (g 3), .int .i64 (g 4), .int .i64 (g 5), .int .i64 sx4, .slice ax4 nx4 cx4, .int .i64 1, .slice bx4 mx4 dx4]) mq0).cell 5, (h.box (w4.heap.size, 30, [.int .i64 (g 0), .int .i64 (g 1), .int .i64 (g 2), .int .i64 (g 3), .int .i64 (g 4), .int .i64 (g 5), .int .i64 sx4, .slice ax4 nx4 cx4, .int .i64 1, .slice bx4 mx4 dx4]) mq0).cell 6, (h.box (w4.heap.size, 30, [.int .i64 (g 0), .int .i64 (g 1), .int .i64 (g 2), .int .i64 (g 3), .int .i64 (g 4), .int .i64 (g 5), .int .i64 sx4, .slice ax4 nx4 cx4, .int .i64 1, .slice bx4 mx4 dx4]) mq0).cell 7, (h.box (w4.heap.size, 30, [.int .i64 (g 0), .int .i64 (g 1), .int .i64 (g 2), .int .i64 (g 3), .int .i64 (g 4), .int .i64 (g 5), .int .i64 sx4, .slice ax4 nx4 cx4, .int .i64 1, .slice bx4 mx4 dx4]) mq0).cell 8, (h.box (w4.heap.size, 30, [.int .i64 (g 0), .int .i64 (g 1), .int .i64 (g 2), .int .i64 (g 3), .int .i64 (g 4), .int .i64 (g 5), .int .i64 sx4, .slice ax4 nx4 cx4, .int .i64 1, .slice bx4 mx4 dx4]) mq0).cell 9, (h.box (w.heap.size, 23, [.int .i64 (f 0), .int .i64 (f 1), .int .i64 (f 2), .int .i64 (f 3), .int .i64 (f 4), .int .i64 (f 5)]) mq1).cell 0, (h.box (w.heap.size, 23, [.int .i64 (f 0), .int .i64 (f 1), .int .i64 (f 2), .int .i64 (f 3), .int .i64 (f 4), .int .i64 (f 5)]) mq1).cell 1, (h.box (w.heap.size, 23, [.int .i64 (f 0), .int .i64 (f 1), .int .i64 (f 2), .int .i64 (f 3), .int .i64 (f 4), .int .i64 (f 5)]) mq1).cell 2, (h.box (w.heap.size, 23, [.int .i64 (f 0), .int .i64 (f 1), .int .i64 (f 2), .int .i64 (f 3), .int .i64 (f 4), .int .i64 (f 5)]) mq1).cell 3, (h.box (w.heap.size, 23, [.int .i64 (f 0), .int .i64 (f 1), .int .i64 (f 2), .int .i64 (f 3), .int .i64 (f 4), .int .i64 (f 5)]) mq1).cell 4, (h.box (w.heap.size, 23, [.int .i64 (f 0), .int .i64 (f 1), .int .i64 (f 2), .int .i64 (f 3), .int .i64 (f 4), .int .i64 (f 5)]) mq1).cell 5⟩
    have KK := Lib.hid K0
    clear K0
    have N0 := Lib.hid Q13.out.drew
    clear Q13
    have e0 := KK.out _ _ N0.out
    go_region_held3 (fun W => W.cell? ⟨w4.heap.size, 0, none⟩ = some (.int .i64 (g 0)) ∧ W.cell? ⟨w4.heap.size, 1, none⟩ = some (.int .i64 (g 1)) ∧ W.cell? ⟨w4.heap.size, 2, none⟩ = some (.int .i64 (g 2)) ∧ W.cell? ⟨w4.heap.size, 3, none⟩ = some (.int .i64 (g 3)) ∧ W.cell? ⟨w4.heap.size, 4, none⟩ = some (.int .i64 (g 4)) ∧ W.cell? ⟨w4.heap.size, 5, none⟩ = some (.int .i64 (g 5)) ∧ W.cell? ⟨w4.heap.size, 6, none⟩ = some (.int .i64 sx4) ∧ W.cell? ⟨w4.heap.size, 7, none⟩ = some (.slice ax4 nx4 cx4) ∧ W.cell? ⟨w4.heap.size, 8, none⟩ = some (.int .i64 1) ∧ W.cell? ⟨w4.heap.size, 9, none⟩ = some (.slice bx4 mx4 dx4) ∧ W.cell? ⟨w.heap.size, 0, none⟩ = some (.int .i64 (f 0)) ∧ W.cell? ⟨w.heap.size, 1, none⟩ = some (.int .i64 (f 1)) ∧ W.cell? ⟨w.heap.size, 2, none⟩ = some (.int .i64 (f 2)) ∧ W.cell? ⟨w.heap.size, 3, none⟩ = some (.int .i64 (f 3)) ∧ W.cell? ⟨w.heap.size, 4, none⟩ = some (.int .i64 (f 4)) ∧ W.cell? ⟨w.heap.size, 5, none⟩ = some (.int .i64 (f 5)))
      (first | (with_reducible exact e0) | (with_reducible exact e1) | (with_reducible exact e2))
      (((first | go_at_call 30 | go_at_call 21 | (rw [if_pos (by rfl)]; go_simp) | skip); (first
          | (have hG := N1; clear hG; go_at_call 21; (with_reducible refine (rfsame_t PN1_1.out PN1_2.out rfl).mono ?_); rintro e y5_1 ⟨rfl, hb⟩; have N2 := Lib.hid (N1.out.later hb); clear hb; have e2 := KK.out _ _ N2.out)
          | (have hG := N0; clear hG; go_at_call 30; (with_reducible refine (HI1.out _).mono ?_); rintro e y5_0 ⟨sx5_0, ax5_0, nx5_0, cx5_0, bx5_0, mx5_0, dx5_0, rfl, hr, hb, hf, hg⟩; have E5_0 := Lib.hid hr.1.1; have N1 := Lib.hid (N0.out.ret2 hb hr.1.2 hf hr.2.2 hg); clear hr hb hf hg; have e1 := KK.out _ _ N1.out; have PN1_1 := Lib.hid (N1.out.fr (v := .slice ax4 nx4 cx4) (u := .slice bx4 mx4 dx4) (r := (1 : Rat)) mq2 mq3 E4.out); have PN1_2 := Lib.hid (N1.out.fr (v := .slice ax5_0 nx5_0 cx5_0) (u := .slice bx5_0 mx5_0 dx5_0) (r := (1 : Rat)) mq0 mq1 E5_0.out))); (try dsimp only)))
    all_goals (go_wp2_with fail; go_meet; exact ⟨rfl, Lib.hid (Sf.facts N2.out (by simp))⟩)
  case rest =>
  obtain ⟨rfl, hq⟩ := hcut
  obtain ⟨w5, rfl⟩ : ∃ W, W = wc := ⟨_, rfl⟩
  have R5 := Lib.hid hq.out
  clear hq Q13
  go_wp2_with fail
  refine (HSY.out _).mono ?_
  rintro e w6 ⟨sx6, ax6, nx6, cx6, bx6, mx6, dx6, rfl, hr, hb, hf, hg⟩
  have E6 := Lib.hid hr.1.1
  have R6 := Lib.hid (R5.out.ret2 hb hr.1.2 hf hr.2.2 hg)
  have FF6 := Lib.hid (hf.mono R5.out.below.size)
  have FG6 := Lib.hid (hg.mono R5.out.below.size)
  clear hr hb hf hg
  have P14 := Lib.hid (R6.out.put [.int .i64 0, .int .i64 0, .int .i64 0, .int .i64 0, .int .i64 0, .int .i64 0, .int .i64 0, .slice none 0 0, .int .i64 0, .slice none 0 0] 30)
  have Q14 := Lib.hid (Sf.row (pre := []) P14.out [.int .i64 (G 0), .int .i64 (G 1), .int .i64 (G 2), .int .i64 (G 3), .int .i64 (G 4), .int .i64 (G 5), .int .i64 sx6, .slice ax6 nx6 cx6, .int .i64 1, .slice bx6 mx6 dx6])
  go_upto_region 12 with (refine wpList_store_row rfl _ _ _ rfl _ #[.int .i64 (G 0), .int .i64 (G 1), .int .i64 (G 2), .int .i64 (G 3), .int .i64 (G 4), .int .i64 (G 5), .int .i64 sx6, .slice ax6 nx6 cx6, .int .i64 1, .slice bx6 mx6 dx6] rfl rfl _ _ (P14.out.box _ List.mem_cons_self) (by kernel_rfl) rfl (by simp [Value.oneCell']) ?_)
  obtain ⟨WB, hWB⟩ : ∃ W, ((w6.alloc (.cells #[.int .i64 0, .int .i64 0, .int .i64 0, .int .i64 0, .int .i64 0, .int .i64 0, .int .i64 0, .slice none 0 0, .int .i64 0, .slice none 0 0] 30)).setRow w6.heap.size #[.int .i64 (G 0), .int .i64 (G 1), .int .i64 (G 2), .int .i64 (G 3), .int .i64 (G 4), .int .i64 (G 5), .int .i64 sx6, .slice ax6 nx6 cx6, .int .i64 1, .slice bx6 mx6 dx6]) = W := ⟨_, rfl⟩
  rw [hWB] at Q14 ⊢
  clear hWB
  have P15 := Lib.hid (Q14.out.put [.string ⟨#[107]⟩, .string ⟨#[77]⟩, .string ⟨#[71]⟩, .string ⟨#[109]⟩] 9)
  go_upto_region 13 with fail
  obtain ⟨WC, hWC⟩ : ∃ W, (WB.alloc (.cells #[.string ⟨#[107]⟩, .string ⟨#[77]⟩, .string ⟨#[71]⟩, .string ⟨#[109]⟩] 9)) = W := ⟨_, rfl⟩
  rw [hWC] at P15 ⊢
  clear hWC
  obtain ⟨PB, hPB⟩ : ∃ B, WB.heap.size = B := ⟨_, rfl⟩
  rw [hPB] at P15 ⊢
  clear hPB
  go_cut [14] from 61 to 66 (fun u wx => Hid (∃ (gt : Nat) (sj1 : Int) (aj1 : Option Addr) (nj1 cj1 : Nat) (bj1 : Option Addr) (mj1 dj1 : Nat) (sj2 : Int) (aj2 : Option Addr) (nj2 cj2 : Nat) (bj2 : Option Addr) (mj2 dj2 : Nat) (sj3 : Int) (aj3 : Option Addr) (nj3 cj3 : Nat) (bj3 : Option Addr) (mj3 dj3 : Nat), u = .slice (some ⟨gt, 0, none⟩) 4 4 ∧ sj1 = (PT 0).num.sign ∧ sj2 = (PT 1).num.sign ∧ sj3 = (PT 2).num.sign ∧ Sf w ((gt, 28, [.int .i64 sj1, .slice aj1 nj1 cj1, .int .i64 1, .slice bj1 mj1 dj1, .int .i64 sj2, .slice aj2 nj2 cj2, .int .i64 1, .slice bj2 mj2 dj2, .int .i64 sj3, .slice aj3 nj3 cj3, .int .i64 1, .slice bj3 mj3 dj3, .int .i64 sx6, .slice ax6 nx6 cx6, .int .i64 1, .slice bx6 mx6 dx6]) :: [(PB, 9, [.string ⟨#[107]⟩, .string ⟨#[77]⟩, .string ⟨#[71]⟩, .string ⟨#[109]⟩]), (w6.heap.size, 30, [.int .i64 (G 0), .int .i64 (G 1), .int .i64 (G 2), .int .i64 (G 3), .int .i64 (G 4), .int .i64 (G 5), .int .i64 sx6, .slice ax6 nx6 cx6, .int .i64 1, .slice bx6 mx6 dx6]), (w4.heap.size, 30, [.int .i64 (g 0), .int .i64 (g 1), .int .i64 (g 2), .int .i64 (g 3), .int .i64 (g 4), .int .i64 (g 5), .int .i64 sx4, .slice ax4 nx4 cx4, .int .i64 1, .slice bx4 mx4 dx4]), (w.heap.size, 23, [.int .i64 (f 0), .int .i64 (f 1), .int .i64 (f 2), .int .i64 (f 3), .int .i64 (f 4), .int .i64 (f 5)])]) [(.slice aj3 nj3 cj3, digs (PT 2).num.natAbs), (.slice bj3 mj3 dj3, digs (((PT 2).den : Int)).natAbs), (.slice aj2 nj2 cj2, digs (PT 1).num.natAbs), (.slice bj2 mj2 dj2, digs (((PT 1).den : Int)).natAbs), (.slice aj1 nj1 cj1, digs (PT 0).num.natAbs), (.slice bj1 mj1 dj1, digs (((PT 0).den : Int)).natAbs), (.slice ax6 nx6 cx6, digs (q).num.natAbs), (.slice bx6 mx6 dx6, digs (((q).den : Int)).natAbs), (.slice ax4 nx4 cx4, digs ((1 : Rat)).num.natAbs), (.slice bx4 mx4 dx4, digs ((((1 : Rat)).den : Int)).natAbs)] wx))
  case first =>
    have K0 : ∀ W F, Sf w [(PB, 9, [.string ⟨#[107]⟩, .string ⟨#[77]⟩, .string ⟨#[71]⟩, .string ⟨#[109]⟩]), (w6.heap.size, 30, [.int .i64 (G 0), .int .i64 (G 1), .int .i64 (G 2), .int .i64 (G 3), .int .i64 (G 4), .int .i64 (G 5), .int .i64 sx6, .slice ax6 nx6 cx6, .int .i64 1, .slice bx6 mx6 dx6]), (w4.heap.size, 30, [.int .i64 (g 0), .int .i64 (g 1), .int .i64 (g 2), .int .i64 (g 3), .int .i64 (g 4), .int .i64 (g 5), .int .i64 sx4, .slice ax4 nx4 cx4, .int .i64 1, .slice bx4 mx4 dx4]), (w.heap.size, 23, [.int .i64 (f 0), .int .i64 (f 1), .int .i64 (f 2), .int .i64 (f 3), .int .i64 (f 4), .int .i64 (f 5)])] F W → W.cell? ⟨w6.heap.size, 0, none⟩ = some (.int .i64 (G 0)) ∧ W.cell? ⟨w6.heap.size, 1, none⟩ = some (.int .i64 (G 1)) ∧ W.cell? ⟨w6.heap.size, 2, none⟩ = some (.int .i64 (G 2)) ∧ W.cell? ⟨w6.heap.size, 3, none⟩ = some (.int .i64 (G 3)) ∧ W.cell? ⟨w6.heap.size, 4, none⟩ = some (.int .i64 (G 4)) ∧ W.cell? ⟨w6.heap.size, 5, none⟩ = some (.int .i64 (G 5)) ∧ W.cell? ⟨w6.heap.size, 6, none⟩ = some (.int .i64 sx6) ∧ W.cell? ⟨w6.heap.size, 7, none⟩ = some (.slice ax6 nx6 cx6) ∧ W.cell? ⟨w6.heap.size, 8, none⟩ = some (.int .i64 1) ∧ W.cell? ⟨w6.heap.size, 9, none⟩ = some (.slice bx6 mx6 dx6) := fun W F h => ⟨(h.box (w6.heap.size, 30, [.int .i64 (G 0), .int .i64 (G 1), .int .i64 (G 2), .int .i64 (G 3), .int .i64 (G 4), .int .i64 (G 5), .int .i64 sx6, .slice ax6 nx6 cx6, .int .i64 1, .slice bx6 mx6 dx6]) mq1).cell 0, (h.box (w6.heap.size, 30, [.int .i64 (G 0), .int .i64 (G 1), .int .i64 (G 2), .int .i64 (G 3), .int .i64 (G 4), .int .i64 (G 5), .int .i64 sx6, .slice ax6 nx6 cx6, .int .i64 1, .slice bx6 mx6 dx6]) mq1).cell 1, (h.box (w6.heap.size, 30, [.int .i64 (G 0), .int .i64 (G 1), .int .i64 (G 2), .int .i64 (G 3), .int .i64 (G 4), .int .i64 (G 5), .int .i64 sx6, .slice ax6 nx6 cx6, .int .i64 1, .slice bx6 mx6 dx6]) mq1).cell 2, (h.box (w6.heap.size, 30, [.int .i64 (G 0), .int .i64 (G 1), .int .i64 (G 2), .int .i64 (G 3), .int .i64 (G 4), .int .i64 (G 5), .int .i64 sx6, .slice ax6 nx6 cx6, .int .i64 1, .slice bx6 mx6 dx6]) mq1).cell 3, (h.box (w6.heap.size, 30, [.int .i64 (G 0), .int .i64 (G 1), .int .i64 (G 2), .int .i64 (G 3), .int .i64 (G 4), .int .i64 (G 5), .int .i64 sx6, .slice ax6 nx6 cx6, .int .i64 1, .slice bx6 mx6 dx6]) mq1).cell 4, (h.box (w6.heap.size, 30, [.int .i64 (G 0), .int .i64 (G 1), .int .i64 (G 2), .int .i64 (G 3), .int .i64 (G 4), .int .i64 (G 5), .int .i64 sx6, .slice ax6 nx6 cx6, .int .i64 1, .slice bx6 mx6 dx6]) mq1).cell 5, (h.box (w6.heap.size, 30, [.int .i64 (G 0), .int .i64 (G 1), .int .i64 (G 2), .int .i64 (G 3), .int .i64 (G 4), .int .i64 (G 5), .int .i64 sx6, .slice ax6 nx6 cx6, .int .i64 1, .slice bx6 mx6 dx6]) mq1).cell 6, (h.box (w6.heap.size, 30, [.int .i64 (G 0), .int .i64 (G 1), .int .i64 (G 2), .int .i64 (G 3), .int .i64 (G 4), .int .i64 (G 5), .int .i64 sx6, .slice ax6 nx6 cx6, .int .i64 1, .slice bx6 mx6 dx6]) mq1).cell 7, (h.box (w6.heap.size, 30, [.int .i64 (G 0), .int .i64 (G 1), .int .i64 (G 2), .int .i64 (G 3), .int .i64 (G 4), .int .i64 (G 5), .int .i64 sx6, .slice ax6 nx6 cx6, .int .i64 1, .slice bx6 mx6 dx6]) mq1).cell 8, (h.box (w6.heap.size, 30, [.int .i64 (G 0), .int .i64 (G 1), .int .i64 (G 2), .int .i64 (G 3), .int .i64 (G 4), .int .i64 (G 5), .int .i64 sx6, .slice ax6 nx6 cx6, .int .i64 1, .slice bx6 mx6 dx6]) mq1).cell 9⟩
    have KK := Lib.hid K0
    clear K0
    have K0 : ∀ W F x, Sf w (x :: [(PB, 9, [.string ⟨#[107]⟩, .string ⟨#[77]⟩, .string ⟨#[71]⟩, .string ⟨#[109]⟩]), (w6.heap.size, 30, [.int .i64 (G 0), .int .i64 (G 1), .int .i64 (G 2), .int .i64 (G 3), .int .i64 (G 4), .int .i64 (G 5), .int .i64 sx6, .slice ax6 nx6 cx6, .int .i64 1, .slice bx6 mx6 dx6]), (w4.heap.size, 30, [.int .i64 (g 0), .int .i64 (g 1), .int .i64 (g 2), .int .i64 (g 3), .int .i64 (g 4), .int .i64 (g 5), .int .i64 sx4, .slice ax4 nx4 cx4, .int .i64 1, .slice bx4 mx4 dx4]), (w.heap.size, 23, [.int .i64 (f 0), .int .i64 (f 1), .int .i64 (f 2), .int .i64 (f 3), .int .i64 (f 4), .int .i64 (f 5)])]) F W → W.cell? ⟨w6.heap.size, 0, none⟩ = some (.int .i64 (G 0)) ∧ W.cell? ⟨w6.heap.size, 1, none⟩ = some (.int .i64 (G 1)) ∧ W.cell? ⟨w6.heap.size, 2, none⟩ = some (.int .i64 (G 2)) ∧ W.cell? ⟨w6.heap.size, 3, none⟩ = some (.int .i64 (G 3)) ∧ W.cell? ⟨w6.heap.size, 4, none⟩ = some (.int .i64 (G 4)) ∧ W.cell? ⟨w6.heap.size, 5, none⟩ = some (.int .i64 (G 5)) ∧ W.cell? ⟨w6.heap.size, 6, none⟩ = some (.int .i64 sx6) ∧ W.cell? ⟨w6.heap.size, 7, none⟩ = some (.slice ax6 nx6 cx6) ∧ W.cell? ⟨w6.heap.size, 8, none⟩ = some (.int .i64 1) ∧ W.cell? ⟨w6.heap.size, 9, none⟩ = some (.slice bx6 mx6 dx6) := fun W F x h => ⟨(h.box (w6.heap.size, 30, [.int .i64 (G 0), .int .i64 (G 1), .int .i64 (G 2), .int .i64 (G 3), .int .i64 (G 4), .int .i64 (G 5), .int .i64 sx6, .slice ax6 nx6 cx6, .int .i64 1, .slice bx6 mx6 dx6]) mq2).cell 0, (h.box (w6.heap.size, 30, [.int .i64 (G 0), .int .i64 (G 1), .int .i64 (G 2), .int .i64 (G 3), .int .i64 (G 4), .int .i64 (G 5), .int .i64 sx6, .slice ax6 nx6 cx6, .int .i64 1, .slice bx6 mx6 dx6]) mq2).cell 1, (h.box (w6.heap.size, 30, [.int .i64 (G 0), .int .i64 (G 1), .int .i64 (G 2), .int .i64 (G 3), .int .i64 (G 4), .int .i64 (G 5), .int .i64 sx6, .slice ax6 nx6 cx6, .int .i64 1, .slice bx6 mx6 dx6]) mq2).cell 2, (h.box (w6.heap.size, 30, [.int .i64 (G 0), .int .i64 (G 1), .int .i64 (G 2), .int .i64 (G 3), .int .i64 (G 4), .int .i64 (G 5), .int .i64 sx6, .slice ax6 nx6 cx6, .int .i64 1, .slice bx6 mx6 dx6]) mq2).cell 3, (h.box (w6.heap.size, 30, [.int .i64 (G 0), .int .i64 (G 1), .int .i64 (G 2), .int .i64 (G 3), .int .i64 (G 4), .int .i64 (G 5), .int .i64 sx6, .slice ax6 nx6 cx6, .int .i64 1, .slice bx6 mx6 dx6]) mq2).cell 4, (h.box (w6.heap.size, 30, [.int .i64 (G 0), .int .i64 (G 1), .int .i64 (G 2), .int .i64 (G 3), .int .i64 (G 4), .int .i64 (G 5), .int .i64 sx6, .slice ax6 nx6 cx6, .int .i64 1, .slice bx6 mx6 dx6]) mq2).cell 5, (h.box (w6.heap.size, 30, [.int .i64 (G 0), .int .i64 (G 1), .int .i64 (G 2), .int .i64 (G 3), .int .i64 (G 4), .int .i64 (G 5), .int .i64 sx6, .slice ax6 nx6 cx6, .int .i64 1, .slice bx6 mx6 dx6]) mq2).cell 6, (h.box (w6.heap.size, 30, [.int .i64 (G 0), .int .i64 (G 1), .int .i64 (G 2), .int .i64 (G 3), .int .i64 (G 4), .int .i64 (G 5), .int .i64 sx6, .slice ax6 nx6 cx6, .int .i64 1, .slice bx6 mx6 dx6]) mq2).cell 7, (h.box (w6.heap.size, 30, [.int .i64 (G 0), .int .i64 (G 1), .int .i64 (G 2), .int .i64 (G 3), .int .i64 (G 4), .int .i64 (G 5), .int .i64 sx6, .slice ax6 nx6 cx6, .int .i64 1, .slice bx6 mx6 dx6]) mq2).cell 8, (h.box (w6.heap.size, 30, [.int .i64 (G 0), .int .i64 (G 1), .int .i64 (G 2), .int .i64 (G 3), .int .i64 (G 4), .int .i64 (G 5), .int .i64 sx6, .slice ax6 nx6 cx6, .int .i64 1, .slice bx6 mx6 dx6]) mq2).cell 9⟩
    have KU := Lib.hid K0
    clear K0
    have N0 := Lib.hid P15.out.drew
    clear P15
    have e0 := KK.out _ _ N0.out
    go_region_held3 (fun W => W.cell? ⟨w6.heap.size, 0, none⟩ = some (.int .i64 (G 0)) ∧ W.cell? ⟨w6.heap.size, 1, none⟩ = some (.int .i64 (G 1)) ∧ W.cell? ⟨w6.heap.size, 2, none⟩ = some (.int .i64 (G 2)) ∧ W.cell? ⟨w6.heap.size, 3, none⟩ = some (.int .i64 (G 3)) ∧ W.cell? ⟨w6.heap.size, 4, none⟩ = some (.int .i64 (G 4)) ∧ W.cell? ⟨w6.heap.size, 5, none⟩ = some (.int .i64 (G 5)) ∧ W.cell? ⟨w6.heap.size, 6, none⟩ = some (.int .i64 sx6) ∧ W.cell? ⟨w6.heap.size, 7, none⟩ = some (.slice ax6 nx6 cx6) ∧ W.cell? ⟨w6.heap.size, 8, none⟩ = some (.int .i64 1) ∧ W.cell? ⟨w6.heap.size, 9, none⟩ = some (.slice bx6 mx6 dx6))
      (first | (with_reducible exact e0) | (with_reducible exact e1) | (with_reducible exact e2) | (with_reducible exact e3) | (with_reducible exact e4) | go_keep)
      (first
          | (have hG := N2; clear hG; go_at_call 30; (with_reducible refine (HJ3.out _).mono ?_); rintro e y3 ⟨sj3, aj3, nj3, cj3, bj3, mj3, dj3, rfl, hr, hb, hf, hg⟩; have EJ3 := Lib.hid hr.1.1; have N3 := Lib.hid (N2.out.ret2 hb hr.1.2 hf hr.2.2 hg); clear hr hb hf hg; have e3 := KK.out _ _ N3.out; have NP := Lib.hid (N3.out.put [.int .i64 sj1, .slice aj1 nj1 cj1, .int .i64 1, .slice bj1 mj1 dj1, .int .i64 sj2, .slice aj2 nj2 cj2, .int .i64 1, .slice bj2 mj2 dj2, .int .i64 sj3, .slice aj3 nj3 cj3, .int .i64 1, .slice bj3 mj3 dj3, .int .i64 sx6, .slice ax6 nx6 cx6, .int .i64 1, .slice bx6 mx6 dx6] 28); have e4 := KU.out _ _ _ NP.out)
          | (have hG := N1; clear hG; go_at_call 30; (with_reducible refine (HJ2.out _).mono ?_); rintro e y2 ⟨sj2, aj2, nj2, cj2, bj2, mj2, dj2, rfl, hr, hb, hf, hg⟩; have EJ2 := Lib.hid hr.1.1; have N2 := Lib.hid (N1.out.ret2 hb hr.1.2 hf hr.2.2 hg); clear hr hb hf hg; have e2 := KK.out _ _ N2.out)
          | (have hG := N0; clear hG; go_at_call 30; (with_reducible refine (HJ1.out _).mono ?_); rintro e y1 ⟨sj1, aj1, nj1, cj1, bj1, mj1, dj1, rfl, hr, hb, hf, hg⟩; have EJ1 := Lib.hid hr.1.1; have N1 := Lib.hid (N0.out.ret2 hb hr.1.2 hf hr.2.2 hg); clear hr hb hf hg; have e1 := KK.out _ _ N1.out))
    all_goals (go_wp2_with fail; go_meet; exact ⟨_, _, _, _, _, _, _, _, _, _, _, _, _, _, _, _, _, _, _, _, _, _, rfl, EJ1.out, EJ2.out, EJ3.out, NP.out⟩)
  case rest =>
  obtain ⟨gt, sj1, aj1, nj1, cj1, bj1, mj1, dj1, sj2, aj2, nj2, cj2, bj2, mj2, dj2, sj3, aj3, nj3, cj3, bj3, mj3, dj3, rfl, ej1, ej2, ej3, hsj⟩ := hcut.out
  obtain ⟨w61, rfl⟩ : ∃ W, W = wc := ⟨_, rfl⟩
  have R61 := Lib.hid hsj
  have EJ1 := Lib.hid ej1
  have EJ2 := Lib.hid ej2
  have EJ3 := Lib.hid ej3
  clear hcut ej1 ej2 ej3 hsj P15
  have hf3 : ∀ W : World, (Instr.indexAt 58 (.slice (some ⟨gt, 0, none⟩) 4 4) (.int .i64 3)).run Tryz.prog W = .ok (.pointer (some ⟨gt, 12, none⟩)) W := fun W => ft_at gt 3 (by decide) W
  go_wp2_with fail
  refine (HJ4.out _).mono ?_
  rintro e w62 ⟨sx62, ax62, nx62, cx62, bx62, mx62, dx62, rfl, hr, hb, hf, hg⟩
  have E62 := Lib.hid hr.1.1
  have R62 := Lib.hid (R61.out.ret2 hb hr.1.2 hf hr.2.2 hg)
  have FF62 := Lib.hid (hf.mono R61.out.below.size)
  have FG62 := Lib.hid (hg.mono R61.out.below.size)
  clear hr hb hf hg
  have Q16 : Hid (Sf w ([] ++ (gt, 28, [.int .i64 sj1, .slice aj1 nj1 cj1, .int .i64 1, .slice bj1 mj1 dj1, .int .i64 sj2, .slice aj2 nj2 cj2, .int .i64 1, .slice bj2 mj2 dj2, .int .i64 sj3, .slice aj3 nj3 cj3, .int .i64 1, .slice bj3 mj3 dj3, .int .i64 sx62, .slice ax62 nx62 cx62, .int .i64 1, .slice bx62 mx62 dx62]) :: [(PB, 9, [.string ⟨#[107]⟩, .string ⟨#[77]⟩, .string ⟨#[71]⟩, .string ⟨#[109]⟩]), (w6.heap.size, 30, [.int .i64 (G 0), .int .i64 (G 1), .int .i64 (G 2), .int .i64 (G 3), .int .i64 (G 4), .int .i64 (G 5), .int .i64 sx6, .slice ax6 nx6 cx6, .int .i64 1, .slice bx6 mx6 dx6]), (w4.heap.size, 30, [.int .i64 (g 0), .int .i64 (g 1), .int .i64 (g 2), .int .i64 (g 3), .int .i64 (g 4), .int .i64 (g 5), .int .i64 sx4, .slice ax4 nx4 cx4, .int .i64 1, .slice bx4 mx4 dx4]), (w.heap.size, 23, [.int .i64 (f 0), .int .i64 (f 1), .int .i64 (f 2), .int .i64 (f 3), .int .i64 (f 4), .int .i64 (f 5)])]) _ _) := Lib.hid (Sf.part (pre := []) R62.out 12 13 14 15 rfl rfl rfl (.int .i64 sx62) (.slice ax62 nx62 cx62) (.int .i64 1) (.slice bx62 mx62 dx62))
  obtain ⟨V16, hV16⟩ : ∃ V, (((((w62).setCell ⟨gt, 12, none⟩ (.int .i64 sx62)).setCell ⟨gt, 13, none⟩ (.slice ax62 nx62 cx62)).setCell ⟨gt, 14, none⟩ (.int .i64 1)).setCell ⟨gt, 15, none⟩ (.slice bx62 mx62 dx62)) = V := ⟨_, rfl⟩
  rw [hV16] at Q16
  have HV16 := Lib.hid hV16
  clear hV16
  go_upto_region 15 with ((refine wpList_store4 rfl _ _ _ rfl _ 12 13 14 15 rfl rfl rfl (.int .i64 sx62) (.slice ax62 nx62 cx62) (.int .i64 1) (.slice bx62 mx62 dx62) rfl rfl (R62.out.box _ mq0) (Nat.le_of_ble_eq_true rfl) infoFrac (by simp [Value.oneCell']) ?_; rw [HV16.out]))
  clear hf3
  obtain ⟨sk, ak, nk, ck, bk, mk, dk, hkc, hks, hkv, hku⟩ : ∃ (sk : Int) (ak : Option Addr) (nk ck : Nat) (bk : Option Addr) (mk dk : Nat), (∀ W, Fb (gt, 28, [.int .i64 sj1, .slice aj1 nj1 cj1, .int .i64 1, .slice bj1 mj1 dj1, .int .i64 sj2, .slice aj2 nj2 cj2, .int .i64 1, .slice bj2 mj2 dj2, .int .i64 sj3, .slice aj3 nj3 cj3, .int .i64 1, .slice bj3 mj3 dj3, .int .i64 sx62, .slice ax62 nx62 cx62, .int .i64 1, .slice bx62 mx62 dx62]) W → W.cell? ⟨gt, k * 4, none⟩ = some (.int .i64 sk) ∧ W.cell? ⟨gt, k * 4 + 1, none⟩ = some (.slice ak nk ck) ∧ W.cell? ⟨gt, k * 4 + 2, none⟩ = some (.int .i64 1) ∧ W.cell? ⟨gt, k * 4 + 3, none⟩ = some (.slice bk mk dk)) ∧ sk = (PT k).num.sign ∧ (.slice ak nk ck, digs (PT k).num.natAbs) ∈ ([(.slice ax62 nx62 cx62, digs (PT 3).num.natAbs), (.slice bx62 mx62 dx62, digs (((PT 3).den : Int)).natAbs), (.slice aj3 nj3 cj3, digs (PT 2).num.natAbs), (.slice bj3 mj3 dj3, digs (((PT 2).den : Int)).natAbs), (.slice aj2 nj2 cj2, digs (PT 1).num.natAbs), (.slice bj2 mj2 dj2, digs (((PT 1).den : Int)).natAbs), (.slice aj1 nj1 cj1, digs (PT 0).num.natAbs), (.slice bj1 mj1 dj1, digs (((PT 0).den : Int)).natAbs), (.slice ax6 nx6 cx6, digs (q).num.natAbs), (.slice bx6 mx6 dx6, digs (((q).den : Int)).natAbs), (.slice ax4 nx4 cx4, digs ((1 : Rat)).num.natAbs), (.slice bx4 mx4 dx4, digs ((((1 : Rat)).den : Int)).natAbs)] : List (Value × List Int)) ∧ (.slice bk mk dk, digs (((PT k).den : Int)).natAbs) ∈ ([(.slice ax62 nx62 cx62, digs (PT 3).num.natAbs), (.slice bx62 mx62 dx62, digs (((PT 3).den : Int)).natAbs), (.slice aj3 nj3 cj3, digs (PT 2).num.natAbs), (.slice bj3 mj3 dj3, digs (((PT 2).den : Int)).natAbs), (.slice aj2 nj2 cj2, digs (PT 1).num.natAbs), (.slice bj2 mj2 dj2, digs (((PT 1).den : Int)).natAbs), (.slice aj1 nj1 cj1, digs (PT 0).num.natAbs), (.slice bj1 mj1 dj1, digs (((PT 0).den : Int)).natAbs), (.slice ax6 nx6 cx6, digs (q).num.natAbs), (.slice bx6 mx6 dx6, digs (((q).den : Int)).natAbs), (.slice ax4 nx4 cx4, digs ((1 : Rat)).num.natAbs), (.slice bx4 mx4 dx4, digs ((((1 : Rat)).den : Int)).natAbs)] : List (Value × List Int)) := by
    obtain rfl | rfl | rfl | rfl := lt4 HK4.out
    · exact ⟨_, _, _, _, _, _, _, fun W h => ⟨h.cell 0, h.cell 1, h.cell 2, h.cell 3⟩, EJ1.out, mq6, mq7⟩
    · exact ⟨_, _, _, _, _, _, _, fun W h => ⟨h.cell 4, h.cell 5, h.cell 6, h.cell 7⟩, EJ2.out, mq4, mq5⟩
    · exact ⟨_, _, _, _, _, _, _, fun W h => ⟨h.cell 8, h.cell 9, h.cell 10, h.cell 11⟩, EJ3.out, mq2, mq3⟩
    · exact ⟨_, _, _, _, _, _, _, fun W h => ⟨h.cell 12, h.cell 13, h.cell 14, h.cell 15⟩, E62.out, mq0, mq1⟩
  have HKC := Lib.hid hkc
  have EK := Lib.hid hks
  have HKV := Lib.hid hkv
  have HKU := Lib.hid hku
  clear hkc hks hkv hku
  have HPC : Hid (∀ W, Fb (PB, 9, [.string ⟨#[107]⟩, .string ⟨#[77]⟩, .string ⟨#[71]⟩, .string ⟨#[109]⟩]) W → W.cell? ⟨PB, k, none⟩ = some (.string PK)) := Lib.hid (fun W h => by
    rw [← HPK.out]
    obtain rfl | rfl | rfl | rfl := lt4 HK4.out
    · exact h.cell 0
    · exact h.cell 1
    · exact h.cell 2
    · exact h.cell 3)
  go_wp2_with fail
  refine (HRS.out _ (HE.out.below Q16.out.below)).mono ?_
  rintro e w63 ⟨sx63, ax63, nx63, cx63, bx63, mx63, dx63, rfl, hr, hb, hf, hg⟩
  have E63 := Lib.hid hr.1.1
  have R63 := Lib.hid (Q16.out.ret2 hb hr.1.2 hf hr.2.2 hg)
  have FF63 := Lib.hid (hf.mono Q16.out.below.size)
  have FG63 := Lib.hid (hg.mono Q16.out.below.size)
  clear hr hb hf hg
  have P17 := Lib.hid (R63.out.put [.int .i64 0, .int .i64 0, .int .i64 0, .int .i64 0, .int .i64 0, .int .i64 0, .int .i64 0, .slice none 0 0, .int .i64 0, .slice none 0 0] 30)
  have Q17 := Lib.hid (Sf.row (pre := []) P17.out [.int .i64 (G 0), .int .i64 (G 1), .int .i64 (G 2), .int .i64 (G 3), .int .i64 (G 4), .int .i64 (G 5), .int .i64 sx63, .slice ax63 nx63 cx63, .int .i64 1, .slice bx63 mx63 dx63])
  have hst := st_at PB k HK4.out
  have had := HAD.out
  have hpc := HPC.out _ (Q17.out.box (PB, 9, [.string ⟨#[107]⟩, .string ⟨#[77]⟩, .string ⟨#[71]⟩, .string ⟨#[109]⟩]) mq2)
  go_wp2_with (first | refine wpList_store_row rfl _ _ _ rfl _ #[.int .i64 (G 0), .int .i64 (G 1), .int .i64 (G 2), .int .i64 (G 3), .int .i64 (G 4), .int .i64 (G 5), .int .i64 sx63, .slice ax63 nx63 cx63, .int .i64 1, .slice bx63 mx63 dx63] rfl rfl _ _ (P17.out.box _ List.mem_cons_self) (by kernel_rfl) rfl (by simp [Value.oneCell']) ?_)
  clear hst had hpc
  refine (HRC.out _ (HE.out.below Q17.out.below)).mono ?_
  rintro e w64 ⟨rfl, hb⟩
  have R64 := Lib.hid (Q17.out.later hb)
  clear hb
  have P18 := Lib.hid (R64.out.put [.int .i64 0, .int .i64 0, .int .i64 0, .int .i64 0, .int .i64 0, .int .i64 0, .int .i64 0, .slice none 0 0, .int .i64 0, .slice none 0 0] 30)
  have Q18 := Lib.hid (Sf.row (pre := []) P18.out [.int .i64 (zf 0), .int .i64 (zf 1), .int .i64 (zf 2), .int .i64 (zf 3), .int .i64 (zf 4), .int .i64 (zf 5), .int .i64 0, .slice none 0 0, .int .i64 0, .slice none 0 0])
  obtain ⟨q19, q20, q21, q22, q23, q24, q25, q26, q27, q28⟩ := Fb.cells10 (Q18.out.box (w6.heap.size, 30, [.int .i64 (G 0), .int .i64 (G 1), .int .i64 (G 2), .int .i64 (G 3), .int .i64 (G 4), .int .i64 (G 5), .int .i64 sx6, .slice ax6 nx6 cx6, .int .i64 1, .slice bx6 mx6 dx6]) mq4)
  obtain ⟨q29, q30, q31, q32, q33, q34, q35, q36, q37, q38⟩ := Fb.cells10 (Q18.out.box (w63.heap.size, 30, [.int .i64 (G 0), .int .i64 (G 1), .int .i64 (G 2), .int .i64 (G 3), .int .i64 (G 4), .int .i64 (G 5), .int .i64 sx63, .slice ax63 nx63 cx63, .int .i64 1, .slice bx63 mx63 dx63]) mq1)
  go_wp2_with (first | refine wpList_store_row rfl _ _ _ rfl _ #[.int .i64 (zf 0), .int .i64 (zf 1), .int .i64 (zf 2), .int .i64 (zf 3), .int .i64 (zf 4), .int .i64 (zf 5), .int .i64 0, .slice none 0 0, .int .i64 0, .slice none 0 0] rfl rfl _ _ (P18.out.box _ List.mem_cons_self) (by kernel_rfl) rfl (by simp [Value.oneCell']) ?_)
  clear q19 q20 q21 q22 q23 q24 q25 q26 q27 q28 q29 q30 q31 q32 q33 q34 q35 q36 q37 q38
  refine (u9same_k (Q18.out.fr (v := .slice ax6 nx6 cx6) (u := .slice bx6 mx6 dx6) (r := q) mq10 mq11 E6.out) (Q18.out.fr (v := .slice ax63 nx63 cx63) (u := .slice bx63 mx63 dx63) (r := q) mq0 mq1 E63.out) (eqB_refl G) (k := true) (by simp)).mono ?_
  rintro e w65 ⟨rfl, hb⟩
  have R65 := Lib.hid (Q18.out.later hb)
  clear hb
  go_wp2_with fail
  go_ret
  exact ⟨rfl, R65.out.below⟩

set_option maxHeartbeats 16000000 in
theorem dims_d_near (f : Nat → Int) (s : ByteArray) (n : Int) (hs : s.size ≤ 38) (hd : ok f = true) (hn : 0 ≤ n ∧ n ≤ 255) {b : Nat} {nn : Int} {q : Rat} (hy : symL s.data.toList = some (b, nn, q)) (hc : canP s.data.toList = true) (w : World) (he : EnvU w) : Calls Tryz.prog 6 #[.agg #[.int .i64 (f 0), .int .i64 (f 1), .int .i64 (f 2), .int .i64 (f 3), .int .i64 (f 4), .int .i64 (f 5)], .string s, .int .u8 n] w fun e w' => e = .returned (.bool true) ∧ RowKit.Below w.heap.size w w' := by
  have HE := Lib.hid he
  have g1 : decide (38 < (s.size : Int)) = false := by simp; omega
  have g1' : decide (38 < s.size) = false := by simp; omega
  have HR0 := Lib.hid (fun W => rightG f W)
  rw [hd] at HR0
  obtain ⟨l, g, r1, r2, r3, r4⟩ := dim_read hd
  have HT : Hid (∀ W, EnvU W → Calls Tryz.prog 29 #[.agg (cl f)] W (Dm.Gives (.string ⟨(tx f).toArray⟩) W)) := Lib.hid (fun W he => text_any f W he.dim)
  have HRD : Hid (∀ W, EnvU W → Calls Tryz.prog 10 #[.string ⟨(tx f).toArray⟩] W (UVE g 1 0 W)) := Lib.hid (fun W he => (uread_any ⟨(tx f).toArray⟩ W he).mono fun _ _ h => read_gives r1 r2 r4 h)
  obtain ⟨TX, hTX⟩ : ∃ T : ByteArray, ⟨(tx f).toArray⟩ = T := ⟨_, rfl⟩
  rw [hTX] at HT HRD
  have heq := eq_dim g f
  rw [show eqB g f = true from (eqB_iff g f).2 r3] at heq
  have HI1 := Lib.hid (fun W => rfint_r (z := 1) (r := 1) (by decide) rfl W)
  unfold cl at HT heq
  clear r1 r2 r3 r4 hTX
  unfold cl at HR0
  have HSY := Lib.hid (fun W => u9sym_yes s hy W)
  obtain ⟨k, hk4, hm1, hm2⟩ := rem4 hn
  have HK4 := Lib.hid hk4
  have hwn : IntKind.i64.wrap n = n := IntWalk.i64_in _ (by omega)
  have hwk : IntKind.i64.wrap (k : Int) = (k : Int) := IntWalk.i64_in _ (by omega)
  obtain ⟨y1, y2, y3⟩ := sym_letters hy
  have hwd : wordL s.data.toList = some (b, nn, q) := by unfold wordL; rw [hy]
  have i1 := letters_items y1 (by omega) y3
  have e1 := word_one hwd
  have o1 := up_ok (b := b) (sym_n hy)
  have HRS := Lib.hid (fun W he => (uread_any s W he).mono fun _ _ h => read_gives i1 e1 o1 h)
  have hpw := pre_any hk4 hy
  have i2 : itemsL (PC k :: s.data.toList) = some [(PC k :: s.data.toList, 1)] := letters_items (by simp) (by simp; omega) (fun c hc => by
    rcases List.mem_cons.1 hc with rfl | hc
    · exact pc_letter hk4
    · exact y3 c hc)
  rw [hc] at hpw
  have HAD : Hid (∀ W : World, (Op.stringOp .add ⟨#[PC k]⟩ s).run Tryz.prog W = .ok (.string ⟨(PC k :: s.data.toList).toArray⟩) W) := Lib.hid (fun W => by
    have := run_string_add_lists (P := Tryz.prog) (w := W) [PC k] s.data.toList (by show (1 : Int) ≤ 8388608; decide) (by rw [sizeL]; omega)
    rw [show (⟨s.data.toList.toArray⟩ : ByteArray) = s by apply ByteArray.ext; simp] at this
    exact this)
  have e2 := word_one (w := PC k :: s.data.toList) (by simpa using hpw)
  have HRC : Hid (∀ W, EnvU W → Calls Tryz.prog 10 #[.string ⟨(PC k :: s.data.toList).toArray⟩] W (UVE (up zf b nn) (q * PT k) 0 W)) := Lib.hid (fun W he => (uread_any ⟨(PC k :: s.data.toList).toArray⟩ W he).mono fun _ _ h => read_gives i2 e2 o1 h)
  obtain ⟨Q, hQ⟩ : ∃ Q, q * PT k = Q := ⟨_, rfl⟩
  have HQ := Lib.hid hQ
  rw [hQ] at HRC
  have LQ := Lib.hid ((sym_sz hy).1.mono (j := 1000))
  have LP : Hid (FSz 1000 (PT k)) := Lib.hid (by
    refine FSz.mono (i := 2) ?_
    obtain rfl | rfl | rfl | rfl := lt4 hk4
    · exact ⟨by show ((1000 : Int).natAbs : Int) < _; simp [P], by show ((1 : Int).natAbs : Int) < _; simp [P]⟩
    · exact ⟨by show ((1000000 : Int).natAbs : Int) < _; simp [P], by show ((1 : Int).natAbs : Int) < _; simp [P]⟩
    · exact ⟨by show ((1000000000 : Int).natAbs : Int) < _; simp [P], by show ((1 : Int).natAbs : Int) < _; simp [P]⟩
    · exact (FSz.one (by decide +kernel) (by decide +kernel)).mono)
  have HCC := Lib.hid (can_cases hc)
  clear hQ e2
  obtain ⟨CS, hCS⟩ : ∃ T : ByteArray, ⟨(PC k :: s.data.toList).toArray⟩ = T := ⟨_, rfl⟩
  rw [hCS] at HAD HRC
  obtain ⟨PK, hPK⟩ : ∃ T : ByteArray, ⟨#[PC k]⟩ = T := ⟨_, rfl⟩
  rw [hPK] at HAD
  have HPK := Lib.hid hPK
  obtain ⟨G, hG⟩ : ∃ G, up zf b nn = G := ⟨_, rfl⟩
  rw [hG] at HSY HRS HRC
  have HJ1 := Lib.hid (fun W => rfint_r (z := 1000) (r := PT 0) (by decide) rfl W)
  have HJ2 := Lib.hid (fun W => rfint_r (z := 1000000) (r := PT 1) (by decide) rfl W)
  have HJ3 := Lib.hid (fun W => rfint_r (z := 1000000000) (r := PT 2) (by decide) rfl W)
  have HJ4 := Lib.hid (fun W => rfof_r (r := PT 3) 1 1000 (by decide) (by decide) (by decide) (by decide +kernel) W)
  have heg := eq_dim G G
  rw [eqB_refl] at heg
  unfold cl at heg
  have HS0 := Lib.hid (sizeL s)
  clear y1 y2 y3 hwd i1 e1 o1 hpw i2 hCS hPK hG hy hc hk4
  have s0 := ((Sf.start w).put [.int .i64 (f 0), .int .i64 (f 1), .int .i64 (f 2), .int .i64 (f 3), .int .i64 (f 4), .int .i64 (f 5)] 23)
  try simp only [World.size_alloc] at s0
  have S0 := Lib.hid s0
  clear s0
  go_enter Tryz.func6, Tryz.ntmps6
  go_wp2_with fail
  refine (sane_t _ (HE.out.below S0.out.below)).mono ?_
  rintro e w1 ⟨rfl, hb⟩
  have R1 := Lib.hid (S0.out.later hb)
  clear hb
  clear he hd hn
  obtain ⟨q1, q2, q3, q4, q5, q6⟩ := Fb.cells6 (R1.out.box (w.heap.size, 23, [.int .i64 (f 0), .int .i64 (f 1), .int .i64 (f 2), .int .i64 (f 3), .int .i64 (f 4), .int .i64 (f 5)]) mq0)
  go_wp2_with fail
  clear q1 q2 q3 q4 q5 q6
  refine (HR0.out _).mono ?_
  rintro e w2 ⟨rfl, hb⟩
  have R2 := Lib.hid (R1.out.later hb)
  clear hb
  obtain ⟨q7, q8, q9, q10, q11, q12⟩ := Fb.cells6 (R2.out.box (w.heap.size, 23, [.int .i64 (f 0), .int .i64 (f 1), .int .i64 (f 2), .int .i64 (f 3), .int .i64 (f 4), .int .i64 (f 5)]) mq0)
  go_wp2_with fail
  clear q7 q8 q9 q10 q11 q12
  refine (HT.out _ (HE.out.below R2.out.below)).mono ?_
  rintro e w3 ⟨rfl, hb⟩
  have R3 := Lib.hid (R2.out.later hb)
  clear hb
  go_wp2_with fail
  refine (HRD.out _ (HE.out.below R3.out.below)).mono ?_
  rintro e w4 ⟨sx4, ax4, nx4, cx4, bx4, mx4, dx4, rfl, hr, hb, hf, hg⟩
  have E4 := Lib.hid hr.1.1
  have R4 := Lib.hid (R3.out.ret2 hb hr.1.2 hf hr.2.2 hg)
  have FF4 := Lib.hid (hf.mono R3.out.below.size)
  have FG4 := Lib.hid (hg.mono R3.out.below.size)
  clear hr hb hf hg
  have P13 := Lib.hid (R4.out.put [.int .i64 0, .int .i64 0, .int .i64 0, .int .i64 0, .int .i64 0, .int .i64 0, .int .i64 0, .slice none 0 0, .int .i64 0, .slice none 0 0] 30)
  have Q13 := Lib.hid (Sf.row (pre := []) P13.out [.int .i64 (g 0), .int .i64 (g 1), .int .i64 (g 2), .int .i64 (g 3), .int .i64 (g 4), .int .i64 (g 5), .int .i64 sx4, .slice ax4 nx4 cx4, .int .i64 1, .slice bx4 mx4 dx4])
  go_upto_region 6 with (refine wpList_store_row rfl _ _ _ rfl _ #[.int .i64 (g 0), .int .i64 (g 1), .int .i64 (g 2), .int .i64 (g 3), .int .i64 (g 4), .int .i64 (g 5), .int .i64 sx4, .slice ax4 nx4 cx4, .int .i64 1, .slice bx4 mx4 dx4] rfl rfl _ _ (P13.out.box _ List.mem_cons_self) (by kernel_rfl) rfl (by simp [Value.oneCell']) ?_)
  obtain ⟨WA, hWA⟩ : ∃ W, ((w4.alloc (.cells #[.int .i64 0, .int .i64 0, .int .i64 0, .int .i64 0, .int .i64 0, .int .i64 0, .int .i64 0, .slice none 0 0, .int .i64 0, .slice none 0 0] 30)).setRow w4.heap.size #[.int .i64 (g 0), .int .i64 (g 1), .int .i64 (g 2), .int .i64 (g 3), .int .i64 (g 4), .int .i64 (g 5), .int .i64 sx4, .slice ax4 nx4 cx4, .int .i64 1, .slice bx4 mx4 dx4]) = W := ⟨_, rfl⟩
  rw [hWA] at Q13 ⊢
  clear hWA
  go_cut [48] from 34 to 48 (fun u wx => u = .bool false ∧ Hid (Sf w [(w4.heap.size, 30, [.int .i64 (g 0), .int .i64 (g 1), .int .i64 (g 2), .int .i64 (g 3), .int .i64 (g 4), .int .i64 (g 5), .int .i64 sx4, .slice ax4 nx4 cx4, .int .i64 1, .slice bx4 mx4 dx4]), (w.heap.size, 23, [.int .i64 (f 0), .int .i64 (f 1), .int .i64 (f 2), .int .i64 (f 3), .int .i64 (f 4), .int .i64 (f 5)])] [(.slice ax4 nx4 cx4, digs ((1 : Rat)).num.natAbs), (.slice bx4 mx4 dx4, digs ((((1 : Rat)).den : Int)).natAbs)] wx))
  case first =>
    have K0 : ∀ W F, Sf w [(w4.heap.size, 30, [.int .i64 (g 0), .int .i64 (g 1), .int .i64 (g 2), .int .i64 (g 3), .int .i64 (g 4), .int .i64 (g 5), .int .i64 sx4, .slice ax4 nx4 cx4, .int .i64 1, .slice bx4 mx4 dx4]), (w.heap.size, 23, [.int .i64 (f 0), .int .i64 (f 1), .int .i64 (f 2), .int .i64 (f 3), .int .i64 (f 4), .int .i64 (f 5)])] F W → W.cell? ⟨w4.heap.size, 0, none⟩ = some (.int .i64 (g 0)) ∧ W.cell? ⟨w4.heap.size, 1, none⟩ = some (.int .i64 (g 1)) ∧ W.cell? ⟨w4.heap.size, 2, none⟩ = some (.int .i64 (g 2)) ∧ W.cell? ⟨w4.heap.size, 3, none⟩ = some (.int .i64 (g 3)) ∧ W.cell? ⟨w4.heap.size, 4, none⟩ = some (.int .i64 (g 4)) ∧ W.cell? ⟨w4.heap.size, 5, none⟩ = some (.int .i64 (g 5)) ∧ W.cell? ⟨w4.heap.size, 6, none⟩ = some (.int .i64 sx4) ∧ W.cell? ⟨w4.heap.size, 7, none⟩ = some (.slice ax4 nx4 cx4) ∧ W.cell? ⟨w4.heap.size, 8, none⟩ = some (.int .i64 1) ∧ W.cell? ⟨w4.heap.size, 9, none⟩ = some (.slice bx4 mx4 dx4) ∧ W.cell? ⟨w.heap.size, 0, none⟩ = some (.int .i64 (f 0)) ∧ W.cell? ⟨w.heap.size, 1, none⟩ = some (.int .i64 (f 1)) ∧ W.cell? ⟨w.heap.size, 2, none⟩ = some (.int .i64 (f 2)) ∧ W.cell? ⟨w.heap.size, 3, none⟩ = some (.int .i64 (f 3)) ∧ W.cell? ⟨w.heap.size, 4, none⟩ = some (.int .i64 (f 4)) ∧ W.cell? ⟨w.heap.size, 5, none⟩ = some (.int .i64 (f 5)) := fun W F h => ⟨(h.box (w4.heap.size, 30, [.int .i64 (g 0), .int .i64 (g 1), .int .i64 (g 2), .int .i64 (g 3), .int .i64 (g 4), .int .i64 (g 5), .int .i64 sx4, .slice ax4 nx4 cx4, .int .i64 1, .slice bx4 mx4 dx4]) mq0).cell 0, (h.box (w4.heap.size, 30, [.int .i64 (g 0), .int .i64 (g 1), .int .i64 (g 2), .int .i64 (g 3), .int .i64 (g 4), .int .i64 (g 5), .int .i64 sx4, .slice ax4 nx4 cx4, .int .i64 1, .slice bx4 mx4 dx4]) mq0).cell 1, (h.box (w4.heap.size, 30, [.int .i64 (g 0), .int .i64 (g 1), .int .i64 (g 2), .int .i64 (g 3), .int .i64 (g 4), .int .i64 (g 5), .int .i64 sx4, .slice ax4 nx4 cx4, .int .i64 1, .slice bx4 mx4 dx4]) mq0).cell 2, (h.box (w4.heap.size, 30, [.int .i64 (g 0), .int .i64 (g 1), .int .i64 (g 2), .int .i64 (g 3), .int .i64 (g 4), .int .i64 (g 5), .int .i64 sx4, .slice ax4 nx4 cx4, .int .i64 1, .slice bx4 mx4 dx4]) mq0).cell 3, (h.box (w4.heap.size, 30, [.int .i64 (g 0), .int .i64 (g 1), .int .i64 (g 2), .int .i64 (g 3), .int .i64 (g 4), .int .i64 (g 5), .int .i64 sx4, .slice ax4 nx4 cx4, .int .i64 1, .slice bx4 mx4 dx4]) mq0).cell 4, (h.box (w4.heap.size, 30, [.int .i64 (g 0), .int .i64 (g 1), .int .i64 (g 2), .int .i64 (g 3), .int .i64 (g 4), .int .i64 (g 5), .int .i64 sx4, .slice ax4 nx4 cx4, .int .i64 1, .slice bx4 mx4 dx4]) mq0).cell 5, (h.box (w4.heap.size, 30, [.int .i64 (g 0), .int .i64 (g 1), .int .i64 (g 2), .int .i64 (g 3), .int .i64 (g 4), .int .i64 (g 5), .int .i64 sx4, .slice ax4 nx4 cx4, .int .i64 1, .slice bx4 mx4 dx4]) mq0).cell 6, (h.box (w4.heap.size, 30, [.int .i64 (g 0), .int .i64 (g 1), .int .i64 (g 2), .int .i64 (g 3), .int .i64 (g 4), .int .i64 (g 5), .int .i64 sx4, .slice ax4 nx4 cx4, .int .i64 1, .slice bx4 mx4 dx4]) mq0).cell 7, (h.box (w4.heap.size, 30, [.int .i64 (g 0), .int .i64 (g 1), .int .i64 (g 2), .int .i64 (g 3), .int .i64 (g 4), .int .i64 (g 5), .int .i64 sx4, .slice ax4 nx4 cx4, .int .i64 1, .slice bx4 mx4 dx4]) mq0).cell 8, (h.box (w4.heap.size, 30, [.int .i64 (g 0), .int .i64 (g 1), .int .i64 (g 2), .int .i64 (g 3), .int .i64 (g 4), .int .i64 (g 5), .int .i64 sx4, .slice ax4 nx4 cx4, .int .i64 1, .slice bx4 mx4 dx4]) mq0).cell 9, (h.box (w.heap.size, 23, [.int .i64 (f 0), .int .i64 (f 1), .int .i64 (f 2), .int .i64 (f 3), .int .i64 (f 4), .int .i64 (f 5)]) mq1).cell 0, (h.box (w.heap.size, 23, [.int .i64 (f 0), .int .i64 (f 1), .int .i64 (f 2), .int .i64 (f 3), .int .i64 (f 4), .int .i64 (f 5)]) mq1).cell 1, (h.box (w.heap.size, 23, [.int .i64 (f 0), .int .i64 (f 1), .int .i64 (f 2), .int .i64 (f 3), .int .i64 (f 4), .int .i64 (f 5)]) mq1).cell 2, (h.box (w.heap.size, 23, [.int .i64 (f 0), .int .i64 (f 1), .int .i64 (f 2), .int .i64 (f 3), .int .i64 (f 4), .int .i64 (f 5)]) mq1).cell 3, (h.box (w.heap.size, 23, [.int .i64 (f 0), .int .i64 (f 1), .int .i64 (f 2), .int .i64 (f 3), .int .i64 (f 4), .int .i64 (f 5)]) mq1).cell 4, (h.box (w.heap.size, 23, [.int .i64 (f 0), .int .i64 (f 1), .int .i64 (f 2), .int .i64 (f 3), .int .i64 (f 4), .int .i64 (f 5)]) mq1).cell 5⟩
    have KK := Lib.hid K0
    clear K0
    have N0 := Lib.hid Q13.out.drew
    clear Q13
    have e0 := KK.out _ _ N0.out
    go_region_held3 (fun W => W.cell? ⟨w4.heap.size, 0, none⟩ = some (.int .i64 (g 0)) ∧ W.cell? ⟨w4.heap.size, 1, none⟩ = some (.int .i64 (g 1)) ∧ W.cell? ⟨w4.heap.size, 2, none⟩ = some (.int .i64 (g 2)) ∧ W.cell? ⟨w4.heap.size, 3, none⟩ = some (.int .i64 (g 3)) ∧ W.cell? ⟨w4.heap.size, 4, none⟩ = some (.int .i64 (g 4)) ∧ W.cell? ⟨w4.heap.size, 5, none⟩ = some (.int .i64 (g 5)) ∧ W.cell? ⟨w4.heap.size, 6, none⟩ = some (.int .i64 sx4) ∧ W.cell? ⟨w4.heap.size, 7, none⟩ = some (.slice ax4 nx4 cx4) ∧ W.cell? ⟨w4.heap.size, 8, none⟩ = some (.int .i64 1) ∧ W.cell? ⟨w4.heap.size, 9, none⟩ = some (.slice bx4 mx4 dx4) ∧ W.cell? ⟨w.heap.size, 0, none⟩ = some (.int .i64 (f 0)) ∧ W.cell? ⟨w.heap.size, 1, none⟩ = some (.int .i64 (f 1)) ∧ W.cell? ⟨w.heap.size, 2, none⟩ = some (.int .i64 (f 2)) ∧ W.cell? ⟨w.heap.size, 3, none⟩ = some (.int .i64 (f 3)) ∧ W.cell? ⟨w.heap.size, 4, none⟩ = some (.int .i64 (f 4)) ∧ W.cell? ⟨w.heap.size, 5, none⟩ = some (.int .i64 (f 5)))
      (first | (with_reducible exact e0) | (with_reducible exact e1) | (with_reducible exact e2))
      (((first | go_at_call 30 | go_at_call 21 | (rw [if_pos (by rfl)]; go_simp) | skip); (first
          | (have hG := N1; clear hG; go_at_call 21; (with_reducible refine (rfsame_t PN1_1.out PN1_2.out rfl).mono ?_); rintro e y5_1 ⟨rfl, hb⟩; have N2 := Lib.hid (N1.out.later hb); clear hb; have e2 := KK.out _ _ N2.out)
          | (have hG := N0; clear hG; go_at_call 30; (with_reducible refine (HI1.out _).mono ?_); rintro e y5_0 ⟨sx5_0, ax5_0, nx5_0, cx5_0, bx5_0, mx5_0, dx5_0, rfl, hr, hb, hf, hg⟩; have E5_0 := Lib.hid hr.1.1; have N1 := Lib.hid (N0.out.ret2 hb hr.1.2 hf hr.2.2 hg); clear hr hb hf hg; have e1 := KK.out _ _ N1.out; have PN1_1 := Lib.hid (N1.out.fr (v := .slice ax4 nx4 cx4) (u := .slice bx4 mx4 dx4) (r := (1 : Rat)) mq2 mq3 E4.out); have PN1_2 := Lib.hid (N1.out.fr (v := .slice ax5_0 nx5_0 cx5_0) (u := .slice bx5_0 mx5_0 dx5_0) (r := (1 : Rat)) mq0 mq1 E5_0.out))); (try dsimp only)))
    all_goals (go_wp2_with fail; go_meet; exact ⟨rfl, Lib.hid (Sf.facts N2.out (by simp))⟩)
  case rest =>
  obtain ⟨rfl, hq⟩ := hcut
  obtain ⟨w5, rfl⟩ : ∃ W, W = wc := ⟨_, rfl⟩
  have R5 := Lib.hid hq.out
  clear hq Q13
  go_wp2_with fail
  refine (HSY.out _).mono ?_
  rintro e w6 ⟨sx6, ax6, nx6, cx6, bx6, mx6, dx6, rfl, hr, hb, hf, hg⟩
  have E6 := Lib.hid hr.1.1
  have R6 := Lib.hid (R5.out.ret2 hb hr.1.2 hf hr.2.2 hg)
  have FF6 := Lib.hid (hf.mono R5.out.below.size)
  have FG6 := Lib.hid (hg.mono R5.out.below.size)
  clear hr hb hf hg
  have P14 := Lib.hid (R6.out.put [.int .i64 0, .int .i64 0, .int .i64 0, .int .i64 0, .int .i64 0, .int .i64 0, .int .i64 0, .slice none 0 0, .int .i64 0, .slice none 0 0] 30)
  have Q14 := Lib.hid (Sf.row (pre := []) P14.out [.int .i64 (G 0), .int .i64 (G 1), .int .i64 (G 2), .int .i64 (G 3), .int .i64 (G 4), .int .i64 (G 5), .int .i64 sx6, .slice ax6 nx6 cx6, .int .i64 1, .slice bx6 mx6 dx6])
  go_upto_region 12 with (refine wpList_store_row rfl _ _ _ rfl _ #[.int .i64 (G 0), .int .i64 (G 1), .int .i64 (G 2), .int .i64 (G 3), .int .i64 (G 4), .int .i64 (G 5), .int .i64 sx6, .slice ax6 nx6 cx6, .int .i64 1, .slice bx6 mx6 dx6] rfl rfl _ _ (P14.out.box _ List.mem_cons_self) (by kernel_rfl) rfl (by simp [Value.oneCell']) ?_)
  obtain ⟨WB, hWB⟩ : ∃ W, ((w6.alloc (.cells #[.int .i64 0, .int .i64 0, .int .i64 0, .int .i64 0, .int .i64 0, .int .i64 0, .int .i64 0, .slice none 0 0, .int .i64 0, .slice none 0 0] 30)).setRow w6.heap.size #[.int .i64 (G 0), .int .i64 (G 1), .int .i64 (G 2), .int .i64 (G 3), .int .i64 (G 4), .int .i64 (G 5), .int .i64 sx6, .slice ax6 nx6 cx6, .int .i64 1, .slice bx6 mx6 dx6]) = W := ⟨_, rfl⟩
  rw [hWB] at Q14 ⊢
  clear hWB
  have P15 := Lib.hid (Q14.out.put [.string ⟨#[107]⟩, .string ⟨#[77]⟩, .string ⟨#[71]⟩, .string ⟨#[109]⟩] 9)
  go_upto_region 13 with fail
  obtain ⟨WC, hWC⟩ : ∃ W, (WB.alloc (.cells #[.string ⟨#[107]⟩, .string ⟨#[77]⟩, .string ⟨#[71]⟩, .string ⟨#[109]⟩] 9)) = W := ⟨_, rfl⟩
  rw [hWC] at P15 ⊢
  clear hWC
  obtain ⟨PB, hPB⟩ : ∃ B, WB.heap.size = B := ⟨_, rfl⟩
  rw [hPB] at P15 ⊢
  clear hPB
  go_cut [14] from 61 to 66 (fun u wx => Hid (∃ (gt : Nat) (sj1 : Int) (aj1 : Option Addr) (nj1 cj1 : Nat) (bj1 : Option Addr) (mj1 dj1 : Nat) (sj2 : Int) (aj2 : Option Addr) (nj2 cj2 : Nat) (bj2 : Option Addr) (mj2 dj2 : Nat) (sj3 : Int) (aj3 : Option Addr) (nj3 cj3 : Nat) (bj3 : Option Addr) (mj3 dj3 : Nat), u = .slice (some ⟨gt, 0, none⟩) 4 4 ∧ sj1 = (PT 0).num.sign ∧ sj2 = (PT 1).num.sign ∧ sj3 = (PT 2).num.sign ∧ Sf w ((gt, 28, [.int .i64 sj1, .slice aj1 nj1 cj1, .int .i64 1, .slice bj1 mj1 dj1, .int .i64 sj2, .slice aj2 nj2 cj2, .int .i64 1, .slice bj2 mj2 dj2, .int .i64 sj3, .slice aj3 nj3 cj3, .int .i64 1, .slice bj3 mj3 dj3, .int .i64 sx6, .slice ax6 nx6 cx6, .int .i64 1, .slice bx6 mx6 dx6]) :: [(PB, 9, [.string ⟨#[107]⟩, .string ⟨#[77]⟩, .string ⟨#[71]⟩, .string ⟨#[109]⟩]), (w6.heap.size, 30, [.int .i64 (G 0), .int .i64 (G 1), .int .i64 (G 2), .int .i64 (G 3), .int .i64 (G 4), .int .i64 (G 5), .int .i64 sx6, .slice ax6 nx6 cx6, .int .i64 1, .slice bx6 mx6 dx6]), (w4.heap.size, 30, [.int .i64 (g 0), .int .i64 (g 1), .int .i64 (g 2), .int .i64 (g 3), .int .i64 (g 4), .int .i64 (g 5), .int .i64 sx4, .slice ax4 nx4 cx4, .int .i64 1, .slice bx4 mx4 dx4]), (w.heap.size, 23, [.int .i64 (f 0), .int .i64 (f 1), .int .i64 (f 2), .int .i64 (f 3), .int .i64 (f 4), .int .i64 (f 5)])]) [(.slice aj3 nj3 cj3, digs (PT 2).num.natAbs), (.slice bj3 mj3 dj3, digs (((PT 2).den : Int)).natAbs), (.slice aj2 nj2 cj2, digs (PT 1).num.natAbs), (.slice bj2 mj2 dj2, digs (((PT 1).den : Int)).natAbs), (.slice aj1 nj1 cj1, digs (PT 0).num.natAbs), (.slice bj1 mj1 dj1, digs (((PT 0).den : Int)).natAbs), (.slice ax6 nx6 cx6, digs (q).num.natAbs), (.slice bx6 mx6 dx6, digs (((q).den : Int)).natAbs), (.slice ax4 nx4 cx4, digs ((1 : Rat)).num.natAbs), (.slice bx4 mx4 dx4, digs ((((1 : Rat)).den : Int)).natAbs)] wx))
  case first =>
    have K0 : ∀ W F, Sf w [(PB, 9, [.string ⟨#[107]⟩, .string ⟨#[77]⟩, .string ⟨#[71]⟩, .string ⟨#[109]⟩]), (w6.heap.size, 30, [.int .i64 (G 0), .int .i64 (G 1), .int .i64 (G 2), .int .i64 (G 3), .int .i64 (G 4), .int .i64 (G 5), .int .i64 sx6, .slice ax6 nx6 cx6, .int .i64 1, .slice bx6 mx6 dx6]), (w4.heap.size, 30, [.int .i64 (g 0), .int .i64 (g 1), .int .i64 (g 2), .int .i64 (g 3), .int .i64 (g 4), .int .i64 (g 5), .int .i64 sx4, .slice ax4 nx4 cx4, .int .i64 1, .slice bx4 mx4 dx4]), (w.heap.size, 23, [.int .i64 (f 0), .int .i64 (f 1), .int .i64 (f 2), .int .i64 (f 3), .int .i64 (f 4), .int .i64 (f 5)])] F W → W.cell? ⟨w6.heap.size, 0, none⟩ = some (.int .i64 (G 0)) ∧ W.cell? ⟨w6.heap.size, 1, none⟩ = some (.int .i64 (G 1)) ∧ W.cell? ⟨w6.heap.size, 2, none⟩ = some (.int .i64 (G 2)) ∧ W.cell? ⟨w6.heap.size, 3, none⟩ = some (.int .i64 (G 3)) ∧ W.cell? ⟨w6.heap.size, 4, none⟩ = some (.int .i64 (G 4)) ∧ W.cell? ⟨w6.heap.size, 5, none⟩ = some (.int .i64 (G 5)) ∧ W.cell? ⟨w6.heap.size, 6, none⟩ = some (.int .i64 sx6) ∧ W.cell? ⟨w6.heap.size, 7, none⟩ = some (.slice ax6 nx6 cx6) ∧ W.cell? ⟨w6.heap.size, 8, none⟩ = some (.int .i64 1) ∧ W.cell? ⟨w6.heap.size, 9, none⟩ = some (.slice bx6 mx6 dx6) := fun W F h => ⟨(h.box (w6.heap.size, 30, [.int .i64 (G 0), .int .i64 (G 1), .int .i64 (G 2), .int .i64 (G 3), .int .i64 (G 4), .int .i64 (G 5), .int .i64 sx6, .slice ax6 nx6 cx6, .int .i64 1, .slice bx6 mx6 dx6]) mq1).cell 0, (h.box (w6.heap.size, 30, [.int .i64 (G 0), .int .i64 (G 1), .int .i64 (G 2), .int .i64 (G 3), .int .i64 (G 4), .int .i64 (G 5), .int .i64 sx6, .slice ax6 nx6 cx6, .int .i64 1, .slice bx6 mx6 dx6]) mq1).cell 1, (h.box (w6.heap.size, 30, [.int .i64 (G 0), .int .i64 (G 1), .int .i64 (G 2), .int .i64 (G 3), .int .i64 (G 4), .int .i64 (G 5), .int .i64 sx6, .slice ax6 nx6 cx6, .int .i64 1, .slice bx6 mx6 dx6]) mq1).cell 2, (h.box (w6.heap.size, 30, [.int .i64 (G 0), .int .i64 (G 1), .int .i64 (G 2), .int .i64 (G 3), .int .i64 (G 4), .int .i64 (G 5), .int .i64 sx6, .slice ax6 nx6 cx6, .int .i64 1, .slice bx6 mx6 dx6]) mq1).cell 3, (h.box (w6.heap.size, 30, [.int .i64 (G 0), .int .i64 (G 1), .int .i64 (G 2), .int .i64 (G 3), .int .i64 (G 4), .int .i64 (G 5), .int .i64 sx6, .slice ax6 nx6 cx6, .int .i64 1, .slice bx6 mx6 dx6]) mq1).cell 4, (h.box (w6.heap.size, 30, [.int .i64 (G 0), .int .i64 (G 1), .int .i64 (G 2), .int .i64 (G 3), .int .i64 (G 4), .int .i64 (G 5), .int .i64 sx6, .slice ax6 nx6 cx6, .int .i64 1, .slice bx6 mx6 dx6]) mq1).cell 5, (h.box (w6.heap.size, 30, [.int .i64 (G 0), .int .i64 (G 1), .int .i64 (G 2), .int .i64 (G 3), .int .i64 (G 4), .int .i64 (G 5), .int .i64 sx6, .slice ax6 nx6 cx6, .int .i64 1, .slice bx6 mx6 dx6]) mq1).cell 6, (h.box (w6.heap.size, 30, [.int .i64 (G 0), .int .i64 (G 1), .int .i64 (G 2), .int .i64 (G 3), .int .i64 (G 4), .int .i64 (G 5), .int .i64 sx6, .slice ax6 nx6 cx6, .int .i64 1, .slice bx6 mx6 dx6]) mq1).cell 7, (h.box (w6.heap.size, 30, [.int .i64 (G 0), .int .i64 (G 1), .int .i64 (G 2), .int .i64 (G 3), .int .i64 (G 4), .int .i64 (G 5), .int .i64 sx6, .slice ax6 nx6 cx6, .int .i64 1, .slice bx6 mx6 dx6]) mq1).cell 8, (h.box (w6.heap.size, 30, [.int .i64 (G 0), .int .i64 (G 1), .int .i64 (G 2), .int .i64 (G 3), .int .i64 (G 4), .int .i64 (G 5), .int .i64 sx6, .slice ax6 nx6 cx6, .int .i64 1, .slice bx6 mx6 dx6]) mq1).cell 9⟩
    have KK := Lib.hid K0
    clear K0
    have K0 : ∀ W F x, Sf w (x :: [(PB, 9, [.string ⟨#[107]⟩, .string ⟨#[77]⟩, .string ⟨#[71]⟩, .string ⟨#[109]⟩]), (w6.heap.size, 30, [.int .i64 (G 0), .int .i64 (G 1), .int .i64 (G 2), .int .i64 (G 3), .int .i64 (G 4), .int .i64 (G 5), .int .i64 sx6, .slice ax6 nx6 cx6, .int .i64 1, .slice bx6 mx6 dx6]), (w4.heap.size, 30, [.int .i64 (g 0), .int .i64 (g 1), .int .i64 (g 2), .int .i64 (g 3), .int .i64 (g 4), .int .i64 (g 5), .int .i64 sx4, .slice ax4 nx4 cx4, .int .i64 1, .slice bx4 mx4 dx4]), (w.heap.size, 23, [.int .i64 (f 0), .int .i64 (f 1), .int .i64 (f 2), .int .i64 (f 3), .int .i64 (f 4), .int .i64 (f 5)])]) F W → W.cell? ⟨w6.heap.size, 0, none⟩ = some (.int .i64 (G 0)) ∧ W.cell? ⟨w6.heap.size, 1, none⟩ = some (.int .i64 (G 1)) ∧ W.cell? ⟨w6.heap.size, 2, none⟩ = some (.int .i64 (G 2)) ∧ W.cell? ⟨w6.heap.size, 3, none⟩ = some (.int .i64 (G 3)) ∧ W.cell? ⟨w6.heap.size, 4, none⟩ = some (.int .i64 (G 4)) ∧ W.cell? ⟨w6.heap.size, 5, none⟩ = some (.int .i64 (G 5)) ∧ W.cell? ⟨w6.heap.size, 6, none⟩ = some (.int .i64 sx6) ∧ W.cell? ⟨w6.heap.size, 7, none⟩ = some (.slice ax6 nx6 cx6) ∧ W.cell? ⟨w6.heap.size, 8, none⟩ = some (.int .i64 1) ∧ W.cell? ⟨w6.heap.size, 9, none⟩ = some (.slice bx6 mx6 dx6) := fun W F x h => ⟨(h.box (w6.heap.size, 30, [.int .i64 (G 0), .int .i64 (G 1), .int .i64 (G 2), .int .i64 (G 3), .int .i64 (G 4), .int .i64 (G 5), .int .i64 sx6, .slice ax6 nx6 cx6, .int .i64 1, .slice bx6 mx6 dx6]) mq2).cell 0, (h.box (w6.heap.size, 30, [.int .i64 (G 0), .int .i64 (G 1), .int .i64 (G 2), .int .i64 (G 3), .int .i64 (G 4), .int .i64 (G 5), .int .i64 sx6, .slice ax6 nx6 cx6, .int .i64 1, .slice bx6 mx6 dx6]) mq2).cell 1, (h.box (w6.heap.size, 30, [.int .i64 (G 0), .int .i64 (G 1), .int .i64 (G 2), .int .i64 (G 3), .int .i64 (G 4), .int .i64 (G 5), .int .i64 sx6, .slice ax6 nx6 cx6, .int .i64 1, .slice bx6 mx6 dx6]) mq2).cell 2, (h.box (w6.heap.size, 30, [.int .i64 (G 0), .int .i64 (G 1), .int .i64 (G 2), .int .i64 (G 3), .int .i64 (G 4), .int .i64 (G 5), .int .i64 sx6, .slice ax6 nx6 cx6, .int .i64 1, .slice bx6 mx6 dx6]) mq2).cell 3, (h.box (w6.heap.size, 30, [.int .i64 (G 0), .int .i64 (G 1), .int .i64 (G 2), .int .i64 (G 3), .int .i64 (G 4), .int .i64 (G 5), .int .i64 sx6, .slice ax6 nx6 cx6, .int .i64 1, .slice bx6 mx6 dx6]) mq2).cell 4, (h.box (w6.heap.size, 30, [.int .i64 (G 0), .int .i64 (G 1), .int .i64 (G 2), .int .i64 (G 3), .int .i64 (G 4), .int .i64 (G 5), .int .i64 sx6, .slice ax6 nx6 cx6, .int .i64 1, .slice bx6 mx6 dx6]) mq2).cell 5, (h.box (w6.heap.size, 30, [.int .i64 (G 0), .int .i64 (G 1), .int .i64 (G 2), .int .i64 (G 3), .int .i64 (G 4), .int .i64 (G 5), .int .i64 sx6, .slice ax6 nx6 cx6, .int .i64 1, .slice bx6 mx6 dx6]) mq2).cell 6, (h.box (w6.heap.size, 30, [.int .i64 (G 0), .int .i64 (G 1), .int .i64 (G 2), .int .i64 (G 3), .int .i64 (G 4), .int .i64 (G 5), .int .i64 sx6, .slice ax6 nx6 cx6, .int .i64 1, .slice bx6 mx6 dx6]) mq2).cell 7, (h.box (w6.heap.size, 30, [.int .i64 (G 0), .int .i64 (G 1), .int .i64 (G 2), .int .i64 (G 3), .int .i64 (G 4), .int .i64 (G 5), .int .i64 sx6, .slice ax6 nx6 cx6, .int .i64 1, .slice bx6 mx6 dx6]) mq2).cell 8, (h.box (w6.heap.size, 30, [.int .i64 (G 0), .int .i64 (G 1), .int .i64 (G 2), .int .i64 (G 3), .int .i64 (G 4), .int .i64 (G 5), .int .i64 sx6, .slice ax6 nx6 cx6, .int .i64 1, .slice bx6 mx6 dx6]) mq2).cell 9⟩
    have KU := Lib.hid K0
    clear K0
    have N0 := Lib.hid P15.out.drew
    clear P15
    have e0 := KK.out _ _ N0.out
    go_region_held3 (fun W => W.cell? ⟨w6.heap.size, 0, none⟩ = some (.int .i64 (G 0)) ∧ W.cell? ⟨w6.heap.size, 1, none⟩ = some (.int .i64 (G 1)) ∧ W.cell? ⟨w6.heap.size, 2, none⟩ = some (.int .i64 (G 2)) ∧ W.cell? ⟨w6.heap.size, 3, none⟩ = some (.int .i64 (G 3)) ∧ W.cell? ⟨w6.heap.size, 4, none⟩ = some (.int .i64 (G 4)) ∧ W.cell? ⟨w6.heap.size, 5, none⟩ = some (.int .i64 (G 5)) ∧ W.cell? ⟨w6.heap.size, 6, none⟩ = some (.int .i64 sx6) ∧ W.cell? ⟨w6.heap.size, 7, none⟩ = some (.slice ax6 nx6 cx6) ∧ W.cell? ⟨w6.heap.size, 8, none⟩ = some (.int .i64 1) ∧ W.cell? ⟨w6.heap.size, 9, none⟩ = some (.slice bx6 mx6 dx6))
      (first | (with_reducible exact e0) | (with_reducible exact e1) | (with_reducible exact e2) | (with_reducible exact e3) | (with_reducible exact e4) | go_keep)
      (first
          | (have hG := N2; clear hG; go_at_call 30; (with_reducible refine (HJ3.out _).mono ?_); rintro e y3 ⟨sj3, aj3, nj3, cj3, bj3, mj3, dj3, rfl, hr, hb, hf, hg⟩; have EJ3 := Lib.hid hr.1.1; have N3 := Lib.hid (N2.out.ret2 hb hr.1.2 hf hr.2.2 hg); clear hr hb hf hg; have e3 := KK.out _ _ N3.out; have NP := Lib.hid (N3.out.put [.int .i64 sj1, .slice aj1 nj1 cj1, .int .i64 1, .slice bj1 mj1 dj1, .int .i64 sj2, .slice aj2 nj2 cj2, .int .i64 1, .slice bj2 mj2 dj2, .int .i64 sj3, .slice aj3 nj3 cj3, .int .i64 1, .slice bj3 mj3 dj3, .int .i64 sx6, .slice ax6 nx6 cx6, .int .i64 1, .slice bx6 mx6 dx6] 28); have e4 := KU.out _ _ _ NP.out)
          | (have hG := N1; clear hG; go_at_call 30; (with_reducible refine (HJ2.out _).mono ?_); rintro e y2 ⟨sj2, aj2, nj2, cj2, bj2, mj2, dj2, rfl, hr, hb, hf, hg⟩; have EJ2 := Lib.hid hr.1.1; have N2 := Lib.hid (N1.out.ret2 hb hr.1.2 hf hr.2.2 hg); clear hr hb hf hg; have e2 := KK.out _ _ N2.out)
          | (have hG := N0; clear hG; go_at_call 30; (with_reducible refine (HJ1.out _).mono ?_); rintro e y1 ⟨sj1, aj1, nj1, cj1, bj1, mj1, dj1, rfl, hr, hb, hf, hg⟩; have EJ1 := Lib.hid hr.1.1; have N1 := Lib.hid (N0.out.ret2 hb hr.1.2 hf hr.2.2 hg); clear hr hb hf hg; have e1 := KK.out _ _ N1.out))
    all_goals (go_wp2_with fail; go_meet; exact ⟨_, _, _, _, _, _, _, _, _, _, _, _, _, _, _, _, _, _, _, _, _, _, rfl, EJ1.out, EJ2.out, EJ3.out, NP.out⟩)
  case rest =>
  obtain ⟨gt, sj1, aj1, nj1, cj1, bj1, mj1, dj1, sj2, aj2, nj2, cj2, bj2, mj2, dj2, sj3, aj3, nj3, cj3, bj3, mj3, dj3, rfl, ej1, ej2, ej3, hsj⟩ := hcut.out
  obtain ⟨w61, rfl⟩ : ∃ W, W = wc := ⟨_, rfl⟩
  have R61 := Lib.hid hsj
  have EJ1 := Lib.hid ej1
  have EJ2 := Lib.hid ej2
  have EJ3 := Lib.hid ej3
  clear hcut ej1 ej2 ej3 hsj P15
  have hf3 : ∀ W : World, (Instr.indexAt 58 (.slice (some ⟨gt, 0, none⟩) 4 4) (.int .i64 3)).run Tryz.prog W = .ok (.pointer (some ⟨gt, 12, none⟩)) W := fun W => ft_at gt 3 (by decide) W
  go_wp2_with fail
  refine (HJ4.out _).mono ?_
  rintro e w62 ⟨sx62, ax62, nx62, cx62, bx62, mx62, dx62, rfl, hr, hb, hf, hg⟩
  have E62 := Lib.hid hr.1.1
  have R62 := Lib.hid (R61.out.ret2 hb hr.1.2 hf hr.2.2 hg)
  have FF62 := Lib.hid (hf.mono R61.out.below.size)
  have FG62 := Lib.hid (hg.mono R61.out.below.size)
  clear hr hb hf hg
  have Q16 : Hid (Sf w ([] ++ (gt, 28, [.int .i64 sj1, .slice aj1 nj1 cj1, .int .i64 1, .slice bj1 mj1 dj1, .int .i64 sj2, .slice aj2 nj2 cj2, .int .i64 1, .slice bj2 mj2 dj2, .int .i64 sj3, .slice aj3 nj3 cj3, .int .i64 1, .slice bj3 mj3 dj3, .int .i64 sx62, .slice ax62 nx62 cx62, .int .i64 1, .slice bx62 mx62 dx62]) :: [(PB, 9, [.string ⟨#[107]⟩, .string ⟨#[77]⟩, .string ⟨#[71]⟩, .string ⟨#[109]⟩]), (w6.heap.size, 30, [.int .i64 (G 0), .int .i64 (G 1), .int .i64 (G 2), .int .i64 (G 3), .int .i64 (G 4), .int .i64 (G 5), .int .i64 sx6, .slice ax6 nx6 cx6, .int .i64 1, .slice bx6 mx6 dx6]), (w4.heap.size, 30, [.int .i64 (g 0), .int .i64 (g 1), .int .i64 (g 2), .int .i64 (g 3), .int .i64 (g 4), .int .i64 (g 5), .int .i64 sx4, .slice ax4 nx4 cx4, .int .i64 1, .slice bx4 mx4 dx4]), (w.heap.size, 23, [.int .i64 (f 0), .int .i64 (f 1), .int .i64 (f 2), .int .i64 (f 3), .int .i64 (f 4), .int .i64 (f 5)])]) _ _) := Lib.hid (Sf.part (pre := []) R62.out 12 13 14 15 rfl rfl rfl (.int .i64 sx62) (.slice ax62 nx62 cx62) (.int .i64 1) (.slice bx62 mx62 dx62))
  obtain ⟨V16, hV16⟩ : ∃ V, (((((w62).setCell ⟨gt, 12, none⟩ (.int .i64 sx62)).setCell ⟨gt, 13, none⟩ (.slice ax62 nx62 cx62)).setCell ⟨gt, 14, none⟩ (.int .i64 1)).setCell ⟨gt, 15, none⟩ (.slice bx62 mx62 dx62)) = V := ⟨_, rfl⟩
  rw [hV16] at Q16
  have HV16 := Lib.hid hV16
  clear hV16
  go_upto_region 15 with ((refine wpList_store4 rfl _ _ _ rfl _ 12 13 14 15 rfl rfl rfl (.int .i64 sx62) (.slice ax62 nx62 cx62) (.int .i64 1) (.slice bx62 mx62 dx62) rfl rfl (R62.out.box _ mq0) (Nat.le_of_ble_eq_true rfl) infoFrac (by simp [Value.oneCell']) ?_; rw [HV16.out]))
  clear hf3
  obtain ⟨sk, ak, nk, ck, bk, mk, dk, hkc, hks, hkv, hku⟩ : ∃ (sk : Int) (ak : Option Addr) (nk ck : Nat) (bk : Option Addr) (mk dk : Nat), (∀ W, Fb (gt, 28, [.int .i64 sj1, .slice aj1 nj1 cj1, .int .i64 1, .slice bj1 mj1 dj1, .int .i64 sj2, .slice aj2 nj2 cj2, .int .i64 1, .slice bj2 mj2 dj2, .int .i64 sj3, .slice aj3 nj3 cj3, .int .i64 1, .slice bj3 mj3 dj3, .int .i64 sx62, .slice ax62 nx62 cx62, .int .i64 1, .slice bx62 mx62 dx62]) W → W.cell? ⟨gt, k * 4, none⟩ = some (.int .i64 sk) ∧ W.cell? ⟨gt, k * 4 + 1, none⟩ = some (.slice ak nk ck) ∧ W.cell? ⟨gt, k * 4 + 2, none⟩ = some (.int .i64 1) ∧ W.cell? ⟨gt, k * 4 + 3, none⟩ = some (.slice bk mk dk)) ∧ sk = (PT k).num.sign ∧ (.slice ak nk ck, digs (PT k).num.natAbs) ∈ ([(.slice ax62 nx62 cx62, digs (PT 3).num.natAbs), (.slice bx62 mx62 dx62, digs (((PT 3).den : Int)).natAbs), (.slice aj3 nj3 cj3, digs (PT 2).num.natAbs), (.slice bj3 mj3 dj3, digs (((PT 2).den : Int)).natAbs), (.slice aj2 nj2 cj2, digs (PT 1).num.natAbs), (.slice bj2 mj2 dj2, digs (((PT 1).den : Int)).natAbs), (.slice aj1 nj1 cj1, digs (PT 0).num.natAbs), (.slice bj1 mj1 dj1, digs (((PT 0).den : Int)).natAbs), (.slice ax6 nx6 cx6, digs (q).num.natAbs), (.slice bx6 mx6 dx6, digs (((q).den : Int)).natAbs), (.slice ax4 nx4 cx4, digs ((1 : Rat)).num.natAbs), (.slice bx4 mx4 dx4, digs ((((1 : Rat)).den : Int)).natAbs)] : List (Value × List Int)) ∧ (.slice bk mk dk, digs (((PT k).den : Int)).natAbs) ∈ ([(.slice ax62 nx62 cx62, digs (PT 3).num.natAbs), (.slice bx62 mx62 dx62, digs (((PT 3).den : Int)).natAbs), (.slice aj3 nj3 cj3, digs (PT 2).num.natAbs), (.slice bj3 mj3 dj3, digs (((PT 2).den : Int)).natAbs), (.slice aj2 nj2 cj2, digs (PT 1).num.natAbs), (.slice bj2 mj2 dj2, digs (((PT 1).den : Int)).natAbs), (.slice aj1 nj1 cj1, digs (PT 0).num.natAbs), (.slice bj1 mj1 dj1, digs (((PT 0).den : Int)).natAbs), (.slice ax6 nx6 cx6, digs (q).num.natAbs), (.slice bx6 mx6 dx6, digs (((q).den : Int)).natAbs), (.slice ax4 nx4 cx4, digs ((1 : Rat)).num.natAbs), (.slice bx4 mx4 dx4, digs ((((1 : Rat)).den : Int)).natAbs)] : List (Value × List Int)) := by
    obtain rfl | rfl | rfl | rfl := lt4 HK4.out
    · exact ⟨_, _, _, _, _, _, _, fun W h => ⟨h.cell 0, h.cell 1, h.cell 2, h.cell 3⟩, EJ1.out, mq6, mq7⟩
    · exact ⟨_, _, _, _, _, _, _, fun W h => ⟨h.cell 4, h.cell 5, h.cell 6, h.cell 7⟩, EJ2.out, mq4, mq5⟩
    · exact ⟨_, _, _, _, _, _, _, fun W h => ⟨h.cell 8, h.cell 9, h.cell 10, h.cell 11⟩, EJ3.out, mq2, mq3⟩
    · exact ⟨_, _, _, _, _, _, _, fun W h => ⟨h.cell 12, h.cell 13, h.cell 14, h.cell 15⟩, E62.out, mq0, mq1⟩
  have HKC := Lib.hid hkc
  have EK := Lib.hid hks
  have HKV := Lib.hid hkv
  have HKU := Lib.hid hku
  clear hkc hks hkv hku
  have HPC : Hid (∀ W, Fb (PB, 9, [.string ⟨#[107]⟩, .string ⟨#[77]⟩, .string ⟨#[71]⟩, .string ⟨#[109]⟩]) W → W.cell? ⟨PB, k, none⟩ = some (.string PK)) := Lib.hid (fun W h => by
    rw [← HPK.out]
    obtain rfl | rfl | rfl | rfl := lt4 HK4.out
    · exact h.cell 0
    · exact h.cell 1
    · exact h.cell 2
    · exact h.cell 3)
  go_wp2_with fail
  refine (HRS.out _ (HE.out.below Q16.out.below)).mono ?_
  rintro e w63 ⟨sx63, ax63, nx63, cx63, bx63, mx63, dx63, rfl, hr, hb, hf, hg⟩
  have E63 := Lib.hid hr.1.1
  have R63 := Lib.hid (Q16.out.ret2 hb hr.1.2 hf hr.2.2 hg)
  have FF63 := Lib.hid (hf.mono Q16.out.below.size)
  have FG63 := Lib.hid (hg.mono Q16.out.below.size)
  clear hr hb hf hg
  have P17 := Lib.hid (R63.out.put [.int .i64 0, .int .i64 0, .int .i64 0, .int .i64 0, .int .i64 0, .int .i64 0, .int .i64 0, .slice none 0 0, .int .i64 0, .slice none 0 0] 30)
  have Q17 := Lib.hid (Sf.row (pre := []) P17.out [.int .i64 (G 0), .int .i64 (G 1), .int .i64 (G 2), .int .i64 (G 3), .int .i64 (G 4), .int .i64 (G 5), .int .i64 sx63, .slice ax63 nx63 cx63, .int .i64 1, .slice bx63 mx63 dx63])
  have hst := st_at PB k HK4.out
  have had := HAD.out
  have hpc := HPC.out _ (Q17.out.box (PB, 9, [.string ⟨#[107]⟩, .string ⟨#[77]⟩, .string ⟨#[71]⟩, .string ⟨#[109]⟩]) mq2)
  go_wp2_with (first | refine wpList_store_row rfl _ _ _ rfl _ #[.int .i64 (G 0), .int .i64 (G 1), .int .i64 (G 2), .int .i64 (G 3), .int .i64 (G 4), .int .i64 (G 5), .int .i64 sx63, .slice ax63 nx63 cx63, .int .i64 1, .slice bx63 mx63 dx63] rfl rfl _ _ (P17.out.box _ List.mem_cons_self) (by kernel_rfl) rfl (by simp [Value.oneCell']) ?_)
  clear hst had hpc
  refine (HRC.out _ (HE.out.below Q17.out.below)).mono ?_
  rintro e w64 ⟨sx64, ax64, nx64, cx64, bx64, mx64, dx64, rfl, hr, hb, hf, hg⟩
  have E64 := Lib.hid hr.1.1
  have R64 := Lib.hid (Q17.out.ret2 hb hr.1.2 hf hr.2.2 hg)
  have FF64 := Lib.hid (hf.mono Q17.out.below.size)
  have FG64 := Lib.hid (hg.mono Q17.out.below.size)
  clear hr hb hf hg
  have P18 := Lib.hid (R64.out.put [.int .i64 0, .int .i64 0, .int .i64 0, .int .i64 0, .int .i64 0, .int .i64 0, .int .i64 0, .slice none 0 0, .int .i64 0, .slice none 0 0] 30)
  have Q18 := Lib.hid (Sf.row (pre := []) P18.out [.int .i64 (G 0), .int .i64 (G 1), .int .i64 (G 2), .int .i64 (G 3), .int .i64 (G 4), .int .i64 (G 5), .int .i64 sx64, .slice ax64 nx64 cx64, .int .i64 1, .slice bx64 mx64 dx64])
  obtain ⟨q19, q20, q21, q22, q23, q24, q25, q26, q27, q28⟩ := Fb.cells10 (Q18.out.box (w6.heap.size, 30, [.int .i64 (G 0), .int .i64 (G 1), .int .i64 (G 2), .int .i64 (G 3), .int .i64 (G 4), .int .i64 (G 5), .int .i64 sx6, .slice ax6 nx6 cx6, .int .i64 1, .slice bx6 mx6 dx6]) mq4)
  obtain ⟨q29, q30, q31, q32, q33, q34, q35, q36, q37, q38⟩ := Fb.cells10 (Q18.out.box (w63.heap.size, 30, [.int .i64 (G 0), .int .i64 (G 1), .int .i64 (G 2), .int .i64 (G 3), .int .i64 (G 4), .int .i64 (G 5), .int .i64 sx63, .slice ax63 nx63 cx63, .int .i64 1, .slice bx63 mx63 dx63]) mq1)
  go_wp2_with (first | refine wpList_store_row rfl _ _ _ rfl _ #[.int .i64 (G 0), .int .i64 (G 1), .int .i64 (G 2), .int .i64 (G 3), .int .i64 (G 4), .int .i64 (G 5), .int .i64 sx64, .slice ax64 nx64 cx64, .int .i64 1, .slice bx64 mx64 dx64] rfl rfl _ _ (P18.out.box _ List.mem_cons_self) (by kernel_rfl) rfl (by simp [Value.oneCell']) ?_)
  clear q19 q20 q21 q22 q23 q24 q25 q26 q27 q28 q29 q30 q31 q32 q33 q34 q35 q36 q37 q38
  refine (u9same_k (Q18.out.fr (v := .slice ax6 nx6 cx6) (u := .slice bx6 mx6 dx6) (r := q) mq12 mq13 E6.out) (Q18.out.fr (v := .slice ax63 nx63 cx63) (u := .slice bx63 mx63 dx63) (r := q) mq2 mq3 E63.out) (eqB_refl G) (k := true) (by simp)).mono ?_
  rintro e w65 ⟨rfl, hb⟩
  have R65 := Lib.hid (Q18.out.later hb)
  clear hb
  go_upto_region 19 with fail
  go_cut [117] from 96 to 117 (fun u wx => u = .bool false ∧ wx = w65)
  case first =>
    rcases HCC.out with h | h | h | h | h | h
    · obtain ⟨v0, v1, v2, v3⟩ := str_lit s [103] true false (by rw [h]; decide) rfl
      go_wp2_with fail
      go_meet
      exact ⟨rfl, rfl⟩
    · obtain ⟨v0, v1, v2, v3⟩ := str_lit s [103] false true (by rw [h]; decide) rfl
      obtain ⟨v4, v5, v6, v7⟩ := str_lit s [109] true false (by rw [h]; decide) rfl
      go_wp2_with fail
      go_meet
      exact ⟨rfl, rfl⟩
    · obtain ⟨v0, v1, v2, v3⟩ := str_lit s [103] false true (by rw [h]; decide) rfl
      obtain ⟨v4, v5, v6, v7⟩ := str_lit s [109] false true (by rw [h]; decide) rfl
      obtain ⟨v8, v9, v10, v11⟩ := str_lit s [108] true false (by rw [h]; decide) rfl
      go_wp2_with fail
      go_meet
      exact ⟨rfl, rfl⟩
    · obtain ⟨v0, v1, v2, v3⟩ := str_lit s [103] false true (by rw [h]; decide) rfl
      obtain ⟨v4, v5, v6, v7⟩ := str_lit s [109] false true (by rw [h]; decide) rfl
      obtain ⟨v8, v9, v10, v11⟩ := str_lit s [108] false true (by rw [h]; decide) rfl
      obtain ⟨v12, v13, v14, v15⟩ := str_lit s [115] true false (by rw [h]; decide) rfl
      go_wp2_with fail
      go_meet
      exact ⟨rfl, rfl⟩
    · obtain ⟨v0, v1, v2, v3⟩ := str_lit s [103] false true (by rw [h]; decide) rfl
      obtain ⟨v4, v5, v6, v7⟩ := str_lit s [109] false true (by rw [h]; decide) rfl
      obtain ⟨v8, v9, v10, v11⟩ := str_lit s [108] false true (by rw [h]; decide) rfl
      obtain ⟨v12, v13, v14, v15⟩ := str_lit s [115] false true (by rw [h]; decide) rfl
      obtain ⟨v16, v17, v18, v19⟩ := str_lit s [74] true false (by rw [h]; decide) rfl
      go_wp2_with fail
      go_meet
      exact ⟨rfl, rfl⟩
    · obtain ⟨v0, v1, v2, v3⟩ := str_lit s [103] false true (by rw [h]; decide) rfl
      obtain ⟨v4, v5, v6, v7⟩ := str_lit s [109] false true (by rw [h]; decide) rfl
      obtain ⟨v8, v9, v10, v11⟩ := str_lit s [108] false true (by rw [h]; decide) rfl
      obtain ⟨v12, v13, v14, v15⟩ := str_lit s [115] false true (by rw [h]; decide) rfl
      obtain ⟨v16, v17, v18, v19⟩ := str_lit s [74] false true (by rw [h]; decide) rfl
      obtain ⟨v20, v21, v22, v23⟩ := str_lit s [87, 104] true false (by rw [h]; decide) rfl
      go_wp2_with fail
      go_meet
      exact ⟨rfl, rfl⟩
  case rest =>
  obtain ⟨rfl, rfl⟩ := hcut
  go_upto_region 21 with fail
  have hft := ft_at gt k HK4.out
  go_cut [19, 20] from 124 to 132 (fun u v wx => v = .int .i64 0 ∧ Hid (∃ gq sq aq nq cq bq mq dq, u = .pointer (some ⟨gq, 0, none⟩) ∧ sq = (Q).num.sign ∧ Sf w ((gq, 28, [.int .i64 sq, .slice aq nq cq, .int .i64 1, .slice bq mq dq]) :: [(w64.heap.size, 30, [.int .i64 (G 0), .int .i64 (G 1), .int .i64 (G 2), .int .i64 (G 3), .int .i64 (G 4), .int .i64 (G 5), .int .i64 sx64, .slice ax64 nx64 cx64, .int .i64 1, .slice bx64 mx64 dx64]), (w63.heap.size, 30, [.int .i64 (G 0), .int .i64 (G 1), .int .i64 (G 2), .int .i64 (G 3), .int .i64 (G 4), .int .i64 (G 5), .int .i64 sx63, .slice ax63 nx63 cx63, .int .i64 1, .slice bx63 mx63 dx63]), (gt, 28, [.int .i64 sj1, .slice aj1 nj1 cj1, .int .i64 1, .slice bj1 mj1 dj1, .int .i64 sj2, .slice aj2 nj2 cj2, .int .i64 1, .slice bj2 mj2 dj2, .int .i64 sj3, .slice aj3 nj3 cj3, .int .i64 1, .slice bj3 mj3 dj3, .int .i64 sx62, .slice ax62 nx62 cx62, .int .i64 1, .slice bx62 mx62 dx62]), (PB, 9, [.string ⟨#[107]⟩, .string ⟨#[77]⟩, .string ⟨#[71]⟩, .string ⟨#[109]⟩]), (w6.heap.size, 30, [.int .i64 (G 0), .int .i64 (G 1), .int .i64 (G 2), .int .i64 (G 3), .int .i64 (G 4), .int .i64 (G 5), .int .i64 sx6, .slice ax6 nx6 cx6, .int .i64 1, .slice bx6 mx6 dx6]), (w4.heap.size, 30, [.int .i64 (g 0), .int .i64 (g 1), .int .i64 (g 2), .int .i64 (g 3), .int .i64 (g 4), .int .i64 (g 5), .int .i64 sx4, .slice ax4 nx4 cx4, .int .i64 1, .slice bx4 mx4 dx4]), (w.heap.size, 23, [.int .i64 (f 0), .int .i64 (f 1), .int .i64 (f 2), .int .i64 (f 3), .int .i64 (f 4), .int .i64 (f 5)])]) ((.slice aq nq cq, digs (Q).num.natAbs) :: (.slice bq mq dq, digs (((Q).den : Int)).natAbs) :: [(.slice ax64 nx64 cx64, digs (Q).num.natAbs), (.slice bx64 mx64 dx64, digs (((Q).den : Int)).natAbs), (.slice ax63 nx63 cx63, digs (q).num.natAbs), (.slice bx63 mx63 dx63, digs (((q).den : Int)).natAbs), (.slice ax62 nx62 cx62, digs (PT 3).num.natAbs), (.slice bx62 mx62 dx62, digs (((PT 3).den : Int)).natAbs), (.slice aj3 nj3 cj3, digs (PT 2).num.natAbs), (.slice bj3 mj3 dj3, digs (((PT 2).den : Int)).natAbs), (.slice aj2 nj2 cj2, digs (PT 1).num.natAbs), (.slice bj2 mj2 dj2, digs (((PT 1).den : Int)).natAbs), (.slice aj1 nj1 cj1, digs (PT 0).num.natAbs), (.slice bj1 mj1 dj1, digs (((PT 0).den : Int)).natAbs), (.slice ax6 nx6 cx6, digs (q).num.natAbs), (.slice bx6 mx6 dx6, digs (((q).den : Int)).natAbs), (.slice ax4 nx4 cx4, digs ((1 : Rat)).num.natAbs), (.slice bx4 mx4 dx4, digs ((((1 : Rat)).den : Int)).natAbs)]) wx))
  case first =>
    have K0 : ∀ W F, Sf w [(w64.heap.size, 30, [.int .i64 (G 0), .int .i64 (G 1), .int .i64 (G 2), .int .i64 (G 3), .int .i64 (G 4), .int .i64 (G 5), .int .i64 sx64, .slice ax64 nx64 cx64, .int .i64 1, .slice bx64 mx64 dx64]), (w63.heap.size, 30, [.int .i64 (G 0), .int .i64 (G 1), .int .i64 (G 2), .int .i64 (G 3), .int .i64 (G 4), .int .i64 (G 5), .int .i64 sx63, .slice ax63 nx63 cx63, .int .i64 1, .slice bx63 mx63 dx63]), (gt, 28, [.int .i64 sj1, .slice aj1 nj1 cj1, .int .i64 1, .slice bj1 mj1 dj1, .int .i64 sj2, .slice aj2 nj2 cj2, .int .i64 1, .slice bj2 mj2 dj2, .int .i64 sj3, .slice aj3 nj3 cj3, .int .i64 1, .slice bj3 mj3 dj3, .int .i64 sx62, .slice ax62 nx62 cx62, .int .i64 1, .slice bx62 mx62 dx62]), (PB, 9, [.string ⟨#[107]⟩, .string ⟨#[77]⟩, .string ⟨#[71]⟩, .string ⟨#[109]⟩]), (w6.heap.size, 30, [.int .i64 (G 0), .int .i64 (G 1), .int .i64 (G 2), .int .i64 (G 3), .int .i64 (G 4), .int .i64 (G 5), .int .i64 sx6, .slice ax6 nx6 cx6, .int .i64 1, .slice bx6 mx6 dx6]), (w4.heap.size, 30, [.int .i64 (g 0), .int .i64 (g 1), .int .i64 (g 2), .int .i64 (g 3), .int .i64 (g 4), .int .i64 (g 5), .int .i64 sx4, .slice ax4 nx4 cx4, .int .i64 1, .slice bx4 mx4 dx4]), (w.heap.size, 23, [.int .i64 (f 0), .int .i64 (f 1), .int .i64 (f 2), .int .i64 (f 3), .int .i64 (f 4), .int .i64 (f 5)])] F W → W.cell? ⟨w63.heap.size, 0, none⟩ = some (.int .i64 (G 0)) ∧ W.cell? ⟨w63.heap.size, 1, none⟩ = some (.int .i64 (G 1)) ∧ W.cell? ⟨w63.heap.size, 2, none⟩ = some (.int .i64 (G 2)) ∧ W.cell? ⟨w63.heap.size, 3, none⟩ = some (.int .i64 (G 3)) ∧ W.cell? ⟨w63.heap.size, 4, none⟩ = some (.int .i64 (G 4)) ∧ W.cell? ⟨w63.heap.size, 5, none⟩ = some (.int .i64 (G 5)) ∧ W.cell? ⟨w63.heap.size, 6, none⟩ = some (.int .i64 sx63) ∧ W.cell? ⟨w63.heap.size, 7, none⟩ = some (.slice ax63 nx63 cx63) ∧ W.cell? ⟨w63.heap.size, 8, none⟩ = some (.int .i64 1) ∧ W.cell? ⟨w63.heap.size, 9, none⟩ = some (.slice bx63 mx63 dx63) ∧ W.cell? ⟨gt, k * 4, none⟩ = some (.int .i64 sk) ∧ W.cell? ⟨gt, k * 4 + 1, none⟩ = some (.slice ak nk ck) ∧ W.cell? ⟨gt, k * 4 + 2, none⟩ = some (.int .i64 1) ∧ W.cell? ⟨gt, k * 4 + 3, none⟩ = some (.slice bk mk dk) := fun W F h => ⟨(h.box (w63.heap.size, 30, [.int .i64 (G 0), .int .i64 (G 1), .int .i64 (G 2), .int .i64 (G 3), .int .i64 (G 4), .int .i64 (G 5), .int .i64 sx63, .slice ax63 nx63 cx63, .int .i64 1, .slice bx63 mx63 dx63]) mq1).cell 0, (h.box (w63.heap.size, 30, [.int .i64 (G 0), .int .i64 (G 1), .int .i64 (G 2), .int .i64 (G 3), .int .i64 (G 4), .int .i64 (G 5), .int .i64 sx63, .slice ax63 nx63 cx63, .int .i64 1, .slice bx63 mx63 dx63]) mq1).cell 1, (h.box (w63.heap.size, 30, [.int .i64 (G 0), .int .i64 (G 1), .int .i64 (G 2), .int .i64 (G 3), .int .i64 (G 4), .int .i64 (G 5), .int .i64 sx63, .slice ax63 nx63 cx63, .int .i64 1, .slice bx63 mx63 dx63]) mq1).cell 2, (h.box (w63.heap.size, 30, [.int .i64 (G 0), .int .i64 (G 1), .int .i64 (G 2), .int .i64 (G 3), .int .i64 (G 4), .int .i64 (G 5), .int .i64 sx63, .slice ax63 nx63 cx63, .int .i64 1, .slice bx63 mx63 dx63]) mq1).cell 3, (h.box (w63.heap.size, 30, [.int .i64 (G 0), .int .i64 (G 1), .int .i64 (G 2), .int .i64 (G 3), .int .i64 (G 4), .int .i64 (G 5), .int .i64 sx63, .slice ax63 nx63 cx63, .int .i64 1, .slice bx63 mx63 dx63]) mq1).cell 4, (h.box (w63.heap.size, 30, [.int .i64 (G 0), .int .i64 (G 1), .int .i64 (G 2), .int .i64 (G 3), .int .i64 (G 4), .int .i64 (G 5), .int .i64 sx63, .slice ax63 nx63 cx63, .int .i64 1, .slice bx63 mx63 dx63]) mq1).cell 5, (h.box (w63.heap.size, 30, [.int .i64 (G 0), .int .i64 (G 1), .int .i64 (G 2), .int .i64 (G 3), .int .i64 (G 4), .int .i64 (G 5), .int .i64 sx63, .slice ax63 nx63 cx63, .int .i64 1, .slice bx63 mx63 dx63]) mq1).cell 6, (h.box (w63.heap.size, 30, [.int .i64 (G 0), .int .i64 (G 1), .int .i64 (G 2), .int .i64 (G 3), .int .i64 (G 4), .int .i64 (G 5), .int .i64 sx63, .slice ax63 nx63 cx63, .int .i64 1, .slice bx63 mx63 dx63]) mq1).cell 7, (h.box (w63.heap.size, 30, [.int .i64 (G 0), .int .i64 (G 1), .int .i64 (G 2), .int .i64 (G 3), .int .i64 (G 4), .int .i64 (G 5), .int .i64 sx63, .slice ax63 nx63 cx63, .int .i64 1, .slice bx63 mx63 dx63]) mq1).cell 8, (h.box (w63.heap.size, 30, [.int .i64 (G 0), .int .i64 (G 1), .int .i64 (G 2), .int .i64 (G 3), .int .i64 (G 4), .int .i64 (G 5), .int .i64 sx63, .slice ax63 nx63 cx63, .int .i64 1, .slice bx63 mx63 dx63]) mq1).cell 9, (HKC.out _ (h.box (gt, 28, [.int .i64 sj1, .slice aj1 nj1 cj1, .int .i64 1, .slice bj1 mj1 dj1, .int .i64 sj2, .slice aj2 nj2 cj2, .int .i64 1, .slice bj2 mj2 dj2, .int .i64 sj3, .slice aj3 nj3 cj3, .int .i64 1, .slice bj3 mj3 dj3, .int .i64 sx62, .slice ax62 nx62 cx62, .int .i64 1, .slice bx62 mx62 dx62]) mq2)).1, (HKC.out _ (h.box (gt, 28, [.int .i64 sj1, .slice aj1 nj1 cj1, .int .i64 1, .slice bj1 mj1 dj1, .int .i64 sj2, .slice aj2 nj2 cj2, .int .i64 1, .slice bj2 mj2 dj2, .int .i64 sj3, .slice aj3 nj3 cj3, .int .i64 1, .slice bj3 mj3 dj3, .int .i64 sx62, .slice ax62 nx62 cx62, .int .i64 1, .slice bx62 mx62 dx62]) mq2)).2.1, (HKC.out _ (h.box (gt, 28, [.int .i64 sj1, .slice aj1 nj1 cj1, .int .i64 1, .slice bj1 mj1 dj1, .int .i64 sj2, .slice aj2 nj2 cj2, .int .i64 1, .slice bj2 mj2 dj2, .int .i64 sj3, .slice aj3 nj3 cj3, .int .i64 1, .slice bj3 mj3 dj3, .int .i64 sx62, .slice ax62 nx62 cx62, .int .i64 1, .slice bx62 mx62 dx62]) mq2)).2.2.1, (HKC.out _ (h.box (gt, 28, [.int .i64 sj1, .slice aj1 nj1 cj1, .int .i64 1, .slice bj1 mj1 dj1, .int .i64 sj2, .slice aj2 nj2 cj2, .int .i64 1, .slice bj2 mj2 dj2, .int .i64 sj3, .slice aj3 nj3 cj3, .int .i64 1, .slice bj3 mj3 dj3, .int .i64 sx62, .slice ax62 nx62 cx62, .int .i64 1, .slice bx62 mx62 dx62]) mq2)).2.2.2⟩
    have KK := Lib.hid K0
    clear K0
    have K0 : ∀ W F x, Sf w (x :: [(w64.heap.size, 30, [.int .i64 (G 0), .int .i64 (G 1), .int .i64 (G 2), .int .i64 (G 3), .int .i64 (G 4), .int .i64 (G 5), .int .i64 sx64, .slice ax64 nx64 cx64, .int .i64 1, .slice bx64 mx64 dx64]), (w63.heap.size, 30, [.int .i64 (G 0), .int .i64 (G 1), .int .i64 (G 2), .int .i64 (G 3), .int .i64 (G 4), .int .i64 (G 5), .int .i64 sx63, .slice ax63 nx63 cx63, .int .i64 1, .slice bx63 mx63 dx63]), (gt, 28, [.int .i64 sj1, .slice aj1 nj1 cj1, .int .i64 1, .slice bj1 mj1 dj1, .int .i64 sj2, .slice aj2 nj2 cj2, .int .i64 1, .slice bj2 mj2 dj2, .int .i64 sj3, .slice aj3 nj3 cj3, .int .i64 1, .slice bj3 mj3 dj3, .int .i64 sx62, .slice ax62 nx62 cx62, .int .i64 1, .slice bx62 mx62 dx62]), (PB, 9, [.string ⟨#[107]⟩, .string ⟨#[77]⟩, .string ⟨#[71]⟩, .string ⟨#[109]⟩]), (w6.heap.size, 30, [.int .i64 (G 0), .int .i64 (G 1), .int .i64 (G 2), .int .i64 (G 3), .int .i64 (G 4), .int .i64 (G 5), .int .i64 sx6, .slice ax6 nx6 cx6, .int .i64 1, .slice bx6 mx6 dx6]), (w4.heap.size, 30, [.int .i64 (g 0), .int .i64 (g 1), .int .i64 (g 2), .int .i64 (g 3), .int .i64 (g 4), .int .i64 (g 5), .int .i64 sx4, .slice ax4 nx4 cx4, .int .i64 1, .slice bx4 mx4 dx4]), (w.heap.size, 23, [.int .i64 (f 0), .int .i64 (f 1), .int .i64 (f 2), .int .i64 (f 3), .int .i64 (f 4), .int .i64 (f 5)])]) F W → W.cell? ⟨w63.heap.size, 0, none⟩ = some (.int .i64 (G 0)) ∧ W.cell? ⟨w63.heap.size, 1, none⟩ = some (.int .i64 (G 1)) ∧ W.cell? ⟨w63.heap.size, 2, none⟩ = some (.int .i64 (G 2)) ∧ W.cell? ⟨w63.heap.size, 3, none⟩ = some (.int .i64 (G 3)) ∧ W.cell? ⟨w63.heap.size, 4, none⟩ = some (.int .i64 (G 4)) ∧ W.cell? ⟨w63.heap.size, 5, none⟩ = some (.int .i64 (G 5)) ∧ W.cell? ⟨w63.heap.size, 6, none⟩ = some (.int .i64 sx63) ∧ W.cell? ⟨w63.heap.size, 7, none⟩ = some (.slice ax63 nx63 cx63) ∧ W.cell? ⟨w63.heap.size, 8, none⟩ = some (.int .i64 1) ∧ W.cell? ⟨w63.heap.size, 9, none⟩ = some (.slice bx63 mx63 dx63) ∧ W.cell? ⟨gt, k * 4, none⟩ = some (.int .i64 sk) ∧ W.cell? ⟨gt, k * 4 + 1, none⟩ = some (.slice ak nk ck) ∧ W.cell? ⟨gt, k * 4 + 2, none⟩ = some (.int .i64 1) ∧ W.cell? ⟨gt, k * 4 + 3, none⟩ = some (.slice bk mk dk) := fun W F x h => ⟨(h.box (w63.heap.size, 30, [.int .i64 (G 0), .int .i64 (G 1), .int .i64 (G 2), .int .i64 (G 3), .int .i64 (G 4), .int .i64 (G 5), .int .i64 sx63, .slice ax63 nx63 cx63, .int .i64 1, .slice bx63 mx63 dx63]) mq2).cell 0, (h.box (w63.heap.size, 30, [.int .i64 (G 0), .int .i64 (G 1), .int .i64 (G 2), .int .i64 (G 3), .int .i64 (G 4), .int .i64 (G 5), .int .i64 sx63, .slice ax63 nx63 cx63, .int .i64 1, .slice bx63 mx63 dx63]) mq2).cell 1, (h.box (w63.heap.size, 30, [.int .i64 (G 0), .int .i64 (G 1), .int .i64 (G 2), .int .i64 (G 3), .int .i64 (G 4), .int .i64 (G 5), .int .i64 sx63, .slice ax63 nx63 cx63, .int .i64 1, .slice bx63 mx63 dx63]) mq2).cell 2, (h.box (w63.heap.size, 30, [.int .i64 (G 0), .int .i64 (G 1), .int .i64 (G 2), .int .i64 (G 3), .int .i64 (G 4), .int .i64 (G 5), .int .i64 sx63, .slice ax63 nx63 cx63, .int .i64 1, .slice bx63 mx63 dx63]) mq2).cell 3, (h.box (w63.heap.size, 30, [.int .i64 (G 0), .int .i64 (G 1), .int .i64 (G 2), .int .i64 (G 3), .int .i64 (G 4), .int .i64 (G 5), .int .i64 sx63, .slice ax63 nx63 cx63, .int .i64 1, .slice bx63 mx63 dx63]) mq2).cell 4, (h.box (w63.heap.size, 30, [.int .i64 (G 0), .int .i64 (G 1), .int .i64 (G 2), .int .i64 (G 3), .int .i64 (G 4), .int .i64 (G 5), .int .i64 sx63, .slice ax63 nx63 cx63, .int .i64 1, .slice bx63 mx63 dx63]) mq2).cell 5, (h.box (w63.heap.size, 30, [.int .i64 (G 0), .int .i64 (G 1), .int .i64 (G 2), .int .i64 (G 3), .int .i64 (G 4), .int .i64 (G 5), .int .i64 sx63, .slice ax63 nx63 cx63, .int .i64 1, .slice bx63 mx63 dx63]) mq2).cell 6, (h.box (w63.heap.size, 30, [.int .i64 (G 0), .int .i64 (G 1), .int .i64 (G 2), .int .i64 (G 3), .int .i64 (G 4), .int .i64 (G 5), .int .i64 sx63, .slice ax63 nx63 cx63, .int .i64 1, .slice bx63 mx63 dx63]) mq2).cell 7, (h.box (w63.heap.size, 30, [.int .i64 (G 0), .int .i64 (G 1), .int .i64 (G 2), .int .i64 (G 3), .int .i64 (G 4), .int .i64 (G 5), .int .i64 sx63, .slice ax63 nx63 cx63, .int .i64 1, .slice bx63 mx63 dx63]) mq2).cell 8, (h.box (w63.heap.size, 30, [.int .i64 (G 0), .int .i64 (G 1), .int .i64 (G 2), .int .i64 (G 3), .int .i64 (G 4), .int .i64 (G 5), .int .i64 sx63, .slice ax63 nx63 cx63, .int .i64 1, .slice bx63 mx63 dx63]) mq2).cell 9, (HKC.out _ (h.box (gt, 28, [.int .i64 sj1, .slice aj1 nj1 cj1, .int .i64 1, .slice bj1 mj1 dj1, .int .i64 sj2, .slice aj2 nj2 cj2, .int .i64 1, .slice bj2 mj2 dj2, .int .i64 sj3, .slice aj3 nj3 cj3, .int .i64 1, .slice bj3 mj3 dj3, .int .i64 sx62, .slice ax62 nx62 cx62, .int .i64 1, .slice bx62 mx62 dx62]) mq3)).1, (HKC.out _ (h.box (gt, 28, [.int .i64 sj1, .slice aj1 nj1 cj1, .int .i64 1, .slice bj1 mj1 dj1, .int .i64 sj2, .slice aj2 nj2 cj2, .int .i64 1, .slice bj2 mj2 dj2, .int .i64 sj3, .slice aj3 nj3 cj3, .int .i64 1, .slice bj3 mj3 dj3, .int .i64 sx62, .slice ax62 nx62 cx62, .int .i64 1, .slice bx62 mx62 dx62]) mq3)).2.1, (HKC.out _ (h.box (gt, 28, [.int .i64 sj1, .slice aj1 nj1 cj1, .int .i64 1, .slice bj1 mj1 dj1, .int .i64 sj2, .slice aj2 nj2 cj2, .int .i64 1, .slice bj2 mj2 dj2, .int .i64 sj3, .slice aj3 nj3 cj3, .int .i64 1, .slice bj3 mj3 dj3, .int .i64 sx62, .slice ax62 nx62 cx62, .int .i64 1, .slice bx62 mx62 dx62]) mq3)).2.2.1, (HKC.out _ (h.box (gt, 28, [.int .i64 sj1, .slice aj1 nj1 cj1, .int .i64 1, .slice bj1 mj1 dj1, .int .i64 sj2, .slice aj2 nj2 cj2, .int .i64 1, .slice bj2 mj2 dj2, .int .i64 sj3, .slice aj3 nj3 cj3, .int .i64 1, .slice bj3 mj3 dj3, .int .i64 sx62, .slice ax62 nx62 cx62, .int .i64 1, .slice bx62 mx62 dx62]) mq3)).2.2.2⟩
    have KU := Lib.hid K0
    clear K0
    have N0 := Lib.hid R65.out.drew
    have A0 := Lib.hid (R65.out.put [.int .i64 0, .slice none 0 0, .int .i64 0, .slice none 0 0] 28).drew
    clear R65
    have e0 := KK.out _ _ N0.out
    have f0 := KU.out _ _ _ A0.out
    have CN := Lib.hid (fmul_r (N0.out.fr (v := .slice ax63 nx63 cx63) (u := .slice bx63 mx63 dx63) (r := q) mq2 mq3 E63.out) (N0.out.fr (v := .slice ak nk ck) (u := .slice bk mk dk) (r := PT k) (List.mem_cons_of_mem _ (List.mem_cons_of_mem _ (List.mem_cons_of_mem _ (List.mem_cons_of_mem _ HKV.out)))) (List.mem_cons_of_mem _ (List.mem_cons_of_mem _ (List.mem_cons_of_mem _ (List.mem_cons_of_mem _ HKU.out)))) EK.out) LQ.out LP.out HQ.out)
    have CA := Lib.hid (fmul_r (A0.out.fr (v := .slice ax63 nx63 cx63) (u := .slice bx63 mx63 dx63) (r := q) mq2 mq3 E63.out) (A0.out.fr (v := .slice ak nk ck) (u := .slice bk mk dk) (r := PT k) (List.mem_cons_of_mem _ (List.mem_cons_of_mem _ (List.mem_cons_of_mem _ (List.mem_cons_of_mem _ HKV.out)))) (List.mem_cons_of_mem _ (List.mem_cons_of_mem _ (List.mem_cons_of_mem _ (List.mem_cons_of_mem _ HKU.out)))) EK.out) LQ.out LP.out HQ.out)
    go_region_held3 (fun W => W.cell? ⟨w63.heap.size, 0, none⟩ = some (.int .i64 (G 0)) ∧ W.cell? ⟨w63.heap.size, 1, none⟩ = some (.int .i64 (G 1)) ∧ W.cell? ⟨w63.heap.size, 2, none⟩ = some (.int .i64 (G 2)) ∧ W.cell? ⟨w63.heap.size, 3, none⟩ = some (.int .i64 (G 3)) ∧ W.cell? ⟨w63.heap.size, 4, none⟩ = some (.int .i64 (G 4)) ∧ W.cell? ⟨w63.heap.size, 5, none⟩ = some (.int .i64 (G 5)) ∧ W.cell? ⟨w63.heap.size, 6, none⟩ = some (.int .i64 sx63) ∧ W.cell? ⟨w63.heap.size, 7, none⟩ = some (.slice ax63 nx63 cx63) ∧ W.cell? ⟨w63.heap.size, 8, none⟩ = some (.int .i64 1) ∧ W.cell? ⟨w63.heap.size, 9, none⟩ = some (.slice bx63 mx63 dx63) ∧ W.cell? ⟨gt, k * 4, none⟩ = some (.int .i64 sk) ∧ W.cell? ⟨gt, k * 4 + 1, none⟩ = some (.slice ak nk ck) ∧ W.cell? ⟨gt, k * 4 + 2, none⟩ = some (.int .i64 1) ∧ W.cell? ⟨gt, k * 4 + 3, none⟩ = some (.slice bk mk dk))
      (first | (with_reducible exact e0) | (with_reducible exact f0) | (with_reducible exact k1) | (with_reducible exact l1) | (with_reducible exact q1_) | (with_reducible exact k2) | (with_reducible exact q2_) | go_keep)
      (first
          | (have hG := A0; clear hG; go_at_call 27; (with_reducible refine (CA.out).mono ?_); rintro e y2 ⟨sx, ax, nx, cx, bx, mx, dx, rfl, hr, hb, hf, hg⟩; have EA := Lib.hid hr.1.1; have A1 := Lib.hid (A0.out.ret2 hb hr.1.2 hf hr.2.2 hg); clear hr hb hf hg; have k2 := KU.out _ _ _ A1.out; obtain ⟨z0, z1, z2, z3⟩ := (A1.out.box _ List.mem_cons_self : Fb (wc.heap.size, 28, [.int .i64 0, .slice none 0 0, .int .i64 0, .slice none 0 0]) _).cells4; obtain ⟨u0, u1, u2, u3⟩ := (A1.out.box _ List.mem_cons_self : Fb (wc.heap.size, 28, [.int .i64 0, .slice none 0 0, .int .i64 0, .slice none 0 0]) _).free4; have R2_ := Lib.hid (A1.out.set4 (pre := []) (.int .i64 sx) (.slice ax nx cx) (.int .i64 1) (.slice bx mx dx)); have q2_ := KU.out _ _ _ R2_.out)
          | (have hG := N0; clear hG; go_at_call 27; (with_reducible refine (CN.out).mono ?_); rintro e y1 ⟨sx, ax, nx, cx, bx, mx, dx, rfl, hr, hb, hf, hg⟩; have EN := Lib.hid hr.1.1; have N1 := Lib.hid (N0.out.ret2 hb hr.1.2 hf hr.2.2 hg); clear hr hb hf hg; have k1 := KK.out _ _ N1.out; have Z1 := Lib.hid (N1.out.put [.int .i64 0, .slice none 0 0, .int .i64 0, .slice none 0 0] 28); have l1 := KU.out _ _ _ Z1.out; have R1_ := Lib.hid (N1.out.put [.int .i64 sx, .slice ax nx cx, .int .i64 1, .slice bx mx dx] 28); have q1_ := KU.out _ _ _ R1_.out))
    all_goals (go_wp2_with fail; go_meet; refine ⟨rfl, ?_⟩; first | exact ⟨_, _, _, _, _, _, _, _, rfl, EN.out, R1_.out⟩ | exact ⟨_, _, _, _, _, _, _, _, rfl, EA.out, R2_.out⟩)
  case rest =>
  obtain ⟨rfl, hq⟩ := hcut
  obtain ⟨gx66, sx66, ax66, nx66, cx66, bx66, mx66, dx66, rfl, esx66, hsx66⟩ := hq.out
  obtain ⟨w66, rfl⟩ : ∃ W, W = wc := ⟨_, rfl⟩
  have R66 := Lib.hid hsx66
  have E66 := Lib.hid esx66
  clear hq esx66 hsx66 R65
  obtain ⟨q39, q40, q41, q42, q43, q44, q45, q46, q47, q48⟩ := Fb.cells10 (R66.out.box (w64.heap.size, 30, [.int .i64 (G 0), .int .i64 (G 1), .int .i64 (G 2), .int .i64 (G 3), .int .i64 (G 4), .int .i64 (G 5), .int .i64 sx64, .slice ax64 nx64 cx64, .int .i64 1, .slice bx64 mx64 dx64]) mq1)
  obtain ⟨q49, q50, q51, q52, q53, q54, q55, q56, q57, q58⟩ := Fb.cells10 (R66.out.box (w63.heap.size, 30, [.int .i64 (G 0), .int .i64 (G 1), .int .i64 (G 2), .int .i64 (G 3), .int .i64 (G 4), .int .i64 (G 5), .int .i64 sx63, .slice ax63 nx63 cx63, .int .i64 1, .slice bx63 mx63 dx63]) mq2)
  obtain ⟨q59, q60, q61, q62⟩ := Fb.cells4 (R66.out.box (gx66, 28, [.int .i64 sx66, .slice ax66 nx66 cx66, .int .i64 1, .slice bx66 mx66 dx66]) mq0)
  go_wp2_with fail
  clear q39 q40 q41 q42 q43 q44 q45 q46 q47 q48 q49 q50 q51 q52 q53 q54 q55 q56 q57 q58 q59 q60 q61 q62
  refine (rfsame_t (R66.out.fr (v := .slice ax64 nx64 cx64) (u := .slice bx64 mx64 dx64) (r := Q) mq2 mq3 E64.out) (R66.out.fr (v := .slice ax66 nx66 cx66) (u := .slice bx66 mx66 dx66) (r := Q) mq0 mq1 E66.out) rfl).mono ?_
  rintro e w67 ⟨rfl, hb⟩
  have R67 := Lib.hid (R66.out.later hb)
  clear hb
  go_wp2_with fail
  go_ret
  exact ⟨rfl, R67.out.below⟩
theorem dims_any (f : Nat → Int) (s : ByteArray) (n : Int) (w : World) (he : EnvU w) (hs : s.size ≤ 9223372036854775807) (hn : 0 ≤ n ∧ n ≤ 255) : Calls Tryz.prog 6 #[.agg #[.int .i64 (f 0), .int .i64 (f 1), .int .i64 (f 2), .int .i64 (f 3), .int .i64 (f 4), .int .i64 (f 5)], .string s, .int .u8 n] w fun e w' => e = .returned (.bool true) ∧ RowKit.Below w.heap.size w w' := by
  by_cases h : 38 < s.size
  · exact dims_long f s n h hs w he
  · have h : s.size ≤ 38 := by omega
    rcases hd : ok f with _ | _
    · rcases hy : symL s.data.toList with _ | ⟨b, nn, q⟩
      · exact dims_n_none f s n h hd hn hy w he
      · rcases hc : canP s.data.toList with _ | _
        · exact dims_n_far f s n h hd hn hy hc w he
        · exact dims_n_near f s n h hd hn hy hc w he
    · rcases hy : symL s.data.toList with _ | ⟨b, nn, q⟩
      · exact dims_d_none f s n h hd hn hy w he
      · rcases hc : canP s.data.toList with _ | _
        · exact dims_d_far f s n h hd hn hy hc w he
        · exact dims_d_near f s n h hd hn hy hc w he
end Go.Proofs.YtmhdhabgdlefjaaGreatDoor.Un
