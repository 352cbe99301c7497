/- What a file of a journal may hold, whatever crashes: the mathematics of JournalLasts and JournalStays. No walk. -/
import Derived.Test.YtejddacjncpneaaGreatDoorJo2
set_option maxRecDepth 100000
namespace Go.Proofs.YtejddacjncpneaaGreatDoor.Jo
open Di

theorem getD_pre {p a : List UInt8} (h : p <+: a) {i : Nat} (hi : i < p.length) : a.getD i 0 = p.getD i 0 := by
  obtain ⟨t, rfl⟩ := h
  simp [List.getD_eq_getElem?_getD, List.getElem?_append_left hi]
theorem getD_take {x : List UInt8} {n i : Nat} (hi : i < n) : (x.take n).getD i 0 = x.getD i 0 := by
  simp [List.getD_eq_getElem?_getD, hi]
theorem torn_of {x a b n : List UInt8} (ha : Torn a n) (hb : Torn b n) (hl : x.length ≤ a.length) (hx : ∀ j, x.getD j 0 = a.getD j 0 ∨ x.getD j 0 = b.getD j 0) : Torn x n := by
  refine ⟨Nat.le_trans hl ha.1, fun i hi => ?_⟩
  rcases hx i with h | h
  · rw [h]; exact ha.2 i (by omega)
  · rw [h]
    by_cases hb' : i < b.length
    · exact hb.2 i hb'
    · right
      simp only [List.getD_eq_getElem?_getD]
      rw [List.getElem?_eq_none (by omega)]
      rfl
theorem pre_take {p x : List UInt8} {n : Nat} (h : p <+: x) (hn : p.length ≤ n) : p <+: x.take n := by
  obtain ⟨t, rfl⟩ := h
  rw [List.take_append, List.take_of_length_le hn]
  exact ⟨_, rfl⟩
theorem pre_of {p x a b : List UInt8} (ha : p <+: a) (hb : p <+: b) (hl : b.length ≤ x.length) (hx : ∀ j, x.getD j 0 = a.getD j 0 ∨ x.getD j 0 = b.getD j 0) : p <+: x := by
  have hp : p.length ≤ x.length := Nat.le_trans hb.length_le hl
  have e : p = x.take p.length := by
    refine ext_getD (by rw [List.length_take]; omega) fun i hi => ?_
    rw [getD_take hi]
    rcases hx i with h | h
    · rw [h, getD_pre ha hi]
    · rw [h, getD_pre hb hi]
  rw [e]
  exact List.take_prefix _ _
theorem Torn.take {x n : List UInt8} (h : Torn x n) (k : Nat) : Torn (x.take k) n := by
  have h1 := h.1
  refine ⟨by rw [List.length_take]; omega, fun i hi => ?_⟩
  rw [List.length_take] at hi
  rw [getD_take (by omega)]
  exact h.2 i (by omega)

/-- What a file may hold: of all there was, torn; and surely what is sure. -/
structure JI (st : St) (f : Int) (sure all : List ByteArray) : Prop where
  wf : WF st
  tn : Torn (st.now f) (forms all)
  td : Torn (st.dur f) (forms all)
  pn : forms sure <+: st.now f
  pd : forms sure <+: st.dur f

section
variable {st st' : St} {f : Int} {s a R : List ByteArray} {bad : Bool}
theorem JI.of (h : JI st f s a) (hw : WF st') (h1 : st'.now f = st.now f) (h2 : st'.dur f = st.dur f) : JI st' f s a :=
  ⟨hw, by rw [h1]; exact h.tn, by rw [h2]; exact h.td, by rw [h1]; exact h.pn, by rw [h2]; exact h.pd⟩
theorem JI.solid (hw : WF st) (h1 : st.now f = forms R) (h2 : st.dur f = forms R) : JI st f R R :=
  ⟨hw, by rw [h1]; exact Torn.refl _, by rw [h2]; exact Torn.refl _, by rw [h1]; exact List.prefix_refl _, by rw [h2]; exact List.prefix_refl _⟩
theorem JI.more (h : JI st f s a) (m : List ByteArray) : JI st f s (a ++ m) :=
  ⟨h.wf, by rw [forms_app]; exact h.tn.more _, by rw [forms_app]; exact h.td.more _, h.pn, h.pd⟩
theorem JI.crash (h : JI st f s a) (ks : List Int) : JI (Di.crash st ks) f s a := by
  by_cases hd : st.down = true
  · have e : Di.crash st ks = st := by unfold Di.crash; rw [if_pos hd]
    rw [e]; exact h
  · have hd' : st.down = false := by simpa using hd
    obtain ⟨h1, h2, h3⟩ := some_now h.wf hd' ks f
    have e : (Di.crash st ks).dur = (Di.crash st ks).now := by unfold Di.crash; rw [if_neg hd]
    have hx : ∀ j, ((Di.crash st ks).now f).getD j 0 = (st.now f).getD j 0 ∨ ((Di.crash st ks).now f).getD j 0 = (st.dur f).getD j 0 :=
      fun j => (h3 (j / 64)).imp (fun h => h j rfl) (fun h => h j rfl)
    have t := torn_of h.tn h.td h2 hx
    have p := pre_of h.pn h.pd h1 hx
    exact ⟨crash_wf h.wf ks, t, by rw [e]; exact t, p, by rw [e]; exact p⟩
theorem JI.start (h : JI st f s a) : JI (Di.start st) f s a := h.of (start_wf h.wf) rfl rfl
theorem JI.lose (h : JI st f s a) {n : Int} (hn : n ≤ 9223372036854775807) : JI (Di.lose st n) f s a := h.of (lose_wf h.wf hn) rfl rfl
theorem JI.arm (h : JI st f s a) {n : Int} (hn : n ≤ 9223372036854775807) {ks : List Int} (hk : ks.length ≤ 1000000000 ∧ ∀ x ∈ ks, -9223372036854775808 ≤ x ∧ x ≤ 9223372036854775807) : JI (Di.arm st n ks) f s a := h.of (arm_wf h.wf hn hk) rfl rfl
theorem JI.goes (h : JI st f s a) : JI (Di.goes st) f s a := by
  have hw := goes_wf h.wf
  unfold Di.goes at hw ⊢
  split
  · exact h
  · rename_i h1
    rw [if_neg h1] at hw
    split
    · exact h.crash _
    · rename_i h2
      rw [if_neg h2] at hw
      exact h.of hw rfl rfl
theorem JI.settle (h : JI st f s a) (hf : isF f = true) : JI (Di.settle st f) f s a :=
  ⟨settle_wf h.wf hf, h.tn, by simp only [Di.settle, upd_same]; exact h.tn, h.pn, by simp only [Di.settle, upd_same]; exact h.pn⟩
theorem JI.sync (h : JI st f s a) : JI (Di.sync st f) f s a := by
  have g := h.goes
  have hw := sync_wf h.wf f
  unfold Di.sync at hw ⊢
  split
  · exact g
  · rename_i h1
    rw [if_neg h1] at hw
    split
    · rename_i h2
      rw [if_pos h2] at hw
      exact g.of hw rfl rfl
    · refine g.settle ?_
      cases e : isF f
      · exact absurd (.inr e) h1
      · rfl
theorem JI.trunc (h : JI st f s a) {n : Nat} (hn : (forms s).length ≤ n) : JI (Di.trunc st f n) f s a := by
  have g := h.goes
  have hw := trunc_wf h.wf f n
  unfold Di.trunc at hw ⊢
  split
  · exact g
  · rename_i h1
    rw [if_neg h1] at hw
    have e1 : (Di.cut (Di.goes st) f (n : Int).toNat).now f = ((Di.goes st).now f).take n := by simp [Di.cut, Di.settle, upd_same]
    have e2 : (Di.cut (Di.goes st) f (n : Int).toNat).dur f = ((Di.goes st).now f).take n := by simp [Di.cut, Di.settle, upd_same]
    exact ⟨hw, by rw [e1]; exact g.tn.take _, by rw [e2]; exact g.tn.take _, by rw [e1]; exact pre_take g.pn hn, by rw [e2]; exact pre_take g.pn hn⟩
theorem pre_forms (h : s <+: R) : (forms s).length ≤ (forms R).length := by
  obtain ⟨t, rfl⟩ := h
  rw [forms_app, List.length_append]; omega
theorem JI.sure_op (h : JI st f s a) (hs : Small s) : s <+: opR st f := recs_pre hs h.pn
theorem JI.op_all (h : JI st f s a) (ha : ∀ x ∈ a, x.size ≤ 200) : opR st f <+: a := torn_recs a _ (fun x hx => by have := ha x hx; omega) h.tn
theorem JI.op (h : JI st f s a) (hs : Small s) : JI (opS st f) f s a := by
  have hp := pre_forms (h.sure_op hs)
  unfold opS
  split
  · exact h
  · split
    · split
      · exact h.sync.trunc hp
      · exact h.sync
    · exact h.sync

theorem op_ok (h0 : opC st f = 0) : isF f = true ∧ (opS st f).now f = forms (opR st f) ∧ (opS st f).dur f = forms (opR st f) ∧ (opS st f).down = false := by
  unfold opC at h0
  unfold opS
  have ht := recs_take (st.now f)
  have hl := recs_len (st.now f)
  split at h0
  · cases h0
  · rename_i hf
    have hf' : isF f = true := by simpa using hf
    rw [if_neg hf]
    split at h0
    · rename_i hy
      rw [if_pos hy]
      obtain ⟨k1, k2, _, k4, _⟩ := syncR_ok hy
      split at h0
      · rename_i hlt
        rw [if_pos hlt]
        have hg : (goes (sync st f)).down = false := by
          unfold truncR at h0
          split at h0
          · cases h0
          · rename_i hd; simpa using hd
        obtain ⟨e1, e2, _⟩ := goes_up hg
        have hb : ¬ ((goes (sync st f)).down = true ∨ isF f = false ∨ ((forms (opR st f)).length : Int) < 0 ∨ ((forms (opR st f)).length : Int) > ((goes (sync st f)).now f).length) := by
          rw [e1, k2, hg, hf']
          simp
          unfold opR
          omega
        have et : trunc (sync st f) f (forms (opR st f)).length = cut (goes (sync st f)) f (forms (opR st f)).length := by
          unfold trunc; rw [if_neg hb]; simp
        have c1 : (cut (goes (sync st f)) f (forms (opR st f)).length).now f = forms (opR st f) := by
          simp only [Di.cut, Di.settle, upd_same]
          rw [e1, k2]
          exact ht
        have c2 : (cut (goes (sync st f)) f (forms (opR st f)).length).dur f = forms (opR st f) := by
          simp only [Di.cut, Di.settle, upd_same]
          rw [e1, k2]
          exact ht
        rw [et]
        exact ⟨hf', c1, c2, hg⟩
      · rename_i hlt
        rw [if_neg hlt]
        have e : st.now f = forms (opR st f) := by
          have hh : ¬ (forms (recs (st.now f))).length < (st.now f).length := hlt
          rw [List.take_of_length_le (by omega)] at ht
          exact ht
        exact ⟨hf', k2.trans e, k4.trans e, k1⟩
    · rename_i hy
      exact absurd h0 hy
theorem op_solid (h0 : opC st f = 0) (hw : WF (opS st f)) : JI (opS st f) f (opR st f) (opR st f) :=
  JI.solid hw (Jo.op_ok h0).2.1 (Jo.op_ok h0).2.2.1
theorem opS_wf (h : WF st) : WF (opS st f) := by
  unfold opS
  split
  · exact h
  · split
    · split
      · exact trunc_wf (sync_wf h f) _ _
      · exact sync_wf h f
    · exact sync_wf h f
theorem op_err (hf : isF f = true) (h0 : opC st f ≠ 0) : opC st f = 8 ∨ opC st f = 9 := by
  unfold opC at h0 ⊢
  rw [if_neg (by simp [hf])] at h0 ⊢
  split at h0
  · rename_i hy
    rw [if_pos hy]
    obtain ⟨k1, k2, _⟩ := syncR_ok hy
    split at h0
    · rename_i hlt
      rw [if_pos hlt]
      unfold truncR at h0 ⊢
      split
      · exact .inl rfl
      · rename_i hd
        have hd' : (goes (sync st f)).down = false := by simpa using hd
        obtain ⟨e1, _⟩ := goes_up hd'
        have hlt' : (forms (opR st f)).length < (st.now f).length := hlt
        rw [if_neg hd, if_neg (by rw [e1, k2, hf]; simp; omega)] at h0
        exact absurd rfl h0
    · exact absurd rfl h0
  · rename_i hy
    rw [if_neg hy]
    unfold syncR at h0 ⊢
    split
    · exact .inl rfl
    · rw [if_neg (by simp [hf])]
      split
      · exact .inr rfl
      · rename_i hd hl
        rw [if_neg hd, if_neg (by simp [hf]), if_neg hl] at h0
        exact absurd rfl h0
/-- With nothing lost, nor a crash due, it can be opened. -/
theorem op_last (hf : isF f = true) (hd : st.down = false) (hl : st.lost = 0) (hc : st.calls = 0) : opC st f = 0 ∧ (opS st f).calls = 0 ∧ (opS st f).lost = 0 := by
  have g := goes_zero hc
  have hy : syncR st f = 0 := by
    unfold syncR
    rw [g, if_neg (by simp [hd]), if_neg (by simp [hf]), if_neg (by omega)]
  have hs : sync st f = Di.settle st f := by
    have := (syncR_ok hy).2.2.2.2.2.2
    rw [this, g]
  have hlen := recs_len (st.now f)
  have g2 : goes (sync st f) = sync st f := goes_zero (by rw [hs]; exact hc)
  have ht : (forms (opR st f)).length < (st.now f).length → truncR (sync st f) f (forms (opR st f)).length = 0 := fun hlt => by
    unfold truncR
    rw [g2, hs, if_neg (by simp [Di.settle, hd]), if_neg]
    simp only [Di.settle, hf]
    simp
    omega
  unfold opC opS
  have hff : ¬ isF f = false := by simp [hf]
  rw [if_neg hff, if_neg hff, if_pos hy, if_pos hy]
  by_cases hlt : (forms (opR st f)).length < (st.now f).length
  · rw [if_pos hlt, if_pos hlt]
    refine ⟨ht hlt, ?_⟩
    unfold trunc
    rw [g2]
    split
    · rw [hs]; exact ⟨hc, hl⟩
    · rw [hs]; exact ⟨hc, hl⟩
  · rw [if_neg hlt, if_neg hlt, hs]
    exact ⟨rfl, hc, hl⟩

/-! ### appending -/
theorem putL_end (b s : List UInt8) : putL b b.length s = b ++ s := by
  unfold putL
  rw [List.take_append_of_le_length (Nat.le_refl _), List.take_length, List.drop_of_length_le (by omega), List.append_nil]
theorem form_len200 {x : ByteArray} (h : x.size ≤ 200) : (form x).length ≤ 243 := by
  have := form_len x (by omega)
  omega
theorem forms_len200 : ∀ (l : List ByteArray), (∀ x ∈ l, x.size ≤ 200) → (forms l).length ≤ 243 * l.length
  | [], _ => by simp [forms_nil]
  | x :: l, h => by
    have h1 := form_len200 (h x (by simp))
    have h2 := forms_len200 l fun y hy => h y (by simp [hy])
    rw [forms_cons, List.length_append, List.length_cons]
    omega
theorem form_ne (x : ByteArray) : form x ≠ [] := fun e => by have := form_pos x; rw [e] at this; cases this

/-- What holds of a journal beside its file. -/
structure JR (st : St) (f : Int) (R : List ByteArray) (bad : Bool) (a : List ByteArray) : Prop where
  good : bad = false → a = R ∧ st.now f = forms R
  pre : R <+: a
theorem pre_refl' (h : a = R) : R <+: a := by rw [h]; exact List.prefix_refl _

theorem wr_ji {x : ByteArray} (h : JI st f s a) (hr : st.now f = forms a) (hw : WF (wr st f (forms a).length (form x))) : JI (wr st f (forms a).length (form x)) f s (a ++ [x]) := by
  have e1 : (wr st f (forms a).length (form x)).now f = forms (a ++ [x]) := by
    rw [wr_now _ _ _ _ (form_ne x), hr, putL_end, forms_snoc]
  have e2 : (wr st f (forms a).length (form x)).dur = st.dur := (wr_same _ _ _ _).2.2
  refine ⟨hw, by rw [e1]; exact Torn.refl _, by rw [e2, forms_snoc]; exact h.td.more _, ?_, by rw [e2]; exact h.pd⟩
  rw [e1, forms_snoc, ← hr]
  exact h.pn.trans (List.prefix_append _ _)
/-- A write of a record at the end. -/
theorem write_ji {x : ByteArray} (h : JI st f s a) (hr : st.now f = forms a) : JI (write st f (forms a).length (form x)) f s (a ++ [x]) := by
  unfold write
  refine JI.goes ?_
  split
  · rename_i hc
    obtain ⟨_, h2, h3, h4⟩ := chk_zero.1 hc
    have hw := wr_wf h.wf h2 (a := (forms a).length) (s := form x) (by omega)
    exact wr_ji h hr hw
  · exact h.more [x]
theorem writeR_end {x : ByteArray} (hf : isF f = true) (hb : (forms R).length + (form x).length ≤ 1048576) :
    writeR st f (forms R).length (form x) = 8 ∨ (writeR st f (forms R).length (form x) = 0 ∧ (st.now f = forms R → (write st f (forms R).length (form x)).now f = forms (R ++ [x]))) := by
  unfold writeR
  split
  · exact .inl rfl
  · rename_i hd
    by_cases hc : chk st f (forms R).length (form x).length = 0
    · right
      refine ⟨hc, fun hr => ?_⟩
      unfold write at hd ⊢
      rw [if_pos hc] at hd ⊢
      have hd' : (goes (wr st f ((forms R).length : Int).toNat (form x))).down = false := by simpa using hd
      rw [(goes_up hd').1]
      show (wr st f (forms R).length (form x)).now f = _
      rw [wr_now _ _ _ _ (form_ne x), hr, putL_end, forms_snoc]
    · exfalso
      have hdn : st.down = true := by
        cases e : st.down
        · exact absurd (chk_zero.2 ⟨e, hf, by omega, by omega⟩) hc
        · rfl
      exact hd (by rw [(write_dn hdn f _ _).1]; exact hdn)

/-- The list with what was appended to it, perhaps. -/
def allA (a : List ByteArray) (c : Int) (x : ByteArray) : List ByteArray := if c = 0 ∨ c = 8 ∨ c = 9 then a ++ [x] else a
theorem app_ji {x : ByteArray} (h : JI st f s a) (hr : JR st f R bad a) (hf : isF f = true) (hx : x.size ≤ 200) (ha : ∀ x ∈ a, x.size ≤ 200) (hl : a.length ≤ 100) :
    JI (appS st f R bad x) f s (allA a (appC st f R bad x) x) ∧ JR (appS st f R bad x) f (appR st f R bad x) (appB st f R bad x) (allA a (appC st f R bad x) x) := by
  cases bad
  · obtain ⟨rfl, hn⟩ := hr.good rfl
    have h1 := forms_len200 a ha
    have h2 := form_len200 hx
    have eC : appC st f a false x = writeR st f (forms a).length (form x) := by
      unfold appC; rw [if_neg (by simp), if_neg (by omega), if_neg (by omega)]
    have eS : appS st f a false x = write st f (forms a).length (form x) := by
      unfold appS; rw [if_neg (by simp), if_neg (by omega), if_neg (by omega)]
    have eB : appB st f a false x = !decide (writeR st f (forms a).length (form x) = 0) := by
      unfold appB; rw [if_neg (by simp), if_neg (by omega), if_neg (by omega)]
    have hj := write_ji (x := x) h hn
    rw [eS, eB]
    unfold appR
    rw [eC]
    rcases writeR_end (st := st) (R := a) (x := x) hf (by omega) with e | ⟨e, e'⟩
    · rw [e]
      exact ⟨hj, by simp, by simp [allA]⟩
    · rw [e]
      exact ⟨hj, fun _ => ⟨by simp [allA], e' hn⟩, by simp [allA]⟩
  · have eC : appC st f R true x = 7 := by simp [appC]
    have eS : appS st f R true x = st := by simp [appS]
    have eR : appR st f R true x = R := by simp [appR, eC]
    have eB : appB st f R true x = true := by simp [appB]
    rw [eC, eS, eR, eB]
    simp only [allA]
    exact ⟨h, by simp, hr.pre⟩
/-- A sync. -/
theorem sy_ji (h : JI st f s a) (hr : JR st f R bad a) :
    (syC st f bad = 0 → JI (syS st f bad) f R a ∧ JR (syS st f bad) f R (syB st f bad) a) ∧ (syC st f bad ≠ 0 → JI (syS st f bad) f s a ∧ JR (syS st f bad) f R (syB st f bad) a) := by
  cases bad
  · obtain ⟨rfl, hn⟩ := hr.good rfl
    refine ⟨fun h0 => ?_, fun h0 => ?_⟩
    · have h0' : syncR st f = 0 := by simpa [syC] using h0
      obtain ⟨_, k2, _, k4, _⟩ := syncR_ok h0'
      refine ⟨?_, ?_, List.prefix_refl _⟩
      · simp only [syS, Bool.false_eq_true, if_false]
        exact JI.solid (sync_wf h.wf f) (k2.trans hn) (k4.trans hn)
      · intro _
        refine ⟨rfl, ?_⟩
        simp only [syS, Bool.false_eq_true, if_false]
        exact k2.trans hn
    · have h0' : syncR st f ≠ 0 := by simpa [syC] using h0
      refine ⟨by simpa [syS] using h.sync, fun hb => ?_, List.prefix_refl _⟩
      simp [syB, h0'] at hb
  · refine ⟨fun h0 => by simp [syC] at h0, fun _ => ⟨by simpa [syS] using h, by simp [syB], hr.pre⟩⟩
end
/-! ### JournalStays: nothing is scheduled, the machine is up -/
structure Sx (st : St) (f : Int) (n : Nat) : Prop where
  wf : WF st
  up : st.down = false
  c0 : st.calls = 0
  len : (st.now f).length ≤ n
structure Sj (st : St) (f : Int) (R : List ByteArray) (n : Nat) : Prop where
  sx : Sx st f n
  now : st.now f = forms R
  sm : Small R
section
variable {st : St} {f : Int} {R : List ByteArray} {bad : Bool} {n : Nat}
theorem new_sx : Sx St.new f 0 := ⟨new_wf, rfl, rfl, by simp [St.new]⟩
theorem Sj.count (h : Sj st f R n) : R.length ≤ n := by
  have h1 := forms_ge R
  have h2 := h.sx.len
  rw [h.now] at h2
  omega
theorem Sx.mono {m : Nat} (h : Sx st f n) (hm : n ≤ m) : Sx st f m := ⟨h.wf, h.up, h.c0, Nat.le_trans h.len hm⟩
theorem Sj.mono {m : Nat} (h : Sj st f R n) (hm : n ≤ m) : Sj st f R m := ⟨h.sx.mono hm, h.now, h.sm⟩
theorem crash_calls (h : st.calls = 0) (ks : List Int) : (Di.crash st ks).calls = 0 := by
  unfold Di.crash; split
  · exact h
  · rfl
theorem crash_lost (st : St) (ks : List Int) : (Di.crash st ks).lost = st.lost := by
  unfold Di.crash; split <;> rfl
theorem Sx.crash (h : Sx st f n) (ks : List Int) : Sx (Di.start (Di.crash st ks)) f n :=
  ⟨start_wf (crash_wf h.wf ks), rfl, crash_calls h.c0 ks, Nat.le_trans (some_now h.wf h.up ks f).2.1 h.len⟩
theorem Sx.lose (h : Sx st f n) {k : Int} (hk : k ≤ 9223372036854775807) : Sx (Di.lose st k) f n := ⟨lose_wf h.wf hk, h.up, h.c0, h.len⟩
theorem Sj.lose (h : Sj st f R n) {k : Int} (hk : k ≤ 9223372036854775807) : Sj (Di.lose st k) f R n := ⟨h.sx.lose hk, h.now, h.sm⟩
theorem Sx.sync (h : Sx st f n) : Sx (Di.sync st f) f n ∧ (Di.sync st f).now f = st.now f := by
  have g := goes_zero h.c0
  have hw := sync_wf h.wf f
  unfold Di.sync at hw ⊢
  rw [g] at hw ⊢
  split
  · exact ⟨h, rfl⟩
  · rename_i h1
    rw [if_neg h1] at hw
    split
    · rename_i h2
      rw [if_pos h2] at hw
      exact ⟨⟨hw, h.up, h.c0, h.len⟩, rfl⟩
    · rename_i h2
      rw [if_neg h2] at hw
      exact ⟨⟨hw, h.up, h.c0, h.len⟩, rfl⟩
theorem Sx.trunc (h : Sx st f n) (k : Int) : Sx (Di.trunc st f k) f n := by
  have g := goes_zero h.c0
  have hw := trunc_wf h.wf f k
  unfold Di.trunc at hw ⊢
  rw [g] at hw ⊢
  split
  · exact h
  · rename_i h1
    rw [if_neg h1] at hw
    refine ⟨hw, h.up, h.c0, ?_⟩
    simp only [Di.cut, Di.settle, upd_same, List.length_take]
    have := h.len
    omega
theorem Sx.op (h : Sx st f n) : Sx (opS st f) f n := by
  unfold opS
  split
  · exact h
  · split
    · split
      · exact h.sync.1.trunc _
      · exact h.sync.1
    · exact h.sync.1
theorem Sx.opJ (h : Sx st f n) (h0 : opC st f = 0) : Sj (opS st f) f (opR st f) n := ⟨h.op, (op_ok h0).2.1, recs_small _⟩
theorem Sj.app (h : Sj st f R n) (hf : isF f = true) {x : ByteArray} (hx : x.size ≤ 200) (hn : n ≤ 100000) :
    Sj (appS st f R bad x) f (appR st f R bad x) (n + 243) ∧ (appC st f R bad x = 0 ∧ appR st f R bad x = R ++ [x] ∨ appC st f R bad x = 7 ∧ appR st f R bad x = R) := by
  cases bad
  · have h2 := form_len200 hx
    have h3 := h.sx.len
    rw [h.now] at h3
    have eC : appC st f R false x = writeR st f (forms R).length (form x) := by
      unfold appC; rw [if_neg (by simp), if_neg (by omega), if_neg (by omega)]
    have eS : appS st f R false x = Di.write st f (forms R).length (form x) := by
      unfold appS; rw [if_neg (by simp), if_neg (by omega), if_neg (by omega)]
    obtain ⟨k1, k2⟩ := write_ok (st := st) (f := f) (a := ((forms R).length : Int)) (s := form x) h.sx.up h.sx.c0 hf (by omega) (by omega)
    have eR : appR st f R false x = R ++ [x] := by unfold appR; rw [eC, k2, if_pos rfl]
    have hs := wr_same st f (forms R).length (form x)
    have e1 : (wr st f (forms R).length (form x)).now f = forms (R ++ [x]) := by rw [wr_now _ _ _ _ (form_ne x), h.now, putL_end, forms_snoc]
    refine ⟨?_, .inl ⟨by rw [eC, k2], eR⟩⟩
    rw [eS, eR, k1]
    refine ⟨⟨wr_wf h.sx.wf hf (by omega), hs.1.trans h.sx.up, hs.2.1.trans h.sx.c0, ?_⟩, e1, fun y hy => ?_⟩
    · have e1' : (wr st f ((forms R).length : Int).toNat (form x)).now f = forms (R ++ [x]) := e1
      rw [e1', forms_snoc, List.length_append]; omega
    · rcases List.mem_append.1 hy with hy | hy
      · exact h.sm y hy
      · simp at hy; subst hy; omega
  · have eC : appC st f R true x = 7 := by simp [appC]
    have eS : appS st f R true x = st := by simp [appS]
    have eR : appR st f R true x = R := by simp [appR, eC]
    rw [eC, eS, eR]
    exact ⟨h.mono (by omega), .inr ⟨rfl, rfl⟩⟩
theorem Sj.sy (h : Sj st f R n) : Sj (syS st f bad) f R n := by
  cases bad
  · simp only [syS, Bool.false_eq_true, if_false]
    exact ⟨h.sx.sync.1, h.sx.sync.2.trans h.now, h.sm⟩
  · simpa [syS] using h

/-- The records stand, whatever crashes. -/
structure Fin (st : St) (f : Int) (R : List ByteArray) : Prop where
  wf : WF st
  up : st.down = false
  c0 : st.calls = 0
  l0 : st.lost = 0
  syn : Syn st f (forms R)
  sm : Small R
theorem Sj.fin (h : Sj st f R n) (h0 : syC st f bad = 0) : Fin (Di.lose (syS st f bad) 0) f R := by
  have hj := h.sy (bad := bad)
  cases bad
  · have h0' : syncR st f = 0 := by simpa [syC] using h0
    obtain ⟨_, _, _, _, hs⟩ := Di.sync_ok h.sx.wf h0'
    rw [h.now] at hs
    simp only [syS, Bool.false_eq_true, if_false] at hj ⊢
    exact ⟨lose_wf hj.sx.wf (by omega), hj.sx.up, hj.sx.c0, rfl, ⟨hs.now, hs.dur, hs.q⟩, h.sm⟩
  · simp [syC] at h0
theorem Fin.step (h : Fin st f R) (hf : isF f = true) (ks : List Int) : opC (Di.start (Di.crash st ks)) f = 0 ∧ opR (Di.start (Di.crash st ks)) f = R ∧ Fin (opS (Di.start (Di.crash st ks)) f) f R := by
  have hn : (Di.start (Di.crash st ks)).now f = forms R := (h.syn.crash ks).now
  have hw : WF (Di.start (Di.crash st ks)) := start_wf (crash_wf h.wf ks)
  have hc : (Di.start (Di.crash st ks)).calls = 0 := crash_calls h.c0 ks
  have hl : (Di.start (Di.crash st ks)).lost = 0 := (crash_lost st ks).trans h.l0
  have hd : (Di.start (Di.crash st ks)).down = false := rfl
  generalize Di.start (Di.crash st ks) = s2 at hn hw hc hl hd ⊢
  obtain ⟨h0, h1, h2⟩ := op_last hf hd hl hc
  have hR : opR s2 f = R := by unfold opR; rw [hn]; exact recs_of_forms R h.sm
  obtain ⟨_, k1, k2, k3⟩ := op_ok h0
  refine ⟨h0, hR, ⟨opS_wf hw, k3, h1, h2, ?_, h.sm⟩⟩
  have hy : syncR s2 f = 0 := by
    unfold syncR
    rw [goes_zero hc, if_neg (by simp [hd]), if_neg (by simp [hf]), if_neg (by omega)]
  have e : opS s2 f = Di.settle s2 f := by
    unfold opS
    rw [if_neg (by simp [hf]), if_pos hy, if_neg (by rw [hR, hn]; omega), (syncR_ok hy).2.2.2.2.2.2, goes_zero hc]
  rw [e]
  have := settle_syn s2 f
  rwa [hn] at this
end
end Go.Proofs.YtejddacjncpneaaGreatDoor.Jo
