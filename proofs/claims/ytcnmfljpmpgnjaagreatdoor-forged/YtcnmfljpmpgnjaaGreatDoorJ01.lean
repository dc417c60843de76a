import Derived.Test.YtcnmfljpmpgnjaaGreatDoorJ00
namespace Go.Proofs.YtcnmfljpmpgnjaaGreatDoor
namespace Tm

theorem roomOf_set (l : List Ob) (j : Nat) (o : Ob) (h : o.gone = (l.getD j ob0).gone ∧ o.kinds.length = (l.getD j ob0).kinds.length) : roomOf (l.set j o) = roomOf l := by
  induction l generalizing j with
  | nil => rfl
  | cons a l ih =>
    cases j with
    | zero => simp only [List.set_cons_zero, roomOf]; rw [h.1, h.2]; rfl
    | succ j => simp only [List.set_cons_succ, roomOf]; rw [ih j h]
theorem roomOf_gone (l : List Ob) (j : Nat) (o : Ob) (h : o.gone = true) : roomOf (l.set j o) ≤ roomOf l := by
  induction l generalizing j with
  | nil => exact Int.le_refl _
  | cons a l ih =>
    cases j with
    | zero => simp only [List.set_cons_zero, roomOf]; rw [if_pos h]; split <;> omega
    | succ j => simp only [List.set_cons_succ, roomOf]; have := ih j; omega
theorem countOf_set (l : List Ob) (j : Nat) (o : Ob) (h : o.gone = (l.getD j ob0).gone) : countOf (l.set j o) = countOf l := by
  induction l generalizing j with
  | nil => rfl
  | cons a l ih =>
    cases j with
    | zero => simp only [List.set_cons_zero, countOf]; rw [h]; rfl
    | succ j => simp only [List.set_cons_succ, countOf]; rw [ih j h]
theorem roomOf_coll (h : H) (M : List Bool) (i : Nat) : roomOf (h.collTo M i).l ≤ roomOf h.l := by
  induction i with
  | zero => exact Int.le_refl _
  | succ i ih =>
    unfold H.collTo
    split
    · rw [setGone_l]; exact Int.le_trans (roomOf_gone _ _ _ rfl) ih
    · exact ih
theorem countOf_room (l : List Ob) : countOf l ≤ roomOf l := by
  induction l with
  | nil => exact Int.le_refl _
  | cons a l ih => simp only [countOf, roomOf]; split <;> omega

/-- What is so of every heap that the program has made, as plain data. -/
structure Good (h : H) : Prop where
  slots : ∀ k i, i < (h.t k).length → 0 ≤ (h.sl k i).ob ∧ (h.sl k i).ob ≤ (h.l.length : Int) ∧ 0 ≤ (h.sl k i).gen ∧ (h.sl k i).gen ≤ 50
  held : ∀ k i, k = 1 ∨ k = 2 → i < (h.t k).length → (h.sl k i).ob ≠ 0 → (h.ob (h.sl k i).ob).gone = false
  bound : ∀ j q, j < h.l.length → q < (h.l.getD j ob0).kinds.length → (h.l.getD j ob0).kinds.getD q 0 = 2 → 0 ≤ (h.l.getD j ob0).vals.getD q 0 ∧ (h.l.getD j ob0).vals.getD q 0 ≤ (h.l.length : Int)
  refs : ∀ j q, j < h.l.length → (h.l.getD j ob0).gone = false → q < (h.l.getD j ob0).kinds.length → (h.l.getD j ob0).kinds.getD q 0 = 2 → (h.l.getD j ob0).vals.getD q 0 ≠ 0 → (h.ob ((h.l.getD j ob0).vals.getD q 0)).gone = false
  eq : ∀ j, j < h.l.length → (h.l.getD j ob0).vals.length = (h.l.getD j ob0).kinds.length ∧ (h.l.getD j ob0).kinds.length ≤ 32
  pins : ∀ j, j < h.l.length → 0 ≤ (h.l.getD j ob0).pins ∧ (h.l.getD j ob0).pins ≤ 3 ∧ ((h.l.getD j ob0).gone = true → (h.l.getD j ob0).pins = 0)
  tabs : ∀ k, (h.t k).length ≤ 16
  zero : h.t 0 = []
  many : h.l.length < 4398046511104
  small : 1 ≤ h.room ∧ h.room ≤ 200
  frames : 1 ≤ h.frames ∧ h.frames ≤ 6
  fits : roomOf h.l ≤ h.room
  few : h.classes.length ≤ 8
  cls : ∀ i, i < h.classes.length → (h.classes.getD i []).length ≤ 8 ∧ ∀ q, q < (h.classes.getD i []).length → (h.classes.getD i []).getD q 0 = 1 ∨ (h.classes.getD i []).getD q 0 = 2
  kin : ∀ j q, j < h.l.length → q < (h.l.getD j ob0).kinds.length → (h.l.getD j ob0).kinds.getD q 0 = 1 ∨ (h.l.getD j ob0).kinds.getD q 0 = 2
  fram : ∀ i, i < (h.t 1).length → (h.sl 1 i).ob ≠ 0 → 1 ≤ (h.sl 1 i).frame ∧ (h.sl 1 i).frame ≤ h.frames
  names : ∀ j, j < h.l.length → (h.l.getD j ob0).name = -1 ∨ (0 ≤ (h.l.getD j ob0).name ∧ (h.l.getD j ob0).name ≤ 1000000000)
  told : h.toldOK

theorem sl_setSl (h : H) (k i k' i' : Nat) (s : Sl) (hi : i < (h.t k).length) : (h.setSl k i s).sl k' i' = if k' = k ∧ i' = i then s else h.sl k' i' := by
  unfold H.setSl H.sl
  simp only
  by_cases e : k' = k
  · subst e
    rw [if_pos rfl, getD_set _ _ _ _ _ hi]
    by_cases e2 : i' = i <;> simp [e2]
  · rw [if_neg e, if_neg (fun h => e h.1)]
theorem len_setSl (h : H) (k i k' : Nat) (s : Sl) : ((h.setSl k i s).t k').length = (h.t k').length := by
  unfold H.setSl
  simp only
  by_cases e : k' = k
  · subst e; simp
  · rw [if_neg e]

theorem Good.setSl {h : H} (g : Good h) (k i : Nat) (s : Sl) (hi : i < (h.t k).length) (hs : 0 ≤ s.ob ∧ s.ob ≤ (h.l.length : Int) ∧ 0 ≤ s.gen ∧ s.gen ≤ 50) (ha : k = 1 ∨ k = 2 → s.ob ≠ 0 → (h.ob s.ob).gone = false) (hfr : k = 1 → s.ob ≠ 0 → 1 ≤ s.frame ∧ s.frame ≤ h.frames) : Good (h.setSl k i s) := by
  refine ⟨fun k' i' h' => ?_, fun k' i' hk' h' hn => ?_, g.bound, g.refs, g.eq, g.pins, fun k' => by rw [len_setSl]; exact g.tabs k', ?_, g.many, g.small, g.frames, g.fits, g.few, g.cls, g.kin, fun i' h' hn => ?_, g.names, g.told⟩
  · rw [len_setSl] at h'
    rw [sl_setSl _ _ _ _ _ _ hi]
    split
    · exact hs
    · exact g.slots k' i' h'
  · rw [len_setSl] at h'
    rw [sl_setSl _ _ _ _ _ _ hi] at hn ⊢
    split
    · rename_i e
      rw [if_pos e] at hn
      exact ha (e.1 ▸ hk') hn
    · rename_i e
      rw [if_neg e] at hn
      exact g.held k' i' hk' h' hn
  · have : k ≠ 0 := by rintro rfl; rw [g.zero] at hi; simp at hi
    show (if 0 = k then (h.t k).set i s else h.t 0) = []
    rw [if_neg (fun e => this e.symm)]; exact g.zero
  · rw [len_setSl] at h'
    rw [sl_setSl _ _ _ _ _ _ hi] at hn ⊢
    split
    · rename_i e
      rw [if_pos e] at hn
      exact hfr e.1.symm hn
    · rename_i e
      rw [if_neg e] at hn
      exact g.fram i' h' hn

theorem ob_setVal (h : H) (j m : Nat) (v : Int) (n : Int) (hj : j < h.l.length) : (h.setVal j m v).ob n = if (n - 1).toNat = j then { h.l.getD j ob0 with vals := (h.l.getD j ob0).vals.set m v } else h.ob n := by
  unfold H.setVal H.ob
  simp only
  rw [getD_set _ _ _ _ _ hj]
theorem at_setVal (h : H) (j m : Nat) (v : Int) (n : Nat) (hj : j < h.l.length) : (h.setVal j m v).l.getD n ob0 = if n = j then { h.l.getD j ob0 with vals := (h.l.getD j ob0).vals.set m v } else h.l.getD n ob0 := by
  unfold H.setVal
  simp only
  rw [getD_set _ _ _ _ _ hj]
theorem gone_setVal (h : H) (j m : Nat) (v : Int) (n : Int) (hj : j < h.l.length) : ((h.setVal j m v).ob n).gone = (h.ob n).gone := by
  rw [ob_setVal _ _ _ _ _ hj]
  split
  · rename_i e; subst e; rfl
  · rfl
theorem len_setVal (h : H) (j m : Nat) (v : Int) : (h.setVal j m v).l.length = h.l.length := by simp [H.setVal]
theorem kinds_setVal (h : H) (j m : Nat) (v : Int) (n : Nat) (hj : j < h.l.length) : ((h.setVal j m v).l.getD n ob0).kinds = (h.l.getD n ob0).kinds ∧ ((h.setVal j m v).l.getD n ob0).gone = (h.l.getD n ob0).gone ∧ ((h.setVal j m v).l.getD n ob0).pins = (h.l.getD n ob0).pins ∧ ((h.setVal j m v).l.getD n ob0).vals.length = (h.l.getD n ob0).vals.length ∧ ((h.setVal j m v).l.getD n ob0).name = (h.l.getD n ob0).name := by
  rw [at_setVal _ _ _ _ _ hj]
  split
  · rename_i e; subst e; exact ⟨rfl, rfl, rfl, by simp, rfl⟩
  · exact ⟨rfl, rfl, rfl, rfl, rfl⟩

theorem Good.setVal {h : H} (g : Good h) (j m : Nat) (v : Int) (hj : j < h.l.length) (hm : m < (h.l.getD j ob0).kinds.length) (hv : (h.l.getD j ob0).kinds.getD m 0 = 2 → 0 ≤ v ∧ v ≤ (h.l.length : Int) ∧ (v ≠ 0 → (h.ob v).gone = false)) : Good (h.setVal j m v) := by
  have hvl := (g.eq j hj).1
  have hval : ∀ n q, q < (h.l.getD n ob0).kinds.length → ((h.setVal j m v).l.getD n ob0).vals.getD q 0 = if n = j ∧ q = m then v else (h.l.getD n ob0).vals.getD q 0 := fun n q hq => by
    rw [at_setVal _ _ _ _ _ hj]
    by_cases e : n = j
    · subst e
      rw [if_pos rfl]
      simp only
      rw [getD_set _ _ _ _ _ (by omega)]
      by_cases e2 : q = m <;> simp [e2]
    · rw [if_neg e, if_neg (fun h => e h.1)]
  refine ⟨fun k i hi => by rw [len_setVal]; exact g.slots k i hi, ?_, ?_, ?_, ?_, ?_, g.tabs, g.zero, by rw [len_setVal]; exact g.many, g.small, g.frames, Int.le_trans (Int.le_of_eq (roomOf_set h.l j { h.l.getD j ob0 with vals := (h.l.getD j ob0).vals.set m v } ⟨rfl, rfl⟩)) g.fits, g.few, g.cls, ?_, g.fram, ?_, ?_⟩
  · intro k i hk hi hn
    rw [gone_setVal _ _ _ _ _ hj]; exact g.held k i hk hi hn
  · intro n q hn hq hk
    rw [len_setVal] at hn ⊢
    rw [(kinds_setVal h j m v n hj).1] at hq hk
    rw [hval n q hq]
    split
    · rename_i e; obtain ⟨rfl, rfl⟩ := e; exact ⟨(hv hk).1, (hv hk).2.1⟩
    · exact g.bound n q hn hq hk
  · intro n q hn hg hq hk h0
    rw [len_setVal] at hn
    rw [(kinds_setVal h j m v n hj).1] at hq hk
    rw [(kinds_setVal h j m v n hj).2.1] at hg
    rw [hval n q hq] at h0 ⊢
    rw [gone_setVal _ _ _ _ _ hj]
    split
    · rename_i e
      rw [if_pos e] at h0
      obtain ⟨rfl, rfl⟩ := e; exact (hv hk).2.2 h0
    · rename_i e
      rw [if_neg e] at h0
      exact g.refs n q hn hg hq hk h0
  · intro n hn
    rw [len_setVal] at hn
    rw [(kinds_setVal h j m v n hj).1, (kinds_setVal h j m v n hj).2.2.2.1]; exact g.eq n hn
  · intro n hn
    rw [len_setVal] at hn
    rw [(kinds_setVal h j m v n hj).2.2.1, (kinds_setVal h j m v n hj).2.1]; exact g.pins n hn
  · intro n q hn hq
    rw [len_setVal] at hn
    rw [(kinds_setVal h j m v n hj).1] at hq ⊢; exact g.kin n q hn hq
  · intro n hn
    rw [len_setVal] at hn
    rw [(kinds_setVal h j m v n hj).2.2.2.2]; exact g.names n hn
  · have := g.told
    unfold H.toldOK at this ⊢
    rw [len_setVal]
    have hc : countOf (h.setVal j m v).l = countOf h.l := countOf_set h.l j { h.l.getD j ob0 with vals := (h.l.getD j ob0).vals.set m v } rfl
    rw [hc]; exact this

theorem at_grown (h : H) (ks : List Int) (nm : Int) (n : Nat) : (h.grown ks nm).l.getD n ob0 = if n = h.l.length then ⟨ks, List.replicate ks.length 0, 0, nm, false⟩ else h.l.getD n ob0 := by
  unfold H.grown
  simp only [List.getD_eq_getElem?_getD]
  by_cases e : n = h.l.length
  · subst e; simp
  · rw [if_neg e]
    rcases Nat.lt_or_ge n h.l.length with h1 | h1
    · rw [List.getElem?_append_left h1]
    · rw [List.getElem?_append_right h1, List.getElem?_eq_none (by simp; omega), List.getElem?_eq_none h1]
theorem len_grown (h : H) (ks : List Int) (nm : Int) : (h.grown ks nm).l.length = h.l.length + 1 := by simp [H.grown]
theorem ob_grown (h : H) (ks : List Int) (nm : Int) (n : Int) (h0 : 0 < n) (h1 : n ≤ (h.l.length : Int)) : (h.grown ks nm).ob n = h.ob n := by
  unfold H.ob; rw [at_grown, if_neg (by omega)]

theorem Good.grown {h : H} (g : Good h) (ks : List Int) (nm : Int) (hl : ks.length ≤ 32) (hk : ∀ q, q < ks.length → ks.getD q 0 = 1 ∨ ks.getD q 0 = 2) (hm : h.l.length + 1 < 4398046511104) (hf : roomOf h.l + (1 + (ks.length : Int)) ≤ h.room) (hnm : nm = -1 ∨ (0 ≤ nm ∧ nm ≤ 1000000000)) : Good (h.grown ks nm) := by
  have hz : ∀ q, (List.replicate ks.length (0 : Int)).getD q 0 = 0 := fun q => by
    simp only [List.getD_eq_getElem?_getD, List.getElem?_replicate]; split <;> rfl
  refine ⟨fun k i hi => ?_, fun k i hk' hi hn => ?_, fun j q hj hq he => ?_, fun j q hj hg hq he h0 => ?_, fun j hj => ?_, fun j hj => ?_, g.tabs, g.zero, by rw [len_grown]; exact hm, g.small, g.frames, by show roomOf (h.l ++ _) ≤ h.room; rw [roomOf_append]; simp [roomOf]; omega, g.few, g.cls, fun j q hj hq => ?_, g.fram, fun j hj => ?_, ?_⟩
  · rw [len_grown]
    have := g.slots k i hi
    show 0 ≤ (h.sl k i).ob ∧ (h.sl k i).ob ≤ _ ∧ 0 ≤ (h.sl k i).gen ∧ (h.sl k i).gen ≤ 50
    omega
  · have := g.slots k i hi
    have h2 := g.held k i hk' hi hn
    rw [ob_grown _ _ _ _ (by show 0 < (h.sl k i).ob; have : (h.sl k i).ob ≠ 0 := hn; omega) (by show (h.sl k i).ob ≤ _; omega)]; exact h2
  · rw [len_grown] at hj ⊢
    rw [at_grown] at hq he ⊢
    split at hq
    · rename_i e
      rw [if_pos e]; simp only; rw [hz]; omega
    · rename_i e
      rw [if_neg e] at he ⊢
      have := g.bound j q (by omega) hq he
      omega
  · rw [len_grown] at hj
    rw [at_grown] at hg hq he h0 ⊢
    split at hq
    · rename_i e
      rw [if_pos e] at h0; simp only at h0; rw [hz] at h0; exact absurd rfl h0
    · rename_i e
      rw [if_neg e] at hg he h0 ⊢
      have := g.bound j q (by omega) hq he
      rw [ob_grown _ _ _ _ (by omega) (by omega)]
      exact g.refs j q (by omega) hg hq he h0
  · rw [len_grown] at hj
    rw [at_grown]
    split
    · simp only [List.length_replicate]; exact ⟨trivial, hl⟩
    · exact g.eq j (by omega)
  · rw [len_grown] at hj
    rw [at_grown]
    split
    · exact ⟨Int.le_refl _, by show (0 : Int) ≤ 3; decide, fun q => by cases q⟩
    · exact g.pins j (by omega)
  · rw [len_grown] at hj
    rw [at_grown] at hq ⊢
    split at hq
    · rename_i e; rw [if_pos e]; exact hk q hq
    · rename_i e; rw [if_neg e]; exact g.kin j q (by omega) hq
  · rw [len_grown] at hj
    rw [at_grown]
    split
    · exact hnm
    · exact g.names j (by omega)
  · have := g.told
    unfold H.toldOK at this ⊢
    rw [len_grown]
    show (h.ended.length : Int) + countOf (h.l ++ _) ≤ _
    rw [countOf_append]; simp [countOf]; omega

/-- What is left of an object behind a collection. -/
theorem at_collTo (h : H) (M : List Bool) (i j : Nat) (hj : j < h.l.length) : (h.collTo M i).l.getD j ob0 = { h.l.getD j ob0 with gone := (h.l.getD j ob0).gone || (decide (j < i) && !(M.getD (j + 1) false)) } := by
  induction i with
  | zero => simp [H.collTo]
  | succ i ih =>
    unfold H.collTo
    split
    · rename_i e
      rw [setGone_l]
      by_cases e2 : j = i
      · subst e2
        rw [getD_set _ _ _ _ _ (by rw [collTo_len]; exact hj), if_pos rfl, ih]
        rw [e.1]; simp
      · have e4 : ((h.collTo M i).l.set i { (h.collTo M i).l.getD i ob0 with gone := true }).getD j ob0 = (h.collTo M i).l.getD j ob0 := by
          simp only [List.getD_eq_getElem?_getD, List.getElem?_set]
          rw [if_neg (fun e => e2 e.symm)]
        rw [e4, ih]
        have : decide (j < i + 1) = decide (j < i) := by by_cases e3 : j < i <;> simp [e3] <;> omega
        rw [this]
    · rename_i e
      rw [ih]
      by_cases e2 : j = i
      · subst e2
        rcases hg : (h.l.getD j ob0).gone with _ | _
        · have : M.getD (j + 1) false = true := by
            cases hM : M.getD (j + 1) false
            · exact absurd ⟨hM, hg⟩ e
            · rfl
          rw [this]; simp
        · simp
      · have : decide (j < i + 1) = decide (j < i) := by by_cases e3 : j < i <;> simp [e3] <;> omega
        rw [this]

theorem at_coll (h : H) (M : List Bool) (j : Nat) (hj : j < h.l.length) : (h.collTo M h.l.length).l.getD j ob0 = { h.l.getD j ob0 with gone := (h.l.getD j ob0).gone || !(M.getD (j + 1) false) } := by
  rw [at_collTo h M _ j hj]; simp [hj]

theorem Good.coll {h : H} (g : Good h) (M : List Bool) (m : Marked h M) : Good (h.collTo M h.l.length) := by
  obtain ⟨e1, e2, e3, e5⟩ := collTo_same h M h.l.length
  have hl := collTo_len h M h.l.length
  have hsl : ∀ k i, (h.collTo M h.l.length).sl k i = h.sl k i := fun k i => by unfold H.sl; rw [e1]
  have hob : ∀ n : Int, 0 < n → n ≤ (h.l.length : Int) → (h.ob n).gone = false → Reach h n.toNat → ((h.collTo M h.l.length).ob n).gone = false := fun n h0 h1 hg hr => by
    unfold H.ob at hg ⊢
    rw [at_coll _ _ _ (by omega)]
    have := (m.2 n.toNat (by rw [m.1]; omega)).2 hr
    rw [show (n - 1).toNat + 1 = n.toNat from by omega, this]
    simp only [hg, Bool.not_true, Bool.or_self]
  refine ⟨fun k i hi => ?_, fun k i hk hi hn => ?_, fun j q hj hq he => ?_, fun j q hj hg hq he h0 => ?_, fun j hj => ?_, fun j hj => ?_, fun k => by rw [e1]; exact g.tabs k, by rw [e1]; exact g.zero, by rw [hl]; exact g.many, by rw [e2]; exact g.small, by rw [e3]; exact g.frames, by rw [e2]; exact Int.le_trans (roomOf_coll h M _) g.fits, by rw [e5]; exact g.few, by rw [e5]; exact g.cls, fun j q hj hq => ?_, fun i hi hn => ?_, fun j hj => ?_, collTo_told g.told M _ (Nat.le_refl _)⟩
  · rw [e1] at hi; rw [hsl, hl]; exact g.slots k i hi
  · rw [e1] at hi
    rw [hsl] at hn ⊢
    have hb := g.slots k i hi
    refine hob _ (by omega) (by omega) (g.held k i hk hi hn) (Reach.root (Or.inl ⟨k, i, hk, hi, by omega⟩))
  · rw [hl] at hj ⊢
    rw [at_coll _ _ _ hj] at hq he ⊢
    exact g.bound j q hj hq he
  · rw [hl] at hj
    rw [at_coll _ _ _ hj] at hg hq he h0 ⊢
    simp only [Bool.or_eq_false_iff, Bool.not_eq_false'] at hg
    have hb := g.bound j q hj hq he
    have hr := (m.2 (j + 1) (by rw [m.1]; omega)).1 hg.2
    simp only at h0 hq he ⊢
    exact hob _ (by omega) (by omega) (g.refs j q hj hg.1 hq he h0) (hr.edge ⟨j, q, hj, rfl, hq, he, by omega, by omega⟩)
  · rw [hl] at hj; rw [at_coll _ _ _ hj]; exact g.eq j hj
  · rw [hl] at hj; rw [at_coll _ _ _ hj]
    have hp := g.pins j hj
    refine ⟨hp.1, hp.2.1, fun hg => ?_⟩
    simp only [Bool.or_eq_true, Bool.not_eq_true'] at hg
    rcases hg with hg | hg
    · exact hp.2.2 hg
    · cases hgo : (h.l.getD j ob0).gone
      · have hn : ¬ 0 < (h.l.getD j ob0).pins := fun q => by
          have := (m.2 (j + 1) (by rw [m.1]; omega)).2 (Reach.root (Or.inr ⟨j, hj, rfl, q, hgo⟩))
          rw [hg] at this; cases this
        show (h.l.getD j ob0).pins = 0
        omega
      · exact hp.2.2 hgo
  · rw [hl] at hj; rw [at_coll _ _ _ hj] at hq ⊢; exact g.kin j q hj hq
  · rw [e1] at hi
    rw [hsl] at hn ⊢
    rw [e3]; exact g.fram i hi hn
  · rw [hl] at hj; rw [at_coll _ _ _ hj]; exact g.names j hj

theorem getD_mem {α : Type} (l : List α) (d : α) (i : Nat) (h : i < l.length) : l.getD i d ∈ l := by
  rw [List.getD_eq_getElem?_getD, List.getElem?_eq_getElem h]; exact List.getElem_mem _

theorem Good.new (r l g k : Int) (cl : List (List Int)) (hr : right r l g k cl = true) : Good (newH r l g k cl) := by
  simp only [right, Bool.and_eq_true] at hr
  obtain ⟨h1, h2, h3, h4, h5, h6⟩ := hr
  simp only [inR, decide_eq_true_eq] at h1 h2 h3 h4 h5
  have hsl : ∀ k' i, (newH r l g k cl).sl k' i = sl0 := fun k' i => by
    have hz : ∀ n : Int, (slots0 n).getD i sl0 = sl0 := fun n => by
      simp only [slots0, List.getD_eq_getElem?_getD, List.getElem?_replicate]; split <;> rfl
    unfold newH H.sl
    simp only
    split
    · exact hz l
    · split
      · exact hz g
      · split
        · exact hz k
        · simp
  have hcl : ∀ i, i < cl.length → goodClass (cl.getD i []) = true := fun i hi => by
    have := List.all_eq_true.1 h6 (cl.getD i []) (by rw [List.getD_eq_getElem?_getD, List.getElem?_eq_getElem hi]; exact List.getElem_mem _)
    exact this
  refine ⟨fun k' i hi => ?_, fun k' i hk hi hn => ?_, fun j q hj => ?_, fun j q hj => ?_, fun j hj => ?_, fun j hj => ?_, fun k' => ?_, ?_, ?_, h1, ⟨by show (1 : Int) ≤ 1; decide, by show (1 : Int) ≤ 6; decide⟩, by show (0 : Int) ≤ r; omega, ?_, fun i hi => ?_, fun j q hj => ?_, fun i hi hn => ?_, fun j hj => ?_, ?_⟩
  · rw [hsl]; exact ⟨Int.le_refl _, Int.natCast_nonneg _, Int.le_refl _, by decide⟩
  · rw [hsl] at hn; exact absurd rfl hn
  · exact absurd hj (Nat.not_lt_zero _)
  · exact absurd hj (Nat.not_lt_zero _)
  · exact absurd hj (Nat.not_lt_zero _)
  · exact absurd hj (Nat.not_lt_zero _)
  · unfold newH
    simp only
    split
    · simp [slots0]; omega
    · split
      · simp [slots0]; omega
      · split
        · simp [slots0]; omega
        · simp
  · simp [newH]
  · show (0 : Nat) < _; omega
  · show cl.length ≤ 8; omega
  · have := hcl i hi
    simp only [goodClass, Bool.and_eq_true, decide_eq_true_eq] at this
    refine ⟨this.1, fun q hq => ?_⟩
    have h7 := List.all_eq_true.1 this.2 ((cl.getD i []).getD q 0) (getD_mem _ _ _ hq)
    simp only [inR, decide_eq_true_eq] at h7
    show (cl.getD i []).getD q 0 = 1 ∨ (cl.getD i []).getD q 0 = 2
    omega
  · exact absurd hj (Nat.not_lt_zero _)
  · rw [hsl] at hn; exact absurd rfl hn
  · exact absurd hj (Nat.not_lt_zero _)
  · show (0 : Int) + 0 ≤ 0; decide

theorem Good.push {h : H} (g : Good h) : Good h.push.2 := by
  unfold H.push
  split
  · exact g
  · rename_i e
    exact ⟨g.slots, g.held, g.bound, g.refs, g.eq, g.pins, g.tabs, g.zero, g.many, g.small, by have := g.frames; show 1 ≤ h.frames + 1 ∧ h.frames + 1 ≤ 6; omega, g.fits, g.few, g.cls, g.kin, fun i hi hn => by have := g.fram i hi hn; show 1 ≤ (h.sl 1 i).frame ∧ (h.sl 1 i).frame ≤ h.frames + 1; omega, g.names, g.told⟩
theorem Good.tld {h : H} (g : Good h) : Good h.told :=
  ⟨g.slots, g.held, g.bound, g.refs, g.eq, g.pins, g.tabs, g.zero, g.many, g.small, g.frames, g.fits, g.few, g.cls, g.kin, g.fram, g.names, by have := g.told; unfold H.toldOK at *; show ((0 : Nat) : Int) + countOf h.l ≤ (h.l.length : Int); omega⟩

theorem at_setPins (h : H) (j : Nat) (v : Int) (n : Nat) (hj : j < h.l.length) : (h.setPins j v).l.getD n ob0 = if n = j then { h.l.getD j ob0 with pins := v } else h.l.getD n ob0 := by
  unfold H.setPins; simp only; rw [getD_set _ _ _ _ _ hj]
theorem rest_setPins (h : H) (j : Nat) (v : Int) (n : Nat) (hj : j < h.l.length) : ((h.setPins j v).l.getD n ob0).kinds = (h.l.getD n ob0).kinds ∧ ((h.setPins j v).l.getD n ob0).vals = (h.l.getD n ob0).vals ∧ ((h.setPins j v).l.getD n ob0).gone = (h.l.getD n ob0).gone ∧ ((h.setPins j v).l.getD n ob0).name = (h.l.getD n ob0).name := by
  rw [at_setPins _ _ _ _ hj]
  split
  · rename_i e; subst e; exact ⟨rfl, rfl, rfl, rfl⟩
  · exact ⟨rfl, rfl, rfl, rfl⟩
theorem Good.setPins {h : H} (g : Good h) (j : Nat) (v : Int) (hj : j < h.l.length) (hg : (h.l.getD j ob0).gone = false) (hv : 0 ≤ v ∧ v ≤ 3) : Good (h.setPins j v) := by
  have hl : (h.setPins j v).l.length = h.l.length := by simp [H.setPins]
  have hr := fun n => rest_setPins h j v n hj
  have hgo : ∀ n : Int, ((h.setPins j v).ob n).gone = (h.ob n).gone := fun n => (hr _).2.2.1
  refine ⟨fun k i hi => by rw [hl]; exact g.slots k i hi, fun k i hk hi hn => by rw [hgo]; exact g.held k i hk hi hn, fun n q hn hq hk => ?_, fun n q hn hq hk hk2 h0 => ?_, fun n hn => ?_, fun n hn => ?_, g.tabs, g.zero, by rw [hl]; exact g.many, g.small, g.frames, Int.le_trans (Int.le_of_eq (roomOf_set h.l j { h.l.getD j ob0 with pins := v } ⟨rfl, rfl⟩)) g.fits, g.few, g.cls, fun n q hn hq => ?_, g.fram, fun n hn => ?_, ?_⟩
  · rw [hl] at hn ⊢
    rw [(hr n).1] at hq hk
    rw [(hr n).2.1]; exact g.bound n q hn hq hk
  · rw [hl] at hn
    rw [(hr n).1] at hk hk2
    rw [(hr n).2.2.1] at hq
    rw [(hr n).2.1] at h0 ⊢
    rw [hgo]; exact g.refs n q hn hq hk hk2 h0
  · rw [hl] at hn
    rw [(hr n).1, (hr n).2.1]; exact g.eq n hn
  · rw [hl] at hn
    rw [at_setPins _ _ _ _ hj]
    split
    · exact ⟨hv.1, hv.2, fun q => by rw [hg] at q; cases q⟩
    · exact g.pins n hn
  · rw [hl] at hn
    rw [(hr n).1] at hq ⊢; exact g.kin n q hn hq
  · rw [hl] at hn
    rw [(hr n).2.2.2]; exact g.names n hn
  · have := g.told
    unfold H.toldOK at this ⊢
    rw [hl]
    have hc : countOf (h.setPins j v).l = countOf h.l := countOf_set h.l j { h.l.getD j ob0 with pins := v } rfl
    rw [hc]; exact this

theorem sl_popped (h : H) (k i : Nat) (hi : i < (h.t k).length) : h.popped.sl k i = if k = 1 then popSl h.frames (h.sl 1 i) else h.sl k i := by
  unfold H.popped H.sl
  simp only
  by_cases e : k = 1
  · subst e
    simp [List.getD_eq_getElem?_getD, List.getElem?_eq_getElem hi]
  · rw [if_neg e, if_neg e]
theorem len_popped (h : H) (k : Nat) : (h.popped.t k).length = (h.t k).length := by
  unfold H.popped
  simp only
  by_cases e : k = 1
  · subst e; simp
  · rw [if_neg e]
theorem Good.popF {h : H} (g : Good h) (h1 : h.frames ≠ 1) : Good h.popF := by
  have hsl : ∀ k i, i < (h.t k).length → h.popF.sl k i = if k = 1 then popSl h.frames (h.sl 1 i) else h.sl k i := fun k i hi => sl_popped h k i hi
  have hlen : ∀ k, (h.popF.t k).length = (h.t k).length := fun k => len_popped h k
  refine ⟨fun k i hi => ?_, fun k i hk hi hn => ?_, g.bound, g.refs, g.eq, g.pins, fun k => by rw [hlen]; exact g.tabs k, ?_, g.many, g.small, by have := g.frames; show 1 ≤ h.frames - 1 ∧ h.frames - 1 ≤ 6; omega, g.fits, g.few, g.cls, g.kin, fun i hi hn => ?_, g.names, g.told⟩
  · rw [hlen] at hi
    rw [hsl k i hi]
    split
    · rename_i e
      subst e
      have := g.slots 1 i hi
      unfold popSl
      split
      · refine ⟨Int.le_refl _, Int.natCast_nonneg _, this.2.2.1, this.2.2.2⟩
      · exact this
    · exact g.slots k i hi
  · rw [hlen] at hi
    rw [hsl k i hi] at hn ⊢
    split at hn
    · rename_i e
      subst e
      rw [if_pos rfl]
      unfold popSl at hn ⊢
      split at hn
      · exact absurd rfl hn
      · rename_i e2
        rw [if_neg e2]
        exact g.held 1 i hk hi hn
    · rename_i e
      rw [if_neg e]
      exact g.held k i hk hi hn
  · show (if 0 = 1 then (h.t 1).map (popSl h.frames) else h.t 0) = []
    rw [if_neg (by decide)]; exact g.zero
  · rw [hlen] at hi
    rw [hsl 1 i hi, if_pos rfl] at hn ⊢
    unfold popSl at hn ⊢
    split at hn
    · exact absurd rfl hn
    · rename_i e2
      rw [if_neg e2]
      have := g.fram i hi hn
      show 1 ≤ (h.sl 1 i).frame ∧ (h.sl 1 i).frame ≤ h.frames - 1
      omega
end Tm
end Go.Proofs.YtcnmfljpmpgnjaaGreatDoor
