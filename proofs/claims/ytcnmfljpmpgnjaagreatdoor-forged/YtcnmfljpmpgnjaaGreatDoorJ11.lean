import Derived.Test.YtcnmfljpmpgnjaaGreatDoorJ10
import Derived.Test.YtcnmfljpmpgnjaaGreatDoorJ09
import Derived.Test.YtcnmfljpmpgnjaaGreatDoorJ00
import Derived.Maps.OwnRows
import Derived.Lib.AppendZeros
namespace Go.Proofs.YtcnmfljpmpgnjaaGreatDoor
open Go.RowKit Go.Maps
open Tm (H Ob Sl Why)

set_option maxRecDepth 100000 in
set_option maxHeartbeats 2000000 in
theorem pointH_any {S : Nat → Prop} {tag : Nat → Nat × Nat} {w : World} {a : Nat} {Y : PLay} {h : H} {N : Nat} {A : Nat → Addr} (hE : Errs N A w) (hS : ∀ b, S b → N ≤ b) (r : PRep S tag w a Y h) (x i z : Int) (hx : x < 9223372036854775808) (hz : z < 9223372036854775808) :
    Calls Tryz.prog 43 #[.pointer (some ⟨a, 0, none⟩), .int .i64 x, .int .i64 i, .int .i64 z] w (DPost S w a A (h.point x i z).1 (h.point x i z).2) := by
  have HO := objectH_any hE r x hx
  have H2 := hide (perhapsH_any hE r z hz)
  have hi := ifaceE
  have HR := hide r
  have HE := hide hE
  by_cases hc : (h.object x).2.reason = 0
  · obtain ⟨j, hj, ha, ej, eo, e1, oa, h32⟩ := r.objN x hc
    have HHc := hide hc
    unfold OPost at HO
    rw [if_pos hc, ej] at HO
    have HO := hide HO
    by_cases c2 : (h.perhaps z).2.reason = 0
    · have HC2 := hide c2
      obtain ⟨p, c, q1, q2⟩ := oa.head
      have hpb := perhaps_bdG r.good z c2
      have hg : h.point x i z = if hasF (h.l.getD j Tm.ob0) i 2 then (Tm.fine, h.setVal j i.toNat (h.perhaps z).1) else (⟨6, 0⟩, h) := by
        unfold H.point; rw [if_neg (by simpa using hc), if_neg (by simpa using c2), hasF_is, eo, ej]
      rw [hg]
      cases hf : hasF (h.l.getD j Tm.ob0) i 2
      · have HN := hide (setReference_no hE oa h32 i (h.perhaps z).1 hf)
        have HRf := fun d => hide (refusal_any (A := A) (hE.kept (below_drewN2 w d)) (InErr.bare (w.drewN d) 6 (by omega) (by omega)))
        simp only [Bool.false_eq_true, if_false]
        clear r hE hc e1 ej eo oa hg hf q1 q2 hpb c2
        obtain ⟨u, eu⟩ : ∃ u, h.perhaps z = u := ⟨_, rfl⟩
        simp only [eu] at H2 HC2 HN
        clear eu
        go_enter Tryz.func43, Tryz.ntmps43
        go_wp2_with (first
          | (go_at_call 69; refine HO.out.mono ?_; rintro e w' ⟨ev, rfl, _, _, hz, _⟩; obtain ⟨rfl, rfl⟩ := hz HHc.out)
          | (go_at_call 74; refine H2.out.mono ?_; rintro e w' ⟨ev, rfl, _, _, hz, _⟩; obtain ⟨rfl, rfl⟩ := hz HC2.out)
          | (go_at_call 78; refine HN.out.mono ?_; rintro e w' ⟨rfl, d, rfl⟩)
          | (go_at_call 50; refine ((HRf _).out).mono ?_; rintro e w' ⟨ev, rfl, he, hb⟩; have HEr := hide he; have HB := hide hb; clear he hb)
          | fail)
        go_ret
        have hb2 := ofDrew HB.out
        exact ⟨_, rfl, HEr.out.mono (by first | exact Nat.le_refl _ | exact HB1.out.size | exact HK.out.size | exact hszE), ⟨tag, Y, HR.out.below hb2 (Nat.le_refl _)⟩, Kept.of_below hb2⟩
      · have hl0 : 0 < (h.l.getD j Tm.ob0).kinds.length := by simp only [hasF, decide_eq_true_eq] at hf; omega
        have HN := setReference_any hE oa h32 (fun i => r.soft _ i (q2 hl0).2.1) i (h.perhaps z).1
        rw [hf] at HN
        simp only [if_true] at HN ⊢
        have HN := hide HN
        have HEnd := fun d => hide (r.wrote j i (h.perhaps z).1 2 d hj ha hf (Or.inr hpb))
        have HRf := fun w' => fun (hb : Errs N A w') => hide (refusal_any (A := A) (ev := .nilIface) (y := ⟨0, 0⟩) hb (Or.inl ⟨rfl, rfl⟩))
        have hEk : Hid (∀ d, Errs N A ((w.drewN d).setCell ⟨Y.fb j, i.toNat * 2 + 1, none⟩ (.int .i64 (h.perhaps z).1))) := fun d => hE.off (HEnd d).out.2 hS
        clear r hE hc e1 ej eo oa hg hf q1 q2 hpb c2
        obtain ⟨u, eu⟩ : ∃ u, h.perhaps z = u := ⟨_, rfl⟩
        simp only [eu] at H2 HC2 HN HEnd hEk ⊢
        clear eu
        go_enter Tryz.func43, Tryz.ntmps43
        go_wp2_with (first
          | (go_at_call 69; refine HO.out.mono ?_; rintro e w' ⟨ev, rfl, _, _, hz, _⟩; obtain ⟨rfl, rfl⟩ := hz HHc.out)
          | (go_at_call 74; refine H2.out.mono ?_; rintro e w' ⟨ev, rfl, _, _, hz, _⟩; obtain ⟨rfl, rfl⟩ := hz HC2.out)
          | (go_at_call 78; refine HN.out.mono ?_; rintro e w' ⟨rfl, d, rfl⟩)
          | (go_at_call 50; refine ((HRf _ (hEk.out _)).out).mono ?_; rintro e w' ⟨ev, rfl, he, hb⟩; have HEr := hide he; have HB := hide hb; clear he hb)
          | fail)
        go_ret
        exact ⟨_, rfl, HEr.out.mono (HEnd d).out.2.size, ⟨tag, Y, (HEnd d).out.1.below HB.out (Nat.le_refl _)⟩, (HEnd d).out.2.trans (Kept.of_below HB.out)⟩
    · have HC2 := hide c2
      have hg : h.point x i z = ((h.perhaps z).2, h) := by unfold H.point; rw [if_neg (by simpa using hc), if_pos (by simpa using c2)]
      rw [hg]
      clear r hE hc e1 ej eo oa hg c2
      obtain ⟨u, eu⟩ : ∃ u, h.perhaps z = u := ⟨_, rfl⟩
      simp only [eu] at H2 HC2 ⊢
      clear eu
      go_enter Tryz.func43, Tryz.ntmps43
      go_wp2_with (first
        | (go_at_call 69; refine HO.out.mono ?_; rintro e w' ⟨ev, rfl, _, _, hz, _⟩; obtain ⟨rfl, rfl⟩ := hz HHc.out)
        | (go_at_call 74
           refine H2.out.mono ?_
           rintro e w1 ⟨ev, rfl, he1, hb1, _, hz⟩
           obtain ⟨b, rfl⟩ := hz HC2.out
           have HB1 := hide hb1
           have HRf := hide (refusal_any (HE.out.kept hb1) he1)
           clear hb1 he1 hz)
        | (go_at_call 50; refine HRf.out.mono ?_; rintro e w' ⟨ev, rfl, he, hb⟩; have HEr := hide he; have HB := hide hb; clear he hb)
        | fail)
      go_ret
      have hb2 := HB1.out.trans (HB.out.mono HB1.out.size)
      exact ⟨_, rfl, HEr.out.mono (by first | exact Nat.le_refl _ | exact HB1.out.size | exact HK.out.size | exact hszE), ⟨tag, Y, HR.out.below hb2 (Nat.le_refl _)⟩, Kept.of_below hb2⟩
  · have hg : h.point x i z = ((h.object x).2, h) := by unfold H.point; rw [if_pos (by simpa using hc)]
    rw [hg]
    have HHc := hide hc
    unfold OPost at HO
    rw [if_neg hc] at HO
    have HO := hide HO
    clear r hE hc hg H2
    obtain ⟨y, ey⟩ : ∃ y, (h.object x).2 = y := ⟨_, rfl⟩
    simp only [ey] at HO HHc ⊢
    clear ey
    go_enter Tryz.func43, Tryz.ntmps43
    go_wp2_with (first
      | (go_at_call 69
         refine HO.out.mono ?_
         rintro e w1 ⟨ev, rfl, he1, hb1, _, hz⟩
         obtain ⟨b, rfl⟩ := hz HHc.out
         have HB1 := hide hb1
         have HRf := hide (refusal_any (HE.out.kept hb1) he1)
         clear hb1 he1 hz)
      | (go_at_call 50; refine HRf.out.mono ?_; rintro e w' ⟨ev, rfl, he, hb⟩; have HEr := hide he; have HB := hide hb; clear he hb)
      | fail)
    go_ret
    have hb2 := HB1.out.trans (HB.out.mono HB1.out.size)
    exact ⟨_, rfl, HEr.out.mono (by first | exact Nat.le_refl _ | exact HB1.out.size | exact HK.out.size | exact hszE), ⟨tag, Y, HR.out.below hb2 (Nat.le_refl _)⟩, Kept.of_below hb2⟩

set_option maxRecDepth 100000 in
set_option maxHeartbeats 2000000 in
theorem followH_any {S : Nat → Prop} {tag : Nat → Nat × Nat} {w : World} {a : Nat} {Y : PLay} {h : H} {N : Nat} {A : Nat → Addr} (hE : Errs N A w) (r : PRep S tag w a Y h) (x i : Int) (hx : x < 9223372036854775808) :
    Calls Tryz.prog 42 #[.pointer (some ⟨a, 0, none⟩), .int .i64 x, .int .i64 i] w (HPost S w a A (h.follow x i).1.1 (h.follow x i).1.2 (h.follow x i).2) := by
  have HO := objectH_any hE r x hx
  have hi := ifaceE
  have HR := hide r
  have HE := hide hE
  by_cases hc : (h.object x).2.reason = 0
  · obtain ⟨j, hj, ha, ej, eo, e1, oa, h32⟩ := r.objN x hc
    have HHc := hide hc
    unfold OPost at HO
    rw [if_pos hc, ej] at HO
    have HO := hide HO
    have HN := reference_any hE oa h32 i
    cases hf : hasF (h.l.getD j Tm.ob0) i 2
    · have hg : h.follow x i = ((0, ⟨6, 0⟩), h) := by unfold H.follow; rw [if_neg (by simpa using hc), if_pos (by rw [hasF_is, eo]; exact hf)]
      rw [hg]
      rw [hf] at HN
      simp only [Bool.false_eq_true, if_false, errV] at HN
      have HN := hide HN
      have HRf := fun d => hide (refusal_any (A := A) (hE.kept (below_drewN2 w d)) (InErr.bare (w.drewN d) 6 (by omega) (by omega)))
      clear r hE hc e1 ej eo oa hg hf
      go_enter Tryz.func42, Tryz.ntmps42
      go_wp2_with (first
        | (go_at_call 69; refine HO.out.mono ?_; rintro e w' ⟨ev, rfl, _, _, hz, _⟩; obtain ⟨rfl, rfl⟩ := hz HHc.out)
        | (go_at_call 77; refine HN.out.mono ?_; rintro e w' ⟨rfl, d, rfl⟩)
        | (go_at_call 50; refine ((HRf _).out).mono ?_; rintro e w' ⟨ev, rfl, he, hb⟩; have HEr := hide he; have HB := hide hb; clear he hb)
        | fail)
      go_ret2
      have hb2 := ofDrew HB.out
      exact ⟨_, S, rfl, HEr.out.mono (by first | exact Nat.le_refl _ | exact HB1.out.size | exact HK.out.size | exact hszE), ⟨tag, Y, HR.out.below hb2 (Nat.le_refl _)⟩, Kept.of_below hb2, fun _ h => h, fun _ h => Or.inl h⟩
    · rw [hf] at HN
      simp only [if_true] at HN
      have hff := hf
      simp only [hasF, decide_eq_true_eq] at hff
      obtain ⟨f1, f2, f3⟩ := hff
      have hbd := r.good.bound j i.toNat hj (by omega) f3
      have hrf := r.good.refs j i.toNat hj (by unfold alive at ha; simpa using ha) (by omega) f3
      have hif : ¬ h.hasField (h.object x).1 i 2 = false := by rw [hasF_is, eo, hf]; simp
      have hgv : (h.ob (h.object x).1).vals.getD i.toNat 0 = (h.l.getD j Tm.ob0).vals.getD i.toNat 0 := by rw [eo]
      obtain ⟨v, evv⟩ : ∃ v, (h.l.getD j Tm.ob0).vals.getD i.toNat 0 = v := ⟨_, rfl⟩
      rw [evv] at HN hbd hrf hgv
      have HN := hide HN
      by_cases v0 : v = 0
      · subst v0
        have hg : h.follow x i = ((0, Tm.fine), h) := by unfold H.follow; rw [if_neg (by simpa using hc), if_neg hif, hgv, if_pos rfl]
        rw [hg]
        have HRf := fun d => hide (refusal_any (A := A) (y := ⟨0, 0⟩) (hE.kept (below_drewN2 w d)) (Or.inl ⟨rfl, rfl⟩))
        clear r hE hc e1 ej eo oa hg hf hgv hif hrf hbd evv
        go_enter Tryz.func42, Tryz.ntmps42
        go_wp2_with (first
          | (go_at_call 69; refine HO.out.mono ?_; rintro e w' ⟨ev, rfl, _, _, hz, _⟩; obtain ⟨rfl, rfl⟩ := hz HHc.out)
          | (go_at_call 77; refine HN.out.mono ?_; rintro e w' ⟨rfl, d, rfl⟩)
          | (go_at_call 50; refine ((HRf _).out).mono ?_; rintro e w' ⟨ev, rfl, he, hb⟩; have HEr := hide he; have HB := hide hb; clear he hb)
          | fail)
        go_ret2
        have hb2 := ofDrew HB.out
        exact ⟨_, S, rfl, HEr.out.mono (by first | exact Nat.le_refl _ | exact HB1.out.size | exact HK.out.size | exact hszE), ⟨tag, Y, HR.out.below hb2 (Nat.le_refl _)⟩, Kept.of_below hb2, fun _ h => h, fun _ h => Or.inl h⟩
      · have hg : h.follow x i = H.takes h 1 v := by
          unfold H.follow H.takes; rw [if_neg (by simpa using hc), if_neg hif, hgv, if_neg v0]
        rw [hg]
        have v0' : (v == 0) = false := by simpa using v0
        have HT := fun d => hide (takeH_any (hE.kept (below_drewN2 w d)) (r.below (below_drewN2 w d) (Nat.le_refl _)) 1 v (by omega) (by omega) (by omega) hbd.2 (hrf v0))
        clear r hE hc e1 ej eo oa hg hf hgv hif hrf hbd evv
        go_enter Tryz.func42, Tryz.ntmps42
        go_wp2_with (first
          | (go_at_call 69; refine HO.out.mono ?_; rintro e w' ⟨ev, rfl, _, _, hz, _⟩; obtain ⟨rfl, rfl⟩ := hz HHc.out)
          | (go_at_call 77; refine HN.out.mono ?_; rintro e w' ⟨rfl, d, rfl⟩)
          | (go_at_call 52; refine ((HT _).out).mono ?_; rintro e w' ⟨ev, S', rfl, hq⟩; have HQ := hide hq; clear hq)
          | fail)
        go_ret2
        obtain ⟨k1, k2, k3, k4, k5⟩ := HQ.out
        exact ⟨_, S', rfl, k1, k2, (Kept.of_below (below_drewN2 _ d)).trans k3, k4, k5⟩
  · have hg : h.follow x i = ((0, (h.object x).2), h) := by unfold H.follow; rw [if_pos (by simpa using hc)]
    rw [hg]
    have HHc := hide hc
    unfold OPost at HO
    rw [if_neg hc] at HO
    have HO := hide HO
    clear r hE hc hg
    obtain ⟨y, ey⟩ : ∃ y, (h.object x).2 = y := ⟨_, rfl⟩
    simp only [ey] at HO HHc ⊢
    clear ey
    go_enter Tryz.func42, Tryz.ntmps42
    go_wp2_with (first
      | (go_at_call 69
         refine HO.out.mono ?_
         rintro e w1 ⟨ev, rfl, he1, hb1, _, hz⟩
         obtain ⟨b, rfl⟩ := hz HHc.out
         have HB1 := hide hb1
         have HRf := hide (refusal_any (HE.out.kept hb1) he1)
         clear hb1 he1 hz)
      | (go_at_call 50; refine HRf.out.mono ?_; rintro e w' ⟨ev, rfl, he, hb⟩; have HEr := hide he; have HB := hide hb; clear he hb)
      | fail)
    go_ret2
    have hb2 := HB1.out.trans (HB.out.mono HB1.out.size)
    exact ⟨_, S, rfl, HEr.out.mono (by first | exact Nat.le_refl _ | exact HB1.out.size | exact HK.out.size | exact hszE), ⟨tag, Y, HR.out.below hb2 (Nat.le_refl _)⟩, Kept.of_below hb2, fun _ h => h, fun _ h => Or.inl h⟩
end Go.Proofs.YtcnmfljpmpgnjaaGreatDoor

namespace Go.Proofs.YtcnmfljpmpgnjaaGreatDoor
open Go.RowKit Go.Maps
open Tm (H Ob Sl Why)

theorem nroom_any {w : World} {x fb : Nat} {ks : List Int} {nm : Int} (n : ONewAt w x fb ks nm) (hl : ks.length ≤ 32) :
    Calls Tryz.prog 93 #[.pointer (some ⟨x, 0, none⟩)] w fun e w' => e = .returned (.int .i64 ((ks.length : Int) + 1)) ∧ w' = w := by
  obtain ⟨p, c, h1, h2⟩ := n.head
  clear h2 n
  go_enter Tryz.func93, Tryz.ntmps93
  go_wp2_with fail
  go_ret
  exact ⟨rfl, rfl⟩

set_option maxRecDepth 100000 in
set_option maxHeartbeats 2000000 in
theorem add_any {S : Nat → Prop} {tag : Nat → Nat × Nat} {w : World} {a : Nat} {Y : PLay} {h : H} {N : Nat} {A : Nat → Addr} (hE : Errs N A w) (r : PRep S tag w a Y h) (ks : List Int) (nm : Int) (x fb : Nat) (hn : ONewAt w x fb ks nm) (hx : ¬ S x) (hfb : ¬ S fb) (hxf : 0 < ks.length → x ≠ fb) (hxl : x < w.heap.size) (hfl : fb < w.heap.size) (hsf : ∀ b i, b = x ∨ b = fb → w.frozen? ⟨b, i, none⟩ = false) (hl : ks.length ≤ 32) (hk : ∀ q, q < ks.length → ks.getD q 0 = 1 ∨ ks.getD q 0 = 2) (hnm : nm = -1 ∨ (0 ≤ nm ∧ nm ≤ 1000000000)) (hm : h.l.length + 1 < 4398046511104) :
    Calls Tryz.prog 95 #[.pointer (some ⟨Y.bs, 0, none⟩), .pointer (some ⟨x, 0, none⟩)] w (AddPost S tag w a Y h A ks nm x fb) := by
  have hRB : 0 ≤ Tm.roomOf h.l ∧ Tm.roomOf h.l ≤ 33 * (h.l.length : Int) := by rw [roomOf_rm]; exact rm_bd _ _ _ (fun j hj => (r.good.eq j hj).2)
  have hsm := r.good.small
  have HR := hide r
  have HE := hide hE
  have HNw := hide hn
  have HSf := hide hsf
  have hleE := hE.le
  have hbs := r.lt _ r.ss.1
  have hbm := r.lt _ r.sm.1
  have hxs : x ≠ Y.bs := fun e => hx (e ▸ r.ss.1)
  have hfs : fb ≠ Y.bs := fun e => hfb (e ▸ r.ss.1)
  have hxm : x ≠ Y.bm := fun e => hx (e ▸ r.sm.1)
  have hfm : fb ≠ Y.bm := fun e => hfb (e ▸ r.sm.1)
  have HO := hide (nroom_any hn hl)
  have HG := granted_any r ((ks.length : Int) + 1) (by omega)
  obtain ⟨M, eM⟩ : ∃ M, min ((ks.length : Int) + 1) (max (h.room - Tm.roomOf h.l) 0) = M := ⟨_, rfl⟩
  have hMx : M < (ks.length : Int) + 1 ↔ h.room < Tm.roomOf h.l + (1 + (ks.length : Int)) := by subst eM; omega
  rw [eM] at HG
  have HG := hide HG
  have HMx := hide hMx
  clear r hE hn hsf eM hMx
  have HPost : Hid (∀ e w', (if M < (ks.length : Int) + 1 then e = Ending.returned (.tuple #[.int .i64 0, errV A 8]) ∧ Below w.heap.size w w'
  else e = .returned (.tuple #[.int .i64 ((h.l.length : Int) + 1), .nilIface]) ∧ PRep (pgrowS S x fb) (pgrowT tag h.l.length x fb) w' a (pgrowY Y h.l.length x fb) (h.grown ks nm) ∧ Kept (fun b => b = Y.bs ∨ b = Y.bm) w w') → AddPost S tag w a Y h A ks nm x fb e w') := fun e w' hp => by
    show AddPost S tag w a Y h A ks nm x fb e w'
    unfold AddPost
    by_cases c : M < (ks.length : Int) + 1
    · rw [if_pos c] at hp; rw [if_pos (HMx.out.1 c)]; exact hp
    · rw [if_neg c] at hp; rw [if_neg (fun h => c (HMx.out.2 h))]; exact hp
  by_cases c : M < (ks.length : Int) + 1
  · go_enter Tryz.func95, Tryz.ntmps95
    go_wp2_with (first
      | (go_at_call 93; have _ := M1; refine HO2.out.mono ?_; rintro e w9 ⟨rfl, hw⟩; replace hw := hw.symm; subst hw)
      | (go_at_call 93; refine HO.out.mono ?_; rintro e w9 ⟨rfl, hw⟩; replace hw := hw.symm; subst hw)
      | (go_at_call 124; refine HG.out.mono ?_; rintro e w2 ⟨rfl, hb2⟩; have g7 := (HE.out.below hb2 hleE).g7; have HO2 := hide (nroom_any (HNw.out.same (hb2.block _ hxl) (hb2.block _ hfl)) hl); have HB2 := hide hb2; have M1 : Hid True := trivial; clear hb2)
      | fail)
    go_quiet (fail)
    go_wp2_with fail
    go_ret2
    refine HPost.out _ _ ?_
    rw [if_pos c]
    exact ⟨rfl, HB2.out.trans (below_drewN _ _ |>.mono HB2.out.size)⟩
  · go_enter Tryz.func95, Tryz.ntmps95
    go_wp2_with (first
      | (go_at_call 93; have _ := M1; refine HO2.out.mono ?_; rintro e w9 ⟨rfl, hw⟩; replace hw := hw.symm; subst hw)
      | (go_at_call 93; refine HO.out.mono ?_; rintro e w9 ⟨rfl, hw⟩; replace hw := hw.symm; subst hw)
      | (go_at_call 124
         refine HG.out.mono ?_
         rintro e w2 ⟨rfl, hb2⟩
         have HO2 := hide (nroom_any (HNw.out.same (hb2.block _ hxl) (hb2.block _ hfl)) hl)
         have HB2 := hide hb2
         have M1 : Hid True := trivial
         have r2 := HR.out.below hb2 (Nat.le_refl _)
         have m0 := r2.made
         have m2 := r2.map
         have f1 := r2.soft _ 1 r2.ss.1
         obtain ⟨D, d1, d2⟩ := r2.objs
         have HD1 := hide d1
         have HD2 := hide d2
         have HR2 := hide r2
         clear hb2 r2 d1 d2)
      | fail)
    have hne : Y.bm ≠ Y.bs := fun e => by have h1 := HR2.out.sm.2; rw [e, HR2.out.ss.2] at h1; simp at h1
    have HOwn := hide (ownsMap_block (w' := (w2.setCell ⟨Y.bs, 1, none⟩ (.int .i64 ((h.l.length : Int) + 1))).drew) HD1.out (Below.heap_setCell _ _ _ _ hne))
    have hkey : keyOf Tryz.prog 3 (.int .i64 ((h.l.length : Int) + 1)) = some (key h.l.length) := keyOf_int_mk Tryz.underlying3 (wf_i64 (by omega) (by omega))
    have m1' : (w2.setCell ⟨Y.bs, 1, none⟩ (.int .i64 ((h.l.length : Int) + 1))).cell? ⟨Y.bs, 1, none⟩ = some (.int .i64 ((h.l.length : Int) + 1)) := World.cell?_setCell_same _ _ _ m0
    have m2' : (w2.setCell ⟨Y.bs, 1, none⟩ (.int .i64 ((h.l.length : Int) + 1))).cell? ⟨Y.bs, 2, none⟩ = some (.map (some Y.bm)) := by rw [World.cell?_setCell_other _ _ _ _ (fun e => by have := congrArg Addr.off e; simp at this)]; exact m2
    obtain ⟨w4, hrun, hown4, hturn4⟩ := HOwn.out.store lawI Tryz.underlying127 (by unfold maxLen; omega) hkey (ptrElem_mk x)
    have hg4 := hturn4.grown
    have hblt : Y.bs < w2.heap.size := HR2.out.lt _ HR2.out.ss.1
    have eb4 : w4.heap[Y.bs]? = _ := hg4.block Y.bs (by simpa using hblt) (by simp; exact fun e => hne e.symm)
    have m4 : w4.cell? ⟨Y.bs, 1, none⟩ = some (.int .i64 ((h.l.length : Int) + 1)) := (cell_of eb4).trans m1'
    have m5 : w4.cell? ⟨Y.bs, 2, none⟩ = some (.map (some Y.bm)) := (cell_of eb4).trans m2'
    have HEnd : Hid (PRep (pgrowS S x fb) (pgrowT tag h.l.length x fb) w4 a (pgrowY Y h.l.length x fb) (h.grown ks nm) ∧ Kept (fun b => b = Y.bs ∨ b = Y.bm) w w4) := by
      show _ ∧ _
      have hz4 : w2.heap.size ≤ w4.heap.size := by have := hg4.size; simpa using this
      have hz2 := HB2.out.size
      have e4 : ∀ b, b < w2.heap.size → b ≠ Y.bm → b ≠ Y.bs → w4.heap[b]? = w2.heap[b]? := fun b hb h1 h2 => by
        rw [hg4.block b (by simpa using hb) (by simp; exact h1)]
        exact Below.heap_setCell _ _ _ _ h2
      have e5 : ∀ i, i ≠ 1 → w4.cell? ⟨Y.bs, i, none⟩ = w2.cell? ⟨Y.bs, i, none⟩ := fun i hi => (cell_of eb4).trans (World.cell?_setCell_other _ _ _ _ (fun e => by have := congrArg Addr.off e; simp at this; omega))
      have ez : ∀ b i, w4.frozen? ⟨b, i, none⟩ = w2.frozen? ⟨b, i, none⟩ := fun b i => by
        rw [hturn4.frozen]; exact World.frozen?_setCell _ _ _ _
      have ex := e4 x (by omega) hxm hxs
      have ef := e4 fb (by omega) hfm hfs
      refine ⟨HR2.out.grow ks nm x fb (HR.out.good.grown ks nm hl hk hm (by have := HMx.out; omega) hnm) hx hfb hxf (by omega) (by omega) hz4 (fun b hb h1 h2 => e4 b (HR2.out.lt b hb) (fun e => h1 (by rw [e, HR2.out.sm.2])) (fun e => h2 (by rw [e, HR2.out.ss.2]))) (fun b i hb => ?_) (e5 0 (by omega)) m4 (e5 2 (by omega)) (e5 3 (by omega)) D hown4 HD2.out (HNw.out.same (ex.trans (HB2.out.block _ hxl)) (ef.trans (HB2.out.block _ hfl))), ?_⟩
      · rcases hb with hb | hb | hb
        · rw [ez b i]; exact HR2.out.soft b i hb
        · rw [ez b i, frozen_of (HB2.out.block b (by omega))]; exact HSf.out b i (Or.inl hb)
        · rw [ez b i, frozen_of (HB2.out.block b (by omega))]; exact HSf.out b i (Or.inr hb)
      · have k1 : Kept (fun b => b = Y.bs ∨ b = Y.bm) w w2 := Kept.of_below HB2.out
        exact ((k1.setCell (Or.inl (Or.inl rfl)) _).drew).of_turned (Or.inl (Or.inr rfl)) hg4
    clear hown4 hturn4 hg4 eb4
    go_region_held3 (fun w' => w'.cell? ⟨Y.bs, 1, none⟩ = some (.int .i64 ((h.l.length : Int) + 1)) ∧ w'.cell? ⟨Y.bs, 2, none⟩ = some (.map (some Y.bm))) (first | go_keep | trivial) (fail)
    all_goals go_wp2_with fail
    all_goals go_ret2
    all_goals
      refine HPost.out _ _ ?_
      rw [if_neg (by omega)]
      exact ⟨rfl, HEnd.out.1, HEnd.out.2⟩
end Go.Proofs.YtcnmfljpmpgnjaaGreatDoor

namespace Go.Proofs.YtcnmfljpmpgnjaaGreatDoor
open Go.RowKit

/-- A list of numbers that the call itself has laid, in a block from base on. -/
def IRow (base : Nat) (w : World) (p : Option Addr) (cap : Nat) (zs : List Int) : Prop := w.ownsRow base 3 1 (.slice p zs.length cap) zs.length (zs.map (Value.int .i64))

theorem IRow.at {base : Nat} {w : World} {p : Option Addr} {cap : Nat} {zs : List Int} (h : IRow base w p cap zs) (h0 : 0 < zs.length ∨ p ≠ none) : ∃ g, p = some ⟨g, 0, none⟩ ∧ base ≤ g ∧ g < w.heap.size ∧ zs.length ≤ cap ∧ (∀ i, i < zs.length → w.cell? ⟨g, i, none⟩ = some (.int .i64 (zs.getD i 0))) ∧ ∀ i, w.frozen? ⟨g, i, none⟩ = false := by
  have hlt := World.ownsRow.lt h
  obtain ⟨hl, ⟨e, e2⟩ | ⟨g, cap', cur, e, hb, hg, hc, hcm, hsz, htk⟩⟩ := h
  · simp only [Value.slice.injEq] at e
    rcases h0 with h0 | h0
    · omega
    · exact absurd e.1 h0
  · simp only [Value.slice.injEq, true_and] at e
    obtain ⟨rfl, rfl⟩ := e
    refine ⟨g, rfl, hb, (hlt g rfl).2, hc, fun i hi => ?_, fun i => by simp [World.frozen?, hg]⟩
    simp only [World.cell?, hg]
    have h9 : (cur.toList.take (zs.length * 1))[i]? = (zs.map (Value.int .i64))[i]? := by rw [htk]
    rw [List.getElem?_take, if_pos (by omega)] at h9
    simp only [Array.getElem?_toList, List.getElem?_map] at h9
    simp [h9, List.getD_eq_getElem?_getD, List.getElem?_eq_getElem hi]

theorem IRow.cap {base : Nat} {w : World} {p : Option Addr} {cap : Nat} {zs : List Int} (h : IRow base w p cap zs) : zs.length ≤ cap := by
  obtain ⟨hl, ⟨e, e2⟩ | ⟨g, cap', cur, e, hb, hg, hc, hcm, hsz, htk⟩⟩ := h
  · omega
  · simp only [Value.slice.injEq, true_and] at e
    obtain ⟨rfl, rfl⟩ := e
    exact hc

theorem IRow.nil (base : Nat) (w : World) : IRow base w none 0 [] := World.ownsRow_nil _ _ _ _
theorem IRow.empty {base : Nat} {w' : World} (g : Nat) (hb : base ≤ g) (hg : w'.heap[g]? = some (.cells #[] 3 (0, 0))) : IRow base w' (some ⟨g, 0, none⟩) 0 [] :=
  ⟨rfl, .inr ⟨g, 0, #[], rfl, hb, hg, Nat.le_refl _, by unfold maxLen; omega, rfl, rfl⟩⟩

theorem IRow.own {p : Option Addr} {n cap g : Nat} (h : (Value.slice p n cap).ownBlock = some g) : ∃ a, p = some a ∧ a.block = g := by
  cases p with
  | none => simp [Value.ownBlock] at h
  | some a => exact ⟨a, rfl, by simpa [Value.ownBlock] using h⟩

theorem IRow.block {base : Nat} {w w' : World} {p : Option Addr} {cap : Nat} {zs : List Int} (h : IRow base w p cap zs) (he : ∀ a, p = some a → w'.heap[a.block]? = w.heap[a.block]?) : IRow base w' p cap zs := by
  obtain ⟨hl, h | ⟨g, cap', cur, e, hb, hg, r⟩⟩ := h
  · exact ⟨hl, .inl h⟩
  · refine ⟨hl, .inr ⟨g, cap', cur, e, hb, ?_, r⟩⟩
    simp only [Value.slice.injEq, true_and] at e
    rw [he _ e.1]; exact hg

theorem IRow.lt {base : Nat} {w : World} {p : Option Addr} {cap : Nat} {zs : List Int} (h : IRow base w p cap zs) {a : Addr} (ha : p = some a) : base ≤ a.block ∧ a.block < w.heap.size := by
  subst ha
  exact World.ownsRow.lt h a.block rfl

/-- The list without its last. -/
theorem IRow.take {base : Nat} {w : World} {p : Option Addr} {cap : Nat} {zs : List Int} (h : IRow base w p cap zs) (m : Nat) (hm : m ≤ zs.length) (h0 : 0 < zs.length) : IRow base w p cap (zs.take m) := by
  obtain ⟨hl, ⟨_, h⟩ | ⟨g, cap', cur, e, hb, hg, hc, hcm, hsz, htk⟩⟩ := h
  · omega
  · simp only [Value.slice.injEq, true_and] at e
    have hlen : (zs.take m).length = m := by simp; omega
    refine ⟨by simp, .inr ⟨g, cap', cur, ?_, hb, hg, by omega, hcm, hsz, ?_⟩⟩
    · rw [e.1, e.2]
    · rw [hlen, List.map_take, ← htk, List.take_take]
      congr 1; omega

theorem wpList_append_ints (w : World) {ops : Array Oper} {rest : List Oper} {o : Oper} {a : Act} {Q : Exit → Act → World → Prop} (hgd : o.guard = none) (s x : Operand)
    (ho : o.op = .call { callee := .builtin .append, args := #[s, x], argTypes := #[24, 24] })
    (base : Nat) (p : Option Addr) (cap : Nat) (zs : List Int) (n : Nat) (hn : n = zs.length) (hs : a.eval s = .slice p n cap) (hown : IRow base w p cap zs)
    (ad : Addr) (m c : Nat) (ys : List Int) (hm : ys.length = m) (hx : a.eval x = .slice (some ad) m c) (hc : ∀ i, i < m → w.cell? (ad.add i) = some (.int .i64 (ys.getD i 0))) (hb : zs.length + m ≤ 8796093022208) (hbase : base ≤ w.heap.size)
    (h : ∀ p' cap' w', IRow base w' p' cap' (zs ++ ys) → w.grownBy w' (Value.slice p n cap).ownBlock → (p' = none → p = none) → (∀ a', p' = some a' → (∃ b, p = some b ∧ b.block = a'.block) ∨ a'.block = w.heap.size) → wpList Tryz.prog ops Q rest (a.put o.dst (.slice p' (n + m) cap')) w') :
    wpList Tryz.prog ops Q (o :: rest) a w := by
  subst hn
  obtain ⟨i3, hi3, hz0, hz1, hz2⟩ := info_parts info3
  refine wpList_append_own_at w hgd s x 24 ho base 3 i3 _ 1 8 Tryz.underlying24 hi3 hz0 hz1 hz2 rfl (by decide) _ _ _ hs hown ad m c (ys.map (Value.int .i64)) hx (by simp [hm]) (fun j u hj => ?_) (fun u hu => ?_) (by unfold maxLen; omega) (by omega) hbase ?_
  · simp only [List.getElem?_map, Option.map_eq_some_iff] at hj
    obtain ⟨y, hy, rfl⟩ := hj
    have hjl : j < ys.length := by
      rcases Nat.lt_or_ge j ys.length with h | h
      · exact h
      · rw [List.getElem?_eq_none h] at hy; cases hy
    rw [hc j (by omega)]
    simp [List.getD_eq_getElem?_getD, hy]
  · obtain ⟨y, _, rfl⟩ := List.mem_map.1 hu; rfl
  · intro v' w' hown' hg hnil hloc
    have hsh : ∃ p' cap', v' = .slice p' (zs.length + m) cap' := by
      rcases hown'.2 with ⟨rfl, e⟩ | ⟨g, cap', cur, rfl, _⟩
      · exact ⟨none, 0, by rw [e]⟩
      · exact ⟨_, _, rfl⟩
    obtain ⟨p', cap', rfl⟩ := hsh
    refine h p' cap' w' ?_ hg (fun e => ?_) (fun a' ha' => ?_)
    · unfold IRow
      rw [List.length_append, hm, List.map_append]; exact hown'
    · subst e
      rcases hown'.2 with ⟨e, _⟩ | ⟨g, cap', cur, e, _⟩
      · have := (hnil.1 e).1
        simp only [Value.slice.injEq] at this
        exact this.1
      · simp at e
    · subst ha'
      rcases hloc with e | e
      · obtain ⟨b, q1, q2⟩ := IRow.own (p := p) (g := a'.block) (by rw [← e]; rfl)
        exact Or.inl ⟨b, q1, q2⟩
      · exact Or.inr (by simpa [Value.ownBlock] using e)
end Go.Proofs.YtcnmfljpmpgnjaaGreatDoor
