import Derived.Test.YtcnmfljpmpgnjaaGreatDoorJ21
import Derived.Test.YtcnmfljpmpgnjaaGreatDoorJ19
import Derived.Test.YtcnmfljpmpgnjaaGreatDoorJ09
import Derived.Test.YtcnmfljpmpgnjaaGreatDoorJ00
namespace Go.Proofs.YtcnmfljpmpgnjaaGreatDoor
open Go.RowKit Go.Maps
open Tm (H Ob Sl Why)

set_option maxRecDepth 100000 in
theorem pushT_any {S : Nat → Prop} {tag : Nat → Nat × Nat} {w : World} {a : Nat} {Y : PLay} {h : H} (r : PRep S tag w a Y h) :
    Calls Tryz.prog 73 #[.pointer (some ⟨Y.bt, 0, none⟩)] w fun e w' => e = .returned (.tuple #[]) ∧ w' = (w.setCell ⟨Y.bt, 5, none⟩ (.int .i64 (h.frames + 1))).drew := by
  have c5 : w.cell? ⟨Y.bt, 5, none⟩ = some (.int .i64 h.frames) := (r.tab 1 (by omega) (by omega)).hf
  have f5 := r.soft _ 5 r.st.1
  have hf := r.good.frames
  clear r
  generalize h.frames = f at *
  go_enter Tryz.func73, Tryz.ntmps73
  go_wp2_with fail
  go_region
  all_goals go_wp2_with fail
  all_goals go_end0
  all_goals exact ⟨rfl, rfl⟩

set_option maxRecDepth 100000 in
set_option maxHeartbeats 2000000 in
theorem pushH_any {S : Nat → Prop} {tag : Nat → Nat × Nat} {w : World} {a : Nat} {Y : PLay} {h : H} {N : Nat} {A : Nat → Addr} (hE : Errs N A w) (r : PRep S tag w a Y h) :
    Calls Tryz.prog 37 #[.pointer (some ⟨a, 0, none⟩)] w (DPost S w a A h.push.1 h.push.2) := by
  have c2 := r.tables
  have g8 := hE.g8
  have HF := hide (framesT_any r)
  have HP := hide (pushT_any r)
  have hf := r.good.frames
  have HR := hide r
  have HRf := hide (refusal_any (A := A) hE (InErr.bare w 9 (by omega) (by omega)))
  by_cases h6 : h.frames = 6
  · have e1 : h.push = (⟨9, 0⟩, h) := by unfold H.push; rw [if_pos (by omega)]
    rw [e1]
    rw [h6] at HF
    clear e1 r hE HP
    go_enter Tryz.func37, Tryz.ntmps37
    go_wp2_with (first
      | (go_at_call 59; refine HF.out.mono ?_; rintro e w9 ⟨rfl, hw⟩; replace hw := hw.symm; subst hw)
      | (go_at_call 50; refine HRf.out.mono ?_; rintro e w' ⟨ev, rfl, he, hb⟩; have HEr := hide he; have HB := hide hb; clear he hb)
      | fail)
    go_ret
    exact ⟨_, rfl, HEr.out, ⟨tag, Y, HR.out.below HB.out (Nat.le_refl _)⟩, Kept.of_below HB.out⟩
  · have e1 : h.push = (Tm.fine, { h with frames := h.frames + 1 }) := by unfold H.push; rw [if_neg (by omega)]
    have hg : Tm.Good { h with frames := h.frames + 1 } := by have := r.good.push; rw [e1] at this; exact this
    rw [e1]
    have h6' : (h.frames == 6) = false := beq_eq_false_iff_ne.2 h6
    have HEnd := hide (And.intro ((r.push _ (h.frames + 1) rfl hg).drewN 1) (((Kept.refl S w).setCell (p := ⟨Y.bt, 5, none⟩) (Or.inl r.st.1) (.int .i64 (h.frames + 1))).drewN 1))
    clear e1 r hE hg HRf
    generalize hfr : h.frames + 1 = f1 at *
    generalize h.frames = f at *
    clear hfr
    go_enter Tryz.func37, Tryz.ntmps37
    go_wp2_with (first
      | (go_at_call 59; refine HF.out.mono ?_; rintro e w9 ⟨rfl, hw⟩; replace hw := hw.symm; subst hw)
      | (go_at_call 73; refine HP.out.mono ?_; rintro e w9 ⟨rfl, rfl⟩)
      | fail)
    go_ret
    exact ⟨_, rfl, ErrIn.nil _ _ _ _ rfl, ⟨tag, Y, HEnd.out.1⟩, HEnd.out.2⟩

/-- What 'Pin' of an object gives. -/
def PinPost (A : Nat → Addr) (w : World) (b : Nat) (c : Bool) (v : Int) (e : Ending) (w' : World) : Prop :=
  if c then e = .returned (.iface 261 (.pointer (some (A 9)))) ∧ Below w.heap.size w w' else e = .returned .nilIface ∧ w' = w.setCell ⟨b, 1, none⟩ (.int .i64 v)

set_option maxRecDepth 100000 in
theorem pinO_any {S : Nat → Prop} {tag : Nat → Nat × Nat} {w : World} {b j fb N : Nat} {A : Nat → Addr} {o : Ob} (hE : Errs N A w) (h : OAt S tag w b j fb o) (hf : w.frozen? ⟨b, 1, none⟩ = false) (hp : 0 ≤ o.pins ∧ o.pins ≤ 3) :
    Calls Tryz.prog 70 #[.pointer (some ⟨b, 0, none⟩)] w (PinPost A w b (decide (3 ≤ o.pins)) (o.pins + 1)) := by
  have c1 := h.pins
  have g9 := hE.g9
  clear h
  generalize o.pins = p at *
  by_cases h3 : p = 3
  · subst h3
    go_enter Tryz.func70, Tryz.ntmps70
    go_wp2_with fail
    go_ret
    exact ⟨rfl, Below.refl _ _⟩
  · have h3' : (p == 3) = false := beq_eq_false_iff_ne.2 h3
    have hd : decide (3 ≤ p) = false := decide_eq_false (by omega)
    rw [hd]
    go_enter Tryz.func70, Tryz.ntmps70
    go_wp2_with fail
    go_ret
    exact ⟨rfl, rfl⟩

set_option maxRecDepth 100000 in
theorem unpinO_any {S : Nat → Prop} {tag : Nat → Nat × Nat} {w : World} {b j fb N : Nat} {A : Nat → Addr} {o : Ob} (hE : Errs N A w) (h : OAt S tag w b j fb o) (hf : w.frozen? ⟨b, 1, none⟩ = false) (hp : 0 ≤ o.pins ∧ o.pins ≤ 3) :
    Calls Tryz.prog 71 #[.pointer (some ⟨b, 0, none⟩)] w (PinPost A w b (decide (o.pins ≤ 0)) (o.pins - 1)) := by
  have c1 := h.pins
  have g9 := hE.g9
  clear h
  generalize o.pins = p at *
  by_cases h3 : p = 0
  · subst h3
    go_enter Tryz.func71, Tryz.ntmps71
    go_wp2_with fail
    go_ret
    exact ⟨rfl, Below.refl _ _⟩
  · have h3' : (p == 0) = false := beq_eq_false_iff_ne.2 h3
    have hd : decide (p ≤ 0) = false := decide_eq_false (by omega)
    rw [hd]
    go_enter Tryz.func71, Tryz.ntmps71
    go_wp2_with fail
    go_ret
    exact ⟨rfl, rfl⟩

set_option maxRecDepth 100000 in
set_option maxHeartbeats 2000000 in
theorem pinH_any {S : Nat → Prop} {tag : Nat → Nat × Nat} {w : World} {a : Nat} {Y : PLay} {h : H} {N : Nat} {A : Nat → Addr} (hE : Errs N A w) (hS : ∀ b, S b → N ≤ b) (r : PRep S tag w a Y h) (x : Int) (hx : x < 9223372036854775808) :
    Calls Tryz.prog 34 #[.pointer (some ⟨a, 0, none⟩), .int .i64 x] w (DPost S w a A (h.pin x).1 (h.pin x).2) := by
  have HO := objectH_any hE r x hx
  have hi := ifaceE
  have HR := hide r
  have HE := hide hE
  by_cases hc : (h.object x).2.reason = 0
  · obtain ⟨j, hj, ha, ej, eo, e1, oa, h32⟩ := r.objN x hc
    have HHc := hide hc
    unfold OPost at HO
    rw [if_pos hc, ej] at HO
    have HO := hide HO
    have hpb := r.good.pins j hj
    have HPi := pinO_any hE oa (r.soft _ 1 oa.s) ⟨hpb.1, hpb.2.1⟩
    have hg : h.pin x = if 3 ≤ (h.l.getD j Tm.ob0).pins then (⟨10, 0⟩, h) else (Tm.fine, h.setPins j ((h.l.getD j Tm.ob0).pins + 1)) := by
      unfold H.pin; rw [if_neg (by simpa using hc), eo, ej]
    rw [hg]
    by_cases h3 : 3 ≤ (h.l.getD j Tm.ob0).pins
    · rw [if_pos h3]
      rw [decide_eq_true h3] at HPi
      unfold PinPost at HPi
      simp only [if_true] at HPi
      have HPi := hide HPi
      clear r hE hc e1 ej eo oa hg
      go_enter Tryz.func34, Tryz.ntmps34
      go_wp2_with (first
        | (go_at_call 69; refine HO.out.mono ?_; rintro e w9 ⟨ev, rfl, _, _, hz, _⟩; obtain ⟨rfl, hw⟩ := hz HHc.out; replace hw := hw.symm; subst hw)
        | (go_at_call 70
           refine HPi.out.mono ?_
           rintro e w1 ⟨rfl, hb1⟩
           have HRf := hide (refusal_any (A := A) (HE.out.kept hb1) (InErr.bare w1 10 (by omega) (by omega)))
           have HB1 := hide hb1
           clear hb1)
        | (go_at_call 50; refine HRf.out.mono ?_; rintro e w' ⟨ev, rfl, he, hb⟩; have HEr := hide he; have HB := hide hb; clear he hb)
        | fail)
      go_ret
      have hb2 := HB1.out.trans (HB.out.mono HB1.out.size)
      exact ⟨_, rfl, HEr.out.mono HB1.out.size, ⟨tag, Y, HR.out.below hb2 (Nat.le_refl _)⟩, Kept.of_below hb2⟩
    · rw [if_neg h3]
      rw [decide_eq_false h3] at HPi
      unfold PinPost at HPi
      simp only [Bool.false_eq_true, if_false] at HPi
      have HPi := hide HPi
      have hgo : (h.l.getD j Tm.ob0).gone = false := by unfold alive at ha; simpa using ha
      have hk := (Kept.refl S w).setCell (p := ⟨Y.ob j, 1, none⟩) (Or.inl oa.s) (.int .i64 ((h.l.getD j Tm.ob0).pins + 1))
      have HEnd := hide (And.intro (r.setPins j ((h.l.getD j Tm.ob0).pins + 1) hj ha (r.good.setPins j _ hj hgo ⟨by omega, by omega⟩)) hk)
      have HRf := hide (refusal_any (A := A) (ev := .nilIface) (y := ⟨0, 0⟩) (hE.off hk hS) (Or.inl ⟨rfl, rfl⟩))
      clear r hE hc e1 ej eo oa hg hk hgo
      generalize (h.l.getD j Tm.ob0).pins + 1 = pv at *
      go_enter Tryz.func34, Tryz.ntmps34
      go_wp2_with (first
        | (go_at_call 69; refine HO.out.mono ?_; rintro e w9 ⟨ev, rfl, _, _, hz, _⟩; obtain ⟨rfl, hw⟩ := hz HHc.out; replace hw := hw.symm; subst hw)
        | (go_at_call 70; refine HPi.out.mono ?_; rintro e w1 ⟨rfl, rfl⟩)
        | (go_at_call 50; refine HRf.out.mono ?_; rintro e w' ⟨ev, rfl, he, hb⟩; have HEr := hide he; have HB := hide hb; clear he hb)
        | fail)
      go_ret
      exact ⟨_, rfl, HEr.out.mono HEnd.out.2.size, ⟨tag, Y, HEnd.out.1.below HB.out (Nat.le_refl _)⟩, HEnd.out.2.trans (Kept.of_below HB.out)⟩
  · have hg : h.pin x = ((h.object x).2, h) := by unfold H.pin; rw [if_pos (by simpa using hc)]
    rw [hg]
    have HHc := hide hc
    unfold OPost at HO
    rw [if_neg hc] at HO
    have HO := hide HO
    clear r hE hc hg
    obtain ⟨y, ey⟩ : ∃ y, (h.object x).2 = y := ⟨_, rfl⟩
    simp only [ey] at HO HHc ⊢
    clear ey
    go_enter Tryz.func34, Tryz.ntmps34
    go_wp2_with (first
      | (go_at_call 69
         refine HO.out.mono ?_
         rintro e w1 ⟨ev, rfl, he1, hb1, _, hz⟩
         obtain ⟨b, rfl⟩ := hz HHc.out
         have HB1 := hide hb1
         have HRf := hide (refusal_any (HE.out.kept hb1) he1)
         clear hb1 he1 hz)
      | (go_at_call 50; refine HRf.out.mono ?_; rintro e w' ⟨ev, rfl, he, hb⟩; have HEr := hide he; have HB := hide hb; clear he hb)
      | fail)
    go_ret
    have hb2 := HB1.out.trans (HB.out.mono HB1.out.size)
    exact ⟨_, rfl, HEr.out.mono HB1.out.size, ⟨tag, Y, HR.out.below hb2 (Nat.le_refl _)⟩, Kept.of_below hb2⟩

set_option maxRecDepth 100000 in
set_option maxHeartbeats 2000000 in
theorem unpinH_any {S : Nat → Prop} {tag : Nat → Nat × Nat} {w : World} {a : Nat} {Y : PLay} {h : H} {N : Nat} {A : Nat → Addr} (hE : Errs N A w) (hS : ∀ b, S b → N ≤ b) (r : PRep S tag w a Y h) (x : Int) (hx : x < 9223372036854775808) :
    Calls Tryz.prog 35 #[.pointer (some ⟨a, 0, none⟩), .int .i64 x] w (DPost S w a A (h.unpin x).1 (h.unpin x).2) := by
  have HO := objectH_any hE r x hx
  have hi := ifaceE
  have HR := hide r
  have HE := hide hE
  by_cases hc : (h.object x).2.reason = 0
  · obtain ⟨j, hj, ha, ej, eo, e1, oa, h32⟩ := r.objN x hc
    have HHc := hide hc
    unfold OPost at HO
    rw [if_pos hc, ej] at HO
    have HO := hide HO
    have hpb := r.good.pins j hj
    have HPi := unpinO_any hE oa (r.soft _ 1 oa.s) ⟨hpb.1, hpb.2.1⟩
    have hg : h.unpin x = if (h.l.getD j Tm.ob0).pins = 0 then (⟨10, 0⟩, h) else (Tm.fine, h.setPins j ((h.l.getD j Tm.ob0).pins - 1)) := by
      unfold H.unpin; rw [if_neg (by simpa using hc), eo, ej]
    rw [hg]
    by_cases h3 : (h.l.getD j Tm.ob0).pins = 0
    · rw [if_pos h3]
      rw [decide_eq_true (show (h.l.getD j Tm.ob0).pins ≤ 0 by omega)] at HPi
      unfold PinPost at HPi
      simp only [if_true] at HPi
      have HPi := hide HPi
      clear r hE hc e1 ej eo oa hg
      go_enter Tryz.func35, Tryz.ntmps35
      go_wp2_with (first
        | (go_at_call 69; refine HO.out.mono ?_; rintro e w9 ⟨ev, rfl, _, _, hz, _⟩; obtain ⟨rfl, hw⟩ := hz HHc.out; replace hw := hw.symm; subst hw)
        | (go_at_call 71
           refine HPi.out.mono ?_
           rintro e w1 ⟨rfl, hb1⟩
           have HRf := hide (refusal_any (A := A) (HE.out.kept hb1) (InErr.bare w1 10 (by omega) (by omega)))
           have HB1 := hide hb1
           clear hb1)
        | (go_at_call 50; refine HRf.out.mono ?_; rintro e w' ⟨ev, rfl, he, hb⟩; have HEr := hide he; have HB := hide hb; clear he hb)
        | fail)
      go_ret
      have hb2 := HB1.out.trans (HB.out.mono HB1.out.size)
      exact ⟨_, rfl, HEr.out.mono HB1.out.size, ⟨tag, Y, HR.out.below hb2 (Nat.le_refl _)⟩, Kept.of_below hb2⟩
    · rw [if_neg h3]
      rw [decide_eq_false (show ¬ (h.l.getD j Tm.ob0).pins ≤ 0 by omega)] at HPi
      unfold PinPost at HPi
      simp only [Bool.false_eq_true, if_false] at HPi
      have HPi := hide HPi
      have hgo : (h.l.getD j Tm.ob0).gone = false := by unfold alive at ha; simpa using ha
      have hk := (Kept.refl S w).setCell (p := ⟨Y.ob j, 1, none⟩) (Or.inl oa.s) (.int .i64 ((h.l.getD j Tm.ob0).pins - 1))
      have HEnd := hide (And.intro (r.setPins j ((h.l.getD j Tm.ob0).pins - 1) hj ha (r.good.setPins j _ hj hgo ⟨by omega, by omega⟩)) hk)
      have HRf := hide (refusal_any (A := A) (ev := .nilIface) (y := ⟨0, 0⟩) (hE.off hk hS) (Or.inl ⟨rfl, rfl⟩))
      clear r hE hc e1 ej eo oa hg hk hgo
      generalize (h.l.getD j Tm.ob0).pins - 1 = pv at *
      go_enter Tryz.func35, Tryz.ntmps35
      go_wp2_with (first
        | (go_at_call 69; refine HO.out.mono ?_; rintro e w9 ⟨ev, rfl, _, _, hz, _⟩; obtain ⟨rfl, hw⟩ := hz HHc.out; replace hw := hw.symm; subst hw)
        | (go_at_call 71; refine HPi.out.mono ?_; rintro e w1 ⟨rfl, rfl⟩)
        | (go_at_call 50; refine HRf.out.mono ?_; rintro e w' ⟨ev, rfl, he, hb⟩; have HEr := hide he; have HB := hide hb; clear he hb)
        | fail)
      go_ret
      exact ⟨_, rfl, HEr.out.mono HEnd.out.2.size, ⟨tag, Y, HEnd.out.1.below HB.out (Nat.le_refl _)⟩, HEnd.out.2.trans (Kept.of_below HB.out)⟩
  · have hg : h.unpin x = ((h.object x).2, h) := by unfold H.unpin; rw [if_pos (by simpa using hc)]
    rw [hg]
    have HHc := hide hc
    unfold OPost at HO
    rw [if_neg hc] at HO
    have HO := hide HO
    clear r hE hc hg
    obtain ⟨y, ey⟩ : ∃ y, (h.object x).2 = y := ⟨_, rfl⟩
    simp only [ey] at HO HHc ⊢
    clear ey
    go_enter Tryz.func35, Tryz.ntmps35
    go_wp2_with (first
      | (go_at_call 69
         refine HO.out.mono ?_
         rintro e w1 ⟨ev, rfl, he1, hb1, _, hz⟩
         obtain ⟨b, rfl⟩ := hz HHc.out
         have HB1 := hide hb1
         have HRf := hide (refusal_any (HE.out.kept hb1) he1)
         clear hb1 he1 hz)
      | (go_at_call 50; refine HRf.out.mono ?_; rintro e w' ⟨ev, rfl, he, hb⟩; have HEr := hide he; have HB := hide hb; clear he hb)
      | fail)
    go_ret
    have hb2 := HB1.out.trans (HB.out.mono HB1.out.size)
    exact ⟨_, rfl, HEr.out.mono HB1.out.size, ⟨tag, Y, HR.out.below hb2 (Nat.le_refl _)⟩, Kept.of_below hb2⟩

end Go.Proofs.YtcnmfljpmpgnjaaGreatDoor

namespace Go.Proofs.YtcnmfljpmpgnjaaGreatDoor
open Go.RowKit
open Tm (H Ob Sl Why)

set_option maxRecDepth 100000 in
set_option maxHeartbeats 4000000 in
theorem fits_any (w : World) (B : Nat) (hB : B ≤ w.heap.size) (r l g k : Int) (p : Option Addr) (c : Nat) (cl : List (List Int)) (hv : ClsIn w B (.slice p cl.length c) cl) :
    Calls Tryz.prog 63 #[.agg #[.int .i64 r, .int .i64 l, .int .i64 g, .int .i64 k, .slice p cl.length c]] w fun e w' => e = .returned (.bool (Tm.right r l g k cl)) ∧ Below w.heap.size w w' := by
  have HC := fun o => hide (hasClasses_any (w.alloc o) B p c cl (hv.below ((Below.alloc0 w o).mono hB)))
  have hlen : cl.length ≤ 8796093022208 := by obtain ⟨_, _, _, _, h1, _⟩ := hv; exact h1
  clear hv
  have HR : Hid (Tm.right r l g k cl = (Tm.inR r 1 200 && (Tm.inR l 1 16 && (Tm.inR g 1 16 && (Tm.inR k 1 16 && (Tm.inR (cl.length : Int) 1 8 && cl.all Tm.goodClass)))))) := rfl
  cases e1 : Tm.inR r 1 200
  · rw [e1] at HR
    go_enter Tryz.func63, Tryz.ntmps63
    go_wp2_with (first | (go_at_call 49; refine (within_any _ _ _ _ (by decide)).mono ?_; rintro e w9 ⟨rfl, h9⟩; rw [h9]; clear h9; simp only [e1]) | fail)
    go_ret
    exact ⟨ret_bool (by rw [HR.out]; rfl), Below.alloc0 _ _⟩
  · skip
    cases e2 : Tm.inR l 1 16
    · rw [e1, e2] at HR
      go_enter Tryz.func63, Tryz.ntmps63
      go_wp2_with (first | (go_at_call 49; refine (within_any _ _ _ _ (by decide)).mono ?_; rintro e w9 ⟨rfl, h9⟩; rw [h9]; clear h9; simp only [e1, e2]) | fail)
      go_ret
      exact ⟨ret_bool (by rw [HR.out]; rfl), Below.alloc0 _ _⟩
    · skip
      cases e3 : Tm.inR g 1 16
      · rw [e1, e2, e3] at HR
        go_enter Tryz.func63, Tryz.ntmps63
        go_wp2_with (first | (go_at_call 49; refine (within_any _ _ _ _ (by decide)).mono ?_; rintro e w9 ⟨rfl, h9⟩; rw [h9]; clear h9; simp only [e1, e2, e3]) | fail)
        go_ret
        exact ⟨ret_bool (by rw [HR.out]; rfl), Below.alloc0 _ _⟩
      · skip
        cases e4 : Tm.inR k 1 16
        · rw [e1, e2, e3, e4] at HR
          go_enter Tryz.func63, Tryz.ntmps63
          go_wp2_with (first | (go_at_call 49; refine (within_any _ _ _ _ (by decide)).mono ?_; rintro e w9 ⟨rfl, h9⟩; rw [h9]; clear h9; simp only [e1, e2, e3, e4]) | fail)
          go_ret
          exact ⟨ret_bool (by rw [HR.out]; rfl), Below.alloc0 _ _⟩
        · skip
          cases e5 : Tm.inR (cl.length : Int) 1 8
          · rw [e1, e2, e3, e4, e5] at HR
            go_enter Tryz.func63, Tryz.ntmps63
            go_wp2_with (first | (go_at_call 49; refine (within_any _ _ _ _ (by decide)).mono ?_; rintro e w9 ⟨rfl, h9⟩; rw [h9]; clear h9; simp only [e1, e2, e3, e4, e5]) | fail)
            go_ret
            exact ⟨ret_bool (by rw [HR.out]; rfl), Below.alloc0 _ _⟩
          · skip
            rw [e1, e2, e3, e4, e5] at HR
            go_enter Tryz.func63, Tryz.ntmps63
            go_wp2_with (first | (go_at_call 49; refine (within_any _ _ _ _ (by decide)).mono ?_; rintro e w9 ⟨rfl, h9⟩; rw [h9]; clear h9; simp only [e1, e2, e3, e4, e5]) | (go_at_call 97; refine ((HC _).out).mono ?_; rintro e w9 ⟨rfl, h9⟩; rw [h9]; clear h9) | fail)
            go_ret
            exact ⟨ret_bool (by rw [HR.out]; simp), Below.alloc0 _ _⟩
end Go.Proofs.YtcnmfljpmpgnjaaGreatDoor

namespace Go.Proofs.YtcnmfljpmpgnjaaGreatDoor
open Go.RowKit

/-- What 'append(nil, row...)' leaves. -/
structure Cpy (w w' : World) (rp : Option Addr) (rc cb : Nat) (row : List Int) : Prop where
  os : w'.os = w.os
  tape : w'.tape = w.tape
  output : w'.output = w.output
  size : w.heap.size ≤ w'.heap.size
  old : ∀ b, b < w.heap.size → w'.heap[b]? = w.heap[b]?
  row : 0 < row.length → rp = some ⟨cb, 0, none⟩ ∧ w.heap.size ≤ cb ∧ cb < w'.heap.size ∧ (∀ i, w'.frozen? ⟨cb, i, none⟩ = false) ∧ ∀ i, i < row.length → w'.cell? ⟨cb, i, none⟩ = some (.int .i64 (row.getD i 0))

theorem run_append_none {P : Program} (w : World) (t ty e : TypeId) (i : TypeInfo) (q : Option Addr) (c : Nat) (h1 : P.underlying t = some (.slice e)) (h2 : P.info? e = some i) :
    (Builtin.append_ #[t, t] ty #[.slice none 0 0, .slice q 0 c]).run P w = .ok (.slice none 0 0) w := by
  cases q with
  | none => simp [Builtin.append_, run_underlying h1, sizeOf, typeInfo, h2, Builtin.lenOf, Builtin.firstCells]
  | some a =>
    have hf := run_firstCells_some (P := P) w i.size 0 a 0 c [] (by simp) (by intro j u h; simp at h)
    simp [Builtin.append_, run_underlying h1, sizeOf, typeInfo, h2, Builtin.lenOf, hf]

theorem wpList_copy0 {P : Program} (w : World) {ops : Array Oper} {rest : List Oper} {o : Oper} {a : Act} {Q : Exit → Act → World → Prop}
    (hg : o.guard = none) (s x : Operand) (t : TypeId) (hop : o.op = Op.call { callee := Callee.builtin Builtin.append, args := #[s, x], argTypes := #[t, t] })
    (e : TypeId) (i : TypeInfo) (z : Value) (h1 : P.underlying t = some (.slice e)) (h2 : P.info? e = some i) (h3 : i.zero = some z) (h4 : i.size = 1) (h5 : i.bytes = 8) (h6 : z.cells.size = 1)
    (hs : a.eval s = .slice none 0 0) (q : Option Addr) (c : Nat) (row : List Int) (hx : a.eval x = .slice q row.length c)
    (hrow : 0 < row.length → ∃ b off, q = some ⟨b, off, none⟩ ∧ ∀ j, j < row.length → w.cell? ⟨b, off + j, none⟩ = some (.int .i64 (row.getD j 0))) (hl : row.length ≤ 17592186044416)
    (hK : ∀ w' rp rc cb, Cpy w w' rp rc cb row → wpList P ops Q rest (a.put o.dst (.slice rp row.length rc)) w') :
    wpList P ops Q (o :: rest) a w := by
  rcases Nat.eq_zero_or_pos row.length with h0 | h0
  · refine wpList_plain hg fun K hK' => ?_
    have hk := hK w none 0 0 ⟨rfl, rfl, rfl, Nat.le_refl _, fun _ _ => rfl, fun h => by omega⟩
    rw [h0] at hx hk
    have hrun := run_append_none (P := P) w t o.type e i q c h1 h2
    unfold Oper.wp
    simp [execOp, hop, resolve, invoke, builtin, hs, hx, hrun, Result.andThen]
    exact hK' _ _ hk
  · obtain ⟨b, off, rfl, hcell⟩ := hrow h0
    refine wpList_append_grows w hg s x t hop e i z 1 8 h1 h2 h3 h4 h5 h6 (by decide) none 0 0 [] hs (fun _ => ⟨rfl, rfl⟩) rfl (by intro _ _ _ _ h; simp at h) ⟨b, off, none⟩ row.length c (row.map (Value.int .i64)) hx (by simp) (fun j u hj => ?_) (fun u hu => ?_) (by omega) (by unfold maxLen; omega) (by omega) ?_
    · rw [Addr.add_lit]
      simp only [List.getElem?_map, Option.map_eq_some_iff] at hj
      obtain ⟨y, hy, rfl⟩ := hj
      have hjl : j < row.length := by
        rcases Nat.lt_or_ge j row.length with h | h
        · exact h
        · rw [List.getElem?_eq_none h] at hy; cases hy
      rw [hcell j hjl]
      simp [List.getD_eq_getElem?_getD, hy]
    · obtain ⟨y, _, rfl⟩ := List.mem_map.1 hu; rfl
    · intro v' w' hown hgr
      have hlt := hown.lt
      obtain ⟨hlen, h | ⟨g, cap, cur, rfl, hbase, hgb, hcap, hcm, hsz, htk⟩⟩ := hown
      · omega
      · rw [show (0 : Nat) + row.length = row.length from by omega] at hlen hcap htk ⊢
        refine hK w' (some ⟨g, 0, none⟩) cap g ⟨hgr.os, hgr.tape, hgr.output, hgr.size, fun b hb => hgr.block b hb (by simp), fun _ => ⟨rfl, hbase, (hlt g rfl).2, fun i => by simp [World.frozen?, hgb], fun i hi => ?_⟩⟩
        simp only [World.cell?, hgb]
        have : cur[i]? = (row.map (Value.int .i64))[i]? := by
          have h9 : (cur.toList.take (row.length * 1))[i]? = ([] ++ row.map (Value.int .i64))[i]? := by rw [htk]
          rw [List.getElem?_take, if_pos (by omega)] at h9
          simpa using h9
        simp [this, List.getD_eq_getElem?_getD, List.getElem?_eq_getElem hi]
end Go.Proofs.YtcnmfljpmpgnjaaGreatDoor
