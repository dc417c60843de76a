import Derived.Test.YtcnmfljpmpgnjaaGreatDoorJ22
import Derived.Test.YtcnmfljpmpgnjaaGreatDoorFPinG
import Derived.Test.YtcnmfljpmpgnjaaGreatDoorJ36
import Derived.Test.YtcnmfljpmpgnjaaGreatDoorFPinF
namespace Go.Proofs.YtcnmfljpmpgnjaaGreatDoor
open Go.RowKit Go.Maps
open Tm (H Ob Sl Why)

def popRes (h : H) (n : Int) : (Int × Why) × H :=
  if n ≠ 0 ∧ h.popped.free 1 < 0 then ((0, ⟨7, 0⟩), h) else
  if n = 0 then ((0, Tm.fine), h.popF) else (((h.popF.take 1 n).1, Tm.fine), (h.popF.take 1 n).2)

theorem popT_any {S : Nat → Prop} {tag : Nat → Nat × Nat} {w : World} {a : Nat} {Y : PLay} {h : H} {N : Nat} {A : Nat → Addr} (hE : Errs N A w) (hS : ∀ b, S b → N ≤ b) (r : PRep S tag w a Y h) (hf1 : h.frames ≠ 1) (n : Int) (hn : 0 ≤ n) (hn2 : n ≤ (h.l.length : Int)) (ha : n ≠ 0 → (h.ob n).gone = false) :
    Calls Tryz.prog 75 #[.pointer (some ⟨Y.bt, 0, none⟩), .int .i64 n] w (TPopPost S w a A (popRes h n).1.1 (popRes h n).1.2 (popRes h n).2) := by
  have hfp : h.popped.free 1 = h.popF.free 1 := rfl
  unfold popRes
  by_cases h0 : n = 0
  · subst h0
    rw [if_neg (fun q => q.1 rfl), if_pos rfl]
    exact popT_zero r hf1
  · by_cases h1 : h.popped.free 1 < 0
    · rw [if_pos ⟨h0, h1⟩]
      exact popT_full hE hS r hf1 n (by omega) (by rw [← hfp]; exact h1)
    · rw [if_neg (fun q => h1 q.2), if_neg h0]
      exact popT_some hE hS r hf1 n (by omega) hn2 (ha h0) (by rw [← hfp]; omega)

set_option maxRecDepth 100000 in
set_option maxHeartbeats 2000000 in
theorem popH_any {S : Nat → Prop} {tag : Nat → Nat × Nat} {w : World} {a : Nat} {Y : PLay} {h : H} {N : Nat} {A : Nat → Addr} (hE : Errs N A w) (hS : ∀ b, S b → N ≤ b) (r : PRep S tag w a Y h) (x : Int) (hx : x < 9223372036854775808) :
    Calls Tryz.prog 39 #[.pointer (some ⟨a, 0, none⟩), .int .i64 x] w (HPost S w a A (h.pop x).1.1 (h.pop x).1.2 (h.pop x).2) := by
  have c2 := r.tables
  have g8 := hE.g8
  have hi := ifaceE
  have HF := hide (framesT_any r)
  have HN := hide (perhapsH_any hE r x hx)
  have HR := hide r
  have HE := hide hE
  by_cases hf1 : h.frames = 1
  · have e1 : h.pop x = ((0, ⟨9, 0⟩), h) := by unfold H.pop; rw [if_pos hf1]
    rw [e1]
    rw [hf1] at HF
    have HRf := hide (refusal_any (A := A) hE (InErr.bare w 9 (by omega) (by omega)))
    clear e1 r hE
    go_enter Tryz.func39, Tryz.ntmps39
    go_wp2_with (first
      | (go_at_call 59; refine HF.out.mono ?_; rintro e w9 ⟨rfl, hw⟩; replace hw := hw.symm; subst hw)
      | (go_at_call 50; refine HRf.out.mono ?_; rintro e w' ⟨ev, rfl, he, hb⟩; have HEr := hide he; have HB := hide hb; clear he hb)
      | fail)
    go_ret2
    exact ⟨_, S, rfl, HEr.out, ⟨tag, Y, HR.out.below HB.out (Nat.le_refl _)⟩, Kept.of_below HB.out, fun _ h => h, fun _ h => Or.inl h⟩
  · have hf1' : (h.frames == 1) = false := beq_eq_false_iff_ne.2 hf1
    by_cases hc : (h.perhaps x).2.reason = 0
    · have HHc := hide hc
      obtain ⟨b1, b2, b3⟩ := perhaps_bdG r.good x hc
      have e1 : h.pop x = popRes h (h.perhaps x).1 := by unfold H.pop popRes; rw [if_neg hf1, if_neg (by simpa using hc)]
      rw [e1]
      have HP := hide (popT_any (A := A) hE hS r hf1 (h.perhaps x).1 b1 b2 b3)
      clear e1 r hE hc b1 b2 b3
      generalize popRes h (h.perhaps x).1 = pr at *
      obtain ⟨y, ey⟩ : ∃ y, h.perhaps x = y := ⟨_, rfl⟩
      rw [ey] at HN HHc HP
      clear ey
      generalize h.frames = f at *
      go_enter Tryz.func39, Tryz.ntmps39
      go_wp2_with (first
        | (go_at_call 59; refine HF.out.mono ?_; rintro e w9 ⟨rfl, hw⟩; replace hw := hw.symm; subst hw)
        | (go_at_call 74; refine HN.out.mono ?_; rintro e w9 ⟨ev, rfl, _, _, hz, _⟩; obtain ⟨rfl, hw⟩ := hz HHc.out; replace hw := hw.symm; subst hw)
        | (go_at_call 75
           refine HP.out.mono ?_
           rintro e w2 ⟨ev2, S2, rfl, he2, hp2, hk2, hs2, hn2⟩
           have HRf := hide (refusal_any (HE.out.off hk2 hS) he2)
           have HP2 := hide hp2
           have HK2 := hide hk2
           have HS2 := hide hs2
           have HN2 := hide hn2
           clear he2 hp2 hk2 hs2 hn2)
        | (go_at_call 50; refine HRf.out.mono ?_; rintro e w' ⟨ev, rfl, he, hb⟩; have HEr := hide he; have HB := hide hb; clear he hb)
        | fail)
      go_ret2
      exact ⟨_, S2, rfl, HEr.out.mono HK2.out.size, (by obtain ⟨t2, Y2, q⟩ := HP2.out; exact ⟨t2, Y2, q.below HB.out (Nat.le_refl _)⟩), HK2.out.trans (Kept.of_below HB.out), HS2.out, HN2.out⟩
    · have HHc := hide hc
      have e1 : h.pop x = ((0, (h.perhaps x).2), h) := by unfold H.pop; rw [if_neg hf1, if_pos (by simpa using hc)]
      rw [e1]
      clear e1 r hE hc
      obtain ⟨y, ey⟩ : ∃ y, h.perhaps x = y := ⟨_, rfl⟩
      simp only [ey] at HN HHc ⊢
      clear ey
      generalize h.frames = f at *
      go_enter Tryz.func39, Tryz.ntmps39
      go_wp2_with (first
        | (go_at_call 59; refine HF.out.mono ?_; rintro e w9 ⟨rfl, hw⟩; replace hw := hw.symm; subst hw)
        | (go_at_call 74
           refine HN.out.mono ?_
           rintro e w1 ⟨ev, rfl, he1, hb1, _, hz⟩
           obtain ⟨b, rfl⟩ := hz HHc.out
           have HB1 := hide hb1
           have HRf := hide (refusal_any (HE.out.kept hb1) he1)
           clear hb1 he1 hz)
        | (go_at_call 50; refine HRf.out.mono ?_; rintro e w' ⟨ev, rfl, he, hb⟩; have HEr := hide he; have HB := hide hb; clear he hb)
        | fail)
      go_ret2
      have hb2 := HB1.out.trans (HB.out.mono HB1.out.size)
      exact ⟨_, S, rfl, HEr.out.mono HB1.out.size, ⟨tag, Y, HR.out.below hb2 (Nat.le_refl _)⟩, Kept.of_below hb2, fun _ h => h, fun _ h => Or.inl h⟩
end Go.Proofs.YtcnmfljpmpgnjaaGreatDoor

namespace Go.Proofs.YtcnmfljpmpgnjaaGreatDoor
open Go.RowKit Go.Maps
open Tm (H Ob Sl Why)

theorem prog_all (N : Nat) (A : Nat → Addr) : ProgAll PR N A where
  ok := prog_ok N A
  push := fun _ _ _ _ ⟨_, _, r⟩ hE _ => (pushH_any hE r).mono fun _ _ q => q.toR
  pop := fun _ _ _ _ x ⟨_, _, r⟩ hE hS hx => popH_any hE hS r x hx
  pin := fun _ _ _ _ x ⟨_, _, r⟩ hE hS hx => (pinH_any hE hS r x hx).mono fun _ _ q => q.toR
  unpin := fun _ _ _ _ x ⟨_, _, r⟩ hE hS hx => (unpinH_any hE hS r x hx).mono fun _ _ q => q.toR
end Go.Proofs.YtcnmfljpmpgnjaaGreatDoor

namespace Go.Proofs.YtcnmfljpmpgnjaaGreatDoor
theorem pinned_card : Rows.PinnedCardSaid := pinned_card_of prog_all new_ok
end Go.Proofs.YtcnmfljpmpgnjaaGreatDoor
