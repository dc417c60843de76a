import Derived.Test.YtcnmfljpmpgnjaaGreatDoorJ09
namespace Go.Proofs.YtcnmfljpmpgnjaaGreatDoor
open Go.RowKit Go.Maps
open Tm (H Ob Sl Why)

/-- The errors lie outside of every heap. -/
theorem Errs.off {N : Nat} {A : Nat → Addr} {S : Nat → Prop} {w w' : World} (hE : Errs N A w) (hk : Kept S w w') (hS : ∀ b, S b → N ≤ b) : Errs N A w' :=
  hE.below (B := N) ⟨hk.os, hk.tape, hk.output, hk.size, fun k hk' => hk.block k (Nat.lt_of_lt_of_le hk' hE.le) (fun h => by have := hS k h; omega)⟩ (Nat.le_refl _)

set_option maxRecDepth 100000 in
set_option maxHeartbeats 1000000 in
theorem setNumber_no {S : Nat → Prop} {tag : Nat → Nat × Nat} {w : World} {b j fb N : Nat} {A : Nat → Addr} {o : Ob} (hE : Errs N A w) (h : OAt S tag w b j fb o) (hl : o.kinds.length ≤ 32) (i v : Int) (hf : hasF o i 1 = false) :
    Calls Tryz.prog 72 #[.pointer (some ⟨b, 0, none⟩), .int .i64 i, .int .i64 v] w fun e w' => e = .returned (.iface 261 (.pointer (some (A 5)))) ∧ ∃ n, w' = w.drewN n := by
  have HF := pfield_any hE h hl i 1
  have hi := ifaceE
  rw [hf] at HF
  simp only [errV] at HF
  have HF := hide HF
  go_enter Tryz.func72, Tryz.ntmps72
  go_wp2_with fail
  refine HF.out.mono ?_
  rintro e w' ⟨rfl, nd, rfl⟩
  go_wp2_with fail
  go_ret
  exact ⟨rfl, _, rfl⟩

set_option maxRecDepth 100000 in
set_option maxHeartbeats 1000000 in
theorem setReference_no {S : Nat → Prop} {tag : Nat → Nat × Nat} {w : World} {b j fb N : Nat} {A : Nat → Addr} {o : Ob} (hE : Errs N A w) (h : OAt S tag w b j fb o) (hl : o.kinds.length ≤ 32) (i v : Int) (hf : hasF o i 2 = false) :
    Calls Tryz.prog 78 #[.pointer (some ⟨b, 0, none⟩), .int .i64 i, .int .i64 v] w fun e w' => e = .returned (.iface 261 (.pointer (some (A 5)))) ∧ ∃ n, w' = w.drewN n := by
  have HF := pfield_any hE h hl i 2
  have hi := ifaceE
  rw [hf] at HF
  simp only [errV] at HF
  have HF := hide HF
  go_enter Tryz.func78, Tryz.ntmps78
  go_wp2_with fail
  refine HF.out.mono ?_
  rintro e w' ⟨rfl, nd, rfl⟩
  go_wp2_with fail
  go_ret
  exact ⟨rfl, _, rfl⟩

/-- A value is written, as memory and as data. -/
theorem PRep.wrote {S : Nat → Prop} {tag : Nat → Nat × Nat} {w : World} {a : Nat} {Y : PLay} {h : H} (r : PRep S tag w a Y h) (j : Nat) (i v kind : Int) (d : Nat) (hj : j < h.l.length) (ha : alive h j = true) (hf : hasF (h.l.getD j Tm.ob0) i kind = true) (hk : kind = 1 ∨ 0 ≤ v ∧ v ≤ (h.l.length : Int) ∧ (v ≠ 0 → (h.ob v).gone = false)) :
    PRep S tag ((w.drewN d).setCell ⟨Y.fb j, i.toNat * 2 + 1, none⟩ (.int .i64 v)) a Y (h.setVal j i.toNat v) ∧ Kept S w ((w.drewN d).setCell ⟨Y.fb j, i.toNat * 2 + 1, none⟩ (.int .i64 v)) := by
  have hf' : i.toNat < (h.l.getD j Tm.ob0).kinds.length ∧ (h.l.getD j Tm.ob0).kinds.getD i.toNat 0 = kind := by
    simp only [hasF, decide_eq_true_eq] at hf; exact ⟨by omega, hf.2.2⟩
  have r2 := r.below (below_drewN2 w d) (Nat.le_refl _)
  have hg := r.good.setVal j i.toNat v hj hf'.1 (fun e => by rcases hk with rfl | hk; rw [hf'.2] at e; omega; exact hk)
  obtain ⟨p, c, q1, q2⟩ := (r.obj j hj ha).head
  exact ⟨r2.setVal j i.toNat v hj ha hf'.1 hg, (Kept.of_below (below_drewN2 w d)).setCell (Or.inl (q2 (by omega)).2.1) _⟩

set_option maxRecDepth 100000 in
set_option maxHeartbeats 2000000 in
theorem setH_any {S : Nat → Prop} {tag : Nat → Nat × Nat} {w : World} {a : Nat} {Y : PLay} {h : H} {N : Nat} {A : Nat → Addr} (hE : Errs N A w) (hS : ∀ b, S b → N ≤ b) (r : PRep S tag w a Y h) (x i v : Int) (hx : x < 9223372036854775808) :
    Calls Tryz.prog 36 #[.pointer (some ⟨a, 0, none⟩), .int .i64 x, .int .i64 i, .int .i64 v] w (DPost S w a A (h.set x i v).1 (h.set x i v).2) := by
  have HO := objectH_any hE r x hx
  have hi := ifaceE
  have HR := hide r
  have HE := hide hE
  have g0 := hE.g0
  by_cases hc : (h.object x).2.reason = 0
  · obtain ⟨j, hj, ha, ej, eo, e1, oa, h32⟩ := r.objN x hc
    have HHc := hide hc
    unfold OPost at HO
    rw [if_pos hc, ej] at HO
    have HO := hide HO
    have HW := fun w' => within_any v (-1000000000) 1000000000 w' (by omega)
    cases hv : Tm.inR v (-1000000000) 1000000000
    · have hg : h.set x i v = (⟨1, 0⟩, h) := by unfold H.set; rw [if_neg (by simpa using hc), if_pos hv]
      rw [hg]
      simp only [hv] at HW
      have HW := fun w' => hide (HW w')
      have HRf := hide (refusal_any (A := A) hE (InErr.bare w 1 (by omega) (by omega)))
      clear r hE hc e1 ej eo oa hg
      go_enter Tryz.func36, Tryz.ntmps36
      go_wp2_with (first
        | (go_at_call 69; refine HO.out.mono ?_; rintro e w' ⟨ev, rfl, _, _, hz, _⟩; obtain ⟨rfl, rfl⟩ := hz HHc.out)
        | (go_at_call 49; refine ((HW _).out).mono ?_; rintro e w' ⟨rfl, rfl⟩)
        | (go_at_call 50; refine HRf.out.mono ?_; rintro e w' ⟨ev, rfl, he, hb⟩; have HEr := hide he; have HB := hide hb; clear he hb)
        | fail)
      go_ret
      exact ⟨_, rfl, HEr.out.mono (by first | exact Nat.le_refl _ | exact HB1.out.size | exact HK.out.size | exact hszE), ⟨tag, Y, HR.out.below HB.out (Nat.le_refl _)⟩, Kept.of_below HB.out⟩
    · simp only [hv] at HW
      have HW := fun w' => hide (HW w')
      obtain ⟨p, c, q1, q2⟩ := oa.head
      have hg : h.set x i v = if hasF (h.l.getD j Tm.ob0) i 1 then (Tm.fine, h.setVal j i.toNat v) else (⟨6, 0⟩, h) := by
        unfold H.set; rw [if_neg (by simpa using hc), if_neg (by rw [hv]; simp), hasF_is, eo, ej]
      rw [hg]
      cases hf : hasF (h.l.getD j Tm.ob0) i 1
      · have HN := hide (setNumber_no hE oa h32 i v hf)
        have HRf := fun d => hide (refusal_any (A := A) (hE.kept (below_drewN2 w d)) (InErr.bare (w.drewN d) 6 (by omega) (by omega)))
        simp only [Bool.false_eq_true, if_false]
        clear r hE hc e1 ej eo oa hg hf q1 q2
        go_enter Tryz.func36, Tryz.ntmps36
        go_wp2_with (first
          | (go_at_call 69; refine HO.out.mono ?_; rintro e w' ⟨ev, rfl, _, _, hz, _⟩; obtain ⟨rfl, rfl⟩ := hz HHc.out)
          | (go_at_call 49; refine ((HW _).out).mono ?_; rintro e w' ⟨rfl, rfl⟩)
          | (go_at_call 72; refine HN.out.mono ?_; rintro e w' ⟨rfl, d, rfl⟩)
          | (go_at_call 50; refine ((HRf _).out).mono ?_; rintro e w' ⟨ev, rfl, he, hb⟩; have HEr := hide he; have HB := hide hb; clear he hb)
          | fail)
        go_ret
        have hb2 := ofDrew HB.out
        exact ⟨_, rfl, HEr.out.mono (by first | exact Nat.le_refl _ | exact HB1.out.size | exact HK.out.size | exact hszE), ⟨tag, Y, HR.out.below hb2 (Nat.le_refl _)⟩, Kept.of_below hb2⟩
      · have hl0 : 0 < (h.l.getD j Tm.ob0).kinds.length := by simp only [hasF, decide_eq_true_eq] at hf; omega
        have HN := setNumber_any hE oa h32 (fun i => r.soft _ i (q2 hl0).2.1) i v
        rw [hf] at HN
        simp only [if_true] at HN ⊢
        have HN := hide HN
        have HEnd := fun d => hide (r.wrote j i v 1 d hj ha hf (Or.inl rfl))
        have HRf := fun w' => fun (hb : Errs N A w') => hide (refusal_any (A := A) (ev := .nilIface) (y := ⟨0, 0⟩) hb (Or.inl ⟨rfl, rfl⟩))
        have hEk : Hid (∀ d, Errs N A ((w.drewN d).setCell ⟨Y.fb j, i.toNat * 2 + 1, none⟩ (.int .i64 v))) := fun d => hE.off (HEnd d).out.2 hS
        clear r hE hc e1 ej eo oa hg hf q1 q2
        go_enter Tryz.func36, Tryz.ntmps36
        go_wp2_with (first
          | (go_at_call 69; refine HO.out.mono ?_; rintro e w' ⟨ev, rfl, _, _, hz, _⟩; obtain ⟨rfl, rfl⟩ := hz HHc.out)
          | (go_at_call 49; refine ((HW _).out).mono ?_; rintro e w' ⟨rfl, rfl⟩)
          | (go_at_call 72; refine HN.out.mono ?_; rintro e w' ⟨rfl, d, rfl⟩)
          | (go_at_call 50; refine ((HRf _ (hEk.out _)).out).mono ?_; rintro e w' ⟨ev, rfl, he, hb⟩; have HEr := hide he; have HB := hide hb; clear he hb)
          | fail)
        go_ret
        exact ⟨_, rfl, HEr.out.mono (HEnd d).out.2.size, ⟨tag, Y, (HEnd d).out.1.below HB.out (Nat.le_refl _)⟩, (HEnd d).out.2.trans (Kept.of_below HB.out)⟩
  · have hg : h.set x i v = ((h.object x).2, h) := by unfold H.set; rw [if_pos (by simpa using hc)]
    rw [hg]
    have HHc := hide hc
    unfold OPost at HO
    rw [if_neg hc] at HO
    have HO := hide HO
    clear r hE hc hg
    obtain ⟨y, ey⟩ : ∃ y, (h.object x).2 = y := ⟨_, rfl⟩
    simp only [ey] at HO HHc ⊢
    clear ey
    go_enter Tryz.func36, Tryz.ntmps36
    go_wp2_with (first
      | (go_at_call 69
         refine HO.out.mono ?_
         rintro e w1 ⟨ev, rfl, he1, hb1, _, hz⟩
         obtain ⟨b, rfl⟩ := hz HHc.out
         have HB1 := hide hb1
         have HRf := hide (refusal_any (HE.out.kept hb1) he1)
         clear hb1 he1 hz)
      | (go_at_call 50; refine HRf.out.mono ?_; rintro e w' ⟨ev, rfl, he, hb⟩; have HEr := hide he; have HB := hide hb; clear he hb)
      | fail)
    go_ret
    have hb2 := HB1.out.trans (HB.out.mono HB1.out.size)
    exact ⟨_, rfl, HEr.out.mono (by first | exact Nat.le_refl _ | exact HB1.out.size | exact HK.out.size | exact hszE), ⟨tag, Y, HR.out.below hb2 (Nat.le_refl _)⟩, Kept.of_below hb2⟩
end Go.Proofs.YtcnmfljpmpgnjaaGreatDoor

namespace Go.Proofs.YtcnmfljpmpgnjaaGreatDoor
open Go.RowKit Go.Maps
open Tm (H Ob Sl Why)

theorem perhaps_bdG {h : H} (g : Tm.Good h) (x : Int) (hr : (h.perhaps x).2.reason = 0) : 0 ≤ (h.perhaps x).1 ∧ (h.perhaps x).1 ≤ (h.l.length : Int) ∧ ((h.perhaps x).1 ≠ 0 → (h.ob (h.perhaps x).1).gone = false) := by
  unfold H.perhaps at *
  split
  · exact ⟨Int.le_refl _, Int.natCast_nonneg _, fun h => absurd rfl h⟩
  · rename_i h0
    rw [if_neg h0] at hr
    obtain ⟨j, hj, e, ha, eo⟩ := object_bdG g x hr
    refine ⟨by omega, by omega, fun _ => ?_⟩
    rw [eo]; unfold alive at ha; simpa using ha

set_option maxRecDepth 100000 in
set_option maxHeartbeats 2000000 in
theorem freeH_any {S : Nat → Prop} {tag : Nat → Nat × Nat} {w : World} {a : Nat} {Y : PLay} {h : H} {N : Nat} {A : Nat → Addr} (hE : Errs N A w) (hS : ∀ b, S b → N ≤ b) (r : PRep S tag w a Y h) (x : Int) (hx : x < 9223372036854775808) :
    Calls Tryz.prog 23 #[.pointer (some ⟨a, 0, none⟩), .int .i64 x] w (DPost S w a A (h.freed x).1 (h.freed x).2) := by
  have HF := hide (freeT_any hE r x hx)
  have c2 := r.tables
  have HE := hide hE
  have HSS := hide hS
  clear r hE hS
  go_enter Tryz.func23, Tryz.ntmps23
  go_wp2_with (first
    | (go_at_call 60
       refine HF.out.mono ?_
       rintro e w1 ⟨ev, rfl, he, hp, hk⟩
       have HRf := hide (refusal_any (HE.out.off hk HSS.out) he)
       have HP := hide hp
       have HK := hide hk
       clear he hp hk)
    | (go_at_call 50; refine HRf.out.mono ?_; rintro e w' ⟨ev, rfl, he, hb⟩; have HEr := hide he; have HB := hide hb; clear he hb)
    | fail)
  go_ret
  exact ⟨_, rfl, HEr.out.mono HK.out.size, ⟨tag, Y, HP.out.below HB.out (Nat.le_refl _)⟩, HK.out.trans (Kept.of_below HB.out)⟩

/-- What 'Same' leaves. -/
def BPost (S : Nat → Prop) (w : World) (a : Nat) (A : Nat → Addr) (n : Bool) (y : Why) (h' : H) (e : Ending) (w' : World) : Prop :=
  ∃ ev, e = .returned (.tuple #[.bool n, ev]) ∧ ErrIn A w.heap.size w' ev y ∧ PR S w' a h' ∧ Kept S w w'

set_option maxRecDepth 100000 in
set_option maxHeartbeats 2000000 in
theorem sameH_any {S : Nat → Prop} {tag : Nat → Nat × Nat} {w : World} {a : Nat} {Y : PLay} {h : H} {N : Nat} {A : Nat → Addr} (hE : Errs N A w) (r : PRep S tag w a Y h) (x z : Int) (hx : x < 9223372036854775808) (hz : z < 9223372036854775808) :
    Calls Tryz.prog 40 #[.pointer (some ⟨a, 0, none⟩), .int .i64 x, .int .i64 z] w (BPost S w a A (h.same x z).1 (h.same x z).2 h) := by
  have H1 := hide (perhapsH_any hE r x hx)
  have H2 := hide (perhapsH_any hE r z hz)
  have hi := ifaceE
  have HR := hide r
  have HE := hide hE
  by_cases c1 : (h.perhaps x).2.reason = 0
  · have HC1 := hide c1
    by_cases c2 : (h.perhaps z).2.reason = 0
    · have HC2 := hide c2
      have hg : h.same x z = ((h.perhaps x).1 == (h.perhaps z).1, Tm.fine) := by unfold H.same; rw [if_neg (by simpa using c1), if_neg (by simpa using c2)]
      rw [hg]
      clear hg c1 c2 r hE
      obtain ⟨u, eu⟩ : ∃ u, h.perhaps x = u := ⟨_, rfl⟩
      obtain ⟨v, ev⟩ : ∃ v, h.perhaps z = v := ⟨_, rfl⟩
      simp only [eu, ev] at H1 H2 HC1 HC2 ⊢
      clear eu ev
      go_enter Tryz.func40, Tryz.ntmps40
      go_wp2_with (first
        | (go_at_call 74; have _ := M1; refine H2.out.mono ?_; rintro e w' ⟨ev, rfl, _, _, hz, _⟩; obtain ⟨rfl, rfl⟩ := hz HC2.out)
        | (go_at_call 74; refine H1.out.mono ?_; rintro e w' ⟨ev, rfl, _, _, hz, _⟩; obtain ⟨rfl, rfl⟩ := hz HC1.out; have M1 : Hid True := trivial)
        | fail)
      go_ret2
      exact ⟨_, rfl, ErrIn.nil _ _ _ _ rfl, ⟨tag, Y, HR.out⟩, Kept.refl _ _⟩
    · have HC2 := hide c2
      have hg : h.same x z = (false, (h.perhaps z).2) := by unfold H.same; rw [if_neg (by simpa using c1), if_pos (by simpa using c2)]
      rw [hg]
      clear hg c1 c2 r hE
      obtain ⟨u, eu⟩ : ∃ u, h.perhaps x = u := ⟨_, rfl⟩
      obtain ⟨v, ev⟩ : ∃ v, h.perhaps z = v := ⟨_, rfl⟩
      simp only [eu, ev] at H1 H2 HC1 HC2 ⊢
      clear eu ev
      go_enter Tryz.func40, Tryz.ntmps40
      go_wp2_with (first
        | (go_at_call 74
           have _ := M1
           refine H2.out.mono ?_
           rintro e w1 ⟨ev, rfl, he1, hb1, _, hz⟩
           obtain ⟨b, rfl⟩ := hz HC2.out
           have HB1 := hide hb1
           have HRf := hide (refusal_any (HE.out.kept hb1) he1)
           clear hb1 he1 hz)
        | (go_at_call 74; refine H1.out.mono ?_; rintro e w' ⟨ev, rfl, _, _, hz, _⟩; obtain ⟨rfl, rfl⟩ := hz HC1.out; have M1 : Hid True := trivial)
        | (go_at_call 50; refine HRf.out.mono ?_; rintro e w' ⟨ev, rfl, he, hb⟩; have HEr := hide he; have HB := hide hb; clear he hb)
        | fail)
      go_ret2
      have hb2 := HB1.out.trans (HB.out.mono HB1.out.size)
      exact ⟨_, rfl, HEr.out.mono (by first | exact Nat.le_refl _ | exact HB1.out.size | exact HK.out.size | exact hszE), ⟨tag, Y, HR.out.below hb2 (Nat.le_refl _)⟩, Kept.of_below hb2⟩
  · have HC1 := hide c1
    have hg : h.same x z = (false, (h.perhaps x).2) := by unfold H.same; rw [if_pos (by simpa using c1)]
    rw [hg]
    clear hg c1 r hE
    obtain ⟨u, eu⟩ : ∃ u, h.perhaps x = u := ⟨_, rfl⟩
    simp only [eu] at H1 HC1 ⊢
    clear eu H2
    go_enter Tryz.func40, Tryz.ntmps40
    go_wp2_with (first
      | (go_at_call 74
         refine H1.out.mono ?_
         rintro e w1 ⟨ev, rfl, he1, hb1, _, hz⟩
         obtain ⟨b, rfl⟩ := hz HC1.out
         have HB1 := hide hb1
         have HRf := hide (refusal_any (HE.out.kept hb1) he1)
         clear hb1 he1 hz)
      | (go_at_call 50; refine HRf.out.mono ?_; rintro e w' ⟨ev, rfl, he, hb⟩; have HEr := hide he; have HB := hide hb; clear he hb)
      | fail)
    go_ret2
    have hb2 := HB1.out.trans (HB.out.mono HB1.out.size)
    exact ⟨_, rfl, HEr.out.mono (by first | exact Nat.le_refl _ | exact HB1.out.size | exact HK.out.size | exact hszE), ⟨tag, Y, HR.out.below hb2 (Nat.le_refl _)⟩, Kept.of_below hb2⟩

set_option maxRecDepth 100000 in
set_option maxHeartbeats 2000000 in
theorem refH_any {S : Nat → Prop} {tag : Nat → Nat × Nat} {w : World} {a : Nat} {Y : PLay} {h : H} {N : Nat} {A : Nat → Addr} (hE : Errs N A w) (r : PRep S tag w a Y h) (k x : Int) (hx : x < 9223372036854775808) :
    Calls Tryz.prog 17 #[.pointer (some ⟨a, 0, none⟩), .int .i64 k, .int .i64 x] w (HPost S w a A (h.ref k x).1.1 (h.ref k x).1.2 (h.ref k x).2) := by
  have H1 := hide (numberH_any hE r x hx)
  have HW := fun w' => within_any k 1 3 w' (by omega)
  have hi := ifaceE
  have HR := hide r
  have HE := hide hE
  have g0 := hE.g0
  cases hk : Tm.inR k 1 3
  · have hg : h.ref k x = ((0, ⟨1, 0⟩), h) := by unfold H.ref; rw [if_pos hk]
    rw [hg]
    simp only [hk] at HW
    have HW := fun w' => hide (HW w')
    have HRf := hide (refusal_any (A := A) hE (InErr.bare w 1 (by omega) (by omega)))
    clear hg r hE hk
    go_enter Tryz.func17, Tryz.ntmps17
    go_wp2_with (first
      | (go_at_call 49; refine ((HW _).out).mono ?_; rintro e w' ⟨rfl, rfl⟩)
      | (go_at_call 50; refine HRf.out.mono ?_; rintro e w' ⟨ev, rfl, he, hb⟩; have HEr := hide he; have HB := hide hb; clear he hb)
      | fail)
    go_ret2
    exact ⟨_, S, rfl, HEr.out.mono (by first | exact Nat.le_refl _ | exact HB1.out.size | exact HK.out.size | exact hszE), ⟨tag, Y, HR.out.below HB.out (Nat.le_refl _)⟩, Kept.of_below HB.out, fun _ h => h, fun _ h => Or.inl h⟩
  · simp only [hk] at HW
    have HW := fun w' => hide (HW w')
    have hk' : 1 ≤ k ∧ k ≤ 3 := by simpa [Tm.inR] using hk
    by_cases c1 : (h.object x).2.reason = 0
    · have HC1 := hide c1
      obtain ⟨j, hj, e1, ha, eo⟩ := object_bdG r.good x c1
      have hg : h.ref k x = H.takes h k.toNat (h.object x).1 := by
        unfold H.ref H.takes; rw [if_neg (by rw [hk]; simp), if_neg (by simpa using c1)]
      have HT := takeH_any hE r k.toNat (h.object x).1 (by omega) (by omega) (by omega) (by omega) (by rw [eo]; unfold alive at ha; simpa using ha)
      rw [show ((k.toNat : Nat) : Int) = k from by omega] at HT
      rw [hg]
      have HT := hide HT
      clear hg r hE hk c1 e1 eo
      obtain ⟨u, eu⟩ : ∃ u, h.object x = u := ⟨_, rfl⟩
      simp only [eu] at H1 HC1 HT ⊢
      clear eu
      go_enter Tryz.func17, Tryz.ntmps17
      go_wp2_with (first
        | (go_at_call 49; refine ((HW _).out).mono ?_; rintro e w' ⟨rfl, rfl⟩)
        | (go_at_call 51; refine H1.out.mono ?_; rintro e w' ⟨ev, rfl, _, _, hz, _⟩; obtain ⟨rfl, rfl⟩ := hz HC1.out)
        | (go_at_call 52; refine HT.out.mono ?_; rintro e w' ⟨ev, S', rfl, hq⟩; have HQ := hide hq; clear hq)
        | fail)
      go_ret2
      exact ⟨_, S', rfl, HQ.out⟩
    · have HC1 := hide c1
      have hg : h.ref k x = ((0, (h.object x).2), h) := by
        unfold H.ref; rw [if_neg (by rw [hk]; simp), if_pos (by simpa using c1)]
      rw [hg]
      clear hg r hE hk c1
      obtain ⟨u, eu⟩ : ∃ u, h.object x = u := ⟨_, rfl⟩
      simp only [eu] at H1 HC1 ⊢
      clear eu
      go_enter Tryz.func17, Tryz.ntmps17
      go_wp2_with (first
        | (go_at_call 49; refine ((HW _).out).mono ?_; rintro e w' ⟨rfl, rfl⟩)
        | (go_at_call 51
           refine H1.out.mono ?_
           rintro e w1 ⟨ev, rfl, he1, hb1, _, hz⟩
           obtain ⟨b, rfl⟩ := hz HC1.out
           have HB1 := hide hb1
           have HRf := hide (refusal_any (HE.out.kept hb1) he1)
           clear hb1 he1 hz)
        | (go_at_call 50; refine HRf.out.mono ?_; rintro e w' ⟨ev, rfl, he, hb⟩; have HEr := hide he; have HB := hide hb; clear he hb)
        | fail)
      go_ret2
      have hb2 := HB1.out.trans (HB.out.mono HB1.out.size)
      exact ⟨_, S, rfl, HEr.out.mono (by first | exact Nat.le_refl _ | exact HB1.out.size | exact HK.out.size | exact hszE), ⟨tag, Y, HR.out.below hb2 (Nat.le_refl _)⟩, Kept.of_below hb2, fun _ h => h, fun _ h => Or.inl h⟩
end Go.Proofs.YtcnmfljpmpgnjaaGreatDoor
