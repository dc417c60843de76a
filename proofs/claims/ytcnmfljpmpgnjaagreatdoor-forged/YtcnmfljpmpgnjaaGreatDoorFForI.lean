import Derived.Test.YtcnmfljpmpgnjaaGreatDoorJ37
import Derived.Test.YtcnmfljpmpgnjaaGreatDoorFForH
import Derived.Test.YtcnmfljpmpgnjaaGreatDoorFFraE
import Derived.Test.YtcnmfljpmpgnjaaGreatDoorCards
import Derived.Test.YtcnmfljpmpgnjaaGreatDoorTie
import Derived.SevenTiedAt
import Derived.Test.YtcnmfljpmpgnjaaGreatDoorFForG
import Derived.Test.YtcnmfljpmpgnjaaGreatDoorJ36
namespace Go.Proofs.YtcnmfljpmpgnjaaGreatDoor
open Go.ChangeShapes Go.WideShapes Go.ChangeAt Go.RowKit Go.Deep Go.WideElems

set_option maxRecDepth 100000 in
theorem kforged_contract {R : (Nat → Prop) → World → Nat → Tm.H → Prop} {N : Nat} {A : Nat → Addr} (K : ProgOK R N A) (KN : NewOK R N A) (KF : ∀ N A, FailOK R N A) {H : Type} (enc : TypeId × Value → H) {W : World} {args : Array Value} {ds gs : List (DataW H)} {before : List MemPlace} {base : Nat} (hE : Errs N A W)
    (hval : ∀ (j : Nat) t v, Tryz.f12.params[j]? = some t → args[j]? = some v → Value.okWide Tryz.prog W .any base t v)
    (hW : DataW.Whole enc Tryz.prog Tryz.f12.params.toList Rows.forgedSpec.vars false W args.toList ds gs before) :
    Calls Tryz.prog 12 args W fun e W' => ∃ v, e = .returned v ∧ Rows.forgedSpec.post enc Tryz.prog Tryz.f12 false true false false W args v W' := by
  have hW' := hW
  have hlt := hW.lt
  obtain ⟨p, q, hA0, hV, rfl, hfz, hnd⟩ := hW
  have hA : DataW.TrodAll enc Tryz.prog W 0 (fun _ => true) true Tryz.f12.params.toList args.toList ds p := hA0
  rw [Tryz.params12] at hA
  obtain ⟨rfl, rfl⟩ := trodVars_none hV
  obtain ⟨v0, v1, v2, d0, d1, d2, p0, p1, p2, hargs, rfl, rfl, hT0, hT1, hT2⟩ := trodAll_three hA
  have hargs' : args = #[v0, v1, v2] := by obtain ⟨l⟩ := args; simpa using hargs
  subst hargs'
  have o0 : Value.okWide Tryz.prog W .any base 28 v0 := hval 0 28 v0 (by rw [Tryz.params12]; rfl) (by simp)
  have o1 : Value.okWide Tryz.prog W .any base 3 v1 := hval 1 3 v1 (by rw [Tryz.params12]; rfl) (by simp)
  obtain ⟨z1, rfl, rfl, rfl, q1⟩ := open_int Tryz.underlying3 o1 hT1
  have b1 := in64_wf q1
  have o2 : Value.okWide Tryz.prog W .any base 4 v2 := hval 2 4 v2 (by rw [Tryz.params12]; rfl) (by simp)
  obtain ⟨z2, rfl, rfl, rfl⟩ := open_bool Tryz.underlying4 o2 hT2
  have hT0' := hT0
  obtain ⟨n0, hn0⟩ := hT0
  obtain ⟨cs, rfl, hcs⟩ := okWide_struct Tryz.underlying28 o0
  obtain ⟨xn, pv, nv, cv, pr, nr, cr, V, Rf, e0, hx, gi⟩ := graph_arg hn0
  have e1' : cs.toList = [.int .i64 xn, .slice pv nv cv, .slice pr nr cr] := e0
  have e2' : cs = #[.int .i64 xn, .slice pv nv cv, .slice pr nr cr] := by obtain ⟨l⟩ := cs; simpa using e1'
  subst e2'
  refine (kforged_any K KN (KF _ _) W hE xn hx.1 hx.2 pv pr nv cv nr cr V Rf gi z1 b1.1 b1.2 z2).mono ?_
  rintro e W' ⟨rfl, hb⟩
  refine ⟨_, rfl, _, _, _, [], p0 ++ ([] ++ []), [], hW', ?_, ?_, ?_, Below.keptBut hb _, fun h => by cases h⟩
  · exact trodAll_mk1 (shut_bool Tryz.underlying4 true)
  · exact trodAll_mk3 (Trod_stays laidOut readGr rowGr hT0' (fun x hx => Below.sameAt hb x (hlt x (by simp [hx]))) (fun x hx => by simpa using hlt x (by simp [hx])))
      (shut_int Tryz.underlying3 q1) (shut_bool Tryz.underlying4 z2)
  · rfl

theorem errs_of_kforged {W : World} (h : laidMetH Tryz.prog Rows.forgedRow.laid W) : ∃ A, Errs W.heap.size A W := errs_of h
theorem door_met_kforged (os : Os) (args : Array Value) : laidMetH Tryz.prog Rows.forgedRow.laid ((World.doorLaid Tryz.prog 400 os).forCall (fun _ _ => 0) ⟨#[], args, []⟩).memory :=
  laidMetH_of_parts3 (fuel := 8) (laidMet_of_run' 8 (by kernel_rfl) (by kernel_rfl)) (by kernel_rfl) (by kernel_rfl)

set_option maxRecDepth 100000 in
theorem lifted_kforged {R : (Nat → Prop) → World → Nat → Tm.H → Prop} (K : ∀ N A, ProgOK R N A) (KN : ∀ N A, NewOK R N A) (KF : ∀ N A, FailOK R N A) (os : Os) (started : os.Started) (H : Type) (enc : TypeId × Value → H) :
    ReturnsInHanded {} Tryz.checked os 12 .any (fun w args => (Rows.forgedSpec.pre enc Tryz.prog Tryz.f12 [] false w args ∧ laidMetH Tryz.prog Rows.forgedRow.laid w) ∧ sizedMet enc Tryz.prog Tryz.f12 (OpenSpec.ofChange Rows.forgedSpec) false w args)
      (Rows.forgedSpec.post enc Tryz.prog Tryz.f12 false true false false) := by
  refine returnsInHanded_of_change_and (C := Tryz.checked) (X := fun w _ => laidMetH Tryz.prog Rows.forgedRow.laid w) (fun _ _ _ hh h => h.of_heap hh) own started (by kernel_rfl) Tryz.func12
    (ChangeSpec.witness_shaped (enc := enc) (C := Tryz.checked) (os := os) (X := fun w _ => laidMetH Tryz.prog Rows.forgedRow.laid w) false (World.doorLaid Tryz.prog 400 os) #[.agg #[.int .i64 0, .slice none 0 0, .slice none 0 0], .int .i64 0, .bool false] 8 rfl (World.shaped_of_RefB (by kernel_rfl) (by kernel_rfl)) (by kernel_rfl) (by kernel_rfl) (by kernel_rfl) (door_met_kforged os _)) ?_
  intro W base args ds gs before hval0 hW _ _ hL _
  obtain ⟨A, hE⟩ := errs_of_kforged hL
  exact kforged_contract (K _ A) (KN _ A) KF enc hE hval0 hW

theorem kforged_holds {R : (Nat → Prop) → World → Nat → Tm.H → Prop} (K : ∀ N A, ProgOK R N A) (KN : ∀ N A, NewOK R N A) (KF : ∀ N A, FailOK R N A) : Rows.ForgedSaid :=
  OpenClaim.holds_of_wide 12 Tryz.f12 rfl rfl rfl rfl rfl rfl rfl ⟨rfl, rfl, rfl, rfl, rfl⟩ rfl rfl rfl rfl rfl (by kernel_rfl) Tryz.func12 (by kernel_rfl)
    (of_decide_eq_true (by kernel_rfl)) (by unfold Func.isWrapper; rw [if_neg (of_decide_eq_false (by kernel_rfl))]; exact ⟨rfl, rfl⟩)
    (fun os started H enc _ => lifted_kforged K KN KF os started H enc)

theorem forged_card_of {R : (Nat → Prop) → World → Nat → Tm.H → Prop} (K : ∀ N A, ProgOK R N A) (KN : ∀ N A, NewOK R N A) (KF : ∀ N A, FailOK R N A) : Rows.ForgedCardSaid :=
  Claim7.holds_tied_plain_at .later [] [.handle, .sentinel, .sentinel, .sentinel, .sentinel, .sentinel, .sentinel, .sentinel, .sentinel, .sentinel, .sentinel] true Rows.forgedCard.stood.harness true
    (kforged_holds K KN KF) (fun _ h => by cases h) (by kernel_rfl) (fun _ h => by cases h) forged_row_tie rfl ⟨rfl, rfl⟩ (by kernel_rfl) rfl
    (fun f fn hf hfn => by
      obtain rfl : f = 12 := Option.some.inj ((show Tryz.prog.funcNamed Rows.forgedRow.func = some 12 by kernel_rfl).symm.trans hf) |>.symm
      obtain rfl : fn = Tryz.f12 := (Option.some.inj (Tryz.func12.symm.trans hfn)).symm
      exact ⟨by kernel_rfl, fun j t ht => by
        rw [Tryz.params12] at ht
        match j, ht with
        | 0, ht =>
          obtain rfl : 28 = t := by simpa using ht
          exact noStandGr
        | 1, ht =>
          obtain rfl : 3 = t := by simpa using ht
          exact noStandN
        | 2, ht =>
          obtain rfl : 4 = t := by simpa using ht
          exact noStandBl
        | j + 3, ht => simp at ht⟩)
    (by kernel_rfl)
end Go.Proofs.YtcnmfljpmpgnjaaGreatDoor

namespace Go.Proofs.YtcnmfljpmpgnjaaGreatDoor
open Go.RowKit Go.Maps
open Tm (H Ob Sl Why)

set_option maxRecDepth 100000 in
theorem getF_any {S : Nat → Prop} {tag : Nat → Nat × Nat} {w : World} {a : Nat} {Y : PLay} {h : H} {N : Nat} {A : Nat → Addr} (hE : Errs N A w) (r : PRep S tag w a Y h) (x i : Int) (hx : x < 9223372036854775808) (hc : ¬ (h.object x).2.reason = 0) :
    Calls Tryz.prog 41 #[.pointer (some ⟨a, 0, none⟩), .int .i64 x, .int .i64 i] w (FPostR PR S w a A (h.object x).2 h) := by
  have HO := objectH_any hE r x hx
  have hi := ifaceE
  have HR := hide r
  have HE := hide hE
  have HHc := hide hc
  unfold OPost at HO
  rw [if_neg hc] at HO
  have HO := hide HO
  clear r hE hc
  obtain ⟨y, ey⟩ : ∃ y, (h.object x).2 = y := ⟨_, rfl⟩
  simp only [ey] at HO HHc ⊢
  clear ey
  go_enter Tryz.func41, Tryz.ntmps41
  go_wp2_with (first
    | (go_at_call 69
       refine HO.out.mono ?_
       rintro e w1 ⟨ev, rfl, he1, hb1, _, hz⟩
       obtain ⟨b, rfl⟩ := hz HHc.out
       have HB1 := hide hb1
       have HRf := hide (refusal_any (HE.out.kept hb1) he1)
       clear hb1 he1 hz)
    | (go_at_call 50; refine HRf.out.mono ?_; rintro e w' ⟨ev, rfl, he, hb⟩; have HEr := hide he; have HB := hide hb; clear he hb)
    | fail)
  go_ret2
  have hb2 := HB1.out.trans (HB.out.mono HB1.out.size)
  exact ⟨_, rfl, HEr.out.mono HB1.out.size, ⟨tag, Y, HR.out.below hb2 (Nat.le_refl _)⟩, Kept.of_below hb2⟩

set_option maxRecDepth 100000 in
theorem followF_any {S : Nat → Prop} {tag : Nat → Nat × Nat} {w : World} {a : Nat} {Y : PLay} {h : H} {N : Nat} {A : Nat → Addr} (hE : Errs N A w) (r : PRep S tag w a Y h) (x i : Int) (hx : x < 9223372036854775808) (hc : ¬ (h.object x).2.reason = 0) :
    Calls Tryz.prog 42 #[.pointer (some ⟨a, 0, none⟩), .int .i64 x, .int .i64 i] w (FPostR PR S w a A (h.object x).2 h) := by
  have HO := objectH_any hE r x hx
  have hi := ifaceE
  have HR := hide r
  have HE := hide hE
  have HHc := hide hc
  unfold OPost at HO
  rw [if_neg hc] at HO
  have HO := hide HO
  clear r hE hc
  obtain ⟨y, ey⟩ : ∃ y, (h.object x).2 = y := ⟨_, rfl⟩
  simp only [ey] at HO HHc ⊢
  clear ey
  go_enter Tryz.func42, Tryz.ntmps42
  go_wp2_with (first
    | (go_at_call 69
       refine HO.out.mono ?_
       rintro e w1 ⟨ev, rfl, he1, hb1, _, hz⟩
       obtain ⟨b, rfl⟩ := hz HHc.out
       have HB1 := hide hb1
       have HRf := hide (refusal_any (HE.out.kept hb1) he1)
       clear hb1 he1 hz)
    | (go_at_call 50; refine HRf.out.mono ?_; rintro e w' ⟨ev, rfl, he, hb⟩; have HEr := hide he; have HB := hide hb; clear he hb)
    | fail)
  go_ret2
  have hb2 := HB1.out.trans (HB.out.mono HB1.out.size)
  exact ⟨_, rfl, HEr.out.mono HB1.out.size, ⟨tag, Y, HR.out.below hb2 (Nat.le_refl _)⟩, Kept.of_below hb2⟩

set_option maxRecDepth 100000 in
theorem refF_any {S : Nat → Prop} {tag : Nat → Nat × Nat} {w : World} {a : Nat} {Y : PLay} {h : H} {N : Nat} {A : Nat → Addr} (hE : Errs N A w) (r : PRep S tag w a Y h) (k x : Int) (hk : Tm.inR k 1 3 = true) (hx : x < 9223372036854775808) (hc : ¬ (h.object x).2.reason = 0) :
    Calls Tryz.prog 17 #[.pointer (some ⟨a, 0, none⟩), .int .i64 k, .int .i64 x] w (FPostR PR S w a A (h.object x).2 h) := by
  have H1 := hide (numberH_any hE r x hx)
  have HW := fun w' => within_any k 1 3 w' (by omega)
  have hi := ifaceE
  have HR := hide r
  have HE := hide hE
  simp only [hk] at HW
  have HW := fun w' => hide (HW w')
  have HC1 := hide hc
  clear r hE hk hc
  obtain ⟨u, eu⟩ : ∃ u, h.object x = u := ⟨_, rfl⟩
  simp only [eu] at H1 HC1 ⊢
  clear eu
  go_enter Tryz.func17, Tryz.ntmps17
  go_wp2_with (first
    | (go_at_call 49; refine ((HW _).out).mono ?_; rintro e w' ⟨rfl, rfl⟩)
    | (go_at_call 51
       refine H1.out.mono ?_
       rintro e w1 ⟨ev, rfl, he1, hb1, _, hz⟩
       obtain ⟨b, rfl⟩ := hz HC1.out
       have HB1 := hide hb1
       have HRf := hide (refusal_any (HE.out.kept hb1) he1)
       clear hb1 he1 hz)
    | (go_at_call 50; refine HRf.out.mono ?_; rintro e w' ⟨ev, rfl, he, hb⟩; have HEr := hide he; have HB := hide hb; clear he hb)
    | fail)
  go_ret2
  have hb2 := HB1.out.trans (HB.out.mono HB1.out.size)
  exact ⟨_, rfl, HEr.out.mono HB1.out.size, ⟨tag, Y, HR.out.below hb2 (Nat.le_refl _)⟩, Kept.of_below hb2⟩

theorem DPost.toG {S : Nat → Prop} {w : World} {a : Nat} {A : Nat → Addr} {y y' : Why} {h h' : H} {e : Ending} {w' : World} (q : DPost S w a A y' h' e w') (e1 : y' = y) (e2 : h' = h) : GPostR PR S w a A y h e w' := by
  subst e1 e2
  obtain ⟨ev, q1, q2, q3, q4⟩ := q
  exact ⟨ev, q1, q2, q3, q4⟩

theorem fail_ok (N : Nat) (A : Nat → Addr) : FailOK PR N A where
  get := fun S w p h x i ⟨_, _, r⟩ hE _ hx hf => by have e := object_fail hf; rw [← e] at hf ⊢; exact getF_any hE r x i hx hf
  follow := fun S w p h x i ⟨_, _, r⟩ hE _ hx hf => by have e := object_fail hf; rw [← e] at hf ⊢; exact followF_any hE r x i hx hf
  ref := fun S w p h k x ⟨_, _, r⟩ hE _ hx hf hk => by have e := object_fail hf; rw [← e] at hf ⊢; exact refF_any hE r k x hk hx hf
  set := fun S w p h x i v ⟨_, _, r⟩ hE hS hx hf => (setH_any hE hS r x i v hx).mono fun _ _ q => by
    have e := object_fail hf
    have e2 : h.set x i v = ((h.of x).2, h) := by unfold Tm.H.set; rw [e, if_pos hf]
    rw [e2] at q
    exact q.toG rfl rfl
  point := fun S w p h x i z ⟨_, _, r⟩ hE hS hx hz hf => (pointH_any hE hS r x i z hx hz).mono fun _ _ q => by
    have e := object_fail hf
    have e2 : h.point x i z = ((h.of x).2, h) := by unfold Tm.H.point; rw [e, if_pos hf]
    rw [e2] at q
    exact q.toG rfl rfl
  free := fun S w p h x ⟨_, _, r⟩ hE hS hx hf => (freeH_any hE hS r x hx).mono fun _ _ q => by
    have e2 : h.freed x = ((h.of x).2, h) := by unfold Tm.H.freed; rw [if_pos hf]
    rw [e2] at q
    exact q.toG rfl rfl
  pin := fun S w p h x ⟨_, _, r⟩ hE hS hx hf => (pinH_any hE hS r x hx).mono fun _ _ q => by
    have e := object_fail hf
    have e2 : h.pin x = ((h.of x).2, h) := by unfold Tm.H.pin; rw [e, if_pos hf]
    rw [e2] at q
    exact q.toG rfl rfl
  unpin := fun S w p h x ⟨_, _, r⟩ hE hS hx hf => (unpinH_any hE hS r x hx).mono fun _ _ q => by
    have e := object_fail hf
    have e2 : h.unpin x = ((h.of x).2, h) := by unfold Tm.H.unpin; rw [e, if_pos hf]
    rw [e2] at q
    exact q.toG rfl rfl
end Go.Proofs.YtcnmfljpmpgnjaaGreatDoor

namespace Go.Proofs.YtcnmfljpmpgnjaaGreatDoor
theorem forged_card : Rows.ForgedCardSaid := forged_card_of prog_ok new_ok fail_ok
end Go.Proofs.YtcnmfljpmpgnjaaGreatDoor
