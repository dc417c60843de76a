import Derived.Test.YtcnmfljpmpgnjaaGreatDoorJ37
import Derived.Test.YtcnmfljpmpgnjaaGreatDoorFKepE
import Derived.Test.YtcnmfljpmpgnjaaGreatDoorCards
import Derived.Test.YtcnmfljpmpgnjaaGreatDoorTie
import Derived.SevenTiedAt
import Derived.Test.YtcnmfljpmpgnjaaGreatDoorJ36
namespace Go.Proofs.YtcnmfljpmpgnjaaGreatDoor
open Go.ChangeShapes Go.WideShapes Go.ChangeAt Go.RowKit Go.Deep Go.WideElems

set_option maxRecDepth 100000 in
theorem kkept_contract {R : (Nat → Prop) → World → Nat → Tm.H → Prop} {N : Nat} {A : Nat → Addr} (K : ProgOK R N A) (KN : NewOK R N A) {H : Type} (enc : TypeId × Value → H) {W : World} {args : Array Value} {ds gs : List (DataW H)} {before : List MemPlace} {base : Nat} (hE : Errs N A W)
    (hval : ∀ (j : Nat) t v, Tryz.f5.params[j]? = some t → args[j]? = some v → Value.okWide Tryz.prog W .any base t v)
    (hW : DataW.Whole enc Tryz.prog Tryz.f5.params.toList Rows.keptSpec.vars false W args.toList ds gs before) :
    Calls Tryz.prog 5 args W fun e W' => ∃ v, e = .returned v ∧ Rows.keptSpec.post enc Tryz.prog Tryz.f5 false true false false W args v W' := by
  have hW' := hW
  have hlt := hW.lt
  obtain ⟨p, q, hA0, hV, rfl, hfz, hnd⟩ := hW
  have hA : DataW.TrodAll enc Tryz.prog W 0 (fun _ => true) true Tryz.f5.params.toList args.toList ds p := hA0
  rw [Tryz.params5] at hA
  obtain ⟨rfl, rfl⟩ := trodVars_none hV
  obtain ⟨v0, v1, v2, d0, d1, d2, p0, p1, p2, hargs, rfl, rfl, hT0, hT1, hT2⟩ := trodAll_three hA
  have hargs' : args = #[v0, v1, v2] := by obtain ⟨l⟩ := args; simpa using hargs
  subst hargs'
  have o0 : Value.okWide Tryz.prog W .any base 28 v0 := hval 0 28 v0 (by rw [Tryz.params5]; rfl) (by simp)
  have o1 : Value.okWide Tryz.prog W .any base 3 v1 := hval 1 3 v1 (by rw [Tryz.params5]; rfl) (by simp)
  obtain ⟨z1, rfl, rfl, rfl, q1⟩ := open_int Tryz.underlying3 o1 hT1
  have b1 := in64_wf q1
  have o2 : Value.okWide Tryz.prog W .any base 4 v2 := hval 2 4 v2 (by rw [Tryz.params5]; rfl) (by simp)
  obtain ⟨z2, rfl, rfl, rfl⟩ := open_bool Tryz.underlying4 o2 hT2
  have hT0' := hT0
  obtain ⟨n0, hn0⟩ := hT0
  obtain ⟨cs, rfl, hcs⟩ := okWide_struct Tryz.underlying28 o0
  obtain ⟨xn, pv, nv, cv, pr, nr, cr, V, Rf, e0, hx, gi⟩ := graph_arg hn0
  have e1' : cs.toList = [.int .i64 xn, .slice pv nv cv, .slice pr nr cr] := e0
  have e2' : cs = #[.int .i64 xn, .slice pv nv cv, .slice pr nr cr] := by obtain ⟨l⟩ := cs; simpa using e1'
  subst e2'
  refine (kkept_any K KN W hE xn hx.1 hx.2 pv pr nv cv nr cr V Rf gi z1 b1.1 b1.2 z2).mono ?_
  rintro e W' ⟨rfl, hb⟩
  refine ⟨_, rfl, _, _, _, [], p0 ++ ([] ++ []), [], hW', ?_, ?_, ?_, Below.keptBut hb _, fun h => by cases h⟩
  · exact trodAll_mk1 (shut_bool Tryz.underlying4 true)
  · exact trodAll_mk3 (Trod_stays laidOut readGr rowGr hT0' (fun x hx => Below.sameAt hb x (hlt x (by simp [hx]))) (fun x hx => by simpa using hlt x (by simp [hx])))
      (shut_int Tryz.underlying3 q1) (shut_bool Tryz.underlying4 z2)
  · rfl

theorem errs_of_kkept {W : World} (h : laidMetH Tryz.prog Rows.keptRow.laid W) : ∃ A, Errs W.heap.size A W := errs_of h
theorem door_met_kkept (os : Os) (args : Array Value) : laidMetH Tryz.prog Rows.keptRow.laid ((World.doorLaid Tryz.prog 400 os).forCall (fun _ _ => 0) ⟨#[], args, []⟩).memory :=
  laidMetH_of_parts3 (fuel := 8) (laidMet_of_run' 8 (by kernel_rfl) (by kernel_rfl)) (by kernel_rfl) (by kernel_rfl)

set_option maxRecDepth 100000 in
theorem lifted_kkept {R : (Nat → Prop) → World → Nat → Tm.H → Prop} (K : ∀ N A, ProgOK R N A) (KN : ∀ N A, NewOK R N A) (os : Os) (started : os.Started) (H : Type) (enc : TypeId × Value → H) :
    ReturnsInHanded {} Tryz.checked os 5 .any (fun w args => (Rows.keptSpec.pre enc Tryz.prog Tryz.f5 [] false w args ∧ laidMetH Tryz.prog Rows.keptRow.laid w) ∧ sizedMet enc Tryz.prog Tryz.f5 (OpenSpec.ofChange Rows.keptSpec) false w args)
      (Rows.keptSpec.post enc Tryz.prog Tryz.f5 false true false false) := by
  refine returnsInHanded_of_change_and (C := Tryz.checked) (X := fun w _ => laidMetH Tryz.prog Rows.keptRow.laid w) (fun _ _ _ hh h => h.of_heap hh) own started (by kernel_rfl) Tryz.func5
    (ChangeSpec.witness_shaped (enc := enc) (C := Tryz.checked) (os := os) (X := fun w _ => laidMetH Tryz.prog Rows.keptRow.laid w) false (World.doorLaid Tryz.prog 400 os) #[.agg #[.int .i64 0, .slice none 0 0, .slice none 0 0], .int .i64 0, .bool false] 8 rfl (World.shaped_of_RefB (by kernel_rfl) (by kernel_rfl)) (by kernel_rfl) (by kernel_rfl) (by kernel_rfl) (door_met_kkept os _)) ?_
  intro W base args ds gs before hval0 hW _ _ hL _
  obtain ⟨A, hE⟩ := errs_of_kkept hL
  exact kkept_contract (K _ A) (KN _ A) enc hE hval0 hW

theorem kkept_holds {R : (Nat → Prop) → World → Nat → Tm.H → Prop} (K : ∀ N A, ProgOK R N A) (KN : ∀ N A, NewOK R N A) : Rows.KeptSaid :=
  OpenClaim.holds_of_wide 5 Tryz.f5 rfl rfl rfl rfl rfl rfl rfl ⟨rfl, rfl, rfl, rfl, rfl⟩ rfl rfl rfl rfl rfl (by kernel_rfl) Tryz.func5 (by kernel_rfl)
    (of_decide_eq_true (by kernel_rfl)) (by unfold Func.isWrapper; rw [if_neg (of_decide_eq_false (by kernel_rfl))]; exact ⟨rfl, rfl⟩)
    (fun os started H enc _ => lifted_kkept K KN os started H enc)

theorem kept_card_of {R : (Nat → Prop) → World → Nat → Tm.H → Prop} (K : ∀ N A, ProgOK R N A) (KN : ∀ N A, NewOK R N A) : Rows.KeptCardSaid :=
  Claim7.holds_tied_plain_at .later [] [.handle, .sentinel, .sentinel, .sentinel, .sentinel, .sentinel, .sentinel, .sentinel, .sentinel, .sentinel, .sentinel] true Rows.keptCard.stood.harness true
    (kkept_holds K KN) (fun _ h => by cases h) (by kernel_rfl) (fun _ h => by cases h) kept_row_tie rfl ⟨rfl, rfl⟩ (by kernel_rfl) rfl
    (fun f fn hf hfn => by
      obtain rfl : f = 5 := Option.some.inj ((show Tryz.prog.funcNamed Rows.keptRow.func = some 5 by kernel_rfl).symm.trans hf) |>.symm
      obtain rfl : fn = Tryz.f5 := (Option.some.inj (Tryz.func5.symm.trans hfn)).symm
      exact ⟨by kernel_rfl, fun j t ht => by
        rw [Tryz.params5] at ht
        match j, ht with
        | 0, ht =>
          obtain rfl : 28 = t := by simpa using ht
          exact noStandGr
        | 1, ht =>
          obtain rfl : 3 = t := by simpa using ht
          exact noStandN
        | 2, ht =>
          obtain rfl : 4 = t := by simpa using ht
          exact noStandBl
        | j + 3, ht => simp at ht⟩)
    (by kernel_rfl)
end Go.Proofs.YtcnmfljpmpgnjaaGreatDoor

namespace Go.Proofs.YtcnmfljpmpgnjaaGreatDoor
theorem kept_card : Rows.KeptCardSaid := kept_card_of prog_ok new_ok
end Go.Proofs.YtcnmfljpmpgnjaaGreatDoor
