import Derived.Test.YtcnmfljpmpgnjaaGreatDoorK46
import Derived.Test.YtcnmfljpmpgnjaaGreatDoorCards
import Derived.Test.YtcnmfljpmpgnjaaGreatDoorTie
import Derived.SevenTiedAt
import Derived.Test.YtcnmfljpmpgnjaaGreatDoorK45
namespace Go.Proofs.YtcnmfljpmpgnjaaGreatDoor
open Go.ChangeShapes Go.WideShapes Go.ChangeAt Go.RowKit

theorem errs_of_handles {W : World} (h : laidMetH Tryz.prog Rows.handlesRow.laid W) : ∃ A, Errs W.heap.size A W := errs_of h
theorem door_met_handles (os : Os) (args : Array Value) : laidMetH Tryz.prog Rows.handlesRow.laid ((World.doorLaid Tryz.prog 400 os).forCall (fun _ _ => 0) ⟨#[], args, []⟩).memory :=
  laidMetH_of_parts3 (fuel := 8) (laidMet_of_run' 8 (by kernel_rfl) (by kernel_rfl)) (by kernel_rfl) (by kernel_rfl)

set_option maxRecDepth 100000 in
theorem lifted_handles {R : (Nat → Prop) → World → Nat → Tm.H → Prop} (K : ∀ N A, ProgOK R N A) (KN : ∀ N A, NewOK R N A) (os : Os) (started : os.Started) (H : Type) (enc : TypeId × Value → H) :
    ReturnsInHanded {} Tryz.checked os 4 .any (fun w args => (Rows.handlesSpec.pre enc Tryz.prog Tryz.f4 [] false w args ∧ laidMetH Tryz.prog Rows.handlesRow.laid w) ∧ sizedMet enc Tryz.prog Tryz.f4 (OpenSpec.ofChange Rows.handlesSpec) false w args)
      (Rows.handlesSpec.post enc Tryz.prog Tryz.f4 false true false false) := by
  refine returnsInHanded_of_change_and (C := Tryz.checked) (X := fun w _ => laidMetH Tryz.prog Rows.handlesRow.laid w) (fun _ _ _ hh h => h.of_heap hh) own started (by kernel_rfl) Tryz.func4
    (ChangeSpec.witness_shaped (enc := enc) (C := Tryz.checked) (os := os) (X := fun w _ => laidMetH Tryz.prog Rows.handlesRow.laid w) false (World.doorLaid Tryz.prog 400 os) #[.slice none 0 0] 8 rfl (World.shaped_of_RefB (by kernel_rfl) (by kernel_rfl)) (by kernel_rfl) (by kernel_rfl) (by kernel_rfl) (door_met_handles os _)) ?_
  intro W base args ds gs before hval0 hW _ hsz hL _
  obtain ⟨A, hE⟩ := errs_of_handles hL
  exact handles_contract (K _ A) (KN _ A) enc hE hval0 hW hsz

theorem handles_holds {R : (Nat → Prop) → World → Nat → Tm.H → Prop} (K : ∀ N A, ProgOK R N A) (KN : ∀ N A, NewOK R N A) : Rows.HandlesSaid :=
  OpenClaim.holds_of_wide 4 Tryz.f4 rfl rfl rfl rfl rfl rfl rfl ⟨rfl, rfl, rfl, rfl, rfl⟩ rfl rfl rfl rfl rfl (by kernel_rfl) Tryz.func4 (by kernel_rfl)
    (of_decide_eq_true (by kernel_rfl)) (by unfold Func.isWrapper; rw [if_neg (of_decide_eq_false (by kernel_rfl))]; exact ⟨rfl, rfl⟩)
    (fun os started H enc _ => lifted_handles K KN os started H enc)

theorem noStand : Tryz.prog.wantsStandIn 22 = false := by kernel_rfl

theorem handles_card_of {R : (Nat → Prop) → World → Nat → Tm.H → Prop} (K : ∀ N A, ProgOK R N A) (KN : ∀ N A, NewOK R N A) : Rows.HandlesCardSaid :=
  Claim7.holds_tied_plain_at .later [] [.handle, .sentinel, .sentinel, .sentinel, .sentinel, .sentinel, .sentinel, .sentinel, .sentinel, .sentinel, .sentinel] true Rows.handlesCard.stood.harness true
    (handles_holds K KN) (fun _ h => by cases h) (by kernel_rfl) (fun _ h => by cases h) handles_row_tie rfl ⟨rfl, rfl⟩ (by kernel_rfl) rfl
    (fun f fn hf hfn => by
      obtain rfl : f = 4 := Option.some.inj ((show Tryz.prog.funcNamed Rows.handlesRow.func = some 4 by kernel_rfl).symm.trans hf) |>.symm
      obtain rfl : fn = Tryz.f4 := (Option.some.inj (Tryz.func4.symm.trans hfn)).symm
      exact ⟨by kernel_rfl, fun j t ht => by
        rw [Tryz.params4] at ht
        match j, ht with
        | 0, ht =>
          obtain rfl : 22 = t := by simpa using ht
          exact noStand
        | j + 1, ht => simp at ht⟩)
    (by kernel_rfl)
end Go.Proofs.YtcnmfljpmpgnjaaGreatDoor

namespace Go.Proofs.YtcnmfljpmpgnjaaGreatDoor
open Go.RowKit
open Tm (H Ob Sl Why)
section
variable {R : (Nat → Prop) → World → Nat → H → Prop} {N : Nat} {A : Nat → Addr}

set_option maxRecDepth 100000 in
set_option maxHeartbeats 4000000 in
theorem All_ok (K : ProgAll R N A) (KN : NewOK R N A) (w : World) (hE : Errs N A w) (sp : Option Addr) (m c : Nat) (sv : List Value) (s : Script w m sv)
    (hsp : sp = none → m = 0) (hc : ∀ ad, sp = some ad → ∀ j u, sv[j]? = some u → ad.block < w.heap.size ∧ w.cell? (ad.add j) = some u) (hm : m ≤ 1466015503679) :
    Calls Tryz.prog 13 #[.slice sp m c] w fun e w' => e = .returned (.bool true) ∧ Below w.heap.size w w' := by
  have HP := hide (plays_kinds K.ok.ok w hE sp m c 18 [1, 2, 3, 4, 5, 6, 7, 8, 9, 10, 11, 12, 13, 14, 15, 16, 17, 18] (by decide) (StepsOK.all K KN _ (by decide)) sv s hsp hc hm 18 rfl #[.int .i64 1, .int .i64 2, .int .i64 3, .int .i64 4, .int .i64 5, .int .i64 6, .int .i64 7, .int .i64 8, .int .i64 9, .int .i64 10, .int .i64 11, .int .i64 12, .int .i64 13, .int .i64 14, .int .i64 15, .int .i64 16, .int .i64 17, .int .i64 18] rfl)
  clear s hsp hc hm
  go_enter Tryz.func13, Tryz.ntmps13
  go_wp2_with fail
  refine HP.out.mono ?_
  rintro e w' ⟨rfl, hb⟩
  go_wp2_with fail
  go_ret
  exact ⟨rfl, hb⟩

end
end Go.Proofs.YtcnmfljpmpgnjaaGreatDoor

namespace Go.Proofs.YtcnmfljpmpgnjaaGreatDoor
open Go.ChangeShapes Go.WideShapes Go.ChangeAt Go.RowKit Go.Deep Go.WideElems

set_option maxRecDepth 100000 in
theorem all_contract {R : (Nat → Prop) → World → Nat → Tm.H → Prop} {N : Nat} {A : Nat → Addr} (K : ProgAll R N A) (KN : NewOK R N A) {H : Type} (enc : TypeId × Value → H) {W : World} {args : Array Value} {ds gs : List (DataW H)} {before : List MemPlace} {base : Nat} (hE : Errs N A W)
    (hval : ∀ (j : Nat) t v, Tryz.f13.params[j]? = some t → args[j]? = some v → Value.okWide Tryz.prog W .any base t v)
    (hW : DataW.Whole enc Tryz.prog Tryz.f13.params.toList Rows.allSpec.vars false W args.toList ds gs before)
    (hsz0 : (DataW.weightsEach Tryz.prog (Tryz.f13.params.toList ++ Rows.allSpec.plain.varTypes Tryz.prog) (ds ++ gs)).all (· ≤ reachBytes) = true) :
    Calls Tryz.prog 13 args W fun e W' => ∃ v, e = .returned v ∧ Rows.allSpec.post enc Tryz.prog Tryz.f13 false true false false W args v W' := by
  have hW' := hW
  have hlt := hW.lt
  obtain ⟨p, q, hA0, hV, rfl, hfz, hnd⟩ := hW
  have hA : DataW.TrodAll enc Tryz.prog W 0 (fun _ => true) true Tryz.f13.params.toList args.toList ds p := hA0
  rw [Tryz.params13] at hA hsz0
  obtain ⟨rfl, rfl⟩ := trodVars_none hV
  obtain ⟨v0, d0, hargs, rfl, hT⟩ := trodAll_one hA
  have hargs' : args = #[v0] := by obtain ⟨l⟩ := args; simpa using hargs
  subst hargs'
  have hT' := hT
  obtain ⟨n, hn⟩ := hT
  have hL : Light 22 d0 := fun x hx => by
    have := List.all_eq_true.1 hsz0 x (DataW.weights_mem_each (j := 0) rfl rfl x hx)
    simpa using this
  obtain ⟨sp, m, c, sv, e1, hS, h1, h2, h3⟩ := script_of hn hL
  have hv : Value.okWide Tryz.prog W .any base 22 v0 := hval 0 22 v0 (by rw [Tryz.params13]; rfl) (by simp)
  obtain ⟨a', l', c', rfl⟩ := okWide_slice Tryz.underlying22 hv
  have e2 : [Value.slice a' l' c'] = [Value.slice sp m c] := e1
  injection e2 with e2
  injection e2 with e3 e4 e5
  subst e3 e4 e5
  refine (All_ok K KN W hE _ _ _ sv hS h1 h2 h3).mono ?_
  rintro e W' ⟨rfl, hb⟩
  refine ⟨_, rfl, _, _, _, [], p, [], hW', ?_, ?_, ?_, Below.keptBut hb _, fun h => by cases h⟩
  · exact trodAll_mk1 (shut_bool Tryz.underlying4 true)
  · exact trodAll_mk1 (Trod_stays laidOut readOps rowOps hT' (fun x hx => Below.sameAt hb x (hlt x (by simpa using hx))) (fun x hx => by simpa using hlt x (by simpa using hx)))
  · rfl

end Go.Proofs.YtcnmfljpmpgnjaaGreatDoor

namespace Go.Proofs.YtcnmfljpmpgnjaaGreatDoor
open Go.ChangeShapes Go.WideShapes Go.ChangeAt Go.RowKit

theorem errs_of_all {W : World} (h : laidMetH Tryz.prog Rows.allRow.laid W) : ∃ A, Errs W.heap.size A W := errs_of h
theorem door_met_all (os : Os) (args : Array Value) : laidMetH Tryz.prog Rows.allRow.laid ((World.doorLaid Tryz.prog 400 os).forCall (fun _ _ => 0) ⟨#[], args, []⟩).memory :=
  laidMetH_of_parts3 (fuel := 8) (laidMet_of_run' 8 (by kernel_rfl) (by kernel_rfl)) (by kernel_rfl) (by kernel_rfl)

set_option maxRecDepth 100000 in
theorem lifted_all {R : (Nat → Prop) → World → Nat → Tm.H → Prop} (K : ∀ N A, ProgAll R N A) (KN : ∀ N A, NewOK R N A) (os : Os) (started : os.Started) (H : Type) (enc : TypeId × Value → H) :
    ReturnsInHanded {} Tryz.checked os 13 .any (fun w args => (Rows.allSpec.pre enc Tryz.prog Tryz.f13 [] false w args ∧ laidMetH Tryz.prog Rows.allRow.laid w) ∧ sizedMet enc Tryz.prog Tryz.f13 (OpenSpec.ofChange Rows.allSpec) false w args)
      (Rows.allSpec.post enc Tryz.prog Tryz.f13 false true false false) := by
  refine returnsInHanded_of_change_and (C := Tryz.checked) (X := fun w _ => laidMetH Tryz.prog Rows.allRow.laid w) (fun _ _ _ hh h => h.of_heap hh) own started (by kernel_rfl) Tryz.func13
    (ChangeSpec.witness_shaped (enc := enc) (C := Tryz.checked) (os := os) (X := fun w _ => laidMetH Tryz.prog Rows.allRow.laid w) false (World.doorLaid Tryz.prog 400 os) #[.slice none 0 0] 8 rfl (World.shaped_of_RefB (by kernel_rfl) (by kernel_rfl)) (by kernel_rfl) (by kernel_rfl) (by kernel_rfl) (door_met_all os _)) ?_
  intro W base args ds gs before hval0 hW _ hsz hL _
  obtain ⟨A, hE⟩ := errs_of_all hL
  exact all_contract (K _ A) (KN _ A) enc hE hval0 hW hsz

theorem all_holds {R : (Nat → Prop) → World → Nat → Tm.H → Prop} (K : ∀ N A, ProgAll R N A) (KN : ∀ N A, NewOK R N A) : Rows.AllSaid :=
  OpenClaim.holds_of_wide 13 Tryz.f13 rfl rfl rfl rfl rfl rfl rfl ⟨rfl, rfl, rfl, rfl, rfl⟩ rfl rfl rfl rfl rfl (by kernel_rfl) Tryz.func13 (by kernel_rfl)
    (of_decide_eq_true (by kernel_rfl)) (by unfold Func.isWrapper; rw [if_neg (of_decide_eq_false (by kernel_rfl))]; exact ⟨rfl, rfl⟩)
    (fun os started H enc _ => lifted_all K KN os started H enc)

theorem all_card_of {R : (Nat → Prop) → World → Nat → Tm.H → Prop} (K : ∀ N A, ProgAll R N A) (KN : ∀ N A, NewOK R N A) : Rows.AllCardSaid :=
  Claim7.holds_tied_plain_at .later [] [.handle, .sentinel, .sentinel, .sentinel, .sentinel, .sentinel, .sentinel, .sentinel, .sentinel, .sentinel, .sentinel] true Rows.allCard.stood.harness true
    (all_holds K KN) (fun _ h => by cases h) (by kernel_rfl) (fun _ h => by cases h) all_row_tie rfl ⟨rfl, rfl⟩ (by kernel_rfl) rfl
    (fun f fn hf hfn => by
      obtain rfl : f = 13 := Option.some.inj ((show Tryz.prog.funcNamed Rows.allRow.func = some 13 by kernel_rfl).symm.trans hf) |>.symm
      obtain rfl : fn = Tryz.f13 := (Option.some.inj (Tryz.func13.symm.trans hfn)).symm
      exact ⟨by kernel_rfl, fun j t ht => by
        rw [Tryz.params13] at ht
        match j, ht with
        | 0, ht =>
          obtain rfl : 22 = t := by simpa using ht
          exact noStand
        | j + 1, ht => simp at ht⟩)
    (by kernel_rfl)
end Go.Proofs.YtcnmfljpmpgnjaaGreatDoor
