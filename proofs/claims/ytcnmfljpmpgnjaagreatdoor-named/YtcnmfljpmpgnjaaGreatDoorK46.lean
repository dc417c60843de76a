import Derived.Test.YtcnmfljpmpgnjaaGreatDoorRows
import Derived.Test.YtcnmfljpmpgnjaaGreatDoorK45
import Derived.WideKeyArgs
import Derived.ProofKit
import Derived.LaidLaws
import Derived.LaidMore
import Derived.LaidSub
import Derived.LaidHandle
import Derived.Stop.LaidErr
import Derived.Stop.Joined
namespace Go.Proofs.YtcnmfljpmpgnjaaGreatDoor
open Go.ChangeShapes Go.WideShapes Go.ChangeAt Go.RowKit Go.Deep Go.WideElems

theorem own : ownKnob Tryz.prog.godebug = none := by kernel_rfl
theorem laidOut : laidOutB Tryz.prog = true := by kernel_rfl
theorem readOps : Tryz.prog.readableRec 22 = true := by kernel_rfl
theorem rowOps : 22 < Tryz.prog.types.size := of_decide_eq_true (by kernel_rfl)

theorem Below.sameAt {W W' : World} (hb : Below W.heap.size W W') (p : MemPlace) (hp : p.block < W.heap.size) : W.sameAt W' p := by
  cases p with
  | cell b off => exact cell_of (hb.block b hp)
  | map b => exact hb.block b hp

theorem Below.keptBut {W W' : World} (hb : Below W.heap.size W W') (m : MemPlace → Prop) : W.keptBut W' m := by
  refine ⟨hb.os, hb.output, fun i hi => ?_⟩
  rw [hb.block i hi]
  cases W.heap[i]? with
  | none => rfl
  | some o => cases o <;> simp

set_option maxRecDepth 100000 in
theorem handles_contract {R : (Nat → Prop) → World → Nat → Tm.H → Prop} {N : Nat} {A : Nat → Addr} (K : ProgOK R N A) (KN : NewOK R N A) {H : Type} (enc : TypeId × Value → H) {W : World} {args : Array Value} {ds gs : List (DataW H)} {before : List MemPlace} {base : Nat} (hE : Errs N A W)
    (hval : ∀ (j : Nat) t v, Tryz.f4.params[j]? = some t → args[j]? = some v → Value.okWide Tryz.prog W .any base t v)
    (hW : DataW.Whole enc Tryz.prog Tryz.f4.params.toList Rows.handlesSpec.vars false W args.toList ds gs before)
    (hsz0 : (DataW.weightsEach Tryz.prog (Tryz.f4.params.toList ++ Rows.handlesSpec.plain.varTypes Tryz.prog) (ds ++ gs)).all (· ≤ reachBytes) = true) :
    Calls Tryz.prog 4 args W fun e W' => ∃ v, e = .returned v ∧ Rows.handlesSpec.post enc Tryz.prog Tryz.f4 false true false false W args v W' := by
  have hW' := hW
  have hlt := hW.lt
  obtain ⟨p, q, hA0, hV, rfl, hfz, hnd⟩ := hW
  have hA : DataW.TrodAll enc Tryz.prog W 0 (fun _ => true) true Tryz.f4.params.toList args.toList ds p := hA0
  rw [Tryz.params4] at hA hsz0
  obtain ⟨rfl, rfl⟩ := trodVars_none hV
  obtain ⟨v0, d0, hargs, rfl, hT⟩ := trodAll_one hA
  have hargs' : args = #[v0] := by obtain ⟨l⟩ := args; simpa using hargs
  subst hargs'
  have hT' := hT
  obtain ⟨n, hn⟩ := hT
  have hL : Light 22 d0 := fun x hx => by
    have := List.all_eq_true.1 hsz0 x (DataW.weights_mem_each (j := 0) rfl rfl x hx)
    simpa using this
  obtain ⟨sp, m, c, sv, e1, hS, h1, h2, h3⟩ := script_of hn hL
  have hv : Value.okWide Tryz.prog W .any base 22 v0 := hval 0 22 v0 (by rw [Tryz.params4]; rfl) (by simp)
  obtain ⟨a', l', c', rfl⟩ := okWide_slice Tryz.underlying22 hv
  have e2 : [Value.slice a' l' c'] = [Value.slice sp m c] := e1
  injection e2 with e2
  injection e2 with e3 e4 e5
  subst e3 e4 e5
  refine (Handles_ok K KN W hE _ _ _ sv hS h1 h2 h3).mono ?_
  rintro e W' ⟨rfl, hb⟩
  refine ⟨_, rfl, _, _, _, [], p, [], hW', ?_, ?_, ?_, Below.keptBut hb _, fun h => by cases h⟩
  · exact trodAll_mk1 (shut_bool Tryz.underlying4 true)
  · exact trodAll_mk1 (Trod_stays laidOut readOps rowOps hT' (fun x hx => Below.sameAt hb x (hlt x (by simpa using hx))) (fun x hx => by simpa using hlt x (by simpa using hx)))
  · rfl

set_option maxRecDepth 100000 in
theorem objects_contract {R : (Nat → Prop) → World → Nat → Tm.H → Prop} {N : Nat} {A : Nat → Addr} (K : ProgOK R N A) (KN : NewOK R N A) {H : Type} (enc : TypeId × Value → H) {W : World} {args : Array Value} {ds gs : List (DataW H)} {before : List MemPlace} {base : Nat} (hE : Errs N A W)
    (hval : ∀ (j : Nat) t v, Tryz.f3.params[j]? = some t → args[j]? = some v → Value.okWide Tryz.prog W .any base t v)
    (hW : DataW.Whole enc Tryz.prog Tryz.f3.params.toList Rows.objectsSpec.vars false W args.toList ds gs before)
    (hsz0 : (DataW.weightsEach Tryz.prog (Tryz.f3.params.toList ++ Rows.objectsSpec.plain.varTypes Tryz.prog) (ds ++ gs)).all (· ≤ reachBytes) = true) :
    Calls Tryz.prog 3 args W fun e W' => ∃ v, e = .returned v ∧ Rows.objectsSpec.post enc Tryz.prog Tryz.f3 false true false false W args v W' := by
  have hW' := hW
  have hlt := hW.lt
  obtain ⟨p, q, hA0, hV, rfl, hfz, hnd⟩ := hW
  have hA : DataW.TrodAll enc Tryz.prog W 0 (fun _ => true) true Tryz.f3.params.toList args.toList ds p := hA0
  rw [Tryz.params3] at hA hsz0
  obtain ⟨rfl, rfl⟩ := trodVars_none hV
  obtain ⟨v0, d0, hargs, rfl, hT⟩ := trodAll_one hA
  have hargs' : args = #[v0] := by obtain ⟨l⟩ := args; simpa using hargs
  subst hargs'
  have hT' := hT
  obtain ⟨n, hn⟩ := hT
  have hL : Light 22 d0 := fun x hx => by
    have := List.all_eq_true.1 hsz0 x (DataW.weights_mem_each (j := 0) rfl rfl x hx)
    simpa using this
  obtain ⟨sp, m, c, sv, e1, hS, h1, h2, h3⟩ := script_of hn hL
  have hv : Value.okWide Tryz.prog W .any base 22 v0 := hval 0 22 v0 (by rw [Tryz.params3]; rfl) (by simp)
  obtain ⟨a', l', c', rfl⟩ := okWide_slice Tryz.underlying22 hv
  have e2 : [Value.slice a' l' c'] = [Value.slice sp m c] := e1
  injection e2 with e2
  injection e2 with e3 e4 e5
  subst e3 e4 e5
  refine (Objects_ok K KN W hE _ _ _ sv hS h1 h2 h3).mono ?_
  rintro e W' ⟨rfl, hb⟩
  refine ⟨_, rfl, _, _, _, [], p, [], hW', ?_, ?_, ?_, Below.keptBut hb _, fun h => by cases h⟩
  · exact trodAll_mk1 (shut_bool Tryz.underlying4 true)
  · exact trodAll_mk1 (Trod_stays laidOut readOps rowOps hT' (fun x hx => Below.sameAt hb x (hlt x (by simpa using hx))) (fun x hx => by simpa using hlt x (by simpa using hx)))
  · rfl

set_option maxRecDepth 100000 in
theorem ends_contract {R : (Nat → Prop) → World → Nat → Tm.H → Prop} {N : Nat} {A : Nat → Addr} (K : ProgOK R N A) (KN : NewOK R N A) {H : Type} (enc : TypeId × Value → H) {W : World} {args : Array Value} {ds gs : List (DataW H)} {before : List MemPlace} {base : Nat} (hE : Errs N A W)
    (hval : ∀ (j : Nat) t v, Tryz.f8.params[j]? = some t → args[j]? = some v → Value.okWide Tryz.prog W .any base t v)
    (hW : DataW.Whole enc Tryz.prog Tryz.f8.params.toList Rows.endsSpec.vars false W args.toList ds gs before)
    (hsz0 : (DataW.weightsEach Tryz.prog (Tryz.f8.params.toList ++ Rows.endsSpec.plain.varTypes Tryz.prog) (ds ++ gs)).all (· ≤ reachBytes) = true) :
    Calls Tryz.prog 8 args W fun e W' => ∃ v, e = .returned v ∧ Rows.endsSpec.post enc Tryz.prog Tryz.f8 false true false false W args v W' := by
  have hW' := hW
  have hlt := hW.lt
  obtain ⟨p, q, hA0, hV, rfl, hfz, hnd⟩ := hW
  have hA : DataW.TrodAll enc Tryz.prog W 0 (fun _ => true) true Tryz.f8.params.toList args.toList ds p := hA0
  rw [Tryz.params8] at hA hsz0
  obtain ⟨rfl, rfl⟩ := trodVars_none hV
  obtain ⟨v0, d0, hargs, rfl, hT⟩ := trodAll_one hA
  have hargs' : args = #[v0] := by obtain ⟨l⟩ := args; simpa using hargs
  subst hargs'
  have hT' := hT
  obtain ⟨n, hn⟩ := hT
  have hL : Light 22 d0 := fun x hx => by
    have := List.all_eq_true.1 hsz0 x (DataW.weights_mem_each (j := 0) rfl rfl x hx)
    simpa using this
  obtain ⟨sp, m, c, sv, e1, hS, h1, h2, h3⟩ := script_of hn hL
  have hv : Value.okWide Tryz.prog W .any base 22 v0 := hval 0 22 v0 (by rw [Tryz.params8]; rfl) (by simp)
  obtain ⟨a', l', c', rfl⟩ := okWide_slice Tryz.underlying22 hv
  have e2 : [Value.slice a' l' c'] = [Value.slice sp m c] := e1
  injection e2 with e2
  injection e2 with e3 e4 e5
  subst e3 e4 e5
  refine (Ends_ok K KN W hE _ _ _ sv hS h1 h2 h3).mono ?_
  rintro e W' ⟨rfl, hb⟩
  refine ⟨_, rfl, _, _, _, [], p, [], hW', ?_, ?_, ?_, Below.keptBut hb _, fun h => by cases h⟩
  · exact trodAll_mk1 (shut_bool Tryz.underlying4 true)
  · exact trodAll_mk1 (Trod_stays laidOut readOps rowOps hT' (fun x hx => Below.sameAt hb x (hlt x (by simpa using hx))) (fun x hx => by simpa using hlt x (by simpa using hx)))
  · rfl

end Go.Proofs.YtcnmfljpmpgnjaaGreatDoor

namespace Go.Proofs.YtcnmfljpmpgnjaaGreatDoor
open Go.ChangeShapes Go.WideShapes Go.ChangeAt Go.RowKit

theorem cells45 : Tryz.prog.cellsOf 281 = 1 := by kernel_rfl
theorem cells9 : Tryz.prog.cellsOf 9 = 1 := by kernel_rfl
theorem star : "*" ++ "errors.errorString" = "*errors.errorString" := by decide
theorem row27 (u : TypeId) (h : Tryz.prog.typeName? 3 u = some "*errors.errorString") : u = 261 :=
  typeName_ptr_named (nm := "errors.errorString") (by rw [star]; kernel_rfl) (by kernel_rfl) (by decide) u (by rw [star]; exact h)

/-- What a listed error gives: the variable's cell, the pointee's block, its text. -/
def Sent (W : World) (g : Nat) (a : Addr) (text : List UInt8) : Prop :=
  W.cell? ⟨g, 0, none⟩ = some (.iface 261 (.pointer (some a))) ∧ (∃ (s : ByteArray), W.cell? a = some (.string s) ∧ s.data.toList = text) ∧ ∃ (c : Array Value) (t : TypeId), W.heap[a.block]? = some (.cells c t (0, 0))

set_option maxRecDepth 100000 in
theorem sent_head {n : String} {text : List UInt8} {r : List (String × DataW Unit)} {W : World} {g : Nat}
    (h : laidMet Tryz.prog ((n, .iface "*errors.errorString" (.ptr (.agg [.lit (.string text)]))) :: r) W)
    (hg : Tryz.prog.globalNamed n = some g) (ht : (Tryz.prog.globals[g]?).map (·.type) = some 37) : ∃ a : Addr, Sent W g a text := by
  obtain ⟨ps, ⟨g0, t0, cs0, f0, p0, q0, hg0, ht0, hv0, hd0, _, e0⟩, _, hrows⟩ := h
  obtain rfl := Option.some.inj (hg.symm.trans hg0)
  obtain rfl := Option.some.inj (ht.symm.trans ht0)
  subst e0
  obtain ⟨l0⟩ := cs0
  have ok0 : ∀ u v, l0 = [.iface u v] → Value.okWide Tryz.prog W .any 0 u v := fun u v e => by
    subst e
    exact (hrows g 0 (by simp [MemPlace.row])).2 u v (by simpa using World.var?_cell hg0 hv0 0)
  obtain ⟨a0, s0, rfl, hc0, hs0, hz0, rfl⟩ := errorString_of_trod Tryz.underlying37 row27 Tryz.underlying261 Tryz.underlying281 rfl rfl Tryz.underlying9 cells45 cells9 hd0 ok0
  obtain ⟨c0, t0, hb0⟩ := (hrows a0.block a0.off (by simp [MemPlace.row])).1
  exact ⟨a0, by simpa using World.var?_cell hg0 hv0 0, ⟨s0, hc0, hs0⟩, c0, t0, hb0⟩

theorem Sent.ne {W : World} {g g' : Nat} {a a' : Addr} {t t' : List UInt8} (h : Sent W g a t) (h' : Sent W g' a' t') (hne : t ≠ t') : a ≠ a' := by
  rintro rfl
  obtain ⟨_, ⟨s, hs, rfl⟩, _⟩ := h
  obtain ⟨_, ⟨s', hs', rfl⟩, _⟩ := h'
  rw [hs] at hs'
  simp only [Option.some.injEq, Value.string.injEq] at hs'
  exact hne (by rw [hs'])

theorem etG : Tryz.prog.globalNamed "errors.errorType" = some 10 := by kernel_rfl
theorem rtT : (Tryz.prog.cutTypes.find? (·.1 == "internal/reflectlite.rtype")).map (·.2) = some 216 := by kernel_rfl
theorem oneRow : ((List.range Tryz.prog.types.size).filter fun t => Tryz.prog.rowNamed t [101, 114, 114, 111, 114]) = [37] := by kernel_rfl

/-- The listed errors. -/
def listed : List (String × DataW Unit) := Rows.handlesRow.laid.filter fun x => x.2.handleName?.isNone
def textOf : DataW Unit → List UInt8
  | .iface _ (.ptr (.agg [.lit (.string t)])) => t
  | _ => []
def T (i : Nat) : List UInt8 := (listed.map fun x => textOf x.2).getD i []
theorem T_ne : ∀ i : Fin 10, ∀ j : Fin 10, j.val ≠ i.val → T i.val ≠ T j.val := by decide +kernel

theorem handle_of {W : World} (h : laidMetH Tryz.prog Rows.handlesRow.laid W) : W.cell? ⟨10, 0, none⟩ = some (.iface 216 (.agg #[.pointer (some ⟨11, 37, none⟩)])) := by
  obtain ⟨_, h2⟩ := laidMetH_iff.1 h
  obtain ⟨name, u, ty, e1, e2, e3, e4, e5⟩ := h2 ("errors.errorType", Rows.laid_errors_errorType) (List.mem_filter.2 ⟨List.mem_cons_self .., rfl⟩)
  have en : name = [101, 114, 114, 111, 114] := (Option.some.inj e1).symm
  subst en
  obtain rfl := Option.some.inj (rtT.symm.trans e2)
  have hm : ty ∈ (List.range Tryz.prog.types.size).filter fun t => Tryz.prog.rowNamed t [101, 114, 114, 111, 114] := List.mem_filter.2 ⟨List.mem_range.2 e3, e4⟩
  rw [oneRow] at hm
  obtain rfl := List.mem_singleton.1 hm
  have hh : typeHandle Tryz.prog 37 = .pointer (some ⟨11, 37, none⟩) := by kernel_rfl
  rw [hh] at e5
  simpa using World.var?_cell etG e5 0
end Go.Proofs.YtcnmfljpmpgnjaaGreatDoor

namespace Go.Proofs.YtcnmfljpmpgnjaaGreatDoor
open Go.ChangeShapes Go.WideShapes Go.ChangeAt Go.RowKit

def gAt (i : Nat) : Nat := [8, 6, 7, 4, 2, 9, 0, 1, 5, 3].getD i 0

theorem sents {W : World} (h : laidMet Tryz.prog listed W) : ∃ S : Nat → Addr, ∀ i, i < 10 → Sent W (gAt i) (S i) (T i) := by
  have t0 := h
  have t1 := t0.tail
  have t2 := t1.tail
  have t3 := t2.tail
  have t4 := t3.tail
  have t5 := t4.tail
  have t6 := t5.tail
  have t7 := t6.tail
  have t8 := t7.tail
  have t9 := t8.tail
  obtain ⟨a0, s0⟩ := sent_head t0 (g := 8) (by kernel_rfl) (by kernel_rfl)
  obtain ⟨a1, s1⟩ := sent_head t1 (g := 6) (by kernel_rfl) (by kernel_rfl)
  obtain ⟨a2, s2⟩ := sent_head t2 (g := 7) (by kernel_rfl) (by kernel_rfl)
  obtain ⟨a3, s3⟩ := sent_head t3 (g := 4) (by kernel_rfl) (by kernel_rfl)
  obtain ⟨a4, s4⟩ := sent_head t4 (g := 2) (by kernel_rfl) (by kernel_rfl)
  obtain ⟨a5, s5⟩ := sent_head t5 (g := 9) (by kernel_rfl) (by kernel_rfl)
  obtain ⟨a6, s6⟩ := sent_head t6 (g := 0) (by kernel_rfl) (by kernel_rfl)
  obtain ⟨a7, s7⟩ := sent_head t7 (g := 1) (by kernel_rfl) (by kernel_rfl)
  obtain ⟨a8, s8⟩ := sent_head t8 (g := 5) (by kernel_rfl) (by kernel_rfl)
  obtain ⟨a9, s9⟩ := sent_head t9 (g := 3) (by kernel_rfl) (by kernel_rfl)
  refine ⟨fun i => [a0, a1, a2, a3, a4, a5, a6, a7, a8, a9].getD i a0, fun i hi => ?_⟩
  match i, hi with
  | 0, _ => exact s0
  | 1, _ => exact s1
  | 2, _ => exact s2
  | 3, _ => exact s3
  | 4, _ => exact s4
  | 5, _ => exact s5
  | 6, _ => exact s6
  | 7, _ => exact s7
  | 8, _ => exact s8
  | 9, _ => exact s9

theorem errs_of {W : World} (h : laidMetH Tryz.prog Rows.handlesRow.laid W) : ∃ A, Errs W.heap.size A W := by
  have hh := handle_of h
  obtain ⟨S, hS⟩ := sents (laidMetH_iff.1 h).1
  refine ⟨S, (hS 0 (by omega)).1, (hS 1 (by omega)).1, (hS 2 (by omega)).1, (hS 3 (by omega)).1, (hS 4 (by omega)).1, (hS 5 (by omega)).1, (hS 6 (by omega)).1, (hS 7 (by omega)).1, (hS 8 (by omega)).1, (hS 9 (by omega)).1, ?_, Nat.le_refl _, fun i hi => ?_, fun i j hi hj hne => ?_, hh⟩
  · exact cell_lt hh
  · obtain ⟨_, ⟨s, hs, _⟩, c, t, hb⟩ := hS i hi
    exact ⟨cell_lt hs, c, t, hb⟩
  · exact (hS i hi).ne (hS j hj) (T_ne ⟨i, hi⟩ ⟨j, hj⟩ (fun e => hne e.symm))
end Go.Proofs.YtcnmfljpmpgnjaaGreatDoor
