import Derived.Test.YtcnmfljpmpgnjaaGreatDoorK46
import Derived.Test.YtcnmfljpmpgnjaaGreatDoorFNamB
import Derived.Test.YtcnmfljpmpgnjaaGreatDoorCards
import Derived.Test.YtcnmfljpmpgnjaaGreatDoorTie
import Derived.SevenTiedAt
import Derived.Deep.Grids
import Derived.Test.YtcnmfljpmpgnjaaGreatDoorK44
namespace Go.Proofs.YtcnmfljpmpgnjaaGreatDoor
open Go.ChangeShapes Go.WideShapes Go.ChangeAt Go.RowKit Go.Deep Go.WideElems

theorem readNs : Tryz.prog.readableRec 24 = true := by kernel_rfl
theorem rowNs : 24 < Tryz.prog.types.size := of_decide_eq_true (by kernel_rfl)
theorem readBs : Tryz.prog.readableRec 40 = true := by kernel_rfl
theorem rowBs : 40 < Tryz.prog.types.size := of_decide_eq_true (by kernel_rfl)
theorem cellsI1 : Tryz.prog.cellsOf 3 = 1 := by kernel_rfl
theorem cellsB1 : Tryz.prog.cellsOf 4 = 1 := by kernel_rfl

theorem spot_none {w : World} {a : Addr} {v : Value} (h : w.cell? a = some v) : a.spot = none ∧ a.block < w.heap.size := by
  unfold World.cell? at h
  split at h
  · rename_i c t f hg
    refine ⟨?_, ?_⟩
    · cases hs : a.spot with
      | none => rfl
      | some k => rw [hs] at h; simp at h
    · rcases Nat.lt_or_ge a.block w.heap.size with q | q
      · exact q
      · rw [Array.getElem?_eq_none q] at hg; cases hg
  · cases h

theorem ints_arg {H : Type} {enc : TypeId × Value → H} {W : World} {fuel : Nat} {cs : List Value} {x : DataW H × List MemPlace} (h : DataW.trod enc Tryz.prog W 0 (fun _ => true) true fuel 24 cs = some x) :
    ∃ q c, ∃ ns : List Int, cs = [.slice q ns.length c] ∧ (0 < ns.length → ∃ g o, q = some ⟨g, o, none⟩ ∧ g < W.heap.size ∧ ∀ i, i < ns.length → W.cell? ⟨g, o + i, none⟩ = some (.int .i64 (ns.getD i 0))) ∧ ∀ i, i < ns.length → -9223372036854775808 ≤ ns.getD i 0 ∧ ns.getD i 0 ≤ 9223372036854775807 := by
  rcases open_ints Tryz.underlying24 Tryz.underlying3 cellsI1 h with ⟨rfl, _⟩ | ⟨a, len, cap, zs, rfl, _, hl, _, hz, _, hc, hw⟩
  · exact ⟨none, 0, [], rfl, fun h0 => absurd h0 (Nat.not_lt_zero _), fun i hi => absurd hi (Nat.not_lt_zero _)⟩
  simp only [if_true] at hz
  have hlen : (zs.take len).length = len := by simp; omega
  have hget : ∀ i, i < len → (zs.take len).getD i 0 = zs.getD i 0 := fun i hi => by
    rw [List.getD_eq_getElem?_getD, List.getD_eq_getElem?_getD, List.getElem?_take, if_pos hi]
  refine ⟨some a, cap, zs.take len, by rw [hlen], fun h0 => ?_, fun i hi => ?_⟩
  · rw [hlen] at h0
    have h1 := spot_none (hc 0 (by omega))
    obtain ⟨g, o, sp⟩ := a
    obtain rfl : sp = none := h1.1
    refine ⟨g, o, rfl, h1.2, fun i hi => ?_⟩
    rw [hlen] at hi
    rw [hget i hi, ← hc i (by omega), Addr.add_lit]
  · rw [hlen] at hi
    rw [hget i hi]
    exact in64_wf (hw _ (Tm.getD_mem _ _ _ (by omega)))

theorem bools_arg {H : Type} {enc : TypeId × Value → H} {W : World} {fuel : Nat} {cs : List Value} {x : DataW H × List MemPlace} (h : DataW.trod enc Tryz.prog W 0 (fun _ => true) true fuel 40 cs = some x) :
    ∃ q c, ∃ bs : List Bool, cs = [.slice q bs.length c] ∧ (0 < bs.length → ∃ g o, q = some ⟨g, o, none⟩ ∧ g < W.heap.size ∧ ∀ i, i < bs.length → W.cell? ⟨g, o + i, none⟩ = some (.bool (bs.getD i false))) := by
  rcases open_bools Tryz.underlying40 Tryz.underlying4 cellsB1 h with ⟨rfl, _⟩ | ⟨a, len, cap, V, rfl, _, hl, _, _, hc⟩
  · exact ⟨none, 0, [], rfl, fun h0 => absurd h0 (Nat.not_lt_zero _)⟩
  have hlen : ((List.range len).map V).length = len := by simp
  refine ⟨some a, cap, (List.range len).map V, by rw [hlen], fun h0 => ?_⟩
  rw [hlen] at h0
  have h1 := spot_none (hc 0 (by omega))
  obtain ⟨g, o, sp⟩ := a
  obtain rfl : sp = none := h1.1
  refine ⟨g, o, rfl, h1.2, fun i hi => ?_⟩
  rw [hlen] at hi
  have := hc i (by omega)
  rw [Addr.add_lit] at this
  rw [this, List.getD_eq_getElem?_getD]
  simp [hi]

set_option maxRecDepth 100000 in
theorem knamed_contract {R : (Nat → Prop) → World → Nat → Tm.H → Prop} {N : Nat} {A : Nat → Addr} (K : ProgOK R N A) (KN : NewOK R N A) {H : Type} (enc : TypeId × Value → H) {W : World} {args : Array Value} {ds gs : List (DataW H)} {before : List MemPlace} {base : Nat} (hE : Errs N A W)
    (hval : ∀ (j : Nat) t v, Tryz.f9.params[j]? = some t → args[j]? = some v → Value.okWide Tryz.prog W .any base t v)
    (hW : DataW.Whole enc Tryz.prog Tryz.f9.params.toList Rows.namedSpec.vars false W args.toList ds gs before) :
    Calls Tryz.prog 9 args W fun e W' => ∃ v, e = .returned v ∧ Rows.namedSpec.post enc Tryz.prog Tryz.f9 false true false false W args v W' := by
  have hW' := hW
  have hlt := hW.lt
  obtain ⟨p, q, hA0, hV, rfl, hfz, hnd⟩ := hW
  have hA : DataW.TrodAll enc Tryz.prog W 0 (fun _ => true) true Tryz.f9.params.toList args.toList ds p := hA0
  rw [Tryz.params9] at hA
  obtain ⟨rfl, rfl⟩ := trodVars_none hV
  obtain ⟨v0, v1, v2, d0, d1, d2, p0, p1, p2, hargs, rfl, rfl, hT0, hT1, hT2⟩ := trodAll_three hA
  have hargs' : args = #[v0, v1, v2] := by obtain ⟨l⟩ := args; simpa using hargs
  subst hargs'
  have o0 : Value.okWide Tryz.prog W .any base 24 v0 := hval 0 24 v0 (by rw [Tryz.params9]; rfl) (by simp)
  have o1 : Value.okWide Tryz.prog W .any base 40 v1 := hval 1 40 v1 (by rw [Tryz.params9]; rfl) (by simp)
  have o2 : Value.okWide Tryz.prog W .any base 3 v2 := hval 2 3 v2 (by rw [Tryz.params9]; rfl) (by simp)
  obtain ⟨z, rfl, rfl, rfl, q2⟩ := open_int Tryz.underlying3 o2 hT2
  have b2 := in64_wf q2
  have hT0' := hT0
  have hT1' := hT1
  obtain ⟨n0, hn0⟩ := hT0
  obtain ⟨n1, hn1⟩ := hT1
  obtain ⟨a0, c0, ns, e0, hns, hnr⟩ := ints_arg hn0
  obtain ⟨a1, c1, bs, e1, hbs⟩ := bools_arg hn1
  obtain ⟨a', l', c', rfl⟩ := okWide_slice Tryz.underlying24 o0
  have e2 : [Value.slice a' l' c'] = [Value.slice a0 ns.length c0] := e0
  injection e2 with e2
  injection e2 with e3 e4 e5
  subst e3 e4 e5
  obtain ⟨a'', l'', c'', rfl⟩ := okWide_slice Tryz.underlying40 o1
  have e6 : [Value.slice a'' l'' c''] = [Value.slice a1 bs.length c1] := e1
  injection e6 with e6
  injection e6 with e7 e8 e9
  subst e7 e8 e9
  refine (knamed_any K KN W hE _ _ _ _ ns bs z hns hnr hbs b2.1 b2.2).mono ?_
  rintro e W' ⟨rfl, hb⟩
  refine ⟨_, rfl, _, _, _, [], p0 ++ (p1 ++ []), [], hW', ?_, ?_, ?_, Below.keptBut hb _, fun h => by cases h⟩
  · exact trodAll_mk1 (shut_bool Tryz.underlying4 true)
  · exact trodAll_mk3 (Trod_stays laidOut readNs rowNs hT0' (fun x hx => Below.sameAt hb x (hlt x (by simp [hx]))) (fun x hx => by simpa using hlt x (by simp [hx])))
      (Trod_stays laidOut readBs rowBs hT1' (fun x hx => Below.sameAt hb x (hlt x (by simp [hx]))) (fun x hx => by simpa using hlt x (by simp [hx])))
      (shut_int Tryz.underlying3 q2)
  · rfl

theorem errs_of_knamed {W : World} (h : laidMetH Tryz.prog Rows.namedRow.laid W) : ∃ A, Errs W.heap.size A W := errs_of h
theorem door_met_knamed (os : Os) (args : Array Value) : laidMetH Tryz.prog Rows.namedRow.laid ((World.doorLaid Tryz.prog 400 os).forCall (fun _ _ => 0) ⟨#[], args, []⟩).memory :=
  laidMetH_of_parts3 (fuel := 8) (laidMet_of_run' 8 (by kernel_rfl) (by kernel_rfl)) (by kernel_rfl) (by kernel_rfl)

set_option maxRecDepth 100000 in
theorem lifted_knamed {R : (Nat → Prop) → World → Nat → Tm.H → Prop} (K : ∀ N A, ProgOK R N A) (KN : ∀ N A, NewOK R N A) (os : Os) (started : os.Started) (H : Type) (enc : TypeId × Value → H) :
    ReturnsInHanded {} Tryz.checked os 9 .any (fun w args => (Rows.namedSpec.pre enc Tryz.prog Tryz.f9 [] false w args ∧ laidMetH Tryz.prog Rows.namedRow.laid w) ∧ sizedMet enc Tryz.prog Tryz.f9 (OpenSpec.ofChange Rows.namedSpec) false w args)
      (Rows.namedSpec.post enc Tryz.prog Tryz.f9 false true false false) := by
  refine returnsInHanded_of_change_and (C := Tryz.checked) (X := fun w _ => laidMetH Tryz.prog Rows.namedRow.laid w) (fun _ _ _ hh h => h.of_heap hh) own started (by kernel_rfl) Tryz.func9
    (ChangeSpec.witness_shaped (enc := enc) (C := Tryz.checked) (os := os) (X := fun w _ => laidMetH Tryz.prog Rows.namedRow.laid w) false (World.doorLaid Tryz.prog 400 os) #[.slice none 0 0, .slice none 0 0, .int .i64 0] 8 rfl (World.shaped_of_RefB (by kernel_rfl) (by kernel_rfl)) (by kernel_rfl) (by kernel_rfl) (by kernel_rfl) (door_met_knamed os _)) ?_
  intro W base args ds gs before hval0 hW _ _ hL _
  obtain ⟨A, hE⟩ := errs_of_knamed hL
  exact knamed_contract (K _ A) (KN _ A) enc hE hval0 hW

theorem knamed_holds {R : (Nat → Prop) → World → Nat → Tm.H → Prop} (K : ∀ N A, ProgOK R N A) (KN : ∀ N A, NewOK R N A) : Rows.NamedSaid :=
  OpenClaim.holds_of_wide 9 Tryz.f9 rfl rfl rfl rfl rfl rfl rfl ⟨rfl, rfl, rfl, rfl, rfl⟩ rfl rfl rfl rfl rfl (by kernel_rfl) Tryz.func9 (by kernel_rfl)
    (of_decide_eq_true (by kernel_rfl)) (by unfold Func.isWrapper; rw [if_neg (of_decide_eq_false (by kernel_rfl))]; exact ⟨rfl, rfl⟩)
    (fun os started H enc _ => lifted_knamed K KN os started H enc)

theorem noStandN : Tryz.prog.wantsStandIn 3 = false := by kernel_rfl
theorem noStandNs : Tryz.prog.wantsStandIn 24 = false := by kernel_rfl
theorem noStandBs : Tryz.prog.wantsStandIn 40 = false := by kernel_rfl

theorem named_card_of {R : (Nat → Prop) → World → Nat → Tm.H → Prop} (K : ∀ N A, ProgOK R N A) (KN : ∀ N A, NewOK R N A) : Rows.NamedCardSaid :=
  Claim7.holds_tied_plain_at .later [] [.handle, .sentinel, .sentinel, .sentinel, .sentinel, .sentinel, .sentinel, .sentinel, .sentinel, .sentinel, .sentinel] true Rows.namedCard.stood.harness true
    (knamed_holds K KN) (fun _ h => by cases h) (by kernel_rfl) (fun _ h => by cases h) named_row_tie rfl ⟨rfl, rfl⟩ (by kernel_rfl) rfl
    (fun f fn hf hfn => by
      obtain rfl : f = 9 := Option.some.inj ((show Tryz.prog.funcNamed Rows.namedRow.func = some 9 by kernel_rfl).symm.trans hf) |>.symm
      obtain rfl : fn = Tryz.f9 := (Option.some.inj (Tryz.func9.symm.trans hfn)).symm
      exact ⟨by kernel_rfl, fun j t ht => by
        rw [Tryz.params9] at ht
        match j, ht with
        | 0, ht =>
          obtain rfl : 24 = t := by simpa using ht
          exact noStandNs
        | 1, ht =>
          obtain rfl : 40 = t := by simpa using ht
          exact noStandBs
        | 2, ht =>
          obtain rfl : 3 = t := by simpa using ht
          exact noStandN
        | j + 3, ht => simp at ht⟩)
    (by kernel_rfl)
end Go.Proofs.YtcnmfljpmpgnjaaGreatDoor

namespace Go.Proofs.YtcnmfljpmpgnjaaGreatDoor
theorem named_card : Rows.NamedCardSaid := named_card_of prog_ok new_ok
end Go.Proofs.YtcnmfljpmpgnjaaGreatDoor
