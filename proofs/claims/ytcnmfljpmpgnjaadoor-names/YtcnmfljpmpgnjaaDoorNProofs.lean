import Derived.Test.YtcnmfljpmpgnjaaDoorRows
import Derived.Test.YtcnmfljpmpgnjaaDoorCards
import Derived.Test.YtcnmfljpmpgnjaaDoorTie
import Derived.Test.YtcnmfljpmpgnjaaDoorNWalks
import Derived.ProofKit
import Derived.LaidLaws
import Derived.LaidMore
import Derived.Stop.LaidErr
import Derived.Stop.Joined
import Derived.SevenTiedAt
namespace Go.Proofs.YtcnmfljpmpgnjaaDoor
open Go.ChangeShapes Go.WideShapes Go.ChangeAt Go.RowKit

theorem own : ownKnob Tryd.prog.godebug = none := by kernel_rfl
theorem cells45 : Tryd.prog.cellsOf 45 = 1 := by kernel_rfl
theorem cells9 : Tryd.prog.cellsOf 9 = 1 := by kernel_rfl
theorem star : "*" ++ "errors.errorString" = "*errors.errorString" := by decide
theorem row27 (u : TypeId) (h : Tryd.prog.typeName? 3 u = some "*errors.errorString") : u = 27 :=
  typeName_ptr_named (nm := "errors.errorString") (by rw [star]; kernel_rfl) (by kernel_rfl) (by decide) u (by rw [star]; exact h)

/-- What a listed error gives: the variable's cell, the pointee's block, its text. -/
def Sent (W : World) (g : Nat) (a : Addr) (text : List UInt8) : Prop :=
  W.cell? ⟨g, 0, none⟩ = some (.iface 27 (.pointer (some a))) ∧ (∃ (s : ByteArray), W.cell? a = some (.string s) ∧ s.data.toList = text) ∧ ∃ (c : Array Value) (t : TypeId), W.heap[a.block]? = some (.cells c t (0, 0))

set_option maxRecDepth 100000 in
theorem sent_head {n : String} {text : List UInt8} {r : List (String × DataW Unit)} {W : World} {g : Nat}
    (h : laidMet Tryd.prog ((n, .iface "*errors.errorString" (.ptr (.agg [.lit (.string text)]))) :: r) W)
    (hg : Tryd.prog.globalNamed n = some g) (ht : (Tryd.prog.globals[g]?).map (·.type) = some 25) : ∃ a : Addr, Sent W g a text := by
  obtain ⟨ps, ⟨g0, t0, cs0, f0, p0, q0, hg0, ht0, hv0, hd0, _, e0⟩, _, hrows⟩ := h
  obtain rfl := Option.some.inj (hg.symm.trans hg0)
  obtain rfl := Option.some.inj (ht.symm.trans ht0)
  subst e0
  obtain ⟨l0⟩ := cs0
  have ok0 : ∀ u v, l0 = [.iface u v] → Value.okWide Tryd.prog W .any 0 u v := fun u v e => by
    subst e
    exact (hrows g 0 (by simp [MemPlace.row])).2 u v (by simpa using World.var?_cell hg0 hv0 0)
  obtain ⟨a0, s0, rfl, hc0, hs0, hz0, rfl⟩ := errorString_of_trod Tryd.underlying25 row27 Tryd.underlying27 Tryd.underlying45 rfl rfl Tryd.underlying9 cells45 cells9 hd0 ok0
  obtain ⟨c0, t0, hb0⟩ := (hrows a0.block a0.off (by simp [MemPlace.row])).1
  exact ⟨a0, by simpa using World.var?_cell hg0 hv0 0, ⟨s0, hc0, hs0⟩, c0, t0, hb0⟩

theorem Sent.ne {W : World} {g g' : Nat} {a a' : Addr} {t t' : List UInt8} (h : Sent W g a t) (h' : Sent W g' a' t') (hne : t ≠ t') : a ≠ a' := by
  rintro rfl
  obtain ⟨_, ⟨s, hs, rfl⟩, _⟩ := h
  obtain ⟨_, ⟨s', hs', rfl⟩, _⟩ := h'
  rw [hs] at hs'
  simp only [Option.some.injEq, Value.string.injEq] at hs'
  exact hne (by rw [hs'])

theorem Sent.eql {W : World} {g g' : Nat} {a a' : Addr} {t t' : List UInt8} (h : Sent W g a t) (h' : Sent W g' a' t') (hne : t ≠ t') {w' : World} (hlt : ∀ (p : Nat) (q : Obj), W.heap[p]? = some q → w'.heap[p]? = some q) :
    (binOp .eql 25 (.iface 27 (.pointer (some a))) (.iface 27 (.pointer (some a')))).run Tryd.prog w' = .ok (.bool false) w' := by
  have hn := h.ne h' hne
  obtain ⟨_, _, c, t0, hb⟩ := h
  obtain ⟨_, _, c', t0', hb'⟩ := h'
  exact eql_other hn (hlt _ _ hb) (hlt _ _ hb')

theorem push_some {l : Array Obj} {p : Nat} {q o : Obj} (h : l[p]? = some q) : (l.push o)[p]? = some q := by
  rw [Array.getElem?_push]
  rcases Nat.lt_or_ge p l.size with hl | hl
  · rw [if_neg (by omega)]; exact h
  · rw [Array.getElem?_eq_none hl] at h; cases h

def textOf : DataW Unit → List UInt8
  | .iface _ (.ptr (.agg [.lit (.string t)])) => t
  | _ => []
def texts : List (List UInt8) := Rows.namesRow.laid.map fun x => textOf x.2
def T (i : Nat) : List UInt8 := texts.getD i []
theorem T_ne : ∀ i : Fin 10, ∀ j : Fin 10, j.val < i.val → T i.val ≠ T j.val := by decide +kernel

def gAt (i : Nat) : Nat := [0, 1, 2, 3, 4, 5, 6, 7, 8, 9].getD i 0

theorem sents {W : World} (h : laidMet Tryd.prog Rows.namesRow.laid W) : ∃ S : Nat → Addr, ∀ i, i < 10 → Sent W (gAt i) (S i) (T i) := by
  have t0 := h
  have t1 := t0.tail
  have t2 := t1.tail
  have t3 := t2.tail
  have t4 := t3.tail
  have t5 := t4.tail
  have t6 := t5.tail
  have t7 := t6.tail
  have t8 := t7.tail
  have t9 := t8.tail
  obtain ⟨a0, s0⟩ := sent_head t0 (g := 0) (by kernel_rfl) (by kernel_rfl)
  obtain ⟨a1, s1⟩ := sent_head t1 (g := 1) (by kernel_rfl) (by kernel_rfl)
  obtain ⟨a2, s2⟩ := sent_head t2 (g := 2) (by kernel_rfl) (by kernel_rfl)
  obtain ⟨a3, s3⟩ := sent_head t3 (g := 3) (by kernel_rfl) (by kernel_rfl)
  obtain ⟨a4, s4⟩ := sent_head t4 (g := 4) (by kernel_rfl) (by kernel_rfl)
  obtain ⟨a5, s5⟩ := sent_head t5 (g := 5) (by kernel_rfl) (by kernel_rfl)
  obtain ⟨a6, s6⟩ := sent_head t6 (g := 6) (by kernel_rfl) (by kernel_rfl)
  obtain ⟨a7, s7⟩ := sent_head t7 (g := 7) (by kernel_rfl) (by kernel_rfl)
  obtain ⟨a8, s8⟩ := sent_head t8 (g := 8) (by kernel_rfl) (by kernel_rfl)
  obtain ⟨a9, s9⟩ := sent_head t9 (g := 9) (by kernel_rfl) (by kernel_rfl)
  refine ⟨fun i => [a0, a1, a2, a3, a4, a5, a6, a7, a8, a9].getD i a0, fun i hi => ?_⟩
  match i, hi with
  | 0, _ => exact s0
  | 1, _ => exact s1
  | 2, _ => exact s2
  | 3, _ => exact s3
  | 4, _ => exact s4
  | 5, _ => exact s5
  | 6, _ => exact s6
  | 7, _ => exact s7
  | 8, _ => exact s8
  | 9, _ => exact s9

theorem door_met (os : Os) (args : Array Value) : laidMetH Tryd.prog Rows.namesRow.laid ((World.doorLaid Tryd.prog 400 os).forCall (fun _ _ => 0) ⟨#[], args, []⟩).memory :=
  laidMetH_of_parts3 (fuel := 8) (laidMet_of_run' 8 (by kernel_rfl) (by kernel_rfl)) (by kernel_rfl) (by kernel_rfl)

set_option maxRecDepth 100000 in
theorem lifted (os : Os) (started : os.Started) (H : Type) (enc : TypeId × Value → H) :
    ReturnsInHanded {} Tryd.checked os 3 .any (fun w args => (Rows.namesSpec.pre enc Tryd.prog Tryd.f3 [] false w args ∧ laidMetH Tryd.prog Rows.namesRow.laid w) ∧ sizedMet enc Tryd.prog Tryd.f3 (OpenSpec.ofChange Rows.namesSpec) false w args)
      (Rows.namesSpec.post enc Tryd.prog Tryd.f3 false true false false) := by
  refine returnsInHanded_of_change_and (C := Tryd.checked) (X := fun w _ => laidMetH Tryd.prog Rows.namesRow.laid w) (fun _ _ _ hh h => h.of_heap hh) own started (by kernel_rfl) Tryd.func3
    (ChangeSpec.witness_shaped (enc := enc) (C := Tryd.checked) (os := os) (X := fun w _ => laidMetH Tryd.prog Rows.namesRow.laid w) false (World.doorLaid Tryd.prog 400 os) #[] 8 rfl (World.shaped_of_RefB (by kernel_rfl) (by kernel_rfl)) (by kernel_rfl) (by kernel_rfl) (by kernel_rfl) (door_met os _)) ?_
  intro W base args ds gs before hval0 hW _ _ hL _
  have hW' := hW
  obtain ⟨p, q, hA0, hV, rfl, hfz, hnd⟩ := hW
  have hA : DataW.TrodAll enc Tryd.prog W 0 (fun _ => true) true Tryd.f3.params.toList args.toList ds p := hA0
  rw [Tryd.params3] at hA
  obtain ⟨hargs, rfl, rfl⟩ := trodAll_none hA
  obtain ⟨rfl, rfl⟩ := trodVars_none hV
  rw [MakeChecks.laidMetH_plain _ _ _ (by kernel_rfl)] at hL
  obtain ⟨S, hS⟩ := sents hL
  have herr := errs_any W (S 0) (S 1) (S 2) (S 3) (S 4) (S 5) (S 6) (S 7) (S 8) (S 9) (hS 0 (by decide)).1 (hS 1 (by decide)).1 (hS 2 (by decide)).1 (hS 3 (by decide)).1 (hS 4 (by decide)).1 (hS 5 (by decide)).1 (hS 6 (by decide)).1 (hS 7 (by decide)).1 (hS 8 (by decide)).1 (hS 9 (by decide)).1
  have hargs' : args = #[] := by obtain ⟨l⟩ := args; simpa using hargs
  subst hargs'
  have hidden : Hid (Calls Tryd.prog 4 #[] W fun e w' => e = .returned (.slice (some ⟨W.heap.size, 0, none⟩) 11 11) ∧ W.alloc (.cells #[.nilIface, .iface 27 (.pointer (some (S 0))), .iface 27 (.pointer (some (S 1))), .iface 27 (.pointer (some (S 2))), .iface 27 (.pointer (some (S 3))), .iface 27 (.pointer (some (S 4))), .iface 27 (.pointer (some (S 5))), .iface 27 (.pointer (some (S 6))), .iface 27 (.pointer (some (S 7))), .iface 27 (.pointer (some (S 8))), .iface 27 (.pointer (some (S 9)))] 25) = w') := herr.mono fun e w' h => ⟨h.1, h.2.symm⟩
  refine (names_any W _ W.heap.size (fun i => S (i - 1)) hidden (by simp) ?_ ?_).mono fun e W' ⟨he, hw⟩ => ?_
  · intro i h0 h11
    match i, h0, h11 with
    | 1, _, _ => simp
    | 2, _, _ => simp
    | 3, _, _ => simp
    | 4, _, _ => simp
    | 5, _, _ => simp
    | 6, _, _ => simp
    | 7, _, _ => simp
    | 8, _, _ => simp
    | 9, _, _ => simp
    | 10, _, _ => simp
  · intro i j hj hij hi w' hw'
    refine (hS (i - 1) (by omega)).eql (hS (j - 1) (by omega)) (T_ne ⟨i - 1, by omega⟩ ⟨j - 1, by omega⟩ (by show j - 1 < i - 1; omega)) ?_
    intro p q hpq
    rw [hw']
    exact push_some hpq
  · subst he
    refine ⟨_, rfl, ChangeSpec.post_alike ?_ hw⟩
    refine ⟨_, _, _, [], [], [], hW', ?_, ?_, ?_, World.keptBut_alloc _ _ _, fun h => by cases h⟩
    · exact trodAll_mk1 (shut_bool Tryd.underlying4 true)
    · exact trodAll_mk0
    · rfl

theorem names_holds : Rows.NamesSaid :=
  OpenClaim.holds_of_wide 3 Tryd.f3 rfl rfl rfl rfl rfl rfl rfl ⟨rfl, rfl, rfl, rfl, rfl⟩ rfl rfl rfl rfl rfl (by kernel_rfl) Tryd.func3 (by kernel_rfl)
    (of_decide_eq_true (by kernel_rfl)) (by unfold Func.isWrapper; rw [if_neg (of_decide_eq_false (by kernel_rfl))]; exact ⟨rfl, rfl⟩)
    (fun os started H enc _ => lifted os started H enc)

theorem names_card : Rows.NamesCardSaid :=
  Claim7.holds_tied_plain_at .later [] [.sentinel, .sentinel, .sentinel, .sentinel, .sentinel, .sentinel, .sentinel, .sentinel, .sentinel, .sentinel] true (true, "ca6a83a8c9797d0c14df7e01cd5510b7caf624d043293fb0ec33fe155ccd9d49") true
    names_holds (fun _ h => by cases h) (by kernel_rfl) (fun _ h => by cases h) names_row_tie rfl ⟨rfl, rfl⟩ (by kernel_rfl) rfl
    (fun f fn hf hfn => by
      obtain rfl : f = 3 := Option.some.inj ((show Tryd.prog.funcNamed Rows.namesRow.func = some 3 by kernel_rfl).symm.trans hf) |>.symm
      obtain rfl : fn = Tryd.f3 := (Option.some.inj (Tryd.func3.symm.trans hfn)).symm
      exact ⟨by kernel_rfl, fun j t ht => by
        rw [Tryd.params3] at ht
        simp at ht⟩)
    (by kernel_rfl)
end Go.Proofs.YtcnmfljpmpgnjaaDoor
