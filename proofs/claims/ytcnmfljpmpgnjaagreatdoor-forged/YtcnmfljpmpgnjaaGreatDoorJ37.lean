import Derived.Test.YtcnmfljpmpgnjaaGreatDoorRows
import Derived.Test.YtcnmfljpmpgnjaaGreatDoorJ19
import Derived.WideKeyArgs
import Derived.ProofKit
import Derived.LaidLaws
import Derived.LaidMore
import Derived.Deep.Slices
import Derived.Deep.Matrix
import Derived.Deep.Grids
import Derived.SizedLaws
import Derived.OpenShut
import Derived.SevenTiedAt
import Derived.LaidSub
import Derived.LaidHandle
import Derived.Stop.LaidErr
import Derived.Stop.Joined
namespace Go.Proofs.YtcnmfljpmpgnjaaGreatDoor
open Go.ChangeShapes Go.WideShapes Go.ChangeAt Go.RowKit Go.Deep Go.WideElems

theorem own : ownKnob Tryz.prog.godebug = none := by kernel_rfl

theorem laidOut : laidOutB Tryz.prog = true := by kernel_rfl

theorem Below.sameAt {W W' : World} (hb : Below W.heap.size W W') (p : MemPlace) (hp : p.block < W.heap.size) : W.sameAt W' p := by
  cases p with
  | cell b off => exact cell_of (hb.block b hp)
  | map b => exact hb.block b hp

theorem Below.keptBut {W W' : World} (hb : Below W.heap.size W W') (m : MemPlace → Prop) : W.keptBut W' m := by
  refine ⟨hb.os, hb.output, fun i hi => ?_⟩
  rw [hb.block i hi]
  cases W.heap[i]? with
  | none => rfl
  | some o => cases o <;> simp

def In64 (x : Int) : Prop := -9223372036854775808 ≤ x ∧ x ≤ 9223372036854775807
theorem cell_lt {w : World} {ad : Addr} {v : Value} (h : w.cell? ad = some v) : ad.block < w.heap.size := by
  rcases Nat.lt_or_ge ad.block w.heap.size with h1 | h1
  · exact h1
  · exfalso
    unfold World.cell? at h
    simp [Array.getElem?_eq_none h1] at h

theorem in64_wf {n : Int} (h : (Lit.int .i64 n).wf = true) : In64 n := by
  exact bounds_i64 h

theorem add_add (a : Addr) (p q : Nat) : (a.add p).add q = a.add (p + q) := by
  by_cases hp : p = 0
  · subst hp; rw [Nat.zero_add]; rfl
  by_cases hq : q = 0
  · subst hq; rfl
  unfold Addr.add
  rw [if_neg hq, if_neg hp, if_neg (by omega)]
  simp [Nat.add_assoc]

theorem add_of {ad : Addr} (h : ad.spot = none) (j : Nat) : ad.add j = ⟨ad.block, ad.off + j, none⟩ := by
  obtain ⟨b, o, s⟩ := ad
  simp only at h
  subst h
  unfold Addr.add
  split
  · next e => subst e; rfl
  · rfl

theorem readNs : Tryz.prog.readableRec 24 = true := by kernel_rfl

theorem rowNs : 24 < Tryz.prog.types.size := of_decide_eq_true (by kernel_rfl)

theorem readBs : Tryz.prog.readableRec 40 = true := by kernel_rfl

theorem rowBs : 40 < Tryz.prog.types.size := of_decide_eq_true (by kernel_rfl)

theorem cellsI1 : Tryz.prog.cellsOf 3 = 1 := by kernel_rfl

theorem cellsB1 : Tryz.prog.cellsOf 4 = 1 := by kernel_rfl

theorem spot_none {w : World} {a : Addr} {v : Value} (h : w.cell? a = some v) : a.spot = none ∧ a.block < w.heap.size := by
  unfold World.cell? at h
  split at h
  · rename_i c t f hg
    refine ⟨?_, ?_⟩
    · cases hs : a.spot with
      | none => rfl
      | some k => rw [hs] at h; simp at h
    · rcases Nat.lt_or_ge a.block w.heap.size with q | q
      · exact q
      · rw [Array.getElem?_eq_none q] at hg; cases hg
  · cases h

theorem ints_arg {H : Type} {enc : TypeId × Value → H} {W : World} {fuel : Nat} {cs : List Value} {x : DataW H × List MemPlace} (h : DataW.trod enc Tryz.prog W 0 (fun _ => true) true fuel 24 cs = some x) :
    ∃ q c, ∃ ns : List Int, cs = [.slice q ns.length c] ∧ (0 < ns.length → ∃ g o, q = some ⟨g, o, none⟩ ∧ g < W.heap.size ∧ ∀ i, i < ns.length → W.cell? ⟨g, o + i, none⟩ = some (.int .i64 (ns.getD i 0))) ∧ ∀ i, i < ns.length → -9223372036854775808 ≤ ns.getD i 0 ∧ ns.getD i 0 ≤ 9223372036854775807 := by
  rcases open_ints Tryz.underlying24 Tryz.underlying3 cellsI1 h with ⟨rfl, _⟩ | ⟨a, len, cap, zs, rfl, _, hl, _, hz, _, hc, hw⟩
  · exact ⟨none, 0, [], rfl, fun h0 => absurd h0 (Nat.not_lt_zero _), fun i hi => absurd hi (Nat.not_lt_zero _)⟩
  simp only [if_true] at hz
  have hlen : (zs.take len).length = len := by simp; omega
  have hget : ∀ i, i < len → (zs.take len).getD i 0 = zs.getD i 0 := fun i hi => by
    rw [List.getD_eq_getElem?_getD, List.getD_eq_getElem?_getD, List.getElem?_take, if_pos hi]
  refine ⟨some a, cap, zs.take len, by rw [hlen], fun h0 => ?_, fun i hi => ?_⟩
  · rw [hlen] at h0
    have h1 := spot_none (hc 0 (by omega))
    obtain ⟨g, o, sp⟩ := a
    obtain rfl : sp = none := h1.1
    refine ⟨g, o, rfl, h1.2, fun i hi => ?_⟩
    rw [hlen] at hi
    rw [hget i hi, ← hc i (by omega), Addr.add_lit]
  · rw [hlen] at hi
    rw [hget i hi]
    exact in64_wf (hw _ (Tm.getD_mem _ _ _ (by omega)))

theorem bools_arg {H : Type} {enc : TypeId × Value → H} {W : World} {fuel : Nat} {cs : List Value} {x : DataW H × List MemPlace} (h : DataW.trod enc Tryz.prog W 0 (fun _ => true) true fuel 40 cs = some x) :
    ∃ q c, ∃ bs : List Bool, cs = [.slice q bs.length c] ∧ (0 < bs.length → ∃ g o, q = some ⟨g, o, none⟩ ∧ g < W.heap.size ∧ ∀ i, i < bs.length → W.cell? ⟨g, o + i, none⟩ = some (.bool (bs.getD i false))) := by
  rcases open_bools Tryz.underlying40 Tryz.underlying4 cellsB1 h with ⟨rfl, _⟩ | ⟨a, len, cap, V, rfl, _, hl, _, _, hc⟩
  · exact ⟨none, 0, [], rfl, fun h0 => absurd h0 (Nat.not_lt_zero _)⟩
  have hlen : ((List.range len).map V).length = len := by simp
  refine ⟨some a, cap, (List.range len).map V, by rw [hlen], fun h0 => ?_⟩
  rw [hlen] at h0
  have h1 := spot_none (hc 0 (by omega))
  obtain ⟨g, o, sp⟩ := a
  obtain rfl : sp = none := h1.1
  refine ⟨g, o, rfl, h1.2, fun i hi => ?_⟩
  rw [hlen] at hi
  have := hc i (by omega)
  rw [Addr.add_lit] at this
  rw [this, List.getD_eq_getElem?_getD]
  simp [hi]

theorem noStandN : Tryz.prog.wantsStandIn 3 = false := by kernel_rfl

theorem noStandNs : Tryz.prog.wantsStandIn 24 = false := by kernel_rfl

theorem noStandBs : Tryz.prog.wantsStandIn 40 = false := by kernel_rfl
end Go.Proofs.YtcnmfljpmpgnjaaGreatDoor

namespace Go.Proofs.YtcnmfljpmpgnjaaGreatDoor
open Go.ChangeShapes Go.WideShapes Go.ChangeAt Go.RowKit

theorem cells45 : Tryz.prog.cellsOf 281 = 1 := by kernel_rfl
theorem cells9 : Tryz.prog.cellsOf 9 = 1 := by kernel_rfl
theorem star : "*" ++ "errors.errorString" = "*errors.errorString" := by decide
theorem row27 (u : TypeId) (h : Tryz.prog.typeName? 3 u = some "*errors.errorString") : u = 261 :=
  typeName_ptr_named (nm := "errors.errorString") (by rw [star]; kernel_rfl) (by kernel_rfl) (by decide) u (by rw [star]; exact h)

/-- What a listed error gives: the variable's cell, the pointee's block, its text. -/
def Sent (W : World) (g : Nat) (a : Addr) (text : List UInt8) : Prop :=
  W.cell? ⟨g, 0, none⟩ = some (.iface 261 (.pointer (some a))) ∧ (∃ (s : ByteArray), W.cell? a = some (.string s) ∧ s.data.toList = text) ∧ ∃ (c : Array Value) (t : TypeId), W.heap[a.block]? = some (.cells c t (0, 0))

set_option maxRecDepth 100000 in
theorem sent_head {n : String} {text : List UInt8} {r : List (String × DataW Unit)} {W : World} {g : Nat}
    (h : laidMet Tryz.prog ((n, .iface "*errors.errorString" (.ptr (.agg [.lit (.string text)]))) :: r) W)
    (hg : Tryz.prog.globalNamed n = some g) (ht : (Tryz.prog.globals[g]?).map (·.type) = some 37) : ∃ a : Addr, Sent W g a text := by
  obtain ⟨ps, ⟨g0, t0, cs0, f0, p0, q0, hg0, ht0, hv0, hd0, _, e0⟩, _, hrows⟩ := h
  obtain rfl := Option.some.inj (hg.symm.trans hg0)
  obtain rfl := Option.some.inj (ht.symm.trans ht0)
  subst e0
  obtain ⟨l0⟩ := cs0
  have ok0 : ∀ u v, l0 = [.iface u v] → Value.okWide Tryz.prog W .any 0 u v := fun u v e => by
    subst e
    exact (hrows g 0 (by simp [MemPlace.row])).2 u v (by simpa using World.var?_cell hg0 hv0 0)
  obtain ⟨a0, s0, rfl, hc0, hs0, hz0, rfl⟩ := errorString_of_trod Tryz.underlying37 row27 Tryz.underlying261 Tryz.underlying281 rfl rfl Tryz.underlying9 cells45 cells9 hd0 ok0
  obtain ⟨c0, t0, hb0⟩ := (hrows a0.block a0.off (by simp [MemPlace.row])).1
  exact ⟨a0, by simpa using World.var?_cell hg0 hv0 0, ⟨s0, hc0, hs0⟩, c0, t0, hb0⟩

theorem Sent.ne {W : World} {g g' : Nat} {a a' : Addr} {t t' : List UInt8} (h : Sent W g a t) (h' : Sent W g' a' t') (hne : t ≠ t') : a ≠ a' := by
  rintro rfl
  obtain ⟨_, ⟨s, hs, rfl⟩, _⟩ := h
  obtain ⟨_, ⟨s', hs', rfl⟩, _⟩ := h'
  rw [hs] at hs'
  simp only [Option.some.injEq, Value.string.injEq] at hs'
  exact hne (by rw [hs'])

theorem etG : Tryz.prog.globalNamed "errors.errorType" = some 10 := by kernel_rfl
theorem rtT : (Tryz.prog.cutTypes.find? (·.1 == "internal/reflectlite.rtype")).map (·.2) = some 216 := by kernel_rfl
theorem oneRow : ((List.range Tryz.prog.types.size).filter fun t => Tryz.prog.rowNamed t [101, 114, 114, 111, 114]) = [37] := by kernel_rfl

/-- The listed errors. -/
def listed : List (String × DataW Unit) := Rows.handlesRow.laid.filter fun x => x.2.handleName?.isNone
def textOf : DataW Unit → List UInt8
  | .iface _ (.ptr (.agg [.lit (.string t)])) => t
  | _ => []
def T (i : Nat) : List UInt8 := (listed.map fun x => textOf x.2).getD i []
theorem T_ne : ∀ i : Fin 10, ∀ j : Fin 10, j.val ≠ i.val → T i.val ≠ T j.val := by decide +kernel

theorem handle_of {W : World} (h : laidMetH Tryz.prog Rows.handlesRow.laid W) : W.cell? ⟨10, 0, none⟩ = some (.iface 216 (.agg #[.pointer (some ⟨11, 37, none⟩)])) := by
  obtain ⟨_, h2⟩ := laidMetH_iff.1 h
  obtain ⟨name, u, ty, e1, e2, e3, e4, e5⟩ := h2 ("errors.errorType", Rows.laid_errors_errorType) (List.mem_filter.2 ⟨List.mem_cons_self .., rfl⟩)
  have en : name = [101, 114, 114, 111, 114] := (Option.some.inj e1).symm
  subst en
  obtain rfl := Option.some.inj (rtT.symm.trans e2)
  have hm : ty ∈ (List.range Tryz.prog.types.size).filter fun t => Tryz.prog.rowNamed t [101, 114, 114, 111, 114] := List.mem_filter.2 ⟨List.mem_range.2 e3, e4⟩
  rw [oneRow] at hm
  obtain rfl := List.mem_singleton.1 hm
  have hh : typeHandle Tryz.prog 37 = .pointer (some ⟨11, 37, none⟩) := by kernel_rfl
  rw [hh] at e5
  simpa using World.var?_cell etG e5 0
end Go.Proofs.YtcnmfljpmpgnjaaGreatDoor

namespace Go.Proofs.YtcnmfljpmpgnjaaGreatDoor
open Go.ChangeShapes Go.WideShapes Go.ChangeAt Go.RowKit

def gAt (i : Nat) : Nat := [8, 6, 7, 4, 2, 9, 0, 1, 5, 3].getD i 0

theorem sents {W : World} (h : laidMet Tryz.prog listed W) : ∃ S : Nat → Addr, ∀ i, i < 10 → Sent W (gAt i) (S i) (T i) := by
  have t0 := h
  have t1 := t0.tail
  have t2 := t1.tail
  have t3 := t2.tail
  have t4 := t3.tail
  have t5 := t4.tail
  have t6 := t5.tail
  have t7 := t6.tail
  have t8 := t7.tail
  have t9 := t8.tail
  obtain ⟨a0, s0⟩ := sent_head t0 (g := 8) (by kernel_rfl) (by kernel_rfl)
  obtain ⟨a1, s1⟩ := sent_head t1 (g := 6) (by kernel_rfl) (by kernel_rfl)
  obtain ⟨a2, s2⟩ := sent_head t2 (g := 7) (by kernel_rfl) (by kernel_rfl)
  obtain ⟨a3, s3⟩ := sent_head t3 (g := 4) (by kernel_rfl) (by kernel_rfl)
  obtain ⟨a4, s4⟩ := sent_head t4 (g := 2) (by kernel_rfl) (by kernel_rfl)
  obtain ⟨a5, s5⟩ := sent_head t5 (g := 9) (by kernel_rfl) (by kernel_rfl)
  obtain ⟨a6, s6⟩ := sent_head t6 (g := 0) (by kernel_rfl) (by kernel_rfl)
  obtain ⟨a7, s7⟩ := sent_head t7 (g := 1) (by kernel_rfl) (by kernel_rfl)
  obtain ⟨a8, s8⟩ := sent_head t8 (g := 5) (by kernel_rfl) (by kernel_rfl)
  obtain ⟨a9, s9⟩ := sent_head t9 (g := 3) (by kernel_rfl) (by kernel_rfl)
  refine ⟨fun i => [a0, a1, a2, a3, a4, a5, a6, a7, a8, a9].getD i a0, fun i hi => ?_⟩
  match i, hi with
  | 0, _ => exact s0
  | 1, _ => exact s1
  | 2, _ => exact s2
  | 3, _ => exact s3
  | 4, _ => exact s4
  | 5, _ => exact s5
  | 6, _ => exact s6
  | 7, _ => exact s7
  | 8, _ => exact s8
  | 9, _ => exact s9

theorem errs_of {W : World} (h : laidMetH Tryz.prog Rows.handlesRow.laid W) : ∃ A, Errs W.heap.size A W := by
  have hh := handle_of h
  obtain ⟨S, hS⟩ := sents (laidMetH_iff.1 h).1
  refine ⟨S, (hS 0 (by omega)).1, (hS 1 (by omega)).1, (hS 2 (by omega)).1, (hS 3 (by omega)).1, (hS 4 (by omega)).1, (hS 5 (by omega)).1, (hS 6 (by omega)).1, (hS 7 (by omega)).1, (hS 8 (by omega)).1, (hS 9 (by omega)).1, ?_, Nat.le_refl _, fun i hi => ?_, fun i j hi hj hne => ?_, hh⟩
  · exact cell_lt hh
  · obtain ⟨_, ⟨s, hs, _⟩, c, t, hb⟩ := hS i hi
    exact ⟨cell_lt hs, c, t, hb⟩
  · exact (hS i hi).ne (hS j hj) (T_ne ⟨i, hi⟩ ⟨j, hj⟩ (fun e => hne e.symm))
end Go.Proofs.YtcnmfljpmpgnjaaGreatDoor

namespace Go.Proofs.YtcnmfljpmpgnjaaGreatDoor
open Go.RowKit
open Tm (H Ob Sl Why)

theorem kpick_is (c : Int) (n : Nat) (w : World) (h0 : 0 < n) (hn : n < 4398046511104) (hc : -9223372036854775808 ≤ c) (hc2 : c ≤ 9223372036854775807) :
    Calls Tryz.prog 16 #[.int .i64 c, .int .i64 (n : Int)] w fun e w' => e = .returned (.int .i64 (pickN c n : Nat)) ∧ w' = w := by
  have HK : Hid ((pickN c n : Int) = (if c < 0 then -(c + 1) else c) % (n : Int)) := by
    show (pickN c n : Int) = _
    unfold pickN
    rw [Int.toNat_of_nonneg (Int.emod_nonneg _ (show (n : Int) ≠ 0 by omega))]
  generalize pickN c n = pk at *
  by_cases h1 : c < 0
  · go_enter Tryz.func16, Tryz.ntmps16
    go_wp2_with fail
    go_ret
    exact ⟨ret_int (by rw [HK.out, if_pos h1, ← Int.neg_tmod, Int.tmod_eq_emod_of_nonneg (by omega)]), rfl⟩
  · go_enter Tryz.func16, Tryz.ntmps16
    go_wp2_with fail
    go_ret
    exact ⟨ret_int (by rw [HK.out, if_neg (by omega)]), rfl⟩

theorem neq_same (w : World) (a : Addr) : (binOp .neq 37 (.iface 261 (.pointer (some a))) (.iface 261 (.pointer (some a)))).run Tryz.prog w = .ok (.bool false) w := by
  obtain ⟨i, hi, hic⟩ := Option.map_eq_some_iff.1 comp27
  obtain ⟨j, hj, _⟩ := Option.map_eq_some_iff.1 size45
  simp only [binOp]
  simp [Op.equal, Op.maxDepth, run_equalIn_iface_ptr_same w 9998 a Tryz.underlying37 Tryz.underlying261 hi hic hj]
theorem neq_other {w : World} {a b : Addr} {ca cb : Array Value} {ta tb : TypeId} (hne : a ≠ b) (ha : w.heap[a.block]? = some (.cells ca ta (0, 0))) (hb : w.heap[b.block]? = some (.cells cb tb (0, 0))) :
    (binOp .neq 37 (.iface 261 (.pointer (some a))) (.iface 261 (.pointer (some b)))).run Tryz.prog w = .ok (.bool true) w := by
  obtain ⟨i, hi, hic⟩ := Option.map_eq_some_iff.1 comp27
  obtain ⟨j, hj, hjs⟩ := Option.map_eq_some_iff.1 size45
  simp only [binOp]
  simp [Op.equal, Op.maxDepth, run_equalIn_iface_ptr_other w 9998 Tryz.underlying37 Tryz.underlying261 hi hic hj (of_decide_eq_true hjs) hne ha hb]

/-- The reason of an error, as a value. -/
def whyE (A : Nat → Addr) (y : Why) : Value := if y.reason = 0 then .nilIface else errV A y.reason.toNat

theorem why_any (A : Nat → Addr) (w : World) (v : Value) (y : Why) (h : ErrIs A w v y) :
    Calls Tryz.prog 27 #[v] w fun e w' => e = .returned (whyE A y) ∧ w' = w := by
  rcases h with ⟨h0, rfl⟩ | ⟨n, fb, h1, h2, h3, rfl, h5, h6, h7⟩
  · have HE : Hid (whyE A y = .nilIface) := by show whyE A y = _; unfold whyE; rw [if_pos h0]
    go_enter Tryz.func27, Tryz.ntmps27
    go_wp2_with fail
    go_ret
    exact ⟨by rw [HE.out]; rfl, rfl⟩
  · have HE : Hid (whyE A y = errV A n) := by show whyE A y = _; unfold whyE; rw [if_neg (by omega), h3]; simp
    have hta := fun w' => run_typeAssert_ptr (P := Tryz.prog) w' 101 37 _ (.pointer (some ⟨fb, 0, none⟩)) Tryz.underlying101
    generalize errV A n = ev at *
    go_enter Tryz.func27, Tryz.ntmps27
    go_wp2_with fail
    go_ret
    exact ⟨by rw [HE.out]; rfl, rfl⟩

section
variable {R : (Nat → Prop) → World → Nat → H → Prop} {N : Nat} {A : Nat → Addr} {B : Nat} {w0 w w' : World} {p : Nat} {h : H}

/-- A heap of the program's that a law has made: nothing of what was there (below B) has turned. -/
structure Hp (R : (Nat → Prop) → World → Nat → H → Prop) (N : Nat) (A : Nat → Addr) (B : Nat) (w0 : World) (T : Nat → Prop) (w : World) (p : Nat) (h : H) : Prop where
  at' : ∃ S, R S w p h ∧ ∀ b, S b → B ≤ b ∧ ¬ T b
  errs : Errs N A w
  le : N ≤ B
  below : Below B w0 w
  lt : ∀ b, T b → b < w.heap.size
  tb : ∀ b, T b → B ≤ b

/-- What a call that answers a number leaves. -/
def HP (R : (Nat → Prop) → World → Nat → H → Prop) (N : Nat) (A : Nat → Addr) (B : Nat) (w0 : World) (T : Nat → Prop) (w : World) (p : Nat) (n : Int) (y : Why) (h' : H) (e : Ending) (w' : World) : Prop :=
  ∃ ev, e = .returned (.tuple #[.int .i64 n, ev]) ∧ ErrIs A w' ev y ∧ Hp R N A B w0 T w' p h' ∧ w.heap.size ≤ w'.heap.size ∧ ∀ b, T b → w'.heap[b]? = w.heap[b]?
def DP (R : (Nat → Prop) → World → Nat → H → Prop) (N : Nat) (A : Nat → Addr) (B : Nat) (w0 : World) (T : Nat → Prop) (w : World) (p : Nat) (y : Why) (h' : H) (e : Ending) (w' : World) : Prop :=
  ∃ ev, e = .returned ev ∧ ErrIs A w' ev y ∧ Hp R N A B w0 T w' p h' ∧ w.heap.size ≤ w'.heap.size ∧ ∀ b, T b → w'.heap[b]? = w.heap[b]?
def BP (R : (Nat → Prop) → World → Nat → H → Prop) (N : Nat) (A : Nat → Addr) (B : Nat) (w0 : World) (T : Nat → Prop) (w : World) (p : Nat) (n : Bool) (y : Why) (h' : H) (e : Ending) (w' : World) : Prop :=
  ∃ ev, e = .returned (.tuple #[.bool n, ev]) ∧ ErrIs A w' ev y ∧ Hp R N A B w0 T w' p h' ∧ w.heap.size ≤ w'.heap.size ∧ ∀ b, T b → w'.heap[b]? = w.heap[b]?
def CP (R : (Nat → Prop) → World → Nat → H → Prop) (N : Nat) (A : Nat → Addr) (B : Nat) (w0 : World) (T : Nat → Prop) (w : World) (p : Nat) (n : Int) (h' : H) (e : Ending) (w' : World) : Prop :=
  e = .returned (.int .i64 n) ∧ Hp R N A B w0 T w' p h' ∧ w.heap.size ≤ w'.heap.size ∧ ∀ b, T b → w'.heap[b]? = w.heap[b]?

variable {T : Nat → Prop}

theorem Hp.next {S S' : Nat → Prop} {h' : H} (x : Hp R N A B w0 T w p h) (hS : ∀ b, S b → B ≤ b ∧ ¬ T b) (hB : B ≤ w.heap.size) (hr : R S' w' p h') (hk : Kept S w w') (hn : ∀ b, S' b → S b ∨ w.heap.size ≤ b) : Hp R N A B w0 T w' p h' ∧ w.heap.size ≤ w'.heap.size ∧ ∀ b, T b → w'.heap[b]? = w.heap[b]? := by
  refine ⟨⟨⟨S', hr, fun b hb => ?_⟩, x.errs.off' hk (fun b hb => Nat.le_trans x.le (hS b hb).1), x.le, x.below.trans ⟨hk.os, hk.tape, hk.output, hk.size, fun b hb => hk.block b (by omega) (fun q => by have := (hS b q).1; omega)⟩, fun b hb => Nat.lt_of_lt_of_le (x.lt b hb) hk.size, x.tb⟩, hk.size, fun b hb => hk.block b (x.lt b hb) (fun q => (hS b q).2 hb)⟩
  rcases hn b hb with q | q
  · exact hS b q
  · exact ⟨by omega, fun t => by have := x.lt b t; omega⟩

theorem Hp.size (x : Hp R N A B w0 T w p h) (h0 : B ≤ w0.heap.size) : B ≤ w.heap.size := Nat.le_trans h0 x.below.size

theorem Hp.grow (ok : ROK R) (x : Hp R N A B w0 T w p h) (hB : B ≤ w.heap.size) (hb : Below w.heap.size w w') : Hp R N A B w0 T w' p h := by
  obtain ⟨S, hr, hS⟩ := x.at'
  exact ⟨⟨S, ok.same _ _ _ _ _ hr (fun b hs => hb.block b (ok.lt _ _ _ _ hr b hs)) hb.size, hS⟩, x.errs.below hb x.errs.le, x.le, x.below.trans (hb.mono hB), fun b hb' => Nat.lt_of_lt_of_le (x.lt b hb') hb.size, x.tb⟩

theorem Hp.make (K : ProgOK R N A) (x : Hp R N A B w0 T w p h) (hB : B ≤ w.heap.size) {M : List Bool} (hM : Tm.Marked h M) (hl : h.l.length + 1 < 4398046511104) (hc : 0 < h.classes.length) (c : Int) :
    Calls Tryz.prog 25 #[.pointer (some ⟨p, 0, none⟩), .int .i64 c] w (HP R N A B w0 T w p (h.ofClass M c).1.1 (h.ofClass M c).1.2 (h.ofClass M c).2) := by
  obtain ⟨S, hr, hS⟩ := x.at'
  refine (K.make S w p h M c hr x.errs (fun b hb => Nat.le_trans x.le (hS b hb).1) hM hl hc).mono ?_
  rintro e w' ⟨ev, S', rfl, he, hr', hk, _, hn⟩
  exact ⟨ev, rfl, he.1, x.next hS hB hr' hk hn⟩
theorem Hp.extern (K : ProgOK R N A) (x : Hp R N A B w0 T w p h) (hB : B ≤ w.heap.size) {M : List Bool} (hM : Tm.Marked h M) (hl : h.l.length + 1 < 4398046511104) (c : Int) :
    Calls Tryz.prog 31 #[.pointer (some ⟨p, 0, none⟩), .int .i64 c] w (HP R N A B w0 T w p (h.extern M c).1.1 (h.extern M c).1.2 (h.extern M c).2) := by
  obtain ⟨S, hr, hS⟩ := x.at'
  refine (K.extern S w p h M c hr x.errs (fun b hb => Nat.le_trans x.le (hS b hb).1) hM hl).mono ?_
  rintro e w' ⟨ev, S', rfl, he, hr', hk, _, hn⟩
  exact ⟨ev, rfl, he.1, x.next hS hB hr' hk hn⟩
theorem Hp.get (K : ProgOK R N A) (x : Hp R N A B w0 T w p h) (hB : B ≤ w.heap.size) (z i : Int) (hz : z < 9223372036854775808) :
    Calls Tryz.prog 41 #[.pointer (some ⟨p, 0, none⟩), .int .i64 z, .int .i64 i] w (HP R N A B w0 T w p (h.get z i).1 (h.get z i).2 h) := by
  obtain ⟨S, hr, hS⟩ := x.at'
  refine (K.get S w p h z i hr x.errs (fun b hb => Nat.le_trans x.le (hS b hb).1) hz).mono ?_
  rintro e w' ⟨ev, S', rfl, he, hr', hk, _, hn⟩
  exact ⟨ev, rfl, he.1, x.next hS hB hr' hk hn⟩
theorem Hp.follow (K : ProgOK R N A) (x : Hp R N A B w0 T w p h) (hB : B ≤ w.heap.size) (z i : Int) (hz : z < 9223372036854775808) :
    Calls Tryz.prog 42 #[.pointer (some ⟨p, 0, none⟩), .int .i64 z, .int .i64 i] w (HP R N A B w0 T w p (h.follow z i).1.1 (h.follow z i).1.2 (h.follow z i).2) := by
  obtain ⟨S, hr, hS⟩ := x.at'
  refine (K.follow S w p h z i hr x.errs (fun b hb => Nat.le_trans x.le (hS b hb).1) hz).mono ?_
  rintro e w' ⟨ev, S', rfl, he, hr', hk, _, hn⟩
  exact ⟨ev, rfl, he.1, x.next hS hB hr' hk hn⟩
theorem Hp.ref (K : ProgOK R N A) (x : Hp R N A B w0 T w p h) (hB : B ≤ w.heap.size) (k z : Int) (hz : z < 9223372036854775808) :
    Calls Tryz.prog 17 #[.pointer (some ⟨p, 0, none⟩), .int .i64 k, .int .i64 z] w (HP R N A B w0 T w p (h.ref k z).1.1 (h.ref k z).1.2 (h.ref k z).2) := by
  obtain ⟨S, hr, hS⟩ := x.at'
  refine (K.ref S w p h k z hr x.errs (fun b hb => Nat.le_trans x.le (hS b hb).1) hz).mono ?_
  rintro e w' ⟨ev, S', rfl, he, hr', hk, _, hn⟩
  exact ⟨ev, rfl, he.1, x.next hS hB hr' hk hn⟩
theorem Hp.set (K : ProgOK R N A) (x : Hp R N A B w0 T w p h) (hB : B ≤ w.heap.size) (z i v : Int) (hz : z < 9223372036854775808) :
    Calls Tryz.prog 36 #[.pointer (some ⟨p, 0, none⟩), .int .i64 z, .int .i64 i, .int .i64 v] w (DP R N A B w0 T w p (h.set z i v).1 (h.set z i v).2) := by
  obtain ⟨S, hr, hS⟩ := x.at'
  refine (K.set S w p h z i v hr x.errs (fun b hb => Nat.le_trans x.le (hS b hb).1) hz).mono ?_
  rintro e w' ⟨ev, S', rfl, he, hr', hk, hn⟩
  exact ⟨ev, rfl, he.1, x.next hS hB hr' hk hn⟩
theorem Hp.point (K : ProgOK R N A) (x : Hp R N A B w0 T w p h) (hB : B ≤ w.heap.size) (z i v : Int) (hz : z < 9223372036854775808) (hv : v < 9223372036854775808) :
    Calls Tryz.prog 43 #[.pointer (some ⟨p, 0, none⟩), .int .i64 z, .int .i64 i, .int .i64 v] w (DP R N A B w0 T w p (h.point z i v).1 (h.point z i v).2) := by
  obtain ⟨S, hr, hS⟩ := x.at'
  refine (K.point S w p h z i v hr x.errs (fun b hb => Nat.le_trans x.le (hS b hb).1) hz hv).mono ?_
  rintro e w' ⟨ev, S', rfl, he, hr', hk, hn⟩
  exact ⟨ev, rfl, he.1, x.next hS hB hr' hk hn⟩
theorem Hp.free (K : ProgOK R N A) (x : Hp R N A B w0 T w p h) (hB : B ≤ w.heap.size) (z : Int) (hz : z < 9223372036854775808) :
    Calls Tryz.prog 23 #[.pointer (some ⟨p, 0, none⟩), .int .i64 z] w (DP R N A B w0 T w p (h.freed z).1 (h.freed z).2) := by
  obtain ⟨S, hr, hS⟩ := x.at'
  refine (K.free S w p h z hr x.errs (fun b hb => Nat.le_trans x.le (hS b hb).1) hz).mono ?_
  rintro e w' ⟨ev, S', rfl, he, hr', hk, hn⟩
  exact ⟨ev, rfl, he.1, x.next hS hB hr' hk hn⟩
theorem Hp.same (K : ProgOK R N A) (x : Hp R N A B w0 T w p h) (hB : B ≤ w.heap.size) (z v : Int) (hz : z < 9223372036854775808) (hv : v < 9223372036854775808) :
    Calls Tryz.prog 40 #[.pointer (some ⟨p, 0, none⟩), .int .i64 z, .int .i64 v] w (BP R N A B w0 T w p (h.same z v).1 (h.same z v).2 h) := by
  obtain ⟨S, hr, hS⟩ := x.at'
  refine (K.same S w p h z v hr x.errs (fun b hb => Nat.le_trans x.le (hS b hb).1) hz hv).mono ?_
  rintro e w' ⟨ev, rfl, he, hr', hk⟩
  exact ⟨ev, rfl, he.1, x.next hS hB hr' hk (fun b hb => Or.inl hb)⟩
theorem Hp.collect (K : ProgOK R N A) (x : Hp R N A B w0 T w p h) (hB : B ≤ w.heap.size) {M : List Bool} (hM : Tm.Marked h M) :
    Calls Tryz.prog 20 #[.pointer (some ⟨p, 0, none⟩)] w (CP R N A B w0 T w p (h.collNum M h.l.length) (h.collTo M h.l.length)) := by
  obtain ⟨S, hr, hS⟩ := x.at'
  refine (K.collect S w p h M hr x.errs (fun b hb => Nat.le_trans x.le (hS b hb).1) hM).mono ?_
  rintro e w' ⟨rfl, S', hr', hk, hn⟩
  exact ⟨rfl, x.next hS hB hr' hk hn⟩
theorem Hp.stats (K : ProgOK R N A) (x : Hp R N A B w0 T w p h) (hB : B ≤ w.heap.size) :
    Calls Tryz.prog 21 #[.pointer (some ⟨p, 0, none⟩)] w fun e w' => e = .returned (.agg (stats6 h)) ∧ Hp R N A B w0 T w' p h ∧ Below w.heap.size w w' := by
  obtain ⟨S, hr, hS⟩ := x.at'
  refine (K.stats S w p h hr x.errs).mono ?_
  rintro e w' ⟨rfl, hb⟩
  exact ⟨rfl, x.grow K.ok hB hb, hb⟩

theorem ErrIs.nil {v : Value} {y : Why} (h : ErrIs A w v y) (h0 : y.reason = 0) : v = .nilIface := by
  rcases h with q | ⟨n, fb, h1, _, h3, _⟩
  · exact q.2
  · omega
theorem ErrIs.some {v : Value} {y : Why} (h : ErrIs A w v y) (h0 : y.reason ≠ 0) : ∃ fb, v = .iface 101 (.pointer (some ⟨fb, 0, none⟩)) := by
  rcases h with q | ⟨n, fb, h1, _, h3, h4, _⟩
  · exact absurd q.1 h0
  · exact ⟨fb, h4⟩
end
end Go.Proofs.YtcnmfljpmpgnjaaGreatDoor
