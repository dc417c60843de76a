import Derived.Test.YtcnmfljpmpgnjaaGreatDoorJ07
import Derived.Test.YtcnmfljpmpgnjaaGreatDoorJ04
namespace Go.Proofs.YtcnmfljpmpgnjaaGreatDoor
open Go.RowKit Go.Extern.Stop Go.Stop Go.Extern
open Tm (H Ob Sl Why)

set_option maxRecDepth 100000 in
set_option maxHeartbeats 4000000 in
theorem as_hit (e t : Addr) (old : Value) (w : World) (hg : w.cell? ⟨10, 0, none⟩ = some (.iface 216 (.agg #[.pointer (some ⟨11, 37, none⟩)]))) (ht0 : w.cell? t = some old) (hf0 : w.frozen? t = false) :
    Calls Tryz.prog 84 #[.iface 118 (.pointer (some e)), .iface 120 (.pointer (some t))] w fun ev w' => ev = .returned (.bool true) ∧ w' = ((((w.alloc (.cells #[.pointer (some t)] 120)).alloc (.cells #[.pointer (some ⟨11, 120, none⟩), .pointer (some ⟨w.heap.size, 0, none⟩), .int .u64 150] 171)).alloc (.cells #[.pointer (some ⟨11, 120, none⟩), .pointer (some ⟨w.heap.size, 0, none⟩), .int .u64 150] 171)).alloc (.cells #[.pointer (some e)] 118)).setCell t (.pointer (some e)) := by
  have h6 := @run_callFunc_extern Tryz.prog 113 _ (fun args => ReflectliteValue.unpack (args.getD 0 (.tuple #[]))) Tryz.func113 (by kernel_rfl) (by kernel_rfl) (by kernel_rfl) (by kernel_rfl)
  have h7 := @run_callFunc_extern Tryz.prog 114 _ (ReflectliteValue.methodAny (ReflectliteValue.valueError "reflectlite.Value.Type" 0) (fun t _ _ _ => ReflectliteType.toType t)) Tryz.func114 (by kernel_rfl) (by kernel_rfl) (by kernel_rfl) (by kernel_rfl)
  have h8 := @run_callFunc_extern Tryz.prog 115 _ (ReflectliteValue.method (ReflectliteValue.valueError "reflectlite.Value.IsNil" 0) ReflectliteValue.isNil) Tryz.func115 (by kernel_rfl) (by kernel_rfl) (by kernel_rfl) (by kernel_rfl)
  have h27 := @run_callFunc_extern Tryz.prog 208 _ (ReflectliteType.abiMethod fun t => do pure (.int .u8 (← Rtype.kind t))) Tryz.func208 (by kernel_rfl) (by kernel_rfl) (by kernel_rfl) (by kernel_rfl)
  have h37 := @run_callFunc_extern Tryz.prog 221 _ (ReflectliteType.method ReflectliteType.elem) Tryz.func221 (by kernel_rfl) (by kernel_rfl) (by kernel_rfl) (by kernel_rfl)
  have h38 := @run_callFunc_extern Tryz.prog 222 _ (ReflectliteType.relation "Implements" ReflectliteType.implements_) Tryz.func222 (by kernel_rfl) (by kernel_rfl) (by kernel_rfl) (by kernel_rfl)
  have h10 := @run_callFunc_extern Tryz.prog 125 _ ReflectliteType.typeOf Tryz.func125 (by kernel_rfl) (by kernel_rfl) (by kernel_rfl) (by kernel_rfl)
  have h35 := @run_callFunc_extern Tryz.prog 219 _ (ReflectliteType.relation "AssignableTo" ReflectliteType.assignableTo) Tryz.func219 (by kernel_rfl) (by kernel_rfl) (by kernel_rfl) (by kernel_rfl)
  have h11 := @run_callFunc_extern Tryz.prog 154 _ (ReflectliteValue.method (ReflectliteValue.valueError "reflectlite.Value.Elem" 0) ReflectliteValue.elem) Tryz.func154 (by kernel_rfl) (by kernel_rfl) (by kernel_rfl) (by kernel_rfl)
  have h12 := @run_callFunc_extern Tryz.prog 155 _ ReflectliteValue.set Tryz.func155 (by kernel_rfl) (by kernel_rfl) (by kernel_rfl) (by kernel_rfl)
  have tO := as_typeOf25
  have mA := as_methodAssignableTo
  have a25 := as_assignable25
  have v25 := as_valueOf25
  have f6 := as_valueOf27
  have f7 := as_type27
  have mK := as_methodKind
  have mE := as_methodElem
  have mI := as_methodImplements
  have k27 := as_kind27
  have k25 := as_kind25
  have e27 := as_elem27
  have i25 := as_implements25
  have n8 := as_isNil27 ⟨w.heap.size, 0, none⟩ t ((w.alloc (.cells #[.pointer (some t)] 120)).alloc (.cells #[.pointer (some ⟨11, 120, none⟩), .pointer (some ⟨w.heap.size, 0, none⟩), .int .u64 150] 171)) (by simp)
  have hlt : 10 < w.heap.size := World.block_lt_of_cell? _ _ hg
  have hg2 : ((w.alloc (.cells #[.pointer (some t)] 120)).alloc (.cells #[.pointer (some ⟨11, 120, none⟩), .pointer (some ⟨w.heap.size, 0, none⟩), .int .u64 150] 171)).cell? ⟨10, 0, none⟩ = some (.iface 216 (.agg #[.pointer (some ⟨11, 37, none⟩)])) := by
    rw [World.cell?_alloc_lt _ _ ⟨10, 0, none⟩ (by simp; omega), World.cell?_alloc_lt _ _ ⟨10, 0, none⟩ hlt]; exact hg
  have htl : t.block < w.heap.size := by
    rcases Nat.lt_or_ge t.block w.heap.size with h | h
    · exact h
    · simp [World.cell?, Array.getElem?_eq_none h] at ht0
  have el := as_elemV27 ⟨w.heap.size, 0, none⟩ t (((w.alloc (.cells #[.pointer (some t)] 120)).alloc (.cells #[.pointer (some ⟨11, 120, none⟩), .pointer (some ⟨w.heap.size, 0, none⟩), .int .u64 150] 171)).alloc (.cells #[.pointer (some ⟨11, 120, none⟩), .pointer (some ⟨w.heap.size, 0, none⟩), .int .u64 150] 171)) (by rw [World.cell?_alloc_lt _ _ ⟨w.heap.size, 0, none⟩ (by simp; omega)]; simp)
  have st := as_set25 t ⟨w.heap.size + 1 + 1 + 1, 0, none⟩ e old ((((w.alloc (.cells #[.pointer (some t)] 120)).alloc (.cells #[.pointer (some ⟨11, 120, none⟩), .pointer (some ⟨w.heap.size, 0, none⟩), .int .u64 150] 171)).alloc (.cells #[.pointer (some ⟨11, 120, none⟩), .pointer (some ⟨w.heap.size, 0, none⟩), .int .u64 150] 171)).alloc (.cells #[.pointer (some e)] 118))
    (by rw [World.cell?_alloc_at _ _ _ _ (by simp)]; rfl)
    (by rw [World.cell?_alloc_lt _ _ t (by simp; omega), World.cell?_alloc_lt _ _ t (by simp; omega), World.cell?_alloc_lt _ _ t (by simp; omega), World.cell?_alloc_lt _ _ t htl]; exact ht0)
    (by rw [World.frozen?_alloc_old _ _ t (by simp; omega), World.frozen?_alloc_old _ _ t (by simp; omega), World.frozen?_alloc_old _ _ t (by simp; omega), World.frozen?_alloc_old _ _ t (Nat.ne_of_lt htl)]; exact hf0)
  go_enter Tryz.func84, Tryz.ntmps84
  go_wp2
  refine wp_loop_rounds 1 ?_
  rw [rounds_succ]
  go_wp2
  go_ret
  exact ⟨rfl, rfl⟩


set_option maxRecDepth 100000 in
set_option maxHeartbeats 4000000 in
theorem as_miss (e t : Addr) (old : Value) (w : World) (hg : w.cell? ⟨10, 0, none⟩ = some (.iface 216 (.agg #[.pointer (some ⟨11, 37, none⟩)]))) (ht0 : w.cell? t = some old) (_ : w.frozen? t = false) :
    Calls Tryz.prog 84 #[.iface 261 (.pointer (some e)), .iface 120 (.pointer (some t))] w fun ev w' => ev = .returned (.bool false) ∧ Below w.heap.size w w' := by
  have h6 := @run_callFunc_extern Tryz.prog 113 _ (fun args => ReflectliteValue.unpack (args.getD 0 (.tuple #[]))) Tryz.func113 (by kernel_rfl) (by kernel_rfl) (by kernel_rfl) (by kernel_rfl)
  have h7 := @run_callFunc_extern Tryz.prog 114 _ (ReflectliteValue.methodAny (ReflectliteValue.valueError "reflectlite.Value.Type" 0) (fun t _ _ _ => ReflectliteType.toType t)) Tryz.func114 (by kernel_rfl) (by kernel_rfl) (by kernel_rfl) (by kernel_rfl)
  have h8 := @run_callFunc_extern Tryz.prog 115 _ (ReflectliteValue.method (ReflectliteValue.valueError "reflectlite.Value.IsNil" 0) ReflectliteValue.isNil) Tryz.func115 (by kernel_rfl) (by kernel_rfl) (by kernel_rfl) (by kernel_rfl)
  have h27 := @run_callFunc_extern Tryz.prog 208 _ (ReflectliteType.abiMethod fun t => do pure (.int .u8 (← Rtype.kind t))) Tryz.func208 (by kernel_rfl) (by kernel_rfl) (by kernel_rfl) (by kernel_rfl)
  have h37 := @run_callFunc_extern Tryz.prog 221 _ (ReflectliteType.method ReflectliteType.elem) Tryz.func221 (by kernel_rfl) (by kernel_rfl) (by kernel_rfl) (by kernel_rfl)
  have h38 := @run_callFunc_extern Tryz.prog 222 _ (ReflectliteType.relation "Implements" ReflectliteType.implements_) Tryz.func222 (by kernel_rfl) (by kernel_rfl) (by kernel_rfl) (by kernel_rfl)
  have h10 := @run_callFunc_extern Tryz.prog 125 _ ReflectliteType.typeOf Tryz.func125 (by kernel_rfl) (by kernel_rfl) (by kernel_rfl) (by kernel_rfl)
  have h35 := @run_callFunc_extern Tryz.prog 219 _ (ReflectliteType.relation "AssignableTo" ReflectliteType.assignableTo) Tryz.func219 (by kernel_rfl) (by kernel_rfl) (by kernel_rfl) (by kernel_rfl)
  have h11 := @run_callFunc_extern Tryz.prog 154 _ (ReflectliteValue.method (ReflectliteValue.valueError "reflectlite.Value.Elem" 0) ReflectliteValue.elem) Tryz.func154 (by kernel_rfl) (by kernel_rfl) (by kernel_rfl) (by kernel_rfl)
  have h12 := @run_callFunc_extern Tryz.prog 155 _ ReflectliteValue.set Tryz.func155 (by kernel_rfl) (by kernel_rfl) (by kernel_rfl) (by kernel_rfl)
  have tO := isTypeOf
  have mA := as_methodAssignableTo
  have a25 := as_assignableE
  have nA := as_noAsE
  have uE := noUnwrapE
  have vE := noUnwrapsE
  have f6 := as_valueOf27
  have f7 := as_type27
  have mK := as_methodKind
  have mE := as_methodElem
  have mI := as_methodImplements
  have k27 := as_kind27
  have k25 := as_kind25
  have e27 := as_elem27
  have i25 := as_implements25
  have n8 := as_isNil27 ⟨w.heap.size, 0, none⟩ t ((w.alloc (.cells #[.pointer (some t)] 120)).alloc (.cells #[.pointer (some ⟨11, 120, none⟩), .pointer (some ⟨w.heap.size, 0, none⟩), .int .u64 150] 171)) (by simp)
  have hlt : 10 < w.heap.size := World.block_lt_of_cell? _ _ hg
  have hg2 : ((w.alloc (.cells #[.pointer (some t)] 120)).alloc (.cells #[.pointer (some ⟨11, 120, none⟩), .pointer (some ⟨w.heap.size, 0, none⟩), .int .u64 150] 171)).cell? ⟨10, 0, none⟩ = some (.iface 216 (.agg #[.pointer (some ⟨11, 37, none⟩)])) := by
    rw [World.cell?_alloc_lt _ _ ⟨10, 0, none⟩ (by simp; omega), World.cell?_alloc_lt _ _ ⟨10, 0, none⟩ hlt]; exact hg
  have htl : t.block < w.heap.size := by
    rcases Nat.lt_or_ge t.block w.heap.size with h | h
    · exact h
    · simp [World.cell?, Array.getElem?_eq_none h] at ht0
  go_enter Tryz.func84, Tryz.ntmps84
  go_wp2
  refine wp_loop_rounds 1 ?_
  rw [rounds_succ]
  go_wp2
  go_ret
  refine ⟨rfl, ?_⟩
  repeat (first | exact Below.alloc0 _ _ | refine Below.alloc ?_ (by simp; try omega) _)

end Go.Proofs.YtcnmfljpmpgnjaaGreatDoor

namespace Go.Proofs.YtcnmfljpmpgnjaaGreatDoor
open Go.RowKit Go.Extern.Stop Go.Stop Go.Extern
open Tm (H Ob Sl Why)

theorem idx (A : Nat → Addr) (i : Nat) (hi : i < 10) (w : World) : (Instr.index 167 (.agg #[.iface 261 (.pointer (some (A 0))), .iface 261 (.pointer (some (A 1))), .iface 261 (.pointer (some (A 2))), .iface 261 (.pointer (some (A 3))), .iface 261 (.pointer (some (A 4))), .iface 261 (.pointer (some (A 5))), .iface 261 (.pointer (some (A 6))), .iface 261 (.pointer (some (A 7))), .iface 261 (.pointer (some (A 8))), .iface 261 (.pointer (some (A 9)))]) (.int .i64 (i : Int))).run Tryz.prog w = .ok (.iface 261 (.pointer (some (A i)))) w := by
  have hc : i = 0 ∨ i = 1 ∨ i = 2 ∨ i = 3 ∨ i = 4 ∨ i = 5 ∨ i = 6 ∨ i = 7 ∨ i = 8 ∨ i = 9 := by omega
  rcases hc with rfl | rfl | rfl | rfl | rfl | rfl | rfl | rfl | rfl | rfl
  all_goals (clear hi; show _ = _; kernel_rfl)

theorem is_in {N : Nat} {A : Nat → Addr} {w : World} {ev : Value} {y : Why} (hE : Errs N A w) (he : InErr A w ev y) (n : Nat) (h1 : 1 ≤ n) (hn : y.reason = (n : Int)) (i : Nat) (hi : i < 10) :
    Calls Tryz.prog 96 #[ev, .iface 261 (.pointer (some (A i)))] w fun e w' => e = .returned (.bool (decide (i + 1 = n))) ∧ w' = w := by
  rcases he with ⟨_, h0⟩ | ⟨m, m1, m2, m3, m4, rfl⟩ | ⟨b, m, m1, m2, m3, rfl, m5, m6, m7⟩
  · omega
  · obtain rfl : m = n := by omega
    by_cases e : i + 1 = m
    · subst e; rw [decide_eq_true rfl]; exact is_same _ _
    · rw [decide_eq_false e]
      obtain ⟨_, ca, ta, ha⟩ := hE.blk (m - 1) (by omega)
      obtain ⟨_, cb, tb, hb⟩ := hE.blk i hi
      exact is_other _ _ ca cb ta tb _ (hE.ne _ _ (by omega) hi (by omega)) ha hb
  · obtain rfl : m = n := by omega
    by_cases e : i + 1 = m
    · subst e; rw [decide_eq_true rfl]; exact is_bad_same _ _ _ m7
    · rw [decide_eq_false e]
      obtain ⟨_, ca, ta, ha⟩ := hE.blk (m - 1) (by omega)
      obtain ⟨_, cb, tb, hb⟩ := hE.blk i hi
      exact is_bad_other _ _ _ ca cb ta tb _ m7 (hE.ne _ _ (by omega) hi (by omega)) ha hb

set_option maxRecDepth 100000 in
set_option maxHeartbeats 4000000 in
theorem reason_any {N : Nat} {A : Nat → Addr} {w : World} {ev : Value} {y : Why} (hE : Errs N A w) (he : InErr A w ev y) (n : Nat) (h1 : 1 ≤ n) (h2 : n ≤ 10) (hn : y.reason = (n : Int)) :
    Calls Tryz.prog 83 #[ev] w fun e w' => e = .returned (.iface 261 (.pointer (some (A (n - 1))))) ∧ w' = w := by
  have HI := fun i hi => hide (is_in hE he n h1 hn i hi)
  have g0 := hE.g0
  have g1 := hE.g1
  have g2 := hE.g2
  have g3 := hE.g3
  have g4 := hE.g4
  have g5 := hE.g5
  have g6 := hE.g6
  have g7 := hE.g7
  have g8 := hE.g8
  have g9 := hE.g9
  clear hE he
  go_enter Tryz.func83, Tryz.ntmps83
  go_wp2_with fail
  go_loop [16] (fun iv => ∃ i : Nat, i < n ∧ iv = .int .i64 i) (fun iv => 10 - (intOf iv).toNat)
  case atStart => exact ⟨0, by omega, rfl⟩
  case round =>
    obtain ⟨i, hi, rfl⟩ := hrel
    have H := HI i (by omega)
    have hix := fun w' => idx A i (by omega) w'
    have bi : (i : Int) < 10 := by omega
    clear HI
    by_cases e : i + 1 = n
    · subst e
      rw [decide_eq_true rfl] at H
      go_wp2_with fail
      refine H.out.mono ?_
      rintro e w' ⟨rfl, rfl⟩
      go_wp2_with fail
      go_ret
      exact ⟨rfl, rfl⟩
    · rw [decide_eq_false e] at H
      have hin : i + 1 < n := by omega
      clear e
      go_wp2_with fail
      refine H.out.mono ?_
      rintro e w' ⟨rfl, rfl⟩
      go_wp2_with fail
      go_round
      case rel => exact ⟨i + 1, hin, by go_num⟩
      case measure => simp [intOf]; omega
end Go.Proofs.YtcnmfljpmpgnjaaGreatDoor

namespace Go.Proofs.YtcnmfljpmpgnjaaGreatDoor
open Go.RowKit
open Tm (H Ob Sl Why)

/-- .. in a block from B on. -/
def ErrIn (A : Nat → Addr) (B : Nat) (w : World) (v : Value) (y : Why) : Prop := ErrIs A w v y ∧ ∀ b, v = .iface 101 (.pointer (some ⟨b, 0, none⟩)) → B ≤ b
theorem ErrIn.mono {A : Nat → Addr} {B B' : Nat} {w : World} {v : Value} {y : Why} (h : ErrIn A B w v y) (hb : B' ≤ B) : ErrIn A B' w v y := ⟨h.1, fun b e => Nat.le_trans hb (h.2 b e)⟩
theorem ErrIn.nil (A : Nat → Addr) (B : Nat) (w : World) (y : Why) (h : y.reason = 0) : ErrIn A B w .nilIface y := ⟨Or.inl ⟨h, rfl⟩, fun b e => by cases e⟩

/-- What a call of the program's that answers a number leaves (R: how a heap of the program's lies). -/
def HPostR (R : (Nat → Prop) → World → Nat → H → Prop) (S : Nat → Prop) (w : World) (a : Nat) (A : Nat → Addr) (n : Int) (y : Why) (h' : H) (e : Ending) (w' : World) : Prop :=
  ∃ ev S', e = .returned (.tuple #[.int .i64 n, ev]) ∧ ErrIn A w.heap.size w' ev y ∧ R S' w' a h' ∧ Kept S w w' ∧ (∀ b, S b → S' b) ∧ ∀ b, S' b → S b ∨ w.heap.size ≤ b
/-- .. that answers an error alone. -/
def DPostR (R : (Nat → Prop) → World → Nat → H → Prop) (S : Nat → Prop) (w : World) (a : Nat) (A : Nat → Addr) (y : Why) (h' : H) (e : Ending) (w' : World) : Prop :=
  ∃ ev S', e = .returned ev ∧ ErrIn A w.heap.size w' ev y ∧ R S' w' a h' ∧ Kept S w w' ∧ ∀ b, S' b → S b ∨ w.heap.size ≤ b
end Go.Proofs.YtcnmfljpmpgnjaaGreatDoor

namespace Go.Proofs.YtcnmfljpmpgnjaaGreatDoor
open Go.RowKit
open Tm (H Ob Sl Why)

theorem set_after (W V : World) (hb : Below W.heap.size W V) (t : Nat) (u v : Value) (hc : W.cell? ⟨t, 0, none⟩ = some v) :
    (V.setCell ⟨t, 0, none⟩ u).cell? ⟨t, 0, none⟩ = some u ∧ (∀ x i, x < W.heap.size → x ≠ t → (V.setCell ⟨t, 0, none⟩ u).cell? ⟨x, i, none⟩ = W.cell? ⟨x, i, none⟩ ∧ (V.setCell ⟨t, 0, none⟩ u).frozen? ⟨x, i, none⟩ = W.frozen? ⟨x, i, none⟩) ∧ Below t W (V.setCell ⟨t, 0, none⟩ u) := by
  have ht : t < W.heap.size := World.block_lt_of_cell? W ⟨t, 0, none⟩ hc
  have hv : V.cell? ⟨t, 0, none⟩ = some v := (hb.cell ht).trans hc
  have h3 : Below t W V := hb.mono (Nat.le_of_lt ht)
  refine ⟨World.cell?_setCell_same V ⟨t, 0, none⟩ u hv, fun x i hx hne => ⟨?_, ?_⟩, ?_⟩
  · rw [World.cell?_setCell_other V _ _ _ (fun e => hne (congrArg Addr.block e).symm)]; exact hb.cell hx
  · rw [World.frozen?_setCell]; exact hb.frozen hx
  · exact Below.setCell h3 (Nat.le_refl t) u

theorem below_four (W : World) (o1 o2 o3 o4 : Obj) : Below W.heap.size W ((((W.alloc o1).alloc o2).alloc o3).alloc o4) := by
  refine Below.alloc (Below.alloc (Below.alloc (Below.alloc0 W o1) ?_ _) ?_ _) ?_ _
  · rw [World.size_alloc]; omega
  · rw [World.size_alloc, World.size_alloc]; omega
  · rw [World.size_alloc, World.size_alloc, World.size_alloc]; omega

/-- errors.As finds the bad handle. -/
theorem as_hit2 (b t : Nat) (W : World) (hg : W.cell? ⟨10, 0, none⟩ = some (.iface 216 (.agg #[.pointer (some ⟨11, 37, none⟩)]))) (hc : W.cell? ⟨t, 0, none⟩ = some (.pointer none)) (hf : W.frozen? ⟨t, 0, none⟩ = false) :
    Calls Tryz.prog 84 #[.iface 118 (.pointer (some ⟨b, 0, none⟩)), .iface 120 (.pointer (some ⟨t, 0, none⟩))] W fun e w' => e = .returned (.bool true) ∧ w'.cell? ⟨t, 0, none⟩ = some (.pointer (some ⟨b, 0, none⟩)) ∧ (∀ x i, x < W.heap.size → x ≠ t → w'.cell? ⟨x, i, none⟩ = W.cell? ⟨x, i, none⟩ ∧ w'.frozen? ⟨x, i, none⟩ = W.frozen? ⟨x, i, none⟩) ∧ Below t W w' := by
  refine (as_hit ⟨b, 0, none⟩ ⟨t, 0, none⟩ (.pointer none) W hg hc hf).mono ?_
  rintro e w' ⟨rfl, rfl⟩
  exact ⟨rfl, set_after W _ (below_four W _ _ _ _) t _ _ hc⟩

set_option maxRecDepth 100000 in
set_option maxHeartbeats 4000000 in
theorem refusal_any {N : Nat} {A : Nat → Addr} {w : World} {ev : Value} {y : Why} (hE : Errs N A w) (he : InErr A w ev y) :
    Calls Tryz.prog 50 #[ev] w fun e w' => ∃ ev', e = .returned ev' ∧ ErrIn A w.heap.size w' ev' y ∧ Below w.heap.size w w' := by
  have hi := ifaceE
  have HRe := fun n h1 h2 h3 => hide (reason_any hE he n h1 h2 h3)
  have hlE := hE.lt
  have hle := hE.le
  have hgE := hE.gt
  rcases he with ⟨rfl, h0⟩ | ⟨m, m1, m2, m3, m4, rfl⟩ | ⟨b, m, m1, m2, m3, rfl, m5, m6, m7⟩
  · go_enter Tryz.func50, Tryz.ntmps50
    go_wp2_with fail
    go_ret
    exact ⟨_, rfl, ErrIn.nil _ _ _ _ h0, Below.refl _ _⟩
  · have HR := HRe m m1 m2 m3
    clear HRe
    have HAs : Hid (Calls Tryz.prog 84 #[.iface 261 (.pointer (some (A (m - 1)))), .iface 120 (.pointer (some ⟨w.heap.size + 1, 0, none⟩))] ((w.alloc (.cells #[.int .i64 0, .iface 261 (.pointer (some (A (m - 1))))] 103)).alloc (.cells #[.pointer none] 118)) fun e w' => e = .returned (.bool false) ∧ Below (w.heap.size + 2) ((w.alloc (.cells #[.int .i64 0, .iface 261 (.pointer (some (A (m - 1))))] 103)).alloc (.cells #[.pointer none] 118)) w') := by
      have := as_miss (A (m - 1)) ⟨w.heap.size + 1, 0, none⟩ (.pointer none) ((w.alloc (.cells #[.int .i64 0, .iface 261 (.pointer (some (A (m - 1))))] 103)).alloc (.cells #[.pointer none] 118)) (by rw [World.cell?_alloc_lt _ _ _ (by simp; omega), World.cell?_alloc_lt _ _ _ (show 10 < _ by omega)]; exact hgE) (by rw [World.cell?_alloc_at _ _ _ _ (by simp)]; rfl) (World.frozen?_alloc_at _ _ _ _ (by simp))
      refine hide (this.mono ?_)
      rintro e w' ⟨rfl, hb⟩
      exact ⟨rfl, hb.mono (by rw [World.size_alloc, World.size_alloc]; omega)⟩
    obtain ⟨an, ea⟩ : ∃ an, A (m - 1) = an := ⟨_, rfl⟩
    rw [ea] at HR HAs ⊢
    have HEa := hide ea
    have HM3 := hide m3
    have HM4 := hide m4
    clear ea hE m3 m4 hgE
    go_enter Tryz.func50, Tryz.ntmps50
    go_wp2_with (first
      | (go_at_call 83; refine HR.out.mono ?_; rintro e w' ⟨rfl, rfl⟩)
      | (go_at_call 84; refine HAs.out.mono ?_; rintro e w2 ⟨rfl, hb2⟩; have HB2 := hide hb2; clear hb2)
      | fail)
    go_ret
    refine ⟨_, rfl, ⟨Or.inr ⟨m, _, by omega, m2, HM3.out, rfl, ?_, ?_, ?_⟩, fun b e => by simp at e; omega⟩, ?_⟩
    · have := HB2.out.size; simp at this; omega
    · rw [HB2.out.cell (by simp), World.cell?_alloc_lt _ _ _ (by simp), World.cell?_alloc_new, HM4.out]; rfl
    · rw [HB2.out.cell (by simp), World.cell?_alloc_lt _ _ _ (by simp), World.cell?_alloc_new]; unfold errV; rw [HEa.out]; rfl
    · exact (Below.alloc0 _ _).trans (((Below.refl _ _).alloc (by simp) _).trans (HB2.out.mono (by omega)))
  · have HR := HRe m m1 m2 m3
    clear HRe
    obtain ⟨an, ea⟩ : ∃ an, A (m - 1) = an := ⟨_, rfl⟩
    rw [ea] at HR m7
    have hAs2 : Hid (Calls Tryz.prog 84 #[.iface 118 (.pointer (some ⟨b, 0, none⟩)), .iface 120 (.pointer (some ⟨w.heap.size + 1, 0, none⟩))] ((w.alloc (.cells #[.int .i64 0, .iface 261 (.pointer (some an))] 103)).alloc (.cells #[.pointer none] 118)) fun e w' => e = .returned (.bool true) ∧ w'.cell? ⟨w.heap.size + 1, 0, none⟩ = some (.pointer (some ⟨b, 0, none⟩)) ∧ w'.cell? ⟨b, 0, none⟩ = some (.int .i64 y.handle) ∧ w'.cell? ⟨w.heap.size, 0, none⟩ = some (.int .i64 0) ∧ w'.cell? ⟨w.heap.size, 1, none⟩ = some (.iface 261 (.pointer (some an))) ∧ w'.frozen? ⟨w.heap.size, 0, none⟩ = false ∧ Below w.heap.size w w' ∧ w.heap.size + 2 ≤ w'.heap.size) := by
      obtain ⟨W2, eW⟩ : ∃ W2, W2 = (w.alloc (.cells #[.int .i64 0, .iface 261 (.pointer (some an))] 103)).alloc (.cells #[.pointer none] 118) := ⟨_, rfl⟩
      have hc : W2.cell? ⟨w.heap.size + 1, 0, none⟩ = some (.pointer none) := by rw [eW, World.cell?_alloc_at _ _ _ _ (by simp)]; rfl
      have hz : W2.heap.size = w.heap.size + 2 := by rw [eW, World.size_alloc, World.size_alloc]
      have hb0 : Below w.heap.size w W2 := by rw [eW]; exact (Below.alloc0 _ _).trans ((Below.refl _ _).alloc (by simp) _)
      have hc0 : W2.cell? ⟨w.heap.size, 0, none⟩ = some (.int .i64 0) := by rw [eW, World.cell?_alloc_lt _ _ _ (by simp), World.cell?_alloc_new]; rfl
      have hc1 : W2.cell? ⟨w.heap.size, 1, none⟩ = some (.iface 261 (.pointer (some an))) := by rw [eW, World.cell?_alloc_lt _ _ _ (by simp), World.cell?_alloc_new]; rfl
      have hf0 : W2.frozen? ⟨w.heap.size, 0, none⟩ = false := by rw [eW, World.frozen?_alloc_past _ _ _ (by simp)]; exact World.frozen?_alloc_new _ _ _ _
      have hf1 : W2.frozen? ⟨w.heap.size + 1, 0, none⟩ = false := by rw [eW]; exact World.frozen?_alloc_at _ _ _ _ (by simp)
      have hg2 : W2.cell? ⟨10, 0, none⟩ = some (.iface 216 (.agg #[.pointer (some ⟨11, 37, none⟩)])) := by rw [hb0.cell (show 10 < _ by omega)]; exact hgE
      rw [← eW]
      clear eW
      refine hide ((as_hit2 b (w.heap.size + 1) W2 hg2 hc hf1).mono ?_)
      rintro e w' ⟨rfl, q1, q2, q3⟩
      refine ⟨rfl, q1, ?_, ?_, ?_, ?_, hb0.trans (q3.mono (by omega)), by have := q3.size; omega⟩
      · rw [(q2 b 0 (by omega) (by omega)).1, hb0.cell m5]; exact m6
      · rw [(q2 w.heap.size 0 (by omega) (by omega)).1]; exact hc0
      · rw [(q2 w.heap.size 1 (by omega) (by omega)).1]; exact hc1
      · rw [(q2 w.heap.size 0 (by omega) (by omega)).2]; exact hf0
    have HM3 := hide m3
    have HEa := hide ea
    clear ea hE m3 hgE m6 m7
    go_enter Tryz.func50, Tryz.ntmps50
    go_wp2_with (first
      | (go_at_call 83; refine HR.out.mono ?_; rintro e w' ⟨rfl, rfl⟩)
      | (go_at_call 84; refine hAs2.out.mono ?_; rintro e w2 ⟨rfl, q1, q2, q3, q4, q5, q6, q7⟩; have HB2 := hide q6; clear q6)
      | fail)
    go_ret
    refine ⟨_, rfl, ⟨Or.inr ⟨m, _, by omega, m2, HM3.out, rfl, ?_, ?_, ?_⟩, fun b e => by simp at e; omega⟩, ?_⟩
    · simp; omega
    · exact World.cell?_setCell_same _ _ _ q3
    · rw [World.cell?_setCell_other _ _ _ _ (fun e => by have := congrArg Addr.off e; simp at this)]; unfold errV; rw [HEa.out]; exact q4
    · exact HB2.out.setCell (by simp) _
end Go.Proofs.YtcnmfljpmpgnjaaGreatDoor
