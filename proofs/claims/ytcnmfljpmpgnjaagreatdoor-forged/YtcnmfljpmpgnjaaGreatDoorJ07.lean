import Derived.Test.YtcnmfljpmpgnjaaGreatDoorJ06
import Derived.Test.YtcnmfljpmpgnjaaGreatDoorJ05
import Derived.Stop.Asserts
import Derived.RowKitTokens
namespace Go.Proofs.YtcnmfljpmpgnjaaGreatDoor
open Go.RowKit Go.Maps
open Tm (H Ob Sl Why)

/-- A heap of the program's, wherever it lies. -/
def PR (S : Nat → Prop) (w : World) (a : Nat) (h : H) : Prop := ∃ tag Y, PRep S tag w a Y h

theorem of_bdG {h : H} (g : Tm.Good h) (x : Int) (hr : (h.of x).2.reason = 0) : 0 < (h.of x).1 ∧ (h.of x).1 ≤ (h.l.length : Int) ∧ ((x % 4).toNat = 1 ∨ (x % 4).toNat = 2 → (h.ob (h.of x).1).gone = false) := by
  unfold H.of at *
  split at hr
  · simp at hr
  · rename_i h1
    rw [if_neg h1]
    split at hr
    · simp at hr
    · rename_i h2
      rw [if_neg h2]
      split at hr
      · simp at hr
      · rename_i h3
        rw [if_neg h3]
        have h4 := slot_bd h x h2
        have h5 := g.slots (x % 4).toNat (h.slot x).toNat (by omega)
        refine ⟨by simp only; omega, h5.2.1, fun hk => g.held _ _ hk (by omega) (fun e => h3 (Or.inl e))⟩

theorem object_bdG {h : H} (g : Tm.Good h) (x : Int) (hr : (h.object x).2.reason = 0) : ∃ j : Nat, j < h.l.length ∧ (h.object x).1 = (j : Int) + 1 ∧ alive h j = true ∧ h.ob (h.object x).1 = h.l.getD j Tm.ob0 := by
  unfold H.object at *
  split at hr
  · simp at hr
  · rename_i h1
    rw [if_neg h1]
    obtain ⟨b1, b2, _⟩ := of_bdG g x hr
    obtain ⟨j, hj, e⟩ := key_at b1 b2
    refine ⟨j, hj, e, ?_, ?_⟩
    · have : ¬ (h.ob (h.of x).1).gone = true := fun hg => h1 ⟨hr, hg⟩
      rw [e, ob_succ] at this
      unfold alive; simpa using this
    · rw [e, ob_succ]

set_option maxRecDepth 100000 in
set_option maxHeartbeats 2000000 in
theorem numberH_any {S : Nat → Prop} {tag : Nat → Nat × Nat} {w : World} {a : Nat} {Y : PLay} {h : H} {N : Nat} {A : Nat → Addr} (hE : Errs N A w) (r : PRep S tag w a Y h) (x : Int) (hx : x < 9223372036854775808) :
    Calls Tryz.prog 51 #[.pointer (some ⟨a, 0, none⟩), .int .i64 x] w (ObjPost A w (h.object x).1 (h.object x).2) := by
  have HO := hide (objectT_any hE r x hx)
  have c1 := r.store
  have c2 := r.tables
  have hi := ifaceE
  have g4 := hE.g4
  by_cases hc : (h.of x).2.reason = 0
  · obtain ⟨b1, b2, _⟩ := of_bdG r.good x hc
    have hm := r.good.many
    have HF := find_any r (h.of x).1 (by omega) (by omega)
    have HHc := hide hc
    cases hg : (h.ob (h.of x).1).gone
    · have e1 : h.object x = h.of x := by unfold H.object; rw [if_neg (by rw [hg]; simp)]
      rw [e1]
      have e2 : findV h Y (h.of x).1 = .tuple #[.pointer (some ⟨Y.ob ((h.of x).1 - 1).toNat, 0, none⟩), .bool true] := by
        unfold findV; rw [if_pos ⟨b1, b2, by unfold alive; unfold H.ob at hg; rw [hg]; rfl⟩]
      rw [e2] at HF
      have HF := hide HF
      obtain ⟨y, ey⟩ : ∃ y, h.of x = y := ⟨_, rfl⟩
      rw [ey] at HO HF HHc ⊢
      clear ey e1 e2 hg r hE b1 b2 hc
      go_enter Tryz.func51, Tryz.ntmps51
      go_wp2_with (first
        | (go_at_call 85
           refine HO.out.mono ?_
           rintro e w' ⟨ev, rfl, _, _, hz, _⟩
           obtain ⟨rfl, rfl⟩ := hz HHc.out)
        | (go_at_call 86; refine HF.out.mono ?_; rintro e w' ⟨rfl, rfl⟩)
        | fail)
      go_ret2
      exact ⟨_, rfl, Or.inl ⟨rfl, HHc.out⟩, Below.refl _ _, fun _ => ⟨rfl, rfl⟩, fun h => absurd HHc.out h⟩
    · have e1 : h.object x = (0, ⟨5, x⟩) := by unfold H.object; rw [if_pos ⟨hc, hg⟩]
      rw [e1]
      have e2 : findV h Y (h.of x).1 = .tuple #[.pointer none, .bool false] := by
        unfold findV; rw [if_neg (by rintro ⟨_, _, q⟩; unfold alive at q; unfold H.ob at hg; rw [hg] at q; cases q)]
      rw [e2] at HF
      have HF := hide HF
      obtain ⟨y, ey⟩ : ∃ y, h.of x = y := ⟨_, rfl⟩
      rw [ey] at HO HF HHc
      clear ey e1 e2 hg r hE b1 b2 hc
      go_enter Tryz.func51, Tryz.ntmps51
      go_wp2_with (first
        | (go_at_call 85
           refine HO.out.mono ?_
           rintro e w' ⟨ev, rfl, _, _, hz, _⟩
           obtain ⟨rfl, rfl⟩ := hz HHc.out)
        | (go_at_call 86; refine HF.out.mono ?_; rintro e w' ⟨rfl, rfl⟩)
        | fail)
      go_region
      all_goals go_wp2_with fail
      all_goals go_ret2
      all_goals exact ⟨_, rfl, bad_new _ 5 x (by omega) (by omega), below_box _ _, fun h => by simp at h, fun _ => ⟨_, rfl⟩⟩
  · have e1 : h.object x = h.of x := by unfold H.object; rw [if_neg (fun q => hc q.1)]
    have hz0 : (h.of x).1 = 0 := by
      unfold H.of at hc ⊢
      split
      · rfl
      · rename_i h1
        rw [if_neg h1] at hc
        split
        · rfl
        · rename_i h2
          rw [if_neg h2] at hc
          split
          · rfl
          · rename_i h3; rw [if_neg h3] at hc; exact absurd rfl hc
    rw [e1]
    have HHc := hide hc
    have HZ := hide hz0
    obtain ⟨y, ey⟩ : ∃ y, h.of x = y := ⟨_, rfl⟩
    rw [ey] at HO HHc HZ ⊢
    clear ey e1 hc r hE hz0
    go_enter Tryz.func51, Tryz.ntmps51
    go_wp2_with (first
      | (go_at_call 85
         refine HO.out.mono ?_
         rintro e w' ⟨ev, rfl, he, hb, _, hz⟩
         obtain ⟨b, rfl⟩ := hz HHc.out
         have HB := hide hb
         have HEr := hide he
         clear hb he hz)
      | fail)
    go_ret2
    exact ⟨_, by rw [HZ.out]; rfl, HEr.out, HB.out, fun h => absurd h HHc.out, fun _ => ⟨_, rfl⟩⟩
end Go.Proofs.YtcnmfljpmpgnjaaGreatDoor

namespace Go.Proofs.YtcnmfljpmpgnjaaGreatDoor
open Go.RowKit Go.Maps
open Tm (H Ob Sl Why)

set_option maxRecDepth 100000 in
set_option maxHeartbeats 2000000 in
theorem perhapsH_any {S : Nat → Prop} {tag : Nat → Nat × Nat} {w : World} {a : Nat} {Y : PLay} {h : H} {N : Nat} {A : Nat → Addr} (hE : Errs N A w) (r : PRep S tag w a Y h) (x : Int) (hx : x < 9223372036854775808) :
    Calls Tryz.prog 74 #[.pointer (some ⟨a, 0, none⟩), .int .i64 x] w (ObjPost A w (h.perhaps x).1 (h.perhaps x).2) := by
  by_cases h0 : x = 0
  · subst h0
    have e1 : h.perhaps 0 = (0, Tm.fine) := by unfold H.perhaps; rw [if_pos rfl]
    rw [e1]
    go_enter Tryz.func74, Tryz.ntmps74
    go_wp2_with fail
    go_ret2
    exact ⟨_, rfl, Or.inl ⟨rfl, rfl⟩, Below.refl _ _, fun _ => ⟨rfl, rfl⟩, fun h => absurd rfl h⟩
  · have e1 : h.perhaps x = h.object x := by unfold H.perhaps; rw [if_neg h0]
    rw [e1]
    have h0' : (x == 0) = false := by simpa using h0
    have HN := hide (numberH_any hE r x hx)
    clear e1
    go_enter Tryz.func74, Tryz.ntmps74
    go_wp2_with fail
    refine HN.out.mono ?_
    rintro e w' ⟨ev, rfl, hp⟩
    have HP := hide hp
    clear hp
    go_wp2_with fail
    go_ret2
    exact ⟨_, rfl, HP.out⟩

/-- What 'object' gives. -/
def OPost (A : Nat → Addr) (w : World) (Y : PLay) (n : Int) (y : Why) (e : Ending) (w' : World) : Prop :=
  ∃ ev, e = .returned (.tuple #[if y.reason = 0 then .pointer (some ⟨Y.ob (n - 1).toNat, 0, none⟩) else .pointer none, ev]) ∧ InErr A w' ev y ∧ Below w.heap.size w w' ∧ (y.reason = 0 → ev = .nilIface ∧ w' = w) ∧ (y.reason ≠ 0 → ∃ b, ev = .iface 118 (.pointer (some ⟨b, 0, none⟩)))

set_option maxRecDepth 100000 in
set_option maxHeartbeats 2000000 in
theorem objectH_any {S : Nat → Prop} {tag : Nat → Nat × Nat} {w : World} {a : Nat} {Y : PLay} {h : H} {N : Nat} {A : Nat → Addr} (hE : Errs N A w) (r : PRep S tag w a Y h) (x : Int) (hx : x < 9223372036854775808) :
    Calls Tryz.prog 69 #[.pointer (some ⟨a, 0, none⟩), .int .i64 x] w (OPost A w Y (h.object x).1 (h.object x).2) := by
  have HN := hide (numberH_any hE r x hx)
  have c1 := r.store
  have hi := ifaceE
  by_cases hc : (h.object x).2.reason = 0
  · obtain ⟨j, hj, e1, ha, _⟩ := object_bdG r.good x hc
    have hm := r.good.many
    have HF := find_any r (h.object x).1 (by omega) (by omega)
    have e2 : findV h Y (h.object x).1 = .tuple #[.pointer (some ⟨Y.ob ((h.object x).1 - 1).toNat, 0, none⟩), .bool true] := by
      unfold findV; rw [if_pos ⟨by omega, by omega, by rw [e1, show ((j : Int) + 1 - 1).toNat = j from by omega]; exact ha⟩]
    rw [e2] at HF
    have HF := hide HF
    have HHc := hide hc
    obtain ⟨y, ey⟩ : ∃ y, h.object x = y := ⟨_, rfl⟩
    rw [ey] at HN HF HHc ⊢
    obtain ⟨ob, eo⟩ : ∃ ob, Y.ob (y.1 - 1).toNat = ob := ⟨_, rfl⟩
    rw [eo] at HF
    have HEo := hide eo
    clear ey e1 e2 hc r hE eo
    go_enter Tryz.func69, Tryz.ntmps69
    go_wp2_with (first
      | (go_at_call 51
         refine HN.out.mono ?_
         rintro e w' ⟨ev, rfl, _, _, hz, _⟩
         obtain ⟨rfl, rfl⟩ := hz HHc.out)
      | (go_at_call 86; refine HF.out.mono ?_; rintro e w' ⟨rfl, rfl⟩)
      | fail)
    go_ret2
    exact ⟨_, by rw [if_pos HHc.out, HEo.out]; rfl, Or.inl ⟨rfl, HHc.out⟩, Below.refl _ _, fun _ => ⟨rfl, rfl⟩, fun h => absurd HHc.out h⟩
  · have HHc := hide hc
    obtain ⟨y, ey⟩ : ∃ y, h.object x = y := ⟨_, rfl⟩
    rw [ey] at HN HHc ⊢
    clear ey hc r hE
    go_enter Tryz.func69, Tryz.ntmps69
    go_wp2_with (first
      | (go_at_call 51
         refine HN.out.mono ?_
         rintro e w' ⟨ev, rfl, he, hb, _, hz⟩
         obtain ⟨b, rfl⟩ := hz HHc.out
         have HB := hide hb
         have HEr := hide he
         clear hb he hz)
      | fail)
    go_ret2
    exact ⟨_, by rw [if_neg HHc.out]; rfl, HEr.out, HB.out, fun h => absurd h HHc.out, fun _ => ⟨_, rfl⟩⟩
end Go.Proofs.YtcnmfljpmpgnjaaGreatDoor

namespace Go.Proofs.YtcnmfljpmpgnjaaGreatDoor
open Go.RowKit Go.Extern.Stop Go.Stop Go.Extern
open Tm (H Ob Sl Why)

/-! errors.Is at the errors that there are -/
def compF : TypeId → Sem Value := fun t => do Rtype.noPackHeld "Comparable" t; pure (.bool (← typeInfo t).comparable)
theorem isTypeOf (v : Value) (w : World) : (Extern.ReflectliteType.typeOf #[.iface 261 v]).run Tryz.prog w = .ok (.iface 216 (.agg #[.pointer (some ⟨11, 261, none⟩)])) w := by kernel_rfl
theorem isComparable (w : World) : ((Extern.ReflectliteType.method compF) #[.agg #[.pointer (some ⟨11, 261, none⟩)]]).run Tryz.prog w = .ok (.bool true) w := by kernel_rfl
theorem isMethodComparable (v : Value) (w : World) : (Go.method 393 216 v "Comparable").run Tryz.prog w = .ok (220, v) w := by kernel_rfl
theorem noIsE (v : Value) (xT : TypeId) (w : World) : (Instr.typeAssert (.iface 261 v) xT 226 true).run Tryz.prog w = .ok (.tuple #[.nilIface, .bool false]) w := run_typeAssert_lacksB Tryz.underlying226 (by kernel_rfl) (by kernel_rfl) v xT w
theorem noUnwrapE (v : Value) (xT : TypeId) (w : World) : (Instr.typeAssert (.iface 261 v) xT 223 true).run Tryz.prog w = .ok (.tuple #[.nilIface, .bool false]) w := run_typeAssert_lacksB Tryz.underlying223 (by kernel_rfl) (by kernel_rfl) v xT w
theorem noUnwrapsE (v : Value) (xT : TypeId) (w : World) : (Instr.typeAssert (.iface 261 v) xT 224 true).run Tryz.prog w = .ok (.tuple #[.nilIface, .bool false]) w := run_typeAssert_lacksB Tryz.underlying224 (by kernel_rfl) (by kernel_rfl) v xT w
theorem noIsB (v : Value) (xT : TypeId) (w : World) : (Instr.typeAssert (.iface 118 v) xT 226 true).run Tryz.prog w = .ok (.tuple #[.nilIface, .bool false]) w := run_typeAssert_lacksB Tryz.underlying226 (by kernel_rfl) (by kernel_rfl) v xT w
theorem hasUnwrapB (v : Value) (xT : TypeId) (w : World) : (Instr.typeAssert (.iface 118 v) xT 223 true).run Tryz.prog w = .ok (.tuple #[.iface 118 v, .bool true]) w := run_typeAssert_hasB Tryz.underlying223 (by kernel_rfl) v xT w
theorem methodUnwrapB (v : Value) (w : World) : (Go.method 393 118 v "Unwrap").run Tryz.prog w = .ok (214, v) w := by kernel_rfl

set_option maxRecDepth 100000 in
set_option maxHeartbeats 4000000 in
theorem is_same (a : Addr) (w : World) :
    Calls Tryz.prog 96 #[.iface 261 (.pointer (some a)), .iface 261 (.pointer (some a))] w fun e w' => e = .returned (.bool true) ∧ w' = w := by
  have h8 := @run_callFunc_extern Tryz.prog 125 _ Extern.ReflectliteType.typeOf Tryz.func125 (by kernel_rfl) (by kernel_rfl) (by kernel_rfl) (by kernel_rfl)
  have h32 := @run_callFunc_extern Tryz.prog 220 _ (Extern.ReflectliteType.method compF) Tryz.func220 (by kernel_rfl) (by kernel_rfl) (by kernel_rfl) (by kernel_rfl)
  have tT := isTypeOf
  have cT := isComparable
  have mR := isMethodComparable
  have heq := eql_same w a
  go_enter Tryz.func96, Tryz.ntmps96
  go_wp2
  refine wp_loop_rounds 1 ?_
  rw [rounds_succ]
  go_wp2
  go_ret
  exact ⟨rfl, rfl⟩

set_option maxRecDepth 100000 in
set_option maxHeartbeats 4000000 in
theorem is_other (a b : Addr) (ca cb : Array Value) (ta tb : TypeId) (w : World) (hne : a ≠ b) (ha : w.heap[a.block]? = some (.cells ca ta (0, 0))) (hb : w.heap[b.block]? = some (.cells cb tb (0, 0))) :
    Calls Tryz.prog 96 #[.iface 261 (.pointer (some a)), .iface 261 (.pointer (some b))] w fun e w' => e = .returned (.bool false) ∧ w' = w := by
  have h8 := @run_callFunc_extern Tryz.prog 125 _ Extern.ReflectliteType.typeOf Tryz.func125 (by kernel_rfl) (by kernel_rfl) (by kernel_rfl) (by kernel_rfl)
  have h32 := @run_callFunc_extern Tryz.prog 220 _ (Extern.ReflectliteType.method compF) Tryz.func220 (by kernel_rfl) (by kernel_rfl) (by kernel_rfl) (by kernel_rfl)
  have tT := isTypeOf
  have cT := isComparable
  have mR := isMethodComparable
  have nE := noIsE
  have uE := noUnwrapE
  have vE := noUnwrapsE
  have heq := eql_other hne ha hb
  clear ha hb
  go_enter Tryz.func96, Tryz.ntmps96
  go_wp2
  refine wp_loop_rounds 1 ?_
  rw [rounds_succ]
  go_wp2
  go_ret
  exact ⟨rfl, rfl⟩

set_option maxRecDepth 100000 in
set_option maxHeartbeats 4000000 in
theorem is_bad_same (pb : Nat) (b : Addr) (w : World) (h1 : w.cell? ⟨pb, 1, none⟩ = some (.iface 261 (.pointer (some b)))) :
    Calls Tryz.prog 96 #[.iface 118 (.pointer (some ⟨pb, 0, none⟩)), .iface 261 (.pointer (some b))] w fun e w' => e = .returned (.bool true) ∧ w' = w := by
  have h8 := @run_callFunc_extern Tryz.prog 125 _ Extern.ReflectliteType.typeOf Tryz.func125 (by kernel_rfl) (by kernel_rfl) (by kernel_rfl) (by kernel_rfl)
  have h32 := @run_callFunc_extern Tryz.prog 220 _ (Extern.ReflectliteType.method compF) Tryz.func220 (by kernel_rfl) (by kernel_rfl) (by kernel_rfl) (by kernel_rfl)
  have tT := isTypeOf
  have cT := isComparable
  have mR := isMethodComparable
  have nB := noIsB
  have uB := hasUnwrapB
  have mU := methodUnwrapB
  have heq := eql_same w b
  have hty := run_eql_iface_types (P := Tryz.prog) 118 261 (.pointer (some ⟨pb, 0, none⟩)) (.pointer (some b)) Tryz.underlying37 (by decide) w
  go_enter Tryz.func96, Tryz.ntmps96
  go_wp2
  refine wp_loop_rounds 2 ?_
  rw [rounds_succ]
  go_wp2
  rw [rounds_succ]
  go_wp2
  go_ret
  exact ⟨rfl, rfl⟩

set_option maxRecDepth 100000 in
set_option maxHeartbeats 4000000 in
theorem is_bad_other (pb : Nat) (a b : Addr) (ca cb : Array Value) (ta tb : TypeId) (w : World) (h1 : w.cell? ⟨pb, 1, none⟩ = some (.iface 261 (.pointer (some a)))) (hne : a ≠ b) (ha : w.heap[a.block]? = some (.cells ca ta (0, 0))) (hb : w.heap[b.block]? = some (.cells cb tb (0, 0))) :
    Calls Tryz.prog 96 #[.iface 118 (.pointer (some ⟨pb, 0, none⟩)), .iface 261 (.pointer (some b))] w fun e w' => e = .returned (.bool false) ∧ w' = w := by
  have h8 := @run_callFunc_extern Tryz.prog 125 _ Extern.ReflectliteType.typeOf Tryz.func125 (by kernel_rfl) (by kernel_rfl) (by kernel_rfl) (by kernel_rfl)
  have h32 := @run_callFunc_extern Tryz.prog 220 _ (Extern.ReflectliteType.method compF) Tryz.func220 (by kernel_rfl) (by kernel_rfl) (by kernel_rfl) (by kernel_rfl)
  have tT := isTypeOf
  have cT := isComparable
  have mR := isMethodComparable
  have nE := noIsE
  have uE := noUnwrapE
  have vE := noUnwrapsE
  have nB := noIsB
  have uB := hasUnwrapB
  have mU := methodUnwrapB
  have heq := eql_other hne ha hb
  have hty := run_eql_iface_types (P := Tryz.prog) 118 261 (.pointer (some ⟨pb, 0, none⟩)) (.pointer (some b)) Tryz.underlying37 (by decide) w
  clear ha hb
  go_enter Tryz.func96, Tryz.ntmps96
  go_wp2
  refine wp_loop_rounds 2 ?_
  rw [rounds_succ]
  go_wp2
  rw [rounds_succ]
  go_wp2
  go_ret
  exact ⟨rfl, rfl⟩
end Go.Proofs.YtcnmfljpmpgnjaaGreatDoor

namespace Go.Proofs.YtcnmfljpmpgnjaaGreatDoor
open Go.RowKit Go.Extern.Stop Go.Stop Go.Extern
open Tm (H Ob Sl Why)

theorem as_valueOf27 (t : Addr) (w : World) : (ReflectliteValue.unpack (.iface 120 (.pointer (some t)))).run Tryz.prog w
    = .ok (.agg #[.pointer (some ⟨11, 120, none⟩), .pointer (some ⟨w.heap.size, 0, none⟩), .int .u64 150]) (w.alloc (.cells #[.pointer (some t)] 120)) := by kernel_rfl
theorem as_type27 (a : Addr) (w : World) : (ReflectliteValue.methodAny (ReflectliteValue.valueError "reflectlite.Value.Type" 0) (fun t _ _ _ => ReflectliteType.toType t) #[.agg #[.pointer (some ⟨11, 120, none⟩), .pointer (some a), .int .u64 150]]).run Tryz.prog w
    = .ok (.iface 216 (.agg #[.pointer (some ⟨11, 120, none⟩)])) w := by kernel_rfl
theorem as_methodKind (h : Value) (w : World) : (Go.method 393 216 (.agg #[h]) "Kind").run Tryz.prog w = .ok (208, h) w := by kernel_rfl
theorem as_kind27 (w : World) : ((ReflectliteType.abiMethod fun t => (fun a : Nat => Value.int IntKind.u8 (a : Int)) <$> Rtype.kind t) #[.pointer (some ⟨11, 120, none⟩)]).run Tryz.prog w = .ok (.int .u8 22) w := by kernel_rfl
theorem as_kind25 (w : World) : ((ReflectliteType.abiMethod fun t => (fun a : Nat => Value.int IntKind.u8 (a : Int)) <$> Rtype.kind t) #[.pointer (some ⟨11, 118, none⟩)]).run Tryz.prog w = .ok (.int .u8 22) w := by kernel_rfl

theorem as_parts27 (a : Addr) (w : World) : (ReflectliteValue.parts (.agg #[.pointer (some ⟨11, 120, none⟩), .pointer (some a), .int .u64 150])).run Tryz.prog w = .ok (some (120, a, 150)) w := by kernel_rfl
theorem as_isNil27 (a p : Addr) (W : World) (ha : W.cell? a = some (.pointer (some p))) :
    (ReflectliteValue.method (ReflectliteValue.valueError "reflectlite.Value.IsNil" 0) ReflectliteValue.isNil #[.agg #[.pointer (some ⟨11, 120, none⟩), .pointer (some a), .int .u64 150]]).run Tryz.prog W = .ok (.bool false) W := by
  refine (congrArg (fun m => Sem.run Tryz.prog m W) (show ReflectliteValue.method _ _ #[.agg #[.pointer (some ⟨11, 120, none⟩), .pointer (some a), .int .u64 150]] = (ReflectliteValue.parts (.agg #[.pointer (some ⟨11, 120, none⟩), .pointer (some a), .int .u64 150]) >>= _) from rfl)).trans ?_
  simp only [Sem.run_bind, as_parts27, Result.andThen]
  simp [ReflectliteValue.isNil, loadVar, isAgg, underlying, Tryz.underlying120, ha, Result.andThen]

theorem as_methodElem (h : Value) (w : World) : (Go.method 393 216 (.agg #[h]) "Elem").run Tryz.prog w = .ok (221, .agg #[h]) w := by kernel_rfl
theorem as_methodImplements (h : Value) (w : World) : (Go.method 393 216 (.agg #[h]) "Implements").run Tryz.prog w = .ok (222, .agg #[h]) w := by kernel_rfl
theorem as_methodAssignableTo (h : Value) (w : World) : (Go.method 393 216 (.agg #[h]) "AssignableTo").run Tryz.prog w = .ok (219, .agg #[h]) w := by kernel_rfl
theorem as_elem27 (w : World) : (ReflectliteType.method ReflectliteType.elem #[.agg #[.pointer (some ⟨11, 120, none⟩)]]).run Tryz.prog w = .ok (.iface 216 (.agg #[.pointer (some ⟨11, 118, none⟩)])) w := by kernel_rfl
theorem as_implements25 (w : World) : (ReflectliteType.relation "Implements" ReflectliteType.implements_ #[.agg #[.pointer (some ⟨11, 118, none⟩)], .iface 216 (.agg #[.pointer (some ⟨11, 37, none⟩)])]).run Tryz.prog w = .ok (.bool true) w := by kernel_rfl
theorem as_typeOf25 (v : Value) (w : World) : (ReflectliteType.typeOf #[.iface 118 v]).run Tryz.prog w = .ok (.iface 216 (.agg #[.pointer (some ⟨11, 118, none⟩)])) w := by kernel_rfl
theorem as_assignable25 (w : World) : (ReflectliteType.relation "AssignableTo" ReflectliteType.assignableTo #[.agg #[.pointer (some ⟨11, 118, none⟩)], .iface 216 (.agg #[.pointer (some ⟨11, 118, none⟩)])]).run Tryz.prog w = .ok (.bool true) w := by kernel_rfl
theorem as_valueOf25 (e : Addr) (w : World) : (ReflectliteValue.unpack (.iface 118 (.pointer (some e)))).run Tryz.prog w
    = .ok (.agg #[.pointer (some ⟨11, 118, none⟩), .pointer (some ⟨w.heap.size, 0, none⟩), .int .u64 150]) (w.alloc (.cells #[.pointer (some e)] 118)) := by kernel_rfl

theorem as_elemOf27 (w : World) : (Rtype.elem? 120).run Tryz.prog w = .ok (some 118) w := by kernel_rfl
theorem as_mk25 (p : Addr) (w : World) : (ReflectliteValue.mk 118 p ReflectliteValue.flagAddr).run Tryz.prog w = .ok (.agg #[.pointer (some ⟨11, 118, none⟩), .pointer (some p), .int .u64 406]) w := by kernel_rfl
theorem as_elemV27 (a p : Addr) (W : World) (ha : W.cell? a = some (.pointer (some p))) :
    (ReflectliteValue.method (ReflectliteValue.valueError "reflectlite.Value.Elem" 0) ReflectliteValue.elem #[.agg #[.pointer (some ⟨11, 120, none⟩), .pointer (some a), .int .u64 150]]).run Tryz.prog W
      = .ok (.agg #[.pointer (some ⟨11, 118, none⟩), .pointer (some p), .int .u64 406]) W := by
  refine (congrArg (fun m => Sem.run Tryz.prog m W) (show ReflectliteValue.method _ _ #[.agg #[.pointer (some ⟨11, 120, none⟩), .pointer (some a), .int .u64 150]] = (ReflectliteValue.parts (.agg #[.pointer (some ⟨11, 120, none⟩), .pointer (some a), .int .u64 150]) >>= _) from rfl)).trans ?_
  simp only [Sem.run_bind, as_parts27, Result.andThen]
  simp [ReflectliteValue.elem, loadVar, isAgg, underlying, Tryz.underlying120, ha, Result.andThen, as_elemOf27, as_mk25]
theorem as_parts25a (a : Addr) (w : World) : (ReflectliteValue.parts (.agg #[.pointer (some ⟨11, 118, none⟩), .pointer (some a), .int .u64 406])).run Tryz.prog w = .ok (some (118, a, 406)) w := by kernel_rfl
theorem as_parts25 (a : Addr) (w : World) : (ReflectliteValue.parts (.agg #[.pointer (some ⟨11, 118, none⟩), .pointer (some a), .int .u64 150])).run Tryz.prog w = .ok (some (118, a, 150)) w := by kernel_rfl
theorem as_direct25 (w : World) : (Rtype.directlyAssignable 118 118).run Tryz.prog w = .ok true w := by kernel_rfl
theorem as_size25 (w : World) : (sizeOf 118).run Tryz.prog w = .ok 1 w := by kernel_rfl
theorem as_set25 (ta b e : Addr) (old : Value) (W : World) (hb : W.cell? b = some (.pointer (some e))) (ht : W.cell? ta = some old) (hf : W.frozen? ta = false) :
    (ReflectliteValue.set #[.agg #[.pointer (some ⟨11, 118, none⟩), .pointer (some ta), .int .u64 406], .agg #[.pointer (some ⟨11, 118, none⟩), .pointer (some b), .int .u64 150]]).run Tryz.prog W
      = .ok (.tuple #[]) (W.setCell ta (.pointer (some e))) := by
  refine (congrArg (fun m => Sem.run Tryz.prog m W) (show ReflectliteValue.set #[.agg #[.pointer (some ⟨11, 118, none⟩), .pointer (some ta), .int .u64 406], .agg #[.pointer (some ⟨11, 118, none⟩), .pointer (some b), .int .u64 150]] = (ReflectliteValue.parts (.agg #[.pointer (some ⟨11, 118, none⟩), .pointer (some ta), .int .u64 406]) >>= fun p => ReflectliteValue.parts (.agg #[.pointer (some ⟨11, 118, none⟩), .pointer (some b), .int .u64 150]) >>= fun q => _) from rfl)).trans ?_
  simp only [Sem.run_bind, as_parts25a, as_parts25, Result.andThen]
  simp [ReflectliteValue.flagAddr, loadVar, isAgg, underlying, Tryz.underlying118, hb, Result.andThen, as_direct25, storeVar, Value.cells, storeCells, Addr.add]
  rw [run_store Tryz.prog W ta _ _ (by rfl)]
  simp [ht, hf]

theorem as_assignableE (w : World) : (ReflectliteType.relation "AssignableTo" ReflectliteType.assignableTo #[.agg #[.pointer (some ⟨11, 261, none⟩)], .iface 216 (.agg #[.pointer (some ⟨11, 118, none⟩)])]).run Tryz.prog w = .ok (.bool false) w := by kernel_rfl
theorem as_noAsE (v : Value) (xT : TypeId) (w : World) : (Instr.typeAssert (.iface 261 v) xT 220 true).run Tryz.prog w = .ok (.tuple #[.nilIface, .bool false]) w := run_typeAssert_lacksB Tryz.underlying220 (by kernel_rfl) (by kernel_rfl) v xT w
end Go.Proofs.YtcnmfljpmpgnjaaGreatDoor
