import Derived.Test.YtcnmfljpmpgnjaaGreatDoorK27
import Derived.Deep.RegionWith
import Derived.Deep.DeepCutAuto
namespace Go.Proofs.YtcnmfljpmpgnjaaGreatDoor
open Go.RowKit
open Tm (H Ob Sl Why)

set_option maxRecDepth 100000 in
set_option maxHeartbeats 4000000 in
theorem whole_nil (w : World) (r l g k r' l' g' k' : Int) (m : Value) (c : Nat) :
    Calls Tryz.prog 105 #[.agg #[.int .i64 r', .int .i64 l', .int .i64 g', .int .i64 k', .slice none 0 c], m, .agg #[.int .i64 r, .int .i64 l, .int .i64 g, .int .i64 k, .slice none 0 c]] w fun e w' => e = .returned (.bool true) ∧ Below w.heap.size w w' := by
  have hq := fun w' => eql_nil2 w' none 0 c
  go_enter Tryz.func105, Tryz.ntmps105
  go_wp2_with fail
  go_ret
  exact ⟨rfl, (Below.alloc0 _ _).trans ((Below.refl _ _).alloc (by simp) _)⟩

/-- The blocks that the caller writes over. -/
def lentS (lb : Nat) (rp : Nat → Option Addr) (nb : Nat → Nat) (n : Nat) (x : Nat) : Prop := x = lb ∨ ∃ j, j < n ∧ (rp j).isNone = false ∧ x = nb j

set_option maxRecDepth 100000 in
set_option maxHeartbeats 8000000 in
theorem whole_any (w : World) (B N b o c lb mb : Nat) (r l g k r' l' g' k' : Int) (rp : Nat → Option Addr) (rc : Nat → Nat) (nb : Nat → Nat) (cl : List (List Int)) (hBN : B ≤ N) (hlen : cl.length ≤ 8796093022208) (hc : ClsF w B b o rp rc cl) (ad : Addr) (had : 0 < cl.length → ad = ⟨b, o, none⟩)
    (hL : LentC w N lb mb rp nb cl cl.length) (hlb : N ≤ lb ∧ lb < w.heap.size) (hmb : N ≤ mb ∧ mb < w.heap.size) (hne : lb ≠ mb) :
    Calls Tryz.prog 105 #[.agg #[.int .i64 r', .int .i64 l', .int .i64 g', .int .i64 k', .slice (some ⟨lb, 0, none⟩) cl.length (cl.length + 8)], .slice (some ⟨mb, 0, none⟩) cl.length cl.length, .agg #[.int .i64 r, .int .i64 l, .int .i64 g, .int .i64 k, .slice (some ad) cl.length c]] w
      fun e w' => e = .returned (.bool true) ∧ Kept (lentS lb rp nb cl.length) w w' := by
  have hq := fun w' => eql_nil2 w' (some ad) cl.length c
  have bb1 : (cl.length : Int) + 8 ≤ (cl.length : Int) + 8 := by omega
  have HC := hide hc
  have HL := hide hL
  clear hc hL
  go_enter Tryz.func105, Tryz.ntmps105
  go_wp2_with fail
  obtain ⟨w0, ew0⟩ : ∃ w0, w0 = (w.alloc (.cells #[.int .i64 r', .int .i64 l', .int .i64 g', .int .i64 k', .slice (some ⟨lb, 0, none⟩) cl.length (cl.length + 8)] 63)).alloc (.cells #[.int .i64 r, .int .i64 l, .int .i64 g, .int .i64 k, .slice (some ad) cl.length c] 63) := ⟨_, rfl⟩
  have hb0 : Below w.heap.size w w0 := by rw [ew0]; exact (Below.alloc0 _ _).trans ((Below.refl _ _).alloc (by simp) _)
  have hz0 : w0.heap.size = w.heap.size + 2 := by rw [ew0]; simp
  have k4 : w0.cell? ⟨w.heap.size + 1, 4, none⟩ = some (.slice (some ad) cl.length c) := by rw [ew0, World.cell?_alloc_at _ _ _ _ (by simp)]; rfl
  rw [← ew0]
  have HB0 := hide hb0
  have HZ0 := hide hz0
  have HK4 := hide k4
  clear ew0 hb0 hz0 k4
  go_loopw [9, 10] (fun ov iv w' => ∃ i : Nat, i ≤ cl.length + 8 ∧ ov = .bool true ∧ iv = .int .i64 i ∧ Kept (lentS lb rp nb cl.length) w0 w' ∧ (∀ j, i ≤ j → w'.cell? ⟨lb, j, none⟩ = w0.cell? ⟨lb, j, none⟩) ∧ (∀ j, i ≤ j → j < cl.length → (rp j).isNone = false → w'.heap[nb j]? = w0.heap[nb j]?) ∧ (∀ j, w'.frozen? ⟨lb, j, none⟩ = false)) (fun _ iv _ => cl.length + 8 - (intOf iv).toNat)
  case atStart => exact ⟨0, by omega, rfl, rfl, Kept.refl _ _, fun _ _ => rfl, fun _ _ _ _ => rfl, fun j => by rw [HB0.out.frozen hlb.2]; exact (HL.out.soft j).1⟩
  case round =>
    obtain ⟨i, hi, rfl, rfl, kk, q1, q2, q3⟩ := hrel
    have HK := hide kk
    have HQ1 := hide q1
    have HQ2 := hide q2
    have HQ3 := hide q3
    have f3 := q3 i
    clear kk q1 q2 q3
    have notS : ∀ x, (x < N ∨ x = mb ∨ w.heap.size ≤ x) → ¬ lentS lb rp nb cl.length x := by
      rintro x hx (e | ⟨j, hj, hr, e⟩)
      · omega
      · have := HL.out.new j hj hr; omega
    have HNS := hide notS
    clear notS
    have c4 : wr.cell? ⟨w.heap.size + 1, 4, none⟩ = some (.slice (some ad) cl.length c) := by
      rw [cell_of (HK.out.block _ (by rw [HZ0.out]; omega) (HNS.out _ (by omega)))]; exact HK4.out
    by_cases hlt : i < cl.length + 8
    · have bi : (i : Int) < (cl.length : Int) + 8 := by omega
      by_cases hn : i < cl.length
      · obtain rfl := had (by omega)
        have bn : (i : Int) < (cl.length : Int) := by omega
        have bn8 : (i : Int) < (cl.length : Int) + 8 := by omega
        have hlenN := HC.out.len i hn
        have cb : wr.cell? ⟨b, o + i, none⟩ = some (.slice (rp i) (cl.getD i []).length (rc i)) := by
          have hbB := HC.out.lt (by omega)
          rw [cell_of (HK.out.block b (by rw [HZ0.out]; omega) (HNS.out _ (by omega))), HB0.out.cell (by show b < _; omega)]; exact HC.out.row i hn
        have cm : wr.cell? ⟨mb, i, none⟩ = some (uV rp nb cl i) := by
          rw [cell_of (HK.out.block mb (by rw [HZ0.out]; omega) (HNS.out _ (by omega))), HB0.out.cell hmb.2]; exact HL.out.m1 i hn
        have cl1 : wr.cell? ⟨lb, i, none⟩ = some (uV rp nb cl i) := by
          rw [HQ1.out i (Nat.le_refl _), HB0.out.cell hlb.2]; exact HL.out.l1 i hn
        have off : ∀ {x : Nat}, i ≠ x → (⟨lb, i, none⟩ : Addr) ≠ ⟨lb, x, none⟩ := fun h e => h (congrArg Addr.off e)
        have HOff : Hid (∀ {x : Nat}, i ≠ x → (⟨lb, i, none⟩ : Addr) ≠ ⟨lb, x, none⟩) := off
        clear off
        obtain ⟨rpi, erp⟩ : ∃ x, rp i = x := ⟨_, rfl⟩
        cases rpi with
        | none =>
          have hrow := HC.out.nil i hn erp
          have eu : uV rp nb cl i = .slice none 0 0 := by unfold uV; rw [erp]; rfl
          rw [eu] at cm cl1
          rw [erp, hrow] at cb
          simp only [List.length_nil] at cb
          clear eu erp hrow hlenN
          go_wp2_with fail
          go_quiet (fail)
          obtain ⟨wq, ewq⟩ : ∃ x, x = wr.drewN nq := ⟨_, rfl⟩
          rw [← ewq]
          have cbq := (show wq.cell? ⟨b, o + i, none⟩ = wr.cell? ⟨b, o + i, none⟩ by rw [ewq]; rfl).trans cb
          have cmq := (show wq.cell? ⟨mb, i, none⟩ = wr.cell? ⟨mb, i, none⟩ by rw [ewq]; rfl).trans cm
          have clq := (show wq.cell? ⟨lb, i, none⟩ = wr.cell? ⟨lb, i, none⟩ by rw [ewq]; rfl).trans cl1
          have c4q := (show wq.cell? ⟨w.heap.size + 1, 4, none⟩ = wr.cell? ⟨w.heap.size + 1, 4, none⟩ by rw [ewq]; rfl).trans c4
          have f3q : wq.frozen? ⟨lb, i, none⟩ = false := by rw [ewq]; exact f3
          have HKq : Hid (Kept (lentS lb rp nb cl.length) w0 wq) := by rw [ewq]; exact HK.out.drewN nq
          have HQ1q : Hid (∀ j, i ≤ j → wq.cell? ⟨lb, j, none⟩ = w0.cell? ⟨lb, j, none⟩) := by rw [ewq]; exact HQ1.out
          have HQ2q : Hid (∀ j, i ≤ j → j < cl.length → (rp j).isNone = false → wq.heap[nb j]? = w0.heap[nb j]?) := by rw [ewq]; exact HQ2.out
          have HQ3q : Hid (∀ j, wq.frozen? ⟨lb, j, none⟩ = false) := by rw [ewq]; exact HQ3.out
          clear ewq cb cm cl1 c4 f3 HK HQ1 HQ2 HQ3
          go_wp2_with fail
          go_quiet ((go_at_call 133; exact Calls.quiet_of_same (wholeInts_nil _ (.slice none 0 0) (rc i))))
          go_wp2_with fail
          refine ⟨⟨i + 1, by omega, rfl, by go_num, (HKq.out.drewN _).setCell (Or.inl (Or.inl rfl)) _, fun j hj => ?_, fun j h1 h2 h3 => ?_, fun j => by rw [World.frozen?_setCell]; exact HQ3q.out j⟩, by simp [intOf]; omega⟩
          · rw [World.cell?_setCell_other _ _ _ _ (HOff.out (by omega))]; exact HQ1q.out j (by omega)
          · have hnn := HL.out.new j h2 h3
            rw [Below.heap_setCell _ _ _ _ hnn.2.2.1]; exact HQ2q.out j (by omega) h2 h3
        | some ad =>
          have hi0 : (rp i).isNone = false := by rw [erp]; rfl
          have eu : uV rp nb cl i = .slice (some ⟨nb i, 0, none⟩) (cl.getD i []).length ((cl.getD i []).length + 8) := by unfold uV; rw [erp]; rfl
          rw [eu] at cm cl1
          rw [erp] at cb
          have HNw := hide (HL.out.new i hn hi0)
          have HInts : Hid (0 < (cl.getD i []).length → ∃ b' o', ad = ⟨b', o', none⟩ ∧ b' < B ∧ ∀ j, j < (cl.getD i []).length → w.cell? ⟨b', o' + j, none⟩ = some (.int .i64 ((cl.getD i []).getD j 0))) := fun h0 => by
            obtain ⟨b', o', z1, z2, z3⟩ := HC.out.ints i hn h0
            rw [erp] at z1
            exact ⟨b', o', Option.some.inj z1, z2, z3⟩
          have HLt : Hid (Lent w0 (nb i) (cl.getD i [])) := (HL.out.lent i hn hi0).at (HB0.out.block _ (HL.out.new i hn hi0).2.1) HB0.out.size
          have HI0 := hide hi0
          clear eu erp hi0
          have hnlb : nb i ≠ lb := HNw.out.2.2.1
          obtain ⟨row, erow⟩ : ∃ x, cl.getD i [] = x := ⟨_, rfl⟩
          rw [erow] at cm cl1 cb HInts HLt hlenN
          clear erow
          go_wp2_with fail
          go_quiet (fail)
          obtain ⟨wq, ewq⟩ : ∃ x, x = wr.drewN nq := ⟨_, rfl⟩
          rw [← ewq]
          have cbq := (show wq.cell? ⟨b, o + i, none⟩ = wr.cell? ⟨b, o + i, none⟩ by rw [ewq]; rfl).trans cb
          have cmq := (show wq.cell? ⟨mb, i, none⟩ = wr.cell? ⟨mb, i, none⟩ by rw [ewq]; rfl).trans cm
          have clq := (show wq.cell? ⟨lb, i, none⟩ = wr.cell? ⟨lb, i, none⟩ by rw [ewq]; rfl).trans cl1
          have c4q := (show wq.cell? ⟨w.heap.size + 1, 4, none⟩ = wr.cell? ⟨w.heap.size + 1, 4, none⟩ by rw [ewq]; rfl).trans c4
          have f3q : wq.frozen? ⟨lb, i, none⟩ = false := by rw [ewq]; exact f3
          have HKq : Hid (Kept (lentS lb rp nb cl.length) w0 wq) := by rw [ewq]; exact HK.out.drewN nq
          have HQ1q : Hid (∀ j, i ≤ j → wq.cell? ⟨lb, j, none⟩ = w0.cell? ⟨lb, j, none⟩) := by rw [ewq]; exact HQ1.out
          have HQ2q : Hid (∀ j, i ≤ j → j < cl.length → (rp j).isNone = false → wq.heap[nb j]? = w0.heap[nb j]?) := by rw [ewq]; exact HQ2.out
          have HQ3q : Hid (∀ j, wq.frozen? ⟨lb, j, none⟩ = false) := by rw [ewq]; exact HQ3.out
          clear ewq cb cm cl1 c4 f3 HK HQ1 HQ2 HQ3
          have hw := wholeInts_any wq.drew (nb i) (rc i) ad row hlenN (HLt.out.at (HQ2q.out i (Nat.le_refl _) hn HI0.out) HKq.out.size) (fun h0 => by
            obtain ⟨b', o', z1, z2, z3⟩ := HInts.out h0
            refine ⟨b', o', z1, by have := HNw.out.1; omega, fun j hj => ?_⟩
            have e1 : wq.cell? ⟨b', o' + j, none⟩ = w0.cell? ⟨b', o' + j, none⟩ := cell_of (HKq.out.block b' (by rw [HZ0.out]; omega) (HNS.out _ (by omega)))
            show wq.cell? ⟨b', o' + j, none⟩ = _
            rw [e1, HB0.out.cell (by show b' < _; omega)]; exact z3 j hj)
          have HW := hide hw
          clear hw
          go_upto_region 11 with fail
          go_cut [12] (fun v wx => v = .bool true ∧ Kept (fun x => x = nb i) wq wx ∧ wx.heap.size = wq.heap.size ∧ ∀ j, j < row.length + 8 → wx.cell? ⟨nb i, j, none⟩ = some (.int .i64 2))
          case first =>
            go_region_with ((go_at_call 133; refine HW.out.mono ?_; rintro e w2 ⟨rfl, kk2, sz2, t2⟩))
            all_goals go_wp2_with fail
            all_goals go_meet
            all_goals exact ⟨rfl, ⟨kk2.os, kk2.tape, kk2.output, kk2.size, kk2.block⟩, sz2, t2⟩
          case rest =>
            obtain ⟨rfl, kk2, sz2, t2⟩ := hcut
            have HK2 := hide kk2
            have HT2 := hide t2
            have hzq : lb < wq.heap.size := by have := HKq.out.size; rw [HZ0.out] at this; omega
            have elb : wc.heap[lb]? = wq.heap[lb]? := kk2.block lb hzq (fun e => hnlb e.symm)
            have clc := (cell_of (i := i) elb).trans clq
            have fcc := (frozen_of (i := i) elb).trans f3q
            have HEl := hide elb
            have HS2 := hide sz2
            clear kk2 sz2 t2 elb
            have hfin : (∃ i' : Nat, i' ≤ cl.length + 8 ∧ Value.bool true = .bool true ∧ Value.int .i64 ((i : Int) + 1) = .int .i64 i' ∧ Kept (lentS lb rp nb cl.length) w0 (wc.setCell ⟨lb, i, none⟩ (.slice none 0 0)) ∧ (∀ j, i' ≤ j → (wc.setCell ⟨lb, i, none⟩ (.slice none 0 0)).cell? ⟨lb, j, none⟩ = w0.cell? ⟨lb, j, none⟩) ∧ (∀ j, i' ≤ j → j < cl.length → (rp j).isNone = false → (wc.setCell ⟨lb, i, none⟩ (.slice none 0 0)).heap[nb j]? = w0.heap[nb j]?) ∧ (∀ j, (wc.setCell ⟨lb, i, none⟩ (.slice none 0 0)).frozen? ⟨lb, j, none⟩ = false)) := by
              refine ⟨i + 1, by omega, rfl, by go_num, (HKq.out.trans (HK2.out.mono fun x hx => Or.inr ⟨i, hn, HI0.out, hx⟩)).setCell (Or.inl (Or.inl rfl)) _, fun j hj => ?_, fun j h1 h2 h3 => ?_, fun j => by rw [World.frozen?_setCell, frozen_of HEl.out]; exact HQ3q.out j⟩
              · rw [World.cell?_setCell_other _ _ _ _ (HOff.out (by omega)), cell_of HEl.out]; exact HQ1q.out j (by omega)
              · have hnn := HL.out.new j h2 h3
                rw [Below.heap_setCell _ _ _ _ hnn.2.2.1, HK2.out.block _ (by have := HKq.out.size; rw [HZ0.out] at this; omega) (HL.out.inj j i h2 hn (by omega) h3 HI0.out)]
                exact HQ2q.out j (by omega) h2 h3
            have HFin := hide hfin
            clear hfin
            rcases Nat.eq_zero_or_pos row.length with h0 | h0
            · have h0b : ((row.length : Int) == 0) = true := by simp [h0]
              go_wp2_with fail
              exact ⟨HFin.out, by simp [intOf]; omega⟩
            · have h0b : ((row.length : Int) == 0) = false := beq_eq_false_iff_ne.2 (by omega)
              have c00 := HT2.out 0 (by omega)
              have b00 : (0 : Int) < (row.length : Int) := by omega
              go_wp2_with fail
              exact ⟨HFin.out, by simp [intOf]; omega⟩
      · have bn : ¬ (i : Int) < (cl.length : Int) := by omega
        have cl2 : wr.cell? ⟨lb, i, none⟩ = some (.slice none 0 0) := by
          rw [HQ1.out i (Nat.le_refl _), HB0.out.cell hlb.2]; exact HL.out.l2 i (by omega) hlt
        have hq2 := fun w' => eql_nil w' none 0 0
        go_wp2_with fail
        have off : ∀ {x : Nat}, i ≠ x → (⟨lb, i, none⟩ : Addr) ≠ ⟨lb, x, none⟩ := fun h e => h (congrArg Addr.off e)
        refine ⟨⟨i + 1, by omega, rfl, by go_num, HK.out.setCell (Or.inl (Or.inl rfl)) _, fun j hj => ?_, fun j h1 h2 h3 => by omega, fun j => by rw [World.frozen?_setCell]; exact HQ3.out j⟩, by simp [intOf]; omega⟩
        rw [World.cell?_setCell_other _ _ _ _ (off (by omega))]; exact HQ1.out j (by omega)
    · have bi : ¬ (i : Int) < (cl.length : Int) + 8 := by omega
      go_wp2_with fail
      go_ret
      exact ⟨rfl, (Kept.of_below HB0.out).trans HK.out⟩
end Go.Proofs.YtcnmfljpmpgnjaaGreatDoor
