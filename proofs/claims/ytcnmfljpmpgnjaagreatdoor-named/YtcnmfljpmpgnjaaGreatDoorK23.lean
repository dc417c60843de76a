import Derived.Test.YtcnmfljpmpgnjaaGreatDoorK22
import Derived.Test.YtcnmfljpmpgnjaaGreatDoorK00
namespace Go.Proofs.YtcnmfljpmpgnjaaGreatDoor
open Go.RowKit
open Tm (H Ob Sl Why)

/-- A slice of ints that the call has made, all one number. -/
structure Alike1 (N : Nat) (w : World) (p : Option Addr) (c b j : Nat) (k : Int) : Prop where
  one : 0 < c → p = some ⟨b, 0, none⟩ ∧ N ≤ b ∧ ∃ cur : Array Value, w.heap[b]? = some (.cells cur 3 (0, 0)) ∧ cur.size = c
  zero : c = 0 → p = none
  cap : j ≤ c
  capm : c ≤ maxLen
  cells : ∀ i, i < j → w.cell? ⟨b, i, none⟩ = some (.int .i64 k)

set_option maxRecDepth 100000 in
set_option maxHeartbeats 4000000 in
theorem arr_any {S : Nat → Prop} {tag : Nat → Nat × Nat} {w : World} {a : Nat} {Y : Lay} {h : H} (r : Rep S tag w a Y h) (kind n : Int)
    (hn : h.toldOK) (hmany : h.l.length + 1 < 4398046511104) :
    Calls Tryz.prog 148 #[.pointer (some ⟨a, 0, none⟩), .int .i64 kind, .int .i64 n] w
      (Made S w a h (Tm.isArray kind n = true ∧ h.needs (List.replicate n.toNat kind)) (fun M => h.arr M kind n) S (fun _ => False)) := by
  have HR := hide r
  have HN := hide hn
  have HNo : Hid (Tm.isArray kind n = false → Made S w a h (Tm.isArray kind n = true ∧ h.needs (List.replicate n.toNat kind)) (fun M => h.arr M kind n) S (fun _ => False) (.returned (.tuple #[.int .i64 0, .agg #[.int .i64 1, .int .i64 0]])) (w.alloc (.cells #[.int .i64 1, .int .i64 0] 161))) := fun hc =>
    ⟨[], (fun q => by rw [hc] at q; cases q.1), by simp only [H.arr, hc]; rfl, S, tag, Y, by simp only [H.arr, hc]; exact r.alloc _, Kept.of_below (Below.alloc0 _ _), fun b hb => Or.inl hb⟩
  clear r hn
  cases h1 : Tm.inR kind 1 2
  · have hc : Tm.isArray kind n = false := by unfold Tm.isArray; rw [h1]; rfl
    go_enter Tryz.func148, Tryz.ntmps148
    go_wp2_with fail
    refine (in_any _ _ _ _).mono ?_
    rintro e w' ⟨rfl, rfl⟩
    rw [h1]
    go_wp2_with fail
    refine (in_any _ _ _ _).mono ?_
    rintro e w' ⟨rfl, rfl⟩
    go_wp2_with fail
    exact bodyPost_ret (v := .tuple #[.int .i64 0, .agg #[.int .i64 1, .int .i64 0]]) (by simp [results, Tryz.results148, go_sem]) rfl (HNo.out hc)
  · cases h2 : Tm.inR n 0 32
    · have hc : Tm.isArray kind n = false := by unfold Tm.isArray; rw [h1, h2]; rfl
      go_enter Tryz.func148, Tryz.ntmps148
      go_wp2_with fail
      refine (in_any _ _ _ _).mono ?_
      rintro e w' ⟨rfl, rfl⟩
      rw [h1]
      go_wp2_with fail
      refine (in_any _ _ _ _).mono ?_
      rintro e w' ⟨rfl, rfl⟩
      rw [h2]
      go_wp2_with fail
      exact bodyPost_ret (v := .tuple #[.int .i64 0, .agg #[.int .i64 1, .int .i64 0]]) (by simp [results, Tryz.results148, go_sem]) rfl (HNo.out hc)
    · have hc : Tm.isArray kind n = true := by unfold Tm.isArray; rw [h1, h2]; rfl
      have hb := h2
      unfold Tm.inR at hb
      simp only [decide_eq_true_eq] at hb
      obtain ⟨m, rfl⟩ := Int.eq_ofNat_of_zero_le hb.1
      have hm : m ≤ 32 := by omega
      clear HNo
      obtain ⟨iI, hiI, hp0, hp1, hp2⟩ := info_parts info3
      have HiP := hide hiI
      have HP0 := hide hp0
      have HP1 := hide hp1
      have HP2 := hide hp2
      clear hiI hp0 hp1 hp2
      go_enter Tryz.func148, Tryz.ntmps148
      go_wp2_with fail
      refine (in_any _ _ _ _).mono ?_
      rintro e w' ⟨rfl, rfl⟩
      rw [h1]
      go_wp2_with fail
      refine (in_any _ _ _ _).mono ?_
      rintro e w' ⟨rfl, rfl⟩
      rw [h2]
      go_wp2_with fail
      go_loopw [10, 11] (fun lv iv w' => ∃ (j : Nat) (p : Option Addr) (c b : Nat), j ≤ m ∧ iv = .int .i64 j ∧ lv = .slice p j c ∧ Alike1 (w.heap.size + 1) w' p c b j kind ∧ Below (w.heap.size + 1) (w.alloc (.cells #[.int .i64 0, .int .i64 0] 161)) w') (fun _ iv _ => m - (intOf iv).toNat)
      case atStart => exact ⟨0, none, 0, 0, by omega, rfl, rfl, ⟨fun h => by omega, fun _ => rfl, by omega, by unfold maxLen; omega, fun i hi => by omega⟩, Below.refl _ _⟩
      case round =>
        obtain ⟨j, p, c, b, hj, rfl, rfl, al, bl⟩ := hrel
        have HAl := hide al
        have HBl := hide bl
        clear al bl
        by_cases hlt : j < m
        · have b1 : (j : Int) < (m : Int) := by omega
          go_wp2_with (at_builtin; refine wpList_put _ rfl (.tmp 28) (.tmp 30) 24 rfl 3 iI (.int .i64 0) 8 Tryz.underlying24 HiP.out HP0.out HP1.out HP2.out rfl p j c b rfl ?L ?L0 ?cap ?cm ⟨_, 0, none⟩ 1 (.int .i64 kind) rfl ?cc rfl ?b1 ?b2 ?K)
          case L => exact fun h0 => ⟨(HAl.out.one h0).1, by
            obtain ⟨_, _, cur, q1, q2⟩ := HAl.out.one h0
            exact ⟨cur, by rw [Below.heap_alloc _ _ _ (by rcases Nat.lt_or_ge b wr.heap.size with q | q; exact q; rw [Array.getElem?_eq_none q] at q1; cases q1)]; exact q1, q2⟩⟩
          case L0 => exact HAl.out.zero
          case cap => exact HAl.out.cap
          case cm => exact HAl.out.capm
          case cc => simp [Addr.add]
          case b1 => unfold maxLen; omega
          case b2 => omega
          case K =>
            intro w2 bL' cL' ap
            have HAp := hide ap
            clear ap
            go_wp2_with fail
            refine ⟨⟨j + 1, _, cL', bL', by omega, by go_num, rfl, ⟨fun _ => ⟨rfl, ?_, HAp.out.block⟩, (fun e => by have := HAp.out.cap; omega), HAp.out.cap, HAp.out.capm, fun i hi => ?_⟩, ?_⟩, by simp [intOf]; omega⟩
            · rcases HAp.out.bl with ⟨q, q0⟩ | q
              · rw [q]; exact (HAl.out.one q0).2.1
              · have := HBl.out.size; simp at this q; omega
            · by_cases e : i = j
              · subst e; exact HAp.out.last
              · rw [HAp.out.keep i (by omega)]
                obtain ⟨_, q0, _⟩ := HAl.out.one (by have := HAl.out.cap; omega)
                rw [World.cell?_alloc_lt _ _ _ (World.block_lt_of_cell? _ _ (HAl.out.cells i (by omega)))]
                exact HAl.out.cells i (by omega)
            · refine HBl.out.trans ⟨HAp.out.os, HAp.out.tape, HAp.out.output, by have := HAp.out.size; simp at this; omega, fun b' hb' => ?_⟩
              have hsz := HBl.out.size
              simp at hsz
              rw [HAp.out.old b' (by simp; omega) (fun e => by
                rcases HAp.out.bl with ⟨q, q0⟩ | q
                · have := (HAl.out.one q0).2.1; omega
                · simp at q; omega)]
              exact Below.heap_alloc _ _ _ (by omega)
        · have b1 : ¬ (j : Int) < (m : Int) := by omega
          have ej : j = m := by omega
          subst ej
          have hrw := (HR.out.alloc (.cells #[.int .i64 0, .int .i64 0] 161)).below HBl.out (by simp)
          have hwz := HBl.out.size
          simp at hwz
          have hrl : (List.replicate j kind).length = j := by simp
          have hblt : 0 < j → b < wr.heap.size := fun h0 => World.block_lt_of_cell? _ _ (HAl.out.cells 0 h0)
          have hnew : NewAt S tag (wr.alloc (.cells #[.slice p j c, .slice none 0 0, .int .i64 0, .int .i64 (-1), .bool false] 205)) wr.heap.size b p c (List.replicate j kind) (-1) := by
            refine ⟨fun e => by have := HR.out.lt _ e; omega, by simp, fun i => World.frozen?_alloc_new _ _ _ _, by rw [World.cell?_alloc_new]; simp, by rw [World.cell?_alloc_new]; rfl, by rw [World.cell?_alloc_new]; rfl, by rw [World.cell?_alloc_new]; rfl, by rw [World.cell?_alloc_new]; rfl, by simp; omega, fun h0 => ?_, fun i hi => ?_⟩
            · rw [hrl] at h0
              obtain ⟨q1, q2, cur, q3, q4⟩ := HAl.out.one (by have := HAl.out.cap; omega)
              refine ⟨q1, by have := hblt h0; simp; omega, by have := hblt h0; omega, fun i => ?_, fun e => by have := HR.out.lt _ e; omega⟩
              rw [World.frozen?_alloc_past _ _ _ (hblt h0)]
              simp [World.frozen?, q3]
            · rw [hrl] at hi
              rw [World.cell?_alloc_past _ _ _ (hblt (by omega)), HAl.out.cells i hi]
              simp [hi]
          have hm := make_all (hrw.alloc (.cells #[.slice p j c, .slice none 0 0, .int .i64 0, .int .i64 (-1), .bool false] 205)) _ _ _ _ _ _ hnew HN.out hmany
          have HC := hide hm
          have HAr : Hid (∀ M, h.arr M kind (j : Int) = h.makeBy M (List.replicate j kind) (-1)) := fun M => by unfold H.arr; rw [hc, Int.toNat_natCast]; rfl
          have HBt : Hid (0 < j → w.heap.size + 1 ≤ b) := fun h0 => (HAl.out.one (by have := HAl.out.cap; omega)).2.1
          have e0 : wr.heap[w.heap.size]? = (w.alloc (.cells #[.int .i64 0, .int .i64 0] 161)).heap[w.heap.size]? := HBl.out.block _ (by omega)
          have HE0 := hide e0
          clear hm hnew hrw hblt e0
          go_wp2_with fail
          refine HC.out.mono ?_
          rintro e w2 ⟨M, hM, rfl, S', tag', Y', r2, kk, hsub⟩
          dsimp only at r2 ⊢
          have hz := kk.size
          simp at hz
          have hN2 : w2.heap[w.heap.size]? = (w.alloc (.cells #[.int .i64 0, .int .i64 0] 161)).heap[w.heap.size]? := by
            rw [kk.block _ (by simp; omega) (by rintro (q | q); (have := HR.out.lt _ q; omega); omega), Below.heap_alloc _ _ _ (by omega)]
            exact HE0.out
          have d0 : w2.cell? ⟨w.heap.size, 0, none⟩ = some (.int .i64 0) := by rw [cell_of hN2]; simp
          have d1 : w2.cell? ⟨w.heap.size, 1, none⟩ = some (.int .i64 0) := by rw [cell_of hN2]; simp
          have df : ∀ i, w2.frozen? ⟨w.heap.size, i, none⟩ = false := fun i => by rw [frozen_of hN2]; simp
          have hsub2 : ∀ b, S' b → S b ∨ w.heap.size + 1 ≤ b := fun b' hb' => by
            rcases hsub b' hb' with q | (q | ⟨q, q0⟩) | q
            · exact Or.inl q
            · exact Or.inr (by omega)
            · rw [hrl] at q0; have := HBt.out q0; exact Or.inr (by omega)
            · simp at q; exact Or.inr (by omega)
          have HS2 := hide hsub2
          have HNot : Hid (¬ S' w.heap.size) := fun e => by rcases hsub2 _ e with q | q; (have := HR.out.lt _ q; omega); omega
          have HR2 := hide r2
          have HK2 := hide kk
          have HM := hide hM
          clear r2 kk hM hsub hsub2 hN2
          simp only [whyV]
          obtain ⟨R, eR⟩ : ∃ R, h.makeBy M (List.replicate j kind) (-1) = R := ⟨_, rfl⟩
          rw [eR] at HR2 ⊢
          have ER := hide eR
          clear eR
          go_wp2_with fail
          refine bodyPost_ret (v := .tuple #[.int .i64 R.1.1, .agg #[.int .i64 R.1.2.reason, .int .i64 R.1.2.handle]]) (by simp [results, Tryz.results148, go_sem, d0, d1]) rfl ⟨M, fun q => HM.out (by have := q.2; rw [Int.toNat_natCast] at this; exact this), by simp only [HAr.out M, ER.out]; rfl, S', tag', Y', ?_, ?_, fun b' hb' => ?_⟩
          · simp only [HAr.out M, ER.out]
            repeat (first | exact HR2.out | refine Rep.other ?_ HNot.out _)
          · have HK' : Kept S w w2 := ⟨HK2.out.os.trans HBl.out.os, HK2.out.tape.trans HBl.out.tape, HK2.out.output.trans HBl.out.output, by omega, fun b' hb' hn => by
              rw [HK2.out.block b' (by simp; omega) (by rintro (q | q); exact hn q; omega), Below.heap_alloc _ _ _ (by omega), HBl.out.block _ (by omega), Below.heap_alloc _ _ _ hb']⟩
            repeat (first | exact HK' | refine Kept.setCell ?_ (Or.inr (by simp)) _)
          · rcases HS2.out b' hb' with q | q
            · exact Or.inl q
            · exact Or.inr (Or.inr (by omega))
end Go.Proofs.YtcnmfljpmpgnjaaGreatDoor

namespace Go.Proofs.YtcnmfljpmpgnjaaGreatDoor
open Go.RowKit
open Tm (H Ob Sl Why)

def statsV (h : H) : Value := .agg #[.int .i64 (Tm.countOf h.l), .int .i64 (Tm.roomOf h.l), .int .i64 (Tm.takenOf (h.t 1)), .int .i64 (Tm.takenOf (h.t 2)), .int .i64 (Tm.takenOf (h.t 3)), .int .i64 (h.frames)]

theorem countOf_bd (l : List Ob) (k : Nat) (h : k ≤ l.length) : 0 ≤ Tm.countOf (l.take k) ∧ Tm.countOf (l.take k) ≤ (k : Int) := by
  induction k with
  | zero => simp [Tm.countOf]
  | succ k ih =>
    have := ih (by omega)
    rw [Tm.take_getD l Tm.ob0 k (by omega), Tm.countOf_append]
    simp only [Tm.countOf]
    split <;> omega
theorem takenOf_bd (l : List Sl) (k : Nat) (h : k ≤ l.length) : 0 ≤ Tm.takenOf (l.take k) ∧ Tm.takenOf (l.take k) ≤ (k : Int) := by
  induction k with
  | zero => simp [Tm.takenOf]
  | succ k ih =>
    have := ih (by omega)
    rw [Tm.take_getD l Tm.sl0 k (by omega), Tm.takenOf_append]
    simp only [Tm.takenOf]
    split <;> omega

set_option maxRecDepth 100000 in
set_option maxHeartbeats 4000000 in
theorem stats_any {S : Nat → Prop} {tag : Nat → Nat × Nat} {w : World} {a : Nat} {Y : Lay} {h : H} (r : Rep S tag w a Y h) :
    Calls Tryz.prog 108 #[.pointer (some ⟨a, 0, none⟩)] w fun e w' => e = .returned (statsV h) ∧ Below w.heap.size w w' := by
  have HR := hide (fun o o' => (r.alloc o).alloc o')
  have hm := r.many
  have HRo := fun o o' => hide (room_any ((r.alloc o).alloc o'))
  have HFr := r.fr
  have HH : Hid (∀ k, 0 < k → k < 4 → ∃ c, ∀ o o', ((w.alloc o).alloc o').cell? ⟨a, 6 + k, none⟩ = some (.slice (some ⟨Y.bt k, 0, none⟩) (h.t k).length c)) := fun k k0 k4 => by
    obtain ⟨c, hc⟩ := (r.tabs.tab k k0 k4).head
    have la := r.lt a r.tabs.sa
    exact ⟨c, fun o o' => by rw [World.cell?_alloc_lt _ _ _ (by show a < (w.alloc o).heap.size; simp; omega), World.cell?_alloc_lt _ _ _ (by exact la)]; exact hc⟩
  clear r
  go_enter Tryz.func108, Tryz.ntmps108
  go_wp2_with fail
  go_loopw [4] (fun iv w' => ∃ j : Nat, j ≤ h.l.length ∧ iv = .int .i64 j ∧ w' = ((w.alloc (.cells #[.int .i64 (0), .int .i64 (0), .int .i64 (0), .int .i64 (0), .int .i64 (0), .int .i64 (0)] 44)).alloc (.cells #[.int .i64 (Tm.countOf (h.l.take j)), .int .i64 (0), .int .i64 (0), .int .i64 (0), .int .i64 (0), .int .i64 (0)] 44))) (fun iv _ => h.l.length - (intOf iv).toNat)
  case atStart => exact ⟨0, by omega, rfl, rfl⟩
  case round =>
    obtain ⟨j, hj, rfl, rfl⟩ := hrel
    have hb := countOf_bd h.l j hj
    by_cases hlt : j < h.l.length
    · have q := fun o o' => (HR.out o o').objJ j hlt
      have c5 := fun o o' => (q o o').1
      have cp := fun o o' => (q o o').2.1
      have cg := fun o o' => (q o o').2.2.gone
      have bj : (j : Int) < (h.l.length : Int) := by omega
      have HS := hide (Tm.take_getD h.l Tm.ob0 j hlt)
      clear q
      obtain ⟨o, eo⟩ : ∃ o, h.l.getD j Tm.ob0 = o := ⟨_, rfl⟩
      simp only [eo] at cg HS
      clear eo
      generalize hcn : Tm.countOf (h.l.take j) = cn at *
      have HCN := hide hcn
      clear hcn
      cases hg : o.gone
      · simp only [hg] at cg
        have HSt : Hid (Tm.countOf (h.l.take (j + 1)) = cn + 1) := by show _ = _; rw [HS.out, Tm.countOf_append, HCN.out]; simp [Tm.countOf, hg]
        go_wp2_with fail
        exact ⟨⟨j + 1, by omega, by go_num, by rw [HSt.out]⟩, by simp [intOf]; omega⟩
      · simp only [hg] at cg
        have HSt : Hid (Tm.countOf (h.l.take (j + 1)) = cn) := by show _ = _; rw [HS.out, Tm.countOf_append, HCN.out]; simp [Tm.countOf, hg]
        go_wp2_with fail
        exact ⟨⟨j + 1, by omega, by go_num, by rw [HSt.out]⟩, by simp [intOf]; omega⟩
    · have c5 := fun o o' => (HR.out o o').list
      have bj : ¬ (j : Int) < (h.l.length : Int) := by omega
      have ej : h.l.take j = h.l := List.take_of_length_le (by omega)
      rw [ej] at hb ⊢
      clear ej
      generalize ecn : Tm.countOf h.l = cn at *
      have HEC := hide ecn
      clear ecn
      go_wp2_with fail
      refine ((HRo _ _).out).mono ?_
      rintro e w' ⟨rfl, rfl⟩
      go_wp2_with fail
      generalize erm : Tm.roomOf h.l = rm at *
      have HER := hide erm
      clear erm
      go_loopw [5] (fun kv w' => ∃ k : Nat, 1 ≤ k ∧ k ≤ 4 ∧ kv = .int .i64 k ∧ w' = ((w.alloc (.cells #[.int .i64 (0), .int .i64 (0), .int .i64 (0), .int .i64 (0), .int .i64 (0), .int .i64 (0)] 44)).alloc (.cells #[.int .i64 (cn), .int .i64 (rm), .int .i64 (if 1 < k then Tm.takenOf (h.t 1) else 0), .int .i64 (if 2 < k then Tm.takenOf (h.t 2) else 0), .int .i64 (if 3 < k then Tm.takenOf (h.t 3) else 0), .int .i64 (0)] 44))) (fun kv _ => 4 - (intOf kv).toNat)
      case atStart => exact ⟨1, by omega, by omega, rfl, rfl⟩
      case round =>
        obtain ⟨k, hk1, hk4, rfl, rfl⟩ := hrel
        have hk : k = 1 ∨ k = 2 ∨ k = 3 ∨ k = 4 := by omega
        rcases hk with rfl | rfl | rfl | rfl
        · simp only [show (1 : Nat) < 1 ↔ False from by decide, show (2 : Nat) < 1 ↔ False from by decide, show (3 : Nat) < 1 ↔ False from by decide, if_false]
          have ht := fun o o' => (HR.out o o').tabs.tab 1 (by omega) (by omega)
          obtain ⟨hcap, hh⟩ := HH.out 1 (by omega) (by omega)
          have hl := (ht default default).len
          have bb : ∀ i, i ≤ (h.t 1).length → 0 ≤ Tm.takenOf ((h.t 1).take i) ∧ Tm.takenOf ((h.t 1).take i) ≤ (i : Int) := fun i hi => takenOf_bd _ i hi
          have HBB := hide bb
          have HTt := hide ht
          clear bb ht
          go_wp2_with fail
          go_loopw [6] (fun iv w' => ∃ i : Nat, i ≤ (h.t 1).length ∧ iv = .int .i64 i ∧ w' = ((w.alloc (.cells #[.int .i64 (0), .int .i64 (0), .int .i64 (0), .int .i64 (0), .int .i64 (0), .int .i64 (0)] 44)).alloc (.cells #[.int .i64 (cn), .int .i64 (rm), .int .i64 (Tm.takenOf ((h.t 1).take i)), .int .i64 (0), .int .i64 (0), .int .i64 (0)] 44))) (fun iv _ => (h.t 1).length - (intOf iv).toNat)
          case atStart => exact ⟨0, by omega, rfl, rfl⟩
          case round =>
            obtain ⟨i, hi, rfl, rfl⟩ := hrel
            have hbi := HBB.out i hi
            by_cases hlt2 : i < (h.t 1).length
            · have bi : (i : Int) < ((h.t 1).length : Int) := by omega
              have co := fun o o' => (HTt.out o o').ob i hlt2
              have HS := hide (Tm.take_getD (h.t 1) Tm.sl0 i hlt2)
              obtain ⟨s, es⟩ : ∃ s, (h.t 1).getD i Tm.sl0 = s := ⟨_, rfl⟩
              simp only [es] at co HS
              clear es
              generalize htn : Tm.takenOf ((h.t 1).take i) = tn at *
              have HTN := hide htn
              clear htn
              by_cases ho : s.ob = 0
              · have ho' : (s.ob != 0) = false := by simpa using ho
                have HSt : Hid (Tm.takenOf ((h.t 1).take (i + 1)) = tn) := by show _ = _; rw [HS.out, Tm.takenOf_append, HTN.out]; simp [Tm.takenOf, ho]
                go_wp2_with fail
                exact ⟨⟨i + 1, by omega, by go_num, by rw [HSt.out]⟩, by simp [intOf]; omega⟩
              · have ho' : (s.ob != 0) = true := by simpa using ho
                have HSt : Hid (Tm.takenOf ((h.t 1).take (i + 1)) = tn + 1) := by show _ = _; rw [HS.out, Tm.takenOf_append, HTN.out]; simp [Tm.takenOf, ho]
                go_wp2_with fail
                exact ⟨⟨i + 1, by omega, by go_num, by rw [HSt.out]⟩, by simp [intOf]; omega⟩
            · have bi : ¬ (i : Int) < ((h.t 1).length : Int) := by omega
              have ei : (h.t 1).take i = h.t 1 := List.take_of_length_le (by omega)
              rw [ei] at hbi ⊢
              clear ei
              go_wp2_with fail
              exact ⟨⟨1 + 1, by omega, by omega, by go_num, by simp⟩, by simp [intOf]⟩
        · simp only [show (1 : Nat) < 2 ↔ True from by decide, show (2 : Nat) < 2 ↔ False from by decide, show (3 : Nat) < 2 ↔ False from by decide, if_true, if_false]
          have ht := fun o o' => (HR.out o o').tabs.tab 2 (by omega) (by omega)
          obtain ⟨hcap, hh⟩ := HH.out 2 (by omega) (by omega)
          have hl := (ht default default).len
          have bb : ∀ i, i ≤ (h.t 2).length → 0 ≤ Tm.takenOf ((h.t 2).take i) ∧ Tm.takenOf ((h.t 2).take i) ≤ (i : Int) := fun i hi => takenOf_bd _ i hi
          have HBB := hide bb
          have HTt := hide ht
          clear bb ht
          go_wp2_with fail
          go_loopw [6] (fun iv w' => ∃ i : Nat, i ≤ (h.t 2).length ∧ iv = .int .i64 i ∧ w' = ((w.alloc (.cells #[.int .i64 (0), .int .i64 (0), .int .i64 (0), .int .i64 (0), .int .i64 (0), .int .i64 (0)] 44)).alloc (.cells #[.int .i64 (cn), .int .i64 (rm), .int .i64 (Tm.takenOf (h.t 1)), .int .i64 (Tm.takenOf ((h.t 2).take i)), .int .i64 (0), .int .i64 (0)] 44))) (fun iv _ => (h.t 2).length - (intOf iv).toNat)
          case atStart => exact ⟨0, by omega, rfl, rfl⟩
          case round =>
            obtain ⟨i, hi, rfl, rfl⟩ := hrel
            have hbi := HBB.out i hi
            by_cases hlt2 : i < (h.t 2).length
            · have bi : (i : Int) < ((h.t 2).length : Int) := by omega
              have co := fun o o' => (HTt.out o o').ob i hlt2
              have HS := hide (Tm.take_getD (h.t 2) Tm.sl0 i hlt2)
              obtain ⟨s, es⟩ : ∃ s, (h.t 2).getD i Tm.sl0 = s := ⟨_, rfl⟩
              simp only [es] at co HS
              clear es
              generalize htn : Tm.takenOf ((h.t 2).take i) = tn at *
              have HTN := hide htn
              clear htn
              by_cases ho : s.ob = 0
              · have ho' : (s.ob != 0) = false := by simpa using ho
                have HSt : Hid (Tm.takenOf ((h.t 2).take (i + 1)) = tn) := by show _ = _; rw [HS.out, Tm.takenOf_append, HTN.out]; simp [Tm.takenOf, ho]
                go_wp2_with fail
                exact ⟨⟨i + 1, by omega, by go_num, by rw [HSt.out]⟩, by simp [intOf]; omega⟩
              · have ho' : (s.ob != 0) = true := by simpa using ho
                have HSt : Hid (Tm.takenOf ((h.t 2).take (i + 1)) = tn + 1) := by show _ = _; rw [HS.out, Tm.takenOf_append, HTN.out]; simp [Tm.takenOf, ho]
                go_wp2_with fail
                exact ⟨⟨i + 1, by omega, by go_num, by rw [HSt.out]⟩, by simp [intOf]; omega⟩
            · have bi : ¬ (i : Int) < ((h.t 2).length : Int) := by omega
              have ei : (h.t 2).take i = h.t 2 := List.take_of_length_le (by omega)
              rw [ei] at hbi ⊢
              clear ei
              go_wp2_with fail
              exact ⟨⟨2 + 1, by omega, by omega, by go_num, by simp⟩, by simp [intOf]⟩
        · simp only [show (1 : Nat) < 3 ↔ True from by decide, show (2 : Nat) < 3 ↔ True from by decide, show (3 : Nat) < 3 ↔ False from by decide, if_true, if_false]
          have ht := fun o o' => (HR.out o o').tabs.tab 3 (by omega) (by omega)
          obtain ⟨hcap, hh⟩ := HH.out 3 (by omega) (by omega)
          have hl := (ht default default).len
          have bb : ∀ i, i ≤ (h.t 3).length → 0 ≤ Tm.takenOf ((h.t 3).take i) ∧ Tm.takenOf ((h.t 3).take i) ≤ (i : Int) := fun i hi => takenOf_bd _ i hi
          have HBB := hide bb
          have HTt := hide ht
          clear bb ht
          go_wp2_with fail
          go_loopw [6] (fun iv w' => ∃ i : Nat, i ≤ (h.t 3).length ∧ iv = .int .i64 i ∧ w' = ((w.alloc (.cells #[.int .i64 (0), .int .i64 (0), .int .i64 (0), .int .i64 (0), .int .i64 (0), .int .i64 (0)] 44)).alloc (.cells #[.int .i64 (cn), .int .i64 (rm), .int .i64 (Tm.takenOf (h.t 1)), .int .i64 (Tm.takenOf (h.t 2)), .int .i64 (Tm.takenOf ((h.t 3).take i)), .int .i64 (0)] 44))) (fun iv _ => (h.t 3).length - (intOf iv).toNat)
          case atStart => exact ⟨0, by omega, rfl, rfl⟩
          case round =>
            obtain ⟨i, hi, rfl, rfl⟩ := hrel
            have hbi := HBB.out i hi
            by_cases hlt2 : i < (h.t 3).length
            · have bi : (i : Int) < ((h.t 3).length : Int) := by omega
              have co := fun o o' => (HTt.out o o').ob i hlt2
              have HS := hide (Tm.take_getD (h.t 3) Tm.sl0 i hlt2)
              obtain ⟨s, es⟩ : ∃ s, (h.t 3).getD i Tm.sl0 = s := ⟨_, rfl⟩
              simp only [es] at co HS
              clear es
              generalize htn : Tm.takenOf ((h.t 3).take i) = tn at *
              have HTN := hide htn
              clear htn
              by_cases ho : s.ob = 0
              · have ho' : (s.ob != 0) = false := by simpa using ho
                have HSt : Hid (Tm.takenOf ((h.t 3).take (i + 1)) = tn) := by show _ = _; rw [HS.out, Tm.takenOf_append, HTN.out]; simp [Tm.takenOf, ho]
                go_wp2_with fail
                exact ⟨⟨i + 1, by omega, by go_num, by rw [HSt.out]⟩, by simp [intOf]; omega⟩
              · have ho' : (s.ob != 0) = true := by simpa using ho
                have HSt : Hid (Tm.takenOf ((h.t 3).take (i + 1)) = tn + 1) := by show _ = _; rw [HS.out, Tm.takenOf_append, HTN.out]; simp [Tm.takenOf, ho]
                go_wp2_with fail
                exact ⟨⟨i + 1, by omega, by go_num, by rw [HSt.out]⟩, by simp [intOf]; omega⟩
            · have bi : ¬ (i : Int) < ((h.t 3).length : Int) := by omega
              have ei : (h.t 3).take i = h.t 3 := List.take_of_length_le (by omega)
              rw [ei] at hbi ⊢
              clear ei
              go_wp2_with fail
              exact ⟨⟨3 + 1, by omega, by omega, by go_num, by simp⟩, by simp [intOf]⟩
        · have cf := fun o o' => (HR.out o o').frames
          go_wp2_with fail
          refine bodyPost_ret (v := statsV h) ?_ rfl ⟨rfl, ?_⟩
          · unfold statsV
            rw [HEC.out, HER.out]
            simp [results, Tryz.results108, go_sem]
          · exact ((Below.alloc0 _ _).trans ((Below.refl _ _).alloc (by simp) _))
end Go.Proofs.YtcnmfljpmpgnjaaGreatDoor

namespace Go.Proofs.YtcnmfljpmpgnjaaGreatDoor
open Go.RowKit
open Tm (H Ob Sl Why)

/-- A list of numbers that came in. -/
def RowIn (w : World) (B : Nat) (v : Value) (l : List Int) : Prop :=
  ∃ p c, v = .slice p l.length c ∧ (p = none → l = []) ∧ l.length ≤ 17592186044416 ∧ (0 < l.length → ∃ b o, p = some ⟨b, o, none⟩ ∧ b < B ∧ ∀ j, j < l.length → w.cell? ⟨b, o + j, none⟩ = some (.int .i64 (l.getD j 0)))
/-- Lists of numbers that came in. -/
def ClsIn (w : World) (B : Nat) (v : Value) (cl : List (List Int)) : Prop :=
  ∃ p c, v = .slice p cl.length c ∧ (p = none → cl = []) ∧ cl.length ≤ 8796093022208 ∧ (0 < cl.length → ∃ b o, p = some ⟨b, o, none⟩ ∧ b < B ∧ ∀ i, i < cl.length → ∃ u, w.cell? ⟨b, o + i, none⟩ = some u ∧ RowIn w B u (cl.getD i []))

theorem RowIn.below {w w' : World} {B : Nat} {v : Value} {l : List Int} (h : RowIn w B v l) (hb : Below B w w') : RowIn w' B v l := by
  obtain ⟨p, c, e, h0, h1, h2⟩ := h
  refine ⟨p, c, e, h0, h1, fun hp => ?_⟩
  obtain ⟨b, o, e1, h3, h4⟩ := h2 hp
  exact ⟨b, o, e1, h3, fun j hj => by rw [hb.cell h3]; exact h4 j hj⟩
theorem ClsIn.below {w w' : World} {B : Nat} {v : Value} {cl : List (List Int)} (h : ClsIn w B v cl) (hb : Below B w w') : ClsIn w' B v cl := by
  obtain ⟨p, c, e, h0, h1, h2⟩ := h
  refine ⟨p, c, e, h0, h1, fun hp => ?_⟩
  obtain ⟨b, o, e1, h3, h4⟩ := h2 hp
  refine ⟨b, o, e1, h3, fun i hi => ?_⟩
  obtain ⟨u, q1, q2⟩ := h4 i hi
  exact ⟨u, by rw [hb.cell h3]; exact q1, q2.below hb⟩

def cfgV (r l g k : Int) (v : Value) : Value := .agg #[.int .i64 r, .int .i64 l, .int .i64 g, .int .i64 k, v]

set_option maxRecDepth 100000 in
set_option maxHeartbeats 4000000 in
theorem right_any (w : World) (B : Nat) (r l g k : Int) (p : Option Addr) (c : Nat) (cl : List (List Int)) (hB : B ≤ w.heap.size) (hc : ClsIn w B (.slice p cl.length c) cl) :
    Calls Tryz.prog 132 #[.agg #[.int .i64 r, .int .i64 l, .int .i64 g, .int .i64 k, .slice p cl.length c]] w fun e w' => e = .returned (.bool (Tm.right r l g k cl)) ∧ Below w.heap.size w w' := by
  have hc1 := fun o => hc.below ((Below.alloc0 w o).mono hB)
  have hlen : cl.length ≤ 8796093022208 := by obtain ⟨p', c', e', hn0, hlen, _⟩ := hc; exact hlen
  have HC := hide hc1
  clear hc1 hc
  have HRt : Hid (Tm.right r l g k cl = (Tm.inR r 1 200 && (Tm.inR l 1 16 && (Tm.inR g 1 16 && (Tm.inR k 1 16 && (Tm.inR (cl.length : Int) 1 8 && cl.all Tm.goodClass)))))) := rfl
  go_enter Tryz.func132, Tryz.ntmps132
  go_wp2_with fail
  refine (in_any _ _ _ _).mono ?_
  rintro e w' ⟨rfl, rfl⟩
  go_wp2_with fail
  refine (in_any _ _ _ _).mono ?_
  rintro e w' ⟨rfl, rfl⟩
  go_wp2_with fail
  refine (in_any _ _ _ _).mono ?_
  rintro e w' ⟨rfl, rfl⟩
  go_wp2_with fail
  refine (in_any _ _ _ _).mono ?_
  rintro e w' ⟨rfl, rfl⟩
  go_wp2_with fail
  refine (in_any _ _ _ _).mono ?_
  rintro e w' ⟨rfl, rfl⟩
  have hfin : ∀ b : Bool, Tm.right r l g k cl = b → ∀ o, (Ending.returned (.bool b) = .returned (.bool (Tm.right r l g k cl)) ∧ Below w.heap.size w (w.alloc o)) := fun b hb o => ⟨by rw [hb], Below.alloc0 _ _⟩
  have HF := hide hfin
  clear hfin
  cases h1 : Tm.inR r 1 200
  · have hr := HRt.out
    rw [h1] at hr
    have HX := hide hr
    clear hr
    go_wp2_with fail
    go_ret
    exact HF.out false HX.out _
  cases h2 : Tm.inR l 1 16
  · have hr := HRt.out
    rw [h1, h2] at hr
    have HX := hide hr
    clear hr
    go_wp2_with fail
    go_ret
    exact HF.out false HX.out _
  cases h3 : Tm.inR g 1 16
  · have hr := HRt.out
    rw [h1, h2, h3] at hr
    have HX := hide hr
    clear hr
    go_wp2_with fail
    go_ret
    exact HF.out false HX.out _
  cases h4 : Tm.inR k 1 16
  · have hr := HRt.out
    rw [h1, h2, h3, h4] at hr
    have HX := hide hr
    clear hr
    go_wp2_with fail
    go_ret
    exact HF.out false HX.out _
  cases h5 : Tm.inR (cl.length : Int) 1 8
  · have hr := HRt.out
    rw [h1, h2, h3, h4, h5] at hr
    have HX := hide hr
    clear hr
    go_wp2_with fail
    go_ret
    exact HF.out false HX.out _
  have hr := HRt.out
  rw [h1, h2, h3, h4, h5] at hr
  have HX : Hid (Tm.right r l g k cl = cl.all Tm.goodClass) := by show _ = _; rw [hr]; rfl
  have hb5 := h5
  unfold Tm.inR at hb5
  simp only [decide_eq_true_eq] at hb5
  have hc2 := HC.out (.cells #[.int .i64 r, .int .i64 l, .int .i64 g, .int .i64 k, .slice p cl.length c] 63)
  obtain ⟨p', c', e', _, _, hcell⟩ := hc2
  simp only [Value.slice.injEq, true_and] at e'
  obtain ⟨rfl, rfl⟩ := e'
  obtain ⟨b, o, rfl, hbB, hrow⟩ := hcell (by omega)
  have HRow := hide hrow
  clear hrow hr HC HRt
  go_wp2_with fail
  go_loop [8] (fun iv => ∃ i : Nat, i ≤ cl.length ∧ iv = .int .i64 i ∧ cl.all Tm.goodClass = (cl.drop i).all Tm.goodClass) (fun iv => cl.length - (intOf iv).toNat)
  case atStart => exact ⟨0, by omega, rfl, by simp⟩
  case round =>
    obtain ⟨i, hi, rfl, heq⟩ := hrel
    have HE := hide heq
    clear heq
    by_cases hlt : i < cl.length
    · obtain ⟨u, cu, rp, rc, rfl, rn, rl, rcell⟩ := HRow.out i hlt
      have HD := hide (Tm.all_drop cl [] Tm.goodClass i hlt)
      have bi : (i : Int) < (cl.length : Int) := by omega
      obtain ⟨row, er⟩ : ∃ row, cl.getD i [] = row := ⟨_, rfl⟩
      rw [er] at cu rn rl rcell HD
      clear er rn
      by_cases hl8 : row.length ≤ 8
      · have HG : Hid (Tm.goodClass row = row.all fun x => Tm.inR x 1 2) := by show _ = _; unfold Tm.goodClass; simp [hl8]
        have b8 : ¬ (8 : Int) < (row.length : Int) := by omega
        go_wp2_with fail
        go_loop [9, 10] (fun kv _ => ∃ q : Nat, q ≤ row.length ∧ kv = .int .i64 q ∧ (row.all fun x => Tm.inR x 1 2) = ((row.drop q).all fun x => Tm.inR x 1 2)) (fun kv _ => row.length - (intOf kv).toNat)
        case atStart => exact ⟨0, by omega, rfl, by simp⟩
        case round =>
          obtain ⟨q, hq, rfl, heq⟩ := hrel
          have HE2 := hide heq
          clear heq
          by_cases hlt2 : q < row.length
          · obtain ⟨rb, ro, rfl, _, hcc⟩ := rcell (by omega)
            have cq := hcc q hlt2
            have HD2 := hide (Tm.all_drop row 0 (fun x => Tm.inR x 1 2) q hlt2)
            have bq : (q : Int) < (row.length : Int) := by omega
            obtain ⟨x, ex⟩ : ∃ x, row.getD q 0 = x := ⟨_, rfl⟩
            rw [ex] at cq HD2
            clear ex hcc
            go_wp2_with fail
            refine (in_any _ _ _ _).mono ?_
            rintro e w' ⟨rfl, rfl⟩
            cases hx : Tm.inR x 1 2
            · go_wp2_with fail
              go_ret
              exact HF.out false (by rw [HX.out, HE.out, HD.out, HG.out, HE2.out, HD2.out, hx]; rfl) _
            · go_wp2_with fail
              go_round
              case rel => exact ⟨q + 1, by omega, by go_num, by rw [HE2.out, HD2.out, hx]; rfl⟩
              case measure => simp [intOf]; omega
          · have bq : ¬ (q : Int) < (row.length : Int) := by omega
            go_wp2_with fail
            go_round
            case rel => exact ⟨i + 1, by omega, by go_num, by rw [HE.out, HD.out, HG.out, HE2.out, List.drop_eq_nil_of_le (by omega)]; simp⟩
            case measure => simp [intOf]; omega
      · have b8 : (8 : Int) < (row.length : Int) := by omega
        go_wp2_with fail
        go_ret
        exact HF.out false (by rw [HX.out, HE.out, HD.out]; unfold Tm.goodClass; simp [hl8]) _
    · have bi : ¬ (i : Int) < (cl.length : Int) := by omega
      go_wp2_with fail
      go_ret
      exact HF.out true (by rw [HX.out, HE.out, List.drop_eq_nil_of_le (by omega)]; rfl) _
end Go.Proofs.YtcnmfljpmpgnjaaGreatDoor
