import Derived.Test.YtcnmfljpmpgnjaaGreatDoorJ30
namespace Go.Proofs.YtcnmfljpmpgnjaaGreatDoor
open Go.RowKit
open Tm (H Ob Sl Why)

/-- What a call that makes an object leaves. -/
def Made (S : Nat → Prop) (w : World) (a : Nat) (h : H) (need : Prop) (R : List Bool → (Int × Why) × H) (K : Nat → Prop) (T : Nat → Prop) (e : Ending) (w' : World) : Prop :=
  ∃ M, (need → Tm.Marked h M) ∧ e = .returned (.tuple #[.int .i64 (R M).1.1, whyV (R M).1.2]) ∧ ∃ S' tag' Y', Rep S' tag' w' a Y' (R M).2 ∧ Kept K w w' ∧ ∀ b, S' b → S b ∨ T b ∨ w.heap.size ≤ b

theorem make_all {S : Nat → Prop} {tag : Nat → Nat × Nat} {w : World} {a : Nat} {Y : Lay} {h : H} (r : Rep S tag w a Y h) (x kb : Nat) (kp : Option Addr) (kc : Nat) (ks : List Int) (name : Int) (n : NewAt S tag w x kb kp kc ks name)
    (hn : h.toldOK) (hmany : h.l.length + 1 < 4398046511104) :
    Calls Tryz.prog 165 #[.pointer (some ⟨a, 0, none⟩), .pointer (some ⟨x, 0, none⟩)] w
      (Made S w a h (h.needs ks) (fun M => h.makeBy M ks name) (fun b => S b ∨ b = x) (fun b => b = x ∨ (b = kb ∧ 0 < ks.length))) := by
  by_cases hf : h.free 1 < 0
  · refine (make_table r x hf).mono fun e w' ⟨he, hb⟩ => ⟨[], fun q => by have := q.1; omega, ?_, S, tag, Y, ?_, Kept.of_below hb, fun b hb => Or.inl hb⟩
    · rw [he]; simp only [H.makeBy, if_pos hf]
    · simp only [H.makeBy, if_pos hf]; exact r.below hb (Nat.le_refl _)
  · refine (make_any r x kb kp kc ks name n hf hn hmany).mono fun e w' ⟨M, h1, h2, S', tag', Y', h3, h4, h5⟩ => ⟨M, fun q => h1 q.2, h2, S', tag', Y', h3, h4, fun b hb => ?_⟩
    rcases h5 b hb with q | q | q | q
    · exact Or.inl q
    · exact Or.inr (Or.inl (Or.inl q))
    · exact Or.inr (Or.inl (Or.inr q))
    · exact Or.inr (Or.inr q)

set_option maxRecDepth 100000 in
set_option maxHeartbeats 4000000 in
theorem mk_any {S : Nat → Prop} {tag : Nat → Nat × Nat} {w : World} {a : Nat} {Y : Lay} {h : H} (r : Rep S tag w a Y h) (c : Int)
    (hn : h.toldOK) (hmany : h.l.length + 1 < 4398046511104) :
    Calls Tryz.prog 146 #[.pointer (some ⟨a, 0, none⟩), .int .i64 c] w
      (Made S w a h (h.isClass c = true ∧ h.needs (h.kindsOf c)) (fun M => h.ofClass M c) S (fun _ => False)) := by
  have HR := hide r
  have hfew := r.few
  obtain ⟨cp, cc, c12, hcp⟩ := r.classes
  have HN := hide hn
  have c12' : ∀ o, (w.alloc o).cell? ⟨a, 12, none⟩ = some (.slice cp h.classes.length cc) := fun o => by rw [World.cell?_alloc_lt _ _ _ (r.lt a r.tabs.sa)]; exact c12
  cases hc : h.isClass c
  · have hc' : Tm.inR c 0 ((h.classes.length : Int) - 1) = false := hc
    clear r hn c12
    go_enter Tryz.func146, Tryz.ntmps146
    go_wp2_with fail
    refine (in_any _ _ _ _).mono ?_
    rintro e w' ⟨rfl, rfl⟩
    rw [hc']
    go_wp2_with fail
    refine bodyPost_ret (v := .tuple #[.int .i64 0, .agg #[.int .i64 1, .int .i64 0]]) (by simp [results, Tryz.results146, go_sem]) rfl ⟨[], (fun q => by cases q.1), by unfold H.ofClass; rw [hc]; rfl, S, tag, Y, by unfold H.ofClass; rw [hc]; exact HR.out.alloc _, Kept.of_below (Below.alloc0 _ _), fun b hb => Or.inl hb⟩
  · have hc' : Tm.inR c 0 ((h.classes.length : Int) - 1) = true := hc
    have hb := hc'
    unfold Tm.inR at hb
    simp only [decide_eq_true_eq] at hb
    obtain ⟨m, rfl⟩ := Int.eq_ofNat_of_zero_le hb.1
    have hm : m < h.classes.length := by omega
    obtain ⟨q1, q2, q3⟩ := hcp (by omega)
    subst q1
    obtain ⟨k1, k2, kv, k3, kp, kc, rfl, k5, k6⟩ := r.clas m hm
    have k3' : ∀ o, (w.alloc o).cell? ⟨Y.bc, m, none⟩ = some (.slice kp (h.classes.getD m []).length kc) := fun o => by rw [World.cell?_alloc_lt _ _ _ (r.lt _ q2)]; exact k3
    have ekk : h.kindsOf (m : Int) = h.classes.getD m [] := by unfold H.kindsOf; rw [Int.toNat_natCast]
    have HMk : Hid (∀ M, h.ofClass M (m : Int) = h.makeBy M (h.classes.getD m []) (-1)) := fun M => by unfold H.ofClass; rw [hc, ekk]; rfl
    have HEk := hide ekk
    have bm : (m : Int) < (h.classes.length : Int) := by omega
    obtain ⟨ks, eks⟩ : ∃ ks, h.classes.getD m [] = ks := ⟨_, rfl⟩
    rw [eks] at k1 k2 k3' k5 k6 HMk HEk
    have hnew : ∀ o, NewAt S tag ((w.alloc o).alloc (.cells #[.slice kp ks.length kc, .slice none 0 0, .int .i64 0, .int .i64 (-1), .bool false] 205)) (w.heap.size + 1) (Y.cb m) kp kc ks (-1) := fun o => by
      refine ⟨fun e => by have := r.lt _ e; omega, by simp, fun i => World.frozen?_alloc_at _ _ _ _ (by simp), by rw [World.cell?_alloc_at _ _ _ _ (by simp)]; rfl, by rw [World.cell?_alloc_at _ _ _ _ (by simp)]; rfl, by rw [World.cell?_alloc_at _ _ _ _ (by simp)]; rfl, by rw [World.cell?_alloc_at _ _ _ _ (by simp)]; rfl, by rw [World.cell?_alloc_at _ _ _ _ (by simp)]; rfl, by omega, fun h0 => ⟨(k5 h0).1, by have := r.lt _ (k5 h0).2; simp; omega, fun e => by have := r.lt _ (k5 h0).2; omega, fun i => ?_, fun _ => ?_⟩, fun i hi => ?_⟩
      · rw [World.frozen?_alloc_past _ _ _ (by have := r.lt _ (k5 h0).2; simp; omega), World.frozen?_alloc_past _ _ _ (r.lt _ (k5 h0).2)]; exact r.soft _ _ (k5 h0).2
      · rcases k2 with q | q
        · exact q
        · rw [q] at h0; simp at h0
      · have h0 : 0 < ks.length := by omega
        rw [World.cell?_alloc_past _ _ _ (by have := r.lt _ (k5 h0).2; simp; omega), World.cell?_alloc_past _ _ _ (r.lt _ (k5 h0).2)]; exact k6 i hi
    have HC := fun o => hide (make_all ((r.alloc o).alloc (.cells #[.slice kp ks.length kc, .slice none 0 0, .int .i64 0, .int .i64 (-1), .bool false] 205)) _ _ _ _ _ _ (hnew o) hn hmany)
    have hkb : 0 < ks.length → S (Y.cb m) := fun h0 => (k5 h0).2
    have HKB := hide hkb
    clear r hn c12 hnew k1 k2 k3 k5 k6 eks ekk hkb hb
    go_enter Tryz.func146, Tryz.ntmps146
    go_wp2_with fail
    refine (in_any _ _ _ _).mono ?_
    rintro e w' ⟨rfl, rfl⟩
    rw [hc']
    go_wp2_with fail
    refine ((HC _).out).mono ?_
    rintro e w2 ⟨M, hM, rfl, S', tag', Y', r2, kk, hsub⟩
    dsimp only at r2 ⊢
    have hz := kk.size
    simp at hz
    have hN2 : w2.heap[w.heap.size]? = (w.alloc (.cells #[.int .i64 0, .int .i64 0] 161)).heap[w.heap.size]? := by
      rw [kk.block _ (by simp; omega) (by rintro (q | q); (have := HR.out.lt _ q; omega); omega)]
      exact Below.heap_alloc _ _ _ (by simp)
    have d0 : w2.cell? ⟨w.heap.size, 0, none⟩ = some (.int .i64 0) := by rw [cell_of hN2]; simp
    have d1 : w2.cell? ⟨w.heap.size, 1, none⟩ = some (.int .i64 0) := by rw [cell_of hN2]; simp
    have df : ∀ i, w2.frozen? ⟨w.heap.size, i, none⟩ = false := fun i => by rw [frozen_of hN2]; simp
    have hsub2 : ∀ b, S' b → S b ∨ w.heap.size + 1 ≤ b := fun b hb => by
      rcases hsub b hb with q | (q | ⟨q, q0⟩) | q
      · exact Or.inl q
      · exact Or.inr (by omega)
      · exact Or.inl (by rw [q]; exact HKB.out q0)
      · simp at q; exact Or.inr (by omega)
    have HS2 := hide hsub2
    have HNot : Hid (¬ S' w.heap.size) := fun e => by rcases hsub2 _ e with q | q; (have := HR.out.lt _ q; omega); omega
    have HR2 := hide r2
    have HK2 := hide kk
    have HM := hide hM
    clear r2 kk hM hsub hsub2 hN2
    simp only [whyV]
    obtain ⟨R, eR⟩ : ∃ R, h.makeBy M ks (-1) = R := ⟨_, rfl⟩
    rw [eR] at HR2 ⊢
    have ER := hide eR
    clear eR
    go_wp2_with fail
    refine bodyPost_ret (v := .tuple #[.int .i64 R.1.1, .agg #[.int .i64 R.1.2.reason, .int .i64 R.1.2.handle]]) (by simp [results, Tryz.results146, go_sem, d0, d1]) rfl ⟨M, fun q => HM.out (by rw [← HEk.out]; exact q.2), by simp only [HMk.out M, ER.out]; rfl, S', tag', Y', ?_, ?_, fun b hb => ?_⟩
    · simp only [HMk.out M, ER.out]
      repeat (first | exact HR2.out | refine Rep.other ?_ HNot.out _)
    · have HK' : Kept S w w2 := ⟨HK2.out.os, HK2.out.tape, HK2.out.output, by omega, fun b hb hn => by
        rw [HK2.out.block b (by simp; omega) (by rintro (q | q); exact hn q; omega), Below.heap_alloc _ _ _ (by simp; omega), Below.heap_alloc _ _ _ hb]⟩
      repeat (first | exact HK' | refine Kept.setCell ?_ (Or.inr (by simp)) _)
    · rcases HS2.out b hb with q | q
      · exact Or.inl q
      · exact Or.inr (Or.inr (by omega))
end Go.Proofs.YtcnmfljpmpgnjaaGreatDoor

namespace Go.Proofs.YtcnmfljpmpgnjaaGreatDoor
open Go.RowKit
open Tm (H Ob Sl Why)

/-- A slice of ints that the call has made, all one number. -/
structure Alike1 (N : Nat) (w : World) (p : Option Addr) (c b j : Nat) (k : Int) : Prop where
  one : 0 < c → p = some ⟨b, 0, none⟩ ∧ N ≤ b ∧ ∃ cur : Array Value, w.heap[b]? = some (.cells cur 3 (0, 0)) ∧ cur.size = c
  zero : c = 0 → p = none
  cap : j ≤ c
  capm : c ≤ maxLen
  cells : ∀ i, i < j → w.cell? ⟨b, i, none⟩ = some (.int .i64 k)

set_option maxRecDepth 100000 in
set_option maxHeartbeats 4000000 in
theorem arr_any {S : Nat → Prop} {tag : Nat → Nat × Nat} {w : World} {a : Nat} {Y : Lay} {h : H} (r : Rep S tag w a Y h) (kind n : Int)
    (hn : h.toldOK) (hmany : h.l.length + 1 < 4398046511104) :
    Calls Tryz.prog 148 #[.pointer (some ⟨a, 0, none⟩), .int .i64 kind, .int .i64 n] w
      (Made S w a h (Tm.isArray kind n = true ∧ h.needs (List.replicate n.toNat kind)) (fun M => h.arr M kind n) S (fun _ => False)) := by
  have HR := hide r
  have HN := hide hn
  have HNo : Hid (Tm.isArray kind n = false → Made S w a h (Tm.isArray kind n = true ∧ h.needs (List.replicate n.toNat kind)) (fun M => h.arr M kind n) S (fun _ => False) (.returned (.tuple #[.int .i64 0, .agg #[.int .i64 1, .int .i64 0]])) (w.alloc (.cells #[.int .i64 1, .int .i64 0] 161))) := fun hc =>
    ⟨[], (fun q => by rw [hc] at q; cases q.1), by simp only [H.arr, hc]; rfl, S, tag, Y, by simp only [H.arr, hc]; exact r.alloc _, Kept.of_below (Below.alloc0 _ _), fun b hb => Or.inl hb⟩
  clear r hn
  cases h1 : Tm.inR kind 1 2
  · have hc : Tm.isArray kind n = false := by unfold Tm.isArray; rw [h1]; rfl
    go_enter Tryz.func148, Tryz.ntmps148
    go_wp2_with fail
    refine (in_any _ _ _ _).mono ?_
    rintro e w' ⟨rfl, rfl⟩
    rw [h1]
    go_wp2_with fail
    refine (in_any _ _ _ _).mono ?_
    rintro e w' ⟨rfl, rfl⟩
    go_wp2_with fail
    exact bodyPost_ret (v := .tuple #[.int .i64 0, .agg #[.int .i64 1, .int .i64 0]]) (by simp [results, Tryz.results148, go_sem]) rfl (HNo.out hc)
  · cases h2 : Tm.inR n 0 32
    · have hc : Tm.isArray kind n = false := by unfold Tm.isArray; rw [h1, h2]; rfl
      go_enter Tryz.func148, Tryz.ntmps148
      go_wp2_with fail
      refine (in_any _ _ _ _).mono ?_
      rintro e w' ⟨rfl, rfl⟩
      rw [h1]
      go_wp2_with fail
      refine (in_any _ _ _ _).mono ?_
      rintro e w' ⟨rfl, rfl⟩
      rw [h2]
      go_wp2_with fail
      exact bodyPost_ret (v := .tuple #[.int .i64 0, .agg #[.int .i64 1, .int .i64 0]]) (by simp [results, Tryz.results148, go_sem]) rfl (HNo.out hc)
    · have hc : Tm.isArray kind n = true := by unfold Tm.isArray; rw [h1, h2]; rfl
      have hb := h2
      unfold Tm.inR at hb
      simp only [decide_eq_true_eq] at hb
      obtain ⟨m, rfl⟩ := Int.eq_ofNat_of_zero_le hb.1
      have hm : m ≤ 32 := by omega
      clear HNo
      obtain ⟨iI, hiI, hp0, hp1, hp2⟩ := info_parts info3
      have HiP := hide hiI
      have HP0 := hide hp0
      have HP1 := hide hp1
      have HP2 := hide hp2
      clear hiI hp0 hp1 hp2
      go_enter Tryz.func148, Tryz.ntmps148
      go_wp2_with fail
      refine (in_any _ _ _ _).mono ?_
      rintro e w' ⟨rfl, rfl⟩
      rw [h1]
      go_wp2_with fail
      refine (in_any _ _ _ _).mono ?_
      rintro e w' ⟨rfl, rfl⟩
      rw [h2]
      go_wp2_with fail
      go_loopw [10, 11] (fun lv iv w' => ∃ (j : Nat) (p : Option Addr) (c b : Nat), j ≤ m ∧ iv = .int .i64 j ∧ lv = .slice p j c ∧ Alike1 (w.heap.size + 1) w' p c b j kind ∧ Below (w.heap.size + 1) (w.alloc (.cells #[.int .i64 0, .int .i64 0] 161)) w') (fun _ iv _ => m - (intOf iv).toNat)
      case atStart => exact ⟨0, none, 0, 0, by omega, rfl, rfl, ⟨fun h => by omega, fun _ => rfl, by omega, by unfold maxLen; omega, fun i hi => by omega⟩, Below.refl _ _⟩
      case round =>
        obtain ⟨j, p, c, b, hj, rfl, rfl, al, bl⟩ := hrel
        have HAl := hide al
        have HBl := hide bl
        clear al bl
        by_cases hlt : j < m
        · have b1 : (j : Int) < (m : Int) := by omega
          go_wp2_with (at_builtin; refine wpList_put _ rfl (.tmp 28) (.tmp 30) 24 rfl 3 iI (.int .i64 0) 8 Tryz.underlying24 HiP.out HP0.out HP1.out HP2.out rfl p j c b rfl ?L ?L0 ?cap ?cm ⟨_, 0, none⟩ 1 (.int .i64 kind) rfl ?cc rfl ?b1 ?b2 ?K)
          case L => exact fun h0 => ⟨(HAl.out.one h0).1, by
            obtain ⟨_, _, cur, q1, q2⟩ := HAl.out.one h0
            exact ⟨cur, by rw [Below.heap_alloc _ _ _ (by rcases Nat.lt_or_ge b wr.heap.size with q | q; exact q; rw [Array.getElem?_eq_none q] at q1; cases q1)]; exact q1, q2⟩⟩
          case L0 => exact HAl.out.zero
          case cap => exact HAl.out.cap
          case cm => exact HAl.out.capm
          case cc => simp [Addr.add]
          case b1 => unfold maxLen; omega
          case b2 => omega
          case K =>
            intro w2 bL' cL' ap
            have HAp := hide ap
            clear ap
            go_wp2_with fail
            refine ⟨⟨j + 1, _, cL', bL', by omega, by go_num, rfl, ⟨fun _ => ⟨rfl, ?_, HAp.out.block⟩, (fun e => by have := HAp.out.cap; omega), HAp.out.cap, HAp.out.capm, fun i hi => ?_⟩, ?_⟩, by simp [intOf]; omega⟩
            · rcases HAp.out.bl with ⟨q, q0⟩ | q
              · rw [q]; exact (HAl.out.one q0).2.1
              · have := HBl.out.size; simp at this q; omega
            · by_cases e : i = j
              · subst e; exact HAp.out.last
              · rw [HAp.out.keep i (by omega)]
                obtain ⟨_, q0, _⟩ := HAl.out.one (by have := HAl.out.cap; omega)
                rw [World.cell?_alloc_lt _ _ _ (World.block_lt_of_cell? _ _ (HAl.out.cells i (by omega)))]
                exact HAl.out.cells i (by omega)
            · refine HBl.out.trans ⟨HAp.out.os, HAp.out.tape, HAp.out.output, by have := HAp.out.size; simp at this; omega, fun b' hb' => ?_⟩
              have hsz := HBl.out.size
              simp at hsz
              rw [HAp.out.old b' (by simp; omega) (fun e => by
                rcases HAp.out.bl with ⟨q, q0⟩ | q
                · have := (HAl.out.one q0).2.1; omega
                · simp at q; omega)]
              exact Below.heap_alloc _ _ _ (by omega)
        · have b1 : ¬ (j : Int) < (m : Int) := by omega
          have ej : j = m := by omega
          subst ej
          have hrw := (HR.out.alloc (.cells #[.int .i64 0, .int .i64 0] 161)).below HBl.out (by simp)
          have hwz := HBl.out.size
          simp at hwz
          have hrl : (List.replicate j kind).length = j := by simp
          have hblt : 0 < j → b < wr.heap.size := fun h0 => World.block_lt_of_cell? _ _ (HAl.out.cells 0 h0)
          have hnew : NewAt S tag (wr.alloc (.cells #[.slice p j c, .slice none 0 0, .int .i64 0, .int .i64 (-1), .bool false] 205)) wr.heap.size b p c (List.replicate j kind) (-1) := by
            refine ⟨fun e => by have := HR.out.lt _ e; omega, by simp, fun i => World.frozen?_alloc_new _ _ _ _, by rw [World.cell?_alloc_new]; simp, by rw [World.cell?_alloc_new]; rfl, by rw [World.cell?_alloc_new]; rfl, by rw [World.cell?_alloc_new]; rfl, by rw [World.cell?_alloc_new]; rfl, by simp; omega, fun h0 => ?_, fun i hi => ?_⟩
            · rw [hrl] at h0
              obtain ⟨q1, q2, cur, q3, q4⟩ := HAl.out.one (by have := HAl.out.cap; omega)
              refine ⟨q1, by have := hblt h0; simp; omega, by have := hblt h0; omega, fun i => ?_, fun e => by have := HR.out.lt _ e; omega⟩
              rw [World.frozen?_alloc_past _ _ _ (hblt h0)]
              simp [World.frozen?, q3]
            · rw [hrl] at hi
              rw [World.cell?_alloc_past _ _ _ (hblt (by omega)), HAl.out.cells i hi]
              simp [hi]
          have hm := make_all (hrw.alloc (.cells #[.slice p j c, .slice none 0 0, .int .i64 0, .int .i64 (-1), .bool false] 205)) _ _ _ _ _ _ hnew HN.out hmany
          have HC := hide hm
          have HAr : Hid (∀ M, h.arr M kind (j : Int) = h.makeBy M (List.replicate j kind) (-1)) := fun M => by unfold H.arr; rw [hc, Int.toNat_natCast]; rfl
          have HBt : Hid (0 < j → w.heap.size + 1 ≤ b) := fun h0 => (HAl.out.one (by have := HAl.out.cap; omega)).2.1
          have e0 : wr.heap[w.heap.size]? = (w.alloc (.cells #[.int .i64 0, .int .i64 0] 161)).heap[w.heap.size]? := HBl.out.block _ (by omega)
          have HE0 := hide e0
          clear hm hnew hrw hblt e0
          go_wp2_with fail
          refine HC.out.mono ?_
          rintro e w2 ⟨M, hM, rfl, S', tag', Y', r2, kk, hsub⟩
          dsimp only at r2 ⊢
          have hz := kk.size
          simp at hz
          have hN2 : w2.heap[w.heap.size]? = (w.alloc (.cells #[.int .i64 0, .int .i64 0] 161)).heap[w.heap.size]? := by
            rw [kk.block _ (by simp; omega) (by rintro (q | q); (have := HR.out.lt _ q; omega); omega), Below.heap_alloc _ _ _ (by omega)]
            exact HE0.out
          have d0 : w2.cell? ⟨w.heap.size, 0, none⟩ = some (.int .i64 0) := by rw [cell_of hN2]; simp
          have d1 : w2.cell? ⟨w.heap.size, 1, none⟩ = some (.int .i64 0) := by rw [cell_of hN2]; simp
          have df : ∀ i, w2.frozen? ⟨w.heap.size, i, none⟩ = false := fun i => by rw [frozen_of hN2]; simp
          have hsub2 : ∀ b, S' b → S b ∨ w.heap.size + 1 ≤ b := fun b' hb' => by
            rcases hsub b' hb' with q | (q | ⟨q, q0⟩) | q
            · exact Or.inl q
            · exact Or.inr (by omega)
            · rw [hrl] at q0; have := HBt.out q0; exact Or.inr (by omega)
            · simp at q; exact Or.inr (by omega)
          have HS2 := hide hsub2
          have HNot : Hid (¬ S' w.heap.size) := fun e => by rcases hsub2 _ e with q | q; (have := HR.out.lt _ q; omega); omega
          have HR2 := hide r2
          have HK2 := hide kk
          have HM := hide hM
          clear r2 kk hM hsub hsub2 hN2
          simp only [whyV]
          obtain ⟨R, eR⟩ : ∃ R, h.makeBy M (List.replicate j kind) (-1) = R := ⟨_, rfl⟩
          rw [eR] at HR2 ⊢
          have ER := hide eR
          clear eR
          go_wp2_with fail
          refine bodyPost_ret (v := .tuple #[.int .i64 R.1.1, .agg #[.int .i64 R.1.2.reason, .int .i64 R.1.2.handle]]) (by simp [results, Tryz.results148, go_sem, d0, d1]) rfl ⟨M, fun q => HM.out (by have := q.2; rw [Int.toNat_natCast] at this; exact this), by simp only [HAr.out M, ER.out]; rfl, S', tag', Y', ?_, ?_, fun b' hb' => ?_⟩
          · simp only [HAr.out M, ER.out]
            repeat (first | exact HR2.out | refine Rep.other ?_ HNot.out _)
          · have HK' : Kept S w w2 := ⟨HK2.out.os.trans HBl.out.os, HK2.out.tape.trans HBl.out.tape, HK2.out.output.trans HBl.out.output, by omega, fun b' hb' hn => by
              rw [HK2.out.block b' (by simp; omega) (by rintro (q | q); exact hn q; omega), Below.heap_alloc _ _ _ (by omega), HBl.out.block _ (by omega), Below.heap_alloc _ _ _ hb']⟩
            repeat (first | exact HK' | refine Kept.setCell ?_ (Or.inr (by simp)) _)
          · rcases HS2.out b' hb' with q | q
            · exact Or.inl q
            · exact Or.inr (Or.inr (by omega))
end Go.Proofs.YtcnmfljpmpgnjaaGreatDoor
