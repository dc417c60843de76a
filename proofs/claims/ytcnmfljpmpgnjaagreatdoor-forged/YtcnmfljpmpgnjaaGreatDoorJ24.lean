import Derived.Test.YtcnmfljpmpgnjaaGreatDoorJ23
import Derived.RegionTactic
namespace Go.Proofs.YtcnmfljpmpgnjaaGreatDoor
open Go.RowKit
open Tm (H Ob Sl Why)

set_option maxHeartbeats 1000000 in
theorem object_any {S : Nat → Prop} {tag : Nat → Nat × Nat} {w : World} {a : Nat} {Y : Lay} {h : H} (r : Rep S tag w a Y h) (x : Int) (hx : x < 9223372036854775808) :
    Calls Tryz.prog 162 #[.pointer (some ⟨a, 0, none⟩), .int .i64 x] w fun e w' => e = .returned (.tuple #[.int .i64 (h.object x).1, whyV (h.object x).2]) ∧ Below w.heap.size w w' := by
  have r1 := fun o => r.alloc o
  have HO1 : Hid ((h.of x).2.reason = 0 → (h.ob (h.of x).1).gone = true → h.object x = (0, ⟨5, x⟩)) := fun h1 h2 => by unfold H.object; rw [if_pos ⟨h1, h2⟩]
  have HO2 : Hid (¬ ((h.of x).2.reason = 0 ∧ (h.ob (h.of x).1).gone = true) → h.object x = h.of x) := fun h1 => by unfold H.object; rw [if_neg h1]
  have HB : Hid ((h.of x).2.reason = 0 → 0 < (h.of x).1 ∧ (h.of x).1 ≤ (h.l.length : Int)) := of_bd r x
  go_enter Tryz.func162, Tryz.ntmps162
  go_wp2_with fail
  refine (of_any S _ a Y.bt h x hx (r1 _).lt (r1 _).tabs).mono ?_
  rintro e w1 ⟨rfl, hb⟩
  have hr1 := (r1 (.cells #[.int .i64 0, .int .i64 0] 161)).below hb (Nat.le_refl _)
  clear r1
  have hz : w.heap.size < w1.heap.size := by have := hb.size; simp at this; omega
  have cz0 : w1.cell? ⟨w.heap.size, 0, none⟩ = some (.int .i64 0) := by rw [hb.cell (by simp)]; simp
  have cz1 : w1.cell? ⟨w.heap.size, 1, none⟩ = some (.int .i64 0) := by rw [hb.cell (by simp)]; simp
  have fz : ∀ i, w1.frozen? ⟨w.heap.size, i, none⟩ = false := fun i => by rw [hb.frozen (by simp)]; simp
  have HBl : Hid (Below w.heap.size w w1) := (Below.alloc0 _ _).trans (hb.mono (by simp))
  clear hb
  have HR := hide hr1
  clear hr1
  generalize h.of x = p at *
  obtain ⟨n, y⟩ := p
  obtain ⟨yr, yh⟩ := y
  simp only [whyV]
  by_cases hy : yr = 0
  · obtain ⟨h0, h1⟩ := HB.out hy
    obtain ⟨j, hj, rfl⟩ := num_of h0 h1
    subst hy
    have q := fun o => (HR.out.alloc o).objJ j hj
    have c5 := fun o => (q o).1
    have cp := fun o => (q o).2.1
    have cg := fun o => (q o).2.2.gone
    have hm := r.many
    have bj : (j : Int) < (h.l.length : Int) := by omega
    clear q
    cases hg : (h.l.getD j Tm.ob0).gone
    · rw [hg] at cg
      go_wp2_with fail
      go_region
      all_goals go_wp2_with fail
      all_goals
        refine bodyPost_ret (v := .tuple #[.int .i64 ((j : Int) + 1), .agg #[.int .i64 0, .int .i64 yh]]) (by simp [results, Tryz.results162, go_sem, hz, cz0, cz1]) rfl ⟨by rw [HO2.out (by rw [ob_succ, hg]; simp)]; rfl, ?_⟩
        repeat (first | exact HBl.out | refine Below.drew ?_ | refine Below.setCell ?_ (by simp) _ | refine Below.alloc ?_ (by simp; omega) _)
    · rw [hg] at cg
      go_wp2_with fail
      refine bodyPost_ret (v := .tuple #[.int .i64 0, .agg #[.int .i64 5, .int .i64 x]]) (by simp [results, Tryz.results162, go_sem, hz, cz0, cz1]) rfl ⟨by rw [HO1.out trivial (by rw [ob_succ, hg])]; rfl, ?_⟩
      repeat (first | exact HBl.out | refine Below.drew ?_ | refine Below.setCell ?_ (by simp) _ | refine Below.alloc ?_ (by simp; omega) _)
  · have hy' : (yr == 0) = false := by simpa using hy
    go_wp2_with fail
    go_region
    all_goals go_wp2_with fail
    all_goals
      refine bodyPost_ret (v := .tuple #[.int .i64 n, .agg #[.int .i64 yr, .int .i64 yh]]) (by simp [results, Tryz.results162, go_sem, hz, cz0, cz1]) rfl ⟨by rw [HO2.out (by simp [hy])]; rfl, ?_⟩
      repeat (first | exact HBl.out | refine Below.drew ?_ | refine Below.setCell ?_ (by simp) _ | refine Below.alloc ?_ (by simp; omega) _)

set_option maxHeartbeats 1000000 in
theorem field_any {S : Nat → Prop} {tag : Nat → Nat × Nat} {w : World} {a : Nat} {Y : Lay} {h : H} (r : Rep S tag w a Y h) (j : Nat) (hj : j < h.l.length) (i kind : Int) :
    Calls Tryz.prog 163 #[.pointer (some ⟨a, 0, none⟩), .int .i64 ((j : Int) + 1), .int .i64 i, .int .i64 kind] w fun e w' => e = .returned (.bool (h.hasField ((j : Int) + 1) i kind)) ∧ w' = w := by
  obtain ⟨c5, cp, ho⟩ := r.objJ j hj
  obtain ⟨kv, ck, p, c, rfl, hp, hc⟩ := ho.kinds
  have hl := ho.len
  have HF : Hid (h.hasField ((j : Int) + 1) i kind = decide (0 ≤ i ∧ i < ((h.l.getD j Tm.ob0).kinds.length : Int) ∧ (h.l.getD j Tm.ob0).kinds.getD i.toNat 0 = kind)) := by
    show H.hasField _ _ _ _ = _
    unfold H.hasField; rw [ob_succ]
  have hm := r.many
  have bj : (j : Int) < (h.l.length : Int) := by omega
  generalize (h.l.getD j Tm.ob0).kinds = ks at *
  by_cases h0 : 0 ≤ i
  · obtain ⟨m, rfl⟩ := Int.eq_ofNat_of_zero_le h0
    by_cases h1 : m < ks.length
    · obtain ⟨rfl, _⟩ := hp (by omega)
      have cc := hc m h1
      have b1 : (m : Int) < (ks.length : Int) := by omega
      go_enter Tryz.func163, Tryz.ntmps163
      go_wp2_with fail
      go_ret
      exact ⟨by rw [HF.out]; simp [h1]; rfl, rfl⟩
    · have b1 : decide ((m : Int) < (ks.length : Int)) = false := by simp; omega
      go_enter Tryz.func163, Tryz.ntmps163
      go_wp2_with fail
      go_ret
      exact ⟨by rw [HF.out]; simp [h1], rfl⟩
  · have b0 : decide (0 ≤ i) = false := by simpa using h0
    go_enter Tryz.func163, Tryz.ntmps163
    go_wp2_with fail
    go_ret
    exact ⟨by rw [HF.out]; simp; omega, rfl⟩
end Go.Proofs.YtcnmfljpmpgnjaaGreatDoor

namespace Go.Proofs.YtcnmfljpmpgnjaaGreatDoor
open Go.RowKit
open Tm (H Ob Sl Why)

theorem object_bd {S : Nat → Prop} {tag : Nat → Nat × Nat} {w : World} {a : Nat} {Y : Lay} {h : H} (r : Rep S tag w a Y h) (x : Int) (hr : (h.object x).2.reason = 0) : ∃ j : Nat, j < h.l.length ∧ (h.object x).1 = (j : Int) + 1 := by
  unfold H.object at *
  split at hr
  · simp at hr
  · rename_i h1
    rw [if_neg h1]
    obtain ⟨a1, a2⟩ := of_bd r x hr
    exact num_of a1 a2

set_option maxHeartbeats 1000000 in
theorem get_any {S : Nat → Prop} {tag : Nat → Nat × Nat} {w : World} {a : Nat} {Y : Lay} {h : H} (r : Rep S tag w a Y h) (x i : Int) (hx : x < 9223372036854775808) :
    Calls Tryz.prog 150 #[.pointer (some ⟨a, 0, none⟩), .int .i64 x, .int .i64 i] w fun e w' => e = .returned (.tuple #[.int .i64 (h.get x i).1, whyV (h.get x i).2]) ∧ Below w.heap.size w w' := by
  have r1 := fun o => r.alloc o
  have HG1 : Hid ((h.object x).2.reason ≠ 0 → h.get x i = (0, (h.object x).2)) := fun h1 => by unfold H.get; rw [if_pos h1]
  have HG2 : Hid ((h.object x).2.reason = 0 → h.hasField (h.object x).1 i 1 = true → h.get x i = ((h.ob (h.object x).1).vals.getD i.toNat 0, Tm.fine)) := fun h1 h2 => by unfold H.get; rw [if_neg (by omega), if_pos h2]
  have HG3 : Hid ((h.object x).2.reason = 0 → h.hasField (h.object x).1 i 1 = false → h.get x i = (0, ⟨6, 0⟩)) := fun h1 h2 => by unfold H.get; rw [if_neg (by omega), if_neg (by rw [h2]; simp)]
  have HB : Hid ((h.object x).2.reason = 0 → ∃ j : Nat, j < h.l.length ∧ (h.object x).1 = (j : Int) + 1) := object_bd r x
  go_enter Tryz.func150, Tryz.ntmps150
  go_wp2_with fail
  refine (object_any (r1 _) x hx).mono ?_
  rintro e w1 ⟨rfl, hb⟩
  have hr1 := (r1 (.cells #[.int .i64 0, .int .i64 0] 161)).below hb (Nat.le_refl _)
  clear r1
  have hz : w.heap.size < w1.heap.size := by have := hb.size; simp at this; omega
  have cz0 : w1.cell? ⟨w.heap.size, 0, none⟩ = some (.int .i64 0) := by rw [hb.cell (by simp)]; simp
  have cz1 : w1.cell? ⟨w.heap.size, 1, none⟩ = some (.int .i64 0) := by rw [hb.cell (by simp)]; simp
  have fz : ∀ i, w1.frozen? ⟨w.heap.size, i, none⟩ = false := fun i => by rw [hb.frozen (by simp)]; simp
  have HBl : Hid (Below w.heap.size w w1) := (Below.alloc0 _ _).trans (hb.mono (by simp))
  clear hb
  have HR := hide hr1
  clear hr1
  generalize h.object x = p at *
  obtain ⟨n, y⟩ := p
  obtain ⟨yr, yh⟩ := y
  simp only [whyV]
  by_cases hy : yr = 0
  · obtain ⟨j, hj, e⟩ := HB.out hy
    simp only at e
    subst e
    subst hy
    go_wp2_with fail
    refine (field_any (HR.out.alloc _) j hj i 1).mono ?_
    rintro e w' ⟨rfl, rfl⟩
    cases hf : h.hasField ((j : Int) + 1) i 1
    · go_wp2_with fail
      refine bodyPost_ret (v := .tuple #[.int .i64 0, .agg #[.int .i64 6, .int .i64 0]]) (by simp [results, Tryz.results150, go_sem, hz, cz0, cz1]) rfl ⟨by rw [HG3.out (by simp) hf]; rfl, ?_⟩
      repeat (first | exact HBl.out | refine Below.drew ?_ | refine Below.setCell ?_ (by simp) _ | refine Below.alloc ?_ (by simp; omega) _)
    · have hf' := hf
      unfold H.hasField at hf'
      rw [ob_succ] at hf'
      simp only [decide_eq_true_eq] at hf'
      obtain ⟨i0, i1, _⟩ := hf'
      obtain ⟨m, rfl⟩ := Int.eq_ofNat_of_zero_le i0
      have q := fun o => (HR.out.alloc o).objJ j hj
      have c5 := fun o => (q o).1
      have cp := fun o => (q o).2.1
      have ho := (HR.out.objJ j hj).2.2
      have hl := ho.len
      have heq := ho.eq
      obtain ⟨vv, cv, p, c, rfl, hp, hc⟩ := ho.vals
      obtain ⟨rfl, sb⟩ := hp (by omega)
      have cvv : ∀ o, (w1.alloc o).cell? ⟨Y.ob j, 1, none⟩ = some (.slice (some ⟨Y.vb j, 0, none⟩) (h.l.getD j Tm.ob0).vals.length c) := fun o => by rw [World.cell?_alloc_lt _ _ _ (HR.out.lt _ ho.s)]; exact cv
      have cc : ∀ o, (w1.alloc o).cell? ⟨Y.vb j, m, none⟩ = some (.int .i64 ((h.l.getD j Tm.ob0).vals.getD m 0)) := fun o => by rw [World.cell?_alloc_lt _ _ _ (HR.out.lt _ sb)]; exact hc m (by omega)
      have hm := r.many
      have bj : (j : Int) < (h.l.length : Int) := by omega
      have b1 : (m : Int) < ((h.l.getD j Tm.ob0).vals.length : Int) := by omega
      have b2 : ((h.l.getD j Tm.ob0).vals.length : Int) ≤ 32 := by omega
      have e1 := HG2.out (by simp) hf
      rw [ob_succ] at e1
      have HE := hide e1
      clear e1 q cv hc heq ho hl i1 i0 hp
      generalize (h.l.getD j Tm.ob0).vals = vs at *
      go_wp2_with fail
      refine bodyPost_ret (v := .tuple #[.int .i64 (vs.getD m 0), .agg #[.int .i64 0, .int .i64 0]]) (by simp [results, Tryz.results150, go_sem, hz, cz0, cz1]) rfl ⟨by rw [HE.out]; simp [Tm.fine, whyV], ?_⟩
      repeat (first | exact HBl.out | refine Below.drew ?_ | refine Below.setCell ?_ (by simp) _ | refine Below.alloc ?_ (by simp; omega) _)
  · have hy' : (yr != 0) = true := by simpa using hy
    go_wp2_with fail
    go_region
    all_goals go_wp2_with fail
    all_goals
      refine bodyPost_ret (v := .tuple #[.int .i64 0, .agg #[.int .i64 yr, .int .i64 yh]]) (by simp [results, Tryz.results150, go_sem, hz, cz0, cz1]) rfl ⟨by rw [HG1.out hy]; rfl, ?_⟩
      repeat (first | exact HBl.out | refine Below.drew ?_ | refine Below.setCell ?_ (by simp) _ | refine Below.alloc ?_ (by simp; omega) _)
end Go.Proofs.YtcnmfljpmpgnjaaGreatDoor

namespace Go.Proofs.YtcnmfljpmpgnjaaGreatDoor
open Go.RowKit
open Tm (H Ob Sl Why)

theorem ObjAt.at {S : Nat → Prop} {tag : Nat → Nat × Nat} {w w' : World} {b i kb vb : Nat} {o : Ob} (h : ObjAt S tag w b i kb vb o) (hs : w'.heap[b]? = w.heap[b]?)
    (hk : 0 < o.kinds.length → w'.heap[kb]? = w.heap[kb]?) (hv : 0 < o.vals.length → w'.heap[vb]? = w.heap[vb]?) : ObjAt S tag w' b i kb vb o := by
  obtain ⟨kv, k1, k2⟩ := h.kinds
  obtain ⟨vv, v1, v2⟩ := h.vals
  exact ⟨h.s, h.t, ⟨kv, by rw [cell_of hs]; exact k1, k2.at hk⟩, h.kt, ⟨vv, by rw [cell_of hs]; exact v1, v2.at hv⟩, h.vt, h.eq, h.len, by rw [cell_of hs]; exact h.pins, h.pin, by rw [cell_of hs]; exact h.name, by rw [cell_of hs]; exact h.gone⟩

theorem TabAt.at {S : Nat → Prop} {w w' : World} {a bt k : Nat} {l : List Sl} (h : TabAt S w a bt k l) (ha : w'.heap[a]? = w.heap[a]?) (hb : w'.heap[bt]? = w.heap[bt]?) : TabAt S w' a bt k l :=
  ⟨h.sa, h.sb, h.len, by rw [cell_of ha]; exact h.head, fun i hi => by rw [cell_of hb]; exact h.gen i hi, fun i hi => by rw [cell_of hb]; exact h.ob i hi, fun i hi => by rw [cell_of hb]; exact h.frame i hi, fun i => by rw [frozen_of hb]; exact h.soft i⟩

theorem Rep.other {S : Nat → Prop} {tag : Nat → Nat × Nat} {w : World} {a : Nat} {Y : Lay} {h : H} (r : Rep S tag w a Y h) {p : Addr} (hp : ¬ S p.block) (u : Value) : Rep S tag (w.setCell p u) a Y h :=
  r.same (fun c hc => Below.heap_setCell _ _ _ _ (fun e => hp (e ▸ hc))) (by simp)
theorem Rep.drew {S : Nat → Prop} {tag : Nat → Nat × Nat} {w : World} {a : Nat} {Y : Lay} {h : H} (r : Rep S tag w a Y h) : Rep S tag w.drew a Y h := r.same (fun _ _ => rfl) (Nat.le_refl _)

theorem Rep.setVal {S : Nat → Prop} {tag : Nat → Nat × Nat} {w : World} {a : Nat} {Y : Lay} {h : H} (r : Rep S tag w a Y h) (j m : Nat) (v : Int) (hj : j < h.l.length) (hm : m < (h.l.getD j Tm.ob0).vals.length)
    (hv : (h.l.getD j Tm.ob0).kinds.getD m 0 = 2 → 0 ≤ v ∧ v ≤ (h.l.length : Int)) :
    Rep S tag (w.setCell ⟨Y.vb j, m, none⟩ (.int .i64 v)) a Y (h.setVal j m v) := by
  have oj := r.obj j hj
  have tv := oj.vt (by omega)
  have hne : ∀ b, tag b ≠ (4, j) → (w.setCell ⟨Y.vb j, m, none⟩ (.int .i64 v)).heap[b]? = w.heap[b]? := fun b hb =>
    Below.heap_setCell _ _ _ _ (fun e => hb (by rw [show b = Y.vb j from e]; exact tv))
  have na := hne a (by rw [r.tagA]; simp)
  have hl : (h.setVal j m v).l.length = h.l.length := by simp [H.setVal]
  obtain ⟨cp, cc, c1, c2⟩ := r.classes
  have hg : ∀ i, (h.setVal j m v).l.getD i Tm.ob0 = if i = j then { h.l.getD j Tm.ob0 with vals := (h.l.getD j Tm.ob0).vals.set m v } else h.l.getD i Tm.ob0 := fun i => Tm.getD_set _ _ _ _ _ hj
  refine ⟨fun b hb => by rw [World.size_setCell]; exact r.lt b hb, fun b i hb => by rw [World.frozen?_setCell]; exact r.soft b i hb, ⟨r.tabs.sa, r.tabs.t0, by rw [cell_of na]; exact r.tabs.zero, fun k k0 k4 => (r.tabs.tab k k0 k4).at na (hne _ (by rw [r.tagT k k0 k4]; simp))⟩, r.tagA, r.tagT,
    by rw [cell_of na]; exact r.room, r.small, by rw [cell_of na]; exact r.frames, r.fr, by rw [cell_of na, hl]; exact r.list, by rw [hl]; exact r.many, by rw [hl]; exact r.cap, r.listAt, fun h0 => by rw [hne _ (by rw [(r.listAt h0).2.2]; simp)]; exact r.block h0, r.capm, r.empty, fun i hi => ?_, fun i hi => ?_, r.ended.at (cell_of na) (fun h0 => hne _ (by rw [(r.ended.one h0).2.2.1]; simp)), ⟨cp, cc, by rw [cell_of na]; exact c1, c2⟩, r.few, fun i q hi hq hk => ?_, fun i hi => ?_, fun k i hi => by rw [hl]; exact r.wf k i hi⟩
  · have := r.cap
    rw [hl] at hi
    rw [cell_of (hne _ (by rw [(r.listAt (by omega)).2.2]; simp))]; exact r.ptr i hi
  · rw [hl] at hi
    rw [hg]
    by_cases e : i = j
    · subst e
      rw [if_pos rfl]
      obtain ⟨kv, k1, k2⟩ := oj.kinds
      obtain ⟨vv, v1, p, c, ev, hp, hc⟩ := oj.vals
      have nb := hne (Y.ob i) (by rw [oj.t]; simp)
      refine ⟨oj.s, oj.t, ⟨kv, by rw [cell_of nb]; exact k1, k2.at fun h0 => hne _ (fun e => by have := oj.kt h0; rw [e] at this; simp at this)⟩, oj.kt, ⟨vv, by rw [cell_of nb]; exact v1, p, c, by simpa using ev, by simpa using hp, fun q hq => ?_⟩, by simpa using oj.vt, by simpa using oj.eq, oj.len, by rw [cell_of nb]; exact oj.pins, oj.pin, by rw [cell_of nb]; exact oj.name, by rw [cell_of nb]; exact oj.gone⟩
      simp only [List.length_set] at hq
      simp only
      rw [Tm.getD_set _ _ _ _ _ hm]
      by_cases e2 : q = m
      · subst e2
        rw [if_pos rfl]
        exact World.cell?_setCell_same _ _ _ (hc q hq)
      · rw [if_neg e2, World.cell?_setCell_other _ _ _ _ (fun e => e2 (congrArg Addr.off e).symm)]
        exact hc q hq
    · rw [if_neg e]
      have oi := r.obj i hi
      exact oi.at (hne _ (by rw [oi.t]; simp)) (fun h0 => hne _ (fun e => by have := oi.kt h0; rw [e] at this; simp at this)) (fun h0 => hne _ (by rw [oi.vt h0]; simp; exact e))
  · rw [hl] at hi ⊢
    rw [hg] at hq hk ⊢
    by_cases e : i = j
    · subst e
      rw [if_pos rfl] at hq hk ⊢
      simp only at hq hk ⊢
      rw [Tm.getD_set _ _ _ _ _ hm]
      by_cases e2 : q = m
      · subst e2; rw [if_pos rfl]; exact hv hk
      · rw [if_neg e2]; exact r.refs i q hi hq hk
    · rw [if_neg e] at hq hk ⊢
      exact r.refs i q hi hq hk
  · obtain ⟨h1, h2, v, h3, h4⟩ := r.clas i hi
    exact ⟨h1, h2, v, by rw [cell_of (hne _ (by rw [(c2 (by have : i < h.classes.length := hi; omega)).2.2]; simp))]; exact h3, h4.at fun h0 => hne _ (fun e => by
      rcases h2 with h2 | h2
      · rw [e] at h2; simp at h2
      · have h0' : 0 < (h.classes.getD i []).length := h0
        rw [h2] at h0'; simp at h0')⟩
end Go.Proofs.YtcnmfljpmpgnjaaGreatDoor

namespace Go.Proofs.YtcnmfljpmpgnjaaGreatDoor
open Go.RowKit
open Tm (H Ob Sl Why)

theorem roomOf_bd (l : List Ob) (hk : ∀ i, i < l.length → (l.getD i Tm.ob0).kinds.length ≤ 32) (k : Nat) (h : k ≤ l.length) : 0 ≤ Tm.roomOf (l.take k) ∧ Tm.roomOf (l.take k) ≤ 33 * (k : Int) := by
  induction k with
  | zero => simp [Tm.roomOf]
  | succ k ih =>
    have := ih (by omega)
    rw [Tm.take_getD l Tm.ob0 k (by omega), Tm.roomOf_append]
    have := hk k (by omega)
    simp only [Tm.roomOf]
    split <;> omega

set_option maxHeartbeats 1000000 in
theorem room_any {S : Nat → Prop} {tag : Nat → Nat × Nat} {w : World} {a : Nat} {Y : Lay} {h : H} (r : Rep S tag w a Y h) :
    Calls Tryz.prog 136 #[.pointer (some ⟨a, 0, none⟩)] w fun e w' => e = .returned (.int .i64 (Tm.roomOf h.l)) ∧ w' = w := by
  have c5 := r.list
  have hm := r.many
  have HK := hide (roomOf_bd h.l fun i hi => (r.obj i hi).len)
  go_enter Tryz.func136, Tryz.ntmps136
  go_wp2_with fail
  go_loop [3, 4] (fun n i => ∃ k : Nat, k ≤ h.l.length ∧ i = .int .i64 k ∧ n = .int .i64 (Tm.roomOf (h.l.take k))) (fun _ i => h.l.length - (intOf i).toNat)
  case atStart => exact ⟨0, by omega, rfl, rfl⟩
  case round =>
    obtain ⟨k, hk, rfl, rfl⟩ := hrel
    have hb := HK.out k hk
    by_cases hlt : k < h.l.length
    · obtain ⟨c5', cp, ho⟩ := r.objJ k hlt
      clear c5
      have cg := ho.gone
      obtain ⟨kv, ck, p, c, rfl, hp, hc⟩ := ho.kinds
      have hl := ho.len
      have HS := hide (Tm.take_getD h.l Tm.ob0 k hlt)
      have b1 : (k : Int) < (h.l.length : Int) := by omega
      generalize h.l.getD k Tm.ob0 = o at *
      cases hg : o.gone
      · rw [hg] at cg
        go_wp2_with fail
        go_round
        case rel => exact ⟨k + 1, by omega, by go_num, by rw [HS.out, Tm.roomOf_append]; simp only [Tm.roomOf, hg]; simp; omega⟩
        case measure => simp [intOf]; omega
      · rw [hg] at cg
        go_wp2_with fail
        go_round
        case rel => exact ⟨k + 1, by omega, by go_num, by rw [HS.out, Tm.roomOf_append]; simp only [Tm.roomOf, hg]; simp⟩
        case measure => simp [intOf]; omega
    · have b1 : ¬ (k : Int) < (h.l.length : Int) := by omega
      go_wp2_with fail
      go_ret
      exact ⟨ret_int (by rw [List.take_of_length_le (by omega)]), rfl⟩

set_option maxHeartbeats 1000000 in
theorem set_any {S : Nat → Prop} {tag : Nat → Nat × Nat} {w : World} {a : Nat} {Y : Lay} {h : H} (r : Rep S tag w a Y h) (x i v : Int) (hx : x < 9223372036854775808) :
    Calls Tryz.prog 140 #[.pointer (some ⟨a, 0, none⟩), .int .i64 x, .int .i64 i, .int .i64 v] w fun e w' => e = .returned (whyV (h.set x i v).1) ∧ Rep S tag w' a Y (h.set x i v).2 ∧ Kept S w w' := by
  have r1 := fun o => r.alloc o
  have HG1 : Hid ((h.object x).2.reason ≠ 0 → h.set x i v = ((h.object x).2, h)) := fun h1 => by unfold H.set; rw [if_pos h1]
  have HG4 : Hid ((h.object x).2.reason = 0 → Tm.inR v (-1000000000) 1000000000 = false → h.set x i v = (⟨1, 0⟩, h)) := fun h1 h2 => by unfold H.set; rw [if_neg (by omega), if_pos h2]
  have HG2 : Hid ((h.object x).2.reason = 0 → Tm.inR v (-1000000000) 1000000000 = true → h.hasField (h.object x).1 i 1 = true → h.set x i v = (Tm.fine, h.setVal ((h.object x).1 - 1).toNat i.toNat v)) := fun h1 h3 h2 => by unfold H.set; rw [if_neg (by omega), if_neg (by rw [h3]; simp), if_pos h2]
  have HG3 : Hid ((h.object x).2.reason = 0 → Tm.inR v (-1000000000) 1000000000 = true → h.hasField (h.object x).1 i 1 = false → h.set x i v = (⟨6, 0⟩, h)) := fun h1 h3 h2 => by unfold H.set; rw [if_neg (by omega), if_neg (by rw [h3]; simp), if_neg (by rw [h2]; simp)]
  have HB : Hid ((h.object x).2.reason = 0 → ∃ j : Nat, j < h.l.length ∧ (h.object x).1 = (j : Int) + 1) := object_bd r x
  go_enter Tryz.func140, Tryz.ntmps140
  go_wp2_with fail
  refine (object_any (r1 _) x hx).mono ?_
  rintro e w1 ⟨rfl, hb⟩
  have hr1 := (r1 (.cells #[.int .i64 0, .int .i64 0] 161)).below hb (Nat.le_refl _)
  clear r1
  have hz : w.heap.size < w1.heap.size := by have := hb.size; simp at this; omega
  have cz0 : w1.cell? ⟨w.heap.size, 0, none⟩ = some (.int .i64 0) := by rw [hb.cell (by simp)]; simp
  have cz1 : w1.cell? ⟨w.heap.size, 1, none⟩ = some (.int .i64 0) := by rw [hb.cell (by simp)]; simp
  have fz : ∀ i, w1.frozen? ⟨w.heap.size, i, none⟩ = false := fun i => by rw [hb.frozen (by simp)]; simp
  have HBl : Hid (Below w.heap.size w w1) := (Below.alloc0 _ _).trans (hb.mono (by simp))
  clear hb
  have HR := hide hr1
  clear hr1
  generalize h.object x = p at *
  obtain ⟨n, y⟩ := p
  obtain ⟨yr, yh⟩ := y
  simp only [whyV]
  by_cases hy : yr = 0
  · obtain ⟨j, hj, e⟩ := HB.out hy
    simp only at e
    subst e
    subst hy
    go_wp2_with fail
    refine (in_any _ _ _ _).mono ?_
    rintro e w' ⟨rfl, rfl⟩
    cases hv : Tm.inR v (-1000000000) 1000000000
    · have HE := hide (HG4.out (by simp) hv)
      go_wp2_with fail
      have HQ : Hid (Below w.heap.size w (((w1.setCell ⟨w.heap.size, 0, none⟩ (.int .i64 1)).setCell ⟨w.heap.size, 1, none⟩ (.int .i64 0)).alloc (.cells #[.int .i64 0, .int .i64 yh] 161))) := by
        repeat (first | exact HBl.out | refine Below.drew ?_ | refine Below.setCell ?_ (by simp) _ | refine Below.alloc ?_ (by simp; omega) _)
      refine bodyPost_ret (v := .agg #[.int .i64 1, .int .i64 0]) (by simp [results, Tryz.results140, go_sem, hz, cz0, cz1]) rfl ⟨by rw [HE.out]; rfl, by rw [HE.out]; exact r.below HQ.out (Nat.le_refl _), Kept.of_below HQ.out⟩
    · go_wp2_with fail
      refine (field_any (HR.out.alloc _) j hj i 1).mono ?_
      rintro e w' ⟨rfl, rfl⟩
      cases hf : h.hasField ((j : Int) + 1) i 1
      · have HE := hide (HG3.out (by simp) hv hf)
        go_wp2_with fail
        have HQ : Hid (Below w.heap.size w (((w1.setCell ⟨w.heap.size, 0, none⟩ (.int .i64 6)).setCell ⟨w.heap.size, 1, none⟩ (.int .i64 0)).alloc (.cells #[.int .i64 0, .int .i64 yh] 161))) := by
          repeat (first | exact HBl.out | refine Below.drew ?_ | refine Below.setCell ?_ (by simp) _ | refine Below.alloc ?_ (by simp; omega) _)
        refine bodyPost_ret (v := .agg #[.int .i64 6, .int .i64 0]) (by simp [results, Tryz.results140, go_sem, hz, cz0, cz1]) rfl ⟨by rw [HE.out]; rfl, by rw [HE.out]; exact r.below HQ.out (Nat.le_refl _), Kept.of_below HQ.out⟩
      · have he := HG2.out (by simp) hv hf
        have hf' := hf
        unfold H.hasField at hf'
        rw [ob_succ] at hf'
        simp only [decide_eq_true_eq] at hf'
        obtain ⟨i0, i1, i2⟩ := hf'
        obtain ⟨m, rfl⟩ := Int.eq_ofNat_of_zero_le i0
        rw [Int.toNat_natCast] at i2
        rw [show ((j : Int) + 1 - 1).toNat = j from by omega, Int.toNat_natCast] at he
        have HE := hide he
        clear he
        have q := fun o => (HR.out.alloc o).objJ j hj
        have c5 := fun o => (q o).1
        have cp := fun o => (q o).2.1
        have ho := (HR.out.objJ j hj).2.2
        have hl := ho.len
        have heq := ho.eq
        obtain ⟨vv, cv, p, c, rfl, hp, hc⟩ := ho.vals
        obtain ⟨rfl, sb⟩ := hp (by omega)
        have slt := HR.out.lt _ sb
        have cvv : ∀ o, (w1.alloc o).cell? ⟨Y.ob j, 1, none⟩ = some (.slice (some ⟨Y.vb j, 0, none⟩) (h.l.getD j Tm.ob0).vals.length c) := fun o => by rw [World.cell?_alloc_lt _ _ _ (HR.out.lt _ ho.s)]; exact cv
        have cc : w1.cell? ⟨Y.vb j, m, none⟩ = some (.int .i64 ((h.l.getD j Tm.ob0).vals.getD m 0)) := hc m (by omega)
        have fv : w1.frozen? ⟨Y.vb j, m, none⟩ = false := HR.out.soft _ _ sb
        have hm := r.many
        have bj : (j : Int) < (h.l.length : Int) := by omega
        have b1 : (m : Int) < ((h.l.getD j Tm.ob0).vals.length : Int) := by omega
        have b2 : ((h.l.getD j Tm.ob0).vals.length : Int) ≤ 32 := by omega
        have HSV := hide (HR.out.setVal j m v hj (by omega) (fun e => by rw [i2] at e; omega))
        have hne : Y.vb j ≠ w.heap.size := fun e => by have := r.lt _ sb; omega
        have hne' : (Y.vb j == w.heap.size) = false := by simpa using hne
        have HN : Hid (¬ S w.heap.size) := fun hs => by have := r.lt _ hs; omega
        clear q cv hc heq ho hl i1 i0 hp i2
        generalize (h.l.getD j Tm.ob0).vals = vs at *
        go_wp2_with fail
        refine bodyPost_ret (v := .agg #[.int .i64 0, .int .i64 0]) (by simp [results, Tryz.results140, go_sem, hz, cz0, cz1]) rfl ⟨by rw [HE.out]; rfl, by rw [HE.out]; (repeat (first | exact HSV.out | refine Rep.alloc ?_ _ | refine Rep.other ?_ HN.out _ | refine Rep.drew ?_)), ?_⟩
        repeat (first | exact Kept.of_below HBl.out | refine Kept.drew ?_ | refine Kept.setCell ?_ (Or.inl sb) _ | refine Kept.setCell ?_ (Or.inr (by simp)) _ | refine Kept.alloc ?_ _)
  · have hy' : (yr != 0) = true := by simpa using hy
    have HE := hide (HG1.out hy)
    go_wp2_with fail
    have HQ : Hid (Below w.heap.size w (((w1.setCell ⟨w.heap.size, 0, none⟩ (.int .i64 yr)).setCell ⟨w.heap.size, 1, none⟩ (.int .i64 yh)).alloc (.cells #[.int .i64 yr, .int .i64 yh] 161))) := by
      repeat (first | exact HBl.out | refine Below.drew ?_ | refine Below.setCell ?_ (by simp) _ | refine Below.alloc ?_ (by simp; omega) _)
    refine bodyPost_ret (v := .agg #[.int .i64 yr, .int .i64 yh]) (by simp [results, Tryz.results140, go_sem, hz, cz0, cz1]) rfl ⟨by rw [HE.out]; rfl, by rw [HE.out]; exact r.below HQ.out (Nat.le_refl _), Kept.of_below HQ.out⟩
end Go.Proofs.YtcnmfljpmpgnjaaGreatDoor
