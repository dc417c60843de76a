import Derived.Test.YtcnmfljpmpgnjaaGreatDoorK38
namespace Go.Proofs.YtcnmfljpmpgnjaaGreatDoor
open Go.RowKit
open Tm (H Ob Sl Why)

set_option maxHeartbeats 4000000 in
theorem point_any {S : Nat → Prop} {tag : Nat → Nat × Nat} {w : World} {a : Nat} {Y : Lay} {h : H} (r : Rep S tag w a Y h) (x i y : Int) (hx : x < 9223372036854775808) (hy : y < 9223372036854775808) :
    Calls Tryz.prog 141 #[.pointer (some ⟨a, 0, none⟩), .int .i64 x, .int .i64 i, .int .i64 y] w fun e w' => e = .returned (whyV (h.point x i y).1) ∧ Rep S tag w' a Y (h.point x i y).2 ∧ Kept S w w' := by
  have r1 := fun o => r.alloc o
  have HG1 : Hid ((h.object x).2.reason ≠ 0 → h.point x i y = ((h.object x).2, h)) := fun h1 => by unfold H.point; rw [if_pos h1]
  have HG2 : Hid ((h.object x).2.reason = 0 → (h.perhaps y).2.reason ≠ 0 → h.point x i y = ((h.perhaps y).2, h)) := fun h1 h2 => by unfold H.point; rw [if_neg (by omega), if_pos h2]
  have HG3 : Hid ((h.object x).2.reason = 0 → (h.perhaps y).2.reason = 0 → h.hasField (h.object x).1 i 2 = false → h.point x i y = (⟨6, 0⟩, h)) := fun h1 h2 h3 => by unfold H.point; rw [if_neg (by omega), if_neg (by omega), if_neg (by rw [h3]; simp)]
  have HG4 : Hid ((h.object x).2.reason = 0 → (h.perhaps y).2.reason = 0 → h.hasField (h.object x).1 i 2 = true → h.point x i y = (Tm.fine, h.setVal ((h.object x).1 - 1).toNat i.toNat (h.perhaps y).1)) := fun h1 h2 h3 => by unfold H.point; rw [if_neg (by omega), if_neg (by omega), if_pos h3]
  have HB : Hid ((h.object x).2.reason = 0 → ∃ j : Nat, j < h.l.length ∧ (h.object x).1 = (j : Int) + 1) := object_bd r x
  have HPB : Hid ((h.perhaps y).2.reason = 0 → 0 ≤ (h.perhaps y).1 ∧ (h.perhaps y).1 ≤ (h.l.length : Int)) := perhaps_bd r y
  have HN : Hid (¬ S w.heap.size) := fun hs => by have := r.lt _ hs; omega
  go_enter Tryz.func141, Tryz.ntmps141
  go_wp2_with fail
  refine (object_any (r1 _) x hx).mono ?_
  rintro e w1 ⟨rfl, hb⟩
  have hr1 := (r1 (.cells #[.int .i64 0, .int .i64 0] 161)).below hb (Nat.le_refl _)
  clear r1
  have hz : w.heap.size < w1.heap.size := by have := hb.size; simp at this; omega
  have cz0 : w1.cell? ⟨w.heap.size, 0, none⟩ = some (.int .i64 0) := by rw [hb.cell (by simp)]; simp
  have cz1 : w1.cell? ⟨w.heap.size, 1, none⟩ = some (.int .i64 0) := by rw [hb.cell (by simp)]; simp
  have fz : ∀ i, w1.frozen? ⟨w.heap.size, i, none⟩ = false := fun i => by rw [hb.frozen (by simp)]; simp
  have HBl : Hid (Below w.heap.size w w1) := (Below.alloc0 _ _).trans (hb.mono (by simp))
  clear hb
  have HR := hide hr1
  clear hr1
  generalize h.object x = p at *
  obtain ⟨n, yy⟩ := p
  obtain ⟨yr, yh⟩ := yy
  simp only [whyV]
  by_cases hy0 : yr = 0
  · obtain ⟨j, hj, e⟩ := HB.out hy0
    simp only at e
    subst e
    subst hy0
    go_wp2_with fail
    refine (perhaps_any (HR.out.alloc _) y hy).mono ?_
    rintro e w2 ⟨rfl, hb⟩
    have hr2 := (HR.out.alloc (.cells #[.int .i64 0, .int .i64 yh] 161)).below hb (Nat.le_refl _)
    have hz2 : w1.heap.size < w2.heap.size := by have := hb.size; simp at this; omega
    have hz3 : w.heap.size < w2.heap.size := by omega
    have dz0 : w2.cell? ⟨w.heap.size, 0, none⟩ = some (.int .i64 0) := by rw [hb.cell (by simp; omega)]; rw [World.cell?_alloc_lt _ _ _ hz]; exact cz0
    have dz1 : w2.cell? ⟨w.heap.size, 1, none⟩ = some (.int .i64 0) := by rw [hb.cell (by simp; omega)]; rw [World.cell?_alloc_lt _ _ _ hz]; exact cz1
    have gz : ∀ i, w2.frozen? ⟨w.heap.size, i, none⟩ = false := fun i => by rw [hb.frozen (by simp; omega)]; rw [World.frozen?_alloc_past _ _ _ hz]; exact fz i
    have ez0 : w2.cell? ⟨w1.heap.size, 0, none⟩ = some (.int .i64 0) := by rw [hb.cell (by simp)]; simp
    have ez1 : w2.cell? ⟨w1.heap.size, 1, none⟩ = some (.int .i64 yh) := by rw [hb.cell (by simp)]; simp
    have iz : ∀ i, w2.frozen? ⟨w1.heap.size, i, none⟩ = false := fun i => by rw [hb.frozen (by simp)]; simp
    have hne : w1.heap.size ≠ w.heap.size := by omega
    have HN1 : Hid (¬ S w1.heap.size) := fun hs => by have := HR.out.lt _ hs; omega
    have HB2 : Hid (Below w.heap.size w w2) := ((HBl.out.trans ((Below.alloc0 w1 _).mono (by omega))).trans (hb.mono (by simp; omega)))
    have HR2 := hide hr2
    clear hb cz0 cz1 fz hr2
    generalize h.perhaps y = p at *
    obtain ⟨m, yy⟩ := p
    obtain ⟨zr, zh⟩ := yy
    simp only [whyV]
    by_cases hz0 : zr = 0
    · subst hz0
      obtain ⟨m0, m1⟩ := HPB.out (by simp)
      have HF1 := hide (fun u1 u2 => field_any ((HR2.out.other (p := ⟨w1.heap.size, 0, none⟩) HN1.out u1).other (p := ⟨w1.heap.size, 1, none⟩) HN1.out u2) j hj i 2)
      go_wp2_with fail
      refine (HF1.out _ _).mono ?_
      rintro e w' ⟨rfl, rfl⟩
      clear HF1
      cases hf : h.hasField ((j : Int) + 1) i 2
      · have HE := hide (HG3.out (by simp) (by simp) hf)
        go_wp2_with fail
        refine bodyPost_ret (v := .agg #[.int .i64 6, .int .i64 0]) (by simp [results, Tryz.results141, go_sem, dz0, dz1]) rfl ⟨by rw [HE.out]; rfl, by rw [HE.out]; (repeat (first | exact HR2.out | refine Rep.alloc ?_ _ | refine Rep.other ?_ HN.out _ | refine Rep.other ?_ HN1.out _ | refine Rep.drew ?_)), ?_⟩
        repeat (first | exact Kept.of_below HB2.out | refine Kept.drew ?_ | refine Kept.setCell ?_ (Or.inr (by simp; try omega)) _ | refine Kept.alloc ?_ _)
      · have he := HG4.out (by simp) (by simp) hf
        have hf' := hf
        unfold H.hasField at hf'
        rw [ob_succ] at hf'
        simp only [decide_eq_true_eq] at hf'
        obtain ⟨i0, i1, i2⟩ := hf'
        obtain ⟨q, rfl⟩ := Int.eq_ofNat_of_zero_le i0
        rw [Int.toNat_natCast] at i2
        rw [show ((j : Int) + 1 - 1).toNat = j from by omega, Int.toNat_natCast] at he
        have HE := hide he
        clear he
        obtain ⟨c5, cp, ho⟩ := HR2.out.objJ j hj
        have hl := ho.len
        have heq := ho.eq
        obtain ⟨vv, cv, p, c, rfl, hp, hc⟩ := ho.vals
        obtain ⟨rfl, sb⟩ := hp (by omega)
        have slt := HR2.out.lt _ sb
        have cc : w2.cell? ⟨Y.vb j, q, none⟩ = some (.int .i64 ((h.l.getD j Tm.ob0).vals.getD q 0)) := hc q (by omega)
        have fv : w2.frozen? ⟨Y.vb j, q, none⟩ = false := HR2.out.soft _ _ sb
        have hm := r.many
        have bj : (j : Int) < (h.l.length : Int) := by omega
        have b1 : (q : Int) < ((h.l.getD j Tm.ob0).vals.length : Int) := by omega
        have b2 : ((h.l.getD j Tm.ob0).vals.length : Int) ≤ 32 := by omega
        have HSV := hide (fun u1 u2 => ((HR2.out.other (p := ⟨w1.heap.size, 0, none⟩) HN1.out u1).other (p := ⟨w1.heap.size, 1, none⟩) HN1.out u2).setVal j q m hj (by omega) (fun e => ⟨m0, m1⟩))
        have ne1 : ¬ Y.vb j = w.heap.size := fun e => HN.out (e ▸ sb)
        have ne2 : ¬ Y.vb j = w1.heap.size := fun e => HN1.out (e ▸ sb)
        have ne3 : ¬ w1.heap.size = Y.vb j := fun e => ne2 e.symm
        have ne4 : ¬ w1.heap.size = Y.ob j := fun e => HN1.out (by rw [e]; exact ho.s)
        have ne5 : ¬ w1.heap.size = Y.bL := fun e => HN1.out (by rw [e]; exact (HR2.out.listAt (by have := HR2.out.cap; omega)).2.1)
        have ne6 : ¬ w1.heap.size = a := fun e => HN1.out (by rw [e]; exact HR2.out.tabs.sa)
        have ne7 : ¬ w.heap.size = Y.vb j := fun e => ne1 e.symm
        clear hc heq ho hl i1 i0 hp i2
        generalize (h.l.getD j Tm.ob0).vals = vs at *
        go_wp2_with fail
        refine bodyPost_ret (v := .agg #[.int .i64 0, .int .i64 0]) (by simp [results, Tryz.results141, go_sem, dz0, dz1]) rfl ⟨by rw [HE.out]; rfl, by rw [HE.out]; (repeat (first | exact HSV.out _ _ | refine Rep.alloc ?_ _ | refine Rep.other ?_ HN.out _ | refine Rep.drew ?_)), ?_⟩
        repeat (first | exact Kept.of_below HB2.out | refine Kept.drew ?_ | refine Kept.setCell ?_ (Or.inl sb) _ | refine Kept.setCell ?_ (Or.inr (by simp; try omega)) _ | refine Kept.alloc ?_ _)
    · have hz' : (zr != 0) = true := by simpa using hz0
      have HE := hide (HG2.out (by simp) hz0)
      go_wp2_with fail
      refine bodyPost_ret (v := .agg #[.int .i64 zr, .int .i64 zh]) (by simp [results, Tryz.results141, go_sem, dz0, dz1]) rfl ⟨by rw [HE.out]; rfl, by rw [HE.out]; (repeat (first | exact HR2.out | refine Rep.alloc ?_ _ | refine Rep.other ?_ HN.out _ | refine Rep.other ?_ HN1.out _ | refine Rep.drew ?_)), ?_⟩
      repeat (first | exact Kept.of_below HB2.out | refine Kept.drew ?_ | refine Kept.setCell ?_ (Or.inr (by simp; try omega)) _ | refine Kept.alloc ?_ _)
  · have hy' : (yr != 0) = true := by simpa using hy0
    have HE := hide (HG1.out hy0)
    go_wp2_with fail
    refine bodyPost_ret (v := .agg #[.int .i64 yr, .int .i64 yh]) (by simp [results, Tryz.results141, go_sem, hz, cz0, cz1]) rfl ⟨by rw [HE.out]; rfl, by rw [HE.out]; (repeat (first | exact HR.out | refine Rep.alloc ?_ _ | refine Rep.other ?_ HN.out _ | refine Rep.drew ?_)), ?_⟩
    repeat (first | exact Kept.of_below HBl.out | refine Kept.drew ?_ | refine Kept.setCell ?_ (Or.inr (by simp; try omega)) _ | refine Kept.alloc ?_ _)
end Go.Proofs.YtcnmfljpmpgnjaaGreatDoor

namespace Go.Proofs.YtcnmfljpmpgnjaaGreatDoor
open Go.RowKit
open Tm (H Ob Sl Why)

theorem Rep.setPins {S : Nat → Prop} {tag : Nat → Nat × Nat} {w : World} {a : Nat} {Y : Lay} {h : H} (r : Rep S tag w a Y h) (j : Nat) (v : Int) (hj : j < h.l.length) (v0 : 0 ≤ v ∧ v ≤ 3) :
    Rep S tag (w.setCell ⟨Y.ob j, 2, none⟩ (.int .i64 v)) a Y (h.setPins j v) := by
  have oj := r.obj j hj
  have tv := oj.t
  have hne : ∀ b, tag b ≠ (3, j) → (w.setCell ⟨Y.ob j, 2, none⟩ (.int .i64 v)).heap[b]? = w.heap[b]? := fun b hb =>
    Below.heap_setCell _ _ _ _ (fun e => hb (by rw [show b = Y.ob j from e]; exact tv))
  have na := hne a (by rw [r.tagA]; simp)
  have hl : (h.setPins j v).l.length = h.l.length := by simp [H.setPins]
  obtain ⟨cp, cc, c1, c2⟩ := r.classes
  have hg : ∀ i, (h.setPins j v).l.getD i Tm.ob0 = if i = j then { h.l.getD j Tm.ob0 with pins := v } else h.l.getD i Tm.ob0 := fun i => Tm.getD_set _ _ _ _ _ hj
  have hk : ∀ i, ((h.setPins j v).l.getD i Tm.ob0).kinds = (h.l.getD i Tm.ob0).kinds := fun i => by rw [hg]; split; subst_vars; rfl; rfl
  have hvv : ∀ i, ((h.setPins j v).l.getD i Tm.ob0).vals = (h.l.getD i Tm.ob0).vals := fun i => by rw [hg]; split; subst_vars; rfl; rfl
  refine ⟨fun b hb => by rw [World.size_setCell]; exact r.lt b hb, fun b i hb => by rw [World.frozen?_setCell]; exact r.soft b i hb, ⟨r.tabs.sa, r.tabs.t0, by rw [cell_of na]; exact r.tabs.zero, fun k k0 k4 => (r.tabs.tab k k0 k4).at na (hne _ (by rw [r.tagT k k0 k4]; simp))⟩, r.tagA, r.tagT,
    by rw [cell_of na]; exact r.room, r.small, by rw [cell_of na]; exact r.frames, r.fr, by rw [cell_of na, hl]; exact r.list, by rw [hl]; exact r.many, by rw [hl]; exact r.cap, r.listAt, fun h0 => by rw [hne _ (by rw [(r.listAt h0).2.2]; simp)]; exact r.block h0, r.capm, r.empty, fun i hi => ?_, fun i hi => ?_, r.ended.at (cell_of na) (fun h0 => hne _ (by rw [(r.ended.one h0).2.2.1]; simp)), ⟨cp, cc, by rw [cell_of na]; exact c1, c2⟩, r.few, fun i q hi hq hkk => ?_, fun i hi => ?_, fun k i hi => by rw [hl]; exact r.wf k i hi⟩
  · have := r.cap
    rw [hl] at hi
    rw [cell_of (hne _ (by rw [(r.listAt (by omega)).2.2]; simp))]; exact r.ptr i hi
  · rw [hl] at hi
    rw [hg]
    by_cases e : i = j
    · subst e
      rw [if_pos rfl]
      obtain ⟨kv, k1, k2⟩ := oj.kinds
      obtain ⟨vv, v1, v2⟩ := oj.vals
      have off : ∀ {x : Nat}, 2 ≠ x → (⟨Y.ob i, 2, none⟩ : Addr) ≠ ⟨Y.ob i, x, none⟩ := fun h e => h (congrArg Addr.off e)
      refine ⟨oj.s, oj.t, ⟨kv, by rw [World.cell?_setCell_other _ _ _ _ (off (by omega))]; exact k1, k2.at fun h0 => hne _ (fun e => by have := oj.kt h0; rw [e] at this; simp at this)⟩, oj.kt, ⟨vv, by rw [World.cell?_setCell_other _ _ _ _ (off (by omega))]; exact v1, v2.at fun h0 => hne _ (by rw [oj.vt h0]; simp)⟩, oj.vt, oj.eq, oj.len, World.cell?_setCell_same _ _ _ oj.pins, v0, by rw [World.cell?_setCell_other _ _ _ _ (off (by omega))]; exact oj.name, by rw [World.cell?_setCell_other _ _ _ _ (off (by omega))]; exact oj.gone⟩
    · rw [if_neg e]
      have oi := r.obj i hi
      exact oi.at (hne _ (by rw [oi.t]; simp; exact e)) (fun h0 => hne _ (fun e => by have := oi.kt h0; rw [e] at this; simp at this)) (fun h0 => hne _ (by rw [oi.vt h0]; simp))
  · rw [hl] at hi ⊢
    rw [hk] at hq hkk
    rw [hvv]
    exact r.refs i q hi hq hkk
  · obtain ⟨h1, h2, v, h3, h4⟩ := r.clas i hi
    exact ⟨h1, h2, v, by rw [cell_of (hne _ (by rw [(c2 (by have : i < h.classes.length := hi; omega)).2.2]; simp))]; exact h3, h4.at fun h0 => hne _ (fun e => by
      rcases h2 with h2 | h2
      · rw [e] at h2; simp at h2
      · have h0' : 0 < (h.classes.getD i []).length := h0
        rw [h2] at h0'; simp at h0')⟩

theorem Rep.setFrames {S : Nat → Prop} {tag : Nat → Nat × Nat} {w : World} {a : Nat} {Y : Lay} {h : H} (r : Rep S tag w a Y h) (v : Int) (v0 : 1 ≤ v ∧ v ≤ 6) :
    Rep S tag (w.setCell ⟨a, 10, none⟩ (.int .i64 v)) a Y { h with frames := v } := by
  have hne : ∀ b, tag b ≠ (0, 0) → (w.setCell ⟨a, 10, none⟩ (.int .i64 v)).heap[b]? = w.heap[b]? := fun b hb =>
    Below.heap_setCell _ _ _ _ (fun e => hb (by rw [show b = a from e]; exact r.tagA))
  have na : ∀ {i : Nat}, i ≠ 10 → (w.setCell ⟨a, 10, none⟩ (.int .i64 v)).cell? ⟨a, i, none⟩ = w.cell? ⟨a, i, none⟩ := fun h => World.cell?_setCell_other _ _ _ _ (fun e => h (congrArg Addr.off e).symm)
  obtain ⟨cp, cc, c1, c2⟩ := r.classes
  refine ⟨fun b hb => by rw [World.size_setCell]; exact r.lt b hb, fun b i hb => by rw [World.frozen?_setCell]; exact r.soft b i hb, ⟨r.tabs.sa, r.tabs.t0, by rw [na (by omega)]; exact r.tabs.zero, fun k k0 k4 => ?_⟩, r.tagA, r.tagT,
    by rw [na (by omega)]; exact r.room, r.small, World.cell?_setCell_same _ _ _ r.frames, v0, by rw [na (by omega)]; exact r.list, r.many, r.cap, r.listAt, fun h0 => by rw [hne _ (by rw [(r.listAt h0).2.2]; simp)]; exact r.block h0, r.capm, r.empty, fun i hi => ?_, fun i hi => ?_, r.ended.at (na (by omega)) (fun h0 => hne _ (by rw [(r.ended.one h0).2.2.1]; simp)), ⟨cp, cc, by rw [na (by omega)]; exact c1, c2⟩, r.few, r.refs, fun i hi => ?_, r.wf⟩
  · have h1 := r.tabs.tab k k0 k4
    have hb := hne (Y.bt k) (by rw [r.tagT k k0 k4]; simp)
    exact ⟨h1.sa, h1.sb, h1.len, by rw [na (by omega)]; exact h1.head, fun i hi => by rw [cell_of hb]; exact h1.gen i hi, fun i hi => by rw [cell_of hb]; exact h1.ob i hi, fun i hi => by rw [cell_of hb]; exact h1.frame i hi, fun i => by rw [frozen_of hb]; exact h1.soft i⟩
  · have := r.cap
    have hi' : i < h.l.length := hi
    rw [cell_of (hne _ (by rw [(r.listAt (by omega)).2.2]; simp))]; exact r.ptr i hi
  · have oi := r.obj i hi
    exact oi.at (hne _ (by rw [oi.t]; simp)) (fun h0 => hne _ (fun e => by have := oi.kt h0; rw [e] at this; simp at this)) (fun h0 => hne _ (by rw [oi.vt h0]; simp))
  · obtain ⟨h1, h2, v, h3, h4⟩ := r.clas i hi
    exact ⟨h1, h2, v, by rw [cell_of (hne _ (by rw [(c2 (by have : i < h.classes.length := hi; omega)).2.2]; simp))]; exact h3, h4.at fun h0 => hne _ (fun e => by
      rcases h2 with h2 | h2
      · rw [e] at h2; simp at h2
      · have h0' : 0 < (h.classes.getD i []).length := h0
        rw [h2] at h0'; simp at h0')⟩

set_option maxHeartbeats 1000000 in
theorem push_any {S : Nat → Prop} {tag : Nat → Nat × Nat} {w : World} {a : Nat} {Y : Lay} {h : H} (r : Rep S tag w a Y h) :
    Calls Tryz.prog 143 #[.pointer (some ⟨a, 0, none⟩)] w fun e w' => e = .returned (whyV h.push.1) ∧ Rep S tag w' a Y h.push.2 ∧ Kept S w w' := by
  have HG1 : Hid (6 ≤ h.frames → h.push = (⟨9, 0⟩, h)) := fun h1 => by unfold H.push; rw [if_pos h1]
  have HG2 : Hid (¬ 6 ≤ h.frames → h.push = (Tm.fine, { h with frames := h.frames + 1 })) := fun h1 => by unfold H.push; rw [if_neg h1]
  have HN : Hid (¬ S w.heap.size) := fun hs => by have := r.lt _ hs; omega
  have sa := r.tabs.sa
  have alt := r.lt _ sa
  have cf := r.frames
  have ff := r.soft a 10 sa
  have fr := r.fr
  have ne : ¬ a = w.heap.size := by omega
  have HR := hide r
  by_cases h6 : 6 ≤ h.frames
  · have HE := hide (HG1.out h6)
    have h6' : decide (h.frames ≥ 6) = true := by simpa using h6
    go_enter Tryz.func143, Tryz.ntmps143
    go_wp2_with fail
    refine bodyPost_ret (v := .agg #[.int .i64 9, .int .i64 0]) (by simp [results, Tryz.results143, go_sem]) rfl ⟨by rw [HE.out]; rfl, by rw [HE.out]; (repeat (first | exact HR.out | refine Rep.alloc ?_ _ | refine Rep.other ?_ HN.out _ | refine Rep.drew ?_)), ?_⟩
    repeat (first | exact Kept.refl _ _ | refine Kept.drew ?_ | refine Kept.setCell ?_ (Or.inr (by simp)) _ | refine Kept.alloc ?_ _)
  · have HE := hide (HG2.out h6)
    have h6' : decide (h.frames ≥ 6) = false := by simpa using h6
    have HSF := hide (r.setFrames (h.frames + 1) (by omega))
    go_enter Tryz.func143, Tryz.ntmps143
    go_wp2_with fail
    refine bodyPost_ret (v := .agg #[.int .i64 0, .int .i64 0]) (by simp [results, Tryz.results143, go_sem]) rfl ⟨by rw [HE.out]; rfl, by rw [HE.out]; (repeat (first | exact HSF.out | refine Rep.alloc ?_ _ | refine Rep.other ?_ HN.out _ | refine Rep.drew ?_)), ?_⟩
    repeat (first | exact Kept.refl _ _ | refine Kept.drew ?_ | refine Kept.setCell ?_ (Or.inl sa) _ | refine Kept.setCell ?_ (Or.inr (by simp)) _ | refine Kept.alloc ?_ _)

set_option maxHeartbeats 2000000 in
theorem pin_any {S : Nat → Prop} {tag : Nat → Nat × Nat} {w : World} {a : Nat} {Y : Lay} {h : H} (r : Rep S tag w a Y h) (x : Int) (hx : x < 9223372036854775808) :
    Calls Tryz.prog 144 #[.pointer (some ⟨a, 0, none⟩), .int .i64 x] w fun e w' => e = .returned (whyV (h.pin x).1) ∧ Rep S tag w' a Y (h.pin x).2 ∧ Kept S w w' := by
  have r1 := fun o => r.alloc o
  have HG1 : Hid ((h.object x).2.reason ≠ 0 → h.pin x = ((h.object x).2, h)) := fun h1 => by unfold H.pin; rw [if_pos h1]
  have HG2 : Hid ((h.object x).2.reason = 0 → 3 ≤ (h.ob (h.object x).1).pins → h.pin x = (⟨10, 0⟩, h)) := fun h1 h2 => by unfold H.pin; rw [if_neg (by omega), if_pos h2]
  have HG3 : Hid ((h.object x).2.reason = 0 → ¬ 3 ≤ (h.ob (h.object x).1).pins → h.pin x = (Tm.fine, h.setPins ((h.object x).1 - 1).toNat ((h.ob (h.object x).1).pins + 1))) := fun h1 h2 => by unfold H.pin; rw [if_neg (by omega), if_neg h2]
  have HB : Hid ((h.object x).2.reason = 0 → ∃ j : Nat, j < h.l.length ∧ (h.object x).1 = (j : Int) + 1) := object_bd r x
  have HN : Hid (¬ S w.heap.size) := fun hs => by have := r.lt _ hs; omega
  go_enter Tryz.func144, Tryz.ntmps144
  go_wp2_with fail
  refine (object_any (r1 _) x hx).mono ?_
  rintro e w1 ⟨rfl, hb⟩
  have hr1 := (r1 (.cells #[.int .i64 0, .int .i64 0] 161)).below hb (Nat.le_refl _)
  clear r1
  have hz : w.heap.size < w1.heap.size := by have := hb.size; simp at this; omega
  have cz0 : w1.cell? ⟨w.heap.size, 0, none⟩ = some (.int .i64 0) := by rw [hb.cell (by simp)]; simp
  have cz1 : w1.cell? ⟨w.heap.size, 1, none⟩ = some (.int .i64 0) := by rw [hb.cell (by simp)]; simp
  have fz : ∀ i, w1.frozen? ⟨w.heap.size, i, none⟩ = false := fun i => by rw [hb.frozen (by simp)]; simp
  have HBl : Hid (Below w.heap.size w w1) := (Below.alloc0 _ _).trans (hb.mono (by simp))
  clear hb
  have HR := hide hr1
  clear hr1
  generalize h.object x = p at *
  obtain ⟨n, y⟩ := p
  obtain ⟨yr, yh⟩ := y
  simp only [whyV]
  by_cases hy : yr = 0
  · obtain ⟨j, hj, e⟩ := HB.out hy
    simp only at e
    subst e
    subst hy
    have q := fun o => (HR.out.alloc o).objJ j hj
    have c5 := fun o => (q o).1
    have cp := fun o => (q o).2.1
    have cn := fun o => (q o).2.2.pins
    have ho := (HR.out.objJ j hj).2.2
    have so := ho.s
    have slt := HR.out.lt _ so
    have c2 := ho.pins
    have pb := ho.pin
    have fo : w1.frozen? ⟨Y.ob j, 2, none⟩ = false := HR.out.soft _ _ so
    have hm := r.many
    have bj : (j : Int) < (h.l.length : Int) := by omega
    have G2 := HG2.out (by simp)
    have G3 := HG3.out (by simp)
    rw [ob_succ] at G2 G3
    rw [show ((j : Int) + 1 - 1).toNat = j from by omega] at G3
    have HG2' := hide G2
    have HG3' := hide G3
    have HSV := hide (fun v v0 => HR.out.setPins j v hj v0)
    have ne1 : ¬ Y.ob j = w.heap.size := fun e => HN.out (e ▸ so)
    have ne2 : ¬ w.heap.size = Y.ob j := fun e => ne1 e.symm
    clear G2 G3 HG1 HG2 HG3 HB q ho
    generalize (h.l.getD j Tm.ob0).pins = d at *
    by_cases hd : 3 ≤ d
    · have HE := hide (HG2'.out hd)
      have hd' : decide (d ≥ 3) = true := by simpa using hd
      go_wp2_with fail
      refine bodyPost_ret (v := .agg #[.int .i64 10, .int .i64 0]) (by simp [results, Tryz.results144, go_sem, hz, cz0, cz1]) rfl ⟨by rw [HE.out]; rfl, by rw [HE.out]; (repeat (first | exact HR.out | refine Rep.alloc ?_ _ | refine Rep.other ?_ HN.out _ | refine Rep.drew ?_)), ?_⟩
      repeat (first | exact Kept.of_below HBl.out | refine Kept.drew ?_ | refine Kept.setCell ?_ (Or.inr (by simp)) _ | refine Kept.alloc ?_ _)
    · have HE := hide (HG3'.out (by omega))
      have HS2 := hide (HSV.out (d + 1) (by omega))
      have hd' : decide (d ≥ 3) = false := by simpa using hd
      go_wp2_with fail
      refine bodyPost_ret (v := .agg #[.int .i64 0, .int .i64 0]) (by simp [results, Tryz.results144, go_sem, hz, cz0, cz1]) rfl ⟨by rw [HE.out]; rfl, by rw [HE.out]; (repeat (first | exact HS2.out | refine Rep.alloc ?_ _ | refine Rep.other ?_ HN.out _ | refine Rep.drew ?_)), ?_⟩
      repeat (first | exact Kept.of_below HBl.out | refine Kept.drew ?_ | refine Kept.setCell ?_ (Or.inl so) _ | refine Kept.setCell ?_ (Or.inr (by simp)) _ | refine Kept.alloc ?_ _)
  · have hy' : (yr != 0) = true := by simpa using hy
    have HE := hide (HG1.out hy)
    go_wp2_with fail
    refine bodyPost_ret (v := .agg #[.int .i64 yr, .int .i64 yh]) (by simp [results, Tryz.results144, go_sem, hz, cz0, cz1]) rfl ⟨by rw [HE.out]; rfl, by rw [HE.out]; (repeat (first | exact HR.out | refine Rep.alloc ?_ _ | refine Rep.other ?_ HN.out _ | refine Rep.drew ?_)), ?_⟩
    repeat (first | exact Kept.of_below HBl.out | refine Kept.drew ?_ | refine Kept.setCell ?_ (Or.inr (by simp)) _ | refine Kept.alloc ?_ _)

set_option maxHeartbeats 2000000 in
theorem unpin_any {S : Nat → Prop} {tag : Nat → Nat × Nat} {w : World} {a : Nat} {Y : Lay} {h : H} (r : Rep S tag w a Y h) (x : Int) (hx : x < 9223372036854775808) :
    Calls Tryz.prog 145 #[.pointer (some ⟨a, 0, none⟩), .int .i64 x] w fun e w' => e = .returned (whyV (h.unpin x).1) ∧ Rep S tag w' a Y (h.unpin x).2 ∧ Kept S w w' := by
  have r1 := fun o => r.alloc o
  have HG1 : Hid ((h.object x).2.reason ≠ 0 → h.unpin x = ((h.object x).2, h)) := fun h1 => by unfold H.unpin; rw [if_pos h1]
  have HG2 : Hid ((h.object x).2.reason = 0 → (h.ob (h.object x).1).pins = 0 → h.unpin x = (⟨10, 0⟩, h)) := fun h1 h2 => by unfold H.unpin; rw [if_neg (by omega), if_pos h2]
  have HG3 : Hid ((h.object x).2.reason = 0 → ¬ (h.ob (h.object x).1).pins = 0 → h.unpin x = (Tm.fine, h.setPins ((h.object x).1 - 1).toNat ((h.ob (h.object x).1).pins - 1))) := fun h1 h2 => by unfold H.unpin; rw [if_neg (by omega), if_neg h2]
  have HB : Hid ((h.object x).2.reason = 0 → ∃ j : Nat, j < h.l.length ∧ (h.object x).1 = (j : Int) + 1) := object_bd r x
  have HN : Hid (¬ S w.heap.size) := fun hs => by have := r.lt _ hs; omega
  go_enter Tryz.func145, Tryz.ntmps145
  go_wp2_with fail
  refine (object_any (r1 _) x hx).mono ?_
  rintro e w1 ⟨rfl, hb⟩
  have hr1 := (r1 (.cells #[.int .i64 0, .int .i64 0] 161)).below hb (Nat.le_refl _)
  clear r1
  have hz : w.heap.size < w1.heap.size := by have := hb.size; simp at this; omega
  have cz0 : w1.cell? ⟨w.heap.size, 0, none⟩ = some (.int .i64 0) := by rw [hb.cell (by simp)]; simp
  have cz1 : w1.cell? ⟨w.heap.size, 1, none⟩ = some (.int .i64 0) := by rw [hb.cell (by simp)]; simp
  have fz : ∀ i, w1.frozen? ⟨w.heap.size, i, none⟩ = false := fun i => by rw [hb.frozen (by simp)]; simp
  have HBl : Hid (Below w.heap.size w w1) := (Below.alloc0 _ _).trans (hb.mono (by simp))
  clear hb
  have HR := hide hr1
  clear hr1
  generalize h.object x = p at *
  obtain ⟨n, y⟩ := p
  obtain ⟨yr, yh⟩ := y
  simp only [whyV]
  by_cases hy : yr = 0
  · obtain ⟨j, hj, e⟩ := HB.out hy
    simp only at e
    subst e
    subst hy
    have q := fun o => (HR.out.alloc o).objJ j hj
    have c5 := fun o => (q o).1
    have cp := fun o => (q o).2.1
    have cn := fun o => (q o).2.2.pins
    have ho := (HR.out.objJ j hj).2.2
    have so := ho.s
    have slt := HR.out.lt _ so
    have c2 := ho.pins
    have pb := ho.pin
    have fo : w1.frozen? ⟨Y.ob j, 2, none⟩ = false := HR.out.soft _ _ so
    have hm := r.many
    have bj : (j : Int) < (h.l.length : Int) := by omega
    have G2 := HG2.out (by simp)
    have G3 := HG3.out (by simp)
    rw [ob_succ] at G2 G3
    rw [show ((j : Int) + 1 - 1).toNat = j from by omega] at G3
    have HG2' := hide G2
    have HG3' := hide G3
    have HSV := hide (fun v v0 => HR.out.setPins j v hj v0)
    have ne1 : ¬ Y.ob j = w.heap.size := fun e => HN.out (e ▸ so)
    have ne2 : ¬ w.heap.size = Y.ob j := fun e => ne1 e.symm
    clear G2 G3 HG1 HG2 HG3 HB q ho
    generalize (h.l.getD j Tm.ob0).pins = d at *
    by_cases hd : d = 0
    · have HE := hide (HG2'.out hd)
      have hd' : (d == 0) = true := by simpa using hd
      go_wp2_with fail
      refine bodyPost_ret (v := .agg #[.int .i64 10, .int .i64 0]) (by simp [results, Tryz.results145, go_sem, hz, cz0, cz1]) rfl ⟨by rw [HE.out]; rfl, by rw [HE.out]; (repeat (first | exact HR.out | refine Rep.alloc ?_ _ | refine Rep.other ?_ HN.out _ | refine Rep.drew ?_)), ?_⟩
      repeat (first | exact Kept.of_below HBl.out | refine Kept.drew ?_ | refine Kept.setCell ?_ (Or.inr (by simp)) _ | refine Kept.alloc ?_ _)
    · have HE := hide (HG3'.out (by omega))
      have HS2 := hide (HSV.out (d - 1) (by omega))
      have hd' : (d == 0) = false := by simpa using hd
      go_wp2_with fail
      refine bodyPost_ret (v := .agg #[.int .i64 0, .int .i64 0]) (by simp [results, Tryz.results145, go_sem, hz, cz0, cz1]) rfl ⟨by rw [HE.out]; rfl, by rw [HE.out]; (repeat (first | exact HS2.out | refine Rep.alloc ?_ _ | refine Rep.other ?_ HN.out _ | refine Rep.drew ?_)), ?_⟩
      repeat (first | exact Kept.of_below HBl.out | refine Kept.drew ?_ | refine Kept.setCell ?_ (Or.inl so) _ | refine Kept.setCell ?_ (Or.inr (by simp)) _ | refine Kept.alloc ?_ _)
  · have hy' : (yr != 0) = true := by simpa using hy
    have HE := hide (HG1.out hy)
    go_wp2_with fail
    refine bodyPost_ret (v := .agg #[.int .i64 yr, .int .i64 yh]) (by simp [results, Tryz.results145, go_sem, hz, cz0, cz1]) rfl ⟨by rw [HE.out]; rfl, by rw [HE.out]; (repeat (first | exact HR.out | refine Rep.alloc ?_ _ | refine Rep.other ?_ HN.out _ | refine Rep.drew ?_)), ?_⟩
    repeat (first | exact Kept.of_below HBl.out | refine Kept.drew ?_ | refine Kept.setCell ?_ (Or.inr (by simp)) _ | refine Kept.alloc ?_ _)
end Go.Proofs.YtcnmfljpmpgnjaaGreatDoor
