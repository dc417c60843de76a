import Derived.Test.YtcnmfljpmpgnjaaGreatDoorK18
import Derived.Test.YtcnmfljpmpgnjaaGreatDoorK00
import Derived.Test.YtcnmfljpmpgnjaaGreatDoorK20
namespace Go.Proofs.YtcnmfljpmpgnjaaGreatDoor
open Go.RowKit
open Tm (H Ob Sl Why)

theorem perhaps_bd {S : Nat → Prop} {tag : Nat → Nat × Nat} {w : World} {a : Nat} {Y : Lay} {h : H} (r : Rep S tag w a Y h) (x : Int) (hr : (h.perhaps x).2.reason = 0) : 0 ≤ (h.perhaps x).1 ∧ (h.perhaps x).1 ≤ (h.l.length : Int) := by
  unfold H.perhaps at *
  split at hr
  · rename_i h1; rw [if_pos h1]; simp
  · rename_i h1
    rw [if_neg h1]
    obtain ⟨j, hj, e⟩ := object_bd r x hr
    rw [e]; omega

set_option maxHeartbeats 1000000 in
theorem perhaps_any {S : Nat → Prop} {tag : Nat → Nat × Nat} {w : World} {a : Nat} {Y : Lay} {h : H} (r : Rep S tag w a Y h) (x : Int) (hx : x < 9223372036854775808) :
    Calls Tryz.prog 135 #[.pointer (some ⟨a, 0, none⟩), .int .i64 x] w fun e w' => e = .returned (.tuple #[.int .i64 (h.perhaps x).1, whyV (h.perhaps x).2]) ∧ Below w.heap.size w w' := by
  have r1 := fun o => r.alloc o
  have HG1 : Hid (x = 0 → h.perhaps x = (0, Tm.fine)) := fun h1 => by unfold H.perhaps; rw [if_pos h1]
  have HG2 : Hid (x ≠ 0 → h.perhaps x = h.object x) := fun h1 => by unfold H.perhaps; rw [if_neg h1]
  by_cases h0 : x = 0
  · have HE := hide (HG1.out h0)
    subst h0
    go_enter Tryz.func135, Tryz.ntmps135
    go_wp2_with fail
    exact bodyPost_ret (v := .tuple #[.int .i64 0, .agg #[.int .i64 0, .int .i64 0]]) (by simp [results, Tryz.results135, go_sem]) rfl ⟨by rw [HE.out]; rfl, by
      repeat (first | exact Below.refl _ _ | refine Below.drew ?_ | refine Below.setCell ?_ (by simp) _ | refine Below.alloc ?_ (by simp) _)⟩
  · have h0' : (x == 0) = false := by simpa using h0
    have HE := hide (HG2.out h0)
    go_enter Tryz.func135, Tryz.ntmps135
    go_wp2_with fail
    refine (object_any (r1 _) x hx).mono ?_
    rintro e w1 ⟨rfl, hb⟩
    clear r1
    have hz : w.heap.size < w1.heap.size := by have := hb.size; simp at this; omega
    have cz0 : w1.cell? ⟨w.heap.size, 0, none⟩ = some (.int .i64 0) := by rw [hb.cell (by simp)]; simp
    have cz1 : w1.cell? ⟨w.heap.size, 1, none⟩ = some (.int .i64 0) := by rw [hb.cell (by simp)]; simp
    have fz : ∀ i, w1.frozen? ⟨w.heap.size, i, none⟩ = false := fun i => by rw [hb.frozen (by simp)]; simp
    have HBl : Hid (Below w.heap.size w w1) := (Below.alloc0 _ _).trans (hb.mono (by simp))
    clear hb
    generalize h.object x = p at *
    obtain ⟨n, y⟩ := p
    obtain ⟨yr, yh⟩ := y
    simp only [whyV]
    go_wp2_with fail
    refine bodyPost_ret (v := .tuple #[.int .i64 n, .agg #[.int .i64 yr, .int .i64 yh]]) (by simp [results, Tryz.results135, go_sem, cz0, cz1]) rfl ⟨by rw [HE.out]; rfl, ?_⟩
    repeat (first | exact HBl.out | refine Below.drew ?_ | refine Below.setCell ?_ (by simp) _ | refine Below.alloc ?_ (by simp; omega) _)

set_option maxHeartbeats 2000000 in
theorem same_any {S : Nat → Prop} {tag : Nat → Nat × Nat} {w : World} {a : Nat} {Y : Lay} {h : H} (r : Rep S tag w a Y h) (x y : Int) (hx : x < 9223372036854775808) (hy : y < 9223372036854775808) :
    Calls Tryz.prog 107 #[.pointer (some ⟨a, 0, none⟩), .int .i64 x, .int .i64 y] w fun e w' => e = .returned (.tuple #[.bool (h.same x y).1, whyV (h.same x y).2]) ∧ Below w.heap.size w w' := by
  have r1 := fun o => r.alloc o
  have HG1 : Hid ((h.perhaps x).2.reason ≠ 0 → h.same x y = (false, (h.perhaps x).2)) := fun h1 => by unfold H.same; rw [if_pos h1]
  have HG2 : Hid ((h.perhaps x).2.reason = 0 → (h.perhaps y).2.reason ≠ 0 → h.same x y = (false, (h.perhaps y).2)) := fun h1 h2 => by unfold H.same; rw [if_neg (by omega), if_pos h2]
  have HG3 : Hid ((h.perhaps x).2.reason = 0 → (h.perhaps y).2.reason = 0 → h.same x y = ((h.perhaps x).1 == (h.perhaps y).1, Tm.fine)) := fun h1 h2 => by unfold H.same; rw [if_neg (by omega), if_neg (by omega)]
  go_enter Tryz.func107, Tryz.ntmps107
  go_wp2_with fail
  refine (perhaps_any (r1 _) x hx).mono ?_
  rintro e w1 ⟨rfl, hb⟩
  have hr1 := (r1 (.cells #[.int .i64 0, .int .i64 0] 161)).below hb (Nat.le_refl _)
  clear r1
  have hz : w.heap.size < w1.heap.size := by have := hb.size; simp at this; omega
  have cz0 : w1.cell? ⟨w.heap.size, 0, none⟩ = some (.int .i64 0) := by rw [hb.cell (by simp)]; simp
  have cz1 : w1.cell? ⟨w.heap.size, 1, none⟩ = some (.int .i64 0) := by rw [hb.cell (by simp)]; simp
  have fz : ∀ i, w1.frozen? ⟨w.heap.size, i, none⟩ = false := fun i => by rw [hb.frozen (by simp)]; simp
  have HBl : Hid (Below w.heap.size w w1) := (Below.alloc0 _ _).trans (hb.mono (by simp))
  clear hb
  have HR := hide hr1
  clear hr1
  generalize h.perhaps x = p at *
  obtain ⟨n, yy⟩ := p
  obtain ⟨yr, yh⟩ := yy
  simp only [whyV]
  by_cases hy0 : yr = 0
  · subst hy0
    go_wp2_with fail
    refine (perhaps_any (HR.out.alloc _) y hy).mono ?_
    rintro e w2 ⟨rfl, hb⟩
    have hz2 : w1.heap.size < w2.heap.size := by have := hb.size; simp at this; omega
    have hz3 : w.heap.size < w2.heap.size := by omega
    have dz0 : w2.cell? ⟨w.heap.size, 0, none⟩ = some (.int .i64 0) := by rw [hb.cell (by simp; omega)]; rw [World.cell?_alloc_lt _ _ _ hz]; exact cz0
    have dz1 : w2.cell? ⟨w.heap.size, 1, none⟩ = some (.int .i64 0) := by rw [hb.cell (by simp; omega)]; rw [World.cell?_alloc_lt _ _ _ hz]; exact cz1
    have gz : ∀ i, w2.frozen? ⟨w.heap.size, i, none⟩ = false := fun i => by rw [hb.frozen (by simp; omega)]; rw [World.frozen?_alloc_past _ _ _ hz]; exact fz i
    have ez0 : w2.cell? ⟨w1.heap.size, 0, none⟩ = some (.int .i64 0) := by rw [hb.cell (by simp)]; simp
    have ez1 : w2.cell? ⟨w1.heap.size, 1, none⟩ = some (.int .i64 yh) := by rw [hb.cell (by simp)]; simp
    have iz : ∀ i, w2.frozen? ⟨w1.heap.size, i, none⟩ = false := fun i => by rw [hb.frozen (by simp)]; simp
    have hne : w1.heap.size ≠ w.heap.size := by omega
    have HB2 : Hid (Below w.heap.size w w2) := ((HBl.out.trans ((Below.alloc0 w1 _).mono (by omega))).trans (hb.mono (by simp; omega)))
    clear hb cz0 cz1 fz
    generalize h.perhaps y = p at *
    obtain ⟨m, yy⟩ := p
    obtain ⟨zr, zh⟩ := yy
    simp only [whyV]
    by_cases hz0 : zr = 0
    · subst hz0
      have HE := hide (HG3.out (by simp) (by simp))
      go_wp2_with fail
      refine bodyPost_ret (v := .tuple #[.bool (n == m), .agg #[.int .i64 0, .int .i64 0]]) (by simp [results, Tryz.results107, go_sem, dz0, dz1]) rfl ⟨by rw [HE.out]; rfl, ?_⟩
      repeat (first | exact HB2.out | refine Below.drew ?_ | refine Below.setCell ?_ (by simp; try omega) _ | refine Below.alloc ?_ (by simp; omega) _)
    · have hz' : (zr != 0) = true := by simpa using hz0
      have HE := hide (HG2.out (by simp) hz0)
      go_wp2_with fail
      go_region
      all_goals go_wp2_with fail
      all_goals
        refine bodyPost_ret (v := .tuple #[.bool false, .agg #[.int .i64 zr, .int .i64 zh]]) (by simp [results, Tryz.results107, go_sem, dz0, dz1]) rfl ⟨by rw [HE.out]; rfl, ?_⟩
        repeat (first | exact HB2.out | refine Below.drew ?_ | refine Below.setCell ?_ (by simp; try omega) _ | refine Below.alloc ?_ (by simp; omega) _)
  · have hy' : (yr != 0) = true := by simpa using hy0
    have HE := hide (HG1.out hy0)
    go_wp2_with fail
    go_region
    all_goals go_wp2_with fail
    all_goals
      refine bodyPost_ret (v := .tuple #[.bool false, .agg #[.int .i64 yr, .int .i64 yh]]) (by simp [results, Tryz.results107, go_sem, hz, cz0, cz1]) rfl ⟨by rw [HE.out]; rfl, ?_⟩
      repeat (first | exact HBl.out | refine Below.drew ?_ | refine Below.setCell ?_ (by simp) _ | refine Below.alloc ?_ (by simp; omega) _)
end Go.Proofs.YtcnmfljpmpgnjaaGreatDoor

namespace Go.Proofs.YtcnmfljpmpgnjaaGreatDoor
open Go.RowKit
open Tm (H Ob Sl Why)

theorem of_slot (h : H) (x : Int) (hr : (h.of x).2.reason = 0) : ¬ h.slot x < 0 := by
  unfold H.of at hr
  split at hr
  · simp at hr
  · split at hr
    · simp at hr
    · assumption

/-- One store into a slot: whom it refers to. -/
theorem one {w : World} {b i : Nat} {l : List Sl} (hi : i < l.length) (o : Int)
    (hg : ∀ q, q < l.length → w.cell? ⟨b, q * 3, none⟩ = some (.int .i64 (l.getD q Tm.sl0).gen)) (ho : ∀ q, q < l.length → w.cell? ⟨b, q * 3 + 1, none⟩ = some (.int .i64 (l.getD q Tm.sl0).ob)) (hf : ∀ q, q < l.length → w.cell? ⟨b, q * 3 + 2, none⟩ = some (.int .i64 (l.getD q Tm.sl0).frame))
    (q : Nat) (hq : q < l.length) :
    (w.setCell ⟨b, i * 3 + 1, none⟩ (.int .i64 o)).cell? ⟨b, q * 3, none⟩ = some (.int .i64 ((l.set i { l.getD i Tm.sl0 with ob := o }).getD q Tm.sl0).gen) ∧
    (w.setCell ⟨b, i * 3 + 1, none⟩ (.int .i64 o)).cell? ⟨b, q * 3 + 1, none⟩ = some (.int .i64 ((l.set i { l.getD i Tm.sl0 with ob := o }).getD q Tm.sl0).ob) ∧
    (w.setCell ⟨b, i * 3 + 1, none⟩ (.int .i64 o)).cell? ⟨b, q * 3 + 2, none⟩ = some (.int .i64 ((l.set i { l.getD i Tm.sl0 with ob := o }).getD q Tm.sl0).frame) := by
  rw [Tm.getD_set _ _ _ _ _ hi]
  have off : ∀ {x y : Nat}, x ≠ y → (⟨b, x, none⟩ : Addr) ≠ ⟨b, y, none⟩ := fun h e => h (congrArg Addr.off e)
  by_cases e : q = i
  · subst e
    rw [if_pos rfl]
    refine ⟨?_, ?_, ?_⟩
    · rw [World.cell?_setCell_other _ _ _ _ (off (by omega))]; exact hg q hq
    · exact World.cell?_setCell_same _ _ _ (ho q hq)
    · rw [World.cell?_setCell_other _ _ _ _ (off (by omega))]; exact hf q hq
  · rw [if_neg e]
    refine ⟨?_, ?_, ?_⟩
    · rw [World.cell?_setCell_other _ _ _ _ (off (by omega))]; exact hg q hq
    · rw [World.cell?_setCell_other _ _ _ _ (off (by omega))]; exact ho q hq
    · rw [World.cell?_setCell_other _ _ _ _ (off (by omega))]; exact hf q hq

set_option maxHeartbeats 2000000 in
theorem freed_any {S : Nat → Prop} {tag : Nat → Nat × Nat} {w : World} {a : Nat} {Y : Lay} {h : H} (r : Rep S tag w a Y h) (x : Int) (hx : x < 9223372036854775808) :
    Calls Tryz.prog 142 #[.pointer (some ⟨a, 0, none⟩), .int .i64 x] w fun e w' => e = .returned (whyV (h.freed x).1) ∧ Rep S tag w' a Y (h.freed x).2 ∧ Kept S w w' := by
  have r1 := fun o => r.alloc o
  have HG1 : Hid ((h.of x).2.reason ≠ 0 → h.freed x = ((h.of x).2, h)) := fun h1 => by unfold H.freed; rw [if_pos h1]
  have HG2 : Hid ((h.of x).2.reason = 0 → h.freed x = (Tm.fine, h.setSl (x % 4).toNat (x / 4 % 64).toNat { h.sl (x % 4).toNat (x / 4 % 64).toNat with ob := 0 })) := fun h1 => by unfold H.freed; rw [if_neg (by omega)]
  have HB : Hid ((h.of x).2.reason = 0 → ¬ h.slot x < 0) := of_slot h x
  go_enter Tryz.func142, Tryz.ntmps142
  go_wp2_with fail
  refine (of_any S _ a Y.bt h x hx (r1 _).lt (r1 _).tabs).mono ?_
  rintro e w1 ⟨rfl, hb⟩
  have hr1 := (r1 (.cells #[.int .i64 0, .int .i64 0] 161)).below hb (Nat.le_refl _)
  clear r1
  have hz : w.heap.size < w1.heap.size := by have := hb.size; simp at this; omega
  have cz0 : w1.cell? ⟨w.heap.size, 0, none⟩ = some (.int .i64 0) := by rw [hb.cell (by simp)]; simp
  have cz1 : w1.cell? ⟨w.heap.size, 1, none⟩ = some (.int .i64 0) := by rw [hb.cell (by simp)]; simp
  have fz : ∀ i, w1.frozen? ⟨w.heap.size, i, none⟩ = false := fun i => by rw [hb.frozen (by simp)]; simp
  have HBl : Hid (Below w.heap.size w w1) := (Below.alloc0 _ _).trans (hb.mono (by simp))
  clear hb
  have HR := hide hr1
  clear hr1
  generalize h.of x = p at *
  obtain ⟨n, y⟩ := p
  obtain ⟨yr, yh⟩ := y
  simp only [whyV]
  by_cases hy : yr = 0
  · subst hy
    have HE := hide (HG2.out (by simp))
    obtain ⟨hp, h4, e1, hlt, hg1, hg2⟩ := slot_bd h x (by have := HB.out (by simp); omega)
    have hs0 : ¬ h.slot x < 0 := by have := HB.out (by simp); omega
    rw [e1] at hlt hs0
    obtain ⟨k, hk⟩ : ∃ k : Nat, k = (x % 4).toNat := ⟨_, rfl⟩
    obtain ⟨i, hi⟩ : ∃ i : Nat, i = (x / 4 % 64).toNat := ⟨_, rfl⟩
    rw [← hk, ← hi] at HE
    rw [← hk] at hlt
    have ek : x % 4 = (k : Int) := by omega
    have ei : x / 4 % 64 = (i : Int) := by omega
    have k0 : 0 < k := by omega
    have k4 : k < 4 := by omega
    have b0 : (k : Int) < 4 := by omega
    have b1 : (i : Int) < ((h.t k).length : Int) := by omega
    have tb := HR.out.tabs.tab k k0 k4
    have wf := HR.out.wf k i (by omega)
    have hl := tb.len
    have sb := tb.sb
    have slt := HR.out.lt _ sb
    have sa := HR.out.tabs.sa
    obtain ⟨hcap, hh0⟩ := tb.head
    have hh : ∀ o, (w1.alloc o).cell? ⟨a, 6 + k, none⟩ = some (.slice (some ⟨Y.bt k, 0, none⟩) (h.t k).length hcap) := fun o => by rw [World.cell?_alloc_lt _ _ _ (HR.out.lt _ sa)]; exact hh0
    have c1 := tb.ob i (by omega)
    have f1 := tb.soft
    have HSV := hide (HR.out.setSl k i { h.sl k i with ob := 0 } k0 k4 (by omega) ⟨by simp, by simp, wf.2.2.1, wf.2.2.2⟩ (w' := w1.setCell ⟨Y.bt k, i * 3 + 1, none⟩ (.int .i64 0))
      (by simp) (fun b q => by simp) (fun b hb => by rw [Below.heap_setCell _ _ _ _ hb]) (fun q hq => one (by omega) _ tb.gen tb.ob tb.frame q hq))
    have hne : Y.bt k ≠ w.heap.size := fun e => by have := r.lt _ sb; omega
    have HN : Hid (¬ S w.heap.size) := fun hs => by have := r.lt _ hs; omega
    have hdk : Int.tmod x 4 = (k : Int) := by rw [Int.tmod_eq_emod_of_nonneg (by omega)]; exact ek
    clear tb wf hk hi e1 hs0 HG1 HG2 HB
    generalize (h.t k).getD i Tm.sl0 = s at *
    go_wp2_with fail
    refine bodyPost_ret (v := .agg #[.int .i64 0, .int .i64 0]) (by simp [results, Tryz.results142, go_sem, hz, cz0, cz1]) rfl ⟨by rw [HE.out]; rfl, by rw [HE.out]; (repeat (first | exact HSV.out | refine Rep.alloc ?_ _ | refine Rep.other ?_ HN.out _ | refine Rep.drew ?_)), ?_⟩
    repeat (first | exact Kept.of_below HBl.out | refine Kept.drew ?_ | refine Kept.setCell ?_ (Or.inl sb) _ | refine Kept.setCell ?_ (Or.inr (by simp)) _ | refine Kept.alloc ?_ _)
  · have hy' : (yr != 0) = true := by simpa using hy
    have HE := hide (HG1.out hy)
    go_wp2_with fail
    have HQ : Hid (Below w.heap.size w (((w1.setCell ⟨w.heap.size, 0, none⟩ (.int .i64 yr)).setCell ⟨w.heap.size, 1, none⟩ (.int .i64 yh)).alloc (.cells #[.int .i64 yr, .int .i64 yh] 161))) := by
      repeat (first | exact HBl.out | refine Below.drew ?_ | refine Below.setCell ?_ (by simp) _ | refine Below.alloc ?_ (by simp; omega) _)
    refine bodyPost_ret (v := .agg #[.int .i64 yr, .int .i64 yh]) (by simp [results, Tryz.results142, go_sem, hz, cz0, cz1]) rfl ⟨by rw [HE.out]; rfl, by rw [HE.out]; exact r.below HQ.out (Nat.le_refl _), Kept.of_below HQ.out⟩
end Go.Proofs.YtcnmfljpmpgnjaaGreatDoor

namespace Go.Proofs.YtcnmfljpmpgnjaaGreatDoor
open Go.RowKit
open Tm (H Ob Sl Why)

set_option maxHeartbeats 2000000 in
theorem ref_any {S : Nat → Prop} {tag : Nat → Nat × Nat} {w : World} {a : Nat} {Y : Lay} {h : H} (r : Rep S tag w a Y h) (k x : Int) (hx : x < 9223372036854775808) :
    Calls Tryz.prog 152 #[.pointer (some ⟨a, 0, none⟩), .int .i64 k, .int .i64 x] w fun e w' => e = .returned (.tuple #[.int .i64 (h.ref k x).1.1, whyV (h.ref k x).1.2]) ∧ Rep S tag w' a Y (h.ref k x).2 ∧ Kept S w w' := by
  have r1 := fun o => r.alloc o
  have HG0 : Hid (Tm.inR k 1 3 = false → h.ref k x = ((0, ⟨1, 0⟩), h)) := fun h1 => by unfold H.ref; rw [if_pos h1]
  have HG1 : Hid (Tm.inR k 1 3 = true → (h.object x).2.reason ≠ 0 → h.ref k x = ((0, (h.object x).2), h)) := fun h0 h1 => by unfold H.ref; rw [if_neg (by rw [h0]; simp), if_pos h1]
  have HG2 : Hid (Tm.inR k 1 3 = true → (h.object x).2.reason = 0 → h.free k.toNat < 0 → h.ref k x = ((0, ⟨7, 0⟩), h)) := fun h0 h1 h2 => by unfold H.ref; rw [if_neg (by rw [h0]; simp), if_neg (by omega), if_pos h2]
  have HG3 : Hid (Tm.inR k 1 3 = true → (h.object x).2.reason = 0 → ¬ h.free k.toNat < 0 → h.ref k x = (((h.take k.toNat (h.object x).1).1, Tm.fine), (h.take k.toNat (h.object x).1).2)) := fun h0 h1 h2 => by unfold H.ref; rw [if_neg (by rw [h0]; simp), if_neg (by omega), if_neg h2]
  have HB : Hid ((h.object x).2.reason = 0 → ∃ j : Nat, j < h.l.length ∧ (h.object x).1 = (j : Int) + 1) := object_bd r x
  have HR1 := hide r1
  clear r1
  go_enter Tryz.func152, Tryz.ntmps152
  go_wp2_with fail
  refine (in_any _ _ _ _).mono ?_
  rintro e w' ⟨rfl, rfl⟩
  cases hk : Tm.inR k 1 3
  · have HE := hide (HG0.out hk)
    go_wp2_with fail
    have HQ : Hid (Below w.heap.size w (w.alloc (.cells #[.int .i64 1, .int .i64 0] 161))) := Below.alloc0 _ _
    refine bodyPost_ret (v := .tuple #[.int .i64 0, .agg #[.int .i64 1, .int .i64 0]]) (by simp [results, Tryz.results152, go_sem]) rfl ⟨by rw [HE.out]; rfl, by rw [HE.out]; exact r.below HQ.out (Nat.le_refl _), Kept.of_below HQ.out⟩
  · have hk' := hk
    simp only [Tm.inR, decide_eq_true_eq] at hk'
    obtain ⟨q, rfl⟩ := Int.eq_ofNat_of_zero_le (show 0 ≤ k by omega)
    rw [Int.toNat_natCast] at HG2 HG3
    have k0 : 0 < q := by omega
    have k4 : q < 4 := by omega
    clear hk'
    go_wp2_with fail
    refine (object_any (HR1.out _) x hx).mono ?_
    rintro e w1 ⟨rfl, hb⟩
    have hr1 := (HR1.out (.cells #[.int .i64 0, .int .i64 0] 161)).below hb (Nat.le_refl _)
    have hz : w.heap.size < w1.heap.size := by have := hb.size; simp at this; omega
    have cz0 : w1.cell? ⟨w.heap.size, 0, none⟩ = some (.int .i64 0) := by rw [hb.cell (by simp)]; simp
    have cz1 : w1.cell? ⟨w.heap.size, 1, none⟩ = some (.int .i64 0) := by rw [hb.cell (by simp)]; simp
    have fz : ∀ i, w1.frozen? ⟨w.heap.size, i, none⟩ = false := fun i => by rw [hb.frozen (by simp)]; simp
    have HBl : Hid (Below w.heap.size w w1) := (Below.alloc0 _ _).trans (hb.mono (by simp))
    clear hb
    have HR := hide hr1
    clear hr1
    generalize h.object x = p at *
    obtain ⟨n, y⟩ := p
    obtain ⟨yr, yh⟩ := y
    simp only [whyV]
    by_cases hy : yr = 0
    · subst hy
      have tb := fun o => (HR.out.alloc o).tabs.tab q k0 k4
      have HTB := hide tb
      clear tb
      go_wp2_with fail
      refine (free_any S _ a (Y.bt q) q (h.t q) k4 (HTB.out _)).mono ?_
      rintro e w' ⟨rfl, rfl⟩
      have efr : Tm.freeFrom (h.t q) 0 = h.free q := rfl
      rw [efr]
      by_cases hf : h.free q < 0
      · have HE := hide (HG2.out hk (by simp) hf)
        go_wp2_with fail
        have HQ : Hid (Below w.heap.size w (((w1.setCell ⟨w.heap.size, 0, none⟩ (.int .i64 7)).setCell ⟨w.heap.size, 1, none⟩ (.int .i64 0)).alloc (.cells #[.int .i64 0, .int .i64 yh] 161))) := by
          repeat (first | exact HBl.out | refine Below.drew ?_ | refine Below.setCell ?_ (by simp) _ | refine Below.alloc ?_ (by simp; omega) _)
        refine bodyPost_ret (v := .tuple #[.int .i64 0, .agg #[.int .i64 7, .int .i64 0]]) (by simp [results, Tryz.results152, go_sem, hz, cz0, cz1]) rfl ⟨by rw [HE.out]; rfl, by rw [HE.out]; exact r.below HQ.out (Nat.le_refl _), Kept.of_below HQ.out⟩
      · have HE := hide (HG3.out hk (by simp) (by omega))
        obtain ⟨j, hj, e⟩ := HB.out (by simp)
        subst e
        have HTk := hide (take_any (HR.out.alloc (.cells #[.int .i64 0, .int .i64 yh] 161)) q ((j : Int) + 1) k0 k4 (by omega) (by omega) (by omega))
        have HN : Hid (¬ S w.heap.size) := fun hs => by have := r.lt _ hs; omega
        have hf' : decide (h.free q < 0) = false := by simpa using hf
        go_wp2_with fail
        refine HTk.out.mono ?_
        rintro e w2 ⟨rfl, hr2, hk2⟩
        have hz2 : w1.heap.size < w2.heap.size := by have := hk2.size; simp at this; omega
        have hz3 : w.heap.size < w2.heap.size := by omega
        have hbk := hk2.block w.heap.size (by simp; omega) (fun h => HN.out h.1)
        have dz0 : w2.cell? ⟨w.heap.size, 0, none⟩ = some (.int .i64 0) := by rw [cell_of hbk, World.cell?_alloc_lt _ _ _ hz]; exact cz0
        have dz1 : w2.cell? ⟨w.heap.size, 1, none⟩ = some (.int .i64 0) := by rw [cell_of hbk, World.cell?_alloc_lt _ _ _ hz]; exact cz1
        have gz : ∀ i, w2.frozen? ⟨w.heap.size, i, none⟩ = false := fun i => by rw [frozen_of hbk, World.frozen?_alloc_past _ _ _ hz]; exact fz i
        have HR2 := hide hr2
        have HK2 : Hid (Kept S w w2) := ((Kept.of_below HBl.out).alloc _).trans (hk2.mono fun b h => h.1)
        clear hr2 hk2 hbk HTk
        generalize h.take q ((j : Int) + 1) = t at *
        obtain ⟨t1, t2⟩ := t
        simp only
        go_wp2_with fail
        refine bodyPost_ret (v := .tuple #[.int .i64 t1, .agg #[.int .i64 0, .int .i64 0]]) (by simp [results, Tryz.results152, go_sem, dz0, dz1]) rfl ⟨by rw [HE.out]; rfl, by rw [HE.out]; (repeat (first | exact HR2.out | refine Rep.alloc ?_ _ | refine Rep.other ?_ HN.out _ | refine Rep.drew ?_)), ?_⟩
        repeat (first | exact HK2.out | refine Kept.drew ?_ | refine Kept.setCell ?_ (Or.inr (by simp)) _ | refine Kept.alloc ?_ _)
    · have hy' : (yr != 0) = true := by simpa using hy
      have HE := hide (HG1.out hk hy)
      go_wp2_with fail
      go_region
      all_goals go_wp2_with fail
      all_goals
        refine bodyPost_ret (v := .tuple #[.int .i64 0, .agg #[.int .i64 yr, .int .i64 yh]]) (by simp [results, Tryz.results152, go_sem, hz, cz0, cz1]) rfl ⟨by rw [HE.out]; rfl, by rw [HE.out]; (repeat (first | exact r.below HBl.out (Nat.le_refl _) | refine Rep.alloc ?_ _ | refine Rep.other ?_ (fun hs => by have := r.lt _ hs; simp at this) _ | refine Rep.drew ?_)), ?_⟩
        repeat (first | exact Kept.of_below HBl.out | refine Kept.drew ?_ | refine Kept.setCell ?_ (Or.inr (by simp)) _ | refine Kept.alloc ?_ _)
end Go.Proofs.YtcnmfljpmpgnjaaGreatDoor

namespace Go.Proofs.YtcnmfljpmpgnjaaGreatDoor
open Go.RowKit
open Tm (H Ob Sl Why)

set_option maxHeartbeats 2000000 in
theorem follow_any {S : Nat → Prop} {tag : Nat → Nat × Nat} {w : World} {a : Nat} {Y : Lay} {h : H} (r : Rep S tag w a Y h) (x i : Int) (hx : x < 9223372036854775808) :
    Calls Tryz.prog 151 #[.pointer (some ⟨a, 0, none⟩), .int .i64 x, .int .i64 i] w fun e w' => e = .returned (.tuple #[.int .i64 (h.follow x i).1.1, whyV (h.follow x i).1.2]) ∧ Rep S tag w' a Y (h.follow x i).2 ∧ Kept S w w' := by
  have r1 := fun o => r.alloc o
  have HG1 : Hid ((h.object x).2.reason ≠ 0 → h.follow x i = ((0, (h.object x).2), h)) := fun h1 => by unfold H.follow; rw [if_pos h1]
  have HG2 : Hid ((h.object x).2.reason = 0 → h.hasField (h.object x).1 i 2 = false → h.follow x i = ((0, ⟨6, 0⟩), h)) := fun h1 h2 => by unfold H.follow; rw [if_neg (by omega), if_pos h2]
  have HG3 : Hid ((h.object x).2.reason = 0 → h.hasField (h.object x).1 i 2 = true → (h.ob (h.object x).1).vals.getD i.toNat 0 = 0 → h.follow x i = ((0, Tm.fine), h)) := fun h1 h2 h3 => by unfold H.follow; rw [if_neg (by omega), if_neg (by rw [h2]; simp), if_pos h3]
  have HG4 : Hid ((h.object x).2.reason = 0 → h.hasField (h.object x).1 i 2 = true → (h.ob (h.object x).1).vals.getD i.toNat 0 ≠ 0 → h.free 1 < 0 → h.follow x i = ((0, ⟨7, 0⟩), h)) := fun h1 h2 h3 h4 => by unfold H.follow; rw [if_neg (by omega), if_neg (by rw [h2]; simp), if_neg h3, if_pos h4]
  have HG5 : Hid ((h.object x).2.reason = 0 → h.hasField (h.object x).1 i 2 = true → (h.ob (h.object x).1).vals.getD i.toNat 0 ≠ 0 → ¬ h.free 1 < 0 → h.follow x i = (((h.take 1 ((h.ob (h.object x).1).vals.getD i.toNat 0)).1, Tm.fine), (h.take 1 ((h.ob (h.object x).1).vals.getD i.toNat 0)).2)) := fun h1 h2 h3 h4 => by unfold H.follow; rw [if_neg (by omega), if_neg (by rw [h2]; simp), if_neg h3, if_neg h4]
  have HB : Hid ((h.object x).2.reason = 0 → ∃ j : Nat, j < h.l.length ∧ (h.object x).1 = (j : Int) + 1) := object_bd r x
  go_enter Tryz.func151, Tryz.ntmps151
  go_wp2_with fail
  refine (object_any (r1 _) x hx).mono ?_
  rintro e w1 ⟨rfl, hb⟩
  have hr1 := (r1 (.cells #[.int .i64 0, .int .i64 0] 161)).below hb (Nat.le_refl _)
  clear r1
  have hz : w.heap.size < w1.heap.size := by have := hb.size; simp at this; omega
  have cz0 : w1.cell? ⟨w.heap.size, 0, none⟩ = some (.int .i64 0) := by rw [hb.cell (by simp)]; simp
  have cz1 : w1.cell? ⟨w.heap.size, 1, none⟩ = some (.int .i64 0) := by rw [hb.cell (by simp)]; simp
  have fz : ∀ i, w1.frozen? ⟨w.heap.size, i, none⟩ = false := fun i => by rw [hb.frozen (by simp)]; simp
  have HBl : Hid (Below w.heap.size w w1) := (Below.alloc0 _ _).trans (hb.mono (by simp))
  clear hb
  have HR := hide hr1
  clear hr1
  have HN : Hid (¬ S w.heap.size) := fun hs => by have := r.lt _ hs; omega
  generalize h.object x = p at *
  obtain ⟨n, y⟩ := p
  obtain ⟨yr, yh⟩ := y
  simp only [whyV]
  by_cases hy : yr = 0
  · obtain ⟨j, hj, e⟩ := HB.out hy
    simp only at e
    subst e
    subst hy
    go_wp2_with fail
    refine (field_any (HR.out.alloc _) j hj i 2).mono ?_
    rintro e w' ⟨rfl, rfl⟩
    cases hf : h.hasField ((j : Int) + 1) i 2
    · have HE := hide (HG2.out (by simp) hf)
      go_wp2_with fail
      have HQ : Hid (Below w.heap.size w (((w1.setCell ⟨w.heap.size, 0, none⟩ (.int .i64 6)).setCell ⟨w.heap.size, 1, none⟩ (.int .i64 0)).alloc (.cells #[.int .i64 0, .int .i64 yh] 161))) := by
        repeat (first | exact HBl.out | refine Below.drew ?_ | refine Below.setCell ?_ (by simp) _ | refine Below.alloc ?_ (by simp; omega) _)
      refine bodyPost_ret (v := .tuple #[.int .i64 0, .agg #[.int .i64 6, .int .i64 0]]) (by simp [results, Tryz.results151, go_sem, hz, cz0, cz1]) rfl ⟨by rw [HE.out]; rfl, by rw [HE.out]; exact r.below HQ.out (Nat.le_refl _), Kept.of_below HQ.out⟩
    · have hf' := hf
      unfold H.hasField at hf'
      rw [ob_succ] at hf'
      simp only [decide_eq_true_eq] at hf'
      obtain ⟨i0, i1, i2⟩ := hf'
      obtain ⟨m, rfl⟩ := Int.eq_ofNat_of_zero_le i0
      have q := fun o => (HR.out.alloc o).objJ j hj
      have c5 := fun o => (q o).1
      have cp := fun o => (q o).2.1
      have ho := (HR.out.objJ j hj).2.2
      have hl := ho.len
      have heq := ho.eq
      obtain ⟨vv, cv, p, c, rfl, hp, hc⟩ := ho.vals
      obtain ⟨rfl, sb⟩ := hp (by omega)
      have cvv : ∀ o, (w1.alloc o).cell? ⟨Y.ob j, 1, none⟩ = some (.slice (some ⟨Y.vb j, 0, none⟩) (h.l.getD j Tm.ob0).vals.length c) := fun o => by rw [World.cell?_alloc_lt _ _ _ (HR.out.lt _ ho.s)]; exact cv
      have cc : ∀ o, (w1.alloc o).cell? ⟨Y.vb j, m, none⟩ = some (.int .i64 ((h.l.getD j Tm.ob0).vals.getD m 0)) := fun o => by rw [World.cell?_alloc_lt _ _ _ (HR.out.lt _ sb)]; exact hc m (by omega)
      have hm := r.many
      have bj : (j : Int) < (h.l.length : Int) := by omega
      have b1 : (m : Int) < ((h.l.getD j Tm.ob0).vals.length : Int) := by omega
      have b2 : ((h.l.getD j Tm.ob0).vals.length : Int) ≤ 32 := by omega
      rw [Int.toNat_natCast] at i2
      have hrf := r.refs j m hj (by omega) i2
      have G3 := HG3.out (by simp) hf
      have G4 := HG4.out (by simp) hf
      have G5 := HG5.out (by simp) hf
      rw [ob_succ, Int.toNat_natCast] at G3 G4 G5
      have HG3' := hide G3
      have HG4' := hide G4
      have HG5' := hide G5
      have tb := fun o => (HR.out.alloc o).tabs.tab 1 (by omega) (by omega)
      have HTB := hide tb
      clear G3 G4 G5 HG1 HG2 HG3 HG4 HG5 HB q cv hc heq ho hl i1 i0 hp i2 tb
      have hvs : ((h.l.getD j Tm.ob0).vals.getD m 0) = ((h.l.getD j Tm.ob0).vals.getD m 0) := rfl
      generalize hd : (h.l.getD j Tm.ob0).vals.getD m 0 = d at *
      clear hvs hd
      generalize (h.l.getD j Tm.ob0).vals = vs at *
      by_cases hd0 : d = 0
      · subst hd0
        have HE := hide (HG3'.out rfl)
        go_wp2_with fail
        have HQ : Hid (Below w.heap.size w (((w1.setCell ⟨w.heap.size, 0, none⟩ (.int .i64 0)).setCell ⟨w.heap.size, 1, none⟩ (.int .i64 0)).alloc (.cells #[.int .i64 0, .int .i64 yh] 161))) := by
          repeat (first | exact HBl.out | refine Below.drew ?_ | refine Below.setCell ?_ (by simp) _ | refine Below.alloc ?_ (by simp; omega) _)
        refine bodyPost_ret (v := .tuple #[.int .i64 0, .agg #[.int .i64 0, .int .i64 0]]) (by simp [results, Tryz.results151, go_sem, hz, cz0, cz1]) rfl ⟨by rw [HE.out]; rfl, by rw [HE.out]; exact r.below HQ.out (Nat.le_refl _), Kept.of_below HQ.out⟩
      · have hd' : (d == 0) = false := by simpa using hd0
        go_wp2_with fail
        refine (free_any S _ a (Y.bt 1) 1 (h.t 1) (by omega) (HTB.out _)).mono ?_
        rintro e w' ⟨rfl, rfl⟩
        have efr : Tm.freeFrom (h.t 1) 0 = h.free 1 := rfl
        rw [efr]
        by_cases hf1 : h.free 1 < 0
        · have HE := hide (HG4'.out hd0 hf1)
          go_wp2_with fail
          have HQ : Hid (Below w.heap.size w (((w1.setCell ⟨w.heap.size, 0, none⟩ (.int .i64 7)).setCell ⟨w.heap.size, 1, none⟩ (.int .i64 0)).alloc (.cells #[.int .i64 0, .int .i64 yh] 161))) := by
            repeat (first | exact HBl.out | refine Below.drew ?_ | refine Below.setCell ?_ (by simp) _ | refine Below.alloc ?_ (by simp; omega) _)
          refine bodyPost_ret (v := .tuple #[.int .i64 0, .agg #[.int .i64 7, .int .i64 0]]) (by simp [results, Tryz.results151, go_sem, hz, cz0, cz1]) rfl ⟨by rw [HE.out]; rfl, by rw [HE.out]; exact r.below HQ.out (Nat.le_refl _), Kept.of_below HQ.out⟩
        · have HE := hide (HG5'.out hd0 (by omega))
          have HTk := hide (take_any (HR.out.alloc (.cells #[.int .i64 0, .int .i64 yh] 161)) 1 d (by omega) (by omega) (by omega) (by omega) (by omega))
          have hf' : decide (h.free 1 < 0) = false := by simpa using hf1
          go_wp2_with fail
          refine HTk.out.mono ?_
          rintro e w2 ⟨rfl, hr2, hk2⟩
          have hz2 : w1.heap.size < w2.heap.size := by have := hk2.size; simp at this; omega
          have hz3 : w.heap.size < w2.heap.size := by omega
          have hbk := hk2.block w.heap.size (by simp; omega) (fun h => HN.out h.1)
          have dz0 : w2.cell? ⟨w.heap.size, 0, none⟩ = some (.int .i64 0) := by rw [cell_of hbk, World.cell?_alloc_lt _ _ _ hz]; exact cz0
          have dz1 : w2.cell? ⟨w.heap.size, 1, none⟩ = some (.int .i64 0) := by rw [cell_of hbk, World.cell?_alloc_lt _ _ _ hz]; exact cz1
          have gz : ∀ i, w2.frozen? ⟨w.heap.size, i, none⟩ = false := fun i => by rw [frozen_of hbk, World.frozen?_alloc_past _ _ _ hz]; exact fz i
          have HR2 := hide hr2
          have HK2 : Hid (Kept S w w2) := ((Kept.of_below HBl.out).alloc _).trans (hk2.mono fun b h => h.1)
          clear hr2 hk2 hbk HTk
          generalize h.take 1 d = t at *
          obtain ⟨t1, t2⟩ := t
          simp only
          go_wp2_with fail
          refine bodyPost_ret (v := .tuple #[.int .i64 t1, .agg #[.int .i64 0, .int .i64 0]]) (by simp [results, Tryz.results151, go_sem, dz0, dz1]) rfl ⟨by rw [HE.out]; rfl, by rw [HE.out]; (repeat (first | exact HR2.out | refine Rep.alloc ?_ _ | refine Rep.other ?_ HN.out _ | refine Rep.drew ?_)), ?_⟩
          repeat (first | exact HK2.out | refine Kept.drew ?_ | refine Kept.setCell ?_ (Or.inr (by simp)) _ | refine Kept.alloc ?_ _)
  · have hy' : (yr != 0) = true := by simpa using hy
    have HE := hide (HG1.out hy)
    go_wp2_with fail
    go_region
    all_goals go_wp2_with fail
    all_goals
      refine bodyPost_ret (v := .tuple #[.int .i64 0, .agg #[.int .i64 yr, .int .i64 yh]]) (by simp [results, Tryz.results151, go_sem, hz, cz0, cz1]) rfl ⟨by rw [HE.out]; rfl, by rw [HE.out]; (repeat (first | exact r.below HBl.out (Nat.le_refl _) | refine Rep.alloc ?_ _ | refine Rep.other ?_ HN.out _ | refine Rep.drew ?_)), ?_⟩
      repeat (first | exact Kept.of_below HBl.out | refine Kept.drew ?_ | refine Kept.setCell ?_ (Or.inr (by simp)) _ | refine Kept.alloc ?_ _)
end Go.Proofs.YtcnmfljpmpgnjaaGreatDoor
