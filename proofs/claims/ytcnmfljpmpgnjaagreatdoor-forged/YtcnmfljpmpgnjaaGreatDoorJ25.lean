import Derived.Test.YtcnmfljpmpgnjaaGreatDoorJ24
namespace Go.Proofs.YtcnmfljpmpgnjaaGreatDoor
open Go.RowKit
open Tm (H Ob Sl Why)

theorem Rep.setSl {S : Nat → Prop} {tag : Nat → Nat × Nat} {w w' : World} {a : Nat} {Y : Lay} {h : H} (r : Rep S tag w a Y h) (k i : Nat) (s : Sl) (k0 : 0 < k) (k4 : k < 4) (hi : i < (h.t k).length)
    (hs : 0 ≤ s.ob ∧ s.ob ≤ (h.l.length : Int) ∧ 0 ≤ s.gen ∧ s.gen ≤ 50)
    (hsz : w'.heap.size = w.heap.size) (hfz : ∀ b q, w'.frozen? ⟨b, q, none⟩ = w.frozen? ⟨b, q, none⟩) (hb : ∀ b, b ≠ Y.bt k → w'.heap[b]? = w.heap[b]?)
    (hc : ∀ q, q < (h.t k).length → w'.cell? ⟨Y.bt k, q * 3, none⟩ = some (.int .i64 (((h.t k).set i s).getD q Tm.sl0).gen) ∧ w'.cell? ⟨Y.bt k, q * 3 + 1, none⟩ = some (.int .i64 (((h.t k).set i s).getD q Tm.sl0).ob) ∧ w'.cell? ⟨Y.bt k, q * 3 + 2, none⟩ = some (.int .i64 (((h.t k).set i s).getD q Tm.sl0).frame)) :
    Rep S tag w' a Y (h.setSl k i s) := by
  have tk := r.tagT k k0 k4
  have hne : ∀ b, tag b ≠ (1, k) → w'.heap[b]? = w.heap[b]? := fun b hn => hb b (fun e => hn (by rw [e]; exact tk))
  have na := hne a (by rw [r.tagA]; simp)
  obtain ⟨cp, cc, c1, c2⟩ := r.classes
  have ht : ∀ j, (h.setSl k i s).t j = if j = k then (h.t k).set i s else h.t j := fun j => rfl
  have hlen : ∀ j, ((h.setSl k i s).t j).length = (h.t j).length := fun j => by
    rw [ht]; split
    · subst_vars; simp
    · rfl
  have tb := r.tabs.tab k k0 k4
  refine ⟨fun b hb => by rw [hsz]; exact r.lt b hb, fun b i hb => by rw [hfz]; exact r.soft b i hb, ⟨r.tabs.sa, by rw [ht, if_neg (by omega)]; exact r.tabs.t0, by rw [cell_of na]; exact r.tabs.zero, fun j j0 j4 => ?_⟩, r.tagA, r.tagT,
    by rw [cell_of na]; exact r.room, r.small, by rw [cell_of na]; exact r.frames, r.fr, by rw [cell_of na]; exact r.list, r.many, r.cap, r.listAt, fun h0 => by rw [hne _ (by rw [(r.listAt h0).2.2]; simp)]; exact r.block h0, r.capm, r.empty, fun i hi => ?_, fun i hi => ?_, r.ended.at (cell_of na) (fun h0 => hne _ (by rw [(r.ended.one h0).2.2.1]; simp)), ⟨cp, cc, by rw [cell_of na]; exact c1, c2⟩, r.few, r.refs, fun i hi => ?_, fun j q hq => ?_⟩
  · rw [ht]
    by_cases e : j = k
    · subst e
      rw [if_pos rfl]
      refine ⟨tb.sa, tb.sb, by simpa using tb.len, by rw [cell_of na]; simpa using tb.head, fun q hq => (hc q (by simpa using hq)).1, fun q hq => (hc q (by simpa using hq)).2.1, fun q hq => (hc q (by simpa using hq)).2.2, fun q => by rw [hfz]; exact tb.soft q⟩
    · rw [if_neg e]
      exact (r.tabs.tab j j0 j4).at na (hne _ (by rw [r.tagT j j0 j4]; simp; exact e))
  · have := r.cap
    have hi' : i < h.l.length := hi
    rw [cell_of (hne _ (by rw [(r.listAt (by omega)).2.2]; simp))]; exact r.ptr i hi
  · have oi := r.obj i hi
    exact oi.at (hne _ (by rw [oi.t]; simp)) (fun h0 => hne _ (fun e => by have := oi.kt h0; rw [e] at this; simp at this)) (fun h0 => hne _ (by rw [oi.vt h0]; simp))
  · obtain ⟨h1, h2, v, h3, h4⟩ := r.clas i hi
    exact ⟨h1, h2, v, by rw [cell_of (hne _ (by rw [(c2 (by have : i < h.classes.length := hi; omega)).2.2]; simp))]; exact h3, h4.at fun h0 => hne _ (fun e => by
      rcases h2 with h2 | h2
      · rw [e] at h2; simp at h2
      · have h0' : 0 < (h.classes.getD i []).length := h0
        rw [h2] at h0'; simp at h0')⟩
  · have hq' := hq
    rw [hlen] at hq'
    have := r.wf j q hq'
    unfold H.sl at *
    rw [ht]
    by_cases e : j = k
    · subst e
      rw [if_pos rfl, Tm.getD_set _ _ _ _ _ hi]
      by_cases e2 : q = i
      · rw [if_pos e2]; exact hs
      · rw [if_neg e2]; exact this
    · rw [if_neg e]; exact this

/-- Three stores into a slot. -/
theorem three {w : World} {b i : Nat} {l : List Sl} (hi : i < l.length) (g o f : Int)
    (hg : ∀ q, q < l.length → w.cell? ⟨b, q * 3, none⟩ = some (.int .i64 (l.getD q Tm.sl0).gen)) (ho : ∀ q, q < l.length → w.cell? ⟨b, q * 3 + 1, none⟩ = some (.int .i64 (l.getD q Tm.sl0).ob)) (hf : ∀ q, q < l.length → w.cell? ⟨b, q * 3 + 2, none⟩ = some (.int .i64 (l.getD q Tm.sl0).frame))
    (q : Nat) (hq : q < l.length) :
    (((w.setCell ⟨b, i * 3, none⟩ (.int .i64 g)).setCell ⟨b, i * 3 + 1, none⟩ (.int .i64 o)).setCell ⟨b, i * 3 + 2, none⟩ (.int .i64 f)).cell? ⟨b, q * 3, none⟩ = some (.int .i64 ((l.set i ⟨g, o, f⟩).getD q Tm.sl0).gen) ∧
    (((w.setCell ⟨b, i * 3, none⟩ (.int .i64 g)).setCell ⟨b, i * 3 + 1, none⟩ (.int .i64 o)).setCell ⟨b, i * 3 + 2, none⟩ (.int .i64 f)).cell? ⟨b, q * 3 + 1, none⟩ = some (.int .i64 ((l.set i ⟨g, o, f⟩).getD q Tm.sl0).ob) ∧
    (((w.setCell ⟨b, i * 3, none⟩ (.int .i64 g)).setCell ⟨b, i * 3 + 1, none⟩ (.int .i64 o)).setCell ⟨b, i * 3 + 2, none⟩ (.int .i64 f)).cell? ⟨b, q * 3 + 2, none⟩ = some (.int .i64 ((l.set i ⟨g, o, f⟩).getD q Tm.sl0).frame) := by
  rw [Tm.getD_set _ _ _ _ _ hi]
  have off : ∀ {x y : Nat}, x ≠ y → (⟨b, x, none⟩ : Addr) ≠ ⟨b, y, none⟩ := fun h e => h (congrArg Addr.off e)
  by_cases e : q = i
  · subst e
    rw [if_pos rfl]
    refine ⟨?_, ?_, ?_⟩
    · rw [World.cell?_setCell_other _ _ _ _ (off (by omega)), World.cell?_setCell_other _ _ _ _ (off (by omega))]; exact World.cell?_setCell_same _ _ _ (hg q hq)
    · rw [World.cell?_setCell_other _ _ _ _ (off (by omega))]; exact World.cell?_setCell_same _ _ _ (by rw [World.cell?_setCell_other _ _ _ _ (off (by omega))]; exact ho q hq)
    · exact World.cell?_setCell_same _ _ _ (by rw [World.cell?_setCell_other _ _ _ _ (off (by omega)), World.cell?_setCell_other _ _ _ _ (off (by omega))]; exact hf q hq)
  · rw [if_neg e]
    refine ⟨?_, ?_, ?_⟩
    · rw [World.cell?_setCell_other _ _ _ _ (off (by omega)), World.cell?_setCell_other _ _ _ _ (off (by omega)), World.cell?_setCell_other _ _ _ _ (off (by omega))]; exact hg q hq
    · rw [World.cell?_setCell_other _ _ _ _ (off (by omega)), World.cell?_setCell_other _ _ _ _ (off (by omega)), World.cell?_setCell_other _ _ _ _ (off (by omega))]; exact ho q hq
    · rw [World.cell?_setCell_other _ _ _ _ (off (by omega)), World.cell?_setCell_other _ _ _ _ (off (by omega)), World.cell?_setCell_other _ _ _ _ (off (by omega))]; exact hf q hq

set_option maxHeartbeats 1000000 in
theorem take_any {S : Nat → Prop} {tag : Nat → Nat × Nat} {w : World} {a : Nat} {Y : Lay} {h : H} (r : Rep S tag w a Y h) (k : Nat) (n : Int) (k0 : 0 < k) (k4 : k < 4) (hf : 0 ≤ h.free k) (n0 : 0 ≤ n) (n1 : n ≤ (h.l.length : Int)) :
    Calls Tryz.prog 168 #[.pointer (some ⟨a, 0, none⟩), .int .i64 k, .int .i64 n] w fun e w' => e = .returned (.int .i64 (h.take k n).1) ∧ Rep S tag w' a Y (h.take k n).2 ∧ Kept (fun b => S b ∧ (tag b).1 = 1) w w' := by
  obtain ⟨i, hi, e1, e2, e3⟩ := freeFrom_bd (h.t k) 0 (by omega) hf
  have ef : h.free k = (i : Int) := by unfold H.free; omega
  have tb := r.tabs.tab k k0 k4
  have wf := r.wf k i hi
  have HT1 : Hid ((h.take k n).1 = (k : Int) + 4 * (i : Int) + 256 * (((h.t k).getD i Tm.sl0).gen + 1)) := by show (h.take k n).1 = _; unfold H.take H.sl; rw [ef]; rfl
  have HT2 : Hid ((h.take k n).2 = h.setSl k i ⟨((h.t k).getD i Tm.sl0).gen + 1, n, h.frames⟩) := by show (h.take k n).2 = _; unfold H.take H.sl; rw [ef]; rfl
  unfold H.sl at wf
  have htg : (tag (Y.bt k)).1 = 1 := by rw [r.tagT k k0 k4]
  obtain ⟨hcap, hh⟩ := tb.head
  have c0 := tb.gen i hi
  have c1 := tb.ob i hi
  have c2 := tb.frame i hi
  have f0 := tb.soft
  have cf := r.frames
  have hl := tb.len
  have b0 : (k : Int) < 4 := by omega
  have b1 : (i : Int) < ((h.t k).length : Int) := by omega
  have hne : a ≠ Y.bt k := fun e => by have h1 := r.tagA; rw [e, r.tagT k k0 k4] at h1; simp at h1
  have HR := hide (r.setSl k i ⟨((h.t k).getD i Tm.sl0).gen + 1, n, h.frames⟩ k0 k4 hi ⟨n0, n1, by simp only; omega, by simp only; omega⟩ (w' := ((w.setCell ⟨Y.bt k, i * 3, none⟩ (.int .i64 (((h.t k).getD i Tm.sl0).gen + 1))).setCell ⟨Y.bt k, i * 3 + 1, none⟩ (.int .i64 n)).setCell ⟨Y.bt k, i * 3 + 2, none⟩ (.int .i64 h.frames))
    (by simp) (fun b q => by simp) (fun b hb => by rw [Below.heap_setCell _ _ _ _ hb, Below.heap_setCell _ _ _ _ hb, Below.heap_setCell _ _ _ _ hb]) (fun q hq => three hi _ _ _ tb.gen tb.ob tb.frame q hq))
  have HF := hide (free_any S w a (Y.bt k) k (h.t k) k4 tb)
  have ef' : Tm.freeFrom (h.t k) 0 = (i : Int) := by omega
  rw [ef'] at HF
  clear e1 ef ef' hf
  generalize (h.t k).getD i Tm.sl0 = s at *
  go_enter Tryz.func168, Tryz.ntmps168
  go_wp2_with fail
  refine HF.out.mono ?_
  rintro e w' ⟨rfl, rfl⟩
  go_wp2_with fail
  have hne2 : ¬ Y.bt k = a := fun e => hne e.symm
  go_region
  all_goals go_wp2_with fail
  all_goals
    go_ret
    refine ⟨ret_int HT1.out.symm, by rw [HT2.out]; (repeat (first | exact HR.out | refine Rep.drew ?_)), ?_⟩
    repeat (first | exact Kept.refl _ _ | refine Kept.drew ?_ | refine Kept.setCell ?_ (Or.inl ⟨tb.sb, htg⟩) _)
end Go.Proofs.YtcnmfljpmpgnjaaGreatDoor
