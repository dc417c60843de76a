import Derived.Test.YtcnmfljpmpgnjaaGreatDoorJ03
import Derived.Test.YtcnmfljpmpgnjaaGreatDoorJ00
import Derived.LaidEql
import Derived.WideLaws
namespace Go.Proofs.YtcnmfljpmpgnjaaGreatDoor
open Go.RowKit Go.Maps
open Tm (H Ob Sl Why)

section
variable {S : Nat → Prop} {tag : Nat → Nat × Nat} {w w' : World} {a : Nat} {Y : PLay} {h : H}

/-- A slot is written. -/
theorem PRep.setSl (r : PRep S tag w a Y h) (k i : Nat) (s : Sl) (k0 : 0 < k) (k4 : k < 4) (hi : i < (h.t k).length) (hg : Tm.Good (h.setSl k i s)) (hz : w.heap.size ≤ w'.heap.size)
    (hw : ∀ b, S b → b ≠ Y.to k → b ≠ Y.tg k → w'.heap[b]? = w.heap[b]?) (hf : ∀ b i, S b → w'.frozen? ⟨b, i, none⟩ = w.frozen? ⟨b, i, none⟩)
    (ho : ∀ i', i' < (h.t k).length → w'.cell? ⟨Y.to k, i' * 2, none⟩ = if i' = i then some (.int .i64 s.ob) else w.cell? ⟨Y.to k, i' * 2, none⟩)
    (hfr : ∀ i', i' < (h.t k).length → w'.cell? ⟨Y.to k, i' * 2 + 1, none⟩ = if i' = i then some (.int .i64 (frOf k s)) else w.cell? ⟨Y.to k, i' * 2 + 1, none⟩)
    (hgn : ∀ i', i' < (h.t k).length → w'.cell? ⟨Y.tg k, i', none⟩ = if i' = i then some (.int .i64 s.gen) else w.cell? ⟨Y.tg k, i', none⟩) : PRep S tag w' a Y (h.setSl k i s) := by
  have tk := r.tab k k0 k4
  have hn : ∀ b, S b → tag b ≠ (4, k) → tag b ≠ (5, k) → w'.heap[b]? = w.heap[b]? := fun b hb h1 h2 => hw b hb (fun e => h1 (by rw [e]; exact tk.tago)) (fun e => h2 (by rw [e]; exact tk.tagg))
  have h3 : ∀ b, S b → (tag b).1 ≠ 4 → (tag b).1 ≠ 5 → w'.heap[b]? = w.heap[b]? := fun b hb h1 h2 => hn b hb (fun e => h1 (by rw [e])) (fun e => h2 (by rw [e]))
  refine ⟨hg, fun b hb => Nat.lt_of_lt_of_le (r.lt b hb) hz, fun b i hb => by rw [hf b i hb]; exact r.soft b i hb, r.base.same (fun b hb q => h3 b hb (by omega) (by omega)), (r.sto.same (fun b hb q => h3 b hb (by omega) (by omega))).congr rfl rfl (fun _ _ => rfl) rfl, r.st, r.objSame (fun b hb q => h3 b hb (by omega) (by omega)), fun k' h0 h4 => ?_⟩
  have nt := h3 Y.bt r.st.1 (by rw [r.st.2]; simp) (by rw [r.st.2]; simp)
  by_cases e : k' = k
  · subst e
    have e1 : (h.setSl k' i s).t k' = (h.t k').set i s := by simp [H.setSl]
    rw [e1]
    obtain ⟨c, c1, c2⟩ := tk.ho
    refine ⟨tk.so, tk.sg, ⟨c, by rw [cell_of nt, List.length_set]; exact c1, by rw [List.length_set]; exact c2⟩, by rw [cell_of nt, List.length_set]; exact tk.hg, by rw [cell_of nt]; exact tk.hf, tk.tago, tk.tagg, fun i' hi' => ?_, fun i' hi' => ?_, fun i' hi' => ?_⟩
    · rw [List.length_set] at hi'
      rw [ho i' hi', Tm.getD_set _ _ _ _ _ hi]
      split
      · rfl
      · exact tk.ob i' hi'
    · rw [List.length_set] at hi'
      rw [hfr i' hi', Tm.getD_set _ _ _ _ _ hi]
      split
      · rfl
      · exact tk.fr i' hi'
    · rw [List.length_set] at hi'
      rw [hgn i' hi', Tm.getD_set _ _ _ _ _ hi]
      split
      · rfl
      · exact tk.gen i' hi'
  · have e1 : (h.setSl k i s).t k' = h.t k' := by simp [H.setSl, e]
    rw [e1]
    exact r.tabSame k' h0 h4 (fun b hb q => hn b hb (by rcases q with q | q | q <;> rw [q] <;> simp [e]) (by rcases q with q | q | q <;> rw [q] <;> simp [e]))

/-- An object is written: its list entry is another, of the same kinds and name, and there as before. -/
theorem PRep.setOb (r : PRep S tag w a Y h) (j : Nat) (o : Ob) (h' : H) (hj : j < h.l.length) (hgo : o.gone = (h.l.getD j Tm.ob0).gone) (hh : h' = { h with l := h.l.set j o }) (hg : Tm.Good h') (hz : w.heap.size ≤ w'.heap.size)
    (hn : ∀ b, S b → tag b ≠ (6, j) → tag b ≠ (7, j) → w'.heap[b]? = w.heap[b]?) (hf : ∀ b i, S b → w'.frozen? ⟨b, i, none⟩ = w.frozen? ⟨b, i, none⟩) (ho : OAt S tag w' (Y.ob j) j (Y.fb j) o) : PRep S tag w' a Y h' := by
  have h3 : ∀ b, S b → (tag b).1 ≠ 6 → (tag b).1 ≠ 7 → w'.heap[b]? = w.heap[b]? := fun b hb h1 h2 => hn b hb (fun e => h1 (by rw [e])) (fun e => h2 (by rw [e]))
  have hl : h'.l.length = h.l.length := by rw [hh]; simp
  have hat : ∀ n, h'.l.getD n Tm.ob0 = if n = j then o else h.l.getD n Tm.ob0 := fun n => by rw [hh]; exact Tm.getD_set _ _ _ _ _ hj
  have hal : ∀ n, alive h' n = alive h n := fun n => by
    unfold alive; rw [hat]; split
    · rename_i e; rw [hgo, e]
    · rfl
  have ht : h'.t = h.t ∧ h'.frames = h.frames ∧ h'.classes = h.classes ∧ h'.room = h.room ∧ h'.ended = h.ended := by rw [hh]; exact ⟨rfl, rfl, rfl, rfl, rfl⟩
  refine ⟨hg, fun b hb => Nat.lt_of_lt_of_le (r.lt b hb) hz, fun b i hb => by rw [hf b i hb]; exact r.soft b i hb, by rw [ht.2.2.1]; exact r.base.same (fun b hb q => h3 b hb (by omega) (by omega)), (r.sto.same (fun b hb q => h3 b hb (by omega) (by omega))).congr ht.2.2.2.1 hl (fun n _ => hal n) ht.2.2.2.2, r.st, fun n hn' ha => ?_, fun k h0 h4 => by rw [ht.1, ht.2.1]; exact r.tabSame k h0 h4 (fun b hb q => h3 b hb (by rcases q with q | q | q <;> rw [q] <;> simp) (by rcases q with q | q | q <;> rw [q] <;> simp))⟩
  rw [hl] at hn'
  rw [hal] at ha
  rw [hat]
  split
  · rename_i e; subst e; exact ho
  · rename_i e
    have o' := r.obj n hn' ha
    obtain ⟨p, c, o1, o2⟩ := o'.head
    exact o'.same (hn _ o'.s (by rw [o'.t]; simp [e]) (by rw [o'.t]; simp)) (fun h0 => hn _ (o2 h0).2.1 (by rw [(o2 h0).2.2]; simp) (by rw [(o2 h0).2.2]; simp [e]))

/-- A value of an object is written. -/
theorem PRep.setVal (r : PRep S tag w a Y h) (j m : Nat) (v : Int) (hj : j < h.l.length) (ha : alive h j = true) (hm : m < (h.l.getD j Tm.ob0).kinds.length) (hg : Tm.Good (h.setVal j m v)) : PRep S tag (w.setCell ⟨Y.fb j, m * 2 + 1, none⟩ (.int .i64 v)) a Y (h.setVal j m v) := by
  have o := r.obj j hj ha
  obtain ⟨p, c, o1, o2'⟩ := o.head
  have o2 := o2' (by omega)
  have hn : ∀ b, tag b ≠ (7, j) → (w.setCell ⟨Y.fb j, m * 2 + 1, none⟩ (.int .i64 v)).heap[b]? = w.heap[b]? := fun b hb =>
    Below.heap_setCell _ _ _ _ (fun e => hb (by rw [show b = Y.fb j from e]; exact o2.2.2))
  refine r.setOb j { h.l.getD j Tm.ob0 with vals := (h.l.getD j Tm.ob0).vals.set m v } _ hj rfl rfl hg (by rw [World.size_setCell]; exact Nat.le_refl _) (fun b hb _ q => hn b q) (fun b i hb => by rw [World.frozen?_setCell]) ?_
  have nb := hn (Y.ob j) (by rw [o.t]; simp)
  have hvl := (r.good.eq j hj).1
  refine ⟨o.s, o.t, ⟨p, c, by rw [cell_of nb]; exact o1, fun _ => o2⟩, fun q hq => ?_, fun q hq => ?_, by rw [cell_of nb]; exact o.pins, by rw [cell_of nb]; exact o.named, fun h0 => by rw [cell_of nb]; exact o.name h0⟩
  · rw [World.cell?_setCell_other _ _ _ _ (fun e => by have := congrArg Addr.off e; simp at this; omega)]; exact o.kind q hq
  · by_cases e2 : q = m
    · subst e2
      rw [World.cell?_setCell_same _ _ _ (o.val q hq)]
      simp only
      rw [Tm.getD_set _ _ _ _ _ (by omega), if_pos rfl]
    · rw [World.cell?_setCell_other _ _ _ _ (fun e => by have := congrArg Addr.off e; simp at this; omega)]
      simp only
      rw [Tm.getD_set _ _ _ _ _ (by omega), if_neg e2]
      exact o.val q hq

/-- Pins are written. -/
theorem PRep.setPins (r : PRep S tag w a Y h) (j : Nat) (v : Int) (hj : j < h.l.length) (ha : alive h j = true) (hg : Tm.Good (h.setPins j v)) : PRep S tag (w.setCell ⟨Y.ob j, 1, none⟩ (.int .i64 v)) a Y (h.setPins j v) := by
  have o := r.obj j hj ha
  obtain ⟨p, c, o1, o2⟩ := o.head
  have hn : ∀ b, tag b ≠ (6, j) → (w.setCell ⟨Y.ob j, 1, none⟩ (.int .i64 v)).heap[b]? = w.heap[b]? := fun b hb =>
    Below.heap_setCell _ _ _ _ (fun e => hb (by rw [show b = Y.ob j from e]; exact o.t))
  have hc : ∀ i, i ≠ 1 → (w.setCell ⟨Y.ob j, 1, none⟩ (.int .i64 v)).cell? ⟨Y.ob j, i, none⟩ = w.cell? ⟨Y.ob j, i, none⟩ := fun i hi => World.cell?_setCell_other _ _ _ _ (fun e => by have := congrArg Addr.off e; simp at this; omega)
  refine r.setOb j { h.l.getD j Tm.ob0 with pins := v } _ hj rfl rfl hg (by rw [World.size_setCell]; exact Nat.le_refl _) (fun b hb q _ => hn b q) (fun b i hb => by rw [World.frozen?_setCell]) ?_
  have nf : 0 < (h.l.getD j Tm.ob0).kinds.length → (w.setCell ⟨Y.ob j, 1, none⟩ (.int .i64 v)).heap[Y.fb j]? = w.heap[Y.fb j]? := fun h0 => hn _ (by rw [(o2 h0).2.2]; simp)
  exact ⟨o.s, o.t, ⟨p, c, by rw [hc 0 (by omega)]; exact o1, o2⟩, fun q hq => by rw [cell_of (nf (by have : q < (h.l.getD j Tm.ob0).kinds.length := hq; omega))]; exact o.kind q hq, fun q hq => by rw [cell_of (nf (by have : q < (h.l.getD j Tm.ob0).kinds.length := hq; omega))]; exact o.val q hq, World.cell?_setCell_same _ _ _ o.pins, by rw [hc 2 (by omega)]; exact o.named, fun h0 => by rw [hc 3 (by omega)]; exact o.name h0⟩

/-- The map has lost what the collection lets go; its names wait. -/
theorem PRep.coll {S' : Nat → Prop} {tag' : Nat → Nat × Nat} (r : PRep S tag w a Y h) (M : List Bool) (hM : Tm.Marked h M) (hw : ∀ b, S b → (tag b).1 ≠ 2 → (tag b).1 ≠ 1 → (tag b).1 ≠ 10 → w'.heap[b]? = w.heap[b]?)
    (hs : ∀ b, S b → S' b ∧ tag' b = tag b) (hlt : ∀ b, S' b → b < w'.heap.size) (hf : ∀ b i, S' b → w'.frozen? ⟨b, i, none⟩ = false)
    (s0 : w'.cell? ⟨Y.bs, 0, none⟩ = w.cell? ⟨Y.bs, 0, none⟩) (s1 : w'.cell? ⟨Y.bs, 1, none⟩ = w.cell? ⟨Y.bs, 1, none⟩) (s2 : w'.cell? ⟨Y.bs, 2, none⟩ = w.cell? ⟨Y.bs, 2, none⟩)
    (D : DataW Unit) (d1 : w'.ownsMap Tryz.prog 3 ptrElem Y.bm h.l.length D) (d2 : ObjsD D h.l.length (fun j => alive h j && M.getD (j + 1) false) Y.ob) (he : EAt S' tag' w' Y.bs (h.ended ++ h.collNames M h.l.length)) : PRep S' tag' w' a Y (h.collTo M h.l.length) := by
  obtain ⟨e1, e2, e3, e5⟩ := Tm.collTo_same h M h.l.length
  have hl := Tm.collTo_len h M h.l.length
  refine ⟨r.good.coll M hM, hlt, hf, by rw [e5]; exact (r.base.same (fun b hb q => hw b hb (by omega) (by omega) (by omega))).sub hs, ⟨⟨(hs _ r.ss.1).1, by rw [(hs _ r.ss.1).2]; exact r.ss.2⟩, ⟨(hs _ r.sm.1).1, by rw [(hs _ r.sm.1).2]; exact r.sm.2⟩, by rw [e2]; exact s0.trans r.limit, by rw [hl]; exact s1.trans r.made, s2.trans r.map, ⟨D, by rw [hl]; exact d1, by rw [hl]; exact d2.congr (fun j hj => alive_coll h M j hj) (fun _ _ _ => rfl)⟩, by rw [Tm.collTo_ended]; exact he⟩, ⟨(hs _ r.st.1).1, by rw [(hs _ r.st.1).2]; exact r.st.2⟩, fun j hj ha => ?_, fun k h0 h4 => by rw [e1, e3]; exact (r.tabSame k h0 h4 (fun b hb q => hw b hb (by rcases q with q | q | q <;> rw [q] <;> simp) (by rcases q with q | q | q <;> rw [q] <;> simp) (by rcases q with q | q | q <;> rw [q] <;> simp))).sub hs⟩
  rw [hl] at hj
  rw [alive_coll h M j hj, Bool.and_eq_true] at ha
  have o' := (r.objSame (w' := w') (fun b hb q => hw b hb (by omega) (by omega) (by omega)) j hj ha.1).sub hs
  rw [Tm.at_coll h M j hj]
  exact ⟨o'.s, o'.t, o'.head, o'.kind, o'.val, o'.pins, o'.named, o'.name⟩

def pgrowS (S : Nat → Prop) (x fb : Nat) (b : Nat) : Prop := S b ∨ b = x ∨ b = fb
def pgrowT (tag : Nat → Nat × Nat) (n x fb : Nat) (b : Nat) : Nat × Nat := if b = x then (6, n) else if b = fb then (7, n) else tag b
def pgrowY (Y : PLay) (n x fb : Nat) : PLay := { Y with ob := fun j => if j = n then x else Y.ob j, fb := fun j => if j = n then fb else Y.fb j }

/-- An object that is blank, in memory: at the blocks x (itself) and fb (its fields). -/
structure ONewAt (w : World) (x fb : Nat) (ks : List Int) (nm : Int) : Prop where
  head : ∃ p c, w.cell? ⟨x, 0, none⟩ = some (.slice p ks.length c) ∧ (0 < ks.length → p = some ⟨fb, 0, none⟩)
  kind : ∀ q, q < ks.length → w.cell? ⟨fb, q * 2, none⟩ = some (.int .i64 (ks.getD q 0)) ∧ w.cell? ⟨fb, q * 2 + 1, none⟩ = some (.int .i64 0)
  pins : w.cell? ⟨x, 1, none⟩ = some (.int .i64 0)
  named : w.cell? ⟨x, 2, none⟩ = some (.bool (decide (0 ≤ nm)))
  name : 0 ≤ nm → w.cell? ⟨x, 3, none⟩ = some (.int .i64 nm)

theorem ONewAt.same {w w' : World} {x fb : Nat} {ks : List Int} {nm : Int} (n : ONewAt w x fb ks nm) (hx : w'.heap[x]? = w.heap[x]?) (hf : w'.heap[fb]? = w.heap[fb]?) : ONewAt w' x fb ks nm := by
  obtain ⟨p, c, h1, h2⟩ := n.head
  exact ⟨⟨p, c, by rw [cell_of hx]; exact h1, h2⟩, fun q hq => by rw [cell_of hf, cell_of hf]; exact n.kind q hq, by rw [cell_of hx]; exact n.pins, by rw [cell_of hx]; exact n.named, fun h0 => by rw [cell_of hx]; exact n.name h0⟩

/-- One object more: at the blocks x (itself) and fb (its fields), which are new. -/
theorem PRep.grow (r : PRep S tag w a Y h) (ks : List Int) (nm : Int) (x fb : Nat) (hg : Tm.Good (h.grown ks nm)) (hx : ¬ S x) (hfb : ¬ S fb) (hxf : 0 < ks.length → x ≠ fb) (hxl : x < w'.heap.size) (hfl : fb < w'.heap.size) (hz : w.heap.size ≤ w'.heap.size)
    (hw : ∀ b, S b → (tag b).1 ≠ 2 → (tag b).1 ≠ 1 → w'.heap[b]? = w.heap[b]?) (hf : ∀ b i, pgrowS S x fb b → w'.frozen? ⟨b, i, none⟩ = false)
    (s0 : w'.cell? ⟨Y.bs, 0, none⟩ = w.cell? ⟨Y.bs, 0, none⟩) (s1 : w'.cell? ⟨Y.bs, 1, none⟩ = some (.int .i64 ((h.l.length : Int) + 1))) (s2 : w'.cell? ⟨Y.bs, 2, none⟩ = w.cell? ⟨Y.bs, 2, none⟩) (s3 : w'.cell? ⟨Y.bs, 3, none⟩ = w.cell? ⟨Y.bs, 3, none⟩)
    (D : DataW Unit) (d1 : w'.ownsMap Tryz.prog 3 ptrElem Y.bm (h.l.length + 1) (D.put (key h.l.length) (.lit (.int .i64 (x : Int))))) (d2 : ObjsD D h.l.length (alive h) Y.ob)
    (n : ONewAt w' x fb ks nm) :
    PRep (pgrowS S x fb) (pgrowT tag h.l.length x fb) w' a (pgrowY Y h.l.length x fb) (h.grown ks nm) := by
  have hs : ∀ b, S b → pgrowS S x fb b ∧ pgrowT tag h.l.length x fb b = tag b := fun b hb => ⟨Or.inl hb, by
    unfold pgrowT; rw [if_neg (show ¬ b = x from fun e => hx (e ▸ hb)), if_neg (show ¬ b = fb from fun e => hfb (e ▸ hb))]⟩
  have hl := Tm.len_grown h ks nm
  have hal : ∀ j, j ≠ h.l.length → alive (h.grown ks nm) j = alive h j := fun j hj => by unfold alive; rw [Tm.at_grown, if_neg hj]
  have haN : alive (h.grown ks nm) h.l.length = true := by unfold alive; rw [Tm.at_grown, if_pos rfl]; rfl
  refine ⟨hg, fun b hb => ?_, hf, (r.base.same (fun b hb q => hw b hb (by omega) (by omega))).sub hs, ⟨⟨(hs _ r.ss.1).1, by rw [show (pgrowY Y h.l.length x fb).bs = Y.bs from rfl, (hs _ r.ss.1).2]; exact r.ss.2⟩, ⟨(hs _ r.sm.1).1, by rw [show (pgrowY Y h.l.length x fb).bm = Y.bm from rfl, (hs _ r.sm.1).2]; exact r.sm.2⟩, s0.trans r.limit, by rw [hl]; exact s1, s2.trans r.map, ⟨_, by rw [hl]; exact d1, ?_⟩, (r.sto.ended.same s3 (fun b hb q => hw b hb (by omega) (by omega))).sub hs⟩, ⟨(hs _ r.st.1).1, by rw [show (pgrowY Y h.l.length x fb).bt = Y.bt from rfl, (hs _ r.st.1).2]; exact r.st.2⟩, fun j hj ha => ?_, fun k h0 h4 => (r.tabSame k h0 h4 (fun b hb q => hw b hb (by rcases q with q | q | q <;> rw [q] <;> simp) (by rcases q with q | q | q <;> rw [q] <;> simp))).sub hs⟩
  · rcases hb with hb | rfl | rfl
    · exact Nat.lt_of_lt_of_le (r.lt b hb) hz
    · exact hxl
    · exact hfl
  · rw [hl]
    exact (d2.congr (al' := alive (h.grown ks nm)) (ob' := Y.ob) (fun j hj => hal j (by omega)) (fun _ _ _ => rfl)).put x haN
  · rw [hl] at hj
    by_cases e : j = h.l.length
    · subst e
      rw [Tm.at_grown, if_pos rfl]
      have e1 : (pgrowY Y h.l.length x fb).ob h.l.length = x := by simp [pgrowY]
      have e2 : (pgrowY Y h.l.length x fb).fb h.l.length = fb := by simp [pgrowY]
      rw [e1, e2]
      obtain ⟨p, c, n1, n2⟩ := n.head
      refine ⟨Or.inr (Or.inl rfl), by simp [pgrowT], ⟨p, c, n1, fun h0 => ⟨n2 h0, Or.inr (Or.inr rfl), by unfold pgrowT; rw [if_neg (show ¬ fb = x from fun e => hxf h0 e.symm), if_pos rfl]⟩⟩, fun q hq => (n.kind q hq).1, fun q hq => ?_, n.pins, n.named, n.name⟩
      rw [(n.kind q hq).2]
      simp only [List.getD_eq_getElem?_getD, List.getElem?_replicate]
      split <;> rfl
    · rw [hal j e] at ha
      have o' := (r.objSame (w' := w') (fun b hb q => hw b hb (by omega) (by omega)) j (by omega) ha).sub hs
      rw [Tm.at_grown, if_neg e]
      have e1 : (pgrowY Y h.l.length x fb).ob j = Y.ob j := by simp [pgrowY, e]
      have e2 : (pgrowY Y h.l.length x fb).fb j = Y.fb j := by simp [pgrowY, e]
      rw [e1, e2]
      exact o'

/-- One frame more. -/
theorem PRep.push (r : PRep S tag w a Y h) (h' : H) (f : Int) (hh : h' = { h with frames := f }) (hg : Tm.Good h') : PRep S tag (w.setCell ⟨Y.bt, 5, none⟩ (.int .i64 f)) a Y h' := by
  subst hh
  have hn : ∀ b, tag b ≠ (3, 0) → (w.setCell ⟨Y.bt, 5, none⟩ (.int .i64 f)).heap[b]? = w.heap[b]? := fun b hb =>
    Below.heap_setCell _ _ _ _ (fun e => hb (by rw [show b = Y.bt from e]; exact r.st.2))
  have hc : ∀ i, i ≠ 5 → (w.setCell ⟨Y.bt, 5, none⟩ (.int .i64 f)).cell? ⟨Y.bt, i, none⟩ = w.cell? ⟨Y.bt, i, none⟩ := fun i hi => World.cell?_setCell_other _ _ _ _ (fun e => by have := congrArg Addr.off e; simp at this; omega)
  have h3 : ∀ b, (tag b).1 ≠ 3 → (w.setCell ⟨Y.bt, 5, none⟩ (.int .i64 f)).heap[b]? = w.heap[b]? := fun b h1 => hn b (fun e => h1 (by rw [e]))
  refine ⟨hg, fun b hb => by rw [World.size_setCell]; exact r.lt b hb, fun b i hb => by rw [World.frozen?_setCell]; exact r.soft b i hb, r.base.same (fun b hb q => h3 b (by omega)), (r.sto.same (fun b hb q => h3 b (by omega))).congr rfl rfl (fun _ _ => rfl) rfl, r.st, r.objSame (fun b hb q => h3 b (by omega)), fun k h0 h4 => ?_⟩
  have t := r.tab k h0 h4
  have no := h3 (Y.to k) (by rw [t.tago]; simp)
  have ng := h3 (Y.tg k) (by rw [t.tagg]; simp)
  obtain ⟨c, c1, c2⟩ := t.ho
  refine ⟨t.so, t.sg, ⟨c, by rw [hc _ (by omega)]; exact c1, c2⟩, by rw [hc _ (by omega)]; exact t.hg, ?_, t.tago, t.tagg, fun i hi => by rw [cell_of no]; exact t.ob i hi, fun i hi => by rw [cell_of no]; exact t.fr i hi, fun i hi => by rw [cell_of ng]; exact t.gen i hi⟩
  by_cases e : k = 1
  · subst e
    rw [World.cell?_setCell_same _ _ _ t.hf]
    rfl
  · rw [hc _ (by omega)]
    have := t.hf
    unfold tabFr at this ⊢
    rw [if_neg e] at this ⊢
    exact this

/-- The names were told. -/
theorem PRep.told (r : PRep S tag w a Y h) (hz : w.heap.size ≤ w'.heap.size) (hw : ∀ b, S b → (tag b).1 ≠ 1 → (tag b).1 ≠ 11 → w'.heap[b]? = w.heap[b]?) (hf : ∀ b i, S b → w'.frozen? ⟨b, i, none⟩ = false)
    (s0 : w'.cell? ⟨Y.bs, 0, none⟩ = w.cell? ⟨Y.bs, 0, none⟩) (s1 : w'.cell? ⟨Y.bs, 1, none⟩ = w.cell? ⟨Y.bs, 1, none⟩) (s2 : w'.cell? ⟨Y.bs, 2, none⟩ = w.cell? ⟨Y.bs, 2, none⟩) (s3 : w'.cell? ⟨Y.bs, 3, none⟩ = some (.slice none 0 0)) : PRep S tag w' a Y h.told := by
  obtain ⟨D, d1, d2⟩ := r.objs
  refine ⟨r.good.tld, fun b hb => Nat.lt_of_lt_of_le (r.lt b hb) hz, hf, r.base.same (fun b hb q => hw b hb (by omega) (by omega)), ⟨r.ss, r.sm, s0.trans r.limit, s1.trans r.made, s2.trans r.map, ⟨D, ownsMap_block d1 (hw _ r.sm.1 (by rw [r.sm.2]; simp) (by rw [r.sm.2]; simp)), d2⟩, ⟨_, [], s3, ⟨rfl, Or.inl ⟨rfl, rfl⟩⟩, fun g hg => (by cases hg), rfl, List.nodup_nil, fun m hm => (by cases hm), fun m hm => (by cases hm)⟩⟩, r.st, r.objSame (fun b hb q => hw b hb (by omega) (by omega)), fun k h0 h4 => r.tabSame k h0 h4 (fun b hb q => hw b hb (by rcases q with q | q | q <;> rw [q] <;> simp) (by rcases q with q | q | q <;> rw [q] <;> simp))⟩

/-- The last frame has ended: the local slots lie at x, which is new. -/
theorem PRep.popF (r : PRep S tag w a Y h) (x c : Nat) (hx : ¬ S x) (hxl : x < w'.heap.size) (hg : Tm.Good h.popF) (hz : w.heap.size ≤ w'.heap.size) (hw : ∀ b, S b → b ≠ Y.bt → w'.heap[b]? = w.heap[b]?) (hf : ∀ b i, S b ∨ b = x → w'.frozen? ⟨b, i, none⟩ = false)
    (c3 : w'.cell? ⟨Y.bt, 3, none⟩ = some (.slice (some ⟨x, 0, none⟩) (h.t 1).length c)) (hc : (h.t 1).length ≤ c) (c5 : w'.cell? ⟨Y.bt, 5, none⟩ = some (.int .i64 (h.frames - 1))) (cs : ∀ i, i ≠ 3 → i ≠ 5 → w'.cell? ⟨Y.bt, i, none⟩ = w.cell? ⟨Y.bt, i, none⟩)
    (ho : ∀ i, i < (h.t 1).length → w'.cell? ⟨x, i * 2, none⟩ = some (.int .i64 (Tm.popSl h.frames (h.sl 1 i)).ob)) (hfr : ∀ i, i < (h.t 1).length → w'.cell? ⟨x, i * 2 + 1, none⟩ = some (.int .i64 (frOf 1 (Tm.popSl h.frames (h.sl 1 i))))) :
    PRep (fun b => S b ∨ b = x) (fun b => if b = x then (4, 1) else tag b) w' a { Y with to := fun k => if k = 1 then x else Y.to k } h.popF := by
  have hs : ∀ b, S b → (S b ∨ b = x) ∧ (if b = x then (4, 1) else tag b) = tag b := fun b hb => ⟨Or.inl hb, if_neg (fun e : b = x => hx (e ▸ hb))⟩
  have h3 : ∀ b, S b → (tag b).1 ≠ 3 → w'.heap[b]? = w.heap[b]? := fun b hb h1 => hw b hb (fun e => h1 (by rw [e, r.st.2]))
  refine ⟨hg, fun b hb => ?_, hf, (r.base.same (fun b hb q => h3 b hb (by omega))).sub hs, ((r.sto.same (fun b hb q => h3 b hb (by omega))).sub hs).congr rfl rfl (fun _ _ => rfl) rfl, ⟨(hs _ r.st.1).1, by show (if Y.bt = x then (4, 1) else tag Y.bt) = _; rw [(hs _ r.st.1).2]; exact r.st.2⟩, fun j hj ha => (r.objSame (fun b hb q => h3 b hb (by omega)) j hj ha).sub hs, fun k h0 h4 => ?_⟩
  · rcases hb with hb | rfl
    · exact Nat.lt_of_lt_of_le (r.lt b hb) hz
    · exact hxl
  have t := r.tab k h0 h4
  have ng := h3 (Y.tg k) t.sg (by rw [t.tagg]; simp)
  by_cases e : k = 1
  · subst e
    have hlen : (h.popF.t 1).length = (h.t 1).length := Tm.len_popped h 1
    have hsl : ∀ i, i < (h.t 1).length → (h.popF.t 1).getD i Tm.sl0 = Tm.popSl h.frames (h.sl 1 i) := fun i hi => by
      have := Tm.sl_popped h 1 i hi
      rw [if_pos rfl] at this; exact this
    have hgs : ∀ s : Sl, (Tm.popSl h.frames s).gen = s.gen := fun s => by unfold Tm.popSl; split <;> rfl
    refine ⟨Or.inr (by simp), (hs _ t.sg).1, ⟨c, by rw [hlen]; simpa using c3, by rw [hlen]; exact hc⟩, by rw [hlen, cs _ (by omega) (by omega)]; exact t.hg, c5, by simp, by show (if Y.tg 1 = x then (4, 1) else tag (Y.tg 1)) = _; rw [(hs _ t.sg).2]; exact t.tagg, fun i hi => ?_, fun i hi => ?_, fun i hi => ?_⟩
    · rw [hlen] at hi; rw [hsl i hi]; simpa using ho i hi
    · rw [hlen] at hi; rw [hsl i hi]; simpa using hfr i hi
    · rw [hlen] at hi; rw [hsl i hi, hgs, cell_of ng]; exact t.gen i hi
  · have e1 : h.popF.t k = h.t k := by simp [H.popF, H.popped, e]
    have no := h3 (Y.to k) t.so (by rw [t.tago]; simp)
    obtain ⟨c', c1, c2⟩ := t.ho
    rw [e1]
    have e2 : ({ Y with to := fun k => if k = 1 then x else Y.to k } : PLay).to k = Y.to k := if_neg e
    rw [e2]
    refine TAt.sub (S := S) (tag := tag) ⟨t.so, t.sg, ⟨c', by rw [cs _ (by omega) (by omega)]; exact c1, c2⟩, by rw [cs _ (by omega) (by omega)]; exact t.hg, ?_, t.tago, t.tagg, fun i hi => by rw [cell_of no]; exact t.ob i hi, fun i hi => by rw [cell_of no]; exact t.fr i hi, fun i hi => by rw [cell_of ng]; exact t.gen i hi⟩ hs
    rw [cs _ (by omega) (by omega)]
    have := t.hf
    unfold tabFr at this ⊢
    rw [if_neg e] at this ⊢
    exact this
end
end Go.Proofs.YtcnmfljpmpgnjaaGreatDoor

namespace Go.Proofs.YtcnmfljpmpgnjaaGreatDoor
open Go.RowKit
open Tm (H Ob Sl Why)

theorem comp27 : (Tryz.prog.info? 261).map (·.comparable) = some true := by kernel_rfl

theorem size45 : (Tryz.prog.info? 281).map (fun j => decide (j.size ≠ 0)) = some true := by kernel_rfl

theorem eql_same (w : World) (a : Addr) : (binOp .eql 37 (.iface 261 (.pointer (some a))) (.iface 261 (.pointer (some a)))).run Tryz.prog w = .ok (.bool true) w := by
  obtain ⟨i, hi, hic⟩ := Option.map_eq_some_iff.1 comp27
  obtain ⟨j, hj, _⟩ := Option.map_eq_some_iff.1 size45
  exact run_eql_iface_ptr_same w a Tryz.underlying37 Tryz.underlying261 hi hic hj

theorem eql_other {w : World} {a b : Addr} {ca cb : Array Value} {ta tb : TypeId} (hne : a ≠ b) (ha : w.heap[a.block]? = some (.cells ca ta (0, 0))) (hb : w.heap[b.block]? = some (.cells cb tb (0, 0))) :
    (binOp .eql 37 (.iface 261 (.pointer (some a))) (.iface 261 (.pointer (some b)))).run Tryz.prog w = .ok (.bool false) w := by
  obtain ⟨i, hi, hic⟩ := Option.map_eq_some_iff.1 comp27
  obtain ⟨j, hj, hjs⟩ := Option.map_eq_some_iff.1 size45
  exact run_eql_iface_ptr_other w Tryz.underlying37 Tryz.underlying261 hi hic hj (of_decide_eq_true hjs) hne ha hb

/-- 'x.(*T)', x of that very type. -/
theorem run_typeAssert_ptr {P : Program} (w : World) (t xT e : TypeId) (v : Value) (h : P.underlying t = some (.pointer e)) : (Instr.typeAssert (.iface t v) xT t true).run P w = .ok (.tuple #[v, .bool true]) w := by
  simp [Instr.typeAssert, run_underlying h, go_sem, Result.andThen]

/-- The value of the reason with this number (from 1). -/
def errV (A : Nat → Addr) (n : Nat) : Value := .iface 261 (.pointer (some (A (n - 1))))

/-- The errors of package api lie where they lay. -/
structure Errs (N : Nat) (A : Nat → Addr) (w : World) : Prop where
  g0 : w.cell? ⟨8, 0, none⟩ = some (.iface 261 (.pointer (some (A 0))))
  g1 : w.cell? ⟨6, 0, none⟩ = some (.iface 261 (.pointer (some (A 1))))
  g2 : w.cell? ⟨7, 0, none⟩ = some (.iface 261 (.pointer (some (A 2))))
  g3 : w.cell? ⟨4, 0, none⟩ = some (.iface 261 (.pointer (some (A 3))))
  g4 : w.cell? ⟨2, 0, none⟩ = some (.iface 261 (.pointer (some (A 4))))
  g5 : w.cell? ⟨9, 0, none⟩ = some (.iface 261 (.pointer (some (A 5))))
  g6 : w.cell? ⟨0, 0, none⟩ = some (.iface 261 (.pointer (some (A 6))))
  g7 : w.cell? ⟨1, 0, none⟩ = some (.iface 261 (.pointer (some (A 7))))
  g8 : w.cell? ⟨5, 0, none⟩ = some (.iface 261 (.pointer (some (A 8))))
  g9 : w.cell? ⟨3, 0, none⟩ = some (.iface 261 (.pointer (some (A 9))))
  lt : 11 ≤ N
  le : N ≤ w.heap.size
  blk : ∀ i, i < 10 → (A i).block < N ∧ ∃ (c : Array Value) (t : TypeId), w.heap[(A i).block]? = some (.cells c t (0, 0))
  ne : ∀ i j, i < 10 → j < 10 → i ≠ j → A i ≠ A j
  gt : w.cell? ⟨10, 0, none⟩ = some (.iface 216 (.agg #[.pointer (some ⟨11, 37, none⟩)]))

theorem Errs.below {N B : Nat} {A : Nat → Addr} {w w' : World} (h : Errs N A w) (hb : Below B w w') (hB : N ≤ B) : Errs N A w' := by
  have hl := h.lt
  have e : ∀ g, g < 11 → w'.cell? ⟨g, 0, none⟩ = w.cell? ⟨g, 0, none⟩ := fun g hg => hb.cell (by show g < B; omega)
  exact ⟨by rw [e _ (by omega)]; exact h.g0, by rw [e _ (by omega)]; exact h.g1, by rw [e _ (by omega)]; exact h.g2, by rw [e _ (by omega)]; exact h.g3, by rw [e _ (by omega)]; exact h.g4, by rw [e _ (by omega)]; exact h.g5, by rw [e _ (by omega)]; exact h.g6, by rw [e _ (by omega)]; exact h.g7, by rw [e _ (by omega)]; exact h.g8, by rw [e _ (by omega)]; exact h.g9, h.lt, Nat.le_trans h.le hb.size, fun i hi => ⟨(h.blk i hi).1, by obtain ⟨_, c, t, q⟩ := h.blk i hi; exact ⟨c, t, by rw [hb.block _ (by have := (h.blk i hi).1; omega)]; exact q⟩⟩, h.ne, by rw [e _ (by omega)]; exact h.gt⟩

/-- An error that a call of the program answers: the reason and the handle. -/
def ErrIs (A : Nat → Addr) (w : World) (v : Value) (y : Why) : Prop :=
  (y.reason = 0 ∧ v = .nilIface) ∨ ∃ (n fb : Nat), 0 < n ∧ n ≤ 10 ∧ y.reason = (n : Int) ∧ v = .iface 101 (.pointer (some ⟨fb, 0, none⟩)) ∧ fb < w.heap.size ∧ w.cell? ⟨fb, 0, none⟩ = some (.int .i64 y.handle) ∧ w.cell? ⟨fb, 1, none⟩ = some (errV A n)

theorem ErrIs.below {A : Nat → Addr} {w w' : World} {v : Value} {y : Why} (h : ErrIs A w v y) (hb : Below w.heap.size w w') : ErrIs A w' v y := by
  rcases h with h | ⟨n, fb, h1, h2, h3, h4, h5, h6, h7⟩
  · exact Or.inl h
  · exact Or.inr ⟨n, fb, h1, h2, h3, h4, by have := hb.size; omega, by rw [hb.cell h5]; exact h6, by rw [hb.cell h5]; exact h7⟩
end Go.Proofs.YtcnmfljpmpgnjaaGreatDoor
