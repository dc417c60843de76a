import Derived.Test.YtcnmfljpmpgnjaaGreatDoorJ00
import Derived.Test.YtcnmfljpmpgnjaaGreatDoorJ02
import Derived.Laws.AppendOwn
namespace Go.Proofs.YtcnmfljpmpgnjaaGreatDoor
open Go.RowKit Go.Maps
open Tm (H Ob Sl Why)

/-- An object of the program's in memory. -/
structure OAt (S : Nat → Prop) (tag : Nat → Nat × Nat) (w : World) (b j fb : Nat) (o : Ob) : Prop where
  s : S b
  t : tag b = (6, j)
  head : ∃ p c, w.cell? ⟨b, 0, none⟩ = some (.slice p o.kinds.length c) ∧ (0 < o.kinds.length → p = some ⟨fb, 0, none⟩ ∧ S fb ∧ tag fb = (7, j))
  kind : ∀ q, q < o.kinds.length → w.cell? ⟨fb, q * 2, none⟩ = some (.int .i64 (o.kinds.getD q 0))
  val : ∀ q, q < o.kinds.length → w.cell? ⟨fb, q * 2 + 1, none⟩ = some (.int .i64 (o.vals.getD q 0))
  pins : w.cell? ⟨b, 1, none⟩ = some (.int .i64 o.pins)
  named : w.cell? ⟨b, 2, none⟩ = some (.bool (decide (0 ≤ o.name)))
  name : 0 ≤ o.name → w.cell? ⟨b, 3, none⟩ = some (.int .i64 o.name)

theorem OAt.same {S : Nat → Prop} {tag : Nat → Nat × Nat} {w w' : World} {b j fb : Nat} {o : Ob} (h : OAt S tag w b j fb o) (hb : w'.heap[b]? = w.heap[b]?) (hf : 0 < o.kinds.length → w'.heap[fb]? = w.heap[fb]?) : OAt S tag w' b j fb o := by
  obtain ⟨p, c, h1, h2⟩ := h.head
  exact ⟨h.s, h.t, ⟨p, c, by rw [cell_of hb]; exact h1, h2⟩, fun q hq => by rw [cell_of (hf (by omega))]; exact h.kind q hq, fun q hq => by rw [cell_of (hf (by omega))]; exact h.val q hq, by rw [cell_of hb]; exact h.pins, by rw [cell_of hb]; exact h.named, fun h0 => by rw [cell_of hb]; exact h.name h0⟩

theorem OAt.sub {S S' : Nat → Prop} {tag tag' : Nat → Nat × Nat} {w : World} {b j fb : Nat} {o : Ob} (h : OAt S tag w b j fb o) (hs : ∀ b, S b → S' b ∧ tag' b = tag b) : OAt S' tag' w b j fb o := by
  obtain ⟨p, c, h1, h2⟩ := h.head
  exact ⟨(hs _ h.s).1, by rw [(hs _ h.s).2]; exact h.t, ⟨p, c, h1, fun h0 => ⟨(h2 h0).1, (hs _ (h2 h0).2.1).1, by rw [(hs _ (h2 h0).2.1).2]; exact (h2 h0).2.2⟩⟩, h.kind, h.val, h.pins, h.named, h.name⟩

/-- The frame that a slot tells. -/
def frOf (k : Nat) (s : Sl) : Int := if s.ob = 0 then 0 else if k = 1 then s.frame else 1
/-- The frames that a table tells. -/
def tabFr (k : Nat) (f : Int) : Int := if k = 1 then f else 1

/-- A table of the program's: its slots, and their generations, apart. -/
structure TAt (S : Nat → Prop) (tag : Nat → Nat × Nat) (w : World) (bt k to tg : Nat) (f : Int) (l : List Sl) : Prop where
  so : S to
  sg : S tg
  ho : ∃ c, w.cell? ⟨bt, k * 3, none⟩ = some (.slice (some ⟨to, 0, none⟩) l.length c) ∧ l.length ≤ c
  hg : w.cell? ⟨bt, k * 3 + 1, none⟩ = some (.slice (some ⟨tg, 0, none⟩) l.length l.length)
  hf : w.cell? ⟨bt, k * 3 + 2, none⟩ = some (.int .i64 (tabFr k f))
  tago : tag to = (4, k)
  tagg : tag tg = (5, k)
  ob : ∀ i, i < l.length → w.cell? ⟨to, i * 2, none⟩ = some (.int .i64 (l.getD i Tm.sl0).ob)
  fr : ∀ i, i < l.length → w.cell? ⟨to, i * 2 + 1, none⟩ = some (.int .i64 (frOf k (l.getD i Tm.sl0)))
  gen : ∀ i, i < l.length → w.cell? ⟨tg, i, none⟩ = some (.int .i64 (l.getD i Tm.sl0).gen)

theorem TAt.same {S : Nat → Prop} {tag : Nat → Nat × Nat} {w w' : World} {bt k to tg : Nat} {f : Int} {l : List Sl} (h : TAt S tag w bt k to tg f l) (h1 : w'.heap[bt]? = w.heap[bt]?) (h2 : w'.heap[to]? = w.heap[to]?) (h3 : w'.heap[tg]? = w.heap[tg]?) : TAt S tag w' bt k to tg f l := by
  obtain ⟨c, c1, c2⟩ := h.ho
  exact ⟨h.so, h.sg, ⟨c, by rw [cell_of h1]; exact c1, c2⟩, by rw [cell_of h1]; exact h.hg, by rw [cell_of h1]; exact h.hf, h.tago, h.tagg, fun i hi => by rw [cell_of h2]; exact h.ob i hi, fun i hi => by rw [cell_of h2]; exact h.fr i hi, fun i hi => by rw [cell_of h3]; exact h.gen i hi⟩
theorem TAt.sub {S S' : Nat → Prop} {tag tag' : Nat → Nat × Nat} {w : World} {bt k to tg : Nat} {f : Int} {l : List Sl} (h : TAt S tag w bt k to tg f l) (hs : ∀ b, S b → S' b ∧ tag' b = tag b) : TAt S' tag' w bt k to tg f l :=
  ⟨(hs _ h.so).1, (hs _ h.sg).1, h.ho, h.hg, h.hf, by rw [(hs _ h.so).2]; exact h.tago, by rw [(hs _ h.sg).2]; exact h.tagg, h.ob, h.fr, h.gen⟩

/-- The channels that wait, in a list that is owned. -/
def EAt (S : Nat → Prop) (tag : Nat → Nat × Nat) (w : World) (bs : Nat) (l : List Int) : Prop :=
  ∃ (v : Value) (M : List (Nat × List Int)), w.cell? ⟨bs, 3, none⟩ = some v ∧ w.ownsRow 0 130 1 v M.length (M.map fun m => Value.chan (some m.1)) ∧ (∀ g, v.ownBlock = some g → S g ∧ tag g = (10, 0)) ∧ M.flatMap Prod.snd = l ∧ (M.map Prod.fst).Nodup ∧ (∀ m ∈ M, m.2 ≠ []) ∧ ∀ m ∈ M, S m.1 ∧ (tag m.1).1 = 11 ∧ ∃ cap s r tm, w.heap[m.1]? = some (.chan cap (m.2.map (Value.int .i64)).toArray true s r tm)

theorem ownsRow_block {w w' : World} {B n : Nat} {e : TypeId} {z : Nat} {v : Value} {xs : List Value} (h : w.ownsRow B e z v n xs) (hb : ∀ g, v.ownBlock = some g → w'.heap[g]? = w.heap[g]?) : w'.ownsRow B e z v n xs := by
  refine ⟨h.1, h.2.imp id fun ⟨g, c, cur, q1, q2, q3, q4⟩ => ⟨g, c, cur, q1, q2, ?_, q4⟩⟩
  rw [hb g (by rw [q1]; rfl)]; exact q3

theorem EAt.same {S : Nat → Prop} {tag : Nat → Nat × Nat} {w w' : World} {bs : Nat} {l : List Int} (h : EAt S tag w bs l) (hc : w'.cell? ⟨bs, 3, none⟩ = w.cell? ⟨bs, 3, none⟩) (hn : ∀ b, S b → (tag b).1 = 10 ∨ (tag b).1 = 11 → w'.heap[b]? = w.heap[b]?) : EAt S tag w' bs l := by
  obtain ⟨v, M, h1, h2, h3, h4, h5, h6, h7⟩ := h
  refine ⟨v, M, hc.trans h1, ownsRow_block h2 (fun g hg => hn g (h3 g hg).1 (Or.inl (by rw [(h3 g hg).2]))), h3, h4, h5, h6, fun m hm => ?_⟩
  obtain ⟨q1, q2, cap, s, r, tm, q3⟩ := h7 m hm
  exact ⟨q1, q2, cap, s, r, tm, (hn _ q1 (Or.inr q2)).trans q3⟩
theorem EAt.sub {S S' : Nat → Prop} {tag tag' : Nat → Nat × Nat} {w : World} {bs : Nat} {l : List Int} (h : EAt S tag w bs l) (hs : ∀ b, S b → S' b ∧ tag' b = tag b) : EAt S' tag' w bs l := by
  obtain ⟨v, M, h1, h2, h3, h4, h5, h6, h7⟩ := h
  refine ⟨v, M, h1, h2, fun g hg => ⟨(hs _ (h3 g hg).1).1, by rw [(hs _ (h3 g hg).1).2]; exact (h3 g hg).2⟩, h4, h5, h6, fun m hm => ?_⟩
  obtain ⟨q1, q2, q3⟩ := h7 m hm
  exact ⟨(hs _ q1).1, by rw [(hs _ q1).2]; exact q2, q3⟩

/-- Where a heap of the program's lies. -/
structure PLay where
  bs : Nat
  bm : Nat
  bt : Nat
  to : Nat → Nat
  tg : Nat → Nat
  ob : Nat → Nat
  fb : Nat → Nat
  bc : Nat
  cb : Nat → Nat

/-- The heap's own struct, and its classes: they never turn. -/
structure BaseAt (S : Nat → Prop) (tag : Nat → Nat × Nat) (w : World) (a bs bt bc : Nat) (cb : Nat → Nat) (cl : List (List Int)) : Prop where
  sa : S a ∧ tag a = (0, 0)
  store : w.cell? ⟨a, 1, none⟩ = some (.pointer (some ⟨bs, 0, none⟩))
  tables : w.cell? ⟨a, 2, none⟩ = some (.pointer (some ⟨bt, 0, none⟩))
  classes : ∃ p c, w.cell? ⟨a, 0, none⟩ = some (.slice p cl.length c) ∧ (0 < cl.length → p = some ⟨bc, 0, none⟩ ∧ S bc ∧ tag bc = (8, 0))
  clas : ∀ i, i < cl.length → ((tag (cb i)).1 = 9 ∨ cl.getD i [] = []) ∧ ∃ v, w.cell? ⟨bc, i, none⟩ = some v ∧ IntsV S w v (cb i) (cl.getD i [])

theorem BaseAt.same {S : Nat → Prop} {tag : Nat → Nat × Nat} {w w' : World} {a bs bt bc : Nat} {cb : Nat → Nat} {cl : List (List Int)} (h : BaseAt S tag w a bs bt bc cb cl) (hn : ∀ b, S b → (tag b).1 = 0 ∨ (tag b).1 = 8 ∨ (tag b).1 = 9 → w'.heap[b]? = w.heap[b]?) : BaseAt S tag w' a bs bt bc cb cl := by
  have na := hn a h.sa.1 (Or.inl (by rw [h.sa.2]))
  obtain ⟨p, c, c1, c2⟩ := h.classes
  refine ⟨h.sa, by rw [cell_of na]; exact h.store, by rw [cell_of na]; exact h.tables, ⟨p, c, by rw [cell_of na]; exact c1, c2⟩, fun i hi => ?_⟩
  obtain ⟨h1, v, h3, h4⟩ := h.clas i hi
  have c2 := c2 (by omega)
  refine ⟨h1, v, by rw [cell_of (hn bc c2.2.1 (Or.inr (Or.inl (by rw [c2.2.2]))))]; exact h3, h4.at (fun hl => ?_)⟩
  obtain ⟨p', c', q1, q2, q3⟩ := h4
  exact hn _ (q2 hl).2 (Or.inr (Or.inr (h1.resolve_right (fun e => by rw [e] at hl; simp at hl))))
theorem BaseAt.sub {S S' : Nat → Prop} {tag tag' : Nat → Nat × Nat} {w : World} {a bs bt bc : Nat} {cb : Nat → Nat} {cl : List (List Int)} (h : BaseAt S tag w a bs bt bc cb cl) (hs : ∀ b, S b → S' b ∧ tag' b = tag b) : BaseAt S' tag' w a bs bt bc cb cl := by
  obtain ⟨p, c, c1, c2⟩ := h.classes
  refine ⟨⟨(hs _ h.sa.1).1, by rw [(hs _ h.sa.1).2]; exact h.sa.2⟩, h.store, h.tables, ⟨p, c, c1, fun h0 => ⟨(c2 h0).1, (hs _ (c2 h0).2.1).1, by rw [(hs _ (c2 h0).2.1).2]; exact (c2 h0).2.2⟩⟩, fun i hi => ?_⟩
  obtain ⟨h1, v, h3, h4⟩ := h.clas i hi
  refine ⟨?_, v, h3, h4.sub (fun b hb => (hs b hb).1)⟩
  rcases h1 with h1 | h1
  · rcases Nat.eq_zero_or_pos (cl.getD i []).length with e | e
    · exact Or.inr (List.length_eq_zero_iff.1 e)
    · obtain ⟨p', c', q1, q2, q3⟩ := h4
      exact Or.inl (by rw [(hs _ (q2 e).2).2]; exact h1)
  · exact Or.inr h1

/-- The store. -/
structure StoreAt (S : Nat → Prop) (tag : Nat → Nat × Nat) (w : World) (bs bm : Nat) (ob : Nat → Nat) (h : H) : Prop where
  ss : S bs ∧ tag bs = (1, 0)
  sm : S bm ∧ tag bm = (2, 0)
  limit : w.cell? ⟨bs, 0, none⟩ = some (.int .i64 h.room)
  made : w.cell? ⟨bs, 1, none⟩ = some (.int .i64 (h.l.length : Int))
  map : w.cell? ⟨bs, 2, none⟩ = some (.map (some bm))
  objs : ∃ D, w.ownsMap Tryz.prog 3 ptrElem bm h.l.length D ∧ ObjsD D h.l.length (alive h) ob
  ended : EAt S tag w bs h.ended

theorem StoreAt.same {S : Nat → Prop} {tag : Nat → Nat × Nat} {w w' : World} {bs bm : Nat} {ob : Nat → Nat} {h : H} (t : StoreAt S tag w bs bm ob h) (hn : ∀ b, S b → (tag b).1 = 1 ∨ (tag b).1 = 2 ∨ (tag b).1 = 10 ∨ (tag b).1 = 11 → w'.heap[b]? = w.heap[b]?) : StoreAt S tag w' bs bm ob h := by
  have ns := hn bs t.ss.1 (Or.inl (by rw [t.ss.2]))
  have nm := hn bm t.sm.1 (Or.inr (Or.inl (by rw [t.sm.2])))
  obtain ⟨D, d1, d2⟩ := t.objs
  exact ⟨t.ss, t.sm, by rw [cell_of ns]; exact t.limit, by rw [cell_of ns]; exact t.made, by rw [cell_of ns]; exact t.map, ⟨D, ownsMap_block d1 nm, d2⟩, t.ended.same (cell_of ns) (fun b hb q => hn b hb (by rcases q with q | q; exact Or.inr (Or.inr (Or.inl q)); exact Or.inr (Or.inr (Or.inr q))))⟩
theorem StoreAt.sub {S S' : Nat → Prop} {tag tag' : Nat → Nat × Nat} {w : World} {bs bm : Nat} {ob : Nat → Nat} {h : H} (t : StoreAt S tag w bs bm ob h) (hs : ∀ b, S b → S' b ∧ tag' b = tag b) : StoreAt S' tag' w bs bm ob h :=
  ⟨⟨(hs _ t.ss.1).1, by rw [(hs _ t.ss.1).2]; exact t.ss.2⟩, ⟨(hs _ t.sm.1).1, by rw [(hs _ t.sm.1).2]; exact t.sm.2⟩, t.limit, t.made, t.map, t.objs, t.ended.sub hs⟩
/-- .. only what it reads of the heap counts. -/
theorem StoreAt.congr {S : Nat → Prop} {tag : Nat → Nat × Nat} {w : World} {bs bm : Nat} {ob : Nat → Nat} {h h' : H} (t : StoreAt S tag w bs bm ob h) (e1 : h'.room = h.room) (e2 : h'.l.length = h.l.length) (e3 : ∀ j, j < h.l.length → alive h' j = alive h j) (e4 : h'.ended = h.ended) : StoreAt S tag w bs bm ob h' := by
  obtain ⟨D, d1, d2⟩ := t.objs
  exact ⟨t.ss, t.sm, by rw [e1]; exact t.limit, by rw [e2]; exact t.made, t.map, ⟨D, by rw [e2]; exact d1, by rw [e2]; exact d2.congr e3 (fun _ _ _ => rfl)⟩, by rw [e4]; exact t.ended⟩

structure PRep (S : Nat → Prop) (tag : Nat → Nat × Nat) (w : World) (a : Nat) (Y : PLay) (h : H) : Prop where
  good : Tm.Good h
  lt : ∀ b, S b → b < w.heap.size
  soft : ∀ b i, S b → w.frozen? ⟨b, i, none⟩ = false
  base : BaseAt S tag w a Y.bs Y.bt Y.bc Y.cb h.classes
  sto : StoreAt S tag w Y.bs Y.bm Y.ob h
  st : S Y.bt ∧ tag Y.bt = (3, 0)
  obj : ∀ j, j < h.l.length → alive h j = true → OAt S tag w (Y.ob j) j (Y.fb j) (h.l.getD j Tm.ob0)
  tab : ∀ k, 0 < k → k < 4 → TAt S tag w Y.bt k (Y.to k) (Y.tg k) h.frames (h.t k)

section
variable {S : Nat → Prop} {tag : Nat → Nat × Nat} {w w' : World} {a : Nat} {Y : PLay} {h : H}
theorem PRep.sa (r : PRep S tag w a Y h) : S a ∧ tag a = (0, 0) := r.base.sa
theorem PRep.ss (r : PRep S tag w a Y h) : S Y.bs ∧ tag Y.bs = (1, 0) := r.sto.ss
theorem PRep.sm (r : PRep S tag w a Y h) : S Y.bm ∧ tag Y.bm = (2, 0) := r.sto.sm
theorem PRep.store (r : PRep S tag w a Y h) : w.cell? ⟨a, 1, none⟩ = some (.pointer (some ⟨Y.bs, 0, none⟩)) := r.base.store
theorem PRep.tables (r : PRep S tag w a Y h) : w.cell? ⟨a, 2, none⟩ = some (.pointer (some ⟨Y.bt, 0, none⟩)) := r.base.tables
theorem PRep.limit (r : PRep S tag w a Y h) : w.cell? ⟨Y.bs, 0, none⟩ = some (.int .i64 h.room) := r.sto.limit
theorem PRep.made (r : PRep S tag w a Y h) : w.cell? ⟨Y.bs, 1, none⟩ = some (.int .i64 (h.l.length : Int)) := r.sto.made
theorem PRep.map (r : PRep S tag w a Y h) : w.cell? ⟨Y.bs, 2, none⟩ = some (.map (some Y.bm)) := r.sto.map
theorem PRep.objs (r : PRep S tag w a Y h) : ∃ D, w.ownsMap Tryz.prog 3 ptrElem Y.bm h.l.length D ∧ ObjsD D h.l.length (alive h) Y.ob := r.sto.objs
theorem PRep.classes (r : PRep S tag w a Y h) : ∃ p c, w.cell? ⟨a, 0, none⟩ = some (.slice p h.classes.length c) ∧ (0 < h.classes.length → p = some ⟨Y.bc, 0, none⟩ ∧ S Y.bc ∧ tag Y.bc = (8, 0)) := r.base.classes
theorem PRep.clas (r : PRep S tag w a Y h) : ∀ i, i < h.classes.length → ((tag (Y.cb i)).1 = 9 ∨ h.classes.getD i [] = []) ∧ ∃ v, w.cell? ⟨Y.bc, i, none⟩ = some v ∧ IntsV S w v (Y.cb i) (h.classes.getD i []) := r.base.clas

/-- Objects whose blocks are as they were. -/
theorem PRep.objSame (r : PRep S tag w a Y h) (hn : ∀ b, S b → (tag b).1 = 6 ∨ (tag b).1 = 7 → w'.heap[b]? = w.heap[b]?) (j : Nat) (hj : j < h.l.length) (ha : alive h j = true) : OAt S tag w' (Y.ob j) j (Y.fb j) (h.l.getD j Tm.ob0) := by
  have o := r.obj j hj ha
  obtain ⟨p, c, o1, o2⟩ := o.head
  exact o.same (hn _ o.s (Or.inl (by rw [o.t]))) (fun h0 => hn _ (o2 h0).2.1 (Or.inr (by rw [(o2 h0).2.2])))
theorem PRep.tabSame (r : PRep S tag w a Y h) (k : Nat) (h0 : 0 < k) (h4 : k < 4) (hn : ∀ b, S b → tag b = (3, 0) ∨ tag b = (4, k) ∨ tag b = (5, k) → w'.heap[b]? = w.heap[b]?) : TAt S tag w' Y.bt k (Y.to k) (Y.tg k) h.frames (h.t k) := by
  have t := r.tab k h0 h4
  exact t.same (hn _ r.st.1 (Or.inl r.st.2)) (hn _ t.so (Or.inr (Or.inl t.tago))) (hn _ t.sg (Or.inr (Or.inr t.tagg)))

theorem PRep.same (r : PRep S tag w a Y h) (hs : Same S w w') (hz : w.heap.size ≤ w'.heap.size) : PRep S tag w' a Y h :=
  ⟨r.good, fun b hb => Nat.lt_of_lt_of_le (r.lt b hb) hz, fun b i hb => by rw [hs.frozen hb]; exact r.soft b i hb, r.base.same (fun b hb _ => hs b hb), r.sto.same (fun b hb _ => hs b hb), r.st, r.objSame (fun b hb _ => hs b hb), fun k h0 h4 => r.tabSame k h0 h4 (fun b hb _ => hs b hb)⟩

theorem PRep.below (r : PRep S tag w a Y h) {B : Nat} (hb : Below B w w') (hB : w.heap.size ≤ B) : PRep S tag w' a Y h :=
  r.same (Same.below hb fun b h => Nat.lt_of_lt_of_le (r.lt b h) hB) hb.size
theorem PRep.alloc (r : PRep S tag w a Y h) (o : Obj) : PRep S tag (w.alloc o) a Y h :=
  r.below (Below.alloc0 w o) (Nat.le_refl _)
/-- More blocks may be its own. -/
theorem PRep.sub {S' : Nat → Prop} {tag' : Nat → Nat × Nat} (r : PRep S tag w a Y h) (hs : ∀ b, S b → S' b ∧ tag' b = tag b) (hl : ∀ b, S' b → b < w.heap.size) (hf : ∀ b i, S' b → w.frozen? ⟨b, i, none⟩ = false) : PRep S' tag' w a Y h :=
  ⟨r.good, hl, hf, r.base.sub hs, r.sto.sub hs, ⟨(hs _ r.st.1).1, by rw [(hs _ r.st.1).2]; exact r.st.2⟩, fun j hj ha => (r.obj j hj ha).sub hs, fun k h0 h4 => (r.tab k h0 h4).sub hs⟩
end
end Go.Proofs.YtcnmfljpmpgnjaaGreatDoor
