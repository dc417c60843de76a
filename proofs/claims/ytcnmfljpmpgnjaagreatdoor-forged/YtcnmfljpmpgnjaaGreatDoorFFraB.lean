import Derived.Test.YtcnmfljpmpgnjaaGreatDoorJ40
import Derived.Test.YtcnmfljpmpgnjaaGreatDoorFFraA
import Derived.Test.YtcnmfljpmpgnjaaGreatDoorJ27
import Derived.Deep.DeepCutAuto
import Derived.Deep.RegionHeld3
namespace Go.Proofs.YtcnmfljpmpgnjaaGreatDoor
open Go.RowKit
open Tm (H Ob Sl Why GD Gh)

/-- A list of a struct's, in memory: n elements, room for c, in block b; f: its cells. -/
structure RowG where
  p : Option Addr
  n : Nat
  c : Nat
  b : Nat
  f : Nat → Value
structure GRow (w : World) (e : TypeId) (sz : Nat) (r : RowG) : Prop where
  cap : r.n ≤ r.c
  capm : r.c ≤ maxLen
  at' : 0 < r.c → r.p = some ⟨r.b, 0, none⟩ ∧ ∃ cur : Array Value, w.heap[r.b]? = some (.cells cur e (0, 0)) ∧ cur.size = r.c * sz
  nil : r.c = 0 → r.p = none
  cell : ∀ i, i < r.n * sz → w.cell? ⟨r.b, i, none⟩ = some (r.f i)

/-- What an append of one element of sz cells leaves. -/
structure ApdZ (e : TypeId) (sz : Nat) (w w' : World) (bL cL bL' cL' n : Nat) (vs : List Value) : Prop where
  os : w'.os = w.os
  tape : w'.tape = w.tape
  output : w'.output = w.output
  size : w.heap.size ≤ w'.heap.size
  old : ∀ b, b < w.heap.size → b ≠ bL' → w'.heap[b]? = w.heap[b]?
  bl : (bL' = bL ∧ 0 < cL) ∨ w.heap.size ≤ bL'
  lt : bL' < w'.heap.size
  cap : n + 1 ≤ cL'
  capm : cL' ≤ maxLen
  block : ∃ cur : Array Value, w'.heap[bL']? = some (.cells cur e (0, 0)) ∧ cur.size = cL' * sz
  keep : ∀ i, i < n * sz → w'.cell? ⟨bL', i, none⟩ = w.cell? ⟨bL, i, none⟩
  news : ∀ i v, vs[i]? = some v → w'.cell? ⟨bL', n * sz + i, none⟩ = some v
theorem ApdN.z {e : TypeId} {w w' : World} {bL cL bL' cL' n : Nat} {v : Value} (h : ApdN e w w' bL cL bL' cL' n [v]) : ApdZ e 1 w w' bL cL bL' cL' n [v] :=
  ⟨h.os, h.tape, h.output, h.size, h.old, h.bl, h.lt, h.cap, h.capm, by obtain ⟨cur, h1, h2⟩ := h.block; exact ⟨cur, h1, by omega⟩, fun i hi => h.keep i (by omega), fun i v hv => by rw [Nat.mul_one]; exact h.news i v hv⟩
theorem Apd2.z {e : TypeId} {w w' : World} {bL cL bL' cL' n : Nat} {u v : Value} (h : Apd2 e w w' bL cL bL' cL' n u v) : ApdZ e 2 w w' bL cL bL' cL' n [u, v] :=
  ⟨h.os, h.tape, h.output, h.size, h.old, h.bl, h.lt, h.cap, h.capm, h.block, h.keep, fun i x hx => by
    match i, hx with
    | 0, hx => simp at hx; subst hx; exact h.last0
    | 1, hx => simp at hx; subst hx; exact h.last1⟩

def gty (k : Nat) : TypeId := if k = 3 then 88 else 3
def gsz (k : Nat) : Nat := if k = 3 then 2 else 1

/-- The struct of a graph, in memory. -/
structure GM (B : Nat) (w : World) (gb p n : Nat) (r : Nat → RowG) : Prop where
  lo : B ≤ gb
  lt : gb < w.heap.size
  soft : ∀ i, w.frozen? ⟨gb, i, none⟩ = false
  h : w.cell? ⟨gb, 0, none⟩ = some (.pointer (some ⟨p, 0, none⟩))
  num : w.cell? ⟨gb, 1, none⟩ = some (.int .i64 (n : Int))
  head : ∀ k, k < 4 → w.cell? ⟨gb, 2 + k, none⟩ = some (.slice (r k).p (r k).n (r k).c)
  row : ∀ k, k < 4 → GRow w (gty k) (gsz k) (r k)
  own : ∀ k, k < 4 → 0 < (r k).c → B ≤ (r k).b ∧ (r k).b < w.heap.size ∧ (r k).b ≠ gb
  apart : ∀ j k, j < 4 → k < 4 → j ≠ k → 0 < (r j).c → 0 < (r k).c → (r j).b ≠ (r k).b
def ownG (gb : Nat) (r : Nat → RowG) (b : Nat) : Prop := b = gb ∨ ∃ k, k < 4 ∧ 0 < (r k).c ∧ b = (r k).b

theorem GRow.at {w w' : World} {e : TypeId} {sz : Nat} {r : RowG} (g : GRow w e sz r) (h : 0 < r.c → w'.heap[r.b]? = w.heap[r.b]?) : GRow w' e sz r := by
  refine ⟨g.cap, g.capm, fun h0 => ⟨(g.at' h0).1, by rw [h h0]; exact (g.at' h0).2⟩, g.nil, fun i hi => ?_⟩
  rw [cell_of (h ?_)]
  · exact g.cell i hi
  · rcases Nat.eq_zero_or_pos r.c with q | q
    · have := g.cap
      have e : r.n = 0 := by omega
      rw [e, Nat.zero_mul] at hi
      omega
    · exact q
theorem GM.own_lt {B : Nat} {w : World} {gb p n : Nat} {r : Nat → RowG} (g : GM B w gb p n r) {b : Nat} (h : ownG gb r b) : B ≤ b ∧ b < w.heap.size := by
  rcases h with rfl | ⟨k, hk, h0, rfl⟩
  · exact ⟨g.lo, g.lt⟩
  · exact ⟨(g.own k hk h0).1, (g.own k hk h0).2.1⟩
theorem GM.kept {B : Nat} {w w' : World} {gb p n : Nat} {r : Nat → RowG} (g : GM B w gb p n r) (h : ∀ b, ownG gb r b → w'.heap[b]? = w.heap[b]?) (hz : w.heap.size ≤ w'.heap.size) : GM B w' gb p n r := by
  have hg := h gb (Or.inl rfl)
  refine ⟨g.lo, Nat.lt_of_lt_of_le g.lt hz, fun i => by rw [frozen_of hg]; exact g.soft i, by rw [cell_of hg]; exact g.h, by rw [cell_of hg]; exact g.num, fun k hk => by rw [cell_of hg]; exact g.head k hk, fun k hk => (g.row k hk).at (fun h0 => h _ (Or.inr ⟨k, hk, h0, rfl⟩)), fun k hk h0 => ?_, g.apart⟩
  have := g.own k hk h0
  exact ⟨this.1, by omega, this.2.2⟩

/-- An element more. -/
theorem GM.app {B : Nat} {w w1 w2 : World} {gb p n : Nat} {r : Nat → RowG} (g : GM B w gb p n r) (hB : B ≤ w.heap.size) (hb1 : Below w.heap.size w w1) (k : Nat) (hk : k < 4) {b' c' : Nat} {vs : List Value} (ap : ApdZ (gty k) (gsz k) w1 w2 (r k).b (r k).c b' c' (r k).n vs) (hvs : vs.length = gsz k) (hf : ∀ i v, vs[i]? = some v → (r k).f ((r k).n * gsz k + i) = v) :
    GM B (w2.setCell ⟨gb, 2 + k, none⟩ (.slice (some ⟨b', 0, none⟩) ((r k).n + 1) c')) gb p n (Tm.up r k ⟨some ⟨b', 0, none⟩, (r k).n + 1, c', b', (r k).f⟩) ∧
    (∀ b, b < w.heap.size → ¬ ownG gb r b → (w2.setCell ⟨gb, 2 + k, none⟩ (.slice (some ⟨b', 0, none⟩) ((r k).n + 1) c')).heap[b]? = w.heap[b]?) := by
  have hz1 := hb1.size
  have hz2 := ap.size
  have hgl := g.lt
  have hbl : b' ≠ gb := by
    rcases ap.bl with ⟨q1, q2⟩ | q
    · rw [q1]; exact (g.own k hk q2).2.2
    · omega
  have hold : ∀ b, b < w.heap.size → b ≠ b' → w2.heap[b]? = w.heap[b]? := fun b hb hn => by rw [ap.old b (by omega) hn]; exact hb1.block b hb
  have hgb2 : w2.heap[gb]? = w.heap[gb]? := hold gb hgl (fun e => hbl e.symm)
  have hset : ∀ b, b ≠ gb → (w2.setCell ⟨gb, 2 + k, none⟩ (.slice (some ⟨b', 0, none⟩) ((r k).n + 1) c')).heap[b]? = w2.heap[b]? := fun b hb => Below.heap_setCell _ _ _ _ hb
  have off : ∀ {x : Nat}, 2 + k ≠ x → (⟨gb, 2 + k, none⟩ : Addr) ≠ ⟨gb, x, none⟩ := fun h e => h (congrArg Addr.off e)
  have hro : ∀ j, j < 4 → j ≠ k → 0 < (r j).c → (r j).b ≠ b' := fun j hj hjk h0 e => by
    rcases ap.bl with ⟨q1, q2⟩ | q
    · exact g.apart j k hj hk hjk h0 q2 (e.trans q1)
    · have := (g.own j hj h0).2.1; omega
  refine ⟨⟨g.lo, by rw [World.size_setCell]; omega, fun i => by rw [World.frozen?_setCell, frozen_of hgb2]; exact g.soft i, ?_, ?_, fun j hj => ?_, fun j hj => ?_, fun j hj h0 => ?_, fun i j hi hj hij h0 h1 => ?_⟩, fun b hb hn => ?_⟩
  · rw [World.cell?_setCell_other _ _ _ _ (off (by omega)), cell_of hgb2]; exact g.h
  · rw [World.cell?_setCell_other _ _ _ _ (off (by omega)), cell_of hgb2]; exact g.num
  · by_cases e : j = k
    · subst e
      rw [Tm.up_at]
      exact World.cell?_setCell_same _ _ _ (by rw [cell_of hgb2]; exact g.head j hj)
    · rw [Tm.up_ne _ _ _ _ e, World.cell?_setCell_other _ _ _ _ (off (by omega)), cell_of hgb2]; exact g.head j hj
  · by_cases e : j = k
    · subst e
      rw [Tm.up_at]
      refine ⟨ap.cap, ap.capm, fun _ => ⟨rfl, by rw [hset _ hbl]; exact ap.block⟩, fun q => ?_, fun i hi => ?_⟩
      · have := ap.cap
        simp only at q
        omega
      · simp only at hi ⊢
        rw [cell_of (hset _ hbl)]
        rcases Nat.lt_or_ge i ((r j).n * gsz j) with q | q
        · rw [ap.keep i q, ← (g.row j hj).cell i q]
          have hc0 : 0 < (r j).c := by
            rcases Nat.eq_zero_or_pos (r j).c with e0 | e0
            · have := (g.row j hj).cap
              have e1 : (r j).n = 0 := by omega
              rw [e1, Nat.zero_mul] at q; omega
            · exact e0
          exact cell_of (hb1.block _ (g.own j hj hc0).2.1)
        · obtain ⟨i', rfl⟩ : ∃ i', i = (r j).n * gsz j + i' := ⟨i - (r j).n * gsz j, by omega⟩
          have hi' : i' < vs.length := by rw [hvs]; rw [Nat.succ_mul] at hi; omega
          have hv : vs[i']? = some vs[i'] := List.getElem?_eq_getElem hi'
          rw [ap.news i' _ hv, hf i' _ hv]
    · rw [Tm.up_ne _ _ _ _ e]
      refine (g.row j hj).at (fun h0 => ?_)
      have h1 := g.own j hj h0
      rw [hset _ h1.2.2]
      exact hold _ h1.2.1 (hro j hj e h0)
  · rw [World.size_setCell]
    by_cases e : j = k
    · subst e
      rw [Tm.up_at]
      simp only
      refine ⟨?_, ap.lt, hbl⟩
      rcases ap.bl with ⟨q1, q2⟩ | q
      · rw [q1]; exact (g.own j hj q2).1
      · omega
    · rw [Tm.up_ne _ _ _ _ e] at h0 ⊢
      have h1 := g.own j hj h0
      exact ⟨h1.1, by omega, h1.2.2⟩
  · by_cases e1 : i = k
    · subst e1
      have hji : j ≠ i := fun q => hij q.symm
      rw [Tm.up_ne _ _ _ _ hji] at h1
      rw [Tm.up_at, Tm.up_ne _ _ _ _ hji]
      exact fun q => hro j hj hji h1 q.symm
    · rw [Tm.up_ne _ _ _ _ e1] at h0 ⊢
      by_cases e2 : j = k
      · subst e2
        rw [Tm.up_at]
        exact hro i hi e1 h0
      · rw [Tm.up_ne _ _ _ _ e2] at h1 ⊢
        exact g.apart i j hi hj hij h0 h1
  · rw [hset b (fun e => hn (Or.inl e))]
    refine hold b hb (fun e => ?_)
    rcases ap.bl with ⟨q1, q2⟩ | q
    · exact hn (Or.inr ⟨k, hk, q2, e.trans q1⟩)
    · omega

theorem block_setCell {w : World} {b q : Nat} {cur : Array Value} {u : Value} {t : TypeId} (h : w.heap[b]? = some (.cells cur t (0, 0))) : (w.setCell ⟨b, q, none⟩ u).heap[b]? = some (.cells (cur.setIfInBounds q u) t (0, 0)) := by
  have hlt : b < w.heap.size := by
    rcases Nat.lt_or_ge b w.heap.size with h' | h'
    · exact h'
    · rw [Array.getElem?_eq_none h'] at h; cases h
  have h' : w.heap[b] = .cells cur t (0, 0) := by simpa [Array.getElem?_eq_getElem hlt] using h
  show (w.heap.modify b _)[b]? = _
  rw [Array.getElem?_eq_getElem (by simpa using hlt), Array.getElem_modify_self, h']
  rfl
/-- A reference is written. -/
theorem GM.ref {B : Nat} {w : World} {gb p n : Nat} {r : Nat → RowG} (g : GM B w gb p n r) (q : Nat) (hq : q < (r 3).n * 2) (v : Value) :
    GM B (w.setCell ⟨(r 3).b, q, none⟩ v) gb p n (Tm.up r 3 { r 3 with f := Tm.up (r 3).f q v }) ∧ w.frozen? ⟨(r 3).b, q, none⟩ = false := by
  have hc0 : 0 < (r 3).c := by have := (g.row 3 (by omega)).cap; omega
  obtain ⟨o1, o2, o3⟩ := g.own 3 (by omega) hc0
  obtain ⟨e1, cur, hcur, hsz⟩ := (g.row 3 (by omega)).at' hc0
  have hsz2 : cur.size = (r 3).c * 2 := hsz
  have hcap := (g.row 3 (by omega)).cap
  have hoth : ∀ b, b ≠ (r 3).b → (w.setCell ⟨(r 3).b, q, none⟩ v).heap[b]? = w.heap[b]? := fun b hb => Below.heap_setCell _ _ _ _ hb
  have hgb := hoth gb (fun e => o3 e.symm)
  have hcell := (g.row 3 (by omega)).cell
  refine ⟨⟨g.lo, by rw [World.size_setCell]; exact g.lt, fun i => by rw [World.frozen?_setCell]; exact g.soft i, by rw [cell_of hgb]; exact g.h, by rw [cell_of hgb]; exact g.num, fun k hk => ?_, fun k hk => ?_, fun k hk h0 => ?_, fun i j hi hj hij h0 h1 => ?_⟩, by simp [World.frozen?, hcur]⟩
  · rw [cell_of hgb]
    by_cases e : k = 3
    · subst e; rw [Tm.up_at]; exact g.head 3 hk
    · rw [Tm.up_ne _ _ _ _ e]; exact g.head k hk
  · by_cases e : k = 3
    · subst e
      rw [Tm.up_at]
      refine ⟨hcap, (g.row 3 hk).capm, fun _ => ⟨e1, cur.setIfInBounds q v, ?_, by simp; exact hsz⟩, (g.row 3 hk).nil, fun i hi => ?_⟩
      · exact block_setCell hcur
      · simp only at hi ⊢
        by_cases ei : i = q
        · subst ei
          rw [Tm.up_at]
          exact World.cell?_setCell_same _ _ _ (hcell i hi)
        · rw [Tm.up_ne _ _ _ _ ei, World.cell?_setCell_other _ _ _ _ (fun e => ei (congrArg Addr.off e).symm)]
          exact hcell i hi
    · rw [Tm.up_ne _ _ _ _ e]
      exact (g.row k hk).at (fun h0 => hoth _ (g.apart k 3 hk (by omega) e h0 hc0))
  · rw [World.size_setCell]
    by_cases e : k = 3
    · subst e; rw [Tm.up_at]; exact ⟨o1, o2, o3⟩
    · rw [Tm.up_ne _ _ _ _ e] at h0 ⊢; exact g.own k hk h0
  · have h3 : ∀ j, (Tm.up r 3 { r 3 with f := Tm.up (r 3).f q v } j).c = (r j).c ∧ (Tm.up r 3 { r 3 with f := Tm.up (r 3).f q v } j).b = (r j).b := fun j => by
      by_cases e : j = 3
      · subst e; rw [Tm.up_at]; exact ⟨rfl, rfl⟩
      · rw [Tm.up_ne _ _ _ _ e]; exact ⟨rfl, rfl⟩
    rw [(h3 i).1] at h0
    rw [(h3 j).1] at h1
    rw [(h3 i).2, (h3 j).2]
    exact g.apart i j hi hj hij h0 h1

section
variable {R : (Nat → Prop) → World → Nat → H → Prop} {N : Nat} {A : Nat → Addr} {w0 w w' : World} {X : Nat → Prop} {p n gb : Nat} {h h' : H} {r : Nat → RowG}

/-- A heap, the struct of its graph, and other blocks of a law's. -/
structure Gst (R : (Nat → Prop) → World → Nat → H → Prop) (N : Nat) (A : Nat → Addr) (w0 : World) (X : Nat → Prop) (gb n : Nat) (r : Nat → RowG) (w : World) (p : Nat) (h : H) : Prop where
  hp : Hp R N A w0.heap.size w0 (fun b => ownG gb r b ∨ X b) w p h
  gm : GM w0.heap.size w gb p n r
  off : ∀ b, X b → ¬ ownG gb r b
theorem Gst.size (x : Gst R N A w0 X gb n r w p h) : w0.heap.size ≤ w.heap.size := x.hp.size (Nat.le_refl _)
theorem Gst.call (x : Gst R N A w0 X gb n r w p h) (y : Hp R N A w0.heap.size w0 (fun b => ownG gb r b ∨ X b) w' p h') (hz : w.heap.size ≤ w'.heap.size) (hk : ∀ b, ownG gb r b ∨ X b → w'.heap[b]? = w.heap[b]?) : Gst R N A w0 X gb n r w' p h' := ⟨y, x.gm.kept (fun b hb => hk b (Or.inl hb)) hz, x.off⟩
theorem Gst.dn (ok : ROK R) (x : Gst R N A w0 X gb n r w p h) (hb : Below w.heap.size w w') : Gst R N A w0 X gb n r w' p h :=
  ⟨x.hp.grow ok x.size hb, x.gm.kept (fun b hb' => hb.block b (x.gm.own_lt hb').2) hb.size, x.off⟩
/-- The law's own blocks turn. -/
theorem Gst.own (ok : ROK R) (x : Gst R N A w0 X gb n r w p h) (hk : Kept X w w') : Gst R N A w0 X gb n r w' p h := by
  have hsz := x.size
  refine ⟨x.hp.turn ok hsz ⟨hk.os, hk.tape, hk.output, hk.size, fun b hb => hk.block b (by omega) (fun q => by have := x.hp.tb b (Or.inr q); omega)⟩ (fun b hb hn => hk.block b hb (fun q => hn (Or.inr q))) (fun b hb => Or.inl hb) (fun b hb => Nat.lt_of_lt_of_le (x.hp.lt b hb) hk.size), x.gm.kept (fun b hb => hk.block b (x.gm.own_lt hb).2 (fun q => x.off b q hb)) hk.size, x.off⟩
/-- A block more. -/
theorem Gst.more (ok : ROK R) (x : Gst R N A w0 X gb n r w p h) (hb : Below w.heap.size w w') (X' : Nat → Prop) (hX : ∀ b, X' b → X b ∨ w.heap.size ≤ b) (hlt : ∀ b, X' b → b < w'.heap.size) : Gst R N A w0 X' gb n r w' p h := by
  have hsz := x.size
  have y := x.dn ok hb
  refine ⟨x.hp.turn ok hsz (hb.mono hsz) (fun b hb' _ => hb.block b hb') (fun b hb' => ?_) (fun b hb' => ?_), y.gm, fun b hb' q => ?_⟩
  · rcases hb' with q | q
    · exact Or.inl (Or.inl q)
    · exact (hX b q).imp Or.inr id
  · rcases hb' with q | q
    · exact (y.gm.own_lt q).2
    · exact hlt b q
  · rcases hX b hb' with q' | q'
    · exact x.off b q' q
    · have := (x.gm.own_lt q).2; omega
theorem Gst.app (ok : ROK R) {w1 w2 : World} (x : Gst R N A w0 X gb n r w p h) (hb1 : Below w.heap.size w w1) (k : Nat) (hk : k < 4) {b' c' : Nat} {vs : List Value} (ap : ApdZ (gty k) (gsz k) w1 w2 (r k).b (r k).c b' c' (r k).n vs) (hvs : vs.length = gsz k) (hf : ∀ i v, vs[i]? = some v → (r k).f ((r k).n * gsz k + i) = v) :
    Gst R N A w0 X gb n (Tm.up r k ⟨some ⟨b', 0, none⟩, (r k).n + 1, c', b', (r k).f⟩) (w2.setCell ⟨gb, 2 + k, none⟩ (.slice (some ⟨b', 0, none⟩) ((r k).n + 1) c')) p h := by
  have hsz := x.size
  obtain ⟨g2, hold⟩ := x.gm.app hsz hb1 k hk ap hvs hf
  have hT0 : ∀ b, ownG gb (Tm.up r k ⟨some ⟨b', 0, none⟩, (r k).n + 1, c', b', (r k).f⟩) b → ownG gb r b ∨ w.heap.size ≤ b := fun b hb => by
    rcases hb with rfl | ⟨j, hj, h0, rfl⟩
    · exact Or.inl (Or.inl rfl)
    · by_cases e : j = k
      · subst e
        rw [Tm.up_at]
        rcases ap.bl with ⟨q1, q2⟩ | q
        · exact Or.inl (Or.inr ⟨j, hj, q2, q1⟩)
        · exact Or.inr (Nat.le_trans hb1.size q)
      · rw [Tm.up_ne _ _ _ _ e] at h0 ⊢
        exact Or.inl (Or.inr ⟨j, hj, h0, rfl⟩)
  have hz' : w.heap.size ≤ (w2.setCell ⟨gb, 2 + k, none⟩ (.slice (some ⟨b', 0, none⟩) ((r k).n + 1) c')).heap.size := by rw [World.size_setCell]; exact Nat.le_trans hb1.size ap.size
  refine ⟨x.hp.turn ok hsz ⟨ap.os.trans hb1.os, ap.tape.trans hb1.tape, ap.output.trans hb1.output, hz', fun b hb => hold b (by omega) (fun q => by have := (x.gm.own_lt q).1; omega)⟩ (fun b hb hn => hold b hb (fun q => hn (Or.inl q))) (fun b hb => ?_) (fun b hb => ?_), g2, fun b hb q => ?_⟩
  · rcases hb with q | q
    · exact (hT0 b q).imp Or.inl id
    · exact Or.inl (Or.inr q)
  · rcases hb with q | q
    · exact (g2.own_lt q).2
    · exact Nat.lt_of_lt_of_le (x.hp.lt b (Or.inr q)) hz'
  · rcases hT0 b q with q' | q'
    · exact x.off b hb q'
    · have := x.hp.lt b (Or.inr hb); omega
theorem Gst.ref (ok : ROK R) (x : Gst R N A w0 X gb n r w p h) (q : Nat) (hq : q < (r 3).n * 2) (v : Value) : Gst R N A w0 X gb n (Tm.up r 3 { r 3 with f := Tm.up (r 3).f q v }) (w.setCell ⟨(r 3).b, q, none⟩ v) p h := by
  obtain ⟨g2, _⟩ := x.gm.ref q hq v
  have hsz := x.size
  have hc0 : 0 < (r 3).c := by have := (x.gm.row 3 (by omega)).cap; omega
  have hin : ownG gb r (r 3).b := Or.inr ⟨3, by omega, hc0, rfl⟩
  have hlo := (x.gm.own_lt hin).1
  have hT0 : ∀ b, ownG gb (Tm.up r 3 { r 3 with f := Tm.up (r 3).f q v }) b → ownG gb r b := fun b hb => by
    rcases hb with rfl | ⟨j, hj, h0, rfl⟩
    · exact Or.inl rfl
    · by_cases e : j = 3
      · subst e; rw [Tm.up_at]; exact hin
      · rw [Tm.up_ne _ _ _ _ e] at h0 ⊢; exact Or.inr ⟨j, hj, h0, rfl⟩
  refine ⟨x.hp.turn ok hsz ⟨rfl, rfl, rfl, by rw [World.size_setCell]; exact Nat.le_refl _, fun b hb => Below.heap_setCell _ _ _ _ (fun e => ?_)⟩ (fun b hb hn => Below.heap_setCell _ _ _ _ (fun e => hn (Or.inl (e ▸ hin)))) (fun b hb => Or.inl (hb.imp (hT0 b) id)) (fun b hb => ?_), g2, fun b hb q => x.off b hb (hT0 b q)⟩
  · have e' : b = (r 3).b := e
    omega
  · rw [World.size_setCell]
    exact x.hp.lt b (hb.imp (hT0 b) id)
end
end Go.Proofs.YtcnmfljpmpgnjaaGreatDoor

namespace Go.Proofs.YtcnmfljpmpgnjaaGreatDoor
open Go.RowKit
open Tm (H Ob Sl Why GD Gh)

/-- A list of marks, alone turned. -/
structure FB (w w' : World) (fb : Nat) (fs : List Bool) : Prop where
  kept : Kept (fun b => b = fb) w w'
  cell : ∀ i, i < fs.length → w'.cell? ⟨fb, i, none⟩ = some (.bool (fs.getD i false))
  soft : ∀ i, w'.frozen? ⟨fb, i, none⟩ = false
theorem FB.set {w w' : World} {fb : Nat} {fs : List Bool} (h : FB w w' fb fs) (j : Nat) (hj : j < fs.length) : FB w (w'.setCell ⟨fb, j, none⟩ (.bool true)) fb (fs.set j true) := by
  refine ⟨h.kept.setCell (Or.inl rfl) _, fun i hi => ?_, fun i => by rw [World.frozen?_setCell]; exact h.soft i⟩
  rw [List.length_set] at hi
  rw [Tm.getD_set _ _ _ _ _ hj]
  by_cases e : i = j
  · subst e
    rw [if_pos rfl]
    exact World.cell?_setCell_same _ _ _ (h.cell i hi)
  · rw [if_neg e, World.cell?_setCell_other _ _ _ _ (fun q => e (congrArg Addr.off q).symm)]
    exact h.cell i hi
def rdB (w : World) (b n : Nat) : List Bool := (List.range n).map fun i => match w.cell? ⟨b, i, none⟩ with
  | some (.bool x) => x
  | _ => false
theorem FB.read {w w' : World} {fb : Nat} {fs : List Bool} (h : FB w w' fb fs) {n : Nat} (hn : fs.length = n) : rdB w' fb n = fs := by
  subst hn
  apply List.ext_getElem?
  intro i
  unfold rdB
  rw [List.getElem?_map]
  rcases Nat.lt_or_ge i fs.length with hi | hi
  · rw [List.getElem?_range hi, List.getElem?_eq_getElem hi]
    simp [h.cell i hi, List.getD_eq_getElem?_getD, List.getElem?_eq_getElem hi]
  · rw [List.getElem?_eq_none (by simpa using hi), List.getElem?_eq_none hi]; rfl
def boolK (v : Value) : Bool := match v with
  | .bool b => b
  | _ => false

theorem GM.turned {B : Nat} {w w' : World} {gb p n : Nat} {r : Nat → RowG} {fb : Nat} (g : GM B w gb p n r) (hoff : ¬ ownG gb r fb) (hk : Kept (fun b => b = fb) w w') : GM B w' gb p n r :=
  g.kept (fun b hb => hk.block b (g.own_lt hb).2 (fun e => hoff (e ▸ hb))) hk.size

set_option maxRecDepth 100000 in
set_option maxHeartbeats 4000000 in
theorem reached_g {B : Nat} {w : World} {gb p n : Nat} {r : Nat → RowG} (g : GM B w gb p n r) (rs : Nat → Nat → Int) (hrn : (r 3).n = n) (hrf : ∀ i k, i < n → k < 2 → (r 3).f (i * 2 + k) = .int .i64 (rs i k)) (hrng : ∀ i k, i < n → k < 2 → -1 ≤ rs i k ∧ rs i k < (n : Int)) (hn : n ≤ 10)
    (fb c : Nat) (fs : List Bool) (hfl : fs.length = n) (hfc : ∀ i, i < n → w.cell? ⟨fb, i, none⟩ = some (.bool (fs.getD i false))) (hfs : ∀ i, w.frozen? ⟨fb, i, none⟩ = false) (hoff : ¬ ownG gb r fb) (F : Nat → Prop) (hF : ∀ j, j < n → (F j ↔ fs.getD j false = true)) :
    Calls Tryz.prog 18 #[.pointer (some ⟨gb, 0, none⟩), .slice (some ⟨fb, 0, none⟩) n c] w fun e w' => ∃ fs', fs'.length = n ∧ e = .returned (.int .i64 (Tm.cnt (Tm.ofL fs') n : Int)) ∧ FB w w' fb fs' ∧ ∀ j, j < n → (fs'.getD j false = true ↔ Tm.Cl n rs F j) := by
  have HG := hide g
  have HRf := hide hrf
  have HRn := hide hrn
  have HRng := hide hrng
  have HOff := hide hoff
  have HF0 : Hid (FB w w fb fs) := ⟨Kept.refl _ _, fun i hi => hfc i (by omega), hfs⟩
  have HL0 := hide hfl
  have HS0 : Hid (∀ j, j < n → fs.getD j false = true → Tm.Cl n rs F j) := fun j hj hf P h1 _ => h1 j hj ((hF j hj).2 hf)
  have HFr0 : Hid (∀ j, j < n → F j → fs.getD j false = true) := fun j hj h => (hF j hj).1 h
  clear g hrf hrng hoff hfc hfs hfl hrn hF
  go_enter Tryz.func18, Tryz.ntmps18
  go_wp2_with fail
  go_loopw [5, 6, 7, 8, 9] (fun nv m _ _ _ w' => ∃ (more : Bool) (fs1 : List Bool) (nn : Nat), m = .bool more ∧ nv = .int .i64 nn ∧ FB w w' fb fs1 ∧ fs1.length = n ∧ (∀ j, j < n → F j → fs1.getD j false = true) ∧ (∀ j, j < n → fs1.getD j false = true → Tm.Cl n rs F j) ∧ (more = false → nn = Tm.cnt (Tm.ofL fs1) n ∧ ∀ j, j < n → (fs1.getD j false = true ↔ Tm.Cl n rs F j))) (fun _ m _ _ _ w' => 2 * Tm.cf (rdB w' fb n) + (if boolK m then 1 else 0))
  case atStart => exact ⟨true, fs, 0, rfl, rfl, HF0.out, HL0.out, HFr0.out, HS0.out, fun h => by cases h⟩
  case round =>
    clear HF0 HL0 HS0 HFr0
    obtain ⟨more, fs0, nn, rfl, rfl, hB0, hl0, hf0, hs0, hd0⟩ := hrel
    have HB0 := hide hB0
    have HL0 := hide hl0
    have HD0 := hide hd0
    have HI0 : Hid (Tm.RInv n rs F fs0 0 0 fs0 false) := Tm.RInv.first hl0 hf0 hs0
    clear hB0 hl0 hf0 hs0 hd0
    cases more
    · go_wp2_with fail
      go_ret
      exact ⟨fs0, HL0.out, by rw [← (HD0.out (by simp)).1]; rfl, HB0.out, (HD0.out (by simp)).2⟩
    · clear HD0
      go_wp2_with fail
      go_loopw [5, 6, 7, 8, 9] (fun nv m iv _ _ w' => ∃ (i : Nat) (more : Bool) (fs1 : List Bool) (nn : Nat), i ≤ n ∧ iv = .int .i64 i ∧ m = .bool more ∧ nv = .int .i64 nn ∧ nn ≤ i ∧ FB w w' fb fs1 ∧ Tm.RInv n rs F fs0 i 0 fs1 more ∧ (more = false → nn = Tm.cnt (Tm.ofL fs0) i)) (fun _ _ iv _ _ _ => n - (intOf iv).toNat)
      case atStart => exact ⟨0, false, fs0, 0, by omega, rfl, rfl, rfl, Nat.le_refl _, HB0.out, HI0.out, fun _ => rfl⟩
      case round =>
        clear HI0
        obtain ⟨i, more, fs1, n1, hi, rfl, rfl, rfl, hni, hB1, hI1, hN1⟩ := hrel
        have HB1 := hide hB1
        have HI1 := hide hI1
        have HN1 := hide hN1
        have gm := HG.out.turned HOff.out hB1.kept
        have cN := gm.num
        have HGm := hide gm
        clear hB1 hI1 hN1 gm
        by_cases hlt : i < n
        · have bi : (i : Int) < (n : Int) := by omega
          have cf := HB1.out.cell i (by have := HI1.out.len; omega)
          cases hfi : fs1.getD i false
          · rw [hfi] at cf
            go_wp2_with fail
            go_roundw
            case rel =>
              refine ⟨i + 1, more, fs1, n1, by omega, by go_num, rfl, rfl, by omega, HB1.out, HI1.out.skip hfi, fun hm => ?_⟩
              have e := (HI1.out.no hm).1
              subst e
              show n1 = (if Tm.ofL fs1 i then 1 else 0) + Tm.cnt (Tm.ofL fs1) i
              unfold Tm.ofL at *
              rw [hfi, HN1.out hm]; simp
            case measure => simp [intOf]; omega
          · rw [hfi] at cf
            have HFi := hide hfi
            clear hfi
            have HM1 : Hid (more = false → n1 + 1 = Tm.cnt (Tm.ofL fs0) (i + 1)) := fun hm => by
              have e := (HI1.out.no hm).1
              subst e
              show n1 + 1 = (if Tm.ofL fs1 i then 1 else 0) + Tm.cnt (Tm.ofL fs1) i
              have hfi := HFi.out
              unfold Tm.ofL at *
              rw [hfi, HN1.out hm]; simp; omega
            clear HN1
            go_wp2_with fail
            go_loopw [6, 8, 9] (fun m kv _ w' => ∃ (k : Nat) (more2 : Bool) (fs2 : List Bool), k ≤ 2 ∧ kv = .int .i64 k ∧ m = .bool more2 ∧ FB w w' fb fs2 ∧ Tm.RInv n rs F fs0 i k fs2 more2 ∧ fs2.getD i false = true ∧ (more2 = false → more = false)) (fun _ kv _ _ => 2 - (intOf kv).toNat)
            case atStart => exact ⟨0, more, fs1, by omega, rfl, rfl, HB1.out, HI1.out, HFi.out, fun h => h⟩
            case round =>
              clear HI1 HFi cf HB1 cN HGm
              obtain ⟨k, more2, fs2, hk, rfl, rfl, hB2, hI2, hf2, hm2⟩ := hrel
              have HB2 := hide hB2
              have HI2 := hide hI2
              have HF2 := hide hf2
              have HM2 := hide hm2
              have gm := HG.out.turned HOff.out hB2.kept
              have cR := gm.head 3 (by omega)
              have hrow := gm.row 3 (by omega)
              have cN := gm.num
              rw [HRn.out] at cR
              have hc0 : 0 < (r 3).c := by have := hrow.cap; rw [HRn.out] at this; omega
              rw [(hrow.at' hc0).1] at cR
              have hcl := hrow.cell
              clear hB2 hI2 hf2 hm2 gm
              by_cases hk2 : k < 2
              · have bk : (k : Int) < 2 := by omega
                have cT := hcl (i * 2 + k) (by rw [HRn.out]; show i * 2 + k < n * 2; omega)
                rw [HRf.out i k hlt hk2] at cT
                obtain ⟨hr1, hr2⟩ := HRng.out i k hlt hk2
                have HR1 := hide hr1
                have HR2 := hide hr2
                obtain ⟨t, et⟩ : ∃ t, rs i k = t := ⟨_, rfl⟩
                rw [et] at cT hr1 hr2
                have HT := hide et
                clear hcl hrow et
                generalize (r 3).b = rb at *
                generalize (r 3).c = rc at *
                by_cases ht : 0 ≤ t
                · obtain ⟨tn, rfl⟩ : ∃ tn : Nat, t = (tn : Int) := ⟨t.toNat, by omega⟩
                  have hlen2 := HI2.out.len
                  have ct := HB2.out.cell tn (by omega)
                  have ft := HB2.out.soft tn
                  have bt : (tn : Int) < (n : Int) := hr2
                  cases hft : fs2.getD tn false
                  · rw [hft] at ct
                    have HNew : Hid (FB w (wr.setCell ⟨fb, tn, none⟩ (.bool true)) fb (fs2.set tn true)) := HB2.out.set tn (by omega)
                    have HIn : Hid (Tm.RInv n rs F fs0 i (k + 1) (fs2.set tn true) true) := by
                      have := HI2.out.mark hlt hk2 HF2.out (by rw [HT.out]; omega) (by rw [HT.out]; exact hr2) (by rw [HT.out, Int.toNat_natCast]; exact hft)
                      rw [HT.out, Int.toNat_natCast] at this
                      exact this
                    clear hlen2
                    go_wp2_with fail
                    go_roundw
                    case rel => exact ⟨k + 1, true, fs2.set tn true, by omega, by go_num, rfl, HNew.out, HIn.out, Tm.getD_set_true _ _ _ HF2.out, fun h => by cases h⟩
                    case measure => simp [intOf]; omega
                  · rw [hft] at ct
                    clear hlen2
                    go_wp2_with fail
                    go_roundw
                    case rel => exact ⟨k + 1, more2, fs2, by omega, by go_num, rfl, HB2.out, HI2.out.same (Or.inr (by rw [HT.out, Int.toNat_natCast]; exact hft)), HF2.out, HM2.out⟩
                    case measure => simp [intOf]; omega
                · go_wp2_with fail
                  go_roundw
                  case rel => exact ⟨k + 1, more2, fs2, by omega, by go_num, rfl, HB2.out, HI2.out.same (Or.inl (by rw [HT.out]; omega)), HF2.out, HM2.out⟩
                  case measure => simp [intOf]; omega
              · have bk : ¬ (k : Int) < 2 := by omega
                obtain rfl : k = 2 := by omega
                clear hcl hrow
                go_wp2_with fail
                go_roundw
                case rel => exact ⟨i + 1, more2, fs2, n1 + 1, by omega, by go_num, rfl, by go_num, by omega, HB2.out, HI2.out.next, fun hm => HM1.out (HM2.out hm)⟩
                case measure => simp [intOf]; omega
        · have bi : ¬ (i : Int) < (n : Int) := by omega
          obtain rfl : i = n := by omega
          go_wp2_with fail
          go_roundw
          case rel =>
            refine ⟨more, fs1, n1, rfl, rfl, HB1.out, HI1.out.len, HI1.out.from', HI1.out.sound, fun hm => ?_⟩
            subst hm
            obtain ⟨e, q⟩ := HI1.out.done
            subst e
            exact ⟨HN1.out rfl, q⟩
          case measure =>
            rw [HB1.out.read HI1.out.len, HB0.out.read HL0.out]
            cases more
            · rw [(HI1.out.no rfl).1]; simp [boolK]
            · have := HI1.out.yes rfl
              simp [boolK]; omega
end Go.Proofs.YtcnmfljpmpgnjaaGreatDoor

namespace Go.Proofs.YtcnmfljpmpgnjaaGreatDoor
open Go.RowKit
open Tm (H Ob Sl Why GD Gh)

/-- What the lists of a graph's struct hold. -/
structure Gr (r : Nat → RowG) (d : GD) (lh : Nat → Int) : Prop where
  n0 : ∀ k, k < 4 → (r k).n = d.n
  f0 : ∀ i, i < d.n → (r 0).f i = .int .i64 (lh i)
  f1 : ∀ i, i < d.n → (r 1).f i = .int .i64 (Tm.hand 3 i 1)
  f2 : ∀ i, i < d.n → (r 2).f i = .int .i64 (d.vs i)
  f3 : ∀ i k, i < d.n → k < 2 → (r 3).f (i * 2 + k) = .int .i64 (d.rs i k)

/-- A list of the struct's that can be read. -/
theorem GM.read {B : Nat} {w : World} {gb p n : Nat} {r : Nat → RowG} (g : GM B w gb p n r) (k : Nat) (hk : k < 4) (hn : (r k).n = n) (h0 : 0 < n) : w.cell? ⟨gb, 2 + k, none⟩ = some (.slice (some ⟨(r k).b, 0, none⟩) n (r k).c) ∧ ∀ i, i < n * gsz k → w.cell? ⟨(r k).b, i, none⟩ = some ((r k).f i) := by
  have hrow := g.row k hk
  have hc0 : 0 < (r k).c := by have := hrow.cap; omega
  have h1 := g.head k hk
  rw [(hrow.at' hc0).1, hn] at h1
  exact ⟨h1, fun i hi => hrow.cell i (by rw [hn]; exact hi)⟩

section
variable {R : (Nat → Prop) → World → Nat → H → Prop} {N : Nat} {A : Nat → Addr} {w0 : World} {X : Nat → Prop} {gb p : Nat} {r : Nat → RowG} {d : GD} {lh : Nat → Int}

set_option maxRecDepth 100000 in
set_option maxHeartbeats 4000000 in
theorem freed_g (K : ProgOK R N A) {w : World} {h : H} (x : Gst R N A w0 X gb d.n r w p h) (g : Gh h d) (gr : Gr r d lh) (hlh : ∀ i, i < d.n → lh i = Tm.hand 1 i (d.ge i)) (hge : ∀ i, i < d.n → 1 ≤ d.ge i ∧ d.ge i ≤ 50) (hlo : ∀ i, i < d.n → d.lo i ≠ 0) (but : Int) :
    Calls Tryz.prog 19 #[.pointer (some ⟨gb, 0, none⟩), .int .i64 but] w fun e w' => e = .returned (.bool true) ∧ ∃ h', Gst R N A w0 X gb d.n r w' p h' ∧ Gh h' { d with lo := fun i => if i < d.n ∧ (i : Int) ≠ but then 0 else d.lo i } ∧ ∀ b, X b → w'.heap[b]? = w.heap[b]? := by
  have HK := hide K
  have HX := hide x
  have HGh := hide g
  have HGr := hide gr
  have HLh := hide hlh
  have HGe := hide hge
  have HLo := hide hlo
  have hn10 := g.few
  clear K x g gr hlh hge hlo
  go_enter Tryz.func19, Tryz.ntmps19
  go_wp2_with fail
  go_loopw [5, 6] (fun iv _ w' => ∃ (j : Nat) (h' : H), j ≤ d.n ∧ iv = .int .i64 j ∧ Gst R N A w0 X gb d.n r w' p h' ∧ Gh h' { d with lo := fun i => if i < j ∧ (i : Int) ≠ but then 0 else d.lo i } ∧ ∀ b, X b → w'.heap[b]? = w.heap[b]?) (fun iv _ _ => d.n - (intOf iv).toNat)
  case atStart => exact ⟨0, h, by omega, rfl, HX.out, by simpa using HGh.out, fun _ _ => rfl⟩
  case round =>
    obtain ⟨j, h', hj, rfl, x, g, hX⟩ := hrel
    have HXj := hide x
    have HGj := hide g
    have HKx := hide hX
    have cN := x.gm.num
    by_cases hlt : j < d.n
    · have bj : (j : Int) < (d.n : Int) := by omega
      by_cases hb : (j : Int) = but
      · subst hb
        clear x g hX
        go_wp2_with fail
        go_roundw
        case rel =>
          refine ⟨j + 1, h', by omega, by go_num, HXj.out, ?_, HKx.out⟩
          have e : (fun i => if i < j + 1 ∧ (i : Int) ≠ (j : Int) then 0 else d.lo i) = (fun i => if i < j ∧ (i : Int) ≠ (j : Int) then 0 else d.lo i) := by
            funext i
            by_cases q : i < j
            · rw [if_pos ⟨by omega, by omega⟩, if_pos ⟨q, by omega⟩]
            · rw [if_neg (fun a => by omega), if_neg (fun a => q a.1)]
          rw [e]; exact HGj.out
        case measure => simp [intOf]; omega
      · have hb' : ¬ (j : Int) = but := hb
        have hbb : ((j : Int) != but) = true := by simpa using hb
        have cH := x.gm.h
        obtain ⟨cL, hcl⟩ := x.gm.read 0 (by omega) (HGr.out.n0 0 (by omega)) (by omega)
        have cj := hcl j (by show j < d.n * 1; omega)
        rw [HGr.out.f0 j hlt, HLh.out j hlt] at cj
        have hlj : (if j < j ∧ (j : Int) ≠ but then 0 else d.lo j) = d.lo j := if_neg (fun q => absurd q.1 (Nat.lt_irrefl _))
        obtain ⟨h2, ef, g2⟩ := g.freeL j (by omega) (HGe.out j hlt) (by simp only; rw [hlj]; exact HLo.out j hlt)
        have xD : Gst R N A w0 X gb d.n r wr.drew p h' := x.dn HK.out.ok ⟨rfl, rfl, rfl, Nat.le_refl _, fun _ _ => rfl⟩
        have hzb : Tm.hand 1 j (d.ge j) < 9223372036854775808 := by have := HGe.out j hlt; unfold Tm.hand; omega
        have hfr := xD.hp.free HK.out xD.size (Tm.hand 1 j (d.ge j)) hzb
        simp only at ef
        rw [ef] at hfr
        have HFr := hide hfr
        have HXD := hide xD
        have HG2 : Hid (Gh h2 { d with lo := fun i => if i < j + 1 ∧ (i : Int) ≠ but then 0 else d.lo i }) := by
          have e : Tm.up (fun i => if i < j ∧ (i : Int) ≠ but then 0 else d.lo i) j 0 = (fun i => if i < j + 1 ∧ (i : Int) ≠ but then 0 else d.lo i) := by
            funext i
            by_cases q : i = j
            · subst q; rw [Tm.up_at, if_pos ⟨by omega, hb⟩]
            · rw [Tm.up_ne _ _ _ _ q]
              by_cases q2 : i < j ∧ (i : Int) ≠ but
              · rw [if_pos q2, if_pos ⟨by omega, q2.2⟩]
              · rw [if_neg q2, if_neg (fun a => q2 ⟨by omega, a.2⟩)]
          simp only at g2
          rw [e] at g2
          exact g2
        clear x g hX hcl ef g2 xD hfr hlj
        generalize Tm.hand 1 j (d.ge j) = z at *
        generalize (r 0).b = lb at *
        generalize (r 0).c = lc at *
        go_upto_region 5 with fail
        go_cut [6] (fun ev wx => ev = .nilIface ∧ Gst R N A w0 X gb d.n r wx p h2 ∧ ∀ b, X b → wx.heap[b]? = wr.heap[b]?)
        case first =>
          go_region_with ((go_at_call 23; refine HFr.out.mono ?_; rintro e w2 ⟨ev, rfl, he, x2, hz2, hk2⟩; obtain rfl := he.nil rfl; have HFin := hide (And.intro (HXD.out.call x2 hz2 hk2) (fun b (hb : X b) => hk2 b (Or.inr hb))); clear he x2 hz2 hk2))
          all_goals go_wp2_with fail
          all_goals go_meet
          all_goals exact ⟨rfl, HFin.out.1, HFin.out.2⟩
        case rest =>
          obtain ⟨rfl, x2, hX2⟩ := hcut
          have HX2 := hide x2
          have HK2 := hide hX2
          clear x2 hX2 HFr HXD
          go_wp2_with fail
          go_roundw
          case rel => exact ⟨j + 1, h2, by omega, by go_num, HX2.out, HG2.out, fun b hb => (HK2.out b hb).trans (HKx.out b hb)⟩
          case measure => simp [intOf]; omega
    · have bj : ¬ (j : Int) < (d.n : Int) := by omega
      obtain rfl : j = d.n := by omega
      clear x g hX
      go_wp2_with fail
      go_ret
      exact ⟨rfl, h', HXj.out, HGj.out, HKx.out⟩
end
end Go.Proofs.YtcnmfljpmpgnjaaGreatDoor

namespace Go.Proofs.YtcnmfljpmpgnjaaGreatDoor
namespace Tm

/-- The generation that a local slot's handle has in a graph that is laid down. -/
def lg (s : Nat) : Int := if s = 0 then 2 else 1
theorem lg_bd (s : Nat) : 1 ≤ lg s ∧ lg s ≤ 2 := by unfold lg; split <;> omega

/-- A graph of i objects, from local slot s on. -/
structure LayD (d : GD) (s i : Nat) : Prop where
  n : d.n = i
  nw : d.nw = i
  go : ∀ j, j < i → d.go j = false
  pn : ∀ j, j < i → d.pn j = 0
  lo0 : ∀ j, j < s → d.lo j ≠ 0
  lo1 : ∀ j, j < i → d.lo (s + j) = ((d.b + j + 1 : Nat) : Int)
  lo2 : ∀ j, s + i ≤ j → j < 16 → d.lo j = 0
  ge1 : ∀ j, j < i → d.ge (s + j) = lg (s + j)
  ge2 : ∀ j, s + i ≤ j → j < 16 → d.ge j + 1 = lg j
  fr1 : ∀ j, j < i → d.fr (s + j) = d.f
  gl : ∀ j, d.gl j = 0
  gg : ∀ j, d.gg j = 0

theorem LayD.nxt {d : GD} {s i : Nat} (l : LayD d s i) (hs : s + i < 16) : Nxt d (s + i) := by
  refine ⟨hs, fun j hj => ?_, l.lo2 _ (Nat.le_refl _) hs, ?_, ?_⟩
  · rcases Nat.lt_or_ge j s with q | q
    · exact l.lo0 j q
    · obtain ⟨j', rfl⟩ : ∃ j', j = s + j' := ⟨j - s, by omega⟩
      rw [l.lo1 j' (by omega)]; omega
  · have := l.ge2 (s + i) (Nat.le_refl _) hs; have := lg_bd (s + i); omega
  · have := l.ge2 (s + i) (Nat.le_refl _) hs; have := lg_bd (s + i); omega

/-- An object is made, and has a weak handle. -/
def GD.laid (d : GD) (f : Nat) : GD := { d.more f with nw := d.nw + 1 }
theorem LayD.laid {d : GD} {s i : Nat} (l : LayD d s i) (hs : s + i < 16) : LayD (d.laid (s + i)) s (i + 1) := by
  have hg := l.ge2 (s + i) (Nat.le_refl _) hs
  have hn := l.n
  subst hn
  refine ⟨rfl, by show d.nw + 1 = d.n + 1; rw [l.nw], fun j hj => ?_, fun j hj => ?_, fun j hj => ?_, fun j hj => ?_, fun j hj hj' => ?_, fun j hj => ?_, fun j hj hj' => ?_, fun j hj => ?_, l.gl, l.gg⟩
  · show up d.go d.n false j = false
    by_cases e : j = d.n
    · rw [e, up_at]
    · rw [up_ne _ _ _ _ e]; exact l.go j (by omega)
  · show up d.pn d.n 0 j = 0
    by_cases e : j = d.n
    · rw [e, up_at]
    · rw [up_ne _ _ _ _ e]; exact l.pn j (by omega)
  · show up d.lo (s + d.n) _ j ≠ 0
    rw [up_ne _ _ _ _ (by omega)]; exact l.lo0 j hj
  · show up d.lo (s + d.n) ((d.b + d.n + 1 : Nat) : Int) (s + j) = ((d.b + j + 1 : Nat) : Int)
    by_cases e : j = d.n
    · subst e; rw [up_at]
    · rw [up_ne _ _ _ _ (by omega)]; exact l.lo1 j (by omega)
  · show up d.lo (s + d.n) _ j = 0
    rw [up_ne _ _ _ _ (by omega)]; exact l.lo2 j (by omega) hj'
  · show up d.ge (s + d.n) (d.ge (s + d.n) + 1) (s + j) = lg (s + j)
    by_cases e : j = d.n
    · subst e; rw [up_at]; exact hg
    · rw [up_ne _ _ _ _ (by omega)]; exact l.ge1 j (by omega)
  · show up d.ge (s + d.n) _ j + 1 = lg j
    rw [up_ne _ _ _ _ (by omega)]; exact l.ge2 j (by omega) hj'
  · show up d.fr (s + d.n) d.f (s + j) = d.f
    by_cases e : j = d.n
    · subst e; rw [up_at]
    · rw [up_ne _ _ _ _ (by omega)]; exact l.fr1 j (by omega)

/-- A round of lay2's. -/
theorem LayD.step2 {h : H} {d : GD} {s i : Nat} (l : LayD d s i) (g : Gh h d) (hi : i < 10) (hs : s + i < 16) (M : List Bool) :
    ∃ h1 h3, h.ofClass M 0 = ((hand 1 (s + i) (lg (s + i)), fine), h1) ∧ h1.ref 3 (hand 1 (s + i) (lg (s + i))) = ((hand 3 i 1, fine), h3) ∧ Gh h3 (d.laid (s + i)) := by
  have hg := l.ge2 (s + i) (Nat.le_refl _) hs
  have hn := l.n
  have hlb := lg_bd (s + i)
  obtain ⟨h1, e1, g1⟩ := g.make (l.nxt hs) (by omega) M
  rw [hg] at e1
  have ho := g1.objL (s + i) hs (by show 1 ≤ up d.ge (s + i) (d.ge (s + i) + 1) (s + i) ∧ up d.ge (s + i) (d.ge (s + i) + 1) (s + i) ≤ 50; rw [up_at]; omega) d.n (by show d.n < d.n + 1; omega) (by show up d.lo (s + i) _ (s + i) = _; rw [up_at]; rfl) (by show up d.go d.n false d.n = false; rw [up_at])
  have eg : (d.more (s + i)).ge (s + i) = lg (s + i) := by show up d.ge (s + i) (d.ge (s + i) + 1) (s + i) = _; rw [up_at]; exact hg
  rw [eg] at ho
  have hnw : (d.more (s + i)).nw = d.n := by show d.nw = d.n; rw [l.nw, l.n]
  obtain ⟨h3, e3, g3⟩ := g1.refW (x := hand 1 (s + i) (lg (s + i))) (by rw [hnw]; exact ho) (by rw [hnw]; show d.n < d.n + 1; omega)
  rw [hnw, hn] at e3
  exact ⟨h1, h3, e1, e3, g3⟩
/-- A round of lay's: its number is set, too. -/
theorem LayD.step {h : H} {d : GD} {s i : Nat} (l : LayD d s i) (g : Gh h d) (hi : i < 10) (hs : s + i < 16) (M : List Bool) (v : Int) (hv : 0 ≤ v ∧ v ≤ 1000000000) :
    ∃ h1 h2 h3, h.ofClass M 0 = ((hand 1 (s + i) (lg (s + i)), fine), h1) ∧ h1.set (hand 1 (s + i) (lg (s + i))) 0 v = (fine, h2) ∧ h2.ref 3 (hand 1 (s + i) (lg (s + i))) = ((hand 3 i 1, fine), h3) ∧ Gh h3 { d.laid (s + i) with vs := up d.vs i v } := by
  have hg := l.ge2 (s + i) (Nat.le_refl _) hs
  have hn := l.n
  have hlb := lg_bd (s + i)
  obtain ⟨h1, e1, g1⟩ := g.make (l.nxt hs) (by omega) M
  rw [hg] at e1
  have eg : (d.more (s + i)).ge (s + i) = lg (s + i) := by show up d.ge (s + i) (d.ge (s + i) + 1) (s + i) = _; rw [up_at]; exact hg
  have hob : ∀ {h' : H} {d' : GD}, Gh h' d' → d'.ge = (d.more (s + i)).ge → d'.lo = (d.more (s + i)).lo → d'.go = (d.more (s + i)).go → d'.n = d.n + 1 → d'.b = d.b → h'.object (hand 1 (s + i) (lg (s + i))) = (((d.b + d.n + 1 : Nat) : Int), fine) := fun {h' d'} g' q1 q2 q3 q4 q5 => by
    have := g'.objL (s + i) hs (by rw [q1, eg]; omega) d.n (by omega) (by rw [q2, q5]; show up d.lo (s + i) _ (s + i) = _; rw [up_at]) (by rw [q3]; show up d.go d.n false d.n = false; rw [up_at])
    rw [q1, eg, q5] at this
    exact this
  obtain ⟨h2, e2, g2⟩ := g1.set (x := hand 1 (s + i) (lg (s + i))) d.n (by show d.n < d.n + 1; omega) (hob g1 rfl rfl rfl rfl rfl) v hv
  have hnw : (d.more (s + i)).nw = d.n := by show d.nw = d.n; rw [l.nw, l.n]
  obtain ⟨h3, e3, g3⟩ := g2.refW (x := hand 1 (s + i) (lg (s + i))) (by simp only; rw [hnw]; exact hob g2 rfl rfl rfl rfl rfl) (by simp only; rw [hnw]; show d.n < d.n + 1; omega)
  simp only at e3 g3
  rw [hnw, hn] at e3
  refine ⟨h1, h2, h3, e1, e2, e3, ?_⟩
  have ev : up (d.more (s + i)).vs d.n v = up d.vs i v := by
    show up (up d.vs d.n 0) d.n v = up d.vs i v
    rw [hn]
    funext q
    by_cases e : q = i
    · subst e; rw [up_at, up_at]
    · rw [up_ne _ _ _ _ e, up_ne _ _ _ _ e, up_ne _ _ _ _ e]
  rw [ev] at g3
  exact g3
theorem LayD.vs {d : GD} {s i : Nat} (l : LayD d s i) (vs : Nat → Int) : LayD { d with vs := vs } s i := ⟨l.n, l.nw, l.go, l.pn, l.lo0, l.lo1, l.lo2, l.ge1, l.ge2, l.fr1, l.gl, l.gg⟩
theorem LayD.rs {d : GD} {s i : Nat} (l : LayD d s i) (rs : Nat → Nat → Int) : LayD { d with rs := rs } s i := ⟨l.n, l.nw, l.go, l.pn, l.lo0, l.lo1, l.lo2, l.ge1, l.ge2, l.fr1, l.gl, l.gg⟩

theorem LayD.first : LayD gd0 0 0 := by
  refine ⟨rfl, rfl, fun j hj => absurd hj (Nat.not_lt_zero _), fun j hj => absurd hj (Nat.not_lt_zero _), fun j hj => absurd hj (Nat.not_lt_zero _), fun j hj => absurd hj (Nat.not_lt_zero _), fun j _ _ => rfl, fun j hj => absurd hj (Nat.not_lt_zero _), fun j _ _ => ?_, fun j hj => absurd hj (Nat.not_lt_zero _), fun _ => rfl, fun _ => rfl⟩
  show (if j = 0 then (1 : Int) else 0) + 1 = lg j
  unfold lg
  split <;> rfl

/-- The object of a local handle of the graph's. -/
theorem LayD.obj {h : H} {d : GD} {s i : Nat} (l : LayD d s i) (g : Gh h d) (hs : s + i ≤ 16) (j : Nat) (hj : j < i) : h.object (hand 1 (s + j) (lg (s + j))) = (((d.b + j + 1 : Nat) : Int), fine) := by
  have hlb := lg_bd (s + j)
  have := g.objL (s + j) (by omega) (by rw [l.ge1 j hj]; omega) j (by rw [l.n]; exact hj) (l.lo1 j hj) (l.go j hj)
  rw [l.ge1 j hj] at this
  exact this
/-- A reference is set. -/
theorem LayD.point {h : H} {d : GD} {s i : Nat} (l : LayD d s i) (g : Gh h d) (hs : s + i ≤ 16) (j k : Nat) (hj : j < i) (hk : k < 2) (t : Nat) (ht : t ≤ i) :
    ∃ h', h.point (hand 1 (s + j) (lg (s + j))) (1 + (k : Int)) (if t < i then hand 1 (s + t) (lg (s + t)) else 0) = (fine, h') ∧ Gh h' { d with rs := up2 d.rs j k (if t < i then (t : Int) else -1) } := by
  have ho := l.obj g hs j hj
  refine g.point j k (by rw [l.n]; exact hj) hk ho _ (by rw [l.n]; split <;> omega) ?_
  by_cases q : t < i
  · rw [if_pos q, if_pos q]
    unfold H.perhaps
    have := hand_pos (k := 1) (i := s + t) (lg_bd (s + t)).1
    rw [if_neg (by omega), l.obj g hs t q]
    unfold num
    rw [if_neg (by omega)]
    push_cast
    rw [show (d.b : Int) + (t : Int) + 1 = (t : Int) + (d.b : Int) + 1 from by omega]
  · rw [if_neg q, if_neg q]
    unfold H.perhaps num
    simp
end Tm
end Go.Proofs.YtcnmfljpmpgnjaaGreatDoor

namespace Go.Proofs.YtcnmfljpmpgnjaaGreatDoor
open Go.RowKit
open Tm (H Ob Sl Why GD Gh)

theorem infoP2 : (Tryz.prog.info? 88).map (fun i => (i.zero, i.size, i.bytes)) = some (some (.agg #[.int .i64 0, .int .i64 0]), 2, 16) := by kernel_rfl

/-- A number more, of a list of a struct's. -/
theorem wpList_app1 (w : World) {ops : Array Oper} {rest : List Oper} {o : Oper} {a : Act} {Q : Exit → Act → World → Prop} (hg : o.guard = none) (s x : Operand)
    (hop : o.op = Op.call { callee := Callee.builtin Builtin.append, args := #[s, x], argTypes := #[24, 24] })
    (row : RowG) (n : Nat) (hn : n = row.n) (hs : a.eval s = .slice row.p n row.c) (hr : GRow w 3 1 row) (hb : n ≤ 100)
    (ad : Addr) (c : Nat) (v : Int) (hx : a.eval x = .slice (some ad) 1 c) (hc : w.cell? ad = some (.int .i64 v))
    (hK : ∀ w' b' c', ApdZ 3 1 w w' row.b row.c b' c' row.n [.int .i64 v] → wpList Tryz.prog ops Q rest (a.put o.dst (.slice (some ⟨b', 0, none⟩) (n + 1) c')) w') :
    wpList Tryz.prog ops Q (o :: rest) a w := by
  subst hn
  obtain ⟨i3, hi3, hz0, hz1, hz2⟩ := info_parts info3
  refine wpList_putN w hg s x 24 hop 3 i3 _ 8 Tryz.underlying24 hi3 hz0 hz1 hz2 rfl row.p row.n row.c row.b hs (fun h0 => ?_) hr.cap hr.capm ad 1 c [.int .i64 v] rfl (by omega) hx (fun j u hj => ?_) (fun u hu => ?_) (by unfold maxLen; omega) (by omega) (fun w' b' c' ap _ => hK w' b' c' ap.z)
  · obtain ⟨e, cur, h1, h2⟩ := hr.at' h0
    exact ⟨e, cur, h1, by omega⟩
  · match j, hj with
    | 0, hj =>
      simp at hj; subst hj
      exact hc
  · simp only [List.mem_singleton] at hu
    subst hu; rfl
/-- A pair more. -/
theorem wpList_app2 (w : World) {ops : Array Oper} {rest : List Oper} {o : Oper} {a : Act} {Q : Exit → Act → World → Prop} (hg : o.guard = none) (s x : Operand)
    (hop : o.op = Op.call { callee := Callee.builtin Builtin.append, args := #[s, x], argTypes := #[26, 26] })
    (row : RowG) (n : Nat) (hn : n = row.n) (hs : a.eval s = .slice row.p n row.c) (hr : GRow w 88 2 row) (hb : n ≤ 100)
    (ad : Addr) (c : Nat) (u v : Int) (hx : a.eval x = .slice (some ad) 1 c) (hc0 : w.cell? (ad.add 0) = some (.int .i64 u)) (hc1 : w.cell? (ad.add 1) = some (.int .i64 v))
    (hK : ∀ w' b' c', ApdZ 88 2 w w' row.b row.c b' c' row.n [.int .i64 u, .int .i64 v] → wpList Tryz.prog ops Q rest (a.put o.dst (.slice (some ⟨b', 0, none⟩) (n + 1) c')) w') :
    wpList Tryz.prog ops Q (o :: rest) a w := by
  subst hn
  obtain ⟨i3, hi3, hz0, hz1, hz2⟩ := info_parts infoP2
  exact wpList_put2 w hg s x 26 hop 88 i3 _ 16 Tryz.underlying26 hi3 hz0 hz1 hz2 rfl row.p row.n row.c row.b hs hr.at' hr.nil hr.cap hr.capm ad c (.int .i64 u) (.int .i64 v) hx hc0 hc1 rfl rfl (by unfold maxLen; omega) (by omega) (fun w' b' c' ap => hK w' b' c' ap.z)

theorem cell_new1 (w : World) (b : Nat) (v : Value) (t : TypeId) (hb : b = w.heap.size) : (w.alloc (.cells #[v] t)).cell? ⟨b, 0, none⟩ = some v := by
  subst hb
  exact (World.cell?_alloc_at _ _ _ _ rfl).trans rfl
theorem cell_new2 (w : World) (b : Nat) (u v : Value) (t : TypeId) (hb : b = w.heap.size) : (w.alloc (.cells #[u, v] t)).cell? ((⟨b, 0, none⟩ : Addr).add 0) = some u ∧ (w.alloc (.cells #[u, v] t)).cell? ((⟨b, 0, none⟩ : Addr).add 1) = some v := by
  subst hb
  exact ⟨(World.cell?_alloc_at _ _ _ _ rfl).trans rfl, (World.cell?_alloc_at _ _ _ _ rfl).trans rfl⟩

/-- Which of n things, as a number. -/
def pickY (c n : Int) : Int := (if c < 0 then -(c + 1) else c) % n
theorem kpick_y (c n : Int) (w : World) (h0 : 0 < n) (hn : n < 4398046511104) (hc : -9223372036854775808 ≤ c) (hc2 : c ≤ 9223372036854775807) :
    Calls Tryz.prog 16 #[.int .i64 c, .int .i64 n] w fun e w' => e = .returned (.int .i64 (pickY c n)) ∧ w' = w := by
  obtain ⟨m, rfl⟩ : ∃ m : Nat, n = (m : Int) := ⟨n.toNat, by omega⟩
  have h := kpick_is c m w (by omega) (by omega) hc hc2
  have e : (pickN c m : Int) = pickY c (m : Int) := by
    unfold pickN pickY
    rw [Int.toNat_of_nonneg (Int.emod_nonneg _ (show (m : Int) ≠ 0 by omega))]
  rw [e] at h
  exact h
theorem pickY_nat (c n : Int) (h0 : 0 < n) : ∃ k : Nat, pickY c n = (k : Int) ∧ (k : Int) < n := by
  unfold pickY
  generalize (if c < 0 then -(c + 1) else c) = x
  have h1 := Int.emod_lt_of_pos x h0
  have h2 := Int.emod_nonneg x (show n ≠ 0 by omega)
  exact ⟨(x % n).toNat, by omega, by omega⟩

/-- Four lists. -/
def rows4 (r0 r1 r2 r3 : RowG) : Nat → RowG := fun k => if k = 0 then r0 else if k = 1 then r1 else if k = 2 then r2 else r3
theorem rows4_up0 (r0 r1 r2 r3 x : RowG) : Tm.up (rows4 r0 r1 r2 r3) 0 x = rows4 x r1 r2 r3 := by
  funext k; unfold Tm.up rows4; by_cases h : k = 0 <;> simp [h]
theorem rows4_up1 (r0 r1 r2 r3 x : RowG) : Tm.up (rows4 r0 r1 r2 r3) 1 x = rows4 r0 x r2 r3 := by
  funext k; unfold Tm.up rows4
  by_cases h : k = 1
  · subst h; simp
  · by_cases h0 : k = 0 <;> simp [h, h0]
theorem rows4_up2 (r0 r1 r2 r3 x : RowG) : Tm.up (rows4 r0 r1 r2 r3) 2 x = rows4 r0 r1 x r3 := by
  funext k; unfold Tm.up rows4
  by_cases h : k = 2
  · subst h; simp
  · by_cases h0 : k = 0
    · simp [h0]
    · by_cases h1 : k = 1 <;> simp [h, h0, h1]
theorem GM.four {B : Nat} {w : World} {gb p n : Nat} {r : Nat → RowG} (g : GM B w gb p n r) {r' : Nat → RowG} (e : ∀ k, k < 4 → r' k = r k) : GM B w gb p n r' :=
  ⟨g.lo, g.lt, g.soft, g.h, g.num, fun k hk => by rw [e k hk]; exact g.head k hk, fun k hk => by rw [e k hk]; exact g.row k hk, fun k hk h0 => by rw [e k hk] at h0 ⊢; exact g.own k hk h0, fun i j hi hj hij h0 h1 => by rw [e i hi] at h0 ⊢; rw [e j hj] at h1 ⊢; exact g.apart i j hi hj hij h0 h1⟩
theorem rows4_up3 (r0 r1 r2 r3 x : RowG) : ∀ k, k < 4 → rows4 r0 r1 r2 x k = Tm.up (rows4 r0 r1 r2 r3) 3 x k := fun k hk => by
  unfold Tm.up rows4
  have : k = 0 ∨ k = 1 ∨ k = 2 ∨ k = 3 := by omega
  rcases this with rfl | rfl | rfl | rfl <;> simp

section
variable {R : (Nat → Prop) → World → Nat → H → Prop} {N : Nat} {A : Nat → Addr} {w0 w w' : World} {X : Nat → Prop} {p n gb : Nat} {h h' : H} {r : Nat → RowG}

theorem ownG_four {gb : Nat} {r r' : Nat → RowG} (e : ∀ k, k < 4 → r' k = r k) {b : Nat} (h : ownG gb r' b) : ownG gb r b := by
  rcases h with q | ⟨k, hk, h0, q⟩
  · exact Or.inl q
  · rw [e k hk] at h0 q; exact Or.inr ⟨k, hk, h0, q⟩
theorem Gst.four (x : Gst R N A w0 X gb n r w p h) {r' : Nat → RowG} (e : ∀ k, k < 4 → r' k = r k) : Gst R N A w0 X gb n r' w p h :=
  ⟨x.hp.less (fun _ hb => hb.imp (ownG_four e) id), x.gm.four e, fun b hb q => x.off b hb (ownG_four e q)⟩

/-- The struct's own block, behind an append. -/
theorem Gst.behind (x : Gst R N A w0 X gb n r w p h) {w1 w2 : World} (hb1 : Below w.heap.size w w1) (k : Nat) (hk : k < 4) {e : TypeId} {sz b' c' m : Nat} {vs : List Value} (ap : ApdZ e sz w1 w2 (r k).b (r k).c b' c' m vs) : w2.heap[gb]? = w.heap[gb]? := by
  have hgl := x.gm.lt
  have hz1 := hb1.size
  rw [ap.old gb (by omega) (fun q => ?_)]
  · exact hb1.block gb hgl
  · rcases ap.bl with ⟨q1, q2⟩ | q2
    · exact (x.gm.own k hk q2).2.2 (by rw [← q1, ← q])
    · omega
theorem Gst.rowA (x : Gst R N A w0 X gb n r w p h) (k : Nat) (hk : k < 4) (o : Obj) : GRow (w.alloc o) (gty k) (gsz k) (r k) :=
  (x.gm.row k hk).at (fun h0 => (Below.alloc0 w o).block _ (x.gm.own k hk h0).2.1)
end

/-- The cells of a graph's lists. -/
def gF0 (s : Nat) : Nat → Value := fun i => .int .i64 (Tm.hand 1 (s + i) (Tm.lg (s + i)))
def gF1 : Nat → Value := fun i => .int .i64 (Tm.hand 3 i 1)
def gF2 (vs : Nat → Int) : Nat → Value := fun i => .int .i64 (vs i)
def gF3 (rs : Nat → Nat → Int) : Nat → Value := fun q => .int .i64 (rs (q / 2) (q % 2))
theorem gF3_up (rs : Nat → Nat → Int) (i k : Nat) (hk : k < 2) (v : Int) : Tm.up (gF3 rs) (i * 2 + k) (.int .i64 v) = gF3 (Tm.up2 rs i k v) := by
  funext q
  unfold gF3 Tm.up2
  by_cases e : q = i * 2 + k
  · subst e
    rw [Tm.up_at, if_pos (by omega)]
  · rw [Tm.up_ne _ _ _ _ e, if_neg (by omega)]
theorem gF3_at (rs : Nat → Nat → Int) (i k : Nat) (hk : k < 2) : gF3 rs (i * 2 + k) = .int .i64 (rs i k) := by
  unfold gF3
  rw [show (i * 2 + k) / 2 = i by omega, show (i * 2 + k) % 2 = k by omega]
end Go.Proofs.YtcnmfljpmpgnjaaGreatDoor
