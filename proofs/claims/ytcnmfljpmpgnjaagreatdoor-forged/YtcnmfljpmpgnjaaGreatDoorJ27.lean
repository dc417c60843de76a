import Derived.Test.YtcnmfljpmpgnjaaGreatDoorJ26
import Derived.Test.YtcnmfljpmpgnjaaGreatDoorJ23
import Derived.Test.YtcnmfljpmpgnjaaGreatDoorJ00
import Derived.Deep.RegionLawGrows
namespace Go.Proofs.YtcnmfljpmpgnjaaGreatDoor
open Go.RowKit
open Tm (H Ob Sl Why)

def tellS (S : Nat → Prop) (be' : Nat) (b : Nat) : Prop := S b ∨ b = be'
def tellT (tag : Nat → Nat × Nat) (Y : Lay) (be' : Nat) (b : Nat) : Nat × Nat := if b = be' then (6, 0) else if b = Y.be ∧ 0 < Y.ce then (9, 0) else tag b
def tellY (Y : Lay) (be' ce' : Nat) : Lay := { Y with be := be', ce := ce', pe := some ⟨be', 0, none⟩ }

theorem ObjAt.sub {S S' : Nat → Prop} {tag tag' : Nat → Nat × Nat} {w : World} {b i kb vb : Nat} {o : Ob} (h : ObjAt S tag w b i kb vb o) (hs : ∀ b, S b → S' b) (ht : tag' b = (3, i)) (hk : 0 < o.kinds.length → (tag' kb).1 = 5) (hv : 0 < o.vals.length → tag' vb = (4, i)) : ObjAt S' tag' w b i kb vb o := by
  obtain ⟨kv, k1, k2⟩ := h.kinds
  obtain ⟨vv, v1, v2⟩ := h.vals
  exact ⟨hs _ h.s, ht, ⟨kv, k1, k2.sub hs⟩, hk, ⟨vv, v1, v2.sub hs⟩, hv, h.eq, h.len, h.pins, h.pin, h.name, h.gone⟩

/-- One name more is to be told. -/
theorem Rep.tell {S : Nat → Prop} {tag : Nat → Nat × Nat} {w w2 : World} {a : Nat} {Y : Lay} {h : H} (r : Rep S tag w a Y h) (x : Int) {be' ce' : Nat} (ap : Apd 3 w w2 Y.be Y.ce be' ce' h.ended.length (.int .i64 x)) :
    Rep (tellS S be') (tellT tag Y be') (w2.setCell ⟨a, 11, none⟩ (.slice (some ⟨be', 0, none⟩) (h.ended.length + 1) ce')) a (tellY Y be' ce') (h.tell x) := by
  have sa := r.tabs.sa
  have la := r.lt a sa
  have nl : ∀ b, S b → tag b ≠ (6, 0) → b ≠ be' := fun b hb ht e => by
    rcases ap.bl with ⟨e1, hc⟩ | h1
    · exact ht (by rw [e, e1]; exact (r.ended.one hc).2.2.1)
    · have := r.lt b hb; omega
  have keepT : ∀ b, S b → tag b ≠ (6, 0) → tellT tag Y be' b = tag b := fun b hb h6 => by
    unfold tellT
    rw [if_neg (nl b hb h6), if_neg (fun e => h6 (by rw [e.1]; exact (r.ended.one e.2).2.2.1))]
  have sub : ∀ b, S b → tellS S be' b := fun b hb => Or.inl hb
  have nota : ∀ b, tag b ≠ (0, 0) → b ≠ a := fun b hb e => hb (by rw [e]; exact r.tagA)
  have na6 : a ≠ be' := nl a sa (by rw [r.tagA]; simp)
  have oth : ∀ b, b ≠ a → (w2.setCell ⟨a, 11, none⟩ (.slice (some ⟨be', 0, none⟩) (h.ended.length + 1) ce')).heap[b]? = w2.heap[b]? := fun b hb => Below.heap_setCell _ _ _ _ (by simpa using hb)
  have same : ∀ b, S b → tag b ≠ (6, 0) → b ≠ a → (w2.setCell ⟨a, 11, none⟩ (.slice (some ⟨be', 0, none⟩) (h.ended.length + 1) ce')).heap[b]? = w.heap[b]? := fun b hb h6 ha => by
    rw [oth b ha, ap.old b (r.lt b hb) (nl b hb h6)]
  have ha2 : w2.heap[a]? = w.heap[a]? := ap.old a la na6
  have ai : ∀ {i : Nat}, i ≠ 11 → (w2.setCell ⟨a, 11, none⟩ (.slice (some ⟨be', 0, none⟩) (h.ended.length + 1) ce')).cell? ⟨a, i, none⟩ = w.cell? ⟨a, i, none⟩ := fun hi => by
    rw [World.cell?_setCell_other _ _ _ _ (fun e => hi (congrArg Addr.off e).symm), cell_of ha2]
  have hz := ap.size
  have c11 : w2.cell? ⟨a, 11, none⟩ = some (.slice Y.pe h.ended.length Y.ce) := by rw [cell_of ha2]; exact r.ended.head
  obtain ⟨cp, cc, c1, c2⟩ := r.classes
  have hlen : (h.tell x).ended.length = h.ended.length + 1 := by simp [H.tell]
  refine ⟨fun b hb => ?_, fun b i hb => ?_, ⟨sub _ sa, r.tabs.t0, by rw [ai (by omega)]; exact r.tabs.zero, fun k k0 k4 => ?_⟩, by rw [keepT a sa (by rw [r.tagA]; simp)]; exact r.tagA, fun k k0 k4 => ?_,
    by rw [ai (by omega)]; exact r.room, r.small, by rw [ai (by omega)]; exact r.frames, r.fr, by rw [ai (by omega)]; exact r.list, r.many, r.cap, fun h0 => ?_, fun h0 => ?_, r.capm, r.empty, fun i hi => ?_, fun i hi => ?_,
    ⟨by rw [hlen]; exact World.cell?_setCell_same _ _ _ c11, by rw [hlen]; exact ap.cap, ap.capm, fun _ => ⟨rfl, Or.inr rfl, ?_, ?_⟩, (fun e => by have h1 := ap.cap; have e' : ce' = 0 := e; omega), fun i hi => ?_⟩, ⟨cp, cc, by rw [ai (by omega)]; exact c1, fun h0 => ?_⟩, r.few, r.refs, fun i hi => ?_, r.wf⟩
  · rw [World.size_setCell]
    rcases hb with hb | rfl
    · have := r.lt b hb; omega
    · exact ap.lt
  · rw [World.frozen?_setCell]
    by_cases e : b = be'
    · subst e
      obtain ⟨cur, q, _⟩ := ap.block
      simp [World.frozen?, q]
    · rcases hb with hb | hb
      · rw [frozen_of (ap.old b (r.lt b hb) e)]; exact r.soft b i hb
      · exact absurd hb e
  · have tb := r.tabs.tab k k0 k4
    have tk := r.tagT k k0 k4
    have hb := same (Y.bt k) tb.sb (by rw [tk]; simp) (nota _ (by rw [tk]; simp))
    exact ⟨sub _ tb.sa, sub _ tb.sb, tb.len, by rw [ai (by omega)]; exact tb.head, fun i hi => by rw [show (tellY Y be' ce').bt k = Y.bt k from rfl, cell_of hb]; exact tb.gen i hi, fun i hi => by rw [show (tellY Y be' ce').bt k = Y.bt k from rfl, cell_of hb]; exact tb.ob i hi, fun i hi => by rw [show (tellY Y be' ce').bt k = Y.bt k from rfl, cell_of hb]; exact tb.frame i hi, fun i => by rw [show (tellY Y be' ce').bt k = Y.bt k from rfl, frozen_of hb]; exact tb.soft i⟩
  · have tb := r.tabs.tab k k0 k4
    have tk := r.tagT k k0 k4
    rw [show (tellY Y be' ce').bt k = Y.bt k from rfl, keepT _ tb.sb (by rw [tk]; simp)]
    exact tk
  · obtain ⟨q1, q2, q3⟩ := r.listAt h0
    exact ⟨q1, sub _ q2, by rw [show (tellY Y be' ce').bL = Y.bL from rfl, keepT _ q2 (by rw [q3]; simp)]; exact q3⟩
  · obtain ⟨q1, q2, q3⟩ := r.listAt h0
    rw [show (tellY Y be' ce').bL = Y.bL from rfl, same _ q2 (by rw [q3]; simp) (nota _ (by rw [q3]; simp))]; exact r.block h0
  · have := r.cap
    have hi' : i < h.l.length := hi
    obtain ⟨q1, q2, q3⟩ := r.listAt (by omega)
    rw [show (tellY Y be' ce').bL = Y.bL from rfl, cell_of (same _ q2 (by rw [q3]; simp) (nota _ (by rw [q3]; simp)))]; exact r.ptr i hi
  · have oi := r.obj i hi
    have so := oi.s
    obtain ⟨kv, k1, kpp, kcc, k2, k3, k4⟩ := oi.kinds
    obtain ⟨vv, v1, vpp, vcc, v2, v3, v4⟩ := oi.vals
    have t5 : 0 < (h.l.getD i Tm.ob0).kinds.length → tag (Y.kb i) ≠ (6, 0) ∧ tag (Y.kb i) ≠ (0, 0) := fun h0 => ⟨fun e => by have := oi.kt h0; rw [e] at this; simp at this, fun e => by have := oi.kt h0; rw [e] at this; simp at this⟩
    refine (oi.at (same _ so (by rw [oi.t]; simp) (nota _ (by rw [oi.t]; simp))) (fun h0 => same _ (k3 h0).2 (t5 h0).1 (nota _ (t5 h0).2)) (fun h0 => same _ (v3 h0).2 (by rw [oi.vt h0]; simp) (nota _ (by rw [oi.vt h0]; simp)))).sub sub ?_ ?_ ?_
    · rw [keepT _ so (by rw [oi.t]; simp)]; exact oi.t
    · exact fun h0 => by rw [keepT _ (k3 h0).2 (t5 h0).1]; exact oi.kt h0
    · exact fun h0 => by rw [keepT _ (v3 h0).2 (by rw [oi.vt h0]; simp)]; exact oi.vt h0
  · show tellT tag Y be' be' = (6, 0)
    unfold tellT; rw [if_pos rfl]
  · show ∃ cur : Array Value, (w2.setCell ⟨a, 11, none⟩ (.slice (some ⟨be', 0, none⟩) (h.ended.length + 1) ce')).heap[be']? = _ ∧ _
    rw [oth be' (fun e => na6 e.symm)]; exact ap.block
  · show (w2.setCell ⟨a, 11, none⟩ (.slice (some ⟨be', 0, none⟩) (h.ended.length + 1) ce')).cell? ⟨be', i, none⟩ = _
    rw [hlen] at hi
    rw [cell_of (oth be' (fun e => na6 e.symm))]
    by_cases e : i = h.ended.length
    · subst e
      rw [ap.last]; simp [H.tell]
    · rw [ap.keep i (by omega), r.ended.cells i (by omega)]
      have : i < h.ended.length := by omega
      simp [H.tell, List.getD_eq_getElem?_getD, List.getElem?_append_left this]
  · obtain ⟨q1, q2, q3⟩ := c2 h0
    exact ⟨q1, sub _ q2, by rw [show (tellY Y be' ce').bc = Y.bc from rfl, keepT _ q2 (by rw [q3]; simp)]; exact q3⟩
  · obtain ⟨h1, h2, v, h3, h4⟩ := r.clas i hi
    obtain ⟨q1, q2, q3⟩ := c2 (by have : i < h.classes.length := hi; omega)
    obtain ⟨pp, pc, p1, p2, p3⟩ := h4
    have t7 : (tag (Y.cb i)).1 = 5 → tag (Y.cb i) ≠ (6, 0) ∧ tag (Y.cb i) ≠ (0, 0) := fun q => ⟨fun e => by rw [e] at q; simp at q, fun e => by rw [e] at q; simp at q⟩
    refine ⟨h1, ?_, v, ?_, ?_⟩
    · rcases h2 with h2 | h2
      · by_cases h0 : 0 < (h.classes.getD i []).length
        · left
          show (tellT tag Y be' (Y.cb i)).1 = 5
          rw [keepT _ (p2 h0).2 (t7 h2).1]; exact h2
        · exact Or.inr (List.eq_nil_of_length_eq_zero (Nat.eq_zero_of_not_pos h0))
      · exact Or.inr h2
    · rw [show (tellY Y be' ce').bc = Y.bc from rfl, cell_of (same _ q2 (by rw [q3]; simp) (nota _ (by rw [q3]; simp)))]; exact h3
    · refine (IntsV.sub ⟨pp, pc, p1, p2, p3⟩ sub).at fun h0 => ?_
      rcases h2 with h2 | h2
      · exact same _ (p2 h0).2 (t7 h2).1 (nota _ (t7 h2).2)
      · have h0' : 0 < (h.classes.getD i []).length := h0
        rw [h2] at h0'; simp at h0'
end Go.Proofs.YtcnmfljpmpgnjaaGreatDoor

namespace Go.Proofs.YtcnmfljpmpgnjaaGreatDoor
open Go.RowKit

/-- What an append of some cells leaves. -/
structure ApdN (e : TypeId) (w w' : World) (bL cL bL' cL' n : Nat) (vs : List Value) : Prop where
  os : w'.os = w.os
  tape : w'.tape = w.tape
  output : w'.output = w.output
  size : w.heap.size ≤ w'.heap.size
  old : ∀ b, b < w.heap.size → b ≠ bL' → w'.heap[b]? = w.heap[b]?
  bl : (bL' = bL ∧ 0 < cL) ∨ w.heap.size ≤ bL'
  lt : bL' < w'.heap.size
  cap : n + vs.length ≤ cL'
  capm : cL' ≤ maxLen
  block : ∃ cur : Array Value, w'.heap[bL']? = some (.cells cur e (0, 0)) ∧ cur.size = cL'
  keep : ∀ i, i < n → w'.cell? ⟨bL', i, none⟩ = w.cell? ⟨bL, i, none⟩
  news : ∀ i v, vs[i]? = some v → w'.cell? ⟨bL', n + i, none⟩ = some v

theorem apdN_of_owns {e : TypeId} {w w' : World} {bL cL n : Nat} {vs : List Value} (hvs : 0 < vs.length) {cur : Array Value} {base : Nat} {row : Option Nat} {v' : Value} (hn : n ≤ cur.size) (hcur : 0 < n → w.heap[bL]? = some (.cells cur e (0, 0)))
    (hown : w'.ownsRow base e 1 v' (n + vs.length) (cur.toList.take n ++ vs)) (hg : w.grownBy w' row)
    (hb : ∀ g, v'.ownBlock = some g → (g = bL ∧ 0 < cL ∧ row = some g) ∨ (w.heap.size ≤ g ∧ row = none)) :
    ∃ bL' cL', v' = .slice (some ⟨bL', 0, none⟩) (n + vs.length) cL' ∧ ApdN e w w' bL cL bL' cL' n vs := by
  obtain ⟨h1, h2⟩ := hown
  rcases h2 with ⟨_, h2⟩ | ⟨g, cap, cur', rfl, hbase, hg', hcap, hcm, hsz, htk⟩
  · omega
  · have hlt : g < w'.heap.size := by
      rcases Nat.lt_or_ge g w'.heap.size with h | h
      · exact h
      · rw [Array.getElem?_eq_none h] at hg'; cases hg'
    have hcell : ∀ i, w'.cell? ⟨g, i, none⟩ = cur'[i]? := fun i => by simp [World.cell?, hg']
    have hti : ∀ i, i < n + vs.length → cur'[i]? = (cur.toList.take n ++ vs)[i]? := fun i hi => by
      rw [← htk, List.getElem?_take, if_pos (by omega)]; simp
    have hlen : (cur.toList.take n).length = n := by simp; omega
    refine ⟨g, cap, rfl, hg.os, hg.tape, hg.output, hg.size, fun b hb1 hb2 => ?_, ?_, hlt, hcap, hcm, ⟨cur', hg', by omega⟩, fun i hi => ?_, fun i v hv => ?_⟩
    · refine hg.block b hb1 (fun e => ?_)
      rcases hb g rfl with ⟨_, _, q⟩ | ⟨_, q⟩
      · rw [q] at e; exact hb2 (Option.some.inj e)
      · rw [q] at e; cases e
    · rcases hb g rfl with ⟨q1, q2, _⟩ | ⟨q1, _⟩
      · exact Or.inl ⟨q1, q2⟩
      · exact Or.inr q1
    · rw [hcell, hti i (by omega), List.getElem?_append_left (by omega), List.getElem?_take, if_pos hi]
      simp [World.cell?, hcur (by omega)]
    · have hi : i < vs.length := by
        rcases Nat.lt_or_ge i vs.length with h | h
        · exact h
        · rw [List.getElem?_eq_none h] at hv; cases hv
      rw [hcell, hti _ (by omega), List.getElem?_append_right (by omega), hlen]
      rw [show n + i - n = i from by omega]; exact hv

theorem wpList_putN {P : Program} (w : World) {ops : Array Oper} {rest : List Oper} {o : Oper} {a : Act} {Q : Exit → Act → World → Prop}
    (hg : o.guard = none) (s x : Operand) (t : TypeId) (hop : o.op = Op.call { callee := Callee.builtin Builtin.append, args := #[s, x], argTypes := #[t, t] })
    (e : TypeId) (i : TypeInfo) (z : Value) (bytes : Nat) (h1 : P.underlying t = some (.slice e)) (h2 : P.info? e = some i) (h3 : i.zero = some z) (h4 : i.size = 1) (h5 : i.bytes = bytes) (h6 : z.cells.size = 1)
    (pL : Option Addr) (n cL bL : Nat) (hs : a.eval s = .slice pL n cL) (hL : 0 < cL → pL = some ⟨bL, 0, none⟩ ∧ ∃ cur : Array Value, w.heap[bL]? = some (.cells cur e (0, 0)) ∧ cur.size = cL) (hcap : n ≤ cL) (hcm : cL ≤ maxLen)
    (ad : Addr) (k c : Nat) (vs : List Value) (hk : vs.length = k) (hk0 : 0 < k) (hx : a.eval x = .slice (some ad) k c) (hc : ∀ j u, vs[j]? = some u → w.cell? (ad.add j) = some u) (hv : ∀ u ∈ vs, u.oneCell' = true)
    (b1 : n + k ≤ maxLen) (b2 : (n + k) * bytes ≤ 140737488355328)
    (hK : ∀ w' bL' cL', ApdN e w w' bL cL bL' cL' n vs → (bL' = bL → 0 < cL → cL' = cL) → wpList P ops Q rest (a.put o.dst (.slice (some ⟨bL', 0, none⟩) (n + k) cL')) w') :
    wpList P ops Q (o :: rest) a w := by
  subst hk
  rcases Nat.eq_zero_or_pos cL with h0 | h0
  · have hn : n = 0 := by omega
    subst hn
    refine wpList_append_grows w hg s x t hop e i z 1 bytes h1 h2 h3 h4 h5 h6 (by decide) pL 0 cL [] hs (fun _ => ⟨rfl, h0⟩) rfl (by intro _ _ _ _ h; simp at h) ad vs.length c vs hx (by simp) hc hv (by omega) b1 b2 ?_
    intro v' w' hown hgr
    obtain ⟨bL', cL', rfl, ap⟩ := apdN_of_owns hk0 (cur := #[]) (bL := bL) (cL := cL) (Nat.zero_le _) (fun h => absurd h (by omega)) (by simpa using hown) hgr (fun g hg => Or.inr ⟨(hown.lt g hg).1, rfl⟩)
    exact hK w' bL' cL' ap (fun _ q => absurd q (by omega))
  · obtain ⟨rfl, cur, hb, hsz⟩ := hL h0
    by_cases hf : n + vs.length ≤ cL
    · refine wpList_append_fits w hg s x t hop 0 e i 1 h1 h2 h4 bL n cL (cur.toList.take n) hs ⟨by simp; omega, .inr ⟨bL, cL, cur, rfl, Nat.zero_le _, hb, hcap, hcm, by omega, by simp⟩⟩ ad vs.length c vs hx (by simp) hc hv hf ?_
      intro w' hown hgr
      obtain ⟨bL', cL', e1, ap⟩ := apdN_of_owns hk0 (cur := cur) (bL := bL) (cL := cL) (by omega) (fun _ => hb) hown hgr (fun g hg => Or.inl ⟨by simpa [Value.ownBlock] using hg.symm, h0, by simp only [Value.ownBlock, Option.some.injEq] at hg; rw [← hg]⟩)
      simp only [Value.slice.injEq, Option.some.injEq, Addr.mk.injEq, and_true, true_and] at e1
      obtain ⟨rfl, rfl⟩ := e1
      exact hK w' bL cL ap (fun _ _ => rfl)
    · refine wpList_append_grows w hg s x t hop e i z 1 bytes h1 h2 h3 h4 h5 h6 (by decide) _ n cL (cur.toList.take n) hs (fun e => by cases e) (by simp; omega) (fun b hb' j u hj => ?_) ad vs.length c vs hx (by simp) hc hv (by omega) b1 b2 ?_
      · simp only [Option.some.injEq] at hb'
        subst hb'
        rw [List.getElem?_take] at hj
        split at hj
        · rw [Addr.add_lit]
          simpa [World.cell?, hb] using hj
        · cases hj
      · intro v' w' hown hgr
        obtain ⟨bL', cL', rfl, ap⟩ := apdN_of_owns hk0 (cur := cur) (bL := bL) (cL := cL) (by omega) (fun _ => hb) hown hgr (fun g hg => Or.inr ⟨(hown.lt g hg).1, rfl⟩)
        refine hK w' bL' cL' ap (fun q _ => ?_)
        have h9 := (hown.lt bL' rfl).1
        have h8 : bL < w.heap.size := by
          rcases Nat.lt_or_ge bL w.heap.size with h | h
          · exact h
          · rw [Array.getElem?_eq_none h] at hb; cases hb
        omega
end Go.Proofs.YtcnmfljpmpgnjaaGreatDoor

namespace Go.Proofs.YtcnmfljpmpgnjaaGreatDoor
open Go.RowKit

/-- An append of some cells, as a step of a region that draws. -/
theorem step_putN {P : Program} {w : World} {ops : Array Oper} {o : Oper} {a : Act} {K : Act → World → Prop} {Q : Exit → Act → World → Prop} {E : Prop}
    (hg : o.guard = none) (s x : Operand) (t : TypeId) (hop : o.op = Op.call { callee := Callee.builtin Builtin.append, args := #[s, x], argTypes := #[t, t] })
    (e : TypeId) (i : TypeInfo) (z : Value) (bytes : Nat) (h1 : P.underlying t = some (.slice e)) (h2 : P.info? e = some i) (h3 : i.zero = some z) (h4 : i.size = 1) (h5 : i.bytes = bytes) (h6 : z.cells.size = 1)
    (pL : Option Addr) (n cL bL : Nat) (hs : a.eval s = .slice pL n cL) (hL : 0 < cL → pL = some ⟨bL, 0, none⟩ ∧ ∃ cur : Array Value, w.heap[bL]? = some (.cells cur e (0, 0)) ∧ cur.size = cL) (hcap : n ≤ cL) (hcm : cL ≤ maxLen)
    (ad : Addr) (k c : Nat) (vs : List Value) (hk : vs.length = k) (hk0 : 0 < k) (hx : a.eval x = .slice (some ad) k c) (hc : ∀ j u, vs[j]? = some u → w.cell? (ad.add j) = some u) (hv : ∀ u ∈ vs, u.oneCell' = true)
    (b1 : n + k ≤ maxLen) (b2 : (n + k) * bytes ≤ 140737488355328)
    (hK : ∀ w' bL' cL', ApdN e w w' bL cL bL' cL' n vs → (bL' = bL → 0 < cL → cL' = cL) → K (a.put o.dst (.slice (some ⟨bL', 0, none⟩) (n + k) cL')) w') :
    if Region.wanted o (yielded ops a.tmps) = true then Oper.wp P o a w K Q else E := by
  subst hk
  rcases Nat.eq_zero_or_pos cL with h0 | h0
  · have hn : n = 0 := by omega
    subst hn
    refine step_append_grows hg s x t hop e i z 1 bytes h1 h2 h3 h4 h5 h6 (by decide) pL 0 cL [] hs (fun _ => ⟨rfl, h0⟩) rfl (by intro _ _ _ _ h; simp at h) ad vs.length c vs hx (by simp) hc hv (by omega) b1 b2 ?_
    intro v' w' hown hgr
    obtain ⟨bL', cL', rfl, ap⟩ := apdN_of_owns hk0 (cur := #[]) (bL := bL) (cL := cL) (Nat.zero_le _) (fun h => absurd h (by omega)) (by simpa using hown) hgr (fun g hg => Or.inr ⟨(hown.lt g hg).1, rfl⟩)
    exact hK w' bL' cL' ap (fun _ q => absurd q (by omega))
  · obtain ⟨rfl, cur, hb, hsz⟩ := hL h0
    by_cases hf : n + vs.length ≤ cL
    · have hw : Region.wanted o (yielded ops a.tmps) = true := by simp [Region.wanted, hg]
      rw [if_pos hw]
      obtain ⟨w', hrun, hown, hgr⟩ := run_append_fits (P := P) w 0 t o.type e i 1 h1 h2 h4 bL n cL (cur.toList.take n) ⟨by simp; omega, .inr ⟨bL, cL, cur, rfl, Nat.zero_le _, hb, hcap, hcm, by omega, by simp⟩⟩ ad vs.length c vs (by simp) hc hv hf
      unfold Oper.wp
      simp [execOp, hop, resolve, invoke, builtin, hs, hx, hrun, Result.andThen]
      obtain ⟨bL', cL', e1, ap⟩ := apdN_of_owns hk0 (cur := cur) (bL := bL) (cL := cL) (by omega) (fun _ => hb) hown hgr (fun g hg => Or.inl ⟨by simpa [Value.ownBlock] using hg.symm, h0, by simp only [Value.ownBlock, Option.some.injEq] at hg; rw [← hg]⟩)
      simp only [Value.slice.injEq, Option.some.injEq, Addr.mk.injEq, and_true, true_and] at e1
      obtain ⟨rfl, rfl⟩ := e1
      exact hK w' bL cL ap (fun _ _ => rfl)
    · refine step_append_grows hg s x t hop e i z 1 bytes h1 h2 h3 h4 h5 h6 (by decide) _ n cL (cur.toList.take n) hs (fun e => by cases e) (by simp; omega) (fun b hb' j u hj => ?_) ad vs.length c vs hx (by simp) hc hv (by omega) b1 b2 ?_
      · simp only [Option.some.injEq] at hb'
        subst hb'
        rw [List.getElem?_take] at hj
        split at hj
        · rw [Addr.add_lit]
          simpa [World.cell?, hb] using hj
        · cases hj
      · intro v' w' hown hgr
        obtain ⟨bL', cL', rfl, ap⟩ := apdN_of_owns hk0 (cur := cur) (bL := bL) (cL := cL) (by omega) (fun _ => hb) hown hgr (fun g hg => Or.inr ⟨(hown.lt g hg).1, rfl⟩)
        refine hK w' bL' cL' ap (fun q _ => ?_)
        have h9 := (hown.lt bL' rfl).1
        have h8 : bL < w.heap.size := by
          rcases Nat.lt_or_ge bL w.heap.size with h | h
          · exact h
          · rw [Array.getElem?_eq_none h] at hb; cases hb
        omega

theorem ApdN.apd {e : TypeId} {w w' : World} {bL cL bL' cL' n : Nat} {v : Value} (h : ApdN e w w' bL cL bL' cL' n [v]) : Apd e w w' bL cL bL' cL' n v :=
  ⟨h.os, h.tape, h.output, h.size, h.old, h.bl, h.lt, h.cap, h.capm, h.block, h.keep, by have := h.news 0 v rfl; simpa using this⟩
end Go.Proofs.YtcnmfljpmpgnjaaGreatDoor
