import Derived.Test.YtcnmfljpmpgnjaaGreatDoorK00
import Derived.Test.YtcnmfljpmpgnjaaGreatDoorK23
namespace Go.Proofs.YtcnmfljpmpgnjaaGreatDoor
open Go.RowKit

/-- What an append of one element of two cells leaves. -/
structure Apd2 (e : TypeId) (w w' : World) (bL cL bL' cL' n : Nat) (u v : Value) : Prop where
  os : w'.os = w.os
  tape : w'.tape = w.tape
  output : w'.output = w.output
  size : w.heap.size ≤ w'.heap.size
  old : ∀ b, b < w.heap.size → b ≠ bL' → w'.heap[b]? = w.heap[b]?
  bl : (bL' = bL ∧ 0 < cL) ∨ w.heap.size ≤ bL'
  lt : bL' < w'.heap.size
  cap : n + 1 ≤ cL'
  capm : cL' ≤ maxLen
  block : ∃ cur : Array Value, w'.heap[bL']? = some (.cells cur e (0, 0)) ∧ cur.size = cL' * 2
  keep : ∀ i, i < n * 2 → w'.cell? ⟨bL', i, none⟩ = w.cell? ⟨bL, i, none⟩
  last0 : w'.cell? ⟨bL', n * 2, none⟩ = some u
  last1 : w'.cell? ⟨bL', n * 2 + 1, none⟩ = some v

theorem apd2_of_owns {e : TypeId} {w w' : World} {bL cL n : Nat} {u v : Value} {cur : Array Value} {base : Nat} {row : Option Nat} {v' : Value} (hn : n * 2 ≤ cur.size) (hcur : 0 < n → w.heap[bL]? = some (.cells cur e (0, 0)))
    (hown : w'.ownsRow base e 2 v' (n + 1) (cur.toList.take (n * 2) ++ [u, v])) (hg : w.grownBy w' row)
    (hb : ∀ g, v'.ownBlock = some g → (g = bL ∧ 0 < cL ∧ row = some g) ∨ (w.heap.size ≤ g ∧ row = none)) :
    ∃ bL' cL', v' = .slice (some ⟨bL', 0, none⟩) (n + 1) cL' ∧ Apd2 e w w' bL cL bL' cL' n u v := by
  obtain ⟨h1, h2⟩ := hown
  rcases h2 with ⟨_, h2⟩ | ⟨g, cap, cur', rfl, hbase, hg', hcap, hcm, hsz, htk⟩
  · omega
  · have hlt : g < w'.heap.size := by
      rcases Nat.lt_or_ge g w'.heap.size with h | h
      · exact h
      · rw [Array.getElem?_eq_none h] at hg'; cases hg'
    have hcell : ∀ i, w'.cell? ⟨g, i, none⟩ = cur'[i]? := fun i => by simp [World.cell?, hg']
    have hti : ∀ i, i < n * 2 + 2 → cur'[i]? = (cur.toList.take (n * 2) ++ [u, v])[i]? := fun i hi => by
      rw [← htk, List.getElem?_take, if_pos (by omega)]; simp
    have hlen : (cur.toList.take (n * 2)).length = n * 2 := by simp; omega
    refine ⟨g, cap, rfl, hg.os, hg.tape, hg.output, hg.size, fun b hb1 hb2 => ?_, ?_, hlt, hcap, hcm, ⟨cur', hg', by omega⟩, fun i hi => ?_, ?_, ?_⟩
    · refine hg.block b hb1 (fun e => ?_)
      rcases hb g rfl with ⟨_, _, q⟩ | ⟨_, q⟩
      · rw [q] at e; exact hb2 (Option.some.inj e)
      · rw [q] at e; cases e
    · rcases hb g rfl with ⟨q1, q2, _⟩ | ⟨q1, _⟩
      · exact Or.inl ⟨q1, q2⟩
      · exact Or.inr q1
    · rw [hcell, hti i (by omega), List.getElem?_append_left (by omega), List.getElem?_take, if_pos hi]
      simp [World.cell?, hcur (by omega)]
    · rw [hcell, hti _ (by omega), List.getElem?_append_right (by omega), hlen]
      simp
    · rw [hcell, hti _ (by omega), List.getElem?_append_right (by omega), hlen]
      simp

theorem wpList_put2 {P : Program} (w : World) {ops : Array Oper} {rest : List Oper} {o : Oper} {a : Act} {Q : Exit → Act → World → Prop}
    (hg : o.guard = none) (s x : Operand) (t : TypeId) (hop : o.op = Op.call { callee := Callee.builtin Builtin.append, args := #[s, x], argTypes := #[t, t] })
    (e : TypeId) (i : TypeInfo) (z : Value) (bytes : Nat) (h1 : P.underlying t = some (.slice e)) (h2 : P.info? e = some i) (h3 : i.zero = some z) (h4 : i.size = 2) (h5 : i.bytes = bytes) (h6 : z.cells.size = 2)
    (pL : Option Addr) (n cL bL : Nat) (hs : a.eval s = .slice pL n cL) (hL : 0 < cL → pL = some ⟨bL, 0, none⟩ ∧ ∃ cur : Array Value, w.heap[bL]? = some (.cells cur e (0, 0)) ∧ cur.size = cL * 2) (hL0 : cL = 0 → pL = none) (hcap : n ≤ cL) (hcm : cL ≤ maxLen)
    (ad : Addr) (c : Nat) (u v : Value) (hx : a.eval x = .slice (some ad) 1 c) (hc0 : w.cell? (ad.add 0) = some u) (hc1 : w.cell? (ad.add 1) = some v) (hu : u.oneCell' = true) (hv : v.oneCell' = true)
    (b1 : n + 1 ≤ maxLen) (b2 : (n + 1) * bytes ≤ 140737488355328)
    (hK : ∀ w' bL' cL', Apd2 e w w' bL cL bL' cL' n u v → wpList P ops Q rest (a.put o.dst (.slice (some ⟨bL', 0, none⟩) (n + 1) cL')) w') :
    wpList P ops Q (o :: rest) a w := by
  have hnews : ∀ j q, [u, v][j]? = some q → w.cell? (ad.add j) = some q := fun j q hj => by
    match j, hj with
    | 0, hj => simp at hj; subst hj; exact hc0
    | 1, hj => simp at hj; subst hj; exact hc1
  have hone : ∀ q ∈ [u, v], q.oneCell' = true := fun q hq => by
    simp at hq
    rcases hq with rfl | rfl
    · exact hu
    · exact hv
  rcases Nat.eq_zero_or_pos cL with h0 | h0
  · have hn : n = 0 := by omega
    subst hn
    refine wpList_append_grows w hg s x t hop e i z 2 bytes h1 h2 h3 h4 h5 h6 (by decide) pL 0 cL [] hs (fun _ => ⟨rfl, h0⟩) rfl (by intro _ _ _ _ h; simp at h) ad 1 c [u, v] hx rfl hnews hone (by omega) b1 b2 ?_
    intro v' w' hown hgr
    obtain ⟨bL', cL', rfl, ap⟩ := apd2_of_owns (cur := #[]) (bL := bL) (cL := cL) (n := 0) (Nat.zero_le _) (fun h => absurd h (by omega)) (by simpa using hown) hgr (fun g hg => Or.inr ⟨(hown.lt g hg).1, rfl⟩)
    exact hK w' bL' cL' ap
  · obtain ⟨rfl, cur, hb, hsz⟩ := hL h0
    by_cases hf : n + 1 ≤ cL
    · refine wpList_append_fits w hg s x t hop 0 e i 2 h1 h2 h4 bL n cL (cur.toList.take (n * 2)) hs ⟨by simp; omega, .inr ⟨bL, cL, cur, rfl, Nat.zero_le _, hb, hcap, hcm, by omega, rfl⟩⟩ ad 1 c [u, v] hx rfl hnews hone hf ?_
      intro w' hown hgr
      obtain ⟨bL', cL', e1, ap⟩ := apd2_of_owns (cur := cur) (bL := bL) (cL := cL) (n := n) (by omega) (fun _ => hb) hown hgr (fun g hg => Or.inl ⟨by simpa [Value.ownBlock] using hg.symm, h0, by simp only [Value.ownBlock, Option.some.injEq] at hg; rw [← hg]⟩)
      simp only [Value.slice.injEq, Option.some.injEq, Addr.mk.injEq, and_true, true_and] at e1
      obtain ⟨rfl, rfl⟩ := e1
      exact hK w' bL cL ap
    · refine wpList_append_grows w hg s x t hop e i z 2 bytes h1 h2 h3 h4 h5 h6 (by decide) _ n cL (cur.toList.take (n * 2)) hs (fun e => by cases e) (by simp; omega) (fun b hb' j q hj => ?_) ad 1 c [u, v] hx rfl hnews hone (by omega) b1 b2 ?_
      · simp only [Option.some.injEq] at hb'
        subst hb'
        rw [List.getElem?_take] at hj
        split at hj
        · rw [Addr.add_lit]
          simpa [World.cell?, hb] using hj
        · cases hj
      · intro v' w' hown hgr
        obtain ⟨bL', cL', rfl, ap⟩ := apd2_of_owns (cur := cur) (bL := bL) (cL := cL) (n := n) (by omega) (fun _ => hb) hown hgr (fun g hg => Or.inr ⟨(hown.lt g hg).1, rfl⟩)
        exact hK w' bL' cL' ap
end Go.Proofs.YtcnmfljpmpgnjaaGreatDoor

namespace Go.Proofs.YtcnmfljpmpgnjaaGreatDoor
open Go.RowKit

/-- What 'append(nil, row...)' leaves. -/
structure Cpy (w w' : World) (rp : Option Addr) (rc cb : Nat) (row : List Int) : Prop where
  os : w'.os = w.os
  tape : w'.tape = w.tape
  output : w'.output = w.output
  size : w.heap.size ≤ w'.heap.size
  old : ∀ b, b < w.heap.size → w'.heap[b]? = w.heap[b]?
  row : 0 < row.length → rp = some ⟨cb, 0, none⟩ ∧ w.heap.size ≤ cb ∧ cb < w'.heap.size ∧ (∀ i, w'.frozen? ⟨cb, i, none⟩ = false) ∧ ∀ i, i < row.length → w'.cell? ⟨cb, i, none⟩ = some (.int .i64 (row.getD i 0))

theorem run_append_none {P : Program} (w : World) (t ty e : TypeId) (i : TypeInfo) (q : Option Addr) (c : Nat) (h1 : P.underlying t = some (.slice e)) (h2 : P.info? e = some i) :
    (Builtin.append_ #[t, t] ty #[.slice none 0 0, .slice q 0 c]).run P w = .ok (.slice none 0 0) w := by
  cases q with
  | none => simp [Builtin.append_, run_underlying h1, sizeOf, typeInfo, h2, Builtin.lenOf, Builtin.firstCells]
  | some a =>
    have hf := run_firstCells_some (P := P) w i.size 0 a 0 c [] (by simp) (by intro j u h; simp at h)
    simp [Builtin.append_, run_underlying h1, sizeOf, typeInfo, h2, Builtin.lenOf, hf]

theorem wpList_copy0 {P : Program} (w : World) {ops : Array Oper} {rest : List Oper} {o : Oper} {a : Act} {Q : Exit → Act → World → Prop}
    (hg : o.guard = none) (s x : Operand) (t : TypeId) (hop : o.op = Op.call { callee := Callee.builtin Builtin.append, args := #[s, x], argTypes := #[t, t] })
    (e : TypeId) (i : TypeInfo) (z : Value) (h1 : P.underlying t = some (.slice e)) (h2 : P.info? e = some i) (h3 : i.zero = some z) (h4 : i.size = 1) (h5 : i.bytes = 8) (h6 : z.cells.size = 1)
    (hs : a.eval s = .slice none 0 0) (q : Option Addr) (c : Nat) (row : List Int) (hx : a.eval x = .slice q row.length c)
    (hrow : 0 < row.length → ∃ b off, q = some ⟨b, off, none⟩ ∧ ∀ j, j < row.length → w.cell? ⟨b, off + j, none⟩ = some (.int .i64 (row.getD j 0))) (hl : row.length ≤ 17592186044416)
    (hK : ∀ w' rp rc cb, Cpy w w' rp rc cb row → wpList P ops Q rest (a.put o.dst (.slice rp row.length rc)) w') :
    wpList P ops Q (o :: rest) a w := by
  rcases Nat.eq_zero_or_pos row.length with h0 | h0
  · refine wpList_plain hg fun K hK' => ?_
    have hk := hK w none 0 0 ⟨rfl, rfl, rfl, Nat.le_refl _, fun _ _ => rfl, fun h => by omega⟩
    rw [h0] at hx hk
    have hrun := run_append_none (P := P) w t o.type e i q c h1 h2
    unfold Oper.wp
    simp [execOp, hop, resolve, invoke, builtin, hs, hx, hrun, Result.andThen]
    exact hK' _ _ hk
  · obtain ⟨b, off, rfl, hcell⟩ := hrow h0
    refine wpList_append_grows w hg s x t hop e i z 1 8 h1 h2 h3 h4 h5 h6 (by decide) none 0 0 [] hs (fun _ => ⟨rfl, rfl⟩) rfl (by intro _ _ _ _ h; simp at h) ⟨b, off, none⟩ row.length c (row.map (Value.int .i64)) hx (by simp) (fun j u hj => ?_) (fun u hu => ?_) (by omega) (by unfold maxLen; omega) (by omega) ?_
    · rw [Addr.add_lit]
      simp only [List.getElem?_map, Option.map_eq_some_iff] at hj
      obtain ⟨y, hy, rfl⟩ := hj
      have hjl : j < row.length := by
        rcases Nat.lt_or_ge j row.length with h | h
        · exact h
        · rw [List.getElem?_eq_none h] at hy; cases hy
      rw [hcell j hjl]
      simp [List.getD_eq_getElem?_getD, hy]
    · obtain ⟨y, _, rfl⟩ := List.mem_map.1 hu; rfl
    · intro v' w' hown hgr
      have hlt := hown.lt
      obtain ⟨hlen, h | ⟨g, cap, cur, rfl, hbase, hgb, hcap, hcm, hsz, htk⟩⟩ := hown
      · omega
      · rw [show (0 : Nat) + row.length = row.length from by omega] at hlen hcap htk ⊢
        refine hK w' (some ⟨g, 0, none⟩) cap g ⟨hgr.os, hgr.tape, hgr.output, hgr.size, fun b hb => hgr.block b hb (by simp), fun _ => ⟨rfl, hbase, (hlt g rfl).2, fun i => by simp [World.frozen?, hgb], fun i hi => ?_⟩⟩
        simp only [World.cell?, hgb]
        have : cur[i]? = (row.map (Value.int .i64))[i]? := by
          have h9 : (cur.toList.take (row.length * 1))[i]? = ([] ++ row.map (Value.int .i64))[i]? := by rw [htk]
          rw [List.getElem?_take, if_pos (by omega)] at h9
          simpa using h9
        simp [this, List.getD_eq_getElem?_getD, List.getElem?_eq_getElem hi]
end Go.Proofs.YtcnmfljpmpgnjaaGreatDoor

namespace Go.Proofs.YtcnmfljpmpgnjaaGreatDoor
open Go.RowKit
open Tm (H Ob Sl Why)

/-- What the world is when one class more has been written down. -/
structure PutC (w w' : World) (a : Nat) (bc bc' cc' cb n : Nat) (rp : Option Addr) (rc : Nat) (row : List Int) : Prop where
  size : w.heap.size ≤ w'.heap.size
  old : ∀ b, b < w.heap.size → b ≠ a → b ≠ bc' → w'.heap[b]? = w.heap[b]?
  a12 : w'.cell? ⟨a, 12, none⟩ = some (.slice (some ⟨bc', 0, none⟩) (n + 1) cc')
  ai : ∀ i, i ≠ 12 → w'.cell? ⟨a, i, none⟩ = w.cell? ⟨a, i, none⟩
  bl : (bc' = bc ∧ 0 < n) ∨ w.heap.size ≤ bc'
  bl1 : bc' < w'.heap.size
  keep : ∀ i, i < n → w'.cell? ⟨bc', i, none⟩ = w.cell? ⟨bc, i, none⟩
  last : w'.cell? ⟨bc', n, none⟩ = some (.slice rp row.length rc)
  row : 0 < row.length → rp = some ⟨cb, 0, none⟩ ∧ w.heap.size ≤ cb ∧ cb < w'.heap.size ∧ cb ≠ bc' ∧ (∀ i, w'.frozen? ⟨cb, i, none⟩ = false) ∧ ∀ i, i < row.length → w'.cell? ⟨cb, i, none⟩ = some (.int .i64 (row.getD i 0))
  soft : ∀ b i, b < w.heap.size → w.frozen? ⟨b, i, none⟩ = false → w'.frozen? ⟨b, i, none⟩ = false
  softc : ∀ i, w'.frozen? ⟨bc', i, none⟩ = false

def addH (h : H) (row : List Int) : H := { h with classes := h.classes ++ [row] }
def addS (S : Nat → Prop) (bc' cb kn : Nat) (b : Nat) : Prop := S b ∨ b = bc' ∨ (b = cb ∧ 0 < kn)
def addT (tag : Nat → Nat × Nat) (bc bc' cb n kn : Nat) (b : Nat) : Nat × Nat :=
  if b = bc' then (7, 0) else if b = cb ∧ 0 < kn then (5, 0) else if b = bc ∧ 0 < n then (9, 0) else tag b
def addY (Y : Lay) (bc' cb n : Nat) : Lay := { Y with bc := bc', cb := fun i => if i = n then cb else Y.cb i }

theorem Rep.addC {S : Nat → Prop} {tag : Nat → Nat × Nat} {w w' : World} {a : Nat} {Y : Lay} {h : H} (r : Rep S tag w a Y h) (hl0 : h.l = []) {bc' cc' cb rc : Nat} {rp : Option Addr} {row : List Int} (hrow : row.length ≤ 8) (hfew : h.classes.length < 8)
    (p : PutC w w' a Y.bc bc' cc' cb h.classes.length rp rc row) :
    Rep (addS S bc' cb row.length) (addT tag Y.bc bc' cb h.classes.length row.length) w' a (addY Y bc' cb h.classes.length) (addH h row) := by
  have sa := r.tabs.sa
  obtain ⟨cp, cc, c1, c2⟩ := r.classes
  have nl : ∀ b, S b → tag b ≠ (7, 0) → b ≠ bc' := fun b hb ht e => by
    rcases p.bl with ⟨q, q0⟩ | q
    · exact ht (by rw [e, q]; exact (c2 q0).2.2)
    · have := r.lt b hb; omega
  have nk : ∀ b, S b → ¬ (b = cb ∧ 0 < row.length) := fun b hb e => by have := (p.row e.2).2.1; have := r.lt b hb; omega
  have keepT : ∀ b, S b → tag b ≠ (7, 0) → addT tag Y.bc bc' cb h.classes.length row.length b = tag b := fun b hb h7 => by
    unfold addT
    rw [if_neg (nl b hb h7), if_neg (nk b hb), if_neg (fun e => h7 (by rw [e.1]; exact (c2 e.2).2.2))]
  have sub : ∀ b, S b → addS S bc' cb row.length b := fun b hb => Or.inl hb
  have same : ∀ b, S b → tag b ≠ (7, 0) → b ≠ a → w'.heap[b]? = w.heap[b]? := fun b hb h7 ha => p.old b (r.lt b hb) ha (nl b hb h7)
  have nota : ∀ b, tag b ≠ (0, 0) → b ≠ a := fun b hb e => hb (by rw [e]; exact r.tagA)
  have hcl : (addH h row).classes.length = h.classes.length + 1 := by simp [addH]
  have hL : h.l.length = 0 := by rw [hl0]; rfl
  refine ⟨fun b hb => ?_, fun b i hb => ?_, ⟨sub _ sa, r.tabs.t0, by rw [p.ai 6 (by omega)]; exact r.tabs.zero, fun k k0 k4 => ?_⟩, by rw [keepT a sa (by rw [r.tagA]; simp)]; exact r.tagA, fun k k0 k4 => ?_,
    by rw [p.ai 0 (by omega)]; exact r.room, r.small, by rw [p.ai 10 (by omega)]; exact r.frames, r.fr, by rw [p.ai 5 (by omega)]; exact r.list, r.many, r.cap, fun h0 => ?_, fun h0 => ?_, r.capm, r.empty, fun i hi => ?_, fun i hi => ?_,
    (r.ended.sub (sub _) (fun hb ht => by rw [keepT _ hb (by rw [ht]; simp)]; exact ht)).at (p.ai 11 (by omega)) (fun h0 => ?_), ⟨some ⟨bc', 0, none⟩, cc', by rw [hcl]; exact p.a12, fun _ => ⟨rfl, Or.inr (Or.inl rfl), ?_⟩⟩, by rw [hcl]; omega, fun i q hi => ?_, fun i hi => ?_, r.wf⟩
  · rcases hb with hb | rfl | ⟨rfl, h0⟩
    · have := r.lt b hb; have := p.size; omega
    · exact p.bl1
    · exact (p.row h0).2.2.1
  · rcases hb with hb | rfl | ⟨rfl, h0⟩
    · exact p.soft b i (r.lt b hb) (r.soft b i hb)
    · exact p.softc i
    · exact (p.row h0).2.2.2.2.1 i
  · have tb := r.tabs.tab k k0 k4
    have tk := r.tagT k k0 k4
    have hb := same (Y.bt k) tb.sb (by rw [tk]; simp) (nota _ (by rw [tk]; simp))
    exact ⟨sub _ tb.sa, sub _ tb.sb, tb.len, by rw [p.ai (6 + k) (by omega)]; exact tb.head, fun i hi => by rw [show (addY Y bc' cb h.classes.length).bt k = Y.bt k from rfl, cell_of hb]; exact tb.gen i hi, fun i hi => by rw [show (addY Y bc' cb h.classes.length).bt k = Y.bt k from rfl, cell_of hb]; exact tb.ob i hi, fun i hi => by rw [show (addY Y bc' cb h.classes.length).bt k = Y.bt k from rfl, cell_of hb]; exact tb.frame i hi, fun i => by rw [show (addY Y bc' cb h.classes.length).bt k = Y.bt k from rfl, frozen_of hb]; exact tb.soft i⟩
  · have tb := r.tabs.tab k k0 k4
    have tk := r.tagT k k0 k4
    rw [show (addY Y bc' cb h.classes.length).bt k = Y.bt k from rfl, keepT _ tb.sb (by rw [tk]; simp)]
    exact tk
  · obtain ⟨q1, q2, q3⟩ := r.listAt h0
    exact ⟨q1, sub _ q2, by rw [show (addY Y bc' cb h.classes.length).bL = Y.bL from rfl, keepT _ q2 (by rw [q3]; simp)]; exact q3⟩
  · obtain ⟨q1, q2, q3⟩ := r.listAt h0
    rw [show (addY Y bc' cb h.classes.length).bL = Y.bL from rfl, same _ q2 (by rw [q3]; simp) (nota _ (by rw [q3]; simp))]; exact r.block h0
  · have hi' : i < h.l.length := hi
    omega
  · have hi' : i < h.l.length := hi
    omega
  · obtain ⟨_, q2, q3, _⟩ := r.ended.one h0
    exact same _ q2 (by rw [q3]; simp) (nota _ (by rw [q3]; simp))
  · show addT tag Y.bc bc' cb h.classes.length row.length bc' = (7, 0)
    unfold addT; rw [if_pos rfl]
  · have hi' : i < h.l.length := hi
    omega
  · rw [hcl] at hi
    by_cases e : i = h.classes.length
    · subst e
      have hg : (addH h row).classes.getD h.classes.length [] = row := by simp [addH, List.getD_eq_getElem?_getD]
      rw [hg]
      show _ ∧ ((addT tag Y.bc bc' cb h.classes.length row.length (if h.classes.length = h.classes.length then cb else Y.cb h.classes.length)).1 = 5 ∨ _) ∧ ∃ v, w'.cell? ⟨bc', h.classes.length, none⟩ = some v ∧ IntsV _ w' v (if h.classes.length = h.classes.length then cb else Y.cb h.classes.length) row
      rw [if_pos rfl]
      refine ⟨hrow, ?_, _, p.last, rp, rc, rfl, fun h0 => ⟨(p.row h0).1, Or.inr (Or.inr ⟨rfl, h0⟩)⟩, fun i hi => (p.row (by omega)).2.2.2.2.2 i hi⟩
      by_cases h0 : 0 < row.length
      · left
        unfold addT
        rw [if_neg (p.row h0).2.2.2.1, if_pos ⟨rfl, h0⟩]
      · right; exact List.eq_nil_of_length_eq_zero (by omega)
    · have hi2 : i < h.classes.length := by omega
      have hg : (addH h row).classes.getD i [] = h.classes.getD i [] := by simp [addH, List.getD_eq_getElem?_getD, List.getElem?_append_left hi2]
      rw [hg]
      show _ ∧ ((addT tag Y.bc bc' cb h.classes.length row.length (if i = h.classes.length then cb else Y.cb i)).1 = 5 ∨ _) ∧ ∃ v, w'.cell? ⟨bc', i, none⟩ = some v ∧ IntsV _ w' v (if i = h.classes.length then cb else Y.cb i) _
      rw [if_neg e]
      obtain ⟨h1, h2, v, h3, pp, pc, p1, p2, p3⟩ := r.clas i hi2
      have t7 : (tag (Y.cb i)).1 = 5 → tag (Y.cb i) ≠ (7, 0) ∧ tag (Y.cb i) ≠ (0, 0) := fun q => ⟨fun e => by rw [e] at q; simp at q, fun e => by rw [e] at q; simp at q⟩
      refine ⟨h1, ?_, v, by rw [p.keep i hi2]; exact h3, (IntsV.sub ⟨pp, pc, p1, p2, p3⟩ sub).at fun h0 => ?_⟩
      · rcases h2 with h2 | h2
        · by_cases h0 : 0 < (h.classes.getD i []).length
          · left; rw [keepT _ (p2 h0).2 (t7 h2).1]; exact h2
          · right; exact List.eq_nil_of_length_eq_zero (by omega)
        · exact Or.inr h2
      · rcases h2 with h2 | h2
        · exact same _ (p2 h0).2 (t7 h2).1 (nota _ (t7 h2).2)
        · rw [h2] at h0; simp at h0
end Go.Proofs.YtcnmfljpmpgnjaaGreatDoor
