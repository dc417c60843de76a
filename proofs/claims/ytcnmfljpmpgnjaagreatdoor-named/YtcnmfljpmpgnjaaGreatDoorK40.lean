import Derived.Test.YtcnmfljpmpgnjaaGreatDoorK39
import Derived.Test.YtcnmfljpmpgnjaaGreatDoorK26
namespace Go.Proofs.YtcnmfljpmpgnjaaGreatDoor
open Go.RowKit
open Tm (H Ob Sl Why)

/-- The cells of a table. -/
def slV : List Sl → List Value
  | [] => []
  | s :: r => .int .i64 s.gen :: .int .i64 s.ob :: .int .i64 s.frame :: slV r
theorem slV_len (l : List Sl) : (slV l).length = l.length * 3 := by
  induction l with
  | nil => rfl
  | cons s r ih => simp only [slV, List.length_cons, ih]; omega
theorem slV_one (l : List Sl) : ∀ u ∈ slV l, u.oneCell' = true := by
  induction l with
  | nil => intro u hu; cases hu
  | cons s r ih =>
    intro u hu
    simp only [slV, List.mem_cons] at hu
    rcases hu with rfl | rfl | rfl | hu
    · rfl
    · rfl
    · rfl
    · exact ih u hu
theorem slV_at (l : List Sl) (i : Nat) (hi : i < l.length) : (slV l)[i * 3]? = some (.int .i64 (l.getD i Tm.sl0).gen) ∧ (slV l)[i * 3 + 1]? = some (.int .i64 (l.getD i Tm.sl0).ob) ∧ (slV l)[i * 3 + 2]? = some (.int .i64 (l.getD i Tm.sl0).frame) := by
  induction l generalizing i with
  | nil => simp at hi
  | cons s r ih =>
    cases i with
    | zero => exact ⟨rfl, rfl, rfl⟩
    | succ i =>
      have := ih i (by simpa using hi)
      rw [show (i + 1) * 3 = i * 3 + 1 + 1 + 1 from by omega, show i * 3 + 1 + 1 + 1 + 1 = i * 3 + 1 + 1 + 1 + 1 from rfl]
      simp only [slV, List.getElem?_cons_succ]
      refine ⟨?_, ?_, ?_⟩
      · simpa using this.1
      · simpa using this.2.1
      · simpa using this.2.2
theorem slV_all (l : List Sl) (P : Nat → Value → Prop) (h : ∀ i, i < l.length → P (i * 3) (.int .i64 (l.getD i Tm.sl0).gen) ∧ P (i * 3 + 1) (.int .i64 (l.getD i Tm.sl0).ob) ∧ P (i * 3 + 2) (.int .i64 (l.getD i Tm.sl0).frame)) : ∀ j u, (slV l)[j]? = some u → P j u := fun j u hj => by
  have hl := slV_len l
  have hj3 : j < l.length * 3 := by
    rcases Nat.lt_or_ge j (slV l).length with q | q
    · omega
    · rw [List.getElem?_eq_none q] at hj; cases hj
  have hi : j / 3 < l.length := by omega
  obtain ⟨a1, a2, a3⟩ := slV_at l (j / 3) hi
  obtain ⟨b1, b2, b3⟩ := h (j / 3) hi
  have hm : j = j / 3 * 3 ∨ j = j / 3 * 3 + 1 ∨ j = j / 3 * 3 + 2 := by omega
  rcases hm with e | e | e
  · rw [e] at hj ⊢; rw [a1] at hj; rw [← Option.some.inj hj]; exact b1
  · rw [e] at hj ⊢; rw [a2] at hj; rw [← Option.some.inj hj]; exact b2
  · rw [e] at hj ⊢; rw [a3] at hj; rw [← Option.some.inj hj]; exact b3

/-- What 'append(nil, table...)' leaves. -/
structure CpyS (w w' : World) (rc cb : Nat) (l : List Sl) : Prop where
  os : w'.os = w.os
  tape : w'.tape = w.tape
  output : w'.output = w.output
  size : w.heap.size ≤ w'.heap.size
  old : ∀ b, b < w.heap.size → w'.heap[b]? = w.heap[b]?
  new : w.heap.size ≤ cb ∧ cb < w'.heap.size
  soft : ∀ i, w'.frozen? ⟨cb, i, none⟩ = false
  cells : ∀ j u, (slV l)[j]? = some u → w'.cell? ⟨cb, j, none⟩ = some u

theorem wpList_copyS {P : Program} (w : World) {ops : Array Oper} {rest : List Oper} {o : Oper} {a : Act} {Q : Exit → Act → World → Prop}
    (hg : o.guard = none) (s x : Operand) (t : TypeId) (hop : o.op = Op.call { callee := Callee.builtin Builtin.append, args := #[s, x], argTypes := #[t, t] })
    (e : TypeId) (i : TypeInfo) (z : Value) (h1 : P.underlying t = some (.slice e)) (h2 : P.info? e = some i) (h3 : i.zero = some z) (h4 : i.size = 3) (h5 : i.bytes = 24) (h6 : z.cells.size = 3)
    (hs : a.eval s = .slice none 0 0) (b c : Nat) (l : List Sl) (h0 : 0 < l.length) (hl : l.length ≤ 16) (hx : a.eval x = .slice (some ⟨b, 0, none⟩) l.length c)
    (hrow : ∀ j u, (slV l)[j]? = some u → w.cell? ⟨b, j, none⟩ = some u)
    (hK : ∀ w' rc cb, CpyS w w' rc cb l → wpList P ops Q rest (a.put o.dst (.slice (some ⟨cb, 0, none⟩) l.length rc)) w') :
    wpList P ops Q (o :: rest) a w := by
  refine wpList_append_grows w hg s x t hop e i z 3 24 h1 h2 h3 h4 h5 h6 (by decide) none 0 0 [] hs (fun _ => ⟨rfl, rfl⟩) rfl (by intro _ _ _ _ h; simp at h) ⟨b, 0, none⟩ l.length c (slV l) hx (slV_len l) (fun j u hj => ?_) (slV_one l) (by omega) (by unfold maxLen; omega) (by omega) ?_
  · rw [Addr.add_lit, Nat.zero_add]; exact hrow j u hj
  · intro v' w' hown hgr
    have hlt := hown.lt
    obtain ⟨hlen, h | ⟨g, cap, cur, rfl, hbase, hgb, hcap, hcm, hsz, htk⟩⟩ := hown
    · omega
    · rw [show (0 : Nat) + l.length = l.length from by omega] at hlen hcap htk ⊢
      refine hK w' cap g ⟨hgr.os, hgr.tape, hgr.output, hgr.size, fun b hb => hgr.block b hb (by simp), ⟨hbase, (hlt g rfl).2⟩, fun i => by simp [World.frozen?, hgb], fun j u hj => ?_⟩
      simp only [World.cell?, hgb]
      have hj3 : j < l.length * 3 := by
        have := slV_len l
        rcases Nat.lt_or_ge j (slV l).length with q | q
        · omega
        · rw [List.getElem?_eq_none q] at hj; cases hj
      have h9 : (cur.toList.take (l.length * 3))[j]? = ([] ++ slV l)[j]? := by rw [htk]
      rw [List.getElem?_take, if_pos hj3] at h9
      have h8 : cur[j]? = (slV l)[j]? := by simpa using h9
      rw [h8]; exact hj

/-- Another table 1. -/
def withT (h : H) (l : List Sl) : H := { h with t := fun j => if j = 1 then l else h.t j }
def tabT (tag : Nat → Nat × Nat) (Y : Lay) (cb : Nat) (b : Nat) : Nat × Nat := if b = cb then (1, 1) else if b = Y.bt 1 then (9, 0) else tag b
def tabY (Y : Lay) (cb : Nat) : Lay := { Y with bt := fun k => if k = 1 then cb else Y.bt k }

theorem Rep.newTab {S : Nat → Prop} {tag : Nat → Nat × Nat} {w : World} {a : Nat} {Y : Lay} {h : H} (r : Rep S tag w a Y h) (l : List Sl) (cb rc : Nat) (hl : l.length ≤ 16) (hcb : ¬ S cb) (hlt : cb < w.heap.size) (hsf : ∀ i, w.frozen? ⟨cb, i, none⟩ = false) (hc : ∀ j u, (slV l)[j]? = some u → w.cell? ⟨cb, j, none⟩ = some u)
    (hwf : ∀ i, i < l.length → 0 ≤ (l.getD i Tm.sl0).ob ∧ (l.getD i Tm.sl0).ob ≤ (h.l.length : Int) ∧ 0 ≤ (l.getD i Tm.sl0).gen ∧ (l.getD i Tm.sl0).gen ≤ 50) :
    Rep (fun b => S b ∨ b = cb) (tabT tag Y cb) (w.setCell ⟨a, 7, none⟩ (.slice (some ⟨cb, 0, none⟩) l.length rc)) a (tabY Y cb) (withT h l) := by
  have sa := r.tabs.sa
  have ncb : ∀ b, S b → b ≠ cb := fun b hb e => hcb (e ▸ hb)
  have keepT : ∀ b, S b → tag b ≠ (1, 1) → tabT tag Y cb b = tag b := fun b hb ht => by
    unfold tabT
    rw [if_neg (ncb b hb), if_neg (fun e => ht (by rw [e]; exact r.tagT 1 (by omega) (by omega)))]
  have sub : ∀ b, S b → (S b ∨ b = cb) := fun b hb => Or.inl hb
  have nota : ∀ b, tag b ≠ (0, 0) → b ≠ a := fun b hb e => hb (by rw [e]; exact r.tagA)
  have oth : ∀ b, b ≠ a → (w.setCell ⟨a, 7, none⟩ (.slice (some ⟨cb, 0, none⟩) l.length rc)).heap[b]? = w.heap[b]? := fun b hb => Below.heap_setCell _ _ _ _ (by simpa using hb)
  have ai : ∀ {i : Nat}, i ≠ 7 → (w.setCell ⟨a, 7, none⟩ (.slice (some ⟨cb, 0, none⟩) l.length rc)).cell? ⟨a, i, none⟩ = w.cell? ⟨a, i, none⟩ := fun hi => World.cell?_setCell_other _ _ _ _ (fun e => hi (congrArg Addr.off e).symm)
  have ncba : cb ≠ a := fun e => hcb (e ▸ sa)
  obtain ⟨cp, cc, c1, c2⟩ := r.classes
  obtain ⟨hc0, hh1⟩ := (r.tabs.tab 1 (by omega) (by omega)).head
  have hcb2 := oth cb ncba
  refine ⟨fun b hb => ?_, fun b i hb => ?_, ⟨sub _ sa, ?_, by rw [ai (by omega)]; exact r.tabs.zero, fun k k0 k4 => ?_⟩, by rw [keepT a sa (by rw [r.tagA]; simp)]; exact r.tagA, fun k k0 k4 => ?_,
    by rw [ai (by omega)]; exact r.room, r.small, by rw [ai (by omega)]; exact r.frames, r.fr, by rw [ai (by omega)]; exact r.list, r.many, r.cap, fun h0 => ?_, fun h0 => ?_, r.capm, r.empty, fun i hi => ?_, fun i hi => ?_,
    (r.ended.sub (sub _) (fun hb ht => by show tabT tag Y cb Y.be = (6, 0); rw [keepT _ hb (by rw [ht]; simp)]; exact ht)).at (ai (by omega)) (fun h0 => ?_), ⟨cp, cc, by rw [ai (by omega)]; exact c1, fun h0 => ?_⟩, r.few, r.refs, fun i hi => ?_, fun k i hi => ?_⟩
  · rw [World.size_setCell]
    rcases hb with hb | rfl
    · exact r.lt b hb
    · exact hlt
  · rw [World.frozen?_setCell]
    rcases hb with hb | rfl
    · exact r.soft b i hb
    · exact hsf i
  · show (if 0 = 1 then l else h.t 0) = []
    rw [if_neg (by omega)]; exact r.tabs.t0
  · show TabAt _ _ a (if k = 1 then cb else Y.bt k) k (if k = 1 then l else h.t k)
    by_cases e : k = 1
    · subst e
      rw [if_pos rfl, if_pos rfl]
      refine ⟨sub _ sa, Or.inr rfl, hl, ⟨rc, World.cell?_setCell_same _ _ _ hh1⟩, fun i hi => ?_, fun i hi => ?_, fun i hi => ?_, fun i => by rw [frozen_of hcb2]; exact hsf i⟩
      · rw [cell_of hcb2]; exact hc _ _ (slV_at l i hi).1
      · rw [cell_of hcb2]; exact hc _ _ (slV_at l i hi).2.1
      · rw [cell_of hcb2]; exact hc _ _ (slV_at l i hi).2.2
    · rw [if_neg e, if_neg e]
      have tb := r.tabs.tab k k0 k4
      have hb := oth (Y.bt k) (nota _ (by rw [r.tagT k k0 k4]; simp))
      exact ⟨sub _ tb.sa, sub _ tb.sb, tb.len, by rw [ai (by omega)]; exact tb.head, fun i hi => by rw [cell_of hb]; exact tb.gen i hi, fun i hi => by rw [cell_of hb]; exact tb.ob i hi, fun i hi => by rw [cell_of hb]; exact tb.frame i hi, fun i => by rw [frozen_of hb]; exact tb.soft i⟩
  · show tabT tag Y cb (if k = 1 then cb else Y.bt k) = (1, k)
    by_cases e : k = 1
    · subst e; rw [if_pos rfl]; unfold tabT; rw [if_pos rfl]
    · rw [if_neg e, keepT _ (r.tabs.tab k k0 k4).sb (by rw [r.tagT k k0 k4]; simp; exact e)]; exact r.tagT k k0 k4
  · obtain ⟨q1, q2, q3⟩ := r.listAt h0
    exact ⟨q1, sub _ q2, by show tabT tag Y cb Y.bL = (2, 0); rw [keepT _ q2 (by rw [q3]; simp)]; exact q3⟩
  · obtain ⟨q1, q2, q3⟩ := r.listAt h0
    show ∃ cur : Array Value, (w.setCell ⟨a, 7, none⟩ (.slice (some ⟨cb, 0, none⟩) l.length rc)).heap[Y.bL]? = _ ∧ _
    rw [oth _ (nota _ (by rw [q3]; simp))]; exact r.block h0
  · have := r.cap
    have hi' : i < h.l.length := hi
    obtain ⟨q1, q2, q3⟩ := r.listAt (by omega)
    show (w.setCell ⟨a, 7, none⟩ (.slice (some ⟨cb, 0, none⟩) l.length rc)).cell? ⟨Y.bL, i, none⟩ = _
    rw [cell_of (oth _ (nota _ (by rw [q3]; simp)))]; exact r.ptr i hi
  · have oi := r.obj i hi
    have so := oi.s
    obtain ⟨kv, k1, kpp, kcc, k2, k3, k4⟩ := oi.kinds
    obtain ⟨vv, v1, vpp, vcc, v2, v3, v4⟩ := oi.vals
    have t5 : 0 < (h.l.getD i Tm.ob0).kinds.length → tag (Y.kb i) ≠ (1, 1) ∧ tag (Y.kb i) ≠ (0, 0) := fun h0 => ⟨fun e => by have := oi.kt h0; rw [e] at this; simp at this, fun e => by have := oi.kt h0; rw [e] at this; simp at this⟩
    refine (oi.at (oth _ (nota _ (by rw [oi.t]; simp))) (fun h0 => oth _ (nota _ (t5 h0).2)) (fun h0 => oth _ (nota _ (by rw [oi.vt h0]; simp)))).sub sub ?_ ?_ ?_
    · rw [keepT _ so (by rw [oi.t]; simp)]; exact oi.t
    · exact fun h0 => by rw [keepT _ (k3 h0).2 (t5 h0).1]; exact oi.kt h0
    · exact fun h0 => by rw [keepT _ (v3 h0).2 (by rw [oi.vt h0]; simp)]; exact oi.vt h0
  · obtain ⟨_, q2, q3, _⟩ := r.ended.one h0
    exact oth _ (nota _ (by rw [q3]; simp))
  · obtain ⟨q1, q2, q3⟩ := c2 h0
    exact ⟨q1, sub _ q2, by show tabT tag Y cb Y.bc = (7, 0); rw [keepT _ q2 (by rw [q3]; simp)]; exact q3⟩
  · obtain ⟨h1, h2, v, h3, h4⟩ := r.clas i hi
    obtain ⟨q1, q2, q3⟩ := c2 (by have : i < h.classes.length := hi; omega)
    obtain ⟨pp, pc, p1, p2, p3⟩ := h4
    have t7 : (tag (Y.cb i)).1 = 5 → tag (Y.cb i) ≠ (1, 1) ∧ tag (Y.cb i) ≠ (0, 0) := fun q => ⟨fun e => by rw [e] at q; simp at q, fun e => by rw [e] at q; simp at q⟩
    refine ⟨h1, ?_, v, ?_, ?_⟩
    · rcases h2 with h2 | h2
      · by_cases h0 : 0 < (h.classes.getD i []).length
        · left
          show (tabT tag Y cb (Y.cb i)).1 = 5
          rw [keepT _ (p2 h0).2 (t7 h2).1]; exact h2
        · exact Or.inr (List.eq_nil_of_length_eq_zero (Nat.eq_zero_of_not_pos h0))
      · exact Or.inr h2
    · show (w.setCell ⟨a, 7, none⟩ (.slice (some ⟨cb, 0, none⟩) l.length rc)).cell? ⟨Y.bc, i, none⟩ = _
      rw [cell_of (oth _ (nota _ (by rw [q3]; simp)))]; exact h3
    · refine (IntsV.sub ⟨pp, pc, p1, p2, p3⟩ sub).at fun h0 => ?_
      rcases h2 with h2 | h2
      · exact oth _ (nota _ (t7 h2).2)
      · have h0' : 0 < (h.classes.getD i []).length := h0
        rw [h2] at h0'; simp at h0'
  · have hi' : i < (if k = 1 then l else h.t k).length := hi
    show 0 ≤ ((if k = 1 then l else h.t k).getD i Tm.sl0).ob ∧ _ ∧ 0 ≤ ((if k = 1 then l else h.t k).getD i Tm.sl0).gen ∧ ((if k = 1 then l else h.t k).getD i Tm.sl0).gen ≤ 50
    by_cases e : k = 1
    · subst e
      rw [if_pos rfl] at hi'
      have := hwf i hi'
      rw [if_pos rfl]
      show _ ∧ ((if 1 = 1 then l else h.t 1).getD i Tm.sl0).ob ≤ _ ∧ _
      rw [if_pos rfl]; exact this
    · rw [if_neg e] at hi'
      have := r.wf k i hi'
      rw [if_neg e]
      show _ ∧ ((if k = 1 then l else h.t k).getD i Tm.sl0).ob ≤ _ ∧ _
      rw [if_neg e]; exact this

theorem withT_popped (h : H) : withT h.popped (h.t 1) = h := by
  have : (withT h.popped (h.t 1)).t = h.t := by
    funext k
    show (if k = 1 then h.t 1 else (if k = 1 then _ else h.t k)) = _
    by_cases e : k = 1
    · subst e; rw [if_pos rfl]
    · rw [if_neg e, if_neg e]
  cases h
  simp only [withT, H.popped] at *
  congr
end Go.Proofs.YtcnmfljpmpgnjaaGreatDoor

namespace Go.Proofs.YtcnmfljpmpgnjaaGreatDoor
open Go.RowKit
open Tm (H Ob Sl Why)

theorem Rep.freeSl {S : Nat → Prop} {tag : Nat → Nat × Nat} {w : World} {a : Nat} {Y : Lay} {h : H} (r : Rep S tag w a Y h) (k i : Nat) (k0 : 0 < k) (k4 : k < 4) (hi : i < (h.t k).length) :
    Rep S tag (w.setCell ⟨Y.bt k, i * 3 + 1, none⟩ (.int .i64 0)) a Y (h.setSl k i { h.sl k i with ob := 0 }) := by
  have tb := r.tabs.tab k k0 k4
  have wf := r.wf k i hi
  exact r.setSl k i { h.sl k i with ob := 0 } k0 k4 hi ⟨by simp, by simp, wf.2.2.1, wf.2.2.2⟩ (by simp) (fun b q => by simp) (fun b hb => by rw [Below.heap_setCell _ _ _ _ hb]) (fun q hq => one hi _ tb.gen tb.ob tb.frame q hq)

/-- What Pop leaves. -/
def PopPost (S : Nat → Prop) (w : World) (a : Nat) (n : Int) (y : Why) (h' : H) (e : Ending) (w' : World) : Prop :=
  e = .returned (.tuple #[.int .i64 n, whyV y]) ∧ ∃ S' tag' Y', Rep S' tag' w' a Y' h' ∧ Kept S w w' ∧ ∀ b, S' b → S b ∨ w.heap.size ≤ b

set_option maxRecDepth 100000 in
set_option maxHeartbeats 4000000 in
theorem pop_any {S : Nat → Prop} {tag : Nat → Nat × Nat} {w : World} {a : Nat} {Y : Lay} {h : H} (r : Rep S tag w a Y h) (x : Int) (hx : x < 9223372036854775808) (hloc : 0 < (h.t 1).length) :
    Calls Tryz.prog 153 #[.pointer (some ⟨a, 0, none⟩), .int .i64 x] w (PopPost S w a (h.pop x).1.1 (h.pop x).1.2 (h.pop x).2) := by
  have r1 := fun o => r.alloc o
  have HG0 : Hid (h.frames = 1 → h.pop x = ((0, ⟨9, 0⟩), h)) := fun h1 => by unfold H.pop; rw [if_pos h1]
  have HG1 : Hid (¬ h.frames = 1 → (h.perhaps x).2.reason ≠ 0 → h.pop x = ((0, (h.perhaps x).2), h)) := fun h0 h1 => by unfold H.pop; rw [if_neg h0, if_pos h1]
  have HG2 : Hid (¬ h.frames = 1 → (h.perhaps x).2.reason = 0 → (h.perhaps x).1 ≠ 0 → h.popped.free 1 < 0 → h.pop x = ((0, ⟨7, 0⟩), h)) := fun h0 h1 h2 h3 => by unfold H.pop; rw [if_neg h0, if_neg (by omega), if_pos ⟨h2, h3⟩]
  have HG3 : Hid (¬ h.frames = 1 → (h.perhaps x).2.reason = 0 → (h.perhaps x).1 = 0 → h.pop x = ((0, Tm.fine), h.popF)) := fun h0 h1 h2 => by unfold H.pop; rw [if_neg h0, if_neg (by omega), if_neg (fun q => q.1 h2), if_pos h2]
  have HG4 : Hid (¬ h.frames = 1 → (h.perhaps x).2.reason = 0 → (h.perhaps x).1 ≠ 0 → ¬ h.popped.free 1 < 0 → h.pop x = (((h.popF.take 1 (h.perhaps x).1).1, Tm.fine), (h.popF.take 1 (h.perhaps x).1).2)) := fun h0 h1 h2 h3 => by unfold H.pop; rw [if_neg h0, if_neg (by omega), if_neg (fun q => h3 q.2), if_neg h2]
  have HB : Hid ((h.perhaps x).2.reason = 0 → 0 ≤ (h.perhaps x).1 ∧ (h.perhaps x).1 ≤ (h.l.length : Int)) := perhaps_bd r x
  have hfr := r.fr
  have c10 := fun o => (r1 o).frames
  have HN : Hid (¬ S w.heap.size) := fun hs => by have := r.lt _ hs; omega
  have HR0 := hide r
  by_cases h1 : h.frames = 1
  · have HE := hide (HG0.out h1)
    rw [h1] at c10
    clear r
    go_enter Tryz.func153, Tryz.ntmps153
    go_wp2_with fail
    refine bodyPost_ret (v := .tuple #[.int .i64 0, .agg #[.int .i64 9, .int .i64 0]]) (by simp [results, Tryz.results153, go_sem]) rfl ⟨by rw [HE.out]; rfl, S, tag, Y, by rw [HE.out]; exact HR0.out.alloc _, Kept.of_below (Below.alloc0 _ _), fun b hb => Or.inl hb⟩
  · have h1' : (h.frames == 1) = false := by simpa using h1
    clear r
    go_enter Tryz.func153, Tryz.ntmps153
    go_wp2_with fail
    refine (perhaps_any (r1 _) x hx).mono ?_
    rintro e w1 ⟨rfl, hb⟩
    have hr1 := (r1 (.cells #[.int .i64 0, .int .i64 0] 161)).below hb (Nat.le_refl _)
    clear r1
    have hz : w.heap.size < w1.heap.size := by have := hb.size; simp at this; omega
    have cz0 : w1.cell? ⟨w.heap.size, 0, none⟩ = some (.int .i64 0) := by rw [hb.cell (by simp)]; simp
    have cz1 : w1.cell? ⟨w.heap.size, 1, none⟩ = some (.int .i64 0) := by rw [hb.cell (by simp)]; simp
    have fz : ∀ i, w1.frozen? ⟨w.heap.size, i, none⟩ = false := fun i => by rw [hb.frozen (by simp)]; simp
    have HBl : Hid (Below w.heap.size w w1) := (Below.alloc0 _ _).trans (hb.mono (by simp))
    clear hb
    have HR := hide hr1
    clear hr1 c10
    generalize h.perhaps x = p at *
    obtain ⟨n, y⟩ := p
    obtain ⟨yr, yh⟩ := y
    simp only [whyV]
    by_cases hy : yr = 0
    · subst hy
      have hnb := HB.out rfl
      simp only at hnb
      obtain ⟨iP, hiP, hp0, hp1, hp2⟩ := info_parts infoSl
      have HiP := hide hiP
      have HP0 := hide hp0
      have HP1 := hide hp1
      have HP2 := hide hp2
      clear hiP hp0 hp1 hp2 HB
      have hlen := (HR.out.tabs.tab 1 (by omega) (by omega)).len
      obtain ⟨hcap, hh⟩ := (HR.out.tabs.tab 1 (by omega) (by omega)).head
      have sa := HR.out.lt _ HR.out.tabs.sa
      have hh' : ∀ o, (w1.alloc o).cell? ⟨a, 7, none⟩ = some (.slice (some ⟨Y.bt 1, 0, none⟩) (h.t 1).length hcap) := fun o => by rw [World.cell?_alloc_lt _ _ _ sa]; exact hh
      clear hh
      have HRow : Hid (∀ o, ∀ j u, (slV (h.t 1))[j]? = some u → (w1.alloc o).cell? ⟨Y.bt 1, j, none⟩ = some u) := fun o => by
        have tb := (HR.out.alloc o).tabs.tab 1 (by omega) (by omega)
        exact slV_all (h.t 1) (fun j u => (w1.alloc o).cell? ⟨Y.bt 1, j, none⟩ = some u) (fun i hi => ⟨tb.gen i hi, tb.ob i hi, tb.frame i hi⟩)
      go_wp2_with (at_builtin; refine wpList_copyS _ rfl (.tmp 27) (.tmp 32) 197 rfl 208 iP _ Tryz.underlying197 HiP.out HP0.out HP1.out HP2.out rfl rfl (Y.bt 1) hcap (h.t 1) hloc hlen rfl (HRow.out _) ?K)
      case K =>
        intro w2 rc cb cp
        have hz2 := cp.size
        simp at hz2
        have hcbn := cp.new
        simp at hcbn
        have hold : ∀ b, b < w1.heap.size → w2.heap[b]? = w1.heap[b]? := fun b hb => by rw [cp.old b (by simp; omega)]; exact Below.heap_alloc _ _ _ hb
        have r2 : Rep S tag w2 a Y h := HR.out.same (fun b hb => hold b (HR.out.lt b hb)) (by omega)
        have HR2 := hide r2
        have d0 : w2.cell? ⟨w.heap.size, 0, none⟩ = some (.int .i64 0) := by rw [cell_of (hold _ hz)]; exact cz0
        have d1 : w2.cell? ⟨w.heap.size, 1, none⟩ = some (.int .i64 0) := by rw [cell_of (hold _ hz)]; exact cz1
        have df : ∀ i, w2.frozen? ⟨w.heap.size, i, none⟩ = false := fun i => by rw [frozen_of (hold _ hz)]; exact fz i
        have HD : Hid (w2.cell? ⟨w.heap.size, 0, none⟩ = some (.int .i64 0) ∧ w2.cell? ⟨w.heap.size, 1, none⟩ = some (.int .i64 0) ∧ ∀ i, w2.frozen? ⟨w.heap.size, i, none⟩ = false) := ⟨d0, d1, df⟩
        have HB2 : Hid (Below w.heap.size w w2) := HBl.out.trans ⟨cp.os, cp.tape, cp.output, by omega, fun k hk => hold k (by omega)⟩
        have HCp : Hid ((∀ i, w2.frozen? ⟨cb, i, none⟩ = false) ∧ (∀ j u, (slV (h.t 1))[j]? = some u → w2.cell? ⟨cb, j, none⟩ = some u) ∧ w1.heap.size + 1 ≤ cb ∧ cb < w2.heap.size) := ⟨cp.soft, cp.cells, hcbn⟩
        have HNcb : Hid (¬ S cb) := fun hs => by have := HR.out.lt _ hs; omega
        have hbt := HR.out.lt _ (HR.out.tabs.tab 1 (by omega) (by omega)).sb
        have HNb : Hid (Y.bt 1 ≠ w.heap.size) := fun e => HN.out (e ▸ (HR.out.tabs.tab 1 (by omega) (by omega)).sb)
        have hzz : w.heap.size < w2.heap.size := by omega
        clear r2 hold cp d0 d1 df cz0 cz1 fz HRow hh' HiP HP0 HP1 HP2
        go_wp2_with fail
        go_loopw [9] (fun iv wr => ∃ i : Nat, i ≤ (h.t 1).length ∧ iv = .int .i64 i ∧ Rep S tag wr a Y (h.popTo i) ∧ Kept (fun b => b = Y.bt 1) w2 wr) (fun iv _ => (h.t 1).length - (intOf iv).toNat)
        case atStart => exact ⟨0, by omega, rfl, HR2.out, Kept.refl _ _⟩
        case round =>
          obtain ⟨i, hi, rfl, rr, kk⟩ := hrel
          have HRR := hide rr
          have HK := hide kk
          have hsm := Tm.popTo_same h i
          have tb := rr.tabs.tab 1 (by omega) (by omega)
          obtain ⟨hcap2, hh2⟩ := tb.head
          rw [hsm.2.2.2.2.2.2] at hh2
          have c10 := rr.frames
          rw [hsm.2.2.1] at c10
          by_cases hlt : i < (h.t 1).length
          · have bi : (i : Int) < ((h.t 1).length : Int) := by omega
            have eat := Tm.popTo_at h i hi i
            rw [if_neg (Nat.lt_irrefl _)] at eat
            have c1 := tb.ob i (by rw [hsm.2.2.2.2.2.2]; exact hlt)
            have c2 := tb.frame i (by rw [hsm.2.2.2.2.2.2]; exact hlt)
            rw [eat] at c1 c2
            have f1 := tb.soft
            have hfs := rr.freeSl 1 i (by omega) (by omega) (by rw [hsm.2.2.2.2.2.2]; exact hlt)
            have esl : (h.popTo i).sl 1 i = h.sl 1 i := eat
            rw [esl] at hfs
            have HFs := hide hfs
            have HSt : Hid ((h.sl 1 i).frame = h.frames → h.popTo (i + 1) = (h.popTo i).setSl 1 i { h.sl 1 i with ob := 0 }) := fun e => by
              show H.popTo h (i + 1) = _
              rw [H.popTo, if_pos e]
            have HSn : Hid (¬ (h.sl 1 i).frame = h.frames → h.popTo (i + 1) = h.popTo i) := fun e => by
              show H.popTo h (i + 1) = _
              rw [H.popTo, if_neg e]
            clear rr kk tb hfs eat esl hsm
            generalize h.sl 1 i = sl at *
            by_cases hf : sl.frame = h.frames
            · have HE := hide (HSt.out hf)
              have hf' : (sl.frame == h.frames) = true := by simpa using hf
              clear HSt HSn
              go_wp2_with fail
              go_region
              all_goals go_wp2_with fail
              all_goals exact ⟨⟨i + 1, by omega, by go_num, by rw [HE.out]; (first | exact HFs.out | exact HFs.out.drew), by (first | exact HK.out.setCell (Or.inl rfl) _ | exact (HK.out.setCell (Or.inl rfl) _).drew)⟩, by simp [intOf]; omega⟩
            · have HE := hide (HSn.out hf)
              have hf' : (sl.frame == h.frames) = false := by simpa using hf
              clear HSt HSn
              go_wp2_with fail
              go_region
              all_goals go_wp2_with fail
              all_goals exact ⟨⟨i + 1, by omega, by go_num, by rw [HE.out]; (first | exact HRR.out | exact HRR.out.drew), by (first | exact HK.out | exact HK.out.drew)⟩, by simp [intOf]; omega⟩
          · have bi : ¬ (i : Int) < ((h.t 1).length : Int) := by omega
            obtain rfl : i = (h.t 1).length := by omega
            rw [Tm.popTo_all] at rr HRR
            have HFree := hide (free_any S wr a (Y.bt 1) 1 (h.popped.t 1) (by omega) (rr.tabs.tab 1 (by omega) (by omega)))
            have efr : Tm.freeFrom (h.popped.t 1) 0 = h.popped.free 1 := rfl
            rw [efr] at HFree
            have hbk : wr.heap[w.heap.size]? = w2.heap[w.heap.size]? := kk.block _ hzz (fun e => HNb.out e.symm)
            have d0 : wr.cell? ⟨w.heap.size, 0, none⟩ = some (.int .i64 0) := by rw [cell_of hbk]; exact HD.out.1
            have d1 : wr.cell? ⟨w.heap.size, 1, none⟩ = some (.int .i64 0) := by rw [cell_of hbk]; exact HD.out.2.1
            have df : ∀ i, wr.frozen? ⟨w.heap.size, i, none⟩ = false := fun i => by rw [frozen_of hbk]; exact HD.out.2.2 i
            have hcbk : wr.heap[cb]? = w2.heap[cb]? := kk.block _ HCp.out.2.2.2 (fun e => by have := HCp.out.2.2.1; omega)
            have alt := rr.lt a rr.tabs.sa
            have fa : ∀ i, wr.frozen? ⟨a, i, none⟩ = false := fun i => rr.soft _ _ rr.tabs.sa
            have hzr : w2.heap.size ≤ wr.heap.size := kk.size
            have HKw : Hid (Kept S w wr) := (Kept.of_below HB2.out).trans ⟨kk.os, kk.tape, kk.output, kk.size, fun b hb hn => kk.block b hb (fun e => hn (e ▸ (HRR.out.tabs.tab 1 (by omega) (by omega)).sb))⟩
            have nwa : w.heap.size ≠ a := fun e => HN.out (e ▸ rr.tabs.sa)
            have nwa' : ¬ a = w.heap.size := fun e => nwa e.symm
            have HCb : Hid ((∀ i, wr.frozen? ⟨cb, i, none⟩ = false) ∧ ∀ j u, (slV (h.t 1))[j]? = some u → wr.cell? ⟨cb, j, none⟩ = some u) := ⟨fun i => by rw [frozen_of hcbk]; exact HCp.out.1 i, fun j u hj => by rw [cell_of hcbk]; exact HCp.out.2.1 j u hj⟩
            have hzw : w.heap.size < wr.heap.size := by omega
            clear kk hbk hcbk HK tb hsm rr
            by_cases hn0 : n = 0
            · subst hn0
              have HE := hide (HG3.out h1 (by simp) (by simp))
              have HRf := hide (HRR.out.setFrames (h.frames - 1) (by omega))
              go_wp2_with (go_at_call 167; refine HFree.out.mono ?_; rintro e w' ⟨rfl, rfl⟩)
              refine bodyPost_ret (v := .tuple #[.int .i64 0, .agg #[.int .i64 0, .int .i64 0]]) (by simp [results, Tryz.results153, go_sem, d0, d1]) rfl ⟨by rw [HE.out]; rfl, S, tag, Y, ?_, ?_, fun b hb => Or.inl hb⟩
              · rw [HE.out]
                show Rep S tag _ a Y { h.popped with frames := h.frames - 1 }
                repeat (first | exact HRf.out | refine Rep.other ?_ HN.out _ | refine Rep.drewN ?_ _ | refine Rep.drew ?_)
              · repeat (first | exact HKw.out | refine Kept.setCell ?_ (Or.inl HRR.out.tabs.sa) _ | refine Kept.setCell ?_ (Or.inr (Nat.le_refl _)) _ | refine Kept.drewN ?_ _ | refine Kept.drew ?_)
            · have hn' : (n != 0) = true := by simpa using hn0
              have hn'' : (n == 0) = false := by simpa using hn0
              by_cases hfr1 : h.popped.free 1 < 0
              · have HE := hide (HG2.out h1 (by simp) hn0 hfr1)
                have hf' : decide (h.popped.free 1 < 0) = true := by simpa using hfr1
                have HNew := hide (HRR.out.newTab (h.t 1) cb rc hlen HNcb.out (by have := HCp.out.2.2.2; omega) HCb.out.1 HCb.out.2 (fun i hi => HR0.out.wf 1 i hi))
                generalize h.popped.free 1 = fr at *
                go_wp2_with (go_at_call 167; refine HFree.out.mono ?_; rintro e w' ⟨rfl, rfl⟩)
                refine bodyPost_ret (v := .tuple #[.int .i64 0, .agg #[.int .i64 7, .int .i64 0]]) (by simp [results, Tryz.results153, go_sem, d0, d1]) rfl ⟨by rw [HE.out]; rfl, fun b => S b ∨ b = cb, tabT tag Y cb, tabY Y cb, ?_, ?_, fun b hb => ?_⟩
                · rw [HE.out]
                  show Rep _ _ _ a _ h
                  have HN2 : ¬ (S w.heap.size ∨ w.heap.size = cb) := by
                    rintro (q | q)
                    · exact HN.out q
                    · have := HCp.out.2.2.1; omega
                  rw [← withT_popped h]
                  repeat (first | exact HNew.out | refine Rep.other ?_ HN2 _ | refine Rep.drewN ?_ _ | refine Rep.drew ?_)
                · repeat (first | exact HKw.out | refine Kept.setCell ?_ (Or.inl HRR.out.tabs.sa) _ | refine Kept.setCell ?_ (Or.inr (Nat.le_refl _)) _ | refine Kept.drewN ?_ _ | refine Kept.drew ?_)
                · rcases hb with q | q
                  · exact Or.inl q
                  · have := HCp.out.2.2.1; exact Or.inr (by omega)
              · have HE := hide (HG4.out h1 (by simp) hn0 (by omega))
                have hf' : decide (h.popped.free 1 < 0) = false := by simpa using hfr1
                have HRf := hide (HRR.out.setFrames (h.frames - 1) (by omega))
                have HTk := hide (take_any HRf.out 1 n (by omega) (by omega) (by show 0 ≤ h.popped.free 1; omega) (by omega) (by show n ≤ (h.l.length : Int); omega))
                have ept : ({ h.popped with frames := h.frames - 1 } : H) = h.popF := rfl
                rw [ept] at HTk
                generalize h.popped.free 1 = fr at *
                go_wp2_with (first | (go_at_call 167; refine HFree.out.mono ?_; rintro e w' ⟨rfl, rfl⟩) | (go_at_call 168; refine HTk.out.mono ?_; rintro e w5 ⟨rfl, hr5, hk5⟩; have HR5 := hide hr5; have HK5 := hide hk5; have hz5 : w.heap.size < w5.heap.size := (by have := hk5.size; rw [World.size_setCell] at this; omega); have hbk5 := hk5.block w.heap.size (by rw [World.size_setCell]; exact hzw) (fun q => HN.out q.1); rw [Below.heap_setCell _ _ _ _ (by simpa using nwa)] at hbk5; have e0 : w5.cell? ⟨w.heap.size, 0, none⟩ = some (.int .i64 0) := (by rw [cell_of hbk5]; exact d0); have e1 : w5.cell? ⟨w.heap.size, 1, none⟩ = some (.int .i64 0) := (by rw [cell_of hbk5]; exact d1); have ef : ∀ i, w5.frozen? ⟨w.heap.size, i, none⟩ = false := (fun i => by rw [frozen_of hbk5]; exact df i); clear hr5 hk5 hbk5))
                generalize h.popF.take 1 n = t at *
                obtain ⟨t1, t2⟩ := t
                refine bodyPost_ret (v := .tuple #[.int .i64 t1, .agg #[.int .i64 0, .int .i64 0]]) (by simp [results, Tryz.results153, go_sem, e0, e1]) rfl ⟨by rw [HE.out]; rfl, S, tag, Y, ?_, ?_, fun b hb => Or.inl hb⟩
                · rw [HE.out]
                  show Rep S tag _ a Y t2
                  repeat (first | exact HR5.out | refine Rep.other ?_ HN.out _ | refine Rep.drewN ?_ _ | refine Rep.drew ?_)
                · have HK6 : Kept S w w5 := (HKw.out.setCell (p := ⟨a, 10, none⟩) (Or.inl HRR.out.tabs.sa) _).trans (HK5.out.mono fun b hb => hb.1)
                  repeat (first | exact HK6 | refine Kept.setCell ?_ (Or.inr (Nat.le_refl _)) _ | refine Kept.drewN ?_ _ | refine Kept.drew ?_)
    · have hy' : (yr != 0) = true := by simpa using hy
      have HE := hide (HG1.out h1 hy)
      go_wp2_with fail
      go_region
      all_goals go_wp2_with fail
      all_goals
        refine bodyPost_ret (v := .tuple #[.int .i64 0, .agg #[.int .i64 yr, .int .i64 yh]]) (by simp [results, Tryz.results153, go_sem, hz, cz0, cz1]) rfl ⟨by rw [HE.out]; rfl, S, tag, Y, ?_, ?_, fun b hb => Or.inl hb⟩
        · rw [HE.out]
          repeat (first | exact HR.out | refine Rep.alloc ?_ _ | refine Rep.other ?_ HN.out _ | refine Rep.drewN ?_ _ | refine Rep.drew ?_)
        · repeat (first | exact Kept.of_below HBl.out | refine Kept.drew ?_ | refine Kept.setCell ?_ (Or.inr (by simp)) _ | refine Kept.alloc ?_ _)
end Go.Proofs.YtcnmfljpmpgnjaaGreatDoor
