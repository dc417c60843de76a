import Derived.Test.YtcnmfljpmpgnjaaGreatDoorJ28
namespace Go.Proofs.YtcnmfljpmpgnjaaGreatDoor
open Go.RowKit
open Tm (H Ob Sl Why)

theorem TabAt.sub {S S' : Nat → Prop} {w : World} {a bt k : Nat} {l : List Sl} (h : TabAt S w a bt k l) (hs : ∀ b, S b → S' b) : TabAt S' w a bt k l :=
  ⟨hs _ h.sa, hs _ h.sb, h.len, h.head, h.gen, h.ob, h.frame, h.soft⟩
/-- A new object, not yet in the heap: where it lies, and its kinds. -/
structure NewAt (S : Nat → Prop) (tag : Nat → Nat × Nat) (w : World) (x kb : Nat) (kp : Option Addr) (kc : Nat) (ks : List Int) (name : Int) : Prop where
  fresh : ¬ S x
  lt : x < w.heap.size
  soft : ∀ i, w.frozen? ⟨x, i, none⟩ = false
  c0 : w.cell? ⟨x, 0, none⟩ = some (.slice kp ks.length kc)
  c1 : w.cell? ⟨x, 1, none⟩ = some (.slice none 0 0)
  c2 : w.cell? ⟨x, 2, none⟩ = some (.int .i64 0)
  c3 : w.cell? ⟨x, 3, none⟩ = some (.int .i64 name)
  c4 : w.cell? ⟨x, 4, none⟩ = some (.bool false)
  len : ks.length ≤ 32
  kinds : 0 < ks.length → kp = some ⟨kb, 0, none⟩ ∧ kb < w.heap.size ∧ kb ≠ x ∧ (∀ i, w.frozen? ⟨kb, i, none⟩ = false) ∧ (S kb → (tag kb).1 = 5)
  ints : ∀ i, i < ks.length → w.cell? ⟨kb, i, none⟩ = some (.int .i64 (ks.getD i 0))

theorem NewAt.of_eq {S : Nat → Prop} {tag : Nat → Nat × Nat} {w w' : World} {x kb : Nat} {kp : Option Addr} {kc : Nat} {ks : List Int} {name : Int} (n : NewAt S tag w x kb kp kc ks name)
    (hx : w'.heap[x]? = w.heap[x]?) (hk : 0 < ks.length → w'.heap[kb]? = w.heap[kb]?) (hz : w.heap.size ≤ w'.heap.size) : NewAt S tag w' x kb kp kc ks name :=
  ⟨n.fresh, by have := n.lt; omega, fun i => by rw [frozen_of hx]; exact n.soft i, by rw [cell_of hx]; exact n.c0, by rw [cell_of hx]; exact n.c1, by rw [cell_of hx]; exact n.c2, by rw [cell_of hx]; exact n.c3, by rw [cell_of hx]; exact n.c4, n.len,
    fun h0 => ⟨(n.kinds h0).1, by have := (n.kinds h0).2.1; omega, (n.kinds h0).2.2.1, fun i => by rw [frozen_of (hk h0)]; exact (n.kinds h0).2.2.2.1 i, (n.kinds h0).2.2.2.2⟩, fun i hi => by rw [cell_of (hk (by omega))]; exact n.ints i hi⟩

/-- What the world is when the object has been put into the list. -/
structure Put (w w' : World) (a x vb bL' cL' : Nat) (Y : Lay) (n kn : Nat) : Prop where
  size : w.heap.size ≤ w'.heap.size
  vb0 : w.heap.size ≤ vb
  vb1 : vb < w'.heap.size
  old : ∀ b, b < w.heap.size → b ≠ a → b ≠ x → b ≠ bL' → w'.heap[b]? = w.heap[b]?
  a5 : w'.cell? ⟨a, 5, none⟩ = some (.slice (some ⟨bL', 0, none⟩) (n + 1) cL')
  ai : ∀ i, i ≠ 5 → w'.cell? ⟨a, i, none⟩ = w.cell? ⟨a, i, none⟩
  x1 : w'.cell? ⟨x, 1, none⟩ = some (.slice (some ⟨vb, 0, none⟩) kn kn)
  xi : ∀ i, i ≠ 1 → w'.cell? ⟨x, i, none⟩ = w.cell? ⟨x, i, none⟩
  vi : ∀ i, i < kn → w'.cell? ⟨vb, i, none⟩ = some (.int .i64 0)
  bl : (bL' = Y.bL ∧ 0 < Y.cL) ∨ (w.heap.size ≤ bL' ∧ bL' ≠ vb)
  bl1 : bL' < w'.heap.size
  cap : n + 1 ≤ cL'
  capm : cL' ≤ maxLen
  block : ∃ cur : Array Value, w'.heap[bL']? = some (.cells cur 206 (0, 0)) ∧ cur.size = cL'
  ptr : ∀ i, i < n → w'.cell? ⟨bL', i, none⟩ = w.cell? ⟨Y.bL, i, none⟩
  last : w'.cell? ⟨bL', n, none⟩ = some (.pointer (some ⟨x, 0, none⟩))
  soft : ∀ b i, b < w.heap.size → w.frozen? ⟨b, i, none⟩ = false → w'.frozen? ⟨b, i, none⟩ = false
  softv : ∀ i, w'.frozen? ⟨vb, i, none⟩ = false

def growS (S : Nat → Prop) (x vb bL' kb kn : Nat) (b : Nat) : Prop := S b ∨ b = x ∨ b = vb ∨ b = bL' ∨ (b = kb ∧ 0 < kn)
def growT (tag : Nat → Nat × Nat) (Y : Lay) (n x vb bL' kb kn : Nat) (b : Nat) : Nat × Nat :=
  if b = x then (3, n) else if b = vb then (4, n) else if b = bL' then (2, 0) else if b = Y.bL ∧ 0 < Y.cL then (9, 0) else if b = kb ∧ 0 < kn then (5, 0) else tag b
def growY (Y : Lay) (n x vb bL' cL' kb : Nat) : Lay :=
  { Y with bL := bL', cL := cL', pL := some ⟨bL', 0, none⟩, ob := fun i => if i = n then x else Y.ob i, kb := fun i => if i = n then kb else Y.kb i, vb := fun i => if i = n then vb else Y.vb i }

theorem Rep.grow {S : Nat → Prop} {tag : Nat → Nat × Nat} {w w' : World} {a : Nat} {Y : Lay} {h : H} (r : Rep S tag w a Y h) {x kb : Nat} {kp : Option Addr} {kc : Nat} {ks : List Int} {name : Int} (n : NewAt S tag w x kb kp kc ks name)
    {vb bL' cL' : Nat} (p : Put w w' a x vb bL' cL' Y h.l.length ks.length) (hm : h.l.length + 1 < 4398046511104) :
    Rep (growS S x vb bL' kb ks.length) (growT tag Y h.l.length x vb bL' kb ks.length) w' a (growY Y h.l.length x vb bL' cL' kb) (h.grown ks name) := by
  have sa := r.tabs.sa
  have la := r.lt a sa
  -- old blocks of S
  have nx : ∀ b, S b → b ≠ x := fun b hb e => n.fresh (e ▸ hb)
  have nv : ∀ b, S b → b ≠ vb := fun b hb e => by have := r.lt b hb; have := p.vb0; omega
  have nl : ∀ b, S b → tag b ≠ (2, 0) → b ≠ bL' := fun b hb ht e => by
    rcases p.bl with ⟨e1, hc⟩ | ⟨h1, _⟩
    · exact ht (by rw [e, e1]; exact (r.listAt hc).2.2)
    · have := r.lt b hb; omega
  have nk : ∀ b, S b → (tag b).1 ≠ 5 → ¬ (b = kb ∧ 0 < ks.length) := fun b hb ht e => ht (by rw [e.1]; exact (n.kinds e.2).2.2.2.2 (e.1 ▸ hb))
  have keepT : ∀ b, S b → tag b ≠ (2, 0) → (tag b).1 ≠ 5 → growT tag Y h.l.length x vb bL' kb ks.length b = tag b := fun b hb h2 h5 => by
    unfold growT
    rw [if_neg (nx b hb), if_neg (nv b hb), if_neg (nl b hb h2), if_neg (fun e => h2 (by rw [e.1]; exact (r.listAt e.2).2.2)), if_neg (nk b hb h5)]
  have keep5 : ∀ b, S b → (tag b).1 = 5 → (growT tag Y h.l.length x vb bL' kb ks.length b).1 = 5 := fun b hb h5 => by
    have h2 : tag b ≠ (2, 0) := fun e => by rw [e] at h5; simp at h5
    unfold growT
    rw [if_neg (nx b hb), if_neg (nv b hb), if_neg (nl b hb h2), if_neg (fun e => h2 (by rw [e.1]; exact (r.listAt e.2).2.2))]
    split
    · rfl
    · exact h5
  have sub : ∀ b, S b → growS S x vb bL' kb ks.length b := fun b hb => Or.inl hb
  have same : ∀ b, S b → tag b ≠ (2, 0) → b ≠ a → w'.heap[b]? = w.heap[b]? := fun b hb h2 ha => p.old b (r.lt b hb) ha (nx b hb) (nl b hb h2)
  have na2 : tag a ≠ (2, 0) := by rw [r.tagA]; simp
  have nota : ∀ b, tag b ≠ (0, 0) → b ≠ a := fun b hb e => hb (by rw [e]; exact r.tagA)
  have hlen : (h.grown ks name).l.length = h.l.length + 1 := by simp [H.grown]
  have hget : ∀ i, i < h.l.length → (h.grown ks name).l.getD i Tm.ob0 = h.l.getD i Tm.ob0 := fun i hi => by simp [H.grown, List.getD_eq_getElem?_getD, List.getElem?_append_left hi]
  have hlast : (h.grown ks name).l.getD h.l.length Tm.ob0 = ⟨ks, List.replicate ks.length 0, 0, name, false⟩ := by simp [H.grown, List.getD_eq_getElem?_getD]
  have kold : 0 < ks.length → w'.heap[kb]? = w.heap[kb]? := fun h0 => by
    obtain ⟨_, k1, k2, _, k4⟩ := n.kinds h0
    refine p.old kb k1 (fun e => ?_) k2 (fun e => ?_)
    · have := k4 (e ▸ sa); rw [e, r.tagA] at this; simp at this
    · rcases p.bl with ⟨e1, hc⟩ | ⟨h1, _⟩
      · have hk := k4 (by rw [e, e1]; exact (r.listAt hc).2.1); rw [e, e1, (r.listAt hc).2.2] at hk; simp at hk
      · omega
  obtain ⟨cp, cc, c1, c2⟩ := r.classes
  have sb : growS S x vb bL' kb ks.length bL' := Or.inr (Or.inr (Or.inr (Or.inl rfl)))
  have nxl : x ≠ bL' := fun e => by
    rcases p.bl with ⟨q1, hc⟩ | ⟨h1, _⟩
    · exact n.fresh (by rw [e, q1]; exact (r.listAt hc).2.1)
    · have := n.lt; omega
  have nvl : vb ≠ bL' := fun e => by
    rcases p.bl with ⟨q1, hc⟩ | ⟨_, h1⟩
    · have h1 := r.lt _ (r.listAt hc).2.1; have := p.vb0; rw [e, q1] at this; omega
    · exact h1 e.symm
  have nxv : x ≠ vb := fun e => by have := n.lt; have := p.vb0; omega
  refine ⟨fun b hb => ?_, fun b i hb => ?_, ⟨sub _ sa, r.tabs.t0, by rw [p.ai 6 (by omega)]; exact r.tabs.zero, fun k k0 k4 => ?_⟩, by rw [keepT a sa na2 (by rw [r.tagA]; simp)]; exact r.tagA, fun k k0 k4 => ?_,
    by rw [p.ai 0 (by omega)]; exact r.room, r.small, by rw [p.ai 10 (by omega)]; exact r.frames, r.fr, by rw [hlen]; exact p.a5, by rw [hlen]; exact hm, by rw [hlen]; exact p.cap, fun _ => ⟨rfl, sb, ?_⟩, fun _ => p.block, p.capm, (fun e => by have h1 := p.cap; have e' : cL' = 0 := e; omega), fun i hi => ?_, fun i hi => ?_,
    (r.ended.sub (sub _) (fun hb ht => by rw [keepT _ hb (by rw [ht]; simp) (by rw [ht]; simp)]; exact ht)).at (p.ai 11 (by omega)) (fun h0 => ?_), ⟨cp, cc, by rw [p.ai 12 (by omega)]; exact c1, fun h0 => ?_⟩, r.few, fun i q hi hq hk => ?_, fun i hi => ?_, fun k i hi => ?_⟩
  · rcases hb with hb | rfl | rfl | rfl | ⟨rfl, h0⟩
    · have := r.lt b hb; have := p.size; omega
    · have := n.lt; have := p.size; omega
    · exact p.vb1
    · exact p.bl1
    · have := (n.kinds h0).2.1; have := p.size; omega
  · rcases hb with hb | rfl | rfl | rfl | ⟨rfl, h0⟩
    · exact p.soft b i (r.lt b hb) (r.soft b i hb)
    · exact p.soft _ i n.lt (n.soft i)
    · exact p.softv i
    · obtain ⟨cur, hc, _⟩ := p.block
      simp [World.frozen?, hc]
    · exact p.soft _ i (n.kinds h0).2.1 ((n.kinds h0).2.2.2.1 i)
  · have tb := r.tabs.tab k k0 k4
    have tk := r.tagT k k0 k4
    have hb := same (Y.bt k) tb.sb (by rw [tk]; simp) (nota _ (by rw [tk]; simp))
    exact ⟨sub _ tb.sa, sub _ tb.sb, tb.len, by rw [p.ai (6 + k) (by omega)]; exact tb.head, fun i hi => by rw [show (growY Y h.l.length x vb bL' cL' kb).bt k = Y.bt k from rfl, cell_of hb]; exact tb.gen i hi, fun i hi => by rw [show (growY Y h.l.length x vb bL' cL' kb).bt k = Y.bt k from rfl, cell_of hb]; exact tb.ob i hi, fun i hi => by rw [show (growY Y h.l.length x vb bL' cL' kb).bt k = Y.bt k from rfl, cell_of hb]; exact tb.frame i hi, fun i => by rw [show (growY Y h.l.length x vb bL' cL' kb).bt k = Y.bt k from rfl, frozen_of hb]; exact tb.soft i⟩
  · have tb := r.tabs.tab k k0 k4
    have tk := r.tagT k k0 k4
    rw [show (growY Y h.l.length x vb bL' cL' kb).bt k = Y.bt k from rfl, keepT _ tb.sb (by rw [tk]; simp) (by rw [tk]; simp)]
    exact tk
  · show growT tag Y h.l.length x vb bL' kb ks.length bL' = (2, 0)
    unfold growT
    rw [if_neg (fun e => nxl e.symm), if_neg (fun e => nvl e.symm), if_pos rfl]
  · rw [hlen] at hi
    show w'.cell? ⟨bL', i, none⟩ = some (.pointer (some ⟨if i = h.l.length then x else Y.ob i, 0, none⟩))
    by_cases e : i = h.l.length
    · subst e; rw [if_pos rfl]; exact p.last
    · rw [if_neg e, p.ptr i (by omega)]; exact r.ptr i (by omega)
  · rw [hlen] at hi
    by_cases e : i = h.l.length
    · subst e
      rw [hlast]
      show ObjAt _ _ w' (if h.l.length = h.l.length then x else Y.ob h.l.length) h.l.length (if h.l.length = h.l.length then kb else Y.kb h.l.length) (if h.l.length = h.l.length then vb else Y.vb h.l.length) _
      rw [if_pos rfl, if_pos rfl, if_pos rfl]
      refine ⟨Or.inr (Or.inl rfl), by unfold growT; rw [if_pos rfl], ⟨_, by rw [p.xi 0 (by omega)]; exact n.c0, kp, kc, rfl, fun h0 => ⟨(n.kinds h0).1, Or.inr (Or.inr (Or.inr (Or.inr ⟨rfl, h0⟩)))⟩, fun i hi => by rw [cell_of (kold (by have : i < ks.length := hi; omega))]; exact n.ints i hi⟩, fun h0 => ?_, ⟨_, p.x1, some ⟨vb, 0, none⟩, ks.length, by simp, fun _ => ⟨rfl, Or.inr (Or.inr (Or.inl rfl))⟩, fun i hi => ?_⟩, fun _ => ?_, by simp, n.len, by rw [p.xi 2 (by omega)]; exact n.c2, by simp, by rw [p.xi 3 (by omega)]; exact n.c3, by rw [p.xi 4 (by omega)]; exact n.c4⟩
      · obtain ⟨_, k1, k2, _, k4⟩ := n.kinds h0
        unfold growT
        rw [if_neg k2, if_neg (fun e => by have := p.vb0; omega)]
        split
        · rename_i e
          rcases p.bl with ⟨q1, hc⟩ | ⟨h1, _⟩
          · have hk := k4 (by rw [e, q1]; exact (r.listAt hc).2.1); rw [e, q1, (r.listAt hc).2.2] at hk; simp at hk
          · omega
        · split
          · rename_i e
            have hk := k4 (by rw [e.1]; exact (r.listAt e.2).2.1); rw [e.1, (r.listAt e.2).2.2] at hk; simp at hk
          · rw [if_pos ⟨rfl, h0⟩]
      · simp only [List.length_replicate] at hi
        rw [p.vi i hi]
        simp [hi]
      · unfold growT
        rw [if_neg (fun e => nxv e.symm), if_pos rfl]
    · rw [hget i (by omega)]
      show ObjAt _ _ w' (if i = h.l.length then x else Y.ob i) i (if i = h.l.length then kb else Y.kb i) (if i = h.l.length then vb else Y.vb i) _
      rw [if_neg e, if_neg e, if_neg e]
      have oi := r.obj i (by omega)
      have so := oi.s
      obtain ⟨kv, k1, kpp, kcc, k2, k3, k4⟩ := oi.kinds
      obtain ⟨vv, v1, vpp, vcc, v2, v3, v4⟩ := oi.vals
      have t5 : 0 < (h.l.getD i Tm.ob0).kinds.length → tag (Y.kb i) ≠ (2, 0) ∧ tag (Y.kb i) ≠ (0, 0) := fun h0 => ⟨fun e => by have := oi.kt h0; rw [e] at this; simp at this, fun e => by have := oi.kt h0; rw [e] at this; simp at this⟩
      refine (oi.at (same _ so (by rw [oi.t]; simp) (nota _ (by rw [oi.t]; simp))) (fun h0 => same _ (k3 h0).2 (t5 h0).1 (nota _ (t5 h0).2)) (fun h0 => same _ (v3 h0).2 (by rw [oi.vt h0]; simp) (nota _ (by rw [oi.vt h0]; simp)))).sub sub ?_ ?_ ?_
      · rw [keepT _ so (by rw [oi.t]; simp) (by rw [oi.t]; simp)]; exact oi.t
      · exact fun h0 => keep5 _ (k3 h0).2 (oi.kt h0)
      · exact fun h0 => by rw [keepT _ (v3 h0).2 (by rw [oi.vt h0]; simp) (by rw [oi.vt h0]; simp)]; exact oi.vt h0
  · obtain ⟨_, q2, q3, _⟩ := r.ended.one h0
    exact same _ q2 (by rw [q3]; simp) (nota _ (by rw [q3]; simp))
  · obtain ⟨q1, q2, q3⟩ := c2 h0
    exact ⟨q1, sub _ q2, by rw [show (growY Y h.l.length x vb bL' cL' kb).bc = Y.bc from rfl, keepT _ q2 (by rw [q3]; simp) (by rw [q3]; simp)]; exact q3⟩
  · rw [hlen] at hi ⊢
    by_cases e : i = h.l.length
    · subst e
      rw [hlast] at hq hk ⊢
      simp only at hq hk ⊢
      simp [List.getD_eq_getElem?_getD, hq]
      omega
    · rw [hget i (by omega)] at hq hk ⊢
      have := r.refs i q (by omega) hq hk
      omega
  · obtain ⟨h1, h2, v, h3, h4⟩ := r.clas i hi
    obtain ⟨q1, q2, q3⟩ := c2 (by have : i < h.classes.length := hi; omega)
    obtain ⟨pp, pc, p1, p2, p3⟩ := h4
    refine ⟨h1, ?_, v, ?_, ?_⟩
    · rcases h2 with h2 | h2
      · by_cases h0 : 0 < (h.classes.getD i []).length
        · exact Or.inl (keep5 _ (p2 h0).2 h2)
        · exact Or.inr (List.eq_nil_of_length_eq_zero (Nat.eq_zero_of_not_pos h0))
      · exact Or.inr h2
    · rw [show (growY Y h.l.length x vb bL' cL' kb).bc = Y.bc from rfl, cell_of (same _ q2 (by rw [q3]; simp) (nota _ (by rw [q3]; simp)))]; exact h3
    · refine (IntsV.sub ⟨pp, pc, p1, p2, p3⟩ sub).at fun h0 => ?_
      rcases h2 with h2 | h2
      · exact same _ (p2 h0).2 (fun e => by rw [e] at h2; simp at h2) (nota _ (fun e => by rw [e] at h2; simp at h2))
      · have h0' : 0 < (h.classes.getD i []).length := h0
        rw [h2] at h0'; simp at h0'
  · have := r.wf k i hi
    rw [hlen]
    have h2 : (h.grown ks name).sl k i = h.sl k i := rfl
    rw [h2]
    omega
end Go.Proofs.YtcnmfljpmpgnjaaGreatDoor
