import Derived.Test.YtcnmfljpmpgnjaaGreatDoorJ15
import Derived.Deep.RegionHeldLaw
import Derived.Deep.RegionLawGrows
namespace Go.Proofs.YtcnmfljpmpgnjaaGreatDoor
open Go.RowKit Go.Maps
open Tm (H Ob Sl Why)

theorem map_frozen {P : Program} {k : TypeId} {R : Value → Option (DataW Unit × List MemPlace)} {w : World} {b n : Nat} {D : DataW Unit} (h : w.ownsMap P k R b n D) (i : Nat) : w.frozen? ⟨b, i, none⟩ = false := by
  obtain ⟨es, c, hb, _⟩ := h
  simp [World.frozen?, hb]

/-- What the store's collection leaves. -/
def PCollPost (S : Nat → Prop) (w : World) (a : Nat) (Y : PLay) (h : H) (M : List Bool) (e : Ending) (w' : World) : Prop :=
  e = .returned (.int .i64 (h.collNum M h.l.length)) ∧ ∃ S' tag', PRep S' tag' w' a Y (h.collTo M h.l.length) ∧ Kept S w w' ∧ (∀ b, S b → S' b) ∧ ∀ b, S' b → S b ∨ w.heap.size ≤ b

/-- The names wait, the map is still whole. -/
structure Mid (S S' : Nat → Prop) (tag tag' : Nat → Nat × Nat) (w wl : World) (Y : PLay) (h : H) (nl : List Int) : Prop where
  sub : ∀ b, S b → S' b ∧ tag' b = tag b
  lt : ∀ b, S' b → b < wl.heap.size
  new : ∀ b, S' b → S b ∨ w.heap.size ≤ b
  soft : ∀ b i, S' b → wl.frozen? ⟨b, i, none⟩ = false
  keep : Kept S w wl
  same : ∀ b, S b → (tag b).1 ≠ 1 → (tag b).1 ≠ 10 → wl.heap[b]? = w.heap[b]?
  cells : ∀ i, i < 3 → wl.cell? ⟨Y.bs, i, none⟩ = w.cell? ⟨Y.bs, i, none⟩
  ended : EAt S' tag' wl Y.bs (h.ended ++ nl)

theorem Mid.fin {S S' : Nat → Prop} {tag tag' : Nat → Nat × Nat} {w wl wr : World} {a : Nat} {Y : PLay} {h : H} {M : List Bool} {Dr : DataW Unit} (m : Mid S S' tag tag' w wl Y h (namesOf h (goneL h M h.l.length))) (r : PRep S tag w a Y h) (hM : Tm.Marked h M) (ho : wr.ownsMap Tryz.prog 3 ptrElem Y.bm h.l.length Dr) (hd : ObjsD Dr h.l.length (fun j => alive h j && !((goneL h M h.l.length).contains ((j : Int) + 1))) Y.ob) (hk : Kept (fun x => x = Y.bm) wl wr) :
    PRep S' tag' wr a Y (h.collTo M h.l.length) ∧ Kept S w wr ∧ (∀ b, S b → S' b) ∧ ∀ b, S' b → S b ∨ w.heap.size ≤ b := by
  have hs2 := m.sub _ r.sm.1
  have hne : Y.bs ≠ Y.bm := fun e => by have h1 := r.ss.2; rw [e, r.sm.2] at h1; simp at h1
  have kb : ∀ b, S' b → b ≠ Y.bm → wr.heap[b]? = wl.heap[b]? := fun b hb h1 => hk.block b (m.lt b hb) h1
  have hsl := m.sub _ r.ss.1
  have ns := kb Y.bs hsl.1 hne
  refine ⟨r.coll M hM (fun b hb h1 h2 h3 => ?_) m.sub (fun b hb => Nat.lt_of_lt_of_le (m.lt b hb) hk.size) (fun b i hb => ?_) ((cell_of ns).trans (m.cells 0 (by omega))) ((cell_of ns).trans (m.cells 1 (by omega))) ((cell_of ns).trans (m.cells 2 (by omega))) Dr ho (hd.congr (fun j hj => ?_) (fun _ _ _ => rfl)) ?_, ?_, fun b hb => (m.sub b hb).1, m.new⟩
  · rw [kb b (m.sub b hb).1 (fun e => h1 (by rw [e, r.sm.2]))]; exact m.same b hb h2 h3
  · by_cases e : b = Y.bm
    · subst e; exact map_frozen ho i
    · rw [frozen_of (kb b hb e)]; exact m.soft b i hb
  · cases hal : alive h j
    · simp
    · simp only [Bool.true_and]
      cases hMj : M.getD (j + 1) false
      · have : (goneL h M h.l.length).contains ((j : Int) + 1) = true := List.contains_iff_mem.2 ((mem_goneL _ _ _ _).2 ⟨j, hj, hal, hMj, rfl⟩)
        rw [this]; rfl
      · have : (goneL h M h.l.length).contains ((j : Int) + 1) = false := by
          cases hc : (goneL h M h.l.length).contains ((j : Int) + 1)
          · rfl
          · obtain ⟨j', _, _, h3, h4⟩ := (mem_goneL _ _ _ _).1 (List.contains_iff_mem.1 hc)
            obtain rfl : j' = j := by omega
            rw [h3] at hMj; cases hMj
        rw [this]; rfl
  · rw [goneL_names]
    exact m.ended.same (cell_of ns) (fun b hb q => kb b hb (fun e => by rw [e, hs2.2, r.sm.2] at q; simp at q))
  · exact m.keep.trans ⟨hk.os, hk.tape, hk.output, hk.size, fun k h1 h2 => hk.block k h1 (fun e => h2 (e ▸ r.sm.1))⟩

/-- All blocks but one are as they were. -/
structure GrewTo (w w' : World) (g : Nat) : Prop where
  os : w'.os = w.os
  tape : w'.tape = w.tape
  output : w'.output = w.output
  size : w.heap.size ≤ w'.heap.size
  block : ∀ k, k < w.heap.size → k ≠ g → w'.heap[k]? = w.heap[k]?

theorem append_chan {w : World} {n : Nat} {e t : TypeId} {i : TypeInfo} {z : Value} {bytes : Nat} (h1 : Tryz.prog.underlying t = some (.slice e)) (h2 : Tryz.prog.info? e = some i) (h3 : i.zero = some z) (h4 : i.size = 1) (h5 : i.bytes = bytes) (h6 : z.cells.size = 1) {v : Value} {xs : List Value} (hown : w.ownsRow 0 e 1 v n xs) (ty : TypeId) (ad : Addr) (u : Value) (hc : w.cell? ad = some u) (hu : u.oneCell' = true) (b1 : n + 1 ≤ maxLen) (b2 : (n + 1) * bytes ≤ 140737488355328) :
    ∃ g' c' w', (Builtin.append_ #[t, t] ty #[v, .slice (some ad) 1 1]).run Tryz.prog w = .ok (.slice (some ⟨g', 0, none⟩) (n + 1) c') w' ∧ w'.ownsRow 0 e 1 (.slice (some ⟨g', 0, none⟩) (n + 1) c') (n + 1) (xs ++ [u]) ∧ GrewTo w w' g' ∧ (v.ownBlock = some g' ∨ w.heap.size ≤ g') := by
  have hcell : ∀ j u', [u][j]? = some u' → w.cell? (ad.add j) = some u' := fun j u' hj => by
    cases j with
    | zero => simp at hj; subst hj; simpa [Addr.add] using hc
    | succ j => simp at hj
  have grew : ∀ v' w', w'.ownsRow w.heap.size e 1 v' (n + 1) (xs ++ [u]) → w.grownBy w' none → (Builtin.append_ #[t, t] ty #[v, .slice (some ad) 1 1]).run Tryz.prog w = .ok v' w' → ∃ g' c' w', (Builtin.append_ #[t, t] ty #[v, .slice (some ad) 1 1]).run Tryz.prog w = .ok (.slice (some ⟨g', 0, none⟩) (n + 1) c') w' ∧ w'.ownsRow 0 e 1 (.slice (some ⟨g', 0, none⟩) (n + 1) c') (n + 1) (xs ++ [u]) ∧ GrewTo w w' g' ∧ (v.ownBlock = some g' ∨ w.heap.size ≤ g') := fun v' w' ho hg hr => by
    have ho2 := ho
    rcases ho.2 with ⟨_, e⟩ | ⟨g, c, cur, rfl, q1, q2, q3⟩
    · omega
    · exact ⟨g, c, w', hr, ⟨ho2.1, .inr ⟨g, c, cur, rfl, Nat.zero_le _, q2, q3⟩⟩, ⟨hg.os, hg.tape, hg.output, hg.size, fun k hk _ => hg.block k hk (by simp)⟩, Or.inr q1⟩
  rcases hown.2 with ⟨rfl, rfl⟩ | ⟨g, cap, cur, rfl, q1, q2, q3, q4, q5, q6⟩
  · have hx0 : xs = [] := List.eq_nil_of_length_eq_zero (by have := hown.1; omega)
    subst hx0
    obtain ⟨v', w', hrun, r1, r2, _⟩ := run_append_own (P := Tryz.prog) w w.heap.size t ty e i z 1 bytes h1 h2 h3 h4 h5 h6 (by decide) (.slice none 0 0) 0 [] (World.ownsRow_nil w _ e 1) ad 1 1 [u] rfl hcell (by simpa using hu) (by omega) (by omega) (Nat.le_refl _)
    exact grew v' w' r1 r2 hrun
  · by_cases hf : n + 1 ≤ cap
    · obtain ⟨w', hrun, hown', hgr⟩ := run_append_fits (P := Tryz.prog) w 0 t ty e i 1 h1 h2 h4 g n cap xs ⟨hown.1, .inr ⟨g, cap, cur, rfl, q1, q2, q3, q4, q5, q6⟩⟩ ad 1 1 [u] rfl hcell (by simpa using hu) hf
      exact ⟨g, cap, w', hrun, hown', ⟨hgr.os, hgr.tape, hgr.output, hgr.size, fun k hk hne => hgr.block k hk (fun e => hne (Option.some.inj e))⟩, Or.inl rfl⟩
    · obtain ⟨v', w', hrun, r1, r2⟩ := run_append_arg_grows (P := Tryz.prog) w t ty e i z 1 bytes h1 h2 h3 h4 h5 h6 (by decide) ⟨g, 0, none⟩ n cap xs hown.1 (fun j u' hj => by
        rw [← q6, List.getElem?_take] at hj
        split at hj
        · rw [Addr.add_lit]
          simpa [World.cell?, q2] using hj
        · cases hj) ad 1 1 [u] rfl hcell (by omega) (by omega) (by omega)
      exact grew v' w' r1 r2 hrun

/-- One channel more waits. -/
theorem mid_more {S : Nat → Prop} {tag : Nat → Nat × Nat} {w w2 w3 w5 : World} {a : Nat} {Y : PLay} {h : H} {nl : List Int} {Mc : List (Nat × List Int)} {pv : Option Addr} {cv g' c' : Nat} {X : Obj} (r : PRep S tag w a Y h) (hb2 : Below w.heap.size w w2) (hb3 : Below w2.heap.size w2 w3) (hlt : w2.heap.size < w3.heap.size) (hch : w3.heap[w2.heap.size]? = some (.chan nl.length (nl.map (Value.int .i64)).toArray true nl.length 0 false)) (hnl : nl ≠ [])
    (hv1 : w2.cell? ⟨Y.bs, 3, none⟩ = some (.slice pv Mc.length cv)) (hv3 : ∀ g, (Value.slice pv Mc.length cv).ownBlock = some g → S g ∧ tag g = (10, 0)) (hv4 : Mc.flatMap Prod.snd = h.ended) (hv5 : (Mc.map Prod.fst).Nodup) (hv6 : ∀ m ∈ Mc, m.2 ≠ []) (hv7 : ∀ m ∈ Mc, S m.1 ∧ (tag m.1).1 = 11 ∧ ∃ cap s r tm, w2.heap[m.1]? = some (.chan cap (m.2.map (Value.int .i64)).toArray true s r tm))
    (hown : w5.ownsRow 0 130 1 (.slice (some ⟨g', 0, none⟩) (Mc.length + 1) c') (Mc.length + 1) ((Mc.map fun m => Value.chan (some m.1)) ++ [Value.chan (some w2.heap.size)])) (hgr : GrewTo (w3.alloc X) w5 g') (hat : (Value.slice pv Mc.length cv).ownBlock = some g' ∨ w3.heap.size + 1 ≤ g') :
    Mid S (fun b => S b ∨ b = w2.heap.size ∨ b = g') tag (fun b => if b = w2.heap.size then (11, 0) else if b = g' then (10, 0) else tag b) w (w5.setCell ⟨Y.bs, 3, none⟩ (.slice (some ⟨g', 0, none⟩) (Mc.length + 1) c')) Y h nl := by
  have hS := r.lt
  have hz2 := hb2.size
  have hz3 := hb3.size
  have hz5 : w3.heap.size + 1 ≤ w5.heap.size := by have := hgr.size; simpa using this
  have hbs := r.lt _ r.ss.1
  have e5 : ∀ x, x < w3.heap.size → x ≠ g' → w5.heap[x]? = w3.heap[x]? := fun x hx hne => by
    rw [hgr.block x (by simp; omega) hne]; exact (Below.alloc0 w3 _).block x hx
  have e3 : ∀ x, x < w.heap.size → w3.heap[x]? = w.heap[x]? := fun x hx => (hb3.block x (by omega)).trans (hb2.block x hx)
  have hgS : ∀ x, x < w.heap.size → x = g' → S x ∧ tag x = (10, 0) := fun x hx e => by
    subst e
    rcases hat with q | q
    · exact hv3 _ q
    · omega
  have nov : ∀ x, S x → (tag x).1 ≠ 10 → x ≠ g' := fun x hx ht e => ht (by rw [(hgS x (hS x hx) e).2])
  have eS : ∀ x, S x → (tag x).1 ≠ 10 → w5.heap[x]? = w.heap[x]? := fun x hx ht => (e5 x (by have := hS x hx; omega) (nov x hx ht)).trans (e3 x (hS x hx))
  have eC : w5.heap[w2.heap.size]? = w3.heap[w2.heap.size]? := e5 _ hlt (fun e => by rcases hat with q | q; have := hS _ (hv3 _ q).1; omega; omega)
  have hrow := World.ownsRow.lt hown g' rfl
  have hcur : ∃ cur, w5.heap[g']? = some (.cells cur 130 (0, 0)) := by
    rcases hown.2 with ⟨e, _⟩ | ⟨g, c, cur, e, _, hg, _⟩
    · cases e
    · simp only [Value.slice.injEq, Option.some.injEq, Addr.mk.injEq] at e
      rw [e.1.1]; exact ⟨cur, hg⟩
  have hgbs : g' ≠ Y.bs := fun e => by
    rcases hat with q | q
    · have h1 := (hv3 _ q).2; rw [e, r.ss.2] at h1; simp at h1
    · omega
  have hset : ∀ x, x ≠ Y.bs → (w5.setCell ⟨Y.bs, 3, none⟩ (.slice (some ⟨g', 0, none⟩) (Mc.length + 1) c')).heap[x]? = w5.heap[x]? := fun x hx => Below.heap_setCell _ _ _ _ hx
  have hbs5 : w5.heap[Y.bs]? = w.heap[Y.bs]? := eS _ r.ss.1 (by rw [r.ss.2]; simp)
  have c3 : w5.cell? ⟨Y.bs, 3, none⟩ = some (.slice pv Mc.length cv) := by rw [cell_of hbs5, ← hb2.cell hbs]; exact hv1
  have hsub : ∀ b, S b → (S b ∨ b = w2.heap.size ∨ b = g') ∧ (if b = w2.heap.size then (11, 0) else if b = g' then (10, 0) else tag b) = tag b := fun b hb => by
    have hbl := hS b hb
    refine ⟨Or.inl hb, ?_⟩
    rw [if_neg (by omega)]
    by_cases e : b = g'
    · rw [if_pos e, (hgS b hbl e).2]
    · rw [if_neg e]
  have ht : (if g' = w2.heap.size then (11, 0) else if g' = g' then (10, 0) else tag g') = (10, 0) := by
    rw [if_neg (by rcases hat with q | q; have := hS _ (hv3 _ q).1; omega; omega), if_pos rfl]
  refine ⟨hsub, fun b hb => ?_, fun b hb => ?_, fun b i hb => ?_, ?_, fun b hb h1 h2 => ?_, fun i hi => ?_, ?_⟩
  · rw [World.size_setCell]
    rcases hb with hb | rfl | rfl
    · have := hS b hb; omega
    · omega
    · exact hrow.2
  · rcases hb with hb | rfl | rfl
    · exact Or.inl hb
    · exact Or.inr hz2
    · rcases hat with q | q
      · exact Or.inl (hv3 _ q).1
      · exact Or.inr (by omega)
  · rw [World.frozen?_setCell]
    by_cases eg : b = g'
    · subst eg; obtain ⟨cur, hc⟩ := hcur; simp [World.frozen?, hc]
    · rcases hb with hb | rfl | rfl
      · have : w5.heap[b]? = w.heap[b]? := (e5 b (by have := hS b hb; omega) eg).trans (e3 b (hS b hb))
        rw [frozen_of this]; exact r.soft b i hb
      · rw [frozen_of eC]; simp [World.frozen?, hch]
      · exact absurd rfl eg
  · refine ⟨hgr.os.trans (hb3.os.trans hb2.os), hgr.tape.trans (hb3.tape.trans hb2.tape), hgr.output.trans (hb3.output.trans hb2.output), by rw [World.size_setCell]; omega, fun k hk hn => ?_⟩
    rw [hset k (fun e => hn (e ▸ r.ss.1)), e5 k (by omega) (fun e => hn (hgS k hk e).1)]
    exact e3 k hk
  · rw [hset b (fun e => h1 (by rw [e, r.ss.2]))]; exact eS b hb h2
  · rw [World.cell?_setCell_other _ _ _ _ (fun e => by have := congrArg Addr.off e; simp at this; omega)]; exact cell_of hbs5
  · refine ⟨_, Mc ++ [(w2.heap.size, nl)], World.cell?_setCell_same _ _ _ c3, ?_, fun g hg => ?_, ?_, ?_, fun m hm => ?_, fun m hm => ?_⟩
    · rw [List.length_append, List.map_append]
      exact ownsRow_block hown (fun g hg => by cases hg; exact hset _ hgbs)
    · cases hg; exact ⟨Or.inr (Or.inr rfl), ht⟩
    · rw [List.flatMap_append, hv4]; simp
    · rw [List.map_append]
      refine List.nodup_append.2 ⟨hv5, by simp, fun x hx y hy => ?_⟩
      simp only [List.map_cons, List.map_nil, List.mem_singleton] at hy
      obtain ⟨m, hm, rfl⟩ := List.mem_map.1 hx
      have := hS _ (hv7 m hm).1
      omega
    · rcases List.mem_append.1 hm with hm | hm
      · exact hv6 m hm
      · simp only [List.mem_singleton] at hm; subst hm; exact hnl
    · rcases List.mem_append.1 hm with hm | hm
      · obtain ⟨q1, q2, cap, s, r', tm, q3⟩ := hv7 m hm
        refine ⟨Or.inl q1, by show (if m.1 = w2.heap.size then (11, 0) else if m.1 = g' then (10, 0) else tag m.1).1 = 11; rw [(hsub _ q1).2]; exact q2, cap, s, r', tm, ?_⟩
        rw [hset _ (fun e => by rw [e, r.ss.2] at q2; simp at q2), eS _ q1 (by omega), ← hb2.block _ (hS _ q1)]; exact q3
      · simp only [List.mem_singleton] at hm; subst hm
        refine ⟨Or.inr (Or.inl rfl), by simp, nl.length, nl.length, 0, false, ?_⟩
        rw [hset _ (by show w2.heap.size ≠ Y.bs; omega), eC]; exact hch

def ClInv (wl : World) (h : H) (Y : PLay) (l : List Int) (iv : Value) (wr : World) : Prop :=
  ∃ (i : Nat) (Dr : DataW Unit), i ≤ l.length ∧ iv = .int .i64 i ∧ wr.ownsMap Tryz.prog 3 ptrElem Y.bm h.l.length Dr ∧ ObjsD Dr h.l.length (fun j => alive h j && !((l.take i).contains ((j : Int) + 1))) Y.ob ∧ Kept (fun x => x = Y.bm) wl wr

theorem infoC : (Tryz.prog.info? 130).map (fun i => (i.zero, i.size, i.bytes)) = some (some (.chan none), 1, 8) := by kernel_rfl

theorem step_append_run {P : Program} {ops : Array Oper} {o : Oper} {a : Act} {w : World} {K : Act → World → Prop} {Q : Exit → Act → World → Prop} {E : Prop}
    (hg : o.guard = none) (s x : Operand) (t : TypeId) (hop : o.op = Op.call { callee := Callee.builtin Builtin.append, args := #[s, x], argTypes := #[t, t] }) (v1 v2 v' : Value) (w' : World) (hs : a.eval s = v1) (hx : a.eval x = v2)
    (hr : (Builtin.append_ #[t, t] o.type #[v1, v2]).run P w = .ok v' w') (hK : K (a.put o.dst v') w') :
    if Region.wanted o (yielded ops a.tmps) = true then Oper.wp P o a w K Q else E := by
  have hw : Region.wanted o (yielded ops a.tmps) = true := by simp [Region.wanted, hg]
  rw [if_pos hw]
  unfold Oper.wp
  simp [execOp, hop, resolve, invoke, builtin, hs, hx, hr, Result.andThen]
  exact hK

set_option maxRecDepth 100000 in
set_option maxHeartbeats 4000000 in
theorem collectS_any {S : Nat → Prop} {tag : Nat → Nat × Nat} {w : World} {a : Nat} {Y : PLay} {h : H} (r : PRep S tag w a Y h) (M : List Bool) (hM : Tm.Marked h M) (p : Option Addr) (c : Nat) (hrow : IRow 0 w p c (rootsOf h)) (h0 : p = none → rootsOf h = []) :
    Calls Tryz.prog 53 #[.pointer (some ⟨Y.bs, 0, none⟩), .slice p (rootsOf h).length c] w (PCollPost S w a Y h M) := by
  have HMs := hide (missed_any r M hM p c hrow h0)
  have HR := hide r
  have HMk := hide hM
  have hmany := r.good.many
  have hbs := r.lt _ r.ss.1
  have hbm := r.lt _ r.sm.1
  have hnesm : Y.bs ≠ Y.bm := fun e => by have h1 := r.ss.2; rw [e, r.sm.2] at h1; simp at h1
  have hm := r.map
  have HNum := hide (goneL_num h M h.l.length)
  have hgl : (goneL h M h.l.length).length ≤ 200 := by
    have h1 := Tm.countOf_room h.l
    have h2 := r.good.fits
    have h3 := r.good.small
    rw [countOf_cnt] at h1
    have h4 := List.length_filter_le (fun x => !(M.getD x.toNat false)) (aliveL h h.l.length)
    rw [aliveL_len] at h4
    unfold goneL
    omega
  have HGa : Hid (∀ x ∈ goneL h M h.l.length, ∃ j, j < h.l.length ∧ alive h j = true ∧ x = (j : Int) + 1) := fun x hx => by
    obtain ⟨j, h1, h2, _, h4⟩ := (mem_goneL h M h.l.length x).1 hx
    exact ⟨j, h1, h2, h4⟩
  have hnl := namesOf_len h (goneL h M h.l.length)
  clear r hM hrow h0
  obtain ⟨l, el⟩ : ∃ l, goneL h M h.l.length = l := ⟨_, rfl⟩
  have HEl := hide el
  rw [el] at HMs HNum hgl HGa hnl
  clear el
  go_enter Tryz.func53, Tryz.ntmps53
  go_wp2_with (first
    | (go_at_call 89
       refine HMs.out.mono ?_
       rintro e w1 ⟨ad, b, cap, rfl, hq, hgc, hb1⟩
       have HB1 := hide hb1
       have HQ1 := hide hq
       have HG1 := hide hgc
       have hz1 := hb1.size
       have HNm := hide (names_any (HR.out.below hb1 (Nat.le_refl _)) ad cap l b 0 (by omega) (fun h0 => ⟨(hq h0).1, (hq h0).2.2, fun i hi => by rw [Nat.zero_add]; exact hgc i hi⟩) HGa.out)
       clear hb1 hq hgc)
    | fail)
  refine HNm.out.mono ?_
  rintro e w2 ⟨g2, k2, rfl, hr2, hb2⟩
  have hb2' : Below w.heap.size w w2 := HB1.out.trans (hb2.mono hz1)
  have HB2 := hide hb2'
  have hz2 := hb2'.size
  have HR2 := hide hr2
  have r2 := HR.out.below hb2' (Nat.le_refl _)
  have HRr2 := hide r2
  have HG2 : Hid (∀ i, i < l.length → w2.cell? ⟨b, i, none⟩ = some (.int .i64 (l.getD i 0))) := fun i hi => by
    show _ = _
    rw [hb2.cell (HQ1.out (by omega)).2.2]; exact HG1.out i hi
  have HQ2 : Hid (0 < l.length → ad = some ⟨b, 0, none⟩ ∧ w.heap.size ≤ b ∧ b < w2.heap.size) := fun h0 => ⟨(HQ1.out h0).1, (HQ1.out h0).2.1, Nat.lt_of_lt_of_le (HQ1.out h0).2.2 hb2.size⟩
  obtain ⟨D0, d1, d2⟩ := r2.objs
  have HD0 := hide d2
  have HOw2 := hide d1
  have hm2 := r2.map
  obtain ⟨nl, enl⟩ : ∃ nl, namesOf h l = nl := ⟨_, rfl⟩
  rw [enl] at HR2 hnl ⊢
  have HEn := hide enl
  clear hb2 hb2' hr2 r2 d1 d2 enl HMs HNm HG1 HQ1
  by_cases hn0 : nl.length = 0
  · have HMid : Hid (Mid S S tag tag w w2 Y h (namesOf h (goneL h M h.l.length))) := by
      have e0 : namesOf h (goneL h M h.l.length) = [] := by rw [HEl.out, HEn.out]; exact List.length_eq_zero_iff.1 hn0
      have r2 := HRr2.out
      refine ⟨fun b hb => ⟨hb, rfl⟩, r2.lt, fun b hb => Or.inl hb, r2.soft, Kept.of_below HB2.out, fun b hb _ _ => HB2.out.block b (HR.out.lt b hb), fun i _ => HB2.out.cell hbs, ?_⟩
      rw [e0, List.append_nil]; exact r2.sto.ended
    have HQ : Hid (0 < l.length → ad = some ⟨b, 0, none⟩ ∧ b ≠ Y.bm ∧ b < w2.heap.size) := fun h0 => ⟨(HQ2.out h0).1, by have := (HQ2.out h0).2.1; omega, (HQ2.out h0).2.2⟩
    have HGc := HG2
    have HOl := HOw2
    have hbsl : Y.bs < w2.heap.size := by omega
    have hml := hm2
    have bn : decide ((nl.length : Int) > 0) = false := decide_eq_false (by omega)
    go_wp2_with fail
    go_loopw [31] (fun iv wr => ClInv w2 h Y l iv wr) (fun iv _ => l.length - (Go.RowKit.intOf iv).toNat)
    case atStart => exact ⟨0, D0, by omega, rfl, HOl.out, HD0.out.congr (fun j _ => by simp) (fun _ _ _ => rfl), Kept.refl _ _⟩
    case round =>
      obtain ⟨i, Dr, hi, rfl, hor, hdr, hkr⟩ := hrel
      have HOr := hide hor
      have HDr := hide hdr
      have HKr := hide hkr
      have mr : wr.cell? ⟨Y.bs, 2, none⟩ = some (.map (some Y.bm)) := by rw [cell_of (hkr.block Y.bs hbsl hnesm)]; exact hml
      by_cases hlt : i < l.length
      · have bi : (i : Int) < (l.length : Int) := by omega
        obtain ⟨rfl, hb1, hb2⟩ := HQ.out (by omega)
        have ci : wr.cell? ⟨b, i, none⟩ = some (.int .i64 (l.getD i 0)) := by rw [cell_of (hkr.block b hb2 hb1)]; exact HGc.out i hlt
        obtain ⟨j, hj, hja, hjM, hjx⟩ := (mem_goneL h M h.l.length (l.getD i 0)).1 (by rw [HEl.out]; exact Tm.getD_mem _ _ _ hlt)
        rw [hjx] at ci
        have HTk : Hid (l.take (i + 1) = l.take i ++ [(j : Int) + 1]) := by show _ = _; rw [Tm.take_getD l 0 i hlt, hjx]
        clear hor hdr hkr hjx
        go_wp2_with (first
          | (at_delete; refine wpList_delete_own _ rfl _ _ 127 3 rfl 99 lawI Tryz.underlying127 ptrElem Y.bm h.l.length Dr rfl HOr.out _ (key j) rfl (keyOf_int_mk Tryz.underlying3 (wf_i64 (by omega) (by omega))) ?_; intro w9 hown9 hturn9; go_frame)
          | fail)
        go_roundw
        case rel =>
          refine ⟨i + 1, _, by omega, by go_num, hown9, (HDr.out.del j).congr (fun q hq => ?_) (fun _ _ _ => rfl), HKr.out.of_turned (Or.inl rfl) hturn9.grown⟩
          rw [HTk.out]
          by_cases e : q = j
          · subst e; simp
          · have : ((l.take i ++ [(j : Int) + 1]).contains ((q : Int) + 1)) = (l.take i).contains ((q : Int) + 1) := by
              rw [Bool.eq_iff_iff, List.contains_iff_mem, List.contains_iff_mem, List.mem_append, List.mem_singleton]
              exact ⟨fun h => h.resolve_right (by omega), Or.inl⟩
            rw [this]; simp [e]
        case measure => simp [Go.RowKit.intOf]; omega
      · have bi : ¬ (i : Int) < (l.length : Int) := by omega
        have ei : l.take i = l := List.take_of_length_le (by omega)
        rw [ei] at hdr
        have HDr := hide hdr
        clear hor hdr hkr ei
        go_wp2_with fail
        go_ret
        exact ⟨ret_int HNum.out.symm, _, _, HMid.out.fin HR.out HMk.out HOr.out (by have := HDr.out; rw [← HEl.out] at this; exact this) HKr.out⟩
  · have bn : decide ((nl.length : Int) > 0) = true := decide_eq_true (by omega)
    have hbs2 : Y.bs < w2.heap.size := by omega
    obtain ⟨v, Mc, hv1, hv2, hv3, hv4, hv5, hv6, hv7⟩ := HRr2.out.sto.ended
    have f3 := HRr2.out.soft _ 3 HRr2.out.ss.1
    obtain ⟨pv, cv, rfl⟩ : ∃ pv cv, v = .slice pv Mc.length cv := by
      rcases hv2.2 with ⟨rfl, e⟩ | ⟨g, c, cur, rfl, _⟩
      · exact ⟨none, 0, by rw [e]⟩
      · exact ⟨_, _, rfl⟩
    have hMl : Mc.length ≤ 4398046511104 := by
      have h1 : Mc.length ≤ (Mc.flatMap Prod.snd).length := by
        clear hv1 hv2 hv3 hv4 hv5 hv7
        induction Mc with
        | nil => exact Nat.zero_le _
        | cons m Mc ih =>
          have h2 := ih (fun m hm => hv6 m (List.mem_cons_of_mem _ hm))
          have h3 : 0 < m.2.length := List.length_pos_iff.2 (hv6 m (List.mem_cons_self ..))
          simp only [List.flatMap_cons, List.length_append, List.length_cons]
          omega
      rw [hv4] at h1
      have := Tm.told_len HR.out.good.told
      omega
    have HV2 := hide hv2
    have HV3 := hide hv3
    have HV4 := hide hv4
    have HV5 := hide hv5
    have HV6 := hide hv6
    have HV7 := hide hv7
    have HSe : Hid (Calls Tryz.prog 91 #[.slice (some ⟨g2, 0, none⟩) nl.length k2] w2.drew fun e w' => e = .returned (.chan (some w2.heap.size)) ∧ Below w2.heap.size w2 w' ∧ w'.heap[w2.heap.size]? = some (.chan nl.length (nl.map (Value.int .i64)).toArray true nl.length 0 false)) := by
      refine (sent_any w2.drew (some ⟨g2, 0, none⟩) k2 nl (by omega) g2 0 (fun h0 => ?_)).mono ?_
      · obtain ⟨g, e, _, q2, _, q4, _⟩ := HR2.out.at (Or.inl h0)
        cases e
        exact ⟨rfl, q2, fun j hj => by rw [Nat.zero_add]; exact q4 j hj⟩
      · rintro e w' ⟨rfl, hb, hc⟩
        exact ⟨rfl, (below_drew w2).trans hb, hc⟩
    clear hv2 hv3 hv4 hv5 hv6 hv7
    obtain ⟨ic, hic, hcz, hcs, hcb⟩ := info_parts infoC
    have HAp : Hid (∀ w3, Below w2.heap.size w2 w3 → ∃ g' c' w5, (Builtin.append_ #[126, 126] 126 #[.slice pv Mc.length cv, .slice (some ⟨w3.heap.size, 0, none⟩) 1 1]).run Tryz.prog (w3.alloc (.cells #[Value.chan (some w2.heap.size)] 130)) = .ok (.slice (some ⟨g', 0, none⟩) (Mc.length + 1) c') w5 ∧ w5.ownsRow 0 130 1 (.slice (some ⟨g', 0, none⟩) (Mc.length + 1) c') (Mc.length + 1) ((Mc.map fun m => Value.chan (some m.1)) ++ [Value.chan (some w2.heap.size)]) ∧ GrewTo (w3.alloc (.cells #[Value.chan (some w2.heap.size)] 130)) w5 g' ∧ ((Value.slice pv Mc.length cv).ownBlock = some g' ∨ w3.heap.size + 1 ≤ g')) := fun w3 hb3 => by
      obtain ⟨g', c', w5, q1, q2, q3, q4⟩ := append_chan Tryz.underlying126 hic hcz hcs hcb rfl ((ownsRow_block (w' := w3) HV2.out (fun g hg => hb3.block g (HRr2.out.lt _ (HV3.out g hg).1))).alloc (.cells #[Value.chan (some w2.heap.size)] 130)) 126 ⟨w3.heap.size, 0, none⟩ (.chan (some w2.heap.size)) (by rw [World.cell?_alloc_new]; rfl) rfl (by simp only [maxLen]; omega) (by omega)
      exact ⟨g', c', w5, q1, q2, q3, by simpa using q4⟩
    clear hic hcz hcs hcb
    go_wp2_with fail
    go_region_law (first
      | (refine step_append_run rfl (.tmp 22) (.tmp 25) 126 rfl _ _ _ w5 rfl rfl hap ?_)
      | (go_simp
         go_at_call 91
         refine HSe.out.mono ?_
         rintro e w3 ⟨rfl, hb3, hch⟩
         have s3 : w3.cell? ⟨Y.bs, 3, none⟩ = some (.slice pv Mc.length cv) := by rw [hb3.cell hbs2]; exact hv1
         have hz3 := hb3.size
         have s4 : ∀ x, (w3.alloc x).cell? ⟨Y.bs, 3, none⟩ = some (.slice pv Mc.length cv) := fun x => by rw [World.cell?_alloc_lt _ _ _ (show Y.bs < w3.heap.size by omega)]; exact s3
         have hchl : w2.heap.size < w3.heap.size := by
           rcases Nat.lt_or_ge w2.heap.size w3.heap.size with h | h
           · exact h
           · rw [Array.getElem?_eq_none h] at hch; cases hch
         obtain ⟨g', c', w5, hap, hown5, hgr5, hat5⟩ := HAp.out w3 hb3
         have hgbs : Y.bs ≠ g' := fun e => by
           rcases hat5 with q | q
           · have h1 := (HV3.out g' q).2; rw [← e, HRr2.out.ss.2] at h1; simp at h1
           · omega
         have hbl5 : w5.heap[Y.bs]? = w3.heap[Y.bs]? := by
           rw [hgr5.block _ (by simp; omega) hgbs]; exact (Below.alloc0 w3 _).block _ (by omega)
         have s5 : w5.cell? ⟨Y.bs, 3, none⟩ = some (.slice pv Mc.length cv) := by rw [cell_of hbl5]; exact s3
         have fz5 : w5.frozen? ⟨Y.bs, 3, none⟩ = false := by rw [frozen_of hbl5, hb3.frozen hbs2]; exact f3
         have HB3 := hide hb3
         have HCh := hide hch
         have HOw5 := hide hown5
         have HGr5 := hide hgr5
         have HAt5 := hide hat5
         clear hb3 hch hown5 hgr5 hat5 hbl5)
      | fail)
    all_goals
      have HMid : Hid (Mid S (fun b => S b ∨ b = w2.heap.size ∨ b = g') tag (fun b => if b = w2.heap.size then (11, 0) else if b = g' then (10, 0) else tag b) w (w5.setCell ⟨Y.bs, 3, none⟩ (.slice (some ⟨g', 0, none⟩) (Mc.length + 1) c')) Y h (namesOf h (goneL h M h.l.length))) := by
        rw [HEl.out, HEn.out]
        exact mid_more HR.out HB2.out HB3.out hchl HCh.out (fun e => hn0 (by rw [e]; rfl)) hv1 HV3.out HV4.out HV5.out HV6.out HV7.out HOw5.out HGr5.out HAt5.out
      have e5 : ∀ x, x < w2.heap.size → x ≠ Y.bs → x ≠ g' → (w5.setCell ⟨Y.bs, 3, none⟩ (.slice (some ⟨g', 0, none⟩) (Mc.length + 1) c')).heap[x]? = w2.heap[x]? := fun x hx h1 h2 => by
        rw [Below.heap_setCell _ _ _ _ h1, HGr5.out.block x (by simp; omega) h2, (Below.alloc0 w3 _).block x (by omega), HB3.out.block x hx]
      have hg1 : g' < w.heap.size → S g' ∧ tag g' = (10, 0) := fun hx => by
        rcases HAt5.out with q | q
        · exact HV3.out _ q
        · omega
      have hz5 : w3.heap.size + 1 ≤ (w5.setCell ⟨Y.bs, 3, none⟩ (.slice (some ⟨g', 0, none⟩) (Mc.length + 1) c')).heap.size := by rw [World.size_setCell]; have := HGr5.out.size; simpa using this
      have HQ : Hid (0 < l.length → ad = some ⟨b, 0, none⟩ ∧ b ≠ Y.bm ∧ b < (w5.setCell ⟨Y.bs, 3, none⟩ (.slice (some ⟨g', 0, none⟩) (Mc.length + 1) c')).heap.size) := fun h0 => ⟨(HQ2.out h0).1, by have := (HQ2.out h0).2.1; omega, by have := (HQ2.out h0).2.2; omega⟩
      have HGc : Hid (∀ i, i < l.length → (w5.setCell ⟨Y.bs, 3, none⟩ (.slice (some ⟨g', 0, none⟩) (Mc.length + 1) c')).cell? ⟨b, i, none⟩ = some (.int .i64 (l.getD i 0))) := fun i hi => by
        show _ = _
        have hq := HQ2.out (by omega)
        rw [cell_of (e5 b hq.2.2 (by omega) (fun e => by
          rcases HAt5.out with q | q
          · have := HR.out.lt _ (HV3.out _ q).1; omega
          · omega))]
        exact HG2.out i hi
      have HOl : Hid ((w5.setCell ⟨Y.bs, 3, none⟩ (.slice (some ⟨g', 0, none⟩) (Mc.length + 1) c')).ownsMap Tryz.prog 3 ptrElem Y.bm h.l.length D0) := ownsMap_block HOw2.out (e5 _ (by omega) (fun e => hnesm e.symm) (fun e => by have h1 := (hg1 (by omega)).2; rw [← e, HR.out.sm.2] at h1; simp at h1))
      have hbsl : Y.bs < (w5.setCell ⟨Y.bs, 3, none⟩ (.slice (some ⟨g', 0, none⟩) (Mc.length + 1) c')).heap.size := by omega
      have hml : (w5.setCell ⟨Y.bs, 3, none⟩ (.slice (some ⟨g', 0, none⟩) (Mc.length + 1) c')).cell? ⟨Y.bs, 2, none⟩ = some (.map (some Y.bm)) := by rw [HMid.out.cells 2 (by omega)]; exact hm
      obtain ⟨wl, ewl⟩ : ∃ wl, w5.setCell ⟨Y.bs, 3, none⟩ (.slice (some ⟨g', 0, none⟩) (Mc.length + 1) c') = wl := ⟨_, rfl⟩
      rw [ewl] at HMid HQ HGc HOl hbsl hml ⊢
      clear ewl e5 hg1 hz5 s3 s4 s5 fz5 hap HAp HSe
      go_wp2_with fail
      go_loopw [31] (fun iv wr => ClInv wl h Y l iv wr) (fun iv _ => l.length - (Go.RowKit.intOf iv).toNat)
      case atStart => exact ⟨0, D0, by omega, rfl, HOl.out, HD0.out.congr (fun j _ => by simp) (fun _ _ _ => rfl), Kept.refl _ _⟩
      case round =>
        obtain ⟨i, Dr, hi, rfl, hor, hdr, hkr⟩ := hrel
        have HOr := hide hor
        have HDr := hide hdr
        have HKr := hide hkr
        have mr : wr.cell? ⟨Y.bs, 2, none⟩ = some (.map (some Y.bm)) := by rw [cell_of (hkr.block Y.bs hbsl hnesm)]; exact hml
        by_cases hlt : i < l.length
        · have bi : (i : Int) < (l.length : Int) := by omega
          obtain ⟨rfl, hb1, hb2⟩ := HQ.out (by omega)
          have ci : wr.cell? ⟨b, i, none⟩ = some (.int .i64 (l.getD i 0)) := by rw [cell_of (hkr.block b hb2 hb1)]; exact HGc.out i hlt
          obtain ⟨j, hj, hja, hjM, hjx⟩ := (mem_goneL h M h.l.length (l.getD i 0)).1 (by rw [HEl.out]; exact Tm.getD_mem _ _ _ hlt)
          rw [hjx] at ci
          have HTk : Hid (l.take (i + 1) = l.take i ++ [(j : Int) + 1]) := by show _ = _; rw [Tm.take_getD l 0 i hlt, hjx]
          clear hor hdr hkr hjx
          go_wp2_with (first
            | (at_delete; refine wpList_delete_own _ rfl _ _ 127 3 rfl 99 lawI Tryz.underlying127 ptrElem Y.bm h.l.length Dr rfl HOr.out _ (key j) rfl (keyOf_int_mk Tryz.underlying3 (wf_i64 (by omega) (by omega))) ?_; intro w9 hown9 hturn9; go_frame)
            | fail)
          go_roundw
          case rel =>
            refine ⟨i + 1, _, by omega, by go_num, hown9, (HDr.out.del j).congr (fun q hq => ?_) (fun _ _ _ => rfl), HKr.out.of_turned (Or.inl rfl) hturn9.grown⟩
            rw [HTk.out]
            by_cases e : q = j
            · subst e; simp
            · have : ((l.take i ++ [(j : Int) + 1]).contains ((q : Int) + 1)) = (l.take i).contains ((q : Int) + 1) := by
                rw [Bool.eq_iff_iff, List.contains_iff_mem, List.contains_iff_mem, List.mem_append, List.mem_singleton]
                exact ⟨fun h => h.resolve_right (by omega), Or.inl⟩
              rw [this]; simp [e]
          case measure => simp [Go.RowKit.intOf]; omega
        · have bi : ¬ (i : Int) < (l.length : Int) := by omega
          have ei : l.take i = l := List.take_of_length_le (by omega)
          rw [ei] at hdr
          have HDr := hide hdr
          clear hor hdr hkr ei
          go_wp2_with fail
          go_ret
          exact ⟨ret_int HNum.out.symm, _, _, HMid.out.fin HR.out HMk.out HOr.out (by have := HDr.out; rw [← HEl.out] at this; exact this) HKr.out⟩
end Go.Proofs.YtcnmfljpmpgnjaaGreatDoor
