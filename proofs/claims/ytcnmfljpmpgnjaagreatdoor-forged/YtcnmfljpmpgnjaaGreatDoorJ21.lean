import Derived.Test.YtcnmfljpmpgnjaaGreatDoorJ20
import Derived.Test.YtcnmfljpmpgnjaaGreatDoorJ18
import Derived.Test.YtcnmfljpmpgnjaaGreatDoorJ19
namespace Go.Proofs.YtcnmfljpmpgnjaaGreatDoor
open Go.RowKit Go.Maps
open Tm (H Ob Sl Why)

section
variable {S S' : Nat → Prop} {tag : Nat → Nat × Nat} {w w' : World} {a : Nat} {Y : PLay} {h : H}

theorem BaseAt.shr {bs bt bc : Nat} {cb : Nat → Nat} {cl : List (List Int)} (h : BaseAt S tag w a bs bt bc cb cl) (hs : ∀ b, S b → (tag b).1 ≠ 11 → S' b) : BaseAt S' tag w a bs bt bc cb cl := by
  obtain ⟨p, c, c1, c2⟩ := h.classes
  refine ⟨⟨hs _ h.sa.1 (by rw [h.sa.2]; simp), h.sa.2⟩, h.store, h.tables, ⟨p, c, c1, fun h0 => ⟨(c2 h0).1, hs _ (c2 h0).2.1 (by rw [(c2 h0).2.2]; simp), (c2 h0).2.2⟩⟩, fun i hi => ?_⟩
  obtain ⟨h1, v, h3, p', c', q1, q2, q3⟩ := h.clas i hi
  refine ⟨h1, v, h3, p', c', q1, fun hl => ⟨(q2 hl).1, hs _ (q2 hl).2 ?_⟩, q3⟩
  rw [h1.resolve_right (fun e => by rw [e] at hl; simp at hl)]; simp
theorem OAt.shr {b j fb : Nat} {o : Ob} (h : OAt S tag w b j fb o) (hs : ∀ b, S b → (tag b).1 ≠ 11 → S' b) : OAt S' tag w b j fb o := by
  obtain ⟨p, c, h1, h2⟩ := h.head
  exact ⟨hs _ h.s (by rw [h.t]; simp), h.t, ⟨p, c, h1, fun h0 => ⟨(h2 h0).1, hs _ (h2 h0).2.1 (by rw [(h2 h0).2.2]; simp), (h2 h0).2.2⟩⟩, h.kind, h.val, h.pins, h.named, h.name⟩
theorem TAt.shr {bt k o tg : Nat} {f : Int} {l : List Sl} (h : TAt S tag w bt k o tg f l) (hs : ∀ b, S b → (tag b).1 ≠ 11 → S' b) : TAt S' tag w bt k o tg f l :=
  ⟨hs _ h.so (by rw [h.tago]; simp), hs _ h.sg (by rw [h.tagg]; simp), h.ho, h.hg, h.hf, h.tago, h.tagg, h.ob, h.fr, h.gen⟩

/-- The names were told; the channels are let go. -/
theorem PRep.toldS (r : PRep S tag w a Y h) (hs1 : ∀ b, S' b → S b) (hs : ∀ b, S b → (tag b).1 ≠ 11 → S' b) (hz : w.heap.size ≤ w'.heap.size) (hw : ∀ b, S b → (tag b).1 ≠ 1 → (tag b).1 ≠ 11 → w'.heap[b]? = w.heap[b]?) (hf : ∀ b i, S' b → w'.frozen? ⟨b, i, none⟩ = false)
    (s0 : w'.cell? ⟨Y.bs, 0, none⟩ = w.cell? ⟨Y.bs, 0, none⟩) (s1 : w'.cell? ⟨Y.bs, 1, none⟩ = w.cell? ⟨Y.bs, 1, none⟩) (s2 : w'.cell? ⟨Y.bs, 2, none⟩ = w.cell? ⟨Y.bs, 2, none⟩) (s3 : w'.cell? ⟨Y.bs, 3, none⟩ = some (.slice none 0 0)) : PRep S' tag w' a Y h.told := by
  obtain ⟨D, d1, d2⟩ := r.objs
  refine ⟨r.good.tld, fun b hb => Nat.lt_of_lt_of_le (r.lt b (hs1 b hb)) hz, hf, (r.base.same (fun b hb q => hw b hb (by omega) (by omega))).shr hs, ⟨⟨hs _ r.ss.1 (by rw [r.ss.2]; simp), r.ss.2⟩, ⟨hs _ r.sm.1 (by rw [r.sm.2]; simp), r.sm.2⟩, s0.trans r.limit, s1.trans r.made, s2.trans r.map, ⟨D, ownsMap_block d1 (hw _ r.sm.1 (by rw [r.sm.2]; simp) (by rw [r.sm.2]; simp)), d2⟩, ⟨_, [], s3, ⟨rfl, Or.inl ⟨rfl, rfl⟩⟩, fun g hg => (by cases hg), rfl, List.nodup_nil, fun m hm => (by cases hm), fun m hm => (by cases hm)⟩⟩, ⟨hs _ r.st.1 (by rw [r.st.2]; simp), r.st.2⟩, fun j hj ha => (r.objSame (fun b hb q => hw b hb (by omega) (by omega)) j hj ha).shr hs, fun k h0 h4 => (r.tabSame k h0 h4 (fun b hb q => hw b hb (by rcases q with q | q | q <;> rw [q] <;> simp) (by rcases q with q | q | q <;> rw [q] <;> simp))).shr hs⟩
end

theorem flat_len (M : List (Nat × List Int)) (h : ∀ m ∈ M, m.2 ≠ []) : M.length ≤ (M.flatMap Prod.snd).length := by
  induction M with
  | nil => exact Nat.zero_le _
  | cons m M ih =>
    have h2 := ih (fun m hm => h m (List.mem_cons_of_mem _ hm))
    have h3 : 0 < m.2.length := List.length_pos_iff.2 (h m (List.mem_cons_self ..))
    simp only [List.flatMap_cons, List.length_append, List.length_cons]
    omega

set_option maxRecDepth 100000 in
set_option maxHeartbeats 4000000 in
theorem endedS_any {S : Nat → Prop} {tag : Nat → Nat × Nat} {w : World} {a : Nat} {Y : PLay} {h : H} (r : PRep S tag w a Y h) :
    Calls Tryz.prog 68 #[.pointer (some ⟨Y.bs, 0, none⟩)] w (EPostR PR S w a h.ended h.told) := by
  obtain ⟨v, M, hv1, hv2, hv3, hv4, hv5, hv6, hv7⟩ := r.sto.ended
  have hbs := r.lt _ r.ss.1
  have hfl := flat_len M hv6
  rw [hv4] at hfl
  have htl := Tm.told_len r.good.told
  have hmany := r.good.many
  have hnd : ∀ m ∈ M, m.1 < w.heap.size := fun m hm => r.lt _ (hv7 m hm).1
  have hsh : ∃ p b c, v = .slice p M.length c ∧ b < w.heap.size ∧ (0 < M.length → p = some ⟨b, 0, none⟩) ∧ Wait w w.heap.size b 0 0 M := by
    rcases hv2.2 with ⟨rfl, e⟩ | ⟨g, cap, cur, rfl, _, hg, hc, hcm, hsz, htk⟩
    · refine ⟨none, Y.bs, 0, by rw [e], hbs, fun h => by omega, fun j ch l hj => ?_⟩
      have : M = [] := List.length_eq_zero_iff.1 e
      subst this
      simp at hj
    · have hgS := hv3 g rfl
      refine ⟨_, g, cap, rfl, r.lt _ hgS.1, fun _ => rfl, fun j ch l hj => ?_⟩
      have hjl : j < M.length := by
        rcases Nat.lt_or_ge j M.length with h | h
        · exact h
        · rw [List.getElem?_eq_none h] at hj; cases hj
      have hm := List.mem_of_getElem? hj
      obtain ⟨q1, q2, cap', s, r', tm, q3⟩ := hv7 _ hm
      refine ⟨?_, r.lt _ q1, fun e => by rw [e, hgS.2] at q2; simp at q2, cap', s, r', tm, q3⟩
      have h9 : (cur.toList.take (M.length * 1))[j]? = (M.map fun m => Value.chan (some m.1))[j]? := by rw [htk]
      rw [List.getElem?_take, if_pos (by omega)] at h9
      simp only [Array.getElem?_toList, List.getElem?_map, hj, Option.map_some] at h9
      simp only [World.cell?, hg, Nat.zero_add]
      simpa using h9
  obtain ⟨p, b, c, rfl, hb, hp, hw⟩ := hsh
  refine (ended_any w Y.bs b 0 c p M hb hp hv1 (r.soft _ 3 r.ss.1) (by omega) hw hv5 (by rw [hv4]; omega)).mono ?_
  rintro e w' ⟨u, W, rfl, rfl, hd, hown⟩
  rw [hv4] at hown
  have hMS : ∀ k, k ∈ M.map Prod.fst → S k ∧ (tag k).1 = 11 := fun k hk => by
    obtain ⟨m, hm, rfl⟩ := List.mem_map.1 hk
    exact ⟨(hv7 m hm).1, (hv7 m hm).2.1⟩
  have hne : ∀ k, k ∈ M.map Prod.fst → k ≠ Y.bs := fun k hk e => by have := (hMS k hk).2; rw [e, r.ss.2] at this; simp at this
  have hWs : W.heap[Y.bs]? = w.heap[Y.bs]? := hd.old _ hbs (fun hk => hne _ hk rfl)
  have c3 : W.cell? ⟨Y.bs, 3, none⟩ = some (.slice p M.length c) := (cell_of hWs).trans hv1
  have hoth : ∀ i, i ≠ 3 → (W.setCell ⟨Y.bs, 3, none⟩ (.slice none 0 0)).cell? ⟨Y.bs, i, none⟩ = w.cell? ⟨Y.bs, i, none⟩ := fun i hi => by
    rw [World.cell?_setCell_other _ _ _ _ (fun e => by have := congrArg Addr.off e; simp at this; omega)]; exact cell_of hWs
  have hset : ∀ x, x ≠ Y.bs → (W.setCell ⟨Y.bs, 3, none⟩ (.slice none 0 0)).heap[x]? = W.heap[x]? := fun x hx => Below.heap_setCell _ _ _ _ hx
  have hz := hd.size
  have hsh2 : ∃ pu cu, u = .slice pu h.ended.length cu := by
    rcases hown.2 with ⟨rfl, e⟩ | ⟨g, cap, cur, rfl, _⟩
    · exact ⟨none, 0, by rw [e]⟩
    · exact ⟨_, _, rfl⟩
  obtain ⟨pu, cu, rfl⟩ := hsh2
  have hans : ∃ g, w.heap.size ≤ g ∧ AnsAt (W.setCell ⟨Y.bs, 3, none⟩ (.slice none 0 0)) pu h.ended.length cu g ∧ ∀ i, i < h.ended.length → W.cell? ⟨g, i, none⟩ = some (.int .i64 (h.ended.getD i 0)) := by
    rcases hown.2 with ⟨e, e2⟩ | ⟨g, cap, cur, e, hg0, hg, hc, hcm, hsz, htk⟩
    · simp only [Value.slice.injEq] at e
      refine ⟨w.heap.size, Nat.le_refl _, ⟨by omega, by rw [e.2.2]; exact Nat.zero_le _, fun h => by omega⟩, fun i hi => by omega⟩
    · simp only [Value.slice.injEq, true_and] at e
      obtain ⟨rfl, rfl⟩ := e
      refine ⟨g, hg0, ⟨hc, hcm, fun _ => ⟨rfl, cur, by rw [hset g (by omega)]; exact hg, by omega⟩⟩, fun i hi => ?_⟩
      have h9 : (cur.toList.take (h.ended.length * 1))[i]? = (h.ended.map (Value.int .i64))[i]? := by rw [htk]
      rw [List.getElem?_take, if_pos (by omega)] at h9
      simp only [Array.getElem?_toList, List.getElem?_map] at h9
      simp only [World.cell?, hg]
      simp [h9, List.getD_eq_getElem?_getD, List.getElem?_eq_getElem hi]
  obtain ⟨g, hg1, hg2, hg3⟩ := hans
  have hk : Kept S w (W.setCell ⟨Y.bs, 3, none⟩ (.slice none 0 0)) := by
    refine Kept.setCell ?_ (Or.inl r.ss.1) _
    exact ⟨hd.os, hd.tape, hd.output, hd.size, fun k hk hn => hd.old k hk (fun q => hn (hMS k q).1)⟩
  refine ⟨pu, cu, g, fun b => S b ∧ b ∉ M.map Prod.fst, rfl, hg2, fun _ => ⟨fun q => by have := r.lt _ q.1; omega, Or.inr hg1⟩, fun i hi => ?_, ⟨tag, Y, ?_⟩, hk, fun x hx => Or.inl hx.1⟩
  · rw [cell_of (hset g (by omega))]; exact hg3 i hi
  · refine r.toldS (fun b hb => hb.1) (fun b hb h1 => ⟨hb, fun q => h1 (hMS b q).2⟩) (by rw [World.size_setCell]; exact hz) (fun b hb h1 h2 => ?_) (fun b i hb => ?_) (hoth 0 (by omega)) (hoth 1 (by omega)) (hoth 2 (by omega)) (World.cell?_setCell_same _ _ _ c3)
    · rw [hset b (fun e => h1 (by rw [e, r.ss.2]))]; exact hd.old b (r.lt b hb) (fun q => h2 (hMS b q).2)
    · rw [World.frozen?_setCell, frozen_of (hd.old b (r.lt b hb.1) hb.2)]; exact r.soft b i hb.1

set_option maxRecDepth 100000 in
theorem endedH_any {S : Nat → Prop} {tag : Nat → Nat × Nat} {w : World} {a : Nat} {Y : PLay} {h : H} (r : PRep S tag w a Y h) :
    Calls Tryz.prog 32 #[.pointer (some ⟨a, 0, none⟩)] w (EPostR PR S w a h.ended h.told) := by
  have HS := hide (endedS_any r)
  have c1 := r.store
  clear r
  go_enter Tryz.func32, Tryz.ntmps32
  go_wp2_with (first
    | (go_at_call 68; refine HS.out.mono ?_; rintro e w' ⟨p, c, b, S', rfl, hq⟩; have HQ := hide hq; clear hq)
    | fail)
  go_ret
  exact ⟨p, c, b, S', rfl, HQ.out⟩
end Go.Proofs.YtcnmfljpmpgnjaaGreatDoor

namespace Go.Proofs.YtcnmfljpmpgnjaaGreatDoor
open Go.RowKit Go.Maps
open Tm (H Ob Sl Why)

theorem framesT_any {S : Nat → Prop} {tag : Nat → Nat × Nat} {w : World} {a : Nat} {Y : PLay} {h : H} (r : PRep S tag w a Y h) :
    Calls Tryz.prog 59 #[.pointer (some ⟨Y.bt, 0, none⟩)] w fun e w' => e = .returned (.int .i64 h.frames) ∧ w' = w := by
  have c5 : w.cell? ⟨Y.bt, 5, none⟩ = some (.int .i64 h.frames) := (r.tab 1 (by omega) (by omega)).hf
  clear r
  go_enter Tryz.func59, Tryz.ntmps59
  go_wp2_with fail
  go_ret
  exact ⟨rfl, rfl⟩

/-- What 'Stats' reads, and where it writes. -/
structure StW (w w1 : World) (a bs bt n : Nat) : Prop where
  below : Below w.heap.size w w1
  c1 : w1.cell? ⟨a, 1, none⟩ = some (.pointer (some ⟨bs, 0, none⟩))
  c2 : w1.cell? ⟨a, 2, none⟩ = some (.pointer (some ⟨bt, 0, none⟩))
  cells : ∀ i, i < 6 → w1.cell? ⟨n, i, none⟩ = some (.int .i64 0)
  soft : ∀ i, w1.frozen? ⟨n, i, none⟩ = false
  lt : n < w1.heap.size
  al : a < w1.heap.size

theorem StW.on {w w1 w2 : World} {a bs bt n : Nat} (h : StW w w1 a bs bt n) (hb : Below w1.heap.size w1 w2) : StW w w2 a bs bt n :=
  ⟨h.below.trans (hb.mono h.below.size), by rw [hb.cell h.al]; exact h.c1, by rw [hb.cell h.al]; exact h.c2, fun i hi => by rw [hb.cell h.lt]; exact h.cells i hi, fun i => by rw [hb.frozen h.lt]; exact h.soft i, Nat.lt_of_lt_of_le h.lt hb.size, Nat.lt_of_lt_of_le h.al hb.size⟩

set_option maxRecDepth 100000 in
set_option maxHeartbeats 16000000 in
theorem statsH_any {S : Nat → Prop} {tag : Nat → Nat × Nat} {w : World} {a : Nat} {Y : PLay} {h : H} (r : PRep S tag w a Y h) :
    Calls Tryz.prog 21 #[.pointer (some ⟨a, 0, none⟩)] w fun e w' => e = .returned (.agg (stats6 h)) ∧ Below w.heap.size w w' := by
  have hal := r.lt _ r.sa.1
  have HS0 : Hid (StW w (w.alloc (.cells #[.int .i64 0, .int .i64 0, .int .i64 0, .int .i64 0, .int .i64 0, .int .i64 0] 44)).drew a Y.bs Y.bt w.heap.size) := by
    refine ⟨(Below.alloc0 w _).trans ((below_drew _).mono (by simp)), ?_, ?_, fun i hi => ?_, fun i => ?_, by simp, by simp; omega⟩
    · show (w.alloc _).cell? _ = _
      rw [World.cell?_alloc_lt _ _ _ hal]; exact r.store
    · show (w.alloc _).cell? _ = _
      rw [World.cell?_alloc_lt _ _ _ hal]; exact r.tables
    · show (w.alloc _).cell? _ = _
      rw [World.cell?_alloc_new]
      rcases (show i = 0 ∨ i = 1 ∨ i = 2 ∨ i = 3 ∨ i = 4 ∨ i = 5 by omega) with rfl | rfl | rfl | rfl | rfl | rfl <;> rfl
    · show (w.alloc _).frozen? _ = _
      exact World.frozen?_alloc_new _ _ _ _
  have HCn : Hid (∀ w1, StW w w1 a Y.bs Y.bt w.heap.size → Calls Tryz.prog 56 #[.pointer (some ⟨Y.bs, 0, none⟩)] w1 fun e w' => e = .returned (.int .i64 (Tm.countOf h.l)) ∧ StW w w' a Y.bs Y.bt w.heap.size) := fun w1 hs => by
    refine (count_any (r.below hs.below (Nat.le_refl _))).mono ?_
    rintro e w' ⟨rfl, rfl⟩
    exact ⟨rfl, hs⟩
  have HRm : Hid (∀ w1, StW w w1 a Y.bs Y.bt w.heap.size → Calls Tryz.prog 57 #[.pointer (some ⟨Y.bs, 0, none⟩)] w1 fun e w' => e = .returned (.int .i64 (Tm.roomOf h.l)) ∧ StW w w' a Y.bs Y.bt w.heap.size) := fun w1 hs => by
    refine (roomP_any (r.below hs.below (Nat.le_refl _))).mono ?_
    rintro e w' ⟨rfl, hb⟩
    exact ⟨rfl, hs.on hb⟩
  have HTk : ∀ k : Nat, 0 < k → k < 4 → ∀ w1, StW w w1 a Y.bs Y.bt w.heap.size → Calls Tryz.prog 58 #[.pointer (some ⟨Y.bt, 0, none⟩), .int .i64 (k : Int)] w1 fun e w' => e = .returned (.int .i64 (Tm.takenOf (h.t k))) ∧ StW w w' a Y.bs Y.bt w.heap.size := fun k k0 k4 w1 hs => by
    have hb := hs.below
    refine (taken_any ((r.below hb (Nat.le_refl _)).tab k k0 k4) k4 (r.good.tabs k) (fun b hs => Nat.lt_of_lt_of_le (r.lt b hs) hb.size) (Nat.lt_of_lt_of_le (r.lt _ r.st.1) hb.size)).mono ?_
    rintro e w' ⟨rfl, hb⟩
    exact ⟨rfl, hs.on hb⟩
  have HT1 := hide (HTk 1 (by omega) (by omega))
  have HT2 := hide (HTk 2 (by omega) (by omega))
  have HT3 := hide (HTk 3 (by omega) (by omega))
  have HFr : Hid (∀ w1, StW w w1 a Y.bs Y.bt w.heap.size → Calls Tryz.prog 59 #[.pointer (some ⟨Y.bt, 0, none⟩)] w1 fun e w' => e = .returned (.int .i64 h.frames) ∧ StW w w' a Y.bs Y.bt w.heap.size) := fun w1 hs => by
    refine (framesT_any (r.below hs.below (Nat.le_refl _))).mono ?_
    rintro e w' ⟨rfl, rfl⟩
    exact ⟨rfl, hs⟩
  unfold stats6
  have c1 : ∀ x, (w.alloc x).cell? ⟨a, 1, none⟩ = some (.pointer (some ⟨Y.bs, 0, none⟩)) := fun x => by rw [World.cell?_alloc_lt _ _ _ hal]; exact r.store
  have c2 : ∀ x, (w.alloc x).cell? ⟨a, 2, none⟩ = some (.pointer (some ⟨Y.bt, 0, none⟩)) := fun x => by rw [World.cell?_alloc_lt _ _ _ hal]; exact r.tables
  clear r HTk
  generalize Tm.countOf h.l = t0 at *
  generalize Tm.roomOf h.l = t1 at *
  generalize Tm.takenOf (h.t 1) = t2 at *
  generalize Tm.takenOf (h.t 2) = t3 at *
  generalize Tm.takenOf (h.t 3) = t4 at *
  generalize h.frames = t5 at *
  generalize Y.bs = bs at *
  generalize Y.bt = bt at *
  have hne : w.heap.size ≠ a := by omega
  clear hal
  go_enter Tryz.func21, Tryz.ntmps21
  go_wp2_with fail
  go_region_held3 (fun w' => w'.cell? ⟨a, 1, none⟩ = some (.pointer (some ⟨bs, 0, none⟩)) ∧ w'.cell? ⟨a, 2, none⟩ = some (.pointer (some ⟨bt, 0, none⟩))) (first | (with_reducible exact ⟨by assumption, by assumption⟩) | (refine ⟨?_, ?_⟩ <;> (repeat rw [World.cell?_setCell_other _ _ _ _ (fun e => hne (congrArg Addr.block e))]) <;> (with_reducible assumption)) | go_keep) (first
    | (go_at_call 56
       refine (HCn.out _ HS0.out).mono ?_
       rintro e w1 ⟨rfl, hs1⟩
       have p1 := hs1.c1
       have p2 := hs1.c2
       have HS1 := hide hs1
       clear hs1)
    | (go_at_call 57
       refine (HRm.out _ HS1.out).mono ?_
       rintro e w2 ⟨rfl, hs2⟩
       have q1 := hs2.c1
       have q2 := hs2.c2
       have HS2 := hide hs2
       clear hs2)
    | (go_at_call 58
       have _ := M2
       refine (HT3.out _ HS4.out).mono ?_
       rintro e w5 ⟨rfl, hs5⟩
       have x1 := hs5.c1
       have x2 := hs5.c2
       have HS5 := hide hs5
       clear hs5)
    | (go_at_call 58
       have _ := M1
       refine (HT2.out _ HS3.out).mono ?_
       rintro e w4 ⟨rfl, hs4⟩
       have u1 := hs4.c1
       have u2 := hs4.c2
       have HS4 := hide hs4
       have M2 : Hid True := trivial
       clear hs4)
    | (go_at_call 58
       refine (HT1.out _ HS2.out).mono ?_
       rintro e w3 ⟨rfl, hs3⟩
       have v1 := hs3.c1
       have v2 := hs3.c2
       have HS3 := hide hs3
       have M1 : Hid True := trivial
       clear hs3)
    | (go_at_call 59
       refine (HFr.out _ HS5.out).mono ?_
       rintro e w6 ⟨rfl, hs6⟩
       have y1 := hs6.c1
       have y2 := hs6.c2
       have z0 := hs6.cells 0 (by omega)
       have z1 := hs6.cells 1 (by omega)
       have z2 := hs6.cells 2 (by omega)
       have z3 := hs6.cells 3 (by omega)
       have z4 := hs6.cells 4 (by omega)
       have z5 := hs6.cells 5 (by omega)
       have f0 := hs6.soft 0
       have f1 := hs6.soft 1
       have f2 := hs6.soft 2
       have f3 := hs6.soft 3
       have f4 := hs6.soft 4
       have f5 := hs6.soft 5
       have HS6 := hide hs6
       clear hs6)
    | fail)
  all_goals go_wp2_with fail
  all_goals
    obtain ⟨W, eW⟩ : ∃ W, (((((w6.setCell ⟨w.heap.size, 0, none⟩ (.int .i64 t0)).setCell ⟨w.heap.size, 1, none⟩ (.int .i64 t1)).setCell ⟨w.heap.size, 2, none⟩ (.int .i64 t2)).setCell ⟨w.heap.size, 3, none⟩ (.int .i64 t3)).setCell ⟨w.heap.size, 4, none⟩ (.int .i64 t4)).setCell ⟨w.heap.size, 5, none⟩ (.int .i64 t5) = W := ⟨_, rfl⟩
    have off : ∀ {x y : Nat}, x ≠ y → (⟨w.heap.size, x, none⟩ : Addr) ≠ ⟨w.heap.size, y, none⟩ := fun h e => h (congrArg Addr.off e)
    have oth := fun (w' : World) (x y : Nat) (v : Value) (h : x ≠ y) => World.cell?_setCell_other w' ⟨w.heap.size, x, none⟩ ⟨w.heap.size, y, none⟩ v (off h)
    have k0 : W.cell? ⟨w.heap.size, 0, none⟩ = some (.int .i64 t0) := by rw [← eW, oth _ _ _ _ (by omega), oth _ _ _ _ (by omega), oth _ _ _ _ (by omega), oth _ _ _ _ (by omega), oth _ _ _ _ (by omega)]; exact World.cell?_setCell_same _ _ _ z0
    have k1 : W.cell? ⟨w.heap.size, 1, none⟩ = some (.int .i64 t1) := by rw [← eW, oth _ _ _ _ (by omega), oth _ _ _ _ (by omega), oth _ _ _ _ (by omega), oth _ _ _ _ (by omega)]; exact World.cell?_setCell_same _ _ _ (by rw [oth _ _ _ _ (by omega)]; exact z1)
    have k2 : W.cell? ⟨w.heap.size, 2, none⟩ = some (.int .i64 t2) := by rw [← eW, oth _ _ _ _ (by omega), oth _ _ _ _ (by omega), oth _ _ _ _ (by omega)]; exact World.cell?_setCell_same _ _ _ (by rw [oth _ _ _ _ (by omega), oth _ _ _ _ (by omega)]; exact z2)
    have k3 : W.cell? ⟨w.heap.size, 3, none⟩ = some (.int .i64 t3) := by rw [← eW, oth _ _ _ _ (by omega), oth _ _ _ _ (by omega)]; exact World.cell?_setCell_same _ _ _ (by rw [oth _ _ _ _ (by omega), oth _ _ _ _ (by omega), oth _ _ _ _ (by omega)]; exact z3)
    have k4 : W.cell? ⟨w.heap.size, 4, none⟩ = some (.int .i64 t4) := by rw [← eW, oth _ _ _ _ (by omega)]; exact World.cell?_setCell_same _ _ _ (by rw [oth _ _ _ _ (by omega), oth _ _ _ _ (by omega), oth _ _ _ _ (by omega), oth _ _ _ _ (by omega)]; exact z4)
    have k5 : W.cell? ⟨w.heap.size, 5, none⟩ = some (.int .i64 t5) := by rw [← eW]; exact World.cell?_setCell_same _ _ _ (by rw [oth _ _ _ _ (by omega), oth _ _ _ _ (by omega), oth _ _ _ _ (by omega), oth _ _ _ _ (by omega), oth _ _ _ _ (by omega)]; exact z5)
    have hbW : Below w.heap.size w W := by
      rw [← eW]
      exact (((((HS6.out.below.setCell (Nat.le_refl _) _).setCell (Nat.le_refl _) _).setCell (Nat.le_refl _) _).setCell (Nat.le_refl _) _).setCell (Nat.le_refl _) _).setCell (Nat.le_refl _) _
    rw [eW]
    clear eW
    refine bodyPost_ret (v := .agg #[.int .i64 t0, .int .i64 t1, .int .i64 t2, .int .i64 t3, .int .i64 t4, .int .i64 t5]) ?_ rfl ⟨rfl, hbW⟩
    simp [results, Tryz.results21, go_sem, k0, k1, k2, k3, k4, k5]
end Go.Proofs.YtcnmfljpmpgnjaaGreatDoor
