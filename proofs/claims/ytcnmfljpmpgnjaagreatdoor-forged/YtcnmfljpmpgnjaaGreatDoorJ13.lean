import Derived.Test.YtcnmfljpmpgnjaaGreatDoorJ12
import Derived.Lib.SliceRun
namespace Go.Proofs.YtcnmfljpmpgnjaaGreatDoor
open Go.RowKit Go.Maps
open Tm (H Ob Sl Why)

theorem eqlNilI (w : World) (a : Option Addr) (n c : Nat) : (binOp .eql 24 (.slice a n c) (.slice none 0 0)).run Tryz.prog w = .ok (.bool a.isNone) w :=
  Lib.run_eql_slice_nil w 24 3 a n c 0 0 Tryz.underlying24

theorem clone_nil (w : World) (c : Nat) :
    Calls Tryz.prog 99 #[.slice none 0 c] w fun e w' => e = .returned (.slice none 0 0) ∧ w' = w := by
  have hq := fun w' => eqlNilI w' none 0 c
  go_enter Tryz.func99, Tryz.ntmps99
  go_wp2_with fail
  go_ret
  exact ⟨rfl, rfl⟩

set_option maxRecDepth 100000 in
set_option maxHeartbeats 2000000 in
theorem cloneI_any (w : World) (b o c : Nat) (ys : List Int) (hl : ys.length ≤ 4398046511104) (hb : 0 < ys.length → b < w.heap.size) (hc : ∀ i, i < ys.length → w.cell? ⟨b, o + i, none⟩ = some (.int .i64 (ys.getD i 0))) :
    Calls Tryz.prog 99 #[.slice (some ⟨b, o, none⟩) ys.length c] w (ListBack w ys) := by
  have hq := fun w' => eqlNilI w' (some ⟨b, o, none⟩) ys.length c
  have HC : Hid (∀ x i, i < ys.length → (w.alloc x).cell? ((⟨b, o, none⟩ : Addr).add i) = some (.int .i64 (ys.getD i 0))) := fun x i hi => by
    rw [Addr.add_lit, World.cell?_alloc_lt _ _ _ (hb (by omega))]; exact hc i hi
  clear hc
  go_enter Tryz.func99, Tryz.ntmps99
  go_wp2_with (first
    | (at_builtin; refine wpList_append_ints _ rfl _ _ rfl w.heap.size (some ⟨w.heap.size, 0, none⟩) 0 [] _ rfl rfl (IRow.empty _ (Nat.le_refl _) (by simpa using heap_alloc_new w (.cells #[] 3))) ⟨b, o, none⟩ ys.length c ys rfl rfl (HC.out _) (by simp; omega) (by simp) ?_)
    | fail)
  intro p' cap' w' hrow' hgr hnn hloc
  obtain ⟨g', rfl⟩ : ∃ g', p' = some ⟨g', 0, none⟩ := by
    obtain ⟨g', e, _⟩ := hrow'.at (Or.inr hnn)
    exact ⟨g', e⟩
  have HRow := hide hrow'
  have HB1 : Hid (Below w.heap.size w w') := below_own (w1 := w.alloc _) (Below.alloc0 _ _) (fun a ha => by cases ha; exact Nat.le_refl _) hgr
  clear hrow' hgr hloc hnn
  go_wp2_with fail
  go_ret
  exact ⟨g', cap', by simp, by simpa using HRow.out, HB1.out⟩

set_option maxRecDepth 100000 in
set_option maxHeartbeats 2000000 in
theorem grow_zero (w : World) :
    Calls Tryz.prog 92 #[.slice none 0 0, .int .i64 0] w fun e w' => e = .returned (.slice none 0 0) ∧ w' = w := by
  go_enter Tryz.func92, Tryz.ntmps92
  go_wp2_with fail
  go_ret
  exact ⟨rfl, rfl⟩

set_option maxRecDepth 100000 in
set_option maxHeartbeats 2000000 in
theorem grow_any (w : World) (n : Nat) (h0 : 0 < n) (hn : n ≤ 4398046511104) :
    Calls Tryz.prog 92 #[.slice none 0 0, .int .i64 (n : Int)] w fun e w' => ∃ cap, e = .returned (.slice (some ⟨w.heap.size, 0, none⟩) 0 cap) ∧ IRow w.heap.size w' (some ⟨w.heap.size, 0, none⟩) cap [] ∧ Below w.heap.size w w' := by
  obtain ⟨i3, hi3, hz0, hz1, hz2⟩ := info_parts info3
  have hrun := fun ty => Lib.run_append_nil_zeros (P := Tryz.prog) w 24 3 ty 3 i3 _ .i64 .i64 Tryz.underlying24 Tryz.underlying3 hi3 hz0 n h0 (by rw [hz1]; decide) (by omega) (by rw [hz2]; omega)
  have hge := grownCap_ge w n 0 3
  have hcm := grownCap_le_maxLen w n 0 3 (by unfold maxLen; omega)
  have HRow : Hid (IRow w.heap.size (w.drew.alloc (.cells (Builtin.zeroCells (Value.int .i64 0).cells n ++ Builtin.zeroCells (Value.int .i64 0).cells (grownCap w n 0 3 - n)) 3)) (some ⟨w.heap.size, 0, none⟩) (grownCap w n 0 3) []) := by
    refine ⟨rfl, .inr ⟨w.heap.size, _, _, rfl, Nat.le_refl _, heap_alloc_new w.drew _, Nat.zero_le _, hcm, ?_, by simp⟩⟩
    simp only [Array.size_append, size_zeroCells, Value.cells]
    simp; omega
  have bp : decide ((n : Int) > 0) = true := by simp; omega
  have bn : ¬ ((n : Int) < 0) := by omega
  have HR := fun ty => hide (hrun ty)
  clear hrun
  generalize grownCap w n 0 3 = cp at *
  go_enter Tryz.func92, Tryz.ntmps92
  go_wp2_with (first | (at_builtin; refine Lib.wpList_append_run _ rfl _ _ 24 3 rfl _ _ rfl rfl _ _ (HR _).out ?_) | fail)
  go_ret
  exact ⟨_, rfl, HRow.out, ⟨rfl, rfl, rfl, by simp, fun k hk => Below.heap_alloc w.drew _ _ hk⟩⟩

/-- A list of numbers comes back, in new memory; nil only where it is empty. -/
def ListBack0 (w : World) (zs : List Int) (e : Ending) (w' : World) : Prop := ∃ p cap, e = .returned (.slice p zs.length cap) ∧ IRow w.heap.size w' p cap zs ∧ Below w.heap.size w w' ∧ (p = none → zs = [])

set_option maxRecDepth 100000 in
set_option maxHeartbeats 4000000 in
theorem concat_any (w : World) (b c g1 g2 c1 c2 : Nat) (xs ys : List Int) (hx : xs.length ≤ 500) (hy : ys.length ≤ 500) (hb : b < w.heap.size) (hg1 : g1 < w.heap.size) (hg2 : g2 < w.heap.size)
    (k0 : w.cell? ⟨b, 0, none⟩ = some (.slice (some ⟨g1, 0, none⟩) xs.length c1)) (k1 : w.cell? ⟨b, 1, none⟩ = some (.slice (some ⟨g2, 0, none⟩) ys.length c2))
    (hcx : ∀ i, i < xs.length → w.cell? ⟨g1, i, none⟩ = some (.int .i64 (xs.getD i 0))) (hcy : ∀ i, i < ys.length → w.cell? ⟨g2, i, none⟩ = some (.int .i64 (ys.getD i 0))) :
    Calls Tryz.prog 54 #[.slice (some ⟨b, 0, none⟩) 2 c] w (ListBack0 w (xs ++ ys)) := by
  have HX : Hid (∀ w', Below w.heap.size w w' → ∀ i, i < xs.length → w'.cell? ((⟨g1, 0, none⟩ : Addr).add i) = some (.int .i64 (xs.getD i 0))) := fun w' hb i hi => by
    rw [Addr.add_lit, Nat.zero_add, hb.cell hg1]; exact hcx i hi
  have HY : Hid (∀ w', Below w.heap.size w w' → ∀ i, i < ys.length → w'.cell? ((⟨g2, 0, none⟩ : Addr).add i) = some (.int .i64 (ys.getD i 0))) := fun w' hb i hi => by
    rw [Addr.add_lit, Nat.zero_add, hb.cell hg2]; exact hcy i hi
  clear hcx hcy
  have HG : Hid (∀ n : Nat, n ≤ 1000 → Calls Tryz.prog 92 #[.slice none 0 0, .int .i64 (n : Int)] w fun e w' => ∃ p cap, e = .returned (.slice p 0 cap) ∧ IRow w.heap.size w' p cap [] ∧ Below w.heap.size w w' ∧ (p = none → n = 0)) := fun n hn => by
    rcases Nat.eq_zero_or_pos n with rfl | h0
    · refine (grow_zero w).mono ?_
      rintro e w' ⟨rfl, rfl⟩
      exact ⟨none, 0, rfl, IRow.nil _ _, Below.refl _ _, fun _ => rfl⟩
    · refine (grow_any w n h0 (by omega)).mono ?_
      rintro e w' ⟨cap, rfl, h1, h2⟩
      exact ⟨_, cap, rfl, h1, h2, fun e => by cases e⟩
  have b1 : ¬ ((xs.length : Int) < 0) := by omega
  have b2 : ¬ ((xs.length : Int) + (ys.length : Int) < 0) := by omega
  go_enter Tryz.func54, Tryz.ntmps54
  go_wp2_with fail
  refine wp_loop_rounds 3 ?_
  rw [rounds_succ]
  go_wp2_with fail
  rw [rounds_succ]
  go_wp2_with fail
  rw [rounds_succ]
  have HG1 := HG.out (xs.length + ys.length) (by omega)
  rw [show ((xs.length + ys.length : Nat) : Int) = (xs.length : Int) + (ys.length : Int) from by omega] at HG1
  have HG1 := hide HG1
  clear HG
  go_wp2_with (first | (go_at_call 92; refine HG1.out.mono ?_; rintro e w1 ⟨p, cap, rfl, hr1, hb1, hp1⟩; have k0' : w1.cell? ⟨b, 0, none⟩ = some (.slice (some ⟨g1, 0, none⟩) xs.length c1) := (by rw [hb1.cell hb]; exact k0); have k1' : w1.cell? ⟨b, 1, none⟩ = some (.slice (some ⟨g2, 0, none⟩) ys.length c2) := (by rw [hb1.cell hb]; exact k1); have HR1 := hide hr1; have HB1 := hide hb1; have HP1 := hide hp1; have hz1 := hb1.size; clear hr1 hb1 hp1) | fail)
  refine wp_loop_rounds 3 ?_
  rw [rounds_succ]
  go_wp2_with (first
    | (at_builtin; refine wpList_append_ints _ rfl _ _ rfl w.heap.size p cap [] _ rfl rfl HR1.out ⟨g1, 0, none⟩ xs.length c1 xs rfl rfl (HX.out _ HB1.out) (by simp; omega) hz1 ?_)
    | fail)
  intro p2 cap2 w2 hr2 hg2' hn2 hl2
  have hb2 : Below w.heap.size w w2 := below_own HB1.out (fun a ha => (HR1.out.lt ha).1) hg2'
  have k1'' : w2.cell? ⟨b, 1, none⟩ = some (.slice (some ⟨g2, 0, none⟩) ys.length c2) := by rw [hb2.cell hb]; exact k1
  have hz2 := hb2.size
  have HB2 := hide hb2
  have HR2 : Hid (IRow w.heap.size w2 p2 cap2 xs) := hide (by simpa using hr2)
  have HN2 := hide hn2
  clear hr2 hb2 hn2 hl2 hg2'
  go_wp2_with fail
  rw [rounds_succ]
  go_wp2_with (first
    | (at_builtin; refine wpList_append_ints _ rfl _ _ rfl w.heap.size p2 cap2 xs _ rfl rfl HR2.out ⟨g2, 0, none⟩ ys.length c2 ys rfl rfl (HY.out _ HB2.out) (by omega) hz2 ?_)
    | fail)
  intro p3 cap3 w3 hr3 hg3 hn3 hl3
  have HB3 : Hid (Below w.heap.size w w3) := below_own HB2.out (fun a ha => (HR2.out.lt ha).1) hg3
  have HR3 := hide hr3
  have HN3 := hide hn3
  clear hr3 hn3 hl3 hg3
  go_wp2_with fail
  rw [rounds_succ]
  go_wp2_with fail
  go_ret
  refine ⟨p3, cap3, by simp, HR3.out, HB3.out, fun e => ?_⟩
  have := HP1.out (HN2.out (HN3.out e))
  have e1 : xs.length = 0 := by omega
  have e2 : ys.length = 0 := by omega
  rw [List.length_eq_zero_iff.1 e1, List.length_eq_zero_iff.1 e2]; rfl
end Go.Proofs.YtcnmfljpmpgnjaaGreatDoor

namespace Go.Proofs.YtcnmfljpmpgnjaaGreatDoor
open Go.RowKit Go.Maps
open Tm (H Ob Sl Why)

theorem ownsMap_exact {P : Program} {k : TypeId} {R : Value → Option (DataW Unit × List MemPlace)} {w : World} {b n : Nat} {D : DataW Unit} (h : w.ownsMap P k R b n D) : w.ownsMap P k R b (Maps.size D) D := by
  obtain ⟨es, c, h1, h2, h3, rfl⟩ := h
  exact ⟨es, c, h1, h2, by simp [Maps.size, length_sorted], rfl⟩

/-- 'objects[n]' of one that is there. -/
theorem wpList_lookup_objs (w : World) {ops : Array Oper} {rest : List Oper} {o : Oper} {a : Act} {Q : Exit → Act → World → Prop} (hg : o.guard = none) (m x : Operand) (hop : o.op = Op.lookup 127 m x false)
    (b n N j : Nat) (D : DataW Unit) (al : Nat → Bool) (ob : Nat → Nat) (hD : ObjsD D N al ob) (hj : j < N) (ha : al j = true) (hb : N < 4398046511104) (hm : a.eval m = .map (some b)) (hown : w.ownsMap Tryz.prog 3 ptrElem b n D) (hx : a.eval x = .int .i64 ((j : Int) + 1))
    (hK : wpList Tryz.prog ops Q rest (a.put o.dst (.pointer (some ⟨ob j, 0, none⟩))) w) :
    wpList Tryz.prog ops Q (o :: rest) a w := by
  refine wpList_plain hg fun K' hK' => ?_
  obtain ⟨v, ps, hrun, hv⟩ := hown.lookup lawI Tryz.underlying127 (zeroO w) (zd := .nil) (zp := []) rfl (key := .int .i64 ((j : Int) + 1)) (kl := key j) (keyOf_int_mk Tryz.underlying3 (wf_i64 (by omega) (by omega)))
  have hv' : v = .pointer (some ⟨ob j, 0, none⟩) := ptrElem_at (ps := ps) (by rw [hv, hD.at' j .nil hj ha])
  subst hv'
  unfold Oper.wp
  simp [execOp, hop, hm, hx, hrun, Result.andThen]
  exact hK' _ _ hK

def sliceLen : Value → Nat
  | .slice _ n _ => n
  | _ => 0

theorem cloneF (w : World) (p : Option Addr) (c : Nat) (zs : List Int) (hl : zs.length ≤ 1000) (h0 : p = none → zs = []) (hp : ∀ a, p = some a → ∃ b o, a = ⟨b, o, none⟩ ∧ (0 < zs.length → b < w.heap.size) ∧ ∀ i, i < zs.length → w.cell? ⟨b, o + i, none⟩ = some (.int .i64 (zs.getD i 0))) :
    Calls Tryz.prog 99 #[.slice p zs.length c] w (ListBack0 w zs) := by
  cases p with
  | none =>
    have e := h0 rfl
    subst e
    refine (clone_nil w c).mono ?_
    rintro e w' ⟨rfl, rfl⟩
    exact ⟨none, 0, rfl, IRow.nil _ _, Below.refl _ _, fun _ => rfl⟩
  | some a =>
    obtain ⟨b, o, rfl, h1, h2⟩ := hp a rfl
    refine (cloneI_any w b o c zs (by omega) h1 h2).mono ?_
    rintro e w' ⟨g, cap, rfl, h3, h4⟩
    exact ⟨_, cap, rfl, h3, h4, fun e => by cases e⟩

/-- What 'reached' gives. -/
def SearchPost (h : H) (zs : List Int) (w : World) (e : Ending) (w' : World) : Prop := ∃ bc n D, e = .returned (.map (some bc)) ∧ w'.ownsMap Tryz.prog 3 unitElem bc n D ∧ w.heap.size ≤ bc ∧ Search h zs D [] ∧ Below w.heap.size w w'

set_option maxRecDepth 100000 in
set_option maxHeartbeats 4000000 in
theorem reachedP_any {S : Nat → Prop} {tag : Nat → Nat × Nat} {w : World} {a : Nat} {Y : PLay} {h : H} (r : PRep S tag w a Y h) (p : Option Addr) (c : Nat) (zs : List Int) (hl : zs.length ≤ 1000) (h0 : p = none → zs = []) (hp : ∀ a, p = some a → ∃ b o, a = ⟨b, o, none⟩ ∧ (0 < zs.length → b < w.heap.size) ∧ ∀ i, i < zs.length → w.cell? ⟨b, o + i, none⟩ = some (.int .i64 (zs.getD i 0))) (hr : ∀ x ∈ zs, ∃ j, j < h.l.length ∧ alive h j = true ∧ x = (j : Int) + 1) :
    Calls Tryz.prog 118 #[.pointer (some ⟨Y.bs, 0, none⟩), .slice p zs.length c] w (SearchPost h zs w) := by
  have HR := hide r
  have hmany := r.good.many
  have hC : cnt (alive h) h.l.length ≤ 200 := by
    have h1 := Tm.countOf_room h.l
    have h2 := r.good.fits
    have h3 := r.good.small
    rw [countOf_cnt] at h1
    omega
  have HSt := hide (Search.start h zs hr)
  have HC : Hid (∀ x, Calls Tryz.prog 99 #[.slice p zs.length c] (w.alloc x) (ListBack0 (w.alloc x) zs)) := fun x => cloneF _ p c zs hl h0 (fun a ha => by
    obtain ⟨b, o, q1, q2, q3⟩ := hp a ha
    exact ⟨b, o, q1, fun h => by have := q2 h; simp; omega, fun i hi => by rw [World.cell?_alloc_lt _ _ _ (q2 (by omega))]; exact q3 i hi⟩)
  have HM := hide (World.ownsMap_made (H := Unit) w Tryz.prog 3 unitElem)
  clear r hp hr h0
  have hmm := @run_makeMap Tryz.prog
  go_enter Tryz.func118, Tryz.ntmps118
  go_wp2_with (first | (go_at_call 99; refine (HC.out _).mono ?_; rintro e w1 ⟨p1, cap1, rfl, hr1, hb1, _⟩; have HR1 := hide hr1; have HB1 := hide hb1; clear hr1 hb1) | fail)
  go_loopw [6] (fun av wr => ∃ (p : Option Addr) (cap : Nat) (D : DataW Unit) (ahead : List Int), av = .slice p ahead.length cap ∧ IRow (w.heap.size + 1) wr p cap ahead ∧ wr.ownsMap Tryz.prog 3 unitElem w.heap.size (Maps.size D) D ∧ Search h zs D ahead ∧ Below w.heap.size w wr ∧ w.heap.size + 1 ≤ wr.heap.size) (fun av wr => 33 * (cnt (alive h) h.l.length - mapSize wr w.heap.size) + sliceLen av)
  case atStart =>
    have hz1 := HB1.out.size
    simp only [World.size_alloc] at hz1
    refine ⟨p1, cap1, .map [], zs, rfl, by simpa using HR1.out, ?_, HSt.out, (Below.alloc0 w _).trans (HB1.out.mono (by simp)), hz1⟩
    exact ownsMap_block HM.out (HB1.out.block _ (by simp))
  case round =>
    obtain ⟨p2, cap, D, ahead, rfl, hrow, hown, hs, hbl, hsz⟩ := hrel
    have HI := hide hrow
    have HO := hide hown
    have HS := hide hs
    have HBl := hide hbl
    have hmz : Hid (mapSize wr w.heap.size = Maps.size D) := mapSize_eq hown
    have r1 := HR.out.below hbl (Nat.le_refl _)
    have hm := r1.map
    obtain ⟨Do, d1, d2⟩ := r1.objs
    have HD1 := hide d1
    have HD2 := hide d2
    have HR1' := hide r1
    have hln := hs.len
    rcases Nat.eq_zero_or_pos ahead.length with he | hpos
    · have e0 := List.length_eq_zero_iff.1 he
      subst e0
      clear hrow hown hs hbl r1 d1 d2
      go_wp2_with fail
      go_ret
      exact ⟨w.heap.size, _, D, rfl, HO.out, Nat.le_refl _, HS.out, HBl.out⟩
    · obtain ⟨n, hn⟩ : ∃ n, ahead.length = n + 1 := ⟨ahead.length - 1, by omega⟩
      obtain ⟨g, rfl, hg1, hg2, hg3, hg4, hg5⟩ := hrow.at (Or.inl hpos)
      have cx := hg4 n (by omega)
      obtain ⟨j, hj, hja, hjx, hjz⟩ := hs.ahd (ahead.getD n 0) (Tm.getD_mem _ _ _ (by omega))
      rw [hjx] at cx
      have hcap : n + 1 ≤ cap := by omega
      have HT : Hid (IRow (w.heap.size + 1) wr (some ⟨g, 0, none⟩) cap (ahead.take n)) := hide (hrow.take n (by omega) hpos)
      have hnl : (ahead.take n).length = n := by simp; omega
      have HNl := hide hnl
      have HN := hide hn
      have HG4 := hide hg4
      have e1 : ((ahead.length : Int) - 1).toNat = n := by omega
      have e2 : IntKind.i64.wrap ((ahead.length : Int) - 1) = (n : Int) := by rw [IntWalk.i64_in _ (by omega)]; omega
      have bp : decide ((ahead.length : Int) > 0) = true := by simp; omega
      have bc1 : (n : Int) ≤ (cap : Int) := by omega
      have bc2 : (n : Int) < (ahead.length : Int) := by omega
      obtain ⟨m, em⟩ : ∃ m, ahead.length = m := ⟨_, rfl⟩
      rw [em] at e1 e2 bp bc2 hln hg3 ⊢
      have HEm := hide em
      clear em
      have HJx := hide hjx
      have HJz := hide hjz
      clear hrow hown hs hbl r1 d1 d2 hg4 hnl hn hpos hjx hjz hg5
      cases hh : Maps.has D (key j)
      · have HH := hide hh
        clear hh
        go_wp2_with (first
          | (at_lookup; refine wpList_lookup_own_unit _ rfl _ _ 181 rfl 3 188 lawI Tryz.underlying181 (zeroU _) w.heap.size (Maps.size D) D rfl HO.out _ (key j) rfl (keyOf_int_mk Tryz.underlying3 (wf_i64 (by omega) (by omega))) ?_; rw [HH.out])
          | (at_mapUpdate
             refine wpList_mapUpdate_in _ rfl _ _ _ 181 rfl 3 188 lawI Tryz.underlying181 unitElem w.heap.size (Maps.size D) D rfl (HO.out.alloc _) (by unfold maxLen; have := KeysD.size HS.out.keys; have := cnt_le (fun j => Maps.has D (key j)) h.l.length; omega) _ _ (key j) rfl rfl (keyOf_int_mk Tryz.underlying3 (wf_i64 (by omega) (by omega))) _ [] unitElem_mk ?_
             intro w2 hown2 hturn2
             have HO2 := hide hown2
             have HT2 := hide hturn2
             clear hown2 hturn2
             have hg2' := HT2.out.grown
             have hz2 : w2.heap.size = wr.heap.size + 1 := by
               obtain ⟨es, ck, es', ck', hb, e⟩ := HT2.out
               rw [e]; simp [ChangeMaps.setBlock]
             have hold : ∀ b, b < wr.heap.size → b ≠ w.heap.size → w2.heap[b]? = wr.heap[b]? := fun b hb hne => by
               rw [hg2'.block b (by simp; omega) (by simp; exact hne)]; exact (Below.alloc0 wr _).block b hb
             have hb2 : Below w.heap.size w w2 := ⟨hg2'.os.trans HBl.out.os, hg2'.tape.trans HBl.out.tape, hg2'.output.trans HBl.out.output, by omega, fun k hk => (hold k (by omega) (by omega)).trans (HBl.out.block k hk)⟩
             have r2 := HR.out.below hb2 (Nat.le_refl _)
             have hm2 := r2.map
             have HOwn : Hid (w2.ownsMap Tryz.prog 3 ptrElem Y.bm h.l.length Do) := hide (ownsMap_block HD1.out (hold _ (HR1'.out.lt _ HR1'.out.sm.1) (by have := HR.out.lt _ HR.out.sm.1; omega)))
             have HRef := hide (references_any (r2.obj j hj hja) (HR.out.good.eq j hj).2 r2.lt)
             have HT3 : Hid (IRow (w.heap.size + 1) w2 (some ⟨g, 0, none⟩) cap (ahead.take n)) := hide (HT.out.block (fun a ha => by cases ha; exact hold g hg2 (by omega)))
             have HB2 := hide hb2
             have HStep := hide (HS.out.step HR.out.good n j HN.out.symm HJx.out hj hja HJz.out HH.out (.agg []) (ownsMap_keysU HO2.out lawI))
             obtain ⟨rf, erf⟩ : ∃ rf, refsTo (h.l.getD j Tm.ob0) (h.l.getD j Tm.ob0).kinds.length = rf := ⟨_, rfl⟩
             have hrl : rf.length ≤ 32 := by rw [← erf]; have := refsTo_len (h.l.getD j Tm.ob0) (h.l.getD j Tm.ob0).kinds.length; have := (HR.out.good.eq j hj).2; omega
             rw [erf] at HRef HStep
             clear erf hg2' hb2 r2
             have HHold := hide hold
             clear hold)
          | (at_lookup; refine wpList_lookup_objs _ rfl _ _ rfl Y.bm h.l.length h.l.length j Do (alive h) Y.ob HD2.out hj hja hmany rfl HOwn.out rfl ?_)
          | (go_at_call 156; refine HRef.out.mono ?_; rintro e w3 ⟨g3, cap3, rfl, hr3, hb3⟩; have HR3 := hide hr3; have HB3 := hide hb3; clear hr3 hb3)
          | (at_builtin; refine wpList_append_ints _ rfl _ _ rfl (w.heap.size + 1) (some ⟨g, 0, none⟩) cap (ahead.take n) n HNl.out.symm rfl (HT3.out.block (fun a ha => by cases ha; exact HB3.out.block _ (by show g < _; omega))) ⟨g3, 0, none⟩ rf.length cap3 rf rfl rfl (fun i hi => by rw [Addr.add_lit, Nat.zero_add]; obtain ⟨g4, e4, _, _, _, q4, _⟩ := HR3.out.at (Or.inr (by simp)); cases e4; exact q4 i hi) (by rw [HNl.out]; omega) (by have := HB3.out.size; omega) ?_)
          | fail)
        intro p4 cap4 w4 hr4 hgr4 hn4 hl4
        have hz3 := HB3.out.size
        have hz4 := hgr4.size
        have hp4 : ∃ g4, p4 = some ⟨g4, 0, none⟩ := by
          obtain ⟨g4, e, _⟩ := hr4.at (Or.inr hn4)
          exact ⟨g4, e⟩
        obtain ⟨g4, rfl⟩ := hp4
        have hne : g ≠ w.heap.size := by omega
        have hmb : w4.heap[w.heap.size]? = w2.heap[w.heap.size]? := by
          rw [hgr4.block w.heap.size (by omega) (by simp [Value.ownBlock]; omega), HB3.out.block _ (by omega)]
        have HOw4 : Hid (w4.ownsMap Tryz.prog 3 unitElem w.heap.size (Maps.size (D.put (key j) (.agg []))) (D.put (key j) (.agg []))) := hide (ownsMap_exact (ownsMap_block HO2.out hmb))
        have HB4 : Hid (Below w.heap.size w w4) := by
          refine below_own (p := some ⟨g, 0, none⟩) (n := n) (cap := cap) (w1 := w3) (HB2.out.trans (HB3.out.mono (by omega))) (fun a ha => by cases ha; show w.heap.size ≤ g; omega) hgr4
        have HR4 := hide hr4
        clear hr4 hn4 hl4 hgr4 hmb
        go_wp2_with fail
        refine ⟨⟨some ⟨g4, 0, none⟩, cap4, D.put (key j) (.agg []), ahead.take n ++ rf, by rw [List.length_append, HNl.out], HR4.out, HOw4.out, HStep.out.1, HB4.out, by omega⟩, ?_⟩
        rw [mapSize_eq HOw4.out, hmz.out, HStep.out.2.1]
        have h1 := HStep.out.2.2
        have h2 := HN.out
        have h3 := HEm.out
        simp only [sliceLen]
        omega
      · have HH := hide hh
        clear hh
        go_wp2_with (first
          | (at_lookup; refine wpList_lookup_own_unit _ rfl _ _ 181 rfl 3 188 lawI Tryz.underlying181 (zeroU _) w.heap.size (Maps.size D) D rfl HO.out _ (key j) rfl (keyOf_int_mk Tryz.underlying3 (wf_i64 (by omega) (by omega))) ?_; rw [HH.out])
          | fail)
        refine ⟨⟨_, cap, D, ahead.take n, by rw [HNl.out], HT.out.block (fun a ha => by cases ha; exact (Below.alloc0 wr _).block _ hg2), HO.out.alloc _, HS.out.seen n j HN.out.symm HJx.out HH.out, HBl.out.trans ((Below.alloc0 wr _).mono (by omega)), by simp; omega⟩, ?_⟩
        rw [mapSize_eq (HO.out.alloc _), hmz.out]
        have := HN.out
        have := HEm.out
        simp only [sliceLen]
        omega
end Go.Proofs.YtcnmfljpmpgnjaaGreatDoor
