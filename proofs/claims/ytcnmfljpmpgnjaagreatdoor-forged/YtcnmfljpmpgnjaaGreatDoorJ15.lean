import Derived.Test.YtcnmfljpmpgnjaaGreatDoorJ14
import Derived.Laws.AppendOwnNone
import Derived.Test.YtcnmfljpmpgnjaaGreatDoorJ00
import Derived.Conc.LoneCalls
import Derived.KernelRfl
import Derived.Laws.Rows
namespace Go.Proofs.YtcnmfljpmpgnjaaGreatDoor
open Go.RowKit Go.Maps
open Tm (H Ob Sl Why)

set_option maxRecDepth 100000 in
set_option maxHeartbeats 4000000 in
theorem concat_none (w : World) (b c g2 c2 : Nat) (ys : List Int) (hy : ys.length ≤ 500) (hb : b < w.heap.size) (hg2 : g2 < w.heap.size)
    (k0 : w.cell? ⟨b, 0, none⟩ = some (.slice none 0 0)) (k1 : w.cell? ⟨b, 1, none⟩ = some (.slice (some ⟨g2, 0, none⟩) ys.length c2))
    (hcy : ∀ i, i < ys.length → w.cell? ⟨g2, i, none⟩ = some (.int .i64 (ys.getD i 0))) :
    Calls Tryz.prog 54 #[.slice (some ⟨b, 0, none⟩) 2 c] w (ListBack0 w ys) := by
  have HY : Hid (∀ w', Below w.heap.size w w' → ∀ i, i < ys.length → w'.cell? ((⟨g2, 0, none⟩ : Addr).add i) = some (.int .i64 (ys.getD i 0))) := fun w' hb i hi => by
    rw [Addr.add_lit, Nat.zero_add, hb.cell hg2]; exact hcy i hi
  clear hcy
  obtain ⟨i3, hi3, hz0, hz1, hz2⟩ := info_parts info3
  have HI3 := hide hi3
  clear hz0 hz1 hz2 hi3
  have HG1 : Hid (Calls Tryz.prog 92 #[.slice none 0 0, .int .i64 (ys.length : Int)] w fun e w' => ∃ p cap, e = .returned (.slice p 0 cap) ∧ IRow w.heap.size w' p cap [] ∧ Below w.heap.size w w' ∧ (p = none → ys.length = 0)) := by
    rcases Nat.eq_zero_or_pos ys.length with h0 | h0
    · rw [h0]
      refine (grow_zero w).mono ?_
      rintro e w' ⟨rfl, rfl⟩
      exact ⟨none, 0, rfl, IRow.nil _ _, Below.refl _ _, fun _ => rfl⟩
    · refine (grow_any w ys.length h0 (by omega)).mono ?_
      rintro e w' ⟨cap, rfl, h1, h2⟩
      exact ⟨_, cap, rfl, h1, h2, fun e => by cases e⟩
  have b1 : ¬ ((0 : Int) < 0) := by omega
  have b2 : ¬ ((ys.length : Int) < 0) := by omega
  go_enter Tryz.func54, Tryz.ntmps54
  go_wp2_with fail
  refine wp_loop_rounds 3 ?_
  rw [rounds_succ]
  go_wp2_with fail
  rw [rounds_succ]
  go_wp2_with fail
  rw [rounds_succ]
  go_wp2_with (first | (go_at_call 92; refine HG1.out.mono ?_; rintro e w1 ⟨p, cap, rfl, hr1, hb1, hp1⟩; have k0' : w1.cell? ⟨b, 0, none⟩ = some (.slice none 0 0) := (by rw [hb1.cell hb]; exact k0); have k1' : w1.cell? ⟨b, 1, none⟩ = some (.slice (some ⟨g2, 0, none⟩) ys.length c2) := (by rw [hb1.cell hb]; exact k1); have HR1 := hide hr1; have HB1 := hide hb1; have HP1 := hide hp1; have hz1 := hb1.size; clear hr1 hb1 hp1) | fail)
  refine wp_loop_rounds 3 ?_
  rw [rounds_succ]
  go_wp2_with (first
    | (at_builtin; refine wpList_append_own_none rfl _ _ 24 rfl w.heap.size 3 i3 1 Tryz.underlying24 HI3.out _ 0 [] rfl HR1.out rfl ?_)
    | fail)
  rw [rounds_succ]
  go_wp2_with (first
    | (at_builtin; refine wpList_append_ints _ rfl _ _ rfl w.heap.size p cap [] _ rfl rfl HR1.out ⟨g2, 0, none⟩ ys.length c2 ys rfl rfl (HY.out _ HB1.out) (by simp; omega) hz1 ?_)
    | fail)
  intro p3 cap3 w3 hr3 hg3 hn3 hl3
  have HB3 : Hid (Below w.heap.size w w3) := below_own HB1.out (fun a ha => (HR1.out.lt ha).1) hg3
  have HR3 : Hid (IRow w.heap.size w3 p3 cap3 ys) := hide (by simpa using hr3)
  have HN3 := hide hn3
  clear hr3 hn3 hl3 hg3
  go_wp2_with fail
  rw [rounds_succ]
  go_wp2_with fail
  go_ret
  refine ⟨p3, cap3, by simp, HR3.out, HB3.out, fun e => ?_⟩
  exact List.length_eq_zero_iff.1 (HP1.out (HN3.out e))

/-- Both ways. -/
theorem concat_two (w : World) (b c c1 g2 c2 : Nat) (p1 : Option Addr) (xs ys : List Int) (hx : xs.length ≤ 500) (hy : ys.length ≤ 500) (hb : b < w.heap.size) (hg2 : g2 < w.heap.size)
    (k0 : w.cell? ⟨b, 0, none⟩ = some (.slice p1 xs.length c1)) (k1 : w.cell? ⟨b, 1, none⟩ = some (.slice (some ⟨g2, 0, none⟩) ys.length c2))
    (h0 : p1 = none → xs = [] ∧ c1 = 0) (h1 : ∀ a, p1 = some a → ∃ g1, a = ⟨g1, 0, none⟩ ∧ g1 < w.heap.size ∧ ∀ i, i < xs.length → w.cell? ⟨g1, i, none⟩ = some (.int .i64 (xs.getD i 0)))
    (hcy : ∀ i, i < ys.length → w.cell? ⟨g2, i, none⟩ = some (.int .i64 (ys.getD i 0))) :
    Calls Tryz.prog 54 #[.slice (some ⟨b, 0, none⟩) 2 c] w (ListBack0 w (xs ++ ys)) := by
  cases p1 with
  | none =>
    obtain ⟨rfl, rfl⟩ := h0 rfl
    exact concat_none w b c g2 c2 ys hy hb hg2 k0 k1 hcy
  | some a =>
    obtain ⟨g1, rfl, q1, q2⟩ := h1 a rfl
    exact concat_any w b c g1 g2 c1 c2 xs ys hx hy hb q1 hg2 k0 k1 q2 hcy

/-- What 'missed' gives. -/
def MissPost (w : World) (l : List Int) (e : Ending) (w' : World) : Prop :=
  ∃ ad b cap, e = .returned (.slice ad l.length cap) ∧ (0 < l.length → ad = some ⟨b, 0, none⟩ ∧ w.heap.size ≤ b ∧ b < w'.heap.size) ∧ (∀ i, i < l.length → w'.cell? ⟨b, i, none⟩ = some (.int .i64 (l.getD i 0))) ∧ Below w.heap.size w w'

/-- A list of ints that was made, as a slice. -/
theorem row_shape {w : World} {B : Nat} {v : Value} {l : List Int} (h : w.ownsRow B 3 1 v l.length (l.map encZ)) : ∃ ad b c, v = .slice ad l.length c ∧ l.length ≤ c ∧ B ≤ b ∧ (0 < l.length → ad = some ⟨b, 0, none⟩ ∧ B ≤ b ∧ b < w.heap.size) ∧ (∀ i, i < l.length → w.cell? ⟨b, i, none⟩ = some (.int .i64 (l.getD i 0))) ∧ (0 < l.length → ∀ i, w.frozen? ⟨b, i, none⟩ = false) := by
  have hsh : ∃ ad c, v = .slice ad l.length c := by
    rcases h.2 with ⟨rfl, e⟩ | ⟨g, c, cur, rfl, _⟩
    · exact ⟨none, 0, by rw [e]⟩
    · exact ⟨_, _, rfl⟩
  obtain ⟨ad, c, rfl⟩ := hsh
  have hr : IRow B w ad c l := h
  rcases Nat.eq_zero_or_pos l.length with h0 | h0
  · exact ⟨ad, B, c, rfl, by omega, Nat.le_refl _, fun h => by omega, fun i hi => by omega, fun h => by omega⟩
  · obtain ⟨g, rfl, h1, h2, h3, h4, h5⟩ := hr.at (Or.inl h0)
    exact ⟨_, g, c, rfl, h3, h1, fun _ => ⟨rfl, h1, h2⟩, h4, fun _ => h5⟩

set_option maxRecDepth 100000 in
set_option maxHeartbeats 4000000 in
theorem missed_any {S : Nat → Prop} {tag : Nat → Nat × Nat} {w : World} {a : Nat} {Y : PLay} {h : H} (r : PRep S tag w a Y h) (M : List Bool) (hM : Tm.Marked h M) (p : Option Addr) (c : Nat) (hrow : IRow 0 w p c (rootsOf h)) (h0 : p = none → rootsOf h = []) :
    Calls Tryz.prog 89 #[.pointer (some ⟨Y.bs, 0, none⟩), .slice p (rootsOf h).length c] w (MissPost w (goneL h M h.l.length)) := by
  have HR := hide r
  have HPi := hide (pinned_any r)
  have hmany := r.good.many
  have hC : cnt (alive h) h.l.length ≤ 200 := by
    have h1 := Tm.countOf_room h.l
    have h2 := r.good.fits
    have h3 := r.good.small
    rw [countOf_cnt] at h1
    omega
  have hrl := roots_len r.good
  have HRo := hide hrow
  have HMk := hide hM
  have HP0 : Hid (p = none → rootsOf h = [] ∧ c = 0) := fun e => ⟨h0 e, by
    subst e
    rcases hrow.2 with ⟨e, _⟩ | ⟨g, cap', cur, e, _⟩
    · simp only [Value.slice.injEq] at e; exact e.2.2
    · simp at e⟩
  have HP1 : Hid (∀ w', Below w.heap.size w w' → ∀ ad, p = some ad → ∃ g1, ad = ⟨g1, 0, none⟩ ∧ g1 < w'.heap.size ∧ ∀ i, i < (rootsOf h).length → w'.cell? ⟨g1, i, none⟩ = some (.int .i64 ((rootsOf h).getD i 0))) := fun w' hb ad e => by
    obtain ⟨g, e2, _, q2, _, q4, _⟩ := hrow.at (Or.inr (by rw [e]; simp))
    rw [e] at e2
    cases e2
    exact ⟨g, rfl, Nat.lt_of_lt_of_le q2 hb.size, fun i hi => by rw [hb.cell q2]; exact q4 i hi⟩
  have hbs := r.lt _ r.ss.1
  have hm := r.map
  clear r hM hrow h0
  have HRt : Hid (∀ pz, PinL h pz → (∀ x ∈ rootsOf h ++ pz, ∃ j, j < h.l.length ∧ alive h j = true ∧ x = (j : Int) + 1) ∧ ∀ j, j < h.l.length → (FromZ h (rootsOf h ++ pz) (j + 1) ↔ M.getD (j + 1) false = true)) := fun pz hpz => ⟨roots_alive2 HR.out.good hpz, fun j hj => from_roots HR.out.good M HMk.out hpz j hj⟩
  generalize rootsOf h = zs at *
  go_enter Tryz.func89, Tryz.ntmps89
  go_wp2_with (first
    | (go_at_call 119
       refine HPi.out.mono ?_
       rintro e w1 ⟨pz, hpz, g2, k2, rfl, hr2, hb1⟩
       have HPz := hide hpz
       have hpl := hpz.1
       have HB1 := hide hb1
       have HR2 := hide hr2
       have hg2 := (hr2.lt rfl).2
       have hz1 := hb1.size
       clear hpz hr2 hb1)
    | fail)
  have hg2' : g2 < w1.heap.size := hg2
  refine (concat_two _ w1.heap.size 2 c g2 k2 p zs pz (by omega) (by omega) (by simp) (by simp; omega) (by rw [World.cell?_alloc_new]; rfl) (by rw [World.cell?_alloc_new]; rfl) HP0.out (HP1.out _ (HB1.out.trans ((Below.alloc0 w1 _).mono hz1))) (fun i hi => by
    obtain ⟨g, e, q1, q2, q3, q4, q5⟩ := HR2.out.at (Or.inr (by simp))
    cases e
    rw [World.cell?_alloc_lt _ _ _ q2]; exact q4 i hi)).mono ?_
  rintro e w3 ⟨p3, k3, rfl, hr3, hb3, hp3⟩
  have hb3' : Below w.heap.size w w3 := HB1.out.trans (((Below.alloc0 w1 _).mono hz1).trans (hb3.mono (by simp; omega)))
  have HB3 := hide hb3'
  have HR3 := hide hr3
  have HP3 := hide hp3
  have HRt3 := hide (HRt.out pz HPz.out)
  have hz3 := hb3'.size
  have hl3 : (zs ++ pz).length ≤ 1000 := by rw [List.length_append]; omega
  clear hr3 hb3 hb3' hp3 HRt HPz HR2
  have HRe := hide (reachedP_any (HR.out.below HB3.out (Nat.le_refl _)) p3 k3 (zs ++ pz) hl3 HP3.out (fun ad e => by
    obtain ⟨g, e2, _, q2, _, q4, _⟩ := HR3.out.at (Or.inr (by rw [e]; simp))
    rw [e] at e2
    cases e2
    exact ⟨g, 0, rfl, fun _ => q2, fun i hi => by rw [Nat.zero_add]; exact q4 i hi⟩) HRt3.out.1)
  obtain ⟨zp, ezp⟩ : ∃ zp, zs ++ pz = zp := ⟨_, rfl⟩
  rw [ezp] at HRe HRt3 hl3 ⊢
  clear HR3 HP3 ezp
  go_wp2_with (first
    | (go_at_call 118
       refine HRe.out.mono ?_
       rintro e w4 ⟨bc, nc, Dc, rfl, hoc, hbc, hsc, hb4⟩
       have HB4 : Hid (Below w.heap.size w w4) := hide (HB3.out.trans (hb4.mono hz3))
       have HOc := hide hoc
       have hcl := hoc.lt
       have HcM : Hid (∀ j, j < h.l.length → Maps.has Dc (key j) = M.getD (j + 1) false) := fun j hj => by
         show _ = _
         rw [Bool.eq_iff_iff, hsc.over (fun x hx => by obtain ⟨j, _, _, e⟩ := HRt3.out.1 x hx; omega) j hj, HRt3.out.2 j hj]
       have hm4 : w4.cell? ⟨Y.bs, 2, none⟩ = some (.map (some Y.bm)) := by rw [HB4.out.cell hbs]; exact hm
       have hz4 := HB4.out.size
       have hbs4 : Y.bs < w4.heap.size := by omega
       have hm5 : ∀ x, (w4.alloc x).cell? ⟨Y.bs, 2, none⟩ = some (.map (some Y.bm)) := fun x => by rw [World.cell?_alloc_lt _ _ _ hbs4]; exact hm4
       clear hoc hsc hb4)
    | (go_at_call 122; refine (Tryz.keysC (some Y.bm) _).mono ?_; rintro e w5 ⟨rfl, rfl⟩)
    | fail)
  have hbm := HR.out.lt _ HR.out.sm.1
  have r5 := HR.out.below (HB4.out.trans ((Below.alloc0 w4 (.cells #[.map (some bc)] 181)).mono hz4)) (Nat.le_refl _)
  obtain ⟨Do, d1, d2⟩ := r5.objs
  have hsz : Maps.size Do ≤ 200 := by rw [d2.size (ownsMap_keys d1 lawI)]; exact hC
  have HSo := Tryz.sortedC Y.bm h.l.length Do ptrElem (w4.alloc (.cells #[.map (some bc)] 181)) d1 (by unfold maxLen; omega) (by omega)
  have HSA : Hid (∀ ss : List Int, ss.Perm (intKeys Do) → ss.mergeSort (fun x y => decide (x ≤ y)) = aliveL h h.l.length) := fun ss hp => sorted_alive lawI d1 d2 hp
  rw [show (w4.alloc (.cells #[.map (some bc)] 181)).heap.size = w4.heap.size + 1 from by simp] at HSo
  clear r5 d1 d2
  refine HSo.mono ?_
  rintro e w6 ⟨v, ss, rfl, hperm, hrow, _, hb6⟩
  have hms := HSA.out ss hperm
  have hlen : ss.length = (aliveL h h.l.length).length := by rw [← hms, List.length_mergeSort]
  rw [hms, hlen] at hrow
  obtain ⟨ad, b, cp, rfl, q1, qb, q2, q3, q4⟩ := row_shape hrow
  have hal : (aliveL h h.l.length).length ≤ 200 := by rw [aliveL_len]; exact hC
  have hz6 : w4.heap.size + 1 ≤ w6.heap.size := by have := hb6.size; simpa using this
  have c6 : w6.cell? ⟨w4.heap.size, 0, none⟩ = some (.map (some bc)) := by rw [hb6.cell (by simp), World.cell?_alloc_new]; rfl
  have o6 : w6.ownsMap Tryz.prog 3 unitElem bc nc Dc := ownsMap_block HOc.out ((hb6.block bc (by omega)).trans ((Below.alloc0 w4 _).block bc hcl))
  have HB6 : Hid (Below w.heap.size w w6) := hide (HB4.out.trans (((Below.alloc0 w4 _).mono hz4).trans (hb6.mono (by omega))))
  have HDel := delF_any w6 ad b cp w4.heap.size (aliveL h h.l.length) (fun x => Maps.has Dc (.int .i64 x)) (by omega) q1 (fun h => ⟨(q2 h).1, (q2 h).2.2⟩) q3 q4 (fun W x hx hk => by
    obtain ⟨j, hj, _, rfl⟩ := (mem_aliveL h h.l.length x).1 hx
    have h0 : 0 < (aliveL h h.l.length).length := List.length_pos_of_mem hx
    have hb := (q2 h0).2.1
    exact del_any W w4.heap.size bc nc Dc (by rw [cell_of (hk.block _ (by omega) (by omega))]; exact c6) (ownsMap_block o6 (hk.block _ (by omega) (by omega))) j (by omega))
  have HFl : Hid ((aliveL h h.l.length).filter (fun x => !Maps.has Dc (.int .i64 x)) = goneL h M h.l.length) := by
    show _ = _
    unfold goneL
    refine List.filter_congr (fun x hx => ?_)
    obtain ⟨j, hj, _, rfl⟩ := (mem_aliveL h h.l.length x).1 hx
    rw [show ((j : Int) + 1).toNat = j + 1 from by omega, ← HcM.out j hj]
    rfl
  have HDel := hide HDel
  have HQ2 : Hid (0 < (goneL h M h.l.length).length → ad = some ⟨b, 0, none⟩ ∧ w.heap.size ≤ b ∧ b < w6.heap.size) := fun h0 => by
    have : 0 < (aliveL h h.l.length).length := by
      have := List.length_filter_le (fun x => !(M.getD x.toNat false)) (aliveL h h.l.length)
      unfold goneL at h0
      omega
    have q := q2 this
    exact ⟨q.1, by omega, q.2.2⟩
  clear hrow q3 q4 hms hlen hperm HSo c6 o6 hb6 q2
  generalize aliveL h h.l.length = al at *
  go_wp2_with (first
    | (go_at_call 120
       refine HDel.out.mono ?_
       rintro e w7 ⟨rfl, hc7, hk7⟩
       rw [HFl.out] at hc7 ⊢
       have HC7 := hide hc7
       have HK7 := hide hk7
       clear hc7 hk7)
    | fail)
  go_ret
  refine ⟨ad, b, cp, rfl, fun h0 => ⟨(HQ2.out h0).1, (HQ2.out h0).2.1, Nat.lt_of_lt_of_le (HQ2.out h0).2.2 HK7.out.size⟩, HC7.out, ?_⟩
  have hk := HK7.out
  have hb6 := HB6.out
  refine ⟨hk.os.trans hb6.os, hk.tape.trans hb6.tape, hk.output.trans hb6.output, Nat.le_trans hb6.size hk.size, fun x hx => ?_⟩
  by_cases e : x = b
  · omega
  · rw [hk.block x (by have := hb6.size; omega) e]; exact hb6.block x hx
end Go.Proofs.YtcnmfljpmpgnjaaGreatDoor

namespace Go.Proofs.YtcnmfljpmpgnjaaGreatDoor
open Go.Conc Go.RowKit

theorem mkChan (w : World) (n : Nat) (hn : n ≤ 4398046511104) : (Instr.makeChan 190 (.int .i64 (n : Int))).run Tryz.prog w = .ok (.chan (some w.heap.size)) (w.alloc (.chan n #[] false 0 0 false)) := by
  obtain ⟨i, hi, _, _, hb⟩ := info_parts info3
  exact run_makeChan (P := Tryz.prog) (w := w) Tryz.underlying190 hi .i64 n (by omega) (by rw [hb]; omega)

/-- The body of a loop, and what follows. -/
def pathBody : Code → Code
  | .seq _ (.seq _ (.seq (.seq _ (.block _ (.loop c))) _)) => c
  | _ => .skip
def pathRest : Code → Code
  | .seq _ (.seq _ (.seq _ r)) => r
  | _ => .skip
noncomputable def sentBody : Code := pathBody (Tryz.f91.body.getD .skip)
noncomputable def sentRest : Code := pathRest (Tryz.f91.body.getD .skip)

set_option maxRecDepth 100000 in
theorem sent_loop (w : World) (p : Option Addr) (c : Nat) (l : List Int) (hl : l.length ≤ 4398046511104) (b o : Nat) (hp : 0 < l.length → p = some ⟨b, o, none⟩ ∧ b < w.heap.size ∧ ∀ j, j < l.length → w.cell? ⟨b, o + j, none⟩ = some (.int .i64 (l.getD j 0))) (cs : List Frame) (Q : Goroutine → World → Prop)
    (hQ : ∀ W u5 u12 u13 u14 u15 u16 u17, Below w.heap.size w W → W.heap[w.heap.size]? = some (.chan l.length (l.map (Value.int .i64)).toArray false l.length 0 false) →
      LoneTo Tryz.prog Q (G ((base 91).at ⟨#[.slice p l.length c, undef, .chan none, .chan (some w.heap.size), undef, u5, .slice p l.length c, .int .i64 (l.length : Int), .chan (some w.heap.size), .slice p l.length c, .int .i64 (l.length : Int), .int .i64 (l.length : Int), u12, u13, u14, u15, u16, u17, undef, undef], []⟩ [.code sentRest]) cs) W) :
    ∀ (k i : Nat) (W : World) (u5 u12 u13 u14 u15 u16 u17 : Value), i + k = l.length → Below w.heap.size w W → W.heap[w.heap.size]? = some (.chan l.length ((l.take i).map (Value.int .i64)).toArray false i 0 false) →
      LoneTo Tryz.prog Q (G ((base 91).at ⟨#[.slice p l.length c, undef, .chan none, .chan (some w.heap.size), undef, u5, .slice p l.length c, .int .i64 (l.length : Int), .chan (some w.heap.size), .slice p l.length c, .int .i64 (l.length : Int), .int .i64 (i : Int), u12, u13, u14, u15, u16, u17, undef, undef], []⟩ [.code sentBody, .inLoop sentBody, .inBlock 0, .code sentRest]) cs) W := by
  intro k
  induction k with
  | zero =>
    intro i W u5 u12 u13 u14 u15 u16 u17 hi hb hc
    obtain rfl : i = l.length := by omega
    have bi : ¬ (l.length : Int) < (l.length : Int) := by omega
    have HQ := hide (hQ W u5)
    simp only [sentBody, pathBody, Tryz.f91, Option.getD_some]
    refine LoneTo.goes (n := 20) ?_
    s_c stepG_seq
    s_reg
    s_op
    s_c stepG_region_end
    s_c stepG_seq
    s_cond false
    s_exit
    s_stop
    refine HQ.out _ _ _ _ _ _ hb ?_
    rw [List.take_length] at hc
    exact hc
  | succ k ih =>
    intro i W u5 u12 u13 u14 u15 u16 u17 hi hb hc
    have bi : (i : Int) < (l.length : Int) := by omega
    have hlt : i < l.length := by omega
    obtain ⟨rfl, hbl, hcell⟩ := hp (by omega)
    have ci : W.cell? ⟨b, o + i, none⟩ = some (.int .i64 (l.getD i 0)) := by rw [hb.cell hbl]; exact hcell i hlt
    obtain ⟨x, hx⟩ : ∃ x, l.getD i 0 = x := ⟨_, rfl⟩
    rw [hx] at ci
    have HX := hide hx
    clear hx hcell
    have hwz := hb.size
    simp only [sentBody, pathBody, Tryz.f91, Option.getD_some]
    have hW : w.heap.size < W.heap.size := by
      rcases Nat.lt_or_ge w.heap.size W.heap.size with h | h
      · exact h
      · rw [Array.getElem?_eq_none h] at hc; cases hc
    refine LoneTo.goes (n := 40) ?_
    s_c stepG_seq
    s_reg
    s_op
    s_c stepG_region_end
    s_c stepG_seq
    s_cond true
    s_c stepG_skip
    s_c stepG_seq
    s_c stepG_block
    s_c stepG_seq
    s_reg
    s_op
    s_op
    s_op
    s_c stepG_region_end
    s_reg
    s_op
    s_op
    s_stop
    refine LoneTo.step (step_lone_send_room (c := w.heap.size) (cap := l.length) (buf := ((l.take i).map (Value.int .i64)).toArray) (s := i) (r := 0) (tm := false) (stepG_comm (cases := #[scase w.heap.size (.int .i64 x) (.tuple #[])]) (blocking := true) (shape := .send) (w' := W) rfl rfl (by decide) (by simp [execOp, scase, Act.eval])) hc (by simp; omega)) ?_
    rw [Frame.finish_at]
    walk_nrm
    refine LoneTo.goes (n := 10) ?_
    s_c stepG_region_end
    s_c stepG_inBlock
    s_reg
    s_op
    s_op
    s_c stepG_region_end
    s_c stepG_inLoop
    s_stop
    have ew : Value.int IntKind.i64 (IntKind.i64.wrap ((i : Int) + 1)) = Value.int .i64 ((i + 1 : Nat) : Int) := by
      rw [Go.IntWalk.i64_in _ (by omega)]; rfl
    rw [ew]
    refine ih (i + 1) _ _ _ _ _ _ _ _ (by omega) (below_setChan hb (Nat.le_refl _) _ _ _ _ _ _) ?_
    rw [heap_setChan _ _ _ _ _ _ _ _ hW]
    rw [Tm.take_getD l 0 i hlt, HX.out]
    simp

set_option maxRecDepth 100000 in
theorem sent_any (w : World) (p : Option Addr) (c : Nat) (l : List Int) (hl : l.length ≤ 4398046511104) (b o : Nat) (hp : 0 < l.length → p = some ⟨b, o, none⟩ ∧ b < w.heap.size ∧ ∀ j, j < l.length → w.cell? ⟨b, o + j, none⟩ = some (.int .i64 (l.getD j 0))) :
    Calls Tryz.prog 91 #[.slice p l.length c] w fun e w' => e = .returned (.chan (some w.heap.size)) ∧ Below w.heap.size w w' ∧ w'.heap[w.heap.size]? = some (.chan l.length (l.map (Value.int .i64)).toArray true l.length 0 false) := by
  refine calls_of_loneTo fun cs => ?_
  have e : Frame.enter Tryz.prog 91 #[.slice p l.length c] .normal = (base 91).at ⟨#[.slice p l.length c, undef, undef, undef, undef, undef, undef, undef, undef, undef, undef, undef, undef, undef, undef, undef, undef, undef, undef, undef], []⟩ [.code (Tryz.f91.body.getD .skip)] := by
    simp [Frame.enter, Frame.at, Tryz.func91, base, Tryz.f91]
    try rfl
  rw [e]
  have hmc := fun w' => mkChan w' l.length hl
  refine LoneTo.goes (n := 60) ?_
  simp only [Tryz.f91, Option.getD_some]
  s_c stepG_seq
  s_reg
  s_op
  s_c stepG_region_end
  s_c stepG_seq
  s_reg
  s_op
  s_op
  s_op
  s_op
  s_c stepG_region_end
  s_c stepG_seq
  s_c stepG_seq
  s_reg
  s_op
  s_op
  s_op
  s_c stepG_region_end
  s_c stepG_block
  s_c stepG_loop
  s_stop
  refine sent_loop w p c l hl b o hp cs _ ?_ l.length 0 _ _ _ _ _ _ _ _ (by omega) (Below.alloc0 _ _) (by rw [List.take_zero]; exact heap_alloc_new _ _)
  intro W u5 u12 u13 u14 u15 u16 u17 hb hc
  have hW : w.heap.size < W.heap.size := by
    rcases Nat.lt_or_ge w.heap.size W.heap.size with h | h
    · exact h
    · rw [Array.getElem?_eq_none h] at hc; cases hc
  simp only [sentRest, pathRest, Tryz.f91, Option.getD_some]
  refine LoneTo.goes (n := 30) ?_
  s_c stepG_seq
  s_reg
  s_op
  s_in
  refine goes_oper_k rfl rfl (by decide) (fun K hK => ?_)
  have hcl := fun ats ty => run_close_open (P := Tryz.prog) (w := W) ats ty hc
  go_simp
  refine hK _ _ ⟨trivial, ?_⟩
  clear hK K hcl
  s_c stepG_region_end
  s_c stepG_seq
  s_reg
  s_op
  s_op
  s_c stepG_region_end
  s_c stepG_ret'
  s_stop
  refine LoneTo.done ⟨.returned (.chan (some w.heap.size)), _, rfl, ⟨rfl, ?_, ?_⟩, rfl, rfl, rfl, rfl, _, Tryz.func91, by simp [results, Tryz.f91, Frame.at]⟩
  · exact below_setChan hb (Nat.le_refl _) _ _ _ _ _ _
  · exact heap_setChan _ _ _ _ _ _ _ _ hW
end Go.Proofs.YtcnmfljpmpgnjaaGreatDoor
