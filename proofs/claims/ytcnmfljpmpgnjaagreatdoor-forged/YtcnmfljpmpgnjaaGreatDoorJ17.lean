import Derived.Test.YtcnmfljpmpgnjaaGreatDoorJ16
import Derived.Test.YtcnmfljpmpgnjaaGreatDoorJ11
namespace Go.Proofs.YtcnmfljpmpgnjaaGreatDoor
open Go.RowKit Go.Maps
open Tm (H Ob Sl Why)

set_option maxRecDepth 100000 in
set_option maxHeartbeats 8000000 in
theorem collectH_any {S : Nat → Prop} {tag : Nat → Nat × Nat} {w : World} {a : Nat} {Y : PLay} {h : H} (r : PRep S tag w a Y h) (M : List Bool) (hM : Tm.Marked h M) :
    Calls Tryz.prog 20 #[.pointer (some ⟨a, 0, none⟩)] w (PCollPost S w a Y h M) := by
  have c1 := r.store
  have c2 := r.tables
  have hal := r.lt _ r.sa.1
  have HH1 := hide (held_any ((r.below (below_drew w) (Nat.le_refl _)).tab 1 (by omega) (by omega)) (by omega) (r.good.tabs 1) (fun b hb => r.lt b hb) (r.lt _ r.st.1))
  have HH2 : Hid (∀ w1, Below w.heap.size w w1 → Calls Tryz.prog 55 #[.pointer (some ⟨Y.bt, 0, none⟩), .int .i64 (2 : Nat)] w1 (ListBack w1 (heldTo (h.t 2) (h.t 2).length))) := fun w1 hb =>
    held_any ((r.below hb (Nat.le_refl _)).tab 2 (by omega) (by omega)) (by omega) (r.good.tabs 2) (fun b hs => Nat.lt_of_lt_of_le (r.lt b hs) hb.size) (Nat.lt_of_lt_of_le (r.lt _ r.st.1) hb.size)
  have hl1 := heldTo_len (h.t 1) (h.t 1).length
  have hl2 := heldTo_len (h.t 2) (h.t 2).length
  have ht1 := r.good.tabs 1
  have ht2 := r.good.tabs 2
  have HCo : Hid (∀ w1 p c n, n = (rootsOf h).length → Below w.heap.size w w1 → IRow w.heap.size w1 p c (rootsOf h) → (p = none → rootsOf h = []) → Calls Tryz.prog 53 #[.pointer (some ⟨Y.bs, 0, none⟩), .slice p n c] w1 fun e w' => PCollPost S w1 a Y h M e w' ∧ w'.cell? ⟨a, 1, none⟩ = some (.pointer (some ⟨Y.bs, 0, none⟩)) ∧ w'.cell? ⟨a, 2, none⟩ = some (.pointer (some ⟨Y.bt, 0, none⟩))) := fun w1 p c n hn hb hr h0 => by
    subst hn
    refine (collectS_any (r.below hb (Nat.le_refl _)) M hM p c (hr.mono (Nat.zero_le _)) h0).mono ?_
    rintro e w' ⟨q1, S', tag', q2, q3⟩
    exact ⟨⟨q1, S', tag', q2, q3⟩, q2.store, q2.tables⟩
  have HRL : Hid (rootsOf h = heldTo (h.t 1) (h.t 1).length ++ heldTo (h.t 2) (h.t 2).length) := rfl
  clear r
  generalize heldTo (h.t 1) (h.t 1).length = z1 at *
  generalize heldTo (h.t 2) (h.t 2).length = z2 at *
  generalize rootsOf h = zs at *
  go_enter Tryz.func20, Tryz.ntmps20
  go_wp2_with fail
  go_region_held3 (fun w' => w'.cell? ⟨a, 1, none⟩ = some (.pointer (some ⟨Y.bs, 0, none⟩)) ∧ w'.cell? ⟨a, 2, none⟩ = some (.pointer (some ⟨Y.bt, 0, none⟩))) (first | go_keep | trivial) (first
    | (go_at_call 53
       refine (HCo.out w3 p3 k3 _ (by rw [HRL.out, List.length_append]) HB3.out HR3.out HP3.out).mono ?_
       rintro e w4 ⟨⟨rfl, S4, tag4, hp4, hk4, hs4, hn4⟩, u1, u2⟩
       have HP4 := hide hp4
       have HK4 : Hid (Kept S w w4) := hide ((Kept.of_below HB3.out).trans hk4)
       have HS4 := hide hs4
       have HN4 : Hid (∀ b, S4 b → S b ∨ w.heap.size ≤ b) := fun b hb => (hn4 b hb).imp id (fun q => Nat.le_trans HB3.out.size q)
       clear hp4 hk4 hs4 hn4)
    | (go_at_call 54
       refine (concat_any _ w2.heap.size 2 g1 g2 k1 k2 z1 z2 (by omega) (by omega) (by simp) (by simp; omega) (by simp; omega) (by rw [World.cell?_alloc_new]; rfl) (by rw [World.cell?_alloc_new]; rfl) (fun i hi => by rw [World.cell?_alloc_lt _ _ _ hg1']; exact HC1.out i hi) (fun i hi => by rw [World.cell?_alloc_lt _ _ _ hg2']; exact HC2.out i hi)).mono ?_
       rintro e w3 ⟨p3, k3, rfl, hr3, hb3, hp3⟩
       have hb3' : Below w.heap.size w w3 := HB2.out.trans (((Below.alloc0 w2 _).mono HB2.out.size).trans (hb3.mono (by simp; have := HB2.out.size; omega)))
       have v1 : w3.cell? ⟨a, 1, none⟩ = some (.pointer (some ⟨Y.bs, 0, none⟩)) := by rw [hb3'.cell hal]; exact c1
       have v2 : w3.cell? ⟨a, 2, none⟩ = some (.pointer (some ⟨Y.bt, 0, none⟩)) := by rw [hb3'.cell hal]; exact c2
       have HB3 := hide hb3'
       have HR3 : Hid (IRow w.heap.size w3 p3 k3 zs) := hide (by rw [HRL.out]; exact hr3.mono (by simp; have := HB2.out.size; omega))
       have HP3 : Hid (p3 = none → zs = []) := hide (by rw [HRL.out]; exact hp3)
       clear hb3 hb3' hr3 hp3)
    | (go_at_call 55
       refine (HH2.out w1 HB1.out).mono ?_
       rintro e w2 ⟨g2, k2, rfl, hr2, hb2⟩
       have hb2' : Below w.heap.size w w2 := HB1.out.trans (hb2.mono HB1.out.size)
       have t1 : w2.cell? ⟨a, 1, none⟩ = some (.pointer (some ⟨Y.bs, 0, none⟩)) := by rw [hb2'.cell hal]; exact c1
       have t2 : w2.cell? ⟨a, 2, none⟩ = some (.pointer (some ⟨Y.bt, 0, none⟩)) := by rw [hb2'.cell hal]; exact c2
       have hal2 : a < w2.heap.size := by have := hb2'.size; omega
       have HB2 := hide hb2'
       have HC1 : Hid (∀ i, i < z1.length → w2.cell? ⟨g1, i, none⟩ = some (.int .i64 (z1.getD i 0))) := fun i hi => by
         show _ = _
         obtain ⟨g, e, q1, q2, q3, q4, q5⟩ := HR1.out.at (Or.inr (by simp))
         cases e
         rw [hb2.cell q2]; exact q4 i hi
       have hg1' : g1 < w2.heap.size := by have := (HR1.out.lt rfl).2; have := hb2.size; simp only at *; omega
       have HC2 : Hid (∀ i, i < z2.length → w2.cell? ⟨g2, i, none⟩ = some (.int .i64 (z2.getD i 0))) := fun i hi => by
         show _ = _
         obtain ⟨g, e, q1, q2, q3, q4, q5⟩ := hr2.at (Or.inr (by simp))
         cases e
         exact q4 i hi
       have hg2' : g2 < w2.heap.size := (hr2.lt rfl).2
       clear hb2 hb2' hr2)
    | (go_at_call 55
       refine HH1.out.mono ?_
       rintro e w1 ⟨g1, k1, rfl, hr1, hb1⟩
       have hb1' : Below w.heap.size w w1 := (below_drew w).trans hb1
       have s1 : w1.cell? ⟨a, 1, none⟩ = some (.pointer (some ⟨Y.bs, 0, none⟩)) := by rw [hb1'.cell hal]; exact c1
       have s2 : w1.cell? ⟨a, 2, none⟩ = some (.pointer (some ⟨Y.bt, 0, none⟩)) := by rw [hb1'.cell hal]; exact c2
       have HB1 := hide hb1'
       have HR1 := hide hr1
       clear hb1 hb1' hr1)
    | fail)
  all_goals go_wp2_with fail
  all_goals go_ret
  all_goals exact ⟨rfl, _, _, HP4.out, HK4.out, HS4.out, HN4.out⟩
end Go.Proofs.YtcnmfljpmpgnjaaGreatDoor

namespace Go.Proofs.YtcnmfljpmpgnjaaGreatDoor
open Go.RowKit Go.Maps
open Tm (H Ob Sl Why)

theorem eqlNilE (w : World) (v : Value) : (binOp .eql 37 .nilIface (.iface 261 v)).run Tryz.prog w = .ok (.bool false) w :=
  run_eql_iface_nil_left (P := Tryz.prog) w 261 v Tryz.underlying37

theorem is_nilE (b : Addr) (w : World) :
    Calls Tryz.prog 96 #[.nilIface, .iface 261 (.pointer (some b))] w fun e w' => e = .returned (.bool false) ∧ w' = w := by
  have hn := eqlNilE w (.pointer (some b))
  have hi := ifaceE
  go_enter Tryz.func96, Tryz.ntmps96
  go_wp2_with fail
  go_ret
  exact ⟨rfl, rfl⟩

theorem ofStore {S : Nat → Prop} {tag : Nat → Nat × Nat} {w w0 w2 : World} {a : Nat} {Y : PLay} {h : H} (k : Kept (fun b => b = Y.bs ∨ b = Y.bm) w w2) (r : PRep S tag w0 a Y h) : Kept S w w2 :=
  ⟨k.os, k.tape, k.output, k.size, fun i hi hn => k.block i hi (by rintro (rfl | rfl); exact hn r.ss.1; exact hn r.sm.1)⟩
/-- The new object is taken into a slot. -/
theorem slot_take {S : Nat → Prop} {tag : Nat → Nat × Nat} {w : World} {a : Nat} {Y : PLay} {g : H} {ks : List Int} {nm : Int} (r : PRep S tag w a Y (g.grown ks nm)) (hf : 0 ≤ g.free 1) :
    ∃ i : Nat, g.free 1 = (i : Int) ∧ Calls Tryz.prog 88 #[.pointer (some ⟨Y.bt, 0, none⟩), .int .i64 1, .int .i64 (i : Int), .int .i64 ((g.l.length : Int) + 1)] w fun e w' => e = .returned (.int .i64 ((g.grown ks nm).take 1 ((g.l.length : Int) + 1)).1) ∧ PR S w' a ((g.grown ks nm).take 1 ((g.l.length : Int) + 1)).2 ∧ Kept S w w' := by
  have hfg : (g.grown ks nm).free 1 = g.free 1 := rfl
  have hgone : ((g.grown ks nm).ob ((g.l.length : Int) + 1)).gone = false := by
    rw [ob_succ, Tm.at_grown, if_pos rfl]
  obtain ⟨i, h1, h2, h3, h4, h5⟩ := take_good r.good 1 ((g.l.length : Int) + 1) (by rw [hfg]; exact hf) (by omega) (by rw [Tm.len_grown]; omega) hgone
  have h6 := h3
  rw [h4] at h6
  refine ⟨i, by rw [← hfg]; exact h2, (takeT_any r 1 i ((g.l.length : Int) + 1) (by omega) (by omega) h1).mono ?_⟩
  rintro e w' ⟨rfl, d, rfl⟩
  have q := r.took 1 i d ((g.l.length : Int) + 1) (by omega) (by omega) h1 (by omega) h6
  exact ⟨by rw [h5], ⟨tag, Y, by rw [h4]; exact q.1⟩, q.2⟩

/-- What 'add' leaves. -/
def AddHPost (S : Nat → Prop) (w : World) (a : Nat) (A : Nat → Addr) (x fb : Nat) (n : Int) (y : Why) (h' : H) (e : Ending) (w' : World) : Prop :=
  ∃ ev S', e = .returned (.tuple #[.int .i64 n, ev]) ∧ ErrIn A w.heap.size w' ev y ∧ PR S' w' a h' ∧ Kept (pgrowS S x fb) w w' ∧ (∀ b, S b → S' b) ∧ ∀ b, S' b → S b ∨ b = x ∨ b = fb ∨ w.heap.size ≤ b

theorem Kept.wide {S S' : Nat → Prop} {w w' : World} (k : Kept S w w') (hs : ∀ b, S b → S' b) : Kept S' w w' := ⟨k.os, k.tape, k.output, k.size, fun i hi hn => k.block i hi (fun q => hn (hs i q))⟩

set_option maxRecDepth 100000 in
set_option maxHeartbeats 4000000 in
theorem addH_any {S : Nat → Prop} {tag : Nat → Nat × Nat} {w : World} {a : Nat} {Y : PLay} {h : H} {N : Nat} {A : Nat → Addr} (hE : Errs N A w) (hS : ∀ b, S b → N ≤ b) (r : PRep S tag w a Y h) (M : List Bool) (hM : Tm.Marked h M) (ks : List Int) (nm : Int) (x fb : Nat) (hn : ONewAt w x fb ks nm) (hx : ¬ S x) (hfb : ¬ S fb) (hxf : 0 < ks.length → x ≠ fb) (hxl : x < w.heap.size) (hfl : fb < w.heap.size) (hsf : ∀ b i, b = x ∨ b = fb → w.frozen? ⟨b, i, none⟩ = false) (hl : ks.length ≤ 32) (hk : ∀ q, q < ks.length → ks.getD q 0 = 1 ∨ ks.getD q 0 = 2) (hnm : nm = -1 ∨ (0 ≤ nm ∧ nm ≤ 1000000000)) (hm : h.l.length + 1 < 4398046511104) :
    Calls Tryz.prog 61 #[.pointer (some ⟨a, 0, none⟩), .pointer (some ⟨x, 0, none⟩)] w (AddHPost S w a A x fb (h.makeBy M ks nm).1.1 (h.makeBy M ks nm).1.2 (h.makeBy M ks nm).2) := by
  have c1 := r.store
  have c2 := r.tables
  have hi := ifaceE
  have hal := r.lt _ r.sa.1
  have HV := vacant_any hE (r.tab 1 (by omega) (by omega)) r.lt (r.lt _ r.st.1) (by omega) (r.good.tabs 1)
  rw [show Tm.freeFrom (h.t 1) 0 = h.free 1 from rfl] at HV
  unfold VacPost at HV
  have HR := hide r
  have HE := hide hE
  by_cases hf : h.free 1 < 0
  · have e1 : h.makeBy M ks nm = ((0, ⟨7, 0⟩), h) := by unfold H.makeBy; rw [if_pos hf]
    rw [e1]
    rw [if_pos hf] at HV
    have HV := hide HV
    clear e1 r hE hn hsf
    go_enter Tryz.func61, Tryz.ntmps61
    go_wp2_with (first
      | (go_at_call 87
         refine HV.out.mono ?_
         rintro e w1 ⟨rfl, hb1⟩
         have HRf := hide (refusal_any (A := A) (HE.out.kept hb1) (InErr.bare w1 7 (by omega) (by omega)))
         have HB1 := hide hb1
         clear hb1)
      | (go_at_call 50; refine HRf.out.mono ?_; rintro e w' ⟨ev, rfl, he, hb⟩; have HEr := hide he; have HB := hide hb; clear he hb)
      | fail)
    go_ret2
    have hb2 : Below w.heap.size w _ := HB1.out.trans (HB.out.mono HB1.out.size)
    exact ⟨_, S, rfl, HEr.out.mono HB1.out.size, ⟨tag, Y, HR.out.below hb2 (Nat.le_refl _)⟩, Kept.of_below hb2, fun _ h => h, fun _ h => Or.inl h⟩
  · rw [if_neg hf] at HV
    have HV := hide HV
    have HAd : ∀ w1, Below w.heap.size w w1 → Calls Tryz.prog 95 #[.pointer (some ⟨Y.bs, 0, none⟩), .pointer (some ⟨x, 0, none⟩)] w1 (AddPost S tag w1 a Y h A ks nm x fb) := fun w1 hb =>
      add_any (A := A) (hE.kept hb) (r.below hb (Nat.le_refl _)) ks nm x fb (hn.same (hb.block _ hxl) (hb.block _ hfl)) hx hfb hxf (Nat.lt_of_lt_of_le hxl hb.size) (Nat.lt_of_lt_of_le hfl hb.size) (fun b i q => by rw [hb.frozen (show b < w.heap.size by rcases q with q | q <;> omega)]; exact hsf b i q) hl hk hnm hm
    by_cases hfit : h.room < Tm.roomOf h.l + (1 + (ks.length : Int))
    · have hro : h.roomy M ks = h.collTo M h.l.length := by unfold H.roomy; rw [if_pos hfit]
      obtain ⟨t1, t2, t3, t4⟩ := Tm.collTo_same h M h.l.length
      have hcl := Tm.collTo_len h M h.l.length
      unfold AddPost at HAd
      simp only [if_pos hfit, errV] at HAd
      have HAd := hide HAd
      have HCo : Hid (∀ w1, Below w.heap.size w w1 → Calls Tryz.prog 20 #[.pointer (some ⟨a, 0, none⟩)] w1 (PCollPost S w1 a Y h M)) := fun w1 hb => collectH_any (r.below hb (Nat.le_refl _)) M hM
      have HIs := fun w' => hide (is_same (A 7) w')
      have HA2 : ∀ w2 w3 S3 tag3, Below w.heap.size w w2 → PRep S3 tag3 w3 a Y (h.collTo M h.l.length) → Kept S w2 w3 → (∀ b, S3 b → S b ∨ w2.heap.size ≤ b) → Calls Tryz.prog 95 #[.pointer (some ⟨Y.bs, 0, none⟩), .pointer (some ⟨x, 0, none⟩)] w3 (AddPost S3 tag3 w3 a Y (h.collTo M h.l.length) A ks nm x fb) := fun w2 w3 S3 tag3 hb hp hkp hs3 => by
        have hz2 := hb.size
        have hz3 := hkp.size
        have ex : w3.heap[x]? = w.heap[x]? := (hkp.block x (by omega) hx).trans (hb.block x hxl)
        have ef : w3.heap[fb]? = w.heap[fb]? := (hkp.block fb (by omega) hfb).trans (hb.block fb hfl)
        refine add_any ((hE.kept hb).off hkp hS) hp ks nm x fb (hn.same ex ef) (fun q => ?_) (fun q => ?_) hxf (by omega) (by omega) (fun b i q => ?_) hl hk hnm (by rw [hcl]; exact hm)
        · rcases hs3 x q with q | q
          · exact hx q
          · omega
        · rcases hs3 fb q with q | q
          · exact hfb q
          · omega
        · rcases q with rfl | rfl
          · rw [frozen_of ex]; exact hsf _ i (Or.inl rfl)
          · rw [frozen_of ef]; exact hsf _ i (Or.inr rfl)
      obtain ⟨fr, efr⟩ : ∃ fr, h.free 1 = fr := ⟨_, rfl⟩
      have hfc : (h.collTo M h.l.length).free 1 = fr := by unfold H.free; rw [t1]; exact efr
      have HFr := hide hfc
      rw [efr] at HV
      have hf0 : 0 ≤ fr := by omega
      by_cases hfit2 : (h.collTo M h.l.length).room < Tm.roomOf (h.collTo M h.l.length).l + (1 + (ks.length : Int))
      · have e1 : h.makeBy M ks nm = ((0, ⟨8, 0⟩), h.collTo M h.l.length) := by unfold H.makeBy; rw [if_neg hf, hro, if_pos hfit2]
        rw [e1]
        unfold AddPost at HA2
        simp only [if_pos hfit2, errV] at HA2
        have HA2 := hide HA2
        clear e1 r hE hn hsf hro efr hf hfc t1 t2 t3 t4 hcl
        go_enter Tryz.func61, Tryz.ntmps61
        go_wp2_with (first
          | (go_at_call 87
             refine HV.out.mono ?_
             rintro e w1 ⟨rfl, hb1⟩
             have c1a : w1.cell? ⟨a, 1, none⟩ = some (.pointer (some ⟨Y.bs, 0, none⟩)) := by rw [hb1.cell hal]; exact c1
             have HB1 := hide hb1
             clear hb1)
          | (go_at_call 95
             have _ := M1
             refine (HA2.out w2 w3 S3 tag3 HB2.out HP3.out HK3.out HN3.out).mono ?_
             rintro e w4 ⟨rfl, hb4⟩
             have HRf := hide (refusal_any (A := A) ((HE3.out.kept hb4)) (InErr.bare w4 8 (by omega) (by omega)))
             have HB4 := hide hb4
             clear hb4)
          | (go_at_call 95
             refine (HAd.out w1 HB1.out).mono ?_
             rintro e w2 ⟨rfl, hb2⟩
             have hb2' : Below w.heap.size w w2 := HB1.out.trans (hb2.mono HB1.out.size)
             have g7' := (HE.out.kept hb2').g7
             have HB2 := hide hb2'
             have M1 : Hid True := trivial
             clear hb2 hb2')
          | (go_at_call 96; refine ((HIs _).out).mono ?_; rintro e w9 ⟨rfl, hw⟩; replace hw := hw.symm; subst hw)
          | (go_at_call 20
             refine (HCo.out w2 HB2.out).mono ?_
             rintro e w3 ⟨rfl, S3, tag3, hp3, hk3, hs3, hn3⟩
             have c1' := hp3.store
             have c2' := hp3.tables
             have HE3 := hide ((HE.out.kept HB2.out).off hk3 hS)
             have HP3 := hide hp3
             have HK3 := hide hk3
             have HS3 := hide hs3
             have HN3 := hide hn3
             clear hp3 hk3 hs3 hn3)
          | (go_at_call 50; refine HRf.out.mono ?_; rintro e w' ⟨ev, rfl, he, hb⟩; have HEr := hide he; have HB := hide hb; clear he hb)
          | fail)
        go_ret2
        have hk9 : Kept S w w3 := (Kept.of_below HB2.out).trans HK3.out
        have hb9 := HB4.out.trans (HB.out.mono HB4.out.size)
        exact ⟨_, S3, rfl, HEr.out.mono (Nat.le_trans hk9.size HB4.out.size), ⟨tag3, Y, HP3.out.below hb9 (Nat.le_refl _)⟩, (hk9.trans (Kept.of_below hb9)).wide (fun _ h => Or.inl h), HS3.out, fun b hb => by
          rcases HN3.out b hb with q | q
          · exact Or.inl q
          · exact Or.inr (Or.inr (Or.inr (Nat.le_trans HB2.out.size q)))⟩
      · have e1 : h.makeBy M ks nm = (((((h.collTo M h.l.length).grown ks nm).take 1 ((h.l.length : Int) + 1)).1, Tm.fine), (((h.collTo M h.l.length).grown ks nm).take 1 ((h.l.length : Int) + 1)).2) := by
          unfold H.makeBy; rw [if_neg hf, hro, if_neg hfit2]
        rw [e1]
        unfold AddPost at HA2
        simp only [if_neg hfit2] at HA2
        have HA2 := hide HA2
        have HTk : Hid (∀ S4 tag4 w4 Y4, PRep S4 tag4 w4 a Y4 ((h.collTo M h.l.length).grown ks nm) → ∃ i : Nat, fr = (i : Int) ∧ Calls Tryz.prog 88 #[.pointer (some ⟨Y4.bt, 0, none⟩), .int .i64 1, .int .i64 (i : Int), .int .i64 ((h.l.length : Int) + 1)] w4 fun e w' => e = .returned (.int .i64 (((h.collTo M h.l.length).grown ks nm).take 1 ((h.l.length : Int) + 1)).1) ∧ PR S4 w' a (((h.collTo M h.l.length).grown ks nm).take 1 ((h.l.length : Int) + 1)).2 ∧ Kept S4 w4 w') := fun S4 tag4 w4 Y4 hp => by
          obtain ⟨i, q1, q2⟩ := slot_take hp (by rw [hfc]; exact hf0)
          rw [hcl] at q2
          exact ⟨i, by rw [← hfc]; exact q1, q2⟩
        have HCl := hide hcl
        clear e1 r hE hn hsf hro efr hf hfc t1 t2 t3 t4 hcl
        simp only
        generalize hgT : ((h.collTo M h.l.length).grown ks nm).take 1 ((h.l.length : Int) + 1) = tk at *
        clear hgT
        go_enter Tryz.func61, Tryz.ntmps61
        go_wp2_with (first
          | (go_at_call 87
             refine HV.out.mono ?_
             rintro e w1 ⟨rfl, hb1⟩
             have c1a : w1.cell? ⟨a, 1, none⟩ = some (.pointer (some ⟨Y.bs, 0, none⟩)) := by rw [hb1.cell hal]; exact c1
             have HB1 := hide hb1
             clear hb1)
          | (go_at_call 95
             have _ := M1
             refine (HA2.out w2 w3 S3 tag3 HB2.out HP3.out HK3.out HN3.out).mono ?_
             rintro e w4 ⟨rfl, hp4, hk4⟩
             rw [HCl.out] at hp4 ⊢
             have c2b : w4.cell? ⟨a, 2, none⟩ = some (.pointer (some ⟨Y.bt, 0, none⟩)) := hp4.tables
             obtain ⟨i, ei, ht⟩ := HTk.out _ _ _ _ hp4
             have HT4 := hide ht
             have HK4 := hide hk4
             subst ei
             clear hp4 hk4 ht)
          | (go_at_call 95
             refine (HAd.out w1 HB1.out).mono ?_
             rintro e w2 ⟨rfl, hb2⟩
             have hb2' : Below w.heap.size w w2 := HB1.out.trans (hb2.mono HB1.out.size)
             have g7' := (HE.out.kept hb2').g7
             have HB2 := hide hb2'
             have M1 : Hid True := trivial
             clear hb2 hb2')
          | (go_at_call 96; refine ((HIs _).out).mono ?_; rintro e w9 ⟨rfl, hw⟩; replace hw := hw.symm; subst hw)
          | (go_at_call 20
             refine (HCo.out w2 HB2.out).mono ?_
             rintro e w3 ⟨rfl, S3, tag3, hp3, hk3, hs3, hn3⟩
             have c1' := hp3.store
             have c2' := hp3.tables
             have HP3 := hide hp3
             have HK3 := hide hk3
             have HS3 := hide hs3
             have HN3 := hide hn3
             clear hp3 hk3 hs3 hn3)
          | (go_at_call 88; refine HT4.out.mono ?_; rintro e w' ⟨rfl, hp5, hk5⟩; have HP5 := hide hp5; have HK5 := hide hk5; clear hp5 hk5)
          | fail)
        go_ret2
        have hk9 : Kept S w w3 := (Kept.of_below HB2.out).trans HK3.out
        have hz9 := hk9.size
        have h3 : ∀ b, b < w.heap.size → S3 b → S b := fun b hb q => (HN3.out b q).resolve_right (fun q => by have := HB2.out.size; omega)
        refine ⟨_, _, rfl, ErrIn.nil _ _ _ _ rfl, HP5.out, ?_, fun b hb => Or.inl (HS3.out b hb), fun b hb => ?_⟩
        · have k4 := ofStore HK4.out HP3.out
          refine ⟨HK5.out.os.trans (k4.os.trans hk9.os), HK5.out.tape.trans (k4.tape.trans hk9.tape), HK5.out.output.trans (k4.output.trans hk9.output), Nat.le_trans hz9 (Nat.le_trans k4.size HK5.out.size), fun b hb hnb => ?_⟩
          rw [HK5.out.block b (by have := k4.size; omega) (by
            rintro (q | q | q)
            · exact hnb (Or.inl (h3 b hb q))
            · exact hnb (Or.inr (Or.inl q))
            · exact hnb (Or.inr (Or.inr q))), k4.block b (by omega) (fun q => hnb (Or.inl (h3 b hb q))), hk9.block b hb (fun q => hnb (Or.inl q))]
        · rcases hb with hb | hb | hb
          · rcases HN3.out b hb with q | q
            · exact Or.inl q
            · exact Or.inr (Or.inr (Or.inr (Nat.le_trans HB2.out.size q)))
          · exact Or.inr (Or.inl hb)
          · exact Or.inr (Or.inr (Or.inl hb))
    · have hro : h.roomy M ks = h := by unfold H.roomy; rw [if_neg hfit]
      have e1 : h.makeBy M ks nm = ((((h.grown ks nm).take 1 ((h.l.length : Int) + 1)).1, Tm.fine), ((h.grown ks nm).take 1 ((h.l.length : Int) + 1)).2) := by
        unfold H.makeBy; rw [if_neg hf, hro, if_neg hfit]
      rw [e1]
      unfold AddPost at HAd
      simp only [if_neg hfit] at HAd
      have HAd := hide HAd
      obtain ⟨fr, efr⟩ : ∃ fr, h.free 1 = fr := ⟨_, rfl⟩
      rw [efr] at HV
      have hf0 : 0 ≤ fr := by omega
      have HTk : Hid (∀ S4 tag4 w4 Y4, PRep S4 tag4 w4 a Y4 (h.grown ks nm) → ∃ i : Nat, fr = (i : Int) ∧ Calls Tryz.prog 88 #[.pointer (some ⟨Y4.bt, 0, none⟩), .int .i64 1, .int .i64 (i : Int), .int .i64 ((h.l.length : Int) + 1)] w4 fun e w' => e = .returned (.int .i64 ((h.grown ks nm).take 1 ((h.l.length : Int) + 1)).1) ∧ PR S4 w' a ((h.grown ks nm).take 1 ((h.l.length : Int) + 1)).2 ∧ Kept S4 w4 w') := fun S4 tag4 w4 Y4 hp => by
        obtain ⟨i, q1, q2⟩ := slot_take hp (by rw [efr]; exact hf0)
        exact ⟨i, by rw [← efr]; exact q1, q2⟩
      simp only
      clear e1 r hE hn hsf hro efr hf
      generalize hgT : (h.grown ks nm).take 1 ((h.l.length : Int) + 1) = tk at *
      clear hgT
      go_enter Tryz.func61, Tryz.ntmps61
      go_wp2_with (first
        | (go_at_call 87
           refine HV.out.mono ?_
           rintro e w1 ⟨rfl, hb1⟩
           have c1a : w1.cell? ⟨a, 1, none⟩ = some (.pointer (some ⟨Y.bs, 0, none⟩)) := by rw [hb1.cell hal]; exact c1
           have HB1 := hide hb1
           clear hb1)
        | (go_at_call 95
           refine (HAd.out w1 HB1.out).mono ?_
           rintro e w2 ⟨rfl, hp, hkp⟩
           have hE2 : Errs N A w2 := (HE.out.kept HB1.out).off (ofStore hkp HR.out) hS
           have g7' := hE2.g7
           have c2' : w2.cell? ⟨a, 2, none⟩ = some (.pointer (some ⟨Y.bt, 0, none⟩)) := hp.tables
           have HIs := hide (is_nilE (A 7) w2)
           obtain ⟨i, ei, ht⟩ := HTk.out _ _ _ _ hp
           have HT4 := hide ht
           have HKp := hide hkp
           subst ei
           clear hp hkp hE2 ht)
        | (go_at_call 96; refine HIs.out.mono ?_; rintro e w9 ⟨rfl, hw⟩; replace hw := hw.symm; subst hw)
        | (go_at_call 88; refine HT4.out.mono ?_; rintro e w' ⟨rfl, hp5, hk5⟩; have HP5 := hide hp5; have HK5 := hide hk5; clear hp5 hk5)
        | fail)
      go_ret2
      refine ⟨_, _, rfl, ErrIn.nil _ _ _ _ rfl, HP5.out, ?_, fun b hb => Or.inl hb, fun b hb => ?_⟩
      · exact ((Kept.of_below HB1.out).trans ((ofStore HKp.out HR.out).wide (fun b hb => Or.inl hb))).trans HK5.out
      · rcases hb with hb | hb | hb
        · exact Or.inl hb
        · exact Or.inr (Or.inl hb)
        · exact Or.inr (Or.inr (Or.inl hb))
end Go.Proofs.YtcnmfljpmpgnjaaGreatDoor
