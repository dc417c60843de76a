import Derived.Test.YtcnmfljpmpgnjaaGreatDoorFPinE
import Derived.Test.YtcnmfljpmpgnjaaGreatDoorJ37
import Derived.Test.YtcnmfljpmpgnjaaGreatDoorCards
import Derived.Test.YtcnmfljpmpgnjaaGreatDoorTie
import Derived.SevenTiedAt
namespace Go.Proofs.YtcnmfljpmpgnjaaGreatDoor
open Go.RowKit
open Tm (H Ob Sl Why GD Gh LayD)

theorem Kept.into {S S' : Nat → Prop} {w w' : World} (h : Kept S w w') (hs : ∀ b, S b → S' b) : Kept S' w w' := ⟨h.os, h.tape, h.output, h.size, fun k hk hn => h.block k hk (fun e => hn (hs k e))⟩
theorem made_intsK (w : World) (n : Nat) : (∀ i, i < n → (w.alloc (.cells (madeCells #[.int .i64 0] n) 3)).cell? ⟨w.heap.size, i, none⟩ = some (.int .i64 0)) ∧ ∀ i, (w.alloc (.cells (madeCells #[.int .i64 0] n) 3)).frozen? ⟨w.heap.size, i, none⟩ = false := by
  refine ⟨fun i hi => ?_, fun i => World.frozen?_alloc_new w _ _ i⟩
  rw [World.cell?_alloc_new]
  simp [madeCells, hi, Nat.mod_one]

section
variable {R : (Nat → Prop) → World → Nat → H → Prop} {N : Nat} {A : Nat → Addr}

/-- While pins are set. -/
structure PMem (w : World) (n pb fb : Nat) (pn : Nat → Int) : Prop where
  pins : ∀ j, j < n → w.cell? ⟨pb, j, none⟩ = some (.int .i64 (pn j))
  from' : ∀ j, j < n → w.cell? ⟨fb, j, none⟩ = some (.bool (decide (0 < pn j)))
  psoft : ∀ j, w.frozen? ⟨pb, j, none⟩ = false
  fsoft : ∀ j, w.frozen? ⟨fb, j, none⟩ = false
theorem PMem.at {w w' : World} {n pb fb : Nat} {pn : Nat → Int} (m : PMem w n pb fb pn) (h1 : w'.heap[pb]? = w.heap[pb]?) (h2 : w'.heap[fb]? = w.heap[fb]?) : PMem w' n pb fb pn :=
  ⟨fun j hj => by rw [cell_of h1]; exact m.pins j hj, fun j hj => by rw [cell_of h2]; exact m.from' j hj, fun j => by rw [frozen_of h1]; exact m.psoft j, fun j => by rw [frozen_of h2]; exact m.fsoft j⟩
theorem PMem.set {w : World} {n pb fb : Nat} {pn : Nat → Int} (m : PMem w n pb fb pn) (hne : pb ≠ fb) (k : Nat) (hk : k < n) (h0 : 0 ≤ pn k) : PMem ((w.setCell ⟨pb, k, none⟩ (.int .i64 (pn k + 1))).setCell ⟨fb, k, none⟩ (.bool true)) n pb fb (Tm.up pn k (pn k + 1)) := by
  have o1 : ∀ {a b : Nat}, (⟨fb, a, none⟩ : Addr) ≠ ⟨pb, b, none⟩ := fun e => hne (congrArg Addr.block e).symm
  have o2 : ∀ {a b : Nat}, (⟨pb, a, none⟩ : Addr) ≠ ⟨fb, b, none⟩ := fun e => hne (congrArg Addr.block e)
  refine ⟨fun j hj => ?_, fun j hj => ?_, fun j => by rw [World.frozen?_setCell, World.frozen?_setCell]; exact m.psoft j, fun j => by rw [World.frozen?_setCell, World.frozen?_setCell]; exact m.fsoft j⟩
  · rw [World.cell?_setCell_other _ _ _ _ o1]
    by_cases e : j = k
    · subst e; rw [Tm.up_at]; exact World.cell?_setCell_same _ _ _ (m.pins j hj)
    · rw [Tm.up_ne _ _ _ _ e, World.cell?_setCell_other _ _ _ _ (fun q => e (congrArg Addr.off q).symm)]; exact m.pins j hj
  · by_cases e : j = k
    · subst e
      rw [Tm.up_at, World.cell?_setCell_same _ _ (.bool true) (by rw [World.cell?_setCell_other _ _ _ _ o2]; exact m.from' j hj)]
      rw [decide_eq_true (by omega)]
    · rw [Tm.up_ne _ _ _ _ e, World.cell?_setCell_other _ _ _ _ (fun q => e (congrArg Addr.off q).symm), World.cell?_setCell_other _ _ _ _ o2]; exact m.from' j hj

/-- While they are taken back: of the first i objects all, of the next k. -/
def QIn (R : (Nat → Prop) → World → Nat → H → Prop) (N : Nat) (A : Nat → Addr) (W : World) (X : Nat → Prop) (gb p : Nat) (r : Nat → RowG) (d : GD) (w7 : World) (i : Nat) (k : Int) (b : Nat) (w' : World) : Prop :=
  ∃ (h' : H) (ge fr pn : Nat → Int), Gst R N A W X gb d.n r w' p h' ∧ Gh h' { d with ge := ge, fr := fr, pn := pn } ∧ (∀ j, pn j = if j < i then 0 else if j = i then d.pn j - k else d.pn j) ∧ (∀ s, d.ge s ≤ ge s ∧ ge s ≤ d.ge s + (b : Int)) ∧ ∀ b, X b → w'.heap[b]? = w7.heap[b]?

def PIn (R : (Nat → Prop) → World → Nat → H → Prop) (N : Nat) (A : Nat → Addr) (W : World) (gb p : Nat) (r : Nat → RowG) (d : GD) (pb fb : Nat) (w' : World) : Prop :=
  ∃ (h' : H) (pn : Nat → Int), Gst R N A W (fun b => b = pb ∨ b = fb) gb d.n r w' p h' ∧ Gh h' { d with pn := pn } ∧ (∀ j, 0 ≤ pn j ∧ pn j ≤ 3) ∧ PMem w' d.n pb fb pn

set_option maxRecDepth 100000 in
set_option maxHeartbeats 8000000 in
theorem kpinned_any (KA : ProgAll R N A) (KN : NewOK R N A) (w : World) (hE : Errs N A w) (xn : Int) (hx1 : -9223372036854775808 ≤ xn) (hx2 : xn ≤ 9223372036854775807) (pv pr : Option Addr) (nv cv nr cr : Nat) (V : Nat → Int) (Rf : Nat → Nat → Int) (gi : GIn w pv nv V pr nr Rf) (pw : Option Addr) (cw : Nat) (ns : List Int)
    (hns : 0 < ns.length → ∃ g o, pw = some ⟨g, o, none⟩ ∧ g < w.heap.size ∧ ∀ i, i < ns.length → w.cell? ⟨g, o + i, none⟩ = some (.int .i64 (ns.getD i 0)))
    (hnr : ∀ i, i < ns.length → -9223372036854775808 ≤ ns.getD i 0 ∧ ns.getD i 0 ≤ 9223372036854775807) :
    Calls Tryz.prog 10 #[.agg #[.int .i64 xn, .slice pv nv cv, .slice pr nr cr], .slice pw ns.length cw] w fun e w' => e = .returned (.bool true) ∧ Below w.heap.size w w' := by
  have HKA := hide KA
  have HK := hide KA.ok
  have hb0 : Below w.heap.size w (w.alloc (.cells #[.int .i64 xn, .slice pv nv cv, .slice pr nr cr] 28)) := Below.alloc0 _ _
  have HLay := hide (lay_g KA.ok KN (w.alloc (.cells #[.int .i64 xn, .slice pv nv cv, .slice pr nr cr] 28)) (hE.below hb0 hE.le) xn hx1 hx2 pv pr nv cv nr cr V Rf (gi.below hb0))
  have HB0 := hide hb0
  have HNs := hide hns
  have HNr := hide hnr
  clear KA KN hE gi hb0 hns hnr
  go_enter Tryz.func10, Tryz.ntmps10
  go_wp2_with fail
  refine HLay.out.mono ?_
  rintro e w1 ⟨gb, p, r, h, d, W, rfl, hWb, st, g, gr, l, hn1, hdb, hdf⟩
  have hn10 := g.few
  have HBW : Hid (Below w.heap.size w W) := HB0.out.trans (hWb.mono HB0.out.size)
  have cN := st.gm.num
  have cN' : ∀ o, (w1.alloc o).cell? ⟨gb, 1, none⟩ = some (.int .i64 (d.n : Int)) := fun o => by rw [(Below.alloc0 w1 o).cell (by show gb < _; exact st.gm.lt)]; exact cN
  have hmk1 := make_ints w1 d.n (by omega)
  have hmk2 := make_boolsK (w1.alloc (.cells (madeCells #[.int .i64 0] d.n) 3)) d.n (by omega)
  have HP0 : Hid (PIn R N A W gb p r d w1.heap.size (w1.heap.size + 1) ((w1.alloc (.cells (madeCells #[.int .i64 0] d.n) 3)).alloc (.cells (madeCells #[.bool false] d.n) 4))) := by
    have hb2 : Below w1.heap.size w1 ((w1.alloc (.cells (madeCells #[.int .i64 0] d.n) 3)).alloc (.cells (madeCells #[.bool false] d.n) 4)) := (Below.alloc0 _ _).trans ((Below.alloc0 _ _).mono (by simp))
    refine ⟨h, fun _ => 0, st.more HK.out.ok hb2 _ (fun b hb => Or.inr (by omega)) (fun b hb => by simp; omega), ⟨g.few, g.bl, g.len, fun i hi => (g.at' i hi).trans (Tm.gob_up _ _ i rfl rfl rfl (l.pn i hi) rfl), g.old, g.t1, g.t2, g.t3, g.loc, g.glo, g.wk, g.wk0, g.room, g.cls, g.frames, g.rng, g.nwn⟩, fun _ => by show (0 : Int) ≤ 0 ∧ (0 : Int) ≤ 3; decide, ?_⟩
    have m1 := made_intsK w1 d.n
    have m2 := made_bools (w1.alloc (.cells (madeCells #[.int .i64 0] d.n) 3)) d.n
    have hblk : ((w1.alloc (.cells (madeCells #[.int .i64 0] d.n) 3)).alloc (.cells (madeCells #[.bool false] d.n) 4)).heap[w1.heap.size]? = (w1.alloc (.cells (madeCells #[.int .i64 0] d.n) 3)).heap[w1.heap.size]? := (Below.alloc0 _ _).block _ (by simp)
    have hsz : (w1.alloc (.cells (madeCells #[.int .i64 0] d.n) 3)).heap.size = w1.heap.size + 1 := by simp
    rw [hsz] at m2
    refine ⟨fun j hj => by rw [cell_of hblk]; exact m1.1 j hj, fun j hj => by rw [m2.1 j hj, rep_getD]; simp, fun j => by rw [frozen_of hblk]; exact m1.2 j, fun j => m2.2 j⟩
  have HLg : Hid (∀ i, i < d.n → Tm.hand 1 i (Tm.lg i) = Tm.hand 1 i (d.ge i) ∧ 1 ≤ d.ge i ∧ d.ge i ≤ 50 ∧ d.lo i = ((d.b + i + 1 : Nat) : Int)) := fun i hi => by
    have q1 := l.ge1 i hi
    have q2 := l.lo1 i hi
    have q3 := Tm.lg_bd i
    rw [Nat.zero_add] at q1 q2
    rw [q1, q2]
    exact ⟨rfl, by omega, by omega, rfl⟩
  have HGr := hide gr
  have HL := hide l
  have HDb := hide hdb
  clear hWb st g gr l hdb hdf HLay
  have hsz2 : (w1.alloc (.cells (madeCells #[.int .i64 0] d.n) 3)).heap.size = w1.heap.size + 1 := by simp
  rw [hsz2] at hmk2
  go_wp2_with fail
  have hne : w1.heap.size ≠ w1.heap.size + 1 := by omega
  generalize w1.heap.size + 1 = fb at *
  generalize w1.heap.size = pb at *
  go_loopw [9, 10, 11, 12] (fun iv _ _ _ w' => ∃ i : Nat, i ≤ 40 ∧ iv = .int .i64 i ∧ PIn R N A W gb p r d pb fb w') (fun iv _ _ _ _ => 40 - (intOf iv).toNat)
  case atStart => exact ⟨0, by omega, rfl, HP0.out⟩
  case round =>
    clear HP0 hmk1 hmk2 cN cN' hsz2
    obtain ⟨i, hi, rfl, h1, pn, st, g, hpn, pm⟩ := hrel
    have cN := st.gm.num
    have HSt := hide st
    have HG := hide g
    have HPn := hide hpn
    have HPm := hide pm
    by_cases hgo : i < ns.length ∧ i < 40
    · have b1 : (i : Int) < (ns.length : Int) := by omega
      have b2 : (i : Int) < 40 := by omega
      obtain ⟨gw, ow, rfl, hgw, hcw⟩ := HNs.out (by omega)
      have ci : wr.cell? ⟨gw, ow + i, none⟩ = some (.int .i64 (ns.getD i 0)) := by rw [st.hp.below.cell (by show gw < _; exact Nat.lt_of_lt_of_le hgw HBW.out.size), HBW.out.cell hgw]; exact hcw i hgo.1
      have hr := HNr.out i hgo.1
      have HPk := hide (fun w' => kpick_is (ns.getD i 0) d.n w' (by omega) (by omega) hr.1 hr.2)
      have hk := pickN_lt (ns.getD i 0) d.n (by omega)
      generalize ns.getD i 0 = nv' at *
      generalize pickN nv' d.n = k at *
      clear hcw hr
      clear st g hpn pm
      go_upto_region 9 with fail
      go_cut [10] (fun v wx => v = .int .i64 (k : Int) ∧ Gst R N A W (fun b => b = pb ∨ b = fb) gb d.n r wx p h1 ∧ PMem wx d.n pb fb pn)
      case first =>
        go_quiet ((go_at_call 16; exact Calls.quiet_of_same (HPk.out _)))
        all_goals go_wp2_with fail
        all_goals go_meet
        all_goals exact ⟨rfl, HSt.out.dn HK.out.ok (below_dN (Below.refl _ _) _), HPm.out.at rfl rfl⟩
      case rest =>
        obtain ⟨rfl, st2, pm2⟩ := hcut
        have xD : Gst R N A W (fun b => b = pb ∨ b = fb) gb d.n r wc.drew p h1 := st2.dn HK.out.ok ⟨rfl, rfl, rfl, Nat.le_refl _, fun _ _ => rfl⟩
        have cH := st2.gm.h
        obtain ⟨cL, hcl⟩ := st2.gm.read 0 (by omega) (HGr.out.n0 0 (by omega)) (by omega)
        have cL' : wc.cell? ⟨gb, 2, none⟩ = some (.slice (some ⟨(r 0).b, 0, none⟩) d.n (r 0).c) := cL
        have ck := hcl k (by show k < d.n * 1; omega)
        rw [HGr.out.f0 k hk, (HLg.out k hk).1] at ck
        have hob : h1.object (Tm.hand 1 k (d.ge k)) = (((d.b + k + 1 : Nat) : Int), Tm.fine) := HG.out.objL k (by omega) ⟨(HLg.out k hk).2.1, (HLg.out k hk).2.2.1⟩ k hk (HLg.out k hk).2.2.2 (HL.out.go k hk)
        have hzb : Tm.hand 1 k (d.ge k) < 9223372036854775808 := by have := HLg.out k hk; unfold Tm.hand; omega
        have hpin := xD.hp.pin HKA.out xD.size (Tm.hand 1 k (d.ge k)) hzb
        have hpp := HG.out.pin k hk hob
        simp only at hpp
        have HOw : Hid (ownG gb r gb ∧ ownG gb r (r 0).b) := ⟨Or.inl rfl, Or.inr ⟨0, by omega, by have := (st2.gm.row 0 (by omega)).cap; have := HGr.out.n0 0 (by omega); omega, rfl⟩⟩
        have HXD := hide xD
        have HPm2 := hide pm2
        have hpk := HPn.out k
        clear st2 pm2 cL hcl xD hob HSt HPm ci cN
        generalize Tm.hand 1 k (d.ge k) = z at *
        generalize (r 0).b = lb at *
        generalize (r 0).c = lc at *
        have cHd : wc.drew.cell? ⟨gb, 0, none⟩ = some (.pointer (some ⟨p, 0, none⟩)) := cH
        have cLd : wc.drew.cell? ⟨gb, 2, none⟩ = some (.slice (some ⟨lb, 0, none⟩) d.n lc) := cL'
        have ckd : wc.drew.cell? ⟨lb, k, none⟩ = some (.int .i64 z) := ck
        by_cases hlt3 : pn k < 3
        · obtain ⟨h2, e2, g2⟩ := hpp.2 hlt3
          rw [e2] at hpin
          have HPin := hide hpin
          have HG2 := hide g2
          clear hpp e2 g2 hpin
          go_upto_region 10 with fail
          go_cut [11] (fun ev wx => ev = .nilIface ∧ Gst R N A W (fun b => b = pb ∨ b = fb) gb d.n r wx p h2 ∧ PMem wx d.n pb fb pn)
          case first =>
            go_region_held3 (fun w' => w'.cell? ⟨gb, 0, none⟩ = some (.pointer (some ⟨p, 0, none⟩)) ∧ w'.cell? ⟨gb, 2, none⟩ = some (.slice (some ⟨lb, 0, none⟩) d.n lc) ∧ w'.cell? ⟨lb, k, none⟩ = some (.int .i64 z)) (first | (with_reducible exact ⟨by assumption, by assumption, by assumption⟩) | go_keep) (first
              | (go_at_call 34
                 refine HPin.out.mono ?_
                 rintro e w2 ⟨ev, rfl, he, x2, hz2, hk2⟩
                 obtain rfl := he.nil rfl
                 have HFin := hide (And.intro (HXD.out.call x2 hz2 hk2) (HPm2.out.at (hk2 pb (Or.inr (Or.inl rfl))) (hk2 fb (Or.inr (Or.inr rfl)))))
                 have e1 : w2.cell? ⟨gb, 0, none⟩ = some (.pointer (some ⟨p, 0, none⟩)) := by rw [cell_of (hk2 _ (Or.inl HOw.out.1))]; exact cH
                 have e2 : w2.cell? ⟨gb, 2, none⟩ = some (.slice (some ⟨lb, 0, none⟩) d.n lc) := by rw [cell_of (hk2 _ (Or.inl HOw.out.1))]; exact cL'
                 have e3 : w2.cell? ⟨lb, k, none⟩ = some (.int .i64 z) := by rw [cell_of (hk2 _ (Or.inl HOw.out.2))]; exact ck
                 clear he x2 hz2 hk2))
            all_goals go_wp2_with fail
            all_goals go_meet
            all_goals exact ⟨rfl, HFin.out⟩
          case rest =>
            obtain ⟨rfl, st3, pm3⟩ := hcut
            have HW := hide (why_any A wc .nilIface Tm.fine (Or.inl ⟨rfl, rfl⟩))
            have ewy : whyE A Tm.fine = .nilIface := rfl
            rw [ewy] at HW
            have cpk := pm3.pins k hk
            have cfk := pm3.from' k hk
            have fpk := pm3.psoft k
            have ffk := pm3.fsoft k
            have bk : (k : Int) < (d.n : Int) := by omega
            have hbd : decide (pn k < 3) = true := by simp [hlt3]
            have HNew : Hid (∀ m, PIn R N A W gb p r d pb fb (((wc.drewN m).setCell ⟨pb, k, none⟩ (.int .i64 (pn k + 1))).setCell ⟨fb, k, none⟩ (.bool true))) := fun m => by
              have st3 := st3.dn HK.out.ok (below_dN (Below.refl _ _) m)
              have pm3 : PMem (wc.drewN m) d.n pb fb pn := pm3.at rfl rfl
              refine ⟨h2, Tm.up pn k (pn k + 1), (st3.own HK.out.ok (Kept.setCell (S := fun b => b = pb ∨ b = fb) (Kept.setCell (S := fun b => b = pb ∨ b = fb) (Kept.refl _ _) (p := ⟨pb, k, none⟩) (Or.inl (Or.inl rfl)) _) (p := ⟨fb, k, none⟩) (Or.inl (Or.inr rfl)) _)), HG2.out, fun j => ?_, pm3.set hne k hk hpk.1⟩
              by_cases q : j = k
              · subst q; rw [Tm.up_at]; omega
              · rw [Tm.up_ne _ _ _ _ q]; exact HPn.out j
            clear st3 pm3 HPin HXD cH cL' ck cHd cLd ckd ewy HPm2
            generalize pn k = pk at *
            go_wp2_with fail
            refine HW.out.mono ?_
            rintro e w9 ⟨rfl, h9⟩
            rw [h9]
            clear h9
            go_wp2_with (go_quiet (fail))
            exact ⟨⟨i + 1, by omega, by go_num, HNew.out _⟩, by simp [intOf]; omega⟩
        · have e2 := hpp.1 (by omega)
          rw [e2] at hpin
          have HPin := hide hpin
          clear hpp e2 hpin
          go_upto_region 10 with fail
          go_cut [11] (fun ev wx => ErrIs A wx ev ⟨10, 0⟩ ∧ Gst R N A W (fun b => b = pb ∨ b = fb) gb d.n r wx p h1 ∧ PMem wx d.n pb fb pn)
          case first =>
            go_region_held3 (fun w' => w'.cell? ⟨gb, 0, none⟩ = some (.pointer (some ⟨p, 0, none⟩)) ∧ w'.cell? ⟨gb, 2, none⟩ = some (.slice (some ⟨lb, 0, none⟩) d.n lc) ∧ w'.cell? ⟨lb, k, none⟩ = some (.int .i64 z)) (first | (with_reducible exact ⟨by assumption, by assumption, by assumption⟩) | go_keep) (first
              | (go_at_call 34
                 refine HPin.out.mono ?_
                 rintro e w2 ⟨ev, rfl, he, x2, hz2, hk2⟩
                 have HFin := hide (And.intro he (And.intro (HXD.out.call x2 hz2 hk2) (HPm2.out.at (hk2 pb (Or.inr (Or.inl rfl))) (hk2 fb (Or.inr (Or.inr rfl))))))
                 have e1 : w2.cell? ⟨gb, 0, none⟩ = some (.pointer (some ⟨p, 0, none⟩)) := by rw [cell_of (hk2 _ (Or.inl HOw.out.1))]; exact cH
                 have e2 : w2.cell? ⟨gb, 2, none⟩ = some (.slice (some ⟨lb, 0, none⟩) d.n lc) := by rw [cell_of (hk2 _ (Or.inl HOw.out.1))]; exact cL'
                 have e3 : w2.cell? ⟨lb, k, none⟩ = some (.int .i64 z) := by rw [cell_of (hk2 _ (Or.inl HOw.out.2))]; exact ck
                 clear he x2 hz2 hk2))
            all_goals go_wp2_with fail
            all_goals go_meet
            all_goals exact HFin.out
          case rest =>
            obtain ⟨he, st3, pm3⟩ := hcut
            have HW := hide (why_any A wc _ _ he)
            have ewy : whyE A ⟨10, 0⟩ = .iface 261 (.pointer (some (A 9))) := rfl
            rw [ewy] at HW
            obtain ⟨fl, rfl⟩ := he.some (by simp)
            have cpk := pm3.pins k hk
            have fpk := pm3.psoft k
            have bk : (k : Int) < (d.n : Int) := by omega
            have hp3 : pn k = 3 := by omega
            rw [hp3] at cpk
            have ge9 := st3.hp.errs.g9
            have hq9 := fun w' => neq_same w' (A 9)
            have HNew : Hid (∀ m, PIn R N A W gb p r d pb fb (wc.drewN m)) := fun m => ⟨h1, pn, st3.dn HK.out.ok (below_dN (Below.refl _ _) m), HG.out, HPn.out, pm3.at rfl rfl⟩
            clear st3 pm3 HPin HXD cH cL' ck cHd cLd ckd ewy HPm2 he hp3 hlt3 hpk
            generalize A 9 = a9 at *
            go_wp2_with fail
            refine HW.out.mono ?_
            rintro e w9 ⟨rfl, h9⟩
            rw [h9]
            clear h9
            go_wp2_with (go_quiet (fail))
            exact ⟨⟨i + 1, by omega, by go_num, HNew.out _⟩, by simp [intOf]; omega⟩
    · have hif : ¬ (i : Int) < (ns.length : Int) ∨ ((i : Int) < (ns.length : Int) ∧ ¬ (i : Int) < 40) := by omega
      obtain ⟨fs0, efs⟩ : ∃ fs0, (List.range d.n).map (fun j => decide (0 < pn j)) = fs0 := ⟨_, rfl⟩
      have hfg : ∀ j, j < d.n → fs0.getD j false = decide (0 < pn j) := fun j hj => by rw [← efs, List.getD_eq_getElem?_getD]; simp [hj]
      have hfl : fs0.length = d.n := by rw [← efs]; simp
      have HRe := hide (reached_g st.gm d.rs (HGr.out.n0 3 (by omega)) HGr.out.f3 g.rng (by omega) fb d.n fs0 hfl (fun j hj => by rw [pm.from' j hj, hfg j hj]) pm.fsoft (st.off _ (Or.inr rfl)) (fun j => 0 < pn j) (fun j hj => by rw [hfg j hj]; simp))
      have HPi : Hid (∀ j, j < d.n → wr.cell? ⟨pb, j, none⟩ = some (.int .i64 (pn j))) := pm.pins
      clear st g hpn pm efs hfg hfl HPm
      rcases hif with b1 | ⟨b1, b2⟩
      all_goals
        go_wp2_with fail
        refine HRe.out.mono ?_
        rintro e w3 ⟨fs, hfl, rfl, hFB, hcl⟩
        have stC := HSt.out.own HK.out.ok (hFB.kept.into (fun b hb => Or.inr hb))
        have HFr := hide (freed_g (d := { d with pn := pn }) HK.out stC HG.out ⟨HGr.out.n0, HGr.out.f0, HGr.out.f1, HGr.out.f2, HGr.out.f3⟩ (fun i hi => (HLg.out i hi).1) (fun i hi => ⟨(HLg.out i hi).2.1, (HLg.out i hi).2.2.1⟩) (fun i hi => by have := (HLg.out i hi).2.2.2; show d.lo i ≠ 0; omega) (-1))
        have HP3 : Hid ((∀ j, j < d.n → w3.cell? ⟨pb, j, none⟩ = some (.int .i64 (pn j))) ∧ ∀ j, j < d.n → w3.cell? ⟨fb, j, none⟩ = some (.bool (fs.getD j false))) := ⟨fun j hj => by rw [cell_of (hFB.kept.block pb (HSt.out.hp.lt pb (Or.inr (Or.inl rfl))) hne)]; exact HPi.out j hj, fun j hj => hFB.cell j (by omega)⟩
        have HCl := hide hcl
        clear stC hFB hcl HRe HPi
        go_wp2_with fail
        refine HFr.out.mono ?_
        rintro e w4 ⟨rfl, h2, stD, g2, hX4⟩
        have hlz : ∀ s, s < 16 → (if s < d.n ∧ (s : Int) ≠ -1 then 0 else d.lo s) = 0 := fun s hs => by
          by_cases q : s < d.n
          · rw [if_pos ⟨q, by omega⟩]
          · rw [if_neg (fun a => q a.1)]; exact HL.out.lo2 s (by omega) hs
        have hFF : ∀ i, i < d.n → (Tm.ofL fs i = true ↔ Tm.Cl d.n d.rs ({ d with pn := pn, lo := fun s => if s < d.n ∧ (s : Int) ≠ -1 then 0 else d.lo s } : GD).F i) := fun i hi => by
          rw [show Tm.ofL fs i = fs.getD i false from rfl, HCl.out i hi]
          refine Tm.Cl.congr (fun j hj => ⟨fun q => Or.inr (Or.inr ⟨q, HL.out.go j hj⟩), ?_⟩)
          rintro (⟨s, hs, e⟩ | ⟨s, hs, e⟩ | ⟨e, _⟩)
          · have e' : (if s < d.n ∧ (s : Int) ≠ -1 then 0 else d.lo s) = ((d.b + j + 1 : Nat) : Int) := e
            rw [hlz s hs] at e'; omega
          · have e' : d.gl s = ((d.b + j + 1 : Nat) : Int) := e
            rw [HL.out.gl] at e'; omega
          · exact e
        obtain ⟨M, hM⟩ := Tm.marked_exists h2
        obtain ⟨g3, en⟩ := g2.coll1 HDb.out hM (Tm.ofL fs) hFF (fun i => !Tm.ofL fs i) (fun i hi => by show _ = (d.go i || _); rw [HL.out.go i hi]; rfl)
        have hcn := Tm.cnt_le (Tm.ofL fs) d.n
        have en2 : h2.collNum M h2.l.length = (d.n : Int) - (Tm.cnt (Tm.ofL fs) d.n : Int) := by
          rw [en]
          have e1 : Tm.cnt (fun i => !d.go i && !Tm.ofL fs i) d.n = Tm.cnt (fun i => !Tm.ofL fs i) d.n := Tm.cnt_congr (fun i hi => by rw [HL.out.go i hi]; rfl)
          have e2 := Tm.cnt_not (Tm.ofL fs) d.n
          show (Tm.cnt (fun i => !d.go i && !Tm.ofL fs i) d.n : Int) = _
          rw [e1]; omega
        have hco := stD.hp.collect HK.out stD.size hM
        rw [en2] at hco
        have HCo := hide hco
        have HSD := hide stD
        have HP4 : Hid ((∀ j, j < d.n → w4.cell? ⟨pb, j, none⟩ = some (.int .i64 (pn j))) ∧ ∀ j, j < d.n → w4.cell? ⟨fb, j, none⟩ = some (.bool (fs.getD j false))) := ⟨fun j hj => by rw [cell_of (hX4 pb (Or.inl rfl))]; exact HP3.out.1 j hj, fun j hj => by rw [cell_of (hX4 fb (Or.inr rfl))]; exact HP3.out.2 j hj⟩
        have cH4 := stD.gm.h
        have HG3 := hide g3
        clear stD g2 hX4 hM g3 en en2 hco HFr hFF HP3
        generalize h2.collTo M h2.l.length = h3 at *
        go_wp2_with fail
        refine HCo.out.mono ?_
        rintro e w5 ⟨rfl, x5, hz5, hk5⟩
        have stE := HSD.out.call x5 hz5 hk5
        have HP5 : Hid ((∀ j, j < d.n → w5.cell? ⟨pb, j, none⟩ = some (.int .i64 (pn j))) ∧ ∀ j, j < d.n → w5.cell? ⟨fb, j, none⟩ = some (.bool (fs.getD j false))) := ⟨fun j hj => by rw [cell_of (hk5 pb (Or.inr (Or.inl rfl)))]; exact HP4.out.1 j hj, fun j hj => by rw [cell_of (hk5 fb (Or.inr (Or.inr rfl)))]; exact HP4.out.2 j hj⟩
        have cN5 := stE.gm.num
        have hfp : ∀ j, j < d.n → 0 < pn j → fs.getD j false = true := fun j hj q => (HCl.out j hj).2 (fun P h1 _ => h1 j hj q)
        obtain ⟨cn, ecn⟩ : ∃ cn, Tm.cnt (Tm.ofL fs) d.n = cn := ⟨_, rfl⟩
        have HEc := hide ecn
        rw [ecn] at hcn ⊢
        obtain ⟨d3, ed3⟩ : ∃ d3 : GD, ({ d with pn := pn, lo := fun s => if s < d.n ∧ (s : Int) ≠ -1 then 0 else d.lo s, go := fun i => !Tm.ofL fs i } : GD) = d3 := ⟨_, rfl⟩
        have q1 : d3.n = d.n := by rw [← ed3]
        have HPn3 : Hid ((∀ j, 0 ≤ d3.pn j ∧ d3.pn j ≤ 3) ∧ (∀ j, j < d3.n → 0 < d3.pn j → fs.getD j false = true) ∧ (∀ j, j < d3.n → w5.cell? ⟨pb, j, none⟩ = some (.int .i64 (d3.pn j))) ∧ ∀ j, j < d3.n → w5.cell? ⟨fb, j, none⟩ = some (.bool (fs.getD j false))) := by rw [← ed3]; exact ⟨HPn.out, hfp, HP5.out.1, HP5.out.2⟩
        have HD3 : Hid (d3.b = 1 ∧ d3.nw = d3.n ∧ (∀ i, d3.go i = !Tm.ofL fs i) ∧ (∀ s, s < 16 → 0 ≤ d3.ge s ∧ d3.ge s ≤ 2) ∧ (∀ s, s < 16 → d3.lo s = 0) ∧ ∀ s, d3.gl s = 0) := by rw [← ed3]; exact ⟨HDb.out, HL.out.nw, fun _ => rfl, HL.out.ges, hlz, HL.out.gl⟩
        have HGr3 : Hid (Gr r d3 (fun i => Tm.hand 1 i (Tm.lg i))) := by rw [← ed3]; exact ⟨HGr.out.n0, HGr.out.f0, HGr.out.f1, HGr.out.f2, HGr.out.f3⟩
        have HCl3 : Hid (∀ i k, i < d3.n → k < 2 → fs.getD i false = true → 0 ≤ d3.rs i k → d3.rs i k < (d3.n : Int) → fs.getD (d3.rs i k).toNat false = true) := by
          rw [← ed3]
          exact fun i k hi hk hf hr hrn => (HCl.out _ (by show (d.rs i k).toNat < d.n; have hr' : 0 ≤ d.rs i k := hr; have hrn' : d.rs i k < (d.n : Int) := hrn; omega)).2 (((HCl.out i hi).1 hf).step hi hk hr)
        have HQ0 : Hid (QIn R N A W (fun b => b = pb ∨ b = fb) gb p r d3 w5 0 0 0 w5) := by
          rw [← ed3]
          exact ⟨h3, d.ge, d.fr, pn, stE, HG3.out, fun j => by simp, fun s => ⟨Int.le_refl _, by show d.ge s ≤ d.ge s + ((0 : Nat) : Int); omega⟩, fun _ _ => rfl⟩
        rw [← q1] at cN5 HEc hcn
        rw [← q1]
        have hn3 : d3.n ≤ 10 := by omega
        clear x5 hz5 hk5 stE HCo HSD HP4 HP5 cH4 hfp ecn ed3 q1 HG3 hlz
        clear HGr HL HLg HDb HPn HCl HSt HG
        go_wp2_with fail
        go_loopw [6, 15, 16, 17, 18, 19] (fun _ iv _ _ _ _ w' => ∃ i : Nat, i ≤ d3.n ∧ iv = .int .i64 i ∧ QIn R N A W (fun b => b = pb ∨ b = fb) gb p r d3 w5 i 0 (2 * i) w') (fun _ iv _ _ _ _ _ => d3.n - (intOf iv).toNat)
        case atStart => exact ⟨0, by omega, rfl, HQ0.out⟩
        case round =>
          clear HQ0 cN5
          obtain ⟨i, hi, rfl, h4, ge, fr, pn4, st, g, hp4, he2, hX⟩ := hrel
          have cN := st.gm.num
          have HSt := hide st
          have HG := hide g
          have HP4 := hide hp4
          have HE2 := hide he2
          have HKx := hide hX
          by_cases hlt : i < d3.n
          · have bi : (i : Int) < (d3.n : Int) := by omega
            have cf : wr.cell? ⟨fb, i, none⟩ = some (.bool (fs.getD i false)) := by rw [cell_of (hX fb (Or.inr rfl))]; exact HPn3.out.2.2.2 i hlt
            have gr4 : Gr r ({ d3 with ge := ge, fr := fr, pn := pn4 } : GD) (fun i => Tm.hand 1 i (Tm.lg i)) := ⟨HGr3.out.n0, HGr3.out.f0, HGr3.out.f1, HGr3.out.f2, HGr3.out.f3⟩
            have HNx : Hid (∀ w6, StOut R N A W (fun b => b = pb ∨ b = fb) gb p r ({ d3 with ge := ge, fr := fr, pn := pn4 } : GD) wr 2 w6 → QIn R N A W (fun b => b = pb ∨ b = fb) gb p r d3 w5 i 0 (2 * (i + 1)) w6) := fun w6 ⟨h5, ge5, fr5, s5, g5, a1, a2, a3⟩ => by
              refine ⟨h5, ge5, fr5, pn4, s5, g5, HP4.out, fun s => ?_, fun b hb => (a3 b hb).trans (HKx.out b hb)⟩
              have b1 := a2 s
              have b2 := HE2.out s
              simp only at b1
              push_cast at b1 b2 ⊢
              omega
            cases hfi : fs.getD i false
            · rw [hfi] at cf
              have HSd := hide (stands_gone (d := { d3 with ge := ge, fr := fr, pn := pn4 }) HK.out st g gr4 HD3.out.2.1 i hlt (by show d3.go i = true; rw [HD3.out.2.2.1 i]; show (!fs.getD i false) = true; rw [hfi]; rfl))
              have hp0 : d3.pn i = 0 := by
                have q := (HPn3.out.1 i).1
                rcases Int.lt_or_eq_of_le q with q2 | q2
                · have := HPn3.out.2.1 i hlt q2
                  rw [hfi] at this; cases this
                · exact q2.symm
              clear st g hp4 he2 hX gr4
              go_wp2_with fail
              refine HSd.out.mono ?_
              rintro e w6 ⟨rfl, so⟩
              obtain ⟨h6, ge6, fr6, pn6, s6, g6, a1, a2, a3⟩ := HNx.out w6 so
              have cf6 : w6.cell? ⟨fb, i, none⟩ = some (.bool false) := by rw [cell_of (a3 fb (Or.inr rfl)), HPn3.out.2.2.2 i hlt, hfi]
              have cp6 : w6.cell? ⟨pb, i, none⟩ = some (.int .i64 0) := by rw [cell_of (a3 pb (Or.inl rfl)), HPn3.out.2.2.1 i hlt, hp0]
              have HQ1 : Hid (QIn R N A W (fun b => b = pb ∨ b = fb) gb p r d3 w5 (i + 1) 0 (2 * (i + 1)) w6) := ⟨h6, ge6, fr6, pn6, s6, g6, fun j => by
                rw [a1 j]
                by_cases q : j < i
                · rw [if_pos q, if_pos (by omega)]
                · by_cases q2 : j = i
                  · subst q2; rw [if_neg q, if_pos rfl, if_pos (by omega), hp0]; rfl
                  · rw [if_neg q, if_neg q2, if_neg (by omega)]
                    split <;> omega, a2, a3⟩
              clear so HSd s6 g6 a1 a2 a3 hp0
              go_wp2_with fail
              go_loopw [16, 17] (fun kv _ w' => kv = .int .i64 0 ∧ w' = w6) (fun _ _ _ => 0)
              case atStart => exact ⟨rfl, rfl⟩
              case round =>
                obtain ⟨rfl, hw6⟩ := hrel
                subst hw6
                go_wp2_with fail
                go_roundw
                case rel => exact ⟨i + 1, by omega, by go_num, HQ1.out⟩
                case measure => simp [intOf]; omega
            · rw [hfi] at cf
              have HSd := hide (stands_there (d := { d3 with ge := ge, fr := fr, pn := pn4 }) HK.out st g gr4 HD3.out.2.1 i hlt (by show d3.go i = false; rw [HD3.out.2.2.1 i]; show (!fs.getD i false) = false; rw [hfi]; rfl) (fun k hk hr => by
                show d3.go (d3.rs i k).toNat = false
                have hrn := g.rng i k hlt hk
                simp only at hrn
                have c2 := HCl3.out i k hlt hk hfi hr hrn.2
                rw [HD3.out.2.2.1]
                show (!fs.getD (d3.rs i k).toNat false) = false
                rw [c2]; rfl) (fun s hs => by
                  have b1 := HE2.out s
                  have b2 := HD3.out.2.2.2.1 s hs
                  show 0 ≤ ge s ∧ ge s ≤ 46
                  push_cast at b1
                  omega) ⟨15, by omega, HD3.out.2.2.2.2.1 15 (by omega)⟩)
              have HFi := hide hfi
              clear st g hp4 he2 hX gr4 hfi
              go_wp2_with fail
              refine HSd.out.mono ?_
              rintro e w6 ⟨rfl, so⟩
              have HQ1 := hide (HNx.out w6 so)
              clear so HSd
              go_wp2_with fail
              go_loopw [16, 17] (fun kv _ w' => ∃ k : Nat, (k : Int) ≤ d3.pn i ∧ kv = .int .i64 k ∧ QIn R N A W (fun b => b = pb ∨ b = fb) gb p r d3 w5 i (k : Int) (2 * (i + 1)) w') (fun kv _ _ => (d3.pn i).toNat - (intOf kv).toNat)
              case atStart => exact ⟨0, (HPn3.out.1 i).1, rfl, HQ1.out⟩
              case round =>
                clear HQ1 HSt HG HP4 HE2 HKx HNx
                obtain ⟨k, hk, rfl, h7, ge7, fr7, pn7, s7, g7, a1, a2, a3⟩ := hrel
                have cp : wr.cell? ⟨pb, i, none⟩ = some (.int .i64 (d3.pn i)) := by rw [cell_of (a3 pb (Or.inl rfl))]; exact HPn3.out.2.2.1 i hlt
                have cf7 : wr.cell? ⟨fb, i, none⟩ = some (.bool true) := by rw [cell_of (a3 fb (Or.inr rfl)), HPn3.out.2.2.2 i hlt, HFi.out]
                have hk3 : (k : Int) ≤ 3 := by have := (HPn3.out.1 i).2; omega
                have hpi : pn7 i = d3.pn i - (k : Int) := by rw [a1 i, if_neg (Nat.lt_irrefl _), if_pos rfl]
                by_cases hlk : (k : Int) < d3.pn i
                · have xD : Gst R N A W (fun b => b = pb ∨ b = fb) gb d3.n r wr.drew p h7 := s7.dn HK.out.ok ⟨rfl, rfl, rfl, Nat.le_refl _, fun _ _ => rfl⟩
                  have cH := s7.gm.h
                  obtain ⟨cW, hcw⟩ := s7.gm.read 1 (by omega) (HGr3.out.n0 1 (by omega)) (by omega)
                  have cW' : wr.cell? ⟨gb, 3, none⟩ = some (.slice (some ⟨(r 1).b, 0, none⟩) d3.n (r 1).c) := cW
                  have ci := hcw i (by show i < d3.n * 1; omega)
                  rw [HGr3.out.f1 i hlt] at ci
                  have hob : h7.object (Tm.hand 3 i 1) = (((d3.b + i + 1 : Nat) : Int), Tm.fine) := by
                    have := g7.objW i (by show i < d3.nw; rw [HD3.out.2.1]; exact hlt)
                    rw [this, if_neg (by show ¬ d3.go i = true; rw [HD3.out.2.2.1 i]; show ¬ (!fs.getD i false) = true; rw [HFi.out]; simp)]
                  have hzb : Tm.hand 3 i 1 < 9223372036854775808 := by unfold Tm.hand; omega
                  have hun := xD.hp.unpin HKA.out xD.size (Tm.hand 3 i 1) hzb
                  have huu := g7.unpin i hlt hob
                  simp only at huu
                  have HOw : Hid (ownG gb r gb ∧ ownG gb r (r 1).b) := ⟨Or.inl rfl, Or.inr ⟨1, by omega, by have := (s7.gm.row 1 (by omega)).cap; have := HGr3.out.n0 1 (by omega); omega, rfl⟩⟩
                  have HXD := hide xD
                  obtain ⟨h8, e8, g8⟩ := huu.2 (by omega)
                  rw [e8] at hun
                  have HUn := hide hun
                  have HNew : Hid (∀ w8 ev, ErrIs A w8 ev Tm.fine → Hp R N A W.heap.size W (fun b => ownG gb r b ∨ (b = pb ∨ b = fb)) w8 p h8 → wr.drew.heap.size ≤ w8.heap.size → (∀ b, ownG gb r b ∨ (b = pb ∨ b = fb) → w8.heap[b]? = wr.drew.heap[b]?) → ev = .nilIface ∧ QIn R N A W (fun b => b = pb ∨ b = fb) gb p r d3 w5 i ((k + 1 : Nat) : Int) (2 * (i + 1)) w8) := fun w8 ev he x8 hz8 hk8 => by
                    refine ⟨he.nil rfl, h8, ge7, fr7, Tm.up pn7 i (pn7 i - 1), HXD.out.call x8 hz8 hk8, g8, fun j => ?_, a2, fun b hb => (hk8 b (Or.inr hb)).trans (a3 b hb)⟩
                    by_cases q : j = i
                    · subst q; rw [Tm.up_at, if_neg (Nat.lt_irrefl _), if_pos rfl, hpi]; push_cast; omega
                    · rw [Tm.up_ne _ _ _ _ q, a1 j]
                      by_cases q2 : j < i
                      · rw [if_pos q2, if_pos q2]
                      · rw [if_neg q2, if_neg q2, if_neg q, if_neg q]
                  clear s7 g7 a1 a2 a3 cW hcw hob hun huu e8 g8 xD hpi
                  generalize Tm.hand 3 i 1 = z at *
                  generalize (r 1).b = lb at *
                  generalize (r 1).c = lc at *
                  have cHd : wr.drew.cell? ⟨gb, 0, none⟩ = some (.pointer (some ⟨p, 0, none⟩)) := cH
                  have cWd : wr.drew.cell? ⟨gb, 3, none⟩ = some (.slice (some ⟨lb, 0, none⟩) d3.n lc) := cW'
                  have cid : wr.drew.cell? ⟨lb, i, none⟩ = some (.int .i64 z) := ci
                  go_upto_region 31 with fail
                  go_cut [17] (fun ev wx => ev = .nilIface ∧ QIn R N A W (fun b => b = pb ∨ b = fb) gb p r d3 w5 i ((k + 1 : Nat) : Int) (2 * (i + 1)) wx)
                  case first =>
                    go_region_held3 (fun w' => w'.cell? ⟨gb, 0, none⟩ = some (.pointer (some ⟨p, 0, none⟩)) ∧ w'.cell? ⟨gb, 3, none⟩ = some (.slice (some ⟨lb, 0, none⟩) d3.n lc) ∧ w'.cell? ⟨lb, i, none⟩ = some (.int .i64 z)) (first | (with_reducible exact ⟨by assumption, by assumption, by assumption⟩) | go_keep) (first
                      | (go_at_call 35
                         refine HUn.out.mono ?_
                         rintro e w8 ⟨ev, rfl, he, x8, hz8, hk8⟩
                         have HFin := hide (HNew.out w8 ev he x8 hz8 hk8)
                         have e1 : w8.cell? ⟨gb, 0, none⟩ = some (.pointer (some ⟨p, 0, none⟩)) := by rw [cell_of (hk8 _ (Or.inl HOw.out.1))]; exact cH
                         have e2 : w8.cell? ⟨gb, 3, none⟩ = some (.slice (some ⟨lb, 0, none⟩) d3.n lc) := by rw [cell_of (hk8 _ (Or.inl HOw.out.1))]; exact cW'
                         have e3 : w8.cell? ⟨lb, i, none⟩ = some (.int .i64 z) := by rw [cell_of (hk8 _ (Or.inl HOw.out.2))]; exact ci
                         clear he x8 hz8 hk8))
                    all_goals (obtain ⟨rfl, hq⟩ := HFin.out; have HQ := hide hq; clear hq)
                    all_goals go_wp2_with fail
                    all_goals go_meet
                    all_goals exact ⟨rfl, HQ.out⟩
                  case rest =>
                    obtain ⟨rfl, q8⟩ := hcut
                    have HQ8 := hide q8
                    clear q8 HUn HNew HXD cH cW' ci cHd cWd cid cp cf7
                    go_wp2_with fail
                    go_roundw
                    case rel => exact ⟨k + 1, by omega, by go_num, HQ8.out⟩
                    case measure => simp [intOf]; omega
                · have hkp : (k : Int) = d3.pn i := by omega
                  have xD : Gst R N A W (fun b => b = pb ∨ b = fb) gb d3.n r wr.drew p h7 := s7.dn HK.out.ok ⟨rfl, rfl, rfl, Nat.le_refl _, fun _ _ => rfl⟩
                  have cH := s7.gm.h
                  obtain ⟨cW, hcw⟩ := s7.gm.read 1 (by omega) (HGr3.out.n0 1 (by omega)) (by omega)
                  have cW' : wr.cell? ⟨gb, 3, none⟩ = some (.slice (some ⟨(r 1).b, 0, none⟩) d3.n (r 1).c) := cW
                  have ci := hcw i (by show i < d3.n * 1; omega)
                  rw [HGr3.out.f1 i hlt] at ci
                  have hob : h7.object (Tm.hand 3 i 1) = (((d3.b + i + 1 : Nat) : Int), Tm.fine) := by
                    have := g7.objW i (by show i < d3.nw; rw [HD3.out.2.1]; exact hlt)
                    rw [this, if_neg (by show ¬ d3.go i = true; rw [HD3.out.2.2.1 i]; show ¬ (!fs.getD i false) = true; rw [HFi.out]; simp)]
                  have hzb : Tm.hand 3 i 1 < 9223372036854775808 := by unfold Tm.hand; omega
                  have hun := xD.hp.unpin HKA.out xD.size (Tm.hand 3 i 1) hzb
                  have huu := g7.unpin i hlt hob
                  simp only at huu
                  have HOw : Hid (ownG gb r gb ∧ ownG gb r (r 1).b) := ⟨Or.inl rfl, Or.inr ⟨1, by omega, by have := (s7.gm.row 1 (by omega)).cap; have := HGr3.out.n0 1 (by omega); omega, rfl⟩⟩
                  have HXD := hide xD
                  have e8 := huu.1 (by omega)
                  rw [e8] at hun
                  have HUn := hide hun
                  have HNew : Hid (∀ w8 ev, ErrIs A w8 ev ⟨10, 0⟩ → Hp R N A W.heap.size W (fun b => ownG gb r b ∨ (b = pb ∨ b = fb)) w8 p h7 → wr.drew.heap.size ≤ w8.heap.size → (∀ b, ownG gb r b ∨ (b = pb ∨ b = fb) → w8.heap[b]? = wr.drew.heap[b]?) → ErrIs A w8 ev ⟨10, 0⟩ ∧ Errs N A w8 ∧ QIn R N A W (fun b => b = pb ∨ b = fb) gb p r d3 w5 (i + 1) 0 (2 * (i + 1)) w8) := fun w8 ev he x8 hz8 hk8 => by
                    refine ⟨he, x8.errs, h7, ge7, fr7, pn7, HXD.out.call x8 hz8 hk8, g7, fun j => ?_, a2, fun b hb => (hk8 b (Or.inr hb)).trans (a3 b hb)⟩
                    rw [a1 j]
                    by_cases q2 : j < i
                    · rw [if_pos q2, if_pos (by omega)]
                    · by_cases q : j = i
                      · subst q; rw [if_neg q2, if_pos rfl, if_pos (by omega)]; omega
                      · rw [if_neg q2, if_neg q, if_neg (by omega)]
                        split <;> omega
                  clear s7 g7 a1 a2 a3 cW hcw hob hun huu e8 xD hpi
                  generalize Tm.hand 3 i 1 = z at *
                  generalize (r 1).b = lb at *
                  generalize (r 1).c = lc at *
                  have cHd : wr.drew.cell? ⟨gb, 0, none⟩ = some (.pointer (some ⟨p, 0, none⟩)) := cH
                  have cWd : wr.drew.cell? ⟨gb, 3, none⟩ = some (.slice (some ⟨lb, 0, none⟩) d3.n lc) := cW'
                  have cid : wr.drew.cell? ⟨lb, i, none⟩ = some (.int .i64 z) := ci
                  have HKp := hide hkp
                  clear hkp
                  go_upto_region 35 with fail
                  go_cut [18] (fun ev wx => ErrIs A wx ev ⟨10, 0⟩ ∧ Errs N A wx ∧ QIn R N A W (fun b => b = pb ∨ b = fb) gb p r d3 w5 (i + 1) 0 (2 * (i + 1)) wx)
                  case first =>
                    go_region_held3 (fun w' => w'.cell? ⟨gb, 0, none⟩ = some (.pointer (some ⟨p, 0, none⟩)) ∧ w'.cell? ⟨gb, 3, none⟩ = some (.slice (some ⟨lb, 0, none⟩) d3.n lc) ∧ w'.cell? ⟨lb, i, none⟩ = some (.int .i64 z)) (first | (with_reducible exact ⟨by assumption, by assumption, by assumption⟩) | go_keep) (first
                      | (go_at_call 35
                         refine HUn.out.mono ?_
                         rintro e w8 ⟨ev, rfl, he, x8, hz8, hk8⟩
                         have HFin := hide (HNew.out w8 ev he x8 hz8 hk8)
                         have e1 : w8.cell? ⟨gb, 0, none⟩ = some (.pointer (some ⟨p, 0, none⟩)) := by rw [cell_of (hk8 _ (Or.inl HOw.out.1))]; exact cH
                         have e2 : w8.cell? ⟨gb, 3, none⟩ = some (.slice (some ⟨lb, 0, none⟩) d3.n lc) := by rw [cell_of (hk8 _ (Or.inl HOw.out.1))]; exact cW'
                         have e3 : w8.cell? ⟨lb, i, none⟩ = some (.int .i64 z) := by rw [cell_of (hk8 _ (Or.inl HOw.out.2))]; exact ci
                         clear he x8 hz8 hk8))
                    all_goals go_wp2_with fail
                    all_goals go_meet
                    all_goals exact HFin.out
                  case rest =>
                    obtain ⟨he, hEr, q8⟩ := hcut
                    have HQ8 := hide q8
                    have HW := hide (why_any A wc _ _ he)
                    have ewy : whyE A ⟨10, 0⟩ = .iface 261 (.pointer (some (A 9))) := rfl
                    rw [ewy] at HW
                    obtain ⟨fl, rfl⟩ := he.some (by simp)
                    have ge9 := hEr.g9
                    have hq9 := fun w' => neq_same w' (A 9)
                    clear q8 HUn HNew HXD cH cW' ci cHd cWd cid cp cf7 he hEr ewy
                    generalize A 9 = a9 at *
                    go_wp2_with fail
                    refine HW.out.mono ?_
                    rintro e w9 ⟨rfl, h9⟩
                    rw [h9]
                    clear h9
                    go_wp2_with fail
                    go_roundw
                    case rel => exact ⟨i + 1, by omega, by go_num, HQ8.out⟩
                    case measure => simp [intOf]; omega
          · have bi : ¬ (i : Int) < (d3.n : Int) := by omega
            have cH := st.gm.h
            obtain ⟨M4, hM4⟩ := Tm.marked_exists h4
            have hno : ∀ j, j < d3.n → ¬ ({ d3 with ge := ge, fr := fr, pn := pn4 } : GD).F j := fun j hj hF => by
              rcases hF with ⟨s, hs, e⟩ | ⟨s, hs, e⟩ | ⟨e, _⟩
              · have e' : d3.lo s = ((d3.b + j + 1 : Nat) : Int) := e
                rw [HD3.out.2.2.2.2.1 s hs] at e'; omega
              · have e' : d3.gl s = ((d3.b + j + 1 : Nat) : Int) := e
                rw [HD3.out.2.2.2.2.2 s] at e'; omega
              · have e' : 0 < pn4 j := e
                rw [hp4 j, if_pos (by omega)] at e'; omega
            obtain ⟨_, en7⟩ := g.coll1 HD3.out.1 hM4 (fun _ => false) (fun i hi => ⟨(fun q => by cases q), fun q => absurd q (Tm.Cl.none hno i)⟩) (fun _ => true) (fun i hi => by simp)
            have en7' : h4.collNum M4 h4.l.length = (cn : Int) := by
              rw [en7, ← HEc.out]
              have e : Tm.cnt (fun i => !d3.go i && !false) d3.n = Tm.cnt (Tm.ofL fs) d3.n := Tm.cnt_congr (fun i hi => by rw [HD3.out.2.2.1]; simp)
              show (Tm.cnt (fun i => !d3.go i && !false) d3.n : Int) = _
              rw [e]
            have hco := st.hp.collect HK.out st.size hM4
            rw [en7'] at hco
            have HCo := hide hco
            clear st g hp4 he2 hX hM4 hno en7 en7' hco
            go_wp2_with fail
            refine HCo.out.mono ?_
            rintro e w8 ⟨rfl, x8, hz8, hk8⟩
            have HB8 : Hid (Below w.heap.size w w8) := HBW.out.trans (x8.below.mono HBW.out.size)
            clear x8 hz8 hk8 HCo
            go_wp2_with fail
            go_ret
            exact ⟨rfl, HB8.out⟩
end
end Go.Proofs.YtcnmfljpmpgnjaaGreatDoor

namespace Go.Proofs.YtcnmfljpmpgnjaaGreatDoor
open Go.ChangeShapes Go.WideShapes Go.ChangeAt Go.RowKit Go.Deep Go.WideElems

set_option maxRecDepth 100000 in
theorem kpinned_contract {R : (Nat → Prop) → World → Nat → Tm.H → Prop} {N : Nat} {A : Nat → Addr} (K : ProgAll R N A) (KN : NewOK R N A) {H : Type} (enc : TypeId × Value → H) {W : World} {args : Array Value} {ds gs : List (DataW H)} {before : List MemPlace} {base : Nat} (hE : Errs N A W)
    (hval : ∀ (j : Nat) t v, Tryz.f10.params[j]? = some t → args[j]? = some v → Value.okWide Tryz.prog W .any base t v)
    (hW : DataW.Whole enc Tryz.prog Tryz.f10.params.toList Rows.pinnedSpec.vars false W args.toList ds gs before) :
    Calls Tryz.prog 10 args W fun e W' => ∃ v, e = .returned v ∧ Rows.pinnedSpec.post enc Tryz.prog Tryz.f10 false true false false W args v W' := by
  have hW' := hW
  have hlt := hW.lt
  obtain ⟨p, q, hA0, hV, rfl, hfz, hnd⟩ := hW
  have hA : DataW.TrodAll enc Tryz.prog W 0 (fun _ => true) true Tryz.f10.params.toList args.toList ds p := hA0
  rw [Tryz.params10] at hA
  obtain ⟨rfl, rfl⟩ := trodVars_none hV
  obtain ⟨v0, v1, d0, d1, p0, p1, hargs, rfl, rfl, hT0, hT1⟩ := trodAll_two hA
  have hargs' : args = #[v0, v1] := by obtain ⟨l⟩ := args; simpa using hargs
  subst hargs'
  have o0 : Value.okWide Tryz.prog W .any base 28 v0 := hval 0 28 v0 (by rw [Tryz.params10]; rfl) (by simp)
  have o1 : Value.okWide Tryz.prog W .any base 24 v1 := hval 1 24 v1 (by rw [Tryz.params10]; rfl) (by simp)
  have hTT1 := hT1
  obtain ⟨n1, hn1⟩ := hT1
  obtain ⟨a1, c1, ns1, e1, hns1, hnr1⟩ := ints_arg hn1
  obtain ⟨a', l', c', rfl⟩ := okWide_slice Tryz.underlying24 o1
  have e2 : [Value.slice a' l' c'] = [Value.slice a1 ns1.length c1] := e1
  injection e2 with e2
  injection e2 with e3 e4 e5
  subst e3 e4 e5
  have hT0' := hT0
  obtain ⟨n0, hn0⟩ := hT0
  obtain ⟨cs, rfl, hcs⟩ := okWide_struct Tryz.underlying28 o0
  obtain ⟨xn, pv, nv, cv, pr, nr, cr, V, Rf, e0, hx, gi⟩ := graph_arg hn0
  have e1' : cs.toList = [.int .i64 xn, .slice pv nv cv, .slice pr nr cr] := e0
  have e2' : cs = #[.int .i64 xn, .slice pv nv cv, .slice pr nr cr] := by obtain ⟨l⟩ := cs; simpa using e1'
  subst e2'
  refine (kpinned_any K KN W hE xn hx.1 hx.2 pv pr nv cv nr cr V Rf gi _ _ ns1 hns1 hnr1).mono ?_
  rintro e W' ⟨rfl, hb⟩
  refine ⟨_, rfl, _, _, _, [], p0 ++ p1, [], hW', ?_, ?_, ?_, Below.keptBut hb _, fun h => by cases h⟩
  · exact trodAll_mk1 (shut_bool Tryz.underlying4 true)
  · exact trodAll_mk2 (Trod_stays laidOut readGr rowGr hT0' (fun x hx => Below.sameAt hb x (hlt x (by simp [hx]))) (fun x hx => by simpa using hlt x (by simp [hx])))
      (Trod_stays laidOut readNs rowNs hTT1 (fun x hx => Below.sameAt hb x (hlt x (by simp [hx]))) (fun x hx => by simpa using hlt x (by simp [hx])))
  · rfl

theorem errs_of_kpinned {W : World} (h : laidMetH Tryz.prog Rows.pinnedRow.laid W) : ∃ A, Errs W.heap.size A W := errs_of h
theorem door_met_kpinned (os : Os) (args : Array Value) : laidMetH Tryz.prog Rows.pinnedRow.laid ((World.doorLaid Tryz.prog 400 os).forCall (fun _ _ => 0) ⟨#[], args, []⟩).memory :=
  laidMetH_of_parts3 (fuel := 8) (laidMet_of_run' 8 (by kernel_rfl) (by kernel_rfl)) (by kernel_rfl) (by kernel_rfl)

set_option maxRecDepth 100000 in
theorem lifted_kpinned {R : (Nat → Prop) → World → Nat → Tm.H → Prop} (K : ∀ N A, ProgAll R N A) (KN : ∀ N A, NewOK R N A) (os : Os) (started : os.Started) (H : Type) (enc : TypeId × Value → H) :
    ReturnsInHanded {} Tryz.checked os 10 .any (fun w args => (Rows.pinnedSpec.pre enc Tryz.prog Tryz.f10 [] false w args ∧ laidMetH Tryz.prog Rows.pinnedRow.laid w) ∧ sizedMet enc Tryz.prog Tryz.f10 (OpenSpec.ofChange Rows.pinnedSpec) false w args)
      (Rows.pinnedSpec.post enc Tryz.prog Tryz.f10 false true false false) := by
  refine returnsInHanded_of_change_and (C := Tryz.checked) (X := fun w _ => laidMetH Tryz.prog Rows.pinnedRow.laid w) (fun _ _ _ hh h => h.of_heap hh) own started (by kernel_rfl) Tryz.func10
    (ChangeSpec.witness_shaped (enc := enc) (C := Tryz.checked) (os := os) (X := fun w _ => laidMetH Tryz.prog Rows.pinnedRow.laid w) false (World.doorLaid Tryz.prog 400 os) #[.agg #[.int .i64 0, .slice none 0 0, .slice none 0 0], .slice none 0 0] 8 rfl (World.shaped_of_RefB (by kernel_rfl) (by kernel_rfl)) (by kernel_rfl) (by kernel_rfl) (by kernel_rfl) (door_met_kpinned os _)) ?_
  intro W base args ds gs before hval0 hW _ _ hL _
  obtain ⟨A, hE⟩ := errs_of_kpinned hL
  exact kpinned_contract (K _ A) (KN _ A) enc hE hval0 hW

theorem kpinned_holds {R : (Nat → Prop) → World → Nat → Tm.H → Prop} (K : ∀ N A, ProgAll R N A) (KN : ∀ N A, NewOK R N A) : Rows.PinnedSaid :=
  OpenClaim.holds_of_wide 10 Tryz.f10 rfl rfl rfl rfl rfl rfl rfl ⟨rfl, rfl, rfl, rfl, rfl⟩ rfl rfl rfl rfl rfl (by kernel_rfl) Tryz.func10 (by kernel_rfl)
    (of_decide_eq_true (by kernel_rfl)) (by unfold Func.isWrapper; rw [if_neg (of_decide_eq_false (by kernel_rfl))]; exact ⟨rfl, rfl⟩)
    (fun os started H enc _ => lifted_kpinned K KN os started H enc)

theorem pinned_card_of {R : (Nat → Prop) → World → Nat → Tm.H → Prop} (K : ∀ N A, ProgAll R N A) (KN : ∀ N A, NewOK R N A) : Rows.PinnedCardSaid :=
  Claim7.holds_tied_plain_at .later [] [.handle, .sentinel, .sentinel, .sentinel, .sentinel, .sentinel, .sentinel, .sentinel, .sentinel, .sentinel, .sentinel] true Rows.pinnedCard.stood.harness true
    (kpinned_holds K KN) (fun _ h => by cases h) (by kernel_rfl) (fun _ h => by cases h) pinned_row_tie rfl ⟨rfl, rfl⟩ (by kernel_rfl) rfl
    (fun f fn hf hfn => by
      obtain rfl : f = 10 := Option.some.inj ((show Tryz.prog.funcNamed Rows.pinnedRow.func = some 10 by kernel_rfl).symm.trans hf) |>.symm
      obtain rfl : fn = Tryz.f10 := (Option.some.inj (Tryz.func10.symm.trans hfn)).symm
      exact ⟨by kernel_rfl, fun j t ht => by
        rw [Tryz.params10] at ht
        match j, ht with
        | 0, ht =>
          obtain rfl : 28 = t := by simpa using ht
          exact noStandGr
        | 1, ht =>
          obtain rfl : 24 = t := by simpa using ht
          exact noStandNs
        | j + 2, ht => simp at ht⟩)
    (by kernel_rfl)
end Go.Proofs.YtcnmfljpmpgnjaaGreatDoor
