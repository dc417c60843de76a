import Derived.Test.YtcnmfljpmpgnjaaGreatDoorFFraG
import Derived.Test.YtcnmfljpmpgnjaaGreatDoorFFraE
import Derived.Test.YtcnmfljpmpgnjaaGreatDoorJ37
import Derived.Test.YtcnmfljpmpgnjaaGreatDoorCards
import Derived.Test.YtcnmfljpmpgnjaaGreatDoorTie
import Derived.SevenTiedAt
namespace Go.Proofs.YtcnmfljpmpgnjaaGreatDoor
open Go.RowKit
open Tm (H Ob Sl Why GD Gh LayD)

section
variable {R : (Nat → Prop) → World → Nat → H → Prop} {N : Nat} {A : Nat → Addr}

set_option maxRecDepth 100000 in
set_option maxHeartbeats 8000000 in
theorem kframed_any (KA : ProgAll R N A) (KN : NewOK R N A) (w : World) (hE : Errs N A w) (xn : Int) (hx1 : -9223372036854775808 ≤ xn) (hx2 : xn ≤ 9223372036854775807) (pv pr : Option Addr) (nv cv nr cr : Nat) (V : Nat → Int) (Rf : Nat → Nat → Int) (gi : GIn w pv nv V pr nr Rf) (out : Int) (ho1 : -9223372036854775808 ≤ out) (ho2 : out ≤ 9223372036854775807) (outside : Int) (hs1 : -9223372036854775808 ≤ outside) (hs2 : outside ≤ 9223372036854775807) :
    Calls Tryz.prog 11 #[.agg #[.int .i64 xn, .slice pv nv cv, .slice pr nr cr], .int .i64 out, .int .i64 outside] w fun e w' => e = .returned (.bool true) ∧ Below w.heap.size w w' := by
  have HKA := hide KA
  have HK := hide KA.ok
  obtain ⟨W, eW⟩ : ∃ W, w.alloc (.cells #[.int .i64 xn, .slice pv nv cv, .slice pr nr cr] 28) = W := ⟨_, rfl⟩
  have hWb : Below w.heap.size w W := by rw [← eW]; exact Below.alloc0 w _
  have hWs : W.heap.size = w.heap.size + 1 := by rw [← eW]; simp
  have HWc : Hid (∀ W', Below W.heap.size W W' → W'.cell? ⟨w.heap.size, 0, none⟩ = some (.int .i64 xn) ∧ W'.cell? ⟨w.heap.size, 1, none⟩ = some (.slice pv nv cv) ∧ W'.cell? ⟨w.heap.size, 2, none⟩ = some (.slice pr nr cr)) := fun W' hb => by
    have hlt : w.heap.size < W.heap.size := by omega
    refine ⟨?_, ?_, ?_⟩
    · rw [hb.cell (by show w.heap.size < _; exact hlt), ← eW]; exact (World.cell?_alloc_at _ _ _ _ rfl).trans rfl
    · rw [hb.cell (by show w.heap.size < _; exact hlt), ← eW]; exact (World.cell?_alloc_at _ _ _ _ rfl).trans rfl
    · rw [hb.cell (by show w.heap.size < _; exact hlt), ← eW]; exact (World.cell?_alloc_at _ _ _ _ rfl).trans rfl
  have HBg := hide (begun_any KA.ok KN W (hE.below hWb hE.le))
  have HGi := hide (gi.below hWb)
  have HPs := hide (fun w' => kpick_is outside 1000 w' (by omega) (by omega) hs1 hs2)
  have hpv := pickN_lt outside 1000 (by omega)
  generalize pickN outside 1000 = v at *
  have HPo := hide (fun n w' h0 hn => kpick_y out n w' h0 hn ho1 ho2)
  have HBW := hide hWb
  clear KA KN hE gi hs1 hs2 ho1 ho2 hWb
  go_enter Tryz.func11, Tryz.ntmps11
  go_wp2_with fail
  refine HBg.out.mono ?_
  rintro e w1 ⟨p, rfl, x1⟩
  obtain ⟨M, hM⟩ := Tm.marked_exists Tm.b4
  obtain ⟨h1, h2, h3, d0, e1, e2, e3, g0, l0, hrs0, hb0, hf0, hov0, hlo0, hge0, hfr0⟩ := Tm.frame_first M (v : Int) (by omega)
  have hmk := x1.make HK.out (x1.size (Nat.le_refl _)) hM (by decide) (by decide) 0
  rw [e1] at hmk
  have HMk := hide hmk
  have HE2 := hide e2
  have HE3 := hide e3
  have HG0 := hide g0
  have HL0 := hide l0
  have HR0 := hide hrs0
  have HD0 : Hid (d0.b = 2 ∧ d0.f = 2 ∧ d0.ov 1 = (v : Int) ∧ d0.lo 0 = 2 ∧ d0.ge 0 = 2 ∧ d0.fr 0 = 1) := ⟨hb0, hf0, hov0, hlo0, hge0, hfr0⟩
  have hza : Tm.hand 1 0 2 < 9223372036854775808 := by decide
  clear x1 hM e1 e2 e3 g0 l0 hrs0 hb0 hf0 hov0 hlo0 hge0 hfr0 hmk HBg eW
  have HZa := hide (rfl : Tm.hand 1 0 2 = Tm.hand 1 0 2)
  obtain ⟨za, eza⟩ : ∃ za, Tm.hand 1 0 2 = za := ⟨_, rfl⟩
  rw [eza] at HMk HE2 hza
  have HEa := hide eza
  clear eza HZa
  go_wp2_with fail
  refine HMk.out.mono ?_
  rintro e w2 ⟨ev, rfl, he, x2, _, _⟩
  obtain rfl := he.nil rfl
  have hst := x2.set HK.out (x2.size (Nat.le_refl _)) za 0 (v : Int) hza
  rw [HE2.out] at hst
  have HSet := hide hst
  clear he x2 hst HMk
  go_wp2_with fail
  refine (HPs.out _).mono ?_
  rintro e w9 ⟨rfl, h9⟩
  rw [h9]
  clear h9
  go_wp2_with fail
  refine HSet.out.mono ?_
  rintro e w3 ⟨ev, rfl, he, x3, _, _⟩
  obtain rfl := he.nil rfl
  have hpu := x3.push HKA.out (x3.size (Nat.le_refl _))
  rw [HE3.out] at hpu
  have HPu := hide hpu
  clear he x3 hpu HSet
  go_wp2_with fail
  refine HPu.out.mono ?_
  rintro e w4 ⟨ev, rfl, he, x4, _, _⟩
  obtain rfl := he.nil rfl
  have HLay := hide (lay2_g HK.out x4 HG0.out HL0.out HR0.out xn hx1 hx2 pv pr nv cv nr cr V Rf HGi.out)
  obtain ⟨cx0, cx1, cx2⟩ := HWc.out w4 x4.below
  clear he x4 HPu
  go_wp2_with fail
  refine HLay.out.mono ?_
  rintro e w5 ⟨gb, r, h, d, X, rfl, st, g, gr, l, hn1, hdb, hdf, hdo, hdl, hdg, hdr⟩
  have hn10 := g.few
  have cN := st.gm.num
  have HSt := hide st
  have HG := hide g
  have HGr := hide gr
  have HL := hide l
  have HD : Hid (d.b = 2 ∧ d.f = 2 ∧ d.ov 1 = (v : Int) ∧ d.lo 0 = 2 ∧ d.ge 0 = 2 ∧ d.fr 0 = 1) := by
    obtain ⟨a1, a2, a3, a4, a5, a6⟩ := HD0.out
    exact ⟨hdb.trans a1, hdf.trans a2, by rw [hdo]; exact a3, hdl.trans a4, hdg.trans a5, hdr.trans a6⟩
  obtain ⟨t, et, ht⟩ := pickY_nat out ((d.n : Int) + 1) (by omega)
  have HPo2 := hide (HPo.out ((d.n : Int) + 1) · (by omega) (by omega))
  rw [et] at HPo2
  have htn : t ≤ d.n := by omega
  have hw1 : IntKind.i64.wrap ((d.n : Int) + 1) = (d.n : Int) + 1 := IntWalk.i64_in _ (by omega)
  clear st g gr l hdb hdf hdo hdl hdg hdr HD0 HLay HPo HWc cx0 cx1 cx2 HG0 HL0 HR0 et hWs HGi HE2 HE3
  go_wp2_with fail
  refine (HPo2.out _).mono ?_
  rintro e w9 ⟨rfl, h9⟩
  rw [h9]
  clear h9
  have hmk := make_boolsK w5 d.n (by omega)
  have cN5 : ∀ o, (w5.alloc o).cell? ⟨gb, 1, none⟩ = some (.int .i64 (d.n : Int)) := fun o => by rw [(Below.alloc0 w5 o).cell (by show gb < _; exact HSt.out.gm.lt)]; exact cN
  obtain ⟨cL, hcl⟩ := HSt.out.gm.read 0 (by omega) (HGr.out.n0 0 (by omega)) (by omega)
  by_cases htl : t < d.n
  · have btl : (t : Int) < (d.n : Int) := by omega
    have cL' : ∀ o, (w5.alloc o).cell? ⟨gb, 2, none⟩ = some (.slice (some ⟨(r 0).b, 0, none⟩) d.n (r 0).c) := fun o => by rw [(Below.alloc0 w5 o).cell (by show gb < _; exact HSt.out.gm.lt)]; exact cL
    have clt : ∀ o, (w5.alloc o).cell? ⟨(r 0).b, t, none⟩ = some (.int .i64 (Tm.hand 1 (1 + t) (Tm.lg (1 + t)))) := fun o => by
      rw [(Below.alloc0 w5 o).cell (by show (r 0).b < _; exact (HSt.out.gm.own 0 (by omega) (by have := (HSt.out.gm.row 0 (by omega)).cap; have := HGr.out.n0 0 (by omega); omega)).2.1), hcl t (by show t < d.n * 1; omega), HGr.out.f0 t htl]
    have cF := (made_bools w5 d.n).1 t htl
    have fF := (made_bools w5 d.n).2 t
    obtain ⟨cb, ecb⟩ : ∃ cb, (madeCells #[.bool false] d.n).setIfInBounds t (.bool true) = cb := ⟨_, rfl⟩
    have HFB : Hid (FB (w5.alloc (.cells cb 4)) (w5.alloc (.cells cb 4)) w5.heap.size ((List.replicate d.n false).set t true)) := by
      refine ⟨Kept.refl _ _, fun i hi => ?_, fun i => World.frozen?_alloc_new w5 _ _ i⟩
      have hi' : i < d.n := by simpa using hi
      rw [World.cell?_alloc_new, ← ecb, Tm.getD_set _ _ _ _ _ (by simpa using htl), rep_getD]
      by_cases q : i = t
      · subst q
        rw [if_pos rfl]
        simp [madeCells, hi']
      · rw [if_neg q]
        simp [madeCells, hi', Nat.mod_one, Ne.symm q]
    have hF0 : ∀ j, j < d.n → (j = t ↔ ((List.replicate d.n false).set t true).getD j false = true) := fun j hj => by rw [Tm.getD_set _ _ _ _ _ (by simpa using htl), rep_getD]; split <;> simp_all
    obtain ⟨fs0, efs0⟩ : ∃ fs0, (List.replicate d.n false).set t true = fs0 := ⟨_, rfl⟩
    have hfl0 : fs0.length = d.n := by rw [← efs0]; simp
    rw [efs0] at HFB hF0
    obtain ⟨h6, d6, o, ep, g6, ou, k1, k2, k3, k4, k5, k6, k7, k8, k9⟩ := HL.out.pop HG.out HD.out.2.1 HD.out.2.2.2.1 HD.out.2.2.2.2.1 HD.out.2.2.2.2.2 (by omega) t
    rw [if_pos htl] at ep
    have hoo := ou.is
    rw [if_pos htl] at hoo
    have hon : ¬ o = 0 := by rw [hoo]; decide
    have hzw : ¬ Tm.hand 1 (1 + t) (Tm.lg (1 + t)) = 0 := by have := Tm.hand_pos (k := 1) (i := 1 + t) (Tm.lg_bd (1 + t)).1; omega
    have hzb : Tm.hand 1 (1 + t) (Tm.lg (1 + t)) < 9223372036854775808 := by have := Tm.lg_bd (1 + t); unfold Tm.hand; omega
    have ho0 : (o == 0) = false := by simpa using hon
    have hw0 : (Tm.hand 1 (1 + t) (Tm.lg (1 + t)) == 0) = false := by simpa using hzw
    have ho9 : (o != 0) = true := by simpa using hon
    have HEp := hide ep
    clear ep efs0 cL hcl
    generalize Tm.hand 1 (1 + t) (Tm.lg (1 + t)) = zw at *
    generalize (r 0).b = lb at *
    generalize (r 0).c = lc at *
    have stB : Gst R N A W (fun b => b = w5.heap.size) gb d.n r (w5.alloc (.cells cb 4)) p h := HSt.out.more HK.out.ok (Below.alloc0 w5 _) (fun b => b = w5.heap.size) (fun b hb => Or.inr (by omega)) (fun b hb => by rw [hb]; simp)
    have HRe := hide (reached_g stB.gm d.rs (HGr.out.n0 3 (by omega)) HGr.out.f3 HG.out.rng (by omega) w5.heap.size d.n fs0 hfl0 (fun i hi => HFB.out.cell i (by omega)) HFB.out.soft (stB.off _ rfl) (fun j => j = t) hF0)
    have HSB := hide stB
    clear stB HFB hF0 hfl0
    go_wp2_with fail
    refine HRe.out.mono ?_
    rintro e w6 ⟨fs, hfl, rfl, hFB, hcl⟩
    have stC := HSB.out.own HK.out.ok hFB.kept
    have hpo := stC.hp.pop HKA.out stC.size zw hzb
    rw [HEp.out] at hpo
    have HPop := hide hpo
    have HCl := hide hcl
    have HSC := hide stC
    have hcn := Tm.cnt_le (Tm.ofL fs) d.n
    clear stC hFB hcl HRe HSB hpo hmk
    generalize w5.heap.size = fb at *
    have HG6 := hide g6
    have HOu := hide ou
    have HK6 : Hid (d6.n = d.n ∧ d6.b = d.b ∧ d6.f = 1 ∧ d6.rs = d.rs ∧ d6.ov = d.ov ∧ d6.nw = d.nw ∧ d6.go = d.go ∧ d6.pn = d.pn ∧ d6.gl = d.gl) := ⟨k1, k2, k3, k4, k5, k6, k7, k8, k9⟩
    clear g6 ou k1 k2 k3 k4 k5 k6 k7 k8 k9
    go_wp2_with fail
    refine HPop.out.mono ?_
    rintro e w7 ⟨ev, rfl, he, x7, hz7, hk7⟩
    obtain rfl := he.nil rfl
    have st7 := HSC.out.call x7 hz7 hk7
    have HS7 := hide st7
    clear he x7 hz7 hk7 HPop HSC
    obtain ⟨cW, hcw⟩ := st7.gm.read 1 (by omega) (HGr.out.n0 1 (by omega)) (by omega)
    have cW' : w7.cell? ⟨gb, 3, none⟩ = some (.slice (some ⟨(r 1).b, 0, none⟩) d.n (r 1).c) := cW
    have cwt := hcw t (by show t < d.n * 1; omega)
    rw [HGr.out.f1 t htl] at cwt
    have hsm : h6.same o (Tm.hand 3 t 1) = (true, Tm.fine) := by
      have := HG6.out.sameLW 1 (by omega) (by rw [HOu.out.ge1 htl]; omega) t (by rw [HK6.out.2.2.2.2.2.1, HL.out.nw]; exact htl) (by rw [HOu.out.lo1, if_pos htl]) (by rw [HK6.out.2.2.2.2.2.2.1]; exact HL.out.go t htl)
      rw [HOu.out.ge1 htl] at this
      rw [hoo]; exact this
    have hob : o < 9223372036854775808 := by rw [hoo]; decide
    have hwb : Tm.hand 3 t 1 < 9223372036854775808 := by unfold Tm.hand; omega
    have hss := st7.hp.same HK.out st7.size o (Tm.hand 3 t 1) hob hwb
    rw [hsm] at hss
    have HSs := hide hss
    clear st7 cW hcw hsm hss hoo
    generalize Tm.hand 3 t 1 = zt at *
    generalize (r 1).b = wb at *
    generalize (r 1).c = wcc at *
    go_wp2_with fail
    refine HSs.out.mono ?_
    rintro e w8 ⟨ev, rfl, he, x8, hz8, hk8⟩
    obtain rfl := he.nil rfl
    have st8 := HS7.out.call x8 hz8 hk8
    clear he x8 hz8 hk8 HSs HS7
    have HS8 := hide st8
    clear st8
    go_wp2_with fail
    go_loopw [9, 20, 21] (fun _ iv _ w' => ∃ i : Nat, i ≤ d.n ∧ iv = .int .i64 i ∧ Gst R N A W (fun b => b = fb) gb d.n r w' p h6) (fun _ iv _ _ => d.n - (intOf iv).toNat)
    case atStart => exact ⟨0, by omega, rfl, HS8.out⟩
    case round =>
      clear HS8
      obtain ⟨i, hi, rfl, st⟩ := hrel
      have HSr := hide st
      have cNr := st.gm.num
      by_cases hlt : i < d.n
      · have bi : (i : Int) < (d.n : Int) := by omega
        obtain ⟨cL0, hcl0⟩ := st.gm.read 0 (by omega) (HGr.out.n0 0 (by omega)) (by omega)
        have cLr : wr.cell? ⟨gb, 2, none⟩ = some (.slice (some ⟨(r 0).b, 0, none⟩) d.n (r 0).c) := cL0
        have cli := hcl0 i (by show i < d.n * 1; omega)
        rw [HGr.out.f0 i hlt] at cli
        have elg : Tm.lg (1 + i) = 1 := by unfold Tm.lg; rw [if_neg (by omega)]
        rw [elg] at cli
        have hgs : h6.get (Tm.hand 1 (1 + i) 1) 0 = (0, ⟨4, Tm.hand 1 (1 + i) 1⟩) := HG6.out.getStale (1 + i) (by omega) 1 (by omega) (by
          rcases Nat.eq_zero_or_pos i with rfl | q
          · by_cases q2 : t < d.n
            · right; have := HOu.out.ge1 q2; show d6.ge 1 ≠ 1; omega
            · left; show d6.lo 1 = 0; rw [HOu.out.lo1, if_neg q2]
          · exact Or.inl (HOu.out.lo2 (1 + i) (by omega) (by omega)))
        have hgb : Tm.hand 1 (1 + i) 1 < 9223372036854775808 := by unfold Tm.hand; omega
        have hgt := st.hp.get HK.out st.size (Tm.hand 1 (1 + i) 1) 0 hgb
        rw [hgs] at hgt
        have HGt := hide hgt
        clear st cL0 hcl0 hgs hgt elg
        generalize Tm.hand 1 (1 + i) 1 = zi at *
        generalize (r 0).b = lb0 at *
        generalize (r 0).c = lc0 at *
        go_wp2_with fail
        refine HGt.out.mono ?_
        rintro e w9 ⟨ev, rfl, he, x9, hz9, hk9⟩
        have st9 := HSr.out.call x9 hz9 hk9
        have HS9 := hide st9
        have HW := hide (why_any A w9 _ _ he)
        have ewy : whyE A ⟨4, zi⟩ = .iface 261 (.pointer (some (A 3))) := rfl
        rw [ewy] at HW
        obtain ⟨fl, rfl⟩ := he.some (by simp)
        have ge3 := st9.hp.errs.g3
        have hq3 := fun w' => neq_same w' (A 3)
        clear he x9 hz9 hk9 st9 HGt ewy
        generalize A 3 = a3 at *
        go_wp2_with fail
        refine HW.out.mono ?_
        rintro e w10 ⟨rfl, h10⟩
        rw [h10]
        clear h10
        go_wp2_with fail
        go_roundw
        case rel => exact ⟨i + 1, by omega, by go_num, HS9.out⟩
        case measure => simp [intOf]; omega
      · have bi : ¬ (i : Int) < (d.n : Int) := by omega
        obtain ⟨M6, hM6⟩ := Tm.marked_exists h6
        obtain ⟨k1, k2, k3, k4, k5, k6, k7, k8, k9⟩ := HK6.out
        have ou2 : Tm.Out d6 d6.n t o := by rw [k1]; exact HOu.out
        obtain ⟨d7, g7, j1, j2, j3, j4, j5, en⟩ := ou2.coll HG6.out (by rw [k2]; exact HD.out.1) (fun s => by rw [k9]; exact HL.out.gl s) (fun i hi => by rw [k8]; exact HL.out.pn i (by omega)) (fun i hi => by rw [k7]; exact HL.out.go i (by omega)) hM6 fs (fun i hi => by rw [k1, k4]; exact HCl.out i (by omega))
        rw [k1] at en
        have hco := st.hp.collect HK.out st.size hM6
        rw [en] at hco
        have HCo := hide hco
        have hgo7 : (h6.collTo M6 h6.l.length).get za 0 = ((v : Int), Tm.fine) := by
          have := g7.getOld (by rw [j3, k2]; exact HD.out.1) (by rw [j1]; exact ou2.lo0) (by rw [j2]; exact ou2.ge0)
          rw [HEa.out, j4, k5, HD.out.2.2.1] at this
          exact this
        have hpp7 : (h6.collTo M6 h6.l.length).pop 0 = ((0, ⟨9, 0⟩), h6.collTo M6 h6.l.length) := by unfold Tm.H.pop; rw [if_pos (by rw [g7.frames, j5]; exact k3)]
        have HGo := hide hgo7
        have HPp := hide hpp7
        clear st hM6 k1 k2 k3 k4 k5 k6 k7 k8 k9 ou2 g7 j1 j2 j3 j4 j5 en hco hgo7 hpp7
        generalize h6.collTo M6 h6.l.length = h7 at *
        go_wp2_with fail
        refine HCo.out.mono ?_
        rintro e w9 ⟨rfl, x9, hz9, hk9⟩
        have st9 := HSr.out.call x9 hz9 hk9
        have HS9 := hide st9
        have hgt := st9.hp.get HK.out st9.size za 0 hza
        rw [HGo.out] at hgt
        have HGt := hide hgt
        clear x9 hz9 hk9 st9 hgt HCo
        go_wp2_with fail
        refine HGt.out.mono ?_
        rintro e w10 ⟨ev, rfl, he, x10, hz10, hk10⟩
        obtain rfl := he.nil rfl
        have st10 := HS9.out.call x10 hz10 hk10
        have HS10 := hide st10
        have hpp := st10.hp.pop HKA.out st10.size 0 (by omega)
        rw [HPp.out] at hpp
        have HPo3 := hide hpp
        clear he x10 hz10 hk10 st10 hpp HGt
        go_wp2_with fail
        refine HPo3.out.mono ?_
        rintro e w11 ⟨ev, rfl, he, x11, hz11, hk11⟩
        have st11 := HS10.out.call x11 hz11 hk11
        have HW := hide (why_any A w11 _ _ he)
        have ewy : whyE A ⟨9, 0⟩ = .iface 261 (.pointer (some (A 8))) := rfl
        rw [ewy] at HW
        obtain ⟨fl, rfl⟩ := he.some (by simp)
        have ge8 := st11.hp.errs.g8
        have hq8 := fun w' => eql_same w' (A 8)
        have cN11 := st11.gm.num
        have HB11 : Hid (Below w.heap.size w w11) := HBW.out.trans (st11.hp.below.mono HBW.out.size)
        clear he x11 hz11 hk11 st11 HPo3 ewy
        generalize A 8 = a8 at *
        go_wp2_with fail
        refine HW.out.mono ?_
        rintro e w12 ⟨rfl, h12⟩
        rw [h12]
        clear h12
        go_wp2_with fail
        go_ret
        exact ⟨rfl, HB11.out⟩
  · have btl : ¬ (t : Int) < (d.n : Int) := by omega
    have HFB : Hid (FB (w5.alloc (.cells (madeCells #[.bool false] d.n) 4)) (w5.alloc (.cells (madeCells #[.bool false] d.n) 4)) w5.heap.size (List.replicate d.n false)) := ⟨Kept.refl _ _, fun i hi => (made_bools w5 d.n).1 i (by simpa using hi), (made_bools w5 d.n).2⟩
    have hF0 : ∀ j, j < d.n → (j = t ↔ (List.replicate d.n false).getD j false = true) := fun j hj => by rw [rep_getD]; constructor; (intro e; omega); (intro e; cases e)
    obtain ⟨fs0, efs0⟩ : ∃ fs0, List.replicate d.n false = fs0 := ⟨_, rfl⟩
    have hfl0 : fs0.length = d.n := by rw [← efs0]; simp
    rw [efs0] at HFB hF0
    obtain ⟨h6, d6, o, ep, g6, ou, k1, k2, k3, k4, k5, k6, k7, k8, k9⟩ := HL.out.pop HG.out HD.out.2.1 HD.out.2.2.2.1 HD.out.2.2.2.2.1 HD.out.2.2.2.2.2 (by omega) t
    rw [if_neg htl] at ep
    have hoo := ou.is
    rw [if_neg htl] at hoo
    subst hoo
    have HEp := hide ep
    clear ep efs0 cL hcl
    have stB : Gst R N A W (fun b => b = w5.heap.size) gb d.n r (w5.alloc (.cells (madeCells #[.bool false] d.n) 4)) p h := HSt.out.more HK.out.ok (Below.alloc0 w5 _) (fun b => b = w5.heap.size) (fun b hb => Or.inr (by omega)) (fun b hb => by rw [hb]; simp)
    have HRe := hide (reached_g stB.gm d.rs (HGr.out.n0 3 (by omega)) HGr.out.f3 HG.out.rng (by omega) w5.heap.size d.n fs0 hfl0 (fun i hi => HFB.out.cell i (by omega)) HFB.out.soft (stB.off _ rfl) (fun j => j = t) hF0)
    have HSB := hide stB
    clear stB HFB hF0 hfl0
    go_wp2_with fail
    refine HRe.out.mono ?_
    rintro e w6 ⟨fs, hfl, rfl, hFB, hcl⟩
    have stC := HSB.out.own HK.out.ok hFB.kept
    have hpo := stC.hp.pop HKA.out stC.size 0 (by omega)
    rw [HEp.out] at hpo
    have HPop := hide hpo
    have HCl := hide hcl
    have HSC := hide stC
    have hcn := Tm.cnt_le (Tm.ofL fs) d.n
    clear stC hFB hcl HRe HSB hpo hmk
    generalize w5.heap.size = fb at *
    have HG6 := hide g6
    have HOu := hide ou
    have HK6 : Hid (d6.n = d.n ∧ d6.b = d.b ∧ d6.f = 1 ∧ d6.rs = d.rs ∧ d6.ov = d.ov ∧ d6.nw = d.nw ∧ d6.go = d.go ∧ d6.pn = d.pn ∧ d6.gl = d.gl) := ⟨k1, k2, k3, k4, k5, k6, k7, k8, k9⟩
    clear g6 ou k1 k2 k3 k4 k5 k6 k7 k8 k9
    go_wp2_with fail
    refine HPop.out.mono ?_
    rintro e w7 ⟨ev, rfl, he, x7, hz7, hk7⟩
    obtain rfl := he.nil rfl
    have st7 := HSC.out.call x7 hz7 hk7
    have HS7 := hide st7
    clear he x7 hz7 hk7 HPop HSC
    have st8 := st7
    clear st7 HS7
    have HS8 := hide st8
    clear st8
    go_wp2_with fail
    go_loopw [9, 20, 21] (fun _ iv _ w' => ∃ i : Nat, i ≤ d.n ∧ iv = .int .i64 i ∧ Gst R N A W (fun b => b = fb) gb d.n r w' p h6) (fun _ iv _ _ => d.n - (intOf iv).toNat)
    case atStart => exact ⟨0, by omega, rfl, HS8.out⟩
    case round =>
      clear HS8
      obtain ⟨i, hi, rfl, st⟩ := hrel
      have HSr := hide st
      have cNr := st.gm.num
      by_cases hlt : i < d.n
      · have bi : (i : Int) < (d.n : Int) := by omega
        obtain ⟨cL0, hcl0⟩ := st.gm.read 0 (by omega) (HGr.out.n0 0 (by omega)) (by omega)
        have cLr : wr.cell? ⟨gb, 2, none⟩ = some (.slice (some ⟨(r 0).b, 0, none⟩) d.n (r 0).c) := cL0
        have cli := hcl0 i (by show i < d.n * 1; omega)
        rw [HGr.out.f0 i hlt] at cli
        have elg : Tm.lg (1 + i) = 1 := by unfold Tm.lg; rw [if_neg (by omega)]
        rw [elg] at cli
        have hgs : h6.get (Tm.hand 1 (1 + i) 1) 0 = (0, ⟨4, Tm.hand 1 (1 + i) 1⟩) := HG6.out.getStale (1 + i) (by omega) 1 (by omega) (by
          rcases Nat.eq_zero_or_pos i with rfl | q
          · by_cases q2 : t < d.n
            · right; have := HOu.out.ge1 q2; show d6.ge 1 ≠ 1; omega
            · left; show d6.lo 1 = 0; rw [HOu.out.lo1, if_neg q2]
          · exact Or.inl (HOu.out.lo2 (1 + i) (by omega) (by omega)))
        have hgb : Tm.hand 1 (1 + i) 1 < 9223372036854775808 := by unfold Tm.hand; omega
        have hgt := st.hp.get HK.out st.size (Tm.hand 1 (1 + i) 1) 0 hgb
        rw [hgs] at hgt
        have HGt := hide hgt
        clear st cL0 hcl0 hgs hgt elg
        generalize Tm.hand 1 (1 + i) 1 = zi at *
        generalize (r 0).b = lb0 at *
        generalize (r 0).c = lc0 at *
        go_wp2_with fail
        refine HGt.out.mono ?_
        rintro e w9 ⟨ev, rfl, he, x9, hz9, hk9⟩
        have st9 := HSr.out.call x9 hz9 hk9
        have HS9 := hide st9
        have HW := hide (why_any A w9 _ _ he)
        have ewy : whyE A ⟨4, zi⟩ = .iface 261 (.pointer (some (A 3))) := rfl
        rw [ewy] at HW
        obtain ⟨fl, rfl⟩ := he.some (by simp)
        have ge3 := st9.hp.errs.g3
        have hq3 := fun w' => neq_same w' (A 3)
        clear he x9 hz9 hk9 st9 HGt ewy
        generalize A 3 = a3 at *
        go_wp2_with fail
        refine HW.out.mono ?_
        rintro e w10 ⟨rfl, h10⟩
        rw [h10]
        clear h10
        go_wp2_with fail
        go_roundw
        case rel => exact ⟨i + 1, by omega, by go_num, HS9.out⟩
        case measure => simp [intOf]; omega
      · have bi : ¬ (i : Int) < (d.n : Int) := by omega
        obtain ⟨M6, hM6⟩ := Tm.marked_exists h6
        obtain ⟨k1, k2, k3, k4, k5, k6, k7, k8, k9⟩ := HK6.out
        have ou2 : Tm.Out d6 d6.n t 0 := by rw [k1]; exact HOu.out
        obtain ⟨d7, g7, j1, j2, j3, j4, j5, en⟩ := ou2.coll HG6.out (by rw [k2]; exact HD.out.1) (fun s => by rw [k9]; exact HL.out.gl s) (fun i hi => by rw [k8]; exact HL.out.pn i (by omega)) (fun i hi => by rw [k7]; exact HL.out.go i (by omega)) hM6 fs (fun i hi => by rw [k1, k4]; exact HCl.out i (by omega))
        rw [k1] at en
        have hco := st.hp.collect HK.out st.size hM6
        rw [en] at hco
        have HCo := hide hco
        have hgo7 : (h6.collTo M6 h6.l.length).get za 0 = ((v : Int), Tm.fine) := by
          have := g7.getOld (by rw [j3, k2]; exact HD.out.1) (by rw [j1]; exact ou2.lo0) (by rw [j2]; exact ou2.ge0)
          rw [HEa.out, j4, k5, HD.out.2.2.1] at this
          exact this
        have hpp7 : (h6.collTo M6 h6.l.length).pop 0 = ((0, ⟨9, 0⟩), h6.collTo M6 h6.l.length) := by unfold Tm.H.pop; rw [if_pos (by rw [g7.frames, j5]; exact k3)]
        have HGo := hide hgo7
        have HPp := hide hpp7
        clear st hM6 k1 k2 k3 k4 k5 k6 k7 k8 k9 ou2 g7 j1 j2 j3 j4 j5 en hco hgo7 hpp7
        generalize h6.collTo M6 h6.l.length = h7 at *
        go_wp2_with fail
        refine HCo.out.mono ?_
        rintro e w9 ⟨rfl, x9, hz9, hk9⟩
        have st9 := HSr.out.call x9 hz9 hk9
        have HS9 := hide st9
        have hgt := st9.hp.get HK.out st9.size za 0 hza
        rw [HGo.out] at hgt
        have HGt := hide hgt
        clear x9 hz9 hk9 st9 hgt HCo
        go_wp2_with fail
        refine HGt.out.mono ?_
        rintro e w10 ⟨ev, rfl, he, x10, hz10, hk10⟩
        obtain rfl := he.nil rfl
        have st10 := HS9.out.call x10 hz10 hk10
        have HS10 := hide st10
        have hpp := st10.hp.pop HKA.out st10.size 0 (by omega)
        rw [HPp.out] at hpp
        have HPo3 := hide hpp
        clear he x10 hz10 hk10 st10 hpp HGt
        go_wp2_with fail
        refine HPo3.out.mono ?_
        rintro e w11 ⟨ev, rfl, he, x11, hz11, hk11⟩
        have st11 := HS10.out.call x11 hz11 hk11
        have HW := hide (why_any A w11 _ _ he)
        have ewy : whyE A ⟨9, 0⟩ = .iface 261 (.pointer (some (A 8))) := rfl
        rw [ewy] at HW
        obtain ⟨fl, rfl⟩ := he.some (by simp)
        have ge8 := st11.hp.errs.g8
        have hq8 := fun w' => eql_same w' (A 8)
        have cN11 := st11.gm.num
        have HB11 : Hid (Below w.heap.size w w11) := HBW.out.trans (st11.hp.below.mono HBW.out.size)
        clear he x11 hz11 hk11 st11 HPo3 ewy
        generalize A 8 = a8 at *
        go_wp2_with fail
        refine HW.out.mono ?_
        rintro e w12 ⟨rfl, h12⟩
        rw [h12]
        clear h12
        go_wp2_with fail
        go_ret
        exact ⟨rfl, HB11.out⟩
end
end Go.Proofs.YtcnmfljpmpgnjaaGreatDoor

namespace Go.Proofs.YtcnmfljpmpgnjaaGreatDoor
open Go.ChangeShapes Go.WideShapes Go.ChangeAt Go.RowKit Go.Deep Go.WideElems

set_option maxRecDepth 100000 in
theorem kframed_contract {R : (Nat → Prop) → World → Nat → Tm.H → Prop} {N : Nat} {A : Nat → Addr} (K : ProgAll R N A) (KN : NewOK R N A) {H : Type} (enc : TypeId × Value → H) {W : World} {args : Array Value} {ds gs : List (DataW H)} {before : List MemPlace} {base : Nat} (hE : Errs N A W)
    (hval : ∀ (j : Nat) t v, Tryz.f11.params[j]? = some t → args[j]? = some v → Value.okWide Tryz.prog W .any base t v)
    (hW : DataW.Whole enc Tryz.prog Tryz.f11.params.toList Rows.framedSpec.vars false W args.toList ds gs before) :
    Calls Tryz.prog 11 args W fun e W' => ∃ v, e = .returned v ∧ Rows.framedSpec.post enc Tryz.prog Tryz.f11 false true false false W args v W' := by
  have hW' := hW
  have hlt := hW.lt
  obtain ⟨p, q, hA0, hV, rfl, hfz, hnd⟩ := hW
  have hA : DataW.TrodAll enc Tryz.prog W 0 (fun _ => true) true Tryz.f11.params.toList args.toList ds p := hA0
  rw [Tryz.params11] at hA
  obtain ⟨rfl, rfl⟩ := trodVars_none hV
  obtain ⟨v0, v1, v2, d0, d1, d2, p0, p1, p2, hargs, rfl, rfl, hT0, hT1, hT2⟩ := trodAll_three hA
  have hargs' : args = #[v0, v1, v2] := by obtain ⟨l⟩ := args; simpa using hargs
  subst hargs'
  have o0 : Value.okWide Tryz.prog W .any base 28 v0 := hval 0 28 v0 (by rw [Tryz.params11]; rfl) (by simp)
  have o1 : Value.okWide Tryz.prog W .any base 3 v1 := hval 1 3 v1 (by rw [Tryz.params11]; rfl) (by simp)
  obtain ⟨z1, rfl, rfl, rfl, q1⟩ := open_int Tryz.underlying3 o1 hT1
  have b1 := in64_wf q1
  have o2 : Value.okWide Tryz.prog W .any base 3 v2 := hval 2 3 v2 (by rw [Tryz.params11]; rfl) (by simp)
  obtain ⟨z2, rfl, rfl, rfl, q2⟩ := open_int Tryz.underlying3 o2 hT2
  have b2 := in64_wf q2
  have hT0' := hT0
  obtain ⟨n0, hn0⟩ := hT0
  obtain ⟨cs, rfl, hcs⟩ := okWide_struct Tryz.underlying28 o0
  obtain ⟨xn, pv, nv, cv, pr, nr, cr, V, Rf, e0, hx, gi⟩ := graph_arg hn0
  have e1' : cs.toList = [.int .i64 xn, .slice pv nv cv, .slice pr nr cr] := e0
  have e2' : cs = #[.int .i64 xn, .slice pv nv cv, .slice pr nr cr] := by obtain ⟨l⟩ := cs; simpa using e1'
  subst e2'
  refine (kframed_any K KN W hE xn hx.1 hx.2 pv pr nv cv nr cr V Rf gi z1 b1.1 b1.2 z2 b2.1 b2.2).mono ?_
  rintro e W' ⟨rfl, hb⟩
  refine ⟨_, rfl, _, _, _, [], p0 ++ ([] ++ []), [], hW', ?_, ?_, ?_, Below.keptBut hb _, fun h => by cases h⟩
  · exact trodAll_mk1 (shut_bool Tryz.underlying4 true)
  · exact trodAll_mk3 (Trod_stays laidOut readGr rowGr hT0' (fun x hx => Below.sameAt hb x (hlt x (by simp [hx]))) (fun x hx => by simpa using hlt x (by simp [hx])))
      (shut_int Tryz.underlying3 q1) (shut_int Tryz.underlying3 q2)
  · rfl

theorem errs_of_kframed {W : World} (h : laidMetH Tryz.prog Rows.framedRow.laid W) : ∃ A, Errs W.heap.size A W := errs_of h
theorem door_met_kframed (os : Os) (args : Array Value) : laidMetH Tryz.prog Rows.framedRow.laid ((World.doorLaid Tryz.prog 400 os).forCall (fun _ _ => 0) ⟨#[], args, []⟩).memory :=
  laidMetH_of_parts3 (fuel := 8) (laidMet_of_run' 8 (by kernel_rfl) (by kernel_rfl)) (by kernel_rfl) (by kernel_rfl)

set_option maxRecDepth 100000 in
theorem lifted_kframed {R : (Nat → Prop) → World → Nat → Tm.H → Prop} (K : ∀ N A, ProgAll R N A) (KN : ∀ N A, NewOK R N A) (os : Os) (started : os.Started) (H : Type) (enc : TypeId × Value → H) :
    ReturnsInHanded {} Tryz.checked os 11 .any (fun w args => (Rows.framedSpec.pre enc Tryz.prog Tryz.f11 [] false w args ∧ laidMetH Tryz.prog Rows.framedRow.laid w) ∧ sizedMet enc Tryz.prog Tryz.f11 (OpenSpec.ofChange Rows.framedSpec) false w args)
      (Rows.framedSpec.post enc Tryz.prog Tryz.f11 false true false false) := by
  refine returnsInHanded_of_change_and (C := Tryz.checked) (X := fun w _ => laidMetH Tryz.prog Rows.framedRow.laid w) (fun _ _ _ hh h => h.of_heap hh) own started (by kernel_rfl) Tryz.func11
    (ChangeSpec.witness_shaped (enc := enc) (C := Tryz.checked) (os := os) (X := fun w _ => laidMetH Tryz.prog Rows.framedRow.laid w) false (World.doorLaid Tryz.prog 400 os) #[.agg #[.int .i64 0, .slice none 0 0, .slice none 0 0], .int .i64 0, .int .i64 0] 8 rfl (World.shaped_of_RefB (by kernel_rfl) (by kernel_rfl)) (by kernel_rfl) (by kernel_rfl) (by kernel_rfl) (door_met_kframed os _)) ?_
  intro W base args ds gs before hval0 hW _ _ hL _
  obtain ⟨A, hE⟩ := errs_of_kframed hL
  exact kframed_contract (K _ A) (KN _ A) enc hE hval0 hW

theorem kframed_holds {R : (Nat → Prop) → World → Nat → Tm.H → Prop} (K : ∀ N A, ProgAll R N A) (KN : ∀ N A, NewOK R N A) : Rows.FramedSaid :=
  OpenClaim.holds_of_wide 11 Tryz.f11 rfl rfl rfl rfl rfl rfl rfl ⟨rfl, rfl, rfl, rfl, rfl⟩ rfl rfl rfl rfl rfl (by kernel_rfl) Tryz.func11 (by kernel_rfl)
    (of_decide_eq_true (by kernel_rfl)) (by unfold Func.isWrapper; rw [if_neg (of_decide_eq_false (by kernel_rfl))]; exact ⟨rfl, rfl⟩)
    (fun os started H enc _ => lifted_kframed K KN os started H enc)

theorem framed_card_of {R : (Nat → Prop) → World → Nat → Tm.H → Prop} (K : ∀ N A, ProgAll R N A) (KN : ∀ N A, NewOK R N A) : Rows.FramedCardSaid :=
  Claim7.holds_tied_plain_at .later [] [.handle, .sentinel, .sentinel, .sentinel, .sentinel, .sentinel, .sentinel, .sentinel, .sentinel, .sentinel, .sentinel] true Rows.framedCard.stood.harness true
    (kframed_holds K KN) (fun _ h => by cases h) (by kernel_rfl) (fun _ h => by cases h) framed_row_tie rfl ⟨rfl, rfl⟩ (by kernel_rfl) rfl
    (fun f fn hf hfn => by
      obtain rfl : f = 11 := Option.some.inj ((show Tryz.prog.funcNamed Rows.framedRow.func = some 11 by kernel_rfl).symm.trans hf) |>.symm
      obtain rfl : fn = Tryz.f11 := (Option.some.inj (Tryz.func11.symm.trans hfn)).symm
      exact ⟨by kernel_rfl, fun j t ht => by
        rw [Tryz.params11] at ht
        match j, ht with
        | 0, ht =>
          obtain rfl : 28 = t := by simpa using ht
          exact noStandGr
        | 1, ht =>
          obtain rfl : 3 = t := by simpa using ht
          exact noStandN
        | 2, ht =>
          obtain rfl : 3 = t := by simpa using ht
          exact noStandN
        | j + 3, ht => simp at ht⟩)
    (by kernel_rfl)
end Go.Proofs.YtcnmfljpmpgnjaaGreatDoor

namespace Go.Proofs.YtcnmfljpmpgnjaaGreatDoor
theorem framed_card : Rows.FramedCardSaid := framed_card_of prog_all new_ok
end Go.Proofs.YtcnmfljpmpgnjaaGreatDoor
