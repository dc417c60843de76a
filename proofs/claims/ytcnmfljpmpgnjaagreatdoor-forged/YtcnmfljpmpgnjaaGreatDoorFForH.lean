import Derived.Test.YtcnmfljpmpgnjaaGreatDoorFForG
namespace Go.Proofs.YtcnmfljpmpgnjaaGreatDoor
open Go.RowKit
open Tm (H Ob Sl Why GD Gh LayD)

section
variable {R : (Nat → Prop) → World → Nat → H → Prop} {N : Nat} {A : Nat → Addr}

theorem err_neq {w : World} (hE : Errs N A w) (i j : Nat) (hi : i < 10) (hj : j < 10) (hij : i ≠ j) : (binOp .neq 37 (.iface 261 (.pointer (some (A i)))) (.iface 261 (.pointer (some (A j))))).run Tryz.prog w = .ok (.bool true) w := by
  obtain ⟨_, _, _, q1⟩ := hE.blk i hi
  obtain ⟨_, _, _, q2⟩ := hE.blk j hj
  exact neq_other (hE.ne i j hi hj hij) q1 q2

/-- Forged, from where the word is known. -/
def FoPost (w : World) (e : Ending) (w' : World) : Prop := e = .returned (.bool true) ∧ Below w.heap.size w w'

set_option maxRecDepth 100000 in
set_option maxHeartbeats 8000000 in
theorem kforged_any (K : ProgOK R N A) (KN : NewOK R N A) (KF : FailOK R N A) (w : World) (hE : Errs N A w) (xn : Int) (hx1 : -9223372036854775808 ≤ xn) (hx2 : xn ≤ 9223372036854775807) (pv pr : Option Addr) (nv cv nr cr : Nat) (V : Nat → Int) (Rf : Nat → Nat → Int) (gi : GIn w pv nv V pr nr Rf) (word : Int) (ho1 : -9223372036854775808 ≤ word) (ho2 : word ≤ 9223372036854775807) (small : Bool) :
    Calls Tryz.prog 12 #[.agg #[.int .i64 xn, .slice pv nv cv, .slice pr nr cr], .int .i64 word, .bool small] w (FoPost w) := by
  have HK := hide K
  have HKF := hide KF
  have hb0 : Below w.heap.size w (w.alloc (.cells #[.int .i64 xn, .slice pv nv cv, .slice pr nr cr] 28)) := Below.alloc0 _ _
  have HLay := hide (lay_g K KN (w.alloc (.cells #[.int .i64 xn, .slice pv nv cv, .slice pr nr cr] 28)) (hE.below hb0 hE.le) xn hx1 hx2 pv pr nv cv nr cr V Rf (gi.below hb0))
  have HB0 := hide hb0
  have HPw := hide (fun w' => kpick_is word 20000 w' (by omega) (by omega) ho1 ho2)
  have hpw := pickN_lt word 20000 (by omega)
  generalize pickN word 20000 = pw at *
  clear K KN KF hE gi hb0
  go_enter Tryz.func12, Tryz.ntmps12
  go_wp2_with fail
  refine HLay.out.mono ?_
  rintro e w1 ⟨gb, p, r, h, d, W, rfl, hWb, st, g, gr, l, hn1, hdb, hdf⟩
  have hn10 := g.few
  have HBW : Hid (Below w.heap.size w W) := HB0.out.trans (hWb.mono HB0.out.size)
  obtain ⟨h1, ef, g1⟩ := g.freeL 0 (by omega) (by have := l.ge1 0 (by omega); have := Tm.lg_bd 0; rw [show (0 : Nat) + 0 = 0 from rfl] at *; omega) (by have := l.lo1 0 (by omega); rw [show (0 : Nat) + 0 = 0 from rfl] at this; omega)
  have ege : d.ge 0 = Tm.lg 0 := l.ge1 0 (by omega)
  rw [ege] at ef
  have xD : Gst R N A W (fun _ => False) gb d.n r w1.drew p h := st.dn HK.out.ok ⟨rfl, rfl, rfl, Nat.le_refl _, fun _ _ => rfl⟩
  have hzb : Tm.hand 1 0 (Tm.lg 0) < 9223372036854775808 := by decide
  have hfr := xD.hp.free HK.out xD.size (Tm.hand 1 0 (Tm.lg 0)) hzb
  rw [ef] at hfr
  have HFr := hide hfr
  have HXD := hide xD
  have cH := st.gm.h
  obtain ⟨cL, hcl⟩ := st.gm.read 0 (by omega) (gr.n0 0 (by omega)) (by omega)
  have cL' : w1.cell? ⟨gb, 2, none⟩ = some (.slice (some ⟨(r 0).b, 0, none⟩) d.n (r 0).c) := cL
  have c0 := hcl 0 (by show 0 < d.n * 1; omega)
  rw [gr.f0 0 (by omega)] at c0
  have HOw : Hid (ownG gb r gb ∧ ownG gb r (r 0).b) := ⟨Or.inl rfl, Or.inr ⟨0, by omega, by have := (st.gm.row 0 (by omega)).cap; have := gr.n0 0 (by omega); omega, rfl⟩⟩
  have HG1 := hide g1
  have HGr := hide gr
  have HL := hide l
  have bn1 : (0 : Int) < (d.n : Int) := by omega
  have bn2 : 0 < d.n := by omega
  clear hWb st g gr l hdb hdf hcl cL HLay HB0 xD hfr ef ege
  generalize Tm.hand 1 0 (Tm.lg 0) = z0 at *
  have cHd : w1.drew.cell? ⟨gb, 0, none⟩ = some (.pointer (some ⟨p, 0, none⟩)) := cH
  have cLd : w1.drew.cell? ⟨gb, 2, none⟩ = some (.slice (some ⟨(r 0).b, 0, none⟩) d.n (r 0).c) := cL'
  have c0d : w1.drew.cell? ⟨(r 0).b, 0, none⟩ = some (.int .i64 z0) := c0
  cases small
  · obtain ⟨wd, ewd⟩ : ∃ wd, word = wd := ⟨_, rfl⟩
    subst ewd
    have hwb : word < 9223372036854775808 := by omega
    clear HPw
    go_upto_region 6 with fail
    go_cut [9] (fun ev wx => ev = .nilIface ∧ Gst R N A W (fun _ => False) gb d.n r wx p h1)
    case first =>
      generalize (r 0).b = lb at *
      generalize (r 0).c = lc at *
      go_region_held3 (fun w' => w'.cell? ⟨gb, 0, none⟩ = some (.pointer (some ⟨p, 0, none⟩)) ∧ w'.cell? ⟨gb, 2, none⟩ = some (.slice (some ⟨lb, 0, none⟩) d.n lc) ∧ w'.cell? ⟨lb, 0, none⟩ = some (.int .i64 z0)) (first | (with_reducible exact ⟨by assumption, by assumption, by assumption⟩) | go_keep) (first
        | (go_at_call 23
           refine HFr.out.mono ?_
           rintro e w2 ⟨ev, rfl, he, x2, hz2, hk2⟩
           obtain rfl := he.nil rfl
           have HFin := hide (HXD.out.call x2 hz2 hk2)
           have e1 : w2.cell? ⟨gb, 0, none⟩ = some (.pointer (some ⟨p, 0, none⟩)) := by rw [cell_of (hk2 _ (Or.inl HOw.out.1))]; exact cH
           have e2 : w2.cell? ⟨gb, 2, none⟩ = some (.slice (some ⟨lb, 0, none⟩) d.n lc) := by rw [cell_of (hk2 _ (Or.inl HOw.out.1))]; exact cL'
           have e3 : w2.cell? ⟨lb, 0, none⟩ = some (.int .i64 z0) := by rw [cell_of (hk2 _ (Or.inl HOw.out.2))]; exact c0
           clear he x2 hz2 hk2))
      all_goals go_wp2_with fail
      all_goals go_meet
      all_goals exact ⟨rfl, HFin.out⟩
    case rest =>
      obtain ⟨rfl, st⟩ := hcut
      have HSt := hide st
      obtain ⟨l1, el1⟩ : ∃ l1, (List.range (d.n - 1)).map (fun i => Tm.hand 1 (1 + i) (Tm.lg (1 + i))) = l1 := ⟨_, rfl⟩
      obtain ⟨l2, el2⟩ : ∃ l2, (List.range d.n).map (fun i => Tm.hand 3 i 1) = l2 := ⟨_, rfl⟩
      have hll1 : l1.length = d.n - 1 := by rw [← el1]; simp
      have hll2 : l2.length = d.n := by rw [← el2]; simp
      obtain ⟨cL2, hcl2⟩ := st.gm.read 0 (by omega) (HGr.out.n0 0 (by omega)) (by omega)
      obtain ⟨cW2, hcw2⟩ := st.gm.read 1 (by omega) (HGr.out.n0 1 (by omega)) (by omega)
      have cLc : wc.cell? ⟨gb, 2, none⟩ = some (.slice (some ⟨(r 0).b, 0, none⟩) d.n (r 0).c) := cL2
      have cWc : wc.cell? ⟨gb, 3, none⟩ = some (.slice (some ⟨(r 1).b, 0, none⟩) d.n (r 1).c) := cW2
      have hcap : d.n ≤ (r 0).c := by have := (st.gm.row 0 (by omega)).cap; have := HGr.out.n0 0 (by omega); omega
      have HA1 : Hid (∀ q c, (0 < l1.length → q = some ⟨(r 0).b, 1, none⟩) → Calls Tryz.prog 28 #[.slice q (d.n - 1) c, .int .i64 word] wc fun e w' => e = .returned (.bool (decide (word ∈ l1))) ∧ w' = wc) := fun q c hq => kamong_o wc q c l1 (d.n - 1) hll1 (by omega) word (fun h0 => ⟨(r 0).b, 1, hq h0, fun i hi => by
        rw [hcl2 (1 + i) (by show 1 + i < d.n * 1; omega), HGr.out.f0 (1 + i) (by omega), ← el1, List.getD_eq_getElem?_getD]
        simp [show i < d.n - 1 by omega]⟩)
      have HA2 : Hid (Calls Tryz.prog 28 #[.slice (some ⟨(r 1).b, 0, none⟩) d.n (r 1).c, .int .i64 word] wc fun e w' => e = .returned (.bool (decide (word ∈ l2))) ∧ w' = wc) := kamong_o wc _ _ l2 d.n hll2 (by omega) word (fun h0 => ⟨(r 1).b, 0, rfl, fun i hi => by
        rw [Nat.zero_add, hcw2 i (by show i < d.n * 1; omega), HGr.out.f1 i (by omega), ← el2, List.getD_eq_getElem?_getD]
        simp [show i < d.n by omega]⟩)
      have HM1 : Hid (∀ j, 1 ≤ j → j < d.n → Tm.hand 1 j (Tm.lg j) ∈ l1) := fun j h1 h2 => by
        rw [← el1]
        exact List.mem_map.2 ⟨j - 1, List.mem_range.2 (by omega), by rw [show 1 + (j - 1) = j by omega]⟩
      have HM2 : Hid (∀ j, j < d.n → Tm.hand 3 j 1 ∈ l2) := fun j h2 => by
        rw [← el2]
        exact List.mem_map.2 ⟨j, List.mem_range.2 h2, rfl⟩
      have HBc := hide st.hp.below
      have HLl : Hid (l1.length = d.n - 1) := hll1
      clear st hcl2 hcw2 cL2 cW2 el1 el2 hll1 hll2 cH cL' c0 cHd cLd c0d HFr HXD
      go_upto_region 7 with fail
      go_cut [10] (fun v wx => v = .bool (decide (word ∈ l1) || decide (word ∈ l2)) ∧ wx = wc)
      case first =>
        generalize (r 0).b = lb at *
        generalize (r 0).c = lc at *
        generalize (r 1).b = wb at *
        generalize (r 1).c = wcc at *
        cases h1 : decide (word ∈ l1)
        · rw [h1] at HA1
          by_cases hc1 : lc = 1
          · subst hc1
            have hdn : d.n = 1 := by omega
            have ha1 := HA1.out (some ⟨lb, 0, none⟩) 0 (fun h0 => by rw [HLl.out] at h0; omega)
            rw [hdn] at ha1
            have HA3 := hide ha1
            go_wp2_with fail
            refine HA3.out.mono ?_
            rintro e w9 ⟨rfl, h9⟩
            rw [h9]
            clear h9
            go_wp2_with fail
            rw [hdn] at HA2
            refine HA2.out.mono ?_
            rintro e w9 ⟨rfl, h9⟩
            rw [h9]
            clear h9
            go_wp2_with fail
            all_goals go_meet
            all_goals exact ⟨by first | rfl | simp [h1], rfl⟩
          · have HA3 := hide (HA1.out (some ⟨lb, 1, none⟩) (lc - 1) (fun _ => rfl))
            go_wp2_with fail
            refine HA3.out.mono ?_
            rintro e w9 ⟨rfl, h9⟩
            rw [h9]
            clear h9
            go_wp2_with fail
            refine HA2.out.mono ?_
            rintro e w9 ⟨rfl, h9⟩
            rw [h9]
            clear h9
            go_wp2_with fail
            all_goals go_meet
            all_goals exact ⟨by first | rfl | simp [h1], rfl⟩
        · rw [h1] at HA1
          have hdn2 : 2 ≤ d.n := by
            have hm : word ∈ l1 := by simpa using h1
            have := List.length_pos_of_mem hm
            have := HLl.out
            omega
          have hc1 : ¬ lc = 1 := by omega
          have HA3 := hide (HA1.out (some ⟨lb, 1, none⟩) (lc - 1) (fun _ => rfl))
          go_wp2_with fail
          refine HA3.out.mono ?_
          rintro e w9 ⟨rfl, h9⟩
          rw [h9]
          clear h9
          go_wp2_with fail
          all_goals go_meet
          all_goals exact ⟨by first | rfl | simp [h1], rfl⟩
      case rest =>
        obtain ⟨rfl, hwx⟩ := hcut
        subst hwx
        cases hgd : (decide (word ∈ l1) || decide (word ∈ l2))
        · have hnn : word ∉ l1 ∧ word ∉ l2 := by simpa using hgd
          obtain ⟨y, ey, hy0, hy1⟩ := Tm.forged_of HL.out HG1.out word (fun j h1 h2 e => hnn.1 (e ▸ HM1.out j h1 h2)) (fun j h2 e => hnn.2 (e ▸ HM2.out j h2))
          have HEy := hide ey
          have HY0 := hide hy0
          have HY1 := hide hy1
          have HYn : Hid (y ≠ 0) := by
            by_cases q : word = 0
            · have := hy0 q; show y ≠ 0; omega
            · have := hy1 q; show y ≠ 0; omega
          have HNz : Hid ((h1.of word).2.reason ≠ 0) := by rw [ey]; exact HYn.out
          have hst := HSt.out.hp.stats HK.out HSt.out.size
          have HSs := hide hst
          have cHc := HSt.out.gm.h
          have hs6 : stats6 h1 = #[.int .i64 (Tm.countOf h1.l), .int .i64 (Tm.roomOf h1.l), .int .i64 (Tm.takenOf (h1.t 1)), .int .i64 (Tm.takenOf (h1.t 2)), .int .i64 (Tm.takenOf (h1.t 3)), .int .i64 h1.frames] := rfl
          rw [hs6] at HSs
          have HS6 := hide hs6
          clear hnn ey hy0 hy1 hst hs6 HA1 HA2 HM1 HM2 hgd cLc cWc
          generalize Tm.countOf h1.l = s1 at *
          generalize Tm.roomOf h1.l = s2 at *
          generalize Tm.takenOf (h1.t 1) = s3 at *
          generalize Tm.takenOf (h1.t 2) = s4 at *
          generalize Tm.takenOf (h1.t 3) = s5 at *
          generalize h1.frames = s6 at *
          go_wp2_with fail
          refine HSs.out.mono ?_
          rintro e w2 ⟨rfl, x2, hb2⟩
          obtain ⟨S, hr2, hS2⟩ := x2.at'
          have hlt2 := HK.out.ok.lt _ _ _ _ hr2
          have st2 := HSt.out.dn HK.out.ok hb2
          have HGl0 : Hid (gb < w2.heap.size ∧ ¬ S gb) := ⟨st2.gm.lt, fun q => (hS2 gb q).2 (Or.inl (Or.inl rfl))⟩
          have cH2 := st2.gm.h
          have HN : Hid (∀ b, S b → N ≤ b) := fun b hb => Nat.le_trans x2.le (hS2 b hb).1
          have HBe : Hid (∀ b, S b → W.heap.size ≤ b) := fun b hb => (hS2 b hb).1
          have HB2 := hide x2.below
          have F00 : Hid (∀ o, Fs R N A S (w2.alloc o) p h1 (w2.alloc o)) := fun o => ⟨HK.out.ok.same _ _ _ _ _ hr2 (fun b hb => (Below.alloc0 w2 o).block b (hlt2 b hb)) (Below.alloc0 w2 o).size, x2.errs.below (Below.alloc0 w2 o) x2.errs.le, Kept.refl _ _⟩
          have HSl0 := hide hlt2
          have HB7 : Hid (∀ c t, (w2.alloc (.cells c t)).heap[w2.heap.size]? = some (.cells c t (0, 0))) := fun c t => by simpa using heap_alloc_new w2 (.cells c t)
          have cH2' : ∀ o, (w2.alloc o).cell? ⟨gb, 0, none⟩ = some (.pointer (some ⟨p, 0, none⟩)) := fun o => by rw [(Below.alloc0 w2 o).cell (by show gb < _; exact st2.gm.lt)]; exact cH2
          clear x2 hb2 hr2 hS2 hlt2 st2 HSs cHc cH2 HSt
          go_wp2_with fail
          obtain ⟨v0, ev0⟩ : ∃ v0, w2.alloc (.cells #[.int .i64 s1, .int .i64 s2, .int .i64 s3, .int .i64 s4, .int .i64 s5, .int .i64 s6] 44) = v0 := ⟨_, rfl⟩
          rw [ev0]
          have hz0 : v0.heap.size = w2.heap.size + 1 := by rw [← ev0]; simp
          have F0 : Hid (Fs R N A S v0 p h1 v0) := by rw [← ev0]; exact F00.out _
          have HGl : Hid (gb < v0.heap.size ∧ ¬ S gb ∧ ¬ S w2.heap.size) := ⟨by have := HGl0.out.1; omega, HGl0.out.2, fun q => by have := HSl0.out _ q; omega⟩
          have HSl : Hid (∀ b, S b → b < v0.heap.size) := fun b hb => by have := HSl0.out b hb; omega
          have cHv : v0.cell? ⟨gb, 0, none⟩ = some (.pointer (some ⟨p, 0, none⟩)) := by rw [← ev0]; exact cH2' _
          have HB70 : Hid (v0.heap[w2.heap.size]? = some (.cells #[.int .i64 s1, .int .i64 s2, .int .i64 s3, .int .i64 s4, .int .i64 s5, .int .i64 s6] 44 (0, 0))) := by rw [← ev0]; exact HB7.out _ _
          have HBv : Hid (Below w.heap.size w v0) := by rw [← ev0]; exact HBW.out.trans ((HB2.out.mono HBW.out.size).trans ((Below.alloc0 w2 _).mono (Nat.le_trans HBW.out.size HB2.out.size)))
          have HSz : Hid (w2.heap.size < v0.heap.size ∧ w.heap.size ≤ W.heap.size) := ⟨by omega, HBW.out.size⟩
          clear F00 HGl0 HSl0 HB7 cH2' hz0 HBc HB2
          generalize w2.heap.size = sb at *
          clear ev0
          have hc1 := HKF.out.get S v0 p h1 word 0 F0.out.r F0.out.errs HN.out hwb HNz.out
          rw [HEy.out] at hc1
          have HC1 := hide hc1
          have cH1 : v0.cell? ⟨gb, 0, none⟩ = some (.pointer (some ⟨p, 0, none⟩)) := by rw [cell_of (F0.out.kept.block gb HGl.out.1 HGl.out.2.1)]; exact cHv
          clear hc1
          refine HC1.out.mono ?_
          rintro e v1 ⟨ev1, rfl, he1, hr1, hk1⟩
          obtain ⟨b1, rfl⟩ := he1.1.some (by simpa using HYn.out)
          have F1 : Hid (Fs R N A S v0 p h1 v1) := F0.out.next HN.out hr1 hk1
          have G1 : Hid (ErrAt A v0 v1 (.iface 101 (.pointer (some ⟨b1, 0, none⟩))) ⟨y, word⟩) := he1.at (F0.out.kept.size)
          clear he1 hr1 hk1 HC1 cH1
          have hc2 := HKF.out.set S v1 p h1 word 0 1 F1.out.r F1.out.errs HN.out hwb HNz.out
          rw [HEy.out] at hc2
          have HC2 := hide hc2
          have cH2 : v1.cell? ⟨gb, 0, none⟩ = some (.pointer (some ⟨p, 0, none⟩)) := by rw [cell_of (F1.out.kept.block gb HGl.out.1 HGl.out.2.1)]; exact cHv
          clear hc2
          go_wp2_with fail
          refine HC2.out.mono ?_
          rintro e v2 ⟨ev2, rfl, he2, hr2, hk2⟩
          obtain ⟨b2, rfl⟩ := he2.1.some (by simpa using HYn.out)
          have F2 : Hid (Fs R N A S v0 p h1 v2) := F1.out.next HN.out hr2 hk2
          have G1 : Hid (ErrAt A v0 v2 (.iface 101 (.pointer (some ⟨b1, 0, none⟩))) ⟨y, word⟩) := G1.out.next HSl.out hk2
          have G2 : Hid (ErrAt A v0 v2 (.iface 101 (.pointer (some ⟨b2, 0, none⟩))) ⟨y, word⟩) := he2.at (F1.out.kept.size)
          clear he2 hr2 hk2 HC2 cH2
          have hc3 := HKF.out.follow S v2 p h1 word 1 F2.out.r F2.out.errs HN.out hwb HNz.out
          rw [HEy.out] at hc3
          have HC3 := hide hc3
          have cH3 : v2.cell? ⟨gb, 0, none⟩ = some (.pointer (some ⟨p, 0, none⟩)) := by rw [cell_of (F2.out.kept.block gb HGl.out.1 HGl.out.2.1)]; exact cHv
          clear hc3
          go_wp2_with fail
          refine HC3.out.mono ?_
          rintro e v3 ⟨ev3, rfl, he3, hr3, hk3⟩
          obtain ⟨b3, rfl⟩ := he3.1.some (by simpa using HYn.out)
          have F3 : Hid (Fs R N A S v0 p h1 v3) := F2.out.next HN.out hr3 hk3
          have G1 : Hid (ErrAt A v0 v3 (.iface 101 (.pointer (some ⟨b1, 0, none⟩))) ⟨y, word⟩) := G1.out.next HSl.out hk3
          have G2 : Hid (ErrAt A v0 v3 (.iface 101 (.pointer (some ⟨b2, 0, none⟩))) ⟨y, word⟩) := G2.out.next HSl.out hk3
          have G3 : Hid (ErrAt A v0 v3 (.iface 101 (.pointer (some ⟨b3, 0, none⟩))) ⟨y, word⟩) := he3.at (F2.out.kept.size)
          clear he3 hr3 hk3 HC3 cH3
          have hc4 := HKF.out.point S v3 p h1 word 1 0 F3.out.r F3.out.errs HN.out hwb (by omega) HNz.out
          rw [HEy.out] at hc4
          have HC4 := hide hc4
          have cH4 : v3.cell? ⟨gb, 0, none⟩ = some (.pointer (some ⟨p, 0, none⟩)) := by rw [cell_of (F3.out.kept.block gb HGl.out.1 HGl.out.2.1)]; exact cHv
          clear hc4
          go_wp2_with fail
          refine HC4.out.mono ?_
          rintro e v4 ⟨ev4, rfl, he4, hr4, hk4⟩
          obtain ⟨b4, rfl⟩ := he4.1.some (by simpa using HYn.out)
          have F4 : Hid (Fs R N A S v0 p h1 v4) := F3.out.next HN.out hr4 hk4
          have G1 : Hid (ErrAt A v0 v4 (.iface 101 (.pointer (some ⟨b1, 0, none⟩))) ⟨y, word⟩) := G1.out.next HSl.out hk4
          have G2 : Hid (ErrAt A v0 v4 (.iface 101 (.pointer (some ⟨b2, 0, none⟩))) ⟨y, word⟩) := G2.out.next HSl.out hk4
          have G3 : Hid (ErrAt A v0 v4 (.iface 101 (.pointer (some ⟨b3, 0, none⟩))) ⟨y, word⟩) := G3.out.next HSl.out hk4
          have G4 : Hid (ErrAt A v0 v4 (.iface 101 (.pointer (some ⟨b4, 0, none⟩))) ⟨y, word⟩) := he4.at (F3.out.kept.size)
          clear he4 hr4 hk4 HC4 cH4
          have hc5 := HKF.out.ref S v4 p h1 1 word F4.out.r F4.out.errs HN.out hwb HNz.out rfl
          rw [HEy.out] at hc5
          have HC5 := hide hc5
          have cH5 : v4.cell? ⟨gb, 0, none⟩ = some (.pointer (some ⟨p, 0, none⟩)) := by rw [cell_of (F4.out.kept.block gb HGl.out.1 HGl.out.2.1)]; exact cHv
          clear hc5
          go_wp2_with fail
          refine HC5.out.mono ?_
          rintro e v5 ⟨ev5, rfl, he5, hr5, hk5⟩
          obtain ⟨b5, rfl⟩ := he5.1.some (by simpa using HYn.out)
          have F5 : Hid (Fs R N A S v0 p h1 v5) := F4.out.next HN.out hr5 hk5
          have G1 : Hid (ErrAt A v0 v5 (.iface 101 (.pointer (some ⟨b1, 0, none⟩))) ⟨y, word⟩) := G1.out.next HSl.out hk5
          have G2 : Hid (ErrAt A v0 v5 (.iface 101 (.pointer (some ⟨b2, 0, none⟩))) ⟨y, word⟩) := G2.out.next HSl.out hk5
          have G3 : Hid (ErrAt A v0 v5 (.iface 101 (.pointer (some ⟨b3, 0, none⟩))) ⟨y, word⟩) := G3.out.next HSl.out hk5
          have G4 : Hid (ErrAt A v0 v5 (.iface 101 (.pointer (some ⟨b4, 0, none⟩))) ⟨y, word⟩) := G4.out.next HSl.out hk5
          have G5 : Hid (ErrAt A v0 v5 (.iface 101 (.pointer (some ⟨b5, 0, none⟩))) ⟨y, word⟩) := he5.at (F4.out.kept.size)
          clear he5 hr5 hk5 HC5 cH5
          have hc6 := HKF.out.free S v5 p h1 word F5.out.r F5.out.errs HN.out hwb HNz.out
          rw [HEy.out] at hc6
          have HC6 := hide hc6
          have cH6 : v5.cell? ⟨gb, 0, none⟩ = some (.pointer (some ⟨p, 0, none⟩)) := by rw [cell_of (F5.out.kept.block gb HGl.out.1 HGl.out.2.1)]; exact cHv
          clear hc6
          go_wp2_with fail
          refine HC6.out.mono ?_
          rintro e v6 ⟨ev6, rfl, he6, hr6, hk6⟩
          obtain ⟨b6, rfl⟩ := he6.1.some (by simpa using HYn.out)
          have F6 : Hid (Fs R N A S v0 p h1 v6) := F5.out.next HN.out hr6 hk6
          have G1 : Hid (ErrAt A v0 v6 (.iface 101 (.pointer (some ⟨b1, 0, none⟩))) ⟨y, word⟩) := G1.out.next HSl.out hk6
          have G2 : Hid (ErrAt A v0 v6 (.iface 101 (.pointer (some ⟨b2, 0, none⟩))) ⟨y, word⟩) := G2.out.next HSl.out hk6
          have G3 : Hid (ErrAt A v0 v6 (.iface 101 (.pointer (some ⟨b3, 0, none⟩))) ⟨y, word⟩) := G3.out.next HSl.out hk6
          have G4 : Hid (ErrAt A v0 v6 (.iface 101 (.pointer (some ⟨b4, 0, none⟩))) ⟨y, word⟩) := G4.out.next HSl.out hk6
          have G5 : Hid (ErrAt A v0 v6 (.iface 101 (.pointer (some ⟨b5, 0, none⟩))) ⟨y, word⟩) := G5.out.next HSl.out hk6
          have G6 : Hid (ErrAt A v0 v6 (.iface 101 (.pointer (some ⟨b6, 0, none⟩))) ⟨y, word⟩) := he6.at (F5.out.kept.size)
          clear he6 hr6 hk6 HC6 cH6
          have hc7 := HKF.out.pin S v6 p h1 word F6.out.r F6.out.errs HN.out hwb HNz.out
          rw [HEy.out] at hc7
          have HC7 := hide hc7
          have cH7 : v6.cell? ⟨gb, 0, none⟩ = some (.pointer (some ⟨p, 0, none⟩)) := by rw [cell_of (F6.out.kept.block gb HGl.out.1 HGl.out.2.1)]; exact cHv
          clear hc7
          go_wp2_with fail
          refine HC7.out.mono ?_
          rintro e v7 ⟨ev7, rfl, he7, hr7, hk7⟩
          obtain ⟨b7, rfl⟩ := he7.1.some (by simpa using HYn.out)
          have F7 : Hid (Fs R N A S v0 p h1 v7) := F6.out.next HN.out hr7 hk7
          have G1 : Hid (ErrAt A v0 v7 (.iface 101 (.pointer (some ⟨b1, 0, none⟩))) ⟨y, word⟩) := G1.out.next HSl.out hk7
          have G2 : Hid (ErrAt A v0 v7 (.iface 101 (.pointer (some ⟨b2, 0, none⟩))) ⟨y, word⟩) := G2.out.next HSl.out hk7
          have G3 : Hid (ErrAt A v0 v7 (.iface 101 (.pointer (some ⟨b3, 0, none⟩))) ⟨y, word⟩) := G3.out.next HSl.out hk7
          have G4 : Hid (ErrAt A v0 v7 (.iface 101 (.pointer (some ⟨b4, 0, none⟩))) ⟨y, word⟩) := G4.out.next HSl.out hk7
          have G5 : Hid (ErrAt A v0 v7 (.iface 101 (.pointer (some ⟨b5, 0, none⟩))) ⟨y, word⟩) := G5.out.next HSl.out hk7
          have G6 : Hid (ErrAt A v0 v7 (.iface 101 (.pointer (some ⟨b6, 0, none⟩))) ⟨y, word⟩) := G6.out.next HSl.out hk7
          have G7 : Hid (ErrAt A v0 v7 (.iface 101 (.pointer (some ⟨b7, 0, none⟩))) ⟨y, word⟩) := he7.at (F6.out.kept.size)
          clear he7 hr7 hk7 HC7 cH7
          have hc8 := HKF.out.unpin S v7 p h1 word F7.out.r F7.out.errs HN.out hwb HNz.out
          rw [HEy.out] at hc8
          have HC8 := hide hc8
          have cH8 : v7.cell? ⟨gb, 0, none⟩ = some (.pointer (some ⟨p, 0, none⟩)) := by rw [cell_of (F7.out.kept.block gb HGl.out.1 HGl.out.2.1)]; exact cHv
          clear hc8
          go_wp2_with fail
          refine HC8.out.mono ?_
          rintro e v8 ⟨ev8, rfl, he8, hr8, hk8⟩
          obtain ⟨b8, rfl⟩ := he8.1.some (by simpa using HYn.out)
          have F8 : Hid (Fs R N A S v0 p h1 v8) := F7.out.next HN.out hr8 hk8
          have G1 : Hid (ErrAt A v0 v8 (.iface 101 (.pointer (some ⟨b1, 0, none⟩))) ⟨y, word⟩) := G1.out.next HSl.out hk8
          have G2 : Hid (ErrAt A v0 v8 (.iface 101 (.pointer (some ⟨b2, 0, none⟩))) ⟨y, word⟩) := G2.out.next HSl.out hk8
          have G3 : Hid (ErrAt A v0 v8 (.iface 101 (.pointer (some ⟨b3, 0, none⟩))) ⟨y, word⟩) := G3.out.next HSl.out hk8
          have G4 : Hid (ErrAt A v0 v8 (.iface 101 (.pointer (some ⟨b4, 0, none⟩))) ⟨y, word⟩) := G4.out.next HSl.out hk8
          have G5 : Hid (ErrAt A v0 v8 (.iface 101 (.pointer (some ⟨b5, 0, none⟩))) ⟨y, word⟩) := G5.out.next HSl.out hk8
          have G6 : Hid (ErrAt A v0 v8 (.iface 101 (.pointer (some ⟨b6, 0, none⟩))) ⟨y, word⟩) := G6.out.next HSl.out hk8
          have G7 : Hid (ErrAt A v0 v8 (.iface 101 (.pointer (some ⟨b7, 0, none⟩))) ⟨y, word⟩) := G7.out.next HSl.out hk8
          have G8 : Hid (ErrAt A v0 v8 (.iface 101 (.pointer (some ⟨b8, 0, none⟩))) ⟨y, word⟩) := he8.at (F7.out.kept.size)
          clear he8 hr8 hk8 HC8 cH8
          clear HKF HOw HG1 HGr HL HEy HNz bn1 bn2 HLl
          go_wp2_with fail
          obtain ⟨v9, ev9⟩ : ∃ v9, v8.alloc (.cells #[.iface 101 (.pointer (some ⟨b1, 0, none⟩)), .iface 101 (.pointer (some ⟨b2, 0, none⟩)), .iface 101 (.pointer (some ⟨b3, 0, none⟩)), .iface 101 (.pointer (some ⟨b4, 0, none⟩)), .iface 101 (.pointer (some ⟨b5, 0, none⟩)), .iface 101 (.pointer (some ⟨b6, 0, none⟩)), .iface 101 (.pointer (some ⟨b7, 0, none⟩)), .iface 101 (.pointer (some ⟨b8, 0, none⟩))] 37) = v9 := ⟨_, rfl⟩
          rw [ev9]
          have hcv : ∀ i u, (#[.iface 101 (.pointer (some ⟨b1, 0, none⟩)), .iface 101 (.pointer (some ⟨b2, 0, none⟩)), .iface 101 (.pointer (some ⟨b3, 0, none⟩)), .iface 101 (.pointer (some ⟨b4, 0, none⟩)), .iface 101 (.pointer (some ⟨b5, 0, none⟩)), .iface 101 (.pointer (some ⟨b6, 0, none⟩)), .iface 101 (.pointer (some ⟨b7, 0, none⟩)), .iface 101 (.pointer (some ⟨b8, 0, none⟩))] : Array Value)[i]? = some u → v9.cell? ⟨v8.heap.size, i, none⟩ = some u := fun i u hu => by rw [← ev9, World.cell?_alloc_new]; exact hu
          have hb89 : Below v8.heap.size v8 v9 := by rw [← ev9]; exact Below.alloc0 _ _
          have HAll : Hid (∀ i, i < 8 → ∃ b, v9.cell? ⟨v8.heap.size, i, none⟩ = some (.iface 101 (.pointer (some ⟨b, 0, none⟩))) ∧ ErrIs A v9 (.iface 101 (.pointer (some ⟨b, 0, none⟩))) ⟨y, word⟩) := fun i hi => by
            have hi8 : i = 0 ∨ i = 1 ∨ i = 2 ∨ i = 3 ∨ i = 4 ∨ i = 5 ∨ i = 6 ∨ i = 7 := by omega
            rcases hi8 with rfl | rfl | rfl | rfl | rfl | rfl | rfl | rfl
            · exact ⟨b1, hcv 0 _ rfl, G1.out.1.below hb89⟩
            · exact ⟨b2, hcv 1 _ rfl, G2.out.1.below hb89⟩
            · exact ⟨b3, hcv 2 _ rfl, G3.out.1.below hb89⟩
            · exact ⟨b4, hcv 3 _ rfl, G4.out.1.below hb89⟩
            · exact ⟨b5, hcv 4 _ rfl, G5.out.1.below hb89⟩
            · exact ⟨b6, hcv 5 _ rfl, G6.out.1.below hb89⟩
            · exact ⟨b7, hcv 6 _ rfl, G7.out.1.below hb89⟩
            · exact ⟨b8, hcv 7 _ rfl, G8.out.1.below hb89⟩
          have hk9 : Kept S v0 v9 := F8.out.kept.trans (Kept.of_below hb89)
          have hr9 : R S v9 p h1 := HK.out.ok.same _ _ _ _ _ F8.out.r (fun b hb => hb89.block b (HK.out.ok.lt _ _ _ _ F8.out.r b hb)) hb89.size
          have hE9 : Errs N A v9 := F8.out.errs.below hb89 F8.out.errs.le
          have hbd : Below v9.heap.size v9 v9.drew := ⟨rfl, rfl, rfl, Nat.le_refl _, fun _ _ => rfl⟩
          have hsd := HK.out.stats S v9.drew p h1 (HK.out.ok.same _ _ _ _ _ hr9 (fun b hb => hbd.block b (HK.out.ok.lt _ _ _ _ hr9 b hb)) hbd.size) (hE9.below hbd hE9.le)
          rw [HS6.out] at hsd
          have HSd := hide hsd
          have hq : ∀ i u, (#[.int .i64 s1, .int .i64 s2, .int .i64 s3, .int .i64 s4, .int .i64 s5, .int .i64 s6] : Array Value)[i]? = some u → v9.cell? ⟨sb, i, none⟩ = some u := fun i u hu => by
            rw [cell_of (hk9.block sb HSz.out.1 HGl.out.2.2)]
            have := HB70.out
            simp only [World.cell?, this]
            exact hu
          have q0 := hq 0 _ rfl
          have q1 := hq 1 _ rfl
          have q2 := hq 2 _ rfl
          have q3 := hq 3 _ rfl
          have q4 := hq 4 _ rfl
          have q5 := hq 5 _ rfl
          have cH9 : v9.cell? ⟨gb, 0, none⟩ = some (.pointer (some ⟨p, 0, none⟩)) := by rw [cell_of (hk9.block gb HGl.out.1 HGl.out.2.1)]; exact cHv
          have HGz : Hid (gb < v9.heap.size ∧ sb < v9.heap.size) := ⟨by have := hk9.size; have := HGl.out.1; omega, by have := hk9.size; have := HSz.out.1; omega⟩
          have HB9 : Hid (Below w.heap.size w v9) := HBv.out.trans ⟨hk9.os, hk9.tape, hk9.output, hk9.size, fun k hk => hk9.block k (by have := HBv.out.size; omega) (fun q => by have := HBe.out k q; have := HSz.out.2; omega)⟩
          have HE9 := hide hE9
          have HQ : Hid (v9.cell? ⟨gb, 0, none⟩ = some (.pointer (some ⟨p, 0, none⟩)) ∧ v9.cell? ⟨sb, 0, none⟩ = some (.int .i64 s1) ∧ v9.cell? ⟨sb, 1, none⟩ = some (.int .i64 s2) ∧ v9.cell? ⟨sb, 2, none⟩ = some (.int .i64 s3) ∧ v9.cell? ⟨sb, 3, none⟩ = some (.int .i64 s4) ∧ v9.cell? ⟨sb, 4, none⟩ = some (.int .i64 s5) ∧ v9.cell? ⟨sb, 5, none⟩ = some (.int .i64 s6)) := ⟨cH9, q0, q1, q2, q3, q4, q5⟩
          clear ev9 hcv hb89 hk9 hr9 hE9 hbd hsd hq q0 q1 q2 q3 q4 q5 cH9 cHv HB70 HSl HN HBe HBv HSz HGl HS6 HK G1 G2 G3 G4 G5 G6 G7 G8 F0 F1 F2 F3 F4 F5 F6 F7 F8
          generalize v8.heap.size = ab at *
          go_loop [23, 24, 25] (fun iv _ _ => ∃ i : Nat, i ≤ 8 ∧ iv = .int .i64 i) (fun iv _ _ => 8 - (intOf iv).toNat)
          case atStart => exact ⟨0, by omega, rfl⟩
          case round =>
            obtain ⟨i, hi, rfl⟩ := hrel
            by_cases hlt : i < 8
            · have bi : (i : Int) < 8 := by omega
              obtain ⟨b, cb, eb⟩ := HAll.out i hlt
              have HW := hide (why_any A v9 _ _ eb)
              have HH := hide (handle_any A v9 _ _ eb HYn.out)
              have ge1 := HE9.out.g1
              have ge2 := HE9.out.g2
              have ge3 := HE9.out.g3
              clear eb HAll HQ HSd
              by_cases hw0 : word = 0
              · have hy : y = 2 := HY0.out hw0
                have ewy : whyE A ⟨y, word⟩ = .iface 261 (.pointer (some (A 1))) := by rw [hy]; rfl
                rw [ewy] at HW
                have hq1 := fun w' => neq_same w' (A 1)
                clear ewy hy
                subst hw0
                generalize A 1 = a1 at *
                generalize A 2 = a2 at *
                generalize A 3 = a3 at *
                go_wp2_with fail
                refine HW.out.mono ?_
                rintro e w9 ⟨rfl, h9⟩
                rw [h9]
                clear h9 HW
                go_wp2_with fail
                refine HH.out.mono ?_
                rintro e w9 ⟨rfl, h9⟩
                rw [h9]
                clear h9 HH
                go_wp2_with fail
                go_round
                case rel => exact ⟨i + 1, by omega, by go_num⟩
                case measure => simp [intOf]; omega
              · rcases HY1.out hw0 with hy3 | hy4
                · have hy : y = 3 := hy3
                  have ewy : whyE A ⟨y, word⟩ = .iface 261 (.pointer (some (A 2))) := by rw [hy]; rfl
                  rw [ewy] at HW
                  have hq2 := fun w' => neq_same w' (A 2)
                  clear ewy hy
                  generalize A 1 = a1 at *
                  generalize A 2 = a2 at *
                  generalize A 3 = a3 at *
                  go_wp2_with fail
                  refine HW.out.mono ?_
                  rintro e w9 ⟨rfl, h9⟩
                  rw [h9]
                  clear h9 HW
                  go_wp2_with fail
                  refine HH.out.mono ?_
                  rintro e w9 ⟨rfl, h9⟩
                  rw [h9]
                  clear h9 HH
                  go_wp2_with fail
                  go_round
                  case rel => exact ⟨i + 1, by omega, by go_num⟩
                  case measure => simp [intOf]; omega
                · have hy : y = 4 := hy4
                  have ewy : whyE A ⟨y, word⟩ = .iface 261 (.pointer (some (A 3))) := by rw [hy]; rfl
                  rw [ewy] at HW
                  have hq3 := fun w' => neq_same w' (A 3)
                  have hq2 := err_neq HE9.out 3 2 (by omega) (by omega) (by omega)
                  clear ewy hy
                  generalize A 1 = a1 at *
                  generalize A 2 = a2 at *
                  generalize A 3 = a3 at *
                  go_wp2_with fail
                  refine HW.out.mono ?_
                  rintro e w9 ⟨rfl, h9⟩
                  rw [h9]
                  clear h9 HW
                  go_wp2_with fail
                  refine HH.out.mono ?_
                  rintro e w9 ⟨rfl, h9⟩
                  rw [h9]
                  clear h9 HH
                  go_wp2_with fail
                  go_round
                  case rel => exact ⟨i + 1, by omega, by go_num⟩
                  case measure => simp [intOf]; omega
            · have bi : ¬ (i : Int) < 8 := by omega
              obtain ⟨cH9, q0, q1, q2, q3, q4, q5⟩ := HQ.out
              have cH9d : v9.drew.cell? ⟨gb, 0, none⟩ = some (.pointer (some ⟨p, 0, none⟩)) := cH9
              have q0d : v9.drew.cell? ⟨sb, 0, none⟩ = some (.int .i64 s1) := q0
              have q1d : v9.drew.cell? ⟨sb, 1, none⟩ = some (.int .i64 s2) := q1
              have q2d : v9.drew.cell? ⟨sb, 2, none⟩ = some (.int .i64 s3) := q2
              have q3d : v9.drew.cell? ⟨sb, 3, none⟩ = some (.int .i64 s4) := q3
              have q4d : v9.drew.cell? ⟨sb, 4, none⟩ = some (.int .i64 s5) := q4
              have q5d : v9.drew.cell? ⟨sb, 5, none⟩ = some (.int .i64 s6) := q5
              have hsix := fun w' => eql_sixK w' s1 s2 s3 s4 s5 s6
              clear HAll HQ HE9
              go_upto_region 29 with fail
              go_region_held3 (fun w' => w'.cell? ⟨gb, 0, none⟩ = some (.pointer (some ⟨p, 0, none⟩)) ∧ w'.cell? ⟨sb, 0, none⟩ = some (.int .i64 s1) ∧ w'.cell? ⟨sb, 1, none⟩ = some (.int .i64 s2) ∧ w'.cell? ⟨sb, 2, none⟩ = some (.int .i64 s3) ∧ w'.cell? ⟨sb, 3, none⟩ = some (.int .i64 s4) ∧ w'.cell? ⟨sb, 4, none⟩ = some (.int .i64 s5) ∧ w'.cell? ⟨sb, 5, none⟩ = some (.int .i64 s6)) (first | (with_reducible exact ⟨by assumption, by assumption, by assumption, by assumption, by assumption, by assumption, by assumption⟩) | go_keep) (first
                | (go_at_call 21
                   refine HSd.out.mono ?_
                   rintro e w2 ⟨rfl, hb2⟩
                   have HFin : Hid (Below w.heap.size w w2) := HB9.out.trans ((show Below w.heap.size v9 v9.drew from ⟨rfl, rfl, rfl, Nat.le_refl _, fun _ _ => rfl⟩).trans (hb2.mono HB9.out.size))
                   have e0 : w2.cell? ⟨gb, 0, none⟩ = some (.pointer (some ⟨p, 0, none⟩)) := by rw [hb2.cell HGz.out.1]; exact cH9
                   have e1 : w2.cell? ⟨sb, 0, none⟩ = some (.int .i64 s1) := by rw [hb2.cell HGz.out.2]; exact q0
                   have e2 : w2.cell? ⟨sb, 1, none⟩ = some (.int .i64 s2) := by rw [hb2.cell HGz.out.2]; exact q1
                   have e3 : w2.cell? ⟨sb, 2, none⟩ = some (.int .i64 s3) := by rw [hb2.cell HGz.out.2]; exact q2
                   have e4 : w2.cell? ⟨sb, 3, none⟩ = some (.int .i64 s4) := by rw [hb2.cell HGz.out.2]; exact q3
                   have e5 : w2.cell? ⟨sb, 4, none⟩ = some (.int .i64 s5) := by rw [hb2.cell HGz.out.2]; exact q4
                   have e6 : w2.cell? ⟨sb, 5, none⟩ = some (.int .i64 s6) := by rw [hb2.cell HGz.out.2]; exact q5
                   clear hb2))
              all_goals go_wp2_with fail
              all_goals go_ret
              all_goals exact ⟨rfl, HFin.out⟩
        · have HBr : Hid (Below w.heap.size w wc) := HBW.out.trans (HBc.out.mono HBW.out.size)
          go_wp2_with fail
          go_ret
          exact ⟨rfl, HBr.out⟩
  · obtain ⟨wd, ewd⟩ : ∃ wd, (pw : Int) = wd := ⟨_, rfl⟩
    have hwb : wd < 9223372036854775808 := by omega
    rw [ewd] at HPw
    clear ewd hpw
    go_wp2_with fail
    refine (HPw.out _).mono ?_
    rintro e w9 ⟨rfl, h9⟩
    rw [h9]
    clear h9 HPw
    go_upto_region 6 with fail
    go_cut [9] (fun ev wx => ev = .nilIface ∧ Gst R N A W (fun _ => False) gb d.n r wx p h1)
    case first =>
      generalize (r 0).b = lb at *
      generalize (r 0).c = lc at *
      go_region_held3 (fun w' => w'.cell? ⟨gb, 0, none⟩ = some (.pointer (some ⟨p, 0, none⟩)) ∧ w'.cell? ⟨gb, 2, none⟩ = some (.slice (some ⟨lb, 0, none⟩) d.n lc) ∧ w'.cell? ⟨lb, 0, none⟩ = some (.int .i64 z0)) (first | (with_reducible exact ⟨by assumption, by assumption, by assumption⟩) | go_keep) (first
        | (go_at_call 23
           refine HFr.out.mono ?_
           rintro e w2 ⟨ev, rfl, he, x2, hz2, hk2⟩
           obtain rfl := he.nil rfl
           have HFin := hide (HXD.out.call x2 hz2 hk2)
           have e1 : w2.cell? ⟨gb, 0, none⟩ = some (.pointer (some ⟨p, 0, none⟩)) := by rw [cell_of (hk2 _ (Or.inl HOw.out.1))]; exact cH
           have e2 : w2.cell? ⟨gb, 2, none⟩ = some (.slice (some ⟨lb, 0, none⟩) d.n lc) := by rw [cell_of (hk2 _ (Or.inl HOw.out.1))]; exact cL'
           have e3 : w2.cell? ⟨lb, 0, none⟩ = some (.int .i64 z0) := by rw [cell_of (hk2 _ (Or.inl HOw.out.2))]; exact c0
           clear he x2 hz2 hk2))
      all_goals go_wp2_with fail
      all_goals go_meet
      all_goals exact ⟨rfl, HFin.out⟩
    case rest =>
      obtain ⟨rfl, st⟩ := hcut
      have HSt := hide st
      obtain ⟨l1, el1⟩ : ∃ l1, (List.range (d.n - 1)).map (fun i => Tm.hand 1 (1 + i) (Tm.lg (1 + i))) = l1 := ⟨_, rfl⟩
      obtain ⟨l2, el2⟩ : ∃ l2, (List.range d.n).map (fun i => Tm.hand 3 i 1) = l2 := ⟨_, rfl⟩
      have hll1 : l1.length = d.n - 1 := by rw [← el1]; simp
      have hll2 : l2.length = d.n := by rw [← el2]; simp
      obtain ⟨cL2, hcl2⟩ := st.gm.read 0 (by omega) (HGr.out.n0 0 (by omega)) (by omega)
      obtain ⟨cW2, hcw2⟩ := st.gm.read 1 (by omega) (HGr.out.n0 1 (by omega)) (by omega)
      have cLc : wc.cell? ⟨gb, 2, none⟩ = some (.slice (some ⟨(r 0).b, 0, none⟩) d.n (r 0).c) := cL2
      have cWc : wc.cell? ⟨gb, 3, none⟩ = some (.slice (some ⟨(r 1).b, 0, none⟩) d.n (r 1).c) := cW2
      have hcap : d.n ≤ (r 0).c := by have := (st.gm.row 0 (by omega)).cap; have := HGr.out.n0 0 (by omega); omega
      have HA1 : Hid (∀ q c, (0 < l1.length → q = some ⟨(r 0).b, 1, none⟩) → Calls Tryz.prog 28 #[.slice q (d.n - 1) c, .int .i64 wd] wc fun e w' => e = .returned (.bool (decide (wd ∈ l1))) ∧ w' = wc) := fun q c hq => kamong_o wc q c l1 (d.n - 1) hll1 (by omega) wd (fun h0 => ⟨(r 0).b, 1, hq h0, fun i hi => by
        rw [hcl2 (1 + i) (by show 1 + i < d.n * 1; omega), HGr.out.f0 (1 + i) (by omega), ← el1, List.getD_eq_getElem?_getD]
        simp [show i < d.n - 1 by omega]⟩)
      have HA2 : Hid (Calls Tryz.prog 28 #[.slice (some ⟨(r 1).b, 0, none⟩) d.n (r 1).c, .int .i64 wd] wc fun e w' => e = .returned (.bool (decide (wd ∈ l2))) ∧ w' = wc) := kamong_o wc _ _ l2 d.n hll2 (by omega) wd (fun h0 => ⟨(r 1).b, 0, rfl, fun i hi => by
        rw [Nat.zero_add, hcw2 i (by show i < d.n * 1; omega), HGr.out.f1 i (by omega), ← el2, List.getD_eq_getElem?_getD]
        simp [show i < d.n by omega]⟩)
      have HM1 : Hid (∀ j, 1 ≤ j → j < d.n → Tm.hand 1 j (Tm.lg j) ∈ l1) := fun j h1 h2 => by
        rw [← el1]
        exact List.mem_map.2 ⟨j - 1, List.mem_range.2 (by omega), by rw [show 1 + (j - 1) = j by omega]⟩
      have HM2 : Hid (∀ j, j < d.n → Tm.hand 3 j 1 ∈ l2) := fun j h2 => by
        rw [← el2]
        exact List.mem_map.2 ⟨j, List.mem_range.2 h2, rfl⟩
      have HBc := hide st.hp.below
      have HLl : Hid (l1.length = d.n - 1) := hll1
      clear st hcl2 hcw2 cL2 cW2 el1 el2 hll1 hll2 cH cL' c0 cHd cLd c0d HFr HXD
      go_upto_region 7 with fail
      go_cut [10] (fun v wx => v = .bool (decide (wd ∈ l1) || decide (wd ∈ l2)) ∧ wx = wc)
      case first =>
        generalize (r 0).b = lb at *
        generalize (r 0).c = lc at *
        generalize (r 1).b = wb at *
        generalize (r 1).c = wcc at *
        cases h1 : decide (wd ∈ l1)
        · rw [h1] at HA1
          by_cases hc1 : lc = 1
          · subst hc1
            have hdn : d.n = 1 := by omega
            have ha1 := HA1.out (some ⟨lb, 0, none⟩) 0 (fun h0 => by rw [HLl.out] at h0; omega)
            rw [hdn] at ha1
            have HA3 := hide ha1
            go_wp2_with fail
            refine HA3.out.mono ?_
            rintro e w9 ⟨rfl, h9⟩
            rw [h9]
            clear h9
            go_wp2_with fail
            rw [hdn] at HA2
            refine HA2.out.mono ?_
            rintro e w9 ⟨rfl, h9⟩
            rw [h9]
            clear h9
            go_wp2_with fail
            all_goals go_meet
            all_goals exact ⟨by first | rfl | simp [h1], rfl⟩
          · have HA3 := hide (HA1.out (some ⟨lb, 1, none⟩) (lc - 1) (fun _ => rfl))
            go_wp2_with fail
            refine HA3.out.mono ?_
            rintro e w9 ⟨rfl, h9⟩
            rw [h9]
            clear h9
            go_wp2_with fail
            refine HA2.out.mono ?_
            rintro e w9 ⟨rfl, h9⟩
            rw [h9]
            clear h9
            go_wp2_with fail
            all_goals go_meet
            all_goals exact ⟨by first | rfl | simp [h1], rfl⟩
        · rw [h1] at HA1
          have hdn2 : 2 ≤ d.n := by
            have hm : wd ∈ l1 := by simpa using h1
            have := List.length_pos_of_mem hm
            have := HLl.out
            omega
          have hc1 : ¬ lc = 1 := by omega
          have HA3 := hide (HA1.out (some ⟨lb, 1, none⟩) (lc - 1) (fun _ => rfl))
          go_wp2_with fail
          refine HA3.out.mono ?_
          rintro e w9 ⟨rfl, h9⟩
          rw [h9]
          clear h9
          go_wp2_with fail
          all_goals go_meet
          all_goals exact ⟨by first | rfl | simp [h1], rfl⟩
      case rest =>
        obtain ⟨rfl, hwx⟩ := hcut
        subst hwx
        cases hgd : (decide (wd ∈ l1) || decide (wd ∈ l2))
        · have hnn : wd ∉ l1 ∧ wd ∉ l2 := by simpa using hgd
          obtain ⟨y, ey, hy0, hy1⟩ := Tm.forged_of HL.out HG1.out wd (fun j h1 h2 e => hnn.1 (e ▸ HM1.out j h1 h2)) (fun j h2 e => hnn.2 (e ▸ HM2.out j h2))
          have HEy := hide ey
          have HY0 := hide hy0
          have HY1 := hide hy1
          have HYn : Hid (y ≠ 0) := by
            by_cases q : wd = 0
            · have := hy0 q; show y ≠ 0; omega
            · have := hy1 q; show y ≠ 0; omega
          have HNz : Hid ((h1.of wd).2.reason ≠ 0) := by rw [ey]; exact HYn.out
          have hst := HSt.out.hp.stats HK.out HSt.out.size
          have HSs := hide hst
          have cHc := HSt.out.gm.h
          have hs6 : stats6 h1 = #[.int .i64 (Tm.countOf h1.l), .int .i64 (Tm.roomOf h1.l), .int .i64 (Tm.takenOf (h1.t 1)), .int .i64 (Tm.takenOf (h1.t 2)), .int .i64 (Tm.takenOf (h1.t 3)), .int .i64 h1.frames] := rfl
          rw [hs6] at HSs
          have HS6 := hide hs6
          clear hnn ey hy0 hy1 hst hs6 HA1 HA2 HM1 HM2 hgd cLc cWc
          generalize Tm.countOf h1.l = s1 at *
          generalize Tm.roomOf h1.l = s2 at *
          generalize Tm.takenOf (h1.t 1) = s3 at *
          generalize Tm.takenOf (h1.t 2) = s4 at *
          generalize Tm.takenOf (h1.t 3) = s5 at *
          generalize h1.frames = s6 at *
          go_wp2_with fail
          refine HSs.out.mono ?_
          rintro e w2 ⟨rfl, x2, hb2⟩
          obtain ⟨S, hr2, hS2⟩ := x2.at'
          have hlt2 := HK.out.ok.lt _ _ _ _ hr2
          have st2 := HSt.out.dn HK.out.ok hb2
          have HGl0 : Hid (gb < w2.heap.size ∧ ¬ S gb) := ⟨st2.gm.lt, fun q => (hS2 gb q).2 (Or.inl (Or.inl rfl))⟩
          have cH2 := st2.gm.h
          have HN : Hid (∀ b, S b → N ≤ b) := fun b hb => Nat.le_trans x2.le (hS2 b hb).1
          have HBe : Hid (∀ b, S b → W.heap.size ≤ b) := fun b hb => (hS2 b hb).1
          have HB2 := hide x2.below
          have F00 : Hid (∀ o, Fs R N A S (w2.alloc o) p h1 (w2.alloc o)) := fun o => ⟨HK.out.ok.same _ _ _ _ _ hr2 (fun b hb => (Below.alloc0 w2 o).block b (hlt2 b hb)) (Below.alloc0 w2 o).size, x2.errs.below (Below.alloc0 w2 o) x2.errs.le, Kept.refl _ _⟩
          have HSl0 := hide hlt2
          have HB7 : Hid (∀ c t, (w2.alloc (.cells c t)).heap[w2.heap.size]? = some (.cells c t (0, 0))) := fun c t => by simpa using heap_alloc_new w2 (.cells c t)
          have cH2' : ∀ o, (w2.alloc o).cell? ⟨gb, 0, none⟩ = some (.pointer (some ⟨p, 0, none⟩)) := fun o => by rw [(Below.alloc0 w2 o).cell (by show gb < _; exact st2.gm.lt)]; exact cH2
          clear x2 hb2 hr2 hS2 hlt2 st2 HSs cHc cH2 HSt
          go_wp2_with fail
          obtain ⟨v0, ev0⟩ : ∃ v0, w2.alloc (.cells #[.int .i64 s1, .int .i64 s2, .int .i64 s3, .int .i64 s4, .int .i64 s5, .int .i64 s6] 44) = v0 := ⟨_, rfl⟩
          rw [ev0]
          have hz0 : v0.heap.size = w2.heap.size + 1 := by rw [← ev0]; simp
          have F0 : Hid (Fs R N A S v0 p h1 v0) := by rw [← ev0]; exact F00.out _
          have HGl : Hid (gb < v0.heap.size ∧ ¬ S gb ∧ ¬ S w2.heap.size) := ⟨by have := HGl0.out.1; omega, HGl0.out.2, fun q => by have := HSl0.out _ q; omega⟩
          have HSl : Hid (∀ b, S b → b < v0.heap.size) := fun b hb => by have := HSl0.out b hb; omega
          have cHv : v0.cell? ⟨gb, 0, none⟩ = some (.pointer (some ⟨p, 0, none⟩)) := by rw [← ev0]; exact cH2' _
          have HB70 : Hid (v0.heap[w2.heap.size]? = some (.cells #[.int .i64 s1, .int .i64 s2, .int .i64 s3, .int .i64 s4, .int .i64 s5, .int .i64 s6] 44 (0, 0))) := by rw [← ev0]; exact HB7.out _ _
          have HBv : Hid (Below w.heap.size w v0) := by rw [← ev0]; exact HBW.out.trans ((HB2.out.mono HBW.out.size).trans ((Below.alloc0 w2 _).mono (Nat.le_trans HBW.out.size HB2.out.size)))
          have HSz : Hid (w2.heap.size < v0.heap.size ∧ w.heap.size ≤ W.heap.size) := ⟨by omega, HBW.out.size⟩
          clear F00 HGl0 HSl0 HB7 cH2' hz0 HBc HB2
          generalize w2.heap.size = sb at *
          clear ev0
          have hc1 := HKF.out.get S v0 p h1 wd 0 F0.out.r F0.out.errs HN.out hwb HNz.out
          rw [HEy.out] at hc1
          have HC1 := hide hc1
          have cH1 : v0.cell? ⟨gb, 0, none⟩ = some (.pointer (some ⟨p, 0, none⟩)) := by rw [cell_of (F0.out.kept.block gb HGl.out.1 HGl.out.2.1)]; exact cHv
          clear hc1
          refine HC1.out.mono ?_
          rintro e v1 ⟨ev1, rfl, he1, hr1, hk1⟩
          obtain ⟨b1, rfl⟩ := he1.1.some (by simpa using HYn.out)
          have F1 : Hid (Fs R N A S v0 p h1 v1) := F0.out.next HN.out hr1 hk1
          have G1 : Hid (ErrAt A v0 v1 (.iface 101 (.pointer (some ⟨b1, 0, none⟩))) ⟨y, wd⟩) := he1.at (F0.out.kept.size)
          clear he1 hr1 hk1 HC1 cH1
          have hc2 := HKF.out.set S v1 p h1 wd 0 1 F1.out.r F1.out.errs HN.out hwb HNz.out
          rw [HEy.out] at hc2
          have HC2 := hide hc2
          have cH2 : v1.cell? ⟨gb, 0, none⟩ = some (.pointer (some ⟨p, 0, none⟩)) := by rw [cell_of (F1.out.kept.block gb HGl.out.1 HGl.out.2.1)]; exact cHv
          clear hc2
          go_wp2_with fail
          refine HC2.out.mono ?_
          rintro e v2 ⟨ev2, rfl, he2, hr2, hk2⟩
          obtain ⟨b2, rfl⟩ := he2.1.some (by simpa using HYn.out)
          have F2 : Hid (Fs R N A S v0 p h1 v2) := F1.out.next HN.out hr2 hk2
          have G1 : Hid (ErrAt A v0 v2 (.iface 101 (.pointer (some ⟨b1, 0, none⟩))) ⟨y, wd⟩) := G1.out.next HSl.out hk2
          have G2 : Hid (ErrAt A v0 v2 (.iface 101 (.pointer (some ⟨b2, 0, none⟩))) ⟨y, wd⟩) := he2.at (F1.out.kept.size)
          clear he2 hr2 hk2 HC2 cH2
          have hc3 := HKF.out.follow S v2 p h1 wd 1 F2.out.r F2.out.errs HN.out hwb HNz.out
          rw [HEy.out] at hc3
          have HC3 := hide hc3
          have cH3 : v2.cell? ⟨gb, 0, none⟩ = some (.pointer (some ⟨p, 0, none⟩)) := by rw [cell_of (F2.out.kept.block gb HGl.out.1 HGl.out.2.1)]; exact cHv
          clear hc3
          go_wp2_with fail
          refine HC3.out.mono ?_
          rintro e v3 ⟨ev3, rfl, he3, hr3, hk3⟩
          obtain ⟨b3, rfl⟩ := he3.1.some (by simpa using HYn.out)
          have F3 : Hid (Fs R N A S v0 p h1 v3) := F2.out.next HN.out hr3 hk3
          have G1 : Hid (ErrAt A v0 v3 (.iface 101 (.pointer (some ⟨b1, 0, none⟩))) ⟨y, wd⟩) := G1.out.next HSl.out hk3
          have G2 : Hid (ErrAt A v0 v3 (.iface 101 (.pointer (some ⟨b2, 0, none⟩))) ⟨y, wd⟩) := G2.out.next HSl.out hk3
          have G3 : Hid (ErrAt A v0 v3 (.iface 101 (.pointer (some ⟨b3, 0, none⟩))) ⟨y, wd⟩) := he3.at (F2.out.kept.size)
          clear he3 hr3 hk3 HC3 cH3
          have hc4 := HKF.out.point S v3 p h1 wd 1 0 F3.out.r F3.out.errs HN.out hwb (by omega) HNz.out
          rw [HEy.out] at hc4
          have HC4 := hide hc4
          have cH4 : v3.cell? ⟨gb, 0, none⟩ = some (.pointer (some ⟨p, 0, none⟩)) := by rw [cell_of (F3.out.kept.block gb HGl.out.1 HGl.out.2.1)]; exact cHv
          clear hc4
          go_wp2_with fail
          refine HC4.out.mono ?_
          rintro e v4 ⟨ev4, rfl, he4, hr4, hk4⟩
          obtain ⟨b4, rfl⟩ := he4.1.some (by simpa using HYn.out)
          have F4 : Hid (Fs R N A S v0 p h1 v4) := F3.out.next HN.out hr4 hk4
          have G1 : Hid (ErrAt A v0 v4 (.iface 101 (.pointer (some ⟨b1, 0, none⟩))) ⟨y, wd⟩) := G1.out.next HSl.out hk4
          have G2 : Hid (ErrAt A v0 v4 (.iface 101 (.pointer (some ⟨b2, 0, none⟩))) ⟨y, wd⟩) := G2.out.next HSl.out hk4
          have G3 : Hid (ErrAt A v0 v4 (.iface 101 (.pointer (some ⟨b3, 0, none⟩))) ⟨y, wd⟩) := G3.out.next HSl.out hk4
          have G4 : Hid (ErrAt A v0 v4 (.iface 101 (.pointer (some ⟨b4, 0, none⟩))) ⟨y, wd⟩) := he4.at (F3.out.kept.size)
          clear he4 hr4 hk4 HC4 cH4
          have hc5 := HKF.out.ref S v4 p h1 1 wd F4.out.r F4.out.errs HN.out hwb HNz.out rfl
          rw [HEy.out] at hc5
          have HC5 := hide hc5
          have cH5 : v4.cell? ⟨gb, 0, none⟩ = some (.pointer (some ⟨p, 0, none⟩)) := by rw [cell_of (F4.out.kept.block gb HGl.out.1 HGl.out.2.1)]; exact cHv
          clear hc5
          go_wp2_with fail
          refine HC5.out.mono ?_
          rintro e v5 ⟨ev5, rfl, he5, hr5, hk5⟩
          obtain ⟨b5, rfl⟩ := he5.1.some (by simpa using HYn.out)
          have F5 : Hid (Fs R N A S v0 p h1 v5) := F4.out.next HN.out hr5 hk5
          have G1 : Hid (ErrAt A v0 v5 (.iface 101 (.pointer (some ⟨b1, 0, none⟩))) ⟨y, wd⟩) := G1.out.next HSl.out hk5
          have G2 : Hid (ErrAt A v0 v5 (.iface 101 (.pointer (some ⟨b2, 0, none⟩))) ⟨y, wd⟩) := G2.out.next HSl.out hk5
          have G3 : Hid (ErrAt A v0 v5 (.iface 101 (.pointer (some ⟨b3, 0, none⟩))) ⟨y, wd⟩) := G3.out.next HSl.out hk5
          have G4 : Hid (ErrAt A v0 v5 (.iface 101 (.pointer (some ⟨b4, 0, none⟩))) ⟨y, wd⟩) := G4.out.next HSl.out hk5
          have G5 : Hid (ErrAt A v0 v5 (.iface 101 (.pointer (some ⟨b5, 0, none⟩))) ⟨y, wd⟩) := he5.at (F4.out.kept.size)
          clear he5 hr5 hk5 HC5 cH5
          have hc6 := HKF.out.free S v5 p h1 wd F5.out.r F5.out.errs HN.out hwb HNz.out
          rw [HEy.out] at hc6
          have HC6 := hide hc6
          have cH6 : v5.cell? ⟨gb, 0, none⟩ = some (.pointer (some ⟨p, 0, none⟩)) := by rw [cell_of (F5.out.kept.block gb HGl.out.1 HGl.out.2.1)]; exact cHv
          clear hc6
          go_wp2_with fail
          refine HC6.out.mono ?_
          rintro e v6 ⟨ev6, rfl, he6, hr6, hk6⟩
          obtain ⟨b6, rfl⟩ := he6.1.some (by simpa using HYn.out)
          have F6 : Hid (Fs R N A S v0 p h1 v6) := F5.out.next HN.out hr6 hk6
          have G1 : Hid (ErrAt A v0 v6 (.iface 101 (.pointer (some ⟨b1, 0, none⟩))) ⟨y, wd⟩) := G1.out.next HSl.out hk6
          have G2 : Hid (ErrAt A v0 v6 (.iface 101 (.pointer (some ⟨b2, 0, none⟩))) ⟨y, wd⟩) := G2.out.next HSl.out hk6
          have G3 : Hid (ErrAt A v0 v6 (.iface 101 (.pointer (some ⟨b3, 0, none⟩))) ⟨y, wd⟩) := G3.out.next HSl.out hk6
          have G4 : Hid (ErrAt A v0 v6 (.iface 101 (.pointer (some ⟨b4, 0, none⟩))) ⟨y, wd⟩) := G4.out.next HSl.out hk6
          have G5 : Hid (ErrAt A v0 v6 (.iface 101 (.pointer (some ⟨b5, 0, none⟩))) ⟨y, wd⟩) := G5.out.next HSl.out hk6
          have G6 : Hid (ErrAt A v0 v6 (.iface 101 (.pointer (some ⟨b6, 0, none⟩))) ⟨y, wd⟩) := he6.at (F5.out.kept.size)
          clear he6 hr6 hk6 HC6 cH6
          have hc7 := HKF.out.pin S v6 p h1 wd F6.out.r F6.out.errs HN.out hwb HNz.out
          rw [HEy.out] at hc7
          have HC7 := hide hc7
          have cH7 : v6.cell? ⟨gb, 0, none⟩ = some (.pointer (some ⟨p, 0, none⟩)) := by rw [cell_of (F6.out.kept.block gb HGl.out.1 HGl.out.2.1)]; exact cHv
          clear hc7
          go_wp2_with fail
          refine HC7.out.mono ?_
          rintro e v7 ⟨ev7, rfl, he7, hr7, hk7⟩
          obtain ⟨b7, rfl⟩ := he7.1.some (by simpa using HYn.out)
          have F7 : Hid (Fs R N A S v0 p h1 v7) := F6.out.next HN.out hr7 hk7
          have G1 : Hid (ErrAt A v0 v7 (.iface 101 (.pointer (some ⟨b1, 0, none⟩))) ⟨y, wd⟩) := G1.out.next HSl.out hk7
          have G2 : Hid (ErrAt A v0 v7 (.iface 101 (.pointer (some ⟨b2, 0, none⟩))) ⟨y, wd⟩) := G2.out.next HSl.out hk7
          have G3 : Hid (ErrAt A v0 v7 (.iface 101 (.pointer (some ⟨b3, 0, none⟩))) ⟨y, wd⟩) := G3.out.next HSl.out hk7
          have G4 : Hid (ErrAt A v0 v7 (.iface 101 (.pointer (some ⟨b4, 0, none⟩))) ⟨y, wd⟩) := G4.out.next HSl.out hk7
          have G5 : Hid (ErrAt A v0 v7 (.iface 101 (.pointer (some ⟨b5, 0, none⟩))) ⟨y, wd⟩) := G5.out.next HSl.out hk7
          have G6 : Hid (ErrAt A v0 v7 (.iface 101 (.pointer (some ⟨b6, 0, none⟩))) ⟨y, wd⟩) := G6.out.next HSl.out hk7
          have G7 : Hid (ErrAt A v0 v7 (.iface 101 (.pointer (some ⟨b7, 0, none⟩))) ⟨y, wd⟩) := he7.at (F6.out.kept.size)
          clear he7 hr7 hk7 HC7 cH7
          have hc8 := HKF.out.unpin S v7 p h1 wd F7.out.r F7.out.errs HN.out hwb HNz.out
          rw [HEy.out] at hc8
          have HC8 := hide hc8
          have cH8 : v7.cell? ⟨gb, 0, none⟩ = some (.pointer (some ⟨p, 0, none⟩)) := by rw [cell_of (F7.out.kept.block gb HGl.out.1 HGl.out.2.1)]; exact cHv
          clear hc8
          go_wp2_with fail
          refine HC8.out.mono ?_
          rintro e v8 ⟨ev8, rfl, he8, hr8, hk8⟩
          obtain ⟨b8, rfl⟩ := he8.1.some (by simpa using HYn.out)
          have F8 : Hid (Fs R N A S v0 p h1 v8) := F7.out.next HN.out hr8 hk8
          have G1 : Hid (ErrAt A v0 v8 (.iface 101 (.pointer (some ⟨b1, 0, none⟩))) ⟨y, wd⟩) := G1.out.next HSl.out hk8
          have G2 : Hid (ErrAt A v0 v8 (.iface 101 (.pointer (some ⟨b2, 0, none⟩))) ⟨y, wd⟩) := G2.out.next HSl.out hk8
          have G3 : Hid (ErrAt A v0 v8 (.iface 101 (.pointer (some ⟨b3, 0, none⟩))) ⟨y, wd⟩) := G3.out.next HSl.out hk8
          have G4 : Hid (ErrAt A v0 v8 (.iface 101 (.pointer (some ⟨b4, 0, none⟩))) ⟨y, wd⟩) := G4.out.next HSl.out hk8
          have G5 : Hid (ErrAt A v0 v8 (.iface 101 (.pointer (some ⟨b5, 0, none⟩))) ⟨y, wd⟩) := G5.out.next HSl.out hk8
          have G6 : Hid (ErrAt A v0 v8 (.iface 101 (.pointer (some ⟨b6, 0, none⟩))) ⟨y, wd⟩) := G6.out.next HSl.out hk8
          have G7 : Hid (ErrAt A v0 v8 (.iface 101 (.pointer (some ⟨b7, 0, none⟩))) ⟨y, wd⟩) := G7.out.next HSl.out hk8
          have G8 : Hid (ErrAt A v0 v8 (.iface 101 (.pointer (some ⟨b8, 0, none⟩))) ⟨y, wd⟩) := he8.at (F7.out.kept.size)
          clear he8 hr8 hk8 HC8 cH8
          clear HKF HOw HG1 HGr HL HEy HNz bn1 bn2 HLl
          go_wp2_with fail
          obtain ⟨v9, ev9⟩ : ∃ v9, v8.alloc (.cells #[.iface 101 (.pointer (some ⟨b1, 0, none⟩)), .iface 101 (.pointer (some ⟨b2, 0, none⟩)), .iface 101 (.pointer (some ⟨b3, 0, none⟩)), .iface 101 (.pointer (some ⟨b4, 0, none⟩)), .iface 101 (.pointer (some ⟨b5, 0, none⟩)), .iface 101 (.pointer (some ⟨b6, 0, none⟩)), .iface 101 (.pointer (some ⟨b7, 0, none⟩)), .iface 101 (.pointer (some ⟨b8, 0, none⟩))] 37) = v9 := ⟨_, rfl⟩
          rw [ev9]
          have hcv : ∀ i u, (#[.iface 101 (.pointer (some ⟨b1, 0, none⟩)), .iface 101 (.pointer (some ⟨b2, 0, none⟩)), .iface 101 (.pointer (some ⟨b3, 0, none⟩)), .iface 101 (.pointer (some ⟨b4, 0, none⟩)), .iface 101 (.pointer (some ⟨b5, 0, none⟩)), .iface 101 (.pointer (some ⟨b6, 0, none⟩)), .iface 101 (.pointer (some ⟨b7, 0, none⟩)), .iface 101 (.pointer (some ⟨b8, 0, none⟩))] : Array Value)[i]? = some u → v9.cell? ⟨v8.heap.size, i, none⟩ = some u := fun i u hu => by rw [← ev9, World.cell?_alloc_new]; exact hu
          have hb89 : Below v8.heap.size v8 v9 := by rw [← ev9]; exact Below.alloc0 _ _
          have HAll : Hid (∀ i, i < 8 → ∃ b, v9.cell? ⟨v8.heap.size, i, none⟩ = some (.iface 101 (.pointer (some ⟨b, 0, none⟩))) ∧ ErrIs A v9 (.iface 101 (.pointer (some ⟨b, 0, none⟩))) ⟨y, wd⟩) := fun i hi => by
            have hi8 : i = 0 ∨ i = 1 ∨ i = 2 ∨ i = 3 ∨ i = 4 ∨ i = 5 ∨ i = 6 ∨ i = 7 := by omega
            rcases hi8 with rfl | rfl | rfl | rfl | rfl | rfl | rfl | rfl
            · exact ⟨b1, hcv 0 _ rfl, G1.out.1.below hb89⟩
            · exact ⟨b2, hcv 1 _ rfl, G2.out.1.below hb89⟩
            · exact ⟨b3, hcv 2 _ rfl, G3.out.1.below hb89⟩
            · exact ⟨b4, hcv 3 _ rfl, G4.out.1.below hb89⟩
            · exact ⟨b5, hcv 4 _ rfl, G5.out.1.below hb89⟩
            · exact ⟨b6, hcv 5 _ rfl, G6.out.1.below hb89⟩
            · exact ⟨b7, hcv 6 _ rfl, G7.out.1.below hb89⟩
            · exact ⟨b8, hcv 7 _ rfl, G8.out.1.below hb89⟩
          have hk9 : Kept S v0 v9 := F8.out.kept.trans (Kept.of_below hb89)
          have hr9 : R S v9 p h1 := HK.out.ok.same _ _ _ _ _ F8.out.r (fun b hb => hb89.block b (HK.out.ok.lt _ _ _ _ F8.out.r b hb)) hb89.size
          have hE9 : Errs N A v9 := F8.out.errs.below hb89 F8.out.errs.le
          have hbd : Below v9.heap.size v9 v9.drew := ⟨rfl, rfl, rfl, Nat.le_refl _, fun _ _ => rfl⟩
          have hsd := HK.out.stats S v9.drew p h1 (HK.out.ok.same _ _ _ _ _ hr9 (fun b hb => hbd.block b (HK.out.ok.lt _ _ _ _ hr9 b hb)) hbd.size) (hE9.below hbd hE9.le)
          rw [HS6.out] at hsd
          have HSd := hide hsd
          have hq : ∀ i u, (#[.int .i64 s1, .int .i64 s2, .int .i64 s3, .int .i64 s4, .int .i64 s5, .int .i64 s6] : Array Value)[i]? = some u → v9.cell? ⟨sb, i, none⟩ = some u := fun i u hu => by
            rw [cell_of (hk9.block sb HSz.out.1 HGl.out.2.2)]
            have := HB70.out
            simp only [World.cell?, this]
            exact hu
          have q0 := hq 0 _ rfl
          have q1 := hq 1 _ rfl
          have q2 := hq 2 _ rfl
          have q3 := hq 3 _ rfl
          have q4 := hq 4 _ rfl
          have q5 := hq 5 _ rfl
          have cH9 : v9.cell? ⟨gb, 0, none⟩ = some (.pointer (some ⟨p, 0, none⟩)) := by rw [cell_of (hk9.block gb HGl.out.1 HGl.out.2.1)]; exact cHv
          have HGz : Hid (gb < v9.heap.size ∧ sb < v9.heap.size) := ⟨by have := hk9.size; have := HGl.out.1; omega, by have := hk9.size; have := HSz.out.1; omega⟩
          have HB9 : Hid (Below w.heap.size w v9) := HBv.out.trans ⟨hk9.os, hk9.tape, hk9.output, hk9.size, fun k hk => hk9.block k (by have := HBv.out.size; omega) (fun q => by have := HBe.out k q; have := HSz.out.2; omega)⟩
          have HE9 := hide hE9
          have HQ : Hid (v9.cell? ⟨gb, 0, none⟩ = some (.pointer (some ⟨p, 0, none⟩)) ∧ v9.cell? ⟨sb, 0, none⟩ = some (.int .i64 s1) ∧ v9.cell? ⟨sb, 1, none⟩ = some (.int .i64 s2) ∧ v9.cell? ⟨sb, 2, none⟩ = some (.int .i64 s3) ∧ v9.cell? ⟨sb, 3, none⟩ = some (.int .i64 s4) ∧ v9.cell? ⟨sb, 4, none⟩ = some (.int .i64 s5) ∧ v9.cell? ⟨sb, 5, none⟩ = some (.int .i64 s6)) := ⟨cH9, q0, q1, q2, q3, q4, q5⟩
          clear ev9 hcv hb89 hk9 hr9 hE9 hbd hsd hq q0 q1 q2 q3 q4 q5 cH9 cHv HB70 HSl HN HBe HBv HSz HGl HS6 HK G1 G2 G3 G4 G5 G6 G7 G8 F0 F1 F2 F3 F4 F5 F6 F7 F8
          generalize v8.heap.size = ab at *
          go_loop [23, 24, 25] (fun iv _ _ => ∃ i : Nat, i ≤ 8 ∧ iv = .int .i64 i) (fun iv _ _ => 8 - (intOf iv).toNat)
          case atStart => exact ⟨0, by omega, rfl⟩
          case round =>
            obtain ⟨i, hi, rfl⟩ := hrel
            by_cases hlt : i < 8
            · have bi : (i : Int) < 8 := by omega
              obtain ⟨b, cb, eb⟩ := HAll.out i hlt
              have HW := hide (why_any A v9 _ _ eb)
              have HH := hide (handle_any A v9 _ _ eb HYn.out)
              have ge1 := HE9.out.g1
              have ge2 := HE9.out.g2
              have ge3 := HE9.out.g3
              clear eb HAll HQ HSd
              by_cases hw0 : wd = 0
              · have hy : y = 2 := HY0.out hw0
                have ewy : whyE A ⟨y, wd⟩ = .iface 261 (.pointer (some (A 1))) := by rw [hy]; rfl
                rw [ewy] at HW
                have hq1 := fun w' => neq_same w' (A 1)
                clear ewy hy
                subst hw0
                generalize A 1 = a1 at *
                generalize A 2 = a2 at *
                generalize A 3 = a3 at *
                go_wp2_with fail
                refine HW.out.mono ?_
                rintro e w9 ⟨rfl, h9⟩
                rw [h9]
                clear h9 HW
                go_wp2_with fail
                refine HH.out.mono ?_
                rintro e w9 ⟨rfl, h9⟩
                rw [h9]
                clear h9 HH
                go_wp2_with fail
                go_round
                case rel => exact ⟨i + 1, by omega, by go_num⟩
                case measure => simp [intOf]; omega
              · rcases HY1.out hw0 with hy3 | hy4
                · have hy : y = 3 := hy3
                  have ewy : whyE A ⟨y, wd⟩ = .iface 261 (.pointer (some (A 2))) := by rw [hy]; rfl
                  rw [ewy] at HW
                  have hq2 := fun w' => neq_same w' (A 2)
                  clear ewy hy
                  generalize A 1 = a1 at *
                  generalize A 2 = a2 at *
                  generalize A 3 = a3 at *
                  go_wp2_with fail
                  refine HW.out.mono ?_
                  rintro e w9 ⟨rfl, h9⟩
                  rw [h9]
                  clear h9 HW
                  go_wp2_with fail
                  refine HH.out.mono ?_
                  rintro e w9 ⟨rfl, h9⟩
                  rw [h9]
                  clear h9 HH
                  go_wp2_with fail
                  go_round
                  case rel => exact ⟨i + 1, by omega, by go_num⟩
                  case measure => simp [intOf]; omega
                · have hy : y = 4 := hy4
                  have ewy : whyE A ⟨y, wd⟩ = .iface 261 (.pointer (some (A 3))) := by rw [hy]; rfl
                  rw [ewy] at HW
                  have hq3 := fun w' => neq_same w' (A 3)
                  have hq2 := err_neq HE9.out 3 2 (by omega) (by omega) (by omega)
                  clear ewy hy
                  generalize A 1 = a1 at *
                  generalize A 2 = a2 at *
                  generalize A 3 = a3 at *
                  go_wp2_with fail
                  refine HW.out.mono ?_
                  rintro e w9 ⟨rfl, h9⟩
                  rw [h9]
                  clear h9 HW
                  go_wp2_with fail
                  refine HH.out.mono ?_
                  rintro e w9 ⟨rfl, h9⟩
                  rw [h9]
                  clear h9 HH
                  go_wp2_with fail
                  go_round
                  case rel => exact ⟨i + 1, by omega, by go_num⟩
                  case measure => simp [intOf]; omega
            · have bi : ¬ (i : Int) < 8 := by omega
              obtain ⟨cH9, q0, q1, q2, q3, q4, q5⟩ := HQ.out
              have cH9d : v9.drew.cell? ⟨gb, 0, none⟩ = some (.pointer (some ⟨p, 0, none⟩)) := cH9
              have q0d : v9.drew.cell? ⟨sb, 0, none⟩ = some (.int .i64 s1) := q0
              have q1d : v9.drew.cell? ⟨sb, 1, none⟩ = some (.int .i64 s2) := q1
              have q2d : v9.drew.cell? ⟨sb, 2, none⟩ = some (.int .i64 s3) := q2
              have q3d : v9.drew.cell? ⟨sb, 3, none⟩ = some (.int .i64 s4) := q3
              have q4d : v9.drew.cell? ⟨sb, 4, none⟩ = some (.int .i64 s5) := q4
              have q5d : v9.drew.cell? ⟨sb, 5, none⟩ = some (.int .i64 s6) := q5
              have hsix := fun w' => eql_sixK w' s1 s2 s3 s4 s5 s6
              clear HAll HQ HE9
              go_upto_region 29 with fail
              go_region_held3 (fun w' => w'.cell? ⟨gb, 0, none⟩ = some (.pointer (some ⟨p, 0, none⟩)) ∧ w'.cell? ⟨sb, 0, none⟩ = some (.int .i64 s1) ∧ w'.cell? ⟨sb, 1, none⟩ = some (.int .i64 s2) ∧ w'.cell? ⟨sb, 2, none⟩ = some (.int .i64 s3) ∧ w'.cell? ⟨sb, 3, none⟩ = some (.int .i64 s4) ∧ w'.cell? ⟨sb, 4, none⟩ = some (.int .i64 s5) ∧ w'.cell? ⟨sb, 5, none⟩ = some (.int .i64 s6)) (first | (with_reducible exact ⟨by assumption, by assumption, by assumption, by assumption, by assumption, by assumption, by assumption⟩) | go_keep) (first
                | (go_at_call 21
                   refine HSd.out.mono ?_
                   rintro e w2 ⟨rfl, hb2⟩
                   have HFin : Hid (Below w.heap.size w w2) := HB9.out.trans ((show Below w.heap.size v9 v9.drew from ⟨rfl, rfl, rfl, Nat.le_refl _, fun _ _ => rfl⟩).trans (hb2.mono HB9.out.size))
                   have e0 : w2.cell? ⟨gb, 0, none⟩ = some (.pointer (some ⟨p, 0, none⟩)) := by rw [hb2.cell HGz.out.1]; exact cH9
                   have e1 : w2.cell? ⟨sb, 0, none⟩ = some (.int .i64 s1) := by rw [hb2.cell HGz.out.2]; exact q0
                   have e2 : w2.cell? ⟨sb, 1, none⟩ = some (.int .i64 s2) := by rw [hb2.cell HGz.out.2]; exact q1
                   have e3 : w2.cell? ⟨sb, 2, none⟩ = some (.int .i64 s3) := by rw [hb2.cell HGz.out.2]; exact q2
                   have e4 : w2.cell? ⟨sb, 3, none⟩ = some (.int .i64 s4) := by rw [hb2.cell HGz.out.2]; exact q3
                   have e5 : w2.cell? ⟨sb, 4, none⟩ = some (.int .i64 s5) := by rw [hb2.cell HGz.out.2]; exact q4
                   have e6 : w2.cell? ⟨sb, 5, none⟩ = some (.int .i64 s6) := by rw [hb2.cell HGz.out.2]; exact q5
                   clear hb2))
              all_goals go_wp2_with fail
              all_goals go_ret
              all_goals exact ⟨rfl, HFin.out⟩
        · have HBr : Hid (Below w.heap.size w wc) := HBW.out.trans (HBc.out.mono HBW.out.size)
          go_wp2_with fail
          go_ret
          exact ⟨rfl, HBr.out⟩
end
end Go.Proofs.YtcnmfljpmpgnjaaGreatDoor
