import Derived.Test.YtcnmfljpmpgnjaaGreatDoorFUniA
import Derived.Test.YtcnmfljpmpgnjaaGreatDoorJ12
import Derived.Deep.CutBlock
import Derived.Test.YtcnmfljpmpgnjaaGreatDoorJ37
import Derived.Test.YtcnmfljpmpgnjaaGreatDoorCards
import Derived.Test.YtcnmfljpmpgnjaaGreatDoorTie
import Derived.SevenTiedAt
import Derived.Test.YtcnmfljpmpgnjaaGreatDoorJ36
namespace Go.Proofs.YtcnmfljpmpgnjaaGreatDoor
open Go.RowKit
open Tm (H Ob Sl Why)

section
variable {R : (Nat → Prop) → World → Nat → H → Prop} {N : Nat} {A : Nat → Addr}

/-- Which of n things, as a number. -/
def pickZ (c n : Int) : Int := (if c < 0 then -(c + 1) else c) % n
theorem kpick_z (c n : Int) (w : World) (h0 : 0 < n) (hn : n < 4398046511104) (hc : -9223372036854775808 ≤ c) (hc2 : c ≤ 9223372036854775807) :
    Calls Tryz.prog 16 #[.int .i64 c, .int .i64 n] w fun e w' => e = .returned (.int .i64 (pickZ c n)) ∧ w' = w := by
  obtain ⟨m, rfl⟩ : ∃ m : Nat, n = (m : Int) := ⟨n.toNat, by omega⟩
  have h := kpick_is c m w (by omega) (by omega) hc hc2
  have e : (pickN c m : Int) = pickZ c (m : Int) := by
    unfold pickN pickZ
    rw [Int.toNat_of_nonneg (Int.emod_nonneg _ (show (m : Int) ≠ 0 by omega))]
  rw [e] at h
  exact h
theorem pickZ_nat (c n : Int) (h0 : 0 < n) : ∃ k : Nat, pickZ c n = (k : Int) ∧ (k : Int) < n := by
  unfold pickZ
  generalize (if c < 0 then -(c + 1) else c) = x
  have h1 := Int.emod_lt_of_pos x h0
  have h2 := Int.emod_nonneg x (show n ≠ 0 by omega)
  exact ⟨(x % n).toNat, by omega, by omega⟩

theorem Errs.neq {w : World} (hE : Errs N A w) (i j : Nat) (hi : i < 10) (hj : j < 10) (hij : i ≠ j) : (binOp .neq 37 (.iface 261 (.pointer (some (A i)))) (.iface 261 (.pointer (some (A j))))).run Tryz.prog w = .ok (.bool true) w := by
  obtain ⟨_, _, _, q1⟩ := hE.blk i hi
  obtain ⟨_, _, _, q2⟩ := hE.blk j hj
  exact neq_other (hE.ne i j hi hj hij) q1 q2

theorem one_at (w : World) (x : Int) : ∀ i, i < 1 → (w.alloc (.cells #[.int .i64 x] 3)).cell? ((⟨w.heap.size, 0, none⟩ : Addr).add i) = some (.int .i64 (([x] : List Int).getD i 0)) := fun i hi => by
  obtain rfl : i = 0 := by omega
  rw [Addr.add_lit, World.cell?_alloc_at _ _ _ _ (by simp)]; rfl

/-- Unique's lists. -/
def uL (pg : Option Addr) (cg : Nat) (given : List Int) (pd : Option Addr) (cd : Nat) (good : List Int) : List RowL := [⟨pg, cg, given⟩, ⟨pd, cd, good⟩]

/-- Unique, ahead of a move. -/
def UPre (R : (Nat → Prop) → World → Nat → H → Prop) (N : Nat) (A : Nat → Addr) (w0 : World) (p i : Nat) (gv dv : Value) (w : World) : Prop :=
  ∃ (h : H) (given good : List Int) (pg : Option Addr) (cg : Nat) (pd : Option Addr) (cd : Nat), gv = .slice pg given.length cg ∧ dv = .slice pd good.length cd ∧ given.length ≤ i + 1 ∧ good.length ≤ i ∧ h.l.length ≤ i + 1 ∧ 0 < h.classes.length ∧ Tm.Uq h given good ∧ Nst R N A w0 (uL pg cg given pd cd good) w p h

set_option maxRecDepth 100000 in
set_option maxHeartbeats 8000000 in
theorem kunique_any (K : ProgOK R N A) (KN : NewOK R N A) (RG : ∀ S w p h, R S w p h → Tm.Good h) (w : World) (hE : Errs N A w) (pm : Option Addr) (nm cm : Nat) (f : Nat → Nat → Int)
    (hms : 0 < nm → ∃ g o, pm = some ⟨g, o, none⟩ ∧ g < w.heap.size ∧ ∀ i, i < nm → ∀ k, k < 3 → w.cell? ⟨g, o + i * 3 + k, none⟩ = some (.int .i64 (f i k)))
    (hmr : ∀ i k, i < nm → k < 3 → -9223372036854775808 ≤ f i k ∧ f i k ≤ 9223372036854775807) :
    Calls Tryz.prog 6 #[.slice pm nm cm] w fun e w' => e = .returned (.bool true) ∧ Below w.heap.size w w' := by
  have HK := hide K
  have HRG := hide RG
  have HMs := hide hms
  have HMr := hide hmr
  have HBg := hide (begun_any K KN w hE)
  clear K KN hE hms hmr RG
  go_enter Tryz.func6, Tryz.ntmps6
  go_wp2_with fail
  refine HBg.out.mono ?_
  rintro e w1 ⟨p, rfl, xb⟩
  have hz1 := xb.size (Nat.le_refl _)
  have HXb := hide xb
  clear xb HBg
  go_wp2_with fail
  have HS1 : Hid (Nst R N A w (uL (some ⟨w1.heap.size, 0, none⟩) 1 [257] none 0 []) (w1.alloc (.cells #[.int .i64 257] 3)) p Tm.b4) := by
    have hnew : (w1.alloc (.cells #[.int .i64 257] 3)).heap[w1.heap.size]? = some (.cells #[.int .i64 257] 3 (0, 0)) := by simpa using heap_alloc_new w1 (.cells #[.int .i64 257] 3)
    refine ⟨HXb.out.turn HK.out.ok hz1 ((Below.alloc0 w1 _).mono hz1) (fun b hb _ => (Below.alloc0 w1 _).block b hb) (fun b hb => ?_) (fun b hb => ?_), fun x hx => ?_, ?_⟩
    · obtain ⟨x, hx, a, ha, e⟩ := hb
      simp only [uL, List.mem_cons, List.not_mem_nil, or_false] at hx
      rcases hx with rfl | rfl
      · cases ha; exact Or.inr (by simp at e; omega)
      · cases ha
    · obtain ⟨x, hx, a, ha, e⟩ := hb
      simp only [uL, List.mem_cons, List.not_mem_nil, or_false] at hx
      rcases hx with rfl | rfl
      · cases ha; simp at e ⊢; omega
      · cases ha
    · simp only [uL, List.mem_cons, List.not_mem_nil, or_false] at hx
      rcases hx with rfl | rfl
      · exact ⟨rfl, .inr ⟨w1.heap.size, 1, #[.int .i64 257], rfl, hz1, hnew, Nat.le_refl _, by unfold maxLen; omega, rfl, rfl⟩⟩
      · exact IRow.nil _ _
    · unfold uL
      simp
  go_loopw [4, 5, 6, 7, 8, 9, 10, 11, 12, 13] (fun gv dv iv _ _ _ _ _ _ _ w' => ∃ i : Nat, i ≤ nm ∧ i ≤ 120 ∧ iv = .int .i64 i ∧ UPre R N A w p i gv dv w') (fun _ _ iv _ _ _ _ _ _ _ _ => 120 - (intOf iv).toNat)
  case atStart => exact ⟨0, by omega, by omega, rfl, Tm.b4, [257], [], _, _, _, _, rfl, rfl, by simp, by simp, by decide, by decide, Tm.Uq.b4, HS1.out⟩
  case round =>
    obtain ⟨i, hi1, hi2, rfl, h, given, good, pg, cg, pd, cd, rfl, rfl, hl1, hl2, hl3, hcl, u, st⟩ := hrel
    have HU := hide u
    have HSt := hide st
    by_cases hgo : i < nm ∧ i < 120
    · have b1 : (i : Int) < (nm : Int) := by omega
      have b2 : (i : Int) < 120 := by omega
      obtain ⟨g, o, rfl, hg1, hg2⟩ := HMs.out (by omega)
      have c0 : wr.cell? ⟨g, o + i * 3, none⟩ = some (.int .i64 (f i 0)) := by rw [st.1.below.cell (by show g < _; exact hg1)]; exact hg2 i hgo.1 0 (by omega)
      have c1 : wr.cell? ⟨g, o + i * 3 + 1, none⟩ = some (.int .i64 (f i 1)) := by rw [st.1.below.cell (by show g < _; exact hg1)]; exact hg2 i hgo.1 1 (by omega)
      have c2 : wr.cell? ⟨g, o + i * 3 + 2, none⟩ = some (.int .i64 (f i 2)) := by rw [st.1.below.cell (by show g < _; exact hg1)]; exact hg2 i hgo.1 2 (by omega)
      have stM : ∀ x : Obj, Nst R N A w (uL pg cg given pd cd good) (wr.alloc x) p h := fun x => st.dn HK.out.ok (Below.alloc0 wr x)
      have HM0 := hide stM
      have hr0 := HMr.out i 0 hgo.1 (by omega)
      have hr1 := HMr.out i 1 hgo.1 (by omega)
      have hr2 := HMr.out i 2 hgo.1 (by omega)
      clear hg2 u st stM
      generalize f i 0 = m0 at *
      generalize f i 1 = m1 at *
      generalize f i 2 = m2 at *
      have HP0 := fun w' => hide (kpick_is m0 7 w' (by omega) (by omega) hr0.1 hr0.2)
      have hpk := pickN_lt m0 7 (by omega)
      generalize pickN m0 7 = pk at *
      go_upto_region 12 with fail
      go_cut [34] (fun v wx => v = .int .i64 (pk : Int) ∧ wx = wr.alloc (.cells #[.int .i64 m0, .int .i64 m1, .int .i64 m2] 52))
      case first =>
        go_wp2_with fail
        refine ((HP0 _).out).mono ?_
        rintro e w9 ⟨rfl, h9⟩
        rw [h9]
        clear h9
        go_wp2_with fail
        all_goals go_meet
        all_goals exact ⟨rfl, rfl⟩
      case rest =>
      obtain ⟨rfl, hwc⟩ := hcut
      have HWc := hide hwc
      clear hwc
      go_upto_block 2 with fail
      go_cut [5, 8, 9, 10] from 18 to 132 (fun dv wv ev _ wx => ∃ (h' : H) (x : Int) (y : Why) (good' : List Int) (pd' : Option Addr) (cd' : Nat), dv = .slice pd' good'.length cd' ∧ wv = .int .i64 x ∧ ErrIs A wx ev y ∧ Tm.Mid given good h' x y good' ∧ h'.l.length ≤ h.l.length + 1 ∧ 0 < h'.classes.length ∧ Nst R N A w (uL pg cg given pd' cd' good') wx p h')
      case first =>
        have stc : Nst R N A w (uL pg cg given pd cd good) wc p h := by rw [HWc.out]; exact HM0.out _
        have HGd := hide (stc.1.good HRG.out)
        have hlen : h.l.length + 1 < 4398046511104 := by omega
        have hc7 : pk = 0 ∨ pk = 1 ∨ pk = 2 ∨ pk = 3 ∨ pk = 4 ∨ pk = 5 ∨ pk = 6 := by omega
        have HMake : Hid (∀ M, Tm.Marked h M → Calls Tryz.prog 25 #[.pointer (some ⟨p, 0, none⟩), .int .i64 0] wc (HP R N A w.heap.size w (ownL (uL pg cg given pd cd good)) wc p (h.ofClass M 0).1.1 (h.ofClass M 0).1.2 (h.ofClass M 0).2)) := fun M hM => stc.1.make HK.out stc.size hM hlen hcl 0
        have HColl : Hid (∀ M, Tm.Marked h M → Calls Tryz.prog 20 #[.pointer (some ⟨p, 0, none⟩)] wc (CP R N A w.heap.size w (ownL (uL pg cg given pd cd good)) wc p (h.collNum M h.l.length) (h.collTo M h.l.length))) := fun M hM => stc.1.collect HK.out stc.size hM
        have HStc := hide stc
        have HHcl := hide hcl
        obtain ⟨M, hM⟩ := Tm.marked_exists h
        have HMk := hide (HMake.out M hM)
        have HCo := hide (HColl.out M hM)
        have HMid := hide (HU.out.make HGd.out hcl M)
        have HUc : Hid (Tm.Uq (h.collTo M h.l.length) given good) := HU.out.same (Tm.collTo_same h M h.l.length).1
        have HCc : Hid ((h.collTo M h.l.length).l.length = h.l.length ∧ (h.collTo M h.l.length).classes = h.classes) := ⟨Tm.collTo_len h M h.l.length, (Tm.collTo_same h M h.l.length).2.2.2⟩
        clear hlen stc HMake HColl hM hcl HM0
        generalize h.ofClass M 0 = am at *
        generalize h.collTo M h.l.length = hc at *
        generalize h.collNum M h.l.length = nc at *
        obtain ⟨⟨xm, ym⟩, hm⟩ := am
        rcases hc7 with rfl | rfl | rfl | rfl | rfl | rfl | rfl
        · go_wp2_with fail
          refine HMk.out.mono ?_
          rintro e w3 ⟨ev, rfl, he, x3, _, hk3⟩
          have HFin : Hid (ErrIs A w3 ev ym ∧ Nst R N A w (uL pg cg given pd cd good) w3 p hm) := ⟨he, HStc.out.call x3 hk3⟩
          clear he x3 hk3
          go_wp2_with fail
          all_goals go_meet
          all_goals exact ⟨hm, xm, ym, good, pd, cd, rfl, rfl, HFin.out.1, HMid.out.1, HMid.out.2.1, by rw [HMid.out.2.2]; exact HHcl.out, HFin.out.2⟩
        · go_wp2_with fail
          refine HMk.out.mono ?_
          rintro e w3 ⟨ev, rfl, he, x3, _, hk3⟩
          have HFin : Hid (ErrIs A w3 ev ym ∧ Nst R N A w (uL pg cg given pd cd good) w3 p hm) := ⟨he, HStc.out.call x3 hk3⟩
          clear he x3 hk3
          go_wp2_with fail
          all_goals go_meet
          all_goals exact ⟨hm, xm, ym, good, pd, cd, rfl, rfl, HFin.out.1, HMid.out.1, HMid.out.2.1, by rw [HMid.out.2.2]; exact HHcl.out, HFin.out.2⟩
        · by_cases hg0 : 0 < good.length
          · have bg : (0 : Int) < (good.length : Int) := by omega
            obtain ⟨k1, e1, b1k⟩ := pickZ_nat m1 3 (by omega)
            obtain ⟨k2, e2, b2k⟩ := pickZ_nat m2 (good.length : Int) bg
            have hk2 : k2 < good.length := by omega
            obtain ⟨gd, egd, _, hcd⟩ := (HStc.out.2.row ⟨pd, cd, good⟩ (by simp [uL])).seen hg0
            simp only at egd hcd
            subst egd
            have ck2 := hcd k2 hk2
            have hx := Tm.getD_mem good 0 k2 hk2
            have hx2 := HU.out.spelt _ (HU.out.sub _ hx)
            have hx3 := HGd.out.slots ((good.getD k2 0) % 4).toNat ((good.getD k2 0) / 4 % 64).toNat (by unfold Tm.H.spelt at hx2; omega)
            have hxb : good.getD k2 0 < 9223372036854775808 := by
              unfold Tm.H.spelt Tm.H.at' at hx2
              omega
            have hmid := HU.out.ref HGd.out (1 + k1) ⟨by omega, by omega⟩ hx
            rw [show ((1 + k1 : Nat) : Int) = 1 + (k1 : Int) from by push_cast; rfl] at hmid
            have hpD : Hp R N A w.heap.size w (fun b => ownL (uL pg cg given (some ⟨gd, 0, none⟩) cd good) b ∨ b = wr.heap.size) wc.drew p h := by
              have e := HWc.out
              refine HSt.out.1.turn HK.out.ok HSt.out.size ?_ ?_ ?_ ?_
              · rw [e]; exact ((Below.alloc0 wr _).mono HSt.out.size).trans ⟨rfl, rfl, rfl, Nat.le_refl _, fun _ _ => rfl⟩
              · intro b hb _; rw [e]; exact (Below.alloc0 wr _).block b hb
              · rintro b (q | q)
                · exact Or.inl q
                · exact Or.inr (by omega)
              · rintro b (q | q)
                · have := (HStc.out.2.lt q).2; exact this
                · rw [e, q]; simp
            have hrf := hpD.ref HK.out (hpD.size (Nat.le_refl _)) (1 + (k1 : Int)) (good.getD k2 0) hxb
            have HStD : Hid (Nst R N A w (uL pg cg given (some ⟨gd, 0, none⟩) cd good) wc.drew p h) := HStc.out.dn HK.out.ok ⟨rfl, rfl, rfl, Nat.le_refl _, fun _ _ => rfl⟩
            have HOg : Hid (ownL (uL pg cg given (some ⟨gd, 0, none⟩) cd good) gd) := ⟨⟨some ⟨gd, 0, none⟩, cd, good⟩, by simp [uL], _, rfl, rfl⟩
            have cA : wc.cell? ⟨wr.heap.size, 1, none⟩ = some (.int .i64 m1) := by rw [HWc.out, World.cell?_alloc_at _ _ _ _ (by simp)]; rfl
            have cB : wc.cell? ⟨wr.heap.size, 2, none⟩ = some (.int .i64 m2) := by rw [HWc.out, World.cell?_alloc_at _ _ _ _ (by simp)]; rfl
            have hw1 : IntKind.i64.wrap (1 + (k1 : Int)) = 1 + (k1 : Int) := IntWalk.i64_in _ (by omega)
            have cA' : wc.drew.cell? ⟨wr.heap.size, 1, none⟩ = some (.int .i64 m1) := cA
            have cB' : wc.drew.cell? ⟨wr.heap.size, 2, none⟩ = some (.int .i64 m2) := cB
            have ck2' : wc.drew.cell? ⟨gd, k2, none⟩ = some (.int .i64 (good.getD k2 0)) := ck2
            have HPz := hide (fun c n w h0 hn hc hc2 => kpick_z c n w h0 hn hc hc2)
            clear hpD hcd hx hx2 hx3 c0 c1 c2 HMr
            generalize good.getD k2 0 = xg at *
            generalize h.ref (1 + (k1 : Int)) xg = ar at *
            obtain ⟨⟨xr, yr⟩, hr⟩ := ar
            have HRf := hide hrf
            have HMr := hide hmid
            clear hrf hmid HMk HCo HMid HUc HCc HP0 HSt
            go_upto_region 20 with fail
            go_region_held3 (fun w' => w'.cell? ⟨wr.heap.size, 1, none⟩ = some (.int .i64 m1) ∧ w'.cell? ⟨wr.heap.size, 2, none⟩ = some (.int .i64 m2) ∧ w'.cell? ⟨gd, k2, none⟩ = some (.int .i64 xg)) (first | (with_reducible exact ⟨by assumption, by assumption, by assumption⟩) | go_keep) (first
              | (go_at_call 16
                 refine (HPz.out _ _ _ ?_ ?_ ?_ ?_).mono ?_
                 · omega
                 · omega
                 · omega
                 · omega
                 rintro e w9 ⟨rfl, h9⟩
                 rw [h9]
                 clear h9)
              | (go_at_call 17
                 refine HRf.out.mono ?_
                 rintro e w2 ⟨ev, rfl, he, x2, _, hk2'⟩
                 have HFin : Hid (ErrIs A w2 ev yr ∧ Nst R N A w (uL pg cg given (some ⟨gd, 0, none⟩) cd good) w2 p hr) := ⟨he, HStD.out.call (x2.less (fun b q => Or.inl q)) (fun b q => hk2' b (Or.inl q))⟩
                 have d1 : w2.cell? ⟨wr.heap.size, 1, none⟩ = some (.int .i64 m1) := by rw [cell_of (hk2' _ (Or.inr rfl))]; exact cA
                 have d2 : w2.cell? ⟨wr.heap.size, 2, none⟩ = some (.int .i64 m2) := by rw [cell_of (hk2' _ (Or.inr rfl))]; exact cB
                 have d3 : w2.cell? ⟨gd, k2, none⟩ = some (.int .i64 xg) := by rw [cell_of (hk2' _ (Or.inl HOg.out))]; exact ck2
                 clear he x2 hk2'))
            all_goals go_wp2_with fail
            all_goals go_meet
            all_goals exact ⟨hr, xr, yr, good, some ⟨gd, 0, none⟩, cd, rfl, rfl, HFin.out.1, HMr.out.1, by rw [HMr.out.2.1]; omega, by rw [HMr.out.2.2]; exact HHcl.out, HFin.out.2⟩
          · have bg : ¬ (0 : Int) < (good.length : Int) := by omega
            clear HMk HCo HMid HUc HCc HP0 HSt
            go_wp2_with fail
            all_goals go_meet
            all_goals exact ⟨h, 0, Tm.fine, good, pd, cd, rfl, rfl, Or.inl ⟨rfl, rfl⟩, Or.inl ⟨rfl, Or.inl rfl, HU.out, Nat.le_refl _⟩, by omega, HHcl.out, HStc.out⟩
        · by_cases hg0 : 0 < good.length
          · have bg : (0 : Int) < (good.length : Int) := by omega
            obtain ⟨k1, e1, b1k⟩ := pickZ_nat m1 3 (by omega)
            obtain ⟨k2, e2, b2k⟩ := pickZ_nat m2 (good.length : Int) bg
            have hk2 : k2 < good.length := by omega
            obtain ⟨gd, egd, _, hcd⟩ := (HStc.out.2.row ⟨pd, cd, good⟩ (by simp [uL])).seen hg0
            simp only at egd hcd
            subst egd
            have ck2 := hcd k2 hk2
            have hx := Tm.getD_mem good 0 k2 hk2
            have hx2 := HU.out.spelt _ (HU.out.sub _ hx)
            have hx3 := HGd.out.slots ((good.getD k2 0) % 4).toNat ((good.getD k2 0) / 4 % 64).toNat (by unfold Tm.H.spelt at hx2; omega)
            have hxb : good.getD k2 0 < 9223372036854775808 := by
              unfold Tm.H.spelt Tm.H.at' at hx2
              omega
            have hmid := HU.out.ref HGd.out (1 + k1) ⟨by omega, by omega⟩ hx
            rw [show ((1 + k1 : Nat) : Int) = 1 + (k1 : Int) from by push_cast; rfl] at hmid
            have hpD : Hp R N A w.heap.size w (fun b => ownL (uL pg cg given (some ⟨gd, 0, none⟩) cd good) b ∨ b = wr.heap.size) wc.drew p h := by
              have e := HWc.out
              refine HSt.out.1.turn HK.out.ok HSt.out.size ?_ ?_ ?_ ?_
              · rw [e]; exact ((Below.alloc0 wr _).mono HSt.out.size).trans ⟨rfl, rfl, rfl, Nat.le_refl _, fun _ _ => rfl⟩
              · intro b hb _; rw [e]; exact (Below.alloc0 wr _).block b hb
              · rintro b (q | q)
                · exact Or.inl q
                · exact Or.inr (by omega)
              · rintro b (q | q)
                · have := (HStc.out.2.lt q).2; exact this
                · rw [e, q]; simp
            have hrf := hpD.ref HK.out (hpD.size (Nat.le_refl _)) (1 + (k1 : Int)) (good.getD k2 0) hxb
            have HStD : Hid (Nst R N A w (uL pg cg given (some ⟨gd, 0, none⟩) cd good) wc.drew p h) := HStc.out.dn HK.out.ok ⟨rfl, rfl, rfl, Nat.le_refl _, fun _ _ => rfl⟩
            have HOg : Hid (ownL (uL pg cg given (some ⟨gd, 0, none⟩) cd good) gd) := ⟨⟨some ⟨gd, 0, none⟩, cd, good⟩, by simp [uL], _, rfl, rfl⟩
            have cA : wc.cell? ⟨wr.heap.size, 1, none⟩ = some (.int .i64 m1) := by rw [HWc.out, World.cell?_alloc_at _ _ _ _ (by simp)]; rfl
            have cB : wc.cell? ⟨wr.heap.size, 2, none⟩ = some (.int .i64 m2) := by rw [HWc.out, World.cell?_alloc_at _ _ _ _ (by simp)]; rfl
            have hw1 : IntKind.i64.wrap (1 + (k1 : Int)) = 1 + (k1 : Int) := IntWalk.i64_in _ (by omega)
            have cA' : wc.drew.cell? ⟨wr.heap.size, 1, none⟩ = some (.int .i64 m1) := cA
            have cB' : wc.drew.cell? ⟨wr.heap.size, 2, none⟩ = some (.int .i64 m2) := cB
            have ck2' : wc.drew.cell? ⟨gd, k2, none⟩ = some (.int .i64 (good.getD k2 0)) := ck2
            have HPz := hide (fun c n w h0 hn hc hc2 => kpick_z c n w h0 hn hc hc2)
            clear hpD hcd hx hx2 hx3 c0 c1 c2 HMr
            generalize good.getD k2 0 = xg at *
            generalize h.ref (1 + (k1 : Int)) xg = ar at *
            obtain ⟨⟨xr, yr⟩, hr⟩ := ar
            have HRf := hide hrf
            have HMr := hide hmid
            clear hrf hmid HMk HCo HMid HUc HCc HP0 HSt
            go_upto_region 20 with fail
            go_region_held3 (fun w' => w'.cell? ⟨wr.heap.size, 1, none⟩ = some (.int .i64 m1) ∧ w'.cell? ⟨wr.heap.size, 2, none⟩ = some (.int .i64 m2) ∧ w'.cell? ⟨gd, k2, none⟩ = some (.int .i64 xg)) (first | (with_reducible exact ⟨by assumption, by assumption, by assumption⟩) | go_keep) (first
              | (go_at_call 16
                 refine (HPz.out _ _ _ ?_ ?_ ?_ ?_).mono ?_
                 · omega
                 · omega
                 · omega
                 · omega
                 rintro e w9 ⟨rfl, h9⟩
                 rw [h9]
                 clear h9)
              | (go_at_call 17
                 refine HRf.out.mono ?_
                 rintro e w2 ⟨ev, rfl, he, x2, _, hk2'⟩
                 have HFin : Hid (ErrIs A w2 ev yr ∧ Nst R N A w (uL pg cg given (some ⟨gd, 0, none⟩) cd good) w2 p hr) := ⟨he, HStD.out.call (x2.less (fun b q => Or.inl q)) (fun b q => hk2' b (Or.inl q))⟩
                 have d1 : w2.cell? ⟨wr.heap.size, 1, none⟩ = some (.int .i64 m1) := by rw [cell_of (hk2' _ (Or.inr rfl))]; exact cA
                 have d2 : w2.cell? ⟨wr.heap.size, 2, none⟩ = some (.int .i64 m2) := by rw [cell_of (hk2' _ (Or.inr rfl))]; exact cB
                 have d3 : w2.cell? ⟨gd, k2, none⟩ = some (.int .i64 xg) := by rw [cell_of (hk2' _ (Or.inl HOg.out))]; exact ck2
                 clear he x2 hk2'))
            all_goals go_wp2_with fail
            all_goals go_meet
            all_goals exact ⟨hr, xr, yr, good, some ⟨gd, 0, none⟩, cd, rfl, rfl, HFin.out.1, HMr.out.1, by rw [HMr.out.2.1]; omega, by rw [HMr.out.2.2]; exact HHcl.out, HFin.out.2⟩
          · have bg : ¬ (0 : Int) < (good.length : Int) := by omega
            clear HMk HCo HMid HUc HCc HP0 HSt
            go_wp2_with fail
            all_goals go_meet
            all_goals exact ⟨h, 0, Tm.fine, good, pd, cd, rfl, rfl, Or.inl ⟨rfl, rfl⟩, Or.inl ⟨rfl, Or.inl rfl, HU.out, Nat.le_refl _⟩, by omega, HHcl.out, HStc.out⟩
        · by_cases hg0 : 0 < good.length
          · have bg : (0 : Int) < (good.length : Int) := by omega
            obtain ⟨k2, e2, b2k⟩ := pickZ_nat m1 (good.length : Int) bg
            have hk2 : k2 < good.length := by omega
            have hrow := HStc.out.2.row ⟨pd, cd, good⟩ (by simp [uL])
            have hcap := hrow.cap
            obtain ⟨gd, egd, hgs, hcd⟩ := hrow.seen hg0
            simp only at egd hcd hcap
            subst egd
            have ck2 := hcd k2 hk2
            have hx := Tm.getD_mem good 0 k2 hk2
            have hx2 := HU.out.spelt _ (HU.out.sub _ hx)
            have hx3 := HGd.out.slots ((good.getD k2 0) % 4).toNat ((good.getD k2 0) / 4 % 64).toNat (by unfold Tm.H.spelt at hx2; omega)
            have hxb : good.getD k2 0 < 9223372036854775808 := by
              unfold Tm.H.spelt Tm.H.at' at hx2
              omega
            obtain ⟨hf, ef, uf⟩ := HU.out.free HGd.out k2 hk2
            have hls : (h.freed (good.getD k2 0)).2.l = h.l ∧ (h.freed (good.getD k2 0)).2.classes = h.classes := by unfold Tm.H.freed; split <;> exact ⟨rfl, rfl⟩
            have hfr := HStc.out.1.free HK.out HStc.out.size (good.getD k2 0) hxb
            rw [ef] at hfr hls
            have HLs := hide hls
            have HFr := hide hfr
            have HUf := hide uf
            have HOg : Hid (ownL (uL pg cg given (some ⟨gd, 0, none⟩) cd good) gd) := ⟨⟨some ⟨gd, 0, none⟩, cd, good⟩, by simp [uL], _, rfl, rfl⟩
            have HCd := hide hcd
            have HCap := hide hcap
            have cA : wc.cell? ⟨wr.heap.size, 1, none⟩ = some (.int .i64 m1) := by rw [HWc.out, World.cell?_alloc_at _ _ _ _ (by simp)]; rfl
            have HPz := hide (fun c n w h0 hn hc hc2 => kpick_z c n w h0 hn hc hc2)
            clear hcd hx hx2 hx3 c0 c1 c2 hfr uf hrow hcap ef hls
            clear HMk HCo HMid HUc HCc HP0 HSt
            generalize good.getD k2 0 = xg at *
            go_wp2_with fail
            refine (HPz.out _ _ _ ?_ ?_ ?_ ?_).mono ?_
            · omega
            · omega
            · omega
            · omega
            rintro e w9 ⟨rfl, h9⟩
            rw [h9]
            clear h9
            go_wp2_with fail
            refine HFr.out.mono ?_
            rintro e w3 ⟨ev, rfl, he, x3, hz3, hk3⟩
            obtain rfl := he.nil rfl
            have st3 := HStc.out.call x3 hk3
            have hcw : ∀ i, i < good.length → w3.cell? ⟨gd, i, none⟩ = some (.int .i64 (good.getD i 0)) := fun i hi => by rw [cell_of (hk3 _ HOg.out)]; exact HCd.out i hi
            have HWo := hide (without_any w3 gd cd good (by omega) HCap.out k2 hk2 (by omega) hcw)
            have HS3 := hide st3
            clear he x3 hz3 hk3 st3 hcw HFr
            go_wp2_with fail
            refine HWo.out.mono ?_
            rintro e w4 ⟨q4, c4, rfl, hr4, hb4⟩
            have HFin : Hid (Nst R N A w (uL pg cg given q4 c4 (good.eraseIdx k2)) w4 p hf) := HS3.out.swap (L1 := [_]) (L2 := []) HK.out.ok hb4 hr4
            clear hr4 hb4 HWo
            go_wp2_with fail
            all_goals go_meet
            all_goals exact ⟨hf, 0, Tm.fine, good.eraseIdx k2, q4, c4, rfl, rfl, Or.inl ⟨rfl, rfl⟩, Or.inl ⟨rfl, Or.inl rfl, HUf.out, by rw [List.length_eraseIdx, if_pos hk2]; omega⟩, by rw [HLs.out.1]; omega, by rw [HLs.out.2]; exact HHcl.out, HFin.out⟩
          · have bg : ¬ (0 : Int) < (good.length : Int) := by omega
            clear HMk HCo HMid HUc HCc HP0 HSt
            go_wp2_with fail
            all_goals go_meet
            all_goals exact ⟨h, 0, Tm.fine, good, pd, cd, rfl, rfl, Or.inl ⟨rfl, rfl⟩, Or.inl ⟨rfl, Or.inl rfl, HU.out, Nat.le_refl _⟩, by omega, HHcl.out, HStc.out⟩
        · by_cases hg0 : 0 < good.length
          · have bg : (0 : Int) < (good.length : Int) := by omega
            obtain ⟨k2, e2, b2k⟩ := pickZ_nat m1 (good.length : Int) bg
            have hk2 : k2 < good.length := by omega
            have hrow := HStc.out.2.row ⟨pd, cd, good⟩ (by simp [uL])
            have hcap := hrow.cap
            obtain ⟨gd, egd, hgs, hcd⟩ := hrow.seen hg0
            simp only at egd hcd hcap
            subst egd
            have ck2 := hcd k2 hk2
            have hx := Tm.getD_mem good 0 k2 hk2
            have hx2 := HU.out.spelt _ (HU.out.sub _ hx)
            have hx3 := HGd.out.slots ((good.getD k2 0) % 4).toNat ((good.getD k2 0) / 4 % 64).toNat (by unfold Tm.H.spelt at hx2; omega)
            have hxb : good.getD k2 0 < 9223372036854775808 := by
              unfold Tm.H.spelt Tm.H.at' at hx2
              omega
            obtain ⟨hf, ef, uf⟩ := HU.out.free HGd.out k2 hk2
            have hls : (h.freed (good.getD k2 0)).2.l = h.l ∧ (h.freed (good.getD k2 0)).2.classes = h.classes := by unfold Tm.H.freed; split <;> exact ⟨rfl, rfl⟩
            have hfr := HStc.out.1.free HK.out HStc.out.size (good.getD k2 0) hxb
            rw [ef] at hfr hls
            have HLs := hide hls
            have HFr := hide hfr
            have HUf := hide uf
            have HOg : Hid (ownL (uL pg cg given (some ⟨gd, 0, none⟩) cd good) gd) := ⟨⟨some ⟨gd, 0, none⟩, cd, good⟩, by simp [uL], _, rfl, rfl⟩
            have HCd := hide hcd
            have HCap := hide hcap
            have cA : wc.cell? ⟨wr.heap.size, 1, none⟩ = some (.int .i64 m1) := by rw [HWc.out, World.cell?_alloc_at _ _ _ _ (by simp)]; rfl
            have HPz := hide (fun c n w h0 hn hc hc2 => kpick_z c n w h0 hn hc hc2)
            clear hcd hx hx2 hx3 c0 c1 c2 hfr uf hrow hcap ef hls
            clear HMk HCo HMid HUc HCc HP0 HSt
            generalize good.getD k2 0 = xg at *
            go_wp2_with fail
            refine (HPz.out _ _ _ ?_ ?_ ?_ ?_).mono ?_
            · omega
            · omega
            · omega
            · omega
            rintro e w9 ⟨rfl, h9⟩
            rw [h9]
            clear h9
            go_wp2_with fail
            refine HFr.out.mono ?_
            rintro e w3 ⟨ev, rfl, he, x3, hz3, hk3⟩
            obtain rfl := he.nil rfl
            have st3 := HStc.out.call x3 hk3
            have hcw : ∀ i, i < good.length → w3.cell? ⟨gd, i, none⟩ = some (.int .i64 (good.getD i 0)) := fun i hi => by rw [cell_of (hk3 _ HOg.out)]; exact HCd.out i hi
            have HWo := hide (without_any w3 gd cd good (by omega) HCap.out k2 hk2 (by omega) hcw)
            have HS3 := hide st3
            clear he x3 hz3 hk3 st3 hcw HFr
            go_wp2_with fail
            refine HWo.out.mono ?_
            rintro e w4 ⟨q4, c4, rfl, hr4, hb4⟩
            have HFin : Hid (Nst R N A w (uL pg cg given q4 c4 (good.eraseIdx k2)) w4 p hf) := HS3.out.swap (L1 := [_]) (L2 := []) HK.out.ok hb4 hr4
            clear hr4 hb4 HWo
            go_wp2_with fail
            all_goals go_meet
            all_goals exact ⟨hf, 0, Tm.fine, good.eraseIdx k2, q4, c4, rfl, rfl, Or.inl ⟨rfl, rfl⟩, Or.inl ⟨rfl, Or.inl rfl, HUf.out, by rw [List.length_eraseIdx, if_pos hk2]; omega⟩, by rw [HLs.out.1]; omega, by rw [HLs.out.2]; exact HHcl.out, HFin.out⟩
          · have bg : ¬ (0 : Int) < (good.length : Int) := by omega
            clear HMk HCo HMid HUc HCc HP0 HSt
            go_wp2_with fail
            all_goals go_meet
            all_goals exact ⟨h, 0, Tm.fine, good, pd, cd, rfl, rfl, Or.inl ⟨rfl, rfl⟩, Or.inl ⟨rfl, Or.inl rfl, HU.out, Nat.le_refl _⟩, by omega, HHcl.out, HStc.out⟩
        · go_wp2_with fail
          refine HCo.out.mono ?_
          rintro e w3 ⟨rfl, x3, _, hk3⟩
          have HFin : Hid (Nst R N A w (uL pg cg given pd cd good) w3 p hc) := HStc.out.call x3 hk3
          clear x3 hk3
          go_wp2_with fail
          all_goals go_meet
          all_goals exact ⟨hc, 0, Tm.fine, good, pd, cd, rfl, rfl, Or.inl ⟨rfl, rfl⟩, Or.inl ⟨rfl, Or.inl rfl, HUc.out, Nat.le_refl _⟩, by rw [HCc.out.1]; omega, by rw [HCc.out.2]; exact HHcl.out, HFin.out⟩
      case rest =>
        obtain ⟨h', x, y, good', pd', cd', rfl, rfl, he, mid, hl', hcl', st'⟩ := hcut
        have HE := hide st'.1.errs
        have ge0 := HE.out.g6
        have ge1 := HE.out.g7
        have ge2 := HE.out.g4
        have HS' := hide st'
        have HCl' := hide hcl'
        clear HM0 HP0 HWc c0 c1 c2
        rcases mid with ⟨rfl, hr, u', hle⟩ | ⟨hx0, hx1, rfl, rfl, hnin, u'⟩
        · have HU' := hide u'
          have HTo := hide (ktold_any HK.out HRG.out st' pg pd' cg cd' given good' (by simp [uL]) (by simp [uL]) u' (by omega) (by omega))
          have HRnd : Hid (∀ w2, Nst R N A w (uL pg cg given pd' cd' good') w2 p h' → UPre R N A w p (i + 1) (.slice pg given.length cg) (.slice pd' good'.length cd') w2) := fun w2 st2 => ⟨h', given, good', pg, cg, pd', cd', rfl, rfl, by omega, by omega, by omega, HCl'.out, HU'.out, st2⟩
          have HW := hide (why_any A wc _ _ he)
          clear u' st' hcl'
          rcases hr with hr | hr | hr | hr
          · obtain rfl := he.nil hr
            have ewy : whyE A y = .nilIface := by unfold whyE; rw [if_pos hr]
            rw [ewy] at HW
            clear ewy he hr
            go_wp2_with fail
            refine HW.out.mono ?_
            rintro e w9 ⟨rfl, h9⟩
            rw [h9]
            clear h9
            go_wp2_with fail
            refine HTo.out.mono ?_
            rintro e w5 ⟨rfl, st5⟩
            have HR5 := hide (HRnd.out w5 st5)
            clear st5 HTo
            go_wp2_with fail
            go_roundw
            case rel => exact ⟨i + 1, by omega, by omega, by go_num, HR5.out⟩
            case measure => simp [intOf]; omega
          · obtain ⟨fb, rfl⟩ := he.some (by omega)
            have ewy : whyE A y = .iface 261 (.pointer (some (A 4))) := by unfold whyE; rw [if_neg (by omega), hr]; rfl
            rw [ewy] at HW
            have hq1 := HE.out.neq 4 6 (by omega) (by omega) (by omega)
            have hq2 := HE.out.neq 4 7 (by omega) (by omega) (by omega)
            have hq3 := neq_same wc (A 4)
            clear ewy he hr
            generalize A 4 = a4 at *
            generalize A 6 = a6 at *
            generalize A 7 = a7 at *
            go_wp2_with fail
            refine HW.out.mono ?_
            rintro e w9 ⟨rfl, h9⟩
            rw [h9]
            clear h9
            go_wp2_with fail
            refine HTo.out.mono ?_
            rintro e w5 ⟨rfl, st5⟩
            have HR5 := hide (HRnd.out w5 st5)
            clear st5 HTo
            go_wp2_with fail
            go_roundw
            case rel => exact ⟨i + 1, by omega, by omega, by go_num, HR5.out⟩
            case measure => simp [intOf]; omega
          · obtain ⟨fb, rfl⟩ := he.some (by omega)
            have ewy : whyE A y = .iface 261 (.pointer (some (A 6))) := by unfold whyE; rw [if_neg (by omega), hr]; rfl
            rw [ewy] at HW
            have hq3 := neq_same wc (A 6)
            clear ewy he hr
            generalize A 4 = a4 at *
            generalize A 6 = a6 at *
            generalize A 7 = a7 at *
            go_wp2_with fail
            refine HW.out.mono ?_
            rintro e w9 ⟨rfl, h9⟩
            rw [h9]
            clear h9
            go_wp2_with fail
            refine HTo.out.mono ?_
            rintro e w5 ⟨rfl, st5⟩
            have HR5 := hide (HRnd.out w5 st5)
            clear st5 HTo
            go_wp2_with fail
            go_roundw
            case rel => exact ⟨i + 1, by omega, by omega, by go_num, HR5.out⟩
            case measure => simp [intOf]; omega
          · obtain ⟨fb, rfl⟩ := he.some (by omega)
            have ewy : whyE A y = .iface 261 (.pointer (some (A 7))) := by unfold whyE; rw [if_neg (by omega), hr]; rfl
            rw [ewy] at HW
            have hq1 := HE.out.neq 7 6 (by omega) (by omega) (by omega)
            have hq3 := neq_same wc (A 7)
            clear ewy he hr
            generalize A 4 = a4 at *
            generalize A 6 = a6 at *
            generalize A 7 = a7 at *
            go_wp2_with fail
            refine HW.out.mono ?_
            rintro e w9 ⟨rfl, h9⟩
            rw [h9]
            clear h9
            go_wp2_with fail
            refine HTo.out.mono ?_
            rintro e w5 ⟨rfl, st5⟩
            have HR5 := hide (HRnd.out w5 st5)
            clear st5 HTo
            go_wp2_with fail
            go_roundw
            case rel => exact ⟨i + 1, by omega, by omega, by go_num, HR5.out⟩
            case measure => simp [intOf]; omega
        · obtain rfl := he.nil rfl
          have HU' := hide u'
          have HW := hide (why_any A wc _ _ he)
          have ewy : whyE A Tm.fine = .nilIface := rfl
          rw [ewy] at HW
          have HAm := hide (kamong_any wc pg cg given given.length rfl (by omega) x (st'.2.row ⟨pg, cg, given⟩ (by simp [uL])).seen)
          have din : decide (x ∈ given) = false := by simp [hnin]
          rw [din] at HAm
          have hxn : ¬ x = 0 := by omega
          have hzc := st'.size
          clear ewy he u' st' hcl' din hnin
          go_wp2_with fail
          refine HW.out.mono ?_
          rintro e w9 ⟨rfl, h9⟩
          rw [h9]
          clear h9
          go_wp2_with fail
          refine HAm.out.mono ?_
          rintro e w9 ⟨rfl, h9⟩
          rw [h9]
          clear h9
          go_wp2_with (first
            | (at_builtin; refine wpList_append_ints _ rfl _ _ rfl w.heap.size pg cg given _ rfl rfl (HS'.out.row (L1 := []) (L2 := [_]) _) ⟨wc.heap.size, 0, none⟩ 1 1 [x] rfl rfl (one_at wc _) (by omega) (by simp; omega) ?_)
            | fail)
          intro p4 c4 w4 hr4 hg4 hn4 hl4
          have st4 := HS'.out.app (L1 := []) (L2 := [_]) HK.out.ok _ hr4 hg4 hl4
          have HS4 := hide st4
          have hz4 := st4.size
          clear hr4 hg4 hn4 hl4 st4
          go_wp2_with (first
            | (at_builtin; refine wpList_append_ints _ rfl _ _ rfl w.heap.size pd' cd' good' _ rfl rfl (HS4.out.row (L1 := [_]) (L2 := []) _) ⟨w4.heap.size, 0, none⟩ 1 1 [x] rfl rfl (one_at w4 _) (by omega) (by simp; omega) ?_)
            | fail)
          intro p5 c5 w5 hr5 hg5 hn5 hl5
          have st5 : Nst R N A w (uL p4 c4 (given ++ [x]) p5 c5 (good' ++ [x])) w5 p h' := HS4.out.app (L1 := [_]) (L2 := []) HK.out.ok _ hr5 hg5 hl5
          have HTo := hide (ktold_any HK.out HRG.out st5 p4 p5 c4 c5 (given ++ [x]) (good' ++ [x]) (by simp [uL]) (by simp [uL]) HU'.out (by simp; omega) (by simp; omega))
          have eg : (given ++ [x]).length = given.length + 1 := by simp
          have ed : (good' ++ [x]).length = good'.length + 1 := by simp
          rw [eg, ed] at HTo
          have HRnd : Hid (∀ w2, Nst R N A w (uL p4 c4 (given ++ [x]) p5 c5 (good' ++ [x])) w2 p h' → UPre R N A w p (i + 1) (.slice p4 (given.length + 1) c4) (.slice p5 (good'.length + 1) c5) w2) := fun w2 st2 => ⟨h', given ++ [x], good' ++ [x], p4, c4, p5, c5, by rw [eg], by rw [ed], by omega, by omega, by omega, HCl'.out, HU'.out, st2⟩
          clear hr5 hg5 hn5 hl5 st5 eg ed
          go_wp2_with fail
          refine HTo.out.mono ?_
          rintro e w6 ⟨rfl, st6⟩
          have HR6 := hide (HRnd.out w6 st6)
          clear st6 HTo
          go_wp2_with fail
          go_roundw
          case rel => exact ⟨i + 1, by omega, by omega, by go_num, HR6.out⟩
          case measure => simp [intOf]; omega
    · have hif : ¬ (i : Int) < (nm : Int) ∨ ((i : Int) < (nm : Int) ∧ ¬ (i : Int) < 120) := by omega
      have HB := hide st.1.below
      clear u st
      rcases hif with b1 | ⟨b1, b2⟩
      all_goals
        go_wp2_with fail
        go_ret
        exact ⟨rfl, HB.out⟩
end
end Go.Proofs.YtcnmfljpmpgnjaaGreatDoor

namespace Go.Proofs.YtcnmfljpmpgnjaaGreatDoor
open Go.ChangeShapes Go.WideShapes Go.ChangeAt Go.RowKit Go.Deep Go.WideElems

theorem readMv : Tryz.prog.readableRec 49 = true := by kernel_rfl
theorem rowMv : 49 < Tryz.prog.types.size := of_decide_eq_true (by kernel_rfl)
theorem cellsMv : Tryz.prog.cellsOf 52 = 3 := by kernel_rfl
theorem len3 {α : Type} {l : List α} (h : l.length = 3) : ∃ a0 a1 a2, l = [a0, a1, a2] := by
  match l, h with
  | [a0, a1, a2], _ => exact ⟨a0, a1, a2, rfl⟩

theorem move_of {H : Type} {enc : TypeId × Value → H} {w : World} {fuel : Nat} {cs : List Value} {x : DataW H × List MemPlace} (h : DataW.trod enc Tryz.prog w 0 (fun _ => true) true fuel 52 cs = some x) :
    ∃ m0 m1 m2, cs = [.int .i64 m0, .int .i64 m1, .int .i64 m2] ∧ In64 m0 ∧ In64 m1 ∧ In64 m2 := by
  obtain ⟨xs, n, _, rfl, hl, hlen, hf⟩ := DataW.trod_struct Tryz.underlying52 h
  rw [cellsMv] at hl
  obtain ⟨a0, a1, a2, rfl⟩ := len3 hl
  obtain ⟨y0, y1, y2, rfl⟩ := len3 (hlen.trans rfl)
  have h0 : DataW.trod enc Tryz.prog w 0 (fun _ => true) true n 3 (([a0, a1, a2].drop 0).take (Tryz.prog.cellsOf 3)) = some y0 := hf 0 _ rfl
  have h1 : DataW.trod enc Tryz.prog w 0 (fun _ => true) true n 3 (([a0, a1, a2].drop 1).take (Tryz.prog.cellsOf 3)) = some y1 := hf 1 _ rfl
  have h2 : DataW.trod enc Tryz.prog w 0 (fun _ => true) true n 3 (([a0, a1, a2].drop 2).take (Tryz.prog.cellsOf 3)) = some y2 := hf 2 _ rfl
  simp only [cellsI1] at h0 h1 h2
  obtain ⟨m0, e0, _, q0⟩ := DataW.trod_int Tryz.underlying3 h0
  obtain ⟨m1, e1, _, q1⟩ := DataW.trod_int Tryz.underlying3 h1
  obtain ⟨m2, e2, _, q2⟩ := DataW.trod_int Tryz.underlying3 h2
  simp only [List.drop, List.take, List.cons.injEq, and_true] at e0 e1 e2
  subst e0 e1 e2
  exact ⟨m0, m1, m2, rfl, in64_wf q0, in64_wf q1, in64_wf q2⟩

/-- The number in a cell. -/
def intAt (w : World) (a : Addr) : Int := match w.cell? a with
  | some (.int _ n) => n
  | _ => 0
theorem intAt_of {w : World} {a : Addr} {n : Int} (h : w.cell? a = some (.int .i64 n)) : intAt w a = n := by unfold intAt; rw [h]

theorem moves_arg {H : Type} {enc : TypeId × Value → H} {W : World} {fuel : Nat} {cs : List Value} {x : DataW H × List MemPlace} (h : DataW.trod enc Tryz.prog W 0 (fun _ => true) true fuel 49 cs = some x) :
    ∃ q m c, ∃ f : Nat → Nat → Int, cs = [.slice q m c] ∧ (0 < m → ∃ g o, q = some ⟨g, o, none⟩ ∧ g < W.heap.size ∧ ∀ i, i < m → ∀ k, k < 3 → W.cell? ⟨g, o + i * 3 + k, none⟩ = some (.int .i64 (f i k))) ∧ ∀ i k, i < m → k < 3 → -9223372036854775808 ≤ f i k ∧ f i k ≤ 9223372036854775807 := by
  rcases open_slice Tryz.underlying49 h with ⟨rfl, rfl⟩ | ⟨a, len, cap, m, n, D, Pl, rfl, _, hlc, hcm, hm, rfl, hrow⟩
  · exact ⟨none, 0, 0, fun _ _ => 0, rfl, fun h0 => absurd h0 (Nat.not_lt_zero _), fun i k hi => absurd hi (Nat.not_lt_zero _)⟩
  simp only [if_true] at hm
  have hR : ∀ i, i < len → ∃ m0 m1 m2, (∀ k, k < 3 → W.cell? (a.add (i * 3 + k)) = ([.int .i64 m0, .int .i64 m1, .int .i64 m2] : List Value)[k]?) ∧ In64 m0 ∧ In64 m1 ∧ In64 m2 := fun i hi => by
    obtain ⟨cs', h1, h2⟩ := hrow i (by omega)
    obtain ⟨m0, m1, m2, rfl, q⟩ := move_of h2
    rw [cellsMv] at h1
    obtain ⟨_, _, h3⟩ := World.cells?_some h1
    exact ⟨m0, m1, m2, fun k hk => by rw [← add_add]; exact h3 k hk, q⟩
  refine ⟨some a, len, cap, fun i k => intAt W (a.add (i * 3 + k)), rfl, fun h0 => ?_, fun i k hi hk => ?_⟩
  · obtain ⟨m0, m1, m2, hk0, _⟩ := hR 0 h0
    have h1 := spot_none (hk0 0 (by omega))
    have hsp : a.spot = none := by
      have := h1.1
      obtain ⟨g, o, sp⟩ := a
      simpa [Addr.add] using this
    refine ⟨a.block, a.off, by obtain ⟨g, o, sp⟩ := a; simp only at hsp; subst hsp; rfl, ?_, fun i hi k hk => ?_⟩
    · have := h1.2
      rw [add_of hsp] at this; exact this
    · obtain ⟨m0, m1, m2, hk1, _⟩ := hR i hi
      have e := hk1 k hk
      have e2 : (⟨a.block, a.off + i * 3 + k, none⟩ : Addr) = a.add (i * 3 + k) := by rw [add_of hsp, Nat.add_assoc]
      rw [e2]
      have : k = 0 ∨ k = 1 ∨ k = 2 := by omega
      rcases this with rfl | rfl | rfl
      · rw [e]
        show _ = some (Value.int .i64 (intAt W (a.add (i * 3 + 0))))
        rw [intAt_of (w := W) (n := m0) e]; rfl
      · rw [e]
        show _ = some (Value.int .i64 (intAt W (a.add (i * 3 + 1))))
        rw [intAt_of (w := W) (n := m1) e]; rfl
      · rw [e]
        show _ = some (Value.int .i64 (intAt W (a.add (i * 3 + 2))))
        rw [intAt_of (w := W) (n := m2) e]; rfl
  · obtain ⟨m0, m1, m2, hk1, q0, q1, q2⟩ := hR i hi
    have e := hk1 k hk
    have : k = 0 ∨ k = 1 ∨ k = 2 := by omega
    rcases this with rfl | rfl | rfl
    · show -9223372036854775808 ≤ intAt W (a.add (i * 3 + 0)) ∧ intAt W (a.add (i * 3 + 0)) ≤ 9223372036854775807
      rw [intAt_of (w := W) (n := m0) e]; exact q0
    · show -9223372036854775808 ≤ intAt W (a.add (i * 3 + 1)) ∧ intAt W (a.add (i * 3 + 1)) ≤ 9223372036854775807
      rw [intAt_of (w := W) (n := m1) e]; exact q1
    · show -9223372036854775808 ≤ intAt W (a.add (i * 3 + 2)) ∧ intAt W (a.add (i * 3 + 2)) ≤ 9223372036854775807
      rw [intAt_of (w := W) (n := m2) e]; exact q2

set_option maxRecDepth 100000 in
theorem kunique_contract {R : (Nat → Prop) → World → Nat → Tm.H → Prop} {N : Nat} {A : Nat → Addr} (K : ProgOK R N A) (KN : NewOK R N A) (RG : ∀ S w p h, R S w p h → Tm.Good h) {H : Type} (enc : TypeId × Value → H) {W : World} {args : Array Value} {ds gs : List (DataW H)} {before : List MemPlace} {base : Nat} (hE : Errs N A W)
    (hval : ∀ (j : Nat) t v, Tryz.f6.params[j]? = some t → args[j]? = some v → Value.okWide Tryz.prog W .any base t v)
    (hW : DataW.Whole enc Tryz.prog Tryz.f6.params.toList Rows.uniqueSpec.vars false W args.toList ds gs before) :
    Calls Tryz.prog 6 args W fun e W' => ∃ v, e = .returned v ∧ Rows.uniqueSpec.post enc Tryz.prog Tryz.f6 false true false false W args v W' := by
  have hW' := hW
  have hlt := hW.lt
  obtain ⟨p, q, hA0, hV, rfl, hfz, hnd⟩ := hW
  have hA : DataW.TrodAll enc Tryz.prog W 0 (fun _ => true) true Tryz.f6.params.toList args.toList ds p := hA0
  rw [Tryz.params6] at hA
  obtain ⟨rfl, rfl⟩ := trodVars_none hV
  obtain ⟨v0, d0, hargs, rfl, hT⟩ := trodAll_one hA
  have hargs' : args = #[v0] := by obtain ⟨l⟩ := args; simpa using hargs
  subst hargs'
  have o0 : Value.okWide Tryz.prog W .any base 49 v0 := hval 0 49 v0 (by rw [Tryz.params6]; rfl) (by simp)
  have hT' := hT
  obtain ⟨n0, hn0⟩ := hT
  obtain ⟨a0, m0, c0, f, e0, hms, hmr⟩ := moves_arg hn0
  obtain ⟨a', l', c', rfl⟩ := okWide_slice Tryz.underlying49 o0
  have e2 : [Value.slice a' l' c'] = [Value.slice a0 m0 c0] := e0
  injection e2 with e2
  injection e2 with e3 e4 e5
  subst e3 e4 e5
  refine (kunique_any K KN RG W hE _ _ _ f hms hmr).mono ?_
  rintro e W' ⟨rfl, hb⟩
  refine ⟨_, rfl, _, _, _, [], p, [], hW', ?_, ?_, ?_, Below.keptBut hb _, fun h => by cases h⟩
  · exact trodAll_mk1 (shut_bool Tryz.underlying4 true)
  · rw [Tryz.params6]
    exact trodAll_mk1 (Trod_stays laidOut readMv rowMv hT' (fun x hx => Below.sameAt hb x (hlt x (by simp [hx]))) (fun x hx => by simpa using hlt x (by simp [hx])))
  · rfl

theorem errs_of_kunique {W : World} (h : laidMetH Tryz.prog Rows.uniqueRow.laid W) : ∃ A, Errs W.heap.size A W := errs_of h
theorem door_met_kunique (os : Os) (args : Array Value) : laidMetH Tryz.prog Rows.uniqueRow.laid ((World.doorLaid Tryz.prog 400 os).forCall (fun _ _ => 0) ⟨#[], args, []⟩).memory :=
  laidMetH_of_parts3 (fuel := 8) (laidMet_of_run' 8 (by kernel_rfl) (by kernel_rfl)) (by kernel_rfl) (by kernel_rfl)

set_option maxRecDepth 100000 in
theorem lifted_kunique {R : (Nat → Prop) → World → Nat → Tm.H → Prop} (K : ∀ N A, ProgOK R N A) (KN : ∀ N A, NewOK R N A) (RG : ∀ S w p h, R S w p h → Tm.Good h) (os : Os) (started : os.Started) (H : Type) (enc : TypeId × Value → H) :
    ReturnsInHanded {} Tryz.checked os 6 .any (fun w args => (Rows.uniqueSpec.pre enc Tryz.prog Tryz.f6 [] false w args ∧ laidMetH Tryz.prog Rows.uniqueRow.laid w) ∧ sizedMet enc Tryz.prog Tryz.f6 (OpenSpec.ofChange Rows.uniqueSpec) false w args)
      (Rows.uniqueSpec.post enc Tryz.prog Tryz.f6 false true false false) := by
  refine returnsInHanded_of_change_and (C := Tryz.checked) (X := fun w _ => laidMetH Tryz.prog Rows.uniqueRow.laid w) (fun _ _ _ hh h => h.of_heap hh) own started (by kernel_rfl) Tryz.func6
    (ChangeSpec.witness_shaped (enc := enc) (C := Tryz.checked) (os := os) (X := fun w _ => laidMetH Tryz.prog Rows.uniqueRow.laid w) false (World.doorLaid Tryz.prog 400 os) #[.slice none 0 0] 8 rfl (World.shaped_of_RefB (by kernel_rfl) (by kernel_rfl)) (by kernel_rfl) (by kernel_rfl) (by kernel_rfl) (door_met_kunique os _)) ?_
  intro W base args ds gs before hval0 hW _ _ hL _
  obtain ⟨A, hE⟩ := errs_of_kunique hL
  exact kunique_contract (K _ A) (KN _ A) RG enc hE hval0 hW

theorem kunique_holds {R : (Nat → Prop) → World → Nat → Tm.H → Prop} (K : ∀ N A, ProgOK R N A) (KN : ∀ N A, NewOK R N A) (RG : ∀ S w p h, R S w p h → Tm.Good h) : Rows.UniqueSaid :=
  OpenClaim.holds_of_wide 6 Tryz.f6 rfl rfl rfl rfl rfl rfl rfl ⟨rfl, rfl, rfl, rfl, rfl⟩ rfl rfl rfl rfl rfl (by kernel_rfl) Tryz.func6 (by kernel_rfl)
    (of_decide_eq_true (by kernel_rfl)) (by unfold Func.isWrapper; rw [if_neg (of_decide_eq_false (by kernel_rfl))]; exact ⟨rfl, rfl⟩)
    (fun os started H enc _ => lifted_kunique K KN RG os started H enc)

theorem noStandMv : Tryz.prog.wantsStandIn 49 = false := by kernel_rfl

theorem unique_card_of {R : (Nat → Prop) → World → Nat → Tm.H → Prop} (K : ∀ N A, ProgOK R N A) (KN : ∀ N A, NewOK R N A) (RG : ∀ S w p h, R S w p h → Tm.Good h) : Rows.UniqueCardSaid :=
  Claim7.holds_tied_plain_at .later [] [.handle, .sentinel, .sentinel, .sentinel, .sentinel, .sentinel, .sentinel, .sentinel, .sentinel, .sentinel, .sentinel] true Rows.uniqueCard.stood.harness true
    (kunique_holds K KN RG) (fun _ h => by cases h) (by kernel_rfl) (fun _ h => by cases h) unique_row_tie rfl ⟨rfl, rfl⟩ (by kernel_rfl) rfl
    (fun f fn hf hfn => by
      obtain rfl : f = 6 := Option.some.inj ((show Tryz.prog.funcNamed Rows.uniqueRow.func = some 6 by kernel_rfl).symm.trans hf) |>.symm
      obtain rfl : fn = Tryz.f6 := (Option.some.inj (Tryz.func6.symm.trans hfn)).symm
      exact ⟨by kernel_rfl, fun j t ht => by
        rw [Tryz.params6] at ht
        match j, ht with
        | 0, ht =>
          obtain rfl : 49 = t := by simpa using ht
          exact noStandMv
        | j + 1, ht => simp at ht⟩)
    (by kernel_rfl)
end Go.Proofs.YtcnmfljpmpgnjaaGreatDoor

namespace Go.Proofs.YtcnmfljpmpgnjaaGreatDoor
theorem unique_card : Rows.UniqueCardSaid := unique_card_of prog_ok new_ok (fun _ _ _ _ ⟨_, _, r⟩ => r.good)
end Go.Proofs.YtcnmfljpmpgnjaaGreatDoor
