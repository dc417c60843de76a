import Derived.Test.YtcnmfljpmpgnjaaGreatDoorFFraC
import Derived.Test.YtcnmfljpmpgnjaaGreatDoorFFraD
import Derived.Test.YtcnmfljpmpgnjaaGreatDoorJ37
namespace Go.Proofs.YtcnmfljpmpgnjaaGreatDoor
open Go.RowKit
open Tm (H Ob Sl Why GD Gh LayD)

theorem info4k : (Tryz.prog.info? 4).map (fun i => (i.zero, i.size, i.bytes)) = some (some (.bool false), 1, 1) := by kernel_rfl
theorem make_boolsK (w : World) (n : Nat) (hn : n ≤ 100) :
    (Instr.makeSlice 40 (.int .i64 (n : Int)) (.int .i64 (n : Int))).run Tryz.prog w = .ok (.slice (some ⟨w.heap.size, 0, none⟩) n n) (w.alloc (.cells (madeCells #[.bool false] n) 4)) := by
  obtain ⟨i4, hi4, hz0, hz1, hz2⟩ := info_parts info4k
  have := run_make (P := Tryz.prog) w 40 4 i4 _ Tryz.underlying40 hi4 hz0 .i64 .i64 (n : Int) (n : Int) (by omega) (by omega) (by rw [hz2]; omega) (by omega)
  rw [hz1, Nat.mul_one, Int.toNat_natCast] at this
  exact this
theorem made_bools (w : World) (n : Nat) : (∀ i, i < n → (w.alloc (.cells (madeCells #[.bool false] n) 4)).cell? ⟨w.heap.size, i, none⟩ = some (.bool ((List.replicate n false).getD i false))) ∧ ∀ i, (w.alloc (.cells (madeCells #[.bool false] n) 4)).frozen? ⟨w.heap.size, i, none⟩ = false := by
  refine ⟨fun i hi => ?_, fun i => World.frozen?_alloc_new w _ _ i⟩
  rw [World.cell?_alloc_new]
  simp [madeCells, hi, Nat.mod_one]
theorem rep_getD (n i : Nat) : (List.replicate n false).getD i false = false := by
  simp only [List.getD_eq_getElem?_getD, List.getElem?_replicate]; split <;> rfl

theorem GIn.below {w w' : World} {pv pr : Option Addr} {nv nr : Nat} {V : Nat → Int} {Rf : Nat → Nat → Int} (g : GIn w pv nv V pr nr Rf) (hb : Below w.heap.size w w') : GIn w' pv nv V pr nr Rf := by
  have hz := hb.size
  refine ⟨fun h0 => ?_, g.vr, fun h0 => ?_, g.rr⟩
  · obtain ⟨a, o, e, h1, h2⟩ := g.v h0
    exact ⟨a, o, e, by omega, fun i hi => by rw [hb.cell (by show a < _; exact h1)]; exact h2 i hi⟩
  · obtain ⟨a, o, e, h1, h2⟩ := g.r h0
    exact ⟨a, o, e, by omega, fun i hi k hk => by rw [hb.cell (by show a < _; exact h1)]; exact h2 i hi k hk⟩

section
variable {R : (Nat → Prop) → World → Nat → H → Prop} {N : Nat} {A : Nat → Addr}

/-- While the objects are looked at. -/
def KIn (R : (Nat → Prop) → World → Nat → H → Prop) (N : Nat) (A : Nat → Addr) (W : World) (X : Nat → Prop) (gb p : Nat) (r : Nat → RowG) (d : GD) (w7 : World) (i : Nat) (w' : World) : Prop :=
  ∃ (h' : H) (ge fr : Nat → Int), Gst R N A W X gb d.n r w' p h' ∧ Gh h' { d with ge := ge, fr := fr } ∧ (∀ s, d.lo s ≠ 0 → ge s = d.ge s) ∧ (∀ s, d.ge s ≤ ge s ∧ ge s ≤ d.ge s + 2 * (i : Int)) ∧ ∀ b, X b → w'.heap[b]? = w7.heap[b]?

set_option maxRecDepth 100000 in
set_option maxHeartbeats 8000000 in
theorem kkept_any (K : ProgOK R N A) (KN : NewOK R N A) (w : World) (hE : Errs N A w) (xn : Int) (hx1 : -9223372036854775808 ≤ xn) (hx2 : xn ≤ 9223372036854775807) (pv pr : Option Addr) (nv cv nr cr : Nat) (V : Nat → Int) (Rf : Nat → Nat → Int) (gi : GIn w pv nv V pr nr Rf) (root : Int) (hr1 : -9223372036854775808 ≤ root) (hr2 : root ≤ 9223372036854775807) (glob : Bool) :
    Calls Tryz.prog 5 #[.agg #[.int .i64 xn, .slice pv nv cv, .slice pr nr cr], .int .i64 root, .bool glob] w fun e w' => e = .returned (.bool true) ∧ Below w.heap.size w w' := by
  have HK := hide K
  have hb0 : Below w.heap.size w (w.alloc (.cells #[.int .i64 xn, .slice pv nv cv, .slice pr nr cr] 28)) := Below.alloc0 _ _
  have HLay := hide (lay_g K KN (w.alloc (.cells #[.int .i64 xn, .slice pv nv cv, .slice pr nr cr] 28)) (hE.below hb0 hE.le) xn hx1 hx2 pv pr nv cv nr cr V Rf (gi.below hb0))
  have HB0 := hide hb0
  clear K KN hE gi hb0
  go_enter Tryz.func5, Tryz.ntmps5
  go_wp2_with fail
  refine HLay.out.mono ?_
  rintro e w1 ⟨gb, p, r, h, d, W, rfl, hWb, st, g, gr, l, hn1, hdb, hdf⟩
  have hn10 := g.few
  have HBW : Hid (Below w.heap.size w W) := HB0.out.trans (hWb.mono HB0.out.size)
  have HP := hide (fun w' => kpick_is root d.n w' (by omega) (by omega) hr1 hr2)
  have hrt := pickN_lt root d.n (by omega)
  generalize pickN root d.n = rt at *
  have cN := st.gm.num
  obtain ⟨cL, hcl⟩ := st.gm.read 0 (by omega) (gr.n0 0 (by omega)) (by omega)
  have cL' : w1.cell? ⟨gb, 2, none⟩ = some (.slice (some ⟨(r 0).b, 0, none⟩) d.n (r 0).c) := cL
  have cl := hcl rt (by show rt < d.n * 1; omega)
  rw [gr.f0 rt hrt] at cl
  have HSt := hide st
  have HG := hide g
  have HGr := hide gr
  have HL := hide l
  have HDb := hide hdb
  have brt : (rt : Int) < (d.n : Int) := by omega
  have HLg : Hid (∀ i, i < d.n → Tm.hand 1 i (Tm.lg i) = Tm.hand 1 i (d.ge i) ∧ 1 ≤ d.ge i ∧ d.ge i ≤ 50 ∧ d.lo i ≠ 0) := fun i hi => by
    have q1 := l.ge1 i hi
    have q2 := l.lo1 i hi
    have q3 := Tm.lg_bd i
    rw [Nat.zero_add] at q1 q2
    rw [q1, q2]
    exact ⟨rfl, by omega, by omega, by omega⟩
  clear hWb st g gr l hdb hdf hcl cL HLay HB0 hr1 hr2
  generalize (r 0).b = lb at *
  generalize (r 0).c = lc at *
  have hobj : h.object (Tm.hand 1 rt (Tm.lg rt)) = (((d.b + rt + 1 : Nat) : Int), Tm.fine) := by
    have := HL.out.obj HG.out (by omega) rt hrt
    rw [Nat.zero_add] at this
    exact this
  have hzb : Tm.hand 1 rt (Tm.lg rt) < 9223372036854775808 := by have := Tm.lg_bd rt; unfold Tm.hand; omega
  cases glob
  · -- by its local handle
    have HHold : Hid (Tm.Hold { d with lo := fun s => if s < d.n ∧ (s : Int) ≠ (rt : Int) then 0 else d.lo s } rt (Tm.hand 1 rt (Tm.lg rt))) := HL.out.holdL hrt
    have HPn : Hid ((∀ i, i < d.n → d.pn i = 0) ∧ (∀ i, i < d.n → d.go i = false) ∧ d.nw = d.n ∧ ∀ s, s < 16 → 0 ≤ d.ge s ∧ d.ge s ≤ 2) := ⟨HL.out.pn, HL.out.go, HL.out.nw, HL.out.ges⟩
    clear hobj HL
    generalize Tm.hand 1 rt (Tm.lg rt) = z at *
    have hmk := make_boolsK w1 d.n (by omega)
    have cF := (made_bools w1 d.n).1 rt hrt
    have fF := (made_bools w1 d.n).2 rt
    go_wp2_with fail
    refine (HP.out _).mono ?_
    rintro e w9 ⟨rfl, h9⟩
    rw [h9]
    clear h9
    obtain ⟨cb, ecb⟩ : ∃ cb, (madeCells #[.bool false] d.n).setIfInBounds rt (.bool true) = cb := ⟨_, rfl⟩
    have HFB : Hid (FB (w1.alloc (.cells cb 4)) (w1.alloc (.cells cb 4)) w1.heap.size ((List.replicate d.n false).set rt true)) := by
      refine ⟨Kept.refl _ _, fun i hi => ?_, fun i => World.frozen?_alloc_new w1 _ _ i⟩
      have hi' : i < d.n := by simpa using hi
      rw [World.cell?_alloc_new, ← ecb, Tm.getD_set _ _ _ _ _ (by simpa using hrt), rep_getD]
      by_cases q : i = rt
      · subst q
        rw [if_pos rfl]
        simp [madeCells, hi']
      · rw [if_neg q]
        simp [madeCells, hi', Nat.mod_one, Ne.symm q]
    have stB : Gst R N A W (fun b => b = w1.heap.size) gb d.n r (w1.alloc (.cells cb 4)) p h := HSt.out.more HK.out.ok (Below.alloc0 w1 _) (fun b => b = w1.heap.size) (fun b hb => Or.inr (by omega)) (fun b hb => by rw [hb]; simp)
    have HRe := hide (reached_g stB.gm d.rs (HGr.out.n0 3 (by omega)) HGr.out.f3 HG.out.rng (by omega) w1.heap.size d.n ((List.replicate d.n false).set rt true) (by simp) (fun i hi => HFB.out.cell i (by simpa using hi)) HFB.out.soft (stB.off _ rfl) (fun j => j = rt) (fun j hj => by rw [Tm.getD_set _ _ _ _ _ (by simpa using hrt), rep_getD]; split <;> simp_all))
    have HSB := hide stB
    clear stB HFB
    go_wp2_with fail
    refine HRe.out.mono ?_
    clear hmk cF fF
    rintro e w3 ⟨fs, hfl, rfl, hFB, hcl⟩
    have stC := HSB.out.own HK.out.ok hFB.kept
    have HFr := hide (freed_g HK.out stC HG.out HGr.out (fun i hi => (HLg.out i hi).1) (fun i hi => ⟨(HLg.out i hi).2.1, (HLg.out i hi).2.2.1⟩) (fun i hi => (HLg.out i hi).2.2.2) (rt : Int))
    have HFs : Hid (∀ i, i < d.n → w3.cell? ⟨w1.heap.size, i, none⟩ = some (.bool (fs.getD i false))) := fun i hi => hFB.cell i (by omega)
    have HCl := hide hcl
    generalize w1.heap.size = fb at *
    have HSC := hide stC
    clear stC hFB hcl HRe HSB
    go_wp2_with fail
    refine HFr.out.mono ?_
    rintro e w4 ⟨rfl, h2, stD, g2, hX4⟩
    have hFF : ∀ i, i < d.n → (Tm.ofL fs i = true ↔ Tm.Cl d.n d.rs ({ d with lo := fun s => if s < d.n ∧ (s : Int) ≠ (rt : Int) then 0 else d.lo s } : GD).F i) := fun i hi => by
      rw [show Tm.ofL fs i = fs.getD i false from rfl, HCl.out i hi]
      exact Tm.Cl.congr (fun j hj => (HHold.out.F hrt hn10 HPn.out.1 j hj).symm)
    obtain ⟨M, hM⟩ := Tm.marked_exists h2
    obtain ⟨g3, en⟩ := g2.coll1 HDb.out hM (Tm.ofL fs) hFF (fun i => !Tm.ofL fs i) (fun i hi => by show _ = (d.go i || _); rw [HPn.out.2.1 i hi]; rfl)
    have hcn := Tm.cnt_le (Tm.ofL fs) d.n
    have en2 : h2.collNum M h2.l.length = (d.n : Int) - (Tm.cnt (Tm.ofL fs) d.n : Int) := by
      rw [en]
      have e1 : Tm.cnt (fun i => !d.go i && !Tm.ofL fs i) d.n = Tm.cnt (fun i => !Tm.ofL fs i) d.n := Tm.cnt_congr (fun i hi => by rw [HPn.out.2.1 i hi]; rfl)
      have e2 := Tm.cnt_not (Tm.ofL fs) d.n
      show (Tm.cnt (fun i => !d.go i && !Tm.ofL fs i) d.n : Int) = _
      rw [e1]; omega
    have hco := stD.hp.collect HK.out stD.size hM
    rw [en2] at hco
    have HCo := hide hco
    have HSD := hide stD
    have HG3 := hide g3
    have HX4 : Hid (∀ i, i < d.n → w4.cell? ⟨fb, i, none⟩ = some (.bool (fs.getD i false))) := fun i hi => by rw [cell_of (hX4 fb rfl)]; exact HFs.out i hi
    have cH4 := stD.gm.h
    clear stD g2 hX4 hM g3 en en2 hco HFr HFs HSC hFF
    generalize h2.collTo M h2.l.length = h3 at *
    go_wp2_with fail
    refine HCo.out.mono ?_
    rintro e w5 ⟨rfl, x5, hz5, hk5⟩
    have stE := HSD.out.call x5 hz5 hk5
    have HSE := hide stE
    have HX5 : Hid (∀ i, i < d.n → w5.cell? ⟨fb, i, none⟩ = some (.bool (fs.getD i false))) := fun i hi => by rw [cell_of (hk5 fb (Or.inr rfl))]; exact HX4.out i hi
    have cH5 := stE.gm.h
    have hst := stE.hp.stats HK.out stE.size
    have hco3 := HG3.out.count HDb.out
    have ec : Tm.cnt (fun i => !(fun i => !Tm.ofL fs i) i) d.n = Tm.cnt (Tm.ofL fs) d.n := Tm.cnt_congr (fun i _ => by simp)
    have hs6 : stats6 h3 = #[.int .i64 (Tm.cnt (Tm.ofL fs) d.n : Int), .int .i64 (4 * (Tm.cnt (Tm.ofL fs) d.n : Int)), .int .i64 (Tm.takenOf (h3.t 1)), .int .i64 (Tm.takenOf (h3.t 2)), .int .i64 (Tm.takenOf (h3.t 3)), .int .i64 h3.frames] := by
      unfold stats6
      have e1 : Tm.countOf h3.l = (Tm.cnt (Tm.ofL fs) d.n : Int) := hco3.1.trans (by rw [← ec])
      have e2 : Tm.roomOf h3.l = 4 * (Tm.cnt (Tm.ofL fs) d.n : Int) := hco3.2.trans (by rw [← ec])
      rw [e1, e2]
    rw [hs6] at hst
    have HSt6 := hide hst
    clear x5 hz5 hk5 stE hst hco3 hs6 ec HCo HSD HX4 cH4
    have HCn : Hid (∀ fs' : List Bool, fs' = fs → Tm.cnt (Tm.ofL fs') d.n = Tm.cnt (Tm.ofL fs) d.n) := fun _ e => by rw [e]
    obtain ⟨cn, ecn⟩ : ∃ cn, Tm.cnt (Tm.ofL fs) d.n = cn := ⟨_, rfl⟩
    rw [ecn] at hcn HSt6
    have HEc := hide ecn
    rw [ecn]
    clear HCn ecn
    generalize Tm.takenOf (h3.t 1) = t1 at *
    generalize Tm.takenOf (h3.t 2) = t2 at *
    generalize Tm.takenOf (h3.t 3) = t3 at *
    generalize h3.frames = fr0 at *
    go_wp2_with fail
    refine HSt6.out.mono ?_
    rintro e w6 ⟨rfl, x6, hb6⟩
    have stF := HSE.out.dn HK.out.ok hb6
    have HX6 : Hid (∀ i, i < d.n → w6.cell? ⟨fb, i, none⟩ = some (.bool (fs.getD i false))) := fun i hi => by
      rw [hb6.cell (by show fb < _; exact HSE.out.hp.lt fb (Or.inr rfl))]; exact HX5.out i hi
    have HSF := hide stF
    have cN6 := stF.gm.num
    clear x6 hb6 stF HSt6 HSE HX5 cH5
    have cN7 : ∀ o, (w6.alloc o).cell? ⟨gb, 1, none⟩ = some (.int .i64 (d.n : Int)) := fun o => by rw [(Below.alloc0 w6 o).cell (by show gb < _; exact HSF.out.gm.lt)]; exact cN6
    go_wp2_with fail
    have HSG : Hid (∀ o, Gst R N A W (fun b => b = fb ∨ b = w6.heap.size) gb d.n r (w6.alloc o) p h3) := fun o => HSF.out.more HK.out.ok (Below.alloc0 w6 o) _ (fun b hb => hb.imp id (fun e => by omega)) (fun b hb => by
      rcases hb with rfl | rfl
      · have := HSF.out.hp.lt b (Or.inr rfl); simp; omega
      · simp)
    have HX7 : Hid (∀ o, ∀ i, i < d.n → (w6.alloc o).cell? ⟨fb, i, none⟩ = some (.bool (fs.getD i false))) := fun o i hi => by
      rw [(Below.alloc0 w6 o).cell (by show fb < _; exact HSF.out.hp.lt fb (Or.inr rfl))]; exact HX6.out i hi
    have HB7 : Hid (∀ c t, (w6.alloc (.cells c t)).heap[w6.heap.size]? = some (.cells c t (0, 0))) := fun c t => by simpa using heap_alloc_new w6 (.cells c t)
    have hsb : w6.heap.size ≠ fb := fun e => by have := HSF.out.hp.lt fb (Or.inr rfl); omega
    generalize w6.heap.size = sb at *
    obtain ⟨d3, ed3⟩ : ∃ d3 : GD, ({ d with lo := fun s => if s < d.n ∧ (s : Int) ≠ (rt : Int) then 0 else d.lo s, go := fun i => !Tm.ofL fs i } : GD) = d3 := ⟨_, rfl⟩
    have q1 : d3.n = d.n := by rw [← ed3]
    have q2 : d3.rs = d.rs := by rw [← ed3]
    have q3 : d3.vs = d.vs := by rw [← ed3]
    have q4 : d3.b = 1 := by rw [← ed3]; exact HDb.out
    have q5 : d3.nw = d3.n := by rw [← ed3]; exact HPn.out.2.2.1
    have q6 : ∀ i, d3.go i = !Tm.ofL fs i := fun i => by rw [← ed3]
    have q7 : ∀ s, s < 16 → 0 ≤ d3.ge s ∧ d3.ge s ≤ 2 := by rw [← ed3]; exact HPn.out.2.2.2
    have q8 : Tm.Hold d3 rt z := by rw [← ed3]; exact HHold.out.turn (by omega) _ _ _ (fun _ _ => rfl)
    have q9 : ∀ i, i < d3.n → d3.pn i = 0 := by rw [← ed3]; exact HPn.out.1
    have q10 : Gr r d3 (fun i => Tm.hand 1 i (Tm.lg i)) := ⟨fun k hk => by rw [q1]; exact HGr.out.n0 k hk, fun i hi => HGr.out.f0 i (by omega), fun i hi => HGr.out.f1 i (by omega), fun i hi => by rw [q3]; exact HGr.out.f2 i (by omega), fun i k hi hk => by rw [q2]; exact HGr.out.f3 i k (by omega) hk⟩
    have q11 : Gh h3 d3 := by rw [← ed3]; exact HG3.out
    have hcl2 : ∀ i, i < d3.n → (Tm.ofL fs i = true ↔ Tm.Cl d3.n d3.rs (fun j => j = rt) i) := fun i hi => by rw [q1, q2]; exact HCl.out i (by omega)
    have hrt3 : rt < d3.n := by omega
    have hn3 : d3.n ≤ 10 := by omega
    rw [← q1] at HSG HEc hfl hcn ⊢
    have HX7 : Hid (∀ o, ∀ i, i < d3.n → (w6.alloc o).cell? ⟨fb, i, none⟩ = some (.bool (fs.getD i false))) := fun o i hi => HX7.out o i (by omega)
    have HD3 : Hid (d3.b = 1 ∧ d3.nw = d3.n ∧ (∀ i, d3.go i = !Tm.ofL fs i) ∧ (∀ s, s < 16 → 0 ≤ d3.ge s ∧ d3.ge s ≤ 2) ∧ ∀ i, i < d3.n → d3.pn i = 0) := ⟨q4, q5, q6, q7, q9⟩
    have HHold3 := hide q8
    have HGr3 := hide q10
    have HG33 := hide q11
    have HCl3 := hide hcl2
    clear q2 q3 q4 q5 q6 q7 q8 q9 q10 q11 hcl2 ed3 HHold HPn HGr HG3 HCl HX6 HSF cN6 cN7 cN cL' cl brt hrt hn10 HLg HG HSt HDb hn1
    clear q1
    have hG7 := HSG.out (.cells #[.int .i64 (cn : Int), .int .i64 (4 * (cn : Int)), .int .i64 t1, .int .i64 t2, .int .i64 t3, .int .i64 fr0] 44)
    have hX7 := HX7.out (.cells #[.int .i64 (cn : Int), .int .i64 (4 * (cn : Int)), .int .i64 t1, .int .i64 t2, .int .i64 t3, .int .i64 fr0] 44)
    have hB7 := HB7.out #[.int .i64 (cn : Int), .int .i64 (4 * (cn : Int)), .int .i64 t1, .int .i64 t2, .int .i64 t3, .int .i64 fr0] 44
    clear HSG HX7 HB7
    generalize w6.alloc (.cells #[.int .i64 (cn : Int), .int .i64 (4 * (cn : Int)), .int .i64 t1, .int .i64 t2, .int .i64 t3, .int .i64 fr0] 44) = w7 at *
    have HX7 := hide hX7
    have HB7 := hide hB7
    have HK0 : Hid (KIn R N A W (fun b => b = fb ∨ b = sb) gb p r d3 w7 0 w7) := ⟨h3, d3.ge, d3.fr, hG7, HG33.out, fun _ _ => rfl, fun s => ⟨Int.le_refl _, by omega⟩, fun _ _ => rfl⟩
    clear hG7 hX7 hB7 HG33
    go_loopw [8, 17] (fun _ iv w' => ∃ i : Nat, i ≤ d3.n ∧ iv = .int .i64 i ∧ KIn R N A W (fun b => b = fb ∨ b = sb) gb p r d3 w7 i w') (fun _ iv _ => d3.n - (intOf iv).toNat)
    case atStart => exact ⟨0, by omega, rfl, HK0.out⟩
    case round =>
      clear HK0
      obtain ⟨i, hi, rfl, h4, ge, fr, st, g, he1, he2, hX⟩ := hrel
      have cN := st.gm.num
      have HSt := hide st
      have HG := hide g
      have HE1 := hide he1
      have HE2 := hide he2
      have HKx := hide hX
      by_cases hlt : i < d3.n
      · have bi : (i : Int) < (d3.n : Int) := by omega
        have cf : wr.cell? ⟨fb, i, none⟩ = some (.bool (fs.getD i false)) := by rw [cell_of (hX fb (Or.inl rfl))]; exact HX7.out i hlt
        have gr4 : Gr r ({ d3 with ge := ge, fr := fr } : GD) (fun i => Tm.hand 1 i (Tm.lg i)) := ⟨HGr3.out.n0, HGr3.out.f0, HGr3.out.f1, HGr3.out.f2, HGr3.out.f3⟩
        have HNx : Hid (∀ w5, StOut R N A W (fun b => b = fb ∨ b = sb) gb p r ({ d3 with ge := ge, fr := fr } : GD) wr 2 w5 → KIn R N A W (fun b => b = fb ∨ b = sb) gb p r d3 w7 (i + 1) w5) := fun w5 ⟨h5, ge5, fr5, s5, g5, a1, a2, a3⟩ => by
          refine ⟨h5, ge5, fr5, s5, g5, fun s hs => (a1 s hs).trans (HE1.out s hs), fun s => ?_, fun b hb => (a3 b hb).trans (HKx.out b hb)⟩
          have b1 := a2 s
          have b2 := HE2.out s
          simp only at b1
          push_cast at b1 ⊢
          omega
        cases hfi : fs.getD i false
        · rw [hfi] at cf
          have HSd := hide (stands_gone (d := { d3 with ge := ge, fr := fr }) HK.out st g gr4 HD3.out.2.1 i hlt (by show d3.go i = true; rw [HD3.out.2.2.1 i]; show (!fs.getD i false) = true; rw [hfi]; rfl))
          clear st g he1 he2 hX gr4
          go_wp2_with fail
          refine HSd.out.mono ?_
          rintro e w5 ⟨rfl, so⟩
          have HK5 := hide (HNx.out w5 so)
          clear so HSd
          go_wp2_with fail
          go_roundw
          case rel => exact ⟨i + 1, by omega, by go_num, HK5.out⟩
          case measure => simp [intOf]; omega
        · rw [hfi] at cf
          have HSd := hide (stands_there (d := { d3 with ge := ge, fr := fr }) HK.out st g gr4 HD3.out.2.1 i hlt (by show d3.go i = false; rw [HD3.out.2.2.1 i]; show (!fs.getD i false) = false; rw [hfi]; rfl) (fun k hk hr => by
            show d3.go (d3.rs i k).toNat = false
            have hr' : 0 ≤ d3.rs i k := hr
            have hrn := g.rng i k hlt hk
            simp only at hrn
            have c1 := (HCl3.out i hlt).1 hfi
            have c2 := (HCl3.out (d3.rs i k).toNat (by omega)).2 (c1.step hlt hk hr')
            rw [HD3.out.2.2.1]
            rw [c2]; rfl) (fun s hs => by
              have b1 := HE2.out s
              have b2 := HD3.out.2.2.2.1 s hs
              show 0 ≤ ge s ∧ ge s ≤ 46
              omega) (HHold3.out.gap (by omega)))
          clear st g he1 he2 hX gr4
          go_wp2_with fail
          refine HSd.out.mono ?_
          rintro e w5 ⟨rfl, so⟩
          have HK5 := hide (HNx.out w5 so)
          clear so HSd
          go_wp2_with fail
          go_roundw
          case rel => exact ⟨i + 1, by omega, by go_num, HK5.out⟩
          case measure => simp [intOf]; omega
      · have bi : ¬ (i : Int) < (d3.n : Int) := by omega
        have cH := st.gm.h
        obtain ⟨M4, hM4⟩ := Tm.marked_exists h4
        have hold4 : Tm.Hold ({ d3 with ge := ge, fr := fr } : GD) rt z := HHold3.out.turn (by omega) ge fr d3.go he1
        have hF4 : ∀ i, i < d3.n → (Tm.ofL fs i = true ↔ Tm.Cl d3.n d3.rs ({ d3 with ge := ge, fr := fr } : GD).F i) := fun i hi => by
          rw [HCl3.out i hi]
          exact Tm.Cl.congr (fun j hj => (hold4.F hrt3 hn3 HD3.out.2.2.2.2 j hj).symm)
        obtain ⟨g5, en5⟩ := g.coll1 HD3.out.1 hM4 (Tm.ofL fs) hF4 d3.go (fun i hi => by show d3.go i = (d3.go i || _); rw [HD3.out.2.2.1]; simp)
        have en5' : h4.collNum M4 h4.l.length = 0 := by
          rw [en5, Tm.cnt_none (fun i hi => ?_)]
          · rfl
          · show (!d3.go i && !Tm.ofL fs i) = false
            rw [HD3.out.2.2.1]; cases Tm.ofL fs i <;> rfl
        have hco := st.hp.collect HK.out st.size hM4
        rw [en5'] at hco
        have HCo := hide hco
        have hzs := hold4.small (by omega)
        obtain ⟨h6, lo6, gl6, ef, g6, hl6, hgl6⟩ := hold4.free g5 (by omega)
        have HEf := hide ef
        clear st g he1 he2 hX hM4 hF4 en5 en5' hco g5 ef
        generalize h4.collTo M4 h4.l.length = h5 at *
        obtain ⟨M6, hM6⟩ := Tm.marked_exists h6
        have hno : ∀ j, j < d3.n → ¬ ({ d3 with ge := ge, fr := fr, lo := lo6, gl := gl6 } : GD).F j := fun j hj hF => by
          rcases hF with ⟨s, hs, e⟩ | ⟨s, hs, e⟩ | ⟨e, _⟩
          · have e' : lo6 s = _ := e
            rw [hl6 s hs] at e'; omega
          · have e' : gl6 s = _ := e
            rw [hgl6 s] at e'; omega
          · have e' : 0 < d3.pn j := e
            rw [HD3.out.2.2.2.2 j hj] at e'; omega
        obtain ⟨g7, en7⟩ := g6.coll1 HD3.out.1 hM6 (fun _ => false) (fun i hi => ⟨(fun q => by cases q), fun q => absurd q (Tm.Cl.none hno i)⟩) (fun _ => true) (fun i hi => by simp)
        have en7' : h6.collNum M6 h6.l.length = (cn : Int) := by
          rw [en7, ← HEc.out]
          have e : Tm.cnt (fun i => !d3.go i && !false) d3.n = Tm.cnt (Tm.ofL fs) d3.n := Tm.cnt_congr (fun i hi => by rw [HD3.out.2.2.1]; simp)
          show (Tm.cnt (fun i => !d3.go i && !false) d3.n : Int) = _
          rw [e]
        have hc7 := g7.count HD3.out.1
        have ht7 := g7.taken hl6 (fun s hs => hgl6 s)
        have hs7 : stats6 (h6.collTo M6 h6.l.length) = #[.int .i64 0, .int .i64 0, .int .i64 0, .int .i64 0, .int .i64 (Tm.takenOf ((h6.collTo M6 h6.l.length).t 3)), .int .i64 (h6.collTo M6 h6.l.length).frames] := by
          unfold stats6
          have e0 : Tm.cnt (fun i => !(fun _ => true) i) d3.n = 0 := Tm.cnt_none (fun i hi => rfl)
          have e1 : Tm.countOf (h6.collTo M6 h6.l.length).l = 0 := hc7.1.trans (by show ((Tm.cnt (fun i => !(fun _ => true) i) d3.n : Nat) : Int) = 0; rw [e0]; rfl)
          have e2 : Tm.roomOf (h6.collTo M6 h6.l.length).l = 0 := hc7.2.trans (by show 4 * ((Tm.cnt (fun i => !(fun _ => true) i) d3.n : Nat) : Int) = 0; rw [e0]; rfl)
          rw [e1, e2, ht7.1, ht7.2]
        have HS7 := hide hs7
        have HM6 := hide hM6
        have HN7 := hide en7'
        clear g6 hl6 hgl6 hM6 hno g7 en7 en7' hc7 ht7 hs7 hold4 HG
        go_wp2_with fail
        refine HCo.out.mono ?_
        rintro e w8 ⟨rfl, x8, hz8, hk8⟩
        have st8 := HSt.out.call x8 hz8 hk8
        have HSt8 := hide st8
        have cH8 := st8.gm.h
        have hfr := st8.hp.free HK.out st8.size z hzs
        rw [HEf.out] at hfr
        have HFr := hide hfr
        have HX8 : Hid (w8.heap[sb]? = w7.heap[sb]?) := (hk8 sb (Or.inr (Or.inr rfl))).trans (HKx.out sb (Or.inr rfl))
        clear x8 hz8 hk8 st8 hfr HCo cH
        go_wp2_with fail
        refine HFr.out.mono ?_
        rintro e w9 ⟨ev, rfl, he, x9, hz9, hk9⟩
        obtain rfl := he.nil rfl
        have st9 := HSt8.out.call x9 hz9 hk9
        have HSt9 := hide st9
        have cH9 := st9.gm.h
        have hco := st9.hp.collect HK.out st9.size HM6.out
        rw [HN7.out] at hco
        have HCo := hide hco
        have HX9 : Hid (w9.heap[sb]? = w7.heap[sb]?) := (hk9 sb (Or.inr (Or.inr rfl))).trans HX8.out
        clear he x9 hz9 hk9 st9 hco HFr cH8 HX8
        generalize h6.collTo M6 h6.l.length = h7 at *
        go_wp2_with fail
        refine HCo.out.mono ?_
        rintro e w10 ⟨rfl, x10, hz10, hk10⟩
        have st10 := HSt9.out.call x10 hz10 hk10
        have HSt10 := hide st10
        have cH10 := st10.gm.h
        have hst := st10.hp.stats HK.out st10.size
        rw [HS7.out] at hst
        have HSs := hide hst
        have HX10 : Hid (w10.heap[sb]? = w7.heap[sb]?) := (hk10 sb (Or.inr (Or.inr rfl))).trans HX9.out
        clear x10 hz10 hk10 st10 hst HCo cH9 HX9
        generalize Tm.takenOf (h7.t 3) = t13 at *
        generalize h7.frames = f13 at *
        go_wp2_with fail
        refine HSs.out.mono ?_
        rintro e w11 ⟨rfl, x11, hb11⟩
        have HB11 : Hid (Below w.heap.size w w11) := HBW.out.trans (x11.below.mono HBW.out.size)
        have hsl : sb < w10.heap.size := HSt10.out.hp.lt sb (Or.inr (Or.inr rfl))
        have hblk : w11.heap[sb]? = some (.cells #[.int .i64 (cn : Int), .int .i64 (4 * (cn : Int)), .int .i64 t1, .int .i64 t2, .int .i64 t3, .int .i64 fr0] 44 (0, 0)) := by rw [hb11.block sb hsl, HX10.out]; exact HB7.out
        have HLo : Hid (w.heap.size ≤ sb) := Nat.le_trans HBW.out.size (HSt10.out.hp.tb sb (Or.inr (Or.inr rfl)))
        have s0 : ∀ i, w11.frozen? ⟨sb, i, none⟩ = false := fun i => by unfold World.frozen?; simp only [hblk]; simp
        have s1 : w11.cell? ⟨sb, 0, none⟩ = some (.int .i64 (cn : Int)) := by simp [World.cell?, hblk]
        have s2 : w11.cell? ⟨sb, 1, none⟩ = some (.int .i64 (4 * (cn : Int))) := by simp [World.cell?, hblk]
        have s3 : w11.cell? ⟨sb, 2, none⟩ = some (.int .i64 t1) := by simp [World.cell?, hblk]
        have s4 : w11.cell? ⟨sb, 3, none⟩ = some (.int .i64 t2) := by simp [World.cell?, hblk]
        have s5 : w11.cell? ⟨sb, 4, none⟩ = some (.int .i64 t3) := by simp [World.cell?, hblk]
        have s6 : w11.cell? ⟨sb, 5, none⟩ = some (.int .i64 fr0) := by simp [World.cell?, hblk]
        clear x11 hb11 HSs hblk HX10 HB7
        go_wp2_with fail
        go_ret
        exact ⟨rfl, ((((((HB11.out.setCell HLo.out _).setCell HLo.out _).setCell HLo.out _).setCell HLo.out _).setCell HLo.out _).setCell HLo.out _)⟩
  · -- by a global one
    obtain ⟨h1, e1, g1⟩ := HG.out.refG (d.b + rt + 1) hobj (HL.out.gl 0) (HL.out.gg 0)
    have hrf := HSt.out.hp.ref HK.out HSt.out.size 2 (Tm.hand 1 rt (Tm.lg rt)) hzb
    rw [e1] at hrf
    have HRf := hide hrf
    have hhold := HL.out.holdG (rt := rt)
    have cH := HSt.out.gm.h
    obtain ⟨d1, ed1⟩ : ∃ d1 : GD, ({ d with gl := Tm.up d.gl 0 ((d.b + rt + 1 : Nat) : Int), gg := Tm.up d.gg 0 1 } : GD) = d1 := ⟨_, rfl⟩
    have q1 : d1.n = d.n := by rw [← ed1]
    have HG1 : Hid (Gh h1 d1) := by rw [← ed1]; exact g1
    have HGr1 : Hid (Gr r d1 (fun i => Tm.hand 1 i (Tm.lg i))) := by rw [← ed1]; exact ⟨HGr.out.n0, HGr.out.f0, HGr.out.f1, HGr.out.f2, HGr.out.f3⟩
    have HLg1 : Hid (∀ i, i < d1.n → Tm.hand 1 i (Tm.lg i) = Tm.hand 1 i (d1.ge i) ∧ 1 ≤ d1.ge i ∧ d1.ge i ≤ 50 ∧ d1.lo i ≠ 0) := by rw [← ed1]; exact HLg.out
    have HDb1 : Hid (d1.b = 1) := by rw [← ed1]; exact HDb.out
    have HPn1 : Hid ((∀ i, i < d1.n → d1.pn i = 0) ∧ (∀ i, i < d1.n → d1.go i = false) ∧ d1.nw = d1.n ∧ ∀ s, s < 16 → 0 ≤ d1.ge s ∧ d1.ge s ≤ 2) := by rw [← ed1]; exact ⟨HL.out.pn, HL.out.go, HL.out.nw, HL.out.ges⟩
    have HHold1 : Hid (Tm.Hold { d1 with lo := fun s => if s < d1.n ∧ (s : Int) ≠ -1 then 0 else d1.lo s } rt (Tm.hand 2 0 1)) := by rw [← ed1]; exact hhold
    have hrt1 : rt < d1.n := by omega
    have hn101 : d1.n ≤ 10 := by omega
    have hn11 : 1 ≤ d1.n := by omega
    rw [← q1] at HP cN cL' brt
    have HQ1 := hide q1
    clear g1 hhold hobj HL hrf e1 ed1 q1
    generalize Tm.hand 1 rt (Tm.lg rt) = z0 at *
    go_wp2_with fail
    refine (HP.out _).mono ?_
    rintro e w9 ⟨rfl, h9⟩
    rw [h9]
    clear h9
    go_wp2_with fail
    refine HRf.out.mono ?_
    rintro e w2 ⟨ev, rfl, he, x2, hz2, hk2⟩
    obtain rfl := he.nil rfl
    have st2 := HSt.out.call x2 hz2 hk2
    rw [← HQ1.out] at st2
    have HSt2 := hide st2
    have cN2 := st2.gm.num
    clear he x2 hz2 hk2 st2 HRf cH cN cL' cl HSt HG HGr HLg HDb hrt hn10 hn1 brt hzb
    generalize Tm.hand 2 0 1 = z at *
    have hmk := make_boolsK w2 d1.n (by omega)
    have cF := (made_bools w2 d1.n).1 rt hrt1
    have fF := (made_bools w2 d1.n).2 rt
    obtain ⟨cb, ecb⟩ : ∃ cb, (madeCells #[.bool false] d1.n).setIfInBounds rt (.bool true) = cb := ⟨_, rfl⟩
    have HFB : Hid (FB (w2.alloc (.cells cb 4)) (w2.alloc (.cells cb 4)) w2.heap.size ((List.replicate d1.n false).set rt true)) := by
      refine ⟨Kept.refl _ _, fun i hi => ?_, fun i => World.frozen?_alloc_new w2 _ _ i⟩
      have hi' : i < d1.n := by simpa using hi
      rw [World.cell?_alloc_new, ← ecb, Tm.getD_set _ _ _ _ _ (by simpa using hrt1), rep_getD]
      by_cases q : i = rt
      · subst q
        rw [if_pos rfl]
        simp [madeCells, hi']
      · rw [if_neg q]
        simp [madeCells, hi', Nat.mod_one, Ne.symm q]
    have stB : Gst R N A W (fun b => b = w2.heap.size) gb d1.n r (w2.alloc (.cells cb 4)) p h1 := HSt2.out.more HK.out.ok (Below.alloc0 w2 _) (fun b => b = w2.heap.size) (fun b hb => Or.inr (by omega)) (fun b hb => by rw [hb]; simp)
    have HRe := hide (reached_g stB.gm d1.rs (HGr1.out.n0 3 (by omega)) HGr1.out.f3 HG1.out.rng (by omega) w2.heap.size d1.n ((List.replicate d1.n false).set rt true) (by simp) (fun i hi => HFB.out.cell i (by simpa using hi)) HFB.out.soft (stB.off _ rfl) (fun j => j = rt) (fun j hj => by rw [Tm.getD_set _ _ _ _ _ (by simpa using hrt1), rep_getD]; split <;> simp_all))
    have HSB := hide stB
    clear stB HFB
    go_wp2_with fail
    refine HRe.out.mono ?_
    clear hmk cF fF
    rintro e w3 ⟨fs, hfl, rfl, hFB, hcl⟩
    have stC := HSB.out.own HK.out.ok hFB.kept
    have HFr := hide (freed_g HK.out stC HG1.out HGr1.out (fun i hi => (HLg1.out i hi).1) (fun i hi => ⟨(HLg1.out i hi).2.1, (HLg1.out i hi).2.2.1⟩) (fun i hi => (HLg1.out i hi).2.2.2) (-1))
    have HFs : Hid (∀ i, i < d1.n → w3.cell? ⟨w2.heap.size, i, none⟩ = some (.bool (fs.getD i false))) := fun i hi => hFB.cell i (by omega)
    have HCl := hide hcl
    generalize w2.heap.size = fb at *
    have HSC := hide stC
    clear stC hFB hcl HRe HSB
    go_wp2_with fail
    refine HFr.out.mono ?_
    rintro e w4 ⟨rfl, h2, stD, g2, hX4⟩
    have hFF : ∀ i, i < d1.n → (Tm.ofL fs i = true ↔ Tm.Cl d1.n d1.rs ({ d1 with lo := fun s => if s < d1.n ∧ (s : Int) ≠ (-1) then 0 else d1.lo s } : GD).F i) := fun i hi => by
      rw [show Tm.ofL fs i = fs.getD i false from rfl, HCl.out i hi]
      exact Tm.Cl.congr (fun j hj => (HHold1.out.F hrt1 hn101 HPn1.out.1 j hj).symm)
    obtain ⟨M, hM⟩ := Tm.marked_exists h2
    obtain ⟨g3, en⟩ := g2.coll1 HDb1.out hM (Tm.ofL fs) hFF (fun i => !Tm.ofL fs i) (fun i hi => by show _ = (d1.go i || _); rw [HPn1.out.2.1 i hi]; rfl)
    have hcn := Tm.cnt_le (Tm.ofL fs) d1.n
    have en2 : h2.collNum M h2.l.length = (d1.n : Int) - (Tm.cnt (Tm.ofL fs) d1.n : Int) := by
      rw [en]
      have e1 : Tm.cnt (fun i => !d1.go i && !Tm.ofL fs i) d1.n = Tm.cnt (fun i => !Tm.ofL fs i) d1.n := Tm.cnt_congr (fun i hi => by rw [HPn1.out.2.1 i hi]; rfl)
      have e2 := Tm.cnt_not (Tm.ofL fs) d1.n
      show (Tm.cnt (fun i => !d1.go i && !Tm.ofL fs i) d1.n : Int) = _
      rw [e1]; omega
    have hco := stD.hp.collect HK.out stD.size hM
    rw [en2] at hco
    have HCo := hide hco
    have HSD := hide stD
    have HG3 := hide g3
    have HX4 : Hid (∀ i, i < d1.n → w4.cell? ⟨fb, i, none⟩ = some (.bool (fs.getD i false))) := fun i hi => by rw [cell_of (hX4 fb rfl)]; exact HFs.out i hi
    have cH4 := stD.gm.h
    clear stD g2 hX4 hM g3 en en2 hco HFr HFs HSC hFF
    generalize h2.collTo M h2.l.length = h3 at *
    go_wp2_with fail
    refine HCo.out.mono ?_
    rintro e w5 ⟨rfl, x5, hz5, hk5⟩
    have stE := HSD.out.call x5 hz5 hk5
    have HSE := hide stE
    have HX5 : Hid (∀ i, i < d1.n → w5.cell? ⟨fb, i, none⟩ = some (.bool (fs.getD i false))) := fun i hi => by rw [cell_of (hk5 fb (Or.inr rfl))]; exact HX4.out i hi
    have cH5 := stE.gm.h
    have hst := stE.hp.stats HK.out stE.size
    have hco3 := HG3.out.count HDb1.out
    have ec : Tm.cnt (fun i => !(fun i => !Tm.ofL fs i) i) d1.n = Tm.cnt (Tm.ofL fs) d1.n := Tm.cnt_congr (fun i _ => by simp)
    have hs6 : stats6 h3 = #[.int .i64 (Tm.cnt (Tm.ofL fs) d1.n : Int), .int .i64 (4 * (Tm.cnt (Tm.ofL fs) d1.n : Int)), .int .i64 (Tm.takenOf (h3.t 1)), .int .i64 (Tm.takenOf (h3.t 2)), .int .i64 (Tm.takenOf (h3.t 3)), .int .i64 h3.frames] := by
      unfold stats6
      have e1 : Tm.countOf h3.l = (Tm.cnt (Tm.ofL fs) d1.n : Int) := hco3.1.trans (by rw [← ec])
      have e2 : Tm.roomOf h3.l = 4 * (Tm.cnt (Tm.ofL fs) d1.n : Int) := hco3.2.trans (by rw [← ec])
      rw [e1, e2]
    rw [hs6] at hst
    have HSt6 := hide hst
    clear x5 hz5 hk5 stE hst hco3 hs6 ec HCo HSD HX4 cH4
    have HCn : Hid (∀ fs' : List Bool, fs' = fs → Tm.cnt (Tm.ofL fs') d1.n = Tm.cnt (Tm.ofL fs) d1.n) := fun _ e => by rw [e]
    obtain ⟨cn, ecn⟩ : ∃ cn, Tm.cnt (Tm.ofL fs) d1.n = cn := ⟨_, rfl⟩
    rw [ecn] at hcn HSt6
    have HEc := hide ecn
    rw [ecn]
    clear HCn ecn
    generalize Tm.takenOf (h3.t 1) = t1 at *
    generalize Tm.takenOf (h3.t 2) = t2 at *
    generalize Tm.takenOf (h3.t 3) = t3 at *
    generalize h3.frames = fr0 at *
    go_wp2_with fail
    refine HSt6.out.mono ?_
    rintro e w6 ⟨rfl, x6, hb6⟩
    have stF := HSE.out.dn HK.out.ok hb6
    have HX6 : Hid (∀ i, i < d1.n → w6.cell? ⟨fb, i, none⟩ = some (.bool (fs.getD i false))) := fun i hi => by
      rw [hb6.cell (by show fb < _; exact HSE.out.hp.lt fb (Or.inr rfl))]; exact HX5.out i hi
    have HSF := hide stF
    have cN6 := stF.gm.num
    clear x6 hb6 stF HSt6 HSE HX5 cH5
    have cN7 : ∀ o, (w6.alloc o).cell? ⟨gb, 1, none⟩ = some (.int .i64 (d1.n : Int)) := fun o => by rw [(Below.alloc0 w6 o).cell (by show gb < _; exact HSF.out.gm.lt)]; exact cN6
    go_wp2_with fail
    have HSG : Hid (∀ o, Gst R N A W (fun b => b = fb ∨ b = w6.heap.size) gb d1.n r (w6.alloc o) p h3) := fun o => HSF.out.more HK.out.ok (Below.alloc0 w6 o) _ (fun b hb => hb.imp id (fun e => by omega)) (fun b hb => by
      rcases hb with rfl | rfl
      · have := HSF.out.hp.lt b (Or.inr rfl); simp; omega
      · simp)
    have HX7 : Hid (∀ o, ∀ i, i < d1.n → (w6.alloc o).cell? ⟨fb, i, none⟩ = some (.bool (fs.getD i false))) := fun o i hi => by
      rw [(Below.alloc0 w6 o).cell (by show fb < _; exact HSF.out.hp.lt fb (Or.inr rfl))]; exact HX6.out i hi
    have HB7 : Hid (∀ c t, (w6.alloc (.cells c t)).heap[w6.heap.size]? = some (.cells c t (0, 0))) := fun c t => by simpa using heap_alloc_new w6 (.cells c t)
    have hsb : w6.heap.size ≠ fb := fun e => by have := HSF.out.hp.lt fb (Or.inr rfl); omega
    generalize w6.heap.size = sb at *
    obtain ⟨d3, ed3⟩ : ∃ d3 : GD, ({ d1 with lo := fun s => if s < d1.n ∧ (s : Int) ≠ (-1) then 0 else d1.lo s, go := fun i => !Tm.ofL fs i } : GD) = d3 := ⟨_, rfl⟩
    have q1 : d3.n = d1.n := by rw [← ed3]
    have q2 : d3.rs = d1.rs := by rw [← ed3]
    have q3 : d3.vs = d1.vs := by rw [← ed3]
    have q4 : d3.b = 1 := by rw [← ed3]; exact HDb1.out
    have q5 : d3.nw = d3.n := by rw [← ed3]; exact HPn1.out.2.2.1
    have q6 : ∀ i, d3.go i = !Tm.ofL fs i := fun i => by rw [← ed3]
    have q7 : ∀ s, s < 16 → 0 ≤ d3.ge s ∧ d3.ge s ≤ 2 := by rw [← ed3]; exact HPn1.out.2.2.2
    have q8 : Tm.Hold d3 rt z := by rw [← ed3]; exact HHold1.out.turn (by omega) _ _ _ (fun _ _ => rfl)
    have q9 : ∀ i, i < d3.n → d3.pn i = 0 := by rw [← ed3]; exact HPn1.out.1
    have q10 : Gr r d3 (fun i => Tm.hand 1 i (Tm.lg i)) := ⟨fun k hk => by rw [q1]; exact HGr1.out.n0 k hk, fun i hi => HGr1.out.f0 i (by omega), fun i hi => HGr1.out.f1 i (by omega), fun i hi => by rw [q3]; exact HGr1.out.f2 i (by omega), fun i k hi hk => by rw [q2]; exact HGr1.out.f3 i k (by omega) hk⟩
    have q11 : Gh h3 d3 := by rw [← ed3]; exact HG3.out
    have hcl2 : ∀ i, i < d3.n → (Tm.ofL fs i = true ↔ Tm.Cl d3.n d3.rs (fun j => j = rt) i) := fun i hi => by rw [q1, q2]; exact HCl.out i (by omega)
    have hrt3 : rt < d3.n := by omega
    have hn3 : d3.n ≤ 10 := by omega
    rw [← q1] at HSG HEc hfl hcn ⊢
    have HX7 : Hid (∀ o, ∀ i, i < d3.n → (w6.alloc o).cell? ⟨fb, i, none⟩ = some (.bool (fs.getD i false))) := fun o i hi => HX7.out o i (by omega)
    have HD3 : Hid (d3.b = 1 ∧ d3.nw = d3.n ∧ (∀ i, d3.go i = !Tm.ofL fs i) ∧ (∀ s, s < 16 → 0 ≤ d3.ge s ∧ d3.ge s ≤ 2) ∧ ∀ i, i < d3.n → d3.pn i = 0) := ⟨q4, q5, q6, q7, q9⟩
    have HHold3 := hide q8
    have HGr3 := hide q10
    have HG33 := hide q11
    have HCl3 := hide hcl2
    clear q2 q3 q4 q5 q6 q7 q8 q9 q10 q11 hcl2 ed3 HHold1 HPn1 HGr1 HG3 HCl HX6 HSF cN6 cN7 cN2 hrt1 hn101 HLg1 HG1 HSt2 HDb1 hn11
    clear q1
    have hG7 := HSG.out (.cells #[.int .i64 (cn : Int), .int .i64 (4 * (cn : Int)), .int .i64 t1, .int .i64 t2, .int .i64 t3, .int .i64 fr0] 44)
    have hX7 := HX7.out (.cells #[.int .i64 (cn : Int), .int .i64 (4 * (cn : Int)), .int .i64 t1, .int .i64 t2, .int .i64 t3, .int .i64 fr0] 44)
    have hB7 := HB7.out #[.int .i64 (cn : Int), .int .i64 (4 * (cn : Int)), .int .i64 t1, .int .i64 t2, .int .i64 t3, .int .i64 fr0] 44
    clear HSG HX7 HB7
    generalize w6.alloc (.cells #[.int .i64 (cn : Int), .int .i64 (4 * (cn : Int)), .int .i64 t1, .int .i64 t2, .int .i64 t3, .int .i64 fr0] 44) = w7 at *
    have HX7 := hide hX7
    have HB7 := hide hB7
    have HK0 : Hid (KIn R N A W (fun b => b = fb ∨ b = sb) gb p r d3 w7 0 w7) := ⟨h3, d3.ge, d3.fr, hG7, HG33.out, fun _ _ => rfl, fun s => ⟨Int.le_refl _, by omega⟩, fun _ _ => rfl⟩
    clear hG7 hX7 hB7 HG33
    go_loopw [8, 17] (fun _ iv w' => ∃ i : Nat, i ≤ d3.n ∧ iv = .int .i64 i ∧ KIn R N A W (fun b => b = fb ∨ b = sb) gb p r d3 w7 i w') (fun _ iv _ => d3.n - (intOf iv).toNat)
    case atStart => exact ⟨0, by omega, rfl, HK0.out⟩
    case round =>
      clear HK0
      obtain ⟨i, hi, rfl, h4, ge, fr, st, g, he1, he2, hX⟩ := hrel
      have cN2 := st.gm.num
      have HSt2 := hide st
      have HG1 := hide g
      have HE1 := hide he1
      have HE2 := hide he2
      have HKx := hide hX
      by_cases hlt : i < d3.n
      · have bi : (i : Int) < (d3.n : Int) := by omega
        have cf : wr.cell? ⟨fb, i, none⟩ = some (.bool (fs.getD i false)) := by rw [cell_of (hX fb (Or.inl rfl))]; exact HX7.out i hlt
        have gr4 : Gr r ({ d3 with ge := ge, fr := fr } : GD) (fun i => Tm.hand 1 i (Tm.lg i)) := ⟨HGr3.out.n0, HGr3.out.f0, HGr3.out.f1, HGr3.out.f2, HGr3.out.f3⟩
        have HNx : Hid (∀ w5, StOut R N A W (fun b => b = fb ∨ b = sb) gb p r ({ d3 with ge := ge, fr := fr } : GD) wr 2 w5 → KIn R N A W (fun b => b = fb ∨ b = sb) gb p r d3 w7 (i + 1) w5) := fun w5 ⟨h5, ge5, fr5, s5, g5, a1, a2, a3⟩ => by
          refine ⟨h5, ge5, fr5, s5, g5, fun s hs => (a1 s hs).trans (HE1.out s hs), fun s => ?_, fun b hb => (a3 b hb).trans (HKx.out b hb)⟩
          have b1 := a2 s
          have b2 := HE2.out s
          simp only at b1
          push_cast at b1 ⊢
          omega
        cases hfi : fs.getD i false
        · rw [hfi] at cf
          have HSd := hide (stands_gone (d := { d3 with ge := ge, fr := fr }) HK.out st g gr4 HD3.out.2.1 i hlt (by show d3.go i = true; rw [HD3.out.2.2.1 i]; show (!fs.getD i false) = true; rw [hfi]; rfl))
          clear st g he1 he2 hX gr4
          go_wp2_with fail
          refine HSd.out.mono ?_
          rintro e w5 ⟨rfl, so⟩
          have HK5 := hide (HNx.out w5 so)
          clear so HSd
          go_wp2_with fail
          go_roundw
          case rel => exact ⟨i + 1, by omega, by go_num, HK5.out⟩
          case measure => simp [intOf]; omega
        · rw [hfi] at cf
          have HSd := hide (stands_there (d := { d3 with ge := ge, fr := fr }) HK.out st g gr4 HD3.out.2.1 i hlt (by show d3.go i = false; rw [HD3.out.2.2.1 i]; show (!fs.getD i false) = false; rw [hfi]; rfl) (fun k hk hr => by
            show d3.go (d3.rs i k).toNat = false
            have hr' : 0 ≤ d3.rs i k := hr
            have hrn := g.rng i k hlt hk
            simp only at hrn
            have c1 := (HCl3.out i hlt).1 hfi
            have c2 := (HCl3.out (d3.rs i k).toNat (by omega)).2 (c1.step hlt hk hr')
            rw [HD3.out.2.2.1]
            rw [c2]; rfl) (fun s hs => by
              have b1 := HE2.out s
              have b2 := HD3.out.2.2.2.1 s hs
              show 0 ≤ ge s ∧ ge s ≤ 46
              omega) (HHold3.out.gap (by omega)))
          clear st g he1 he2 hX gr4
          go_wp2_with fail
          refine HSd.out.mono ?_
          rintro e w5 ⟨rfl, so⟩
          have HK5 := hide (HNx.out w5 so)
          clear so HSd
          go_wp2_with fail
          go_roundw
          case rel => exact ⟨i + 1, by omega, by go_num, HK5.out⟩
          case measure => simp [intOf]; omega
      · have bi : ¬ (i : Int) < (d3.n : Int) := by omega
        have cH := st.gm.h
        obtain ⟨M4, hM4⟩ := Tm.marked_exists h4
        have hold4 : Tm.Hold ({ d3 with ge := ge, fr := fr } : GD) rt z := HHold3.out.turn (by omega) ge fr d3.go he1
        have hF4 : ∀ i, i < d3.n → (Tm.ofL fs i = true ↔ Tm.Cl d3.n d3.rs ({ d3 with ge := ge, fr := fr } : GD).F i) := fun i hi => by
          rw [HCl3.out i hi]
          exact Tm.Cl.congr (fun j hj => (hold4.F hrt3 hn3 HD3.out.2.2.2.2 j hj).symm)
        obtain ⟨g5, en5⟩ := g.coll1 HD3.out.1 hM4 (Tm.ofL fs) hF4 d3.go (fun i hi => by show d3.go i = (d3.go i || _); rw [HD3.out.2.2.1]; simp)
        have en5' : h4.collNum M4 h4.l.length = 0 := by
          rw [en5, Tm.cnt_none (fun i hi => ?_)]
          · rfl
          · show (!d3.go i && !Tm.ofL fs i) = false
            rw [HD3.out.2.2.1]; cases Tm.ofL fs i <;> rfl
        have hco := st.hp.collect HK.out st.size hM4
        rw [en5'] at hco
        have HCo := hide hco
        have hzs := hold4.small (by omega)
        obtain ⟨h6, lo6, gl6, ef, g6, hl6, hgl6⟩ := hold4.free g5 (by omega)
        have HEf := hide ef
        clear st g he1 he2 hX hM4 hF4 en5 en5' hco g5 ef
        generalize h4.collTo M4 h4.l.length = h5 at *
        obtain ⟨M6, hM6⟩ := Tm.marked_exists h6
        have hno : ∀ j, j < d3.n → ¬ ({ d3 with ge := ge, fr := fr, lo := lo6, gl := gl6 } : GD).F j := fun j hj hF => by
          rcases hF with ⟨s, hs, e⟩ | ⟨s, hs, e⟩ | ⟨e, _⟩
          · have e' : lo6 s = _ := e
            rw [hl6 s hs] at e'; omega
          · have e' : gl6 s = _ := e
            rw [hgl6 s] at e'; omega
          · have e' : 0 < d3.pn j := e
            rw [HD3.out.2.2.2.2 j hj] at e'; omega
        obtain ⟨g7, en7⟩ := g6.coll1 HD3.out.1 hM6 (fun _ => false) (fun i hi => ⟨(fun q => by cases q), fun q => absurd q (Tm.Cl.none hno i)⟩) (fun _ => true) (fun i hi => by simp)
        have en7' : h6.collNum M6 h6.l.length = (cn : Int) := by
          rw [en7, ← HEc.out]
          have e : Tm.cnt (fun i => !d3.go i && !false) d3.n = Tm.cnt (Tm.ofL fs) d3.n := Tm.cnt_congr (fun i hi => by rw [HD3.out.2.2.1]; simp)
          show (Tm.cnt (fun i => !d3.go i && !false) d3.n : Int) = _
          rw [e]
        have hc7 := g7.count HD3.out.1
        have ht7 := g7.taken hl6 (fun s hs => hgl6 s)
        have hs7 : stats6 (h6.collTo M6 h6.l.length) = #[.int .i64 0, .int .i64 0, .int .i64 0, .int .i64 0, .int .i64 (Tm.takenOf ((h6.collTo M6 h6.l.length).t 3)), .int .i64 (h6.collTo M6 h6.l.length).frames] := by
          unfold stats6
          have e0 : Tm.cnt (fun i => !(fun _ => true) i) d3.n = 0 := Tm.cnt_none (fun i hi => rfl)
          have e1 : Tm.countOf (h6.collTo M6 h6.l.length).l = 0 := hc7.1.trans (by show ((Tm.cnt (fun i => !(fun _ => true) i) d3.n : Nat) : Int) = 0; rw [e0]; rfl)
          have e2 : Tm.roomOf (h6.collTo M6 h6.l.length).l = 0 := hc7.2.trans (by show 4 * ((Tm.cnt (fun i => !(fun _ => true) i) d3.n : Nat) : Int) = 0; rw [e0]; rfl)
          rw [e1, e2, ht7.1, ht7.2]
        have HS7 := hide hs7
        have HM6 := hide hM6
        have HN7 := hide en7'
        clear g6 hl6 hgl6 hM6 hno g7 en7 en7' hc7 ht7 hs7 hold4 HG1
        go_wp2_with fail
        refine HCo.out.mono ?_
        rintro e w8 ⟨rfl, x8, hz8, hk8⟩
        have st8 := HSt2.out.call x8 hz8 hk8
        have HSt8 := hide st8
        have cH8 := st8.gm.h
        have hfr := st8.hp.free HK.out st8.size z hzs
        rw [HEf.out] at hfr
        have HFr := hide hfr
        have HX8 : Hid (w8.heap[sb]? = w7.heap[sb]?) := (hk8 sb (Or.inr (Or.inr rfl))).trans (HKx.out sb (Or.inr rfl))
        clear x8 hz8 hk8 st8 hfr HCo cH
        go_wp2_with fail
        refine HFr.out.mono ?_
        rintro e w9 ⟨ev, rfl, he, x9, hz9, hk9⟩
        obtain rfl := he.nil rfl
        have st9 := HSt8.out.call x9 hz9 hk9
        have HSt9 := hide st9
        have cH9 := st9.gm.h
        have hco := st9.hp.collect HK.out st9.size HM6.out
        rw [HN7.out] at hco
        have HCo := hide hco
        have HX9 : Hid (w9.heap[sb]? = w7.heap[sb]?) := (hk9 sb (Or.inr (Or.inr rfl))).trans HX8.out
        clear he x9 hz9 hk9 st9 hco HFr cH8 HX8
        generalize h6.collTo M6 h6.l.length = h7 at *
        go_wp2_with fail
        refine HCo.out.mono ?_
        rintro e w10 ⟨rfl, x10, hz10, hk10⟩
        have st10 := HSt9.out.call x10 hz10 hk10
        have HSt10 := hide st10
        have cH10 := st10.gm.h
        have hst := st10.hp.stats HK.out st10.size
        rw [HS7.out] at hst
        have HSs := hide hst
        have HX10 : Hid (w10.heap[sb]? = w7.heap[sb]?) := (hk10 sb (Or.inr (Or.inr rfl))).trans HX9.out
        clear x10 hz10 hk10 st10 hst HCo cH9 HX9
        generalize Tm.takenOf (h7.t 3) = t13 at *
        generalize h7.frames = f13 at *
        go_wp2_with fail
        refine HSs.out.mono ?_
        rintro e w11 ⟨rfl, x11, hb11⟩
        have HB11 : Hid (Below w.heap.size w w11) := HBW.out.trans (x11.below.mono HBW.out.size)
        have hsl : sb < w10.heap.size := HSt10.out.hp.lt sb (Or.inr (Or.inr rfl))
        have hblk : w11.heap[sb]? = some (.cells #[.int .i64 (cn : Int), .int .i64 (4 * (cn : Int)), .int .i64 t1, .int .i64 t2, .int .i64 t3, .int .i64 fr0] 44 (0, 0)) := by rw [hb11.block sb hsl, HX10.out]; exact HB7.out
        have HLo : Hid (w.heap.size ≤ sb) := Nat.le_trans HBW.out.size (HSt10.out.hp.tb sb (Or.inr (Or.inr rfl)))
        have s0 : ∀ i, w11.frozen? ⟨sb, i, none⟩ = false := fun i => by unfold World.frozen?; simp only [hblk]; simp
        have s1 : w11.cell? ⟨sb, 0, none⟩ = some (.int .i64 (cn : Int)) := by simp [World.cell?, hblk]
        have s2 : w11.cell? ⟨sb, 1, none⟩ = some (.int .i64 (4 * (cn : Int))) := by simp [World.cell?, hblk]
        have s3 : w11.cell? ⟨sb, 2, none⟩ = some (.int .i64 t1) := by simp [World.cell?, hblk]
        have s4 : w11.cell? ⟨sb, 3, none⟩ = some (.int .i64 t2) := by simp [World.cell?, hblk]
        have s5 : w11.cell? ⟨sb, 4, none⟩ = some (.int .i64 t3) := by simp [World.cell?, hblk]
        have s6 : w11.cell? ⟨sb, 5, none⟩ = some (.int .i64 fr0) := by simp [World.cell?, hblk]
        clear x11 hb11 HSs hblk HX10 HB7
        go_wp2_with fail
        go_ret
        exact ⟨rfl, ((((((HB11.out.setCell HLo.out _).setCell HLo.out _).setCell HLo.out _).setCell HLo.out _).setCell HLo.out _).setCell HLo.out _)⟩
end
end Go.Proofs.YtcnmfljpmpgnjaaGreatDoor

namespace Go.Proofs.YtcnmfljpmpgnjaaGreatDoor
open Go.ChangeShapes Go.WideShapes Go.ChangeAt Go.RowKit Go.Deep Go.WideElems

theorem readGr : Tryz.prog.readableRec 28 = true := by kernel_rfl
theorem rowGr : 28 < Tryz.prog.types.size := of_decide_eq_true (by kernel_rfl)
theorem cellsGr : Tryz.prog.cellsOf 28 = 3 := by kernel_rfl
theorem cellsP2 : Tryz.prog.cellsOf 88 = 2 := by kernel_rfl
theorem cellsRs : Tryz.prog.cellsOf 26 = 1 := by kernel_rfl
theorem cellsNs : Tryz.prog.cellsOf 24 = 1 := by kernel_rfl
theorem noStandGr : Tryz.prog.wantsStandIn 28 = false := by kernel_rfl
theorem noStandBl : Tryz.prog.wantsStandIn 4 = false := by kernel_rfl
theorem lenThree {α : Type} {l : List α} (h : l.length = 3) : ∃ a0 a1 a2, l = [a0, a1, a2] := by
  match l, h with
  | [a0, a1, a2], _ => exact ⟨a0, a1, a2, rfl⟩

section
variable {H : Type} {enc : TypeId × Value → H} {W : World}

theorem trod_array2 {P : Program} {base : Nat} {spare : Nat → Bool} {held : Bool} {t e : TypeId} {fuel : Nat} {cs : List Value} {x : DataW H × List MemPlace} (ht : P.underlying t = some (.array 2 e)) (hce : P.cellsOf e = 1) (hct : P.cellsOf t = 2)
    (h : DataW.trod enc P W base spare held fuel t cs = some x) :
    ∃ c0 c1 y0 y1 n, cs = [c0, c1] ∧ DataW.trod enc P W base spare held n e [c0] = some y0 ∧ DataW.trod enc P W base spare held n e [c1] = some y1 := by
  cases fuel with
  | zero => simp [DataW.trod] at h
  | succ n =>
    unfold DataW.trod at h
    rw [ht] at h
    have r2 : List.range 2 = [0, 1] := rfl
    simp [r2, hce] at h
    obtain ⟨hl, h⟩ := h
    have hl2 : cs.length = 2 := hl.trans hct
    match cs, hl2 with
    | [c0, c1], _ =>
      simp at h
      cases h0 : DataW.trod enc P W base spare held n e [c0] with
      | none => simp [h0] at h
      | some y0 =>
        cases h1 : DataW.trod enc P W base spare held n e [c1] with
        | none => simp [h0, h1] at h
        | some y1 => exact ⟨c0, c1, y0, y1, n, rfl, h0, h1⟩

/-- The number in a cell. -/
def intIn (w : World) (a : Addr) : Int := match w.cell? a with
  | some (.int _ n) => n
  | _ => 0
theorem intIn_of {w : World} {a : Addr} {n : Int} (h : w.cell? a = some (.int .i64 n)) : intIn w a = n := by unfold intIn; rw [h]

theorem refs_arg {fuel : Nat} {cs : List Value} {x : DataW H × List MemPlace} (h : DataW.trod enc Tryz.prog W 0 (fun _ => true) true fuel 26 cs = some x) :
    ∃ q m c, ∃ f : Nat → Nat → Int, cs = [.slice q m c] ∧ (0 < m → ∃ g o, q = some ⟨g, o, none⟩ ∧ g < W.heap.size ∧ ∀ i, i < m → ∀ k, k < 2 → W.cell? ⟨g, o + i * 2 + k, none⟩ = some (.int .i64 (f i k))) ∧ ∀ i k, i < m → k < 2 → -9223372036854775808 ≤ f i k ∧ f i k ≤ 9223372036854775807 := by
  rcases open_slice Tryz.underlying26 h with ⟨rfl, rfl⟩ | ⟨a, len, cap, m, n, D, Pl, rfl, _, hlc, hcm, hm, rfl, hrow⟩
  · exact ⟨none, 0, 0, fun _ _ => 0, rfl, fun h0 => absurd h0 (Nat.not_lt_zero _), fun i k hi => absurd hi (Nat.not_lt_zero _)⟩
  simp only [if_true] at hm
  have hR : ∀ i, i < len → ∃ m0 m1, (∀ k, k < 2 → W.cell? (a.add (i * 2 + k)) = ([.int .i64 m0, .int .i64 m1] : List Value)[k]?) ∧ In64 m0 ∧ In64 m1 := fun i hi => by
    obtain ⟨cs', h1, h2⟩ := hrow i (by omega)
    obtain ⟨c0, c1, y0, y1, n', rfl, q0, q1⟩ := trod_array2 Tryz.underlying88 cellsI1 cellsP2 h2
    obtain ⟨m0, e0, _, w0⟩ := DataW.trod_int Tryz.underlying3 q0
    obtain ⟨m1, e1, _, w1⟩ := DataW.trod_int Tryz.underlying3 q1
    simp only [List.cons.injEq, and_true] at e0 e1
    subst e0 e1
    rw [cellsP2] at h1
    obtain ⟨_, _, h3⟩ := World.cells?_some h1
    exact ⟨m0, m1, fun k hk => by rw [← add_add]; exact h3 k hk, in64_wf w0, in64_wf w1⟩
  refine ⟨some a, len, cap, fun i k => intIn W (a.add (i * 2 + k)), rfl, fun h0 => ?_, fun i k hi hk => ?_⟩
  · obtain ⟨m0, m1, hk0, _⟩ := hR 0 h0
    have h1 := spot_none (hk0 0 (by omega))
    have hsp : a.spot = none := by
      have := h1.1
      obtain ⟨g, o, sp⟩ := a
      simpa [Addr.add] using this
    refine ⟨a.block, a.off, by obtain ⟨g, o, sp⟩ := a; simp only at hsp; subst hsp; rfl, ?_, fun i hi k hk => ?_⟩
    · have := h1.2
      rw [add_of hsp] at this; exact this
    · obtain ⟨m0, m1, hk1, _⟩ := hR i hi
      have e := hk1 k hk
      have e2 : (⟨a.block, a.off + i * 2 + k, none⟩ : Addr) = a.add (i * 2 + k) := by rw [add_of hsp, Nat.add_assoc]
      rw [e2]
      have : k = 0 ∨ k = 1 := by omega
      rcases this with rfl | rfl
      · rw [e]
        show _ = some (Value.int .i64 (intIn W (a.add (i * 2 + 0))))
        rw [intIn_of (w := W) (n := m0) e]; rfl
      · rw [e]
        show _ = some (Value.int .i64 (intIn W (a.add (i * 2 + 1))))
        rw [intIn_of (w := W) (n := m1) e]; rfl
  · obtain ⟨m0, m1, hk1, q0, q1⟩ := hR i hi
    have e := hk1 k hk
    have : k = 0 ∨ k = 1 := by omega
    rcases this with rfl | rfl
    · show -9223372036854775808 ≤ intIn W (a.add (i * 2 + 0)) ∧ intIn W (a.add (i * 2 + 0)) ≤ 9223372036854775807
      rw [intIn_of (w := W) (n := m0) e]; exact q0
    · show -9223372036854775808 ≤ intIn W (a.add (i * 2 + 1)) ∧ intIn W (a.add (i * 2 + 1)) ≤ 9223372036854775807
      rw [intIn_of (w := W) (n := m1) e]; exact q1

/-- A graph that comes in. -/
theorem graph_arg {fuel : Nat} {cs : List Value} {x : DataW H × List MemPlace} (h : DataW.trod enc Tryz.prog W 0 (fun _ => true) true fuel 28 cs = some x) :
    ∃ xn pv nv cv pr nr cr V Rf, cs = [.int .i64 xn, .slice pv nv cv, .slice pr nr cr] ∧ In64 xn ∧ GIn W pv nv V pr nr Rf := by
  obtain ⟨xs, n, _, rfl, hl, hlen, hf⟩ := DataW.trod_struct Tryz.underlying28 h
  rw [cellsGr] at hl
  obtain ⟨a0, a1, a2, rfl⟩ := lenThree hl
  obtain ⟨y0, y1, y2, rfl⟩ := lenThree (hlen.trans rfl)
  have h0 : DataW.trod enc Tryz.prog W 0 (fun _ => true) true n 3 (([a0, a1, a2].drop 0).take (Tryz.prog.cellsOf 3)) = some y0 := hf 0 _ rfl
  have h1 : DataW.trod enc Tryz.prog W 0 (fun _ => true) true n 24 (([a0, a1, a2].drop 1).take (Tryz.prog.cellsOf 24)) = some y1 := hf 1 _ rfl
  have h2 : DataW.trod enc Tryz.prog W 0 (fun _ => true) true n 26 (([a0, a1, a2].drop 2).take (Tryz.prog.cellsOf 26)) = some y2 := hf 2 _ rfl
  simp only [cellsI1, cellsNs, cellsRs] at h0 h1 h2
  obtain ⟨xn, e0, _, q0⟩ := DataW.trod_int Tryz.underlying3 h0
  obtain ⟨pv, cv, ns, e1, v1, v2⟩ := ints_arg h1
  obtain ⟨pr, nr, cr, Rf, e2, r1, r2⟩ := refs_arg h2
  simp only [List.drop, List.take, List.cons.injEq, and_true] at e0 e1 e2
  subst e0 e1 e2
  exact ⟨xn, pv, ns.length, cv, pr, nr, cr, fun i => ns.getD i 0, Rf, rfl, in64_wf q0, v1, v2, r1, r2⟩
end
end Go.Proofs.YtcnmfljpmpgnjaaGreatDoor

namespace Go.Proofs.YtcnmfljpmpgnjaaGreatDoor
open Go.RowKit
open Tm (H Ob Sl Why)

section
variable {R : (Nat → Prop) → World → Nat → H → Prop} {N : Nat} {A : Nat → Addr} {B : Nat} {w0 w w' : World} {p : Nat} {h : H} {T : Nat → Prop}

theorem Hp.pin (K : ProgAll R N A) (x : Hp R N A B w0 T w p h) (hB : B ≤ w.heap.size) (z : Int) (hz : z < 9223372036854775808) :
    Calls Tryz.prog 34 #[.pointer (some ⟨p, 0, none⟩), .int .i64 z] w (DP R N A B w0 T w p (h.pin z).1 (h.pin z).2) := by
  obtain ⟨S, hr, hS⟩ := x.at'
  refine (K.pin S w p h z hr x.errs (fun b hb => Nat.le_trans x.le (hS b hb).1) hz).mono ?_
  rintro e w' ⟨ev, S', rfl, he, hr', hk, hn⟩
  exact ⟨ev, rfl, he.1, x.next hS hB hr' hk hn⟩
theorem Hp.unpin (K : ProgAll R N A) (x : Hp R N A B w0 T w p h) (hB : B ≤ w.heap.size) (z : Int) (hz : z < 9223372036854775808) :
    Calls Tryz.prog 35 #[.pointer (some ⟨p, 0, none⟩), .int .i64 z] w (DP R N A B w0 T w p (h.unpin z).1 (h.unpin z).2) := by
  obtain ⟨S, hr, hS⟩ := x.at'
  refine (K.unpin S w p h z hr x.errs (fun b hb => Nat.le_trans x.le (hS b hb).1) hz).mono ?_
  rintro e w' ⟨ev, S', rfl, he, hr', hk, hn⟩
  exact ⟨ev, rfl, he.1, x.next hS hB hr' hk hn⟩
theorem Hp.push (K : ProgAll R N A) (x : Hp R N A B w0 T w p h) (hB : B ≤ w.heap.size) :
    Calls Tryz.prog 37 #[.pointer (some ⟨p, 0, none⟩)] w (DP R N A B w0 T w p h.push.1 h.push.2) := by
  obtain ⟨S, hr, hS⟩ := x.at'
  refine (K.push S w p h hr x.errs (fun b hb => Nat.le_trans x.le (hS b hb).1)).mono ?_
  rintro e w' ⟨ev, S', rfl, he, hr', hk, hn⟩
  exact ⟨ev, rfl, he.1, x.next hS hB hr' hk hn⟩
theorem Hp.pop (K : ProgAll R N A) (x : Hp R N A B w0 T w p h) (hB : B ≤ w.heap.size) (z : Int) (hz : z < 9223372036854775808) :
    Calls Tryz.prog 39 #[.pointer (some ⟨p, 0, none⟩), .int .i64 z] w (HP R N A B w0 T w p (h.pop z).1.1 (h.pop z).1.2 (h.pop z).2) := by
  obtain ⟨S, hr, hS⟩ := x.at'
  refine (K.pop S w p h z hr x.errs (fun b hb => Nat.le_trans x.le (hS b hb).1) hz).mono ?_
  rintro e w' ⟨ev, S', rfl, he, hr', hk, _, hn⟩
  exact ⟨ev, rfl, he.1, x.next hS hB hr' hk hn⟩
end
end Go.Proofs.YtcnmfljpmpgnjaaGreatDoor
