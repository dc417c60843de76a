import Derived.Test.YtcnmfljpmpgnjaaGreatDoorJ35
import Derived.Test.YtcnmfljpmpgnjaaGreatDoorJ19
namespace Go.Proofs.YtcnmfljpmpgnjaaGreatDoor
open Go.RowKit Go.Maps
open Tm (H Ob Sl Why)

theorem tat_new {S : Nat → Prop} {tag : Nat → Nat × Nat} {W : World} {bt k n o g : Nat} {f : Nat → Value} (h : TW bt f W) (hk : k < 4) (f0 : f (k * 3) = .slice (some ⟨o, 0, none⟩) n n) (f1 : f (k * 3 + 1) = .slice (some ⟨g, 0, none⟩) n n) (f2 : f (k * 3 + 2) = .int .i64 1) (r : ZRow W n o g) (so : S o) (sg : S g) (ho : tag o = (4, k)) (hg : tag g = (5, k)) : TAt S tag W bt k o g 1 (Tm.slots0 (n : Int)) := by
  have hl : (Tm.slots0 (n : Int)).length = n := by simp [Tm.slots0]
  have hz : ∀ i, (Tm.slots0 (n : Int)).getD i Tm.sl0 = Tm.sl0 := fun i => by
    simp only [Tm.slots0, List.getD_eq_getElem?_getD, List.getElem?_replicate]; split <;> rfl
  refine ⟨so, sg, ⟨n, by rw [hl, h.cells _ (by omega), f0], by rw [hl]; exact Nat.le_refl _⟩, by rw [hl, h.cells _ (by omega), f1], by rw [h.cells _ (by omega), f2]; unfold tabFr; split <;> rfl, ho, hg, fun i hi => ?_, fun i hi => ?_, fun i hi => ?_⟩
  · rw [hl] at hi; rw [hz, r.oz _ (by omega)]; rfl
  · rw [hl] at hi; rw [hz, r.oz _ (by omega)]; rfl
  · rw [hl] at hi; rw [hz, r.gz _ hi]; rfl

set_option maxHeartbeats 2000000 in
theorem prep_new {w0 w1 w2 w3 W : World} {r : Int} {l g k : Nat} {cl : List (List Int)} {ob bs bm bt o1 g1 o2 g2 o3 g3 a : Nat} (hr : Tm.right r l g k cl = true) (hc : CopiedTo w0 ob cl cl.length w1) (hs : StoNew w1 w2 r bs bm) (ht : TabsNew w2 w3 l g k bt o1 g1 o2 g2 o3 g3) (hb : Below w3.heap.size w3 W) (ha : w3.heap.size ≤ a) (hal : a < W.heap.size) (ca0 : W.cell? ⟨a, 0, none⟩ = some (.slice (some ⟨ob, 0, none⟩) cl.length cl.length)) (ca1 : W.cell? ⟨a, 1, none⟩ = some (.pointer (some ⟨bs, 0, none⟩))) (ca2 : W.cell? ⟨a, 2, none⟩ = some (.pointer (some ⟨bt, 0, none⟩))) (fa : ∀ i, W.frozen? ⟨a, i, none⟩ = false) :
    ∃ S, PR S W a (Tm.newH r l g k cl) ∧ ∀ x, S x → w0.heap.size ≤ x := by
  have b1 : Below w1.heap.size w1 W := hs.below.trans ((ht.below.mono hs.below.size).trans (hb.mono (Nat.le_trans hs.below.size ht.below.size)))
  have b2 : Below w2.heap.size w2 W := ht.below.trans (hb.mono ht.below.size)
  have z0 := hc.below.size
  have z1 := hs.below.size
  have z2 := ht.below.size
  have z3 := hb.size
  obtain ⟨x1, x2, x3, p1, p2, p3, p4, p5, p6, p7, p8, p9, p10, p11, p12, p13, p14⟩ := ht.ord
  obtain ⟨f, tw, f3, f4, f5, f6, f7, f8, f9, f10, f11⟩ := ht.tw
  have tw' := tw.on hb
  have r1 := ht.r1.on hb
  have r2 := ht.r2.on hb
  have r3 := ht.r3.on hb
  have q1 := ht.r1.hi
  have q2 := ht.r2.hi
  have q3 := ht.r3.hi
  have hbt := tw.lt
  have hbt0 := ht.bt0
  have hlo := hs.lo
  have hhi := hs.hi
  have hon := hc.new
  obtain ⟨rp, rc, cb, hrow⟩ := hc.rows
  obtain ⟨S, hS⟩ : ∃ S : Nat → Prop, S = fun b => w0.heap.size ≤ b ∧ b < W.heap.size ∧ ∀ i, W.frozen? ⟨b, i, none⟩ = false := ⟨_, rfl⟩
  have inS : ∀ b, w0.heap.size ≤ b → b < W.heap.size → (∀ i, W.frozen? ⟨b, i, none⟩ = false) → S b := fun b h1 h2 h3 => by rw [hS]; exact ⟨h1, h2, h3⟩
  obtain ⟨tag, hT⟩ : ∃ tag : Nat → Nat × Nat, ∀ b, tag b = if b < w1.heap.size then (if b = ob then (8, 0) else (9, 0)) else if b < w2.heap.size then (if b = bs then (1, 0) else (2, 0)) else if b < w3.heap.size then (if b = bt then (3, 0) else if b = o1 then (4, 1) else if b = g1 then (5, 1) else if b = o2 then (4, 2) else if b = g2 then (5, 2) else if b = o3 then (4, 3) else (5, 3)) else (0, 0) := ⟨_, fun _ => rfl⟩
  have lo : Tm.right r l g k cl = true := hr
  have sbs : S bs := inS _ (by omega) (by omega) (fun i => by rw [b2.frozen hhi.1]; exact hs.soft _ i (Or.inl rfl))
  have sbm : S bm := inS _ (by omega) (by omega) (fun i => by rw [b2.frozen hhi.2]; exact hs.soft _ i (Or.inr rfl))
  have sbt : S bt := inS _ (by omega) (by omega) tw'.soft
  have so1 : S o1 := inS _ (by omega) (by omega) (fun i => r1.soft _ i (Or.inl rfl))
  have sg1 : S g1 := inS _ (by omega) (by omega) (fun i => r1.soft _ i (Or.inr rfl))
  have so2 : S o2 := inS _ (by omega) (by omega) (fun i => r2.soft _ i (Or.inl rfl))
  have sg2 : S g2 := inS _ (by omega) (by omega) (fun i => r2.soft _ i (Or.inr rfl))
  have so3 : S o3 := inS _ (by omega) (by omega) (fun i => r3.soft _ i (Or.inl rfl))
  have sg3 : S g3 := inS _ (by omega) (by omega) (fun i => r3.soft _ i (Or.inr rfl))
  have sob : S ob := inS _ hon.1 (by omega) (fun i => by rw [b1.frozen hon.2]; exact hc.soft i)
  have t_o1 : tag o1 = (4, 1) := by rw [hT, if_neg (by omega), if_neg (by omega), if_pos (by omega), if_neg (by omega), if_pos rfl]
  have t_g1 : tag g1 = (5, 1) := by rw [hT, if_neg (by omega), if_neg (by omega), if_pos (by omega), if_neg (by omega), if_neg (by omega), if_pos rfl]
  have t_o2 : tag o2 = (4, 2) := by rw [hT, if_neg (by omega), if_neg (by omega), if_pos (by omega), if_neg (by omega), if_neg (by omega), if_neg (by omega), if_pos rfl]
  have t_g2 : tag g2 = (5, 2) := by rw [hT, if_neg (by omega), if_neg (by omega), if_pos (by omega), if_neg (by omega), if_neg (by omega), if_neg (by omega), if_neg (by omega), if_pos rfl]
  have t_o3 : tag o3 = (4, 3) := by rw [hT, if_neg (by omega), if_neg (by omega), if_pos (by omega), if_neg (by omega), if_neg (by omega), if_neg (by omega), if_neg (by omega), if_neg (by omega), if_pos rfl]
  have t_g3 : tag g3 = (5, 3) := by rw [hT, if_neg (by omega), if_neg (by omega), if_pos (by omega), if_neg (by omega), if_neg (by omega), if_neg (by omega), if_neg (by omega), if_neg (by omega), if_neg (by omega)]
  refine ⟨S, ⟨tag, ⟨bs, bm, bt, fun k => if k = 1 then o1 else if k = 2 then o2 else o3, fun k => if k = 1 then g1 else if k = 2 then g2 else g3, fun _ => 0, fun _ => 0, ob, cb⟩, ?_⟩, fun x hx => by rw [hS] at hx; exact hx.1⟩
  refine ⟨Tm.Good.new r l g k cl hr, fun b hb => by rw [hS] at hb; exact hb.2.1, fun b i hb => by rw [hS] at hb; exact hb.2.2 i, ⟨⟨inS a (by omega) hal fa, ?_⟩, ca1, ca2, ⟨_, _, ca0, fun _ => ⟨rfl, sob, ?_⟩⟩, fun i hi => ?_⟩, ⟨⟨sbs, ?_⟩, ⟨sbm, ?_⟩, by rw [b2.cell hhi.1]; exact hs.c0, by rw [b2.cell hhi.1]; exact hs.c1, by rw [b2.cell hhi.1]; exact hs.c2, ⟨_, ownsMap_block hs.map (b2.block _ hhi.2), ObjsD.nil _ _⟩, ⟨_, [], by rw [b2.cell hhi.1]; exact hs.c3, ⟨rfl, Or.inl ⟨rfl, rfl⟩⟩, fun g hg => (by cases hg), rfl, List.nodup_nil, fun m hm => (by cases hm), fun m hm => (by cases hm)⟩⟩, ⟨sbt, ?_⟩, fun j hj => absurd hj (Nat.not_lt_zero _), fun k' h0 h4 => ?_⟩
  · rw [hT, if_neg (by omega), if_neg (by omega), if_neg (by omega)]
  · rw [hT, if_pos hon.2, if_pos rfl]
  · obtain ⟨e1, e2⟩ := hrow i hi
    refine ⟨?_, _, by rw [b1.cell hon.2]; exact e1, rp i, rc i, rfl, fun h0 => ?_, fun q hq => ?_⟩
    · rcases Nat.eq_zero_or_pos (cl.getD i []).length with h0 | h0
      · exact Or.inr (List.length_eq_zero_iff.1 h0)
      · obtain ⟨_, u2, u3, u4, _⟩ := e2 h0
        left
        rw [hT, if_pos u3, if_neg u4]
    · obtain ⟨u1, u2, u3, u4, u5, u6⟩ := e2 h0
      exact ⟨u1, inS _ u2 (Nat.lt_of_lt_of_le u3 (by omega)) (fun i => by rw [b1.frozen u3]; exact u5 i)⟩
    · have hq : q < (cl.getD i []).length := hq
      obtain ⟨u1, u2, u3, u4, u5, u6⟩ := e2 (by omega)
      rw [b1.cell u3]; exact u6 q hq
  · show tag bs = (1, 0)
    rw [hT, if_neg (by omega), if_pos hhi.1, if_pos rfl]
  · show tag bm = (2, 0)
    rw [hT, if_neg (by omega), if_pos hhi.2, if_neg (fun e => hs.ne e.symm)]
  · show tag bt = (3, 0)
    rw [hT, if_neg (by omega), if_neg (by omega), if_pos hbt, if_pos rfl]
  · rcases (show k' = 1 ∨ k' = 2 ∨ k' = 3 by omega) with rfl | rfl | rfl
    · exact tat_new (k := 1) tw' (by omega) f3 f4 f5 r1 so1 sg1 t_o1 t_g1
    · exact tat_new (k := 2) tw' (by omega) f6 f7 f8 r2 so2 sg2 t_o2 t_g2
    · exact tat_new (k := 3) tw' (by omega) f9 f10 f11 r3 so3 sg3 t_o3 t_g3

set_option maxRecDepth 100000 in
set_option maxHeartbeats 4000000 in
theorem newH_no {N : Nat} {A : Nat → Addr} (w : World) (r l g k : Int) (p : Option Addr) (cl : List (List Int)) (c : Nat) (hE : Errs N A w) (hc : ClsIn w w.heap.size (.slice p cl.length c) cl) (hr : Tm.right r l g k cl = false) :
    Calls Tryz.prog 30 #[.agg #[.int .i64 r, .int .i64 l, .int .i64 g, .int .i64 k, .slice p cl.length c]] w fun e w' => ∃ ev, e = .returned (.tuple #[.pointer none, ev]) ∧ Below w.heap.size w w' ∧ ErrIn A w.heap.size w' ev ⟨1, 0⟩ := by
  have HF : Hid (∀ o, Calls Tryz.prog 63 #[.agg #[.int .i64 r, .int .i64 l, .int .i64 g, .int .i64 k, .slice p cl.length c]] (w.alloc o) fun e w' => e = .returned (.bool false) ∧ Below w.heap.size w w') := fun o => by
    have := fits_any (w.alloc o) w.heap.size (by simp) r l g k p c cl (hc.below (Below.alloc0 w o))
    rw [hr] at this
    refine this.mono ?_
    rintro e w' ⟨rfl, hb⟩
    exact ⟨rfl, (Below.alloc0 w o).trans (hb.mono (by simp))⟩
  have HE := hide hE
  have HRf : Hid (∀ w1, Below w.heap.size w w1 → Calls Tryz.prog 50 #[.iface 261 (.pointer (some (A 0)))] w1 fun e w' => ∃ ev, e = .returned ev ∧ Below w.heap.size w w' ∧ ErrIn A w.heap.size w' ev ⟨1, 0⟩) := fun w1 hb => by
    refine (refusal_any (A := A) (hE.kept hb) (InErr.bare w1 1 (by omega) (by omega))).mono ?_
    rintro e w' ⟨ev, rfl, he, hb2⟩
    exact ⟨ev, rfl, hb.trans (hb2.mono hb.size), he.mono hb.size⟩
  clear hE hc hr
  generalize cl.length = cn at *
  go_enter Tryz.func30, Tryz.ntmps30
  go_wp2_with (first
    | (go_at_call 63; refine (HF.out _).mono ?_; rintro e w1 ⟨rfl, hb1⟩; have g0 := (HE.out.kept hb1).g0; have HR1 := hide (HRf.out w1 hb1); clear hb1)
    | (go_at_call 50; refine HR1.out.mono ?_; rintro e w' ⟨ev, rfl, hq⟩; have HQ := hide hq; clear hq)
    | fail)
  go_ret2
  exact ⟨_, rfl, HQ.out⟩

set_option maxRecDepth 100000 in
set_option maxHeartbeats 8000000 in
theorem newH_yes (w : World) (r l g k : Int) (p : Option Addr) (cl : List (List Int)) (c : Nat) (hc : ClsIn w w.heap.size (.slice p cl.length c) cl) (hr : Tm.right r l g k cl = true) :
    Calls Tryz.prog 30 #[.agg #[.int .i64 r, .int .i64 l, .int .i64 g, .int .i64 k, .slice p cl.length c]] w fun e w' => ∃ pa S, e = .returned (.tuple #[.pointer (some ⟨pa, 0, none⟩), .nilIface]) ∧ Below w.heap.size w w' ∧ PR S w' pa (Tm.newH r l g k cl) ∧ ∀ x, S x → w.heap.size ≤ x := by
  have hr' := hr
  simp only [Tm.right, Tm.inR, Bool.and_eq_true, decide_eq_true_eq] at hr'
  obtain ⟨h1, h2, h3, h4, h5, _⟩ := hr'
  obtain ⟨ln, rfl⟩ : ∃ q : Nat, l = (q : Int) := ⟨l.toNat, by omega⟩
  obtain ⟨gn, rfl⟩ : ∃ q : Nat, g = (q : Int) := ⟨g.toNat, by omega⟩
  obtain ⟨kn, rfl⟩ : ∃ q : Nat, k = (q : Int) := ⟨k.toNat, by omega⟩
  have HF : Hid (∀ o, Calls Tryz.prog 63 #[.agg #[.int .i64 r, .int .i64 (ln : Int), .int .i64 (gn : Int), .int .i64 (kn : Int), .slice p cl.length c]] (w.alloc o) fun e w' => e = .returned (.bool true) ∧ Below (w.heap.size + 1) (w.alloc o) w') := fun o => by
    have := fits_any (w.alloc o) w.heap.size (by simp) r ln gn kn p c cl (hc.below (Below.alloc0 w o))
    rw [hr] at this
    refine this.mono ?_
    rintro e w' ⟨rfl, hb⟩
    exact ⟨rfl, by simpa using hb⟩
  have HCp : Hid (∀ w1, Below w.heap.size w w1 → Calls Tryz.prog 64 #[.slice p cl.length c] w1 fun e w' => ∃ ob, e = .returned (.slice (some ⟨ob, 0, none⟩) cl.length cl.length) ∧ CopiedTo w1 ob cl cl.length w') := fun w1 hb => copied_any w1 w.heap.size hb.size p c cl (by omega) (hc.below hb)
  have HNs := fun w1 => hide (newS_any w1 r)
  have HNt := fun w1 => hide (newT_any w1 ln gn kn (by omega) (by omega) (by omega))
  have HPn : Hid (∀ (w1 w2 w3 w4 : World) (ob bs bm bt o1 g1 o2 g2 o3 g3 : Nat), Below w.heap.size w w1 → CopiedTo w1 ob cl cl.length w2 → StoNew w2 w3 r bs bm → TabsNew w3 w4 ln gn kn bt o1 g1 o2 g2 o3 g3 → ∀ W, (W = (w4.alloc (.cells #[.slice (some ⟨ob, 0, none⟩) cl.length cl.length, .pointer (some ⟨bs, 0, none⟩), .pointer (some ⟨bt, 0, none⟩)] 93)) ∨ W = (w4.alloc (.cells #[.slice (some ⟨ob, 0, none⟩) cl.length cl.length, .pointer (some ⟨bs, 0, none⟩), .pointer (some ⟨bt, 0, none⟩)] 93)).drew) → Below w.heap.size w W ∧ ∃ S, PR S W w4.heap.size (Tm.newH r ln gn kn cl) ∧ ∀ x, S x → w.heap.size ≤ x) := fun w1 w2 w3 w4 ob bs bm bt o1 g1 o2 g2 o3 g3 hb q1 q2 q3 W hW => by
    have hbW : Below w4.heap.size w4 W := by
      rcases hW with rfl | rfl
      · exact Below.alloc0 _ _
      · exact (Below.alloc0 _ _).trans ⟨rfl, rfl, rfl, Nat.le_refl _, fun _ _ => rfl⟩
    have hcell : ∀ i v, (#[.slice (some ⟨ob, 0, none⟩) cl.length cl.length, .pointer (some ⟨bs, 0, none⟩), .pointer (some ⟨bt, 0, none⟩)] : Array Value)[i]? = some v → W.cell? ⟨w4.heap.size, i, none⟩ = some v := fun i v hv => by
      rcases hW with rfl | rfl
      · rw [World.cell?_alloc_new]; exact hv
      · show (w4.alloc _).cell? _ = _
        rw [World.cell?_alloc_new]; exact hv
    have hfz : ∀ i, W.frozen? ⟨w4.heap.size, i, none⟩ = false := fun i => by
      rcases hW with rfl | rfl
      · exact World.frozen?_alloc_new _ _ _ _
      · show (w4.alloc _).frozen? _ = _
        exact World.frozen?_alloc_new _ _ _ _
    have hz : w4.heap.size < W.heap.size := by rcases hW with rfl | rfl <;> simp
    obtain ⟨S, p1, p2⟩ := prep_new hr q1 q2 q3 hbW (Nat.le_refl _) hz (hcell 0 _ rfl) (hcell 1 _ rfl) (hcell 2 _ rfl) hfz
    have z1 := hb.size
    have z2 := q1.below.size
    have z3 := q2.below.size
    have z4 := q3.below.size
    exact ⟨hb.trans ((q1.below.mono z1).trans ((q2.below.mono (by omega)).trans ((q3.below.mono (by omega)).trans (hbW.mono (by omega))))), S, p1, fun x hx => Nat.le_trans z1 (p2 x hx)⟩
  have hcl := h5.2
  clear hc hr h1 h2 h3 h4 h5
  generalize cl.length = cn at *
  go_enter Tryz.func30, Tryz.ntmps30
  go_wp2_with (first
    | (go_at_call 63; refine (HF.out _).mono ?_; rintro e w1 ⟨rfl, hb1⟩; have HB1 := hide hb1; clear hb1)
    | fail)
  have k0 : w1.cell? ⟨w.heap.size, 0, none⟩ = some (.int .i64 r) := by rw [HB1.out.cell (show w.heap.size < w.heap.size + 1 by omega), World.cell?_alloc_new]; rfl
  have k1 : w1.cell? ⟨w.heap.size, 1, none⟩ = some (.int .i64 (ln : Int)) := by rw [HB1.out.cell (show w.heap.size < w.heap.size + 1 by omega), World.cell?_alloc_new]; rfl
  have k2 : w1.cell? ⟨w.heap.size, 2, none⟩ = some (.int .i64 (gn : Int)) := by rw [HB1.out.cell (show w.heap.size < w.heap.size + 1 by omega), World.cell?_alloc_new]; rfl
  have k3 : w1.cell? ⟨w.heap.size, 3, none⟩ = some (.int .i64 (kn : Int)) := by rw [HB1.out.cell (show w.heap.size < w.heap.size + 1 by omega), World.cell?_alloc_new]; rfl
  have k4 : w1.cell? ⟨w.heap.size, 4, none⟩ = some (.slice p cn c) := by rw [HB1.out.cell (show w.heap.size < w.heap.size + 1 by omega), World.cell?_alloc_new]; rfl
  have hz1 : w.heap.size + 1 ≤ w1.heap.size := by have := HB1.out.size; simpa using this
  have HBw : Hid (Below w.heap.size w w1.drew) := (Below.alloc0 w _).trans ((HB1.out.mono (by omega)).trans ⟨rfl, rfl, rfl, Nat.le_refl _, fun _ _ => rfl⟩)
  go_region_held3 (fun w' => w'.cell? ⟨w.heap.size, 0, none⟩ = some (.int .i64 r) ∧ w'.cell? ⟨w.heap.size, 1, none⟩ = some (.int .i64 (ln : Int)) ∧ w'.cell? ⟨w.heap.size, 2, none⟩ = some (.int .i64 (gn : Int)) ∧ w'.cell? ⟨w.heap.size, 3, none⟩ = some (.int .i64 (kn : Int)) ∧ w'.cell? ⟨w.heap.size, 4, none⟩ = some (.slice p cn c)) (first | (with_reducible exact ⟨by assumption, by assumption, by assumption, by assumption, by assumption⟩) | exact ⟨d0 _, d1 _, d2 _, d3 _, d4 _⟩ | go_keep) (first
    | (go_at_call 64
       refine (HCp.out w1.drew HBw.out).mono ?_
       rintro e w2 ⟨ob, rfl, hq2⟩
       have m0 : w2.cell? ⟨w.heap.size, 0, none⟩ = some (.int .i64 r) := by rw [(hq2.below).cell (show w.heap.size < w1.heap.size by omega)]; exact k0
       have m1 : w2.cell? ⟨w.heap.size, 1, none⟩ = some (.int .i64 (ln : Int)) := by rw [(hq2.below).cell (show w.heap.size < w1.heap.size by omega)]; exact k1
       have m2 : w2.cell? ⟨w.heap.size, 2, none⟩ = some (.int .i64 (gn : Int)) := by rw [(hq2.below).cell (show w.heap.size < w1.heap.size by omega)]; exact k2
       have m3 : w2.cell? ⟨w.heap.size, 3, none⟩ = some (.int .i64 (kn : Int)) := by rw [(hq2.below).cell (show w.heap.size < w1.heap.size by omega)]; exact k3
       have m4 : w2.cell? ⟨w.heap.size, 4, none⟩ = some (.slice p cn c) := by rw [(hq2.below).cell (show w.heap.size < w1.heap.size by omega)]; exact k4
       have hz2 : w1.heap.size ≤ w2.heap.size := hq2.below.size
       have HQ2 := hide hq2
       clear hq2)
    | (go_at_call 65
       refine ((HNs w2).out).mono ?_
       rintro e w3 ⟨bs, bm, rfl, hq3⟩
       have n0 : w3.cell? ⟨w.heap.size, 0, none⟩ = some (.int .i64 r) := by rw [(hq3.below).cell (show w.heap.size < w2.heap.size by omega)]; exact m0
       have n1 : w3.cell? ⟨w.heap.size, 1, none⟩ = some (.int .i64 (ln : Int)) := by rw [(hq3.below).cell (show w.heap.size < w2.heap.size by omega)]; exact m1
       have n2 : w3.cell? ⟨w.heap.size, 2, none⟩ = some (.int .i64 (gn : Int)) := by rw [(hq3.below).cell (show w.heap.size < w2.heap.size by omega)]; exact m2
       have n3 : w3.cell? ⟨w.heap.size, 3, none⟩ = some (.int .i64 (kn : Int)) := by rw [(hq3.below).cell (show w.heap.size < w2.heap.size by omega)]; exact m3
       have n4 : w3.cell? ⟨w.heap.size, 4, none⟩ = some (.slice p cn c) := by rw [(hq3.below).cell (show w.heap.size < w2.heap.size by omega)]; exact m4
       have hz3 := hq3.below.size
       have HQ3 := hide hq3
       clear hq3)
    | (go_at_call 66
       refine ((HNt w3).out).mono ?_
       rintro e w4 ⟨bt, o1, g1, o2, g2, o3, g3, rfl, hq4⟩
       have t0 : w4.cell? ⟨w.heap.size, 0, none⟩ = some (.int .i64 r) := by rw [(hq4.below).cell (show w.heap.size < w3.heap.size by omega)]; exact n0
       have t1 : w4.cell? ⟨w.heap.size, 1, none⟩ = some (.int .i64 (ln : Int)) := by rw [(hq4.below).cell (show w.heap.size < w3.heap.size by omega)]; exact n1
       have t2 : w4.cell? ⟨w.heap.size, 2, none⟩ = some (.int .i64 (gn : Int)) := by rw [(hq4.below).cell (show w.heap.size < w3.heap.size by omega)]; exact n2
       have t3 : w4.cell? ⟨w.heap.size, 3, none⟩ = some (.int .i64 (kn : Int)) := by rw [(hq4.below).cell (show w.heap.size < w3.heap.size by omega)]; exact n3
       have t4 : w4.cell? ⟨w.heap.size, 4, none⟩ = some (.slice p cn c) := by rw [(hq4.below).cell (show w.heap.size < w3.heap.size by omega)]; exact n4
       have hz4 := hq4.below.size
       have d0 : ∀ x, (w4.alloc x).cell? ⟨w.heap.size, 0, none⟩ = some (.int .i64 r) := fun x => by rw [World.cell?_alloc_lt _ _ _ (show w.heap.size < w4.heap.size by omega)]; exact t0
       have d1 : ∀ x, (w4.alloc x).cell? ⟨w.heap.size, 1, none⟩ = some (.int .i64 (ln : Int)) := fun x => by rw [World.cell?_alloc_lt _ _ _ (show w.heap.size < w4.heap.size by omega)]; exact t1
       have d2 : ∀ x, (w4.alloc x).cell? ⟨w.heap.size, 2, none⟩ = some (.int .i64 (gn : Int)) := fun x => by rw [World.cell?_alloc_lt _ _ _ (show w.heap.size < w4.heap.size by omega)]; exact t2
       have d3 : ∀ x, (w4.alloc x).cell? ⟨w.heap.size, 3, none⟩ = some (.int .i64 (kn : Int)) := fun x => by rw [World.cell?_alloc_lt _ _ _ (show w.heap.size < w4.heap.size by omega)]; exact t3
       have d4 : ∀ x, (w4.alloc x).cell? ⟨w.heap.size, 4, none⟩ = some (.slice p cn c) := fun x => by rw [World.cell?_alloc_lt _ _ _ (show w.heap.size < w4.heap.size by omega)]; exact t4
       have HQ4 := hide hq4
       clear hq4)
    | fail)
  all_goals go_wp2_with fail
  all_goals go_ret2
  all_goals
    have hfin := HPn.out w1.drew w2 w3 w4 ob bs bm bt o1 g1 o2 g2 o3 g3 HBw.out HQ2.out HQ3.out HQ4.out _ (by first | exact Or.inl rfl | exact Or.inr rfl)
    obtain ⟨hbF, S, hp, hS⟩ := hfin
    exact ⟨_, S, rfl, hbF, hp, hS⟩
end Go.Proofs.YtcnmfljpmpgnjaaGreatDoor

namespace Go.Proofs.YtcnmfljpmpgnjaaGreatDoor
open Go.RowKit Go.Maps
open Tm (H Ob Sl Why)

theorem PR.ok : ROK PR := ⟨fun _ _ _ _ _ ⟨tag, Y, r⟩ hs hz => ⟨tag, Y, r.same hs hz⟩, fun _ _ _ _ ⟨_, _, r⟩ => r.lt⟩

theorem DPost.toR {S : Nat → Prop} {w : World} {a : Nat} {A : Nat → Addr} {y : Why} {h' : H} {e : Ending} {w' : World} (q : DPost S w a A y h' e w') : DPostR PR S w a A y h' e w' := by
  obtain ⟨ev, e1, e2, e3, e4⟩ := q
  exact ⟨ev, S, e1, e2, e3, e4, fun b hb => Or.inl hb⟩

theorem prog_ok (N : Nat) (A : Nat → Addr) : ProgOK PR N A where
  ok := PR.ok
  make := fun S w p h M c ⟨_, _, r⟩ hE hS hM hm hc => makeH_any hE hS r M hM c hm hc
  arr := fun S w p h M k n ⟨_, _, r⟩ hE hS hM hm => arrayH_any hE hS r M hM k n hm
  get := fun S w p h x i ⟨_, _, r⟩ hE _ hx => getH_any hE r x i hx
  follow := fun S w p h x i ⟨_, _, r⟩ hE _ hx => followH_any hE r x i hx
  ref := fun S w p h k x ⟨_, _, r⟩ hE _ hx => refH_any hE r k x hx
  set := fun S w p h x i v ⟨_, _, r⟩ hE hS hx => (setH_any hE hS r x i v hx).mono fun _ _ q => q.toR
  point := fun S w p h x i z ⟨_, _, r⟩ hE hS hx hz => (pointH_any hE hS r x i z hx hz).mono fun _ _ q => q.toR
  free := fun S w p h x ⟨_, _, r⟩ hE hS hx => (freeH_any hE hS r x hx).mono fun _ _ q => q.toR
  same := fun S w p h x z ⟨_, _, r⟩ hE _ hx hz => sameH_any hE r x z hx hz
  stats := fun S w p h ⟨_, _, r⟩ _ => statsH_any r
  collect := fun S w p h M ⟨_, _, r⟩ _ _ hM => (collectH_any r M hM).mono fun e w' q => by
    obtain ⟨e1, S', tag', q1, q2, _, q3⟩ := q
    exact ⟨e1, S', ⟨tag', _, q1⟩, q2, q3⟩
  extern := fun S w p h M n ⟨_, _, r⟩ hE hS hM hm => externH_any hE hS r M hM n hm
  ended := fun S w p h ⟨_, _, r⟩ _ _ _ => endedH_any r

theorem new_ok (N : Nat) (A : Nat → Addr) : NewOK PR N A where
  nil := fun w r l g k c hE => by
    have hc : ClsIn w w.heap.size (.slice none ([] : List (List Int)).length c) [] := ⟨none, c, rfl, fun _ => rfl, by simp, fun h => by simp at h⟩
    refine newH_no w r l g k none [] c hE hc ?_
    simp [Tm.right, Tm.inR]
  no := fun w r l g k lb cl c hE hc hr => newH_no w r l g k _ cl c hE hc hr
  yes := fun w r l g k lb cl c _ hc hr => newH_yes w r l g k _ cl c hc hr
end Go.Proofs.YtcnmfljpmpgnjaaGreatDoor
