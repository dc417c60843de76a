import Derived.Test.YtcnmfljpmpgnjaaGreatDoorFFraB
namespace Go.Proofs.YtcnmfljpmpgnjaaGreatDoor
open Go.RowKit
open Tm (H Ob Sl Why GD Gh LayD)

/-- A graph that came in. -/
structure GIn (w : World) (pv : Option Addr) (nv : Nat) (V : Nat → Int) (pr : Option Addr) (nr : Nat) (Rf : Nat → Nat → Int) : Prop where
  v : 0 < nv → ∃ g o, pv = some ⟨g, o, none⟩ ∧ g < w.heap.size ∧ ∀ i, i < nv → w.cell? ⟨g, o + i, none⟩ = some (.int .i64 (V i))
  vr : ∀ i, i < nv → -9223372036854775808 ≤ V i ∧ V i ≤ 9223372036854775807
  r : 0 < nr → ∃ g o, pr = some ⟨g, o, none⟩ ∧ g < w.heap.size ∧ ∀ i, i < nr → ∀ k, k < 2 → w.cell? ⟨g, o + i * 2 + k, none⟩ = some (.int .i64 (Rf i k))
  rr : ∀ i k, i < nr → k < 2 → -9223372036854775808 ≤ Rf i k ∧ Rf i k ≤ 9223372036854775807

section
variable {R : (Nat → Prop) → World → Nat → H → Prop} {N : Nat} {A : Nat → Addr}

theorem Gst.first (ok : ROK R) {w0 w1 : World} {p : Nat} {h : H} (x : Hp R N A w0.heap.size w0 (fun _ => False) w1 p h) (n : Nat) (f0 f1 f2 f3 : Nat → Value) :
    Gst R N A w0 (fun _ => False) w1.heap.size n (rows4 ⟨none, 0, 0, 0, f0⟩ ⟨none, 0, 0, 0, f1⟩ ⟨none, 0, 0, 0, f2⟩ ⟨none, 0, 0, 0, f3⟩) (w1.alloc (.cells #[.pointer (some ⟨p, 0, none⟩), .int .i64 (n : Int), .slice none 0 0, .slice none 0 0, .slice none 0 0, .slice none 0 0] 35)) p h := by
  have hsz := x.size (Nat.le_refl _)
  have hr : ∀ k, k < 4 → (rows4 ⟨none, 0, 0, 0, f0⟩ ⟨none, 0, 0, 0, f1⟩ ⟨none, 0, 0, 0, f2⟩ ⟨none, 0, 0, 0, f3⟩ k).c = 0 ∧ (rows4 ⟨none, 0, 0, 0, f0⟩ ⟨none, 0, 0, 0, f1⟩ ⟨none, 0, 0, 0, f2⟩ ⟨none, 0, 0, 0, f3⟩ k).n = 0 ∧ (rows4 ⟨none, 0, 0, 0, f0⟩ ⟨none, 0, 0, 0, f1⟩ ⟨none, 0, 0, 0, f2⟩ ⟨none, 0, 0, 0, f3⟩ k).p = none := fun k hk => by
    have : k = 0 ∨ k = 1 ∨ k = 2 ∨ k = 3 := by omega
    rcases this with rfl | rfl | rfl | rfl <;> exact ⟨rfl, rfl, rfl⟩
  have hnew : ∀ i, (w1.alloc (.cells #[.pointer (some ⟨p, 0, none⟩), .int .i64 (n : Int), .slice none 0 0, .slice none 0 0, .slice none 0 0, .slice none 0 0] 35)).cell? ⟨w1.heap.size, i, none⟩ = (#[.pointer (some ⟨p, 0, none⟩), .int .i64 (n : Int), .slice none 0 0, .slice none 0 0, .slice none 0 0, .slice none 0 0] : Array Value)[i]? := fun i => World.cell?_alloc_at _ _ _ _ rfl
  have hown : ∀ b, ownG w1.heap.size (rows4 ⟨none, 0, 0, 0, f0⟩ ⟨none, 0, 0, 0, f1⟩ ⟨none, 0, 0, 0, f2⟩ ⟨none, 0, 0, 0, f3⟩) b → b = w1.heap.size := fun b hb => by
    rcases hb with q | ⟨k, hk, h0, _⟩
    · exact q
    · rw [(hr k hk).1] at h0; omega
  refine ⟨x.turn ok hsz ((Below.alloc0 w1 _).mono hsz) (fun b hb _ => (Below.alloc0 w1 _).block b hb) (fun b hb => ?_) (fun b hb => ?_), ⟨hsz, by simp, fun i => ?_, hnew 0, hnew 1, fun k hk => ?_, fun k hk => ?_, fun k hk h0 => ?_, fun i j hi hj _ h0 => ?_⟩, fun b hb => hb.elim⟩
  · rcases hb with q | q
    · exact Or.inr (by rw [hown b q]; exact Nat.le_refl _)
    · exact q.elim
  · rcases hb with q | q
    · rw [hown b q]; simp
    · exact q.elim
  · have hb : (w1.alloc (.cells #[.pointer (some ⟨p, 0, none⟩), .int .i64 (n : Int), .slice none 0 0, .slice none 0 0, .slice none 0 0, .slice none 0 0] 35)).heap[w1.heap.size]? = some (.cells #[.pointer (some ⟨p, 0, none⟩), .int .i64 (n : Int), .slice none 0 0, .slice none 0 0, .slice none 0 0, .slice none 0 0] 35 (0, 0)) := by simpa using heap_alloc_new w1 (.cells #[.pointer (some ⟨p, 0, none⟩), .int .i64 (n : Int), .slice none 0 0, .slice none 0 0, .slice none 0 0, .slice none 0 0] 35)
    unfold World.frozen?
    simp only [hb]
    simp
  · rw [hnew, (hr k hk).1, (hr k hk).2.1, (hr k hk).2.2]
    have : k = 0 ∨ k = 1 ∨ k = 2 ∨ k = 3 := by omega
    rcases this with rfl | rfl | rfl | rfl <;> rfl
  · obtain ⟨h1, h2, h3⟩ := hr k hk
    exact ⟨by rw [h1, h2]; exact Nat.le_refl _, by rw [h1]; exact Nat.zero_le _, fun h0 => by rw [h1] at h0; omega, fun _ => h3, fun i hi => by rw [h2, Nat.zero_mul] at hi; omega⟩
  · rw [(hr k hk).1] at h0; omega
  · rw [(hr i hi).1] at h0; omega

/-- What laying a graph down leaves. -/
def LayPost (R : (Nat → Prop) → World → Nat → H → Prop) (N : Nat) (A : Nat → Addr) (w : World) (e : Ending) (w' : World) : Prop :=
  ∃ gb p r h d W, e = .returned (.tuple #[.pointer (some ⟨gb, 0, none⟩), .bool true]) ∧ Below w.heap.size w W ∧ Gst R N A W (fun _ => False) gb d.n r w' p h ∧ Gh h d ∧ Gr r d (fun i => Tm.hand 1 i (Tm.lg i)) ∧ LayD d 0 d.n ∧ 1 ≤ d.n ∧ d.b = 1 ∧ d.f = 1

/-- The struct, its lists, and what they are of. -/
def LayS (R : (Nat → Prop) → World → Nat → H → Prop) (N : Nat) (A : Nat → Addr) (w0 : World) (gb n s i b : Nat) (f : Int) (vs : Nat → Int) (rs : Nat → Nat → Int) (p : Nat) (w : World) : Prop :=
  ∃ (h : H) (d : GD) (r0 r1 r2 r3 : RowG), Gst R N A w0 (fun _ => False) gb n (rows4 r0 r1 r2 r3) w p h ∧ Gh h d ∧ LayD d s i ∧ d.b = b ∧ d.f = f ∧ d.rs = rs ∧ (r0.n = i ∧ r1.n = i ∧ r2.n = i ∧ r3.n = i) ∧ (r0.f = gF0 s ∧ r1.f = gF1 ∧ r2.f = gF2 vs ∧ r3.f = gF3 rs) ∧ ∀ j, j < i → d.vs j = vs j

set_option maxRecDepth 100000 in
set_option maxHeartbeats 8000000 in
theorem lay_g (K : ProgOK R N A) (KN : NewOK R N A) (w : World) (hE : Errs N A w) (xn : Int) (hx1 : -9223372036854775808 ≤ xn) (hx2 : xn ≤ 9223372036854775807) (pv pr : Option Addr) (nv cv nr cr : Nat) (V : Nat → Int) (Rf : Nat → Nat → Int) (gi : GIn w pv nv V pr nr Rf) :
    Calls Tryz.prog 15 #[.agg #[.int .i64 xn, .slice pv nv cv, .slice pr nr cr]] w (LayPost R N A w) := by
  have HK := hide K
  have HGi := hide gi
  obtain ⟨W, eW⟩ : ∃ W, (w.alloc (.cells #[.int .i64 xn, .slice pv nv cv, .slice pr nr cr] 28)).drew = W := ⟨_, rfl⟩
  have hWb : Below w.heap.size w W := by rw [← eW]; exact (Below.alloc0 w _).trans ⟨rfl, rfl, rfl, Nat.le_refl _, fun _ _ => rfl⟩
  have hWs : W.heap.size = w.heap.size + 1 := by rw [← eW]; simp
  have cN0 : W.cell? ⟨w.heap.size, 0, none⟩ = some (.int .i64 xn) := by rw [← eW]; exact (World.cell?_alloc_at _ _ _ _ rfl).trans rfl
  have cN1 : W.cell? ⟨w.heap.size, 1, none⟩ = some (.slice pv nv cv) := by rw [← eW]; exact (World.cell?_alloc_at _ _ _ _ rfl).trans rfl
  have cN2 : W.cell? ⟨w.heap.size, 2, none⟩ = some (.slice pr nr cr) := by rw [← eW]; exact (World.cell?_alloc_at _ _ _ _ rfl).trans rfl
  have HBg := hide (begun_any K KN W (hE.below hWb hE.le))
  have HPz := hide (fun w' => kpick_is xn 10 w' (by omega) (by omega) hx1 hx2)
  have hpn := pickN_lt xn 10 (by omega)
  generalize pickN xn 10 = pn at *
  have HWb := hide hWb
  have HWs := hide hWs
  have HC1 := hide cN1
  have HC2 := hide cN2
  clear K KN hE gi hWb hWs cN1 cN2 hx1 hx2
  go_enter Tryz.func15, Tryz.ntmps15
  go_upto_region 1 with fail
  go_cut [4] (fun v wx => ∃ w1 p, v = .pointer (some ⟨w1.heap.size, 0, none⟩) ∧ wx = w1.alloc (.cells #[.pointer (some ⟨p, 0, none⟩), .int .i64 ((pn + 1 : Nat) : Int), .slice none 0 0, .slice none 0 0, .slice none 0 0, .slice none 0 0] 35) ∧ Hp R N A W.heap.size W (fun _ => False) w1 p Tm.b4)
  case first =>
    subst eW
    have hw1 : IntKind.i64.wrap (1 + (pn : Int)) = 1 + (pn : Int) := IntWalk.i64_in _ (by omega)
    have cNW : (w.alloc (.cells #[.int .i64 xn, .slice pv nv cv, .slice pr nr cr] 28)).cell? ⟨w.heap.size, 0, none⟩ = some (.int .i64 xn) := (World.cell?_alloc_at _ _ _ _ rfl).trans rfl
    go_region_with (first
      | (go_at_call 24
         refine HBg.out.mono ?_
         rintro e w1 ⟨p, rfl, xb⟩
         have c1 : w1.cell? ⟨w.heap.size, 0, none⟩ = some (.int .i64 xn) := by rw [xb.below.cell (by show w.heap.size < _; rw [HWs.out]; omega)]; exact cN0
         have HXb := hide xb
         clear xb)
      | (go_at_call 16
         refine (HPz.out _).mono ?_
         rintro e w9 ⟨rfl, h9⟩
         rw [h9]
         clear h9))
    all_goals go_wp2_with fail
    all_goals go_meet
    all_goals exact ⟨w1, p, rfl, by rw [show ((pn + 1 : Nat) : Int) = 1 + (pn : Int) by push_cast; omega], HXb.out⟩
  case rest =>
    obtain ⟨w1, p, rfl, hwx, xb⟩ := hcut
    obtain ⟨vF, hvF⟩ : ∃ vF : Nat → Int, ∀ i, vF i = if i < nv then (pickN (V i) 1000000001 : Int) else 0 := ⟨_, fun _ => rfl⟩
    have HVF := hide hvF
    have st0 : LayS R N A W w1.heap.size (pn + 1) 0 0 1 1 vF (fun _ _ => -1) p wc := by
      refine ⟨Tm.b4, Tm.gd0, ⟨none, 0, 0, 0, gF0 0⟩, ⟨none, 0, 0, 0, gF1⟩, ⟨none, 0, 0, 0, gF2 vF⟩, ⟨none, 0, 0, 0, gF3 fun _ _ => -1⟩, ?_, Gh.b4, LayD.first, rfl, rfl, rfl, ⟨rfl, rfl, rfl, rfl⟩, ⟨rfl, rfl, rfl, rfl⟩, fun j hj => absurd hj (Nat.not_lt_zero _)⟩
      rw [hwx]
      exact Gst.first HK.out.ok xb (pn + 1) (gF0 0) gF1 (gF2 vF) (gF3 fun _ _ => -1)
    have HS0 := hide st0
    have HC1' : Hid (∀ W', Below W.heap.size W W' → W'.cell? ⟨w.heap.size, 1, none⟩ = some (.slice pv nv cv) ∧ W'.cell? ⟨w.heap.size, 2, none⟩ = some (.slice pr nr cr)) := fun W' hb => ⟨by rw [hb.cell (by show w.heap.size < _; rw [HWs.out]; omega)]; exact HC1.out, by rw [hb.cell (by show w.heap.size < _; rw [HWs.out]; omega)]; exact HC2.out⟩
    have cH0 : wc.cell? ⟨w1.heap.size, 0, none⟩ = some (.pointer (some ⟨p, 0, none⟩)) := by
      obtain ⟨_, _, _, _, _, _, q, _⟩ := st0
      exact q.gm.h
    clear st0 hvF hwx xb HBg HPz cN0 eW
    generalize w1.heap.size = gb at *
    go_wp2_with fail
    go_loopw [5, 6, 7, 8, 9, 10, 11] (fun iv _ _ _ _ _ _ w' => ∃ i : Nat, i ≤ pn + 1 ∧ iv = .int .i64 i ∧ LayS R N A W gb (pn + 1) 0 i 1 1 vF (fun _ _ => -1) p w') (fun iv _ _ _ _ _ _ _ => pn + 1 - (intOf iv).toNat)
    case atStart => exact ⟨0, by omega, rfl, HS0.out⟩
    case round =>
      clear HS0 cH0
      obtain ⟨i, hi, rfl, h, d, r0, r1, r2, r3, st, g, l, hdb, hdf, hrs, ⟨hn0, hn1, hn2, hn3⟩, ⟨hf0, hf1, hf2, hf3⟩, hvs⟩ := hrel
      have HSt := hide st
      have cN := st.gm.num
      have cH := st.gm.h
      by_cases hlt : i < pn + 1
      · have bi : (i : Int) < ((pn + 1 : Nat) : Int) := by omega
        obtain ⟨M, hM⟩ := Tm.marked_exists h
        have hvb : 0 ≤ vF i ∧ vF i ≤ 1000000000 := by
          rw [HVF.out]
          split
          · have := pickN_lt (V i) 1000000001 (by omega); omega
          · omega
        obtain ⟨h1, h2, h3, e1, e2, e3, g3⟩ := l.step g (by omega) (by omega) M (vF i) hvb
        have hmk := st.hp.make HK.out st.size hM (by rw [g.len]; have := g.few; have := g.bl; omega) (by rw [g.cls]; decide) 0
        rw [e1] at hmk
        have HMk := hide hmk
        have HG3 := hide g3
        have HL := hide l
        have HE2 := hide e2
        have HE3 := hide e3
        have hzb : Tm.hand 1 (0 + i) (Tm.lg (0 + i)) < 9223372036854775808 := by have := Tm.lg_bd (0 + i); unfold Tm.hand; omega
        have HVs := hide hvs
        have HRs := hide hrs
        have HF0 : Hid (∀ q v, [Value.int .i64 (Tm.hand 1 (0 + i) (Tm.lg (0 + i)))][q]? = some v → r0.f (r0.n * gsz 0 + q) = v) := fun q v hq => by
          match q, hq with
          | 0, hq => simp at hq; subst hq; show r0.f (r0.n * 1 + 0) = _; rw [hf0, hn0, Nat.mul_one]; simp [gF0]
        have HF1 : Hid (∀ q v, [Value.int .i64 (Tm.hand 3 i 1)][q]? = some v → r1.f (r1.n * gsz 1 + q) = v) := fun q v hq => by
          match q, hq with
          | 0, hq => simp at hq; subst hq; show r1.f (r1.n * 1 + 0) = _; rw [hf1, hn1, Nat.mul_one]; rfl
        have HF2 : Hid (∀ q v, [Value.int .i64 (vF i)][q]? = some v → r2.f (r2.n * gsz 2 + q) = v) := fun q v hq => by
          match q, hq with
          | 0, hq => simp at hq; subst hq; show r2.f (r2.n * 1 + 0) = _; rw [hf2, hn2, Nat.mul_one]; rfl
        have HF3 : Hid (∀ q v, [Value.int .i64 (-1), Value.int .i64 (-1)][q]? = some v → r3.f (r3.n * gsz 3 + q) = v) := fun q v hq => by
          match q, hq with
          | 0, hq => simp at hq; subst hq; rw [hf3]; rfl
          | 1, hq => simp at hq; subst hq; rw [hf3]; rfl
        have HNext : Hid (∀ (b0 c0 b1 c1 b2 c2 b3 c3 : Nat) wN, Gst R N A W (fun _ => False) gb (pn + 1) (rows4 ⟨some ⟨b0, 0, none⟩, i + 1, c0, b0, r0.f⟩ ⟨some ⟨b1, 0, none⟩, i + 1, c1, b1, r1.f⟩ ⟨some ⟨b2, 0, none⟩, i + 1, c2, b2, r2.f⟩ ⟨some ⟨b3, 0, none⟩, i + 1, c3, b3, r3.f⟩) wN p h3 → LayS R N A W gb (pn + 1) 0 (i + 1) 1 1 vF (fun _ _ => -1) p wN) := fun b0 c0 b1 c1 b2 c2 b3 c3 wN stN => by
          refine ⟨h3, _, _, _, _, _, stN, HG3.out, (HL.out.laid (by omega)).vs _, hdb, hdf, ?_, ⟨rfl, rfl, rfl, rfl⟩, ⟨hf0, hf1, hf2, hf3⟩, fun j hj => ?_⟩
          · show Tm.up d.rs d.n (fun _ => -1) = _
            rw [HRs.out]
            funext a c
            unfold Tm.up
            split <;> rfl
          · show Tm.up d.vs i (vF i) j = vF j
            by_cases e : j = i
            · subst e; rw [Tm.up_at]
            · rw [Tm.up_ne _ _ _ _ e]; exact HVs.out j (by omega)
        clear st g l hM hmk g3 e1 e2 e3 hvs hrs hf0 hf1 hf2 hf3
        have HN0 := hide hn0
        have HN1 := hide hn1
        have HN2 := hide hn2
        have HN3 := hide hn3
        clear hn0 hn1 hn2 hn3
        generalize Tm.hand 1 (0 + i) (Tm.lg (0 + i)) = z at *
        generalize Tm.hand 3 i 1 = zw at *
        go_wp2_with fail
        refine HMk.out.mono ?_
        rintro e w2 ⟨ev, rfl, he, x2, hz2, hk2⟩
        obtain rfl := he.nil rfl
        have st2 := HSt.out.call x2 hz2 hk2
        have HS2 := hide st2
        have cH2 := st2.gm.h
        obtain ⟨cx1, cx2⟩ := HC1'.out w2 x2.below
        have hst := st2.hp.set HK.out st2.size z 0 (vF i) hzb
        rw [HE2.out] at hst
        have HSet := hide hst
        have HB2 := hide x2.below
        clear he x2 hz2 hk2 st2 hst HMk cH
        by_cases hiv : i < nv
        · have biv : (i : Int) < (nv : Int) := by omega
          obtain ⟨gv, ov, rfl, hgv, hcv⟩ := HGi.out.v (by omega)
          have hvr := HGi.out.vr i hiv
          have cvi : w2.cell? ⟨gv, ov + i, none⟩ = some (.int .i64 (V i)) := by rw [HB2.out.cell (by show gv < _; rw [HWs.out]; omega), HWb.out.cell hgv]; exact hcv i hiv
          have hvFi := HVF.out i
          rw [if_pos hiv] at hvFi
          rw [hvFi] at HSet hvb HF2
          have HPv := hide (fun w' => kpick_is (V i) 1000000001 w' (by omega) (by omega) hvr.1 hvr.2)
          have HVi := hide hvFi
          clear hcv hvr hvFi
          generalize V i = vi at *
          generalize pickN vi 1000000001 = vp at *
          go_wp2_with fail
          refine (HPv.out _).mono ?_
          rintro e w9 ⟨rfl, h9⟩
          rw [h9]
          clear h9
          go_wp2_with fail
          refine HSet.out.mono ?_
          rintro e w3 ⟨ev, rfl, he, x3, hz3, hk3⟩
          obtain rfl := he.nil rfl
          have st3 := HS2.out.call x3 hz3 hk3
          have HS3 := hide st3
          have cH3 := st3.gm.h
          have hrf := st3.hp.ref HK.out st3.size 3 z hzb
          rw [HE3.out] at hrf
          have HRf := hide hrf
          clear he x3 hz3 hk3 st3 hrf HSet cH2
          go_wp2_with fail
          refine HRf.out.mono ?_
          rintro e w4 ⟨ev, rfl, he, x4, hz4, hk4⟩
          obtain rfl := he.nil rfl
          have st4 := HS3.out.call x4 hz4 hk4
          have HS4 := hide st4
          have c40 : w4.cell? ⟨gb, 2, none⟩ = some (.slice r0.p r0.n r0.c) := st4.gm.head 0 (by omega)
          rw [HN0.out] at c40
          clear he x4 hz4 hk4 st4 HRf cH3
          go_wp2_with (first
            | (at_builtin; refine wpList_app1 _ rfl _ _ rfl r0 i HN0.out.symm rfl (HS4.out.rowA 0 (by omega) _) (by omega) ⟨w4.heap.size, 0, none⟩ 1 z rfl (by rw [World.cell?_alloc_at _ _ _ _ (by simp)]; rfl) ?_)
            | fail)
          intro w5 b5 c5 ap5
          have hg5 := HS4.out.behind (Below.alloc0 w4 _) 0 (by omega) ap5
          have c50 : w5.cell? ⟨gb, 2, none⟩ = some (.slice r0.p i r0.c) := by rw [cell_of hg5]; exact c40
          have f50 : w5.frozen? ⟨gb, 2, none⟩ = false := by rw [frozen_of hg5]; exact HS4.out.gm.soft 2
          have st5 := HS4.out.app HK.out.ok (Below.alloc0 w4 _) 0 (by omega) ap5 rfl HF0.out
          rw [rows4_up0, show ((rows4 r0 r1 r2 r3) 0).n = i from HN0.out] at st5
          have st5' : Gst R N A W (fun _ => False) gb (pn + 1) (rows4 ⟨some ⟨b5, 0, none⟩, i + 1, c5, b5, r0.f⟩ r1 r2 r3) (w5.setCell ⟨gb, 2, none⟩ (.slice (some ⟨b5, 0, none⟩) (i + 1) c5)) p h3 := st5
          have HS5 := hide st5'
          have c51 : (w5.setCell ⟨gb, 2, none⟩ (.slice (some ⟨b5, 0, none⟩) (i + 1) c5)).cell? ⟨gb, 3, none⟩ = some (.slice r1.p r1.n r1.c) := st5'.gm.head 1 (by omega)
          rw [HN1.out] at c51
          have c51' := c51
          rw [World.cell?_setCell_other _ _ _ _ (by simp)] at c51'
          clear ap5 hg5 st5 st5' c40
          go_wp2_with (first
            | (at_builtin; refine wpList_app1 _ rfl _ _ rfl r1 i HN1.out.symm rfl (HS5.out.rowA 1 (by omega) _) (by omega) ⟨w5.heap.size, 0, none⟩ 1 zw (by simp [Act.eval]) (cell_new1 _ _ _ _ (World.size_setCell _ _ _).symm) ?_)
            | fail)
          intro w6 b6 c6 ap6
          have hg6 := HS5.out.behind (Below.alloc0 _ _) 1 (by omega) ap6
          have c61 : w6.cell? ⟨gb, 3, none⟩ = some (.slice r1.p i r1.c) := by rw [cell_of hg6]; exact c51
          have f61 : w6.frozen? ⟨gb, 3, none⟩ = false := by rw [frozen_of hg6]; exact HS5.out.gm.soft 3
          have st6 := HS5.out.app HK.out.ok (Below.alloc0 _ _) 1 (by omega) ap6 rfl HF1.out
          rw [rows4_up1, show ((rows4 ⟨some ⟨b5, 0, none⟩, i + 1, c5, b5, r0.f⟩ r1 r2 r3) 1).n = i from HN1.out] at st6
          have st6' : Gst R N A W (fun _ => False) gb (pn + 1) (rows4 ⟨some ⟨b5, 0, none⟩, i + 1, c5, b5, r0.f⟩ ⟨some ⟨b6, 0, none⟩, i + 1, c6, b6, r1.f⟩ r2 r3) (w6.setCell ⟨gb, 3, none⟩ (.slice (some ⟨b6, 0, none⟩) (i + 1) c6)) p h3 := st6
          have HS6 := hide st6'
          have c62 : (w6.setCell ⟨gb, 3, none⟩ (.slice (some ⟨b6, 0, none⟩) (i + 1) c6)).cell? ⟨gb, 4, none⟩ = some (.slice r2.p r2.n r2.c) := st6'.gm.head 2 (by omega)
          rw [HN2.out] at c62
          have c62' := c62
          rw [World.cell?_setCell_other _ _ _ _ (by simp)] at c62'
          clear ap6 hg6 st6 st6' c51 c51' HS5 c50 f50
          go_wp2_with (first
            | (at_builtin; refine wpList_app1 _ rfl _ _ rfl r2 i HN2.out.symm rfl (HS6.out.rowA 2 (by omega) _) (by omega) ⟨w6.heap.size, 0, none⟩ 1 (vp : Int) (by simp [Act.eval]) (cell_new1 _ _ _ _ (World.size_setCell _ _ _).symm) ?_)
            | fail)
          intro w7 b7 c7 ap7
          have hg7 := HS6.out.behind (Below.alloc0 _ _) 2 (by omega) ap7
          have c72 : w7.cell? ⟨gb, 4, none⟩ = some (.slice r2.p i r2.c) := by rw [cell_of hg7]; exact c62
          have f72 : w7.frozen? ⟨gb, 4, none⟩ = false := by rw [frozen_of hg7]; exact HS6.out.gm.soft 4
          have st7 := HS6.out.app HK.out.ok (Below.alloc0 _ _) 2 (by omega) ap7 rfl HF2.out
          rw [rows4_up2, show ((rows4 ⟨some ⟨b5, 0, none⟩, i + 1, c5, b5, r0.f⟩ ⟨some ⟨b6, 0, none⟩, i + 1, c6, b6, r1.f⟩ r2 r3) 2).n = i from HN2.out] at st7
          have st7' : Gst R N A W (fun _ => False) gb (pn + 1) (rows4 ⟨some ⟨b5, 0, none⟩, i + 1, c5, b5, r0.f⟩ ⟨some ⟨b6, 0, none⟩, i + 1, c6, b6, r1.f⟩ ⟨some ⟨b7, 0, none⟩, i + 1, c7, b7, r2.f⟩ r3) (w7.setCell ⟨gb, 4, none⟩ (.slice (some ⟨b7, 0, none⟩) (i + 1) c7)) p h3 := st7
          have HS7 := hide st7'
          have c73 : (w7.setCell ⟨gb, 4, none⟩ (.slice (some ⟨b7, 0, none⟩) (i + 1) c7)).cell? ⟨gb, 5, none⟩ = some (.slice r3.p r3.n r3.c) := st7'.gm.head 3 (by omega)
          rw [HN3.out] at c73
          have c73' := c73
          rw [World.cell?_setCell_other _ _ _ _ (by simp)] at c73'
          clear ap7 hg7 st7 st7' c62 c62' HS6 c61 f61
          go_wp2_with (first
            | (at_builtin; refine wpList_app2 _ rfl _ _ rfl r3 i HN3.out.symm rfl (HS7.out.rowA 3 (by omega) _) (by omega) ⟨w7.heap.size, 0, none⟩ 1 (-1) (-1) (by simp [Act.eval]) (cell_new2 _ _ _ _ _ (World.size_setCell _ _ _).symm).1 (cell_new2 _ _ _ _ _ (World.size_setCell _ _ _).symm).2 ?_)
            | fail)
          intro w8 b8 c8 ap8
          have hg8 := HS7.out.behind (Below.alloc0 _ _) 3 (by omega) ap8
          have c83 : w8.cell? ⟨gb, 5, none⟩ = some (.slice r3.p i r3.c) := by rw [cell_of hg8]; exact c73
          have f83 : w8.frozen? ⟨gb, 5, none⟩ = false := by rw [frozen_of hg8]; exact HS7.out.gm.soft 5
          have st8 := HS7.out.app HK.out.ok (Below.alloc0 _ _) 3 (by omega) ap8 rfl HF3.out
          rw [show ((rows4 ⟨some ⟨b5, 0, none⟩, i + 1, c5, b5, r0.f⟩ ⟨some ⟨b6, 0, none⟩, i + 1, c6, b6, r1.f⟩ ⟨some ⟨b7, 0, none⟩, i + 1, c7, b7, r2.f⟩ r3) 3).n = i from HN3.out] at st8
          have HEnd : Hid (LayS R N A W gb (pn + 1) 0 (i + 1) 1 1 vF (fun _ _ => -1) p (w8.setCell ⟨gb, 5, none⟩ (.slice (some ⟨b8, 0, none⟩) (i + 1) c8))) := HNext.out _ _ _ _ _ _ _ _ _ (st8.four (rows4_up3 _ _ _ _ _))
          clear ap8 hg8 st8 c73 c73' HS7 c72 f72
          go_wp2_with fail
          go_roundw
          case rel => exact ⟨i + 1, by omega, by go_num, HEnd.out⟩
          case measure => simp [intOf]; omega
        · have biv : ¬ (i : Int) < (nv : Int) := by omega
          have hvFi := HVF.out i
          rw [if_neg hiv] at hvFi
          rw [hvFi] at HSet hvb HF2
          clear hvFi
          go_wp2_with fail
          refine HSet.out.mono ?_
          rintro e w3 ⟨ev, rfl, he, x3, hz3, hk3⟩
          obtain rfl := he.nil rfl
          have st3 := HS2.out.call x3 hz3 hk3
          have HS3 := hide st3
          have cH3 := st3.gm.h
          have hrf := st3.hp.ref HK.out st3.size 3 z hzb
          rw [HE3.out] at hrf
          have HRf := hide hrf
          clear he x3 hz3 hk3 st3 hrf HSet cH2
          go_wp2_with fail
          refine HRf.out.mono ?_
          rintro e w4 ⟨ev, rfl, he, x4, hz4, hk4⟩
          obtain rfl := he.nil rfl
          have st4 := HS3.out.call x4 hz4 hk4
          have HS4 := hide st4
          have c40 : w4.cell? ⟨gb, 2, none⟩ = some (.slice r0.p r0.n r0.c) := st4.gm.head 0 (by omega)
          rw [HN0.out] at c40
          clear he x4 hz4 hk4 st4 HRf cH3
          go_wp2_with (first
            | (at_builtin; refine wpList_app1 _ rfl _ _ rfl r0 i HN0.out.symm rfl (HS4.out.rowA 0 (by omega) _) (by omega) ⟨w4.heap.size, 0, none⟩ 1 z rfl (by rw [World.cell?_alloc_at _ _ _ _ (by simp)]; rfl) ?_)
            | fail)
          intro w5 b5 c5 ap5
          have hg5 := HS4.out.behind (Below.alloc0 w4 _) 0 (by omega) ap5
          have c50 : w5.cell? ⟨gb, 2, none⟩ = some (.slice r0.p i r0.c) := by rw [cell_of hg5]; exact c40
          have f50 : w5.frozen? ⟨gb, 2, none⟩ = false := by rw [frozen_of hg5]; exact HS4.out.gm.soft 2
          have st5 := HS4.out.app HK.out.ok (Below.alloc0 w4 _) 0 (by omega) ap5 rfl HF0.out
          rw [rows4_up0, show ((rows4 r0 r1 r2 r3) 0).n = i from HN0.out] at st5
          have st5' : Gst R N A W (fun _ => False) gb (pn + 1) (rows4 ⟨some ⟨b5, 0, none⟩, i + 1, c5, b5, r0.f⟩ r1 r2 r3) (w5.setCell ⟨gb, 2, none⟩ (.slice (some ⟨b5, 0, none⟩) (i + 1) c5)) p h3 := st5
          have HS5 := hide st5'
          have c51 : (w5.setCell ⟨gb, 2, none⟩ (.slice (some ⟨b5, 0, none⟩) (i + 1) c5)).cell? ⟨gb, 3, none⟩ = some (.slice r1.p r1.n r1.c) := st5'.gm.head 1 (by omega)
          rw [HN1.out] at c51
          have c51' := c51
          rw [World.cell?_setCell_other _ _ _ _ (by simp)] at c51'
          clear ap5 hg5 st5 st5' c40
          go_wp2_with (first
            | (at_builtin; refine wpList_app1 _ rfl _ _ rfl r1 i HN1.out.symm rfl (HS5.out.rowA 1 (by omega) _) (by omega) ⟨w5.heap.size, 0, none⟩ 1 zw (by simp [Act.eval]) (cell_new1 _ _ _ _ (World.size_setCell _ _ _).symm) ?_)
            | fail)
          intro w6 b6 c6 ap6
          have hg6 := HS5.out.behind (Below.alloc0 _ _) 1 (by omega) ap6
          have c61 : w6.cell? ⟨gb, 3, none⟩ = some (.slice r1.p i r1.c) := by rw [cell_of hg6]; exact c51
          have f61 : w6.frozen? ⟨gb, 3, none⟩ = false := by rw [frozen_of hg6]; exact HS5.out.gm.soft 3
          have st6 := HS5.out.app HK.out.ok (Below.alloc0 _ _) 1 (by omega) ap6 rfl HF1.out
          rw [rows4_up1, show ((rows4 ⟨some ⟨b5, 0, none⟩, i + 1, c5, b5, r0.f⟩ r1 r2 r3) 1).n = i from HN1.out] at st6
          have st6' : Gst R N A W (fun _ => False) gb (pn + 1) (rows4 ⟨some ⟨b5, 0, none⟩, i + 1, c5, b5, r0.f⟩ ⟨some ⟨b6, 0, none⟩, i + 1, c6, b6, r1.f⟩ r2 r3) (w6.setCell ⟨gb, 3, none⟩ (.slice (some ⟨b6, 0, none⟩) (i + 1) c6)) p h3 := st6
          have HS6 := hide st6'
          have c62 : (w6.setCell ⟨gb, 3, none⟩ (.slice (some ⟨b6, 0, none⟩) (i + 1) c6)).cell? ⟨gb, 4, none⟩ = some (.slice r2.p r2.n r2.c) := st6'.gm.head 2 (by omega)
          rw [HN2.out] at c62
          have c62' := c62
          rw [World.cell?_setCell_other _ _ _ _ (by simp)] at c62'
          clear ap6 hg6 st6 st6' c51 c51' HS5 c50 f50
          go_wp2_with (first
            | (at_builtin; refine wpList_app1 _ rfl _ _ rfl r2 i HN2.out.symm rfl (HS6.out.rowA 2 (by omega) _) (by omega) ⟨w6.heap.size, 0, none⟩ 1 0 (by simp [Act.eval]) (cell_new1 _ _ _ _ (World.size_setCell _ _ _).symm) ?_)
            | fail)
          intro w7 b7 c7 ap7
          have hg7 := HS6.out.behind (Below.alloc0 _ _) 2 (by omega) ap7
          have c72 : w7.cell? ⟨gb, 4, none⟩ = some (.slice r2.p i r2.c) := by rw [cell_of hg7]; exact c62
          have f72 : w7.frozen? ⟨gb, 4, none⟩ = false := by rw [frozen_of hg7]; exact HS6.out.gm.soft 4
          have st7 := HS6.out.app HK.out.ok (Below.alloc0 _ _) 2 (by omega) ap7 rfl HF2.out
          rw [rows4_up2, show ((rows4 ⟨some ⟨b5, 0, none⟩, i + 1, c5, b5, r0.f⟩ ⟨some ⟨b6, 0, none⟩, i + 1, c6, b6, r1.f⟩ r2 r3) 2).n = i from HN2.out] at st7
          have st7' : Gst R N A W (fun _ => False) gb (pn + 1) (rows4 ⟨some ⟨b5, 0, none⟩, i + 1, c5, b5, r0.f⟩ ⟨some ⟨b6, 0, none⟩, i + 1, c6, b6, r1.f⟩ ⟨some ⟨b7, 0, none⟩, i + 1, c7, b7, r2.f⟩ r3) (w7.setCell ⟨gb, 4, none⟩ (.slice (some ⟨b7, 0, none⟩) (i + 1) c7)) p h3 := st7
          have HS7 := hide st7'
          have c73 : (w7.setCell ⟨gb, 4, none⟩ (.slice (some ⟨b7, 0, none⟩) (i + 1) c7)).cell? ⟨gb, 5, none⟩ = some (.slice r3.p r3.n r3.c) := st7'.gm.head 3 (by omega)
          rw [HN3.out] at c73
          have c73' := c73
          rw [World.cell?_setCell_other _ _ _ _ (by simp)] at c73'
          clear ap7 hg7 st7 st7' c62 c62' HS6 c61 f61
          go_wp2_with (first
            | (at_builtin; refine wpList_app2 _ rfl _ _ rfl r3 i HN3.out.symm rfl (HS7.out.rowA 3 (by omega) _) (by omega) ⟨w7.heap.size, 0, none⟩ 1 (-1) (-1) (by simp [Act.eval]) (cell_new2 _ _ _ _ _ (World.size_setCell _ _ _).symm).1 (cell_new2 _ _ _ _ _ (World.size_setCell _ _ _).symm).2 ?_)
            | fail)
          intro w8 b8 c8 ap8
          have hg8 := HS7.out.behind (Below.alloc0 _ _) 3 (by omega) ap8
          have c83 : w8.cell? ⟨gb, 5, none⟩ = some (.slice r3.p i r3.c) := by rw [cell_of hg8]; exact c73
          have f83 : w8.frozen? ⟨gb, 5, none⟩ = false := by rw [frozen_of hg8]; exact HS7.out.gm.soft 5
          have st8 := HS7.out.app HK.out.ok (Below.alloc0 _ _) 3 (by omega) ap8 rfl HF3.out
          rw [show ((rows4 ⟨some ⟨b5, 0, none⟩, i + 1, c5, b5, r0.f⟩ ⟨some ⟨b6, 0, none⟩, i + 1, c6, b6, r1.f⟩ ⟨some ⟨b7, 0, none⟩, i + 1, c7, b7, r2.f⟩ r3) 3).n = i from HN3.out] at st8
          have HEnd : Hid (LayS R N A W gb (pn + 1) 0 (i + 1) 1 1 vF (fun _ _ => -1) p (w8.setCell ⟨gb, 5, none⟩ (.slice (some ⟨b8, 0, none⟩) (i + 1) c8))) := HNext.out _ _ _ _ _ _ _ _ _ (st8.four (rows4_up3 _ _ _ _ _))
          clear ap8 hg8 st8 c73 c73' HS7 c72 f72
          go_wp2_with fail
          go_roundw
          case rel => exact ⟨i + 1, by omega, by go_num, HEnd.out⟩
          case measure => simp [intOf]; omega
      · have bi : ¬ (i : Int) < ((pn + 1 : Nat) : Int) := by omega
        obtain rfl : i = pn + 1 := by omega
        have HS1 : Hid (LayS R N A W gb (pn + 1) 0 (pn + 1) 1 1 vF (fun _ _ => -1) p wr) := ⟨h, d, r0, r1, r2, r3, st, g, l, hdb, hdf, hrs, ⟨hn0, hn1, hn2, hn3⟩, ⟨hf0, hf1, hf2, hf3⟩, hvs⟩
        clear HSt st g l hdb hdf hrs hn0 hn1 hn2 hn3 hf0 hf1 hf2 hf3 hvs cH
        go_wp2_with fail
        go_loopw [12, 13, 14, 15, 16] (fun iv _ _ _ _ w' => ∃ (i : Nat) (rs : Nat → Nat → Int), i ≤ pn + 1 ∧ iv = .int .i64 i ∧ LayS R N A W gb (pn + 1) 0 (pn + 1) 1 1 vF rs p w' ∧ ∀ a c, i ≤ a → rs a c = -1) (fun iv _ _ _ _ _ => pn + 1 - (intOf iv).toNat)
        case atStart => exact ⟨0, fun _ _ => -1, by omega, rfl, HS1.out, fun _ _ _ => rfl⟩
        case round =>
          clear HS1 cN
          obtain ⟨i, rs, hi, rfl, ls, hrm⟩ := hrel
          have HLs := hide ls
          have HRm := hide hrm
          have cN : wr.cell? ⟨gb, 1, none⟩ = some (.int .i64 ((pn + 1 : Nat) : Int)) := by
            obtain ⟨_, _, _, _, _, _, q, _⟩ := ls
            exact q.gm.num
          have hbl : Below W.heap.size W wr := by
            obtain ⟨_, _, _, _, _, _, q, _⟩ := ls
            exact q.hp.below
          obtain ⟨cx1, cx2⟩ := HC1'.out wr hbl
          clear ls hrm hbl cx1
          by_cases hgo : i < pn + 1 ∧ i < nr
          · have bi1 : (i : Int) < (pn : Int) + 1 := by omega
            have bi2 : (i : Int) < (nr : Int) := by omega
            go_wp2_with fail
            go_loopw [13, 14, 15, 16] (fun kv _ _ _ w' => ∃ (k : Nat) (rs : Nat → Nat → Int), k ≤ 2 ∧ kv = .int .i64 k ∧ LayS R N A W gb (pn + 1) 0 (pn + 1) 1 1 vF rs p w' ∧ (∀ a c, i < a → rs a c = -1) ∧ ∀ c, k ≤ c → rs i c = -1) (fun kv _ _ _ _ => 2 - (intOf kv).toNat)
            case atStart => exact ⟨0, rs, by omega, rfl, HLs.out, fun a c ha => HRm.out a c (by omega), fun c _ => HRm.out i c (Nat.le_refl _)⟩
            case round =>
              clear HLs HRm cN cx2
              obtain ⟨k, rs, hk, rfl, ls, hr1, hr2⟩ := hrel
              have HLs := hide ls
              have HR1 := hide hr1
              have HR2 := hide hr2
              clear hr1 hr2
              by_cases hk2 : k < 2
              · have bk : (k : Int) < 2 := by omega
                obtain ⟨h, d, r0, r1, r2, r3, st, g, l, hdb, hdf, hrs, ⟨hn0, hn1, hn2, hn3⟩, ⟨hf0, hf1, hf2, hf3⟩, hvs⟩ := ls
                obtain ⟨gr, or, epr, hgr, hcr⟩ := HGi.out.r (by omega)
                have hrr := HGi.out.rr i k hgo.2 hk2
                obtain ⟨_, cx2⟩ := HC1'.out wr st.hp.below
                have cN := st.gm.num
                have crf : wr.cell? ⟨gr, or + i * 2 + k, none⟩ = some (.int .i64 (Rf i k)) := by rw [st.hp.below.cell (by show gr < _; rw [HWs.out]; omega), HWb.out.cell hgr]; exact hcr i hgo.2 k hk2
                rw [epr] at cx2
                obtain ⟨t, et, ht⟩ := pickY_nat (Rf i k) ((pn : Int) + 1 + 1) (by omega)
                have HPt := hide (fun w' => kpick_y (Rf i k) ((pn : Int) + 1 + 1) w' (by omega) (by omega) hrr.1 hrr.2)
                have htn : t ≤ pn + 1 := by omega
                obtain ⟨h2, ep, g2⟩ := l.point g (by omega) i k (by omega) hk2 t htn
                have HSt := hide st
                have HG2 := hide g2
                have HEp := hide ep
                have HL := hide l
                have HNs : Hid (r0.n = pn + 1 ∧ r1.n = pn + 1 ∧ r2.n = pn + 1 ∧ r3.n = pn + 1) := ⟨hn0, hn1, hn2, hn3⟩
                have HFs : Hid (r0.f = gF0 0 ∧ r1.f = gF1 ∧ r2.f = gF2 vF ∧ r3.f = gF3 rs) := ⟨hf0, hf1, hf2, hf3⟩
                have HVs := hide hvs
                have HDb : Hid (d.b = 1 ∧ d.f = 1 ∧ d.rs = rs) := ⟨hdb, hdf, hrs⟩
                clear st g l hcr g2 ep hn0 hn1 hn2 hn3 hf0 hf1 hf2 hf3 hvs hdb hdf hrs hrr HLs
                generalize Rf i k = rf at *
                go_upto_region 25 with fail
                go_cut [14] (fun v wx => v = .int .i64 (t : Int) ∧ Gst R N A W (fun _ => False) gb (pn + 1) (rows4 r0 r1 r2 r3) wx p h)
                case first =>
                  go_quiet ((go_at_call 16; exact Calls.quiet_of_same (HPt.out _)))
                  all_goals go_wp2_with fail
                  all_goals go_meet
                  all_goals exact ⟨by rw [et], HSt.out.dn HK.out.ok (below_dN (Below.refl _ _) _)⟩
                case rest =>
                  obtain ⟨rfl, st⟩ := hcut
                  have cN2 := st.gm.num
                  have HSc := hide st
                  clear st cx2 cN crf HSt HPt et epr
                  have HLb : Hid (∀ W' h' r3', Gst R N A W (fun _ => False) gb (pn + 1) (rows4 r0 r1 r2 r3') W' p h' → W'.cell? ⟨gb, 0, none⟩ = some (.pointer (some ⟨p, 0, none⟩)) ∧ W'.cell? ⟨gb, 2, none⟩ = some (.slice (some ⟨r0.b, 0, none⟩) (pn + 1) r0.c) ∧ ∀ j, j < pn + 1 → W'.cell? ⟨r0.b, j, none⟩ = some (.int .i64 (Tm.hand 1 (0 + j) (Tm.lg (0 + j))))) := fun W' h' r3' q => by
                    obtain ⟨q1, q2⟩ := q.gm.read 0 (by omega) (by show r0.n = _; exact HNs.out.1) (by omega)
                    refine ⟨q.gm.h, q1, fun j hj => ?_⟩
                    have := q2 j (by show j < (pn + 1) * 1; omega)
                    exact this.trans (by show some (r0.f j) = _; rw [HFs.out.1]; rfl)
                  by_cases htl : t < pn + 1
                  · have btl : (t : Int) < (pn : Int) + 1 := by omega
                    obtain ⟨c0, c2, cl⟩ := HLb.out wc h r3 HSc.out
                    have clt := cl t htl
                    obtain ⟨cR, hcR⟩ := HSc.out.gm.read 3 (by omega) (by show r3.n = _; exact HNs.out.2.2.2) (by omega)
                    have cR' : wc.cell? ⟨gb, 5, none⟩ = some (.slice (some ⟨r3.b, 0, none⟩) (pn + 1) r3.c) := cR
                    have cRt : wc.cell? ⟨r3.b, i * 2 + k, none⟩ = some (r3.f (i * 2 + k)) := hcR (i * 2 + k) (by show i * 2 + k < (pn + 1) * 2; omega)
                    have hq3 : i * 2 + k < ((rows4 r0 r1 r2 r3) 3).n * 2 := by show i * 2 + k < r3.n * 2; rw [HNs.out.2.2.2]; omega
                    have fR : wc.frozen? ⟨r3.b, i * 2 + k, none⟩ = false := (HSc.out.gm.ref (i * 2 + k) hq3 (.int .i64 (t : Int))).2
                    have st3 := (HSc.out.ref HK.out.ok (i * 2 + k) hq3 (.int .i64 (t : Int))).four (rows4_up3 r0 r1 r2 r3 _)
                    have st3' : Gst R N A W (fun _ => False) gb (pn + 1) (rows4 r0 r1 r2 { r3 with f := Tm.up r3.f (i * 2 + k) (.int .i64 (t : Int)) }) (wc.setCell ⟨r3.b, i * 2 + k, none⟩ (.int .i64 (t : Int))) p h := st3
                    obtain ⟨d0, d2, dl⟩ := HLb.out _ h _ st3'
                    have dli := dl i hgo.1
                    have xD : Gst R N A W (fun _ => False) gb (pn + 1) (rows4 r0 r1 r2 { r3 with f := Tm.up r3.f (i * 2 + k) (.int .i64 (t : Int)) }) (wc.setCell ⟨r3.b, i * 2 + k, none⟩ (.int .i64 (t : Int))).drew p h := st3'.dn HK.out.ok ⟨rfl, rfl, rfl, Nat.le_refl _, fun _ _ => rfl⟩
                    have hep := HEp.out
                    rw [if_pos htl] at hep
                    have hg2 := HG2.out
                    rw [if_pos htl] at hg2
                    have hzi : Tm.hand 1 (0 + i) (Tm.lg (0 + i)) < 9223372036854775808 := by have := Tm.lg_bd (0 + i); unfold Tm.hand; omega
                    have hzt : Tm.hand 1 (0 + t) (Tm.lg (0 + t)) < 9223372036854775808 := by have := Tm.lg_bd (0 + t); unfold Tm.hand; omega
                    have hpt := xD.hp.point HK.out xD.size (Tm.hand 1 (0 + i) (Tm.lg (0 + i))) (1 + (k : Int)) (Tm.hand 1 (0 + t) (Tm.lg (0 + t))) hzi hzt
                    rw [hep] at hpt
                    have HPt := hide hpt
                    have HXD := hide xD
                    have HNew : Hid (∀ wN, Gst R N A W (fun _ => False) gb (pn + 1) (rows4 r0 r1 r2 { r3 with f := Tm.up r3.f (i * 2 + k) (.int .i64 (t : Int)) }) wN p h2 → LayS R N A W gb (pn + 1) 0 (pn + 1) 1 1 vF (Tm.up2 rs i k (t : Int)) p wN) := fun wN stN => by
                      obtain ⟨q1, q2, q3⟩ := HDb.out
                      obtain ⟨f1, f2, f3, f4⟩ := HFs.out
                      refine ⟨h2, _, r0, r1, r2, _, stN, hg2, HL.out.rs _, q1, q2, ?_, HNs.out, ⟨f1, f2, f3, ?_⟩, HVs.out⟩
                      · show Tm.up2 d.rs i k (t : Int) = _
                        rw [q3]
                      · show Tm.up r3.f (i * 2 + k) (.int .i64 (t : Int)) = _
                        rw [f4, gF3_up _ _ _ hk2]
                    have HRn : Hid ((∀ a c, i < a → Tm.up2 rs i k (t : Int) a c = -1) ∧ ∀ c, k + 1 ≤ c → Tm.up2 rs i k (t : Int) i c = -1) := by
                      refine ⟨fun a c ha => ?_, fun c hc => ?_⟩
                      · unfold Tm.up2; rw [if_neg (by omega)]; exact HR1.out a c ha
                      · unfold Tm.up2; rw [if_neg (by omega)]; exact HR2.out c (by omega)
                    have hw1 : IntKind.i64.wrap (1 + (k : Int)) = 1 + (k : Int) := IntWalk.i64_in _ (by omega)
                    have HOw : Hid (ownG gb (rows4 r0 r1 r2 { r3 with f := Tm.up r3.f (i * 2 + k) (.int .i64 (t : Int)) }) gb ∧ ownG gb (rows4 r0 r1 r2 { r3 with f := Tm.up r3.f (i * 2 + k) (.int .i64 (t : Int)) }) r0.b) := ⟨Or.inl rfl, Or.inr ⟨0, by omega, by have := (HSc.out.gm.row 0 (by omega)).cap; have h1 : r0.n = pn + 1 := HNs.out.1; have h2 : r0.n ≤ r0.c := this; show 0 < r0.c; omega, rfl⟩⟩
                    clear hcR cR st3 st3' dl cl xD hep hg2 hpt hq3 HEp HG2 HL HLb HVs HR1 HR2
                    generalize r3.f (i * 2 + k) = vold at *
                    generalize Tm.up r3.f (i * 2 + k) (.int .i64 (t : Int)) = fnew at *
                    generalize Tm.hand 1 (0 + i) (Tm.lg (0 + i)) = zi at *
                    generalize Tm.hand 1 (0 + t) (Tm.lg (0 + t)) = zt at *
                    have d0' : (wc.setCell ⟨r3.b, i * 2 + k, none⟩ (.int .i64 (t : Int))).drew.cell? ⟨gb, 0, none⟩ = some (.pointer (some ⟨p, 0, none⟩)) := d0
                    have d2' : (wc.setCell ⟨r3.b, i * 2 + k, none⟩ (.int .i64 (t : Int))).drew.cell? ⟨gb, 2, none⟩ = some (.slice (some ⟨r0.b, 0, none⟩) (pn + 1) r0.c) := d2
                    have dli' : (wc.setCell ⟨r3.b, i * 2 + k, none⟩ (.int .i64 (t : Int))).drew.cell? ⟨r0.b, i, none⟩ = some (.int .i64 zi) := dli
                    go_upto_region 30 with fail
                    go_cut [16] (fun ev wx => ev = .nilIface ∧ LayS R N A W gb (pn + 1) 0 (pn + 1) 1 1 vF (Tm.up2 rs i k (t : Int)) p wx)
                    case first =>
                      go_region_held3 (fun w' => w'.cell? ⟨gb, 0, none⟩ = some (.pointer (some ⟨p, 0, none⟩)) ∧ w'.cell? ⟨gb, 2, none⟩ = some (.slice (some ⟨r0.b, 0, none⟩) (pn + 1) r0.c) ∧ w'.cell? ⟨r0.b, i, none⟩ = some (.int .i64 zi)) (first | (with_reducible exact ⟨by assumption, by assumption, by assumption⟩) | go_keep) (first
                        | (go_at_call 43
                           refine HPt.out.mono ?_
                           rintro e w2 ⟨ev, rfl, he, x2, hz2, hk2'⟩
                           obtain rfl := he.nil rfl
                           have HFin := hide (HNew.out w2 (HXD.out.call x2 hz2 hk2'))
                           have e1 : w2.cell? ⟨gb, 0, none⟩ = some (.pointer (some ⟨p, 0, none⟩)) := by rw [cell_of (hk2' _ (Or.inl HOw.out.1))]; exact d0
                           have e2 : w2.cell? ⟨gb, 2, none⟩ = some (.slice (some ⟨r0.b, 0, none⟩) (pn + 1) r0.c) := by rw [cell_of (hk2' _ (Or.inl HOw.out.1))]; exact d2
                           have e3 : w2.cell? ⟨r0.b, i, none⟩ = some (.int .i64 zi) := by rw [cell_of (hk2' _ (Or.inl HOw.out.2))]; exact dli
                           clear he x2 hz2 hk2'))
                      all_goals go_wp2_with fail
                      all_goals go_meet
                      all_goals exact ⟨rfl, HFin.out⟩
                    case rest =>
                      obtain ⟨rfl, ls2⟩ := hcut
                      have HL2 := hide ls2
                      clear ls2 HPt HXD d0 d2 dli d0' d2' dli' c0 c2 clt cR' cRt fR
                      go_wp2_with fail
                      go_roundw
                      case rel => exact ⟨k + 1, _, by omega, by go_num, HL2.out, HRn.out.1, HRn.out.2⟩
                      case measure => simp [intOf]; omega
                  · have btl : ¬ (t : Int) < (pn : Int) + 1 := by omega
                    obtain ⟨c0, c2, cl⟩ := HLb.out wc h r3 HSc.out
                    have cli := cl i hgo.1
                    have xD : Gst R N A W (fun _ => False) gb (pn + 1) (rows4 r0 r1 r2 r3) wc.drew p h := HSc.out.dn HK.out.ok ⟨rfl, rfl, rfl, Nat.le_refl _, fun _ _ => rfl⟩
                    have hep := HEp.out
                    rw [if_neg htl] at hep
                    have hg2 := HG2.out
                    rw [if_neg htl] at hg2
                    have hzi : Tm.hand 1 (0 + i) (Tm.lg (0 + i)) < 9223372036854775808 := by have := Tm.lg_bd (0 + i); unfold Tm.hand; omega
                    have hpt := xD.hp.point HK.out xD.size (Tm.hand 1 (0 + i) (Tm.lg (0 + i))) (1 + (k : Int)) 0 hzi (by omega)
                    rw [hep] at hpt
                    have HPt := hide hpt
                    have HXD := hide xD
                    have hup : Tm.up2 rs i k (-1) = rs := by
                      funext a c
                      unfold Tm.up2
                      split
                      · rename_i q; rw [q.1, q.2, HR2.out k (Nat.le_refl _)]
                      · rfl
                    have HNew : Hid (∀ wN, Gst R N A W (fun _ => False) gb (pn + 1) (rows4 r0 r1 r2 r3) wN p h2 → LayS R N A W gb (pn + 1) 0 (pn + 1) 1 1 vF rs p wN) := fun wN stN => by
                      obtain ⟨q1, q2, q3⟩ := HDb.out
                      refine ⟨h2, _, r0, r1, r2, r3, stN, hg2, HL.out.rs _, q1, q2, ?_, HNs.out, HFs.out, HVs.out⟩
                      show Tm.up2 d.rs i k (-1) = _
                      rw [q3, hup]
                    have HRn : Hid ((∀ a c, i < a → rs a c = -1) ∧ ∀ c, k + 1 ≤ c → rs i c = -1) := ⟨HR1.out, fun c hc => HR2.out c (by omega)⟩
                    have hw1 : IntKind.i64.wrap (1 + (k : Int)) = 1 + (k : Int) := IntWalk.i64_in _ (by omega)
                    have HOw : Hid (ownG gb (rows4 r0 r1 r2 r3) gb ∧ ownG gb (rows4 r0 r1 r2 r3) r0.b) := ⟨Or.inl rfl, Or.inr ⟨0, by omega, by have := (HSc.out.gm.row 0 (by omega)).cap; have h1 : r0.n = pn + 1 := HNs.out.1; have h2 : r0.n ≤ r0.c := this; show 0 < r0.c; omega, rfl⟩⟩
                    clear cl xD hep hg2 hpt HEp HG2 HL HLb HVs HR1 HR2 hup
                    generalize Tm.hand 1 (0 + i) (Tm.lg (0 + i)) = zi at *
                    have d0' : wc.drew.cell? ⟨gb, 0, none⟩ = some (.pointer (some ⟨p, 0, none⟩)) := c0
                    have d2' : wc.drew.cell? ⟨gb, 2, none⟩ = some (.slice (some ⟨r0.b, 0, none⟩) (pn + 1) r0.c) := c2
                    have dli' : wc.drew.cell? ⟨r0.b, i, none⟩ = some (.int .i64 zi) := cli
                    go_upto_region 30 with fail
                    go_cut [16] (fun ev wx => ev = .nilIface ∧ LayS R N A W gb (pn + 1) 0 (pn + 1) 1 1 vF rs p wx)
                    case first =>
                      go_region_held3 (fun w' => w'.cell? ⟨gb, 0, none⟩ = some (.pointer (some ⟨p, 0, none⟩)) ∧ w'.cell? ⟨gb, 2, none⟩ = some (.slice (some ⟨r0.b, 0, none⟩) (pn + 1) r0.c) ∧ w'.cell? ⟨r0.b, i, none⟩ = some (.int .i64 zi)) (first | (with_reducible exact ⟨by assumption, by assumption, by assumption⟩) | go_keep) (first
                        | (go_at_call 43
                           refine HPt.out.mono ?_
                           rintro e w2 ⟨ev, rfl, he, x2, hz2, hk2'⟩
                           obtain rfl := he.nil rfl
                           have HFin := hide (HNew.out w2 (HXD.out.call x2 hz2 hk2'))
                           have e1 : w2.cell? ⟨gb, 0, none⟩ = some (.pointer (some ⟨p, 0, none⟩)) := by rw [cell_of (hk2' _ (Or.inl HOw.out.1))]; exact c0
                           have e2 : w2.cell? ⟨gb, 2, none⟩ = some (.slice (some ⟨r0.b, 0, none⟩) (pn + 1) r0.c) := by rw [cell_of (hk2' _ (Or.inl HOw.out.1))]; exact c2
                           have e3 : w2.cell? ⟨r0.b, i, none⟩ = some (.int .i64 zi) := by rw [cell_of (hk2' _ (Or.inl HOw.out.2))]; exact cli
                           clear he x2 hz2 hk2'))
                      all_goals go_wp2_with fail
                      all_goals go_meet
                      all_goals exact ⟨rfl, HFin.out⟩
                    case rest =>
                      obtain ⟨rfl, ls2⟩ := hcut
                      have HL2 := hide ls2
                      clear ls2 HPt HXD d0' d2' dli' c0 c2 cli
                      go_wp2_with fail
                      go_roundw
                      case rel => exact ⟨k + 1, _, by omega, by go_num, HL2.out, HRn.out.1, HRn.out.2⟩
                      case measure => simp [intOf]; omega
              · have bk : ¬ (k : Int) < 2 := by omega
                obtain rfl : k = 2 := by omega
                clear ls
                go_wp2_with fail
                go_roundw
                case rel => exact ⟨i + 1, rs, by omega, by go_num, HLs.out, fun a c ha => HR1.out a c (by omega)⟩
                case measure => simp [intOf]; omega
          · have hif : ¬ (i : Int) < (pn : Int) + 1 ∨ ((i : Int) < (pn : Int) + 1 ∧ ¬ (i : Int) < (nr : Int)) := by omega
            rcases hif with b1 | ⟨b1, b2⟩
            all_goals
              go_wp2_with fail
              refine bodyPost_ret (v := .tuple #[.pointer (some ⟨gb, 0, none⟩), .bool true]) (by simp [results, Tryz.results15, go_sem]) rfl ?_
              obtain ⟨h, d, r0, r1, r2, r3, st, g, l, hdb, hdf, hrs, ⟨hn0, hn1, hn2, hn3⟩, ⟨hf0, hf1, hf2, hf3⟩, hvs⟩ := HLs.out
              have hdn := l.n
              refine ⟨gb, p, rows4 r0 r1 r2 r3, h, d, W, rfl, HWb.out, by rw [hdn]; exact st, g, ⟨fun k hk => ?_, fun i hi => ?_, fun i hi => ?_, fun i hi => ?_, fun i k hi hk => ?_⟩, by rw [hdn]; exact l, by omega, hdb, hdf⟩
              · rw [hdn]
                have : k = 0 ∨ k = 1 ∨ k = 2 ∨ k = 3 := by omega
                rcases this with rfl | rfl | rfl | rfl
                · exact hn0
                · exact hn1
                · exact hn2
                · exact hn3
              · show r0.f i = _
                rw [hf0]; unfold gF0; rw [Nat.zero_add]
              · show r1.f i = _
                rw [hf1]; rfl
              · show r2.f i = _
                rw [hf2, hvs i (by omega)]; rfl
              · show r3.f (i * 2 + k) = _
                rw [hf3, gF3_at _ _ _ hk, hrs]
end
end Go.Proofs.YtcnmfljpmpgnjaaGreatDoor
