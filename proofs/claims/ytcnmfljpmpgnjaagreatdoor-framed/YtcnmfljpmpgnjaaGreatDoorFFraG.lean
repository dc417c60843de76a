import Derived.Test.YtcnmfljpmpgnjaaGreatDoorJ22
import Derived.Test.YtcnmfljpmpgnjaaGreatDoorFFraF
import Derived.Test.YtcnmfljpmpgnjaaGreatDoorJ36
import Derived.Test.YtcnmfljpmpgnjaaGreatDoorFFraC
import Derived.Test.YtcnmfljpmpgnjaaGreatDoorFFraD
namespace Go.Proofs.YtcnmfljpmpgnjaaGreatDoor
open Go.RowKit Go.Maps
open Tm (H Ob Sl Why)

def popRes (h : H) (n : Int) : (Int × Why) × H :=
  if n ≠ 0 ∧ h.popped.free 1 < 0 then ((0, ⟨7, 0⟩), h) else
  if n = 0 then ((0, Tm.fine), h.popF) else (((h.popF.take 1 n).1, Tm.fine), (h.popF.take 1 n).2)

theorem popT_any {S : Nat → Prop} {tag : Nat → Nat × Nat} {w : World} {a : Nat} {Y : PLay} {h : H} {N : Nat} {A : Nat → Addr} (hE : Errs N A w) (hS : ∀ b, S b → N ≤ b) (r : PRep S tag w a Y h) (hf1 : h.frames ≠ 1) (n : Int) (hn : 0 ≤ n) (hn2 : n ≤ (h.l.length : Int)) (ha : n ≠ 0 → (h.ob n).gone = false) :
    Calls Tryz.prog 75 #[.pointer (some ⟨Y.bt, 0, none⟩), .int .i64 n] w (TPopPost S w a A (popRes h n).1.1 (popRes h n).1.2 (popRes h n).2) := by
  have hfp : h.popped.free 1 = h.popF.free 1 := rfl
  unfold popRes
  by_cases h0 : n = 0
  · subst h0
    rw [if_neg (fun q => q.1 rfl), if_pos rfl]
    exact popT_zero r hf1
  · by_cases h1 : h.popped.free 1 < 0
    · rw [if_pos ⟨h0, h1⟩]
      exact popT_full hE hS r hf1 n (by omega) (by rw [← hfp]; exact h1)
    · rw [if_neg (fun q => h1 q.2), if_neg h0]
      exact popT_some hE hS r hf1 n (by omega) hn2 (ha h0) (by rw [← hfp]; omega)

set_option maxRecDepth 100000 in
set_option maxHeartbeats 2000000 in
theorem popH_any {S : Nat → Prop} {tag : Nat → Nat × Nat} {w : World} {a : Nat} {Y : PLay} {h : H} {N : Nat} {A : Nat → Addr} (hE : Errs N A w) (hS : ∀ b, S b → N ≤ b) (r : PRep S tag w a Y h) (x : Int) (hx : x < 9223372036854775808) :
    Calls Tryz.prog 39 #[.pointer (some ⟨a, 0, none⟩), .int .i64 x] w (HPost S w a A (h.pop x).1.1 (h.pop x).1.2 (h.pop x).2) := by
  have c2 := r.tables
  have g8 := hE.g8
  have hi := ifaceE
  have HF := hide (framesT_any r)
  have HN := hide (perhapsH_any hE r x hx)
  have HR := hide r
  have HE := hide hE
  by_cases hf1 : h.frames = 1
  · have e1 : h.pop x = ((0, ⟨9, 0⟩), h) := by unfold H.pop; rw [if_pos hf1]
    rw [e1]
    rw [hf1] at HF
    have HRf := hide (refusal_any (A := A) hE (InErr.bare w 9 (by omega) (by omega)))
    clear e1 r hE
    go_enter Tryz.func39, Tryz.ntmps39
    go_wp2_with (first
      | (go_at_call 59; refine HF.out.mono ?_; rintro e w9 ⟨rfl, hw⟩; replace hw := hw.symm; subst hw)
      | (go_at_call 50; refine HRf.out.mono ?_; rintro e w' ⟨ev, rfl, he, hb⟩; have HEr := hide he; have HB := hide hb; clear he hb)
      | fail)
    go_ret2
    exact ⟨_, S, rfl, HEr.out, ⟨tag, Y, HR.out.below HB.out (Nat.le_refl _)⟩, Kept.of_below HB.out, fun _ h => h, fun _ h => Or.inl h⟩
  · have hf1' : (h.frames == 1) = false := beq_eq_false_iff_ne.2 hf1
    by_cases hc : (h.perhaps x).2.reason = 0
    · have HHc := hide hc
      obtain ⟨b1, b2, b3⟩ := perhaps_bdG r.good x hc
      have e1 : h.pop x = popRes h (h.perhaps x).1 := by unfold H.pop popRes; rw [if_neg hf1, if_neg (by simpa using hc)]
      rw [e1]
      have HP := hide (popT_any (A := A) hE hS r hf1 (h.perhaps x).1 b1 b2 b3)
      clear e1 r hE hc b1 b2 b3
      generalize popRes h (h.perhaps x).1 = pr at *
      obtain ⟨y, ey⟩ : ∃ y, h.perhaps x = y := ⟨_, rfl⟩
      rw [ey] at HN HHc HP
      clear ey
      generalize h.frames = f at *
      go_enter Tryz.func39, Tryz.ntmps39
      go_wp2_with (first
        | (go_at_call 59; refine HF.out.mono ?_; rintro e w9 ⟨rfl, hw⟩; replace hw := hw.symm; subst hw)
        | (go_at_call 74; refine HN.out.mono ?_; rintro e w9 ⟨ev, rfl, _, _, hz, _⟩; obtain ⟨rfl, hw⟩ := hz HHc.out; replace hw := hw.symm; subst hw)
        | (go_at_call 75
           refine HP.out.mono ?_
           rintro e w2 ⟨ev2, S2, rfl, he2, hp2, hk2, hs2, hn2⟩
           have HRf := hide (refusal_any (HE.out.off hk2 hS) he2)
           have HP2 := hide hp2
           have HK2 := hide hk2
           have HS2 := hide hs2
           have HN2 := hide hn2
           clear he2 hp2 hk2 hs2 hn2)
        | (go_at_call 50; refine HRf.out.mono ?_; rintro e w' ⟨ev, rfl, he, hb⟩; have HEr := hide he; have HB := hide hb; clear he hb)
        | fail)
      go_ret2
      exact ⟨_, S2, rfl, HEr.out.mono HK2.out.size, (by obtain ⟨t2, Y2, q⟩ := HP2.out; exact ⟨t2, Y2, q.below HB.out (Nat.le_refl _)⟩), HK2.out.trans (Kept.of_below HB.out), HS2.out, HN2.out⟩
    · have HHc := hide hc
      have e1 : h.pop x = ((0, (h.perhaps x).2), h) := by unfold H.pop; rw [if_neg hf1, if_pos (by simpa using hc)]
      rw [e1]
      clear e1 r hE hc
      obtain ⟨y, ey⟩ : ∃ y, h.perhaps x = y := ⟨_, rfl⟩
      simp only [ey] at HN HHc ⊢
      clear ey
      generalize h.frames = f at *
      go_enter Tryz.func39, Tryz.ntmps39
      go_wp2_with (first
        | (go_at_call 59; refine HF.out.mono ?_; rintro e w9 ⟨rfl, hw⟩; replace hw := hw.symm; subst hw)
        | (go_at_call 74
           refine HN.out.mono ?_
           rintro e w1 ⟨ev, rfl, he1, hb1, _, hz⟩
           obtain ⟨b, rfl⟩ := hz HHc.out
           have HB1 := hide hb1
           have HRf := hide (refusal_any (HE.out.kept hb1) he1)
           clear hb1 he1 hz)
        | (go_at_call 50; refine HRf.out.mono ?_; rintro e w' ⟨ev, rfl, he, hb⟩; have HEr := hide he; have HB := hide hb; clear he hb)
        | fail)
      go_ret2
      have hb2 := HB1.out.trans (HB.out.mono HB1.out.size)
      exact ⟨_, S, rfl, HEr.out.mono HB1.out.size, ⟨tag, Y, HR.out.below hb2 (Nat.le_refl _)⟩, Kept.of_below hb2, fun _ h => h, fun _ h => Or.inl h⟩
end Go.Proofs.YtcnmfljpmpgnjaaGreatDoor

namespace Go.Proofs.YtcnmfljpmpgnjaaGreatDoor
open Go.RowKit Go.Maps
open Tm (H Ob Sl Why)

theorem prog_all (N : Nat) (A : Nat → Addr) : ProgAll PR N A where
  ok := prog_ok N A
  push := fun _ _ _ _ ⟨_, _, r⟩ hE _ => (pushH_any hE r).mono fun _ _ q => q.toR
  pop := fun _ _ _ _ x ⟨_, _, r⟩ hE hS hx => popH_any hE hS r x hx
  pin := fun _ _ _ _ x ⟨_, _, r⟩ hE hS hx => (pinH_any hE hS r x hx).mono fun _ _ q => q.toR
  unpin := fun _ _ _ _ x ⟨_, _, r⟩ hE hS hx => (unpinH_any hE hS r x hx).mono fun _ _ q => q.toR
end Go.Proofs.YtcnmfljpmpgnjaaGreatDoor

namespace Go.Proofs.YtcnmfljpmpgnjaaGreatDoor
open Go.RowKit
open Tm (H Ob Sl Why GD Gh LayD)

section
variable {R : (Nat → Prop) → World → Nat → H → Prop} {N : Nat} {A : Nat → Addr}

theorem Gst.firstX (ok : ROK R) {w0 w1 : World} {X : Nat → Prop} {p : Nat} {h : H} (x : Hp R N A w0.heap.size w0 X w1 p h) (n : Nat) (f0 f1 f2 f3 : Nat → Value) :
    Gst R N A w0 X w1.heap.size n (rows4 ⟨none, 0, 0, 0, f0⟩ ⟨none, 0, 0, 0, f1⟩ ⟨none, 0, 0, 0, f2⟩ ⟨none, 0, 0, 0, f3⟩) (w1.alloc (.cells #[.pointer (some ⟨p, 0, none⟩), .int .i64 (n : Int), .slice none 0 0, .slice none 0 0, .slice none 0 0, .slice none 0 0] 35)) p h := by
  have hsz := x.size (Nat.le_refl _)
  have hr : ∀ k, k < 4 → (rows4 ⟨none, 0, 0, 0, f0⟩ ⟨none, 0, 0, 0, f1⟩ ⟨none, 0, 0, 0, f2⟩ ⟨none, 0, 0, 0, f3⟩ k).c = 0 ∧ (rows4 ⟨none, 0, 0, 0, f0⟩ ⟨none, 0, 0, 0, f1⟩ ⟨none, 0, 0, 0, f2⟩ ⟨none, 0, 0, 0, f3⟩ k).n = 0 ∧ (rows4 ⟨none, 0, 0, 0, f0⟩ ⟨none, 0, 0, 0, f1⟩ ⟨none, 0, 0, 0, f2⟩ ⟨none, 0, 0, 0, f3⟩ k).p = none := fun k hk => by
    have : k = 0 ∨ k = 1 ∨ k = 2 ∨ k = 3 := by omega
    rcases this with rfl | rfl | rfl | rfl <;> exact ⟨rfl, rfl, rfl⟩
  have hnew : ∀ i, (w1.alloc (.cells #[.pointer (some ⟨p, 0, none⟩), .int .i64 (n : Int), .slice none 0 0, .slice none 0 0, .slice none 0 0, .slice none 0 0] 35)).cell? ⟨w1.heap.size, i, none⟩ = (#[.pointer (some ⟨p, 0, none⟩), .int .i64 (n : Int), .slice none 0 0, .slice none 0 0, .slice none 0 0, .slice none 0 0] : Array Value)[i]? := fun i => World.cell?_alloc_at _ _ _ _ rfl
  have hown : ∀ b, ownG w1.heap.size (rows4 ⟨none, 0, 0, 0, f0⟩ ⟨none, 0, 0, 0, f1⟩ ⟨none, 0, 0, 0, f2⟩ ⟨none, 0, 0, 0, f3⟩) b → b = w1.heap.size := fun b hb => by
    rcases hb with q | ⟨k, hk, h0, _⟩
    · exact q
    · rw [(hr k hk).1] at h0; omega
  refine ⟨x.turn ok hsz ((Below.alloc0 w1 _).mono hsz) (fun b hb _ => (Below.alloc0 w1 _).block b hb) (fun b hb => ?_) (fun b hb => ?_), ⟨hsz, by simp, fun i => ?_, hnew 0, hnew 1, fun k hk => ?_, fun k hk => ?_, fun k hk h0 => ?_, fun i j hi hj _ h0 => ?_⟩, fun b hb q => ?_⟩
  · rcases hb with q | q
    · exact Or.inr (by rw [hown b q]; exact Nat.le_refl _)
    · exact Or.inl q
  · rcases hb with q | q
    · rw [hown b q]; simp
    · have := x.lt b q; simp; omega
  · have hb : (w1.alloc (.cells #[.pointer (some ⟨p, 0, none⟩), .int .i64 (n : Int), .slice none 0 0, .slice none 0 0, .slice none 0 0, .slice none 0 0] 35)).heap[w1.heap.size]? = some (.cells #[.pointer (some ⟨p, 0, none⟩), .int .i64 (n : Int), .slice none 0 0, .slice none 0 0, .slice none 0 0, .slice none 0 0] 35 (0, 0)) := by simpa using heap_alloc_new w1 (.cells #[.pointer (some ⟨p, 0, none⟩), .int .i64 (n : Int), .slice none 0 0, .slice none 0 0, .slice none 0 0, .slice none 0 0] 35)
    unfold World.frozen?
    simp only [hb]
    simp
  · rw [hnew, (hr k hk).1, (hr k hk).2.1, (hr k hk).2.2]
    have : k = 0 ∨ k = 1 ∨ k = 2 ∨ k = 3 := by omega
    rcases this with rfl | rfl | rfl | rfl <;> rfl
  · obtain ⟨h1, h2, h3⟩ := hr k hk
    exact ⟨by rw [h1, h2]; exact Nat.le_refl _, by rw [h1]; exact Nat.zero_le _, fun h0 => by rw [h1] at h0; omega, fun _ => h3, fun i hi => by rw [h2, Nat.zero_mul] at hi; omega⟩
  · rw [(hr k hk).1] at h0; omega
  · rw [(hr i hi).1] at h0; omega
  · have := x.lt b hb; rw [hown b q] at this; omega

theorem Gst.appX {w0 w w1 w2 : World} {X : Nat → Prop} {p n gb : Nat} {h : H} {r : Nat → RowG} (x : Gst R N A w0 X gb n r w p h) (hb1 : Below w.heap.size w w1) (k : Nat) (hk : k < 4) {b' c' : Nat} {vs : List Value} (ap : ApdZ (gty k) (gsz k) w1 w2 (r k).b (r k).c b' c' (r k).n vs) (hvs : vs.length = gsz k) (hf : ∀ i v, vs[i]? = some v → (r k).f ((r k).n * gsz k + i) = v) :
    ∀ b, X b → (w2.setCell ⟨gb, 2 + k, none⟩ (.slice (some ⟨b', 0, none⟩) ((r k).n + 1) c')).heap[b]? = w.heap[b]? := fun b hb => (x.gm.app x.size hb1 k hk ap hvs hf).2 b (x.hp.lt b (Or.inr hb)) (x.off b hb)

/-- The struct, its lists, and what they are of, where objects lie ahead of the graph's. -/
def LayX (R : (Nat → Prop) → World → Nat → H → Prop) (N : Nat) (A : Nat → Addr) (W : World) (X : Nat → Prop) (gb n i : Nat) (d0 : GD) (rs : Nat → Nat → Int) (p : Nat) (w7 w : World) : Prop :=
  ∃ (h : H) (d : GD) (r0 r1 r2 r3 : RowG), Gst R N A W X gb n (rows4 r0 r1 r2 r3) w p h ∧ Gh h d ∧ LayD d 1 i ∧ (d.b = d0.b ∧ d.f = d0.f ∧ d.rs = rs ∧ d.ov = d0.ov ∧ d.lo 0 = d0.lo 0 ∧ d.ge 0 = d0.ge 0 ∧ d.fr 0 = d0.fr 0) ∧ (r0.n = i ∧ r1.n = i ∧ r2.n = i ∧ r3.n = i) ∧ (r0.f = gF0 1 ∧ r1.f = gF1 ∧ r2.f = gF2 (fun _ => 0) ∧ r3.f = gF3 rs) ∧ (∀ j, j < i → d.vs j = 0) ∧ ∀ b, X b → w.heap[b]? = w7.heap[b]?

/-- What laying a graph down in a heap that there is leaves. -/
def LayPost2 (R : (Nat → Prop) → World → Nat → H → Prop) (N : Nat) (A : Nat → Addr) (W : World) (p : Nat) (d0 : GD) (e : Ending) (w' : World) : Prop :=
  ∃ gb r h d X, e = .returned (.tuple #[.pointer (some ⟨gb, 0, none⟩), .bool true]) ∧ Gst R N A W X gb d.n r w' p h ∧ Gh h d ∧ Gr r d (fun i => Tm.hand 1 (1 + i) (Tm.lg (1 + i))) ∧ LayD d 1 d.n ∧ 1 ≤ d.n ∧ d.b = d0.b ∧ d.f = d0.f ∧ d.ov = d0.ov ∧ d.lo 0 = d0.lo 0 ∧ d.ge 0 = d0.ge 0 ∧ d.fr 0 = d0.fr 0

set_option maxRecDepth 100000 in
set_option maxHeartbeats 8000000 in
theorem lay2_g (K : ProgOK R N A) {W w : World} {p : Nat} {h0 : H} {d0 : GD} (x0 : Hp R N A W.heap.size W (fun _ => False) w p h0) (g0 : Gh h0 d0) (l0 : LayD d0 1 0) (hrs0 : d0.rs = fun _ _ => -1) (xn : Int) (hx1 : -9223372036854775808 ≤ xn) (hx2 : xn ≤ 9223372036854775807) (pv pr : Option Addr) (nv cv nr cr : Nat) (V : Nat → Int) (Rf : Nat → Nat → Int) (gi : GIn W pv nv V pr nr Rf) :
    Calls Tryz.prog 38 #[.pointer (some ⟨p, 0, none⟩), .agg #[.int .i64 xn, .slice pv nv cv, .slice pr nr cr]] w (LayPost2 R N A W p d0) := by
  have HK := hide K
  have HGi := hide gi
  have HPz := hide (fun w' => kpick_is xn 10 w' (by omega) (by omega) hx1 hx2)
  have hpn := pickN_lt xn 10 (by omega)
  generalize pickN xn 10 = pn at *
  have cN0 : (w.alloc (.cells #[.int .i64 xn, .slice pv nv cv, .slice pr nr cr] 28)).cell? ⟨w.heap.size, 0, none⟩ = some (.int .i64 xn) := (World.cell?_alloc_at _ _ _ _ rfl).trans rfl
  have hsz := x0.size (Nat.le_refl _)
  have xA : Hp R N A W.heap.size W (fun b => b = w.heap.size) (w.alloc (.cells #[.int .i64 xn, .slice pv nv cv, .slice pr nr cr] 28)) p h0 := x0.turn K.ok hsz ((Below.alloc0 w _).mono hsz) (fun b hb _ => (Below.alloc0 w _).block b hb) (fun b hb => Or.inr (by omega)) (fun b hb => by rw [hb]; simp)
  have hw1 : IntKind.i64.wrap (1 + (pn : Int)) = 1 + (pn : Int) := IntWalk.i64_in _ (by omega)
  have HX0 : Hid (Gst R N A W (fun b => b = w.heap.size) (w.heap.size + 1) (pn + 1) (rows4 ⟨none, 0, 0, 0, gF0 1⟩ ⟨none, 0, 0, 0, gF1⟩ ⟨none, 0, 0, 0, gF2 fun _ => 0⟩ ⟨none, 0, 0, 0, gF3 fun _ _ => -1⟩) ((w.alloc (.cells #[.int .i64 xn, .slice pv nv cv, .slice pr nr cr] 28)).alloc (.cells #[.pointer (some ⟨p, 0, none⟩), .int .i64 (1 + (pn : Int)), .slice none 0 0, .slice none 0 0, .slice none 0 0, .slice none 0 0] 35)) p h0) := by
    have := Gst.firstX K.ok xA (pn + 1) (gF0 1) gF1 (gF2 fun _ => 0) (gF3 fun _ _ => -1)
    rw [show ((pn + 1 : Nat) : Int) = 1 + (pn : Int) by push_cast; omega, show (w.alloc (.cells #[.int .i64 xn, .slice pv nv cv, .slice pr nr cr] 28)).heap.size = w.heap.size + 1 by simp] at this
    exact this
  have HC2 : Hid (((w.alloc (.cells #[.int .i64 xn, .slice pv nv cv, .slice pr nr cr] 28)).alloc (.cells #[.pointer (some ⟨p, 0, none⟩), .int .i64 (1 + (pn : Int)), .slice none 0 0, .slice none 0 0, .slice none 0 0, .slice none 0 0] 35)).cell? ⟨w.heap.size, 2, none⟩ = some (.slice pr nr cr)) := by
    show World.cell? _ _ = _
    rw [(Below.alloc0 _ _).cell (by simp)]
    exact (World.cell?_alloc_at _ _ _ _ rfl).trans rfl
  have HG0 := hide g0
  have HL0 := hide l0
  have HR0 := hide hrs0
  clear K gi x0 g0 l0 hrs0 hsz xA hx1 hx2
  go_enter Tryz.func38, Tryz.ntmps38
  go_wp2_with fail
  refine (HPz.out _).mono ?_
  rintro e w9 ⟨rfl, h9⟩
  rw [h9]
  clear h9
  go_wp2_with fail
  have hgb : w.heap.size + 1 ≠ w.heap.size := by omega
  generalize hw7 : ((w.alloc (.cells #[.int .i64 xn, .slice pv nv cv, .slice pr nr cr] 28)).alloc (.cells #[.pointer (some ⟨p, 0, none⟩), .int .i64 (1 + (pn : Int)), .slice none 0 0, .slice none 0 0, .slice none 0 0, .slice none 0 0] 35)) = w7 at *
  generalize w.heap.size + 1 = gb at *
  generalize w.heap.size = xb at *
  have HS0 : Hid (LayX R N A W (fun b => b = xb) gb (pn + 1) 0 d0 (fun _ _ => -1) p w7 w7) := ⟨h0, d0, _, _, _, _, HX0.out, HG0.out, HL0.out, ⟨rfl, rfl, HR0.out, rfl, rfl, rfl, rfl⟩, ⟨rfl, rfl, rfl, rfl⟩, ⟨rfl, rfl, rfl, rfl⟩, fun j hj => absurd hj (Nat.not_lt_zero _), fun _ _ => rfl⟩
  clear hw7 HX0 HG0 HL0 HR0 cN0 hw1 HPz hgb
  go_loopw [7, 8, 9, 10, 11] (fun iv _ _ _ _ w' => ∃ i : Nat, i ≤ pn + 1 ∧ iv = .int .i64 i ∧ LayX R N A W (fun b => b = xb) gb (pn + 1) i d0 (fun _ _ => -1) p w7 w') (fun iv _ _ _ _ _ => pn + 1 - (intOf iv).toNat)
  case atStart => exact ⟨0, by omega, rfl, HS0.out⟩
  case round =>
    clear HS0
    obtain ⟨i, hi, rfl, h, d, r0, r1, r2, r3, st, g, l, ⟨hdb, hdf, hrs, hov, hlo, hge, hfr⟩, ⟨hn0, hn1, hn2, hn3⟩, ⟨hf0, hf1, hf2, hf3⟩, hvs, hXw⟩ := hrel
    have HSt := hide st
    have cN := st.gm.num
    by_cases hlt : i < pn + 1
    · have bi : (i : Int) < ((pn + 1 : Nat) : Int) := by omega
      obtain ⟨M, hM⟩ := Tm.marked_exists h
      obtain ⟨h1, h3, e1, e3, g3⟩ := l.step2 g (by omega) (by omega) M
      have hmk := st.hp.make HK.out st.size hM (by rw [g.len]; have := g.few; have := g.bl; omega) (by rw [g.cls]; decide) 0
      rw [e1] at hmk
      have HMk := hide hmk
      have HE3 := hide e3
      have hzb : Tm.hand 1 (1 + i) (Tm.lg (1 + i)) < 9223372036854775808 := by have := Tm.lg_bd (1 + i); unfold Tm.hand; omega
      have HF0 : Hid (∀ q v, [Value.int .i64 (Tm.hand 1 (1 + i) (Tm.lg (1 + i)))][q]? = some v → r0.f (r0.n * gsz 0 + q) = v) := fun q v hq => by
        match q, hq with
        | 0, hq => simp at hq; subst hq; show r0.f (r0.n * 1 + 0) = _; rw [hf0, hn0, Nat.mul_one]; rfl
      have HF1 : Hid (∀ q v, [Value.int .i64 (Tm.hand 3 i 1)][q]? = some v → r1.f (r1.n * gsz 1 + q) = v) := fun q v hq => by
        match q, hq with
        | 0, hq => simp at hq; subst hq; show r1.f (r1.n * 1 + 0) = _; rw [hf1, hn1, Nat.mul_one]; rfl
      have HF2 : Hid (∀ q v, [Value.int .i64 0][q]? = some v → r2.f (r2.n * gsz 2 + q) = v) := fun q v hq => by
        match q, hq with
        | 0, hq => simp at hq; subst hq; rw [hf2]; rfl
      have HF3 : Hid (∀ q v, [Value.int .i64 (-1), Value.int .i64 (-1)][q]? = some v → r3.f (r3.n * gsz 3 + q) = v) := fun q v hq => by
        match q, hq with
        | 0, hq => simp at hq; subst hq; rw [hf3]; rfl
        | 1, hq => simp at hq; subst hq; rw [hf3]; rfl
      have HNext : Hid (∀ (b0 c0 b1 c1 b2 c2 b3 c3 : Nat) wN, Gst R N A W (fun b => b = xb) gb (pn + 1) (rows4 ⟨some ⟨b0, 0, none⟩, i + 1, c0, b0, r0.f⟩ ⟨some ⟨b1, 0, none⟩, i + 1, c1, b1, r1.f⟩ ⟨some ⟨b2, 0, none⟩, i + 1, c2, b2, r2.f⟩ ⟨some ⟨b3, 0, none⟩, i + 1, c3, b3, r3.f⟩) wN p h3 → (∀ b, b = xb → wN.heap[b]? = w7.heap[b]?) → LayX R N A W (fun b => b = xb) gb (pn + 1) (i + 1) d0 (fun _ _ => -1) p w7 wN) := fun b0 c0 b1 c1 b2 c2 b3 c3 wN stN hxN => by
        refine ⟨h3, _, _, _, _, _, stN, g3, l.laid (by omega), ⟨hdb, hdf, ?_, hov, ?_, ?_, ?_⟩, ⟨rfl, rfl, rfl, rfl⟩, ⟨hf0, hf1, hf2, hf3⟩, fun j hj => ?_, hxN⟩
        · show Tm.up d.rs d.n (fun _ => -1) = _
          rw [hrs]
          funext a c
          unfold Tm.up
          split <;> rfl
        · show Tm.up d.lo (1 + i) _ 0 = _
          rw [Tm.up_ne _ _ _ _ (by omega)]; exact hlo
        · show Tm.up d.ge (1 + i) _ 0 = _
          rw [Tm.up_ne _ _ _ _ (by omega)]; exact hge
        · show Tm.up d.fr (1 + i) _ 0 = _
          rw [Tm.up_ne _ _ _ _ (by omega)]; exact hfr
        · show Tm.up d.vs d.n 0 j = 0
          by_cases e : j = d.n
          · rw [e, Tm.up_at]
          · rw [Tm.up_ne _ _ _ _ e]; exact hvs j (by have := l.n; omega)
      have HN0 := hide hn0
      have HN1 := hide hn1
      have HN2 := hide hn2
      have HN3 := hide hn3
      have HXw := hide hXw
      clear st g l hM hmk g3 e1 e3 hvs hrs hf0 hf1 hf2 hf3 hn0 hn1 hn2 hn3 hXw hdb hdf hov hlo hge hfr
      generalize Tm.hand 1 (1 + i) (Tm.lg (1 + i)) = z at *
      generalize Tm.hand 3 i 1 = zw at *
      go_wp2_with fail
      refine HMk.out.mono ?_
      rintro e w2 ⟨ev, rfl, he, x2, hz2, hk2⟩
      obtain rfl := he.nil rfl
      have st2 := HSt.out.call x2 hz2 hk2
      have HS2 := hide st2
      have HX2 : Hid (∀ b, b = xb → w2.heap[b]? = w7.heap[b]?) := fun b hb => (hk2 b (Or.inr hb)).trans (HXw.out b hb)
      have hrf := st2.hp.ref HK.out st2.size 3 z hzb
      rw [HE3.out] at hrf
      have HRf := hide hrf
      clear he x2 hz2 hk2 st2 hrf HMk
      go_wp2_with fail
      refine HRf.out.mono ?_
      rintro e w4 ⟨ev, rfl, he, x4, hz4, hk4⟩
      obtain rfl := he.nil rfl
      have st4 := HS2.out.call x4 hz4 hk4
      have HS4 := hide st4
      have HX4 : Hid (∀ b, b = xb → w4.heap[b]? = w7.heap[b]?) := fun b hb => (hk4 b (Or.inr hb)).trans (HX2.out b hb)
      have c40 : w4.cell? ⟨gb, 2, none⟩ = some (.slice r0.p r0.n r0.c) := st4.gm.head 0 (by omega)
      rw [HN0.out] at c40
      clear he x4 hz4 hk4 st4 HRf
      go_wp2_with (first
        | (at_builtin; refine wpList_app1 _ rfl _ _ rfl r0 i HN0.out.symm rfl (HS4.out.rowA 0 (by omega) _) (by omega) ⟨w4.heap.size, 0, none⟩ 1 z rfl (by rw [World.cell?_alloc_at _ _ _ _ (by simp)]; rfl) ?_)
        | fail)
      intro w5 b5 c5 ap5
      have hg5 := HS4.out.behind (Below.alloc0 w4 _) 0 (by omega) ap5
      have c50 : w5.cell? ⟨gb, 2, none⟩ = some (.slice r0.p i r0.c) := by rw [cell_of hg5]; exact c40
      have f50 : w5.frozen? ⟨gb, 2, none⟩ = false := by rw [frozen_of hg5]; exact HS4.out.gm.soft 2
      have st5 := HS4.out.app HK.out.ok (Below.alloc0 w4 _) 0 (by omega) ap5 rfl HF0.out
      have hx5 := HS4.out.appX (Below.alloc0 w4 _) 0 (by omega) ap5 rfl HF0.out
      rw [show ((rows4 r0 r1 r2 r3) 0).n = i from HN0.out] at hx5
      rw [rows4_up0, show ((rows4 r0 r1 r2 r3) 0).n = i from HN0.out] at st5
      have st5' : Gst R N A W (fun b => b = xb) gb (pn + 1) (rows4 ⟨some ⟨b5, 0, none⟩, i + 1, c5, b5, r0.f⟩ r1 r2 r3) (w5.setCell ⟨gb, 2, none⟩ (.slice (some ⟨b5, 0, none⟩) (i + 1) c5)) p h3 := st5
      have HX5 : Hid (∀ b, b = xb → (w5.setCell ⟨gb, 2, none⟩ (.slice (some ⟨b5, 0, none⟩) (i + 1) c5)).heap[b]? = w7.heap[b]?) := fun b hb => (hx5 b hb).trans (HX4.out b hb)
      have HS5 := hide st5'
      have c51 : (w5.setCell ⟨gb, 2, none⟩ (.slice (some ⟨b5, 0, none⟩) (i + 1) c5)).cell? ⟨gb, 3, none⟩ = some (.slice r1.p r1.n r1.c) := st5'.gm.head 1 (by omega)
      rw [HN1.out] at c51
      have c51' := c51
      rw [World.cell?_setCell_other _ _ _ _ (by simp)] at c51'
      clear ap5 hg5 st5 st5' c40 hx5
      go_wp2_with (first
        | (at_builtin; refine wpList_app1 _ rfl _ _ rfl r1 i HN1.out.symm rfl (HS5.out.rowA 1 (by omega) _) (by omega) ⟨w5.heap.size, 0, none⟩ 1 zw (by simp [Act.eval]) (cell_new1 _ _ _ _ (World.size_setCell _ _ _).symm) ?_)
        | fail)
      intro w6 b6 c6 ap6
      have hg6 := HS5.out.behind (Below.alloc0 _ _) 1 (by omega) ap6
      have c61 : w6.cell? ⟨gb, 3, none⟩ = some (.slice r1.p i r1.c) := by rw [cell_of hg6]; exact c51
      have f61 : w6.frozen? ⟨gb, 3, none⟩ = false := by rw [frozen_of hg6]; exact HS5.out.gm.soft 3
      have st6 := HS5.out.app HK.out.ok (Below.alloc0 _ _) 1 (by omega) ap6 rfl HF1.out
      have hx6 := HS5.out.appX (Below.alloc0 _ _) 1 (by omega) ap6 rfl HF1.out
      rw [show ((rows4 ⟨some ⟨b5, 0, none⟩, i + 1, c5, b5, r0.f⟩ r1 r2 r3) 1).n = i from HN1.out] at hx6
      rw [rows4_up1, show ((rows4 ⟨some ⟨b5, 0, none⟩, i + 1, c5, b5, r0.f⟩ r1 r2 r3) 1).n = i from HN1.out] at st6
      have st6' : Gst R N A W (fun b => b = xb) gb (pn + 1) (rows4 ⟨some ⟨b5, 0, none⟩, i + 1, c5, b5, r0.f⟩ ⟨some ⟨b6, 0, none⟩, i + 1, c6, b6, r1.f⟩ r2 r3) (w6.setCell ⟨gb, 3, none⟩ (.slice (some ⟨b6, 0, none⟩) (i + 1) c6)) p h3 := st6
      have HX6 : Hid (∀ b, b = xb → (w6.setCell ⟨gb, 3, none⟩ (.slice (some ⟨b6, 0, none⟩) (i + 1) c6)).heap[b]? = w7.heap[b]?) := fun b hb => (hx6 b hb).trans (HX5.out b hb)
      have HS6 := hide st6'
      have c62 : (w6.setCell ⟨gb, 3, none⟩ (.slice (some ⟨b6, 0, none⟩) (i + 1) c6)).cell? ⟨gb, 4, none⟩ = some (.slice r2.p r2.n r2.c) := st6'.gm.head 2 (by omega)
      rw [HN2.out] at c62
      have c62' := c62
      rw [World.cell?_setCell_other _ _ _ _ (by simp)] at c62'
      clear ap6 hg6 st6 st6' c51 c51' HS5 c50 f50 hx6
      go_wp2_with (first
        | (at_builtin; refine wpList_app1 _ rfl _ _ rfl r2 i HN2.out.symm rfl (HS6.out.rowA 2 (by omega) _) (by omega) ⟨w6.heap.size, 0, none⟩ 1 0 (by simp [Act.eval]) (cell_new1 _ _ _ _ (World.size_setCell _ _ _).symm) ?_)
        | fail)
      intro w8 b8 c8 ap8
      have hg8 := HS6.out.behind (Below.alloc0 _ _) 2 (by omega) ap8
      have c82 : w8.cell? ⟨gb, 4, none⟩ = some (.slice r2.p i r2.c) := by rw [cell_of hg8]; exact c62
      have f82 : w8.frozen? ⟨gb, 4, none⟩ = false := by rw [frozen_of hg8]; exact HS6.out.gm.soft 4
      have st8 := HS6.out.app HK.out.ok (Below.alloc0 _ _) 2 (by omega) ap8 rfl HF2.out
      have hx8 := HS6.out.appX (Below.alloc0 _ _) 2 (by omega) ap8 rfl HF2.out
      rw [show ((rows4 ⟨some ⟨b5, 0, none⟩, i + 1, c5, b5, r0.f⟩ ⟨some ⟨b6, 0, none⟩, i + 1, c6, b6, r1.f⟩ r2 r3) 2).n = i from HN2.out] at hx8
      rw [rows4_up2, show ((rows4 ⟨some ⟨b5, 0, none⟩, i + 1, c5, b5, r0.f⟩ ⟨some ⟨b6, 0, none⟩, i + 1, c6, b6, r1.f⟩ r2 r3) 2).n = i from HN2.out] at st8
      have st8' : Gst R N A W (fun b => b = xb) gb (pn + 1) (rows4 ⟨some ⟨b5, 0, none⟩, i + 1, c5, b5, r0.f⟩ ⟨some ⟨b6, 0, none⟩, i + 1, c6, b6, r1.f⟩ ⟨some ⟨b8, 0, none⟩, i + 1, c8, b8, r2.f⟩ r3) (w8.setCell ⟨gb, 4, none⟩ (.slice (some ⟨b8, 0, none⟩) (i + 1) c8)) p h3 := st8
      have HX8 : Hid (∀ b, b = xb → (w8.setCell ⟨gb, 4, none⟩ (.slice (some ⟨b8, 0, none⟩) (i + 1) c8)).heap[b]? = w7.heap[b]?) := fun b hb => (hx8 b hb).trans (HX6.out b hb)
      have HS8 := hide st8'
      have c83 : (w8.setCell ⟨gb, 4, none⟩ (.slice (some ⟨b8, 0, none⟩) (i + 1) c8)).cell? ⟨gb, 5, none⟩ = some (.slice r3.p r3.n r3.c) := st8'.gm.head 3 (by omega)
      rw [HN3.out] at c83
      have c83' := c83
      rw [World.cell?_setCell_other _ _ _ _ (by simp)] at c83'
      clear ap8 hg8 st8 st8' c62 c62' HS6 c61 f61 hx8
      go_wp2_with (first
        | (at_builtin; refine wpList_app2 _ rfl _ _ rfl r3 i HN3.out.symm rfl (HS8.out.rowA 3 (by omega) _) (by omega) ⟨w8.heap.size, 0, none⟩ 1 (-1) (-1) (by simp [Act.eval]) (cell_new2 _ _ _ _ _ (World.size_setCell _ _ _).symm).1 (cell_new2 _ _ _ _ _ (World.size_setCell _ _ _).symm).2 ?_)
        | fail)
      intro w9 b9 c9 ap9
      have hg9 := HS8.out.behind (Below.alloc0 _ _) 3 (by omega) ap9
      have c93 : w9.cell? ⟨gb, 5, none⟩ = some (.slice r3.p i r3.c) := by rw [cell_of hg9]; exact c83
      have f93 : w9.frozen? ⟨gb, 5, none⟩ = false := by rw [frozen_of hg9]; exact HS8.out.gm.soft 5
      have st9 := HS8.out.app HK.out.ok (Below.alloc0 _ _) 3 (by omega) ap9 rfl HF3.out
      have hx9 := HS8.out.appX (Below.alloc0 _ _) 3 (by omega) ap9 rfl HF3.out
      rw [show ((rows4 ⟨some ⟨b5, 0, none⟩, i + 1, c5, b5, r0.f⟩ ⟨some ⟨b6, 0, none⟩, i + 1, c6, b6, r1.f⟩ ⟨some ⟨b8, 0, none⟩, i + 1, c8, b8, r2.f⟩ r3) 3).n = i from HN3.out] at st9 hx9
      have HEnd : Hid (LayX R N A W (fun b => b = xb) gb (pn + 1) (i + 1) d0 (fun _ _ => -1) p w7 (w9.setCell ⟨gb, 5, none⟩ (.slice (some ⟨b9, 0, none⟩) (i + 1) c9))) := HNext.out _ _ _ _ _ _ _ _ _ (st9.four (rows4_up3 _ _ _ _ _)) (fun b hb => (hx9 b hb).trans (HX8.out b hb))
      clear ap9 hg9 st9 c83 c83' HS8 c82 f82 hx9
      go_wp2_with fail
      go_roundw
      case rel => exact ⟨i + 1, by omega, by go_num, HEnd.out⟩
      case measure => simp [intOf]; omega
    · have bi : ¬ (i : Int) < ((pn + 1 : Nat) : Int) := by omega
      obtain rfl : i = pn + 1 := by omega
      have HS1 : Hid (LayX R N A W (fun b => b = xb) gb (pn + 1) (pn + 1) d0 (fun _ _ => -1) p w7 wr) := ⟨h, d, r0, r1, r2, r3, st, g, l, ⟨hdb, hdf, hrs, hov, hlo, hge, hfr⟩, ⟨hn0, hn1, hn2, hn3⟩, ⟨hf0, hf1, hf2, hf3⟩, hvs, hXw⟩
      clear HSt st g l hdb hdf hrs hn0 hn1 hn2 hn3 hf0 hf1 hf2 hf3 hvs hXw hov hlo hge hfr
      go_wp2_with fail
      go_loopw [12, 13, 14] (fun iv _ _ w' => ∃ (i : Nat) (rs : Nat → Nat → Int), i ≤ pn + 1 ∧ iv = .int .i64 i ∧ LayX R N A W (fun b => b = xb) gb (pn + 1) (pn + 1) d0 rs p w7 w') (fun iv _ _ _ => pn + 1 - (intOf iv).toNat)
      case atStart => exact ⟨0, fun _ _ => -1, by omega, rfl, HS1.out⟩
      case round =>
        clear HS1 cN
        obtain ⟨i, rs, hi, rfl, ls⟩ := hrel
        have HLs := hide ls
        obtain ⟨h, d, r0, r1, r2, r3, st, g, l, ⟨hdb, hdf, hrs, hov, hlo, hge, hfr⟩, ⟨hn0, hn1, hn2, hn3⟩, ⟨hf0, hf1, hf2, hf3⟩, hvs, hXw⟩ := ls
        have cN := st.gm.num
        have cx2 : wr.cell? ⟨xb, 2, none⟩ = some (.slice pr nr cr) := by rw [cell_of (hXw xb rfl)]; exact HC2.out
        by_cases hgo : i < pn + 1 ∧ i < nr
        · have bi1 : (i : Int) < (pn : Int) + 1 := by omega
          have bi2 : (i : Int) < (nr : Int) := by omega
          obtain ⟨gr, or, rfl, hgr, hcr⟩ := HGi.out.r (by omega)
          have hrr := HGi.out.rr i 0 hgo.2 (by omega)
          have crf : wr.cell? ⟨gr, or + i * 2, none⟩ = some (.int .i64 (Rf i 0)) := by rw [st.hp.below.cell (by show gr < _; exact hgr)]; exact hcr i hgo.2 0 (by omega)
          obtain ⟨t, et, ht⟩ := pickY_nat (Rf i 0) ((pn : Int) + 1) (by omega)
          have HPt := hide (fun w' => kpick_y (Rf i 0) ((pn : Int) + 1) w' (by omega) (by omega) hrr.1 hrr.2)
          have htn : t < pn + 1 := by omega
          obtain ⟨h2, ep, g2⟩ := l.point g (by omega) i 0 (by omega) (by omega) t (by omega)
          rw [if_pos htn] at ep g2
          have HSt := hide st
          have HNew : Hid (∀ wN, Gst R N A W (fun b => b = xb) gb (pn + 1) (rows4 r0 r1 r2 { r3 with f := Tm.up r3.f (i * 2 + 0) (.int .i64 (t : Int)) }) wN p h2 → (∀ b, b = xb → wN.heap[b]? = w7.heap[b]?) → LayX R N A W (fun b => b = xb) gb (pn + 1) (pn + 1) d0 (Tm.up2 rs i 0 (t : Int)) p w7 wN) := fun wN stN hxN => by
            refine ⟨h2, _, r0, r1, r2, _, stN, g2, l.rs _, ⟨hdb, hdf, ?_, hov, hlo, hge, hfr⟩, ⟨hn0, hn1, hn2, hn3⟩, ⟨hf0, hf1, hf2, ?_⟩, hvs, hxN⟩
            · show Tm.up2 d.rs i 0 (t : Int) = _
              rw [hrs]
            · show Tm.up r3.f (i * 2 + 0) (.int .i64 (t : Int)) = _
              rw [hf3, gF3_up _ _ _ (by omega)]
          have HNs : Hid (r0.n = pn + 1 ∧ r3.n = pn + 1 ∧ r0.f = gF0 1) := ⟨hn0, hn3, hf0⟩
          have HXw := hide hXw
          have HEp := hide ep
          clear st g l hcr g2 ep hn0 hn1 hn2 hn3 hf0 hf1 hf2 hf3 hvs hdb hdf hrs hrr HLs hXw hov hlo hge hfr
          generalize Rf i 0 = rf at *
          go_upto_region 16 with fail
          go_cut [13] (fun v wx => v = .int .i64 (t : Int) ∧ Gst R N A W (fun b => b = xb) gb (pn + 1) (rows4 r0 r1 r2 r3) wx p h ∧ ∀ b, b = xb → wx.heap[b]? = w7.heap[b]?)
          case first =>
            go_quiet ((go_at_call 16; exact Calls.quiet_of_same (HPt.out _)))
            all_goals go_wp2_with fail
            all_goals go_meet
            all_goals exact ⟨by first | rfl | rw [et], HSt.out.dn HK.out.ok (below_dN (Below.refl _ _) _), HXw.out⟩
          case rest =>
            obtain ⟨rfl, st, hXc⟩ := hcut
            have HXc := hide hXc
            have xD : Gst R N A W (fun b => b = xb) gb (pn + 1) (rows4 r0 r1 r2 r3) wc.drew p h := st.dn HK.out.ok ⟨rfl, rfl, rfl, Nat.le_refl _, fun _ _ => rfl⟩
            obtain ⟨q1, q2⟩ := st.gm.read 0 (by omega) (by show r0.n = _; exact HNs.out.1) (by omega)
            have c2 : wc.cell? ⟨gb, 2, none⟩ = some (.slice (some ⟨r0.b, 0, none⟩) (pn + 1) r0.c) := q1
            have cli : wc.cell? ⟨r0.b, i, none⟩ = some (.int .i64 (Tm.hand 1 (1 + i) (Tm.lg (1 + i)))) := (q2 i (by show i < (pn + 1) * 1; omega)).trans (by show some (r0.f i) = _; rw [HNs.out.2.2]; rfl)
            have clt : wc.cell? ⟨r0.b, t, none⟩ = some (.int .i64 (Tm.hand 1 (1 + t) (Tm.lg (1 + t)))) := (q2 t (by show t < (pn + 1) * 1; omega)).trans (by show some (r0.f t) = _; rw [HNs.out.2.2]; rfl)
            have hzi : Tm.hand 1 (1 + i) (Tm.lg (1 + i)) < 9223372036854775808 := by have := Tm.lg_bd (1 + i); unfold Tm.hand; omega
            have hzt : Tm.hand 1 (1 + t) (Tm.lg (1 + t)) < 9223372036854775808 := by have := Tm.lg_bd (1 + t); unfold Tm.hand; omega
            have hpt := xD.hp.point HK.out xD.size (Tm.hand 1 (1 + i) (Tm.lg (1 + i))) 1 (Tm.hand 1 (1 + t) (Tm.lg (1 + t))) hzi hzt
            have hep : h.point (Tm.hand 1 (1 + i) (Tm.lg (1 + i))) 1 (Tm.hand 1 (1 + t) (Tm.lg (1 + t))) = (Tm.fine, h2) := HEp.out
            rw [hep] at hpt
            have HPo := hide hpt
            have HXD := hide xD
            have HOw : Hid (ownG gb (rows4 r0 r1 r2 r3) gb ∧ ownG gb (rows4 r0 r1 r2 r3) r0.b) := ⟨Or.inl rfl, Or.inr ⟨0, by omega, by have := (st.gm.row 0 (by omega)).cap; have h1 : r0.n = pn + 1 := HNs.out.1; have h2 : r0.n ≤ r0.c := this; show 0 < r0.c; omega, rfl⟩⟩
            clear st hXc xD q1 q2 hpt hep cx2 cN crf HSt HPt et HXw HEp
            generalize Tm.hand 1 (1 + i) (Tm.lg (1 + i)) = zi at *
            generalize Tm.hand 1 (1 + t) (Tm.lg (1 + t)) = zt at *
            have c2d : wc.drew.cell? ⟨gb, 2, none⟩ = some (.slice (some ⟨r0.b, 0, none⟩) (pn + 1) r0.c) := c2
            have clid : wc.drew.cell? ⟨r0.b, i, none⟩ = some (.int .i64 zi) := cli
            have cltd : wc.drew.cell? ⟨r0.b, t, none⟩ = some (.int .i64 zt) := clt
            have btl : (t : Int) < (pn : Int) + 1 := by omega
            go_upto_region 17 with fail
            go_cut [14] (fun ev wx => ev = .nilIface ∧ Gst R N A W (fun b => b = xb) gb (pn + 1) (rows4 r0 r1 r2 r3) wx p h2 ∧ ∀ b, b = xb → wx.heap[b]? = w7.heap[b]?)
            case first =>
              go_region_held3 (fun w' => w'.cell? ⟨gb, 2, none⟩ = some (.slice (some ⟨r0.b, 0, none⟩) (pn + 1) r0.c) ∧ w'.cell? ⟨r0.b, i, none⟩ = some (.int .i64 zi) ∧ w'.cell? ⟨r0.b, t, none⟩ = some (.int .i64 zt)) (first | (with_reducible exact ⟨by assumption, by assumption, by assumption⟩) | go_keep) (first
                | (go_at_call 43
                   refine HPo.out.mono ?_
                   rintro e w2 ⟨ev, rfl, he, x2, hz2, hk2'⟩
                   obtain rfl := he.nil rfl
                   have HFin := hide (And.intro (HXD.out.call x2 hz2 hk2') (fun b (hb : b = xb) => (hk2' b (Or.inr hb)).trans (HXc.out b hb)))
                   have e1 : w2.cell? ⟨gb, 2, none⟩ = some (.slice (some ⟨r0.b, 0, none⟩) (pn + 1) r0.c) := by rw [cell_of (hk2' _ (Or.inl HOw.out.1))]; exact c2
                   have e2 : w2.cell? ⟨r0.b, i, none⟩ = some (.int .i64 zi) := by rw [cell_of (hk2' _ (Or.inl HOw.out.2))]; exact cli
                   have e3 : w2.cell? ⟨r0.b, t, none⟩ = some (.int .i64 zt) := by rw [cell_of (hk2' _ (Or.inl HOw.out.2))]; exact clt
                   clear he x2 hz2 hk2'))
              all_goals go_wp2_with fail
              all_goals go_meet
              all_goals exact ⟨rfl, HFin.out⟩
            case rest =>
              obtain ⟨rfl, st, hXd⟩ := hcut
              obtain ⟨cR, hcR⟩ := st.gm.read 3 (by omega) (by show r3.n = _; exact HNs.out.2.1) (by omega)
              have cR' : wc.cell? ⟨gb, 5, none⟩ = some (.slice (some ⟨r3.b, 0, none⟩) (pn + 1) r3.c) := cR
              have cRt : wc.cell? ⟨r3.b, i * 2, none⟩ = some (r3.f (i * 2)) := hcR (i * 2) (by show i * 2 < (pn + 1) * 2; omega)
              have hq3 : i * 2 + 0 < ((rows4 r0 r1 r2 r3) 3).n * 2 := by show i * 2 + 0 < r3.n * 2; rw [HNs.out.2.1]; omega
              have fR : wc.frozen? ⟨r3.b, i * 2, none⟩ = false := (st.gm.ref (i * 2 + 0) hq3 (.int .i64 (t : Int))).2
              have st3 := (st.ref HK.out.ok (i * 2 + 0) hq3 (.int .i64 (t : Int))).four (rows4_up3 r0 r1 r2 r3 _)
              have hro : r3.b ≠ xb := fun e => st.off xb rfl (Or.inr ⟨3, by omega, by have := (st.gm.row 3 (by omega)).cap; have h1 : r3.n = pn + 1 := HNs.out.2.1; have h2 : r3.n ≤ r3.c := this; show 0 < r3.c; omega, e.symm⟩)
              have HEnd : Hid (LayX R N A W (fun b => b = xb) gb (pn + 1) (pn + 1) d0 (Tm.up2 rs i 0 (t : Int)) p w7 (wc.setCell ⟨r3.b, i * 2, none⟩ (.int .i64 (t : Int)))) := HNew.out _ st3 (fun b hb => by rw [Below.heap_setCell _ _ _ _ (fun e => hro (by rw [← hb]; exact e.symm))]; exact hXd b hb)
              clear st hXd cR hcR st3 hro hq3 HPo HXD HNew c2 cli clt c2d clid cltd
              generalize r3.f (i * 2) = vold at *
              go_wp2_with fail
              go_roundw
              case rel => exact ⟨i + 1, _, by omega, by go_num, HEnd.out⟩
              case measure => simp [intOf]; omega
        · have hif : ¬ (i : Int) < (pn : Int) + 1 ∨ ((i : Int) < (pn : Int) + 1 ∧ ¬ (i : Int) < (nr : Int)) := by omega
          clear st g l hdb hdf hrs hn0 hn1 hn2 hn3 hf0 hf1 hf2 hf3 hvs hXw hov hlo hge hfr
          rcases hif with b1 | ⟨b1, b2⟩
          all_goals
            go_wp2_with fail
            refine bodyPost_ret (v := .tuple #[.pointer (some ⟨gb, 0, none⟩), .bool true]) (by simp [results, Tryz.results38, go_sem]) rfl ?_
            obtain ⟨h, d, r0, r1, r2, r3, st, g, l, ⟨hdb, hdf, hrs, hov, hlo, hge, hfr⟩, ⟨hn0, hn1, hn2, hn3⟩, ⟨hf0, hf1, hf2, hf3⟩, hvs, hXw⟩ := HLs.out
            have hdn := l.n
            refine ⟨gb, rows4 r0 r1 r2 r3, h, d, fun b => b = xb, rfl, by rw [hdn]; exact st, g, ⟨fun k hk => ?_, fun i hi => ?_, fun i hi => ?_, fun i hi => ?_, fun i k hi hk => ?_⟩, by rw [hdn]; exact l, by omega, hdb, hdf, hov, hlo, hge, hfr⟩
            · rw [hdn]
              have : k = 0 ∨ k = 1 ∨ k = 2 ∨ k = 3 := by omega
              rcases this with rfl | rfl | rfl | rfl
              · exact hn0
              · exact hn1
              · exact hn2
              · exact hn3
            · show r0.f i = _
              rw [hf0]; rfl
            · show r1.f i = _
              rw [hf1]; rfl
            · show r2.f i = _
              rw [hf2, hvs i (by omega)]; rfl
            · show r3.f (i * 2 + k) = _
              rw [hf3, gF3_at _ _ _ hk, hrs]
end
end Go.Proofs.YtcnmfljpmpgnjaaGreatDoor

namespace Go.Proofs.YtcnmfljpmpgnjaaGreatDoor
namespace Tm

/-- What Framed begins with: an object from outside, then a frame. -/
theorem frame_first (M : List Bool) (v : Int) (hv : 0 ≤ v ∧ v ≤ 1000000000) :
    ∃ h1 h2 h3 d, b4.ofClass M 0 = ((hand 1 0 2, fine), h1) ∧ h1.set (hand 1 0 2) 0 v = (fine, h2) ∧ h2.push = (fine, h3) ∧ Gh h3 d ∧ LayD d 1 0 ∧ (d.rs = fun _ _ => -1) ∧ d.b = 2 ∧ d.f = 2 ∧ d.ov 1 = v ∧ d.lo 0 = 2 ∧ d.ge 0 = 2 ∧ d.fr 0 = 1 := by
  obtain ⟨h1, e1, g1⟩ := Gh.b4.make (LayD.first.nxt (by omega)) (by decide) M
  have ho := g1.objL 0 (by omega) (by decide) 0 (by decide) (by decide) (by decide)
  obtain ⟨h2, e2, g2⟩ := g1.set (x := hand 1 0 2) 0 (by decide) ho v hv
  obtain ⟨h3, e3, g3⟩ := g2.push (by show (1 : Int) < 6; decide)
  refine ⟨h1, h2, h3, ⟨2, 0, 0, fun j => if j = 0 then 5 else v, fun _ => 0, fun _ _ => -1, fun _ => false, fun _ => 0, up (fun _ => 0) 0 2, up (fun i => if i = 0 then 1 else 0) 0 2, up (fun i => if i = 0 then 1 else 0) 0 1, fun _ => 0, fun _ => 0, 2⟩, e1, e2, e3, ?_, ?_, rfl, rfl, rfl, rfl, rfl, rfl, rfl⟩
  · refine ⟨by show 0 ≤ 10; omega, by show 1 ≤ 2 ∧ 2 ≤ 2; omega, g3.len, (fun i hi => absurd hi (Nat.not_lt_zero _)), fun j hj => ?_, g3.t1, g3.t2, g3.t3, fun i hi => ?_, g3.glo, (fun i hi => absurd hi (Nat.not_lt_zero _)), g3.wk0, g3.room, g3.cls, g3.frames, (fun i k hi => absurd hi (Nat.not_lt_zero _)), Nat.le_refl _⟩
    · have hj2 : j = 0 ∨ j = 1 := by have : j < 2 := hj; omega
      rcases hj2 with rfl | rfl
      · exact g3.old 0 (by show 0 < 1; omega)
      · exact g3.at' 0 (by show 0 < 1; omega)
    · exact g3.loc i hi
  · refine ⟨rfl, rfl, fun j hj => absurd hj (Nat.not_lt_zero _), fun j hj => absurd hj (Nat.not_lt_zero _), fun j hj => ?_, fun j hj => absurd hj (Nat.not_lt_zero _), fun j hj _ => ?_, fun j hj => absurd hj (Nat.not_lt_zero _), fun j hj _ => ?_, fun j hj => absurd hj (Nat.not_lt_zero _), fun _ => rfl, fun _ => rfl⟩
    · obtain rfl : j = 0 := by omega
      show up (fun _ => (0 : Int)) 0 2 0 ≠ 0
      rw [up_at]; decide
    · show up (fun _ => (0 : Int)) 0 2 j = 0
      rw [up_ne _ _ _ _ (by omega)]
    · show up (fun i => if i = 0 then (1 : Int) else 0) 0 2 j + 1 = lg j
      rw [up_ne _ _ _ _ (by omega), if_neg (by omega)]
      unfold lg
      rw [if_neg (by omega)]; rfl

/-- Behind the frame: what comes out, or nothing. -/
structure Out (d : GD) (n out : Nat) (o : Int) : Prop where
  lo0 : d.lo 0 = 2
  lo1 : d.lo 1 = if out < n then ((d.b + out + 1 : Nat) : Int) else 0
  lo2 : ∀ s, 2 ≤ s → s < 16 → d.lo s = 0
  ge0 : d.ge 0 = 2
  ge1 : out < n → d.ge 1 = 2
  is : o = if out < n then hand 1 1 2 else 0

theorem LayD.pop {h : H} {d : GD} (l : LayD d 1 d.n) (g : Gh h d) (hf : d.f = 2) (h0 : d.lo 0 = 2) (hg : d.ge 0 = 2) (hfr : d.fr 0 = 1) (hn : 1 ≤ d.n) (out : Nat) :
    ∃ h' d' o, h.pop (if out < d.n then hand 1 (1 + out) (lg (1 + out)) else 0) = ((o, fine), h') ∧ Gh h' d' ∧ Out d' d.n out o ∧ d'.n = d.n ∧ d'.b = d.b ∧ d'.f = 1 ∧ d'.rs = d.rs ∧ d'.ov = d.ov ∧ d'.nw = d.nw ∧ d'.go = d.go ∧ d'.pn = d.pn ∧ d'.gl = d.gl := by
  have hn10 := g.few
  have hlo : ∀ s, s < 16 → (if d.fr s = d.f then 0 else d.lo s) = if s = 0 then 2 else 0 := fun s hs => by
    rcases Nat.eq_zero_or_pos s with rfl | q
    · rw [hfr, hf, if_neg (by omega), h0, if_pos rfl]
    · rw [if_neg (show ¬ s = 0 by omega)]
      obtain ⟨j, rfl⟩ : ∃ j, s = 1 + j := ⟨s - 1, by omega⟩
      rcases Nat.lt_or_ge j d.n with q2 | q2
      · rw [l.fr1 j q2, if_pos rfl]
      · rw [l.lo2 (1 + j) (by omega) hs]
        split <;> rfl
  by_cases q : out < d.n
  · have hob := l.obj g (by omega) out q
    have hp : h.perhaps (hand 1 (1 + out) (lg (1 + out))) = (((d.b + out + 1 : Nat) : Int), fine) := by
      unfold H.perhaps
      have := hand_pos (k := 1) (i := 1 + out) (lg_bd (1 + out)).1
      rw [if_neg (by omega), hob]
    have hge1 : d.ge 1 = 1 := by have := l.ge1 0 (by omega); exact this
    have nx : Nxt { d with lo := fun s => if d.fr s = d.f then 0 else d.lo s, f := d.f - 1 } 1 := by
      refine ⟨by omega, fun i hi => ?_, ?_, ?_, ?_⟩
      · show (if d.fr i = d.f then 0 else d.lo i) ≠ 0
        rw [hlo i (by omega), if_pos (by omega)]; omega
      · show (if d.fr 1 = d.f then 0 else d.lo 1) = 0
        rw [hlo 1 (by omega), if_neg (by omega)]
      · show 0 ≤ d.ge 1
        omega
      · show d.ge 1 < 50
        omega
    obtain ⟨h', e, g'⟩ := g.pop (by omega) (x := hand 1 (1 + out) (lg (1 + out))) (by omega) hp nx
    rw [hge1] at e g'
    refine ⟨h', _, hand 1 1 2, by rw [if_pos q]; exact e, g', ⟨?_, ?_, fun s h1 h2 => ?_, ?_, fun _ => ?_, by rw [if_pos q]⟩, rfl, rfl, by show d.f - 1 = 1; omega, rfl, rfl, rfl, rfl, rfl, rfl⟩
    · show up (fun s => if d.fr s = d.f then 0 else d.lo s) 1 ((d.b + out + 1 : Nat) : Int) 0 = 2
      rw [up_ne _ _ _ _ (by omega), hlo 0 (by omega), if_pos rfl]
    · show up (fun s => if d.fr s = d.f then 0 else d.lo s) 1 ((d.b + out + 1 : Nat) : Int) 1 = if out < d.n then ((d.b + out + 1 : Nat) : Int) else 0
      rw [up_at, if_pos q]
    · show up (fun s => if d.fr s = d.f then 0 else d.lo s) 1 ((d.b + out + 1 : Nat) : Int) s = 0
      rw [up_ne _ _ _ _ (by omega), hlo s h2, if_neg (by omega)]
    · show up d.ge 1 (1 + 1) 0 = 2
      rw [up_ne _ _ _ _ (by omega)]; exact hg
    · show up d.ge 1 (1 + 1) 1 = 2
      rw [up_at]; rfl
  · refine ⟨h.popF, _, 0, by rw [if_neg q]; exact g.pop0 (by omega), g.popF, ⟨?_, ?_, fun s h1 h2 => ?_, hg, fun h => absurd h q, by rw [if_neg q]⟩, rfl, rfl, by show d.f - 1 = 1; omega, rfl, rfl, rfl, rfl, rfl, rfl⟩
    · show (if d.fr 0 = d.f then 0 else d.lo 0) = 2
      rw [hlo 0 (by omega), if_pos rfl]
    · show (if d.fr 1 = d.f then 0 else d.lo 1) = _
      rw [hlo 1 (by omega), if_neg (by omega), if_neg q]
    · show (if d.fr s = d.f then 0 else d.lo s) = 0
      rw [hlo s h2, if_neg (by omega)]

theorem Out.F {d : GD} {out : Nat} {o : Int} (x : Out d d.n out o) (hb : d.b = 2) (hg : ∀ s, d.gl s = 0) (hp : ∀ i, i < d.n → d.pn i = 0) (i : Nat) (hi : i < d.n) : d.F i ↔ i = out := by
  unfold GD.F
  constructor
  · rintro (⟨s, hs, e⟩ | ⟨s, _, e⟩ | ⟨e, _⟩)
    · have : s = 0 ∨ s = 1 ∨ 2 ≤ s := by omega
      rcases this with rfl | rfl | q
      · rw [x.lo0, hb] at e; omega
      · rw [x.lo1] at e
        split at e <;> omega
      · rw [x.lo2 s q hs] at e; omega
    · rw [hg] at e; omega
    · rw [hp i hi] at e; omega
  · rintro rfl
    exact Or.inl ⟨1, by omega, by rw [x.lo1, if_pos hi]⟩
theorem Out.coll {h : H} {d : GD} {out : Nat} {o : Int} (x : Out d d.n out o) (g : Gh h d) (hb : d.b = 2) (hg : ∀ s, d.gl s = 0) (hp : ∀ i, i < d.n → d.pn i = 0) (hgo : ∀ i, i < d.n → d.go i = false) {M : List Bool} (m : Marked h M) (fs : List Bool) (hfs : ∀ i, i < d.n → (fs.getD i false = true ↔ Cl d.n d.rs (fun j => j = out) i)) :
    ∃ d', Gh (h.collTo M h.l.length) d' ∧ d'.lo = d.lo ∧ d'.ge = d.ge ∧ d'.b = d.b ∧ d'.ov = d.ov ∧ d'.f = d.f ∧ h.collNum M h.l.length = (d.n : Int) - (cnt (ofL fs) d.n : Int) := by
  have hF : ∀ i, i < d.n → (ofL fs i = true ↔ Cl d.n d.rs d.F i) := fun i hi => by
    rw [show ofL fs i = fs.getD i false from rfl, hfs i hi]
    exact Cl.congr (fun j hj => (x.F hb hg hp j hj).symm)
  obtain ⟨g', en⟩ := g.coll m (fun j h1 h2 => by
    obtain rfl : j = 1 := by omega
    refine Reach.root (Or.inl ⟨1, 0, Or.inl rfl, by rw [g.t1]; omega, ?_⟩)
    rw [g.loc 0 (by omega)]
    exact x.lo0) (ofL fs) hF
  refine ⟨_, g', rfl, rfl, rfl, rfl, rfl, ?_⟩
  rw [en]
  have e1 : cnt (fun i => !d.go i && !ofL fs i) d.n = cnt (fun i => !ofL fs i) d.n := cnt_congr (fun i hi => by rw [hgo i hi]; rfl)
  have e2 := cnt_not (ofL fs) d.n
  rw [e1]; omega
/-- What lies outside is as it was left. -/
theorem Gh.getOld {h : H} {d : GD} (g : Gh h d) (hb : d.b = 2) (h0 : d.lo 0 = 2) (hg : d.ge 0 = 2) : h.get (hand 1 0 2) 0 = (d.ov 1, fine) := by
  have e : h.of (hand 1 0 2) = (2, fine) := by
    have := g.ofL 0 (by omega) (by omega) (by omega)
    rw [hg, h0] at this; exact this
  have ho : h.ob 2 = gold d 1 := g.oldOb 1 (by omega)
  have e2 : h.object (hand 1 0 2) = (2, fine) := by unfold H.object; rw [e]; simp only; rw [ho, if_neg (by simp [gold])]
  unfold H.get
  rw [e2]
  simp only
  have hf : h.hasField 2 0 1 = true := by unfold H.hasField; rw [ho]; rfl
  rw [if_neg (by simp [fine]), hf, if_pos rfl, ho]; rfl
end Tm
end Go.Proofs.YtcnmfljpmpgnjaaGreatDoor
