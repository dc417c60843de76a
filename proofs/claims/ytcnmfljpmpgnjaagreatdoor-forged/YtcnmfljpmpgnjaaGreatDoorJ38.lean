import Derived.Test.YtcnmfljpmpgnjaaGreatDoorJ01
import Derived.Test.YtcnmfljpmpgnjaaGreatDoorJ37
namespace Go.Proofs.YtcnmfljpmpgnjaaGreatDoor
namespace Tm

/-- Nobody comes to what no slot and no pin is of, where there are no references. -/
theorem Reach.only {h : H} {Q : Nat → Prop} (h1 : ∀ m, Root h m → Q m) (h2 : ∀ m k, Q m → Edge h m k → Q k) {n : Nat} (r : Reach h n) : Q n := r Q h1 h2

theorem Marked.not {h : H} {M : List Bool} (m : Marked h M) {n : Nat} (hn : n < M.length) (hr : ¬ Reach h n) : M.getD n false = false := by
  cases hM : M.getD n false
  · rfl
  · exact absurd ((m.2 n hn).1 hM) hr
theorem Marked.yes {h : H} {M : List Bool} (m : Marked h M) {n : Nat} (hn : n < M.length) (hr : Reach h n) : M.getD n false = true := (m.2 n hn).2 hr

/-- 'begun' of the laws without the document's answer, call by call. -/
def b0 : H := newH 200 16 4 16 [[1, 2, 2]]
def b1 : H := ⟨200, [⟨[1, 2, 2], [0, 0, 0], 0, -1, false⟩], (b0.setSl 1 0 ⟨1, 1, 1⟩).t, 1, [], [[1, 2, 2]]⟩
def b2 : H := ⟨200, [⟨[1, 2, 2], [5, 0, 0], 0, -1, false⟩], (b0.setSl 1 0 ⟨1, 1, 1⟩).t, 1, [], [[1, 2, 2]]⟩
def b3 : H := ⟨200, [⟨[1, 2, 2], [5, 0, 0], 0, -1, false⟩], ((b0.setSl 1 0 ⟨1, 1, 1⟩).setSl 1 0 ⟨1, 0, 1⟩).t, 1, [], [[1, 2, 2]]⟩
def b4 : H := ⟨200, [⟨[1, 2, 2], [5, 0, 0], 0, -1, true⟩], ((b0.setSl 1 0 ⟨1, 1, 1⟩).setSl 1 0 ⟨1, 0, 1⟩).t, 1, [], [[1, 2, 2]]⟩

theorem b_right : right 200 16 4 16 [[1, 2, 2]] = true := by decide
theorem b_make (M : List Bool) : b0.ofClass M 0 = ((257, fine), b1) := rfl
theorem b_set : b1.set 257 0 5 = (fine, b2) := rfl
theorem b_get : b2.get 257 0 = (5, fine) := rfl
theorem b_free : b2.freed 257 = (fine, b3) := rfl

theorem b3_sl (k i : Nat) : (b3.sl k i).ob = 0 := by
  unfold b3 H.sl H.setSl b0 newH
  simp only
  have hz : ∀ n : Int, ((slots0 n).getD i sl0).ob = 0 := fun n => by
    simp only [slots0, List.getD_eq_getElem?_getD, List.getElem?_replicate]; split <;> rfl
  by_cases e : k = 1
  · subst e
    simp only [if_true]
    cases i with
    | zero => rfl
    | succ i => simp only [slots0, List.getD_eq_getElem?_getD, List.getElem?_set, List.getElem?_replicate, List.length_set, List.length_replicate]; simp; split <;> rfl
  · simp only [if_neg e]
    by_cases e2 : k = 2
    · simp only [if_pos e2]; exact hz 4
    · simp only [if_neg e2]
      by_cases e3 : k = 3
      · simp only [if_pos e3]; exact hz 16
      · simp only [if_neg e3]; rfl
theorem b_reach {n : Nat} (r : Reach b3 n) : n = 0 := by
  refine r.only (Q := fun n => n = 0) (fun m hm => ?_) (fun m k hm he => ?_)
  · rcases hm with ⟨k, i, _, _, e⟩ | ⟨j, hj, e, hp, _⟩
    · rw [b3_sl] at e; omega
    · have : j = 0 := by have : j < 1 := hj; omega
      subst this
      exact absurd hp (by decide)
  · obtain ⟨j, q, _, e, _⟩ := he
    omega
theorem b_coll {M : List Bool} (m : Marked b3 M) : b3.collNum M b3.l.length = 1 ∧ b3.collTo M b3.l.length = b4 := by
  have hM : M.getD 1 false = false := m.not (by rw [m.1]; decide) (fun r => by have := b_reach r; omega)
  have hM' : M.getD (0 + 1) false = false ∧ (b3.l.getD 0 ob0).gone = false := ⟨hM, rfl⟩
  constructor
  · show H.collNum b3 M 1 = 1
    rw [H.collNum, if_pos hM']; rfl
  · show H.collTo b3 M 1 = b4
    rw [H.collTo, if_pos hM']; rfl
end Tm
end Go.Proofs.YtcnmfljpmpgnjaaGreatDoor

namespace Go.Proofs.YtcnmfljpmpgnjaaGreatDoor
open Go.RowKit
open Tm (H Ob Sl Why)

section
variable {R : (Nat → Prop) → World → Nat → H → Prop} {N : Nat} {A : Nat → Addr}

theorem Hp.new {w w' : World} (hE : Errs N A w) {pa : Nat} {S : Nat → Prop} {h : H} {B : Nat} (hB : B ≤ w.heap.size) (hN : N ≤ B) {w0 : World} (hb0 : Below B w0 w) (hb : Below w.heap.size w w') (hr : R S w' pa h) (hS : ∀ x, S x → w.heap.size ≤ x) : Hp R N A B w0 (fun _ => False) w' pa h :=
  ⟨⟨S, hr, fun b hb => ⟨by have := hS b hb; omega, id⟩⟩, hE.below hb hE.le, hN, hb0.trans (hb.mono hB), fun _ q => q.elim, fun _ q => q.elim⟩

/-- The classes of 'begun', in memory. -/
theorem begun_cls (w : World) : ClsIn ((w.alloc (.cells #[.int .i64 1, .int .i64 2, .int .i64 2] 3)).alloc (.cells #[.slice (some ⟨w.heap.size, 0, none⟩) 3 3] 24)) (w.heap.size + 2) (.slice (some ⟨w.heap.size + 1, 0, none⟩) 1 1) [[1, 2, 2]] := by
  refine ⟨_, _, rfl, (fun e => by cases e), by decide, fun _ => ⟨w.heap.size + 1, 0, rfl, by omega, fun i hi => ?_⟩⟩
  obtain rfl : i = 0 := by simp at hi; exact hi
  refine ⟨.slice (some ⟨w.heap.size, 0, none⟩) 3 3, by rw [World.cell?_alloc_at _ _ _ _ (by simp)]; rfl, _, _, rfl, (fun e => by cases e), by decide, fun _ => ⟨w.heap.size, 0, rfl, by omega, fun j hj => ?_⟩⟩
  have hj3 : j < 3 := by simpa using hj
  rw [World.cell?_alloc_past _ _ _ (by simp), World.cell?_alloc_at _ _ _ _ (by simp)]
  have : j = 0 ∨ j = 1 ∨ j = 2 := by omega
  rcases this with rfl | rfl | rfl <;> rfl

set_option maxRecDepth 100000 in
set_option maxHeartbeats 4000000 in
theorem begun_any (K : ProgOK R N A) (KN : NewOK R N A) (w : World) (hE : Errs N A w) :
    Calls Tryz.prog 24 #[] w fun e w' => ∃ p, e = .returned (.pointer (some ⟨p, 0, none⟩)) ∧ Hp R N A w.heap.size w (fun _ => False) w' p Tm.b4 := by
  have HK := hide K
  have hb2 : Below w.heap.size w ((w.alloc (.cells #[.int .i64 1, .int .i64 2, .int .i64 2] 3)).alloc (.cells #[.slice (some ⟨w.heap.size, 0, none⟩) 3 3] 24)) := (Below.alloc0 _ _).trans ((Below.alloc0 _ _).mono (by simp))
  have HB2 := hide hb2
  have hE2 := hE.below hb2 hE.le
  have HE2 := hide hE2
  have hz : ((w.alloc (.cells #[.int .i64 1, .int .i64 2, .int .i64 2] 3)).alloc (.cells #[.slice (some ⟨w.heap.size, 0, none⟩) 3 3] 24)).heap.size = w.heap.size + 2 := by simp
  have HZ := hide hz
  have HNew := hide (KN.yes _ 200 16 4 16 (w.heap.size + 1) [[1, 2, 2]] 1 hE2 (by rw [hz]; exact begun_cls w) Tm.b_right)
  have HLe := hide hE.le
  clear hb2 hE2 hz hE KN K
  go_enter Tryz.func24, Tryz.ntmps24
  go_wp2_with fail
  refine HNew.out.mono ?_
  rintro e w1 ⟨p, S, rfl, hb1, hr1, hS1⟩
  have x1 : Hp R N A w.heap.size w (fun _ => False) w1 p Tm.b0 := Hp.new HE2.out (by rw [HZ.out]; omega) HLe.out HB2.out hb1 hr1 hS1
  have HX1 := hide x1
  clear x1 hb1 hr1 hS1 HNew
  obtain ⟨M0, hM0⟩ := Tm.marked_exists Tm.b0
  have HMk := hide (HX1.out.make HK.out (HX1.out.size (Nat.le_refl _)) hM0 (by decide) (by decide) 0)
  rw [Tm.b_make] at HMk
  clear hM0
  go_wp2_with fail
  refine HMk.out.mono ?_
  rintro e w2 ⟨ev, rfl, he, x2, _, _⟩
  obtain rfl := he.nil rfl
  have HSt := hide (x2.set HK.out (x2.size (Nat.le_refl _)) 257 0 5 (by decide))
  rw [Tm.b_set] at HSt
  clear he x2 HMk HX1
  go_wp2_with fail
  refine HSt.out.mono ?_
  rintro e w3 ⟨ev, rfl, he, x3, _, _⟩
  obtain rfl := he.nil rfl
  have HGt := hide (x3.get HK.out (x3.size (Nat.le_refl _)) 257 0 (by decide))
  rw [Tm.b_get] at HGt
  clear he x3 HSt
  go_wp2_with fail
  refine HGt.out.mono ?_
  rintro e w4 ⟨ev, rfl, he, x4, _, _⟩
  obtain rfl := he.nil rfl
  have HFr := hide (x4.free HK.out (x4.size (Nat.le_refl _)) 257 (by decide))
  rw [Tm.b_free] at HFr
  clear he x4 HGt
  go_wp2_with fail
  refine HFr.out.mono ?_
  rintro e w5 ⟨ev, rfl, he, x5, _, _⟩
  obtain rfl := he.nil rfl
  obtain ⟨M3, hM3⟩ := Tm.marked_exists Tm.b3
  have hcl := x5.collect HK.out (x5.size (Nat.le_refl _)) hM3
  rw [(Tm.b_coll hM3).1, (Tm.b_coll hM3).2] at hcl
  have HCl := hide hcl
  clear he x5 HFr hM3 hcl
  go_wp2_with fail
  refine HCl.out.mono ?_
  rintro e w6 ⟨rfl, x6, _, _⟩
  have HX6 := hide x6
  clear x6 HCl
  go_wp2_with fail
  go_ret
  exact ⟨p, rfl, HX6.out⟩
end
end Go.Proofs.YtcnmfljpmpgnjaaGreatDoor
