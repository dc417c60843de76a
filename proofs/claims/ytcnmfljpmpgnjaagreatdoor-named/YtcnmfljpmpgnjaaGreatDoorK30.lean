import Derived.Test.YtcnmfljpmpgnjaaGreatDoorK29
namespace Go.Proofs.YtcnmfljpmpgnjaaGreatDoor
open Go.RowKit
open Tm (H Ob Sl Why)

/-- The world in which 'asked' makes its calls. -/
def askW (w : World) (pa ra : Nat) (kind xA xB xD xE c0 c1 c2 c3 : Int) (cp : Option Addr) (cn cc : Nat) : World :=
  (w.alloc (.cells #[.pointer (some ⟨pa, 0, none⟩), .pointer (some ⟨ra, 0, none⟩)] 116)).alloc (.cells #[.int .i64 kind, .int .i64 xA, .int .i64 xB, .int .i64 xD, .int .i64 xE, .int .i64 c0, .int .i64 c1, .int .i64 c2, .int .i64 c3, .slice cp cn cc] 85)

theorem askW_size (w : World) (pa ra : Nat) (kind xA xB xD xE c0 c1 c2 c3 : Int) (cp : Option Addr) (cn cc : Nat) : (askW w pa ra kind xA xB xD xE c0 c1 c2 c3 cp cn cc).heap.size = w.heap.size + 2 := by simp [askW]
theorem askW_below (w : World) (pa ra : Nat) (kind xA xB xD xE c0 c1 c2 c3 : Int) (cp : Option Addr) (cn cc : Nat) : Below w.heap.size w (askW w pa ra kind xA xB xD xE c0 c1 c2 c3 cp cn cc) := (Below.alloc0 _ _).trans ((Below.refl _ _).alloc (by simp) _)

/-- It answers true; what was so behind the calls is so still, but for a box of its own. -/
def AskPost (w : World) (Q : World → Prop) (e : Ending) (w' : World) : Prop :=
  e = .returned (.bool true) ∧ ∃ w3, Q w3 ∧ Kept (fun x => x = w.heap.size + 1 + 1 + 1 + 1) w3 w'

set_option maxRecDepth 100000 in
set_option maxHeartbeats 4000000 in
theorem asked_Make (N : Nat) (A : Nat → Addr) (w : World) (wb pa ra : Nat) (xA xB xD xE c0 c1 c2 c3 : Int) (cp : Option Addr) (cn cc : Nat) (Q2 : Int → Value → Int → Why → World → Prop)
    (h1 : Calls Tryz.prog 112 #[.agg #[.pointer (some ⟨pa, 0, none⟩), .pointer (some ⟨ra, 0, none⟩)], .agg #[.int .i64 2, .int .i64 xA, .int .i64 xB, .int .i64 xD, .int .i64 xE, .int .i64 c0, .int .i64 c1, .int .i64 c2, .int .i64 c3, .slice cp cn cc]] (askW w pa ra 2 xA xB xD xE c0 c1 c2 c3 cp cn cc) (HandPost (askW w pa ra 2 xA xB xD xE c0 c1 c2 c3 cp cn cc) Q2))
    (h2 : ∀ n ev m y w3, Q2 n ev m y w3 → n = m ∧ ∀ w', Kept (fun x => x = w.heap.size + 1 + 1 + 1 + 1) w3 w' → Errs N A w' ∧ ErrIs A w' ev y) :
    Calls Tryz.prog 81 #[.pointer (some ⟨wb, 0, none⟩), .agg #[.pointer (some ⟨pa, 0, none⟩), .pointer (some ⟨ra, 0, none⟩)], .agg #[.int .i64 2, .int .i64 xA, .int .i64 xB, .int .i64 xD, .int .i64 xE, .int .i64 c0, .int .i64 c1, .int .i64 c2, .int .i64 c3, .slice cp cn cc]] w (AskPost w (fun w3 => ∃ n ev m y, Q2 n ev m y w3)) := by
  have H1 := hide h1
  have H2 := hide h2
  clear h1 h2
  go_enter Tryz.func81, Tryz.ntmps81
  go_wp2_with fail
  refine H1.out.mono ?_
  rintro e w2 ⟨n, ev, m, y, w3, rfl, hq, kk⟩
  rw [askW_size] at kk
  obtain ⟨hnm, hE⟩ := H2.out n ev m y w3 hq
  subst hnm
  have HQ := hide hq
  have HK : Hid (Kept (fun x => x = w.heap.size + 1 + 1 + 1 + 1) w3 w2) := kk
  have HI := fun o => hide (is_any N A (w2.alloc o) (hE _ (kk.alloc o)).1 ev y (hE _ (kk.alloc o)).2)
  clear hq kk hE H1 H2
  simp only [whyV]
  go_wp2_with fail
  refine ((HI _).out).mono ?_
  rintro e w4 ⟨rfl, hb4⟩
  have HB4 : Hid (Kept (fun x => x = w.heap.size + 1 + 1 + 1 + 1) w3 w4) := (HK.out.alloc _).trans (Kept.of_below hb4)
  clear hb4
  go_wp2_with fail
  go_ret
  exact ⟨rfl, w3, ⟨n, ev, n, y, HQ.out⟩, HB4.out⟩

set_option maxRecDepth 100000 in
set_option maxHeartbeats 4000000 in
theorem asked_Array (N : Nat) (A : Nat → Addr) (w : World) (wb pa ra : Nat) (xA xB xD xE c0 c1 c2 c3 : Int) (cp : Option Addr) (cn cc : Nat) (Q2 : Int → Value → Int → Why → World → Prop)
    (h1 : Calls Tryz.prog 112 #[.agg #[.pointer (some ⟨pa, 0, none⟩), .pointer (some ⟨ra, 0, none⟩)], .agg #[.int .i64 3, .int .i64 xA, .int .i64 xB, .int .i64 xD, .int .i64 xE, .int .i64 c0, .int .i64 c1, .int .i64 c2, .int .i64 c3, .slice cp cn cc]] (askW w pa ra 3 xA xB xD xE c0 c1 c2 c3 cp cn cc) (HandPost (askW w pa ra 3 xA xB xD xE c0 c1 c2 c3 cp cn cc) Q2))
    (h2 : ∀ n ev m y w3, Q2 n ev m y w3 → n = m ∧ ∀ w', Kept (fun x => x = w.heap.size + 1 + 1 + 1 + 1) w3 w' → Errs N A w' ∧ ErrIs A w' ev y) :
    Calls Tryz.prog 81 #[.pointer (some ⟨wb, 0, none⟩), .agg #[.pointer (some ⟨pa, 0, none⟩), .pointer (some ⟨ra, 0, none⟩)], .agg #[.int .i64 3, .int .i64 xA, .int .i64 xB, .int .i64 xD, .int .i64 xE, .int .i64 c0, .int .i64 c1, .int .i64 c2, .int .i64 c3, .slice cp cn cc]] w (AskPost w (fun w3 => ∃ n ev m y, Q2 n ev m y w3)) := by
  have H1 := hide h1
  have H2 := hide h2
  clear h1 h2
  go_enter Tryz.func81, Tryz.ntmps81
  go_wp2_with fail
  refine H1.out.mono ?_
  rintro e w2 ⟨n, ev, m, y, w3, rfl, hq, kk⟩
  rw [askW_size] at kk
  obtain ⟨hnm, hE⟩ := H2.out n ev m y w3 hq
  subst hnm
  have HQ := hide hq
  have HK : Hid (Kept (fun x => x = w.heap.size + 1 + 1 + 1 + 1) w3 w2) := kk
  have HI := fun o => hide (is_any N A (w2.alloc o) (hE _ (kk.alloc o)).1 ev y (hE _ (kk.alloc o)).2)
  clear hq kk hE H1 H2
  simp only [whyV]
  go_wp2_with fail
  refine ((HI _).out).mono ?_
  rintro e w4 ⟨rfl, hb4⟩
  have HB4 : Hid (Kept (fun x => x = w.heap.size + 1 + 1 + 1 + 1) w3 w4) := (HK.out.alloc _).trans (Kept.of_below hb4)
  clear hb4
  go_wp2_with fail
  go_ret
  exact ⟨rfl, w3, ⟨n, ev, n, y, HQ.out⟩, HB4.out⟩

set_option maxRecDepth 100000 in
set_option maxHeartbeats 4000000 in
theorem asked_Extern (N : Nat) (A : Nat → Addr) (w : World) (wb pa ra : Nat) (xA xB xD xE c0 c1 c2 c3 : Int) (cp : Option Addr) (cn cc : Nat) (Q2 : Int → Value → Int → Why → World → Prop)
    (h1 : Calls Tryz.prog 112 #[.agg #[.pointer (some ⟨pa, 0, none⟩), .pointer (some ⟨ra, 0, none⟩)], .agg #[.int .i64 13, .int .i64 xA, .int .i64 xB, .int .i64 xD, .int .i64 xE, .int .i64 c0, .int .i64 c1, .int .i64 c2, .int .i64 c3, .slice cp cn cc]] (askW w pa ra 13 xA xB xD xE c0 c1 c2 c3 cp cn cc) (HandPost (askW w pa ra 13 xA xB xD xE c0 c1 c2 c3 cp cn cc) Q2))
    (h2 : ∀ n ev m y w3, Q2 n ev m y w3 → n = m ∧ ∀ w', Kept (fun x => x = w.heap.size + 1 + 1 + 1 + 1) w3 w' → Errs N A w' ∧ ErrIs A w' ev y) :
    Calls Tryz.prog 81 #[.pointer (some ⟨wb, 0, none⟩), .agg #[.pointer (some ⟨pa, 0, none⟩), .pointer (some ⟨ra, 0, none⟩)], .agg #[.int .i64 13, .int .i64 xA, .int .i64 xB, .int .i64 xD, .int .i64 xE, .int .i64 c0, .int .i64 c1, .int .i64 c2, .int .i64 c3, .slice cp cn cc]] w (AskPost w (fun w3 => ∃ n ev m y, Q2 n ev m y w3)) := by
  have H1 := hide h1
  have H2 := hide h2
  clear h1 h2
  go_enter Tryz.func81, Tryz.ntmps81
  go_wp2_with fail
  refine H1.out.mono ?_
  rintro e w2 ⟨n, ev, m, y, w3, rfl, hq, kk⟩
  rw [askW_size] at kk
  obtain ⟨hnm, hE⟩ := H2.out n ev m y w3 hq
  subst hnm
  have HQ := hide hq
  have HK : Hid (Kept (fun x => x = w.heap.size + 1 + 1 + 1 + 1) w3 w2) := kk
  have HI := fun o => hide (is_any N A (w2.alloc o) (hE _ (kk.alloc o)).1 ev y (hE _ (kk.alloc o)).2)
  clear hq kk hE H1 H2
  simp only [whyV]
  go_wp2_with fail
  refine ((HI _).out).mono ?_
  rintro e w4 ⟨rfl, hb4⟩
  have HB4 : Hid (Kept (fun x => x = w.heap.size + 1 + 1 + 1 + 1) w3 w4) := (HK.out.alloc _).trans (Kept.of_below hb4)
  clear hb4
  go_wp2_with fail
  go_ret
  exact ⟨rfl, w3, ⟨n, ev, n, y, HQ.out⟩, HB4.out⟩

set_option maxRecDepth 100000 in
set_option maxHeartbeats 4000000 in
theorem asked_Get (N : Nat) (A : Nat → Addr) (w : World) (wb pa ra : Nat) (xA xB xD xE c0 c1 c2 c3 : Int) (cp : Option Addr) (cn cc : Nat) (Q2 : Int → Value → Int → Why → World → Prop)
    (h1 : Calls Tryz.prog 112 #[.agg #[.pointer (some ⟨pa, 0, none⟩), .pointer (some ⟨ra, 0, none⟩)], .agg #[.int .i64 4, .int .i64 xA, .int .i64 xB, .int .i64 xD, .int .i64 xE, .int .i64 c0, .int .i64 c1, .int .i64 c2, .int .i64 c3, .slice cp cn cc]] (askW w pa ra 4 xA xB xD xE c0 c1 c2 c3 cp cn cc) (HandPost (askW w pa ra 4 xA xB xD xE c0 c1 c2 c3 cp cn cc) Q2))
    (h2 : ∀ n ev m y w3, Q2 n ev m y w3 → n = m ∧ ∀ w', Kept (fun x => x = w.heap.size + 1 + 1 + 1 + 1) w3 w' → Errs N A w' ∧ ErrIs A w' ev y) :
    Calls Tryz.prog 81 #[.pointer (some ⟨wb, 0, none⟩), .agg #[.pointer (some ⟨pa, 0, none⟩), .pointer (some ⟨ra, 0, none⟩)], .agg #[.int .i64 4, .int .i64 xA, .int .i64 xB, .int .i64 xD, .int .i64 xE, .int .i64 c0, .int .i64 c1, .int .i64 c2, .int .i64 c3, .slice cp cn cc]] w (AskPost w (fun w3 => ∃ n ev m y, Q2 n ev m y w3)) := by
  have H1 := hide h1
  have H2 := hide h2
  clear h1 h2
  go_enter Tryz.func81, Tryz.ntmps81
  go_wp2_with fail
  refine H1.out.mono ?_
  rintro e w2 ⟨n, ev, m, y, w3, rfl, hq, kk⟩
  rw [askW_size] at kk
  obtain ⟨hnm, hE⟩ := H2.out n ev m y w3 hq
  subst hnm
  have HQ := hide hq
  have HK : Hid (Kept (fun x => x = w.heap.size + 1 + 1 + 1 + 1) w3 w2) := kk
  have HI := fun o => hide (is_any N A (w2.alloc o) (hE _ (kk.alloc o)).1 ev y (hE _ (kk.alloc o)).2)
  clear hq kk hE H1 H2
  simp only [whyV]
  go_wp2_with fail
  refine ((HI _).out).mono ?_
  rintro e w4 ⟨rfl, hb4⟩
  have HB4 : Hid (Kept (fun x => x = w.heap.size + 1 + 1 + 1 + 1) w3 w4) := (HK.out.alloc _).trans (Kept.of_below hb4)
  clear hb4
  go_wp2_with fail
  go_ret
  exact ⟨rfl, w3, ⟨n, ev, n, y, HQ.out⟩, HB4.out⟩

set_option maxRecDepth 100000 in
set_option maxHeartbeats 4000000 in
theorem asked_Follow (N : Nat) (A : Nat → Addr) (w : World) (wb pa ra : Nat) (xA xB xD xE c0 c1 c2 c3 : Int) (cp : Option Addr) (cn cc : Nat) (Q2 : Int → Value → Int → Why → World → Prop)
    (h1 : Calls Tryz.prog 112 #[.agg #[.pointer (some ⟨pa, 0, none⟩), .pointer (some ⟨ra, 0, none⟩)], .agg #[.int .i64 6, .int .i64 xA, .int .i64 xB, .int .i64 xD, .int .i64 xE, .int .i64 c0, .int .i64 c1, .int .i64 c2, .int .i64 c3, .slice cp cn cc]] (askW w pa ra 6 xA xB xD xE c0 c1 c2 c3 cp cn cc) (HandPost (askW w pa ra 6 xA xB xD xE c0 c1 c2 c3 cp cn cc) Q2))
    (h2 : ∀ n ev m y w3, Q2 n ev m y w3 → n = m ∧ ∀ w', Kept (fun x => x = w.heap.size + 1 + 1 + 1 + 1) w3 w' → Errs N A w' ∧ ErrIs A w' ev y) :
    Calls Tryz.prog 81 #[.pointer (some ⟨wb, 0, none⟩), .agg #[.pointer (some ⟨pa, 0, none⟩), .pointer (some ⟨ra, 0, none⟩)], .agg #[.int .i64 6, .int .i64 xA, .int .i64 xB, .int .i64 xD, .int .i64 xE, .int .i64 c0, .int .i64 c1, .int .i64 c2, .int .i64 c3, .slice cp cn cc]] w (AskPost w (fun w3 => ∃ n ev m y, Q2 n ev m y w3)) := by
  have H1 := hide h1
  have H2 := hide h2
  clear h1 h2
  go_enter Tryz.func81, Tryz.ntmps81
  go_wp2_with fail
  refine H1.out.mono ?_
  rintro e w2 ⟨n, ev, m, y, w3, rfl, hq, kk⟩
  rw [askW_size] at kk
  obtain ⟨hnm, hE⟩ := H2.out n ev m y w3 hq
  subst hnm
  have HQ := hide hq
  have HK : Hid (Kept (fun x => x = w.heap.size + 1 + 1 + 1 + 1) w3 w2) := kk
  have HI := fun o => hide (is_any N A (w2.alloc o) (hE _ (kk.alloc o)).1 ev y (hE _ (kk.alloc o)).2)
  clear hq kk hE H1 H2
  simp only [whyV]
  go_wp2_with fail
  refine ((HI _).out).mono ?_
  rintro e w4 ⟨rfl, hb4⟩
  have HB4 : Hid (Kept (fun x => x = w.heap.size + 1 + 1 + 1 + 1) w3 w4) := (HK.out.alloc _).trans (Kept.of_below hb4)
  clear hb4
  go_wp2_with fail
  go_ret
  exact ⟨rfl, w3, ⟨n, ev, n, y, HQ.out⟩, HB4.out⟩

set_option maxRecDepth 100000 in
set_option maxHeartbeats 4000000 in
theorem asked_Ref (N : Nat) (A : Nat → Addr) (w : World) (wb pa ra : Nat) (xA xB xD xE c0 c1 c2 c3 : Int) (cp : Option Addr) (cn cc : Nat) (Q2 : Int → Value → Int → Why → World → Prop)
    (h1 : Calls Tryz.prog 112 #[.agg #[.pointer (some ⟨pa, 0, none⟩), .pointer (some ⟨ra, 0, none⟩)], .agg #[.int .i64 9, .int .i64 xA, .int .i64 xB, .int .i64 xD, .int .i64 xE, .int .i64 c0, .int .i64 c1, .int .i64 c2, .int .i64 c3, .slice cp cn cc]] (askW w pa ra 9 xA xB xD xE c0 c1 c2 c3 cp cn cc) (HandPost (askW w pa ra 9 xA xB xD xE c0 c1 c2 c3 cp cn cc) Q2))
    (h2 : ∀ n ev m y w3, Q2 n ev m y w3 → n = m ∧ ∀ w', Kept (fun x => x = w.heap.size + 1 + 1 + 1 + 1) w3 w' → Errs N A w' ∧ ErrIs A w' ev y) :
    Calls Tryz.prog 81 #[.pointer (some ⟨wb, 0, none⟩), .agg #[.pointer (some ⟨pa, 0, none⟩), .pointer (some ⟨ra, 0, none⟩)], .agg #[.int .i64 9, .int .i64 xA, .int .i64 xB, .int .i64 xD, .int .i64 xE, .int .i64 c0, .int .i64 c1, .int .i64 c2, .int .i64 c3, .slice cp cn cc]] w (AskPost w (fun w3 => ∃ n ev m y, Q2 n ev m y w3)) := by
  have H1 := hide h1
  have H2 := hide h2
  clear h1 h2
  go_enter Tryz.func81, Tryz.ntmps81
  go_wp2_with fail
  refine H1.out.mono ?_
  rintro e w2 ⟨n, ev, m, y, w3, rfl, hq, kk⟩
  rw [askW_size] at kk
  obtain ⟨hnm, hE⟩ := H2.out n ev m y w3 hq
  subst hnm
  have HQ := hide hq
  have HK : Hid (Kept (fun x => x = w.heap.size + 1 + 1 + 1 + 1) w3 w2) := kk
  have HI := fun o => hide (is_any N A (w2.alloc o) (hE _ (kk.alloc o)).1 ev y (hE _ (kk.alloc o)).2)
  clear hq kk hE H1 H2
  simp only [whyV]
  go_wp2_with fail
  refine ((HI _).out).mono ?_
  rintro e w4 ⟨rfl, hb4⟩
  have HB4 : Hid (Kept (fun x => x = w.heap.size + 1 + 1 + 1 + 1) w3 w4) := (HK.out.alloc _).trans (Kept.of_below hb4)
  clear hb4
  go_wp2_with fail
  go_ret
  exact ⟨rfl, w3, ⟨n, ev, n, y, HQ.out⟩, HB4.out⟩

set_option maxRecDepth 100000 in
set_option maxHeartbeats 4000000 in
theorem asked_Pop (N : Nat) (A : Nat → Addr) (w : World) (wb pa ra : Nat) (xA xB xD xE c0 c1 c2 c3 : Int) (cp : Option Addr) (cn cc : Nat) (Q2 : Int → Value → Int → Why → World → Prop)
    (h1 : Calls Tryz.prog 112 #[.agg #[.pointer (some ⟨pa, 0, none⟩), .pointer (some ⟨ra, 0, none⟩)], .agg #[.int .i64 16, .int .i64 xA, .int .i64 xB, .int .i64 xD, .int .i64 xE, .int .i64 c0, .int .i64 c1, .int .i64 c2, .int .i64 c3, .slice cp cn cc]] (askW w pa ra 16 xA xB xD xE c0 c1 c2 c3 cp cn cc) (HandPost (askW w pa ra 16 xA xB xD xE c0 c1 c2 c3 cp cn cc) Q2))
    (h2 : ∀ n ev m y w3, Q2 n ev m y w3 → n = m ∧ ∀ w', Kept (fun x => x = w.heap.size + 1 + 1 + 1 + 1) w3 w' → Errs N A w' ∧ ErrIs A w' ev y) :
    Calls Tryz.prog 81 #[.pointer (some ⟨wb, 0, none⟩), .agg #[.pointer (some ⟨pa, 0, none⟩), .pointer (some ⟨ra, 0, none⟩)], .agg #[.int .i64 16, .int .i64 xA, .int .i64 xB, .int .i64 xD, .int .i64 xE, .int .i64 c0, .int .i64 c1, .int .i64 c2, .int .i64 c3, .slice cp cn cc]] w (AskPost w (fun w3 => ∃ n ev m y, Q2 n ev m y w3)) := by
  have H1 := hide h1
  have H2 := hide h2
  clear h1 h2
  go_enter Tryz.func81, Tryz.ntmps81
  go_wp2_with fail
  refine H1.out.mono ?_
  rintro e w2 ⟨n, ev, m, y, w3, rfl, hq, kk⟩
  rw [askW_size] at kk
  obtain ⟨hnm, hE⟩ := H2.out n ev m y w3 hq
  subst hnm
  have HQ := hide hq
  have HK : Hid (Kept (fun x => x = w.heap.size + 1 + 1 + 1 + 1) w3 w2) := kk
  have HI := fun o => hide (is_any N A (w2.alloc o) (hE _ (kk.alloc o)).1 ev y (hE _ (kk.alloc o)).2)
  clear hq kk hE H1 H2
  simp only [whyV]
  go_wp2_with fail
  refine ((HI _).out).mono ?_
  rintro e w4 ⟨rfl, hb4⟩
  have HB4 : Hid (Kept (fun x => x = w.heap.size + 1 + 1 + 1 + 1) w3 w4) := (HK.out.alloc _).trans (Kept.of_below hb4)
  clear hb4
  go_wp2_with fail
  go_ret
  exact ⟨rfl, w3, ⟨n, ev, n, y, HQ.out⟩, HB4.out⟩
end Go.Proofs.YtcnmfljpmpgnjaaGreatDoor
