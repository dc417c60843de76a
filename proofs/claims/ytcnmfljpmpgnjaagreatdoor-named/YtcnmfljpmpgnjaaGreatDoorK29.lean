import Derived.Test.YtcnmfljpmpgnjaaGreatDoorK28
namespace Go.Proofs.YtcnmfljpmpgnjaaGreatDoor
open Go.RowKit
open Tm (H Ob Sl Why)

/-- A step, as a value. -/
def opV (kind xA xB xD xE c0 c1 c2 c3 : Int) (cp : Option Addr) (cn cc : Nat) : Array Value := #[.int .i64 kind, .int .i64 xA, .int .i64 xB, .int .i64 xD, .int .i64 xE, .int .i64 c0, .int .i64 c1, .int .i64 c2, .int .i64 c3, .slice cp cn cc]

/-- The world in which 'handed' makes its calls. -/
def handW (w : World) (pa ra : Nat) (kind xA xB xD xE c0 c1 c2 c3 : Int) (cp : Option Addr) (cn cc : Nat) : World :=
  ((w.alloc (.cells #[.pointer (some ⟨pa, 0, none⟩), .pointer (some ⟨ra, 0, none⟩)] 116)).alloc (.cells #[.int .i64 kind, .int .i64 xA, .int .i64 xB, .int .i64 xD, .int .i64 xE, .int .i64 c0, .int .i64 c1, .int .i64 c2, .int .i64 c3, .slice cp cn cc] 85)).alloc (.cells #[.int .i64 0, .int .i64 0] 161)

theorem handW_size (w : World) (pa ra : Nat) (kind xA xB xD xE c0 c1 c2 c3 : Int) (cp : Option Addr) (cn cc : Nat) : (handW w pa ra kind xA xB xD xE c0 c1 c2 c3 cp cn cc).heap.size = w.heap.size + 3 := by simp [handW]

/-- What a call that 'handed' makes leaves of the boxes. -/
def BoxSame (W w' : World) (n : Nat) : Prop := W.heap.size ≤ w'.heap.size ∧ ∀ x, n ≤ x → x < n + 3 → w'.heap[x]? = W.heap[x]?

def HandPost (w : World) (Q2 : Int → Value → Int → Why → World → Prop) (e : Ending) (w' : World) : Prop :=
  ∃ n ev m y w3, e = .returned (.tuple #[.int .i64 n, ev, .int .i64 m, whyV y]) ∧ Q2 n ev m y w3 ∧ Kept (fun x => x = w.heap.size + 1 + 1) w3 w'

set_option maxRecDepth 100000 in
set_option maxHeartbeats 4000000 in
theorem handed_Make (w : World) (pa ra : Nat) (xA xB xD xE c0 c1 c2 c3 : Int) (cp : Option Addr) (cn cc : Nat) (Q1 : Int → Value → World → Prop) (Q2 : Int → Value → Int → Why → World → Prop)
    (h1 : Calls Tryz.prog 25 #[.pointer (some ⟨pa, 0, none⟩), .int .i64 xB] (handW w pa ra 2 xA xB xD xE c0 c1 c2 c3 cp cn cc) fun e w' => ∃ n ev, e = .returned (.tuple #[.int .i64 n, ev]) ∧ Q1 n ev w' ∧ BoxSame (handW w pa ra 2 xA xB xD xE c0 c1 c2 c3 cp cn cc) w' w.heap.size)
    (h2 : ∀ n ev w2, Q1 n ev w2 → w.heap.size + 3 ≤ w2.heap.size → Calls Tryz.prog 146 #[.pointer (some ⟨ra, 0, none⟩), .int .i64 xB] w2 fun e w' => ∃ m y, e = .returned (.tuple #[.int .i64 m, whyV y]) ∧ Q2 n ev m y w' ∧ BoxSame w2 w' w.heap.size) :
    Calls Tryz.prog 112 #[.agg #[.pointer (some ⟨pa, 0, none⟩), .pointer (some ⟨ra, 0, none⟩)], .agg #[.int .i64 2, .int .i64 xA, .int .i64 xB, .int .i64 xD, .int .i64 xE, .int .i64 c0, .int .i64 c1, .int .i64 c2, .int .i64 c3, .slice cp cn cc]] w (HandPost w Q2) := by
  have H1 := hide h1
  have H2 := hide h2
  clear h1 h2
  go_enter Tryz.func112, Tryz.ntmps112
  go_wp2_with fail
  refine H1.out.mono ?_
  rintro e w2 ⟨n, ev, rfl, hq1, hz2, hs2⟩
  rw [handW_size] at hz2
  have p1 : w2.cell? ⟨w.heap.size, 1, none⟩ = some (.pointer (some ⟨ra, 0, none⟩)) := by
    rw [cell_of (hs2 _ (by omega) (by omega))]; unfold handW
    rw [World.cell?_alloc_past _ _ _ (by simp; omega), World.cell?_alloc_past _ _ _ (by simp), World.cell?_alloc_new]; rfl
  have o2 : w2.cell? ⟨w.heap.size + 1, 2, none⟩ = some (.int .i64 xB) := by
    rw [cell_of (hs2 _ (by omega) (by omega))]; unfold handW
    rw [World.cell?_alloc_past _ _ _ (by simp), World.cell?_alloc_at _ _ _ _ (by simp)]; rfl
  have o3 : w2.cell? ⟨w.heap.size + 1, 3, none⟩ = some (.int .i64 xD) := by
    rw [cell_of (hs2 _ (by omega) (by omega))]; unfold handW
    rw [World.cell?_alloc_past _ _ _ (by simp), World.cell?_alloc_at _ _ _ _ (by simp)]; rfl
  have HS2 := hide hs2
  have H2' := hide (H2.out n ev w2 hq1 hz2)
  clear hs2 hq1 H2 H1
  go_wp2_with fail
  refine H2'.out.mono ?_
  rintro e w3 ⟨m, y, rfl, hq2, hz3, hs3⟩
  have eN : w3.heap[w.heap.size + 2]? = some (.cells #[.int .i64 0, .int .i64 0] 161 (0, 0)) := by
    rw [hs3 _ (by omega) (by omega), HS2.out _ (by omega) (by omega)]
    unfold handW
    exact (by simpa using heap_alloc_new ((w.alloc _).alloc _) (.cells #[.int .i64 0, .int .i64 0] 161))
  have z0 : w3.cell? ⟨w.heap.size + 1 + 1, 0, none⟩ = some (.int .i64 0) := by simp [World.cell?, eN]
  have z1 : w3.cell? ⟨w.heap.size + 1 + 1, 1, none⟩ = some (.int .i64 0) := by simp [World.cell?, eN]
  have zf : ∀ i, w3.frozen? ⟨w.heap.size + 1 + 1, i, none⟩ = false := fun i => by simp [World.frozen?, eN]
  have hlt3 : w.heap.size + 1 + 1 < w3.heap.size := by omega
  have HQ2 := hide hq2
  clear hq2 hs3 eN H2'
  simp only [whyV]
  go_wp2_with fail
  go_region
  all_goals go_wp2_with fail
  all_goals
    refine bodyPost_ret (v := .tuple #[.int .i64 n, ev, .int .i64 m, .agg #[.int .i64 y.reason, .int .i64 y.handle]]) (by simp [results, Tryz.results112, go_sem, z0, z1, hlt3]) rfl ⟨n, ev, m, y, w3, rfl, HQ2.out, ?_⟩
    repeat (first | exact Kept.refl _ _ | refine Kept.drew ?_ | refine Kept.setCell ?_ (by left; rfl) _ | refine Kept.alloc ?_ _)

set_option maxRecDepth 100000 in
set_option maxHeartbeats 4000000 in
theorem handed_Array (w : World) (pa ra : Nat) (xA xB xD xE c0 c1 c2 c3 : Int) (cp : Option Addr) (cn cc : Nat) (Q1 : Int → Value → World → Prop) (Q2 : Int → Value → Int → Why → World → Prop)
    (h1 : Calls Tryz.prog 147 #[.pointer (some ⟨pa, 0, none⟩), .int .i64 xB, .int .i64 xD] (handW w pa ra 3 xA xB xD xE c0 c1 c2 c3 cp cn cc) fun e w' => ∃ n ev, e = .returned (.tuple #[.int .i64 n, ev]) ∧ Q1 n ev w' ∧ BoxSame (handW w pa ra 3 xA xB xD xE c0 c1 c2 c3 cp cn cc) w' w.heap.size)
    (h2 : ∀ n ev w2, Q1 n ev w2 → w.heap.size + 3 ≤ w2.heap.size → Calls Tryz.prog 148 #[.pointer (some ⟨ra, 0, none⟩), .int .i64 xB, .int .i64 xD] w2 fun e w' => ∃ m y, e = .returned (.tuple #[.int .i64 m, whyV y]) ∧ Q2 n ev m y w' ∧ BoxSame w2 w' w.heap.size) :
    Calls Tryz.prog 112 #[.agg #[.pointer (some ⟨pa, 0, none⟩), .pointer (some ⟨ra, 0, none⟩)], .agg #[.int .i64 3, .int .i64 xA, .int .i64 xB, .int .i64 xD, .int .i64 xE, .int .i64 c0, .int .i64 c1, .int .i64 c2, .int .i64 c3, .slice cp cn cc]] w (HandPost w Q2) := by
  have H1 := hide h1
  have H2 := hide h2
  clear h1 h2
  go_enter Tryz.func112, Tryz.ntmps112
  go_wp2_with fail
  refine H1.out.mono ?_
  rintro e w2 ⟨n, ev, rfl, hq1, hz2, hs2⟩
  rw [handW_size] at hz2
  have p1 : w2.cell? ⟨w.heap.size, 1, none⟩ = some (.pointer (some ⟨ra, 0, none⟩)) := by
    rw [cell_of (hs2 _ (by omega) (by omega))]; unfold handW
    rw [World.cell?_alloc_past _ _ _ (by simp; omega), World.cell?_alloc_past _ _ _ (by simp), World.cell?_alloc_new]; rfl
  have o2 : w2.cell? ⟨w.heap.size + 1, 2, none⟩ = some (.int .i64 xB) := by
    rw [cell_of (hs2 _ (by omega) (by omega))]; unfold handW
    rw [World.cell?_alloc_past _ _ _ (by simp), World.cell?_alloc_at _ _ _ _ (by simp)]; rfl
  have o3 : w2.cell? ⟨w.heap.size + 1, 3, none⟩ = some (.int .i64 xD) := by
    rw [cell_of (hs2 _ (by omega) (by omega))]; unfold handW
    rw [World.cell?_alloc_past _ _ _ (by simp), World.cell?_alloc_at _ _ _ _ (by simp)]; rfl
  have HS2 := hide hs2
  have H2' := hide (H2.out n ev w2 hq1 hz2)
  clear hs2 hq1 H2 H1
  go_wp2_with fail
  refine H2'.out.mono ?_
  rintro e w3 ⟨m, y, rfl, hq2, hz3, hs3⟩
  have eN : w3.heap[w.heap.size + 2]? = some (.cells #[.int .i64 0, .int .i64 0] 161 (0, 0)) := by
    rw [hs3 _ (by omega) (by omega), HS2.out _ (by omega) (by omega)]
    unfold handW
    exact (by simpa using heap_alloc_new ((w.alloc _).alloc _) (.cells #[.int .i64 0, .int .i64 0] 161))
  have z0 : w3.cell? ⟨w.heap.size + 1 + 1, 0, none⟩ = some (.int .i64 0) := by simp [World.cell?, eN]
  have z1 : w3.cell? ⟨w.heap.size + 1 + 1, 1, none⟩ = some (.int .i64 0) := by simp [World.cell?, eN]
  have zf : ∀ i, w3.frozen? ⟨w.heap.size + 1 + 1, i, none⟩ = false := fun i => by simp [World.frozen?, eN]
  have hlt3 : w.heap.size + 1 + 1 < w3.heap.size := by omega
  have HQ2 := hide hq2
  clear hq2 hs3 eN H2'
  simp only [whyV]
  go_wp2_with fail
  go_region
  all_goals go_wp2_with fail
  all_goals
    refine bodyPost_ret (v := .tuple #[.int .i64 n, ev, .int .i64 m, .agg #[.int .i64 y.reason, .int .i64 y.handle]]) (by simp [results, Tryz.results112, go_sem, z0, z1, hlt3]) rfl ⟨n, ev, m, y, w3, rfl, HQ2.out, ?_⟩
    repeat (first | exact Kept.refl _ _ | refine Kept.drew ?_ | refine Kept.setCell ?_ (by left; rfl) _ | refine Kept.alloc ?_ _)

set_option maxRecDepth 100000 in
set_option maxHeartbeats 4000000 in
theorem handed_Extern (w : World) (pa ra : Nat) (xA xB xD xE c0 c1 c2 c3 : Int) (cp : Option Addr) (cn cc : Nat) (Q1 : Int → Value → World → Prop) (Q2 : Int → Value → Int → Why → World → Prop)
    (h1 : Calls Tryz.prog 31 #[.pointer (some ⟨pa, 0, none⟩), .int .i64 xB] (handW w pa ra 13 xA xB xD xE c0 c1 c2 c3 cp cn cc) fun e w' => ∃ n ev, e = .returned (.tuple #[.int .i64 n, ev]) ∧ Q1 n ev w' ∧ BoxSame (handW w pa ra 13 xA xB xD xE c0 c1 c2 c3 cp cn cc) w' w.heap.size)
    (h2 : ∀ n ev w2, Q1 n ev w2 → w.heap.size + 3 ≤ w2.heap.size → Calls Tryz.prog 149 #[.pointer (some ⟨ra, 0, none⟩), .int .i64 xB] w2 fun e w' => ∃ m y, e = .returned (.tuple #[.int .i64 m, whyV y]) ∧ Q2 n ev m y w' ∧ BoxSame w2 w' w.heap.size) :
    Calls Tryz.prog 112 #[.agg #[.pointer (some ⟨pa, 0, none⟩), .pointer (some ⟨ra, 0, none⟩)], .agg #[.int .i64 13, .int .i64 xA, .int .i64 xB, .int .i64 xD, .int .i64 xE, .int .i64 c0, .int .i64 c1, .int .i64 c2, .int .i64 c3, .slice cp cn cc]] w (HandPost w Q2) := by
  have H1 := hide h1
  have H2 := hide h2
  clear h1 h2
  go_enter Tryz.func112, Tryz.ntmps112
  go_wp2_with fail
  refine H1.out.mono ?_
  rintro e w2 ⟨n, ev, rfl, hq1, hz2, hs2⟩
  rw [handW_size] at hz2
  have p1 : w2.cell? ⟨w.heap.size, 1, none⟩ = some (.pointer (some ⟨ra, 0, none⟩)) := by
    rw [cell_of (hs2 _ (by omega) (by omega))]; unfold handW
    rw [World.cell?_alloc_past _ _ _ (by simp; omega), World.cell?_alloc_past _ _ _ (by simp), World.cell?_alloc_new]; rfl
  have o2 : w2.cell? ⟨w.heap.size + 1, 2, none⟩ = some (.int .i64 xB) := by
    rw [cell_of (hs2 _ (by omega) (by omega))]; unfold handW
    rw [World.cell?_alloc_past _ _ _ (by simp), World.cell?_alloc_at _ _ _ _ (by simp)]; rfl
  have o3 : w2.cell? ⟨w.heap.size + 1, 3, none⟩ = some (.int .i64 xD) := by
    rw [cell_of (hs2 _ (by omega) (by omega))]; unfold handW
    rw [World.cell?_alloc_past _ _ _ (by simp), World.cell?_alloc_at _ _ _ _ (by simp)]; rfl
  have HS2 := hide hs2
  have H2' := hide (H2.out n ev w2 hq1 hz2)
  clear hs2 hq1 H2 H1
  go_wp2_with fail
  refine H2'.out.mono ?_
  rintro e w3 ⟨m, y, rfl, hq2, hz3, hs3⟩
  have eN : w3.heap[w.heap.size + 2]? = some (.cells #[.int .i64 0, .int .i64 0] 161 (0, 0)) := by
    rw [hs3 _ (by omega) (by omega), HS2.out _ (by omega) (by omega)]
    unfold handW
    exact (by simpa using heap_alloc_new ((w.alloc _).alloc _) (.cells #[.int .i64 0, .int .i64 0] 161))
  have z0 : w3.cell? ⟨w.heap.size + 1 + 1, 0, none⟩ = some (.int .i64 0) := by simp [World.cell?, eN]
  have z1 : w3.cell? ⟨w.heap.size + 1 + 1, 1, none⟩ = some (.int .i64 0) := by simp [World.cell?, eN]
  have zf : ∀ i, w3.frozen? ⟨w.heap.size + 1 + 1, i, none⟩ = false := fun i => by simp [World.frozen?, eN]
  have hlt3 : w.heap.size + 1 + 1 < w3.heap.size := by omega
  have HQ2 := hide hq2
  clear hq2 hs3 eN H2'
  simp only [whyV]
  go_wp2_with fail
  go_region
  all_goals go_wp2_with fail
  all_goals
    refine bodyPost_ret (v := .tuple #[.int .i64 n, ev, .int .i64 m, .agg #[.int .i64 y.reason, .int .i64 y.handle]]) (by simp [results, Tryz.results112, go_sem, z0, z1, hlt3]) rfl ⟨n, ev, m, y, w3, rfl, HQ2.out, ?_⟩
    repeat (first | exact Kept.refl _ _ | refine Kept.drew ?_ | refine Kept.setCell ?_ (by left; rfl) _ | refine Kept.alloc ?_ _)

set_option maxRecDepth 100000 in
set_option maxHeartbeats 4000000 in
theorem handed_Get (w : World) (pa ra : Nat) (xA xB xD xE c0 c1 c2 c3 : Int) (cp : Option Addr) (cn cc : Nat) (Q1 : Int → Value → World → Prop) (Q2 : Int → Value → Int → Why → World → Prop)
    (h1 : Calls Tryz.prog 41 #[.pointer (some ⟨pa, 0, none⟩), .int .i64 xB, .int .i64 xD] (handW w pa ra 4 xA xB xD xE c0 c1 c2 c3 cp cn cc) fun e w' => ∃ n ev, e = .returned (.tuple #[.int .i64 n, ev]) ∧ Q1 n ev w' ∧ BoxSame (handW w pa ra 4 xA xB xD xE c0 c1 c2 c3 cp cn cc) w' w.heap.size)
    (h2 : ∀ n ev w2, Q1 n ev w2 → w.heap.size + 3 ≤ w2.heap.size → Calls Tryz.prog 150 #[.pointer (some ⟨ra, 0, none⟩), .int .i64 xB, .int .i64 xD] w2 fun e w' => ∃ m y, e = .returned (.tuple #[.int .i64 m, whyV y]) ∧ Q2 n ev m y w' ∧ BoxSame w2 w' w.heap.size) :
    Calls Tryz.prog 112 #[.agg #[.pointer (some ⟨pa, 0, none⟩), .pointer (some ⟨ra, 0, none⟩)], .agg #[.int .i64 4, .int .i64 xA, .int .i64 xB, .int .i64 xD, .int .i64 xE, .int .i64 c0, .int .i64 c1, .int .i64 c2, .int .i64 c3, .slice cp cn cc]] w (HandPost w Q2) := by
  have H1 := hide h1
  have H2 := hide h2
  clear h1 h2
  go_enter Tryz.func112, Tryz.ntmps112
  go_wp2_with fail
  refine H1.out.mono ?_
  rintro e w2 ⟨n, ev, rfl, hq1, hz2, hs2⟩
  rw [handW_size] at hz2
  have p1 : w2.cell? ⟨w.heap.size, 1, none⟩ = some (.pointer (some ⟨ra, 0, none⟩)) := by
    rw [cell_of (hs2 _ (by omega) (by omega))]; unfold handW
    rw [World.cell?_alloc_past _ _ _ (by simp; omega), World.cell?_alloc_past _ _ _ (by simp), World.cell?_alloc_new]; rfl
  have o2 : w2.cell? ⟨w.heap.size + 1, 2, none⟩ = some (.int .i64 xB) := by
    rw [cell_of (hs2 _ (by omega) (by omega))]; unfold handW
    rw [World.cell?_alloc_past _ _ _ (by simp), World.cell?_alloc_at _ _ _ _ (by simp)]; rfl
  have o3 : w2.cell? ⟨w.heap.size + 1, 3, none⟩ = some (.int .i64 xD) := by
    rw [cell_of (hs2 _ (by omega) (by omega))]; unfold handW
    rw [World.cell?_alloc_past _ _ _ (by simp), World.cell?_alloc_at _ _ _ _ (by simp)]; rfl
  have HS2 := hide hs2
  have H2' := hide (H2.out n ev w2 hq1 hz2)
  clear hs2 hq1 H2 H1
  go_wp2_with fail
  refine H2'.out.mono ?_
  rintro e w3 ⟨m, y, rfl, hq2, hz3, hs3⟩
  have eN : w3.heap[w.heap.size + 2]? = some (.cells #[.int .i64 0, .int .i64 0] 161 (0, 0)) := by
    rw [hs3 _ (by omega) (by omega), HS2.out _ (by omega) (by omega)]
    unfold handW
    exact (by simpa using heap_alloc_new ((w.alloc _).alloc _) (.cells #[.int .i64 0, .int .i64 0] 161))
  have z0 : w3.cell? ⟨w.heap.size + 1 + 1, 0, none⟩ = some (.int .i64 0) := by simp [World.cell?, eN]
  have z1 : w3.cell? ⟨w.heap.size + 1 + 1, 1, none⟩ = some (.int .i64 0) := by simp [World.cell?, eN]
  have zf : ∀ i, w3.frozen? ⟨w.heap.size + 1 + 1, i, none⟩ = false := fun i => by simp [World.frozen?, eN]
  have hlt3 : w.heap.size + 1 + 1 < w3.heap.size := by omega
  have HQ2 := hide hq2
  clear hq2 hs3 eN H2'
  simp only [whyV]
  go_wp2_with fail
  go_region
  all_goals go_wp2_with fail
  all_goals
    refine bodyPost_ret (v := .tuple #[.int .i64 n, ev, .int .i64 m, .agg #[.int .i64 y.reason, .int .i64 y.handle]]) (by simp [results, Tryz.results112, go_sem, z0, z1, hlt3]) rfl ⟨n, ev, m, y, w3, rfl, HQ2.out, ?_⟩
    repeat (first | exact Kept.refl _ _ | refine Kept.drew ?_ | refine Kept.setCell ?_ (by left; rfl) _ | refine Kept.alloc ?_ _)

set_option maxRecDepth 100000 in
set_option maxHeartbeats 4000000 in
theorem handed_Follow (w : World) (pa ra : Nat) (xA xB xD xE c0 c1 c2 c3 : Int) (cp : Option Addr) (cn cc : Nat) (Q1 : Int → Value → World → Prop) (Q2 : Int → Value → Int → Why → World → Prop)
    (h1 : Calls Tryz.prog 42 #[.pointer (some ⟨pa, 0, none⟩), .int .i64 xB, .int .i64 xD] (handW w pa ra 6 xA xB xD xE c0 c1 c2 c3 cp cn cc) fun e w' => ∃ n ev, e = .returned (.tuple #[.int .i64 n, ev]) ∧ Q1 n ev w' ∧ BoxSame (handW w pa ra 6 xA xB xD xE c0 c1 c2 c3 cp cn cc) w' w.heap.size)
    (h2 : ∀ n ev w2, Q1 n ev w2 → w.heap.size + 3 ≤ w2.heap.size → Calls Tryz.prog 151 #[.pointer (some ⟨ra, 0, none⟩), .int .i64 xB, .int .i64 xD] w2 fun e w' => ∃ m y, e = .returned (.tuple #[.int .i64 m, whyV y]) ∧ Q2 n ev m y w' ∧ BoxSame w2 w' w.heap.size) :
    Calls Tryz.prog 112 #[.agg #[.pointer (some ⟨pa, 0, none⟩), .pointer (some ⟨ra, 0, none⟩)], .agg #[.int .i64 6, .int .i64 xA, .int .i64 xB, .int .i64 xD, .int .i64 xE, .int .i64 c0, .int .i64 c1, .int .i64 c2, .int .i64 c3, .slice cp cn cc]] w (HandPost w Q2) := by
  have H1 := hide h1
  have H2 := hide h2
  clear h1 h2
  go_enter Tryz.func112, Tryz.ntmps112
  go_wp2_with fail
  refine H1.out.mono ?_
  rintro e w2 ⟨n, ev, rfl, hq1, hz2, hs2⟩
  rw [handW_size] at hz2
  have p1 : w2.cell? ⟨w.heap.size, 1, none⟩ = some (.pointer (some ⟨ra, 0, none⟩)) := by
    rw [cell_of (hs2 _ (by omega) (by omega))]; unfold handW
    rw [World.cell?_alloc_past _ _ _ (by simp; omega), World.cell?_alloc_past _ _ _ (by simp), World.cell?_alloc_new]; rfl
  have o2 : w2.cell? ⟨w.heap.size + 1, 2, none⟩ = some (.int .i64 xB) := by
    rw [cell_of (hs2 _ (by omega) (by omega))]; unfold handW
    rw [World.cell?_alloc_past _ _ _ (by simp), World.cell?_alloc_at _ _ _ _ (by simp)]; rfl
  have o3 : w2.cell? ⟨w.heap.size + 1, 3, none⟩ = some (.int .i64 xD) := by
    rw [cell_of (hs2 _ (by omega) (by omega))]; unfold handW
    rw [World.cell?_alloc_past _ _ _ (by simp), World.cell?_alloc_at _ _ _ _ (by simp)]; rfl
  have HS2 := hide hs2
  have H2' := hide (H2.out n ev w2 hq1 hz2)
  clear hs2 hq1 H2 H1
  go_wp2_with fail
  refine H2'.out.mono ?_
  rintro e w3 ⟨m, y, rfl, hq2, hz3, hs3⟩
  have eN : w3.heap[w.heap.size + 2]? = some (.cells #[.int .i64 0, .int .i64 0] 161 (0, 0)) := by
    rw [hs3 _ (by omega) (by omega), HS2.out _ (by omega) (by omega)]
    unfold handW
    exact (by simpa using heap_alloc_new ((w.alloc _).alloc _) (.cells #[.int .i64 0, .int .i64 0] 161))
  have z0 : w3.cell? ⟨w.heap.size + 1 + 1, 0, none⟩ = some (.int .i64 0) := by simp [World.cell?, eN]
  have z1 : w3.cell? ⟨w.heap.size + 1 + 1, 1, none⟩ = some (.int .i64 0) := by simp [World.cell?, eN]
  have zf : ∀ i, w3.frozen? ⟨w.heap.size + 1 + 1, i, none⟩ = false := fun i => by simp [World.frozen?, eN]
  have hlt3 : w.heap.size + 1 + 1 < w3.heap.size := by omega
  have HQ2 := hide hq2
  clear hq2 hs3 eN H2'
  simp only [whyV]
  go_wp2_with fail
  go_region
  all_goals go_wp2_with fail
  all_goals
    refine bodyPost_ret (v := .tuple #[.int .i64 n, ev, .int .i64 m, .agg #[.int .i64 y.reason, .int .i64 y.handle]]) (by simp [results, Tryz.results112, go_sem, z0, z1, hlt3]) rfl ⟨n, ev, m, y, w3, rfl, HQ2.out, ?_⟩
    repeat (first | exact Kept.refl _ _ | refine Kept.drew ?_ | refine Kept.setCell ?_ (by left; rfl) _ | refine Kept.alloc ?_ _)

set_option maxRecDepth 100000 in
set_option maxHeartbeats 4000000 in
theorem handed_Ref (w : World) (pa ra : Nat) (xA xB xD xE c0 c1 c2 c3 : Int) (cp : Option Addr) (cn cc : Nat) (Q1 : Int → Value → World → Prop) (Q2 : Int → Value → Int → Why → World → Prop)
    (h1 : Calls Tryz.prog 17 #[.pointer (some ⟨pa, 0, none⟩), .int .i64 xB, .int .i64 xD] (handW w pa ra 9 xA xB xD xE c0 c1 c2 c3 cp cn cc) fun e w' => ∃ n ev, e = .returned (.tuple #[.int .i64 n, ev]) ∧ Q1 n ev w' ∧ BoxSame (handW w pa ra 9 xA xB xD xE c0 c1 c2 c3 cp cn cc) w' w.heap.size)
    (h2 : ∀ n ev w2, Q1 n ev w2 → w.heap.size + 3 ≤ w2.heap.size → Calls Tryz.prog 152 #[.pointer (some ⟨ra, 0, none⟩), .int .i64 xB, .int .i64 xD] w2 fun e w' => ∃ m y, e = .returned (.tuple #[.int .i64 m, whyV y]) ∧ Q2 n ev m y w' ∧ BoxSame w2 w' w.heap.size) :
    Calls Tryz.prog 112 #[.agg #[.pointer (some ⟨pa, 0, none⟩), .pointer (some ⟨ra, 0, none⟩)], .agg #[.int .i64 9, .int .i64 xA, .int .i64 xB, .int .i64 xD, .int .i64 xE, .int .i64 c0, .int .i64 c1, .int .i64 c2, .int .i64 c3, .slice cp cn cc]] w (HandPost w Q2) := by
  have H1 := hide h1
  have H2 := hide h2
  clear h1 h2
  go_enter Tryz.func112, Tryz.ntmps112
  go_wp2_with fail
  refine H1.out.mono ?_
  rintro e w2 ⟨n, ev, rfl, hq1, hz2, hs2⟩
  rw [handW_size] at hz2
  have p1 : w2.cell? ⟨w.heap.size, 1, none⟩ = some (.pointer (some ⟨ra, 0, none⟩)) := by
    rw [cell_of (hs2 _ (by omega) (by omega))]; unfold handW
    rw [World.cell?_alloc_past _ _ _ (by simp; omega), World.cell?_alloc_past _ _ _ (by simp), World.cell?_alloc_new]; rfl
  have o2 : w2.cell? ⟨w.heap.size + 1, 2, none⟩ = some (.int .i64 xB) := by
    rw [cell_of (hs2 _ (by omega) (by omega))]; unfold handW
    rw [World.cell?_alloc_past _ _ _ (by simp), World.cell?_alloc_at _ _ _ _ (by simp)]; rfl
  have o3 : w2.cell? ⟨w.heap.size + 1, 3, none⟩ = some (.int .i64 xD) := by
    rw [cell_of (hs2 _ (by omega) (by omega))]; unfold handW
    rw [World.cell?_alloc_past _ _ _ (by simp), World.cell?_alloc_at _ _ _ _ (by simp)]; rfl
  have HS2 := hide hs2
  have H2' := hide (H2.out n ev w2 hq1 hz2)
  clear hs2 hq1 H2 H1
  go_wp2_with fail
  refine H2'.out.mono ?_
  rintro e w3 ⟨m, y, rfl, hq2, hz3, hs3⟩
  have eN : w3.heap[w.heap.size + 2]? = some (.cells #[.int .i64 0, .int .i64 0] 161 (0, 0)) := by
    rw [hs3 _ (by omega) (by omega), HS2.out _ (by omega) (by omega)]
    unfold handW
    exact (by simpa using heap_alloc_new ((w.alloc _).alloc _) (.cells #[.int .i64 0, .int .i64 0] 161))
  have z0 : w3.cell? ⟨w.heap.size + 1 + 1, 0, none⟩ = some (.int .i64 0) := by simp [World.cell?, eN]
  have z1 : w3.cell? ⟨w.heap.size + 1 + 1, 1, none⟩ = some (.int .i64 0) := by simp [World.cell?, eN]
  have zf : ∀ i, w3.frozen? ⟨w.heap.size + 1 + 1, i, none⟩ = false := fun i => by simp [World.frozen?, eN]
  have hlt3 : w.heap.size + 1 + 1 < w3.heap.size := by omega
  have HQ2 := hide hq2
  clear hq2 hs3 eN H2'
  simp only [whyV]
  go_wp2_with fail
  go_region
  all_goals go_wp2_with fail
  all_goals
    refine bodyPost_ret (v := .tuple #[.int .i64 n, ev, .int .i64 m, .agg #[.int .i64 y.reason, .int .i64 y.handle]]) (by simp [results, Tryz.results112, go_sem, z0, z1, hlt3]) rfl ⟨n, ev, m, y, w3, rfl, HQ2.out, ?_⟩
    repeat (first | exact Kept.refl _ _ | refine Kept.drew ?_ | refine Kept.setCell ?_ (by left; rfl) _ | refine Kept.alloc ?_ _)

set_option maxRecDepth 100000 in
set_option maxHeartbeats 4000000 in
theorem handed_Pop (w : World) (pa ra : Nat) (xA xB xD xE c0 c1 c2 c3 : Int) (cp : Option Addr) (cn cc : Nat) (Q1 : Int → Value → World → Prop) (Q2 : Int → Value → Int → Why → World → Prop)
    (h1 : Calls Tryz.prog 39 #[.pointer (some ⟨pa, 0, none⟩), .int .i64 xB] (handW w pa ra 16 xA xB xD xE c0 c1 c2 c3 cp cn cc) fun e w' => ∃ n ev, e = .returned (.tuple #[.int .i64 n, ev]) ∧ Q1 n ev w' ∧ BoxSame (handW w pa ra 16 xA xB xD xE c0 c1 c2 c3 cp cn cc) w' w.heap.size)
    (h2 : ∀ n ev w2, Q1 n ev w2 → w.heap.size + 3 ≤ w2.heap.size → Calls Tryz.prog 153 #[.pointer (some ⟨ra, 0, none⟩), .int .i64 xB] w2 fun e w' => ∃ m y, e = .returned (.tuple #[.int .i64 m, whyV y]) ∧ Q2 n ev m y w' ∧ BoxSame w2 w' w.heap.size) :
    Calls Tryz.prog 112 #[.agg #[.pointer (some ⟨pa, 0, none⟩), .pointer (some ⟨ra, 0, none⟩)], .agg #[.int .i64 16, .int .i64 xA, .int .i64 xB, .int .i64 xD, .int .i64 xE, .int .i64 c0, .int .i64 c1, .int .i64 c2, .int .i64 c3, .slice cp cn cc]] w (HandPost w Q2) := by
  have H1 := hide h1
  have H2 := hide h2
  clear h1 h2
  go_enter Tryz.func112, Tryz.ntmps112
  go_wp2_with fail
  refine H1.out.mono ?_
  rintro e w2 ⟨n, ev, rfl, hq1, hz2, hs2⟩
  rw [handW_size] at hz2
  have p1 : w2.cell? ⟨w.heap.size, 1, none⟩ = some (.pointer (some ⟨ra, 0, none⟩)) := by
    rw [cell_of (hs2 _ (by omega) (by omega))]; unfold handW
    rw [World.cell?_alloc_past _ _ _ (by simp; omega), World.cell?_alloc_past _ _ _ (by simp), World.cell?_alloc_new]; rfl
  have o2 : w2.cell? ⟨w.heap.size + 1, 2, none⟩ = some (.int .i64 xB) := by
    rw [cell_of (hs2 _ (by omega) (by omega))]; unfold handW
    rw [World.cell?_alloc_past _ _ _ (by simp), World.cell?_alloc_at _ _ _ _ (by simp)]; rfl
  have o3 : w2.cell? ⟨w.heap.size + 1, 3, none⟩ = some (.int .i64 xD) := by
    rw [cell_of (hs2 _ (by omega) (by omega))]; unfold handW
    rw [World.cell?_alloc_past _ _ _ (by simp), World.cell?_alloc_at _ _ _ _ (by simp)]; rfl
  have HS2 := hide hs2
  have H2' := hide (H2.out n ev w2 hq1 hz2)
  clear hs2 hq1 H2 H1
  go_wp2_with fail
  refine H2'.out.mono ?_
  rintro e w3 ⟨m, y, rfl, hq2, hz3, hs3⟩
  have eN : w3.heap[w.heap.size + 2]? = some (.cells #[.int .i64 0, .int .i64 0] 161 (0, 0)) := by
    rw [hs3 _ (by omega) (by omega), HS2.out _ (by omega) (by omega)]
    unfold handW
    exact (by simpa using heap_alloc_new ((w.alloc _).alloc _) (.cells #[.int .i64 0, .int .i64 0] 161))
  have z0 : w3.cell? ⟨w.heap.size + 1 + 1, 0, none⟩ = some (.int .i64 0) := by simp [World.cell?, eN]
  have z1 : w3.cell? ⟨w.heap.size + 1 + 1, 1, none⟩ = some (.int .i64 0) := by simp [World.cell?, eN]
  have zf : ∀ i, w3.frozen? ⟨w.heap.size + 1 + 1, i, none⟩ = false := fun i => by simp [World.frozen?, eN]
  have hlt3 : w.heap.size + 1 + 1 < w3.heap.size := by omega
  have HQ2 := hide hq2
  clear hq2 hs3 eN H2'
  simp only [whyV]
  go_wp2_with fail
  go_region
  all_goals go_wp2_with fail
  all_goals
    refine bodyPost_ret (v := .tuple #[.int .i64 n, ev, .int .i64 m, .agg #[.int .i64 y.reason, .int .i64 y.handle]]) (by simp [results, Tryz.results112, go_sem, z0, z1, hlt3]) rfl ⟨n, ev, m, y, w3, rfl, HQ2.out, ?_⟩
    repeat (first | exact Kept.refl _ _ | refine Kept.drew ?_ | refine Kept.setCell ?_ (by left; rfl) _ | refine Kept.alloc ?_ _)
end Go.Proofs.YtcnmfljpmpgnjaaGreatDoor
