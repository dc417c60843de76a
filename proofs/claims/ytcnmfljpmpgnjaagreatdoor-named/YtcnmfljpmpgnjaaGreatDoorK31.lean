import Derived.Test.YtcnmfljpmpgnjaaGreatDoorK30
import Derived.ChangeKeysEq
import Derived.Test.YtcnmfljpmpgnjaaGreatDoorK25
import Derived.Test.YtcnmfljpmpgnjaaGreatDoorK26
namespace Go.Proofs.YtcnmfljpmpgnjaaGreatDoor
open Go.RowKit
open Tm (H Ob Sl Why)

theorem cells3 : Tryz.prog.cellsOf 3 = 1 := by kernel_rfl
theorem eql_six (w : World) (s0 s1 s2 s3 s4 s5 : Int) : (binOp .eql 44 (.agg #[.int .i64 s0, .int .i64 s1, .int .i64 s2, .int .i64 s3, .int .i64 s4, .int .i64 s5]) (.agg #[.int .i64 s0, .int .i64 s1, .int .i64 s2, .int .i64 s3, .int .i64 s4, .int .i64 s5])).run Tryz.prog w = .ok (.bool true) w := by
  obtain ⟨i3, hi3, hz0, hz1, _⟩ := info_parts info3
  have he : Tryz.prog.plainKey 3 = true := by kernel_rfl
  have hp : ∀ (xs : Array Value) (i : Nat) (u : Value), xs[i]? = some u → (part 3 xs i).run Tryz.prog w = .ok u w := fun xs i u h => run_part_plain w he h
  have hq0 : ∀ (d : Nat) (s : Int), (Op.equalIn (d + 1) 3 (.int .i64 s) (.int .i64 s)).run Tryz.prog w = .ok true w := fun d s => by
    simp [Op.equalIn, run_underlying Tryz.underlying3]
  have hq : ∀ s : Int, (Op.equalIn 9999 3 (.int .i64 s) (.int .i64 s)).run Tryz.prog w = .ok true w := fun s => hq0 9998 s
  simp only [binOp]
  simp only [Op.equal, Op.maxDepth, Sem.run_bind]
  rw [run_equalIn_array w 9999 _ _ Tryz.underlying44 hi3, cells3]
  have g : ∀ i u, (#[.int .i64 s0, .int .i64 s1, .int .i64 s2, .int .i64 s3, .int .i64 s4, .int .i64 s5] : Array Value)[i]? = some u → (part 3 #[.int .i64 s0, .int .i64 s1, .int .i64 s2, .int .i64 s3, .int .i64 s4, .int .i64 s5] i).run Tryz.prog w = .ok u w := fun i u h => hp _ i u h
  simp [List.range, List.range.loop, Op.eqItems, g 0 _ rfl, g 1 _ rfl, g 2 _ rfl, g 3 _ rfl, g 4 _ rfl, g 5 _ rfl, hq, Result.andThen]

def BoxSame2 (W w' : World) (n : Nat) : Prop := W.heap.size ≤ w'.heap.size ∧ ∀ x, n ≤ x → x < n + 2 → w'.heap[x]? = W.heap[x]?

theorem ask_box {w w' : World} {pa ra : Nat} {kind xA xB xD xE c0 c1 c2 c3 : Int} {cp : Option Addr} {cn cc : Nat} (h : BoxSame2 (askW w pa ra kind xA xB xD xE c0 c1 c2 c3 cp cn cc) w' w.heap.size) :
    w'.cell? ⟨w.heap.size, 1, none⟩ = some (.pointer (some ⟨ra, 0, none⟩)) ∧ w'.cell? ⟨w.heap.size + 1, 2, none⟩ = some (.int .i64 xB) ∧ w'.cell? ⟨w.heap.size + 1, 3, none⟩ = some (.int .i64 xD) ∧ w'.cell? ⟨w.heap.size + 1, 4, none⟩ = some (.int .i64 xE) := by
  refine ⟨?_, ?_, ?_, ?_⟩
  · rw [cell_of (h.2 _ (by omega) (by omega))]; unfold askW
    rw [World.cell?_alloc_past _ _ _ (by simp), World.cell?_alloc_new]; rfl
  all_goals
    rw [cell_of (h.2 _ (by omega) (by omega))]; unfold askW
    rw [World.cell?_alloc_at _ _ _ _ (by simp)]; rfl

def DonePost (Q2 : Value → Why → World → Prop) (e : Ending) (w' : World) : Prop := e = .returned (.bool true) ∧ ∃ ev y w3, Q2 ev y w3 ∧ Below w3.heap.size w3 w'

set_option maxRecDepth 100000 in
set_option maxHeartbeats 4000000 in
theorem done_Set (N : Nat) (A : Nat → Addr) (w : World) (pa ra : Nat) (xA xB xD xE c0 c1 c2 c3 : Int) (cp : Option Addr) (cn cc : Nat) (Q1 : Value → World → Prop) (Q2 : Value → Why → World → Prop)
    (h1 : Calls Tryz.prog 36 #[.pointer (some ⟨pa, 0, none⟩), .int .i64 xB, .int .i64 xD, .int .i64 xE] (askW w pa ra 5 xA xB xD xE c0 c1 c2 c3 cp cn cc) fun e w' => ∃ ev, e = .returned ev ∧ Q1 ev w' ∧ BoxSame2 (askW w pa ra 5 xA xB xD xE c0 c1 c2 c3 cp cn cc) w' w.heap.size)
    (h2 : ∀ ev w2, Q1 ev w2 → w.heap.size + 2 ≤ w2.heap.size → Calls Tryz.prog 140 #[.pointer (some ⟨ra, 0, none⟩), .int .i64 xB, .int .i64 xD, .int .i64 xE] w2 fun e w' => ∃ y, e = .returned (whyV y) ∧ Q2 ev y w')
    (h3 : ∀ ev y w3, Q2 ev y w3 → ∀ w', Below w3.heap.size w3 w' → Errs N A w' ∧ ErrIs A w' ev y) :
    Calls Tryz.prog 111 #[.agg #[.pointer (some ⟨pa, 0, none⟩), .pointer (some ⟨ra, 0, none⟩)], .agg #[.int .i64 5, .int .i64 xA, .int .i64 xB, .int .i64 xD, .int .i64 xE, .int .i64 c0, .int .i64 c1, .int .i64 c2, .int .i64 c3, .slice cp cn cc]] w (DonePost Q2) := by
  have H1 := hide h1
  have H2 := hide h2
  have H3 := hide h3
  clear h1 h2 h3
  go_enter Tryz.func111, Tryz.ntmps111
  go_wp2_with fail
  refine H1.out.mono ?_
  rintro e w2 ⟨ev, rfl, hq1, hbx⟩
  obtain ⟨p1, o2, o3, o4⟩ := ask_box hbx
  have hz2 := hbx.1
  rw [askW_size] at hz2
  have H2' := hide (H2.out ev w2 hq1 hz2)
  clear hq1 H2 H1 hbx
  go_wp2_with fail
  refine H2'.out.mono ?_
  rintro e w3 ⟨y, rfl, hq2⟩
  have HI := fun o => hide (is_any N A (w3.alloc o) (H3.out ev y w3 hq2 _ (Below.alloc0 _ o)).1 ev y (H3.out ev y w3 hq2 _ (Below.alloc0 _ o)).2)
  have HQ2 := hide hq2
  clear hq2 H2' H3
  simp only [whyV]
  go_wp2_with fail
  refine ((HI _).out).mono ?_
  rintro e w4 ⟨rfl, hb4⟩
  have HB4 : Hid (Below w3.heap.size w3 w4) := (Below.alloc0 _ _).trans (hb4.mono (by simp))
  clear hb4
  go_wp2_with fail
  go_ret
  exact ⟨rfl, ev, y, w3, HQ2.out, HB4.out⟩

set_option maxRecDepth 100000 in
set_option maxHeartbeats 4000000 in
theorem asked_Set (w : World) (wb pa ra : Nat) (xA xB xD xE c0 c1 c2 c3 : Int) (cp : Option Addr) (cn cc : Nat) (Q2 : Value → Why → World → Prop)
    (h1 : Calls Tryz.prog 111 #[.agg #[.pointer (some ⟨pa, 0, none⟩), .pointer (some ⟨ra, 0, none⟩)], .agg #[.int .i64 5, .int .i64 xA, .int .i64 xB, .int .i64 xD, .int .i64 xE, .int .i64 c0, .int .i64 c1, .int .i64 c2, .int .i64 c3, .slice cp cn cc]] (askW w pa ra 5 xA xB xD xE c0 c1 c2 c3 cp cn cc) (DonePost Q2)) :
    Calls Tryz.prog 81 #[.pointer (some ⟨wb, 0, none⟩), .agg #[.pointer (some ⟨pa, 0, none⟩), .pointer (some ⟨ra, 0, none⟩)], .agg #[.int .i64 5, .int .i64 xA, .int .i64 xB, .int .i64 xD, .int .i64 xE, .int .i64 c0, .int .i64 c1, .int .i64 c2, .int .i64 c3, .slice cp cn cc]] w (DonePost Q2) := by
  have H1 := hide h1
  clear h1
  go_enter Tryz.func81, Tryz.ntmps81
  go_wp2_with fail
  refine H1.out.mono ?_
  rintro e w2 ⟨rfl, ev, y, w3, hq, hb⟩
  have HQ := hide hq
  have HB := hide hb
  clear hq hb H1
  go_wp2_with fail
  go_ret
  exact ⟨rfl, ev, y, w3, HQ.out, HB.out⟩

set_option maxRecDepth 100000 in
set_option maxHeartbeats 4000000 in
theorem done_Point (N : Nat) (A : Nat → Addr) (w : World) (pa ra : Nat) (xA xB xD xE c0 c1 c2 c3 : Int) (cp : Option Addr) (cn cc : Nat) (Q1 : Value → World → Prop) (Q2 : Value → Why → World → Prop)
    (h1 : Calls Tryz.prog 43 #[.pointer (some ⟨pa, 0, none⟩), .int .i64 xB, .int .i64 xD, .int .i64 xE] (askW w pa ra 7 xA xB xD xE c0 c1 c2 c3 cp cn cc) fun e w' => ∃ ev, e = .returned ev ∧ Q1 ev w' ∧ BoxSame2 (askW w pa ra 7 xA xB xD xE c0 c1 c2 c3 cp cn cc) w' w.heap.size)
    (h2 : ∀ ev w2, Q1 ev w2 → w.heap.size + 2 ≤ w2.heap.size → Calls Tryz.prog 141 #[.pointer (some ⟨ra, 0, none⟩), .int .i64 xB, .int .i64 xD, .int .i64 xE] w2 fun e w' => ∃ y, e = .returned (whyV y) ∧ Q2 ev y w')
    (h3 : ∀ ev y w3, Q2 ev y w3 → ∀ w', Below w3.heap.size w3 w' → Errs N A w' ∧ ErrIs A w' ev y) :
    Calls Tryz.prog 111 #[.agg #[.pointer (some ⟨pa, 0, none⟩), .pointer (some ⟨ra, 0, none⟩)], .agg #[.int .i64 7, .int .i64 xA, .int .i64 xB, .int .i64 xD, .int .i64 xE, .int .i64 c0, .int .i64 c1, .int .i64 c2, .int .i64 c3, .slice cp cn cc]] w (DonePost Q2) := by
  have H1 := hide h1
  have H2 := hide h2
  have H3 := hide h3
  clear h1 h2 h3
  go_enter Tryz.func111, Tryz.ntmps111
  go_wp2_with fail
  refine H1.out.mono ?_
  rintro e w2 ⟨ev, rfl, hq1, hbx⟩
  obtain ⟨p1, o2, o3, o4⟩ := ask_box hbx
  have hz2 := hbx.1
  rw [askW_size] at hz2
  have H2' := hide (H2.out ev w2 hq1 hz2)
  clear hq1 H2 H1 hbx
  go_wp2_with fail
  refine H2'.out.mono ?_
  rintro e w3 ⟨y, rfl, hq2⟩
  have HI := fun o => hide (is_any N A (w3.alloc o) (H3.out ev y w3 hq2 _ (Below.alloc0 _ o)).1 ev y (H3.out ev y w3 hq2 _ (Below.alloc0 _ o)).2)
  have HQ2 := hide hq2
  clear hq2 H2' H3
  simp only [whyV]
  go_wp2_with fail
  refine ((HI _).out).mono ?_
  rintro e w4 ⟨rfl, hb4⟩
  have HB4 : Hid (Below w3.heap.size w3 w4) := (Below.alloc0 _ _).trans (hb4.mono (by simp))
  clear hb4
  go_wp2_with fail
  go_ret
  exact ⟨rfl, ev, y, w3, HQ2.out, HB4.out⟩

set_option maxRecDepth 100000 in
set_option maxHeartbeats 4000000 in
theorem asked_Point (w : World) (wb pa ra : Nat) (xA xB xD xE c0 c1 c2 c3 : Int) (cp : Option Addr) (cn cc : Nat) (Q2 : Value → Why → World → Prop)
    (h1 : Calls Tryz.prog 111 #[.agg #[.pointer (some ⟨pa, 0, none⟩), .pointer (some ⟨ra, 0, none⟩)], .agg #[.int .i64 7, .int .i64 xA, .int .i64 xB, .int .i64 xD, .int .i64 xE, .int .i64 c0, .int .i64 c1, .int .i64 c2, .int .i64 c3, .slice cp cn cc]] (askW w pa ra 7 xA xB xD xE c0 c1 c2 c3 cp cn cc) (DonePost Q2)) :
    Calls Tryz.prog 81 #[.pointer (some ⟨wb, 0, none⟩), .agg #[.pointer (some ⟨pa, 0, none⟩), .pointer (some ⟨ra, 0, none⟩)], .agg #[.int .i64 7, .int .i64 xA, .int .i64 xB, .int .i64 xD, .int .i64 xE, .int .i64 c0, .int .i64 c1, .int .i64 c2, .int .i64 c3, .slice cp cn cc]] w (DonePost Q2) := by
  have H1 := hide h1
  clear h1
  go_enter Tryz.func81, Tryz.ntmps81
  go_wp2_with fail
  refine H1.out.mono ?_
  rintro e w2 ⟨rfl, ev, y, w3, hq, hb⟩
  have HQ := hide hq
  have HB := hide hb
  clear hq hb H1
  go_wp2_with fail
  go_ret
  exact ⟨rfl, ev, y, w3, HQ.out, HB.out⟩

set_option maxRecDepth 100000 in
set_option maxHeartbeats 4000000 in
theorem done_Free (N : Nat) (A : Nat → Addr) (w : World) (pa ra : Nat) (xA xB xD xE c0 c1 c2 c3 : Int) (cp : Option Addr) (cn cc : Nat) (Q1 : Value → World → Prop) (Q2 : Value → Why → World → Prop)
    (h1 : Calls Tryz.prog 23 #[.pointer (some ⟨pa, 0, none⟩), .int .i64 xB] (askW w pa ra 10 xA xB xD xE c0 c1 c2 c3 cp cn cc) fun e w' => ∃ ev, e = .returned ev ∧ Q1 ev w' ∧ BoxSame2 (askW w pa ra 10 xA xB xD xE c0 c1 c2 c3 cp cn cc) w' w.heap.size)
    (h2 : ∀ ev w2, Q1 ev w2 → w.heap.size + 2 ≤ w2.heap.size → Calls Tryz.prog 142 #[.pointer (some ⟨ra, 0, none⟩), .int .i64 xB] w2 fun e w' => ∃ y, e = .returned (whyV y) ∧ Q2 ev y w')
    (h3 : ∀ ev y w3, Q2 ev y w3 → ∀ w', Below w3.heap.size w3 w' → Errs N A w' ∧ ErrIs A w' ev y) :
    Calls Tryz.prog 111 #[.agg #[.pointer (some ⟨pa, 0, none⟩), .pointer (some ⟨ra, 0, none⟩)], .agg #[.int .i64 10, .int .i64 xA, .int .i64 xB, .int .i64 xD, .int .i64 xE, .int .i64 c0, .int .i64 c1, .int .i64 c2, .int .i64 c3, .slice cp cn cc]] w (DonePost Q2) := by
  have H1 := hide h1
  have H2 := hide h2
  have H3 := hide h3
  clear h1 h2 h3
  go_enter Tryz.func111, Tryz.ntmps111
  go_wp2_with fail
  refine H1.out.mono ?_
  rintro e w2 ⟨ev, rfl, hq1, hbx⟩
  obtain ⟨p1, o2, o3, o4⟩ := ask_box hbx
  have hz2 := hbx.1
  rw [askW_size] at hz2
  have H2' := hide (H2.out ev w2 hq1 hz2)
  clear hq1 H2 H1 hbx
  go_wp2_with fail
  refine H2'.out.mono ?_
  rintro e w3 ⟨y, rfl, hq2⟩
  have HI := fun o => hide (is_any N A (w3.alloc o) (H3.out ev y w3 hq2 _ (Below.alloc0 _ o)).1 ev y (H3.out ev y w3 hq2 _ (Below.alloc0 _ o)).2)
  have HQ2 := hide hq2
  clear hq2 H2' H3
  simp only [whyV]
  go_wp2_with fail
  refine ((HI _).out).mono ?_
  rintro e w4 ⟨rfl, hb4⟩
  have HB4 : Hid (Below w3.heap.size w3 w4) := (Below.alloc0 _ _).trans (hb4.mono (by simp))
  clear hb4
  go_wp2_with fail
  go_ret
  exact ⟨rfl, ev, y, w3, HQ2.out, HB4.out⟩

set_option maxRecDepth 100000 in
set_option maxHeartbeats 4000000 in
theorem asked_Free (w : World) (wb pa ra : Nat) (xA xB xD xE c0 c1 c2 c3 : Int) (cp : Option Addr) (cn cc : Nat) (Q2 : Value → Why → World → Prop)
    (h1 : Calls Tryz.prog 111 #[.agg #[.pointer (some ⟨pa, 0, none⟩), .pointer (some ⟨ra, 0, none⟩)], .agg #[.int .i64 10, .int .i64 xA, .int .i64 xB, .int .i64 xD, .int .i64 xE, .int .i64 c0, .int .i64 c1, .int .i64 c2, .int .i64 c3, .slice cp cn cc]] (askW w pa ra 10 xA xB xD xE c0 c1 c2 c3 cp cn cc) (DonePost Q2)) :
    Calls Tryz.prog 81 #[.pointer (some ⟨wb, 0, none⟩), .agg #[.pointer (some ⟨pa, 0, none⟩), .pointer (some ⟨ra, 0, none⟩)], .agg #[.int .i64 10, .int .i64 xA, .int .i64 xB, .int .i64 xD, .int .i64 xE, .int .i64 c0, .int .i64 c1, .int .i64 c2, .int .i64 c3, .slice cp cn cc]] w (DonePost Q2) := by
  have H1 := hide h1
  clear h1
  go_enter Tryz.func81, Tryz.ntmps81
  go_wp2_with fail
  refine H1.out.mono ?_
  rintro e w2 ⟨rfl, ev, y, w3, hq, hb⟩
  have HQ := hide hq
  have HB := hide hb
  clear hq hb H1
  go_wp2_with fail
  go_ret
  exact ⟨rfl, ev, y, w3, HQ.out, HB.out⟩

set_option maxRecDepth 100000 in
set_option maxHeartbeats 4000000 in
theorem done_Push (N : Nat) (A : Nat → Addr) (w : World) (pa ra : Nat) (xA xB xD xE c0 c1 c2 c3 : Int) (cp : Option Addr) (cn cc : Nat) (Q1 : Value → World → Prop) (Q2 : Value → Why → World → Prop)
    (h1 : Calls Tryz.prog 37 #[.pointer (some ⟨pa, 0, none⟩)] (askW w pa ra 15 xA xB xD xE c0 c1 c2 c3 cp cn cc) fun e w' => ∃ ev, e = .returned ev ∧ Q1 ev w' ∧ BoxSame2 (askW w pa ra 15 xA xB xD xE c0 c1 c2 c3 cp cn cc) w' w.heap.size)
    (h2 : ∀ ev w2, Q1 ev w2 → w.heap.size + 2 ≤ w2.heap.size → Calls Tryz.prog 143 #[.pointer (some ⟨ra, 0, none⟩)] w2 fun e w' => ∃ y, e = .returned (whyV y) ∧ Q2 ev y w')
    (h3 : ∀ ev y w3, Q2 ev y w3 → ∀ w', Below w3.heap.size w3 w' → Errs N A w' ∧ ErrIs A w' ev y) :
    Calls Tryz.prog 111 #[.agg #[.pointer (some ⟨pa, 0, none⟩), .pointer (some ⟨ra, 0, none⟩)], .agg #[.int .i64 15, .int .i64 xA, .int .i64 xB, .int .i64 xD, .int .i64 xE, .int .i64 c0, .int .i64 c1, .int .i64 c2, .int .i64 c3, .slice cp cn cc]] w (DonePost Q2) := by
  have H1 := hide h1
  have H2 := hide h2
  have H3 := hide h3
  clear h1 h2 h3
  go_enter Tryz.func111, Tryz.ntmps111
  go_wp2_with fail
  refine H1.out.mono ?_
  rintro e w2 ⟨ev, rfl, hq1, hbx⟩
  obtain ⟨p1, o2, o3, o4⟩ := ask_box hbx
  have hz2 := hbx.1
  rw [askW_size] at hz2
  have H2' := hide (H2.out ev w2 hq1 hz2)
  clear hq1 H2 H1 hbx
  go_wp2_with fail
  refine H2'.out.mono ?_
  rintro e w3 ⟨y, rfl, hq2⟩
  have HI := fun o => hide (is_any N A (w3.alloc o) (H3.out ev y w3 hq2 _ (Below.alloc0 _ o)).1 ev y (H3.out ev y w3 hq2 _ (Below.alloc0 _ o)).2)
  have HQ2 := hide hq2
  clear hq2 H2' H3
  simp only [whyV]
  go_wp2_with fail
  refine ((HI _).out).mono ?_
  rintro e w4 ⟨rfl, hb4⟩
  have HB4 : Hid (Below w3.heap.size w3 w4) := (Below.alloc0 _ _).trans (hb4.mono (by simp))
  clear hb4
  go_wp2_with fail
  go_ret
  exact ⟨rfl, ev, y, w3, HQ2.out, HB4.out⟩

set_option maxRecDepth 100000 in
set_option maxHeartbeats 4000000 in
theorem asked_Push (w : World) (wb pa ra : Nat) (xA xB xD xE c0 c1 c2 c3 : Int) (cp : Option Addr) (cn cc : Nat) (Q2 : Value → Why → World → Prop)
    (h1 : Calls Tryz.prog 111 #[.agg #[.pointer (some ⟨pa, 0, none⟩), .pointer (some ⟨ra, 0, none⟩)], .agg #[.int .i64 15, .int .i64 xA, .int .i64 xB, .int .i64 xD, .int .i64 xE, .int .i64 c0, .int .i64 c1, .int .i64 c2, .int .i64 c3, .slice cp cn cc]] (askW w pa ra 15 xA xB xD xE c0 c1 c2 c3 cp cn cc) (DonePost Q2)) :
    Calls Tryz.prog 81 #[.pointer (some ⟨wb, 0, none⟩), .agg #[.pointer (some ⟨pa, 0, none⟩), .pointer (some ⟨ra, 0, none⟩)], .agg #[.int .i64 15, .int .i64 xA, .int .i64 xB, .int .i64 xD, .int .i64 xE, .int .i64 c0, .int .i64 c1, .int .i64 c2, .int .i64 c3, .slice cp cn cc]] w (DonePost Q2) := by
  have H1 := hide h1
  clear h1
  go_enter Tryz.func81, Tryz.ntmps81
  go_wp2_with fail
  refine H1.out.mono ?_
  rintro e w2 ⟨rfl, ev, y, w3, hq, hb⟩
  have HQ := hide hq
  have HB := hide hb
  clear hq hb H1
  go_wp2_with fail
  go_ret
  exact ⟨rfl, ev, y, w3, HQ.out, HB.out⟩

set_option maxRecDepth 100000 in
set_option maxHeartbeats 4000000 in
theorem done_Pin (N : Nat) (A : Nat → Addr) (w : World) (pa ra : Nat) (xA xB xD xE c0 c1 c2 c3 : Int) (cp : Option Addr) (cn cc : Nat) (Q1 : Value → World → Prop) (Q2 : Value → Why → World → Prop)
    (h1 : Calls Tryz.prog 34 #[.pointer (some ⟨pa, 0, none⟩), .int .i64 xB] (askW w pa ra 17 xA xB xD xE c0 c1 c2 c3 cp cn cc) fun e w' => ∃ ev, e = .returned ev ∧ Q1 ev w' ∧ BoxSame2 (askW w pa ra 17 xA xB xD xE c0 c1 c2 c3 cp cn cc) w' w.heap.size)
    (h2 : ∀ ev w2, Q1 ev w2 → w.heap.size + 2 ≤ w2.heap.size → Calls Tryz.prog 144 #[.pointer (some ⟨ra, 0, none⟩), .int .i64 xB] w2 fun e w' => ∃ y, e = .returned (whyV y) ∧ Q2 ev y w')
    (h3 : ∀ ev y w3, Q2 ev y w3 → ∀ w', Below w3.heap.size w3 w' → Errs N A w' ∧ ErrIs A w' ev y) :
    Calls Tryz.prog 111 #[.agg #[.pointer (some ⟨pa, 0, none⟩), .pointer (some ⟨ra, 0, none⟩)], .agg #[.int .i64 17, .int .i64 xA, .int .i64 xB, .int .i64 xD, .int .i64 xE, .int .i64 c0, .int .i64 c1, .int .i64 c2, .int .i64 c3, .slice cp cn cc]] w (DonePost Q2) := by
  have H1 := hide h1
  have H2 := hide h2
  have H3 := hide h3
  clear h1 h2 h3
  go_enter Tryz.func111, Tryz.ntmps111
  go_wp2_with fail
  refine H1.out.mono ?_
  rintro e w2 ⟨ev, rfl, hq1, hbx⟩
  obtain ⟨p1, o2, o3, o4⟩ := ask_box hbx
  have hz2 := hbx.1
  rw [askW_size] at hz2
  have H2' := hide (H2.out ev w2 hq1 hz2)
  clear hq1 H2 H1 hbx
  go_wp2_with fail
  refine H2'.out.mono ?_
  rintro e w3 ⟨y, rfl, hq2⟩
  have HI := fun o => hide (is_any N A (w3.alloc o) (H3.out ev y w3 hq2 _ (Below.alloc0 _ o)).1 ev y (H3.out ev y w3 hq2 _ (Below.alloc0 _ o)).2)
  have HQ2 := hide hq2
  clear hq2 H2' H3
  simp only [whyV]
  go_wp2_with fail
  refine ((HI _).out).mono ?_
  rintro e w4 ⟨rfl, hb4⟩
  have HB4 : Hid (Below w3.heap.size w3 w4) := (Below.alloc0 _ _).trans (hb4.mono (by simp))
  clear hb4
  go_wp2_with fail
  go_ret
  exact ⟨rfl, ev, y, w3, HQ2.out, HB4.out⟩

set_option maxRecDepth 100000 in
set_option maxHeartbeats 4000000 in
theorem asked_Pin (w : World) (wb pa ra : Nat) (xA xB xD xE c0 c1 c2 c3 : Int) (cp : Option Addr) (cn cc : Nat) (Q2 : Value → Why → World → Prop)
    (h1 : Calls Tryz.prog 111 #[.agg #[.pointer (some ⟨pa, 0, none⟩), .pointer (some ⟨ra, 0, none⟩)], .agg #[.int .i64 17, .int .i64 xA, .int .i64 xB, .int .i64 xD, .int .i64 xE, .int .i64 c0, .int .i64 c1, .int .i64 c2, .int .i64 c3, .slice cp cn cc]] (askW w pa ra 17 xA xB xD xE c0 c1 c2 c3 cp cn cc) (DonePost Q2)) :
    Calls Tryz.prog 81 #[.pointer (some ⟨wb, 0, none⟩), .agg #[.pointer (some ⟨pa, 0, none⟩), .pointer (some ⟨ra, 0, none⟩)], .agg #[.int .i64 17, .int .i64 xA, .int .i64 xB, .int .i64 xD, .int .i64 xE, .int .i64 c0, .int .i64 c1, .int .i64 c2, .int .i64 c3, .slice cp cn cc]] w (DonePost Q2) := by
  have H1 := hide h1
  clear h1
  go_enter Tryz.func81, Tryz.ntmps81
  go_wp2_with fail
  refine H1.out.mono ?_
  rintro e w2 ⟨rfl, ev, y, w3, hq, hb⟩
  have HQ := hide hq
  have HB := hide hb
  clear hq hb H1
  go_wp2_with fail
  go_ret
  exact ⟨rfl, ev, y, w3, HQ.out, HB.out⟩

set_option maxRecDepth 100000 in
set_option maxHeartbeats 4000000 in
theorem done_Unpin (N : Nat) (A : Nat → Addr) (w : World) (pa ra : Nat) (xA xB xD xE c0 c1 c2 c3 : Int) (cp : Option Addr) (cn cc : Nat) (Q1 : Value → World → Prop) (Q2 : Value → Why → World → Prop)
    (h1 : Calls Tryz.prog 35 #[.pointer (some ⟨pa, 0, none⟩), .int .i64 xB] (askW w pa ra 18 xA xB xD xE c0 c1 c2 c3 cp cn cc) fun e w' => ∃ ev, e = .returned ev ∧ Q1 ev w' ∧ BoxSame2 (askW w pa ra 18 xA xB xD xE c0 c1 c2 c3 cp cn cc) w' w.heap.size)
    (h2 : ∀ ev w2, Q1 ev w2 → w.heap.size + 2 ≤ w2.heap.size → Calls Tryz.prog 145 #[.pointer (some ⟨ra, 0, none⟩), .int .i64 xB] w2 fun e w' => ∃ y, e = .returned (whyV y) ∧ Q2 ev y w')
    (h3 : ∀ ev y w3, Q2 ev y w3 → ∀ w', Below w3.heap.size w3 w' → Errs N A w' ∧ ErrIs A w' ev y) :
    Calls Tryz.prog 111 #[.agg #[.pointer (some ⟨pa, 0, none⟩), .pointer (some ⟨ra, 0, none⟩)], .agg #[.int .i64 18, .int .i64 xA, .int .i64 xB, .int .i64 xD, .int .i64 xE, .int .i64 c0, .int .i64 c1, .int .i64 c2, .int .i64 c3, .slice cp cn cc]] w (DonePost Q2) := by
  have H1 := hide h1
  have H2 := hide h2
  have H3 := hide h3
  clear h1 h2 h3
  go_enter Tryz.func111, Tryz.ntmps111
  go_wp2_with fail
  refine H1.out.mono ?_
  rintro e w2 ⟨ev, rfl, hq1, hbx⟩
  obtain ⟨p1, o2, o3, o4⟩ := ask_box hbx
  have hz2 := hbx.1
  rw [askW_size] at hz2
  have H2' := hide (H2.out ev w2 hq1 hz2)
  clear hq1 H2 H1 hbx
  go_wp2_with fail
  refine H2'.out.mono ?_
  rintro e w3 ⟨y, rfl, hq2⟩
  have HI := fun o => hide (is_any N A (w3.alloc o) (H3.out ev y w3 hq2 _ (Below.alloc0 _ o)).1 ev y (H3.out ev y w3 hq2 _ (Below.alloc0 _ o)).2)
  have HQ2 := hide hq2
  clear hq2 H2' H3
  simp only [whyV]
  go_wp2_with fail
  refine ((HI _).out).mono ?_
  rintro e w4 ⟨rfl, hb4⟩
  have HB4 : Hid (Below w3.heap.size w3 w4) := (Below.alloc0 _ _).trans (hb4.mono (by simp))
  clear hb4
  go_wp2_with fail
  go_ret
  exact ⟨rfl, ev, y, w3, HQ2.out, HB4.out⟩

set_option maxRecDepth 100000 in
set_option maxHeartbeats 4000000 in
theorem asked_Unpin (w : World) (wb pa ra : Nat) (xA xB xD xE c0 c1 c2 c3 : Int) (cp : Option Addr) (cn cc : Nat) (Q2 : Value → Why → World → Prop)
    (h1 : Calls Tryz.prog 111 #[.agg #[.pointer (some ⟨pa, 0, none⟩), .pointer (some ⟨ra, 0, none⟩)], .agg #[.int .i64 18, .int .i64 xA, .int .i64 xB, .int .i64 xD, .int .i64 xE, .int .i64 c0, .int .i64 c1, .int .i64 c2, .int .i64 c3, .slice cp cn cc]] (askW w pa ra 18 xA xB xD xE c0 c1 c2 c3 cp cn cc) (DonePost Q2)) :
    Calls Tryz.prog 81 #[.pointer (some ⟨wb, 0, none⟩), .agg #[.pointer (some ⟨pa, 0, none⟩), .pointer (some ⟨ra, 0, none⟩)], .agg #[.int .i64 18, .int .i64 xA, .int .i64 xB, .int .i64 xD, .int .i64 xE, .int .i64 c0, .int .i64 c1, .int .i64 c2, .int .i64 c3, .slice cp cn cc]] w (DonePost Q2) := by
  have H1 := hide h1
  clear h1
  go_enter Tryz.func81, Tryz.ntmps81
  go_wp2_with fail
  refine H1.out.mono ?_
  rintro e w2 ⟨rfl, ev, y, w3, hq, hb⟩
  have HQ := hide hq
  have HB := hide hb
  clear hq hb H1
  go_wp2_with fail
  go_ret
  exact ⟨rfl, ev, y, w3, HQ.out, HB.out⟩

set_option maxRecDepth 100000 in
set_option maxHeartbeats 4000000 in
theorem asked_Stats (w : World) (wb pa ra : Nat) (xA xB xD xE c0 c1 c2 c3 : Int) (cp : Option Addr) (cn cc : Nat) (s0 s1 s2 s3 s4 s5 : Int) (Q1 Q2 : World → Prop)
    (h1 : Calls Tryz.prog 21 #[.pointer (some ⟨pa, 0, none⟩)] (askW w pa ra 11 xA xB xD xE c0 c1 c2 c3 cp cn cc) fun e w' => e = .returned (.agg #[.int .i64 s0, .int .i64 s1, .int .i64 s2, .int .i64 s3, .int .i64 s4, .int .i64 s5]) ∧ Q1 w' ∧ BoxSame2 (askW w pa ra 11 xA xB xD xE c0 c1 c2 c3 cp cn cc) w' w.heap.size)
    (h2 : ∀ w2 o, Q1 w2 → Calls Tryz.prog 108 #[.pointer (some ⟨ra, 0, none⟩)] (w2.alloc o) fun e w' => e = .returned (.agg #[.int .i64 s0, .int .i64 s1, .int .i64 s2, .int .i64 s3, .int .i64 s4, .int .i64 s5]) ∧ Q2 w' ∧ Below (w2.heap.size + 1) (w2.alloc o) w') :
    Calls Tryz.prog 81 #[.pointer (some ⟨wb, 0, none⟩), .agg #[.pointer (some ⟨pa, 0, none⟩), .pointer (some ⟨ra, 0, none⟩)], .agg #[.int .i64 11, .int .i64 xA, .int .i64 xB, .int .i64 xD, .int .i64 xE, .int .i64 c0, .int .i64 c1, .int .i64 c2, .int .i64 c3, .slice cp cn cc]] w fun e w' => e = .returned (.bool true) ∧ ∃ w3, Q2 w3 ∧ Below w3.heap.size w3 w' := by
  have H1 := hide h1
  have H2 := hide h2
  clear h1 h2
  go_enter Tryz.func81, Tryz.ntmps81
  go_wp2_with fail
  refine H1.out.mono ?_
  rintro e w2 ⟨rfl, hq1, hbx⟩
  obtain ⟨p1, _, _, _⟩ := ask_box hbx
  have hz2 := hbx.1
  rw [askW_size] at hz2
  have H2' := fun o => hide (H2.out w2 o hq1)
  have hlt : w.heap.size < w2.heap.size := by omega
  clear hq1 H2 H1 hbx
  go_wp2_with fail
  refine ((H2' _).out).mono ?_
  rintro e w3 ⟨rfl, hq2, hb3⟩
  have HQ2 := hide hq2
  have hz3 := hb3.size
  simp at hz3
  have q : ∀ i u, (#[.int .i64 s0, .int .i64 s1, .int .i64 s2, .int .i64 s3, .int .i64 s4, .int .i64 s5] : Array Value)[i]? = some u → w3.cell? ⟨w2.heap.size, i, none⟩ = some u := fun i u hu => by
    rw [hb3.cell (by show w2.heap.size < _; omega), World.cell?_alloc_new]; exact hu
  have q0 := q 0 _ rfl
  have q1 := q 1 _ rfl
  have q2 := q 2 _ rfl
  have q3 := q 3 _ rfl
  have q4 := q 4 _ rfl
  have q5 := q 5 _ rfl
  have hlt3 : w2.heap.size < w3.heap.size := by omega
  clear q hq2 hb3 H2'
  have hsix := fun w' => eql_six w' s0 s1 s2 s3 s4 s5
  go_wp2_with fail
  go_ret
  exact ⟨rfl, w3, HQ2.out, Below.alloc0 _ _⟩
end Go.Proofs.YtcnmfljpmpgnjaaGreatDoor

namespace Go.Proofs.YtcnmfljpmpgnjaaGreatDoor
open Go.RowKit
open Tm (H Ob Sl Why)

theorem ClsF.clsIn {w : World} {B b o : Nat} {rp : Nat → Option Addr} {rc : Nat → Nat} {cl : List (List Int)} (h : ClsF w B b o rp rc cl) (hlen : cl.length ≤ 8796093022208) (c : Nat) (ad : Addr) (had : 0 < cl.length → ad = ⟨b, o, none⟩) : ClsIn w B (.slice (some ad) cl.length c) cl :=
  ⟨_, c, rfl, fun e => (by cases e), hlen, fun h0 => ⟨b, o, by rw [had h0], h.lt h0, fun i hi => ⟨_, h.row i hi, _, _, rfl, h.nil i hi, h.len i hi, h.ints i hi⟩⟩⟩

theorem LentC.clsIn {w w0 : World} {B N B' b o lb mb : Nat} {rp : Nat → Option Addr} {rc : Nat → Nat} {nb : Nat → Nat} {cl : List (List Int)} (hL : LentC w N lb mb rp nb cl cl.length) (hc : ClsF w0 B b o rp rc cl) (hlen : cl.length ≤ 8796093022208) (hlb : lb < B') (hB : w.heap.size ≤ B') :
    ClsIn w B' (.slice (some ⟨lb, 0, none⟩) cl.length (cl.length + 8)) cl := by
  refine ⟨_, _, rfl, fun e => (by cases e), hlen, fun _ => ⟨lb, 0, rfl, hlb, fun i hi => ⟨uV rp nb cl i, by rw [Nat.zero_add]; exact hL.l1 i hi, ?_⟩⟩⟩
  unfold uV
  cases hp : (rp i).isNone
  · have hn := hL.new i hi hp
    have hr := hL.lent i hi hp
    exact ⟨_, _, rfl, fun e => (by cases e), hc.len i hi, fun _ => ⟨nb i, 0, rfl, by omega, fun j hj => by rw [Nat.zero_add]; exact hr.row j hj⟩⟩
  · have e : cl.getD i [] = [] := hc.nil i hi (by cases hq : rp i with | none => rfl | some a => rw [hq] at hp; simp at hp)
    rw [e]
    exact ⟨_, _, rfl, fun _ => rfl, by simp, fun h => by simp at h⟩

/-- What the caller writes over is its own. -/
theorem Kept.lent {w w3 w4 : World} {B lb mb N : Nat} {rp : Nat → Option Addr} {nb : Nat → Nat} {cl : List (List Int)} (hb : Below B w w3) (hk : Kept (lentS lb rp nb cl.length) w3 w4) (hL : LentC w3 N lb mb rp nb cl cl.length) (hlb : N ≤ lb) (hBN : B ≤ N) (hBw : B ≤ w.heap.size) : Below B w w4 :=
  hb.trans ⟨hk.os, hk.tape, hk.output, hk.size, fun x hx => hk.block x (by have := hb.size; omega) (fun hs => by
    rcases hs with rfl | ⟨j, hj, q, rfl⟩
    · omega
    · have := (hL.new j hj q).1; omega)⟩

set_option maxRecDepth 100000 in
set_option maxHeartbeats 4000000 in
theorem begun_no (N : Nat) (A : Nat → Addr) (w : World) (hE : Errs N A w) (hN : N ≤ w.heap.size) (wb B b o c : Nat) (kd xA xB xD xE r l g k : Int) (rp : Nat → Option Addr) (rc : Nat → Nat) (cl : List (List Int)) (hB : B ≤ w.heap.size) (hlen : cl.length ≤ 8796093022208) (hc : ClsF w B b o rp rc cl) (ad : Addr) (had : 0 < cl.length → ad = ⟨b, o, none⟩) (hr : Tm.right r l g k cl = false)
    (h1 : ∀ w1 lb, Below w.heap.size w w1 → ClsIn w1 w1.heap.size (.slice (some ⟨lb, 0, none⟩) cl.length (cl.length + 8)) cl → Calls Tryz.prog 30 #[.agg #[.int .i64 r, .int .i64 l, .int .i64 g, .int .i64 k, .slice (some ⟨lb, 0, none⟩) cl.length (cl.length + 8)]] w1 fun e w' => ∃ ev, e = .returned (.tuple #[.pointer none, ev]) ∧ Below w1.heap.size w1 w' ∧ ErrIs A w' ev ⟨1, 0⟩ ∧ (∀ w'', Kept (fun x => x < w1.heap.size) w' w'' → ErrIs A w'' ev ⟨1, 0⟩)) :
    Calls Tryz.prog 80 #[.pointer (some ⟨wb, 0, none⟩), .agg #[.int .i64 kd, .int .i64 xA, .int .i64 xB, .int .i64 xD, .int .i64 xE, .int .i64 r, .int .i64 l, .int .i64 g, .int .i64 k, .slice (some ad) cl.length c]] w fun e w' => e = .returned (.bool true) ∧ Below w.heap.size w w' := by
  have H1 := hide h1
  have HE := hide hE
  have HC := hide hc
  have HLe := fun x => hide (lent_any (w.alloc x) B b o c r l g k rp rc cl (by simp; omega) hlen (hc.below ((Below.alloc0 w x).mono hB)) ad had)
  clear h1 hE hc
  go_enter Tryz.func80, Tryz.ntmps80
  go_wp2_with fail
  refine ((HLe _).out).mono ?_
  rintro e w1 ⟨lb, mb, nb, rfl, hb, hl, q1, q2, q3, q4, q5⟩
  simp only [World.size_alloc] at q1 q2 hl
  have bx : ∀ i v, (#[.int .i64 kd, .int .i64 xA, .int .i64 xB, .int .i64 xD, .int .i64 xE, .int .i64 r, .int .i64 l, .int .i64 g, .int .i64 k, .slice (some ad) cl.length c] : Array Value)[i]? = some v → w1.cell? ⟨w.heap.size, i, none⟩ = some v := fun i v hv => by
    rw [hb.cell (by simp), World.cell?_alloc_new]; exact hv
  have hz1 := hb.size
  simp only [World.size_alloc] at hz1
  have HB1 : Hid (Below w.heap.size w w1) := (Below.alloc0 _ _).trans (hb.mono (by simp))
  have H1' := fun x => hide (H1.out (w1.alloc x) lb (HB1.out.trans ((Below.alloc0 w1 x).mono (by omega))) (by
    have hl' := hl.same (w' := w1.alloc x) (fun y _ hy => (Below.alloc0 w1 x).block y hy) ⟨by omega, q4⟩ ⟨by omega, q5⟩ (Nat.le_refl _) (by simp)
    exact hl'.clsIn HC.out hlen (by simp; omega) (Nat.le_refl _)))
  have HL := hide hl
  have HNw : Hid (∀ j, j < cl.length → (rp j).isNone = false → nb j < w1.heap.size) := fun j hj q => (hl.new j hj q).2.1
  have HBX := hide bx
  clear hl bx hb HLe H1
  go_wp2_with fail
  refine ((H1' _).out).mono ?_
  rintro e w2 ⟨ev, rfl, hb2, he, hes⟩
  have hz2 := hb2.size
  simp only [World.size_alloc] at hz2
  have HB2 : Hid (Below w.heap.size w w2) := HB1.out.trans (((Below.alloc0 w1 _).mono (by omega)).trans (hb2.mono (by simp; omega)))
  have bx2 : ∀ i v, (#[.int .i64 kd, .int .i64 xA, .int .i64 xB, .int .i64 xD, .int .i64 xE, .int .i64 r, .int .i64 l, .int .i64 g, .int .i64 k, .slice (some ad) cl.length c] : Array Value)[i]? = some v → w2.cell? ⟨w.heap.size, i, none⟩ = some v := fun i v hv => by
    rw [hb2.cell (by simp; omega), World.cell?_alloc_lt _ _ _ (by show w.heap.size < _; omega)]; exact HBX.out i v hv
  have k5 := bx2 5 _ rfl
  have k6 := bx2 6 _ rfl
  have k7 := bx2 7 _ rfl
  have k8 := bx2 8 _ rfl
  have k9 := bx2 9 _ rfl
  have cx2 : ∀ i v, (#[.int .i64 r, .int .i64 l, .int .i64 g, .int .i64 k, .slice (some ⟨lb, 0, none⟩) cl.length (cl.length + 8)] : Array Value)[i]? = some v → w2.cell? ⟨w1.heap.size, i, none⟩ = some v := fun i v hv => by
    rw [hb2.cell (by simp), World.cell?_alloc_new]; exact hv
  have HNo := hide (newR_no w2 B r l g k (some ad) c cl (by omega) ((HC.out.below (HB2.out.mono hB)).clsIn hlen c ad had) hr)
  have HL2 := hide (HL.out.same (w' := w2) (fun y _ hy => by rw [hb2.block y (by simp; omega)]; exact (Below.alloc0 w1 _).block y hy) ⟨by omega, q4⟩ ⟨by omega, q5⟩ (Nat.le_refl _) (by omega))
  have HEs := hide hes
  have HBX2 := hide bx2
  have HCX2 := hide cx2
  clear bx2 cx2 he hes hb2 H1' HL HBX
  go_wp2_with fail
  refine (HNo.out).mono ?_
  rintro e w3 ⟨rfl, hb3⟩
  have hz3 := hb3.size
  have bx3 : ∀ i v, (#[.int .i64 kd, .int .i64 xA, .int .i64 xB, .int .i64 xD, .int .i64 xE, .int .i64 r, .int .i64 l, .int .i64 g, .int .i64 k, .slice (some ad) cl.length c] : Array Value)[i]? = some v → w3.cell? ⟨w.heap.size, i, none⟩ = some v := fun i v hv => by
    rw [hb3.cell (by show w.heap.size < _; omega)]; exact HBX2.out i v hv
  have cx3 : ∀ i v, (#[.int .i64 r, .int .i64 l, .int .i64 g, .int .i64 k, .slice (some ⟨lb, 0, none⟩) cl.length (cl.length + 8)] : Array Value)[i]? = some v → w3.cell? ⟨w1.heap.size, i, none⟩ = some v := fun i v hv => by
    rw [hb3.cell (by show w1.heap.size < _; omega)]; exact HCX2.out i v hv
  have d0 := cx3 0 _ rfl
  have d1 := cx3 1 _ rfl
  have d2 := cx3 2 _ rfl
  have d3 := cx3 3 _ rfl
  have d4 := cx3 4 _ rfl
  have e5 := bx3 5 _ rfl
  have e6 := bx3 6 _ rfl
  have e7 := bx3 7 _ rfl
  have e8 := bx3 8 _ rfl
  have e9 := bx3 9 _ rfl
  have HB3 : Hid (Below w.heap.size w w3) := HB2.out.trans (hb3.mono (by omega))
  have HL3 := hide (HL2.out.same (w' := w3) (fun y _ hy => hb3.block y hy) ⟨by omega, by omega⟩ ⟨by omega, by omega⟩ (Nat.le_refl _) (by omega))
  have HW := hide (whole_any w3 B (w.heap.size + 1) b o c lb mb r l g k r l g k rp rc nb cl (by omega) hlen (HC.out.below (HB3.out.mono hB)) ad had HL3.out ⟨by omega, by omega⟩ ⟨by omega, by omega⟩ q3)
  have HK3 := hide (Kept.of_below (S := fun x => x < w1.heap.size + 1) hb3)
  clear bx3 cx3 hb3 k5 k6 k7 k8 k9 HNo HBX2 HCX2 HL2
  go_wp2_with fail
  refine (HW.out).mono ?_
  rintro e w4 ⟨rfl, hk4⟩
  have HB4 := hide (Kept.lent HB3.out hk4 HL3.out (by omega) (by omega) (Nat.le_refl _))
  have HK4 : Hid (Kept (fun x => x < w1.heap.size + 1) w2 w4) := HK3.out.trans (hk4.mono fun x hx => by
    rcases hx with rfl | ⟨j, hj, q, rfl⟩
    · omega
    · have := HNw.out j hj q; omega)
  have HI := fun x => hide (is_any N A (w4.alloc x) (HE.out.below (HB4.out.trans ((Below.alloc0 w4 x).mono (by have := HB4.out.size; omega))) hN) ev ⟨1, 0⟩ (HEs.out _ (by simp only [World.size_alloc]; exact HK4.out.alloc x)))
  have HI0 := hide (is_any N A w4 (HE.out.below HB4.out hN) ev ⟨1, 0⟩ (HEs.out _ (by simp only [World.size_alloc]; exact HK4.out)))
  clear hk4 HK4 HEs HW HL3 HK3
  go_wp2_with fail
  refine (HI0.out).mono ?_
  rintro e w5 ⟨rfl, hb5⟩
  have HB5 : Hid (Below w.heap.size w w5) := HB4.out.trans (hb5.mono (by have := HB4.out.size; omega))
  clear hb5
  go_wp2_with fail
  go_ret
  exact ⟨rfl, HB5.out⟩
end Go.Proofs.YtcnmfljpmpgnjaaGreatDoor
