import Derived.Test.YtcnmfljpmpgnjaaGreatDoorK42
import Derived.Test.YtcnmfljpmpgnjaaGreatDoorK41
namespace Go.Proofs.YtcnmfljpmpgnjaaGreatDoor
open Go.RowKit Go.Maps
open Tm (H Ob Sl Why)

theorem infoSlP : (Tryz.prog.info? 139).map (fun i => (i.zero, i.size, i.bytes)) = some (some (.agg #[.int .i64 0, .int .i64 0]), 2, 16) := by kernel_rfl
theorem make_slotsP (w : World) (n : Nat) (hn : n ≤ 32) :
    (Instr.makeSlice 132 (.int .i64 (n : Int)) (.int .i64 (n : Int))).run Tryz.prog w = .ok (.slice (some ⟨w.heap.size, 0, none⟩) n n) (w.alloc (.cells (madeCells #[.int .i64 0, .int .i64 0] (n * 2)) 139)) := by
  obtain ⟨i3, hi3, hz0, hz1, hz2⟩ := info_parts infoSlP
  have := run_make (P := Tryz.prog) w 132 139 i3 _ Tryz.underlying132 hi3 hz0 .i64 .i64 (n : Int) (n : Int) (by omega) (by omega) (by rw [hz2]; omega) (by omega)
  rw [hz1, Int.toNat_natCast] at this
  exact this

/-- A table as it is at first: two rows of zeros. -/
structure RowsNew (w w' : World) (n o g : Nat) : Prop where
  below : Below w.heap.size w w'
  lo : w.heap.size ≤ o ∧ w.heap.size ≤ g
  hi : o < w'.heap.size ∧ g < w'.heap.size
  ne : o ≠ g
  oz : ∀ i, i < n * 2 → w'.cell? ⟨o, i, none⟩ = some (.int .i64 0)
  gz : ∀ i, i < n → w'.cell? ⟨g, i, none⟩ = some (.int .i64 0)
  soft : ∀ b i, b = o ∨ b = g → w'.frozen? ⟨b, i, none⟩ = false

theorem made_ints (n i : Nat) (hi : i < n) : (madeCells #[Value.int .i64 0] n)[i]? = some (.int .i64 0) := by
  simp [madeCells, hi, Nat.mod_one]

set_option maxRecDepth 100000 in
set_option maxHeartbeats 2000000 in
theorem blankT_any (w : World) (n : Nat) (hn : n ≤ 16) :
    Calls Tryz.prog 100 #[.int .i64 (n : Int)] w fun e w' => ∃ o g, e = .returned (.agg #[.slice (some ⟨o, 0, none⟩) n n, .slice (some ⟨g, 0, none⟩) n n, .int .i64 1]) ∧ RowsNew w w' n o g := by
  have hm1 := fun w' => make_slotsP w' n (by omega)
  have hm2 := fun w' => make_ints w' n (by omega)
  go_enter Tryz.func100, Tryz.ntmps100
  go_wp2_with fail
  go_region
  all_goals go_wp2_with fail
  · obtain ⟨W, eW⟩ : ∃ W, ((w.alloc (.cells #[.slice (some ⟨w.heap.size + 1, 0, none⟩) n n, .slice (some ⟨w.heap.size + 1 + 1, 0, none⟩) n n, .int .i64 1] 134)).alloc (.cells (madeCells #[.int .i64 0, .int .i64 0] (n * 2)) 139)).alloc (.cells (madeCells #[.int .i64 0] n) 3) = W := ⟨_, rfl⟩
    have k : ∀ i v, (#[.slice (some ⟨w.heap.size + 1, 0, none⟩) n n, .slice (some ⟨w.heap.size + 1 + 1, 0, none⟩) n n, .int .i64 1] : Array Value)[i]? = some v → W.cell? ⟨w.heap.size, i, none⟩ = some v := fun i v hv => by
      rw [← eW, World.cell?_alloc_lt _ _ _ (by simp; omega), World.cell?_alloc_lt _ _ _ (by simp), World.cell?_alloc_new]; exact hv
    have k0 := k 0 _ rfl
    have k1 := k 1 _ rfl
    have k2 := k 2 _ rfl
    have HRw : RowsNew w W n (w.heap.size + 1) (w.heap.size + 1 + 1) := by
      refine ⟨?_, ⟨by omega, by omega⟩, ⟨by rw [← eW]; simp, by rw [← eW]; simp⟩, by omega, fun i hi => ?_, fun i hi => ?_, fun b i hb => ?_⟩
      · rw [← eW]; exact ((Below.alloc0 w _).alloc (by simp) _).alloc (by simp; omega) _
      · rw [← eW]; rw [World.cell?_alloc_lt _ _ _ (by simp), World.cell?_alloc_at _ _ _ _ (by simp)]; exact made_fields n i hi
      · rw [← eW]; rw [World.cell?_alloc_at _ _ _ _ (by simp)]; exact made_ints n i hi
      · rw [← eW]
        rcases hb with rfl | rfl
        · rw [World.frozen?_alloc_past _ _ _ (by simp)]; exact World.frozen?_alloc_at _ _ _ _ (by simp)
        · exact World.frozen?_alloc_at _ _ _ _ (by simp)
    rw [eW]
    clear eW k
    refine bodyPost_ret (v := .agg #[.slice (some ⟨w.heap.size + 1, 0, none⟩) n n, .slice (some ⟨w.heap.size + 1 + 1, 0, none⟩) n n, .int .i64 1]) ?_ rfl ⟨_, _, rfl, ⟨HRw.below.trans ⟨rfl, rfl, rfl, Nat.le_refl _, fun _ _ => rfl⟩, HRw.lo, HRw.hi, HRw.ne, HRw.oz, HRw.gz, HRw.soft⟩⟩
    simp [results, Tryz.results100, go_sem, k0, k1, k2]
  · obtain ⟨W, eW⟩ : ∃ W, ((w.alloc (.cells #[.slice (some ⟨w.heap.size + 1 + 1, 0, none⟩) n n, .slice (some ⟨w.heap.size + 1, 0, none⟩) n n, .int .i64 1] 134)).alloc (.cells (madeCells #[.int .i64 0] n) 3)).alloc (.cells (madeCells #[.int .i64 0, .int .i64 0] (n * 2)) 139) = W := ⟨_, rfl⟩
    have k : ∀ i v, (#[.slice (some ⟨w.heap.size + 1 + 1, 0, none⟩) n n, .slice (some ⟨w.heap.size + 1, 0, none⟩) n n, .int .i64 1] : Array Value)[i]? = some v → W.cell? ⟨w.heap.size, i, none⟩ = some v := fun i v hv => by
      rw [← eW, World.cell?_alloc_lt _ _ _ (by simp; omega), World.cell?_alloc_lt _ _ _ (by simp), World.cell?_alloc_new]; exact hv
    have k0 := k 0 _ rfl
    have k1 := k 1 _ rfl
    have k2 := k 2 _ rfl
    have HRw : RowsNew w W n (w.heap.size + 1 + 1) (w.heap.size + 1) := by
      refine ⟨?_, ⟨by omega, by omega⟩, ⟨by rw [← eW]; simp, by rw [← eW]; simp⟩, by omega, fun i hi => ?_, fun i hi => ?_, fun b i hb => ?_⟩
      · rw [← eW]; exact ((Below.alloc0 w _).alloc (by simp) _).alloc (by simp; omega) _
      · rw [← eW]; rw [World.cell?_alloc_at _ _ _ _ (by simp)]; exact made_fields n i hi
      · rw [← eW]; rw [World.cell?_alloc_lt _ _ _ (by simp), World.cell?_alloc_at _ _ _ _ (by simp)]; exact made_ints n i hi
      · rw [← eW]
        rcases hb with rfl | rfl
        · exact World.frozen?_alloc_at _ _ _ _ (by simp)
        · rw [World.frozen?_alloc_past _ _ _ (by simp)]; exact World.frozen?_alloc_at _ _ _ _ (by simp)
    rw [eW]
    clear eW k
    refine bodyPost_ret (v := .agg #[.slice (some ⟨w.heap.size + 1 + 1, 0, none⟩) n n, .slice (some ⟨w.heap.size + 1, 0, none⟩) n n, .int .i64 1]) ?_ rfl ⟨_, _, rfl, ⟨HRw.below.trans ⟨rfl, rfl, rfl, Nat.le_refl _, fun _ _ => rfl⟩, HRw.lo, HRw.hi, HRw.ne, HRw.oz, HRw.gz, HRw.soft⟩⟩
    simp [results, Tryz.results100, go_sem, k0, k1, k2]
end Go.Proofs.YtcnmfljpmpgnjaaGreatDoor

namespace Go.Proofs.YtcnmfljpmpgnjaaGreatDoor
open Go.RowKit Go.Maps
open Tm (H Ob Sl Why)

/-- A struct of twelve cells that are written. -/
structure TW (bt : Nat) (f : Nat → Value) (w : World) : Prop where
  cells : ∀ i, i < 12 → w.cell? ⟨bt, i, none⟩ = some (f i)
  soft : ∀ i, w.frozen? ⟨bt, i, none⟩ = false
  lt : bt < w.heap.size
theorem TW.set {bt : Nat} {f : Nat → Value} {w : World} (h : TW bt f w) (j : Nat) (v : Value) (hj : j < 12) : TW bt (fun i => if i = j then v else f i) (w.setCell ⟨bt, j, none⟩ v) := by
  refine ⟨fun i hi => ?_, fun i => by rw [World.frozen?_setCell]; exact h.soft i, by rw [World.size_setCell]; exact h.lt⟩
  by_cases e : i = j
  · subst e; rw [World.cell?_setCell_same _ _ _ (h.cells i hi), if_pos rfl]
  · rw [World.cell?_setCell_other _ _ _ _ (fun e2 => e (congrArg Addr.off e2).symm), if_neg e]; exact h.cells i hi
theorem TW.on {bt : Nat} {f : Nat → Value} {w w' : World} (h : TW bt f w) (hb : Below w.heap.size w w') : TW bt f w' :=
  ⟨fun i hi => by rw [hb.cell h.lt]; exact h.cells i hi, fun i => by rw [hb.frozen h.lt]; exact h.soft i, Nat.lt_of_lt_of_le h.lt hb.size⟩

theorem TW.drw {bt : Nat} {f : Nat → Value} {w : World} (h : TW bt f w) : TW bt f w.drew := ⟨h.cells, h.soft, h.lt⟩

structure ZRow (w : World) (n o g : Nat) : Prop where
  hi : o < w.heap.size ∧ g < w.heap.size
  oz : ∀ i, i < n * 2 → w.cell? ⟨o, i, none⟩ = some (.int .i64 0)
  gz : ∀ i, i < n → w.cell? ⟨g, i, none⟩ = some (.int .i64 0)
  soft : ∀ b i, b = o ∨ b = g → w.frozen? ⟨b, i, none⟩ = false
theorem ZRow.keep {w w' : World} {n o g : Nat} (h : ZRow w n o g) (hk : ∀ b, b = o ∨ b = g → w'.heap[b]? = w.heap[b]?) (hz : w.heap.size ≤ w'.heap.size) : ZRow w' n o g :=
  ⟨⟨Nat.lt_of_lt_of_le h.hi.1 hz, Nat.lt_of_lt_of_le h.hi.2 hz⟩, fun i hi => by rw [cell_of (hk o (Or.inl rfl))]; exact h.oz i hi, fun i hi => by rw [cell_of (hk g (Or.inr rfl))]; exact h.gz i hi, fun b i hb => by rw [frozen_of (hk b hb)]; exact h.soft b i hb⟩
theorem ZRow.set {w : World} {n o g bt : Nat} (h : ZRow w n o g) (h1 : o ≠ bt) (h2 : g ≠ bt) (j : Nat) (v : Value) : ZRow (w.setCell ⟨bt, j, none⟩ v) n o g :=
  h.keep (fun b hb => Below.heap_setCell _ _ _ _ (by rcases hb with rfl | rfl; exact h1; exact h2)) (by rw [World.size_setCell]; exact Nat.le_refl _)
theorem ZRow.on {w w' : World} {n o g : Nat} (h : ZRow w n o g) (hb : Below w.heap.size w w') : ZRow w' n o g :=
  h.keep (fun b q => hb.block b (by rcases q with rfl | rfl; exact h.hi.1; exact h.hi.2)) hb.size

/-- One table is written: three cells, and two rows. -/
theorem tab_set {bt j n o g : Nat} {f : Nat → Value} {w w1 : World} (hj : j + 2 < 12) (h : TW bt f w) (r : RowsNew w w1 n o g) :
    (∃ f', TW bt f' (((w1.setCell ⟨bt, j, none⟩ (.slice (some ⟨o, 0, none⟩) n n)).setCell ⟨bt, j + 1, none⟩ (.slice (some ⟨g, 0, none⟩) n n)).setCell ⟨bt, j + 2, none⟩ (.int .i64 1)) ∧ f' j = .slice (some ⟨o, 0, none⟩) n n ∧ f' (j + 1) = .slice (some ⟨g, 0, none⟩) n n ∧ f' (j + 2) = .int .i64 1 ∧ ∀ i, (i < j ∨ j + 2 < i) → f' i = f i)
    ∧ ZRow (((w1.setCell ⟨bt, j, none⟩ (.slice (some ⟨o, 0, none⟩) n n)).setCell ⟨bt, j + 1, none⟩ (.slice (some ⟨g, 0, none⟩) n n)).setCell ⟨bt, j + 2, none⟩ (.int .i64 1)) n o g := by
  have hb := h.lt
  have hlo := r.lo
  have t1 := (h.on r.below).set j (.slice (some ⟨o, 0, none⟩) n n) (by omega)
  have t2 := t1.set (j + 1) (.slice (some ⟨g, 0, none⟩) n n) (by omega)
  have t3 := t2.set (j + 2) (.int .i64 1) (by omega)
  refine ⟨⟨_, t3, ?_, ?_, ?_, fun i hi => ?_⟩, ?_⟩
  · show (if j = j + 2 then _ else if j = j + 1 then _ else if j = j then _ else f j) = _
    rw [if_neg (by omega), if_neg (by omega), if_pos rfl]
  · show (if j + 1 = j + 2 then _ else if j + 1 = j + 1 then _ else _) = _
    rw [if_neg (by omega), if_pos rfl]
  · show (if j + 2 = j + 2 then _ else _) = _
    rw [if_pos rfl]
  · show (if i = j + 2 then _ else if i = j + 1 then _ else if i = j then _ else f i) = f i
    rw [if_neg (by omega), if_neg (by omega), if_neg (by omega)]
  · have q : ZRow w1 n o g := ⟨r.hi, r.oz, r.gz, r.soft⟩
    exact ((q.set (by omega) (by omega) _ _).set (by omega) (by omega) _ _).set (by omega) (by omega) _ _

/-- Tables as they are at first. -/
structure TabsNew (w w' : World) (l g k : Nat) (bt o1 g1 o2 g2 o3 g3 : Nat) : Prop where
  below : Below w.heap.size w w'
  bt0 : w.heap.size ≤ bt
  tw : ∃ f, TW bt f w' ∧ f 3 = .slice (some ⟨o1, 0, none⟩) l l ∧ f 4 = .slice (some ⟨g1, 0, none⟩) l l ∧ f 5 = .int .i64 1 ∧ f 6 = .slice (some ⟨o2, 0, none⟩) g g ∧ f 7 = .slice (some ⟨g2, 0, none⟩) g g ∧ f 8 = .int .i64 1 ∧ f 9 = .slice (some ⟨o3, 0, none⟩) k k ∧ f 10 = .slice (some ⟨g3, 0, none⟩) k k ∧ f 11 = .int .i64 1
  r1 : ZRow w' l o1 g1
  r2 : ZRow w' g o2 g2
  r3 : ZRow w' k o3 g3
  ord : ∃ x1 x2 x3, bt < x1 ∧ x1 ≤ o1 ∧ x1 ≤ g1 ∧ o1 < x2 ∧ g1 < x2 ∧ x2 ≤ o2 ∧ x2 ≤ g2 ∧ o2 < x3 ∧ g2 < x3 ∧ x3 ≤ o3 ∧ x3 ≤ g3 ∧ o1 ≠ g1 ∧ o2 ≠ g2 ∧ o3 ≠ g3

set_option maxRecDepth 100000 in
set_option maxHeartbeats 8000000 in
theorem newT_any (w : World) (l g k : Nat) (hl : l ≤ 16) (hg : g ≤ 16) (hk : k ≤ 16) :
    Calls Tryz.prog 66 #[.int .i64 (l : Int), .int .i64 (g : Int), .int .i64 (k : Int)] w fun e w' => ∃ bt o1 g1 o2 g2 o3 g3, e = .returned (.pointer (some ⟨bt, 0, none⟩)) ∧ TabsNew w w' l g k bt o1 g1 o2 g2 o3 g3 := by
  have HBl : Hid (∀ (w1 : World) (n : Nat), n ≤ 16 → Calls Tryz.prog 100 #[.int .i64 (n : Int)] w1 fun e w' => ∃ o g, e = .returned (.agg #[.slice (some ⟨o, 0, none⟩) n n, .slice (some ⟨g, 0, none⟩) n n, .int .i64 1]) ∧ RowsNew w1 w' n o g) := fun w1 n hn => blankT_any w1 n hn
  go_enter Tryz.func66, Tryz.ntmps66
  go_wp2_with fail
  obtain ⟨w0, e0⟩ : ∃ w0, w.alloc (.cells #[.slice none 0 0, .slice none 0 0, .int .i64 0, .slice none 0 0, .slice none 0 0, .int .i64 0, .slice none 0 0, .slice none 0 0, .int .i64 0, .slice none 0 0, .slice none 0 0, .int .i64 0] 137) = w0 := ⟨_, rfl⟩
  have HB0 : Hid (Below w.heap.size w w0) := by rw [← e0]; exact Below.alloc0 _ _
  have HT0 : Hid (∃ f, TW w.heap.size f w0) := by
    refine ⟨fun i => (#[.slice none 0 0, .slice none 0 0, .int .i64 0, .slice none 0 0, .slice none 0 0, .int .i64 0, .slice none 0 0, .slice none 0 0, .int .i64 0, .slice none 0 0, .slice none 0 0, .int .i64 0] : Array Value).getD i undef, fun i hi => ?_, fun i => ?_, by rw [← e0]; simp⟩
    · rw [← e0, World.cell?_alloc_new]
      rcases (show i = 0 ∨ i = 1 ∨ i = 2 ∨ i = 3 ∨ i = 4 ∨ i = 5 ∨ i = 6 ∨ i = 7 ∨ i = 8 ∨ i = 9 ∨ i = 10 ∨ i = 11 by omega) with rfl | rfl | rfl | rfl | rfl | rfl | rfl | rfl | rfl | rfl | rfl | rfl <;> rfl
    · rw [← e0]; exact World.frozen?_alloc_new _ _ _ _
  rw [e0]
  have hz0 : w0.heap.size = w.heap.size + 1 := by rw [← e0]; simp
  clear e0
  obtain ⟨f0, ht0⟩ := HT0.out
  have HT0 := hide ht0
  clear ht0
  go_region_held3 (fun _ => True) (exact True.intro) (first
    | (go_at_call 100
       refine (HBl.out _ l hl).mono ?_
       rintro e v1 ⟨o1, g1, rfl, hr1⟩
       have hs1 := (HT0.out.drw).on hr1.below
       have a1 := hs1.cells 3 (by omega)
       have b1 := hs1.cells 4 (by omega)
       have c1 := hs1.cells 5 (by omega)
       have x1 := hs1.soft 3
       have y1 := hs1.soft 4
       have q1 := hs1.soft 5
       have HRw1 := hide hr1
       clear hr1 hs1)
    | fail)
  have hts1 := tab_set (j := 3) (by omega) HT0.out.drw HRw1.out
  obtain ⟨w1, e1⟩ : ∃ w1, ((v1.setCell ⟨w.heap.size, 3, none⟩ (.slice (some ⟨o1, 0, none⟩) l l)).setCell ⟨w.heap.size, 4, none⟩ (.slice (some ⟨g1, 0, none⟩) l l)).setCell ⟨w.heap.size, 5, none⟩ (.int .i64 1) = w1 := ⟨_, rfl⟩
  have hrel1 : w1.heap.size = v1.heap.size ∧ (∀ b, b ≠ w.heap.size → w1.heap[b]? = v1.heap[b]?) ∧ w1.os = v1.os ∧ w1.tape = v1.tape ∧ w1.output = v1.output := by
    rw [← e1]
    exact ⟨by rw [World.size_setCell, World.size_setCell, World.size_setCell], fun b hb => by rw [Below.heap_setCell _ _ _ _ hb, Below.heap_setCell _ _ _ _ hb, Below.heap_setCell _ _ _ _ hb], rfl, rfl, rfl⟩
  have HLo1 := hide HRw1.out.lo
  have HHi1 := hide HRw1.out.hi
  have HNe1 := hide HRw1.out.ne
  have HZ1 : Hid (w0.heap.size ≤ w1.heap.size ∧ v1.heap.size = w1.heap.size) := ⟨by rw [hrel1.1]; exact HRw1.out.below.size, hrel1.1.symm⟩
  have HKp1 : Hid (∀ b, b < w0.heap.size → b ≠ w.heap.size → w1.heap[b]? = w0.heap[b]?) := fun b hb hne => by
    show _ = _
    rw [hrel1.2.1 b hne]; exact HRw1.out.below.block b hb
  have HBel1 : Hid (Below w.heap.size w w1) := by
    have hb := HRw1.out.below
    have hp := HB0.out
    exact ⟨hrel1.2.2.1.trans (hb.os.trans hp.os), hrel1.2.2.2.1.trans (hb.tape.trans hp.tape), hrel1.2.2.2.2.trans (hb.output.trans hp.output), by have := HZ1.out.1; have := hp.size; omega, fun i hi => (HKp1.out i (by have := hp.size; omega) (by omega)).trans (hp.block i hi)⟩
  have HB1 := HBel1
  rw [e1] at hts1 ⊢
  obtain ⟨⟨f1, ht1, ea1, eb1, ec1, eo1⟩, hzr1⟩ := hts1
  have HT1 := hide ht1
  have HF1 := hide (And.intro ea1 (And.intro eb1 (And.intro ec1 eo1)))
  have HZr1 := hide hzr1
  clear e1 hrel1 ht1 ea1 eb1 ec1 eo1 hzr1 a1 b1 c1 x1 y1 q1
  go_wp2_with fail
  go_region_held3 (fun _ => True) (exact True.intro) (first
    | (go_at_call 100
       refine (HBl.out _ g hg).mono ?_
       rintro e v2 ⟨o2, g2, rfl, hr2⟩
       have hs2 := (HT1.out.drw).on hr2.below
       have a2 := hs2.cells 6 (by omega)
       have b2 := hs2.cells 7 (by omega)
       have c2 := hs2.cells 8 (by omega)
       have x2 := hs2.soft 6
       have y2 := hs2.soft 7
       have q2 := hs2.soft 8
       have HRw2 := hide hr2
       clear hr2 hs2)
    | fail)
  have hts2 := tab_set (j := 6) (by omega) HT1.out.drw HRw2.out
  obtain ⟨w2, e2⟩ : ∃ w2, ((v2.setCell ⟨w.heap.size, 6, none⟩ (.slice (some ⟨o2, 0, none⟩) g g)).setCell ⟨w.heap.size, 7, none⟩ (.slice (some ⟨g2, 0, none⟩) g g)).setCell ⟨w.heap.size, 8, none⟩ (.int .i64 1) = w2 := ⟨_, rfl⟩
  have hrel2 : w2.heap.size = v2.heap.size ∧ (∀ b, b ≠ w.heap.size → w2.heap[b]? = v2.heap[b]?) ∧ w2.os = v2.os ∧ w2.tape = v2.tape ∧ w2.output = v2.output := by
    rw [← e2]
    exact ⟨by rw [World.size_setCell, World.size_setCell, World.size_setCell], fun b hb => by rw [Below.heap_setCell _ _ _ _ hb, Below.heap_setCell _ _ _ _ hb, Below.heap_setCell _ _ _ _ hb], rfl, rfl, rfl⟩
  have HLo2 := hide HRw2.out.lo
  have HHi2 := hide HRw2.out.hi
  have HNe2 := hide HRw2.out.ne
  have HZ2 : Hid (w1.heap.size ≤ w2.heap.size ∧ v2.heap.size = w2.heap.size) := ⟨by rw [hrel2.1]; exact HRw2.out.below.size, hrel2.1.symm⟩
  have HKp2 : Hid (∀ b, b < w1.heap.size → b ≠ w.heap.size → w2.heap[b]? = w1.heap[b]?) := fun b hb hne => by
    show _ = _
    rw [hrel2.2.1 b hne]; exact HRw2.out.below.block b hb
  have HBel2 : Hid (Below w.heap.size w w2) := by
    have hb := HRw2.out.below
    have hp := HB1.out
    exact ⟨hrel2.2.2.1.trans (hb.os.trans hp.os), hrel2.2.2.2.1.trans (hb.tape.trans hp.tape), hrel2.2.2.2.2.trans (hb.output.trans hp.output), by have := HZ2.out.1; have := hp.size; omega, fun i hi => (HKp2.out i (by have := hp.size; omega) (by omega)).trans (hp.block i hi)⟩
  have HB2 := HBel2
  rw [e2] at hts2 ⊢
  obtain ⟨⟨f2, ht2, ea2, eb2, ec2, eo2⟩, hzr2⟩ := hts2
  have HT2 := hide ht2
  have HF2 := hide (And.intro ea2 (And.intro eb2 (And.intro ec2 eo2)))
  have HZr2 := hide hzr2
  clear e2 hrel2 ht2 ea2 eb2 ec2 eo2 hzr2 a2 b2 c2 x2 y2 q2
  go_wp2_with fail
  go_region_held3 (fun _ => True) (exact True.intro) (first
    | (go_at_call 100
       refine (HBl.out _ k hk).mono ?_
       rintro e v3 ⟨o3, g3, rfl, hr3⟩
       have hs3 := (HT2.out.drw).on hr3.below
       have a3 := hs3.cells 9 (by omega)
       have b3 := hs3.cells 10 (by omega)
       have c3 := hs3.cells 11 (by omega)
       have x3 := hs3.soft 9
       have y3 := hs3.soft 10
       have q3 := hs3.soft 11
       have HRw3 := hide hr3
       clear hr3 hs3)
    | fail)
  have hts3 := tab_set (j := 9) (by omega) HT2.out.drw HRw3.out
  obtain ⟨w3, e3⟩ : ∃ w3, ((v3.setCell ⟨w.heap.size, 9, none⟩ (.slice (some ⟨o3, 0, none⟩) k k)).setCell ⟨w.heap.size, 10, none⟩ (.slice (some ⟨g3, 0, none⟩) k k)).setCell ⟨w.heap.size, 11, none⟩ (.int .i64 1) = w3 := ⟨_, rfl⟩
  have hrel3 : w3.heap.size = v3.heap.size ∧ (∀ b, b ≠ w.heap.size → w3.heap[b]? = v3.heap[b]?) ∧ w3.os = v3.os ∧ w3.tape = v3.tape ∧ w3.output = v3.output := by
    rw [← e3]
    exact ⟨by rw [World.size_setCell, World.size_setCell, World.size_setCell], fun b hb => by rw [Below.heap_setCell _ _ _ _ hb, Below.heap_setCell _ _ _ _ hb, Below.heap_setCell _ _ _ _ hb], rfl, rfl, rfl⟩
  have HLo3 := hide HRw3.out.lo
  have HHi3 := hide HRw3.out.hi
  have HNe3 := hide HRw3.out.ne
  have HZ3 : Hid (w2.heap.size ≤ w3.heap.size ∧ v3.heap.size = w3.heap.size) := ⟨by rw [hrel3.1]; exact HRw3.out.below.size, hrel3.1.symm⟩
  have HKp3 : Hid (∀ b, b < w2.heap.size → b ≠ w.heap.size → w3.heap[b]? = w2.heap[b]?) := fun b hb hne => by
    show _ = _
    rw [hrel3.2.1 b hne]; exact HRw3.out.below.block b hb
  have HBel3 : Hid (Below w.heap.size w w3) := by
    have hb := HRw3.out.below
    have hp := HB2.out
    exact ⟨hrel3.2.2.1.trans (hb.os.trans hp.os), hrel3.2.2.2.1.trans (hb.tape.trans hp.tape), hrel3.2.2.2.2.trans (hb.output.trans hp.output), by have := HZ3.out.1; have := hp.size; omega, fun i hi => (HKp3.out i (by have := hp.size; omega) (by omega)).trans (hp.block i hi)⟩
  have HB3 := HBel3
  rw [e3] at hts3 ⊢
  obtain ⟨⟨f3, ht3, ea3, eb3, ec3, eo3⟩, hzr3⟩ := hts3
  have HT3 := hide ht3
  have HF3 := hide (And.intro ea3 (And.intro eb3 (And.intro ec3 eo3)))
  have HZr3 := hide hzr3
  clear e3 hrel3 ht3 ea3 eb3 ec3 eo3 hzr3 a3 b3 c3 x3 y3 q3
  go_wp2_with fail
  go_ret
  have l1 := HLo1.out
  have l2 := HLo2.out
  have l3 := HLo3.out
  have i1 := HHi1.out
  have i2 := HHi2.out
  have i3 := HHi3.out
  have s1 := HZ1.out
  have s2 := HZ2.out
  have s3 := HZ3.out
  simp only [World.size_drew] at l1 l2 l3
  have k12 : ∀ b, b = o1 ∨ b = g1 → w2.heap[b]? = w1.heap[b]? := fun b hb => HKp2.out b (by omega) (by omega)
  have k13 : ∀ b, b = o1 ∨ b = g1 → w3.heap[b]? = w2.heap[b]? := fun b hb => HKp3.out b (by omega) (by omega)
  have k23 : ∀ b, b = o2 ∨ b = g2 → w3.heap[b]? = w2.heap[b]? := fun b hb => HKp3.out b (by omega) (by omega)
  refine ⟨w.heap.size, o1, g1, o2, g2, o3, g3, rfl, HB3.out, Nat.le_refl _, ⟨f3, HT3.out, ?_, ?_, ?_, ?_, ?_, ?_, HF3.out.1, HF3.out.2.1, HF3.out.2.2.1⟩, (HZr1.out.keep k12 (by omega)).keep k13 (by omega), HZr2.out.keep k23 (by omega), HZr3.out, ⟨w.heap.size + 1, w1.heap.size, w2.heap.size, by omega, by omega, by omega, by omega, by omega, by omega, by omega, by omega, by omega, by omega, by omega, HNe1.out, HNe2.out, HNe3.out⟩⟩
  · rw [HF3.out.2.2.2 3 (by omega), HF2.out.2.2.2 3 (by omega)]; exact HF1.out.1
  · rw [HF3.out.2.2.2 4 (by omega), HF2.out.2.2.2 4 (by omega)]; exact HF1.out.2.1
  · rw [HF3.out.2.2.2 5 (by omega), HF2.out.2.2.2 5 (by omega)]; exact HF1.out.2.2.1
  · rw [HF3.out.2.2.2 6 (by omega)]; exact HF2.out.1
  · rw [HF3.out.2.2.2 7 (by omega)]; exact HF2.out.2.1
  · rw [HF3.out.2.2.2 8 (by omega)]; exact HF2.out.2.2.1

/-- A store as it is at first. -/
structure StoNew (w w' : World) (lim : Int) (bs bm : Nat) : Prop where
  below : Below w.heap.size w w'
  lo : w.heap.size ≤ bs ∧ w.heap.size ≤ bm
  hi : bs < w'.heap.size ∧ bm < w'.heap.size
  ne : bs ≠ bm
  map : w'.ownsMap Tryz.prog 3 ptrElem bm 0 (.map [])
  c0 : w'.cell? ⟨bs, 0, none⟩ = some (.int .i64 lim)
  c1 : w'.cell? ⟨bs, 1, none⟩ = some (.int .i64 0)
  c2 : w'.cell? ⟨bs, 2, none⟩ = some (.map (some bm))
  c3 : w'.cell? ⟨bs, 3, none⟩ = some (.slice none 0 0)
  soft : ∀ b i, b = bs ∨ b = bm → w'.frozen? ⟨b, i, none⟩ = false

theorem newS_any (w : World) (lim : Int) :
    Calls Tryz.prog 65 #[.int .i64 lim] w fun e w' => ∃ bs bm, e = .returned (.pointer (some ⟨bs, 0, none⟩)) ∧ StoNew w w' lim bs bm := by
  have hmm := @run_makeMap Tryz.prog
  have HM := hide (World.ownsMap_made (H := Unit) w Tryz.prog 3 ptrElem)
  go_enter Tryz.func65, Tryz.ntmps65
  go_wp2_with fail
  go_ret
  refine ⟨_, w.heap.size, rfl, ?_⟩
  have hm := HM.out.alloc (.cells #[.int .i64 lim, .int .i64 0, .map (some w.heap.size), .slice none 0 0] 129)
  refine ⟨(Below.alloc0 w _).alloc (by simp) _, ⟨by omega, Nat.le_refl _⟩, ⟨by simp, by simp; omega⟩, by omega, hm, by rw [World.cell?_alloc_at _ _ _ _ (by simp)]; rfl, by rw [World.cell?_alloc_at _ _ _ _ (by simp)]; rfl, by rw [World.cell?_alloc_at _ _ _ _ (by simp)]; rfl, by rw [World.cell?_alloc_at _ _ _ _ (by simp)]; rfl, fun b i hb => ?_⟩
  rcases hb with rfl | rfl
  · exact World.frozen?_alloc_at _ _ _ _ (by simp)
  · obtain ⟨es, c, hb, _⟩ := hm
    simp [World.frozen?, hb]
end Go.Proofs.YtcnmfljpmpgnjaaGreatDoor

namespace Go.Proofs.YtcnmfljpmpgnjaaGreatDoor
open Go.RowKit
open Tm (H Ob Sl Why)

section
variable {R : (Nat → Prop) → World → Nat → H → Prop} {N : Nat} {A : Nat → Addr} {w0 : World} {bl : Nat} {cells : List Value} {L : List Int} {g wb i : Nat} {w W w' : World}

/-- Ended on one pair. -/
theorem Inv.endOne (ok : ROK R) (v : Inv R N A w0 bl cells L g wb i w) {n cL bL : Nat} {pL : Option Addr} {pa ra : Nat → Nat} {hs : Nat → H} {SP SR : Nat → Nat → Prop} {KB : Nat → Prop} (q : Heaps R N w0.heap.size w g wb bl n cL bL i pL pa ra hs SP SR KB) (j : Nat) (hj : j < n) (h' : H) (hf : Fair h') (hl : h'.l.length ≤ i + 1) (hW : Below w.heap.size w W) {nK : Nat} (h4 : nK % 4 = 0) (hnK : nK ≤ 4 * i) (hKlt : ∀ b, KB b → b < w.heap.size) (o : EndOne R N (SP j) (SR j) W (pa j) (ra j) h' wb KB nK w') :
    Inv R N A w0 bl cells L g wb (i + 1) w' ∧ w'.cell? ⟨wb, 0, none⟩ = w.cell? ⟨wb, 0, none⟩ ∧ w'.heap[bL]? = w.heap[bL]? ∧ ∀ b, w.heap.size ≤ b → b < W.heap.size → w'.heap[b]? = W.heap[b]? := by
  obtain ⟨Sp', Sr', KB', cK', bK', pK', P', bk', k, n1, n2, n3, n4, rc, rf⟩ := o
  have hz := hW.size
  have hk : Kept (fun b => SP j b ∨ SR j b ∨ b = wb ∨ KB b) w w' := ⟨k.os.trans hW.os, k.tape.trans hW.tape, k.output.trans hW.output, Nat.le_trans hz k.size, fun x hx hn => (k.block x (by omega) hn).trans (hW.block x hx)⟩
  have offj := fun b hb => q.off j b hj hb
  have hc : 0 < cL := by have := q.prs.cap; omega
  have hbl := q.prs.blt hc
  have hwb := q.prs.lt
  have hgb := q.gb
  have ng : ¬ (SP j g ∨ SR j g ∨ g = wb ∨ KB g) := by
    rintro (h | h | h | h)
    · exact (offj g (Or.inl h)).2.2.1 rfl
    · exact (offj g (Or.inr h)).2.2.1 rfl
    · exact hgb.2.2.1 h
    · exact (q.kb g h).2.1 rfl
  have nbL : ¬ (SP j bL ∨ SR j bL ∨ bL = wb ∨ KB bL) := by
    rintro (h | h | h | h)
    · exact (offj bL (Or.inl h)).2.2.2 hc rfl
    · exact (offj bL (Or.inr h)).2.2.2 hc rfl
    · exact q.prs.ne hc h
    · exact (q.kb bL h).2.2.1 hc rfl
  have nbl : ¬ (SP j bl ∨ SR j bl ∨ bl = wb ∨ KB bl) := by
    rintro (h | h | h | h)
    · have := (offj bl (Or.inl h)).1; omega
    · have := (offj bl (Or.inr h)).1; omega
    · omega
    · have := (q.kb bl h).1; omega
  have nold : ∀ x, x < w0.heap.size → ¬ (SP j x ∨ SR j x ∨ x = wb ∨ KB x) := fun x hx => by
    rintro (h | h | h | h)
    · have := (offj x (Or.inl h)).1; omega
    · have := (offj x (Or.inr h)).1; omega
    · omega
    · have := (q.kb x h).1; omega
  have new' : ∀ b, Sp' b ∨ Sr' b → (SP j b ∨ SR j b) ∨ w.heap.size ≤ b := fun b hb => by
    rcases hb with hb | hb
    · rcases n1 b hb with h | h
      · exact Or.inl (Or.inl h)
      · exact Or.inr (by omega)
    · rcases n2 b hb with h | h
      · exact Or.inl (Or.inr h)
      · exact Or.inr (by omega)
  have hlt : ∀ k b, k < n → SP k b ∨ SR k b → b < w.heap.size := fun k b hk' hb => by
    rcases hb with hb | hb
    · exact ((q.pair k hk').lp b hb).2
    · exact ((q.pair k hk').lr b hb).2
  have newK : ∀ b, KB' b → KB b ∨ SP j b ∨ w.heap.size ≤ b := fun b hb => by
    rcases n3 b hb with h | h | h
    · exact Or.inl h
    · exact Or.inr (Or.inl h)
    · exact Or.inr (Or.inr (by omega))
  have hE' : Errs N A w' := v.errs.off' hk (fun b hb => by
    rcases hb with h | h | h | h
    · exact ((q.pair j hj).lp b h).1
    · exact ((q.pair j hj).lr b h).1
    · have := v.le; omega
    · have := v.le; have := (q.kb b h).1; omega)
  have hg := v.looked.glt
  have hbz := v.below.size
  have hbL2 : w'.heap[bL]? = w.heap[bL]? := hk.block bL hbl nbL
  refine ⟨⟨hE', v.looked.kept hk ng nbl, ?_, v.le, n, cL, bL, pL, pa, ra, fun x => if x = j then h' else hs x, fun x => if x = j then Sp' else SP x, fun x => if x = j then Sr' else SR x, KB', ?_, Nat.le_trans q.few (by omega), fun x hx => ?_, fun x hx => ?_, fun x hx => ?_, fun x y b hx hy hxy hb => ?_, fun x b hx hb => ?_, q.list, q.gb, ⟨nK + 4, cK', bK', pK', bk', by omega, by omega⟩, fun b hb => ?_⟩, ?_, hbL2, fun b h1 h2 => ?_⟩
  · exact ⟨hk.os.trans v.below.os, hk.tape.trans v.below.tape, hk.output.trans v.below.output, Nat.le_trans v.below.size hk.size, fun x hx => (hk.block x (Nat.lt_of_lt_of_le hx v.below.size) (nold x hx)).trans (v.below.block x hx)⟩
  · have hp := q.prs
    exact ⟨by rw [rc 0 (by omega), hW.cell hwb]; exact hp.head, by rw [rf 0, hW.frozen hwb]; exact hp.soft, Nat.lt_of_lt_of_le hwb hk.size, fun h0 => ⟨(hp.list h0).1, by rw [hbL2]; exact (hp.list h0).2⟩, hp.ne, hp.nil, hp.cap, hp.capm⟩
  · rw [cell_of hbL2, cell_of hbL2]; exact q.ptr x hx
  · by_cases e : x = j
    · subst e; simp only [if_true]; exact P'
    · simp only [if_neg e]
      refine (q.pair x hx).off ok hk (fun b hb => ?_)
      have hxo : ¬ (SP x b ∨ SR x b) := by
        rcases hb with h | h | h | h
        · exact q.apart j x b hj hx (fun h => e h.symm) (Or.inl h)
        · exact q.apart j x b hj hx (fun h => e h.symm) (Or.inr h)
        · exact fun hb => (q.off x b hx hb).2.1 h
        · exact (q.kb b h).2.2.2 x hx
      exact ⟨fun h => hxo (Or.inl h), fun h => hxo (Or.inr h)⟩
  · by_cases e : x = j
    · subst e; simp only [if_true]; exact ⟨hf, hl⟩
    · simp only [if_neg e]; exact ⟨(q.fair x hx).1, by have := (q.fair x hx).2; omega⟩
  · by_cases e1 : x = j
    · subst e1
      have e2 : y ≠ x := fun h => hxy h.symm
      simp only [if_true, if_neg e2] at hb ⊢
      intro hy'
      rcases new' b hb with h | h
      · exact q.apart x y b hx hy hxy h hy'
      · have := hlt y b hy hy'; omega
    · by_cases e2 : y = j
      · subst e2
        simp only [if_true, if_neg e1] at hb ⊢
        intro hy'
        rcases new' b hy' with h | h
        · exact q.apart x y b hx hy hxy hb h
        · have := hlt x b hx hb; omega
      · simp only [if_neg e1, if_neg e2] at hb ⊢
        exact q.apart x y b hx hy hxy hb
  · by_cases e : x = j
    · subst e
      simp only [if_true] at hb
      rcases new' b hb with h | h
      · exact q.off x b hx h
      · exact ⟨by omega, by omega, by omega, fun _ => by omega⟩
    · simp only [if_neg e] at hb; exact q.off x b hx hb
  · have hfar : w0.heap.size ≤ b ∧ b ≠ g ∧ (0 < cL → b ≠ bL) := by
      rcases newK b hb with h | h | h
      · exact ⟨(q.kb b h).1, (q.kb b h).2.1, (q.kb b h).2.2.1⟩
      · have := offj b (Or.inl h); exact ⟨this.1, this.2.2.1, this.2.2.2⟩
      · exact ⟨by omega, by omega, fun _ => by omega⟩
    refine ⟨hfar.1, hfar.2.1, hfar.2.2, fun x hx => ?_⟩
    by_cases e : x = j
    · subst e; simp only [if_true]; exact n4 b hb
    · simp only [if_neg e]
      intro hy
      rcases newK b hb with h | h | h
      · exact (q.kb b h).2.2.2 x hx hy
      · exact q.apart j x b hj hx (fun h => e h.symm) (Or.inl h) hy
      · have := hlt x b hx hy; omega
  · rw [rc 0 (by omega), hW.cell hwb]
  · refine k.block b h2 ?_
    rintro (h | h | h | h)
    · have := ((q.pair j hj).lp b h).2; omega
    · have := ((q.pair j hj).lr b h).2; omega
    · omega
    · have := hKlt b h; omega

/-- Ended, as a step. -/
theorem Inv.ended (K : ProgOK R N A) (v : Inv R N A w0 bl cells L g wb i w) (hi : i + 1 ≤ 1466015503701) (xA xB xD xE c0 c1 c2 c3 : Int) (cp : Option Addr) (cn cc : Nat) (hx : -9223372036854775808 ≤ xA) (hx2 : xA ≤ 9223372036854775807) :
    Calls Tryz.prog 47 #[.pointer (some ⟨wb, 0, none⟩), .agg #[.int .i64 14, .int .i64 xA, .int .i64 xB, .int .i64 xD, .int .i64 xE, .int .i64 c0, .int .i64 c1, .int .i64 c2, .int .i64 c3, .slice cp cn cc]] w fun e w' => e = .returned (.bool true) ∧ Inv R N A w0 bl cells L g wb (i + 1) w' := by
  obtain ⟨n, cL, bL, pL, pa, ra, hs, SP, SR, KB, q⟩ := v.heaps
  rcases Nat.eq_zero_or_pos n with rfl | h0
  · refine (step_none w wb cL bL pL q.prs 14 xA xB xD xE c0 c1 c2 c3 cp cn cc (by omega) (by omega)).mono ?_
    rintro e w' ⟨rfl, hb⟩
    exact ⟨rfl, v.grow K.ok hb (i + 1) (by omega)⟩
  · have hj := pickN_lt xA n h0
    have hc : 0 < cL := by have := q.prs.cap; omega
    refine step_ask w wb n cL bL pL q.prs h0 (by have := q.few; omega) pa ra q.ptr 14 xA xB xD xE c0 c1 c2 c3 cp cn cc (by omega) (by omega) hx hx2 _ (fun d => ?_)
    generalize hW : (w.alloc (.cells #[.int .i64 14, .int .i64 xA, .int .i64 xB, .int .i64 xD, .int .i64 xE, .int .i64 c0, .int .i64 c1, .int .i64 c2, .int .i64 c3, .slice cp cn cc] 85)).drewN d = W
    have hb : Below w.heap.size w W := by rw [← hW]; exact below_dN (Below.alloc0 w _) d
    have hWz : W.heap.size = w.heap.size + 1 := by rw [← hW]; simp
    have hWc : ∀ x, W.cell? ⟨w.heap.size, x, none⟩ = (w.alloc (.cells #[.int .i64 14, .int .i64 xA, .int .i64 xB, .int .i64 xD, .int .i64 xE, .int .i64 c0, .int .i64 c1, .int .i64 c2, .int .i64 c3, .slice cp cn cc] 85)).cell? ⟨w.heap.size, x, none⟩ := fun x => by rw [← hW]; rfl
    clear hW
    obtain ⟨nK, cK, bK, pK, bk, h4, hnK⟩ := q.book
    have P := (q.pair _ hj).below K.ok hb
    have hEW := v.errs.below hb v.errs.le
    have hwb := q.prs.lt
    have hfa := q.fair _ hj
    have hto := Tm.told_len hfa.1.told
    have hnn : (nK + 4) * 24 ≤ 140737488355328 := by omega
    refine (pair_Ended K.ok P hEW wb (bk.kept (T := fun _ => False) hwb (Kept.of_below hb) id (fun _ _ => id)) h4 hnn (by omega) (fun h => (q.off _ wb hj h).2.1 rfl) (fun b hb' => (q.kb b hb').2.2.2 _ hj) (by have := hfa.2; omega) xA xB xD xE c0 c1 c2 c3 cp cn cc (fun W' hb' => ?_)).mono ?_
    · obtain ⟨q1, q2, q3⟩ := P.on K.ok hEW hb'
      exact K.ended _ _ _ _ q1 q2 q3 hfa.1.told
    · rintro e w' ⟨rfl, o⟩
      obtain ⟨vi, a1, a2, a3⟩ := v.endOne K.ok q _ hj _ hfa.1.tld (by have := hfa.2; show (hs (pickN xA n)).l.length ≤ i + 1; omega) hb h4 hnK bk.lt o
      exact ⟨rfl, vi, a1, a2, fun x => by rw [cell_of (a3 w.heap.size (Nat.le_refl _) (by omega)), hWc]⟩
end
end Go.Proofs.YtcnmfljpmpgnjaaGreatDoor
