import Derived.Test.YtcnmfljpmpgnjaaGreatDoorJ34
namespace Go.Proofs.YtcnmfljpmpgnjaaGreatDoor
open Go.RowKit Go.Maps
open Tm (H Ob Sl Why)

/-- A struct of twelve cells that are written. -/
structure TW (bt : Nat) (f : Nat → Value) (w : World) : Prop where
  cells : ∀ i, i < 12 → w.cell? ⟨bt, i, none⟩ = some (f i)
  soft : ∀ i, w.frozen? ⟨bt, i, none⟩ = false
  lt : bt < w.heap.size
theorem TW.set {bt : Nat} {f : Nat → Value} {w : World} (h : TW bt f w) (j : Nat) (v : Value) (hj : j < 12) : TW bt (fun i => if i = j then v else f i) (w.setCell ⟨bt, j, none⟩ v) := by
  refine ⟨fun i hi => ?_, fun i => by rw [World.frozen?_setCell]; exact h.soft i, by rw [World.size_setCell]; exact h.lt⟩
  by_cases e : i = j
  · subst e; rw [World.cell?_setCell_same _ _ _ (h.cells i hi), if_pos rfl]
  · rw [World.cell?_setCell_other _ _ _ _ (fun e2 => e (congrArg Addr.off e2).symm), if_neg e]; exact h.cells i hi
theorem TW.on {bt : Nat} {f : Nat → Value} {w w' : World} (h : TW bt f w) (hb : Below w.heap.size w w') : TW bt f w' :=
  ⟨fun i hi => by rw [hb.cell h.lt]; exact h.cells i hi, fun i => by rw [hb.frozen h.lt]; exact h.soft i, Nat.lt_of_lt_of_le h.lt hb.size⟩

theorem TW.drw {bt : Nat} {f : Nat → Value} {w : World} (h : TW bt f w) : TW bt f w.drew := ⟨h.cells, h.soft, h.lt⟩

structure ZRow (w : World) (n o g : Nat) : Prop where
  hi : o < w.heap.size ∧ g < w.heap.size
  oz : ∀ i, i < n * 2 → w.cell? ⟨o, i, none⟩ = some (.int .i64 0)
  gz : ∀ i, i < n → w.cell? ⟨g, i, none⟩ = some (.int .i64 0)
  soft : ∀ b i, b = o ∨ b = g → w.frozen? ⟨b, i, none⟩ = false
theorem ZRow.keep {w w' : World} {n o g : Nat} (h : ZRow w n o g) (hk : ∀ b, b = o ∨ b = g → w'.heap[b]? = w.heap[b]?) (hz : w.heap.size ≤ w'.heap.size) : ZRow w' n o g :=
  ⟨⟨Nat.lt_of_lt_of_le h.hi.1 hz, Nat.lt_of_lt_of_le h.hi.2 hz⟩, fun i hi => by rw [cell_of (hk o (Or.inl rfl))]; exact h.oz i hi, fun i hi => by rw [cell_of (hk g (Or.inr rfl))]; exact h.gz i hi, fun b i hb => by rw [frozen_of (hk b hb)]; exact h.soft b i hb⟩
theorem ZRow.set {w : World} {n o g bt : Nat} (h : ZRow w n o g) (h1 : o ≠ bt) (h2 : g ≠ bt) (j : Nat) (v : Value) : ZRow (w.setCell ⟨bt, j, none⟩ v) n o g :=
  h.keep (fun b hb => Below.heap_setCell _ _ _ _ (by rcases hb with rfl | rfl; exact h1; exact h2)) (by rw [World.size_setCell]; exact Nat.le_refl _)
theorem ZRow.on {w w' : World} {n o g : Nat} (h : ZRow w n o g) (hb : Below w.heap.size w w') : ZRow w' n o g :=
  h.keep (fun b q => hb.block b (by rcases q with rfl | rfl; exact h.hi.1; exact h.hi.2)) hb.size

/-- One table is written: three cells, and two rows. -/
theorem tab_set {bt j n o g : Nat} {f : Nat → Value} {w w1 : World} (hj : j + 2 < 12) (h : TW bt f w) (r : RowsNew w w1 n o g) :
    (∃ f', TW bt f' (((w1.setCell ⟨bt, j, none⟩ (.slice (some ⟨o, 0, none⟩) n n)).setCell ⟨bt, j + 1, none⟩ (.slice (some ⟨g, 0, none⟩) n n)).setCell ⟨bt, j + 2, none⟩ (.int .i64 1)) ∧ f' j = .slice (some ⟨o, 0, none⟩) n n ∧ f' (j + 1) = .slice (some ⟨g, 0, none⟩) n n ∧ f' (j + 2) = .int .i64 1 ∧ ∀ i, (i < j ∨ j + 2 < i) → f' i = f i)
    ∧ ZRow (((w1.setCell ⟨bt, j, none⟩ (.slice (some ⟨o, 0, none⟩) n n)).setCell ⟨bt, j + 1, none⟩ (.slice (some ⟨g, 0, none⟩) n n)).setCell ⟨bt, j + 2, none⟩ (.int .i64 1)) n o g := by
  have hb := h.lt
  have hlo := r.lo
  have t1 := (h.on r.below).set j (.slice (some ⟨o, 0, none⟩) n n) (by omega)
  have t2 := t1.set (j + 1) (.slice (some ⟨g, 0, none⟩) n n) (by omega)
  have t3 := t2.set (j + 2) (.int .i64 1) (by omega)
  refine ⟨⟨_, t3, ?_, ?_, ?_, fun i hi => ?_⟩, ?_⟩
  · show (if j = j + 2 then _ else if j = j + 1 then _ else if j = j then _ else f j) = _
    rw [if_neg (by omega), if_neg (by omega), if_pos rfl]
  · show (if j + 1 = j + 2 then _ else if j + 1 = j + 1 then _ else _) = _
    rw [if_neg (by omega), if_pos rfl]
  · show (if j + 2 = j + 2 then _ else _) = _
    rw [if_pos rfl]
  · show (if i = j + 2 then _ else if i = j + 1 then _ else if i = j then _ else f i) = f i
    rw [if_neg (by omega), if_neg (by omega), if_neg (by omega)]
  · have q : ZRow w1 n o g := ⟨r.hi, r.oz, r.gz, r.soft⟩
    exact ((q.set (by omega) (by omega) _ _).set (by omega) (by omega) _ _).set (by omega) (by omega) _ _

/-- Tables as they are at first. -/
structure TabsNew (w w' : World) (l g k : Nat) (bt o1 g1 o2 g2 o3 g3 : Nat) : Prop where
  below : Below w.heap.size w w'
  bt0 : w.heap.size ≤ bt
  tw : ∃ f, TW bt f w' ∧ f 3 = .slice (some ⟨o1, 0, none⟩) l l ∧ f 4 = .slice (some ⟨g1, 0, none⟩) l l ∧ f 5 = .int .i64 1 ∧ f 6 = .slice (some ⟨o2, 0, none⟩) g g ∧ f 7 = .slice (some ⟨g2, 0, none⟩) g g ∧ f 8 = .int .i64 1 ∧ f 9 = .slice (some ⟨o3, 0, none⟩) k k ∧ f 10 = .slice (some ⟨g3, 0, none⟩) k k ∧ f 11 = .int .i64 1
  r1 : ZRow w' l o1 g1
  r2 : ZRow w' g o2 g2
  r3 : ZRow w' k o3 g3
  ord : ∃ x1 x2 x3, bt < x1 ∧ x1 ≤ o1 ∧ x1 ≤ g1 ∧ o1 < x2 ∧ g1 < x2 ∧ x2 ≤ o2 ∧ x2 ≤ g2 ∧ o2 < x3 ∧ g2 < x3 ∧ x3 ≤ o3 ∧ x3 ≤ g3 ∧ o1 ≠ g1 ∧ o2 ≠ g2 ∧ o3 ≠ g3

set_option maxRecDepth 100000 in
set_option maxHeartbeats 8000000 in
theorem newT_any (w : World) (l g k : Nat) (hl : l ≤ 16) (hg : g ≤ 16) (hk : k ≤ 16) :
    Calls Tryz.prog 66 #[.int .i64 (l : Int), .int .i64 (g : Int), .int .i64 (k : Int)] w fun e w' => ∃ bt o1 g1 o2 g2 o3 g3, e = .returned (.pointer (some ⟨bt, 0, none⟩)) ∧ TabsNew w w' l g k bt o1 g1 o2 g2 o3 g3 := by
  have HBl : Hid (∀ (w1 : World) (n : Nat), n ≤ 16 → Calls Tryz.prog 100 #[.int .i64 (n : Int)] w1 fun e w' => ∃ o g, e = .returned (.agg #[.slice (some ⟨o, 0, none⟩) n n, .slice (some ⟨g, 0, none⟩) n n, .int .i64 1]) ∧ RowsNew w1 w' n o g) := fun w1 n hn => blankT_any w1 n hn
  go_enter Tryz.func66, Tryz.ntmps66
  go_wp2_with fail
  obtain ⟨w0, e0⟩ : ∃ w0, w.alloc (.cells #[.slice none 0 0, .slice none 0 0, .int .i64 0, .slice none 0 0, .slice none 0 0, .int .i64 0, .slice none 0 0, .slice none 0 0, .int .i64 0, .slice none 0 0, .slice none 0 0, .int .i64 0] 137) = w0 := ⟨_, rfl⟩
  have HB0 : Hid (Below w.heap.size w w0) := by rw [← e0]; exact Below.alloc0 _ _
  have HT0 : Hid (∃ f, TW w.heap.size f w0) := by
    refine ⟨fun i => (#[.slice none 0 0, .slice none 0 0, .int .i64 0, .slice none 0 0, .slice none 0 0, .int .i64 0, .slice none 0 0, .slice none 0 0, .int .i64 0, .slice none 0 0, .slice none 0 0, .int .i64 0] : Array Value).getD i undef, fun i hi => ?_, fun i => ?_, by rw [← e0]; simp⟩
    · rw [← e0, World.cell?_alloc_new]
      rcases (show i = 0 ∨ i = 1 ∨ i = 2 ∨ i = 3 ∨ i = 4 ∨ i = 5 ∨ i = 6 ∨ i = 7 ∨ i = 8 ∨ i = 9 ∨ i = 10 ∨ i = 11 by omega) with rfl | rfl | rfl | rfl | rfl | rfl | rfl | rfl | rfl | rfl | rfl | rfl <;> rfl
    · rw [← e0]; exact World.frozen?_alloc_new _ _ _ _
  rw [e0]
  have hz0 : w0.heap.size = w.heap.size + 1 := by rw [← e0]; simp
  clear e0
  obtain ⟨f0, ht0⟩ := HT0.out
  have HT0 := hide ht0
  clear ht0
  go_region_held3 (fun _ => True) (exact True.intro) (first
    | (go_at_call 100
       refine (HBl.out _ l hl).mono ?_
       rintro e v1 ⟨o1, g1, rfl, hr1⟩
       have hs1 := (HT0.out.drw).on hr1.below
       have a1 := hs1.cells 3 (by omega)
       have b1 := hs1.cells 4 (by omega)
       have c1 := hs1.cells 5 (by omega)
       have x1 := hs1.soft 3
       have y1 := hs1.soft 4
       have q1 := hs1.soft 5
       have HRw1 := hide hr1
       clear hr1 hs1)
    | fail)
  have hts1 := tab_set (j := 3) (by omega) HT0.out.drw HRw1.out
  obtain ⟨w1, e1⟩ : ∃ w1, ((v1.setCell ⟨w.heap.size, 3, none⟩ (.slice (some ⟨o1, 0, none⟩) l l)).setCell ⟨w.heap.size, 4, none⟩ (.slice (some ⟨g1, 0, none⟩) l l)).setCell ⟨w.heap.size, 5, none⟩ (.int .i64 1) = w1 := ⟨_, rfl⟩
  have hrel1 : w1.heap.size = v1.heap.size ∧ (∀ b, b ≠ w.heap.size → w1.heap[b]? = v1.heap[b]?) ∧ w1.os = v1.os ∧ w1.tape = v1.tape ∧ w1.output = v1.output := by
    rw [← e1]
    exact ⟨by rw [World.size_setCell, World.size_setCell, World.size_setCell], fun b hb => by rw [Below.heap_setCell _ _ _ _ hb, Below.heap_setCell _ _ _ _ hb, Below.heap_setCell _ _ _ _ hb], rfl, rfl, rfl⟩
  have HLo1 := hide HRw1.out.lo
  have HHi1 := hide HRw1.out.hi
  have HNe1 := hide HRw1.out.ne
  have HZ1 : Hid (w0.heap.size ≤ w1.heap.size ∧ v1.heap.size = w1.heap.size) := ⟨by rw [hrel1.1]; exact HRw1.out.below.size, hrel1.1.symm⟩
  have HKp1 : Hid (∀ b, b < w0.heap.size → b ≠ w.heap.size → w1.heap[b]? = w0.heap[b]?) := fun b hb hne => by
    show _ = _
    rw [hrel1.2.1 b hne]; exact HRw1.out.below.block b hb
  have HBel1 : Hid (Below w.heap.size w w1) := by
    have hb := HRw1.out.below
    have hp := HB0.out
    exact ⟨hrel1.2.2.1.trans (hb.os.trans hp.os), hrel1.2.2.2.1.trans (hb.tape.trans hp.tape), hrel1.2.2.2.2.trans (hb.output.trans hp.output), by have := HZ1.out.1; have := hp.size; omega, fun i hi => (HKp1.out i (by have := hp.size; omega) (by omega)).trans (hp.block i hi)⟩
  have HB1 := HBel1
  rw [e1] at hts1 ⊢
  obtain ⟨⟨f1, ht1, ea1, eb1, ec1, eo1⟩, hzr1⟩ := hts1
  have HT1 := hide ht1
  have HF1 := hide (And.intro ea1 (And.intro eb1 (And.intro ec1 eo1)))
  have HZr1 := hide hzr1
  clear e1 hrel1 ht1 ea1 eb1 ec1 eo1 hzr1 a1 b1 c1 x1 y1 q1
  go_wp2_with fail
  go_region_held3 (fun _ => True) (exact True.intro) (first
    | (go_at_call 100
       refine (HBl.out _ g hg).mono ?_
       rintro e v2 ⟨o2, g2, rfl, hr2⟩
       have hs2 := (HT1.out.drw).on hr2.below
       have a2 := hs2.cells 6 (by omega)
       have b2 := hs2.cells 7 (by omega)
       have c2 := hs2.cells 8 (by omega)
       have x2 := hs2.soft 6
       have y2 := hs2.soft 7
       have q2 := hs2.soft 8
       have HRw2 := hide hr2
       clear hr2 hs2)
    | fail)
  have hts2 := tab_set (j := 6) (by omega) HT1.out.drw HRw2.out
  obtain ⟨w2, e2⟩ : ∃ w2, ((v2.setCell ⟨w.heap.size, 6, none⟩ (.slice (some ⟨o2, 0, none⟩) g g)).setCell ⟨w.heap.size, 7, none⟩ (.slice (some ⟨g2, 0, none⟩) g g)).setCell ⟨w.heap.size, 8, none⟩ (.int .i64 1) = w2 := ⟨_, rfl⟩
  have hrel2 : w2.heap.size = v2.heap.size ∧ (∀ b, b ≠ w.heap.size → w2.heap[b]? = v2.heap[b]?) ∧ w2.os = v2.os ∧ w2.tape = v2.tape ∧ w2.output = v2.output := by
    rw [← e2]
    exact ⟨by rw [World.size_setCell, World.size_setCell, World.size_setCell], fun b hb => by rw [Below.heap_setCell _ _ _ _ hb, Below.heap_setCell _ _ _ _ hb, Below.heap_setCell _ _ _ _ hb], rfl, rfl, rfl⟩
  have HLo2 := hide HRw2.out.lo
  have HHi2 := hide HRw2.out.hi
  have HNe2 := hide HRw2.out.ne
  have HZ2 : Hid (w1.heap.size ≤ w2.heap.size ∧ v2.heap.size = w2.heap.size) := ⟨by rw [hrel2.1]; exact HRw2.out.below.size, hrel2.1.symm⟩
  have HKp2 : Hid (∀ b, b < w1.heap.size → b ≠ w.heap.size → w2.heap[b]? = w1.heap[b]?) := fun b hb hne => by
    show _ = _
    rw [hrel2.2.1 b hne]; exact HRw2.out.below.block b hb
  have HBel2 : Hid (Below w.heap.size w w2) := by
    have hb := HRw2.out.below
    have hp := HB1.out
    exact ⟨hrel2.2.2.1.trans (hb.os.trans hp.os), hrel2.2.2.2.1.trans (hb.tape.trans hp.tape), hrel2.2.2.2.2.trans (hb.output.trans hp.output), by have := HZ2.out.1; have := hp.size; omega, fun i hi => (HKp2.out i (by have := hp.size; omega) (by omega)).trans (hp.block i hi)⟩
  have HB2 := HBel2
  rw [e2] at hts2 ⊢
  obtain ⟨⟨f2, ht2, ea2, eb2, ec2, eo2⟩, hzr2⟩ := hts2
  have HT2 := hide ht2
  have HF2 := hide (And.intro ea2 (And.intro eb2 (And.intro ec2 eo2)))
  have HZr2 := hide hzr2
  clear e2 hrel2 ht2 ea2 eb2 ec2 eo2 hzr2 a2 b2 c2 x2 y2 q2
  go_wp2_with fail
  go_region_held3 (fun _ => True) (exact True.intro) (first
    | (go_at_call 100
       refine (HBl.out _ k hk).mono ?_
       rintro e v3 ⟨o3, g3, rfl, hr3⟩
       have hs3 := (HT2.out.drw).on hr3.below
       have a3 := hs3.cells 9 (by omega)
       have b3 := hs3.cells 10 (by omega)
       have c3 := hs3.cells 11 (by omega)
       have x3 := hs3.soft 9
       have y3 := hs3.soft 10
       have q3 := hs3.soft 11
       have HRw3 := hide hr3
       clear hr3 hs3)
    | fail)
  have hts3 := tab_set (j := 9) (by omega) HT2.out.drw HRw3.out
  obtain ⟨w3, e3⟩ : ∃ w3, ((v3.setCell ⟨w.heap.size, 9, none⟩ (.slice (some ⟨o3, 0, none⟩) k k)).setCell ⟨w.heap.size, 10, none⟩ (.slice (some ⟨g3, 0, none⟩) k k)).setCell ⟨w.heap.size, 11, none⟩ (.int .i64 1) = w3 := ⟨_, rfl⟩
  have hrel3 : w3.heap.size = v3.heap.size ∧ (∀ b, b ≠ w.heap.size → w3.heap[b]? = v3.heap[b]?) ∧ w3.os = v3.os ∧ w3.tape = v3.tape ∧ w3.output = v3.output := by
    rw [← e3]
    exact ⟨by rw [World.size_setCell, World.size_setCell, World.size_setCell], fun b hb => by rw [Below.heap_setCell _ _ _ _ hb, Below.heap_setCell _ _ _ _ hb, Below.heap_setCell _ _ _ _ hb], rfl, rfl, rfl⟩
  have HLo3 := hide HRw3.out.lo
  have HHi3 := hide HRw3.out.hi
  have HNe3 := hide HRw3.out.ne
  have HZ3 : Hid (w2.heap.size ≤ w3.heap.size ∧ v3.heap.size = w3.heap.size) := ⟨by rw [hrel3.1]; exact HRw3.out.below.size, hrel3.1.symm⟩
  have HKp3 : Hid (∀ b, b < w2.heap.size → b ≠ w.heap.size → w3.heap[b]? = w2.heap[b]?) := fun b hb hne => by
    show _ = _
    rw [hrel3.2.1 b hne]; exact HRw3.out.below.block b hb
  have HBel3 : Hid (Below w.heap.size w w3) := by
    have hb := HRw3.out.below
    have hp := HB2.out
    exact ⟨hrel3.2.2.1.trans (hb.os.trans hp.os), hrel3.2.2.2.1.trans (hb.tape.trans hp.tape), hrel3.2.2.2.2.trans (hb.output.trans hp.output), by have := HZ3.out.1; have := hp.size; omega, fun i hi => (HKp3.out i (by have := hp.size; omega) (by omega)).trans (hp.block i hi)⟩
  have HB3 := HBel3
  rw [e3] at hts3 ⊢
  obtain ⟨⟨f3, ht3, ea3, eb3, ec3, eo3⟩, hzr3⟩ := hts3
  have HT3 := hide ht3
  have HF3 := hide (And.intro ea3 (And.intro eb3 (And.intro ec3 eo3)))
  have HZr3 := hide hzr3
  clear e3 hrel3 ht3 ea3 eb3 ec3 eo3 hzr3 a3 b3 c3 x3 y3 q3
  go_wp2_with fail
  go_ret
  have l1 := HLo1.out
  have l2 := HLo2.out
  have l3 := HLo3.out
  have i1 := HHi1.out
  have i2 := HHi2.out
  have i3 := HHi3.out
  have s1 := HZ1.out
  have s2 := HZ2.out
  have s3 := HZ3.out
  simp only [World.size_drew] at l1 l2 l3
  have k12 : ∀ b, b = o1 ∨ b = g1 → w2.heap[b]? = w1.heap[b]? := fun b hb => HKp2.out b (by omega) (by omega)
  have k13 : ∀ b, b = o1 ∨ b = g1 → w3.heap[b]? = w2.heap[b]? := fun b hb => HKp3.out b (by omega) (by omega)
  have k23 : ∀ b, b = o2 ∨ b = g2 → w3.heap[b]? = w2.heap[b]? := fun b hb => HKp3.out b (by omega) (by omega)
  refine ⟨w.heap.size, o1, g1, o2, g2, o3, g3, rfl, HB3.out, Nat.le_refl _, ⟨f3, HT3.out, ?_, ?_, ?_, ?_, ?_, ?_, HF3.out.1, HF3.out.2.1, HF3.out.2.2.1⟩, (HZr1.out.keep k12 (by omega)).keep k13 (by omega), HZr2.out.keep k23 (by omega), HZr3.out, ⟨w.heap.size + 1, w1.heap.size, w2.heap.size, by omega, by omega, by omega, by omega, by omega, by omega, by omega, by omega, by omega, by omega, by omega, HNe1.out, HNe2.out, HNe3.out⟩⟩
  · rw [HF3.out.2.2.2 3 (by omega), HF2.out.2.2.2 3 (by omega)]; exact HF1.out.1
  · rw [HF3.out.2.2.2 4 (by omega), HF2.out.2.2.2 4 (by omega)]; exact HF1.out.2.1
  · rw [HF3.out.2.2.2 5 (by omega), HF2.out.2.2.2 5 (by omega)]; exact HF1.out.2.2.1
  · rw [HF3.out.2.2.2 6 (by omega)]; exact HF2.out.1
  · rw [HF3.out.2.2.2 7 (by omega)]; exact HF2.out.2.1
  · rw [HF3.out.2.2.2 8 (by omega)]; exact HF2.out.2.2.1

/-- A store as it is at first. -/
structure StoNew (w w' : World) (lim : Int) (bs bm : Nat) : Prop where
  below : Below w.heap.size w w'
  lo : w.heap.size ≤ bs ∧ w.heap.size ≤ bm
  hi : bs < w'.heap.size ∧ bm < w'.heap.size
  ne : bs ≠ bm
  map : w'.ownsMap Tryz.prog 3 ptrElem bm 0 (.map [])
  c0 : w'.cell? ⟨bs, 0, none⟩ = some (.int .i64 lim)
  c1 : w'.cell? ⟨bs, 1, none⟩ = some (.int .i64 0)
  c2 : w'.cell? ⟨bs, 2, none⟩ = some (.map (some bm))
  c3 : w'.cell? ⟨bs, 3, none⟩ = some (.slice none 0 0)
  soft : ∀ b i, b = bs ∨ b = bm → w'.frozen? ⟨b, i, none⟩ = false

theorem newS_any (w : World) (lim : Int) :
    Calls Tryz.prog 65 #[.int .i64 lim] w fun e w' => ∃ bs bm, e = .returned (.pointer (some ⟨bs, 0, none⟩)) ∧ StoNew w w' lim bs bm := by
  have hmm := @run_makeMap Tryz.prog
  have HM := hide (World.ownsMap_made (H := Unit) w Tryz.prog 3 ptrElem)
  go_enter Tryz.func65, Tryz.ntmps65
  go_wp2_with fail
  go_ret
  refine ⟨_, w.heap.size, rfl, ?_⟩
  have hm := HM.out.alloc (.cells #[.int .i64 lim, .int .i64 0, .map (some w.heap.size), .slice none 0 0] 129)
  refine ⟨(Below.alloc0 w _).alloc (by simp) _, ⟨by omega, Nat.le_refl _⟩, ⟨by simp, by simp; omega⟩, by omega, hm, by rw [World.cell?_alloc_at _ _ _ _ (by simp)]; rfl, by rw [World.cell?_alloc_at _ _ _ _ (by simp)]; rfl, by rw [World.cell?_alloc_at _ _ _ _ (by simp)]; rfl, by rw [World.cell?_alloc_at _ _ _ _ (by simp)]; rfl, fun b i hb => ?_⟩
  rcases hb with rfl | rfl
  · exact World.frozen?_alloc_at _ _ _ _ (by simp)
  · obtain ⟨es, c, hb, _⟩ := hm
    simp [World.frozen?, hb]
end Go.Proofs.YtcnmfljpmpgnjaaGreatDoor
