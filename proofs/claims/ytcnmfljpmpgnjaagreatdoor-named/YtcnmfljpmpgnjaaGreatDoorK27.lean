import Derived.Test.YtcnmfljpmpgnjaaGreatDoorK26
import Derived.Lib.SliceRun
namespace Go.Proofs.YtcnmfljpmpgnjaaGreatDoor
open Go.RowKit
open Tm (H Ob Sl Why)

/-- What was lent: the numbers, and eight more behind them. -/
structure Lent (w : World) (nb : Nat) (l : List Int) : Prop where
  lt : nb < w.heap.size
  row : ∀ i, i < l.length → w.cell? ⟨nb, i, none⟩ = some (.int .i64 (l.getD i 0))
  behind : ∀ i, l.length ≤ i → i < l.length + 8 → w.cell? ⟨nb, i, none⟩ = some (.int .i64 77)
  soft : ∀ i, w.frozen? ⟨nb, i, none⟩ = false

theorem Lent.at {w w' : World} {nb : Nat} {l : List Int} (h : Lent w nb l) (he : w'.heap[nb]? = w.heap[nb]?) (hz : w.heap.size ≤ w'.heap.size) : Lent w' nb l :=
  ⟨by have := h.lt; omega, fun i hi => by rw [cell_of he]; exact h.row i hi, fun i h1 h2 => by rw [cell_of he]; exact h.behind i h1 h2, fun i => by rw [frozen_of he]; exact h.soft i⟩

theorem copy_row (w : World) (b o n c : Nat) (l : List Int) (hn : l.length = n) (hb : b < w.heap.size) (hc : ∀ j, j < n → w.cell? ⟨b, o + j, none⟩ = some (.int .i64 (l.getD j 0))) :
    ∃ w2, (Builtin.copy_ #[24, 24] 3 #[.slice (some ⟨w.heap.size, 0, none⟩) (n + 8) (n + 8), .slice (some ⟨b, o, none⟩) n c]).run Tryz.prog (w.alloc (.cells (madeCells #[.int .i64 0] (n + 8)) 3)) = .ok (.int .i64 (n : Int)) w2 ∧
      Below w.heap.size w w2 ∧ w2.heap.size = w.heap.size + 1 ∧ (∀ i, i < n → w2.cell? ⟨w.heap.size, i, none⟩ = some (.int .i64 (l.getD i 0))) ∧ (∀ i, n ≤ i → i < n + 8 → (w2.cell? ⟨w.heap.size, i, none⟩).isSome = true) ∧ ∀ i, w2.frozen? ⟨w.heap.size, i, none⟩ = false := by
  have hg : (w.alloc (.cells (madeCells #[.int .i64 0] (n + 8)) 3)).heap[w.heap.size]? = some (.cells (madeCells #[.int .i64 0] (n + 8)) 3 (0, 0)) := heap_alloc_new w _
  have hmin : Nat.min n (n + 8) = n := Nat.min_eq_left (by omega)
  have hrun := run_copy_row (P := Tryz.prog) (w.alloc (.cells (madeCells #[.int .i64 0] (n + 8)) 3)) 24 24 3 3 w.heap.size 0 (n + 8) (n + 8) ⟨b, o, none⟩ n c (madeCells #[.int .i64 0] (n + 8)) 3 (l.map (Value.int .i64)) Tryz.underlying24 (by kernel_rfl) hg (by simp [hmin, hn]) (fun j v hj => by
      rw [Addr.add_lit]
      simp only [List.getElem?_map, Option.map_eq_some_iff] at hj
      obtain ⟨y, hy, rfl⟩ := hj
      have hjl : j < n := by
        rcases Nat.lt_or_ge j n with h | h
        · exact h
        · rw [List.getElem?_eq_none (by omega)] at hy; cases hy
      rw [World.cell?_alloc_lt _ _ _ hb, hc j hjl]
      simp [List.getD_eq_getElem?_getD, hy]) (by simp [size_madeCells, hn]) (fun v hv => by obtain ⟨y, _, rfl⟩ := List.mem_map.1 hv; rfl)
  refine ⟨_, by rw [hrun]; simp [goInt, hn]; rfl, ?_, ?_, ?_, ?_, ?_⟩
  · exact ⟨rfl, rfl, rfl, by simp [World.setRow], fun k hk => by rw [setRow_other _ _ _ _ (by omega)]; exact Below.heap_alloc _ _ _ hk⟩
  · simp [World.setRow]
  · intro i hi
    simp only [World.cell?, setRow_heap _ _ _ _ _ _ hg]
    simp [hn, hi, List.getD_eq_getElem?_getD, List.getElem?_append_left]
  · intro i h1 h2
    simp only [World.cell?, setRow_heap _ _ _ _ _ _ hg]
    simp [hn, List.getElem?_append_right, h1, madeCells]
    omega
  · intro i
    simp only [World.frozen?, setRow_heap _ _ _ _ _ _ hg]
    simp

theorem eql_nil (w : World) (a : Option Addr) (n c : Nat) : (binOp .eql 24 (.slice a n c) (.slice none 0 0)).run Tryz.prog w = .ok (.bool a.isNone) w :=
  Lib.run_eql_slice_nil w 24 3 a n c 0 0 Tryz.underlying24
theorem eql_nil2 (w : World) (a : Option Addr) (n c : Nat) : (binOp .eql 61 (.slice a n c) (.slice none 0 0)).run Tryz.prog w = .ok (.bool a.isNone) w :=
  Lib.run_eql_slice_nil w 61 24 a n c 0 0 Tryz.underlying61

set_option maxRecDepth 100000 in
set_option maxHeartbeats 4000000 in
theorem lentInts_nil (w : World) (c : Nat) :
    Calls Tryz.prog 131 #[.slice none 0 c] w fun e w' => e = .returned (.slice none 0 0) ∧ w' = w := by
  have hq := fun w' => eql_nil w' none 0 c
  go_enter Tryz.func131, Tryz.ntmps131
  go_wp2_with fail
  go_ret
  exact ⟨rfl, rfl⟩

set_option maxRecDepth 100000 in
set_option maxHeartbeats 4000000 in
theorem lentInts_any (w : World) (ad : Addr) (c : Nat) (l : List Int) (hl : l.length ≤ 17592186044416) (hc : 0 < l.length → ∃ b o, ad = ⟨b, o, none⟩ ∧ b < w.heap.size ∧ ∀ j, j < l.length → w.cell? ⟨b, o + j, none⟩ = some (.int .i64 (l.getD j 0))) :
    Calls Tryz.prog 131 #[.slice (some ad) l.length c] w fun e w' => e = .returned (.slice (some ⟨w.heap.size, 0, none⟩) l.length (l.length + 8)) ∧ Below w.heap.size w w' ∧ w'.heap.size = w.heap.size + 1 ∧ Lent w' w.heap.size l := by
  have hq := fun w' => eql_nil w' (some ad) l.length c
  have hmk : (Instr.makeSlice 24 (.int .i64 ((l.length : Int) + 8)) (.int .i64 ((l.length : Int) + 8))).run Tryz.prog w = .ok (.slice (some ⟨w.heap.size, 0, none⟩) (l.length + 8) (l.length + 8)) (w.alloc (.cells (madeCells #[.int .i64 0] (l.length + 8)) 3)) := by
    have := make_ints w (l.length + 8) (by omega)
    rw [show ((l.length + 8 : Nat) : Int) = (l.length : Int) + 8 from by omega] at this
    exact this
  have hcopy : ∃ w2, (Builtin.copy_ #[24, 24] 3 #[.slice (some ⟨w.heap.size, 0, none⟩) (l.length + 8) (l.length + 8), .slice (some ad) l.length c]).run Tryz.prog (w.alloc (.cells (madeCells #[.int .i64 0] (l.length + 8)) 3)) = .ok (.int .i64 (l.length : Int)) w2 ∧
      Below w.heap.size w w2 ∧ w2.heap.size = w.heap.size + 1 ∧ (∀ i, i < l.length → w2.cell? ⟨w.heap.size, i, none⟩ = some (.int .i64 (l.getD i 0))) ∧ (∀ i, l.length ≤ i → i < l.length + 8 → (w2.cell? ⟨w.heap.size, i, none⟩).isSome = true) ∧ ∀ i, w2.frozen? ⟨w.heap.size, i, none⟩ = false := by
    rcases Nat.eq_zero_or_pos l.length with h0 | h0
    · refine ⟨w.alloc (.cells (madeCells #[.int .i64 0] (l.length + 8)) 3), ?_, Below.alloc0 _ _, by simp, fun i hi => by omega, fun i h1 h2 => by rw [World.cell?_alloc_new]; simp [madeCells]; omega, fun i => World.frozen?_alloc_new _ _ _ _⟩
      have hf := run_firstCells_some (P := Tryz.prog) (w.alloc (.cells (madeCells #[.int .i64 0] (l.length + 8)) 3)) 1 0 ad 0 c [] (by simp) (by intro j u h; simp at h)
      obtain ⟨i3, hi3, _, hz1, _⟩ := info_parts info3
      rw [h0] at hf ⊢
      simp [Builtin.copy_, run_underlying Tryz.underlying24, Builtin.lenOf, sizeOf, typeInfo, hi3, hz1, hf, storeCells, goInt]
    · obtain ⟨b, o, rfl, q1, q2⟩ := hc h0
      exact copy_row w b o l.length c l rfl q1 q2
  obtain ⟨w2, hcp, bl, sz, r1, r2, r3⟩ := hcopy
  have HBl := hide bl
  have HSz := hide sz
  have HR1 := hide r1
  have HR2 := hide r2
  have HR3 := hide r3
  clear bl sz r1 r2 r3 hc
  go_enter Tryz.func131, Tryz.ntmps131
  go_wp2_with fail
  go_loopw [5] (fun iv w' => ∃ i : Nat, l.length ≤ i ∧ i ≤ l.length + 8 ∧ iv = .int .i64 i ∧ Below w.heap.size w w' ∧ w'.heap.size = w.heap.size + 1 ∧ (∀ j, j < l.length → w'.cell? ⟨w.heap.size, j, none⟩ = some (.int .i64 (l.getD j 0))) ∧ (∀ j, l.length ≤ j → j < i → w'.cell? ⟨w.heap.size, j, none⟩ = some (.int .i64 77)) ∧ (∀ j, l.length ≤ j → j < l.length + 8 → (w'.cell? ⟨w.heap.size, j, none⟩).isSome = true) ∧ ∀ j, w'.frozen? ⟨w.heap.size, j, none⟩ = false) (fun iv _ => l.length + 8 - (intOf iv).toNat)
  case atStart => exact ⟨l.length, Nat.le_refl _, by omega, rfl, HBl.out, HSz.out, HR1.out, fun j h1 h2 => by omega, HR2.out, HR3.out⟩
  case round =>
    obtain ⟨i, h1, h2, rfl, bl, sz, r1, r4, r2, r3⟩ := hrel
    have HB2 := hide bl
    have HS2 := hide sz
    have HQ1 := hide r1
    have HQ2 := hide r2
    have HQ4 := hide r4
    have f3 := r3
    have HQ3 := hide r3
    clear bl sz r1 r4 r2 r3
    by_cases hlt : i < l.length + 8
    · have bi : (i : Int) < (l.length : Int) + 8 := by omega
      obtain ⟨u, hu⟩ := Option.isSome_iff_exists.1 (HQ2.out i h1 hlt)
      go_wp2_with fail
      have off : ∀ {x : Nat}, i ≠ x → (⟨w.heap.size, i, none⟩ : Addr) ≠ ⟨w.heap.size, x, none⟩ := fun h e => h (congrArg Addr.off e)
      refine ⟨⟨i + 1, by omega, by omega, by go_num, HB2.out.setCell (Nat.le_refl _) _, by rw [World.size_setCell]; exact HS2.out, fun j hj => ?_, fun j hj1 hj2 => ?_, fun j hj1 hj2 => ?_, fun j => by rw [World.frozen?_setCell]; exact HQ3.out j⟩, by simp [intOf]; omega⟩
      · rw [World.cell?_setCell_other _ _ _ _ (off (by omega))]; exact HQ1.out j hj
      · by_cases e : j = i
        · subst e; exact World.cell?_setCell_same _ _ _ hu
        · rw [World.cell?_setCell_other _ _ _ _ (off (fun e2 => e e2.symm))]; exact HQ4.out j hj1 (by omega)
      · by_cases e : j = i
        · subst e; rw [World.cell?_setCell_same _ _ _ hu]; rfl
        · rw [World.cell?_setCell_other _ _ _ _ (off (fun e2 => e e2.symm))]; exact HQ2.out j hj1 hj2
    · have bi : ¬ (i : Int) < (l.length : Int) + 8 := by omega
      have bb1 : (l.length : Int) ≤ (l.length : Int) + 8 := by omega
      go_wp2_with fail
      go_ret
      exact ⟨rfl, HB2.out, HS2.out, ⟨by rw [HS2.out]; omega, HQ1.out, fun j hj1 hj2 => HQ4.out j hj1 (by omega), HQ3.out⟩⟩
end Go.Proofs.YtcnmfljpmpgnjaaGreatDoor

namespace Go.Proofs.YtcnmfljpmpgnjaaGreatDoor
open Go.RowKit
open Tm (H Ob Sl Why)

set_option maxRecDepth 100000 in
set_option maxHeartbeats 4000000 in
theorem wholeInts_nil (w : World) (v : Value) (c : Nat) :
    Calls Tryz.prog 133 #[v, .slice none 0 c] w fun e w' => e = .returned (.bool true) ∧ w' = w := by
  have hq := fun w' => eql_nil w' none 0 c
  go_enter Tryz.func133, Tryz.ntmps133
  go_wp2_with fail
  go_ret
  exact ⟨rfl, rfl⟩

set_option maxRecDepth 100000 in
set_option maxHeartbeats 4000000 in
theorem wholeInts_any (w : World) (nb c : Nat) (ad : Addr) (l : List Int) (hl : l.length ≤ 17592186044416) (hL : Lent w nb l) (hc : 0 < l.length → ∃ b o, ad = ⟨b, o, none⟩ ∧ b ≠ nb ∧ ∀ j, j < l.length → w.cell? ⟨b, o + j, none⟩ = some (.int .i64 (l.getD j 0))) :
    Calls Tryz.prog 133 #[.slice (some ⟨nb, 0, none⟩) l.length (l.length + 8), .slice (some ad) l.length c] w fun e w' => e = .returned (.bool true) ∧ Kept (fun x => x = nb) w w' ∧ w'.heap.size = w.heap.size ∧ (∀ i, i < l.length + 8 → w'.cell? ⟨nb, i, none⟩ = some (.int .i64 2)) := by
  have hq := fun w' => eql_nil w' (some ad) l.length c
  have HL := hide hL
  have HC := hide hc
  clear hL hc
  have bb1 : (l.length : Int) + 8 ≤ (l.length : Int) + 8 := by omega
  go_enter Tryz.func133, Tryz.ntmps133
  go_wp2_with fail
  go_loopw [7, 8] (fun ov iv w' => ∃ i : Nat, i ≤ l.length + 8 ∧ ov = .bool true ∧ iv = .int .i64 i ∧ Kept (fun x => x = nb) w w' ∧ w'.heap.size = w.heap.size ∧ (∀ j, j < i → w'.cell? ⟨nb, j, none⟩ = some (.int .i64 2)) ∧ (∀ j, i ≤ j → w'.cell? ⟨nb, j, none⟩ = w.cell? ⟨nb, j, none⟩) ∧ ∀ j, w'.frozen? ⟨nb, j, none⟩ = false) (fun _ iv _ => l.length + 8 - (intOf iv).toNat)
  case atStart => exact ⟨0, by omega, rfl, rfl, Kept.refl _ _, rfl, fun j hj => by omega, fun j _ => rfl, HL.out.soft⟩
  case round =>
    obtain ⟨i, hi, rfl, rfl, kk, sz, r1, r2, r3⟩ := hrel
    have HK := hide kk
    have HS := hide sz
    have HR1 := hide r1
    have HR2 := hide r2
    have HR3 := hide r3
    have f3 := r3
    clear kk sz r1 r2 r3
    by_cases hlt : i < l.length + 8
    · have bi : (i : Int) < (l.length : Int) + 8 := by omega
      have hfin : ∀ v, wr.cell? ⟨nb, i, none⟩ = some v → (∃ i' : Nat, i' ≤ l.length + 8 ∧ Value.bool true = .bool true ∧ Value.int .i64 ((i : Int) + 1) = .int .i64 i' ∧ Kept (fun x => x = nb) w (wr.setCell ⟨nb, i, none⟩ (.int .i64 2)) ∧ (wr.setCell ⟨nb, i, none⟩ (.int .i64 2)).heap.size = w.heap.size ∧ (∀ j, j < i' → (wr.setCell ⟨nb, i, none⟩ (.int .i64 2)).cell? ⟨nb, j, none⟩ = some (.int .i64 2)) ∧ (∀ j, i' ≤ j → (wr.setCell ⟨nb, i, none⟩ (.int .i64 2)).cell? ⟨nb, j, none⟩ = w.cell? ⟨nb, j, none⟩) ∧ ∀ j, (wr.setCell ⟨nb, i, none⟩ (.int .i64 2)).frozen? ⟨nb, j, none⟩ = false) := fun v hv => by
        have off : ∀ {x : Nat}, i ≠ x → (⟨nb, i, none⟩ : Addr) ≠ ⟨nb, x, none⟩ := fun h e => h (congrArg Addr.off e)
        refine ⟨i + 1, by omega, rfl, by go_num, HK.out.setCell (Or.inl rfl) _, by rw [World.size_setCell]; exact HS.out, fun j hj => ?_, fun j hj => ?_, fun j => by rw [World.frozen?_setCell]; exact HR3.out j⟩
        · by_cases e : j = i
          · subst e; exact World.cell?_setCell_same _ _ _ hv
          · rw [World.cell?_setCell_other _ _ _ _ (off (fun e2 => e e2.symm))]; exact HR1.out j (by omega)
        · rw [World.cell?_setCell_other _ _ _ _ (off (by omega))]; exact HR2.out j (by omega)
      have HF := hide hfin
      clear hfin
      by_cases hn : i < l.length
      · obtain ⟨b, o, rfl, hne, hcc⟩ := HC.out (by omega)
        have bn : (i : Int) < (l.length : Int) := by omega
        have c1 : wr.cell? ⟨nb, i, none⟩ = some (.int .i64 (l.getD i 0)) := by rw [HR2.out i (Nat.le_refl _)]; exact HL.out.row i hn
        have c2 : wr.cell? ⟨b, o + i, none⟩ = some (.int .i64 (l.getD i 0)) := by
          have h1 := hcc i hn
          have hb := World.block_lt_of_cell? _ _ h1
          rw [cell_of (HK.out.block b hb hne)]; exact h1
        have HF2 := hide (HF.out _ c1)
        clear hcc
        generalize l.getD i 0 = x at *
        go_wp2_with fail
        exact ⟨HF2.out, by simp [intOf]; omega⟩
      · have bn : ¬ (i : Int) < (l.length : Int) := by omega
        have c1 : wr.cell? ⟨nb, i, none⟩ = some (.int .i64 77) := by rw [HR2.out i (Nat.le_refl _)]; exact HL.out.behind i (by omega) hlt
        have HF2 := hide (HF.out _ c1)
        go_wp2_with fail
        exact ⟨HF2.out, by simp [intOf]; omega⟩
    · have bi : ¬ (i : Int) < (l.length : Int) + 8 := by omega
      go_wp2_with fail
      go_ret
      exact ⟨rfl, HK.out, HS.out, fun j hj => HR1.out j (by omega)⟩
end Go.Proofs.YtcnmfljpmpgnjaaGreatDoor

namespace Go.Proofs.YtcnmfljpmpgnjaaGreatDoor
open Go.RowKit
open Tm (H Ob Sl Why)

/-- Lists of numbers that came in, list by list. -/
structure ClsF (w : World) (B b o : Nat) (rp : Nat → Option Addr) (rc : Nat → Nat) (cl : List (List Int)) : Prop where
  lt : 0 < cl.length → b < B
  row : ∀ i, i < cl.length → w.cell? ⟨b, o + i, none⟩ = some (.slice (rp i) (cl.getD i []).length (rc i))
  nil : ∀ i, i < cl.length → rp i = none → cl.getD i [] = []
  len : ∀ i, i < cl.length → (cl.getD i []).length ≤ 17592186044416
  ints : ∀ i, i < cl.length → 0 < (cl.getD i []).length → ∃ b' o', rp i = some ⟨b', o', none⟩ ∧ b' < B ∧ ∀ j, j < (cl.getD i []).length → w.cell? ⟨b', o' + j, none⟩ = some (.int .i64 ((cl.getD i []).getD j 0))

theorem ClsF.below {w w' : World} {B b o : Nat} {rp : Nat → Option Addr} {rc : Nat → Nat} {cl : List (List Int)} (h : ClsF w B b o rp rc cl) (hb : Below B w w') : ClsF w' B b o rp rc cl :=
  ⟨h.lt, fun i hi => by rw [hb.cell (h.lt (by omega))]; exact h.row i hi, h.nil, h.len, fun i hi h0 => by
    obtain ⟨b', o', q1, q2, q3⟩ := h.ints i hi h0
    exact ⟨b', o', q1, q2, fun j hj => by rw [hb.cell q2]; exact q3 j hj⟩⟩

/-- What is lent of the i-th list. -/
def uV (rp : Nat → Option Addr) (nb : Nat → Nat) (cl : List (List Int)) (i : Nat) : Value :=
  if (rp i).isNone then .slice none 0 0 else .slice (some ⟨nb i, 0, none⟩) (cl.getD i []).length ((cl.getD i []).length + 8)

structure LentC (w : World) (N lb mb : Nat) (rp : Nat → Option Addr) (nb : Nat → Nat) (cl : List (List Int)) (i : Nat) : Prop where
  l1 : ∀ j, j < i → w.cell? ⟨lb, j, none⟩ = some (uV rp nb cl j)
  l2 : ∀ j, i ≤ j → j < cl.length + 8 → w.cell? ⟨lb, j, none⟩ = some (.slice none 0 0)
  m1 : ∀ j, j < i → w.cell? ⟨mb, j, none⟩ = some (uV rp nb cl j)
  m2 : ∀ j, i ≤ j → j < cl.length → w.cell? ⟨mb, j, none⟩ = some (.slice none 0 0)
  soft : ∀ j, w.frozen? ⟨lb, j, none⟩ = false ∧ w.frozen? ⟨mb, j, none⟩ = false
  lent : ∀ j, j < i → (rp j).isNone = false → Lent w (nb j) (cl.getD j [])
  new : ∀ j, j < i → (rp j).isNone = false → N ≤ nb j ∧ nb j < w.heap.size ∧ nb j ≠ lb ∧ nb j ≠ mb
  inj : ∀ j k, j < i → k < i → j ≠ k → (rp j).isNone = false → (rp k).isNone = false → nb j ≠ nb k

theorem LentC.congr {w : World} {N lb mb : Nat} {rp : Nat → Option Addr} {nb nb' : Nat → Nat} {cl : List (List Int)} {i : Nat} (h : LentC w N lb mb rp nb cl i) (he : ∀ j, j < i → nb' j = nb j) : LentC w N lb mb rp nb' cl i := by
  have hu : ∀ j, j < i → uV rp nb' cl j = uV rp nb cl j := fun j hj => by unfold uV; rw [he j hj]
  exact ⟨fun j hj => by rw [hu j hj]; exact h.l1 j hj, h.l2, fun j hj => by rw [hu j hj]; exact h.m1 j hj, h.m2, h.soft, fun j hj q => by rw [he j hj]; exact h.lent j hj q, fun j hj q => by rw [he j hj]; exact h.new j hj q, fun j k hj hk e q1 q2 => by rw [he j hj, he k hk]; exact h.inj j k hj hk e q1 q2⟩

theorem infoRows : (Tryz.prog.info? 24).map (fun i => (i.zero, i.size, i.bytes)) = some (some (.slice none 0 0), 1, 24) := by kernel_rfl
theorem make_rows (w : World) (n : Nat) (hn : n ≤ 8796093022300) :
    (Instr.makeSlice 61 (.int .i64 (n : Int)) (.int .i64 (n : Int))).run Tryz.prog w = .ok (.slice (some ⟨w.heap.size, 0, none⟩) n n) (w.alloc (.cells (madeCells #[.slice none 0 0] n) 24)) := by
  obtain ⟨i3, hi3, hz0, hz1, hz2⟩ := info_parts infoRows
  have := run_make (P := Tryz.prog) w 61 24 i3 _ Tryz.underlying61 hi3 hz0 .i64 .i64 (n : Int) (n : Int) (by omega) (by omega) (by rw [hz2]; omega) (by omega)
  rw [hz1, Nat.mul_one, Int.toNat_natCast] at this
  exact this
theorem made_rows (n i : Nat) (hi : i < n) : (madeCells #[Value.slice none 0 0] n)[i]? = some (.slice none 0 0) := by
  simp [madeCells, hi, Nat.mod_one]

set_option maxRecDepth 100000 in
set_option maxHeartbeats 4000000 in
theorem lent_nil (w : World) (r l g k : Int) (c : Nat) :
    Calls Tryz.prog 103 #[.agg #[.int .i64 r, .int .i64 l, .int .i64 g, .int .i64 k, .slice none 0 c]] w fun e w' => e = .returned (.tuple #[.agg #[.int .i64 r, .int .i64 l, .int .i64 g, .int .i64 k, .slice none 0 c], .slice none 0 0]) ∧ Below w.heap.size w w' := by
  have hq := fun w' => eql_nil2 w' none 0 c
  go_enter Tryz.func103, Tryz.ntmps103
  go_wp2_with fail
  refine bodyPost_ret (v := .tuple #[.agg #[.int .i64 r, .int .i64 l, .int .i64 g, .int .i64 k, .slice none 0 c], .slice none 0 0]) (by simp [results, Tryz.results103, go_sem]) rfl ⟨rfl, ?_⟩
  repeat (first | exact Below.alloc0 _ _ | refine Below.drew ?_ | refine Below.setCell ?_ (by simp) _ | refine Below.alloc ?_ (by simp; try omega) _)

def LentPost (w : World) (r l g k : Int) (rp : Nat → Option Addr) (cl : List (List Int)) (e : Ending) (w' : World) : Prop :=
  ∃ lb mb nb, e = .returned (.tuple #[.agg #[.int .i64 r, .int .i64 l, .int .i64 g, .int .i64 k, .slice (some ⟨lb, 0, none⟩) cl.length (cl.length + 8)], .slice (some ⟨mb, 0, none⟩) cl.length cl.length]) ∧ Below w.heap.size w w' ∧ LentC w' w.heap.size lb mb rp nb cl cl.length ∧ w.heap.size ≤ lb ∧ w.heap.size ≤ mb ∧ lb ≠ mb ∧ lb < w'.heap.size ∧ mb < w'.heap.size

theorem LentC.same {w w' : World} {N N' lb mb : Nat} {rp : Nat → Option Addr} {nb : Nat → Nat} {cl : List (List Int)} {i : Nat} (h : LentC w N lb mb rp nb cl i) (he : ∀ b, N ≤ b → b < w.heap.size → w'.heap[b]? = w.heap[b]?) (h1 : N ≤ lb ∧ lb < w.heap.size) (h2 : N ≤ mb ∧ mb < w.heap.size) (hN : N' ≤ N) (hz : w.heap.size ≤ w'.heap.size) : LentC w' N' lb mb rp nb cl i := by
  have el := he lb h1.1 h1.2
  have em := he mb h2.1 h2.2
  refine ⟨fun j hj => by rw [cell_of el]; exact h.l1 j hj, fun j a b => by rw [cell_of el]; exact h.l2 j a b, fun j hj => by rw [cell_of em]; exact h.m1 j hj, fun j a b => by rw [cell_of em]; exact h.m2 j a b, fun j => by rw [frozen_of el, frozen_of em]; exact h.soft j, fun j hj q => ?_, fun j hj q => ?_, h.inj⟩
  · have hn := h.new j hj q
    exact (h.lent j hj q).at (he _ hn.1 hn.2.1) hz
  · have hn := h.new j hj q
    exact ⟨by omega, by omega, hn.2.2⟩

theorem lentPost_of {w wr w' : World} {r l g k : Int} {rp : Nat → Option Addr} {nb : Nat → Nat} {cl : List (List Int)} (hb : Below w.heap.size w wr) (lc : LentC wr (w.heap.size + 3) (w.heap.size + 1 + 1 + 1) (w.heap.size + 1 + 1 + 1 + 1) rp nb cl cl.length) (hz : w.heap.size + 5 ≤ wr.heap.size)
    (kk : Kept (fun x => x = w.heap.size + 1 ∨ x = w.heap.size + 1 + 1) wr w') :
    LentPost w r l g k rp cl (.returned (.tuple #[.agg #[.int .i64 r, .int .i64 l, .int .i64 g, .int .i64 k, .slice (some ⟨w.heap.size + 1 + 1 + 1, 0, none⟩) cl.length (cl.length + 8)], .slice (some ⟨w.heap.size + 1 + 1 + 1 + 1, 0, none⟩) cl.length cl.length])) w' := by
  have hs := kk.size
  refine ⟨w.heap.size + 1 + 1 + 1, w.heap.size + 1 + 1 + 1 + 1, nb, rfl, hb.trans ⟨kk.os, kk.tape, kk.output, kk.size, fun b hb' => kk.block b (by omega) (by omega)⟩, lc.same (fun b h1 h2 => kk.block b h2 (by omega)) ⟨by omega, by omega⟩ ⟨by omega, by omega⟩ (by omega) hs, by omega, by omega, by omega, by omega, by omega⟩

set_option maxRecDepth 100000 in
set_option maxHeartbeats 4000000 in
theorem lent_any (w : World) (B b o c : Nat) (r l g k : Int) (rp : Nat → Option Addr) (rc : Nat → Nat) (cl : List (List Int)) (hB : B ≤ w.heap.size) (hlen : cl.length ≤ 8796093022208) (hc : ClsF w B b o rp rc cl) (ad : Addr) (had : 0 < cl.length → ad = ⟨b, o, none⟩) :
    Calls Tryz.prog 103 #[.agg #[.int .i64 r, .int .i64 l, .int .i64 g, .int .i64 k, .slice (some ad) cl.length c]] w (LentPost w r l g k rp cl) := by
  have hq := fun w' => eql_nil2 w' (some ad) cl.length c
  have hm1 : ∀ w', (Instr.makeSlice 61 (.int .i64 ((cl.length : Int) + 8)) (.int .i64 ((cl.length : Int) + 8))).run Tryz.prog w' = .ok (.slice (some ⟨w'.heap.size, 0, none⟩) (cl.length + 8) (cl.length + 8)) (w'.alloc (.cells (madeCells #[.slice none 0 0] (cl.length + 8)) 24)) := fun w' => by
    have := make_rows w' (cl.length + 8) (by omega)
    rw [show ((cl.length + 8 : Nat) : Int) = (cl.length : Int) + 8 from by omega] at this
    exact this
  have hm2 := fun w' => make_rows w' cl.length (by omega)
  have HC := hide hc
  clear hc
  have bb1 : (cl.length : Int) ≤ (cl.length : Int) + 8 := by omega
  go_enter Tryz.func103, Tryz.ntmps103
  go_wp2_with fail
  go_loopw [8] (fun iv w' => ∃ (i : Nat) (nb : Nat → Nat), i ≤ cl.length ∧ iv = .int .i64 i ∧ Below (w.heap.size + 3) (((w.alloc (.cells #[.int .i64 r, .int .i64 l, .int .i64 g, .int .i64 k, .slice (some ad) cl.length c] 63)).alloc (.cells #[.int .i64 0, .int .i64 0, .int .i64 0, .int .i64 0, .slice none 0 0] 63)).alloc (.cells #[.int .i64 r, .int .i64 l, .int .i64 g, .int .i64 k, .slice (some ad) cl.length c] 63)) w' ∧ LentC w' (w.heap.size + 3) (w.heap.size + 1 + 1 + 1) (w.heap.size + 1 + 1 + 1 + 1) rp nb cl i ∧ w.heap.size + 5 ≤ w'.heap.size) (fun iv _ => cl.length - (intOf iv).toNat)
  case atStart =>
    refine ⟨0, fun _ => 0, by omega, rfl, ?_, ⟨fun j hj => by omega, fun j _ hj => ?_, fun j hj => by omega, fun j _ hj => ?_, fun j => ⟨?_, ?_⟩, fun j hj => by omega, fun j hj => by omega, fun j k hj => by omega⟩, by simp⟩
    · exact (Below.refl _ _).alloc (by simp) _ |>.alloc (by simp) _
    · rw [World.cell?_alloc_past _ _ _ (by simp), World.cell?_alloc_at _ _ _ _ (by simp)]; exact made_rows _ _ hj
    · rw [World.cell?_alloc_at _ _ _ _ (by simp)]; exact made_rows _ _ hj
    · rw [World.frozen?_alloc_past _ _ _ (by simp)]; exact World.frozen?_alloc_at _ _ _ _ (by simp)
    · exact World.frozen?_alloc_at _ _ _ _ (by simp)
  case round =>
    obtain ⟨i, nb, hi, rfl, bl, lc, hsz⟩ := hrel
    have cb4 : wr.cell? ⟨w.heap.size, 4, none⟩ = some (.slice (some ad) cl.length c) := by
      rw [bl.cell (by show w.heap.size < _; omega), World.cell?_alloc_past _ _ _ (by simp; omega), World.cell?_alloc_past _ _ _ (by simp), World.cell?_alloc_new]; rfl
    have HBl := hide bl
    have HLc := hide lc
    clear bl lc
    by_cases hlt : i < cl.length
    · obtain rfl := had (by omega)
      have HCi : Hid (ClsF wr B b o rp rc cl) := HC.out.below (((Below.alloc0 w _).mono hB |>.trans (((Below.refl _ _).alloc (by simp; omega) _).trans ((Below.refl _ _).alloc (by simp; omega) _))).trans (HBl.out.mono (by omega)))
      have crow := HCi.out.row i hlt
      have HNil := hide (HCi.out.nil i hlt)
      have hlen2 := HCi.out.len i hlt
      have HInts := hide (HCi.out.ints i hlt)
      have bi : (i : Int) < (cl.length : Int) := by omega
      have bi8 : (i : Int) < (cl.length : Int) + 8 := by omega
      have f1 := (HLc.out.soft i).1
      have f2 := (HLc.out.soft i).2
      have cl2 := HLc.out.l2 i (Nat.le_refl _) (by omega)
      have cm2 := HLc.out.m2 i (Nat.le_refl _) hlt
      have hl3 : w.heap.size + 1 + 1 + 1 < wr.heap.size := by omega
      have hl4 : w.heap.size + 1 + 1 + 1 + 1 < wr.heap.size := by omega
      -- what the round leaves, whatever was lent
      have hend : ∀ (w2 : World) (u : Value), Below wr.heap.size wr w2 → wr.heap.size ≤ w2.heap.size → (u = .slice none 0 0 ∧ (rp i).isNone = true ∨ u = .slice (some ⟨wr.heap.size, 0, none⟩) (cl.getD i []).length ((cl.getD i []).length + 8) ∧ (rp i).isNone = false ∧ w2.heap.size = wr.heap.size + 1 ∧ Lent w2 wr.heap.size (cl.getD i [])) →
          ∃ (i' : Nat) (nb' : Nat → Nat), i' ≤ cl.length ∧ Value.int .i64 ((i : Int) + 1) = .int .i64 i' ∧ Below (w.heap.size + 3) (((w.alloc (.cells #[.int .i64 r, .int .i64 l, .int .i64 g, .int .i64 k, .slice (some ⟨b, o, none⟩) cl.length c] 63)).alloc (.cells #[.int .i64 0, .int .i64 0, .int .i64 0, .int .i64 0, .slice none 0 0] 63)).alloc (.cells #[.int .i64 r, .int .i64 l, .int .i64 g, .int .i64 k, .slice (some ⟨b, o, none⟩) cl.length c] 63)) ((w2.setCell ⟨w.heap.size + 1 + 1 + 1, i, none⟩ u).setCell ⟨w.heap.size + 1 + 1 + 1 + 1, i, none⟩ u) ∧ LentC ((w2.setCell ⟨w.heap.size + 1 + 1 + 1, i, none⟩ u).setCell ⟨w.heap.size + 1 + 1 + 1 + 1, i, none⟩ u) (w.heap.size + 3) (w.heap.size + 1 + 1 + 1) (w.heap.size + 1 + 1 + 1 + 1) rp nb' cl i' ∧ w.heap.size + 5 ≤ ((w2.setCell ⟨w.heap.size + 1 + 1 + 1, i, none⟩ u).setCell ⟨w.heap.size + 1 + 1 + 1 + 1, i, none⟩ u).heap.size := by
        intro w2 u hb hz hu
        have lc := HLc.out.congr (nb' := fun j => if j = i then wr.heap.size else nb j) (fun j hj => by rw [if_neg (by omega)])
        have off : ∀ {a b x y : Nat}, a ≠ b → (⟨a, x, none⟩ : Addr) ≠ ⟨b, y, none⟩ := fun h e => h (congrArg Addr.block e)
        have offx : ∀ {a x y : Nat}, x ≠ y → (⟨a, x, none⟩ : Addr) ≠ ⟨a, y, none⟩ := fun h e => h (congrArg Addr.off e)
        have hui : u = uV rp (fun j => if j = i then wr.heap.size else nb j) cl i := by
          unfold uV
          rcases hu with ⟨q1, q2⟩ | ⟨q1, q2, _⟩
          · rw [q1, if_pos q2]
          · rw [q1, if_neg (by rw [q2]; simp)]; simp
        have hcell : ∀ x y, x < wr.heap.size → w2.cell? ⟨x, y, none⟩ = wr.cell? ⟨x, y, none⟩ := fun x y hx => hb.cell hx
        have hlb : ∀ j, j ≠ i → ((w2.setCell ⟨w.heap.size + 1 + 1 + 1, i, none⟩ u).setCell ⟨w.heap.size + 1 + 1 + 1 + 1, i, none⟩ u).cell? ⟨w.heap.size + 1 + 1 + 1, j, none⟩ = wr.cell? ⟨w.heap.size + 1 + 1 + 1, j, none⟩ := fun j hj => by
          rw [World.cell?_setCell_other _ _ _ _ (off (by omega)), World.cell?_setCell_other _ _ _ _ (offx (fun e => hj e.symm)), hcell _ _ hl3]
        have hmb : ∀ j, j ≠ i → ((w2.setCell ⟨w.heap.size + 1 + 1 + 1, i, none⟩ u).setCell ⟨w.heap.size + 1 + 1 + 1 + 1, i, none⟩ u).cell? ⟨w.heap.size + 1 + 1 + 1 + 1, j, none⟩ = wr.cell? ⟨w.heap.size + 1 + 1 + 1 + 1, j, none⟩ := fun j hj => by
          rw [World.cell?_setCell_other _ _ _ _ (offx (fun e => hj e.symm)), World.cell?_setCell_other _ _ _ _ (off (by omega)), hcell _ _ hl4]
        have hblk : ∀ x, x ≠ w.heap.size + 1 + 1 + 1 → x ≠ w.heap.size + 1 + 1 + 1 + 1 → ((w2.setCell ⟨w.heap.size + 1 + 1 + 1, i, none⟩ u).setCell ⟨w.heap.size + 1 + 1 + 1 + 1, i, none⟩ u).heap[x]? = w2.heap[x]? := fun x h1 h2 => by
          rw [Below.heap_setCell _ _ _ _ (by simpa using h2), Below.heap_setCell _ _ _ _ (by simpa using h1)]
        have hsz' : ((w2.setCell ⟨w.heap.size + 1 + 1 + 1, i, none⟩ u).setCell ⟨w.heap.size + 1 + 1 + 1 + 1, i, none⟩ u).heap.size = w2.heap.size := by simp
        refine ⟨i + 1, fun j => if j = i then wr.heap.size else nb j, by omega, by go_num, ?_, ⟨fun j hj => ?_, fun j h1 h2 => ?_, fun j hj => ?_, fun j h1 h2 => ?_, fun j => ?_, fun j hj q => ?_, fun j hj q => ?_, fun j k hj hk e q1 q2 => ?_⟩, by rw [hsz']; omega⟩
        · exact ((HBl.out.trans (hb.mono (by omega))).setCell (by simp) _).setCell (by simp) _
        · by_cases e : j = i
          · subst e
            rw [World.cell?_setCell_other _ _ _ _ (off (by omega)), World.cell?_setCell_same _ _ _ (by rw [hcell _ _ hl3]; exact cl2), hui]
          · rw [hlb j e]; exact lc.l1 j (by omega)
        · rw [hlb j (by omega)]; exact lc.l2 j (by omega) h2
        · by_cases e : j = i
          · subst e
            rw [World.cell?_setCell_same _ _ _ (by rw [World.cell?_setCell_other _ _ _ _ (off (by omega)), hcell _ _ hl4]; exact cm2), hui]
          · rw [hmb j e]; exact lc.m1 j (by omega)
        · rw [hmb j (by omega)]; exact lc.m2 j (by omega) h2
        · rw [World.frozen?_setCell, World.frozen?_setCell, World.frozen?_setCell, World.frozen?_setCell, hb.frozen hl3, hb.frozen hl4]; exact lc.soft j
        · by_cases e : j = i
          · subst e
            rcases hu with ⟨_, q2⟩ | ⟨_, _, _, q4⟩
            · rw [q2] at q; cases q
            · simp only [if_true]
              exact q4.at (hblk _ (by omega) (by omega)) (by rw [hsz']; exact Nat.le_refl _)
          · simp only [if_neg e]
            have h1 := HLc.out.lent j (by omega) q
            have h2 := HLc.out.new j (by omega) q
            exact h1.at (by rw [hblk _ h2.2.2.1 h2.2.2.2, hb.block _ h2.2.1]) (by rw [hsz']; omega)
        · by_cases e : j = i
          · subst e
            rcases hu with ⟨_, q2⟩ | ⟨_, _, q3, _⟩
            · rw [q2] at q; cases q
            · simp only [if_true]; exact ⟨by omega, by rw [hsz']; omega, by omega, by omega⟩
          · simp only [if_neg e]
            have h2 := HLc.out.new j (by omega) q
            exact ⟨h2.1, by rw [hsz']; omega, h2.2.2.1, h2.2.2.2⟩
        · by_cases e1 : j = i
          · subst e1
            have e2 : k ≠ j := fun x => e x.symm
            simp only [if_true, if_neg e2]
            have := (HLc.out.new k (by omega) q2).2.1
            omega
          · by_cases e2 : k = i
            · subst e2
              simp only [if_true, if_neg e1]
              have := (HLc.out.new j (by omega) q1).2.1
              omega
            · simp only [if_neg e1, if_neg e2]
              exact HLc.out.inj j k (by omega) (by omega) e q1 q2
      have HEnd := hide hend
      clear hend
      obtain ⟨rpi, erp⟩ : ∃ x, rp i = x := ⟨_, rfl⟩
      rw [erp] at crow HNil HInts
      have ERP := hide erp
      clear erp
      obtain ⟨row, erow⟩ : ∃ x, cl.getD i [] = x := ⟨_, rfl⟩
      rw [erow] at crow hlen2 HNil HInts
      have EROW := hide erow
      clear erow
      cases rpi with
      | none =>
        have hr0 := HNil.out rfl
        subst hr0
        go_wp2_with fail
        refine (lentInts_nil _ _).mono ?_
        rintro e w2 ⟨rfl, rfl⟩
        go_wp2_with fail
        exact ⟨HEnd.out _ _ (Below.refl _ _) (Nat.le_refl _) (Or.inl ⟨rfl, by rw [ERP.out]; rfl⟩), by simp [intOf]; omega⟩
      | some ad =>
        have HLI := hide (lentInts_any wr ad (rc i) row hlen2 (fun h0 => by
          obtain ⟨b', o', q1, q2, q3⟩ := HInts.out h0
          exact ⟨b', o', Option.some.inj q1, by omega, q3⟩))
        go_wp2_with fail
        refine HLI.out.mono ?_
        rintro e w2 ⟨rfl, hb2, hs2, hl2⟩
        have HB2 := hide hb2
        have HS2 := hide hs2
        have HL2 := hide hl2
        have cl2' : w2.cell? ⟨w.heap.size + 1 + 1 + 1, i, none⟩ = some (.slice none 0 0) := by rw [hb2.cell hl3]; exact cl2
        have cm2' : w2.cell? ⟨w.heap.size + 1 + 1 + 1 + 1, i, none⟩ = some (.slice none 0 0) := by rw [hb2.cell hl4]; exact cm2
        have f1' : w2.frozen? ⟨w.heap.size + 1 + 1 + 1, i, none⟩ = false := by rw [hb2.frozen hl3]; exact f1
        have f2' : w2.frozen? ⟨w.heap.size + 1 + 1 + 1 + 1, i, none⟩ = false := by rw [hb2.frozen hl4]; exact f2
        clear hb2 hs2 hl2
        go_wp2_with fail
        exact ⟨HEnd.out w2 _ HB2.out (by rw [HS2.out]; omega) (Or.inr ⟨by rw [EROW.out], by rw [ERP.out]; rfl, HS2.out, by rw [EROW.out]; exact HL2.out⟩), by simp [intOf]; omega⟩
    · have bi : ¬ (i : Int) < (cl.length : Int) := by omega
      have ei : i = cl.length := by omega
      have HLF : Hid (LentC wr (w.heap.size + 3) (w.heap.size + 1 + 1 + 1) (w.heap.size + 1 + 1 + 1 + 1) rp nb cl cl.length) := by
        have := HLc.out; rw [ei] at this; exact this
      clear ei
      have hn1 : w.heap.size + 1 + 1 < wr.heap.size := by omega
      have hn2 : w.heap.size + 1 < wr.heap.size := by omega
      have q2 : ∀ x u, (#[.int .i64 r, .int .i64 l, .int .i64 g, .int .i64 k, .slice (some ad) cl.length c] : Array Value)[x]? = some u → wr.cell? ⟨w.heap.size + 1 + 1, x, none⟩ = some u := fun x u hu => by
        rw [HBl.out.cell (by show w.heap.size + 1 + 1 < _; omega), World.cell?_alloc_at _ _ _ _ (by simp)]; exact hu
      have q1 : ∀ x u, (#[.int .i64 0, .int .i64 0, .int .i64 0, .int .i64 0, .slice none 0 0] : Array Value)[x]? = some u → wr.cell? ⟨w.heap.size + 1, x, none⟩ = some u := fun x u hu => by
        rw [HBl.out.cell (by show w.heap.size + 1 < _; omega), World.cell?_alloc_past _ _ _ (by simp), World.cell?_alloc_at _ _ _ _ (by simp)]; exact hu
      have a0 := q2 0 _ rfl
      have a1 := q2 1 _ rfl
      have a2 := q2 2 _ rfl
      have a3 := q2 3 _ rfl
      have a4 := q2 4 _ rfl
      have z0 := q1 0 _ rfl
      have z1 := q1 1 _ rfl
      have z2 := q1 2 _ rfl
      have z3 := q1 3 _ rfl
      have z4 := q1 4 _ rfl
      have fz2 : ∀ x, wr.frozen? ⟨w.heap.size + 1 + 1, x, none⟩ = false := fun x => by
        rw [HBl.out.frozen (by show w.heap.size + 1 + 1 < _; omega)]; exact World.frozen?_alloc_at _ _ _ _ (by simp)
      have fz1 : ∀ x, wr.frozen? ⟨w.heap.size + 1, x, none⟩ = false := fun x => by
        rw [HBl.out.frozen (by show w.heap.size + 1 < _; omega), World.frozen?_alloc_past _ _ _ (by simp)]; exact World.frozen?_alloc_at _ _ _ _ (by simp)
      have HB0 : Hid (Below w.heap.size w wr) := ((Below.alloc0 w _).trans (((Below.refl _ _).alloc (by simp) _).trans ((Below.refl _ _).alloc (by simp; omega) _))).trans (HBl.out.mono (by omega))
      clear q1 q2 cb4
      go_wp2_with fail
      refine bodyPost_ret (v := .tuple #[.agg #[.int .i64 r, .int .i64 l, .int .i64 g, .int .i64 k, .slice (some ⟨w.heap.size + 1 + 1 + 1, 0, none⟩) cl.length (cl.length + 8)], .slice (some ⟨w.heap.size + 1 + 1 + 1 + 1, 0, none⟩) cl.length cl.length]) (by simp [results, Tryz.results103, go_sem, z0, z1, z2, z3, z4]) rfl ?_
      refine lentPost_of HB0.out HLF.out (by omega) ?_
      repeat (first | exact Kept.refl _ _ | refine Kept.setCell ?_ (Or.inl (Or.inl rfl)) _ | refine Kept.setCell ?_ (Or.inl (Or.inr rfl)) _)
end Go.Proofs.YtcnmfljpmpgnjaaGreatDoor
